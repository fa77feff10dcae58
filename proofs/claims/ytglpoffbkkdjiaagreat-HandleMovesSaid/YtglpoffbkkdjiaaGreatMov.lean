import Derived.Test.YtglpoffbkkdjiaaGreatLw16
namespace Go.Proofs.YtglpoffbkkdjiaaGreat
open Go.RowKit Go.OpenShut
abbrev byO (d:Nat):Obj:=.cells #[.int .u8 (d:Nat)] 5
set_option maxRecDepth 100000 in
set_option maxHeartbeats 1000000 in
theorem move1_at (w:World) (b d p:Nat) (h:At w b (byO d)) (hd:d ≤ 255) (hp:p < 4000) :
  Calls Tryz.prog 17 #[.int .i64 (p:Nat),ptr b] w fun e w' => e = .returned (.int .i64 (p + 1 + d:Nat)) ∧ w' = w:=by
 have c0:=h.cell 0 rfl
 have h1:(p:Int) < 4000:=by omega
 have h2:(d:Int) ≤ 255:=by omega
 have e:((p + 1 + d:Nat):Int) = (p:Int) + 1 + (d:Int):=by omega
 rw [e]
 clear h e
 go_enter Tryz.func17,Tryz.ntmps17
 go_wp2_with fail
 go_ret
 exact ⟨rfl,rfl⟩
set_option maxRecDepth 100000 in
set_option maxHeartbeats 1000000 in
theorem move2_at (w:World) (b d p:Nat) (h:At w b (byO d)) (hd:d ≤ 255) (hp:p < 4000) (hdp:1 + d ≤ p) :
  Calls Tryz.prog 18 #[.int .i64 (p:Nat),ptr b] w fun e w' => e = .returned (.int .i64 (p - 1 - d:Nat)) ∧ w' = w:=by
 have c0:=h.cell 0 rfl
 have h1:(p:Int) < 4000:=by omega
 have h2:(d:Int) ≤ 255:=by omega
 have e:((p - 1 - d:Nat):Int) = (p:Int) - 1 - (d:Int):=by omega
 rw [e]
 clear h e
 go_enter Tryz.func18,Tryz.ntmps18
 go_wp2_with fail
 go_ret
 exact ⟨rfl,rfl⟩
set_option maxRecDepth 100000 in
set_option maxHeartbeats 1000000 in
theorem move3_at (w:World) (b d p:Nat) (h:At w b (byO d)) (hd:d ≤ 255) (hp:p < 4000) :
  Calls Tryz.prog 19 #[.int .i64 (p:Nat),ptr b] w fun e w' => e = .returned (.int .i64 (if p = 1 + d then 0 else p:Nat)) ∧ w' = w:=by
 have c0:=h.cell 0 rfl
 have h1:(p:Int) < 4000:=by omega
 have h2:(d:Int) ≤ 255:=by omega
 by_cases hpd:p = 1 + d
 ·have e:((p:Nat):Int) = 1 + (d:Int):=by omega
  rw [if_pos hpd,e]
  clear h e hpd h1 hp
  go_enter Tryz.func19,Tryz.ntmps19
  go_wp2_with fail
  go_ret
  exact ⟨rfl,rfl⟩
 ·have t1:((p:Int) == 1 + (d:Int)) = false:=by rw [beq_eq_false_iff_ne]; omega
  have t2:¬ (p:Int) = 1 + (d:Int):=by omega
  rw [if_neg hpd]
  clear h hpd
  go_enter Tryz.func19,Tryz.ntmps19
  go_wp2_with fail
  go_ret
  exact ⟨rfl,rfl⟩
theorem mover1 (b d:Nat) (hd:d ≤ 255):Mover 17 #[ptr b] (fun p => p + 1 + d) [b] (fun p => p < 4000) (fun _ w => At w b (byO d)) :=
 ⟨fun w p => by simp [go_sem],fun _ w w' S h hk hS => hk.at h (fun hb => hS b hb (by simp)),fun _ w p h _ hp => (move1_at w b d p h hd hp).mono (by rintro e w' ⟨rfl,rfl⟩; exact ⟨rfl,h,Keeps.refl _ _⟩)⟩
theorem mover2 (b d:Nat) (hd:d ≤ 255):Mover 18 #[ptr b] (fun p => p - 1 - d) [b] (fun p => p < 4000 ∧ 1 + d ≤ p) (fun _ w => At w b (byO d)) :=
 ⟨fun w p => by simp [go_sem],fun _ w w' S h hk hS => hk.at h (fun hb => hS b hb (by simp)),fun _ w p h _ hp => (move2_at w b d p h hd hp.1 hp.2).mono (by rintro e w' ⟨rfl,rfl⟩; exact ⟨rfl,h,Keeps.refl _ _⟩)⟩
theorem mover3 (b d:Nat) (hd:d ≤ 255):Mover 19 #[ptr b] (fun p => if p = 1 + d then 0 else p) [b] (fun p => p < 4000) (fun _ w => At w b (byO d)) :=
 ⟨fun w p => by simp [go_sem],fun _ w w' S h hk hS => hk.at h (fun hb => hS b hb (by simp)),fun _ w p h _ hp => (move3_at w b d p h hd hp).mono (by rintro e w' ⟨rfl,rfl⟩; exact ⟨rfl,h,Keeps.refl _ _⟩)⟩
theorem Pl.same {g:Nat → Nat} {E:Int → Option Value} (h:Pl g E) {i p:Nat} (hi:g i = p) (hp:p ≠ 0):Pl g (fun z:Int => if z = (p:Nat) then some (Value.int .i64 (i:Nat)) else E z):=by
 refine ⟨fun n h0 => ?_,fun z v hz => ?_⟩
 ·dsimp only
  by_cases hn:g n = p
  ·have:=h.uq (hi.trans hn.symm) (by omega)
   rw [hn,if_pos rfl,this]
  ·rw [if_neg (by omega)]; exact h.1 n h0
 ·dsimp only at hz
  split at hz
  ·rename_i hzp; exact ⟨i,by omega,by rw [hzp,hi]⟩
  ·exact h.2 z v hz
end Go.Proofs.YtglpoffbkkdjiaaGreat
