import Derived.Test.YtglpoffbkkdjiaaGreatTbm
import Derived.Test.YtglpoffbkkdjiaaGreatAwk16
namespace Go.Proofs.YtglpoffbkkdjiaaGreat
open Go.RowKit Go.OpenShut
def ReadsB (w:World) (x:Option Addr) (n:Nat) (F:Nat → Nat):Prop :=
 (n = 0 ∨ ∃ b off,x = some ⟨b,off,none⟩ ∧ b < w.heap.size ∧ ∀ i,i < n → w.cell? ⟨b,off + i,none⟩ = some (.int .u8 (F i:Nat))) ∧ ∀ i,F i ≤ 255
theorem readsB_any {w:World} {x:Option Addr} {n:Nat} {f:Nat → Int} (R:ReadsV (Value.int .u8) w x n f) (hw:∀ i,i < n → (Lit.int .u8 (f i)).wf = true):ReadsB w x n (fun i => if i < n then (f i).toNat else 0):=by
 refine ⟨?_,fun i => ?_⟩
 ·rcases R with h | ⟨b,off,rfl,hb,hc⟩
  ·exact .inl h
  ·refine .inr ⟨b,off,rfl,hb,fun i hi => ?_⟩
   have:=bounds_u8 (hw i hi)
   show _ = some (Value.int .u8 ((if i < n then (f i).toNat else 0:Nat):Int))
   rw [hc i hi,if_pos hi,Int.toNat_of_nonneg (by omega)]
 ·show (if i < n then (f i).toNat else 0) ≤ 255
  split
  ·rename_i hi
   have:=bounds_u8 (hw i hi)
   omega
  ·omega
theorem ReadsB.keep {w w':World} {x:Option Addr} {n:Nat} {F:Nat → Nat} {S:List Nat} (h:ReadsB w x n F) (hk:Keeps S w w') (hS:∀ b ∈ S,w.heap.size ≤ b):ReadsB w' x n F:=by
 refine ⟨?_,h.2⟩
 rcases h.1 with h | ⟨b,off,rfl,hb,hc⟩
 ·exact .inl h
 ·refine .inr ⟨b,off,rfl,Nat.lt_of_lt_of_le hb hk.size,fun i hi => ?_⟩
  rw [← hc i hi]
  exact hk.cell (p:=⟨b,off + i,none⟩) hb (fun hm => by have:=hS _ hm; dsimp only at this; omega)
set_option maxRecDepth 100000 in
set_option maxHeartbeats 1000000 in
theorem isNaN_at (w:World) (a:Int):Calls Tryz.prog 38 #[.int .i64 a] w fun e w' => e = .returned (.bool false) ∧ w' = w:=by
 go_enter Tryz.func38,Tryz.ntmps38
 go_wp2_with fail
 go_ret
 exact ⟨by simp,rfl⟩
set_option maxRecDepth 100000 in
set_option maxHeartbeats 1000000 in
theorem less_at (w:World) (a b:Int):Calls Tryz.prog 26 #[.int .i64 a, .int .i64 b] w fun e w' => e = .returned (.bool (decide (a < b))) ∧ w' = w:=by
 go_enter Tryz.func26,Tryz.ntmps26
 go_wp2_with fail
 refine (isNaN_at w a).mono ?_
 rintro e w1 ⟨rfl,rfl⟩
 go_wp2_with fail
 go_ret
 exact ⟨rfl,rfl⟩
set_option maxRecDepth 100000 in
set_option maxHeartbeats 1000000 in
theorem isSorted_at (w:World) (B:Nat) (x:Option Addr) (n cp:Nat) (f:Nat → Nat) (h:OwnI w B x cp n f) (hr:∀ i,i + 1 < n → f i ≤ f (i + 1)) (hn:n ≤ 100000) :
  Calls Tryz.prog 20 #[.slice x n cp] w fun e w' => e = .returned (.bool true) ∧ Keeps [] w w':=by
 have HR:=hid hr
 have HF:=hid h.form
 have hni:(n:Int) ≤ 100000:=by omega
 have hn0:(0:Int) ≤ (n:Int):=by omega
 clear h hr
 go_enter Tryz.func20,Tryz.ntmps20
 go_wp2_with fail
 go_loopg [3] n (fun r sl wr => ∃ k:Int,(k:Int) + 1 = r ∧ k < n ∧ sl = .int .i64 k ∧ Keeps [] w wr)
 case atStart => exact ⟨(n:Int) - 1,by omega,by omega,rfl,Keeps.refl _ _⟩
 case round =>
  obtain ⟨k,hk,hkn,rfl,hK⟩:=hrel
  by_cases h0:0 < k
  ·obtain ⟨j,rfl⟩:∃ j:Nat,k = (j:Int) + 1:=⟨(k - 1).toNat,by omega⟩
   obtain ⟨g,cur,rfl,hg,hA,hcur⟩:∃ g cur,x = some ⟨g,0,none⟩ ∧ B ≤ g ∧ At w g (.cells cur 3) ∧ ∀ i,i < n → cur[i]? = some (.int .i64 (f i:Nat)):=by
    rcases HF.out with ⟨_,h⟩ | h
    ·omega
    ·exact h
   have hAr:=hK.at hA (by simp)
   have d1:wr.cell? ⟨g,j + 1,none⟩ = some (.int .i64 (f (j + 1):Nat)):=hAr.cell (j + 1) (hcur (j + 1) (by omega))
   have d0:wr.cell? ⟨g,j,none⟩ = some (.int .i64 (f j:Nat)):=hAr.cell j (hcur j (by omega))
   have hle:=HR.out j (by omega)
   obtain ⟨a,ha⟩:∃ a,a = f (j + 1):=⟨_,rfl⟩
   obtain ⟨b,hb⟩:∃ b,b = f j:=⟨_,rfl⟩
   rw [← ha] at d1 hle
   rw [← hb] at d0 hle
   have L0:=hid (fun m => less_at (wr.drewN m) (a:Nat) (b:Nat))
   have t1:decide ((a:Int) < (b:Int)) = false:=decide_eq_false (by omega)
   rw [t1] at L0
   have h1:(j:Int) + 1 < (n:Int):=by omega
   have h2:(j:Int) < (n:Int):=by omega
   have h3:((j:Int) + 1).toNat = j + 1:=by omega
   have HK:=hid hK
   have HKG:=hid hk
   clear ha hb hle t1 hK hA hAr hcur hk
   go_wp2_with fail
   go_quiet ((go_at_call 26; exact Calls.quiet_of_same (L0.out _)))
   clear d0 d1 L0
   go_wp2_with fail
   go_roundg (gk - 1)
   case measure => have:=HKG.out; omega
   case rel => exact ⟨j,by have:=HKG.out; omega,by omega,by go_num,HK.out.drewN _⟩
  ·go_wp2_with fail
   go_ret
   exact ⟨rfl,hK⟩
set_option maxRecDepth 100000 in
set_option maxHeartbeats 1000000 in
theorem equalI_at (w:World) (B1 B2:Nat) (x y:Option Addr) (n c1 c2:Nat) (f g:Nat → Nat) (h1:OwnI w B1 x c1 n f) (h2:OwnI w B2 y c2 n g) (he:∀ i,i < n → f i = g i) (hn:n ≤ 100000) :
  Calls Tryz.prog 15 #[.slice x n c1, .slice y n c2] w fun e w' => e = .returned (.bool true) ∧ Keeps [] w w':=by
 have HE:=hid he
 have H1:=hid h1.form
 have H2:=hid h2.form
 have hni:(n:Int) ≤ 100000:=by omega
 clear h1 h2 he
 go_enter Tryz.func15,Tryz.ntmps15
 go_wp2_with fail
 go_loopg [13] n (fun r s wr => ∃ i:Nat,i + r = n ∧ s = .int .i64 i ∧ Keeps [] w wr)
 case atStart => exact ⟨0,by omega,rfl,Keeps.refl _ _⟩
 case round =>
  obtain ⟨i,hi,rfl,hK⟩:=hrel
  by_cases hlt:i < n
  ·obtain ⟨g1,cur1,rfl,_,hA1,hc1⟩:∃ g cur,x = some ⟨g,0,none⟩ ∧ B1 ≤ g ∧ At w g (.cells cur 3) ∧ ∀ i,i < n → cur[i]? = some (.int .i64 (f i:Nat)):=by
    rcases H1.out with ⟨_,h⟩ | h
    ·omega
    ·exact h
   obtain ⟨g2,cur2,rfl,_,hA2,hc2⟩:∃ b cur,y = some ⟨b,0,none⟩ ∧ B2 ≤ b ∧ At w b (.cells cur 3) ∧ ∀ i,i < n → cur[i]? = some (.int .i64 (g i:Nat)):=by
    rcases H2.out with ⟨_,h⟩ | h
    ·omega
    ·exact h
   have hii:(i:Int) < (n:Int):=by omega
   go_wp2_with fail
   refine wp_region_tail 8 (by kernel_rfl) (by kernel_rfl) ?_
   intro w2 hk2 hz2
   simp only [List.take_succ_cons,List.take_zero,List.drop_succ_cons,List.drop_zero]
   have d1:w2.cell? ⟨g1,i,none⟩ = some (.int .i64 (f i:Nat)):=((hK.trans hk2).at hA1 (by simp)).cell i (hc1 i hlt)
   have d2:w2.cell? ⟨g2,i,none⟩ = some (.int .i64 (f i:Nat)):=by rw [HE.out i hlt]; exact ((hK.trans hk2).at hA2 (by simp)).cell i (hc2 i hlt)
   repeat still_step
   refine wpStill_nil ?_
   clear d1 d2 hc1 hc2
   go_wp2_with fail
   go_roundg (n - (i + 1))
   case measure => omega
   case rel => exact ⟨i + 1,by omega,by go_num,hK.trans hk2⟩
  ·go_wp2_with fail
   go_ret
   exact ⟨rfl,hK⟩
theorem numL_full {m:Nat} {g:Nat → Nat} (hbd:∀ n,g n ≠ 0 → 1 ≤ n ∧ n ≤ m ∧ g n < 4000) (h:∀ n,1 ≤ n → n ≤ m → g n ≠ 0):numL m g = List.range' 1 m:=by
 have h1:(numL m g).Perm (List.range' 1 m):=by
  refine (List.perm_ext_iff_of_nodup ((numL_rise m g).imp fun h => by omega) List.nodup_range').2 fun z => ?_
  rw [numL_mem hbd,List.mem_range'_1]
  exact ⟨fun hz => by have:=hbd z hz; omega,fun hz => h z (by omega) (by omega)⟩
 exact h1.eq_of_pairwise (le:=fun x y:Nat => x < y) (fun a b _ _ h1 h2 => by omega) (numL_rise m g) List.pairwise_lt_range'
theorem htake_any (w:World) (x:Tb) (m:Nat) (g:Nat → Nat) (p:Nat) (h:TabW w x m g) (hp:p ≠ 0) (hp4:p < 4000) (hm:m < 1000) :
  Calls Tryz.prog 14 #[.pointer (some ⟨x.t,0,none⟩), .int .i64 (p:Nat)] w fun e w' => ∃ (t m1:Nat) (g1:Nat → Nat),e = .returned (.int .i64 (t:Nat)) ∧ TabW w' x m1 g1 ∧ g1 t = p ∧
   ((m1 = m ∧ g1 = g) ∨ (t = m + 1 ∧ m1 = m + 1 ∧ g1 = upd g (m + 1) p ∧ ∀ i,g i ≠ p)) ∧ Keeps x.bl w w':=by
 by_cases hex:∃ i,g i = p
 ·obtain ⟨i,hi⟩:=hex
  refine (htake_had w x m g i p h hi hp).mono ?_
  rintro e w' ⟨rfl,rfl⟩
  exact ⟨i,m,g,rfl,h,hi, .inl ⟨rfl,rfl⟩,Keeps.refl _ _⟩
 ·refine (htake_new w x m g p h (fun i hi => hex ⟨i,hi⟩) hp hp4 hm).mono ?_
  rintro e w' ⟨rfl,h1,h2⟩
  exact ⟨m + 1,m + 1,_,rfl,h1,upd_on _ _ _, .inr ⟨rfl,rfl,rfl,fun i hi => hex ⟨i,hi⟩⟩,h2⟩
end Go.Proofs.YtglpoffbkkdjiaaGreat
