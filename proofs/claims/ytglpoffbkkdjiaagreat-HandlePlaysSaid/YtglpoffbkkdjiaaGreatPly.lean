import Derived.Test.YtglpoffbkkdjiaaGreatLw16
namespace Go.Proofs.YtglpoffbkkdjiaaGreat
open Go.RowKit Go.OpenShut
def ReadsD (w:World) (y:Option Addr) (m:Nat) (R A B:Nat → Nat):Prop :=
 m = 0 ∨ ∃ b off,y = some ⟨b,off,none⟩ ∧ b < w.heap.size ∧ ∀ i,i < m → w.cell? ⟨b,off + i * 3,none⟩ = some (.int .u8 (R i:Nat)) ∧ w.cell? ⟨b,off + i * 3 + 1,none⟩ = some (.int .u8 (A i:Nat)) ∧ w.cell? ⟨b,off + i * 3 + 2,none⟩ = some (.int .u8 (B i:Nat)) ∧ R i ≤ 255 ∧ A i ≤ 255 ∧ B i ≤ 255
theorem readsD_of {W:World} {y:Option Addr} {m:Nat} {z:Nat → Nat → Int}
  (R:m * 3 = 0 ∨ ∃ b off,y = some ⟨b,off,none⟩ ∧ b < W.heap.size ∧ ∀ i j,i < m → j < 3 → W.cell? ⟨b,off + (i * 3 + j),none⟩ = some (.int ((fun j => if j = 0 then IntKind.u8 else if j = 1 then IntKind.u8 else IntKind.u8) j) (z i j)) ∧ (Lit.int ((fun j => if j = 0 then IntKind.u8 else if j = 1 then IntKind.u8 else IntKind.u8) j) (z i j)).wf = true) :
  ReadsD W y m (fun i => (z i 0).toNat) (fun i => (z i 1).toNat) (fun i => (z i 2).toNat):=by
 rcases R with h | ⟨b,off,rfl,hb,hc⟩
 ·exact .inl (by omega)
 ·refine .inr ⟨b,off,rfl,hb,fun i hi => ?_⟩
  obtain ⟨h1,h2⟩:=hc i 0 hi (by omega)
  obtain ⟨h3,h4⟩:=hc i 1 hi (by omega)
  obtain ⟨h5,h6⟩:=hc i 2 hi (by omega)
  have b1:=bounds_u8 h2
  have b2:=bounds_u8 h4
  have b3:=bounds_u8 h6
  have e1:((z i 0).toNat:Int) = z i 0:=Int.toNat_of_nonneg b1.1
  have e2:((z i 1).toNat:Int) = z i 1:=Int.toNat_of_nonneg b2.1
  have e3:((z i 2).toNat:Int) = z i 2:=Int.toNat_of_nonneg b3.1
  refine ⟨by rw [e1]; exact h1,by rw [e2]; exact h3,by rw [e3]; exact h5, ?_, ?_, ?_⟩ <;> (dsimp only; omega)
theorem ReadsD.keep {w w':World} {y:Option Addr} {m:Nat} {R A B:Nat → Nat} (h:ReadsD w y m R A B) (hk:Keeps [] w w'):ReadsD w' y m R A B:=by
 rcases h with h | ⟨b,off,rfl,hb,hc⟩
 ·exact .inl h
 ·exact .inr ⟨b,off,rfl,Nat.lt_of_lt_of_le hb hk.size,fun i hi => by rw [hk.cell hb (by simp),hk.cell hb (by simp),hk.cell hb (by simp)]; exact hc i hi⟩
set_option maxHeartbeats 1000000 in
theorem indexN_at (w:World) (x:Option Addr) (n cp:Nat) (f:Nat → Nat) (B i:Nat) (h:OwnI w B x cp n f) (hn:n ≤ 100000) :
  Calls Tryz.prog 13 #[.slice x n cp, .int .i64 i] w fun e w' => ((∃ k:Nat,k < n ∧ f k = i ∧ e = .returned (.int .i64 k)) ∨ ((∀ k,k < n → f k ≠ i) ∧ e = .returned (.int .i64 (-1)))) ∧ w = w':=by
 have hni:(n:Int) ≤ 100000:=by omega
 have HF:=hid h.form
 clear h
 go_enter Tryz.func13,Tryz.ntmps13
 go_wp2_with fail
 go_loopg [8] n (fun r sl wr => ∃ k:Nat,k + r = n ∧ sl = .int .i64 k ∧ w = wr ∧ ∀ j,j < k → f j ≠ i)
 case atStart => exact ⟨0,by omega,rfl,rfl,fun j hj => by omega⟩
 case round =>
  obtain ⟨k,hk,rfl,rfl,hno⟩:=hrel
  have HNO:=hid hno
  clear hno
  by_cases hlt:k < n
  ·obtain ⟨g,cur,rfl,hg,hA,hcur⟩:∃ g cur,x = some ⟨g,0,none⟩ ∧ B ≤ g ∧ At w g (.cells cur 3) ∧ ∀ i,i < n → cur[i]? = some (.int .i64 (f i:Nat)):=by
    rcases HF.out with ⟨_,h⟩ | h
    ·omega
    ·exact h
   have d0:w.cell? ⟨g,k,none⟩ = some (.int .i64 (f k:Nat)):=hA.cell k (hcur k hlt)
   have hki:(k:Int) ≤ 100000:=by omega
   obtain ⟨z,hz⟩:∃ z,z = f k:=⟨_,rfl⟩
   rw [← hz] at d0
   have HZ:=hid hz
   clear hz hcur
   by_cases hiz:i = z
   ·subst hiz
    go_wp2_with fail
    go_ret
    exact ⟨.inl ⟨k,hlt,HZ.out.symm,rfl⟩,rfl⟩
   ·have t1:((i:Int) == (z:Int)) = false:=by rw [beq_eq_false_iff_ne]; omega
    have t2:(i == z) = false:=by rw [beq_eq_false_iff_ne]; exact hiz
    have HIZ:=hid hiz
    clear hiz
    go_wp2_with fail
    go_roundg (n - (k + 1))
    case measure => omega
    case rel => exact ⟨k + 1,by omega,by go_num,rfl,fun j hj => by
     by_cases hjk:j = k
     ·subst hjk; rw [← HZ.out]; exact fun e => HIZ.out e.symm
     ·exact HNO.out j (by omega)⟩
  ·have hkn:k = n:=by omega
   subst hkn
   go_wp2_with fail
   go_ret
   exact ⟨.inr ⟨HNO.out,rfl⟩,rfl⟩
theorem OwnI.set {w:World} {B b cp n:Nat} {f:Nat → Nat} (h:OwnI w B (some ⟨b,0,none⟩) cp n f) {i:Nat} (hi:i < n) (v:Nat):OwnI (w.setCell ⟨b,i,none⟩ (.int .i64 (v:Nat))) B (some ⟨b,0,none⟩) cp n (fun j => if j = i then v else f j):=by
 obtain ⟨h0,⟨h1,_⟩ | ⟨g,cap,cur,h1,h2,h3,h4,h5,h6,h7⟩⟩:=h
 ·injection h1 with h1; cases h1
 ·injection h1 with h1 _ hc
  injection h1 with h1
  injection h1 with h1
  subst h1 hc
  refine ⟨by simp, .inr ⟨b,cp,_,rfl,h2,(show At w b (.cells cur 3) from h3).set i (.int .i64 (v:Nat)),h4,h5,by simpa using h6, ?_⟩⟩
  apply List.ext_getElem?
  intro j
  by_cases hj:j < n
  ·have e:(cur.toList.take (n * 1))[j]? = ((List.range n).map fun i => Value.int .i64 (f i:Nat))[j]?:=by rw [h7]
   rw [List.getElem?_take_of_lt (by omega)] at e ⊢
   rw [Array.getElem?_toList] at e ⊢
   rw [Array.getElem?_setIfInBounds]
   by_cases hij:i = j
   ·subst hij
    rw [if_pos rfl,if_pos (by omega)]
    simp [hj]
   ·rw [if_neg hij,e]
    simp [hj,show ¬ j = i by omega]
  ·rw [List.getElem?_take_eq_none (by omega),List.getElem?_eq_none (by simp; omega)]
theorem OwnI.congr {w:World} {B cp n:Nat} {x:Option Addr} {f g:Nat → Nat} (h:OwnI w B x cp n f) (he:∀ i,i < n → f i = g i):OwnI w B x cp n g:=by
 have e:((List.range n).map fun i => Value.int .i64 (f i:Nat)) = (List.range n).map fun i => Value.int .i64 (g i:Nat):=List.map_congr_left fun i hi => by rw [he i (List.mem_range.1 hi)]
 unfold OwnI at h ⊢
 rw [← e]; exact h
def askD (L:List Nat) (z:Int):Option Value:=if 0 ≤ z ∧ z.toNat ∈ L then some (.int .i64 1) else none
theorem askD_app (L:List Nat) (x:Nat):(fun z:Int => if z = (x:Int) then some (.int .i64 1) else askD L z) = askD (L ++ [x]):=by
 funext z
 unfold askD
 by_cases h:z = (x:Int)
 ·subst h
  rw [if_pos rfl,if_pos ⟨by omega,by simp⟩]
 ·rw [if_neg h]
  by_cases h1:0 ≤ z ∧ z.toNat ∈ L
  ·rw [if_pos h1,if_pos ⟨h1.1,List.mem_append_left _ h1.2⟩]
  ·rw [if_neg h1,if_neg]
   rintro ⟨h2,h3⟩
   rcases List.mem_append.1 h3 with h3 | h3
   ·exact h1 ⟨h2,h3⟩
   ·have:=List.mem_singleton.1 h3
    omega
abbrev numO (v:Nat):Obj:=.cells #[.int .i64 (v:Nat)] 3
abbrev askO (m:Nat):Obj:=.cells #[.map (some m)] 32
structure AskJ (w:World) (ab gb bb am gone by_:Nat) (L:List Nat):Prop where
 box:At w ab (askO am)
 gone:At w gb (numO gone)
 by_:At w bb (numO by_)
 map:IMap w am (askD L)
 ne:am ≠ ab ∧ am ≠ gb ∧ am ≠ bb
set_option maxRecDepth 100000 in
set_option maxHeartbeats 1000000 in
theorem play1_at (w:World) (ab gb bb am gone by_:Nat) (L:List Nat) (p:Nat) (h:AskJ w ab gb bb am gone by_ L) (hp:p ∉ L) (hp4:p < 4000) (hb:by_ ≤ 255) :
  Calls Tryz.prog 12 #[.int .i64 (p:Nat),ptr ab,ptr gb,ptr bb] w fun e w' => e = .returned (.int .i64 (if p = gone then 0 else p + by_:Nat)) ∧ AskJ w' ab gb bb am gone by_ (L ++ [p]) ∧ Keeps [ab,gb,bb,am] w w':=by
 have c0:=h.box.cell 0 rfl
 have hM:=h.map
 have hRL:(Instr.lookup 32 (.map (some am)) (.int .i64 (p:Nat)) false).run Tryz.prog w = .ok (.int .i64 0) w:=by
  rw [hM.lookup Tryz.underlying32 Tryz.underlying3 (zeroI w) (p:Nat) false]
  have e:askD L (p:Nat) = none:=if_neg fun hh => hp (by simpa using hh.2)
  rw [e]
  rfl
 have h1:(p:Int) < 4000:=by omega
 have h2:(by_:Int) ≤ 255:=by omega
 have H:=hid h
 clear h hp
 go_enter Tryz.func12,Tryz.ntmps12
 go_upto_region 1 with fail
 go_cut [] from 6 to 9 (fun wx => IMap wx am (askD (L ++ [p])) ∧ Keeps [am] w wx)
 case first =>
  go_wp2_with (at_mapUpdate; refine wpList_update_at rfl _ _ _ _ rfl 3 3 Tryz.underlying32 Tryz.underlying3 am _ rfl hM (p:Nat) (.int .i64 1) rfl rfl ?_; intro w5 hm5 hk5; rw [askD_app] at hm5; have HM5:=hid hm5; have HK5:=hid hk5; clear hm5 hk5)
  go_meet
  exact ⟨HM5.out,HK5.out⟩
 case rest =>
  obtain ⟨hm5,hk5⟩:=hcut
  have n1:ab ∉ [am]:=fun hh => H.out.ne.1 (List.mem_singleton.1 hh).symm
  have n2:gb ∉ [am]:=fun hh => H.out.ne.2.1 (List.mem_singleton.1 hh).symm
  have n3:bb ∉ [am]:=fun hh => H.out.ne.2.2 (List.mem_singleton.1 hh).symm
  have hg:=hk5.at H.out.gone n2
  have hbb:=hk5.at H.out.by_ n3
  have g0:=hg.cell 0 rfl
  have b0:=hbb.cell 0 rfl
  have HJ:Hid (AskJ wc ab gb bb am gone by_ (L ++ [p]) ∧ Keeps [ab,gb,bb,am] w wc):=⟨⟨hk5.at H.out.box n1,hg,hbb,hm5,H.out.ne⟩,hk5.mono fun k _ hk => by rw [List.mem_singleton.1 hk]; simp⟩
  clear hm5 hk5 n1 n2 n3 hg hbb
  by_cases hpg:p = gone
  ·subst hpg
   go_wp2_with fail
   go_ret
   exact ⟨rfl,HJ.out⟩
  ·have t1:((p:Int) == (gone:Int)) = false:=by rw [beq_eq_false_iff_ne]; omega
   have t2:(p == gone) = false:=by rw [beq_eq_false_iff_ne]; exact hpg
   have HPG:=hid hpg
   clear hpg
   go_wp2_with fail
   go_ret
   refine ⟨?_,HJ.out⟩
   have e:((if p = gone then 0 else p + by_:Nat):Int) = (p:Int) + (by_:Int):=by rw [if_neg HPG.out]; omega
   first | rfl | (rw [e]; rfl)
theorem moverP (ab gb bb am gone by_:Nat) (hb:by_ ≤ 255):Mover 12 #[ptr ab,ptr gb,ptr bb] (fun p => if p = gone then 0 else p + by_) [ab,gb,bb,am] (fun p => p < 4000) (fun L w => AskJ w ab gb bb am gone by_ L) :=
 ⟨fun w p => by simp [go_sem],fun L w w' S h hk hS => ⟨hk.at h.box (fun hb => hS _ hb (by simp)),hk.at h.gone (fun hb => hS _ hb (by simp)),hk.at h.by_ (fun hb => hS _ hb (by simp)),h.map.keep hk (fun hb => hS _ hb (by simp)),h.ne⟩,fun L w p h hp hd => play1_at w ab gb bb am gone by_ L p h hp hd hb⟩
def allL (g:Nat → Nat) (k:Nat):List Nat:=((List.range k).filter fun i => g (i + 1) != 0).map (· + 1)
theorem allL_next (g:Nat → Nat) (k:Nat):allL g (k + 1) = if g (k + 1) = 0 then allL g k else allL g k ++ [k + 1]:=by
 unfold allL
 rw [List.range_succ,List.filter_append,List.map_append]
 split
 ·rename_i h
  simp [h]
 ·rename_i h
  simp [h]
theorem allL_all {m:Nat} {g:Nat → Nat} (h0:g 0 = 0):allL g m = numL m g:=by
 unfold allL numL
 rw [List.range_succ_eq_map,List.filter_cons_of_neg (by simp [h0]),List.filter_map]
 rfl
theorem allL_len (g:Nat → Nat) (k:Nat):(allL g k).length ≤ k:=by
 unfold allL
 rw [List.length_map]
 have:=List.length_filter_le (fun i => g (i + 1) != 0) (List.range k)
 rwa [List.length_range] at this
end Go.Proofs.YtglpoffbkkdjiaaGreat
