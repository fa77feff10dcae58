import Derived.Test.YtaidmbdkbjgojaaGreatFlz
import Derived.Test.YtaidmbdkbjgojaaGreatCo15
namespace Go.Proofs.YtaidmbdkbjgojaaGreat
open Go.RowKit Go.OpenShut
theorem SamI.snd {S1 S2 S3:DS} {c:Cfg} {k1 u1 k2 u2:Nat} {LS PS:List Nat} (h:SamI S1 S2 c k1 u1 k2 u2 LS PS) (hT:∀ j,c.frm k2 ≤ j → j < c.frm k2 + u2 → S3.now j = S2.now j):SamI S1 S3 c k1 u1 k2 u2 LS PS:=by
 refine ⟨h.len,h.nl,h.np,fun t x y hx hy => ?_⟩
 obtain ⟨n,r,g1,g2,g3,g4⟩:=h.ob t x y hx hy
 obtain ⟨q1,q2,q3,q4,q5,q6⟩:=obW_some g2
 refine ⟨n,r,g1,by rw [ob_same hT]; exact g2,fun i hi => ?_,fun i h1 h2 => ?_⟩
 ·rw [hT (y + 1 + i) (by omega) (by omega)]
  exact g3 i hi
 ·rw [hT (y + 1 + i) (by omega) (by omega)]
  exact g4 i h1 h2
theorem HepS.left {S T:DS} {c:Cfg} {n k u:Nat} {rs:List Nat} {l:List (Nat × Nat)} (h:HepS S c n k u rs l) (hn:c.words = n) (he:∀ j,((c.act ≤ j ∧ j < c.root c.roots) ∨ (c.frm k ≤ j ∧ j < c.frm k + c.space)) → T.now j = S.now j) :
  T.now c.act = (k:Int) ∧ T.now (c.act + 1) = (u:Int) ∧ Chn T c k u l false ∧ WdU T c k ∧ ckC T c k l false = 0 ∧ ∀ j,j < c.roots → T.now (c.root j) = ((rs.getD j 0:Nat):Int):=by
 have h4:=h.us
 have h5:=root_end c
 have hle:=h.chn.le
 have hw:=h.wd.at hn h.k1
 refine ⟨by rw [he _ (.inl (by omega))]; exact h.act,by rw [he _ (.inl (by omega))]; exact h.used,h.chn.same fun j hj => he _ (.inr (by omega)),⟨fun i hi => ?_,fun j h1 h2 => ?_⟩, ?_,fun j hj => ?_⟩
 ·rw [he _ (.inl (by unfold Cfg.root; omega))]
  exact hw.1 i hi
 ·rw [he j (.inr ⟨h1,h2⟩)]
  exact hw.2 j h1 h2
 ·rw [ckC_same (fun j hj => he _ (.inl (by unfold Cfg.root; omega))) fun i hi j hj => ?_]
  ·exact h.ok
  ·obtain ⟨e1,e2,_⟩:=h.chn.head i _ (nL_in hi)
   have h6:=posN_end hi
   have e3:rL l i ≤ nL l i:=e2
   exact he _ (.inr (by omega))
 ·rw [he _ (.inl (by unfold Cfg.root; omega))]
  exact h.root j hj
theorem LgS.fix {c:Cfg} {n:Nat} {S:DS} (h:LgS c n S) {j:Nat} (h1:c.act ≤ j) (h2:j < n) (h3:S.now j = 0):Fix S j 0 :=
 ⟨h3,h.2.1 j h1 h2,fun h4 => by rw [h.2.2] at h4; cases h4⟩
theorem wtC_ne {S:DS} {c:Cfg} {us v:Nat} {LS:List Nat} (hu:us ≤ c.space) (hv:(obW S c 0 us v).isSome = true) (h0:v ≠ 0):wtC S c 0 LS v ≠ v:=by
 obtain ⟨⟨n,r⟩,hnr⟩:=Option.isSome_iff_exists.1 hv
 obtain ⟨q1,q2,_⟩:=obW_some hnr
 have h1:=(up8_le c.space).1
 have h2:c.frm 0 = up8 (c.root c.roots) + 0 * up8 c.space:=rfl
 have h3:c.frm (1 - 0) = up8 (c.root c.roots) + 1 * up8 c.space:=rfl
 unfold wtC
 split
 ·unfold plC
  omega
 ·exact h0.symm
theorem blk_kept {S:DS} {c:Cfg} {n us U:Nat} {rs LS:List Nat} {os:List (Nat × Nat)} {S3 S4:DS} {Z:Nat → Prop} (hH:HepS S c n 0 us rs os) (hn:c.words = n) (hL:LgS c n S) (h3:∀ j,c.act ≤ j → j < c.root c.roots → S3.now j = S.now j)
  (hZ:∀ j,c.act ≤ j → j < c.root c.roots → Fix S j 0 → Z j)
  (hF:∀ j,c.act ≤ j → j < n → (Z j ∨ ∃ i,c.act ≤ i ∧ i < n ∧ i / 8 = j / 8 ∧ S3.now i ≠ blkF c 1 U (nwR S c 0 LS rs) S3.now i) → Fix S4 j (S4.now j)) :
  ∀ j,c.act ≤ j → j < c.root c.roots → Fix S4 j (S4.now j):=fun j h1 h2 => by
 have hre:=root_end c
 have hf:=frm_space (c:=c) 0 (by omega)
 have ha8:c.act % 8 = 0:=(up8_le (16 + 4 * c.log)).2.2
 refine hF j h1 (by omega) ?_
 by_cases hl:j / 8 = c.act / 8
 ·refine .inr ⟨c.act,Nat.le_refl _,by omega,hl.symm, ?_⟩
  rw [h3 _ (Nat.le_refl _) (by omega),hH.act]
  unfold blkF
  rw [if_pos rfl]
  decide
 ·have hjr:j = c.root (j - (c.act + 2)):=by unfold Cfg.root; omega
  have hjl:j - (c.act + 2) < c.roots:=by omega
  have hS:S.now j = ((rs.getD (j - (c.act + 2)) 0:Nat):Int):=by
   have h:=hH.root _ hjl
   rw [← hjr] at h
   exact h
  by_cases h0:rs.getD (j - (c.act + 2)) 0 = 0
  ·refine .inl (hZ j h1 h2 (hL.fix h1 (by omega) ?_))
   rw [hS,h0]; rfl
  ·refine .inr ⟨j,h1,by omega,rfl, ?_⟩
   rw [h3 j h1 h2,hS]
   unfold blkF
   rw [if_neg (by omega),if_neg (by omega),if_pos h2]
   unfold nwR
   have hm:rs.getD (j - (c.act + 2)) 0 ∈ rs:=by
    rw [List.getD_eq_getElem?_getD,List.getElem?_eq_getElem (by rw [hH.rl]; exact hjl)]
    exact List.getElem_mem _
   have hne:=wtC_ne (LS:=LS) hH.us ((hH.named hm).resolve_left h0) h0
   omega
set_option maxHeartbeats 400000 in
theorem flipKeeps1_at (w:World) (b:Nat) (bits:Int) (i:Nat) (h:At w b (wordO bits)) (hi:i ≤ 17592186044416) :
  Calls Tryz.prog 47 #[.int .i64 i,ptr b] w fun e w' => e = .returned (.int .u8 (chV bits i)) ∧ w = w':=by
 have c1:=h.cell 0 rfl
 go_enter Tryz.func47,Tryz.ntmps47
 go_wp2_with fail
 refine (choice_at w bits i hi).mono ?_
 rintro e w1 ⟨rfl,rfl⟩
 go_wp2
 go_ret
 exact ⟨rfl,rfl⟩
theorem flipKeeps1_chooser (b:Nat) (bits:Int) (n:Nat) (hn:n ≤ 17592186044416) :
  Chooser 47 #[ptr b] n (chV bits) [] [b] (fun _ w => At w b (wordO bits)) where
 inv:=fun w i => by simp [go_sem]
 call:=fun i w hi h => (flipKeeps1_at w b bits i h (by omega)).mono fun e w' ⟨he,hw⟩ => ⟨he,by rw [← hw]; exact h,by rw [← hw]; exact Keeps.refl _ _⟩
 keep:=fun _ w w' S h hk hs => hk.at h (hs b (by simp))
 low:=chV_low bits
end Go.Proofs.YtaidmbdkbjgojaaGreat
