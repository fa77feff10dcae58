import Derived.Test.YtglpoffbkkdjiaaGreatClk
import Derived.Test.YtglpoffbkkdjiaaGreatCcl
namespace Go.Proofs.YtglpoffbkkdjiaaGreat
open Go.RowKit Go.OpenShut
def BrL (P:CP) (l:Int) (x mb B:Nat) (yr:Option Addr) (cr:Nat) (yl:Option Addr) (cl:Nat) (yq:Option Addr) (out:List Nat) (i n:Nat) (dn:Bool) (I:Nat) (u:Int) (S0:DS) (v:Nat) (w:World) (e:Ending) (w':World):Prop :=
 e = .returned (.int .i64 (wO P (seeW P.S P.c P.k P.us out v) v:Nat)) ∧ ∃ yq' cq' u' S',ClB P w' x mb B yr cr yl cl yq' cq' (seeW P.S P.c P.k P.us out v) i n dn ∧ Pw w' P.p P.a l u' S' ∧ Zon P S0 S' ∧ CpJ P.S S' P.c P.k P.us (seeW P.S P.c P.k P.us out v) n I ∧ u' ≤ u + 65 ∧
  Keeps (clT x mb yr yl yq ++ [P.p,P.a.s,P.a.k,P.a.m]) w w' ∧ (blkL yq' = blkL yq ∨ ∀ g ∈ blkL yq',w.heap.size ≤ g)
theorem brL_same {P:CP} {l:Int} {x mb B:Nat} {yr:Option Addr} {cr:Nat} {yl:Option Addr} {cl:Nat} {yq:Option Addr} {cq:Nat} {out:List Nat} {i n:Nat} {dn:Bool} {I:Nat} {u:Int} {v:Nat} {w w':World} {S':DS} {z:Nat} (hC:ClB P w x mb B yr cr yl cl yq cq out i n dn) (hPw:Pw w P.p P.a l u S') (hJ:CpJ P.S S' P.c P.k P.us out n I)
  (hk:Keeps [] w w') (hs:seeW P.S P.c P.k P.us out v = out) (hz:z = wO P out v):BrL P l x mb B yr cr yl cl yq out i n dn I u S' v w (.returned (.int .i64 (z:Nat))) w':=by
 refine ⟨by rw [hs,hz],yq,cq,u,S', ?_,hPw.keep0 hk,Zon.refl _ _, ?_,by omega,hk.mono (by simp), .inl rfl⟩
 ·rw [hs]; exact hC.keep hk (by simp)
 ·rw [hs]; exact hJ
theorem brL_new {P:CP} {l:Int} {S0:DS} {x mb B:Nat} {yr:Option Addr} {cr:Nat} {yl:Option Addr} {cl:Nat} {yq:Option Addr} {out:List Nat} {i n:Nat} {dn:Bool} {I:Nat} {u:Int} {v:Nat} {w w' w'':World} {e:Ending} (h:CopL P l x mb B yr cr yl cl yq out i n dn I u S0 v w' e w'')
  (hk:Keeps [] w w') (hs:seeW P.S P.c P.k P.us out v = out ++ [v]):BrL P l x mb B yr cr yl cl yq out i n dn I u S0 v w e w'':=by
 obtain ⟨h1,yq',cq',u',S',h2,h3,h3z,h4,h5,h6,h7⟩:=h
 unfold BrL
 rw [hs]
 refine ⟨by rw [h1]; unfold wO; rw [if_pos (by simp)],yq',cq',u',S',h2,h3,h3z,h4,h5,(hk.mono (by simp)).trans h6, ?_⟩
 rcases h7 with h | h
 ·exact .inl h
 ·exact .inr fun g hg => Nat.le_trans hk.size (h g hg)
set_option maxRecDepth 100000 in
set_option maxHeartbeats 4000000 in
theorem bring_l (P:CP) (hP:P.Ok) (w:World) (x mb B:Nat) (yr:Option Addr) (cr:Nat) (yl:Option Addr) (cl:Nat) (yq:Option Addr) (cq:Nat) (out:List Nat) (i n:Nat) (dn:Bool) (hC:ClB P w x mb B yr cr yl cl yq cq out i n dn) (hA:Apart P (clT x mb yr yl yq))
  (l u:Int) (S':DS) (hPw:Pw w P.p P.a l u S') (hu:u ≤ 200000000000) (I:Nat) (hJ:CpJ P.S S' P.c P.k P.us out n I) (hn:n ≤ out.length) (hnI:n = out.length → I = 0) (v:Nat) (hv:v < 9223372036854775808) (hpre:P.Pre (seeW P.S P.c P.k P.us out v)) :
  Calls Tryz.prog 79 #[ptr x, .int .i64 (v:Nat)] w (fun e w' => BrL P l x mb B yr cr yl cl yq out i n dn I u S' v w e w' ∨ CutC P l (clT x mb yr yl yq) S' w e w'):=by
 have hP0:=hP
 obtain ⟨hc,hcn,hk,hus,hrdy, -, -, -, -⟩:=hP
 have hsp:=hc.small.2.2
 have hsz2:szF P.S P.LS ≤ P.c.space:=hrdy.sz
 have hpo:=hpre.of_see
 have hap:=sp_apart (c:=P.c) (k:=P.k) (s:=P.us) (t:=szF P.S out) hk hus (Nat.le_trans hpo.sz hsz2)
 have hfrm:∀ j,P.c.frm P.k ≤ j → j < P.c.frm P.k + P.us → S'.now j = P.S.now j:=fun j h1 h2 => hJ.from hap h1 h2
 have hobs:obW S' P.c P.k P.us v = obW P.S P.c P.k P.us v:=ob_same hfrm v
 have hx:∀ j:Nat,P.c.frm P.k ≤ j → j < P.c.frm P.k + P.us → ∃ x:Nat,S'.now j = (x:Int) ∧ x < 18446744073709551616:=fun j h1 h2 => by rw [hfrm j h1 h2]; exact hrdy.wd j h1 h2
 have HOF:=hid (fun (w':World) (hk':Keeps [] w w') => of_ob w' P.p P.a S' (hPw.keep0 hk').dev P.c hc hcn P.k hk P.us hus (.slice yr P.rs.length cr) (v:Nat) (by omega) hx)
 obtain ⟨U,hU⟩:∃ U,U = szF P.S out:=⟨_,rfl⟩
 have hbox:=hC.box
 rw [← hU] at hbox
 have hxw:x < w.heap.size:=hbox.lt
 obtain ⟨z,hz⟩:∃ z,z = wO P out v:=⟨_,rfl⟩
 obtain ⟨b,hb⟩:∃ b,b = decide (v ∈ out):=⟨_,rfl⟩
 have hlk:=lookup_comma hC.mp v z b hz hb
 have HZ:=hid hz
 have HC:=hid hC
 have HPW:=hid hPw
 have HJ:=hid hJ
 have HCP:=hid (fun (w':World) (hk':Keeps [] w w') (nn rr:Nat) (hX:P.LS[out.length]? = some v) (hnn:nn = hdN (P.S.now v).toNat) (hrr:rr = hdR (P.S.now v).toNat) =>
  copied_l P hP0 w' x mb B yr cr yl cl yq cq out i n dn (hC.keep hk' (by simp)) hA l u S' (hPw.keep0 hk') hu I hJ hn hnI hpo v nn rr hX hnn hrr)
 have x0:=hbox.cell 0 rfl
 have x11:=hbox.cell 11 rfl
 have HOFN:Hid ((obW P.S P.c P.k P.us v).isSome = false → ∀ w',Keeps [] w w' → Calls Tryz.prog 45 #[ptr P.a.d,cfgV P.c,bkV (P.k:Nat) (P.us:Nat) (.slice yr P.rs.length cr), .int .i64 (v:Nat)] w' fun e w'' => (∃ code:Int,code ≠ 0 ∧ e = .returned (.tuple #[obV 0 0 0, .int .i64 code])) ∧ Keeps [] w' w''):=fun ho w' hk' => by
  refine (HOF.out w' hk').mono ?_
  rintro e w'' ⟨⟨X,n,r,h1,h2,_⟩ | ⟨_,h2⟩,h3⟩
  ·obtain rfl:v = X:=by omega
   rw [hobs] at h2
   rw [h2] at ho
   cases ho
  ·exact ⟨h2,h3⟩
 have HOFY:Hid (∀ nn rr:Nat,obW P.S P.c P.k P.us v = some (nn,rr) → ∀ w',Keeps [] w w' → Calls Tryz.prog 45 #[ptr P.a.d,cfgV P.c,bkV (P.k:Nat) (P.us:Nat) (.slice yr P.rs.length cr), .int .i64 (v:Nat)] w' fun e w'' => e = .returned (.tuple #[obV (nn:Nat) (rr:Nat) (v:Nat), .int .i64 0]) ∧ Keeps [] w' w''):=fun nn rr ho w' hk' => by
  refine (HOF.out w' hk').mono ?_
  rintro e w'' ⟨⟨X,n,r,h1,h2,h4⟩ | ⟨h2,_⟩,h3⟩
  ·obtain rfl:v = X:=by omega
   rw [hobs,ho] at h2
   injection h2 with h2
   injection h2 with h5 h6
   subst h5
   subst h6
   exact ⟨h4,h3⟩
  ·have h4:=h2 v rfl
   rw [hobs,ho] at h4
   cases h4
 have HB:=hid hbox
 have HOBS:=hid hobs
 have HPRE:=hid hpre
 have HU:=hid hU
 have HSZ2:=hid hsz2
 have hUi:(U:Int) ≤ 4096:=by have:=hpo.sz; omega
 have hspi:(P.c.space:Int) ≤ 4096:=by omega
 have HXW:=hid hxw
 have hvb:(v:Int) < 9223372036854775808:=by omega
 have HF:Hid (∀ w',Keeps [] w w' → (w'.cell? ⟨x,0,none⟩ = some (ptr P.a.d) ∧ w'.cell? ⟨x,1,none⟩ = some (.int .i64 P.c.log) ∧ w'.cell? ⟨x,2,none⟩ = some (.int .i64 P.c.roots) ∧ w'.cell? ⟨x,3,none⟩ = some (.int .i64 P.c.space) ∧ w'.cell? ⟨x,4,none⟩ = some (.int .i64 (P.k:Nat)) ∧ w'.cell? ⟨x,5,none⟩ = some (.int .i64 (P.us:Nat)) ∧ w'.cell? ⟨x,6,none⟩ = some (.slice yr P.rs.length cr))):=fun w' hk => by
  have e1:=hk.at hbox (by simp)
  exact ⟨e1.cell 0 rfl,e1.cell 1 rfl,e1.cell 2 rfl,e1.cell 3 rfl,e1.cell 4 rfl,e1.cell 5 rfl,e1.cell 6 rfl⟩
 clear hP0 hc hcn hk hus hrdy hsp hsz2 hpo hap hfrm hobs hx hC hA hPw hu hJ hn hnI hv hpre hU hbox hxw hz
 go_enter Tryz.func79,Tryz.ntmps79
 by_cases hin:v ∈ out
 case pos =>
  obtain rfl:b = true:=by rw [hb]; exact decide_eq_true hin
  have HSE:Hid (seeW P.S P.c P.k P.us out v = out):=seeW_had hin
  clear hb hin
  go_wp2_with fail
  go_ret
  exact .inl <| brL_same HC.out HPW.out HJ.out (Keeps.refl _ _) HSE.out HZ.out
 obtain rfl:b = false:=by rw [hb]; exact decide_eq_false hin
 have HIN:=hid hin
 clear hb hin
 go_upto_region 4 with fail
 clear hlk x0 x11 hvb
 have kk:Keeps [] w w.drew:=(Keeps.refl _ _).drew
 cases ho:(obW P.S P.c P.k P.us v).isSome with
 | false =>
  have HSE:Hid (seeW P.S P.c P.k P.us out v = out):=seeW_none ho
  have HO:=hid ho
  clear ho
  have HOFN2:=hid (HOFN.out HO.out)
  go_cut [7,8] from 20 to 36 (fun s7 s8 wx => ∃ (ob:Nat) (code:Int),s7 = ptr ob ∧ s8 = .int .i64 code ∧ code ≠ 0 ∧ At wx ob (obO 0 0 0) ∧ Keeps [] w wx)
  case first =>
   refine wp_region_noPanic ?_
   refine wp_region_held_drew (S:=fun w' => w'.cell? ⟨x,0,none⟩ = some (ptr P.a.d) ∧ w'.cell? ⟨x,1,none⟩ = some (.int .i64 P.c.log) ∧ w'.cell? ⟨x,2,none⟩ = some (.int .i64 P.c.roots) ∧ w'.cell? ⟨x,3,none⟩ = some (.int .i64 P.c.space) ∧ w'.cell? ⟨x,4,none⟩ = some (.int .i64 (P.k:Nat)) ∧ w'.cell? ⟨x,5,none⟩ = some (.int .i64 (P.us:Nat)) ∧ w'.cell? ⟨x,6,none⟩ = some (.slice yr P.rs.length cr)) (by kernel_rfl) ?_ (fun hHeld0 => ?_)
   ·(try dsimp only); (first | exact HF.out _ kk | exact HF.out _ (kk.alloc _) | exact HF.out _ (((kk.set (.inr (Nat.le_refl _)) _).set (.inr (Nat.le_refl _)) _).set (.inr (Nat.le_refl _)) _))
   refine' wpAnyH_take (i:=0) (oi:=_) (v:=_) ?hi1 (by kernel_rfl) (by kernel_rfl) (by kernel_rfl) (fun _ _ _ h => h) (Or.inl ⟨?hw1, ?hy1⟩) hHeld0 ?rest1
   case hi1 => (simp only [List.getElem?_toArray,List.getElem?_cons_zero]; rfl)
   case hw1 => rfl
   case hy1 => (intro w hSw; (try dsimp only at hSw); go_simp; try (with_reducible rfl))
   (try simp only [Act.put,List.setIfInBounds_toArray,List.set_cons_zero,List.set_cons_succ])
   refine' wpAnyH_take (i:=1) (oi:=_) (v:=_) ?hi2 (by kernel_rfl) (by kernel_rfl) (by kernel_rfl) (fun _ _ _ h => h) (Or.inl ⟨?hw2, ?hy2⟩) hHeld0 ?rest2
   case hi2 => (simp only [List.getElem?_toArray,List.getElem?_cons_succ,List.getElem?_cons_zero]; rfl)
   case hw2 => rfl
   case hy2 => (intro w hSw; (try dsimp only at hSw); go_simp; try (with_reducible rfl))
   (try simp only [Act.put,List.setIfInBounds_toArray,List.set_cons_zero,List.set_cons_succ])
   refine' wpAnyH_take (i:=2) (oi:=_) (v:=_) ?hi3 (by kernel_rfl) (by kernel_rfl) (by kernel_rfl) (fun _ _ _ h => h) (Or.inl ⟨?hw3, ?hy3⟩) hHeld0 ?rest3
   case hi3 => (simp only [List.getElem?_toArray,List.getElem?_cons_succ,List.getElem?_cons_zero]; rfl)
   case hw3 => rfl
   case hy3 => (intro w hSw; (try dsimp only at hSw); go_simp; try (with_reducible rfl))
   (try simp only [Act.put,List.setIfInBounds_toArray,List.set_cons_zero,List.set_cons_succ])
   refine' wpAnyH_take (i:=3) (oi:=_) (v:=_) ?hi4 (by kernel_rfl) (by kernel_rfl) (by kernel_rfl) (fun _ _ _ h => h) (Or.inl ⟨?hw4, ?hy4⟩) hHeld0 ?rest4
   case hi4 => (simp only [List.getElem?_toArray,List.getElem?_cons_succ,List.getElem?_cons_zero]; rfl)
   case hw4 => rfl
   case hy4 => (intro w hSw; (try dsimp only at hSw); go_simp; try (with_reducible rfl))
   (try simp only [Act.put,List.setIfInBounds_toArray,List.set_cons_zero,List.set_cons_succ])
   refine' wpAnyH_take (i:=4) (oi:=_) (v:=_) ?hi5 (by kernel_rfl) (by kernel_rfl) (by kernel_rfl) (fun _ _ _ h => h) (Or.inl ⟨?hw5, ?hy5⟩) hHeld0 ?rest5
   case hi5 => (simp only [List.getElem?_toArray,List.getElem?_cons_succ,List.getElem?_cons_zero]; rfl)
   case hw5 => rfl
   case hy5 => (intro w hSw; (try dsimp only at hSw); go_simp; try (with_reducible rfl))
   (try simp only [Act.put,List.setIfInBounds_toArray,List.set_cons_zero,List.set_cons_succ])
   refine' wpAnyH_take (i:=5) (oi:=_) (v:=_) ?hi6 (by kernel_rfl) (by kernel_rfl) (by kernel_rfl) (fun _ _ _ h => h) (Or.inl ⟨?hw6, ?hy6⟩) hHeld0 ?rest6
   case hi6 => (simp only [List.getElem?_toArray,List.getElem?_cons_succ,List.getElem?_cons_zero]; rfl)
   case hw6 => rfl
   case hy6 => (intro w hSw; (try dsimp only at hSw); go_simp; try (with_reducible rfl))
   (try simp only [Act.put,List.setIfInBounds_toArray,List.set_cons_zero,List.set_cons_succ])
   refine' wpAnyH_take (i:=6) (oi:=_) (v:=_) ?hi7 (by kernel_rfl) (by kernel_rfl) (by kernel_rfl) (fun _ _ _ h => h) (Or.inl ⟨?hw7, ?hy7⟩) hHeld0 ?rest7
   case hi7 => (simp only [List.getElem?_toArray,List.getElem?_cons_succ,List.getElem?_cons_zero]; rfl)
   case hw7 => rfl
   case hy7 => (intro w hSw; (try dsimp only at hSw); go_simp; try (with_reducible rfl))
   (try simp only [Act.put,List.setIfInBounds_toArray,List.set_cons_zero,List.set_cons_succ])
   refine' wpAnyH_take (i:=7) (oi:=_) (v:=_) ?hi8 (by kernel_rfl) (by kernel_rfl) (by kernel_rfl) (fun _ _ _ h => h) (Or.inl ⟨?hw8, ?hy8⟩) hHeld0 ?rest8
   case hi8 => (simp only [List.getElem?_toArray,List.getElem?_cons_succ,List.getElem?_cons_zero]; rfl)
   case hw8 => rfl
   case hy8 => (intro w hSw; (try dsimp only at hSw); go_simp; try (with_reducible rfl))
   (try simp only [Act.put,List.setIfInBounds_toArray,List.set_cons_zero,List.set_cons_succ])
   refine' wpAnyH_take (i:=8) (oi:=_) (v:=_) ?hi9 (by kernel_rfl) (by kernel_rfl) (by kernel_rfl) (fun _ _ _ h => h) (Or.inl ⟨?hw9, ?hy9⟩) hHeld0 ?rest9
   case hi9 => (simp only [List.getElem?_toArray,List.getElem?_cons_succ,List.getElem?_cons_zero]; rfl)
   case hw9 => rfl
   case hy9 => (intro w hSw; (try dsimp only at hSw); go_simp; try (with_reducible rfl))
   (try simp only [Act.put,List.setIfInBounds_toArray,List.set_cons_zero,List.set_cons_succ])
   refine' wpAnyH_take (i:=9) (oi:=_) (v:=_) ?hi10 (by kernel_rfl) (by kernel_rfl) (by kernel_rfl) (fun _ _ _ h => h) (Or.inl ⟨?hw10, ?hy10⟩) hHeld0 ?rest10
   case hi10 => (simp only [List.getElem?_toArray,List.getElem?_cons_succ,List.getElem?_cons_zero]; rfl)
   case hw10 => rfl
   case hy10 => (intro w hSw; (try dsimp only at hSw); go_simp; try (with_reducible rfl))
   (try simp only [Act.put,List.setIfInBounds_toArray,List.set_cons_zero,List.set_cons_succ])
   refine' wpAnyH_take (i:=10) (oi:=_) (v:=_) ?hi11 (by kernel_rfl) (by kernel_rfl) (by kernel_rfl) (fun _ _ _ h => h) (Or.inl ⟨?hw11, ?hy11⟩) hHeld0 ?rest11
   case hi11 => (simp only [List.getElem?_toArray,List.getElem?_cons_succ,List.getElem?_cons_zero]; rfl)
   case hw11 => rfl
   case hy11 => (intro w hSw; (try dsimp only at hSw); go_simp; try (with_reducible rfl))
   (try simp only [Act.put,List.setIfInBounds_toArray,List.set_cons_zero,List.set_cons_succ])
   refine' wpAnyH_take (i:=11) (oi:=_) (v:=_) ?hi12 (by kernel_rfl) (by kernel_rfl) (by kernel_rfl) (fun _ _ _ h => h) (Or.inl ⟨?hw12, ?hy12⟩) hHeld0 ?rest12
   case hi12 => (simp only [List.getElem?_toArray,List.getElem?_cons_succ,List.getElem?_cons_zero]; rfl)
   case hw12 => rfl
   case hy12 => (intro w hSw; (try dsimp only at hSw); go_simp; try (with_reducible rfl))
   (try simp only [Act.put,List.setIfInBounds_toArray,List.set_cons_zero,List.set_cons_succ])
   refine' wpAnyH_take (i:=12) (oi:=_) (v:=_) ?hi13 (by kernel_rfl) (by kernel_rfl) (by kernel_rfl) (fun _ _ _ h => h) (Or.inl ⟨?hw13, ?hy13⟩) hHeld0 ?rest13
   case hi13 => (simp only [List.getElem?_toArray,List.getElem?_cons_succ,List.getElem?_cons_zero]; rfl)
   case hw13 => rfl
   case hy13 => (intro w hSw; (try dsimp only at hSw); go_simp; try (with_reducible rfl))
   (try simp only [Act.put,List.setIfInBounds_toArray,List.set_cons_zero,List.set_cons_succ])
   refine wpAnyH_ready (rs:=[13,17]) (by kernel_rfl) (by simp) ?_
   refine' AllReadyH.cons (o:=_) ?ho15 (fun K hK => ?step15) ?more15
   case ho15 => (simp only [List.getElem?_toArray,List.getElem?_cons_succ,List.getElem?_cons_zero]; rfl)
   case step15 =>
    go_simp
    (go_at_call 45; first | (refine (HOFN2.out _ kk).mono ?_; rintro e w2 ⟨⟨code,hcode,rfl⟩,hk9⟩; have kk:=kk.trans hk9; clear hk9) | (refine (HOFN2.out _ (kk.alloc _)).mono ?_; rintro e w2 ⟨⟨code,hcode,rfl⟩,hk9⟩; have hO0:=hk9.at (At.new w (obO 0 0 0)).drew (by simp); have o0:=hO0.cell 0 rfl; have o1:=hO0.cell 1 rfl; have o2:=hO0.cell 2 rfl; have g0:=hO0.free 0; have g1:=hO0.free 1; have g2:=hO0.free 2; have kk:=(kk.alloc _).trans hk9; clear hk9))
    (try go_wp2_with fail)
    refine hK.out _ _ ?_ (fun hHeld1 => ?_)
    ·(try dsimp only); (first | exact HF.out _ kk | exact HF.out _ (kk.alloc _) | exact HF.out _ (((kk.set (.inr (Nat.le_refl _)) _).set (.inr (Nat.le_refl _)) _).set (.inr (Nat.le_refl _)) _))
    clear hK K hHeld0
    (try simp only [Act.put,List.setIfInBounds_toArray,List.set_cons_zero,List.set_cons_succ])
    refine' wpAnyH_take (i:=14) (oi:=_) (v:=_) ?hi16 (by kernel_rfl) (by kernel_rfl) (by kernel_rfl) (fun _ _ _ h => h) (Or.inl ⟨?hw16, ?hy16⟩) hHeld1 ?rest16
    case hi16 => (simp only [List.getElem?_toArray,List.getElem?_cons_succ,List.getElem?_cons_zero]; rfl)
    case hw16 => rfl
    case hy16 => (intro w hSw; (try dsimp only at hSw); go_simp; try (with_reducible rfl))
    (try simp only [Act.put,List.setIfInBounds_toArray,List.set_cons_zero,List.set_cons_succ])
    refine' wpAnyH_take (i:=15) (oi:=_) (v:=_) ?hi17 (by kernel_rfl) (by kernel_rfl) (by kernel_rfl) (fun _ _ _ h => h) (Or.inl ⟨?hw17, ?hy17⟩) hHeld1 ?rest17
    case hi17 => (simp only [List.getElem?_toArray,List.getElem?_cons_succ,List.getElem?_cons_zero]; rfl)
    case hw17 => rfl
    case hy17 => (intro w hSw; (try dsimp only at hSw); go_simp; try (with_reducible rfl))
    (try simp only [Act.put,List.setIfInBounds_toArray,List.set_cons_zero,List.set_cons_succ])
    refine' wpAnyH_take (i:=16) (oi:=_) (v:=_) ?hi18 (by kernel_rfl) (by kernel_rfl) (by kernel_rfl) (fun _ _ _ h => h) (Or.inl ⟨?hw18, ?hy18⟩) hHeld1 ?rest18
    case hi18 => (simp only [List.getElem?_toArray,List.getElem?_cons_succ,List.getElem?_cons_zero]; rfl)
    case hw18 => rfl
    case hy18 => (intro w hSw; (try dsimp only at hSw); go_simp; try (with_reducible rfl))
    (try simp only [Act.put,List.setIfInBounds_toArray,List.set_cons_zero,List.set_cons_succ])
    refine wpAnyH_ready (rs:=[17]) (by kernel_rfl) (by simp) ?_
    refine' AllReadyH.cons (o:=_) ?ho20 (fun K hK => ?step20) ?more20
    case ho20 => (simp only [List.getElem?_toArray,List.getElem?_cons_succ,List.getElem?_cons_zero]; rfl)
    case step20 =>
     go_simp
     refine hK.out _ _ ?_ (fun hHeld2 => ?_)
     ·(try dsimp only); (first | exact HF.out _ kk | exact HF.out _ (kk.alloc _) | exact HF.out _ (((kk.set (.inr (Nat.le_refl _)) _).set (.inr (Nat.le_refl _)) _).set (.inr (Nat.le_refl _)) _))
     clear hK K hHeld1
     (try simp only [Act.put,List.setIfInBounds_toArray,List.set_cons_zero,List.set_cons_succ])
     refine wpAnyH_ready (rs:=[18]) (by kernel_rfl) (by simp) ?_
     refine' AllReadyH.cons (o:=_) ?ho22 (fun K hK => ?step22) ?more22
     case ho22 => (simp only [List.getElem?_toArray,List.getElem?_cons_succ,List.getElem?_cons_zero]; rfl)
     case step22 =>
      go_simp
      refine hK.out _ _ ?_ (fun hHeld3 => ?_)
      ·(try dsimp only); (first | exact HF.out _ kk | exact HF.out _ (kk.alloc _) | exact HF.out _ (((kk.set (.inr (Nat.le_refl _)) _).set (.inr (Nat.le_refl _)) _).set (.inr (Nat.le_refl _)) _))
      clear hK K hHeld2
      (try simp only [Act.put,List.setIfInBounds_toArray,List.set_cons_zero,List.set_cons_succ])
      refine' wpAnyH_take (i:=19) (oi:=_) (v:=_) ?hi23 (by kernel_rfl) (by kernel_rfl) (by kernel_rfl) (fun _ _ _ h => h) (Or.inl ⟨?hw23, ?hy23⟩) hHeld3 ?rest23
      case hi23 => (simp only [List.getElem?_toArray,List.getElem?_cons_succ,List.getElem?_cons_zero]; rfl)
      case hw23 => rfl
      case hy23 => (intro w hSw; (try dsimp only at hSw); go_simp; try (with_reducible rfl))
      (try simp only [Act.put,List.setIfInBounds_toArray,List.set_cons_zero,List.set_cons_succ])
      refine wpAnyH_done (by kernel_rfl) ?_ _
      refine NoPanic.normal ?_
      go_wp2_with fail
      go_meet
      first | exact ⟨_,_,rfl,rfl,hcode,At.new w2 (obO 0 0 0),kk.alloc _⟩ | exact ⟨_,_,rfl,rfl,hcode,((hO0.set 0 (.int .i64 0)).set 1 (.int .i64 0)).set 2 (.int .i64 0),((kk.set (.inr (Nat.le_refl _)) _).set (.inr (Nat.le_refl _)) _).set (.inr (Nat.le_refl _)) _⟩
     exact AllReadyH.nil
    exact AllReadyH.nil
   refine' AllReadyH.cons (o:=_) ?ho24 (fun K hK => ?step24) ?more24
   case ho24 => (simp only [List.getElem?_toArray,List.getElem?_cons_succ,List.getElem?_cons_zero]; rfl)
   case step24 =>
    go_simp
    refine hK.out _ _ ?_ (fun hHeld1 => ?_)
    ·(try dsimp only); (first | exact HF.out _ kk | exact HF.out _ (kk.alloc _) | exact HF.out _ (((kk.set (.inr (Nat.le_refl _)) _).set (.inr (Nat.le_refl _)) _).set (.inr (Nat.le_refl _)) _))
    clear hK K hHeld0
    (try simp only [Act.put,List.setIfInBounds_toArray,List.set_cons_zero,List.set_cons_succ])
    refine wpAnyH_ready (rs:=[13]) (by kernel_rfl) (by simp) ?_
    refine' AllReadyH.cons (o:=_) ?ho26 (fun K hK => ?step26) ?more26
    case ho26 => (simp only [List.getElem?_toArray,List.getElem?_cons_succ,List.getElem?_cons_zero]; rfl)
    case step26 =>
     go_simp
     (go_at_call 45; first | (refine (HOFN2.out _ kk).mono ?_; rintro e w2 ⟨⟨code,hcode,rfl⟩,hk9⟩; have kk:=kk.trans hk9; clear hk9) | (refine (HOFN2.out _ (kk.alloc _)).mono ?_; rintro e w2 ⟨⟨code,hcode,rfl⟩,hk9⟩; have hO0:=hk9.at (At.new w (obO 0 0 0)).drew (by simp); have o0:=hO0.cell 0 rfl; have o1:=hO0.cell 1 rfl; have o2:=hO0.cell 2 rfl; have g0:=hO0.free 0; have g1:=hO0.free 1; have g2:=hO0.free 2; have kk:=(kk.alloc _).trans hk9; clear hk9))
     (try go_wp2_with fail)
     refine hK.out _ _ ?_ (fun hHeld2 => ?_)
     ·(try dsimp only); (first | exact HF.out _ kk | exact HF.out _ (kk.alloc _) | exact HF.out _ (((kk.set (.inr (Nat.le_refl _)) _).set (.inr (Nat.le_refl _)) _).set (.inr (Nat.le_refl _)) _))
     clear hK K hHeld1
     (try simp only [Act.put,List.setIfInBounds_toArray,List.set_cons_zero,List.set_cons_succ])
     refine' wpAnyH_take (i:=14) (oi:=_) (v:=_) ?hi27 (by kernel_rfl) (by kernel_rfl) (by kernel_rfl) (fun _ _ _ h => h) (Or.inl ⟨?hw27, ?hy27⟩) hHeld2 ?rest27
     case hi27 => (simp only [List.getElem?_toArray,List.getElem?_cons_succ,List.getElem?_cons_zero]; rfl)
     case hw27 => rfl
     case hy27 => (intro w hSw; (try dsimp only at hSw); go_simp; try (with_reducible rfl))
     (try simp only [Act.put,List.setIfInBounds_toArray,List.set_cons_zero,List.set_cons_succ])
     refine' wpAnyH_take (i:=15) (oi:=_) (v:=_) ?hi28 (by kernel_rfl) (by kernel_rfl) (by kernel_rfl) (fun _ _ _ h => h) (Or.inl ⟨?hw28, ?hy28⟩) hHeld2 ?rest28
     case hi28 => (simp only [List.getElem?_toArray,List.getElem?_cons_succ,List.getElem?_cons_zero]; rfl)
     case hw28 => rfl
     case hy28 => (intro w hSw; (try dsimp only at hSw); go_simp; try (with_reducible rfl))
     (try simp only [Act.put,List.setIfInBounds_toArray,List.set_cons_zero,List.set_cons_succ])
     refine' wpAnyH_take (i:=16) (oi:=_) (v:=_) ?hi29 (by kernel_rfl) (by kernel_rfl) (by kernel_rfl) (fun _ _ _ h => h) (Or.inl ⟨?hw29, ?hy29⟩) hHeld2 ?rest29
     case hi29 => (simp only [List.getElem?_toArray,List.getElem?_cons_succ,List.getElem?_cons_zero]; rfl)
     case hw29 => rfl
     case hy29 => (intro w hSw; (try dsimp only at hSw); go_simp; try (with_reducible rfl))
     (try simp only [Act.put,List.setIfInBounds_toArray,List.set_cons_zero,List.set_cons_succ])
     refine wpAnyH_ready (rs:=[18]) (by kernel_rfl) (by simp) ?_
     refine' AllReadyH.cons (o:=_) ?ho31 (fun K hK => ?step31) ?more31
     case ho31 => (simp only [List.getElem?_toArray,List.getElem?_cons_succ,List.getElem?_cons_zero]; rfl)
     case step31 =>
      go_simp
      refine hK.out _ _ ?_ (fun hHeld3 => ?_)
      ·(try dsimp only); (first | exact HF.out _ kk | exact HF.out _ (kk.alloc _) | exact HF.out _ (((kk.set (.inr (Nat.le_refl _)) _).set (.inr (Nat.le_refl _)) _).set (.inr (Nat.le_refl _)) _))
      clear hK K hHeld2
      (try simp only [Act.put,List.setIfInBounds_toArray,List.set_cons_zero,List.set_cons_succ])
      refine' wpAnyH_take (i:=19) (oi:=_) (v:=_) ?hi32 (by kernel_rfl) (by kernel_rfl) (by kernel_rfl) (fun _ _ _ h => h) (Or.inl ⟨?hw32, ?hy32⟩) hHeld3 ?rest32
      case hi32 => (simp only [List.getElem?_toArray,List.getElem?_cons_succ,List.getElem?_cons_zero]; rfl)
      case hw32 => rfl
      case hy32 => (intro w hSw; (try dsimp only at hSw); go_simp; try (with_reducible rfl))
      (try simp only [Act.put,List.setIfInBounds_toArray,List.set_cons_zero,List.set_cons_succ])
      refine wpAnyH_done (by kernel_rfl) ?_ _
      refine NoPanic.normal ?_
      go_wp2_with fail
      go_meet
      first | exact ⟨_,_,rfl,rfl,hcode,At.new w2 (obO 0 0 0),kk.alloc _⟩ | exact ⟨_,_,rfl,rfl,hcode,((hO0.set 0 (.int .i64 0)).set 1 (.int .i64 0)).set 2 (.int .i64 0),((kk.set (.inr (Nat.le_refl _)) _).set (.inr (Nat.le_refl _)) _).set (.inr (Nat.le_refl _)) _⟩
     exact AllReadyH.nil
    exact AllReadyH.nil
   exact AllReadyH.nil
  case rest =>
   obtain ⟨wD,hwD⟩:∃ wD,wD = wc:=⟨_,rfl⟩
   subst hwD
   obtain ⟨ob,code,rfl,rfl,hcode,hOb,hK⟩:=hcut
   have t1:(code != 0) = true:=by simp [hcode]
   have HK:=hid hK
   clear hcode hOb hK kk
   go_upto_region 5 with fail
   refine wp_region_noPanic ?_
   refine wp_region_held_drew (S:=fun _ => True) (by kernel_rfl) ?_ (fun hHeld0 => ?_)
   ·(try dsimp only); (first | done | exact True.intro)
   refine' wpAnyH_take (i:=0) (oi:=_) (v:=_) ?hi33 (by kernel_rfl) (by kernel_rfl) (by kernel_rfl) (fun _ _ _ h => h) (Or.inl ⟨?hw33, ?hy33⟩) hHeld0 ?rest33
   case hi33 => (simp only [List.getElem?_toArray,List.getElem?_cons_zero]; rfl)
   case hw33 => rfl
   case hy33 => (intro w hSw; (try dsimp only at hSw); go_simp; try (with_reducible rfl))
   (try simp only [Act.put,List.setIfInBounds_toArray,List.set_cons_zero,List.set_cons_succ])
   refine' wpAnyH_take (i:=1) (oi:=_) (v:=_) ?hi34 (by kernel_rfl) (by kernel_rfl) (by kernel_rfl) (fun _ _ _ h => h) (Or.inl ⟨?hw34, ?hy34⟩) hHeld0 ?rest34
   case hi34 => (simp only [List.getElem?_toArray,List.getElem?_cons_succ,List.getElem?_cons_zero]; rfl)
   case hw34 => rfl
   case hy34 => (intro w hSw; (try dsimp only at hSw); go_simp; try (with_reducible rfl))
   (try simp only [Act.put,List.setIfInBounds_toArray,List.set_cons_zero,List.set_cons_succ])
   refine' wpAnyH_take (i:=2) (oi:=_) (v:=_) ?hi35 (by kernel_rfl) (by kernel_rfl) (by kernel_rfl) (fun _ _ _ h => h) (Or.inl ⟨?hw35, ?hy35⟩) hHeld0 ?rest35
   case hi35 => (simp only [List.getElem?_toArray,List.getElem?_cons_succ,List.getElem?_cons_zero]; rfl)
   case hw35 => rfl
   case hy35 => (intro w hSw; (try dsimp only at hSw); go_simp; try (with_reducible rfl))
   (try simp only [Act.put,List.setIfInBounds_toArray,List.set_cons_zero,List.set_cons_succ])
   refine' wpAnyH_take (i:=3) (oi:=_) (v:=_) ?hi36 (by kernel_rfl) (by kernel_rfl) (by kernel_rfl) (fun _ _ _ h => h) (Or.inr ⟨?hw36,rfl⟩) hHeld0 ?rest36
   case hi36 => (simp only [List.getElem?_toArray,List.getElem?_cons_succ,List.getElem?_cons_zero]; rfl)
   case hw36 => rfl
   (try simp only [Act.put,List.setIfInBounds_toArray,List.set_cons_zero,List.set_cons_succ])
   refine' wpAnyH_take (i:=4) (oi:=_) (v:=_) ?hi37 (by kernel_rfl) (by kernel_rfl) (by kernel_rfl) (fun _ _ _ h => h) (Or.inr ⟨?hw37,rfl⟩) hHeld0 ?rest37
   case hi37 => (simp only [List.getElem?_toArray,List.getElem?_cons_succ,List.getElem?_cons_zero]; rfl)
   case hw37 => rfl
   (try simp only [Act.put,List.setIfInBounds_toArray,List.set_cons_zero,List.set_cons_succ])
   refine' wpAnyH_take (i:=5) (oi:=_) (v:=_) ?hi38 (by kernel_rfl) (by kernel_rfl) (by kernel_rfl) (fun _ _ _ h => h) (Or.inr ⟨?hw38,rfl⟩) hHeld0 ?rest38
   case hi38 => (simp only [List.getElem?_toArray,List.getElem?_cons_succ,List.getElem?_cons_zero]; rfl)
   case hw38 => rfl
   (try simp only [Act.put,List.setIfInBounds_toArray,List.set_cons_zero,List.set_cons_succ])
   refine' wpAnyH_take (i:=6) (oi:=_) (v:=_) ?hi39 (by kernel_rfl) (by kernel_rfl) (by kernel_rfl) (fun _ _ _ h => h) (Or.inr ⟨?hw39,rfl⟩) hHeld0 ?rest39
   case hi39 => (simp only [List.getElem?_toArray,List.getElem?_cons_succ,List.getElem?_cons_zero]; rfl)
   case hw39 => rfl
   (try simp only [Act.put,List.setIfInBounds_toArray,List.set_cons_zero,List.set_cons_succ])
   refine' wpAnyH_take (i:=7) (oi:=_) (v:=_) ?hi40 (by kernel_rfl) (by kernel_rfl) (by kernel_rfl) (fun _ _ _ h => h) (Or.inr ⟨?hw40,rfl⟩) hHeld0 ?rest40
   case hi40 => (simp only [List.getElem?_toArray,List.getElem?_cons_succ,List.getElem?_cons_zero]; rfl)
   case hw40 => rfl
   (try simp only [Act.put,List.setIfInBounds_toArray,List.set_cons_zero,List.set_cons_succ])
   refine' wpAnyH_take (i:=8) (oi:=_) (v:=_) ?hi41 (by kernel_rfl) (by kernel_rfl) (by kernel_rfl) (fun _ _ _ h => h) (Or.inr ⟨?hw41,rfl⟩) hHeld0 ?rest41
   case hi41 => (simp only [List.getElem?_toArray,List.getElem?_cons_succ,List.getElem?_cons_zero]; rfl)
   case hw41 => rfl
   (try simp only [Act.put,List.setIfInBounds_toArray,List.set_cons_zero,List.set_cons_succ])
   refine' wpAnyH_take (i:=9) (oi:=_) (v:=_) ?hi42 (by kernel_rfl) (by kernel_rfl) (by kernel_rfl) (fun _ _ _ h => h) (Or.inr ⟨?hw42,rfl⟩) hHeld0 ?rest42
   case hi42 => (simp only [List.getElem?_toArray,List.getElem?_cons_succ,List.getElem?_cons_zero]; rfl)
   case hw42 => rfl
   (try simp only [Act.put,List.setIfInBounds_toArray,List.set_cons_zero,List.set_cons_succ])
   refine' wpAnyH_take (i:=10) (oi:=_) (v:=_) ?hi43 (by kernel_rfl) (by kernel_rfl) (by kernel_rfl) (fun _ _ _ h => h) (Or.inr ⟨?hw43,rfl⟩) hHeld0 ?rest43
   case hi43 => (simp only [List.getElem?_toArray,List.getElem?_cons_succ,List.getElem?_cons_zero]; rfl)
   case hw43 => rfl
   (try simp only [Act.put,List.setIfInBounds_toArray,List.set_cons_zero,List.set_cons_succ])
   refine' wpAnyH_take (i:=11) (oi:=_) (v:=_) ?hi44 (by kernel_rfl) (by kernel_rfl) (by kernel_rfl) (fun _ _ _ h => h) (Or.inr ⟨?hw44,rfl⟩) hHeld0 ?rest44
   case hi44 => (simp only [List.getElem?_toArray,List.getElem?_cons_succ,List.getElem?_cons_zero]; rfl)
   case hw44 => rfl
   (try simp only [Act.put,List.setIfInBounds_toArray,List.set_cons_zero,List.set_cons_succ])
   refine' wpAnyH_take (i:=12) (oi:=_) (v:=_) ?hi45 (by kernel_rfl) (by kernel_rfl) (by kernel_rfl) (fun _ _ _ h => h) (Or.inr ⟨?hw45,rfl⟩) hHeld0 ?rest45
   case hi45 => (simp only [List.getElem?_toArray,List.getElem?_cons_succ,List.getElem?_cons_zero]; rfl)
   case hw45 => rfl
   (try simp only [Act.put,List.setIfInBounds_toArray,List.set_cons_zero,List.set_cons_succ])
   refine' wpAnyH_take (i:=13) (oi:=_) (v:=_) ?hi46 (by kernel_rfl) (by kernel_rfl) (by kernel_rfl) (fun _ _ _ h => h) (Or.inr ⟨?hw46,rfl⟩) hHeld0 ?rest46
   case hi46 => (simp only [List.getElem?_toArray,List.getElem?_cons_succ,List.getElem?_cons_zero]; rfl)
   case hw46 => rfl
   (try simp only [Act.put,List.setIfInBounds_toArray,List.set_cons_zero,List.set_cons_succ])
   refine' wpAnyH_take (i:=14) (oi:=_) (v:=_) ?hi47 (by kernel_rfl) (by kernel_rfl) (by kernel_rfl) (fun _ _ _ h => h) (Or.inr ⟨?hw47,rfl⟩) hHeld0 ?rest47
   case hi47 => (simp only [List.getElem?_toArray,List.getElem?_cons_succ,List.getElem?_cons_zero]; rfl)
   case hw47 => rfl
   (try simp only [Act.put,List.setIfInBounds_toArray,List.set_cons_zero,List.set_cons_succ])
   refine' wpAnyH_take (i:=15) (oi:=_) (v:=_) ?hi48 (by kernel_rfl) (by kernel_rfl) (by kernel_rfl) (fun _ _ _ h => h) (Or.inr ⟨?hw48,rfl⟩) hHeld0 ?rest48
   case hi48 => (simp only [List.getElem?_toArray,List.getElem?_cons_succ,List.getElem?_cons_zero]; rfl)
   case hw48 => rfl
   (try simp only [Act.put,List.setIfInBounds_toArray,List.set_cons_zero,List.set_cons_succ])
   refine' wpAnyH_take (i:=16) (oi:=_) (v:=_) ?hi49 (by kernel_rfl) (by kernel_rfl) (by kernel_rfl) (fun _ _ _ h => h) (Or.inr ⟨?hw49,rfl⟩) hHeld0 ?rest49
   case hi49 => (simp only [List.getElem?_toArray,List.getElem?_cons_succ,List.getElem?_cons_zero]; rfl)
   case hw49 => rfl
   (try simp only [Act.put,List.setIfInBounds_toArray,List.set_cons_zero,List.set_cons_succ])
   refine' wpAnyH_take (i:=17) (oi:=_) (v:=_) ?hi50 (by kernel_rfl) (by kernel_rfl) (by kernel_rfl) (fun _ _ _ h => h) (Or.inr ⟨?hw50,rfl⟩) hHeld0 ?rest50
   case hi50 => (simp only [List.getElem?_toArray,List.getElem?_cons_succ,List.getElem?_cons_zero]; rfl)
   case hw50 => rfl
   (try simp only [Act.put,List.setIfInBounds_toArray,List.set_cons_zero,List.set_cons_succ])
   refine' wpAnyH_take (i:=18) (oi:=_) (v:=_) ?hi51 (by kernel_rfl) (by kernel_rfl) (by kernel_rfl) (fun _ _ _ h => h) (Or.inl ⟨?hw51, ?hy51⟩) hHeld0 ?rest51
   case hi51 => (simp only [List.getElem?_toArray,List.getElem?_cons_succ,List.getElem?_cons_zero]; rfl)
   case hw51 => rfl
   case hy51 => (intro w hSw; (try dsimp only at hSw); go_simp; try (with_reducible rfl))
   (try simp only [Act.put,List.setIfInBounds_toArray,List.set_cons_zero,List.set_cons_succ])
   refine wpAnyH_done (by kernel_rfl) ?_ _
   refine NoPanic.normal ?_
   go_wp2_with fail
   go_ret
   exact .inl <| brL_same (z:=0) HC.out HPW.out HJ.out (HK.out.drew) HSE.out (by unfold wO; rw [if_neg HIN.out])
 | true =>
  have HSE:Hid (seeW P.S P.c P.k P.us out v = out ++ [v]):=seeW_yes ho HIN.out
  have hX:P.LS[out.length]? = some v:=HPRE.out.see ho HIN.out
  have hpo:=HPRE.out.of_see
  obtain ⟨-, -,hsz⟩:=hpo.next hX
  obtain ⟨nn,hnn⟩:∃ nn,nn = hdN (P.S.now v).toNat:=⟨_,rfl⟩
  obtain ⟨rr,hrr⟩:∃ rr,rr = hdR (P.S.now v).toNat:=⟨_,rfl⟩
  obtain ⟨x1,x2,x3,x4,x5⟩:=ob_yes ho
  rw [← hnn, ← hrr] at x5
  have hn64:=isHd_pk x3
  rw [← hnn] at hn64 hsz
  rw [← HU.out] at hsz
  have hs2:=HSZ2.out
  have HOFY2:=hid (HOFY.out nn rr x5)
  have hnni:(nn:Int) ≤ 64:=by omega
  have hfit:U + (nn + 1) ≤ P.c.space:=by omega
  have HXN:=hid (And.intro hX (And.intro hnn hrr))
  have HFIT:=hid hfit
  clear ho hX hpo hsz hnn hrr x1 x2 x3 x4 x5 hn64 hs2 hfit
  go_cut [7,8] from 20 to 36 (fun s7 s8 wx => ∃ (ob:Nat) (code:Int),s7 = ptr ob ∧ s8 = .int .i64 code ∧ code = 0 ∧ At wx ob (obO (nn:Nat) (rr:Nat) (v:Nat)) ∧ Keeps [] w wx)
  case first =>
   refine wp_region_noPanic ?_
   refine wp_region_held_drew (S:=fun w' => w'.cell? ⟨x,0,none⟩ = some (ptr P.a.d) ∧ w'.cell? ⟨x,1,none⟩ = some (.int .i64 P.c.log) ∧ w'.cell? ⟨x,2,none⟩ = some (.int .i64 P.c.roots) ∧ w'.cell? ⟨x,3,none⟩ = some (.int .i64 P.c.space) ∧ w'.cell? ⟨x,4,none⟩ = some (.int .i64 (P.k:Nat)) ∧ w'.cell? ⟨x,5,none⟩ = some (.int .i64 (P.us:Nat)) ∧ w'.cell? ⟨x,6,none⟩ = some (.slice yr P.rs.length cr)) (by kernel_rfl) ?_ (fun hHeld0 => ?_)
   ·(try dsimp only); (first | exact HF.out _ kk | exact HF.out _ (kk.alloc _) | exact HF.out _ (((kk.set (.inr (Nat.le_refl _)) _).set (.inr (Nat.le_refl _)) _).set (.inr (Nat.le_refl _)) _))
   refine' wpAnyH_take (i:=0) (oi:=_) (v:=_) ?hi52 (by kernel_rfl) (by kernel_rfl) (by kernel_rfl) (fun _ _ _ h => h) (Or.inl ⟨?hw52, ?hy52⟩) hHeld0 ?rest52
   case hi52 => (simp only [List.getElem?_toArray,List.getElem?_cons_zero]; rfl)
   case hw52 => rfl
   case hy52 => (intro w hSw; (try dsimp only at hSw); go_simp; try (with_reducible rfl))
   (try simp only [Act.put,List.setIfInBounds_toArray,List.set_cons_zero,List.set_cons_succ])
   refine' wpAnyH_take (i:=1) (oi:=_) (v:=_) ?hi53 (by kernel_rfl) (by kernel_rfl) (by kernel_rfl) (fun _ _ _ h => h) (Or.inl ⟨?hw53, ?hy53⟩) hHeld0 ?rest53
   case hi53 => (simp only [List.getElem?_toArray,List.getElem?_cons_succ,List.getElem?_cons_zero]; rfl)
   case hw53 => rfl
   case hy53 => (intro w hSw; (try dsimp only at hSw); go_simp; try (with_reducible rfl))
   (try simp only [Act.put,List.setIfInBounds_toArray,List.set_cons_zero,List.set_cons_succ])
   refine' wpAnyH_take (i:=2) (oi:=_) (v:=_) ?hi54 (by kernel_rfl) (by kernel_rfl) (by kernel_rfl) (fun _ _ _ h => h) (Or.inl ⟨?hw54, ?hy54⟩) hHeld0 ?rest54
   case hi54 => (simp only [List.getElem?_toArray,List.getElem?_cons_succ,List.getElem?_cons_zero]; rfl)
   case hw54 => rfl
   case hy54 => (intro w hSw; (try dsimp only at hSw); go_simp; try (with_reducible rfl))
   (try simp only [Act.put,List.setIfInBounds_toArray,List.set_cons_zero,List.set_cons_succ])
   refine' wpAnyH_take (i:=3) (oi:=_) (v:=_) ?hi55 (by kernel_rfl) (by kernel_rfl) (by kernel_rfl) (fun _ _ _ h => h) (Or.inl ⟨?hw55, ?hy55⟩) hHeld0 ?rest55
   case hi55 => (simp only [List.getElem?_toArray,List.getElem?_cons_succ,List.getElem?_cons_zero]; rfl)
   case hw55 => rfl
   case hy55 => (intro w hSw; (try dsimp only at hSw); go_simp; try (with_reducible rfl))
   (try simp only [Act.put,List.setIfInBounds_toArray,List.set_cons_zero,List.set_cons_succ])
   refine' wpAnyH_take (i:=4) (oi:=_) (v:=_) ?hi56 (by kernel_rfl) (by kernel_rfl) (by kernel_rfl) (fun _ _ _ h => h) (Or.inl ⟨?hw56, ?hy56⟩) hHeld0 ?rest56
   case hi56 => (simp only [List.getElem?_toArray,List.getElem?_cons_succ,List.getElem?_cons_zero]; rfl)
   case hw56 => rfl
   case hy56 => (intro w hSw; (try dsimp only at hSw); go_simp; try (with_reducible rfl))
   (try simp only [Act.put,List.setIfInBounds_toArray,List.set_cons_zero,List.set_cons_succ])
   refine' wpAnyH_take (i:=5) (oi:=_) (v:=_) ?hi57 (by kernel_rfl) (by kernel_rfl) (by kernel_rfl) (fun _ _ _ h => h) (Or.inl ⟨?hw57, ?hy57⟩) hHeld0 ?rest57
   case hi57 => (simp only [List.getElem?_toArray,List.getElem?_cons_succ,List.getElem?_cons_zero]; rfl)
   case hw57 => rfl
   case hy57 => (intro w hSw; (try dsimp only at hSw); go_simp; try (with_reducible rfl))
   (try simp only [Act.put,List.setIfInBounds_toArray,List.set_cons_zero,List.set_cons_succ])
   refine' wpAnyH_take (i:=6) (oi:=_) (v:=_) ?hi58 (by kernel_rfl) (by kernel_rfl) (by kernel_rfl) (fun _ _ _ h => h) (Or.inl ⟨?hw58, ?hy58⟩) hHeld0 ?rest58
   case hi58 => (simp only [List.getElem?_toArray,List.getElem?_cons_succ,List.getElem?_cons_zero]; rfl)
   case hw58 => rfl
   case hy58 => (intro w hSw; (try dsimp only at hSw); go_simp; try (with_reducible rfl))
   (try simp only [Act.put,List.setIfInBounds_toArray,List.set_cons_zero,List.set_cons_succ])
   refine' wpAnyH_take (i:=7) (oi:=_) (v:=_) ?hi59 (by kernel_rfl) (by kernel_rfl) (by kernel_rfl) (fun _ _ _ h => h) (Or.inl ⟨?hw59, ?hy59⟩) hHeld0 ?rest59
   case hi59 => (simp only [List.getElem?_toArray,List.getElem?_cons_succ,List.getElem?_cons_zero]; rfl)
   case hw59 => rfl
   case hy59 => (intro w hSw; (try dsimp only at hSw); go_simp; try (with_reducible rfl))
   (try simp only [Act.put,List.setIfInBounds_toArray,List.set_cons_zero,List.set_cons_succ])
   refine' wpAnyH_take (i:=8) (oi:=_) (v:=_) ?hi60 (by kernel_rfl) (by kernel_rfl) (by kernel_rfl) (fun _ _ _ h => h) (Or.inl ⟨?hw60, ?hy60⟩) hHeld0 ?rest60
   case hi60 => (simp only [List.getElem?_toArray,List.getElem?_cons_succ,List.getElem?_cons_zero]; rfl)
   case hw60 => rfl
   case hy60 => (intro w hSw; (try dsimp only at hSw); go_simp; try (with_reducible rfl))
   (try simp only [Act.put,List.setIfInBounds_toArray,List.set_cons_zero,List.set_cons_succ])
   refine' wpAnyH_take (i:=9) (oi:=_) (v:=_) ?hi61 (by kernel_rfl) (by kernel_rfl) (by kernel_rfl) (fun _ _ _ h => h) (Or.inl ⟨?hw61, ?hy61⟩) hHeld0 ?rest61
   case hi61 => (simp only [List.getElem?_toArray,List.getElem?_cons_succ,List.getElem?_cons_zero]; rfl)
   case hw61 => rfl
   case hy61 => (intro w hSw; (try dsimp only at hSw); go_simp; try (with_reducible rfl))
   (try simp only [Act.put,List.setIfInBounds_toArray,List.set_cons_zero,List.set_cons_succ])
   refine' wpAnyH_take (i:=10) (oi:=_) (v:=_) ?hi62 (by kernel_rfl) (by kernel_rfl) (by kernel_rfl) (fun _ _ _ h => h) (Or.inl ⟨?hw62, ?hy62⟩) hHeld0 ?rest62
   case hi62 => (simp only [List.getElem?_toArray,List.getElem?_cons_succ,List.getElem?_cons_zero]; rfl)
   case hw62 => rfl
   case hy62 => (intro w hSw; (try dsimp only at hSw); go_simp; try (with_reducible rfl))
   (try simp only [Act.put,List.setIfInBounds_toArray,List.set_cons_zero,List.set_cons_succ])
   refine' wpAnyH_take (i:=11) (oi:=_) (v:=_) ?hi63 (by kernel_rfl) (by kernel_rfl) (by kernel_rfl) (fun _ _ _ h => h) (Or.inl ⟨?hw63, ?hy63⟩) hHeld0 ?rest63
   case hi63 => (simp only [List.getElem?_toArray,List.getElem?_cons_succ,List.getElem?_cons_zero]; rfl)
   case hw63 => rfl
   case hy63 => (intro w hSw; (try dsimp only at hSw); go_simp; try (with_reducible rfl))
   (try simp only [Act.put,List.setIfInBounds_toArray,List.set_cons_zero,List.set_cons_succ])
   refine' wpAnyH_take (i:=12) (oi:=_) (v:=_) ?hi64 (by kernel_rfl) (by kernel_rfl) (by kernel_rfl) (fun _ _ _ h => h) (Or.inl ⟨?hw64, ?hy64⟩) hHeld0 ?rest64
   case hi64 => (simp only [List.getElem?_toArray,List.getElem?_cons_succ,List.getElem?_cons_zero]; rfl)
   case hw64 => rfl
   case hy64 => (intro w hSw; (try dsimp only at hSw); go_simp; try (with_reducible rfl))
   (try simp only [Act.put,List.setIfInBounds_toArray,List.set_cons_zero,List.set_cons_succ])
   refine wpAnyH_ready (rs:=[13,17]) (by kernel_rfl) (by simp) ?_
   refine' AllReadyH.cons (o:=_) ?ho66 (fun K hK => ?step66) ?more66
   case ho66 => (simp only [List.getElem?_toArray,List.getElem?_cons_succ,List.getElem?_cons_zero]; rfl)
   case step66 =>
    go_simp
    (go_at_call 45; first | (refine (HOFY2.out _ kk).mono ?_; rintro e w2 ⟨rfl,hk9⟩; have kk:=kk.trans hk9; clear hk9) | (refine (HOFY2.out _ (kk.alloc _)).mono ?_; rintro e w2 ⟨rfl,hk9⟩; have hO0:=hk9.at (At.new w (obO 0 0 0)).drew (by simp); have o0:=hO0.cell 0 rfl; have o1:=hO0.cell 1 rfl; have o2:=hO0.cell 2 rfl; have g0:=hO0.free 0; have g1:=hO0.free 1; have g2:=hO0.free 2; have kk:=(kk.alloc _).trans hk9; clear hk9))
    (try go_wp2_with fail)
    refine hK.out _ _ ?_ (fun hHeld1 => ?_)
    ·(try dsimp only); (first | exact HF.out _ kk | exact HF.out _ (kk.alloc _) | exact HF.out _ (((kk.set (.inr (Nat.le_refl _)) _).set (.inr (Nat.le_refl _)) _).set (.inr (Nat.le_refl _)) _))
    clear hK K hHeld0
    (try simp only [Act.put,List.setIfInBounds_toArray,List.set_cons_zero,List.set_cons_succ])
    refine' wpAnyH_take (i:=14) (oi:=_) (v:=_) ?hi67 (by kernel_rfl) (by kernel_rfl) (by kernel_rfl) (fun _ _ _ h => h) (Or.inl ⟨?hw67, ?hy67⟩) hHeld1 ?rest67
    case hi67 => (simp only [List.getElem?_toArray,List.getElem?_cons_succ,List.getElem?_cons_zero]; rfl)
    case hw67 => rfl
    case hy67 => (intro w hSw; (try dsimp only at hSw); go_simp; try (with_reducible rfl))
    (try simp only [Act.put,List.setIfInBounds_toArray,List.set_cons_zero,List.set_cons_succ])
    refine' wpAnyH_take (i:=15) (oi:=_) (v:=_) ?hi68 (by kernel_rfl) (by kernel_rfl) (by kernel_rfl) (fun _ _ _ h => h) (Or.inl ⟨?hw68, ?hy68⟩) hHeld1 ?rest68
    case hi68 => (simp only [List.getElem?_toArray,List.getElem?_cons_succ,List.getElem?_cons_zero]; rfl)
    case hw68 => rfl
    case hy68 => (intro w hSw; (try dsimp only at hSw); go_simp; try (with_reducible rfl))
    (try simp only [Act.put,List.setIfInBounds_toArray,List.set_cons_zero,List.set_cons_succ])
    refine' wpAnyH_take (i:=16) (oi:=_) (v:=_) ?hi69 (by kernel_rfl) (by kernel_rfl) (by kernel_rfl) (fun _ _ _ h => h) (Or.inl ⟨?hw69, ?hy69⟩) hHeld1 ?rest69
    case hi69 => (simp only [List.getElem?_toArray,List.getElem?_cons_succ,List.getElem?_cons_zero]; rfl)
    case hw69 => rfl
    case hy69 => (intro w hSw; (try dsimp only at hSw); go_simp; try (with_reducible rfl))
    (try simp only [Act.put,List.setIfInBounds_toArray,List.set_cons_zero,List.set_cons_succ])
    refine wpAnyH_ready (rs:=[17]) (by kernel_rfl) (by simp) ?_
    refine' AllReadyH.cons (o:=_) ?ho71 (fun K hK => ?step71) ?more71
    case ho71 => (simp only [List.getElem?_toArray,List.getElem?_cons_succ,List.getElem?_cons_zero]; rfl)
    case step71 =>
     go_simp
     refine hK.out _ _ ?_ (fun hHeld2 => ?_)
     ·(try dsimp only); (first | exact HF.out _ kk | exact HF.out _ (kk.alloc _) | exact HF.out _ (((kk.set (.inr (Nat.le_refl _)) _).set (.inr (Nat.le_refl _)) _).set (.inr (Nat.le_refl _)) _))
     clear hK K hHeld1
     (try simp only [Act.put,List.setIfInBounds_toArray,List.set_cons_zero,List.set_cons_succ])
     refine wpAnyH_ready (rs:=[18]) (by kernel_rfl) (by simp) ?_
     refine' AllReadyH.cons (o:=_) ?ho73 (fun K hK => ?step73) ?more73
     case ho73 => (simp only [List.getElem?_toArray,List.getElem?_cons_succ,List.getElem?_cons_zero]; rfl)
     case step73 =>
      go_simp
      refine hK.out _ _ ?_ (fun hHeld3 => ?_)
      ·(try dsimp only); (first | exact HF.out _ kk | exact HF.out _ (kk.alloc _) | exact HF.out _ (((kk.set (.inr (Nat.le_refl _)) _).set (.inr (Nat.le_refl _)) _).set (.inr (Nat.le_refl _)) _))
      clear hK K hHeld2
      (try simp only [Act.put,List.setIfInBounds_toArray,List.set_cons_zero,List.set_cons_succ])
      refine' wpAnyH_take (i:=19) (oi:=_) (v:=_) ?hi74 (by kernel_rfl) (by kernel_rfl) (by kernel_rfl) (fun _ _ _ h => h) (Or.inl ⟨?hw74, ?hy74⟩) hHeld3 ?rest74
      case hi74 => (simp only [List.getElem?_toArray,List.getElem?_cons_succ,List.getElem?_cons_zero]; rfl)
      case hw74 => rfl
      case hy74 => (intro w hSw; (try dsimp only at hSw); go_simp; try (with_reducible rfl))
      (try simp only [Act.put,List.setIfInBounds_toArray,List.set_cons_zero,List.set_cons_succ])
      refine wpAnyH_done (by kernel_rfl) ?_ _
      refine NoPanic.normal ?_
      go_wp2_with fail
      go_meet
      first | exact ⟨_,0,rfl,rfl,rfl,At.new w2 (obO (nn:Nat) (rr:Nat) (v:Nat)),kk.alloc _⟩ | exact ⟨_,0,rfl,rfl,rfl,((hO0.set 0 (.int .i64 (nn:Nat))).set 1 (.int .i64 (rr:Nat))).set 2 (.int .i64 (v:Nat)),((kk.set (.inr (Nat.le_refl _)) _).set (.inr (Nat.le_refl _)) _).set (.inr (Nat.le_refl _)) _⟩
     exact AllReadyH.nil
    exact AllReadyH.nil
   refine' AllReadyH.cons (o:=_) ?ho75 (fun K hK => ?step75) ?more75
   case ho75 => (simp only [List.getElem?_toArray,List.getElem?_cons_succ,List.getElem?_cons_zero]; rfl)
   case step75 =>
    go_simp
    refine hK.out _ _ ?_ (fun hHeld1 => ?_)
    ·(try dsimp only); (first | exact HF.out _ kk | exact HF.out _ (kk.alloc _) | exact HF.out _ (((kk.set (.inr (Nat.le_refl _)) _).set (.inr (Nat.le_refl _)) _).set (.inr (Nat.le_refl _)) _))
    clear hK K hHeld0
    (try simp only [Act.put,List.setIfInBounds_toArray,List.set_cons_zero,List.set_cons_succ])
    refine wpAnyH_ready (rs:=[13]) (by kernel_rfl) (by simp) ?_
    refine' AllReadyH.cons (o:=_) ?ho77 (fun K hK => ?step77) ?more77
    case ho77 => (simp only [List.getElem?_toArray,List.getElem?_cons_succ,List.getElem?_cons_zero]; rfl)
    case step77 =>
     go_simp
     (go_at_call 45; first | (refine (HOFY2.out _ kk).mono ?_; rintro e w2 ⟨rfl,hk9⟩; have kk:=kk.trans hk9; clear hk9) | (refine (HOFY2.out _ (kk.alloc _)).mono ?_; rintro e w2 ⟨rfl,hk9⟩; have hO0:=hk9.at (At.new w (obO 0 0 0)).drew (by simp); have o0:=hO0.cell 0 rfl; have o1:=hO0.cell 1 rfl; have o2:=hO0.cell 2 rfl; have g0:=hO0.free 0; have g1:=hO0.free 1; have g2:=hO0.free 2; have kk:=(kk.alloc _).trans hk9; clear hk9))
     (try go_wp2_with fail)
     refine hK.out _ _ ?_ (fun hHeld2 => ?_)
     ·(try dsimp only); (first | exact HF.out _ kk | exact HF.out _ (kk.alloc _) | exact HF.out _ (((kk.set (.inr (Nat.le_refl _)) _).set (.inr (Nat.le_refl _)) _).set (.inr (Nat.le_refl _)) _))
     clear hK K hHeld1
     (try simp only [Act.put,List.setIfInBounds_toArray,List.set_cons_zero,List.set_cons_succ])
     refine' wpAnyH_take (i:=14) (oi:=_) (v:=_) ?hi78 (by kernel_rfl) (by kernel_rfl) (by kernel_rfl) (fun _ _ _ h => h) (Or.inl ⟨?hw78, ?hy78⟩) hHeld2 ?rest78
     case hi78 => (simp only [List.getElem?_toArray,List.getElem?_cons_succ,List.getElem?_cons_zero]; rfl)
     case hw78 => rfl
     case hy78 => (intro w hSw; (try dsimp only at hSw); go_simp; try (with_reducible rfl))
     (try simp only [Act.put,List.setIfInBounds_toArray,List.set_cons_zero,List.set_cons_succ])
     refine' wpAnyH_take (i:=15) (oi:=_) (v:=_) ?hi79 (by kernel_rfl) (by kernel_rfl) (by kernel_rfl) (fun _ _ _ h => h) (Or.inl ⟨?hw79, ?hy79⟩) hHeld2 ?rest79
     case hi79 => (simp only [List.getElem?_toArray,List.getElem?_cons_succ,List.getElem?_cons_zero]; rfl)
     case hw79 => rfl
     case hy79 => (intro w hSw; (try dsimp only at hSw); go_simp; try (with_reducible rfl))
     (try simp only [Act.put,List.setIfInBounds_toArray,List.set_cons_zero,List.set_cons_succ])
     refine' wpAnyH_take (i:=16) (oi:=_) (v:=_) ?hi80 (by kernel_rfl) (by kernel_rfl) (by kernel_rfl) (fun _ _ _ h => h) (Or.inl ⟨?hw80, ?hy80⟩) hHeld2 ?rest80
     case hi80 => (simp only [List.getElem?_toArray,List.getElem?_cons_succ,List.getElem?_cons_zero]; rfl)
     case hw80 => rfl
     case hy80 => (intro w hSw; (try dsimp only at hSw); go_simp; try (with_reducible rfl))
     (try simp only [Act.put,List.setIfInBounds_toArray,List.set_cons_zero,List.set_cons_succ])
     refine wpAnyH_ready (rs:=[18]) (by kernel_rfl) (by simp) ?_
     refine' AllReadyH.cons (o:=_) ?ho82 (fun K hK => ?step82) ?more82
     case ho82 => (simp only [List.getElem?_toArray,List.getElem?_cons_succ,List.getElem?_cons_zero]; rfl)
     case step82 =>
      go_simp
      refine hK.out _ _ ?_ (fun hHeld3 => ?_)
      ·(try dsimp only); (first | exact HF.out _ kk | exact HF.out _ (kk.alloc _) | exact HF.out _ (((kk.set (.inr (Nat.le_refl _)) _).set (.inr (Nat.le_refl _)) _).set (.inr (Nat.le_refl _)) _))
      clear hK K hHeld2
      (try simp only [Act.put,List.setIfInBounds_toArray,List.set_cons_zero,List.set_cons_succ])
      refine' wpAnyH_take (i:=19) (oi:=_) (v:=_) ?hi83 (by kernel_rfl) (by kernel_rfl) (by kernel_rfl) (fun _ _ _ h => h) (Or.inl ⟨?hw83, ?hy83⟩) hHeld3 ?rest83
      case hi83 => (simp only [List.getElem?_toArray,List.getElem?_cons_succ,List.getElem?_cons_zero]; rfl)
      case hw83 => rfl
      case hy83 => (intro w hSw; (try dsimp only at hSw); go_simp; try (with_reducible rfl))
      (try simp only [Act.put,List.setIfInBounds_toArray,List.set_cons_zero,List.set_cons_succ])
      refine wpAnyH_done (by kernel_rfl) ?_ _
      refine NoPanic.normal ?_
      go_wp2_with fail
      go_meet
      first | exact ⟨_,0,rfl,rfl,rfl,At.new w2 (obO (nn:Nat) (rr:Nat) (v:Nat)),kk.alloc _⟩ | exact ⟨_,0,rfl,rfl,rfl,((hO0.set 0 (.int .i64 (nn:Nat))).set 1 (.int .i64 (rr:Nat))).set 2 (.int .i64 (v:Nat)),((kk.set (.inr (Nat.le_refl _)) _).set (.inr (Nat.le_refl _)) _).set (.inr (Nat.le_refl _)) _⟩
     exact AllReadyH.nil
    exact AllReadyH.nil
   exact AllReadyH.nil
  case rest =>
   obtain ⟨wD,hwD⟩:∃ wD,wD = wc:=⟨_,rfl⟩
   subst hwD
   obtain ⟨ob,code,rfl,rfl,rfl,hOb,hK⟩:=hcut
   have hBD:=hK.at HB.out (by simp)
   have HK:=hid hK
   have HOB:=hid hOb
   have HF5:Hid (∀ w',Keeps [] wD w' → (w'.cell? ⟨x,3,none⟩ = some (.int .i64 P.c.space) ∧ w'.cell? ⟨x,8,none⟩ = some (.int .i64 (U:Nat)) ∧ w'.cell? ⟨ob,0,none⟩ = some (.int .i64 (nn:Nat)) ∧ w'.cell? ⟨ob,1,none⟩ = some (.int .i64 (rr:Nat)))):=fun w' hk => by
    have g1:=hk.at hBD (by simp)
    have g2:=hk.at hOb (by simp)
    exact ⟨g1.cell 3 rfl,g1.cell 8 rfl,g2.cell 0 rfl,g2.cell 1 rfl⟩
   have e1:IntKind.i64.wrap ((P.c.space:Int) - (U:Int)) = (P.c.space:Int) - (U:Int):=IntWalk.i64_in _ (by omega)
   have t1:decide ((P.c.space:Int) - (U:Int) < (nn:Int) + 1) = false:=decide_eq_false (by have:=HFIT.out; omega)
   have t2:(nn:Int) + 1 ≤ (P.c.space:Int) - (U:Int):=by have:=HFIT.out; omega
   have HSZ:=hid (fun w => hsize_at w nn rr (by omega))
   clear hOb hK kk hBD
   go_upto_region 5 with fail
   have kk:Keeps [] wD wD.drew:=(Keeps.refl _ _).drew
   go_region_held3 (fun w' => w'.cell? ⟨x,3,none⟩ = some (.int .i64 P.c.space) ∧ w'.cell? ⟨x,8,none⟩ = some (.int .i64 (U:Nat)) ∧ w'.cell? ⟨ob,0,none⟩ = some (.int .i64 (nn:Nat)) ∧ w'.cell? ⟨ob,1,none⟩ = some (.int .i64 (rr:Nat)))
    (exact HF5.out _ kk)
    (first
      | (go_at_call 88; refine (HSZ.out _).mono ?_; rintro e w' ⟨rfl,hk9⟩; have kk:=kk.trans hk9; clear hk9))
   have hO6:=kk.at HOB.out (by simp)
   have o0:=hO6.cell 0 rfl
   have o1:=hO6.cell 1 rfl
   have o2:=hO6.cell 2 rfl
   have HCL:=hid (HCP.out _ (HK.out.trans kk) nn rr HXN.out.1 HXN.out.2.1 HXN.out.2.2)
   have HK6:=hid (HK.out.trans kk)
   clear kk hO6 e1 t1 t2
   go_wp2_with fail
   refine HCL.out.mono ?_
   rintro e w7 (hcp | hcp)
   rotate_left
   ·obtain ⟨rfl,S2,h1,h2,h3⟩:=hcp
    exact And.intro rfl (Or.inr ⟨rfl,S2,h1,h2,(HK6.out.mono (by simp)).trans h3⟩)
   have HEN:=hid (brL_new hcp HK6.out HSE.out)
   obtain ⟨rfl, -⟩:=hcp
   go_wp2_with fail
   go_ret
   exact .inl HEN.out
end Go.Proofs.YtglpoffbkkdjiaaGreat
