import Derived.Test.YtglpoffbkkdjiaaGreatClk
import Derived.Test.YtglpoffbkkdjiaaGreatZon
namespace Go.Proofs.YtglpoffbkkdjiaaGreat
open Go.RowKit Go.OpenShut
def CopL (P:CP) (l:Int) (x mb B:Nat) (yr:Option Addr) (cr:Nat) (yl:Option Addr) (cl:Nat) (yq:Option Addr) (out:List Nat) (i n:Nat) (dn:Bool) (I:Nat) (u:Int) (S0:DS) (X:Nat) (w:World) (e:Ending) (w':World):Prop :=
 e = .returned (.int .i64 (wtC P.S P.c P.k P.LS X:Nat)) ∧ ∃ yq' cq' u' S',ClB P w' x mb B yr cr yl cl yq' cq' (out ++ [X]) i n dn ∧ Pw w' P.p P.a l u' S' ∧ Zon P S0 S' ∧ CpJ P.S S' P.c P.k P.us (out ++ [X]) n I ∧ u' ≤ u + 65 ∧
  Keeps (clT x mb yr yl yq ++ [P.p,P.a.s,P.a.k,P.a.m]) w w' ∧ (blkL yq' = blkL yq ∨ ∀ g ∈ blkL yq',w.heap.size ≤ g)
set_option maxRecDepth 100000 in
set_option maxHeartbeats 4000000 in
theorem copied_l (P:CP) (hP:P.Ok) (w:World) (x mb B:Nat) (yr:Option Addr) (cr:Nat) (yl:Option Addr) (cl:Nat) (yq:Option Addr) (cq:Nat) (out:List Nat) (i n:Nat) (dn:Bool) (hC:ClB P w x mb B yr cr yl cl yq cq out i n dn) (hA:Apart P (clT x mb yr yl yq))
  (l u:Int) (S':DS) (hPw:Pw w P.p P.a l u S') (hu:u ≤ 200000000000) (I:Nat) (hJ:CpJ P.S S' P.c P.k P.us out n I) (hn:n ≤ out.length) (hnI:n = out.length → I = 0) (hpre:P.Pre out) (X nn rr:Nat) (hX:P.LS[out.length]? = some X) (hnn:nn = hdN (P.S.now X).toNat) (hrr:rr = hdR (P.S.now X).toNat) :
  Calls Tryz.prog 118 #[ptr x,obV (nn:Nat) (rr:Nat) (X:Nat)] w (fun e w' => CopL P l x mb B yr cr yl cl yq out i n dn I u S' X w e w' ∨ CutC P l (clT x mb yr yl yq) S' w e w'):=by
 obtain ⟨hc,hcn,hk,hus,hrdy, -, -, -, -⟩:=hP
 have hfr:=frm_le hc.small (show 1 - P.k ≤ 2 by omega)
 have hfr0:=frm_le hc.small (show P.k ≤ 2 by omega)
 have hsp:=hc.small.2.2
 have hfs:P.c.frm (1 - P.k) + P.c.space ≤ P.a.n:=by rw [← hcn]; exact frm_space _ (by omega)
 have hfs0:P.c.frm P.k + P.c.space ≤ P.a.n:=by rw [← hcn]; exact frm_space _ hk
 obtain ⟨hpx,hwt,hsz⟩:=hpre.next hX
 have hsz2:=hrdy.sz
 have hsz2:szF P.S P.LS ≤ P.c.space:=hsz2
 obtain ⟨x1,x2,x3,x4,x5⟩:=ob_yes (P.obs (List.mem_of_getElem? hX))
 have hn64:=isHd_pk x3
 rw [← hnn] at hsz x4 hn64
 obtain ⟨U,hU⟩:∃ U,U = szF P.S out:=⟨_,rfl⟩
 obtain ⟨TO,hTO⟩:∃ TO,TO = P.c.frm (1 - P.k) + U:=⟨_,rfl⟩
 rw [← hU] at hwt hsz
 rw [← hTO] at hwt
 have hap:=sp_apart (c:=P.c) (k:=P.k) (s:=P.us) (t:=szF P.S P.LS) hk hus hsz2
 have hnn64:nn ≤ 64:=by omega
 have hnni:(nn:Int) ≤ 64:=by omega
 have hUi:(U:Int) ≤ 4096:=by omega
 have hTi:(TO:Int) ≤ 30000:=by omega
 have hXi:(X:Int) ≤ 30000:=by omega
 have hXa:X + nn < P.a.n:=by omega
 have hTa:TO + nn < P.a.n:=by omega
 have hoff:X + nn < TO ∨ TO + nn < X:=by omega
 have hbox:=hC.box
 rw [← hU] at hbox
 have hxw:x < w.heap.size:=hbox.lt
 have HC:=hid hC
 have HA:=hid hA
 have HPW:=hid hPw
 have HU:=hid hU
 have HTO:=hid hTO
 have HWT:=hid hwt
 have HJ:=hid (And.intro hJ (And.intro hn hnI))
 have HPX:=hid (And.intro hpre (And.intro hpx hX))
 have HNR:=hid (And.intro hnn hrr)
 have HUB:=hid hu
 have HXT:=hid (And.intro hXa (And.intro hTa (And.intro hoff hnn64)))
 have HSZ:=hid (fun w => hsize_at w nn rr (by omega))
 have HPL:Hid (∀ w',Calls Tryz.prog 89 #[bkV ((1 - P.k:Nat):Int) (U:Nat) (.slice none 0 0),cfgV P.c, .int .i64 (U:Nat)] w' fun e w'' => e = .returned (.int .i64 (TO:Nat)) ∧ Keeps [] w' w''):=fun w' => by
  have:=place8_at w' P.c hc.small (1 - P.k) (by omega) (U:Nat) (.slice none 0 0) (U:Nat) (by omega)
  rw [show ((P.c.frm (1 - P.k):Nat):Int) + (U:Int) = (TO:Int) by omega] at this
  exact this
 have HOB:Hid ((obW P.S P.c P.k P.us X).isSome = true):=P.obs (List.mem_of_getElem? hX)
 have HAP:=hid hap
 have HSPC:=hid hsp
 have HZS:Hid (U + (nn + 1) ≤ szF P.S P.LS):=by show _ ≤ _; omega
 have HFF:=hid (And.intro x1 (And.intro x4 (And.intro hus hfs0)))
 clear hc hcn hk hus hrdy hfr hfr0 hsp hfs hfs0 hpx hwt hsz hsz2 x1 x2 x3 x4 x5 hn64 hU hTO hap hC hA hPw hu hJ hn hnI hpre hX hnn hrr hXa hTa hoff hnn64
 go_enter Tryz.func118,Tryz.ntmps118
 go_upto_region 1 with fail
 have hO1:=At.new w (obO (nn:Nat) (rr:Nat) (X:Nat))
 have k01:=(Keeps.refl [] w).alloc (obO (nn:Nat) (rr:Nat) (X:Nat))
 obtain ⟨ob,hob⟩:∃ q,q = w.heap.size:=⟨_,rfl⟩
 obtain ⟨w1,hw1⟩:∃ w1,w1 = w.alloc (obO (nn:Nat) (rr:Nat) (X:Nat)):=⟨_,rfl⟩
 rw [← hw1] at hO1 k01
 first | rw [← hw1] | skip
 rw [← hob] at hO1 ⊢
 have hB1:=k01.at hbox (by simp)
 have hxo:x ≠ ob:=by omega
 have HO1:=hid hO1
 have HB1:=hid hB1
 have HK1:=hid k01
 have HQ:Hid (ob = w.heap.size ∧ x ≠ ob):=⟨hob,hxo⟩
 have HF1:Hid (∀ w',Keeps [] w1 w' → (w'.cell? ⟨x,1,none⟩ = some (.int .i64 P.c.log) ∧ w'.cell? ⟨x,2,none⟩ = some (.int .i64 P.c.roots) ∧ w'.cell? ⟨x,3,none⟩ = some (.int .i64 P.c.space) ∧ w'.cell? ⟨x,7,none⟩ = some (.int .i64 ((1 - P.k:Nat):Int)) ∧ w'.cell? ⟨x,8,none⟩ = some (.int .i64 (U:Nat)) ∧ w'.cell? ⟨x,9,none⟩ = some (.slice none 0 0))):=fun w' hk => by
  have e1:=hk.at hB1 (by simp)
  exact ⟨e1.cell 1 rfl,e1.cell 2 rfl,e1.cell 3 rfl,e1.cell 7 rfl,e1.cell 8 rfl,e1.cell 9 rfl⟩
 clear hw1 hob hO1 hB1 k01 hbox hxw hxo
 have kk:Keeps [] w1 w1.drew:=(Keeps.refl _ _).drew
 go_region_held3 (fun w' => (w'.cell? ⟨x,1,none⟩ = some (.int .i64 P.c.log) ∧ w'.cell? ⟨x,2,none⟩ = some (.int .i64 P.c.roots) ∧ w'.cell? ⟨x,3,none⟩ = some (.int .i64 P.c.space) ∧ w'.cell? ⟨x,7,none⟩ = some (.int .i64 ((1 - P.k:Nat):Int)) ∧ w'.cell? ⟨x,8,none⟩ = some (.int .i64 (U:Nat)) ∧ w'.cell? ⟨x,9,none⟩ = some (.slice none 0 0)))
  (exact HF1.out _ kk)
  (first
    | (go_at_call 89; refine (HPL.out _).mono ?_; rintro e w' ⟨rfl,hk9⟩; have kk:=kk.trans hk9; clear hk9))
 rename_i hHd
 clear hHd
 have hB2:=kk.at HB1.out (by simp)
 have hO2:=kk.at HO1.out (by simp)
 have HK2:Hid (Keeps [] w w'):=HK1.out.trans kk
 have HB2:=hid hB2
 have HO2:=hid hO2
 have o0:=hO2.cell 0 rfl
 have o1:=hO2.cell 1 rfl
 clear kk hB2 hO2
 go_wp2_with fail
 refine (HSZ.out _).mono ?_
 rintro e w3 ⟨rfl,hk3⟩
 have HB3:=hid (hk3.at HB2.out (by simp))
 have HO3:=hid (hk3.at HO2.out (by simp))
 have HK3:=hid (HK2.out.trans hk3)
 have HND:Hid (x ∉ [P.p,P.a.s,P.a.k,P.a.m] ∧ ob ∉ [P.p,P.a.s,P.a.k,P.a.m]):=by
  have h1:=HQ.out.1
  have h2:=HPW.out.pow.lt
  have h3:=HPW.out.dev.now.lt
  have h4:=HPW.out.dev.kept.lt
  have h5:=HPW.out.dev.map.lt
  refine ⟨fun h => HA.out x (by simp [clT]) (by simp at h ⊢; omega),fun h => ?_⟩
  simp at h
  omega
 clear hk3 o0 o1
 go_wp2_with fail
 go_loopg [24] (nn + 1) (fun rr s24 wr => ∃ (j:Nat) (u':Int) (S2:DS),j + rr = nn + 1 ∧ s24 = .int .i64 j ∧ Pw wr P.p P.a l u' S2 ∧ u' ≤ u + (j:Int) ∧ (CpW X TO S' S2 j ∧ Zon P S' S2) ∧ Keeps [P.p,P.a.s,P.a.k,P.a.m] w3 wr)
 case atStart => exact ⟨0,u,S',by omega,rfl,HPW.out.keep0 HK3.out,by omega,⟨fun q => by rw [if_neg (by omega)],Zon.refl _ _⟩,Keeps.refl _ _⟩
 case round =>
  obtain ⟨j,u',S2,hj,rfl,hP2,hu2,⟨hW,hZn⟩,hK⟩:=hrel
  by_cases hlt:j < nn + 1
  ·have hji:(j:Int) < (nn:Int) + 1:=by omega
   have e1:IntKind.i64.wrap ((X:Int) + (j:Int)) = (X:Int) + (j:Int):=IntWalk.i64_in _ (by omega)
   have e2:IntKind.i64.wrap ((TO:Int) + (j:Int)) = (TO:Int) + (j:Int):=IntWalk.i64_in _ (by omega)
   obtain ⟨v,hv⟩:∃ v,v = S'.now (X + j):=⟨_,rfl⟩
   have hsv:S2.now (X + j) = v:=by rw [hW,if_neg (by have:=HXT.out; omega),hv]
   have hxt:=HXT.out
   have hub2:u' ≤ 1000000000000:=by have:=HUB.out; omega
   have HLD:Hid (∀ w',Keeps [] wr w' → Calls Tryz.prog 60 #[ptr P.a.d, .int .i64 ((X:Int) + (j:Int))] w' fun e w'' => e = .returned (.int .u64 v) ∧ w' = w''):=fun w' hk => by
    have:=load_eq w' P.p P.a S2 (X + j) v (hP2.keep0 hk).dev (by omega) hsv
    rwa [show (((X + j:Nat)):Int) = (X:Int) + (j:Int) by omega] at this
   have HST:=hid (fun (w':World) (hk:Keeps [] wr w') => store_l w' P.p P.a l u' S2 (hP2.keep0 hk) hub2 ((TO:Int) + (j:Int)) v (by omega))
   have HX5:Hid (∀ w',Keeps [P.p,P.a.s,P.a.k,P.a.m] wr w' → (w'.cell? ⟨x,0,none⟩ = some (ptr P.a.d) ∧ w'.cell? ⟨ob,2,none⟩ = some (.int .i64 (X:Nat)))):=fun w' hk => by
    have g1:=hk.at (hK.at HB3.out HND.out.1) HND.out.1
    have g2:=hk.at (hK.at HO3.out HND.out.2) HND.out.2
    exact ⟨g1.cell 0 rfl,g2.cell 2 rfl⟩
   have HZN:=hid hZn
   have HE:=hid (And.intro hj (And.intro hu2 (And.intro hW (And.intro hK (And.intro hv hlt)))))
   clear hj hP2 hu2 hW hZn hK hlt hv hsv hxt hub2
   have HCK:Hid (∀ (_:Nat) (w9:World),Keeps [P.p,P.a.s,P.a.k,P.a.m] wr w9 → Keeps (clT x mb yr yl yq ++ [P.p,P.a.s,P.a.k,P.a.m]) w w9):=fun _ w9 h => (HK3.out.mono (by simp)).trans ((HE.out.2.2.2.1.trans h).mono (fun k _ hb => List.mem_append_right _ hb))
   go_upto_region 5 with fail
   have kk:Keeps [] wr wr.drew:=(Keeps.refl _ _).drew
   have kd:Keeps [P.p,P.a.s,P.a.k,P.a.m] wr wr.drew:=(Keeps.refl _ _).drew
   refine wp_region_held_drew (S:=fun w' => w'.cell? ⟨x,0,none⟩ = some (ptr P.a.d) ∧ w'.cell? ⟨ob,2,none⟩ = some (.int .i64 (X:Nat))) (by kernel_rfl) ?_ (fun hHeld0 => ?_)
   ·(try dsimp only); (exact HX5.out _ kd)
   refine' wpAnyH_take (i:=0) (oi:=_) (v:=_) ?hi501 (by kernel_rfl) (by kernel_rfl) (by kernel_rfl) ?hq501 (Or.inl ⟨?hw501, ?hy501⟩) hHeld0 ?rest501
   case hi501 => (simp only [List.getElem?_toArray,List.getElem?_cons_zero]; rfl)
   case hq501 => exact fun _ _ _ h => h
   case hw501 => rfl
   case hy501 => (intro w hSw; (try dsimp only at hSw); go_simp; try (with_reducible rfl))
   (try simp only [Act.put,List.setIfInBounds_toArray,List.set_cons_zero,List.set_cons_succ])
   refine' wpAnyH_take (i:=1) (oi:=_) (v:=_) ?hi502 (by kernel_rfl) (by kernel_rfl) (by kernel_rfl) ?hq502 (Or.inl ⟨?hw502, ?hy502⟩) hHeld0 ?rest502
   case hi502 => (simp only [List.getElem?_toArray,List.getElem?_cons_succ,List.getElem?_cons_zero]; rfl)
   case hq502 => exact fun _ _ _ h => h
   case hw502 => rfl
   case hy502 => (intro w hSw; (try dsimp only at hSw); go_simp; try (with_reducible rfl))
   (try simp only [Act.put,List.setIfInBounds_toArray,List.set_cons_zero,List.set_cons_succ])
   refine' wpAnyH_take (i:=2) (oi:=_) (v:=_) ?hi503 (by kernel_rfl) (by kernel_rfl) (by kernel_rfl) ?hq503 (Or.inl ⟨?hw503, ?hy503⟩) hHeld0 ?rest503
   case hi503 => (simp only [List.getElem?_toArray,List.getElem?_cons_succ,List.getElem?_cons_zero]; rfl)
   case hq503 => exact fun _ _ _ h => h
   case hw503 => rfl
   case hy503 => (intro w hSw; (try dsimp only at hSw); go_simp; try (with_reducible rfl))
   (try simp only [Act.put,List.setIfInBounds_toArray,List.set_cons_zero,List.set_cons_succ])
   refine' wpAnyH_take (i:=3) (oi:=_) (v:=_) ?hi504 (by kernel_rfl) (by kernel_rfl) (by kernel_rfl) ?hq504 (Or.inl ⟨?hw504, ?hy504⟩) hHeld0 ?rest504
   case hi504 => (simp only [List.getElem?_toArray,List.getElem?_cons_succ,List.getElem?_cons_zero]; rfl)
   case hq504 => exact fun _ _ _ h => h
   case hw504 => rfl
   case hy504 => (intro w hSw; (try dsimp only at hSw); go_simp; try (with_reducible rfl))
   (try simp only [Act.put,List.setIfInBounds_toArray,List.set_cons_zero,List.set_cons_succ])
   refine' wpAnyH_take (i:=4) (oi:=_) (v:=_) ?hi505 (by kernel_rfl) (by kernel_rfl) (by kernel_rfl) ?hq505 (Or.inl ⟨?hw505, ?hy505⟩) hHeld0 ?rest505
   case hi505 => (simp only [List.getElem?_toArray,List.getElem?_cons_succ,List.getElem?_cons_zero]; rfl)
   case hq505 => exact fun _ _ _ h => h
   case hw505 => rfl
   case hy505 => (intro w hSw; (try dsimp only at hSw); go_simp; try (with_reducible rfl))
   (try simp only [Act.put,List.setIfInBounds_toArray,List.set_cons_zero,List.set_cons_succ])
   refine' wpAnyH_take (i:=5) (oi:=_) (v:=_) ?hi506 (by kernel_rfl) (by kernel_rfl) (by kernel_rfl) ?hq506 (Or.inl ⟨?hw506, ?hy506⟩) hHeld0 ?rest506
   case hi506 => (simp only [List.getElem?_toArray,List.getElem?_cons_succ,List.getElem?_cons_zero]; rfl)
   case hq506 => exact fun _ _ _ h => h
   case hw506 => rfl
   case hy506 => (intro w hSw; (try dsimp only at hSw); go_simp; try (with_reducible rfl))
   (try simp only [Act.put,List.setIfInBounds_toArray,List.set_cons_zero,List.set_cons_succ])
   refine' wpAnyH_take (i:=6) (oi:=_) (v:=_) ?hi507 (by kernel_rfl) (by kernel_rfl) (by kernel_rfl) ?hq507 (Or.inl ⟨?hw507, ?hy507⟩) hHeld0 ?rest507
   case hi507 => (simp only [List.getElem?_toArray,List.getElem?_cons_succ,List.getElem?_cons_zero]; rfl)
   case hq507 => exact fun _ _ _ h => h
   case hw507 => rfl
   case hy507 => (intro w hSw; (try dsimp only at hSw); go_simp; try (with_reducible rfl))
   (try simp only [Act.put,List.setIfInBounds_toArray,List.set_cons_zero,List.set_cons_succ])
   refine' wpAnyH_take (i:=7) (oi:=_) (v:=_) ?hi508 (by kernel_rfl) (by kernel_rfl) (by kernel_rfl) ?hq508 (Or.inl ⟨?hw508, ?hy508⟩) hHeld0 ?rest508
   case hi508 => (simp only [List.getElem?_toArray,List.getElem?_cons_succ,List.getElem?_cons_zero]; rfl)
   case hq508 => exact fun _ _ _ h => h
   case hw508 => rfl
   case hy508 => (intro w hSw; (try dsimp only at hSw); go_simp; try (with_reducible rfl))
   (try simp only [Act.put,List.setIfInBounds_toArray,List.set_cons_zero,List.set_cons_succ])
   refine' wpAnyH_take (i:=8) (oi:=_) (v:=_) ?hi509 (by kernel_rfl) (by kernel_rfl) (by kernel_rfl) ?hq509 (Or.inl ⟨?hw509, ?hy509⟩) hHeld0 ?rest509
   case hi509 => (simp only [List.getElem?_toArray,List.getElem?_cons_succ,List.getElem?_cons_zero]; rfl)
   case hq509 => exact fun _ _ _ h => h
   case hw509 => rfl
   case hy509 => (intro w hSw; (try dsimp only at hSw); go_simp; try (with_reducible rfl))
   (try simp only [Act.put,List.setIfInBounds_toArray,List.set_cons_zero,List.set_cons_succ])
   refine' wpAnyH_take (i:=9) (oi:=_) (v:=_) ?hi510 (by kernel_rfl) (by kernel_rfl) (by kernel_rfl) ?hq510 (Or.inl ⟨?hw510, ?hy510⟩) hHeld0 ?rest510
   case hi510 => (simp only [List.getElem?_toArray,List.getElem?_cons_succ,List.getElem?_cons_zero]; rfl)
   case hq510 => exact fun _ _ _ h => h
   case hw510 => rfl
   case hy510 => (intro w hSw; (try dsimp only at hSw); go_simp; try (with_reducible rfl))
   (try simp only [Act.put,List.setIfInBounds_toArray,List.set_cons_zero,List.set_cons_succ])
   refine' wpAnyH_take (i:=10) (oi:=_) (v:=_) ?hi511 (by kernel_rfl) (by kernel_rfl) (by kernel_rfl) ?hq511 (Or.inl ⟨?hw511, ?hy511⟩) hHeld0 ?rest511
   case hi511 => (simp only [List.getElem?_toArray,List.getElem?_cons_succ,List.getElem?_cons_zero]; rfl)
   case hq511 => exact fun _ _ _ h => h
   case hw511 => rfl
   case hy511 => (intro w hSw; (try dsimp only at hSw); go_simp; try (with_reducible rfl))
   (try simp only [Act.put,List.setIfInBounds_toArray,List.set_cons_zero,List.set_cons_succ])
   refine' wpAnyH_take (i:=11) (oi:=_) (v:=_) ?hi512 (by kernel_rfl) (by kernel_rfl) (by kernel_rfl) ?hq512 (Or.inl ⟨?hw512, ?hy512⟩) hHeld0 ?rest512
   case hi512 => (simp only [List.getElem?_toArray,List.getElem?_cons_succ,List.getElem?_cons_zero]; rfl)
   case hq512 => exact fun _ _ _ h => h
   case hw512 => rfl
   case hy512 => (intro w hSw; (try dsimp only at hSw); go_simp; try (with_reducible rfl))
   (try simp only [Act.put,List.setIfInBounds_toArray,List.set_cons_zero,List.set_cons_succ])
   refine' wpAnyH_take (i:=12) (oi:=_) (v:=_) ?hi513 (by kernel_rfl) (by kernel_rfl) (by kernel_rfl) ?hq513 (Or.inl ⟨?hw513, ?hy513⟩) hHeld0 ?rest513
   case hi513 => (simp only [List.getElem?_toArray,List.getElem?_cons_succ,List.getElem?_cons_zero]; rfl)
   case hq513 => exact fun _ _ _ h => h
   case hw513 => rfl
   case hy513 => (intro w hSw; (try dsimp only at hSw); go_simp; try (with_reducible rfl))
   (try simp only [Act.put,List.setIfInBounds_toArray,List.set_cons_zero,List.set_cons_succ])
   refine' wpAnyH_take (i:=13) (oi:=_) (v:=_) ?hi514 (by kernel_rfl) (by kernel_rfl) (by kernel_rfl) ?hq514 (Or.inl ⟨?hw514, ?hy514⟩) hHeld0 ?rest514
   case hi514 => (simp only [List.getElem?_toArray,List.getElem?_cons_succ,List.getElem?_cons_zero]; rfl)
   case hq514 => exact fun _ _ _ h => h
   case hw514 => rfl
   case hy514 => (intro w hSw; (try dsimp only at hSw); go_simp; try (with_reducible rfl))
   (try simp only [Act.put,List.setIfInBounds_toArray,List.set_cons_zero,List.set_cons_succ])
   refine' wpAnyH_take (i:=14) (oi:=_) (v:=_) ?hi515 (by kernel_rfl) (by kernel_rfl) (by kernel_rfl) ?hq515 (Or.inl ⟨?hw515, ?hy515⟩) hHeld0 ?rest515
   case hi515 => (simp only [List.getElem?_toArray,List.getElem?_cons_succ,List.getElem?_cons_zero]; rfl)
   case hq515 => exact fun _ _ _ h => h
   case hw515 => rfl
   case hy515 => (intro w hSw; (try dsimp only at hSw); go_simp; try (with_reducible rfl))
   (try simp only [Act.put,List.setIfInBounds_toArray,List.set_cons_zero,List.set_cons_succ])
   refine wpAnyH_ready (rs:=[15]) (by kernel_rfl) (by simp) ?_
   refine' AllReadyH.cons (o:=_) ?ho517 (fun K hK => ?step517) ?more517
   case ho517 => (simp only [List.getElem?_toArray,List.getElem?_cons_succ,List.getElem?_cons_zero]; rfl)
   case step517 =>
    go_simp
    (go_at_call 60; refine (HLD.out _ kk).mono ?_; rintro e w' ⟨rfl,rfl⟩)
    (try go_wp2_with fail)
    refine hK.out _ _ ?_ (fun hHeld1 => ?_)
    ·(try dsimp only); (exact HX5.out _ kd)
    clear hK K hHeld0
    (try simp only [Act.put,List.setIfInBounds_toArray,List.set_cons_zero,List.set_cons_succ])
    refine wpAnyH_ready (rs:=[16]) (by kernel_rfl) (by simp) ?_
    refine' AllReadyH.cons (o:=_) ?ho519 (fun K hK => ?step519) ?more519
    case ho519 => (simp only [List.getElem?_toArray,List.getElem?_cons_succ,List.getElem?_cons_zero]; rfl)
    case step519 =>
     go_simp
     (go_at_call 47; refine (HST.out _ kk).mono ?_; rintro e w'' (⟨rfl,hx9⟩ | ⟨rfl,hx9⟩); rotate_left; exact And.intro rfl (Or.inr ⟨rfl,S2,hx9.out.1,HZN.out,HCK.out 0 _ (kd.trans hx9.out.2)⟩); have kd:=kd.trans hx9.out.2)
     (try go_wp2_with fail)
     refine hK.out _ _ ?_ (fun hHeld2 => ?_)
     ·(try dsimp only); (exact HX5.out _ kd)
     clear hK K hHeld1
     (try simp only [Act.put,List.setIfInBounds_toArray,List.set_cons_zero,List.set_cons_succ])
     refine wpAnyH_done (by kernel_rfl) ?_ _
     skip
     have HEN:Hid (Pw w'' P.p P.a l (u' + 1) (execs S2 [.st ((TO:Int) + (j:Int)).toNat v]) ∧ (CpW X TO S' (execs S2 [.st ((TO:Int) + (j:Int)).toNat v]) (j + 1) ∧ Zon P S' (execs S2 [.st ((TO:Int) + (j:Int)).toNat v])) ∧ Keeps [P.p,P.a.s,P.a.k,P.a.m] w3 w''):=by
      refine ⟨hx9.out.1, ?_,HE.out.2.2.2.1.trans kd⟩
      rw [show ((TO:Int) + (j:Int)).toNat = TO + j by omega,HE.out.2.2.2.2.1]
      refine ⟨HE.out.2.2.1.next,HZN.out.st ?_ _⟩
      have h1:=HTO.out
      have h2:=HZS.out
      have h3:=HE.out.2.2.2.2.2
      omega
     clear kd kk hx9 HLD HST HX5 e1 e2
     go_wp2_with fail
     go_roundg (nn + 1 - (j + 1))
     case measure => (have:=HE.out; omega)
     case rel => exact ⟨j + 1,u' + 1,_,by have:=HE.out; omega,by go_num,HEN.out.1,by have:=HE.out; omega,HEN.out.2.1,HEN.out.2.2⟩
    exact AllReadyH.nil
   exact AllReadyH.nil
  ·have hjn:j = nn + 1:=by omega
   subst hjn
   have hji:(nn:Int) + 1 ≤ ((nn + 1:Nat):Int):=by omega
   have t1:decide (((nn + 1:Nat):Int) < (nn:Int) + 1) = false:=decide_eq_false (by omega)
   have HZN:=hid hZn
   have HCX:=hid (And.intro hP2 (And.intro hu2 (And.intro hW hK)))
   have hC:=HC.out
   have hyq:=fun b hb => (hC.qu.ge b hb)
   have HNE:Hid (x ≠ mb ∧ ob ≠ mb ∧ mb ∉ [P.p,P.a.s,P.a.k,P.a.m] ∧ x ∉ blkL yq ∧ mb ∉ blkL yq ∧ ob ∉ blkL yq ∧ B ≤ w.heap.size):=by
    have h1:=hC.mB
    have h2:=hC.xB
    have h3:=hC.lt
    have h4:=HQ.out
    refine ⟨hC.xm,by omega,fun h => HA.out mb (by simp [clT]) (by simp at h ⊢; omega),fun h => ?_,fun h => ?_,fun h => ?_,h3⟩
    ·have:=(hyq _ h).1; omega
    ·have:=(hyq _ h).1; omega
    ·have:=(hyq _ h).2; omega
   have HB5:=hid (hK.at HB3.out HND.out.1)
   have HO5:=hid (hK.at HO3.out HND.out.2)
   have HM5:=hid (hC.mp.keep ((HK3.out.mono (by simp)).trans hK) HNE.out.2.2.1)
   clear hj hP2 hu2 hW hZn hK hC hyq hlt
   go_upto_region 7 with fail
   go_cut [] from 45 to 51 (fun wx => IMap wx mb (wentD P.S P.c P.k P.LS (out ++ [X])) ∧ Keeps [mb] wr wx)
   case first =>
    obtain ⟨w6,hrun,hM6,k56⟩:=(HM5.out.keep ((Keeps.refl [] wr).drew) (by simp)).update (P:=Tryz.prog) Tryz.underlying32 Tryz.underlying3 (X:Int) (.int .i64 (TO:Nat))
    have kk:Keeps [] wr wr.drew:=(Keeps.refl _ _).drew
    have HX7:Hid (∀ w',Keeps [mb] wr w' → (w'.cell? ⟨x,11,none⟩ = some (.map (some mb)) ∧ w'.cell? ⟨ob,2,none⟩ = some (.int .i64 (X:Nat)))):=fun w' hk => by
     have g1:=hk.at HB5.out (by have:=HNE.out.1; simpa using this)
     have g2:=hk.at HO5.out (by have:=HNE.out.2.1; simpa using this)
     exact ⟨g1.cell 11 rfl,g2.cell 2 rfl⟩
    have k6:Keeps [mb] wr w6:=(kk.mono (by simp)).trans k56
    have HEN:Hid (IMap w6 mb (wentD P.S P.c P.k P.LS (out ++ [X])) ∧ Keeps [mb] wr w6):=by
     have h:=hM6
     rw [← HWT.out,wentD_app] at h
     exact ⟨h,k6⟩
    have HX76:=hid (HX7.out w6 k6)
    have HX70:=hid (HX7.out _ (kk.mono (by simp)))
    clear hM6 k56 k6
    refine wp_region_noPanic ?_
    refine wp_region_held_drew (S:=fun w' => w'.cell? ⟨x,11,none⟩ = some (.map (some mb)) ∧ w'.cell? ⟨ob,2,none⟩ = some (.int .i64 (X:Nat))) (by kernel_rfl) ?_ (fun hHeld0 => ?_)
    ·(try dsimp only); (first | exact HX70.out | exact HX76.out)
    refine' wpAnyH_take (i:=0) (oi:=_) (v:=_) ?hi1 (by kernel_rfl) (by kernel_rfl) (by kernel_rfl) (fun _ _ _ h => h) (Or.inl ⟨?hw1, ?hy1⟩) hHeld0 ?rest1
    case hi1 => (simp only [List.getElem?_toArray,List.getElem?_cons_zero]; rfl)
    case hw1 => rfl
    case hy1 => (intro w hSw; (try dsimp only at hSw); go_simp; try (with_reducible rfl))
    (try simp only [Act.put,List.setIfInBounds_toArray,List.set_cons_zero,List.set_cons_succ])
    refine' wpAnyH_take (i:=1) (oi:=_) (v:=_) ?hi2 (by kernel_rfl) (by kernel_rfl) (by kernel_rfl) (fun _ _ _ h => h) (Or.inl ⟨?hw2, ?hy2⟩) hHeld0 ?rest2
    case hi2 => (simp only [List.getElem?_toArray,List.getElem?_cons_succ,List.getElem?_cons_zero]; rfl)
    case hw2 => rfl
    case hy2 => (intro w hSw; (try dsimp only at hSw); go_simp; try (with_reducible rfl))
    (try simp only [Act.put,List.setIfInBounds_toArray,List.set_cons_zero,List.set_cons_succ])
    refine' wpAnyH_take (i:=2) (oi:=_) (v:=_) ?hi3 (by kernel_rfl) (by kernel_rfl) (by kernel_rfl) (fun _ _ _ h => h) (Or.inl ⟨?hw3, ?hy3⟩) hHeld0 ?rest3
    case hi3 => (simp only [List.getElem?_toArray,List.getElem?_cons_succ,List.getElem?_cons_zero]; rfl)
    case hw3 => rfl
    case hy3 => (intro w hSw; (try dsimp only at hSw); go_simp; try (with_reducible rfl))
    (try simp only [Act.put,List.setIfInBounds_toArray,List.set_cons_zero,List.set_cons_succ])
    refine' wpAnyH_take (i:=3) (oi:=_) (v:=_) ?hi4 (by kernel_rfl) (by kernel_rfl) (by kernel_rfl) (fun _ _ _ h => h) (Or.inl ⟨?hw4, ?hy4⟩) hHeld0 ?rest4
    case hi4 => (simp only [List.getElem?_toArray,List.getElem?_cons_succ,List.getElem?_cons_zero]; rfl)
    case hw4 => rfl
    case hy4 => (intro w hSw; (try dsimp only at hSw); go_simp; try (with_reducible rfl))
    (try simp only [Act.put,List.setIfInBounds_toArray,List.set_cons_zero,List.set_cons_succ])
    refine' wpAnyH_take (i:=4) (oi:=_) (v:=_) ?hi5 (by kernel_rfl) (by kernel_rfl) (by kernel_rfl) (fun _ _ _ h => h) (Or.inl ⟨?hw5, ?hy5⟩) hHeld0 ?rest5
    case hi5 => (simp only [List.getElem?_toArray,List.getElem?_cons_succ,List.getElem?_cons_zero]; rfl)
    case hw5 => rfl
    case hy5 => (intro w hSw; (try dsimp only at hSw); go_simp; try (with_reducible rfl))
    (try simp only [Act.put,List.setIfInBounds_toArray,List.set_cons_zero,List.set_cons_succ])
    refine' wpAnyH_take (i:=5) (oi:=_) (v:=_) ?hi6 (by kernel_rfl) (by kernel_rfl) (by kernel_rfl) (fun _ _ _ h => h) (Or.inl ⟨?hw6, ?hy6⟩) hHeld0 ?rest6
    case hi6 => (simp only [List.getElem?_toArray,List.getElem?_cons_succ,List.getElem?_cons_zero]; rfl)
    case hw6 => rfl
    case hy6 => (intro w hSw; (try dsimp only at hSw); go_simp; try (with_reducible rfl))
    (try simp only [Act.put,List.setIfInBounds_toArray,List.set_cons_zero,List.set_cons_succ])
    refine' wpAnyH_take (i:=6) (oi:=_) (v:=_) ?hi7 (by kernel_rfl) (by kernel_rfl) (by kernel_rfl) (fun _ _ _ h => h) (Or.inl ⟨?hw7, ?hy7⟩) hHeld0 ?rest7
    case hi7 => (simp only [List.getElem?_toArray,List.getElem?_cons_succ,List.getElem?_cons_zero]; rfl)
    case hw7 => rfl
    case hy7 => (intro w hSw; (try dsimp only at hSw); go_simp; try (with_reducible rfl))
    (try simp only [Act.put,List.setIfInBounds_toArray,List.set_cons_zero,List.set_cons_succ])
    refine wpAnyH_ready (rs:=[7]) (by kernel_rfl) (by simp) ?_
    refine' AllReadyH.cons (o:=_) ?ho9 (fun K hK => ?step9) ?more9
    case ho9 => (simp only [List.getElem?_toArray,List.getElem?_cons_succ,List.getElem?_cons_zero]; rfl)
    case step9 =>
     go_simp
     refine hK.out _ _ ?_ (fun hHeld1 => ?_)
     ·(try dsimp only); (first | exact HX70.out | exact HX76.out)
     clear hK K hHeld0
     (try simp only [Act.put,List.setIfInBounds_toArray,List.set_cons_zero,List.set_cons_succ])
     refine wpAnyH_done (by kernel_rfl) ?_ _
     refine NoPanic.normal ?_
     clear hrun
     go_wp2_with fail
     go_meet
     exact HEN.out
    exact AllReadyH.nil
   case rest =>
    obtain ⟨wA,hwA⟩:∃ wA,wA = wc:=⟨_,rfl⟩
    subst hwA
    have HCA:=hid hcut
    clear hcut HM5
    go_upto_region 8 with fail
    obtain ⟨U2,hU2⟩:∃ U2:Nat,U2 = U + (nn + 1):=⟨_,rfl⟩
    have HU2:=hid hU2
    go_cut [] from 52 to 63 (fun wx => At wx x (colO P U2 yr cr yl (P.ws.length - i) cl mb yq (out.length - n) cq dn) ∧ Keeps [x] wA wx)
    case first =>
     have hBA:=HCA.out.2.at HB5.out (by have:=HNE.out.1; simpa using this)
     have hOA:=HCA.out.2.at HO5.out (by have:=HNE.out.2.1; simpa using this)
     have HBA:=hid hBA
     have HF8:Hid (∀ w',Keeps [x] wA w' → (w'.cell? ⟨ob,0,none⟩ = some (.int .i64 (nn:Nat)) ∧ w'.cell? ⟨ob,1,none⟩ = some (.int .i64 (rr:Nat)))):=fun w' hk => by
      have g2:=hk.at hOA (by have:=HQ.out.2; simp; omega)
      exact ⟨g2.cell 0 rfl,g2.cell 1 rfl⟩
     have e1:IntKind.i64.wrap ((U:Int) + ((nn:Int) + 1)) = (U2:Int):=by
      have h:((U:Int) + ((nn:Int) + 1)) = (U2:Int):=by omega
      rw [h]
      exact IntWalk.i64_in _ (by omega)
     have kk:Keeps [] wA wA.drew:=(Keeps.refl _ _).drew
     have hb9:=kk.at hBA (by simp)
     have x8:=hb9.cell 8 rfl
     have f8:=hb9.free 8
     clear hBA hOA hb9 hU2 hji t1
     refine wp_region_noPanic ?_
     refine wp_region_held_drew (S:=fun w' => w'.cell? ⟨ob,0,none⟩ = some (.int .i64 (nn:Nat)) ∧ w'.cell? ⟨ob,1,none⟩ = some (.int .i64 (rr:Nat))) (by kernel_rfl) ?_ (fun hHeld0 => ?_)
     ·(try dsimp only); (first | exact HF8.out _ (kk.mono (by simp)) | exact HF8.out _ ((kk.mono (by simp)).set (.inl (by simp)) _))
     refine' wpAnyH_take (i:=0) (oi:=_) (v:=_) ?hi10 (by kernel_rfl) (by kernel_rfl) (by kernel_rfl) (fun _ _ _ h => h) (Or.inl ⟨?hw10, ?hy10⟩) hHeld0 ?rest10
     case hi10 => (simp only [List.getElem?_toArray,List.getElem?_cons_zero]; rfl)
     case hw10 => rfl
     case hy10 => (intro w hSw; (try dsimp only at hSw); go_simp; try (with_reducible rfl))
     (try simp only [Act.put,List.setIfInBounds_toArray,List.set_cons_zero,List.set_cons_succ])
     refine' wpAnyH_take (i:=1) (oi:=_) (v:=_) ?hi11 (by kernel_rfl) (by kernel_rfl) (by kernel_rfl) (fun _ _ _ h => h) (Or.inl ⟨?hw11, ?hy11⟩) hHeld0 ?rest11
     case hi11 => (simp only [List.getElem?_toArray,List.getElem?_cons_succ,List.getElem?_cons_zero]; rfl)
     case hw11 => rfl
     case hy11 => (intro w hSw; (try dsimp only at hSw); go_simp; try (with_reducible rfl))
     (try simp only [Act.put,List.setIfInBounds_toArray,List.set_cons_zero,List.set_cons_succ])
     refine' wpAnyH_take (i:=2) (oi:=_) (v:=_) ?hi12 (by kernel_rfl) (by kernel_rfl) (by kernel_rfl) (fun _ _ _ h => h) (Or.inl ⟨?hw12, ?hy12⟩) hHeld0 ?rest12
     case hi12 => (simp only [List.getElem?_toArray,List.getElem?_cons_succ,List.getElem?_cons_zero]; rfl)
     case hw12 => rfl
     case hy12 => (intro w hSw; (try dsimp only at hSw); go_simp; try (with_reducible rfl))
     (try simp only [Act.put,List.setIfInBounds_toArray,List.set_cons_zero,List.set_cons_succ])
     refine' wpAnyH_take (i:=3) (oi:=_) (v:=_) ?hi13 (by kernel_rfl) (by kernel_rfl) (by kernel_rfl) (fun _ _ _ h => h) (Or.inl ⟨?hw13, ?hy13⟩) hHeld0 ?rest13
     case hi13 => (simp only [List.getElem?_toArray,List.getElem?_cons_succ,List.getElem?_cons_zero]; rfl)
     case hw13 => rfl
     case hy13 => (intro w hSw; (try dsimp only at hSw); go_simp; try (with_reducible rfl))
     (try simp only [Act.put,List.setIfInBounds_toArray,List.set_cons_zero,List.set_cons_succ])
     refine' wpAnyH_take (i:=5) (oi:=_) (v:=_) ?hi14 (by kernel_rfl) (by kernel_rfl) (by kernel_rfl) (fun _ _ _ h => h) (Or.inl ⟨?hw14, ?hy14⟩) hHeld0 ?rest14
     case hi14 => (simp only [List.getElem?_toArray,List.getElem?_cons_succ,List.getElem?_cons_zero]; rfl)
     case hw14 => rfl
     case hy14 => (intro w hSw; (try dsimp only at hSw); go_simp; try (with_reducible rfl))
     (try simp only [Act.put,List.setIfInBounds_toArray,List.set_cons_zero,List.set_cons_succ])
     refine' wpAnyH_take (i:=6) (oi:=_) (v:=_) ?hi15 (by kernel_rfl) (by kernel_rfl) (by kernel_rfl) (fun _ _ _ h => h) (Or.inl ⟨?hw15, ?hy15⟩) hHeld0 ?rest15
     case hi15 => (simp only [List.getElem?_toArray,List.getElem?_cons_succ,List.getElem?_cons_zero]; rfl)
     case hw15 => rfl
     case hy15 => (intro w hSw; (try dsimp only at hSw); go_simp; try (with_reducible rfl))
     (try simp only [Act.put,List.setIfInBounds_toArray,List.set_cons_zero,List.set_cons_succ])
     refine wpAnyH_ready (rs:=[4,7]) (by kernel_rfl) (by simp) ?_
     refine' AllReadyH.cons (o:=_) ?ho17 (fun K hK => ?step17) ?more17
     case ho17 => (simp only [List.getElem?_toArray,List.getElem?_cons_succ,List.getElem?_cons_zero]; rfl)
     case step17 =>
      go_simp
      refine hK.out _ _ ?_ (fun hHeld1 => ?_)
      ·(try dsimp only); (first | exact HF8.out _ (kk.mono (by simp)) | exact HF8.out _ ((kk.mono (by simp)).set (.inl (by simp)) _))
      clear hK K hHeld0
      (try simp only [Act.put,List.setIfInBounds_toArray,List.set_cons_zero,List.set_cons_succ])
      refine wpAnyH_ready (rs:=[7]) (by kernel_rfl) (by simp) ?_
      refine' AllReadyH.cons (o:=_) ?ho19 (fun K hK => ?step19) ?more19
      case ho19 => (simp only [List.getElem?_toArray,List.getElem?_cons_succ,List.getElem?_cons_zero]; rfl)
      case step19 =>
       go_simp
       (go_at_call 88; refine (HSZ.out _).mono ?_; rintro e w7 ⟨rfl,hk9⟩; have kk:=kk.trans hk9; have hb9:=kk.at HBA.out (by simp); have x8:=hb9.cell 8 rfl; have f8:=hb9.free 8; clear hb9 hk9)
       (try go_wp2_with fail)
       refine hK.out _ _ ?_ (fun hHeld2 => ?_)
       ·(try dsimp only); (first | exact HF8.out _ (kk.mono (by simp)) | exact HF8.out _ ((kk.mono (by simp)).set (.inl (by simp)) _))
       clear hK K hHeld1
       (try simp only [Act.put,List.setIfInBounds_toArray,List.set_cons_zero,List.set_cons_succ])
       refine' wpAnyH_take (i:=8) (oi:=_) (v:=_) ?hi20 (by kernel_rfl) (by kernel_rfl) (by kernel_rfl) (fun _ _ _ h => h) (Or.inl ⟨?hw20, ?hy20⟩) hHeld2 ?rest20
       case hi20 => (simp only [List.getElem?_toArray,List.getElem?_cons_succ,List.getElem?_cons_zero]; rfl)
       case hw20 => rfl
       case hy20 => (intro w hSw; (try dsimp only at hSw); go_simp; try (with_reducible rfl))
       (try simp only [Act.put,List.setIfInBounds_toArray,List.set_cons_zero,List.set_cons_succ])
       refine' wpAnyH_take (i:=9) (oi:=_) (v:=_) ?hi21 (by kernel_rfl) (by kernel_rfl) (by kernel_rfl) (fun _ _ _ h => h) (Or.inl ⟨?hw21, ?hy21⟩) hHeld2 ?rest21
       case hi21 => (simp only [List.getElem?_toArray,List.getElem?_cons_succ,List.getElem?_cons_zero]; rfl)
       case hw21 => rfl
       case hy21 => (intro w hSw; (try dsimp only at hSw); go_simp; try (with_reducible rfl))
       (try simp only [Act.put,List.setIfInBounds_toArray,List.set_cons_zero,List.set_cons_succ])
       refine' wpAnyH_take (i:=10) (oi:=_) (v:=_) ?hi22 (by kernel_rfl) (by kernel_rfl) (by kernel_rfl) (fun _ _ _ h => h) (Or.inl ⟨?hw22, ?hy22⟩) hHeld2 ?rest22
       case hi22 => (simp only [List.getElem?_toArray,List.getElem?_cons_succ,List.getElem?_cons_zero]; rfl)
       case hw22 => rfl
       case hy22 => (intro w hSw; (try dsimp only at hSw); go_simp; try (with_reducible rfl))
       (try simp only [Act.put,List.setIfInBounds_toArray,List.set_cons_zero,List.set_cons_succ])
       refine' wpAnyH_take (i:=11) (oi:=_) (v:=_) ?hi23 (by kernel_rfl) (by kernel_rfl) (by kernel_rfl) (fun _ _ _ h => h) (Or.inl ⟨?hw23, ?hy23⟩) hHeld2 ?rest23
       case hi23 => (simp only [List.getElem?_toArray,List.getElem?_cons_succ,List.getElem?_cons_zero]; rfl)
       case hw23 => rfl
       case hy23 => (intro w hSw; (try dsimp only at hSw); go_simp; try (with_reducible rfl))
       (try simp only [Act.put,List.setIfInBounds_toArray,List.set_cons_zero,List.set_cons_succ])
       refine wpAnyH_ready (rs:=[12]) (by kernel_rfl) (by simp) ?_
       refine' AllReadyH.cons (o:=_) ?ho25 (fun K hK => ?step25) ?more25
       case ho25 => (simp only [List.getElem?_toArray,List.getElem?_cons_succ,List.getElem?_cons_zero]; rfl)
       case step25 =>
        go_simp
        refine hK.out _ _ ?_ (fun hHeld3 => ?_)
        ·(try dsimp only); (first | exact HF8.out _ (kk.mono (by simp)) | exact HF8.out _ ((kk.mono (by simp)).set (.inl (by simp)) _))
        clear hK K hHeld2
        (try simp only [Act.put,List.setIfInBounds_toArray,List.set_cons_zero,List.set_cons_succ])
        refine wpAnyH_done (by kernel_rfl) ?_ _
        refine NoPanic.normal ?_
        go_wp2_with fail
        go_meet
        exact ⟨(kk.at HBA.out (by simp)).set 8 (.int .i64 (U2:Nat)),(kk.mono (by simp)).set (.inl (by simp)) _⟩
       exact AllReadyH.nil
      exact AllReadyH.nil
     refine' AllReadyH.cons (o:=_) ?ho26 (fun K hK => ?step26) ?more26
     case ho26 => (simp only [List.getElem?_toArray,List.getElem?_cons_succ,List.getElem?_cons_zero]; rfl)
     case step26 =>
      go_simp
      (go_at_call 88; refine (HSZ.out _).mono ?_; rintro e w7 ⟨rfl,hk9⟩; have kk:=kk.trans hk9; have hb9:=kk.at HBA.out (by simp); have x8:=hb9.cell 8 rfl; have f8:=hb9.free 8; clear hb9 hk9)
      (try go_wp2_with fail)
      refine hK.out _ _ ?_ (fun hHeld1 => ?_)
      ·(try dsimp only); (first | exact HF8.out _ (kk.mono (by simp)) | exact HF8.out _ ((kk.mono (by simp)).set (.inl (by simp)) _))
      clear hK K hHeld0
      (try simp only [Act.put,List.setIfInBounds_toArray,List.set_cons_zero,List.set_cons_succ])
      refine wpAnyH_ready (rs:=[4]) (by kernel_rfl) (by simp) ?_
      refine' AllReadyH.cons (o:=_) ?ho28 (fun K hK => ?step28) ?more28
      case ho28 => (simp only [List.getElem?_toArray,List.getElem?_cons_succ,List.getElem?_cons_zero]; rfl)
      case step28 =>
       go_simp
       refine hK.out _ _ ?_ (fun hHeld2 => ?_)
       ·(try dsimp only); (first | exact HF8.out _ (kk.mono (by simp)) | exact HF8.out _ ((kk.mono (by simp)).set (.inl (by simp)) _))
       clear hK K hHeld1
       (try simp only [Act.put,List.setIfInBounds_toArray,List.set_cons_zero,List.set_cons_succ])
       refine' wpAnyH_take (i:=8) (oi:=_) (v:=_) ?hi29 (by kernel_rfl) (by kernel_rfl) (by kernel_rfl) (fun _ _ _ h => h) (Or.inl ⟨?hw29, ?hy29⟩) hHeld2 ?rest29
       case hi29 => (simp only [List.getElem?_toArray,List.getElem?_cons_succ,List.getElem?_cons_zero]; rfl)
       case hw29 => rfl
       case hy29 => (intro w hSw; (try dsimp only at hSw); go_simp; try (with_reducible rfl))
       (try simp only [Act.put,List.setIfInBounds_toArray,List.set_cons_zero,List.set_cons_succ])
       refine' wpAnyH_take (i:=9) (oi:=_) (v:=_) ?hi30 (by kernel_rfl) (by kernel_rfl) (by kernel_rfl) (fun _ _ _ h => h) (Or.inl ⟨?hw30, ?hy30⟩) hHeld2 ?rest30
       case hi30 => (simp only [List.getElem?_toArray,List.getElem?_cons_succ,List.getElem?_cons_zero]; rfl)
       case hw30 => rfl
       case hy30 => (intro w hSw; (try dsimp only at hSw); go_simp; try (with_reducible rfl))
       (try simp only [Act.put,List.setIfInBounds_toArray,List.set_cons_zero,List.set_cons_succ])
       refine' wpAnyH_take (i:=10) (oi:=_) (v:=_) ?hi31 (by kernel_rfl) (by kernel_rfl) (by kernel_rfl) (fun _ _ _ h => h) (Or.inl ⟨?hw31, ?hy31⟩) hHeld2 ?rest31
       case hi31 => (simp only [List.getElem?_toArray,List.getElem?_cons_succ,List.getElem?_cons_zero]; rfl)
       case hw31 => rfl
       case hy31 => (intro w hSw; (try dsimp only at hSw); go_simp; try (with_reducible rfl))
       (try simp only [Act.put,List.setIfInBounds_toArray,List.set_cons_zero,List.set_cons_succ])
       refine' wpAnyH_take (i:=11) (oi:=_) (v:=_) ?hi32 (by kernel_rfl) (by kernel_rfl) (by kernel_rfl) (fun _ _ _ h => h) (Or.inl ⟨?hw32, ?hy32⟩) hHeld2 ?rest32
       case hi32 => (simp only [List.getElem?_toArray,List.getElem?_cons_succ,List.getElem?_cons_zero]; rfl)
       case hw32 => rfl
       case hy32 => (intro w hSw; (try dsimp only at hSw); go_simp; try (with_reducible rfl))
       (try simp only [Act.put,List.setIfInBounds_toArray,List.set_cons_zero,List.set_cons_succ])
       refine wpAnyH_ready (rs:=[12]) (by kernel_rfl) (by simp) ?_
       refine' AllReadyH.cons (o:=_) ?ho34 (fun K hK => ?step34) ?more34
       case ho34 => (simp only [List.getElem?_toArray,List.getElem?_cons_succ,List.getElem?_cons_zero]; rfl)
       case step34 =>
        go_simp
        refine hK.out _ _ ?_ (fun hHeld3 => ?_)
        ·(try dsimp only); (first | exact HF8.out _ (kk.mono (by simp)) | exact HF8.out _ ((kk.mono (by simp)).set (.inl (by simp)) _))
        clear hK K hHeld2
        (try simp only [Act.put,List.setIfInBounds_toArray,List.set_cons_zero,List.set_cons_succ])
        refine wpAnyH_done (by kernel_rfl) ?_ _
        refine NoPanic.normal ?_
        go_wp2_with fail
        go_meet
        exact ⟨(kk.at HBA.out (by simp)).set 8 (.int .i64 (U2:Nat)),(kk.mono (by simp)).set (.inl (by simp)) _⟩
       exact AllReadyH.nil
      exact AllReadyH.nil
     exact AllReadyH.nil
    case rest =>
     obtain ⟨wB,hwB⟩:∃ wB,wB = wc:=⟨_,rfl⟩
     subst hwB
     have HCB:=hid hcut
     clear hcut hU2 hji t1
     go_upto_region 9 with fail
     go_cut [] from 64 to 76 (fun wx => ∃ (y9:Option Addr) (cap9:Nat),At wx x (colO P U2 yr cr yl (P.ws.length - i) cl mb y9 (out.length - n + 1) cap9 dn) ∧ QueB wx B y9 cap9 (quL P out n ++ [quO P X]) ∧ Keeps (x :: blkL yq) wB wx ∧ (blkL y9 = blkL yq ∨ ∀ g ∈ blkL y9,wB.heap.size ≤ g))
     case first =>
      obtain ⟨ql,hql⟩:∃ ql,ql = out.length - n:=⟨_,rfl⟩
      have hBB:=HCB.out.1
      rw [← hql] at hBB
      have hxq:x ∉ blkL yq:=HNE.out.2.2.2.1
      have hxB:x < B:=HC.out.xB
      have HQLN:Hid (ql = (quL P out n).length):=by show _ = _; rw [quL_len,hql]
      have hq1:ql ≤ 1000000:=by
       have h1:=HPX.out.1.le
       have h2:=P.len
       have h3:=HFF.out
       have h4:=HSPC.out
       omega
      have HOB9:=hid (HCB.out.2.at (HCA.out.2.at HO5.out (by have:=HNE.out.2.1; simpa using this)) (by have:=HQ.out.2; simp; omega))
      have HQB:Hid (∀ w',Keeps [] wB w' → QueB w' B yq cq (quL P out n)):=fun w' hk => by
       have h1:=fun b hb => HA.out b (mem_clT.2 (.inr (.inr (.inr (.inr hb)))))
       refine ((((HC.out.qu.keep (HK3.out.mono (S':=[]) (by simp)) (by simp)).keep HCX.out.2.2.2 fun b hb h => h1 b hb (by simp at h ⊢; omega)).keep HCA.out.2 fun b hb h => ?_).keep HCB.out.2 fun b hb h => ?_).keep hk (by simp)
       ·obtain rfl:=List.mem_singleton.1 h; exact HNE.out.2.2.2.2.1 hb
       ·obtain rfl:=List.mem_singleton.1 h; exact hxq hb
      have hBW:B ≤ wB.heap.size:=Nat.le_trans HNE.out.2.2.2.2.2.2 (Nat.le_trans (Nat.le_trans HK3.out.size HCX.out.2.2.2.size) (Nat.le_trans HCA.out.2.size HCB.out.2.size))
      have kk:Keeps [] wB wB.drew:=(Keeps.refl _ _).drew
      have k1:=kk.alloc (.cells #[.int .i64 (nn:Nat), .int .i64 (rr:Nat), .int .i64 (TO:Nat)] 95)
      have kd0:Keeps (x :: blkL yq) wB wB.drew:=kk.mono (by simp)
      have kd1:Keeps (x :: blkL yq) wB (wB.drew.alloc (.cells #[.int .i64 (nn:Nat), .int .i64 (rr:Nat), .int .i64 (TO:Nat)] 95)):=k1.mono (by simp)
      have HBB0:=hid (kk.at hBB (by simp))
      have HBB1:=hid (k1.at hBB (by simp))
      have x12:=HBB0.out.cell 12 rfl
      have y12:=(hBB.alloc (.cells #[.int .i64 (nn:Nat), .int .i64 (rr:Nat), .int .i64 (TO:Nat)] 95)).cell 12 rfl
      have HF9:Hid (∀ w',Keeps (x :: blkL yq) wB w' → (w'.cell? ⟨ob,0,none⟩ = some (.int .i64 (nn:Nat)) ∧ w'.cell? ⟨ob,1,none⟩ = some (.int .i64 (rr:Nat)))):=fun w' hk => by
       have g2:=hk.at HOB9.out (by have h1:=HQ.out.2; have h2:=HNE.out.2.2.2.2.2.1; simp; exact ⟨fun h => h1 h.symm,h2⟩)
       exact ⟨g2.cell 0 rfl,g2.cell 1 rfl⟩
      have hcr:=At.new wB.drew (.cells #[.int .i64 (nn:Nat), .int .i64 (rr:Nat), .int .i64 (TO:Nat)] 95)
      have HC0:Hid (World.cell? (wB.drew.alloc (.cells #[.int .i64 (nn:Nat), .int .i64 (rr:Nat), .int .i64 (TO:Nat)] 95)) ⟨wB.heap.size,0,none⟩ = some (.int .i64 ((quO P X).1:Nat))):=by
       have h:=hcr.cell 0 rfl
       show _ = some (Value.int .i64 ((hdN (P.S.now X).toNat:Nat):Int))
       rw [← HNR.out.1]; exact h
      have HC1:Hid (World.cell? (wB.drew.alloc (.cells #[.int .i64 (nn:Nat), .int .i64 (rr:Nat), .int .i64 (TO:Nat)] 95)) ⟨wB.heap.size,1,none⟩ = some (.int .i64 ((quO P X).2.1:Nat))):=by
       have h:=hcr.cell 1 rfl
       show _ = some (Value.int .i64 ((hdR (P.S.now X).toNat:Nat):Int))
       rw [← HNR.out.2]; exact h
      have HC2:Hid (World.cell? (wB.drew.alloc (.cells #[.int .i64 (nn:Nat), .int .i64 (rr:Nat), .int .i64 (TO:Nat)] 95)) ⟨wB.heap.size,2,none⟩ = some (.int .i64 ((quO P X).2.2:Nat))):=by
       have h:=hcr.cell 2 rfl
       show _ = some (Value.int .i64 ((wtC P.S P.c P.k P.LS X:Nat):Int))
       rw [HWT.out]; exact h
      have HBW:=hid (Nat.le_trans hBW k1.size)
      have HQ1:=hid (HQB.out _ k1)
      have HXQ:=hid (And.intro hxq hxB)
      have HQL:=hid hql
      have HK1D:=hid (And.intro k1 hBW)
      clear hql hBB hBW k1 kk hcr hxq hxB
      refine wp_region_noPanic ?_
      refine wp_region_held_drew (S:=fun w' => w'.cell? ⟨ob,0,none⟩ = some (.int .i64 (nn:Nat)) ∧ w'.cell? ⟨ob,1,none⟩ = some (.int .i64 (rr:Nat))) (by kernel_rfl) ?_ (fun hHeld0 => ?_)
      ·(try dsimp only); (first | exact HF9.out _ kd0 | exact HF9.out _ kd1 | exact HF9.out _ kd9 | exact HF9.out _ (kd9.set (.inl (by simp)) _))
      refine' wpAnyH_take (i:=0) (oi:=_) (v:=_) ?hi35 (by kernel_rfl) (by kernel_rfl) (by kernel_rfl) (fun _ _ _ h => h) (Or.inl ⟨?hw35, ?hy35⟩) hHeld0 ?rest35
      case hi35 => (simp only [List.getElem?_toArray,List.getElem?_cons_zero]; rfl)
      case hw35 => rfl
      case hy35 => (intro w hSw; (try dsimp only at hSw); go_simp; try (with_reducible rfl))
      (try simp only [Act.put,List.setIfInBounds_toArray,List.set_cons_zero,List.set_cons_succ])
      refine' wpAnyH_take (i:=1) (oi:=_) (v:=_) ?hi36 (by kernel_rfl) (by kernel_rfl) (by kernel_rfl) (fun _ _ _ h => h) (Or.inl ⟨?hw36, ?hy36⟩) hHeld0 ?rest36
      case hi36 => (simp only [List.getElem?_toArray,List.getElem?_cons_succ,List.getElem?_cons_zero]; rfl)
      case hw36 => rfl
      case hy36 => (intro w hSw; (try dsimp only at hSw); go_simp; try (with_reducible rfl))
      (try simp only [Act.put,List.setIfInBounds_toArray,List.set_cons_zero,List.set_cons_succ])
      refine' wpAnyH_take (i:=2) (oi:=_) (v:=_) ?hi37 (by kernel_rfl) (by kernel_rfl) (by kernel_rfl) (fun _ _ _ h => h) (Or.inl ⟨?hw37, ?hy37⟩) hHeld0 ?rest37
      case hi37 => (simp only [List.getElem?_toArray,List.getElem?_cons_succ,List.getElem?_cons_zero]; rfl)
      case hw37 => rfl
      case hy37 => (intro w hSw; (try dsimp only at hSw); go_simp; try (with_reducible rfl))
      (try simp only [Act.put,List.setIfInBounds_toArray,List.set_cons_zero,List.set_cons_succ])
      refine' wpAnyH_take (i:=3) (oi:=_) (v:=_) ?hi38 (by kernel_rfl) (by kernel_rfl) (by kernel_rfl) (fun _ _ _ h => h) (Or.inl ⟨?hw38, ?hy38⟩) hHeld0 ?rest38
      case hi38 => (simp only [List.getElem?_toArray,List.getElem?_cons_succ,List.getElem?_cons_zero]; rfl)
      case hw38 => rfl
      case hy38 => (intro w hSw; (try dsimp only at hSw); go_simp; try (with_reducible rfl))
      (try simp only [Act.put,List.setIfInBounds_toArray,List.set_cons_zero,List.set_cons_succ])
      refine' wpAnyH_take (i:=5) (oi:=_) (v:=_) ?hi39 (by kernel_rfl) (by kernel_rfl) (by kernel_rfl) (fun _ _ _ h => h) (Or.inl ⟨?hw39, ?hy39⟩) hHeld0 ?rest39
      case hi39 => (simp only [List.getElem?_toArray,List.getElem?_cons_succ,List.getElem?_cons_zero]; rfl)
      case hw39 => rfl
      case hy39 => (intro w hSw; (try dsimp only at hSw); go_simp; try (with_reducible rfl))
      (try simp only [Act.put,List.setIfInBounds_toArray,List.set_cons_zero,List.set_cons_succ])
      refine' wpAnyH_take (i:=6) (oi:=_) (v:=_) ?hi40 (by kernel_rfl) (by kernel_rfl) (by kernel_rfl) (fun _ _ _ h => h) (Or.inl ⟨?hw40, ?hy40⟩) hHeld0 ?rest40
      case hi40 => (simp only [List.getElem?_toArray,List.getElem?_cons_succ,List.getElem?_cons_zero]; rfl)
      case hw40 => rfl
      case hy40 => (intro w hSw; (try dsimp only at hSw); go_simp; try (with_reducible rfl))
      (try simp only [Act.put,List.setIfInBounds_toArray,List.set_cons_zero,List.set_cons_succ])
      refine' wpAnyH_take (i:=7) (oi:=_) (v:=_) ?hi41 (by kernel_rfl) (by kernel_rfl) (by kernel_rfl) (fun _ _ _ h => h) (Or.inl ⟨?hw41, ?hy41⟩) hHeld0 ?rest41
      case hi41 => (simp only [List.getElem?_toArray,List.getElem?_cons_succ,List.getElem?_cons_zero]; rfl)
      case hw41 => rfl
      case hy41 => (intro w hSw; (try dsimp only at hSw); go_simp; try (with_reducible rfl))
      (try simp only [Act.put,List.setIfInBounds_toArray,List.set_cons_zero,List.set_cons_succ])
      refine' wpAnyH_take (i:=8) (oi:=_) (v:=_) ?hi42 (by kernel_rfl) (by kernel_rfl) (by kernel_rfl) (fun _ _ _ h => h) (Or.inl ⟨?hw42, ?hy42⟩) hHeld0 ?rest42
      case hi42 => (simp only [List.getElem?_toArray,List.getElem?_cons_succ,List.getElem?_cons_zero]; rfl)
      case hw42 => rfl
      case hy42 => (intro w hSw; (try dsimp only at hSw); go_simp; try (with_reducible rfl))
      (try simp only [Act.put,List.setIfInBounds_toArray,List.set_cons_zero,List.set_cons_succ])
      refine wpAnyH_ready (rs:=[4,9]) (by kernel_rfl) (by simp) ?_
      refine' AllReadyH.cons (o:=_) ?ho44 (fun K hK => ?step44) ?more44
      case ho44 => (simp only [List.getElem?_toArray,List.getElem?_cons_succ,List.getElem?_cons_zero]; rfl)
      case step44 =>
       go_simp
       refine hK.out _ _ ?_ (fun hHeld1 => ?_)
       ·(try dsimp only); (first | exact HF9.out _ kd0 | exact HF9.out _ kd1 | exact HF9.out _ kd9 | exact HF9.out _ (kd9.set (.inl (by simp)) _))
       clear hK K hHeld0
       (try simp only [Act.put,List.setIfInBounds_toArray,List.set_cons_zero,List.set_cons_succ])
       refine wpAnyH_ready (rs:=[9]) (by kernel_rfl) (by simp) ?_
       refine' AllReadyH.cons (o:=_) ?ho46 (fun K hK => ?step46) ?more46
       case ho46 => (simp only [List.getElem?_toArray,List.getElem?_cons_succ,List.getElem?_cons_zero]; rfl)
       case step46 =>
        go_simp
        refine hK.out _ _ ?_ (fun hHeld2 => ?_)
        ·(try dsimp only); (first | exact HF9.out _ kd0 | exact HF9.out _ kd1 | exact HF9.out _ kd9 | exact HF9.out _ (kd9.set (.inl (by simp)) _))
        clear hK K hHeld1
        (try simp only [Act.put,List.setIfInBounds_toArray,List.set_cons_zero,List.set_cons_succ])
        refine wpAnyH_ready (rs:=[10]) (by kernel_rfl) (by simp) ?_
        refine' AllReadyH.cons (o:=_) ?ho48 (fun K hK => ?step48) ?more48
        case ho48 => (simp only [List.getElem?_toArray,List.getElem?_cons_succ,List.getElem?_cons_zero]; rfl)
        case step48 =>
         (refine appB_step rfl _ _ rfl B yq cq ql _ HQLN.out rfl HQ1.out _ _ (quO P X) rfl HC0.out HC1.out HC2.out hq1 HBW.out ?_; intro y9 cap9 w9 hQ9 hk9 hg9; have hb9:=hk9.at HBB1.out HXQ.out.1; have x12b:=hb9.cell 12 rfl; have f12:=hb9.free 12; have kd9:Keeps (x :: blkL yq) wB w9:=kd1.trans (hk9.mono (by intro b _ hb; exact List.mem_cons_of_mem _ hb)); have HB9:=hid hb9; have HQ9:=hid hQ9; have HG9:=hid hg9; clear hb9 hQ9 hk9 hg9 x12 y12)
         refine hK.out _ _ ?_ (fun hHeld3 => ?_)
         ·(try dsimp only); (first | exact HF9.out _ kd0 | exact HF9.out _ kd1 | exact HF9.out _ kd9 | exact HF9.out _ (kd9.set (.inl (by simp)) _))
         clear hK K hHeld2
         (try simp only [Act.put,List.setIfInBounds_toArray,List.set_cons_zero,List.set_cons_succ])
         refine' wpAnyH_take (i:=11) (oi:=_) (v:=_) ?hi49 (by kernel_rfl) (by kernel_rfl) (by kernel_rfl) (fun _ _ _ h => h) (Or.inl ⟨?hw49, ?hy49⟩) hHeld3 ?rest49
         case hi49 => (simp only [List.getElem?_toArray,List.getElem?_cons_succ,List.getElem?_cons_zero]; rfl)
         case hw49 => rfl
         case hy49 => (intro w hSw; (try dsimp only at hSw); go_simp; try (with_reducible rfl))
         (try simp only [Act.put,List.setIfInBounds_toArray,List.set_cons_zero,List.set_cons_succ])
         refine' wpAnyH_take (i:=12) (oi:=_) (v:=_) ?hi50 (by kernel_rfl) (by kernel_rfl) (by kernel_rfl) (fun _ _ _ h => h) (Or.inl ⟨?hw50, ?hy50⟩) hHeld3 ?rest50
         case hi50 => (simp only [List.getElem?_toArray,List.getElem?_cons_succ,List.getElem?_cons_zero]; rfl)
         case hw50 => rfl
         case hy50 => (intro w hSw; (try dsimp only at hSw); go_simp; try (with_reducible rfl))
         (try simp only [Act.put,List.setIfInBounds_toArray,List.set_cons_zero,List.set_cons_succ])
         refine wpAnyH_ready (rs:=[13]) (by kernel_rfl) (by simp) ?_
         refine' AllReadyH.cons (o:=_) ?ho52 (fun K hK => ?step52) ?more52
         case ho52 => (simp only [List.getElem?_toArray,List.getElem?_cons_succ,List.getElem?_cons_zero]; rfl)
         case step52 =>
          go_simp
          refine hK.out _ _ ?_ (fun hHeld4 => ?_)
          ·(try dsimp only); (first | exact HF9.out _ kd0 | exact HF9.out _ kd1 | exact HF9.out _ kd9 | exact HF9.out _ (kd9.set (.inl (by simp)) _))
          clear hK K hHeld3
          (try simp only [Act.put,List.setIfInBounds_toArray,List.set_cons_zero,List.set_cons_succ])
          refine wpAnyH_done (by kernel_rfl) ?_ _
          refine NoPanic.normal ?_
          have HEN:=hid (qend (ql:=ql) HXQ.out.1 HXQ.out.2 HB9.out HQ9.out kd9 HG9.out HK1D.out.1 HK1D.out.2)
          clear kd9 x12b f12
          go_wp2_with fail
          go_meet
          rw [← HQL.out]
          exact HEN.out
         exact AllReadyH.nil
        exact AllReadyH.nil
       exact AllReadyH.nil
      refine' AllReadyH.cons (o:=_) ?ho53 (fun K hK => ?step53) ?more53
      case ho53 => (simp only [List.getElem?_toArray,List.getElem?_cons_succ,List.getElem?_cons_zero]; rfl)
      case step53 =>
       go_simp
       refine hK.out _ _ ?_ (fun hHeld1 => ?_)
       ·(try dsimp only); (first | exact HF9.out _ kd0 | exact HF9.out _ kd1 | exact HF9.out _ kd9 | exact HF9.out _ (kd9.set (.inl (by simp)) _))
       clear hK K hHeld0
       (try simp only [Act.put,List.setIfInBounds_toArray,List.set_cons_zero,List.set_cons_succ])
       refine wpAnyH_ready (rs:=[4]) (by kernel_rfl) (by simp) ?_
       refine' AllReadyH.cons (o:=_) ?ho55 (fun K hK => ?step55) ?more55
       case ho55 => (simp only [List.getElem?_toArray,List.getElem?_cons_succ,List.getElem?_cons_zero]; rfl)
       case step55 =>
        go_simp
        refine hK.out _ _ ?_ (fun hHeld2 => ?_)
        ·(try dsimp only); (first | exact HF9.out _ kd0 | exact HF9.out _ kd1 | exact HF9.out _ kd9 | exact HF9.out _ (kd9.set (.inl (by simp)) _))
        clear hK K hHeld1
        (try simp only [Act.put,List.setIfInBounds_toArray,List.set_cons_zero,List.set_cons_succ])
        refine wpAnyH_ready (rs:=[10]) (by kernel_rfl) (by simp) ?_
        refine' AllReadyH.cons (o:=_) ?ho57 (fun K hK => ?step57) ?more57
        case ho57 => (simp only [List.getElem?_toArray,List.getElem?_cons_succ,List.getElem?_cons_zero]; rfl)
        case step57 =>
         (refine appB_step rfl _ _ rfl B yq cq ql _ HQLN.out rfl HQ1.out _ _ (quO P X) rfl HC0.out HC1.out HC2.out hq1 HBW.out ?_; intro y9 cap9 w9 hQ9 hk9 hg9; have hb9:=hk9.at HBB1.out HXQ.out.1; have x12b:=hb9.cell 12 rfl; have f12:=hb9.free 12; have kd9:Keeps (x :: blkL yq) wB w9:=kd1.trans (hk9.mono (by intro b _ hb; exact List.mem_cons_of_mem _ hb)); have HB9:=hid hb9; have HQ9:=hid hQ9; have HG9:=hid hg9; clear hb9 hQ9 hk9 hg9 x12 y12)
         refine hK.out _ _ ?_ (fun hHeld3 => ?_)
         ·(try dsimp only); (first | exact HF9.out _ kd0 | exact HF9.out _ kd1 | exact HF9.out _ kd9 | exact HF9.out _ (kd9.set (.inl (by simp)) _))
         clear hK K hHeld2
         (try simp only [Act.put,List.setIfInBounds_toArray,List.set_cons_zero,List.set_cons_succ])
         refine' wpAnyH_take (i:=11) (oi:=_) (v:=_) ?hi58 (by kernel_rfl) (by kernel_rfl) (by kernel_rfl) (fun _ _ _ h => h) (Or.inl ⟨?hw58, ?hy58⟩) hHeld3 ?rest58
         case hi58 => (simp only [List.getElem?_toArray,List.getElem?_cons_succ,List.getElem?_cons_zero]; rfl)
         case hw58 => rfl
         case hy58 => (intro w hSw; (try dsimp only at hSw); go_simp; try (with_reducible rfl))
         (try simp only [Act.put,List.setIfInBounds_toArray,List.set_cons_zero,List.set_cons_succ])
         refine' wpAnyH_take (i:=12) (oi:=_) (v:=_) ?hi59 (by kernel_rfl) (by kernel_rfl) (by kernel_rfl) (fun _ _ _ h => h) (Or.inl ⟨?hw59, ?hy59⟩) hHeld3 ?rest59
         case hi59 => (simp only [List.getElem?_toArray,List.getElem?_cons_succ,List.getElem?_cons_zero]; rfl)
         case hw59 => rfl
         case hy59 => (intro w hSw; (try dsimp only at hSw); go_simp; try (with_reducible rfl))
         (try simp only [Act.put,List.setIfInBounds_toArray,List.set_cons_zero,List.set_cons_succ])
         refine wpAnyH_ready (rs:=[13]) (by kernel_rfl) (by simp) ?_
         refine' AllReadyH.cons (o:=_) ?ho61 (fun K hK => ?step61) ?more61
         case ho61 => (simp only [List.getElem?_toArray,List.getElem?_cons_succ,List.getElem?_cons_zero]; rfl)
         case step61 =>
          go_simp
          refine hK.out _ _ ?_ (fun hHeld4 => ?_)
          ·(try dsimp only); (first | exact HF9.out _ kd0 | exact HF9.out _ kd1 | exact HF9.out _ kd9 | exact HF9.out _ (kd9.set (.inl (by simp)) _))
          clear hK K hHeld3
          (try simp only [Act.put,List.setIfInBounds_toArray,List.set_cons_zero,List.set_cons_succ])
          refine wpAnyH_done (by kernel_rfl) ?_ _
          refine NoPanic.normal ?_
          have HEN:=hid (qend (ql:=ql) HXQ.out.1 HXQ.out.2 HB9.out HQ9.out kd9 HG9.out HK1D.out.1 HK1D.out.2)
          clear kd9 x12b f12
          go_wp2_with fail
          go_meet
          rw [← HQL.out]
          exact HEN.out
         exact AllReadyH.nil
        exact AllReadyH.nil
       exact AllReadyH.nil
      exact AllReadyH.nil
     case rest =>
      obtain ⟨wD,hwD⟩:∃ wD,wD = wc:=⟨_,rfl⟩
      subst hwD
      have HCD:=hid hcut
      clear hcut
      have HEN:Hid (CopL P l x mb B yr cr yl cl yq out i n dn I u S' X w (.returned (.int .i64 (TO:Nat))) wD):=by
       obtain ⟨hM,kA⟩:=HCA.out
       obtain ⟨_,kB⟩:=HCB.out
       obtain ⟨y9,cap9,hb3,hq3,kD,hg3⟩:=HCD.out
       obtain ⟨hP2,hu2,hW,hK⟩:=HCX.out
       have hC:=HC.out
       have hA:=HA.out
       have hne:=HNE.out
       have k8:Keeps (x :: mb :: blkL yq) wr wD :=
        ((kA.mono (by intro b _ hb; simp at hb; simp [hb])).trans (kB.mono (by intro b _ hb; simp at hb; simp [hb]))).trans (kD.mono (by intro b _ hb; simp only [List.mem_cons] at hb; rcases hb with rfl | hb; simp; simp [hb]))
       have k9:Keeps (x :: mb :: (blkL yq ++ [P.p,P.a.s,P.a.k,P.a.m])) wr wD:=k8.mono (by intro b _ hb; simp only [List.mem_cons,List.mem_append] at hb ⊢; rcases hb with h | h | h; exact .inl h; exact .inr (.inl h); exact .inr (.inr (.inl h)))
       have K2:Keeps (x :: mb :: (blkL yq ++ [P.p,P.a.s,P.a.k,P.a.m])) w wD:=((HK3.out.mono (by simp)).trans (hK.mono (by intro b _ hb; simp only [List.mem_cons,List.not_mem_nil,or_false] at hb ⊢; simp [hb]))).trans k9
       have hdev:∀ b ∈ clT x mb yr yl yq,b ∉ [P.p,P.a.s,P.a.k,P.a.m]:=fun b hb h => hA b hb (by simp at h ⊢; omega)
       have hoff:∀ b,b ∈ clT x mb yr yl yq → b ≠ x ∧ b ≠ mb → b < B → b ∉ x :: mb :: (blkL yq ++ [P.p,P.a.s,P.a.k,P.a.m]):=fun b h0 h1 h2 h => by
        simp only [List.mem_cons,List.mem_append] at h
        rcases h with h | h | h | h
        ·exact h1.1 h
        ·exact h1.2 h
        ·have:=(hC.qu.ge b h).1; omega
        ·exact hdev b h0 (by simpa using h)
       have hJ:=HJ.out
       have hU2:=HU2.out
       have hnr:=HNR.out
       refine ⟨by rw [HWT.out],y9,cap9,u',S2,⟨?_, ?_,reads_keep hC.rd K2 fun b hb => hoff b (mem_clT.2 (.inr (.inr (.inl hb)))) (hC.rn b hb) (hC.rB b hb),reads_keep hC.lf K2 fun b hb => hoff b (mem_clT.2 (.inr (.inr (.inr (.inl hb))))) (hC.ln b hb) (hC.lB b hb),hC.lc, ?_,Nat.le_trans hC.lt K2.size,hC.xB,hC.mB,hC.rB,hC.lB,hC.xm,hC.rn,hC.ln⟩, ?_,HZN.out, ?_, ?_,K2.mono ?_, ?_⟩
       ·rw [szF_app,szF_cons, ← HU.out, ← hnr.1,List.length_append]
        have e2:U + (nn + 1 + szF P.S []) = U2:=by rw [hU2]; rfl
        have e3:out.length + [X].length - n = out.length - n + 1:=by have:=hJ.2.1; simp; omega
        rw [e2,e3]
        exact hb3
       ·exact (hM.keep kB (by simp; exact fun h => hne.1 h.symm)).keep kD (by simp only [List.mem_cons,not_or]; exact ⟨fun h => hne.1 h.symm,hne.2.2.2.2.1⟩)
       ·rw [quL_app P hJ.2.1]
        exact hq3
       ·have hno:∀ b ∈ [P.p,P.a.d,P.a.s,P.a.k,P.a.m],b ∉ x :: mb :: blkL yq:=fun b hb h => by
         refine hA b (mem_clT.2 ?_) hb
         simp only [List.mem_cons] at h
         rcases h with h | h | h
         ·exact .inl h
         ·exact .inr (.inl h)
         ·exact .inr (.inr (.inr (.inr h)))
        exact hP2.keep k8 (hno _ (by simp)) (hno _ (by simp)) (hno _ (by simp)) (hno _ (by simp)) (hno _ (by simp))
       ·refine hJ.1.copy ?_ HOB.out hJ.2.1 hJ.2.2 fun q => ?_
        ·have h1:=HPX.out.2.1.nd
         exact fun h => (List.nodup_append.1 h1).2.2 X h X (by simp) rfl
        ·have e4:plC P.S P.c P.k out out.length = TO:=by unfold plC; rw [List.take_length, ← HU.out,HTO.out]
         rw [hW q,e4, ← hnr.1]
         by_cases hq:TO ≤ q ∧ q < TO + (nn + 1)
         ·rw [if_pos hq,if_pos (by omega)]
          have h1:=HAP.out
          have h2:=HPX.out.1.sz
          have h3:=HFF.out
          exact hJ.1.from (s:=P.us) (by omega) (by omega) (by omega)
         ·rw [if_neg hq,if_neg (by omega)]
       ·have:=HXT.out; omega
       ·intro b _ hb
        simp only [List.mem_cons,List.mem_append] at hb ⊢
        simp only [mem_clT]
        rcases hb with h | h | h | h
        ·exact .inl (.inl h)
        ·exact .inl (.inr (.inl h))
        ·exact .inl (.inr (.inr (.inr (.inr h))))
        ·exact .inr h
       ·rcases hg3 with h | h
        ·exact .inl h
        ·exact .inr fun g hg => Nat.le_trans (Nat.le_trans (Nat.le_trans HK3.out.size hK.size) (Nat.le_trans kA.size kB.size)) (h g hg)
      go_wp2_with fail
      go_ret
      exact .inl HEN.out
end Go.Proofs.YtglpoffbkkdjiaaGreat
