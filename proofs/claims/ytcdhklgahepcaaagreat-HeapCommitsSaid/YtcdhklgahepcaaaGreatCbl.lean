import Derived.Test.YtcdhklgahepcaaaGreatClk
import Derived.Test.YtcdhklgahepcaaaGreatPtl
set_option maxHeartbeats 4000000
set_option maxRecDepth 100000
namespace Go.Proofs.YtcdhklgahepcaaaGreat
open Go.RowKit Go.OpenShut
def CopL (P:CP) (l:Int) (x mb B:Nat) (yr:Option Addr) (cr:Nat) (yl:Option Addr) (cl:Nat) (yq:Option Addr) (out:List Nat) (i n:Nat) (dn:Bool) (I:Nat) (u:Int) (S0:DS) (X:Nat) (w:World) (e:Ending) (w':World):Prop:=
 e=.returned (.int .i64 (wtC P.S P.c P.k P.LS X:Nat))/\∃yq' cq' u' S',ClB P w' x mb B yr cr yl cl yq' cq' (out++ [X]) i n dn/\Pw w' P.p P.a l u' S'/\Zon P S0 S'/\CpJ P.S S' P.c P.k P.us (out++ [X]) n I/\u'≤u+65/\
  xe (clT x mb yr yl yq++ [P.p,P.a.s,P.a.k,P.a.m]) w w'/\(blkL yq'=blkL yq\/∀g∈blkL yq',w.heap.size≤g)
theorem xcO (P:CP) (hP:P.Ok) (w:World) (x mb B:Nat) (yr:Option Addr) (cr:Nat) (yl:Option Addr) (cl:Nat) (yq:Option Addr) (cq:Nat) (out:List Nat) (i n:Nat) (dn:Bool) (hC:ClB P w x mb B yr cr yl cl yq cq out i n dn) (hA:Apart P (clT x mb yr yl yq))
  (l u:Int) (S':DS) (hPw:Pw w P.p P.a l u S') (hu:u≤800000000000) (I:Nat) (hJ:CpJ P.S S' P.c P.k P.us out n I) (hn:n≤out.length) (hnI:n=out.length->I=0) (hpre:P.Pre out) (X nn rr:Nat) (hX:P.LS[out.length]? =some X) (hnn:nn=hdN (P.S.now X).toNat) (hrr:rr=hdR (P.S.now X).toNat):
  Calls Tryz.prog 212 #[ptr x,obV (nn:Nat) (rr:Nat) (X:Nat)] w (fun e w'=>CopL P l x mb B yr cr yl cl yq out i n dn I u S' X w e w'\/CutC P l (clT x mb yr yl yq) S' w e w'):=by
 obtain⟨hc,hcn,hk,hus,hrdy,-,-,-,-⟩:=hP
 have hfr:=xW hc.small (show 1-P.k≤2 by omega)
 have hfr0:=xW hc.small (show P.k≤2 by omega)
 have hsp:=hc.small.2.2
 have hfs:P.c.frm (1-P.k)+P.c.space≤P.a.n:=by rw[<-hcn];exact xu _ (by omega)
 have hfs0:P.c.frm P.k+P.c.space≤P.a.n:=by rw[<-hcn];exact xu _ hk
 obtain⟨hpx,hwt,hsz⟩:=hpre.next hX
 have hsz2:=hrdy.sz
 have hsz2:szF P.S P.LS≤P.c.space:=hsz2
 obtain⟨x1,x2,x3,x4,x5⟩:=yN (P.obs (List.mem_of_getElem? hX))
 have hn64:=yu x3
 rw[<-hnn]at hsz x4 hn64
 obtain⟨U,hU⟩:∃U,U=szF P.S out:=⟨_,rfl⟩
 obtain⟨TO,hTO⟩:∃TO,TO=P.c.frm (1-P.k)+U:=⟨_,rfl⟩
 rw[<-hU]at hwt hsz
 rw[<-hTO]at hwt
 have hap:=Jf (c:=P.c) (k:=P.k) (s:=P.us) (t:=szF P.S P.LS) hk hus hsz2
 have hnn64:nn≤64:=by omega
 have hnni:(nn:Int)≤64:=by omega
 have hUi:(U:Int)≤4096:=by omega
 have hTi:(TO:Int)≤30000:=by omega
 have hXi:(X:Int)≤30000:=by omega
 have hXa:X+nn<P.a.n:=by omega
 have hTa:TO+nn<P.a.n:=by omega
 have hoff:X+nn<TO\/TO+nn<X:=by omega
 have hbox:=hC.box
 rw[<-hU]at hbox
 have hxw:x<w.heap.size:=hbox.lt
 have HC:=hid hC
 have HA:=hid hA
 have HPW:=hid hPw
 have HU:=hid hU
 have HTO:=hid hTO
 have HWT:=hid hwt
 have HJ:=hid (And.intro hJ (And.intro hn hnI))
 have HPX:=hid (And.intro hpre (And.intro hpx hX))
 have HNR:=hid (And.intro hnn hrr)
 have HUB:=hid hu
 have HXT:=hid (And.intro hXa (And.intro hTa (And.intro hoff hnn64)))
 have HSZ:=hid (fun w=>wH w nn rr (by omega))
 have HPL:Hid (∀w',Calls Tryz.prog 156 #[bkV ((1-P.k:Nat):Int) (U:Nat) (.slice none 0 0),cfgV P.c,.int .i64 (U:Nat)] w' fun e w''=>e=.returned (.int .i64 (TO:Nat))/\xe [] w' w''):=fun w'=>by
  have:=yM w' P.c hc.small (1-P.k) (by omega) (U:Nat) (.slice none 0 0) (U:Nat) (by omega)
  rw[show((P.c.frm (1-P.k):Nat):Int)+(U:Int)=(TO:Int) by omega]at this
  exact this
 have HOB:Hid ((obW P.S P.c P.k P.us X).isSome=true):=P.obs (List.mem_of_getElem? hX)
 have HAP:=hid hap
 have HSPC:=hid hsp
 have HZS:Hid (U+(nn+1)≤szF P.S P.LS):=by show _≤_;omega
 have HFF:=hid (And.intro x1 (And.intro x4 (And.intro hus hfs0)))
 clear hc hcn hk hus hrdy hfr hfr0 hsp hfs hfs0 hpx hwt hsz hsz2 x1 x2 x3 x4 x5 hn64 hU hTO hap hC hA hPw hu hJ hn hnI hpre hX hnn hrr hXa hTa hoff hnn64
 go_enter Tryz.func212,Tryz.ntmps212
 go_upto_region 1 with fail
 have hO1:=At.new w (obO (nn:Nat) (rr:Nat) (X:Nat))
 have k01:=(xe.refl [] w).alloc (obO (nn:Nat) (rr:Nat) (X:Nat))
 obtain⟨ob,hob⟩:∃q,q=w.heap.size:=⟨_,rfl⟩
 obtain⟨w1,hw1⟩:∃w1,w1=w.alloc (obO (nn:Nat) (rr:Nat) (X:Nat)):=⟨_,rfl⟩
 rw[<-hw1]at hO1 k01
 first|rw[<-hw1]|skip
 rw[<-hob]at hO1⊢
 have hB1:=k01.at hbox (by simp)
 have hxo:x≠ob:=by omega
 have HO1:=hid hO1
 have HB1:=hid hB1
 have HK1:=hid k01
 have HQ:Hid (ob=w.heap.size/\x≠ob):=⟨hob,hxo⟩
 have HF1:Hid (∀w',xe [] w1 w'->(w'.cell? ⟨x,1,none⟩=some (.int .i64 P.c.log)/\w'.cell? ⟨x,2,none⟩=some (.int .i64 P.c.roots)/\w'.cell? ⟨x,3,none⟩=some (.int .i64 P.c.space)/\w'.cell? ⟨x,7,none⟩=some (.int .i64 ((1-P.k:Nat):Int))/\w'.cell? ⟨x,8,none⟩=some (.int .i64 (U:Nat))/\w'.cell? ⟨x,9,none⟩=some (.slice none 0 0))):=fun w' hk=>by
  have e1:=hk.at hB1 (by simp)
  exact⟨e1.cell 1 rfl,e1.cell 2 rfl,e1.cell 3 rfl,e1.cell 7 rfl,e1.cell 8 rfl,e1.cell 9 rfl⟩
 clear hw1 hob hO1 hB1 k01 hbox hxw hxo
 have kk:xe [] w1 w1.drew:=(xe.refl _ _).drew
 go_region_held3 (fun w'=>(w'.cell? ⟨x,1,none⟩=some (.int .i64 P.c.log)∧w'.cell? ⟨x,2,none⟩=some (.int .i64 P.c.roots)∧w'.cell? ⟨x,3,none⟩=some (.int .i64 P.c.space)∧w'.cell? ⟨x,7,none⟩=some (.int .i64 ((1-P.k:Nat):Int))∧w'.cell? ⟨x,8,none⟩=some (.int .i64 (U:Nat))∧w'.cell? ⟨x,9,none⟩=some (.slice none 0 0)))
  (exact HF1.out _ kk)
  (first
    |(go_at_call 156;refine(HPL.out _).mono ?_;rintro e w' ⟨rfl,hk9⟩;have kk:=kk.trans hk9;clear hk9))
 rename_i hHd
 clear hHd
 have hB2:=kk.at HB1.out (by simp)
 have hO2:=kk.at HO1.out (by simp)
 have HK2:Hid (xe [] w w'):=HK1.out.trans kk
 have HB2:=hid hB2
 have HO2:=hid hO2
 have o0:=hO2.cell 0 rfl
 have o1:=hO2.cell 1 rfl
 clear kk hB2 hO2
 go_wp2_with fail
 refine(HSZ.out _).mono ?_
 rintro e w3 ⟨rfl,hk3⟩
 have HB3:=hid (hk3.at HB2.out (by simp))
 have HO3:=hid (hk3.at HO2.out (by simp))
 have HK3:=hid (HK2.out.trans hk3)
 have HND:Hid (x∉[P.p,P.a.s,P.a.k,P.a.m]/\ob∉[P.p,P.a.s,P.a.k,P.a.m]):=by
  have h1:=HQ.out.1
  have h2:=HPW.out.pow.lt
  have h3:=HPW.out.dev.now.lt
  have h4:=HPW.out.dev.kept.lt
  have h5:=HPW.out.dev.map.lt
  refine⟨fun h=>HA.out x (by simp[clT]) (by simp at h⊢;omega),fun h=>?_⟩
  simp at h
  omega
 clear hk3 o0 o1
 go_wp2_with fail
 go_loopg [24] (nn+1) (fun rr s24 wr=>∃(j:Nat) (u':Int) (S2:DS),j+rr=nn+1∧s24=.int .i64 j∧Pw wr P.p P.a l u' S2∧u'≤u+(j:Int)∧(CpW X TO S' S2 j∧Zon P S' S2)∧xe [P.p,P.a.s,P.a.k,P.a.m] w3 wr)
 case atStart=>exact⟨0,u,S',by omega,rfl,HPW.out.keep0 HK3.out,by omega,⟨fun q=>by rw[if_neg (by omega)],Zon.refl _ _⟩,xe.refl _ _⟩
 case round=>
  obtain⟨j,u',S2,hj,rfl,hP2,hu2,⟨hW,hZn⟩,hK⟩:=hrel
  by_cases hlt:j<nn+1
  ·have hji:(j:Int)<(nn:Int)+1:=by omega
   have e1:IntKind.i64.wrap ((X:Int)+(j:Int))=(X:Int)+(j:Int):=IntWalk.i64_in _ (by omega)
   have e2:IntKind.i64.wrap ((TO:Int)+(j:Int))=(TO:Int)+(j:Int):=IntWalk.i64_in _ (by omega)
   obtain⟨v,hv⟩:∃v,v=S'.now (X+j):=⟨_,rfl⟩
   have hsv:S2.now (X+j)=v:=by rw[hW,if_neg (by have:=HXT.out;omega),hv]
   have hxt:=HXT.out
   have hub2:u'≤1000000000000:=by have:=HUB.out;omega
   have HLD:Hid (∀w',xe [] wr w'->Calls Tryz.prog 107 #[ptr P.a.d,.int .i64 ((X:Int)+(j:Int))] w' fun e w''=>e=.returned (.int .u64 v)/\w'=w''):=fun w' hk=>by
    have:=XM w' P.p P.a S2 (X+j) v (hP2.keep0 hk).dev (by omega) hsv
    rwa[show(((X+j:Nat)):Int)=(X:Int)+(j:Int) by omega]at this
   have HST:=hid (fun(w':World) (hk:xe [] wr w')=>QL w' P.p P.a l u' S2 (hP2.keep0 hk) hub2 ((TO:Int)+(j:Int)) v (by omega))
   have HX5:Hid (∀w',xe [P.p,P.a.s,P.a.k,P.a.m] wr w'->(w'.cell? ⟨x,0,none⟩=some (ptr P.a.d)/\w'.cell? ⟨ob,2,none⟩=some (.int .i64 (X:Nat)))):=fun w' hk=>by
    have g1:=hk.at (hK.at HB3.out HND.out.1) HND.out.1
    have g2:=hk.at (hK.at HO3.out HND.out.2) HND.out.2
    exact⟨g1.cell 0 rfl,g2.cell 2 rfl⟩
   have HZN:=hid hZn
   have HE:=hid (And.intro hj (And.intro hu2 (And.intro hW (And.intro hK (And.intro hv hlt)))))
   clear hj hP2 hu2 hW hZn hK hlt hv hsv hxt hub2
   have HCK:Hid (∀(_:Nat) (w9:World),xe [P.p,P.a.s,P.a.k,P.a.m] wr w9->xe (clT x mb yr yl yq++ [P.p,P.a.s,P.a.k,P.a.m]) w w9):=fun _ w9 h=>(HK3.out.mono (by simp)).trans ((HE.out.2.2.2.1.trans h).mono (fun k _ hb=>List.mem_append_right _ hb))
   go_upto_region 5 with fail
   have kk:xe [] wr wr.drew:=(xe.refl _ _).drew
   have kd:xe [P.p,P.a.s,P.a.k,P.a.m] wr wr.drew:=(xe.refl _ _).drew
   refine wp_region_held_drew (S:=fun w'=>w'.cell? ⟨x,0,none⟩=some (ptr P.a.d)/\w'.cell? ⟨ob,2,none⟩=some (.int .i64 (X:Nat))) (by kernel_rfl) ?_ (fun hHeld0=>?_)
   ·(try dsimp only);(exact HX5.out _ kd)
   refine' wpAnyH_take (i:=0) (oi:=_) (v:=_) ?hi501 (by kernel_rfl) (by kernel_rfl) (by kernel_rfl) ?hq501 (Or.inl ⟨?hw501,?hy501⟩) hHeld0 ?rest501
   case hi501=>(simp only[gA,gC];rfl)
   case hq501=>exact fun _ _ _ h=>h
   case hw501=>rfl
   case hy501=>(intro w hSw;(try dsimp only at hSw);go_simp;try (with_reducible rfl))
   (try simp only[Act.put,sA,sB,sC])
   refine' wpAnyH_take (i:=1) (oi:=_) (v:=_) ?hi502 (by kernel_rfl) (by kernel_rfl) (by kernel_rfl) ?hq502 (Or.inl ⟨?hw502,?hy502⟩) hHeld0 ?rest502
   case hi502=>(simp only[gA,gB,gC];rfl)
   case hq502=>exact fun _ _ _ h=>h
   case hw502=>rfl
   case hy502=>(intro w hSw;(try dsimp only at hSw);go_simp;try (with_reducible rfl))
   (try simp only[Act.put,sA,sB,sC])
   refine' wpAnyH_take (i:=2) (oi:=_) (v:=_) ?hi503 (by kernel_rfl) (by kernel_rfl) (by kernel_rfl) ?hq503 (Or.inl ⟨?hw503,?hy503⟩) hHeld0 ?rest503
   case hi503=>(simp only[gA,gB,gC];rfl)
   case hq503=>exact fun _ _ _ h=>h
   case hw503=>rfl
   case hy503=>(intro w hSw;(try dsimp only at hSw);go_simp;try (with_reducible rfl))
   (try simp only[Act.put,sA,sB,sC])
   refine' wpAnyH_take (i:=3) (oi:=_) (v:=_) ?hi504 (by kernel_rfl) (by kernel_rfl) (by kernel_rfl) ?hq504 (Or.inl ⟨?hw504,?hy504⟩) hHeld0 ?rest504
   case hi504=>(simp only[gA,gB,gC];rfl)
   case hq504=>exact fun _ _ _ h=>h
   case hw504=>rfl
   case hy504=>(intro w hSw;(try dsimp only at hSw);go_simp;try (with_reducible rfl))
   (try simp only[Act.put,sA,sB,sC])
   refine' wpAnyH_take (i:=4) (oi:=_) (v:=_) ?hi505 (by kernel_rfl) (by kernel_rfl) (by kernel_rfl) ?hq505 (Or.inl ⟨?hw505,?hy505⟩) hHeld0 ?rest505
   case hi505=>(simp only[gA,gB,gC];rfl)
   case hq505=>exact fun _ _ _ h=>h
   case hw505=>rfl
   case hy505=>(intro w hSw;(try dsimp only at hSw);go_simp;try (with_reducible rfl))
   (try simp only[Act.put,sA,sB,sC])
   refine' wpAnyH_take (i:=5) (oi:=_) (v:=_) ?hi506 (by kernel_rfl) (by kernel_rfl) (by kernel_rfl) ?hq506 (Or.inl ⟨?hw506,?hy506⟩) hHeld0 ?rest506
   case hi506=>(simp only[gA,gB,gC];rfl)
   case hq506=>exact fun _ _ _ h=>h
   case hw506=>rfl
   case hy506=>(intro w hSw;(try dsimp only at hSw);go_simp;try (with_reducible rfl))
   (try simp only[Act.put,sA,sB,sC])
   refine' wpAnyH_take (i:=6) (oi:=_) (v:=_) ?hi507 (by kernel_rfl) (by kernel_rfl) (by kernel_rfl) ?hq507 (Or.inl ⟨?hw507,?hy507⟩) hHeld0 ?rest507
   case hi507=>(simp only[gA,gB,gC];rfl)
   case hq507=>exact fun _ _ _ h=>h
   case hw507=>rfl
   case hy507=>(intro w hSw;(try dsimp only at hSw);go_simp;try (with_reducible rfl))
   (try simp only[Act.put,sA,sB,sC])
   refine' wpAnyH_take (i:=7) (oi:=_) (v:=_) ?hi508 (by kernel_rfl) (by kernel_rfl) (by kernel_rfl) ?hq508 (Or.inl ⟨?hw508,?hy508⟩) hHeld0 ?rest508
   case hi508=>(simp only[gA,gB,gC];rfl)
   case hq508=>exact fun _ _ _ h=>h
   case hw508=>rfl
   case hy508=>(intro w hSw;(try dsimp only at hSw);go_simp;try (with_reducible rfl))
   (try simp only[Act.put,sA,sB,sC])
   refine' wpAnyH_take (i:=8) (oi:=_) (v:=_) ?hi509 (by kernel_rfl) (by kernel_rfl) (by kernel_rfl) ?hq509 (Or.inl ⟨?hw509,?hy509⟩) hHeld0 ?rest509
   case hi509=>(simp only[gA,gB,gC];rfl)
   case hq509=>exact fun _ _ _ h=>h
   case hw509=>rfl
   case hy509=>(intro w hSw;(try dsimp only at hSw);go_simp;try (with_reducible rfl))
   (try simp only[Act.put,sA,sB,sC])
   refine' wpAnyH_take (i:=9) (oi:=_) (v:=_) ?hi510 (by kernel_rfl) (by kernel_rfl) (by kernel_rfl) ?hq510 (Or.inl ⟨?hw510,?hy510⟩) hHeld0 ?rest510
   case hi510=>(simp only[gA,gB,gC];rfl)
   case hq510=>exact fun _ _ _ h=>h
   case hw510=>rfl
   case hy510=>(intro w hSw;(try dsimp only at hSw);go_simp;try (with_reducible rfl))
   (try simp only[Act.put,sA,sB,sC])
   refine' wpAnyH_take (i:=10) (oi:=_) (v:=_) ?hi511 (by kernel_rfl) (by kernel_rfl) (by kernel_rfl) ?hq511 (Or.inl ⟨?hw511,?hy511⟩) hHeld0 ?rest511
   case hi511=>(simp only[gA,gB,gC];rfl)
   case hq511=>exact fun _ _ _ h=>h
   case hw511=>rfl
   case hy511=>(intro w hSw;(try dsimp only at hSw);go_simp;try (with_reducible rfl))
   (try simp only[Act.put,sA,sB,sC])
   refine' wpAnyH_take (i:=11) (oi:=_) (v:=_) ?hi512 (by kernel_rfl) (by kernel_rfl) (by kernel_rfl) ?hq512 (Or.inl ⟨?hw512,?hy512⟩) hHeld0 ?rest512
   case hi512=>(simp only[gA,gB,gC];rfl)
   case hq512=>exact fun _ _ _ h=>h
   case hw512=>rfl
   case hy512=>(intro w hSw;(try dsimp only at hSw);go_simp;try (with_reducible rfl))
   (try simp only[Act.put,sA,sB,sC])
   refine' wpAnyH_take (i:=12) (oi:=_) (v:=_) ?hi513 (by kernel_rfl) (by kernel_rfl) (by kernel_rfl) ?hq513 (Or.inl ⟨?hw513,?hy513⟩) hHeld0 ?rest513
   case hi513=>(simp only[gA,gB,gC];rfl)
   case hq513=>exact fun _ _ _ h=>h
   case hw513=>rfl
   case hy513=>(intro w hSw;(try dsimp only at hSw);go_simp;try (with_reducible rfl))
   (try simp only[Act.put,sA,sB,sC])
   refine' wpAnyH_take (i:=13) (oi:=_) (v:=_) ?hi514 (by kernel_rfl) (by kernel_rfl) (by kernel_rfl) ?hq514 (Or.inl ⟨?hw514,?hy514⟩) hHeld0 ?rest514
   case hi514=>(simp only[gA,gB,gC];rfl)
   case hq514=>exact fun _ _ _ h=>h
   case hw514=>rfl
   case hy514=>(intro w hSw;(try dsimp only at hSw);go_simp;try (with_reducible rfl))
   (try simp only[Act.put,sA,sB,sC])
   refine' wpAnyH_take (i:=14) (oi:=_) (v:=_) ?hi515 (by kernel_rfl) (by kernel_rfl) (by kernel_rfl) ?hq515 (Or.inl ⟨?hw515,?hy515⟩) hHeld0 ?rest515
   case hi515=>(simp only[gA,gB,gC];rfl)
   case hq515=>exact fun _ _ _ h=>h
   case hw515=>rfl
   case hy515=>(intro w hSw;(try dsimp only at hSw);go_simp;try (with_reducible rfl))
   (try simp only[Act.put,sA,sB,sC])
   refine wpAnyH_ready (rs:=[15]) (by kernel_rfl) (by simp) ?_
   refine' AllReadyH.cons (o:=_) ?ho517 (fun K hK=>?step517) ?more517
   case ho517=>(simp only[gA,gB,gC];rfl)
   case step517=>
    go_simp
    (go_at_call 107;refine(HLD.out _ kk).mono ?_;rintro e w' ⟨rfl,rfl⟩)
    (try go_wp2_with fail)
    refine hK.out _ _ ?_ (fun hHeld1=>?_)
    ·(try dsimp only);(exact HX5.out _ kd)
    clear hK K hHeld0
    (try simp only[Act.put,sA,sB,sC])
    refine wpAnyH_ready (rs:=[16]) (by kernel_rfl) (by simp) ?_
    refine' AllReadyH.cons (o:=_) ?ho519 (fun K hK=>?step519) ?more519
    case ho519=>(simp only[gA,gB,gC];rfl)
    case step519=>
     go_simp
     (go_at_call 145;refine(HST.out _ kk).mono ?_;rintro e w'' (⟨rfl,hx9⟩|⟨rfl,hx9⟩);rotate_left;exact And.intro rfl (Or.inr ⟨rfl,S2,hx9.out.1,HZN.out,HCK.out 0 _ (kd.trans hx9.out.2)⟩);have kd:=kd.trans hx9.out.2)
     (try go_wp2_with fail)
     refine hK.out _ _ ?_ (fun hHeld2=>?_)
     ·(try dsimp only);(exact HX5.out _ kd)
     clear hK K hHeld1
     (try simp only[Act.put,sA,sB,sC])
     refine wpAnyH_done (by kernel_rfl) ?_ _
     skip
     have HEN:Hid (Pw w'' P.p P.a l (u'+1) (xh S2 [.st ((TO:Int)+(j:Int)).toNat v])/\(CpW X TO S' (xh S2 [.st ((TO:Int)+(j:Int)).toNat v]) (j+1)/\Zon P S' (xh S2 [.st ((TO:Int)+(j:Int)).toNat v]))/\xe [P.p,P.a.s,P.a.k,P.a.m] w3 w''):=by
      refine⟨hx9.out.1,?_,HE.out.2.2.2.1.trans kd⟩
      rw[show((TO:Int)+(j:Int)).toNat=TO+j by omega,HE.out.2.2.2.2.1]
      refine⟨HE.out.2.2.1.next,HZN.out.st ?_ _⟩
      have h1:=HTO.out
      have h2:=HZS.out
      have h3:=HE.out.2.2.2.2.2
      omega
     clear kd kk hx9 HLD HST HX5 e1 e2
     go_wp2_with fail
     go_roundg (nn+1-(j+1))
     case measure=>(have:=HE.out;omega)
     case rel=>exact⟨j+1,u'+1,_,by have:=HE.out;omega,by go_num,HEN.out.1,by have:=HE.out;omega,HEN.out.2.1,HEN.out.2.2⟩
    exact AllReadyH.nil
   exact AllReadyH.nil
  ·have hjn:j=nn+1:=by omega
   subst hjn
   have hji:(nn:Int)+1≤((nn+1:Nat):Int):=by omega
   have t1:decide (((nn+1:Nat):Int)<(nn:Int)+1)=false:=decide_eq_false (by omega)
   have HZN:=hid hZn
   have HCX:=hid (And.intro hP2 (And.intro hu2 (And.intro hW hK)))
   have hC:=HC.out
   have hyq:=fun b hb=>(hC.qu.ge b hb)
   have HNE:Hid (x≠mb/\ob≠mb/\mb∉[P.p,P.a.s,P.a.k,P.a.m]/\x∉blkL yq/\mb∉blkL yq/\ob∉blkL yq/\B≤w.heap.size):=by
    have h1:=hC.mB
    have h2:=hC.xB
    have h3:=hC.lt
    have h4:=HQ.out
    refine⟨hC.xm,by omega,fun h=>HA.out mb (by simp[clT]) (by simp at h⊢;omega),fun h=>?_,fun h=>?_,fun h=>?_,h3⟩
    ·have:=(hyq _ h).1;omega
    ·have:=(hyq _ h).1;omega
    ·have:=(hyq _ h).2;omega
   have HB5:=hid (hK.at HB3.out HND.out.1)
   have HO5:=hid (hK.at HO3.out HND.out.2)
   have HM5:=hid (hC.mp.keep ((HK3.out.mono (by simp)).trans hK) HNE.out.2.2.1)
   clear hj hP2 hu2 hW hZn hK hC hyq hlt
   go_upto_region 7 with fail
   go_cut []from 45 to 51 (fun wx=>IMap wx mb (Zc P.S P.c P.k P.LS (out++ [X]))∧xe [mb] wr wx)
   case first=>
    obtain⟨w6,hrun,hM6,k56⟩:=(HM5.out.keep ((xe.refl [] wr).drew) (by simp)).update (P:=Tryz.prog) Tryz.underlying199 Tryz.underlying3 (X:Int) (.int .i64 (TO:Nat))
    have kk:xe [] wr wr.drew:=(xe.refl _ _).drew
    have HX7:Hid (∀w',xe [mb] wr w'->(w'.cell? ⟨x,11,none⟩=some (.map (some mb))/\w'.cell? ⟨ob,2,none⟩=some (.int .i64 (X:Nat)))):=fun w' hk=>by
     have g1:=hk.at HB5.out (by have:=HNE.out.1;simpa using this)
     have g2:=hk.at HO5.out (by have:=HNE.out.2.1;simpa using this)
     exact⟨g1.cell 11 rfl,g2.cell 2 rfl⟩
    have k6:xe [mb] wr w6:=(kk.mono (by simp)).trans k56
    have HEN:Hid (IMap w6 mb (Zc P.S P.c P.k P.LS (out++ [X]))/\xe [mb] wr w6):=by
     have h:=hM6
     rw[<-HWT.out,Qx]at h
     exact⟨h,k6⟩
    have HX76:=hid (HX7.out w6 k6)
    have HX70:=hid (HX7.out _ (kk.mono (by simp)))
    clear hM6 k56 k6
    refine wp_region_noPanic ?_
    refine wp_region_held_drew (S:=fun w'=>w'.cell? ⟨x,11,none⟩=some (.map (some mb))/\w'.cell? ⟨ob,2,none⟩=some (.int .i64 (X:Nat))) (by kernel_rfl) ?_ (fun hHeld0=>?_)
    ·(try dsimp only);(first|exact HX70.out|exact HX76.out)
    refine' wpAnyH_take (i:=0) (oi:=_) (v:=_) ?hi1 (by kernel_rfl) (by kernel_rfl) (by kernel_rfl) (fun _ _ _ h=>h) (Or.inl ⟨?hw1,?hy1⟩) hHeld0 ?rest1
    case hi1=>(simp only[gA,gC];rfl)
    case hw1=>rfl
    case hy1=>(intro w hSw;(try dsimp only at hSw);go_simp;try (with_reducible rfl))
    (try simp only[Act.put,sA,sB,sC])
    refine' wpAnyH_take (i:=1) (oi:=_) (v:=_) ?hi2 (by kernel_rfl) (by kernel_rfl) (by kernel_rfl) (fun _ _ _ h=>h) (Or.inl ⟨?hw2,?hy2⟩) hHeld0 ?rest2
    case hi2=>(simp only[gA,gB,gC];rfl)
    case hw2=>rfl
    case hy2=>(intro w hSw;(try dsimp only at hSw);go_simp;try (with_reducible rfl))
    (try simp only[Act.put,sA,sB,sC])
    refine' wpAnyH_take (i:=2) (oi:=_) (v:=_) ?hi3 (by kernel_rfl) (by kernel_rfl) (by kernel_rfl) (fun _ _ _ h=>h) (Or.inl ⟨?hw3,?hy3⟩) hHeld0 ?rest3
    case hi3=>(simp only[gA,gB,gC];rfl)
    case hw3=>rfl
    case hy3=>(intro w hSw;(try dsimp only at hSw);go_simp;try (with_reducible rfl))
    (try simp only[Act.put,sA,sB,sC])
    refine' wpAnyH_take (i:=3) (oi:=_) (v:=_) ?hi4 (by kernel_rfl) (by kernel_rfl) (by kernel_rfl) (fun _ _ _ h=>h) (Or.inl ⟨?hw4,?hy4⟩) hHeld0 ?rest4
    case hi4=>(simp only[gA,gB,gC];rfl)
    case hw4=>rfl
    case hy4=>(intro w hSw;(try dsimp only at hSw);go_simp;try (with_reducible rfl))
    (try simp only[Act.put,sA,sB,sC])
    refine' wpAnyH_take (i:=4) (oi:=_) (v:=_) ?hi5 (by kernel_rfl) (by kernel_rfl) (by kernel_rfl) (fun _ _ _ h=>h) (Or.inl ⟨?hw5,?hy5⟩) hHeld0 ?rest5
    case hi5=>(simp only[gA,gB,gC];rfl)
    case hw5=>rfl
    case hy5=>(intro w hSw;(try dsimp only at hSw);go_simp;try (with_reducible rfl))
    (try simp only[Act.put,sA,sB,sC])
    refine' wpAnyH_take (i:=5) (oi:=_) (v:=_) ?hi6 (by kernel_rfl) (by kernel_rfl) (by kernel_rfl) (fun _ _ _ h=>h) (Or.inl ⟨?hw6,?hy6⟩) hHeld0 ?rest6
    case hi6=>(simp only[gA,gB,gC];rfl)
    case hw6=>rfl
    case hy6=>(intro w hSw;(try dsimp only at hSw);go_simp;try (with_reducible rfl))
    (try simp only[Act.put,sA,sB,sC])
    refine' wpAnyH_take (i:=6) (oi:=_) (v:=_) ?hi7 (by kernel_rfl) (by kernel_rfl) (by kernel_rfl) (fun _ _ _ h=>h) (Or.inl ⟨?hw7,?hy7⟩) hHeld0 ?rest7
    case hi7=>(simp only[gA,gB,gC];rfl)
    case hw7=>rfl
    case hy7=>(intro w hSw;(try dsimp only at hSw);go_simp;try (with_reducible rfl))
    (try simp only[Act.put,sA,sB,sC])
    refine wpAnyH_ready (rs:=[7]) (by kernel_rfl) (by simp) ?_
    refine' AllReadyH.cons (o:=_) ?ho9 (fun K hK=>?step9) ?more9
    case ho9=>(simp only[gA,gB,gC];rfl)
    case step9=>
     go_simp
     refine hK.out _ _ ?_ (fun hHeld1=>?_)
     ·(try dsimp only);(first|exact HX70.out|exact HX76.out)
     clear hK K hHeld0
     (try simp only[Act.put,sA,sB,sC])
     refine wpAnyH_done (by kernel_rfl) ?_ _
     refine NoPanic.normal ?_
     clear hrun
     go_wp2_with fail
     go_meet
     exact HEN.out
    exact AllReadyH.nil
   case rest=>
    obtain⟨wA,hwA⟩:∃wA,wA=wc:=⟨_,rfl⟩
    subst hwA
    have HCA:=hid hcut
    clear hcut HM5
    go_upto_region 8 with fail
    obtain⟨U2,hU2⟩:∃U2:Nat,U2=U+(nn+1):=⟨_,rfl⟩
    have HU2:=hid hU2
    go_cut []from 52 to 63 (fun wx=>At wx x (colO P U2 yr cr yl (P.ws.length-i) cl mb yq (out.length-n) cq dn)∧xe [x] wA wx)
    case first=>
     have hBA:=HCA.out.2.at HB5.out (by have:=HNE.out.1;simpa using this)
     have hOA:=HCA.out.2.at HO5.out (by have:=HNE.out.2.1;simpa using this)
     have HBA:=hid hBA
     have HF8:Hid (∀w',xe [x] wA w'->(w'.cell? ⟨ob,0,none⟩=some (.int .i64 (nn:Nat))/\w'.cell? ⟨ob,1,none⟩=some (.int .i64 (rr:Nat)))):=fun w' hk=>by
      have g2:=hk.at hOA (by have:=HQ.out.2;simp;omega)
      exact⟨g2.cell 0 rfl,g2.cell 1 rfl⟩
     have e1:IntKind.i64.wrap ((U:Int)+((nn:Int)+1))=(U2:Int):=by
      have h:((U:Int)+((nn:Int)+1))=(U2:Int):=by omega
      rw[h]
      exact IntWalk.i64_in _ (by omega)
     have kk:xe [] wA wA.drew:=(xe.refl _ _).drew
     have hb9:=kk.at hBA (by simp)
     have x8:=hb9.cell 8 rfl
     have f8:=hb9.free 8
     clear hBA hOA hb9 hU2 hji t1
     refine wp_region_noPanic ?_
     refine wp_region_held_drew (S:=fun w'=>w'.cell? ⟨ob,0,none⟩=some (.int .i64 (nn:Nat))/\w'.cell? ⟨ob,1,none⟩=some (.int .i64 (rr:Nat))) (by kernel_rfl) ?_ (fun hHeld0=>?_)
     ·(try dsimp only);(first|exact HF8.out _ (kk.mono (by simp))|exact HF8.out _ ((kk.mono (by simp)).set (.inl (by simp)) _))
     refine' wpAnyH_take (i:=0) (oi:=_) (v:=_) ?hi10 (by kernel_rfl) (by kernel_rfl) (by kernel_rfl) (fun _ _ _ h=>h) (Or.inl ⟨?hw10,?hy10⟩) hHeld0 ?rest10
     case hi10=>(simp only[gA,gC];rfl)
     case hw10=>rfl
     case hy10=>(intro w hSw;(try dsimp only at hSw);go_simp;try (with_reducible rfl))
     (try simp only[Act.put,sA,sB,sC])
     refine' wpAnyH_take (i:=1) (oi:=_) (v:=_) ?hi11 (by kernel_rfl) (by kernel_rfl) (by kernel_rfl) (fun _ _ _ h=>h) (Or.inl ⟨?hw11,?hy11⟩) hHeld0 ?rest11
     case hi11=>(simp only[gA,gB,gC];rfl)
     case hw11=>rfl
     case hy11=>(intro w hSw;(try dsimp only at hSw);go_simp;try (with_reducible rfl))
     (try simp only[Act.put,sA,sB,sC])
     refine' wpAnyH_take (i:=2) (oi:=_) (v:=_) ?hi12 (by kernel_rfl) (by kernel_rfl) (by kernel_rfl) (fun _ _ _ h=>h) (Or.inl ⟨?hw12,?hy12⟩) hHeld0 ?rest12
     case hi12=>(simp only[gA,gB,gC];rfl)
     case hw12=>rfl
     case hy12=>(intro w hSw;(try dsimp only at hSw);go_simp;try (with_reducible rfl))
     (try simp only[Act.put,sA,sB,sC])
     refine' wpAnyH_take (i:=3) (oi:=_) (v:=_) ?hi13 (by kernel_rfl) (by kernel_rfl) (by kernel_rfl) (fun _ _ _ h=>h) (Or.inl ⟨?hw13,?hy13⟩) hHeld0 ?rest13
     case hi13=>(simp only[gA,gB,gC];rfl)
     case hw13=>rfl
     case hy13=>(intro w hSw;(try dsimp only at hSw);go_simp;try (with_reducible rfl))
     (try simp only[Act.put,sA,sB,sC])
     refine' wpAnyH_take (i:=5) (oi:=_) (v:=_) ?hi14 (by kernel_rfl) (by kernel_rfl) (by kernel_rfl) (fun _ _ _ h=>h) (Or.inl ⟨?hw14,?hy14⟩) hHeld0 ?rest14
     case hi14=>(simp only[gA,gB,gC];rfl)
     case hw14=>rfl
     case hy14=>(intro w hSw;(try dsimp only at hSw);go_simp;try (with_reducible rfl))
     (try simp only[Act.put,sA,sB,sC])
     refine' wpAnyH_take (i:=6) (oi:=_) (v:=_) ?hi15 (by kernel_rfl) (by kernel_rfl) (by kernel_rfl) (fun _ _ _ h=>h) (Or.inl ⟨?hw15,?hy15⟩) hHeld0 ?rest15
     case hi15=>(simp only[gA,gB,gC];rfl)
     case hw15=>rfl
     case hy15=>(intro w hSw;(try dsimp only at hSw);go_simp;try (with_reducible rfl))
     (try simp only[Act.put,sA,sB,sC])
     refine wpAnyH_ready (rs:=[4,7]) (by kernel_rfl) (by simp) ?_
     refine' AllReadyH.cons (o:=_) ?ho17 (fun K hK=>?step17) ?more17
     case ho17=>(simp only[gA,gB,gC];rfl)
     case step17=>
      go_simp
      refine hK.out _ _ ?_ (fun hHeld1=>?_)
      ·(try dsimp only);(first|exact HF8.out _ (kk.mono (by simp))|exact HF8.out _ ((kk.mono (by simp)).set (.inl (by simp)) _))
      clear hK K hHeld0
      (try simp only[Act.put,sA,sB,sC])
      refine wpAnyH_ready (rs:=[7]) (by kernel_rfl) (by simp) ?_
      refine' AllReadyH.cons (o:=_) ?ho19 (fun K hK=>?step19) ?more19
      case ho19=>(simp only[gA,gB,gC];rfl)
      case step19=>
       go_simp
       (go_at_call 151;refine(HSZ.out _).mono ?_;rintro e w7 ⟨rfl,hk9⟩;have kk:=kk.trans hk9;have hb9:=kk.at HBA.out (by simp);have x8:=hb9.cell 8 rfl;have f8:=hb9.free 8;clear hb9 hk9)
       (try go_wp2_with fail)
       refine hK.out _ _ ?_ (fun hHeld2=>?_)
       ·(try dsimp only);(first|exact HF8.out _ (kk.mono (by simp))|exact HF8.out _ ((kk.mono (by simp)).set (.inl (by simp)) _))
       clear hK K hHeld1
       (try simp only[Act.put,sA,sB,sC])
       refine' wpAnyH_take (i:=8) (oi:=_) (v:=_) ?hi20 (by kernel_rfl) (by kernel_rfl) (by kernel_rfl) (fun _ _ _ h=>h) (Or.inl ⟨?hw20,?hy20⟩) hHeld2 ?rest20
       case hi20=>(simp only[gA,gB,gC];rfl)
       case hw20=>rfl
       case hy20=>(intro w hSw;(try dsimp only at hSw);go_simp;try (with_reducible rfl))
       (try simp only[Act.put,sA,sB,sC])
       refine' wpAnyH_take (i:=9) (oi:=_) (v:=_) ?hi21 (by kernel_rfl) (by kernel_rfl) (by kernel_rfl) (fun _ _ _ h=>h) (Or.inl ⟨?hw21,?hy21⟩) hHeld2 ?rest21
       case hi21=>(simp only[gA,gB,gC];rfl)
       case hw21=>rfl
       case hy21=>(intro w hSw;(try dsimp only at hSw);go_simp;try (with_reducible rfl))
       (try simp only[Act.put,sA,sB,sC])
       refine' wpAnyH_take (i:=10) (oi:=_) (v:=_) ?hi22 (by kernel_rfl) (by kernel_rfl) (by kernel_rfl) (fun _ _ _ h=>h) (Or.inl ⟨?hw22,?hy22⟩) hHeld2 ?rest22
       case hi22=>(simp only[gA,gB,gC];rfl)
       case hw22=>rfl
       case hy22=>(intro w hSw;(try dsimp only at hSw);go_simp;try (with_reducible rfl))
       (try simp only[Act.put,sA,sB,sC])
       refine' wpAnyH_take (i:=11) (oi:=_) (v:=_) ?hi23 (by kernel_rfl) (by kernel_rfl) (by kernel_rfl) (fun _ _ _ h=>h) (Or.inl ⟨?hw23,?hy23⟩) hHeld2 ?rest23
       case hi23=>(simp only[gA,gB,gC];rfl)
       case hw23=>rfl
       case hy23=>(intro w hSw;(try dsimp only at hSw);go_simp;try (with_reducible rfl))
       (try simp only[Act.put,sA,sB,sC])
       refine wpAnyH_ready (rs:=[12]) (by kernel_rfl) (by simp) ?_
       refine' AllReadyH.cons (o:=_) ?ho25 (fun K hK=>?step25) ?more25
       case ho25=>(simp only[gA,gB,gC];rfl)
       case step25=>
        go_simp
        refine hK.out _ _ ?_ (fun hHeld3=>?_)
        ·(try dsimp only);(first|exact HF8.out _ (kk.mono (by simp))|exact HF8.out _ ((kk.mono (by simp)).set (.inl (by simp)) _))
        clear hK K hHeld2
        (try simp only[Act.put,sA,sB,sC])
        refine wpAnyH_done (by kernel_rfl) ?_ _
        refine NoPanic.normal ?_
        go_wp2_with fail
        go_meet
        exact⟨(kk.at HBA.out (by simp)).set 8 (.int .i64 (U2:Nat)),(kk.mono (by simp)).set (.inl (by simp)) _⟩
       exact AllReadyH.nil
      exact AllReadyH.nil
     refine' AllReadyH.cons (o:=_) ?ho26 (fun K hK=>?step26) ?more26
     case ho26=>(simp only[gA,gB,gC];rfl)
     case step26=>
      go_simp
      (go_at_call 151;refine(HSZ.out _).mono ?_;rintro e w7 ⟨rfl,hk9⟩;have kk:=kk.trans hk9;have hb9:=kk.at HBA.out (by simp);have x8:=hb9.cell 8 rfl;have f8:=hb9.free 8;clear hb9 hk9)
      (try go_wp2_with fail)
      refine hK.out _ _ ?_ (fun hHeld1=>?_)
      ·(try dsimp only);(first|exact HF8.out _ (kk.mono (by simp))|exact HF8.out _ ((kk.mono (by simp)).set (.inl (by simp)) _))
      clear hK K hHeld0
      (try simp only[Act.put,sA,sB,sC])
      refine wpAnyH_ready (rs:=[4]) (by kernel_rfl) (by simp) ?_
      refine' AllReadyH.cons (o:=_) ?ho28 (fun K hK=>?step28) ?more28
      case ho28=>(simp only[gA,gB,gC];rfl)
      case step28=>
       go_simp
       refine hK.out _ _ ?_ (fun hHeld2=>?_)
       ·(try dsimp only);(first|exact HF8.out _ (kk.mono (by simp))|exact HF8.out _ ((kk.mono (by simp)).set (.inl (by simp)) _))
       clear hK K hHeld1
       (try simp only[Act.put,sA,sB,sC])
       refine' wpAnyH_take (i:=8) (oi:=_) (v:=_) ?hi29 (by kernel_rfl) (by kernel_rfl) (by kernel_rfl) (fun _ _ _ h=>h) (Or.inl ⟨?hw29,?hy29⟩) hHeld2 ?rest29
       case hi29=>(simp only[gA,gB,gC];rfl)
       case hw29=>rfl
       case hy29=>(intro w hSw;(try dsimp only at hSw);go_simp;try (with_reducible rfl))
       (try simp only[Act.put,sA,sB,sC])
       refine' wpAnyH_take (i:=9) (oi:=_) (v:=_) ?hi30 (by kernel_rfl) (by kernel_rfl) (by kernel_rfl) (fun _ _ _ h=>h) (Or.inl ⟨?hw30,?hy30⟩) hHeld2 ?rest30
       case hi30=>(simp only[gA,gB,gC];rfl)
       case hw30=>rfl
       case hy30=>(intro w hSw;(try dsimp only at hSw);go_simp;try (with_reducible rfl))
       (try simp only[Act.put,sA,sB,sC])
       refine' wpAnyH_take (i:=10) (oi:=_) (v:=_) ?hi31 (by kernel_rfl) (by kernel_rfl) (by kernel_rfl) (fun _ _ _ h=>h) (Or.inl ⟨?hw31,?hy31⟩) hHeld2 ?rest31
       case hi31=>(simp only[gA,gB,gC];rfl)
       case hw31=>rfl
       case hy31=>(intro w hSw;(try dsimp only at hSw);go_simp;try (with_reducible rfl))
       (try simp only[Act.put,sA,sB,sC])
       refine' wpAnyH_take (i:=11) (oi:=_) (v:=_) ?hi32 (by kernel_rfl) (by kernel_rfl) (by kernel_rfl) (fun _ _ _ h=>h) (Or.inl ⟨?hw32,?hy32⟩) hHeld2 ?rest32
       case hi32=>(simp only[gA,gB,gC];rfl)
       case hw32=>rfl
       case hy32=>(intro w hSw;(try dsimp only at hSw);go_simp;try (with_reducible rfl))
       (try simp only[Act.put,sA,sB,sC])
       refine wpAnyH_ready (rs:=[12]) (by kernel_rfl) (by simp) ?_
       refine' AllReadyH.cons (o:=_) ?ho34 (fun K hK=>?step34) ?more34
       case ho34=>(simp only[gA,gB,gC];rfl)
       case step34=>
        go_simp
        refine hK.out _ _ ?_ (fun hHeld3=>?_)
        ·(try dsimp only);(first|exact HF8.out _ (kk.mono (by simp))|exact HF8.out _ ((kk.mono (by simp)).set (.inl (by simp)) _))
        clear hK K hHeld2
        (try simp only[Act.put,sA,sB,sC])
        refine wpAnyH_done (by kernel_rfl) ?_ _
        refine NoPanic.normal ?_
        go_wp2_with fail
        go_meet
        exact⟨(kk.at HBA.out (by simp)).set 8 (.int .i64 (U2:Nat)),(kk.mono (by simp)).set (.inl (by simp)) _⟩
       exact AllReadyH.nil
      exact AllReadyH.nil
     exact AllReadyH.nil
    case rest=>
     obtain⟨wB,hwB⟩:∃wB,wB=wc:=⟨_,rfl⟩
     subst hwB
     have HCB:=hid hcut
     clear hcut hU2 hji t1
     go_upto_region 9 with fail
     go_cut []from 64 to 76 (fun wx=>∃(y9:Option Addr) (cap9:Nat),At wx x (colO P U2 yr cr yl (P.ws.length-i) cl mb y9 (out.length-n+1) cap9 dn)∧QueB wx B y9 cap9 (quL P out n++ [quO P X])∧xe (x::blkL yq) wB wx∧(blkL y9=blkL yq∨∀g∈blkL y9,wB.heap.size≤g))
     case first=>
      obtain⟨ql,hql⟩:∃ql,ql=out.length-n:=⟨_,rfl⟩
      have hBB:=HCB.out.1
      rw[<-hql]at hBB
      have hxq:x∉blkL yq:=HNE.out.2.2.2.1
      have hxB:x<B:=HC.out.xB
      have HQLN:Hid (ql=(quL P out n).length):=by show _=_;rw[xdI,hql]
      have hq1:ql≤1000000:=by
       have h1:=HPX.out.1.le
       have h2:=P.len
       have h3:=HFF.out
       have h4:=HSPC.out
       omega
      have HOB9:=hid (HCB.out.2.at (HCA.out.2.at HO5.out (by have:=HNE.out.2.1;simpa using this)) (by have:=HQ.out.2;simp;omega))
      have HQB:Hid (∀w',xe [] wB w'->QueB w' B yq cq (quL P out n)):=fun w' hk=>by
       have h1:=fun b hb=>HA.out b (xk.2 (.inr (.inr (.inr (.inr hb)))))
       refine((((HC.out.qu.keep (HK3.out.mono (S':=[]) (by simp)) (by simp)).keep HCX.out.2.2.2 fun b hb h=>h1 b hb (by simp at h⊢;omega)).keep HCA.out.2 fun b hb h=>?_).keep HCB.out.2 fun b hb h=>?_).keep hk (by simp)
       ·obtain rfl:=List.mem_singleton.1 h;exact HNE.out.2.2.2.2.1 hb
       ·obtain rfl:=List.mem_singleton.1 h;exact hxq hb
      have hBW:B≤wB.heap.size:=Nat.le_trans HNE.out.2.2.2.2.2.2 (Nat.le_trans (Nat.le_trans HK3.out.size HCX.out.2.2.2.size) (Nat.le_trans HCA.out.2.size HCB.out.2.size))
      have kk:xe [] wB wB.drew:=(xe.refl _ _).drew
      have k1:=kk.alloc (.cells #[.int .i64 (nn:Nat),.int .i64 (rr:Nat),.int .i64 (TO:Nat)] 151)
      have kd0:xe (x::blkL yq) wB wB.drew:=kk.mono (by simp)
      have kd1:xe (x::blkL yq) wB (wB.drew.alloc (.cells #[.int .i64 (nn:Nat),.int .i64 (rr:Nat),.int .i64 (TO:Nat)] 151)):=k1.mono (by simp)
      have HBB0:=hid (kk.at hBB (by simp))
      have HBB1:=hid (k1.at hBB (by simp))
      have x12:=HBB0.out.cell 12 rfl
      have y12:=(hBB.alloc (.cells #[.int .i64 (nn:Nat),.int .i64 (rr:Nat),.int .i64 (TO:Nat)] 151)).cell 12 rfl
      have HF9:Hid (∀w',xe (x::blkL yq) wB w'->(w'.cell? ⟨ob,0,none⟩=some (.int .i64 (nn:Nat))/\w'.cell? ⟨ob,1,none⟩=some (.int .i64 (rr:Nat)))):=fun w' hk=>by
       have g2:=hk.at HOB9.out (by have h1:=HQ.out.2;have h2:=HNE.out.2.2.2.2.2.1;simp;exact⟨fun h=>h1 h.symm,h2⟩)
       exact⟨g2.cell 0 rfl,g2.cell 1 rfl⟩
      have hcr:=At.new wB.drew (.cells #[.int .i64 (nn:Nat),.int .i64 (rr:Nat),.int .i64 (TO:Nat)] 151)
      have HC0:Hid (World.cell? (wB.drew.alloc (.cells #[.int .i64 (nn:Nat),.int .i64 (rr:Nat),.int .i64 (TO:Nat)] 151)) ⟨wB.heap.size,0,none⟩=some (.int .i64 ((quO P X).1:Nat))):=by
       have h:=hcr.cell 0 rfl
       show _=some (Value.int .i64 ((hdN (P.S.now X).toNat:Nat):Int))
       rw[<-HNR.out.1];exact h
      have HC1:Hid (World.cell? (wB.drew.alloc (.cells #[.int .i64 (nn:Nat),.int .i64 (rr:Nat),.int .i64 (TO:Nat)] 151)) ⟨wB.heap.size,1,none⟩=some (.int .i64 ((quO P X).2.1:Nat))):=by
       have h:=hcr.cell 1 rfl
       show _=some (Value.int .i64 ((hdR (P.S.now X).toNat:Nat):Int))
       rw[<-HNR.out.2];exact h
      have HC2:Hid (World.cell? (wB.drew.alloc (.cells #[.int .i64 (nn:Nat),.int .i64 (rr:Nat),.int .i64 (TO:Nat)] 151)) ⟨wB.heap.size,2,none⟩=some (.int .i64 ((quO P X).2.2:Nat))):=by
       have h:=hcr.cell 2 rfl
       show _=some (Value.int .i64 ((wtC P.S P.c P.k P.LS X:Nat):Int))
       rw[HWT.out];exact h
      have HBW:=hid (Nat.le_trans hBW k1.size)
      have HQ1:=hid (HQB.out _ k1)
      have HXQ:=hid (And.intro hxq hxB)
      have HQL:=hid hql
      have HK1D:=hid (And.intro k1 hBW)
      clear hql hBB hBW k1 kk hcr hxq hxB
      refine wp_region_noPanic ?_
      refine wp_region_held_drew (S:=fun w'=>w'.cell? ⟨ob,0,none⟩=some (.int .i64 (nn:Nat))/\w'.cell? ⟨ob,1,none⟩=some (.int .i64 (rr:Nat))) (by kernel_rfl) ?_ (fun hHeld0=>?_)
      ·(try dsimp only);(first|exact HF9.out _ kd0|exact HF9.out _ kd1|exact HF9.out _ kd9|exact HF9.out _ (kd9.set (.inl (by simp)) _))
      refine' wpAnyH_take (i:=0) (oi:=_) (v:=_) ?hi35 (by kernel_rfl) (by kernel_rfl) (by kernel_rfl) (fun _ _ _ h=>h) (Or.inl ⟨?hw35,?hy35⟩) hHeld0 ?rest35
      case hi35=>(simp only[gA,gC];rfl)
      case hw35=>rfl
      case hy35=>(intro w hSw;(try dsimp only at hSw);go_simp;try (with_reducible rfl))
      (try simp only[Act.put,sA,sB,sC])
      refine' wpAnyH_take (i:=1) (oi:=_) (v:=_) ?hi36 (by kernel_rfl) (by kernel_rfl) (by kernel_rfl) (fun _ _ _ h=>h) (Or.inl ⟨?hw36,?hy36⟩) hHeld0 ?rest36
      case hi36=>(simp only[gA,gB,gC];rfl)
      case hw36=>rfl
      case hy36=>(intro w hSw;(try dsimp only at hSw);go_simp;try (with_reducible rfl))
      (try simp only[Act.put,sA,sB,sC])
      refine' wpAnyH_take (i:=2) (oi:=_) (v:=_) ?hi37 (by kernel_rfl) (by kernel_rfl) (by kernel_rfl) (fun _ _ _ h=>h) (Or.inl ⟨?hw37,?hy37⟩) hHeld0 ?rest37
      case hi37=>(simp only[gA,gB,gC];rfl)
      case hw37=>rfl
      case hy37=>(intro w hSw;(try dsimp only at hSw);go_simp;try (with_reducible rfl))
      (try simp only[Act.put,sA,sB,sC])
      refine' wpAnyH_take (i:=3) (oi:=_) (v:=_) ?hi38 (by kernel_rfl) (by kernel_rfl) (by kernel_rfl) (fun _ _ _ h=>h) (Or.inl ⟨?hw38,?hy38⟩) hHeld0 ?rest38
      case hi38=>(simp only[gA,gB,gC];rfl)
      case hw38=>rfl
      case hy38=>(intro w hSw;(try dsimp only at hSw);go_simp;try (with_reducible rfl))
      (try simp only[Act.put,sA,sB,sC])
      refine' wpAnyH_take (i:=5) (oi:=_) (v:=_) ?hi39 (by kernel_rfl) (by kernel_rfl) (by kernel_rfl) (fun _ _ _ h=>h) (Or.inl ⟨?hw39,?hy39⟩) hHeld0 ?rest39
      case hi39=>(simp only[gA,gB,gC];rfl)
      case hw39=>rfl
      case hy39=>(intro w hSw;(try dsimp only at hSw);go_simp;try (with_reducible rfl))
      (try simp only[Act.put,sA,sB,sC])
      refine' wpAnyH_take (i:=6) (oi:=_) (v:=_) ?hi40 (by kernel_rfl) (by kernel_rfl) (by kernel_rfl) (fun _ _ _ h=>h) (Or.inl ⟨?hw40,?hy40⟩) hHeld0 ?rest40
      case hi40=>(simp only[gA,gB,gC];rfl)
      case hw40=>rfl
      case hy40=>(intro w hSw;(try dsimp only at hSw);go_simp;try (with_reducible rfl))
      (try simp only[Act.put,sA,sB,sC])
      refine' wpAnyH_take (i:=7) (oi:=_) (v:=_) ?hi41 (by kernel_rfl) (by kernel_rfl) (by kernel_rfl) (fun _ _ _ h=>h) (Or.inl ⟨?hw41,?hy41⟩) hHeld0 ?rest41
      case hi41=>(simp only[gA,gB,gC];rfl)
      case hw41=>rfl
      case hy41=>(intro w hSw;(try dsimp only at hSw);go_simp;try (with_reducible rfl))
      (try simp only[Act.put,sA,sB,sC])
      refine' wpAnyH_take (i:=8) (oi:=_) (v:=_) ?hi42 (by kernel_rfl) (by kernel_rfl) (by kernel_rfl) (fun _ _ _ h=>h) (Or.inl ⟨?hw42,?hy42⟩) hHeld0 ?rest42
      case hi42=>(simp only[gA,gB,gC];rfl)
      case hw42=>rfl
      case hy42=>(intro w hSw;(try dsimp only at hSw);go_simp;try (with_reducible rfl))
      (try simp only[Act.put,sA,sB,sC])
      refine wpAnyH_ready (rs:=[4,9]) (by kernel_rfl) (by simp) ?_
      refine' AllReadyH.cons (o:=_) ?ho44 (fun K hK=>?step44) ?more44
      case ho44=>(simp only[gA,gB,gC];rfl)
      case step44=>
       go_simp
       refine hK.out _ _ ?_ (fun hHeld1=>?_)
       ·(try dsimp only);(first|exact HF9.out _ kd0|exact HF9.out _ kd1|exact HF9.out _ kd9|exact HF9.out _ (kd9.set (.inl (by simp)) _))
       clear hK K hHeld0
       (try simp only[Act.put,sA,sB,sC])
       refine wpAnyH_ready (rs:=[9]) (by kernel_rfl) (by simp) ?_
       refine' AllReadyH.cons (o:=_) ?ho46 (fun K hK=>?step46) ?more46
       case ho46=>(simp only[gA,gB,gC];rfl)
       case step46=>
        go_simp
        refine hK.out _ _ ?_ (fun hHeld2=>?_)
        ·(try dsimp only);(first|exact HF9.out _ kd0|exact HF9.out _ kd1|exact HF9.out _ kd9|exact HF9.out _ (kd9.set (.inl (by simp)) _))
        clear hK K hHeld1
        (try simp only[Act.put,sA,sB,sC])
        refine wpAnyH_ready (rs:=[10]) (by kernel_rfl) (by simp) ?_
        refine' AllReadyH.cons (o:=_) ?ho48 (fun K hK=>?step48) ?more48
        case ho48=>(simp only[gA,gB,gC];rfl)
        case step48=>
         (refine VA rfl _ _ rfl B yq cq ql _ HQLN.out rfl HQ1.out _ _ (quO P X) rfl HC0.out HC1.out HC2.out hq1 HBW.out ?_;intro y9 cap9 w9 hQ9 hk9 hg9;have hb9:=hk9.at HBB1.out HXQ.out.1;have x12b:=hb9.cell 12 rfl;have f12:=hb9.free 12;have kd9:xe (x::blkL yq) wB w9:=kd1.trans (hk9.mono (by intro b _ hb;exact List.mem_cons_of_mem _ hb));have HB9:=hid hb9;have HQ9:=hid hQ9;have HG9:=hid hg9;clear hb9 hQ9 hk9 hg9 x12 y12)
         refine hK.out _ _ ?_ (fun hHeld3=>?_)
         ·(try dsimp only);(first|exact HF9.out _ kd0|exact HF9.out _ kd1|exact HF9.out _ kd9|exact HF9.out _ (kd9.set (.inl (by simp)) _))
         clear hK K hHeld2
         (try simp only[Act.put,sA,sB,sC])
         refine' wpAnyH_take (i:=11) (oi:=_) (v:=_) ?hi49 (by kernel_rfl) (by kernel_rfl) (by kernel_rfl) (fun _ _ _ h=>h) (Or.inl ⟨?hw49,?hy49⟩) hHeld3 ?rest49
         case hi49=>(simp only[gA,gB,gC];rfl)
         case hw49=>rfl
         case hy49=>(intro w hSw;(try dsimp only at hSw);go_simp;try (with_reducible rfl))
         (try simp only[Act.put,sA,sB,sC])
         refine' wpAnyH_take (i:=12) (oi:=_) (v:=_) ?hi50 (by kernel_rfl) (by kernel_rfl) (by kernel_rfl) (fun _ _ _ h=>h) (Or.inl ⟨?hw50,?hy50⟩) hHeld3 ?rest50
         case hi50=>(simp only[gA,gB,gC];rfl)
         case hw50=>rfl
         case hy50=>(intro w hSw;(try dsimp only at hSw);go_simp;try (with_reducible rfl))
         (try simp only[Act.put,sA,sB,sC])
         refine wpAnyH_ready (rs:=[13]) (by kernel_rfl) (by simp) ?_
         refine' AllReadyH.cons (o:=_) ?ho52 (fun K hK=>?step52) ?more52
         case ho52=>(simp only[gA,gB,gC];rfl)
         case step52=>
          go_simp
          refine hK.out _ _ ?_ (fun hHeld4=>?_)
          ·(try dsimp only);(first|exact HF9.out _ kd0|exact HF9.out _ kd1|exact HF9.out _ kd9|exact HF9.out _ (kd9.set (.inl (by simp)) _))
          clear hK K hHeld3
          (try simp only[Act.put,sA,sB,sC])
          refine wpAnyH_done (by kernel_rfl) ?_ _
          refine NoPanic.normal ?_
          have HEN:=hid (qend (ql:=ql) HXQ.out.1 HXQ.out.2 HB9.out HQ9.out kd9 HG9.out HK1D.out.1 HK1D.out.2)
          clear kd9 x12b f12
          go_wp2_with fail
          go_meet
          rw[<-HQL.out]
          exact HEN.out
         exact AllReadyH.nil
        exact AllReadyH.nil
       exact AllReadyH.nil
      refine' AllReadyH.cons (o:=_) ?ho53 (fun K hK=>?step53) ?more53
      case ho53=>(simp only[gA,gB,gC];rfl)
      case step53=>
       go_simp
       refine hK.out _ _ ?_ (fun hHeld1=>?_)
       ·(try dsimp only);(first|exact HF9.out _ kd0|exact HF9.out _ kd1|exact HF9.out _ kd9|exact HF9.out _ (kd9.set (.inl (by simp)) _))
       clear hK K hHeld0
       (try simp only[Act.put,sA,sB,sC])
       refine wpAnyH_ready (rs:=[4]) (by kernel_rfl) (by simp) ?_
       refine' AllReadyH.cons (o:=_) ?ho55 (fun K hK=>?step55) ?more55
       case ho55=>(simp only[gA,gB,gC];rfl)
       case step55=>
        go_simp
        refine hK.out _ _ ?_ (fun hHeld2=>?_)
        ·(try dsimp only);(first|exact HF9.out _ kd0|exact HF9.out _ kd1|exact HF9.out _ kd9|exact HF9.out _ (kd9.set (.inl (by simp)) _))
        clear hK K hHeld1
        (try simp only[Act.put,sA,sB,sC])
        refine wpAnyH_ready (rs:=[10]) (by kernel_rfl) (by simp) ?_
        refine' AllReadyH.cons (o:=_) ?ho57 (fun K hK=>?step57) ?more57
        case ho57=>(simp only[gA,gB,gC];rfl)
        case step57=>
         (refine VA rfl _ _ rfl B yq cq ql _ HQLN.out rfl HQ1.out _ _ (quO P X) rfl HC0.out HC1.out HC2.out hq1 HBW.out ?_;intro y9 cap9 w9 hQ9 hk9 hg9;have hb9:=hk9.at HBB1.out HXQ.out.1;have x12b:=hb9.cell 12 rfl;have f12:=hb9.free 12;have kd9:xe (x::blkL yq) wB w9:=kd1.trans (hk9.mono (by intro b _ hb;exact List.mem_cons_of_mem _ hb));have HB9:=hid hb9;have HQ9:=hid hQ9;have HG9:=hid hg9;clear hb9 hQ9 hk9 hg9 x12 y12)
         refine hK.out _ _ ?_ (fun hHeld3=>?_)
         ·(try dsimp only);(first|exact HF9.out _ kd0|exact HF9.out _ kd1|exact HF9.out _ kd9|exact HF9.out _ (kd9.set (.inl (by simp)) _))
         clear hK K hHeld2
         (try simp only[Act.put,sA,sB,sC])
         refine' wpAnyH_take (i:=11) (oi:=_) (v:=_) ?hi58 (by kernel_rfl) (by kernel_rfl) (by kernel_rfl) (fun _ _ _ h=>h) (Or.inl ⟨?hw58,?hy58⟩) hHeld3 ?rest58
         case hi58=>(simp only[gA,gB,gC];rfl)
         case hw58=>rfl
         case hy58=>(intro w hSw;(try dsimp only at hSw);go_simp;try (with_reducible rfl))
         (try simp only[Act.put,sA,sB,sC])
         refine' wpAnyH_take (i:=12) (oi:=_) (v:=_) ?hi59 (by kernel_rfl) (by kernel_rfl) (by kernel_rfl) (fun _ _ _ h=>h) (Or.inl ⟨?hw59,?hy59⟩) hHeld3 ?rest59
         case hi59=>(simp only[gA,gB,gC];rfl)
         case hw59=>rfl
         case hy59=>(intro w hSw;(try dsimp only at hSw);go_simp;try (with_reducible rfl))
         (try simp only[Act.put,sA,sB,sC])
         refine wpAnyH_ready (rs:=[13]) (by kernel_rfl) (by simp) ?_
         refine' AllReadyH.cons (o:=_) ?ho61 (fun K hK=>?step61) ?more61
         case ho61=>(simp only[gA,gB,gC];rfl)
         case step61=>
          go_simp
          refine hK.out _ _ ?_ (fun hHeld4=>?_)
          ·(try dsimp only);(first|exact HF9.out _ kd0|exact HF9.out _ kd1|exact HF9.out _ kd9|exact HF9.out _ (kd9.set (.inl (by simp)) _))
          clear hK K hHeld3
          (try simp only[Act.put,sA,sB,sC])
          refine wpAnyH_done (by kernel_rfl) ?_ _
          refine NoPanic.normal ?_
          have HEN:=hid (qend (ql:=ql) HXQ.out.1 HXQ.out.2 HB9.out HQ9.out kd9 HG9.out HK1D.out.1 HK1D.out.2)
          clear kd9 x12b f12
          go_wp2_with fail
          go_meet
          rw[<-HQL.out]
          exact HEN.out
         exact AllReadyH.nil
        exact AllReadyH.nil
       exact AllReadyH.nil
      exact AllReadyH.nil
     case rest=>
      obtain⟨wD,hwD⟩:∃wD,wD=wc:=⟨_,rfl⟩
      subst hwD
      have HCD:=hid hcut
      clear hcut
      have HEN:Hid (CopL P l x mb B yr cr yl cl yq out i n dn I u S' X w (.returned (.int .i64 (TO:Nat))) wD):=by
       obtain⟨hM,kA⟩:=HCA.out
       obtain⟨_,kB⟩:=HCB.out
       obtain⟨y9,cap9,hb3,hq3,kD,hg3⟩:=HCD.out
       obtain⟨hP2,hu2,hW,hK⟩:=HCX.out
       have hC:=HC.out
       have hA:=HA.out
       have hne:=HNE.out
       have k8:xe (x::mb::blkL yq) wr wD:=
        ((kA.mono (by intro b _ hb;simp at hb;simp[hb])).trans (kB.mono (by intro b _ hb;simp at hb;simp[hb]))).trans (kD.mono (by intro b _ hb;simp only[List.mem_cons]at hb;rcases hb with rfl|hb;simp;simp[hb]))
       have k9:xe (x::mb::(blkL yq++ [P.p,P.a.s,P.a.k,P.a.m])) wr wD:=k8.mono (by intro b _ hb;simp only[List.mem_cons,List.mem_append]at hb⊢;rcases hb with h|h|h;exact .inl h;exact .inr (.inl h);exact .inr (.inr (.inl h)))
       have K2:xe (x::mb::(blkL yq++ [P.p,P.a.s,P.a.k,P.a.m])) w wD:=((HK3.out.mono (by simp)).trans (hK.mono (by intro b _ hb;simp only[List.mem_cons,List.not_mem_nil,or_false]at hb⊢;simp[hb]))).trans k9
       have hdev:∀b∈clT x mb yr yl yq,b∉[P.p,P.a.s,P.a.k,P.a.m]:=fun b hb h=>hA b hb (by simp at h⊢;omega)
       have hoff:∀b,b∈clT x mb yr yl yq->b≠x/\b≠mb->b<B->b∉x::mb::(blkL yq++ [P.p,P.a.s,P.a.k,P.a.m]):=fun b h0 h1 h2 h=>by
        simp only[List.mem_cons,List.mem_append]at h
        rcases h with h|h|h|h
        ·exact h1.1 h
        ·exact h1.2 h
        ·have:=(hC.qu.ge b h).1;omega
        ·exact hdev b h0 (by simpa using h)
       have hJ:=HJ.out
       have hU2:=HU2.out
       have hnr:=HNR.out
       refine⟨by rw[HWT.out],y9,cap9,u',S2,⟨?_,?_,yc hC.rd K2 fun b hb=>hoff b (xk.2 (.inr (.inr (.inl hb)))) (hC.rn b hb) (hC.rB b hb),yc hC.lf K2 fun b hb=>hoff b (xk.2 (.inr (.inr (.inr (.inl hb))))) (hC.ln b hb) (hC.lB b hb),hC.lc,?_,Nat.le_trans hC.lt K2.size,hC.xB,hC.mB,hC.rB,hC.lB,hC.xm,hC.rn,hC.ln⟩,?_,HZN.out,?_,?_,K2.mono ?_,?_⟩
       ·rw[zY,xC,<-HU.out,<-hnr.1,List.length_append]
        have e2:U+(nn+1+szF P.S [])=U2:=by rw[hU2];rfl
        have e3:out.length+ [X].length-n=out.length-n+1:=by have:=hJ.2.1;simp;omega
        rw[e2,e3]
        exact hb3
       ·exact(hM.keep kB (by simp;exact fun h=>hne.1 h.symm)).keep kD (by simp only[List.mem_cons,not_or];exact⟨fun h=>hne.1 h.symm,hne.2.2.2.2.1⟩)
       ·rw[xdJ P hJ.2.1]
        exact hq3
       ·have hno:∀b∈[P.p,P.a.d,P.a.s,P.a.k,P.a.m],b∉x::mb::blkL yq:=fun b hb h=>by
         refine hA b (xk.2 ?_) hb
         simp only[List.mem_cons]at h
         rcases h with h|h|h
         ·exact .inl h
         ·exact .inr (.inl h)
         ·exact .inr (.inr (.inr (.inr h)))
        exact hP2.keep k8 (hno _ (by simp)) (hno _ (by simp)) (hno _ (by simp)) (hno _ (by simp)) (hno _ (by simp))
       ·refine hJ.1.copy ?_ HOB.out hJ.2.1 hJ.2.2 fun q=>?_
        ·have h1:=HPX.out.2.1.nd
         exact fun h=>(List.nodup_append.1 h1).2.2 X h X (by simp) rfl
        ·have e4:plC P.S P.c P.k out out.length=TO:=by unfold plC;rw[List.take_length,<-HU.out,HTO.out]
         rw[hW q,e4,<-hnr.1]
         by_cases hq:TO≤q/\q<TO+(nn+1)
         ·rw[if_pos hq,if_pos (by omega)]
          have h1:=HAP.out
          have h2:=HPX.out.1.sz
          have h3:=HFF.out
          exact hJ.1.from (s:=P.us) (by omega) (by omega) (by omega)
         ·rw[if_neg hq,if_neg (by omega)]
       ·have:=HXT.out;omega
       ·intro b _ hb
        simp only[List.mem_cons,List.mem_append]at hb⊢
        simp only[xk]
        rcases hb with h|h|h|h
        ·exact .inl (.inl h)
        ·exact .inl (.inr (.inl h))
        ·exact .inl (.inr (.inr (.inr (.inr h))))
        ·exact .inr h
       ·rcases hg3 with h|h
        ·exact .inl h
        ·exact .inr fun g hg=>Nat.le_trans (Nat.le_trans (Nat.le_trans HK3.out.size hK.size) (Nat.le_trans kA.size kB.size)) (h g hg)
      go_wp2_with fail
      go_ret
      exact .inl HEN.out
open Go.RowKit Go.OpenShut
def BrL (P:CP) (l:Int) (x mb B:Nat) (yr:Option Addr) (cr:Nat) (yl:Option Addr) (cl:Nat) (yq:Option Addr) (out:List Nat) (i n:Nat) (dn:Bool) (I:Nat) (u:Int) (S0:DS) (v:Nat) (w:World) (e:Ending) (w':World):Prop:=
 e=.returned (.int .i64 (wO P (seeW P.S P.c P.k P.us out v) v:Nat))/\∃yq' cq' u' S',ClB P w' x mb B yr cr yl cl yq' cq' (seeW P.S P.c P.k P.us out v) i n dn/\Pw w' P.p P.a l u' S'/\Zon P S0 S'/\CpJ P.S S' P.c P.k P.us (seeW P.S P.c P.k P.us out v) n I/\u'≤u+65/\
  xe (clT x mb yr yl yq++ [P.p,P.a.s,P.a.k,P.a.m]) w w'/\(blkL yq'=blkL yq\/∀g∈blkL yq',w.heap.size≤g)
theorem J7 {P:CP} {l:Int} {x mb B:Nat} {yr:Option Addr} {cr:Nat} {yl:Option Addr} {cl:Nat} {yq:Option Addr} {cq:Nat} {out:List Nat} {i n:Nat} {dn:Bool} {I:Nat} {u:Int} {v:Nat} {w w':World} {S':DS} {z:Nat} (hC:ClB P w x mb B yr cr yl cl yq cq out i n dn) (hPw:Pw w P.p P.a l u S') (hJ:CpJ P.S S' P.c P.k P.us out n I)
  (hk:xe [] w w') (hs:seeW P.S P.c P.k P.us out v=out) (hz:z=wO P out v):BrL P l x mb B yr cr yl cl yq out i n dn I u S' v w (.returned (.int .i64 (z:Nat))) w':=by
 refine⟨by rw[hs,hz],yq,cq,u,S',?_,hPw.keep0 hk,Zon.refl _ _,?_,by omega,hk.mono (by simp),.inl rfl⟩
 ·rw[hs];exact hC.keep hk (by simp)
 ·rw[hs];exact hJ
theorem xeh {P:CP} {l:Int} {S0:DS} {x mb B:Nat} {yr:Option Addr} {cr:Nat} {yl:Option Addr} {cl:Nat} {yq:Option Addr} {out:List Nat} {i n:Nat} {dn:Bool} {I:Nat} {u:Int} {v:Nat} {w w' w'':World} {e:Ending} (h:CopL P l x mb B yr cr yl cl yq out i n dn I u S0 v w' e w'')
  (hk:xe [] w w') (hs:seeW P.S P.c P.k P.us out v=out++ [v]):BrL P l x mb B yr cr yl cl yq out i n dn I u S0 v w e w'':=by
 obtain⟨h1,yq',cq',u',S',h2,h3,h3z,h4,h5,h6,h7⟩:=h
 unfold BrL
 rw[hs]
 refine⟨by rw[h1];unfold wO;rw[if_pos (by simp)],yq',cq',u',S',h2,h3,h3z,h4,h5,(hk.mono (by simp)).trans h6,?_⟩
 rcases h7 with h|h
 ·exact .inl h
 ·exact .inr fun g hg=>Nat.le_trans hk.size (h g hg)
theorem xbo (P:CP) (hP:P.Ok) (w:World) (x mb B:Nat) (yr:Option Addr) (cr:Nat) (yl:Option Addr) (cl:Nat) (yq:Option Addr) (cq:Nat) (out:List Nat) (i n:Nat) (dn:Bool) (hC:ClB P w x mb B yr cr yl cl yq cq out i n dn) (hA:Apart P (clT x mb yr yl yq))
  (l u:Int) (S':DS) (hPw:Pw w P.p P.a l u S') (hu:u≤800000000000) (I:Nat) (hJ:CpJ P.S S' P.c P.k P.us out n I) (hn:n≤out.length) (hnI:n=out.length->I=0) (v:Nat) (hv:v<9223372036854775808) (hpre:P.Pre (seeW P.S P.c P.k P.us out v)):
  Calls Tryz.prog 162 #[ptr x,.int .i64 (v:Nat)] w (fun e w'=>BrL P l x mb B yr cr yl cl yq out i n dn I u S' v w e w'\/CutC P l (clT x mb yr yl yq) S' w e w'):=by
 have hP0:=hP
 obtain⟨hc,hcn,hk,hus,hrdy,-,-,-,-⟩:=hP
 have hsp:=hc.small.2.2
 have hsz2:szF P.S P.LS≤P.c.space:=hrdy.sz
 have hpo:=hpre.of_see
 have hap:=Jf (c:=P.c) (k:=P.k) (s:=P.us) (t:=szF P.S out) hk hus (Nat.le_trans hpo.sz hsz2)
 have hfrm:∀j,P.c.frm P.k≤j->j<P.c.frm P.k+P.us->S'.now j=P.S.now j:=fun j h1 h2=>hJ.from hap h1 h2
 have hobs:obW S' P.c P.k P.us v=obW P.S P.c P.k P.us v:=YI hfrm v
 have hx:∀j:Nat,P.c.frm P.k≤j->j<P.c.frm P.k+P.us->∃x:Nat,S'.now j=(x:Int)/\x<18446744073709551616:=fun j h1 h2=>by rw[hfrm j h1 h2];exact hrdy.wd j h1 h2
 have HOF:=hid (fun(w':World) (hk':xe [] w w')=>xeJ w' P.p P.a S' (hPw.keep0 hk').dev P.c hc hcn P.k hk P.us hus (.slice yr P.rs.length cr) (v:Nat) (by omega) hx)
 obtain⟨U,hU⟩:∃U,U=szF P.S out:=⟨_,rfl⟩
 have hbox:=hC.box
 rw[<-hU]at hbox
 have hxw:x<w.heap.size:=hbox.lt
 obtain⟨z,hz⟩:∃z,z=wO P out v:=⟨_,rfl⟩
 obtain⟨b,hb⟩:∃b,b=decide (v∈out):=⟨_,rfl⟩
 have hlk:=Vb hC.mp v z b hz hb
 have HZ:=hid hz
 have HC:=hid hC
 have HPW:=hid hPw
 have HJ:=hid hJ
 have HCP:=hid (fun(w':World) (hk':xe [] w w') (nn rr:Nat) (hX:P.LS[out.length]? =some v) (hnn:nn=hdN (P.S.now v).toNat) (hrr:rr=hdR (P.S.now v).toNat)=>
  xcO P hP0 w' x mb B yr cr yl cl yq cq out i n dn (hC.keep hk' (by simp)) hA l u S' (hPw.keep0 hk') hu I hJ hn hnI hpo v nn rr hX hnn hrr)
 have x0:=hbox.cell 0 rfl
 have x11:=hbox.cell 11 rfl
 have HOFN:Hid ((obW P.S P.c P.k P.us v).isSome=false->∀w',xe [] w w'->Calls Tryz.prog 174 #[ptr P.a.d,cfgV P.c,bkV (P.k:Nat) (P.us:Nat) (.slice yr P.rs.length cr),.int .i64 (v:Nat)] w' fun e w''=>(∃code:Int,code≠0/\e=.returned (.tuple #[obV 0 0 0,.int .i64 code]))/\xe [] w' w''):=fun ho w' hk'=>by
  refine(HOF.out w' hk').mono ?_
  rintro e w'' ⟨⟨X,n,r,h1,h2,_⟩|⟨_,h2⟩,h3⟩
  ·obtain rfl:v=X:=by omega
   rw[hobs]at h2
   rw[h2]at ho
   cases ho
  ·exact⟨h2,h3⟩
 have HOFY:Hid (∀nn rr:Nat,obW P.S P.c P.k P.us v=some (nn,rr)->∀w',xe [] w w'->Calls Tryz.prog 174 #[ptr P.a.d,cfgV P.c,bkV (P.k:Nat) (P.us:Nat) (.slice yr P.rs.length cr),.int .i64 (v:Nat)] w' fun e w''=>e=.returned (.tuple #[obV (nn:Nat) (rr:Nat) (v:Nat),.int .i64 0])/\xe [] w' w''):=fun nn rr ho w' hk'=>by
  refine(HOF.out w' hk').mono ?_
  rintro e w'' ⟨⟨X,n,r,h1,h2,h4⟩|⟨h2,_⟩,h3⟩
  ·obtain rfl:v=X:=by omega
   rw[hobs,ho]at h2
   injection h2 with h2
   injection h2 with h5 h6
   subst h5
   subst h6
   exact⟨h4,h3⟩
  ·have h4:=h2 v rfl
   rw[hobs,ho]at h4
   cases h4
 have HB:=hid hbox
 have HOBS:=hid hobs
 have HPRE:=hid hpre
 have HU:=hid hU
 have HSZ2:=hid hsz2
 have hUi:(U:Int)≤4096:=by have:=hpo.sz;omega
 have hspi:(P.c.space:Int)≤4096:=by omega
 have HXW:=hid hxw
 have hvb:(v:Int)<9223372036854775808:=by omega
 have HF:Hid (∀w',xe [] w w'->(w'.cell? ⟨x,0,none⟩=some (ptr P.a.d)/\w'.cell? ⟨x,1,none⟩=some (.int .i64 P.c.log)/\w'.cell? ⟨x,2,none⟩=some (.int .i64 P.c.roots)/\w'.cell? ⟨x,3,none⟩=some (.int .i64 P.c.space)/\w'.cell? ⟨x,4,none⟩=some (.int .i64 (P.k:Nat))/\w'.cell? ⟨x,5,none⟩=some (.int .i64 (P.us:Nat))/\w'.cell? ⟨x,6,none⟩=some (.slice yr P.rs.length cr))):=fun w' hk=>by
  have e1:=hk.at hbox (by simp)
  exact⟨e1.cell 0 rfl,e1.cell 1 rfl,e1.cell 2 rfl,e1.cell 3 rfl,e1.cell 4 rfl,e1.cell 5 rfl,e1.cell 6 rfl⟩
 clear hP0 hc hcn hk hus hrdy hsp hsz2 hpo hap hfrm hobs hx hC hA hPw hu hJ hn hnI hv hpre hU hbox hxw hz
 go_enter Tryz.func162,Tryz.ntmps162
 by_cases hin:v∈out
 case pos=>
  obtain rfl:b=true:=by rw[hb];exact decide_eq_true hin
  have HSE:Hid (seeW P.S P.c P.k P.us out v=out):=Xf hin
  clear hb hin
  go_wp2_with fail
  go_ret
  exact .inl <| J7 HC.out HPW.out HJ.out (xe.refl _ _) HSE.out HZ.out
 obtain rfl:b=false:=by rw[hb];exact decide_eq_false hin
 have HIN:=hid hin
 clear hb hin
 go_upto_region 4 with fail
 clear hlk x0 x11 hvb
 have kk:xe [] w w.drew:=(xe.refl _ _).drew
 cases ho:(obW P.S P.c P.k P.us v).isSome with
 |false=>
  have HSE:Hid (seeW P.S P.c P.k P.us out v=out):=yZ ho
  have HO:=hid ho
  clear ho
  have HOFN2:=hid (HOFN.out HO.out)
  go_cut [7,8]from 20 to 36 (fun s7 s8 wx=>∃(ob:Nat) (code:Int),s7=ptr ob∧s8=.int .i64 code∧code≠0∧At wx ob (obO 0 0 0)∧xe [] w wx)
  case first=>
   refine wp_region_noPanic ?_
   refine wp_region_held_drew (S:=fun w'=>w'.cell? ⟨x,0,none⟩=some (ptr P.a.d)/\w'.cell? ⟨x,1,none⟩=some (.int .i64 P.c.log)/\w'.cell? ⟨x,2,none⟩=some (.int .i64 P.c.roots)/\w'.cell? ⟨x,3,none⟩=some (.int .i64 P.c.space)/\w'.cell? ⟨x,4,none⟩=some (.int .i64 (P.k:Nat))/\w'.cell? ⟨x,5,none⟩=some (.int .i64 (P.us:Nat))/\w'.cell? ⟨x,6,none⟩=some (.slice yr P.rs.length cr)) (by kernel_rfl) ?_ (fun hHeld0=>?_)
   ·(try dsimp only);(first|exact HF.out _ kk|exact HF.out _ (kk.alloc _)|exact HF.out _ (((kk.set (.inr (Nat.le_refl _)) _).set (.inr (Nat.le_refl _)) _).set (.inr (Nat.le_refl _)) _))
   refine' wpAnyH_take (i:=0) (oi:=_) (v:=_) ?hi1 (by kernel_rfl) (by kernel_rfl) (by kernel_rfl) (fun _ _ _ h=>h) (Or.inl ⟨?hw1,?hy1⟩) hHeld0 ?rest1
   case hi1=>(simp only[gA,gC];rfl)
   case hw1=>rfl
   case hy1=>(intro w hSw;(try dsimp only at hSw);go_simp;try (with_reducible rfl))
   (try simp only[Act.put,sA,sB,sC])
   refine' wpAnyH_take (i:=1) (oi:=_) (v:=_) ?hi2 (by kernel_rfl) (by kernel_rfl) (by kernel_rfl) (fun _ _ _ h=>h) (Or.inl ⟨?hw2,?hy2⟩) hHeld0 ?rest2
   case hi2=>(simp only[gA,gB,gC];rfl)
   case hw2=>rfl
   case hy2=>(intro w hSw;(try dsimp only at hSw);go_simp;try (with_reducible rfl))
   (try simp only[Act.put,sA,sB,sC])
   refine' wpAnyH_take (i:=2) (oi:=_) (v:=_) ?hi3 (by kernel_rfl) (by kernel_rfl) (by kernel_rfl) (fun _ _ _ h=>h) (Or.inl ⟨?hw3,?hy3⟩) hHeld0 ?rest3
   case hi3=>(simp only[gA,gB,gC];rfl)
   case hw3=>rfl
   case hy3=>(intro w hSw;(try dsimp only at hSw);go_simp;try (with_reducible rfl))
   (try simp only[Act.put,sA,sB,sC])
   refine' wpAnyH_take (i:=3) (oi:=_) (v:=_) ?hi4 (by kernel_rfl) (by kernel_rfl) (by kernel_rfl) (fun _ _ _ h=>h) (Or.inl ⟨?hw4,?hy4⟩) hHeld0 ?rest4
   case hi4=>(simp only[gA,gB,gC];rfl)
   case hw4=>rfl
   case hy4=>(intro w hSw;(try dsimp only at hSw);go_simp;try (with_reducible rfl))
   (try simp only[Act.put,sA,sB,sC])
   refine' wpAnyH_take (i:=4) (oi:=_) (v:=_) ?hi5 (by kernel_rfl) (by kernel_rfl) (by kernel_rfl) (fun _ _ _ h=>h) (Or.inl ⟨?hw5,?hy5⟩) hHeld0 ?rest5
   case hi5=>(simp only[gA,gB,gC];rfl)
   case hw5=>rfl
   case hy5=>(intro w hSw;(try dsimp only at hSw);go_simp;try (with_reducible rfl))
   (try simp only[Act.put,sA,sB,sC])
   refine' wpAnyH_take (i:=5) (oi:=_) (v:=_) ?hi6 (by kernel_rfl) (by kernel_rfl) (by kernel_rfl) (fun _ _ _ h=>h) (Or.inl ⟨?hw6,?hy6⟩) hHeld0 ?rest6
   case hi6=>(simp only[gA,gB,gC];rfl)
   case hw6=>rfl
   case hy6=>(intro w hSw;(try dsimp only at hSw);go_simp;try (with_reducible rfl))
   (try simp only[Act.put,sA,sB,sC])
   refine' wpAnyH_take (i:=6) (oi:=_) (v:=_) ?hi7 (by kernel_rfl) (by kernel_rfl) (by kernel_rfl) (fun _ _ _ h=>h) (Or.inl ⟨?hw7,?hy7⟩) hHeld0 ?rest7
   case hi7=>(simp only[gA,gB,gC];rfl)
   case hw7=>rfl
   case hy7=>(intro w hSw;(try dsimp only at hSw);go_simp;try (with_reducible rfl))
   (try simp only[Act.put,sA,sB,sC])
   refine' wpAnyH_take (i:=7) (oi:=_) (v:=_) ?hi8 (by kernel_rfl) (by kernel_rfl) (by kernel_rfl) (fun _ _ _ h=>h) (Or.inl ⟨?hw8,?hy8⟩) hHeld0 ?rest8
   case hi8=>(simp only[gA,gB,gC];rfl)
   case hw8=>rfl
   case hy8=>(intro w hSw;(try dsimp only at hSw);go_simp;try (with_reducible rfl))
   (try simp only[Act.put,sA,sB,sC])
   refine' wpAnyH_take (i:=8) (oi:=_) (v:=_) ?hi9 (by kernel_rfl) (by kernel_rfl) (by kernel_rfl) (fun _ _ _ h=>h) (Or.inl ⟨?hw9,?hy9⟩) hHeld0 ?rest9
   case hi9=>(simp only[gA,gB,gC];rfl)
   case hw9=>rfl
   case hy9=>(intro w hSw;(try dsimp only at hSw);go_simp;try (with_reducible rfl))
   (try simp only[Act.put,sA,sB,sC])
   refine' wpAnyH_take (i:=9) (oi:=_) (v:=_) ?hi10 (by kernel_rfl) (by kernel_rfl) (by kernel_rfl) (fun _ _ _ h=>h) (Or.inl ⟨?hw10,?hy10⟩) hHeld0 ?rest10
   case hi10=>(simp only[gA,gB,gC];rfl)
   case hw10=>rfl
   case hy10=>(intro w hSw;(try dsimp only at hSw);go_simp;try (with_reducible rfl))
   (try simp only[Act.put,sA,sB,sC])
   refine' wpAnyH_take (i:=10) (oi:=_) (v:=_) ?hi11 (by kernel_rfl) (by kernel_rfl) (by kernel_rfl) (fun _ _ _ h=>h) (Or.inl ⟨?hw11,?hy11⟩) hHeld0 ?rest11
   case hi11=>(simp only[gA,gB,gC];rfl)
   case hw11=>rfl
   case hy11=>(intro w hSw;(try dsimp only at hSw);go_simp;try (with_reducible rfl))
   (try simp only[Act.put,sA,sB,sC])
   refine' wpAnyH_take (i:=11) (oi:=_) (v:=_) ?hi12 (by kernel_rfl) (by kernel_rfl) (by kernel_rfl) (fun _ _ _ h=>h) (Or.inl ⟨?hw12,?hy12⟩) hHeld0 ?rest12
   case hi12=>(simp only[gA,gB,gC];rfl)
   case hw12=>rfl
   case hy12=>(intro w hSw;(try dsimp only at hSw);go_simp;try (with_reducible rfl))
   (try simp only[Act.put,sA,sB,sC])
   refine' wpAnyH_take (i:=12) (oi:=_) (v:=_) ?hi13 (by kernel_rfl) (by kernel_rfl) (by kernel_rfl) (fun _ _ _ h=>h) (Or.inl ⟨?hw13,?hy13⟩) hHeld0 ?rest13
   case hi13=>(simp only[gA,gB,gC];rfl)
   case hw13=>rfl
   case hy13=>(intro w hSw;(try dsimp only at hSw);go_simp;try (with_reducible rfl))
   (try simp only[Act.put,sA,sB,sC])
   refine wpAnyH_ready (rs:=[13,17]) (by kernel_rfl) (by simp) ?_
   refine' AllReadyH.cons (o:=_) ?ho15 (fun K hK=>?step15) ?more15
   case ho15=>(simp only[gA,gB,gC];rfl)
   case step15=>
    go_simp
    (go_at_call 174;first|(refine(HOFN2.out _ kk).mono ?_;rintro e w2 ⟨⟨code,hcode,rfl⟩,hk9⟩;have kk:=kk.trans hk9;clear hk9)|(refine(HOFN2.out _ (kk.alloc _)).mono ?_;rintro e w2 ⟨⟨code,hcode,rfl⟩,hk9⟩;have hO0:=hk9.at (At.new w (obO 0 0 0)).drew (by simp);have o0:=hO0.cell 0 rfl;have o1:=hO0.cell 1 rfl;have o2:=hO0.cell 2 rfl;have g0:=hO0.free 0;have g1:=hO0.free 1;have g2:=hO0.free 2;have kk:=(kk.alloc _).trans hk9;clear hk9))
    (try go_wp2_with fail)
    refine hK.out _ _ ?_ (fun hHeld1=>?_)
    ·(try dsimp only);(first|exact HF.out _ kk|exact HF.out _ (kk.alloc _)|exact HF.out _ (((kk.set (.inr (Nat.le_refl _)) _).set (.inr (Nat.le_refl _)) _).set (.inr (Nat.le_refl _)) _))
    clear hK K hHeld0
    (try simp only[Act.put,sA,sB,sC])
    refine' wpAnyH_take (i:=14) (oi:=_) (v:=_) ?hi16 (by kernel_rfl) (by kernel_rfl) (by kernel_rfl) (fun _ _ _ h=>h) (Or.inl ⟨?hw16,?hy16⟩) hHeld1 ?rest16
    case hi16=>(simp only[gA,gB,gC];rfl)
    case hw16=>rfl
    case hy16=>(intro w hSw;(try dsimp only at hSw);go_simp;try (with_reducible rfl))
    (try simp only[Act.put,sA,sB,sC])
    refine' wpAnyH_take (i:=15) (oi:=_) (v:=_) ?hi17 (by kernel_rfl) (by kernel_rfl) (by kernel_rfl) (fun _ _ _ h=>h) (Or.inl ⟨?hw17,?hy17⟩) hHeld1 ?rest17
    case hi17=>(simp only[gA,gB,gC];rfl)
    case hw17=>rfl
    case hy17=>(intro w hSw;(try dsimp only at hSw);go_simp;try (with_reducible rfl))
    (try simp only[Act.put,sA,sB,sC])
    refine' wpAnyH_take (i:=16) (oi:=_) (v:=_) ?hi18 (by kernel_rfl) (by kernel_rfl) (by kernel_rfl) (fun _ _ _ h=>h) (Or.inl ⟨?hw18,?hy18⟩) hHeld1 ?rest18
    case hi18=>(simp only[gA,gB,gC];rfl)
    case hw18=>rfl
    case hy18=>(intro w hSw;(try dsimp only at hSw);go_simp;try (with_reducible rfl))
    (try simp only[Act.put,sA,sB,sC])
    refine wpAnyH_ready (rs:=[17]) (by kernel_rfl) (by simp) ?_
    refine' AllReadyH.cons (o:=_) ?ho20 (fun K hK=>?step20) ?more20
    case ho20=>(simp only[gA,gB,gC];rfl)
    case step20=>
     go_simp
     refine hK.out _ _ ?_ (fun hHeld2=>?_)
     ·(try dsimp only);(first|exact HF.out _ kk|exact HF.out _ (kk.alloc _)|exact HF.out _ (((kk.set (.inr (Nat.le_refl _)) _).set (.inr (Nat.le_refl _)) _).set (.inr (Nat.le_refl _)) _))
     clear hK K hHeld1
     (try simp only[Act.put,sA,sB,sC])
     refine wpAnyH_ready (rs:=[18]) (by kernel_rfl) (by simp) ?_
     refine' AllReadyH.cons (o:=_) ?ho22 (fun K hK=>?step22) ?more22
     case ho22=>(simp only[gA,gB,gC];rfl)
     case step22=>
      go_simp
      refine hK.out _ _ ?_ (fun hHeld3=>?_)
      ·(try dsimp only);(first|exact HF.out _ kk|exact HF.out _ (kk.alloc _)|exact HF.out _ (((kk.set (.inr (Nat.le_refl _)) _).set (.inr (Nat.le_refl _)) _).set (.inr (Nat.le_refl _)) _))
      clear hK K hHeld2
      (try simp only[Act.put,sA,sB,sC])
      refine' wpAnyH_take (i:=19) (oi:=_) (v:=_) ?hi23 (by kernel_rfl) (by kernel_rfl) (by kernel_rfl) (fun _ _ _ h=>h) (Or.inl ⟨?hw23,?hy23⟩) hHeld3 ?rest23
      case hi23=>(simp only[gA,gB,gC];rfl)
      case hw23=>rfl
      case hy23=>(intro w hSw;(try dsimp only at hSw);go_simp;try (with_reducible rfl))
      (try simp only[Act.put,sA,sB,sC])
      refine wpAnyH_done (by kernel_rfl) ?_ _
      refine NoPanic.normal ?_
      go_wp2_with fail
      go_meet
      first|exact⟨_,_,rfl,rfl,hcode,At.new w2 (obO 0 0 0),kk.alloc _⟩|exact⟨_,_,rfl,rfl,hcode,((hO0.set 0 (.int .i64 0)).set 1 (.int .i64 0)).set 2 (.int .i64 0),((kk.set (.inr (Nat.le_refl _)) _).set (.inr (Nat.le_refl _)) _).set (.inr (Nat.le_refl _)) _⟩
     exact AllReadyH.nil
    exact AllReadyH.nil
   refine' AllReadyH.cons (o:=_) ?ho24 (fun K hK=>?step24) ?more24
   case ho24=>(simp only[gA,gB,gC];rfl)
   case step24=>
    go_simp
    refine hK.out _ _ ?_ (fun hHeld1=>?_)
    ·(try dsimp only);(first|exact HF.out _ kk|exact HF.out _ (kk.alloc _)|exact HF.out _ (((kk.set (.inr (Nat.le_refl _)) _).set (.inr (Nat.le_refl _)) _).set (.inr (Nat.le_refl _)) _))
    clear hK K hHeld0
    (try simp only[Act.put,sA,sB,sC])
    refine wpAnyH_ready (rs:=[13]) (by kernel_rfl) (by simp) ?_
    refine' AllReadyH.cons (o:=_) ?ho26 (fun K hK=>?step26) ?more26
    case ho26=>(simp only[gA,gB,gC];rfl)
    case step26=>
     go_simp
     (go_at_call 174;first|(refine(HOFN2.out _ kk).mono ?_;rintro e w2 ⟨⟨code,hcode,rfl⟩,hk9⟩;have kk:=kk.trans hk9;clear hk9)|(refine(HOFN2.out _ (kk.alloc _)).mono ?_;rintro e w2 ⟨⟨code,hcode,rfl⟩,hk9⟩;have hO0:=hk9.at (At.new w (obO 0 0 0)).drew (by simp);have o0:=hO0.cell 0 rfl;have o1:=hO0.cell 1 rfl;have o2:=hO0.cell 2 rfl;have g0:=hO0.free 0;have g1:=hO0.free 1;have g2:=hO0.free 2;have kk:=(kk.alloc _).trans hk9;clear hk9))
     (try go_wp2_with fail)
     refine hK.out _ _ ?_ (fun hHeld2=>?_)
     ·(try dsimp only);(first|exact HF.out _ kk|exact HF.out _ (kk.alloc _)|exact HF.out _ (((kk.set (.inr (Nat.le_refl _)) _).set (.inr (Nat.le_refl _)) _).set (.inr (Nat.le_refl _)) _))
     clear hK K hHeld1
     (try simp only[Act.put,sA,sB,sC])
     refine' wpAnyH_take (i:=14) (oi:=_) (v:=_) ?hi27 (by kernel_rfl) (by kernel_rfl) (by kernel_rfl) (fun _ _ _ h=>h) (Or.inl ⟨?hw27,?hy27⟩) hHeld2 ?rest27
     case hi27=>(simp only[gA,gB,gC];rfl)
     case hw27=>rfl
     case hy27=>(intro w hSw;(try dsimp only at hSw);go_simp;try (with_reducible rfl))
     (try simp only[Act.put,sA,sB,sC])
     refine' wpAnyH_take (i:=15) (oi:=_) (v:=_) ?hi28 (by kernel_rfl) (by kernel_rfl) (by kernel_rfl) (fun _ _ _ h=>h) (Or.inl ⟨?hw28,?hy28⟩) hHeld2 ?rest28
     case hi28=>(simp only[gA,gB,gC];rfl)
     case hw28=>rfl
     case hy28=>(intro w hSw;(try dsimp only at hSw);go_simp;try (with_reducible rfl))
     (try simp only[Act.put,sA,sB,sC])
     refine' wpAnyH_take (i:=16) (oi:=_) (v:=_) ?hi29 (by kernel_rfl) (by kernel_rfl) (by kernel_rfl) (fun _ _ _ h=>h) (Or.inl ⟨?hw29,?hy29⟩) hHeld2 ?rest29
     case hi29=>(simp only[gA,gB,gC];rfl)
     case hw29=>rfl
     case hy29=>(intro w hSw;(try dsimp only at hSw);go_simp;try (with_reducible rfl))
     (try simp only[Act.put,sA,sB,sC])
     refine wpAnyH_ready (rs:=[18]) (by kernel_rfl) (by simp) ?_
     refine' AllReadyH.cons (o:=_) ?ho31 (fun K hK=>?step31) ?more31
     case ho31=>(simp only[gA,gB,gC];rfl)
     case step31=>
      go_simp
      refine hK.out _ _ ?_ (fun hHeld3=>?_)
      ·(try dsimp only);(first|exact HF.out _ kk|exact HF.out _ (kk.alloc _)|exact HF.out _ (((kk.set (.inr (Nat.le_refl _)) _).set (.inr (Nat.le_refl _)) _).set (.inr (Nat.le_refl _)) _))
      clear hK K hHeld2
      (try simp only[Act.put,sA,sB,sC])
      refine' wpAnyH_take (i:=19) (oi:=_) (v:=_) ?hi32 (by kernel_rfl) (by kernel_rfl) (by kernel_rfl) (fun _ _ _ h=>h) (Or.inl ⟨?hw32,?hy32⟩) hHeld3 ?rest32
      case hi32=>(simp only[gA,gB,gC];rfl)
      case hw32=>rfl
      case hy32=>(intro w hSw;(try dsimp only at hSw);go_simp;try (with_reducible rfl))
      (try simp only[Act.put,sA,sB,sC])
      refine wpAnyH_done (by kernel_rfl) ?_ _
      refine NoPanic.normal ?_
      go_wp2_with fail
      go_meet
      first|exact⟨_,_,rfl,rfl,hcode,At.new w2 (obO 0 0 0),kk.alloc _⟩|exact⟨_,_,rfl,rfl,hcode,((hO0.set 0 (.int .i64 0)).set 1 (.int .i64 0)).set 2 (.int .i64 0),((kk.set (.inr (Nat.le_refl _)) _).set (.inr (Nat.le_refl _)) _).set (.inr (Nat.le_refl _)) _⟩
     exact AllReadyH.nil
    exact AllReadyH.nil
   exact AllReadyH.nil
  case rest=>
   obtain⟨wD,hwD⟩:∃wD,wD=wc:=⟨_,rfl⟩
   subst hwD
   obtain⟨ob,code,rfl,rfl,hcode,hOb,hK⟩:=hcut
   have t1:(code != 0)=true:=by simp[hcode]
   have HK:=hid hK
   clear hcode hOb hK kk
   go_upto_region 5 with fail
   refine wp_region_noPanic ?_
   refine wp_region_held_drew (S:=fun _=>True) (by kernel_rfl) ?_ (fun hHeld0=>?_)
   ·(try dsimp only);(first|done|exact True.intro)
   refine' wpAnyH_take (i:=0) (oi:=_) (v:=_) ?hi33 (by kernel_rfl) (by kernel_rfl) (by kernel_rfl) (fun _ _ _ h=>h) (Or.inl ⟨?hw33,?hy33⟩) hHeld0 ?rest33
   case hi33=>(simp only[gA,gC];rfl)
   case hw33=>rfl
   case hy33=>(intro w hSw;(try dsimp only at hSw);go_simp;try (with_reducible rfl))
   (try simp only[Act.put,sA,sB,sC])
   refine' wpAnyH_take (i:=1) (oi:=_) (v:=_) ?hi34 (by kernel_rfl) (by kernel_rfl) (by kernel_rfl) (fun _ _ _ h=>h) (Or.inl ⟨?hw34,?hy34⟩) hHeld0 ?rest34
   case hi34=>(simp only[gA,gB,gC];rfl)
   case hw34=>rfl
   case hy34=>(intro w hSw;(try dsimp only at hSw);go_simp;try (with_reducible rfl))
   (try simp only[Act.put,sA,sB,sC])
   refine' wpAnyH_take (i:=2) (oi:=_) (v:=_) ?hi35 (by kernel_rfl) (by kernel_rfl) (by kernel_rfl) (fun _ _ _ h=>h) (Or.inl ⟨?hw35,?hy35⟩) hHeld0 ?rest35
   case hi35=>(simp only[gA,gB,gC];rfl)
   case hw35=>rfl
   case hy35=>(intro w hSw;(try dsimp only at hSw);go_simp;try (with_reducible rfl))
   (try simp only[Act.put,sA,sB,sC])
   refine' wpAnyH_take (i:=3) (oi:=_) (v:=_) ?hi36 (by kernel_rfl) (by kernel_rfl) (by kernel_rfl) (fun _ _ _ h=>h) (Or.inr ⟨?hw36,rfl⟩) hHeld0 ?rest36
   case hi36=>(simp only[gA,gB,gC];rfl)
   case hw36=>rfl
   (try simp only[Act.put,sA,sB,sC])
   refine' wpAnyH_take (i:=4) (oi:=_) (v:=_) ?hi37 (by kernel_rfl) (by kernel_rfl) (by kernel_rfl) (fun _ _ _ h=>h) (Or.inr ⟨?hw37,rfl⟩) hHeld0 ?rest37
   case hi37=>(simp only[gA,gB,gC];rfl)
   case hw37=>rfl
   (try simp only[Act.put,sA,sB,sC])
   refine' wpAnyH_take (i:=5) (oi:=_) (v:=_) ?hi38 (by kernel_rfl) (by kernel_rfl) (by kernel_rfl) (fun _ _ _ h=>h) (Or.inr ⟨?hw38,rfl⟩) hHeld0 ?rest38
   case hi38=>(simp only[gA,gB,gC];rfl)
   case hw38=>rfl
   (try simp only[Act.put,sA,sB,sC])
   refine' wpAnyH_take (i:=6) (oi:=_) (v:=_) ?hi39 (by kernel_rfl) (by kernel_rfl) (by kernel_rfl) (fun _ _ _ h=>h) (Or.inr ⟨?hw39,rfl⟩) hHeld0 ?rest39
   case hi39=>(simp only[gA,gB,gC];rfl)
   case hw39=>rfl
   (try simp only[Act.put,sA,sB,sC])
   refine' wpAnyH_take (i:=7) (oi:=_) (v:=_) ?hi40 (by kernel_rfl) (by kernel_rfl) (by kernel_rfl) (fun _ _ _ h=>h) (Or.inr ⟨?hw40,rfl⟩) hHeld0 ?rest40
   case hi40=>(simp only[gA,gB,gC];rfl)
   case hw40=>rfl
   (try simp only[Act.put,sA,sB,sC])
   refine' wpAnyH_take (i:=8) (oi:=_) (v:=_) ?hi41 (by kernel_rfl) (by kernel_rfl) (by kernel_rfl) (fun _ _ _ h=>h) (Or.inr ⟨?hw41,rfl⟩) hHeld0 ?rest41
   case hi41=>(simp only[gA,gB,gC];rfl)
   case hw41=>rfl
   (try simp only[Act.put,sA,sB,sC])
   refine' wpAnyH_take (i:=9) (oi:=_) (v:=_) ?hi42 (by kernel_rfl) (by kernel_rfl) (by kernel_rfl) (fun _ _ _ h=>h) (Or.inr ⟨?hw42,rfl⟩) hHeld0 ?rest42
   case hi42=>(simp only[gA,gB,gC];rfl)
   case hw42=>rfl
   (try simp only[Act.put,sA,sB,sC])
   refine' wpAnyH_take (i:=10) (oi:=_) (v:=_) ?hi43 (by kernel_rfl) (by kernel_rfl) (by kernel_rfl) (fun _ _ _ h=>h) (Or.inr ⟨?hw43,rfl⟩) hHeld0 ?rest43
   case hi43=>(simp only[gA,gB,gC];rfl)
   case hw43=>rfl
   (try simp only[Act.put,sA,sB,sC])
   refine' wpAnyH_take (i:=11) (oi:=_) (v:=_) ?hi44 (by kernel_rfl) (by kernel_rfl) (by kernel_rfl) (fun _ _ _ h=>h) (Or.inr ⟨?hw44,rfl⟩) hHeld0 ?rest44
   case hi44=>(simp only[gA,gB,gC];rfl)
   case hw44=>rfl
   (try simp only[Act.put,sA,sB,sC])
   refine' wpAnyH_take (i:=12) (oi:=_) (v:=_) ?hi45 (by kernel_rfl) (by kernel_rfl) (by kernel_rfl) (fun _ _ _ h=>h) (Or.inr ⟨?hw45,rfl⟩) hHeld0 ?rest45
   case hi45=>(simp only[gA,gB,gC];rfl)
   case hw45=>rfl
   (try simp only[Act.put,sA,sB,sC])
   refine' wpAnyH_take (i:=13) (oi:=_) (v:=_) ?hi46 (by kernel_rfl) (by kernel_rfl) (by kernel_rfl) (fun _ _ _ h=>h) (Or.inr ⟨?hw46,rfl⟩) hHeld0 ?rest46
   case hi46=>(simp only[gA,gB,gC];rfl)
   case hw46=>rfl
   (try simp only[Act.put,sA,sB,sC])
   refine' wpAnyH_take (i:=14) (oi:=_) (v:=_) ?hi47 (by kernel_rfl) (by kernel_rfl) (by kernel_rfl) (fun _ _ _ h=>h) (Or.inr ⟨?hw47,rfl⟩) hHeld0 ?rest47
   case hi47=>(simp only[gA,gB,gC];rfl)
   case hw47=>rfl
   (try simp only[Act.put,sA,sB,sC])
   refine' wpAnyH_take (i:=15) (oi:=_) (v:=_) ?hi48 (by kernel_rfl) (by kernel_rfl) (by kernel_rfl) (fun _ _ _ h=>h) (Or.inr ⟨?hw48,rfl⟩) hHeld0 ?rest48
   case hi48=>(simp only[gA,gB,gC];rfl)
   case hw48=>rfl
   (try simp only[Act.put,sA,sB,sC])
   refine' wpAnyH_take (i:=16) (oi:=_) (v:=_) ?hi49 (by kernel_rfl) (by kernel_rfl) (by kernel_rfl) (fun _ _ _ h=>h) (Or.inr ⟨?hw49,rfl⟩) hHeld0 ?rest49
   case hi49=>(simp only[gA,gB,gC];rfl)
   case hw49=>rfl
   (try simp only[Act.put,sA,sB,sC])
   refine' wpAnyH_take (i:=17) (oi:=_) (v:=_) ?hi50 (by kernel_rfl) (by kernel_rfl) (by kernel_rfl) (fun _ _ _ h=>h) (Or.inr ⟨?hw50,rfl⟩) hHeld0 ?rest50
   case hi50=>(simp only[gA,gB,gC];rfl)
   case hw50=>rfl
   (try simp only[Act.put,sA,sB,sC])
   refine' wpAnyH_take (i:=18) (oi:=_) (v:=_) ?hi51 (by kernel_rfl) (by kernel_rfl) (by kernel_rfl) (fun _ _ _ h=>h) (Or.inl ⟨?hw51,?hy51⟩) hHeld0 ?rest51
   case hi51=>(simp only[gA,gB,gC];rfl)
   case hw51=>rfl
   case hy51=>(intro w hSw;(try dsimp only at hSw);go_simp;try (with_reducible rfl))
   (try simp only[Act.put,sA,sB,sC])
   refine wpAnyH_done (by kernel_rfl) ?_ _
   refine NoPanic.normal ?_
   go_wp2_with fail
   go_ret
   exact .inl <| J7 (z:=0) HC.out HPW.out HJ.out (HK.out.drew) HSE.out (by unfold wO;rw[if_neg HIN.out])
 |true=>
  have HSE:Hid (seeW P.S P.c P.k P.us out v=out++ [v]):=wh ho HIN.out
  have hX:P.LS[out.length]? =some v:=HPRE.out.see ho HIN.out
  have hpo:=HPRE.out.of_see
  obtain⟨-,-,hsz⟩:=hpo.next hX
  obtain⟨nn,hnn⟩:∃nn,nn=hdN (P.S.now v).toNat:=⟨_,rfl⟩
  obtain⟨rr,hrr⟩:∃rr,rr=hdR (P.S.now v).toNat:=⟨_,rfl⟩
  obtain⟨x1,x2,x3,x4,x5⟩:=yN ho
  rw[<-hnn,<-hrr]at x5
  have hn64:=yu x3
  rw[<-hnn]at hn64 hsz
  rw[<-HU.out]at hsz
  have hs2:=HSZ2.out
  have HOFY2:=hid (HOFY.out nn rr x5)
  have hnni:(nn:Int)≤64:=by omega
  have hfit:U+(nn+1)≤P.c.space:=by omega
  have HXN:=hid (And.intro hX (And.intro hnn hrr))
  have HFIT:=hid hfit
  clear ho hX hpo hsz hnn hrr x1 x2 x3 x4 x5 hn64 hs2 hfit
  go_cut [7,8]from 20 to 36 (fun s7 s8 wx=>∃(ob:Nat) (code:Int),s7=ptr ob∧s8=.int .i64 code∧code=0∧At wx ob (obO (nn:Nat) (rr:Nat) (v:Nat))∧xe [] w wx)
  case first=>
   refine wp_region_noPanic ?_
   refine wp_region_held_drew (S:=fun w'=>w'.cell? ⟨x,0,none⟩=some (ptr P.a.d)/\w'.cell? ⟨x,1,none⟩=some (.int .i64 P.c.log)/\w'.cell? ⟨x,2,none⟩=some (.int .i64 P.c.roots)/\w'.cell? ⟨x,3,none⟩=some (.int .i64 P.c.space)/\w'.cell? ⟨x,4,none⟩=some (.int .i64 (P.k:Nat))/\w'.cell? ⟨x,5,none⟩=some (.int .i64 (P.us:Nat))/\w'.cell? ⟨x,6,none⟩=some (.slice yr P.rs.length cr)) (by kernel_rfl) ?_ (fun hHeld0=>?_)
   ·(try dsimp only);(first|exact HF.out _ kk|exact HF.out _ (kk.alloc _)|exact HF.out _ (((kk.set (.inr (Nat.le_refl _)) _).set (.inr (Nat.le_refl _)) _).set (.inr (Nat.le_refl _)) _))
   refine' wpAnyH_take (i:=0) (oi:=_) (v:=_) ?hi52 (by kernel_rfl) (by kernel_rfl) (by kernel_rfl) (fun _ _ _ h=>h) (Or.inl ⟨?hw52,?hy52⟩) hHeld0 ?rest52
   case hi52=>(simp only[gA,gC];rfl)
   case hw52=>rfl
   case hy52=>(intro w hSw;(try dsimp only at hSw);go_simp;try (with_reducible rfl))
   (try simp only[Act.put,sA,sB,sC])
   refine' wpAnyH_take (i:=1) (oi:=_) (v:=_) ?hi53 (by kernel_rfl) (by kernel_rfl) (by kernel_rfl) (fun _ _ _ h=>h) (Or.inl ⟨?hw53,?hy53⟩) hHeld0 ?rest53
   case hi53=>(simp only[gA,gB,gC];rfl)
   case hw53=>rfl
   case hy53=>(intro w hSw;(try dsimp only at hSw);go_simp;try (with_reducible rfl))
   (try simp only[Act.put,sA,sB,sC])
   refine' wpAnyH_take (i:=2) (oi:=_) (v:=_) ?hi54 (by kernel_rfl) (by kernel_rfl) (by kernel_rfl) (fun _ _ _ h=>h) (Or.inl ⟨?hw54,?hy54⟩) hHeld0 ?rest54
   case hi54=>(simp only[gA,gB,gC];rfl)
   case hw54=>rfl
   case hy54=>(intro w hSw;(try dsimp only at hSw);go_simp;try (with_reducible rfl))
   (try simp only[Act.put,sA,sB,sC])
   refine' wpAnyH_take (i:=3) (oi:=_) (v:=_) ?hi55 (by kernel_rfl) (by kernel_rfl) (by kernel_rfl) (fun _ _ _ h=>h) (Or.inl ⟨?hw55,?hy55⟩) hHeld0 ?rest55
   case hi55=>(simp only[gA,gB,gC];rfl)
   case hw55=>rfl
   case hy55=>(intro w hSw;(try dsimp only at hSw);go_simp;try (with_reducible rfl))
   (try simp only[Act.put,sA,sB,sC])
   refine' wpAnyH_take (i:=4) (oi:=_) (v:=_) ?hi56 (by kernel_rfl) (by kernel_rfl) (by kernel_rfl) (fun _ _ _ h=>h) (Or.inl ⟨?hw56,?hy56⟩) hHeld0 ?rest56
   case hi56=>(simp only[gA,gB,gC];rfl)
   case hw56=>rfl
   case hy56=>(intro w hSw;(try dsimp only at hSw);go_simp;try (with_reducible rfl))
   (try simp only[Act.put,sA,sB,sC])
   refine' wpAnyH_take (i:=5) (oi:=_) (v:=_) ?hi57 (by kernel_rfl) (by kernel_rfl) (by kernel_rfl) (fun _ _ _ h=>h) (Or.inl ⟨?hw57,?hy57⟩) hHeld0 ?rest57
   case hi57=>(simp only[gA,gB,gC];rfl)
   case hw57=>rfl
   case hy57=>(intro w hSw;(try dsimp only at hSw);go_simp;try (with_reducible rfl))
   (try simp only[Act.put,sA,sB,sC])
   refine' wpAnyH_take (i:=6) (oi:=_) (v:=_) ?hi58 (by kernel_rfl) (by kernel_rfl) (by kernel_rfl) (fun _ _ _ h=>h) (Or.inl ⟨?hw58,?hy58⟩) hHeld0 ?rest58
   case hi58=>(simp only[gA,gB,gC];rfl)
   case hw58=>rfl
   case hy58=>(intro w hSw;(try dsimp only at hSw);go_simp;try (with_reducible rfl))
   (try simp only[Act.put,sA,sB,sC])
   refine' wpAnyH_take (i:=7) (oi:=_) (v:=_) ?hi59 (by kernel_rfl) (by kernel_rfl) (by kernel_rfl) (fun _ _ _ h=>h) (Or.inl ⟨?hw59,?hy59⟩) hHeld0 ?rest59
   case hi59=>(simp only[gA,gB,gC];rfl)
   case hw59=>rfl
   case hy59=>(intro w hSw;(try dsimp only at hSw);go_simp;try (with_reducible rfl))
   (try simp only[Act.put,sA,sB,sC])
   refine' wpAnyH_take (i:=8) (oi:=_) (v:=_) ?hi60 (by kernel_rfl) (by kernel_rfl) (by kernel_rfl) (fun _ _ _ h=>h) (Or.inl ⟨?hw60,?hy60⟩) hHeld0 ?rest60
   case hi60=>(simp only[gA,gB,gC];rfl)
   case hw60=>rfl
   case hy60=>(intro w hSw;(try dsimp only at hSw);go_simp;try (with_reducible rfl))
   (try simp only[Act.put,sA,sB,sC])
   refine' wpAnyH_take (i:=9) (oi:=_) (v:=_) ?hi61 (by kernel_rfl) (by kernel_rfl) (by kernel_rfl) (fun _ _ _ h=>h) (Or.inl ⟨?hw61,?hy61⟩) hHeld0 ?rest61
   case hi61=>(simp only[gA,gB,gC];rfl)
   case hw61=>rfl
   case hy61=>(intro w hSw;(try dsimp only at hSw);go_simp;try (with_reducible rfl))
   (try simp only[Act.put,sA,sB,sC])
   refine' wpAnyH_take (i:=10) (oi:=_) (v:=_) ?hi62 (by kernel_rfl) (by kernel_rfl) (by kernel_rfl) (fun _ _ _ h=>h) (Or.inl ⟨?hw62,?hy62⟩) hHeld0 ?rest62
   case hi62=>(simp only[gA,gB,gC];rfl)
   case hw62=>rfl
   case hy62=>(intro w hSw;(try dsimp only at hSw);go_simp;try (with_reducible rfl))
   (try simp only[Act.put,sA,sB,sC])
   refine' wpAnyH_take (i:=11) (oi:=_) (v:=_) ?hi63 (by kernel_rfl) (by kernel_rfl) (by kernel_rfl) (fun _ _ _ h=>h) (Or.inl ⟨?hw63,?hy63⟩) hHeld0 ?rest63
   case hi63=>(simp only[gA,gB,gC];rfl)
   case hw63=>rfl
   case hy63=>(intro w hSw;(try dsimp only at hSw);go_simp;try (with_reducible rfl))
   (try simp only[Act.put,sA,sB,sC])
   refine' wpAnyH_take (i:=12) (oi:=_) (v:=_) ?hi64 (by kernel_rfl) (by kernel_rfl) (by kernel_rfl) (fun _ _ _ h=>h) (Or.inl ⟨?hw64,?hy64⟩) hHeld0 ?rest64
   case hi64=>(simp only[gA,gB,gC];rfl)
   case hw64=>rfl
   case hy64=>(intro w hSw;(try dsimp only at hSw);go_simp;try (with_reducible rfl))
   (try simp only[Act.put,sA,sB,sC])
   refine wpAnyH_ready (rs:=[13,17]) (by kernel_rfl) (by simp) ?_
   refine' AllReadyH.cons (o:=_) ?ho66 (fun K hK=>?step66) ?more66
   case ho66=>(simp only[gA,gB,gC];rfl)
   case step66=>
    go_simp
    (go_at_call 174;first|(refine(HOFY2.out _ kk).mono ?_;rintro e w2 ⟨rfl,hk9⟩;have kk:=kk.trans hk9;clear hk9)|(refine(HOFY2.out _ (kk.alloc _)).mono ?_;rintro e w2 ⟨rfl,hk9⟩;have hO0:=hk9.at (At.new w (obO 0 0 0)).drew (by simp);have o0:=hO0.cell 0 rfl;have o1:=hO0.cell 1 rfl;have o2:=hO0.cell 2 rfl;have g0:=hO0.free 0;have g1:=hO0.free 1;have g2:=hO0.free 2;have kk:=(kk.alloc _).trans hk9;clear hk9))
    (try go_wp2_with fail)
    refine hK.out _ _ ?_ (fun hHeld1=>?_)
    ·(try dsimp only);(first|exact HF.out _ kk|exact HF.out _ (kk.alloc _)|exact HF.out _ (((kk.set (.inr (Nat.le_refl _)) _).set (.inr (Nat.le_refl _)) _).set (.inr (Nat.le_refl _)) _))
    clear hK K hHeld0
    (try simp only[Act.put,sA,sB,sC])
    refine' wpAnyH_take (i:=14) (oi:=_) (v:=_) ?hi67 (by kernel_rfl) (by kernel_rfl) (by kernel_rfl) (fun _ _ _ h=>h) (Or.inl ⟨?hw67,?hy67⟩) hHeld1 ?rest67
    case hi67=>(simp only[gA,gB,gC];rfl)
    case hw67=>rfl
    case hy67=>(intro w hSw;(try dsimp only at hSw);go_simp;try (with_reducible rfl))
    (try simp only[Act.put,sA,sB,sC])
    refine' wpAnyH_take (i:=15) (oi:=_) (v:=_) ?hi68 (by kernel_rfl) (by kernel_rfl) (by kernel_rfl) (fun _ _ _ h=>h) (Or.inl ⟨?hw68,?hy68⟩) hHeld1 ?rest68
    case hi68=>(simp only[gA,gB,gC];rfl)
    case hw68=>rfl
    case hy68=>(intro w hSw;(try dsimp only at hSw);go_simp;try (with_reducible rfl))
    (try simp only[Act.put,sA,sB,sC])
    refine' wpAnyH_take (i:=16) (oi:=_) (v:=_) ?hi69 (by kernel_rfl) (by kernel_rfl) (by kernel_rfl) (fun _ _ _ h=>h) (Or.inl ⟨?hw69,?hy69⟩) hHeld1 ?rest69
    case hi69=>(simp only[gA,gB,gC];rfl)
    case hw69=>rfl
    case hy69=>(intro w hSw;(try dsimp only at hSw);go_simp;try (with_reducible rfl))
    (try simp only[Act.put,sA,sB,sC])
    refine wpAnyH_ready (rs:=[17]) (by kernel_rfl) (by simp) ?_
    refine' AllReadyH.cons (o:=_) ?ho71 (fun K hK=>?step71) ?more71
    case ho71=>(simp only[gA,gB,gC];rfl)
    case step71=>
     go_simp
     refine hK.out _ _ ?_ (fun hHeld2=>?_)
     ·(try dsimp only);(first|exact HF.out _ kk|exact HF.out _ (kk.alloc _)|exact HF.out _ (((kk.set (.inr (Nat.le_refl _)) _).set (.inr (Nat.le_refl _)) _).set (.inr (Nat.le_refl _)) _))
     clear hK K hHeld1
     (try simp only[Act.put,sA,sB,sC])
     refine wpAnyH_ready (rs:=[18]) (by kernel_rfl) (by simp) ?_
     refine' AllReadyH.cons (o:=_) ?ho73 (fun K hK=>?step73) ?more73
     case ho73=>(simp only[gA,gB,gC];rfl)
     case step73=>
      go_simp
      refine hK.out _ _ ?_ (fun hHeld3=>?_)
      ·(try dsimp only);(first|exact HF.out _ kk|exact HF.out _ (kk.alloc _)|exact HF.out _ (((kk.set (.inr (Nat.le_refl _)) _).set (.inr (Nat.le_refl _)) _).set (.inr (Nat.le_refl _)) _))
      clear hK K hHeld2
      (try simp only[Act.put,sA,sB,sC])
      refine' wpAnyH_take (i:=19) (oi:=_) (v:=_) ?hi74 (by kernel_rfl) (by kernel_rfl) (by kernel_rfl) (fun _ _ _ h=>h) (Or.inl ⟨?hw74,?hy74⟩) hHeld3 ?rest74
      case hi74=>(simp only[gA,gB,gC];rfl)
      case hw74=>rfl
      case hy74=>(intro w hSw;(try dsimp only at hSw);go_simp;try (with_reducible rfl))
      (try simp only[Act.put,sA,sB,sC])
      refine wpAnyH_done (by kernel_rfl) ?_ _
      refine NoPanic.normal ?_
      go_wp2_with fail
      go_meet
      first|exact⟨_,0,rfl,rfl,rfl,At.new w2 (obO (nn:Nat) (rr:Nat) (v:Nat)),kk.alloc _⟩|exact⟨_,0,rfl,rfl,rfl,((hO0.set 0 (.int .i64 (nn:Nat))).set 1 (.int .i64 (rr:Nat))).set 2 (.int .i64 (v:Nat)),((kk.set (.inr (Nat.le_refl _)) _).set (.inr (Nat.le_refl _)) _).set (.inr (Nat.le_refl _)) _⟩
     exact AllReadyH.nil
    exact AllReadyH.nil
   refine' AllReadyH.cons (o:=_) ?ho75 (fun K hK=>?step75) ?more75
   case ho75=>(simp only[gA,gB,gC];rfl)
   case step75=>
    go_simp
    refine hK.out _ _ ?_ (fun hHeld1=>?_)
    ·(try dsimp only);(first|exact HF.out _ kk|exact HF.out _ (kk.alloc _)|exact HF.out _ (((kk.set (.inr (Nat.le_refl _)) _).set (.inr (Nat.le_refl _)) _).set (.inr (Nat.le_refl _)) _))
    clear hK K hHeld0
    (try simp only[Act.put,sA,sB,sC])
    refine wpAnyH_ready (rs:=[13]) (by kernel_rfl) (by simp) ?_
    refine' AllReadyH.cons (o:=_) ?ho77 (fun K hK=>?step77) ?more77
    case ho77=>(simp only[gA,gB,gC];rfl)
    case step77=>
     go_simp
     (go_at_call 174;first|(refine(HOFY2.out _ kk).mono ?_;rintro e w2 ⟨rfl,hk9⟩;have kk:=kk.trans hk9;clear hk9)|(refine(HOFY2.out _ (kk.alloc _)).mono ?_;rintro e w2 ⟨rfl,hk9⟩;have hO0:=hk9.at (At.new w (obO 0 0 0)).drew (by simp);have o0:=hO0.cell 0 rfl;have o1:=hO0.cell 1 rfl;have o2:=hO0.cell 2 rfl;have g0:=hO0.free 0;have g1:=hO0.free 1;have g2:=hO0.free 2;have kk:=(kk.alloc _).trans hk9;clear hk9))
     (try go_wp2_with fail)
     refine hK.out _ _ ?_ (fun hHeld2=>?_)
     ·(try dsimp only);(first|exact HF.out _ kk|exact HF.out _ (kk.alloc _)|exact HF.out _ (((kk.set (.inr (Nat.le_refl _)) _).set (.inr (Nat.le_refl _)) _).set (.inr (Nat.le_refl _)) _))
     clear hK K hHeld1
     (try simp only[Act.put,sA,sB,sC])
     refine' wpAnyH_take (i:=14) (oi:=_) (v:=_) ?hi78 (by kernel_rfl) (by kernel_rfl) (by kernel_rfl) (fun _ _ _ h=>h) (Or.inl ⟨?hw78,?hy78⟩) hHeld2 ?rest78
     case hi78=>(simp only[gA,gB,gC];rfl)
     case hw78=>rfl
     case hy78=>(intro w hSw;(try dsimp only at hSw);go_simp;try (with_reducible rfl))
     (try simp only[Act.put,sA,sB,sC])
     refine' wpAnyH_take (i:=15) (oi:=_) (v:=_) ?hi79 (by kernel_rfl) (by kernel_rfl) (by kernel_rfl) (fun _ _ _ h=>h) (Or.inl ⟨?hw79,?hy79⟩) hHeld2 ?rest79
     case hi79=>(simp only[gA,gB,gC];rfl)
     case hw79=>rfl
     case hy79=>(intro w hSw;(try dsimp only at hSw);go_simp;try (with_reducible rfl))
     (try simp only[Act.put,sA,sB,sC])
     refine' wpAnyH_take (i:=16) (oi:=_) (v:=_) ?hi80 (by kernel_rfl) (by kernel_rfl) (by kernel_rfl) (fun _ _ _ h=>h) (Or.inl ⟨?hw80,?hy80⟩) hHeld2 ?rest80
     case hi80=>(simp only[gA,gB,gC];rfl)
     case hw80=>rfl
     case hy80=>(intro w hSw;(try dsimp only at hSw);go_simp;try (with_reducible rfl))
     (try simp only[Act.put,sA,sB,sC])
     refine wpAnyH_ready (rs:=[18]) (by kernel_rfl) (by simp) ?_
     refine' AllReadyH.cons (o:=_) ?ho82 (fun K hK=>?step82) ?more82
     case ho82=>(simp only[gA,gB,gC];rfl)
     case step82=>
      go_simp
      refine hK.out _ _ ?_ (fun hHeld3=>?_)
      ·(try dsimp only);(first|exact HF.out _ kk|exact HF.out _ (kk.alloc _)|exact HF.out _ (((kk.set (.inr (Nat.le_refl _)) _).set (.inr (Nat.le_refl _)) _).set (.inr (Nat.le_refl _)) _))
      clear hK K hHeld2
      (try simp only[Act.put,sA,sB,sC])
      refine' wpAnyH_take (i:=19) (oi:=_) (v:=_) ?hi83 (by kernel_rfl) (by kernel_rfl) (by kernel_rfl) (fun _ _ _ h=>h) (Or.inl ⟨?hw83,?hy83⟩) hHeld3 ?rest83
      case hi83=>(simp only[gA,gB,gC];rfl)
      case hw83=>rfl
      case hy83=>(intro w hSw;(try dsimp only at hSw);go_simp;try (with_reducible rfl))
      (try simp only[Act.put,sA,sB,sC])
      refine wpAnyH_done (by kernel_rfl) ?_ _
      refine NoPanic.normal ?_
      go_wp2_with fail
      go_meet
      first|exact⟨_,0,rfl,rfl,rfl,At.new w2 (obO (nn:Nat) (rr:Nat) (v:Nat)),kk.alloc _⟩|exact⟨_,0,rfl,rfl,rfl,((hO0.set 0 (.int .i64 (nn:Nat))).set 1 (.int .i64 (rr:Nat))).set 2 (.int .i64 (v:Nat)),((kk.set (.inr (Nat.le_refl _)) _).set (.inr (Nat.le_refl _)) _).set (.inr (Nat.le_refl _)) _⟩
     exact AllReadyH.nil
    exact AllReadyH.nil
   exact AllReadyH.nil
  case rest=>
   obtain⟨wD,hwD⟩:∃wD,wD=wc:=⟨_,rfl⟩
   subst hwD
   obtain⟨ob,code,rfl,rfl,rfl,hOb,hK⟩:=hcut
   have hBD:=hK.at HB.out (by simp)
   have HK:=hid hK
   have HOB:=hid hOb
   have HF5:Hid (∀w',xe [] wD w'->(w'.cell? ⟨x,3,none⟩=some (.int .i64 P.c.space)/\w'.cell? ⟨x,8,none⟩=some (.int .i64 (U:Nat))/\w'.cell? ⟨ob,0,none⟩=some (.int .i64 (nn:Nat))/\w'.cell? ⟨ob,1,none⟩=some (.int .i64 (rr:Nat)))):=fun w' hk=>by
    have g1:=hk.at hBD (by simp)
    have g2:=hk.at hOb (by simp)
    exact⟨g1.cell 3 rfl,g1.cell 8 rfl,g2.cell 0 rfl,g2.cell 1 rfl⟩
   have e1:IntKind.i64.wrap ((P.c.space:Int)-(U:Int))=(P.c.space:Int)-(U:Int):=IntWalk.i64_in _ (by omega)
   have t1:decide ((P.c.space:Int)-(U:Int)<(nn:Int)+1)=false:=decide_eq_false (by have:=HFIT.out;omega)
   have t2:(nn:Int)+1≤(P.c.space:Int)-(U:Int):=by have:=HFIT.out;omega
   have HSZ:=hid (fun w=>wH w nn rr (by omega))
   clear hOb hK kk hBD
   go_upto_region 5 with fail
   have kk:xe [] wD wD.drew:=(xe.refl _ _).drew
   go_region_held3 (fun w'=>w'.cell? ⟨x,3,none⟩=some (.int .i64 P.c.space)∧w'.cell? ⟨x,8,none⟩=some (.int .i64 (U:Nat))∧w'.cell? ⟨ob,0,none⟩=some (.int .i64 (nn:Nat))∧w'.cell? ⟨ob,1,none⟩=some (.int .i64 (rr:Nat)))
    (exact HF5.out _ kk)
    (first
      |(go_at_call 151;refine(HSZ.out _).mono ?_;rintro e w' ⟨rfl,hk9⟩;have kk:=kk.trans hk9;clear hk9))
   have hO6:=kk.at HOB.out (by simp)
   have o0:=hO6.cell 0 rfl
   have o1:=hO6.cell 1 rfl
   have o2:=hO6.cell 2 rfl
   have HCL:=hid (HCP.out _ (HK.out.trans kk) nn rr HXN.out.1 HXN.out.2.1 HXN.out.2.2)
   have HK6:=hid (HK.out.trans kk)
   clear kk hO6 e1 t1 t2
   go_wp2_with fail
   refine HCL.out.mono ?_
   rintro e w7 (hcp|hcp)
   rotate_left
   ·obtain⟨rfl,S2,h1,h2,h3⟩:=hcp
    exact And.intro rfl (Or.inr ⟨rfl,S2,h1,h2,(HK6.out.mono (by simp)).trans h3⟩)
   have HEN:=hid (xeh hcp HK6.out HSE.out)
   obtain⟨rfl,-⟩:=hcp
   go_wp2_with fail
   go_ret
   exact .inl HEN.out
end Go.Proofs.YtcdhklgahepcaaaGreat
