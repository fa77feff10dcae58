import Derived.Test.YtcdhklgahepcaaaGreatCkp
import Derived.Test.YtcdhklgahepcaaaGreatPtl
set_option maxHeartbeats 4000000
set_option maxRecDepth 100000
namespace Go.Proofs.YtcdhklgahepcaaaGreat
open Go.RowKit Go.OpenShut
def KpL (P:CP) (l:Int) (out:List Nat) (u:Int) (S':DS) (w:World) (e:Ending) (w':World):Prop:=
 e=.returned (.tuple #[])/\∃u' S'',Pw w' P.p P.a l u' S''/\Zon P S' S''/\S''.now=S'.now/\(∀j,P.c.frm (1-P.k)≤j->j<P.c.frm (1-P.k)+szF P.S out->Fix S'' j (S'.now j))/\u'≤u+600/\xe [P.p,P.a.s,P.a.k,P.a.m] w w'
theorem xee (P:CP) (hP:P.Ok) (w:World) (x mb B:Nat) (yr:Option Addr) (cr:Nat) (yl:Option Addr) (cl:Nat) (yq:Option Addr) (cq:Nat) (out:List Nat) (i n:Nat) (dn:Bool) (hC:ClB P w x mb B yr cr yl cl yq cq out i n dn) (hA:Apart P (clT x mb yr yl yq)) (hpre:P.Pre out)
  (l u:Int) (S':DS) (hPw:Pw w P.p P.a l u S') (hu:u≤800000000000):
  Calls Tryz.prog 164 #[ptr x] w (fun e w'=>KpL P l out u S' w e w'\/CutC P l [] S' w e w'):=by
 obtain⟨hc,hcn,hk,hus,hrdy,-,-,-,-⟩:=hP
 have hfr:=xW hc.small (show 1-P.k≤2 by omega)
 have hsp:=hc.small.2.2
 have hfs:P.c.frm (1-P.k)+up8 P.c.space≤P.a.n:=by
  rw[<-hcn]
  unfold Cfg.words Cfg.frm
  have h1:(1-P.k)*up8 P.c.space+up8 P.c.space=(1-P.k+1)*up8 P.c.space:=by rw[Nat.succ_mul]
  have h2:(1-P.k+1)*up8 P.c.space≤2*up8 P.c.space:=Nat.mul_le_mul_right _ (by omega)
  omega
 have hF8:P.c.frm (1-P.k)%8=0:=by
  unfold Cfg.frm
  have h1:=(xD (P.c.root P.c.roots)).2.2
  have h2:=(xD P.c.space).2.2
  obtain h3|h3:1-P.k=0\/1-P.k=1:=by omega
  ·rw[h3];omega
  ·rw[h3];omega
 have hsz2:szF P.S P.LS≤P.c.space:=hrdy.sz
 have hupp:=xD P.c.space
 have hpz:=hpre.sz
 obtain⟨U,hU⟩:∃U,U=szF P.S out:=⟨_,rfl⟩
 obtain⟨F,hF⟩:∃F,F=P.c.frm (1-P.k):=⟨_,rfl⟩
 have hbox:=hC.box
 rw[<-hU]at hbox
 have hUi:(U:Int)≤4096:=by omega
 have hFi:(F:Int)≤15000:=by omega
 have HPL:Hid (∀(q:Nat) (w':World),q≤10000->Calls Tryz.prog 156 #[bkV ((1-P.k:Nat):Int) (U:Nat) (.slice none 0 0),cfgV P.c,.int .i64 (q:Nat)] w' fun e w''=>e=.returned (.int .i64 ((F+q:Nat):Int))/\xe [] w' w''):=fun q w' hq=>by
  have:=yM w' P.c hc.small (1-P.k) (by omega) (U:Nat) (.slice none 0 0) (q:Nat) (by omega)
  rw[show((P.c.frm (1-P.k):Nat):Int)+(q:Int)=((F+q:Nat):Int) by omega]at this
  exact this
 have hxd:x∉[P.p,P.a.s,P.a.k,P.a.m]:=fun h=>hA x (by simp[clT]) (by simp at h⊢;omega)
 have HB:=hid hbox
 have HXD:=hid hxd
 have HPW:=hid hPw
 have HUF:=hid (And.intro hU hF)
 have HFS:Hid (F+up8 P.c.space≤P.a.n/\U≤P.c.space/\F%8=0/\P.c.space≤up8 P.c.space/\up8 P.c.space%8=0):=by
  refine⟨by omega,by omega,by omega,hupp.1,hupp.2.2⟩
 have HUB:=hid hu
 have HPS:Hid (P.c.space≤4096):=hsp
 have HF2:Hid (∀w',xe [P.p,P.a.s,P.a.k,P.a.m] w w'->(w'.cell? ⟨x,0,none⟩=some (ptr P.a.d)/\w'.cell? ⟨x,1,none⟩=some (.int .i64 P.c.log)/\w'.cell? ⟨x,2,none⟩=some (.int .i64 P.c.roots)/\w'.cell? ⟨x,3,none⟩=some (.int .i64 P.c.space)/\w'.cell? ⟨x,7,none⟩=some (.int .i64 ((1-P.k:Nat):Int))/\w'.cell? ⟨x,8,none⟩=some (.int .i64 (U:Nat))/\w'.cell? ⟨x,9,none⟩=some (.slice none 0 0))):=fun w' hk=>by
  have e1:=hk.at hbox hxd
  exact⟨e1.cell 0 rfl,e1.cell 1 rfl,e1.cell 2 rfl,e1.cell 3 rfl,e1.cell 7 rfl,e1.cell 8 rfl,e1.cell 9 rfl⟩
 clear hc hcn hk hus hrdy hfr hsp hfs hF8 hsz2 hupp hpz hU hF hbox hC hA hpre hPw hu hxd
 go_enter Tryz.func164,Tryz.ntmps164
 go_wp2_with fail
 go_loopg [2] ((U+7)/8) (fun rr s2 wr=>∃(t q:Nat) (u':Int) (S2:DS),t+rr=(U+7)/8∧q=8*t∧s2=.int .i64 (q:Nat)∧Pw wr P.p P.a l u' S2∧u'≤u+(t:Int)∧(FlP F S' S2 t∧Zon P S' S2)∧xe [P.p,P.a.s,P.a.k,P.a.m] w wr)
 case atStart=>exact⟨0,0,u,S',by omega,rfl,rfl,HPW.out,by omega,⟨⟨rfl,fun j h1 h2=>by omega⟩,Zon.refl _ _⟩,xe.refl _ _⟩
 case round=>
  obtain⟨t,q,u',S2,ht,hq,rfl,hP2,hu2,⟨hFl,hZn⟩,hK⟩:=hrel
  have HZN:=hid hZn
  clear hZn
  have hCx:=HF2.out wr hK
  obtain⟨x0,x1,x2,x3,x7,x8,x9⟩:=hCx
  have hfs:=HFS.out
  by_cases hlt:q<U
  ·have hqi:(q:Int)<(U:Int):=by omega
   have hqa:F+q<P.a.n:=by omega
   have hq1:(q:Int)≤5000:=by omega
   have hub2:u'<4611686018427387904:=by have:=HUB.out;omega
   have HFL:=hid (fun(w':World) (hk:xe [] wr w')=>xea w' P.p P.a l u' S2 (hP2.keep0 hk) (by have:=HUB.out;omega) (F+q) hqa)
   have HPq:=hid (fun w'=>HPL.out q w' (by omega))
   have HX:Hid (∀w',xe [P.p,P.a.s,P.a.k,P.a.m] wr w'->(w'.cell? ⟨x,0,none⟩=some (ptr P.a.d)/\w'.cell? ⟨x,1,none⟩=some (.int .i64 P.c.log)/\w'.cell? ⟨x,2,none⟩=some (.int .i64 P.c.roots)/\w'.cell? ⟨x,3,none⟩=some (.int .i64 P.c.space)/\w'.cell? ⟨x,7,none⟩=some (.int .i64 ((1-P.k:Nat):Int))/\w'.cell? ⟨x,8,none⟩=some (.int .i64 (U:Nat))/\w'.cell? ⟨x,9,none⟩=some (.slice none 0 0))):=fun w' hk=>HF2.out w' (hK.trans hk)
   have HE:=hid (And.intro ht (And.intro hq (And.intro hu2 (And.intro hFl hK))))
   clear ht hq hP2 hu2 hFl hK hfs hqa hub2 hlt
   go_upto_region 3 with fail
   have kk:xe [] wr wr.drew:=(xe.refl _ _).drew
   have kd:xe [P.p,P.a.s,P.a.k,P.a.m] wr wr.drew:=(xe.refl _ _).drew
   refine wp_region_held_drew (S:=fun w'=>w'.cell? ⟨x,0,none⟩=some (ptr P.a.d)/\w'.cell? ⟨x,1,none⟩=some (.int .i64 P.c.log)/\w'.cell? ⟨x,2,none⟩=some (.int .i64 P.c.roots)/\w'.cell? ⟨x,3,none⟩=some (.int .i64 P.c.space)/\w'.cell? ⟨x,7,none⟩=some (.int .i64 ((1-P.k:Nat):Int))/\w'.cell? ⟨x,8,none⟩=some (.int .i64 (U:Nat))/\w'.cell? ⟨x,9,none⟩=some (.slice none 0 0)) (by kernel_rfl) ?_ (fun hHeld0=>?_)
   ·(try dsimp only);(exact HX.out _ kd)
   refine' wpAnyH_take (i:=0) (oi:=_) (v:=_) ?hi501 (by kernel_rfl) (by kernel_rfl) (by kernel_rfl) ?hq501 (Or.inl ⟨?hw501,?hy501⟩) hHeld0 ?rest501
   case hi501=>(simp only[gA,gC];rfl)
   case hq501=>exact fun _ _ _ h=>h
   case hw501=>rfl
   case hy501=>(intro w hSw;(try dsimp only at hSw);go_simp;try (with_reducible rfl))
   (try simp only[Act.put,sA,sB,sC])
   refine' wpAnyH_take (i:=1) (oi:=_) (v:=_) ?hi502 (by kernel_rfl) (by kernel_rfl) (by kernel_rfl) ?hq502 (Or.inl ⟨?hw502,?hy502⟩) hHeld0 ?rest502
   case hi502=>(simp only[gA,gB,gC];rfl)
   case hq502=>exact fun _ _ _ h=>h
   case hw502=>rfl
   case hy502=>(intro w hSw;(try dsimp only at hSw);go_simp;try (with_reducible rfl))
   (try simp only[Act.put,sA,sB,sC])
   refine' wpAnyH_take (i:=2) (oi:=_) (v:=_) ?hi503 (by kernel_rfl) (by kernel_rfl) (by kernel_rfl) ?hq503 (Or.inl ⟨?hw503,?hy503⟩) hHeld0 ?rest503
   case hi503=>(simp only[gA,gB,gC];rfl)
   case hq503=>exact fun _ _ _ h=>h
   case hw503=>rfl
   case hy503=>(intro w hSw;(try dsimp only at hSw);go_simp;try (with_reducible rfl))
   (try simp only[Act.put,sA,sB,sC])
   refine' wpAnyH_take (i:=3) (oi:=_) (v:=_) ?hi504 (by kernel_rfl) (by kernel_rfl) (by kernel_rfl) ?hq504 (Or.inl ⟨?hw504,?hy504⟩) hHeld0 ?rest504
   case hi504=>(simp only[gA,gB,gC];rfl)
   case hq504=>exact fun _ _ _ h=>h
   case hw504=>rfl
   case hy504=>(intro w hSw;(try dsimp only at hSw);go_simp;try (with_reducible rfl))
   (try simp only[Act.put,sA,sB,sC])
   refine' wpAnyH_take (i:=4) (oi:=_) (v:=_) ?hi505 (by kernel_rfl) (by kernel_rfl) (by kernel_rfl) ?hq505 (Or.inl ⟨?hw505,?hy505⟩) hHeld0 ?rest505
   case hi505=>(simp only[gA,gB,gC];rfl)
   case hq505=>exact fun _ _ _ h=>h
   case hw505=>rfl
   case hy505=>(intro w hSw;(try dsimp only at hSw);go_simp;try (with_reducible rfl))
   (try simp only[Act.put,sA,sB,sC])
   refine' wpAnyH_take (i:=5) (oi:=_) (v:=_) ?hi506 (by kernel_rfl) (by kernel_rfl) (by kernel_rfl) ?hq506 (Or.inl ⟨?hw506,?hy506⟩) hHeld0 ?rest506
   case hi506=>(simp only[gA,gB,gC];rfl)
   case hq506=>exact fun _ _ _ h=>h
   case hw506=>rfl
   case hy506=>(intro w hSw;(try dsimp only at hSw);go_simp;try (with_reducible rfl))
   (try simp only[Act.put,sA,sB,sC])
   refine' wpAnyH_take (i:=6) (oi:=_) (v:=_) ?hi507 (by kernel_rfl) (by kernel_rfl) (by kernel_rfl) ?hq507 (Or.inl ⟨?hw507,?hy507⟩) hHeld0 ?rest507
   case hi507=>(simp only[gA,gB,gC];rfl)
   case hq507=>exact fun _ _ _ h=>h
   case hw507=>rfl
   case hy507=>(intro w hSw;(try dsimp only at hSw);go_simp;try (with_reducible rfl))
   (try simp only[Act.put,sA,sB,sC])
   refine' wpAnyH_take (i:=7) (oi:=_) (v:=_) ?hi508 (by kernel_rfl) (by kernel_rfl) (by kernel_rfl) ?hq508 (Or.inl ⟨?hw508,?hy508⟩) hHeld0 ?rest508
   case hi508=>(simp only[gA,gB,gC];rfl)
   case hq508=>exact fun _ _ _ h=>h
   case hw508=>rfl
   case hy508=>(intro w hSw;(try dsimp only at hSw);go_simp;try (with_reducible rfl))
   (try simp only[Act.put,sA,sB,sC])
   refine' wpAnyH_take (i:=8) (oi:=_) (v:=_) ?hi509 (by kernel_rfl) (by kernel_rfl) (by kernel_rfl) ?hq509 (Or.inl ⟨?hw509,?hy509⟩) hHeld0 ?rest509
   case hi509=>(simp only[gA,gB,gC];rfl)
   case hq509=>exact fun _ _ _ h=>h
   case hw509=>rfl
   case hy509=>(intro w hSw;(try dsimp only at hSw);go_simp;try (with_reducible rfl))
   (try simp only[Act.put,sA,sB,sC])
   refine' wpAnyH_take (i:=9) (oi:=_) (v:=_) ?hi510 (by kernel_rfl) (by kernel_rfl) (by kernel_rfl) ?hq510 (Or.inl ⟨?hw510,?hy510⟩) hHeld0 ?rest510
   case hi510=>(simp only[gA,gB,gC];rfl)
   case hq510=>exact fun _ _ _ h=>h
   case hw510=>rfl
   case hy510=>(intro w hSw;(try dsimp only at hSw);go_simp;try (with_reducible rfl))
   (try simp only[Act.put,sA,sB,sC])
   refine' wpAnyH_take (i:=10) (oi:=_) (v:=_) ?hi511 (by kernel_rfl) (by kernel_rfl) (by kernel_rfl) ?hq511 (Or.inl ⟨?hw511,?hy511⟩) hHeld0 ?rest511
   case hi511=>(simp only[gA,gB,gC];rfl)
   case hq511=>exact fun _ _ _ h=>h
   case hw511=>rfl
   case hy511=>(intro w hSw;(try dsimp only at hSw);go_simp;try (with_reducible rfl))
   (try simp only[Act.put,sA,sB,sC])
   refine' wpAnyH_take (i:=11) (oi:=_) (v:=_) ?hi512 (by kernel_rfl) (by kernel_rfl) (by kernel_rfl) ?hq512 (Or.inl ⟨?hw512,?hy512⟩) hHeld0 ?rest512
   case hi512=>(simp only[gA,gB,gC];rfl)
   case hq512=>exact fun _ _ _ h=>h
   case hw512=>rfl
   case hy512=>(intro w hSw;(try dsimp only at hSw);go_simp;try (with_reducible rfl))
   (try simp only[Act.put,sA,sB,sC])
   refine' wpAnyH_take (i:=12) (oi:=_) (v:=_) ?hi513 (by kernel_rfl) (by kernel_rfl) (by kernel_rfl) ?hq513 (Or.inl ⟨?hw513,?hy513⟩) hHeld0 ?rest513
   case hi513=>(simp only[gA,gB,gC];rfl)
   case hq513=>exact fun _ _ _ h=>h
   case hw513=>rfl
   case hy513=>(intro w hSw;(try dsimp only at hSw);go_simp;try (with_reducible rfl))
   (try simp only[Act.put,sA,sB,sC])
   refine wpAnyH_ready (rs:=[13]) (by kernel_rfl) (by simp) ?_
   refine' AllReadyH.cons (o:=_) ?ho515 (fun K hK=>?step515) ?more515
   case ho515=>(simp only[gA,gB,gC];rfl)
   case step515=>
    go_simp
    (go_at_call 156;refine(HPq.out _).mono ?_;rintro e w' ⟨rfl,hk9⟩;have kk:=kk.trans hk9;have kd:=kk.mono (S':=[P.p,P.a.s,P.a.k,P.a.m]) (by simp);clear hk9)
    (try go_wp2_with fail)
    refine hK.out _ _ ?_ (fun hHeld1=>?_)
    ·(try dsimp only);(exact HX.out _ kd)
    clear hK K hHeld0
    (try simp only[Act.put,sA,sB,sC])
    refine wpAnyH_ready (rs:=[14]) (by kernel_rfl) (by simp) ?_
    refine' AllReadyH.cons (o:=_) ?ho517 (fun K hK=>?step517) ?more517
    case ho517=>(simp only[gA,gB,gC];rfl)
    case step517=>
     go_simp
     (go_at_call 146;refine(HFL.out _ kk).mono ?_;rintro e w'' (⟨rfl,hx9⟩|⟨rfl,hx9⟩);rotate_left;exact And.intro rfl (Or.inr ⟨rfl,S2,hx9.out.1,HZN.out,HE.out.2.2.2.2.trans (kd.trans hx9.out.2)⟩);have kd:=kd.trans hx9.out.2)
     (try go_wp2_with fail)
     refine hK.out _ _ ?_ (fun hHeld2=>?_)
     ·(try dsimp only);(exact HX.out _ kd)
     clear hK K hHeld1
     (try simp only[Act.put,sA,sB,sC])
     refine wpAnyH_done (by kernel_rfl) ?_ _
     skip
     have HEN:Hid (Pw w'' P.p P.a l (u'+1) (xh S2 [.fl (F+q)])/\(FlP F S' (xh S2 [.fl (F+q)]) (t+1)/\Zon P S' (xh S2 [.fl (F+q)]))/\xe [P.p,P.a.s,P.a.k,P.a.m] w w''):=by
      have h1:=HE.out.2.2.2.1.next HFS.out.2.2.1
      rw[<-HE.out.2.1]at h1
      exact⟨hx9.out.1,⟨h1,HZN.out.fl _⟩,HE.out.2.2.2.2.trans kd⟩
     clear kd kk hx9 HFL HPq HX x0 x1 x2 x3 x7 x8 x9
     go_wp2_with fail
     go_roundg ((U+7)/8-(t+1))
     case measure=>(have:=HE.out;omega)
     case rel=>exact⟨t+1,q+8,u'+1,_,by have:=HE.out;omega,by have:=HE.out;omega,by go_num,HEN.out.1,by have:=HE.out;omega,HEN.out.2.1,HEN.out.2.2⟩
    exact AllReadyH.nil
   exact AllReadyH.nil
  ·have hqi:(U:Int)≤(q:Int):=by omega
   have hub2:u'<4611686018427387904:=by have:=HUB.out;omega
   have HFN:=hid (xec wr P.p P.a l u' S2 hP2 (by have:=HUB.out;omega))
   have HE:=hid (And.intro ht (And.intro hq (And.intro hu2 (And.intro hFl (And.intro hK hlt)))))
   clear ht hq hP2 hu2 hFl hK hfs hub2 hlt
   go_wp2_with fail
   refine HFN.out.mono ?_
   rintro e w2 (⟨rfl,hx9⟩|⟨rfl,hx9⟩)
   rotate_left
   ·exact And.intro rfl (Or.inr ⟨rfl,S2,hx9.out.1,HZN.out,HE.out.2.2.2.2.1.trans hx9.out.2⟩)
   have HEN:Hid (KpL P l out u S' w (.returned (.tuple #[])) w2):=by
    obtain⟨h1,h2,h3,h4,h5,h6⟩:=HE.out
    obtain⟨g1,g2⟩:=h4.fence
    refine⟨rfl,u'+1,_,hx9.out.1,HZN.out.fe,g1,fun j j1 j2=>g2 j ?_ ?_,?_,h5.trans hx9.out.2⟩
    ·have:=HUF.out;omega
    ·have:=HUF.out;omega
    ·have:=HFS.out;have:=HPS.out;omega
   clear hx9 HFN x0 x1 x2 x3 x7 x8 x9
   go_wp2_with fail
   go_end0
   exact .inl HEN.out
end Go.Proofs.YtcdhklgahepcaaaGreat
