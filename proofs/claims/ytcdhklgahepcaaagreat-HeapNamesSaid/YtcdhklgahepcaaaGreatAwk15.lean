import Derived.Test.YtcdhklgahepcaaaGreatCkl
import Derived.Test.YtcdhklgahepcaaaGreatClq
import Derived.Test.YtcdhklgahepcaaaGreatCkq
import Derived.Test.YtcdhklgahepcaaaGreatFlp
import Derived.Test.YtcdhklgahepcaaaGreatHpg
import Derived.Test.YtcdhklgahepcaaaGreatCct
import Derived.BigQuiet
import Derived.Test.YtcdhklgahepcaaaGreatAwk14
import Derived.Deep.RegionHeld3
set_option maxHeartbeats 8000000
set_option maxRecDepth 100000
namespace Go.Proofs.YtcdhklgahepcaaaGreat
open Go.RowKit Go.OpenShut
def StpL (l:Int) (S0:DS) (P:CP) (x mb B:Nat) (yr:Option Addr) (cr:Nat) (yl yq:Option Addr) (out:List Nat) (i n:Nat) (dn:Bool) (u d:Int) (w:World) (e:Ending) (w':World):Prop:=
 e=.returned (.bool dn)/\∃yl' cl' yq' cq' u' S',ClB P w' x mb B yr cr yl' cl' yq' cq' out i n dn/\Pw w' P.p P.a l u' S'/\Zon P S0 S'/\CpJ P.S S' P.c P.k P.us out n 0/\(dn=true->∀j,P.c.frm (1-P.k)≤j->j<P.c.frm (1-P.k)+szF P.S out->Fix S' j (S'.now j))/\u'≤u+d/\
  xe (clT x mb yr yl yq++ [P.p,P.a.s,P.a.k,P.a.m]) w w'/\(∀b∈blkL yl',b∈blkL yl)/\(∀b∈blkL yq',b∈blkL yq\/w.heap.size≤b)
theorem xdu (P:CP) (hP:P.Ok) (w:World) (x mb B:Nat) (yr:Option Addr) (cr:Nat) (yl:Option Addr) (cl:Nat) (yq:Option Addr) (cq:Nat) (out:List Nat) (i:Nat) (hC:ClB P w x mb B yr cr yl cl yq cq out i 0 false) (hA:Apart P (clT x mb yr yl yq))
  (l u:Int) (S':DS) (hPw:Pw w P.p P.a l u S') (hu:u≤700000000000) (hJ:CpJ P.S S' P.c P.k P.us out 0 0) (hi:i<P.ws.length) (hpre:P.Pre (seeW P.S P.c P.k P.us out (P.ws.getD i 0))):
  Calls Tryz.prog 94 #[ptr x] w (fun e w'=>StpL l S' P x mb B yr cr yl yq (seeW P.S P.c P.k P.us out (P.ws.getD i 0)) (i+1) 0 false u 65 w e w'\/CutC P l (clT x mb yr yl yq) S' w e w'):=by
 obtain⟨m,hm⟩:∃m,P.ws.length-i=m+1:=⟨P.ws.length-i-1,by omega⟩
 have hbox:=hC.box
 have hlf:=hC.lf
 rw[hm]at hbox hlf
 obtain⟨g,off,rfl,hgl,hgc⟩:∃g off,yl=some ⟨g,off,none⟩/\g<w.heap.size/\∀j,j<m+1->w.cell? ⟨g,off+j,none⟩=some (.int .u64 ((P.ws.getD (i+j) 0:Nat):Int)):=by
  rcases hlf with h|⟨b,o,h1,h2,h3⟩
  ·omega
  ·exact⟨b,o,h1,h2,h3⟩
 obtain⟨v,hv⟩:∃v,v=P.ws.getD i 0:=⟨_,rfl⟩
 have hvb:v<9223372036854775808:=by
  rw[hv,List.getD_eq_getElem?_getD,List.getElem?_eq_getElem hi]
  exact hP.ws _ (List.getElem_mem hi)
 rw[<-hv]at hpre⊢
 have c0:w.cell? ⟨g,off,none⟩=some (.int .u64 (v:Nat)):=by
  have:=hgc 0 (by omega)
  rw[Nat.add_zero,Nat.add_zero,<-hv]at this
  exact this
 have HBR:=hid (xbo P hP w x mb B yr cr _ cl yq cq out i 0 false hC hA l u S' hPw (by omega) 0 hJ (Nat.zero_le _) (fun _=>rfl) v hvb hpre)
 have e1:IntKind.i64.wrap (v:Int)=(v:Int):=IntWalk.i64_in _ (by omega)
 have t1:(0:Int)<((m+1:Nat):Int):=by omega
 have x13:=hbox.cell 13 rfl
 have x10:=hbox.cell 10 rfl
 have htl:=fun w=>QW w g off m cl
 obtain⟨y1,hy1⟩:∃y1,y1=(if cl=1 then some ⟨g,off,none⟩else some ⟨g,off+1,none⟩:Option Addr):=⟨_,rfl⟩
 simp only[<-hy1]at htl
 have HY:=hid (And.intro hy1 hm)
 have HXD:Hid (x∉[P.p,P.a.d,P.a.s,P.a.k,P.a.m]):=hA x (xk.2 (.inl rfl))
 clear hC hA hPw hu hJ hpre hi hv hvb hgc hgl hlf hbox hy1 hP
 go_enter Tryz.func94,Tryz.ntmps94
 go_wp2_with fail
 refine HBR.out.mono ?_
 rintro e w2 (⟨rfl,yq2,cq2,u2,S2,hC2,hP2,hZ2,hJ2,hu2,hk2,hg2⟩|⟨rfl,S2,h1,h2,h3⟩)
 rotate_left
 ·exact And.intro rfl (Or.inr ⟨rfl,S2,h1,h2,h3⟩)
 have hb2:=hC2.box
 rw[HY.out.2]at hb2
 have z10:=hb2.cell 10 rfl
 have f10:=hb2.free 10
 have hC3:=hC2.popW HY.out.2 HY.out.1
 have z13:=hC3.box.cell 13 rfl
 have k3:=(xe.refl [x] w2).set (p:=⟨x,10,none⟩) (.inl (by simp)) (.slice y1 m (cl-1))
 have HEN:Hid (StpL l S' P x mb B yr cr (some ⟨g,off,none⟩) yq (seeW P.S P.c P.k P.us out v) (i+1) 0 false u 65 w (.returned (.bool false)) (w2.setCell ⟨x,10,none⟩ (.slice y1 m (cl-1)))):=by
  refine⟨rfl,y1,cl-1,yq2,cq2,u2,S2,hC3,?_,hZ2,hJ2,(fun h=>by cases h),hu2,hk2.trans (k3.mono (by intro b _ hb;obtain rfl:=List.mem_singleton.1 hb;simp[clT])),fun b hb=>?_,fun b hb=>?_⟩
  ·have h0:∀b∈[P.p,P.a.d,P.a.s,P.a.k,P.a.m],b∉[x]:=fun b hb h=>HXD.out (by rwa[List.mem_singleton.1 h]at hb)
   exact hP2.keep k3 (h0 _ (by simp)) (h0 _ (by simp)) (h0 _ (by simp)) (h0 _ (by simp)) (h0 _ (by simp))
  ·rw[HY.out.1]at hb
   split at hb<;>simpa[blkL]using hb
  ·rcases hg2 with h|h
   ·rw[h]at hb;exact .inl hb
   ·exact .inr (h b hb)
 clear hC2 hP2 hZ2 hJ2 hu2 hk2 hg2 hb2 hC3 k3 c0 x13 x10
 go_wp2_with fail
 go_ret
 exact .inl HEN.out
theorem xdw (P:CP) (hP:P.Ok) (w:World) (x mb B:Nat) (yr:Option Addr) (cr:Nat) (yl:Option Addr) (cl:Nat) (yq:Option Addr) (cq:Nat) (out:List Nat) (i n:Nat) (hC:ClB P w x mb B yr cr yl cl yq cq out i n false) (hA:Apart P (clT x mb yr yl yq))
  (l u:Int) (S':DS) (hPw:Pw w P.p P.a l u S') (hu:u≤700000000000) (hJ:CpJ P.S S' P.c P.k P.us out n 0) (hi:P.ws.length=i) (Y:Nat) (hY:out[n]? =some Y) (hpre:P.Pre (seeL P.S P.c P.k P.us out (nmW P.S Y))) (hpr0:P.Pre out):
  Calls Tryz.prog 94 #[ptr x] w (fun e w'=>StpL l S' P x mb B yr cr yl yq (seeL P.S P.c P.k P.us out (nmW P.S Y)) i (n+1) false u 5000 w e w'\/CutC P l (clT x mb yr yl yq) S' w e w'):=by
 have hbox:=hC.box
 rw[hi,Nat.sub_self]at hbox
 obtain⟨nn,hnn⟩:∃nn,nn=hdN (P.S.now Y).toNat:=⟨_,rfl⟩
 obtain⟨rr,hrr⟩:∃rr,rr=hdR (P.S.now Y).toNat:=⟨_,rfl⟩
 obtain⟨PL,hpl⟩:∃PL,PL=wtC P.S P.c P.k P.LS Y:=⟨_,rfl⟩
 have hlt:=(List.getElem?_eq_some_iff.1 hY).1
 obtain⟨ql,hql⟩:∃ql,out.length-n=ql+1:=⟨out.length-n-1,by omega⟩
 have hqu:=hC.qu
 rw[ZY P hY]at hqu
 obtain⟨g,off,rfl,r0,r1,r2,q3,q4,_⟩:=hqu.front
 have q0:w.cell? ⟨g,off,none⟩=some (.int .i64 (nn:Nat)):=by rw[hnn];exact r0
 have q1:w.cell? ⟨g,off+1,none⟩=some (.int .i64 (rr:Nat)):=by rw[hrr];exact r1
 have q2:w.cell? ⟨g,off+2,none⟩=some (.int .i64 (PL:Nat)):=by rw[hpl];exact r2
 clear r0 r1 r2
 rw[hql]at hbox
 have HLK:=hid (xeS P hP w x mb B yr cr yl cl _ cq out i n false hC hA l u S' hPw hu hJ Y nn rr PL hY hnn hrr hpl hpre hpr0)
 have t1:(0:Int)<((ql+1:Nat):Int):=by omega
 have x13:=hbox.cell 13 rfl
 have x10:=hbox.cell 10 rfl
 have x12:=hbox.cell 12 rfl
 have HXD:Hid (x∉[P.p,P.a.d,P.a.s,P.a.k,P.a.m]):=hA x (xk.2 (.inl rfl))
 have hY2:=Jl (S:=P.S) (c:=P.c) (k:=P.k) (u:=P.us) (nmW P.S Y) hY
 have HY:=hid (And.intro hY2 (And.intro hi (And.intro hrr hpre)))
 clear hC hA hPw hu hJ hpre hpr0 hi hY hY2 hnn hrr hpl hlt hql hqu q3 q4 hbox hP
 go_enter Tryz.func94,Tryz.ntmps94
 go_wp2_with fail
 refine HLK.out.mono ?_
 rintro e w2 (⟨rfl,yq2,cq2,u2,S2,hC2,hP2,hZ2,hJ2,hu2,hk2,hg2⟩|⟨rfl,S2,h1,h2,h3⟩)
 rotate_left
 ·exact And.intro rfl (Or.inr ⟨rfl,S2,h1,h2,h3⟩)
 have hlt2:=(List.getElem?_eq_some_iff.1 HY.out.1).1
 obtain⟨q,hq⟩:∃q,(seeL P.S P.c P.k P.us out (nmW P.S Y)).length-n=q+1:=⟨(seeL P.S P.c P.k P.us out (nmW P.S Y)).length-n-1,by omega⟩
 have hqu2:=hC2.qu
 rw[ZY P HY.out.1]at hqu2
 obtain⟨g2,off2,rfl,_,_,_,q3,q4,_⟩:=hqu2.front
 have htl:=fun w=>QX w g2 off2 q cq2
 obtain⟨y1,hy1⟩:∃y1,y1=(if cq2=1 then some ⟨g2,off2,none⟩else some ⟨g2,off2+3,none⟩:Option Addr):=⟨_,rfl⟩
 simp only[<-hy1]at htl
 have hb2:=hC2.box
 rw[hq,HY.out.2.1,Nat.sub_self]at hb2
 have z12:=hb2.cell 12 rfl
 have f12:=hb2.free 12
 obtain⟨hC3,hbl⟩:=hC2.popQ HY.out.1 hq hy1
 have z13:=hC3.box.cell 13 rfl
 have k3:=(xe.refl [x] w2).set (p:=⟨x,12,none⟩) (.inl (by simp)) (.slice y1 q (cq2-1))
 have HEN:Hid (StpL l S' P x mb B yr cr yl (some ⟨g,off,none⟩) (seeL P.S P.c P.k P.us out (nmW P.S Y)) i (n+1) false u 5000 w (.returned (.bool false)) (w2.setCell ⟨x,12,none⟩ (.slice y1 q (cq2-1)))):=by
  refine⟨rfl,yl,cl,y1,cq2-1,u2,S2,hC3,?_,hZ2,hJ2.scan HY.out.1 (by rw[<-HY.out.2.2.1];exact Nat.le_refl _),(fun h=>by cases h),by omega,hk2.trans (k3.mono (by intro b _ hb;obtain rfl:=List.mem_singleton.1 hb;simp[clT])),fun b hb=>hb,fun b hb=>?_⟩
  ·have h0:∀b∈[P.p,P.a.d,P.a.s,P.a.k,P.a.m],b∉[x]:=fun b hb h=>HXD.out (by rwa[List.mem_singleton.1 h]at hb)
   exact hP2.keep k3 (h0 _ (by simp)) (h0 _ (by simp)) (h0 _ (by simp)) (h0 _ (by simp)) (h0 _ (by simp))
  ·rw[hbl]at hb
   exact hg2 b (by simpa[blkL]using hb)
 clear hC2 hP2 hZ2 hJ2 hu2 hk2 hg2 hb2 hC3 k3 q0 q1 q2 x13 x10 x12 hlt2 hq hqu2 q3 q4 hy1 hbl
 go_wp2_with fail
 go_ret
 exact .inl HEN.out
theorem xdv (P:CP) (hP:P.Ok) (w:World) (x mb B:Nat) (yr:Option Addr) (cr:Nat) (yl:Option Addr) (cl:Nat) (yq:Option Addr) (cq:Nat) (out:List Nat) (i n:Nat) (hC:ClB P w x mb B yr cr yl cl yq cq out i n false) (hA:Apart P (clT x mb yr yl yq))
  (l u:Int) (S':DS) (hPw:Pw w P.p P.a l u S') (hu:u≤700000000000) (hJ:CpJ P.S S' P.c P.k P.us out n 0) (hi:P.ws.length=i) (hn:out.length=n) (hpre:P.Pre out):
  Calls Tryz.prog 94 #[ptr x] w (fun e w'=>StpL l S' P x mb B yr cr yl yq out i n true u 600 w e w'\/CutC P l (clT x mb yr yl yq) S' w e w'):=by
 have hbox:=hC.box
 rw[hi,hn,Nat.sub_self,Nat.sub_self]at hbox
 have HKP:=hid (xee P hP w x mb B yr cr yl cl yq cq out i n false hC hA hpre l u S' hPw (by omega))
 have x13:=hbox.cell 13 rfl
 have x10:=hbox.cell 10 rfl
 have x12:=hbox.cell 12 rfl
 have HXD:Hid (x∉[P.p,P.a.d,P.a.s,P.a.k,P.a.m]):=hA x (xk.2 (.inl rfl))
 have HC:=hid hC
 have HJ:=hid hJ
 have HA:=hid hA
 clear hC hA hPw hu hJ hpre hi hn hbox hP
 go_enter Tryz.func94,Tryz.ntmps94
 go_wp2_with fail
 refine HKP.out.mono ?_
 rintro e w2 (⟨rfl,u2,S2,hP2,hZ2,hnow,hfix,hu2,hk2⟩|⟨rfl,S2,h1,h2,h3⟩)
 rotate_left
 ·exact And.intro rfl (Or.inr ⟨rfl,S2,h1,h2,h3.mono (by intro b _ hb;exact List.mem_append_right _ (by simpa using hb))⟩)
 have hC2:=HC.out.keep hk2 fun b hb h=>HA.out b hb (by simp only[List.mem_cons,List.not_mem_nil,or_false]at h⊢;rcases h with h|h|h|h<;>simp[h])
 have hC3:=hC2.dones
 have f13:=hC2.box.free 13
 have y13:=hC2.box.cell 13 rfl
 have z13:=hC3.box.cell 13 rfl
 have k3:=(xe.refl [x] w2).set (p:=⟨x,13,none⟩) (.inl (by simp)) (.bool true)
 have HEN:Hid (StpL l S' P x mb B yr cr yl yq out i n true u 600 w (.returned (.bool true)) (w2.setCell ⟨x,13,none⟩ (.bool true))):=by
  refine⟨rfl,yl,cl,yq,cq,u2,S2,hC3,?_,hZ2,HJ.out.now hnow,fun _ j h1 h2=>by rw[hnow];exact hfix j h1 h2,hu2,(hk2.mono (by intro b _ hb;exact List.mem_append_right _ hb)).trans (k3.mono (by intro b _ hb;obtain rfl:=List.mem_singleton.1 hb;simp[clT])),fun b hb=>hb,fun b hb=>.inl hb⟩
  have h0:∀b∈[P.p,P.a.d,P.a.s,P.a.k,P.a.m],b∉[x]:=fun b hb h=>HXD.out (by rwa[List.mem_singleton.1 h]at hb)
  exact hP2.keep k3 (h0 _ (by simp)) (h0 _ (by simp)) (h0 _ (by simp)) (h0 _ (by simp)) (h0 _ (by simp))
 clear hP2 hZ2 hnow hfix hu2 hk2 hC2 hC3 k3 x13 x10 x12
 go_wp2_with fail
 go_ret
 exact .inl HEN.out
open Go.RowKit Go.OpenShut
theorem ZC {P:CP} {w:World} {x:Nat} {T:List Nat} {i:Nat} {l u:Int} {S:DS} (hC:ColC P w x T i) (hPw:Pw w P.p P.a l u S) (hu:u≤600000000000) (hJ:P.at i S) (hA:∀b∈T,b∉[P.p,P.a.d,P.a.s,P.a.k,P.a.m]) (hi:i<P.N):
  Calls Tryz.prog 94 #[ptr x] w fun e w'=>(∃T' u' S',e=.returned (.bool (decide (i+1=P.N)))/\ColC P w' x T' (i+1)/\Pw w' P.p P.a l u' S'/\Zon P S S'/\P.at (i+1) S'/\(i+1=P.N->P.kp S')/\
   u'≤u+100000/\(∀b∈T',b∈T\/w.heap.size≤b)/\xe (T++ [P.p,P.a.s,P.a.k,P.a.m]) w w')\/CutC P l T S w e w':=by
 obtain⟨hP,mb,B,yr,cr,yl,cl,yq,cq,hB,rfl⟩:=hC
 have hN:P.N=P.ws.length+P.LS.length+1:=rfl
 have hd:decide (i=P.N)=false:=decide_eq_false (by omega)
 rw[hd]at hB
 have fin:∀ {out':List Nat} {n':Nat} {dn:Bool} {d:Int} {e:Ending} {w':World},StpL l S P x mb B yr cr yl yq out' (min (i+1) P.ws.length) n' dn u d w e w'\/CutC P l (clT x mb yr yl yq) S w e w'->out'=P.cs (i+1)->n'=min (i+1-P.ws.length) P.LS.length->dn=decide (i+1=P.N)->d≤100000->
   (∃T' u' S',e=.returned (.bool (decide (i+1=P.N)))/\ColC P w' x T' (i+1)/\Pw w' P.p P.a l u' S'/\Zon P S S'/\P.at (i+1) S'/\(i+1=P.N->P.kp S')/\u'≤u+100000/\(∀b∈T',b∈clT x mb yr yl yq\/w.heap.size≤b)/\xe (clT x mb yr yl yq++ [P.p,P.a.s,P.a.k,P.a.m]) w w')\/CutC P l (clT x mb yr yl yq) S w e w':=by
  intro out' n' dn d e w' h e1 e2 e3 e4
  subst e1
  subst e2
  subst e3
  rcases h with h|h
  rotate_left
  ·exact .inr h
  refine .inl ?_
  obtain⟨h1,yl',cl',yq',cq',u',S',h2,h3,hz3,h4,h5,h6,h7,h8,h9⟩:=h
  refine⟨clT x mb yr yl' yq',u',S',h1,⟨hP,mb,B,yr,cr,yl',cl',yq',cq',h2,rfl⟩,h3,hz3,h4,fun hN=>?_,by omega,fun b hb=>?_,h7⟩
  ·have h10:=h5 (decide_eq_true hN)
   rw[P.cs_end (by omega)]at h10
   exact h10
  ·rcases xk.1 hb with h|h|h|h|h
   ·exact .inl (xk.2 (.inl h))
   ·exact .inl (xk.2 (.inr (.inl h)))
   ·exact .inl (xk.2 (.inr (.inr (.inl h))))
   ·exact .inl (xk.2 (.inr (.inr (.inr (.inl (h8 b h))))))
   ·rcases h9 b h with h|h
    ·exact .inl (xk.2 (.inr (.inr (.inr (.inr h)))))
    ·exact .inr h
 unfold CP.at at hJ
 by_cases h1:i<P.ws.length
 ·have e0:min (i-P.ws.length) P.LS.length=0:=by omega
  have e1:min i P.ws.length=i:=by omega
  rw[e0]at hJ
  rw[e0,e1]at hB
  have hpr:=P.cs_pre (i+1)
  rw[P.cs_word h1]at hpr
  refine(xdu P hP w x mb B yr cr yl cl yq cq _ i hB hA l u S hPw (by omega) hJ h1 hpr).mono fun e w' h=>fin (d:=65) ?_ (P.cs_word h1).symm (n':=0) (by omega) (dn:=false) (decide_eq_false (by omega)).symm (by omega)
  rw[show min (i+1) P.ws.length=i+1 by omega]
  exact h
 ·obtain⟨n,rfl⟩:∃n,i=P.ws.length+n:=⟨i-P.ws.length,by omega⟩
  have e1:min (P.ws.length+n) P.ws.length=P.ws.length:=by omega
  have e2:P.ws.length+n-P.ws.length=n:=by omega
  by_cases h2:n<P.LS.length
  ·rw[e2,show min n P.LS.length=n by omega]at hJ hB
   rw[e1]at hB
   obtain⟨Y,hY1,hY2,hY3⟩:=P.cs_copy h2
   have hpr:=P.cs_pre (P.ws.length+n+1)
   rw[hY3]at hpr
   refine(xdw P hP w x mb B yr cr yl cl yq cq _ _ n hB hA l u S hPw (by omega) hJ rfl Y hY2 hpr (P.cs_pre _)).mono fun e w' h=>fin (d:=5000) ?_ hY3.symm (n':=n+1) (by omega) (dn:=false) (decide_eq_false (by omega)).symm (by omega)
   rw[show min (P.ws.length+n+1) P.ws.length=P.ws.length by omega]
   exact h
  ·obtain rfl:n=P.LS.length:=by omega
   rw[e2,Nat.min_self]at hJ hB
   rw[e1]at hB
   have hcs:P.cs (P.ws.length+P.LS.length)=P.LS:=P.cs_end (Nat.le_refl _)
   have hcs2:P.cs (P.ws.length+P.LS.length+1)=P.LS:=P.cs_end (by omega)
   have hpr:P.Pre P.LS:=⟨[],by rw[List.append_nil]⟩
   rw[hcs]at hJ hB
   refine(xdv P hP w x mb B yr cr yl cl yq cq _ _ _ hB hA l u S hPw (by omega) hJ rfl rfl hpr).mono fun e w' h=>fin (d:=600) ?_ hcs2.symm (n':=P.LS.length) (by omega) (dn:=true) (decide_eq_true (by omega)).symm (by omega)
   rw[show min (P.ws.length+P.LS.length+1) P.ws.length=P.ws.length by omega]
   exact h
theorem Vt {P:CP} {w:World} {x:Nat} {T:List Nat} {i:Nat} {l u:Int} {S:DS} (hC:ColC P w x T i) (hPw:Pw w P.p P.a l u S) (hu:u≤500000000000) (hJ:P.at i S) (hA:∀b∈T,b∉[P.p,P.a.d,P.a.s,P.a.k,P.a.m]) (hi:i<P.N):
  Calls Tryz.prog 169 #[ptr x] w fun e w'=>(∃T' u' S',e=.returned (.tuple #[])/\ColC P w' x T' P.N/\Pw w' P.p P.a l u' S'/\Zon P S S'/\P.at P.N S'/\P.kp S'/\
   u'≤u+1000000000/\(∀b∈T',b∈T\/w.heap.size≤b)/\xe (T++ [P.p,P.a.s,P.a.k,P.a.m]) w w')\/CutC P l T S w e w':=by
 have hdl:∀b∈[P.p,P.a.d,P.a.s,P.a.k,P.a.m],b<w.heap.size:=fun b hb=>by
  have h1:=hPw.pow.lt
  have h2:=hPw.dev.dev.lt
  have h3:=hPw.dev.now.lt
  have h4:=hPw.dev.kept.lt
  have h5:=hPw.dev.map.lt
  simp only[List.mem_cons,List.not_mem_nil,or_false]at hb
  omega
 have hN:P.N≤5200:=by
  have h1:=hC.1.few
  have h2:=P.len
  have h3:=hC.1.us
  have h4:=hC.1.c.small.2.2
  show P.ws.length+P.LS.length+1≤5200
  omega
 have HDL:=hid hdl
 have HA:=hid hA
 have HNN:=hid hN
 have H0:=hid (And.intro hC (And.intro hPw (And.intro hJ hi)))
 have HUB:=hid hu
 clear hC hPw hu hJ hA hi hdl hN
 go_enter Tryz.func169,Tryz.ntmps169
 go_wp2_with fail
 go_loopg [] (P.N-i) (fun rr wr=>∃(j:Nat) (T1:List Nat) (u1:Int) (S1:DS),j+rr=P.N∧i≤j∧j<P.N∧ColC P wr x T1 j∧Pw wr P.p P.a l u1 S1∧(P.at j S1∧Zon P S S1)∧u1≤u+100000*((j:Int)-(i:Int))∧(∀b∈T1,b∈T∨w.heap.size≤b)∧xe (T++ [P.p,P.a.s,P.a.k,P.a.m]) w wr)
 case atStart=>exact⟨i,T,u,S,by have:=H0.out.2.2.2;omega,Nat.le_refl _,H0.out.2.2.2,H0.out.1,H0.out.2.1,⟨H0.out.2.2.1,Zon.refl _ _⟩,by omega,fun b hb=>.inl hb,xe.refl _ _⟩
 case round=>
  obtain⟨j,T1,u1,S1,hj,hij,hjN,hC1,hP1,⟨hJ1,hZ1⟩,hu1,hT1,hK1⟩:=hrel
  have HZ1:=hid hZ1
  clear hZ1
  have hA1:∀b∈T1,b∉[P.p,P.a.d,P.a.s,P.a.k,P.a.m]:=fun b hb hm=>by
   rcases hT1 b hb with h|h
   ·exact HA.out b h hm
   ·have:=HDL.out b hm;omega
  have HST:=hid (ZC hC1 hP1 (by have:=HUB.out;have:=HNN.out;omega) hJ1 hA1 hjN)
  have HE:=hid (And.intro hj (And.intro hij (And.intro hjN (And.intro hu1 (And.intro hT1 hK1)))))
  clear hj hij hjN hC1 hP1 hJ1 hu1 hT1 hK1 hA1
  go_wp2_with fail
  refine HST.out.mono ?_
  rintro e w2 hst
  have hnew:xe (T1++ [P.p,P.a.s,P.a.k,P.a.m]) wr w2->xe (T++ [P.p,P.a.s,P.a.k,P.a.m]) w w2:=fun hK2=>HE.out.2.2.2.2.2.new hK2 fun b hb=>by
   rcases List.mem_append.1 hb with hb|hb
   ·rcases HE.out.2.2.2.2.1 b hb with h|h
    ·exact .inl (List.mem_append_left _ h)
    ·exact .inr h
   ·exact .inl (List.mem_append_right _ hb)
  rcases hst with⟨T2,u2,S2,rfl,hC2,hP2,hZ2,hJ2,hk2,hu2,hT2,hK2⟩|⟨rfl,S2,h1,h2,h3⟩
  rotate_left
  ·exact And.intro rfl (Or.inr ⟨rfl,S2,h1,HZ1.out.trans h2,hnew h3⟩)
  have hKK:=hnew hK2
  clear hnew
  have HZ2:=hid (HZ1.out.trans hZ2)
  clear hZ2
  have hTT:∀b∈T2,b∈T\/w.heap.size≤b:=fun b hb=>by
   rcases hT2 b hb with h|h
   ·exact HE.out.2.2.2.2.1 b h
   ·exact .inr (Nat.le_trans HE.out.2.2.2.2.2.size h)
  have HR:=hid (And.intro hC2 (And.intro hP2 (And.intro hJ2 (And.intro hk2 (And.intro hu2 (And.intro hKK hTT))))))
  clear hC2 hP2 hJ2 hk2 hu2 hT2 hK2 hKK hTT HST
  by_cases hend:j+1=P.N
  ·obtain⟨dn,hdn⟩:∃dn,dn=decide (j+1=P.N):=⟨_,rfl⟩
   rw[<-hdn]
   obtain rfl:dn=true:=by rw[hdn];exact decide_eq_true hend
   have HEN:=hid hend
   clear hdn hend
   go_wp2_with fail
   go_end0
   have he:=HEN.out
   obtain⟨h1,h2,h3,h4,h5,h6,h7⟩:=HR.out
   rw[he]at h1 h3
   exact .inl ⟨T2,u2,S2,rfl,h1,h2,HZ2.out,h3,h4 he,by have:=HE.out;have:=HNN.out;omega,h7,h6⟩
  ·obtain⟨dn,hdn⟩:∃dn,dn=decide (j+1=P.N):=⟨_,rfl⟩
   rw[<-hdn]
   obtain rfl:dn=false:=by rw[hdn];exact decide_eq_false hend
   have HEN:=hid hend
   clear hdn hend
   go_wp2_with fail
   go_roundg (P.N-(j+1))
   case measure=>(have:=HE.out;omega)
   case rel=>
    obtain⟨h1,h2,h3,h4,h5,h6,h7⟩:=HR.out
    exact⟨j+1,T2,u2,S2,by have:=HE.out;have:=HEN.out;omega,by have:=HE.out;omega,by have:=HE.out;have:=HEN.out;omega,h1,h2,⟨h3,HZ2.out⟩,by have:=HE.out;omega,h7,h6⟩
open Go.RowKit Go.OpenShut
theorem CutC.none {P:CP} {T:List Nat} {S:DS} {w:World} {e:Ending} {w':World} (h:CutC P (-1) T S w e w'):False:=by
 obtain⟨_,S',h1,_⟩:=h
 have:=h1.lo
 omega
theorem zC {P:CP} {w w':World} {x:Nat} {T R:List Nat} {i:Nat} (h:ColC P w x T i) (hk:xe R w w') (hR:∀b∈T,b∉R):ColC P w' x T i:=by
 obtain⟨hP,mb,B,yr,cr,yl,cl,yq,cq,hB,rfl⟩:=h
 exact⟨hP,mb,B,yr,cr,yl,cl,yq,cq,hB.keep hk hR,rfl⟩
theorem xbk {P:CP} {w:World} {x:Nat} {T:List Nat} {i:Nat} (h:ColC P w x T i):∀b∈T,b<w.heap.size:=by
 obtain⟨hP,mb,B,yr,cr,yl,cl,yq,cq,hB,rfl⟩:=h
 exact hB.below
theorem Y3:ColK ColC where
 keep:=fun h hk hR=>zC h hk hR
 lt:=fun h=>xbk h
 new:=by
  intro P w hP _ yr cr hr yw cw hw
  refine(xed P hP w yr cr hr yw cw hw).mono ?_
  rintro e w' ⟨x,mb,B,yr',cr',yl,cl,rfl,hB,hT,hk⟩
  refine⟨x,_,rfl,⟨hP,mb,B,yr',cr',yl,cl,none,0,?_,rfl⟩,hT,hk⟩
  have e0:P.cs 0= []:=by unfold CP.cs;rw[if_pos (by omega)];rfl
  have e1:decide (0=P.N)=false:=decide_eq_false (by have:P.N=P.ws.length+P.LS.length+1:=rfl;omega)
  rw[e0,e1,Nat.zero_min,Nat.zero_sub,Nat.zero_min]
  exact hB
 step:=by
  intro P w x T i u S hC hPw hu hJ hA hi
  refine(ZC hC hPw hu hJ hA hi).mono ?_
  rintro e w' (⟨T',u',S',h1,h2,h3,_,h4,h5,h6,h7,h8⟩|h)
  ·exact⟨T',u',S',h1,h2,h3,h4,h5,h6,h7,h8⟩
  ·exact h.none.elim
 more:=by
  rintro P w x T ⟨hP,mb,B,yr,cr,yl,cl,yq,cq,hB,rfl⟩
  rw[decide_eq_true rfl]at hB
  refine(xbQ P w x mb B yr cr yl cl yq cq _ _ _ hB).mono ?_
  rintro e w' ⟨rfl,rfl⟩
  exact⟨rfl,xe.refl _ _⟩
 run:=by
  intro P w x T i u S hC hPw hu hJ hA hi
  refine(Vt hC hPw hu hJ hA hi).mono ?_
  rintro e w' (⟨T',u',S',h1,h2,h3,_,h4,h5,h6,h7,h8⟩|h)
  ·exact⟨T',u',S',h1,h2,h3,h4,h5,h6,h7,h8⟩
  ·exact h.none.elim
 went:=by
  rintro P w x T i ⟨hP,mb,B,yr,cr,yl,cl,yq,cq,hB,rfl⟩ v hv
  refine(J2 P w x mb B yr cr yl cl yq cq _ _ _ _ hB (P.cs_pre i) v hv).mono ?_
  rintro e w' ⟨rfl,rfl⟩
  exact⟨rfl,xe.refl _ _⟩
 block:=by
  rintro P w x T i ⟨hP,mb,B,yr,cr,yl,cl,yq,cq,hB,rfl⟩
  exact xbn P hP w x mb B yr cr yl cl yq cq _ _ _ _ hB (P.cs_pre i)
open Go.RowKit Go.OpenShut
def Zn (c:Cfg) (k j:Nat):Prop:=c.frm (1-k)≤j/\j<c.frm (1-k)+c.space
def nwR (S:DS) (c:Cfg) (k:Nat) (LS rs:List Nat) (j:Nat):Int:=((wtC S c k LS (rs.getD j 0):Nat):Int)
def CltD (P:CP) (l u:Int) (S:DS) (q:Sc) (r:Nat) (w:World) (e:Ending) (w':World):Prop:=
 ∃x T u' S1 S' r',e=.returned (.tuple #[ptr x,.int .i64 0])/\ColC P w' x T P.N/\(∀b∈T,w.heap.size≤b)/\Cpd P.S S1 P.c P.k P.LS/\VD P.p P.a l u' S' q P.c r' w'/\r'≤r+1/\
  (∀j,P.c.act≤j->j<P.a.n->S'.now j=blkF P.c (1-P.k) (szF P.S P.LS) (nwR P.S P.c P.k P.LS P.rs) S1.now j)/\P8 S S'/\u'≤u+2000000000/\xe (q.bl P.p P.a) w w'
def CltX (P:CP) (l:Int) (S:DS) (q:Sc) (r:Nat) (w:World) (e:Ending) (w':World):Prop:=
 e=.panicked [{ v:=xP,recovered:=false }]/\∃S',Pw w' P.p P.a l l S'/\xe (q.bl P.p P.a) w w'/\P8 S S'/\(∀ch:Nat->Int,∃r' m pl wd K,r'≤r+1/\LI P.c P.a.n 1 r' m pl wd K (xz S' ch)/\
  ((∀j,P.c.act≤j->j<P.a.n->¬Zn P.c P.k j->Fix S j (S.now j)->K j=S.now j)\/∃S1,Cpd P.S S1 P.c P.k P.LS/\∀j,P.c.act≤j->j<P.a.n->K j=blkF P.c (1-P.k) (szF P.S P.LS) (nwR P.S P.c P.k P.LS P.rs) S1.now j))
def CltP (p:Nat) (a:DA) (l u:Int) (S:DS) (q:Sc) (c:Cfg) (r k us:Nat) (rs ws:List Nat) (w:World) (e:Ending) (w':World):Prop:=
 ∃P:CP,P.Ok/\P.p=p/\P.a=a/\P.S.now=S.now/\P.c=c/\P.k=k/\P.us=us/\P.ws=rs++ws/\P.rs=rs/\(CltD P l u S q r w e w'\/CltX P l S q r w e w')
theorem J5 {P:CP} {l:Int} {S:DS} {q:Sc} {r:Nat} {w:World} {w':World} {S':DS} {pl:Nat->Nat} {wd:Nat->Int} (hLR:LR P.c P.a.n 1 r 0 pl wd S) (hP:Pw w' P.p P.a l l S') (hk:xe (q.bl P.p P.a) w w') (hfr:P.c.act≤P.c.frm (1-P.k))
  (hz:∀j,¬Zn P.c P.k j->Pre S S' j):CltX P l S q r w (.panicked [{ v:=xP,recovered:=false }]) w':=by
 refine⟨rfl,S',hP,hk,fun j hj=>hz j (fun h=>by have:=Y8 P.c;unfold Zn at h;omega),fun ch=>⟨r,0,pl,wd,(xz S' ch).now,by omega,⟨?_,fun j h1 h2=>.inr ⟨fun i hi=>absurd hi (Nat.not_lt_zero _),⟨rfl,rfl,fun h=>by cases h⟩⟩⟩,.inl fun j h1 h2 h3 hfix=>?_⟩⟩
 ·have hact:16+4*P.c.log≤P.c.act:=(xD (16+4*P.c.log)).1
  have hp:∀j,j<P.c.act->Pre S (xz S' ch) j:=fun j hj=>(hz j (fun h=>by unfold Zn at h;omega)).trans (xL _ _ _)
  exact hLR.pre (hp 8 (by omega)) (fun i hi=>absurd hi (Nat.not_lt_zero _)) fun i _ hi=>hp _ (by omega)
 ·exact(((hz j h3).trans (xL _ _ _)) _ hfix).1
theorem X3 (w:World) (p:Nat) (a:DA) (l u:Int) (S:DS) (q:Sc) (c:Cfg) (r k us:Nat) (rs ws:List Nat) (os:List (Nat×Nat)) (y:Option Addr) (cy B:Nat)
  (hG:yH p a l u S q c r w) (hH:HepS S c a.n k us rs os) (hP:CP.Ok ⟨p,a,S,c,k,us,rs++ws,rs⟩) (hy:OwnU w B y cy ws.length (fun j=>((ws.getD j 0:Nat):Int))) (hyb:∀b∈blkL y,b∉a.d::q.bl p a) (hu:u≤400000000000) (hr:r<4294967290):
  Calls Tryz.prog 96 #[ptr a.d,cfgV c,ptr q.b,.slice y ws.length cy] w (CltP p a l u S q c r k us rs ws w):=by
 have HG:=hid hG
 have HH:=hid hH
 have HP:=hid hP
 have HY:=hid (And.intro hy hyb)
 have HU:=hid (And.intro hu hr)
 have HLT:=hid hG.lts
 have hc:c.Ok:=hP.c
 have hcn:c.words=a.n:=hP.n
 have HC:=hid (And.intro hc hcn)
 have husc:us≤c.space:=hH.us
 have husi:(us:Int)≤4096:=by have:=hc.small.2.2;omega
 have hki:(k:Int)≤1:=by have:=hH.k1;omega
 have hrl:=hH.rl
 have HRL:=hid hrl
 clear hG hH hP hy hyb hu hr hc hcn husc hrl
 go_enter Tryz.func96,Tryz.ntmps96
 go_wp2_with fail
 have hC0:=At.new w (cfgO c)
 have K0:=(xe.refl [] w).alloc (cfgO c)
 obtain⟨cb,hcb⟩:∃q,q=w.heap.size:=⟨_,rfl⟩
 obtain⟨w0,hw0⟩:∃w0,w0=w.alloc (cfgO c):=⟨_,rfl⟩
 rw[<-hcb]
 rw[<-hcb]at hC0
 rw[<-hw0]at hC0 K0⊢
 have HK0:=hid K0
 have HC0:=hid hC0
 have HCB:Hid (∀b∈a.d::q.bl p a,b≠cb):=fun b hb=>by have:=HLT.out b hb;omega
 have HCW:Hid (w.heap.size≤cb):=Nat.le_of_eq hcb.symm
 clear hw0 hcb hC0 K0
 have c0:=HC0.out.cell 0 rfl
 have c1:=HC0.out.cell 1 rfl
 have c2:=HC0.out.cell 2 rfl
 refine(yH.sopen (HG.out.keep0 HK0.out)).mono ?_
 rintro e w1 ⟨rfl,rfl⟩
 have HRD:=hid (zI w0 p a S c (HG.out.keep0 HK0.out).pw.dev HC.out.1 HC.out.2 (by rw[HH.out.act];omega) (by rw[HH.out.used];omega))
 go_wp2_with fail
 refine HRD.out.mono ?_
 rintro e w1 (⟨h9,rfl,hk9⟩|⟨k1,u1,x,cp,hk1,hu1,hA1,hU1,rfl,hO1,hk01⟩)
 ·rw[HH.out.act,HH.out.used]at h9
  have:=HH.out.us
  have:=HH.out.k1
  omega
 obtain rfl:k1=k:=by have:=HH.out.act;omega
 obtain rfl:u1=us:=by have:=HH.out.used;omega
 have HO1:=hid (hO1.eq (g:=fun j=>((rs.getD j 0:Nat):Int)) fun j hj=>HH.out.root j hj)
 have HK1:=hid (HK0.out.trans hk01)
 have HC1:=hid (hk01.at HC0.out (by simp))
 clear hO1 hk01 hk1 hu1 hA1 hU1 HRD c0 c1 c2
 go_upto_region 4 with fail
 have hB2:=At.new w1 (bkO (k1:Nat) (u1:Nat) (.slice x c.roots cp))
 have k12:=(xe.refl [] w1).alloc (bkO (k1:Nat) (u1:Nat) (.slice x c.roots cp))
 obtain⟨bb,hbb⟩:∃q,q=w1.heap.size:=⟨_,rfl⟩
 obtain⟨w2,hw2⟩:∃w2,w2=w1.alloc (bkO (k1:Nat) (u1:Nat) (.slice x c.roots cp)):=⟨_,rfl⟩
 rw[<-hbb]
 rw[<-hbb]at hB2
 rw[<-hw2]at hB2 k12⊢
 have HK2:=hid (HK1.out.trans k12)
 have HBX:Hid (∀b∈a.d::q.bl p a,b≠bb):=fun b hb=>by
  have h1:=HLT.out b hb
  have h2:=HK1.out.size
  omega
 have HBW:Hid (w.heap.size≤bb):=by show _≤_;rw[hbb];exact HK1.out.size
 have HC2:=hid (k12.at HC1.out (by simp))
 have HB2:=hid hB2
 have HO2:=hid (HO1.out.keep k12 (by simp))
 have HY2:=hid (HY.out.1.keep HK2.out (by simp))
 clear hw2 hbb hB2 k12
 have b2:=HB2.out.cell 2 rfl
 obtain⟨M,hM⟩:∃M,M=ws.length:=⟨_,rfl⟩
 have HM:=hid hM
 rw[<-hM]at HY HY2⊢
 have hrm:c.roots+M≤1000:=by
  have h1:(rs++ws).length≤1000:=HP.out.few
  have h2:=HM.out
  have h3:=HRL.out
  rw[List.length_append]at h1
  omega
 have HRM:=hid hrm
 have hmi:(M:Int)≤1000:=by omega
 have hri:(c.roots:Int)≤16:=by have:=HC.out.1.2.1;omega
 clear hM hrm
 go_wp2_with fail
 have hA3:=At.new w2 (.cells #[.slice x c.roots cp,.slice y M cy] 60)
 have k23:=(xe.refl [] w2).alloc (.cells #[.slice x c.roots cp,.slice y M cy] 60)
 obtain⟨w3,hw3⟩:∃w3,w3=w2.alloc (.cells #[.slice x c.roots cp,.slice y M cy] 60):=⟨_,rfl⟩
 rw[<-hw3]at hA3 k23⊢
 refine(Y2 w3 w2.heap.size x y c.roots M cp cy _ B _ _ hA3 (HO2.out.keep k23 (by simp)) (HY2.out.keep k23 (by simp)) HC.out.1.1 HRM.out).mono ?_
 rintro e w4 ⟨xn,cn,rfl,hO4,hk4⟩
 have HK24:=hid (k23.trans hk4)
 have HK4:=hid (HK2.out.trans (k23.trans hk4))
 have HO4:Hid (OwnU w4 w3.heap.size xn cn (c.roots+M) (fun j=>(((rs++ws).getD j 0:Nat):Int))):=hO4.eq fun j hj=>by
  by_cases h:j<c.roots
  ·rw[if_pos h,List.getD_eq_getElem?_getD,List.getD_eq_getElem?_getD,List.getElem?_append_left (by rw[HRL.out];exact h)]
  ·rw[if_neg h,List.getD_eq_getElem?_getD,List.getD_eq_getElem?_getD,List.getElem?_append_right (by rw[HRL.out];omega),HRL.out]
 have HN4:Hid (w.heap.size≤w3.heap.size):=(HK2.out.trans k23).size
 clear hA3 k23 hw3 hO4 hk4 b2
 have HC4:=hid (HK24.out.at HC2.out (by simp))
 have HB4:=hid (HK24.out.at HB2.out (by simp))
 have HOX4:=hid (HO2.out.keep HK24.out (by simp))
 go_upto_region 7 with fail
 obtain⟨fs,ts,hsb⟩:=(HG.out.keep0 HK4.out).len.1
 have s0:=hsb.cell 0 rfl
 have HLN:=hid (fun n:Nat=>(yH.len (HG.out.keep0 (HK4.out.drewN n))).2.mono (R':=fun e w''=>e=.returned (.int .i64 (0:Nat))/\w''=w4.drewN n) fun _ _ h=>⟨h.1,h.2.symm⟩)
 clear hsb
 go_quiet ((go_at_call 83;(with_reducible exact Calls.quiet_of_same (HLN.out _))))
 have k45:=(xe.refl [] w4).drewN nq
 obtain⟨w5,hw5⟩:∃w5,w5=w4.drewN nq:=⟨_,rfl⟩
 rw[<-hw5]at k45⊢
 have HK5:=hid (HK4.out.trans k45)
 have HC5:=hid (k45.at HC4.out (by simp))
 have HB5:=hid (k45.at HB4.out (by simp))
 have HO5:=hid (HO4.out.keep k45 (by simp))
 have HX5:=hid (HOX4.out.keep k45 (by simp))
 have HG5:=hid (HG.out.keep0 HK5.out)
 clear hw5 k45 s0 HLN
 have hci:=c_in HC.out.1 HC.out.2
 have HCI:=hid hci
 have HKP:=hid (qL w5 p a l u S HG5.out.pw ⟨by have:=HU.out;omega,by have:=a.n8;omega⟩)
 clear hci
 go_wp2_with fail
 refine HKP.out.mono ?_
 have hLR:∃pl wd,LR c a.n 1 r 0 pl wd S:=by
  obtain⟨_,_,_,_,_,pl,wd,_,h,_⟩:=HG.out
  exact⟨pl,wd,h⟩
 obtain⟨pl0,wd0,hLR⟩:=hLR
 have HLR:=hid hLR
 clear hLR
 have hbl:∀(w' w'':World) (T:List Nat),xe [] w w'->xe (T++ [p,a.s,a.k,a.m]) w' w''->(∀b∈T,w.heap.size≤b)->xe (q.bl p a) w w'':=fun w' w'' T h1 h2 h3=>(h1.mono (by simp)).new h2 fun b hb=>by
  rcases List.mem_append.1 hb with h|h
  ·exact .inr (h3 b h)
  ·left
   unfold Sc.bl
   simp only[List.mem_cons,List.not_mem_nil,or_false]at h⊢
   rcases h with h|h|h|h<;>simp[h]
 have HBL:=hid hbl
 clear hbl
 have hfa:c.act≤c.frm (1-k1):=by have:=@xK c (1-k1);omega
 have HFA:=hid hfa
 clear hfa
 rintro e w6 (⟨rfl,hP6,hk6⟩|⟨rfl,⟨S6,hc6,hP6⟩,hk6⟩)
 rotate_left
 ·refine⟨rfl,⟨p,a,S,c,k1,u1,rs++ws,rs⟩,HP.out,rfl,rfl,rfl,rfl,rfl,rfl,rfl,rfl,.inr (J5 HLR.out hP6 (HBL.out _ _ [] HK5.out hk6 (by simp)) HFA.out fun j _=>?_)⟩
  exact yD (fun y hy=>Xt hy j) hc6
 obtain⟨S2,hS2⟩:∃S2,S2=xh S (ym a.L):=⟨_,rfl⟩
 have hn2:S2.now=S.now:=by rw[hS2];exact Ve S a.L
 have hf2:∀j,j<a.n->Fix S2 j (S2.now j):=fun j hj=>by
  rw[hn2,hS2]
  exact Vf S a.L (by have:=a.n8;omega)
 have hp2:∀j,Pre S S2 j:=fun j=>by rw[hS2];exact xy fun y hy=>Xt hy j
 rw[<-hS2]at hP6
 obtain⟨u6,hu6⟩:∃u6,u6=u+((ym a.L).length:Int):=⟨_,rfl⟩
 have hu6b:u6≤u+10000:=by
  rw[hu6,zy]
  have:=HCI.out
  have:=a.n8
  omega
 rw[<-hu6]at hP6
 have hG6:yH p a l u6 S2 q c r w6:=HG5.out.next (T:=[]) hP6 hk6 (by simp) fun j _=>hp2 j
 obtain⟨P,hPq⟩:∃P:CP,P=⟨p,a,S2,c,k1,u1,rs++ws,rs⟩:=⟨_,rfl⟩
 have hPok:P.Ok:=by rw[hPq];exact HP.out.same (T:=S2) rfl fun j _=>congrFun hn2 j
 have hPf:P.p=p/\P.a=a/\P.S=S2/\P.c=c/\P.k=k1/\P.us=u1/\P.ws=rs++ws/\P.rs=rs/\P.ws.length=c.roots+M/\P.rs.length=c.roots:=by
  rw[hPq]
  refine⟨rfl,rfl,rfl,rfl,rfl,rfl,rfl,rfl,?_,HRL.out⟩
  show(rs++ws).length=_
  rw[List.length_append,HRL.out,HM.out]
 have HPF:=hid hPf
 have HPOK:=hid hPok
 have H2:=hid (And.intro hn2 (And.intro hf2 (And.intro hp2 hu6b)))
 have HG6:=hid hG6
 have HK56:=hid hk6
 have hnb:∀b,w.heap.size≤b->b∉[p,a.s,a.k,a.m]:=fun b hb h=>by
  have:=HLT.out b (by unfold Sc.bl;simp only[List.mem_cons,List.not_mem_nil,or_false]at h⊢;rcases h with h|h|h|h<;>simp[h])
  omega
 have HNB:=hid hnb
 have HC6:=hid (hk6.at HC5.out (hnb _ HCW.out))
 have HB6:=hid (hk6.at HB5.out (hnb _ HBW.out))
 have HO6:=hid (HO5.out.keep hk6 fun b hb=>hnb b (Nat.le_trans HN4.out (HO5.out.ge b hb).1))
 have HX6:=hid (HX5.out.keep hk6 fun b hb=>hnb b (Nat.le_trans HK0.out.size (HX5.out.ge b hb).1))
 clear hP6 hk6 hS2 hn2 hf2 hp2 hu6 hu6b hG6 hPq hPok hPf hnb HKP
 have hnew:=Y3.new P w6 HPOK.out (by rw[HPF.out.1,HPF.out.2.1,HPF.out.2.2.1];exact HG6.out.pw.dev) x cp (by rw[HPF.out.2.2.2.2.2.2.2.2.2,HPF.out.2.2.2.2.2.2.2.1];exact HX6.out.rd) xn cn (by rw[HPF.out.2.2.2.2.2.2.2.2.1,HPF.out.2.2.2.2.2.2.1];exact HO6.out.rd)
 rw[HPF.out.2.1,HPF.out.2.2.2.1,HPF.out.2.2.2.2.1,HPF.out.2.2.2.2.2.1,HPF.out.2.2.2.2.2.2.2.2.1,HPF.out.2.2.2.2.2.2.2.2.2]at hnew
 have HNW:Hid (Calls Tryz.prog 93 #[ptr a.d,cfgV c,bkV k1 u1 (.slice x c.roots cp),.slice xn (c.roots+M) cn] w6 fun e w''=>∃xq T,e=.returned (ptr xq)/\ColC P w'' xq T 0/\(∀b∈T,w6.heap.size≤b)/\xe [] w6 w''):=hnew
 have c0:=HC6.out.cell 0 rfl
 have c1:=HC6.out.cell 1 rfl
 have c2:=HC6.out.cell 2 rfl
 have b0:=HB6.out.cell 0 rfl
 have b1:=HB6.out.cell 1 rfl
 have b2:=HB6.out.cell 2 rfl
 clear hnew
 go_wp2_with fail
 refine HNW.out.mono ?_
 rintro e w7 ⟨yb,Ty,rfl,hCy,hTy,k67⟩
 have HCY:=hid hCy
 have HTY:Hid (∀b∈Ty,w.heap.size≤b/\b∉[P.p,P.a.d,P.a.s,P.a.k,P.a.m]):=fun b hb=>by
  have h1:=hTy b hb
  have h2:=HK5.out.size
  have h3:=HK56.out.size
  refine⟨by omega,fun h=>?_⟩
  rw[HPF.out.1,HPF.out.2.1]at h
  have h4:=HLT.out b (by unfold Sc.bl;simp only[List.mem_cons,List.not_mem_nil,or_false]at h⊢;rcases h with h|h|h|h|h<;>simp[h])
  omega
 have HTC:Hid (cb∉Ty):=fun h=>by
  have h1:=hTy cb h
  have h2:=HC6.out.lt
  omega
 have HK67:=hid k67
 have HC7:=hid (k67.at HC6.out (by simp))
 have HG7:=hid (HG6.out.keep0 k67)
 have hP7:Pw w7 P.p P.a l u6 P.S:=by rw[HPF.out.1,HPF.out.2.1,HPF.out.2.2.1];exact HG7.out.pw
 have HRN:=hid (Vt hCy hP7 (by have:=H2.out.2.2.2;have:=HU.out;omega) P.at_start (fun b hb=>(HTY.out b hb).2) (by unfold CP.N;omega))
 clear hCy hTy k67 hP7 HNW c0 c1 c2 b0 b1 b2
 go_wp2_with fail
 refine HRN.out.mono ?_
 rintro e w8 (⟨T8,u8,S1,rfl,hC8,hP8,hZ8,hat8,hkp8,hu8,hT8,k78⟩|⟨rfl,S8,hP8,hZ8,k78⟩)
 rotate_left
 ·have hws:=HPF.out.2.2.2.2.2.2.1
  have hrs:=HPF.out.2.2.2.2.2.2.2.1
  obtain⟨rfl,rfl,e3,rfl,rfl,rfl,_⟩:=HPF.out
  refine⟨rfl,P,HPOK.out,rfl,rfl,by rw[e3];exact H2.out.1,rfl,rfl,rfl,hws,hrs,.inr (J5 HLR.out hP8 ?_ HFA.out fun j hj=>(H2.out.2.2.1 j).trans ?_)⟩
  ·have h5:xe (q.bl P.p P.a) w w7:=(HBL.out _ _ [] HK5.out HK56.out (by simp)).trans (HK67.out.mono (by simp))
   refine h5.new k78 fun b hb=>?_
   rcases List.mem_append.1 hb with h|h
   ·exact .inr (HTY.out b h).1
   ·left
    unfold Sc.bl
    simp only[List.mem_cons,List.not_mem_nil,or_false]at h⊢
    rcases h with h|h|h|h<;>simp[h]
  ·rw[e3]at hZ8
   have h6:szF P.S P.LS≤P.c.space:=HPOK.out.rdy.sz
   exact(hZ8 j fun h=>hj ⟨h.1,by omega⟩).2
 have hsz:szF P.S P.LS≤P.c.space:=HPOK.out.rdy.sz
 have hcsN:P.cs P.N=P.LS:=P.cs_end (by unfold CP.N;omega)
 obtain⟨U,hU⟩:∃U,U=szF P.S P.LS:=⟨_,rfl⟩
 have hbk:=fun(w':World) (hk:xe [] w8 w')=>Y3.block (zC hC8 hk (by simp))
 rw[hcsN,<-hU]at hbk
 have HEQ:Hid (∀j,¬(c.frm (1-k1)≤j/\j<c.frm (1-k1)+U)->S1.now j=S.now j/\∀q:Int->Prop,All S2 j q->All S1 j q):=fun j hj=>by
  have h:=hZ8 j (by rw[HPF.out.2.2.2.1,HPF.out.2.2.2.2.1,<-hU];exact hj)
  rw[HPF.out.2.2.1]at h
  exact⟨h.1.trans (congrFun H2.out.1 j),h.2⟩
 have hG8:VD p a l u8 S1 q c r w8:=by
  refine yH.shutG (HG7.out.next (T:=Ty) (by rw[<-HPF.out.1,<-HPF.out.2.1];exact hP8) (by rw[<-HPF.out.1,<-HPF.out.2.1];exact k78) (fun b hb h=>?_) fun j hj=>(HEQ.out j (fun h=>by have:=HFA.out;omega)).2) fun j h1 h2=>?_
  ·have h3:=(HTY.out b h).1
   have h4:=HLT.out b (List.mem_cons_of_mem _ hb)
   omega
  ·by_cases hz:c.frm (1-k1)≤j/\j<c.frm (1-k1)+U
   ·exact hkp8 j (by rw[HPF.out.2.2.2.1,HPF.out.2.2.2.2.1];exact hz.1) (by rw[HPF.out.2.2.2.1,HPF.out.2.2.2.2.1,<-hU];exact hz.2)
   ·obtain⟨h3,h4⟩:=HEQ.out j hz
    rw[h3,<-H2.out.1]
    exact h4 _ (H2.out.2.1 j h2)
 have hcpd:=CP.fin hat8
 have hk08:xe (q.bl p a) w w8:=by
  have h5:xe (q.bl p a) w w7:=(HBL.out _ _ [] HK5.out HK56.out (by simp)).trans (HK67.out.mono (by simp))
  refine h5.new k78 fun b hb=>?_
  rcases List.mem_append.1 hb with h|h
  ·exact .inr (HTY.out b h).1
  ·left
   rw[HPF.out.1,HPF.out.2.1]at h
   unfold Sc.bl
   simp only[List.mem_cons,List.not_mem_nil,or_false]at h⊢
   rcases h with h|h|h|h<;>simp[h]
 have hT8w:∀b∈T8,w.heap.size≤b:=fun b hb=>by
  rcases hT8 b hb with h|h
  ·exact(HTY.out b h).1
  ·have h2:=HK5.out.size
   have h3:=HK56.out.size
   have h4:=HK67.out.size
   omega
 have HCB8:Hid (At w8 cb (cfgO c)):=k78.at HC7.out fun h=>by
  rcases List.mem_append.1 h with h|h
  ·exact HTC.out h
  ·rw[HPF.out.1,HPF.out.2.1]at h
   exact HNB.out _ HCW.out h
 have HP81:Hid (P8 S S1):=fun j hj=>(H2.out.2.2.1 j).trans (HEQ.out j (fun h=>by have:=Y8 c;have:=HFA.out;omega)).2
 have hfl:=xa6 (fun _=>true) w8 p a l u8 S1 q c r (1-k1) U yb (nwR P.S P.c P.k P.LS P.rs) (by rw[XF];exact hG8) HC.out.1 HC.out.2 (by omega) (by rw[hU,<-HPF.out.2.2.2.1];exact hsz) (by have:=H2.out.2.2.2;have:=HU.out;omega) HU.out.2 (fun w' hk=>by
  have h:=hbk w' hk
  rw[HPF.out.2.2.2.2.1,HPF.out.2.2.2.2.2.2.2.2.2]at h
  rw[HPF.out.2.2.2.2.1]
  exact h)
 have HFL:=hid hfl
 have HE8:=hid (And.intro hC8 (And.intro hcpd (And.intro hk08 (And.intro hT8w (And.intro hU (by have h1:=H2.out.2.2.2;omega:u8≤u+1500000000))))))
 clear hC8 hP8 hZ8 hat8 hkp8 hu8 hT8 k78 hsz hcsN hbk hG8 hcpd hk08 hT8w hfl hU HRN
 have c0:=HCB8.out.cell 0 rfl
 have c1:=HCB8.out.cell 1 rfl
 have c2:=HCB8.out.cell 2 rfl
 go_wp2_with fail
 refine HFL.out.mono ?_
 rintro e w9 (⟨rfl,u9,S9,r9,hG9,hr9,hn9,h89,hu9,k89⟩|⟨rfl,⟨S9,hP9,hL9,h89⟩,k89⟩)
 rotate_left
 ·have hws:=HPF.out.2.2.2.2.2.2.1
  have hrs:=HPF.out.2.2.2.2.2.2.2.1
  have hUe:=HE8.out.2.2.2.2.1
  obtain⟨rfl,rfl,e3,rfl,rfl,rfl,_⟩:=HPF.out
  refine⟨rfl,P,HPOK.out,rfl,rfl,by rw[e3];exact H2.out.1,rfl,rfl,rfl,hws,hrs,.inr ⟨rfl,S9,hP9,HE8.out.2.2.1.trans k89,HP81.out.trans h89,fun ch=>?_⟩⟩
  obtain⟨r',m,pl,wd,K0,h1,h2,h3⟩:=hL9 ch
  refine⟨r',m,pl,wd,K0,h1,h3,?_⟩
  rcases h2 with h2|h2
  ·refine .inl fun j g1 g2 g3 _=>(h2 j g1 g2 rfl).trans (HEQ.out j fun h=>g3 ⟨h.1,?_⟩).1
   have h6:szF P.S P.LS≤P.c.space:=HPOK.out.rdy.sz
   omega
  ·refine .inr ⟨S1,HE8.out.2.1,fun j g1 g2=>?_⟩
   rw[h2 j g1 g2 rfl,hUe]
 rw[XF]at hG9
 have HE9:Hid (CltP p a l u S q c r k1 u1 rs ws w (.returned (.tuple #[ptr yb,.int .i64 0])) w9):=by
  have hws:=HPF.out.2.2.2.2.2.2.1
  have hrs:=HPF.out.2.2.2.2.2.2.2.1
  have hUe:=HE8.out.2.2.2.2.1
  obtain⟨rfl,rfl,e3,rfl,rfl,rfl,_⟩:=HPF.out
  refine⟨P,HPOK.out,rfl,rfl,by rw[e3];exact H2.out.1,rfl,rfl,rfl,hws,hrs,.inl ⟨yb,T8,u9,S1,S9,r9,rfl,zC HE8.out.1 k89 fun b hb h=>?_,HE8.out.2.2.2.1,HE8.out.2.1,hG9,hr9,fun j g1 g2=>?_,HP81.out.trans h89,by have:=HE8.out.2.2.2.2.2;omega,HE8.out.2.2.1.trans k89⟩⟩
  ·have h1:=HE8.out.2.2.2.1 b hb
   have h2:=HLT.out b (List.mem_cons_of_mem _ h)
   omega
  ·rw[hn9 j g1 g2,hUe]
 clear hG9 hr9 hn9 h89 hu9 k89 HFL c0 c1 c2
 go_wp2_with fail
 refine bodyPost_ret (v:=.tuple #[ptr yb,.int .i64 0]) (by simp[results,Tryz.results96,go_sem]) rfl ?_
 exact HE9.out
open Go.RowKit Go.OpenShut
section
variable {P:CP} {S1 S':DS} {os:List (Nat×Nat)}
theorem xej {c:Cfg} {k u:Nat} {f old:Nat->Int} {j:Nat} (h:c.frm 0≤j):blkF c k u f old j=old j:=by
 have h1:=xK (c:=c) 0
 have h2:=xH c
 unfold blkF
 rw[if_neg (by omega),if_neg (by omega),if_neg (by omega)]
theorem xcB (c:Cfg) (k:Nat):c.frm 0≤c.frm k:=by unfold Cfg.frm;omega
theorem J4 (hP:P.Ok) (hH:HepS P.S P.c P.a.n P.k P.us P.rs os) (hC:Cpd P.S S1 P.c P.k P.LS) (hB:∀j,P.c.act≤j->j<P.a.n->S'.now j=blkF P.c (1-P.k) (szF P.S P.LS) (nwR P.S P.c P.k P.LS P.rs) S1.now j):
  HepS S' P.c P.a.n (1-P.k) (szF P.S P.LS) (P.rs.map (wtC P.S P.c P.k P.LS)) (hdL P.S P.LS)/\CP.Ok ⟨P.p,P.a,S',P.c,1-P.k,szF P.S P.LS,P.ws.map (wtC P.S P.c P.k P.LS),P.rs.map (wtC P.S P.c P.k P.LS)⟩/\
   rcF S' P.c (1-P.k) (szF P.S P.LS) (P.ws.map (wtC P.S P.c P.k P.LS))=P.LS.map (wtC P.S P.c P.k P.LS)/\szF S' (P.LS.map (wtC P.S P.c P.k P.LS))=szF P.S P.LS/\
   SamI P.S S' P.c P.k P.us (1-P.k) (szF P.S P.LS) P.LS (P.LS.map (wtC P.S P.c P.k P.LS)):=by
 have hc:=hP.c
 have hn:=hP.n
 have hsz:szF P.S P.LS≤P.c.space:=hP.rdy.sz
 have hob:∀x∈P.LS,(obW P.S P.c P.k P.us x).isSome=true:=fun x hx=>P.obs hx
 have h4:∀j,P.c.frm 0≤j->j<P.a.n->S'.now j=S1.now j:=fun j a b=>by
  have:=xK (c:=P.c) 0
  rw[hB j (by omega) b,xej a]
 have hact:=(places hc).2
 have hf1:=xu (c:=P.c) (1-P.k) (by have:=hP.k;omega)
 have hf0:=xcB P.c (1-P.k)
 have hH2:HepS S' P.c P.a.n (1-P.k) (szF P.S P.LS) (P.rs.map (wtC P.S P.c P.k P.LS)) (hdL P.S P.LS):=by
  refine hC.hep hc hn hP.k hP.us hob hsz hH.wd hH.rl ?_ ?_ (fun j hj=>?_) h4
  ·rw[hB _ (Nat.le_refl _) (by omega)]
   unfold blkF
   rw[if_pos rfl]
  ·rw[hB _ (by omega) (by omega)]
   unfold blkF
   rw[if_neg (by omega),if_pos rfl]
  ·rw[hB _ (by unfold Cfg.root;omega) (by unfold Cfg.root;omega)]
   unfold blkF
   rw[if_neg (by unfold Cfg.root;omega),if_neg (by unfold Cfg.root;omega),if_pos (by unfold Cfg.root;omega)]
   unfold nwR
   rw[show P.c.root j-(P.c.act+2)=j by unfold Cfg.root;omega]
 have hz:∀j,P.c.frm (1-P.k)≤j->j<P.c.frm (1-P.k)+szF P.S P.LS->S'.now j=S1.now j:=fun j a b=>h4 j (by omega) (by omega)
 have hN:=CP.Ok.next hP hC
 have hrc:rcF S1 P.c (1-P.k) (szF P.S P.LS) (P.ws.map (wtC P.S P.c P.k P.LS))=P.LS.map (wtC P.S P.c P.k P.LS):=hP.rdy.rc hC
 have hob1:∀x∈P.LS.map (wtC P.S P.c P.k P.LS),(obW S1 P.c (1-P.k) (szF P.S P.LS) x).isSome=true:=fun x hx=>by
  rw[<-hrc]at hx
  exact zJ hx
 refine⟨hH2,⟨hc,hn,hH2.k1,hsz,hN.rdy.same hz,hN.ws,hN.rs,hN.few,hN.root⟩,?_,?_,?_⟩
 ·rw[Xj hz,hrc]
 ·rw[ZS hz _ hob1]
  exact hC.sz P.nd P.LS fun _ h=>h
 ·have hs:=hP.rdy.sam hC (T:=P.S) fun _ _ _=>rfl
  refine⟨hs.len,hs.nl,hs.np,fun t x y hx hy=>?_⟩
  obtain⟨n,r,g1,g2,g3,g4⟩:=hs.ob t x y hx hy
  have g2':obW S1 P.c (1-P.k) (szF P.S P.LS) y=some (n,r):=g2
  obtain⟨q1,q2,q3,q4,q5,q6⟩:=zt g2'
  refine⟨n,r,g1,by rw[YI hz];exact g2',fun i hi=>?_,fun i h1 h2=>?_⟩
  ·rw[hz (y+1+i) (by omega) (by omega)]
   exact g3 i hi
  ·rw[hz (y+1+i) (by omega) (by omega)]
   exact g4 i h1 h2
end
theorem xcg (w:World) (p:Nat) (a:DA) (u:Int) (S:DS) (c:Cfg) (hP:Pw w p a (-1) u S) (hc:c.Ok) (hn:c.words=a.n) (hL:LgS c a.n S):
  Calls Tryz.prog 72 #[ptr a.d,cfgV c] w fun e w'=>∃q,e=.returned (ptr q.b)/\yH p a (-1) u S q c 0 w'/\xe [] w w'/\(w.heap.size≤q.b/\w.heap.size≤q.lb/\w.heap.size≤q.rb/\w.heap.size≤q.ub):=by
 obtain⟨⟨pl,wd,hL⟩,_⟩:=hL
 refine(VO hP hc hn hL (by omega)).mono ?_
 rintro e w' ⟨s,U,rfl,h1,h2,h3,h4⟩
 exact⟨s,rfl,⟨_,_,_,_,_,pl,wd,h1,hL,h2⟩,h3,h4⟩
theorem CltX.none {P:CP} {S:DS} {q:Sc} {r:Nat} {w:World} {e:Ending} {w':World} (h:CltX P (-1) S q r w e w'):False:=by
 obtain⟨_,S',h1,_⟩:=h
 have:=h1.lo
 omega
structure Hp (p:Nat) (a:DA) (q:Sc) (c:Cfg) (k us:Nat) (rs ws:List Nat) (os:List (Nat×Nat)) (u:Int) (S:DS) (r:Nat) (w:World):Prop where
 sh:yH p a (-1) u S q c r w
 hp:HepS S c a.n k us rs os
 ok:CP.Ok ⟨p,a,S,c,k,us,rs++ws,rs⟩
def HpN (p:Nat) (a:DA) (q:Sc) (c:Cfg) (k us:Nat) (rs ws:List Nat) (u:Int) (S:DS) (r:Nat) (w:World) (e:Ending) (w':World):Prop:=
 ∃(P:CP) (x:Nat) (T:List Nat) (u':Int) (S':DS) (r':Nat),e=.returned (.tuple #[ptr x,.int .i64 0])/\(P.Ok/\P.p=p/\P.a=a/\P.S.now=S.now/\P.c=c/\P.k=k/\P.us=us/\P.ws=rs++ws/\P.rs=rs)/\
  ColC P w' x T P.N/\(∀b∈T,w.heap.size≤b)/\VD p a (-1) u' S' q c r' w'/\
  Hp p a q c (1-k) (szF P.S P.LS) (rs.map (wtC P.S c k P.LS)) (ws.map (wtC P.S c k P.LS)) (hdL P.S P.LS) u' S' r' w'/\rcF S' c (1-k) (szF P.S P.LS) ((rs++ws).map (wtC P.S c k P.LS))=P.LS.map (wtC P.S c k P.LS)/\
  szF S' (P.LS.map (wtC P.S c k P.LS))=szF P.S P.LS/\SamI P.S S' c k us (1-k) (szF P.S P.LS) P.LS (P.LS.map (wtC P.S c k P.LS))/\u'≤u+2000000000/\r'≤r+1/\xe (q.bl p a) w w'
theorem Zg (w:World) (p:Nat) (a:DA) (u:Int) (S:DS) (q:Sc) (c:Cfg) (r k us:Nat) (rs ws:List Nat) (os:List (Nat×Nat)) (y:Option Addr) (cy B:Nat)
  (h:Hp p a q c k us rs ws os u S r w) (hy:OwnU w B y cy ws.length (fun j=>((ws.getD j 0:Nat):Int))) (hyb:∀b∈blkL y,b∉a.d::q.bl p a) (hu:u≤400000000000) (hr:r<4294967290):
  Calls Tryz.prog 96 #[ptr a.d,cfgV c,ptr q.b,.slice y ws.length cy] w (HpN p a q c k us rs ws u S r w):=by
 refine(X3 w p a (-1) u S q c r k us rs ws os y cy B h.sh h.hp h.ok hy hyb hu hr).mono ?_
 rintro e w' ⟨P,hP,e1,e2,e3,e4,e5,e6,e7,e8,hD|hX⟩
 ·obtain⟨x,T,u',S1,S',r',rfl,hC,hT,hcp,hG,hr',hB,_,hu',hk⟩:=hD
  have hH:HepS P.S P.c P.a.n P.k P.us P.rs os:=by
   rw[e2,e4,e5,e6,e8]
   exact h.hp.same (by rw[<-e4,<-e2];exact hP.n) fun j _ _=>congrFun e3 j
  obtain⟨n1,n2,n3,n4,n5⟩:=J4 hP hH hcp hB
  rw[e1,e2,e4]at hG
  rw[e2,e4,e5,e8]at n1
  rw[e1,e2,e4,e5,e7,e8]at n2
  rw[e4,e5,e7]at n3
  rw[e4,e5]at n4
  rw[e4,e5,e6]at n5
  rw[e1,e2]at hk
  rw[List.map_append]at n2
  exact⟨P,x,T,u',S',r',rfl,⟨hP,e1,e2,e3,e4,e5,e6,e7,e8⟩,hC,hT,hG,⟨hG.shutL,n1,n2⟩,n3,n4,n5,hu',hr',hk⟩
 ·exact hX.none.elim
open Go.RowKit Go.OpenShut
theorem xb4 {S:DS} {c:Cfg} {k u z n:Nat} (h:obW S c k u z=some (n,0)) {l:List Nat} (hl:∀v∈l,v=0):rcF S c k u (l++ [z])= [z]:=by
 have h1:=(xaf h).1
 have h2:rcW S c k u (l++ [z]) 0=rcW S c k u [z] 0:=by
  show seeL S c k u [] (l++ [z])=seeL S c k u [] [z]
  rw[Yf,Jk l fun w hw ho=>by rw[hl w hw,zx]at ho;cases ho]
 have h3:∀i,rcW S c k u (l++ [z]) i=rcW S c k u [z] i:=fun i=>by
  induction i with
  |zero=>exact h2
  |succ i ih=>
   cases hs:(rcW S c k u [z] i)[i]? with
   |none=>
    have h4:=List.getElem?_eq_none_iff.1 hs
    rw[yL h4,yL (by rw[ih];exact h4),ih]
   |some x=>rw[yg hs,yg (by rw[ih];exact hs),ih]
 exact(h3 u).trans h1
theorem jL (w:World):Calls Tryz.prog 111 #[] w fun e w'=>e=.returned (.bool true)/\Below w.heap.size w w':=by
 go_enter Tryz.func111,Tryz.ntmps111
 go_wp2_with fail
 refine(jM Y3 _).mono ?_
 rintro e w1 ⟨rfl,hb1⟩
 have K1:xe [] w w1:=Go.Proofs.YtcdhklgahepcaaaGreat.Below.keeps hb1 []
 clear hb1
 have hos:[(1,0),(2,0)]=zW (mk3 0 0 40).space (hdsL (fun _=>0) (fun i=>i+1) 2):=by decide
 have hok:=XW 0 0 40
 obtain⟨c,hc⟩:∃c,c=mk3 0 0 40:=⟨_,rfl⟩
 rw[<-hc]at hos hok
 have HO:=hid hok
 have HC:=hid hc
 have HOS:=hid hos
 clear hok hc hos
 go_wp2_with fail
 have hH2:=At.new w1 (.cells #[.int .u8 0,.int .u8 1,.int .u8 0,.int .u8 2] 226)
 have hy:vt (w1.alloc (.cells #[.int .u8 0,.int .u8 1,.int .u8 0,.int .u8 2] 226)) (some ⟨w1.heap.size,0,none⟩) 2 (fun _=>0) (fun i=>i+1):=
  .inr ⟨w1.heap.size,0,rfl,hH2.lt,fun i hi=>by
   have h2:i=0\/i=1:=by omega
   rcases h2 with rfl|rfl
   ·exact⟨hH2.cell 0 rfl,hH2.cell 1 rfl,by decide,by decide⟩
   ·exact⟨hH2.cell 2 rfl,hH2.cell 3 rfl,by decide,by decide⟩⟩
 have K2:=K1.alloc (.cells #[.int .u8 0,.int .u8 1,.int .u8 0,.int .u8 2] 226)
 refine(Xo _ 0 0 40 (by omega) (by omega) (by omega) _ 2 2 (fun _=>0) (fun i=>i+1) hy (by omega) none 0 0 (fun _=>0) (.inl rfl) (by omega) 0 (by omega) c HC.out [(1,0),(2,0)] HOS.out).mono ?_
 rintro e w3 ⟨p,a,u,S,x,cp,y,cy,B,rfl,hn,hP,hub,hL,hU,hI,hb,hB,hk3⟩
 have K3:=K2.trans hk3
 have hl1:([(1,0),(2,0)]:List (Nat×Nat)).length=2:=rfl
 have hob1:=hL.ob (i:=1) (by decide)
 have hsp:=HO.out.small.2.2
 have hfr:=xW HO.out.small (show 0≤2 by omega)
 have hwd:=hL.wd hsp (xaB c _ (fun _=>0) 0 0 (by have:lenL [(1,0),(2,0)]=5:=rfl;omega))
 rw[hl1]at hI⊢
 obtain⟨g,rfl,hgB,hgl,hgc⟩:=hI.cell (by omega)
 obtain⟨zz,hzz⟩:∃zz,zz=c.frm 0+posL [(1,0),(2,0)] 1:=⟨_,rfl⟩
 have hg1:w3.cell? ⟨g,1,none⟩=some (.int .i64 (zz:Nat)):=by rw[hzz];exact hgc 1 (by omega)
 rw[<-hzz]at hob1
 have hUl:(lenL [(1,0),(2,0)]:Nat)=5:=rfl
 rw[hUl]at hob1⊢
 have HOB:=hid (show obW S c 0 5 zz=some (2,0)from hob1)
 have HX:Hid (∀j:Nat,c.frm 0≤j->j<c.frm 0+5->∃x:Nat,S.now j=(x:Int)/\x<18446744073709551616):=fun j h1 h2=>hwd.sp j h1 (by have h3:=xu (c:=c) 0 (by omega);have h4:=hL.fits;omega)
 have hzi:(zz:Int)≤100000:=by rw[hzz];have:posL [(1,0),(2,0)] 1=2:=rfl;omega
 have HFI:Hid (5≤c.space):=by have:=hL.fits;rw[hUl]at this;exact this
 have HP:=hid hP
 have HN:=hid hn
 have HL:=hid hL
 have HU:=hid hU
 have HUB:=hid hub
 have HK3:=hid K3
 have HDW:Hid (∀b∈[p,a.d,a.s,a.k,a.m],w.heap.size≤b/\b<w3.heap.size):=fun b hb'=>by
  have h1:=K2.size
  have h2:=hP.pow.lt
  have h3:=hP.dev.dev.lt
  have h4:=hP.dev.now.lt
  have h5:=hP.dev.kept.lt
  have h6:=hP.dev.map.lt
  simp only[List.mem_cons,List.not_mem_nil,or_false]at hb'
  omega
 have HGB:Hid (∀b∈[p,a.s,a.k,a.m],b≠g):=fun b hb'=>by
  simp only[List.mem_cons,List.not_mem_nil,or_false]at hb'
  omega
 clear hy hH2 K1 K2 hk3 hb hB hI hgc hL hU hP hn hub hsp hfr hwd hob1 K3
 go_upto_region 4 with fail
 obtain⟨cb,hcb⟩:∃cb,cb=w3.heap.size:=⟨_,rfl⟩
 obtain⟨w4,hw4⟩:∃w4,w4=(w3.alloc (cfgO c)).alloc (bkO 0 5 (.slice x c.roots cp)):=⟨_,rfl⟩
 have hC4:At w4 cb (cfgO c):=by rw[hw4,hcb];exact(At.new w3 _).alloc _
 have hB4:At w4 (cb+1) (bkO 0 5 (.slice x c.roots cp)):=by
  have:=At.new (w3.alloc (cfgO c)) (bkO 0 5 (.slice x c.roots cp))
  rw[World.size_alloc]at this
  rw[hw4,hcb];exact this
 have k34:xe [] w3 w4:=by rw[hw4];exact((xe.refl [] w3).alloc _).alloc _
 rw[<-hw4,<-hcb]
 have b1:=hB4.cell 1 rfl
 have c0:=hC4.cell 0 rfl
 have c1:=hC4.cell 1 rfl
 have c2:=hC4.cell 2 rfl
 have HC4:=hid hC4
 have HK34:=hid k34
 have hg4:g<w4.heap.size/\w4.cell? ⟨g,1,none⟩=some (.int .i64 (zz:Nat)):=⟨Nat.lt_of_lt_of_le hgl k34.size,(k34.cell hgl (by simp)).trans hg1⟩
 have HG4:=hid hg4
 have HZZ:=hid hzz
 have HCW:Hid (w3.heap.size≤cb):=Nat.le_of_eq hcb.symm
 clear hw4 hcb hC4 hB4 k34 hgl hg1 hg4 hzz
 go_wp2_with fail
 refine(xcg w4 p a u S c (HP.out.keep0 HK34.out) HO.out HN.out HL.out.log).mono ?_
 rintro e w5 ⟨q,rfl,hSh,k45,hq⟩
 have HSH:=hid hSh
 have HK45:=hid k45
 have HQ:=hid hq
 have HC5:=hid (k45.at HC4.out (by simp))
 obtain⟨fs,ts,hsec⟩:=hSh.len.1
 have s0:=hsec.cell 0 rfl
 clear hSh k45 hq b1 c0 c1 c2 hsec
 go_upto_region 9 with fail
 clear s0
 obtain⟨rs,hrs⟩:∃rs:List Nat,rs=wsN c.roots fun j=>lnkG c [(1,0),(2,0)] (fun _=>0) 0 0 (refL [(1,0),(2,0)]+j):=⟨_,rfl⟩
 have hz0:∀v∈rs,v=0:=fun v hv=>by
  rw[hrs]at hv
  obtain⟨j,_,rfl⟩:=List.mem_map.1 hv
  show(lnkG c [(1,0),(2,0)] (fun _=>0) 0 0 (refL [(1,0),(2,0)]+j)).toNat=0
  unfold lnkG nxV
  rw[if_neg (by omega)]
  rfl
 have hHp:HepS S c a.n 0 5 rs [(1,0),(2,0)]:=by
  have h:=HL.out.hep HO.out (n:=a.n) HN.out
  rw[<-hrs]at h
  exact h
 have hrl:rs.length=c.roots:=hHp.rl
 have hPok:CP.Ok ⟨p,a,S,c,0,5,rs++ [zz],rs⟩:=by
  have h:=ok14 p HO.out HN.out HL.out (Zv S c _) (rs++ [zz]) (fun v hv=>by
   rcases List.mem_append.1 hv with h|h
   ·rw[hz0 v h];omega
   ·rw[List.mem_singleton.1 h];omega) (by
   have:=HO.out.2.1
   rw[List.length_append,hrl]
   show c.roots+1≤1000
   omega)
  rw[<-hrs]at h
  exact h
 have HZ0:=hid hz0
 have HHP:=hid (And.intro hHp hPok)
 have HCL:Hid (∀(w':World) (b:Nat),xe [] w5 w'->w5.heap.size≤b->At w' b (.cells #[.int .u64 (zz:Nat)] 26)->Calls Tryz.prog 96 #[ptr a.d,cfgV c,ptr q.b,.slice (some ⟨b,0,none⟩) 1 1] w' (HpN p a q c 0 5 rs [zz] u S 0 w')):=fun w' b hk hb hA=>by
  refine Zg w' p a u S q c 0 0 5 rs [zz] _ (some ⟨b,0,none⟩) 1 w5.heap.size ⟨HSH.out.keep0 hk,HHP.out.1,HHP.out.2⟩ ⟨rfl,.inr ⟨b,1,_,rfl,hb,hA,Nat.le_refl _,by decide,rfl,rfl⟩⟩ (fun b' hb' h=>?_) (by have:=HUB.out;omega) (by omega)
  have h1:=HSH.out.lts b' h
  simp[blkL]at hb'
  omega
 have e1:IntKind.u64.wrap (zz:Int)=(zz:Int):=IntWalk.u64_in _ (by omega)
 have hoff:cb∉q.bl p a/\g∉q.bl p a:=by
  have h1:=HC4.out.lt
  have h2:=HG4.out.1
  have h3:=HQ.out
  have h4:=HCW.out
  unfold Sc.bl
  simp only[List.mem_cons,List.not_mem_nil,or_false,not_or]
  have h5:=HDW.out p (by simp)
  have h6:=HDW.out a.s (by simp)
  have h7:=HDW.out a.k (by simp)
  have h8:=HDW.out a.m (by simp)
  have g5:=HGB.out p (by simp)
  have g6:=HGB.out a.s (by simp)
  have g7:=HGB.out a.k (by simp)
  have g8:=HGB.out a.m (by simp)
  omega
 have HCZ:=hid (fun(w':World) (kk:xe (q.bl p a) w5 w')=>show w'.cell? ⟨cb,0,none⟩=some (.int .i64 c.log)/\w'.cell? ⟨cb,1,none⟩=some (.int .i64 c.roots)/\w'.cell? ⟨cb,2,none⟩=some (.int .i64 c.space)/\w'.cell? ⟨g,1,none⟩=some (.int .i64 (zz:Nat))from
  ⟨(kk.at HC5.out hoff.1).cell 0 rfl,(kk.at HC5.out hoff.1).cell 1 rfl,(kk.at HC5.out hoff.1).cell 2 rfl,(((HK45.out.mono (by simp)).trans kk).cell HG4.out.1 hoff.2).trans HG4.out.2⟩)
 have HOFF:=hid hoff
 clear hoff
 clear hrs hz0 hHp hrl hPok
 have kk:xe [] w5 w5.drew:=(xe.refl [] w5).drew
 go_region_held3 (fun w'=>w'.cell? ⟨cb,0,none⟩=some (.int .i64 c.log)∧w'.cell? ⟨cb,1,none⟩=some (.int .i64 c.roots)∧w'.cell? ⟨cb,2,none⟩=some (.int .i64 c.space)∧w'.cell? ⟨g,1,none⟩=some (.int .i64 (zz:Nat)))
  (first|exact HCZ.out _ (kk.mono (by simp))|exact HCZ.out _ ((kk.alloc _).mono (by simp))|exact HCZ.out _ (((kk.alloc _).mono (by simp)).trans hk6))
  (first
    |(go_at_call 96;refine(HCL.out _ _ (kk.alloc _) (Nat.le_refl _) (At.new _ _)).mono ?_;rintro e w6 ⟨P,xb,T,u6,S6,r6,rfl,hP,hC,hT,hG,hH,hn1,hn2,hn3,hu6,hr6,hk6⟩))
 all_goals
  rename_i hHd
  clear hHd
  obtain⟨hPk,q1,q2,q3,q4,q5,q6,q7,q8⟩:=hP
  have hLS:P.LS= [zz]:=by
   unfold CP.LS
   rw[q4,q5,q6,q7,Xj (S:=S) fun j _ _=>congrFun q3 j]
   exact xb4 HOB.out HZ0.out
  have hU3:szF P.S P.LS=3:=by
   have h1:obW P.S c 0 5 zz=some (2,0):=by rw[YI (S:=S) fun j _ _=>congrFun q3 j];exact HOB.out
   obtain⟨_,_,h3,h4,_,_⟩:=zt h1
   rw[hLS,xC,<-h3]
   rfl
  have hwt:wtC P.S c 0 P.LS zz=c.frm 1:=by
   rw[hLS]
   unfold wtC
   rw[if_pos (by simp)]
   unfold plC
   simp[szF]
  have hcsN:P.cs P.N=P.LS:=P.cs_end (by unfold CP.N;omega)
  have HWN:=hid (fun(w':World) (hk:xe [] w6 w')=>Y3.went (zC hC hk (by simp)) zz (by omega))
  rw[hcsN,q4,q5,hwt]at HWN
  have h1k:(1-0:Nat)=1:=rfl
  rw[hU3,h1k]at hH
  have HH6:=hid hH
  have HR6:=hid (zI w6 p a S6 c hH.sh.pw.dev HO.out HN.out (by rw[hH.hp.act];omega) (by rw[hH.hp.used];omega))
  have HC6:=hid (hk6.at ((kk.alloc _).at HC5.out (by simp)) HOFF.out.1)
  have hK6:xe [] w w6:=by
   have h0:xe [] w w5:=(HK3.out.trans HK34.out).trans HK45.out
   refine(h0.trans (kk.alloc _)).new hk6 fun b hb=>.inr ?_
   have h2:=HQ.out
   have h3:=HK3.out.size
   have h4:=HK34.out.size
   unfold Sc.bl at hb
   simp only[List.mem_cons,List.not_mem_nil,or_false]at hb
   have h5:=HDW.out p (by simp)
   have h6:=HDW.out a.s (by simp)
   have h7:=HDW.out a.k (by simp)
   have h8:=HDW.out a.m (by simp)
   omega
  have HK6:=hid hK6
  have HG6:=hid (hk6.cell (Nat.lt_of_lt_of_le HG4.out.1 (Nat.le_trans HK45.out.size (kk.alloc _).size)) HOFF.out.2 |>.trans (((HK45.out.trans (kk.alloc _)).cell HG4.out.1 (by simp)).trans HG4.out.2))
  have HGL:Hid (g<w6.heap.size):=Nat.lt_of_lt_of_le (Nat.lt_of_lt_of_le HG4.out.1 (Nat.le_trans HK45.out.size (kk.alloc _).size)) hk6.size
  have c0:=HC6.out.cell 0 rfl
  have c1:=HC6.out.cell 1 rfl
  have c2:=HC6.out.cell 2 rfl
  clear hk6 hG hn1 hn2 hn3 hu6 hr6 hH hC hT hLS hU3 hwt hcsN hPk q1 q2 q3 q4 q5 q6 q7 q8 hK6 h1k
  go_wp2_with fail
  refine HR6.out.mono ?_
  rintro e w7 (⟨h9,rfl,hk9⟩|⟨k1,u1,x7,cp7,hk1,hu1,hA1,hU1,rfl,hO7,hk7⟩)
  ·rw[HH6.out.hp.act,HH6.out.hp.used]at h9
   have:=HH6.out.hp.us
   omega
  obtain rfl:k1=1:=by have:=HH6.out.hp.act;omega
  obtain rfl:u1=3:=by have:=HH6.out.hp.used;omega
  have HK67:=hid hk7
  clear hk1 hu1 hA1 hU1 hO7 hk7 c0 c1 c2
  go_upto_region 11 with fail
  have hX8:=At.new w7 (bkO 1 3 (.slice x7 c.roots cp7))
  have k78:=(xe.refl [] w7).alloc (bkO 1 3 (.slice x7 c.roots cp7))
  obtain⟨nb,hnb⟩:∃nb,nb=w7.heap.size:=⟨_,rfl⟩
  obtain⟨w8,hw8⟩:∃w8,w8=w7.alloc (bkO 1 3 (.slice x7 c.roots cp7)):=⟨_,rfl⟩
  rw[<-hnb]
  rw[<-hnb]at hX8
  rw[<-hw8]at hX8 k78⊢
  have HCE:=hid (fun(w':World) (kk:xe [] w8 w')=>show w'.cell? ⟨cb,0,none⟩=some (.int .i64 c.log)/\w'.cell? ⟨cb,1,none⟩=some (.int .i64 c.roots)/\w'.cell? ⟨cb,2,none⟩=some (.int .i64 c.space)/\w'.cell? ⟨nb,0,none⟩=some (.int .i64 1)/\w'.cell? ⟨nb,1,none⟩=some (.int .i64 3)/\w'.cell? ⟨g,1,none⟩=some (.int .i64 (zz:Nat))from by
   have k68:=HK67.out.trans (k78.trans kk)
   have h1:=k68.at HC6.out (by simp)
   have h2:=kk.at hX8 (by simp)
   exact⟨h1.cell 0 rfl,h1.cell 1 rfl,h1.cell 2 rfl,h2.cell 0 rfl,h2.cell 1 rfl,(k68.cell HGL.out (by simp)).trans HG6.out⟩)
  have HW8:=hid (fun(w':World) (kk:xe [] w8 w')=>HWN.out w' (HK67.out.trans (k78.trans kk)))
  obtain⟨F1,hF1⟩:∃F1,F1=c.frm 1:=⟨_,rfl⟩
  have HFR:Hid (∀w',Calls Tryz.prog 180 #[cfgV c,.int .i64 1] w' fun e w''=>e=.returned (.int .i64 (F1:Nat))/\xe [] w' w''):=fun w'=>by
   rw[hF1]
   exact YZ w' c HO.out.small 1 (by omega)
  rw[<-hF1]at HW8
  have HKE:=hid (HK6.out.trans (HK67.out.trans k78))
  clear hX8 k78 hnb hw8 hF1 kk
  have kk:xe [] w8 w8.drew:=(xe.refl [] w8).drew
  go_region_held3 (fun w'=>w'.cell? ⟨cb,0,none⟩=some (.int .i64 c.log)∧w'.cell? ⟨cb,1,none⟩=some (.int .i64 c.roots)∧w'.cell? ⟨cb,2,none⟩=some (.int .i64 c.space)∧w'.cell? ⟨nb,0,none⟩=some (.int .i64 1)∧w'.cell? ⟨nb,1,none⟩=some (.int .i64 3)∧w'.cell? ⟨g,1,none⟩=some (.int .i64 (zz:Nat)))
   (exact HCE.out _ kk)
   (first
     |(go_at_call 172;refine(HW8.out _ kk).mono ?_;rintro e w9 ⟨rfl,hk9⟩;have kk:=kk.trans hk9;clear hk9)
     |(go_at_call 180;refine(HFR.out _).mono ?_;rintro e w9 ⟨rfl,hk9⟩;have kk:=kk.trans hk9;clear hk9))
  all_goals
   rename_i hHd
   clear hHd
   go_wp2_with fail
   go_ret
   exact⟨rfl,(HKE.out.trans kk).below (Nat.le_refl _) (by simp)⟩
end Go.Proofs.YtcdhklgahepcaaaGreat
