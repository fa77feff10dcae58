import Derived.Test.YtcdhklgahepcaaaGreatHpi
import Derived.Test.YtcdhklgahepcaaaGreatFlp
set_option maxHeartbeats 4000000
set_option maxRecDepth 100000
namespace Go.Proofs.YtcdhklgahepcaaaGreat
open Go.RowKit Go.OpenShut
theorem xaR (w:World) (p:Nat) (a:DA) (l u:Int) (S:DS) (h:Pw w p a l u S) (hb:u<4611686018427380000/\a.L≤2000):
  Calls Tryz.prog 77 #[ptr a.d] w (Ran p a l u S (ym a.L) (.tuple #[]) w):=by
 have h0:=h.lo
 have hn8:=a.n8
 have HN8:=hid hn8
 clear hn8
 go_enter Tryz.func77,Tryz.ntmps77
 go_wp2_with fail
 go_loopg [2] a.L (fun r s wr=>∃i q:Nat,i+r=a.L∧q=8*i∧s=.int .i64 (q:Int)∧Pw wr p a l (u+(i:Int)) (xh S (rowL wX i))∧xe [p,a.s,a.k,a.m] w wr)
 case atStart=>exact⟨0,0,by omega,rfl,rfl,by simpa[y7,yS]using h,xe.refl _ _⟩
 case round=>
  obtain⟨i,q,hi,hq,rfl,hP,hK⟩:=hrel
  have HL:=hid (zh wr p a _ hP.dev)
  have hq1:(q:Int)≤16000:=by omega
  by_cases hlt:i<a.L
  ·have hqn:q<a.n:=by rw[HN8.out];omega
   have t0:decide (q<a.n)=true:=by rw[decide_eq_true_eq];exact hqn
   have t1:decide ((q:Int)<(a.n:Int))=true:=by rw[decide_eq_true_eq];omega
   have HF:=hid (yz wr p a l _ _ q hP hqn (by omega))
   have HQ:=hid hq
   clear hq
   go_wp2_with fail
   refine HL.out.mono ?_
   rintro e w1 ⟨rfl,rfl⟩
   go_wp2_with fail
   refine HF.out.mono ?_
   rintro e w2 (⟨rfl,h2,k2⟩|⟨rfl,⟨S',c2,h2⟩,k2⟩)
   ·go_wp2_with fail
    go_roundg (a.L-(i+1))
    case measure=>omega
    case rel=>
     refine⟨i+1,q+8,by omega,by have:=HQ.out;omega,by go_num,?_,hK.trans k2⟩
     have h3:=h2
     rw[<-xg,HQ.out]at h3
     have e:rowL wX (i+1)=rowL wX i++ [Cmd.fl (8*i)]:=yK _ _
     rw[e]
     simpa[Int.add_assoc]using h3
   ·refine⟨rfl,xN h2 ?_ (hK.trans k2)⟩
    rw[HQ.out]at c2
    exact(Cut.row (f:=wX) c2 hlt).left [Cmd.fe]
  ·have hiL:i=a.L:=by omega
   subst hiL
   have hqn:q=a.n:=by rw[HN8.out];omega
   have t0:decide (q<a.n)=false:=by rw[decide_eq_false_iff_not];omega
   have t1:decide ((q:Int)<(a.n:Int))=false:=by rw[decide_eq_false_iff_not];omega
   have HF:=hid (yR wr p a l _ _ hP (by omega))
   clear hqn hq hi
   go_wp2_with fail
   refine HL.out.mono ?_
   rintro e w1 ⟨rfl,rfl⟩
   go_wp2_with fail
   refine HF.out.mono ?_
   rintro e w2 (⟨rfl,h2,k2⟩|⟨rfl,⟨S',c2,h2⟩,k2⟩)
   ·go_wp2_with fail
    go_end0
    refine wo h2 ?_ ?_ (hK.trans k2)
    ·rw[zy];simp;omega
    ·rw[ym,xg]
   ·exact⟨rfl,xN h2 (Cut.right (A:=rowL wX a.L) (B:=[Cmd.fe]) c2 (by rw[xU]) rfl) (hK.trans k2)⟩
theorem xab {S:DS} {c:Cfg} {n:Nat} (hc:c.Ok) (hn:c.words=n) (h1:S.now 1=c.log) (h2:S.now 2=c.roots) (h3:S.now 3=c.space):ZX S n=rdV c.log c.roots c.space 0:=by
 have o:=hc
 obtain⟨o1,o2,o3,o4,o5,o6⟩:=o
 have e:Vp (c.log:Int) (c.roots:Int) (c.space:Int) n=true:=by
  have h1:cfgB (c.log:Int) (c.roots:Int) (c.space:Int)=true:=by simp[cfgB];omega
  unfold Vp
  rw[h1]
  simpa using hn
 unfold ZX
 rw[h1,h2,h3,zk _ (by omega),zk _ (by omega),zk _ (by omega),e,if_pos rfl]
theorem xb2 (w:World) (p:Nat) (a:DA) (S:DS) (c:Cfg) (h:Dev w p a S) (hc:c.Ok) (hn:c.words=a.n) (hs:SupS c S):
  Calls Tryz.prog 71 #[ptr a.d] w fun e w'=>e=.returned (rdV c.log c.roots c.space 0)/\xe [] w w':=by
 have:=Q9 w p a S h (by have:=(vv hc).1;omega) hs.1.1
 rwa[xab hc hn hs.2.1.1 hs.2.2.1.1 hs.2.2.2.1]at this
def cpS (n:Nat) (S:DS):DS:= { now:=fun i=>if i<n then S.now i else 0,kept:=fun i=>if i<n then S.now i else 0,tok:=fun _=>0,is:=fun _=>false }
theorem xbe {n:Nat} {S:DS} {j:Nat} (hj:j<n):Pre S (cpS n S) j:=fun q h=>by
 refine⟨?_,?_,fun h2=>by cases h2⟩
 ·show q (if j<n then S.now j else 0);rw[if_pos hj];exact h.1
 ·show q (if j<n then S.now j else 0);rw[if_pos hj];exact h.1
theorem LI.cp {c:Cfg} {n e0 r m:Nat} {pl:Nat->Nat} {wd:Nat->Int} {D:Nat->Int} {S:DS} (h:LI c n e0 r m pl wd D S) (hn:c.act≤n):LI c n e0 r m pl wd D (cpS n S):=
 h.pre (fun j hj=>xbe (by omega)) fun j _ hj _=>xbe hj
theorem qR (w:World) (p:Nat) (a:DA) (S:DS) (c:Cfg) (h:Dev w p a S) (hc:c.Ok) (hn:c.words=a.n) {r m:Nat} {pl:Nat->Nat} {wd:Nat->Int} {K:Nat->Int} (hL:LI c a.n 1 r m pl wd K S) (hr:r<4294967290):
  Calls Tryz.prog 75 #[ptr a.d,cfgV c] w fun e w'=>∃(p':Nat) (a':DA) (S':DS),e=.returned (ptr a'.d)/\a'.n=a.n/\Dev w' p' a' S'/\(∀j,c.act≤j->j<a.n->S'.now j=K j)/\xe [] w w':=by
 have hci:=c_in hc hn
 have hn8:=a.n8
 have HW:=hid (fun(w':World) (hk:xe [] w w')=>xbF w' p a S (h.keep hk (by simp) (by simp) (by simp) (by simp)))
 have hLc:=hL.cp (by omega)
 have HLO:=hid (fun(w':World) (p':Nat) (a':DA) (e:a'.n=a.n) (h:Pw w' p' a' (-1) 0 (cpS a.n S))=>Z6 h hc (by rw[e];exact hn) (by rw[e];exact hLc.1) (by omega))
 have HUN:=hid (fun(w':World) (p':Nat) (a':DA) (lb:Nat) (e:a'.n=a.n) (h:LW w' p' a' (-1) 0 (cpS a.n S) lb c m false)=>VK h hc (by rw[e];exact hn) (by rw[e];exact hLc.1) (by omega))
 have HDN:Hid (∀j,c.act≤j->j<a.n->(xh (cpS a.n S) (undS c false pl wd m (eN 1 r))).now j=K j):=fun j a b=>((Ww (st:=false) hLc).clean j a b).1
 have HN:=hid (And.intro hn8 hci)
 have hB:=At.new w (cfgO c)
 have K0:=(xe.refl [] w).alloc (cfgO c)
 clear hL hLc hci hn8 h hn hr
 go_enter Tryz.func75,Tryz.ntmps75
 go_upto_region 1 with fail
 obtain⟨w0,hw0⟩:∃w0,w0=w.alloc (cfgO c):=⟨_,rfl⟩
 obtain⟨bc,hbc⟩:∃bc,bc=w.heap.size:=⟨_,rfl⟩
 rw[<-hw0]at hB K0⊢
 rw[<-hbc]at hB⊢
 have HS:Hid (∀w',xe [] w0 w'->(w'.cell? ⟨bc,0,none⟩=some (.int .i64 c.log)/\w'.cell? ⟨bc,1,none⟩=some (.int .i64 c.roots)/\w'.cell? ⟨bc,2,none⟩=some (.int .i64 c.space))):=fun w' hk=>⟨(hk.at hB (by simp)).cell 0 rfl,(hk.at hB (by simp)).cell 1 rfl,(hk.at hB (by simp)).cell 2 rfl⟩
 have HK0:=hid K0
 have hw00:w.heap.size≤w0.heap.size:=K0.size
 have HW00:=hid hw00
 clear hw0 hbc hB K0 hw00
 go_wp2_with fail
 refine(xas (-1) w0).mono ?_
 rintro e w1 ⟨rfl,hp1,hz1,k1⟩
 obtain⟨p',hp'⟩:∃p',p'=w0.heap.size:=⟨_,rfl⟩
 rw[<-hp']at hp1⊢
 have HK1:=hid (HK0.out.trans k1)
 have HP1:=hid hp1
 have HZ1:=hid (show w1.heap.size=w0.heap.size+1/\p'=w0.heap.size from⟨hz1,hp'⟩)
 have HKK1:=hid k1
 clear hp' hp1 hz1 k1
 have HWW:=hid (HW.out w1 HK1.out)
 go_wp2_with fail
 refine HWW.out.mono ?_
 rintro e w2 ⟨v,rfl,hv,k2⟩
 obtain⟨g,cap,rfl,hg1,hg2,hcap,hrd⟩:=hv.reads
 have HDV:=hid (xbd w2 p' (some ⟨g,0,none⟩) a.n cap a.L S.now hrd (by have:=HN.out.1;omega) (by have:=HN.out.2;omega) (by have:=HZ1.out.1;have:=HZ1.out.2;have:=k2.size;omega))
 have HK2:=hid k2
 clear hv hg1 hg2 hcap hrd k2 HWW
 go_wp2_with fail
 refine HDV.out.mono ?_
 rintro e w3 ⟨a',rfl,hL',hD',d1,d2,d3,d4,k3⟩
 have hna:a'.n=a.n:=by rw[DA.n8,DA.n8,hL']
 have hPw:Pw w3 p' a' (-1) 0 (cpS a.n S):=⟨hD',(HK2.out.trans k3).at HP1.out (by simp),by omega,.inl (by omega)⟩
 have HD1:=hid (show w.heap.size≤a'.d/\w.heap.size≤a'.s/\w.heap.size≤a'.k/\w.heap.size≤a'.m/\w.heap.size≤p' by
  have h1:=HK1.out.size
  have h2:=HK2.out.size
  have h3:=HZ1.out
  have h4:=HW00.out
  have h5:=HKK1.out.size
  omega)
 have HOP:=hid (HLO.out w3 p' a' hna hPw)
 have HNA:=hid hna
 have HK3:=hid ((HKK1.out.trans HK2.out).trans k3)
 obtain⟨s0,s1,s2⟩:=HS.out w3 HK3.out
 clear hL' hD' d1 d2 d3 d4 hPw hna k3 HDV
 go_wp2_with fail
 refine HOP.out.mono ?_
 rintro e w4 ⟨lb,rfl,hlb,hLW,k4⟩
 have HU:=hid (HUN.out w4 p' a' lb HNA.out hLW)
 have HL4:=hid (show w.heap.size≤lb by have h1:=HK0.out.size;have h2:=HK3.out.size;omega)
 have HK4:=hid k4
 clear hlb hLW k4 HOP s0 s1 s2
 go_wp2_with fail
 refine HU.out.mono ?_
 rintro e w5 hR
 obtain⟨rfl,hLW5,k5⟩:=hR.free (by omega)
 have HE:Hid (Dev w5 p' a' (xh (cpS a.n S) (undS c false pl wd m (eN 1 r)))/\xe [] w w5):=⟨hLW5.pw.dev,((HK0.out.trans HK3.out).trans HK4.out).new k5 fun b hb=>by
  have h1:=HD1.out
  have h2:=HL4.out
  simp only[List.mem_cons,List.not_mem_nil,or_false]at hb
  exact .inr (by rcases hb with rfl|rfl|rfl|rfl|rfl<;>omega)⟩
 clear hR hLW5 k5
 go_wp2_with fail
 go_ret
 exact⟨p',a',_,rfl,HNA.out,HE.out.1,HDN.out,HE.out.2⟩
structure OpnW (p:Nat) (a:DA) (c:Cfg) (K:Nat->Int) (k us:Nat) (rs:List Nat) (os:List (Nat×Nat)) (u:Int) (r:Nat) (w:World) (H:HpC) (V:HpV) (w':World):Prop where
 hp:H.p=p/\H.a=a/\H.c=c
 h:HpW H (-1) V w'
 v:V.st=.shut/\V.k=k/\V.us=us/\V.rs=rs/\V.os=os/\V.m=0/\V.g=(fun _=>0)/\V.cv=.pointer none
 now:∀j,c.act≤j->j<a.n->V.S.now j=K j
 fix:∀j,j<a.n->Fix V.S j (V.S.now j)
 u:V.u≤u+20000
 r:V.r≤r+1
 li:∃pl wd,LI c a.n 1 V.r 0 pl wd K V.S
 own:∀b∈H.hb::(H.x.bl++ [H.q.b,H.q.lb,H.q.rb,H.q.ub]),w.heap.size≤b
 keep:xe [p,a.s,a.k,a.m] w w'
theorem xcd {S:DS} {c:Cfg} {n r m:Nat} {pl:Nat->Nat} {wd:Nat->Int} {z:Int} (h:LR c n 1 r m pl wd S) (hn:n≤15000) (hz:jT S.now c n m z):z= -1:=by
 rcases hz with⟨h1,_⟩|⟨i,h1,_,h2,_⟩
 ·exact h1
 ·obtain⟨_,g1,_,g2,g3⟩:=h.recs i h1
  refine absurd ⟨?_,?_⟩ h2<;>
  ·rw[show 17+4*i=16+4*i+1 by omega,g1.1,zk _ (by omega)]
   omega
theorem xcc {S:DS} {c:Cfg} {L r m:Nat} {pl:Nat->Nat} {wd K:Nat->Int} (h:LI c (8*L) 1 r m pl wd K S) (hs:SupS c S):
  LI c (8*L) 1 (rS m r) 0 pl wd K (xh (xh S (undS c false pl wd m (eN 1 r))) (ym L))/\SupS c (xh (xh S (undS c false pl wd m (eN 1 r))) (ym L))/\
  (∀j,j<8*L->Fix (xh (xh S (undS c false pl wd m (eN 1 r))) (ym L)) j ((xh (xh S (undS c false pl wd m (eN 1 r))) (ym L)).now j))/\∀j,c.act≤j->j<8*L->(xh (xh S (undS c false pl wd m (eN 1 r))) (ym L)).now j=K j:=by
 have ha:=Y8 c
 have h1:=Ww (st:=false) h
 have hp:∀(T:DS) j,Pre T (xh T (ym L)) j:=fun T j=>xy fun y hy=>Xt hy j
 have h2:LI c (8*L) 1 (rS m r) 0 pl wd K (xh (xh S (undS c false pl wd m (eN 1 r))) (ym L)):=h1.pre (fun j _=>hp _ j) fun j _ _ _=>hp _ j
 refine⟨h2,(hs.p8 (P8.ex fun y hy j hj=>?_)).p8 (P8.ex fun y hy j hj=>Xt hy j),fun j hj=>?_,fun j a b=>(h2.clean j a b).1⟩
 ·unfold undS at hy
  split at hy
  ·cases hy
  ·exact Qz (fun i hi e=>by have:=(h.1.recs i hi).2.2.2.1;omega) (by omega) _ y hy
 ·rw[Ve]
  exact Vf _ _ hj
theorem xeI {w w7 w8:World} {p:Nat} {a:DA} {u u':Int} {S2:DS} {q:Sc} {c:Cfg} {st:Bool} {U:Int->Option Value} {x:Tb} {r m:Nat} {pl:Nat->Nat} {wd K:Nat->Int} {k us:Nat} {rs:List Nat} {os:List (Nat×Nat)}
  (h7:SW w7 p a (-1) u' S2 q c 0 st false 0 0 (fun _=>none) U) (hU:UIn U a.n) (hk:xe [p,a.s,a.k,a.m] w w7) (h78:xe [] w7 w8) (hT:TabW w8 x 0 (fun _=>0)) (hx:∀b∈x.bl,w7.heap.size≤b)
  (hq:w.heap.size≤q.b/\w.heap.size≤q.lb/\w.heap.size≤q.rb/\w.heap.size≤q.ub)
  (hL:LI c a.n 1 (rS m r) 0 pl wd K S2/\SupS c S2/\(∀j,j<a.n->Fix S2 j (S2.now j))/\∀j,c.act≤j->j<a.n->S2.now j=K j) (hH:HepS S2 c a.n k us rs os) (hu:u'≤u+20000) (hc:c.Ok) (hn:c.words=a.n) (hn4:a.n≤4000):
  OpnW p a c K k us rs os u r w ⟨w8.heap.size,p,a,q,x,c⟩ ⟨u',S2,rS m r,.shut,k,us,rs,os,0,fun _=>0,.pointer none⟩ (w8.alloc (hpO a.d c q.b x.t (.pointer none))):=by
 obtain⟨l1,l2,l3,l4⟩:=hL
 have k8:xe [] w8 (w8.alloc (hpO a.d c q.b x.t (.pointer none))):=(xe.refl [] w8).alloc _
 have hsz:=hk.size
 have hsz7:=h78.size
 have hlt:=h7.lts
 have hxl:=hT.lt
 have hS8:yH p a (-1) u' S2 q c (rS m r) (w8.alloc (hpO a.d c q.b x.t (.pointer none))):=⟨st,0,0,_,U,pl,wd,(h7.keep0 h78).keep0 k8,l1.1,hU⟩
 have hrs:rS m r≤r+1:=by unfold rS;split<;>omega
 refine⟨⟨rfl,rfl,rfl⟩,⟨At.new _ _,?_,hT.keep k8 (by simp),hH,hc,hn,hn4,l2,fun n h=>absurd rfl h,?_,?_⟩,⟨rfl,rfl,rfl,rfl,rfl,rfl,rfl,rfl⟩,l4,l3,hu,hrs,⟨pl,wd,l1⟩,?_,hk.trans ((h78.trans k8).mono (by simp))⟩
 ·exact hS8.shutH fun j _ h2 _=>l3 j h2
 ·intro b hb h'
  have h1:=hlt b h'
  rcases List.mem_cons.1 hb with rfl|hb
  ·have h2:w8.heap.size<w7.heap.size:=h1
   omega
  ·have:=hx b hb
   omega
 ·intro hb
  have h2:w8.heap.size<w8.heap.size:=hxl _ hb
  omega
 ·intro b hb
  rcases List.mem_cons.1 hb with rfl|hb
  ·show w.heap.size≤w8.heap.size
   omega
  rcases List.mem_append.1 hb with hb|hb
  ·have:=hx b hb
   omega
  ·simp only[List.mem_cons,List.not_mem_nil,or_false]at hb
   rcases hb with rfl|rfl|rfl|rfl<;>omega
theorem JV (w:World) (p:Nat) (a:DA) (u:Int) (S:DS) (c:Cfg) (h:Pw w p a (-1) u S) (hc:c.Ok) (hn:c.words=a.n) (hn4:a.n≤4000) (hs:SupS c S) {r m:Nat} {pl:Nat->Nat} {wd:Nat->Int} {K:Nat->Int} (hL:LI c a.n 1 r m pl wd K S) (hr:r<4294967290) {k us:Nat} {rs:List Nat} {os:List (Nat×Nat)} (hH:HepS (dsN K) c a.n k us rs os) (hu:u≤1000000000000):
  Calls Tryz.prog 20 #[ptr a.d] w fun e w'=>∃H V,e=.returned (.tuple #[ptr H.hb,.int .i64 0])/\OpnW p a c K k us rs os u r w H V w':=by
 have hci:=c_in hc hn
 have hlo:=h.lo
 obtain⟨k1,k2,k3,k4⟩:=xcc (L:=a.L) hL hs
 obtain⟨S2,hS2⟩:∃S2,S2=xh (xh S (undS c false pl wd m (eN 1 r))) (ym a.L):=⟨_,rfl⟩
 rw[<-hS2]at k1 k2 k3 k4
 have HK:=hid (And.intro k1 (And.intro k2 (And.intro k3 k4)))
 have HRD:=hid (fun(w':World) (hk:xe [] w w')=>xb2 w' p a S c (h.keep0 hk).dev hc hn hs)
 have HSN:=hid (fun(w':World) (hk:xe [] w w')=>VO (h.keep0 hk) hc hn hL.1 (by omega))
 have HGD:=hid (fun(w':World) (q:Sc) (hL':LW w' p a (-1) u S q.lb c m false)=>xd6 hL' hc.small hL.1.le hci.1)
 have HGA:=hid (fun(z:Int) (hz:jT S.now c a.n m z)=>xcd hL.1 hci.2.2.2.2 hz)
 have HUD:=hid (fun(w':World) (hk:xe [] w w')=>qR w' p a S c (h.keep0 hk).dev hc hn hL hr)
 have HCK:=hid (fun(w':World) (p':Nat) (a':DA) (S':DS) (ea:a'.n=a.n) (hD:Dev w' p' a' S') (hk:∀j,c.act≤j->j<a.n->S'.now j=K j)=>by
  have h1:HepS S' c a.n k us rs os:=hH.same hn fun j a b=>hk j a b
  have h2:=Y4 w' p' a' S' c hD hc (by rw[ea];exact hn) k us os false h1.k1 h1.act h1.used h1.chn h1.wd
  rw[h1.ok]at h2
  exact h2)
 have HUN:=hid (fun(w':World) (q:Sc) (hL':LW w' p a (-1) u S q.lb c m false)=>VK hL' hc hn hL.1 (by omega))
 have HUL:=jU (st:=false) (pl:=pl) (wd:=wd) hc hL.1.le (eN 1 r)
 have HKP:=hid (fun(w':World) (u':Int) (S':DS) (h':Pw w' p a (-1) u' S') (hu':u'≤u+600)=>xaR w' p a (-1) u' S' h' ⟨by omega,by have:=a.n8;omega⟩)
 have HH:=hid (show HepS S2 c a.n k us rs os from hH.same hn fun j a b=>k4 j a b)
 have HX:=hid (And.intro HUL (And.intro hlo (And.intro hci (And.intro hc (And.intro hn hn4)))))
 have HLT:Hid (∀b∈[p,a.s,a.k,a.m,a.d],b<w.heap.size):=fun b hb=>by
  simp only[List.mem_cons,List.not_mem_nil,or_false]at hb
  rcases hb with rfl|rfl|rfl|rfl|rfl
  ·exact h.pow.lt
  ·exact h.dev.now.lt
  ·exact h.dev.kept.lt
  ·exact h.dev.map.lt
  ·exact h.dev.dev.lt
 clear h hs hL hr hH hu hci hlo k1 k2 k3 k4 HUL hc hn hn4
 go_enter Tryz.func20,Tryz.ntmps20
 go_wp2_with fail
 refine(HRD.out w (xe.refl _ _)).mono ?_
 rintro e w1 ⟨rfl,kr⟩
 go_upto_region 2 with fail
 have hB:=At.new w1 (cfgO c)
 have K0:=kr.trans ((xe.refl [] w1).alloc (cfgO c))
 obtain⟨w0,hw0⟩:∃w0,w0=w1.alloc (cfgO c):=⟨_,rfl⟩
 obtain⟨bc,hbc⟩:∃bc,bc=w1.heap.size:=⟨_,rfl⟩
 rw[<-hw0]at hB K0⊢
 rw[<-hbc]at hB⊢
 have HBC:Hid (w.heap.size≤bc/\bc<w0.heap.size):=⟨by rw[hbc];exact kr.size,hB.lt⟩
 have HS:Hid (∀T w',xe T w0 w'->bc∉T->(w'.cell? ⟨bc,0,none⟩=some (.int .i64 c.log)/\w'.cell? ⟨bc,1,none⟩=some (.int .i64 c.roots)/\w'.cell? ⟨bc,2,none⟩=some (.int .i64 c.space))):=fun T w' hk hb=>⟨(hk.at hB hb).cell 0 rfl,(hk.at hB hb).cell 1 rfl,(hk.at hB hb).cell 2 rfl⟩
 have HK0:=hid K0
 clear hw0 hbc hB K0 kr
 obtain⟨s0,s1,s2⟩:=HS.out [] w0 (xe.refl _ _) (by simp)
 have HSN0:=hid (HSN.out w0 HK0.out)
 go_wp2_with fail
 refine HSN0.out.mono ?_
 rintro e w2 ⟨q,U,rfl,hSW,hUI,k2,n1,n2,n3,n4⟩
 have HSW:=hid hSW
 have HUI:=hid hUI
 have HQ2:=hid n2
 have HQ:=hid (show w.heap.size≤q.b/\w.heap.size≤q.lb/\w.heap.size≤q.rb/\w.heap.size≤q.ub by have:=HK0.out.size;omega)
 have HK2:=hid k2
 have c0:=hSW.sec.cell 0 rfl
 have HG2:=hid (HGD.out w2 q hSW.lw)
 clear hSW hUI n1 n2 n3 n4 k2 s0 s1 s2 HSN0
 go_wp2_with fail
 refine HG2.out.mono ?_
 rintro e w3 ⟨z,rfl,kg,hz⟩
 obtain rfl:=HGA.out z hz
 have HK3:=hid (HK2.out.trans kg)
 have HKG:=hid kg
 clear hz kg c0
 have t0:decide ((0:Int)≤-1)=false:=rfl
 go_upto_region 7 with fail
 have kk:xe [] w3 w3.drew:=(xe.refl _ _).drew
 go_region_held2 (fun w'=>w'.cell? ⟨bc,0,none⟩=some (.int .i64 c.log)∧w'.cell? ⟨bc,1,none⟩=some (.int .i64 c.roots)∧w'.cell? ⟨bc,2,none⟩=some (.int .i64 c.space))
  (exact HS.out [] _ (HK3.out.trans kk) (by simp))
  (first
    |(go_at_call 74;refine(HCK.out _ p' a' S' ea hD hj).mono ?_;rintro e w5 ⟨rfl,k5⟩;have kk:=kk.trans k5)
    |(go_at_call 75;refine(HUD.out _ ((HK0.out.trans HK3.out).trans kk)).mono ?_;rintro e w4 ⟨p',a',S',rfl,ea,hD,hj,k4⟩;have kk:=kk.trans k4))
 rename_i hHd
 clear hHd ea hD hj k4 k5
 have HK5:=hid (HK3.out.trans kk)
 have hS5:=HSW.out.keep0 (HKG.out.trans kk)
 have c0:=hS5.sec.cell 0 rfl
 have HU5:=hid (HUN.out w5 q hS5.lw)
 have HS5:=hid hS5
 clear hS5 kk HUD HCK HGD HGA HRD HSN HUN
 go_wp2_with fail
 refine HU5.out.mono ?_
 rintro e w6 hR
 obtain⟨rfl,hLW6,k6⟩:=hR.free HX.out.2.1
 have hS6:=HS5.out.log hLW6 k6
 have HKP6:=hid (HKP.out w6 _ _ hS6.lw.pw (by have:=HX.out.1;omega))
 have HS6:=hid hS6
 have HK6:=hid k6
 clear hR hLW6 hS6 k6 c0
 go_wp2_with fail
 refine HKP6.out.mono ?_
 rintro e w7 hR
 obtain⟨rfl,h7,k7⟩:=hR.free (by have:=HX.out.2.1;omega)
 rw[<-hS2]at h7
 have hS7:=HS6.out.next h7 k7
 have HS7:=hid hS7
 have HK7:Hid (xe [p,a.s,a.k,a.m,q.lb] w0 w7):=((HK5.out.mono (by simp)).trans HK6.out).trans k7.lg
 have hlen:u+((undS c false pl wd m (eN 1 r)).length:Int)+((ym a.L).length:Int)≤u+20000:=by
  have h1:=HX.out.1
  have h2:=HX.out.2.2.1
  have h3:=a.n8
  rw[zy]
  omega
 obtain⟨u7,hu7⟩:∃u7,u7=u+((undS c false pl wd m (eN 1 r)).length:Int)+((ym a.L).length:Int):=⟨_,rfl⟩
 rw[<-hu7]at HS7 hlen
 have HU7:=hid hlen
 have HBT:Hid (bc∉[p,a.s,a.k,a.m,q.lb]):=fun hb=>by
  have h1:=HBC.out
  have h2:=HLT.out
  have h3:=HQ2.out
  simp only[List.mem_cons,List.not_mem_nil,or_false]at hb
  rcases hb with rfl|rfl|rfl|rfl|rfl
  ·have:=h2 _ (List.mem_cons_self ..);omega
  ·have:=h2 a.s (by simp);omega
  ·have:=h2 a.k (by simp);omega
  ·have:=h2 a.m (by simp);omega
  ·omega
 have HHN:=hid (fun w':World=>xaO w')
 clear hR h7 hS7 k7 hlen hu7 HKP HKP6 HU5 HS5 HS6 hS2
 go_upto_region 12 with fail
 have kk:xe [] w7 w7.drew:=(xe.refl _ _).drew
 go_region_held2 (fun w'=>w'.cell? ⟨bc,0,none⟩=some (.int .i64 c.log)∧w'.cell? ⟨bc,1,none⟩=some (.int .i64 c.roots)∧w'.cell? ⟨bc,2,none⟩=some (.int .i64 c.space))
  (exact HS.out _ _ (HK7.out.trans (xe.mono (S:=[]) (by repeat first|exact kk|apply xe.drew|apply xe.alloc|exact xe.refl _ _) (by simp))) HBT.out)
  (first
    |(go_at_call 78;refine(HHN.out _).mono ?_;rintro e w8 ⟨x,rfl,hT,k8,hx⟩;have hz:=kk.size;have kk:=kk.trans k8))
 rename_i hHd
 clear hHd
 have hx7:∀b∈x.bl,w7.heap.size≤b:=fun b hb=>Nat.le_trans hz (hx b hb)
 have hkw:xe [p,a.s,a.k,a.m] w w7:=(HK0.out.mono (by simp)).new HK7.out fun b hb=>by
  have h1:=HQ.out.2.1
  simp only[List.mem_cons,List.not_mem_nil,or_false]at hb⊢
  rcases hb with e|e|e|e|e
  ·exact .inl (.inl e)
  ·exact .inl (.inr (.inl e))
  ·exact .inl (.inr (.inr (.inl e)))
  ·exact .inl (.inr (.inr (.inr e)))
  ·exact .inr (by omega)
 have HE:=hid (xeI HS7.out HUI.out hkw kk hT hx7 HQ.out HK.out HH.out HU7.out HX.out.2.2.2.1 HX.out.2.2.2.2.1 HX.out.2.2.2.2.2)
 clear hz kk hT k8 hx hx7 hkw
 go_wp2_with fail
 go_ret2
 exact⟨_,_,rfl,HE.out⟩
open Go.RowKit Go.OpenShut
section
variable {H:HpC} {l:Int} {V:HpV} {w w':World} {e:Ending}
theorem HpX.no {Q:(Nat->Int)->Prop} :¬HpX H (-1) V Q w e w':=fun h=>by
 obtain⟨_,⟨S',h1,_⟩,_⟩:=h
 have:=h1.lo
 omega
theorem GonP.no:¬GonP H (-1) V w':=fun h=>by
 obtain⟨S',h1,_⟩:=h
 have:=h1.lo
 omega
theorem HpW.tabs (h:HpW H l V w) {m:Nat} {g:Nat->Nat} (hT:TabW w' H.x m g) (hk:xe H.x.bl w w') (hg:∀n,g n≠0->Stt H.c V.k V.os (g n)):HpW H l { V with m:=m,g:=g } w':=by
 refine⟨hk.at h.ob h.hx,?_,hT,h.hep,h.ok,h.n,h.n4,h.sup,hg,h.ap,h.hx⟩
 have:=h.sec.keep hk fun b hb h'=>h.ap'.2 b h' hb
 exact this
section
variable {m:Nat} {pl:Nat->Nat} {D:Nat->Int} {u0:Nat} {rs0:List Nat} {os0:List (Nat×Nat)} {code v:Int} {i:Nat}
theorem StoV.now {u':Int} {S':DS} {m':Nat} {pl':Nat->Nat} (h:StoV H V m pl u0 i v code u' S' m' pl') (h0:code=0):∀j,H.c.act≤j->j<H.a.n->S'.now j=if j=i then v else V.S.now j:=by
 rcases h with⟨h1,_⟩|⟨_,_,h2,_⟩
 ·omega
 ·exact h2
theorem StoV.sup {u':Int} {S':DS} {m':Nat} {pl':Nat->Nat} (h:StoV H V m pl u0 i v code u' S' m' pl') (hs:SupS H.c V.S):SupS H.c S':=by
 rcases h with⟨_,⟨_,rfl,_⟩,_⟩|⟨_,_,_,h3,_⟩
 ·exact hs
 ·exact hs.p8 h3
theorem StoV.u {u':Int} {S':DS} {m':Nat} {pl':Nat->Nat} (h:StoV H V m pl u0 i v code u' S' m' pl'):u'≤V.u+3000:=by
 rcases h with⟨_,⟨rfl,_⟩,_⟩|⟨_,_,_,_,h4⟩
 ·omega
 ·exact h4
theorem StoV.cd {u':Int} {S':DS} {m':Nat} {pl':Nat->Nat} (h:StoV H V m pl u0 i v code u' S' m' pl'):code=3\/code=0:=by
 rcases h with⟨h,_⟩|⟨h,_⟩
 ·exact .inl h
 ·exact .inr h
theorem SetP.fld (h:HpW H l V w) {t o:Nat} (ht:t<V.os.length) (ho:o<nL V.os t) {y:Nat} (hy:y<18446744073709551616) (hn:o<rL V.os t->y=0\/Stt H.c V.k V.os y)
  (hP:SetP H l V m pl D u0 rs0 os0 (H.c.frm V.k+posL V.os t+1+o) (y:Nat) code w') (hk:xe (H.q.bl H.p H.a) w w'):
  ∃u' S' m' pl',StoV H V m pl u0 (H.c.frm V.k+posL V.os t+1+o) (y:Nat) code u' S' m' pl'/\HpW H l { V with u:=u',S:=S',st:=.opn m' pl' D u0 rs0 os0 } w':=by
 obtain⟨u',S',m',pl',h1,h2⟩:=hP
 refine⟨u',S',m',pl',h1,h.next hk h2 ?_ (h1.sup h.sup) rfl rfl rfl h.hs⟩
 obtain⟨f1,f2,f3,f4,f5⟩:=h.fits ht
 rcases h1.cd with h0|h0
 ·rcases h1 with⟨_,⟨_,rfl,_⟩,_⟩|⟨h3,_⟩
  ·exact h.hep
  ·omega
 ·exact h.hep.field ht ho hy hn fun j a b=>h1.now h0 j a (by omega)
theorem SetP.rt (h:HpW H l V w) {j:Nat} (hj:j<H.c.roots) {y:Nat} (hy:y<9223372036854775808) (hn:y=0\/Stt H.c V.k V.os y)
  (hP:SetP H l V m pl D u0 rs0 os0 (H.c.root j) (y:Nat) code w') (hk:xe (H.q.bl H.p H.a) w w'):
  ∃u' S' m' pl',StoV H V m pl u0 (H.c.root j) (y:Nat) code u' S' m' pl'/\HpW H l { V with u:=u',S:=S',st:=.opn m' pl' D u0 rs0 os0,rs:=if code=0 then V.rs.set j y else V.rs } w':=by
 obtain⟨u',S',m',pl',h1,h2⟩:=hP
 refine⟨u',S',m',pl',h1,h.next hk h2 ?_ (h1.sup h.sup) rfl rfl rfl h.hs⟩
 have h3:=h.hep.us
 have h4:=xu (c:=H.c) V.k h.hep.k1
 have h5:=h.n
 rcases h1.cd with h0|h0
 ·rcases h1 with⟨_,⟨_,rfl,_⟩,_⟩|⟨h3,_⟩
  ·show HepS V.S H.c H.a.n V.k V.us (if code=0 then V.rs.set j y else V.rs) V.os
   rw[if_neg (by omega)]
   exact h.hep
  ·omega
 ·show HepS S' H.c H.a.n V.k V.us (if code=0 then V.rs.set j y else V.rs) V.os
  rw[if_pos h0]
  exact h.hep.setRoot hj hn hy fun i a b=>h1.now h0 i a (by omega)
end
theorem HpW.crash (h:HpW H l V w) (hst:V.st=.shut) (ch:Nat->Int):
  SupS H.c (xz V.S ch)/\(∃pl wd,LI H.c H.a.n 1 V.r 0 pl wd (xz V.S ch).now (xz V.S ch))/\HepS (dsN (xz V.S ch).now) H.c H.a.n V.k V.us V.rs V.os/\
  ∀j,H.c.act≤j->j<H.a.n->Zh H.c V.k V.us j=true->(xz V.S ch).now j=V.S.now j:=by
 have h1:=h.sec
 unfold SecP at h1
 rw[hst]at h1
 have hZ:∀j,H.c.act≤j->j<H.a.n->Zh H.c V.k V.us j=true->(xz V.S ch).now j=V.S.now j:=fun j a b d=>(xL V.S ch j _ (h1.fix a b d)).1
 obtain⟨st,f,t,R,U,pl,wd,_,h2,_⟩:=h1.shutL
 have hact:16+4*H.c.log≤H.c.act:=(xD (16+4*H.c.log)).1
 have hus:=h.hep.us
 have hfr:=xu (c:=H.c) V.k h.hep.k1
 have hn:=h.n
 have hre:=xH H.c
 have hfg:=xK (c:=H.c) V.k
 refine⟨h.sup.p8 fun j _=>xL _ _ _,⟨pl,wd,LI.none (h2.pre (xL _ _ _) (fun i hi=>absurd hi (Nat.not_lt_zero _)) fun i _ _=>xL _ _ _) fun j _ _=>⟨rfl,rfl,fun e=>by cases e⟩⟩,?_,hZ⟩
 exact h.hep.same2 (fun j a b=>hZ j a (by omega) (ZL.2 (.inl b))) fun j a b=>hZ j (by omega) (by omega) (ZL.2 (.inr ⟨a,b⟩))
end
open Go.RowKit Go.OpenShut
section
variable {H:HpC} {V:HpV} {w w':World} {e:Ending}
theorem xaI (h:HpW H (-1) V w) (hm:V.m≤900):
  Calls Tryz.prog 22 #[ptr H.hb] w fun e w'=>e=.returned (StaV V.us (szF V.S (rcF V.S H.c V.k V.us (V.rs++plcL V.m V.g))) (numL V.m V.g).length V.st.recs V.st.isO)/\xe [] w w':=
 xaH w H.hb V.st.recs V.st.isO H.q.lb h.ob h.pw.dev h.hep h.ok h.n h.tab hm ⟨h.sec.len.1,h.sec.lts _ (by simp[Sc.bl])⟩ (fun w' hk=>(h.keep0 hk).sec.len.2) fun w' hk=>(h.keep0 hk).sec.open
theorem xe0 (h:HpW H (-1) V w):Calls Tryz.prog 21 #[ptr H.hb] w fun e w'=>e=.returned (.int .i64 0)/\xe [] w w':=
 xaY w H.hb H.x.t h.ob h.pw.dev h.hep h.ok h.n
structure Cg (H:HpC) (V V':HpV):Prop where
 eq:V'.k=V.k/\V'.us=V.us/\V'.os=V.os/\V'.m=V.m/\V'.g=V.g/\V'.r=V.r
 u:V'.u≤V.u+3000
theorem Wn (h:HpW H (-1) V w) (hst:V.st=.shut) (hu:V.u≤400000000000) (hr:V.r<4294967290) (hm:V.m≤900) (h0:V.us=0):
  Calls Tryz.prog 31 #[ptr H.hb,.int .i64 0] w fun e w'=>e=.returned (.int .i64 0)/\∃V' pl D,HpW H (-1) V' w'/\Cg H V V'/\V'.rs=V.rs/\V'.S.now=V.S.now/\V'.st=.opn 0 pl D 0 V.rs V.os/\xe H.bl w w':=by
 refine(xaZ h hu hr hm 0).mono ?_
 rintro e w' (⟨code,rfl,h1,hk,⟨h2,_⟩|⟨_,h2,_⟩⟩|⟨_,_,⟨V2,hR,hk,⟨h2,rfl,u',S',pl,h3,h4,h5⟩|⟨h2,_⟩⟩|hx⟩)
 ·rw[hst]at h2;cases h2
 ·omega
 ·have e2:V2= { V with cv:=.pointer none } :=by
   rcases hR with⟨h6,_⟩|⟨h6,_⟩
   ·exact h6
   ·omega
  subst e2
  refine⟨rfl,_,pl,V.S.now,h3,⟨⟨rfl,rfl,rfl,rfl,rfl,rfl⟩,h5⟩,rfl,h4,?_,hk⟩
  show Sst.opn 0 pl V.S.now V.us V.rs V.os=_
  rw[h0]
 ·omega
 ·exact absurd hx HpX.no
section
variable {m:Nat} {pl:Nat->Nat} {D:Nat->Int} {rs0:List Nat} {os0:List (Nat×Nat)}
theorem Yn (h:HpW H (-1) V w) (hst:V.st=.opn m pl D 0 rs0 os0) (hu:V.u≤400000000000) (hr:V.r<4294967290) (hm:V.m<1000) (nn rr:Nat) (hn:nn≤64) (hrr:rr≤nn) (hsp:V.us+(nn+1)≤H.c.space) (hlog:m<H.c.log):
  Calls Tryz.prog 32 #[ptr H.hb,hdV (nn:Nat) (rr:Nat)] w fun e w'=>e=.returned (.tuple #[.int .i64 (V.m+1:Nat),.int .i64 0])/\∃V' m' pl',HpW H (-1) V' w'/\(V'.k=V.k/\V'.us=V.us+(nn+1)/\V'.rs=V.rs/\V'.os=V.os++ [(nn,rr)]/\V'.m=V.m+1/\V'.g=upd V.g (V.m+1) (H.c.frm V.k+V.us)/\V'.r=V.r)/\V'.u≤V.u+300000/\AloN H V nn rr V'.S/\
   V'.st=.opn m' pl' D 0 rs0 os0/\AloM H m pl m' pl'/\xe H.bl w w':=by
 have hB:hdB (nn:Nat) (rr:Nat)=true:=by
  unfold hdB
  simp only[Bool.and_eq_true,decide_eq_true_eq]
  omega
 refine(xa1 h hu hr hm nn rr).mono ?_
 rintro e w' (⟨code,rfl,h1,hk,⟨h2,_⟩|⟨_,h2⟩⟩|⟨n2,r2,m2,pl2,D2,u2,rs2,os2,e1,e2,e3,_,_,_,rfl,hk,u',S',m',pl',h1,h2,h3,h4⟩|hx)
 ·rw[hst]at h2;cases h2
 ·rcases h2 with⟨h2,_⟩|⟨n3,_,h3,h4,_⟩|⟨n3,m3,pl3,D3,u3,rs3,os3,h3,_,_,_,h4,_⟩
  ·rw[hB]at h2;cases h2
  ·omega
  ·rw[hst]at h3
   injection h3 with q1
   omega
 ·rw[hst]at e1
  injection e1 with q1 q2 q3 q4 q5 q6
  subst q1 q2 q3 q4 q5 q6
  obtain rfl:n2=nn:=by omega
  obtain rfl:r2=rr:=by omega
  exact⟨rfl,_,m',pl',h2,⟨rfl,rfl,rfl,rfl,rfl,rfl,rfl⟩,h3,h4,rfl,h1,hk⟩
 ·exact absurd hx HpX.no
theorem StoV.fresh (h:HpW H (-1) V w) {t o:Nat} (ht:t<V.os.length) (ho:o<nL V.os t) {v:Int} {code u':Int} {S':DS} {m':Nat} {pl':Nat->Nat} (hv:StoV H V m pl 0 (H.c.frm V.k+posL V.os t+1+o) v code u' S' m' pl'):code=0/\m'=m/\pl'=pl:=by
 have h1:=xE ht
 have h2:=h.hep.chn.le
 have h3:=h.hep.us
 rcases hv with⟨_,_,h4,_⟩|⟨h0,⟨h4,h5,_⟩|⟨_,_,_,h4,_⟩,_⟩
 ·omega
 ·exact⟨h0,h4,h5⟩
 ·omega
theorem xaG (h:HpW H (-1) V w) (hst:V.st=.opn m pl D 0 rs0 os0) (hu:V.u≤400000000000) (hr:V.r<4294967290) {z:Int} {t j y:Nat} (ht:t<V.os.length) (hz:numA V.g z=H.c.frm V.k+posL V.os t) (h1:rL V.os t≤j) (h2:j<nL V.os t) (hy:y<18446744073709551616):
  Calls Tryz.prog 43 #[ptr H.hb,.int .i64 z,.int .i64 (j:Nat),.int .u64 (y:Nat)] w fun e w'=>e=.returned (.int .i64 0)/\∃V',HpW H (-1) V' w'/\Cg H V V'/\V'.rs=V.rs/\V'.st=V.st/\
   (∀i,H.c.act≤i->i<H.a.n->V'.S.now i=if i=H.c.frm V.k+posL V.os t+1+j then(y:Int)else V.S.now i)/\xe H.bl w w':=by
 refine(xaF h hu hr z j y).mono ?_
 have hf:=h.fits ht
 rintro e w' (⟨code,rfl,_,⟨h3,_⟩|⟨_,h3,_⟩⟩|⟨t2,m2,pl2,D2,u2,rs2,os2,e1,ht2,hz2,h3,hk⟩)
 ·rw[hst]at h3;cases h3
 ·omega
 ·rw[hst]at e1
  injection e1 with q1 q2 q3 q4 q5 q6
  subst q1 q2 q3 q4 q5 q6
  obtain rfl:t2=t:=zL (Nat.le_of_lt ht2) (Nat.le_of_lt ht) (by omega)
  rcases h3 with⟨code,rfl,h3|⟨j2,e2,h4,h5,h6⟩⟩|⟨rfl,h3⟩
  ·exact absurd (h3.2.1.trans (vg (by omega) (by omega) (by rw[decide_eq_false_iff_not];omega))) h3.1
  ·obtain rfl:j2=j:=by omega
   have h7:¬j2<rL V.os t2:=by omega
   obtain⟨u',S',m',pl',g1,g2⟩:=SetP.fld h ht h4 hy (fun h=>absurd h h7) h6 hk
   obtain⟨rfl,rfl,rfl⟩:=g1.fresh h ht h4
   refine⟨rfl,_,g2,⟨⟨rfl,rfl,rfl,rfl,rfl,rfl⟩,g1.u⟩,rfl,hst.symm,g1.now rfl,hk.mono fun b _ hb=>bl_q hb⟩
  ·exact absurd h3 GonP.no
theorem jC (h:HpW H (-1) V w) (hst:V.st=.opn m pl D 0 rs0 os0) (hu:V.u≤400000000000) (hr:V.r<4294967290) {z z2:Int} {t j:Nat} (ht:t<V.os.length) (hz:numA V.g z=H.c.frm V.k+posL V.os t) (h2:j<rL V.os t) (hz2:numA V.g z2≠0):
  Calls Tryz.prog 38 #[ptr H.hb,.int .i64 z,.int .i64 (j:Nat),.int .i64 z2] w fun e w'=>e=.returned (.int .i64 0)/\∃V',HpW H (-1) V' w'/\Cg H V V'/\V'.rs=V.rs/\V'.st=V.st/\
   (∀i,H.c.act≤i->i<H.a.n->V'.S.now i=if i=H.c.frm V.k+posL V.os t+1+j then((numA V.g z2:Nat):Int)else V.S.now i)/\xe H.bl w w':=by
 refine(xaM h hu hr z j z2).mono ?_
 have hf:=h.fits ht
 have hst2:=h.hs _ (by rw[(vE hz2).2];exact hz2)
 rw[(vE hz2).2]at hst2
 have hlt:=hst2.lt h.hep
 have hfs:=xu (c:=H.c) V.k h.hep.k1
 have hus:=h.hep.us
 have hn:=h.n
 have hn4:=h.n4
 rintro e w' (⟨code,rfl,_,⟨h3,_⟩|⟨_,h3,_⟩⟩|⟨t2,m2,pl2,D2,u2,rs2,os2,e1,ht2,hz3,_,h3,hk⟩)
 ·rw[hst]at h3;cases h3
 ·rcases h3 with h3|h3
  ·omega
  ·unfold plE at h3
   rw[if_pos (.inr hz2)]at h3
   exact absurd rfl h3
 ·rw[hst]at e1
  injection e1 with q1 q2 q3 q4 q5 q6
  subst q1 q2 q3 q4 q5 q6
  obtain rfl:t2=t:=zL (Nat.le_of_lt ht2) (Nat.le_of_lt ht) (by omega)
  rcases h3 with⟨code,rfl,h3|⟨j2,e2,h4,h5,h6⟩⟩|⟨rfl,h3⟩
  ·exact absurd (h3.2.1.trans (vg (by omega) (by omega) (by rw[decide_eq_true_iff];omega))) h3.1
  ·obtain rfl:j2=j:=by omega
   obtain⟨u',S',m',pl',g1,g2⟩:=SetP.fld h ht h4 (by omega) (fun _=>.inr hst2) h6 hk
   obtain⟨rfl,rfl,rfl⟩:=g1.fresh h ht h4
   refine⟨rfl,_,g2,⟨⟨rfl,rfl,rfl,rfl,rfl,rfl⟩,g1.u⟩,rfl,hst.symm,g1.now rfl,hk.mono fun b _ hb=>bl_q hb⟩
  ·exact absurd h3 GonP.no
theorem xaJ (h:HpW H (-1) V w) (hst:V.st=.opn m pl D 0 rs0 os0) (hu:V.u≤400000000000) (hr:V.r<4294967290) {z2:Int} {j:Nat} (hj:j<H.c.roots) (hz2:numA V.g z2≠0) (hlog:m<H.c.log):
  Calls Tryz.prog 39 #[ptr H.hb,.int .i64 (j:Nat),.int .i64 z2] w fun e w'=>e=.returned (.int .i64 0)/\∃V' m' pl',HpW H (-1) V' w'/\Cg H V V'/\V'.rs=V.rs.set j (numA V.g z2)/\V'.st=.opn m' pl' D 0 rs0 os0/\
   (∀i,H.c.act≤i->i<H.a.n->V'.S.now i=if i=H.c.root j then((numA V.g z2:Nat):Int)else V.S.now i)/\xe H.bl w w':=by
 refine(jA h hu hr j z2).mono ?_
 have hst2:=h.hs _ (by rw[(vE hz2).2];exact hz2)
 rw[(vE hz2).2]at hst2
 have hlt:=hst2.lt h.hep
 have hfs:=xu (c:=H.c) V.k h.hep.k1
 have hus:=h.hep.us
 have hn:=h.n
 have hn4:=h.n4
 rintro e w' (⟨code,rfl,_,⟨h3,_⟩|⟨_,h3,_⟩|⟨_,_,h3,_⟩⟩|⟨j2,m2,pl2,D2,u2,rs2,os2,e1,e2,hj2,_,h3,hk⟩)
 ·rw[hst]at h3;cases h3
 ·have:hasR H.c (j:Nat)=true:=by unfold hasR;simp;omega
  rw[this]at h3;cases h3
 ·unfold plE at h3
  rw[if_pos (.inr hz2)]at h3
  exact absurd rfl h3
 ·rw[hst]at e1
  injection e1 with q1 q2 q3 q4 q5 q6
  subst q1 q2 q3 q4 q5 q6
  obtain rfl:j2=j:=by omega
  rcases h3 with⟨code,rfl,h6⟩|⟨rfl,h3⟩
  ·obtain⟨u',S',m',pl',g1,g2⟩:=SetP.rt h hj (by omega) (.inr hst2) h6 hk
   have h0:code=0:=by
    rcases g1 with⟨_,_,_,_,h4⟩|⟨h4,_⟩
    ·omega
    ·exact h4
   subst h0
   rw[if_pos rfl]at g2
   exact⟨rfl,_,m',pl',g2,⟨⟨rfl,rfl,rfl,rfl,rfl,rfl⟩,g1.u⟩,rfl,rfl,g1.now rfl,hk.mono fun b _ hb=>bl_q hb⟩
  ·exact absurd h3 GonP.no
theorem Wm (h:HpW H (-1) V w) (hst:V.st=.opn m pl D 0 rs0 os0) (hu:V.u≤400000000000):
  Calls Tryz.prog 30 #[ptr H.hb] w fun e w'=>e=.returned (.int .i64 0)/\∃V',HpW H (-1) V' w'/\(V'.k=V.k/\V'.us=V.us/\V'.rs=V.rs/\V'.os=V.os/\V'.m=V.m/\V'.g=V.g)/\V'.st=.shut/\(∀i,H.c.act≤i->i<H.a.n->V'.S.now i=V.S.now i)/\V'.u≤V.u+3000/\V'.r≤V.r+1/\xe H.bl w w':=by
 refine(qT h hu).mono ?_
 rintro e w' (⟨h1,_⟩|⟨_,⟨rfl,u',S',r',h1,h2,h3,h4,hk⟩|hx⟩)
 ·rw[hst]at h1;cases h1
 ·exact⟨rfl,_,h1,⟨rfl,rfl,rfl,rfl,rfl,rfl⟩,rfl,h2,h3,h4,hk⟩
 ·exact absurd hx HpX.no
end
end
open Go.RowKit Go.OpenShut
theorem TkP.stt {m p t m1 k:Nat} {g g1:Nat->Nat} {c:Cfg} {os:List (Nat×Nat)} (h:TkP m g p t m1 g1) (hg:∀n,g n≠0->Stt c k os (g n)) (hp:p=0\/Stt c k os p):∀n,g1 n≠0->Stt c k os (g1 n):=by
 intro n hn
 rcases h with⟨_,_,_,rfl⟩|⟨h0,_,⟨_,rfl⟩|⟨_,_,rfl,_⟩⟩
 ·exact hg n hn
 ·exact hg n hn
 ·unfold upd at hn⊢
  split
  ·exact hp.resolve_left h0
  ·rename_i h1
   rw[if_neg h1]at hn
   exact hg n hn
section
variable {H:HpC} {l:Int} {V:HpV} {w w':World}
theorem HpW.ls_g (h:HpW H l V w) {n:Nat} (hn:V.g n≠0):V.g n∈V.LS H:=by
 unfold HpV.LS
 refine Wd.2 (.here (List.mem_append_right _ ?_) ((h.hs n hn).ob h.hep))
 unfold plcL
 exact List.mem_map.2 ⟨n,(Yl h.tab.bd n).2 hn,rfl⟩
theorem HepS.hd {S:DS} {c:Cfg} {n k u:Nat} {rs:List Nat} {os:List (Nat×Nat)} (h:HepS S c n k u rs os) {t:Nat} (ht:t<os.length):hdN (S.now (c.frm k+posL os t)).toNat=nL os t/\hdR (S.now (c.frm k+posL os t)).toNat=rL os t:=by
 obtain⟨h1,h2,h3⟩:=h.chn.head t _ (zU ht)
 have h4:nL os t≤64:=h1
 have h5:rL os t≤nL os t:=h2
 have h6:S.now (c.frm k+posL os t)=((hdPk (nL os t) (rL os t):Nat):Int):=h3
 rw[h6,Int.toNat_natCast]
 exact⟨XZ _ _ h4,YW _ _ h4 h5⟩
theorem HpW.went (h:HpW H l V w) {f:Nat->Int} (hC:ColV H V f) (hsz:szF V.S (V.LS H)≤H.c.space) {t:Nat} (ht:t<V.os.length) (hm:H.c.frm V.k+posL V.os t∈V.LS H):
  (∃t',t'<(hdL V.S (V.LS H)).length/\V.wt H (H.c.frm V.k+posL V.os t)=H.c.frm (1-V.k)+posL (hdL V.S (V.LS H)) t'/\nL (hdL V.S (V.LS H)) t'=nL V.os t/\rL (hdL V.S (V.LS H)) t'=rL V.os t)/\
  (∀j,j<rL V.os t->f (V.wt H (H.c.frm V.k+posL V.os t)+1+j)=((V.wt H (V.S.now (H.c.frm V.k+posL V.os t+1+j)).toNat:Nat):Int))/\
  ∀j,rL V.os t≤j->j<nL V.os t->f (V.wt H (H.c.frm V.k+posL V.os t)+1+j)=V.S.now (H.c.frm V.k+posL V.os t+1+j):=by
 obtain⟨S1,hp,hf⟩:=hC
 have hi:=yE hm
 obtain⟨e1,e2⟩:=h.hep.hd ht
 have hwt:V.wt H (H.c.frm V.k+posL V.os t)=plC V.S H.c V.k (V.LS H) ((V.LS H).idxOf (H.c.frm V.k+posL V.os t)):=by
  unfold HpV.wt wtC
  rw[if_pos hm]
 obtain⟨n1,n2⟩:=xeZ (S:=V.S) hi
 have hend:=zP (S:=V.S) (c:=H.c) (k:=V.k) hi
 rw[e1]at hend
 have hge:H.c.frm (1-V.k)≤plC V.S H.c V.k (V.LS H) ((V.LS H).idxOf (H.c.frm V.k+posL V.os t)):=by unfold plC;omega
 have hfr:=zB H.c (1-V.k)
 have hf0:=xK (c:=H.c) 0
 have hfs:=xu (c:=H.c) (1-V.k) (by omega)
 have hn:=h.n
 have hrn:rL V.os t≤nL V.os t:=(h.fits ht).2.1
 have hre:=xH H.c
 have hword:∀j,j<nL V.os t->f (plC V.S H.c V.k (V.LS H) ((V.LS H).idxOf (H.c.frm V.k+posL V.os t))+1+j)=S1.now (plC V.S H.c V.k (V.LS H) ((V.LS H).idxOf (H.c.frm V.k+posL V.os t))+1+j):=fun j hj=>by
  rw[hf _ (by omega) (by omega)]
  unfold blkF
  rw[if_neg (by omega),if_neg (by omega),if_neg (by omega)]
 refine⟨⟨(V.LS H).idxOf (H.c.frm V.k+posL V.os t),by unfold hdL;rw[List.length_map];exact List.idxOf_lt_length_iff.2 hm,by rw[hwt,Wl];rfl,by rw[n1,e1],by rw[n2,e2]⟩,fun j hj=>?_,fun j h1 h2=>?_⟩
 ·rw[hwt,hword j (by omega),hp.name _ _ hi j (by rw[e2];exact hj)]
  rfl
 ·rw[hwt,hword j h2,hp.num _ _ hi j (by rw[e2];exact h1) (by rw[e1];exact h2)]
structure Gr2 (H:HpC) (V:HpV) (A B:Nat):Prop where
 ab:A≠B
 m:V.m=2
 ga:V.g 1=A
 gb:V.g 2=B
 z:A≠0/\B≠0
 a:∃t,t<V.os.length/\A=H.c.frm V.k+posL V.os t/\nL V.os t=2/\rL V.os t=2
 b:∃t,t<V.os.length/\B=H.c.frm V.k+posL V.os t/\nL V.os t=1/\rL V.os t=1
 na0:V.S.now (A+1+0)=(B:Int)
 na1:V.S.now (A+1+1)=(A:Int)
 nb:V.S.now (B+1+0)=(A:Int)
 rt:V.rs.getD 0 0=B
theorem Gr2.col (h:HpW H l V w) {A B:Nat} (hG:Gr2 H V A B) {u':Int} {S':DS} {r':Nat} (hC:ColV H V S'.now) (h':HpW H l (V.col H u' S' r') w'):∃A' B',Gr2 H (V.col H u' S' r') A' B':=by
 have hsz:szF V.S (V.LS H)≤H.c.space:=h'.hep.us
 have ma:A∈V.LS H:=by rw[<-hG.ga];exact h.ls_g (by rw[hG.ga];exact hG.z.1)
 have mb:B∈V.LS H:=by rw[<-hG.gb];exact h.ls_g (by rw[hG.gb];exact hG.z.2)
 have za:V.wt H A≠0:=XB.2 ma
 have zb:V.wt H B≠0:=XB.2 mb
 have hab:V.wt H A≠V.wt H B:=fun e=>hG.ab (ZO zg ma e)
 obtain⟨t,ht,eA,n1,r1⟩:=hG.a
 obtain⟨s,hs,eB,n2,r2⟩:=hG.b
 obtain⟨⟨t',a1,a2,a3,a4⟩,a5,_⟩:=h.went hC hsz ht (by rw[<-eA];exact ma)
 obtain⟨⟨s',b1,b2,b3,b4⟩,b5,_⟩:=h.went hC hsz hs (by rw[<-eB];exact mb)
 rw[<-eA]at a2 a5
 rw[<-eB]at b2 b5
 refine⟨V.wt H A,V.wt H B,hab,hG.m,?_,?_,⟨za,zb⟩,⟨t',a1,a2,a3.trans n1,a4.trans r1⟩,⟨s',b1,b2,b3.trans n2,b4.trans r2⟩,?_,?_,?_,?_⟩
 ·show mvd (V.wt H) V.g 1=_
  unfold mvd
  rw[hG.ga,if_neg hG.z.1]
 ·show mvd (V.wt H) V.g 2=_
  unfold mvd
  rw[hG.gb,if_neg hG.z.2]
 ·show S'.now (V.wt H A+1+0)=_
  rw[a5 0 (by omega),hG.na0,Int.toNat_natCast]
 ·show S'.now (V.wt H A+1+1)=_
  rw[a5 1 (by omega),hG.na1,Int.toNat_natCast]
 ·show S'.now (V.wt H B+1+0)=_
  rw[b5 0 (by omega),hG.nb,Int.toNat_natCast]
 ·show(V.rs.map (V.wt H)).getD 0 0=_
  have h1:0<V.rs.length:=by rw[h.hep.rl];exact h.ok.1
  have h2:=hG.rt
  rw[List.getD_eq_getElem?_getD,List.getElem?_eq_getElem h1]at h2
  rw[List.getD_eq_getElem?_getD,List.getElem?_map,List.getElem?_eq_getElem h1]
  show V.wt H (V.rs[0])=_
  rw[show V.rs[0]=B from h2]
theorem xcy (h:HpW H (-1) V w) (hst:V.st=.shut) (hu:V.u≤400000000000) (hr:V.r<4294967290) (hm:V.m≤900):
  Calls Tryz.prog 35 #[ptr H.hb] w fun e w'=>e=.returned (.int .i64 0)/\∃u' S' r',ColV H V S'.now/\HpW H (-1) (V.col H u' S' r') w'/\u'≤V.u+2000000000/\r'≤V.r+1/\xe H.bl w w':=by
 refine(YX h hu hr hm).mono ?_
 rintro e w' (⟨h1,_⟩|⟨_,⟨rfl,u',S',r',h1,h2,h3,h4,h5⟩|hx⟩)
 ·rw[hst]at h1;cases h1
 ·exact⟨rfl,u',S',r',h1,h2,h3,h4,h5⟩
 ·exact absurd hx HpX.no
theorem Wj (h:HpW H (-1) V w) (hm:V.m<1000) {z:Int} {t j v:Nat} (ht:t<V.os.length) (hz:numA V.g z=H.c.frm V.k+posL V.os t) (hj:j<rL V.os t) (hv:V.S.now (H.c.frm V.k+posL V.os t+1+j)=(v:Int)):
  Calls Tryz.prog 40 #[ptr H.hb,.int .i64 z,.int .i64 (j:Nat)] w fun e w'=>∃(n m1:Nat) (g1:Nat->Nat),e=.returned (.tuple #[.int .i64 (n:Nat),.int .i64 0])/\TkP V.m V.g v n m1 g1/\HpW H (-1) { V with m:=m1,g:=g1 } w'/\xe H.bl w w':=by
 refine(xdW w H.hb z j h.ob h.pw.dev h.hep h.ok h.n h.tab h.hs h.n4 hm).mono ?_
 have hf:=h.fits ht
 rintro e w' ⟨n,m1,g1,code,rfl,hT,hk,⟨h1,_⟩|⟨s,hs,h1,h2,⟨h3,_⟩|⟨rfl,j2,v2,h4,h5,h6,h7⟩⟩⟩
 ·omega
 ·obtain rfl:s=t:=zL (Nat.le_of_lt hs) (Nat.le_of_lt ht) (by omega)
  exact absurd (h2.trans (vg (by omega) (by omega) (by rw[decide_eq_true_iff];omega))) h3
 ·obtain rfl:s=t:=zL (Nat.le_of_lt hs) (Nat.le_of_lt ht) (by omega)
  obtain rfl:j2=j:=by omega
  obtain rfl:v2=v:=by rw[hv]at h6;omega
  refine⟨n,m1,g1,rfl,h7,h.tabs hT hk fun i hi=>?_,hk.mono fun b _ hb=>bl_x hb⟩
  have hs2:v2=0\/Stt H.c V.k V.os v2:=by
   obtain⟨y,q1,q2⟩:=h.hep.name_ok ht hj
   obtain rfl:y=v2:=by rw[q1]at hv;omega
   exact q2
  exact h7.stt h.hs hs2 i hi
theorem jB (h:HpW H (-1) V w) (hm:V.m<1000) {j:Nat} (hj:j<H.c.roots):
  Calls Tryz.prog 41 #[ptr H.hb,.int .i64 (j:Nat)] w fun e w'=>∃(n m1:Nat) (g1:Nat->Nat),e=.returned (.tuple #[.int .i64 (n:Nat),.int .i64 0])/\TkP V.m V.g (V.rs.getD j 0) n m1 g1/\HpW H (-1) { V with m:=m1,g:=g1 } w'/\xe H.bl w w':=by
 refine(xcr w H.hb j h.ob h.hx h.pw.dev h.hep h.ok h.n h.tab h.n4 hm).mono ?_
 rintro e w' ⟨n,m1,g1,code,rfl,hT,hk,⟨h1,_⟩|⟨rfl,j2,h4,_,h7⟩⟩
 ·have:hasR H.c (j:Nat)=true:=by unfold hasR;simp;omega
  rw[this]at h1;cases h1
 ·obtain rfl:j2=j:=by omega
  exact⟨n,m1,g1,rfl,h7,h.tabs hT hk fun i hi=>h7.stt h.hs (h.hep.root_ok hj) i hi,hk.mono fun b _ hb=>bl_x hb⟩
end
end Go.Proofs.YtcdhklgahepcaaaGreat
