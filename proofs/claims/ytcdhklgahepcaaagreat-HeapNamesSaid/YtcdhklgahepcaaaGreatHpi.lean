import Derived.Test.YtcdhklgahepcaaaGreatHpc
import Derived.Test.YtcdhklgahepcaaaGreatAwk15
set_option maxHeartbeats 4000000
set_option maxRecDepth 100000
namespace Go.Proofs.YtcdhklgahepcaaaGreat
open Go.RowKit Go.OpenShut
structure HpC where
 hb:Nat
 p:Nat
 a:DA
 q:Sc
 x:Tb
 c:Cfg
inductive Sst where
 |shut
 |opn (m:Nat) (pl:Nat->Nat) (D:Nat->Int) (u0:Nat) (rs0:List Nat) (os0:List (Nat×Nat))
structure HpV where
 u:Int
 S:DS
 r:Nat
 st:Sst
 k:Nat
 us:Nat
 rs:List Nat
 os:List (Nat×Nat)
 m:Nat
 g:Nat->Nat
 cv:Value
def Zh (c:Cfg) (k u j:Nat):Bool:=decide (j<c.root c.roots)||(decide (c.frm k≤j)&&decide (j<c.frm k+u))
theorem ZL {c:Cfg} {k u j:Nat} :Zh c k u j=true↔j<c.root c.roots\/(c.frm k≤j/\j<c.frm k+u):=by simp[Zh]
def dsN (D:Nat->Int):DS:=⟨D,D,D,fun _=>false⟩
def SupS (c:Cfg) (S:DS):Prop:=Fix S 0 XX/\Fix S 1 (c.log:Int)/\Fix S 2 (c.roots:Int)/\Fix S 3 (c.space:Int)
theorem SupS.p8 {c:Cfg} {S S':DS} (h:SupS c S) (h8:P8 S S'):SupS c S':=⟨h8 0 (by omega) _ h.1,h8 1 (by omega) _ h.2.1,h8 2 (by omega) _ h.2.2.1,h8 3 (by omega) _ h.2.2.2⟩
def HpC.bl (H:HpC):List Nat:=H.hb::(H.x.bl++H.q.bl H.p H.a)
def SecP (H:HpC) (l:Int) (V:HpV) (w:World):Prop:=
 match V.st with
 | .shut=>yX (Zh H.c V.k V.us) H.p H.a l V.u V.S H.q H.c V.r w
 | .opn mr pl D u0 rs0 os0=>zF (Zh H.c V.k u0) (fun j=>H.c.frm V.k+u0≤j/\j<H.c.frm V.k+V.us) H.p H.a l V.u V.S H.q H.c mr V.r pl D ((H.c.frm V.k:Int)+(u0:Nat)) ((H.c.frm V.k:Int)+(H.c.space:Nat)) w/\
   HepS (dsN D) H.c H.a.n V.k u0 rs0 os0/\(∃t,V.os=os0++t)/\u0≤V.us
structure HpW (H:HpC) (l:Int) (V:HpV) (w:World):Prop where
 ob:At w H.hb (hpO H.a.d H.c H.q.b H.x.t V.cv)
 sec:SecP H l V w
 tab:TabW w H.x V.m V.g
 hep:HepS V.S H.c H.a.n V.k V.us V.rs V.os
 ok:H.c.Ok
 n:H.c.words=H.a.n
 n4:H.a.n≤4000
 sup:SupS H.c V.S
 hs:∀n,V.g n≠0->Stt H.c V.k V.os (V.g n)
 ap:∀b∈H.hb::H.x.bl,b∉H.a.d::H.q.bl H.p H.a
 hx:H.hb∉H.x.bl
def VF (c:Cfg) (n r:Nat) (Q:(Nat->Int)->Prop) (S':DS):Prop:=∀ch:Nat->Int,∃r' m pl wd K,r'≤r+4/\Q K/\LI c n 1 r' m pl wd K (xz S' ch)
def ImgQ (c:Cfg) (n k u:Nat) (f K:Nat->Int):Prop:=∀j,c.act≤j->j<n->Zh c k u j=true->K j=f j
def HpV.bs (V:HpV):Nat×(Nat->Int):=match V.st with
 | .shut=>(V.us,V.S.now)
 | .opn _ _ D u0 _ _=>(u0,D)
def HpX (H:HpC) (l:Int) (V:HpV) (Q:(Nat->Int)->Prop) (w:World) (e:Ending) (w':World):Prop:=
 e=.panicked [{ v:=xP,recovered:=false }]/\(∃S',Pw w' H.p H.a l l S'/\VF H.c H.a.n V.r Q S'/\SupS H.c S')/\xe H.bl w w'
def HpV.Q (H:HpC) (V:HpV):(Nat->Int)->Prop:=ImgQ H.c H.a.n V.k V.bs.1 V.bs.2
section
variable {H:HpC} {l:Int} {V V':HpV} {w w':World}
theorem zR.q {c:Cfg} {n k u r:Nat} {f:Nat->Int} {S':DS} (h:zR c (Zh c k u) n r f f S'):VF c n r (ImgQ c n k u f) S':=fun ch=>by
 obtain⟨r',m,pl,wd,K,h1,h2,h3⟩:=h ch
 exact⟨r',m,pl,wd,K,by omega,fun j a b d=>by rcases h2 with h2|h2<;>exact h2 j a b d,h3⟩
theorem zF.less {Z:Nat->Bool} {M M':Nat->Prop} {p:Nat} {a:DA} {u:Int} {S:DS} {q:Sc} {c:Cfg} {m r:Nat} {pl:Nat->Nat} {D:Nat->Int} {f t:Int} (h:zF Z M p a l u S q c m r pl D f t w) (hM:∀j,M' j->M j):zF Z M' p a l u S q c m r pl D f t w:=by
 obtain⟨st,wd,R,U,h1,h2⟩:=h
 exact⟨st,wd,R,U,h1,h2.so,h2.fz,fun j hj=>h2.mks j (hM j hj)⟩
theorem SecP.pw (h:SecP H l V w):Pw w H.p H.a l V.u V.S:=by
 unfold SecP at h
 split at h
 ·exact h.pw
 ·exact h.1.pw
theorem SecP.lts (h:SecP H l V w):∀b∈H.a.d::H.q.bl H.p H.a,b<w.heap.size:=by
 unfold SecP at h
 split at h
 ·exact h.lts
 ·exact h.1.lts
theorem SecP.keep {T:List Nat} (h:SecP H l V w) (hk:xe T w w') (hT:∀b∈H.a.d::H.q.bl H.p H.a,b∉T):SecP H l V w':=by
 unfold SecP at h⊢
 split at h
 ·exact h.keep hk hT
 ·exact⟨h.1.keep hk hT,h.2⟩
def Sst.isO:Sst->Bool
 | .shut=>false
 | .opn _ _ _ _ _ _=>true
def Sst.recs:Sst->Nat
 | .shut=>0
 | .opn m _ _ _ _ _=>m
theorem SecP.open (h:SecP H l V w):Calls Tryz.prog 84 #[ptr H.q.b] w fun e w'=>e=.returned (.bool V.st.isO)/\w=w':=by
 unfold SecP at h
 split at h<;>rename_i he<;>rw[he]
 ·exact Zp h
 ·exact xdA h.1
theorem SecP.len (h:SecP H l V w):w.cell? ⟨H.q.b,0,none⟩=some (ptr H.q.lb)/\Calls Tryz.prog 83 #[ptr H.q.lb] w fun e w'=>e=.returned (.int .i64 (V.st.recs:Nat))/\w=w':=by
 unfold SecP at h
 split at h<;>rename_i he<;>rw[he]
 ·obtain⟨⟨f,t,h1⟩,h2⟩:=h.shutL.len
  exact⟨h1.cell 0 rfl,h2⟩
 ·obtain⟨h1,h2⟩:=xeA h.1
  exact⟨h1.cell 0 rfl,h2⟩
theorem HpW.pw (h:HpW H l V w):Pw w H.p H.a l V.u V.S:=h.sec.pw
theorem HpW.ap' (h:HpW H l V w):H.hb∉H.a.d::H.q.bl H.p H.a/\∀b∈H.x.bl,b∉H.a.d::H.q.bl H.p H.a:=⟨h.ap _ (by simp),fun b hb=>h.ap b (List.mem_cons_of_mem _ hb)⟩
theorem HpW.lt (h:HpW H l V w):∀b∈H.a.d::H.bl,b<w.heap.size:=by
 intro b hb
 unfold HpC.bl at hb
 rcases List.mem_cons.1 hb with rfl|hb
 ·exact h.sec.lts _ (by simp)
 rcases List.mem_cons.1 hb with rfl|hb
 ·exact h.ob.lt
 rcases List.mem_append.1 hb with hb|hb
 ·exact h.tab.lt b hb
 ·exact h.sec.lts b (List.mem_cons_of_mem _ hb)
theorem HpW.keep {T:List Nat} (h:HpW H l V w) (hk:xe T w w') (hT:∀b∈H.a.d::H.bl,b∉T):HpW H l V w':=by
 have h1:∀b∈H.bl,b∉T:=fun b hb=>hT b (List.mem_cons_of_mem _ hb)
 unfold HpC.bl at h1
 refine⟨hk.at h.ob (h1 _ (by simp)),h.sec.keep hk fun b hb=>?_,h.tab.keep hk fun b hb=>h1 b (List.mem_cons_of_mem _ (List.mem_append_left _ hb)),h.hep,h.ok,h.n,h.n4,h.sup,h.hs,h.ap,h.hx⟩
 rcases List.mem_cons.1 hb with rfl|hb
 ·exact hT _ (by simp)
 ·exact h1 b (List.mem_cons_of_mem _ (List.mem_append_right _ hb))
theorem HpW.keep0 (h:HpW H l V w) (hk:xe [] w w'):HpW H l V w':=h.keep hk (by simp)
theorem bl_q {b:Nat} (h:b∈H.q.bl H.p H.a):b∈H.bl:=List.mem_cons_of_mem _ (List.mem_append_right _ h)
theorem bl_x {b:Nat} (h:b∈H.x.bl):b∈H.bl:=List.mem_cons_of_mem _ (List.mem_append_left _ h)
theorem HpW.next (h:HpW H l V w) (hk:xe (H.q.bl H.p H.a) w w') (hs:SecP H l V' w') (hh:HepS V'.S H.c H.a.n V'.k V'.us V'.rs V'.os) (hp:SupS H.c V'.S) (hm:V'.m=V.m) (hg:V'.g=V.g) (hc:V'.cv=V.cv) (hst:∀n,V.g n≠0->Stt H.c V'.k V'.os (V.g n)):HpW H l V' w':=by
 refine⟨?_,hs,?_,hh,h.ok,h.n,h.n4,hp,by rw[hg];exact hst,h.ap,h.hx⟩
 ·rw[hc];exact hk.at h.ob fun hb=>h.ap'.1 (List.mem_cons_of_mem _ hb)
 ·rw[hm,hg];exact h.tab.keep hk fun b hb h'=>h.ap'.2 b hb (List.mem_cons_of_mem _ h')
def StoV (H:HpC) (V:HpV) (m:Nat) (pl:Nat->Nat) (u0:Nat) (i:Nat) (v:Int) (code:Int) (u':Int) (S':DS) (m':Nat) (pl':Nat->Nat):Prop:=
 (code=3/\(u'=V.u/\S'=V.S/\m'=m/\pl'=pl)/\¬(H.c.frm V.k+u0≤i/\i<H.c.frm V.k+H.c.space)/\¬HasR m pl i/\m=H.c.log)\/
 (code=0/\((m'=m/\pl'=pl/\((H.c.frm V.k+u0≤i/\i<H.c.frm V.k+H.c.space)\/HasR m pl i))\/(m'=m+1/\pl'=put pl m i/\m<H.c.log/\¬(H.c.frm V.k+u0≤i/\i<H.c.frm V.k+H.c.space)/\¬HasR m pl i))/\
   (∀j,H.c.act≤j->j<H.a.n->S'.now j=if j=i then v else V.S.now j)/\P8 V.S S'/\u'≤V.u+3000)
theorem wZ {f s u0 i:Nat} :xA ((f:Int)+(u0:Nat)) ((f:Int)+(s:Nat)) (i:Nat)=true↔(f+u0≤i/\i<f+s):=by
 unfold xA
 rw[Bool.and_eq_true,decide_eq_true_eq,decide_eq_true_eq]
 omega
theorem jy (h:HpW H l V w) {m:Nat} {pl:Nat->Nat} {D:Nat->Int} {u0:Nat} {rs0:List Nat} {os0:List (Nat×Nat)} (hst:V.st=.opn m pl D u0 rs0 os0) (hu:V.u≤400000000000) (hr:V.r<4294967290) (i:Nat) (v:Int) (hi:H.c.act≤i/\i<H.a.n):
  Calls Tryz.prog 91 #[ptr H.q.b,.int .i64 (i:Nat),.int .u64 v] w fun e w'=>(∃code,e=.returned (.int .i64 code)/\∃u' S' m' pl',StoV H V m pl u0 i v code u' S' m' pl'/\SecP H l { V with u:=u',S:=S',st:=.opn m' pl' D u0 rs0 os0 } w'/\xe (H.q.bl H.p H.a) w w')\/
   (e=.panicked [{ v:=xP,recovered:=false }]/\(∃S',Pw w' H.p H.a l l S'/\VF H.c H.a.n V.r (V.Q H) S'/\SupS H.c S')/\xe (H.q.bl H.p H.a) w w'):=by
 have hs:=h.sec
 unfold SecP at hs
 rw[hst]at hs
 obtain⟨h1,h2⟩:=hs
 refine(Jc h1 h.ok h.n (by omega) (by omega) i v hi).mono ?_
 have hQ:V.Q H=ImgQ H.c H.a.n V.k u0 D:=by unfold HpV.Q HpV.bs;rw[hst]
 have hfr:(xA ((H.c.frm V.k:Int)+(u0:Nat)) ((H.c.frm V.k:Int)+(H.c.space:Nat)) (i:Nat)=false)↔¬(H.c.frm V.k+u0≤i/\i<H.c.frm V.k+H.c.space):=by
  rw[<-wZ,Bool.not_eq_true]
 rintro e w' (⟨rfl,⟨g1,g2,g3⟩,hk⟩|⟨rfl,u',S',m',pl',g1,g2,g3,g4,g5,hk⟩|⟨rfl,⟨S',g1,g2,g3⟩,hk⟩)
 ·refine .inl ⟨3,rfl,V.u,V.S,m,pl,.inl ⟨rfl,⟨rfl,rfl,rfl,rfl⟩,hfr.1 g1,g2,g3⟩,?_,hk.mono (by simp)⟩
  unfold SecP
  exact⟨h1.keep0 hk,h2⟩
 ·refine .inl ⟨0,rfl,u',S',m',pl',.inr ⟨rfl,?_,g3,g4,g5⟩,?_,hk⟩
  ·rcases g2 with⟨e1,e2,e3⟩|⟨e1,e2,e3,e4,e5⟩
   ·exact .inl ⟨e1,e2,e3.imp wZ.1 id⟩
   ·exact .inr ⟨e1,e2,e3,hfr.1 e4,e5⟩
  ·unfold SecP
   exact⟨g1.less fun j hj=>.inl hj,h2⟩
 ·refine .inr ⟨rfl,⟨S',g1,?_,h.sup.p8 g3⟩,hk⟩
  rw[hQ]
  exact g2.q
theorem HpX.pre {Q:(Nat->Int)->Prop} {e:Ending} {w'':World} (h:HpX H l V Q w' e w'') (hk:xe [] w w'):HpX H l V Q w e w'':=⟨h.1,h.2.1,(hk.mono (by simp)).trans h.2.2⟩
def SetP (H:HpC) (l:Int) (V:HpV) (m:Nat) (pl:Nat->Nat) (D:Nat->Int) (u0:Nat) (rs0:List Nat) (os0:List (Nat×Nat)) (i:Nat) (v:Int) (code:Int) (w':World):Prop:=
 ∃u' S' m' pl',StoV H V m pl u0 i v code u' S' m' pl'/\SecP H l { V with u:=u',S:=S',st:=.opn m' pl' D u0 rs0 os0 } w'
def GonP (H:HpC) (l:Int) (V:HpV) (w':World):Prop:=∃S',Pw w' H.p H.a l l S'/\VF H.c H.a.n V.r (V.Q H) S'/\SupS H.c S'
def FldR (H:HpC) (l:Int) (V:HpV) (m:Nat) (pl:Nat->Nat) (D:Nat->Int) (u0:Nat) (rs0:List Nat) (os0:List (Nat×Nat)) (t:Nat) (b:Bool) (i v:Int) (code:Int) (w w':World):Prop:=
 (code≠0/\code=fldE (nL V.os t:Nat) (rL V.os t:Nat) i b/\xe [] w w')\/
 ∃j:Nat,i=(j:Int)/\j<nL V.os t/\decide (j<rL V.os t)=b/\SetP H l V m pl D u0 rs0 os0 (H.c.frm V.k+posL V.os t+1+j) v code w'
def FldP (H:HpC) (l:Int) (V:HpV) (m:Nat) (pl:Nat->Nat) (D:Nat->Int) (u0:Nat) (rs0:List Nat) (os0:List (Nat×Nat)) (t:Nat) (b:Bool) (i v:Int) (w:World) (e:Ending) (w':World):Prop:=
 ((∃code,e=.returned (.int .i64 code)/\FldR H l V m pl D u0 rs0 os0 t b i v code w w')\/(e=.panicked [{ v:=xP,recovered:=false }]/\GonP H l V w'))/\xe (H.q.bl H.p H.a) w w'
theorem fn91 (H:HpC):∀(w:World) (i v:Int),(callFunc 91 (#[ptr H.q.b]++(#[.int .i64 i,.int .u64 v]++#[]))).run Tryz.prog w=.ok (.enter 91 (#[ptr H.q.b]++(#[.int .i64 i,.int .u64 v]++#[]))) w:=fun w i v=>by simp[go_sem]
section
variable {m:Nat} {pl:Nat->Nat} {D:Nat->Int} {u0:Nat} {rs0:List Nat} {os0:List (Nat×Nat)}
theorem HpW.fits (h:HpW H l V w) {t:Nat} (ht:t<V.os.length):nL V.os t≤64/\rL V.os t≤nL V.os t/\H.c.act+2≤H.c.frm V.k+posL V.os t/\H.c.frm V.k+posL V.os t+1+nL V.os t≤H.c.frm V.k+V.us/\H.c.frm V.k+V.us≤H.a.n:=by
 have h1:=xE ht
 have h2:=h.hep.chn.le
 have h3:=h.hep.us
 have h4:=xu (c:=H.c) V.k h.hep.k1
 have h5:=xK (c:=H.c) V.k
 have hn:=h.n
 have h6:nL V.os t≤64:=(h.hep.chn.head t _ (zU ht)).1
 have h7:rL V.os t≤nL V.os t:=(h.hep.chn.head t _ (zU ht)).2.1
 omega
theorem WrE.fld {t:Nat} {b:Bool} {i v:Int} {e:Ending}
  (hw:WrE (fun w1 code w''=>SetP H l V m pl D u0 rs0 os0 (H.c.frm V.k+posL V.os t+1+i.toNat) v code w''/\xe (H.q.bl H.p H.a) w1 w'') (fun w1 w''=>GonP H l V w''/\xe (H.q.bl H.p H.a) w1 w'') (fldE (nL V.os t:Nat) (rL V.os t:Nat) i b) w e w'):
  FldP H l V m pl D u0 rs0 os0 t b i v w e w':=by
 rcases hw with⟨g1,rfl,g3⟩|⟨g1,w1,hk1,g2⟩
 ·exact⟨.inl ⟨_,rfl,.inl ⟨g1,rfl,g3⟩⟩,g3.mono (by simp)⟩
 ·obtain⟨i0,i1,i2⟩:=zV g1
  obtain⟨j,rfl⟩:∃j:Nat,i=(j:Int):=⟨i.toNat,by omega⟩
  rw[Int.toNat_natCast]at g2
  rcases g2 with⟨code,rfl,g3,g5⟩|⟨rfl,g3,g5⟩
  ·exact⟨.inl ⟨code,rfl,.inr ⟨j,rfl,by omega,by rw[<-i2];congr 1;simp,g3⟩⟩,(hk1.mono (by simp)).trans g5⟩
  ·exact⟨.inr ⟨rfl,g3⟩,(hk1.mono (by simp)).trans g5⟩
theorem xeX (h:HpW H l V w) (hst:V.st=.opn m pl D u0 rs0 os0) (hu:V.u≤400000000000) (hr:V.r<4294967290) (i v:Int) (t:Nat) (ht:t<V.os.length):
  Calls Tryz.prog 109 #[obV (nL V.os t:Nat) (rL V.os t:Nat) ((H.c.frm V.k+posL V.os t:Nat):Int),.int .i64 i,.int .u64 v,.func (.func 91) #[ptr H.q.b] #[]] w (FldP H l V m pl D u0 rs0 os0 t false i v w):=by
 obtain⟨f1,f2,f3,f4,f5⟩:=h.fits ht
 have f6:=h.n4
 refine(WS (F:=91) (first:=#[ptr H.q.b]) (cap:=#[]) w (nL V.os t:Nat) (rL V.os t:Nat) ((H.c.frm V.k+posL V.os t:Nat):Int) i v
  (fun w1 code w''=>SetP H l V m pl D u0 rs0 os0 (H.c.frm V.k+posL V.os t+1+i.toNat) v code w''/\xe (H.q.bl H.p H.a) w1 w'') (fun w1 w''=>GonP H l V w''/\xe (H.q.bl H.p H.a) w1 w'') (by omega) (by omega) (fn91 H) fun i0 i1 w1 hk1=>?_).mono fun e w' hw=>WrE.fld hw
 rw[show((H.c.frm V.k+posL V.os t:Nat):Int)+1+i=((H.c.frm V.k+posL V.os t+1+i.toNat:Nat):Int) by omega]
 refine(jy (h.keep0 hk1) hst hu hr (H.c.frm V.k+posL V.os t+1+i.toNat) v ⟨by omega,by omega⟩).mono ?_
 rintro e w'' (⟨code,rfl,u',S',m',pl',g1,g2,g3⟩|⟨rfl,g1,g2⟩)
 ·exact .inl ⟨code,rfl,⟨u',S',m',pl',g1,g2⟩,g3⟩
 ·exact .inr ⟨rfl,g1,g2⟩
theorem xeY (h:HpW H l V w) (hst:V.st=.opn m pl D u0 rs0 os0) (hu:V.u≤400000000000) (hr:V.r<4294967290) (i:Int) (tt:Nat) (hto:tt≤15000) (t:Nat) (ht:t<V.os.length):
  Calls Tryz.prog 103 #[obV (nL V.os t:Nat) (rL V.os t:Nat) ((H.c.frm V.k+posL V.os t:Nat):Int),.int .i64 i,.int .i64 (tt:Nat),.func (.func 91) #[ptr H.q.b] #[]] w (FldP H l V m pl D u0 rs0 os0 t true i (tt:Nat) w):=by
 obtain⟨f1,f2,f3,f4,f5⟩:=h.fits ht
 have f6:=h.n4
 refine(YH (F:=91) (first:=#[ptr H.q.b]) (cap:=#[]) w (nL V.os t:Nat) (rL V.os t:Nat) ((H.c.frm V.k+posL V.os t:Nat):Int) i (tt:Nat)
  (fun w1 code w''=>SetP H l V m pl D u0 rs0 os0 (H.c.frm V.k+posL V.os t+1+i.toNat) (tt:Nat) code w''/\xe (H.q.bl H.p H.a) w1 w'') (fun w1 w''=>GonP H l V w''/\xe (H.q.bl H.p H.a) w1 w'') (by omega) (by omega) (fn91 H) fun i0 i1 w1 hk1=>?_).mono fun e w' hw=>WrE.fld hw
 rw[show((H.c.frm V.k+posL V.os t:Nat):Int)+1+i=((H.c.frm V.k+posL V.os t+1+i.toNat:Nat):Int) by omega,vY tt hto]
 refine(jy (h.keep0 hk1) hst hu hr (H.c.frm V.k+posL V.os t+1+i.toNat) (tt:Nat) ⟨by omega,by omega⟩).mono ?_
 rintro e w'' (⟨code,rfl,u',S',m',pl',g1,g2,g3⟩|⟨rfl,g1,g2⟩)
 ·exact .inl ⟨code,rfl,⟨u',S',m',pl',g1,g2⟩,g3⟩
 ·exact .inr ⟨rfl,g1,g2⟩
end
def WrtP (H:HpC) (l:Int) (V:HpV) (z i v:Int) (w:World) (e:Ending) (w':World):Prop:=
 (∃code,e=.returned (.int .i64 code)/\xe [] w w'/\((V.st.isO=false/\code=2)\/(V.st.isO=true/\numA V.g z=0/\code=6)))\/
 (∃t m pl D u0 rs0 os0,V.st=.opn m pl D u0 rs0 os0/\t<V.os.length/\numA V.g z=H.c.frm V.k+posL V.os t/\FldP H l V m pl D u0 rs0 os0 t false i v w e w')
theorem FldP.pre {m:Nat} {pl:Nat->Nat} {D:Nat->Int} {u0:Nat} {rs0:List Nat} {os0:List (Nat×Nat)} {t:Nat} {b:Bool} {i v:Int} {e:Ending} {w'':World} (h:FldP H l V m pl D u0 rs0 os0 t b i v w' e w'') (hk:xe [] w w'):FldP H l V m pl D u0 rs0 os0 t b i v w e w'':=by
 refine⟨?_,(hk.mono (by simp)).trans h.2⟩
 rcases h.1 with⟨code,h1,h2⟩|h1
 ·refine .inl ⟨code,h1,?_⟩
  rcases h2 with⟨g1,g2,g3⟩|h2
  ·exact .inl ⟨g1,g2,hk.trans g3⟩
  ·exact .inr h2
 ·exact .inr h1
theorem xaF (h:HpW H l V w) (hu:V.u≤400000000000) (hr:V.r<4294967290) (z i v:Int):
  Calls Tryz.prog 43 #[ptr H.hb,.int .i64 z,.int .i64 i,.int .u64 v] w (WrtP H l V z i v w):=by
 have HOP:=hid h.sec.open
 have HOB:=hid (fun(w':World) (hk:xe [] w w')=>YT w' H.hb H.p H.a z (hk.at h.ob (by simp)) (h.pw.dev.keep hk (by simp) (by simp) (by simp) (by simp)) h.hep h.ok h.n (h.tab.keep hk (by simp)) h.hs)
 have HS:=hid (fun(w':World) (hk:xe (H.q.bl H.p H.a) w w')=>(yj h.ob hk (fun hb=>h.ap'.1 (List.mem_cons_of_mem _ hb))).2.2.2.2.1)
 have HLT:=hid (fun b (hb:b∈H.q.bl H.p H.a)=>h.sec.lts b (List.mem_cons_of_mem _ hb))
 have c4:=HS.out w (xe.refl _ _)
 cases hst:V.st with
 |shut=>
  have HE:Hid (V.st.isO=false):=by show _=_;rw[hst];rfl
  rw[hst]at HOP
  have HOP1:Hid (Calls Tryz.prog 84 #[ptr H.q.b] w fun e w'=>e=.returned (.bool false)/\w=w'):=HOP.out
  clear h hu hr HOB HOP hst HLT
  go_enter Tryz.func43,Tryz.ntmps43
  go_wp2_with fail
  refine HOP1.out.mono ?_
  rintro e w1 ⟨rfl,rfl⟩
  go_wp2_with fail
  go_ret
  exact .inl ⟨2,rfl,xe.refl _ _,.inl ⟨HE.out,rfl⟩⟩
 |opn m pl D u0 rs0 os0=>
  have HE:Hid (V.st.isO=true/\V.st=.opn m pl D u0 rs0 os0):=⟨by rw[hst];rfl,hst⟩
  have HOP1:Hid (Calls Tryz.prog 84 #[ptr H.q.b] w fun e w'=>e=.returned (.bool true)/\w=w'):=by
   have:=HOP.out
   rw[hst]at this
   exact this
  have HOW:=hid (fun(w':World) (hk:xe [] w w') (t:Nat) (ht:t<V.os.length)=>xeX (h.keep0 hk) hst hu hr i v t ht)
  clear h hu hr HOP hst
  go_enter Tryz.func43,Tryz.ntmps43
  go_wp2_with fail
  refine HOP1.out.mono ?_
  rintro e w1 ⟨rfl,rfl⟩
  have HO1:=hid (HOB.out _ (xe.refl [] _))
  go_wp2_with fail
  refine HO1.out.mono ?_
  rintro e w1 ⟨⟨h0,rfl⟩|⟨t,ht,hz,rfl⟩,hk1⟩
  ·have HF:=hid (And.intro h0 (hk1.alloc (obO 0 0 0)))
   clear h0 hk1
   go_wp2_with fail
   go_ret
   exact .inl ⟨6,rfl,HF.out.2,.inr ⟨HE.out.1,HF.out.1,rfl⟩⟩
  ·have HT:=hid (And.intro ht hz)
   have HK1:=hid hk1
   have HWT:=hid (fun w' hk=>HOW.out w' hk t ht)
   obtain⟨Z,hZ⟩:∃Z:Int,Z=((H.c.frm V.k+posL V.os t:Nat):Int):=⟨_,rfl⟩
   obtain⟨N,hN⟩:∃N:Int,N=(nL V.os t:Nat):=⟨_,rfl⟩
   obtain⟨R,hR⟩:∃R:Int,R=(rL V.os t:Nat):=⟨_,rfl⟩
   rw[<-hZ,<-hN,<-hR]at HWT⊢
   clear hZ hN hR ht hz hk1 HOB HOW
   go_upto_region 6 with fail
   have hB2:=At.new w1 (obO N R Z)
   have k12:=(xe.refl [] w1).alloc (obO N R Z)
   obtain⟨bb,hbb⟩:∃q,q=w1.heap.size:=⟨_,rfl⟩
   obtain⟨w2,hw2⟩:∃w2,w2=w1.alloc (obO N R Z):=⟨_,rfl⟩
   first|rw[<-hbb]|skip
   rw[<-hbb]at hB2
   rw[<-hw2]at hB2 k12⊢
   have HK2:=hid (HK1.out.trans k12)
   have HC:Hid (∀w',xe (H.q.bl H.p H.a) w2 w'->w'.cell? ⟨H.hb,4,none⟩=some (ptr H.q.b)/\w'.cell? ⟨bb,0,none⟩=some (.int .i64 N)/\w'.cell? ⟨bb,1,none⟩=some (.int .i64 R)/\w'.cell? ⟨bb,2,none⟩=some (.int .i64 Z)):=fun w' hk=>by
    have h1:=hk.at hB2 (fun hb=>by have h2:=HLT.out _ hb;have h3:=HK1.out.size;omega)
    exact⟨HS.out w' ((HK2.out.mono (by simp)).trans hk),h1.cell 0 rfl,h1.cell 1 rfl,h1.cell 2 rfl⟩
   clear hw2 hbb hB2 k12
   have kk:xe [] w2 w2.drew:=(xe.refl _ _).drew
   go_region_held2 (fun w'=>w'.cell? ⟨H.hb,4,none⟩=some (ptr H.q.b)∧w'.cell? ⟨bb,0,none⟩=some (.int .i64 N)∧w'.cell? ⟨bb,1,none⟩=some (.int .i64 R)∧w'.cell? ⟨bb,2,none⟩=some (.int .i64 Z))
    (first|exact HC.out _ (kk.mono (by simp))|exact HC.out _ ((kk.mono (by simp)).trans g5))
    (first|(go_at_call 109;refine(HWT.out _ (HK2.out.trans kk)).mono ?_;rintro e w4 ⟨⟨code,rfl,g4⟩|⟨rfl,g4⟩,g5⟩;rotate_left;exact⟨rfl,.inr ⟨t,m,pl,D,u0,rs0,os0,HE.out.2,HT.out.1,HT.out.2,FldP.pre ⟨.inr ⟨rfl,g4⟩,g5⟩ (HK2.out.trans kk)⟩⟩))
   rename_i hHd
   clear hHd
   have HE2:Hid (FldP H l V m pl D u0 rs0 os0 t false i v w (.returned (.int .i64 code)) w4):=FldP.pre ⟨.inl ⟨code,rfl,g4⟩,g5⟩ (HK2.out.trans kk)
   clear g4 g5 kk
   go_wp2_with fail
   go_ret
   exact .inr ⟨t,m,pl,D,u0,rs0,os0,HE.out.2,HT.out.1,HT.out.2,HE2.out⟩
end
open Go.RowKit Go.OpenShut
section
variable {H:HpC} {l:Int} {V V':HpV} {w w':World}
def PntP (H:HpC) (l:Int) (V:HpV) (z i n:Int) (w:World) (e:Ending) (w':World):Prop:=
 (∃code,e=.returned (.int .i64 code)/\xe [] w w'/\((V.st.isO=false/\code=2)\/(V.st.isO=true/\(numA V.g z=0\/plE V.g n≠0)/\code=6)))\/
 (∃t m pl D u0 rs0 os0,V.st=.opn m pl D u0 rs0 os0/\t<V.os.length/\numA V.g z=H.c.frm V.k+posL V.os t/\plE V.g n=0/\FldP H l V m pl D u0 rs0 os0 t true i (numA V.g n:Nat) w e w')
theorem xc9 (g:Nat->Nat) (z:Int):plE g z=0\/plE g z=6:=by
 unfold plE
 split
 ·exact .inl rfl
 ·exact .inr rfl
theorem JH {w:World} {x:Tb} {m:Nat} {g:Nat->Nat} (hT:TabW w x m g) (z:Int):numA g z<4000:=by
 rcases Nat.eq_zero_or_pos (numA g z)with h|h
 ·omega
 ·obtain⟨h1,h2⟩:=vE (g:=g) (z:=z) (by omega)
  rw[<-h2]
  exact(hT.bd _ (by omega)).2.2
theorem xaM (h:HpW H l V w) (hu:V.u≤400000000000) (hr:V.r<4294967290) (z i n:Int):
  Calls Tryz.prog 38 #[ptr H.hb,.int .i64 z,.int .i64 i,.int .i64 n] w (PntP H l V z i n w):=by
 have HOP:=hid h.sec.open
 have HOB:=hid (fun(w':World) (hk:xe [] w w')=>YT w' H.hb H.p H.a z (hk.at h.ob (by simp)) (h.pw.dev.keep hk (by simp) (by simp) (by simp) (by simp)) h.hep h.ok h.n (h.tab.keep hk (by simp)) h.hs)
 have HS:=hid (fun(w':World) (hk:xe (H.q.bl H.p H.a) w w')=>(yj h.ob hk (fun hb=>h.ap'.1 (List.mem_cons_of_mem _ hb))).2.2.2.2.1)
 have HLT:=hid (fun b (hb:b∈H.q.bl H.p H.a)=>h.sec.lts b (List.mem_cons_of_mem _ hb))
 have HPC:=hid (fun(w':World) (hk:xe [] w w')=>xdf w' H.hb H.a.d H.c H.q.b H.x V.cv V.m V.g n (hk.at h.ob (by simp)) (h.tab.keep hk (by simp)))
 have c4:=HS.out w (xe.refl _ _)
 cases hst:V.st with
 |shut=>
  have HE:Hid (V.st.isO=false):=by show _=_;rw[hst];rfl
  rw[hst]at HOP
  have HOP1:Hid (Calls Tryz.prog 84 #[ptr H.q.b] w fun e w'=>e=.returned (.bool false)/\w=w'):=HOP.out
  clear h hu hr HOB HOP hst HLT HPC
  go_enter Tryz.func38,Tryz.ntmps38
  go_wp2_with fail
  refine HOP1.out.mono ?_
  rintro e w1 ⟨rfl,rfl⟩
  go_wp2_with fail
  go_ret
  exact .inl ⟨2,rfl,xe.refl _ _,.inl ⟨HE.out,rfl⟩⟩
 |opn m pl D u0 rs0 os0=>
  have HE:Hid (V.st.isO=true/\V.st=.opn m pl D u0 rs0 os0):=⟨by rw[hst];rfl,hst⟩
  have HOP1:Hid (Calls Tryz.prog 84 #[ptr H.q.b] w fun e w'=>e=.returned (.bool true)/\w=w'):=by
   have:=HOP.out
   rw[hst]at this
   exact this
  have HOW:=hid (fun(w':World) (hk:xe [] w w') (t:Nat) (ht:t<V.os.length)=>xeY (h.keep0 hk) hst hu hr i (numA V.g n) (by have:=JH h.tab n;omega) t ht)
  clear h hu hr HOP hst
  go_enter Tryz.func38,Tryz.ntmps38
  go_wp2_with fail
  refine HOP1.out.mono ?_
  rintro e w1 ⟨rfl,rfl⟩
  have HO1:=hid (HOB.out _ (xe.refl [] _))
  go_wp2_with fail
  refine HO1.out.mono ?_
  rintro e w1 ⟨⟨h0,rfl⟩|⟨t,ht,hz,rfl⟩,hk1⟩
  ·have HF:=hid (And.intro h0 (hk1.alloc (obO 0 0 0)))
   clear h0 hk1
   go_wp2_with fail
   go_ret
   exact .inl ⟨6,rfl,HF.out.2,.inr ⟨HE.out.1,.inl HF.out.1,rfl⟩⟩
  ·have HT:=hid (And.intro ht hz)
   have HK1:=hid hk1
   have HWT:=hid (fun w' hk=>HOW.out w' hk t ht)
   obtain⟨Z,hZ⟩:∃Z:Int,Z=((H.c.frm V.k+posL V.os t:Nat):Int):=⟨_,rfl⟩
   obtain⟨N,hN⟩:∃N:Int,N=(nL V.os t:Nat):=⟨_,rfl⟩
   obtain⟨R,hR⟩:∃R:Int,R=(rL V.os t:Nat):=⟨_,rfl⟩
   rw[<-hZ,<-hN,<-hR]at HWT⊢
   clear hZ hN hR ht hz hk1 HOB HOW
   go_upto_region 6 with fail
   have hB2:=At.new w1 (obO N R Z)
   have k12:=(xe.refl [] w1).alloc (obO N R Z)
   obtain⟨bb,hbb⟩:∃q,q=w1.heap.size:=⟨_,rfl⟩
   obtain⟨w2,hw2⟩:∃w2,w2=w1.alloc (obO N R Z):=⟨_,rfl⟩
   first|rw[<-hbb]|skip
   rw[<-hbb]at hB2
   rw[<-hw2]at hB2 k12⊢
   have HK2:=hid (HK1.out.trans k12)
   have HC:Hid (∀w',xe (H.q.bl H.p H.a) w2 w'->w'.cell? ⟨H.hb,4,none⟩=some (ptr H.q.b)/\w'.cell? ⟨bb,0,none⟩=some (.int .i64 N)/\w'.cell? ⟨bb,1,none⟩=some (.int .i64 R)/\w'.cell? ⟨bb,2,none⟩=some (.int .i64 Z)):=fun w' hk=>by
    have h1:=hk.at hB2 (fun hb=>by have h2:=HLT.out _ hb;have h3:=HK1.out.size;omega)
    exact⟨HS.out w' ((HK2.out.mono (by simp)).trans hk),h1.cell 0 rfl,h1.cell 1 rfl,h1.cell 2 rfl⟩
   have HPC2:=hid (HPC.out w2 HK2.out)
   obtain⟨nv,hnv⟩:∃nv,nv=numA V.g n:=⟨_,rfl⟩
   obtain⟨ne,hne⟩:∃ne,ne=plE V.g n:=⟨_,rfl⟩
   have hne2:=xc9 V.g n
   rw[<-hne]at hne2
   rw[<-hnv,<-hne]at HPC2
   rw[<-hnv]at HWT
   have HNV:=hid (And.intro hnv hne)
   clear hw2 hbb hB2 k12 hnv hne HPC
   go_wp2_with fail
   refine HPC2.out.mono ?_
   rintro e w3 ⟨rfl,rfl⟩
   rcases hne2 with rfl|rfl
   rotate_left
   ·have HF:=hid HK2.out
    go_wp2_with fail
    go_ret
    exact .inl ⟨6,rfl,HF.out,.inr ⟨HE.out.1,.inr (by rw[<-HNV.out.2];decide),rfl⟩⟩
   go_upto_region 9 with fail
   have kk:xe [] w3 w3.drew:=(xe.refl _ _).drew
   go_region_held2 (fun w'=>w'.cell? ⟨H.hb,4,none⟩=some (ptr H.q.b)∧w'.cell? ⟨bb,0,none⟩=some (.int .i64 N)∧w'.cell? ⟨bb,1,none⟩=some (.int .i64 R)∧w'.cell? ⟨bb,2,none⟩=some (.int .i64 Z))
    (first|exact HC.out _ (kk.mono (by simp))|exact HC.out _ ((kk.mono (by simp)).trans g5))
    (first|(go_at_call 103;refine(HWT.out _ (HK2.out.trans kk)).mono ?_;rintro e w4 ⟨⟨code,rfl,g4⟩|⟨rfl,g4⟩,g5⟩;rotate_left;exact⟨rfl,.inr ⟨t,m,pl,D,u0,rs0,os0,HE.out.2,HT.out.1,HT.out.2,HNV.out.2.symm,by rw[←HNV.out.1];exact FldP.pre ⟨.inr ⟨rfl,g4⟩,g5⟩ (HK2.out.trans kk)⟩⟩))
   rename_i hHd
   clear hHd
   have HE2:Hid (FldP H l V m pl D u0 rs0 os0 t true i (nv:Nat) w (.returned (.int .i64 code)) w4):=FldP.pre ⟨.inl ⟨code,rfl,g4⟩,g5⟩ (HK2.out.trans kk)
   clear g4 g5 kk
   go_wp2_with fail
   go_ret
   exact .inr ⟨t,m,pl,D,u0,rs0,os0,HE.out.2,HT.out.1,HT.out.2,HNV.out.2.symm,by rw[<-HNV.out.1];exact HE2.out⟩
def StrP (H:HpC) (l:Int) (V:HpV) (i n:Int) (w:World) (e:Ending) (w':World):Prop:=
 (∃code,e=.returned (.int .i64 code)/\xe [] w w'/\((V.st.isO=false/\code=2)\/(V.st.isO=true/\hasR H.c i=false/\code=1)\/(V.st.isO=true/\hasR H.c i=true/\plE V.g n≠0/\code=6)))\/
 (∃(j m:Nat) (pl:Nat->Nat) (D:Nat->Int) (u0:Nat) (rs0:List Nat) (os0:List (Nat×Nat)),V.st=.opn m pl D u0 rs0 os0/\i=(j:Int)/\j<H.c.roots/\plE V.g n=0/\
   ((∃code,e=.returned (.int .i64 code)/\SetP H l V m pl D u0 rs0 os0 (H.c.root j) (numA V.g n:Nat) code w')\/(e=.panicked [{ v:=xP,recovered:=false }]/\GonP H l V w'))/\xe (H.q.bl H.p H.a) w w')
theorem xbX {c:Cfg} {i:Int} (h:¬(0≤i/\i<(c.roots:Int))):hasR c i=false:=by
 unfold hasR
 by_cases h1:0≤i
 ·rw[decide_eq_true h1,decide_eq_false (fun h2=>h ⟨h1,h2⟩)];rfl
 ·rw[decide_eq_false h1];rfl
theorem Q3 {c:Cfg} {i:Int} (h:0≤i/\i<(c.roots:Int)):hasR c i=true:=by
 unfold hasR
 rw[decide_eq_true h.1,decide_eq_true h.2];rfl
theorem jA (h:HpW H l V w) (hu:V.u≤400000000000) (hr:V.r<4294967290) (i n:Int):
  Calls Tryz.prog 39 #[ptr H.hb,.int .i64 i,.int .i64 n] w (StrP H l V i n w):=by
 have HOP:=hid h.sec.open
 have HHS:=hid (xaS w H.hb H.a.d H.c H.q.b H.x.t V.cv i h.ob)
 have HPC:=hid (xdf w H.hb H.a.d H.c H.q.b H.x V.cv V.m V.g n h.ob h.tab)
 have HS:=hid (fun(w':World) (hk:xe (H.q.bl H.p H.a) w w')=>yj h.ob hk (fun hb=>h.ap'.1 (List.mem_cons_of_mem _ hb)))
 unfold HpCl at HS
 have c4:=(HS.out w (xe.refl _ _)).2.2.2.2.1
 cases hst:V.st with
 |shut=>
  have HE:Hid (V.st.isO=false):=by show _=_;rw[hst];rfl
  rw[hst]at HOP
  have HOP1:Hid (Calls Tryz.prog 84 #[ptr H.q.b] w fun e w'=>e=.returned (.bool false)/\w=w'):=HOP.out
  clear h hu hr HOP hst HHS HPC HS
  go_enter Tryz.func39,Tryz.ntmps39
  go_wp2_with fail
  refine HOP1.out.mono ?_
  rintro e w1 ⟨rfl,rfl⟩
  go_wp2_with fail
  go_ret
  exact .inl ⟨2,rfl,xe.refl _ _,.inl ⟨HE.out,rfl⟩⟩
 |opn m pl D u0 rs0 os0=>
  have HE:Hid (V.st.isO=true/\V.st=.opn m pl D u0 rs0 os0):=⟨by rw[hst];rfl,hst⟩
  have HOP1:Hid (Calls Tryz.prog 84 #[ptr H.q.b] w fun e w'=>e=.returned (.bool true)/\w=w'):=by
   have:=HOP.out
   rw[hst]at this
   exact this
  by_cases hi:0≤i/\i<(H.c.roots:Int)
  case neg=>
   have hh:=xbX hi
   have HH:=hid hh
   rw[hh]at HHS
   clear h hu hr HOP hst HPC HS hi hh
   go_enter Tryz.func39,Tryz.ntmps39
   go_wp2_with fail
   refine HOP1.out.mono ?_
   rintro e w1 ⟨rfl,rfl⟩
   go_wp2_with fail
   refine HHS.out.mono ?_
   rintro e w1 ⟨rfl,rfl⟩
   go_wp2_with fail
   go_ret
   exact .inl ⟨1,rfl,xe.refl _ _,.inr (.inl ⟨HE.out.1,HH.out,rfl⟩)⟩
  obtain⟨j,rfl⟩:∃j:Nat,i=(j:Int):=⟨i.toNat,by omega⟩
  have hj:j<H.c.roots:=by omega
  have hh:=Q3 hi
  have HH:=hid hh
  rw[hh]at HHS
  obtain⟨nv,hnv⟩:∃nv,nv=numA V.g n:=⟨_,rfl⟩
  obtain⟨ne,hne⟩:∃ne,ne=plE V.g n:=⟨_,rfl⟩
  have hne2:=xc9 V.g n
  have hn4:nv≤15000:=by rw[hnv];have:=JH h.tab n;omega
  have ew:=vY nv hn4
  rw[<-hne]at hne2
  rw[<-hnv,<-hne]at HPC
  have HNV:=hid (And.intro hnv hne)
  have hre:=xH H.c
  have hfs:=xu (c:=H.c) 0 (by omega)
  have hn:=h.n
  obtain⟨rj,hrj⟩:∃rj:Nat,rj=H.c.root j:=⟨_,rfl⟩
  have HRO:=hid (fun(w':World)=>wR w' H.c h.ok.small j (by have:=h.ok.2.1;omega))
  have HST:=hid (fun(w':World) (hk:xe [] w w')=>jy (h.keep0 hk) hst hu hr rj (nv:Nat) ⟨by rw[hrj];unfold Cfg.root;omega,by rw[hrj];unfold Cfg.root at*;omega⟩)
  rw[<-hrj]at HRO
  have HJ:=hid (And.intro hj hrj)
  clear h hu hr HOP hst hi hh hj hnv hne hn4 hre hfs hn hrj
  go_enter Tryz.func39,Tryz.ntmps39
  go_wp2_with fail
  refine HOP1.out.mono ?_
  rintro e w1 ⟨rfl,rfl⟩
  go_wp2_with fail
  refine HHS.out.mono ?_
  rintro e w1 ⟨rfl,rfl⟩
  go_wp2_with fail
  refine HPC.out.mono ?_
  rintro e w1 ⟨rfl,rfl⟩
  rcases hne2 with rfl|rfl
  rotate_left
  ·go_wp2_with fail
   go_ret
   exact .inl ⟨6,rfl,xe.refl _ _,.inr (.inr ⟨HE.out.1,HH.out,by rw[<-HNV.out.2];decide,rfl⟩)⟩
  go_upto_region 8 with fail
  clear c4
  have kk:xe [] w1 w1.drew:=(xe.refl _ _).drew
  go_region_held2 (fun w'=>w'.cell? ⟨H.hb,0,none⟩=some (ptr H.a.d)∧w'.cell? ⟨H.hb,1,none⟩=some (.int .i64 H.c.log)∧w'.cell? ⟨H.hb,2,none⟩=some (.int .i64 H.c.roots)∧w'.cell? ⟨H.hb,3,none⟩=some (.int .i64 H.c.space)∧w'.cell? ⟨H.hb,4,none⟩=some (ptr H.q.b)∧w'.cell? ⟨H.hb,5,none⟩=some (ptr H.x.t))
   (first|exact HS.out _ (kk.mono (by simp))|exact HS.out _ ((kk.mono (by simp)).trans g5))
   (first
     |(go_at_call 105;refine(HRO.out _).mono ?_;rintro e w2 ⟨rfl,hk2⟩;have kk:=kk.trans hk2)
     |(go_at_call 91;refine(HST.out _ kk).mono ?_;rintro e w4 (⟨code,rfl,u',S',m',pl',g1,g2,g5⟩|⟨rfl,g1,g5⟩);rotate_left;exact⟨rfl,.inr ⟨j,m,pl,D,u0,rs0,os0,HE.out.2,rfl,HJ.out.1,HNV.out.2.symm,.inr ⟨rfl,g1⟩,(kk.mono (by simp)).trans g5⟩⟩))
  rename_i hHd
  clear hHd
  have HE2:Hid (SetP H l V m pl D u0 rs0 os0 rj (nv:Nat) code w4/\xe (H.q.bl H.p H.a) w1 w4):=⟨⟨u',S',m',pl',g1,g2⟩,(kk.mono (by simp)).trans g5⟩
  clear g1 g2 g5 kk hk2
  go_wp2_with fail
  go_ret
  exact .inr ⟨j,m,pl,D,u0,rs0,os0,HE.out.2,rfl,HJ.out.1,HNV.out.2.symm,.inl ⟨code,rfl,by rw[<-HNV.out.1,<-HJ.out.2];exact HE2.out.1⟩,HE2.out.2⟩
def ComP (H:HpC) (l:Int) (V:HpV) (w:World) (e:Ending) (w':World):Prop:=
 (V.st.isO=false/\e=.returned (.int .i64 2)/\w'=w)\/
 (V.st.isO=true/\((e=.returned (.int .i64 0)/\∃u' S' r',HpW H l { V with u:=u',S:=S',r:=r',st:=.shut } w'/\(∀j,H.c.act≤j->j<H.a.n->S'.now j=V.S.now j)/\u'≤V.u+3000/\r'≤V.r+1/\xe H.bl w w')\/HpX H l V (fun K=>V.Q H K\/ImgQ H.c H.a.n V.k V.us V.S.now K) w e w'))
theorem qT (h:HpW H l V w) (hu:V.u≤400000000000):Calls Tryz.prog 30 #[ptr H.hb] w (ComP H l V w):=by
 have c4:=h.ob.cell 4 rfl
 have hsec:=h.sec
 unfold SecP at hsec
 cases hst:V.st with
 |shut=>
  rw[hst]at hsec
  have HC:Hid (V.st.isO=false/\Calls Tryz.prog 86 #[ptr H.q.b] w fun e w'=>e=.returned (.int .i64 2)/\w=w'):=⟨by rw[hst];rfl,jJ hsec⟩
  clear h hsec hst hu
  go_enter Tryz.func30,Tryz.ntmps30
  go_wp2_with fail
  refine HC.out.2.mono ?_
  rintro e w1 ⟨rfl,rfl⟩
  go_wp2_with fail
  go_ret
  exact .inl ⟨HC.out.1,rfl,rfl⟩
 |opn m pl D u0 rs0 os0=>
  rw[hst]at hsec
  obtain⟨h1,h2⟩:=hsec
  have hus:=h.hep.us
  have hf0:=xK (c:=H.c) V.k
  have hre:=xH H.c
  have hz:=zB H.c V.k
  have HC:Hid (Calls Tryz.prog 86 #[ptr H.q.b] w (ComP H l V w)):=by
   refine(J3 h1 h.ok h.n (by omega)).mono ?_
   have hZ:∀j,Zh H.c V.k V.us j=true->Zh H.c V.k u0 j=true\/(H.c.frm V.k+u0≤j/\j<H.c.frm V.k+V.us):=fun j hj=>by
    rw[ZL]at hj⊢
    omega
   rintro e w' (⟨rfl,u',S',g1,g2,g3,g4,g5,g6⟩|⟨rfl,⟨S',g1,g2,g3⟩,g4⟩)
   ·refine .inr ⟨by rw[hst];rfl,.inl ⟨rfl,u',S',rS m V.r,?_,g2,g5,by unfold rS;split<;>omega,g6.mono fun b _ hb=>bl_q hb⟩⟩
    refine h.next g6 ?_ (h.hep.same h.n g2) (h.sup.p8 g4) rfl rfl rfl h.hs
    unfold SecP
    refine g1.shutL.shutH fun j a b hj=>?_
    rw[g2 j a b]
    exact g3 j a b (hZ j hj)
   ·refine .inr ⟨by rw[hst];rfl,.inr ⟨rfl,⟨S',g1,fun ch=>?_,h.sup.p8 g3⟩,g4.mono fun b _ hb=>bl_q hb⟩⟩
    obtain⟨r',m',pl',wd',K,k1,k2,k3⟩:=g2 ch
    refine⟨r',m',pl',wd',K,by omega,?_,k3⟩
    rcases k2 with k2|k2
    ·left
     unfold HpV.Q HpV.bs
     rw[hst]
     exact k2
    ·exact .inr fun j a b d=>k2 j a b (hZ j d)
  clear h h1 h2 hst hu hus hf0 hre hz
  go_enter Tryz.func30,Tryz.ntmps30
  go_wp2_with fail
  refine HC.out.mono ?_
  rintro e w1 hcm
  have hcm2:=hcm
  rcases hcm with⟨_,rfl,rfl⟩|⟨_,⟨rfl,_⟩|⟨rfl,_⟩⟩
  ·have HE:=hid hcm2
   clear hcm2
   go_wp2_with fail
   go_ret
   exact HE.out
  ·have HE:=hid hcm2
   clear hcm2
   go_wp2_with fail
   go_ret
   exact HE.out
  ·exact⟨rfl,hcm2⟩
end
open Go.RowKit Go.OpenShut
section
variable {c:Cfg} {N:Nat} {f t:Int}
theorem Jd:∀ {l:List (Nat×Int)} {s s':ScS} {code:Int},SqT (SecT c N f t) l s code s'->l.Pairwise (fun x y=>x.1≠y.1)->(∀x∈l,c.act≤x.1/\x.1<N/\xA f t (x.1:Nat)=true)->l≠[]->
  code=0/\s'.m=s.m/\s'.pl=s.pl/\(∀x∈l,s'.S.now x.1=x.2/\s'.M x.1)/\(∀j,c.act≤j->j<N->(∀x∈l,x.1≠j)->s'.S.now j=s.S.now j)/\∀j,s.M j->s'.M j
 | [],s,s',code,h,_,_,hne=>absurd rfl hne
 |(i,v)::l,s,s',code,h,hp,hz,_=>by
  obtain⟨c1,s1,h1,h2⟩:=h
  rw[List.pairwise_cons]at hp
  have hi:=hz (i,v) List.mem_cons_self
  have h3:c1=0/\s1.m=s.m/\s1.pl=s.pl/\(s1.S.now i=v/\s1.M i)/\(∀j,c.act≤j->j<N->i≠j->s1.S.now j=s.S.now j)/\∀j,s.M j->s1.M j:=by
   rcases h1 hi.1 with⟨_,_,e,_⟩|⟨e3,e5,e6,e4⟩
   ·rw[hi.2.2]at e;cases e
   ·refine⟨e3,?_,?_,⟨?_,e6 i (.inr rfl)⟩,fun j a b hj=>?_,fun j h=>e6 j (.inl h)⟩
    ·rcases e5 with e5|⟨_,_,_,e,_⟩
     ·exact e5.1
     ·rw[hi.2.2]at e;cases e
    ·rcases e5 with e5|⟨_,_,_,e,_⟩
     ·exact e5.2.1
     ·rw[hi.2.2]at e;cases e
    ·rw[e4 i hi.1 hi.2.1,if_pos rfl]
    ·rw[e4 j a b,if_neg (fun e=>hj e.symm)]
  obtain⟨rfl,g1,g2,g3,g4,g5⟩:=h3
  rcases h2 with⟨h6,_⟩|⟨_,h6⟩
  ·exact absurd rfl h6
  ·by_cases hl:l= []
   ·subst hl
    obtain⟨rfl,rfl⟩:=h6
    refine⟨rfl,g1,g2,fun x hx=>?_,fun j a b hj=>g4 j a b (hj (i,v) List.mem_cons_self),g5⟩
    rw[List.mem_singleton]at hx
    subst hx
    exact g3
   ·obtain⟨rfl,k1,k2,k3,k4,k5⟩:=Jd h6 hp.2 (fun x hx=>hz x (List.mem_cons_of_mem _ hx)) hl
    refine⟨rfl,k1.trans g1,k2.trans g2,fun x hx=>?_,fun j a b hj=>?_,fun j h=>k5 j (g5 j h)⟩
    ·rcases List.mem_cons.1 hx with rfl|hx
     ·exact⟨(k4 i hi.1 hi.2.1 (fun y hy=>(hp.1 y hy).symm)).trans g3.1,k5 _ g3.2⟩
     ·exact k3 x hx
    ·rw[k4 j a b (fun y hy=>hj y (List.mem_cons_of_mem _ hy)),g4 j a b (hj (i,v) List.mem_cons_self)]
theorem QQ {T:ScS->Nat->Int->Int->ScS->Prop} {X:World->Prop} :∀ {l:List (Nat×Int)} {s:ScS} {w:World},SqG T (fun _ _ _ w=>X w) l s w->X w
 | [],_,_,h=>h.elim
 |(i,v)::l,s,w,h=>by
  rcases h with h|⟨s1,_,h⟩
  ·exact h
  ·exact QQ h
end
def HpV.alc (V:HpV) (nw r:Nat) (u':Int) (S':DS) (st':Sst):HpV:= { V with u:=u',S:=S',st:=st',us:=V.us+(nw+1),os:=V.os++ [(nw,r)] }
section
variable {H:HpC} {l:Int} {V V':HpV} {w w':World}
def AlsP (H:HpC) (l:Int) (V:HpV) (m:Nat) (pl:Nat->Nat) (D:Nat->Int) (u0:Nat) (rs0:List Nat) (os0:List (Nat×Nat)) (nw r:Nat) (w:World) (e:Ending) (w':World):Prop:=
 (H.c.space<V.us+(nw+1)/\e=.returned (.tuple #[.int .i64 0,.int .i64 4])/\SecP H l V w'/\xe (H.q.bl H.p H.a) w w')\/
 (V.us+(nw+1)≤H.c.space/\xe (H.q.bl H.p H.a) w w'/\
   ((e=.returned (.tuple #[.int .i64 0,.int .i64 3])/\m=H.c.log/\¬HasR m pl (H.c.act+1)/\SecP H l V w')\/
    (e=.returned (.tuple #[.int .i64 (H.c.frm V.k+V.us:Nat),.int .i64 0])/\∃u' S' m' pl',((m'=m/\pl'=pl/\HasR m pl (H.c.act+1))\/(m'=m+1/\pl'=put pl m (H.c.act+1)/\m<H.c.log/\¬HasR m pl (H.c.act+1)))/\
      SecP H l (V.alc nw r u' S' (.opn m' pl' D u0 rs0 os0)) w'/\HepS S' H.c H.a.n V.k (V.us+(nw+1)) V.rs (V.os++ [(nw,r)])/\P8 V.S S'/\u'≤V.u+300000/\
      ∀j,H.c.act≤j->j<H.a.n->S'.now j=if j=H.c.act+1 then((V.us+(nw+1):Nat):Int)else if j=H.c.frm V.k+V.us then((hdPk nw r:Nat):Int)else if H.c.frm V.k+V.us<j/\j≤H.c.frm V.k+V.us+nw then 0 else V.S.now j)\/
    (e=.panicked [{ v:=xP,recovered:=false }]/\GonP H l V w')))
theorem xd5 (h:HpW H l V w) {m:Nat} {pl:Nat->Nat} {D:Nat->Int} {u0:Nat} {rs0:List Nat} {os0:List (Nat×Nat)} (hst:V.st=.opn m pl D u0 rs0 os0) (hu:V.u≤400000000000) (hr:V.r<4294967290) (nw r:Nat) (hnw:nw≤64) (hrn:r≤nw):
  Calls Tryz.prog 90 #[ptr H.a.d,cfgV H.c,hdV nw r,.func (.func 91) #[ptr H.q.b] #[]] w (AlsP H l V m pl D u0 rs0 os0 nw r w):=by
 have hs:=h.sec
 unfold SecP at hs
 rw[hst]at hs
 obtain⟨h1,h2,h3,h4⟩:=hs
 have hus:=h.hep.us
 have hfs:=xu (c:=H.c) V.k h.hep.k1
 have hn:=h.n
 have hf0:=xK (c:=H.c) V.k
 have hQ:V.Q H=ImgQ H.c H.a.n V.k u0 D:=by unfold HpV.Q HpV.bs;rw[hst]
 refine(VB (Zq (Z:=Zh H.c V.k u0) (r:=V.r) (f:=(H.c.frm V.k:Int)+(u0:Nat)) (t:=(H.c.frm V.k:Int)+(H.c.space:Nat)) (l:=l) D w V.S V.u h.ok h.n (by omega) (by omega)) 0 ⟨V.u,V.S,m,pl,fun j=>H.c.frm V.k+u0≤j/\j<H.c.frm V.k+V.us⟩ w ⟨h1,P8.refl _,by show V.u≤_;omega,xe.refl _ _⟩ H.c h.ok h.n nw r hnw hrn (by omega) (by show 0≤V.S.now _;rw[h.hep.act];omega) (by show 0≤V.S.now _;rw[h.hep.used];omega) fun n s w hJ b hb=>hJ.1.lts b (List.mem_cons_of_mem _ hb)).mono ?_
 rintro e w' (⟨h9,_,_⟩|⟨k,us,hk,hus1,ha,hub,hc⟩)
 ·exfalso
  have h9':1<V.S.now H.c.act\/(H.c.space:Int)<V.S.now (H.c.act+1):=h9
  rw[h.hep.act,h.hep.used]at h9'
  have:=h.hep.k1
  omega
 have ha':V.S.now H.c.act=(k:Int):=ha
 have hub':V.S.now (H.c.act+1)=(us:Int):=hub
 obtain rfl:V.k=k:=by have:=h.hep.act;omega
 obtain rfl:V.us=us:=by have:=h.hep.used;omega
 rcases hc with⟨hsp,rfl,hk'⟩|⟨hsp,hc⟩
 ·exact .inl ⟨hsp,rfl,h.sec.keep hk' (by simp),hk'.mono (by simp)⟩
 refine .inr ⟨hsp,?_⟩
 rcases hc with⟨code,s',rfl,hT,hJ,hkk,_⟩|⟨rfl,hG⟩
 rotate_left
 ·obtain⟨⟨S',g1,g2,g3⟩,g4⟩:=QQ hG
  refine⟨g4,.inr (.inr ⟨rfl,S',g1,?_,h.sup.p8 g3⟩)⟩
  rw[hQ]
  exact g2.q
 refine⟨hkk,?_⟩
 obtain⟨c1,s1,hT1,hT2⟩:=hT
 have hfr:xA ((H.c.frm V.k:Int)+(u0:Nat)) ((H.c.frm V.k:Int)+(H.c.space:Nat)) ((H.c.act+1:Nat):Int)=false:=by
  rw[<-Bool.not_eq_true,wZ]
  omega
 obtain⟨hJ1,hJ2,hJ3,hJ4⟩:=hJ
 rcases hT1 (by omega)with⟨rfl,rfl,_,g1,g2⟩|⟨rfl,g1,g2,g3⟩
 ·rcases hT2 with⟨_,rfl,rfl⟩|⟨h0,_⟩
  ·refine .inl ⟨rfl,g2,g1,?_⟩
   unfold SecP
   rw[hst]
   exact⟨hJ1,h2,h3,h4⟩
  ·exact absurd h0 (by decide)
 ·rcases hT2 with⟨h0,_⟩|⟨_,hT2⟩
  ·exact absurd rfl h0
  have hlay:∀x∈layW (H.c.frm V.k+V.us) (hdPk nw r) nw,H.c.act≤x.1/\x.1<H.a.n/\xA ((H.c.frm V.k:Int)+(u0:Nat)) ((H.c.frm V.k:Int)+(H.c.space:Nat)) (x.1:Nat)=true:=fun x hx=>by
   rw[wZ]
   rcases yP.1 hx with rfl|⟨i,hi,rfl⟩<;>simp only<;>omega
  obtain⟨rfl,k1,k2,k3,k4,k5⟩:=Jd hT2 (Vd _ _ _) hlay (by simp[layW])
  have hnow:∀j,H.c.act≤j->j<H.a.n->s'.S.now j=if j=H.c.act+1 then((V.us+(nw+1):Nat):Int)else if j=H.c.frm V.k+V.us then((hdPk nw r:Nat):Int)else if H.c.frm V.k+V.us<j/\j≤H.c.frm V.k+V.us+nw then 0 else V.S.now j:=fun j a b=>by
   by_cases e2:j=H.c.frm V.k+V.us
   ·rw[if_neg (by omega),if_pos e2,e2]
    exact(k3 (H.c.frm V.k+V.us,((hdPk nw r:Nat):Int)) (yP.2 (.inl rfl))).1
   by_cases e3:H.c.frm V.k+V.us<j/\j≤H.c.frm V.k+V.us+nw
   ·rw[if_neg (by omega),if_neg e2,if_pos e3]
    have h5:=(k3 (H.c.frm V.k+V.us+1+(j-(H.c.frm V.k+V.us+1)),0) (yP.2 (.inr ⟨j-(H.c.frm V.k+V.us+1),by omega,rfl⟩))).1
    rw[show H.c.frm V.k+V.us+1+(j-(H.c.frm V.k+V.us+1))=j by omega]at h5
    exact h5
   ·rw[k4 j a b fun x hx=>by
     rcases yP.1 hx with rfl|⟨i,hi,rfl⟩<;>simp only<;>omega,g3 j a b,if_neg e2,if_neg e3]
  refine .inr (.inl ⟨rfl,s'.u,s'.S,s'.m,s'.pl,?_,?_,h.hep.alloc hnw hrn hsp fun j a b=>hnow j a (by omega),hJ2,?_,hnow⟩)
  ·rw[k1,k2]
   rcases g1 with⟨e1,e2,e3⟩|⟨e1,e2,e3,_,e5⟩
   ·refine .inl ⟨e1,e2,?_⟩
    rcases e3 with e3|e3
    ·rw[hfr]at e3;cases e3
    ·exact e3
   ·exact .inr ⟨e1,e2,e3,e5⟩
  ·unfold SecP HpV.alc
   refine⟨hJ1.less fun j hj=>?_,h2,by obtain⟨t,ht⟩:=h3;exact⟨t++ [(nw,r)],by rw[ht];simp⟩,by show u0≤V.us+(nw+1);omega⟩
   have hj1:H.c.frm V.k+u0≤j/\j<H.c.frm V.k+(V.us+(nw+1)):=hj
   by_cases hj2:j<H.c.frm V.k+V.us
   ·exact k5 j (g2 j (.inl ⟨hj1.1,hj2⟩))
   ·by_cases hj3:j=H.c.frm V.k+V.us
    ·rw[hj3]
     exact(k3 (H.c.frm V.k+V.us,((hdPk nw r:Nat):Int)) (yP.2 (.inl rfl))).2
    ·have h5:=(k3 (H.c.frm V.k+V.us+1+(j-(H.c.frm V.k+V.us+1)),0) (yP.2 (.inr ⟨j-(H.c.frm V.k+V.us+1),by omega,rfl⟩))).2
     rw[show H.c.frm V.k+V.us+1+(j-(H.c.frm V.k+V.us+1))=j by omega]at h5
     exact h5
  ·have h5:s'.u≤V.u+3000*((0+(alcW H.c V.k V.us nw r).length:Nat):Int):=hJ3
   rw[J9]at h5
   omega
def AloE (H:HpC) (V:HpV) (nw r:Int) (code:Int):Prop:=
 (hdB nw r=false/\code=5)\/(∃nn:Nat,hdB nw r=true/\nw=(nn:Int)/\H.c.space<V.us+(nn+1)/\code=4)\/
 (∃(nn m:Nat) (pl:Nat->Nat) (D:Nat->Int) (u0:Nat) (rs0:List Nat) (os0:List (Nat×Nat)),V.st=.opn m pl D u0 rs0 os0/\hdB nw r=true/\nw=(nn:Int)/\V.us+(nn+1)≤H.c.space/\m=H.c.log/\¬HasR m pl (H.c.act+1)/\code=3)
def AloN (H:HpC) (V:HpV) (nn rr:Nat) (S':DS):Prop:=
 ∀j,H.c.act≤j->j<H.a.n->S'.now j=if j=H.c.act+1 then((V.us+(nn+1):Nat):Int)else if j=H.c.frm V.k+V.us then((hdPk nn rr:Nat):Int)else if H.c.frm V.k+V.us<j/\j≤H.c.frm V.k+V.us+nn then 0 else V.S.now j
def AloM (H:HpC) (m:Nat) (pl:Nat->Nat) (m':Nat) (pl':Nat->Nat):Prop:=
 (m'=m/\pl'=pl/\HasR m pl (H.c.act+1))\/(m'=m+1/\pl'=put pl m (H.c.act+1)/\m<H.c.log/\¬HasR m pl (H.c.act+1))
def AloP (H:HpC) (l:Int) (V:HpV) (nw r:Int) (w:World) (e:Ending) (w':World):Prop:=
 (∃code,e=.returned (.tuple #[.int .i64 0,.int .i64 code])/\HpW H l V w'/\xe (H.q.bl H.p H.a) w w'/\((V.st.isO=false/\code=2)\/(V.st.isO=true/\AloE H V nw r code)))\/
 (∃(nn rr m:Nat) (pl:Nat->Nat) (D:Nat->Int) (u0:Nat) (rs0:List Nat) (os0:List (Nat×Nat)),V.st=.opn m pl D u0 rs0 os0/\nw=(nn:Int)/\r=(rr:Int)/\nn≤64/\rr≤nn/\V.us+(nn+1)≤H.c.space/\
   e=.returned (.tuple #[.int .i64 (V.m+1:Nat),.int .i64 0])/\xe H.bl w w'/\∃u' S' m' pl',AloM H m pl m' pl'/\HpW H l { V.alc nn rr u' S' (.opn m' pl' D u0 rs0 os0)with m:=V.m+1,g:=upd V.g (V.m+1) (H.c.frm V.k+V.us) } w'/\u'≤V.u+300000/\AloN H V nn rr S')\/
 HpX H l V (V.Q H) w e w'
theorem xd0 {n r:Int} :hdB n r=true↔∃nn rr:Nat,n=(nn:Int)/\r=(rr:Int)/\nn≤64/\rr≤nn:=by
 unfold hdB
 constructor
 ·intro h
  simp only[Bool.and_eq_true,decide_eq_true_eq]at h
  exact⟨n.toNat,r.toNat,by omega,by omega,by omega,by omega⟩
 ·rintro⟨nn,rr,rfl,rfl,h1,h2⟩
  simp only[Bool.and_eq_true,decide_eq_true_eq]
  omega
def AloO (H:HpC) (l:Int) (V:HpV) (nw r pv:Int) (w':World):Prop:=
 ∃(nn rr m:Nat) (pl:Nat->Nat) (D:Nat->Int) (u0:Nat) (rs0:List Nat) (os0:List (Nat×Nat)),V.st=.opn m pl D u0 rs0 os0/\nw=(nn:Int)/\r=(rr:Int)/\nn≤64/\rr≤nn/\V.us+(nn+1)≤H.c.space/\pv=((H.c.frm V.k+V.us:Nat):Int)/\
  ∃u' S' m' pl',AloM H m pl m' pl'/\SecP H l (V.alc nn rr u' S' (.opn m' pl' D u0 rs0 os0)) w'/\HepS S' H.c H.a.n V.k (V.us+(nn+1)) V.rs (V.os++ [(nn,rr)])/\P8 V.S S'/\u'≤V.u+300000/\AloN H V nn rr S'
theorem xd4 (h:HpW H l V w) {m:Nat} {pl:Nat->Nat} {D:Nat->Int} {u0:Nat} {rs0:List Nat} {os0:List (Nat×Nat)} (hst:V.st=.opn m pl D u0 rs0 os0) (hu:V.u≤400000000000) (hr:V.r<4294967290) (nw r:Int):
  Calls Tryz.prog 90 #[ptr H.a.d,cfgV H.c,hdV nw r,.func (.func 91) #[ptr H.q.b] #[]] w fun e w'=>
   ((∃pv code,e=.returned (.tuple #[.int .i64 pv,.int .i64 code])/\((code≠0/\SecP H l V w'/\AloE H V nw r code)\/(code=0/\AloO H l V nw r pv w')))\/(e=.panicked [{ v:=xP,recovered:=false }]/\GonP H l V w'))/\xe (H.q.bl H.p H.a) w w':=by
 cases hb:hdB nw r with
 |false=>
  refine(Qo w H.a.d H.c nw r hb _).mono ?_
  rintro e w' ⟨rfl,hk⟩
  exact⟨.inl ⟨0,5,rfl,.inl ⟨by decide,h.sec.keep hk (by simp),.inl ⟨hb,rfl⟩⟩⟩,hk.mono (by simp)⟩
 |true=>
  obtain⟨nn,rr,rfl,rfl,h1,h2⟩:=xd0.1 hb
  refine(xd5 h hst hu hr nn rr h1 h2).mono ?_
  rintro e w' (⟨g1,rfl,g2,g3⟩|⟨g1,g2,⟨rfl,g3,g4,g5⟩|⟨rfl,u',S',m',pl',k1,k2,k3,k4,k5,k6⟩|⟨rfl,g3⟩⟩)
  ·exact⟨.inl ⟨0,4,rfl,.inl ⟨by decide,g2,.inr (.inl ⟨nn,hb,rfl,g1,rfl⟩)⟩⟩,g3⟩
  ·exact⟨.inl ⟨0,3,rfl,.inl ⟨by decide,g5,.inr (.inr ⟨nn,m,pl,D,u0,rs0,os0,hst,hb,rfl,g1,g3,g4,rfl⟩)⟩⟩,g2⟩
  ·exact⟨.inl ⟨_,0,rfl,.inr ⟨rfl,nn,rr,m,pl,D,u0,rs0,os0,hst,rfl,rfl,h1,h2,g1,rfl,u',S',m',pl',k1,k2,k3,k4,k5,k6⟩⟩,g2⟩
  ·exact⟨.inr ⟨rfl,g3⟩,g2⟩
theorem xcA (h:HpW H l V w) (nn rr:Nat) {m':Nat} {pl':Nat->Nat} {D:Nat->Int} {u0:Nat} {rs0:List Nat} {os0:List (Nat×Nat)} {u':Int} {S':DS} {w2 w3:World} (hs:SecP H l (V.alc nn rr u' S' (.opn m' pl' D u0 rs0 os0)) w2) (hh:HepS S' H.c H.a.n V.k (V.us+(nn+1)) V.rs (V.os++ [(nn,rr)])) (h8:P8 V.S S') (hk:xe (H.q.bl H.p H.a) w w2)
  (ht:TabW w3 H.x (V.m+1) (upd V.g (V.m+1) (H.c.frm V.k+V.us))) (hk3:xe H.x.bl w2 w3):HpW H l { V.alc nn rr u' S' (.opn m' pl' D u0 rs0 os0)with m:=V.m+1,g:=upd V.g (V.m+1) (H.c.frm V.k+V.us) } w3:=by
 have hd:=h.hep.chn.done rfl
 refine⟨?_,?_,ht,hh,h.ok,h.n,h.n4,h.sup.p8 h8,fun n hn=>?_,h.ap,h.hx⟩
 ·exact hk3.at (hk.at h.ob fun hb=>h.ap'.1 (List.mem_cons_of_mem _ hb)) h.hx
 ·exact hs.keep hk3 fun b hb h'=>h.ap'.2 b h' hb
 ·by_cases e:n=V.m+1
  ·show Stt H.c V.k (V.os++ [(nn,rr)]) (upd V.g (V.m+1) (H.c.frm V.k+V.us) n)
   rw[e,Xb]
   exact⟨V.os.length,by simp,by rw[Z0,hd]⟩
  ·have h1:upd V.g (V.m+1) (H.c.frm V.k+V.us) n≠0:=hn
   show Stt H.c V.k (V.os++ [(nn,rr)]) (upd V.g (V.m+1) (H.c.frm V.k+V.us) n)
   rw[zN e]at h1⊢
   exact(h.hs n h1).app
theorem xa1 (h:HpW H l V w) (hu:V.u≤400000000000) (hr:V.r<4294967290) (hm:V.m<1000) (nw r:Int):
  Calls Tryz.prog 32 #[ptr H.hb,hdV nw r] w (AloP H l V nw r w):=by
 have HOP:=hid (fun(w':World) (hk:xe [] w w')=>(h.keep0 hk).sec.open)
 have HS:=hid (fun(w':World) (hk:xe (H.q.bl H.p H.a) w w')=>yj h.ob hk (fun hb=>h.ap'.1 (List.mem_cons_of_mem _ hb)))
 unfold HpCl at HS
 have HLT:=hid (fun b (hb:b∈H.q.bl H.p H.a)=>h.sec.lts b (List.mem_cons_of_mem _ hb))
 have HH:=hid h
 cases hst:V.st with
 |shut=>
  have HE:Hid (V.st.isO=false):=by show _=_;rw[hst];rfl
  have HOP1:Hid (∀w',xe [] w w'->Calls Tryz.prog 84 #[ptr H.q.b] w' fun e w''=>e=.returned (.bool false)/\w'=w''):=fun w' hk=>by
   have:=HOP.out w' hk
   rw[hst]at this
   exact this
  have K1:=(xe.refl [] w).alloc (.cells #[.int .i64 nw,.int .i64 r] 67)
  have c4:=(HS.out _ (K1.mono (by simp))).2.2.2.2.1
  have HO2:=hid (HOP1.out _ K1)
  have HK1:=hid K1
  clear h hu hr hm HOP HOP1 hst HLT K1 HS
  go_enter Tryz.func32,Tryz.ntmps32
  go_wp2_with fail
  refine HO2.out.mono ?_
  rintro e w1 ⟨rfl,rfl⟩
  go_wp2_with fail
  go_ret2
  exact .inl ⟨2,rfl,HH.out.keep0 HK1.out,HK1.out.mono (by simp),.inl ⟨HE.out,rfl⟩⟩
 |opn m pl D u0 rs0 os0=>
  have HE:Hid (V.st.isO=true/\V.st=.opn m pl D u0 rs0 os0):=⟨by rw[hst];rfl,hst⟩
  have HOP1:Hid (∀w',xe [] w w'->Calls Tryz.prog 84 #[ptr H.q.b] w' fun e w''=>e=.returned (.bool true)/\w'=w''):=fun w' hk=>by
   have:=HOP.out w' hk
   rw[hst]at this
   exact this
  have HAL:=hid (fun(w':World) (hk:xe [] w w')=>xd4 (h.keep0 hk) hst hu hr nw r)
  have hX:=At.new w (.cells #[.int .i64 nw,.int .i64 r] 67)
  have K1:=(xe.refl [] w).alloc (.cells #[.int .i64 nw,.int .i64 r] 67)
  have HMM:=hid hm
  have HN:=hid (And.intro h.n (And.intro h.n4 (And.intro (xu (c:=H.c) V.k h.hep.k1) h.hep.us)))
  clear h hu hr hm HOP hst
  go_enter Tryz.func32,Tryz.ntmps32
  go_upto_region 1 with fail
  obtain⟨xb,hxb⟩:∃q,q=w.heap.size:=⟨_,rfl⟩
  obtain⟨w1,hw1⟩:∃w1,w1=w.alloc (.cells #[.int .i64 nw,.int .i64 r] 67):=⟨_,rfl⟩
  first|rw[<-hxb]|skip
  rw[<-hxb]at hX
  rw[<-hw1]at hX K1⊢
  have HXW:Hid (w.heap.size≤xb):=Nat.le_of_eq hxb.symm
  have HX:=hid hX
  have HK1:=hid K1
  clear hw1 hxb hX K1
  have c4:=(HS.out _ (HK1.out.mono (by simp))).2.2.2.2.1
  have HO2:=hid (HOP1.out _ HK1.out)
  clear HOP1
  go_wp2_with fail
  refine HO2.out.mono ?_
  rintro e w2 ⟨rfl,rfl⟩
  clear c4 HO2
  go_upto_region 3 with fail
  have HC:Hid (∀w'',xe (H.q.bl H.p H.a) w1 w''->(w''.cell? ⟨H.hb,0,none⟩=some (ptr H.a.d)/\w''.cell? ⟨H.hb,1,none⟩=some (.int .i64 H.c.log)/\w''.cell? ⟨H.hb,2,none⟩=some (.int .i64 H.c.roots)/\w''.cell? ⟨H.hb,3,none⟩=some (.int .i64 H.c.space)/\w''.cell? ⟨H.hb,4,none⟩=some (ptr H.q.b)/\w''.cell? ⟨H.hb,5,none⟩=some (ptr H.x.t))/\w''.cell? ⟨xb,0,none⟩=some (.int .i64 nw)/\w''.cell? ⟨xb,1,none⟩=some (.int .i64 r)):=fun w'' hk=>by
   have h1:=hk.at HX.out (fun hb=>by have h2:=HLT.out _ hb;have h3:=HXW.out;omega)
   exact⟨HS.out w'' ((HK1.out.mono (by simp)).trans hk),h1.cell 0 rfl,h1.cell 1 rfl⟩
  have kk:xe [] w1 w1.drew:=(xe.refl _ _).drew
  go_region_held2 (fun w''=>(w''.cell? ⟨H.hb,0,none⟩=some (ptr H.a.d)∧w''.cell? ⟨H.hb,1,none⟩=some (.int .i64 H.c.log)∧w''.cell? ⟨H.hb,2,none⟩=some (.int .i64 H.c.roots)∧w''.cell? ⟨H.hb,3,none⟩=some (.int .i64 H.c.space)∧w''.cell? ⟨H.hb,4,none⟩=some (ptr H.q.b)∧w''.cell? ⟨H.hb,5,none⟩=some (ptr H.x.t))∧w''.cell? ⟨xb,0,none⟩=some (.int .i64 nw)∧w''.cell? ⟨xb,1,none⟩=some (.int .i64 r))
   (first|exact HC.out _ (kk.mono (by simp))|exact HC.out _ ((kk.mono (by simp)).trans g5))
   (first
     |(go_at_call 90;refine(HAL.out _ (HK1.out.trans kk)).mono ?_;rintro e w4 ⟨⟨pv,code,rfl,g4⟩|⟨rfl,g4⟩,g5⟩;rotate_left;exact⟨rfl,.inr (.inr ⟨rfl,g4,((HK1.out.trans kk).mono (by simp)).trans (g5.mono fun b _ hb=>bl_q hb)⟩)⟩))
  rename_i hHd
  clear hHd
  have HK4:Hid (xe (H.q.bl H.p H.a) w w4):=((HK1.out.trans kk).mono (by simp)).trans g5
  have hc5:=(HS.out _ HK4.out).2.2.2.2.2
  clear g5 kk HAL
  rcases g4 with⟨h0,g4,g6⟩|⟨rfl,g4⟩
  ·have t1:(code==0)=false:=by rw[beq_eq_false_iff_ne];exact h0
   have HF:Hid (HpW H l V w4/\AloE H V nw r code):=⟨HH.out.next HK4.out g4 HH.out.hep HH.out.sup rfl rfl rfl HH.out.hs,g6⟩
   clear g4 g6
   go_wp2_with fail
   go_ret2
   exact .inl ⟨code,rfl,HF.out.1,HK4.out,.inr ⟨HE.out.1,HF.out.2⟩⟩
  ·obtain⟨nn,rr,m2,pl2,D2,v0,rs2,os2,k1,k2,k3,k4,k5,k6,rfl,u',S',m',pl',j1,j2,j3,j4,j5,j6⟩:=g4
   have HG:=hid (And.intro k1 (And.intro k2 (And.intro k3 (And.intro k4 (And.intro k5 k6)))))
   have HGJ:=hid (And.intro j1 (And.intro j2 (And.intro j3 (And.intro j4 (And.intro j5 j6)))))
   obtain⟨pn,hpn⟩:∃pn,pn=H.c.frm V.k+V.us:=⟨_,rfl⟩
   have hng:∀i,V.g i≠pn:=fun i he=>by
    have h1:=xK (c:=H.c) V.k
    have h2:=(HH.out.hs i (by omega)).lt HH.out.hep
    omega
   have hp4:pn<4000:=by have:=HN.out;omega
   have hp0:pn≠0:=by have:=xK (c:=H.c) V.k;omega
   have HTK:=hid (Xu w4 H.x V.m V.g pn (HH.out.tab.keep HK4.out fun b hb h'=>HH.out.ap'.2 b hb (List.mem_cons_of_mem _ h')) hng hp0 hp4 HMM.out)
   rw[<-hpn]
   have HPN:=hid hpn
   clear k1 k2 k3 k4 k5 k6 j1 j2 j3 j4 j5 j6 hng hp4 hp0 hpn
   go_wp2_with fail
   refine HTK.out.mono ?_
   rintro e w5 ⟨rfl,ht5,hk5⟩
   have HT5:=hid (And.intro ht5 hk5)
   clear ht5 hk5
   go_wp2_with fail
   go_ret2
   refine .inr (.inl ⟨nn,rr,m2,pl2,D2,v0,rs2,os2,HG.out.1,HG.out.2.1,HG.out.2.2.1,HG.out.2.2.2.1,HG.out.2.2.2.2.1,HG.out.2.2.2.2.2,rfl,?_,u',S',m',pl',HGJ.out.1,?_,HGJ.out.2.2.2.2.1,HGJ.out.2.2.2.2.2⟩)
   ·exact(HK4.out.mono fun b _ hb=>bl_q hb).trans (HT5.out.2.mono fun b _ hb=>bl_x hb)
   ·have h1:=HT5.out.1
    rw[HPN.out]at h1
    exact xcA HH.out nn rr HGJ.out.2.1 HGJ.out.2.2.1 HGJ.out.2.2.2.1 HK4.out h1 HT5.out.2
end
open Go.RowKit Go.OpenShut
section
variable {S S':DS} {c:Cfg} {n k u:Nat} {rs ws:List Nat} {os:List (Nat×Nat)}
theorem Stt.ob (h:HepS S c n k u rs os) {z:Nat} (hz:Stt c k os z):(obW S c k u z).isSome=true:=by
 obtain⟨i,hi,rfl⟩:=hz
 rw[h.chn.obW hi];rfl
theorem xdF (h:HepS S c n k u rs os) (hw:∀v∈ws,v=0\/Stt c k os v) {x:Nat} (hx:Rch S c k u ws x):Stt c k os x:=by
 induction hx with
 |here h1 h2=>
  rcases hw _ h1 with rfl|h3
  ·rw[zx]at h2;cases h2
  ·exact h3
 |on _ h2 h3 ih=>
  obtain⟨i,hi,rfl⟩:=ih
  have h4:=h.chn.obW hi
  obtain⟨q1,q2,q3,q4,q5,q6⟩:=zt h4
  unfold nmW at h2
  obtain⟨j,hj,rfl⟩:=List.mem_map.1 h2
  rw[List.mem_range]at hj
  obtain⟨v,g1,g2⟩:=h.name_ok hi (show j<rL os i by omega)
  rw[g1,Int.toNat_natCast]at h3⊢
  rcases g2 with rfl|g2
  ·rw[zx]at h3;cases h3
  ·exact g2
theorem xae (h:HepS S c n k u rs os) (hw:∀v∈ws,v=0\/Stt c k os v) {x:Nat} (hx:x∈rcF S c k u ws):Stt c k os x:=xdF h hw (Wd.1 hx)
def stL (c:Cfg) (k:Nat) (os:List (Nat×Nat)):List Nat:=(List.range os.length).map fun i=>c.frm k+posL os i
theorem xdx {z:Nat} :z∈stL c k os↔Stt c k os z:=by
 unfold stL Stt
 rw[List.mem_map]
 constructor
 ·rintro⟨i,h1,rfl⟩;exact⟨i,List.mem_range.1 h1,rfl⟩
 ·rintro⟨i,h1,rfl⟩;exact⟨i,List.mem_range.2 h1,rfl⟩
theorem QO (c:Cfg) (k:Nat) (os:List (Nat×Nat)):(stL c k os).Nodup:=by
 unfold stL
 refine List.pairwise_map.2 (List.Pairwise.imp_of_mem ?_ List.nodup_range)
 intro a b ha hb hne he
 rw[List.mem_range]at ha hb
 exact hne (zL (l:=os) (by omega) (by omega) (by omega))
theorem HepS.sz_at (h:HepS S c n k u rs os):∀i,i≤os.length->szF S ((List.range i).map fun i=>c.frm k+posL os i)=posL os i
 |0,_=>rfl
 |i+1,hi=>by
  obtain⟨h1,h2,h3⟩:=h.chn.head i _ (zU (show i<os.length by omega))
  have h4:nL os i≤64:=h1
  have h3':S.now (c.frm k+posL os i)=((hdPk (nL os i) (rL os i):Nat):Int):=h3
  rw[List.range_succ,List.map_append,zY,h.sz_at i (by omega),zT (by omega)]
  simp only[List.map_cons,List.map_nil]
  rw[xC,h3',Int.toNat_natCast,XZ _ _ h4]
  show _+(_+1+0)=_
  omega
theorem HepS.sz_le (h:HepS S c n k u rs os) {l:List Nat} (hn:l.Nodup) (ho:∀x∈l,Stt c k os x):szF S l≤u:=by
 have hp:l.Perm ((stL c k os).filter fun x=>decide (x∈l)):=by
  refine(List.perm_ext_iff_of_nodup hn ((QO c k os).filter _)).2 fun x=>?_
  rw[List.mem_filter,decide_eq_true_iff]
  exact⟨fun hx=>⟨xdx.2 (ho x hx),hx⟩,fun hx=>hx.2⟩
 have h1:=h.sz_at os.length (Nat.le_refl _)
 rw[zq]at h1
 have h2:=h.chn.le
 rw[jW hp]
 have h3:=XE S (fun x=>decide (x∈l)) (stL c k os)
 unfold stL at h3⊢
 omega
theorem HepS.cp (h:HepS S c n k u rs os) {a:DA} (p:Nat) (hc:c.Ok) (ha:n=a.n) (hn:c.words=n) (hw:∀v∈ws,v=0\/Stt c k os v) (hf:ws.length≤1000):CP.Ok ⟨p,a,S,c,k,u,ws,rs⟩:=by
 have hfs:=xu (c:=c) k h.k1
 have hus:=h.us
 have hn5:n≤15000:=by rw[ha]at hn⊢;exact(c_in hc hn).2.2.2.2
 refine⟨hc,by rw[<-ha];exact hn,h.k1,hus,⟨h.wd.2,?_,fun x hx w hw'=>?_⟩,fun v hv=>?_,h.rb,hf,h.rl⟩
 ·exact Nat.le_trans (h.sz_le zg fun x hx=>xae h hw hx) hus
 ·obtain⟨i,hi,rfl⟩:=xae h hw hx
  have h4:=h.chn.obW hi
  obtain⟨q1,q2,q3,q4,q5,q6⟩:=zt h4
  have hw':w∈nmW S (c.frm k+posL os i):=hw'
  have h5:=hw'
  unfold nmW at h5
  obtain⟨j,hj,rfl⟩:=List.mem_map.1 h5
  rw[List.mem_range]at hj
  obtain⟨v,g1,g2⟩:=h.name_ok hi (show j<rL os i by omega)
  have h6:(obW S c k u v).isSome=true->v∈rcF S c k u ws:=fun ho=>YD hx (by rw[g1,Int.toNat_natCast]at hw';exact hw') ho
  rw[g1,Int.toNat_natCast]
  rcases g2 with g2|g2
  ·exact .inl g2
  ·exact .inr (h6 (g2.ob h))
 ·rcases hw v hv with rfl|h1
  ·omega
  ·have:=h1.lt h
   omega
end
section
variable {H:HpC} {l:Int} {V V':HpV} {w w':World}
theorem HpW.plc (h:HpW H l V w):∀v∈V.rs++plcL V.m V.g,v=0\/Stt H.c V.k V.os v:=fun v hv=>by
 rcases List.mem_append.1 hv with h1|h1
 ·obtain⟨i,hi,rfl⟩:=List.mem_iff_getElem.1 h1
  have h2:=h.hep.root_ok (j:=i) (by rw[<-h.hep.rl];exact hi)
  rw[List.getD_eq_getElem?_getD,List.getElem?_eq_getElem hi]at h2
  exact h2
 ·obtain⟨n,_,rfl⟩:=List.mem_map.1 h1
  rcases Nat.eq_zero_or_pos (V.g n)with h2|h2
  ·exact .inl h2
  ·exact .inr (h.hs n (by omega))
theorem xav (w:World) (b xq v:Nat) {P:CP} {T:List Nat} {i:Nat} (h:At w b (.cells #[ptr xq] 123)) (hC:ColC P w xq T i) (hv:v≤15000):
  Calls Tryz.prog 171 #[.int .i64 (v:Nat),ptr b] w fun e w'=>e=.returned (.int .i64 (wtC P.S P.c P.k (P.cs i) v:Nat))/\xe [] w w':=by
 have c0:=h.cell 0 rfl
 have HW:=hid (Y3.went hC v (by omega))
 have ew:=vY v hv
 clear h hC hv
 go_enter Tryz.func171,Tryz.ntmps171
 go_wp2_with fail
 refine HW.out.mono ?_
 rintro e w1 ⟨rfl,hk⟩
 have HK:=hid hk
 clear hk
 go_wp2_with fail
 go_ret
 exact⟨rfl,HK.out⟩
theorem jm {P:CP} {xq b:Nat} {T:List Nat} {i:Nat} :xfa 171 #[ptr b] (wtC P.S P.c P.k (P.cs i)) (b::T) (fun v=>v≤15000) (fun _ w=>At w b (.cells #[ptr xq] 123)/\ColC P w xq T i) where
 inv:=fun w p=>by simp[go_sem]
 keep:=fun L w w' S' h hk hS=>⟨hk.at h.1 fun hb=>hS _ hb (by simp),zC h.2 hk fun b hb hb'=>hS _ hb' (List.mem_cons_of_mem _ hb)⟩
 call:=fun L w p h _ hd=>(xav w b xq p h.1 h.2 hd).mono fun e w' ⟨h1,h2⟩=>⟨h1,⟨h2.at h.1 (by simp),zC h.2 h2 (by simp)⟩,h2.mono (by simp)⟩
theorem xeW (w:World) (hb d q:Nat) (c:Cfg) (x:Tb) (cv:Value) (m:Nat) (g:Nat->Nat) {P:CP} {xq:Nat} {T:List Nat} {i:Nat} (hB:At w hb (hpO d c q x.t cv)) (hT:TabW w x m g) (hC:ColC P w xq T i) (hapx:∀b∈x.bl,b∉T)
  (hf:∀v,wtC P.S P.c P.k (P.cs i) v<4000) (hinj:∀v v',wtC P.S P.c P.k (P.cs i) v=wtC P.S P.c P.k (P.cs i) v'->wtC P.S P.c P.k (P.cs i) v≠0->v=v'):
  Calls Tryz.prog 98 #[ptr hb,ptr xq] w fun e w'=>e=.returned (.tuple #[])/\TabW w' x m (mvd (wtC P.S P.c P.k (P.cs i)) g)/\ColC P w' xq T i/\xe (x.p::x.n::T) w w':=by
 have c5:=hB.cell 5 rfl
 have hX:=At.new w (.cells #[ptr xq] 123)
 have K1:=(xe.refl [] w).alloc (.cells #[ptr xq] 123)
 have HM:=hid (xaQ (jm (P:=P) (xq:=xq) (b:=w.heap.size) (T:=T) (i:=i)) (w.alloc (.cells #[ptr xq] 123)) x m g (hT.keep K1 (by simp)) ⟨hX,zC hC K1 (by simp)⟩ (fun b hb h'=>by
  rcases List.mem_cons.1 h' with h1|h1
  ·have:=hT.lt b hb;omega
  ·exact hapx b hb h1) (fun b hb=>by
  rw[World.size_alloc]
  rcases List.mem_cons.1 hb with h1|h1
  ·omega
  ·have:=xbk hC b h1;omega) (fun n hn=>⟨by have:=(hT.bd n hn).2.2;omega,hf _⟩) (fun i j h1 h2 h3 h4=>hT.uq (hinj _ _ h3 h4) h1))
 have c5':=(K1.at hB (by simp)).cell 5 rfl
 clear hB hT hC hX hf hinj hapx K1
 go_enter Tryz.func98,Tryz.ntmps98
 go_wp2_with fail
 refine HM.out.mono ?_
 rintro e w1 ⟨rfl,h1,⟨L,⟨h2,h3⟩,_⟩,h4⟩
 have HE:Hid (TabW w1 x m (mvd (wtC P.S P.c P.k (P.cs i)) g)/\ColC P w1 xq T i/\xe (x.p::x.n::T) w w1):=⟨h1,h3,by
  refine xe.new ((xe.refl _ w).alloc (.cells #[ptr xq] 123)) h4 fun b hb=>?_
  simp only[List.mem_cons]at hb⊢
  rcases hb with h|h|h|h
  ·exact .inl (.inl h)
  ·exact .inl (.inr (.inl h))
  ·exact .inr (by omega)
  ·exact .inl (.inr (.inr h))⟩
 clear h1 h2 h3 h4 HM
 go_wp2_with fail
 go_end0
 exact⟨rfl,HE.out⟩
theorem HpW.setcv (h:HpW H l V w) (v:Value):HpW H l { V with cv:=v } (w.setCell ⟨H.hb,6,none⟩ v)/\xe [H.hb] w (w.setCell ⟨H.hb,6,none⟩ v):=by
 have hk:xe [H.hb] w (w.setCell ⟨H.hb,6,none⟩ v):=(xe.refl _ w).set (.inl (by simp)) v
 have h1:=h.ap'
 refine⟨⟨?_,?_,h.tab.keep hk fun b hb h'=>?_,h.hep,h.ok,h.n,h.n4,h.sup,h.hs,h.ap,h.hx⟩,hk⟩
 ·have:=h.ob.set 6 v
  simpa using this
 ·have h2:=h.sec.keep hk fun b hb h'=>h1.1 (by rw[List.mem_singleton.1 h']at hb;exact hb)
  unfold SecP at h2⊢
  exact h2
 ·rw[List.mem_singleton.1 h']at hb
  exact h.hx hb
theorem xaX (w:World) (d q:Nat) (c:Cfg) (y:Value) (hO:∀w',xe [] w w'->Calls Tryz.prog 84 #[ptr q] w' fun e w''=>e=.returned (.bool true)/\w'=w''):
  Calls Tryz.prog 96 #[ptr d,cfgV c,ptr q,y] w fun e w'=>e=.returned (.tuple #[.pointer none,.int .i64 2])/\xe [] w w':=by
 have HO:=hid hO
 clear hO
 go_enter Tryz.func96,Tryz.ntmps96
 go_wp2_with fail
 have K0:=(xe.refl [] w).alloc (cfgO c)
 obtain⟨w0,hw0⟩:∃w0,w0=w.alloc (cfgO c):=⟨_,rfl⟩
 rw[<-hw0]at K0⊢
 clear hw0
 refine(HO.out w0 K0).mono ?_
 rintro e w1 ⟨rfl,rfl⟩
 go_wp2_with fail
 refine bodyPost_ret (v:=.tuple #[.pointer none,.int .i64 2]) (by simp[results,Tryz.results96,go_sem]) rfl ?_
 exact⟨rfl,K0⟩
def HpV.LS (H:HpC) (V:HpV):List Nat:=rcF V.S H.c V.k V.us (V.rs++plcL V.m V.g)
def HpV.wt (H:HpC) (V:HpV):Nat->Nat:=wtC V.S H.c V.k (V.LS H)
def HpV.col (H:HpC) (V:HpV) (u':Int) (S':DS) (r':Nat):HpV:=
 { u:=u',S:=S',r:=r',st:=.shut,k:=1-V.k,us:=szF V.S (V.LS H),rs:=V.rs.map (V.wt H),os:=hdL V.S (V.LS H),m:=V.m,g:=mvd (V.wt H) V.g,cv:=.pointer none }
def ColV (H:HpC) (V:HpV) (f:Nat->Int):Prop:=∃S1,Cpd V.S S1 H.c V.k (V.LS H)/\∀j,H.c.act≤j->j<H.a.n->f j=blkF H.c (1-V.k) (szF V.S (V.LS H)) (nwR V.S H.c V.k (V.LS H) V.rs) S1.now j
def ColI (H:HpC) (V:HpV) (K:Nat->Int):Prop:=∃f,ColV H V f/\ImgQ H.c H.a.n (1-V.k) (szF V.S (V.LS H)) f K
def ColP (H:HpC) (l:Int) (V:HpV) (w:World) (e:Ending) (w':World):Prop:=
 (V.st.isO=true/\e=.returned (.int .i64 2)/\HpW H l { V with cv:=.pointer none } w'/\xe H.bl w w')\/
 (V.st.isO=false/\((e=.returned (.int .i64 0)/\∃u' S' r',ColV H V S'.now/\HpW H l (V.col H u' S' r') w'/\u'≤V.u+2000000000/\r'≤V.r+1/\xe H.bl w w')\/HpX H l V (fun K=>V.Q H K\/ColI H V K) w e w'))
section
variable {S T S1:DS} {c:Cfg} {k u:Nat} {ws LS:List Nat}
theorem xdH (e:T.now=S.now):rcF T c k u ws=rcF S c k u ws:=Xj fun j _ _=>congrFun e j
theorem VL (e:T.now=S.now) (l:List Nat):szF T l=szF S l:=by unfold szF;rw[e]
theorem Z4 (e:T.now=S.now) (t:Nat):plC T c k LS t=plC S c k LS t:=by unfold plC;rw[VL e]
theorem Qs (e:T.now=S.now) (v:Nat):wtC T c k LS v=wtC S c k LS v:=by unfold wtC;rw[Z4 e]
theorem xdZ (e:T.now=S.now) (l:List Nat):hdL T l=hdL S l:=by unfold hdL;rw[e]
theorem Cpd.nowS (h:Cpd S S1 c k LS) (e:T.now=S.now):Cpd T S1 c k LS:=
 ⟨fun t x hx=>by rw[Z4 e,e];exact h.head t x hx,fun t x hx i hi=>by rw[Z4 e,Qs e,e];rw[e]at hi;exact h.name t x hx i hi,fun t x hx i h1 h2=>by rw[Z4 e,e];rw[e]at h1 h2;exact h.num t x hx i h1 h2,fun j hj=>by rw[e];rw[VL e]at hj;exact h.rest j hj⟩
end
def ClhP (H:HpC) (l:Int) (V:HpV) (w:World) (e:Ending) (w':World):Prop:=
 ((∃xq T P,e=.returned (.tuple #[ptr xq,.int .i64 0])/\ColC P w' xq T P.N/\(∀b∈T,w.heap.size≤b)/\(∀v,wtC P.S P.c P.k (P.cs P.N) v=V.wt H v)/\∃u' S' r',ColV H V S'.now/\SecP H l (V.col H u' S' r') w'/\HepS S' H.c H.a.n (1-V.k) (szF V.S (V.LS H)) (V.rs.map (V.wt H)) (hdL V.S (V.LS H))/\P8 V.S S'/\u'≤V.u+2000000000/\r'≤V.r+1)\/
  (e=.panicked [{ v:=xP,recovered:=false }]/\∃S',Pw w' H.p H.a l l S'/\VF H.c H.a.n V.r (fun K=>V.Q H K\/ColI H V K) S'/\SupS H.c S'))/\xe (H.q.bl H.p H.a) w w'
theorem xd1 (h:HpW H l V w) (hst:V.st=.shut) (hu:V.u≤400000000000) (hr:V.r<4294967290) (hm:V.m≤900) (y:Option Addr) (cy B:Nat) (hy:OwnU w B y cy (numL V.m V.g).length (fun j=>(((plcL V.m V.g).getD j 0:Nat):Int))) (hyb:∀b∈blkL y,b∉H.a.d::H.q.bl H.p H.a):
  Calls Tryz.prog 96 #[ptr H.a.d,cfgV H.c,ptr H.q.b,.slice y (numL V.m V.g).length cy] w (ClhP H l V w):=by
 have hs:=h.sec
 unfold SecP at hs
 rw[hst]at hs
 have hQ:V.Q H=ImgQ H.c H.a.n V.k V.us V.S.now:=by unfold HpV.Q HpV.bs;rw[hst]
 have hws:(V.rs++plcL V.m V.g).length≤1000:=by
  have h1:=Xl V.m V.g
  have h2:=h.ok.2.1
  rw[List.length_append,Yk,h.hep.rl]
  omega
 have hP:=h.hep.cp (a:=H.a) H.p h.ok rfl h.n h.plc hws
 rw[<-Yk]at hy⊢
 refine(X3 w H.p H.a l V.u V.S H.q H.c V.r V.k V.us V.rs (plcL V.m V.g) V.os y cy B hs.shutL h.hep hP hy hyb hu hr).mono ?_
 rintro e w' ⟨P,hPok,e1,e2,e3,e4,e5,e6,e7,e8,hD⟩
 have eLS:P.LS=V.LS H:=by unfold CP.LS HpV.LS;rw[e4,e5,e6,e7,xdH e3]
 have ewt:∀v,wtC P.S P.c P.k P.LS v=V.wt H v:=fun v=>by unfold HpV.wt;rw[e4,e5,eLS,Qs e3]
 have ewf:wtC P.S P.c P.k P.LS=V.wt H:=funext ewt
 have esz:szF P.S P.LS=szF V.S (V.LS H):=by rw[eLS,VL e3]
 have enw:nwR P.S P.c P.k P.LS P.rs=nwR V.S H.c V.k (V.LS H) V.rs:=by
  funext j
  unfold nwR
  rw[ewt,e8]
  rfl
 have hCV:∀ {S1:DS} {f:Nat->Int},Cpd P.S S1 P.c P.k P.LS->(∀j,P.c.act≤j->j<P.a.n->f j=blkF P.c (1-P.k) (szF P.S P.LS) (nwR P.S P.c P.k P.LS P.rs) S1.now j)->ColV H V f:=fun {S1 f} hc hf=>by
  rw[e4,e5,eLS]at hc
  rw[enw,esz,e4,e2,e5]at hf
  exact⟨S1,hc.nowS e3.symm,hf⟩
 rcases hD with⟨xq,T,u',S1,S',r',rfl,hC,hT,hcp,hG,hr',hB,h8,hu',hk⟩|⟨rfl,S',g1,g2,g3,g4⟩
 ·rw[e1,e2]at hk
  refine⟨.inl ⟨xq,T,P,rfl,hC,hT,fun v=>?_,u',S',r',hCV hcp hB,?_,?_,h8,hu',hr'⟩,hk⟩
  ·rw[P.cs_end (by unfold CP.N;omega)]
   exact ewt v
  ·rw[e1,e2,e4]at hG
   unfold SecP HpV.col
   rw[<-XF]at hG
   exact hG.less fun _ _ _ _=>rfl
  ·have hH:HepS P.S P.c P.a.n P.k P.us P.rs V.os:=by
    rw[e2,e4,e5,e6,e8]
    exact h.hep.same h.n fun j _ _=>congrFun e3 j
   have hn:=(J4 hPok hH hcp hB).1
   rw[ewf,esz,e8,eLS,xdZ e3,e2,e4,e5]at hn
   exact hn
 ·rw[e1,e2]at g1 g2
  refine⟨.inr ⟨rfl,S',g1,fun ch=>?_,h.sup.p8 g3⟩,g2⟩
  obtain⟨r',m,pl,wd,K,k1,k2,k3⟩:=g4 ch
  rw[e2,e4]at k2
  refine⟨r',m,pl,wd,K,by omega,?_,k2⟩
  rcases k3 with k3|⟨S1,k3,k4⟩
  ·left
   rw[hQ]
   intro j a b d
   rw[e4,e2,e5]at k3
   refine k3 j a b (fun hz=>?_) (hs.fix a b d)
   have h1:=h.hep.us
   have h2:=h.hep.k1
   have h3:=(xD H.c.space).1
   have h4:=xH H.c
   have h5:=zB H.c (1-V.k)
   rw[ZL]at d
   unfold Zn at hz
   rcases d with d|d
   ·omega
   ·have h6:H.c.frm V.k=up8 (H.c.root H.c.roots)+V.k*up8 H.c.space:=rfl
    have h7:H.c.frm (1-V.k)=up8 (H.c.root H.c.roots)+(1-V.k)*up8 H.c.space:=rfl
    rcases(show V.k=0\/V.k=1 by omega)with h8|h8<;>rw[h8]at h6 h7 d hz<;>simp at h6 h7 d hz<;>omega
  ·exact .inr ⟨K,hCV k3 k4,fun _ _ _ _=>rfl⟩
theorem xeu (H:HpC) (V:HpV) (v:Nat):V.wt H v=0\/Stt H.c (1-V.k) (hdL V.S (V.LS H)) (V.wt H v):=Z7.1 (xan V.S H.c V.k (V.LS H) v)
theorem xcx (h:HpW H l V w) {w1 w2 w3:World} {u':Int} {S':DS} {r':Nat} {T:List Nat} (hob:At w1 H.hb (hpO H.a.d H.c H.q.b H.x.t (.pointer none))) (hs:SecP H l (V.col H u' S' r') w2) (hh:HepS S' H.c H.a.n (1-V.k) (szF V.S (V.LS H)) (V.rs.map (V.wt H)) (hdL V.S (V.LS H))) (h8:P8 V.S S')
  (hk:xe (H.q.bl H.p H.a) w1 w2) (ht:TabW w3 H.x V.m (mvd (V.wt H) V.g)) (hk3:xe (H.x.p::H.x.n::T) w2 w3) (hT:∀b∈T,b∉H.a.d::H.bl):HpW H l (V.col H u' S' r') w3:=by
 refine⟨?_,?_,ht,hh,h.ok,h.n,h.n4,h.sup.p8 h8,fun n hn=>?_,h.ap,h.hx⟩
 ·refine hk3.at (hk.at hob fun hb=>h.ap'.1 (List.mem_cons_of_mem _ hb)) fun hb=>?_
  have h1:=h.hx
  simp only[List.mem_cons]at hb
  rcases hb with hb|hb|hb
  ·exact h1 (by rw[hb];simp)
  ·exact h1 (by rw[hb];simp)
  ·exact hT _ hb (by unfold HpC.bl;simp)
 ·refine hs.keep hk3 fun b hb hb'=>?_
  simp only[List.mem_cons]at hb'
  rcases hb' with rfl|rfl|hb'
  ·exact h.ap'.2 _ (by simp) hb
  ·exact h.ap'.2 _ (by simp) hb
  ·refine hT _ hb' ?_
   rcases List.mem_cons.1 hb with rfl|hb
   ·simp
   ·exact List.mem_cons_of_mem _ (bl_q hb)
 ·have h1:mvd (V.wt H) V.g n≠0:=hn
  show Stt H.c (1-V.k) (hdL V.S (V.LS H)) (mvd (V.wt H) V.g n)
  unfold mvd at h1⊢
  split at h1
  ·exact absurd rfl h1
  ·rename_i h0
   rw[if_neg h0]
   exact(xeu H V _).resolve_left h1
theorem YX (h:HpW H l V w) (hu:V.u≤400000000000) (hr:V.r<4294967290) (hm:V.m≤900):
  Calls Tryz.prog 35 #[ptr H.hb] w (ColP H l V w):=by
 have c6:=h.ob.cell 6 rfl
 have f6:=h.ob.free 6
 obtain⟨h1,K1⟩:=h.setcv (.pointer none)
 have HH:=hid h
 have HK1:=hid K1
 have HH1:=hid h1
 have HLT:=hid h.lt
 cases hst:V.st with
 |opn m pl D u0 rs0 os0=>
  have HE:Hid (V.st.isO=true):=by show _=_;rw[hst];rfl
  have HO:Hid (∀w',xe [] (w.setCell ⟨H.hb,6,none⟩ (.pointer none)) w'->Calls Tryz.prog 84 #[ptr H.q.b] w' fun e w''=>e=.returned (.bool true)/\w'=w''):=fun w' hk=>by
   have h2:=(HH1.out.keep0 hk).sec.open
   have h3:({ V with cv:=.pointer none } :HpV).st.isO=true:=HE.out
   rw[h3]at h2
   exact h2
  clear h h1 K1 hu hr hm hst HLT
  go_enter Tryz.func35,Tryz.ntmps35
  go_upto_region 2 with fail
  obtain⟨w1,hw1⟩:∃w1,w1=w.setCell ⟨H.hb,6,none⟩ (.pointer none):=⟨_,rfl⟩
  rw[<-hw1]at HK1 HH1 HO
  first|rw[<-hw1]|skip
  clear hw1 c6 f6
  have HS:=hid (fun(w':World) (hk:xe [] w1 w')=>yj HH1.out.ob hk (by simp))
  unfold HpCl at HS
  have HPC:=hid (fun(w':World) (hk:xe [] w1 w')=>XP w' H.hb H.a.d (hk.at HH1.out.ob (by simp)) (HH1.out.tab.keep hk (by simp)))
  have HCO:=hid (fun(w':World) (hk:xe [] w1 w') (y:Value)=>xaX w' H.a.d H.q.b H.c y fun w'' hk'=>HO.out w'' (hk.trans hk'))
  have kk:xe [] w1 w1.drew:=(xe.refl _ _).drew
  go_region_held3 (fun w'=>w'.cell? ⟨H.hb,0,none⟩=some (ptr H.a.d)∧w'.cell? ⟨H.hb,1,none⟩=some (.int .i64 H.c.log)∧w'.cell? ⟨H.hb,2,none⟩=some (.int .i64 H.c.roots)∧w'.cell? ⟨H.hb,3,none⟩=some (.int .i64 H.c.space)∧w'.cell? ⟨H.hb,4,none⟩=some (ptr H.q.b)∧w'.cell? ⟨H.hb,5,none⟩=some (ptr H.x.t))
   (exact HS.out _ kk)
   (first
     |(go_at_call 97;refine(HPC.out _ kk).mono ?_;rintro e w2 ⟨y,cy,rfl,hO2,hk2⟩;have kk:=kk.trans hk2)
     |(go_at_call 96;refine(HCO.out _ kk _).mono ?_;rintro e w3 ⟨rfl,hk3⟩;have kk:=kk.trans hk3))
  rename_i hHd
  clear hHd
  have HF:Hid (HpW H l { V with cv:=.pointer none } w3/\xe H.bl w w3):=⟨HH1.out.keep0 kk,(HK1.out.mono fun b _ hb=>by rw[List.mem_singleton.1 hb];unfold HpC.bl;simp).trans (kk.mono (by simp))⟩
  clear hO2 hk2 hk3 kk
  go_wp2_with fail
  go_ret
  exact .inl ⟨HE.out,rfl,HF.out.1,HF.out.2⟩
 |shut=>
  have HE:Hid (V.st.isO=false):=by show _=_;rw[hst];rfl
  have HCL:Hid (∀w',xe [] (w.setCell ⟨H.hb,6,none⟩ (.pointer none)) w'->∀(y:Option Addr) (cy B:Nat),OwnU w' B y cy (numL V.m V.g).length (fun j=>(((plcL V.m V.g).getD j 0:Nat):Int))->w.heap.size≤B->Calls Tryz.prog 96 #[ptr H.a.d,cfgV H.c,ptr H.q.b,.slice y (numL V.m V.g).length cy] w' (ClhP H l { V with cv:=.pointer none } w')):=fun w' hk y cy B hy hB=>by
   refine xd1 (HH1.out.keep0 hk) hst hu hr hm y cy B hy fun b hb h'=>?_
   have h2:=(hy.ge b hb).1
   have h3:=HLT.out b (by
    rcases List.mem_cons.1 h' with rfl|h'
    ·simp
    ·exact List.mem_cons_of_mem _ (bl_q h'))
   omega
  clear h h1 K1 hu hr hm hst
  go_enter Tryz.func35,Tryz.ntmps35
  go_upto_region 2 with fail
  obtain⟨w1,hw1⟩:∃w1,w1=w.setCell ⟨H.hb,6,none⟩ (.pointer none):=⟨_,rfl⟩
  rw[<-hw1]at HK1 HH1 HCL
  first|rw[<-hw1]|skip
  clear hw1 c6 f6
  have HS:=hid (fun(w':World) (hk:xe (H.q.bl H.p H.a) w1 w')=>yj HH1.out.ob hk fun hb=>HH1.out.ap'.1 (List.mem_cons_of_mem _ hb))
  unfold HpCl at HS
  have HPC:=hid (fun(w':World) (hk:xe [] w1 w')=>XP w' H.hb H.a.d (hk.at HH1.out.ob (by simp)) (HH1.out.tab.keep hk (by simp)))
  obtain⟨M,hMe⟩:∃M,M=(numL V.m V.g).length:=⟨_,rfl⟩
  have HPC2:Hid (∀w',xe [] w1 w'->Calls Tryz.prog 97 #[ptr H.hb] w' fun e w''=>∃y cy,e=.returned (.slice y M cy)/\OwnU w'' w'.heap.size y cy M (fun j=>(((plcL V.m V.g).getD j 0:Nat):Int))/\xe [] w' w''):=by rw[hMe];exact HPC.out
  rw[<-hMe]at HCL
  clear hMe HPC
  have kk:xe [] w1 w1.drew:=(xe.refl _ _).drew
  go_region_held2 (fun w'=>w'.cell? ⟨H.hb,0,none⟩=some (ptr H.a.d)∧w'.cell? ⟨H.hb,1,none⟩=some (.int .i64 H.c.log)∧w'.cell? ⟨H.hb,2,none⟩=some (.int .i64 H.c.roots)∧w'.cell? ⟨H.hb,3,none⟩=some (.int .i64 H.c.space)∧w'.cell? ⟨H.hb,4,none⟩=some (ptr H.q.b)∧w'.cell? ⟨H.hb,5,none⟩=some (ptr H.x.t))
   (first|exact HS.out _ (kk.mono (by simp))|exact HS.out _ ((kk.mono (by simp)).trans g5))
   (first
     |(go_at_call 97;refine(HPC2.out _ kk).mono ?_;rintro e w2 ⟨y,cy,rfl,hO2,hk2⟩;have kb:=Nat.le_trans HK1.out.size kk.size;have kk:=kk.trans hk2)
     |(go_at_call 96;refine(HCL.out _ kk _ _ _ hO2 kb).mono ?_;rintro e w3 ⟨⟨xq,T,P,rfl,hg4⟩|⟨rfl,g4⟩,g5⟩;rotate_left;exact⟨rfl,.inr ⟨HE.out,.inr ⟨rfl,g4,((HK1.out.mono fun b _ hb=>by rw[List.mem_singleton.1 hb];unfold HpC.bl;simp).trans (kk.mono (by simp))).trans (g5.mono fun b _ hb=>bl_q hb)⟩⟩⟩))
  rename_i hHd
  clear hHd
  obtain⟨hC,hT,hwt,u',S',r',q1,q2,q3,q4,q5,q6⟩:=hg4
  have HC3:=hid hC
  have HT3:Hid (∀b∈T,w.heap.size≤b):=fun b hb=>by have h2:=hT b hb;have h3:=Nat.le_trans HK1.out.size kk.size;have h4:=kk.size;have h5:=HK1.out.size;omega
  have HK3:Hid (xe (H.q.bl H.p H.a) w1 w3):=(kk.mono (by simp)).trans g5
  have HQ:=hid (And.intro hwt (And.intro q1 (And.intro q2 (And.intro q3 (And.intro q4 (And.intro q5 q6))))))
  have hB3:=HK3.out.at HH1.out.ob fun hb=>HH1.out.ap'.1 (List.mem_cons_of_mem _ hb)
  have hwf:wtC P.S P.c P.k (P.cs P.N)=V.wt H:=funext hwt
  have HWF:=hid hwf
  have hf4:∀v,V.wt H v<4000:=fun v=>by
   rcases xeu H V v with h2|h2
   ·omega
   ·have h3:=h2.lt q3
    have h4:=q3.us
    have h5:=xu (c:=H.c) (1-V.k) (by omega)
    have h6:=HH1.out.n
    have h7:=HH1.out.n4
    omega
  have hap:∀b∈H.x.bl,b∉T:=fun b hb h'=>by
   have h2:=HT3.out b h'
   have h3:=HLT.out b (List.mem_cons_of_mem _ (bl_x hb))
   omega
  have HMV:=hid (xeW w3 H.hb H.a.d H.q.b H.c H.x (.pointer none) V.m V.g hB3 (HH1.out.tab.keep HK3.out fun b hb h'=>HH1.out.ap'.2 b hb (List.mem_cons_of_mem _ h')) hC hap (fun v=>by rw[hwf];exact hf4 v) fun v v' e1 e2=>by
   rw[hwf]at e1 e2
   exact ZO zg (XB.1 e2) e1)
  rw[hwf]at HMV
  clear hC hT hwt q1 q2 q3 q4 q5 q6 g5 kk kb hO2 hk2 hwf hf4 hap HPC2 HCL
  go_wp2_with fail
  refine HMV.out.mono ?_
  rintro e w4 ⟨rfl,ht4,_,hk4⟩
  have HF:Hid (HpW H l (V.col H u' S' r') w4/\xe H.bl w w4):=by
   refine⟨xcx HH.out HH1.out.ob HQ.out.2.2.1 HQ.out.2.2.2.1 HQ.out.2.2.2.2.1 HK3.out ht4 hk4 (fun b hb h'=>?_),?_⟩
   ·have h2:=HT3.out b hb
    have h3:=HLT.out b h'
    omega
   ·refine(((HK1.out.mono fun b _ hb=>by rw[List.mem_singleton.1 hb];unfold HpC.bl;simp).trans (HK3.out.mono fun b _ hb=>bl_q hb)).new hk4 fun b hb=>?_)
    simp only[List.mem_cons]at hb
    rcases hb with rfl|rfl|hb
    ·exact .inl (bl_x (by simp))
    ·exact .inl (bl_x (by simp))
    ·exact .inr (HT3.out b hb)
  clear ht4 hk4
  go_wp2_with fail
  go_ret
  exact .inr ⟨HE.out,.inl ⟨rfl,u',S',r',HQ.out.2.1,HF.out.1,HQ.out.2.2.2.2.2.1,HQ.out.2.2.2.2.2.2,HF.out.2⟩⟩
end
open Go.RowKit Go.OpenShut
section
variable {H:HpC} {l:Int} {V V':HpV} {w w':World}
theorem VF.mono {c:Cfg} {n r r2:Nat} {Q Q':(Nat->Int)->Prop} {S':DS} (h:∀ch:Nat->Int,∃r' m pl wd K,r'≤r+1/\Q K/\LI c n 1 r' m pl wd K (xz S' ch)) (hr:r≤r2+3) (hQ:∀K,Q K->Q' K):VF c n r2 Q' S':=fun ch=>by
 obtain⟨r',m,pl,wd,K,g1,g2,g3⟩:=h ch
 exact⟨r',m,pl,wd,K,by omega,hQ K g2,g3⟩
def HpV.beg (V:HpV) (u':Int) (S':DS) (pl:Nat->Nat):HpV:= { V with u:=u',S:=S',st:=.opn 0 pl V.S.now V.us V.rs V.os }
theorem xd2 (h:HpW H l V w) (hst:V.st=.shut) (hu:V.u≤500000000000):
  Calls Tryz.prog 88 #[ptr H.q.b,xdz ((H.c.frm V.k:Int)+(V.us:Nat)) ((H.c.frm V.k:Int)+(H.c.space:Nat))] w fun e w'=>
   ((e=.returned (.int .i64 0)/\∃u' S' pl,HpW H l (V.beg u' S' pl) w'/\S'.now=V.S.now/\u'≤V.u+3000)\/(e=.panicked [{ v:=xP,recovered:=false }]/\∃S',Pw w' H.p H.a l l S'/\(∀ch:Nat->Int,∃r' m pl wd K,r'≤V.r+1/\V.Q H K/\LI H.c H.a.n 1 r' m pl wd K (xz S' ch))/\SupS H.c S'))/\xe (H.q.bl H.p H.a) w w':=by
 have hs:=h.sec
 unfold SecP at hs
 rw[hst]at hs
 have hQ:V.Q H=ImgQ H.c H.a.n V.k V.us V.S.now:=by unfold HpV.Q HpV.bs;rw[hst]
 refine(xbq hs h.ok h.n (by omega) _ _ fun j hj hf=>?_).mono ?_
 ·rw[wZ]at hf
  have h1:=xK (c:=H.c) V.k
  have h2:=xH H.c
  have h3:=zB H.c V.k
  cases hz:Zh H.c V.k V.us j with
  |false=>rfl
  |true=>rw[ZL]at hz;omega
 ·rintro e w' (⟨rfl,u',S',pl,g1,g2,g3,g4,g5⟩|⟨rfl,⟨S',g1,g2,g3⟩,g4⟩)
  ·refine⟨.inl ⟨rfl,u',S',pl,?_,g2,g4⟩,g5⟩
   refine h.next g5 ?_ (h.hep.same h.n fun j _ _=>congrFun g2 j) (h.sup.p8 g3) rfl rfl rfl h.hs
   unfold SecP HpV.beg
   exact⟨g1.less fun j hj=>by have h1:H.c.frm V.k+V.us≤j/\j<H.c.frm V.k+V.us:=hj;omega,h.hep.same h.n fun j _ _=>rfl,⟨[],by simp⟩,Nat.le_refl _⟩
  ·refine⟨.inr ⟨rfl,S',g1,fun ch=>?_,h.sup.p8 g3⟩,g4⟩
   obtain⟨r',m,pl,wd,K,k1,k2,k3⟩:=g2 ch
   refine⟨r',m,pl,wd,K,k1,?_,k3⟩
   rw[hQ]
   intro j a b d
   rcases k2 with k2|k2<;>exact k2 j a b d
def Rmd (H:HpC) (V:HpV) (room:Int) (V2:HpV):Prop:=(V2=V/\room≤((H.c.space-V.us:Nat):Int))\/(((H.c.space-V.us:Nat):Int)<room/\∃u' S' r',V2=V.col H u' S' r'/\ColV H V S'.now/\u'≤V.u+2000000000/\r'≤V.r+1)
theorem Wk (w:World) (hb d:Nat) (c:Cfg) (q t:Nat) (cv:Value) (k us:Nat) (rv:Value) (hB:At w hb (hpO d c q t cv)) (hus:us≤c.space) (hsp:c.space≤4096):
  Calls Tryz.prog 155 #[ptr hb,bkV (k:Nat) (us:Nat) rv] w fun e w'=>e=.returned (.int .i64 (c.space-us:Nat))/\xe [] w w':=by
 have K1:=(xe.refl [] w).alloc (bkO (k:Nat) (us:Nat) rv)
 have hX:=At.new w (bkO (k:Nat) (us:Nat) rv)
 have c3:=(K1.at hB (by simp)).cell 3 rfl
 have b1:=hX.cell 1 rfl
 have e1:((c.space-us:Nat):Int)=(c.space:Int)-(us:Int):=by omega
 have h1:(c.space:Int)≤4096:=by omega
 have h2:(us:Int)≤4096:=by omega
 have HK:=hid K1
 rw[e1]
 clear hB hX K1 hus hsp e1
 go_enter Tryz.func155,Tryz.ntmps155
 go_wp2_with fail
 go_region
 all_goals
  go_wp2_with fail
  go_ret
  exact⟨rfl,HK.out.drew⟩
def RmyP (H:HpC) (l:Int) (V:HpV) (room:Int) (w:World) (e:Ending) (w':World):Prop:=
 (∃V2,Rmd H V room V2/\HpW H l V2 w'/\xe H.bl w w'/\((room≤((H.c.space-V2.us:Nat):Int)/\∃x cp,e=.returned (.tuple #[bkV (V2.k:Nat) (V2.us:Nat) (.slice x H.c.roots cp),.int .i64 0]))\/
   (((H.c.space-V2.us:Nat):Int)<room/\e=.returned (.tuple #[bkV 0 0 (.slice none 0 0),.int .i64 4]))))\/HpX H l V (fun K=>V.Q H K\/ColI H V K) w e w'
theorem xaK (h:HpW H l V w) (hst:V.st=.shut) (hu:V.u≤400000000000) (hr:V.r<4294967290) (hm:V.m≤900) (room:Int):
  Calls Tryz.prog 87 #[ptr H.hb,.int .i64 room] w (RmyP H l V room w):=by
 have HH:=hid h
 have HST:=hid hst
 have HBK:=hid (fun(w':World) (hk:xe [] w w')=>Xv w' H.hb H.p H.a (hk.at h.ob (by simp)) (h.keep0 hk).pw.dev h.hep h.ok h.n)
 have HFR:=hid (fun(w':World) (hk:xe [] w w') (rv:Value)=>Wk w' H.hb H.a.d H.c H.q.b H.x.t V.cv V.k V.us rv (hk.at h.ob (by simp)) h.hep.us h.ok.small.2.2)
 have HCL:=hid (fun(w':World) (hk:xe [] w w')=>YX (h.keep0 hk) hu hr hm)
 clear h hst hu hr hm
 go_enter Tryz.func87,Tryz.ntmps87
 go_upto_region 1 with fail
 have hX:=At.new w (bkO 0 0 (.slice none 0 0))
 have K1:=(xe.refl [] w).alloc (bkO 0 0 (.slice none 0 0))
 obtain⟨rb,hrb⟩:∃q,q=w.heap.size:=⟨_,rfl⟩
 obtain⟨w1,hw1⟩:∃w1,w1=w.alloc (bkO 0 0 (.slice none 0 0)):=⟨_,rfl⟩
 first|rw[<-hrb]|skip
 rw[<-hrb]at hX
 rw[<-hw1]at hX K1⊢
 have HRB:Hid (w.heap.size≤rb):=Nat.le_of_eq hrb.symm
 have HX:=hid hX
 have HK1:=hid K1
 clear hw1 hrb hX K1
 have HB1:=hid (HBK.out w1 HK1.out)
 go_wp2_with fail
 refine HB1.out.mono ?_
 rintro e w2 ⟨x,cp,rfl,_,hk2⟩
 have HK2:=hid hk2
 clear hk2 HB1
 go_upto_region 2 with fail
 have hB3:=At.new w2 (bkO (V.k:Nat) (V.us:Nat) (.slice x H.c.roots cp))
 have k23:=(xe.refl [] w2).alloc (bkO (V.k:Nat) (V.us:Nat) (.slice x H.c.roots cp))
 obtain⟨bb,hbb⟩:∃q,q=w2.heap.size:=⟨_,rfl⟩
 obtain⟨w3,hw3⟩:∃w3,w3=w2.alloc (bkO (V.k:Nat) (V.us:Nat) (.slice x H.c.roots cp)):=⟨_,rfl⟩
 first|rw[<-hbb]|skip
 rw[<-hbb]at hB3
 rw[<-hw3]at hB3 k23⊢
 have HB3:=hid hB3
 have HK13:=hid (HK2.out.trans k23)
 have HK3:=hid (HK1.out.trans HK13.out)
 have HBB:Hid (w2.heap.size≤bb/\rb<bb):=⟨Nat.le_of_eq hbb.symm,by have h1:=HX.out.lt;have h2:=HK2.out.size;omega⟩
 clear hw3 hbb hB3 k23
 have b0:=HB3.out.cell 0 rfl
 have b1:=HB3.out.cell 1 rfl
 have b2:=HB3.out.cell 2 rfl
 have HF3:=hid (HFR.out w3 HK3.out (.slice x H.c.roots cp))
 obtain⟨fr,hfr⟩:∃fr:Nat,fr=H.c.space-V.us:=⟨_,rfl⟩
 rw[<-hfr]at HF3
 have HFE:=hid hfr
 clear hfr
 go_wp2_with fail
 refine HF3.out.mono ?_
 rintro e w4 ⟨rfl,hk4⟩
 have HK34:=hid hk4
 have HK4:=hid (HK3.out.trans hk4)
 clear hk4 b0 b1 b2
 by_cases hroom:room≤(fr:Int)
 ·have t1:decide (room≤(fr:Int))=true:=decide_eq_true hroom
  have hX4:=(HK13.out.trans HK34.out).at HX.out (by simp)
  have hB4:=HK34.out.at HB3.out (by simp)
  have f0:=hX4.free 0
  have f1:=hX4.free 1
  have f2:=hX4.free 2
  have y0:=hX4.cell 0 rfl
  have y1:=hX4.cell 1 rfl
  have y2:=hX4.cell 2 rfl
  have b0:=hB4.cell 0 rfl
  have b1:=hB4.cell 1 rfl
  have b2:=hB4.cell 2 rfl
  have hF:=((hX4.set 0 (.int .i64 (V.k:Nat))).set 1 (.int .i64 (V.us:Nat))).set 2 (.slice x H.c.roots cp)
  have x0:=hF.cell 0 rfl
  have x1:=hF.cell 1 rfl
  have x2:=hF.cell 2 rfl
  have HE:=hid (((HK4.out.set (.inr HRB.out) (.int .i64 (V.k:Nat)) (p:=⟨rb,0,none⟩)).set (.inr HRB.out) (.int .i64 (V.us:Nat)) (p:=⟨rb,1,none⟩)).set (.inr HRB.out) (.slice x H.c.roots cp) (p:=⟨rb,2,none⟩))
  have HRM:=hid hroom
  clear hF hX4 hB4
  go_wp2_with fail
  refine bodyPost_ret (v:=.tuple #[bkV (V.k:Nat) (V.us:Nat) (.slice x H.c.roots cp),.int .i64 0]) (by simp[results,Tryz.results87,go_sem,x0,x1,x2]) rfl ?_
  exact .inl ⟨V,.inl ⟨rfl,by rw[<-HFE.out];exact HRM.out⟩,HH.out.keep0 HE.out,HE.out.mono (by simp),.inl ⟨by rw[<-HFE.out];exact HRM.out,x,cp,rfl⟩⟩
 ·have t1:decide (room≤(fr:Int))=false:=decide_eq_false hroom
  have t2:(fr:Int)<room:=by omega
  have HRM:=hid t2
  have HC4:=hid (HCL.out w4 HK4.out)
  clear t2
  go_wp2_with fail
  refine HC4.out.mono ?_
  rintro e w5 (⟨h5,_⟩|⟨_,⟨rfl,u',S',r',q1,q2,q3,q4,q5⟩|hg⟩)
  ·rw[HST.out]at h5;cases h5
  rotate_left
  ·obtain⟨rfl,hg⟩:=hg
   exact⟨rfl,.inr (HpX.pre ⟨rfl,hg⟩ HK4.out)⟩
  obtain⟨V2,hV2⟩:∃V2,V2=V.col H u' S' r':=⟨_,rfl⟩
  rw[<-hV2]at q2
  have HRD:Hid (Rmd H V room V2):=.inr ⟨by rw[<-HFE.out];exact HRM.out,u',S',r',hV2,q1,q3,q4⟩
  have HQ2:=hid q2
  have HK45:=hid q5
  have HBW:Hid (∀b,w.heap.size≤b->b∉H.bl):=fun b hb h'=>by
   have:=HH.out.lt b (List.mem_cons_of_mem _ h')
   omega
  have HBK2:=hid (Xv w5 H.hb H.p H.a q2.ob q2.pw.dev q2.hep q2.ok q2.n)
  have HFR2:=hid (fun(w':World) (hk:xe [] w5 w') (rv:Value)=>Wk w' H.hb H.a.d H.c H.q.b H.x.t V2.cv V2.k V2.us rv (hk.at q2.ob (by simp)) q2.hep.us q2.ok.small.2.2)
  have HK5:Hid (xe H.bl w w5):=(HK4.out.mono (by simp)).trans q5
  have hX5:=q5.at ((HK13.out.trans HK34.out).at HX.out (by simp)) (HBW.out rb HRB.out)
  have hB5:=q5.at (HK34.out.at HB3.out (by simp)) (HBW.out bb (by have h1:=HBB.out;have h2:=HRB.out;omega))
  have HX5:=hid hX5
  have HB5:=hid hB5
  clear hV2 q1 q2 q3 q4 q5 hX5 hB5 HCL HBK HFR hroom t1
  go_wp2_with fail
  refine HBK2.out.mono ?_
  rintro e w6 ⟨x2,cp2,rfl,_,hk6⟩
  have HK56:=hid hk6
  have hB6:=hk6.at HB5.out (by simp)
  have hX6:=hk6.at HX5.out (by simp)
  have f0:=hB6.free 0
  have f1:=hB6.free 1
  have f2:=hB6.free 2
  have b0:=hB6.cell 0 rfl
  have b1:=hB6.cell 1 rfl
  have b2:=hB6.cell 2 rfl
  obtain⟨w7,hw7⟩:∃w7,w7=((w6.setCell ⟨bb,0,none⟩ (.int .i64 (V2.k:Nat))).setCell ⟨bb,1,none⟩ (.int .i64 (V2.us:Nat))).setCell ⟨bb,2,none⟩ (.slice x2 H.c.roots cp2):=⟨_,rfl⟩
  have hk67:xe [bb] w6 w7:=by rw[hw7];exact(((xe.refl _ w6).set (.inl (by simp)) _).set (.inl (by simp)) _).set (.inl (by simp)) _
  have hB7:At w7 bb (bkO (V2.k:Nat) (V2.us:Nat) (.slice x2 H.c.roots cp2)):=by
   rw[hw7]
   have:=((hB6.set 0 (.int .i64 (V2.k:Nat))).set 1 (.int .i64 (V2.us:Nat))).set 2 (.slice x2 H.c.roots cp2)
   simpa using this
  have hX7:=hk67.at hX6 (by have:=HBB.out;simp;omega)
  have hH7:HpW H l V2 w7:=(HQ2.out.keep0 hk6).keep hk67 fun b hb h'=>by
   have h1:=HQ2.out.lt b hb
   have h2:=HH.out.lt b hb
   have h3:=HBB.out
   have h4:=HRB.out
   simp at h'
   omega
  have HH7:=hid hH7
  have HK7:Hid (xe H.bl w w7):=((HK5.out.trans (hk6.mono (by simp))).new hk67 fun b hb=>.inr (by have h1:=HBB.out;have h2:=HRB.out;simp at hb;omega))
  have HFR7:=hid (Wk w7 H.hb H.a.d H.c H.q.b H.x.t V2.cv V2.k V2.us (.slice x2 H.c.roots cp2) hH7.ob hH7.hep.us hH7.ok.small.2.2)
  obtain⟨fr2,hfr2⟩:∃fr2:Nat,fr2=H.c.space-V2.us:=⟨_,rfl⟩
  rw[<-hfr2]at HFR7
  have HFE2:=hid hfr2
  have HB7:=hid hB7
  have HX7:=hid hX7
  clear hk6 hB6 hX6 hk67 hB7 hX7 hH7 HFR2 HBK2 hfr2
  go_upto_region 8 with fail
  rw[<-hw7]
  clear f0 f1 f2 b0 b1 b2 hw7
  have b0:=HB7.out.cell 0 rfl
  have b1:=HB7.out.cell 1 rfl
  have b2:=HB7.out.cell 2 rfl
  go_wp2_with fail
  refine HFR7.out.mono ?_
  rintro e w8 ⟨rfl,hk8⟩
  have HK78:=hid hk8
  have hX8:=hk8.at HX7.out (by simp)
  have hB8:=hk8.at HB7.out (by simp)
  clear hk8 b0 b1 b2
  have f0:=hX8.free 0
  have f1:=hX8.free 1
  have f2:=hX8.free 2
  have y0:=hX8.cell 0 rfl
  have y1:=hX8.cell 1 rfl
  have y2:=hX8.cell 2 rfl
  have b0:=hB8.cell 0 rfl
  have b1:=hB8.cell 1 rfl
  have b2:=hB8.cell 2 rfl
  have HRA:Hid (∀b,b∈H.a.d::H.bl->b≠rb):=fun b hb h'=>by
   have h1:=HH.out.lt b hb
   have h2:=HRB.out
   omega
  by_cases hroom2:room≤(fr2:Int)
  ·have t1:decide (room≤(fr2:Int))=true:=decide_eq_true hroom2
   have hF:=((hX8.set 0 (.int .i64 (V2.k:Nat))).set 1 (.int .i64 (V2.us:Nat))).set 2 (.slice x2 H.c.roots cp2)
   have x0:=hF.cell 0 rfl
   have x1:=hF.cell 1 rfl
   have x2':=hF.cell 2 rfl
   have HE:=hid ((((xe.refl [rb] w8).set (.inl (by simp)) (.int .i64 (V2.k:Nat)) (p:=⟨rb,0,none⟩)).set (.inl (by simp)) (.int .i64 (V2.us:Nat)) (p:=⟨rb,1,none⟩)).set (.inl (by simp)) (.slice x2 H.c.roots cp2) (p:=⟨rb,2,none⟩))
   have HR2:=hid hroom2
   clear hF hX8 hB8 hroom2
   go_wp2_with fail
   refine bodyPost_ret (v:=.tuple #[bkV (V2.k:Nat) (V2.us:Nat) (.slice x2 H.c.roots cp2),.int .i64 0]) (by simp[results,Tryz.results87,go_sem,x0,x1,x2']) rfl ?_
   refine .inl ⟨V2,HRD.out,(HH7.out.keep0 HK78.out).keep HE.out fun b hb h'=>HRA.out b hb (by simpa using h'),(HK7.out.trans (HK78.out.mono (by simp))).new HE.out fun b hb=>.inr (by have:=HRB.out;simp at hb;omega),.inl ⟨by rw[<-HFE2.out];exact HR2.out,x2,cp2,rfl⟩⟩
  ·have t1:decide (room≤(fr2:Int))=false:=decide_eq_false hroom2
   have t2:(fr2:Int)<room:=by omega
   have hF:=((hX8.set 0 (.int .i64 0)).set 1 (.int .i64 0)).set 2 (.slice none 0 0)
   have x0:=hF.cell 0 rfl
   have x1:=hF.cell 1 rfl
   have x2':=hF.cell 2 rfl
   have HE:=hid ((((xe.refl [rb] w8).set (.inl (by simp)) (.int .i64 0) (p:=⟨rb,0,none⟩)).set (.inl (by simp)) (.int .i64 0) (p:=⟨rb,1,none⟩)).set (.inl (by simp)) (.slice none 0 0) (p:=⟨rb,2,none⟩))
   have HR2:=hid t2
   clear hF hX8 hB8 hroom2 t2
   go_wp2_with fail
   refine bodyPost_ret (v:=.tuple #[bkV 0 0 (.slice none 0 0),.int .i64 4]) (by simp[results,Tryz.results87,go_sem,x0,x1,x2']) rfl ?_
   refine .inl ⟨V2,HRD.out,(HH7.out.keep0 HK78.out).keep HE.out fun b hb h'=>HRA.out b hb (by simpa using h'),(HK7.out.trans (HK78.out.mono (by simp))).new HE.out fun b hb=>.inr (by have:=HRB.out;simp at hb;omega),.inr ⟨by rw[<-HFE2.out];exact HR2.out,rfl⟩⟩
def BegP (H:HpC) (l:Int) (V:HpV) (room:Int) (w:World) (e:Ending) (w':World):Prop:=
 (∃code,e=.returned (.int .i64 code)/\HpW H l V w'/\xe [] w w'/\((V.st.isO=true/\code=2)\/(V.st.isO=false/\room<0/\code=1)))\/
 (V.st.isO=false/\0≤room/\((∃V2,Rmd H { V with cv:=.pointer none } room V2/\xe H.bl w w'/\((room≤((H.c.space-V2.us:Nat):Int)/\e=.returned (.int .i64 0)/\∃u' S' pl,HpW H l (V2.beg u' S' pl) w'/\S'.now=V2.S.now/\u'≤V2.u+3000)\/
   (((H.c.space-V2.us:Nat):Int)<room/\e=.returned (.int .i64 4)/\HpW H l V2 w')))\/HpX H l V (fun K=>V.Q H K\/ColI H V K) w e w'))
theorem Rmd.q {room:Int} {V2:HpV} (h:Rmd H V room V2) (hst:V.st=.shut) {K:Nat->Int} (hK:V2.Q H K):V.Q H K\/ColI H V K:=by
 rcases h with⟨rfl,_⟩|⟨_,u',S',r',rfl,h1,_⟩
 ·exact .inl hK
 ·exact .inr ⟨S'.now,h1,hK⟩
theorem xaZ (h:HpW H l V w) (hu:V.u≤400000000000) (hr:V.r<4294967290) (hm:V.m≤900) (room:Int):
  Calls Tryz.prog 31 #[ptr H.hb,.int .i64 room] w (BegP H l V room w):=by
 have c4:=h.ob.cell 4 rfl
 have c6:=h.ob.cell 6 rfl
 have f6:=h.ob.free 6
 have HOP:=hid h.sec.open
 have HH:=hid h
 have HLT:=hid h.lt
 cases hst:V.st with
 |opn m pl D u0 rs0 os0=>
  have HE:Hid (V.st.isO=true):=by show _=_;rw[hst];rfl
  rw[HE.out]at HOP
  clear h hu hr hm hst HLT c6 f6
  go_enter Tryz.func31,Tryz.ntmps31
  go_wp2_with fail
  refine HOP.out.mono ?_
  rintro e w1 ⟨rfl,rfl⟩
  go_wp2_with fail
  go_ret
  exact .inl ⟨2,rfl,HH.out,xe.refl _ _,.inl ⟨HE.out,rfl⟩⟩
 |shut=>
  have HE:Hid (V.st.isO=false):=by show _=_;rw[hst];rfl
  rw[HE.out]at HOP
  by_cases hr0:room<0
  ·have HR:=hid hr0
   have t1:decide (room<0)=true:=decide_eq_true hr0
   clear h hu hr hm hst HLT c6 f6
   go_enter Tryz.func31,Tryz.ntmps31
   go_wp2_with fail
   refine HOP.out.mono ?_
   rintro e w1 ⟨rfl,rfl⟩
   go_wp2_with fail
   go_ret
   exact .inl ⟨1,rfl,HH.out,xe.refl _ _,.inr ⟨HE.out,HR.out,rfl⟩⟩
  have hr1:0≤room:=by omega
  have t1:decide (room<0)=false:=decide_eq_false hr0
  obtain⟨h1,K1⟩:=h.setcv (.pointer none)
  have HK1:=hid K1
  have HH1:=hid h1
  have HRM:=hid (xaK h1 hst hu hr hm room)
  have HR:=hid hr1
  have HU:=hid (And.intro hst hu)
  clear h h1 K1 hu hr hm hst hr0
  go_enter Tryz.func31,Tryz.ntmps31
  go_wp2_with fail
  refine HOP.out.mono ?_
  rintro e w0 ⟨rfl,rfl⟩
  go_upto_region 6 with fail
  obtain⟨w1,hw1⟩:∃w1,w1=w.setCell ⟨H.hb,6,none⟩ (.pointer none):=⟨_,rfl⟩
  rw[<-hw1]at HK1 HH1 HRM
  first|rw[<-hw1]|skip
  clear hw1 c6 f6 c4
  have HKB:Hid (xe H.bl w w1):=HK1.out.mono fun b _ hb=>by rw[List.mem_singleton.1 hb];unfold HpC.bl;simp
  go_wp2_with fail
  refine HRM.out.mono ?_
  rintro e w2 (⟨V2,hR2,hH2,hk2,⟨hrm,x,cp,rfl⟩|⟨hrm,rfl⟩⟩|hg)
  rotate_left
  ·have HF:Hid (Rmd H { V with cv:=.pointer none } room V2/\HpW H l V2 (w2.alloc (bkO 0 0 (.slice none 0 0)))/\xe H.bl w (w2.alloc (bkO 0 0 (.slice none 0 0)))/\((H.c.space-V2.us:Nat):Int)<room):=⟨hR2,hH2.keep0 ((xe.refl [] w2).alloc _),(HKB.out.trans hk2).alloc _,hrm⟩
   clear hR2 hH2 hk2 hrm
   go_wp2_with fail
   go_ret
   exact .inr ⟨HE.out,HR.out,.inl ⟨V2,HF.out.1,HF.out.2.2.1,.inr ⟨HF.out.2.2.2,rfl,HF.out.2.1⟩⟩⟩
  ·obtain⟨rfl,hg1,hg2⟩:=hg
   exact⟨rfl,.inr ⟨HE.out,HR.out,.inr ⟨rfl,hg1,HKB.out.trans hg2⟩⟩⟩
  have HR2:=hid hR2
  have HH2:=hid hH2
  have HK2:Hid (xe H.bl w w2):=HKB.out.trans hk2
  have HRM2:=hid hrm
  clear hR2 hH2 hk2 hrm HRM
  go_upto_region 9 with fail
  have hB3:=At.new w2 (bkO (V2.k:Nat) (V2.us:Nat) (.slice x H.c.roots cp))
  have k23:=(xe.refl [] w2).alloc (bkO (V2.k:Nat) (V2.us:Nat) (.slice x H.c.roots cp))
  obtain⟨bb,hbb⟩:∃q,q=w2.heap.size:=⟨_,rfl⟩
  obtain⟨w3,hw3⟩:∃w3,w3=w2.alloc (bkO (V2.k:Nat) (V2.us:Nat) (.slice x H.c.roots cp)):=⟨_,rfl⟩
  first|rw[<-hbb]|skip
  rw[<-hbb]at hB3
  rw[<-hw3]at hB3 k23⊢
  have hH3:=HH2.out.keep0 k23
  have hst2:V2.st=.shut:=by
   rcases HR2.out with⟨rfl,_⟩|⟨_,u',S',r',rfl,_⟩
   ·exact HU.out.1
   ·rfl
  have hu2:V2.u≤500000000000:=by
   rcases HR2.out with⟨rfl,_⟩|⟨_,u',S',r',rfl,_,h5,_⟩
   ·show V.u≤_;have:=HU.out.2;omega
   ·show u'≤_
    have h6:u'≤V.u+2000000000:=h5
    have:=HU.out.2;omega
  have hr2:V2.r≤V.r+1:=by
   rcases HR2.out with⟨rfl,_⟩|⟨_,u',S',r',rfl,_,_,h5⟩
   ·show V.r≤V.r+1;omega
   ·exact h5
  have HBG:=hid (fun(w':World) (hk:xe [] w3 w')=>xd2 (hH3.keep0 hk) hst2 hu2)
  have HFS:=hid (fun(w':World)=>xa4 w' H.c hH3.ok.small V2.k hH3.hep.k1 V2.us (by have:=hH3.hep.us;have:=hH3.ok.small.2.2;omega) (.slice x H.c.roots cp))
  have HBN:Hid (bb∉H.q.bl H.p H.a):=fun hb=>by
   have h2:=HLT.out bb (List.mem_cons_of_mem _ (bl_q hb))
   have h3:=HK2.out.size
   omega
  have HC:Hid (∀w',xe (H.q.bl H.p H.a) w3 w'->(w'.cell? ⟨H.hb,1,none⟩=some (.int .i64 H.c.log)/\w'.cell? ⟨H.hb,2,none⟩=some (.int .i64 H.c.roots)/\w'.cell? ⟨H.hb,3,none⟩=some (.int .i64 H.c.space)/\w'.cell? ⟨H.hb,4,none⟩=some (ptr H.q.b))/\w'.cell? ⟨bb,0,none⟩=some (.int .i64 (V2.k:Nat))/\w'.cell? ⟨bb,1,none⟩=some (.int .i64 (V2.us:Nat))/\w'.cell? ⟨bb,2,none⟩=some (.slice x H.c.roots cp)):=fun w' hk=>by
   have h1:=hk.at hB3 HBN.out
   obtain⟨_,g1,g2,g3,g4,_⟩:=yj hH3.ob hk fun hb=>hH3.ap'.1 (List.mem_cons_of_mem _ hb)
   exact⟨⟨g1,g2,g3,g4⟩,h1.cell 0 rfl,h1.cell 1 rfl,h1.cell 2 rfl⟩
  have HK3:Hid (xe H.bl w w3):=HK2.out.trans (k23.mono (by simp))
  have HR3:=hid (And.intro hr2 hst2)
  clear hw3 hbb hB3 k23 hH3 hst2 hu2 hr2
  have kk:xe [] w3 w3.drew:=(xe.refl _ _).drew
  go_region_held2 (fun w'=>(w'.cell? ⟨H.hb,1,none⟩=some (.int .i64 H.c.log)∧w'.cell? ⟨H.hb,2,none⟩=some (.int .i64 H.c.roots)∧w'.cell? ⟨H.hb,3,none⟩=some (.int .i64 H.c.space)∧w'.cell? ⟨H.hb,4,none⟩=some (ptr H.q.b))∧w'.cell? ⟨bb,0,none⟩=some (.int .i64 (V2.k:Nat))∧w'.cell? ⟨bb,1,none⟩=some (.int .i64 (V2.us:Nat))∧w'.cell? ⟨bb,2,none⟩=some (.slice x H.c.roots cp))
   (first|exact HC.out _ (kk.mono (by simp))|exact HC.out _ ((kk.mono (by simp)).trans g5))
   (first
     |(go_at_call 89;refine(HFS.out _).mono ?_;rintro e w4 ⟨rfl,hk4⟩;have kk:=kk.trans hk4)
     |(go_at_call 88;refine(HBG.out _ kk).mono ?_;rintro e w5 ⟨⟨rfl,u',S',pl,q1,q2,q3⟩|⟨rfl,S',q1,q2,q3⟩,g5⟩;rotate_left;exact⟨rfl,.inr ⟨HE.out,HR.out,.inr ⟨rfl,⟨S',q1,VF.mono q2 (by have:=HR3.out.1;omega) fun K hK=>Rmd.q HR2.out HU.out.1 hK,q3⟩,(HK3.out.trans (kk.mono (by simp))).trans (g5.mono fun b _ hb=>bl_q hb)⟩⟩⟩))
  rename_i hHd
  clear hHd
  have HF:Hid (HpW H l (V2.beg u' S' pl) w5/\xe H.bl w w5/\S'.now=V2.S.now/\u'≤V2.u+3000):=⟨q1,(HK3.out.trans (kk.mono (by simp))).trans (g5.mono fun b _ hb=>bl_q hb),q2,q3⟩
  clear q1 q2 q3 g5 kk hk4
  go_wp2_with fail
  go_ret
  exact .inr ⟨HE.out,HR.out,.inl ⟨V2,HR2.out,HF.out.2.1,.inl ⟨HRM2.out,rfl,u',S',pl,HF.out.1,HF.out.2.2.1,HF.out.2.2.2⟩⟩⟩
end
end Go.Proofs.YtcdhklgahepcaaaGreat
