import Derived.Test.YtcdhklgahepcaaaGreatLen
import Derived.BigQuiet
import Derived.Deep.RegionHeld3
set_option maxHeartbeats 4000000
set_option maxRecDepth 100000
namespace Go.Proofs.YtcdhklgahepcaaaGreat
open Go.RowKit Go.OpenShut
def refL (os:List (Nat×Nat)):Nat:=(os.map fun x=>x.2).sum
def refB (os:List (Nat×Nat)) (i:Nat):Nat:=refL (os.take i)
theorem Yy (x:Nat×Nat) (l:List (Nat×Nat)):refL (x::l)=x.2+refL l:=by simp[refL]
theorem Jn (A B:List (Nat×Nat)):refL (A++B)=refL A+refL B:=by simp[refL]
theorem Q5 (os:List (Nat×Nat)):refB os 0=0:=rfl
theorem xb0 (os:List (Nat×Nat)):refB os os.length=refL os:=by unfold refB;rw[List.take_length]
theorem Yz {os:List (Nat×Nat)} {i:Nat} (h:i<os.length):refB os (i+1)=refB os i+rL os i:=by
 unfold refB
 have h2:=zU h
 rw[List.getElem?_eq_getElem h]at h2
 injection h2 with h2
 rw[<-List.take_append_getElem h,Jn,h2]
 simp[refL]
theorem xdD {os:List (Nat×Nat)} {b:Nat} (h:∀x∈os,x.2≤b):refL os≤os.length*b:=by
 induction os with
 |nil=>simp[refL]
 |cons x l ih=>
  have h1:=h x (by simp)
  have h2:=ih (fun y hy=>h y (by simp[hy]))
  rw[Yy,List.length_cons,Nat.add_mul]
  omega
theorem VW (os:List (Nat×Nat)) (i:Nat):refB os i≤refL os:=by
 unfold refB
 have:=Jn (os.take i) (os.drop i)
 rw[List.take_append_drop]at this
 omega
def nmP:List (Nat×Nat)->Nat->List Nat
 | [],_=>[]
 |x::l,p=>((List.range x.2).map fun j=>p+1+j)++nmP l (p+x.1+1)
theorem Z8:∀(l:List (Nat×Nat)) (p:Nat),(nmP l p).length=refL l
 | [],_=>rfl
 |x::l,p=>by
  show(((List.range x.2).map fun j=>p+1+j)++nmP l (p+x.1+1)).length=_
  rw[List.length_append,Z8 l,Yy]
  simp
theorem YF (l:List (Nat×Nat)):posL l 0=0:=rfl
theorem YG (x:Nat×Nat) (l:List (Nat×Nat)) (i:Nat):posL (x::l) (i+1)=x.1+1+posL l i:=by
 unfold posL
 rw[List.take_succ_cons,Xq]
theorem Q6 (x:Nat×Nat) (l:List (Nat×Nat)) (i:Nat):refB (x::l) (i+1)=x.2+refB l i:=by
 unfold refB
 rw[List.take_succ_cons,Yy]
theorem xaq:∀(l:List (Nat×Nat)) (p i j:Nat),i<l.length->j<rL l i->(nmP l p)[refB l i+j]? =some (p+posL l i+1+j)
 | [],p,i,j,hi,_=>absurd hi (by simp)
 |x::l,p,0,j,_,hj=>by
  have hj:j<x.2:=hj
  show(((List.range x.2).map fun j=>p+1+j)++nmP l (p+x.1+1))[refB (x::l) 0+j]? =_
  rw[Q5,Nat.zero_add,List.getElem?_append_left (by simpa using hj),YF]
  simp[hj]
 |x::l,p,i+1,j,hi,hj=>by
  have hi:i<l.length:=by simpa using hi
  have hj:j<rL l i:=hj
  show(((List.range x.2).map fun j=>p+1+j)++nmP l (p+x.1+1))[refB (x::l) (i+1)+j]? =_
  rw[Q6,List.getElem?_append_right (by simp;omega),YG]
  have:=xaq l (p+x.1+1) i j hi hj
  rw[show x.2+refB l i+j-((List.range x.2).map fun j=>p+1+j).length=refB l i+j by simp;omega,this]
  congr 1
  omega
theorem YL:∀(l:List (Nat×Nat)) (p z:Nat),z∈nmP l p->∃i j,i<l.length/\j<rL l i/\z=p+posL l i+1+j
 | [],p,z,h=>by simp[nmP]at h
 |x::l,p,z,h=>by
  have h:z∈((List.range x.2).map fun j=>p+1+j)++nmP l (p+x.1+1):=h
  rcases List.mem_append.1 h with h|h
  ·obtain⟨j,hj,rfl⟩:=List.mem_map.1 h
   exact⟨0,j,by simp,List.mem_range.1 hj,by rw[YF]⟩
  ·obtain⟨i,j,h1,h2,rfl⟩:=YL l _ z h
   exact⟨i+1,j,by simpa using h1,h2,by rw[YG];omega⟩
theorem JJ:∀(l:List (Nat×Nat)) (p:Nat),(∀x∈l,x.2≤x.1)->(nmP l p).Pairwise (· < ·)
 | [],_,_=>.nil
 |x::l,p,h=>by
  have hx:=h x (by simp)
  refine List.pairwise_append.2 ⟨?_,JJ l _ (fun y hy=>h y (by simp[hy])),?_⟩
  ·exact List.pairwise_map.2 (List.pairwise_lt_range.imp (by intro a b h;omega))
  ·intro a ha b hb
   obtain⟨j,hj,rfl⟩:=List.mem_map.1 ha
   obtain⟨i,k,_,_,rfl⟩:=YL l _ b hb
   have:=List.mem_range.1 hj
   omega
def plL (c:Cfg) (os:List (Nat×Nat)):List Nat:=nmP os (c.frm 0)++(List.range c.roots).map c.root
def plF (c:Cfg) (os:List (Nat×Nat)) (q:Nat):Nat:=(plL c os).getD q 0
theorem Jt {c:Cfg} {os:List (Nat×Nat)} {i j:Nat} (hi:i<os.length) (hj:j<rL os i):plF c os (refB os i+j)=c.frm 0+posL os i+1+j:=by
 have h1:=xaq os (c.frm 0) i j hi hj
 obtain⟨h2,_⟩:=List.getElem?_eq_some_iff.1 h1
 unfold plF plL
 rw[List.getD_eq_getElem?_getD,List.getElem?_append_left h2,h1]
 rfl
theorem Js {c:Cfg} {os:List (Nat×Nat)} {j:Nat} (hj:j<c.roots):plF c os (refL os+j)=c.root j:=by
 unfold plF plL
 rw[List.getD_eq_getElem?_getD,List.getElem?_append_right (by rw[Z8];omega),Z8,Nat.add_sub_cancel_left]
 simp[hj]
theorem jd (c:Cfg) (os:List (Nat×Nat)):(plL c os).length=refL os+c.roots:=by
 unfold plL
 rw[List.length_append,Z8]
 simp
theorem xah {c:Cfg} {os:List (Nat×Nat)} {q:Nat} (h:q<refL os+c.roots):plF c os q∈plL c os:=by
 unfold plF
 rw[List.getD_eq_getElem?_getD,List.getElem?_eq_getElem (by rw[jd];exact h)]
 exact List.getElem_mem _
theorem root_lt {c:Cfg} {j:Nat} (hj:j<c.roots):c.act+2≤c.root j/\c.root j<c.frm 0:=by
 have:=@xK c 0
 unfold Cfg.root
 omega
theorem xeG {c:Cfg} {os:List (Nat×Nat)} {z:Nat} (h:z∈plL c os):(∃i j,i<os.length/\j<rL os i/\z=c.frm 0+posL os i+1+j)\/∃j,j<c.roots/\z=c.root j:=by
 rcases List.mem_append.1 h with h|h
 ·exact .inl (YL _ _ _ h)
 ·obtain⟨j,hj,rfl⟩:=List.mem_map.1 h
  exact .inr ⟨j,List.mem_range.1 hj,rfl⟩
theorem xag {c:Cfg} {os:List (Nat×Nat)} (h:∀x∈os,x.2≤x.1):(plL c os).Nodup:=by
 refine List.nodup_append.2 ⟨(JJ os _ h).imp (fun h=>Nat.ne_of_lt h),?_,?_⟩
 ·refine List.pairwise_map.2 (List.pairwise_lt_range.imp ?_)
  intro a b h e
  unfold Cfg.root at e
  omega
 ·intro a ha b hb
  obtain⟨i,j,_,_,rfl⟩:=YL _ _ _ ha
  obtain⟨k,hk,rfl⟩:=List.mem_map.1 hb
  have:=(root_lt (List.mem_range.1 hk)).2
  omega
theorem xai {c:Cfg} {os:List (Nat×Nat)} (h:∀x∈os,x.2≤x.1) {q q':Nat} (hq:q<refL os+c.roots) (hq':q'<refL os+c.roots) (e:plF c os q=plF c os q'):q=q':=by
 have hn:=xag (c:=c) h
 have e1:(plL c os)[q]? =some (plF c os q):=by
  unfold plF
  rw[List.getD_eq_getElem?_getD,List.getElem?_eq_getElem (by rw[jd];exact hq)]
  rfl
 have e2:(plL c os)[q']? =some (plF c os q'):=by
  unfold plF
  rw[List.getD_eq_getElem?_getD,List.getElem?_eq_getElem (by rw[jd];exact hq')]
  rfl
 rw[e]at e1
 exact Xn hn e1 e2
def Upd (f f':Nat->Int) (pl:Nat->Nat) (g:Nat->Int) (q:Nat):Prop:=
 (∀i,i<q->f' (pl i)=g i)/\∀z,(∀i,i<q->z≠pl i)->f' z=f z
theorem Upd.zero (f:Nat->Int) (pl:Nat->Nat) (g:Nat->Int):Upd f f pl g 0:=⟨fun i h=>absurd h (by omega),fun _ _=>rfl⟩
theorem Upd.next {f f1 f2:Nat->Int} {pl:Nat->Nat} {g:Nat->Int} {q:Nat} (h:Upd f f1 pl g q) (hd:∀i,i<q->pl i≠pl q) (h2:∀z,f2 z=if z=pl q then g q else f1 z):Upd f f2 pl g (q+1):=by
 refine⟨fun i hi=>?_,fun z hz=>?_⟩
 ·rw[h2]
  by_cases he:i=q
  ·subst he;rw[if_pos rfl]
  ·rw[if_neg (hd i (by omega))]
   exact h.1 i (by omega)
 ·rw[h2,if_neg (hz q (by omega))]
  exact h.2 z fun i hi=>hz i (by omega)
structure LnkS (c:Cfg) (n:Nat) (os:List (Nat×Nat)) (g:Nat->Int) (S:DS):Prop where
 act:S.now c.act=((0:Nat):Int)
 used:S.now (c.act+1)=((lenL os:Nat):Int)
 fits:lenL os≤c.space
 few:∀x∈os,x.1≤8/\x.2≤x.1
 root:∀j,j<c.roots->S.now (c.root j)=g (refL os+j)
 head:∀i,i<os.length->S.now (c.frm 0+posL os i)=((hdPk (nL os i) (rL os i):Nat):Int)
 name:∀i j,i<os.length->j<rL os i->S.now (c.frm 0+posL os i+1+j)=g (refB os i+j)
 num:∀i j,i<os.length->rL os i≤j->j<nL os i->S.now (c.frm 0+posL os i+1+j)=0
 rest:∀i,lenL os≤i->c.frm 0+i<n->S.now (c.frm 0+i)=0
 log:LgS c n S
theorem zK {os:List (Nat×Nat)} {i i' j j':Nat} (hi:i<os.length) (hi':i'<os.length) (hj:j≤nL os i) (hj':j'≤nL os i') (e:posL os i+j=posL os i'+j'):i=i'/\j=j':=by
 have h1:∀a b,a<b->b<os.length->posL os a+1+nL os a≤posL os b:=fun a b h hb=>by
  rw[<-zT (by omega)]
  exact vC (by omega) (by omega)
 rcases Nat.lt_trichotomy i i' with h|h|h
 ·have:=h1 i i' h hi';omega
 ·subst h;exact⟨rfl,by omega⟩
 ·have:=h1 i' i h hi;omega
theorem wJ {os:List (Nat×Nat)} (h:∀x∈os,x.1≤8/\x.2≤x.1) (i:Nat):nL os i≤8/\rL os i≤nL os i:=by
 by_cases hi:i<os.length
 ·exact h _ (List.mem_of_getElem? (zU hi))
 ·have:=Va (l:=os) (i:=i) (by omega)
  omega
theorem FilS.headN {c:Cfg} {n:Nat} {os:List (Nat×Nat)} {S:DS} (h:FilS c n os S) (hn:c.frm 0+c.space≤n) {i:Nat} (hi:i<os.length):S.now (c.frm 0+posL os i)=((hdPk (nL os i) (rL os i):Nat):Int):=by
 have h1:=xb9 hi
 have h2:=zU hi
 rw[List.getElem?_eq_getElem hi]at h2
 injection h2 with h2
 rw[h2]at h1
 have h3:=xE hi
 have h4:=h.fits
 rw[h.word _ (by omega),h1]
theorem FilS.zeroN {c:Cfg} {n:Nat} {os:List (Nat×Nat)} {S:DS} (h:FilS c n os S) (hn:c.frm 0+c.space≤n) {i j:Nat} (hi:i<os.length) (hj:j<nL os i):S.now (c.frm 0+posL os i+1+j)=0:=by
 have h2:=zU hi
 rw[List.getElem?_eq_getElem hi]at h2
 injection h2 with h2
 have h1:=xb8 (os:=os) (i:=i) (j:=j) hi (by rw[h2];exact hj)
 have h3:=xE hi
 have h4:=h.fits
 rw[Nat.add_assoc,Nat.add_assoc,h.word _ (by omega),<-Nat.add_assoc,h1]
theorem xcu {c:Cfg} {os:List (Nat×Nat)} (h:∀x∈os,x.1≤8/\x.2≤x.1) {i:Nat} (hi:i<os.length):c.frm 0+posL os i∉plL c os:=fun hm=>by
 rcases xeG hm with⟨i',j',hi',hj',e⟩|⟨j,hj,e⟩
 ·have h3:=(wJ h i').2
  have:=(zK (i:=i) (i':=i') (j:=0) (j':=1+j') hi hi' (by omega) (by omega) (by omega)).2
  omega
 ·have:=root_lt hj
  omega
theorem FilS.headU {c:Cfg} {n:Nat} {os:List (Nat×Nat)} {S:DS} {f:Nat->Int} {g:Nat->Int} {q:Nat} (h:FilS c n os S) (hn:c.frm 0+c.space≤n) (hU:Upd S.now f (plF c os) g q) (hq:q≤refL os+c.roots) {i:Nat} (hi:i<os.length):f (c.frm 0+posL os i)=((hdPk (nL os i) (rL os i):Nat):Int):=by
 rw[hU.2 _ fun j hj e=>xcu h.head hi (e▸xah (by omega)),h.headN hn hi]
theorem FilS.linked {c:Cfg} {n:Nat} {os:List (Nat×Nat)} {S S':DS} {g:Nat->Int} (h:FilS c n os S) (hn:c.frm 0+c.space≤n) (hU:Upd S.now S'.now (plF c os) g (refL os+c.roots)) (hl:∀j,j<c.act->Pre S S' j) (hk:S'.kept=S.kept) (hi:S'.is=S.is):LnkS c n os g S':=by
 have hnot:∀z,z∉plL c os->S'.now z=S.now z:=fun z hz=>hU.2 z fun i hi e=>hz (e▸xah hi)
 have hfr:=@xK c 0
 have hoff:∀z,z∉(List.range c.roots).map c.root->(∀i j,i<os.length->j<rL os i->z≠c.frm 0+posL os i+1+j)->S'.now z=S.now z:=fun z h1 h2=>hnot z fun hm=>by
  rcases List.mem_append.1 hm with hm|hm
  ·obtain⟨i,j,hi,hj,e⟩:=YL _ _ _ hm
   exact h2 i j hi hj e
  ·exact h1 hm
 have hroot:∀z,(z<c.act+2\/c.frm 0≤z)->z∉(List.range c.roots).map c.root:=fun z hz hm=>by
  obtain⟨j,hj,rfl⟩:=List.mem_map.1 hm
  have:=root_lt (List.mem_range.1 hj)
  omega
 refine⟨?_,?_,h.fits,h.head,?_,?_,?_,?_,?_,h.log.pre hl hk hi⟩
 ·rw[hoff _ (hroot _ (by omega)) (fun i j _ _=>by omega)];exact h.act
 ·rw[hoff _ (hroot _ (by omega)) (fun i j _ _=>by omega)];exact h.used
 ·intro j hj
  have:=hU.1 (refL os+j) (by omega)
  rwa[Js hj]at this
 ·intro i hi
  rw[hoff _ (hroot _ (by omega)) (fun i' j' hi' hj' e=>?_)]
  ·exact h.headN hn hi
  ·have h3:=(wJ h.head i').2
   have:=(zK (i:=i) (i':=i') (j:=0) (j':=1+j') hi hi' (by omega) (by omega) (by omega)).2
   omega
 ·intro i j hi hj
  have h1:=Jt (c:=c) hi hj
  have h2:=Yz hi
  have h3:=VW os (i+1)
  have:=hU.1 (refB os i+j) (by omega)
  rwa[h1]at this
 ·intro i j hi hj1 hj2
  rw[hoff _ (hroot _ (by omega)) (fun i' j' hi' hj' e=>?_)]
  ·exact h.zeroN hn hi hj2
  ·have h3:=(wJ h.head i').2
   obtain⟨h4,h5⟩:=zK (i:=i) (i':=i') (j:=1+j) (j':=1+j') hi hi' (by omega) (by omega) (by omega)
   subst h4
   omega
 ·intro i hi hin
  rw[hoff _ (hroot _ (by omega)) (fun i' j' hi' hj' e=>?_)]
  ·rw[h.word i hin,Y5 hi]
  ·have h3:=(wJ h.head i').2
   have:=xE hi'
   omega
theorem LnkS.chain {c:Cfg} {n:Nat} {os:List (Nat×Nat)} {g:Nat->Int} {S:DS} (h:LnkS c n os g S):Chn S c 0 (lenL os) os false:=by
 refine⟨h.fits,fun i x hx=>?_,fun _=>rfl,fun h=>nomatch h⟩
 obtain⟨hi,_⟩:=List.getElem?_eq_some_iff.1 hx
 have h1:=zU hi
 rw[hx]at h1
 injection h1 with h1
 have h2:=wJ h.few i
 have h3:=h.head i hi
 rw[h1]
 exact⟨by show nL os i≤64;omega,h2.2,h3⟩
def nxV (G:Nat->Nat) (m:Nat) (P:Nat->Nat) (n wr k:Nat):Nat:=
 if k<m/\0<n/\G k%5≠0 then P (G k%n)+(if 0<wr/\G k%wr=1 then 1 else 0)else 0
open Go.RowKit Go.OpenShut
def X6 (w:World) (y:Option Addr) (m:Nat) (G:Nat->Nat):Prop:=
 m=0\/∃b off,y=some ⟨b,off,none⟩/\b<w.heap.size/\∀i,i<m->w.cell? ⟨b,off+i,none⟩=some (.int .u16 (G i:Nat))/\G i≤65535
theorem X6.keep {w w':World} {y:Option Addr} {m:Nat} {G:Nat->Nat} {T:List Nat} (h:X6 w y m G) (hk:xe T w w') (hT:∀b off,y=some ⟨b,off,none⟩->b∉T):X6 w' y m G:=by
 rcases h with h|⟨b,off,rfl,hb,hc⟩
 ·exact .inl h
 ·exact .inr ⟨b,off,rfl,Nat.lt_of_lt_of_le hb hk.size,fun i hi=>by rw[hk.cell hb (hT b off rfl)];exact hc i hi⟩
def Y9 (w:World) (y:Option Addr) (n:Nat) (P:Nat->Nat):Prop:=
 n=0\/∃b off,y=some ⟨b,off,none⟩/\b<w.heap.size/\∀i,i<n->w.cell? ⟨b,off+i,none⟩=some (.int .i64 (P i:Nat))
theorem Y9.keep {w w':World} {y:Option Addr} {n:Nat} {P:Nat->Nat} {T:List Nat} (h:Y9 w y n P) (hk:xe T w w') (hT:∀b off,y=some ⟨b,off,none⟩->b∉T):Y9 w' y n P:=by
 rcases h with h|⟨b,off,rfl,hb,hc⟩
 ·exact .inl h
 ·exact .inr ⟨b,off,rfl,Nat.lt_of_lt_of_le hb hk.size,fun i hi=>by rw[hk.cell hb (hT b off rfl)];exact hc i hi⟩
theorem OwnI.reads {w:World} {B:Nat} {x:Option Addr} {cp n:Nat} {f:Nat->Nat} (h:OwnI w B x cp n f):Y9 w x n f:=by
 by_cases hn:n=0
 ·exact .inl hn
 ·obtain⟨g,rfl,_,h2,h3⟩:=h.cell (by omega)
  exact .inr ⟨g,0,rfl,h2,fun i hi=>by rw[Nat.zero_add];exact h3 i hi⟩
theorem xar (w:World) (kb nb pb wb:Nat) (k m cm n cn wr:Nat) (y px:Option Addr) (G P:Nat->Nat)
  (hk:At w kb (.cells #[.int .i64 k] 3)) (hn:At w nb (.cells #[.slice y m cm] 257)) (hp:At w pb (.cells #[.slice px n cn] 132)) (hw:At w wb (.cells #[.int .u8 wr] 5))
  (hG:X6 w y m G) (hP:Y9 w px n P) (hPb:∀i,i<n->P i≤100000) (hkb:k≤1000000) (hwr:wr≤255) (hm:m≤9223372036854775807) (hnn:n≤1000000)
  (hd:kb≠nb/\kb≠pb/\kb≠wb) (hy:m=0\/∀b off,y=some ⟨b,off,none⟩->b≠kb) (hx:n=0\/∀b off,px=some ⟨b,off,none⟩->b≠kb):
  Calls Tryz.prog 219 #[ptr kb,ptr nb,ptr pb,ptr wb] w fun e w'=>e=.returned (.int .u64 (nxV G m P n wr k:Nat))/\At w' kb (.cells #[.int .i64 ((k+1:Nat):Int)] 3)/\xe [kb] w w':=by
 have k0:=hk.cell 0 rfl
 have kf:=hk.free 0
 have hkk:(k:Int)≤1000000:=by omega
 go_enter Tryz.func219,Tryz.ntmps219
 go_upto_region 2 with fail
 have hK1:At (w.setCell ⟨kb,0,none⟩ (.int .i64 ((k:Int)+1))) kb (.cells #[.int .i64 ((k:Int)+1)] 3):=by
  have:=hk.set 0 (.int .i64 ((k:Int)+1))
  simpa using this
 have hN1:=hn.set_ne (a:=⟨kb,0,none⟩) hd.1.symm (.int .i64 ((k:Int)+1))
 have hP1:=hp.set_ne (a:=⟨kb,0,none⟩) hd.2.1.symm (.int .i64 ((k:Int)+1))
 have hW1:=hw.set_ne (a:=⟨kb,0,none⟩) hd.2.2.symm (.int .i64 ((k:Int)+1))
 have K1:xe [kb] w (w.setCell ⟨kb,0,none⟩ (.int .i64 ((k:Int)+1))):=(xe.refl _ w).set (.inl (by simp)) _
 have hG1:X6 (w.setCell ⟨kb,0,none⟩ (.int .i64 ((k:Int)+1))) y m G:=by
  rcases hy with h|hy
  ·exact .inl h
  ·exact hG.keep K1 (fun b off h=>by simpa using hy b off h)
 have hP1r:Y9 (w.setCell ⟨kb,0,none⟩ (.int .i64 ((k:Int)+1))) px n P:=by
  rcases hx with h|hx
  ·exact .inl h
  ·exact hP.keep K1 (fun b off h=>by simpa using hx b off h)
 obtain⟨w1,hw1⟩:∃w1,w1=w.setCell ⟨kb,0,none⟩ (.int .i64 ((k:Int)+1)):=⟨_,rfl⟩
 rw[<-hw1]at hK1 hN1 hP1 hW1 K1 hG1 hP1r
 first|rw[<-hw1]|skip
 have HE:Hid (At w1 kb (.cells #[.int .i64 ((k+1:Nat):Int)] 3)/\xe [kb] w w1):=⟨by simpa using hK1,K1⟩
 have HPB:=hid hPb
 clear hw1 hk hn hp hw hG hP hd hy hx k0 kf K1 hPb
 have k0:=hK1.cell 0 rfl
 have n0:=hN1.cell 0 rfl
 have p0:=hP1.cell 0 rfl
 have x0:=hW1.cell 0 rfl
 have hmi:(m:Int)≤9223372036854775807:=by omega
 have hni:(n:Int)≤1000000:=by omega
 have hwi:(wr:Int)≤255:=by omega
 by_cases hkm:k<m
 case neg=>
  have t1:decide ((m:Int)<(k:Int)+1)=true:=decide_eq_true (by omega)
  have t2:(m:Int)<(k:Int)+1:=by omega
  have HV:Hid (nxV G m P n wr k=0):=by
   show _=_
   unfold nxV
   rw[if_neg (by omega)]
  clear hkm
  go_wp2_with fail
  go_ret
  exact⟨by rw[HV.out];rfl,HE.out⟩
 obtain⟨b,off,rfl,hb,hcl⟩:=hG1.resolve_left (by omega)
 obtain⟨hc0,hg⟩:=hcl k hkm
 obtain⟨gi,hgi⟩:∃gi,gi=G k:=⟨_,rfl⟩
 rw[<-hgi]at hc0 hg
 have HGI:=hid hgi
 have hgb:(gi:Int)≤65535:=by omega
 have t1:decide ((m:Int)<(k:Int)+1)=false:=decide_eq_false (by omega)
 have t2:(k:Int)+1≤(m:Int):=by omega
 have t3:(k:Int)<(m:Int):=by omega
 have HKM:=hid hkm
 clear hcl hb hgi hg hkm hG1
 by_cases hn0:n=0
 case pos=>
  subst hn0
  have HV:Hid (nxV G m P 0 wr k=0):=by
   show _=_
   unfold nxV
   rw[if_neg (by omega)]
  go_wp2_with fail
  go_ret
  exact⟨by rw[HV.out];rfl,HE.out⟩
 have t4:((n:Int)==0)=false:=by rw[beq_eq_false_iff_ne];omega
 have t5:0<(n:Int):=by omega
 have t6:0<n:=by omega
 obtain⟨g5,hg5⟩:∃g5,g5=gi%5:=⟨_,rfl⟩
 have e1:(gi:Int)%5=(g5:Int):=by omega
 have e2:(gi:Int).tmod 5=(g5:Int):=by rw[Int.tmod_eq_emod_of_nonneg (by omega)];exact e1
 have e3:IntKind.u16.wrap (g5:Int)=(g5:Int):=IntWalk.u16_in _ (by omega)
 have hg5b:(g5:Int)≤4:=by omega
 have HG5:=hid hg5
 clear hg5
 by_cases hz:g5=0
 case pos=>
  subst hz
  have HV:Hid (nxV G m P n wr k=0):=by
   show _=_
   unfold nxV
   rw[if_neg (by have:=HG5.out;rw[<-HGI.out];omega)]
  go_wp2_with fail
  go_ret
  exact⟨by rw[HV.out];rfl,HE.out⟩
 have t7:((g5:Int)==0)=false:=by rw[beq_eq_false_iff_ne];omega
 obtain⟨gn,hgn⟩:∃gn,gn=gi%n:=⟨_,rfl⟩
 have hgl:gn<n:=by rw[hgn];exact Nat.mod_lt _ t6
 have e4:(gi:Int)%(n:Int)=(gn:Int):=by rw[hgn];exact(Int.natCast_emod gi n).symm
 have e5:(gi:Int).tmod (n:Int)=(gn:Int):=by rw[Int.tmod_eq_emod_of_nonneg (by omega)];exact e4
 have e6:IntKind.i64.wrap (gn:Int)=(gn:Int):=IntWalk.i64_in _ (by omega)
 have e7:IntKind.i64.wrap ((gi:Int).tmod (n:Int))=(gn:Int):=by rw[e5];exact e6
 have e8:IntKind.i64.wrap (gi:Int)=(gi:Int):=IntWalk.i64_in _ (by omega)
 obtain⟨bx,ox,rfl,hbx,hcx⟩:=hP1r.resolve_left (by omega)
 obtain⟨pv,hpv⟩:∃pv,pv=P gn:=⟨_,rfl⟩
 have px0:=hcx gn hgl
 rw[<-hpv]at px0
 have hpb:(pv:Int)≤100000:=by have:=HPB.out gn hgl;omega
 have hgi2:(gn:Int)<(n:Int):=by omega
 have hn0':¬(n:Int)=0:=by omega
 have hn0'':¬n=0:=hn0
 obtain⟨bt,hbt⟩:∃bt,bt=(decide (0<wr)&&decide (gi%wr=1)):=⟨_,rfl⟩
 have HV:Hid (nxV G m P n wr k=pv+(if bt=true then 1 else 0)):=by
  show _=_
  unfold nxV
  rw[if_pos ⟨HKM.out,t6,by have:=HG5.out;rw[<-HGI.out];omega⟩,<-HGI.out,<-hgn,<-hpv,hbt]
  simp
 have hm2:=hm
 have t8:decide (m≤k)=false:=decide_eq_false (by omega)
 have t9:k<m:=HKM.out
 clear hpv hgn hcx hn0 hbx hP1r
 go_upto_region 4 with fail
 go_quiet (fail)
 go_upto_region 5 with fail
 have hK2:=hK1.drewN nq
 have hN2:=hN1.drewN nq
 have hP2:=hP1.drewN nq
 have hW2:=hW1.drewN nq
 have hc2:(w1.drewN nq).cell? ⟨b,off+k,none⟩=some (.int .u16 (gi:Nat)):=hc0
 have HE2:Hid (At (w1.drewN nq) kb (.cells #[.int .i64 ((k+1:Nat):Int)] 3)/\xe [kb] w (w1.drewN nq)):=⟨HE.out.1.drewN nq,HE.out.2.drewN nq⟩
 obtain⟨w2,hw2⟩:∃w2,w2=w1.drewN nq:=⟨_,rfl⟩
 rw[<-hw2]at hK2 hN2 hP2 hW2 hc2 HE2
 first|rw[<-hw2]|skip
 clear hw2 k0 n0 p0 x0 hc0 HE hK1 hN1 hP1 hW1 px0
 have k0:=hK2.cell 0 rfl
 have n0:=hN2.cell 0 rfl
 have p0:=hP2.cell 0 rfl
 have x0:=hW2.cell 0 rfl
 by_cases hwz:wr=0
 ·subst hwz
  have hbf:bt=false:=by rw[hbt];simp
  rw[hbf]at HV
  clear hbt
  go_quiet (fail)
  go_wp2_with fail
  go_ret
  have HV':nxV G m P n 0 k=pv:=by rw[HV.out];rfl
  exact⟨by rw[HV'];rfl,HE2.out.1.drewN _,HE2.out.2.drewN _⟩
 ·have q1:decide ((0:Int)<(wr:Int))=true:=decide_eq_true (by omega)
  have q1':decide (0<wr)=true:=decide_eq_true (by omega)
  have q2:(0:Int)<(wr:Int):=by omega
  have q3:0<wr:=by omega
  have q4:¬(wr:Int)=0:=by omega
  obtain⟨gw,hgw⟩:∃gw,gw=gi%wr:=⟨_,rfl⟩
  have hgwl:gw<wr:=by rw[hgw];exact Nat.mod_lt _ q3
  have r1:(gi:Int)%(wr:Int)=(gw:Int):=by rw[hgw];exact(Int.natCast_emod gi wr).symm
  have r2:(gi:Int).tmod (wr:Int)=(gw:Int):=by rw[Int.tmod_eq_emod_of_nonneg (by omega)];exact r1
  have r3:IntKind.u16.wrap (gw:Int)=(gw:Int):=IntWalk.u16_in _ (by omega)
  have r4:IntKind.u16.wrap ((gi:Int).tmod (wr:Int))=(gw:Int):=by rw[r2];exact r3
  have r5:IntKind.u16.wrap (wr:Int)=(wr:Int):=IntWalk.u16_in _ (by omega)
  have hbt2:bt=decide (gw=1):=by rw[hbt,hgw];simp[q3]
  rw[hbt2]at HV
  clear hbt hbt2 hgw
  by_cases hg1:gw=1
  ·subst hg1
   go_quiet (fail)
   go_wp2_with fail
   go_ret
   have HV':nxV G m P n wr k=pv+1:=by rw[HV.out];rfl
   exact⟨by rw[HV'];rfl,by simpa using HE2.out.1.drewN _,HE2.out.2.drewN _⟩
  ·have s1:((gw:Int)==1)=false:=by rw[beq_eq_false_iff_ne];omega
   go_quiet (fail)
   go_wp2_with fail
   go_ret
   have HV':nxV G m P n wr k=pv:=by rw[HV.out,if_neg (by simpa using hg1)];rfl
   exact⟨by rw[HV'];rfl,HE2.out.1.drewN _,HE2.out.2.drewN _⟩
open Go.RowKit Go.OpenShut
def UpdL (c:Cfg) (S S':DS) (pl:Nat->Nat) (g:Nat->Int) (q:Nat):Prop:=Upd S.now S'.now pl g q/\(∀j,j<c.act->Pre S S' j)/\S'.kept=S.kept/\S'.is=S.is
def LkI (c:Cfg) (p:Nat) (a:DA) (os:List (Nat×Nat)) (g:Nat->Int) (S:DS) (kb:Nat) (w1:World) (q:Nat) (w:World):Prop:=
 ∃u S',Pw w p a (-1) u S'/\u≤200000+(q:Int)/\UpdL c S S' (plF c os) g q/\At w kb (.cells #[.int .i64 (q:Nat)] 3)/\xe [kb,p,a.s,a.k,a.m] w1 w
theorem LkI.keep0 {c:Cfg} {p:Nat} {a:DA} {os:List (Nat×Nat)} {g:Nat->Int} {S:DS} {kb:Nat} {w1:World} {q:Nat} {w w':World} (h:LkI c p a os g S kb w1 q w) (hk:xe [] w w'):LkI c p a os g S kb w1 q w':=by
 obtain⟨u,S',h1,h2,h3,h4,h5⟩:=h
 exact⟨u,S',h1.keep0 hk,h2,h3,hk.at h4 (by simp),h5.trans (hk.mono (by simp))⟩
theorem OwnI.low {w:World} {B B':Nat} {x:Option Addr} {cp n:Nat} {f:Nat->Nat} (h:OwnI w B x cp n f) (hb:B'≤B):OwnI w B' x cp n f:=by
 obtain⟨h0,h1|⟨g,cap,cur,h1,h2,h3⟩⟩:=h
 ·exact⟨h0,.inl h1⟩
 ·exact⟨h0,.inr ⟨g,cap,cur,h1,Nat.le_trans hb h2,h3⟩⟩
def LnkP (c:Cfg) (os:List (Nat×Nat)) (g:Nat->Int) (w:World) (e:Ending) (w':World):Prop:=
 ∃p a u S x cp y cy B,e=.returned (.tuple #[ptr a.d,cfgV c,bkV 0 (lenL os:Nat) (.slice x c.roots cp),.slice y os.length cy])/\c.words=a.n/\Pw w' p a (-1) u S/\u≤300000/\LnkS c a.n os g S/\
  OwnU w' B x cp c.roots (fun j=>g (refL os+j))/\OwnI w' B y cy os.length (fun j=>c.frm 0+posL os j)/\
  (w.heap.size≤p/\w.heap.size≤a.d/\w.heap.size≤a.s/\w.heap.size≤a.k/\w.heap.size≤a.m)/\(p<B/\a.d<B/\a.s<B/\a.k<B/\a.m<B)/\xe [] w w'
def lnkG (c:Cfg) (os:List (Nat×Nat)) (G:Nat->Nat) (m wr:Nat) (q:Nat):Int:=((nxV G m (fun j=>c.frm 0+posL os j) os.length wr q:Nat):Int)
theorem Xo (w:World) (l r s:Nat) (hl:l≤65535) (hrr:r≤65535) (hs:s≤65535) (y0:Option Addr) (m cm:Nat) (R V:Nat->Nat) (hy:vt w y0 m R V) (hm:m≤1000)
  (y1:Option Addr) (mn cn:Nat) (G:Nat->Nat) (hg:X6 w y1 mn G) (hmn:mn≤9223372036854775807) (wg:Nat) (hwr:wg≤255) (c:Cfg) (hc:c=mk3 l r s) (os:List (Nat×Nat)) (hos:os=zW c.space (hdsL R V m)):
  Calls Tryz.prog 179 #[c3V l r s,.slice y0 m cm,.slice y1 mn cn,.int .u8 wg] w (LnkP c os (lnkG c os G mn wg) w):=by
 have hosl:os.length≤m:=by rw[hos];exact Y0 _ _ _ _
 have hok:=XW l r s
 rw[<-hc]at hok
 have HC:=hid hc
 have HOS:=hid hos
 have HO:=hid hok
 have HY:=hid hy
 have HG:=hid hg
 have HL:=hid (And.intro hosl hm)
 have hmni:(mn:Int)≤9223372036854775807:=by omega
 have hwri:(wg:Int)≤255:=by omega
 clear hc hos hok hy hg hosl
 go_enter Tryz.func179,Tryz.ntmps179
 go_upto_region 1 with fail
 have hX0:=((((At.new w (c3O l r s)).alloc (.cells #[.slice y1 mn cn] 257)).alloc (.cells #[.int .u8 wg] 5)).alloc (.cells #[.int .i64 0,.int .i64 0,.int .i64 0] 36)).alloc (bkO 0 0 (.slice none 0 0))
 have hN0:=(((At.new (w.alloc (c3O l r s)) (.cells #[.slice y1 mn cn] 257)).alloc (.cells #[.int .u8 wg] 5)).alloc (.cells #[.int .i64 0,.int .i64 0,.int .i64 0] 36)).alloc (bkO 0 0 (.slice none 0 0))
 have hW0:=((At.new ((w.alloc (c3O l r s)).alloc (.cells #[.slice y1 mn cn] 257)) (.cells #[.int .u8 wg] 5)).alloc (.cells #[.int .i64 0,.int .i64 0,.int .i64 0] 36)).alloc (bkO 0 0 (.slice none 0 0))
 have hC0:=(At.new (((w.alloc (c3O l r s)).alloc (.cells #[.slice y1 mn cn] 257)).alloc (.cells #[.int .u8 wg] 5)) (.cells #[.int .i64 0,.int .i64 0,.int .i64 0] 36)).alloc (bkO 0 0 (.slice none 0 0))
 have hB0:=At.new ((((w.alloc (c3O l r s)).alloc (.cells #[.slice y1 mn cn] 257)).alloc (.cells #[.int .u8 wg] 5)).alloc (.cells #[.int .i64 0,.int .i64 0,.int .i64 0] 36)) (bkO 0 0 (.slice none 0 0))
 have K0:=(((((xe.refl [] w).alloc (c3O l r s)).alloc (.cells #[.slice y1 mn cn] 257)).alloc (.cells #[.int .u8 wg] 5)).alloc (.cells #[.int .i64 0,.int .i64 0,.int .i64 0] 36)).alloc (bkO 0 0 (.slice none 0 0))
 simp only[World.size_alloc]at hN0 hW0 hC0 hB0
 obtain⟨w0,hw0⟩:∃w0,w0=((((w.alloc (c3O l r s)).alloc (.cells #[.slice y1 mn cn] 257)).alloc (.cells #[.int .u8 wg] 5)).alloc (.cells #[.int .i64 0,.int .i64 0,.int .i64 0] 36)).alloc (bkO 0 0 (.slice none 0 0)):=⟨_,rfl⟩
 have hz0:w0.heap.size=w.heap.size+5:=by rw[hw0];simp
 rw[<-hw0]at hX0 hN0 hW0 hC0 hB0 K0
 first|rw[<-hw0]|skip
 obtain⟨x0,hx0⟩:∃x,x=w.heap.size:=⟨_,rfl⟩
 obtain⟨x1,hx1⟩:∃x,x=w.heap.size+1:=⟨_,rfl⟩
 obtain⟨x2,hx2⟩:∃x,x=w.heap.size+1+1:=⟨_,rfl⟩
 obtain⟨x3,hx3⟩:∃x,x=w.heap.size+1+1+1:=⟨_,rfl⟩
 obtain⟨x4,hx4⟩:∃x,x=w.heap.size+1+1+1+1:=⟨_,rfl⟩
 rw[<-hx4,<-hx3,<-hx2,<-hx1,<-hx0]
 rw[<-hx0]at hX0
 rw[<-hx1]at hN0
 rw[<-hx2]at hW0
 rw[<-hx3]at hC0
 rw[<-hx4]at hB0
 have HX:Hid (x0=w.heap.size/\x1=x0+1/\x2=x0+2/\x3=x0+3/\x4=x0+4/\w0.heap.size=x0+5):=⟨by omega,by omega,by omega,by omega,by omega,by omega⟩
 clear hw0 hz0 hx0 hx1 hx2 hx3 hx4
 have c0:=hX0.cell 0 rfl
 have c1:=hX0.cell 1 rfl
 have c2:=hX0.cell 2 rfl
 go_wp2_with fail
 have hy0:vt w0 y0 m R V:=HY.out.keep K0 (by simp)
 have HFA:=hid (Vq w0 l r s hl hrr hs y0 m cm R V hy0 hm c HC.out)
 rw[<-HOS.out]at HFA
 refine HFA.out.mono ?_
 rintro e w1 ⟨p,a,u,S,x,cp,y,cy,B,rfl,hn,hP,hub,hF,hU,hI,⟨b1,b2,b3,b4,b5⟩,⟨d1,d2,d3,d4,d5⟩,k1⟩
 clear hy0 HFA c0 c1 c2
 have hN1:=k1.at hN0 (by simp)
 have hW1:=k1.at hW0 (by simp)
 have hC1:=k1.at hC0 (by simp)
 have hB1:=k1.at hB0 (by simp)
 have K1:=K0.trans k1
 clear hN0 hW0 hC0 hB0 K0 hX0
 go_wp2_with fail
 have hCb:=(((At.new w1 (cfgO c)).alloc (bkO 0 (lenL os:Nat) (.slice x c.roots cp))).alloc (.cells #[.slice y os.length cy] 132)).alloc (.cells #[.int .i64 0] 3)
 have hBb:=((At.new (w1.alloc (cfgO c)) (bkO 0 (lenL os:Nat) (.slice x c.roots cp))).alloc (.cells #[.slice y os.length cy] 132)).alloc (.cells #[.int .i64 0] 3)
 have hPb:=(At.new ((w1.alloc (cfgO c)).alloc (bkO 0 (lenL os:Nat) (.slice x c.roots cp))) (.cells #[.slice y os.length cy] 132)).alloc (.cells #[.int .i64 0] 3)
 have hKb:=At.new (((w1.alloc (cfgO c)).alloc (bkO 0 (lenL os:Nat) (.slice x c.roots cp))).alloc (.cells #[.slice y os.length cy] 132)) (.cells #[.int .i64 0] 3)
 have k12:=((((xe.refl [] w1).alloc (cfgO c)).alloc (bkO 0 (lenL os:Nat) (.slice x c.roots cp))).alloc (.cells #[.slice y os.length cy] 132)).alloc (.cells #[.int .i64 0] 3)
 simp only[World.size_alloc]at hBb hPb hKb
 obtain⟨w2,hw2⟩:∃w2,w2=(((w1.alloc (cfgO c)).alloc (bkO 0 (lenL os:Nat) (.slice x c.roots cp))).alloc (.cells #[.slice y os.length cy] 132)).alloc (.cells #[.int .i64 0] 3):=⟨_,rfl⟩
 have hz2:w2.heap.size=w1.heap.size+4:=by rw[hw2];simp
 rw[<-hw2]at hCb hBb hPb hKb k12
 first|rw[<-hw2]|skip
 obtain⟨cb,hcb⟩:∃x,x=w1.heap.size:=⟨_,rfl⟩
 obtain⟨bb,hbb⟩:∃x,x=w1.heap.size+1:=⟨_,rfl⟩
 obtain⟨pb,hpb⟩:∃x,x=w1.heap.size+1+1:=⟨_,rfl⟩
 obtain⟨kb,hkb⟩:∃x,x=w1.heap.size+1+1+1:=⟨_,rfl⟩
 rw[<-hkb,<-hpb,<-hbb,<-hcb]
 rw[<-hcb]at hCb
 rw[<-hbb]at hBb
 rw[<-hpb]at hPb
 rw[<-hkb]at hKb
 have hP2:=hP.keep0 k12
 have hU2:=hU.keep k12 (by simp)
 have hI2:=hI.keep k12 (by simp)
 have hN2:=k12.at hN1 (by simp)
 have hW2:=k12.at hW1 (by simp)
 have hC2:=k12.at hC1 (by simp)
 have hB2:=k12.at hB1 (by simp)
 have K2:=K1.trans k12
 have hsz:cb≤B\/B≤cb:=by omega
 have HD:Hid (p<cb/\a.d<cb/\a.s<cb/\a.k<cb/\a.m<cb/\x4<p/\x4<a.d/\x4<a.s/\x4<a.k/\x4<a.m/\bb=cb+1/\pb=cb+2/\kb=cb+3/\w2.heap.size=cb+4/\x4<cb/\w.heap.size+5≤cb):=by
  have h1:=hP.pow.lt
  have h2:=hP.dev.dev.lt
  have h3:=hP.dev.now.lt
  have h4:=hP.dev.kept.lt
  have h5:=hP.dev.map.lt
  have h6:=HX.out
  have h7:=k1.size
  show _/\_
  omega
 have HBl:Hid ((∀b∈blkL y,B≤b/\b<cb)/\(∀b∈blkL x,B≤b/\b<cb)/\(p<B/\a.d<B/\a.s<B/\a.k<B/\a.m<B)):=by
  refine⟨fun b hb=>?_,fun b hb=>?_,d1,d2,d3,d4,d5⟩
  ·have:=hI.ge b hb;omega
  ·have:=hU.ge b hb;omega
 have hfs:c.frm 0+c.space≤a.n:=by rw[<-hn];exact xu 0 (by omega)
 have HN:=hid hn
 have HF:=hid hF
 have HFS:=hid hfs
 have HP2:=hid hP2
 have HU2:=hid hU2
 have HI2:=hid hI2
 have HN2:=hid hN2
 have HW2:=hid hW2
 have HC2:=hid hC2
 have HB2:=hid hB2
 have HCb:=hid hCb
 have HBb:=hid hBb
 have HPb:=hid hPb
 have HK2:=hid K2
 obtain⟨g,hgg⟩:∃g,g=lnkG c os G mn wg:=⟨_,rfl⟩
 have HGG:=hid hgg
 rw[<-hgg]
 have HR2:Hid (X6 w2 y1 mn G):=HG.out.keep K2 (by simp)
 have HLI:Hid (LkI c p a os g S kb w2 0 w2):=⟨u,S,hP2,by omega,⟨Upd.zero _ _ _,fun _ _=>Pre.refl _ _,rfl,rfl⟩,hKb,xe.refl _ _⟩
 have HFW:Hid (c.frm 0≤15000/\c.space≤4096/\lenL os≤c.space/\c.roots≤16/\refL os≤8000/\os.length≤1000):=by
  have h1:=xW HO.out.small (show 0≤2 by omega)
  have h2:=HO.out.small.2.2
  have h3:=HO.out.2.1
  have h4:=HL.out
  have h5:=xdD (os:=os) (b:=8) (fun y hy=>by have:=hF.head y hy;omega)
  have h6:=hF.fits
  show _/\_
  omega
 have HNX:Hid (∀(q:Nat) (w':World),LkI c p a os g S kb w2 q w'->q≤100000->∀w'',xe [] w' w''->
   ∃v:Nat,(v:Int)=g q/\v≤100001/\Calls Tryz.prog 219 #[ptr kb,ptr x1,ptr pb,ptr x2] w'' fun e w3=>e=.returned (.int .u64 (v:Nat))/\At w3 kb (.cells #[.int .i64 ((q+1:Nat):Int)] 3)/\xe [kb] w'' w3):=by
  rintro q w' ⟨u1,S1,hP1,hu1,hU1,hK1,hk1⟩ hq w'' hk2
  have hd:=HD.out
  have hx:=HX.out
  have hfw:=HFW.out
  have hT:∀b,b≠kb->b≠p->b≠a.s->b≠a.k->b≠a.m->b∉[kb,p,a.s,a.k,a.m]:=fun b h1 h2 h3 h4 h5 h=>by
   simp only[List.mem_cons,List.not_mem_nil,or_false]at h
   omega
  have k3:=hk1.trans (hk2.mono (by simp))
  have e1:=k3.at HN2.out (hT _ (by omega) (by omega) (by omega) (by omega) (by omega))
  have e2:=k3.at HPb.out (hT _ (by omega) (by omega) (by omega) (by omega) (by omega))
  have e3:=k3.at HW2.out (hT _ (by omega) (by omega) (by omega) (by omega) (by omega))
  have e4:X6 w'' y1 mn G/\(mn=0\/∀b off,y1=some ⟨b,off,none⟩->b≠kb):=by
   by_cases h0:mn=0
   ·exact⟨.inl h0,.inl h0⟩
   ·obtain⟨b,off,rfl,hb,_⟩:=HG.out.resolve_left h0
    have h1:∀b' off',some (⟨b,off,none⟩:Addr)=some ⟨b',off',none⟩->b'∉[kb,p,a.s,a.k,a.m]/\b'≠kb:=fun b' off' h=>by
     injection h with h
     injection h with h
     subst h
     exact⟨hT _ (by omega) (by omega) (by omega) (by omega) (by omega),by omega⟩
    exact⟨HR2.out.keep k3 (fun b' off' h=>(h1 b' off' h).1),.inr fun b' off' h=>(h1 b' off' h).2⟩
  have e5:Y9 w'' y os.length (fun j=>c.frm 0+posL os j)/\(os.length=0\/∀b off,y=some ⟨b,off,none⟩->b≠kb):=by
   have hn:∀b∈blkL y,b∉[kb,p,a.s,a.k,a.m]/\b≠kb:=fun b hb=>by
    have h1:=HBl.out.1 b hb
    have h2:=HBl.out.2.2
    exact⟨hT _ (by omega) (by omega) (by omega) (by omega) (by omega),by omega⟩
   refine⟨(HI2.out.keep k3 (fun b hb=>(hn b hb).1)).reads,?_⟩
   rcases HI2.out.form with⟨_,h0⟩|⟨gb,cur,rfl,_⟩
   ·exact .inl h0
   ·refine .inr fun b off h=>?_
    injection h with h
    injection h with h
    subst h
    exact(hn gb (by simp[blkL])).2
  refine⟨nxV G mn (fun j=>c.frm 0+posL os j) os.length wg q,?_,?_,xar w'' kb x1 pb x2 q mn cn os.length cy wg y1 y G (fun j=>c.frm 0+posL os j) (hk2.at hK1 (by simp)) e1 e2 e3 e4.1 e5.1 ?_ (by omega) hwr hmn (by omega) (by omega) e4.2 e5.2⟩
  ·rw[HGG.out];rfl
  ·unfold nxV
   split
   ·rename_i h
    have h1:=vC (os:=os) (i:=G q%os.length) (j:=os.length) (Nat.le_of_lt (Nat.mod_lt _ h.2.1)) (Nat.le_refl _)
    rw[zq]at h1
    have:(if 0<wg/\G q%wg=1 then 1 else 0)≤1:=by split<;>omega
    show c.frm 0+posL os (G q%os.length)+_≤_
    omega
   ·omega
  ·intro i hi
   have h1:=vC (os:=os) (i:=i) (j:=os.length) (by omega) (Nat.le_refl _)
   rw[zq]at h1
   omega
 clear hn hF hub hP hU hI b1 b2 b3 b4 b5 d1 d2 d3 d4 d5 k1 hN1 hW1 hC1 hB1 K1 hCb hBb hPb hKb k12 hw2 hz2 hcb hbb hpb hkb hP2 hU2 hI2 hN2 hW2 hC2 hB2 K2 hsz hfs hgg
 go_loopg [39] os.length (fun rr s39 wv=>∃i:Nat,i+rr=os.length∧s39=.int .i64 i∧LkI c p a os g S kb w2 (refB os i) wv)
 case atStart=>exact⟨0,by omega,rfl,HLI.out⟩
 case round=>
  obtain⟨i,hi,rfl,hLI⟩:=hrel
  by_cases hlt:i<os.length
  ·have HLI1:=hid hLI
   obtain⟨u1,S1,hP1,hu1,hU1,hK1,hk1⟩:=hLI
   have hnT:∀b,b∈[kb,p,a.s,a.k,a.m]->(x4<b/\b<cb)\/b=kb:=fun b hb=>by
    have:=HD.out
    simp at hb
    omega
   have hTn:∀b,b≤x4\/(cb≤b/\b≠kb)->b∉[kb,p,a.s,a.k,a.m]:=fun b h hb=>by
    have:=hnT b hb
    have:=HD.out
    omega
   have hd:=HD.out
   have hx:=HX.out
   have hCr:=hk1.at HCb.out (hTn _ (by omega))
   have hBr:=hk1.at HBb.out (hTn _ (by omega))
   have hIr:=HI2.out.keep hk1 (fun b hb h=>by
    have h1:=HBl.out.1 b hb
    have h2:=HBl.out.2.2
    simp at h
    omega)
   obtain⟨gy,hgy,_,hgl,hgc⟩:=hIr.cell (by omega)
   obtain⟨zi,hzi⟩:∃zi,zi=c.frm 0+posL os i:=⟨_,rfl⟩
   have y0:=hgc i hlt
   rw[<-hzi]at y0
   have hrB:refB os i≤refL os+c.roots:=by have:=VW os i;omega
   have hhd:=HF.out.headU HFS.out hU1.1 hrB hlt
   have hpe:=xE hlt
   have hfe:=wJ HF.out.head i
   have hli:(i:Int)<(os.length:Int):=by omega
   have hol:(os.length:Int)≤1000:=by have:=HFW.out;omega
   have hfw:=HFW.out
   obtain⟨nn,hnn⟩:∃nn,nn=nL os i:=⟨_,rfl⟩
   obtain⟨rr,hrr⟩:∃rr,rr=rL os i:=⟨_,rfl⟩
   rw[<-hnn]at hpe hhd hfe
   rw[<-hrr]at hhd hfe
   have HOF:=hid (fun(w':World) (hk:xe [] wr w')=>jg w' p a S1 (hP1.dev.keep hk (by simp) (by simp) (by simp) (by simp)) c HO.out HN.out 0 (by omega) (lenL os) hfw.2.2.1 (.slice x c.roots cp) (posL os i) nn rr hhd (by omega) (by omega) (by omega) zi (by rw[hzi]))
   have HZ:=hid (And.intro hzi (And.intro hnn (And.intro hrr (And.intro hpe hfe))))
   have c0:=hCr.cell 0 rfl
   have c1:=hCr.cell 1 rfl
   have c2:=hCr.cell 2 rfl
   have b0:=hBr.cell 0 rfl
   have b1:=hBr.cell 1 rfl
   have b2:=hBr.cell 2 rfl
   have HII:=hid (And.intro hi hlt)
   subst hgy
   clear hi hlt hgc hgl hzi hhd hpe hfe hnn hrr hrB hIr hd hx hfw hP1 hu1 hU1 hK1
   go_wp2_with fail
   refine(HOF.out wr (xe.refl _ _)).mono ?_
   rintro e w3 ⟨rfl,k3⟩
   have hO4:=At.new w3 (obO (nn:Nat) (rr:Nat) zi)
   have k4:=k3.alloc (obO (nn:Nat) (rr:Nat) zi)
   clear c0 c1 c2 b0 b1 b2 y0 hCr hBr
   go_wp2_with fail
   obtain⟨ob,hob⟩:∃ob,ob=w3.heap.size:=⟨_,rfl⟩
   obtain⟨w4,hw4⟩:∃w4,w4=w3.alloc (obO (nn:Nat) (rr:Nat) zi):=⟨_,rfl⟩
   have HLI4:Hid (LkI c p a os g S kb w2 (refB os i+0) w4):=by rw[hw4];exact HLI1.out.keep0 k4
   rw[<-hob]at hO4⊢
   rw[<-hw4]at hO4
   first|rw[<-hw4]|skip
   have HOB:Hid (w2.heap.size≤ob/\At w4 ob (obO (nn:Nat) (rr:Nat) zi)):=⟨by rw[hob];exact Nat.le_trans hk1.size k3.size,hO4⟩
   clear hob hw4 k4 k3 hO4 hk1 HLI1 HOF hnT hTn
   obtain⟨wO,hwO⟩:∃wO,wO=wr:=⟨_,rfl⟩
   subst hwO
   go_loopg [58] rr (fun r2 s58 wv=>∃j:Nat,j+r2=rr∧s58=.int .i64 j∧LkI c p a os g S kb w2 (refB os i+j) wv∧At wv ob (obO (nn:Nat) (rr:Nat) zi))
   case atStart=>exact⟨0,by omega,rfl,HLI4.out,HOB.out.2⟩
   case round=>
    obtain⟨j,hj,rfl,hLJ,hOJ⟩:=hrel
    obtain⟨w7,hw7⟩:∃w7,w7=wr:=⟨_,rfl⟩
    subst hw7
    by_cases hjr:j<rr
    ·have hji:(j:Int)<(rr:Int):=by omega
     have hrb:(rr:Int)≤64:=by have:=HZ.out;omega
     obtain⟨u7,S7,hP7,hu7,hU7,hK7,hk7⟩:=id hLJ
     have hz:=HZ.out
     have hfw:=HFW.out
     have hd:=HD.out
     obtain⟨q,hq⟩:∃q,q=refB os i+j:=⟨_,rfl⟩
     rw[<-hq]at hLJ hU7 hK7 hu7
     have hqt:q<refL os+c.roots:=by
      have h1:=VW os (i+1)
      rw[Yz HII.out.2]at h1
      omega
     obtain⟨v,hv,hvb,hcall⟩:=HNX.out q w7 hLJ (by omega) w7.drew (xe.refl _ _).drew
     have hvi:(v:Int)≤100001:=by omega
     have e1:IntKind.i64.wrap (v:Int)=(v:Int):=IntWalk.i64_in _ (by omega)
     have HCALL:=hid hcall
     have hkd:kb≠p/\kb≠a.d/\kb≠a.s/\kb≠a.k/\kb≠a.m/\kb≠ob:=by have:=HOB.out.1;omega
     have HPT:=hid (fun(w':World) (hk:xe [kb] w7 w')=>jf w' p a u7 S7 (hP7.keep hk (by simpa using hkd.1.symm) (by simpa using hkd.2.1.symm) (by simpa using hkd.2.2.1.symm) (by simpa using hkd.2.2.2.1.symm) (by simpa using hkd.2.2.2.2.1.symm)) (by omega) nn rr zi j v v (IntWalk.u64_in _ (by omega)) ⟨by omega,by omega⟩ ⟨by omega,by have:=HFS.out;omega⟩)
     rw[show fldE nn rr j true=0 from vg (by omega) (by omega) (by simp;omega)]at HPT
     have HCL7:Hid (∀w',xe [kb] w7 w'->(w'.cell? ⟨ob,0,none⟩=some (.int .i64 nn)/\w'.cell? ⟨ob,1,none⟩=some (.int .i64 rr)/\w'.cell? ⟨ob,2,none⟩=some (.int .i64 zi))):=fun w' hk=>by
      have e1:=hk.at hOJ (by simpa using hkd.2.2.2.2.2.symm)
      exact⟨e1.cell 0 rfl,e1.cell 1 rfl,e1.cell 2 rfl⟩
     have HCL9:Hid (∀w' w'',xe [kb] w7 w'->xe [p,a.s,a.k,a.m] w' w''->(w''.cell? ⟨ob,0,none⟩=some (.int .i64 nn)/\w''.cell? ⟨ob,1,none⟩=some (.int .i64 rr)/\w''.cell? ⟨ob,2,none⟩=some (.int .i64 zi))):=fun w' w'' hk hk2=>by
      have e1:=hk2.at (hk.at hOJ (by simpa using hkd.2.2.2.2.2.symm)) (fun h=>by have:=HOB.out.1;simp at h;omega)
      exact⟨e1.cell 0 rfl,e1.cell 1 rfl,e1.cell 2 rfl⟩
     have HOJ:=hid hOJ
     have HX7:=hid (And.intro hu7 (And.intro hU7 hk7))
     have HJJ:=hid (And.intro hj (And.intro hq (And.intro hqt (And.intro hv hjr))))
     have HKD:=hid hkd
     clear hj hjr hz hfw hd hq hqt hv hvb hcall hkd hOJ hu7 hU7 hk7 hP7 hK7 hLJ
     go_upto_region 15 with fail
     have kk:xe [] w7 w7.drew:=(xe.refl _ _).drew
     go_region_held3 (fun w'=>w'.cell? ⟨ob,0,none⟩=some (.int .i64 nn)∧w'.cell? ⟨ob,1,none⟩=some (.int .i64 rr)∧w'.cell? ⟨ob,2,none⟩=some (.int .i64 zi))
      (first|exact HCL9.out _ _ kT hk9|exact HCL7.out _ kT|exact HCL7.out _ (kk.mono (by simp)))
      (first
        |(go_at_call 103;refine(HPT.out _ kT).mono ?_;rintro e w9 ⟨rfl,hx9⟩;obtain⟨u9,hP9,hu9,hk9⟩:=hx9.out)
        |(go_at_call 219;refine HCALL.out.mono ?_;rintro e w8 ⟨rfl,hK8,kq⟩;have kT:=(kk.mono (by simp):xe [kb] _ _).trans kq))
     all_goals
      rename_i hHd
      clear hHd
      have HEN:Hid (LkI c p a os g S kb w2 (refB os i+(j+1)) w9/\At w9 ob (obO (nn:Nat) (rr:Nat) zi)):=by
       have hz:=HZ.out
       have hjj:=HJJ.out
       have hfw:=HFW.out
       have hkd:=HKD.out
       have hd:=HD.out
       have hnk:kb∉[p,a.s,a.k,a.m]:=by simp;omega
       have hno:ob∉[p,a.s,a.k,a.m]:=by have:=HOB.out.1;simp;omega
       refine⟨⟨u9,_,hP9,by have:=HX7.out.1;omega,?_,?_,?_⟩,hk9.at (kT.at HOJ.out (by simpa using hkd.2.2.2.2.2.symm)) hno⟩
       ·rw[show refB os i+(j+1)=q+1 by omega]
        refine And.intro (HX7.out.2.1.1.next (fun i' hi' e=>?_) (fun z=>?_)) (And.intro (fun t ht=>(HX7.out.2.1.2.1 t ht).trans ?_) (And.intro (Eq.trans (by unfold setS;rw[if_pos rfl];rfl) HX7.out.2.1.2.2.1) (Eq.trans (by unfold setS;rw[if_pos rfl];rfl) HX7.out.2.1.2.2.2)))
        ·have:=xai (c:=c) (fun x hx=>(HF.out.head x hx).2) (q:=i') (q':=q) (by omega) (by omega) e
         omega
        rotate_left
        ·unfold setS
         rw[if_pos rfl]
         refine xy fun y hy=>?_
         rw[List.mem_singleton]at hy
         subst hy
         have hfg:=@xK c 0
         show((zi:Int)+1+(j:Int)).toNat≠t
         have:=hz.1
         omega
        ·rw[ZW]
         have hpl:plF c os q=zi+1+j:=by
          rw[hjj.2.1,Jt HII.out.2 (by rw[<-hz.2.2.1];omega),hz.1]
         rw[hpl,show((zi:Int)+1+(j:Int)).toNat=zi+1+j by omega,hjj.2.2.2.1]
       ·rw[show refB os i+(j+1)=q+1 by omega]
        exact hk9.at hK8 hnk
       ·exact(HX7.out.2.2.trans (kT.mono (by intro x _ h;rw[List.mem_singleton.1 h];simp))).trans (hk9.mono (by intro x _ h;exact List.mem_cons_of_mem _ h))
      clear hx9 hP9 hu9 hk9 kT kq hK8 kk HPT HCL7 HCL9 HCALL
      go_wp2_with fail
      go_roundg (rr-(j+1))
      case measure=>(have:=HJJ.out.1;omega)
      case rel=>exact⟨j+1,by have:=HJJ.out.1;omega,by go_num,HEN.out⟩
    ·have hje:j=rr:=by omega
     subst hje
     have HEN:Hid (LkI c p a os g S kb w2 (refB os (i+1)) w7):=by
      have hz:=HZ.out
      rw[Yz HII.out.2,<-hz.2.2.1]
      exact hLJ
     clear hj hjr hLJ hOJ
     go_wp2_with fail
     go_roundg (os.length-(i+1))
     case measure=>(have:=HII.out;omega)
     case rel=>exact⟨i+1,by have:=HII.out;omega,by go_num,HEN.out⟩
  ·have hie:i=os.length:=by omega
   subst hie
   rw[xb0]at hLI
   have HTN:Hid (∀b,b≤x4\/(cb≤b/\b≠kb)->b∉[kb,p,a.s,a.k,a.m]):=fun b h hb=>by
    have:=HD.out
    simp at hb
    omega
   have HCT:Hid (∀q w',LkI c p a os g S kb w2 q w'->w'.cell? ⟨cb,0,none⟩=some (.int .i64 c.log)/\w'.cell? ⟨cb,1,none⟩=some (.int .i64 c.roots)/\w'.cell? ⟨cb,2,none⟩=some (.int .i64 c.space)):=by
    rintro q w' ⟨_,_,_,_,_,_,hk⟩
    have e1:=hk.at HCb.out (HTN.out _ (by have:=HD.out;omega))
    exact⟨e1.cell 0 rfl,e1.cell 1 rfl,e1.cell 2 rfl⟩
   obtain⟨c0,c1,c2⟩:=HCT.out _ _ hLI
   have hrb:(c.roots:Int)≤16:=by have:=HFW.out;omega
   have HLI5:Hid (LkI c p a os g S kb w2 (refL os+0) wr):=hLI
   clear hi hlt hLI
   go_wp2_with fail
   obtain⟨wO,hwO⟩:∃wO,wO=wr:=⟨_,rfl⟩
   subst hwO
   clear c0 c1 c2
   go_loopg [73] c.roots (fun r3 s73 wv=>∃j:Nat,j+r3=c.roots∧s73=.int .i64 j∧LkI c p a os g S kb w2 (refL os+j) wv)
   case atStart=>exact⟨0,by omega,rfl,HLI5.out⟩
   case round=>
    obtain⟨j,hj,rfl,hLJ⟩:=hrel
    obtain⟨w7,hw7⟩:∃w7,w7=wr:=⟨_,rfl⟩
    subst hw7
    obtain⟨c0,c1,c2⟩:=HCT.out _ _ hLJ
    by_cases hjr:j<c.roots
    ·have hji:(j:Int)<(c.roots:Int):=by omega
     have HLJ:=hid hLJ
     have HJJ:=hid (And.intro hj hjr)
     clear hj hjr hLJ
     go_wp2_with fail
     refine(wR _ c HO.out.small j (by have:=HJJ.out;have:=HFW.out;omega)).mono ?_
     rintro e w8 ⟨rfl,hk8⟩
     obtain⟨v,hv,hvb,hcall⟩:=HNX.out _ _ HLJ.out (by have:=HJJ.out;have:=HFW.out;omega) w8 hk8
     clear c0 c1 c2
     go_wp2_with fail
     refine hcall.mono ?_
     rintro e w9 ⟨rfl,hK9,kq⟩
     have hd:=HD.out
     obtain⟨u7,S7,hP7,hu7,hU7,hK7,hk7⟩:=HLJ.out
     have hP9:=(hP7.keep0 hk8).keep kq (by simp;omega) (by simp;omega) (by simp;omega) (by simp;omega) (by simp;omega)
     have hrt:=root_lt HJJ.out.2
     have hfs:=HFS.out
     have hfw:=HFW.out
     have hjj:=HJJ.out
     have HST:=hid (Zj w9 p a u7 S7 hP9 (by omega) (c.root j) v ⟨by omega,by omega⟩)
     have HX7:=hid (And.intro hu7 (And.intro hU7 (And.intro hk7 (And.intro hv (And.intro hk8 (And.intro hK9 kq))))))
     clear hu7 hU7 hk7 hv hk8 hK9 kq hP7 hK7 hP9 hd hrt hfs hfw hjj hvb hcall
     go_wp2_with fail
     refine HST.out.mono ?_
     rintro e wA ⟨rfl,hx⟩
     have HEN:Hid (LkI c p a os g S kb w2 (refL os+(j+1)) wA):=by
      obtain⟨hPA,hkA⟩:=hx.out
      obtain⟨hu7,hU7,hk7,hv,hk8,hK9,kq⟩:=HX7.out
      have hjj:=HJJ.out
      have hfw:=HFW.out
      have hd:=HD.out
      refine⟨u7+1,_,hPA,by omega,?_,hkA.at hK9 (by simp;omega),?_⟩
      ·refine And.intro (Upd.next (q:=refL os+j) hU7.1 (fun i' hi' e=>?_) (fun z=>?_)) (And.intro (fun t ht=>(hU7.2.1 t ht).trans ?_) (And.intro (Eq.trans rfl hU7.2.2.1) (Eq.trans rfl hU7.2.2.2)))
       ·have:=xai (c:=c) (fun x hx=>(HF.out.head x hx).2) (q:=i') (q':=refL os+j) (by omega) (by omega) e
        omega
       rotate_left
       ·refine xy fun y hy=>?_
        rw[List.mem_singleton]at hy
        subst hy
        show((c.root j:Nat):Int).toNat≠t
        unfold Cfg.root
        omega
       ·rw[Js hjj.2,<-hv]
        show(if z=((c.root j:Nat):Int).toNat then(v:Int)else S7.now z)=_
        rw[Int.toNat_natCast]
      ·exact((hk7.trans (hk8.mono (by simp))).trans (kq.mono (by intro x _ h;rw[List.mem_singleton.1 h];simp))).trans (hkA.mono (by intro x _ h;exact List.mem_cons_of_mem _ h))
     clear hx HST HX7
     go_wp2_with fail
     go_roundg (c.roots-(j+1))
     case measure=>(have:=HJJ.out;omega)
     case rel=>exact⟨j+1,by have:=HJJ.out;omega,by go_num,HEN.out⟩
    ·have hje:j=c.roots:=by omega
     subst hje
     obtain⟨u7,S7,hP7,hu7,hU7,hK7,hk7⟩:=hLJ
     have hLS:=HF.out.linked HFS.out hU7.1 hU7.2.1 hU7.2.2.1 hU7.2.2.2
     have hRD:=hid (zI w7 p a S7 c hP7.dev HO.out HN.out (by rw[hLS.act];omega) (by rw[hLS.used];omega))
     have HLS:=hid hLS
     have HP7:=hid hP7
     have HU7:=hid hu7
     have HK7:=hid hk7
     clear hj hjr hP7 hu7 hU7 hK7 hk7 hLS
     go_wp2_with fail
     refine hRD.out.mono ?_
     rintro e w9 (⟨h9,rfl,hk9⟩|⟨k1,u1,x9,cp9,hk1,hu1,hA1,hU1,rfl,hO9,hk9⟩)
     ·rw[HLS.out.act,HLS.out.used]at h9
      have:=HLS.out.fits
      omega
     rw[HLS.out.act]at hA1
     rw[HLS.out.used]at hU1
     obtain rfl:0=k1:=by omega
     obtain rfl:lenL os=u1:=by omega
     clear c0 c1 c2 hk1 hu1 hA1 hU1 hRD
     have hd:=HD.out
     have hx:=HX.out
     have k29:xe [kb,p,a.s,a.k,a.m] w2 w9:=HK7.out.trans (hk9.mono (by simp))
     have hC9:=k29.at HCb.out (HTN.out _ (by omega))
     have hB9:=k29.at HBb.out (HTN.out _ (by omega))
     have hY9:=k29.at HPb.out (HTN.out _ (by omega))
     have hR9:=k29.at HC2.out (HTN.out _ (by omega))
     have hQ9:=k29.at HB2.out (HTN.out _ (by omega))
     have K9:xe [] w w9:=HK2.out.new k29 (fun b hb=>.inr (by simp at hb;omega))
     have hI9:=HI2.out.keep k29 (fun b hb h=>by
      have h1:=HBl.out.1 b hb
      have h2:=HBl.out.2.2
      simp at h
      omega)
     have hP9:=HP7.out.keep0 hk9
     have n0:=hB9.cell 0 rfl
     have n1:=hB9.cell 1 rfl
     have n2:=hB9.cell 2 rfl
     have nf0:=hB9.free 0
     have nf1:=hB9.free 1
     have nf2:=hB9.free 2
     have HO9:=hid hO9
     have HK9:=hid K9
     have HI9:=hid hI9
     have HP9:=hid hP9
     have hzw:w2.heap.size≤w7.heap.size:=HK7.out.size
     have HZW:=hid hzw
     clear hO9 K9 hI9 hP9 hk9 k29 hzw hd hx
     have hlt:x3<x4/\x4<cb/\cb<bb/\bb<pb:=by have:=HD.out;have:=HX.out;omega
     have HLT:=hid hlt
     have KE:xe [bb] w9 (((w9.setCell ⟨bb,0,none⟩ (.int .i64 0)).setCell ⟨bb,1,none⟩ (.int .i64 (lenL os:Nat))).setCell ⟨bb,2,none⟩ (.slice x9 c.roots cp9)):=
      (((xe.refl _ w9).set (p:=⟨bb,0,none⟩) (.inl (by simp)) _).set (p:=⟨bb,1,none⟩) (.inl (by simp)) _).set (p:=⟨bb,2,none⟩) (.inl (by simp)) _
     have hBE:=((hB9.set 0 (.int .i64 0)).set 1 (.int .i64 (lenL os:Nat))).set 2 (.slice x9 c.roots cp9)
     have hCE:=KE.at hC9 (by simp;omega)
     have hYE:=KE.at hY9 (by simp;omega)
     have hRE:=KE.at hR9 (by simp;omega)
     have hQE:=KE.at hQ9 (by simp;omega)
     go_upto_region 24 with fail
     obtain⟨wE,hwE⟩:∃wE,wE=((w9.setCell ⟨bb,0,none⟩ (.int .i64 0)).setCell ⟨bb,1,none⟩ (.int .i64 (lenL os:Nat))).setCell ⟨bb,2,none⟩ (.slice x9 c.roots cp9):=⟨_,rfl⟩
     rw[<-hwE]at hBE hCE hYE hRE hQE KE
     first|rw[<-hwE]|skip
     clear hwE n0 n1 n2 nf0 nf1 nf2 hB9 hC9 hY9 hR9 hQ9 hlt
     have HKE:=hid KE
     obtain⟨hl1,hl2,hl3,hl4⟩:=HLT.out
     have c0:=hCE.cell 0 rfl
     have c1:=hCE.cell 1 rfl
     have c2:=hCE.cell 2 rfl
     have n0:wE.cell? ⟨bb,0,none⟩=some (.int .i64 0):=hBE.cell 0 rfl
     have n1:wE.cell? ⟨bb,1,none⟩=some (.int .i64 (lenL os:Nat)):=hBE.cell 1 rfl
     have n2:wE.cell? ⟨bb,2,none⟩=some (.slice x9 c.roots cp9):=hBE.cell 2 rfl
     have p0:=hYE.cell 0 rfl
     have r0:=hRE.cell 0 rfl
     have r1:=hRE.cell 1 rfl
     have r2:=hRE.cell 2 rfl
     have k0:=hQE.cell 0 rfl
     have k1:=hQE.cell 1 rfl
     have k2:=hQE.cell 2 rfl
     have rf0:=hRE.free 0
     have rf1:=hRE.free 1
     have rf2:=hRE.free 2
     have kf0:=hQE.free 0
     have kf1:=hQE.free 1
     have kf2:=hQE.free 2
     clear KE
     go_region
     all_goals
      go_wp2_with fail
      have hRF:=((((((hRE.set 0 (.int .i64 c.log)).set 1 (.int .i64 c.roots)).set 2 (.int .i64 c.space)).set_ne (a:=⟨x4,0,none⟩) (by show x3≠x4;omega) (.int .i64 0)).set_ne (a:=⟨x4,1,none⟩) (by show x3≠x4;omega) (.int .i64 (lenL os:Nat))).set_ne (a:=⟨x4,2,none⟩) (by show x3≠x4;omega) (.slice x9 c.roots cp9)).drew
      have hQF:=((((((hQE.set_ne (a:=⟨x3,0,none⟩) (by show x4≠x3;omega) (.int .i64 c.log)).set_ne (a:=⟨x3,1,none⟩) (by show x4≠x3;omega) (.int .i64 c.roots)).set_ne (a:=⟨x3,2,none⟩) (by show x4≠x3;omega) (.int .i64 c.space)).set 0 (.int .i64 0)).set 1 (.int .i64 (lenL os:Nat))).set 2 (.slice x9 c.roots cp9)).drew
      have KF:=((((((xe.refl [x3,x4] wE).set (p:=⟨x3,0,none⟩) (.inl (by simp)) (.int .i64 c.log)).set (p:=⟨x3,1,none⟩) (.inl (by simp)) (.int .i64 c.roots)).set (p:=⟨x3,2,none⟩) (.inl (by simp)) (.int .i64 c.space)).set (p:=⟨x4,0,none⟩) (.inl (by simp)) (.int .i64 0)).set (p:=⟨x4,1,none⟩) (.inl (by simp)) (.int .i64 (lenL os:Nat))).set (p:=⟨x4,2,none⟩) (.inl (by simp)) (.slice x9 c.roots cp9) |>.drew
      obtain⟨wF,hwF⟩:∃wF,wF=((((((wE.setCell ⟨x3,0,none⟩ (.int .i64 c.log)).setCell ⟨x3,1,none⟩ (.int .i64 c.roots)).setCell ⟨x3,2,none⟩ (.int .i64 c.space)).setCell ⟨x4,0,none⟩ (.int .i64 0)).setCell ⟨x4,1,none⟩ (.int .i64 (lenL os:Nat))).setCell ⟨x4,2,none⟩ (.slice x9 c.roots cp9)).drew:=⟨_,rfl⟩
      rw[<-hwF]at hRF hQF KF
      have hd:=HD.out
      have hx:=HX.out
      have hT2:∀b,b≠bb->b≠x3->b≠x4->b∉[bb]/\b∉[x3,x4]:=fun b h1 h2 h3=>by simp;omega
      have hPF:=(HP9.out.keep HKE.out (hT2 _ (by omega) (by omega) (by omega)).1 (hT2 _ (by omega) (by omega) (by omega)).1 (hT2 _ (by omega) (by omega) (by omega)).1 (hT2 _ (by omega) (by omega) (by omega)).1 (hT2 _ (by omega) (by omega) (by omega)).1).keep KF (hT2 _ (by omega) (by omega) (by omega)).2 (hT2 _ (by omega) (by omega) (by omega)).2 (hT2 _ (by omega) (by omega) (by omega)).2 (hT2 _ (by omega) (by omega) (by omega)).2 (hT2 _ (by omega) (by omega) (by omega)).2
      obtain⟨B2,hB2⟩:∃B2,B2=min B cb:=⟨_,rfl⟩
      have hbl:=HBl.out
      have hzw:=HZW.out
      have hUF:=((((HO9.out.low (B':=B2) (by omega)).keep HKE.out (fun b hb=>(hT2 b (by have:=(HO9.out.ge b hb).1;omega) (by have:=(HO9.out.ge b hb).1;omega) (by have:=(HO9.out.ge b hb).1;omega)).1)).keep KF (fun b hb=>(hT2 b (by have:=(HO9.out.ge b hb).1;omega) (by have:=(HO9.out.ge b hb).1;omega) (by have:=(HO9.out.ge b hb).1;omega)).2)).eq (g:=fun j=>lnkG c os G mn wg (refL os+j)) (fun j hj=>by rw[<-HGG.out];exact HLS.out.root j hj))
      have hIF:=((HI9.out.low (B':=B2) (by omega)).keep HKE.out (fun b hb=>(hT2 b (by have:=hbl.1 b hb;omega) (by have:=hbl.1 b hb;omega) (by have:=hbl.1 b hb;omega)).1)).keep KF (fun b hb=>(hT2 b (by have:=hbl.1 b hb;omega) (by have:=hbl.1 b hb;omega) (by have:=hbl.1 b hb;omega)).2)
      have KW:xe [] w wF:=(HK9.out.new HKE.out (fun b hb=>.inr (by have:=List.mem_singleton.1 hb;omega))).new KF (fun b hb=>.inr (by simp at hb;omega))
      have f0:=hRF.cell 0 rfl
      have f1:=hRF.cell 1 rfl
      have f2:=hRF.cell 2 rfl
      have f3:=hQF.cell 0 rfl
      have f4:=hQF.cell 1 rfl
      have f5:=hQF.cell 2 rfl
      first|rw[<-hwF]|(show bodyPost _ _ _ _ _ wF)
      refine bodyPost_ret (v:=.tuple #[ptr a.d,cfgV c,bkV 0 (lenL os:Nat) (.slice x9 c.roots cp9),.slice y os.length cy]) (by simp[results,Tryz.results179,go_sem,f0,f1,f2,f3,f4,f5]) rfl ?_
      exact⟨p,a,_,S7,x9,cp9,y,cy,B2,rfl,HN.out,hPF,by have:=HU7.out;have:=HFW.out;omega,by rw[<-HGG.out];exact HLS.out,hUF,hIF,⟨by omega,by omega,by omega,by omega,by omega⟩,⟨by omega,by omega,by omega,by omega,by omega⟩,KW⟩
theorem xdc (l:List (Nat×Nat)):l.length≤lenL l:=by
 induction l with
 |nil=>simp
 |cons x l ih=>rw[Xq,List.length_cons];omega
end Go.Proofs.YtcdhklgahepcaaaGreat
