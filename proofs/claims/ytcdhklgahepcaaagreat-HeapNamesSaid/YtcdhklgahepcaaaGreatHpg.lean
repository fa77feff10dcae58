import Derived.Test.YtcdhklgahepcaaaGreatAwk14
import Derived.Test.YtcdhklgahepcaaaGreatTwo
import Derived.Test.YtcdhklgahepcaaaGreatCkl
namespace Go.Proofs.YtcdhklgahepcaaaGreat
open Go.RowKit Go.OpenShut
structure HepS (S:DS) (c:Cfg) (n k u:Nat) (rs:List Nat) (l:List (Nat×Nat)):Prop where
 act:S.now c.act=((k:Nat):Int)
 used:S.now (c.act+1)=((u:Nat):Int)
 rl:rs.length=c.roots
 root:∀j,j<c.roots->S.now (c.root j)=((rs.getD j 0:Nat):Int)
 rb:∀v∈rs,v<9223372036854775808
 k1:k≤1
 wd:WdV S c k u
 chn:Chn S c k u l false
 ok:ckC S c k l false=0
theorem HepS.us {S:DS} {c:Cfg} {n k u:Nat} {rs:List Nat} {l:List (Nat×Nat)} (h:HepS S c n k u rs l):u≤c.space:=h.chn.fits
theorem HepS.same2 {S S':DS} {c:Cfg} {n k u:Nat} {rs:List Nat} {l:List (Nat×Nat)} (h:HepS S c n k u rs l) (hb:∀j,c.act≤j->j<c.root c.roots->S'.now j=S.now j) (he:∀j,c.frm k≤j->j<c.frm k+u->S'.now j=S.now j):HepS S' c n k u rs l:=by
 have h5:=xH c
 have hle:=h.chn.le
 refine⟨by rw[hb _ (by omega) (by omega)];exact h.act,by rw[hb _ (by omega) (by omega)];exact h.used,h.rl,fun j hj=>?_,h.rb,h.k1,⟨fun i hi=>?_,fun j a b=>?_⟩,h.chn.same fun j hj=>he _ (by omega) (by omega),?_⟩
 ·rw[hb _ (by unfold Cfg.root;omega) (by unfold Cfg.root;omega)]
  exact h.root j hj
 ·rw[hb _ (by unfold Cfg.root;omega) (by unfold Cfg.root;omega)]
  exact h.wd.1 i hi
 ·rw[he j a b]
  exact h.wd.2 j a b
 ·rw[xcP (fun j hj=>hb _ (by unfold Cfg.root;omega) (by unfold Cfg.root;omega)) fun i hi j hj=>?_]
  ·exact h.ok
  ·obtain⟨e1,e2,_⟩:=h.chn.head i _ (zU hi)
   have h6:=xE hi
   have e3:rL l i≤nL l i:=e2
   exact he _ (by omega) (by omega)
theorem HepS.same {S S':DS} {c:Cfg} {n k u:Nat} {rs:List Nat} {l:List (Nat×Nat)} (h:HepS S c n k u rs l) (hn:c.words=n) (he:∀j,c.act≤j->j<n->S'.now j=S.now j):HepS S' c n k u rs l:=by
 have h1:=xu (c:=c) k h.k1
 have h2:=xK (c:=c) k
 have h3:=xK (c:=c) 0
 have h4:=h.us
 have h5:=xH c
 exact h.same2 (fun j a b=>he j a (by have:=xu (c:=c) 0 (by omega);omega)) fun j a b=>he j (by omega) (by omega)
def hdL (S:DS) (LS:List Nat):List (Nat×Nat):=LS.map fun x=>(hdN (S.now x).toNat,hdR (S.now x).toNat)
theorem xaV (S:DS) (LS:List Nat):lenL (hdL S LS)=szF S LS:=by
 induction LS with
 |nil=>rfl
 |cons x l ih=>rw[xC,<-ih];exact Xq _ _
theorem Wl (S:DS) (LS:List Nat) (i:Nat):posL (hdL S LS) i=szF S (LS.take i):=by
 unfold posL
 rw[show(hdL S LS).take i=hdL S (LS.take i) by unfold hdL;rw[List.map_take]]
 exact xaV _ _
theorem xaW {S:DS} {LS:List Nat} {t x:Nat} (h:LS[t]? =some x):(hdL S LS)[t]? =some (hdN (S.now x).toNat,hdR (S.now x).toNat):=by
 unfold hdL
 rw[List.getElem?_map,h]
 rfl
theorem xeZ {S:DS} {LS:List Nat} {t x:Nat} (h:LS[t]? =some x):nL (hdL S LS) t=hdN (S.now x).toNat/\rL (hdL S LS) t=hdR (S.now x).toNat:=by
 unfold nL rL
 rw[List.getD_eq_getElem?_getD,xaW h]
 exact⟨rfl,rfl⟩
section
variable {S S1 S2:DS} {c:Cfg} {n k u:Nat} {LS:List Nat}
theorem xan (S:DS) (c:Cfg) (k:Nat) (LS:List Nat) (v:Nat):okW c (1-k) (hdL S LS) ((wtC S c k LS v:Nat):Int)=true:=by
 rw[xV]
 by_cases hv:v∈LS
 ·refine .inr ⟨LS.idxOf v,by unfold hdL;rw[List.length_map];exact List.idxOf_lt_length_iff.2 hv,?_⟩
  unfold wtC plC
  rw[if_pos hv,Wl]
 ·exact .inl (by rw[wM hv];rfl)
theorem Cpd.hep (h:Cpd S S1 c k LS) (hc:c.Ok) (hn:c.words=n) (hk:k≤1) (hu:u≤c.space) (hob:∀x∈LS,(obW S c k u x).isSome=true) (hsz:szF S LS≤c.space) (hwd:WdV S c k u)
  {rs:List Nat} (hrl:rs.length=c.roots) (h1:S2.now c.act=((1-k:Nat):Int)) (h2:S2.now (c.act+1)=((szF S LS:Nat):Int)) (h3:∀j,j<c.roots->S2.now (c.root j)=((wtC S c k LS (rs.getD j 0):Nat):Int)) (h4:∀j,c.frm 0≤j->j<n->S2.now j=S1.now j):
  HepS S2 c n (1-k) (szF S LS) (rs.map (wtC S c k LS)) (hdL S LS):=by
 have hf0:=xK (c:=c) 0
 have hf1:=xu (c:=c) (1-k) (by omega)
 have hf2:=xu (c:=c) k hk
 have hfk:c.frm 0≤c.frm (1-k):=by unfold Cfg.frm;omega
 have hfk2:c.frm 0≤c.frm k:=by unfold Cfg.frm;omega
 have hfr:=xW hc.small (show 1-k≤2 by omega)
 have hs:=hc.small.2.2
 have hre:=xH c
 have hlt:∀v,wtC S c k LS v≤100000:=fun v=>by
  by_cases hv:v∈LS
  ·have e1:=zP (S:=S) (c:=c) (k:=k) (yE hv)
   unfold wtC
   rw[if_pos hv]
   omega
  ·rw[wM hv];omega
 have hcp:∀t x,LS[t]? =some x->∀o,o≤hdN (S.now x).toNat->c.frm 0≤plC S c k LS t+o/\plC S c k LS t+o<n:=fun t x hx o ho=>by
  have e1:=zP (S:=S) (c:=c) (k:=k) hx
  have e2:=WR (S:=S) (c:=c) (k:=k) (LS:=LS) t
  omega
 have hsrc:∀x∈LS,∀o,o≤hdN (S.now x).toNat->c.frm 0≤x+o/\x+o<n:=fun x hx o ho=>by
  obtain⟨f1,f2,f3,f4,_⟩:=yN (hob x hx)
  omega
 refine⟨h1,h2,by rw[List.length_map];exact hrl,fun j hj=>?_,fun v hv=>?_,by omega,⟨fun i hi=>⟨_,h3 i hi,by have:=hlt (rs.getD i 0);omega⟩,fun j a b=>?_⟩,⟨hsz,fun t y hy=>?_,fun _=>xaV _ _,fun h=>by cases h⟩,ZD (fun j hj=>?_) fun t ht j hj=>?_⟩
 ·rw[h3 j hj,List.getD_eq_getElem?_getD,List.getD_eq_getElem?_getD,List.getElem?_map,List.getElem?_eq_getElem (by omega)]
  rfl
 ·obtain⟨x,_,rfl⟩:=List.mem_map.1 hv
  have:=hlt x
  omega
 ·rw[h4 j (by omega) (by omega)]
  obtain⟨t,x,off,g1,g2,g3⟩:=QK S LS (j-c.frm (1-k)) (by omega)
  have hj:j=plC S c k LS t+off:=by unfold plC;omega
  have hxm:=List.mem_of_getElem? g1
  have hsk:∀o,o≤hdN (S.now x).toNat->c.frm k≤x+o/\x+o<c.frm k+u:=fun o ho=>by
   obtain⟨f1,f2,f3,f4,_⟩:=yN (hob x hxm)
   omega
  cases off with
  |zero=>
   rw[hj,Nat.add_zero,h.head t x g1]
   have:=hsk 0 (by omega)
   exact hwd.2 x (by omega) (by omega)
  |succ i=>
   rw[show j=plC S c k LS t+1+i by omega]
   by_cases hi:i<hdR (S.now x).toNat
   ·rw[h.name t x g1 i hi]
    exact⟨_,rfl,by have:=hlt (S.now (x+1+i)).toNat;omega⟩
   ·rw[h.num t x g1 i (by omega) (by omega)]
    have:=hsk (i+1) g2
    exact hwd.2 _ (by omega) (by omega)
 ·obtain⟨x,hx⟩:∃x,LS[t]? =some x:=by
   have h5:=(List.getElem?_eq_some_iff.1 hy).1
   unfold hdL at h5
   rw[List.length_map]at h5
   exact⟨_,List.getElem?_eq_getElem h5⟩
  rw[xaW hx]at hy
  injection hy with hy
  subst hy
  obtain⟨f1,f2,f3,f4,_⟩:=yN (hob x (List.mem_of_getElem? hx))
  have f5:=yu f3
  have f6:=hcp t x hx 0 (by omega)
  refine⟨f5.2.1,f5.2.2,?_⟩
  rw[Wl,h4 _ (by unfold plC at f6;omega) (by unfold plC at f6;omega)]
  have f7:=h.head t x hx
  unfold plC at f7
  rw[f7]
  obtain⟨v,g1,_⟩:=hwd.2 x (by omega) (by omega)
  rw[g1,Int.toNat_natCast]
  rw[g1,Int.toNat_natCast]at f5
  exact congrArg (fun z:Nat=>(z:Int)) f5.1
 ·rw[h3 j hj]
  exact xan S c k LS _
 ·obtain⟨x,hx⟩:∃x,LS[t]? =some x:=by
   unfold hdL at ht
   rw[List.length_map]at ht
   exact⟨_,List.getElem?_eq_getElem ht⟩
  rw[(xeZ hx).2]at hj
  obtain⟨f1,f2,f3,f4,_⟩:=yN (hob x (List.mem_of_getElem? hx))
  have f5:=yu f3
  have f6:=hcp t x hx (j+1) (by omega)
  rw[Wl,show c.frm (1-k)+szF S (LS.take t)+1+j=plC S c k LS t+1+j from rfl,h4 _ (by omega) (by omega),h.name t x hx j hj]
  exact xan S c k LS _
end
theorem CP.Ok.next {P:CP} (h:P.Ok) {S1:DS} (hC:Cpd P.S S1 P.c P.k P.LS):CP.Ok ⟨P.p,P.a,S1,P.c,1-P.k,szF P.S P.LS,P.ws.map (wtC P.S P.c P.k P.LS),P.rs.map (wtC P.S P.c P.k P.LS)⟩:=by
 have h1:=xW h.c.small (show 1-P.k≤2 by omega)
 have h2:=h.c.small.2.2
 have hpre:P.Pre P.LS:=⟨[],by rw[List.append_nil]⟩
 have hw:∀l:List Nat,∀v∈l.map (wtC P.S P.c P.k P.LS),v<9223372036854775808:=fun l v hv=>by
  obtain⟨x,_,rfl⟩:=List.mem_map.1 hv
  have:=xc1 h hpre x
  omega
 exact⟨h.c,h.n,by show 1-P.k≤1;omega,h.rdy.sz,h.rdy.next (by omega) hC,hw _,hw _,by rw[List.length_map];exact h.few,by rw[List.length_map];exact h.root⟩
theorem LnkS.hep {c:Cfg} {n:Nat} {os:List (Nat×Nat)} {G:Nat->Nat} {m:Nat} {S:DS} (h:LnkS c n os (lnkG c os G m 0) S) (hc:c.Ok) (hn:c.words=n):HepS S c n 0 (lenL os) (wsN c.roots fun j=>lnkG c os G m 0 (refL os+j)) os:=by
 have hfr:=xW hc.small (show 0≤2 by omega)
 have hs:=hc.small.2.2
 have hf:=h.fits
 have hlow:=fun q=>Wh c os G m (by omega) q
 refine⟨h.act,h.used,XC _ _,fun j hj=>?_,fun v hv=>?_,by omega,((h.wd (n:=n) hs fun q=>by obtain⟨v,h1,h2⟩:=hlow q;exact⟨v,h1,by omega⟩).at (n:=n) hn (by omega)).v hf,h.chain,ZD (fun j hj=>?_) fun i hi j hj=>?_⟩
 ·have h4:(wsN c.roots fun j=>lnkG c os G m 0 (refL os+j)).getD j 0=(lnkG c os G m 0 (refL os+j)).toNat:=by simp[wsN,List.getD,hj]
  obtain⟨v,h1,_⟩:=hlow (refL os+j)
  rw[h.root j hj,h4,h1,Int.toNat_natCast]
 ·obtain⟨j,_,rfl⟩:=List.mem_map.1 hv
  obtain⟨v,h1,h2⟩:=hlow (refL os+j)
  show(lnkG c os G m 0 (refL os+j)).toNat<_
  rw[h1]
  omega
 ·rw[h.root j hj]
  exact We c os G m _
 ·rw[h.name i j hi hj]
  exact We c os G m _
open Go.RowKit Go.OpenShut
section
variable {S S':DS} {c:Cfg} {n k u:Nat} {rs:List Nat} {os:List (Nat×Nat)}
theorem zB (c:Cfg) (k:Nat):c.frm 0≤c.frm k:=by unfold Cfg.frm;omega
def Stt (c:Cfg) (k:Nat) (os:List (Nat×Nat)) (z:Nat):Prop:=∃i,i<os.length/\z=c.frm k+posL os i
theorem Z7 {v:Nat} :okW c k os ((v:Nat):Int)=true↔v=0\/Stt c k os v:=by
 rw[xV]
 refine⟨fun h=>?_,fun h=>?_⟩
 ·rcases h with h|⟨i,h1,h2⟩
  ·exact .inl (by omega)
  ·exact .inr ⟨i,h1,by omega⟩
 ·rcases h with h|⟨i,h1,h2⟩
  ·exact .inl (by omega)
  ·exact .inr ⟨i,h1,by omega⟩
theorem Chn.obW (h:Chn S c k u os false) {i:Nat} (hi:i<os.length):Go.Proofs.YtcdhklgahepcaaaGreat.obW S c k u (c.frm k+posL os i)=some (nL os i,rL os i):=by
 obtain⟨h1,h2,h3⟩:=h.head i _ (zU hi)
 have h4:=xE hi
 have h5:=h.done rfl
 have h6:nL os i≤64:=h1
 have h7:rL os i≤nL os i:=h2
 have h3':S.now (c.frm k+posL os i)=((hdPk (nL os i) (rL os i):Nat):Int):=h3
 unfold Go.Proofs.YtcdhklgahepcaaaGreat.obW
 rw[h3',Int.toNat_natCast,XZ _ _ h6,if_pos ⟨by omega,by omega,vF _ _ h6 h7,by omega⟩,YW _ _ h6 h7]
theorem HepS.okR (h:HepS S c n k u rs os):Go.Proofs.YtcdhklgahepcaaaGreat.okR S c k os=true:=by
 have h2:=h.ok
 unfold ckC at h2
 rw[if_neg (by simp)]at h2
 cases h3:Go.Proofs.YtcdhklgahepcaaaGreat.okR S c k os with
 |true=>rfl
 |false=>rw[h3]at h2;simp at h2
theorem HepS.okN (h:HepS S c n k u rs os):Go.Proofs.YtcdhklgahepcaaaGreat.okN S c k os=true:=by
 have h2:=h.ok
 unfold ckC at h2
 rw[if_neg (by simp),h.okR]at h2
 cases h3:Go.Proofs.YtcdhklgahepcaaaGreat.okN S c k os with
 |true=>rfl
 |false=>rw[h3]at h2;simp at h2
theorem HepS.root_ok (h:HepS S c n k u rs os) {j:Nat} (hj:j<c.roots):rs.getD j 0=0\/Stt c k os (rs.getD j 0):=by
 have h1:=wW.1 h.okR j hj
 rw[h.root j hj]at h1
 exact Z7.1 h1
theorem HepS.name_ok (h:HepS S c n k u rs os) {i j:Nat} (hi:i<os.length) (hj:j<rL os i):∃v:Nat,S.now (c.frm k+posL os i+1+j)=(v:Int)/\(v=0\/Stt c k os v):=by
 have h1:=zQ.1 h.okN i hi j hj
 rcases xV.1 h1 with h2|⟨t,h2,h3⟩
 ·exact⟨0,by rw[h2];rfl,.inl rfl⟩
 ·exact⟨_,h3,.inr ⟨t,h2,rfl⟩⟩
theorem Stt.lt (h:HepS S c n k u rs os) {z:Nat} (hz:Stt c k os z):c.frm k≤z/\z<c.frm k+u/\z≠0:=by
 obtain⟨i,h1,rfl⟩:=hz
 have h2:=xE h1
 have h3:=h.chn.le
 have h4:=xK (c:=c) k
 omega
theorem HepS.field (h:HepS S c n k u rs os) {i o:Nat} {v:Nat} (hi:i<os.length) (ho:o<nL os i) (hv:v<18446744073709551616) (hn:o<rL os i->v=0\/Stt c k os v)
  (hS:∀j,c.act≤j->j<c.frm k+u->S'.now j=if j=c.frm k+posL os i+1+o then(v:Int)else S.now j):HepS S' c n k u rs os:=by
 have h2:=xE hi
 have h3:=h.chn.le
 have h4:=xK (c:=c) k
 have h5:=xH c
 have hz:=zB c k
 have hb:∀j,c.act≤j->j<c.root c.roots->S'.now j=S.now j:=fun j a b=>by rw[hS j a (by omega),if_neg (by omega)]
 refine⟨by rw[hb _ (by omega) (by omega)];exact h.act,by rw[hb _ (by omega) (by omega)];exact h.used,h.rl,fun j hj=>?_,h.rb,h.k1,⟨fun i hi=>?_,fun j a b=>?_⟩,⟨h.chn.fits,fun t x hx=>?_,h.chn.done,fun e=>by cases e⟩,ZD (fun j hj=>?_) fun t ht j hj=>?_⟩
 ·rw[hb _ (by unfold Cfg.root;omega) (by unfold Cfg.root;omega)]
  exact h.root j hj
 ·rw[hb _ (by unfold Cfg.root;omega) (by unfold Cfg.root;omega)]
  exact h.wd.1 i hi
 ·rw[hS j (by omega) b]
  split
  ·exact⟨v,rfl,hv⟩
  ·exact h.wd.2 j a b
 ·obtain⟨g1,g2,g3⟩:=h.chn.head t x hx
  have ht:=(List.getElem?_eq_some_iff.1 hx).1
  have g4:=xE ht
  refine⟨g1,g2,?_⟩
  rw[hS _ (by omega) (by omega),if_neg]
  ·exact g3
  ·intro e
   have h6:=zK (os:=os) ht hi (j:=0) (j':=1+o) (by omega) (by omega) (by omega)
   omega
 ·rw[hb _ (by unfold Cfg.root;omega) (by unfold Cfg.root;omega)]
  exact wW.1 h.okR j hj
 ·have g4:=xE ht
  obtain⟨e1,e2,_⟩:=h.chn.head t _ (zU ht)
  have e3:rL os t≤nL os t:=e2
  rw[hS _ (by omega) (by omega)]
  by_cases e:c.frm k+posL os t+1+j=c.frm k+posL os i+1+o
  ·rw[if_pos e]
   have h6:=zK (os:=os) ht hi (j:=1+j) (j':=1+o) (by omega) (by omega) (by omega)
   obtain⟨rfl,h7⟩:=h6
   exact Z7.2 (hn (by omega))
  ·rw[if_neg e]
   exact zQ.1 h.okN t ht j hj
theorem HepS.setRoot (h:HepS S c n k u rs os) {i v:Nat} (hi:i<c.roots) (hv:v=0\/Stt c k os v) (hv2:v<9223372036854775808)
  (hS:∀j,c.act≤j->j<c.frm k+u->S'.now j=if j=c.root i then(v:Int)else S.now j):HepS S' c n k u (rs.set i v) os:=by
 have h3:=h.chn.le
 have h4:=xK (c:=c) k
 have h5:=xH c
 have hz:=zB c k
 have hg:∀j,j<c.roots->(rs.set i v).getD j 0=if j=i then v else rs.getD j 0:=fun j hj=>by
  have hl:=h.rl
  rw[List.getD_eq_getElem?_getD,List.getD_eq_getElem?_getD,List.getElem?_set]
  by_cases e:i=j
  ·subst e;rw[if_pos rfl,if_pos (by omega),if_pos rfl];rfl
  ·rw[if_neg e,if_neg (fun e'=>e e'.symm)]
 have hro:∀j,j<c.roots->S'.now (c.root j)=(((rs.set i v).getD j 0:Nat):Int):=fun j hj=>by
  rw[hS _ (by unfold Cfg.root;omega) (by unfold Cfg.root;omega),hg j hj]
  by_cases e:j=i
  ·rw[if_pos (by rw[e]),if_pos e]
  ·rw[if_neg (by unfold Cfg.root;omega),if_neg e]
   exact h.root j hj
 have hb:∀j,c.frm k≤j->j<c.frm k+u->S'.now j=S.now j:=fun j a b=>by rw[hS j (by omega) b,if_neg (by unfold Cfg.root;omega)]
 have hrb:∀w∈rs.set i v,w<9223372036854775808:=fun w hw=>by
  rcases List.mem_or_eq_of_mem_set hw with h6|h6
  ·exact h.rb w h6
  ·rw[h6];exact hv2
 refine⟨by rw[hS _ (by omega) (by omega),if_neg (by unfold Cfg.root;omega)];exact h.act,by rw[hS _ (by omega) (by omega),if_neg (by unfold Cfg.root;omega)];exact h.used,by rw[List.length_set];exact h.rl,hro,hrb,h.k1,⟨fun j hj=>⟨_,hro j hj,?_⟩,fun j a b=>?_⟩,h.chn.same fun j hj=>hb _ (by omega) (by omega),ZD (fun j hj=>?_) fun t ht j hj=>?_⟩
 ·rw[hg j hj]
  split
  ·omega
  ·have h6:=h.rb (rs.getD j 0) (by rw[List.getD_eq_getElem?_getD,List.getElem?_eq_getElem (by rw[h.rl];exact hj)];exact List.getElem_mem _)
   omega
 ·rw[hb j a b]
  exact h.wd.2 j a b
 ·rw[hro j hj,Z7,hg j hj]
  split
  ·exact hv
  ·exact h.root_ok hj
 ·have g4:=xE ht
  obtain⟨e1,e2,_⟩:=h.chn.head t _ (zU ht)
  have e3:rL os t≤nL os t:=e2
  rw[hb _ (by omega) (by omega)]
  exact zQ.1 h.okN t ht j hj
theorem xeN {l:List (Nat×Nat)} {x:Nat×Nat} {i:Nat} (hi:i<l.length):nL (l++ [x]) i=nL l i/\rL (l++ [x]) i=rL l i:=by
 unfold nL rL
 rw[List.getD_eq_getElem?_getD,List.getD_eq_getElem?_getD,List.getElem?_append_left hi]
 exact⟨rfl,rfl⟩
theorem xdR {l:List (Nat×Nat)} {x:Nat×Nat} :nL (l++ [x]) l.length=x.1/\rL (l++ [x]) l.length=x.2:=by
 unfold nL rL
 rw[List.getD_eq_getElem?_getD,List.getElem?_append_right (Nat.le_refl _)]
 simp
theorem Stt.app {x:Nat×Nat} {z:Nat} (h:Stt c k os z):Stt c k (os++ [x]) z:=by
 obtain⟨i,h1,h2⟩:=h
 exact⟨i,by simp;omega,by rw[vD _ (by omega)];exact h2⟩
theorem HepS.alloc (h:HepS S c n k u rs os) {nw r:Nat} (hnw:nw≤64) (hr:r≤nw) (hsp:u+(nw+1)≤c.space) (hS:∀j,c.act≤j->j<c.frm k+c.space->S'.now j=if j=c.act+1 then((u+(nw+1):Nat):Int)else if j=c.frm k+u then((hdPk nw r:Nat):Int)else if c.frm k+u<j/\j≤c.frm k+u+nw then 0 else S.now j):
  HepS S' c n k (u+(nw+1)) rs (os++ [(nw,r)]):=by
 have h3:=h.chn.le
 have h3':=h.chn.done rfl
 have h4:=xK (c:=c) k
 have h5:=xH c
 have hz:=zB c k
 have hsm:lenL (os++ [(nw,r)])=u+(nw+1):=by rw[Xr,h3'];simp[lenL]
 have hb:∀j,c.frm k≤j->j<c.frm k+u->S'.now j=S.now j:=fun j a b=>by rw[hS j (by omega) (by omega),if_neg (by omega),if_neg (by omega),if_neg (by omega)]
 have hro:∀j,j<c.roots->S'.now (c.root j)=S.now (c.root j):=fun j hj=>by rw[hS _ (by unfold Cfg.root;omega) (by unfold Cfg.root;omega),if_neg (by unfold Cfg.root;omega),if_neg (by unfold Cfg.root;omega),if_neg (by unfold Cfg.root;omega)]
 have hpos:posL (os++ [(nw,r)]) os.length=u:=by rw[Z0,h3']
 have hpk:hdPk nw r<18446744073709551616:=xaU hnw hr
 refine⟨by rw[hS _ (by omega) (by omega),if_neg (by omega),if_neg (by omega),if_neg (by omega)];exact h.act,by rw[hS _ (by omega) (by omega),if_pos rfl],h.rl,fun j hj=>by rw[hro j hj];exact h.root j hj,h.rb,h.k1,⟨fun j hj=>by rw[hro j hj];exact h.wd.1 j hj,fun j a b=>?_⟩,⟨hsp,fun t x hx=>?_,fun _=>hsm,fun e=>by cases e⟩,ZD (fun j hj=>?_) fun t ht j hj=>?_⟩
 ·by_cases e:j<c.frm k+u
  ·rw[hb j a e];exact h.wd.2 j a e
  ·rw[hS j (by omega) (by omega),if_neg (by omega)]
   split
   ·exact⟨_,rfl,hpk⟩
   ·rw[if_pos (by omega)];exact⟨0,rfl,by omega⟩
 ·have ht:=(List.getElem?_eq_some_iff.1 hx).1
  rw[List.length_append,List.length_singleton]at ht
  by_cases e:t<os.length
  ·rw[List.getElem?_append_left e]at hx
   obtain⟨g1,g2,g3⟩:=h.chn.head t x hx
   have g4:=xE e
   refine⟨g1,g2,?_⟩
   rw[vD _ (by omega),hb _ (by omega) (by omega)]
   exact g3
  ·obtain rfl:t=os.length:=by omega
   rw[List.getElem?_append_right (Nat.le_refl _),Nat.sub_self]at hx
   injection hx with hx
   subst hx
   refine⟨hnw,hr,?_⟩
   rw[hpos,hS _ (by omega) (by omega),if_neg (by omega),if_pos rfl]
 ·rw[hro j hj]
  rcases xV.1 (wW.1 h.okR j hj)with g|⟨t,g1,g2⟩
  ·exact xV.2 (.inl g)
  ·exact xV.2 (.inr ⟨t,by simp;omega,by rw[vD _ (by omega)];exact g2⟩)
 ·rw[List.length_append,List.length_singleton]at ht
  by_cases e:t<os.length
  ·rw[(xeN e).2]at hj
   have g4:=xE e
   obtain⟨e1,e2,_⟩:=h.chn.head t _ (zU e)
   have e3:rL os t≤nL os t:=e2
   rw[vD _ (by omega),hb _ (by omega) (by omega)]
   rcases xV.1 (zQ.1 h.okN t e j hj)with g|⟨t',g1,g2⟩
   ·exact xV.2 (.inl g)
   ·exact xV.2 (.inr ⟨t',by simp;omega,by rw[vD _ (by omega)];exact g2⟩)
  ·obtain rfl:t=os.length:=by omega
   rw[xdR.2]at hj
   have hj':j<r:=hj
   rw[hpos,hS _ (by omega) (by omega),if_neg (by omega),if_neg (by omega),if_pos (by omega)]
   exact xV.2 (.inl rfl)
end
end Go.Proofs.YtcdhklgahepcaaaGreat
