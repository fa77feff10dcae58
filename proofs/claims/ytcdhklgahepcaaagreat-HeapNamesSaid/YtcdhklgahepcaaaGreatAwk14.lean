import Derived.Test.YtcdhklgahepcaaaGreatRob
import Derived.Test.YtcdhklgahepcaaaGreatAwk13
import Derived.Deep.RegionHeld3
set_option maxHeartbeats 4000000
set_option maxRecDepth 100000
namespace Go.Proofs.YtcdhklgahepcaaaGreat
open Go.RowKit Go.OpenShut
def plC (S:DS) (c:Cfg) (k:Nat) (LS:List Nat) (t:Nat):Nat:=c.frm (1-k)+szF S (LS.take t)
def wtC (S:DS) (c:Cfg) (k:Nat) (LS:List Nat) (v:Nat):Nat:=if v∈LS then plC S c k LS (LS.idxOf v)else 0
structure Cpd (S S':DS) (c:Cfg) (k:Nat) (LS:List Nat):Prop where
 head:∀t x,LS[t]? =some x->S'.now (plC S c k LS t)=S.now x
 name:∀t x,LS[t]? =some x->∀i,i<hdR (S.now x).toNat->S'.now (plC S c k LS t+1+i)=((wtC S c k LS (S.now (x+1+i)).toNat:Nat):Int)
 num:∀t x,LS[t]? =some x->∀i,hdR (S.now x).toNat≤i->i<hdN (S.now x).toNat->S'.now (plC S c k LS t+1+i)=S.now (x+1+i)
 rest:∀j,¬(c.frm (1-k)≤j/\j<c.frm (1-k)+szF S LS)->S'.now j=S.now j
section
variable {S S':DS} {c:Cfg} {k u:Nat} {ws LS:List Nat}
theorem xbP {t x:Nat} (h:LS[t]? =some x):szF S (LS.take (t+1))=szF S (LS.take t)+(hdN (S.now x).toNat+1):=by
 rw[List.take_add_one,h,zY]
 show _+szF S [x]=_
 rw[xC]
 rfl
theorem Ju {t x:Nat} (h:LS[t]? =some x):plC S c k LS (t+1)=plC S c k LS t+(hdN (S.now x).toNat+1):=by
 unfold plC
 rw[xbP h]
 omega
theorem xdt (S:DS) (a b:List Nat):szF S a≤szF S (a++b):=by rw[zY];omega
theorem WB {s t:Nat} (h:s≤t):szF S (LS.take s)≤szF S (LS.take t):=by
 obtain⟨d,rfl⟩:∃d,t=s+d:=⟨t-s,by omega⟩
 rw[List.take_add]
 exact xdt S _ _
theorem xeH {s t:Nat} (h:s≤t):plC S c k LS s≤plC S c k LS t:=by
 unfold plC
 have:=WB (S:=S) (LS:=LS) h
 omega
theorem WQ {s t x:Nat} (h:LS[s]? =some x) (hst:s<t):plC S c k LS s+(hdN (S.now x).toNat+1)≤plC S c k LS t:=by
 rw[<-Ju h]
 exact xeH hst
theorem zP {t x:Nat} (h:LS[t]? =some x):plC S c k LS t+(hdN (S.now x).toNat+1)≤c.frm (1-k)+szF S LS:=by
 rw[<-Ju h]
 unfold plC
 have h1:=WB (S:=S) (LS:=LS) (s:=t+1) (t:=max (t+1) LS.length) (by omega)
 rw[List.take_of_length_le (i:=max (t+1) LS.length) (by omega)]at h1
 omega
theorem WR (t:Nat):c.frm (1-k)≤plC S c k LS t:=by unfold plC;omega
theorem xdM {s t x y:Nat} (hs:LS[s]? =some x) (ht:LS[t]? =some y) (h:plC S c k LS s=plC S c k LS t):s=t:=by
 rcases Nat.lt_trichotomy s t with h1|h1|h1
 ·have:=WQ (S:=S) (c:=c) (k:=k) hs h1;omega
 ·exact h1
 ·have:=WQ (S:=S) (c:=c) (k:=k) ht h1;omega
theorem xdL (t:Nat):0<plC S c k LS t:=by
 have h1:=xK (c:=c) (1-k)
 have h2:=WR (S:=S) (c:=c) (k:=k) (LS:=LS) t
 omega
theorem yE {x:Nat} (h:x∈LS):LS[LS.idxOf x]? =some x:=by
 rw[List.getElem?_eq_getElem (List.idxOf_lt_length_iff.2 h)]
 congr 1
 exact List.getElem_idxOf _
theorem xeV (hn:LS.Nodup) {t x:Nat} (h:LS[t]? =some x):LS.idxOf x=t:=by
 have h1:=yE (List.mem_of_getElem? h)
 obtain⟨h2,e2⟩:=List.getElem?_eq_some_iff.1 h
 obtain⟨h3,e3⟩:=List.getElem?_eq_some_iff.1 h1
 rcases Nat.lt_trichotomy (LS.idxOf x) t with h4|h4|h4
 ·exact absurd (e3.trans e2.symm) (List.pairwise_iff_getElem.1 hn _ _ h3 h2 h4)
 ·exact h4
 ·exact absurd (e2.trans e3.symm) (List.pairwise_iff_getElem.1 hn _ _ h2 h3 h4)
theorem yT (hn:LS.Nodup) {t x:Nat} (h:LS[t]? =some x):wtC S c k LS x=plC S c k LS t:=by
 unfold wtC
 rw[if_pos (List.mem_of_getElem? h),xeV hn h]
theorem wM {v:Nat} (h:v∉LS):wtC S c k LS v=0:=if_neg h
theorem XB {v:Nat} :wtC S c k LS v≠0↔v∈LS:=by
 unfold wtC
 split
 ·rename_i h
  have:=xdL (S:=S) (c:=c) (k:=k) (LS:=LS) (LS.idxOf v)
  exact⟨fun _=>h,fun _=>by omega⟩
 ·rename_i h
  exact⟨fun h'=>absurd rfl h',fun h'=>absurd h' h⟩
theorem ZO (hn:LS.Nodup) {v w:Nat} (hv:v∈LS) (h:wtC S c k LS v=wtC S c k LS w):v=w:=by
 have hw:w∈LS:=XB.1 (by rw[<-h];exact XB.2 hv)
 have h1:=yE hv
 have h2:=yE hw
 rw[yT hn h1,yT hn h2]at h
 have h3:=xdM h1 h2 h
 rw[h3,h2]at h1
 injection h1 with h1
 exact h1.symm
theorem Cpd.ob (h:Cpd S S' c k LS) (hob:∀x∈LS,(obW S c k u x).isSome=true) {t x:Nat} (hx:LS[t]? =some x):obW S' c (1-k) (szF S LS) (plC S c k LS t)=some (hdN (S.now x).toNat,hdR (S.now x).toNat):=by
 obtain⟨⟨n,r⟩,hnr⟩:=Option.isSome_iff_exists.1 (hob x (List.mem_of_getElem? hx))
 have hh:isHd (S.now x).toNat=true:=by
  unfold obW at hnr
  split at hnr
  ·rename_i h1;exact h1.2.2.1
  ·cases hnr
 have h1:=h.head t x hx
 have h2:=zP (S:=S) (c:=c) (k:=k) hx
 have h3:=WR (S:=S) (c:=c) (k:=k) (LS:=LS) t
 unfold obW
 rw[h1,if_pos ⟨h3,by omega,hh,h2⟩]
theorem Cpd.nm (h:Cpd S S' c k LS) {t x:Nat} (hx:LS[t]? =some x):nmW S' (plC S c k LS t)=(nmW S x).map (wtC S c k LS):=by
 have h1:=h.head t x hx
 unfold nmW
 rw[h1,List.map_map]
 refine List.map_congr_left fun j hj=>?_
 have hj:=List.mem_range.1 hj
 show(S'.now (plC S c k LS t+1+j)).toNat=wtC S c k LS ((S.now (x+1+j)).toNat)
 rw[h.name t x hx j hj,Int.toNat_natCast]
def Fit (S:DS) (c:Cfg) (k u:Nat) (LS:List Nat) (w:Nat):Prop:=(obW S c k u w).isSome=true->w∈LS
theorem zx (S:DS) (c:Cfg) (k u:Nat):(obW S c k u 0).isSome=false:=by
 rw[Bool.eq_false_iff]
 intro h
 have h1:=YJ h
 have h2:=xK (c:=c) k
 omega
theorem Cpd.see (h:Cpd S S' c k LS) (hn:LS.Nodup) (hob:∀x∈LS,(obW S c k u x).isSome=true) {out:List Nat} (ho:∀x∈out,x∈LS) {w:Nat} (hw:Fit S c k u LS w):
  seeW S' c (1-k) (szF S LS) (out.map (wtC S c k LS)) (wtC S c k LS w)=(seeW S c k u out w).map (wtC S c k LS):=by
 by_cases hwL:w∈LS
 ·have h1:=yE hwL
  have h2:(obW S' c (1-k) (szF S LS) (wtC S c k LS w)).isSome=true:=by rw[yT hn h1,h.ob hob h1];rfl
  by_cases hwo:w∈out
  ·rw[Xf hwo,Xf (List.mem_map.2 ⟨w,hwo,rfl⟩)]
  ·rw[wh (hob w hwL) hwo,wh h2 fun hm=>?_,List.map_append]
   ·rfl
   ·obtain⟨v,hv,he⟩:=List.mem_map.1 hm
    exact hwo (ZO hn (ho v hv) he▸hv)
 ·have h1:(obW S c k u w).isSome=false:=by
   rw[Bool.eq_false_iff]
   exact fun h'=>hwL (hw h')
  rw[wM hwL,yZ h1,yZ (zx _ _ _ _)]
theorem Cpd.seeL (h:Cpd S S' c k LS) (hn:LS.Nodup) (hob:∀x∈LS,(obW S c k u x).isSome=true):∀(l out:List Nat),(∀x∈out,x∈LS)->(∀w∈l,Fit S c k u LS w)->
  Go.Proofs.YtcdhklgahepcaaaGreat.seeL S' c (1-k) (szF S LS) (out.map (wtC S c k LS)) (l.map (wtC S c k LS))=(Go.Proofs.YtcdhklgahepcaaaGreat.seeL S c k u out l).map (wtC S c k LS)
 | [],out,_,_=>rfl
 |w::l,out,ho,hl=>by
  rw[List.map_cons,yo,yo,h.see hn hob ho (hl w (by simp))]
  refine h.seeL hn hob l _ (fun x hx=>?_) fun w' hw'=>hl w' (by simp[hw'])
  rcases Ye.1 hx with hx|⟨rfl,hx⟩
  ·exact ho x hx
  ·exact hl _ (by simp) hx
theorem Cpd.rcW (h:Cpd S S' c k LS) (hLS:LS=rcF S c k u ws) (hnm:∀x∈LS,∀w∈nmW S x,Fit S c k u LS w) (j:Nat):Go.Proofs.YtcdhklgahepcaaaGreat.rcW S' c (1-k) (szF S LS) (ws.map (wtC S c k LS)) j=(Go.Proofs.YtcdhklgahepcaaaGreat.rcW S c k u ws j).map (wtC S c k LS):=by
 have hn:LS.Nodup:=by rw[hLS];exact zg
 have hob:∀x∈LS,(obW S c k u x).isSome=true:=fun x hx=>by rw[hLS]at hx;exact zJ hx
 have hin:∀j x,x∈Go.Proofs.YtcdhklgahepcaaaGreat.rcW S c k u ws j->x∈LS:=fun j x hx=>by
  rw[hLS,Wd]
  exact YA j x hx
 have hws:∀w∈ws,Fit S c k u LS w:=fun w hw ho=>by
  rw[hLS,Wd]
  exact .here hw ho
 induction j with
 |zero=>exact h.seeL hn hob ws [] (by simp) hws
 |succ j ih=>
  cases hs:(Go.Proofs.YtcdhklgahepcaaaGreat.rcW S c k u ws j)[j]? with
  |none=>
   have h1:=List.getElem?_eq_none_iff.1 hs
   rw[yL h1,yL (by rw[ih,List.length_map];exact h1),ih]
  |some x=>
   have hxL:=hin j x (List.mem_of_getElem? hs)
   have h1:=yE hxL
   have h2:(Go.Proofs.YtcdhklgahepcaaaGreat.rcW S' c (1-k) (szF S LS) (ws.map (wtC S c k LS)) j)[j]? =some (wtC S c k LS x):=by rw[ih,List.getElem?_map,hs];rfl
   have h3:nmW S' (wtC S c k LS x)=(nmW S x).map (wtC S c k LS):=by rw[yT hn h1,h.nm h1]
   rw[yg hs,yg h2,ih,h3]
   exact h.seeL hn hob _ _ (fun y hy=>hin j y hy) (hnm x hxL)
theorem Cpd.rcF (h:Cpd S S' c k LS) (hLS:LS=Go.Proofs.YtcdhklgahepcaaaGreat.rcF S c k u ws) (hnm:∀x∈LS,∀w∈nmW S x,Fit S c k u LS w):Go.Proofs.YtcdhklgahepcaaaGreat.rcF S' c (1-k) (szF S LS) (ws.map (wtC S c k LS))=LS.map (wtC S c k LS):=by
 have hl:(Go.Proofs.YtcdhklgahepcaaaGreat.rcW S c k u ws u).length≤u:=vQ u
 have h1:=h.rcW hLS hnm u
 rw[<-zO (i:=u) (by rw[h1,List.length_map];exact hl),h1]
 show(Go.Proofs.YtcdhklgahepcaaaGreat.rcF S c k u ws).map _=_
 rw[<-hLS]
theorem Cpd.sz (h:Cpd S S' c k LS) (hn:LS.Nodup):∀l:List Nat,(∀x∈l,x∈LS)->szF S' (l.map (wtC S c k LS))=szF S l
 | [],_=>rfl
 |x::l,hl=>by
  have h1:=yE (hl x (by simp))
  rw[List.map_cons,xC,xC,h.sz hn l fun y hy=>hl y (by simp[hy]),yT hn h1,h.head _ _ h1]
end
open Go.RowKit Go.OpenShut
def xdj (LS PS:List Nat) (v w:Nat):Prop:=(v=0/\w=0)\/∃t:Nat,LS[t]? =some v/\PS[t]? =some w
structure SamI (S1 S2:DS) (c:Cfg) (k1 u1 k2 u2:Nat) (LS PS:List Nat):Prop where
 len:PS.length=LS.length
 nl:LS.Nodup
 np:PS.Nodup
 ob:∀(t x y:Nat),LS[t]? =some x->PS[t]? =some y->∃n r,obW S1 c k1 u1 x=some (n,r)/\obW S2 c k2 u2 y=some (n,r)/\
  (∀i,i<r->xdj LS PS (S1.now (x+1+i)).toNat (S2.now (y+1+i)).toNat)/\(∀i,r≤i->i<n->S1.now (x+1+i)=S2.now (y+1+i))
section
variable {S1 S2:DS} {c:Cfg} {k1 u1 k2 u2:Nat} {LS PS:List Nat}
end
open Go.RowKit Go.OpenShut
section
variable {S S' T:DS} {c:Cfg} {k u:Nat} {LS:List Nat}
theorem yN {x:Nat} (h:(obW S c k u x).isSome=true):c.frm k≤x/\x<c.frm k+u/\isHd (S.now x).toNat=true/\x+(hdN (S.now x).toNat+1)≤c.frm k+u/\obW S c k u x=some (hdN (S.now x).toNat,hdR (S.now x).toNat):=by
 unfold obW at h
 split at h
 ·rename_i h1
  exact⟨h1.1,h1.2.1,h1.2.2.1,h1.2.2.2,if_pos h1⟩
 ·cases h
theorem YI (hT:∀j,c.frm k≤j->j<c.frm k+u->T.now j=S.now j) (x:Nat):obW T c k u x=obW S c k u x:=by
 by_cases h:c.frm k≤x/\x<c.frm k+u
 ·unfold obW
  rw[hT x h.1 h.2]
 ·unfold obW
  rw[if_neg (fun h'=>h ⟨h'.1,h'.2.1⟩),if_neg (fun h'=>h ⟨h'.1,h'.2.1⟩)]
theorem xaj {v:Nat} (hv:v=0\/v∈LS):xdj LS (LS.map (wtC S c k LS)) v (wtC S c k LS v):=by
 by_cases hm:v∈LS
 ·have h1:=yE hm
  exact .inr ⟨LS.idxOf v,h1,by rw[List.getElem?_map,h1];rfl⟩
 ·rcases hv with rfl|hv
  ·exact .inl ⟨rfl,wM hm⟩
  ·exact absurd hv hm
theorem Cpd.sam (h:Cpd S S' c k LS) (hn:LS.Nodup) (hob:∀x∈LS,(obW S c k u x).isSome=true) (hnm:∀x∈LS,∀w∈nmW S x,w=0\/w∈LS)
  (hT:∀j,c.frm k≤j->j<c.frm k+u->T.now j=S.now j):SamI T S' c k u (1-k) (szF S LS) LS (LS.map (wtC S c k LS)):=by
 refine⟨by simp,hn,?_,?_⟩
 ·refine List.pairwise_map.2 (hn.imp_of_mem ?_)
  intro x y hx hy hne he
  exact hne (ZO hn hx he)
 ·intro t x y hx hy
  rw[List.getElem?_map,hx]at hy
  have hy:=Option.some.inj hy
  rw[yT hn hx]at hy
  subst hy
  obtain⟨h1,h2,h3,h4,h5⟩:=yN (hob x (List.mem_of_getElem? hx))
  have h6:=yu h3
  refine⟨_,_,by rw[YI hT];exact h5,h.ob hob hx,fun i hi=>?_,fun i hi1 hi2=>?_⟩
  ·rw[hT _ (by omega) (by omega),h.name t x hx i hi,Int.toNat_natCast]
   exact xaj (hnm x (List.mem_of_getElem? hx) _ (List.mem_map.2 ⟨i,List.mem_range.2 hi,rfl⟩))
  ·rw[hT _ (by omega) (by omega),h.num t x hx i hi1 hi2]
end
open Go.RowKit Go.OpenShut
def NmdP (S S':DS) (c:Cfg) (os:List (Nat×Nat)) (K I:Nat):Prop:=
 (∀k i,k<os.length->rL os k≤i->i<nL os k->(k<K\/k=K/\i<I)->S'.now (c.frm 0+posL os k+1+i)=((1000*k+i:Nat):Int))/\
 (∀j,(∀k i,k<os.length->rL os k≤i->i<nL os k->(k<K\/k=K/\i<I)->j≠c.frm 0+posL os k+1+i)->S'.now j=S.now j)
theorem Zv (S:DS) (c:Cfg) (os:List (Nat×Nat)):NmdP S S c os 0 0:=⟨fun k i _ _ _ h=>by omega,fun _ _=>rfl⟩
theorem NmdP.put {S S' S2:DS} {c:Cfg} {os:List (Nat×Nat)} {K I:Nat} (h:NmdP S S' c os K I) (hK:K<os.length) (h1:rL os K≤I) (h2:I<nL os K)
  (hS:∀j,S2.now j=if j=c.frm 0+posL os K+1+I then((1000*K+I:Nat):Int)else S'.now j):NmdP S S2 c os K (I+1):=by
 refine⟨fun k i g1 g2 g3 g4=>?_,fun j hj=>?_⟩
 ·rw[hS]
  by_cases he:c.frm 0+posL os k+1+i=c.frm 0+posL os K+1+I
  ·have h3:=zK (os:=os) g1 hK (j:=i+1) (j':=I+1) (by omega) (by omega) (by omega)
   rw[if_pos he,h3.1,show i=I by omega]
  ·rw[if_neg he]
   refine h.1 k i g1 g2 g3 ?_
   rcases g4 with g4|⟨rfl,g4⟩
   ·exact .inl g4
   ·refine .inr ⟨rfl,?_⟩
    by_cases hi:i=I
    ·subst hi;exact absurd rfl he
    ·omega
 ·rw[hS,if_neg (hj K I hK h1 h2 (.inr ⟨rfl,by omega⟩))]
  exact h.2 j fun k i g1 g2 g3 g4=>hj k i g1 g2 g3 (by omega)
theorem NmdP.off {S S':DS} {c:Cfg} {os:List (Nat×Nat)} {K I:Nat} (h:NmdP S S' c os K I) {k t:Nat} (hk:k<os.length) (ht:t≤nL os k) (hr:t=0\/t≤rL os k):S'.now (c.frm 0+posL os k+t)=S.now (c.frm 0+posL os k+t):=by
 refine h.2 _ fun k' i h1 h2 h3 _ e=>?_
 have h4:=zK (os:=os) hk h1 (j:=t) (j':=i+1) ht (by omega) (by omega)
 obtain⟨rfl,h5⟩:=h4
 omega
theorem NmdP.ob {S S':DS} {c:Cfg} {n:Nat} {os:List (Nat×Nat)} {g:Nat->Int} {K I:Nat} (h:NmdP S S' c os K I) (hL:LnkS c n os g S) (hs:c.space≤4096) (w:Nat):obW S' c 0 (lenL os) w=obW S c 0 (lenL os) w:=by
 by_cases hin:c.frm 0≤w/\w<c.frm 0+lenL os
 ·obtain⟨k,t,hk,ht,he⟩:=WP os (w-c.frm 0) (by omega)
  by_cases hr:t=0\/t≤rL os k
  ·have h1:=h.off hk (t:=t) (by omega) hr
   rw[show c.frm 0+posL os k+t=w by omega]at h1
   unfold obW
   rw[h1]
  ·have hi1:¬(isHd (S'.now w).toNat=true):=by
    obtain⟨i,rfl⟩:∃i,t=i+1:=⟨t-1,by omega⟩
    have hw:w=c.frm 0+posL os k+1+i:=by omega
    by_cases hd:k<K\/k=K/\i<I
    ·have h1:=h.1 k i hk (by omega) (by omega) hd
     rw[hw,h1,Int.toNat_natCast,XO]
     ·simp
     ·have h5:=wJ hL.few k
      have h6:=hL.fits
      have h7:=xdc os
      omega
    ·have h1:=h.2 w fun k' i' g1 g2 g3 g4 e=>by
      have h4:=zK (os:=os) hk g1 (j:=i+1) (j':=i'+1) (by omega) (by omega) (by omega)
      obtain⟨rfl,h5⟩:=h4
      exact hd (by omega)
     have h2:=hL.num k i hk (by omega) (by omega)
     rw[h1,hw,h2]
     exact(by decide:¬(isHd (0:Int).toNat=true))
   have hi2:¬(isHd (S.now w).toNat=true):=by
    obtain⟨i,rfl⟩:∃i,t=i+1:=⟨t-1,by omega⟩
    have h2:=hL.num k i hk (by omega) (by omega)
    rw[show c.frm 0+posL os k+1+i=w by omega]at h2
    rw[h2]
    decide
   unfold obW
   rw[if_neg (fun h=>hi1 h.2.2.1),if_neg (fun h=>hi2 h.2.2.1)]
 ·unfold obW
  rw[if_neg (fun h=>hin ⟨h.1,h.2.1⟩),if_neg (fun h=>hin ⟨h.1,h.2.1⟩)]
open Go.RowKit Go.OpenShut
structure RdyC (S:DS) (c:Cfg) (k u:Nat) (ws:List Nat):Prop where
 wd:∀j:Nat,c.frm k≤j->j<c.frm k+u->∃x:Nat,S.now j=(x:Int)/\x<18446744073709551616
 sz:szF S (rcF S c k u ws)≤c.space
 nm:∀x∈rcF S c k u ws,∀w∈nmW S x,w=0\/w∈rcF S c k u ws
section
variable {S S' T:DS} {c:Cfg} {k u:Nat} {ws LS:List Nat}
theorem RdyC.sam (h:RdyC S c k u ws) (hC:Cpd S S' c k (rcF S c k u ws)) (hT:∀j,c.frm k≤j->j<c.frm k+u->T.now j=S.now j):
  SamI T S' c k u (1-k) (szF S (rcF S c k u ws)) (rcF S c k u ws) ((rcF S c k u ws).map (wtC S c k (rcF S c k u ws))):=
 hC.sam zg (fun _ hx=>zJ hx) h.nm hT
theorem QK (S:DS):∀(LS:List Nat) (j:Nat),j<szF S LS->∃t x off,LS[t]? =some x/\off≤hdN (S.now x).toNat/\j=szF S (LS.take t)+off
 | [],j,h=>absurd h (Nat.not_lt_zero _)
 |y::l,j,h=>by
  rw[xC]at h
  by_cases hj:j≤hdN (S.now y).toNat
  ·exact⟨0,y,j,rfl,hj,by rw[List.take_zero];show j=0+j;omega⟩
  ·obtain⟨t,x,off,h1,h2,h3⟩:=QK S l (j-(hdN (S.now y).toNat+1)) (by omega)
   exact⟨t+1,x,off,h1,h2,by rw[List.take_succ_cons,xC];omega⟩
theorem RdyC.rc (h:RdyC S c k u ws) (hC:Cpd S S' c k (rcF S c k u ws)):
  rcF S' c (1-k) (szF S (rcF S c k u ws)) (ws.map (wtC S c k (rcF S c k u ws)))=(rcF S c k u ws).map (wtC S c k (rcF S c k u ws)):=
 hC.rcF rfl fun x hx w hw ho=>by
  rcases h.nm x hx w hw with rfl|h1
  ·rw[zx]at ho;cases ho
  ·exact h1
theorem RdyC.next (h:RdyC S c k u ws) (hs:c.frm (1-k)+c.space≤1000000) (hC:Cpd S S' c k (rcF S c k u ws)):RdyC S' c (1-k) (szF S (rcF S c k u ws)) (ws.map (wtC S c k (rcF S c k u ws))):=by
 have hrc:=h.rc hC
 have hn:(rcF S c k u ws).Nodup:=zg
 refine⟨fun j h1 h2=>?_,?_,?_⟩
 ·obtain⟨t,x,off,g1,g2,g3⟩:=QK S (rcF S c k u ws) (j-c.frm (1-k)) (by omega)
  obtain⟨f1,f2,f3,f4,_⟩:=yN (zJ (List.mem_of_getElem? g1))
  have hj:j=plC S c k (rcF S c k u ws) t+off:=by unfold plC;omega
  cases off with
  |zero=>rw[hj,Nat.add_zero,hC.head t x g1];exact h.wd x f1 f2
  |succ i=>
   rw[show j=plC S c k (rcF S c k u ws) t+1+i by omega]
   by_cases hi:i<hdR (S.now x).toNat
   ·rw[hC.name t x g1 i hi]
    refine⟨_,rfl,?_⟩
    unfold wtC
    split
    ·rename_i hm
     have h5:=zP (S:=S) (c:=c) (k:=k) (yE hm)
     have h6:=h.sz
     omega
    ·omega
   ·rw[hC.num t x g1 i (by omega) (by omega)]
    exact h.wd _ (by omega) (by omega)
 ·rw[hrc,hC.sz hn _ fun _ hx=>hx]
  exact h.sz
 ·rw[hrc]
  intro y hy w hw
  obtain⟨x,hx,rfl⟩:=List.mem_map.1 hy
  have h1:=yE hx
  rw[yT hn h1,hC.nm h1]at hw
  obtain⟨v,hv,rfl⟩:=List.mem_map.1 hw
  rcases h.nm x hx v hv with rfl|h2
  ·left
   refine wM fun h0=>?_
   have:=zJ h0
   rw[zx]at this
   cases this
  ·exact .inr (List.mem_map.2 ⟨v,h2,rfl⟩)
end
theorem NmdP.rdy {S S':DS} {c:Cfg} {n:Nat} {os:List (Nat×Nat)} {g:Nat->Int} {K I:Nat} (h:NmdP S S' c os K I) (hL:LnkS c n os g S) (hs:c.space≤4096) (hfr:c.frm 0+c.space≤n)
  (hg:∀q,∃v:Nat,g q=(v:Int)/\v<72057594037927936) (hgo:∀q,g q=0\/∃i,i<os.length/\g q=((c.frm 0+posL os i:Nat):Int)) (ws:List Nat):RdyC S' c 0 (lenL os) ws:=by
 have hfit:=hL.fits
 have hob:=h.ob hL hs
 have hst:∀x,(obW S' c 0 (lenL os) x).isSome=true->∃i,i<os.length/\x=c.frm 0+posL os i:=fun x hx=>QN.1 (hL.ob_st hg (by rw[<-hob];exact hx))
 have hhd:∀i,i<os.length->S'.now (c.frm 0+posL os i)=S.now (c.frm 0+posL os i):=fun i hi=>h.off hi (t:=0) (by omega) (.inl rfl)
 refine⟨fun j h1 h2=>?_,?_,?_⟩
 ·obtain⟨k,t,hk,ht,he⟩:=WP os (j-c.frm 0) (by omega)
  by_cases hd:∃k i,k<os.length/\rL os k≤i/\i<nL os k/\(k<K\/k=K/\i<I)/\j=c.frm 0+posL os k+1+i
  ·obtain⟨k,i,g1,g2,g3,g4,rfl⟩:=hd
   have:=wJ hL.few k
   have:=xdc os
   exact⟨1000*k+i,h.1 k i g1 g2 g3 g4,by omega⟩
  ·rw[h.2 j fun k i g1 g2 g3 g4 e=>hd ⟨k,i,g1,g2,g3,g4,e⟩]
   exact(hL.wd hs fun q=>by obtain⟨v,h3,h4⟩:=hg q;exact⟨v,h3,by omega⟩).sp j h1 (by omega)
 ·have h1:∀l:List Nat,(∀x∈l,(obW S' c 0 (lenL os) x).isSome=true)->szF S' l=szF S l:=by
   intro l
   induction l with
   |nil=>intro _;rfl
   |cons x l ih=>
    intro hl
    obtain⟨i,hi,rfl⟩:=hst x (hl x (by simp))
    rw[xC,xC,ih fun y hy=>hl y (by simp[hy]),hhd i hi]
  rw[h1 _ fun x hx=>zJ hx]
  exact Nat.le_trans (hL.sz_le hg zg fun x hx=>by rw[<-hob];exact zJ hx) hfit
 ·intro x hx w hw
  have hw0:=hw
  obtain⟨i,hi,rfl⟩:=hst x (zJ hx)
  obtain⟨j,hj,rfl⟩:=List.mem_map.1 hw
  have hj:=List.mem_range.1 hj
  have h2:=wJ hL.few i
  rw[hhd i hi,hL.head i hi,Int.toNat_natCast,YW _ _ (by omega) h2.2]at hj
  have h3:S'.now (c.frm 0+posL os i+1+j)=g (refB os i+j):=by
   have h4:=h.off hi (t:=j+1) (by omega) (.inr (by omega))
   rw[show c.frm 0+posL os i+(j+1)=c.frm 0+posL os i+1+j by omega]at h4
   rw[h4,hL.name i j hi hj]
  rw[h3]at hw0⊢
  rcases hgo (refB os i+j)with h5|⟨i',hi',h5⟩
  ·left;rw[h5];rfl
  ·right
   refine YD hx hw0 ?_
   rw[h5,Int.toNat_natCast,hob,hL.ob hi']
   rfl
open Go.RowKit Go.OpenShut
structure CpJ (S S':DS) (c:Cfg) (k u:Nat) (LS:List Nat) (n I:Nat):Prop where
 nd:LS.Nodup
 ob:∀x∈LS,(obW S c k u x).isSome=true
 head:∀t x,LS[t]? =some x->S'.now (plC S c k LS t)=S.now x
 name:∀t x,LS[t]? =some x->∀i,i<hdR (S.now x).toNat->(t<n\/t=n/\i<I)->S'.now (plC S c k LS t+1+i)=((wtC S c k LS (S.now (x+1+i)).toNat:Nat):Int)
 raw:∀t x,LS[t]? =some x->∀i,i<hdR (S.now x).toNat->¬(t<n\/t=n/\i<I)->S'.now (plC S c k LS t+1+i)=S.now (x+1+i)
 seen:∀t x,LS[t]? =some x->∀i,i<hdR (S.now x).toNat->(t<n\/t=n/\i<I)->(S.now (x+1+i)).toNat=0\/(S.now (x+1+i)).toNat∈LS
 num:∀t x,LS[t]? =some x->∀i,hdR (S.now x).toNat≤i->i<hdN (S.now x).toNat->S'.now (plC S c k LS t+1+i)=S.now (x+1+i)
 rest:∀j,¬(c.frm (1-k)≤j/\j<c.frm (1-k)+szF S LS)->S'.now j=S.now j
section
variable {S S' S'':DS} {c:Cfg} {k u n I:Nat} {LS:List Nat}
theorem xbf (S:DS) (c:Cfg) (k u:Nat):CpJ S S c k u [] 0 0:=by
 refine⟨by simp,by simp,?_,?_,?_,?_,?_,fun _ _=>rfl⟩<;>intro t x h<;>simp at h
theorem CpJ.scan (h:CpJ S S' c k u LS n I) {x:Nat} (hx:LS[n]? =some x) (hI:hdR (S.now x).toNat≤I):CpJ S S' c k u LS (n+1) 0:=by
 have key:∀t y,LS[t]? =some y->∀i,i<hdR (S.now y).toNat->((t<n+1\/t=n+1/\i<0)↔(t<n\/t=n/\i<I)):=fun t y hy i hi=>by
  constructor
  ·intro h1
   rcases Nat.lt_trichotomy t n with h2|h2|h2
   ·exact .inl h2
   ·refine .inr ⟨h2,?_⟩
    subst h2
    rw[hx]at hy
    cases hy
    omega
   ·omega
  ·intro h1;omega
 exact⟨h.nd,h.ob,h.head,fun t y hy i hi ht=>h.name t y hy i hi ((key t y hy i hi).1 ht),fun t y hy i hi ht=>h.raw t y hy i hi (fun h'=>ht ((key t y hy i hi).2 h')),
  fun t y hy i hi ht=>h.seen t y hy i hi ((key t y hy i hi).1 ht),h.num,h.rest⟩
theorem CpJ.fin (h:CpJ S S' c k u LS n I) (hn:LS.length≤n):Cpd S S' c k LS:=
 ⟨h.head,fun t x hx i hi=>h.name t x hx i hi (.inl (by have:=(List.getElem?_eq_some_iff.1 hx).1;omega)),h.num,h.rest⟩
theorem WY {y:Nat} (hn:LS.Nodup) (hy:y∉LS):(LS++ [y]).Nodup:=by
 rw[List.nodup_append]
 refine⟨hn,by simp,fun a ha b hb e=>hy ?_⟩
 have hb:b=y:=by simpa using hb
 rw[<-hb,<-e]
 exact ha
theorem wU {y:Nat} {t:Nat} (ht:t≤LS.length):plC S c k (LS++ [y]) t=plC S c k LS t:=by
 unfold plC
 rw[List.take_append_of_le_length ht]
theorem xdn {y v:Nat} (hn:LS.Nodup) (hy:y∉LS) (hv:v=0\/v∈LS) (hy0:y≠0):wtC S c k (LS++ [y]) v=wtC S c k LS v:=by
 by_cases hm:v∈LS
 ·have h1:=yE hm
  have h2:=(List.getElem?_eq_some_iff.1 h1).1
  have hn2:(LS++ [y]).Nodup:=WY hn hy
  rw[yT hn h1,yT hn2 (t:=LS.idxOf v) (by rw[List.getElem?_append_left h2];exact h1),wU (by omega)]
 ·rcases hv with rfl|hv
  ·rw[wM hm,wM (by simp[hm];exact fun e=>hy0 e.symm)]
  ·exact absurd hv hm
theorem CpJ.copy (h:CpJ S S' c k u LS n I) {y:Nat} (hy:y∉LS) (ho:(obW S c k u y).isSome=true) (hn:n≤LS.length) (hnI:n=LS.length->I=0)
  (hS:∀j,S''.now j=if plC S c k LS LS.length≤j/\j≤plC S c k LS LS.length+hdN (S.now y).toNat then S.now (y+(j-plC S c k LS LS.length))else S'.now j):CpJ S S'' c k u (LS++ [y]) n I:=by
 have hy0:y≠0:=fun e=>by rw[e,zx]at ho;cases ho
 have hlt:∀t x,LS[t]? =some x->t<LS.length:=fun t x hx=>(List.getElem?_eq_some_iff.1 hx).1
 have hall:plC S c k LS LS.length=c.frm (1-k)+szF S LS:=by unfold plC;rw[List.take_length]
 have hold:∀t x off,LS[t]? =some x->off≤hdN (S.now x).toNat->S''.now (plC S c k LS t+off)=S'.now (plC S c k LS t+off):=fun t x off hx hoff=>by
  have h1:=WQ (S:=S) (c:=c) (k:=k) hx (hlt t x hx)
  rw[hS,if_neg (by omega)]
 have hyn:=yu (yN ho).2.2.1
 have cases2:∀t x,(LS++ [y])[t]? =some x->(LS[t]? =some x/\t<LS.length)\/(t=LS.length/\x=y):=fun t x hx=>by
  by_cases ht:t<LS.length
  ·rw[List.getElem?_append_left ht]at hx
   exact .inl ⟨hx,ht⟩
  ·rw[List.getElem?_append_right (by omega)]at hx
   obtain⟨h1,h2⟩:=List.getElem?_eq_some_iff.1 hx
   simp at h1
   simp at h2
   exact .inr ⟨by omega,h2.symm⟩
 have hnew:∀off,off≤hdN (S.now y).toNat->S''.now (plC S c k LS LS.length+off)=S.now (y+off):=fun off hoff=>by
  rw[hS,if_pos (by omega),show plC S c k LS LS.length+off-plC S c k LS LS.length=off by omega]
 refine⟨?_,?_,?_,?_,?_,?_,?_,?_⟩
 ·exact WY h.nd hy
 ·intro x hx
  rcases List.mem_append.1 hx with hx|hx
  ·exact h.ob x hx
  ·rw[List.mem_singleton.1 hx];exact ho
 ·intro t x hx
  rcases cases2 t x hx with⟨hx,ht⟩|⟨rfl,rfl⟩
  ·rw[wU (by omega),<-h.head t x hx]
   exact hold t x 0 hx (by omega)
  ·rw[wU (by omega)]
   exact hnew 0 (by omega)
 ·intro t x hx i hi ht
  rcases cases2 t x hx with⟨hx,htl⟩|⟨rfl,rfl⟩
  ·have h1:=yu (yN (h.ob x (List.mem_of_getElem? hx))).2.2.1
   rw[wU (by omega),xdn h.nd hy (h.seen t x hx i hi ht) hy0,<-h.name t x hx i hi ht,Nat.add_assoc,hold t x (1+i) hx (by omega)]
  ·omega
 ·intro t x hx i hi ht
  rcases cases2 t x hx with⟨hx,htl⟩|⟨rfl,rfl⟩
  ·have h1:=yu (yN (h.ob x (List.mem_of_getElem? hx))).2.2.1
   rw[wU (by omega),<-h.raw t x hx i hi ht,Nat.add_assoc,hold t x (1+i) hx (by omega)]
  ·rw[wU (by omega),Nat.add_assoc,hnew (1+i) (by omega),Nat.add_assoc]
 ·intro t x hx i hi ht
  rcases cases2 t x hx with⟨hx,htl⟩|⟨rfl,rfl⟩
  ·rcases h.seen t x hx i hi ht with h1|h1
   ·exact .inl h1
   ·exact .inr (List.mem_append_left _ h1)
  ·omega
 ·intro t x hx i hi1 hi2
  rcases cases2 t x hx with⟨hx,htl⟩|⟨rfl,rfl⟩
  ·rw[wU (by omega),<-h.num t x hx i hi1 hi2,Nat.add_assoc,hold t x (1+i) hx (by omega)]
  ·rw[wU (by omega),Nat.add_assoc,hnew (1+i) (by omega),Nat.add_assoc]
 ·intro j hj
  rw[zY,xC]at hj
  have:szF S []=0:=rfl
  rw[hS,if_neg (by omega)]
  exact h.rest j (by omega)
theorem CpJ.turn (h:CpJ S S' c k u LS n I) {x:Nat} (hx:LS[n]? =some x) (hI:I<hdR (S.now x).toNat) (hv:(S.now (x+1+I)).toNat=0\/(S.now (x+1+I)).toNat∈LS)
  (hS:∀j,S''.now j=if j=plC S c k LS n+1+I then((wtC S c k LS (S.now (x+1+I)).toNat:Nat):Int)else S'.now j):CpJ S S'' c k u LS n (I+1):=by
 have hx0:=yu (yN (h.ob x (List.mem_of_getElem? hx))).2.2.1
 have hold:∀t y off,LS[t]? =some y->off≤hdN (S.now y).toNat->¬(t=n/\off=1+I)->S''.now (plC S c k LS t+off)=S'.now (plC S c k LS t+off):=fun t y off hy hoff hne=>by
  rw[hS,if_neg]
  intro e
  rcases Nat.lt_trichotomy t n with h1|h1|h1
  ·have:=WQ (S:=S) (c:=c) (k:=k) hy h1;omega
  ·exact hne ⟨h1,by subst h1;omega⟩
  ·have:=WQ (S:=S) (c:=c) (k:=k) hx h1;omega
 refine⟨h.nd,h.ob,?_,?_,?_,?_,?_,?_⟩
 ·intro t y hy
  rw[<-h.head t y hy]
  exact hold t y 0 hy (by omega) (by omega)
 ·intro t y hy i hi ht
  have h1:=yu (yN (h.ob y (List.mem_of_getElem? hy))).2.2.1
  by_cases he:t=n/\i=I
  ·obtain⟨rfl,rfl⟩:=he
   rw[hx]at hy
   cases hy
   rw[hS,if_pos rfl]
  ·rw[<-h.name t y hy i hi (by omega),Nat.add_assoc,hold t y (1+i) hy (by omega) (by omega)]
 ·intro t y hy i hi ht
  have h1:=yu (yN (h.ob y (List.mem_of_getElem? hy))).2.2.1
  rw[<-h.raw t y hy i hi (by omega),Nat.add_assoc,hold t y (1+i) hy (by omega) (by omega)]
 ·intro t y hy i hi ht
  by_cases he:t=n/\i=I
  ·obtain⟨rfl,rfl⟩:=he
   rw[hx]at hy
   cases hy
   exact hv
  ·exact h.seen t y hy i hi (by omega)
 ·intro t y hy i hi1 hi2
  rw[<-h.num t y hy i hi1 hi2,Nat.add_assoc,hold t y (1+i) hy (by omega) (fun e=>by
   obtain⟨rfl,e⟩:=e
   rw[hx]at hy
   cases hy
   omega)]
 ·intro j hj
  have h1:=zP (S:=S) (c:=c) (k:=k) hx
  have h2:=WR (S:=S) (c:=c) (k:=k) (LS:=LS) n
  rw[hS,if_neg (by omega)]
  exact h.rest j hj
theorem CpJ.from (h:CpJ S S' c k u LS n I) {s:Nat} (hd:c.frm k+s≤c.frm (1-k)\/c.frm (1-k)+szF S LS≤c.frm k) {j:Nat} (h1:c.frm k≤j) (h2:j<c.frm k+s):S'.now j=S.now j:=h.rest j (by omega)
end
open Go.RowKit Go.OpenShut
structure CP where
 p:Nat
 a:DA
 S:DS
 c:Cfg
 k:Nat
 us:Nat
 ws:List Nat
 rs:List Nat
def CP.LS (P:CP):List Nat:=rcF P.S P.c P.k P.us P.ws
def CP.N (P:CP):Nat:=P.ws.length+P.LS.length+1
def CP.cs (P:CP) (i:Nat):List Nat:=if i≤P.ws.length then seeL P.S P.c P.k P.us [] (P.ws.take i)else rcW P.S P.c P.k P.us P.ws (i-P.ws.length)
def CP.at (P:CP) (i:Nat) (S:DS):Prop:=CpJ P.S S P.c P.k P.us (P.cs i) (min (i-P.ws.length) P.LS.length) 0
def CP.kp (P:CP) (S:DS):Prop:=∀j,P.c.frm (1-P.k)≤j->j<P.c.frm (1-P.k)+szF P.S P.LS->Fix S j (S.now j)
structure CP.Ok (P:CP):Prop where
 c:P.c.Ok
 n:P.c.words=P.a.n
 k:P.k≤1
 us:P.us≤P.c.space
 rdy:RdyC P.S P.c P.k P.us P.ws
 ws:∀v∈P.ws,v<9223372036854775808
 rs:∀v∈P.rs,v<9223372036854775808
 few:P.ws.length≤1000
 root:P.rs.length=P.c.roots
theorem xac {S:DS} {c:Cfg} {k u:Nat} {ws:List Nat} (i:Nat):(rcW S c k u ws i).length≤(rcF S c k u ws).length:=by
 cases hl:(rcW S c k u ws i).length with
 |zero=>omega
 |succ m=>
  obtain⟨x,hx⟩:∃x,(rcW S c k u ws i)[m]? =some x:=⟨_,List.getElem?_eq_getElem (by omega)⟩
  have:=(List.getElem?_eq_some_iff.1 (YC hx)).1
  omega
theorem CP.cs_row (P:CP) (j:Nat):P.cs (P.ws.length+j)=rcW P.S P.c P.k P.us P.ws j:=by
 unfold CP.cs
 cases j with
 |zero=>rw[if_pos (by omega),Nat.add_zero,List.take_length];rfl
 |succ j=>rw[if_neg (by omega),show P.ws.length+(j+1)-P.ws.length=j+1 by omega]
theorem CP.cs_end (P:CP) {i:Nat} (h:P.ws.length+P.LS.length≤i):P.cs i=P.LS:=by
 obtain⟨j,rfl⟩:∃j,i=P.ws.length+j:=⟨i-P.ws.length,by omega⟩
 rw[P.cs_row]
 exact zO (Nat.le_trans (xac j) (by show P.LS.length≤j;omega))
theorem CP.fin {P:CP} {S:DS} (h:P.at P.N S):Cpd P.S S P.c P.k P.LS:=by
 have h1:P.cs P.N=P.LS:=P.cs_end (by unfold CP.N;omega)
 unfold CP.at at h
 rw[h1]at h
 exact h.fin (by unfold CP.N;omega)
theorem CP.at_start (P:CP):P.at 0 P.S:=by
 unfold CP.at
 have h1:P.cs 0= []:=by unfold CP.cs;rw[if_pos (by omega)];rfl
 rw[h1,Nat.zero_sub,Nat.zero_min]
 exact xbf _ _ _ _
structure ColK (Col:CP->World->Nat->List Nat->Nat->Prop):Prop where
 keep:∀ {P:CP} {w w':World} {x:Nat} {T R:List Nat} {i:Nat},Col P w x T i->xe R w w'->(∀b∈T,b∉R)->Col P w' x T i
 lt:∀ {P:CP} {w:World} {x:Nat} {T:List Nat} {i:Nat},Col P w x T i->∀b∈T,b<w.heap.size
 new:∀(P:CP) (w:World),P.Ok->Dev w P.p P.a P.S->∀(yr:Option Addr) (cr:Nat),Reads w yr P.rs.length (fun j=>((P.rs.getD j 0:Nat):Int))->
  ∀(yw:Option Addr) (cw:Nat),Reads w yw P.ws.length (fun j=>((P.ws.getD j 0:Nat):Int))->
  Calls Tryz.prog 93 #[ptr P.a.d,cfgV P.c,bkV P.k P.us (.slice yr P.rs.length cr),.slice yw P.ws.length cw] w fun e w'=>
   ∃x T,e=.returned (ptr x)/\Col P w' x T 0/\(∀b∈T,w.heap.size≤b)/\xe [] w w'
 step:∀ {P:CP} {w:World} {x:Nat} {T:List Nat} {i:Nat} {u:Int} {S:DS},Col P w x T i->Pw w P.p P.a (-1) u S->u≤600000000000->P.at i S->(∀b∈T,b∉[P.p,P.a.d,P.a.s,P.a.k,P.a.m])->i<P.N->
  Calls Tryz.prog 94 #[ptr x] w fun e w'=>∃T' u' S',e=.returned (.bool (decide (i+1=P.N)))/\Col P w' x T' (i+1)/\Pw w' P.p P.a (-1) u' S'/\P.at (i+1) S'/\(i+1=P.N->P.kp S')/\
   u'≤u+100000/\(∀b∈T',b∈T\/w.heap.size≤b)/\xe (T++ [P.p,P.a.s,P.a.k,P.a.m]) w w'
 more:∀ {P:CP} {w:World} {x:Nat} {T:List Nat},Col P w x T P.N->Calls Tryz.prog 94 #[ptr x] w fun e w'=>e=.returned (.bool true)/\xe [] w w'
 run:∀ {P:CP} {w:World} {x:Nat} {T:List Nat} {i:Nat} {u:Int} {S:DS},Col P w x T i->Pw w P.p P.a (-1) u S->u≤500000000000->P.at i S->(∀b∈T,b∉[P.p,P.a.d,P.a.s,P.a.k,P.a.m])->i<P.N->
  Calls Tryz.prog 169 #[ptr x] w fun e w'=>∃T' u' S',e=.returned (.tuple #[])/\Col P w' x T' P.N/\Pw w' P.p P.a (-1) u' S'/\P.at P.N S'/\P.kp S'/\
   u'≤u+1000000000/\(∀b∈T',b∈T\/w.heap.size≤b)/\xe (T++ [P.p,P.a.s,P.a.k,P.a.m]) w w'
 went:∀ {P:CP} {w:World} {x:Nat} {T:List Nat} {i:Nat},Col P w x T i->∀v:Nat,v<9223372036854775808->
  Calls Tryz.prog 172 #[ptr x,.int .u64 v] w fun e w'=>e=.returned (.int .i64 (wtC P.S P.c P.k (P.cs i) v:Nat))/\xe [] w w'
 block:∀ {P:CP} {w:World} {x:Nat} {T:List Nat} {i:Nat},Col P w x T i->
  Calls Tryz.prog 213 #[ptr x] w fun e w'=>∃y cy,e=.returned (bkV ((1-P.k:Nat):Int) (szF P.S (P.cs i):Nat) (.slice y P.rs.length cy))/\
   OwnU w' w.heap.size y cy P.rs.length (fun j=>((wtC P.S P.c P.k (P.cs i) (P.rs.getD j 0):Nat):Int))/\xe [] w w'
open Go.RowKit Go.OpenShut
theorem Wh (c:Cfg) (os:List (Nat×Nat)) (G:Nat->Nat) (m:Nat) (hos:c.frm 0+lenL os≤1000000) (q:Nat):∃v:Nat,lnkG c os G m 0 q=(v:Int)/\v<72057594037927936:=by
 rcases xV.1 (We c os G m q)with h|⟨i,hi,h⟩
 ·exact⟨0,by rw[h];rfl,by omega⟩
 ·exact⟨_,h,by have:=xE hi;omega⟩
theorem ok14 (p:Nat) {a:DA} {S S':DS} {c:Cfg} {os:List (Nat×Nat)} {G:Nat->Nat} {m K I:Nat} (hc:c.Ok) (hn:c.words=a.n) (hL:LnkS c a.n os (lnkG c os G m 0) S) (hN:NmdP S S' c os K I)
  (ws:List Nat) (hws:∀v∈ws,v<9223372036854775808) (hfew:ws.length≤1000):CP.Ok ⟨p,a,S',c,0,lenL os,ws,wsN c.roots fun j=>lnkG c os G m 0 (refL os+j)⟩:=by
 have hfr:=xW hc.small (show 0≤2 by omega)
 have hsp:=hc.small.2.2
 have hos:c.frm 0+lenL os≤1000000:=by have:=hL.fits;omega
 have hg:=Wh c os G m hos
 have hg2:∀q,((lnkG c os G m 0 q).toNat:Nat)<9223372036854775808:=fun q=>by
  obtain⟨v,h1,h2⟩:=hg q
  rw[h1]
  omega
 refine⟨hc,hn,by show 0≤1;omega,hL.fits,?_,hws,?_,hfew,XC _ _⟩
 ·exact hN.rdy hL hsp (by rw[<-hn];exact xu 0 (by omega)) hg (fun q=>xV.1 (We c os G m q)) ws
 ·intro v hv
  obtain⟨j,_,rfl⟩:=List.mem_map.1 hv
  exact hg2 _
theorem xb1 {w:World} {x:Option Addr} {n:Nat} {f:Nat->Int} (h:Reads w x n f) (hf:∀j,j<n->0≤f j):Reads w x (wsN n f).length (fun j=>(((wsN n f).getD j 0:Nat):Int)):=by
 rw[XC]
 rcases h with h|⟨b,off,h1,h2,h3⟩
 ·exact .inl h
 ·refine .inr ⟨b,off,h1,h2,fun i hi=>?_⟩
  have h4:(wsN n f).getD i 0=(f i).toNat:=by simp[wsN,List.getD,hi]
  have h5:=hf i hi
  rw[h3 i hi]
  show some (Value.int .u64 (f i))=some (Value.int .u64 (((wsN n f).getD i 0:Nat):Int))
  rw[h4,show(((f i).toNat:Nat):Int)=f i by omega]
theorem qE (S:DS) (c:Cfg) (k u:Nat):rcF S c k u [0]= []:=by
 have h0:rcW S c k u [0] 0= []:=by
  show seeW S c k u [] 0= []
  exact yZ (zx _ _ _ _)
 exact(zO (i:=0) (by rw[h0];exact Nat.le_refl _)).symm.trans h0
open Go.RowKit Go.OpenShut
section
variable {P:CP}
theorem CP.nd (P:CP):P.LS.Nodup:=zg
theorem CP.obs (P:CP) {x:Nat} (h:x∈P.LS):(obW P.S P.c P.k P.us x).isSome=true:=zJ h
theorem CP.len (P:CP):P.LS.length≤P.us:=jb
def CP.Pre (P:CP) (out:List Nat):Prop:=∃t,P.LS=out++t
theorem CP.Pre.nd {out:List Nat} (h:P.Pre out):out.Nodup:=by
 obtain⟨t,ht⟩:=h
 have:=P.nd
 rw[ht]at this
 exact(List.nodup_append.1 this).1
theorem CP.Pre.le {out:List Nat} (h:P.Pre out):out.length≤P.LS.length:=by
 obtain⟨t,ht⟩:=h
 rw[ht,List.length_append]
 omega
theorem CP.Pre.sz {out:List Nat} (h:P.Pre out):szF P.S out≤szF P.S P.LS:=by
 obtain⟨t,ht⟩:=h
 rw[ht,zY]
 omega
theorem CP.Pre.get {out:List Nat} (h:P.Pre out) {j x:Nat} (hj:out[j]? =some x):P.LS[j]? =some x:=by
 obtain⟨t,ht⟩:=h
 rw[ht,List.getElem?_append_left (List.getElem?_eq_some_iff.1 hj).1,hj]
theorem CP.Pre.pl {out:List Nat} (h:P.Pre out) {t:Nat} (ht:t≤out.length):plC P.S P.c P.k out t=plC P.S P.c P.k P.LS t:=by
 obtain⟨r,hr⟩:=h
 unfold plC
 rw[hr,List.take_append_of_le_length ht]
theorem CP.Pre.wt {out:List Nat} (h:P.Pre out) {x:Nat} (hx:x∈out):wtC P.S P.c P.k out x=wtC P.S P.c P.k P.LS x:=by
 have h1:=yE hx
 rw[yT h.nd h1,yT P.nd (h.get h1),h.pl (Nat.le_of_lt (List.getElem?_eq_some_iff.1 h1).1)]
theorem CP.Pre.next {out:List Nat} (h:P.Pre out) {x:Nat} (hx:P.LS[out.length]? =some x):P.Pre (out++ [x])/\wtC P.S P.c P.k P.LS x=P.c.frm (1-P.k)+szF P.S out/\szF P.S out+(hdN (P.S.now x).toNat+1)≤szF P.S P.LS:=by
 obtain⟨t,ht⟩:=h
 cases t with
 |nil=>
  rw[ht,List.append_nil,List.getElem?_eq_none (Nat.le_refl _)]at hx
  cases hx
 |cons y t=>
  have hy:y=x:=by
   rw[ht,List.getElem?_append_right (Nat.le_refl _),Nat.sub_self]at hx
   simpa using hx
  subst hy
  refine⟨⟨t,by rw[ht];simp⟩,?_,?_⟩
  ·rw[yT P.nd hx]
   unfold plC
   rw[ht,List.take_left]
  ·rw[ht,zY,xC]
   omega
theorem CP.row_pre (P:CP) (j:Nat):P.Pre (rcW P.S P.c P.k P.us P.ws j):=by
 by_cases hj:j≤P.us
 ·exact Jo hj
 ·exact⟨[],by rw[List.append_nil,zO (Nat.le_trans (vQ j) (by omega))];rfl⟩
theorem CP.see_pre (P:CP) {out:List Nat} (l m:List Nat) (h:P.Pre (seeL P.S P.c P.k P.us out (l++m))):P.Pre (seeL P.S P.c P.k P.us out l):=by
 rw[Yf]at h
 obtain⟨t,ht⟩:=Xg (S:=P.S) (c:=P.c) (k:=P.k) (u:=P.us) m (seeL P.S P.c P.k P.us out l)
 obtain⟨r,hr⟩:=h
 exact⟨t++r,by rw[hr,ht,List.append_assoc]⟩
theorem CP.cs_pre (P:CP) (i:Nat):P.Pre (P.cs i):=by
 unfold CP.cs
 split
 ·refine P.see_pre (P.ws.take i) (P.ws.drop i) ?_
  rw[List.take_append_drop]
  exact P.row_pre 0
 ·exact P.row_pre _
theorem CP.cs_word (P:CP) {i:Nat} (h:i<P.ws.length):P.cs (i+1)=seeW P.S P.c P.k P.us (P.cs i) (P.ws.getD i 0):=by
 unfold CP.cs
 rw[if_pos (by omega),if_pos (by omega),List.take_add_one,List.getD_eq_getElem?_getD,List.getElem?_eq_getElem h]
 exact Xh _ _ _
theorem CP.cs_copy (P:CP) {n:Nat} (h:n<P.LS.length):∃X,P.LS[n]? =some X/\(P.cs (P.ws.length+n))[n]? =some X/\P.cs (P.ws.length+n+1)=seeL P.S P.c P.k P.us (P.cs (P.ws.length+n)) (nmW P.S X):=by
 rw[P.cs_row,Nat.add_assoc,P.cs_row]
 cases hs:(rcW P.S P.c P.k P.us P.ws n)[n]? with
 |none=>
  have h1:=zO (List.getElem?_eq_none_iff.1 hs)
  have h2:=List.getElem?_eq_none_iff.1 hs
  rw[h1]at h2
  have:P.LS.length≤n:=h2
  omega
 |some X=>exact⟨X,YC hs,rfl,yg hs⟩
theorem CP.Pre.see {out:List Nat} {v:Nat} (h:P.Pre (seeW P.S P.c P.k P.us out v)) (ho:(obW P.S P.c P.k P.us v).isSome=true) (hv:v∉out):P.LS[out.length]? =some v:=by
 rw[wh ho hv]at h
 exact h.get (by rw[List.getElem?_append_right (Nat.le_refl _),Nat.sub_self];rfl)
theorem CP.Pre.of_see {out:List Nat} {v:Nat} (h:P.Pre (seeW P.S P.c P.k P.us out v)):P.Pre out:=by
 obtain⟨t,ht⟩:=Ji (S:=P.S) (c:=P.c) (k:=P.k) (u:=P.us) out v
 obtain⟨r,hr⟩:=h
 exact⟨t++r,by rw[hr,ht,List.append_assoc]⟩
end
theorem Jf {c:Cfg} {k s t:Nat} (hk:k≤1) (hs:s≤c.space) (ht:t≤c.space):c.frm k+s≤c.frm (1-k)\/c.frm (1-k)+t≤c.frm k:=by
 have h1:=(xD c.space).1
 unfold Cfg.frm
 obtain rfl|rfl:k=0\/k=1:=by omega
 ·left;simp;omega
 ·right;simp;omega
section
variable {P:CP}
theorem CpJ.skip {S S':DS} {c:Cfg} {k u n I:Nat} {LS:List Nat} (h:CpJ S S' c k u LS n I) {x:Nat} (hx:LS[n]? =some x) {t:Nat} (ht:I≤t) (htr:t≤hdR (S.now x).toNat) (hz:∀i,I≤i->i<t->S.now (x+1+i)=0):CpJ S S' c k u LS n t:=by
 induction t with
 |zero=>
  obtain rfl:I=0:=by omega
  exact h
 |succ t ih=>
  by_cases he:I=t+1
  ·rw[<-he];exact h
  ·have h1:=ih (by omega) (by omega) (fun i h1 h2=>hz i h1 (by omega))
   have h0:=hz t (by omega) (by omega)
   refine h1.turn hx (by omega) (.inl (by rw[h0];rfl)) fun j=>?_
   by_cases hj:j=plC S c k LS n+1+t
   ·rw[if_pos hj,hj,h1.raw n x hx t (by omega) (by omega),h0,show(0:Int).toNat=0 from rfl,wM]
    ·rfl
    ·intro hm
     have:=h.ob 0 hm
     rw[zx]at this
     cases this
   ·rw[if_neg hj]
end
open Go.RowKit Go.OpenShut
theorem xeb (w:World) (k u:Int) (rs:Value):(Instr.field 127 (bkV k u rs) 0).run Tryz.prog w=.ok (.int .i64 k) w:=by kernel_rfl
theorem xcF (w:World) (k u:Int) (rs:Value):(Instr.field 127 (bkV k u rs) 1).run Tryz.prog w=.ok (.int .i64 u) w:=by kernel_rfl
theorem jM {Col:CP->World->Nat->List Nat->Nat->Prop} (C:ColK Col) (w:World):Calls Tryz.prog 178 #[] w fun e w'=>e=.returned (.bool true)/\Below w.heap.size w w':=by
 go_enter Tryz.func178,Tryz.ntmps178
 go_wp2_with fail
 refine(jN _).mono ?_
 rintro e w1 ⟨rfl,hb1⟩
 have K1:xe [] w w1:=Go.Proofs.YtcdhklgahepcaaaGreat.Below.keeps hb1 []
 clear hb1
 have hos:[(1,0)]=zW (mk3 0 0 40).space (hdsL (fun _=>0) (fun i=>i+1) 1):=by decide
 have hok:=XW 0 0 40
 obtain⟨c,hc⟩:∃c,c=mk3 0 0 40:=⟨_,rfl⟩
 rw[<-hc]at hos hok
 have HO:=hid hok
 have HC:=hid hc
 have HOS:=hid hos
 clear hok hc hos
 go_wp2_with fail
 have hH2:=At.new w1 (.cells #[.int .u8 0,.int .u8 1] 226)
 have hy:vt (w1.alloc (.cells #[.int .u8 0,.int .u8 1] 226)) (some ⟨w1.heap.size,0,none⟩) 1 (fun _=>0) (fun i=>i+1):=
  .inr ⟨w1.heap.size,0,rfl,hH2.lt,fun i hi=>by
   obtain rfl:i=0:=by omega
   exact⟨hH2.cell 0 rfl,hH2.cell 1 rfl,by decide,by decide⟩⟩
 have K2:=K1.alloc (.cells #[.int .u8 0,.int .u8 1] 226)
 refine(Xo _ 0 0 40 (by omega) (by omega) (by omega) _ 1 1 (fun _=>0) (fun i=>i+1) hy (by omega) none 0 0 (fun _=>0) (.inl rfl) (by omega) 0 (by omega) c HC.out [(1,0)] HOS.out).mono ?_
 rintro e w3 ⟨p,a,u,S,x,cp,y,cy,B,rfl,hn,hP,hub,hL,hU,hI,hb,hB,hk3⟩
 have K3:=K2.trans hk3
 have hl1:([(1,0)]:List (Nat×Nat)).length=1:=rfl
 have hUl:(lenL [(1,0)]:Nat)=2:=rfl
 have hos:c.frm 0+lenL [(1,0)]≤1000000:=by
  have:=xW HO.out.small (show 0≤2 by omega)
  omega
 obtain⟨P,hPq⟩:∃P:CP,P=⟨p,a,S,c,0,lenL [(1,0)],[0],wsN c.roots fun j=>lnkG c [(1,0)] (fun _=>0) 0 0 (refL [(1,0)]+j)⟩:=⟨_,rfl⟩
 have hPok:P.Ok:=by rw[hPq];exact ok14 p HO.out hn hL (Zv S c _) [0] (by simp) (by simp)
 have hPLS:P.LS= []:=by rw[hPq];exact qE _ _ _ _
 have hPN:P.N=2:=by unfold CP.N;rw[hPLS,hPq];rfl
 rw[hl1,hUl]
 have HPQ:=hid hPq
 have HPO:=hid hPok
 have HLS:=hid (And.intro hPLS hPN)
 have HP:=hid hP
 have HU:=hid hU
 have HK3:=hid K3
 have HUB:=hid hub
 have HW:Hid (∀b∈[p,a.d,a.s,a.k,a.m],w.heap.size≤b/\b<w3.heap.size):=fun b hb'=>by
  have h1:=K2.size
  have h2:=hP.pow.lt
  have h3:=hP.dev.dev.lt
  have h4:=hP.dev.now.lt
  have h5:=hP.dev.kept.lt
  have h6:=hP.dev.map.lt
  simp only[List.mem_cons,List.not_mem_nil,or_false]at hb'
  omega
 have HGW:=hid (Wh c [(1,0)] (fun _=>0) 0 hos)
 clear hy hH2 K1 K2 hk3 hb hB hI hL hU hP hn hub hos hPq hPok hPLS hPN K3 hl1 hUl
 go_upto_region 6 with fail
 obtain⟨cb,hcb⟩:∃cb,cb=w3.heap.size:=⟨_,rfl⟩
 obtain⟨w4,hw4⟩:∃w4,w4=(w3.alloc (cfgO c)).alloc (bkO 0 2 (.slice x c.roots cp)):=⟨_,rfl⟩
 have hC4:At w4 cb (cfgO c):=by rw[hw4,hcb];exact(At.new w3 _).alloc _
 have hB4:At w4 (cb+1) (bkO 0 2 (.slice x c.roots cp)):=by
  have:=At.new (w3.alloc (cfgO c)) (bkO 0 2 (.slice x c.roots cp))
  rw[World.size_alloc]at this
  rw[hw4,hcb];exact this
 have k34:xe [] w3 w4:=by rw[hw4];exact((xe.refl [] w3).alloc _).alloc _
 rw[<-hw4,<-hcb]
 clear hw4 hcb
 have k45:xe [] w4 (w4.alloc (.cells #[.int .u64 0] 26)):=(xe.refl _ _).alloc _
 have h0:=At.new w4 (.cells #[.int .u64 0] 26)
 have hfP:P.p=p/\P.a=a/\P.S=S/\P.c=c/\P.k=0/\P.us=2/\P.ws= [0]/\P.rs.length=c.roots:=by rw[HPQ.out];exact⟨rfl,rfl,rfl,rfl,rfl,rfl,rfl,XC _ _⟩
 obtain⟨q1,q2,q3,q4,q5,q6,q7,q8⟩:=hfP
 have hnew:=C.new P (w4.alloc (.cells #[.int .u64 0] 26)) HPO.out (by rw[q1,q2,q3];exact HP.out.dev.keep (k34.trans k45) (by simp) (by simp) (by simp) (by simp)) x cp (by
   rw[HPQ.out]
   refine xb1 ((HU.out.rd).keep (k34.trans k45) (by simp)) fun j _=>?_
   obtain⟨v,h1,_⟩:=HGW.out (refL [(1,0)]+j)
   rw[h1]
   omega) (some ⟨w4.heap.size,0,none⟩) 1 (by
   rw[q7]
   exact .inr ⟨w4.heap.size,0,rfl,h0.lt,fun i hi=>by
    obtain rfl:i=0:=by have:[0].length=1:=rfl;omega
    exact h0.cell 0 rfl⟩)
 rw[q2,q4,q5,q6,q7,q8]at hnew
 have HNEW:=hid hnew
 have HQ:=hid (And.intro q1 (And.intro q2 (And.intro q3 (And.intro q4 (And.intro q5 (And.intro q6 (And.intro q7 q8)))))))
 have HK5:=hid (k34.trans k45)
 have c0:=hC4.cell 0 rfl
 have c1:=hC4.cell 1 rfl
 have c2:=hC4.cell 2 rfl
 have b0:=hB4.cell 0 rfl
 have b1:=hB4.cell 1 rfl
 have b2:=hB4.cell 2 rfl
 clear hnew k34 k45 h0 q1 q2 q3 q4 q5 q6 q7 q8 hC4 hB4
 go_wp2_with fail
 refine HNEW.out.mono ?_
 rintro e w6 ⟨xb,T,rfl,hCol,hT,hk56⟩
 have HK6:Hid (xe [] w3 w6):=HK5.out.trans hk56
 have HT6:Hid (∀b∈T,b∉[P.p,P.a.d,P.a.s,P.a.k,P.a.m]/\w3.heap.size≤b):=fun b hb=>by
  have h1:=hT b hb
  have h2:=HK5.out.size
  rw[HQ.out.1,HQ.out.2.1]
  exact⟨fun h=>by have:=(HW.out b h).2;omega,by omega⟩
 have HCOL:=hid hCol
 clear hCol hT hk56 HNEW c0 c1 c2 b0 b1 b2
 have HST:=hid (C.step HCOL.out (u:=u) (S:=S) (by rw[HQ.out.1,HQ.out.2.1];exact HP.out.keep0 HK6.out) (by have:=HUB.out;omega) (by have:=P.at_start;rwa[HQ.out.2.2.1]at this) (fun b hb=>(HT6.out b hb).1) (by rw[HLS.out.2];omega))
 go_wp2_with fail
 refine HST.out.mono ?_
 rintro e w7 ⟨T7,u7,S7,rfl,hCol7,hP7,hat7,_,hu7,hT7,hk67⟩
 have HT67:Hid (∀b∈T7,b∉[P.p,P.a.d,P.a.s,P.a.k,P.a.m]/\w3.heap.size≤b):=fun b hb=>by
  rcases hT7 b hb with h|h
  ·exact HT6.out b h
  ·have h1:=HK6.out.size
   rw[HQ.out.1,HQ.out.2.1]
   exact⟨fun h=>by have:=(HW.out b h).2;omega,by omega⟩
 have hlow:∀T:List Nat,(∀b∈T,b∉[P.p,P.a.d,P.a.s,P.a.k,P.a.m]/\w3.heap.size≤b)->∀b∈T++ [P.p,P.a.s,P.a.k,P.a.m],b∈([]:List Nat)\/w.heap.size≤b:=fun T hT b hb=>by
  have h1:=HK3.out.size
  rcases List.mem_append.1 hb with h|h
  ·have:=(hT b h).2
   exact .inr (by omega)
  ·rw[HQ.out.1,HQ.out.2.1]at h
   refine .inr (HW.out b ?_).1
   simp only[List.mem_cons,List.not_mem_nil,or_false]at h⊢
   omega
 have HK7:Hid (xe [] w w7):=(HK3.out.trans HK6.out).new hk67 (hlow T HT6.out)
 have HSZ:Hid (w3.heap.size≤w7.heap.size):=Nat.le_trans HK6.out.size hk67.size
 have HLOW:=hid hlow
 have hd1:decide (0+1=P.N)=false:=by rw[HLS.out.2];rfl
 rw[hd1]
 have HST2:=hid (C.step hCol7 hP7 (by have:=HUB.out;omega) hat7 (fun b hb=>(HT67.out b hb).1) (by rw[HLS.out.2];omega))
 clear hCol7 hP7 hat7 hu7 hT7 hk67 HST hlow hd1
 go_wp2_with fail
 refine HST2.out.mono ?_
 rintro e w8 ⟨T8,u8,S8,rfl,hCol8,_,_,_,_,_,hk78⟩
 have HK8:Hid (xe [] w w8):=HK7.out.new hk78 (HLOW.out T7 HT67.out)
 have hd1:decide (0+1+1=P.N)=true:=by rw[HLS.out.2];rfl
 rw[hd1]
 have hcs:P.cs (0+1+1)= []:=by rw[P.cs_end (by rw[HLS.out.1,HQ.out.2.2.2.2.2.2.1];exact Nat.le_succ 1),HLS.out.1]
 have HBL:Hid (∀w',xe [] w8 w'->Calls Tryz.prog 213 #[ptr xb] w' fun e w''=>(∃y cy,e=.returned (bkV 1 0 (.slice y c.roots cy)))/\xe [] w' w''):=fun w' hk=>by
  refine(C.block (C.keep hCol8 hk (by simp))).mono ?_
  rintro e w'' ⟨y,cy,rfl,_,hk'⟩
  rw[hcs,HQ.out.2.2.2.2.1,HQ.out.2.2.2.2.2.2.2]
  exact⟨⟨y,cy,rfl⟩,hk'⟩
 clear hCol8 hk78 HST2 hd1 hcs
 have hf1:=xeb
 have hf2:=xcF
 go_wp2_with fail
 refine(HBL.out _ (xe.refl _ _)).mono ?_
 rintro e w9 ⟨⟨y9,cy9,rfl⟩,hk9⟩
 go_wp2_with fail
 refine(HBL.out _ hk9).mono ?_
 rintro e w10 ⟨⟨y10,cy10,rfl⟩,hk10⟩
 have HE:Hid (Below w.heap.size w w10):=((HK8.out.trans hk9).trans hk10).below (Nat.le_refl _) (by simp)
 clear hk9 hk10
 go_wp2_with fail
 go_ret
 exact⟨rfl,HE.out⟩
end Go.Proofs.YtcdhklgahepcaaaGreat
