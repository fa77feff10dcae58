import Derived.Test.YtcdhklgahepcaaaGreatChk
namespace Go.Proofs.YtcdhklgahepcaaaGreat
open Go.RowKit Go.OpenShut
def obW (S:DS) (c:Cfg) (k u w:Nat):Option (Nat×Nat):=
 if c.frm k≤w/\w<c.frm k+u/\isHd (S.now w).toNat=true/\w+(hdN (S.now w).toNat+1)≤c.frm k+u then some (hdN (S.now w).toNat,hdR (S.now w).toNat)else none
def nmW (S:DS) (x:Nat):List Nat:=(List.range (hdR (S.now x).toNat)).map fun j=>(S.now (x+1+j)).toNat
def seeW (S:DS) (c:Cfg) (k u:Nat) (out:List Nat) (w:Nat):List Nat:=if(obW S c k u w).isSome=true/\w∉out then out++ [w]else out
def seeL (S:DS) (c:Cfg) (k u:Nat) (out l:List Nat):List Nat:=l.foldl (seeW S c k u) out
def rcW (S:DS) (c:Cfg) (k u:Nat) (ws:List Nat):Nat->List Nat
 |0=>seeL S c k u [] ws
 |i+1=>match (rcW S c k u ws i)[i]? with
  |some x=>seeL S c k u (rcW S c k u ws i) (nmW S x)
  |none=>rcW S c k u ws i
def rcF (S:DS) (c:Cfg) (k u:Nat) (ws:List Nat):List Nat:=rcW S c k u ws u
section
variable {S:DS} {c:Cfg} {k u:Nat}
theorem YJ {w:Nat} (h:(obW S c k u w).isSome=true):c.frm k≤w/\w<c.frm k+u:=by
 unfold obW at h
 split at h
 ·rename_i h1;exact⟨h1.1,h1.2.1⟩
 ·exact absurd h (by simp)
theorem wh {out:List Nat} {w:Nat} (h:(obW S c k u w).isSome=true) (hn:w∉out):seeW S c k u out w=out++ [w]:=if_pos ⟨h,hn⟩
theorem Xf {out:List Nat} {w:Nat} (hn:w∈out):seeW S c k u out w=out:=if_neg fun h=>h.2 hn
theorem yZ {out:List Nat} {w:Nat} (h:(obW S c k u w).isSome=false):seeW S c k u out w=out:=if_neg fun h'=>by rw[h]at h';exact Bool.noConfusion h'.1
theorem Ye {out:List Nat} {w x:Nat} :x∈seeW S c k u out w↔x∈out\/(x=w/\(obW S c k u w).isSome=true):=by
 unfold seeW
 split
 ·rename_i h
  simp[h.1]
 ·rename_i h
  constructor
  ·exact .inl
  ·rintro(h1|⟨rfl,h2⟩)
   ·exact h1
   ·exact Classical.byContradiction fun h3=>h ⟨h2,h3⟩
theorem Ji (out:List Nat) (w:Nat):∃t,seeW S c k u out w=out++t:=by
 unfold seeW
 split
 ·exact⟨_,rfl⟩
 ·exact⟨[],by simp⟩
theorem qp {out:List Nat} (h:out.Nodup) (w:Nat):(seeW S c k u out w).Nodup:=by
 unfold seeW
 split
 ·rename_i h1
  refine List.nodup_append.2 ⟨h,by simp,?_⟩
  intro a ha b hb
  obtain rfl:=List.mem_singleton.1 hb
  exact fun e=>h1.2 (e▸ha)
 ·exact h
theorem yo (out:List Nat) (w:Nat) (l:List Nat):seeL S c k u out (w::l)=seeL S c k u (seeW S c k u out w) l:=rfl
theorem Yf (out a b:List Nat):seeL S c k u out (a++b)=seeL S c k u (seeL S c k u out a) b:=by unfold seeL;rw[List.foldl_append]
theorem wm {l:List Nat} :∀ {out:List Nat} {x:Nat},x∈seeL S c k u out l↔x∈out\/(x∈l/\(obW S c k u x).isSome=true):=by
 induction l with
 |nil=>intro out x;simp[seeL]
 |cons w l ih=>
  intro out x
  rw[yo,ih,Ye]
  constructor
  ·rintro((h|⟨rfl,h⟩)|⟨h,h'⟩)
   ·exact .inl h
   ·exact .inr ⟨by simp,h⟩
   ·exact .inr ⟨by simp[h],h'⟩
  ·rintro(h|⟨h,h'⟩)
   ·exact .inl (.inl h)
   ·rcases List.mem_cons.1 h with rfl|h
    ·exact .inl (.inr ⟨rfl,h'⟩)
    ·exact .inr ⟨h,h'⟩
theorem Xg:∀(l out:List Nat),∃t,seeL S c k u out l=out++t
 | [],out=>⟨[],by simp[seeL]⟩
 |w::l,out=>by
  obtain⟨t,ht⟩:=Ji (S:=S) (c:=c) (k:=k) (u:=u) out w
  obtain⟨t',ht'⟩:=Xg l (out++t)
  exact⟨t++t',by rw[yo,ht,ht',List.append_assoc]⟩
theorem vB:∀(l:List Nat) {out:List Nat},out.Nodup->(seeL S c k u out l).Nodup
 | [],_,h=>h
 |w::l,out,h=>by rw[yo];exact vB l (qp h w)
theorem Jk:∀(l:List Nat) {out:List Nat},(∀w∈l,(obW S c k u w).isSome=true->w∈out)->seeL S c k u out l=out
 | [],_,_=>rfl
 |w::l,out,h=>by
  have h1:seeW S c k u out w=out:=by
   cases ho:(obW S c k u w).isSome with
   |false=>exact yZ ho
   |true=>exact Xf (h w (by simp) ho)
  rw[yo,h1]
  exact Jk l fun w' hw'=>h w' (by simp[hw'])
variable {ws:List Nat}
theorem yg {i x:Nat} (h:(rcW S c k u ws i)[i]? =some x):rcW S c k u ws (i+1)=seeL S c k u (rcW S c k u ws i) (nmW S x):=by
 show(match (rcW S c k u ws i)[i]? with|some x=>_|none=>_)=_
 rw[h]
theorem yL {i:Nat} (h:(rcW S c k u ws i).length≤i):rcW S c k u ws (i+1)=rcW S c k u ws i:=by
 show(match (rcW S c k u ws i)[i]? with|some x=>_|none=>_)=_
 rw[List.getElem?_eq_none h]
theorem xdG (i:Nat):∃t,rcW S c k u ws (i+1)=rcW S c k u ws i++t:=by
 cases h:(rcW S c k u ws i)[i]? with
 |none=>exact⟨[],by rw[yL (List.getElem?_eq_none_iff.1 h),List.append_nil]⟩
 |some x=>rw[yg h];exact Xg _ _
theorem Jo {i j:Nat} (h:i≤j):∃t,rcW S c k u ws j=rcW S c k u ws i++t:=by
 induction j with
 |zero=>
  obtain rfl:i=0:=by omega
  exact⟨[],by simp⟩
 |succ j ih=>
  by_cases he:i=j+1
  ·subst he;exact⟨[],by simp⟩
  ·obtain⟨t,ht⟩:=ih (by omega)
   obtain⟨t',ht'⟩:=xdG (S:=S) (c:=c) (k:=k) (u:=u) (ws:=ws) j
   exact⟨t++t',by rw[ht',ht,List.append_assoc]⟩
theorem wT:∀i,(rcW S c k u ws i).Nodup
 |0=>vB ws List.nodup_nil
 |i+1=>by
  cases h:(rcW S c k u ws i)[i]? with
  |none=>rw[yL (List.getElem?_eq_none_iff.1 h)];exact wT i
  |some x=>rw[yg h];exact vB _ (wT i)
theorem YB:∀i x,x∈rcW S c k u ws i->(obW S c k u x).isSome=true
 |0,x,h=>by
  rcases wm.1 h with h|h
  ·exact absurd h (by simp)
  ·exact h.2
 |i+1,x,h=>by
  cases hs:(rcW S c k u ws i)[i]? with
  |none=>rw[yL (List.getElem?_eq_none_iff.1 hs)]at h;exact YB i x h
  |some y=>
   rw[yg hs]at h
   rcases wm.1 h with h|h
   ·exact YB i x h
   ·exact h.2
theorem XK:∀(n lo:Nat) (l:List Nat),l.Nodup->(∀x∈l,lo≤x/\x<lo+n)->l.length≤n
 |0,lo,l,_,h=>by
  cases l with
  |nil=>simp
  |cons x l=>have:=h x (by simp);omega
 |n+1,lo,l,hn,h=>by
  have h1:=XK n lo (l.filter fun x=>decide (x≠lo+n)) (hn.filter _) (fun x hx=>by
   obtain⟨h2,h3⟩:=List.mem_filter.1 hx
   have h4:=h x h2
   have h5:=of_decide_eq_true h3
   omega)
  have h2:l.length≤(l.filter fun x=>decide (x≠lo+n)).length+1:=by
   clear h1 h
   induction l with
   |nil=>simp
   |cons y l ih=>
    obtain⟨h3,h4⟩:=List.nodup_cons.1 hn
    have:=ih h4
    by_cases hy:y=lo+n
    ·have h5:l.filter (fun x=>decide (x≠lo+n))=l:=List.filter_eq_self.2 fun x hx=>by
      rw[decide_eq_true_iff]
      rintro rfl
      exact h3 (hy▸hx)
     rw[List.filter_cons_of_neg (by simp[hy]),h5]
     simp
    ·rw[List.filter_cons_of_pos (by simp[hy])]
     simp only[List.length_cons]
     omega
  omega
theorem vQ (i:Nat):(rcW S c k u ws i).length≤u:=XK u (c.frm k) _ (wT i) fun x hx=>YJ (YB i x hx)
theorem Yj {i:Nat} (h:(rcW S c k u ws i).length≤i):∀j,rcW S c k u ws (i+j)=rcW S c k u ws i
 |0=>rfl
 |j+1=>by
  rw[<-Nat.add_assoc,yL,Yj h j]
  rw[Yj h j]
  omega
theorem zO {i:Nat} (h:(rcW S c k u ws i).length≤i):rcW S c k u ws i=rcF S c k u ws:=by
 unfold rcF
 by_cases hi:i≤u
 ·obtain⟨j,rfl⟩:∃j,u=i+j:=⟨u-i,by omega⟩
  exact(Yj h j).symm
 ·obtain⟨j,rfl⟩:∃j,i=u+j:=⟨i-u,by omega⟩
  exact Yj (vQ u) j
theorem zg:(rcF S c k u ws).Nodup:=wT u
theorem zJ {x:Nat} (h:x∈rcF S c k u ws):(obW S c k u x).isSome=true:=YB u x h
theorem jb:(rcF S c k u ws).length≤u:=vQ u
theorem YC {i j x:Nat} (h:(rcW S c k u ws i)[j]? =some x):(rcF S c k u ws)[j]? =some x:=by
 by_cases hi:i≤u
 ·obtain⟨t,ht⟩:=Jo (S:=S) (c:=c) (k:=k) (u:=u) (ws:=ws) hi
  unfold rcF
  rw[ht,List.getElem?_append_left (List.getElem?_eq_some_iff.1 h).1]
  exact h
 ·rwa[zO (by have:=vQ (S:=S) (c:=c) (k:=k) (u:=u) (ws:=ws) i;omega)]at h
inductive Rch (S:DS) (c:Cfg) (k u:Nat) (ws:List Nat):Nat->Prop
 |here {w:Nat} :w∈ws->(obW S c k u w).isSome=true->Rch S c k u ws w
 |on {x w:Nat} :Rch S c k u ws x->w∈nmW S x->(obW S c k u w).isSome=true->Rch S c k u ws w
theorem YA:∀i x,x∈rcW S c k u ws i->Rch S c k u ws x
 |0,x,h=>by
  rcases wm.1 h with h|h
  ·exact absurd h (by simp)
  ·exact .here h.1 h.2
 |i+1,x,h=>by
  cases hs:(rcW S c k u ws i)[i]? with
  |none=>rw[yL (List.getElem?_eq_none_iff.1 hs)]at h;exact YA i x h
  |some y=>
   rw[yg hs]at h
   rcases wm.1 h with h|h
   ·exact YA i x h
   ·exact .on (YA i y (List.mem_of_getElem? hs)) h.1 h.2
theorem YD {x w:Nat} (h:x∈rcF S c k u ws) (hw:w∈nmW S x) (ho:(obW S c k u w).isSome=true):w∈rcF S c k u ws:=by
 obtain⟨j,hj⟩:=List.mem_iff_getElem?.1 h
 have hju:j<u:=by
  have h1:=(List.getElem?_eq_some_iff.1 hj).1
  have h2:=jb (S:=S) (c:=c) (k:=k) (u:=u) (ws:=ws)
  omega
 have key:∀d,∃y,w∈rcW S c k u ws (j+1+d)\/((rcW S c k u ws j)[j]? =none/\y=0):=fun d=>by
  cases hs:(rcW S c k u ws j)[j]? with
  |none=>exact⟨0,.inr ⟨rfl,rfl⟩⟩
  |some y=>
   have h3:=YC hs
   rw[hj]at h3
   injection h3 with h3
   subst h3
   obtain⟨t,ht⟩:=Jo (S:=S) (c:=c) (k:=k) (u:=u) (ws:=ws) (show j+1≤j+1+d by omega)
   refine⟨0,.inl ?_⟩
   rw[ht,yg hs]
   exact List.mem_append_left _ (wm.2 (.inr ⟨hw,ho⟩))
 obtain⟨y,h1|⟨h1,_⟩⟩:=key (u-(j+1))
 ·rw[show j+1+(u-(j+1))=u by omega]at h1
  exact h1
 ·have h2:=zO (List.getElem?_eq_none_iff.1 h1)
  rw[h2,hj]at h1
  exact absurd h1 (by simp)
theorem Wd {x:Nat} :x∈rcF S c k u ws↔Rch S c k u ws x:=by
 refine⟨YA u x,fun h=>?_⟩
 induction h with
 |here h1 h2=>
  obtain⟨t,ht⟩:=Jo (S:=S) (c:=c) (k:=k) (u:=u) (ws:=ws) (Nat.zero_le u)
  unfold rcF
  rw[ht]
  exact List.mem_append_left _ (wm.2 (.inr ⟨h1,h2⟩))
 |on _ h2 h3 ih=>exact YD ih h2 h3
end
def stW (c:Cfg) (os:List (Nat×Nat)):List Nat:=(List.range os.length).map fun i=>c.frm 0+posL os i
theorem QN {c:Cfg} {os:List (Nat×Nat)} {w:Nat} :w∈stW c os↔∃i,i<os.length/\w=c.frm 0+posL os i:=by
 simp only[stW,List.mem_map,List.mem_range]
 exact⟨fun⟨i,h1,h2⟩=>⟨i,h1,h2.symm⟩,fun⟨i,h1,h2⟩=>⟨i,h1,h2.symm⟩⟩
theorem QM (c:Cfg) (os:List (Nat×Nat)):(stW c os).Nodup:=by
 refine List.pairwise_map.2 (List.nodup_range.imp_of_mem ?_)
 intro x y hx hy hne he
 exact hne (zL (Nat.le_of_lt (List.mem_range.1 hx)) (Nat.le_of_lt (List.mem_range.1 hy)) (by omega))
theorem LnkS.ob {c:Cfg} {n:Nat} {os:List (Nat×Nat)} {g:Nat->Int} {S:DS} (h:LnkS c n os g S) {i:Nat} (hi:i<os.length):obW S c 0 (lenL os) (c.frm 0+posL os i)=some (nL os i,rL os i):=by
 have h1:=h.head i hi
 have h2:=wJ h.few i
 have h3:=xE hi
 unfold obW
 rw[h1,Int.toNat_natCast,XZ _ _ (by omega),YW _ _ (by omega) h2.2,if_pos ⟨by omega,by omega,vF _ _ (by omega) h2.2,by omega⟩]
theorem XO {x:Nat} (h:x<72057594037927936):isHd x=false:=by
 unfold isHd
 rw[Nat.div_eq_of_lt h]
 rfl
theorem LnkS.ob_st {c:Cfg} {n:Nat} {os:List (Nat×Nat)} {g:Nat->Int} {S:DS} (h:LnkS c n os g S) (hg:∀q,∃v:Nat,g q=(v:Int)/\v<72057594037927936) {w:Nat} (ho:(obW S c 0 (lenL os) w).isSome=true):w∈stW c os:=by
 have h0:=YJ ho
 obtain⟨i,t,hi,ht,he⟩:=WP os (w-c.frm 0) (by omega)
 cases t with
 |zero=>exact QN.2 ⟨i,hi,by omega⟩
 |succ t=>
  exfalso
  have hx:isHd (S.now w).toNat=false:=by
   by_cases hr:t<rL os i
   ·have h1:=h.name i t hi hr
    rw[show c.frm 0+posL os i+1+t=w by omega]at h1
    obtain⟨v,hv,hb⟩:=hg (refB os i+t)
    rw[h1,hv,Int.toNat_natCast]
    exact XO hb
   ·have h1:=h.num i t hi (by omega) (by omega)
    rw[show c.frm 0+posL os i+1+t=w by omega]at h1
    rw[h1]
    exact XO (by decide)
  unfold obW at ho
  rw[if_neg (by rw[hx];exact fun h=>Bool.noConfusion h.2.2.1)]at ho
  exact Bool.noConfusion ho
def szF (S:DS) (l:List Nat):Nat:=(l.map fun x=>hdN (S.now x).toNat+1).sum
theorem xC (S:DS) (x:Nat) (l:List Nat):szF S (x::l)=hdN (S.now x).toNat+1+szF S l:=by simp[szF]
theorem zY (S:DS) (a b:List Nat):szF S (a++b)=szF S a+szF S b:=by simp[szF]
theorem jW {S:DS} {a b:List Nat} (h:a.Perm b):szF S a=szF S b:=by
 induction h with
 |nil=>rfl
 |cons x _ ih=>rw[xC,xC,ih]
 |swap x y l=>rw[xC,xC,xC,xC];omega
 |trans _ _ h1 h2=>rw[h1,h2]
theorem XE (S:DS) (f:Nat->Bool):∀l:List Nat,szF S (l.filter f)≤szF S l
 | []=>Nat.le_refl _
 |x::l=>by
  have:=XE S f l
  rw[xC]
  by_cases hx:f x=true
  ·rw[List.filter_cons_of_pos hx,xC]
   omega
  ·rw[List.filter_cons_of_neg hx]
   omega
theorem QJ (S:DS):∀l:List Nat,(∀x∈l,hdN (S.now x).toNat≤64)->szF S l≤65*l.length
 | [],_=>Nat.le_refl _
 |x::l,h=>by
  have h1:=QJ S l fun y hy=>h y (by simp[hy])
  have h2:=h x (by simp)
  rw[xC,List.length_cons]
  omega
theorem LnkS.sz {c:Cfg} {n:Nat} {os:List (Nat×Nat)} {g:Nat->Int} {S:DS} (h:LnkS c n os g S):∀i,i≤os.length->szF S ((List.range i).map fun i=>c.frm 0+posL os i)=posL os i
 |0,_=>rfl
 |i+1,hi=>by
  have h1:=h.head i (by omega)
  have h2:=wJ h.few i
  rw[List.range_succ,List.map_append,zY,h.sz i (by omega),zT (by omega)]
  simp only[List.map_cons,List.map_nil]
  rw[xC,h1,Int.toNat_natCast,XZ _ _ (by omega)]
  show _+(_+1+0)=_
  omega
theorem LnkS.sz_all {c:Cfg} {n:Nat} {os:List (Nat×Nat)} {g:Nat->Int} {S:DS} (h:LnkS c n os g S):szF S (stW c os)=lenL os:=by
 have:=h.sz os.length (Nat.le_refl _)
 rwa[zq]at this
theorem LnkS.sz_le {c:Cfg} {n:Nat} {os:List (Nat×Nat)} {g:Nat->Int} {S:DS} (h:LnkS c n os g S) (hg:∀q,∃v:Nat,g q=(v:Int)/\v<72057594037927936) {l:List Nat} (hn:l.Nodup) (ho:∀x∈l,(obW S c 0 (lenL os) x).isSome=true):szF S l≤lenL os:=by
 have hp:l.Perm ((stW c os).filter fun x=>decide (x∈l)):=by
  refine(List.perm_ext_iff_of_nodup hn ((QM c os).filter _)).2 fun x=>?_
  rw[List.mem_filter,decide_eq_true_iff]
  exact⟨fun hx=>⟨h.ob_st hg (ho x hx),hx⟩,fun hx=>hx.2⟩
 rw[jW hp,<-h.sz_all]
 exact XE S _ _
open Go.RowKit Go.OpenShut
def ObP (S:DS) (c:Cfg) (k u:Nat) (z:Int) (e:Ending):Prop:=
 (∃x n r:Nat,z=(x:Int)/\obW S c k u x=some (n,r)/\e=.returned (.tuple #[obV (n:Nat) (r:Nat) (x:Nat),.int .i64 0]))\/
 ((∀x:Nat,z=(x:Int)->(obW S c k u x).isSome=false)/\∃code:Int,code≠0/\e=.returned (.tuple #[obV 0 0 0,.int .i64 code]))
theorem xeJ (w:World) (p:Nat) (a:DA) (S:DS) (h:Dev w p a S) (c:Cfg) (hc:c.Ok) (hcn:c.words=a.n) (k:Nat) (hk:k≤1) (u:Nat) (hu:u≤c.space) (rs:Value) (z:Int) (hz:-9223372036854775808≤z/\z<9223372036854775808)
  (hx:∀j:Nat,c.frm k≤j->j<c.frm k+u->∃x:Nat,S.now j=(x:Int)/\x<18446744073709551616):
  Calls Tryz.prog 174 #[ptr a.d,cfgV c,bkV k u rs,.int .i64 z] w fun e w'=>ObP S c k u z e/\xe [] w w':=by
 refine(xeK w p a S h c hc hcn k hk u hu rs z hz (fun j _ h1 h2=>hx j h1 h2)).mono ?_
 rintro e w' ⟨n,r,zz,code,rfl,hk',hd⟩
 refine⟨?_,hk'⟩
 rcases hd.out with⟨h1,rfl,rfl,rfl,rfl⟩|⟨j,x,h1,h2,h3,h4,h5,⟨h6,rfl,rfl,rfl,rfl⟩|⟨h6,h7,rfl,rfl,rfl,rfl⟩⟩
 ·refine .inr ⟨fun x hx=>?_,6,by decide,rfl⟩
  rw[Bool.eq_false_iff]
  intro ho
  have:=YJ ho
  omega
 ·refine .inr ⟨fun y hy=>?_,8,by decide,rfl⟩
  obtain rfl:j=y:=by omega
  unfold obW
  rw[h4,Int.toNat_natCast,if_neg fun h=>h6 ⟨h.2.2.1,h.2.2.2⟩]
  rfl
 ·refine .inl ⟨j,hdN x,hdR x,h1,?_,by rw[h1]⟩
  unfold obW
  rw[h4,Int.toNat_natCast,if_pos ⟨h2,h3,h6,h7⟩]
def wsN (n:Nat) (f:Nat->Int):List Nat:=(List.range n).map fun i=>(f i).toNat
theorem XC (n:Nat) (f:Nat->Int):(wsN n f).length=n:=by simp[wsN]
theorem Jj {S:DS} {c:Cfg} {k u:Nat} (l:List Nat) {out:List Nat} (hn:out.Nodup) (ho:∀x∈out,(obW S c k u x).isSome=true):(seeL S c k u out l).length≤u:=
 XK u (c.frm k) _ (vB l hn) fun x hx=>YJ (by
  rcases wm.1 hx with h|h
  ·exact ho x h
  ·exact h.2)
theorem xcf {S:DS} {x j:Nat} (h:j<hdR (S.now x).toNat):(nmW S x).take (j+1)=(nmW S x).take j++ [(S.now (x+1+j)).toNat]:=by
 rw[List.take_add_one]
 simp[nmW,h]
theorem xdP (S:DS) (x:Nat):(nmW S x).length=hdR (S.now x).toNat:=by simp[nmW]
theorem Xh {S:DS} {c:Cfg} {k u:Nat} (out l:List Nat) (w:Nat):seeL S c k u out (l++ [w])=seeW S c k u (seeL S c k u out l) w:=by
 rw[Yf]
 rfl
theorem Jl {S:DS} {c:Cfg} {k u:Nat} {out:List Nat} (l:List Nat) {i x:Nat} (h:out[i]? =some x):(seeL S c k u out l)[i]? =some x:=by
 obtain⟨t,ht⟩:=Xg (S:=S) (c:=c) (k:=k) (u:=u) l out
 rw[ht,List.getElem?_append_left (List.getElem?_eq_some_iff.1 h).1,h]
theorem zt {S:DS} {c:Cfg} {k u w n r:Nat} (h:obW S c k u w=some (n,r)):c.frm k≤w/\w+(n+1)≤c.frm k+u/\n=hdN (S.now w).toNat/\r=hdR (S.now w).toNat/\n≤64/\r≤n:=by
 unfold obW at h
 split at h
 ·rename_i h1
  injection h with h
  injection h with h2 h3
  obtain⟨_,h4,h5⟩:=yu h1.2.2.1
  exact⟨h1.1,by omega,h2.symm,h3.symm,by omega,by omega⟩
 ·exact absurd h (by simp)
end Go.Proofs.YtcdhklgahepcaaaGreat
