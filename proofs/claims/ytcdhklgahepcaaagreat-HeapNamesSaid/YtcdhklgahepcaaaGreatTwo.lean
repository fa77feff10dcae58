import Derived.Test.YtcdhklgahepcaaaGreatAwk14
namespace Go.Proofs.YtcdhklgahepcaaaGreat
open Go.RowKit Go.OpenShut
section
variable {S T S1 S2:DS} {c:Cfg} {k u:Nat} {ws:List Nat}
theorem QT (hT:∀j,c.frm k≤j->j<c.frm k+u->T.now j=S.now j) (out:List Nat) (w:Nat):seeW T c k u out w=seeW S c k u out w:=by
 unfold seeW
 rw[YI hT]
theorem Yx (hT:∀j,c.frm k≤j->j<c.frm k+u->T.now j=S.now j):∀(l out:List Nat),seeL T c k u out l=seeL S c k u out l
 | [],_=>rfl
 |w::l,out=>by rw[yo,yo,QT hT,Yx hT l]
theorem JI (hT:∀j,c.frm k≤j->j<c.frm k+u->T.now j=S.now j) {x:Nat} (hx:(obW S c k u x).isSome=true):nmW T x=nmW S x:=by
 obtain⟨h1,h2,h3,h4,_⟩:=yN hx
 have h5:=yu h3
 unfold nmW
 rw[hT x h1 h2]
 refine List.map_congr_left fun j hj=>?_
 have hj:=List.mem_range.1 hj
 show(T.now (x+1+j)).toNat=(S.now (x+1+j)).toNat
 rw[hT _ (by omega) (by omega)]
theorem xb3 (hT:∀j,c.frm k≤j->j<c.frm k+u->T.now j=S.now j) (i:Nat):rcW T c k u ws i=rcW S c k u ws i:=by
 induction i with
 |zero=>exact Yx hT _ _
 |succ i ih=>
  cases hs:(rcW S c k u ws i)[i]? with
  |none=>
   have h1:=List.getElem?_eq_none_iff.1 hs
   rw[yL h1,yL (by rw[ih];exact h1),ih]
  |some x=>
   rw[yg hs,yg (by rw[ih];exact hs),ih,JI hT (YB i x (List.mem_of_getElem? hs))]
   exact Yx hT _ _
theorem Xj (hT:∀j,c.frm k≤j->j<c.frm k+u->T.now j=S.now j):rcF T c k u ws=rcF S c k u ws:=xb3 hT u
theorem ZS (hT:∀j,c.frm k≤j->j<c.frm k+u->T.now j=S.now j):∀l:List Nat,(∀x∈l,(obW S c k u x).isSome=true)->szF T l=szF S l
 | [],_=>rfl
 |x::l,h=>by
  obtain⟨h1,h2,_⟩:=yN (h x (by simp))
  rw[xC,xC,ZS hT l fun y hy=>h y (by simp[hy]),hT x h1 h2]
theorem RdyC.same (h:RdyC S c k u ws) (hT:∀j,c.frm k≤j->j<c.frm k+u->T.now j=S.now j):RdyC T c k u ws:=by
 refine⟨fun j h1 h2=>by rw[hT j h1 h2];exact h.wd j h1 h2,?_,?_⟩
 ·rw[Xj hT,ZS hT _ fun x hx=>zJ hx]
  exact h.sz
 ·rw[Xj hT]
  intro x hx w hw
  rw[JI hT (zJ hx)]at hw
  exact h.nm x hx w hw
variable {LS:List Nat}
end
theorem CP.Ok.same {P:CP} (h:P.Ok) {p:Nat} {a:DA} {T:DS} (hn:a.n=P.a.n) (hT:∀j,j<P.a.n->T.now j=P.S.now j):CP.Ok ⟨p,a,T,P.c,P.k,P.us,P.ws,P.rs⟩:=by
 have h1:=xu (c:=P.c) P.k h.k
 have h2:=h.n
 have h3:=h.us
 exact⟨h.c,by rw[hn];exact h.n,h.k,h.us,h.rdy.same fun j _ hj=>hT j (by omega),h.ws,h.rs,h.few,h.root⟩
end Go.Proofs.YtcdhklgahepcaaaGreat
