import Derived.Test.YtcdhklgahepcaaaGreatClk
import Derived.Test.YtcdhklgahepcaaaGreatCbl
import Derived.Test.YtcdhklgahepcaaaGreatNap
import Derived.Test.YtcdhklgahepcaaaGreatPtl
set_option maxHeartbeats 4000000
set_option maxRecDepth 100000
namespace Go.Proofs.YtcdhklgahepcaaaGreat
open Go.RowKit Go.OpenShut
def zG (l:Int) (S0:DS) (P:CP) (x mb B:Nat) (yr:Option Addr) (cr:Nat) (yl:Option Addr) (cl:Nat) (yq:Option Addr) (out:List Nat) (i n:Nat) (dn:Bool) (u:Int) (Y bx bo Bo Bd D nn rr PL:Nat) (w0:World) (t:Nat) (W:World):Prop:=
 ∃yq' cq' u' S',ClB P W x mb B yr cr yl cl yq' cq' (seeL P.S P.c P.k P.us out ((nmW P.S Y).take t)) i n dn/\Pw W P.p P.a l u' S'/\Zon P S0 S'/\CpJ P.S S' P.c P.k P.us (seeL P.S P.c P.k P.us out ((nmW P.S Y).take t)) n t/\u'≤u+66*(t:Int)/\
  (At W bx (.cells #[ptr x] 123)/\At W bo (obO (nn:Nat) (rr:Nat) (PL:Nat))/\At W Bo (obO (nn:Nat) (rr:Nat) (PL:Nat))/\At W Bd (.cells #[ptr P.a.d] 28))/\
  (∀b∈blkL yq',b∈blkL yq\/D+2≤b)/\xe (clT x mb yr yl yq++ [P.p,P.a.s,P.a.k,P.a.m]) w0 W
section
variable {P:CP} {x mb B:Nat} {yr:Option Addr} {cr:Nat} {yl:Option Addr} {cl:Nat} {yq:Option Addr} {out:List Nat} {i n:Nat} {dn:Bool} {u:Int} {Y bx bo Bo Bd D nn rr PL:Nat} {w0 W W':World} {t:Nat} {l:Int} {S0:DS}
theorem zG.open (hI:zG l S0 P x mb B yr cr yl cl yq out i n dn u Y bx bo Bo Bd D nn rr PL w0 t W) (h:LokS P x mb B yr yl yq out n Y bx bo Bo Bd D nn rr PL) (hz:D=w0.heap.size) {R:List Nat} (hk:xe R W W') (hR:∀b∈R,b=D\/b=D+1):
  ∃yq' cq' u' S',(∀b∈clT x mb yr yl yq',b<W.heap.size)/\(∀b∈[P.p,P.a.s,P.a.k,P.a.m],b<W.heap.size)/\ClB P W' x mb B yr cr yl cl yq' cq' (seeL P.S P.c P.k P.us out ((nmW P.S Y).take t)) i n dn/\Pw W' P.p P.a l u' S'/\Zon P S0 S'/\CpJ P.S S' P.c P.k P.us (seeL P.S P.c P.k P.us out ((nmW P.S Y).take t)) n t/\u'≤u+66*(t:Int)/\
  (At W' bx (.cells #[ptr x] 123)/\At W' bo (obO (nn:Nat) (rr:Nat) (PL:Nat))/\At W' Bo (obO (nn:Nat) (rr:Nat) (PL:Nat))/\At W' Bd (.cells #[ptr P.a.d] 28))/\
  (∀b∈blkL yq',b∈blkL yq\/D+2≤b)/\xe (clT x mb yr yl yq++ [P.p,P.a.s,P.a.k,P.a.m]) w0 W':=by
 obtain⟨yq',cq',u',S',h1,h2,hz0,h3,h4,⟨h5,h6,h7,h8⟩,h9,h10⟩:=hI
 have dv:∀b∈[P.p,P.a.d,P.a.s,P.a.k,P.a.m],b∉R:=fun b hb hm=>by have:=h.dev b hb;have:=hR b hm;have:=h.xo;have:=h.oo;have:=h.od;have:=h.dd;omega
 have e1:=h.xo
 have e2:=h.oo
 have e3:=h.od
 have e4:=h.dd
 refine⟨yq',cq',u',S',h1.below,fun b hb=>?_,h1.keep hk fun b hb hm=>?_,h2.keep hk (dv _ (by simp)) (dv _ (by simp)) (dv _ (by simp)) (dv _ (by simp)) (dv _ (by simp)),hz0,h3,h4,⟨hk.at h5 (fun hm=>by have:=hR _ hm;omega),hk.at h6 (fun hm=>by have:=hR _ hm;omega),hk.at h7 (fun hm=>by have:=hR _ hm;omega),hk.at h8 (fun hm=>by have:=hR _ hm;omega)⟩,h9,h10.new hk fun b hb=>.inr ?_⟩
 ·have:=h.dev b (by simp only[List.mem_cons,List.not_mem_nil,or_false]at hb⊢;rcases hb with h|h|h|h<;>simp[h])
  have:=h5.lt
  omega
 ·have hm:=hR _ hm
  have h0:∀b∈clT x mb yr yl yq,b<bx:=h.own
  rcases xk.1 hb with h11|h11|h11|h11|h11
  ·have:=h0 b (xk.2 (.inl h11));omega
  ·have:=h0 b (xk.2 (.inr (.inl h11)));omega
  ·have:=h0 b (xk.2 (.inr (.inr (.inl h11))));omega
  ·have:=h0 b (xk.2 (.inr (.inr (.inr (.inl h11)))));omega
  ·rcases h9 b h11 with h12|h12
   ·have:=h0 b (xk.2 (.inr (.inr (.inr (.inr h12)))));omega
   ·omega
 ·have:=hR _ hb
  omega
theorem zG.keep (hI:zG l S0 P x mb B yr cr yl cl yq out i n dn u Y bx bo Bo Bd D nn rr PL w0 t W) (h:LokS P x mb B yr yl yq out n Y bx bo Bo Bd D nn rr PL) (hz:D=w0.heap.size) {R:List Nat} (hk:xe R W W') (hR:∀b∈R,b=D\/b=D+1):zG l S0 P x mb B yr cr yl cl yq out i n dn u Y bx bo Bo Bd D nn rr PL w0 t W':=by
 obtain⟨yq',cq',u',S',_,_,h1⟩:=hI.open h hz hk hR
 exact⟨yq',cq',u',S',h1⟩
theorem zG.skip1 (hI:zG l S0 P x mb B yr cr yl cl yq out i n dn u Y bx bo Bo Bd D nn rr PL w0 t W) (h:LokS P x mb B yr yl yq out n Y bx bo Bo Bd D nn rr PL) (ht:t<rr) (h0:P.S.now (Y+1+t)=0):zG l S0 P x mb B yr cr yl cl yq out i n dn u Y bx bo Bo Bd D nn rr PL w0 (t+1) W:=by
 obtain⟨yq',cq',u',S',h1,h2,hz0,h3,h4,h5⟩:=hI
 have hs:=h.take ht (v:=0) h0
 rw[yZ (zx _ _ _ _)]at hs
 refine⟨yq',cq',u',S',by rw[hs];exact h1,h2,hz0,?_,by omega,h5⟩
 rw[hs]
 refine h3.skip h.at.2 (by omega) (by rw[<-h.hrr];omega) fun j h6 h7=>?_
 obtain rfl:j=t:=by omega
 exact h0
theorem zG.skips (hI:zG l S0 P x mb B yr cr yl cl yq out i n dn u Y bx bo Bo Bd D nn rr PL w0 t W) (h:LokS P x mb B yr yl yq out n Y bx bo Bo Bd D nn rr PL):∀d,t+d≤rr->(∀j,t≤j->j<t+d->P.S.now (Y+1+j)=0)->zG l S0 P x mb B yr cr yl cl yq out i n dn u Y bx bo Bo Bd D nn rr PL w0 (t+d) W
 |0,_,_=>hI
 |d+1,h1,h2=>(hI.skips h d (by omega) fun j h3 h4=>h2 j h3 (by omega)).skip1 h (by omega) (h2 _ (by omega) (by omega))
end
section
variable {P:CP} {x mb B:Nat} {yr:Option Addr} {cr:Nat} {yl:Option Addr} {cl:Nat} {yq:Option Addr} {out:List Nat} {i n:Nat} {dn:Bool} {u:Int} {Y bx bo Bo Bd D nn rr PL:Nat} {w0 W W':World} {t:Nat} {l:Int} {S0:DS}
theorem zG.upto {s:Nat} (hI:zG l S0 P x mb B yr cr yl cl yq out i n dn u Y bx bo Bo Bd D nn rr PL w0 s W) (h:LokS P x mb B yr yl yq out n Y bx bo Bo Bd D nn rr PL) (hst:s≤t) (ht:t≤rr) (hn:nzC (fun j=>P.S.now (Y+1+j)) s=nzC (fun j=>P.S.now (Y+1+j)) t):zG l S0 P x mb B yr cr yl cl yq out i n dn u Y bx bo Bo Bd D nn rr PL w0 t W:=by
 have:=hI.skips h (t-s) (by omega) fun j h1 h2=>JA hn h1 (by omega)
 rwa[show s+(t-s)=t by omega]at this
theorem zG.fct {m:Nat} (hI:zG l S0 P x mb B yr cr yl cl yq out i n dn u Y bx bo Bo Bd D nn rr PL w0 t W) (h:LokS P x mb B yr yl yq out n Y bx bo Bo Bd D nn rr PL) (hm:nzC (fun j=>P.S.now (Y+1+j)) t=m):xep Bo Bd P.a nn rr PL (fun j=>P.S.now (Y+1+j)) m W:=by
 obtain⟨yq',cq',u',S',h1,h2,hz0,h3,h4,⟨h5,h6,h7,h8⟩,h9,h10⟩:=hI
 refine⟨⟨h7,h8⟩,P.p,S',h2.dev,fun j hj hjr=>?_⟩
 obtain⟨v,hv,hv0,hvb⟩:=h.nm hjr
 have hY:=h.at (t:=t)
 have hpl:PL=plC P.S P.c P.k (seeL P.S P.c P.k P.us out ((nmW P.S Y).take t)) n:=by
  rw[h.pl,yT P.nd (h.pr0.get h.hY),hY.1.pl (Nat.le_of_lt h.len)]
 have key:S'.now (PL+1+j)=(v:Int):=by
  by_cases hjt:j<t
  ·have h0:P.S.now (Y+1+j)=0:=by
    have h11:=WW (f:=fun j=>P.S.now (Y+1+j)) (Nat.le_of_lt hjt)
    exact JA (f:=fun j=>P.S.now (Y+1+j)) (s:=j) (t:=t) (by omega) (Nat.le_refl _) hjt
   have h12:=h3.name n Y hY.2 j (by rw[<-h.hrr];exact hjr) (.inr ⟨rfl,hjt⟩)
   rw[<-hpl,h0]at h12
   rw[h12,<-hv,h0,show(0:Int).toNat=0 from rfl,wM]
   ·rfl
   ·intro hm0
    have:=h3.ob 0 hm0
    rw[zx]at this
    cases this
  ·have h12:=h3.raw n Y hY.2 j (by rw[<-h.hrr];exact hjr) (by omega)
   rw[<-hpl]at h12
   rw[h12,hv]
 unfold rfW
 rw[if_pos rfl,show((PL:Int)+1+(j:Int)).toNat=PL+1+j by omega,key]
 show asInt (v:Int)=P.S.now (Y+1+j)
 rw[hv]
 rcases(Xy v (by omega)).2 with h13|h13
 ·exact h13
 ·omega
theorem zG.next {V2 V3 V3' V4:World} {Z v:Nat} {yq':Option Addr} {u':Int} {yq2:Option Addr} {cq2:Nat} {u2 u3:Int} {S2:DS} (h:LokS P x mb B yr yl yq out n Y bx bo Bo Bd D nn rr PL) (hz:D=w0.heap.size) (hzz:D+2≤V2.heap.size) (ht:t<rr) (hv:P.S.now (Y+1+t)=(v:Int)) (hv0:v≠0)
  (h4:u'≤u+66*(t:Int)) (h5:At V2 bx (.cells #[ptr x] 123)/\At V2 bo (obO (nn:Nat) (rr:Nat) (PL:Nat))/\At V2 Bo (obO (nn:Nat) (rr:Nat) (PL:Nat))/\At V2 Bd (.cells #[ptr P.a.d] 28)) (h9:∀b∈blkL yq',b∈blkL yq\/D+2≤b) (h10:xe (clT x mb yr yl yq++ [P.p,P.a.s,P.a.k,P.a.m]) w0 V2)
  (hlow:∀b∈clT x mb yr yl yq',b<Z) (hlowd:∀b∈[P.p,P.a.s,P.a.k,P.a.m],b<Z)
  (g1:ClB P V3 x mb B yr cr yl cl yq2 cq2 (seeW P.S P.c P.k P.us (seeL P.S P.c P.k P.us out ((nmW P.S Y).take t)) v) i n dn) (g3:CpJ P.S S2 P.c P.k P.us (seeW P.S P.c P.k P.us (seeL P.S P.c P.k P.us out ((nmW P.S Y).take t)) v) n t) (g4:u2≤u'+65)
  (g5:xe (clT x mb yr yl yq'++ [P.p,P.a.s,P.a.k,P.a.m]) V2 V3) (g6:blkL yq2=blkL yq'\/∀g∈blkL yq2,V2.heap.size≤g)
  (k3:xe [] V3 V3') (k4:xe [P.p,P.a.s,P.a.k,P.a.m] V3' V4) (hz4:Zon P S0 (setS S2 (PL:Int) (t:Int) ((wO P (seeW P.S P.c P.k P.us (seeL P.S P.c P.k P.us out ((nmW P.S Y).take t)) v) v:Nat):Int) 0)) (p4:Pw V4 P.p P.a l u3 (setS S2 (PL:Int) (t:Int) ((wO P (seeW P.S P.c P.k P.us (seeL P.S P.c P.k P.us out ((nmW P.S Y).take t)) v) v:Nat):Int) 0)) (hu3:u3≤u2+1):
  zG l S0 P x mb B yr cr yl cl yq out i n dn u Y bx bo Bo Bd D nn rr PL w0 (t+1) V4/\∃T,xe T V2 V4/\D∉T/\D+1∉T/\∀b∈T,b<Z:=by
 have hs:=h.take ht hv
 have hat:=h.at (t:=t+1)
 have hd:bx<bo/\bo<Bo/\Bo<Bd/\Bd<D:=⟨h.xo,h.oo,h.od,h.dd⟩
 have k34:xe [P.p,P.a.s,P.a.k,P.a.m] V3 V4:=(k3.mono (by simp)).trans k4
 have K24:xe (clT x mb yr yl yq'++ [P.p,P.a.s,P.a.k,P.a.m]) V2 V4:=g5.trans (k34.mono (by intro b _ hb;exact List.mem_append_right _ hb))
 have own0:=h.own
 have dev0:=h.dev
 have dev1:∀b∈[P.p,P.a.s,P.a.k,P.a.m],b<bx:=fun b hb=>h.dev b (by simp only[List.mem_cons,List.not_mem_nil,or_false]at hb⊢;rcases hb with h|h|h|h<;>simp[h])
 have own1:∀b∈clT x mb yr yl yq',b∈clT x mb yr yl yq\/D+2≤b:=fun b hb=>by
  rcases xk.1 hb with h11|h11|h11|h11|h11
  ·exact .inl (xk.2 (.inl h11))
  ·exact .inl (xk.2 (.inr (.inl h11)))
  ·exact .inl (xk.2 (.inr (.inr (.inl h11))))
  ·exact .inl (xk.2 (.inr (.inr (.inr (.inl h11)))))
  ·rcases h9 b h11 with h12|h12
   ·exact .inl (xk.2 (.inr (.inr (.inr (.inr h12)))))
   ·exact .inr h12
 have own2:∀b∈clT x mb yr yl yq2,b∈clT x mb yr yl yq\/D+2≤b:=fun b hb=>by
  rcases xk.1 hb with h11|h11|h11|h11|h11
  ·exact own1 b (xk.2 (.inl h11))
  ·exact own1 b (xk.2 (.inr (.inl h11)))
  ·exact own1 b (xk.2 (.inr (.inr (.inl h11))))
  ·exact own1 b (xk.2 (.inr (.inr (.inr (.inl h11)))))
  ·rcases g6 with h12|h12
   ·rw[h12]at h11;exact own1 b (xk.2 (.inr (.inr (.inr (.inr h11)))))
   ·exact .inr (Nat.le_trans hzz (h12 b h11))
 have none:∀b,bx≤b->b<D+2->b∉clT x mb yr yl yq'++ [P.p,P.a.s,P.a.k,P.a.m]:=fun b h1 h2 hb=>by
  rcases List.mem_append.1 hb with hb|hb
  ·rcases own1 b hb with h|h
   ·have:=own0 b h;omega
   ·omega
  ·have:=dev1 b hb;omega
 have hno2:∀b∈clT x mb yr yl yq2,b∉[P.p,P.a.s,P.a.k,P.a.m]:=fun b hb hm=>by
  rcases own2 b hb with h11|h11
  ·exact h.ap b h11 (by simp only[List.mem_cons,List.not_mem_nil,or_false]at hm⊢;rcases hm with h|h|h|h<;>simp[h])
  ·have:=dev1 b hm;omega
 refine⟨⟨yq2,cq2,u3,_,?_,p4,hz4,?_,by omega,⟨K24.at h5.1 (none _ (by omega) (by omega)),K24.at h5.2.1 (none _ (by omega) (by omega)),K24.at h5.2.2.1 (none _ (by omega) (by omega)),K24.at h5.2.2.2 (none _ (by omega) (by omega))⟩,?_,?_⟩,_,K24,none _ (by omega) (by omega),none _ (by omega) (by omega),fun b hb=>?_⟩
 ·rw[hs]
  exact g1.keep k34 hno2
 ·rw[hs]at hat⊢
  have hvL:v=0\/v∈P.LS:=by
   obtain⟨v',hv',h7,_⟩:=h.nm ht
   obtain rfl:v=v':=by omega
   exact h7
  have hvm:v∈seeW P.S P.c P.k P.us (seeL P.S P.c P.k P.us out ((nmW P.S Y).take t)) v:=Ye.2 (by
   rcases hvL with h7|h7
   ·exact absurd h7 hv0
   ·exact .inr ⟨rfl,P.obs h7⟩)
  refine g3.turn hat.2 (by rw[<-h.hrr];exact ht) (.inr (by rw[hv,Int.toNat_natCast];exact hvm)) fun j=>?_
  have hpl:PL=plC P.S P.c P.k (seeW P.S P.c P.k P.us (seeL P.S P.c P.k P.us out ((nmW P.S Y).take t)) v) n:=by
   rw[h.pl,yT P.nd (h.pr0.get h.hY),hat.1.pl (Nat.le_of_lt (List.getElem?_eq_some_iff.1 hat.2).1)]
  rw[ZW,show((PL:Int)+1+(t:Int)).toNat=PL+1+t by omega,<-hpl,hv,Int.toNat_natCast,hat.1.wt hvm]
  unfold wO
  rw[if_pos hvm]
 ·intro b hb
  rcases g6 with h12|h12
  ·rw[h12]at hb;exact h9 b hb
  ·exact .inr (Nat.le_trans hzz (h12 b hb))
 ·refine h10.new K24 fun b hb=>?_
  rcases List.mem_append.1 hb with hb|hb
  ·rcases xk.1 hb with h11|h11|h11|h11|h11
   ·exact .inl (List.mem_append_left _ (xk.2 (.inl h11)))
   ·exact .inl (List.mem_append_left _ (xk.2 (.inr (.inl h11))))
   ·exact .inl (List.mem_append_left _ (xk.2 (.inr (.inr (.inl h11)))))
   ·exact .inl (List.mem_append_left _ (xk.2 (.inr (.inr (.inr (.inl h11))))))
   ·rcases h9 b h11 with h12|h12
    ·exact .inl (List.mem_append_left _ (xk.2 (.inr (.inr (.inr (.inr h12))))))
    ·exact .inr (by omega)
  ·exact .inl (List.mem_append_right _ hb)
 ·rcases List.mem_append.1 hb with hb|hb
  ·exact hlow b hb
  ·exact hlowd b hb
end
section
variable {P:CP} {x mb B:Nat} {yr:Option Addr} {yl:Option Addr} {yq yq':Option Addr} {out:List Nat} {n:Nat} {Y bx bo Bo Bd D nn rr PL:Nat} {w0 V2 V3:World}
theorem xaA (h:LokS P x mb B yr yl yq out n Y bx bo Bo Bd D nn rr PL) (hz:D=w0.heap.size) (hg:∀b∈blkL yq',b∈blkL yq\/D+2≤b)
  (hK:xe (clT x mb yr yl yq++ [P.p,P.a.s,P.a.k,P.a.m]) w0 V2) (hk:xe (clT x mb yr yl yq'++ [P.p,P.a.s,P.a.k,P.a.m]) V2 V3):
  xe (clT x mb yr yl yq++ [P.p,P.a.s,P.a.k,P.a.m]) w0 V3/\D∉clT x mb yr yl yq'++ [P.p,P.a.s,P.a.k,P.a.m]/\D+1∉clT x mb yr yl yq'++ [P.p,P.a.s,P.a.k,P.a.m]:=by
 have own1:∀b∈clT x mb yr yl yq',b∈clT x mb yr yl yq\/D+2≤b:=fun b hb=>by
  rcases xk.1 hb with h11|h11|h11|h11|h11
  ·exact .inl (xk.2 (.inl h11))
  ·exact .inl (xk.2 (.inr (.inl h11)))
  ·exact .inl (xk.2 (.inr (.inr (.inl h11))))
  ·exact .inl (xk.2 (.inr (.inr (.inr (.inl h11)))))
  ·rcases hg b h11 with h12|h12
   ·exact .inl (xk.2 (.inr (.inr (.inr (.inr h12)))))
   ·exact .inr h12
 have hd:bx<bo/\bo<Bo/\Bo<Bd/\Bd<D:=⟨h.xo,h.oo,h.od,h.dd⟩
 have none:∀b,bx≤b->b<D+2->b∉clT x mb yr yl yq'++ [P.p,P.a.s,P.a.k,P.a.m]:=fun b h1 h2 hb=>by
  rcases List.mem_append.1 hb with hb|hb
  ·rcases own1 b hb with h3|h3
   ·have:=h.own b h3;omega
   ·omega
  ·have:=h.dev b (by simp only[List.mem_cons,List.not_mem_nil,or_false]at hb⊢;rcases hb with h|h|h|h<;>simp[h]);omega
 refine⟨hK.new hk fun b hb=>?_,none _ (by omega) (by omega),none _ (by omega) (by omega)⟩
 rcases List.mem_append.1 hb with hb|hb
 ·rcases own1 b hb with h3|h3
  ·exact .inl (List.mem_append_left _ h3)
  ·exact .inr (by omega)
 ·exact .inl (List.mem_append_right _ hb)
theorem LokS.zone (h:LokS P x mb B yr yl yq out n Y bx bo Bo Bd D nn rr PL) {t:Nat} (ht:t<rr):P.c.frm (1-P.k)≤PL+1+t/\PL+1+t<P.c.frm (1-P.k)+szF P.S P.LS:=by
 have hYL:P.LS[n]? =some Y:=h.pr0.get h.hY
 have h5:=zP (S:=P.S) (c:=P.c) (k:=P.k) hYL
 have h6:szF P.S P.LS≤P.c.space:=h.ok.rdy.sz
 have h7:P.c.frm (1-P.k)≤plC P.S P.c P.k P.LS n:=WR _
 have h11:=h.pl
 rw[yT P.nd hYL]at h11
 have h12:=h.hnn
 have h13:=h.few
 omega
end
def LokL (l:Int) (S0:DS) (P:CP) (x mb B:Nat) (yr:Option Addr) (cr:Nat) (yl:Option Addr) (cl:Nat) (yq:Option Addr) (out:List Nat) (i n:Nat) (dn:Bool) (u:Int) (Y rr:Nat) (w:World) (e:Ending) (w':World):Prop:=
 e=.returned (.tuple #[])/\∃yq' cq' u' S',ClB P w' x mb B yr cr yl cl yq' cq' (seeL P.S P.c P.k P.us out (nmW P.S Y)) i n dn/\Pw w' P.p P.a l u' S'/\Zon P S0 S'/\CpJ P.S S' P.c P.k P.us (seeL P.S P.c P.k P.us out (nmW P.S Y)) n rr/\u'≤u+66*64/\
  xe (clT x mb yr yl yq++ [P.p,P.a.s,P.a.k,P.a.m]) w w'/\(∀g∈blkL yq',g∈blkL yq\/w.heap.size≤g)
theorem xeS (P:CP) (hP:P.Ok) (w:World) (x mb B:Nat) (yr:Option Addr) (cr:Nat) (yl:Option Addr) (cl:Nat) (yq:Option Addr) (cq:Nat) (out:List Nat) (i n:Nat) (dn:Bool) (hC:ClB P w x mb B yr cr yl cl yq cq out i n dn) (hA:Apart P (clT x mb yr yl yq))
  (l u:Int) (S':DS) (hPw:Pw w P.p P.a l u S') (hu:u≤700000000000) (hJ:CpJ P.S S' P.c P.k P.us out n 0) (Y nn rr PL:Nat) (hY:out[n]? =some Y) (hnn:nn=hdN (P.S.now Y).toNat) (hrr:rr=hdR (P.S.now Y).toNat) (hpl:PL=wtC P.S P.c P.k P.LS Y) (hpre:P.Pre (seeL P.S P.c P.k P.us out (nmW P.S Y))) (hpr0:P.Pre out):
  Calls Tryz.prog 163 #[ptr x,obV (nn:Nat) (rr:Nat) (PL:Nat)] w (fun e w'=>LokL l S' P x mb B yr cr yl cl yq out i n dn u Y rr w e w'\/CutC P l (clT x mb yr yl yq) S' w e w'):=by
 have hmix:Tryz.prog.follows .mixedOrders=true:=by kernel_rfl
 have hbx:=hC.box
 have hlow:∀b∈clT x mb yr yl yq,b<w.heap.size:=hC.below
 have hdev:∀b∈[P.p,P.a.d,P.a.s,P.a.k,P.a.m],b<w.heap.size:=fun b hb=>by
  have h1:=hPw.pow.lt
  have h2:=hPw.dev.dev.lt
  have h3:=hPw.dev.now.lt
  have h4:=hPw.dev.kept.lt
  have h5:=hPw.dev.map.lt
  simp only[List.mem_cons,List.not_mem_nil,or_false]at hb
  omega
 have HC:=hid hC
 have HA:=hid hA
 have HPW:=hid hPw
 have HJ:=hid hJ
 have HUB:=hid hu
 have HPO:=hid hP
 have HLOW:=hid hlow
 have HDEV:=hid hdev
 have HYY:=hid (And.intro hY (And.intro hnn (And.intro hrr (And.intro hpl (And.intro hpre hpr0)))))
 have hxw:x<w.heap.size:=hbx.lt
 clear hC hA hPw hJ hu hP hlow hdev hY hnn hrr hpl hpre hpr0
 refine xZ Tryz.func163 rfl ?_
 simp only[Tryz.ntmps163,List.size_toArray,List.length_cons,List.length_nil,Nat.reduceAdd,Nat.reduceSub,Array.replicate_succ,Array.replicate_zero,List.push_toArray,List.append_toArray,List.nil_append,List.cons_append]
 refine WpAt.seq_k fun K hK=>?_
 go_wp2_with fail
 refine WpAt.seq_k fun K hK=>?_
 have hX0:=(At.new w (.cells #[ptr x] 123)).alloc (obO (nn:Nat) (rr:Nat) (PL:Nat))
 have hO0:=At.new (w.alloc (.cells #[ptr x] 123)) (obO (nn:Nat) (rr:Nat) (PL:Nat))
 have k0:=((xe.refl [] w).alloc (.cells #[ptr x] 123)).alloc (obO (nn:Nat) (rr:Nat) (PL:Nat))
 simp only[World.size_alloc]at hO0
 obtain⟨bx,hbxq⟩:∃q,q=w.heap.size:=⟨_,rfl⟩
 obtain⟨bo,hboq⟩:∃q,q=w.heap.size+1:=⟨_,rfl⟩
 obtain⟨w1,hw1⟩:∃w1,w1=(w.alloc (.cells #[ptr x] 123)).alloc (obO (nn:Nat) (rr:Nat) (PL:Nat)):=⟨_,rfl⟩
 have hz1:w1.heap.size=w.heap.size+2:=by rw[hw1];simp
 rw[<-hw1]at hX0 hO0 k0
 first|rw[<-hw1]|skip
 rw[<-hboq,<-hbxq]
 rw[<-hbxq]at hX0
 rw[<-hboq]at hO0
 have HQ:Hid (bx=w.heap.size/\bo=bx+1/\w1.heap.size=bx+2):=⟨hbxq,by omega,by omega⟩
 have hB1:=k0.at hbx (by simp)
 have HX1:=hid hX0
 have HO1:=hid hO0
 have HK1:=hid k0
 have HF1:Hid (∀w',xe [] w1 w'->(w'.cell? ⟨bo,0,none⟩=some (.int .i64 (nn:Nat))/\w'.cell? ⟨bo,1,none⟩=some (.int .i64 (rr:Nat))/\w'.cell? ⟨bo,2,none⟩=some (.int .i64 (PL:Nat))/\w'.cell? ⟨bx,0,none⟩=some (ptr x)/\w'.cell? ⟨x,0,none⟩=some (ptr P.a.d))):=fun w' hk=>by
  have g1:=hk.at hO0 (by simp)
  exact⟨g1.cell 0 rfl,g1.cell 1 rfl,g1.cell 2 rfl,(hk.at hX0 (by simp)).cell 0 rfl,(hk.at hB1 (by simp)).cell 0 rfl⟩
 clear hw1 hbxq hboq hz1 hX0 hO0 k0 hB1 hbx hxw
 have kk:xe [] w1 w1.drew:=(xe.refl _ _).drew
 go_region_held3 (fun w'=>w'.cell? ⟨bo,0,none⟩=some (.int .i64 (nn:Nat))∧w'.cell? ⟨bo,1,none⟩=some (.int .i64 (rr:Nat))∧w'.cell? ⟨bo,2,none⟩=some (.int .i64 (PL:Nat))∧w'.cell? ⟨bx,0,none⟩=some (ptr x)∧w'.cell? ⟨x,0,none⟩=some (ptr P.a.d))
  (exact HF1.out _ kk)
  (first
    |(go_at_call 141;refine(Xk _ _ _ _ _).mono ?_;rintro e w' ⟨rfl,hw'⟩;have hN:=(At.new w1.drew (obO (nn:Nat) (rr:Nat) (PL:Nat))).alloc (.cells #[ptr P.a.d] 28);have hM:=At.new (w1.drew.alloc (obO (nn:Nat) (rr:Nat) (PL:Nat))) (.cells #[ptr P.a.d] 28);rw[hw']at hN hM;have kk:=(kk.alloc (obO (nn:Nat) (rr:Nat) (PL:Nat))).alloc (.cells #[ptr P.a.d] 28);rw[hw']at kk;have hz':w'.heap.size=w1.heap.size+2:=(by rw[←hw'];simp);clear hw'))
 have hN2:At w' w1.heap.size (obO (nn:Nat) (rr:Nat) (PL:Nat)):=hN
 have hM2:At w' (w1.heap.size+1) (.cells #[ptr P.a.d] 28):=by
  have h:=hM
  simp only[World.size_alloc]at h
  exact h
 obtain⟨Bo,hBo⟩:∃q,q=w1.heap.size:=⟨_,rfl⟩
 obtain⟨Bd,hBd⟩:∃q,q=w1.heap.size+1:=⟨_,rfl⟩
 rw[<-hBd,<-hBo]
 rw[<-hBo]at hN2
 rw[<-hBd]at hM2
 obtain⟨D,hD⟩:∃D,D=w'.heap.size:=⟨_,rfl⟩
 have HS:Hid (LokS P x mb B yr yl yq out n Y bx bo Bo Bd D nn rr PL):=by
  have h1:=HQ.out
  obtain⟨y1,y2,y3,y4,y5,y6⟩:=HYY.out
  exact⟨HPO.out,HA.out,fun b hb=>by rw[h1.1];exact HLOW.out b hb,fun b hb=>by rw[h1.1];exact HDEV.out b hb,by omega,by omega,by omega,by omega,y1,y2,y3,y4,y5,y6⟩
 have HI0:Hid (zG l S' P x mb B yr cr yl cl yq out i n dn u Y bx bo Bo Bd D nn rr PL w' 0 w'):=by
  have K:xe [] w w':=HK1.out.trans kk
  exact⟨yq,cq,u,S',HC.out.keep K (by simp),HPW.out.keep0 K,Zon.refl _ _,HJ.out,by omega,⟨kk.at HX1.out (by simp),kk.at HO1.out (by simp),hN2,hM2⟩,fun b hb=>.inl hb,xe.refl _ _⟩
 have HKW:Hid (xe [] w w'):=HK1.out.trans kk
 have HDW:=hid (And.intro hD (And.intro hBo (And.intro hBd hz')))
 clear hN hM hN2 hM2 kk hBo hBd hD hz'
 obtain⟨G,hG⟩:∃G:Nat->Int,G=fun j=>P.S.now (Y+1+j):=⟨_,rfl⟩
 have HG:=hid hG
 have hfew:=HS.out.few
 have hit:=WZ Bo Bd P.a nn rr PL G ⟨hfew.1,hfew.2.1,hfew.2.2.1⟩
 clear hG hfew
 rename_i hHd
 clear hHd
 go_wp2_with fail
 refine WpAt.block ?_
 refine WpAt.range (gf:=195) (lb:=#[ptr Bo,ptr Bd]) rfl (enters_of Tryz.func195 (by kernel_rfl) rfl) ?_
 refine' (qO hit _ ⟨_,Tryz.func163⟩ w' _ _ _ _
  (fun m W=>∃t,t≤rr/\nzC G t=m/\zG l S' P x mb B yr cr yl cl yq out i n dn u Y bx bo Bo Bd D nn rr PL w' t W)
  (fun ch W=>ch= [{ v:=xP,recovered:=false }]/\∃S2,Pw W P.p P.a l l S2/\Zon P S' S2/\xe (clT x mb yr yl yq++ [P.p,P.a.s,P.a.k,P.a.m]) w' W)
  (fun _=>rfl) ?fct ?keep ?round ?start).mono ?after
 case fct=>
  rintro m W ⟨t,ht,hm,hI⟩
  rw[HG.out]at hm⊢
  exact hI.fct HS.out hm
 case keep=>
  rintro m W W' ⟨t,ht,hm,hI⟩ hk
  exact⟨t,ht,hm,hI.keep HS.out HDW.out.1 hk (by rw[HDW.out.1];simp)⟩
 case start=>exact⟨0,Nat.zero_le _,rfl,HI0.out⟩
 case round=>
  rintro lp m W0 W hm ⟨t0,ht0,hm0,hI⟩ kv0 _ hsz
  obtain⟨t,htr,htn,htm⟩:=ji hm
  rw[<-htm]at hm0
  rw[<-htm,YM htr htn]
  have hst:=xao hm0 htn
  have hI0:=hI.upto HS.out hst (Nat.le_of_lt htr) (by rw[<-HG.out];exact hm0)
  obtain⟨v,hv,hv0,hvb⟩:=HS.out.nm htr
  have hGt:G t=(v:Int):=by rw[HG.out];exact hv
  rw[hGt]
  have hvn:v≠0:=fun h=>htn (by rw[hGt,h];rfl)
  have hI1:=hI0.keep HS.out HDW.out.1 kv0 (by simp)
  have HI0:=hid hI0
  have HI1:=hid hI1
  have HV:=hid (And.intro hv (And.intro hvn (And.intro hvb htr)))
  have HKV:=hid kv0
  have HSZ:=hid hsz
  have HMM:=hid htm
  have hti:(t:Int)≤64:=by have:=HS.out.few;omega
  have hvi:(v:Int)≤100000:=by omega
  clear hI hI0 hI1 hst hm0 ht0 hm htn hv hv0 hvb hGt hvn kv0 hsz htm htr
  have hsem:=@Oper.semAt_some
  gi_wp2_with fail
  refine⟨xe.refl _ _,fun V₂ k2 hz2=>?_⟩
  obtain⟨yq',cq',u',S2,hlow,hlowd,hC2,hP2,hZ2,hJ2,hu2,hb2,hg2,hK2⟩:=HI0.out.open HS.out HDW.out.1 ((HKV.out.mono (by simp)).trans k2) (by rw[HDW.out.1];simp)
  have hzz:D+2≤V₂.heap.size:=by have h1:=HSZ.out;have h2:=HKV.out.size;have h3:=HDW.out.1;omega
  have hA2:Apart P (clT x mb yr yl yq'):=fun b hb hm=>by
   have h1:=HS.out.xo
   have h2:=HS.out.oo
   have h3:=HS.out.od
   have h4:=HS.out.dd
   have h5:=HS.out.dev b hm
   rcases xk.1 hb with h11|h11|h11|h11|h11
   ·exact HA.out b (xk.2 (.inl h11)) hm
   ·exact HA.out b (xk.2 (.inr (.inl h11))) hm
   ·exact HA.out b (xk.2 (.inr (.inr (.inl h11)))) hm
   ·exact HA.out b (xk.2 (.inr (.inr (.inr (.inl h11))))) hm
   ·rcases hg2 b h11 with h12|h12
    ·exact HA.out b (xk.2 (.inr (.inr (.inr (.inr h12))))) hm
    ·omega
  have hub:u'≤800000000000:=by have:=HUB.out;omega
  have hlen:=HS.out.len (t:=t)
  have hpr:=(HS.out.at (t:=t+1)).1
  rw[HS.out.take HV.out.2.2.2 HV.out.1]at hpr
  have HBR:=hid (xbo P HPO.out V₂ x mb B yr cr yl cl yq' cq' _ i n dn hC2 hA2 l u' S2 hP2 hub t hJ2 (Nat.le_of_lt hlen) (fun h=>by omega) v (by omega) hpr)
  have b0:=hb2.1.cell 0 rfl
  have HV2:=hid (And.intro hu2 (And.intro hb2 (And.intro hg2 (And.intro hK2 (And.intro hzz (And.intro hlow (And.intro hlowd (And.intro hA2 hub))))))))
  have HZ2:=hid hz2
  have HZN:=hid hZ2
  clear hZ2
  clear hlow hlowd hC2 hP2 hJ2 hu2 hb2 hg2 hK2 hzz hA2 hub hlen hpr k2 hz2
  gi_wp2_with fail
  refine⟨trivial,?_⟩
  refine(callsIn_wide.2 HBR.out).mono ?_
  rintro e V3 (⟨rfl,yq2,cq2,u2,S3,hC3,hP3,hZ3,hJ3,hu3,hk3,hg3⟩|⟨rfl,S3,hP3,hZ3,hk3⟩)
  rotate_left
  ·obtain⟨c1,c2,c3⟩:=xaA HS.out HDW.out.1 HV2.out.2.2.1 HV2.out.2.2.2.1 hk3
   rw[HDW.out.1]at c2 c3
   exact And.intro (Or.inr ⟨_,rfl,rfl,rfl,S3,hP3,HZN.out.trans hZ3,c1⟩) ⟨_,hk3,c2,c3,fun b hb=>.inl (by
    rcases List.mem_append.1 hb with hb|hb
    ·exact HV2.out.2.2.2.2.2.1 b hb
    ·exact HV2.out.2.2.2.2.2.2.1 b hb)⟩
  have HZ3:=hid (HZN.out.trans hZ3)
  clear hZ3
  obtain⟨TO,hTO⟩:∃TO,TO=wO P (seeW P.S P.c P.k P.us (seeL P.S P.c P.k P.us out ((nmW P.S Y).take t)) v) v:=⟨_,rfl⟩
  rw[<-hTO]
  have htof:TO≠0/\TO≤100000:=by
   have hvL:v∈P.LS:=by
    obtain⟨v',h1,h2,_⟩:=HS.out.nm HV.out.2.2.2
    have h3:=HV.out.1
    obtain rfl:v=v':=by omega
    rcases h2 with h2|h2
    ·exact absurd h2 HV.out.2.1
    ·exact h2
   have hvm:v∈seeW P.S P.c P.k P.us (seeL P.S P.c P.k P.us out ((nmW P.S Y).take t)) v:=Ye.2 (.inr ⟨rfl,P.obs hvL⟩)
   rw[hTO]
   unfold wO
   rw[if_pos hvm]
   have h1:=yE hvL
   have h2:=zP (S:=P.S) (c:=P.c) (k:=P.k) h1
   have h6:szF P.S P.LS≤P.c.space:=HPO.out.rdy.sz
   have h9:=xW HPO.out.c.small (show 1-P.k≤2 by omega)
   have h10:=HPO.out.c.small.2.2
   refine⟨XB.2 hvL,?_⟩
   rw[yT P.nd h1]
   omega
  have hti0:(TO:Int)≠0:=by omega
  have t2:((TO:Int)==0)=false:=by rw[beq_eq_false_iff_ne];exact hti0
  have t1:((TO:Int) != 0)=true:=by simp[bne,t2]
  have hfw:=HS.out.few
  have HPT:Hid (∀V,xe [] V3 V->Calls Tryz.prog 103 #[obV (nn:Nat) (rr:Nat) (PL:Nat),.int .i64 (t:Nat),.int .i64 (TO:Nat),.func (.func 145) #[ptr P.a.d] #[]] V (OneP P.p P.a l u2 S3 (.st (((PL:Nat):Int)+1+((t:Nat):Int)).toNat ((TO:Nat):Int)) (.int .i64 0) V)):=fun V hk=>
   xcb V P.p P.a l u2 S3 (hP3.keep0 hk) (by have:=HV2.out.2.2.2.2.2.2.2.2;omega) (nn:Nat) (rr:Nat) (PL:Nat) (t:Nat) (TO:Nat) (TO:Nat) (IntWalk.u64_in _ (by omega)) ⟨by omega,by omega⟩ ⟨by omega,by omega⟩ (vg (by omega) (by have:=HV.out.2.2.2;omega) (by have:=HV.out.2.2.2;simp;omega))
  have k23:∀b,bx≤b->b<D+2->b∉clT x mb yr yl yq'++ [P.p,P.a.s,P.a.k,P.a.m]:=fun b h1 h2 hb=>by
   rcases List.mem_append.1 hb with hb|hb
   ·have own0:=HS.out.own
    rcases xk.1 hb with h11|h11|h11|h11|h11
    ·have:=own0 b (xk.2 (.inl h11));omega
    ·have:=own0 b (xk.2 (.inr (.inl h11)));omega
    ·have:=own0 b (xk.2 (.inr (.inr (.inl h11))));omega
    ·have:=own0 b (xk.2 (.inr (.inr (.inr (.inl h11)))));omega
    ·rcases HV2.out.2.2.1 b h11 with h12|h12
     ·have:=own0 b (xk.2 (.inr (.inr (.inr (.inr h12)))));omega
     ·omega
   ·have:=HS.out.dev b (by simp only[List.mem_cons,List.not_mem_nil,or_false]at hb⊢;rcases hb with h|h|h|h<;>simp[h]);omega
  have hX3:=hk3.at HV2.out.2.1.1 (k23 _ (Nat.le_refl _) (by have:=HS.out.xo;have:=HS.out.oo;have:=HS.out.od;have:=HS.out.dd;omega))
  have hO3:=hk3.at HV2.out.2.1.2.1 (k23 _ (Nat.le_of_lt HS.out.xo) (by have:=HS.out.xo;have:=HS.out.oo;have:=HS.out.od;have:=HS.out.dd;omega))
  have hB3:=hC3.box
  have HF6:Hid (∀w',xe [P.p,P.a.s,P.a.k,P.a.m] V3 w'->(w'.cell? ⟨bo,0,none⟩=some (.int .i64 (nn:Nat))/\w'.cell? ⟨bo,1,none⟩=some (.int .i64 (rr:Nat))/\w'.cell? ⟨bo,2,none⟩=some (.int .i64 (PL:Nat))/\w'.cell? ⟨bx,0,none⟩=some (ptr x)/\w'.cell? ⟨x,0,none⟩=some (ptr P.a.d))):=fun w' hk=>by
   have h0:∀b,bx≤b->b∉[P.p,P.a.s,P.a.k,P.a.m]:=fun b h1 hb=>by
    have:=HS.out.dev b (by simp only[List.mem_cons,List.not_mem_nil,or_false]at hb⊢;rcases hb with h|h|h|h<;>simp[h]);omega
   have g1:=hk.at hO3 (h0 _ (Nat.le_of_lt HS.out.xo))
   exact⟨g1.cell 0 rfl,g1.cell 1 rfl,g1.cell 2 rfl,(hk.at hX3 (h0 _ (Nat.le_refl _))).cell 0 rfl,(hk.at hB3 (fun h=>HA.out x (xk.2 (.inl rfl)) (by simp only[List.mem_cons,List.not_mem_nil,or_false]at h⊢;rcases h with h|h|h|h<;>simp[h]))).cell 0 rfl⟩
  have HV3:=hid (And.intro hC3 (And.intro hJ3 (And.intro hu3 (And.intro hk3 (And.intro hg3 hTO)))))
  clear hC3 hP3 hJ3 hu3 hk3 hg3 hTO htof hfw k23 hX3 hO3 hB3 b0
  have HCT:Hid (∀V4,Pw V4 P.p P.a l l S3->xe [P.p,P.a.s,P.a.k,P.a.m] V3 V4->(∃S2,Pw V4 P.p P.a l l S2/\Zon P S' S2/\xe (clT x mb yr yl yq++ [P.p,P.a.s,P.a.k,P.a.m]) w' V4)/\∃T',xe T' V₂ V4/\w'.heap.size∉T'/\w'.heap.size+1∉T'/\∀b∈T',b<W0.heap.size\/W.heap.size≤b):=fun V4 h1 h2=>by
   have hk4:=HV3.out.2.2.2.1.trans (h2.mono (fun k _ hb=>List.mem_append_right _ hb))
   obtain⟨c1,c2,c3⟩:=xaA HS.out HDW.out.1 HV2.out.2.2.1 HV2.out.2.2.2.1 hk4
   rw[HDW.out.1]at c2 c3
   exact⟨⟨S3,h1,HZ3.out,c1⟩,_,hk4,c2,c3,fun b hb=>.inl (by
    rcases List.mem_append.1 hb with hb|hb
    ·exact HV2.out.2.2.2.2.2.1 b hb
    ·exact HV2.out.2.2.2.2.2.2.1 b hb)⟩
  gi_wp2_with fail
  have kk:xe [] V3 V3.drew:=(xe.refl _ _).drew
  have kd:xe [P.p,P.a.s,P.a.k,P.a.m] V3 V3.drew:=(xe.refl _ _).drew
  refine VV (S:=(fun w'=>w'.cell? ⟨bo,0,none⟩=some (.int .i64 (nn:Nat))/\w'.cell? ⟨bo,1,none⟩=some (.int .i64 (rr:Nat))/\w'.cell? ⟨bo,2,none⟩=some (.int .i64 (PL:Nat))/\w'.cell? ⟨bx,0,none⟩=some (ptr x)/\w'.cell? ⟨x,0,none⟩=some (ptr P.a.d))) rfl hmix ?_ (fun hHeld0=>?_)
  ·(try dsimp only);exact HF6.out _ kd
  refine' wpAnyH_take (i:=0) (oi:=_) (v:=_) ?hi1 (by kernel_rfl) (by kernel_rfl) (by kernel_rfl) ?hq1 (Or.inl ⟨?hw1,?hy1⟩) hHeld0 ?rest1
  case hi1=>(simp only[gA,gC];rfl)
  case hq1=>exact fun _ _ _ h=>h
  case hw1=>rfl
  case hy1=>(intro w hSw;(try dsimp only at hSw);go_simp;try (with_reducible rfl))
  (try simp only[Act.put,sA,sB,sC])
  refine' wpAnyH_take (i:=1) (oi:=_) (v:=_) ?hi2 (by kernel_rfl) (by kernel_rfl) (by kernel_rfl) ?hq2 (Or.inl ⟨?hw2,?hy2⟩) hHeld0 ?rest2
  case hi2=>(simp only[gA,gB,gC];rfl)
  case hq2=>exact fun _ _ _ h=>h
  case hw2=>rfl
  case hy2=>(intro w hSw;(try dsimp only at hSw);go_simp;try (with_reducible rfl))
  (try simp only[Act.put,sA,sB,sC])
  refine' wpAnyH_take (i:=2) (oi:=_) (v:=_) ?hi3 (by kernel_rfl) (by kernel_rfl) (by kernel_rfl) ?hq3 (Or.inl ⟨?hw3,?hy3⟩) hHeld0 ?rest3
  case hi3=>(simp only[gA,gB,gC];rfl)
  case hq3=>exact fun _ _ _ h=>h
  case hw3=>rfl
  case hy3=>(intro w hSw;(try dsimp only at hSw);go_simp;try (with_reducible rfl))
  (try simp only[Act.put,sA,sB,sC])
  refine' wpAnyH_take (i:=3) (oi:=_) (v:=_) ?hi4 (by kernel_rfl) (by kernel_rfl) (by kernel_rfl) ?hq4 (Or.inl ⟨?hw4,?hy4⟩) hHeld0 ?rest4
  case hi4=>(simp only[gA,gB,gC];rfl)
  case hq4=>exact fun _ _ _ h=>h
  case hw4=>rfl
  case hy4=>(intro w hSw;(try dsimp only at hSw);go_simp;try (with_reducible rfl))
  (try simp only[Act.put,sA,sB,sC])
  refine' wpAnyH_take (i:=4) (oi:=_) (v:=_) ?hi5 (by kernel_rfl) (by kernel_rfl) (by kernel_rfl) ?hq5 (Or.inl ⟨?hw5,?hy5⟩) hHeld0 ?rest5
  case hi5=>(simp only[gA,gB,gC];rfl)
  case hq5=>exact fun _ _ _ h=>h
  case hw5=>rfl
  case hy5=>(intro w hSw;(try dsimp only at hSw);go_simp;try (with_reducible rfl))
  (try simp only[Act.put,sA,sB,sC])
  refine' wpAnyH_take (i:=5) (oi:=_) (v:=_) ?hi6 (by kernel_rfl) (by kernel_rfl) (by kernel_rfl) ?hq6 (Or.inl ⟨?hw6,?hy6⟩) hHeld0 ?rest6
  case hi6=>(simp only[gA,gB,gC];rfl)
  case hq6=>exact fun _ _ _ h=>h
  case hw6=>rfl
  case hy6=>(intro w hSw;(try dsimp only at hSw);go_simp;try (with_reducible rfl))
  (try simp only[Act.put,sA,sB,sC])
  refine' wpAnyH_take (i:=6) (oi:=_) (v:=_) ?hi7 (by kernel_rfl) (by kernel_rfl) (by kernel_rfl) ?hq7 (Or.inl ⟨?hw7,?hy7⟩) hHeld0 ?rest7
  case hi7=>(simp only[gA,gB,gC];rfl)
  case hq7=>exact fun _ _ _ h=>h
  case hw7=>rfl
  case hy7=>(intro w hSw;(try dsimp only at hSw);go_simp;try (with_reducible rfl))
  (try simp only[Act.put,sA,sB,sC])
  refine wpAnyH_ready (rs:=[7]) (by kernel_rfl) (by simp) ?_
  refine' AllReadyH.cons (o:=_) ?ho9 (fun K hK=>?step9) ?more9
  case ho9=>(simp only[gA,gB,gC];rfl)
  case step9=>
   go_simp
   refine hK.out _ _ ?_ (fun hHeld1=>?_)
   ·(try dsimp only);exact HF6.out _ kd
   clear hK K hHeld0
   (try simp only[Act.put,sA,sB,sC])
   refine wpAnyH_ready (rs:=[8]) (by kernel_rfl) (by simp) ?_
   refine' AllReadyH.cons (o:=_) ?ho11 (fun K hK=>?step11) ?more11
   case ho11=>(simp only[gA,gB,gC];rfl)
   case step11=>
    go_simp
    (go_at_call 103;refine(HPT.out _ kk).mono ?_;rintro e V4 (⟨rfl,hx9⟩|⟨rfl,hx9⟩);rotate_left;exact And.intro (Or.inr ⟨_,rfl,rfl,rfl,(HCT.out _ hx9.out.1 (kd.trans hx9.out.2)).1⟩) (HCT.out _ hx9.out.1 (kd.trans hx9.out.2)).2;have k4:=hx9.out.2;have p4:=hx9.out.1;have kd:=kd.trans k4)
    (try go_wp2_with fail)
    refine hK.out _ _ ?_ (fun hHeld2=>?_)
    ·(try dsimp only);exact HF6.out _ kd
    clear hK K hHeld1
    (try simp only[Act.put,sA,sB,sC])
    refine wpAnyH_done (by kernel_rfl) ?_ _
    refine Zi.normal ?_
    have hv3:=HV3.out
    have hv2:=HV2.out
    have HEN:=hid (zG.next (Z:=W0.heap.size) HS.out HDW.out.1 hv2.2.2.2.2.1 HV.out.2.2.2 HV.out.1 HV.out.2.1 hv2.1 hv2.2.1 hv2.2.2.1 hv2.2.2.2.1 hv2.2.2.2.2.2.1 hv2.2.2.2.2.2.2.1 hv3.1 hv3.2.1 hv3.2.2.1 hv3.2.2.2.1 hv3.2.2.2.2.1 kk k4 (by rw[<-hv3.2.2.2.2.2];unfold setS;rw[if_pos rfl];exact HZ3.out.st (by have:=HS.out.zone HV.out.2.2.2;omega) _) (by rw[<-hv3.2.2.2.2.2];unfold setS;rw[if_pos rfl];exact p4) (Int.le_refl _))
    clear hv3 hv2 hx9 p4 k4 kd kk
    gi_wp2_with fail
    obtain⟨T,hT1,hT2,hT3,hT4⟩:=HEN.out.2
    have hG1:nzC G (t+1)=nzC G t+1:=XJ (by rw[HG.out];show P.S.now (Y+1+t)≠0;rw[HV.out.1];have:=HV.out.2.1;omega)
    have hDw:=HDW.out.1
    refine⟨⟨t+1,HV.out.2.2.2,hG1,HEN.out.1⟩,T,hT1,by rw[<-hDw];exact hT2,by rw[<-hDw];exact hT3,fun b hb=>.inl (hT4 b hb)⟩
   exact AllReadyH.nil
  exact AllReadyH.nil
 case after=>
  intro e w9 hr
  cases e with
  |outgrown=>exact hr.elim
  |panicked ch=>
   obtain⟨⟨rfl,S2,h1,h2,h3⟩,hD⟩:=hr
   refine⟨.inr ⟨_,rfl⟩,?_⟩
   have kd:xe [w'.heap.size] w9 (w9.putObj w'.heap.size (.deferred none)):=(xe.refl _ _).put (.inl (by simp)) _
   refine⟨by simp,.inl ⟨_,_,rfl,run_takeDeferred hD,?_⟩⟩
   have hno:∀b∈[P.p,P.a.d,P.a.s,P.a.k,P.a.m],b∉[w'.heap.size]:=fun b hb h=>by
    have g1:=HS.out.dev b hb
    have g2:=HS.out.xo
    have g3:=HS.out.oo
    have g4:=HS.out.od
    have g5:=HS.out.dd
    have g6:=HDW.out.1
    have g7:=List.mem_singleton.1 h
    omega
   refine Or.inr ⟨rfl,S2,h1.keep kd (hno _ (by simp)) (hno _ (by simp)) (hno _ (by simp)) (hno _ (by simp)) (hno _ (by simp)),h2,((HKW.out.mono (by simp)).trans h3).new kd fun b hb=>.inr ?_⟩
   rw[List.mem_singleton.1 hb]
   exact HKW.out.size
  |returned ve=>
   obtain⟨w10,hend,⟨t,ht,hm,hI⟩,hDf⟩:=hr
   refine⟨w10,hend,.inl rfl,?_⟩
   have hI2:=hI.upto HS.out ht (Nat.le_refl _) (by rw[<-HG.out];exact hm)
   have HI2:=hid hI2
   have HDF:=hid hDf
   clear hend hI hI2 hDf hm ht
   simp only
   go_wp2_with fail
   refine⟨by simp,.inl ⟨_,_,rfl,run_takeDeferred HDF.out,?_⟩⟩
   have kd:xe [D] w10 (w10.putObj D (.deferred none)):=(xe.refl _ _).put (.inl (by simp)) _
   rw[<-HDW.out.1]
   refine⟨.tuple #[],by simp[results,Tryz.results163,go_sem],.inl ⟨rfl,?_⟩⟩
   have hq:=HQ.out
   have hdw:=HDW.out
   have hI3:zG l S' P x mb B yr cr yl cl yq out i n dn u Y bx bo Bo Bd D nn rr PL w' rr (w10.putObj D (.deferred none)):=HI2.out.keep HS.out HDW.out.1 kd (by simp)
   obtain⟨yq',cq',u',S2,h1,h2,hz9,h3,h4,_,h9,h10⟩:=hI3
   rw[List.take_of_length_le (by rw[xdP,<-HYY.out.2.2.1];exact Nat.le_refl _)]at h1 h3
   refine⟨yq',cq',u',S2,h1,h2,hz9,h3,by have:=HS.out.few;omega,(HKW.out.mono (by simp)).trans h10,fun g hg=>?_⟩
   rcases h9 g hg with h|h
   ·exact .inl h
   ·exact .inr (by omega)
end Go.Proofs.YtcdhklgahepcaaaGreat
