import Derived.Test.YtcdhklgahepcaaaGreatSecM
import Derived.Test.YtcdhklgahepcaaaGreatObj
set_option maxHeartbeats 4000000
set_option maxRecDepth 100000
namespace Go.Proofs.YtcdhklgahepcaaaGreat
open Go.RowKit
def VD (p:Nat) (a:DA) (l u:Int) (S:DS) (q:Sc) (c:Cfg) (r:Nat) (w:World):Prop:=
 ∃st f t R U pl wd,SW w p a l u S q c 0 st false f t R U/\Wu c a.n 1 r pl wd U S
def Qq (c:Cfg) (n r:Nat) (K1 K2:Nat->Int) (S':DS):Prop:=∀ch:Nat->Int,∃r' m pl wd K,r'≤r+1/\(K=K1\/K=K2)/\LI c n 1 r' m pl wd K (xz S' ch)
section
variable {c:Cfg} {n r m:Nat} {pl:Nat->Nat} {wd:Nat->Int} {D:Nat->Int} {f t:Int} {R U:Int->Option Value} {S S':DS} {l u:Int} {st:Bool} {ss:List Int}
theorem Wu.cut_begin (h:Wu c n 1 r pl wd U S) (hc:Cut l u S (kpC ss) S') (K:Nat->Int):Qq c n r S.now K S':=fun ch=>by
 refine⟨r,0,pl,wd,S.now,by omega,.inl rfl,LI.crash (LI.none ?_ fun j h1 h2=>yD (fun _ hy=>xR hy _) hc _ (h.cl j h1 h2)) ch⟩
 exact h.lr.pre (yD (fun _ hy=>xR hy _) hc) (fun _ _=>⟨yD (fun _ hy=>xR hy _) hc,yD (fun _ hy=>xR hy _) hc,yD (fun _ hy=>xR hy _) hc⟩) fun _ _ _=>yD (fun _ hy=>xR hy _) hc
theorem xfi (h:LI c n 1 r m pl wd D S) (hc:Cut l u S (kpC ss) S') (ch:Nat->Int):LI c n 1 r m pl wd D (xz S' ch):=
 LI.crash (h.pre (fun _ _=>yD (fun _ hy=>xR hy _) hc) fun _ _ _ _=>yD (fun _ hy=>xR hy _) hc) ch
theorem xdi {i:Nat} {v:Int} (hc:Cut l u S [.st i v] S'):S'=S:=by
 obtain⟨pre,x,post,h0,h1,_⟩:=hc
 cases pre with
 |nil=>exact h1
 |cons y ys=>simp at h0
theorem LI.cut_new (hl:LI c n 1 r m pl wd D S) {i:Nat} {v:Int} (hl2:LI c n 1 r (m+1) (put pl m i) (put wd m (S.now i)) D (xh S (appL c st false m (eN 1 r) i (S.now i)))) (hi:c.act≤i/\i<n) (hm:m<c.log) (hc:Cut l u S (appL c st false m (eN 1 r) i (S.now i)++ [.st i v]) S') (K:Nat->Int):Qq c n r D K S':=fun ch=>by
 rcases hc.parts with hc|hc
 ·rcases xel hl hm i hi hc ch with h1|h1
  ·exact⟨r,_,_,_,D,by omega,.inl rfl,h1⟩
  ·exact⟨r,_,_,_,D,by omega,.inl rfl,h1⟩
 ·rw[xdi hc]
  exact⟨r,_,_,_,D,by omega,.inl rfl,LI.crash hl2 ch⟩
end
section
variable {w w':World} {p:Nat} {a:DA} {l u:Int} {S:DS} {q:Sc} {c:Cfg} {m r:Nat} {f t f' t':Int} {pl:Nat->Nat} {D:Nat->Int}
def HasR (m:Nat) (pl:Nat->Nat) (i:Nat):Prop:=∃k,k<m/\pl k=i
end
open Go.RowKit Go.OpenShut
def yH (p:Nat) (a:DA) (l u:Int) (S:DS) (q:Sc) (c:Cfg) (r:Nat) (w:World):Prop:=
 ∃st f t R U pl wd,SW w p a l u S q c 0 st false f t R U/\LR c a.n 1 r 0 pl wd S/\UIn U a.n
section
variable {w w':World} {p:Nat} {a:DA} {l u u':Int} {S S':DS} {q:Sc} {c:Cfg} {m r:Nat}
theorem VD.shutL (h:VD p a l u S q c r w):yH p a l u S q c r w:=by
 obtain⟨st,f,t,R,U,pl,wd,h1,h2⟩:=h
 exact⟨st,f,t,R,U,pl,wd,h1,h2.lr,h2.uin⟩
theorem yH.pw (h:yH p a l u S q c r w):Pw w p a l u S:=by
 obtain⟨st,f,t,R,U,pl,wd,h1,h2⟩:=h
 exact h1.lw.pw
theorem yH.keep0 (h:yH p a l u S q c r w) (hk:xe [] w w'):yH p a l u S q c r w':=by
 obtain⟨st,f,t,R,U,pl,wd,h1,h2⟩:=h
 exact⟨st,f,t,R,U,pl,wd,h1.keep0 hk,h2⟩
theorem yH.lts (h:yH p a l u S q c r w):∀b∈a.d::q.bl p a,b<w.heap.size:=by
 obtain⟨st,f,t,R,U,pl,wd,h1,h2⟩:=h
 exact h1.lts
theorem yH.sopen (h:yH p a l u S q c r w):Calls Tryz.prog 84 #[ptr q.b] w fun e w'=>e=.returned (.bool false)/\w=w':=by
 obtain⟨st,f,t,R,U,pl,wd,h1,h2⟩:=h
 exact Yd h1
theorem yH.len (h:yH p a l u S q c r w):(∃f t,At w q.b (secO a.d q c false f t))/\Calls Tryz.prog 83 #[ptr q.lb] w fun e w'=>e=.returned (.int .i64 (0:Nat))/\w=w':=by
 obtain⟨st,f,t,R,U,pl,wd,h1,h2⟩:=h
 exact⟨⟨_,_,h1.sec⟩,jv h1.lw⟩
theorem yH.next {T:List Nat} (h:yH p a l u S q c r w) (hP:Pw w' p a l u' S') (hk:xe (T++ [p,a.s,a.k,a.m]) w w') (hT:∀b∈q.bl p a,b∉T) (hpre:∀j,j<c.act->Pre S S' j):yH p a l u' S' q c r w':=by
 obtain⟨st,f,t,R,U,pl,wd,h1,h2,h3⟩:=h
 obtain⟨n1,n2,n3,n4,n5,n6⟩:=h1.ne
 obtain⟨m1,m2,m3,m4,m5⟩:=h1.lw.ne
 have hact:16+4*c.log≤c.act:=(xD (16+4*c.log)).1
 have off:∀b,b∈q.bl p a->b∉[p,a.s,a.k,a.m]->b∉T++ [p,a.s,a.k,a.m]:=fun b h5 h6 h7=>by
  rcases List.mem_append.1 h7 with h|h
  ·exact hT b h5 h
  ·exact h6 h
 simp only[List.mem_cons,List.not_mem_nil,or_false,not_or]at n1 n2 n3
 refine⟨st,f,t,R,U,pl,wd,⟨⟨hP,hk.at h1.lw.log (off _ (by simp[Sc.bl]) ?_)⟩,hk.at h1.sec (off _ (by simp[Sc.bl]) ?_),h1.rm.keep hk (off _ (by simp[Sc.bl]) ?_),h1.um.keep hk (off _ (by simp[Sc.bl]) ?_),h1.ru,h1.ra,h1.ua⟩,h2.pre (hpre 8 (by omega)) (fun i hi=>absurd hi (Nat.not_lt_zero _)) (fun i _ hi=>hpre _ (by omega)),h3⟩
 ·simp only[List.mem_cons,List.not_mem_nil,or_false,not_or];exact⟨m1,m3,m4,m5⟩
 ·simp only[List.mem_cons,List.not_mem_nil,or_false,not_or];exact⟨n1.1,n1.2.1,n1.2.2.1,n1.2.2.2.1⟩
 ·simp only[List.mem_cons,List.not_mem_nil,or_false,not_or];exact⟨n2.1,n2.2.1,n2.2.2.1,n2.2.2.2.1⟩
 ·simp only[List.mem_cons,List.not_mem_nil,or_false,not_or];exact⟨n3.1,n3.2.1,n3.2.2.1,n3.2.2.2.1⟩
theorem yH.shutG (h:yH p a l u S q c r w) (hcl:∀j,c.act≤j->j<a.n->Fix S j (S.now j)):VD p a l u S q c r w:=by
 obtain⟨st,f,t,R,U,pl,wd,h1,h2,h3⟩:=h
 exact⟨st,f,t,R,U,pl,wd,h1,h2,hcl,h3⟩
end
def P8 (S S':DS):Prop:=∀j,j<8->Pre S S' j
theorem P8.refl (S:DS):P8 S S:=fun _ _=>Pre.refl _ _
theorem P8.trans {S S' S'':DS} (h:P8 S S') (h':P8 S' S''):P8 S S'':=fun j hj=>(h j hj).trans (h' j hj)
theorem P8.ex {S:DS} {cs:List Cmd} (h:∀y∈cs,∀j,j<8->y.Off j):P8 S (xh S cs):=fun j hj=>xy fun y hy=>h y hy j hj
theorem P8.cut {S S':DS} {l u:Int} {cs:List Cmd} (h:∀y∈cs,∀j,j<8->y.Off j) (hc:Cut l u S cs S'):P8 S S':=fun j hj=>yD (fun y hy=>h y hy j hj) hc
def inZ (c:Cfg) (Z:Nat->Bool) (j:Nat):Bool:=decide (j<c.act)||Z j
def fx (c:Cfg) (Z:Nat->Bool) (S:DS):DS:=
 ⟨S.now,fun j=>if inZ c Z j=true then S.kept j else S.now j,fun j=>if inZ c Z j=true then S.tok j else S.now j,S.is⟩
structure Sim (c:Cfg) (Z:Nat->Bool) (S T:DS):Prop where
 now:T.now=S.now
 is:T.is=S.is
 kept:∀j,inZ c Z j=true->T.kept j=S.kept j
 tok:∀j,inZ c Z j=true->T.tok j=S.tok j
section
variable {c:Cfg} {Z:Nat->Bool} {S S' T:DS} {l u:Int}
theorem wG {j:Nat} (h:j<c.act):inZ c Z j=true:=by unfold inZ;rw[decide_eq_true h];rfl
theorem Zx {j:Nat} (h:c.act≤j):inZ c Z j=Z j:=by unfold inZ;rw[decide_eq_false (by omega)];rfl
theorem xdd {j:Nat} (h:inZ c Z j=false):c.act≤j/\Z j=false:=by
 have h1:¬j<c.act:=fun h2=>by rw[wG h2]at h;cases h
 exact⟨by omega,by rw[<-Zx (c:=c) (Z:=Z) (j:=j) (by omega)];exact h⟩
theorem vO (c:Cfg) (Z:Nat->Bool) (S:DS):Sim c Z S (fx c Z S):=⟨rfl,rfl,fun _ h=>if_pos h,fun _ h=>if_pos h⟩
theorem xdg {j:Nat} (h:inZ c Z j=false):Fix (fx c Z S) j (S.now j):=by
 unfold Fix All fx
 simp[h]
theorem Sim.exec (h:Sim c Z S T) (y:Cmd):Sim c Z (Go.Proofs.YtcdhklgahepcaaaGreat.exec S y) (Go.Proofs.YtcdhklgahepcaaaGreat.exec T y):=by
 obtain⟨h1,h2,h3,h4⟩:=h
 cases y with
 |st i v=>exact⟨by show put T.now i v=put S.now i v;rw[h1],h2,h3,h4⟩
 |fl i=>exact⟨h1,by show put T.is (i/8) true=put S.is (i/8) true;rw[h2],h3,fun j hj=>by show(if j/8=i/8 then T.now j else T.tok j)=(if j/8=i/8 then S.now j else S.tok j);rw[h1,h4 j hj]⟩
 |fe=>exact⟨h1,rfl,fun j hj=>by show(if T.is (j/8)=true then T.tok j else T.kept j)=(if S.is (j/8)=true then S.tok j else S.kept j);rw[h2,h3 j hj,h4 j hj],h4⟩
theorem Sim.xh:∀ {cs:List Cmd} {S T:DS},Sim c Z S T->Sim c Z (Go.Proofs.YtcdhklgahepcaaaGreat.xh S cs) (Go.Proofs.YtcdhklgahepcaaaGreat.xh T cs)
 | [],_,_,h=>h
 |y::cs,S,T,h=>by rw[yV,yV];exact Sim.xh (h.exec y)
theorem Sim.all (h:Sim c Z S T) {j:Nat} (hj:inZ c Z j=true) {q:Int->Prop} :All T j q↔All S j q:=by
 unfold All
 rw[h.now,h.is,h.kept j hj,h.tok j hj]
theorem Sim.left (h:Sim c Z S T) {j:Nat} (hj:inZ c Z j=true) (x:Int):leftV T j x=leftV S j x:=by
 unfold leftV
 rw[h.now,h.is,h.kept j hj,h.tok j hj]
theorem Sim.cut {cs:List Cmd} (h:Sim c Z S T) (hc:Cut l u S cs S'):∃T',Cut l u T cs T'/\Sim c Z S' T':=by
 obtain⟨pre,y,post,rfl,rfl,h3⟩:=hc
 exact⟨_,⟨pre,y,post,rfl,rfl,h3⟩,h.xh⟩
theorem xa3 {j:Nat} (h:inZ c Z j=true) {q:Int->Prop} :All (fx c Z S) j q↔All S j q:=(vO c Z S).all h
def StZ (c:Cfg) (Z:Nat->Bool) (cs:List Cmd):Prop:=∀y∈cs,∀j,inZ c Z j=false->y.Off j
theorem xd8 {y:Cmd} (h:∀j,inZ c Z j=false->y.Off j):fx c Z (exec S y)=exec (fx c Z S) y:=by
 cases y with
 |st i v=>
  have hi:inZ c Z i=true:=by
   cases hz:inZ c Z i with
   |true=>rfl
   |false=>exact absurd rfl (h i hz)
  unfold fx exec put
  simp only[DS.mk.injEq,and_true,true_and]
  refine⟨?_,?_⟩<;>
  ·funext j
   by_cases e:j=i
   ·subst e;simp[hi]
   ·simp[e]
 |fl i=>
  unfold fx exec
  simp only[DS.mk.injEq,and_true,true_and]
  funext j
  by_cases e:inZ c Z j=true<;>by_cases e2:j/8=i/8<;>simp[e,e2]
 |fe=>
  unfold fx exec
  simp only[DS.mk.injEq,and_true,true_and]
  funext j
  by_cases e:inZ c Z j=true<;>by_cases e2:S.is (j/8)=true<;>simp[e,e2]
theorem vH:∀ {cs:List Cmd} {S:DS},StZ c Z cs->fx c Z (xh S cs)=xh (fx c Z S) cs
 | [],_,_=>rfl
 |y::cs,S,h=>by
  rw[yV,yV,vH fun x hx=>h x (List.mem_cons_of_mem _ hx),xd8 (h y List.mem_cons_self)]
theorem StZ.app {A B:List Cmd} (h:StZ c Z A) (h':StZ c Z B):StZ c Z (A++B):=fun y hy=>by
 rcases List.mem_append.1 hy with hy|hy
 ·exact h y hy
 ·exact h' y hy
theorem StZ.kp (ss:List Int):StZ c Z (kpC ss):=fun _ hy j _=>xR hy j
theorem Y8 (c:Cfg):16+4*c.log≤c.act:=(xD (16+4*c.log)).1
theorem StZ.log {st:Bool} {m e i:Nat} {v:Int} (hm:m<c.log):StZ c Z (appL c st false m e i v):=fun y hy j hj=>by
 have h1:=(xdd hj).1
 have h2:=Y8 c
 exact Yr hy (by omega) (by omega) (by omega)
theorem StZ.tru {st:Bool} {m e:Nat} :StZ c Z (truS c st m e):=fun y hy j hj=>by
 have h1:=(xdd hj).1
 have h2:=Y8 c
 exact Yc hy (by omega)
theorem Sim.lr {n r m:Nat} {pl:Nat->Nat} {wd:Nat->Int} (hs:Sim c Z S T):LR c n 1 r m pl wd T↔LR c n 1 r m pl wd S:=by
 have ha:=Y8 c
 refine⟨fun h=>?_,fun h=>?_⟩
 ·have hle:=h.le
  have hp:∀j,j<c.act->Pre T S j:=fun j hj q hq=>(hs.all (wG hj)).1 hq
  exact h.pre (hp 8 (by omega)) (fun i hi=>⟨hp _ (by omega),hp _ (by omega),hp _ (by omega)⟩) fun i _ hi=>hp _ (by omega)
 ·have hle:=h.le
  have hp:∀j,j<c.act->Pre S T j:=fun j hj q hq=>(hs.all (wG hj)).2 hq
  exact h.pre (hp 8 (by omega)) (fun i hi=>⟨hp _ (by omega),hp _ (by omega),hp _ (by omega)⟩) fun i _ hi=>hp _ (by omega)
def zR (c:Cfg) (Z:Nat->Bool) (n r:Nat) (K1 K2:Nat->Int) (S':DS):Prop:=
 ∀ch:Nat->Int,∃r' m pl wd K,r'≤r+1/\((∀j,c.act≤j->j<n->Z j=true->K j=K1 j)\/(∀j,c.act≤j->j<n->Z j=true->K j=K2 j))/\LI c n 1 r' m pl wd K (xz S' ch)
theorem LI.unsim {n r m:Nat} {pl:Nat->Nat} {wd:Nat->Int} {K:Nat->Int} {ch:Nat->Int} (h:LI c n 1 r m pl wd K (xz T ch)) (hs:Sim c Z S' T):∃pl' wd' K',(∀j,Z j=true->K' j=K j)/\LI c n 1 r m pl' wd' K' (xz S' ch):=by
 obtain⟨h3,h4⟩:=h
 have hz:∀j,inZ c Z j=true->∀q:Int->Prop,All (xz T ch) j q->All (xz S' ch) j q:=fun j hj q hq=>by
  rw[yF]at hq⊢
  rw[<-hs.left hj]
  exact hq
 have ha:=Y8 c
 have hle:=h3.le
 obtain⟨K',hK⟩:∃K':Nat->Int,∀j,((Z j=true\/∃i,i<m/\pl i=j)->K' j=K j)/\(¬(Z j=true\/∃i,i<m/\pl i=j)->K' j=(xz S' ch).now j):=by
  classical
  exact⟨fun j=>if Z j=true\/∃i,i<m/\pl i=j then K j else(xz S' ch).now j,fun j=>⟨fun h=>if_pos h,fun h=>if_neg h⟩⟩
 refine⟨pl,wd,K',fun j hj=>(hK j).1 (.inl hj),h3.pre (hz 8 (wG (by omega))) (fun i hi=>⟨hz _ (wG (by omega)),hz _ (wG (by omega)),hz _ (wG (by omega))⟩) (fun i _ hi=>hz _ (wG (by omega))),fun j a b=>?_⟩
 by_cases hp:∃i,i<m/\pl i=j
 ·rcases h4 j a b with h5|⟨h5,_⟩
  ·obtain⟨i,g1,g2,g3,g4⟩:=h5
   exact .inl ⟨i,g1,g2,by rw[(hK j).1 (.inr hp)];exact g3,g4⟩
  ·obtain⟨i,g1,g2⟩:=hp
   exact absurd g2 (h5 i g1)
 ·right
  refine⟨fun i hi e=>hp ⟨i,hi,e⟩,?_⟩
  cases hj:Z j with
  |true=>
   rw[(hK j).1 (.inl hj)]
   rcases h4 j a b with⟨i,g1,g2,_⟩|⟨_,h5⟩
   ·exact absurd ⟨i,g1,g2⟩ hp
   ·exact hz j (by rw[Zx a];exact hj) _ h5
  |false=>
   rw[(hK j).2 (fun h=>by rcases h with h|h;· rw[hj]at h;cases h
                          ·exact hp h)]
   exact⟨rfl,rfl,fun h=>by cases h⟩
theorem Qq.un {n r:Nat} {K1 K2:Nat->Int} (h:Qq c n r K1 K2 T) (hs:Sim c Z S' T):zR c Z n r K1 K2 S':=fun ch=>by
 obtain⟨r',m,pl,wd,K,h1,h2,h3⟩:=h ch
 obtain⟨pl',wd',K',g1,g2⟩:=h3.unsim hs
 refine⟨r',m,pl',wd',K',h1,?_,g2⟩
 rcases h2 with rfl|rfl
 ·exact .inl fun j _ _ hj=>g1 j hj
 ·exact .inr fun j _ _ hj=>g1 j hj
end
structure XU (Z:Nat->Bool) (M:Nat->Prop) (c:Cfg) (n r m:Nat) (pl:Nat->Nat) (wd:Nat->Int) (D:Nat->Int) (f t:Int) (R U:Int->Option Value) (S:DS):Prop where
 so:XA c n 1 r m pl wd D f t R U (fx c Z S)
 fz:∀j:Nat,j<n->xA f t (j:Nat)=true->Z j=false
 mks:∀j,M j->U ((j/8:Nat):Int)≠none
def zF (Z:Nat->Bool) (M:Nat->Prop) (p:Nat) (a:DA) (l u:Int) (S:DS) (q:Sc) (c:Cfg) (m r:Nat) (pl:Nat->Nat) (D:Nat->Int) (f t:Int) (w:World):Prop:=
 ∃st wd R U,SW w p a l u S q c m st true f t R U/\XU Z M c a.n r m pl wd D f t R U S
def yX (Z:Nat->Bool) (p:Nat) (a:DA) (l u:Int) (S:DS) (q:Sc) (c:Cfg) (r:Nat) (w:World):Prop:=
 ∃st f t R U pl wd,SW w p a l u S q c 0 st false f t R U/\Wu c a.n 1 r pl wd U (fx c Z S)
def xer (Z:Nat->Bool) (p:Nat) (a:DA) (l:Int) (S:DS) (c:Cfg) (r:Nat) (K1 K2:Nat->Int) (bl:List Nat) (w:World) (e:Ending) (w':World):Prop:=
 e=.panicked [{ v:=xP,recovered:=false }]/\(∃S',Pw w' p a l l S'/\zR c Z a.n r K1 K2 S'/\P8 S S')/\xe bl w w'
section
variable {Z:Nat->Bool} {M:Nat->Prop} {w w':World} {p:Nat} {a:DA} {l u:Int} {S S':DS} {q:Sc} {c:Cfg} {m r:Nat} {f t f' t':Int} {pl:Nat->Nat} {D:Nat->Int} {wd:Nat->Int} {R U:Int->Option Value} {st:Bool} {n:Nat} {ss:List Int}
def DF (f t:Int) (D now:Nat->Int) (j:Nat):Int:=if xA f t j=true then now j else D j
theorem XU.li (h:XU Z M c n r m pl wd D f t R U S):LI c n 1 r m pl wd (DF f t D S.now) (fx c Z S):=by
 refine⟨h.so.lr,fun j h1 h2=>?_⟩
 unfold DF
 cases hf:xA f t (j:Nat)with
 |false=>
  have h3:=h.so.un j h1 h2 hf
  unfold Und at h3⊢
  simp only[hf]
  exact h3
 |true=>
  refine .inr ⟨fun i hi e=>?_,?_⟩
  ·have h3:=h.so.nf i hi
   rw[e,hf]at h3
   cases h3
  ·show Fix (fx c Z S) j (if xA f t (j:Nat)=true then S.now j else D j)
   rw[if_pos hf]
   exact xdg (by rw[Zx h1];exact h.fz j h2 hf)
theorem zR.df {K2:Nat->Int} {now:Nat->Int} (h:zR c Z n r (DF f t D now) K2 S) (hf:∀j:Nat,j<n->xA f t (j:Nat)=true->Z j=false):zR c Z n r D K2 S:=fun ch=>by
 obtain⟨r',m,pl,wd,K,g1,g2,g3⟩:=h ch
 refine⟨r',m,pl,wd,K,g1,?_,g3⟩
 rcases g2 with g2|g2
 ·refine .inl fun j a b d=>?_
  rw[g2 j a b d]
  unfold DF
  rw[if_neg fun e=>by rw[hf j b e]at d;cases d]
 ·exact .inr g2
theorem zR.one {K1 K2:Nat->Int} (h:zR c Z n r K1 K2 S) (he:∀j,c.act≤j->j<n->Z j=true->K2 j=K1 j):zR c Z n r K1 K1 S:=fun ch=>by
 obtain⟨r',m,pl,wd,K,g1,g2,g3⟩:=h ch
 exact⟨r',m,pl,wd,K,g1,.inl fun j a b d=>by rcases g2 with g2|g2;exact g2 j a b d;rw[g2 j a b d,he j a b d],g3⟩
theorem zR.df2 {now:Nat->Int} (h:zR c Z n r (DF f t D now) (DF f t D now) S) (hf:∀j:Nat,j<n->xA f t (j:Nat)=true->Z j=false):zR c Z n r D D S:=(h.df hf).one fun j _ b d=>by
 unfold DF
 rw[if_neg fun e=>by rw[hf j b e]at d;cases d]
theorem zR.two {K1:Nat->Int} (h:zR c Z n r K1 K1 S) (K2:Nat->Int):zR c Z n r K1 K2 S:=fun ch=>by
 obtain⟨r',m,pl,wd,K,g1,g2,g3⟩:=h ch
 exact⟨r',m,pl,wd,K,g1,.inl (by rcases g2 with g2|g2<;>exact g2),g3⟩
theorem zR.snd {K1 K2 K3:Nat->Int} (h:zR c Z n r K1 K2 S) (he:∀j,c.act≤j->j<n->Z j=true->K2 j=K3 j):zR c Z n r K1 K3 S:=fun ch=>by
 obtain⟨r',m,pl,wd,K,g1,g2,g3⟩:=h ch
 refine⟨r',m,pl,wd,K,g1,?_,g3⟩
 rcases g2 with g2|g2
 ·exact .inl g2
 ·exact .inr fun j a b d=>(g2 j a b d).trans (he j a b d)
theorem jE {i j:Nat} (v:Int) (h:j≠i):Pre (fx c Z S) (fx c Z (xh S [.st i v])) j:=fun q hq=>by
 unfold All fx at hq⊢
 simp only[Zl,if_neg h]
 exact hq
theorem XU.store (h:XU Z M c n r m pl wd D f t R U S) {i:Nat} (v:Int) (hi:c.act≤i/\i<n) (hr:xA f t i=true\/∃k,k<m/\pl k=i):XU Z (fun j=>M j\/j=i) c n r m pl wd D f t R (mkU U i) (xh S [.st i v]):=by
 have ha:=Y8 c
 have hle:=h.so.lr.le
 refine⟨⟨h.so.lr.pre (jE v (by omega)) (fun k hk=>⟨jE v (by omega),jE v (by omega),jE v (by omega)⟩) (fun k _ hk=>jE v (by omega)),fun j h1 h2 h3=>?_,h.so.ri,h.so.inj,h.so.nf,fun j h1 h2 h3=>?_,h.so.uin.mark hi.2⟩,h.fz,fun j h1 h2=>?_⟩
 ·rcases h.so.un j h1 h2 h3 with h4|⟨h4,h5⟩
  ·exact .inl h4
  ·refine .inr ⟨h4,jE v (fun e=>?_) _ h5⟩
   subst e
   rcases hr with hr|⟨k,hk,hkj⟩
   ·rw[h3]at hr;cases hr
   ·exact h4 k hk hkj
 ·obtain⟨h4,h5⟩:=Z9 h3
  have hne:j≠i:=fun e=>h4 (by rw[e])
  show Fix _ j ((xh S [.st i v]).now j)
  rw[Zl,if_neg hne]
  exact jE v hne _ (h.so.cl j h1 h2 h5)
 ·obtain⟨h4,h5⟩:=Z9 h2
  rcases h1 with h1|rfl
  ·exact h.mks j h1 h5
  ·exact h4 rfl
theorem XU.new (h:XU Z M c n r m pl wd D f t R U S) {i:Nat} (hi:c.act≤i/\i<n) (hm:m<c.log) (hf:xA f t i=false) (hn:∀k,k<m->pl k≠i):
  XU Z M c n r (m+1) (put pl m i) (put wd m (S.now i)) D f t (fun z=>if z=(i:Int)then some (.int .u64 (eN 1 r:Nat))else R z) U (xh S (appL c st false m (eN 1 r) i (S.now i))):=by
 refine⟨?_,h.fz,h.mks⟩
 rw[vH (StZ.log hm)]
 exact h.so.new (st:=st) hi hm hf hn
theorem zF.keep {T:List Nat} (h:zF Z M p a l u S q c m r pl D f t w) (hk:xe T w w') (hT:∀b∈a.d::q.bl p a,b∉T):zF Z M p a l u S q c m r pl D f t w':=by
 obtain⟨st,wd,R,U,h1,h2⟩:=h
 exact⟨st,wd,R,U,h1.keep hk (fun b hb=>hT b (List.mem_cons_of_mem _ hb)) (hT _ (by simp)),h2⟩
theorem yX.keep {T:List Nat} (h:yX Z p a l u S q c r w) (hk:xe T w w') (hT:∀b∈a.d::q.bl p a,b∉T):yX Z p a l u S q c r w':=by
 obtain⟨st,f,t,R,U,pl,wd,h1,h2⟩:=h
 exact⟨st,f,t,R,U,pl,wd,h1.keep hk (fun b hb=>hT b (List.mem_cons_of_mem _ hb)) (hT _ (by simp)),h2⟩
theorem zF.keep0 (h:zF Z M p a l u S q c m r pl D f t w) (hk:xe [] w w'):zF Z M p a l u S q c m r pl D f t w':=h.keep hk (by simp)
theorem yX.keep0 (h:yX Z p a l u S q c r w) (hk:xe [] w w'):yX Z p a l u S q c r w':=h.keep hk (by simp)
theorem zF.pw (h:zF Z M p a l u S q c m r pl D f t w):Pw w p a l u S:=by
 obtain⟨st,wd,R,U,h1,h2⟩:=h
 exact h1.lw.pw
theorem yX.pw (h:yX Z p a l u S q c r w):Pw w p a l u S:=by
 obtain⟨st,f,t,R,U,pl,wd,h1,h2⟩:=h
 exact h1.lw.pw
theorem zF.lts (h:zF Z M p a l u S q c m r pl D f t w):∀b∈a.d::q.bl p a,b<w.heap.size:=by
 obtain⟨st,wd,R,U,h1,h2⟩:=h
 exact h1.lts
theorem yX.lts (h:yX Z p a l u S q c r w):∀b∈a.d::q.bl p a,b<w.heap.size:=by
 obtain⟨st,f,t,R,U,pl,wd,h1,h2⟩:=h
 exact h1.lts
theorem yX.shutL (h:yX Z p a l u S q c r w):yH p a l u S q c r w:=by
 obtain⟨st,f,t,R,U,pl,wd,h1,h2⟩:=h
 exact⟨st,f,t,R,U,pl,wd,h1,(vO c Z S).lr.1 h2.lr,h2.uin⟩
theorem yX.fix (h:yX Z p a l u S q c r w) {j:Nat} (h1:c.act≤j) (h2:j<a.n) (h3:Z j=true):Fix S j (S.now j):=by
 obtain⟨st,f,t,R,U,pl,wd,_,h4⟩:=h
 exact(xa3 (by rw[Zx h1];exact h3)).1 (h4.cl j h1 h2)
theorem yH.shutH (h:yH p a l u S q c r w) (hz:∀j,c.act≤j->j<a.n->Z j=true->Fix S j (S.now j)):yX Z p a l u S q c r w:=by
 obtain⟨st,f,t,R,U,pl,wd,h1,h2,h3⟩:=h
 refine⟨st,f,t,R,U,pl,wd,h1,(vO c Z S).lr.2 h2,fun j a b=>?_,h3⟩
 cases hj:inZ c Z j with
 |true=>exact(xa3 hj).2 (hz j a b (by rw[<-Zx (c:=c) (Z:=Z) (j:=j) a];exact hj))
 |false=>exact xdg hj
theorem xd7 (c:Cfg) (S:DS):fx c (fun _=>true) S=S:=by
 unfold fx inZ
 simp
theorem XF:yX (fun _=>true) p a l u S q c r w=VD p a l u S q c r w:=by
 unfold yX VD
 simp only[xd7]
theorem yX.less {Z':Nat->Bool} (h:yX Z p a l u S q c r w) (hz:∀j,c.act≤j->j<a.n->Z' j=true->Z j=true):yX Z' p a l u S q c r w:=h.shutL.shutH fun j h1 h2 h3=>h.fix h1 h2 (hz j h1 h2 h3)
theorem xbq (h:yX Z p a l u S q c r w) (hc:c.Ok) (hn:c.words=a.n) (hb:u<4000000000000) (f' t':Int) (hf:∀j:Nat,j<a.n->xA f' t' (j:Nat)=true->Z j=false):
  Calls Tryz.prog 88 #[ptr q.b,spV f' t'] w fun e w'=>(e=.returned (.int .i64 0)/\∃u' S' pl,zF Z (fun _=>False) p a l u' S' q c 0 r pl S.now f' t' w'/\S'.now=S.now/\P8 S S'/\u'≤u+3000/\xe (q.bl p a) w w')\/xer Z p a l S c r S.now S.now (q.bl p a) w e w':=by
 obtain⟨st,f,t,R,U,pl,wd,h1,h2⟩:=h
 have hci:=c_in hc hn
 refine(Vx h1 h2.uin hci.2.1 hci.2.2.2.2 (by omega)).mono ?_
 rintro e w' ⟨ss,hss,⟨rfl,h3,hk⟩|⟨rfl,⟨S',hcut,h3⟩,hk⟩⟩
 ·have:=h2.uin.few hci.2.2.2.2 hss
  have h5:=h2.begin f' t' ss
  rw[<-vH (StZ.kp ss)]at h5
  exact .inl ⟨rfl,_,_,pl,⟨_,wd,_,_,h3,h5,hf,fun _ h=>h.elim⟩,funext fun j=>Wi _ _ _,P8.ex fun y hy j _=>xR hy j,by rw[YR];omega,hk⟩
 ·obtain⟨T',hT,hs⟩:=(vO c Z S).cut hcut
  exact .inr ⟨rfl,⟨S',h3,(h2.cut_begin hT S.now).un hs,P8.cut (fun y hy j _=>xR hy j) hcut⟩,hk⟩
def xcZ (c:Cfg) (Z:Nat->Bool) (M:Nat->Prop) (n r:Nat) (K1 K2:Nat->Int) (S':DS):Prop:=
 ∀ch:Nat->Int,∃r' m pl wd K,r'≤r+1/\((∀j,c.act≤j->j<n->Z j=true->K j=K1 j)\/(∀j,c.act≤j->j<n->(Z j=true\/M j)->K j=K2 j))/\LI c n 1 r' m pl wd K (xz S' ch)
theorem xcZ.h {K1 K2:Nat->Int} (h:xcZ c Z M n r K1 K2 S):zR c Z n r K1 K2 S:=fun ch=>by
 obtain⟨r',m,pl,wd,K,g1,g2,g3⟩:=h ch
 exact⟨r',m,pl,wd,K,g1,g2.imp id fun h j a b d=>h j a b (.inl d),g3⟩
theorem XU.com_fix (h:XU Z M c n r m pl wd D f t R U S) (hK:KeysOf U ss) {j:Nat} (h1:c.act≤j) (h2:j<n) (h3:Z j=true\/M j):Fix (xh S (kpC ss)) j (S.now j):=by
 rcases h3 with h3|h3
 ·have h4:=h.so.kept hK j h1 h2
  rw[<-vH (StZ.kp ss)]at h4
  exact(xa3 (by rw[Zx h1];exact h3)).1 h4
 ·refine jw ((hK.2 _).2 ?_)
  rw[Option.isSome_iff_ne_none]
  exact h.mks j h3
theorem XU.cut_com (h:XU Z M c n r m pl wd D f t R U S) (hK:KeysOf U ss) (hc:Cut l u S (kpC ss++truS c st m (eN 1 r)) S'):xcZ c Z M n r D S.now S':=fun ch=>by
 have ha:=Y8 c
 have one:∀ {T':DS} {m':Nat} {pl':Nat->Nat} {wd':Nat->Int},Sim c Z S' T'->LI c n 1 r m' pl' wd' (DF f t D S.now) (xz T' ch)->∃r' m pl wd K,r'≤r+1/\((∀j,c.act≤j->j<n->Z j=true->K j=D j)\/(∀j,c.act≤j->j<n->(Z j=true\/M j)->K j=S.now j))/\LI c n 1 r' m pl wd K (xz S' ch):=fun {T' m' pl' wd'} hs hL=>by
  obtain⟨pl2,wd2,K,g2,g3⟩:=hL.unsim hs
  refine⟨r,m',pl2,wd2,K,by omega,.inl fun j a b d=>?_,g3⟩
  rw[g2 j d]
  unfold DF
  rw[if_neg fun e=>by rw[h.fz j b e]at d;cases d]
 rcases hc.parts with hc|hc
 ·obtain⟨T',hT,hs⟩:=(vO c Z S).cut hc
  exact one hs (xfi h.li hT ch)
 ·have hs1:Sim c Z (xh S (kpC ss)) (xh (fx c Z S) (kpC ss)):=(vO c Z S).xh
  obtain⟨T',hT,hs⟩:=hs1.cut hc
  have hli:LI c n 1 r m pl wd (DF f t D S.now) (xh (fx c Z S) (kpC ss)):=h.li.pre (fun _ _=>xy fun _ hy=>xR hy _) fun _ _ _ _=>xy fun _ hy=>xR hy _
  unfold truS at hT hc
  by_cases h0:m=0
  ·rw[if_pos h0]at hT
   obtain⟨pre,k,post,e,_,_⟩:=hT
   cases pre<;>simp at e
  ·rw[if_neg h0]at hT hc
   have hoff:∀j,c.act≤j->Pre (xh (fx c Z S) (kpC ss)) (xz T' ch) j:=fun j hj=>(yD (fun y hy=>zH hy (by omega)) hT).trans (xL _ _ _)
   have hofs:∀j,c.act≤j->Pre (xh S (kpC ss)) (xz S' ch) j:=fun j hj=>(yD (fun y hy=>zH hy (by omega)) hc).trans (xL _ _ _)
   rcases xdr hli.1 hT ch pl wd with h1|h1
   ·exact one hs ⟨h1,hli.2.pre fun j a _ _=>hoff j a⟩
   ·refine⟨r+1,0,pl,wd,(xz S' ch).now,by omega,.inr fun j a b d=>(hofs j a _ (h.com_fix hK a b d)).1,⟨?_,fun j a b=>.inr ⟨fun i hi=>absurd hi (Nat.not_lt_zero _),rfl,rfl,fun e=>by cases e⟩⟩⟩
    have hz:∀j,j<c.act->∀q:Int->Prop,All (xz T' ch) j q->All (xz S' ch) j q:=fun j hj q hq=>by
     rw[yF]at hq⊢
     rw[<-hs.left (wG hj)]
     exact hq
    exact h1.pre (hz 8 (by omega)) (fun i hi=>absurd hi (Nat.not_lt_zero _)) fun i _ hi=>hz _ (by omega)
theorem J3 (h:zF Z M p a l u S q c m r pl D f t w) (hc:c.Ok) (hn:c.words=a.n) (hb:u<4000000000000):
  Calls Tryz.prog 86 #[ptr q.b] w fun e w'=>(e=.returned (.int .i64 0)/\∃u' S',yX Z p a l u' S' q c (rS m r) w'/\(∀j,c.act≤j->j<a.n->S'.now j=S.now j)/\(∀j,c.act≤j->j<a.n->(Z j=true\/M j)->Fix S' j (S.now j))/\P8 S S'/\u'≤u+3000/\xe (q.bl p a) w w')\/(e=.panicked [{ v:=xP,recovered:=false }]/\(∃S',Pw w' p a l l S'/\xcZ c Z M a.n r D S.now S'/\P8 S S')/\xe (q.bl p a) w w'):=by
 obtain⟨st,wd,R,U,h1,h2⟩:=h
 have hci:=c_in hc hn
 have ha:=Y8 c
 have h8:∀ss,∀y∈kpC ss++truS c st m (eN 1 r),∀j,j≠8->y.Off j:=fun ss y hy j hj=>by
  rcases List.mem_append.1 hy with hy|hy
  ·exact xR hy j
  ·exact Yc hy hj
 have hlr:=(vO c Z S).lr.1 h2.so.lr
 refine(qZ h1 h2.so.uin hc hn hlr (by omega)).mono ?_
 rintro e w' ⟨ss,hss,⟨rfl,h3,hk⟩|⟨rfl,⟨S',hcut,h3⟩,hk⟩⟩
 ·have:=h2.so.uin.few hci.2.2.2.2 hss
  have h4:=h2.so.commit (st:=st) hss
  rw[<-vH ((StZ.kp ss).app StZ.tru)]at h4
  have hl:=Zr hc.small st
  refine .inl ⟨rfl,_,_,⟨_,_,_,_,_,_,_,h3,h4.1⟩,fun j h5 h6=>xJ _ _ fun y hy=>h8 ss y hy j (by omega),fun j h5 h6 h7=>?_,P8.ex fun y hy j hj=>h8 ss y hy j (by omega),?_,hk⟩
  ·rw[xg]
   exact xy (fun y hy=>Yc hy (by omega)) _ (h2.com_fix hss h5 h6 h7)
  ·rw[List.length_append,YR]
   have:(truS c st m (eN 1 r)).length≤1000:=by
    unfold truS
    split
    ·simp
    ·simp[truL,kpL];omega
   omega
 ·exact .inr ⟨rfl,⟨S',h3,h2.cut_com hss hcut,P8.cut (fun y hy j hj=>h8 ss y hy j (by omega)) hcut⟩,hk⟩
theorem jJ (h:yX Z p a l u S q c r w):Calls Tryz.prog 86 #[ptr q.b] w fun e w'=>e=.returned (.int .i64 2)/\w=w':=by
 obtain⟨st,f,t,R,U,pl,wd,h1,h2⟩:=h
 exact xbj h1
theorem xdA (h:zF Z M p a l u S q c m r pl D f t w):Calls Tryz.prog 84 #[ptr q.b] w fun e w'=>e=.returned (.bool true)/\w=w':=by
 obtain⟨st,wd,R,U,h1,h2⟩:=h
 exact Yd h1
theorem Zp (h:yX Z p a l u S q c r w):Calls Tryz.prog 84 #[ptr q.b] w fun e w'=>e=.returned (.bool false)/\w=w':=by
 obtain⟨st,f,t,R,U,pl,wd,h1,h2⟩:=h
 exact Yd h1
theorem xeA (h:zF Z M p a l u S q c m r pl D f t w):At w q.b (secO a.d q c true f t)/\Calls Tryz.prog 83 #[ptr q.lb] w fun e w'=>e=.returned (.int .i64 m)/\w=w':=by
 obtain⟨st,wd,R,U,h1,h2⟩:=h
 exact⟨h1.sec,jv h1.lw⟩
theorem WE (h:zF Z M p a l u S q c m r pl D f t w) (hs:c.Small) (i v:Int) (hi:i<(c.act:Int)\/(a.n:Int)≤i):Calls Tryz.prog 91 #[ptr q.b,.int .i64 i,.int .u64 v] w fun e w'=>e=.returned (.int .i64 1)/\xe [] w w':=by
 obtain⟨st,wd,R,U,h1,h2⟩:=h
 exact qj h1 hs i v hi
def xe5 (Z:Nat->Bool) (M:Nat->Prop) (p:Nat) (a:DA) (l u:Int) (S:DS) (q:Sc) (c:Cfg) (m r:Nat) (pl:Nat->Nat) (D:Nat->Int) (f t:Int) (i:Nat) (v:Int) (w:World) (e:Ending) (w':World):Prop:=
 (e=.returned (.int .i64 3)/\(xA f t i=false/\¬HasR m pl i/\m=c.log)/\xe [] w w')\/
 (e=.returned (.int .i64 0)/\∃u' S' m' pl',zF Z (fun j=>M j\/j=i) p a l u' S' q c m' r pl' D f t w'/\((m'=m/\pl'=pl/\(xA f t i=true\/HasR m pl i))\/(m'=m+1/\pl'=put pl m i/\m<c.log/\xA f t i=false/\¬HasR m pl i))/\
   (∀j,c.act≤j->j<a.n->S'.now j=if j=i then v else S.now j)/\P8 S S'/\u'≤u+3000/\xe (q.bl p a) w w')\/
 xer Z p a l S c r D D (q.bl p a) w e w'
theorem Jc (h:zF Z M p a l u S q c m r pl D f t w) (hc:c.Ok) (hn:c.words=a.n) (hb:u<4000000000000) (hrb:r<4294967296) (i:Nat) (v:Int) (hi:c.act≤i/\i<a.n):
  Calls Tryz.prog 91 #[ptr q.b,.int .i64 i,.int .u64 v] w (xe5 Z M p a l u S q c m r pl D f t i v w):=by
 obtain⟨st,wd,R,U,h1,h2⟩:=h
 have hci:=c_in hc hn
 have ha:=Y8 c
 have hlr:=(vO c Z S).lr.1 h2.so.lr
 have h81:∀y∈([.st i v]:List Cmd),∀j,j<8->y.Off j:=fun y hy j hj=>by
  rw[List.mem_singleton]at hy
  subst hy
  show i≠j
  omega
 by_cases hp:xA f t i=true\/HasR m pl i
 ·refine(qm h1 hc.small (eN 1 r) (jH 1 r) hlr.ep.1 hci.2.1 hci.2.2.2.2 i v hi ?_ (by omega)).mono ?_
  ·cases hf:xA f t (i:Nat)with
   |true=>exact .inl rfl
   |false=>
    rcases hp with hp|⟨k,hk,rfl⟩
    ·rw[hf]at hp;cases hp
    ·exact .inr ⟨rfl,h2.so.ri.1 k hk⟩
  ·rintro e w' (⟨rfl,h3,hk⟩|⟨rfl,⟨S',hcut,h3⟩,hk⟩)
   ·exact .inr (.inl ⟨rfl,_,_,m,pl,⟨_,_,_,_,h3,h2.store v hi hp⟩,.inl ⟨rfl,rfl,hp⟩,fun j _ _=>Zl _ _ _ _,P8.ex h81,by have:(([Cmd.st i v]:List Cmd).length:Int)=1:=rfl;omega,hk⟩)
   ·rw[xdi hcut]at h3
    exact .inr (.inr ⟨rfl,⟨S,h3,(Qq.un (fun ch=>⟨r,m,pl,wd,_,by omega,.inl rfl,LI.crash h2.li ch⟩:Qq c a.n r (DF f t D S.now) (DF f t D S.now) (fx c Z S)) (vO c Z S)).df2 h2.fz,P8.refl _⟩,hk⟩)
 ·have hf:xA f t i=false:=by
   cases hf:xA f t (i:Nat)with
   |true=>exact absurd (.inl hf) hp
   |false=>rfl
  have hnr:¬HasR m pl i:=fun h=>hp (.inr h)
  have hpp:∀k,k<m->pl k≠i:=fun k hk e=>hnr ⟨k,hk,e⟩
  have hri:=h2.so.ri.2 (i:Int) fun k hk e=>hnr ⟨k,hk,by omega⟩
  by_cases hm:m=c.log
  ·refine(VN h1 hc.small i v hi hf hri hm).mono ?_
   rintro e w' ⟨rfl,hk⟩
   exact .inl ⟨rfl,⟨hf,hnr,hm⟩,hk⟩
  ·have hm:m<c.log:=by have:=hlr.le;omega
   refine(Zo h1 hc hn hlr hrb i v hi hf hri hm (by omega)).mono ?_
   have hN:=h2.new (st:=st) hi hm hf hpp
   have h8:∀y∈appL c st false m (eN 1 r) i (S.now i)++ [.st i v],∀j,j<8->y.Off j:=fun y hy j hj=>by
    rcases List.mem_append.1 hy with hy|hy
    ·exact Yr hy (by omega) (by omega) (by omega)
    ·exact h81 y hy j hj
   rintro e w' (⟨rfl,h3,hk⟩|⟨rfl,⟨S',hcut,h3⟩,hk⟩)
   ·have h4:=hN.store v hi (.inr ⟨m,by omega,xO _ _ _⟩)
    rw[<-xg]at h4
    have hl:=Ws (st:=st) (m:=m) hc (eN 1 r) i (S.now i)
    refine .inr (.inl ⟨rfl,_,_,m+1,put pl m i,⟨_,_,_,_,h3,h4⟩,.inr ⟨rfl,rfl,hm,hf,hnr⟩,fun j h5 _=>?_,P8.ex h8,?_,hk⟩)
    ·rw[xg,Zl]
     split
     ·rfl
     ·exact(Wp (by omega) (by omega) (by omega)).2
    ·rw[List.length_append];simp;omega
   ·have h5:=hN.li
    rw[vH (StZ.log hm)]at h5
    have hnow:∀j,c.act≤j->(xh S (appL c st false m (eN 1 r) i (S.now i))).now j=S.now j:=fun j hj=>(Wp (by omega) (by omega) (by omega)).2
    have h6:LI c a.n 1 r (m+1) (put pl m i) (put wd m ((fx c Z S).now i)) (DF f t D S.now) (xh (fx c Z S) (appL c st false m (eN 1 r) i ((fx c Z S).now i))):=⟨h5.1,fun j a b=>by
     have h7:=h5.2 j a b
     unfold Und DF at h7⊢
     rw[hnow j a]at h7
     exact h7⟩
    obtain⟨T',hT,hs⟩:=(vO c Z S).cut hcut
    exact .inr (.inr ⟨rfl,⟨S',h3,((h2.li.cut_new h6 hi hm hT _).un hs).df2 h2.fz,P8.cut h8 hcut⟩,hk⟩)
end
open Go.RowKit Go.OpenShut
structure ScS where
 u:Int
 S:DS
 m:Nat
 pl:Nat->Nat
 M:Nat->Prop
def SecJ (Z:Nat->Bool) (p:Nat) (a:DA) (l:Int) (q:Sc) (c:Cfg) (r:Nat) (D:Nat->Int) (f t:Int) (W0:World) (S0:DS) (u0:Int) (n:Nat) (s:ScS) (w:World):Prop:=
 zF Z s.M p a l s.u s.S q c s.m r s.pl D f t w/\P8 S0 s.S/\s.u≤u0+3000*(n:Int)/\xe (q.bl p a) W0 w
def SecT (c:Cfg) (n:Nat) (f t:Int) (s:ScS) (i:Nat) (v:Int) (code:Int) (s':ScS):Prop:=
 c.act≤i->(code=3/\s'=s/\xA f t i=false/\¬HasR s.m s.pl i/\s.m=c.log)\/
  (code=0/\((s'.m=s.m/\s'.pl=s.pl/\(xA f t i=true\/HasR s.m s.pl i))\/(s'.m=s.m+1/\s'.pl=put s.pl s.m i/\s.m<c.log/\xA f t i=false/\¬HasR s.m s.pl i))/\(∀j,s.M j\/j=i->s'.M j)/\∀j,c.act≤j->j<n->s'.S.now j=if j=i then v else s.S.now j)
def SecX (Z:Nat->Bool) (p:Nat) (a:DA) (l:Int) (q:Sc) (c:Cfg) (r:Nat) (D:Nat->Int) (W0:World) (S0:DS) (w:World):Prop:=(∃S',Pw w p a l l S'/\zR c Z a.n r D D S'/\P8 S0 S')/\xe (q.bl p a) W0 w
theorem qV (i:Int):xA 0 0 i=false:=by
 unfold xA
 rw[Bool.and_eq_false_iff]
 by_cases h:(0:Int)≤i
 ·right;exact decide_eq_false (by omega)
 ·left;exact decide_eq_false h
theorem Zq {Z:Nat->Bool} {p:Nat} {a:DA} {l:Int} {q:Sc} {c:Cfg} {r:Nat} {f t:Int} (D:Nat->Int) (W0:World) (S0:DS) (u0:Int) (hc:c.Ok) (hn:c.words=a.n) (hr:r<4294967296) (hu:u0≤3000000000000):
  wL 91 #[ptr q.b] #[] a (fun s:ScS=>s.S) (fun _=>q.bl p a) 1000 (SecJ Z p a l q c r D f t W0 S0 u0) (SecT c a.n f t) (fun _ _ _ w=>SecX Z p a l q c r D W0 S0 w) where
 inv:=fun w i v=>by simp[go_sem]
 dev:=fun n s w h=>⟨p,h.1.pw.dev⟩
 keep:=fun n s w w' ⟨h1,h2,h3,h4⟩ hk=>⟨h1.keep0 hk,h2,h3,h4.trans (hk.mono (by simp))⟩
 more:=fun n s w ⟨h1,h2,h3,h4⟩=>⟨h1,h2,by omega,h4⟩
 call:=fun n s w i v hnn ⟨h1,h2,h3,h4⟩ hi=>by
  by_cases hia:c.act≤i
  ·refine(Jc h1 hc hn (by omega) hr i v ⟨hia,hi⟩).mono ?_
   rintro e w' (⟨rfl,g1,hk⟩|⟨rfl,u',S',m',pl',g1,g2,g3,g4,g5,g6⟩|⟨rfl,⟨S',g1,g2,g3⟩,g4⟩)
   ·exact .inl ⟨3,s,rfl,fun _=>.inl ⟨rfl,rfl,g1⟩,⟨h1.keep0 hk,h2,by omega,h4.trans (hk.mono (by simp))⟩,hk.mono (by simp),fun b hb=>.inl hb⟩
   ·exact .inl ⟨0,⟨u',S',m',pl',fun j=>s.M j\/j=i⟩,rfl,fun _=>.inr ⟨rfl,g2,fun _ h=>h,g3⟩,⟨g1,h2.trans g4,by show u'≤_;omega,h4.trans g6⟩,g6,fun b hb=>.inl hb⟩
   ·exact .inr ⟨rfl,⟨S',g1,g2,h2.trans g3⟩,h4.trans g4⟩
  ·refine(WE h1 hc.small i v (.inl (by omega))).mono ?_
   rintro e w' ⟨rfl,hk⟩
   exact .inl ⟨1,s,rfl,fun h=>absurd h hia,⟨h1.keep0 hk,h2,by omega,h4.trans (hk.mono (by simp))⟩,hk.mono (by simp),fun b hb=>.inl hb⟩
theorem xc2 {c:Cfg} {N:Nat} {f t:Int} :∀ {l:List (Nat×Int)} {s s':ScS} {code:Int},WrT (fun s:ScS=>s.S) (SecT c N f t) l s code s'->s.m+l.length≤c.log->l.Pairwise (fun x y=>x.1≠y.1)->(∀x∈l,c.act≤x.1/\x.1<N)->
  code=0/\(∀x∈l,s'.S.now x.1=x.2/\(s.S.now x.1=x.2\/s'.M x.1))/\(∀j,c.act≤j->j<N->(∀x∈l,x.1≠j)->s'.S.now j=s.S.now j)/\∀j,s.M j->s'.M j
 | [],s,s',code,h,_,_,_=>by obtain⟨rfl,rfl⟩:=h;exact⟨rfl,by simp,fun _ _ _ _=>rfl,fun _ h=>h⟩
 |(i,v)::l,s,s',code,h,hm,hp,hz=>by
  obtain⟨c1,s1,h1,h2⟩:=h
  rw[List.pairwise_cons]at hp
  rw[List.length_cons]at hm
  have hi:=hz (i,v) List.mem_cons_self
  have h3:c1=0/\(s1.S.now i=v/\(s.S.now i=v\/s1.M i))/\s1.m≤s.m+1/\(∀j,c.act≤j->j<N->i≠j->s1.S.now j=s.S.now j)/\∀j,s.M j->s1.M j:=by
   rcases h1 with⟨e1,e2,rfl⟩|⟨_,e2⟩
   ·exact⟨e2,⟨e1,.inl e1⟩,by omega,fun _ _ _ _=>rfl,fun _ h=>h⟩
   ·rcases e2 hi.1 with⟨_,_,_,_,e3⟩|⟨e3,e5,e6,e4⟩
    ·omega
    ·refine⟨e3,⟨?_,.inr (e6 i (.inr rfl))⟩,by rcases e5 with e5|e5<;>omega,fun j a b hj=>?_,fun j h=>e6 j (.inl h)⟩
     ·rw[e4 i hi.1 hi.2,if_pos rfl]
     ·rw[e4 j a b,if_neg (fun e=>hj e.symm)]
  obtain⟨rfl,h4,h9,h5,h11⟩:=h3
  rcases h2 with⟨h6,_⟩|⟨_,h6⟩
  ·exact absurd rfl h6
  ·obtain⟨rfl,h7,h8,h10⟩:=xc2 h6 (by omega) hp.2 fun x hx=>hz x (List.mem_cons_of_mem _ hx)
   refine⟨rfl,fun x hx=>?_,fun j a b hj=>?_,fun j h=>h10 j (h11 j h)⟩
   ·rcases List.mem_cons.1 hx with rfl|hx
    ·refine⟨(h8 i hi.1 hi.2 (fun y hy=>(hp.1 y hy).symm)).trans h4.1,?_⟩
     rcases h4.2 with h|h
     ·exact .inl h
     ·exact .inr (h10 _ h)
    ·refine⟨(h7 x hx).1,?_⟩
     rcases(h7 x hx).2 with h|h
     ·refine .inl ?_
      rw[<-h5 x.1 (hz x (List.mem_cons_of_mem _ hx)).1 (hz x (List.mem_cons_of_mem _ hx)).2 (hp.1 x hx)]
      exact h
     ·exact .inr h
   ·rw[h8 j a b (fun y hy=>hj y (List.mem_cons_of_mem _ hy)),h5 j a b (hj (i,v) List.mem_cons_self)]
theorem Qu {now:ScS->DS} {T:ScS->Nat->Int->Int->ScS->Prop} {X:World->Prop} :∀ {l:List (Nat×Int)} {s:ScS} {w:World},WrG now T (fun _ _ _ w=>X w) l s w->X w
 | [],_,_,h=>h.elim
 |(i,v)::l,s,w,h=>by
  rcases h with⟨_,h⟩|⟨s1,_,h⟩
  ·exact h
  ·exact Qu h
open Go.RowKit Go.OpenShut
theorem qL (w:World) (p:Nat) (a:DA) (l u:Int) (S:DS) (h:Pw w p a l u S) (hb:u<4611686018427380000/\a.L≤2000):
  Calls Tryz.prog 168 #[ptr a.d] w (Ran p a l u S (ym a.L) (.tuple #[]) w):=by
 have h0:=h.lo
 have hn8:=a.n8
 have HN8:=hid hn8
 clear hn8
 go_enter Tryz.func168,Tryz.ntmps168
 go_wp2_with fail
 go_loopg [2] a.L (fun r s wr=>∃i q:Nat,i+r=a.L∧q=8*i∧s=.int .i64 (q:Int)∧Pw wr p a l (u+(i:Int)) (xh S (rowL wX i))∧xe [p,a.s,a.k,a.m] w wr)
 case atStart=>exact⟨0,0,by omega,rfl,rfl,by simpa[y7,yS]using h,xe.refl _ _⟩
 case round=>
  obtain⟨i,q,hi,hq,rfl,hP,hK⟩:=hrel
  have HL:=hid (zh wr p a _ hP.dev)
  have hq1:(q:Int)≤16000:=by omega
  by_cases hlt:i<a.L
  ·have hqn:q<a.n:=by rw[HN8.out];omega
   have t0:decide (q<a.n)=true:=by rw[decide_eq_true_eq];exact hqn
   have t1:decide ((q:Int)<(a.n:Int))=true:=by rw[decide_eq_true_eq];omega
   have HF:=hid (yz wr p a l _ _ q hP hqn (by omega))
   have HQ:=hid hq
   clear hq
   go_wp2_with fail
   refine HL.out.mono ?_
   rintro e w1 ⟨rfl,rfl⟩
   go_wp2_with fail
   refine HF.out.mono ?_
   rintro e w2 (⟨rfl,h2,k2⟩|⟨rfl,⟨S',c2,h2⟩,k2⟩)
   ·go_wp2_with fail
    go_roundg (a.L-(i+1))
    case measure=>omega
    case rel=>
     refine⟨i+1,q+8,by omega,by have:=HQ.out;omega,by go_num,?_,hK.trans k2⟩
     have h3:=h2
     rw[<-xg,HQ.out]at h3
     have e:rowL wX (i+1)=rowL wX i++ [Cmd.fl (8*i)]:=yK _ _
     rw[e]
     simpa[Int.add_assoc]using h3
   ·refine⟨rfl,xN h2 ?_ (hK.trans k2)⟩
    rw[HQ.out]at c2
    exact(Cut.row (f:=wX) c2 hlt).left [Cmd.fe]
  ·have hiL:i=a.L:=by omega
   subst hiL
   have hqn:q=a.n:=by rw[HN8.out];omega
   have t0:decide (q<a.n)=false:=by rw[decide_eq_false_iff_not];omega
   have t1:decide ((q:Int)<(a.n:Int))=false:=by rw[decide_eq_false_iff_not];omega
   have HF:=hid (yR wr p a l _ _ hP (by omega))
   clear hqn hq hi
   go_wp2_with fail
   refine HL.out.mono ?_
   rintro e w1 ⟨rfl,rfl⟩
   go_wp2_with fail
   refine HF.out.mono ?_
   rintro e w2 (⟨rfl,h2,k2⟩|⟨rfl,⟨S',c2,h2⟩,k2⟩)
   ·go_wp2_with fail
    go_end0
    refine wo h2 ?_ ?_ (hK.trans k2)
    ·rw[zy];simp;omega
    ·rw[ym,xg]
   ·exact⟨rfl,xN h2 (Cut.right (A:=rowL wX a.L) (B:=[Cmd.fe]) c2 (by rw[xU]) rfl) (hK.trans k2)⟩
theorem Xt {L:Nat} {x:Cmd} (h:x∈ym L) (j:Nat):x.Off j:=by
 rcases List.mem_append.1 h with h|h
 ·obtain⟨i,_,rfl⟩:=yO h
  trivial
 ·rw[List.mem_singleton]at h
  subst h
  trivial
theorem Ve (S:DS) (L:Nat):(xh S (ym L)).now=S.now:=(YS S L).1
theorem Vf (S:DS) (L:Nat) {j:Nat} (hj:j<8*L):Fix (xh S (ym L)) j (S.now j):=by
 obtain⟨h1,h2,h3⟩:=YS S L
 exact⟨congrFun h1 j,h2 j hj,fun e=>by rw[h3]at e;cases e⟩
def xfc (p:Nat) (a:DA) (S:DS) (rb:Nat) (n:Nat) (s:Nat) (w:World):Prop:=Dev w p a S/\At w rb (.cells #[.int .i64 (s:Nat)] 3)/\s≤n
def xbD (s:Nat) (_:Nat) (_:Int) (code:Int) (s':Nat):Prop:=code=0/\s'=s+1
theorem xbY (w:World) (rb s:Nat) (h:At w rb (.cells #[.int .i64 (s:Nat)] 3)) (hs:s≤1000) (i v:Int):
  Calls Tryz.prog 215 #[.int .i64 i,.int .u64 v,ptr rb] w fun e w'=>e=.returned (.int .i64 0)/\At w' rb (.cells #[.int .i64 ((s+1:Nat):Int)] 3)/\xe [rb] w w':=by
 have c0:=h.cell 0 rfl
 have f0:=h.free 0
 have e1:IntKind.i64.wrap ((s:Int)+1)=(s:Int)+1:=IntWalk.i64_in _ (by omega)
 have HE:Hid (At (w.setCell ⟨rb,0,none⟩ (.int .i64 ((s:Int)+1))) rb (.cells #[.int .i64 ((s+1:Nat):Int)] 3)/\xe [rb] w (w.setCell ⟨rb,0,none⟩ (.int .i64 ((s:Int)+1)))):=by
  refine⟨?_,(xe.refl _ _).set (.inl (by simp)) _⟩
  have:=h.set 0 (.int .i64 ((s:Int)+1))
  simpa using this
 clear h hs
 go_enter Tryz.func215,Tryz.ntmps215
 go_wp2_with fail
 go_ret
 exact⟨rfl,HE.out⟩
theorem Vu (p:Nat) (a:DA) (S:DS) (rb:Nat) (hs:∀b∈[a.d,a.s,a.k,a.m],b≠rb):
  wL 215 #[] #[ptr rb] a (fun _=>S) (fun _=>[rb]) 900 (xfc p a S rb) xbD (fun _ _ _ _=>False) where
 inv:=fun w i v=>by simp[go_sem]
 dev:=fun n s w h=>⟨p,h.1⟩
 keep:=fun n s w w' h hk=>⟨h.1.keep hk (by simp) (by simp) (by simp) (by simp),hk.at h.2.1 (by simp),h.2.2⟩
 more:=fun n s w h=>⟨h.1,h.2.1,Nat.le_succ_of_le h.2.2⟩
 call:=fun n s w i v hn ⟨h1,h2,h3⟩ hi=>by
  refine(xbY w rb s h2 (by omega) i v).mono ?_
  rintro e w' ⟨rfl,e1,e2⟩
  have hd:∀b∈[a.d,a.s,a.k,a.m],b∉[rb]:=fun b hb hm=>by
   have:=hs b hb
   simp at hm
   exact this hm
  exact .inl ⟨0,s+1,rfl,⟨rfl,rfl⟩,⟨h1.keep e2 (hd _ (by simp)) (hd _ (by simp)) (hd _ (by simp)) (hd _ (by simp)),e1,by omega⟩,e2,fun b hb=>.inl hb⟩
theorem xc3 {S:DS} :∀ {l:List (Nat×Int)} {s s':Nat} {code:Int},WrT (fun _:Nat=>S) xbD l s code s'->code=0/\s'≤s+l.length
 | [],s,s',code,h=>by obtain⟨rfl,rfl⟩:=h;exact⟨rfl,Nat.le_refl _⟩
 |(i,v)::l,s,s',code,h=>by
  obtain⟨c1,s1,h1,h2⟩:=h
  have h3:c1=0/\s1≤s+1:=by
   rcases h1 with⟨_,e2,rfl⟩|⟨_,e2,rfl⟩
   ·exact⟨e2,by omega⟩
   ·exact⟨e2,by omega⟩
  rcases h2 with⟨h6,_⟩|⟨_,h6⟩
  ·exact absurd h3.1 h6
  ·obtain⟨rfl,h7⟩:=xc3 h6
   refine⟨rfl,?_⟩
   rw[List.length_cons]
   omega
theorem Qv {S:DS} :∀ {l:List (Nat×Int)} {s:Nat} {w:World},¬WrG (fun _:Nat=>S) xbD (fun _ _ _ _=>False) l s w
 | [],_,_,h=>h
 |(i,v)::l,s,w,h=>by
  rcases h with⟨_,h⟩|⟨s1,_,h⟩
  ·exact h
  ·exact Qv h
theorem Q4 (w:World) (p:Nat) (a:DA) (S:DS) (q:Sc) (c:Cfg) (f t:Int) (hD:Dev w p a S) (hS:At w q.b (secO a.d q c false f t))
  (hL:∀w',xe [] w w'->Calls Tryz.prog 83 #[ptr q.lb] w' fun e w''=>e=.returned (.int .i64 (0:Nat))/\w'=w'')
  (hc:c.Ok) (hcn:c.words=a.n) (k u:Nat) (hk:k≤1) (hu:u≤c.space) (x:Option Addr) (cp:Nat) (fr:Nat->Int) (hx:Reads w x c.roots fr) (hxl:∀b∈blkL x,b<w.heap.size):
  Calls Tryz.prog 166 #[ptr a.d,cfgV c,ptr q.b,bkV k u (.slice x c.roots cp)] w fun e w'=>e=.returned (.bool true)/\xe [] w w':=by
 have hlim:c.roots+2≤c.log/\c.log≤200:=⟨hc.2.2.1,hc.2.2.2.1⟩
 have hlg:(c.log:Int)≤200:=by omega
 have HD:=hid hD
 have HL:=hid hL
 have HC:=hid (And.intro hc (And.intro hcn (And.intro hk (And.intro hu (And.intro hx (And.intro hxl hlim))))))
 have HDL:Hid (∀b∈[a.d,a.s,a.k,a.m],b<w.heap.size):=fun b hb=>by
  have h1:=hD.dev.lt
  have h2:=hD.now.lt
  have h3:=hD.kept.lt
  have h4:=hD.map.lt
  simp only[List.mem_cons,List.not_mem_nil,or_false]at hb
  rcases hb with rfl|rfl|rfl|rfl<;>assumption
 clear hD hL hc hcn hk hu hx hxl hlim
 go_enter Tryz.func166,Tryz.ntmps166
 go_upto_region 1 with fail
 have hC0:=(At.new w (cfgO c)).alloc (bkO k u (.slice x c.roots cp))
 have hB0:=At.new (w.alloc (cfgO c)) (bkO k u (.slice x c.roots cp))
 have K0:=((xe.refl [] w).alloc (cfgO c)).alloc (bkO k u (.slice x c.roots cp))
 simp only[World.size_alloc]at hB0
 obtain⟨cb,hcb⟩:∃q,q=w.heap.size:=⟨_,rfl⟩
 obtain⟨bb,hbb⟩:∃q,q=w.heap.size+1:=⟨_,rfl⟩
 obtain⟨w0,hw0⟩:∃w0,w0=(w.alloc (cfgO c)).alloc (bkO k u (.slice x c.roots cp)):=⟨_,rfl⟩
 rw[<-hbb,<-hcb]
 rw[<-hbb]at hB0
 rw[<-hcb]at hC0
 rw[<-hw0]at hB0 hC0 K0⊢
 have HZ:Hid (w.heap.size≤cb/\w.heap.size≤bb):=⟨by omega,by omega⟩
 have HK0:=hid K0
 have HB0:=hid hB0
 have HC0:=hid hC0
 have s0:=(K0.at hS (by simp)).cell 0 rfl
 clear hw0 hS hbb hcb hB0 hC0 K0
 go_wp2_with fail
 refine(HL.out w0 HK0.out).mono ?_
 rintro e w1 ⟨rfl,rfl⟩
 clear s0
 go_upto_region 2 with fail
 have hR2:=At.new w0 (.cells #[.int .i64 0] 3)
 have k2:=(xe.refl [] w0).alloc (.cells #[.int .i64 0] 3)
 obtain⟨rb,hrb⟩:∃q,q=w0.heap.size:=⟨_,rfl⟩
 obtain⟨w2,hw2⟩:∃w2,w2=w0.alloc (.cells #[.int .i64 0] 3):=⟨_,rfl⟩
 rw[<-hrb]
 rw[<-hrb]at hR2
 rw[<-hw2]at hR2 k2⊢
 have hK2:=HK0.out.trans k2
 have hC2:=k2.at HC0.out (by simp)
 have hB2:=k2.at HB0.out (by simp)
 have hd2:∀b∈[a.d,a.s,a.k,a.m],b≠rb:=fun b hb=>by
  have h1:=HDL.out b hb
  have h2:=HK0.out.size
  omega
 have hrl:w.heap.size≤rb:=by rw[hrb];exact HK0.out.size
 have hcr:cb≠rb/\bb≠rb:=by
  have h1:=HC0.out.lt
  have h2:=HB0.out.lt
  omega
 obtain⟨g1,g2,g3,g4,g5,g6,g7,g8⟩:=HC.out
 have HWR:=hid (WK (Vu p a S rb hd2) 0 0 w2 ⟨HD.out.keep hK2 (by simp) (by simp) (by simp) (by simp),hR2,Nat.le_refl _⟩ c g1 g2 k u g3 g4 x cp fr (by omega) (g5.keep hK2 (by simp)) (fun b off hx=>by
   subst hx
   have h1:=g6 b (by simp[blkL])
   have h2:=hK2.size
   exact⟨by simp;omega,by omega⟩) (fun b hb=>by rw[List.mem_singleton.1 hb];exact hR2.lt))
 have c0:=hC2.cell 0 rfl
 have c1:=hC2.cell 1 rfl
 have c2:=hC2.cell 2 rfl
 have b0:=hB2.cell 0 rfl
 have b1:=hB2.cell 1 rfl
 have b2:=hB2.cell 2 rfl
 have HC2:=hid hC2
 have HKK:=hid hK2
 have HCR:=hid (And.intro hcr hrl)
 clear hw2 hrb hR2 k2 hK2 hC2 hB2 hd2 hrl hcr g1 g2 g3 g4 g5 g6 g7 g8
 go_wp2_with fail
 refine HWR.out.mono ?_
 rintro e w3 (⟨code,s',rfl,hT,hJ3,hk3,_⟩|⟨_,hg⟩)
 rotate_left
 ·exact absurd hg Qv
 obtain⟨hcd,hsl⟩:=xc3 hT
 rw[Yq]at hsl
 have hR3:=hJ3.2.1.cell 0 rfl
 have hC3:=(hk3.at HC2.out (by simp;exact HCR.out.1.1)).cell 0 rfl
 have hlim:=HC.out.2.2.2.2.2.2
 have t1:decide ((s':Int)≤(c.log:Int))=true:=decide_eq_true (by omega)
 have t2:decide (s'≤c.log)=true:=decide_eq_true (by omega)
 have HE:Hid (xe [] w w3):=HKK.out.new hk3 fun b hb=>.inr (by rw[List.mem_singleton.1 hb];exact HCR.out.2)
 clear hT hJ3 hk3 hcd c0 c1 c2 b0 b1 b2 hlim hsl
 go_wp2_with fail
 go_ret
 exact⟨rfl,HE.out⟩
open Go.RowKit Go.OpenShut
def blkF (c:Cfg) (k u:Nat) (f old:Nat->Int) (j:Nat):Int:=if j=c.act then(k:Int)else if j=c.act+1 then(u:Int)else if j<c.root c.roots then f (j-(c.act+2))else old j
theorem J8 {c:Cfg} {k u:Int} {n:Nat} {f:Nat->Int} {x:Nat×Int} (h:x∈blkW c k u n f):x=(c.act,k)\/x=(c.act+1,u)\/∃i,i<n/\x=(c.root i,f i):=by
 unfold blkW at h
 rcases List.mem_cons.1 h with h|h
 ·exact .inl h
 ·rcases List.mem_cons.1 h with h|h
  ·exact .inr (.inl h)
  ·obtain⟨i,hi,h⟩:=List.mem_map.1 h
   exact .inr (.inr ⟨i,List.mem_range.1 hi,h.symm⟩)
theorem xei {c:Cfg} {N k u:Nat} {f:Nat->Int} {s s':ScS} {code f0 t0:Int} (hc:c.Ok) (hn:c.words=N) (hm:s.m=0) (h:WrT (fun s:ScS=>s.S) (SecT c N f0 t0) (blkW c k u c.roots f) s code s'):
  code=0/\∀j,c.act≤j->j<N->s'.S.now j=blkF c k u f s.S.now j:=by
 obtain⟨q1,q2,q3,q4⟩:=places hc
 have hin:∀x∈blkW c (k:Int) (u:Int) c.roots f,c.act≤x.1/\x.1<N:=fun x hx=>by
  rcases J8 hx with rfl|rfl|⟨i,hi,rfl⟩
  ·show c.act≤c.act/\c.act<N;omega
  ·show c.act≤c.act+1/\c.act+1<N;omega
  ·show c.act≤c.root i/\c.root i<N
   unfold Cfg.root
   omega
 obtain⟨h1,h2,h3,_⟩:=xc2 h (by rw[hm,Yq];have:=hc.2.2.1;omega) (xbp c k u c.roots f) hin
 refine⟨h1,fun j a b=>?_⟩
 unfold blkF
 by_cases e1:j=c.act
 ·rw[if_pos e1,e1]
  exact(h2 (c.act,(k:Int)) (by simp[blkW])).1
 ·rw[if_neg e1]
  by_cases e2:j=c.act+1
  ·rw[if_pos e2,e2]
   exact(h2 (c.act+1,(u:Int)) (by simp[blkW])).1
  ·rw[if_neg e2]
   by_cases e3:j<c.root c.roots
   ·rw[if_pos e3]
    have e4:j=c.root (j-(c.act+2)):=by unfold Cfg.root;omega
    have h4:=And.left <| h2 (c.root (j-(c.act+2)),f (j-(c.act+2))) (by
     unfold blkW
     refine List.mem_cons_of_mem _ (List.mem_cons_of_mem _ (List.mem_map.2 ⟨j-(c.act+2),List.mem_range.2 ?_,rfl⟩))
     unfold Cfg.root at e3;omega)
    rw[<-e4]at h4
    exact h4
   ·rw[if_neg e3]
    refine h3 j a b fun x hx=>?_
    rcases J8 hx with rfl|rfl|⟨i,hi,rfl⟩
    ·exact fun e=>e1 e.symm
    ·exact fun e=>e2 e.symm
    ·show c.root i≠j
     unfold Cfg.root at e3⊢
     omega
def FlpP (Z:Nat->Bool) (p:Nat) (a:DA) (l u:Int) (S:DS) (q:Sc) (c:Cfg) (r k U:Nat) (f:Nat->Int) (w:World) (e:Ending) (w':World):Prop:=
 (e=.returned (.int .i64 0)/\∃u' S' r',yX Z p a l u' S' q c r' w'/\r'≤r+1/\(∀j,c.act≤j->j<a.n->S'.now j=blkF c k U f S.now j)/\P8 S S'/\u'≤u+1000000/\xe (q.bl p a) w w')\/
 xer Z p a l S c r S.now (blkF c k U f S.now) (q.bl p a) w e w'
theorem xa6 (Z:Nat->Bool) (w:World) (p:Nat) (a:DA) (l u:Int) (S:DS) (q:Sc) (c:Cfg) (r k U x:Nat) (f:Nat->Int) (hG:yX Z p a l u S q c r w) (hc:c.Ok) (hcn:c.words=a.n) (hk1:k≤1) (hU:U≤c.space) (hu:u≤2000000000000) (hr:r<4294967290)
  (hB:∀w',xe [] w w'->Calls Tryz.prog 213 #[ptr x] w' fun e w''=>∃y cy,e=.returned (bkV (k:Nat) (U:Nat) (.slice y c.roots cy))/\OwnU w'' w'.heap.size y cy c.roots f/\xe [] w' w''):
  Calls Tryz.prog 165 #[ptr a.d,cfgV c,ptr q.b,ptr x] w (FlpP Z p a l u S q c r k U f w):=by
 have HG:=hid hG
 have HB:=hid hB
 have HC:=hid (And.intro hc (And.intro hcn (And.intro hk1 (And.intro hU (And.intro hu hr)))))
 have HLT:=hid hG.lts
 clear hG hB hc hcn hk1 hU hu hr
 go_enter Tryz.func165,Tryz.ntmps165
 go_wp2_with fail
 have hC0:=At.new w (cfgO c)
 have K0:=(xe.refl [] w).alloc (cfgO c)
 obtain⟨cb,hcb⟩:∃q,q=w.heap.size:=⟨_,rfl⟩
 obtain⟨w0,hw0⟩:∃w0,w0=w.alloc (cfgO c):=⟨_,rfl⟩
 rw[<-hcb]
 rw[<-hcb]at hC0
 rw[<-hw0]at hC0 K0⊢
 have HK0:=hid K0
 have HC0:=hid hC0
 have HCB:Hid (∀b∈a.d::q.bl p a,b≠cb):=fun b hb=>by have:=HLT.out b hb;omega
 clear hw0 hcb hC0 K0
 refine(HB.out w0 HK0.out).mono ?_
 rintro e w1 ⟨y,cy,rfl,hO1,hk1⟩
 have HO1:=hid hO1
 have HK1:=hid (HK0.out.trans hk1)
 have HC1:=hid (hk1.at HC0.out (by simp))
 have HYB:Hid (∀b∈blkL y,b∉a.d::q.bl p a):=fun b hb hm=>by
  have h1:=(hO1.ge b hb).1
  have h2:=HLT.out b hm
  have h3:=HK0.out.size
  omega
 clear hO1 hk1
 go_upto_region 2 with fail
 have hB2:=At.new w1 (bkO (k:Nat) (U:Nat) (.slice y c.roots cy))
 have k12:=(xe.refl [] w1).alloc (bkO (k:Nat) (U:Nat) (.slice y c.roots cy))
 obtain⟨bb,hbb⟩:∃q,q=w1.heap.size:=⟨_,rfl⟩
 obtain⟨w2,hw2⟩:∃w2,w2=w1.alloc (bkO (k:Nat) (U:Nat) (.slice y c.roots cy)):=⟨_,rfl⟩
 first|rw[<-hbb]|skip
 rw[<-hbb]at hB2
 rw[<-hw2]at hB2 k12⊢
 have HK2:=hid (HK1.out.trans k12)
 have HBX:Hid (∀b∈a.d::q.bl p a,b≠bb):=fun b hb=>by
  have h1:=HLT.out b hb
  have h2:=HK1.out.size
  omega
 have HC2:=hid (k12.at HC1.out (by simp))
 have HB2:=hid hB2
 have HO2:=hid (HO1.out.keep k12 (by simp))
 have HG2:=hid (HG.out.keep0 HK2.out)
 have HYL:Hid (∀b∈blkL y,b<w2.heap.size):=fun b hb=>(HO2.out.ge b hb).2
 clear hw2 hbb hB2 k12
 have HRM:=hid (Q4 w2 p a S q c _ _ HG2.out.pw.dev (yH.len HG2.out.shutL).1.choose_spec.choose_spec (fun w' hk=>(yH.len (HG2.out.shutL.keep0 hk)).2) HC.out.1 HC.out.2.1 k U HC.out.2.2.1 HC.out.2.2.2.1 y cy f HO2.out.rd HYL.out)
 have HBG:=hid (fun(w':World) (hk:xe [] w2 w')=>xbq (HG2.out.keep0 hk) HC.out.1 HC.out.2.1 (by have:=HC.out.2.2.2.2.1;omega) 0 0 fun j _ h=>by rw[qV]at h;cases h)
 have c0:=HC2.out.cell 0 rfl
 have c1:=HC2.out.cell 1 rfl
 have c2:=HC2.out.cell 2 rfl
 have b0:=HB2.out.cell 0 rfl
 have b1:=HB2.out.cell 1 rfl
 have b2:=HB2.out.cell 2 rfl
 go_wp2_with fail
 refine(Zp HG2.out).mono ?_
 rintro e w3 ⟨rfl,rfl⟩
 go_wp2_with fail
 refine HRM.out.mono ?_
 rintro e w3 ⟨rfl,hk3⟩
 have HK3:=hid hk3
 clear hk3 c0 c1 c2 b0 b1 b2
 go_wp2_with fail
 refine(HBG.out w3 HK3.out).mono ?_
 rintro e w4 (⟨rfl,u4,S4,pl4,hO4,hn4,h84,hu4,hk4⟩|⟨rfl,⟨S4,hP4,hL4,h84⟩,hk4⟩)
 rotate_left
 ·refine⟨rfl,.inr ⟨rfl,⟨S4,hP4,hL4.two _,h84⟩,((HK2.out.trans HK3.out).mono (by simp)).trans hk4⟩⟩
 have HK4:=hid hk4
 have HH4:=hid (And.intro (congrFun hn4) (And.intro hu4 h84))
 have HYX:Hid (∀b off,y=some ⟨b,off,none⟩->b∉q.bl p a/\b<w4.heap.size):=fun b off hy=>by
  have h1:=HYB.out b (by rw[hy];simp[blkL])
  have h2:=HYL.out b (by rw[hy];simp[blkL])
  have h3:=HK3.out.size
  have h4:=HK4.out.size
  exact⟨fun h=>h1 (List.mem_cons_of_mem _ h),by omega⟩
 have HLT4:Hid (∀b∈q.bl p a,b<w4.heap.size):=fun b hb=>by
  have h1:=HLT.out b (List.mem_cons_of_mem _ hb)
  have h2:=(HK2.out.trans HK3.out).size
  have h3:=HK4.out.size
  omega
 have HRD4:Hid (Reads w4 y c.roots f):=((HO2.out.keep HK3.out (by simp)).keep HK4.out (fun b hb h=>HYB.out b hb (List.mem_cons_of_mem _ h))).rd
 have hu4b:u4≤3000000000000:=by have:=HC.out.2.2.2.2.1;omega
 have HWR:=hid (WK (Zq (Z:=Z) (r:=r) (f:=0) (t:=0) (l:=l) S.now w4 S4 u4 HC.out.1 HC.out.2.1 (by have:=HC.out.2.2.2.2.2;omega) hu4b) 0 ⟨u4,S4,0,pl4,fun _=>False⟩ w4 ⟨hO4,P8.refl _,by show u4≤_;omega,xe.refl _ _⟩ c HC.out.1 HC.out.2.1 k U HC.out.2.2.1 HC.out.2.2.2.1 y cy f (by have:=HC.out.1.2.1;omega) HRD4.out HYX.out HLT4.out)
 have HC4:=hid (hk4.at (HK3.out.at HC2.out (by simp)) (fun h=>HCB.out cb (List.mem_cons_of_mem _ h) rfl))
 have HB4:=hid (hk4.at (HK3.out.at HB2.out (by simp)) (fun h=>HBX.out bb (List.mem_cons_of_mem _ h) rfl))
 clear hO4 hn4 h84 hu4 hk4 HRM HBG hu4b
 have c0:=HC4.out.cell 0 rfl
 have c1:=HC4.out.cell 1 rfl
 have c2:=HC4.out.cell 2 rfl
 have b0:=HB4.out.cell 0 rfl
 have b1:=HB4.out.cell 1 rfl
 have b2:=HB4.out.cell 2 rfl
 go_wp2_with fail
 refine HWR.out.mono ?_
 rintro e w5 (⟨code,s5,rfl,hT,hJ5,hk5,_⟩|⟨rfl,hg⟩)
 rotate_left
 ·obtain⟨⟨S',g1,g2,g4⟩,g3⟩:=Qu hg
  exact⟨rfl,.inr ⟨rfl,⟨S',g1,g2.two _,HH4.out.2.2.trans g4⟩,(((HK2.out.trans HK3.out).mono (by simp)).trans HK4.out).trans g3⟩⟩
 obtain⟨rfl,hb5⟩:=xei HC.out.1 HC.out.2.1 rfl hT
 have hb5':∀j,c.act≤j->j<a.n->s5.S.now j=blkF c k U f S.now j:=fun j h1 h2=>by
  rw[hb5 j h1 h2]
  unfold blkF
  show(if _ then _ else if _ then _ else if _ then _ else S4.now j)=_
  rw[HH4.out.1 j]
 obtain⟨hO5,h85,hu5,hK5⟩:=hJ5
 have hu5b:s5.u≤u+700000:=by
  have h1:=HH4.out.2.1
  have h2:s5.u≤u4+3000*((0+(blkW c k U c.roots f).length:Nat):Int):=hu5
  rw[Yq]at h2
  have h3:=HC.out.1.2.1
  omega
 have HCM:=hid (J3 hO5 HC.out.1 HC.out.2.1 (by have:=HC.out.2.2.2.2.1;omega))
 have HE5:=hid (And.intro hb5' (And.intro hu5b (And.intro hK5 (HH4.out.2.2.trans h85))))
 clear hT hk5 hb5 hb5' hO5 h85 hu5 hK5 hu5b HWR c0 c1 c2 b0 b1 b2
 go_wp2_with fail
 refine HCM.out.mono ?_
 rintro e w6 (⟨rfl,u6,S6,hG6,hn6,_,h86,hu6,hk6⟩|⟨rfl,⟨S6,hP6,hL6,h86⟩,hk6⟩)
 rotate_left
 ·refine⟨rfl,.inr ⟨rfl,⟨S6,hP6,hL6.h.snd fun j h1 h2 _=>HE5.out.1 j h1 h2,HE5.out.2.2.2.trans h86⟩,((((HK2.out.trans HK3.out).mono (by simp)).trans HK4.out).trans HE5.out.2.2.1).trans hk6⟩⟩
 have HE6:Hid (FlpP Z p a l u S q c r k U f w (.returned (.int .i64 0)) w6):=by
  refine .inl ⟨rfl,u6,S6,_,hG6,?_,fun j h1 h2=>?_,HE5.out.2.2.2.trans h86,by have:=HE5.out.2.1;omega,((((HK2.out.trans HK3.out).mono (by simp)).trans HK4.out).trans HE5.out.2.2.1).trans hk6⟩
  ·unfold rS
   split<;>omega
  ·rw[<-HE5.out.1 j h1 h2]
   exact hn6 j h1 h2
 clear hG6 hn6 h86 hu6 hk6 HCM
 go_wp2_with fail
 go_ret
 exact HE6.out
end Go.Proofs.YtcdhklgahepcaaaGreat
