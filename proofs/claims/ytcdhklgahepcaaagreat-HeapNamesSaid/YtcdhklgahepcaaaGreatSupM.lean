import Derived.Test.YtcdhklgahepcaaaGreatHead
import Derived.Deep.RegionHeld3
import Derived.Deep.DeepCutAuto
set_option maxHeartbeats 4000000
set_option maxRecDepth 100000
namespace Go.Proofs.YtcdhklgahepcaaaGreat
open Go.RowKit
inductive Cmd where
 |st (i:Nat) (v:Int)
 |fl (i:Nat)
 |fe
def exec (S:DS):Cmd->DS
 | .st i v=> { S with now:=put S.now i v }
 | .fl i=> { S with tok:=fun j=>if j/8=i/8 then S.now j else S.tok j,is:=put S.is (i/8) true }
 | .fe=> { S with kept:=fun i=>if S.is (i/8)=true then S.tok i else S.kept i,is:=fun _=>false }
def xh (S:DS) (cs:List Cmd):DS:=cs.foldl exec S
theorem yS (S:DS):xh S []=S:=rfl
theorem yV (S:DS) (c:Cmd) (cs:List Cmd):xh S (c::cs)=xh (exec S c) cs:=rfl
theorem xg (S:DS) (A B:List Cmd):xh S (A++B)=xh (xh S A) B:=by simp[xh]
structure Pw (w:World) (p:Nat) (a:DA) (l u:Int) (S:DS):Prop where
 dev:Dev w p a S
 pow:At w p (powO l u)
 lo:0≤u
 st:l<0\/u≤l
theorem Pw.keep {w w':World} {p:Nat} {a:DA} {l u:Int} {S:DS} {T:List Nat} (h:Pw w p a l u S) (hk:xe T w w') (hp:p∉T) (hd:a.d∉T) (hs:a.s∉T) (hkk:a.k∉T) (hm:a.m∉T):Pw w' p a l u S:=
 ⟨h.dev.keep hk hd hs hkk hm,hk.at h.pow hp,h.lo,h.st⟩
theorem Pw.keep0 {w w':World} {p:Nat} {a:DA} {l u:Int} {S:DS} (h:Pw w p a l u S) (hk:xe [] w w'):Pw w' p a l u S:=
 h.keep hk (by simp) (by simp) (by simp) (by simp) (by simp)
def Cut (l u:Int) (S:DS) (cs:List Cmd) (S':DS):Prop:=∃pre c post,cs=pre++c::post/\S'=xh S pre/\l=u+(pre.length:Int)
theorem Cut.left {l u:Int} {S S':DS} {A:List Cmd} (h:Cut l u S A S') (B:List Cmd):Cut l u S (A++B) S':=by
 obtain⟨pre,c,post,rfl,h1,h2⟩:=h
 exact⟨pre,c,post++B,by simp,h1,h2⟩
theorem Cut.right {l u u':Int} {S T S':DS} {A B:List Cmd} (h:Cut l u' T B S') (hu:u'=u+(A.length:Int)) (hT:T=xh S A):Cut l u S (A++B) S':=by
 obtain⟨pre,c,post,rfl,h1,h2⟩:=h
 refine⟨A++pre,c,post,by simp,by rw[xg,<-hT];exact h1,?_⟩
 rw[List.length_append]
 omega
theorem Cut.parts {l u:Int} {S S':DS} {A B:List Cmd} (h:Cut l u S (A++B) S'):Cut l u S A S'\/Cut l (u+(A.length:Int)) (xh S A) B S':=by
 obtain⟨pre,c,post,h0,h1,h2⟩:=h
 rcases List.append_eq_append_iff.1 h0 with⟨x,hx,hy⟩|⟨x,hx,hy⟩
 ·refine .inr ⟨x,c,post,hy,by rw[<-xg,<-hx];exact h1,?_⟩
  rw[hx,List.length_append]at h2
  omega
 ·cases x with
  |nil=>
   simp at hx hy
   subst hx
   exact .inr ⟨[],c,post,hy.symm,h1,by simpa using h2⟩
  |cons y ys=>
   simp at hy
   exact .inl ⟨pre,c,ys,by rw[hx,<-hy.1],h1,h2⟩
theorem Pw.app {w:World} {p:Nat} {a:DA} {l u:Int} {S:DS} {A B:List Cmd} (h:Pw w p a l (u+(A.length:Int)+(B.length:Int)) (xh (xh S A) B)):Pw w p a l (u+((A++B).length:Int)) (xh S (A++B)):=by
 rw[xg,List.length_append]
 have e:u+((A.length+B.length:Nat):Int)=u+(A.length:Int)+(B.length:Int):=by omega
 rw[e]
 exact h
def rowL (f:Nat->Cmd) (n:Nat):List Cmd:=(List.range n).map f
theorem xU (f:Nat->Cmd) (n:Nat):(rowL f n).length=n:=by simp[rowL]
theorem y7 (f:Nat->Cmd):rowL f 0= []:=rfl
theorem yK (f:Nat->Cmd) (n:Nat):rowL f (n+1)=rowL f n++ [f n]:=by simp[rowL,List.range_succ]
theorem qz (f:Nat->Cmd) {i n:Nat} (h:i≤n):∃R,rowL f n=rowL f i++R:=by
 refine⟨(rowL f n).drop i,?_⟩
 have e:rowL f i=(rowL f n).take i:=by
  unfold rowL
  rw[<-List.map_take,List.take_range,Nat.min_eq_left h]
 rw[e,List.take_append_drop]
theorem Cut.row {l u:Int} {S S':DS} {f:Nat->Cmd} {i n:Nat} (h:Cut l (u+(i:Int)) (xh S (rowL f i)) [f i] S') (hi:i<n):Cut l u S (rowL f n) S':=by
 obtain⟨R,hR⟩:=qz f (show i+1≤n from hi)
 rw[hR,yK]
 exact(h.right (by rw[xU]) rfl).left R
theorem Pw.row {w:World} {p:Nat} {a:DA} {l u:Int} {S:DS} {f:Nat->Cmd} {i:Nat} (h:Pw w p a l (u+(i:Int)+(([f i]:List Cmd).length:Int)) (xh (xh S (rowL f i)) [f i])):Pw w p a l (u+((i+1:Nat):Int)) (xh S (rowL f (i+1))):=by
 rw[yK,xg]
 have e:u+((i+1:Nat):Int)=u+(i:Int)+(([f i]:List Cmd).length:Int):=by simp;omega
 rw[e]
 exact h
def Ran (p:Nat) (a:DA) (l u:Int) (S:DS) (cs:List Cmd) (v:Value) (w:World) (e:Ending) (w':World):Prop:=
 (e=.returned v/\Pw w' p a l (u+(cs.length:Int)) (xh S cs)/\xe [p,a.s,a.k,a.m] w w')\/
 (e=.panicked [{ v:=xP,recovered:=false }]/\(∃S',Cut l u S cs S'/\Pw w' p a l l S')/\xe [p,a.s,a.k,a.m] w w')
theorem wo {p:Nat} {a:DA} {l u u':Int} {S S':DS} {cs:List Cmd} {v:Value} {w w':World} (h:Pw w' p a l u' S') (hu:u'=u+(cs.length:Int)) (hS:S'=xh S cs) (hk:xe [p,a.s,a.k,a.m] w w'):
  Ran p a l u S cs v w (.returned v) w':=by
 subst hu hS
 exact .inl ⟨rfl,h,hk⟩
theorem xN {p:Nat} {a:DA} {l u:Int} {S S':DS} {cs:List Cmd} {v:Value} {w w':World} (h:Pw w' p a l l S') (hc:Cut l u S cs S') (hk:xe [p,a.s,a.k,a.m] w w'):
  Ran p a l u S cs v w (.panicked [{ v:=xP,recovered:=false }]) w':=
 .inr ⟨rfl,⟨S',hc,h⟩,hk⟩
theorem Pw.stays {w:World} {p:Nat} {a:DA} {l u:Int} {S:DS} (h:Pw w p a l u S):VC l u\/(0≤l/\u=l):=by
 have:=h.st
 unfold VC
 omega
theorem jI (l:Int) (S:DS) (c:Cmd):Cut l l S [c] S:=⟨[],c,[],rfl,rfl,by simp⟩
theorem xM (w:World) (p:Nat) (a:DA) (l u:Int) (S:DS) (i:Nat) (v:Int) (h:Pw w p a l u S) (hi:i<a.n) (hb:u<4611686018427387904):
  Calls Tryz.prog 145 #[ptr a.d,.int .i64 i,.int .u64 v] w (Ran p a l u S [.st i v] (.int .i64 0) w):=by
 have h0:=h.lo
 rcases h.stays with hs|⟨hl,rfl⟩
 ·refine(jX w p a S l u i v h.dev h.pow hi h.lo (by omega) hs).mono ?_
  rintro e w' ⟨rfl,h1,h2,h3⟩
  exact wo ⟨h1,h2,by omega,by unfold VC at hs;omega⟩ (by simp) rfl (h3.mono (by intro k _ hk;simp at hk⊢;omega))
 ·refine(qh w p a S u i v h.dev h.pow hi h.lo (by omega)).mono ?_
  rintro e w' ⟨rfl,h1,h2,h3⟩
  exact xN ⟨h1,h2,h0,.inr (Int.le_refl _)⟩ (jI _ _ _) (h3.mono (by simp))
theorem yz (w:World) (p:Nat) (a:DA) (l u:Int) (S:DS) (i:Nat) (h:Pw w p a l u S) (hi:i<a.n) (hb:u<4611686018427387904):
  Calls Tryz.prog 146 #[ptr a.d,.int .i64 i] w (Ran p a l u S [.fl i] (.int .i64 0) w):=by
 have h0:=h.lo
 rcases h.stays with hs|⟨hl,rfl⟩
 ·refine(xcE w p a S l u i h.dev h.pow hi h.lo (by omega) hs).mono ?_
  rintro e w' ⟨rfl,h1,h2,h3⟩
  exact wo ⟨h1,h2,by omega,by unfold VC at hs;omega⟩ (by simp) rfl (h3.mono (by intro k _ hk;simp at hk⊢;omega))
 ·refine(qW w p a S u i h.dev h.pow hi h.lo (by omega)).mono ?_
  rintro e w' ⟨rfl,h1,h2,h3⟩
  exact xN ⟨h1,h2,h0,.inr (Int.le_refl _)⟩ (jI _ _ _) (h3.mono (by simp))
theorem yR (w:World) (p:Nat) (a:DA) (l u:Int) (S:DS) (h:Pw w p a l u S) (hb:u<4611686018427387904):
  Calls Tryz.prog 147 #[ptr a.d] w (Ran p a l u S [.fe] (.tuple #[]) w):=by
 have h0:=h.lo
 rcases h.stays with hs|⟨hl,rfl⟩
 ·refine(xcM w p a S l u h.dev h.pow h.lo (by omega) hs).mono ?_
  rintro e w' ⟨rfl,h1,h2,h3⟩
  exact wo ⟨h1,h2,by omega,by unfold VC at hs;omega⟩ (by simp) rfl (h3.mono (by intro k _ hk;simp at hk⊢;omega))
 ·refine(qY w p a S u h.dev h.pow h.lo (by omega)).mono ?_
  rintro e w' ⟨rfl,h1,h2,h3⟩
  exact xN ⟨h1,h2,h0,.inr (Int.le_refl _)⟩ (jI _ _ _) (h3.mono (by simp))
theorem Ran.free {p:Nat} {a:DA} {u:Int} {S:DS} {cs:List Cmd} {v:Value} {w w':World} {e:Ending} (h:Ran p a (-1) u S cs v w e w') (hu:0≤u):
  e=.returned v/\Pw w' p a (-1) (u+(cs.length:Int)) (xh S cs)/\xe [p,a.s,a.k,a.m] w w':=by
 rcases h with h|⟨_,⟨_,⟨_,_,_,_,_,hl⟩,_⟩,_⟩
 ·exact h
 ·omega
def Cmd.Off (j:Nat):Cmd->Prop
 | .st i _=>i≠j
 |_=>True
theorem xJ {j:Nat} :∀(cs:List Cmd) (S:DS),(∀c∈cs,c.Off j)->(xh S cs).now j=S.now j
 | [],_,_=>rfl
 |c::cs,S,h=>by
  rw[yV,xJ cs _ (fun x hx=>h x (List.mem_cons_of_mem _ hx))]
  have:=h c List.mem_cons_self
  cases c with
  |st i v=>simp only[exec,put];rw[if_neg (fun e=>this e.symm)]
  |fl i=>rfl
  |fe=>rfl
def Cmd.isSt:Cmd->Prop
 | .st _ _=>True
 |_=>False
theorem Yh (g:Nat->Nat) (v:Nat->Int) (S:DS):∀(n i:Nat),i<n->(∀j,i<j->j<n->g j≠g i)->(xh S (rowL (fun j=>.st (g j) (v j)) n)).now (g i)=v i
 |0,i,h,_=>absurd h (Nat.not_lt_zero _)
 |n+1,i,h,hd=>by
  rw[yK,xg]
  show(exec _ (.st (g n) (v n))).now (g i)=v i
  simp only[exec,put]
  by_cases hin:i=n
  ·subst hin
   rw[if_pos rfl]
  ·rw[if_neg (fun e=>hd n (by omega) (by omega) e.symm)]
   exact Yh g v S n i (by omega) (fun j h1 h2=>hd j h1 (by omega))
theorem wQ (g:Nat->Nat) (v:Nat->Int) (S:DS) (n j:Nat) (h:∀i,i<n->g i≠j):(xh S (rowL (fun j=>.st (g j) (v j)) n)).now j=S.now j:=by
 refine xJ _ _ fun c hc=>?_
 simp only[rowL,List.mem_map,List.mem_range]at hc
 obtain⟨i,hi,rfl⟩:=hc
 exact h i hi
theorem Zt (S:DS):∀n,(xh S (rowL (fun k=>.fl (8*k)) n)).now=S.now/\(xh S (rowL (fun k=>.fl (8*k)) n)).kept=S.kept/\
  (∀j,j/8<n->(xh S (rowL (fun k=>.fl (8*k)) n)).is (j/8)=true/\(xh S (rowL (fun k=>.fl (8*k)) n)).tok j=S.now j)
 |0=>⟨rfl,rfl,fun _ h=>absurd h (Nat.not_lt_zero _)⟩
 |n+1=>by
  obtain⟨h1,h2,h3⟩:=Zt S n
  rw[yK,xg]
  generalize xh S (rowL (fun k=>.fl (8*k)) n)=T at h1 h2 h3⊢
  refine⟨h1,h2,fun j hj=>?_⟩
  show(put T.is (8*n/8) true) (j/8)=true/\(if j/8=8*n/8 then T.now j else T.tok j)=S.now j
  rw[show 8*n/8=n by omega]
  by_cases hjn:j/8=n
  ·rw[if_pos hjn,h1]
   exact⟨by simp[put,hjn],rfl⟩
  ·rw[if_neg hjn]
   have:=h3 j (by omega)
   exact⟨by simp[put,hjn,this.1],this.2⟩
open Go.RowKit Go.OpenShut
def XX:Int:=6076848300954571569
def zD (v:Int):List Cmd:=[Cmd.st 0 v,.fl 0,.fe]
def numC (c:Cfg) (i:Nat):Int:=if i=0 then c.log else if i=1 then c.roots else c.space
def layA (c:Cfg):Nat->Cmd:=fun i=>.st (1+i) (numC c i)
def layR:Nat->Cmd:=fun i=>.st (16+4*i) 0
def layT (c:Cfg):Nat->Cmd:=fun i=>.st (c.root i) 0
def layL (c:Cfg):List Cmd:=((((rowL (layA c) 3++ [Cmd.st 8 1])++rowL layR c.log)++ [Cmd.st c.act 0])++ [Cmd.st (c.act+1) 0])++rowL (layT c) c.roots
def wX:Nat->Cmd:=fun k=>.fl (8*k)
def ym (L:Nat):List Cmd:=rowL wX L++ [Cmd.fe]
def fmtL (c:Cfg) (L:Nat):List Cmd:=zD 0++(layL c++(ym L++zD XX))
theorem JP (c:Cfg):(layL c).length=6+c.log+c.roots:=by
 simp[layL,xU];omega
theorem zy (L:Nat):(ym L).length=L+1:=by simp[ym,xU]
theorem xcD (c:Cfg) (L:Nat):(fmtL c L).length=13+c.log+c.roots+L:=by
 simp only[fmtL,List.length_append,JP,zy]
 simp[zD];omega
theorem JL (w:World) (p:Nat) (a:DA) (l u:Int) (S:DS) (v:Int) (h:Pw w p a l u S) (hn:0<a.n) (hb:u<4611686018427387000):
  Calls Tryz.prog 181 #[ptr a.d,.int .u64 v] w (Ran p a l u S (zD v) (.tuple #[]) w):=by
 have h0:=h.lo
 go_enter Tryz.func181,Tryz.ntmps181
 go_wp2_with fail
 refine(xM w p a l u S 0 v h hn (by omega)).mono ?_
 rintro e w1 (⟨rfl,h1,k1⟩|⟨rfl,⟨S',c1,h1⟩,k1⟩)
 ·go_wp2_with fail
  refine(yz w1 p a l _ _ 0 h1 hn (by simp;omega)).mono ?_
  rintro e w2 (⟨rfl,h2,k2⟩|⟨rfl,⟨S',c2,h2⟩,k2⟩)
  ·go_wp2_with fail
   refine(yR w2 p a l _ _ h2 (by simp;omega)).mono ?_
   rintro e w3 (⟨rfl,h3,k3⟩|⟨rfl,⟨S',c3,h3⟩,k3⟩)
   ·go_wp2_with fail
    go_end0
    exact wo h3 (by simp[zD];omega) rfl ((k1.trans k2).trans k3)
   ·exact⟨rfl,xN h3 (Cut.right (A:=[Cmd.st 0 v,.fl 0]) (B:=[Cmd.fe]) c3 (by simp;omega) rfl) ((k1.trans k2).trans k3)⟩
  ·exact⟨rfl,xN h2 ((Cut.right (A:=[Cmd.st 0 v]) (B:=[Cmd.fl 0]) c2 (by simp) rfl).left [Cmd.fe]) (k1.trans k2)⟩
 ·exact⟨rfl,xN h1 (c1.left [Cmd.fl 0,.fe]) k1⟩
theorem xcq (w:World) (p:Nat) (a:DA) (l u:Int) (S:DS) (h:Pw w p a l u S) (hb:u<4611686018427380000/\a.L≤2000):
  Calls Tryz.prog 183 #[ptr a.d] w (Ran p a l u S (ym a.L) (.tuple #[]) w):=by
 have h0:=h.lo
 have hn8:=a.n8
 have HN8:=hid hn8
 clear hn8
 go_enter Tryz.func183,Tryz.ntmps183
 go_wp2_with fail
 go_loopg [2] a.L (fun r s wr=>∃i q:Nat,i+r=a.L∧q=8*i∧s=.int .i64 (q:Int)∧Pw wr p a l (u+(i:Int)) (xh S (rowL wX i))∧xe [p,a.s,a.k,a.m] w wr)
 case atStart=>exact⟨0,0,by omega,rfl,rfl,by simpa[y7,yS]using h,xe.refl _ _⟩
 case round=>
  obtain⟨i,q,hi,hq,rfl,hP,hK⟩:=hrel
  have HL:=hid (zh wr p a _ hP.dev)
  have hq1:(q:Int)≤16000:=by omega
  by_cases hlt:i<a.L
  ·have hqn:q<a.n:=by rw[HN8.out];omega
   have t0:decide (q<a.n)=true:=by rw[decide_eq_true_eq];exact hqn
   have t1:decide ((q:Int)<(a.n:Int))=true:=by rw[decide_eq_true_eq];omega
   have HF:=hid (yz wr p a l _ _ q hP hqn (by omega))
   have HQ:=hid hq
   clear hq
   go_wp2_with fail
   refine HL.out.mono ?_
   rintro e w1 ⟨rfl,rfl⟩
   go_wp2_with fail
   refine HF.out.mono ?_
   rintro e w2 (⟨rfl,h2,k2⟩|⟨rfl,⟨S',c2,h2⟩,k2⟩)
   ·go_wp2_with fail
    go_roundg (a.L-(i+1))
    case measure=>omega
    case rel=>
     refine⟨i+1,q+8,by omega,by have:=HQ.out;omega,by go_num,?_,hK.trans k2⟩
     have h3:=h2
     rw[<-xg,HQ.out]at h3
     have e:rowL wX (i+1)=rowL wX i++ [Cmd.fl (8*i)]:=yK _ _
     rw[e]
     simpa[Int.add_assoc]using h3
   ·refine⟨rfl,xN h2 ?_ (hK.trans k2)⟩
    rw[HQ.out]at c2
    exact(Cut.row (f:=wX) c2 hlt).left [Cmd.fe]
  ·have hiL:i=a.L:=by omega
   subst hiL
   have hqn:q=a.n:=by rw[HN8.out];omega
   have t0:decide (q<a.n)=false:=by rw[decide_eq_false_iff_not];omega
   have t1:decide ((q:Int)<(a.n:Int))=false:=by rw[decide_eq_false_iff_not];omega
   have HF:=hid (yR wr p a l _ _ hP (by omega))
   clear hqn hq hi
   go_wp2_with fail
   refine HL.out.mono ?_
   rintro e w1 ⟨rfl,rfl⟩
   go_wp2_with fail
   refine HF.out.mono ?_
   rintro e w2 (⟨rfl,h2,k2⟩|⟨rfl,⟨S',c2,h2⟩,k2⟩)
   ·go_wp2_with fail
    go_end0
    refine wo h2 ?_ ?_ (hK.trans k2)
    ·rw[zy];simp;omega
    ·rw[ym,xg]
   ·exact⟨rfl,xN h2 (Cut.right (A:=rowL wX a.L) (B:=[Cmd.fe]) c2 (by rw[xU]) rfl) (hK.trans k2)⟩
abbrev qF (l r s:Int):Value:=.agg #[.int .u64 l,.int .u64 r,.int .u64 s]
abbrev xfh (l r s:Int):Obj:=.cells #[.int .u64 l,.int .u64 r,.int .u64 s] 175
theorem WX (w:World) (c:Cfg) (h:c.Small):
  Calls Tryz.prog 220 #[cfgV c] w fun e w'=>e=.returned (qF c.log c.roots c.space)/\xe [] w w':=by
 obtain⟨h1,h2,h3⟩:=h
 go_enter Tryz.func220,Tryz.ntmps220
 go_wp2
 refine bodyPost_ret (v:=qF c.log c.roots c.space) ?_ rfl ?_
 ·simp[results,Tryz.results220,go_sem]
 ·exact⟨rfl,by repeat' (first|exact xe.refl _ _|refine xe.set ?_ (.inr (by simp)) _|refine xe.alloc ?_ _)⟩
theorem qX (w:World) (p:Nat) (a:DA) (S:DS) (l r s:Int) (_h:Dev w p a S) (hc:cfgB l r s=false):
  Calls Tryz.prog 131 #[ptr a.d,cfgI l r s] w fun e w'=>e=.returned (.bool false)/\xe [] w w':=by
 have H:=hid (Vw (w.alloc (.cells #[.int .i64 l,.int .i64 r,.int .i64 s] 36)) l r s)
 have E:Hid (chkE l r s=1):=by show _=_;simp[chkE,hc]
 clear hc
 go_enter Tryz.func131,Tryz.ntmps131
 go_wp2_with fail
 refine H.out.mono ?_
 rintro e w1 ⟨rfl,hK⟩
 rw[E.out]
 go_wp2_with fail
 go_ret
 exact⟨rfl,((xe.refl _ _).alloc _).trans hK⟩
theorem xa9 (w:World) (p:Nat) (a:DA) (S:DS) (c:Cfg) (h:Dev w p a S) (hc:c.Ok):
  Calls Tryz.prog 131 #[ptr a.d,cfgV c] w fun e w'=>e=.returned (.bool ((c.words:Int)==(a.n:Int)))/\xe [] w w':=by
 have H:=hid (J6 (w.alloc (cfgO c)) c hc)
 go_enter Tryz.func131,Tryz.ntmps131
 go_wp2_with fail
 refine H.out.mono ?_
 rintro e w1 ⟨rfl,hK⟩
 have hb1:=hK.at (At.new w (cfgO c)) (by simp)
 have K1:=((xe.refl [] w).alloc (cfgO c)).trans hK
 have hD1:=h.keep K1 (by simp) (by simp) (by simp) (by simp)
 have c0:=hb1.cell 0 rfl
 have c1:=hb1.cell 1 rfl
 have c2:=hb1.cell 2 rfl
 clear hK
 go_wp2_with fail
 refine(Xx w1 c hc.small).mono ?_
 rintro e w2 ⟨rfl,hK2⟩
 have hD2:=hD1.keep hK2 (by simp) (by simp) (by simp) (by simp)
 go_wp2_with fail
 refine(zh w2 p a S hD2).mono ?_
 rintro e w3 ⟨rfl,rfl⟩
 go_wp2_with fail
 go_ret
 exact⟨rfl,K1.trans hK2⟩
theorem xcG (w:World) (p:Nat) (a:DA) (S:DS) (c:Cfg) (h:Dev w p a S) (hc:c.Ok) (hn:c.words=a.n):
  Calls Tryz.prog 131 #[ptr a.d,cfgV c] w fun e w'=>e=.returned (.bool true)/\xe [] w w':=by
 refine(xa9 w p a S c h hc).mono ?_
 rintro e w' ⟨rfl,hk⟩
 exact⟨by rw[hn];simp,hk⟩
def Vp (l r s:Int) (n:Nat):Bool:=cfgB l r s&&decide ((Cfg.mk l.toNat r.toNat s.toNat).words=n)
theorem xeg {l r s:Int} (h:cfgB l r s=true):(Cfg.mk l.toNat r.toNat s.toNat).Ok/\cfgV (Cfg.mk l.toNat r.toNat s.toNat)=cfgI l r s:=by
 simp[cfgB]at h
 refine⟨by unfold Cfg.Ok;simp only;omega,?_⟩
 have e1:((l.toNat:Nat):Int)=l:=by omega
 have e2:((r.toNat:Nat):Int)=r:=by omega
 have e3:((s.toNat:Nat):Int)=s:=by omega
 simp only[cfgV,e1,e2,e3]
theorem xcH (w:World) (p:Nat) (a:DA) (S:DS) (l r s:Int) (h:Dev w p a S):
  Calls Tryz.prog 131 #[ptr a.d,cfgI l r s] w fun e w'=>e=.returned (.bool (Vp l r s a.n))/\xe [] w w':=by
 unfold Vp
 by_cases hc:cfgB l r s=true
 ·obtain⟨h1,h2⟩:=xeg hc
  rw[<-h2,hc]
  refine(xa9 w p a S _ h h1).mono ?_
  rintro e w' ⟨rfl,hk⟩
  refine⟨?_,hk⟩
  congr 2
  rw[Bool.eq_iff_iff]
  simp
  omega
 ·rw[Bool.not_eq_true]at hc
  rw[hc]
  exact qX w p a S l r s h hc
theorem xdT (w:World) (p:Nat) (a:DA) (l u:Int) (S:DS) (c:Cfg) (h:Pw w p a l u S) (hc:c.Ok) (hn:c.words=a.n) (hb:u<4611686018427380000):
  Calls Tryz.prog 182 #[ptr a.d,cfgV c] w (Ran p a l u S (layL c) (.tuple #[]) w):=by
 have hs:=hc.small
 have g0:=vP hs
 have g1:16+4*c.log≤c.act:=(xD (16+4*c.log)).1
 have g2:c.act+2+c.roots≤c.frm 0:=by
  have:=(xD (c.root c.roots)).1
  have e0:c.frm 0=up8 (c.root c.roots):=by simp[Cfg.frm]
  have e1:c.root c.roots=c.act+2+c.roots:=rfl
  omega
 have g3:c.frm 0+16≤a.n:=by
  have:=(xD c.space).1
  have e0:c.frm 0=up8 (c.root c.roots):=by simp[Cfg.frm]
  have e2:c.words=up8 (c.root c.roots)+2*up8 c.space:=rfl
  have:=hc.2.2.2.2.1
  omega
 have o:=hc
 obtain⟨o1,o2,o3,o4,o5,o6⟩:=o
 have HN:=hid hn
 clear hn
 have hlt:=h.dev.fresh (Nat.le_refl w.heap.size)
 have hp0:=h.pow.lt
 have hq:w.heap.size∉[p,a.s,a.k,a.m]:=by simp;omega
 clear hlt hp0
 go_enter Tryz.func182,Tryz.ntmps182
 go_wp2_with fail
 have hB0:=At.new w (cfgO c)
 have K0:=(xe.refl [p,a.s,a.k,a.m] w).alloc (cfgO c)
 refine(WX _ c hs).mono ?_
 rintro e w1 ⟨rfl,hk⟩
 have hB1:=hk.at hB0 (by simp)
 have K1:=K0.trans (hk.mono (by simp))
 have h1:=(h.keep0 ((xe.refl [] w).alloc (cfgO c))).keep0 hk
 clear K0 hB0 hk
 go_wp2_with fail
 go_loopg [10] 3 (fun r s wr=>∃i:Nat,∃z:Int,i+r=3∧z=i∧s=.int .i64 z∧Pw wr p a l (u+(i:Int)) (xh S (rowL (layA c) i))∧xe [p,a.s,a.k,a.m] w1 wr)
 case atStart=>exact⟨0,0,by omega,rfl,rfl,by simpa[y7,yS]using h1,xe.refl _ _⟩
 case round=>
  obtain⟨i,z,hi,hz,rfl,hP,hK⟩:=hrel
  rcases(by omega:i=0\/i=1\/i=2\/i=3)with rfl|rfl|rfl|rfl
  ·obtain rfl:z=0:=by omega
   have HI:=hid hi
   clear hz hi
   have i0:∀w:World,(Instr.index 175 (qF c.log c.roots c.space) (.int .i64 0)).run Tryz.prog w=.ok (.int .u64 c.log) w:=fun _=>by kernel_rfl
   go_wp2_with fail
   refine(xM wr p a l _ _ 1 (numC c 0) hP (by omega) (by omega)).mono ?_
   rintro e w2 (⟨rfl,h2,k2⟩|⟨rfl,⟨S',c2,h2⟩,k2⟩)
   ·go_wp2_with fail
    go_roundg 2
    case measure=>have:=HI.out;omega
    case rel=>
     refine⟨1,1,by omega,rfl,rfl,?_,hK.trans k2⟩
     exact Pw.row (f:=layA c) (i:=0) h2
   ·exact⟨rfl,xN h2 (((((Cut.row (f:=layA c) (i:=0) (n:=3) c2 (by omega)).left _).left _).left _).left _ |>.left _) (K1.trans (hK.trans k2))⟩
  ·obtain rfl:z=1:=by omega
   have HI:=hid hi
   clear hz hi
   have i0:∀w:World,(Instr.index 175 (qF c.log c.roots c.space) (.int .i64 1)).run Tryz.prog w=.ok (.int .u64 c.roots) w:=fun _=>by kernel_rfl
   go_wp2_with fail
   refine(xM wr p a l _ _ 2 (numC c 1) hP (by omega) (by omega)).mono ?_
   rintro e w2 (⟨rfl,h2,k2⟩|⟨rfl,⟨S',c2,h2⟩,k2⟩)
   ·go_wp2_with fail
    go_roundg 1
    case measure=>have:=HI.out;omega
    case rel=>
     refine⟨2,2,by omega,rfl,rfl,?_,hK.trans k2⟩
     exact Pw.row (f:=layA c) (i:=1) h2
   ·exact⟨rfl,xN h2 (((((Cut.row (f:=layA c) (i:=1) (n:=3) c2 (by omega)).left _).left _).left _).left _ |>.left _) (K1.trans (hK.trans k2))⟩
  ·obtain rfl:z=2:=by omega
   have HI:=hid hi
   clear hz hi
   have i0:∀w:World,(Instr.index 175 (qF c.log c.roots c.space) (.int .i64 2)).run Tryz.prog w=.ok (.int .u64 c.space) w:=fun _=>by kernel_rfl
   go_wp2_with fail
   refine(xM wr p a l _ _ 3 (numC c 2) hP (by omega) (by omega)).mono ?_
   rintro e w2 (⟨rfl,h2,k2⟩|⟨rfl,⟨S',c2,h2⟩,k2⟩)
   ·go_wp2_with fail
    go_roundg 0
    case measure=>have:=HI.out;omega
    case rel=>
     refine⟨3,3,by omega,rfl,rfl,?_,hK.trans k2⟩
     exact Pw.row (f:=layA c) (i:=2) h2
   ·exact⟨rfl,xN h2 (((((Cut.row (f:=layA c) (i:=2) (n:=3) c2 (by omega)).left _).left _).left _).left _ |>.left _) (K1.trans (hK.trans k2))⟩
  ·obtain rfl:z=3:=by omega
   have HI:=hid hi
   clear hz hi
   have hB2:=hK.at hB1 hq
   have K2:=K1.trans hK
   go_wp2_with fail
   refine(xM wr p a l _ _ 8 1 hP (by omega) (by omega)).mono ?_
   rintro e w2 (⟨rfl,h2,k2⟩|⟨rfl,⟨S',c2,h2⟩,k2⟩)
   rotate_left
   ·exact⟨rfl,xN h2 ((((Cut.right (A:=rowL (layA c) 3) c2 (by rw[xU]) rfl).left _).left _).left _ |>.left _) (K2.trans k2)⟩
   have h3:Pw w2 p a l (u+((rowL (layA c) 3++ [Cmd.st 8 1]).length:Int)) (xh S (rowL (layA c) 3++ [Cmd.st 8 1])):=Pw.app (A:=rowL (layA c) 3) (B:=[Cmd.st 8 1]) (by rw[xU];exact h2)
   have K3:=K2.trans k2
   have hB3:=k2.at hB2 hq
   have l3:(rowL (layA c) 3++ [Cmd.st 8 1]).length=4:=by simp[xU]
   obtain⟨P,hP3⟩:∃P,P=rowL (layA c) 3++ [Cmd.st 8 1]:=⟨_,rfl⟩
   rw[<-hP3]at h3 l3
   have HP3:=hid hP3
   have L3:=hid l3
   clear hP3 l3 h2 k2 K2 hB2 hP hK
   have c0:=hB3.cell 0 rfl
   have c1:=hB3.cell 1 rfl
   have c2:=hB3.cell 2 rfl
   go_wp2_with fail
   clear c0 c1 c2
   go_loopg [24] c.log (fun r s wr=>∃i:Nat,i+r=c.log∧s=.int .i64 i∧Pw wr p a l (u+(P.length:Int)+(i:Int)) (xh (xh S P) (rowL layR i))∧xe [p,a.s,a.k,a.m] w2 wr)
   case atStart=>exact⟨0,by omega,rfl,by simpa[y7,yS]using h3,xe.refl _ _⟩
   case round=>
    obtain⟨i,hi,rfl,hP,hK⟩:=hrel
    have hBi:=hK.at hB3 hq
    have c0:=hBi.cell 0 rfl
    have c1:=hBi.cell 1 rfl
    have c2:=hBi.cell 2 rfl
    by_cases hlt:i<c.log
    ·go_wp2_with fail
     refine(wS _ _ _ _ i (by omega)).mono ?_
     rintro e w3 ⟨rfl,hk3⟩
     have hP3:=hP.keep0 hk3
     clear c0 c1 c2
     go_wp2_with fail
     refine(xM w3 p a l _ _ (16+4*i) 0 hP3 (by omega) (by have:=L3.out;omega)).mono ?_
     rintro e w4 (⟨rfl,h4,k4⟩|⟨rfl,⟨S',c4,h4⟩,k4⟩)
     ·go_wp2_with fail
      go_roundg (c.log-(i+1))
      case measure=>omega
      case rel=>exact⟨i+1,by omega,by go_num,Pw.row (f:=layR) h4,(hK.trans (hk3.mono (by simp))).trans k4⟩
     ·refine⟨rfl,xN h4 ?_ ((K3.trans hK).trans ((hk3.mono (by simp)).trans k4))⟩
      have c5:=Cut.right (A:=P) (Cut.row (f:=layR) c4 hlt) rfl rfl
      rw[HP3.out]at c5
      exact((c5.left _).left _).left _
    ·have hil:i=c.log:=by omega
     subst hil
     have hQ:Pw wr p a l (u+((P++rowL layR c.log).length:Int)) (xh S (P++rowL layR c.log)):=Pw.app (A:=P) (B:=rowL layR c.log) (by rw[xU];exact hP)
     have KQ:=K3.trans hK
     have lQ:(P++rowL layR c.log).length=4+c.log:=by rw[List.length_append,L3.out,xU]
     obtain⟨Q,hQe⟩:∃Q,Q=P++rowL layR c.log:=⟨_,rfl⟩
     rw[<-hQe]at hQ lQ
     rw[HP3.out]at hQe
     have HQe:=hid hQe
     have LQ:=hid lQ
     clear hQe lQ hP hlt hi
     go_wp2_with fail
     refine(xQ _ c hs).mono ?_
     rintro e w3 ⟨rfl,hk3⟩
     have hQ3:=hQ.keep0 hk3
     have hB4:=hk3.at hBi (by simp)
     have KQ3:=KQ.trans (hk3.mono (by simp))
     clear c0 c1 c2
     go_wp2_with fail
     refine(xM w3 p a l _ _ c.act 0 hQ3 (by omega) (by have:=LQ.out;omega)).mono ?_
     rintro e w4 (⟨rfl,h4,k4⟩|⟨rfl,⟨S',c4,h4⟩,k4⟩)
     rotate_left
     ·refine⟨rfl,xN h4 ?_ (KQ3.trans k4)⟩
      have c5:=Cut.right (A:=Q) c4 rfl rfl
      rw[HQe.out]at c5
      exact(c5.left _).left _
     have hR:Pw w4 p a l (u+((Q++ [Cmd.st c.act 0]).length:Int)) (xh S (Q++ [Cmd.st c.act 0])):=Pw.app h4
     have KR:=KQ3.trans k4
     have hB5:=k4.at hB4 hq
     have lR:(Q++ [Cmd.st c.act 0]).length=5+c.log:=by rw[List.length_append,LQ.out];simp;omega
     obtain⟨R,hRe⟩:∃R,R=Q++ [Cmd.st c.act 0]:=⟨_,rfl⟩
     rw[<-hRe]at hR lR
     rw[HQe.out]at hRe
     have HRe:=hid hRe
     have LR:=hid lR
     clear hRe lR h4 k4 hQ3 hQ hk3 KQ hK
     have c0:=hB5.cell 0 rfl
     have c1:=hB5.cell 1 rfl
     have c2:=hB5.cell 2 rfl
     go_wp2_with fail
     refine(X9 _ c hs).mono ?_
     rintro e w5 ⟨rfl,hk5⟩
     have hR5:=hR.keep0 hk5
     have hB6:=hk5.at hB5 (by simp)
     have KR5:=KR.trans (hk5.mono (by simp))
     clear c0 c1 c2
     go_wp2_with fail
     refine(xM w5 p a l _ _ (c.act+1) 0 hR5 (by omega) (by have:=LR.out;omega)).mono ?_
     rintro e w6 (⟨rfl,h6,k6⟩|⟨rfl,⟨S',c6,h6⟩,k6⟩)
     rotate_left
     ·refine⟨rfl,xN h6 ?_ (KR5.trans k6)⟩
      have c7:=Cut.right (A:=R) c6 rfl rfl
      rw[HRe.out]at c7
      exact c7.left _
     have hT:Pw w6 p a l (u+((R++ [Cmd.st (c.act+1) 0]).length:Int)) (xh S (R++ [Cmd.st (c.act+1) 0])):=Pw.app h6
     have KT:=KR5.trans k6
     have hB7:=k6.at hB6 hq
     have lT:(R++ [Cmd.st (c.act+1) 0]).length=6+c.log:=by rw[List.length_append,LR.out];simp;omega
     obtain⟨T,hTe⟩:∃T,T=R++ [Cmd.st (c.act+1) 0]:=⟨_,rfl⟩
     rw[<-hTe]at hT lT
     rw[HRe.out]at hTe
     have HTe:=hid hTe
     have LT:=hid lT
     clear hTe lT h6 k6 hR5 hR hk5 KR
     have c0:=hB7.cell 0 rfl
     have c1:=hB7.cell 1 rfl
     have c2:=hB7.cell 2 rfl
     go_wp2_with fail
     clear c0 c1 c2
     go_loopg [43] c.roots (fun r s wr=>∃i:Nat,i+r=c.roots∧s=.int .i64 i∧Pw wr p a l (u+(T.length:Int)+(i:Int)) (xh (xh S T) (rowL (layT c) i))∧xe [p,a.s,a.k,a.m] w6 wr)
     case atStart=>exact⟨0,by omega,rfl,by simpa[y7,yS]using hT,xe.refl _ _⟩
     case round=>
      obtain⟨i,hi,rfl,hP,hK⟩:=hrel
      have hBi:=hK.at hB7 hq
      have c0:=hBi.cell 0 rfl
      have c1:=hBi.cell 1 rfl
      have c2:=hBi.cell 2 rfl
      by_cases hlt:i<c.roots
      ·go_wp2_with fail
       refine(wR _ c hs i (by omega)).mono ?_
       rintro e w7 ⟨rfl,hk7⟩
       have hP7:=hP.keep0 hk7
       clear c0 c1 c2
       have hri:c.root i<a.n:=by unfold Cfg.root;omega
       go_wp2_with fail
       refine(xM w7 p a l _ _ (c.root i) 0 hP7 hri (by have:=LT.out;omega)).mono ?_
       rintro e w8 (⟨rfl,h8,k8⟩|⟨rfl,⟨S',c8,h8⟩,k8⟩)
       ·go_wp2_with fail
        go_roundg (c.roots-(i+1))
        case measure=>omega
        case rel=>exact⟨i+1,by omega,by go_num,Pw.row (f:=layT c) h8,(hK.trans (hk7.mono (by simp))).trans k8⟩
       ·refine⟨rfl,xN h8 ?_ ((KT.trans hK).trans ((hk7.mono (by simp)).trans k8))⟩
        have c9:=Cut.right (A:=T) (Cut.row (f:=layT c) c8 hlt) rfl rfl
        rw[HTe.out]at c9
        exact c9
      ·have hil:i=c.roots:=by omega
       subst hil
       have hZ:Pw wr p a l (u+((T++rowL (layT c) c.roots).length:Int)) (xh S (T++rowL (layT c) c.roots)):=Pw.app (A:=T) (B:=rowL (layT c) c.roots) (by rw[xU];exact hP)
       rw[HTe.out]at hZ
       have HZ:=hid hZ
       clear hZ hP hlt hi
       go_wp2_with fail
       go_end0
       exact wo HZ.out rfl rfl (KT.trans hK)
theorem vv {c:Cfg} (hc:c.Ok):40≤c.words/\c.words≤15000/\c.words%8=0:=by
 have a4:=xD (16+4*c.log)
 have a5:=xD c.space
 have a7:=xD (c.root c.roots)
 have a9:c.root c.roots=c.act+2+c.roots:=rfl
 have a10:c.act=up8 (16+4*c.log):=rfl
 have e2:c.words=up8 (c.root c.roots)+2*up8 c.space:=rfl
 obtain⟨o1,o2,o3,o4,o5,o6⟩:=hc
 omega
theorem ZA (w:World) (p:Nat) (a:DA) (l u:Int) (S:DS) (c:Cfg) (h:Pw w p a l u S) (hc:c.Ok) (hn:c.words=a.n) (hb:u<4611686018427300000):
  Calls Tryz.prog 115 #[ptr a.d,cfgV c] w (Ran p a l u S (fmtL c a.L) (.int .i64 0) w):=by
 have hw:=vv hc
 have hpos:0<a.n:=by omega
 have hL:a.L≤2000:=by have:=a.n8;omega
 have hlt:=h.dev.fresh (Nat.le_refl w.heap.size)
 have hp0:=h.pow.lt
 have hq:w.heap.size∉[p,a.s,a.k,a.m]:=by simp;omega
 have C1:=hid (xcG (w.alloc (cfgO c)) p a S c (h.dev.keep ((xe.refl [] w).alloc (cfgO c)) (by simp) (by simp) (by simp) (by simp)) hc hn)
 have HN:=hid hn
 have HC:=hid hc
 have lm:∀v,(zD v).length=3:=fun _=>rfl
 have ll:=JP c
 have lk:=zy a.L
 have o2:=hc.2.1
 have o4:=hc.2.2.2.1
 have LL:=hid (And.intro (lm 0) (And.intro ll lk))
 clear hlt hp0 hn lm ll lk hw
 go_enter Tryz.func115,Tryz.ntmps115
 go_wp2_with fail
 refine C1.out.mono ?_
 rintro e w1 ⟨rfl,hk1⟩
 have hB1:=hk1.at (At.new w (cfgO c)) (by simp)
 have K1:=((xe.refl [p,a.s,a.k,a.m] w).alloc (cfgO c)).trans (hk1.mono (by simp))
 have h1:=(h.keep0 ((xe.refl [] w).alloc (cfgO c))).keep0 hk1
 clear hk1 C1
 go_wp2_with fail
 refine(JL w1 p a l u S 0 h1 hpos (by omega)).mono ?_
 rintro e w2 (⟨rfl,h2,k2⟩|⟨rfl,⟨S',c2,h2⟩,k2⟩)
 rotate_left
 ·exact⟨rfl,xN h2 (c2.left _) (K1.trans k2)⟩
 have hB2:=k2.at hB1 hq
 have K2:=K1.trans k2
 have c0:=hB2.cell 0 rfl
 have c1:=hB2.cell 1 rfl
 have c2:=hB2.cell 2 rfl
 clear k2 K1 h1
 go_wp2_with fail
 refine(xdT w2 p a l _ _ c h2 HC.out HN.out (by have:=LL.out.1;omega)).mono ?_
 rintro e w3 (⟨rfl,h3,k3⟩|⟨rfl,⟨S',c3,h3⟩,k3⟩)
 rotate_left
 ·exact⟨rfl,xN h3 (Cut.right (A:=zD 0) (c3.left _) rfl rfl) (K2.trans k3)⟩
 clear c0 c1 c2
 go_wp2_with fail
 refine(xcq w3 p a l _ _ h3 ⟨by have:=LL.out;omega,hL⟩).mono ?_
 rintro e w4 (⟨rfl,h4,k4⟩|⟨rfl,⟨S',c4,h4⟩,k4⟩)
 rotate_left
 ·exact⟨rfl,xN h4 (Cut.right (A:=zD 0) (Cut.right (A:=layL c) (c4.left _) rfl rfl) rfl rfl) ((K2.trans k3).trans k4)⟩
 go_wp2_with fail
 refine(JL w4 p a l _ _ XX h4 hpos (by have:=LL.out;omega)).mono ?_
 rintro e w5 (⟨rfl,h5,k5⟩|⟨rfl,⟨S',c5,h5⟩,k5⟩)
 rotate_left
 ·exact⟨rfl,xN h5 (Cut.right (A:=zD 0) (Cut.right (A:=layL c) (Cut.right (A:=ym a.L) c5 rfl rfl) rfl rfl) rfl rfl) (((K2.trans k3).trans k4).trans k5)⟩
 go_wp2_with fail
 go_ret
 refine wo h5 ?_ ?_ (((K2.trans k3).trans k4).trans k5)
 ·unfold fmtL
  simp only[List.length_append]
  omega
 ·unfold fmtL
  simp only[xg]
abbrev rdV (l r s e:Int):Value:=.tuple #[cfgI l r s,.int .i64 e]
theorem qD (w:World) (p:Nat) (a:DA) (S:DS) (h:Dev w p a S) (hn:0<a.n) (hm:S.now 0≠XX):
  Calls Tryz.prog 71 #[ptr a.d] w fun e w'=>e=.returned (rdV 0 0 0 7)/\xe [] w w':=by
 have C1:=hid (zn (w.alloc (.cells #[.int .i64 0,.int .i64 0,.int .i64 0] 36)) p a S 0 (h.keep ((xe.refl [] w).alloc _) (by simp) (by simp) (by simp) (by simp)) hn)
 have t0:(S.now 0==6076848300954571569)=false:=by rw[beq_eq_false_iff_ne];exact hm
 have t1:(S.now 0 != 6076848300954571569)=true:=by rw[bne,t0];rfl
 clear hm
 go_enter Tryz.func71,Tryz.ntmps71
 go_wp2_with fail
 refine C1.out.mono ?_
 rintro e w1 ⟨rfl,rfl⟩
 go_wp2_with fail
 refine bodyPost_ret (v:=rdV 0 0 0 7) ?_ rfl ?_
 ·simp[results,Tryz.results71,go_sem]
 ·exact⟨rfl,by repeat' (first|exact xe.refl _ _|refine xe.set ?_ (.inr (by simp)) _|refine xe.alloc ?_ _)⟩
def asInt (x:Int):Int:=wrap64 x
theorem xbi (w:World) (x y z:Int):
  Calls Tryz.prog 130 #[qF x y z] w fun e w'=>e=.returned (cfgI (asInt x) (asInt y) (asInt z))/\xe [] w w':=by
 go_enter Tryz.func130,Tryz.ntmps130
 go_wp2
 refine bodyPost_ret (v:=cfgI (asInt x) (asInt y) (asInt z)) ?_ rfl ?_
 ·simp[results,Tryz.results130,go_sem,asInt]
 ·exact⟨rfl,by repeat' (first|exact xe.refl _ _|refine xe.set ?_ (.inr (by simp)) _|refine xe.alloc ?_ _)⟩
def gotO (S:DS) (i:Nat):Obj:=xfh (if 0<i then S.now 1 else 0) (if 1<i then S.now 2 else 0) (if 2<i then S.now 3 else 0)
def ZX (S:DS) (n:Nat):Value:=
 if Vp (asInt (S.now 1)) (asInt (S.now 2)) (asInt (S.now 3)) n then rdV (asInt (S.now 1)) (asInt (S.now 2)) (asInt (S.now 3)) 0 else rdV 0 0 0 1
theorem Q9 (w:World) (p:Nat) (a:DA) (S:DS) (h:Dev w p a S) (hn:8≤a.n) (hm:S.now 0=XX):
  Calls Tryz.prog 71 #[ptr a.d] w fun e w'=>e=.returned (ZX S a.n)/\xe [] w w':=by
 have C1:=hid (XM (w.alloc (.cells #[.int .i64 0,.int .i64 0,.int .i64 0] 36)) p a S 0 6076848300954571569 (h.keep ((xe.refl [] w).alloc _) (by simp) (by simp) (by simp) (by simp)) (by omega) hm)
 clear hm
 go_enter Tryz.func71,Tryz.ntmps71
 go_wp2_with fail
 refine C1.out.mono ?_
 rintro e w1 ⟨rfl,rfl⟩
 clear C1
 have hB0:=(At.new w (.cells #[.int .i64 0,.int .i64 0,.int .i64 0] 36))
 have K0:=(xe.refl [] w).alloc (.cells #[.int .i64 0,.int .i64 0,.int .i64 0] 36)
 have z0:(w.alloc (.cells #[.int .i64 0,.int .i64 0,.int .i64 0] 36)).heap.size=w.heap.size+1:=by simp
 have h0:=h.keep K0 (by simp) (by simp) (by simp) (by simp)
 have k0:w.heap.size≤w.heap.size:=Nat.le_refl _
 obtain⟨b,hb⟩:∃b,b=w.heap.size:=⟨_,rfl⟩
 obtain⟨w0,hw0⟩:∃w0,w0=w.alloc (.cells #[.int .i64 0,.int .i64 0,.int .i64 0] 36):=⟨_,rfl⟩
 rw[<-hw0]at hB0 K0 z0 h0⊢
 rw[<-hb]at hB0 z0⊢
 have HB:=hid (show w.heap.size≤b by omega)
 have HZ:=hid z0
 clear hw0 hb z0 k0
 go_wp2_with fail
 have hN0:=At.new w0 (gotO S 0)
 have hN0':At (w0.alloc (.cells #[.int .u64 0,.int .u64 0,.int .u64 0] 175)) w0.heap.size (gotO S 0):=hN0
 have hB1:=hB0.alloc (.cells #[.int .u64 0,.int .u64 0,.int .u64 0] 175)
 have K1:=K0.alloc (.cells #[.int .u64 0,.int .u64 0,.int .u64 0] 175)
 have h1:=h0.keep ((xe.refl [] w0).alloc (.cells #[.int .u64 0,.int .u64 0,.int .u64 0] 175)) (by simp) (by simp) (by simp) (by simp)
 obtain⟨f1,f2,f3,f4⟩:=h0.fresh (Nat.le_refl _)
 have HF:=hid (And.intro f1 (And.intro f2 (And.intro f3 f4)))
 have hbn:b≠w0.heap.size:=by have:=HZ.out;omega
 have HBN:=hid hbn
 clear f1 f2 f3 f4 hN0 hB0 h0 hbn h
 go_loopg [11] 3 (fun r s wr=>∃i:Nat,∃z:Int,i+r=3∧z=i∧s=.int .i64 z∧At wr w0.heap.size (gotO S i)∧xe [w0.heap.size] (w0.alloc (.cells #[.int .u64 0,.int .u64 0,.int .u64 0] 175)) wr)
 case atStart=>exact⟨0,0,by omega,rfl,rfl,hN0',xe.refl _ _⟩
 case round=>
  obtain⟨i,z,hi,hz,rfl,hN,hK⟩:=hrel
  have hD:=h1.keep hK (by simpa using HF.out.1) (by simpa using HF.out.2.1) (by simpa using HF.out.2.2.1) (by simpa using HF.out.2.2.2)
  have hBr:=hK.at hB1 (by simpa using HBN.out)
  rcases(by omega:i=0\/i=1\/i=2\/i=3)with rfl|rfl|rfl|rfl
  ·obtain rfl:z=0:=by omega
   have HI:=hid hi
   clear hz hi
   have C2:=hid (zn wr p a S 1 hD (by omega))
   go_wp2_with fail
   refine C2.out.mono ?_
   rintro e w2 ⟨rfl,rfl⟩
   have f0:=hN.free 0
   have g0:=hN.cell 0 rfl
   go_wp2_with fail
   go_roundg 2
   case measure=>have:=HI.out;omega
   case rel=>
    refine⟨1,1,by omega,rfl,rfl,?_,hK.set (.inl (by simp)) _⟩
    exact hN.set 0 (.int .u64 (S.now 1))
  ·obtain rfl:z=1:=by omega
   have HI:=hid hi
   clear hz hi
   have C2:=hid (zn wr p a S 2 hD (by omega))
   go_wp2_with fail
   refine C2.out.mono ?_
   rintro e w2 ⟨rfl,rfl⟩
   have f0:=hN.free 1
   have g0:=hN.cell 1 rfl
   go_wp2_with fail
   go_roundg 1
   case measure=>have:=HI.out;omega
   case rel=>
    refine⟨2,2,by omega,rfl,rfl,?_,hK.set (.inl (by simp)) _⟩
    exact hN.set 1 (.int .u64 (S.now 2))
  ·obtain rfl:z=2:=by omega
   have HI:=hid hi
   clear hz hi
   have C2:=hid (zn wr p a S 3 hD (by omega))
   go_wp2_with fail
   refine C2.out.mono ?_
   rintro e w2 ⟨rfl,rfl⟩
   have f0:=hN.free 2
   have g0:=hN.cell 2 rfl
   go_wp2_with fail
   go_roundg 0
   case measure=>have:=HI.out;omega
   case rel=>
    refine⟨3,3,by omega,rfl,rfl,?_,hK.set (.inl (by simp)) _⟩
    exact hN.set 2 (.int .u64 (S.now 3))
  ·obtain rfl:z=3:=by omega
   clear hz hi
   have c0:=hN.cell 0 rfl
   have c1:=hN.cell 1 rfl
   have c2:=hN.cell 2 rfl
   go_wp2_with fail
   refine(xbi wr (S.now 1) (S.now 2) (S.now 3)).mono ?_
   rintro e w2 ⟨rfl,hk2⟩
   have hD2:=hD.keep hk2 (by simp) (by simp) (by simp) (by simp)
   have hB2:=hk2.at hBr (by simp)
   have K2:xe [] w w2:=(K1.new hK (by have:=HZ.out;have:=HB.out;simp;omega)).trans hk2
   have hC2:=At.new w2 (.cells #[.int .i64 (asInt (S.now 1)),.int .i64 (asInt (S.now 2)),.int .i64 (asInt (S.now 3))] 36)
   have K3:=K2.alloc (.cells #[.int .i64 (asInt (S.now 1)),.int .i64 (asInt (S.now 2)),.int .i64 (asInt (S.now 3))] 36)
   have hD3:=hD2.keep ((xe.refl [] w2).alloc (.cells #[.int .i64 (asInt (S.now 1)),.int .i64 (asInt (S.now 2)),.int .i64 (asInt (S.now 3))] 36)) (by simp) (by simp) (by simp) (by simp)
   have hB3:=hB2.alloc (.cells #[.int .i64 (asInt (S.now 1)),.int .i64 (asInt (S.now 2)),.int .i64 (asInt (S.now 3))] 36)
   clear c0 c1 c2 hk2 hD hBr hN hK
   have C3:=hid (xcH _ p a S (asInt (S.now 1)) (asInt (S.now 2)) (asInt (S.now 3)) hD3)
   have hbw:b<w2.heap.size:=hB2.lt
   cases hf:Vp (asInt (S.now 1)) (asInt (S.now 2)) (asInt (S.now 3)) a.n
   ·have E:Hid (ZX S a.n=rdV 0 0 0 1):=by show _=_;simp[ZX,hf]
    have F:=hid hf
    clear hf
    go_wp2_with fail
    refine C3.out.mono ?_
    rintro e w3 ⟨rfl,hk3⟩
    rw[F.out]
    have hB4:=hk3.at hB3 (by simp)
    have K4:=K3.trans hk3
    have f0:=hB4.free 0
    have f1:=hB4.free 1
    have f2:=hB4.free 2
    have c0:=hB4.cell 0 rfl
    have c1:=hB4.cell 1 rfl
    have c2:=hB4.cell 2 rfl
    go_wp2_with fail
    have hB5:=((hB4.set 0 (.int .i64 0)).set 1 (.int .i64 0)).set 2 (.int .i64 0)
    have d0:=hB5.cell 0 rfl
    have d1:=hB5.cell 1 rfl
    have d2:=hB5.cell 2 rfl
    refine bodyPost_ret (v:=rdV 0 0 0 1) ?_ rfl ?_
    ·simp[results,Tryz.results71,go_sem,d0,d1,d2]
    ·rw[E.out]
     exact⟨rfl,((K4.set (.inr HB.out) _).set (.inr HB.out) _).set (.inr HB.out) _⟩
   ·have E:Hid (ZX S a.n=rdV (asInt (S.now 1)) (asInt (S.now 2)) (asInt (S.now 3)) 0):=by show _=_;simp[ZX,hf]
    have F:=hid hf
    clear hf
    go_wp2_with fail
    refine C3.out.mono ?_
    rintro e w3 ⟨rfl,hk3⟩
    rw[F.out]
    have hB4:=hk3.at hB3 (by simp)
    have hC4:=hk3.at hC2 (by simp)
    have K4:=K3.trans hk3
    have f0:=hB4.free 0
    have f1:=hB4.free 1
    have f2:=hB4.free 2
    have c0:=hB4.cell 0 rfl
    have c1:=hB4.cell 1 rfl
    have c2:=hB4.cell 2 rfl
    have c3:=hC4.cell 0 rfl
    have c4:=hC4.cell 1 rfl
    have c5:=hC4.cell 2 rfl
    go_wp2_with fail
    have hB5:=((hB4.set 0 (.int .i64 (asInt (S.now 1)))).set 1 (.int .i64 (asInt (S.now 2)))).set 2 (.int .i64 (asInt (S.now 3)))
    have d0:=hB5.cell 0 rfl
    have d1:=hB5.cell 1 rfl
    have d2:=hB5.cell 2 rfl
    refine bodyPost_ret (v:=rdV (asInt (S.now 1)) (asInt (S.now 2)) (asInt (S.now 3)) 0) ?_ rfl ?_
    ·simp[results,Tryz.results71,go_sem,d0,d1,d2]
    ·rw[E.out]
     exact⟨rfl,((K4.set (.inr HB.out) _).set (.inr HB.out) _).set (.inr HB.out) _⟩
open Go.RowKit
def vX (c:Cfg) (f:Nat->Int):Prop:=
 f 1=c.log/\f 2=c.roots/\f 3=c.space/\f 8=1/\(∀i,i<c.log->f (16+4*i)=0)/\∀i,c.act≤i->i<c.root c.roots->f i=0
def X5 (c:Cfg) (f:Nat->Int):Prop:=f 0=XX/\vX c f
theorem places {c:Cfg} (_hc:c.Ok):16+4*c.log≤c.act/\c.act+2+c.roots≤c.words/\16≤c.act/\c.root c.roots=c.act+2+c.roots:=by
 have a4:=xD (16+4*c.log)
 have a7:=xD (c.root c.roots)
 have a9:c.root c.roots=c.act+2+c.roots:=rfl
 have a10:c.act=up8 (16+4*c.log):=rfl
 have e2:c.words=up8 (c.root c.roots)+2*up8 c.space:=rfl
 omega
theorem vX.congr {c:Cfg} (hc:c.Ok) {f g:Nat->Int} (h:vX c f) (e:∀j,0<j->j<c.words->g j=f j):vX c g:=by
 obtain⟨p1,p2,p3,p4⟩:=places hc
 obtain⟨h1,h2,h3,h4,h5,h6⟩:=h
 refine⟨?_,?_,?_,?_,fun i hi=>?_,fun i hi1 hi2=>?_⟩
 ·rw[e _ (by omega) (by omega),h1]
 ·rw[e _ (by omega) (by omega),h2]
 ·rw[e _ (by omega) (by omega),h3]
 ·rw[e _ (by omega) (by omega),h4]
 ·rw[e _ (by omega) (by omega),h5 i hi]
 ·rw[e _ (by omega) (by omega),h6 i hi1 hi2]
theorem wV (S:DS) {i j:Nat} (v:Int) (h:i≠j):(xh S [.st i v]).now j=S.now j:=by
 show put S.now i v j=_
 unfold put
 rw[if_neg (fun e=>h e.symm)]
theorem Jy (S:DS) (i:Nat) (v:Int):(xh S [.st i v]).now i=v:=by
 show put S.now i v i=_
 simp[put]
theorem JO (S:DS) (n j:Nat) (h:∀i,i<n->16+4*i≠j):(xh S (rowL layR n)).now j=S.now j:=wQ (fun i=>16+4*i) (fun _=>0) S n j h
theorem xco (c:Cfg) (S:DS) (n j:Nat) (h:∀i,i<n->c.root i≠j):(xh S (rowL (layT c) n)).now j=S.now j:=wQ c.root (fun _=>0) S n j h
theorem xcp (c:Cfg) (S:DS) (n j:Nat) (h:∀i,i<n->1+i≠j):(xh S (rowL (layA c) n)).now j=S.now j:=wQ (fun i=>1+i) (numC c) S n j h
theorem xcn (S:DS) {c:Cfg} (hc:c.Ok):vX c (xh S (layL c)).now/\(xh S (layL c)).now 0=S.now 0:=by
 obtain⟨p1,p2,p3,p4⟩:=places hc
 have r:∀i,c.root i=c.act+2+i:=fun _=>rfl
 have hT:∀(S:DS) j,j<c.act+2->(xh S (rowL (layT c) c.roots)).now j=S.now j:=fun S j hj=>xco c S _ j (fun i _=>by rw[r];omega)
 have hE:∀(S:DS) j,j<16->j≠8->(xh S (layL c)).now j=(xh S (rowL (layA c) 3)).now j:=by
  intro S j hj hj8
  unfold layL
  rw[xg,xg,xg,xg,xg,hT _ j (by omega),wV _ _ (by omega),wV _ _ (by omega),JO _ _ _ (fun i _=>by omega),wV _ _ (by omega)]
 have hA:∀i,i<3->(xh S (rowL (layA c) 3)).now (1+i)=numC c i:=fun i hi=>Yh (fun i=>1+i) (numC c) S 3 i hi (fun j _ _=>by omega)
 refine⟨⟨?_,?_,?_,?_,fun i hi=>?_,fun i hi1 hi2=>?_⟩,?_⟩
 ·rw[hE S 1 (by omega) (by omega)];exact hA 0 (by omega)
 ·rw[hE S 2 (by omega) (by omega)];exact hA 1 (by omega)
 ·rw[hE S 3 (by omega) (by omega)];exact hA 2 (by omega)
 ·unfold layL
  rw[xg,xg,xg,xg,xg,hT _ 8 (by omega),wV _ _ (by omega),wV _ _ (by omega),JO _ _ _ (fun i _=>by omega),Jy]
 ·unfold layL
  rw[xg,xg,xg,hT _ _ (by omega),wV _ _ (by omega),wV _ _ (by omega),xg]
  exact Yh (fun i=>16+4*i) (fun _=>0) _ c.log i hi (fun j _ _=>by omega)
 ·unfold layL
  rw[p4]at hi2
  by_cases h1:i<c.act+2
  ·rw[xg,hT _ _ h1]
   by_cases h2:i=c.act+1
   ·subst h2
    rw[xg,Jy]
   ·obtain rfl:i=c.act:=by omega
    rw[xg,wV _ _ (by omega),xg,Jy]
  ·obtain⟨k,rfl⟩:∃k,i=c.root k:=⟨i-(c.act+2),by rw[r];omega⟩
   rw[xg]
   exact Yh c.root (fun _=>0) _ c.roots k (by rw[r]at hi2;omega) (fun j h1 _=>by rw[r,r];omega)
 ·rw[hE S 0 (by omega) (by omega)]
  exact xcp c S 3 0 (fun i _=>by omega)
theorem yO {f:Nat->Cmd} {n:Nat} {x:Cmd} (h:x∈rowL f n):∃i,i<n/\x=f i:=by
 simp only[rowL,List.mem_map,List.mem_range]at h
 obtain⟨i,h1,h2⟩:=h
 exact⟨i,h1,h2.symm⟩
theorem xfj {c:Cfg} (hc:c.Ok) {x:Cmd} (h:x∈layL c):x.isSt/\x.Off 0:=by
 obtain⟨p1,p2,p3,p4⟩:=places hc
 simp only[layL,List.mem_append,List.mem_singleton]at h
 rcases h with((((h|rfl)|h)|rfl)|rfl)|h
 ·obtain⟨i,_,rfl⟩:=yO h
  exact⟨trivial,show 1+i≠0 by omega⟩
 ·exact⟨trivial,show 8≠0 by omega⟩
 ·obtain⟨i,_,rfl⟩:=yO h
  exact⟨trivial,show 16+4*i≠0 by omega⟩
 ·exact⟨trivial,show c.act≠0 by omega⟩
 ·exact⟨trivial,show c.act+1≠0 by omega⟩
 ·obtain⟨i,_,rfl⟩:=yO h
  exact⟨trivial,show c.act+2+i≠0 by omega⟩
theorem YS (S:DS) (L:Nat):(xh S (ym L)).now=S.now/\(∀j,j<8*L->(xh S (ym L)).kept j=S.now j)/\(xh S (ym L)).is=fun _=>false:=by
 obtain⟨h1,h2,h3⟩:=Zt S L
 have e:rowL wX L=rowL (fun k=>.fl (8*k)) L:=rfl
 unfold ym
 rw[xg,e]
 generalize xh S (rowL (fun k=>.fl (8*k)) L)=T at h1 h2 h3⊢
 refine⟨h1,fun j hj=>?_,rfl⟩
 show(if T.is (j/8)=true then T.tok j else T.kept j)=S.now j
 have:=h3 j (by omega)
 rw[if_pos this.1,this.2]
theorem qI (S:DS) (i:Nat) (x:Int):leftV S i x=S.now i\/leftV S i x=S.kept i\/(S.is (i/8)=true/\leftV S i x=S.tok i):=by
 unfold leftV
 by_cases h1:x=1
 ·rw[if_pos h1]
  by_cases h2:S.is (i/8)=true
  ·rw[if_pos h2];exact .inr (.inr ⟨h2,rfl⟩)
  ·rw[if_neg h2];exact .inr (.inl rfl)
 ·rw[if_neg h1]
  by_cases h2:x=2
  ·rw[if_pos h2];exact .inl rfl
  ·rw[if_neg h2];exact .inr (.inl rfl)
theorem xI {α:Type} (f:Nat->α) {i j:Nat} (v:α) (h:j≠i):put f i v j=f j:=by unfold put;rw[if_neg h]
theorem xO {α:Type} (f:Nat->α) (i:Nat) (v:α):put f i v i=v:=by unfold put;rw[if_pos rfl]
theorem xaz (S:DS) (v:Int) (hi:∀k,S.is k=false):
  (xh S (zD v)).now=put S.now 0 v/\(xh S (zD v)).kept=(fun j=>if j/8=0 then put S.now 0 v j else S.kept j)/\(xh S (zD v)).is=fun _=>false:=by
 refine⟨rfl,?_,rfl⟩
 funext j
 show(if put S.is (0/8) true (j/8)=true then(if j/8=0/8 then put S.now 0 v j else S.tok j)else S.kept j)=_
 by_cases h:j/8=0
 ·simp[put,h]
 ·rw[if_neg (by simp[put,h,hi]),if_neg h]
theorem xd9 (S:DS) {c:Cfg} {L:Nat} (hc:c.Ok):
  vX c (xh (xh (xh S (zD 0)) (layL c)) (ym L)).now/\(xh (xh (xh S (zD 0)) (layL c)) (ym L)).now 0=0/\
  (∀j,j<8*L->(xh (xh (xh S (zD 0)) (layL c)) (ym L)).kept j=(xh (xh (xh S (zD 0)) (layL c)) (ym L)).now j)/\(xh (xh (xh S (zD 0)) (layL c)) (ym L)).is=fun _=>false:=by
 have h1:=xcn (xh S (zD 0)) hc
 have h2:=YS (xh (xh S (zD 0)) (layL c)) L
 refine⟨by rw[h2.1];exact h1.1,by rw[h2.1,h1.2];rfl,fun j hj=>by rw[h2.2.1 j hj,h2.1],h2.2.2⟩
theorem xcC {c:Cfg} (hc:c.Ok) {L j:Nat} (hj:c.root c.roots≤j) {y:Cmd} (h:y∈fmtL c L):y.Off j:=by
 obtain⟨p1,p2,p3,p4⟩:=places hc
 have hm:∀ {v:Int} {y:Cmd},y∈zD v->y.Off j:=fun {v y} h=>by
  simp only[zD,List.mem_cons,List.not_mem_nil,or_false]at h
  rcases h with rfl|rfl|rfl
  ·show 0≠j;omega
  ·trivial
  ·trivial
 simp only[fmtL,List.mem_append]at h
 rcases h with h|h|h|h
 ·exact hm h
 ·simp only[layL,List.mem_append,List.mem_singleton]at h
  rcases h with((((h|rfl)|h)|rfl)|rfl)|h
  ·obtain⟨i,hi,rfl⟩:=yO h
   show 1+i≠j;omega
  ·show 8≠j;omega
  ·obtain⟨i,hi,rfl⟩:=yO h
   show 16+4*i≠j;omega
  ·show c.act≠j;omega
  ·show c.act+1≠j;omega
  ·obtain⟨i,hi,rfl⟩:=yO h
   show c.act+2+i≠j;omega
 ·simp only[ym,List.mem_append,List.mem_singleton]at h
  rcases h with h|rfl
  ·obtain⟨i,hi,rfl⟩:=yO h
   trivial
  ·trivial
 ·exact hm h
theorem Yo (S:DS) {c:Cfg} {L:Nat} (hc:c.Ok):
  X5 c (xh S (fmtL c L)).now/\(∀j,j<8*L->(xh S (fmtL c L)).kept j=(xh S (fmtL c L)).now j)/\(∀k,(xh S (fmtL c L)).is k=false):=by
 obtain⟨h1,h2,h3,h4⟩:=xd9 S hc
 unfold fmtL
 rw[xg,xg,xg]
 generalize xh (xh (xh S (zD 0)) (layL c)) (ym L)=T at h1 h2 h3 h4⊢
 obtain⟨m1,m2,m3⟩:=xaz T XX (fun k=>by rw[h4])
 refine⟨⟨by rw[m1];simp[put],h1.congr hc fun j h0 _=>by rw[m1];simp[put,show j≠0 by omega]⟩,fun j hj=>?_,fun k=>by rw[m3]⟩
 rw[m1,m2]
 by_cases h8:j/8=0
 ·simp only[h8,if_true]
 ·simp only[h8,if_false]
  rw[h3 j hj]
  simp[put,show j≠0 by omega]
end Go.Proofs.YtcdhklgahepcaaaGreat
