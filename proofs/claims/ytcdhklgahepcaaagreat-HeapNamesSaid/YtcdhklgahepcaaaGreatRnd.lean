import Derived.Test.YtcdhklgahepcaaaGreatLaw6
import Derived.Deep.Quiet
import Derived.Deep.RegionHeld3
import Derived.BigQuiet
import Derived.LoopN
import Derived.RangeFuncNested
namespace Go.Proofs.YtcdhklgahepcaaaGreat
open Go.RowKit Go.OpenShut
def qc (J:Nat->World->Prop) (Jx:World->Prop) (k:Nat) (W0 W:World) (e:Ending) (w':World):Prop:=
 ((e=.returned (.bool true)/\J (k+1) w')\/(e=.returned (.bool false)/\Jx w'))/\∃T,xe T W w'/\∀b∈T,b<W0.heap.size
def xfl (J:Nat->World->Prop) (Jx:World->Prop) (m:Nat) (e:Ending) (w':World):Prop:=e=.returned (.tuple #[])/\(J m w'\/Jx w')
def xeq (P:Program) (gf:FuncId) (lb:Array Value) (m:Nat) (args:Nat->Array Value) (Fct:Nat->World->Prop):Prop:=
 ∀(l:Nat) (J:Nat->World->Prop) (Jx:World->Prop) (W:World),(∀k W,J k W->Fct k W)->(∀k W W',J k W->xe [] W W'->J k W')->
  (∀k W0 W,k<m->J k W0->xe [] W0 W->YieldAt Fence.wide 3 P l (args k) W (qc J Jx k W0 W))->J 0 W->
  CallsIn Fence.wide 4 P gf (#[.func (.yield l) #[] #[]]++lb) W (xfl J Jx m)
def Iter (P:Program) (gf:FuncId) (lb:Array Value) (m:Nat) (args:Nat->Array Value) (Fct:World->Prop):Prop:=xeq P gf lb m args fun _=>Fct
section
variable {P:Program} {Q:Exit->Act->World->Prop} {a:Act} {w:World}
def xeF (P:Program) (l:Nat) (Q:Exit->Act->World->Prop) (a':Act) (e:Ending) (w₃:World):Prop:=
 match e with
 | .returned _=>(∃w₄,(Instr.endLoop l).run P w₃=.ok none w₄/\Q .normal a' w₄)\/∃c w₄,(Instr.endLoop l).run P w₃=.ok (some c) w₄/\c.wp P Q a' w₄
 |_=>False
theorem vZ {g:Operand} {ps:Array Tmp} {assign body:Code} {gf:FuncId} {lb:Array Value} (hg:a.eval g=.func (.func gf) #[] lb) (eg:∀args w,(callFunc gf args).run P w=.ok (.enter gf args) w)
  (h:∀fn,CallsIn Fence.wide 4 P gf (#[.func (.yield (w.heap.size+1)) #[] #[]]++lb) ((w.alloc (.deferred (some []))).alloc (.loop { state:=.ready,pending:=none,fn:=fn,tmps:=a.tmps,params:=ps,assign,body,defers:=w.heap.size }))
    (xeF P (w.heap.size+1) Q { a with defers:= { target:=.collected w.heap.size,args:=#[] } ::a.defers })):
  (Code.rangeFunc g ps assign body).wp P Q a w:=by
 refine(wpIn_wide (n:=5)).1 (wpIn_rangeFunc fun fn _=>?_)
 have he:=run_enterLoop_outer (P:=P) (w:=w) fn a.tmps ps assign body
 have h1:=h fn
 obtain⟨W1,hW1⟩:∃W1,W1=(w.alloc (.deferred (some []))).alloc (.loop { state:=.ready,pending:=none,fn:=fn,tmps:=a.tmps,params:=ps,assign,body,defers:=w.heap.size }):=⟨_,rfl⟩
 rw[<-hW1]at he h1
 have hres:(resolve a.eval (rangeCall g (w.heap.size+1)) 0).run P W1=.ok { target:=.fn (.func gf) lb,args:=#[.func (.yield (w.heap.size+1)) #[] #[]] } W1:=by
  simp only[resolve,hg]
  simp[go_sem]
 have hinv:(invoke (.fn (.func gf) lb) #[.func (.yield (w.heap.size+1)) #[] #[]]).run P W1=.ok (.enter gf (#[.func (.yield (w.heap.size+1)) #[] #[]]++lb)) W1:=by
  simp[invoke,go_sem,eg]
 refine⟨_,_,W1,_,W1,gf,_,W1,he,hres,fun _ _=>trivial,hinv,fun _=>by omega,h1.mono ?_⟩
 intro e w₃ hR
 cases e with
 |outgrown=>exact hR.elim
 |panicked chain=>exact hR.elim
 |returned v=>
  rcases hR with⟨w₄,hend,hj⟩|⟨c,w₄,hend,hj⟩
  ·exact⟨none,w₄,hend,hj⟩
  ·exact⟨some c,w₄,hend,wpIn_wide.2 hj⟩
def jq (P:Program) (l d:Nat) (I:World->Prop) (Ix:World->Prop) (jc:Code) (e:Ending) (w₃:World):Prop:=
 match e with
 | .returned _=>(∃w₄,(Instr.endLoop l).run P w₃=.ok none w₄/\I w₄/\At w₄ d (.deferred (some [])))\/
   (∃w₄,(Instr.endLoop l).run P w₃=.ok (some jc) w₄/\Ix w₄/\At w₄ d (.deferred (some [])))
 |_=>False
theorem Vg {gf:FuncId} {lb:Array Value} {m:Nat} {args:Nat->Array Value} {Fct:Nat->World->Prop} (hIt:xeq P gf lb m args Fct) (f:FuncId) (w:World) (tmps:Array Value) (ps:Array Tmp) (assign body:Code)
  (I:Nat->World->Prop) (Ix:World->Prop) (X:Exit) (jc:Code) (hX:(X=.ret/\jc=.ret)\/∃id,X=.exit id/\jc=.exit id)
  (hps:∀k,(args k).size=ps.size)
  (hF:∀k W,I k W->Fct k W)
  (hI:∀k W W',I k W->xe [w.heap.size+1] W W'->I k W')
  (hIx:∀W W',Ix W->xe [w.heap.size+1] W W'->Ix W')
  (hround:∀(l k:Nat) (W0 W:World),k<m->I k W0->xe [] W0 W->I k W->w.heap.size+2≤W0.heap.size->assign.wpIn (Fence.wide.inRound l) 3 P (Exit.then (fun a₁ W₁=>xe [] W W₁/\∀W₂,xe [w.heap.size+1] W₁ W₂->W₂.heap.size=W₁.heap.size->
    body.wpIn (Fence.wide.inRound l) 3 P (fun e _ W'=>((e=.normal/\I (k+1) W')\/(e=X/\Ix W'))/\∃T',xe T' W₂ W'/\w.heap.size∉T'/\w.heap.size+1∉T'/\∀b∈T',b<W0.heap.size\/W.heap.size≤b) a₁ W₂) (fun _ _ _=>False))
    { tmps:=(ps.zip (args k)).foldl (fun t (p,v)=>t.setIfInBounds p v) tmps,defers:=[] } W)
  (h0:I 0 w):
  CallsIn Fence.wide 4 P gf (#[.func (.yield (w.heap.size+1)) #[] #[]]++lb) ((w.alloc (.deferred (some []))).alloc (.loop { state:=.ready,pending:=none,fn:=f,tmps,params:=ps,assign,body,defers:=w.heap.size }))
   (jq P (w.heap.size+1) w.heap.size (I m) Ix jc):=by
 obtain⟨rec,hrec⟩:∃rec:LoopState->Option Code->Loop,rec=fun st pd=> { state:=st,pending:=pd,fn:=f,tmps,params:=ps,assign,body,defers:=w.heap.size } :=⟨_,rfl⟩
 obtain⟨W1,hW1⟩:∃W1,W1=(w.alloc (.deferred (some []))).alloc (.loop (rec .ready none)):=⟨_,rfl⟩
 have hL1:At W1 (w.heap.size+1) (.loop (rec .ready none)):=by
  rw[hW1]
  have:=At.new (w.alloc (.deferred (some []))) (.loop (rec .ready none))
  rwa[World.size_alloc]at this
 have hD1:At W1 w.heap.size (.deferred (some [])):=by rw[hW1];exact(At.new w _).alloc _
 have hI1:I 0 W1:=hI 0 w W1 h0 (by rw[hW1];exact(((xe.refl [] w).alloc _).alloc _).mono (by simp))
 rw[show(w.alloc (.deferred (some []))).alloc (.loop { state:=.ready,pending:=none,fn:=f,tmps,params:=ps,assign,body,defers:=w.heap.size })=W1 by rw[hW1,hrec]]
 refine(hIt (w.heap.size+1) (fun k W=>I k W/\At W (w.heap.size+1) (.loop (rec .ready none))/\At W w.heap.size (.deferred (some []))) (fun W=>Ix W/\At W (w.heap.size+1) (.loop (rec .done (some jc)))/\At W w.heap.size (.deferred (some []))) W1
  (fun k W h=>hF k W h.1) (fun k W W' h hk=>⟨hI k W W' h.1 (hk.mono (by simp)),hk.at h.2.1 (by simp),hk.at h.2.2 (by simp)⟩) ?_ ⟨hI1,hL1,hD1⟩).mono ?_
 ·rintro k W0 W hk ⟨hI0,hL0,hD0⟩ k0
  have hIk:=hI k W0 W hI0 (k0.mono (by simp))
  have hL:=k0.at hL0 (by simp)
  have hD:=k0.at hD0 (by simp)
  have hy:=run_yield (P:=P) (args:=args k) hL (by rw[hrec];exact hps k)
  rw[hrec]at hy
  have hsz:w.heap.size+2≤W0.heap.size:=by have:=hL0.lt;omega
  refine⟨f,_,assign,body,hy,roundIn_of_wpIn trivial (wpIn_mono (hround _ k W0 W hk hI0 k0 hIk hsz) ?_)⟩
  intro e a₁ Wx hq
  cases e with
  |normal=>
   obtain⟨k1,hb⟩:=hq
   have hL1:=k1.at hL (by simp)
   have hD1:=k1.at hD (by simp)
   refine⟨_,run_beginRound hL1 (by rw[hrec]),?_⟩
   have kb:xe [w.heap.size+1] Wx (Wx.putObj (w.heap.size+1) (.loop { rec .ready none with state:=.busy })):=(xe.refl _ _).put (.inl (by simp)) _
   have hLb:=hL1.put_same (.loop { rec .ready none with state:=.busy })
   have hDb:=kb.at hD1 (by simp)
   refine wpIn_mono (hb _ kb (by rw[World.putObj_size])) ?_
   rintro e a' W' ⟨hq,T',hk',hT1,hT2,hT3⟩
   have hLx:=hk'.at hLb hT2
   have hDx:=hk'.at hDb hT1
   have kr:∀o,xe [w.heap.size+1] W' (W'.putObj (w.heap.size+1) o):=fun o=>(xe.refl _ _).put (.inl (by simp)) o
   have kT:∀o,∃T,xe T W (W'.putObj (w.heap.size+1) o)/\∀b∈T,b<W0.heap.size:=fun o=>by
    refine⟨(w.heap.size+1)::T'.filter (fun b=>decide (b<W.heap.size)),?_,fun b hb=>?_⟩
    ·have h1:xe ((w.heap.size+1)::T'.filter (fun b=>decide (b<W.heap.size))) W W':=
      ((k1.mono (by simp)).trans (kb.mono (by intro k _ h;rw[List.mem_singleton.1 h];exact List.mem_cons_self))).new (hk'.mono (fun _ _ h=>h)) (fun b hb=>by
        by_cases hbW:b<W.heap.size
        ·exact .inl (by simp[hb,hbW])
        ·exact .inr (by omega))
     exact h1.trans ((kr o).mono (by intro k _ h;rw[List.mem_singleton.1 h];exact List.mem_cons_self))
    ·rcases List.mem_cons.1 hb with rfl|hb
     ·omega
     ·obtain⟨h1,h2⟩:=List.mem_filter.1 hb
      have h2:=of_decide_eq_true h2
      rcases hT3 b h1 with h3|h3
      ·exact h3
      ·omega
   rcases hq with⟨rfl,hI'⟩|⟨rfl,hx'⟩
   ·have hr:=run_endRound (P:=P) none hLx
    rw[hrec]at hr
    refine⟨_,_,hr,.inl ⟨rfl,?_,?_,?_⟩,kT _⟩
    ·exact hI (k+1) W' _ hI' (kr _)
    ·rw[hrec];exact hLx.put_same _
    ·exact(kr _).at hDx (by simp)
   ·have hr:=run_endRound (P:=P) (some jc) hLx
    rw[hrec]at hr
    have hend:qc (fun k W=>I k W/\At W (w.heap.size+1) (.loop (rec .ready none))/\At W w.heap.size (.deferred (some []))) (fun W=>Ix W/\At W (w.heap.size+1) (.loop (rec .done (some jc)))/\At W w.heap.size (.deferred (some []))) k W0 W (.returned (.bool false)) (W'.putObj (w.heap.size+1) (.loop (rec .done (some jc)))):=
     ⟨.inr ⟨rfl,hIx W' _ hx' (kr _),hLx.put_same _,(kr _).at hDx (by simp)⟩,kT _⟩
    rw[hrec]at hend
    rcases hX with⟨rfl,rfl⟩|⟨id,rfl,rfl⟩
    ·exact⟨_,_,hr,by rw[hrec];exact hend⟩
    ·exact⟨_,_,hr,by rw[hrec];exact hend⟩
  |exit _=>exact hq.elim
  |goto _=>exact hq.elim
  |ret=>exact hq.elim
  |panic _=>exact hq.elim
  |outgrown=>exact hq.elim
 ·rintro e W2 ⟨rfl,⟨hI2,hL2,hD2⟩|⟨hx2,hL2,hD2⟩⟩
  ·have hr:=run_endLoop (P:=P) hL2 (by rw[hrec];simp)
   rw[hrec]at hr
   refine .inl ⟨_,hr,?_,?_⟩
   ·exact hI m W2 _ hI2 ((xe.refl _ _).put (.inl (by simp)) _)
   ·exact((xe.refl [w.heap.size+1] W2).put (.inl (by simp)) _).at hD2 (by simp)
  ·have hr:=run_endLoop (P:=P) hL2 (by rw[hrec];simp)
   rw[hrec]at hr
   refine .inr ⟨_,hr,?_,?_⟩
   ·exact hIx W2 _ hx2 ((xe.refl _ _).put (.inl (by simp)) _)
   ·exact((xe.refl [w.heap.size+1] W2).put (.inl (by simp)) _).at hD2 (by simp)
end
open Go.RowKit Go.OpenShut
section
variable {P:Program} {ops:Array Oper} {md:Region.Mode} {C:World->Prop} {l n:Nat}
def ndB (ops:Array Oper):Bool:=ops.toList.all fun o=>match o.op with| .defer _=>false|_=>true
theorem xeM (h:ndB ops=true) {i:Nat} {o:Oper} (ho:ops[i]? =some o):∀c,o.op≠.defer c:=by
 intro c hc
 have hm:o∈ops.toList:=by
  obtain⟨hi,he⟩:=Array.getElem?_eq_some_iff.1 ho
  rw[<-he]
  exact Array.getElem_mem_toList hi
 have:=List.all_eq_true.1 h o hm
 rw[hc]at this
 exact Bool.noConfusion this
theorem qd {o:Oper} {a:Act} {w:World} {K:Act->World->Prop} {Q:Exit->Act->World->Prop} (hd:∀c,o.op≠.defer c) (h:o.wp P a w K Q):o.wpIn (Fence.wide.inRound l) n P a w K Q:=by
 refine⟨fun _ _=>trivial,?_⟩
 unfold Oper.wp at h
 rw[Oper.semAt_eq _ _ _ hd]
 generalize (execOp a.eval o).run P w=r at*
 cases r with
 |ok x w'=>
  cases x<;>simp only[Oper.upon,Oper.uponIn]at h⊢<;>
   first
    |exact h
    |exact⟨fun h=>by simp[Fence.wide]at h,CallsIn.inRound l (callsIn_wide.2 h)⟩
    |exact⟨fun h=>by simp[Fence.wide]at h,fun c cs _=>let ⟨v,w',r,s⟩:=h c cs;⟨v,w',r,stepsIn_wide.2 s⟩⟩
 |halt x w'=>cases x<;>simp only[Oper.upon,Oper.uponIn]at h⊢<;>exact h
theorem Za {Q:Exit->Act->World->Prop} {i:Nat} {a:Act} {K K':Act->World->Prop} {w:World} (hd:ndB ops=true) (hQ:¬LetsOut Q) (h:∀a w',K a w'->K' a w') (hh:wpOp P ops Q i K a w):wpOpIn (Fence.wide.inRound l) n P ops Q i K' a w:=by
 unfold wpOp at hh
 unfold wpOpIn
 split
 ·rename_i ho;simp only[ho]at hh;exact h _ _ hh
 ·rename_i o ho
  simp only[ho]at hh
  split
  ·rename_i hw
   simp only[hw,if_true]at hh
   rcases hh with hh|⟨_,hh⟩
   ·exact Oper.wpIn_mono h (qd (xeM hd ho) hh)
   ·exact absurd hh hQ
  ·rename_i hw;simp only[hw]at hh;exact⟨fun _ _=>trivial,h _ _ hh⟩
theorem vL {Q:Exit→Act→World→Prop} (hd:ndB ops=true) (hQ:¬LetsOut Q):∀(fuel:Nat) (listed:Array Bool) (a:Act) (w:World),wpAny P md ops Q fuel listed a w→wpAnyIn (Fence.wide.inRound l) n P md ops Q fuel listed a w
 |0,_,_,_,h=>h
 |fuel+1,_,_,_,h=>⟨h.1,fun i hi=>Za hd hQ (fun _ _ h'=>vL hd hQ fuel _ _ _ h') (h.2 i hi)⟩
end
theorem xbW {P:Program} {c:Code} {Q:Exit->Act->World->Prop} {n:Nat} {a:Act} {w:World} (h:∀K:Act->World->Prop,(∀a w,Code.rounds P c Q n a w->K a w)->c.wp P (Exit.then K Q) a w):Code.rounds P c Q (n+1) a w:=
 h _ fun _ _ h=>h
open Go.RowKit Go.OpenShut
def ZN (W:World) (l:Nat):Prop:=∃r,At W l (.loop r)
section
variable {P:Program}
theorem qN {gf:FuncId} {lb:Array Value} {m:Nat} {args:Nat->Array Value} {Fct:World->Prop} (hIt:Iter P gf lb m args Fct) (f:FuncId) (w:World) (tmps:Array Value) (ps:Array Tmp) (assign body:Code)
  (I:Nat->World->Prop) (Ix:World->Prop) (X:Exit) (jc:Code) (hX:(X=.ret/\jc=.ret)\/∃id,X=.exit id/\jc=.exit id)
  (hps:∀k,(args k).size=ps.size)
  (hF:∀k W,I k W->Fct W)
  (hI:∀k W W',I k W->xe [w.heap.size+1] W W'->I k W')
  (hIx:∀W W',Ix W->xe [w.heap.size+1] W W'->Ix W')
  (hround:∀(k:Nat) (W0 W:World),k<m->I k W0->xe [] W0 W->I k W->w.heap.size+2≤W0.heap.size->assign.wpIn (Fence.wide.inRound (w.heap.size+1)) 3 P (Exit.then (fun a₁ W₁=>xe [] W W₁/\∀W₂,xe [w.heap.size+1] W₁ W₂->W₂.heap.size=W₁.heap.size->ZN W₂ (w.heap.size+1)->
    body.wpIn (Fence.wide.inRound (w.heap.size+1)) 3 P (fun e _ W'=>((e=.normal/\I (k+1) W')\/(e=X/\Ix W'))/\∃T',xe T' W₂ W'/\w.heap.size∉T'/\w.heap.size+1∉T'/\∀b∈T',b<W0.heap.size\/W.heap.size≤b) a₁ W₂) (fun _ _ _=>False))
    { tmps:=(ps.zip (args k)).foldl (fun t (p,v)=>t.setIfInBounds p v) tmps,defers:=[] } W)
  (h0:I 0 w):
  CallsIn Fence.wide 4 P gf (#[.func (.yield (w.heap.size+1)) #[] #[]]++lb) ((w.alloc (.deferred (some []))).alloc (.loop { state:=.ready,pending:=none,fn:=f,tmps,params:=ps,assign,body,defers:=w.heap.size }))
   (jq P (w.heap.size+1) w.heap.size (I m) Ix jc):=by
 obtain⟨rec,hrec⟩:∃rec:LoopState->Option Code->Loop,rec=fun st pd=> { state:=st,pending:=pd,fn:=f,tmps,params:=ps,assign,body,defers:=w.heap.size } :=⟨_,rfl⟩
 obtain⟨W1,hW1⟩:∃W1,W1=(w.alloc (.deferred (some []))).alloc (.loop (rec .ready none)):=⟨_,rfl⟩
 have hL1:At W1 (w.heap.size+1) (.loop (rec .ready none)):=by
  rw[hW1]
  have:=At.new (w.alloc (.deferred (some []))) (.loop (rec .ready none))
  rwa[World.size_alloc]at this
 have hD1:At W1 w.heap.size (.deferred (some [])):=by rw[hW1];exact(At.new w _).alloc _
 have hI1:I 0 W1:=hI 0 w W1 h0 (by rw[hW1];exact(((xe.refl [] w).alloc _).alloc _).mono (by simp))
 rw[show(w.alloc (.deferred (some []))).alloc (.loop { state:=.ready,pending:=none,fn:=f,tmps,params:=ps,assign,body,defers:=w.heap.size })=W1 by rw[hW1,hrec]]
 refine(hIt (w.heap.size+1) (fun k W=>I k W/\At W (w.heap.size+1) (.loop (rec .ready none))/\At W w.heap.size (.deferred (some []))) (fun W=>Ix W/\At W (w.heap.size+1) (.loop (rec .done (some jc)))/\At W w.heap.size (.deferred (some []))) W1
  (fun k W h=>hF k W h.1) (fun k W W' h hk=>⟨hI k W W' h.1 (hk.mono (by simp)),hk.at h.2.1 (by simp),hk.at h.2.2 (by simp)⟩) ?_ ⟨hI1,hL1,hD1⟩).mono ?_
 ·rintro k W0 W hk ⟨hI0,hL0,hD0⟩ k0
  have hIk:=hI k W0 W hI0 (k0.mono (by simp))
  have hL:=k0.at hL0 (by simp)
  have hD:=k0.at hD0 (by simp)
  have hy:=run_yield (P:=P) (args:=args k) hL (by rw[hrec];exact hps k)
  rw[hrec]at hy
  have hsz:w.heap.size+2≤W0.heap.size:=by have:=hL0.lt;omega
  refine⟨f,_,assign,body,hy,roundIn_of_wpIn trivial (wpIn_mono (hround k W0 W hk hI0 k0 hIk hsz) ?_)⟩
  intro e a₁ Wx hq
  cases e with
  |normal=>
   obtain⟨k1,hb⟩:=hq
   have hL1:=k1.at hL (by simp)
   have hD1:=k1.at hD (by simp)
   refine⟨_,run_beginRound hL1 (by rw[hrec]),?_⟩
   have kb:xe [w.heap.size+1] Wx (Wx.putObj (w.heap.size+1) (.loop { rec .ready none with state:=.busy })):=(xe.refl _ _).put (.inl (by simp)) _
   have hLb:=hL1.put_same (.loop { rec .ready none with state:=.busy })
   have hDb:=kb.at hD1 (by simp)
   refine wpIn_mono (hb _ kb (by rw[World.putObj_size]) ⟨_,hLb⟩) ?_
   rintro e a' W' ⟨hq,T',hk',hT1,hT2,hT3⟩
   have hLx:=hk'.at hLb hT2
   have hDx:=hk'.at hDb hT1
   have kr:∀o,xe [w.heap.size+1] W' (W'.putObj (w.heap.size+1) o):=fun o=>(xe.refl _ _).put (.inl (by simp)) o
   have kT:∀o,∃T,xe T W (W'.putObj (w.heap.size+1) o)/\∀b∈T,b<W0.heap.size:=fun o=>by
    refine⟨(w.heap.size+1)::T'.filter (fun b=>decide (b<W.heap.size)),?_,fun b hb=>?_⟩
    ·have h1:xe ((w.heap.size+1)::T'.filter (fun b=>decide (b<W.heap.size))) W W':=
      ((k1.mono (by simp)).trans (kb.mono (by intro k _ h;rw[List.mem_singleton.1 h];exact List.mem_cons_self))).new (hk'.mono (fun _ _ h=>h)) (fun b hb=>by
        by_cases hbW:b<W.heap.size
        ·exact .inl (by simp[hb,hbW])
        ·exact .inr (by omega))
     exact h1.trans ((kr o).mono (by intro k _ h;rw[List.mem_singleton.1 h];exact List.mem_cons_self))
    ·rcases List.mem_cons.1 hb with rfl|hb
     ·omega
     ·obtain⟨h1,h2⟩:=List.mem_filter.1 hb
      have h2:=of_decide_eq_true h2
      rcases hT3 b h1 with h3|h3
      ·exact h3
      ·omega
   rcases hq with⟨rfl,hI'⟩|⟨rfl,hx'⟩
   ·have hr:=run_endRound (P:=P) none hLx
    rw[hrec]at hr
    refine⟨_,_,hr,.inl ⟨rfl,?_,?_,?_⟩,kT _⟩
    ·exact hI (k+1) W' _ hI' (kr _)
    ·rw[hrec];exact hLx.put_same _
    ·exact(kr _).at hDx (by simp)
   ·have hr:=run_endRound (P:=P) (some jc) hLx
    rw[hrec]at hr
    have hend:qc (fun k W=>I k W/\At W (w.heap.size+1) (.loop (rec .ready none))/\At W w.heap.size (.deferred (some []))) (fun W=>Ix W/\At W (w.heap.size+1) (.loop (rec .done (some jc)))/\At W w.heap.size (.deferred (some []))) k W0 W (.returned (.bool false)) (W'.putObj (w.heap.size+1) (.loop (rec .done (some jc)))):=
     ⟨.inr ⟨rfl,hIx W' _ hx' (kr _),hLx.put_same _,(kr _).at hDx (by simp)⟩,kT _⟩
    rw[hrec]at hend
    rcases hX with⟨rfl,rfl⟩|⟨id,rfl,rfl⟩
    ·exact⟨_,_,hr,by rw[hrec];exact hend⟩
    ·exact⟨_,_,hr,by rw[hrec];exact hend⟩
  |exit _=>exact hq.elim
  |goto _=>exact hq.elim
  |ret=>exact hq.elim
  |panic _=>exact hq.elim
  |outgrown=>exact hq.elim
 ·rintro e W2 ⟨rfl,⟨hI2,hL2,hD2⟩|⟨hx2,hL2,hD2⟩⟩
  ·have hr:=run_endLoop (P:=P) hL2 (by rw[hrec];simp)
   rw[hrec]at hr
   refine .inl ⟨_,hr,?_,?_⟩
   ·exact hI m W2 _ hI2 ((xe.refl _ _).put (.inl (by simp)) _)
   ·exact((xe.refl [w.heap.size+1] W2).put (.inl (by simp)) _).at hD2 (by simp)
  ·have hr:=run_endLoop (P:=P) hL2 (by rw[hrec];simp)
   rw[hrec]at hr
   refine .inr ⟨_,hr,?_,?_⟩
   ·exact hIx W2 _ hx2 ((xe.refl _ _).put (.inl (by simp)) _)
   ·exact((xe.refl [w.heap.size+1] W2).put (.inl (by simp)) _).at hD2 (by simp)
theorem xdV {gf:FuncId} {lb:Array Value} {m:Nat} {args:Nat->Array Value} {Fct:World->Prop} (hIt:Iter P gf lb m args Fct) {l0:Nat} {w:World} (hl0:ZN w l0) {g:Operand} {ps:Array Tmp} {assign body:Code} {Q:Exit->Act->World->Prop} {a:Act}
  (hg:a.eval g=.func (.func gf) #[] lb) (eg:∀args w,(callFunc gf args).run P w=.ok (.enter gf args) w)
  (I:Nat->World->Prop) (Ix:World->Prop) (X:Exit) (jc:Code) (hX:(X=.ret/\jc=.ret)\/∃id,X=.exit id/\jc=.exit id)
  (hps:∀k,(args k).size=ps.size)
  (hF:∀k W,I k W->Fct W)
  (hI:∀k W W',I k W->xe [w.heap.size] W W'->I k W')
  (hIx:∀W W',Ix W->xe [w.heap.size] W W'->Ix W')
  (hround:∀(k:Nat) (W0 W:World),k<m->I k W0->xe [] W0 W->I k W->w.heap.size+1≤W0.heap.size->assign.wpIn (Fence.wide.inRound w.heap.size) 3 P (Exit.then (fun a₁ W₁=>xe [] W W₁/\∀W₂,xe [w.heap.size] W₁ W₂->W₂.heap.size=W₁.heap.size->ZN W₂ w.heap.size->
    body.wpIn (Fence.wide.inRound w.heap.size) 3 P (fun e _ W'=>((e=.normal/\I (k+1) W')\/(e=X/\Ix W'))/\∃T',xe T' W₂ W'/\w.heap.size∉T'/\∀b∈T',b<W0.heap.size\/W.heap.size≤b) a₁ W₂) (fun _ _ _=>False))
    { tmps:=(ps.zip (args k)).foldl (fun t (p,v)=>t.setIfInBounds p v) a.tmps,defers:=[] } W)
  (h0:I 0 w)
  (hdone:∀W,I m W->Q .normal a W) (hleft:∀W,Ix W->Q X a W):
  (Code.rangeFunc g ps assign body).wpIn (Fence.wide.inRound l0) 3 P Q a w:=by
 obtain⟨r0,hr0⟩:=hl0
 refine wpIn_rangeFunc fun fn _=>?_
 obtain⟨rec,hrec⟩:∃rec:LoopState->Option Code->Loop,rec=fun st pd=> { state:=st,pending:=pd,fn,tmps:=a.tmps,params:=ps,assign,body,defers:=r0.defers } :=⟨_,rfl⟩
 obtain⟨W1,hW1⟩:∃W1,W1=w.alloc (.loop (rec .ready none)):=⟨_,rfl⟩
 have hL1:At W1 w.heap.size (.loop (rec .ready none)):=by rw[hW1];exact At.new w _
 have hI1:I 0 W1:=hI 0 w W1 h0 (by rw[hW1];exact((xe.refl [] w).alloc _).mono (by simp))
 have he:(Instr.enterLoop fn a.tmps ps assign body (Fence.wide.inRound l0).round).run P w=.ok (w.heap.size,[]) W1:=by
  rw[hW1,hrec]
  exact run_enterLoop_inner hr0 fn a.tmps ps assign body
 have hres:(resolve a.eval (rangeCall g w.heap.size) 0).run P W1=.ok { target:=.fn (.func gf) lb,args:=#[.func (.yield w.heap.size) #[] #[]] } W1:=by
  simp only[resolve,hg]
  simp[go_sem]
 have hinv:(invoke (.fn (.func gf) lb) #[.func (.yield w.heap.size) #[] #[]]).run P W1=.ok (.enter gf (#[.func (.yield w.heap.size) #[] #[]]++lb)) W1:=by
  simp[invoke,go_sem,eg]
 refine⟨w.heap.size,[],W1,_,W1,gf,_,W1,he,hres,fun _ _=>trivial,hinv,fun _=>by omega,CallsIn.inRound l0 (callsIn_wide.2 (callsIn_wide.1 (CallsIn.mono (hIt w.heap.size (fun k W=>I k W/\At W w.heap.size (.loop (rec .ready none))) (fun W=>Ix W/\At W w.heap.size (.loop (rec .done (some jc)))) W1
  (fun k W h=>hF k W h.1) (fun k W W' h hk=>⟨hI k W W' h.1 (hk.mono (by simp)),hk.at h.2 (by simp)⟩) ?_ ⟨hI1,hL1⟩) ?_)))⟩
 ·rintro k W0 W hk ⟨hI0,hL0⟩ k0
  have hIk:=hI k W0 W hI0 (k0.mono (by simp))
  have hL:=k0.at hL0 (by simp)
  have hy:=run_yield (P:=P) (args:=args k) hL (by rw[hrec];exact hps k)
  rw[hrec]at hy
  have hsz:w.heap.size+1≤W0.heap.size:=by have:=hL0.lt;omega
  refine⟨fn,_,assign,body,hy,roundIn_of_wpIn trivial (wpIn_mono (hround k W0 W hk hI0 k0 hIk hsz) ?_)⟩
  intro e a₁ Wx hq
  cases e with
  |normal=>
   obtain⟨k1,hb⟩:=hq
   have hL1:=k1.at hL (by simp)
   refine⟨_,run_beginRound hL1 (by rw[hrec]),?_⟩
   have kb:xe [w.heap.size] Wx (Wx.putObj w.heap.size (.loop { rec .ready none with state:=.busy })):=(xe.refl _ _).put (.inl (by simp)) _
   have hLb:=hL1.put_same (.loop { rec .ready none with state:=.busy })
   refine wpIn_mono (hb _ kb (by rw[World.putObj_size]) ⟨_,hLb⟩) ?_
   rintro e a' W' ⟨hq,T',hk',hT1,hT3⟩
   have hLx:=hk'.at hLb hT1
   have kr:∀o,xe [w.heap.size] W' (W'.putObj w.heap.size o):=fun o=>(xe.refl _ _).put (.inl (by simp)) o
   have kT:∀o,∃T,xe T W (W'.putObj w.heap.size o)/\∀b∈T,b<W0.heap.size:=fun o=>by
    refine⟨w.heap.size::T'.filter (fun b=>decide (b<W.heap.size)),?_,fun b hb=>?_⟩
    ·have h1:xe (w.heap.size::T'.filter (fun b=>decide (b<W.heap.size))) W W':=
      ((k1.mono (by simp)).trans (kb.mono (by intro k _ h;rw[List.mem_singleton.1 h];exact List.mem_cons_self))).new (hk'.mono (fun _ _ h=>h)) (fun b hb=>by
        by_cases hbW:b<W.heap.size
        ·exact .inl (by simp[hb,hbW])
        ·exact .inr (by omega))
     exact h1.trans ((kr o).mono (by intro k _ h;rw[List.mem_singleton.1 h];exact List.mem_cons_self))
    ·rcases List.mem_cons.1 hb with rfl|hb
     ·omega
     ·obtain⟨h1,h2⟩:=List.mem_filter.1 hb
      have h2:=of_decide_eq_true h2
      rcases hT3 b h1 with h3|h3
      ·exact h3
      ·omega
   rcases hq with⟨rfl,hI'⟩|⟨rfl,hx'⟩
   ·have hr:=run_endRound (P:=P) none hLx
    rw[hrec]at hr
    refine⟨_,_,hr,.inl ⟨rfl,?_,?_⟩,kT _⟩
    ·exact hI (k+1) W' _ hI' (kr _)
    ·rw[hrec];exact hLx.put_same _
   ·have hr:=run_endRound (P:=P) (some jc) hLx
    rw[hrec]at hr
    have hend:qc (fun k W=>I k W/\At W w.heap.size (.loop (rec .ready none))) (fun W=>Ix W/\At W w.heap.size (.loop (rec .done (some jc)))) k W0 W (.returned (.bool false)) (W'.putObj w.heap.size (.loop (rec .done (some jc)))):=
     ⟨.inr ⟨rfl,hIx W' _ hx' (kr _),hLx.put_same _⟩,kT _⟩
    rw[hrec]at hend
    rcases hX with⟨rfl,rfl⟩|⟨id,rfl,rfl⟩
    ·exact⟨_,_,hr,by rw[hrec];exact hend⟩
    ·exact⟨_,_,hr,by rw[hrec];exact hend⟩
  |exit _=>exact hq.elim
  |goto _=>exact hq.elim
  |ret=>exact hq.elim
  |panic _=>exact hq.elim
  |outgrown=>exact hq.elim
 ·rintro e W2 ⟨rfl,⟨hI2,hL2⟩|⟨hx2,hL2⟩⟩
  ·have hr:=run_endLoop (P:=P) hL2 (by rw[hrec];simp)
   rw[hrec]at hr
   refine⟨_,_,hr,?_⟩
   exact hdone _ (hI m W2 _ hI2 ((xe.refl _ _).put (.inl (by simp)) _))
  ·have hr:=run_endLoop (P:=P) hL2 (by rw[hrec];simp)
   rw[hrec]at hr
   refine⟨_,_,hr,?_⟩
   have kx:xe [w.heap.size] W2 (W2.putObj w.heap.size (.loop { rec .done (some jc)with state:=.exhausted })):=(xe.refl _ _).put (.inl (by simp)) _
   have hx3:=hIx W2 _ hx2 kx
   rw[hrec]at hx3
   rcases hX with⟨rfl,rfl⟩|⟨id,rfl,rfl⟩
   ·exact wpIn_ret (hleft _ hx3)
   ·exact wpIn_exit (hleft _ hx3)
end
end Go.Proofs.YtcdhklgahepcaaaGreat
