import Derived.Test.YtcdhklgahepcaaaGreatRnd
import Derived.Test.YtcdhklgahepcaaaGreatNam
set_option maxHeartbeats 4000000
set_option maxRecDepth 100000
namespace Go.Proofs.YtcdhklgahepcaaaGreat
open Go.RowKit Go.OpenShut
def xen (J:Nat->World->Prop) (Jp:List PanicEntry->World->Prop) (k:Nat) (W0 W:World) (e:Ending) (w':World):Prop:=
 ((e=.returned (.bool true)/\J (k+1) w')\/∃ch,e=.panicked ch/\Jp ch w')/\∃T,xe T W w'/\∀b∈T,b<W0.heap.size
def xdl (J:Nat->World->Prop) (Jp:List PanicEntry->World->Prop) (m:Nat) (e:Ending) (w':World):Prop:=
 (e=.returned (.tuple #[])/\J m w')\/∃ch,e=.panicked ch/\Jp ch w'
def xdk (P:Program) (gf:FuncId) (lb:Array Value) (m:Nat) (args:Nat->Array Value) (Fct:Nat->World->Prop):Prop:=
 ∀(l:Nat) (J:Nat->World->Prop) (Jp:List PanicEntry->World->Prop) (W:World),(∀k W,J k W->Fct k W)->(∀k W W',J k W->xe [] W W'->J k W')->
  (∀k W0 W,k<m->J k W0->xe [] W0 W->YieldAt Fence.wide 3 P l (args k) W (xen J Jp k W0 W))->J 0 W->
  CallsIn Fence.wide 4 P gf (#[.func (.yield l) #[] #[]]++lb) W (xdl J Jp m)
section
variable {P:Program} {Q:Exit->Act->World->Prop} {a:Act} {w:World} {F:Fence} {n:Nat}
def endP (P:Program) (l:Nat) (R:Ending->World->Prop):Exit->Act->World->Prop
 | .normal,_,w=>∃v w',(Instr.endRound l none).run P w=.ok v w'/\R (.returned v) w'
 | .panic ch,a,w=>a.defers= []/\R (.panicked ch) w
 |_,_,_=>False
theorem xdC {l:Nat} {f:FuncId} {tmps:Array Value} {assign body:Code} {R:Ending->World->Prop} (hF:F.fn f) (hf:∃fn,P.funcs[f]? =some fn)
  (h:assign.wpIn (F.inRound l) n P (Exit.then (fun a1 w1=>∃w2,(Instr.beginRound l).run P w1=.ok () w2/\body.wpIn (F.inRound l) n P (endP P l R) a1 w2) (fun _ _ _=>False)) { tmps:=tmps,defers:=[] } w):
  RoundIn F n P l f tmps assign body w R:=by
 refine⟨hF,fun c cs hroom=>?_⟩
 obtain⟨b,hb⟩:∃b:Frame,b= { (default:Frame)with fn:=f,kind:=.normal,roundOf:=some l } :=⟨_,rfl⟩
 have hbf:b.fn=f:=by rw[hb]
 have hbk:b.kind=.normal:=by rw[hb]
 have hbr:b.roundOf=some l:=by rw[hb]
 have hstart:Frame.round l f tmps assign body .normal=b.atR { tmps:=tmps,defers:=[] } [.code assign,.beginRound,.code body]:=by simp[Frame.round,Frame.atR,hb]
 have hr':(F.inRound l).room ((c::cs).length+1+n):=hroom
 have hF':(F.inRound l).fn b.fn:=by rw[hbf];exact hF
 obtain⟨e,a1,w1,hq,h1⟩:=h b [.beginRound,.code body] (c::cs) hbr hF' hr'
 rw[<-hstart]at h1
 cases e with
 |normal=>
  obtain⟨w2,hbeg,hbody⟩:=hq
  have h2:StepsIn (Machine.fenced P (F.inRound l)) P (lone (b.atR a1 [.beginRound,.code body]) (c::cs) w1) (lone (b.atR a1 [.code body]) (c::cs) w2):=
   .one (fenced_calm (fr:=b.atR a1 [.beginRound,.code body]) hF' hr' rfl) (stepR_beginRound hbr hbeg)
  obtain⟨e2,a2,w3,hq2,h3⟩:=hbody b [] (c::cs) hbr hF' hr'
  have h12:=StepsIn.trans h1 h2
  cases e2 with
  |normal=>
   obtain⟨v,w4,hend,hR⟩:=hq2
   exact⟨.returned v,w4,hR,h12.trans (StepsIn.trans h3 (.one (fenced_calm (fr:=b.atR a2 []) hF' hr' rfl) (stepR_round_end hbr hbk hend)))⟩
  |panic ch=>
   obtain⟨hd,hR⟩:=hq2
   obtain⟨todo,h4⟩:=h3
   have hl:({ b.atR a2 todo with mode:=.panicking ch } :Frame).leaving P w3 (.panicked ch):=⟨rfl,hd,by rw[<-hbf]at hf;exact hf⟩
   exact⟨.panicked ch,w3,hR,h12.trans (StepsIn.trans h4 (.one (fenced_leaving (F:=F.inRound l) hF' hr' hl) (step_leave_panicked hl)))⟩
  |ret=>exact hq2.elim
  |exit _=>exact hq2.elim
  |goto _=>exact hq2.elim
  |outgrown=>exact hq2.elim
 |exit _=>exact hq.elim
 |goto _=>exact hq.elim
 |ret=>exact hq.elim
 |panic _=>exact hq.elim
 |outgrown=>exact hq.elim
def xfg (P:Program) (l:Nat) (Q:Exit->Act->World->Prop) (a':Act) (e:Ending) (w₃:World):Prop:=
 match e with
 | .returned _=>∃w₄,(Instr.endLoop l).run P w₃=.ok none w₄/\Q .normal a' w₄
 | .panicked ch=>Q (.panic ch) a' w₃
 |_=>False
def xeR (P:Program) (l d:Nat) (I:World->Prop) (Ip:List PanicEntry->World->Prop) (e:Ending) (w₃:World):Prop:=
 match e with
 | .returned _=>∃w₄,(Instr.endLoop l).run P w₃=.ok none w₄/\I w₄/\At w₄ d (.deferred (some []))
 | .panicked ch=>Ip ch w₃/\At w₃ d (.deferred (some []))
 |_=>False
theorem qO {gf:FuncId} {lb:Array Value} {m:Nat} {args:Nat->Array Value} {Fct:Nat->World->Prop} (hIt:xdk P gf lb m args Fct) (f:FuncId) (hfn:∃fn,P.funcs[f]? =some fn) (w:World) (tmps:Array Value) (ps:Array Tmp) (assign body:Code)
  (I:Nat->World->Prop) (Ip:List PanicEntry->World->Prop)
  (hps:∀k,(args k).size=ps.size)
  (hF:∀k W,I k W->Fct k W)
  (hI:∀k W W',I k W->xe [w.heap.size+1] W W'->I k W')
  (hround:∀(l k:Nat) (W0 W:World),k<m->I k W0->xe [] W0 W->I k W->w.heap.size+2≤W0.heap.size->assign.wpIn (Fence.wide.inRound l) 3 P (Exit.then (fun a₁ W₁=>xe [] W W₁/\∀W₂,xe [w.heap.size+1] W₁ W₂->W₂.heap.size=W₁.heap.size->
    body.wpIn (Fence.wide.inRound l) 3 P (fun e a' W'=>((e=.normal/\I (k+1) W')\/∃ch,e=.panic ch/\a'.defers= []/\Ip ch W')/\∃T',xe T' W₂ W'/\w.heap.size∉T'/\w.heap.size+1∉T'/\∀b∈T',b<W0.heap.size\/W.heap.size≤b) a₁ W₂) (fun _ _ _=>False))
    { tmps:=(ps.zip (args k)).foldl (fun t (p,v)=>t.setIfInBounds p v) tmps,defers:=[] } W)
  (h0:I 0 w):
  CallsIn Fence.wide 4 P gf (#[.func (.yield (w.heap.size+1)) #[] #[]]++lb) ((w.alloc (.deferred (some []))).alloc (.loop { state:=.ready,pending:=none,fn:=f,tmps,params:=ps,assign,body,defers:=w.heap.size }))
   (xeR P (w.heap.size+1) w.heap.size (I m) Ip):=by
 obtain⟨rec,hrec⟩:∃rec:LoopState->Option Code->Loop,rec=fun st pd=> { state:=st,pending:=pd,fn:=f,tmps,params:=ps,assign,body,defers:=w.heap.size } :=⟨_,rfl⟩
 obtain⟨W1,hW1⟩:∃W1,W1=(w.alloc (.deferred (some []))).alloc (.loop (rec .ready none)):=⟨_,rfl⟩
 have hL1:At W1 (w.heap.size+1) (.loop (rec .ready none)):=by
  rw[hW1]
  have:=At.new (w.alloc (.deferred (some []))) (.loop (rec .ready none))
  rwa[World.size_alloc]at this
 have hD1:At W1 w.heap.size (.deferred (some [])):=by rw[hW1];exact(At.new w _).alloc _
 have hI1:I 0 W1:=hI 0 w W1 h0 (by rw[hW1];exact(((xe.refl [] w).alloc _).alloc _).mono (by simp))
 rw[show(w.alloc (.deferred (some []))).alloc (.loop { state:=.ready,pending:=none,fn:=f,tmps,params:=ps,assign,body,defers:=w.heap.size })=W1 by rw[hW1,hrec]]
 refine(hIt (w.heap.size+1) (fun k W=>I k W/\At W (w.heap.size+1) (.loop (rec .ready none))/\At W w.heap.size (.deferred (some []))) (fun ch W=>Ip ch W/\At W w.heap.size (.deferred (some []))) W1
  (fun k W h=>hF k W h.1) (fun k W W' h hk=>⟨hI k W W' h.1 (hk.mono (by simp)),hk.at h.2.1 (by simp),hk.at h.2.2 (by simp)⟩) ?_ ⟨hI1,hL1,hD1⟩).mono ?_
 ·rintro k W0 W hk ⟨hI0,hL0,hD0⟩ k0
  have hIk:=hI k W0 W hI0 (k0.mono (by simp))
  have hL:=k0.at hL0 (by simp)
  have hD:=k0.at hD0 (by simp)
  have hy:=run_yield (P:=P) (args:=args k) hL (by rw[hrec];exact hps k)
  rw[hrec]at hy
  have hsz:w.heap.size+2≤W0.heap.size:=by have:=hL0.lt;omega
  refine⟨f,_,assign,body,hy,xdC trivial hfn (wpIn_mono (hround _ k W0 W hk hI0 k0 hIk hsz) ?_)⟩
  intro e a₁ Wx hq
  cases e with
  |normal=>
   obtain⟨k1,hb⟩:=hq
   have hL1:=k1.at hL (by simp)
   have hD1:=k1.at hD (by simp)
   refine⟨_,run_beginRound hL1 (by rw[hrec]),?_⟩
   have kb:xe [w.heap.size+1] Wx (Wx.putObj (w.heap.size+1) (.loop { rec .ready none with state:=.busy })):=(xe.refl _ _).put (.inl (by simp)) _
   have hLb:=hL1.put_same (.loop { rec .ready none with state:=.busy })
   have hDb:=kb.at hD1 (by simp)
   refine wpIn_mono (hb _ kb (by rw[World.putObj_size])) ?_
   rintro e a' W' ⟨hq,T',hk',hT1,hT2,hT3⟩
   have hLx:=hk'.at hLb hT2
   have hDx:=hk'.at hDb hT1
   have kr:∀o,xe [w.heap.size+1] W' (W'.putObj (w.heap.size+1) o):=fun o=>(xe.refl _ _).put (.inl (by simp)) o
   have kT:∀o,∃T,xe T W (W'.putObj (w.heap.size+1) o)/\∀b∈T,b<W0.heap.size:=fun o=>by
    refine⟨(w.heap.size+1)::T'.filter (fun b=>decide (b<W.heap.size)),?_,fun b hb=>?_⟩
    ·have h1:xe ((w.heap.size+1)::T'.filter (fun b=>decide (b<W.heap.size))) W W':=
      ((k1.mono (by simp)).trans (kb.mono (by intro k _ h;rw[List.mem_singleton.1 h];exact List.mem_cons_self))).new (hk'.mono (fun _ _ h=>h)) (fun b hb=>by
        by_cases hbW:b<W.heap.size
        ·exact .inl (by simp[hb,hbW])
        ·exact .inr (by omega))
     exact h1.trans ((kr o).mono (by intro k _ h;rw[List.mem_singleton.1 h];exact List.mem_cons_self))
    ·rcases List.mem_cons.1 hb with rfl|hb
     ·omega
     ·obtain⟨h1,h2⟩:=List.mem_filter.1 hb
      have h2:=of_decide_eq_true h2
      rcases hT3 b h1 with h3|h3
      ·exact h3
      ·omega
   rcases hq with⟨rfl,hI'⟩|⟨ch,rfl,hd,hp'⟩
   ·have hr:=run_endRound (P:=P) none hLx
    rw[hrec]at hr
    refine⟨_,_,hr,.inl ⟨rfl,?_,?_,?_⟩,kT _⟩
    ·exact hI (k+1) W' _ hI' (kr _)
    ·rw[hrec];exact hLx.put_same _
    ·exact(kr _).at hDx (by simp)
   ·refine⟨hd,.inr ⟨ch,rfl,hp',hDx⟩,?_⟩
    obtain⟨T,h1,h2⟩:=kT (.loop (rec .ready none))
    refine⟨(w.heap.size+1)::T'.filter (fun b=>decide (b<W.heap.size)),?_,fun b hb=>?_⟩
    ·exact((k1.mono (by simp)).trans (kb.mono (by intro k _ h;rw[List.mem_singleton.1 h];exact List.mem_cons_self))).new (hk'.mono (fun _ _ h=>h)) (fun b hb=>by
      by_cases hbW:b<W.heap.size
      ·exact .inl (by simp[hb,hbW])
      ·exact .inr (by omega))
    ·rcases List.mem_cons.1 hb with rfl|hb
     ·omega
     ·obtain⟨h1,h2⟩:=List.mem_filter.1 hb
      have h2:=of_decide_eq_true h2
      rcases hT3 b h1 with h3|h3
      ·exact h3
      ·omega
  |exit _=>exact hq.elim
  |goto _=>exact hq.elim
  |ret=>exact hq.elim
  |panic _=>exact hq.elim
  |outgrown=>exact hq.elim
 ·rintro e W2 (⟨rfl,hI2,hL2,hD2⟩|⟨ch,rfl,hp2,hD2⟩)
  ·have hr:=run_endLoop (P:=P) hL2 (by rw[hrec];simp)
   rw[hrec]at hr
   refine⟨_,hr,?_,?_⟩
   ·exact hI m W2 _ hI2 ((xe.refl _ _).put (.inl (by simp)) _)
   ·exact((xe.refl [w.heap.size+1] W2).put (.inl (by simp)) _).at hD2 (by simp)
  ·exact⟨hp2,hD2⟩
end
open Go.RowKit Go.OpenShut
def xem (J:Nat->World->Prop) (Jp:List PanicEntry->World->Prop) (k:Nat) (e:Ending) (w':World):Prop:=
 (e=.returned (.bool true)/\J (k+1) w')\/∃ch,e=.panicked ch/\Jp ch w'
theorem xat (l Bo Bd:Nat) (a:DA) (n r z:Nat) (f:Nat->Int) (J:Nat->World->Prop) (Jp:List PanicEntry->World->Prop) (h:VE Bo Bd a n r z f J)
  (hY:∀k W,k<r->f k≠0->J k W->YieldAt Fence.wide 3 Tryz.prog l #[.int .i64 (k:Nat),.int .i64 (f k)] W (xem J Jp k)) (W:World) (h0:J 0 W):
  CallsIn Fence.wide 4 Tryz.prog 195 #[.func (.yield l) #[] #[],ptr Bo,ptr Bd] W (xdl J Jp r):=by
 have hmix:Tryz.prog.follows .mixedOrders=true:=by kernel_rfl
 obtain⟨hn1,hn2,hn3⟩:=h.few
 have hJd:=h.keep 0 _ _ h0 ((xe.refl [] W).drew)
 obtain⟨hA,hB⟩:=h.box 0 _ hJd
 have c0:=hA.cell 0 rfl
 have c1:=hA.cell 1 rfl
 have c2:=hA.cell 2 rfl
 have b0:=hB.cell 0 rfl
 have hri:(r:Int)≤64:=by omega
 have t1:(r:Int)≤(a.n:Int):=by omega
 have t2:decide ((r:Int)≤(a.n:Int))=true:=decide_eq_true (by omega)
 have t3:decide ((a.n:Int)<(r:Int))=false:=decide_eq_false (by omega)
 have H:=hid h
 have HY:=hid hY
 have HJ0:=hid h0
 have HJD:=hid hJd
 clear hY h h0 hA hB hJd
 refine callsIn_of_wp Tryz.func195 rfl trivial ?_ rfl
 simp only[Tryz.ntmps195,List.size_toArray,List.length_cons,List.length_nil,Nat.reduceAdd,Nat.reduceSub,Array.replicate_succ,Array.replicate_zero,List.push_toArray,List.append_toArray,List.nil_append,List.cons_append]
 gi_wp2
 gi_region_with_o (first
  |(refine⟨trivial,?_⟩;gi_at_call 69;refine(callsIn_wide.2 (H.out.len 0 _ HJD.out)).mono ?_;rintro e W2 ⟨rfl,rfl⟩))
 all_goals
  rw[show(if a.n<r then(a.n:Int)else(r:Int))=(r:Int)from if_neg (by omega)]
  clear c0 c1 c2 b0 t1 t2 t3 hn1 hn2 hn3
  gi_wp2
  gi_loopg [13] r (fun rr s wr=>∃k:Nat,k+rr=r/\s=.int .i64 k/\J k wr)
  case atStart=>exact⟨0,by omega,rfl,HJD.out⟩
  case round=>
   obtain⟨k,hk,rfl,hJ⟩:=hrel
   by_cases hlt:k<r
   ·obtain⟨hA,hB⟩:=H.out.box k _ hJ
    have c0:=hA.cell 0 rfl
    have c1:=hA.cell 1 rfl
    have c2:=hA.cell 2 rfl
    have b0:=hB.cell 0 rfl
    have hki:(k:Int)<(r:Int):=by omega
    have HRF:=hid (H.out.ref k hlt wr hJ)
    have HK:=hid (And.intro hk hlt)
    have HJ:=hid hJ
    obtain⟨v,hv⟩:∃v,v=f k:=⟨_,rfl⟩
    rw[<-hv]at HRF
    have HV:=hid hv
    clear hk hlt hJ hA hB hv
    gi_wp2_with fail
    refine⟨trivial,?_⟩
    refine(callsIn_wide.2 HRF.out).mono ?_
    rintro e W1 ⟨rfl,hk1⟩
    have HJ1:=hid (H.out.keep k _ _ HJ.out hk1)
    clear c0 c1 c2 b0 hk1
    by_cases hv0:v=0
    ·have t1:(v != 0)=false:=by simp[hv0]
     have t2:(v==0)=true:=by simp[hv0]
     have HJ2:=hid (H.out.skip k _ HJ1.out HK.out.2 (by rw[<-HV.out];exact hv0))
     clear hv0
     gi_wp2_with fail
     refine⟨(fun _ h=>nomatch h),?_⟩
     gi_wp2
     gi_roundg (r-(k+1))
     case measure=>(have:=HK.out;omega)
     case rel=>exact⟨k+1,by have:=HK.out;omega,by go_num,HJ2.out⟩
    ·have t2:(v==0)=false:=by rw[beq_eq_false_iff_ne];exact hv0
     have t1:(v != 0)=true:=by simp[bne,t2]
     obtain⟨fn,tmps,assign,body,hy,hR⟩:=HY.out k W1 HK.out.2 (by rw[<-HV.out];exact hv0) HJ1.out
     rw[<-HV.out]at hy
     clear hv0
     gi_wp2_with fail
     refine hR.mono ?_
     rintro e W4 (⟨rfl,hJ4⟩|⟨ch,rfl,hx4⟩)
     ·have HJ4:=hid hJ4
      clear hJ4
      gi_wp2
      gi_roundg (r-(k+1))
      case measure=>(have:=HK.out;omega)
      case rel=>exact⟨k+1,by have:=HK.out;omega,by go_num,HJ4.out⟩
     ·have HX4:=hid hx4
      clear hx4
      exact And.intro rfl (Or.inr ⟨ch,rfl,HX4.out⟩)
   ·have hkr:k=r:=by omega
    subst hkr
    have HJ:=hid hJ
    clear hk hlt hJ
    gi_wp2
    go_end0
    exact .inl ⟨rfl,HJ.out⟩
theorem WZ (Bo Bd:Nat) (a:DA) (n r z:Nat) (f:Nat->Int) (hfew:r≤n/\n≤64/\z+n<a.n):
  xdk Tryz.prog 195 #[ptr Bo,ptr Bd] (nzC f r) (namA f r) (xep Bo Bd a n r z f):=by
 intro l J Jp W hF hK hY h0
 have H:VE Bo Bd a n r z f (fun k W=>J (nzC f k) W):= {
  box:=fun k W h=>(hF _ W h).1
  dev:=fun k W h=>by obtain⟨p,S,h1,h2⟩:=(hF _ W h).2;exact⟨p,S,h1,fun i hk hi=>h2 i (WW hk) hi⟩
  keep:=fun k W W' h hk=>hK _ _ _ h hk
  skip:=fun k W h _ hf=>by rw[JB hf];exact h
  few:=hfew }
 refine xat l Bo Bd a n r z f _ Jp H ?_ W h0
 intro k W hk hf hJ
 have h1:=hY (nzC f k) W W (JC hk hf) hJ (xe.refl _ _)
 rw[YM hk hf]at h1
 refine YieldAt.mono h1 ?_
 rintro e w' ⟨⟨rfl,h⟩|⟨ch,rfl,h⟩,_⟩
 ·exact .inl ⟨rfl,by show J (nzC f (k+1)) w';rw[XJ hf];exact h⟩
 ·exact .inr ⟨ch,rfl,h⟩
end Go.Proofs.YtcdhklgahepcaaaGreat
