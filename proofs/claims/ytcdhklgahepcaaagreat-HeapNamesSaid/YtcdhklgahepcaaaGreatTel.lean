import Derived.Test.YtcdhklgahepcaaaGreatRnd
import Derived.LoopNIn
import Derived.Test.YtcdhklgahepcaaaGreatRob
import Derived.Test.YtcdhklgahepcaaaGreatNam
import Derived.Deep.AppendLies
set_option maxHeartbeats 4000000
set_option maxRecDepth 100000
namespace Go.Proofs.YtcdhklgahepcaaaGreat
open Go.RowKit Go.OpenShut
def mkD (bs:List Nat):List Deferred:=bs.map fun b=> { target:=.collected b,args:=#[] }
theorem JK (b:Nat) (bs:List Nat):mkD (b::bs)= { target:=.collected b,args:=#[] } ::mkD bs:=rfl
theorem wC {P:Program} {n:Nat} {fn:Func} {tmps:Array Value} {R:Ending->World->Prop} :∀(bs:List Nat) (w:World),bs.Nodup->(∀b∈bs,At w b (.deferred (some [])))->
  (∀w',xe bs w w'->LeavesInM Fence.wide n P fn tmps R [] .returning w')->LeavesInM Fence.wide n P fn tmps R (mkD bs) .returning w
 | [],w,_,_,h=>h w (xe.refl _ _)
 |b::bs,w,hn,ha,h=>by
  obtain⟨h1,h2⟩:=List.nodup_cons.1 hn
  rw[JK]
  have kp:xe [b] w (w.putObj b (.deferred none)):=(xe.refl _ _).put (.inl (by simp)) _
  refine⟨by simp,.inl ⟨b,w.putObj b (.deferred none),rfl,run_takeDeferred (ha b (by simp)),wC bs _ h2 (fun b' hb'=>kp.at (ha b' (by simp[hb'])) (fun hm=>?_)) fun w' hk=>h w' ?_⟩⟩
  ·obtain rfl:=List.mem_singleton.1 hm
   exact h1 hb'
  ·exact(kp.mono (fun k _ hk=>by rw[List.mem_singleton.1 hk];simp)).trans (hk.mono (fun k _ hk=>by simp[hk]))
theorem VG {P:Program} {c:Code} {Q:Exit->Act->World->Prop} {a:Act} {w:World} (I:Nat->Act->World->Prop) (n0:Nat) (h0:I n0 a w)
  (round:∀n a w,I n a w->∀K:Act->World->Prop,(∀n' a' w',n'<n->I n' a' w'->K a' w')->c.wp P (Exit.then K Q) a w):(Code.loop c).wp P Q a w:=by
 have key:∀N n a w,n<N->I n a w->Code.rounds P c Q N a w:=by
  intro N
  induction N with
  |zero=>intro n a w h;omega
  |succ N ih=>
   intro n a w hn hI
   refine xbW fun K hK=>round n a w hI K fun n' a' w' hn' hI'=>hK _ _ (ih n' a' w' (by omega) hI')
 exact wp_loop_rounds (n0+1) (key _ n0 a w (by omega) h0)
open Go.RowKit Go.OpenShut
def qb (J:Nat->List Nat->World->Prop) (Jx:List Nat->World->Prop) (k:Nat) (O:List Nat) (W:World) (e:Ending) (w':World):Prop:=
 ((e=.returned (.bool true)/\J (k+1) O w')\/(e=.returned (.bool false)/\Jx O w'))/\∃T,xe T W w'/\∀b∈T,b∉O
def xfb (J:Nat->List Nat->World->Prop) (Jx:List Nat->World->Prop) (m:Nat) (e:Ending) (w':World):Prop:=e=.returned (.tuple #[])/\∃O,J m O w'\/Jx O w'
def Bears (I:List Nat->World->Prop):Prop:=∀O O' W W',I O W->xe O W W'->(∀b∈O',b∈O\/W.heap.size≤b)->I O' W'
def xc0 (P:Program) (gf:FuncId) (lb:Array Value) (m:Nat) (args:Nat->Array Value) (Fct:World->Prop):Prop:=
 ∀(l:Nat) (J:Nat->List Nat->World->Prop) (Jx:List Nat->World->Prop) (W:World),(∀k O W,J k O W->Fct W)->(∀k,Bears (J k))->Bears Jx->
  (∀k O W,k<m->J k O W->(∀b∈O,b<W.heap.size)->YieldAt Fence.wide 3 P l (args k) W (qb J Jx k O W))->J 0 [] W->
  CallsIn Fence.wide 4 P gf (#[.func (.yield l) #[] #[]]++lb) W (xfb J Jx m)
theorem qH {P:Program} {l d:Nat} {I I' Ix Ix':World->Prop} {jc:Code} {e:Ending} {w:World} (h:jq P l d I Ix jc e w) (h1:∀w,I w->I' w) (h2:∀w,Ix w->Ix' w):jq P l d I' Ix' jc e w:=by
 unfold jq at h⊢
 cases e with
 |returned v=>
  rcases h with⟨w₄,a,b,c⟩|⟨w₄,a,b,c⟩
  ·exact .inl ⟨w₄,a,h1 _ b,c⟩
  ·exact .inr ⟨w₄,a,h2 _ b,c⟩
 |panicked _=>exact h
 |outgrown=>exact h
section
variable {P:Program}
theorem qP {gf:FuncId} {lb:Array Value} {m:Nat} {args:Nat->Array Value} {Fct:World->Prop} (hIt:xc0 P gf lb m args Fct) (f:FuncId) (w:World) (tmps:Array Value) (ps:Array Tmp) (assign body:Code)
  (I:Nat->List Nat->World->Prop) (Ix:List Nat->World->Prop) (X:Exit) (jc:Code) (hX:(X=.ret/\jc=.ret)\/∃id,X=.exit id/\jc=.exit id)
  (hps:∀k,(args k).size=ps.size)
  (hF:∀k O W,I k O W->Fct W)
  (hI:∀k,Bears (I k)) (hIx:Bears Ix)
  (hround:∀(k:Nat) (O:List Nat) (W:World),k<m->I k O W->(∀b∈O,b<W.heap.size)->w.heap.size∈O->w.heap.size+1∈O->w.heap.size+2≤W.heap.size->
    assign.wpIn (Fence.wide.inRound (w.heap.size+1)) 3 P (Exit.then (fun a₁ W₁=>xe [] W W₁/\∀W₂,xe [w.heap.size+1] W₁ W₂->W₂.heap.size=W₁.heap.size->ZN W₂ (w.heap.size+1)->
    body.wpIn (Fence.wide.inRound (w.heap.size+1)) 3 P (fun e _ W'=>((e=.normal/\I (k+1) O W')\/(e=X/\Ix O W'))/\∃T',xe T' W₂ W'/\∀b∈T',b∉O) a₁ W₂) (fun _ _ _=>False))
    { tmps:=(ps.zip (args k)).foldl (fun t (p,v)=>t.setIfInBounds p v) tmps,defers:=[] } W)
  (h0:I 0 [] w):
  CallsIn Fence.wide 4 P gf (#[.func (.yield (w.heap.size+1)) #[] #[]]++lb) ((w.alloc (.deferred (some []))).alloc (.loop { state:=.ready,pending:=none,fn:=f,tmps,params:=ps,assign,body,defers:=w.heap.size }))
   (jq P (w.heap.size+1) w.heap.size (fun W=>∃O,I m O W) (fun W=>∃O,Ix O W) jc):=by
 obtain⟨rec,hrec⟩:∃rec:LoopState->Option Code->Loop,rec=fun st pd=> { state:=st,pending:=pd,fn:=f,tmps,params:=ps,assign,body,defers:=w.heap.size } :=⟨_,rfl⟩
 obtain⟨W1,hW1⟩:∃W1,W1=(w.alloc (.deferred (some []))).alloc (.loop (rec .ready none)):=⟨_,rfl⟩
 have hL1:At W1 (w.heap.size+1) (.loop (rec .ready none)):=by
  rw[hW1]
  have:=At.new (w.alloc (.deferred (some []))) (.loop (rec .ready none))
  rwa[World.size_alloc]at this
 have hD1:At W1 w.heap.size (.deferred (some [])):=by rw[hW1];exact(At.new w _).alloc _
 have hI1:I 0 [w.heap.size,w.heap.size+1] W1:=hI 0 [] _ w W1 h0 (by rw[hW1];exact((xe.refl [] w).alloc _).alloc _) (fun b hb=>by simp at hb;omega)
 rw[show(w.alloc (.deferred (some []))).alloc (.loop { state:=.ready,pending:=none,fn:=f,tmps,params:=ps,assign,body,defers:=w.heap.size })=W1 by rw[hW1,hrec]]
 obtain⟨E,hE⟩:∃E:List Nat->List Nat,E=fun O=>w.heap.size::(w.heap.size+1)::O:=⟨_,rfl⟩
 have bears:∀(K:List Nat->World->Prop) (r:Loop),Bears K->Bears (fun O W=>K (E O) W/\w.heap.size∉O/\w.heap.size+1∉O/\At W (w.heap.size+1) (.loop r)/\At W w.heap.size (.deferred (some []))):=by
  rintro K r hK O O' W W' ⟨h1,h2,h3,h4,h5⟩ hk hO
  refine⟨hK _ _ W W' h1 (hk.mono (fun b _ hb=>by rw[hE];simp[hb])) (fun b hb=>?_),fun h=>?_,fun h=>?_,hk.at h4 h3,hk.at h5 h2⟩
  ·rw[hE]at hb⊢
   simp only[List.mem_cons]at hb⊢
   rcases hb with rfl|rfl|hb
   ·exact .inl (.inl rfl)
   ·exact .inl (.inr (.inl rfl))
   ·rcases hO b hb with h|h
    ·exact .inl (.inr (.inr h))
    ·exact .inr h
  ·rcases hO _ h with h|h
   ·exact h2 h
   ·have:=h5.lt;omega
  ·rcases hO _ h with h|h
   ·exact h3 h
   ·have:=h4.lt;omega
 refine CallsIn.mono (hIt (w.heap.size+1) (fun k O W=>I k (E O) W/\w.heap.size∉O/\w.heap.size+1∉O/\At W (w.heap.size+1) (.loop (rec .ready none))/\At W w.heap.size (.deferred (some [])))
  (fun O W=>Ix (E O) W/\w.heap.size∉O/\w.heap.size+1∉O/\At W (w.heap.size+1) (.loop (rec .done (some jc)))/\At W w.heap.size (.deferred (some []))) W1
  (fun k O W h=>hF k _ W h.1) (fun k=>bears _ _ (hI k)) (bears _ _ hIx) ?_ ⟨by rw[hE];exact hI1,by simp,by simp,hL1,hD1⟩) ?_
 ·rintro k O W hk ⟨hIk,hn1,hn2,hL,hD⟩ hlt
  have hy:=run_yield (P:=P) (args:=args k) hL (by rw[hrec];exact hps k)
  rw[hrec]at hy
  have hsz:w.heap.size+2≤W.heap.size:=by have:=hL.lt;omega
  refine⟨f,_,assign,body,hy,roundIn_of_wpIn trivial (wpIn_mono (hround k (E O) W hk hIk (fun b hb=>?_) (by rw[hE];simp) (by rw[hE];simp) hsz) ?_)⟩
  ·rw[hE]at hb
   simp only[List.mem_cons]at hb
   rcases hb with rfl|rfl|hb
   ·omega
   ·omega
   ·exact hlt b hb
  intro e a₁ Wx hq
  cases e with
  |normal=>
   obtain⟨k1,hb⟩:=hq
   have hL1:=k1.at hL (by simp)
   have hD1:=k1.at hD (by simp)
   refine⟨_,run_beginRound hL1 (by rw[hrec]),?_⟩
   have kb:xe [w.heap.size+1] Wx (Wx.putObj (w.heap.size+1) (.loop { rec .ready none with state:=.busy })):=(xe.refl _ _).put (.inl (by simp)) _
   have hLb:=hL1.put_same (.loop { rec .ready none with state:=.busy })
   have hDb:=kb.at hD1 (by simp)
   refine wpIn_mono (hb _ kb (by rw[World.putObj_size]) ⟨_,hLb⟩) ?_
   rintro e a' W' ⟨hq,T',hk',hT⟩
   have hT1:w.heap.size∉T':=fun h=>hT _ h (by rw[hE];simp)
   have hT2:w.heap.size+1∉T':=fun h=>hT _ h (by rw[hE];simp)
   have hLx:=hk'.at hLb hT2
   have hDx:=hk'.at hDb hT1
   have kr:∀o,xe [w.heap.size+1] W' (W'.putObj (w.heap.size+1) o):=fun o=>(xe.refl _ _).put (.inl (by simp)) o
   have kE:∀o,xe (E O) W' (W'.putObj (w.heap.size+1) o):=fun o=>(kr o).mono (fun b _ hb=>by rw[List.mem_singleton.1 hb,hE];simp)
   have kT:∀o,∃T,xe T W (W'.putObj (w.heap.size+1) o)/\∀b∈T,b∉O:=fun o=>by
    refine⟨(w.heap.size+1)::T',?_,fun b hb h=>?_⟩
    ·have h1:xe ((w.heap.size+1)::T') W W':=
      ((k1.mono (by simp)).trans (kb.mono (by intro k _ h;rw[List.mem_singleton.1 h];exact List.mem_cons_self))).trans (hk'.mono (fun b _ h=>List.mem_cons_of_mem _ h))
     exact h1.trans ((kr o).mono (by intro k _ h;rw[List.mem_singleton.1 h];exact List.mem_cons_self))
    ·rcases List.mem_cons.1 hb with rfl|hb
     ·exact hn2 h
     ·exact hT b hb (by rw[hE];simp[h])
   rcases hq with⟨rfl,hI'⟩|⟨rfl,hx'⟩
   ·have hr:=run_endRound (P:=P) none hLx
    rw[hrec]at hr
    refine⟨_,_,hr,.inl ⟨rfl,?_,hn1,hn2,?_,?_⟩,kT _⟩
    ·exact hI (k+1) _ _ W' _ hI' (kE _) (fun b hb=>.inl hb)
    ·rw[hrec];exact hLx.put_same _
    ·exact(kr _).at hDx (by simp)
   ·have hr:=run_endRound (P:=P) (some jc) hLx
    rw[hrec]at hr
    have hend:qb (fun k O W=>I k (E O) W/\w.heap.size∉O/\w.heap.size+1∉O/\At W (w.heap.size+1) (.loop (rec .ready none))/\At W w.heap.size (.deferred (some []))) (fun O W=>Ix (E O) W/\w.heap.size∉O/\w.heap.size+1∉O/\At W (w.heap.size+1) (.loop (rec .done (some jc)))/\At W w.heap.size (.deferred (some []))) k O W (.returned (.bool false)) (W'.putObj (w.heap.size+1) (.loop (rec .done (some jc)))):=
     ⟨.inr ⟨rfl,hIx _ _ W' _ hx' (kE _) (fun b hb=>.inl hb),hn1,hn2,hLx.put_same _,(kr _).at hDx (by simp)⟩,kT _⟩
    rw[hrec]at hend
    rcases hX with⟨rfl,rfl⟩|⟨id,rfl,rfl⟩
    ·exact⟨_,_,hr,by rw[hrec];exact hend⟩
    ·exact⟨_,_,hr,by rw[hrec];exact hend⟩
  |exit _=>exact hq.elim
  |goto _=>exact hq.elim
  |ret=>exact hq.elim
  |panic _=>exact hq.elim
  |outgrown=>exact hq.elim
 ·rintro e W2 ⟨rfl,O,⟨hI2,_,_,hL2,hD2⟩|⟨hx2,_,_,hL2,hD2⟩⟩
  ·have hr:=run_endLoop (P:=P) hL2 (by rw[hrec];simp)
   rw[hrec]at hr
   refine .inl ⟨_,hr,⟨_,hI m _ _ W2 _ hI2 ((xe.refl _ _).put (.inl (by rw[hE];simp)) _) (fun b hb=>.inl hb)⟩,?_⟩
   exact((xe.refl [w.heap.size+1] W2).put (.inl (by simp)) _).at hD2 (by simp)
  ·have hr:=run_endLoop (P:=P) hL2 (by rw[hrec];simp)
   rw[hrec]at hr
   refine .inr ⟨_,hr,⟨_,hIx _ _ W2 _ hx2 ((xe.refl _ _).put (.inl (by rw[hE];simp)) _) (fun b hb=>.inl hb)⟩,?_⟩
   exact((xe.refl [w.heap.size+1] W2).put (.inl (by simp)) _).at hD2 (by simp)
theorem qM {gf:FuncId} {lb:Array Value} {m:Nat} {args:Nat->Array Value} {Fct:World->Prop} (hIt:xc0 P gf lb m args Fct) (f:FuncId) (w:World) (tmps:Array Value) (ps:Array Tmp) (assign body:Code)
  (I:Nat->World->Prop) (Ix:World->Prop) (X:Exit) (jc:Code) (hX:(X=.ret/\jc=.ret)\/∃id,X=.exit id/\jc=.exit id)
  (hps:∀k,(args k).size=ps.size)
  (hF:∀k W,I k W->Fct W)
  (hI:∀k W W' T,I k W->xe T W W'->(∀b∈T,w.heap.size≤b)->I k W')
  (hIx:∀W W' T,Ix W->xe T W W'->(∀b∈T,w.heap.size≤b)->Ix W')
  (hround:∀(k:Nat) (W:World),k<m->I k W->w.heap.size+2≤W.heap.size->
    assign.wpIn (Fence.wide.inRound (w.heap.size+1)) 3 P (Exit.then (fun a₁ W₁=>xe [] W W₁/\∀W₂,xe [w.heap.size+1] W₁ W₂->W₂.heap.size=W₁.heap.size->ZN W₂ (w.heap.size+1)->
    body.wpIn (Fence.wide.inRound (w.heap.size+1)) 3 P (fun e _ W'=>((e=.normal/\I (k+1) W')\/(e=X/\Ix W'))/\∃T',xe T' W₂ W'/\∀b∈T',b<w.heap.size\/W.heap.size≤b) a₁ W₂) (fun _ _ _=>False))
    { tmps:=(ps.zip (args k)).foldl (fun t (p,v)=>t.setIfInBounds p v) tmps,defers:=[] } W)
  (h0:I 0 w):
  CallsIn Fence.wide 4 P gf (#[.func (.yield (w.heap.size+1)) #[] #[]]++lb) ((w.alloc (.deferred (some []))).alloc (.loop { state:=.ready,pending:=none,fn:=f,tmps,params:=ps,assign,body,defers:=w.heap.size }))
   (jq P (w.heap.size+1) w.heap.size (I m) Ix jc):=by
 have bears:∀K:World->Prop,(∀W W' T,K W->xe T W W'->(∀b∈T,w.heap.size≤b)->K W')->Bears (fun O W=>K W/\w.heap.size≤W.heap.size/\∀b∈O,w.heap.size≤b):=by
  rintro K hK O O' W W' ⟨h1,h2,h3⟩ hk hO
  refine⟨hK W W' O h1 hk h3,Nat.le_trans h2 hk.size,fun b hb=>?_⟩
  rcases hO b hb with h|h
  ·exact h3 b h
  ·omega
 refine CallsIn.mono (qP hIt f w tmps ps assign body (fun k O W=>I k W/\w.heap.size≤W.heap.size/\∀b∈O,w.heap.size≤b) (fun O W=>Ix W/\w.heap.size≤W.heap.size/\∀b∈O,w.heap.size≤b) X jc hX hps
  (fun k O W h=>hF k W h.1) (fun k=>bears _ (hI k)) (bears _ hIx) ?_ ⟨h0,Nat.le_refl _,by simp⟩) (fun e w' h=>qH h (fun W ⟨O,h⟩=>h.1) (fun W ⟨O,h⟩=>h.1))
 rintro k O W hk ⟨h1,h2,h3⟩ hlt hm1 hm2 hsz
 refine wpIn_mono (hround k W hk h1 hsz) ?_
 intro e a₁ Wx hq
 cases e with
 |normal=>
  obtain⟨k1,hb⟩:=hq
  refine⟨k1,fun W₂ k2 hz hL=>wpIn_mono (hb W₂ k2 hz hL) ?_⟩
  rintro e a' W' ⟨hq,T',hk',hT⟩
  have hs:w.heap.size≤W'.heap.size:=Nat.le_trans h2 (Nat.le_trans k1.size (Nat.le_trans k2.size hk'.size))
  refine⟨?_,T',hk',fun b hb h=>?_⟩
  ·rcases hq with⟨rfl,h⟩|⟨rfl,h⟩
   ·exact .inl ⟨rfl,h,hs,h3⟩
   ·exact .inr ⟨rfl,h,hs,h3⟩
  ·rcases hT b hb with h'|h'
   ·have:=h3 b h;omega
   ·have:=hlt b h;omega
 |exit _=>exact hq.elim
 |goto _=>exact hq.elim
 |ret=>exact hq.elim
 |panic _=>exact hq.elim
 |outgrown=>exact hq.elim
end
open Go.RowKit Go.OpenShut
def objC (S:DS) (x:Nat):List Value:=[.int .i64 (hdN (S.now x).toNat:Nat),.int .i64 (hdR (S.now x).toNat:Nat),.int .i64 (x:Nat)]
def wK (S:DS) (L:List Nat):List Value:=L.flatMap (objC S)
theorem ZF (S:DS):∀(L:List Nat) (i x:Nat),L[i]? =some x->(wK S L)[i*3]? =some (.int .i64 (hdN (S.now x).toNat:Nat))/\(wK S L)[i*3+1]? =some (.int .i64 (hdR (S.now x).toNat:Nat))/\(wK S L)[i*3+2]? =some (.int .i64 (x:Nat))
 | [],i,x,h=>by simp at h
 |y::L,0,x,h=>by
  simp at h;subst h
  exact⟨rfl,rfl,rfl⟩
 |y::L,i+1,x,h=>by
  have:=ZF S L i x (by simpa using h)
  have e:∀j,(wK S (y::L))[3+j]? =(wK S L)[j]? :=fun j=>by
   show(objC S y++wK S L:List Value)[3+j]? =_
   rw[List.getElem?_append_right (by simp[objC])]
   simp[objC]
  rw[show(i+1)*3=3+i*3 by omega,show 3+i*3+1=3+(i*3+1) by omega,show 3+i*3+2=3+(i*3+2) by omega,e,e,e]
  exact this
theorem q9 (S:DS) (L:List Nat) (x:Nat):wK S L++objC S x=wK S (L++ [x]):=by
 simp[wK]
def OwnO (S:DS) (w:World) (B:Nat) (x:Option Addr) (cp n:Nat) (L:List Nat):Prop:=
 L.length=n/\w.ownsRow B 151 3 (.slice x n cp) n (wK S L)
theorem xca (S:DS) (w:World) (B:Nat):OwnO S w B none 0 0 []:=⟨rfl,rfl,.inl ⟨rfl,rfl⟩⟩
theorem OwnO.form {S:DS} {w:World} {B:Nat} {x:Option Addr} {cp n:Nat} {L:List Nat} (h:OwnO S w B x cp n L):
  (x=none/\n=0)\/∃g cur,x=some ⟨g,0,none⟩/\B≤g/\At w g (.cells cur 151)/\
   ∀i y,L[i]? =some y->cur[i*3]? =some (.int .i64 (hdN (S.now y).toNat:Nat))/\cur[i*3+1]? =some (.int .i64 (hdR (S.now y).toNat:Nat))/\cur[i*3+2]? =some (.int .i64 (y:Nat)):=by
 obtain⟨hl,_,⟨h1,h2⟩|⟨g,cap,cur,h1,h2,h3,_,_,h6,h7⟩⟩:=h
 ·injection h1 with h1;exact .inl ⟨h1,h2⟩
 ·injection h1 with h1
  refine .inr ⟨g,cur,h1,h2,h3,fun i y hy=>?_⟩
  obtain⟨hi,_⟩:=List.getElem?_eq_some_iff.1 hy
  obtain⟨e1,e2,e3⟩:=ZF S L i y hy
  have key:∀j v,j<n*3->(wK S L)[j]? =some v->cur[j]? =some v:=fun j v hj hv=>by
   have k1:(cur.toList.take (n*3))[j]? =(wK S L)[j]? :=by rw[h7]
   rw[List.getElem?_take_of_lt hj,Array.getElem?_toList,hv]at k1
   exact k1
  exact⟨key _ _ (by omega) e1,key _ _ (by omega) e2,key _ _ (by omega) e3⟩
theorem OwnO.keep {S:DS} {w w':World} {B:Nat} {x:Option Addr} {cp n:Nat} {L:List Nat} {T:List Nat} (h:OwnO S w B x cp n L) (hk:xe T w w') (hT:∀b∈blkL x,b∉T):OwnO S w' B x cp n L:=by
 obtain⟨hl,h0,h1|⟨g,cap,cur,h1,h2,h3,h4⟩⟩:=h
 ·exact⟨hl,h0,.inl h1⟩
 ·refine⟨hl,h0,.inr ⟨g,cap,cur,h1,h2,?_,h4⟩⟩
  injection h1 with h1
  exact hk.at (show At w g (.cells cur 151)from h3) (hT g (by rw[h1];simp[blkL]))
theorem OwnO.ge {S:DS} {w:World} {B:Nat} {x:Option Addr} {cp n:Nat} {L:List Nat} (h:OwnO S w B x cp n L):∀b∈blkL x,B≤b/\b<w.heap.size:=by
 rcases h.form with⟨rfl,_⟩|⟨g,cur,rfl,h1,h2,_⟩
 ·simp[blkL]
 ·simp[blkL];exact⟨h1,h2.lt⟩
theorem xbv {S:DS} {ops:Array Oper} {rest:List Oper} {o:Oper} {a:Act} {w:World} {Q:Exit->Act->World->Prop} (hgd:o.guard=none) (s x:Operand)
  (ho:o.op=.call { callee:=.builtin .append,args:=#[s,x],argTypes:=#[212,212] })
  (B:Nat) (xx:Option Addr) (cp n:Nat) (L:List Nat) (hs:a.eval s=.slice xx n cp) (hown:OwnO S w B xx cp n L) (b c y:Nat) (hx:a.eval x=.slice (some ⟨b,0,none⟩) 1 c)
  (hc:w.cell? ⟨b,0,none⟩=some (.int .i64 (hdN (S.now y).toNat:Nat))) (hc2:w.cell? ⟨b,1,none⟩=some (.int .i64 (hdR (S.now y).toNat:Nat))) (hc3:w.cell? ⟨b,2,none⟩=some (.int .i64 (y:Nat)))
  (hn:n≤100000) (hB:B≤w.heap.size)
  (h:∀g cap w',OwnO S w' B (some ⟨g,0,none⟩) cap (n+1) (L++ [y])->xe (blkL xx) w w'->(blkL xx= [g]\/w.heap.size≤g)->wpList Tryz.prog ops Q rest (a.put o.dst (.slice (some ⟨g,0,none⟩) (n+1) cap)) w'):
  wpList Tryz.prog ops Q (o::rest) a w:=by
 have hi:∃i,Tryz.prog.info? 151=some i/\(i.zero,i.size,i.bytes)=(some (obV 0 0 0),3,24):=by
  have h:(Tryz.prog.info? 151).map (fun i=>(i.zero,i.size,i.bytes))=some (some (obV 0 0 0),3,24):=by kernel_rfl
  exact Option.map_eq_some_iff.1 h
 obtain⟨ti,hi1,hi2⟩:=hi
 simp only[Prod.mk.injEq]at hi2
 obtain⟨hz,hsz,hby⟩:=hi2
 refine wpList_append_own_at w hgd s x 212 ho B 151 ti (obV 0 0 0) 3 24 Tryz.underlying212 hi1 hz hsz hby rfl (by omega) _ n _ hs hown.2 ⟨b,0,none⟩ 1 c (objC S y) hx rfl (fun j u hj=>?_) (by simp[objC,Value.oneCell']) (by unfold maxLen;omega) (by omega) hB ?_
 ·match j,hj with
  |0,hj=>simp[objC]at hj;subst hj;exact hc
  |1,hj=>simp[objC]at hj;subst hj;exact hc2
  |2,hj=>simp[objC]at hj;subst hj;exact hc3
  |j+3,hj=>simp[objC]at hj
 ·intro v' w' h1 h2 h3 h4
  have hne:v'≠.slice none 0 0:=fun e=>by have:=(h3.1 e).2;omega
  have h1':=h1
  obtain⟨_,⟨rfl,_⟩|⟨g,cap,cur,rfl,hB',hg,h5⟩⟩:=h1'
  ·exact absurd rfl hne
  ·rw[q9]at h1
   refine h g cap w' ⟨by simp[hown.1],h1⟩ (xS h2) ?_
   rcases h4 with h4|h4
   ·left
    cases xx with
    |none=>simp[Value.ownBlock]at h4
    |some a=>simp[Value.ownBlock]at h4;simp[blkL];exact h4.symm
   ·right
    simp[Value.ownBlock]at h4;omega
def Yv (L:List Nat) (z:Int):Option Value:=if 0≤z/\z.toNat∈L then some (.agg #[])else none
theorem QS (L:List Nat) (x:Nat):(fun z:Int=>if z=(x:Int)then some (.agg #[])else Yv L z)=Yv (L++ [x]):=by
 funext z
 unfold Yv
 by_cases h:z=(x:Int)
 ·subst h
  rw[if_pos rfl,if_pos ⟨by omega,by simp⟩]
 ·rw[if_neg h]
  by_cases h1:0≤z/\z.toNat∈L
  ·rw[if_pos h1,if_pos ⟨h1.1,List.mem_append_left _ h1.2⟩]
  ·rw[if_neg h1,if_neg]
   rintro⟨h2,h3⟩
   rcases List.mem_append.1 h3 with h3|h3
   ·exact h1 ⟨h2,h3⟩
   ·have:=List.mem_singleton.1 h3
    omega
theorem xes (w:World):(zeroValue 101).run Tryz.prog w=.ok (.agg #[]) w:=by kernel_rfl
theorem Jh {w:World} {mb:Nat} {L:List Nat} (h:IMap w mb (Yv L)) {z:Int} (hz:0≤z/\z.toNat∈L):(Instr.lookup 115 (.map (some mb)) (.int .i64 z) true).run Tryz.prog w=.ok (.tuple #[.agg #[],.bool true]) w:=by
 rw[h.lookup Tryz.underlying115 Tryz.underlying3 (xes w) z true]
 unfold Yv
 rw[if_pos hz]
 rfl
theorem seen_none {w:World} {mb:Nat} {L:List Nat} (h:IMap w mb (Yv L)) {z:Int} (hz:¬(0≤z/\z.toNat∈L)):(Instr.lookup 115 (.map (some mb)) (.int .i64 z) true).run Tryz.prog w=.ok (.tuple #[.agg #[],.bool false]) w:=by
 rw[h.lookup Tryz.underlying115 Tryz.underlying3 (xes w) z true]
 unfold Yv
 rw[if_neg hz]
 rfl
theorem xbT {w:World} {mb:Nat} {L:List Nat} (h:IMap w mb (Yv L)) (z:Int):∃b:Bool,(b=true↔0≤z/\z.toNat∈L)/\(Instr.lookup 115 (.map (some mb)) (.int .i64 z) true).run Tryz.prog w=.ok (.tuple #[.agg #[],.bool b]) w:=by
 by_cases hz:0≤z/\z.toNat∈L
 ·exact⟨true,by simp[hz],Jh h hz⟩
 ·exact⟨false,by simpa using hz,seen_none h hz⟩
def rngW (w w':World):List Nat:=(List.range (w'.heap.size-w.heap.size)).map fun i=>w.heap.size+i
theorem yh {w w':World} {b:Nat} :b∈rngW w w'↔w.heap.size≤b/\b<w'.heap.size:=by
 unfold rngW
 simp only[List.mem_map,List.mem_range]
 constructor
 ·rintro⟨i,h1,rfl⟩
  omega
 ·rintro⟨h1,h2⟩
  exact⟨b-w.heap.size,by omega,by omega⟩
structure FrB (a:DA) (c:Cfg) (k u:Nat) (bd bc bb:Nat) (S:DS) (W:World):Prop where
 d:At W bd (.cells #[ptr a.d] 28)
 c:At W bc (cfgO c)
 b:At W bb (bkO k u (.slice none 0 0))
 dev:∃p,Dev W p a S
structure TlI (J:Nat->List Nat->World->Prop) (S:DS) (y:Value) (B:Nat) (out O:List Nat) (x:Option Addr) (cp:Nat) (W:World):Prop where
 j:J out.length O W
 low:∀b∈O,b<W.heap.size
 own:∀j,j<5->B+j∈O
 row:∀b∈blkL x,b∈O
 yb:At W B (.cells #[y] 244)
 tb:At W (B+1) (.cells #[.slice x out.length cp] 212)
 mp:IMap W (B+2) (Yv out)
 sb:At W (B+3) (.cells #[.map (some (B+2))] 115)
 ob:OwnO S W (B+5) x cp out.length out
theorem TlI.keep {J:Nat->List Nat->World->Prop} {S:DS} {y:Value} {B:Nat} {out O:List Nat} {x:Option Addr} {cp:Nat} {W W':World} {T:List Nat} (hJ:∀k,Bears (J k)) (h:TlI J S y B out O x cp W) (hk:xe T W W')
  (hT:∀b∈T,b<W.heap.size->b∈O/\B+4≤b/\b∉blkL x):TlI J S y B out (O++rngW W W') x cp W':=by
 have hk2:xe O W W':=hk.mono fun b hb hT'=>(hT b hT' hb).1
 have off:∀b,b<W.heap.size->b<B+4->b∉T:=fun b h1 h2 h3=>by have:=(hT b h3 h1).2.1;omega
 have lo:∀j,j<5->B+j<W.heap.size:=fun j hj=>h.low _ (h.own j hj)
 refine⟨hJ _ _ _ W W' h.j hk2 (fun b hb=>?_),fun b hb=>?_,fun j hj=>List.mem_append_left _ (h.own j hj),fun b hb=>List.mem_append_left _ (h.row b hb),
  hk.at h.yb (off _ (lo 0 (by omega)) (by omega)),hk.at h.tb (off _ (lo 1 (by omega)) (by omega)),h.mp.keep hk (off _ (lo 2 (by omega)) (by omega)),hk.at h.sb (off _ (lo 3 (by omega)) (by omega)),h.ob.keep hk fun b hb hT'=>?_⟩
 ·rcases List.mem_append.1 hb with hb|hb
  ·exact .inl hb
  ·exact .inr (yh.1 hb).1
 ·rcases List.mem_append.1 hb with hb|hb
  ·exact Nat.lt_of_lt_of_le (h.low b hb) hk.size
  ·exact(yh.1 hb).2
 ·exact(hT b hT' (h.low b (h.row b hb))).2.2 hb
def rcA (S:DS) (l:List Nat) (i:Nat):Array Value:=#[obV (hdN (S.now (l.getD i 0)).toNat:Nat) (hdR (S.now (l.getD i 0)).toNat:Nat) (l.getD i 0:Nat)]
theorem xeE {S:DS} {l:List Nat} {i v:Nat} (h:l[i]? =some v):rcA S l i=#[obV (hdN (S.now v).toNat:Nat) (hdR (S.now v).toNat:Nat) (v:Nat)]:=by
 unfold rcA
 rw[List.getD_eq_getElem?_getD,h]
 rfl
def xcX (J:Nat->List Nat->World->Prop) (Jx:List Nat->World->Prop) (S:DS) (y:Value) (B:Nat) (O:List Nat) (x:Option Addr) (W:World) (out':List Nat) (e:Ending) (w':World):Prop:=
 ∃O',(∀b∈O,b∈O')/\(∃T,xe T W w'/\∀b∈T,b∉O\/b=B+1\/b=B+2\/b∈blkL x)/\
  ((e=.returned (.bool true)/\∃x' cp',TlI J S y B out' O' x' cp' w'/\∀b∈blkL x',b∈blkL x\/W.heap.size≤b)\/(e=.returned (.bool false)/\Jx O' w'))
theorem TlI.told {J:Nat->List Nat->World->Prop} {Jx:List Nat->World->Prop} {S:DS} {y:Value} {B:Nat} {out O:List Nat} {x:Option Addr} {cp:Nat} {W W':World} (hJ:∀k,Bears (J k)) (h:TlI J S y B out O x cp W) (hk:xe [] W W') {out':List Nat} (ho:out'=out):
  xcX J Jx S y B O x W out' (.returned (.bool true)) W':=by
 subst ho
 exact⟨_,fun b hb=>List.mem_append_left _ hb,⟨[],hk,by simp⟩,.inl ⟨rfl,x,cp,h.keep hJ hk (by simp),fun b hb=>.inl hb⟩⟩
theorem TlI.new {J:Nat->List Nat->World->Prop} {S:DS} {y:Value} {B:Nat} {out O:List Nat} {x:Option Addr} {cp:Nat} {W W':World} (hJ:∀k,Bears (J k)) (h:TlI J S y B out O x cp W) (hk:xe ((B+1)::(B+2)::blkL x) W W') {X g cap:Nat}
  (hmp:IMap W' (B+2) (Yv (out++ [X]))) (htb:At W' (B+1) (.cells #[.slice (some ⟨g,0,none⟩) (out.length+1) cap] 212)) (hob:OwnO S W' (B+5) (some ⟨g,0,none⟩) cap (out.length+1) (out++ [X]))
  (hg:blkL x= [g]\/W.heap.size≤g):TlI (fun _=>J out.length) S y B (out++ [X]) (O++rngW W W') (some ⟨g,0,none⟩) cap W':=by
 have hx:∀b∈blkL x,B+5≤b:=fun b hb=>(h.ob.ge b hb).1
 have hko:xe O W W':=hk.mono fun b _ hb=>by
  simp only[List.mem_cons]at hb
  rcases hb with rfl|rfl|hb
  ·exact h.own 1 (by omega)
  ·exact h.own 2 (by omega)
  ·exact h.row b hb
 have off:∀j,(j=0\/j=3)->B+j∉(B+1)::(B+2)::blkL x:=fun j hj hb=>by
  simp only[List.mem_cons]at hb
  rcases hb with h1|h1|h1
  ·omega
  ·omega
  ·have:=hx _ h1;omega
 refine⟨hJ _ _ _ W W' h.j hko (fun b hb=>?_),fun b hb=>?_,fun j hj=>List.mem_append_left _ (h.own j hj),fun b hb=>?_,hk.at h.yb (off 0 (.inl rfl)),by rw[List.length_append];exact htb,hmp,hk.at h.sb (off 3 (.inr rfl)),by rw[List.length_append];exact hob⟩
 ·rcases List.mem_append.1 hb with hb|hb
  ·exact .inl hb
  ·exact .inr (yh.1 hb).1
 ·rcases List.mem_append.1 hb with hb|hb
  ·exact Nat.lt_of_lt_of_le (h.low b hb) hk.size
  ·exact(yh.1 hb).2
 ·have hb':=hob.ge b hb
  have hbg:b=g:=by simpa[blkL]using hb
  subst hbg
  rcases hg with hg|hg
  ·exact List.mem_append_left _ (h.row b (by rw[hg];simp))
  ·exact List.mem_append_right _ (yh.2 ⟨hg,hb'.2⟩)
theorem TlI.done {J:Nat->List Nat->World->Prop} {Jx:List Nat->World->Prop} {S:DS} {y:Value} {B:Nat} {out O out':List Nat} {x:Option Addr} {W W7 W8:World} {X g cap:Nat} {e:Ending}
  (h7:TlI (fun _=>J out.length) S y B (out++ [X]) (O++rngW W W7) (some ⟨g,0,none⟩) cap W7) (hk:xe ((B+1)::(B+2)::blkL x) W W7) (hg:blkL x= [g]\/W.heap.size≤g)
  (hr:qb J Jx out.length (O++rngW W W7) W7 e W8) (ho:out'=out++ [X]):xcX J Jx S y B O x W out' e W8:=by
 subst ho
 obtain⟨hr,T,hkT,hT⟩:=hr
 refine⟨O++rngW W W7,fun b hb=>List.mem_append_left _ hb,⟨((B+1)::(B+2)::blkL x)++T,(hk.mono fun b _ hb=>List.mem_append_left _ hb).trans (hkT.mono fun b _ hb=>List.mem_append_right _ hb),fun b hb=>?_⟩,?_⟩
 ·rcases List.mem_append.1 hb with hb|hb
  ·simp only[List.mem_cons]at hb
   rcases hb with h|h|h
   ·exact .inr (.inl h)
   ·exact .inr (.inr (.inl h))
   ·exact .inr (.inr (.inr h))
  ·exact .inl fun h=>hT b hb (List.mem_append_left _ h)
 ·rcases hr with⟨rfl,hj⟩|⟨rfl,hj⟩
  ·refine .inl ⟨rfl,some ⟨g,0,none⟩,cap,?_,fun b hb=>?_⟩
   ·have off:∀j,j<5->B+j∉T:=fun j hj hb=>hT _ hb (h7.own j hj)
    exact⟨by rw[List.length_append];exact hj,fun b hb=>Nat.lt_of_lt_of_le (h7.low b hb) hkT.size,h7.own,h7.row,hkT.at h7.yb (off 0 (by omega)),hkT.at h7.tb (off 1 (by omega)),h7.mp.keep hkT (off 2 (by omega)),hkT.at h7.sb (off 3 (by omega)),
     h7.ob.keep hkT fun b hb h=>hT b h (h7.row b hb)⟩
   ·have hbg:b=g:=by simpa[blkL]using hb
    subst hbg
    rcases hg with hg|hg
    ·exact .inl (by rw[hg];simp)
    ·exact .inr hg
  ·exact .inr ⟨rfl,hj⟩
theorem xds (a:DA) (S:DS) (c:Cfg) (hc:c.Ok) (hcn:c.words=a.n) (k:Nat) (hk:k≤1) (u:Nat) (hu:u≤c.space)
  (hx:∀j:Nat,c.frm k≤j->j<c.frm k+u->∃x:Nat,S.now j=(x:Int)/\x<18446744073709551616)
  (l:Nat) (J:Nat->List Nat->World->Prop) (Jx:List Nat->World->Prop) (LS:List Nat) (bd bc bb B:Nat)
  (hFB:∀k' O W,J k' O W->FrB a c k u bd bc bb S W) (hJ:∀k,Bears (J k))
  (hY:∀k O W,k<LS.length->J k O W->(∀b∈O,b<W.heap.size)->YieldAt Fence.wide 3 Tryz.prog l (rcA S LS k) W (qb J Jx k O W))
  (out O:List Nat) (x:Option Addr) (cp:Nat) (W:World) (h:TlI J S (.func (.yield l) #[] #[]) B out O x cp W) (hol:out.length≤5000)
  (z:Int) (v:Nat) (hz:-9223372036854775808≤z/\z<9223372036854775808) (hzv:z=(v:Int)\/z<0/\9223372036854775808≤v)
  (hnext:(obW S c k u v).isSome=true->v∉out->LS[out.length]? =some v):
  Calls Tryz.prog 203 #[.int .i64 z,ptr bd,ptr bc,ptr bb,ptr (B+3),ptr (B+1),ptr B] W (xcX J Jx S (.func (.yield l) #[] #[]) B O x W (seeW S c k u out v)):=by
 obtain⟨hFd,hFc,hFb,p,hD⟩:=hFB _ _ _ h.j
 have hsp:=hc.small.2.2
 have hfr:=xW hc.small (show k≤2 by omega)
 have HOF:=hid (xeJ W p a S hD c hc hcn k hk u hu (.slice none 0 0) z hz hx)
 have HH:=hid h
 have HZ:=hid (And.intro hz hzv)
 have HN:=hid hnext
 have HFR:=hid (And.intro hfr (And.intro hu hsp))
 have HOL:=hid hol
 have d0:=hFd.cell 0 rfl
 have c0:=hFc.cell 0 rfl
 have c1:=hFc.cell 1 rfl
 have c2:=hFc.cell 2 rfl
 have b0:=hFb.cell 0 rfl
 have b1:=hFb.cell 1 rfl
 have b2:=hFb.cell 2 rfl
 clear h hz hzv hnext hfr hu hsp hx hcn hc hD hFd hFc hFb hol
 go_enter Tryz.func203,Tryz.ntmps203
 go_wp2_with fail
 refine HOF.out.mono ?_
 rintro e w1 ⟨hO,hk1⟩
 have hs3:=hk1.at HH.out.sb (by simp)
 have hm3:=HH.out.mp.keep hk1 (by simp)
 clear d0 c0 c1 c2 b0 b1 b2
 rcases hO with⟨X,n,r,hzX,hob,rfl⟩|⟨hno,code,hcode,rfl⟩
 case inr=>
  have hno2:(obW S c k u v).isSome=false:=by
   rcases HZ.out.2 with h1|h1
   ·exact hno v h1
   ·rw[Bool.eq_false_iff]
    intro h2
    have:=YJ h2
    have:=HFR.out
    omega
  have HSE:Hid (seeW S c k u out v=out):=yZ hno2
  have s0:(w1.alloc (obO 0 0 0)).cell? ⟨B+3,0,none⟩=some (.map (some (B+2))):=(hs3.alloc (obO 0 0 0)).cell 0 rfl
  have hm4:=hm3.keep ((xe.refl [] w1).alloc (obO 0 0 0)) (by simp)
  obtain⟨w4,hw4⟩:∃w,w=w1.alloc (obO 0 0 0):=⟨_,rfl⟩
  have hk4:xe [] W w4:=by rw[hw4];exact hk1.alloc _
  rw[<-hw4]at s0 hm4
  obtain⟨sn,_,hsn⟩:=xbT hm4 z
  have t1:(code != 0)=true:=by simp[hcode]
  have HK4:=hid hk4
  clear hno hno2 hcode hs3 hm3 hm4 hk4
  go_upto_region 2 with fail
  first|rw[<-hw4]|skip
  clear hw4
  go_wp2_with fail
  all_goals
   go_ret
   exact HH.out.told hJ (HK4.out.alloc _) HSE.out
 case inl=>
  subst hzX
  obtain⟨x1,x2,x3,x4,x5,x6⟩:=zt hob
  have hXv:X=v:=by
   have h1:=HZ.out
   omega
  subst hXv
  have HOB:Hid ((obW S c k u X).isSome=true):=by show _=_;rw[hob];rfl
  have HNR:=hid (And.intro x3 x4)
  have hXi:(X:Int)≤30000:=by have:=HFR.out;omega
  have s0:(w1.alloc (obO (n:Nat) (r:Nat) (X:Nat))).cell? ⟨B+3,0,none⟩=some (.map (some (B+2))):=(hs3.alloc _).cell 0 rfl
  have hm4:=hm3.keep ((xe.refl [] w1).alloc (obO (n:Nat) (r:Nat) (X:Nat))) (by simp)
  have hO4:=At.new w1 (obO (n:Nat) (r:Nat) (X:Nat))
  have hs4:=hs3.alloc (obO (n:Nat) (r:Nat) (X:Nat))
  obtain⟨w4,hw4⟩:∃w,w=w1.alloc (obO (n:Nat) (r:Nat) (X:Nat)):=⟨_,rfl⟩
  have hk4:xe [] W w4:=by rw[hw4];exact hk1.alloc _
  rw[<-hw4]at s0 hm4 hO4 hs4
  obtain⟨ob,hobq⟩:∃q,q=w1.heap.size:=⟨_,rfl⟩
  rw[<-hobq]at hO4
  have hobw:W.heap.size≤ob:=by rw[hobq];exact hk1.size
  have HK4:=hid hk4
  by_cases hin:X∈out
  ·have HSE:Hid (seeW S c k u out X=out):=Xf hin
   have hsn:=Jh hm4 (z:=(X:Int)) ⟨by omega,by simpa using hin⟩
   clear hob hs3 hm3 hm4 hk4 x1 x2 x3 x4 x5 x6 hin hO4 hs4
   go_upto_region 2 with fail
   first|rw[<-hw4]|skip
   clear hw4
   go_wp2_with fail
   all_goals
    go_ret
    exact HH.out.told hJ (HK4.out.alloc _) HSE.out
  ·have HSE:Hid (seeW S c k u out X=out++ [X]):=wh HOB.out hin
   have hsn:=seen_none hm4 (z:=(X:Int)) (by rintro⟨_,h1⟩;exact hin (by simpa using h1))
   have HLS:Hid (LS[out.length]? =some X):=HN.out HOB.out hin
   have HO4:=hid hO4
   have HS4:=hid hs4
   have HM4:=hid hm4
   have HOW:=hid hobw
   clear hob hs3 hm3 hm4 hk4 x1 x2 x3 x4 x5 x6 hin hO4 hs4 hobw
   go_upto_region 2 with fail
   first|rw[<-hw4]|skip
   first|rw[<-hobq]|skip
   clear hw4 hobq
   go_upto_region 5 with fail
   obtain⟨w5,hw5⟩:∃w,w=w4.alloc (.cells #[] 101):=⟨_,rfl⟩
   have k45:xe [] w4 w5:=by rw[hw5];exact(xe.refl _ _).alloc _
   rw[<-hw5]
   have s5:w5.cell? ⟨B+3,0,none⟩=some (.map (some (B+2))):=(k45.at HS4.out (by simp)).cell 0 rfl
   obtain⟨w6,hrun,hM6,k56⟩:=(HM4.out.keep k45 (by simp)).update (P:=Tryz.prog) Tryz.underlying115 Tryz.underlying3 (X:Int) (.agg #[])
   rw[QS]at hM6
   have hlow:∀j,j<5->B+j<W.heap.size:=fun j hj=>HH.out.low _ (HH.out.own j hj)
   have hrow:∀b∈blkL x,B+5≤b/\b<W.heap.size:=fun b hb=>HH.out.ob.ge b hb
   have K6:xe [B+2] W w6:=((HK4.out.trans k45).mono (by simp)).trans k56
   have hT6:=K6.at HH.out.tb (by simp)
   have hY6:=K6.at HH.out.yb (by simp)
   have hO6:=k56.at (k45.at HO4.out (by simp)) (by have:=HOW.out;have:=hlow 2 (by omega);simp;omega)
   have hOO6:=HH.out.ob.keep K6 (fun b hb h=>by have:=hrow b hb;have:=List.mem_singleton.1 h;omega)
   have HM6:=hid hM6
   have HK6:=hid K6
   have HLOW:=hid hlow
   have HROW:=hid hrow
   have HO6:=hid hO6
   have HOO6:=hid hOO6
   have HT6:=hid hT6
   clear hw5 hM6 k56 k45 hlow hrow K6 hT6 hY6 hO6 hOO6
   go_upto_region 6 with fail
   clear s0 s5 hsn hrun
   have t0:w6.cell? ⟨B+1,0,none⟩=some (.slice x out.length cp):=HT6.out.cell 0 rfl
   have o0:w6.cell? ⟨ob,0,none⟩=some (.int .i64 (n:Nat)):=HO6.out.cell 0 rfl
   have o1:w6.cell? ⟨ob,1,none⟩=some (.int .i64 (r:Nat)):=HO6.out.cell 1 rfl
   have o2:w6.cell? ⟨ob,2,none⟩=some (.int .i64 (X:Nat)):=HO6.out.cell 2 rfl
   have hX6:=At.new w6 (obO (n:Nat) (r:Nat) (X:Nat))
   have x0:=hX6.cell 0 rfl
   have x1:=hX6.cell 1 rfl
   have x2:=hX6.cell 2 rfl
   have hOX:OwnO S (w6.alloc (obO (n:Nat) (r:Nat) (X:Nat))) (B+5) x cp out.length out:=HOO6.out.keep ((xe.refl [] w6).alloc _) (by simp)
   have y0:(w6.alloc (obO (n:Nat) (r:Nat) (X:Nat))).cell? ⟨w6.heap.size,0,none⟩=some (.int .i64 (hdN (S.now X).toNat:Nat)):=by rw[<-HNR.out.1];exact x0
   have y1:(w6.alloc (obO (n:Nat) (r:Nat) (X:Nat))).cell? ⟨w6.heap.size,1,none⟩=some (.int .i64 (hdR (S.now X).toNat:Nat)):=by rw[<-HNR.out.2];exact x1
   have hB6:B+5≤(w6.alloc (obO (n:Nat) (r:Nat) (X:Nat))).heap.size:=by
    have:=HLOW.out 4 (by omega)
    have:=HK6.out.size
    simp only[World.size_alloc]
    omega
   have hol:out.length≤100000:=by have:=HOL.out;omega
   have hBn:B+1∉blkL x:=fun h=>by have:=(HROW.out _ h).1;omega
   have hT6a:=HT6.out.alloc (obO (n:Nat) (r:Nat) (X:Nat))
   go_upto_region 7 with(at_builtin;refine xbv (S:=S) rfl _ _ rfl (B+5) x cp out.length out rfl hOX _ _ X rfl y0 y1 x2 hol hB6 ?_;intro g cap w7 hO7 hk7 hg7;have hT7:=hk7.at hT6a hBn;have t7:=hT7.cell 0 rfl;have tf7:=hT7.free 0)
   have hTW:=hT7.set 0 (.slice (some ⟨g,0,none⟩) (out.length+1) cap)
   have k78:=(xe.refl [B+1] w7).set (p:=⟨B+1,0,none⟩) (.inl (by simp)) (.slice (some ⟨g,0,none⟩) (out.length+1) cap)
   obtain⟨W8,hW8⟩:∃w,w=w7.setCell ⟨B+1,0,none⟩ (.slice (some ⟨g,0,none⟩) (out.length+1) cap):=⟨_,rfl⟩
   rw[<-hW8]at hTW k78⊢
   have k68:xe ((B+1)::blkL x) w6 W8:=((((xe.refl [] w6).alloc (obO (n:Nat) (r:Nat) (X:Nat))).mono (by simp)).trans (hk7.mono (by intro b _ hb;exact List.mem_cons_of_mem _ hb))).trans (k78.mono (by intro b _ hb;rw[List.mem_singleton.1 hb];exact List.mem_cons_self))
   have KW:xe ((B+1)::(B+2)::blkL x) W W8:=(HK6.out.mono (by intro b _ hb;rw[List.mem_singleton.1 hb];simp)).trans (k68.mono (by intro b _ hb;simp only[List.mem_cons]at hb⊢;rcases hb with hb|hb;exact .inl hb;exact .inr (.inr hb)))
   have hx5:∀b∈blkL x,b≠B+2/\b<W.heap.size:=fun b hb=>by have:=HROW.out b hb;omega
   have hgW:blkL x= [g]\/W.heap.size≤g:=by
    rcases hg7 with h1|h1
    ·exact .inl h1
    ·have:=HK6.out.size
     simp only[World.size_alloc]at h1
     exact .inr (by omega)
   have hgn:g≠B+1:=by have:=(hO7.ge g (by simp[blkL])).1;omega
   have h7:=HH.out.new hJ KW (HM6.out.keep k68 (by intro h;rcases List.mem_cons.1 h with h|h;omega;exact(hx5 _ h).1 rfl)) hTW (hO7.keep k78 (by simp[blkL];exact hgn)) hgW
   have hO8:=k68.at HO6.out (by intro h;have:=HOW.out;rcases List.mem_cons.1 h with h|h;(have:=HLOW.out 1 (by omega);omega);(have:=(hx5 _ h).2;omega))
   obtain⟨fn,tmps,assign,body,hy,hR⟩:=hY out.length _ W8 (List.getElem?_eq_some_iff.1 HLS.out).1 h7.j h7.low
   rw[xeE HLS.out,<-HNR.out.1,<-HNR.out.2]at hy
   have y8:W8.cell? ⟨B,0,none⟩=some (.func (.yield l) #[] #[]):=h7.yb.cell 0 rfl
   have p0:W8.cell? ⟨ob,0,none⟩=some (.int .i64 (n:Nat)):=hO8.cell 0 rfl
   have p1:W8.cell? ⟨ob,1,none⟩=some (.int .i64 (r:Nat)):=hO8.cell 1 rfl
   have p2:W8.cell? ⟨ob,2,none⟩=some (.int .i64 (X:Nat)):=hO8.cell 2 rfl
   have H7:=hid h7
   have HKW:=hid KW
   have HGW:=hid hgW
   clear t0 o0 o1 o2 hX6 x0 x1 x2 hOX y0 y1 hB6 hol hBn hT6a hO7 hk7 hg7 hT7 t7 tf7 hTW k78 hW8 k68 KW hx5 hgW hgn h7 hO8
   refine(wpIn_wide (n:=4)).1 ?_
   gi_wp2_with fail
   refine hR.mono ?_
   intro e W9 hr9
   have HE:=hid (H7.out.done HKW.out HGW.out hr9 HSE.out)
   rcases hr9.1 with⟨rfl,_⟩|⟨rfl,_⟩
   all_goals
    clear hr9
    gi_wp2
    go_wp2_with fail
    go_ret
    exact HE.out
end Go.Proofs.YtcdhklgahepcaaaGreat
