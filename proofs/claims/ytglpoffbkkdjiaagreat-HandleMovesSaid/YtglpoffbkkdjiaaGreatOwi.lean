import Derived.Test.YtglpoffbkkdjiaaGreatLpm
namespace Go.Proofs.YtglpoffbkkdjiaaGreat
open Go.RowKit Go.OpenShut
def RoundO (J:Nat → List Nat → World → Prop) (Jx:List Nat → World → Prop) (k:Nat) (O:List Nat) (W:World) (e:Ending) (w':World):Prop :=
 ((e = .returned (.bool true) ∧ J (k + 1) O w') ∨ (e = .returned (.bool false) ∧ Jx O w')) ∧ ∃ T,Keeps T W w' ∧ ∀ b ∈ T,b ∉ O
def IterOE (J:Nat → List Nat → World → Prop) (Jx:List Nat → World → Prop) (m:Nat) (e:Ending) (w':World):Prop:=e = .returned (.tuple #[]) ∧ ∃ O,J m O w' ∨ Jx O w'
def Bears (I:List Nat → World → Prop):Prop:=∀ O O' W W',I O W → Keeps O W W' → (∀ b ∈ O',b ∈ O ∨ W.heap.size ≤ b) → I O' W'
def IterO (P:Program) (gf:FuncId) (lb:Array Value) (m:Nat) (args:Nat → Array Value) (Fct:World → Prop):Prop :=
 ∀ (l:Nat) (J:Nat → List Nat → World → Prop) (Jx:List Nat → World → Prop) (W:World),(∀ k O W,J k O W → Fct W) → (∀ k,Bears (J k)) → Bears Jx →
  (∀ k O W,k < m → J k O W → (∀ b ∈ O,b < W.heap.size) → YieldAt Fence.wide 3 P l (args k) W (RoundO J Jx k O W)) → J 0 [] W →
  CallsIn Fence.wide 4 P gf (#[.func (.yield l) #[] #[]] ++ lb) W (IterOE J Jx m)
theorem loopE_mono {P:Program} {l d:Nat} {I I' Ix Ix':World → Prop} {jc:Code} {e:Ending} {w:World} (h:loopE P l d I Ix jc e w) (h1:∀ w,I w → I' w) (h2:∀ w,Ix w → Ix' w):loopE P l d I' Ix' jc e w:=by
 unfold loopE at h ⊢
 cases e with
 | returned v =>
  rcases h with ⟨w₄,a,b,c⟩ | ⟨w₄,a,b,c⟩
  ·exact .inl ⟨w₄,a,h1 _ b,c⟩
  ·exact .inr ⟨w₄,a,h2 _ b,c⟩
 | panicked _ => exact h
 | outgrown => exact h
section
variable {P:Program}
theorem iter_coreO {gf:FuncId} {lb:Array Value} {m:Nat} {args:Nat → Array Value} {Fct:World → Prop} (hIt:IterO P gf lb m args Fct) (f:FuncId) (w:World) (tmps:Array Value) (ps:Array Tmp) (assign body:Code)
  (I:Nat → List Nat → World → Prop) (Ix:List Nat → World → Prop) (X:Exit) (jc:Code) (hX:(X = .ret ∧ jc = .ret) ∨ ∃ id,X = .exit id ∧ jc = .exit id)
  (hps:∀ k,(args k).size = ps.size)
  (hF:∀ k O W,I k O W → Fct W)
  (hI:∀ k,Bears (I k)) (hIx:Bears Ix)
  (hround:∀ (k:Nat) (O:List Nat) (W:World),k < m → I k O W → (∀ b ∈ O,b < W.heap.size) → w.heap.size ∈ O → w.heap.size + 1 ∈ O → w.heap.size + 2 ≤ W.heap.size →
    assign.wpIn (Fence.wide.inRound (w.heap.size + 1)) 3 P (Exit.then (fun a₁ W₁ => Keeps [] W W₁ ∧ ∀ W₂,Keeps [w.heap.size + 1] W₁ W₂ → W₂.heap.size = W₁.heap.size → LoopAt W₂ (w.heap.size + 1) →
    body.wpIn (Fence.wide.inRound (w.heap.size + 1)) 3 P (fun e _ W' => ((e = .normal ∧ I (k + 1) O W') ∨ (e = X ∧ Ix O W')) ∧ ∃ T',Keeps T' W₂ W' ∧ ∀ b ∈ T',b ∉ O) a₁ W₂) (fun _ _ _ => False))
    { tmps:=(ps.zip (args k)).foldl (fun t (p,v) => t.setIfInBounds p v) tmps,defers:=[] } W)
  (h0:I 0 [] w) :
  CallsIn Fence.wide 4 P gf (#[.func (.yield (w.heap.size + 1)) #[] #[]] ++ lb) ((w.alloc (.deferred (some []))).alloc (.loop { state:=.ready,pending:=none,fn:=f,tmps,params:=ps,assign,body,defers:=w.heap.size }))
   (loopE P (w.heap.size + 1) w.heap.size (fun W => ∃ O,I m O W) (fun W => ∃ O,Ix O W) jc):=by
 obtain ⟨rec,hrec⟩:∃ rec:LoopState → Option Code → Loop,rec = fun st pd => { state:=st,pending:=pd,fn:=f,tmps,params:=ps,assign,body,defers:=w.heap.size }:=⟨_,rfl⟩
 obtain ⟨W1,hW1⟩:∃ W1,W1 = (w.alloc (.deferred (some []))).alloc (.loop (rec .ready none)):=⟨_,rfl⟩
 have hL1:At W1 (w.heap.size + 1) (.loop (rec .ready none)):=by
  rw [hW1]
  have:=At.new (w.alloc (.deferred (some []))) (.loop (rec .ready none))
  rwa [World.size_alloc] at this
 have hD1:At W1 w.heap.size (.deferred (some [])):=by rw [hW1]; exact (At.new w _).alloc _
 have hI1:I 0 [w.heap.size,w.heap.size + 1] W1:=hI 0 [] _ w W1 h0 (by rw [hW1]; exact ((Keeps.refl [] w).alloc _).alloc _) (fun b hb => by simp at hb; omega)
 rw [show (w.alloc (.deferred (some []))).alloc (.loop { state:=.ready,pending:=none,fn:=f,tmps,params:=ps,assign,body,defers:=w.heap.size }) = W1 by rw [hW1,hrec]]
 obtain ⟨E,hE⟩:∃ E:List Nat → List Nat,E = fun O => w.heap.size :: (w.heap.size + 1) :: O:=⟨_,rfl⟩
 have bears:∀ (K:List Nat → World → Prop) (r:Loop),Bears K → Bears (fun O W => K (E O) W ∧ w.heap.size ∉ O ∧ w.heap.size + 1 ∉ O ∧ At W (w.heap.size + 1) (.loop r) ∧ At W w.heap.size (.deferred (some []))):=by
  rintro K r hK O O' W W' ⟨h1,h2,h3,h4,h5⟩ hk hO
  refine ⟨hK _ _ W W' h1 (hk.mono (fun b _ hb => by rw [hE]; simp [hb])) (fun b hb => ?_),fun h => ?_,fun h => ?_,hk.at h4 h3,hk.at h5 h2⟩
  ·rw [hE] at hb ⊢
   simp only [List.mem_cons] at hb ⊢
   rcases hb with rfl | rfl | hb
   ·exact .inl (.inl rfl)
   ·exact .inl (.inr (.inl rfl))
   ·rcases hO b hb with h | h
    ·exact .inl (.inr (.inr h))
    ·exact .inr h
  ·rcases hO _ h with h | h
   ·exact h2 h
   ·have:=h5.lt; omega
  ·rcases hO _ h with h | h
   ·exact h3 h
   ·have:=h4.lt; omega
 refine CallsIn.mono (hIt (w.heap.size + 1) (fun k O W => I k (E O) W ∧ w.heap.size ∉ O ∧ w.heap.size + 1 ∉ O ∧ At W (w.heap.size + 1) (.loop (rec .ready none)) ∧ At W w.heap.size (.deferred (some [])))
  (fun O W => Ix (E O) W ∧ w.heap.size ∉ O ∧ w.heap.size + 1 ∉ O ∧ At W (w.heap.size + 1) (.loop (rec .done (some jc))) ∧ At W w.heap.size (.deferred (some []))) W1
  (fun k O W h => hF k _ W h.1) (fun k => bears _ _ (hI k)) (bears _ _ hIx) ?_ ⟨by rw [hE]; exact hI1,by simp,by simp,hL1,hD1⟩) ?_
 ·rintro k O W hk ⟨hIk,hn1,hn2,hL,hD⟩ hlt
  have hy:=run_yield (P:=P) (args:=args k) hL (by rw [hrec]; exact hps k)
  rw [hrec] at hy
  have hsz:w.heap.size + 2 ≤ W.heap.size:=by have:=hL.lt; omega
  refine ⟨f,_,assign,body,hy,roundIn_of_wpIn trivial (wpIn_mono (hround k (E O) W hk hIk (fun b hb => ?_) (by rw [hE]; simp) (by rw [hE]; simp) hsz) ?_)⟩
  ·rw [hE] at hb
   simp only [List.mem_cons] at hb
   rcases hb with rfl | rfl | hb
   ·omega
   ·omega
   ·exact hlt b hb
  intro e a₁ Wx hq
  cases e with
  | normal =>
   obtain ⟨k1,hb⟩:=hq
   have hL1:=k1.at hL (by simp)
   have hD1:=k1.at hD (by simp)
   refine ⟨_,run_beginRound hL1 (by rw [hrec]), ?_⟩
   have kb:Keeps [w.heap.size + 1] Wx (Wx.putObj (w.heap.size + 1) (.loop { rec .ready none with state:=.busy })):=(Keeps.refl _ _).put (.inl (by simp)) _
   have hLb:=hL1.put_same (.loop { rec .ready none with state:=.busy })
   have hDb:=kb.at hD1 (by simp)
   refine wpIn_mono (hb _ kb (by rw [World.putObj_size]) ⟨_,hLb⟩) ?_
   rintro e a' W' ⟨hq,T',hk',hT⟩
   have hT1:w.heap.size ∉ T':=fun h => hT _ h (by rw [hE]; simp)
   have hT2:w.heap.size + 1 ∉ T':=fun h => hT _ h (by rw [hE]; simp)
   have hLx:=hk'.at hLb hT2
   have hDx:=hk'.at hDb hT1
   have kr:∀ o,Keeps [w.heap.size + 1] W' (W'.putObj (w.heap.size + 1) o):=fun o => (Keeps.refl _ _).put (.inl (by simp)) o
   have kE:∀ o,Keeps (E O) W' (W'.putObj (w.heap.size + 1) o):=fun o => (kr o).mono (fun b _ hb => by rw [List.mem_singleton.1 hb,hE]; simp)
   have kT:∀ o, ∃ T,Keeps T W (W'.putObj (w.heap.size + 1) o) ∧ ∀ b ∈ T,b ∉ O:=fun o => by
    refine ⟨(w.heap.size + 1) :: T', ?_,fun b hb h => ?_⟩
    ·have h1:Keeps ((w.heap.size + 1) :: T') W W' :=
      ((k1.mono (by simp)).trans (kb.mono (by intro k _ h; rw [List.mem_singleton.1 h]; exact List.mem_cons_self))).trans (hk'.mono (fun b _ h => List.mem_cons_of_mem _ h))
     exact h1.trans ((kr o).mono (by intro k _ h; rw [List.mem_singleton.1 h]; exact List.mem_cons_self))
    ·rcases List.mem_cons.1 hb with rfl | hb
     ·exact hn2 h
     ·exact hT b hb (by rw [hE]; simp [h])
   rcases hq with ⟨rfl,hI'⟩ | ⟨rfl,hx'⟩
   ·have hr:=run_endRound (P:=P) none hLx
    rw [hrec] at hr
    refine ⟨_,_,hr, .inl ⟨rfl, ?_,hn1,hn2, ?_, ?_⟩,kT _⟩
    ·exact hI (k + 1) _ _ W' _ hI' (kE _) (fun b hb => .inl hb)
    ·rw [hrec]; exact hLx.put_same _
    ·exact (kr _).at hDx (by simp)
   ·have hr:=run_endRound (P:=P) (some jc) hLx
    rw [hrec] at hr
    have hend:RoundO (fun k O W => I k (E O) W ∧ w.heap.size ∉ O ∧ w.heap.size + 1 ∉ O ∧ At W (w.heap.size + 1) (.loop (rec .ready none)) ∧ At W w.heap.size (.deferred (some []))) (fun O W => Ix (E O) W ∧ w.heap.size ∉ O ∧ w.heap.size + 1 ∉ O ∧ At W (w.heap.size + 1) (.loop (rec .done (some jc))) ∧ At W w.heap.size (.deferred (some []))) k O W (.returned (.bool false)) (W'.putObj (w.heap.size + 1) (.loop (rec .done (some jc)))) :=
     ⟨.inr ⟨rfl,hIx _ _ W' _ hx' (kE _) (fun b hb => .inl hb),hn1,hn2,hLx.put_same _,(kr _).at hDx (by simp)⟩,kT _⟩
    rw [hrec] at hend
    rcases hX with ⟨rfl,rfl⟩ | ⟨id,rfl,rfl⟩
    ·exact ⟨_,_,hr,by rw [hrec]; exact hend⟩
    ·exact ⟨_,_,hr,by rw [hrec]; exact hend⟩
  | exit _ => exact hq.elim
  | goto _ => exact hq.elim
  | ret => exact hq.elim
  | panic _ => exact hq.elim
  | outgrown => exact hq.elim
 ·rintro e W2 ⟨rfl,O,⟨hI2,_,_,hL2,hD2⟩ | ⟨hx2,_,_,hL2,hD2⟩⟩
  ·have hr:=run_endLoop (P:=P) hL2 (by rw [hrec]; simp)
   rw [hrec] at hr
   refine .inl ⟨_,hr,⟨_,hI m _ _ W2 _ hI2 ((Keeps.refl _ _).put (.inl (by rw [hE]; simp)) _) (fun b hb => .inl hb)⟩, ?_⟩
   exact ((Keeps.refl [w.heap.size + 1] W2).put (.inl (by simp)) _).at hD2 (by simp)
  ·have hr:=run_endLoop (P:=P) hL2 (by rw [hrec]; simp)
   rw [hrec] at hr
   refine .inr ⟨_,hr,⟨_,hIx _ _ W2 _ hx2 ((Keeps.refl _ _).put (.inl (by rw [hE]; simp)) _) (fun b hb => .inl hb)⟩, ?_⟩
   exact ((Keeps.refl [w.heap.size + 1] W2).put (.inl (by simp)) _).at hD2 (by simp)
theorem iter_coreS {gf:FuncId} {lb:Array Value} {m:Nat} {args:Nat → Array Value} {Fct:World → Prop} (hIt:IterO P gf lb m args Fct) (f:FuncId) (w:World) (tmps:Array Value) (ps:Array Tmp) (assign body:Code)
  (I:Nat → World → Prop) (Ix:World → Prop) (X:Exit) (jc:Code) (hX:(X = .ret ∧ jc = .ret) ∨ ∃ id,X = .exit id ∧ jc = .exit id)
  (hps:∀ k,(args k).size = ps.size)
  (hF:∀ k W,I k W → Fct W)
  (hI:∀ k W W' T,I k W → Keeps T W W' → (∀ b ∈ T,w.heap.size ≤ b) → I k W')
  (hIx:∀ W W' T,Ix W → Keeps T W W' → (∀ b ∈ T,w.heap.size ≤ b) → Ix W')
  (hround:∀ (k:Nat) (W:World),k < m → I k W → w.heap.size + 2 ≤ W.heap.size →
    assign.wpIn (Fence.wide.inRound (w.heap.size + 1)) 3 P (Exit.then (fun a₁ W₁ => Keeps [] W W₁ ∧ ∀ W₂,Keeps [w.heap.size + 1] W₁ W₂ → W₂.heap.size = W₁.heap.size → LoopAt W₂ (w.heap.size + 1) →
    body.wpIn (Fence.wide.inRound (w.heap.size + 1)) 3 P (fun e _ W' => ((e = .normal ∧ I (k + 1) W') ∨ (e = X ∧ Ix W')) ∧ ∃ T',Keeps T' W₂ W' ∧ ∀ b ∈ T',b < w.heap.size ∨ W.heap.size ≤ b) a₁ W₂) (fun _ _ _ => False))
    { tmps:=(ps.zip (args k)).foldl (fun t (p,v) => t.setIfInBounds p v) tmps,defers:=[] } W)
  (h0:I 0 w) :
  CallsIn Fence.wide 4 P gf (#[.func (.yield (w.heap.size + 1)) #[] #[]] ++ lb) ((w.alloc (.deferred (some []))).alloc (.loop { state:=.ready,pending:=none,fn:=f,tmps,params:=ps,assign,body,defers:=w.heap.size }))
   (loopE P (w.heap.size + 1) w.heap.size (I m) Ix jc):=by
 have bears:∀ K:World → Prop,(∀ W W' T,K W → Keeps T W W' → (∀ b ∈ T,w.heap.size ≤ b) → K W') → Bears (fun O W => K W ∧ w.heap.size ≤ W.heap.size ∧ ∀ b ∈ O,w.heap.size ≤ b):=by
  rintro K hK O O' W W' ⟨h1,h2,h3⟩ hk hO
  refine ⟨hK W W' O h1 hk h3,Nat.le_trans h2 hk.size,fun b hb => ?_⟩
  rcases hO b hb with h | h
  ·exact h3 b h
  ·omega
 refine CallsIn.mono (iter_coreO hIt f w tmps ps assign body (fun k O W => I k W ∧ w.heap.size ≤ W.heap.size ∧ ∀ b ∈ O,w.heap.size ≤ b) (fun O W => Ix W ∧ w.heap.size ≤ W.heap.size ∧ ∀ b ∈ O,w.heap.size ≤ b) X jc hX hps
  (fun k O W h => hF k W h.1) (fun k => bears _ (hI k)) (bears _ hIx) ?_ ⟨h0,Nat.le_refl _,by simp⟩) (fun e w' h => loopE_mono h (fun W ⟨O,h⟩ => h.1) (fun W ⟨O,h⟩ => h.1))
 rintro k O W hk ⟨h1,h2,h3⟩ hlt hm1 hm2 hsz
 refine wpIn_mono (hround k W hk h1 hsz) ?_
 intro e a₁ Wx hq
 cases e with
 | normal =>
  obtain ⟨k1,hb⟩:=hq
  refine ⟨k1,fun W₂ k2 hz hL => wpIn_mono (hb W₂ k2 hz hL) ?_⟩
  rintro e a' W' ⟨hq,T',hk',hT⟩
  have hs:w.heap.size ≤ W'.heap.size:=Nat.le_trans h2 (Nat.le_trans k1.size (Nat.le_trans k2.size hk'.size))
  refine ⟨?_,T',hk',fun b hb h => ?_⟩
  ·rcases hq with ⟨rfl,h⟩ | ⟨rfl,h⟩
   ·exact .inl ⟨rfl,h,hs,h3⟩
   ·exact .inr ⟨rfl,h,hs,h3⟩
  ·rcases hT b hb with h' | h'
   ·have:=h3 b h; omega
   ·have:=hlt b h; omega
 | exit _ => exact hq.elim
 | goto _ => exact hq.elim
 | ret => exact hq.elim
 | panic _ => exact hq.elim
 | outgrown => exact hq.elim
end
end Go.Proofs.YtglpoffbkkdjiaaGreat
