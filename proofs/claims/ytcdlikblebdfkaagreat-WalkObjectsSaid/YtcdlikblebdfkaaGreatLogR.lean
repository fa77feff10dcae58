/- Records, gone over: the iterator's contract, the power staying or going within a round; a loop over it; Undo. -/
import Derived.Test.YtcdlikblebdfkaaGreatLog
import Derived.RangeFuncBound
import Derived.RangeFuncCalls
import Derived.RangeFuncLeaves
import Derived.Shelf.RegionOpen
import Derived.OwnWalkIn
import Derived.TacticsInMore
import Derived.Sort.LoopGhostIn
namespace Go.Proofs.YtcdlikblebdfkaaGreat
open Go.RowKit Go.OpenShut

/-- What a function over records asks of the caller between two rounds: k records have come. -/
structure RecsOk (Bx lb m : Nat) (pl wd : Nat → Int) (J : Nat → World → Prop) : Prop where
  box : ∀ k W, J k W → At W Bx (boxO lb)
  log : ∀ k W, J k W → ∃ (p : Nat) (a : DA) (l u : Int) (S : DS) (c : Cfg) (st : Bool), LW W p a l u S lb c m st ∧ (∀ i, i < m → asInt (S.now (17 + 4 * i)) = pl i ∧ S.now (18 + 4 * i) = wd i) ∧ 16 + 4 * m ≤ a.n
  keep : ∀ k W W', J k W → Keeps [] W W' → J k W'
  few : m ≤ 1000

theorem RecsOk.place {Bx lb m : Nat} {pl wd : Nat → Int} {J : Nat → World → Prop} (h : RecsOk Bx lb m pl wd J) (k i : Nat) (hi : i < m) (z : Int) (hz : z = i) (W : World) (hJ : J k W) :
    Calls Tryz.prog 87 #[ptr lb, .int .i64 z] W fun e w' => e = .returned (.int .i64 (pl i)) ∧ Keeps [] W w' := by
  subst hz
  obtain ⟨p, a, l, u, S, c, st, hL, hv, hn⟩ := h.log k W hJ
  have hf := h.few
  refine (place_at hL i (by omega) (by omega)).mono ?_
  rintro e w' ⟨rfl, hk⟩
  exact ⟨by rw [(hv i hi).1], hk⟩

theorem RecsOk.word {Bx lb m : Nat} {pl wd : Nat → Int} {J : Nat → World → Prop} (h : RecsOk Bx lb m pl wd J) (k i : Nat) (hi : i < m) (z : Int) (hz : z = i) (W : World) (hJ : J k W) :
    Calls Tryz.prog 88 #[ptr lb, .int .i64 z, .int .i64 2] W fun e w' => e = .returned (.int .u64 (wd i)) ∧ Keeps [] W w' := by
  subst hz
  obtain ⟨p, a, l, u, S, c, st, hL, hv, hn⟩ := h.log k W hJ
  have hf := h.few
  refine (word_at hL i 2 (by omega) (by omega) (by omega)).mono ?_
  rintro e w' ⟨rfl, hk⟩
  refine ⟨?_, hk⟩
  rw [← (hv i hi).2, show 16 + 4 * i + 2 = 18 + 4 * i by omega]

/-- How the function over records ends. -/
def RecsEnd (J : Nat → World → Prop) (Jx : World → Prop) (m : Nat) (e : Ending) (w' : World) : Prop :=
  (e = .returned (.tuple #[]) ∧ J m w') ∨ (e = .panicked [{ v := goneV, recovered := false }] ∧ Jx w')
def RoundEnd (J : Nat → World → Prop) (Jx : World → Prop) (k : Nat) (e : Ending) (w' : World) : Prop :=
  (e = .returned (.bool true) ∧ J (k + 1) w') ∨ (e = .panicked [{ v := goneV, recovered := false }] ∧ Jx w')

set_option maxRecDepth 100000 in
set_option maxHeartbeats 4000000 in
theorem recs_in (l Bx lb m : Nat) (pl wd : Nat → Int) (J : Nat → World → Prop) (Jx : World → Prop) (h : RecsOk Bx lb m pl wd J)
    (hY : ∀ k i W, k < m → i = m - 1 - k → J k W → YieldAt Fence.wide 3 Tryz.prog l #[.int .i64 (pl i), .int .u64 (wd i)] W (RoundEnd J Jx k)) (W : World) (h0 : J 0 W) :
    CallsIn Fence.wide 4 Tryz.prog 86 #[.func (.yield l) #[] #[], ptr Bx] W (RecsEnd J Jx m) := by
  have hmix : Tryz.prog.follows .mixedOrders = true := by kernel_rfl
  have c0 := (h.box 0 W h0).cell 0 rfl
  obtain ⟨p, a, l', u, S, c, st, hL, _, _⟩ := h.log 0 W h0
  have c4 := hL.log.cell 4 rfl
  have hf := h.few
  have hmi : (m : Int) ≤ 1000 := by omega
  have H := hid h
  have HY := hid hY
  clear hL hY h hf
  refine callsIn_of_wp Tryz.func86 rfl trivial ?_ rfl
  simp only [Tryz.ntmps86, List.size_toArray, List.length_cons, List.length_nil, Nat.reduceAdd, Nat.reduceSub, Array.replicate_succ, Array.replicate_zero, List.push_toArray, List.append_toArray, List.nil_append, List.cons_append]
  gi_wp2
  clear c0 c4
  gi_loopg [3] m (fun r s wr => ∃ k : Nat, ∃ z : Int, k + r = m ∧ z = (m : Int) - 1 - k ∧ s = .int .i64 z ∧ J k wr)
  case atStart => exact ⟨0, (m : Int) - 1, by omega, by omega, rfl, h0⟩
  case round =>
    obtain ⟨k, z, hk, hz, rfl, hJ⟩ := hrel
    by_cases hlt : k < m
    · obtain ⟨i, hi⟩ : ∃ i, i = m - 1 - k := ⟨_, rfl⟩
      have hzi : z = (i : Int) := by omega
      have him : i < m := by omega
      have hz0 : decide (0 ≤ z) = true := by rw [decide_eq_true_eq]; omega
      have hz1 : z ≤ 1000 := by omega
      have hz2 : 0 ≤ z := by omega
      have HP := hid (H.out.place k i him z hzi)
      have HW := hid (H.out.word k i him z hzi)
      have hJd := H.out.keep k _ _ hJ ((Keeps.refl [] wr).drew)
      have cd := (H.out.box k _ hJd).cell 0 rfl
      have HZ := hid (And.intro hz (And.intro hk hi))
      clear hz hk hi hzi
      gi_wp2
      gi_region_with_o (first
        | (refine ⟨trivial, ?_⟩; gi_at_call 87; refine (callsIn_wide.2 (HP.out _ (by assumption))).mono ?_; rintro e W2 ⟨rfl, hk2⟩; have hJ2 := H.out.keep _ _ _ (by assumption) hk2; have cd2 := (H.out.box _ _ hJ2).cell 0 rfl; clear hk2)
        | (refine ⟨trivial, ?_⟩; gi_at_call 88; refine (callsIn_wide.2 (HW.out _ (by assumption))).mono ?_; rintro e W3 ⟨rfl, hk3⟩; have hJ3 := H.out.keep _ _ _ (by assumption) hk3; clear hk3; obtain ⟨fn, tmps, assign, body, hy, hR⟩ := HY.out k i _ hlt HZ.out.2.2 hJ3)
        | (refine hR.mono ?_; rintro e W4 (⟨rfl, hJ4⟩ | ⟨rfl, hx4⟩); rotate_left; exact ⟨rfl, .inr ⟨rfl, hx4⟩⟩))
      all_goals
        gi_wp2
        gi_roundg (m - (k + 1))
        case measure => have := HZ.out; omega
        case rel => exact ⟨k + 1, z - 1, by have := HZ.out; omega, by have := HZ.out; omega, rfl, hJ4⟩
    · have hkm : k = m := by omega
      have hz0 : decide (0 ≤ z) = false := by rw [decide_eq_false_iff_not]; omega
      have hzb : z < 0 := by omega
      clear hz
      gi_wp2
      go_end0
      exact .inl ⟨rfl, by rw [← hkm]; exact hJ⟩

/-! Statements within one function's frames: a round that is left by a panic asks that its function is one. -/

/-- What is asked at a round's end: the record goes on; or the power went within. -/
def roundP (P : Program) (l : Nat) (R : Ending → World → Prop) : Exit → Act → World → Prop
  | .normal, _, w => ∃ v w', (Instr.endRound l none).run P w = .ok v w' ∧ R (.returned v) w'
  | .panic chain, a, w => a.defers = [] ∧ R (.panicked chain) w
  | _, _, _ => False

section
variable {P : Program} {n : Nat}

theorem roundIn_p {l : Nat} {f : FuncId} {tmps : Array Value} {assign body : Code} {w : World} {R : Ending → World → Prop} (hf : (∃ fn, P.funcs[f]? = some fn) ∨ ∀ ch w, ¬ R (.panicked ch) w)
    (h : assign.wpIn (Fence.wide.inRound l) n P (Exit.then (fun a₁ w₁ => ∃ w₂, (Instr.beginRound l).run P w₁ = .ok () w₂ ∧ body.wpIn (Fence.wide.inRound l) n P (roundP P l R) a₁ w₂) (fun _ _ _ => False)) { tmps := tmps, defers := [] } w) :
    RoundIn Fence.wide n P l f tmps assign body w R := by
  refine ⟨trivial, fun c cs hr => ?_⟩
  let b : Frame := { (default : Frame) with fn := f, kind := .normal, roundOf := some l }
  have hb0 : Frame.round l f tmps assign body .normal = b.atR { tmps := tmps, defers := [] } [.code assign, .beginRound, .code body] := by
    simp [Frame.round, Frame.atR, b]
  obtain ⟨e, a₁, w₁, hq, harr⟩ := h b [.beginRound, .code body] (c :: cs) rfl trivial (room_wide _)
  rw [← hb0] at harr
  cases e with
  | normal =>
    obtain ⟨w₂, hbr, hbody⟩ := hq
    have s1 : StepsIn (Machine.fenced P (Fence.wide.inRound l)) P (lone (b.atR a₁ [.beginRound, .code body]) (c :: cs) w₁) (lone (b.atR a₁ [.code body]) (c :: cs) w₂) := .one (fenced_wide _ _) (stepR_beginRound rfl hbr)
    obtain ⟨e₂, a₂, w₃, hq₂, harr₂⟩ := hbody b [] (c :: cs) rfl trivial (room_wide _)
    cases e₂ with
    | normal =>
      obtain ⟨v, w₄, hend, hR⟩ := hq₂
      exact ⟨.returned v, w₄, hR, (StepsIn.trans harr s1).trans (StepsIn.trans harr₂ (.one (fenced_wide _ _) (stepR_round_end rfl rfl hend)))⟩
    | panic chain =>
      obtain ⟨hd, hR⟩ := hq₂
      obtain ⟨todo, hs⟩ := harr₂
      replace hf := hf.resolve_right fun hn => hn _ _ hR
      refine ⟨.panicked chain, w₃, hR, (StepsIn.trans harr s1).trans (StepsIn.trans hs (.one (fenced_wide _ _) (step_leave_panicked ⟨rfl, ?_, hf⟩)))⟩
      simpa [Frame.atR] using hd
    | ret => exact hq₂.elim
    | exit id => exact hq₂.elim
    | goto t => exact hq₂.elim
    | outgrown => exact hq₂.elim
  | exit id => exact hq.elim
  | goto t => exact hq.elim
  | ret => exact hq.elim
  | panic chain => exact hq.elim
  | outgrown => exact hq.elim

/-- A walk in frames of one function alone. -/
def WpAt (f : FuncId) (P : Program) (c : Code) (Q : Exit → Act → World → Prop) (a : Act) (w : World) : Prop :=
  ∀ (b : Frame) (k : List Item) (cs : List Frame), b.fn = f → b.roundOf = none → ∃ e a' w', Q e a' w' ∧ ArrivesIn (Machine.fenced P Fence.wide) P (lone (b.atR a (.code c :: k)) cs w) b k cs e a' w'

variable {f : FuncId} {Q : Exit → Act → World → Prop} {a : Act} {w : World}

theorem WpAt.of_wp {c : Code} (h : c.wp P Q a w) : WpAt f P c Q a w :=
  fun b k cs _ hro => (wpIn_wide (n := 4)).2 h b k cs hro trivial (room_wide _)

theorem WpAt.seq {x y : Code} (h : WpAt f P x (Exit.then (WpAt f P y Q) Q) a w) : WpAt f P (Code.seq x y) Q a w := by
  intro b k cs hf hro
  have one : StepsIn (Machine.fenced P Fence.wide) P (lone (b.atR a (.code (.seq x y) :: k)) cs w) (lone (b.atR a (.code x :: .code y :: k)) cs w) := .one (fenced_wide _ _) stepR_seq
  obtain ⟨e, a₁, w₁, hq, harr⟩ := h b (.code y :: k) cs hf hro
  by_cases he : e = .normal
  · subst he
    obtain ⟨e₂, a₂, w₂, hq₂, harr₂⟩ := hq b k cs hf hro
    exact ⟨e₂, a₂, w₂, hq₂, .of_steps (StepsIn.trans one harr) harr₂⟩
  · have hq' : Q e a₁ w₁ := by cases e <;> first | exact hq | exact absurd rfl he
    exact ⟨e, a₁, w₁, hq', .of_steps one (.pass (x := .code y) rfl (fun _ _ => .inl he) harr)⟩

/-- A block whose code goes on, or ends as the power goes. -/
theorem WpAt.block {id : Nat} {c : Code} (h : WpAt f P c (fun e a' w' => (e = .normal ∨ ∃ ch, e = .panic ch) ∧ Q e a' w') a w) : WpAt f P (Code.block id c) Q a w := by
  intro b k cs hf hro
  have one : StepsIn (Machine.fenced P Fence.wide) P (lone (b.atR a (.code (.block id c) :: k)) cs w) (lone (b.atR a (.code c :: .inBlock id :: k)) cs w) := .one (fenced_wide _ _) stepR_block
  obtain ⟨e, a₁, w₁, ⟨he, hq⟩, harr⟩ := h b (.inBlock id :: k) cs hf hro
  rcases he with rfl | ⟨ch, rfl⟩
  · exact ⟨.normal, a₁, w₁, hq, StepsIn.trans one (StepsIn.trans harr (.one (fenced_wide _ _) stepR_inBlock))⟩
  · exact ⟨.panic ch, a₁, w₁, hq, .of_steps one harr⟩

/-- The statement itself. -/
theorem WpAt.range {g : Operand} {ps : Array Tmp} {assign body : Code} {gf : FuncId} {lb : Array Value} (hg : a.eval g = .func (.func gf) #[] lb) (eg : ∀ args w, (callFunc gf args).run P w = .ok (.enter gf args) w)
    (h : CallsIn Fence.wide 4 P gf (#[.func (.yield (w.heap.size + 1)) #[] #[]] ++ lb) ((w.alloc (.deferred (some []))).alloc (.loop { state := .ready, pending := none, fn := f, tmps := a.tmps, params := ps, assign, body, defers := w.heap.size }))
      fun e w₃ => match e with
        | .returned _ => ∃ w₄, (Instr.endLoop (w.heap.size + 1)).run P w₃ = .ok none w₄ ∧ Q .normal { a with defers := { target := .collected w.heap.size, args := #[] } :: a.defers } w₄
        | .panicked chain => Q (.panic chain) { a with defers := { target := .collected w.heap.size, args := #[] } :: a.defers } w₃
        | .outgrown => False) :
    WpAt f P (Code.rangeFunc g ps assign body) Q a w := by
  intro b k cs hf hro
  have he := run_enterLoop_outer (P := P) (w := w) b.fn a.tmps ps assign body
  rw [hf] at he
  have he' : (Instr.enterLoop b.fn a.tmps ps assign body b.roundOf).run P w = .ok (w.heap.size + 1, [{ target := .collected w.heap.size, args := #[] }]) ((w.alloc (.deferred (some []))).alloc (.loop { state := .ready, pending := none, fn := f, tmps := a.tmps, params := ps, assign, body, defers := w.heap.size })) := by
    rw [hro, hf]; exact he
  obtain ⟨W1, hW1⟩ : ∃ W1, W1 = (w.alloc (.deferred (some []))).alloc (.loop { state := .ready, pending := none, fn := f, tmps := a.tmps, params := ps, assign, body, defers := w.heap.size }) := ⟨_, rfl⟩
  rw [← hW1] at he' h
  have hres : (resolve a.eval (rangeCall g (w.heap.size + 1)) 0).run P W1 = .ok { target := .fn (.func gf) lb, args := #[.func (.yield (w.heap.size + 1)) #[] #[]] } W1 := by
    simp only [resolve, hg]
    simp [go_sem]
  have hinv : (invoke (.fn (.func gf) lb) #[.func (.yield (w.heap.size + 1)) #[] #[]]).run P W1 = .ok (.enter gf (#[.func (.yield (w.heap.size + 1)) #[] #[]] ++ lb)) W1 := by
    simp [invoke, go_sem, eg]
  have henter := stepR_rangeFunc (P := P) (b := b) (a := a) (k := k) (cs := cs) (w := w) he' hres hinv
  obtain ⟨e, w₃, fr, hR, hsteps, hfn, hleave⟩ := h.2 (b.atR { a with defers := { target := .collected w.heap.size, args := #[] } :: a.defers } (.inRangeFunc (w.heap.size + 1) :: k) :: cs) (room_wide _)
  cases e with
  | outgrown => exact hR.elim
  | returned v =>
    obtain ⟨w₄, hend, hj⟩ := hR
    refine ⟨.normal, _, w₄, hj, .head (fenced_wide _ _) henter (StepsIn.trans hsteps (.head (fenced_wide _ _) (step_leave_returned hleave) ?_))⟩
    rw [finish_atR_inRangeFunc]
    exact .one (fenced_wide _ _) (stepR_endRangeFunc hend)
  | panicked chain =>
    refine ⟨.panic chain, _, w₃, hR, .inRangeFunc (w.heap.size + 1) :: k, .head (fenced_wide _ _) henter (StepsIn.trans hsteps (.one (fenced_wide _ _) ?_))⟩
    rw [← Frame.raise_atR]; exact step_leave_panicked hleave

/-- A function's contract from its body, marks and all. -/
theorem callsAt_marks {fn : Func} {c : Code} {args : Array Value} {R : Ending → World → Prop} (hf : P.funcs[f]? = some fn) (hb : fn.body = some c)
    (h : WpAt f P c (bodyPostM Fence.wide 4 P fn R) { tmps := args ++ Array.replicate (fn.ntmps - args.size) undef, defers := [] } w) : Calls P f args w R := by
  refine (callsIn_wide (n := 4)).1 ⟨trivial, fun cs _ => ?_⟩
  let b : Frame := { (default : Frame) with fn := f, kind := .normal, roundOf := none }
  have henter : Frame.enter P f args .normal = b.atR { tmps := args ++ Array.replicate (fn.ntmps - args.size) undef, defers := [] } [.code c] := by
    simp [Frame.enter, Frame.atR, hf, hb, b]
  obtain ⟨e, a', w', hq, harr⟩ := h b [] cs rfl rfl
  rw [← henter] at harr
  cases e with
  | normal =>
    obtain ⟨e', w'', fr', hR, hs, hfn, hl⟩ := leaves_stepsInM a'.defers .returning w' { b.atR a' [] with mode := .returning } cs rfl rfl rfl hf rfl trivial (room_wide _) hq
    exact ⟨e', w'', fr', hR, ComesIn.of_steps (StepsIn.trans harr (.one (fenced_wide _ _) (stepR_end rfl))) hs, hfn, hl⟩
  | ret =>
    obtain ⟨todo, hs₀⟩ := harr.1 rfl
    obtain ⟨e', w'', fr', hR, hs, hfn, hl⟩ := leaves_stepsInM a'.defers .returning w' { b.atR a' todo with mode := .returning } cs rfl rfl rfl hf rfl trivial (room_wide _) hq
    exact ⟨e', w'', fr', hR, ComesIn.of_steps hs₀ hs, hfn, hl⟩
  | panic chain =>
    obtain ⟨todo, hs₀⟩ := harr
    obtain ⟨e', w'', fr', hR, hs, hfn, hl⟩ := leaves_stepsInM a'.defers (.panicking chain) w' { b.atR a' todo with mode := .panicking chain } cs rfl rfl rfl hf rfl trivial (room_wide _) hq
    exact ⟨e', w'', fr', hR, ComesIn.of_steps hs₀ hs, hfn, hl⟩
  | exit id => exact hq.elim
  | goto l => exact hq.elim
  | outgrown => exact ⟨.outgrown, w', b, hq, harr.resolve_left (by simp [b]), rfl, trivial⟩

end

theorem At.put_same {w : World} {r : Nat} {o : Obj} (o' : Obj) (h : At w r o) : At (w.putObj r o') r o' := World.putObj_heap_same h.lt
theorem Keeps.put {T : List Nat} {a b : World} (h : Keeps T a b) {r : Nat} (hr : r ∈ T ∨ a.heap.size ≤ r) (o : Obj) : Keeps T a (b.putObj r o) :=
  ⟨h.os, h.tape, h.output, by rw [World.putObj_size]; exact h.size, fun k hk hs => by
    rw [World.putObj_heap_other (by rintro rfl; rcases hr with hr | hr; exact hs hr; omega)]
    exact h.block k hk hs⟩

/-- A loop over a log's records: what it comes to. -/
theorem recs_core (f : FuncId) (w : World) (tmps : Array Value) (ps : Array Tmp) (assign body : Code) (Bx lb m : Nat) (pl wd : Nat → Int) (I : Nat → World → Prop) (Ix : World → Prop) (T : List Nat) (a₁ : Nat → Act) (hT : ∀ b ∈ T, b < w.heap.size) (hps : ps.size = 2)
    (hf : (∃ fn, Tryz.prog.funcs[f]? = some fn) ∨ ∀ w, ¬ Ix w)
    (hbox : ∀ k W, I k W → At W Bx (boxO lb))
    (hlog : ∀ k W, I k W → ∃ (p : Nat) (a : DA) (l u : Int) (S : DS) (c : Cfg) (st : Bool), LW W p a l u S lb c m st ∧ (∀ i, i < m → asInt (S.now (17 + 4 * i)) = pl i ∧ S.now (18 + 4 * i) = wd i) ∧ 16 + 4 * m ≤ a.n) (hm : m ≤ 1000)
    (hI : ∀ k W W' T', I k W → Keeps T' W W' → (∀ b ∈ T', w.heap.size ≤ b) → I k W')
    (hassign : ∀ (l i : Nat) (W : World) (K : Act → World → Prop), K (a₁ i) W → assign.wpIn (Fence.wide.inRound l) 3 Tryz.prog (Exit.then K (fun _ _ _ => False)) { tmps := (ps.zip #[.int .i64 (pl i), .int .u64 (wd i)]).foldl (fun t (p, v) => t.setIfInBounds p v) tmps, defers := [] } W)
    (hbody : ∀ (l k i : Nat) (W : World), k < m → i = m - 1 - k → I k W → body.wpIn (Fence.wide.inRound l) 3 Tryz.prog (fun e a' W' => (e = .normal ∧ I (k + 1) W' ∧ Keeps T W W') ∨ (e = .panic [{ v := goneV, recovered := false }] ∧ a'.defers = [] ∧ Ix W' ∧ Keeps T W W')) (a₁ i) W)
    (h0 : I 0 w) :
    CallsIn Fence.wide 4 Tryz.prog 86 (#[.func (.yield (w.heap.size + 1)) #[] #[]] ++ #[ptr Bx]) ((w.alloc (.deferred (some []))).alloc (.loop { state := .ready, pending := none, fn := f, tmps, params := ps, assign, body, defers := w.heap.size }))
      fun e w₃ => match e with
        | .returned _ => ∃ w₄, (Instr.endLoop (w.heap.size + 1)).run Tryz.prog w₃ = .ok none w₄ ∧ I m w₄ ∧ At w₄ w.heap.size (.deferred (some []))
        | .panicked chain => chain = [{ v := goneV, recovered := false }] ∧ Ix w₃ ∧ At w₃ w.heap.size (.deferred (some []))
        | .outgrown => False := by
  obtain ⟨rec, hrec⟩ : ∃ rec : LoopState → Loop, rec = fun st => { state := st, pending := none, fn := f, tmps, params := ps, assign, body, defers := w.heap.size } := ⟨_, rfl⟩
  obtain ⟨W1, hW1⟩ : ∃ W1, W1 = (w.alloc (.deferred (some []))).alloc (.loop (rec .ready)) := ⟨_, rfl⟩
  have hL1 : At W1 (w.heap.size + 1) (.loop (rec .ready)) := by
    rw [hW1]
    have := At.new (w.alloc (.deferred (some []))) (.loop (rec .ready))
    rwa [World.size_alloc] at this
  have hD1 : At W1 w.heap.size (.deferred (some [])) := by rw [hW1]; exact (At.new w _).alloc _
  have hI1 : I 0 W1 := hI 0 w W1 [] h0 (by rw [hW1]; exact ((Keeps.refl [] w).alloc _).alloc _) (by simp)
  rw [show (w.alloc (.deferred (some []))).alloc (.loop { state := .ready, pending := none, fn := f, tmps, params := ps, assign, body, defers := w.heap.size }) = W1 by rw [hW1, hrec]]
  have H : RecsOk Bx lb m pl wd (fun k W => I k W ∧ At W (w.heap.size + 1) (.loop (rec .ready)) ∧ At W w.heap.size (.deferred (some []))) := {
    box := fun k W h => hbox k W h.1
    log := fun k W h => hlog k W h.1
    keep := fun k W W' h hk => ⟨hI k W W' [] h.1 hk (by simp), hk.at h.2.1 (by simp), hk.at h.2.2 (by simp)⟩
    few := hm }
  refine (recs_in (w.heap.size + 1) Bx lb m pl wd _ (fun W => Ix W ∧ At W w.heap.size (.deferred (some []))) H ?_ W1 ⟨hI1, hL1, hD1⟩).mono ?_
  · rintro k i W hk hi ⟨hIk, hL, hD⟩
    have hlt := hL.lt
    have hy := run_yield (P := Tryz.prog) (args := #[.int .i64 (pl i), .int .u64 (wd i)]) hL (by rw [hrec]; exact hps.symm)
    rw [hrec] at hy
    refine ⟨f, _, assign, body, hy, roundIn_p ?_ (hassign _ i W _ ⟨_, run_beginRound hL (by rw [hrec]), ?_⟩)⟩
    · rcases hf with hf | hf
      · exact .inl hf
      · refine .inr fun ch w' hr => ?_
        rcases hr with ⟨h, _⟩ | ⟨_, h, _⟩
        · cases h
        · exact hf _ h
    · have kb : Keeps [w.heap.size + 1] W (W.putObj (w.heap.size + 1) (.loop { rec .ready with state := .busy })) := (Keeps.refl _ _).put (.inl (by simp)) _
      have hLb := hL.put_same (.loop { rec .ready with state := .busy })
      have hDb := kb.at hD (by simp)
      have hIb := hI k W _ _ hIk kb (by simp)
      refine wpIn_mono (hbody _ k i _ hk hi hIb) ?_
      rintro e a' W' (⟨rfl, hI', hk'⟩ | ⟨rfl, hd', hx', hk'⟩)
      · have hLx := hk'.at hLb (fun hm => by have := hT _ hm; omega)
        have hDx := hk'.at hDb (fun hm => by have := hT _ hm; omega)
        have hr := run_endRound (P := Tryz.prog) none hLx
        rw [hrec] at hr
        refine ⟨_, _, hr, .inl ⟨rfl, ?_, ?_, ?_⟩⟩
        · exact hI (k + 1) W' _ [w.heap.size + 1] hI' ((Keeps.refl _ _).put (.inl (by simp)) _) (by simp)
        · rw [hrec]; exact hLx.put_same _
        · exact ((Keeps.refl [w.heap.size + 1] W').put (.inl (by simp)) _).at hDx (by simp)
      · exact ⟨hd', .inr ⟨rfl, hx', hk'.at hDb (fun hm => by have := hT _ hm; omega)⟩⟩
  · rintro e W2 (⟨rfl, hI2, hL2, hD2⟩ | ⟨rfl, hx2, hD2⟩)
    · have hr := run_endLoop (P := Tryz.prog) hL2 (by rw [hrec]; simp)
      rw [hrec] at hr
      refine ⟨_, hr, ?_, ?_⟩
      · exact hI m W2 _ [w.heap.size + 1] hI2 ((Keeps.refl _ _).put (.inl (by simp)) _) (by simp)
      · exact ((Keeps.refl [w.heap.size + 1] W2).put (.inl (by simp)) _).at hD2 (by simp)
    · exact ⟨rfl, hx2, hD2⟩

theorem WpAt.seq_k {P : Program} {f : FuncId} {Q : Exit → Act → World → Prop} {a : Act} {w : World} {x y : Code} (h : ∀ K : Act → World → Prop, (∀ a w, WpAt f P y Q a w → K a w) → x.wp P (Exit.then K Q) a w) : WpAt f P (Code.seq x y) Q a w :=
  WpAt.seq (.of_wp (h _ fun _ _ h => h))

/-- What Undo's loop does in its first k rounds. -/
def undP (pl : Nat → Nat) (wd : Nat → Int) (m k : Nat) : List Cmd := (List.range k).flatMap fun j => [.st (pl (m - 1 - j)) (wd (m - 1 - j)), .fl (pl (m - 1 - j))]

theorem undP_zero (pl : Nat → Nat) (wd : Nat → Int) (m : Nat) : undP pl wd m 0 = [] := rfl
theorem undP_succ (pl : Nat → Nat) (wd : Nat → Int) (m k : Nat) : undP pl wd m (k + 1) = undP pl wd m k ++ [.st (pl (m - 1 - k)) (wd (m - 1 - k)), .fl (pl (m - 1 - k))] := by
  simp [undP, List.range_succ]
theorem undP_len (pl : Nat → Nat) (wd : Nat → Int) (m : Nat) : ∀ k, (undP pl wd m k).length = 2 * k
  | 0 => rfl
  | k + 1 => by rw [undP_succ, List.length_append, undP_len pl wd m k]; simp; omega
theorem undP_split (pl : Nat → Nat) (wd : Nat → Int) (m : Nat) {k n : Nat} (h : k ≤ n) : ∃ R, undP pl wd m n = undP pl wd m k ++ R := by
  induction n with
  | zero => obtain rfl : k = 0 := by omega
            exact ⟨[], by simp⟩
  | succ n ih =>
    rcases Nat.lt_or_ge k (n + 1) with h1 | h1
    · obtain ⟨R, hR⟩ := ih (by omega)
      exact ⟨R ++ [.st (pl (m - 1 - n)) (wd (m - 1 - n)), .fl (pl (m - 1 - n))], by rw [undP_succ, hR, List.append_assoc]⟩
    · obtain rfl : k = n + 1 := by omega
      exact ⟨[], by simp⟩
theorem undP_mem {pl : Nat → Nat} {wd : Nat → Int} {m k : Nat} (hk : k ≤ m) {y : Cmd} (h : y ∈ undP pl wd m k) : ∃ i, i < m ∧ (y = .st (pl i) (wd i) ∨ y = .fl (pl i)) := by
  simp only [undP, List.mem_flatMap, List.mem_range, List.mem_cons, List.not_mem_nil, or_false] at h
  obtain ⟨j, hj, h⟩ := h
  exact ⟨m - 1 - j, by omega, h⟩

/-- What Undo does. -/
def undL (c : Cfg) (st : Bool) (pl : Nat → Nat) (wd : Nat → Int) (m e : Nat) : List Cmd := sL c st ++ (undP pl wd m m ++ ([Cmd.fe] ++ truL c true e))

theorem und_cut {l u : Int} {S S' : DS} {c : Cfg} {st : Bool} {pl : Nat → Nat} {wd : Nat → Int} {m k e : Nat} (hk : k < m)
    (h : Cut l (u + ((sL c st).length : Int) + ((undP pl wd m k).length : Int)) (execs (execs S (sL c st)) (undP pl wd m k)) [.st (pl (m - 1 - k)) (wd (m - 1 - k)), .fl (pl (m - 1 - k))] S') : Cut l u S (undL c st pl wd m e) S' := by
  obtain ⟨R, hR⟩ := undP_split pl wd m (show k + 1 ≤ m from hk)
  have h1 := Cut.left (Cut.right (A := undP pl wd m k) (Cut.left h R) rfl rfl) ([Cmd.fe] ++ truL c true e)
  have e1 : undP pl wd m m = undP pl wd m k ++ ([.st (pl (m - 1 - k)) (wd (m - 1 - k)), .fl (pl (m - 1 - k))] ++ R) := by rw [hR, undP_succ, List.append_assoc]
  rw [← e1] at h1
  exact Cut.right (A := sL c st) h1 rfl rfl

section
variable {w : World} {p : Nat} {a : DA} {l u : Int} {S : DS} {lb : Nat} {c : Cfg} {cnt : Nat} {st : Bool}

set_option maxHeartbeats 1000000 in
theorem undo_zero (h : LW w p a l u S lb c 0 st) :
    Calls Tryz.prog 79 #[ptr lb] w (RanL p a l u S lb c 0 st [] (.tuple #[]) w) := by
  have hn := h.keep0 ((Keeps.refl [] w).alloc (boxO lb))
  have K0 : Keeps [p, a.s, a.k, a.m, lb] w (w.alloc (boxO lb)) := (Keeps.refl _ _).alloc _
  have c4 := hn.log.cell 4 rfl
  refine callsAt_marks Tryz.func79 rfl ?_
  simp only [Tryz.ntmps79, List.size_toArray, List.length_cons, List.length_nil, Nat.reduceAdd, Nat.reduceSub, Array.replicate_succ, Array.replicate_zero, List.push_toArray, List.append_toArray, List.nil_append, List.cons_append]
  refine WpAt.seq_k fun K hK => ?_
  go_wp2_with fail
  refine WpAt.seq_k fun K hK => ?_
  go_wp2_with fail
  refine ⟨.tuple #[], ?_, ranL_end hn (by simp) rfl K0⟩
  simp [results, Tryz.results79, go_sem]

set_option maxRecDepth 100000 in
set_option maxHeartbeats 4000000 in
theorem undo_ran (h : LW w p a l u S lb c cnt st) (hs : c.Small) (x : Nat) (hx : x < 18446744073709551616) (h8 : S.now 8 = x) (hc : 0 < cnt) (hcl : cnt ≤ c.log) (hn : c.act < a.n) (hb : u < 4611686018427350000)
    (pl : Nat → Nat) (wd : Nat → Int) (hr : ∀ i, i < cnt → S.now (17 + 4 * i) = (pl i : Int) ∧ S.now (18 + 4 * i) = wd i ∧ c.act ≤ pl i ∧ pl i < a.n) :
    Calls Tryz.prog 79 #[ptr lb] w (RanL p a l u S lb c 0 true (undL c st pl wd cnt (epN x)) (.tuple #[]) w) := by
  have h0 := h.pw.lo
  have hl200 := hs.2.1
  have hact : 16 + 4 * c.log ≤ c.act := (up8_le (16 + 4 * c.log)).1
  have hsl := sL_len hs st
  have hfew := h.pw.dev.few
  have hn8 := a.n8
  have hne : ((cnt : Int) == 0) = false := by rw [beq_eq_false_iff_ne]; omega
  have HB := hid (show 16 + 4 * cnt ≤ a.n ∧ cnt ≤ 1000 ∧ c.act ≤ a.n ∧ 8 < a.n ∧ cnt ≤ 200 by omega)
  have HA := hid (show 16 + 4 * cnt ≤ c.act ∧ a.n ≤ 17592186044416 by omega)
  have H8 := hid h8
  have HR := hid hr
  have hn1 := h.keep0 ((Keeps.refl [] w).alloc (boxO lb))
  have K1 : Keeps [p, a.s, a.k, a.m, lb] w (w.alloc (boxO lb)) := (Keeps.refl _ _).alloc _
  have hB1 := At.new w (boxO lb)
  have hz1 : (w.alloc (boxO lb)).heap.size = w.heap.size + 1 := by simp
  have c4 := hn1.log.cell 4 rfl
  have b0 := hB1.cell 0 rfl
  clear h8 hr hl200 hact hfew hn8 hc hcl hn
  refine callsAt_marks Tryz.func79 rfl ?_
  simp only [Tryz.ntmps79, List.size_toArray, List.length_cons, List.length_nil, Nat.reduceAdd, Nat.reduceSub, Array.replicate_succ, Array.replicate_zero, List.push_toArray, List.append_toArray, List.nil_append, List.cons_append]
  refine WpAt.seq_k fun K hK => ?_
  go_wp2_with fail
  refine WpAt.seq_k fun K hK => ?_
  go_wp2_with fail
  clear c4
  obtain ⟨wa, hwa⟩ : ∃ wa, wa = w.alloc (boxO lb) := ⟨_, rfl⟩
  obtain ⟨bu, hbu⟩ : ∃ bu, bu = w.heap.size := ⟨_, rfl⟩
  first | rw [← hwa] at hn1 K1 hB1 hz1 b0 ⊢ | skip
  rw [← hbu] at hB1 hz1 b0 ⊢
  have HBU := hid hbu
  clear hwa hbu
  refine WpAt.seq_k fun K hK => ?_
  go_wp2_with fail
  refine (settle_ran hn1 hs HB.out.2.2.1 (by omega)).mono ?_
  rintro e w2 (⟨rfl, h2, k2⟩ | ⟨rfl, ⟨S', d2, h2⟩, k2⟩)
  rotate_left
  · exact ranL_cut h2 (d2.left _) (K1.trans k2)
  have l1 := h.pw.pow.lt
  have l2 := h.pw.dev.dev.lt
  have l3 := h.pw.dev.now.lt
  have l4 := h.pw.dev.kept.lt
  have l5 := h.pw.dev.map.lt
  have l6 := h.log.lt
  have lz : w.heap.size ≤ w2.heap.size := Nat.le_trans K1.size k2.size
  have hB2 := k2.at hB1 (by have := HBU.out; simp; omega)
  have K2 := K1.trans k2
  have e2 := sL_now c st S
  obtain ⟨S2, hS2⟩ : ∃ S2, S2 = execs S (sL c st) := ⟨_, rfl⟩
  rw [← hS2] at h2 e2
  have HS2 := hid hS2
  clear hS2 b0 hB1 K1 k2 hn1
  have b0 := hB2.cell 0 rfl
  go_wp2_with fail
  refine WpAt.seq ?_
  refine WpAt.seq_k fun K hK => ?_
  go_wp2_with fail
  refine (records_at w2 lb).mono ?_
  rintro e w3 ⟨rfl, rfl⟩
  go_wp2_with fail
  clear b0
  have h3 := h2.keep0 ((Keeps.refl [] w2).alloc (boxO lb))
  have hB3 := hB2.alloc (boxO lb)
  have hX3 := At.new w2 (boxO lb)
  have K3 := K2.alloc (boxO lb)
  have hz3 : (w2.alloc (boxO lb)).heap.size = w2.heap.size + 1 := by simp
  obtain ⟨bx, hbx⟩ : ∃ bx, bx = w2.heap.size := ⟨_, rfl⟩
  obtain ⟨w3, hw3⟩ : ∃ w3, w3 = w2.alloc (boxO lb) := ⟨_, rfl⟩
  rw [← hw3] at h3 hB3 hX3 K3 hz3
  rw [← hbx] at hX3 hz3
  first | rw [← hw3, ← hbx] | (rw [← hw3]) | skip
  refine WpAt.block ?_
  have lz3 : w.heap.size ≤ w3.heap.size := K3.size
  have hlow : p < w3.heap.size ∧ a.d < w3.heap.size ∧ a.s < w3.heap.size ∧ a.k < w3.heap.size ∧ a.m < w3.heap.size ∧ lb < w3.heap.size ∧ bu < w3.heap.size ∧ bx < w3.heap.size := ⟨by omega, by omega, by omega, by omega, by omega, by omega, hB3.lt, hX3.lt⟩
  have hsubt : ∀ b ∈ [p, a.s, a.k, a.m], b < w3.heap.size := by
    intro b hb'
    simp at hb'
    omega
  obtain ⟨n1, n2, n3, n4, n5⟩ := h3.ne
  have hbuT : bu ∉ [p, a.s, a.k, a.m] := by have := HBU.out; simp; omega
  have hbxT : bx ∉ [p, a.s, a.k, a.m] := by have := HBU.out; simp; omega
  have hlbT : lb ∉ [p, a.s, a.k, a.m] := by simp; exact ⟨n1, n3, n4, n5⟩
  clear hw3 hbx
  refine WpAt.range (gf := 86) (lb := #[ptr bx]) rfl (enters_of Tryz.func86 (by kernel_rfl) rfl) ?_
  refine (recs_core _ w3 _ _ _ _ bx lb cnt (fun i => (pl i : Int)) wd
    (fun k W => LW W p a l (u + ((sL c st).length : Int) + ((undP pl wd cnt k).length : Int)) (execs S2 (undP pl wd cnt k)) lb c cnt true ∧ At W bu (boxO lb) ∧ At W bx (boxO lb) ∧ Keeps [p, a.s, a.k, a.m, lb] w W ∧ k ≤ cnt)
    (fun W => ∃ S', Cut l u S (undL c st pl wd cnt (epN x)) S' ∧ Pw W p a l l S' ∧ Keeps [p, a.s, a.k, a.m, lb] w W)
    [p, a.s, a.k, a.m]
    (fun i => { tmps := #[ptr lb, ptr bu, .int .i64 (pl i), .int .u64 (wd i), ptr lb, .pointer (some { block := lb, off := 0 }), .pointer (some { block := lb, off := 4 }), .int .i64 cnt, .bool false, ptr lb, .tuple #[], ptr lb, .func (.func 86) #[] #[ptr bx], .int .i64 (pl i), .int .u64 (wd i), undef, undef, undef, undef, undef, undef, undef, undef, undef, undef, undef, undef, undef, undef, undef, undef, undef, undef, undef, undef], defers := [] })
    hsubt rfl (.inl ⟨_, Tryz.func79⟩) ?box ?log HB.out.2.1 ?keep ?assign ?body ?start).mono ?after
  case box => exact fun k W h => h.2.2.1
  case log =>
    rintro k W ⟨hL, _, _, _, hkc⟩
    refine ⟨p, a, l, _, _, c, true, hL, fun i hi => ?_, HB.out.1⟩
    obtain ⟨r1, r2, r3, r4⟩ := HR.out i hi
    have hA := HA.out
    have hoff : ∀ j, j < c.act → (execs S2 (undP pl wd cnt k)).now j = S.now j := by
      intro j hj
      rw [execs_now_off, e2]
      intro y hy
      obtain ⟨i', hi', rfl | rfl⟩ := undP_mem hkc hy
      · have := (HR.out i' hi').2.2.1
        show pl i' ≠ j
        omega
      · trivial
    rw [hoff _ (by omega), hoff _ (by omega), r1, r2]
    exact ⟨asInt_of _ (by omega), rfl⟩
  case keep =>
    rintro k W W' T' ⟨hL, hb1, hb2, hk, hkc⟩ hk' hT'
    have nT : ∀ b, b < w3.heap.size → b ∉ T' := fun b hb hm => by have := hT' b hm; omega
    exact ⟨hL.keep hk' (nT _ hlow.1) (nT _ hlow.2.1) (nT _ hlow.2.2.1) (nT _ hlow.2.2.2.1) (nT _ hlow.2.2.2.2.1) (nT _ hlow.2.2.2.2.2.1), hk'.at hb1 (nT _ hlow.2.2.2.2.2.2.1), hk'.at hb2 (nT _ hlow.2.2.2.2.2.2.2), hk.new hk' fun b hb => .inr (by have := hT' b hb; omega), hkc⟩
  case assign =>
    intro l i W K hK
    have hsem := @Oper.semAt_some
    gi_wp2
    exact hK
  case body =>
    rintro l' k i W hk hi ⟨hL, hb1, hb2, hK, hkc⟩
    have HI := hid hi
    clear hi
    have hi : i < cnt := by have := HI.out; omega
    obtain ⟨r1, r2, r3, r4⟩ := HR.out i hi
    have hul := undP_len pl wd cnt k
    have hsl' := hsl
    have hcb := HB.out.2.2.2.2
    have b0 := hb1.cell 0 rfl
    have c0 := hL.log.cell 0 rfl
    have HS := hid (store_ran W p a l _ _ (pl i) (wd i) hL.pw r4 (by omega))
    have HU := hid hul
    clear r1 r2 r3 hsl' hcb hul hkc
    have hsem := @Oper.semAt_some
    gi_wp2_with fail
    refine ⟨trivial, ?_⟩
    refine (CallsIn.inRound l' (callsIn_wide.2 HS.out)).mono ?_
    rintro e W1 (⟨rfl, hP1, hk1⟩ | ⟨rfl, ⟨S', d1, hP1⟩, hk1⟩)
    rotate_left
    · refine .inr ⟨rfl, rfl, ⟨S', und_cut hk ?_, hP1, hK.trans hk1.lg⟩, hk1⟩
      rw [← HS2.out, ← HI.out]
      exact d1.left [.fl (pl i)]
    have hL1 := hL.next hP1 hk1
    have hb11 := hk1.at hb1 hbuT
    have hb21 := hk1.at hb2 hbxT
    clear b0 c0 HS
    have b0 := hb11.cell 0 rfl
    have c0 := hL1.log.cell 0 rfl
    have hub := HU.out
    have hcb := HB.out.2.2.2.2
    have HS := hid (flush_ran W1 p a l _ _ (pl i) hP1 r4 (by simp; omega))
    clear hub hcb
    gi_wp2_with fail
    refine ⟨trivial, ?_⟩
    refine (CallsIn.inRound l' (callsIn_wide.2 HS.out)).mono ?_
    rintro e W2 (⟨rfl, hP2, hk2⟩ | ⟨rfl, ⟨S', d2, hP2⟩, hk2⟩)
    rotate_left
    · refine .inr ⟨rfl, rfl, ⟨S', und_cut hk ?_, hP2, (hK.trans hk1.lg).trans hk2.lg⟩, hk1.trans hk2⟩
      rw [← HS2.out, ← HI.out]
      exact Cut.right (A := [.st (pl i) (wd i)]) d2 rfl rfl
    have hL2 := hL1.next hP2 hk2
    have hb12 := hk2.at hb11 hbuT
    have hb22 := hk2.at hb21 hbxT
    gi_wp2_with fail
    refine ⟨⟨?_, (hK.trans hk1.lg).trans hk2.lg, hk⟩, hk1.trans hk2⟩
    rw [undP_succ, ← HI.out, execs_append, List.length_append]
    have e1 : u + ((sL c st).length : Int) + (((undP pl wd cnt k).length + [Cmd.st (pl i) (wd i), .fl (pl i)].length : Nat) : Int) = u + ((sL c st).length : Int) + ((undP pl wd cnt k).length : Int) + (([.st (pl i) (wd i)] : List Cmd).length : Int) + (([.fl (pl i)] : List Cmd).length : Int) := by simp; omega
    rw [e1]
    exact hL2
  case start => exact ⟨by simpa [undP_zero, execs_nil] using h3, hB3, hX3, K3, Nat.zero_le _⟩
  case after =>
    intro e W hr
    cases e with
    | outgrown => exact hr.elim
    | panicked ch =>
      obtain ⟨rfl, ⟨S', d1, hP1, hk1⟩, hD⟩ := hr
      refine ⟨.inr ⟨_, rfl⟩, ?_⟩
      have kd : Keeps [w3.heap.size] W (W.putObj w3.heap.size (.deferred none)) := (Keeps.refl _ _).put (.inl (by simp)) _
      refine ⟨by simp, .inl ⟨_, _, rfl, run_takeDeferred hD, ?_⟩⟩
      exact ranL_cut (hP1.keep kd (by simp; omega) (by simp; omega) (by simp; omega) (by simp; omega) (by simp; omega)) d1 (hk1.new kd (by simp; omega))
    | returned v =>
      obtain ⟨w4, hend, ⟨hL, hb1, hb2, hK, _⟩, hD⟩ := hr
      refine ⟨w4, hend, .inl rfl, ?_⟩
      have hub := undP_len pl wd cnt cnt
      have hcb := HB.out.2.2.2.2
      have E8 : (execs S2 (undP pl wd cnt cnt)).now 8 = x := by
        rw [execs_now_off, e2]
        · exact H8.out
        · intro y hy
          obtain ⟨i', hi', rfl | rfl⟩ := undP_mem (Nat.le_refl _) hy
          · have := (HR.out i' hi').2.2.1
            have hA := HA.out
            show pl i' ≠ 8
            omega
          · trivial
      have hb3 : u + ((sL c st).length : Int) + ((undP pl wd cnt cnt).length : Int) < 4611686018427359000 := by omega
      have HE8 := hid E8
      rw [hz3] at hD
      have hDT : bx + 1 ∉ [p, a.s, a.k, a.m] := by simp; omega
      have hDT2 : bx + 1 ∉ [p, a.s, a.k, a.m, lb] := by simp; omega
      have hnt : ∀ b, b ∈ [p, a.d, a.s, a.k, a.m, lb] → b ∉ [bx + 1] := by simp; omega
      have hwb : w.heap.size ≤ bx + 1 := by omega
      have HS := hid (fence_ran w4 p a l _ _ hL.pw (by omega))
      clear hub hcb E8
      have b0 := hb1.cell 0 rfl
      have c0 := hL.log.cell 0 rfl
      refine WpAt.of_wp ?_
      go_wp2_with fail
      refine HS.out.mono ?_
      rintro e W1 (⟨rfl, hP1, hk1⟩ | ⟨rfl, ⟨S', d1, hP1⟩, hk1⟩)
      rotate_left
      · have hD1 := hk1.at hD hDT
        have kd : Keeps [bx + 1] W1 (W1.putObj (bx + 1) (.deferred none)) := (Keeps.refl _ _).put (.inl (by simp)) _
        refine ⟨by simp, .inl ⟨_, _, rfl, run_takeDeferred hD1, ?_⟩⟩
        exact ranL_cut (hP1.keep kd (hnt _ (by simp)) (hnt _ (by simp)) (hnt _ (by simp)) (hnt _ (by simp)) (hnt _ (by simp))) (Cut.right (A := sL c st) (Cut.right (A := undP pl wd cnt cnt) (d1.left _) rfl rfl) rfl HS2.out) ((hK.trans hk1.lg).new kd (by simp; omega))
      have hD1 := hk1.at hD hDT
      have hL1 := hL.next hP1 hk1
      have hb11 := hk1.at hb1 hbuT
      have K1 := hK.trans hk1.lg
      clear b0 c0 HS hK hk1 hP1
      have b0 := hb11.cell 0 rfl
      have hcp := HB.out
      go_wp2_with fail
      refine (trunc_ran hL1 hs x hx HE8.out (by have := hne; rw [beq_eq_false_iff_ne] at this; omega) hcp.2.2.1 hcp.2.2.2.1 (by simp; omega)).mono ?_
      rintro e W2 (⟨rfl, hL2, hk2⟩ | ⟨rfl, ⟨S', d2, hP2⟩, hk2⟩)
      rotate_left
      · have hD2 := hk2.at hD1 hDT2
        have kd : Keeps [bx + 1] W2 (W2.putObj (bx + 1) (.deferred none)) := (Keeps.refl _ _).put (.inl (by simp)) _
        refine ⟨by simp, .inl ⟨_, _, rfl, run_takeDeferred hD2, ?_⟩⟩
        exact ranL_cut (hP2.keep kd (hnt _ (by simp)) (hnt _ (by simp)) (hnt _ (by simp)) (hnt _ (by simp)) (hnt _ (by simp))) (Cut.right (A := sL c st) (Cut.right (A := undP pl wd cnt cnt) (Cut.right (A := [Cmd.fe]) d2 rfl rfl) rfl rfl) rfl HS2.out) ((K1.trans hk2).new kd (by simp; omega))
      have hD2 := hk2.at hD1 hDT2
      have K2 := K1.trans hk2
      clear hk2 K1 b0
      go_wp2_with fail
      have kd : Keeps [bx + 1] W2 (W2.putObj (bx + 1) (.deferred none)) := (Keeps.refl _ _).put (.inl (by simp)) _
      refine ⟨by simp, .inl ⟨_, _, rfl, run_takeDeferred hD2, ?_⟩⟩
      refine ⟨.tuple #[], ?_, ?_⟩
      · simp [results, Tryz.results79, go_sem]
      · refine ranL_end (hL2.keep kd (hnt _ (by simp)) (hnt _ (by simp)) (hnt _ (by simp)) (hnt _ (by simp)) (hnt _ (by simp)) (hnt _ (by simp))) ?_ ?_ (K2.new kd (by simp; omega))
        · unfold undL
          simp only [List.length_append, List.length_cons, List.length_nil]
          omega
        · unfold undL
          rw [execs_append, execs_append, execs_append, ← HS2.out]

end

end Go.Proofs.YtcdlikblebdfkaaGreat
