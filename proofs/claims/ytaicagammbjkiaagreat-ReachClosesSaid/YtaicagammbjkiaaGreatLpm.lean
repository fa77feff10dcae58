/- A function that has ranged over functions again and again: what it leaves behind. No number of any program stands here. -/
import Derived.Test.YtaicagammbjkiaaGreatRnd
import Derived.LoopNIn
namespace Go.Proofs.YtaicagammbjkiaaGreat
open Go.RowKit Go.OpenShut

/-- The marks of ranges that were run. -/
def mkD (bs : List Nat) : List Deferred := bs.map fun b => { target := .collected b, args := #[] }
theorem mkD_cons (b : Nat) (bs : List Nat) : mkD (b :: bs) = { target := .collected b, args := #[] } :: mkD bs := rfl

/-- All of them are taken away. -/
theorem leavesM_all {P : Program} {n : Nat} {fn : Func} {tmps : Array Value} {R : Ending → World → Prop} : ∀ (bs : List Nat) (w : World), bs.Nodup → (∀ b ∈ bs, At w b (.deferred (some []))) →
    (∀ w', Keeps bs w w' → LeavesInM Fence.wide n P fn tmps R [] .returning w') → LeavesInM Fence.wide n P fn tmps R (mkD bs) .returning w
  | [], w, _, _, h => h w (Keeps.refl _ _)
  | b :: bs, w, hn, ha, h => by
    obtain ⟨h1, h2⟩ := List.nodup_cons.1 hn
    rw [mkD_cons]
    have kp : Keeps [b] w (w.putObj b (.deferred none)) := (Keeps.refl _ _).put (.inl (by simp)) _
    refine ⟨by simp, .inl ⟨b, w.putObj b (.deferred none), rfl, run_takeDeferred (ha b (by simp)), leavesM_all bs _ h2 (fun b' hb' => kp.at (ha b' (by simp [hb'])) (fun hm => ?_)) fun w' hk => h w' ?_⟩⟩
    · obtain rfl := List.mem_singleton.1 hm
      exact h1 hb'
    · exact (kp.mono (fun k _ hk => by rw [List.mem_singleton.1 hk]; simp)).trans (hk.mono (fun k _ hk => by simp [hk]))

theorem roundsIn_k {F : Fence} {m : Nat} {P : Program} {c : Code} {Q : Exit → Act → World → Prop} {n : Nat} {a : Act} {w : World} (h : ∀ K : Act → World → Prop, (∀ a w, Code.roundsIn F m P c Q n a w → K a w) → c.wpIn F m P (Exit.then K Q) a w) : Code.roundsIn F m P c Q (n + 1) a w :=
  h _ fun _ _ h => h

/-- A loop by what is told between its rounds, whatever its frame has deferred. -/
theorem wp_loop_inv {P : Program} {c : Code} {Q : Exit → Act → World → Prop} {a : Act} {w : World} (I : Nat → Act → World → Prop) (n0 : Nat) (h0 : I n0 a w)
    (round : ∀ n a w, I n a w → ∀ K : Act → World → Prop, (∀ n' a' w', n' < n → I n' a' w' → K a' w') → c.wp P (Exit.then K Q) a w) : (Code.loop c).wp P Q a w := by
  have key : ∀ N n a w, n < N → I n a w → Code.rounds P c Q N a w := by
    intro N
    induction N with
    | zero => intro n a w h; omega
    | succ N ih =>
      intro n a w hn hI
      refine rounds_k fun K hK => round n a w hI K fun n' a' w' hn' hI' => hK _ _ (ih n' a' w' (by omega) hI')
  exact wp_loop_rounds (n0 + 1) (key _ n0 a w (by omega) h0)

/-- A range over a function in an iterator's own code. -/
theorem wpIn_rangeE {P : Program} {n : Nat} {Q : Exit → Act → World → Prop} {a : Act} {w : World} {g : Operand} {ps : Array Tmp} {assign body : Code} {gf : FuncId} {lb : Array Value} (hg : a.eval g = .func (.func gf) #[] lb) (eg : ∀ args w, (callFunc gf args).run P w = .ok (.enter gf args) w)
    (h : ∀ fn, CallsIn Fence.wide 4 P gf (#[.func (.yield (w.heap.size + 1)) #[] #[]] ++ lb) ((w.alloc (.deferred (some []))).alloc (.loop { state := .ready, pending := none, fn := fn, tmps := a.tmps, params := ps, assign, body, defers := w.heap.size }))
      (rangeE P (w.heap.size + 1) Q { a with defers := { target := .collected w.heap.size, args := #[] } :: a.defers })) :
    (Code.rangeFunc g ps assign body).wpIn Fence.wide n P Q a w :=
  wpIn_wide.2 (wp_rangeE hg eg h)

/-- An iterator's contract from its body, marks and all. -/
theorem callsIn_marks {P : Program} {f : FuncId} {fn : Func} {c : Code} {args : Array Value} {w : World} {R : Ending → World → Prop} (hf : P.funcs[f]? = some fn) (hb : fn.body = some c)
    (h : c.wpIn Fence.wide 4 P (bodyPostM Fence.wide 4 P fn R) { tmps := args ++ Array.replicate (fn.ntmps - args.size) undef, defers := [] } w) : CallsIn Fence.wide 4 P f args w R :=
  callsIn_wide.2 (callsAt_marks hf hb (.of_wp (wpIn_wide.1 h)))

end Go.Proofs.YtaicagammbjkiaaGreat
