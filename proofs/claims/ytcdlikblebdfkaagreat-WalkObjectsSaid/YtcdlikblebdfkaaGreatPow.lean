/- The contracts of package power's calls: New, Tick, Used, Run, whatever the world. -/
import Derived.Test.YtcdlikblebdfkaaGreatWld
import Derived.Deep.QuietTactic
import Derived.BigQuiet
import Derived.Recover
import Derived.Defers
namespace Go.Proofs.YtcdlikblebdfkaaGreat
open Go.RowKit

set_option maxHeartbeats 400000 in
theorem new_any (l : Int) (w : World) :
    Calls Tryz.prog 52 #[.int .i64 l] w fun e w' => e = .returned (.pointer (some ⟨w.heap.size, 0, none⟩)) ∧ w.alloc (.cells #[.int .i64 l, .int .i64 0] 96) = w' := by
  go_enter Tryz.func52, Tryz.ntmps52
  go_wp2
  go_ret
  exact ⟨rfl, rfl⟩

set_option maxHeartbeats 400000 in
theorem used_any (b : Nat) (u : Int) (w : World) (hu : w.cell? ⟨b, 1, none⟩ = some (.int .i64 u)) :
    Calls Tryz.prog 123 #[.pointer (some ⟨b, 0, none⟩)] w fun e w' => e = .returned (.int .i64 u) ∧ w = w' := by
  go_enter Tryz.func123, Tryz.ntmps123
  go_wp2
  go_ret
  exact ⟨rfl, rfl⟩

/-- What the power goes by. -/
def goneV : Value := .iface 98 (.agg #[])
/-- Does it stay at this step? -/
def staysB (l u : Int) : Bool := decide (l < 0) || decide (u ≠ l)

def TickPost (b : Nat) (l u : Int) (w : World) (e : Ending) (w' : World) : Prop :=
  if staysB l u = true then e = .returned (.tuple #[]) ∧ ∃ n, (w.drewN n).setCell ⟨b, 1, none⟩ (.int .i64 (u + 1)) = w'
  else e = .panicked [{ v := goneV, recovered := false }] ∧ ∃ n, w.drewN n = w'

set_option maxHeartbeats 400000 in
theorem tick_free (b : Nat) (l u : Int) (w : World) (hl : w.cell? ⟨b, 0, none⟩ = some (.int .i64 l)) (hu : w.cell? ⟨b, 1, none⟩ = some (.int .i64 u))
    (hz : w.frozen? ⟨b, 1, none⟩ = false) (h0 : decide (0 ≤ l) = false) (hu0 : 0 ≤ u) (hu1 : u < 9223372036854775807) :
    Calls Tryz.prog 25 #[.pointer (some ⟨b, 0, none⟩)] w fun e w' => e = .returned (.tuple #[]) ∧ ∃ n, (w.drewN n).setCell ⟨b, 1, none⟩ (.int .i64 (u + 1)) = w' := by
  go_enter Tryz.func25, Tryz.ntmps25
  go_wp2
  go_quiet (fail)
  go_wp2
  go_end0
  exact ⟨rfl, nq, rfl⟩

set_option maxHeartbeats 400000 in
theorem tick_more (b : Nat) (l u : Int) (w : World) (hl : w.cell? ⟨b, 0, none⟩ = some (.int .i64 l)) (hu : w.cell? ⟨b, 1, none⟩ = some (.int .i64 u))
    (hz : w.frozen? ⟨b, 1, none⟩ = false) (h0 : decide (0 ≤ l) = true) (h1 : (u == l) = false) (hu0 : 0 ≤ u) (hu1 : u < 9223372036854775807) :
    Calls Tryz.prog 25 #[.pointer (some ⟨b, 0, none⟩)] w fun e w' => e = .returned (.tuple #[]) ∧ ∃ n, (w.drewN n).setCell ⟨b, 1, none⟩ (.int .i64 (u + 1)) = w' := by
  go_enter Tryz.func25, Tryz.ntmps25
  go_wp2
  go_quiet (fail)
  go_wp2
  go_end0
  exact ⟨rfl, nq, rfl⟩

set_option maxHeartbeats 400000 in
theorem tick_gone (b : Nat) (l : Int) (w : World) (hl : w.cell? ⟨b, 0, none⟩ = some (.int .i64 l)) (hu : w.cell? ⟨b, 1, none⟩ = some (.int .i64 l))
    (h0 : decide (0 ≤ l) = true) :
    Calls Tryz.prog 25 #[.pointer (some ⟨b, 0, none⟩)] w fun e w' => e = .panicked [{ v := goneV, recovered := false }] ∧ ∃ n, w.drewN n = w' := by
  go_enter Tryz.func25, Tryz.ntmps25
  go_wp2
  go_quiet (fail)
  go_wp2
  exact ⟨rfl, rfl, nq, rfl⟩

theorem tick_any (b : Nat) (l u : Int) (w : World) (hl : w.cell? ⟨b, 0, none⟩ = some (.int .i64 l)) (hu : w.cell? ⟨b, 1, none⟩ = some (.int .i64 u))
    (hz : w.frozen? ⟨b, 1, none⟩ = false) (hu0 : 0 ≤ u) (hu1 : u < 9223372036854775807) :
    Calls Tryz.prog 25 #[.pointer (some ⟨b, 0, none⟩)] w (TickPost b l u w) := by
  unfold TickPost
  by_cases h0 : l < 0
  · have hs : staysB l u = true := by simp [staysB, h0]
    simp only [hs, if_true]
    exact tick_free b l u w hl hu hz (by simp; omega) hu0 hu1
  · by_cases h1 : u = l
    · subst h1
      have hs : staysB u u = false := by simp [staysB]; omega
      simp only [hs, Bool.false_eq_true, if_false]
      exact tick_gone b u w hl hu (by simp; omega)
    · have hs : staysB l u = true := by simp [staysB, h1]
      simp only [hs, if_true]
      exact tick_more b l u w hl hu hz (by simp; omega) (by simpa using h1) hu0 hu1

/-- The deferred call of Run, in a frame that returns: recover finds nothing. -/
theorem catch_idle (w : World) :
    CallsD Tryz.prog 132 #[] .returning w fun e u' w' => e = .returned (.tuple #[]) ∧ u' = .returning ∧ w = w' := by
  refine callsD_of_wpS Tryz.func132 rfl fun c₀ cs hu => ?_
  apply wpS_seq
  apply wpS_region
  simp [wpOpsS, go_sem, recoverD, hu, Tryz.ntmps132, Exit.thenS]
  refine wpS_of_wp ?_
  go_wp2
  cases c₀
  simp_all [bodyPostS, results, Tryz.results132]

theorem assert_gone (w : World) : (Instr.typeAssert (.iface 98 (.agg #[])) 20 98 true).run Tryz.prog w = .ok (.tuple #[.agg #[], .bool true]) w := by kernel_rfl

/-- The deferred call of Run, where the power went. -/
theorem catch_gone (older : List PanicEntry) (w : World) :
    CallsD Tryz.prog 132 #[] (.panicking ({ v := goneV, recovered := false } :: older)) w fun e u' w' =>
      e = .returned (.tuple #[]) ∧ u' = .panicking ({ v := goneV, recovered := true } :: older) ∧ w.alloc (.cells #[] 98) = w' := by
  have ha := assert_gone
  refine callsD_of_wpS Tryz.func132 rfl fun c₀ cs hu => ?_
  apply wpS_seq
  apply wpS_region
  simp [wpOpsS, go_sem, recoverD, hu, Tryz.ntmps132, Exit.thenS, goneV]
  refine wpS_of_wp ?_
  go_wp2
  cases c₀
  simp_all [bodyPostS, results, Tryz.results132]

/-- Run, of a function whose call either returns or ends as the power goes. -/
theorem run_with (F : Nat) (first cap : Array Value) (w : World) (A B : World → Prop)
    (hinv : ∀ w, (callFunc F (first ++ cap)).run Tryz.prog w = .ok (.enter F (first ++ cap)) w)
    (h : Calls Tryz.prog F (first ++ cap) w fun e w' => (e = .returned (.tuple #[]) ∧ A w') ∨ (e = .panicked [{ v := goneV, recovered := false }] ∧ B w')) :
    Calls Tryz.prog 121 #[.func (.func F) first cap] w fun e w' => (e = .returned (.bool true) ∧ A w') ∨ (e = .returned (.bool false) ∧ ∃ w1, B w1 ∧ w1.alloc (.cells #[] 98) = w') := by
  go_enter_defers Tryz.func121, Tryz.ntmps121
  go_wp2
  refine h.mono ?_
  rintro e w1 (⟨rfl, ha⟩ | ⟨rfl, hb⟩)
  · go_wp2
    refine leaves_cons (f := 132) (args := #[]) (by simp) (by simp [go_sem]) ?_
    refine (catch_idle _).mono ?_
    rintro e u' w'' ⟨rfl, rfl, rfl⟩
    simp [Leaves, settle, results, Tryz.results121, go_sem, ha]
  · go_wp2
    refine leaves_cons (f := 132) (args := #[]) (by simp) (by simp [go_sem]) ?_
    refine (catch_gone [] _).mono ?_
    rintro e u' w'' ⟨rfl, rfl, rfl⟩
    simp [Leaves, settle, results, Tryz.results121, go_sem]
    exact ⟨w1, hb, rfl⟩

theorem run_any (F : Nat) (cap : Array Value) (w : World) (A B : World → Prop)
    (hinv : ∀ w, (callFunc F cap).run Tryz.prog w = .ok (.enter F cap) w)
    (h : Calls Tryz.prog F cap w fun e w' => (e = .returned (.tuple #[]) ∧ A w') ∨ (e = .panicked [{ v := goneV, recovered := false }] ∧ B w')) :
    Calls Tryz.prog 121 #[.func (.func F) #[] cap] w fun e w' => (e = .returned (.bool true) ∧ A w') ∨ (e = .returned (.bool false) ∧ ∃ w1, B w1 ∧ w1.alloc (.cells #[] 98) = w') := by
  have e : (#[] : Array Value) ++ cap = cap := by simp
  exact run_with F #[] cap w A B (by rw [e]; exact hinv) (by rw [e]; exact h)

/-- A power: its limit, its steps. -/
abbrev powO (l u : Int) : Obj := .cells #[.int .i64 l, .int .i64 u] 96

/-- The contracts once more, over blocks. -/
theorem new_at (l : Int) (w : World) :
    Calls Tryz.prog 52 #[.int .i64 l] w fun e w' => e = .returned (.pointer (some ⟨w.heap.size, 0, none⟩)) ∧ At w' w.heap.size (powO l 0) ∧ w'.heap.size = w.heap.size + 1 ∧ Keeps [] w w' := by
  refine (new_any l w).mono ?_
  rintro e w' ⟨rfl, rfl⟩
  exact ⟨rfl, At.new _ _, by simp, (Keeps.refl _ _).alloc _⟩

theorem used_at (b : Nat) (l u : Int) (w : World) (h : At w b (powO l u)) :
    Calls Tryz.prog 123 #[.pointer (some ⟨b, 0, none⟩)] w fun e w' => e = .returned (.int .i64 u) ∧ w = w' :=
  used_any b u w (h.cell 1 rfl)

def TickAt (b : Nat) (l u : Int) (w : World) (e : Ending) (w' : World) : Prop :=
  if staysB l u = true then e = .returned (.tuple #[]) ∧ At w' b (powO l (u + 1)) ∧ Keeps [b] w w'
  else e = .panicked [{ v := goneV, recovered := false }] ∧ At w' b (powO l u) ∧ Keeps [] w w'

theorem tick_at (b : Nat) (l u : Int) (w : World) (h : At w b (powO l u)) (hu0 : 0 ≤ u) (hu1 : u < 9223372036854775807) :
    Calls Tryz.prog 25 #[.pointer (some ⟨b, 0, none⟩)] w (TickAt b l u w) := by
  refine (tick_any b l u w (h.cell 0 rfl) (h.cell 1 rfl) (h.free 1) hu0 hu1).mono ?_
  intro e w' ht
  unfold TickPost at ht
  unfold TickAt
  split at ht
  · rename_i hs
    obtain ⟨rfl, n, rfl⟩ := ht
    rw [if_pos hs]
    exact ⟨rfl, (h.drewN n).set 1 _, ((Keeps.refl _ _).drewN n).set (.inl (by simp)) _⟩
  · rename_i hs
    obtain ⟨rfl, n, rfl⟩ := ht
    rw [if_neg hs]
    exact ⟨rfl, h.drewN n, (Keeps.refl _ _).drewN n⟩

end Go.Proofs.YtcdlikblebdfkaaGreat
