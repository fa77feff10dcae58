/- A section's definition: any step, with the power that stays; what stands is what it says. -/
import Derived.Test.YtkoflpcpopmkkaaGreatMdoC
import Derived.Test.YtkoflpcpopmkkaaGreatMdoE
namespace Go.Proofs.YtkoflpcpopmkkaaGreat
open Go.RowKit Go.OpenShut

section
variable {kd0 p : Nat} {a : DA} {l u : Int} {q : Sc} {c : Cfg} {mb nb ncap : Nat} {wB : World} {fr : Nat} {S : DS} {r : Nat} {K : Nat → Int} {w w' : World}

/-- A section and its definition, open or not. -/
def MAny (p : Nat) (a : DA) (l u : Int) (q : Sc) (c : Cfg) (mb nb ncap : Nat) (wB : World) (fr : Nat) (S : DS) (r : Nat) (w : World) : Prop :=
  (∃ K, MOpen p a l u q c mb nb ncap wB fr S r K w) ∨ MShut p a l u q c mb nb ncap wB S r w

theorem MAny.keep0 (h : MAny p a l u q c mb nb ncap wB fr S r w) (hk : Keeps [] w w') : MAny p a l u q c mb nb ncap wB fr S r w' := by
  rcases h with ⟨K, h⟩ | h
  · exact .inl ⟨K, h.keep0 hk⟩
  · exact .inr (h.keep0 hk)

/-- Without a limit the power doesn't go. -/
theorem gone_free {f t : Int} {K1 K2 : Nat → Int} {bl : List Nat} {e : Ending} (h : Gone p a (-1) c r f t K1 K2 bl w e w') : False := by
  obtain ⟨_, ⟨S', h1, _⟩, _⟩ := h
  have := h1.lo
  omega

theorem MAny.keeps (h : MAny p a l u q c mb nb ncap wB fr S r w) : Keeps (mb :: nb :: q.bl p a) wB w := by
  rcases h with ⟨K, _, _, _, _, _, _, _, _, _, _, _, _, _, h⟩ | ⟨_, _, _, _, _, _, _, _, _, _, _, h⟩
  · exact h
  · exact h

/-- A step after which a section is open. -/
theorem mdo_opn (hp : MSep p a q c mb nb wB) (h : (kd0 % 8 = 0 ∧ MAny p a (-1) u q c mb nb ncap wB fr S r w) ∨ (kd0 % 8 ≠ 1 ∧ kd0 % 8 ≠ 2 ∧ ∃ K, MOpen p a (-1) u q c mb nb ncap wB fr S r K w)) (hu : u < 1000000) (hrb : r < 4294967296) (hkd : kd0 ≤ 255) (at_ : Nat) (hat : at_ ≤ 65535) (v : Int) (hfr : fr ≤ 255) :
    Calls Tryz.prog 17 #[ptr mb, ptr q.b, doV kd0 at_ v, .int .u8 fr] w fun e w' => e = .returned (.bool true) ∧ ∃ u' S' K', MOpen p a (-1) u' q c mb nb ncap wB fr S' r K' w' ∧ u' ≤ u + 3000 := by
  by_cases h0 : kd0 % 8 = 0
  · have h : MAny p a (-1) u q c mb nb ncap wB fr S r w := by
      rcases h with h | h
      · exact h.2
      · exact .inl h.2.2
    rcases h with ⟨K, h⟩ | h
    · exact (do0_open hp h kd0 hkd h0 at_ v hfr).mono fun e w' h => ⟨h.1, u, S, K, h.2, by omega⟩
    · refine (do0_shut hp h hu kd0 hkd h0 at_ v hfr S.now).mono fun e w' h => ?_
      rcases h with ⟨rfl, u', S', h1, h2, h3⟩ | h
      · exact ⟨rfl, u', S', S.now, h1, h3⟩
      · exact (gone_free h).elim
  · rcases h with h | ⟨h1, h2, K, h⟩
    · exact absurd h.1 h0
    · refine (do3_open hp h hu hrb kd0 hkd (by omega) at_ hat v S.now).mono fun e w' h => ?_
      rcases h with ⟨rfl, u', S', h1, h2⟩ | h
      · exact ⟨rfl, u', S', K, h1, h2⟩
      · exact (gone_free h).elim

/-- A step after which none is. -/
theorem mdo_sht (hp : MSep p a q c mb nb wB) (h : ((kd0 % 8 = 1 ∨ kd0 % 8 = 2) ∧ MAny p a (-1) u q c mb nb ncap wB fr S r w) ∨ (kd0 % 8 ≠ 0 ∧ MShut p a (-1) u q c mb nb ncap wB S r w)) (hu : u < 1000000) (hkd : kd0 ≤ 255) (at_ : Nat) (hat : at_ ≤ 65535) (v : Int) :
    Calls Tryz.prog 17 #[ptr mb, ptr q.b, doV kd0 at_ v, .int .u8 fr] w fun e w' => e = .returned (.bool true) ∧ ∃ u' S' r', MShut p a (-1) u' q c mb nb ncap wB S' r' w' ∧ r' ≤ r + 1 ∧ u' ≤ u + 3000 := by
  have h0 : kd0 % 8 ≠ 0 := by rcases h with h | h <;> omega
  have hs : (∃ K, (kd0 % 8 = 1 ∨ kd0 % 8 = 2) ∧ MOpen p a (-1) u q c mb nb ncap wB fr S r K w) ∨ MShut p a (-1) u q c mb nb ncap wB S r w := by
    rcases h with ⟨h1, ⟨K, h⟩ | h⟩ | h
    · exact .inl ⟨K, h1, h⟩
    · exact .inr h
    · exact .inr h.2
  rcases hs with ⟨K, h1, h⟩ | h
  · by_cases h2 : kd0 % 8 = 1
    · refine (do1_open hp h hu kd0 hkd h2 at_ v).mono fun e w' h => ?_
      rcases h with ⟨rfl, u', S', r', h1, h2, h3, h4⟩ | h
      · exact ⟨rfl, u', S', r', h1, h2, h4⟩
      · exact (gone_free h).elim
    · refine (do2_open hp h hu kd0 hkd (by omega) at_ v S.now).mono fun e w' h => ?_
      rcases h with ⟨rfl, u', S', r', h1, h2, h3, h4⟩ | h
      · exact ⟨rfl, u', S', r', h1, h2, h4⟩
      · exact (gone_free h).elim
  · by_cases h1 : kd0 % 8 = 1
    · exact (do1_shut h kd0 hkd h1 at_ v).mono fun e w' h => ⟨h.1, u, S, r, h.2, by omega, by omega⟩
    · by_cases h2 : kd0 % 8 = 2
      · exact (do2_shut h kd0 hkd h2 at_ v).mono fun e w' h => ⟨h.1, u, S, r, h.2, by omega, by omega⟩
      · exact (do3_shut hp h kd0 hkd (by omega) at_ hat v).mono fun e w' h => ⟨h.1, u, S, r, h.2, by omega, by omega⟩

/-- Steps, as they lie. -/
def DReads (w : World) (x : Option Addr) (n : Nat) (f : Nat → Nat → Int) : Prop :=
  n = 0 ∨ ∃ b off, x = some ⟨b, off, none⟩ ∧ b < w.heap.size ∧ ∀ i, i < n → w.cell? ⟨b, off + i * 3, none⟩ = some (.int .u8 (f i 0)) ∧ w.cell? ⟨b, off + i * 3 + 1, none⟩ = some (.int .u16 (f i 1)) ∧ w.cell? ⟨b, off + i * 3 + 2, none⟩ = some (.int .u64 (f i 2)) ∧ 0 ≤ f i 0 ∧ f i 0 ≤ 255 ∧ 0 ≤ f i 1 ∧ f i 1 ≤ 65535

theorem dreads_of {W : World} {x : Option Addr} {n : Nat} {f : Nat → Nat → Int} (h : n * 3 = 0 ∨ ∃ b off, x = some ⟨b, off, none⟩ ∧ b < W.heap.size ∧ ∀ i j, i < n → j < 3 → W.cell? ⟨b, off + (i * 3 + j), none⟩ = some (.int ((fun j => if j = 0 then .u8 else if j = 1 then .u16 else .u64 : Nat → IntKind) j) (f i j)) ∧ (Lit.int ((fun j => if j = 0 then .u8 else if j = 1 then .u16 else .u64 : Nat → IntKind) j) (f i j)).wf = true) : DReads W x n f := by
  rcases h with h | ⟨b, off, rfl, hb, hc⟩
  · exact .inl (by omega)
  · refine .inr ⟨b, off, rfl, hb, fun i hi => ?_⟩
    obtain ⟨h0, w0⟩ := hc i 0 hi (by omega)
    obtain ⟨h1, w1⟩ := hc i 1 hi (by omega)
    obtain ⟨h2, w2⟩ := hc i 2 hi (by omega)
    have b0 := bounds_u8 (n := f i 0) (by simpa using w0)
    have b1 := bounds_u16 (n := f i 1) (by simpa using w1)
    exact ⟨by simpa using h0, by simpa [Nat.add_assoc] using h1, by simpa [Nat.add_assoc] using h2, by omega, by omega, by omega, by omega⟩

end

/-- What is held may be turned into more. -/
theorem wpAnyH_turn {P : Program} {md : Region.Mode} {ops : Array Oper} {Q : Exit → Act → World → Prop} {S S' : World → Prop} (hS : ∀ w, S' w → S w) : ∀ (fuel : Nat) (listed : Array Bool) (a : Act) (w : World), wpAnyH P md ops Q S' fuel listed a w → wpAnyH P md ops Q S fuel listed a w
  | 0, _, _, _, h => h
  | fuel + 1, _, _, _, h => ⟨h.1, fun i hi => wpOp_mono (fun a' w' h' => ⟨hS _ h'.1, wpAnyH_turn hS fuel _ a' w' h'.2⟩) (h.2 i hi)⟩

end Go.Proofs.YtkoflpcpopmkkaaGreat
