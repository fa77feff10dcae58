/- A section's definition: any step, the power going: what is left. -/
import Derived.Test.YtkoflpcpopmkkaaGreatMdoF
namespace Go.Proofs.YtkoflpcpopmkkaaGreat
open Go.RowKit Go.OpenShut

/-- The power has gone: whatever is left, undone, is D, or N where com. -/
def GoneC (p : Nat) (a : DA) (l : Int) (c : Cfg) (r : Nat) (D N : Nat → Int) (com : Prop) (bl : List Nat) (w : World) (e : Ending) (w' : World) : Prop :=
  e = .panicked [{ v := goneV, recovered := false }] ∧ (∃ S', Pw w' p a l l S' ∧ ∀ ch : Nat → Int, ∃ r' m pl wd K, r' ≤ r + 1 ∧ ((∀ j, c.act ≤ j → j < a.n → K j = D j) ∨ (com ∧ ∀ j, c.act ≤ j → j < a.n → K j = N j)) ∧ LI c a.n 1 r' m pl wd K (crashed S' ch)) ∧ Keeps bl w w'

section
variable {kd p : Nat} {a : DA} {l u : Int} {q : Sc} {c : Cfg} {mb nb ncap : Nat} {wB : World} {S : DS} {r : Nat} {D : Nat → Int} {w w' : World}

theorem fresh_none (hp : MSep p a q c mb nb wB) : ∀ j, j < a.n → freshB ((c.words : Int) - (0 % 20 : Nat)) c.words (j : Nat) = false := fun j hj => by
  have := hp.wn
  unfold freshB
  rw [decide_eq_false (by simp; omega), Bool.false_and]

theorem Gone.turn {K1 K2 : Nat → Int} {com : Prop} {N : Nat → Int} {bl : List Nat} {e : Ending} (hp : MSep p a q c mb nb wB) (h : Gone p a l c r ((c.words : Int) - (0 % 20 : Nat)) c.words K1 K2 bl w e w')
    (h1 : ∀ j, c.act ≤ j → j < a.n → K1 j = D j) (h2 : (∀ j, c.act ≤ j → j < a.n → K2 j = D j) ∨ (com ∧ K2 = N)) : GoneC p a l c r D N com bl w e w' := by
  obtain ⟨he, ⟨S', hP, hL⟩, hk⟩ := h
  refine ⟨he, ⟨S', hP, fun ch => ?_⟩, hk⟩
  obtain ⟨r', m, pl, wd, K, hr, hK, hI⟩ := hL (fresh_none hp) ch
  refine ⟨r', m, pl, wd, K, hr, ?_, hI⟩
  rcases hK with rfl | rfl
  · exact .inl h1
  · rcases h2 with h2 | ⟨h2, rfl⟩
    · exact .inl h2
    · exact .inr ⟨h2, fun _ _ _ => rfl⟩

/-- A step, one being open. -/
theorem mdo_cut_open (hp : MSep p a q c mb nb wB) (h : MOpen p a l u q c mb nb ncap wB 0 S r D w) (hu : u < 1000000) (hrb : r < 4294967296) (hkd : kd ≤ 255) (at_ : Nat) (hat : at_ ≤ 65535) (v : Int) :
    Calls Tryz.prog 17 #[ptr mb, ptr q.b, doV kd at_ v, .int .u8 (0 : Nat)] w fun e w' => (e = .returned (.bool true) ∧ ∃ u' S' r', (((kd % 8 ≠ 1 ∧ kd % 8 ≠ 2) ∧ MOpen p a l u' q c mb nb ncap wB 0 S' r' D w') ∨ ((kd % 8 = 1 ∨ kd % 8 = 2) ∧ MShut p a l u' q c mb nb ncap wB S' r' w')) ∧ r' ≤ r + 1 ∧ u' ≤ u + 3000) ∨ GoneC p a l c r D S.now (kd % 8 = 1) (q.bl p a) w e w' := by
  by_cases h0 : kd % 8 = 0
  · exact (do0_open hp h kd hkd h0 at_ v (by omega)).mono fun e w' h => .inl ⟨h.1, u, S, r, .inl ⟨by omega, h.2⟩, by omega, by omega⟩
  · by_cases h1 : kd % 8 = 1
    · refine (do1_open hp h hu kd hkd h1 at_ v).mono fun e w' h => ?_
      rcases h with ⟨rfl, u', S', r', h2, h3, _, h4⟩ | h
      · exact .inl ⟨rfl, u', S', r', .inr ⟨.inl h1, h2⟩, h3, h4⟩
      · exact .inr (h.turn hp (fun _ _ _ => rfl) (.inr ⟨h1, rfl⟩))
    · by_cases h2 : kd % 8 = 2
      · refine (do2_open hp h hu kd hkd h2 at_ v D).mono fun e w' h => ?_
        rcases h with ⟨rfl, u', S', r', h3, h4, _, h5⟩ | h
        · exact .inl ⟨rfl, u', S', r', .inr ⟨.inr h2, h3⟩, h4, h5⟩
        · exact .inr (h.turn hp (fun _ _ _ => rfl) (.inl fun _ _ _ => rfl))
      · refine (do3_open hp h hu hrb kd hkd (by omega) at_ hat v D).mono fun e w' h => ?_
        rcases h with ⟨rfl, u', S', h3, h4⟩ | h
        · exact .inl ⟨rfl, u', S', r, .inl ⟨⟨h1, h2⟩, h3⟩, by omega, h4⟩
        · exact .inr (h.turn hp (fun _ _ _ => rfl) (.inl fun _ _ _ => rfl))

/-- A step, none being open. -/
theorem mdo_cut_shut (hp : MSep p a q c mb nb wB) (h : MShut p a l u q c mb nb ncap wB S r w) (hu : u < 1000000) (hkd : kd ≤ 255) (at_ : Nat) (hat : at_ ≤ 65535) (v : Int) :
    Calls Tryz.prog 17 #[ptr mb, ptr q.b, doV kd at_ v, .int .u8 (0 : Nat)] w fun e w' => (e = .returned (.bool true) ∧ ∃ u' S' r', ((kd % 8 = 0 ∧ MOpen p a l u' q c mb nb ncap wB 0 S' r' S.now w') ∨ (kd % 8 ≠ 0 ∧ MShut p a l u' q c mb nb ncap wB S' r' w')) ∧ r' ≤ r + 1 ∧ u' ≤ u + 3000) ∨ GoneC p a l c r S.now S.now False (q.bl p a) w e w' := by
  by_cases h0 : kd % 8 = 0
  · refine (do0_shut hp h hu kd hkd h0 at_ v (by omega) S.now).mono fun e w' h => ?_
    rcases h with ⟨rfl, u', S', h1, _, h2⟩ | h
    · exact .inl ⟨rfl, u', S', r, .inl ⟨h0, h1⟩, by omega, h2⟩
    · exact .inr (h.turn hp (fun _ _ _ => rfl) (.inl fun _ _ _ => rfl))
  · by_cases h1 : kd % 8 = 1
    · exact (do1_shut h kd hkd h1 at_ v).mono fun e w' h => .inl ⟨h.1, u, S, r, .inr ⟨h0, h.2⟩, by omega, by omega⟩
    · by_cases h2 : kd % 8 = 2
      · exact (do2_shut h kd hkd h2 at_ v).mono fun e w' h => .inl ⟨h.1, u, S, r, .inr ⟨h0, h.2⟩, by omega, by omega⟩
      · exact (do3_shut hp h kd hkd (by omega) at_ hat v).mono fun e w' h => .inl ⟨h.1, u, S, r, .inr ⟨h0, h.2⟩, by omega, by omega⟩

end

/-- A cell outside is turned in both worlds. -/
theorem Keeps.both {L : List Nat} {w w' : World} (h : Keeps L w w') {p : Addr} (hp : p.block ∉ L) (hl : p.block < w.heap.size) (v : Value) : Keeps L (w.setCell p v) (w'.setCell p v) :=
  ⟨h.os, h.tape, h.output, by simpa [World.setCell] using h.size, fun k hk hs => by
    by_cases hkp : k = p.block
    · subst hkp
      have e := h.block _ hl hp
      have h2 := h.size
      simp only [World.setCell, Array.getElem?_modify, if_true, e]
    · rw [Below.heap_setCell _ _ _ _ hkp, Below.heap_setCell _ _ _ _ hkp]
      exact h.block k (by simpa [World.setCell] using hk) hs⟩

/-- So is one while a section is open: its definition stands on the world that is turned too. -/
theorem MOpen.both {p : Nat} {a : DA} {l u : Int} {q : Sc} {c : Cfg} {mb nb ncap : Nat} {wB : World} {fr : Nat} {S : DS} {r : Nat} {K : Nat → Int} {w : World} (hp : MSep p a q c mb nb wB) (h : MOpen p a l u q c mb nb ncap wB fr S r K w) {b : Nat} (hb : b ∉ mb :: nb :: a.d :: q.bl p a) (hl : b < wB.heap.size) (i : Nat) (v : Value) :
    MSep p a q c mb nb (wB.setCell ⟨b, i, none⟩ v) ∧ MOpen p a l u q c mb nb ncap (wB.setCell ⟨b, i, none⟩ v) fr S r K (w.setCell ⟨b, i, none⟩ v) := by
  obtain ⟨m, pl, wb, wcap, x, ci, h1, h2, h3, h4, h5, h6, h7, h8⟩ := h
  have hz : (wB.setCell ⟨b, i, none⟩ v).heap.size = wB.heap.size := by simp [World.setCell]
  simp only [List.mem_cons, not_or] at hb
  obtain ⟨b1, b2, b3, b4⟩ := hb
  have KS : Keeps [b] w (w.setCell ⟨b, i, none⟩ v) := (Keeps.refl _ _).set (.inl (by simp)) _
  refine ⟨⟨hp.ok, hp.wn, hp.sm, hp.sn, fun k hk => by rw [hz]; exact hp.lt k hk⟩, m, pl, wb, wcap, x, ci, h1.keep KS (fun k hk hm => ?_), h2.set_ne (a := ⟨b, i, none⟩) (by simpa using fun e => b1 e.symm) _, h3.keep KS (by simpa using fun e => b2 e.symm), h4.keep KS (by simp; omega), ?_, by rw [hz]; exact h6, h7, h8.both (by simp [b1, b2, b4]) hl _⟩
  · simp only [List.mem_cons, List.not_mem_nil, or_false] at hm
    subst hm
    rcases List.mem_cons.1 hk with e | hk
    · exact b3 e
    · exact b4 hk
  · rw [hz]
    exact h5.keep KS (fun k hk hm => by
      simp only [List.mem_cons, List.not_mem_nil, or_false] at hm
      subst hm
      have := (h5.ge _ hk).1
      omega)

/-- Where none is open its definition stands on the world at hand. -/
theorem MShut.base {p : Nat} {a : DA} {l u : Int} {q : Sc} {c : Cfg} {mb nb ncap : Nat} {wB : World} {S : DS} {r : Nat} {w w' : World} (hp : MSep p a q c mb nb wB) (h : MShut p a l u q c mb nb ncap wB S r w) (hk : Keeps [] w w') : MSep p a q c mb nb w' ∧ MShut p a l u q c mb nb ncap w' S r w' := by
  obtain ⟨x1, l1, c1, x2, l2, c2, f, t, h1, h2, h3, h4⟩ := h.keep0 hk
  exact ⟨⟨hp.ok, hp.wn, hp.sm, hp.sn, fun k hk => Nat.lt_of_lt_of_le (hp.lt k hk) h4.size⟩, x1, l1, c1, x2, l2, c2, f, t, h1, h2, h3, Keeps.refl _ _⟩

end Go.Proofs.YtkoflpcpopmkkaaGreat
