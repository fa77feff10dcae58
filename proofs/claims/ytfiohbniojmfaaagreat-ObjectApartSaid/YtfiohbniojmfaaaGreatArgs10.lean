/- Slices of arrays of three whole numbers. -/
import Derived.Test.YtfiohbniojmfaaaGreatArgs
namespace Go.Proofs.YtfiohbniojmfaaaGreat
open Go.RowKit Go.ChangeShapes Go.WideShapes Go.Deep

section
variable {H : Type} {enc : TypeId × Value → H} {P : Program} {w : World} {base : Nat} {held : Bool}

theorem open_triples {t e k : TypeId} {q : IntKind} {a : Option Addr} {len cap : Nat} {d : DataW H} {p : List MemPlace} (ht : P.underlying t = some (.slice e)) (he : P.underlying e = some (.array 3 k)) (hk : P.underlying k = some (.int q)) (hce : P.cellsOf k = 1) (hC : P.cellsOf e = 3)
    (h : DataW.Trod enc P w base (fun _ => true) held t (.slice a len cap) d p) :
    ∃ f : Nat → Nat → Int, (len * 3 = 0 ∨ ∃ b off, a = some ⟨b, off, none⟩ ∧ b < w.heap.size ∧ ∀ i j, i < len → j < 3 → w.cell? ⟨b, off + (i * 3 + j), none⟩ = some (.int q (f i j)) ∧ (Lit.int q (f i j)).wf = true) ∧ len ≤ maxLen := by
  obtain ⟨fuel, hf⟩ := h
  rcases open_slice ht hf with ⟨hcs, _⟩ | ⟨x, l, c, m, n, D, Pl, hcs, _, hl, hm, hmm, _, hx⟩
  · simp [Value.cells] at hcs
    obtain ⟨rfl, rfl, rfl⟩ := hcs
    exact ⟨fun _ _ => 0, .inl (by simp), Nat.zero_le _⟩
  · simp [Value.cells] at hcs
    obtain ⟨rfl, rfl, rfl⟩ := hcs
    simp only [if_true] at hmm
    have hcell : ∀ i j, i < len → j < 3 → ∃ z, w.cell? (x.add (i * 3 + j)) = some (.int q z) ∧ (Lit.int q z).wf = true := by
      intro i j hi hj
      obtain ⟨cs', hc1, hc2⟩ := hx i (by omega)
      rw [hC] at hc1
      obtain ⟨_, hcl, hat⟩ := World.cells?_some hc1
      match cs', hcl with
      | [c0, c1, c2], _ =>
        have key : ∃ y0 y1 y2, c0 = .int q y0 ∧ c1 = .int q y1 ∧ c2 = .int q y2 ∧ (Lit.int q y0).wf = true ∧ (Lit.int q y1).wf = true ∧ (Lit.int q y2).wf = true := by
          cases n with
          | zero => simp [DataW.trod] at hc2
          | succ n =>
            unfold DataW.trod at hc2
            rw [he] at hc2
            have r2 : List.range 3 = [0, 1, 2] := rfl
            simp [r2, hce] at hc2
            cases h0 : DataW.trod enc P w base (fun _ => true) held n k [c0] with
            | none => simp [h0] at hc2
            | some y0 =>
              cases h1 : DataW.trod enc P w base (fun _ => true) held n k [c1] with
              | none => simp [h0, h1] at hc2
              | some y1 =>
                cases h2 : DataW.trod enc P w base (fun _ => true) held n k [c2] with
                | none => simp [h0, h1, h2] at hc2
                | some y2 =>
                  obtain ⟨a0, e0, _, wa⟩ := DataW.trod_int hk h0
                  obtain ⟨b0, e1, _, wb⟩ := DataW.trod_int hk h1
                  obtain ⟨d0, e2, _, wd⟩ := DataW.trod_int hk h2
                  simp at e0 e1 e2
                  exact ⟨a0, b0, d0, e0, e1, e2, wa, wb, wd⟩
        obtain ⟨y0, y1, y2, rfl, rfl, rfl, w0, w1, w2⟩ := key
        have h2 := hat j hj
        rw [Go.Deep.add_add] at h2
        match j, hj with
        | 0, _ => exact ⟨y0, by rw [h2]; rfl, w0⟩
        | 1, _ => exact ⟨y1, by rw [h2]; rfl, w1⟩
        | 2, _ => exact ⟨y2, by rw [h2]; rfl, w2⟩
    by_cases h0 : len * 3 = 0
    · exact ⟨fun _ _ => 0, .inl h0, Nat.le_trans hl hm⟩
    · have hlen : 0 < len := by omega
      obtain ⟨b, off, spot⟩ := x
      obtain ⟨z0, h00, _⟩ := hcell 0 0 hlen (by omega)
      have hspot : spot = none := by simpa [Addr.add] using World.cell?_spot h00
      subst hspot
      have hch : ∃ f : Nat → Nat → Int, ∀ i j, i < len → j < 3 → w.cell? ((⟨b, off, none⟩ : Addr).add (i * 3 + j)) = some (.int q (f i j)) ∧ (Lit.int q (f i j)).wf = true := by
        refine ⟨fun i j => if h : i < len ∧ j < 3 then (hcell i j h.1 h.2).choose else 0, fun i j hi hj => ?_⟩
        simp only [hi, hj, and_self, dif_pos]
        exact (hcell i j hi hj).choose_spec
      obtain ⟨f, hf'⟩ := hch
      refine ⟨f, .inr ⟨b, off, rfl, ?_, fun i j hi hj => ?_⟩, Nat.le_trans hl hm⟩
      · have := (hf' 0 0 hlen (by omega)).1
        rw [Go.WideShapes.add_plain] at this
        unfold World.cell? at this
        rcases Nat.lt_or_ge b w.heap.size with h1 | h1
        · exact h1
        · rw [Array.getElem?_eq_none h1] at this; simp at this
      · have := hf' i j hi hj
        rwa [Go.WideShapes.add_plain] at this

end
end Go.Proofs.YtfiohbniojmfaaaGreat
