/- Rows of words that a law writes, from a place on. -/
import Derived.Test.YtfiohbniojmfaaaGreatSecF
import Derived.Test.YtfiohbniojmfaaaGreatAwk7
namespace Go.Proofs.YtfiohbniojmfaaaGreat
open Go.RowKit Go.OpenShut

/-- A row of words in a block of its own, from a place on. -/
def OwnAt (w : World) (g off n : Nat) (f : Nat → Int) : Prop := ∃ cur, At w g (.cells cur 33 (0, 0)) ∧ ∀ i, i < n → cur[off + i]? = some (.int .u64 (f i))

theorem OwnAt.lt {w : World} {g off n : Nat} {f : Nat → Int} (h : OwnAt w g off n f) : g < w.heap.size := by
  obtain ⟨_, h, _⟩ := h
  exact h.lt

theorem OwnAt.keep {S : List Nat} {w w' : World} {g off n : Nat} {f : Nat → Int} (h : OwnAt w g off n f) (hk : Keeps S w w') (hg : g ∉ S) : OwnAt w' g off n f := by
  obtain ⟨cur, h1, h2⟩ := h
  exact ⟨cur, hk.at h1 hg, h2⟩

theorem OwnAt.cell {w : World} {g off n : Nat} {f : Nat → Int} (h : OwnAt w g off n f) {i : Nat} (hi : i < n) : w.cell? ⟨g, off + i, none⟩ = some (.int .u64 (f i)) ∧ w.frozen? ⟨g, off + i, none⟩ = false := by
  obtain ⟨cur, h1, h2⟩ := h
  exact ⟨h1.cell _ (h2 i hi), h1.free _⟩

theorem OwnAt.reads {w : World} {g off n : Nat} {f : Nat → Int} (h : OwnAt w g off n f) : Reads w (some ⟨g, off, none⟩) n f := .inr ⟨g, off, rfl, h.lt, fun _ hi => (h.cell hi).1⟩

theorem OwnAt.put {w : World} {g off n : Nat} {f : Nat → Int} (h : OwnAt w g off n f) {i : Nat} (hi : i < n) (v : Int) : OwnAt (w.setCell ⟨g, off + i, none⟩ (.int .u64 v)) g off n (put f i v) := by
  obtain ⟨cur, h1, h2⟩ := h
  refine ⟨_, h1.set (off + i) (.int .u64 v), fun j hj => ?_⟩
  have hc := h2 i hi
  have hl : off + i < cur.size := by
    rcases Nat.lt_or_ge (off + i) cur.size with h | h
    · exact h
    · rw [Array.getElem?_eq_none h] at hc; cases hc
  unfold Go.Proofs.YtfiohbniojmfaaaGreat.put
  rw [Array.getElem?_setIfInBounds]
  by_cases hji : j = i
  · subst hji
    simp [hl]
  · rw [if_neg (by omega), if_neg hji]
    exact h2 j hj

theorem OwnAt.congr {w : World} {g off n : Nat} {f f' : Nat → Int} (h : OwnAt w g off n f) (he : ∀ i, i < n → f i = f' i) : OwnAt w g off n f' := by
  obtain ⟨cur, h1, h2⟩ := h
  exact ⟨cur, h1, fun i hi => by rw [h2 i hi, he i hi]⟩

set_option maxRecDepth 100000 in
set_option maxHeartbeats 1000000 in
theorem words7_own (w : World) (p : Nat) (a : DA) (S : DS) (c : Cfg) (h : Dev w p a S) (hc : c.Ok) (hn : c.words = a.n) :
    Calls Tryz.prog 18 #[ptr a.d, cfgV c] w fun e w' => ∃ g cap, e = .returned (.slice (some ⟨g, c.act, none⟩) (a.n - c.act) cap) ∧ w.heap.size ≤ g ∧ OwnAt w' g c.act (a.n - c.act) (fun i => S.now (c.act + i)) ∧ a.n - c.act ≤ cap ∧ Keeps [] w w' := by
  have hs := hc.small
  obtain ⟨p1, p2, p3, p4⟩ := places hc
  have hw := words_ge hc
  have hab : (c.act : Int) ≤ 823 := by have := act_le hs; omega
  have hal : c.act ≤ a.n := by omega
  have hal1 : c.act < a.n := by omega
  have hnb : (a.n : Int) ≤ 15000 := by omega
  have HN := hid hn
  have D0 := h.keep ((Keeps.refl [] w).alloc (cfgO c)) (by simp) (by simp) (by simp) (by simp)
  have hB0 := At.new w (cfgO c)
  have K0 := (Keeps.refl [] w).alloc (cfgO c)
  clear p1 p2 p3 p4 hw hn
  go_enter Tryz.func18, Tryz.ntmps18
  go_wp2_with fail
  refine (words_at _ p a S D0).mono ?_
  rintro e w1 ⟨v1, rfl, hv1, hk1⟩
  obtain ⟨g, cap, cur, rfl, hg, hA, hcap, hcm, hcs, hcur⟩ := hv1
  have hR : OwnAt w1 g c.act (a.n - c.act) (fun i => S.now (c.act + i)) := ⟨cur, hA, fun i hi => hcur _ (by omega)⟩
  have hB1 := hk1.at hB0 (by simp)
  have K1 := K0.trans hk1
  have hgw : w.heap.size ≤ g := by simp at hg; omega
  have HR := hid hR
  clear hR hg hA hcm hcs hcur K0 hk1
  have c0 := hB1.cell 0 rfl
  have c1 := hB1.cell 1 rfl
  have c2 := hB1.cell 2 rfl
  go_wp2_with fail
  refine (cwords_at w1 c hs).mono ?_
  rintro e w2 ⟨rfl, hk2⟩
  rw [HN.out]
  have hB2 := hk2.at hB1 (by simp)
  have K2 := K1.trans hk2
  have HR2 := hid (HR.out.keep hk2 (by simp))
  clear c0 c1 c2
  have c0 := hB2.cell 0 rfl
  have c1 := hB2.cell 1 rfl
  have c2 := hB2.cell 2 rfl
  go_wp2_with fail
  refine (active_at w2 c hs).mono ?_
  rintro e w3 ⟨rfl, hk3⟩
  have HR3 := hid (HR2.out.keep hk3 (by simp))
  have K3 := K2.trans hk3
  clear c0 c1 c2
  have hcc : c.act ≤ cap := by omega
  have hci : (c.act : Int) ≤ (a.n : Int) := by omega
  have hci2 : (a.n : Int) ≤ (cap : Int) := by omega
  have hne : ¬ cap = c.act := by omega
  go_wp2_with fail
  go_ret
  exact ⟨g, _, rfl, hgw, HR3.out, by omega, K3⟩

/-- A word is stored for which there is room. -/
theorem sput_f {w : World} {p : Nat} {a : DA} {u : Int} {S : DS} {q : Sc} {c : Cfg} {m r : Nat} {f t : Int} {pl : Nat → Nat} {D : Nat → Int} (h : OpenW p a u S q c m r pl D f t w) (hc : c.Ok) (hn : c.words = a.n) (hb : u < 1000000) (hrb : r < 4294967296) (i : Nat) (v : Int) (hi : c.act ≤ i ∧ i < a.n) (hm : m < c.log) :
    Calls Tryz.prog 65 #[ptr q.b, .int .i64 i, .int .u64 v] w fun e w' => e = .returned (.int .i64 0) ∧ ∃ u' S' m' pl', OpenW p a u' S' q c m' r pl' D f t w' ∧ m' ≤ m + 1 ∧ (∀ j, c.act ≤ j → j < a.n → S'.now j = if j = i then v else S.now j) ∧ u' ≤ u + 3000 ∧ Keeps (q.bl p a) w w' := by
  by_cases hp : freshB f t (i : Nat) = true ∨ HasP m pl i
  · refine (sstore_f_old h hc hn hb i v hi hp).mono ?_
    rintro e w' ⟨rfl, u', S', h1, h2, h3, h4⟩
    exact ⟨rfl, u', S', m, pl, h1, by omega, h2, h3, h4⟩
  · have hf : freshB f t (i : Nat) = false := by
      cases hf : freshB f t (i : Nat) with
      | true => exact absurd (.inl hf) hp
      | false => rfl
    refine (sstore_f_new h hc hn hb hrb i v hi hf (fun h => hp (.inr h)) hm).mono ?_
    rintro e w' ⟨rfl, u', S', h1, h2, h3, h4⟩
    exact ⟨rfl, u', S', m + 1, _, h1, by omega, h2, h3, h4⟩

end Go.Proofs.YtfiohbniojmfaaaGreat
