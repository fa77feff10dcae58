/- One step, on a device and by definition: any. -/
import Derived.Test.YtbpoifcldjlblaaDoC
namespace Go.Proofs.Ytbpoifcldjlblaa
open Go.RowKit

def DoAny (p : Nat) (a : DA) (x : MA) (l u : Int) (w : World) (e : Ending) (w' : World) : Prop := ∃ u', (u' = u ∨ u' = u + 1) ∧ DoPost p a x l u' w e w'

/-- Do, the power staying. -/
theorem do_at (w : World) (p : Nat) (a : DA) (x : MA) (S : DS) (l u : Int) (h : Dev w p a S) (hp : At w p (powO l u)) (hm : MDev w x a.n S.ms) (hsep : Sep p a x) (d q v bits : Int) (hq : 0 ≤ q ∧ q ≤ 255) (hd : 0 ≤ d ∧ d ≤ 255)
    (hu0 : 0 ≤ u) (hu1 : u < 9223372036854775807) (hst : Stays l u) :
    Calls Try.prog 14 #[ptr x.m, ptr a.d, stepV d q v bits] w (DoAny p a x l u w) := by
  by_cases h5 : d % 7 = 5
  · exact (do_fence w p a x S l u h hp hm hsep d q v bits hq hd h5 hu0 hu1 hst).mono fun e w' hh => ⟨u + 1, .inr rfl, hh⟩
  · by_cases h6 : d % 7 = 6
    · exact (do_crash w p a x S l u h hp hm hsep d q v bits hq hd h6).mono fun e w' hh => ⟨u, .inl rfl, hh⟩
    · by_cases hi : 0 ≤ idx a.n q ∧ idx a.n q < a.n
      · obtain ⟨k, hk⟩ := Int.eq_ofNat_of_zero_le hi.1
        by_cases h4 : d % 7 = 4
        · exact (do_flush w p a x S l u h hp hm hsep d q v bits hq hd k (by omega) h4 hu0 hu1 hst hk).mono fun e w' hh => ⟨u + 1, .inr rfl, hh⟩
        · exact (do_store w p a x S l u h hp hm hsep d q v bits hq hd k (by omega) (by omega) hu0 hu1 hst hk).mono fun e w' hh => ⟨u + 1, .inr rfl, hh⟩
      · by_cases h4 : d % 7 = 4
        · exact (do_flush_out w p a x S l u h hp hm hsep d q v bits hq hd hi h4).mono fun e w' hh => ⟨u, .inl rfl, hh⟩
        · exact (do_store_out w p a x S l u h hp hm hsep d q v bits hq hd hi (by omega)).mono fun e w' hh => ⟨u, .inl rfl, hh⟩

/-- Do, of a word that there is, no crash: the power stays. -/
theorem do_stays (w : World) (p : Nat) (a : DA) (x : MA) (S : DS) (l u : Int) (h : Dev w p a S) (hp : At w p (powO l u)) (hm : MDev w x a.n S.ms) (hsep : Sep p a x) (d q v bits : Int) (hq : 10 < q ∧ q ≤ 255) (hd : 0 ≤ d ∧ d ≤ 255) (hn : 0 < a.n) (h6 : d % 7 ≠ 6)
    (hu0 : 0 ≤ u) (hu1 : u < 9223372036854775807) (hst : Stays l u) :
    Calls Try.prog 14 #[ptr x.m, ptr a.d, stepV d q v bits] w (DoPost p a x l (u + 1) w) := by
  have hi : 0 ≤ idx a.n q ∧ idx a.n q < a.n := by
    unfold idx
    rw [if_pos ⟨hn, hq.1⟩]
    exact ⟨Int.emod_nonneg q (by omega), Int.emod_lt_of_pos q (by omega)⟩
  obtain ⟨k, hk⟩ := Int.eq_ofNat_of_zero_le hi.1
  by_cases h5 : d % 7 = 5
  · exact do_fence w p a x S l u h hp hm hsep d q v bits (by omega) hd h5 hu0 hu1 hst
  · by_cases h4 : d % 7 = 4
    · exact do_flush w p a x S l u h hp hm hsep d q v bits (by omega) hd k (by omega) h4 hu0 hu1 hst hk
    · exact do_store w p a x S l u h hp hm hsep d q v bits (by omega) hd k (by omega) (by omega) hu0 hu1 hst hk

/-- .. and as it goes. -/
theorem do_goes (w : World) (p : Nat) (a : DA) (x : MA) (S : DS) (u : Int) (h : Dev w p a S) (hp : At w p (powO u u)) (hm : MDev w x a.n S.ms) (hsep : Sep p a x) (d q v bits : Int) (hq : 10 < q ∧ q ≤ 255) (hd : 0 ≤ d ∧ d ≤ 255) (hn : 0 < a.n) (h6 : d % 7 ≠ 6)
    (hu0 : 0 ≤ u) (hu1 : u < 9223372036854775807) :
    Calls Try.prog 14 #[ptr x.m, ptr a.d, stepV d q v bits] w (DoGone p a x S u u w) := by
  have hi : 0 ≤ idx a.n q ∧ idx a.n q < a.n := by
    unfold idx
    rw [if_pos ⟨hn, hq.1⟩]
    exact ⟨Int.emod_nonneg q (by omega), Int.emod_lt_of_pos q (by omega)⟩
  obtain ⟨k, hk⟩ := Int.eq_ofNat_of_zero_le hi.1
  by_cases h5 : d % 7 = 5
  · exact do_fence_goes w p a x S u u h hp hm hsep d q v bits (by omega) hd h5 hu0 hu1 rfl
  · by_cases h4 : d % 7 = 4
    · exact do_flush_goes w p a x S u u h hp hm hsep d q v bits (by omega) hd k (by omega) h4 hu0 hu1 rfl hk
    · exact do_store_goes w p a x S u u h hp hm hsep d q v bits (by omega) hd k (by omega) (by omega) hu0 hu1 rfl hk

end Go.Proofs.Ytbpoifcldjlblaa
