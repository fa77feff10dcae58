/- A row of words, turned round. -/
import Derived.Test.YtbalmmnggfgpkaaGreatRob
namespace Go.Proofs.YtbalmmnggfgpkaaGreat
open Go.RowKit Go.OpenShut

/-- A word of a row is set. -/
theorem OwnU.put {w : World} {B g cp n : Nat} {f : Nat → Int} (h : OwnU w B (some ⟨g, 0, none⟩) cp n f) {i : Nat} (hi : i < n) (v : Int) : OwnU (w.setCell ⟨g, i, none⟩ (.int .u64 v)) B (some ⟨g, 0, none⟩) cp n (put f i v) := by
  obtain ⟨h0, ⟨h1, _⟩ | ⟨g', cap, cur, h1, h2, h3, h4, h5, h6, h7⟩⟩ := h
  · cases h1
  · cases h1
    refine ⟨by simp, .inr ⟨g, cp, cur.setIfInBounds i (.int .u64 v), rfl, h2, At.set (show At w g (.cells cur 40) from h3) i (.int .u64 v), h4, h5, by simpa using h6, ?_⟩⟩
    apply List.ext_getElem?
    intro j
    have e : (cur.toList.take (n * 1))[j]? = ((List.range n).map fun i => Value.int .u64 (f i))[j]? := by rw [h7]
    by_cases hj : j < n
    · rw [List.getElem?_take_of_lt (by omega), Array.getElem?_toList] at e
      rw [List.getElem?_take_of_lt (by omega), Array.getElem?_toList, Array.getElem?_setIfInBounds]
      unfold Go.Proofs.YtbalmmnggfgpkaaGreat.put
      by_cases hji : i = j
      · subst hji
        rw [if_pos rfl]
        have hc : i < cur.size := by
          rw [List.getElem?_map, List.getElem?_range hi] at e
          exact (Array.getElem?_eq_some_iff.1 e).1
        rw [if_pos hc]
        simp [hi]
      · rw [if_neg hji, e]
        simp only [List.getElem?_map, List.getElem?_range hj, Option.map_some]
        rw [if_neg (fun e => hji e.symm)]
    · rw [List.getElem?_eq_none (by simp; omega), List.getElem?_eq_none (by simp; omega)]

/-- The first k words and the last k ones are changed. -/
def rvF (n : Nat) (f : Nat → Int) (k i : Nat) : Int := if i < k ∨ n ≤ i + k then f (n - 1 - i) else f i

theorem rvF_step {n : Nat} {f : Nat → Int} {k i : Nat} (h : 2 * k + 1 < n) : put (put (rvF n f k) k (rvF n f k (n - 1 - k))) (n - 1 - k) (rvF n f k k) i = if i < n then rvF n f (k + 1) i else put (put (rvF n f k) k (rvF n f k (n - 1 - k))) (n - 1 - k) (rvF n f k k) i := by
  split
  · rename_i hi
    unfold put rvF
    by_cases h1 : i = n - 1 - k
    · subst h1
      rw [if_pos rfl, if_neg (by omega), if_pos (by omega)]
      congr 1
      omega
    · rw [if_neg h1]
      by_cases h2 : i = k
      · subst h2
        rw [if_pos rfl, if_neg (by omega), if_pos (by omega)]
      · rw [if_neg h2]
        by_cases h3 : i < k ∨ n ≤ i + k
        · rw [if_pos h3, if_pos (by omega)]
        · rw [if_neg h3, if_neg (by omega)]
  · rfl

set_option maxRecDepth 100000 in
set_option maxHeartbeats 4000000 in
theorem reverse13_at (w : World) (B g cp n : Nat) (f : Nat → Int) (h : OwnU w B (some ⟨g, 0, none⟩) cp n f) (hn : n ≤ 100000) :
    Calls Tryz.prog 31 #[.slice (some ⟨g, 0, none⟩) n cp] w fun e w' => e = .returned (.tuple #[]) ∧ OwnU w' B (some ⟨g, 0, none⟩) cp n (fun i => f (n - 1 - i)) ∧ Keeps [g] w w' := by
  have hni : (n : Int) ≤ 100000 := by omega
  have H := hid h
  clear h
  go_enter Tryz.func31, Tryz.ntmps31
  go_wp2_with fail
  go_loopg [2, 3] n (fun rr s2 s3 wr => ∃ k : Nat, k + rr = n ∧ (2 * k ≤ n + 1) ∧ s2 = .int .i64 k ∧ s3 = .int .i64 ((n : Int) - 1 - k) ∧ OwnU wr B (some ⟨g, 0, none⟩) cp n (rvF n f k) ∧ Keeps [g] w wr)
  case atStart => exact ⟨0, by omega, by omega, rfl, by simp, H.out.eq (fun i hi => by unfold rvF; rw [if_neg (by omega)]), Keeps.refl _ _⟩
  case round =>
    obtain ⟨k, hk, hk2, rfl, rfl, hO, hK⟩ := hrel
    by_cases hlt : 2 * k + 1 < n
    · obtain ⟨j, hj⟩ : ∃ j, j = n - 1 - k := ⟨_, rfl⟩
      have hjk : (n : Int) - 1 - (k : Int) = (j : Int) := by omega
      rw [hjk]
      obtain ⟨va, hva⟩ : ∃ v, v = rvF n f k k := ⟨_, rfl⟩
      obtain ⟨vb, hvb⟩ : ∃ v, v = rvF n f k j := ⟨_, rfl⟩
      obtain ⟨_, cur, hx, hgB, hA, hc⟩ := hO.form.resolve_left (by simp)
      injection hx with hx
      injection hx with hx
      subst hx
      have d1 := hA.cell k (hc k (by omega))
      have d2 := hA.cell j (hc j (by omega))
      rw [← hva] at d1
      rw [← hvb] at d2
      have f1 := hA.free k
      have f2 := hA.free j
      have hkn : (k : Int) < (n : Int) := by omega
      have hjn : (j : Int) < (n : Int) := by omega
      have hkj : (k : Int) < (j : Int) := by omega
      have hne : ¬ k = j := by omega
      have hne2 : ¬ (k : Int) = (j : Int) := by omega
      have hne3 : ¬ j = k := by omega
      have hO1 := (hO.put (show k < n by omega) vb).put (show j < n by omega) va
      have HO1 : Hid (OwnU ((wr.setCell ⟨g, k, none⟩ (.int .u64 vb)).setCell ⟨g, j, none⟩ (.int .u64 va)) B (some ⟨g, 0, none⟩) cp n (rvF n f (k + 1)) ∧ Keeps [g] w ((wr.setCell ⟨g, k, none⟩ (.int .u64 vb)).setCell ⟨g, j, none⟩ (.int .u64 va))) := by
        refine ⟨hO1.eq fun i hi => ?_, (hK.set (p := ⟨g, k, none⟩) (.inl (by simp)) _).set (p := ⟨g, j, none⟩) (.inl (by simp)) _⟩
        have := rvF_step (f := f) (i := i) hlt
        rw [if_pos hi, ← hj, ← hva, ← hvb] at this
        exact this
      have HKK := hid (And.intro hk (And.intro hlt hj))
      clear hO hK hO1 hA hc hgB hva hvb hj hk hk2 hlt
      go_wp2_with fail
      go_region
      all_goals
        have hj1 : (j : Int) - 1 = (n : Int) - 1 - ((k + 1 : Nat) : Int) := by omega
        have HJ1 := hid hj1
        clear hj1 hjk d1 d2 f1 f2 hne hne2 hne3
        go_wp2_with fail
        go_roundg (n - (k + 1))
        case measure => (have := HKK.out; omega)
        case rel => exact ⟨k + 1, by have := HKK.out; omega, by have := HKK.out; omega, by go_num, by rw [← HJ1.out], HO1.out.1.keep ((Keeps.refl [] _).drew) (by simp), HO1.out.2.drew⟩
    · have HE : Hid (∀ i, i < n → rvF n f k i = f (n - 1 - i)) := fun i hi => by
        unfold rvF
        by_cases h : i < k ∨ n ≤ i + k
        · rw [if_pos h]
        · rw [if_neg h]
          congr 1
          omega
      have HO := hid hO
      have HK := hid hK
      have t1 : decide ((k : Int) < (n : Int) - 1 - (k : Int)) = false := decide_eq_false (by omega)
      have t2 : (n : Int) - 1 - (k : Int) ≤ (k : Int) := by omega
      clear hO hK hk hk2 hlt
      go_wp2_with fail
      go_end0
      exact ⟨rfl, HO.out.eq HE.out, HK.out⟩

end Go.Proofs.YtbalmmnggfgpkaaGreat

