/- What the law CheneyCopies counts: keys of a map, copies one behind the other. -/
import Derived.Test.YtbalmmnggfgpkaaGreatTwo
import Derived.Test.YtbalmmnggfgpkaaGreatRea
namespace Go.Proofs.YtbalmmnggfgpkaaGreat
open Go.RowKit Go.OpenShut Go.MapKept

def keyZ : Value → Int | .int _ k => k | _ => 0
/-- How many keys. -/
theorem IMap.lenK {P : Program} {w : World} {b m : Nat} {E : Int → Option Value} {pl : Nat → Nat} (h : IMap w b E) (hk : ∀ k, k < m → (E (pl k)).isSome = true) (ho : ∀ z v, E z = some v → ∃ k, k < m ∧ z = (pl k : Int)) (hi : ∀ j k, j < m → k < m → pl j = pl k → j = k)
    {t kt et : TypeId} (ht : P.underlying t = some (.map kt et)) (ty : TypeId) : (Builtin.len_ #[t] ty #[.map (some b)]).run P w = .ok (.int .i64 (m : Int)) w := by
  obtain ⟨es, clock, hb, hE⟩ := h
  have hkey : ∀ x ∈ es.toList, x.key = .int .i64 (keyZ x.key) ∧ (E (keyZ x.key)).isSome = true := fun x hx => by
    obtain ⟨k, h1, h2⟩ := hE.reads x hx
    rw [h1]
    exact ⟨rfl, by show (E k).isSome = true; rw [h2]; rfl⟩
  have hnd : (es.toList.map fun x => keyZ x.key).Nodup := by
    have h1 := hE.st.2.2
    refine List.pairwise_map.2 ((List.pairwise_map.1 h1).imp_of_mem ?_)
    intro x y hx hy hne he
    apply hne
    rw [(hkey x hx).1, (hkey y hy).1, he]
  have hnd2 : ((List.range m).map fun k => ((pl k : Nat) : Int)).Nodup := by
    refine List.pairwise_map.2 (List.nodup_range.imp_of_mem ?_)
    intro x y hx hy hne he
    exact hne (hi x y (List.mem_range.1 hx) (List.mem_range.1 hy) (by omega))
  have hp : (es.toList.map fun x => keyZ x.key).Perm ((List.range m).map fun k => ((pl k : Nat) : Int)) := by
    refine (List.perm_ext_iff_of_nodup hnd hnd2).2 fun z => ?_
    constructor
    · intro hz
      obtain ⟨x, hx, rfl⟩ := List.mem_map.1 hz
      obtain ⟨v, hv⟩ := Option.isSome_iff_exists.1 (hkey x hx).2
      obtain ⟨k, h1, h2⟩ := ho _ v hv
      exact List.mem_map.2 ⟨k, List.mem_range.2 h1, h2.symm⟩
    · intro hz
      obtain ⟨k, hk1, rfl⟩ := List.mem_map.1 hz
      obtain ⟨v, hv⟩ := Option.isSome_iff_exists.1 (hk k (List.mem_range.1 hk1))
      obtain ⟨x, hx, hxk⟩ := hE.has _ v hv
      exact List.mem_map.2 ⟨x, hx, by rw [hxk]; rfl⟩
  have e1 : es.size = m := by have := hp.length_eq; simpa using this
  rw [← e1]
  simp [Builtin.len_, run_underlying ht, MapKept.run_getObj_map hb, goInt, Result.andThen]

/-- The places that were gone over, and where their copies are. -/
def SeenC (S : DS) (c : Cfg) (k : Nat) (LS : List Nat) (ps : Nat → Nat) (i : Nat) (E : Int → Option Value) : Prop :=
  (∀ j, j < i → ps j ∈ LS → (E (wtC S c k LS (ps j) : Nat)).isSome = true) ∧ ∀ z v, E z = some v → ∃ j, j < i ∧ ps j ∈ LS ∧ z = ((wtC S c k LS (ps j) : Nat) : Int)

section
variable {S : DS} {c : Cfg} {k i : Nat} {LS : List Nat} {ps : Nat → Nat} {E : Int → Option Value}

theorem seenC_start (S : DS) (c : Cfg) (k : Nat) (LS : List Nat) (ps : Nat → Nat) : SeenC S c k LS ps 0 (fun _ => none) := ⟨fun j h => by omega, fun z v h => by cases h⟩
theorem SeenC.no (h : SeenC S c k LS ps i E) (hi : ps i ∉ LS) : SeenC S c k LS ps (i + 1) E := by
  refine ⟨fun j hj hm => ?_, fun z v hz => ?_⟩
  · by_cases hji : j = i
    · subst hji; exact absurd hm hi
    · exact h.1 j (by omega) hm
  · obtain ⟨j, h1, h2⟩ := h.2 z v hz
    exact ⟨j, by omega, h2⟩
theorem SeenC.yes (h : SeenC S c k LS ps i E) (hi : ps i ∈ LS) (v : Value) : SeenC S c k LS ps (i + 1) (fun z => if z = ((wtC S c k LS (ps i) : Nat) : Int) then some v else E z) := by
  refine ⟨fun j hj hm => ?_, fun z v' hz => ?_⟩
  · show (if ((wtC S c k LS (ps j) : Nat) : Int) = ((wtC S c k LS (ps i) : Nat) : Int) then some v else E ((wtC S c k LS (ps j) : Nat) : Int)).isSome = true
    split
    · rfl
    · rename_i hne
      refine h.1 j ?_ hm
      by_cases hji : j = i
      · subst hji; exact absurd rfl hne
      · omega
  · have hz : (if z = ((wtC S c k LS (ps i) : Nat) : Int) then some v else E z) = some v' := hz
    split at hz
    · rename_i he
      exact ⟨i, by omega, hi, he⟩
    · obtain ⟨j, h1, h2⟩ := h.2 z v' hz
      exact ⟨j, by omega, h2⟩
/-- As many as were reached. -/
theorem SeenC.len {P : Program} {w : World} {b : Nat} (h : SeenC S c k LS ps i E) (hM : IMap w b E) (hn : LS.Nodup) (hall : ∀ x ∈ LS, ∃ j, j < i ∧ ps j = x) {t kt et : TypeId} (ht : P.underlying t = some (.map kt et)) (ty : TypeId) :
    (Builtin.len_ #[t] ty #[.map (some b)]).run P w = .ok (.int .i64 (LS.length : Int)) w := by
  have hpl : ∀ q, q < LS.length → ∃ x, LS[q]? = some x := fun q hq => ⟨_, List.getElem?_eq_getElem hq⟩
  refine hM.lenK (m := LS.length) (pl := plC S c k LS) (fun q hq => ?_) (fun z v hz => ?_) (fun q r hq hr he => ?_) ht ty
  · obtain ⟨x, hx⟩ := hpl q hq
    obtain ⟨j, h1, h2⟩ := hall x (List.mem_of_getElem? hx)
    have h3 := h.1 j h1 (by rw [h2]; exact List.mem_of_getElem? hx)
    rw [h2, wtC_at hn hx] at h3
    exact h3
  · obtain ⟨j, h1, h2, h3⟩ := h.2 z v hz
    have h4 := idx_get h2
    exact ⟨LS.idxOf (ps j), (List.getElem?_eq_some_iff.1 h4).1, by rw [h3, wtC_at hn h4]⟩
  · obtain ⟨x, hx⟩ := hpl q hq
    obtain ⟨y, hy⟩ := hpl r hr
    exact plC_inj hx hy he

end
end Go.Proofs.YtbalmmnggfgpkaaGreat

