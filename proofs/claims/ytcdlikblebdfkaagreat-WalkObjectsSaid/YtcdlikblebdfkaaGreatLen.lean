/- How many objects a map of where they begin has; one of them. -/
import Derived.Test.YtcdlikblebdfkaaGreatKeysM
import Derived.Test.YtcdlikblebdfkaaGreatStt
namespace Go.Proofs.YtcdlikblebdfkaaGreat
open Go.RowKit Go.OpenShut Go.MapKept

/-- How many keys. -/
theorem IMap.lenN {P : Program} {w : World} {b m : Nat} {E : Int → Option Value} {pl : Nat → Nat} (h : IMap w b E) (hk : ∀ k, k < m → (E (pl k)).isSome = true) (ho : ∀ z v, E z = some v → ∃ k, k < m ∧ z = (pl k : Int)) (hi : ∀ j k, j < m → k < m → pl j = pl k → j = k)
    {t kt et : TypeId} (ht : P.underlying t = some (.map kt et)) (ty : TypeId) : (Builtin.len_ #[t] ty #[.map (some b)]).run P w = .ok (.int .i64 (m : Int)) w := by
  obtain ⟨es, clock, hb, hE⟩ := h
  have hkey : ∀ x ∈ es.toList, x.key = .int .i64 (keyI x.key) ∧ (E (keyI x.key)).isSome = true := fun x hx => by
    obtain ⟨k, h1, h2⟩ := hE.reads x hx
    rw [h1]
    exact ⟨rfl, by show (E k).isSome = true; rw [h2]; rfl⟩
  have hnd : (es.toList.map fun x => keyI x.key).Nodup := by
    have h1 := hE.st.2.2
    refine List.pairwise_map.2 ((List.pairwise_map.1 h1).imp_of_mem ?_)
    intro x y hx hy hne he
    apply hne
    rw [(hkey x hx).1, (hkey y hy).1, he]
  have hnd2 : ((List.range m).map fun k => ((pl k : Nat) : Int)).Nodup := by
    refine List.pairwise_map.2 (List.nodup_range.imp_of_mem ?_)
    intro x y hx hy hne he
    exact hne (hi x y (List.mem_range.1 hx) (List.mem_range.1 hy) (by omega))
  have hp : (es.toList.map fun x => keyI x.key).Perm ((List.range m).map fun k => ((pl k : Nat) : Int)) := by
    refine (List.perm_ext_iff_of_nodup hnd hnd2).2 fun z => ?_
    constructor
    · intro hz
      obtain ⟨x, hx, rfl⟩ := List.mem_map.1 hz
      obtain ⟨v, hv⟩ := Option.isSome_iff_exists.1 (hkey x hx).2
      obtain ⟨k, h1, h2⟩ := ho _ v hv
      exact List.mem_map.2 ⟨k, List.mem_range.2 h1, h2.symm⟩
    · intro hz
      obtain ⟨k, hk1, rfl⟩ := List.mem_map.1 hz
      obtain ⟨v, hv⟩ := Option.isSome_iff_exists.1 (hk k (List.mem_range.1 hk1))
      obtain ⟨x, hx, hxk⟩ := hE.has _ v hv
      exact List.mem_map.2 ⟨x, hx, by rw [hxk]; rfl⟩
  have e1 : es.size = m := by have := hp.length_eq; simpa using this
  rw [← e1]
  simp [Builtin.len_, run_underlying ht, MapKept.run_getObj_map hb, goInt, Result.andThen]

theorem stD_len {w : World} {mb : Nat} {c : Cfg} {k : Nat} {l : List (Nat × Nat)} (h : IMap w mb (stD c k l l.length)) :
    (Builtin.len_ #[50] 3 #[.map (some mb)]).run Tryz.prog w = .ok (.int .i64 (l.length : Int)) w :=
  h.lenN (m := l.length) (pl := fun i => c.frm k + posL l i) (fun i hi => by rw [stD_at hi (Nat.le_refl _)]; rfl) (fun z v hv => by obtain ⟨i, h1, h2, _⟩ := stD_some (Nat.le_refl _) hv; exact ⟨i, h1, h2⟩)
    (fun i j hi hj e => posL_inj (Nat.le_of_lt hi) (Nat.le_of_lt hj) (by have : c.frm k + posL l i = c.frm k + posL l j := e; omega)) Tryz.underlying50 _

theorem zeroO (w : World) : (zeroValue 44).run Tryz.prog w = .ok (obV 0 0 0) w := by kernel_rfl

theorem stD_lookup {w : World} {mb : Nat} {c : Cfg} {k : Nat} {l : List (Nat × Nat)} (h : IMap w mb (stD c k l l.length)) {i : Nat} (hi : i < l.length) (z : Int) (hz : z = ((c.frm k + posL l i : Nat) : Int)) (b : Bool) :
    (Instr.lookup 50 (.map (some mb)) (.int .i64 z) b).run Tryz.prog w = .ok (if b then .tuple #[obV (nL l i : Nat) (rL l i : Nat) z, .bool true] else obV (nL l i : Nat) (rL l i : Nat) z) w := by
  rw [h.lookup Tryz.underlying50 Tryz.underlying3 (zeroO w) z b, hz, stD_at hi (Nat.le_refl _)]
  rfl

/-- No other one is there. -/
theorem stD_missed {w : World} {mb : Nat} {c : Cfg} {k : Nat} {l : List (Nat × Nat)} (h : IMap w mb (stD c k l l.length)) (z : Int) (hz : ∀ i, i < l.length → z ≠ ((c.frm k + posL l i : Nat) : Int)) (b : Bool) :
    (Instr.lookup 50 (.map (some mb)) (.int .i64 z) b).run Tryz.prog w = .ok (if b then .tuple #[obV 0 0 0, .bool false] else obV 0 0 0) w := by
  have hn : stD c k l l.length z = none := by
    cases hd : stD c k l l.length z with
    | none => rfl
    | some v =>
      obtain ⟨i, h1, h2, _⟩ := stD_some (Nat.le_refl _) hd
      exact absurd h2 (hz i h1)
  rw [h.lookup Tryz.underlying50 Tryz.underlying3 (zeroO w) z b, hn]
  rfl

end Go.Proofs.YtcdlikblebdfkaaGreat
