/- Of, by what is told of a device's words: the object there, or none. -/
import Derived.Test.YtaicagammbjkiaaGreatRch
namespace Go.Proofs.YtaicagammbjkiaaGreat
open Go.RowKit Go.OpenShut

/-- What Of answers. -/
def ObP (S : DS) (c : Cfg) (k u : Nat) (z : Int) (e : Ending) : Prop :=
  (∃ x n r : Nat, z = (x : Int) ∧ obW S c k u x = some (n, r) ∧ e = .returned (.tuple #[obV (n : Nat) (r : Nat) (x : Nat), .int .i64 0])) ∨
  ((∀ x : Nat, z = (x : Int) → (obW S c k u x).isSome = false) ∧ ∃ code : Int, code ≠ 0 ∧ e = .returned (.tuple #[obV 0 0 0, .int .i64 code]))

theorem of_ob (w : World) (p : Nat) (a : DA) (S : DS) (h : Dev w p a S) (c : Cfg) (hc : c.Ok) (hcn : c.words = a.n) (k : Nat) (hk : k ≤ 1) (u : Nat) (hu : u ≤ c.space) (rs : Value) (z : Int) (hz : -9223372036854775808 ≤ z ∧ z < 9223372036854775808)
    (hx : ∀ j : Nat, c.frm k ≤ j → j < c.frm k + u → ∃ x : Nat, S.now j = (x : Int) ∧ x < 18446744073709551616) :
    Calls Tryz.prog 19 #[ptr a.d, cfgV c, bkV k u rs, .int .i64 z] w fun e w' => ObP S c k u z e ∧ Keeps [] w w' := by
  refine (of_any w p a S h c hc hcn k hk u hu rs z hz (fun j _ h1 h2 => hx j h1 h2)).mono ?_
  rintro e w' ⟨n, r, zz, code, rfl, hk', hd⟩
  refine ⟨?_, hk'⟩
  rcases hd.out with ⟨h1, rfl, rfl, rfl, rfl⟩ | ⟨j, x, h1, h2, h3, h4, h5, ⟨h6, rfl, rfl, rfl, rfl⟩ | ⟨h6, h7, rfl, rfl, rfl, rfl⟩⟩
  · refine .inr ⟨fun x hx => ?_, 6, by decide, rfl⟩
    rw [Bool.eq_false_iff]
    intro ho
    have := obW_in ho
    omega
  · refine .inr ⟨fun y hy => ?_, 8, by decide, rfl⟩
    obtain rfl : j = y := by omega
    unfold obW
    rw [h4, Int.toNat_natCast, if_neg fun h => h6 ⟨h.2.2.1, h.2.2.2⟩]
    rfl
  · refine .inl ⟨j, hdN x, hdR x, h1, ?_, by rw [h1]⟩
    unfold obW
    rw [h4, Int.toNat_natCast, if_pos ⟨h2, h3, h6, h7⟩]

/-- Words, as numbers. -/
def wsN (n : Nat) (f : Nat → Int) : List Nat := (List.range n).map fun i => (f i).toNat
theorem wsN_len (n : Nat) (f : Nat → Int) : (wsN n f).length = n := by simp [wsN]
theorem wsN_take {n i : Nat} {f : Nat → Int} (h : i < n) : (wsN n f).take (i + 1) = (wsN n f).take i ++ [(f i).toNat] := by
  rw [List.take_add_one]
  simp [wsN, h]

theorem seeL_len {S : DS} {c : Cfg} {k u : Nat} (l : List Nat) {out : List Nat} (hn : out.Nodup) (ho : ∀ x ∈ out, (obW S c k u x).isSome = true) : (seeL S c k u out l).length ≤ u :=
  nodup_room u (c.frm k) _ (seeL_nodup l hn) fun x hx => obW_in (by
    rcases seeL_mem.1 hx with h | h
    · exact ho x h
    · exact h.2)
theorem nmW_take {S : DS} {x j : Nat} (h : j < hdR (S.now x).toNat) : (nmW S x).take (j + 1) = (nmW S x).take j ++ [(S.now (x + 1 + j)).toNat] := by
  rw [List.take_add_one]
  simp [nmW, h]
theorem nmW_len (S : DS) (x : Nat) : (nmW S x).length = hdR (S.now x).toNat := by simp [nmW]
theorem seeL_one {S : DS} {c : Cfg} {k u : Nat} (out l : List Nat) (w : Nat) : seeL S c k u out (l ++ [w]) = seeW S c k u (seeL S c k u out l) w := by
  rw [seeL_app]
  rfl
theorem seeL_get {S : DS} {c : Cfg} {k u : Nat} {out : List Nat} (l : List Nat) {i x : Nat} (h : out[i]? = some x) : (seeL S c k u out l)[i]? = some x := by
  obtain ⟨t, ht⟩ := seeL_pre (S := S) (c := c) (k := k) (u := u) l out
  rw [ht, List.getElem?_append_left (List.getElem?_eq_some_iff.1 h).1, h]

theorem obW_some {S : DS} {c : Cfg} {k u w n r : Nat} (h : obW S c k u w = some (n, r)) : c.frm k ≤ w ∧ w + (n + 1) ≤ c.frm k + u ∧ n = hdN (S.now w).toNat ∧ r = hdR (S.now w).toNat ∧ n ≤ 64 ∧ r ≤ n := by
  unfold obW at h
  split at h
  · rename_i h1
    injection h with h
    injection h with h2 h3
    obtain ⟨_, h4, h5⟩ := isHd_pk h1.2.2.1
    exact ⟨h1.1, by omega, h2.symm, h3.symm, by omega, by omega⟩
  · exact absurd h (by simp)

end Go.Proofs.YtaicagammbjkiaaGreat
