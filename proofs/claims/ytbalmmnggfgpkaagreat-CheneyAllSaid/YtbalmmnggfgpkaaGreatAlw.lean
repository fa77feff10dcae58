/- All objects, named one by one, to the front or to the back. No program. -/
import Derived.Test.YtbalmmnggfgpkaaGreatLka
namespace Go.Proofs.YtbalmmnggfgpkaaGreat
open Go.RowKit Go.OpenShut

set_option maxRecDepth 100000 in
set_option maxHeartbeats 4000000 in
theorem reverse_nil (w : World) : Calls Tryz.prog 31 #[.slice none 0 0] w fun e w' => e = .returned (.tuple #[]) ∧ w = w' := by
  go_enter Tryz.func31, Tryz.ntmps31
  go_wp2_with fail
  go_loopg [2, 3] 1 (fun rr s2 s3 wr => s2 = .int .i64 0 ∧ s3 = .int .i64 (-1) ∧ w = wr)
  case atStart => exact ⟨rfl, rfl, rfl⟩
  case round =>
    obtain ⟨rfl, rfl, rfl⟩ := hrel
    go_wp2_with fail
    go_end0
    exact ⟨rfl, rfl⟩

/-- The words, to the front or to the back. -/
def alW (c : Cfg) (os : List (Nat × Nat)) (back : Bool) (L j : Nat) : Nat := if back then c.frm 0 + posL os (L - 1 - j) else c.frm 0 + posL os j
def alL (c : Cfg) (os : List (Nat × Nat)) (back : Bool) : List Nat := (List.range os.length).map (alW c os back os.length)
theorem alL_eq (c : Cfg) (os : List (Nat × Nat)) (back : Bool) : alL c os back = if back then (stW c os).reverse else stW c os := by
  cases back with
  | false => rfl
  | true =>
    apply List.ext_getElem?
    intro j
    show ((List.range os.length).map (alW c os true os.length))[j]? = ((stW c os).reverse)[j]?
    by_cases hj : j < os.length
    · rw [List.getElem?_reverse (by rw [stW_len]; exact hj), stW_len, stW_get (by omega)]
      simp [hj, alW]
    · rw [List.getElem?_eq_none (by simp; omega), List.getElem?_eq_none (by simp [stW_len]; omega)]
theorem alL_mem {c : Cfg} {os : List (Nat × Nat)} {back : Bool} {w : Nat} : w ∈ alL c os back ↔ w ∈ stW c os := by
  rw [alL_eq]
  cases back <;> simp
theorem alL_nodup (c : Cfg) (os : List (Nat × Nat)) (back : Bool) : (alL c os back).Nodup := by
  rw [alL_eq]
  cases back
  · exact stW_nodup c os
  · exact (List.reverse_perm (stW c os)).symm.nodup (stW_nodup c os)
theorem alL_sz (S : DS) (c : Cfg) (os : List (Nat × Nat)) (back : Bool) : szF S (alL c os back) = szF S (stW c os) := by
  rw [alL_eq]
  cases back
  · rfl
  · exact szF_perm (List.reverse_perm _)
theorem wsN_app (n m : Nat) (f g : Nat → Int) : wsN (n + m) (fun i => if i < n then f i else g (i - n)) = wsN n f ++ wsN m g := by
  unfold wsN
  apply List.ext_getElem?
  intro j
  by_cases hj : j < n
  · rw [List.getElem?_append_left (by simpa using hj)]
    simp [hj, show j < n + m by omega]
  · rw [List.getElem?_append_right (by simp; omega)]
    by_cases hj2 : j < n + m
    · simp [hj, hj2, show j - n < m by omega]
    · simp [hj2, show ¬ j - n < m by omega]
/-- All, named one by one: these. -/
theorem LnkS.all {c : Cfg} {n : Nat} {os : List (Nat × Nat)} {g : Nat → Int} {S : DS} (h : LnkS c n os g S) (hg : ∀ q, ∃ v : Nat, g q = (v : Int) ∧ v < 72057594037927936) (back : Bool) {m : List Nat} (hm : ∀ w ∈ m, w ∈ alL c os back) : rcF S c 0 (lenL os) (alL c os back ++ m) = alL c os back :=
  rcF_all (alL_nodup c os back) (fun w hw => by
    obtain ⟨i, hi, rfl⟩ := stW_mem.1 (alL_mem.1 hw)
    rw [h.ob hi]
    rfl) (fun w hw => alL_mem.2 (h.ob_st hg hw)) hm

end Go.Proofs.YtbalmmnggfgpkaaGreat

