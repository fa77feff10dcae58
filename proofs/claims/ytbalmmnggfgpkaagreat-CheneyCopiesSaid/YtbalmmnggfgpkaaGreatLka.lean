/- A collector over Linked's device: it may be made. No program. -/
import Derived.Test.YtbalmmnggfgpkaaGreatCpk
namespace Go.Proofs.YtbalmmnggfgpkaaGreat
open Go.RowKit Go.OpenShut

theorem lnkG_low (c : Cfg) (os : List (Nat × Nat)) (G : Nat → Nat) (m : Nat) (hos : c.frm 0 + lenL os ≤ 1000000) (q : Nat) : ∃ v : Nat, lnkG c os G m 0 q = (v : Int) ∧ v < 72057594037927936 := by
  rcases okW_iff.1 (lnkG_ok c os G m q) with h | ⟨i, hi, h⟩
  · exact ⟨0, by rw [h]; rfl, by omega⟩
  · exact ⟨_, h, by have := posN_end hi; omega⟩

/-- Objects that name each other, their numbers set or not: a collector may be made of any words. -/
theorem ok14 (p : Nat) {a : DA} {S S' : DS} {c : Cfg} {os : List (Nat × Nat)} {G : Nat → Nat} {m K I : Nat} (hc : c.Ok) (hn : c.words = a.n) (hL : LnkS c a.n os (lnkG c os G m 0) S) (hN : NmdP S S' c os K I)
    (ws : List Nat) (hws : ∀ v ∈ ws, v < 9223372036854775808) (hfew : ws.length ≤ 1000) : CP.Ok ⟨p, a, S', c, 0, lenL os, ws, wsN c.roots fun j => lnkG c os G m 0 (refL os + j)⟩ := by
  have hfr := frm_le hc.small (show 0 ≤ 2 by omega)
  have hsp := hc.small.2.2
  have hos : c.frm 0 + lenL os ≤ 1000000 := by have := hL.fits; omega
  have hg := lnkG_low c os G m hos
  have hg2 : ∀ q, ((lnkG c os G m 0 q).toNat : Nat) < 9223372036854775808 := fun q => by
    obtain ⟨v, h1, h2⟩ := hg q
    rw [h1]
    omega
  refine ⟨hc, hn, by show 0 ≤ 1; omega, hL.fits, ?_, hws, ?_, hfew, wsN_len _ _⟩
  · exact hN.rdy hL hsp (by rw [← hn]; exact frm_space 0 (by omega)) hg (fun q => okW_iff.1 (lnkG_ok c os G m q)) ws
  · intro v hv
    obtain ⟨j, _, rfl⟩ := List.mem_map.1 hv
    exact hg2 _

/-- A row, read as a list. -/
theorem reads_ws {w : World} {x : Option Addr} {n : Nat} {f : Nat → Int} (h : Reads w x n f) (hf : ∀ j, j < n → 0 ≤ f j) : Reads w x (wsN n f).length (fun j => (((wsN n f).getD j 0 : Nat) : Int)) := by
  rw [wsN_len]
  rcases h with h | ⟨b, off, h1, h2, h3⟩
  · exact .inl h
  · refine .inr ⟨b, off, h1, h2, fun i hi => ?_⟩
    have h4 : (wsN n f).getD i 0 = (f i).toNat := by simp [wsN, List.getD, hi]
    have h5 := hf i hi
    rw [h3 i hi]
    show some (Value.int .u64 (f i)) = some (Value.int .u64 (((wsN n f).getD i 0 : Nat) : Int))
    rw [h4, show (((f i).toNat : Nat) : Int) = f i by omega]

/-- No words. -/
theorem rcF_nowords (S : DS) (c : Cfg) (k u : Nat) : rcF S c k u [] = [] := (rcW_fin (S := S) (c := c) (k := k) (u := u) (ws := []) (i := 0) (Nat.le_refl _)).symm

/-- Another collector's steps that copied nothing: as at the start. -/
theorem CP.at_none {P Q : CP} {S : DS} (h : P.at P.N S) (h0 : P.LS = []) (hS : Q.S = P.S) (hc : Q.c = P.c) (hk : Q.k = P.k) (hu : Q.us = P.us) : Q.at 0 S := by
  have h1 : P.cs P.N = P.LS := P.cs_end (by unfold CP.N; omega)
  have h2 : Q.cs 0 = [] := by unfold CP.cs; rw [if_pos (by omega)]; rfl
  unfold CP.at at h ⊢
  rw [h1, h0, List.length_nil, Nat.min_zero] at h
  rw [h2, hS, hc, hk, hu, Nat.zero_sub, Nat.zero_min]
  exact h

/-- A word that names nothing. -/
theorem rcF_nought (S : DS) (c : Cfg) (k u : Nat) : rcF S c k u [0] = [] := by
  have h0 : rcW S c k u [0] 0 = [] := by
    show seeW S c k u [] 0 = []
    exact seeW_none (ob_zero _ _ _ _)
  exact (rcW_fin (i := 0) (by rw [h0]; exact Nat.le_refl _)).symm.trans h0

end Go.Proofs.YtbalmmnggfgpkaaGreat

