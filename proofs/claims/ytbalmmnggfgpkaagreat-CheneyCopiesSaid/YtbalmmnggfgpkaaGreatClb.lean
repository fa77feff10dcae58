/- What a collector keeps: its block, the map of where objects went, its rows. -/
import Derived.Test.YtbalmmnggfgpkaaGreatCpk
import Derived.Test.YtbalmmnggfgpkaaGreatQob
namespace Go.Proofs.YtbalmmnggfgpkaaGreat
open Go.RowKit Go.OpenShut

/-- A copy, as an object. -/
def quO (P : CP) (x : Nat) : Nat × Nat × Nat := (hdN (P.S.now x).toNat, hdR (P.S.now x).toNat, wtC P.S P.c P.k P.LS x)
/-- The copies that weren't looked at. -/
def quL (P : CP) (out : List Nat) (n : Nat) : List (Nat × Nat × Nat) := (out.drop n).map (quO P)
theorem quL_len (P : CP) (out : List Nat) (n : Nat) : (quL P out n).length = out.length - n := by simp [quL]
theorem quL_app (P : CP) {out : List Nat} {n : Nat} (h : n ≤ out.length) (x : Nat) : quL P (out ++ [x]) n = quL P out n ++ [quO P x] := by
  unfold quL
  rw [List.drop_append_of_le_length h, List.map_append]
  rfl
theorem quL_cons (P : CP) {out : List Nat} {n x : Nat} (h : out[n]? = some x) : quL P out n = quO P x :: quL P out (n + 1) := by
  obtain ⟨h1, h2⟩ := List.getElem?_eq_some_iff.1 h
  unfold quL
  rw [List.drop_eq_getElem_cons h1, h2]
  rfl

abbrev colO (P : CP) (u : Nat) (yr : Option Addr) (cr : Nat) (yl : Option Addr) (nl cl mb : Nat) (yq : Option Addr) (nq cq : Nat) (dn : Bool) : Obj :=
  .cells #[ptr P.a.d, .int .i64 P.c.log, .int .i64 P.c.roots, .int .i64 P.c.space, .int .i64 (P.k : Nat), .int .i64 (P.us : Nat), .slice yr P.rs.length cr, .int .i64 ((1 - P.k : Nat) : Int), .int .i64 (u : Nat), .slice none 0 0, .slice yl nl cl, .map (some mb), .slice yq nq cq, .bool dn] 85

/-- A collector that copied out, went over i words, looked at n copies. -/
structure ClB (P : CP) (w : World) (x mb B : Nat) (yr : Option Addr) (cr : Nat) (yl : Option Addr) (cl : Nat) (yq : Option Addr) (cq : Nat) (out : List Nat) (i n : Nat) (dn : Bool) : Prop where
  box : At w x (colO P (szF P.S out) yr cr yl (P.ws.length - i) cl mb yq (out.length - n) cq dn)
  mp : IMap w mb (wentD P.S P.c P.k P.LS out)
  rd : Reads w yr P.rs.length (fun j => ((P.rs.getD j 0 : Nat) : Int))
  lf : Reads w yl (P.ws.length - i) (fun j => ((P.ws.getD (i + j) 0 : Nat) : Int))
  lc : P.ws.length - i ≤ cl
  qu : QueB w B yq cq (quL P out n)
  lt : B ≤ w.heap.size
  xB : x < B
  mB : mb < B
  rB : ∀ b ∈ blkL yr, b < B
  lB : ∀ b ∈ blkL yl, b < B
  xm : x ≠ mb
  rn : ∀ b ∈ blkL yr, b ≠ x ∧ b ≠ mb
  ln : ∀ b ∈ blkL yl, b ≠ x ∧ b ≠ mb

/-- Its own blocks. -/
def clT (x mb : Nat) (yr yl yq : Option Addr) : List Nat := x :: mb :: (blkL yr ++ (blkL yl ++ blkL yq))
theorem mem_clT {x mb : Nat} {yr yl yq : Option Addr} {b : Nat} : b ∈ clT x mb yr yl yq ↔ b = x ∨ b = mb ∨ b ∈ blkL yr ∨ b ∈ blkL yl ∨ b ∈ blkL yq := by
  simp [clT]

section
variable {P : CP} {w w' : World} {x mb B : Nat} {yr : Option Addr} {cr : Nat} {yl : Option Addr} {cl : Nat} {yq : Option Addr} {cq : Nat} {out : List Nat} {i n : Nat} {dn : Bool}

theorem reads_keep {w w' : World} {y : Option Addr} {n : Nat} {f : Nat → Int} {R : List Nat} (h : Reads w y n f) (hk : Keeps R w w') (hR : ∀ b ∈ blkL y, b ∉ R) : Reads w' y n f :=
  h.keep hk fun b off hb => hR b (by rw [hb]; simp [blkL])

theorem ClB.keep {R : List Nat} (h : ClB P w x mb B yr cr yl cl yq cq out i n dn) (hk : Keeps R w w') (hR : ∀ b ∈ clT x mb yr yl yq, b ∉ R) : ClB P w' x mb B yr cr yl cl yq cq out i n dn := by
  have h1 : ∀ b, b = x ∨ b = mb ∨ b ∈ blkL yr ∨ b ∈ blkL yl ∨ b ∈ blkL yq → b ∉ R := fun b hb => hR b (mem_clT.2 hb)
  exact ⟨hk.at h.box (h1 x (.inl rfl)), h.mp.keep hk (h1 mb (.inr (.inl rfl))), reads_keep h.rd hk fun b hb => h1 b (.inr (.inr (.inl hb))), reads_keep h.lf hk fun b hb => h1 b (.inr (.inr (.inr (.inl hb)))), h.lc,
    h.qu.keep hk fun b hb => h1 b (.inr (.inr (.inr (.inr hb)))), Nat.le_trans h.lt hk.size, h.xB, h.mB, h.rB, h.lB, h.xm, h.rn, h.ln⟩

theorem ClB.below (h : ClB P w x mb B yr cr yl cl yq cq out i n dn) : ∀ b ∈ clT x mb yr yl yq, b < w.heap.size := by
  intro b hb
  have h0 := h.lt
  rcases mem_clT.1 hb with rfl | rfl | h1 | h1 | h1
  · have := h.xB; omega
  · have := h.mB; omega
  · have := h.rB b h1; omega
  · have := h.lB b h1; omega
  · exact (h.qu.ge b h1).2

end

/-- Its blocks are none of the device's. -/
def Apart (P : CP) (T : List Nat) : Prop := ∀ b ∈ T, b ∉ [P.p, P.a.d, P.a.s, P.a.k, P.a.m]

/-- A collector behind i steps, as the laws ask for it. -/
def ColC (P : CP) (w : World) (x : Nat) (T : List Nat) (i : Nat) : Prop :=
  P.Ok ∧ ∃ mb B yr cr yl cl yq cq, ClB P w x mb B yr cr yl cl yq cq (P.cs i) (min i P.ws.length) (min (i - P.ws.length) P.LS.length) (decide (i = P.N)) ∧ T = clT x mb yr yl yq

end Go.Proofs.YtbalmmnggfgpkaaGreat

