/- The walk of the law NvmPlays. -/
import Derived.Test.YtbpoifcldjlblaaDoA
namespace Go.Proofs.Ytbpoifcldjlblaa
open Go.RowKit

/-- A list of steps that came in: cell j of step i. -/
def Steps (w : World) (a : Option Addr) (n : Nat) (f : Nat → Nat → Int) : Prop :=
  n = 0 ∨ ∃ b off, a = some ⟨b, off, none⟩ ∧ b < w.heap.size ∧ ∀ i, i < n → (w.cell? ⟨b, off + i * 4, none⟩ = some (.int .u8 (f i 0)) ∧ w.cell? ⟨b, off + i * 4 + 1, none⟩ = some (.int .u8 (f i 1)) ∧
    w.cell? ⟨b, off + i * 4 + 2, none⟩ = some (.int .u64 (f i 2)) ∧ w.cell? ⟨b, off + i * 4 + 3, none⟩ = some (.int .u64 (f i 3))) ∧ (0 ≤ f i 0 ∧ f i 0 ≤ 255) ∧ 0 ≤ f i 1 ∧ f i 1 ≤ 255

theorem steps_of {W : World} {a1 : Option Addr} {l1 : Nat} {f1 : Nat → Nat → Int}
    (h : l1 * 4 = 0 ∨ ∃ b off, a1 = some ⟨b, off, none⟩ ∧ b < W.heap.size ∧ ∀ i j, i < l1 → j < 4 → W.cell? ⟨b, off + (i * 4 + j), none⟩ = some (.int ((fun j => if j = 0 then .u8 else if j = 1 then .u8 else if j = 2 then .u64 else .u64 : Nat → IntKind) j) (f1 i j)) ∧ (Lit.int ((fun j => if j = 0 then .u8 else if j = 1 then .u8 else if j = 2 then .u64 else .u64 : Nat → IntKind) j) (f1 i j)).wf = true) :
    Steps W a1 l1 f1 := by
  rcases h with h | ⟨b, off, h1, h2, h3⟩
  · exact .inl (by omega)
  · refine .inr ⟨b, off, h1, h2, fun i hi => ⟨⟨?_, ?_, ?_, ?_⟩, ?_, ?_⟩⟩
    · exact (h3 i 0 hi (by omega)).1
    · exact (h3 i 1 hi (by omega)).1
    · exact (h3 i 2 hi (by omega)).1
    · exact (h3 i 3 hi (by omega)).1
    · exact bounds_u8 (h3 i 0 hi (by omega)).2
    · exact bounds_u8 (h3 i 1 hi (by omega)).2

/-- Of what is the same both are the same. -/
def Both (w : World) (p : Nat) (a : DA) (x : MA) : Prop := ∃ S, Dev w p a S ∧ MDev w x a.n S.ms

set_option maxHeartbeats 1000000 in
theorem plays_great (a0 : Option Addr) (l0 c0 : Nat) (a1 : Option Addr) (l1 c1 : Nat) (W : World) (hg : 40 < l0 ∨ 80 < l1) :
    Calls Try.prog 3 #[.slice a0 l0 c0, .slice a1 l1 c1] W fun e w' => e = .returned (.bool true) ∧ Below W.heap.size W w' := by
  by_cases h1 : 40 < l0
  · go_enter Try.func3, Try.ntmps3
    go_wp2_with fail
    refine (lawake_any _).mono ?_
    rintro e w1 ⟨rfl, hb1⟩
    go_wp2_with fail
    go_ret
    exact ⟨rfl, hb1⟩
  · have h2 : 80 < l1 := by omega
    go_enter Try.func3, Try.ntmps3
    go_wp2_with fail
    refine (lawake_any _).mono ?_
    rintro e w1 ⟨rfl, hb1⟩
    go_wp2_with fail
    go_ret
    exact ⟨rfl, hb1⟩

set_option maxRecDepth 100000 in
set_option maxHeartbeats 4000000 in
theorem plays_small (a0 : Option Addr) (l0 c0 : Nat) (f0 : Nat → Int) (a1 : Option Addr) (l1 c1 : Nat) (f1 : Nat → Nat → Int) (W : World) (h1 : l0 ≤ 40) (h2 : l1 ≤ 80) (R0 : Reads W a0 l0 f0) (R1 : Steps W a1 l1 f1) :
    Calls Try.prog 3 #[.slice a0 l0 c0, .slice a1 l1 c1] W fun e w' => e = .returned (.bool true) ∧ Below W.heap.size W w' := by
  have g1 : decide (40 < (l0 : Int)) = false := by rw [decide_eq_false_iff_not]; omega
  have g3 : decide (80 < (l1 : Int)) = false := by rw [decide_eq_false_iff_not]; omega
  have HR0 := hid R0
  have HR1 := hid R1
  clear R0 R1
  go_enter Try.func3, Try.ntmps3
  go_wp2_with fail
  refine (lawake_any _).mono ?_
  rintro e w1 ⟨rfl, hb1⟩
  have K1 : Keeps [] W w1 := Go.Proofs.Ytbpoifcldjlblaa.Below.keeps hb1 []
  clear hb1
  go_wp2_with fail
  refine (lnew_at w1 a0 l0 c0 ((l0 + 7) / 8) f0 (HR0.out.keep K1 (by simp)) rfl (by omega)).mono ?_
  rintro e w2 ⟨p, a, rfl, haL, hD2, hp2, ⟨b1, b2, b3, b4, b5⟩, hK2⟩
  have K2 := K1.trans hK2
  have z1 := K1.size
  have hn0 : a.n ≤ 40 := by have := a.n8; omega
  have HAN : Hid (8 * ((l0 + 7) / 8) = a.n) := by have := a.n8; show _ = _; omega
  clear haL
  go_wp2_with fail
  refine (make_at w2 a0 l0 c0 ((l0 + 7) / 8) f0 (HR0.out.keep K2 (by simp)) rfl (by omega)).mono ?_
  rintro e w3 ⟨x, rfl, hM3, hbl, hK3⟩
  rw [HAN.out] at hM3
  have K3 := K2.trans hK3
  have hD3 := hD2.keep hK3 (by simp) (by simp) (by simp) (by simp)
  have hp3 := hK3.at hp2 (by simp)
  have hl := hD2.low
  have hpl := hp2.lt
  have HSEP : Hid (Sep p a x) := by
    intro b hb
    have := hbl b hb
    omega
  have HB : Hid (Both w3 p a x) := ⟨_, hD3, hM3⟩
  have HLO : Hid (W.heap.size ≤ p ∧ (∀ b ∈ a.blocks, W.heap.size ≤ b) ∧ ∀ b ∈ x.blocks, W.heap.size ≤ b) := ⟨by omega, by simp; omega, fun b hb => by have := hbl b hb; have := K2.size; omega⟩
  go_wp2_with fail
  refine (same_at w3 p a x _ hD3 hM3).mono ?_
  rintro e w4 ⟨rfl, hK4⟩
  have K4 := K3.trans hK4
  have hp4 := hK4.at hp3 (by simp)
  have HB4 : Hid (Both w4 p a x) := ⟨_, hD3.keep hK4 (by simp) (by simp) (by simp) (by simp), hM3.keep hK4 (by simp)⟩
  clear hD2 hp2 hD3 hM3 hp3 hl hpl hbl HB b1 b2 b3 b4 b5
  go_wp2_with fail
  go_loopg [35] l1 (fun r s wr => ∃ z : Nat, z + r = l1 ∧ s = .int .i64 z ∧ Both wr p a x ∧ (∃ u : Int, At wr p (powO (-1) u) ∧ 0 ≤ u ∧ u ≤ z) ∧ Keeps (p :: (a.blocks ++ x.blocks)) w4 wr)
  case atStart => exact ⟨0, by omega, rfl, HB4.out, ⟨_, hp4, by omega, by omega⟩, Keeps.refl _ _⟩
  case round =>
    obtain ⟨z, hz, rfl, ⟨S, hD, hM⟩, ⟨u, hp, hu0, hu1⟩, hK⟩ := hrel
    have KW : Keeps [] W _ := K4.new hK (by have h := HLO.out; intro b hb; right; rcases List.mem_cons.1 hb with rfl | hb; exact h.1; rcases List.mem_append.1 hb with hb | hb; exact h.2.1 b hb; exact h.2.2 b hb)
    by_cases hlt : z < l1
    · obtain ⟨b, off, rfl, hbl, ⟨q0, q1, q2, q3⟩, hd, hq⟩ : ∃ b off, a1 = some ⟨b, off, none⟩ ∧ b < W.heap.size ∧ _ := by
        rcases HR1.out with h | ⟨b, off, h1, h2, h3⟩
        · omega
        · exact ⟨b, off, h1, h2, h3 z hlt⟩
      have c0 := (KW.cell (p := ⟨b, off + z * 4, none⟩) hbl (by simp)).trans q0
      have c1 := (KW.cell (p := ⟨b, off + z * 4 + 1, none⟩) hbl (by simp)).trans q1
      have c2 := (KW.cell (p := ⟨b, off + z * 4 + 2, none⟩) hbl (by simp)).trans q2
      have c3 := (KW.cell (p := ⟨b, off + z * 4 + 3, none⟩) hbl (by simp)).trans q3
      clear q0 q1 q2 q3
      have HZW := hid KW.size
      have hk0 : Keeps [] wr (wr.alloc (stepO (f1 z 0) (f1 z 1) (f1 z 2) (f1 z 3))) := (Keeps.refl _ _).alloc _
      have HDo := hid (do_at _ p a x S (-1) u (hD.keep hk0 (by simp) (by simp) (by simp) (by simp)) (hk0.at hp (by simp)) (hM.keep hk0 (by simp)) HSEP.out (f1 z 0) (f1 z 1) (f1 z 2) (f1 z 3) hq hd hu0 (by omega) (.inl (by omega)))
      have HK5 := hid (hK.trans (hk0.mono (by simp)))
      clear hD hM hp hk0 hK
      go_wp2_with fail
      refine HDo.out.mono ?_
      rintro e w5 ⟨u', hu', rfl, ⟨S5, hD5, hM5⟩, hp5, hK5⟩
      have HU := hid hu'
      clear hu' c0 c1 c2 c3
      go_wp2_with fail
      refine (same_at w5 p a x _ hD5 hM5).mono ?_
      rintro e w6 ⟨rfl, hK6⟩
      go_wp2_with fail
      go_roundg (l1 - (z + 1))
      case measure => omega
      case rel =>
        have := HU.out
        exact ⟨z + 1, by omega, by go_num, ⟨S5, hD5.keep hK6 (by simp) (by simp) (by simp) (by simp), hM5.keep hK6 (by simp)⟩, ⟨u', hK6.at hp5 (by simp), by omega, by omega⟩, (HK5.out.trans hK5).trans (hK6.mono (by simp))⟩
    · go_wp2_with fail
      go_loopg [9] (a.n + 4) (fun r s w5 => ∃ y : Int, y + r = (a.n : Int) + 2 ∧ -2 ≤ y ∧ s = .int .i64 y ∧ Keeps [] wr w5)
      case atStart => exact ⟨-2, by omega, by omega, rfl, Keeps.refl _ _⟩
      case round =>
        obtain ⟨y, hy, hy2, rfl, hKy⟩ := hrel
        have hD5 := hD.keep hKy (by simp) (by simp) (by simp) (by simp)
        have hM5 := hM.keep hKy (by simp)
        have m0 := hM5.mo.cell 0 rfl
        by_cases hlt2 : y < (a.n : Int) + 2
        · by_cases hy0 : 0 ≤ y
          · obtain ⟨k, rfl⟩ := Int.eq_ofNat_of_zero_le hy0
            have e0 : decide (0 ≤ ((k : Nat) : Int)) = true := by rw [decide_eq_true_iff]; omega
            by_cases hkn : k < a.n
            · have e1 : decide (((k : Nat) : Int) < (a.n : Int)) = true := by rw [decide_eq_true_iff]; omega
              have n1 := hM5.now.cell hkn
              have HL := hid (load_in _ p a S k hD5 hkn)
              have gv : (S.now k != S.now k) = false := by simp
              go_wp2_with fail
              refine HL.out.mono ?_
              rintro e w6 ⟨rfl, rfl⟩
              go_wp2_with fail
              clear m0 n1
              go_roundg (a.n + 2 - (k + 1))
              case measure => omega
              case rel => exact ⟨((k + 1 : Nat) : Int), by omega, by omega, by go_num, hKy⟩
            · have e1 : decide (((k : Nat) : Int) < (a.n : Int)) = false := by rw [decide_eq_false_iff_not]; omega
              have HL := hid (load_out _ p a S (k : Int) hD5 (by omega))
              go_wp2_with fail
              refine HL.out.mono ?_
              rintro e w6 ⟨rfl, rfl⟩
              go_wp2_with fail
              clear m0
              go_roundg (a.n + 2 - (k + 1))
              case measure => omega
              case rel => exact ⟨((k + 1 : Nat) : Int), by omega, by omega, by go_num, hKy⟩
          · have e0 : decide (0 ≤ y) = false := by rw [decide_eq_false_iff_not]; omega
            have HL := hid (load_out _ p a S y hD5 (by omega))
            obtain ⟨rr, hrr⟩ : ∃ rr : Nat, (y + 1) + rr = (a.n : Int) + 2 := ⟨((a.n : Int) + 2 - (y + 1)).toNat, by omega⟩
            have HRR := hid hrr
            clear hrr
            go_wp2_with fail
            refine HL.out.mono ?_
            rintro e w6 ⟨rfl, rfl⟩
            go_wp2_with fail
            clear m0
            go_roundg rr
            case measure => have := HRR.out; omega
            case rel => exact ⟨y + 1, HRR.out, by omega, rfl, hKy⟩
        · go_wp2_with fail
          go_ret
          exact ⟨rfl, (KW.trans hKy).below (Nat.le_refl _) (by simp)⟩

theorem nvmPlays_walk (a0 : Option Addr) (l0 c0 : Nat) (f0 : Nat → Int) (a1 : Option Addr) (l1 c1 : Nat) (f1 : Nat → Nat → Int) (W : World)
    (R0 : ReadsV (Value.int .u64) W a0 l0 f0) (_ : ∀ i, i < l0 → (Lit.int .u64 (f0 i)).wf = true) (_ : l0 ≤ maxLen)
    (R1 : l1 * 4 = 0 ∨ ∃ b off, a1 = some ⟨b, off, none⟩ ∧ b < W.heap.size ∧ ∀ i j, i < l1 → j < 4 → W.cell? ⟨b, off + (i * 4 + j), none⟩ = some (.int ((fun j => if j = 0 then .u8 else if j = 1 then .u8 else if j = 2 then .u64 else .u64 : Nat → IntKind) j) (f1 i j)) ∧ (Lit.int ((fun j => if j = 0 then .u8 else if j = 1 then .u8 else if j = 2 then .u64 else .u64 : Nat → IntKind) j) (f1 i j)).wf = true) (_ : l1 ≤ maxLen) :
    Calls Try.prog 3 #[.slice a0 l0 c0, .slice a1 l1 c1] W fun e w' => e = .returned (.bool true) ∧ Below W.heap.size W w' := by
  by_cases hg : 40 < l0 ∨ 80 < l1
  · exact plays_great a0 l0 c0 a1 l1 c1 W hg
  · exact plays_small a0 l0 c0 f0 a1 l1 c1 f1 W (by omega) (by omega) R0.words (steps_of R1)

end Go.Proofs.Ytbpoifcldjlblaa
