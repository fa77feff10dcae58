/- The walk of the law NvmFenced. -/
import Derived.Test.YtbpoifcldjlblaaLaw2
import Derived.Test.YtbpoifcldjlblaaArgs
namespace Go.Proofs.Ytbpoifcldjlblaa
open Go.RowKit

set_option maxHeartbeats 1000000 in
theorem fenced_great (a0 : Option Addr) (l0 c0 : Nat) (k v bits : Int) (a4 : Option Addr) (l4 c4 : Nat) (W : World) (hg : 40 < l0 ∨ l0 = 0 ∨ 20 < l4) :
    Calls Try.prog 5 #[.slice a0 l0 c0, .int .u8 k, .int .u64 v, .int .u64 bits, .slice a4 l4 c4] W fun e w' => e = .returned (.bool true) ∧ Below W.heap.size W w' := by
  by_cases h1 : 40 < l0
  · go_enter Try.func5, Try.ntmps5
    go_wp2_with fail
    refine (lawake_any _).mono ?_
    rintro e w1 ⟨rfl, hb1⟩
    have K1 := Go.Proofs.Ytbpoifcldjlblaa.Below.keeps hb1 []
    go_wp2_with fail
    go_ret
    exact ⟨rfl, (((Keeps.refl [] W).alloc _).trans K1).below (Nat.le_refl _) (by simp)⟩
  · by_cases h2 : l0 = 0
    · subst h2
      go_enter Try.func5, Try.ntmps5
      go_wp2_with fail
      refine (lawake_any _).mono ?_
      rintro e w1 ⟨rfl, hb1⟩
      have K1 := Go.Proofs.Ytbpoifcldjlblaa.Below.keeps hb1 []
      go_wp2_with fail
      go_ret
      exact ⟨rfl, (((Keeps.refl [] W).alloc _).trans K1).below (Nat.le_refl _) (by simp)⟩
    · have h3 : 20 < l4 := by omega
      have h2' : 0 < l0 := by omega
      go_enter Try.func5, Try.ntmps5
      go_wp2_with fail
      refine (lawake_any _).mono ?_
      rintro e w1 ⟨rfl, hb1⟩
      have K1 := Go.Proofs.Ytbpoifcldjlblaa.Below.keeps hb1 []
      go_wp2_with fail
      go_ret
      exact ⟨rfl, (((Keeps.refl [] W).alloc _).trans K1).below (Nat.le_refl _) (by simp)⟩

set_option maxHeartbeats 2000000 in
theorem fenced_small (a0 : Option Addr) (l0 c0 : Nat) (f0 : Nat → Int) (k : Nat) (v bits : Int) (a4 : Option Addr) (l4 c4 : Nat) (f4 : Nat → Int) (W : World) (h1 : l0 ≤ 40) (h2 : 0 < l0) (h3 : l4 ≤ 20)
    (R0 : Reads W a0 l0 f0) (R4 : ReadsV (Value.int .u8) W a4 l4 f4) (F4 : ∀ i, i < l4 → 0 ≤ f4 i ∧ f4 i ≤ 255) (hk : k ≤ 255) :
    Calls Try.prog 5 #[.slice a0 l0 c0, .int .u8 k, .int .u64 v, .int .u64 bits, .slice a4 l4 c4] W fun e w' => e = .returned (.bool true) ∧ Below W.heap.size W w' := by
  have g1 : decide (40 < (l0 : Int)) = false := by rw [decide_eq_false_iff_not]; omega
  have g2 : ((l0 : Int) == 0) = false := by rw [beq_eq_false_iff_ne]; omega
  have g3 : decide (20 < (l4 : Int)) = false := by rw [decide_eq_false_iff_not]; omega
  have HR0 := hid R0
  have HR4 := hid R4
  have HF4 := hid F4
  clear R0 R4 F4
  go_enter Try.func5, Try.ntmps5
  go_wp2_with fail
  refine (lawake_any _).mono ?_
  rintro e w1 ⟨rfl, hb1⟩
  have K1 : Keeps [] W w1 := ((Keeps.refl [] W).alloc _).trans (Go.Proofs.Ytbpoifcldjlblaa.Below.keeps hb1 [])
  have hB1 : At w1 W.heap.size (wordO bits) := (Go.Proofs.Ytbpoifcldjlblaa.Below.keeps hb1 []).at (At.new W _) (by simp)
  clear hb1
  go_wp2_with fail
  refine (lnew_at w1 a0 l0 c0 ((l0 + 7) / 8) f0 (HR0.out.keep K1 (by simp)) rfl (by omega)).mono ?_
  rintro e w2 ⟨p, a, rfl, haL, hD2, hp2, ⟨b1, b2, b3, b4, b5⟩, hK2⟩
  have K2 := K1.trans hK2
  have z1 := K1.size
  have hB2 := hK2.at hB1 (by simp)
  have hlt := hB1.lt
  have hn0 : 0 < a.n ∧ a.n ≤ 40 := by have := a.n8; omega
  have HAL := hid haL
  clear haL
  go_wp2_with fail
  refine (len_at w2 p a _ hD2).mono ?_
  rintro e w3 ⟨rfl, rfl⟩
  obtain ⟨i, hi⟩ : ∃ i : Nat, i = k % a.n := ⟨_, rfl⟩
  have ei : (k : Int) % (a.n : Int) = (i : Int) := by omega
  have hin : i < a.n := by rw [hi]; exact Nat.mod_lt _ hn0.1
  have HI := hid hi
  clear hi
  go_wp2_with fail
  refine (store_in w2 p a _ (-1) 0 i v hD2 hp2 hin (by omega) (by omega) (.inl (by omega))).mono ?_
  rintro e w3 ⟨rfl, hD3, hp3, hK3⟩
  have K3 : Keeps [] W w3 := K2.new hK3 (by simp; omega)
  have hB3 := hK3.at hB2 (by simp; omega)
  go_wp2_with fail
  refine (flush_in w3 p a _ (-1) _ i hD3 hp3 hin (by omega) (by omega) (.inl (by omega))).mono ?_
  rintro e w4 ⟨rfl, hD4, hp4, hK4⟩
  have K4 : Keeps [] W w4 := K3.new hK4 (by simp; omega)
  have hB4 := hK4.at hB3 (by simp; omega)
  go_wp2_with fail
  refine (fence_at w4 p a _ (-1) _ hD4 hp4 (by omega) (by omega) (.inl (by omega))).mono ?_
  rintro e w5 ⟨rfl, hD5, hp5, hK5⟩
  have K5 : Keeps [] W w5 := K4.new hK5 (by simp; omega)
  have hB5 := hK5.at hB4 (by simp; omega)
  have hS : ∃ S, Dev w5 p a S ∧ S.now i = v ∧ S.kept i = v ∧ ∀ q, S.is q = false := ⟨_, hD5, by simp [put], by simp [put], fun _ => rfl⟩
  have HS := hid hS
  clear hD2 hD3 hD4 hD5 hS hp2 hp3 hp4 hK3 hK4 hK5 hB2 hB3 hB4 K2 K3 K4
  go_wp2_with fail
  go_loopg [51] l4 (fun r s wr => ∃ x : Nat, x + r = l4 ∧ s = .int .i64 x ∧ (∃ S, Dev wr p a S ∧ S.now i = v ∧ S.kept i = v ∧ ∀ q, S.is q = false) ∧ (∃ u : Int, At wr p (powO (-1) u) ∧ 0 ≤ u ∧ u ≤ 3 + x) ∧ Keeps [p, a.s] w5 wr)
  case atStart => exact ⟨0, by omega, rfl, HS.out, ⟨_, hp5, by omega, by omega⟩, Keeps.refl _ _⟩
  case round =>
    obtain ⟨x, hx, rfl, ⟨S, hD, hS1, hS2, hS3⟩, ⟨u, hp, hu0, hu1⟩, hK⟩ := hrel
    have HS1 := hid hS1
    have HS2 := hid hS2
    have HS3 := hid hS3
    clear hS1 hS2 hS3
    by_cases hlt : x < l4
    · obtain ⟨b, off, rfl, hbl, hc⟩ : ∃ b off, a4 = some ⟨b, off, none⟩ ∧ b < W.heap.size ∧ W.cell? ⟨b, off + x, none⟩ = some (.int .u8 (f4 x)) := by
        rcases HR4.out with h | ⟨b, off, h1, h2, h3⟩
        · omega
        · exact ⟨b, off, h1, h2, h3 x hlt⟩
      have KW : Keeps [] W _ := K5.new hK (by simp; omega)
      have c1 := (KW.cell (p := ⟨b, off + x, none⟩) hbl (by simp)).trans hc
      clear hc
      obtain ⟨y, hy⟩ : ∃ y : Nat, (y : Int) = f4 x := ⟨(f4 x).toNat, by have := (HF4.out x hlt).1; omega⟩
      have hy2 : y ≤ 255 := by have := (HF4.out x hlt).2; omega
      rw [← hy] at c1
      have HY := hid hy
      clear hy
      obtain ⟨j, hj⟩ : ∃ j : Nat, j = y % a.n := ⟨_, rfl⟩
      have ej : (y : Int) % (a.n : Int) = (j : Int) := by omega
      have hjn : j < a.n := by rw [hj]; exact Nat.mod_lt _ hn0.1
      clear hj
      have HL := hid (len_at _ p a _ hD)
      by_cases hji : j = i
      · have e1 : ((j : Int) == (i : Int)) = true := by rw [beq_iff_eq]; omega
        have e2 : ((j : Int) != (i : Int)) = false := by rw [bne, e1]; rfl
        go_wp2_with fail
        refine HL.out.mono ?_
        rintro e w6 ⟨rfl, rfl⟩
        go_wp2_with fail
        go_roundg (l4 - (x + 1))
        case measure => omega
        case rel => exact ⟨x + 1, by omega, by go_num, ⟨S, hD, HS1.out, HS2.out, HS3.out⟩, ⟨u, hp, hu0, by omega⟩, hK⟩
      · have e1 : ((j : Int) == (i : Int)) = false := by rw [beq_eq_false_iff_ne]; omega
        have e2 : ((j : Int) != (i : Int)) = true := by rw [bne, e1]; rfl
        have hST := hid (fun q => store_in _ p a _ (-1) u j q hD hp hjn hu0 (by omega) (.inl (by omega)))
        go_wp2_with fail
        refine HL.out.mono ?_
        rintro e w6 ⟨rfl, rfl⟩
        go_wp2_with fail
        refine (hST.out _).mono ?_
        rintro e w6 ⟨rfl, hD6, hp6, hK6⟩
        go_wp2_with fail
        go_roundg (l4 - (x + 1))
        case measure => omega
        case rel => exact ⟨x + 1, by omega, by go_num, ⟨_, hD6, by simp [put, Ne.symm hji, HS1.out], HS2.out, HS3.out⟩, ⟨u + 1, hp6, by omega, by omega⟩, hK.trans hK6⟩
    · have KW : Keeps [] W _ := K5.new hK (by simp; omega)
      have hB6 := hK.at hB5 (by simp; omega)
      have HB6 := hid hB6
      clear hB6
      have HCR := hid (crash_plain _ p a S hD _ #[ptr W.heap.size] (chV bits) [W.heap.size] _ (fenced_chooser W.heap.size bits a.n (by omega)) HB6.out (by simp; omega) (by simp; have := KW.size; have := HB6.out.lt; omega))
      go_wp2_with fail
      refine HCR.out.mono ?_
      rintro e w6 ⟨rfl, hD6, _, hK6⟩
      have K6 : Keeps [] W w6 := KW.new hK6 (by simp; omega)
      have hv6 : ∀ c, leftV S i c = v := fun c => by unfold leftV; rw [HS3.out, HS1.out, HS2.out]; simp
      have HV := hid hv6
      clear hv6
      go_wp2_with fail
      refine (load_eq w6 p a _ i v hD6 hin (HV.out _)).mono ?_
      rintro e w7 ⟨rfl, rfl⟩
      have g4 : (v == v) = true := by simp
      go_wp2_with fail
      refine (words_at w6 p a _ hD6).mono ?_
      rintro e w7 ⟨v7, rfl, hv7, hK7⟩
      have hD7 := hD6.keep hK7 (by simp) (by simp) (by simp) (by simp)
      obtain ⟨q7, cap7, rfl, hq7, hq7b, _, hR7⟩ := hv7.reads
      go_wp2_with fail
      refine (kept_at w7 p a _ hD7).mono ?_
      rintro e w8 ⟨v8, rfl, hv8, hK8⟩
      obtain ⟨q8, cap8, rfl, hq8, hq8b, _, hR8⟩ := hv8.reads
      have HE := hid (equal_true w8 _ _ a.n cap7 cap8 _ _ (hR7.keep hK8 (by simp)) hR8 (fun _ _ => rfl) (by omega))
      go_wp2_with fail
      refine HE.out.mono ?_
      rintro e w9 ⟨rfl, hK9⟩
      go_wp2_with fail
      go_ret
      exact ⟨rfl, (((K6.trans hK7).trans hK8).trans hK9).below (Nat.le_refl _) (by simp)⟩

theorem nvmFenced_walk (a0 : Option Addr) (l0 c0 : Nat) (f0 : Nat → Int) (k v bits : Int) (a4 : Option Addr) (l4 c4 : Nat) (f4 : Nat → Int) (W : World)
    (R0 : ReadsV (Value.int .u64) W a0 l0 f0) (_ : ∀ i, i < l0 → (Lit.int .u64 (f0 i)).wf = true) (_ : l0 ≤ maxLen) (hk : (Lit.int .u8 k).wf = true) (_ : (Lit.int .u64 v).wf = true) (_ : (Lit.int .u64 bits).wf = true)
    (R4 : ReadsV (Value.int .u8) W a4 l4 f4) (F4 : ∀ i, i < l4 → (Lit.int .u8 (f4 i)).wf = true) (_ : l4 ≤ maxLen) :
    Calls Try.prog 5 #[.slice a0 l0 c0, .int .u8 k, .int .u64 v, .int .u64 bits, .slice a4 l4 c4] W fun e w' => e = .returned (.bool true) ∧ Below W.heap.size W w' := by
  by_cases hg : 40 < l0 ∨ l0 = 0 ∨ 20 < l4
  · exact fenced_great a0 l0 c0 k v bits a4 l4 c4 W hg
  · have bk := bounds_u8 hk
    obtain ⟨k, rfl⟩ := Int.eq_ofNat_of_zero_le bk.1
    exact fenced_small a0 l0 c0 f0 k v bits a4 l4 c4 f4 W (by omega) (by omega) (by omega) R0.words R4 (fun i hi => bounds_u8 (F4 i hi)) (by omega)

end Go.Proofs.Ytbpoifcldjlblaa
