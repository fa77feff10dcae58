/- The walk of the law NvmApart. -/
import Derived.Test.YtbpoifcldjlblaaLaw2
import Derived.Test.YtbpoifcldjlblaaArgs
import Derived.Deep.QuietTactic
import Derived.Deep.RegionHeld3
import Derived.BigQuiet
namespace Go.Proofs.Ytbpoifcldjlblaa
open Go.RowKit

set_option maxHeartbeats 1000000 in
theorem apart_great (a0 : Option Addr) (l0 c0 : Nat) (k : Int) (W : World) (hg : 40 < l0 ∨ l0 = 0) :
    Calls Try.prog 6 #[.slice a0 l0 c0, .int .u8 k] W fun e w' => e = .returned (.bool true) ∧ Below W.heap.size W w' := by
  by_cases h1 : 40 < l0
  · go_enter Try.func6, Try.ntmps6
    go_wp2_with fail
    refine (lawake_any _).mono ?_
    rintro e w1 ⟨rfl, hb1⟩
    go_wp2_with fail
    go_ret
    exact ⟨rfl, hb1⟩
  · have h2 : l0 = 0 := by omega
    subst h2
    go_enter Try.func6, Try.ntmps6
    go_wp2_with fail
    refine (lawake_any _).mono ?_
    rintro e w1 ⟨rfl, hb1⟩
    go_wp2_with fail
    go_ret
    exact ⟨rfl, hb1⟩

/-- A row that came back: n words and room, the first m of which f says. -/
def Row (w : World) (n m : Nat) (f : Nat → Int) (v : Value) : Prop := ∃ g cap, v = .slice (some ⟨g, 0, none⟩) n cap ∧ m ≤ cap ∧ Reads w (some ⟨g, 0, none⟩) m f

theorem row_of {w : World} {B n m : Nat} {f f' : Nat → Int} {v : Value} (h : Own w B v n f) (hm : m ≤ n) (hf : ∀ j, j < m → f j = f' j) : Row w n m f' v := by
  obtain ⟨g, cap, cur, rfl, hB, hg, h1, h2, h3, h4⟩ := h
  refine ⟨g, cap, rfl, by omega, .inr ⟨g, 0, rfl, hg.lt, fun i hi => ?_⟩⟩
  rw [Nat.zero_add, ← hf i hi]
  exact hg.cell i (h4 i (by omega))

set_option maxHeartbeats 4000000 in
theorem apart_small (a0 : Option Addr) (l0 c0 : Nat) (f0 : Nat → Int) (k : Nat) (W : World) (h1 : l0 ≤ 40) (h2 : 0 < l0) (R0 : Reads W a0 l0 f0) (hk : k ≤ 255) :
    Calls Try.prog 6 #[.slice a0 l0 c0, .int .u8 k] W fun e w' => e = .returned (.bool true) ∧ Below W.heap.size W w' := by
  have g1 : decide (40 < (l0 : Int)) = false := by rw [decide_eq_false_iff_not]; omega
  have g2 : ((l0 : Int) == 0) = false := by rw [beq_eq_false_iff_ne]; omega
  obtain ⟨b0, o0, rfl, hb0, hc0⟩ : ∃ b off, a0 = some ⟨b, off, none⟩ ∧ b < W.heap.size ∧ ∀ i, i < l0 → W.cell? ⟨b, off + i, none⟩ = some (.int .u64 (f0 i)) := by
    rcases R0 with h | h
    · omega
    · exact h
  have HR0 := hid R0
  have HC0 := hid hc0
  clear R0 hc0
  go_enter Try.func6, Try.ntmps6
  go_wp2_with fail
  refine (lawake_any _).mono ?_
  rintro e w1 ⟨rfl, hb1⟩
  have K1 : Keeps [] W w1 := Go.Proofs.Ytbpoifcldjlblaa.Below.keeps hb1 []
  clear hb1
  go_wp2_with fail
  refine (clone_at w1 _ l0 c0 f0 (HR0.out.keep K1 (by simp)) (by omega)).mono ?_
  rintro e w2 ⟨v2, rfl, hv2, hK2⟩
  have K2 := K1.trans hK2
  have z1 := K1.size
  obtain ⟨g, cap, cur, rfl, hgB, hgA, hgl, hgm, hgs, hgc⟩ := hv2
  have HGC := hid hgc
  have HRG : Hid (Reads w2 (some ⟨g, 0, none⟩) l0 f0) := .inr ⟨g, 0, rfl, hgA.lt, fun i hi => by rw [Nat.zero_add]; exact hgA.cell i (hgc i hi)⟩
  have hglt := hgA.lt
  clear hgc hgm hgs
  go_wp2_with fail
  refine (lnew_at w2 _ l0 cap ((l0 + 7) / 8) f0 HRG.out rfl (by omega)).mono ?_
  rintro e w3 ⟨p, a, rfl, haL, hD3, hp3, ⟨b1, b2, b3, b4, b5⟩, hK3⟩
  have K3 := K2.trans hK3
  have hn0 : l0 ≤ a.n ∧ a.n ≤ 40 := by have := a.n8; omega
  obtain ⟨i, hi⟩ : ∃ i : Nat, i = k % l0 := ⟨_, rfl⟩
  have ei : (k : Int) % (l0 : Int) = (i : Int) := by omega
  have hil : i < l0 := by rw [hi]; exact Nat.mod_lt _ h2
  have HI := hid hi
  clear hi haL
  have hg3 := hK3.at hgA (by simp)
  have c1 := hg3.cell i (HGC.out i hil)
  have c1f := hg3.free i
  have HD3 := hid hD3
  clear hD3
  go_wp2_with fail
  have hK4 : Keeps [g] w3 (w3.setCell ⟨g, i, none⟩ (.int .u64 (IntKind.u64.wrap (f0 i + 1)))) := (Keeps.refl _ _).set (.inl (by simp)) _
  have hgd : ∀ b, b = p ∨ b = a.d ∨ b = a.s ∨ b = a.k ∨ b = a.m → b ∉ [g] := by
    intro b hb
    simp only [List.mem_singleton]
    omega
  have hD4 := HD3.out.keep hK4 (hgd _ (by simp)) (hgd _ (by simp)) (hgd _ (by simp)) (hgd _ (by simp))
  have K4 := K3.new hK4 (fun x hx => by rw [List.mem_singleton.1 hx]; right; omega)
  obtain ⟨w4, hw4⟩ : ∃ w4, w4 = w3.setCell ⟨g, i, none⟩ (.int .u64 (IntKind.u64.wrap (f0 i + 1))) := ⟨_, rfl⟩
  rw [← hw4] at hK4 hD4 K4 ⊢
  have HP4 := hid (hK4.at hp3 (by simp; omega)).lt
  clear hw4 c1 c1f hg3 hgd hK4 hp3
  refine (words_at w4 p a _ hD4).mono ?_
  rintro e w5 ⟨v5, rfl, hv5, hK5⟩
  have hD5 := hD4.keep hK5 (by simp) (by simp) (by simp) (by simp)
  have K5 := K4.trans hK5
  obtain ⟨g5, cap5, cur5, rfl, hg5, hA5, hl5, _, _, hc5⟩ := hv5
  have HC5 : Hid (∀ j, j < a.n → cur5[j]? = some (.int .u64 (if j < l0 then f0 j else 0))) := hc5
  have hg5l := hA5.lt
  have HDL : Hid (p < w4.heap.size ∧ a.d < w4.heap.size ∧ a.s < w4.heap.size ∧ a.k < w4.heap.size ∧ a.m < w4.heap.size) := ⟨HP4.out, hD4.dev.lt, hD4.now.lt, hD4.kept.lt, hD4.map.lt⟩
  clear hc5 hD4
  go_wp2_with fail
  refine (kept_at w5 p a _ hD5).mono ?_
  rintro e w6 ⟨v6, rfl, hv6, hK6⟩
  have hD6 := hD5.keep hK6 (by simp) (by simp) (by simp) (by simp)
  have K6 := K5.trans hK6
  have hA5' := hK6.at hA5 (by simp)
  obtain ⟨g6, cap6, cur6, rfl, hg6, hA6, hl6, _, _, hc6⟩ := hv6
  have HC6 : Hid (∀ j, j < a.n → cur6[j]? = some (.int .u64 (if j < l0 then f0 j else 0))) := hc6
  clear hc6 hD5
  have gA : decide ((a.n : Int) ≤ (i : Int)) = false := by rw [decide_eq_false_iff_not]; omega
  have gB : decide ((a.n : Int) ≤ (k : Int) % (l0 : Int)) = false := by rw [ei]; exact gA
  have HD6 := hid hD6
  clear hD6
  have hne : g5 ≠ g6 := by omega
  have hne2 : g6 ≠ g5 := by omega
  have c5 := hA5'.cell i (HC5.out i (by omega))
  rw [if_pos hil] at c5
  have c5f := hA5'.free i
  have c6 := hA6.cell i (HC6.out i (by omega))
  rw [if_pos hil] at c6
  have c6f := hA6.free i
  have hia : i < a.n := by omega
  go_wp2_with fail
  go_region
  have hK7 : Keeps [g5, g6] w6 ((w6.setCell ⟨g5, i, none⟩ (.int .u64 (IntKind.u64.wrap (f0 i + 5)))).setCell ⟨g6, i, none⟩ (.int .u64 (IntKind.u64.wrap (f0 i + 7)))).drew :=
    (((Keeps.refl _ _).set (.inl (by simp)) _).set (.inl (by simp)) _).drew
  have hl4 := hK5.size
  have hl6' := hK6.size
  have HLD : Hid (p < g5 ∧ a.d < g5 ∧ a.s < g5 ∧ a.k < g5 ∧ a.m < g5 ∧ g5 < g6 ∧ W.heap.size ≤ g5) := by
    have h1 := HDL.out
    have h2 := K4.size
    show _ ∧ _
    omega
  have HD7 : Hid (Dev ((w6.setCell ⟨g5, i, none⟩ (.int .u64 (IntKind.u64.wrap (f0 i + 5)))).setCell ⟨g6, i, none⟩ (.int .u64 (IntKind.u64.wrap (f0 i + 7)))).drew p a { now := fun i => if i < l0 then f0 i else 0, kept := fun i => if i < l0 then f0 i else 0, tok := fun x => 0, is := fun x => false }) := by
    have h1 := HLD.out
    exact HD6.out.keep hK7 (by simp; omega) (by simp; omega) (by simp; omega) (by simp; omega)
  have K7 := K6.new hK7 (fun x hx => by have h1 := HLD.out; right; simp at hx; omega)
  obtain ⟨w7, hw7⟩ : ∃ w7, w7 = ((w6.setCell ⟨g5, i, none⟩ (.int .u64 (IntKind.u64.wrap (f0 i + 5)))).setCell ⟨g6, i, none⟩ (.int .u64 (IntKind.u64.wrap (f0 i + 7)))).drew := ⟨_, rfl⟩
  rw [← hw7] at HD7 K7 ⊢
  clear hw7 c5 c5f c6 c6f hK7 HD6
  have HW : Hid (∀ w', Keeps [] w7 w' → Reads w' (some ⟨b0, o0, none⟩) l0 f0) := fun w' hk => HR0.out.keep (K7.trans hk) (by simp)
  have HS : Hid (∀ w', Keeps [] w7 w' → (w'.cell? ⟨b0, o0 + i, none⟩ = some (.int .u64 (f0 i)) ∧ Keeps [] w7 w')) :=
    fun w' hk => ⟨((K7.trans hk).cell (p := ⟨b0, o0 + i, none⟩) hb0 (by simp)).trans (HC0.out i hil), hk⟩
  have HLo : Hid (∀ w', Keeps [] w7 w' → Calls Try.prog 15 #[ptr a.d, .int .i64 i] w' fun e w'' => e = .returned (.int .u64 (f0 i)) ∧ w' = w'') := fun w' hk => by
    have h := load_in w' p a _ i (HD7.out.keep hk (by simp) (by simp) (by simp) (by simp)) hia
    simpa only [if_pos hil] using h
  have HWo : Hid (∀ w', Keeps [] w7 w' → Calls Try.prog 29 #[ptr a.d] w' fun e w'' => ∃ v, e = .returned v ∧ Row w'' a.n l0 f0 v ∧ Keeps [] w' w'') := fun w' hk => by
    refine (words_at w' p a _ (HD7.out.keep hk (by simp) (by simp) (by simp) (by simp))).mono ?_
    rintro e w2 ⟨v, rfl, hv, hk2⟩
    exact ⟨v, rfl, row_of hv hn0.1 (fun j hj => if_pos hj), hk2⟩
  have HKo : Hid (∀ w', Keeps [] w7 w' → Calls Try.prog 30 #[ptr a.d] w' fun e w'' => ∃ v, e = .returned v ∧ Row w'' a.n l0 f0 v ∧ Keeps [] w' w'') := fun w' hk => by
    refine (kept_at w' p a _ (HD7.out.keep hk (by simp) (by simp) (by simp) (by simp))).mono ?_
    rintro e w2 ⟨v, rfl, hv, hk2⟩
    exact ⟨v, rfl, row_of hv hn0.1 (fun j hj => if_pos hj), hk2⟩
  have gE : (f0 i == f0 i) = true := by simp
  have hl35 : l0 ≤ 35184372088832 := by omega
  clear HR0 HC0 HD7 HD3 HC5 HC6 HGC HRG hA5 hA5' hA6 hK5 hK6 hg5 hg6 hl4 hl6' hne hne2 hg5l K6 K5 K4 K3 K2 K1 hK2 hK3 hgA
  clear hl5 hl6
  go_wp2_with fail
  have k0 : Keeps [] w7 w7.drew := (Keeps.refl _ _).drew
  go_region_held3 (fun w' => w'.cell? ⟨b0, o0 + i, none⟩ = some (.int .u64 (f0 i)) ∧ Keeps [] w7 w')
    (first | exact HS.out _ k0 | exact HS.out _ k1 | exact HS.out _ k2 | exact HS.out _ k3 | exact HS.out _ k4)
    (first | (go_at_call 15; refine (HLo.out _ k0).mono ?_; rintro e w' ⟨rfl, rfl⟩)
           | (go_at_call 29; refine (HWo.out _ k0).mono ?_; rintro e w8 ⟨v8, rfl, ⟨g8, cap8, rfl, hl8, hr8⟩, hk8⟩; have k1 := k0.trans hk8)
           | (go_at_call 30; refine (HKo.out _ k2).mono ?_; rintro e w10 ⟨v10, rfl, ⟨g10, cap10, rfl, hl10, hr10⟩, hk10⟩; have k3 := k2.trans hk10)
           | (go_at_call 28; refine (equal_true w10 _ _ l0 _ _ f0 f0 hr10 (HW.out _ k3) (fun _ _ => rfl) hl35).mono ?_; rintro e w11 ⟨rfl, hk11⟩; have k4 := k3.trans hk11)
           | (go_at_call 28; refine (equal_true w8 _ _ l0 _ _ f0 f0 hr8 (HW.out _ k1) (fun _ _ => rfl) hl35).mono ?_; rintro e w9 ⟨rfl, hk9⟩; have k2 := k1.trans hk9))
  go_wp2
  go_ret
  exact ⟨rfl, (K7.trans k4).below (Nat.le_refl _) (by simp)⟩

theorem nvmApart_walk (a0 : Option Addr) (l0 c0 : Nat) (f0 : Nat → Int) (k : Int) (W : World)
    (R0 : ReadsV (Value.int .u64) W a0 l0 f0) (_ : ∀ i, i < l0 → (Lit.int .u64 (f0 i)).wf = true) (_ : l0 ≤ maxLen) (hw : (Lit.int .u8 k).wf = true) :
    Calls Try.prog 6 #[.slice a0 l0 c0, .int .u8 k] W fun e w' => e = .returned (.bool true) ∧ Below W.heap.size W w' := by
  obtain ⟨hk0, hk⟩ := bounds_u8 hw
  obtain ⟨k, rfl⟩ := Int.eq_ofNat_of_zero_le hk0
  by_cases hg : 40 < l0 ∨ l0 = 0
  · exact apart_great a0 l0 c0 k W hg
  · exact apart_small a0 l0 c0 f0 k W (by omega) (by omega) R0.words (by omega)

end Go.Proofs.Ytbpoifcldjlblaa
