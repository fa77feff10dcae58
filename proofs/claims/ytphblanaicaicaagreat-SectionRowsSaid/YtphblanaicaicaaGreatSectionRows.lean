/- The walk of the law SectionRows. -/
import Derived.Test.YtphblanaicaicaaGreatRowA
namespace Go.Proofs.YtphblanaicaicaaGreat
open Go.RowKit Go.OpenShut

set_option maxHeartbeats 400000 in
theorem sectionRows1_at (w : World) (b : Nat) (bits : Int) (i : Nat) (h : At w b (wordO bits)) (hi : i ≤ 17592186044416) :
    Calls Tryz.prog 39 #[.int .i64 i, ptr b] w fun e w' => e = .returned (.int .u8 (chV bits i)) ∧ w = w' := by
  have c1 := h.cell 0 rfl
  go_enter Tryz.func39, Tryz.ntmps39
  go_wp2_with fail
  refine (choice_at w bits i hi).mono ?_
  rintro e w1 ⟨rfl, rfl⟩
  go_wp2
  go_ret
  exact ⟨rfl, rfl⟩

theorem sectionRows1_chooser (b : Nat) (bits : Int) (n : Nat) (hn : n ≤ 17592186044416) :
    Chooser 39 #[ptr b] n (chV bits) [] [b] (fun _ w => At w b (wordO bits)) where
  inv := fun w i => by simp [go_sem]
  call := fun i w hi h => (sectionRows1_at w b bits i h (by omega)).mono fun e w' ⟨he, hw⟩ => ⟨he, by rw [← hw]; exact h, by rw [← hw]; exact Keeps.refl _ _⟩
  keep := fun _ w w' S h hk hs => hk.at h (hs b (by simp))
  low := chV_low bits

/-- Pairs of small numbers, as they lie. -/
def PReads (w : World) (x : Option Addr) (n : Nat) (f : Nat → Nat → Int) : Prop :=
  n = 0 ∨ ∃ b off, x = some ⟨b, off, none⟩ ∧ b < w.heap.size ∧ ∀ i, i < n → w.cell? ⟨b, off + i * 2, none⟩ = some (.int .u16 (f i 0)) ∧ w.cell? ⟨b, off + i * 2 + 1, none⟩ = some (.int .u16 (f i 1)) ∧ 0 ≤ f i 0 ∧ f i 0 ≤ 65535 ∧ 0 ≤ f i 1 ∧ f i 1 ≤ 65535

abbrev pO (x y : Int) : Obj := .cells #[.int .u16 x, .int .u16 y] 77

/-- Between two sections: what is wanted is what stands. -/
def RowsI (p : Nat) (a : DA) (q : Sc) (c : Cfg) (g d : Nat) (W0 : World) (k : Nat) (w : World) : Prop :=
  ∃ u S r, ShutW p a u S q c r w ∧ r ≤ k ∧ u ≤ 100000 + 12000 * (k : Int) ∧ OwnAt w g c.act d (fun i => S.now (c.act + i)) ∧ Keeps (g :: q.bl p a) W0 w

theorem fresh0 (j : Nat) : freshB 0 0 (j : Int) = false := by
  unfold freshB
  have h2 : decide ((j : Int) < 0) = false := by rw [decide_eq_false_iff_not]; omega
  rw [h2, Bool.and_false]

set_option maxRecDepth 100000 in
set_option maxHeartbeats 2000000 in
theorem rows_great (l r s : Nat) (x : Option Addr) (n cp : Nat) (bits : Int) (W : World) (hn : 30 < n) :
    Calls Tryz.prog 8 #[c3V l r s, .slice x n cp, .int .u64 bits] W fun e w' => e = .returned (.bool true) ∧ Below W.heap.size W w' := by
  have g1 : decide (30 < n) = true := by rw [decide_eq_true_eq]; exact hn
  have g2 : decide (30 < (n : Int)) = true := by rw [decide_eq_true_eq]; omega
  go_enter Tryz.func8, Tryz.ntmps8
  go_wp2_with fail
  refine (awake7_any _).mono ?_
  rintro e w1 ⟨rfl, hb1⟩
  have K1 : Keeps [] W w1 := (((Keeps.refl [] W).alloc _).alloc _).trans (Go.Proofs.YtphblanaicaicaaGreat.Below.keeps hb1 [])
  go_wp2_with fail
  go_ret
  exact ⟨rfl, K1.below (Nat.le_refl _) (by simp)⟩

set_option maxRecDepth 100000 in
set_option maxHeartbeats 8000000 in
theorem rows_small (l r s : Nat) (x : Option Addr) (n cp : Nat) (f : Nat → Nat → Int) (bits : Int) (W : World) (hl : l ≤ 65535) (hr : r ≤ 65535) (hs : s ≤ 65535) (hn : n ≤ 30) (hR : PReads W x n f) :
    Calls Tryz.prog 8 #[c3V l r s, .slice x n cp, .int .u64 bits] W fun e w' => e = .returned (.bool true) ∧ Below W.heap.size W w' := by
  have g1 : decide (30 < n) = false := by rw [decide_eq_false_iff_not]; omega
  have g2 : decide (30 < (n : Int)) = false := by rw [decide_eq_false_iff_not]; omega
  have hni : (n : Int) ≤ 30 := by omega
  have HR := hid hR
  clear hR
  go_enter Tryz.func8, Tryz.ntmps8
  go_wp2_with fail
  have hB0 := (At.new W (c3O l r s)).alloc (wordO bits)
  have hV0 := At.new (W.alloc (c3O l r s)) (wordO bits)
  have K0 := ((Keeps.refl [] W).alloc (c3O l r s)).alloc (wordO bits)
  rw [show (W.alloc (c3O l r s)).heap.size = W.heap.size + 1 by simp] at hV0
  refine (awake7_any _).mono ?_
  rintro e w1 ⟨rfl, hb1⟩
  have V1 : Keeps [] _ w1 := Go.Proofs.YtphblanaicaicaaGreat.Below.keeps hb1 []
  have K1 := K0.trans V1
  have hV1 := V1.at hV0 (by simp)
  clear hb1
  have c0 : w1.cell? ⟨W.heap.size, 0, none⟩ = some (.int .u16 l) := (V1.at hB0 (by simp)).cell 0 rfl
  have c1 : w1.cell? ⟨W.heap.size, 1, none⟩ = some (.int .u16 r) := (V1.at hB0 (by simp)).cell 1 rfl
  have c2 : w1.cell? ⟨W.heap.size, 2, none⟩ = some (.int .u16 s) := (V1.at hB0 (by simp)).cell 2 rfl
  have hz1 : W.heap.size + 2 ≤ w1.heap.size := by have := V1.size; simpa using this
  clear V1 hB0 hV0 K0
  go_wp2_with fail
  refine (start_at w1 l r s hl hr hs none 0 0 (fun _ => 0) (.inl rfl) (by omega)).mono ?_
  rintro e w2 ⟨p, a, u, S, q, U, mb, nv, rfl, haN, hS2, hU, hu, hLI, hF, hM2, hO2, hbs, hmb, hnv, hk2⟩
  have hok := mk3_ok l r s
  have hlog3 : 3 ≤ (mk3 l r s).log := by unfold mk3; simp only; omega
  obtain ⟨c, hc⟩ : ∃ c, c = mk3 l r s := ⟨_, rfl⟩
  rw [← hc] at hok hlog3 haN hS2 hLI hM2 hO2
  have hci := c_in hok haN
  obtain ⟨ng, ncap, ncur, rfl, o1, o2, o3, o4, o5, o6⟩ := hO2
  have K2 := K1.trans hk2
  have hV2 := hk2.at hV1 (by simp)
  have hB2 : Hid (∀ b ∈ mb :: a.d :: q.bl p a, w1.heap.size ≤ b) := hbs
  have HN := hid haN
  have HO := hid hok
  have HMB := hid hmb
  have hSh2 : ShutW p a u S q c 0 w2 := ⟨_, _, _, _, _, _, _, hS2, ⟨hLI.1, fun j _ hj => hF j hj, hU⟩⟩
  clear c0 c1 c2 hc haN hok hLI hF hU hbs hmb hnv hk2 K1 o1 o2 o3 o4 o5 o6 hV1
  have c0 := hM2.cell 0 rfl
  have c1 := hM2.cell 1 rfl
  have c2 := hM2.cell 2 rfl
  go_wp2_with fail
  refine (words7_own w2 p a S c hS2.lw.pw.dev HO.out HN.out).mono ?_
  rintro e w3 ⟨g, cap, rfl, hg, hR3, hcap, hk3⟩
  have hSh3 := hSh2.keep0 hk3
  have hM3 := hk3.at hM2 (by simp)
  have hV3 := hk3.at hV2 (by simp)
  have K3 := K2.trans hk3
  obtain ⟨d, hd⟩ : ∃ d, d = a.n - c.act := ⟨_, rfl⟩
  rw [← hd] at hR3 hcap ⊢
  have hd0 : 0 < d := by omega
  have hda : c.act + d = a.n := by omega
  have hdb : d ≤ 15000 := by omega
  have hlt3 := hSh2.lts
  have HGN := hid (show ∀ b ∈ a.d :: q.bl p a, b ≠ g from fun b hb e => by have := hlt3 b hb; omega)
  have HGB := hid (show ∀ b ∈ g :: q.bl p a, W.heap.size + 2 ≤ b from fun b hb => by
    rcases List.mem_cons.1 hb with rfl | hb
    · have := hSh2.lts a.d (by simp); have := hB2.out a.d (by simp); omega
    · have := hB2.out b (List.mem_cons_of_mem _ (List.mem_cons_of_mem _ hb)); omega)
  have HMG := hid (show mb ∉ g :: q.bl p a from fun hm => by
    rcases List.mem_cons.1 hm with e | hm
    · have := hM2.lt; omega
    · exact HMB.out (List.mem_cons_of_mem _ hm))
  have hlt3' : ∀ b ∈ g :: q.bl p a, b < w3.heap.size := fun b hb => by
    rcases List.mem_cons.1 hb with rfl | hb
    · exact hR3.lt
    · exact hSh3.lts b (List.mem_cons_of_mem _ hb)
  have HL3 := hid hlt3'
  clear c0 c1 c2 hd hM2 hV2 K2 hk3 hS2 hSh2 hlt3 hlt3'
  go_wp2_with fail
  go_loopg [36] n (fun r sl wr => ∃ k : Nat, k + r = n ∧ sl = .int .i64 k ∧ RowsI p a q c g d w3 k wr)
  case atStart => exact ⟨0, by omega, rfl, u, S, 0, hSh3, by omega, by omega, hR3, Keeps.refl _ _⟩
  case round =>
    obtain ⟨k, hk, rfl, u', S', r', hSh, hr', hu', hO, hK⟩ := hrel
    by_cases hlt : k < n
    · obtain ⟨b, off, rfl, hbl, hcl⟩ : ∃ b off, x = some ⟨b, off, none⟩ ∧ b < W.heap.size ∧ ∀ i, i < n → W.cell? ⟨b, off + i * 2, none⟩ = some (.int .u16 (f i 0)) ∧ W.cell? ⟨b, off + i * 2 + 1, none⟩ = some (.int .u16 (f i 1)) ∧ 0 ≤ f i 0 ∧ f i 0 ≤ 65535 ∧ 0 ≤ f i 1 ∧ f i 1 ≤ 65535 := by
        rcases HR.out with h | h
        · omega
        · exact h
      obtain ⟨q0, q1, q2, q3, q4, q5⟩ := hcl k hlt
      have KW : Keeps [] W wr := K3.new hK (fun b hb => .inr (by have := HGB.out b hb; omega))
      have d0 := (KW.cell (p := ⟨b, off + k * 2, none⟩) hbl (by simp)).trans q0
      have d1 := (KW.cell (p := ⟨b, off + k * 2 + 1, none⟩) hbl (by simp)).trans q1
      obtain ⟨z0, hz0⟩ : ∃ z : Nat, (z : Int) = f k 0 := ⟨(f k 0).toNat, by omega⟩
      obtain ⟨z1, hz1'⟩ : ∃ z : Nat, (z : Int) = f k 1 := ⟨(f k 1).toNat, by omega⟩
      have hzb0 : z0 ≤ 65535 := by omega
      have hzb1 : z1 ≤ 65535 := by omega
      rw [← hz0] at d0
      rw [← hz1'] at d1
      have hMr := hK.at hM3 HMG.out
      have hki : (k : Int) ≤ 30 := by omega
      clear hcl q0 q1 q2 q3 q4 q5 hz0 hz1'
      go_wp2_with fail
      have KA : Keeps [] wr (wr.alloc (pO z0 z1)) := (Keeps.refl [] wr).alloc (pO z0 z1)
      have hP6 := At.new wr (pO z0 z1)
      have hM6 := KA.at hMr (by simp)
      have hSh6 := hSh.keep0 KA
      have hO6 := hO.keep KA (by simp)
      have K6 : Keeps (g :: q.bl p a) w3 (wr.alloc (pO z0 z1)) := hK.alloc _
      have hzs := hK.size
      have hlt6 : wr.heap.size ∉ g :: q.bl p a := fun hm => by have := HL3.out _ hm; omega
      obtain ⟨pb, hpb⟩ : ∃ pb, pb = wr.heap.size := ⟨_, rfl⟩
      obtain ⟨w6, hw6⟩ : ∃ w6, w6 = wr.alloc (pO z0 z1) := ⟨_, rfl⟩
      rw [← hw6] at hP6 hM6 hSh6 hO6 K6 ⊢
      rw [← hpb] at hP6 hlt6 hzs ⊢
      clear hw6 hpb KA hMr hSh hO hK d0 d1 KW
      have hpq : pb ∉ q.bl p a := fun h => hlt6 (List.mem_cons_of_mem _ h)
      have hgq : g ∉ q.bl p a := fun h => HGN.out g (List.mem_cons_of_mem _ h) rfl
      have hmq : mb ∉ q.bl p a := fun h => HMG.out (List.mem_cons_of_mem _ h)
      refine (begin_f hSh6 HO.out HN.out (by omega) 0 0).mono ?_
      rintro e w7 ⟨rfl, u7, S7, pl7, hOp7, hnow7, hu7, hk7⟩
      have hP7 := hk7.at hP6 hpq
      have hM7 := hk7.at hM6 hmq
      have hO7 := (hO6.keep hk7 hgq).congr (fun i _ => (hnow7 (c.act + i)).symm)
      have HD7 := hid hnow7
      have K7 : Keeps (g :: q.bl p a) w3 w7 := K6.trans (hk7.mono (fun k _ hk => List.mem_cons_of_mem _ hk))
      clear hP6 hM6 hSh6 hO6 K6 hk7 hnow7
      have p0 := hP7.cell 0 rfl
      have p1 := hP7.cell 1 rfl
      have c0 := hM7.cell 0 rfl
      have c1 := hM7.cell 1 rfl
      have c2 := hM7.cell 2 rfl
      obtain ⟨j0, hj0⟩ : ∃ j, j = z0 % d := ⟨_, rfl⟩
      obtain ⟨j1, hj1⟩ : ∃ j, j = z1 % d := ⟨_, rfl⟩
      have hjd0 : j0 < d := by rw [hj0]; exact Nat.mod_lt _ hd0
      have hjd1 : j1 < d := by rw [hj1]; exact Nat.mod_lt _ hd0
      have e0 : (z0 : Int) % (d : Int) = (j0 : Int) := by omega
      have e1 : (z1 : Int) % (d : Int) = (j1 : Int) := by omega
      have e2 : (z0 : Int).tmod (d : Int) = (j0 : Int) := by rw [Int.tmod_eq_emod_of_nonneg (by omega)]; exact e0
      have e3 : (z1 : Int).tmod (d : Int) = (j1 : Int) := by rw [Int.tmod_eq_emod_of_nonneg (by omega)]; exact e1
      have hdi : (d : Int) ≤ 15000 := by omega
      have hd1 : ¬ d = 0 := by omega
      have hd2 : ¬ (d : Int) = 0 := by omega
      have hji0 : (j0 : Int) ≤ 15000 := by omega
      have hji1 : (j1 : Int) ≤ 15000 := by omega
      have hzi0 : (z0 : Int) ≤ 65535 := by omega
      have hzi1 : (z1 : Int) ≤ 65535 := by omega
      clear hj0 hj1
      have hai : (c.act : Int) ≤ 823 := by have := act_le HO.out.small; omega
      obtain ⟨i0, hi0⟩ : ∃ i, i = c.act + j0 := ⟨_, rfl⟩
      obtain ⟨i1, hi1⟩ : ∃ i, i = c.act + j1 := ⟨_, rfl⟩
      have ei0 : (c.act : Int) + (j0 : Int) = (i0 : Int) := by omega
      have ei1 : (c.act : Int) + (j1 : Int) = (i1 : Int) := by omega
      have hib0 : (i0 : Int) ≤ 15000 := by omega
      have hib1 : (i1 : Int) ≤ 15000 := by omega
      have HI0 := hid (And.intro hi0 (show c.act ≤ i0 ∧ i0 < a.n by omega))
      have HI1 := hid (And.intro hi1 (show c.act ≤ i1 ∧ i1 < a.n by omega))
      have hrb : r' ≤ 30 := by omega
      clear hi0 hi1
      go_wp2_with fail
      refine (active_at w7 c HO.out.small).mono ?_
      rintro e w8 ⟨rfl, hk8⟩
      have hOp8 := hOp7.keep0 hk8
      have hP8 := hk8.at hP7 (by simp)
      have hM8 := hk8.at hM7 (by simp)
      have hO8 := hO7.keep hk8 (by simp)
      have K8 := K7.trans (hk8.mono (by simp))
      clear p0 p1 c0 c1 c2 hOp7 hP7 hM7 hO7 K7 hk8
      go_wp2_with fail
      refine (sput_f hOp8 HO.out HN.out (by omega) (by omega) i0 _ HI0.out.2 (by omega)).mono ?_
      rintro e w9 ⟨rfl, u9, S9, m9, pl9, hOp9, hm9, hnow9, hu9, hk9⟩
      have hP9 := hk9.at hP8 hpq
      have hM9 := hk9.at hM8 hmq
      have hO9 := hO8.keep hk9 hgq
      have K9 : Keeps (g :: q.bl p a) w3 w9 := K8.trans (hk9.mono (fun k _ hk => List.mem_cons_of_mem _ hk))
      have HN9 := hid hnow9
      clear hOp8 hP8 hM8 hO8 K8 hk9 hnow9
      have c0 := hM9.cell 0 rfl
      have c1 := hM9.cell 1 rfl
      have c2 := hM9.cell 2 rfl
      go_wp2_with fail
      refine (active_at w9 c HO.out.small).mono ?_
      rintro e w10 ⟨rfl, hk10⟩
      have hOp10 := hOp9.keep0 hk10
      have hP10 := hk10.at hP9 (by simp)
      have hM10 := hk10.at hM9 (by simp)
      have hO10 := hO9.keep hk10 (by simp)
      have K10 := K9.trans (hk10.mono (by simp))
      clear c0 c1 c2 hOp9 hP9 hM9 hO9 K9 hk10
      go_wp2_with fail
      refine (sput_f hOp10 HO.out HN.out (by omega) (by omega) i1 _ HI1.out.2 (by omega)).mono ?_
      rintro e w11 ⟨rfl, u11, S11, m11, pl11, hOp11, hm11, hnow11, hu11, hk11⟩
      have hP11 := hk11.at hP10 hpq
      have hO11 := hO10.keep hk11 hgq
      have K11 : Keeps (g :: q.bl p a) w3 w11 := K10.trans (hk11.mono (fun k _ hk => List.mem_cons_of_mem _ hk))
      have HN11 := hid hnow11
      have hHK := hid hk
      clear hOp10 hP10 hM10 hO10 K10 hk11 hnow11 hm9 hk e0 e1 e2 e3
      have p1 := hP11.cell 1 rfl
      go_wp2_with fail
      · refine (abort_f hOp11 HO.out HN.out (by omega)).mono ?_
        rintro e w12 ⟨rfl, u12, S12, hSh12, hnow12, hu12, hk12⟩
        have hO12 := hO11.keep hk12 hgq
        have K12 : Keeps (g :: q.bl p a) w3 w12 := K11.trans (hk12.mono (fun k _ hk => List.mem_cons_of_mem _ hk))
        have hr12 : rS m11 r' ≤ r' + 1 := by unfold rS; split <;> omega
        have HO12 := hid (hO12.congr (f' := fun i => S12.now (c.act + i)) (fun i hi => by rw [hnow12 (c.act + i) (by omega) (by omega), fresh0, if_neg (by simp), HD7.out]))
        clear hnow12 hO12
        go_wp2_with fail
        go_roundg (n - (k + 1))
        case measure => have := hHK.out; omega
        case rel => exact ⟨k + 1, by have := hHK.out; omega, by go_num, u12, S12, _, hSh12, by omega, by simp; omega, HO12.out, K12⟩
      · refine (commit_f hOp11 HO.out HN.out (by omega)).mono ?_
        rintro e w12 ⟨rfl, u12, S12, hSh12, hnow12, hu12, hk12⟩
        have hO12 := hO11.keep hk12 hgq
        have K12 : Keeps (g :: q.bl p a) w3 w12 := K11.trans (hk12.mono (fun k _ hk => List.mem_cons_of_mem _ hk))
        have hr12 : rS m11 r' ≤ r' + 1 := by unfold rS; split <;> omega
        have HNW := hid (fun i (hi : i < d) => show S12.now (c.act + i) = if c.act + i = i1 then (k : Int) + 2 else if c.act + i = i0 then (k : Int) + 1 else S7.now (c.act + i) by
          rw [hnow12 (c.act + i) (by omega) (by omega), HN11.out (c.act + i) (by omega) (by omega), HN9.out (c.act + i) (by omega) (by omega)])
        have hgm : g ∈ g :: q.bl p a := by simp
        clear hnow12 hk12 hOp11 hO11 K11 p1
        have hOA1 := hO12.put hjd0 ((k : Int) + 1)
        by_cases h01 : j0 = j1
        · subst h01
          have hOA2 := hOA1.put hjd0 ((k : Int) + 2)
          have hOA3 := hOA2.put hjd0 ((k : Int) + 2)
          obtain ⟨x0, f0⟩ := hO12.cell hjd0
          obtain ⟨x1, f1⟩ := hOA1.cell hjd0
          obtain ⟨x2, f2⟩ := hOA2.cell hjd0
          have HOF := hid (hOA3.congr (f' := fun i => S12.now (c.act + i)) (fun i hi => by
            rw [HNW.out i hi]
            have h0 := HI0.out.1
            have h1 := HI1.out.1
            unfold put
            by_cases hij : i = j0
            · rw [if_pos hij, if_pos (by omega)]
            · rw [if_neg hij, if_neg hij, if_neg hij, if_neg (by omega), if_neg (by omega)]))
          have KF : Keeps (g :: q.bl p a) w3 _ := ((K12.set (p := ⟨g, c.act + j0, none⟩) (.inl hgm) (.int .u64 ((k : Int) + 1))).set (p := ⟨g, c.act + j0, none⟩) (.inl hgm) (.int .u64 ((k : Int) + 2))).set (p := ⟨g, c.act + j0, none⟩) (.inl hgm) (.int .u64 ((k : Int) + 2))
          have hShF := ((hSh12.keep (T := [g]) ((Keeps.refl _ _).set (p := ⟨g, c.act + j0, none⟩) (.inl (by simp)) (.int .u64 ((k : Int) + 1))) (by simpa using HGN.out)).keep (T := [g]) ((Keeps.refl _ _).set (p := ⟨g, c.act + j0, none⟩) (.inl (by simp)) (.int .u64 ((k : Int) + 2))) (by simpa using HGN.out)).keep (T := [g]) ((Keeps.refl _ _).set (p := ⟨g, c.act + j0, none⟩) (.inl (by simp)) (.int .u64 ((k : Int) + 2))) (by simpa using HGN.out)
          clear hOA1 hOA2 hOA3 hO12 K12 hSh12
          go_wp2_with fail
          go_roundg (n - (k + 1))
          case measure => have := hHK.out; omega
          case rel => exact ⟨k + 1, by have := hHK.out; omega, by go_num, u12, S12, _, hShF, by omega, by simp; omega, HOF.out, KF⟩
        · have hOA2 := hOA1.put hjd1 ((k : Int) + 2)
          obtain ⟨x0, f0⟩ := hO12.cell hjd0
          obtain ⟨x1, f1⟩ := hOA1.cell hjd1
          have t1 : (j0 == j1) = false := by rw [beq_eq_false_iff_ne]; exact h01
          have t2 : ((j0 : Int) == (j1 : Int)) = false := by rw [beq_eq_false_iff_ne]; omega
          have HOF := hid (hOA2.congr (f' := fun i => S12.now (c.act + i)) (fun i hi => by
            rw [HNW.out i hi]
            have h0 := HI0.out.1
            have h1 := HI1.out.1
            unfold put
            by_cases hij : i = j1
            · rw [if_pos hij, if_pos (by omega)]
            · by_cases hij0 : i = j0
              · rw [if_neg hij, if_pos hij0, if_neg (by omega), if_pos (by omega)]
              · rw [if_neg hij, if_neg hij0, if_neg (by omega), if_neg (by omega)]))
          have KF : Keeps (g :: q.bl p a) w3 _ := (K12.set (p := ⟨g, c.act + j0, none⟩) (.inl hgm) (.int .u64 ((k : Int) + 1))).set (p := ⟨g, c.act + j1, none⟩) (.inl hgm) (.int .u64 ((k : Int) + 2))
          have hShF := (hSh12.keep (T := [g]) ((Keeps.refl _ _).set (p := ⟨g, c.act + j0, none⟩) (.inl (by simp)) (.int .u64 ((k : Int) + 1))) (by simpa using HGN.out)).keep (T := [g]) ((Keeps.refl _ _).set (p := ⟨g, c.act + j1, none⟩) (.inl (by simp)) (.int .u64 ((k : Int) + 2))) (by simpa using HGN.out)
          clear hOA1 hOA2 hO12 K12 hSh12
          go_wp2_with fail
          go_roundg (n - (k + 1))
          case measure => have := hHK.out; omega
          case rel => exact ⟨k + 1, by have := hHK.out; omega, by go_num, u12, S12, _, hShF, by omega, by simp; omega, HOF.out, KF⟩
    · have hV3r := hK.at hV3 (fun hm => by have := HGB.out _ hm; omega)
      have hMr := hK.at hM3 HMG.out
      have hkn : k = n := by omega
      subst hkn
      clear hlt hk
      obtain ⟨st', f', t', R', U', pl', wd', hSW, hSS⟩ := hSh
      have hD := hSW.lw.pw.dev
      have hCR := hid (crash_plain wr p a S' hD _ #[ptr (W.heap.size + 1)] (chV bits) [W.heap.size + 1] _ (sectionRows1_chooser (W.heap.size + 1) bits a.n (by omega)) hV3r (by
        have h2 := hB2.out a.s (by unfold Sc.bl; simp)
        have h3 := hB2.out a.k (by unfold Sc.bl; simp)
        have h4 := hB2.out a.m (by unfold Sc.bl; simp)
        simp; omega) (by simp; exact hV3r.lt))
      go_wp2_with fail
      refine hCR.out.mono ?_
      rintro e w5 ⟨rfl, hD5, hV5, hk5⟩
      have hM5 := hk5.at hMr (by
        have hm := HMB.out
        unfold Sc.bl at hm
        simp only [List.mem_cons, List.not_mem_nil, or_false, not_or] at hm ⊢
        exact ⟨hm.2.2.1, hm.2.2.2.1, hm.2.2.2.2.1⟩)
      have hO5 := hO.keep hk5 (by
        have h2 := HGN.out a.s (by unfold Sc.bl; simp)
        have h3 := HGN.out a.k (by unfold Sc.bl; simp)
        have h4 := HGN.out a.m (by unfold Sc.bl; simp)
        simp only [List.mem_cons, List.not_mem_nil, or_false, not_or]
        exact ⟨h2.symm, h3.symm, h4.symm⟩)
      have KW : Keeps [] W wr := K3.new hK (fun b hb => .inr (by have := HGB.out b hb; omega))
      have K5 : Keeps [] W w5 := KW.new hk5 (by
        have h2 := HGB.out a.s (by unfold Sc.bl; simp)
        have h3 := HGB.out a.k (by unfold Sc.bl; simp)
        have h4 := HGB.out a.m (by unfold Sc.bl; simp)
        simp; omega)
      have HE := hid (fun j (hj : j < d) => show leftV S' (c.act + j) (chV bits (c.act + j) % 3) = S'.now (c.act + j) from (hSS.cl (c.act + j) (by omega) (by omega)).left _)
      have hd35 : d ≤ 35184372088832 := by omega
      have hdn := hid (show d = a.n - c.act by omega)
      have c0 := hM5.cell 0 rfl
      have c1 := hM5.cell 1 rfl
      have c2 := hM5.cell 2 rfl
      clear hCR hk5 hV5 hV3r hMr hO KW hSW hSS hD hK
      go_wp2_with fail
      refine (words7_at w5 p a _ c hD5 HO.out HN.out).mono ?_
      rintro e w6 ⟨g6, cap6, rfl, hg6, hgb6, hR6, hk6⟩
      have hO6 := hO5.keep hk6 (by simp)
      have HR6 := hid hR6
      have K6 := K5.trans hk6
      rw [← hdn.out] at HR6 ⊢
      clear c0 c1 c2 hO5 K5 hk6 hR6 hgb6 hg6
      go_wp2_with fail
      refine (equal_true w6 _ _ d cap6 cap _ _ HR6.out hO6.reads HE.out hd35).mono ?_
      rintro e w7 ⟨rfl, hk7⟩
      go_wp2_with fail
      go_ret
      exact ⟨rfl, (K6.trans hk7).below (Nat.le_refl _) (by simp)⟩

theorem preads_of {W : World} {x : Option Addr} {n : Nat} {f : Nat → Nat → Int} (h : n * 2 = 0 ∨ ∃ b off, x = some ⟨b, off, none⟩ ∧ b < W.heap.size ∧ ∀ i j, i < n → j < 2 → W.cell? ⟨b, off + (i * 2 + j), none⟩ = some (.int .u16 (f i j)) ∧ (Lit.int .u16 (f i j)).wf = true) : PReads W x n f := by
  rcases h with h | ⟨b, off, rfl, hb, hc⟩
  · exact .inl (by omega)
  · refine .inr ⟨b, off, rfl, hb, fun i hi => ?_⟩
    obtain ⟨h0, w0⟩ := hc i 0 hi (by omega)
    obtain ⟨h1, w1⟩ := hc i 1 hi (by omega)
    have b0 := bounds_u16 w0
    have b1 := bounds_u16 w1
    exact ⟨by simpa using h0, by simpa [Nat.add_assoc] using h1, by omega, by omega, by omega, by omega⟩

theorem sectionRows_walk (l r s : Int) (x : Option Addr) (n cp : Nat) (f : Nat → Nat → Int) (bits : Int) (W : World) (wl : (Lit.int .u16 l).wf = true) (wr : (Lit.int .u16 r).wf = true) (ws : (Lit.int .u16 s).wf = true)
    (R1 : n * 2 = 0 ∨ ∃ b off, x = some ⟨b, off, none⟩ ∧ b < W.heap.size ∧ ∀ i j, i < n → j < 2 → W.cell? ⟨b, off + (i * 2 + j), none⟩ = some (.int .u16 (f i j)) ∧ (Lit.int .u16 (f i j)).wf = true) (_ : n ≤ maxLen) (_ : (Lit.int .u64 bits).wf = true) :
    Calls Tryz.prog 8 #[.agg #[.int .u16 l, .int .u16 r, .int .u16 s], .slice x n cp, .int .u64 bits] W fun e w' => e = .returned (.bool true) ∧ Below W.heap.size W w' := by
  obtain ⟨l, rfl, hl⟩ := c3_open wl
  obtain ⟨r, rfl, hr⟩ := c3_open wr
  obtain ⟨s, rfl, hs⟩ := c3_open ws
  by_cases hg : 30 < n
  · exact rows_great l r s x n cp bits W hg
  · exact rows_small l r s x n cp f bits W hl hr hs (by omega) (preads_of R1)

end Go.Proofs.YtphblanaicaicaaGreat
