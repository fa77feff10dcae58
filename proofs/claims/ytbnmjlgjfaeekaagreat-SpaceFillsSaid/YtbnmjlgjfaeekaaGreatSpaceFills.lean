/- The walk of the law SpaceFills. -/
import Derived.Test.YtbnmjlgjfaeekaaGreatAwk9
namespace Go.Proofs.YtbnmjlgjfaeekaaGreat
open Go.RowKit Go.OpenShut

/-- A device of which one space has so many words used. -/
def UsedD (c : Cfg) (p : Nat) (a : DA) (k us : Nat) (ub : Int) (w : World) : Prop :=
  ∃ u S, Pw w p a (-1) u S ∧ u ≤ ub ∧ S.now c.act = (k : Int) ∧ S.now (c.act + 1) = (us : Int)

set_option maxRecDepth 100000 in
set_option maxHeartbeats 4000000 in
theorem fills_small (l r s hr hn : Nat) (act : Bool) (W : World) (hl : l ≤ 65535) (hrr : r ≤ 65535) (hs : s ≤ 65535) (hhr : hr ≤ 255) (hhn : hn ≤ 255) :
    Calls Tryz.prog 5 #[c3V l r s, h9V hr hn, .bool act] W fun e w' => e = .returned (.bool true) ∧ Below W.heap.size W w' := by
  go_enter Tryz.func5, Tryz.ntmps5
  go_wp2_with fail
  have hB0 := (At.new W (c3O l r s)).alloc (h9O hr hn)
  have hH0 := At.new (W.alloc (c3O l r s)) (h9O hr hn)
  have K0 := ((Keeps.refl [] W).alloc (c3O l r s)).alloc (h9O hr hn)
  rw [show (W.alloc (c3O l r s)).heap.size = W.heap.size + 1 by simp] at hH0
  refine (awake9_any _).mono ?_
  rintro e w1 ⟨rfl, hb1⟩
  have k1 := Go.Proofs.YtbnmjlgjfaeekaaGreat.Below.keeps hb1 []
  have K1 := K0.trans k1
  have hB1 := k1.at hB0 (by simp)
  have hH1 := k1.at hH0 (by simp)
  have hz1 : W.heap.size + 2 ≤ w1.heap.size := by have := k1.size; simp at this; omega
  clear hb1 k1 hB0 hH0 K0
  have c0 : w1.cell? ⟨W.heap.size, 0, none⟩ = some (.int .u16 l) := hB1.cell 0 rfl
  have c1 : w1.cell? ⟨W.heap.size, 1, none⟩ = some (.int .u16 r) := hB1.cell 1 rfl
  have c2 : w1.cell? ⟨W.heap.size, 2, none⟩ = some (.int .u16 s) := hB1.cell 2 rfl
  go_wp2_with fail
  refine (make3_at w1 l r s hl hrr hs).mono ?_
  rintro e w2 ⟨rfl, hk2⟩
  have K2 := K1.trans hk2
  have hH2 := hk2.at hH1 (by simp)
  have hok := mk3_ok l r s
  obtain ⟨c, hc⟩ : ∃ c, c = mk3 l r s := ⟨_, rfl⟩
  have hz2 : W.heap.size + 2 ≤ w2.heap.size := Nat.le_trans hz1 hk2.size
  rw [← hc] at hok ⊢
  clear hc c0 c1 c2 hB1 hH1 hk2 K1 hz1
  go_wp2_with fail
  have hC3 := At.new w2 (cfgO c)
  have hH3 := hH2.alloc (cfgO c)
  have K3 := K2.alloc (cfgO c)
  obtain ⟨cb, hcb⟩ : ∃ cb, cb = w2.heap.size := ⟨_, rfl⟩
  rw [← hcb] at hC3 hz2 ⊢
  have HCB := hid hcb
  clear hcb K2 hH2
  refine (formatted_at _ c hok none 0 0 (fun _ => 0) (.inl rfl) (by omega)).mono ?_
  rintro e w4 ⟨p, a, u, S, rfl, haN, hP, hub, hW, hkp, his, ⟨b1, b2, b3, b4, b5⟩, hk4⟩
  simp only [World.size_alloc] at b1 b2 b3 b4 b5
  rw [← HCB.out] at b1 b2 b3 b4 b5
  have hC4 := hk4.at hC3 (by simp)
  have hH4 := hk4.at hH3 (by simp)
  have K4 := K3.trans hk4
  obtain ⟨_, hLF⟩ := hW
  have HN := hid haN
  have HO := hid hok
  have hsp : (c.space : Int) ≤ 4096 := by have := hok.small.2.2; omega
  have hai : (c.act : Int) ≤ 823 := by have := act_le hok.small; omega
  have hin : Hid (c.act + 2 ≤ a.n) := by
    have := @frm_ge c 1
    have := @frm_space c 1 (Nat.le_refl _)
    show _ ≤ _; omega
  have HWT : Hid (∀ b ∈ [p, a.s, a.k, a.m], W.heap.size ≤ b ∧ b ≠ cb ∧ b ≠ W.heap.size + 1) := fun b hb => by
    simp only [List.mem_cons, List.not_mem_nil, or_false] at hb
    omega
  have HHB := hid (show W.heap.size + 1 < cb by omega)
  have hu0 : UsedD c p a 0 0 100001 w4 := ⟨u, S, hP, by omega, hLF.blk 0 (by omega), hLF.blk 1 (by omega)⟩
  have hz32 : S.now c.act = 0 := hLF.blk 0 (by omega)
  have hz33 : S.now (c.act + 1) = 0 := hLF.blk 1 (by omega)
  have HZ := hid (And.intro hz32 hz33)
  have HP := hid hP
  have HUB := hid hub
  have HK4 := hid K4
  clear haN hok hkp his hC3 hH3 K3 hk4 hLF b1 b2 b3 b4 b5 hz32 hz33 hP hub K4 hz2 HCB
  have c0 := hC4.cell 0 rfl
  have c1 := hC4.cell 1 rfl
  have c2 := hC4.cell 2 rfl
  go_upto_if 28 with fail
  go_cut [] from 29 to 32 (fun wx => ∃ k, k ≤ 1 ∧ UsedD c p a k 0 100001 wx ∧ Keeps [p, a.s, a.k, a.m] w4 wx)
  case first =>
    cases act with
    | false =>
      go_wp2_with fail
      go_meet
      exact ⟨0, by omega, hu0, Keeps.refl _ _⟩
    | true =>
      clear hu0
      go_wp2_with fail
      refine (active_at _ c HO.out.small).mono ?_
      rintro e w5 ⟨rfl, hk5⟩
      go_wp2_with fail
      refine (store_ran w5 p a (-1) u S c.act 1 (HP.out.keep0 hk5) (by have := hin.out; omega) (by have := HUB.out; omega)).mono ?_
      intro e w6 hr6
      obtain ⟨rfl, hP6, hk6⟩ := hr6.free HP.out.lo
      have HP6 := hid hP6
      clear hr6 hP6
      go_wp2_with fail
      go_meet
      refine ⟨1, by omega, ⟨_, _, HP6.out, by have := HUB.out; simp; omega, ?_, ?_⟩, (hk5.mono (by simp)).trans hk6⟩
      · show (if c.act = c.act then (1 : Int) else S.now c.act) = ((1 : Nat) : Int)
        rw [if_pos rfl]; rfl
      · show (if c.act + 1 = c.act then (1 : Int) else S.now (c.act + 1)) = ((0 : Nat) : Int)
        rw [if_neg (by omega)]; exact HZ.out.2
  case rest =>
  obtain ⟨k, hk, hUD, hkx⟩ := hcut
  have HKK := hid hk
  have HUD := hid hUD
  have hcT : cb ∉ [p, a.s, a.k, a.m] := fun h => (HWT.out _ h).2.1 rfl
  have hhT : W.heap.size + 1 ∉ [p, a.s, a.k, a.m] := fun h => (HWT.out _ h).2.2 rfl
  have HCT := hid hcT
  have hC5 := hkx.at hC4 hcT
  have hH5 := hkx.at hH4 hhT
  have K5 : Keeps [] W _ := HK4.out.new hkx (fun b hb => .inr (HWT.out b hb).1)
  clear hk hUD hcT hhT hC4 hH4 HK4 hkx hu0 HP HZ HUB c0 c1 c2
  have h0 := hH5.cell 0 rfl
  have h1 := hH5.cell 1 rfl
  go_wp2_with fail
  refine (make9_at _ hr hn hhr hhn).mono ?_
  rintro e w6 ⟨rfl, hk6⟩
  have hnw : hn % 9 ≤ 8 := by omega
  have hrw : hr % (hn % 9 + 1) ≤ hn % 9 := by have := Nat.mod_lt hr (show 0 < hn % 9 + 1 by omega); omega
  obtain ⟨nw, hnwe⟩ : ∃ nw, nw = hn % 9 := ⟨_, rfl⟩
  obtain ⟨rw9, hrwe⟩ : ∃ rw9, rw9 = hr % (hn % 9 + 1) := ⟨_, rfl⟩
  rw [← hrwe, ← hnwe] at hrw
  rw [← hrwe, ← hnwe]
  rw [← hnwe] at hnw
  have HNW := hid (And.intro hnw hrw)
  have hnwi : (nw : Int) ≤ 8 := by omega
  have hC6 := hk6.at hC5 (by simp)
  have K6 := K5.trans hk6
  have HU6 : Hid (UsedD c p a k 0 100001 w6) := by
    obtain ⟨u', S', e1, e2⟩ := HUD.out
    exact ⟨u', S', e1.keep0 hk6, e2⟩
  clear hnwe hrwe hnw hrw h0 h1 hC5 hH5 K5 hk6 HUD
  go_upto_region 10 with fail
  have hC7 := hC6.alloc (hdO nw rw9)
  have hH7 := At.new w6 (hdO nw rw9)
  have K7 := K6.alloc (hdO nw rw9)
  have hcl := hC6.lt
  have HU7 : Hid (UsedD c p a k 0 100001 (w6.alloc (hdO nw rw9))) := by
    obtain ⟨u', S', e1, e2⟩ := HU6.out
    exact ⟨u', S', e1.keep0 ((Keeps.refl _ _).alloc _), e2⟩
  have HHT : Hid (w6.heap.size ∉ [p, a.s, a.k, a.m] ∧ cb ≠ w6.heap.size) := by
    obtain ⟨u', S', e1, _⟩ := HU6.out
    have i1 := e1.pow.lt
    have i2 := e1.dev.now.lt
    have i3 := e1.dev.kept.lt
    have i4 := e1.dev.map.lt
    refine ⟨fun h => ?_, by omega⟩
    simp only [List.mem_cons, List.not_mem_nil, or_false] at h
    omega
  obtain ⟨hb, hhb⟩ : ∃ hb, hb = w6.heap.size := ⟨_, rfl⟩
  obtain ⟨w7, hw7⟩ : ∃ w7, w7 = w6.alloc (hdO nw rw9) := ⟨_, rfl⟩
  rw [← hhb] at hH7 HHT ⊢
  rw [← hw7] at hC7 hH7 K7 HU7 ⊢
  clear hw7 hhb HU6 hC6 K6 hcl
  have HCL : Hid (∀ w', Keeps [p, a.s, a.k, a.m] w7 w' → (w'.cell? ⟨cb, 0, none⟩ = some (.int .i64 c.log) ∧ w'.cell? ⟨cb, 1, none⟩ = some (.int .i64 c.roots) ∧ w'.cell? ⟨cb, 2, none⟩ = some (.int .i64 c.space) ∧ w'.cell? ⟨hb, 0, none⟩ = some (.int .i64 nw) ∧ w'.cell? ⟨hb, 1, none⟩ = some (.int .i64 rw9))) := fun w' hk => by
    have e1 := hk.at hC7 HCT.out
    have e2 := hk.at hH7 HHT.out.1
    exact ⟨e1.cell 0 rfl, e1.cell 1 rfl, e1.cell 2 rfl, e2.cell 0 rfl, e2.cell 1 rfl⟩
  have HC7 := hid hC7
  have HH7 := hid hH7
  have HK7 := hid K7
  clear hC7 hH7 K7
  go_wp2_with fail
  go_loopg [11] (c.space + 1) (fun rr sl wr => ∃ q : Nat, q + rr = c.space + 1 ∧ sl = .int .i64 q ∧ q * (nw + 1) ≤ c.space ∧ UsedD c p a k (q * (nw + 1)) (100001 + 70 * (q : Int)) wr ∧ Keeps [p, a.s, a.k, a.m] w7 wr)
  case atStart => exact ⟨0, by omega, rfl, by omega, by simpa using HU7.out, Keeps.refl _ _⟩
  case round =>
    obtain ⟨q, hq, rfl, hqs, ⟨u8, S8, hP8, hu8, hA8, hB8⟩, hK⟩ := hrel
    have hql : q ≤ c.space := Nat.le_trans (Nat.le_mul_of_pos_right q (by omega)) hqs
    have hqi : (q : Int) ≤ (c.space : Int) := by omega
    obtain ⟨us, hus⟩ : ∃ us, us = q * (nw + 1) := ⟨_, rfl⟩
    rw [← hus] at hqs hB8
    have HAL := hid (alloc9_free wr p a u8 S8 c hP8 HO.out HN.out (by omega) k us HKK.out hqs hA8 hB8 nw rw9 (by omega) HNW.out.2)
    have HRD := hid (fun (w' : World) (hk : Keeps [] wr w') => rread_at w' p a S8 c (hP8.dev.keep hk (by simp) (by simp) (by simp) (by simp)) HO.out HN.out (by rw [hA8]; omega) (by rw [hB8]; omega))
    have HU8 := hid hu8
    have HAB := hid (And.intro hA8 hB8)
    have HQ := hid (And.intro hq (And.intro hqs hus))
    have HKr := hid hK
    have hqb : (q : Int) ≤ 4096 := by omega
    obtain ⟨z1, z2, z3, z4, z5⟩ := HCL.out _ hK
    clear hu8 hA8 hB8 hq hqs hus hK hP8 hql
    go_wp2_with fail
    refine HAL.out.mono ?_
    rintro e w9 (⟨g9, rfl, hk9⟩ | ⟨g9, rfl, u9, S9, hP9, hu9, _, ⟨f1, f2, f3, f4⟩, hk9⟩)
    rotate_left
    · have HR9 : Hid ((q + 1) * (nw + 1) ≤ c.space ∧ UsedD c p a k ((q + 1) * (nw + 1)) (100001 + 70 * ((q + 1 : Nat) : Int)) w9) := by
        have e9 : (q + 1) * (nw + 1) = us + (nw + 1) := by rw [HQ.out.2.2, Nat.add_mul]; omega
        rw [e9]
        refine ⟨g9, u9, S9, hP9, by have := HU8.out; have := HNW.out.1; omega, ?_, f1⟩
        rw [f4 c.act (by omega) (by have := @frm_ge c k; omega)]
        exact HAB.out.1
      have hK9 := HKr.out.trans hk9
      clear f1 f2 f3 f4 hP9 hu9 hk9 HAL HRD z1 z2 z3 z4 z5 g9
      go_wp2_with fail
      go_roundg (c.space + 1 - (q + 1))
      case measure => (have := HQ.out.1; omega)
      case rel => exact ⟨q + 1, by have := HQ.out.1; omega, by go_num, HR9.out.1, HR9.out.2, hK9⟩
    · have hK9 := HKr.out.trans (hk9.mono (by simp))
      have HR9 := hid (HRD.out w9 hk9)
      have HG9 := hid g9
      clear HAL HRD z1 z2 z3 z4 z5 g9 hk9
      obtain ⟨z1, z2, z3, z4, z5⟩ := HCL.out _ hK9
      go_wp2_with fail
      refine HR9.out.mono ?_
      rintro e w10 (⟨h9, rfl, hk10⟩ | ⟨k1, u1, x9, cp9, hk1, hu1, hA1, hU1, rfl, hO9, hk10⟩)
      · rw [HAB.out.1, HAB.out.2] at h9
        have := HKK.out
        have := HQ.out.2.1
        omega
      rw [HAB.out.1] at hA1
      rw [HAB.out.2] at hU1
      obtain rfl : k = k1 := by omega
      obtain rfl : us = u1 := by omega
      have hK10 := hK9.trans (hk10.mono (by simp))
      clear hk1 hA1 hU1 hO9 hk10 z1 z2 z3 z4 z5 hu1
      obtain ⟨z1, z2, z3, z4, z5⟩ := HCL.out _ (hK10.alloc (bkO k us (.slice x9 c.roots cp9)))
      have hB10 := At.new w10 (bkO k us (.slice x9 c.roots cp9))
      have d0 := hB10.cell 0 rfl
      have d1 := hB10.cell 1 rfl
      have d2 := hB10.cell 2 rfl
      go_wp2_with fail
      refine (fresh9_at _ c HO.out.small k HKK.out us (by have := HQ.out.2.1; omega) (.slice x9 c.roots cp9)).mono ?_
      rintro e w11 ⟨rfl, hk11⟩
      have hK11 := (hK10.alloc (bkO k us (.slice x9 c.roots cp9))).trans (hk11.mono (by simp))
      have hB11 := hk11.at hB10 (by simp)
      clear z1 z2 z3 z4 z5 d0 d1 d2
      go_upto_region 19 with fail
      have hK12 := hK11.alloc (.cells #[.int .i64 ((c.frm k : Int) + us), .int .i64 ((c.frm k : Int) + c.space)] 49)
      have hB12 := hB11.alloc (.cells #[.int .i64 ((c.frm k : Int) + us), .int .i64 ((c.frm k : Int) + c.space)] 49)
      have hS12 := At.new w11 (.cells #[.int .i64 ((c.frm k : Int) + us), .int .i64 ((c.frm k : Int) + c.space)] 49)
      obtain ⟨bb, hbb⟩ : ∃ bb, bb = w10.heap.size := ⟨_, rfl⟩
      obtain ⟨sb, hsb⟩ : ∃ sb, sb = w11.heap.size := ⟨_, rfl⟩
      obtain ⟨w12, hw12⟩ : ∃ w12, w12 = w11.alloc (.cells #[.int .i64 ((c.frm k : Int) + us), .int .i64 ((c.frm k : Int) + c.space)] 49) := ⟨_, rfl⟩
      rw [← hw12] at hK12 hB12 hS12 ⊢
      rw [← hbb] at hB12 ⊢
      rw [← hsb] at hS12 ⊢
      clear hw12 hbb hsb hB11 hK11 hK10 hB10 hK9 hk11
      have hus8 : us ≤ c.space := HQ.out.2.1
      have hlast : c.space < us + (nw + 1) := HG9.out
      have hfb : (c.frm k : Int) ≤ 15000 := by have := frm_le HO.out.small (show k ≤ 2 by have := HKK.out; omega); omega
      obtain ⟨ff, hff⟩ : ∃ ff, ff = c.frm k := ⟨_, rfl⟩
      rw [← hff] at hS12 hfb
      obtain ⟨m, hm⟩ : ∃ m, m = nw + 1 := ⟨_, rfl⟩
      obtain ⟨dd, hdd⟩ : ∃ dd, dd = c.space - us := ⟨_, rfl⟩
      have HSZ : Hid (∀ w : World, Calls Tryz.prog 21 #[hdV nw rw9] w fun e w' => e = .returned (.int .i64 (m : Int)) ∧ Keeps [] w w') := fun w => by
        rw [hm]
        exact hsize_at w nw rw9 (by omega)
      have husm : us = q * m := by rw [hm]; exact HQ.out.2.2
      have e1 : IntKind.i64.wrap ((q : Int) * (m : Int)) = (us : Int) := by
        rw [show (q : Int) * (m : Int) = ((q * m : Nat) : Int) by simp, ← husm]
        exact IntWalk.i64_in _ (by omega)
      have hdiv : c.space / m = q := by
        rw [show c.space = dd + m * q by rw [Nat.mul_comm, ← husm]; omega, Nat.add_mul_div_left _ _ (by omega), Nat.div_eq_of_lt (by omega), Nat.zero_add]
      have e2 : (c.space : Int).tdiv (m : Int) = (q : Int) := by rw [← hdiv]; exact (Int.ofNat_tdiv _ _).symm
      have e3 : IntKind.i64.wrap ((ff : Int) + (c.space : Int) - ((ff : Int) + (us : Int))) = (dd : Int) := by rw [IntWalk.i64_in _ (by omega)]; omega
      have e4 : IntKind.i64.wrap ((c.space : Int) - (us : Int)) = (dd : Int) := by rw [IntWalk.i64_in _ (by omega)]; omega
      have e5 : decide ((dd : Int) < (m : Int)) = true := decide_eq_true (by omega)
      have e6 : (dd : Int) < (m : Int) := by omega
      have e7 : ¬ (m : Int) = 0 := by omega
      have e9 : ¬ m = 0 := by omega
      have e10 : IntKind.i64.wrap ((c.space : Int).tdiv (m : Int)) = (q : Int) := by rw [e2]; exact IntWalk.i64_in _ (by omega)
      have e11 : (c.space : Int) / (m : Int) = (q : Int) := by rw [← hdiv]; rfl
      have e8 : IntKind.i64.wrap (q : Int) = (q : Int) := IntWalk.i64_in _ (by omega)
      have HC12 : Hid (∀ w', Keeps [] w12 w' → (w'.cell? ⟨cb, 2, none⟩ = some (.int .i64 c.space) ∧ w'.cell? ⟨hb, 0, none⟩ = some (.int .i64 nw) ∧ w'.cell? ⟨hb, 1, none⟩ = some (.int .i64 rw9) ∧ w'.cell? ⟨bb, 1, none⟩ = some (.int .i64 us) ∧ w'.cell? ⟨sb, 0, none⟩ = some (.int .i64 ((ff : Int) + us)) ∧ w'.cell? ⟨sb, 1, none⟩ = some (.int .i64 ((ff : Int) + c.space)))) := fun w' hk => by
        obtain ⟨_, _, x3, x4, x5⟩ := HCL.out w' (hK12.trans (hk.mono (by simp)))
        have x6 := hk.at hB12 (by simp)
        have x7 := hk.at hS12 (by simp)
        exact ⟨x3, x4, x5, x6.cell 1 rfl, x7.cell 0 rfl, x7.cell 1 rfl⟩
      clear hus8 hlast hff hm hdd husm hdiv hB12 hS12
      have kk : Keeps [] w12 w12.drew := (Keeps.refl _ _).drew
      go_region_held3 (fun w' => w'.cell? ⟨cb, 2, none⟩ = some (.int .i64 c.space) ∧ w'.cell? ⟨hb, 0, none⟩ = some (.int .i64 nw) ∧ w'.cell? ⟨hb, 1, none⟩ = some (.int .i64 rw9) ∧ w'.cell? ⟨bb, 1, none⟩ = some (.int .i64 us) ∧ w'.cell? ⟨sb, 0, none⟩ = some (.int .i64 ((ff : Int) + us)) ∧ w'.cell? ⟨sb, 1, none⟩ = some (.int .i64 ((ff : Int) + c.space)))
        (exact HC12.out _ kk)
        (first
          | (go_at_call 21; refine (HSZ.out _).mono ?_; rintro e w' ⟨rfl, hk9⟩; have kk := kk.trans hk9; clear hk9))
      rename_i hHd
      clear hHd
      have KE := HK7.out.new (hK12.trans (kk.mono (by simp))) (fun b hb => .inr (HWT.out b hb).1)
      go_wp2_with fail
      go_ret
      exact ⟨rfl, KE.below (Nat.le_refl _) (by simp)⟩

theorem spaceFills_walk (l r s hr hn : Int) (act : Bool) (W : World) (wl : (Lit.int .u16 l).wf = true) (wr : (Lit.int .u16 r).wf = true) (ws : (Lit.int .u16 s).wf = true) (w1 : (Lit.int .u8 hr).wf = true) (w2 : (Lit.int .u8 hn).wf = true) :
    Calls Tryz.prog 5 #[.agg #[.int .u16 l, .int .u16 r, .int .u16 s], .agg #[.int .u8 hr, .int .u8 hn], .bool act] W fun e w' => e = .returned (.bool true) ∧ Below W.heap.size W w' := by
  obtain ⟨l, rfl, hl⟩ := c3_open wl
  obtain ⟨r, rfl, hr3⟩ := c3_open wr
  obtain ⟨s, rfl, hs⟩ := c3_open ws
  have h1 := bounds_u8 w1
  have h2 := bounds_u8 w2
  obtain ⟨hr, rfl⟩ : ∃ n : Nat, (n : Int) = hr := ⟨hr.toNat, by omega⟩
  obtain ⟨hn, rfl⟩ : ∃ n : Nat, (n : Int) = hn := ⟨hn.toNat, by omega⟩
  exact fills_small l r s hr hn act W hl hr3 hs (by omega) (by omega)

end Go.Proofs.YtbnmjlgjfaeekaaGreat
