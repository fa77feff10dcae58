/- The walk of the law CheckLess. -/
import Derived.Test.YtlpmdjmamnkokaaGreatAwk12
import Derived.Test.YtlpmdjmamnkokaaGreatLwd
import Derived.BigQuiet
import Derived.Deep.RegionHeld3
namespace Go.Proofs.YtlpmdjmamnkokaaGreat
open Go.RowKit Go.OpenShut

set_option maxRecDepth 100000 in
set_option maxHeartbeats 4000000 in
theorem cless_small (l r s : Nat) (y0 : Option Addr) (m cm : Nat) (R V : Nat → Nat) (kk mo : Nat) (W : World) (hl : l ≤ 65535) (hrr : r ≤ 65535) (hs : s ≤ 65535)
    (hy : ReadsH W y0 m R V) (hm : m ≤ 9223372036854775807) (hkk : kk ≤ 255) (hmo : mo ≤ 18446744073709551615) :
    Calls Tryz.prog 5 #[c3V l r s, .slice y0 m cm, .int .u8 kk, .int .u64 mo] W fun e w' => e = .returned (.bool true) ∧ Below W.heap.size W w' := by
  have hmi : (m : Int) ≤ 9223372036854775807 := by omega
  have hkki : (kk : Int) ≤ 255 := by omega
  have hmoi : (mo : Int) ≤ 18446744073709551615 := by omega
  obtain ⟨mq, hmq⟩ : ∃ mq, mq = mo % 4611686018427387904 := ⟨_, rfl⟩
  have em : (mo : Int) % 4611686018427387904 = (mq : Int) := by omega
  have em1 : (mo : Int).tmod 4611686018427387904 = (mq : Int) := by rw [Int.tmod_eq_emod_of_nonneg (by omega)]; exact em
  have hmqi : (mq : Int) < 4611686018427387904 := by omega
  have em2 : IntKind.u64.wrap (mq : Int) = (mq : Int) := IntWalk.u64_in _ (by omega)
  have em3 : IntKind.u64.wrap ((mo : Int).tmod 4611686018427387904) = (mq : Int) := by rw [em1]; exact em2
  have HY := hid hy
  have HEM := hid (And.intro em (And.intro em1 (And.intro em2 (And.intro em3 hmqi))))
  clear hy hmq hmoi hmo em em1 em2 em3 hmqi
  go_enter Tryz.func5, Tryz.ntmps5
  go_wp2_with fail
  have hB0 := At.new W (c3O l r s)
  have K0 := (Keeps.refl [] W).alloc (c3O l r s)
  obtain ⟨xb, hxb⟩ : ∃ q, q = W.heap.size := ⟨_, rfl⟩
  rw [← hxb] at hB0
  rw [← hxb]
  clear hxb
  refine (awake12_any _).mono ?_
  rintro e w1 ⟨rfl, hb1⟩
  have k1 := Go.Proofs.YtlpmdjmamnkokaaGreat.Below.keeps hb1 []
  have K1 := K0.trans k1
  have hB1 := k1.at hB0 (by simp)
  clear hb1 k1 hB0 K0
  have c0 : w1.cell? ⟨xb, 0, none⟩ = some (.int .u16 l) := hB1.cell 0 rfl
  have c1 : w1.cell? ⟨xb, 1, none⟩ = some (.int .u16 r) := hB1.cell 1 rfl
  have c2 : w1.cell? ⟨xb, 2, none⟩ = some (.int .u16 s) := hB1.cell 2 rfl
  by_cases hm30 : m ≤ 30
  case neg =>
    have hm2 : (30 : Int) < (m : Int) := by omega
    go_wp2_with fail
    go_ret
    exact ⟨rfl, K1.below (Nat.le_refl _) (by simp)⟩
  have hm2 : (m : Int) ≤ 30 := by omega
  clear hmi
  have hok := mk3_ok l r s
  obtain ⟨c, hc⟩ : ∃ c, c = mk3 l r s := ⟨_, rfl⟩
  rw [← hc] at hok
  have HFI := hid (filled_at w1 l r s hl hrr hs y0 m cm R V (HY.out.keep K1 (by simp)) (by omega) c hc)
  clear hc
  go_wp2_with fail
  refine HFI.out.mono ?_
  obtain ⟨os, hos⟩ : ∃ os, os = fillL c.space (hdsL R V m) := ⟨_, rfl⟩
  rw [← hos]
  rintro e w3 ⟨p, a, u, S, x, cp, y, cy, B, rfl, hn, hP, hub, hF, hU, hI, ⟨b1, b2, b3, b4, b5⟩, hB, hk3⟩
  have K3 := K1.trans hk3
  have HWB : Hid (∀ b ∈ [p, a.s, a.k, a.m], W.heap.size ≤ b ∧ b < w3.heap.size) := fun b h => by
    have hz := K1.size
    have h1 := hP.pow.lt
    have h2 := hP.dev.now.lt
    have h3 := hP.dev.kept.lt
    have h4 := hP.dev.map.lt
    simp only [List.mem_cons, List.not_mem_nil, or_false] at h
    omega
  have HO := hid hok
  have HN := hid hn
  obtain ⟨L, hL⟩ : ∃ L, L = os.length := ⟨_, rfl⟩
  have hLm : L ≤ m := by rw [hL, hos]; exact fillL_len _ _ _ _
  have hLi : (L : Int) ≤ 30 := by omega
  have HL := hid hL
  rw [← hL] at hI ⊢
  obtain ⟨us, hus⟩ : ∃ us, us = lenL os := ⟨_, rfl⟩
  have HUS := hid hus
  rw [← hus]
  have husb : us ≤ c.space := by rw [hus]; exact hF.fits
  have hsp : c.space ≤ 4096 := hok.small.2.2
  have husi : (us : Int) ≤ 4096 := by omega
  have hfs : c.frm 0 + c.space ≤ a.n := by rw [← hn]; exact frm_space 0 (by omega)
  have hfr := frm_le hok.small (show 0 ≤ 2 by omega)
  have hch := hF.chain hfs
  rw [← hus] at hch
  have HCH := hid hch
  have HWD := hid (hF.wd hsp)
  have HF := hid hF
  have HFS := hid (And.intro husb (And.intro hsp (And.intro hfs hfr)))
  have HUB := hid hub
  have HBB := hid hB
  -- one object ahead of which all is used; none: all
  have HOK : Hid (∀ (i : Nat) (S' : DS), i ≤ os.length → (∀ j, j ≠ c.act + 1 → S'.now j = S.now j) → ckC S' c 0 (os.take i) false = 0 ∧ Chn S' c 0 (posL os i) (os.take i) false) := fun i S' hi he => by
    have hre := root_end c
    refine ⟨ckC_ok (fun j hj => ?_) (fun i' hi' j hj => ?_), HCH.out.first hi fun j hj => he _ (by omega)⟩
    · have := root_lt hj
      rw [he _ (by omega), HF.out.low _ (by omega) (by omega)]
      exact okW_iff.2 (.inl rfl)
    · have hit : i' < i := by simp at hi'; omega
      have hr : rL (os.take i) i' = rL os i' := by
        unfold rL
        rw [List.getD_eq_getElem?_getD, List.getD_eq_getElem?_getD, List.getElem?_take_of_lt hit]
      have hp : posL (os.take i) i' = posL os i' := by
        unfold posL
        rw [List.take_take, Nat.min_eq_left (by omega)]
      rw [hr] at hj
      have h2 := few_at HF.out.head i'
      rw [hp, he _ (by omega), HF.out.zeroN HFS.out.2.2.1 (by omega) (by omega)]
      exact okW_iff.2 (.inl rfl)
  obtain ⟨ff, hff⟩ : ∃ ff, ff = c.frm 0 := ⟨_, rfl⟩
  have HFF := hid hff
  have hfi : (ff : Int) ≤ 20000 := by omega
  have HFR := hid (fun w => from_at w c hok.small 0 (by omega))
  rw [← hff] at HFR
  have HUW := hid (fun w => usedw_at w c hok.small)
  have HAW := hid (fun w => active_at w c hok.small)
  have HAL : Hid (c.act + 2 ≤ c.frm 0) := by
    have hre := root_end c
    show _ ≤ _
    omega
  have hai : (c.act : Int) ≤ 823 := by have := act_le hok.small; omega
  have hsi : (c.space : Int) ≤ 4096 := by omega
  have HP := hid hP
  have HI := hid hI
  have HK3 := hid K3
  clear hm30 hm2 hos hL hLm hus husb hsp hfs hfr hch hF hP hub hI hU hB b1 b2 b3 b4 b5 hk3 K1 c0 c1 c2 hB1 HFI hok hn K3 hff
  go_upto_region 6 with fail
  have hC4 := (At.new w3 (cfgO c)).alloc (bkO 0 (us : Nat) (.slice x c.roots cp))
  have k34 := ((Keeps.refl [] w3).alloc (cfgO c)).alloc (bkO 0 (us : Nat) (.slice x c.roots cp))
  obtain ⟨w4, hw4⟩ : ∃ w4, w4 = (w3.alloc (cfgO c)).alloc (bkO 0 (us : Nat) (.slice x c.roots cp)) := ⟨_, rfl⟩
  rw [← hw4] at hC4 k34
  first | rw [← hw4] | skip
  obtain ⟨cb, hcb⟩ : ∃ q, q = w3.heap.size := ⟨_, rfl⟩
  obtain ⟨bb, hbb⟩ : ∃ q, q = w3.heap.size + 1 := ⟨_, rfl⟩
  rw [← hbb, ← hcb]
  rw [← hcb] at hC4
  have HCB : Hid (cb ∉ [p, a.s, a.k, a.m]) := fun h => by have := HWB.out _ h; omega
  have HC4 := hid hC4
  have HP4 := hid (HP.out.keep0 k34)
  have HI4 := hid (HI.out.keep k34 (by simp))
  have HK4 := hid (HK3.out.trans k34)
  have HW4 : Hid (∀ b ∈ [p, a.s, a.k, a.m], b ∈ ([] : List Nat) ∨ W.heap.size ≤ b) := fun b h => .inr (HWB.out b h).1
  have HCT : Hid (∀ w', Keeps [p, a.s, a.k, a.m] w4 w' → (w'.cell? ⟨cb, 0, none⟩ = some (.int .i64 c.log) ∧ w'.cell? ⟨cb, 1, none⟩ = some (.int .i64 c.roots) ∧ w'.cell? ⟨cb, 2, none⟩ = some (.int .i64 c.space))) := fun w' hk => by
    have x2 := hk.at HC4.out HCB.out
    exact ⟨x2.cell 0 rfl, x2.cell 1 rfl, x2.cell 2 rfl⟩
  clear hw4 hcb hbb hC4 k34 HP HI HK3
  obtain ⟨bt, hbt⟩ : ∃ bt, bt = decide (0 < L) := ⟨_, rfl⟩
  have hb1 : decide (0 < L) = bt := hbt.symm
  have hb2 : decide ((0 : Int) < (L : Int)) = bt := by rw [hbt, decide_eq_decide]; omega
  clear hbt
  go_upto_if 32 with fail
  go_cut [] from 33 to 48 (fun wx => ∃ i u' S', i ≤ os.length ∧ Pw wx p a (-1) u' S' ∧ u' ≤ 200001 ∧ (∀ j, S'.now j = if j = c.act + 1 then ((posL os i : Nat) : Int) else S.now j) ∧ Keeps [p, a.s, a.k, a.m] w4 wx)
  case first =>
    cases bt with
    | false =>
      go_wp2_with fail
      go_meet
      refine ⟨os.length, u, S, Nat.le_refl _, HP4.out, by have := HUB.out; omega, fun j => ?_, Keeps.refl _ _⟩
      by_cases hj : j = c.act + 1
      · rw [if_pos hj, posL_all, hj]; exact HF.out.used
      · rw [if_neg hj]
    | true =>
      have hL0 : 0 < L := of_decide_eq_true hb1
      have t3 : ¬ (L : Int) = 0 := by omega
      obtain ⟨i, hi⟩ : ∃ i, i = kk % L := ⟨_, rfl⟩
      have hiL : i < L := by rw [hi]; exact Nat.mod_lt _ (by omega)
      have e1 : (kk : Int).tmod (L : Int) = (i : Int) := by rw [hi]; exact (Int.ofNat_tmod kk L).symm
      have e2 : (kk : Int) % (L : Int) = (i : Int) := by rw [hi]; exact (Int.natCast_emod kk L).symm
      have e3 : IntKind.i64.wrap (i : Int) = (i : Int) := IntWalk.i64_in _ (by omega)
      have e4 : IntKind.i64.wrap ((kk : Int).tmod (L : Int)) = (i : Int) := by rw [e1]; exact e3
      have e5 : IntKind.i64.wrap (kk : Int) = (kk : Int) := IntWalk.i64_in _ (by omega)
      have hiLi : (i : Int) < (L : Int) := by omega
      obtain ⟨g, rfl, hgB, hgl, hgc⟩ := HI4.out.cell (by omega)
      obtain ⟨pv, hpv⟩ : ∃ pv, pv = c.frm 0 + posL os i := ⟨_, rfl⟩
      have hg0 : ∀ w', Keeps [p, a.s, a.k, a.m] w4 w' → w'.cell? ⟨g, i, none⟩ = some (.int .i64 (pv : Nat)) := fun w' hk => by rw [hpv, hk.cell hgl (by have := HBB.out; simp; omega)]; exact hgc i hiL
      have HG0 := hid hg0
      have hpb : (pv : Int) ≤ 30000 := by
        have h1 := posN_end (l := os) (i := i) (by have := HL.out; omega)
        have h2 := HUS.out
        have h3 := HFS.out
        omega
      have e6 : (pv : Int) - (ff : Int) = ((posL os i : Nat) : Int) := by have := HFF.out; omega
      have e7 : IntKind.u64.wrap (IntKind.i64.wrap ((pv : Int) - (ff : Int))) = ((posL os i : Nat) : Int) := by rw [IntWalk.i64_in _ (by omega), e6, IntWalk.u64_in _ (by omega)]
      have HPV := hid (And.intro hpv hiL)
      have HE7 := hid e7
      have e8 : ¬ L = 0 := by omega
      have HST := hid (fun (w' : World) (hk : Keeps [] w4 w') (zz v : Int) (hz : 0 ≤ zz ∧ zz < a.n) => store_free w' p a u S (HP4.out.keep0 hk) (by have := HUB.out; omega) zz v hz)
      clear hi hiL hgB hgl hgc hpv hg0 e6 e7
      go_upto_region 9 with fail
      have kk8 : Keeps [] w4 w4.drew := (Keeps.refl _ _).drew
      go_region_held3 (fun w' => w'.cell? ⟨cb, 0, none⟩ = some (.int .i64 c.log) ∧ w'.cell? ⟨cb, 1, none⟩ = some (.int .i64 c.roots) ∧ w'.cell? ⟨cb, 2, none⟩ = some (.int .i64 c.space) ∧ w'.cell? ⟨g, i, none⟩ = some (.int .i64 (pv : Nat)))
        (first | exact (fun k => (fun h => ⟨h.1, h.2.1, h.2.2, HG0.out _ k⟩) (HCT.out _ k)) ((kk8.mono (by simp)).trans hx9.out.2) | exact (fun k => (fun h => ⟨h.1, h.2.1, h.2.2, HG0.out _ k⟩) (HCT.out _ k)) (kk8.mono (by simp)))
        (first
          | (go_at_call 17; refine (HUW.out _).mono ?_; rintro e w' ⟨rfl, hk9⟩; have kk8 := kk8.trans hk9; clear hk9)
          | (go_at_call 15; refine (HFR.out _).mono ?_; rintro e w' ⟨rfl, hk9⟩; have kk8 := kk8.trans hk9; clear hk9)
          | (go_at_call 10; refine (HST.out _ kk8 _ _ (by have := HFS.out; have := HAL.out; omega)).mono ?_; rintro e w' ⟨rfl, hx9⟩))
      all_goals
        rename_i hHd
        clear hHd
        go_wp2_with fail
        go_meet
        obtain ⟨hP9, hk9⟩ := hx9.out
        rw [HE7.out] at hP9
        refine ⟨i, _, _, by have := HPV.out; have := HL.out; omega, hP9, by have := HUB.out; omega, fun j => ?_, (kk8.mono (by simp)).trans hk9⟩
        show (if j = ((c.act : Int) + 1).toNat then ((posL os i : Nat) : Int) else S.now j) = _
        rw [show ((c.act : Int) + 1).toNat = c.act + 1 by omega]
  case rest =>
    obtain ⟨i, u4, S4, hi, hP5, hu4, hS4, hk5⟩ := hcut
    have HI5 := hid (And.intro hi hu4)
    have HS4 := hid hS4
    have HP5 := hid hP5
    have HC5 := hid hk5
    have HK5 : Hid (Keeps [] W wc) := HK4.out.new hk5 HW4.out
    have HOK4 := hid (HOK.out i S4 hi (fun j hj => by rw [HS4.out, if_neg hj]))
    have hre := root_end c
    have HCK := hid (check12_at wc p a S4 c hP5.dev HO.out HN.out 0 (posL os i) (os.take i) false (by omega) (by rw [HS4.out, if_neg (by omega)]; exact HF.out.act) (by rw [HS4.out, if_pos rfl]) HOK4.out.2
      ((HWD.out.put (t := c.act + 1) (v := posL os i) (by have h1 := pos_mono hi (Nat.le_refl _); rw [posL_all] at h1; have := HUS.out; omega) HS4.out).at HN.out (by omega)))
    rw [HOK4.out.1] at HCK
    obtain ⟨c0, c1, c2⟩ := HCT.out wc HC5.out
    clear hi hu4 hS4 hP5 hk5 hre
    go_wp2_with fail
    refine HCK.out.mono ?_
    rintro e w6 ⟨rfl, k56⟩
    have HP6 := hid (HP5.out.keep0 k56)
    have HK6 := hid (HK5.out.trans k56)
    have HC6 : Hid (Keeps [p, a.s, a.k, a.m] w4 w6) := HC5.out.trans (k56.mono (by simp))
    clear c0 c1 c2 k56
    have HST := hid (fun (w' : World) (hk : Keeps [] w6 w') (zz v : Int) (hz : 0 ≤ zz ∧ zz < a.n) => store_free w' p a u4 S4 (HP6.out.keep0 hk) (by have := HI5.out; omega) zz v hz)
    obtain ⟨c0, c1, c2⟩ := HCT.out w6 HC6.out
    obtain ⟨em, em1, em2, em3, hmqi⟩ := HEM.out
    have hsu : IntKind.u64.wrap (c.space : Int) = (c.space : Int) := IntWalk.u64_in _ (by omega)
    have hsv : IntKind.u64.wrap ((c.space : Int) + 1) = (c.space : Int) + 1 := IntWalk.u64_in _ (by omega)
    have hsw : IntKind.u64.wrap ((c.space : Int) + 1 + (mq : Int)) = (c.space : Int) + 1 + (mq : Int) := IntWalk.u64_in _ (by omega)
    clear c0 c1 c2
    go_upto_region 11 with fail
    have kk8 : Keeps [] w6 w6.drew := (Keeps.refl _ _).drew
    go_region_held3 (fun w' => w'.cell? ⟨cb, 0, none⟩ = some (.int .i64 c.log) ∧ w'.cell? ⟨cb, 1, none⟩ = some (.int .i64 c.roots) ∧ w'.cell? ⟨cb, 2, none⟩ = some (.int .i64 c.space))
      (first | exact HCT.out _ (HC6.out.trans ((kk8.mono (by simp)).trans hx9.out.2)) | exact HCT.out _ (HC6.out.trans (kk8.mono (by simp))))
      (first
        | (go_at_call 17; refine (HUW.out _).mono ?_; rintro e w' ⟨rfl, hk9⟩; have kk8 := kk8.trans hk9; clear hk9)
        | (go_at_call 10; refine (HST.out _ kk8 _ _ (by have := HFS.out; have := HAL.out; omega)).mono ?_; rintro e w' ⟨rfl, hx9⟩))
    all_goals
      rename_i hHd
      clear hHd
      obtain ⟨hP7, hk7⟩ := hx9.out
      obtain ⟨S7, hS7⟩ : ∃ S7, S7 = execs S4 [.st ((c.act : Int) + 1).toNat ((c.space : Int) + 1 + (mq : Int))] := ⟨_, rfl⟩
      rw [← hS7] at hP7
      have HS7 : Hid (∀ j, S7.now j = if j = c.act + 1 then ((c.space : Int) + 1 + (mq : Int)) else S4.now j) := fun j => by
        rw [hS7, show ((c.act : Int) + 1).toNat = c.act + 1 by omega]
        rfl
      have HP7 := hid hP7
      have HK7 : Hid (Keeps [] W w') := HK6.out.new ((kk8.mono (by simp)).trans hk7) HW4.out
      have HC7 : Hid (Keeps [p, a.s, a.k, a.m] w4 w') := HC6.out.trans ((kk8.mono (by simp)).trans hk7)
      have h70 : S7.now c.act = 0 := by rw [HS7.out, if_neg (by omega), HS4.out, if_neg (by omega)]; exact HF.out.act
      have h71 : S7.now (c.act + 1) = (c.space : Int) + 1 + (mq : Int) := by rw [HS7.out, if_pos rfl]
      have HCK7 := hid (check12_bad w' p a S7 c hP7.dev HO.out HN.out (by omega) (by omega) (.inr (by omega)))
      have H70 := hid h70
      clear hx9 hP7 hk7 hS7 h70 h71 HST
      obtain ⟨c0, c1, c2⟩ := HCT.out w' HC7.out
      clear em em1 em2 em3 hmqi hsu hsv hsw
      go_wp2_with fail
      refine HCK7.out.mono ?_
      rintro e w8 ⟨rfl, k78⟩
      have HP8 := hid (HP7.out.keep0 k78)
      have HK8 := hid (HK7.out.trans k78)
      have HC8 : Hid (Keeps [p, a.s, a.k, a.m] w4 w8) := HC7.out.trans (k78.mono (by simp))
      clear c0 c1 c2 k78
      obtain ⟨c0, c1, c2⟩ := HCT.out w8 HC8.out
      go_wp2_with fail
      refine (HUW.out w8).mono ?_
      rintro e w9 ⟨rfl, k89⟩
      have HP9 := hid (HP8.out.keep0 k89)
      have HK9 := hid (HK8.out.trans k89)
      have HC9 : Hid (Keeps [p, a.s, a.k, a.m] w4 w9) := HC8.out.trans (k89.mono (by simp))
      clear c0 c1 c2 k89
      go_wp2_with fail
      refine (store_free w9 p a _ S7 HP9.out (by have := HI5.out; omega) _ 0 (by have := HFS.out; have := HAL.out; omega)).mono ?_
      rintro e w10 ⟨rfl, hX⟩
      obtain ⟨hP10, k10⟩ := hX.out
      obtain ⟨S10, hS10⟩ : ∃ S10, S10 = execs S7 [.st ((c.act : Int) + 1).toNat 0] := ⟨_, rfl⟩
      rw [← hS10] at hP10
      have HS10 : Hid (∀ j, S10.now j = if j = c.act + 1 then 0 else S7.now j) := fun j => by
        rw [hS10, show ((c.act : Int) + 1).toNat = c.act + 1 by omega]
        rfl
      have HP10 := hid hP10
      have HK10 : Hid (Keeps [] W w10) := HK9.out.new k10 HW4.out
      have HC10 := hid (HC9.out.trans k10)
      clear hX hP10 k10 hS10
      obtain ⟨c0, c1, c2⟩ := HCT.out w10 HC10.out
      go_wp2_with fail
      refine (HAW.out w10).mono ?_
      rintro e w11 ⟨rfl, k11⟩
      have HP11 := hid (HP10.out.keep0 k11)
      have HK11 := hid (HK10.out.trans k11)
      have HC11 : Hid (Keeps [p, a.s, a.k, a.m] w4 w11) := HC10.out.trans (k11.mono (by simp))
      clear c0 c1 c2 k11
      obtain ⟨em, em1, em2, em3, hmqi⟩ := HEM.out
      have hsv : IntKind.u64.wrap (2 + (mq : Int)) = 2 + (mq : Int) := IntWalk.u64_in _ (by omega)
      go_wp2_with fail
      refine (store_free w11 p a _ S10 HP11.out (by have := HI5.out; omega) _ _ (by have := HFS.out; have := HAL.out; omega)).mono ?_
      rintro e w12 ⟨rfl, hX⟩
      obtain ⟨hP12, k12⟩ := hX.out
      obtain ⟨S12, hS12⟩ : ∃ S12, S12 = execs S10 [.st ((c.act : Nat) : Int).toNat (2 + (mq : Int))] := ⟨_, rfl⟩
      rw [← hS12] at hP12
      have HS12 : Hid (∀ j, S12.now j = if j = c.act then 2 + (mq : Int) else S10.now j) := fun j => by
        rw [hS12, Int.toNat_natCast]
        rfl
      have HK12 : Hid (Keeps [] W w12) := HK11.out.new k12 HW4.out
      have HC12 := hid (HC11.out.trans k12)
      have h120 : S12.now c.act = 2 + (mq : Int) := by rw [HS12.out, if_pos rfl]
      have h121 : S12.now (c.act + 1) = 0 := by rw [HS12.out, if_neg (by omega), HS10.out, if_pos rfl]
      have HCK12 := hid (check12_bad w12 p a S12 c hP12.dev HO.out HN.out (by omega) (by omega) (.inl (by omega)))
      clear hX hP12 k12 hS12 h120 h121 em em1 em2 em3 hmqi hsv
      obtain ⟨c0, c1, c2⟩ := HCT.out w12 HC12.out
      go_wp2_with fail
      refine HCK12.out.mono ?_
      rintro e w13 ⟨rfl, k13⟩
      go_wp2_with fail
      go_ret
      exact ⟨rfl, (HK12.out.trans k13).below (Nat.le_refl _) (by simp)⟩

theorem checkLess_walk (l r s : Int) (y : Option Addr) (m cm : Nat) (z : Nat → Nat → Int) (kk mo : Int) (W : World) (wl : (Lit.int .u16 l).wf = true) (wr : (Lit.int .u16 r).wf = true) (ws : (Lit.int .u16 s).wf = true)
    (R2 : m * 2 = 0 ∨ ∃ b off, y = some ⟨b, off, none⟩ ∧ b < W.heap.size ∧ ∀ i j, i < m → j < 2 → W.cell? ⟨b, off + (i * 2 + j), none⟩ = some (.int ((fun j => if j = 0 then IntKind.u8 else IntKind.u8) j) (z i j)) ∧ (Lit.int ((fun j => if j = 0 then IntKind.u8 else IntKind.u8) j) (z i j)).wf = true) (hm : m ≤ maxLen)
    (wk : (Lit.int .u8 kk).wf = true) (wo : (Lit.int .u64 mo).wf = true) :
    Calls Tryz.prog 5 #[.agg #[.int .u16 l, .int .u16 r, .int .u16 s], .slice y m cm, .int .u8 kk, .int .u64 mo] W fun e w' => e = .returned (.bool true) ∧ Below W.heap.size W w' := by
  obtain ⟨l, rfl, hl⟩ := c3_open wl
  obtain ⟨r, rfl, hr⟩ := c3_open wr
  obtain ⟨s, rfl, hs⟩ := c3_open ws
  obtain ⟨kk, rfl, hkk⟩ := u8_open wk
  obtain ⟨mo, rfl, hmo⟩ := u64_open wo
  exact cless_small l r s y m cm _ _ kk mo W hl hr hs (readsH_of R2) (by unfold maxLen at hm; omega) hkk hmo

end Go.Proofs.YtlpmdjmamnkokaaGreat
