/- The walk of the law CheckChecks. -/
import Derived.Test.YtlpmdjmamnkokaaGreatAwk12
import Derived.Test.YtlpmdjmamnkokaaGreatLwd
import Derived.BigQuiet
import Derived.Deep.RegionHeld3
import Derived.Test.YtlpmdjmamnkokaaGreatLck
namespace Go.Proofs.YtlpmdjmamnkokaaGreat
open Go.RowKit Go.OpenShut

set_option maxRecDepth 100000 in
set_option maxHeartbeats 4000000 in
theorem checks_small (l r s : Nat) (y0 : Option Addr) (m cm : Nat) (R V : Nat → Nat) (y1 : Option Addr) (mn cn : Nat) (G : Nat → Nat) (wg ap v0 : Nat) (turn near : Bool) (W : World) (hl : l ≤ 65535) (hrr : r ≤ 65535) (hs : s ≤ 65535)
    (hy : ReadsH W y0 m R V) (hm : m ≤ 9223372036854775807) (hg : ReadsW W y1 mn G) (hmn : mn ≤ 9223372036854775807) (hwg : wg ≤ 255) (hap : ap ≤ 65535) (hv0 : v0 < 18446744073709551616) :
    Calls Tryz.prog 3 #[c3V l r s, .slice y0 m cm, .slice y1 mn cn, .int .u8 wg, .int .u16 ap, .int .u64 v0, .bool turn, .bool near] W fun e w' => e = .returned (.bool true) ∧ Below W.heap.size W w' := by
  have hmi : (m : Int) ≤ 9223372036854775807 := by omega
  have hmni : (mn : Int) ≤ 9223372036854775807 := by omega
  have hwgi : (wg : Int) ≤ 255 := by omega
  have hapi : (ap : Int) ≤ 65535 := by omega
  have HV0 := hid hv0
  clear hv0
  have HG := hid hg
  have HY := hid hy
  clear hg hy
  go_enter Tryz.func3, Tryz.ntmps3
  go_wp2_with fail
  have hB0 := At.new W (c3O l r s)
  have K0 := (Keeps.refl [] W).alloc (c3O l r s)
  obtain ⟨xb, hxb⟩ : ∃ q, q = W.heap.size := ⟨_, rfl⟩
  rw [← hxb] at hB0
  rw [← hxb]
  have HXB : Hid (xb = W.heap.size) := hxb
  clear hxb
  refine (awake12_any _).mono ?_
  rintro e w1 ⟨rfl, hb1⟩
  have k1 := Go.Proofs.YtlpmdjmamnkokaaGreat.Below.keeps hb1 []
  have K1 := K0.trans k1
  have hB1 := k1.at hB0 (by simp)
  clear hb1 k1 hB0 K0
  have c0 : w1.cell? ⟨xb, 0, none⟩ = some (.int .u16 l) := hB1.cell 0 rfl
  have c1 : w1.cell? ⟨xb, 1, none⟩ = some (.int .u16 r) := hB1.cell 1 rfl
  have c2 : w1.cell? ⟨xb, 2, none⟩ = some (.int .u16 s) := hB1.cell 2 rfl
  by_cases hm25 : m ≤ 25
  case neg =>
    have hm2 : (25 : Int) < (m : Int) := by omega
    have hm3 : decide ((25 : Int) < (m : Int)) = true := decide_eq_true hm2
    go_wp2_with fail
    go_ret
    exact ⟨rfl, K1.below (Nat.le_refl _) (by simp)⟩
  have hm2 : (m : Int) ≤ 25 := by omega
  have hm3 : decide ((25 : Int) < (m : Int)) = false := decide_eq_false (by omega)
  by_cases hn60 : mn ≤ 60
  case neg =>
    have hn2 : (60 : Int) < (mn : Int) := by omega
    have hn3 : decide ((60 : Int) < (mn : Int)) = true := decide_eq_true hn2
    go_wp2_with fail
    go_ret
    exact ⟨rfl, K1.below (Nat.le_refl _) (by simp)⟩
  have hn2 : (mn : Int) ≤ 60 := by omega
  have hn3 : decide ((60 : Int) < (mn : Int)) = false := decide_eq_false (by omega)
  clear hmi hmni
  have hok := mk3_ok l r s
  obtain ⟨c, hc⟩ : ∃ c, c = mk3 l r s := ⟨_, rfl⟩
  rw [← hc] at hok
  obtain ⟨os, hos⟩ : ∃ os, os = fillL c.space (hdsL R V m) := ⟨_, rfl⟩
  have HLI := hid (linked_at w1 l r s hl hrr hs y0 m cm R V (HY.out.keep K1 (by simp)) (by omega) y1 mn cn G (HG.out.keep K1 (by simp)) (by omega) wg (by omega) c hc os hos)
  clear hc
  go_wp2_with fail
  refine HLI.out.mono ?_
  rintro e w3 ⟨p, a, u, S, x, cp, y, cy, B, rfl, hn, hP, hub, hF, hU, hI, ⟨b1, b2, b3, b4, b5⟩, hB, hk3⟩
  have K3 := K1.trans hk3
  have HWB : Hid (∀ b ∈ [p, a.s, a.k, a.m], W.heap.size ≤ b ∧ b < w3.heap.size) := fun b h => by
    have hz := K1.size
    have h1 := hP.pow.lt
    have h2 := hP.dev.now.lt
    have h3 := hP.dev.kept.lt
    have h4 := hP.dev.map.lt
    simp only [List.mem_cons, List.not_mem_nil, or_false] at h
    omega
  have HO := hid hok
  have HN := hid hn
  obtain ⟨L, hL⟩ : ∃ L, L = os.length := ⟨_, rfl⟩
  have hLm : L ≤ m := by rw [hL, hos]; exact fillL_len _ _ _ _
  have hLi : (L : Int) ≤ 30 := by omega
  have HL := hid hL
  rw [← hL] at hI ⊢
  obtain ⟨us, hus⟩ : ∃ us, us = lenL os := ⟨_, rfl⟩
  have HUS := hid hus
  rw [← hus]
  have husb : us ≤ c.space := by rw [hus]; exact hF.fits
  have hsp : c.space ≤ 4096 := hok.small.2.2
  have husi : (us : Int) ≤ 4096 := by omega
  have hfs : c.frm 0 + c.space ≤ a.n := by rw [← hn]; exact frm_space 0 (by omega)
  have hfr := frm_le hok.small (show 0 ≤ 2 by omega)
  have hch := hF.chain
  rw [← hus] at hch
  have hwd := hF.wd hsp (lnkG_wd c os G mn wg (by omega))
  have HCH := hid hch
  have HWD := hid hwd
  have HF := hid hF
  have HFS := hid (And.intro husb (And.intro hsp (And.intro hfs hfr)))
  have HP := hid hP
  have HUB := hid hub
  have HI := hid hI
  have HK3 := hid K3
  have HDD : Hid (a.d < w3.heap.size) := hP.dev.dev.lt
  have hus0 : L = 0 ↔ us = 0 := by
    rw [hL, hus]
    have h1 := len_le os
    constructor
    · intro h; rw [List.length_eq_zero_iff.1 h]; rfl
    · omega
  have HU0 := hid hus0
  clear hm25 hn60 hm3 hn3 hn2 hm2 hos hL hLm hus husb hsp hfs hfr hch hwd hF hP hub hI hU hB b1 b2 b3 b4 b5 hk3 K1 c0 c1 c2 hB1 HLI hok hn K3 hus0
  go_upto_region 6 with fail
  have hC4 := (At.new w3 (cfgO c)).alloc (bkO 0 (us : Nat) (.slice x c.roots cp))
  have hB4 := At.new (w3.alloc (cfgO c)) (bkO 0 (us : Nat) (.slice x c.roots cp))
  have k34 := ((Keeps.refl [] w3).alloc (cfgO c)).alloc (bkO 0 (us : Nat) (.slice x c.roots cp))
  simp only [World.size_alloc] at hB4
  obtain ⟨w4, hw4⟩ : ∃ w4, w4 = (w3.alloc (cfgO c)).alloc (bkO 0 (us : Nat) (.slice x c.roots cp)) := ⟨_, rfl⟩
  have hz4 : w4.heap.size = w3.heap.size + 2 := by rw [hw4]; simp
  rw [← hw4] at hC4 hB4 k34
  first | rw [← hw4] | skip
  obtain ⟨cb, hcb⟩ : ∃ q, q = w3.heap.size := ⟨_, rfl⟩
  obtain ⟨bb, hbb⟩ : ∃ q, q = w3.heap.size + 1 := ⟨_, rfl⟩
  rw [← hbb, ← hcb]
  rw [← hcb] at hC4
  rw [← hbb] at hB4
  have HCB : Hid (cb ∉ [p, a.s, a.k, a.m] ∧ bb ∉ [p, a.s, a.k, a.m]) := ⟨fun h => by have := HWB.out _ h; omega, fun h => by have := HWB.out _ h; omega⟩
  have HC4 := hid hC4
  have HB4 := hid hB4
  have HP4 := hid (HP.out.keep0 k34)
  have HI4 := hid (HI.out.keep k34 (by simp))
  have HK4 := hid (HK3.out.trans k34)
  have HW4 : Hid (∀ b ∈ [p, a.s, a.k, a.m], b ∈ ([] : List Nat) ∨ W.heap.size ≤ b) := fun b h => .inr (HWB.out b h).1
  have HCT : Hid (∀ w', Keeps [p, a.s, a.k, a.m] w4 w' → (w'.cell? ⟨cb, 0, none⟩ = some (.int .i64 c.log) ∧ w'.cell? ⟨cb, 1, none⟩ = some (.int .i64 c.roots) ∧ w'.cell? ⟨cb, 2, none⟩ = some (.int .i64 c.space) ∧
      w'.cell? ⟨bb, 0, none⟩ = some (.int .i64 0) ∧ w'.cell? ⟨bb, 1, none⟩ = some (.int .i64 (us : Nat)) ∧ w'.cell? ⟨bb, 2, none⟩ = some (.slice x c.roots cp))) := fun w' hk => by
    have x2 := hk.at HC4.out HCB.out.1
    have x3 := hk.at HB4.out HCB.out.2
    exact ⟨x2.cell 0 rfl, x2.cell 1 rfl, x2.cell 2 rfl, x3.cell 0 rfl, x3.cell 1 rfl, x3.cell 2 rfl⟩
  have HA4 : Hid (HF.out.act = HF.out.act) := rfl
  clear hw4 hz4 hcb hbb hC4 hB4 k34 HP HI HK3 HA4
  obtain ⟨wn, hwn⟩ : ∃ wn, wn = c.words := ⟨_, rfl⟩
  have HWN := hid hwn
  have HCW := hid (fun w => cwords_at w c HO.out.small)
  rw [← hwn] at HCW
  have hwb : (wn : Int) ≤ 30000 := by
    have h1 := frm_le HO.out.small (show 2 ≤ 2 by omega)
    have h4 : c.words = c.frm 2 := rfl
    omega
  have hwa : c.act + 2 ≤ wn := by
    have := (places HO.out).2.1
    omega
  have hai : (c.act : Int) ≤ 823 := by have := act_le HO.out.small; omega
  have HAW := hid (fun w => active_at w c HO.out.small)
  have HWA := hid hwa
  have hw3 : (0 : Int) < (wn : Int) + 3 := by omega
  clear hwn
  go_upto_if 43 with fail
  go_cut [5] from 44 to 49 (fun s5 wx => ∃ v' : Nat, v' < 18446744073709551616 ∧ s5 = .int .u64 v' ∧ Keeps [] w4 wx)
  case first =>
    cases near with
    | false =>
      go_wp2_with fail
      go_meet
      exact ⟨v0, HV0.out, rfl, Keeps.refl _ _⟩
    | true =>
      obtain ⟨q, hq⟩ : ∃ q, q = v0 % (wn + 3) := ⟨_, rfl⟩
      have e1 : (v0 : Int).tmod ((wn : Int) + 3) = (q : Int) := by rw [hq]; exact (Int.ofNat_tmod v0 (wn + 3)).symm
      have e2 : (v0 : Int) % ((wn : Int) + 3) = (q : Int) := by rw [hq]; exact (Int.natCast_emod v0 (wn + 3)).symm
      have hqb : q < wn + 3 := by rw [hq]; exact Nat.mod_lt _ (by omega)
      have e3 : IntKind.u64.wrap (q : Int) = (q : Int) := IntWalk.u64_in _ (by omega)
      have e4 : IntKind.u64.wrap ((wn : Int) + 3) = (wn : Int) + 3 := IntWalk.u64_in _ (by omega)
      have e5 : ¬ (wn : Int) + 3 = 0 := by omega
      have e6 : IntKind.u64.wrap ((v0 : Int).tmod ((wn : Int) + 3)) = (q : Int) := by rw [e1]; exact e3
      have HQ := hid hqb
      clear hq hqb
      obtain ⟨c0, c1, c2, b0, b1, b2⟩ := HCT.out w4 (Keeps.refl _ _)
      go_wp2_with fail
      refine (HCW.out w4).mono ?_
      rintro e w5 ⟨rfl, k5⟩
      clear c0 c1 c2 b0 b1 b2
      go_wp2_with fail
      go_meet
      exact ⟨q, by have := HQ.out; omega, rfl, k5⟩
  case rest =>
  obtain ⟨v1, hv1, rfl, k45⟩ := hcut
  obtain ⟨w5, hw5⟩ : ∃ w, w = wc := ⟨_, rfl⟩
  rw [← hw5] at k45
  rw [← hw5]
  have HP5 := hid (HP4.out.keep0 k45)
  have HK5 := hid (HK4.out.trans k45)
  have HC5 : Hid (Keeps [p, a.s, a.k, a.m] w4 w5) := k45.mono (by simp)
  have HV1 := hid hv1
  clear hw5 hv1 k45
  go_upto_if 50 with fail
  go_cut [] from 51 to 64 (fun wx => ∃ u' S', Pw wx p a (-1) u' S' ∧ WdA S' c a.n ∧ Keeps [p, a.s, a.k, a.m] w5 wx)
  case first =>
    cases turn with
    | false =>
      go_wp2_with fail
      go_meet
      exact ⟨u, S, HP5.out, HWD.out, Keeps.refl _ _⟩
    | true =>
      obtain ⟨sp, hsp⟩ : ∃ sp, sp = wn - c.act := ⟨_, rfl⟩
      have es : (wn : Int) - (c.act : Int) = (sp : Int) := by omega
      obtain ⟨q, hq⟩ : ∃ q, q = ap % sp := ⟨_, rfl⟩
      have hqs : q < sp := by rw [hq]; exact Nat.mod_lt _ (by omega)
      have hspi : (sp : Int) ≤ 30000 := by omega
      have e0 : IntKind.i64.wrap ((wn : Int) - (c.act : Int)) = (sp : Int) := by rw [es]; exact IntWalk.i64_in _ (by omega)
      have e1 : (ap : Int).tmod (sp : Int) = (q : Int) := by rw [hq]; exact (Int.ofNat_tmod ap sp).symm
      have e2 : (ap : Int) % (sp : Int) = (q : Int) := by rw [hq]; exact (Int.natCast_emod ap sp).symm
      have e3 : IntKind.i64.wrap (q : Int) = (q : Int) := IntWalk.i64_in _ (by omega)
      have e4 : IntKind.i64.wrap ((c.act : Int) + (q : Int)) = (c.act : Int) + (q : Int) := IntWalk.i64_in _ (by omega)
      have e5 : IntKind.i64.wrap ((ap : Int).tmod (sp : Int)) = (q : Int) := by rw [e1]; exact e3
      have e6 : ¬ (sp : Int) = 0 := by omega
      have e7 : ¬ sp = 0 := by omega
      have e8 : IntKind.i64.wrap (ap : Int) = (ap : Int) := IntWalk.i64_in _ (by omega)
      have e9 : IntKind.i64.wrap (sp : Int) = (sp : Int) := IntWalk.i64_in _ (by omega)
      have HQS := hid (And.intro hqs hsp)
      have HST := hid (fun (w' : World) (hk : Keeps [] w5 w') (zz : Int) (hz : 0 ≤ zz ∧ zz < a.n) => store_free w' p a u S (HP5.out.keep0 hk) (by have := HUB.out; omega) zz v1 hz)
      have hn := HN.out
      have HNN := hid hn
      clear hq hqs hsp hn
      go_upto_region 11 with fail
      have kk : Keeps [] w5 w5.drew := (Keeps.refl _ _).drew
      go_region_held3 (fun w' => w'.cell? ⟨cb, 0, none⟩ = some (.int .i64 c.log) ∧ w'.cell? ⟨cb, 1, none⟩ = some (.int .i64 c.roots) ∧ w'.cell? ⟨cb, 2, none⟩ = some (.int .i64 c.space))
        (first | exact (fun h => ⟨h.1, h.2.1, h.2.2.1⟩) (HCT.out _ (HC5.out.trans ((kk.mono (by simp)).trans hx9.out.2))) | exact (fun h => ⟨h.1, h.2.1, h.2.2.1⟩) (HCT.out _ (HC5.out.trans (kk.mono (by simp)))))
        (first
          | (go_at_call 11; refine (HAW.out _).mono ?_; rintro e w' ⟨rfl, hk9⟩; have kk := kk.trans hk9; clear hk9)
          | (go_at_call 9; refine (HCW.out _).mono ?_; rintro e w' ⟨rfl, hk9⟩; have kk := kk.trans hk9; clear hk9)
          | (go_at_call 10; refine (HST.out _ kk _ (by have := HNN.out; have := HQS.out; have := HWN.out; omega)).mono ?_; rintro e w' ⟨rfl, hx9⟩))
      all_goals
        rename_i hHd
        clear hHd
        go_wp2_with fail
        go_meet
        obtain ⟨hP9, hk9⟩ := hx9.out
        exact ⟨_, _, hP9, HWD.out.put HV1.out (fun j => rfl), (kk.mono (by simp)).trans hk9⟩
  case rest =>
  obtain ⟨u6, S6, hP6, hW6, hk6⟩ := hcut
  obtain ⟨w6, hw6⟩ : ∃ w, w = wc := ⟨_, rfl⟩
  rw [← hw6] at hP6 hk6
  rw [← hw6]
  have HK6 : Hid (Keeps [] W w6) := HK5.out.new hk6 HW4.out
  have HC6 : Hid (Keeps [p, a.s, a.k, a.m] w4 w6) := HC5.out.trans hk6
  obtain ⟨av, hck, hlk⟩ : ∃ av : Int, (∀ w', Keeps [] w6 w' → Calls Tryz.prog 12 #[ptr a.d, cfgV c] w' fun e w'' => e = .returned (.int .i64 av) ∧ Keeps [] w' w'') ∧
      (∀ w', Keeps [] w6 w' → Calls Tryz.prog 13 #[ptr a.d, cfgV c] w' fun e w'' => e = .returned (.int .i64 av) ∧ Keeps [] w' w'') := by
    have hre := root_end c
    obtain ⟨k, hk, _⟩ := hW6.blk c.act (Nat.le_refl _) (by omega)
    obtain ⟨u', hu, _⟩ := hW6.blk (c.act + 1) (by omega) (by omega)
    by_cases hor : 1 < k ∨ c.space < u'
    · exact ⟨10, fun w' hk' => check12_bad w' p a S6 c (hP6.keep0 hk').dev HO.out HN.out (by omega) (by omega) (by omega), fun w' hk' => lchk_bad w' p a S6 c (hP6.keep0 hk').dev HO.out HN.out k u' hk hu hor⟩
    · have hwu := hW6.at HN.out (show k ≤ 1 by omega)
      obtain ⟨l', er, hch⟩ := chn_ex S6 c k u' (by omega) (fun j hj => hwu.2 _ (by omega) (by omega))
      exact ⟨_, fun w' hk' => check12_at w' p a S6 c (hP6.keep0 hk').dev HO.out HN.out k u' l' er (by omega) hk hu hch hwu, fun w' hk' => lchk_at w' p a S6 c (hP6.keep0 hk').dev HO.out HN.out k u' l' er (by omega) hk hu hch hwu⟩
  have HCK := hid hck
  have HLK := hid hlk
  have tt : ((av : Int) == av) = true := beq_self_eq_true av
  clear hw6 hP6 hW6 hk6 hck hlk
  go_upto_region 12 with fail
  have kk : Keeps [] w6 w6.drew := (Keeps.refl _ _).drew
  go_region_held3 (fun w' => w'.cell? ⟨cb, 0, none⟩ = some (.int .i64 c.log) ∧ w'.cell? ⟨cb, 1, none⟩ = some (.int .i64 c.roots) ∧ w'.cell? ⟨cb, 2, none⟩ = some (.int .i64 c.space))
    (exact (fun h => ⟨h.1, h.2.1, h.2.2.1⟩) (HCT.out _ (HC6.out.trans (kk.mono (by simp)))))
    (first
      | (go_at_call 12; refine (HCK.out _ kk).mono ?_; rintro e w' ⟨rfl, hk9⟩; have kk := kk.trans hk9; clear hk9)
      | (go_at_call 13; refine (HLK.out _ kk).mono ?_; rintro e w' ⟨rfl, hk9⟩; have kk := kk.trans hk9; clear hk9))
  all_goals
    rename_i hHd
    clear hHd
    go_wp2_with fail
    go_ret
    exact ⟨by simp, (HK6.out.trans kk).below (Nat.le_refl _) (by simp)⟩

theorem checkChecks_walk (l r s : Int) (y : Option Addr) (m cm : Nat) (z : Nat → Nat → Int) (y1 : Option Addr) (mn cn : Nat) (g : Nat → Int) (wg ap v0 : Int) (turn near : Bool) (W : World) (wl : (Lit.int .u16 l).wf = true) (wr : (Lit.int .u16 r).wf = true) (ws : (Lit.int .u16 s).wf = true)
    (R2 : m * 2 = 0 ∨ ∃ b off, y = some ⟨b, off, none⟩ ∧ b < W.heap.size ∧ ∀ i j, i < m → j < 2 → W.cell? ⟨b, off + (i * 2 + j), none⟩ = some (.int ((fun j => if j = 0 then IntKind.u8 else IntKind.u8) j) (z i j)) ∧ (Lit.int ((fun j => if j = 0 then IntKind.u8 else IntKind.u8) j) (z i j)).wf = true) (hm : m ≤ maxLen)
    (R : ReadsV (Value.int .u16) W y1 mn g) (hg : ∀ i, i < mn → (Lit.int .u16 (g i)).wf = true) (hmn : mn ≤ maxLen) (wk : (Lit.int .u8 wg).wf = true) (wp : (Lit.int .u16 ap).wf = true) (wv : (Lit.int .u64 v0).wf = true) :
    Calls Tryz.prog 3 #[.agg #[.int .u16 l, .int .u16 r, .int .u16 s], .slice y m cm, .slice y1 mn cn, .int .u8 wg, .int .u16 ap, .int .u64 v0, .bool turn, .bool near] W fun e w' => e = .returned (.bool true) ∧ Below W.heap.size W w' := by
  obtain ⟨l, rfl, hl⟩ := c3_open wl
  obtain ⟨r, rfl, hr⟩ := c3_open wr
  obtain ⟨s, rfl, hs⟩ := c3_open ws
  obtain ⟨wg, rfl, hwg⟩ := u8_open wk
  obtain ⟨ap, rfl, hap⟩ := c3_open wp
  obtain ⟨v0, rfl, hv0⟩ := u64_open wv
  have hR : ReadsW W y1 mn (fun i => (g i).toNat) := by
    rcases R with h | ⟨b, off, rfl, hb, hc⟩
    · exact .inl h
    · refine .inr ⟨b, off, rfl, hb, fun i hi => ?_⟩
      have h3 := bounds_u16 (hg i hi)
      refine ⟨?_, by show (g i).toNat ≤ 65535; omega⟩
      rw [show (((g i).toNat : Nat) : Int) = g i by omega]
      exact hc i hi
  exact checks_small l r s y m cm _ _ y1 mn cn _ wg ap v0 turn near W hl hr hs (readsH_of R2) (by unfold maxLen at hm; omega) hR (by unfold maxLen at hmn; omega) hwg hap (by omega)

end Go.Proofs.YtlpmdjmamnkokaaGreat
