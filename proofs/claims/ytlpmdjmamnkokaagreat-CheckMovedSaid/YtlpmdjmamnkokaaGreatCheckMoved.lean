/- The walk of the law CheckMoved. -/
import Derived.Test.YtlpmdjmamnkokaaGreatAwk12
import Derived.Test.YtlpmdjmamnkokaaGreatLwd
import Derived.BigQuiet
import Derived.Deep.RegionHeld3
namespace Go.Proofs.YtlpmdjmamnkokaaGreat
open Go.RowKit Go.OpenShut

set_option maxRecDepth 100000 in
set_option maxHeartbeats 4000000 in
theorem moved_small (l r s : Nat) (y0 : Option Addr) (m cm : Nat) (R V : Nat → Nat) (y1 : Option Addr) (mn cn : Nat) (G : Nat → Nat) (wg : Nat) (W : World) (hl : l ≤ 65535) (hrr : r ≤ 65535) (hs : s ≤ 65535)
    (hy : ReadsH W y0 m R V) (hm : m ≤ 9223372036854775807) (hg : ReadsW W y1 mn G) (hmn : mn ≤ 9223372036854775807) (hwg : wg ≤ 255) :
    Calls Tryz.prog 6 #[c3V l r s, .slice y0 m cm, .slice y1 mn cn, .int .u8 wg] W fun e w' => e = .returned (.bool true) ∧ Below W.heap.size W w' := by
  have hmi : (m : Int) ≤ 9223372036854775807 := by omega
  have hmni : (mn : Int) ≤ 9223372036854775807 := by omega
  have hwgi : (wg : Int) ≤ 255 := by omega
  have HG := hid hg
  have HY := hid hy
  clear hg hy
  go_enter Tryz.func6, Tryz.ntmps6
  go_wp2_with fail
  have hB0 := At.new W (c3O l r s)
  have K0 := (Keeps.refl [] W).alloc (c3O l r s)
  obtain ⟨xb, hxb⟩ : ∃ q, q = W.heap.size := ⟨_, rfl⟩
  rw [← hxb] at hB0
  rw [← hxb]
  have HXB : Hid (xb = W.heap.size) := hxb
  clear hxb
  refine (awake12_any _).mono ?_
  rintro e w1 ⟨rfl, hb1⟩
  have k1 := Go.Proofs.YtlpmdjmamnkokaaGreat.Below.keeps hb1 []
  have K1 := K0.trans k1
  have hB1 := k1.at hB0 (by simp)
  clear hb1 k1 hB0 K0
  have c0 : w1.cell? ⟨xb, 0, none⟩ = some (.int .u16 l) := hB1.cell 0 rfl
  have c1 : w1.cell? ⟨xb, 1, none⟩ = some (.int .u16 r) := hB1.cell 1 rfl
  have c2 : w1.cell? ⟨xb, 2, none⟩ = some (.int .u16 s) := hB1.cell 2 rfl
  by_cases hm25 : m ≤ 25
  case neg =>
    have hm2 : (25 : Int) < (m : Int) := by omega
    have hm3 : decide ((25 : Int) < (m : Int)) = true := decide_eq_true hm2
    go_wp2_with fail
    go_ret
    exact ⟨rfl, K1.below (Nat.le_refl _) (by simp)⟩
  have hm2 : (m : Int) ≤ 25 := by omega
  have hm3 : decide ((25 : Int) < (m : Int)) = false := decide_eq_false (by omega)
  by_cases hn60 : mn ≤ 60
  case neg =>
    have hn2 : (60 : Int) < (mn : Int) := by omega
    have hn3 : decide ((60 : Int) < (mn : Int)) = true := decide_eq_true hn2
    go_wp2_with fail
    go_ret
    exact ⟨rfl, K1.below (Nat.le_refl _) (by simp)⟩
  have hn2 : (mn : Int) ≤ 60 := by omega
  have hn3 : decide ((60 : Int) < (mn : Int)) = false := decide_eq_false (by omega)
  clear hmi hmni
  have hok := mk3_ok l r s
  obtain ⟨c, hc⟩ : ∃ c, c = mk3 l r s := ⟨_, rfl⟩
  rw [← hc] at hok
  obtain ⟨os, hos⟩ : ∃ os, os = fillL c.space (hdsL R V m) := ⟨_, rfl⟩
  have HLI := hid (linked_at w1 l r s hl hrr hs y0 m cm R V (HY.out.keep K1 (by simp)) (by omega) y1 mn cn G (HG.out.keep K1 (by simp)) (by omega) wg (by omega) c hc os hos)
  clear hc
  go_wp2_with fail
  refine HLI.out.mono ?_
  rintro e w3 ⟨p, a, u, S, x, cp, y, cy, B, rfl, hn, hP, hub, hF, hU, hI, ⟨b1, b2, b3, b4, b5⟩, hB, hk3⟩
  have K3 := K1.trans hk3
  have HWB : Hid (∀ b ∈ [p, a.s, a.k, a.m], W.heap.size ≤ b ∧ b < w3.heap.size) := fun b h => by
    have hz := K1.size
    have h1 := hP.pow.lt
    have h2 := hP.dev.now.lt
    have h3 := hP.dev.kept.lt
    have h4 := hP.dev.map.lt
    simp only [List.mem_cons, List.not_mem_nil, or_false] at h
    omega
  have HO := hid hok
  have HN := hid hn
  obtain ⟨L, hL⟩ : ∃ L, L = os.length := ⟨_, rfl⟩
  have hLm : L ≤ m := by rw [hL, hos]; exact fillL_len _ _ _ _
  have hLi : (L : Int) ≤ 30 := by omega
  have HL := hid hL
  rw [← hL] at hI ⊢
  obtain ⟨us, hus⟩ : ∃ us, us = lenL os := ⟨_, rfl⟩
  have HUS := hid hus
  rw [← hus]
  have husb : us ≤ c.space := by rw [hus]; exact hF.fits
  have hsp : c.space ≤ 4096 := hok.small.2.2
  have husi : (us : Int) ≤ 4096 := by omega
  have hfs : c.frm 0 + c.space ≤ a.n := by rw [← hn]; exact frm_space 0 (by omega)
  have hfr := frm_le hok.small (show 0 ≤ 2 by omega)
  have hch := hF.chain
  rw [← hus] at hch
  have hwd := hF.wd hsp (lnkG_wd c os G mn wg (by omega))
  have HCH := hid hch
  have HWD := hid hwd
  have HF := hid hF
  have HFS := hid (And.intro husb (And.intro hsp (And.intro hfs hfr)))
  have HP := hid hP
  have HUB := hid hub
  have HI := hid hI
  have HK3 := hid K3
  have HDD : Hid (a.d < w3.heap.size) := hP.dev.dev.lt
  have hus0 : L = 0 ↔ us = 0 := by
    rw [hL, hus]
    have h1 := len_le os
    constructor
    · intro h; rw [List.length_eq_zero_iff.1 h]; rfl
    · omega
  have HU0 := hid hus0
  clear hm25 hn60 hm3 hn3 hn2 hm2 hos hL hLm hus husb hsp hfs hfr hch hwd hF hP hub hI hU hB b1 b2 b3 b4 b5 hk3 K1 c0 c1 c2 hB1 HLI hok hn K3 hus0
  go_upto_region 6 with fail
  have hC4 := (At.new w3 (cfgO c)).alloc (bkO 0 (us : Nat) (.slice x c.roots cp))
  have hB4 := At.new (w3.alloc (cfgO c)) (bkO 0 (us : Nat) (.slice x c.roots cp))
  have k34 := ((Keeps.refl [] w3).alloc (cfgO c)).alloc (bkO 0 (us : Nat) (.slice x c.roots cp))
  simp only [World.size_alloc] at hB4
  obtain ⟨w4, hw4⟩ : ∃ w4, w4 = (w3.alloc (cfgO c)).alloc (bkO 0 (us : Nat) (.slice x c.roots cp)) := ⟨_, rfl⟩
  have hz4 : w4.heap.size = w3.heap.size + 2 := by rw [hw4]; simp
  rw [← hw4] at hC4 hB4 k34
  first | rw [← hw4] | skip
  obtain ⟨cb, hcb⟩ : ∃ q, q = w3.heap.size := ⟨_, rfl⟩
  obtain ⟨bb, hbb⟩ : ∃ q, q = w3.heap.size + 1 := ⟨_, rfl⟩
  rw [← hbb, ← hcb]
  rw [← hcb] at hC4
  rw [← hbb] at hB4
  have HCB : Hid (cb ∉ [p, a.s, a.k, a.m] ∧ bb ∉ [p, a.s, a.k, a.m]) := ⟨fun h => by have := HWB.out _ h; omega, fun h => by have := HWB.out _ h; omega⟩
  have HC4 := hid hC4
  have HB4 := hid hB4
  have HP4 := hid (HP.out.keep0 k34)
  have HI4 := hid (HI.out.keep k34 (by simp))
  have HK4 := hid (HK3.out.trans k34)
  have HW4 : Hid (∀ b ∈ [p, a.s, a.k, a.m], b ∈ ([] : List Nat) ∨ W.heap.size ≤ b) := fun b h => .inr (HWB.out b h).1
  have HCT : Hid (∀ w', Keeps [p, a.s, a.k, a.m] w4 w' → (w'.cell? ⟨cb, 0, none⟩ = some (.int .i64 c.log) ∧ w'.cell? ⟨cb, 1, none⟩ = some (.int .i64 c.roots) ∧ w'.cell? ⟨cb, 2, none⟩ = some (.int .i64 c.space) ∧
      w'.cell? ⟨bb, 0, none⟩ = some (.int .i64 0) ∧ w'.cell? ⟨bb, 1, none⟩ = some (.int .i64 (us : Nat)) ∧ w'.cell? ⟨bb, 2, none⟩ = some (.slice x c.roots cp))) := fun w' hk => by
    have x2 := hk.at HC4.out HCB.out.1
    have x3 := hk.at HB4.out HCB.out.2
    exact ⟨x2.cell 0 rfl, x2.cell 1 rfl, x2.cell 2 rfl, x3.cell 0 rfl, x3.cell 1 rfl, x3.cell 2 rfl⟩
  have HA4 : Hid (HF.out.act = HF.out.act) := rfl
  clear hw4 hz4 hcb hbb hC4 hB4 k34 HP HI HK3 HA4
  obtain ⟨av, hav⟩ : ∃ av, av = ckC S c 0 os false := ⟨_, rfl⟩
  have HAV : Hid (av = 0 ∨ av = 9) := by
    show _ ∨ _
    rw [hav]
    exact ckC_or S c 0 os
  have hwu := HWD.out.at HN.out (show 0 ≤ 1 by omega)
  have HCK : Hid (∀ (w' : World) (p' : Nat) (a' : DA) (S' : DS), Dev w' p' a' S' → c.words = a'.n → (∀ j, j < a.n → S'.now j = S.now j) →
      Calls Tryz.prog 12 #[ptr a'.d, cfgV c] w' fun e w'' => e = .returned (.int .i64 av) ∧ Keeps [] w' w'') := fun w' p' a' S' hD' hn' he => by
    have hre := root_end c
    have hfs := HFS.out
    have hrr : ∀ j, j < c.roots → c.root j < a.n := fun j hj => by have := (root_lt hj).2; omega
    rw [hav, ← ckC_same (S' := S') (fun j hj => he _ (hrr j hj)) (fun i hi j hj => he _ (by
      have h1 := posN_end hi
      have h2 := (few_at HF.out.few i).2
      have h3 := HUS.out
      omega))]
    refine check12_at w' p' a' S' c hD' HO.out hn' 0 us os false (by omega) (by rw [he _ (by omega)]; exact HF.out.act) (by rw [he _ (by omega), HUS.out]; exact HF.out.used) (HCH.out.same fun j hj => he _ (by omega)) ⟨fun i hi => ?_, fun j h1 h2 => ?_⟩
    · rw [he _ (hrr i hi)]; exact hwu.1 i hi
    · rw [he _ (by omega)]; exact hwu.2 j h1 h2
  have hnb : Hid (a.n ≤ 100000 ∧ a.L = (a.n + 7) / 8) := by
    have h1 := frm_le HO.out.small (show 2 ≤ 2 by omega)
    have h2 := HN.out
    have h3 := a.n8
    have h4 : c.words = c.frm 2 := rfl
    show _ ∧ _
    omega
  clear hav hwu
  go_wp2_with fail
  refine (words_at w4 p a S HP4.out.dev).mono ?_
  rintro e w5 ⟨v5, rfl, hv5, k45⟩
  obtain ⟨g5, cap5, rfl, hg5, hgb5, _, hR5⟩ := hv5.reads
  have HP5 := hid (HP4.out.keep0 k45)
  have HK5 := hid (HK4.out.trans k45)
  have HC5 : Hid (Keeps [p, a.s, a.k, a.m] w4 w5) := k45.mono (by simp)
  have HR5 := hid hR5
  clear hv5 hg5 hgb5 hR5 k45
  go_upto_region 9 with fail
  have kk : Keeps [] w5 w5.drew := (Keeps.refl _ _).drew
  go_region_held3 (fun w' => w'.cell? ⟨cb, 0, none⟩ = some (.int .i64 c.log) ∧ w'.cell? ⟨cb, 1, none⟩ = some (.int .i64 c.roots) ∧ w'.cell? ⟨cb, 2, none⟩ = some (.int .i64 c.space))
    (exact (fun h => ⟨h.1, h.2.1, h.2.2.1⟩) (HCT.out _ (HC5.out.trans (kk.mono (by simp)))))
    (first
      | (go_at_call 12; refine (HCK.out _ p a S (HP5.out.keep0 kk).dev HN.out (fun _ _ => rfl)).mono ?_; rintro e w' ⟨rfl, hk9⟩; have kk := kk.trans hk9; clear hk9))
  rename_i hHd
  clear hHd
  have HP6 := hid (HP5.out.keep0 kk)
  have HK6 := hid (HK5.out.trans kk)
  have HC6 : Hid (Keeps [p, a.s, a.k, a.m] w4 w') := HC5.out.trans (kk.mono (by simp))
  have HR6 := hid (HR5.out.keep kk (by simp))
  clear HR5
  go_wp2_with fail
  refine (lnew_at w' (some ⟨g5, 0, none⟩) a.n cap5 a.L S.now HR6.out hnb.out.2 (by have := hnb.out; omega)).mono ?_
  rintro e w7 ⟨p7, a7, rfl, hL7, hD7, _, _, k67⟩
  have HN7 : Hid (c.words = a7.n) := by
    show _ = _
    rw [HN.out, a.n8, a7.n8, hL7]
  have HD7 := hid hD7
  have HP7 := hid (HP6.out.keep0 k67)
  have HK7 := hid (HK6.out.trans k67)
  have HC7 : Hid (Keeps [p, a.s, a.k, a.m] w4 w7) := HC6.out.trans (k67.mono (by simp))
  have HR7 := hid (HR6.out.keep k67 (by simp))
  clear HR6 hD7 k67 hL7
  obtain ⟨c0, c1, c2, b0, b1, b2⟩ := HCT.out w7 HC7.out
  have tt : ((av : Int) == av) = true := beq_self_eq_true av
  have HCK7 := hid (HCK.out w7 p7 a7 _ HD7.out HN7.out (fun j hj => if_pos hj))
  clear b0 b1 b2
  go_wp2_with fail
  refine HCK7.out.mono ?_
  rintro e w8 ⟨rfl, k78⟩
  have HP8 := hid (HP7.out.keep0 k78)
  have HK8 := hid (HK7.out.trans k78)
  have HR8 := hid (HR7.out.keep k78 (by simp))
  clear c0 c1 c2 k78 HR7
  go_wp2_with fail
  refine (words_at w8 p a S HP8.out.dev).mono ?_
  rintro e w9 ⟨v9, rfl, hv9, k89⟩
  obtain ⟨g9, cap9, rfl, hg9, hgb9, _, hR9⟩ := hv9.reads
  have HR9 := hid (HR8.out.keep k89 (by simp))
  have HS9 := hid hR9
  have HK9 := hid (HK8.out.trans k89)
  clear hv9 hg9 hgb9 hR9 k89 HR8
  go_wp2_with fail
  refine (equal_true w9 _ _ a.n cap9 cap5 S.now S.now HS9.out HR9.out (fun _ _ => rfl) (by have := hnb.out; omega)).mono ?_
  rintro e w10 ⟨rfl, k10⟩
  have HKE := hid (HK9.out.trans k10)
  clear k10
  rcases HAV.out with h | h
  · subst h
    go_wp2_with fail
    go_ret
    exact ⟨rfl, HKE.out.below (Nat.le_refl _) (by simp)⟩
  · subst h
    go_wp2_with fail
    go_ret
    exact ⟨rfl, HKE.out.below (Nat.le_refl _) (by simp)⟩

theorem checkMoved_walk (l r s : Int) (y : Option Addr) (m cm : Nat) (z : Nat → Nat → Int) (y1 : Option Addr) (mn cn : Nat) (g : Nat → Int) (wg : Int) (W : World) (wl : (Lit.int .u16 l).wf = true) (wr : (Lit.int .u16 r).wf = true) (ws : (Lit.int .u16 s).wf = true)
    (R2 : m * 2 = 0 ∨ ∃ b off, y = some ⟨b, off, none⟩ ∧ b < W.heap.size ∧ ∀ i j, i < m → j < 2 → W.cell? ⟨b, off + (i * 2 + j), none⟩ = some (.int ((fun j => if j = 0 then IntKind.u8 else IntKind.u8) j) (z i j)) ∧ (Lit.int ((fun j => if j = 0 then IntKind.u8 else IntKind.u8) j) (z i j)).wf = true) (hm : m ≤ maxLen)
    (R : ReadsV (Value.int .u16) W y1 mn g) (hg : ∀ i, i < mn → (Lit.int .u16 (g i)).wf = true) (hmn : mn ≤ maxLen) (wk : (Lit.int .u8 wg).wf = true) :
    Calls Tryz.prog 6 #[.agg #[.int .u16 l, .int .u16 r, .int .u16 s], .slice y m cm, .slice y1 mn cn, .int .u8 wg] W fun e w' => e = .returned (.bool true) ∧ Below W.heap.size W w' := by
  obtain ⟨l, rfl, hl⟩ := c3_open wl
  obtain ⟨r, rfl, hr⟩ := c3_open wr
  obtain ⟨s, rfl, hs⟩ := c3_open ws
  obtain ⟨wg, rfl, hwg⟩ := u8_open wk
  have hR : ReadsW W y1 mn (fun i => (g i).toNat) := by
    rcases R with h | ⟨b, off, rfl, hb, hc⟩
    · exact .inl h
    · refine .inr ⟨b, off, rfl, hb, fun i hi => ?_⟩
      have h3 := bounds_u16 (hg i hi)
      refine ⟨?_, by show (g i).toNat ≤ 65535; omega⟩
      rw [show (((g i).toNat : Nat) : Int) = g i by omega]
      exact hc i hi
  exact moved_small l r s y m cm _ _ y1 mn cn _ wg W hl hr hs (readsH_of R2) (by unfold maxLen at hm; omega) hR (by unfold maxLen at hmn; omega) hwg

end Go.Proofs.YtlpmdjmamnkokaaGreat
