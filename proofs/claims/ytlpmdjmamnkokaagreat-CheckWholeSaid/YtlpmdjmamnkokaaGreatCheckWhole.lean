/- The walk of the law CheckWhole. -/
import Derived.Test.YtlpmdjmamnkokaaGreatAwk12
import Derived.Test.YtlpmdjmamnkokaaGreatLwd
import Derived.BigQuiet
import Derived.Deep.RegionHeld3
namespace Go.Proofs.YtlpmdjmamnkokaaGreat
open Go.RowKit Go.OpenShut

set_option maxRecDepth 100000 in
set_option maxHeartbeats 4000000 in
theorem whole_small (l r s : Nat) (y0 : Option Addr) (m cm : Nat) (R V : Nat → Nat) (y1 : Option Addr) (mn cn : Nat) (G : Nat → Nat) (kk : Nat) (W : World) (hl : l ≤ 65535) (hrr : r ≤ 65535) (hs : s ≤ 65535)
    (hy : ReadsH W y0 m R V) (hm : m ≤ 9223372036854775807) (hg : ReadsW W y1 mn G) (hmn : mn ≤ 9223372036854775807) (hkk : kk ≤ 255) :
    Calls Tryz.prog 4 #[c3V l r s, .slice y0 m cm, .slice y1 mn cn, .int .u8 kk] W fun e w' => e = .returned (.bool true) ∧ Below W.heap.size W w' := by
  have hmi : (m : Int) ≤ 9223372036854775807 := by omega
  have hmni : (mn : Int) ≤ 9223372036854775807 := by omega
  have hkki : (kk : Int) ≤ 255 := by omega
  have HG := hid hg
  have HY := hid hy
  clear hg hy
  go_enter Tryz.func4, Tryz.ntmps4
  go_wp2_with fail
  have hB0 := At.new W (c3O l r s)
  have K0 := (Keeps.refl [] W).alloc (c3O l r s)
  obtain ⟨xb, hxb⟩ : ∃ q, q = W.heap.size := ⟨_, rfl⟩
  rw [← hxb] at hB0
  rw [← hxb]
  have HXB : Hid (xb = W.heap.size) := hxb
  clear hxb
  refine (awake12_any _).mono ?_
  rintro e w1 ⟨rfl, hb1⟩
  have k1 := Go.Proofs.YtlpmdjmamnkokaaGreat.Below.keeps hb1 []
  have K1 := K0.trans k1
  have hB1 := k1.at hB0 (by simp)
  clear hb1 k1 hB0 K0
  have c0 : w1.cell? ⟨xb, 0, none⟩ = some (.int .u16 l) := hB1.cell 0 rfl
  have c1 : w1.cell? ⟨xb, 1, none⟩ = some (.int .u16 r) := hB1.cell 1 rfl
  have c2 : w1.cell? ⟨xb, 2, none⟩ = some (.int .u16 s) := hB1.cell 2 rfl
  by_cases hm25 : m ≤ 25
  case neg =>
    have hm2 : (25 : Int) < (m : Int) := by omega
    have hm3 : decide ((25 : Int) < (m : Int)) = true := decide_eq_true hm2
    go_wp2_with fail
    go_ret
    exact ⟨rfl, K1.below (Nat.le_refl _) (by simp)⟩
  have hm2 : (m : Int) ≤ 25 := by omega
  have hm3 : decide ((25 : Int) < (m : Int)) = false := decide_eq_false (by omega)
  by_cases hn60 : mn ≤ 60
  case neg =>
    have hn2 : (60 : Int) < (mn : Int) := by omega
    have hn3 : decide ((60 : Int) < (mn : Int)) = true := decide_eq_true hn2
    go_wp2_with fail
    go_ret
    exact ⟨rfl, K1.below (Nat.le_refl _) (by simp)⟩
  have hn2 : (mn : Int) ≤ 60 := by omega
  have hn3 : decide ((60 : Int) < (mn : Int)) = false := decide_eq_false (by omega)
  clear hmi hmni
  have hok := mk3_ok l r s
  obtain ⟨c, hc⟩ : ∃ c, c = mk3 l r s := ⟨_, rfl⟩
  rw [← hc] at hok
  obtain ⟨os, hos⟩ : ∃ os, os = fillL c.space (hdsL R V m) := ⟨_, rfl⟩
  have HLI := hid (linked_at w1 l r s hl hrr hs y0 m cm R V (HY.out.keep K1 (by simp)) (by omega) y1 mn cn G (HG.out.keep K1 (by simp)) (by omega) 0 (by omega) c hc os hos)
  clear hc
  go_wp2_with fail
  refine HLI.out.mono ?_
  rintro e w3 ⟨p, a, u, S, x, cp, y, cy, B, rfl, hn, hP, hub, hF, hU, hI, ⟨b1, b2, b3, b4, b5⟩, hB, hk3⟩
  have K3 := K1.trans hk3
  have HWB : Hid (∀ b ∈ [p, a.s, a.k, a.m], W.heap.size ≤ b ∧ b < w3.heap.size) := fun b h => by
    have hz := K1.size
    have h1 := hP.pow.lt
    have h2 := hP.dev.now.lt
    have h3 := hP.dev.kept.lt
    have h4 := hP.dev.map.lt
    simp only [List.mem_cons, List.not_mem_nil, or_false] at h
    omega
  have HO := hid hok
  have HN := hid hn
  obtain ⟨L, hL⟩ : ∃ L, L = os.length := ⟨_, rfl⟩
  have hLm : L ≤ m := by rw [hL, hos]; exact fillL_len _ _ _ _
  have hLi : (L : Int) ≤ 30 := by omega
  have HL := hid hL
  rw [← hL] at hI ⊢
  obtain ⟨us, hus⟩ : ∃ us, us = lenL os := ⟨_, rfl⟩
  have HUS := hid hus
  rw [← hus]
  have husb : us ≤ c.space := by rw [hus]; exact hF.fits
  have hsp : c.space ≤ 4096 := hok.small.2.2
  have husi : (us : Int) ≤ 4096 := by omega
  have hfs : c.frm 0 + c.space ≤ a.n := by rw [← hn]; exact frm_space 0 (by omega)
  have hfr := frm_le hok.small (show 0 ≤ 2 by omega)
  have hch := hF.chain
  rw [← hus] at hch
  have hwd := hF.wd hsp (lnkG_wd c os G mn 0 (by omega))
  have HCH := hid hch
  have HWD := hid hwd
  have HF := hid hF
  have HFS := hid (And.intro husb (And.intro hsp (And.intro hfs hfr)))
  have HP := hid hP
  have HUB := hid hub
  have HI := hid hI
  have HK3 := hid K3
  have HDD : Hid (a.d < w3.heap.size) := hP.dev.dev.lt
  have hus0 : L = 0 ↔ us = 0 := by
    rw [hL, hus]
    have h1 := len_le os
    constructor
    · intro h; rw [List.length_eq_zero_iff.1 h]; rfl
    · omega
  have HU0 := hid hus0
  clear hm25 hn60 hm3 hn3 hn2 hm2 hos hL hLm hus husb hsp hfs hfr hch hwd hF hP hub hI hU hB b1 b2 b3 b4 b5 hk3 K1 c0 c1 c2 hB1 HLI hok hn K3 hus0
  go_upto_region 6 with fail
  have hC4 := (At.new w3 (cfgO c)).alloc (bkO 0 (us : Nat) (.slice x c.roots cp))
  have hB4 := At.new (w3.alloc (cfgO c)) (bkO 0 (us : Nat) (.slice x c.roots cp))
  have k34 := ((Keeps.refl [] w3).alloc (cfgO c)).alloc (bkO 0 (us : Nat) (.slice x c.roots cp))
  simp only [World.size_alloc] at hB4
  obtain ⟨w4, hw4⟩ : ∃ w4, w4 = (w3.alloc (cfgO c)).alloc (bkO 0 (us : Nat) (.slice x c.roots cp)) := ⟨_, rfl⟩
  have hz4 : w4.heap.size = w3.heap.size + 2 := by rw [hw4]; simp
  rw [← hw4] at hC4 hB4 k34
  first | rw [← hw4] | skip
  obtain ⟨cb, hcb⟩ : ∃ q, q = w3.heap.size := ⟨_, rfl⟩
  obtain ⟨bb, hbb⟩ : ∃ q, q = w3.heap.size + 1 := ⟨_, rfl⟩
  rw [← hbb, ← hcb]
  rw [← hcb] at hC4
  rw [← hbb] at hB4
  have HCB : Hid (cb ∉ [p, a.s, a.k, a.m] ∧ bb ∉ [p, a.s, a.k, a.m]) := ⟨fun h => by have := HWB.out _ h; omega, fun h => by have := HWB.out _ h; omega⟩
  have HC4 := hid hC4
  have HB4 := hid hB4
  have HP4 := hid (HP.out.keep0 k34)
  have HI4 := hid (HI.out.keep k34 (by simp))
  have HK4 := hid (HK3.out.trans k34)
  have HW4 : Hid (∀ b ∈ [p, a.s, a.k, a.m], b ∈ ([] : List Nat) ∨ W.heap.size ≤ b) := fun b h => .inr (HWB.out b h).1
  have HCT : Hid (∀ w', Keeps [p, a.s, a.k, a.m] w4 w' → (w'.cell? ⟨cb, 0, none⟩ = some (.int .i64 c.log) ∧ w'.cell? ⟨cb, 1, none⟩ = some (.int .i64 c.roots) ∧ w'.cell? ⟨cb, 2, none⟩ = some (.int .i64 c.space) ∧
      w'.cell? ⟨bb, 0, none⟩ = some (.int .i64 0) ∧ w'.cell? ⟨bb, 1, none⟩ = some (.int .i64 (us : Nat)) ∧ w'.cell? ⟨bb, 2, none⟩ = some (.slice x c.roots cp))) := fun w' hk => by
    have x2 := hk.at HC4.out HCB.out.1
    have x3 := hk.at HB4.out HCB.out.2
    exact ⟨x2.cell 0 rfl, x2.cell 1 rfl, x2.cell 2 rfl, x3.cell 0 rfl, x3.cell 1 rfl, x3.cell 2 rfl⟩
  have HA4 : Hid (HF.out.act = HF.out.act) := rfl
  clear hw4 hz4 hcb hbb hC4 hB4 k34 HP HI HK3 HA4
  have HOK : Hid (∀ S' : DS, (∀ j, j ≠ c.root 0 → S'.now j = S.now j) → okW c 0 os (S'.now (c.root 0)) = true → ckC S' c 0 os false = 0) := fun S' he h0 => by
    refine ckC_ok (fun j hj => ?_) (fun i hi j hj => ?_)
    · by_cases h : j = 0
      · subst h; exact h0
      · rw [he _ (by unfold Cfg.root; omega), HF.out.root j hj]
        exact lnkG_ok _ _ _ _ _
    · have h1 := (root_lt (c := c) (j := 0) (by have := HO.out.1; omega)).2
      rw [he _ (by omega), HF.out.name i j hi hj]
      exact lnkG_ok _ _ _ _ _
  have HCK : Hid (∀ (w' : World) (u' : Int) (S' : DS), Pw w' p a (-1) u' S' → (∀ j, j ≠ c.root 0 → S'.now j = S.now j) → (∃ v : Nat, S'.now (c.root 0) = (v : Int) ∧ v < 18446744073709551616) →
      Calls Tryz.prog 12 #[ptr a.d, cfgV c] w' fun e w'' => e = .returned (.int .i64 (ckC S' c 0 os false)) ∧ Keeps [] w' w'') := fun w' u' S' hP' he ⟨v, hv, hvb⟩ => by
    have h1 := root_lt (c := c) (j := 0) (by have := HO.out.1; omega)
    refine check12_at w' p a S' c hP'.dev HO.out HN.out 0 us os false (by omega) (by rw [he _ (by omega)]; exact HF.out.act) (by rw [he _ (by omega), HUS.out]; exact HF.out.used) (HCH.out.same fun j hj => he _ (by omega)) ((HWD.out.put (t := c.root 0) hvb fun j => ?_).at HN.out (by omega))
    by_cases hj : j = c.root 0
    · rw [if_pos hj, hj, hv]
    · rw [if_neg hj, he _ hj]
  obtain ⟨c0, c1, c2, b0, b1, b2⟩ := HCT.out w4 (Keeps.refl _ _)
  go_wp2_with fail
  refine (HCK.out w4 u S HP4.out (fun _ _ => rfl) (by rw [HF.out.root 0 (by have := HO.out.1; omega)]; exact lnkG_wd c os G mn 0 (by have := HFS.out; have := HUS.out; omega) _)).mono ?_
  rintro e w5 ⟨rfl, k45⟩
  rw [HOK.out S (fun _ _ => rfl) (by rw [HF.out.root 0 (by have := HO.out.1; omega)]; exact lnkG_ok _ _ _ _ _)]
  have HP5 := hid (HP4.out.keep0 k45)
  have HI5 := hid (HI4.out.keep k45 (by simp))
  have HK5 := hid (HK4.out.trans k45)
  have HC5 : Hid (Keeps [p, a.s, a.k, a.m] w4 w5) := k45.mono (by simp)
  clear c0 c1 c2 b0 b1 b2 k45
  obtain ⟨c0, c1, c2, b0, b1, b2⟩ := HCT.out w5 HC5.out
  by_cases hL0 : L = 0
  · have hu0 := HU0.out.1 hL0
    subst hL0
    go_wp2_with fail
    go_ret
    exact ⟨rfl, HK5.out.below (Nat.le_refl _) (by simp)⟩
  have hu0 : ¬ us = 0 := fun h => hL0 (HU0.out.2 h)
  have t1 : ((L : Int) == 0) = false := by rw [beq_eq_false_iff_ne]; omega
  have t2 : ((us : Int) == 0) = false := by rw [beq_eq_false_iff_ne]; omega
  have t3 : ¬ (L : Int) = 0 := by omega
  obtain ⟨i, hi⟩ : ∃ i, i = kk % L := ⟨_, rfl⟩
  have hiL : i < L := by rw [hi]; exact Nat.mod_lt _ (by omega)
  have e1 : (kk : Int).tmod (L : Int) = (i : Int) := by rw [hi]; exact (Int.ofNat_tmod kk L).symm
  have e2 : (kk : Int) % (L : Int) = (i : Int) := by rw [hi]; exact (Int.natCast_emod kk L).symm
  have e3 : IntKind.i64.wrap (i : Int) = (i : Int) := IntWalk.i64_in _ (by omega)
  have e4 : IntKind.i64.wrap ((kk : Int).tmod (L : Int)) = (i : Int) := by rw [e1]; exact e3
  have e5 : IntKind.i64.wrap (kk : Int) = (kk : Int) := IntWalk.i64_in _ (by omega)
  have hiLi : (i : Int) < (L : Int) := by omega
  obtain ⟨g, rfl, hgB, hgl, hgc⟩ := HI5.out.cell (by omega)
  obtain ⟨pv, hpv⟩ : ∃ pv, pv = c.frm 0 + posL os i := ⟨_, rfl⟩
  have hg0 : w5.cell? ⟨g, i, none⟩ = some (.int .i64 (pv : Nat)) := by rw [hpv]; exact hgc i hiL
  have hpb : (pv : Int) ≤ 30000 := by
    have h1 := posN_end (l := os) (i := i) (by have := HL.out; omega)
    have h2 := HUS.out
    have h3 := HFS.out
    omega
  have e6 : IntKind.u64.wrap (pv : Int) = (pv : Int) := IntWalk.u64_in _ (by omega)
  have HPV := hid (And.intro hpv hiL)
  obtain ⟨rt, hrt⟩ : ∃ rt, rt = c.root 0 := ⟨_, rfl⟩
  have HRT := hid hrt
  have HRL : Hid (rt < c.frm 0 ∧ c.act + 2 ≤ rt) := by
    have h1 := root_lt (c := c) (j := 0) (by have := HO.out.1; omega)
    show _ ∧ _
    omega
  have HRA := hid (fun w => root_at w c HO.out.small 0 (by omega))
  rw [← hrt] at HRA
  have hu0i : (0 : Int) < (us : Int) := by omega
  clear hi hiL hgB hgl hgc hpv hrt hL0
  go_wp2_with fail
  refine (HRA.out w5).mono ?_
  rintro e w6 ⟨rfl, k56⟩
  have HP6 := hid (HP5.out.keep0 k56)
  have HK6 := hid (HK5.out.trans k56)
  have HC6 : Hid (Keeps [p, a.s, a.k, a.m] w4 w6) := HC5.out.trans (k56.mono (by simp))
  clear c0 c1 c2 b0 b1 b2 k56 hg0
  go_wp2_with fail
  refine (store_free w6 p a u S HP6.out (by have := HUB.out; omega) (rt : Nat) (pv : Nat) ⟨by omega, by have := HRL.out; have := HFS.out; omega⟩).mono ?_
  rintro e w7 ⟨rfl, hX⟩
  obtain ⟨hP7, k67⟩ := hX.out
  obtain ⟨S7, hS7⟩ : ∃ S7, S7 = execs S [.st ((rt : Nat) : Int).toNat (pv : Nat)] := ⟨_, rfl⟩
  rw [← hS7] at hP7
  have HS7 : Hid (∀ j, S7.now j = if j = c.root 0 then (pv : Int) else S.now j) := fun j => by
    rw [hS7, ← HRT.out, Int.toNat_natCast]
    rfl
  have HP7 := hid hP7
  have HK7 : Hid (Keeps [] W w7) := HK6.out.new k67 HW4.out
  have HC7 := hid (HC6.out.trans k67)
  clear hX hP7 k67 hS7
  obtain ⟨c0, c1, c2, b0, b1, b2⟩ := HCT.out w7 HC7.out
  go_wp2_with fail
  refine (HCK.out w7 _ S7 HP7.out (fun j hj => by rw [HS7.out, if_neg hj]) ⟨pv, by rw [HS7.out, if_pos rfl], by omega⟩).mono ?_
  rintro e w8 ⟨rfl, k78⟩
  rw [HOK.out S7 (fun j hj => by rw [HS7.out, if_neg hj]) (by rw [HS7.out, if_pos rfl, okW_iff]; exact .inr ⟨i, by have := HPV.out; have := HL.out; omega, by rw [HPV.out.1]⟩)]
  have HP8 := hid (HP7.out.keep0 k78)
  have HK8 := hid (HK7.out.trans k78)
  have HC8 : Hid (Keeps [p, a.s, a.k, a.m] w4 w8) := HC7.out.trans (k78.mono (by simp))
  clear c0 c1 c2 b0 b1 b2 k78
  obtain ⟨ff, hff⟩ : ∃ ff, ff = c.frm 0 := ⟨_, rfl⟩
  have HFF := hid hff
  have hfi : (ff : Int) ≤ 20000 := by have := HFS.out; omega
  have HFR := hid (fun w => from_at w c HO.out.small 0 (by omega))
  rw [← hff] at HFR
  have HST := hid (fun (w' : World) (hk : Keeps [] w8 w') (zz v : Int) (hz : 0 ≤ zz ∧ zz < a.n) => store_free w' p a _ S7 (HP8.out.keep0 hk) (by have := HUB.out; omega) zz v hz)
  have e7 : IntKind.u64.wrap ((ff : Int) + (us : Int)) = (ff : Int) + (us : Int) := IntWalk.u64_in _ (by omega)
  clear hff
  go_upto_region 13 with fail
  have kk8 : Keeps [] w8 w8.drew := (Keeps.refl _ _).drew
  go_region_held3 (fun w' => w'.cell? ⟨cb, 0, none⟩ = some (.int .i64 c.log) ∧ w'.cell? ⟨cb, 1, none⟩ = some (.int .i64 c.roots) ∧ w'.cell? ⟨cb, 2, none⟩ = some (.int .i64 c.space) ∧ w'.cell? ⟨bb, 1, none⟩ = some (.int .i64 (us : Nat)))
    (first | exact (fun h => ⟨h.1, h.2.1, h.2.2.1, h.2.2.2.2.1⟩) (HCT.out _ (HC8.out.trans ((kk8.mono (by simp)).trans hx9.out.2))) | exact (fun h => ⟨h.1, h.2.1, h.2.2.1, h.2.2.2.2.1⟩) (HCT.out _ (HC8.out.trans (kk8.mono (by simp)))))
    (first
      | (go_at_call 14; refine (HRA.out _).mono ?_; rintro e w' ⟨rfl, hk9⟩; have kk8 := kk8.trans hk9; clear hk9)
      | (go_at_call 15; refine (HFR.out _).mono ?_; rintro e w' ⟨rfl, hk9⟩; have kk8 := kk8.trans hk9; clear hk9)
      | (go_at_call 10; refine (HST.out _ kk8 _ _ (by have := HRL.out; have := HFS.out; omega)).mono ?_; rintro e w' ⟨rfl, hx9⟩))
  all_goals
    rename_i hHd
    clear hHd
    obtain ⟨hP9, hk9⟩ := hx9.out
    rw [show IntKind.u64.wrap (IntKind.i64.wrap ((ff : Int) + (us : Int))) = (ff : Int) + (us : Int) by rw [IntWalk.i64_in _ (by omega)]; exact e7] at hP9
    obtain ⟨S9, hS9⟩ : ∃ S9, S9 = execs S7 [.st ((rt : Nat) : Int).toNat ((ff : Int) + (us : Int))] := ⟨_, rfl⟩
    rw [← hS9] at hP9
    have HS9 : Hid (∀ j, S9.now j = if j = c.root 0 then ((ff : Int) + (us : Int)) else S7.now j) := fun j => by
      rw [hS9, ← HRT.out, Int.toNat_natCast]
      rfl
    have HE9 : Hid (∀ j, j ≠ c.root 0 → S9.now j = S.now j) := fun j hj => by rw [HS9.out, if_neg hj, HS7.out, if_neg hj]
    have HV9 : Hid (ckC S9 c 0 os false = 9) := by
      have h1 : okR S9 c 0 os = false := by
        rw [Bool.eq_false_iff]
        intro h
        have h2 := okR_iff.1 h 0 (by have := HO.out.1; omega)
        rw [HS9.out, if_pos rfl] at h2
        have h6 := HFF.out
        rcases okW_iff.1 h2 with h3 | ⟨i', hi', h3⟩
        · omega
        · have h4 := posN_end hi'
          have h5 := HUS.out
          omega
      show _ = _
      unfold ckC
      rw [h1]
      rfl
    have HP9 := hid hP9
    have HK9 : Hid (Keeps [] W w') := HK8.out.new ((kk8.mono (by simp)).trans hk9) HW4.out
    have HC9 : Hid (Keeps [p, a.s, a.k, a.m] w4 w') := HC8.out.trans ((kk8.mono (by simp)).trans hk9)
    clear hx9 hP9 hk9 hS9
    obtain ⟨c0, c1, c2, b0, b1, b2⟩ := HCT.out w' HC9.out
    go_wp2_with fail
    refine (HCK.out w' _ S9 HP9.out HE9.out ⟨ff + us, by rw [HS9.out, if_pos rfl]; omega, by omega⟩).mono ?_
    rintro e w10 ⟨rfl, k10⟩
    rw [HV9.out]
    go_wp2_with fail
    go_ret
    exact ⟨rfl, (HK9.out.trans k10).below (Nat.le_refl _) (by simp)⟩

theorem checkWhole_walk (l r s : Int) (y : Option Addr) (m cm : Nat) (z : Nat → Nat → Int) (y1 : Option Addr) (mn cn : Nat) (g : Nat → Int) (kk : Int) (W : World) (wl : (Lit.int .u16 l).wf = true) (wr : (Lit.int .u16 r).wf = true) (ws : (Lit.int .u16 s).wf = true)
    (R2 : m * 2 = 0 ∨ ∃ b off, y = some ⟨b, off, none⟩ ∧ b < W.heap.size ∧ ∀ i j, i < m → j < 2 → W.cell? ⟨b, off + (i * 2 + j), none⟩ = some (.int ((fun j => if j = 0 then IntKind.u8 else IntKind.u8) j) (z i j)) ∧ (Lit.int ((fun j => if j = 0 then IntKind.u8 else IntKind.u8) j) (z i j)).wf = true) (hm : m ≤ maxLen)
    (R : ReadsV (Value.int .u16) W y1 mn g) (hg : ∀ i, i < mn → (Lit.int .u16 (g i)).wf = true) (hmn : mn ≤ maxLen) (wk : (Lit.int .u8 kk).wf = true) :
    Calls Tryz.prog 4 #[.agg #[.int .u16 l, .int .u16 r, .int .u16 s], .slice y m cm, .slice y1 mn cn, .int .u8 kk] W fun e w' => e = .returned (.bool true) ∧ Below W.heap.size W w' := by
  obtain ⟨l, rfl, hl⟩ := c3_open wl
  obtain ⟨r, rfl, hr⟩ := c3_open wr
  obtain ⟨s, rfl, hs⟩ := c3_open ws
  obtain ⟨kk, rfl, hkk⟩ := u8_open wk
  have hR : ReadsW W y1 mn (fun i => (g i).toNat) := by
    rcases R with h | ⟨b, off, rfl, hb, hc⟩
    · exact .inl h
    · refine .inr ⟨b, off, rfl, hb, fun i hi => ?_⟩
      have h3 := bounds_u16 (hg i hi)
      refine ⟨?_, by show (g i).toNat ≤ 65535; omega⟩
      rw [show (((g i).toNat : Nat) : Int) = g i by omega]
      exact hc i hi
  exact whole_small l r s y m cm _ _ y1 mn cn _ kk W hl hr hs (readsH_of R2) (by unfold maxLen at hm; omega) hR (by unfold maxLen at hmn; omega) hkk

end Go.Proofs.YtlpmdjmamnkokaaGreat
