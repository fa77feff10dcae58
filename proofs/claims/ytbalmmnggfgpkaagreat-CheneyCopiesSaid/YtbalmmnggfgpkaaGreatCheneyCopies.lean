/- The walk of the law CheneyCopies, over what is asked of a collector's functions. -/
import Derived.Test.YtbalmmnggfgpkaaGreatAwk14
import Derived.Test.YtbalmmnggfgpkaaGreatCop
import Derived.Test.YtbalmmnggfgpkaaGreatPik
import Derived.Test.YtbalmmnggfgpkaaGreatApp
import Derived.Test.YtbalmmnggfgpkaaGreatRev
import Derived.Test.YtbalmmnggfgpkaaGreatCkl
import Derived.Test.YtbalmmnggfgpkaaGreatNbw
import Derived.Test.YtbalmmnggfgpkaaGreatSam
import Derived.BigQuiet
import Derived.Deep.RegionHeld3
namespace Go.Proofs.YtbalmmnggfgpkaaGreat
open Go.RowKit Go.OpenShut

theorem wsN_getDc {n : Nat} {f : Nat → Int} {i : Nat} (h : i < n) : (wsN n f).getD i 0 = (f i).toNat := by simp [wsN, List.getD, h]

theorem of_yes (w : World) (p : Nat) (a : DA) (S : DS) (h : Dev w p a S) (c : Cfg) (hc : c.Ok) (hcn : c.words = a.n) (k : Nat) (hk : k ≤ 1) (u : Nat) (hu : u ≤ c.space) (rs : Value) (x n r : Nat) (ho : obW S c k u x = some (n, r)) (hx : x < 9223372036854775808)
    (hw : ∀ j : Nat, c.frm k ≤ j → j < c.frm k + u → ∃ x : Nat, S.now j = (x : Int) ∧ x < 18446744073709551616) :
    Calls Tryz.prog 18 #[ptr a.d, cfgV c, bkV k u rs, .int .i64 (x : Nat)] w fun e w' => e = .returned (.tuple #[obV (n : Nat) (r : Nat) (x : Nat), .int .i64 0]) ∧ Keeps [] w w' := by
  refine (of_ob w p a S h c hc hcn k hk u hu rs (x : Nat) (by omega) hw).mono ?_
  rintro e w' ⟨h1 | h1, hk⟩
  · obtain ⟨x', n', r', h2, h3, rfl⟩ := h1
    obtain rfl : x = x' := by omega
    rw [ho] at h3
    cases h3
    exact ⟨rfl, hk⟩
  · have := h1.1 x rfl
    rw [ho] at this
    cases this

set_option maxRecDepth 100000 in
set_option maxHeartbeats 8000000 in
theorem ccopies_small {Col : CP → World → Nat → List Nat → Nat → Prop} (C : ColK Col) (l r s : Nat) (y0 : Option Addr) (m cm : Nat) (R V : Nat → Nat) (y1 : Option Addr) (mn cn : Nat) (G : Nat → Nat) (y2 : Option Addr) (mf cf : Nat) (H : Nat → Nat) (W : World) (hl : l ≤ 65535) (hrr : r ≤ 65535) (hs : s ≤ 65535)
    (hy : ReadsH W y0 m R V) (hm : m ≤ 9223372036854775807) (hg : ReadsW W y1 mn G) (hmn : mn ≤ 9223372036854775807) (hh : ReadsW W y2 mf H) (hmf : mf ≤ 9223372036854775807) :
    Calls Tryz.prog 3 #[c3V l r s, .slice y0 m cm, .slice y1 mn cn, .slice y2 mf cf] W fun e w' => e = .returned (.bool true) ∧ Below W.heap.size W w' := by
  have hmi : (m : Int) ≤ 9223372036854775807 := by omega
  have hmni : (mn : Int) ≤ 9223372036854775807 := by omega
  have hmfi : (mf : Int) ≤ 9223372036854775807 := by omega
  have HG := hid hg
  have HH := hid hh
  have HY := hid hy
  clear hg hh hy
  go_enter Tryz.func3, Tryz.ntmps3
  go_wp2_with fail
  have h_xb := At.new W (c3O l r s)
  have K0 := (Keeps.refl [] W).alloc (c3O l r s)
  obtain ⟨xb, hq_xb⟩ : ∃ q, q = W.heap.size := ⟨_, rfl⟩
  rw [← hq_xb]
  rw [← hq_xb] at h_xb
  refine (awake14_any C _).mono ?_
  rintro e w1 ⟨rfl, hb1⟩
  have k1 := Go.Proofs.YtbalmmnggfgpkaaGreat.Below.keeps hb1 []
  have K1 := K0.trans k1
  have g_xb := k1.at h_xb (by simp)
  clear hb1 k1 K0 h_xb hq_xb
  have c0 : w1.cell? ⟨xb, 0, none⟩ = some (.int .u16 l) := g_xb.cell 0 rfl
  have c1 : w1.cell? ⟨xb, 1, none⟩ = some (.int .u16 r) := g_xb.cell 1 rfl
  have c2 : w1.cell? ⟨xb, 2, none⟩ = some (.int .u16 s) := g_xb.cell 2 rfl
  by_cases hm30 : m ≤ 25
  case neg =>
    have g2 : (25 : Int) < (m : Int) := by omega
    have g3 : decide ((25 : Int) < (m : Int)) = true := decide_eq_true g2
    go_wp2_with fail
    go_ret
    exact ⟨rfl, K1.below (Nat.le_refl _) (by simp)⟩
  have hm2 : (m : Int) ≤ 25 := by omega
  have hm3 : decide ((25 : Int) < (m : Int)) = false := decide_eq_false (by omega)
  clear hmi
  by_cases hn60 : mn ≤ 60
  case neg =>
    have g2 : (60 : Int) < (mn : Int) := by omega
    have g3 : decide ((60 : Int) < (mn : Int)) = true := decide_eq_true g2
    go_wp2_with fail
    go_ret
    exact ⟨rfl, K1.below (Nat.le_refl _) (by simp)⟩
  have h2_mn : (mn : Int) ≤ 60 := by omega
  have h3_mn : decide ((60 : Int) < (mn : Int)) = false := decide_eq_false (by omega)
  clear hmni
  by_cases hf10 : mf ≤ 10
  case neg =>
    have g2 : (10 : Int) < (mf : Int) := by omega
    have g3 : decide ((10 : Int) < (mf : Int)) = true := decide_eq_true g2
    go_wp2_with fail
    go_ret
    exact ⟨rfl, K1.below (Nat.le_refl _) (by simp)⟩
  have h2_mf : (mf : Int) ≤ 10 := by omega
  have h3_mf : decide ((10 : Int) < (mf : Int)) = false := decide_eq_false (by omega)
  clear hmfi
  have hok := mk3_ok l r s
  obtain ⟨c, hc⟩ : ∃ c, c = mk3 l r s := ⟨_, rfl⟩
  rw [← hc] at hok
  obtain ⟨os, hos⟩ : ∃ os, os = fillL c.space (hdsL R V m) := ⟨_, rfl⟩
  have HLI := hid (linked_at w1 l r s hl hrr hs y0 m cm R V (HY.out.keep K1 (by simp)) (by omega) y1 mn cn G (HG.out.keep K1 (by simp)) (by omega) 0 (by omega) c hc os hos)
  clear hc
  go_wp2_with fail
  refine HLI.out.mono ?_
  rintro e w3 ⟨p, a, u, S, x, cp, y, cy, B, rfl, hn, hP, hub, hF, hU, hI, ⟨b1, b2, b3, b4, b5⟩, hB, hk3⟩
  have K3 := K1.trans hk3
  have HO := hid hok
  have HN := hid hn
  obtain ⟨L, hL⟩ : ∃ L, L = os.length := ⟨_, rfl⟩
  have hLm : L ≤ m := by rw [hL, hos]; exact fillL_len _ _ _ _
  have hLi : (L : Int) ≤ 30 := by omega
  have HL := hid hL
  rw [← hL] at hI ⊢
  obtain ⟨us, hus⟩ : ∃ us, us = lenL os := ⟨_, rfl⟩
  have HUS := hid hus
  rw [← hus]
  have husb : us ≤ c.space := by rw [hus]; exact hF.fits
  have hsp : c.space ≤ 4096 := hok.small.2.2
  have husi : (us : Int) ≤ 4096 := by omega
  have hfr := frm_le hok.small (show 0 ≤ 2 by omega)
  have hfs : c.frm 0 + c.space ≤ a.n := by rw [← hn]; exact frm_space 0 (by omega)
  have hwd := hF.wd hsp (lnkG_wd c os G mn 0 (by omega))
  have HX : Hid (∀ j : Nat, c.frm 0 ≤ j → j < c.frm 0 + us → ∃ x : Nat, S.now j = (x : Int) ∧ x < 18446744073709551616) := fun j h1 h2 => hwd.sp j h1 (by omega)
  have HFS := hid (And.intro husb (And.intro hsp (And.intro hfs hfr)))
  have HP := hid hP
  have HI := hid hI
  have HWB : Hid (∀ b ∈ [p, a.d, a.s, a.k, a.m], W.heap.size ≤ b ∧ b < w3.heap.size) := fun b hb' => by
    have h1 := K1.size
    have h2 := hP.pow.lt
    have h3 := hP.dev.dev.lt
    have h4 := hP.dev.now.lt
    have h5 := hP.dev.kept.lt
    have h6 := hP.dev.map.lt
    simp only [List.mem_cons, List.not_mem_nil, or_false] at hb'
    omega
  have HUB := hid hub
  have HU := hid hU
  have HD4 : Hid (a.d < w3.heap.size ∧ a.s < w3.heap.size ∧ a.k < w3.heap.size ∧ a.m < w3.heap.size) := ⟨hP.dev.dev.lt, hP.dev.now.lt, hP.dev.kept.lt, hP.dev.map.lt⟩
  have HK3 := hid K3
  have HH3 := hid (HH.out.keep K3 (by simp))
  have HFF := hid hF
  have HIB : Hid (∀ b ∈ blkL y, b ∉ [p, a.s, a.k, a.m]) := fun b hb h => by
    have h1 := (HI.out.ge b hb).1
    simp only [List.mem_cons, List.not_mem_nil, or_false] at h
    omega
  have HIB2 : Hid (∀ b ∈ blkL y, b ∉ [p, a.d, a.s, a.k, a.m]) := fun b hb h => by
    have h1 := (HI.out.ge b hb).1
    simp only [List.mem_cons, List.not_mem_nil, or_false] at h
    omega
  have HXD : Hid (∀ b ∈ blkL x, b ∉ [p, a.s, a.k, a.m]) := fun b hb h => by
    have h1 := (HU.out.ge b hb).1
    simp only [List.mem_cons, List.not_mem_nil, or_false] at h
    omega
  have HL30 : Hid (L ≤ 30) := by show _ ≤ _; omega
  clear hm30 hn60 hm2 hm3 h2_mn h3_mn h2_mf h3_mf hos hL hLm hus husb hsp hfs hfr hwd hF hP hub hI hU hB b1 b2 b3 b4 b5 hk3 K1 c0 c1 c2 HLI hok hn K3 g_xb
  go_upto_region 8 with fail
  have hC4 := (At.new w3 (cfgO c)).alloc (bkO 0 (us : Nat) (.slice x c.roots cp))
  have hB4 := At.new (w3.alloc (cfgO c)) (bkO 0 (us : Nat) (.slice x c.roots cp))
  have k34 := ((Keeps.refl [] w3).alloc (cfgO c)).alloc (bkO 0 (us : Nat) (.slice x c.roots cp))
  simp only [World.size_alloc] at hB4
  obtain ⟨cb, hcb⟩ : ∃ q, q = w3.heap.size := ⟨_, rfl⟩
  obtain ⟨bb, hbb⟩ : ∃ q, q = w3.heap.size + 1 := ⟨_, rfl⟩
  obtain ⟨w4, hw4⟩ : ∃ w4, w4 = (w3.alloc (cfgO c)).alloc (bkO 0 (us : Nat) (.slice x c.roots cp)) := ⟨_, rfl⟩
  have hz4 : w4.heap.size = w3.heap.size + 2 := by rw [hw4]; simp
  rw [← hw4] at hC4 hB4 k34
  first | rw [← hw4] | skip
  rw [← hbb, ← hcb]
  rw [← hcb] at hC4
  rw [← hbb] at hB4
  have HZ4 : Hid (cb = w3.heap.size ∧ bb = cb + 1 ∧ w4.heap.size = cb + 2) := ⟨by omega, by omega, by omega⟩
  have HP4 := hid (HP.out.keep0 k34)
  have HC4 := hid hC4
  have HB4 := hid hB4
  have HK4 := hid (HK3.out.trans k34)
  have HK34 := hid k34
  have HI4 := hid (HI.out.keep k34 (by simp))
  have HH4 := hid (HH3.out.keep k34 (by simp))
  clear hw4 hz4 hcb hbb hC4 hB4 k34
  have HPB : Hid (∀ j, j < L → c.frm 0 + posL os j ≤ 100000) := fun j hj => by
    have h1 := posN_end (l := os) (i := j) (by have := HL.out; omega)
    have h2 := HUS.out
    have h3 := HFS.out
    omega
  have HMF : Hid (mf ≤ 10) := hf10
  clear hf10
  have han : a.n ≤ 17592186044416 := by
    have h1 := HP4.out.dev.few
    have h2 := a.n8
    omega
  have HAN := hid han
  obtain ⟨f5, hf5⟩ : ∃ f5 : Nat → Int, f5 = fun i => ((pkV H (fun j => c.frm 0 + posL os j) L i : Nat) : Int) := ⟨_, rfl⟩
  have HF5 : Hid (∀ i, i < mf → 0 ≤ f5 i ∧ f5 i ≤ 100000) := fun i hi => by
    have hh := HH4.out
    obtain ⟨b, off, _, _, hcl⟩ := hh.resolve_left (by omega)
    have h1 := pkV_le (G := H) (P := fun j => c.frm 0 + posL os j) (n := L) (i := i) (hcl i hi).2 HPB.out
    rw [hf5]
    show 0 ≤ ((pkV H (fun j => c.frm 0 + posL os j) L i : Nat) : Int) ∧ ((pkV H (fun j => c.frm 0 + posL os j) L i : Nat) : Int) ≤ 100000
    omega
  obtain ⟨fR, hfR⟩ : ∃ fR : Nat → Int, fR = fun j => lnkG c os G mn 0 (refL os + j) := ⟨_, rfl⟩
  have hfR0 : ∀ j, 0 ≤ fR j ∧ fR j ≤ 100000 := fun j => by
    rw [hfR]
    show 0 ≤ lnkG c os G mn 0 (refL os + j) ∧ lnkG c os G mn 0 (refL os + j) ≤ 100000
    rcases okW_iff.1 (lnkG_ok c os G mn (refL os + j)) with h | ⟨i, hi, h⟩
    · rw [h]; omega
    · have := HPB.out i (by have := HL.out; omega)
      rw [h]
      omega
  have HFR := hid (And.intro hfR hfR0)
  have hroi : (c.roots : Int) ≤ 16 := by have := HO.out.2.1; omega
  have HDW : Hid (∀ b ∈ [p, a.d, a.s, a.k, a.m], b < w3.heap.size) := fun b hb => (HWB.out b hb).2
  have hIb : ∀ b ∈ blkL y, b ∉ [p, a.s, a.k, a.m] := HIB.out
  have hgl : ∀ q, ∃ v : Nat, lnkG c os G mn 0 q = (v : Int) ∧ v < 18446744073709551616 := fun q => by
    obtain ⟨v, h1, h2⟩ := lnkG_low c os G mn (by have := HFS.out; have := HUS.out; omega) q
    exact ⟨v, h1, by omega⟩
  have hNB := numbered_at w4 p a u S HP4.out (by have := HUB.out; omega) c HO.out HN.out os _ HFF.out hgl (.slice x c.roots cp) y cy _ L HL.out (by have := HL30.out; omega) HI4.out hIb us HUS.out
  have HNB := hid hNB
  have c0 := HC4.out.cell 0 rfl
  have c1 := HC4.out.cell 1 rfl
  have c2 := HC4.out.cell 2 rfl
  have b0 := HB4.out.cell 0 rfl
  have b1 := HB4.out.cell 1 rfl
  have b2 := HB4.out.cell 2 rfl
  clear han hfR hfR0 hIb hgl hNB
  go_wp2_with fail
  refine HNB.out.mono ?_
  rintro e w5 ⟨rfl, u5, Sn, hP5, hu5, hNm, k45⟩
  have HP5 := hid hP5
  have HNM := hid hNm
  have HU5 : Hid (u5 ≤ 400000) := by
    have h1 := HUB.out
    have h2 := HL.out
    have h3 := HL30.out
    show _ ≤ _
    omega
  have HK45 := hid k45
  have hdl : ∀ b, b ∉ [p, a.d, a.s, a.k, a.m] → b ∉ [p, a.s, a.k, a.m] := fun b h hm => h (by simp only [List.mem_cons, List.not_mem_nil, or_false] at hm ⊢; rcases hm with h | h | h | h <;> simp [h])
  have hcbd : cb ∉ [p, a.d, a.s, a.k, a.m] ∧ bb ∉ [p, a.d, a.s, a.k, a.m] := ⟨fun h => by have := HDW.out cb h; have := HZ4.out; omega, fun h => by have := HDW.out bb h; have := HZ4.out; omega⟩
  have HC5 := hid (k45.at HC4.out (hdl _ hcbd.1))
  have HB5 := hid (k45.at HB4.out (hdl _ hcbd.2))
  have HCBD := hid hcbd
  have HI5 := hid (HI4.out.keep k45 HIB.out)
  have HRX : Hid (∀ w', Keeps [] w5 w' → Reads w' x c.roots fR) := fun w' hk => by
    rw [HFR.out.1]
    refine (((HU.out.rd).keep HK34.out (by simp)).keep k45 (fun b off hb h => ?_)).keep hk (by simp)
    exact HXD.out b (by rw [hb]; simp [blkL]) h
  have HH5 : Hid (ReadsW w5 y2 mf H) := by
    rcases HH.out with h | ⟨b, off, hb, hlt, _⟩
    · exact .inl h
    · refine HH4.out.keep k45 fun b1 o1 hb1 h1 => ?_
      rw [hb] at hb1
      cases hb1
      have h2 := (HWB.out b (by simp only [List.mem_cons, List.not_mem_nil, or_false] at h1 ⊢; rcases h1 with h | h | h | h <;> simp [h])).1
      omega
  have HKW5 : Hid (Keeps [] W w5) := HK4.out.new k45 fun b hb => .inr (HWB.out b (by simp only [List.mem_cons, List.not_mem_nil, or_false] at hb ⊢; rcases hb with h | h | h | h <;> simp [h])).1
  clear hP5 hu5 hNm k45 hdl hcbd HNB c0 c1 c2 b0 b1 b2
  go_wp2_with fail
  refine (pick_at w5 y y2 L cy mf cf H (fun j => c.frm 0 + posL os j) HH5.out HI5.out.reads HPB.out (by have := HMF.out; omega) (by have := HL30.out; omega)).mono ?_
  rintro e w6 ⟨x6, cp6, rfl, hO6, k56⟩
  rw [← hf5] at hO6
  have HO6 := hid hO6
  have HK56 := hid k56
  have b2 := (k56.at HB5.out (by simp)).cell 2 rfl
  clear hO6 k56 hf5
  go_wp2_with fail
  refine (cloneU_any w6 x c.roots cp fR (HRX.out w6 HK56.out) (by omega)).mono ?_
  rintro e w7 ⟨xr, cxr, rfl, hO7, k67⟩
  have HO7 := hid hO7
  have HO67 := hid (HO6.out.keep k67 (by simp))
  have HK57 := hid (HK56.out.trans k67)
  have hrm : c.roots + mf ≤ 100000 := by have := HO.out.2.1; have := HMF.out; omega
  have hB7 : w6.heap.size ≤ w7.heap.size := k67.size
  have HHB := hid (And.intro hrm hB7)
  clear hO7 k67 b2 hrm hB7 HO6
  go_upto_region 11 with (at_builtin; refine app2U_list rfl _ _ rfl w6.heap.size w5.heap.size xr x6 cxr c.roots cp6 mf fR f5 rfl rfl HO7.out HO67.out HHB.out.1 HHB.out.2 ?_; intro xw cw w8 hO8 hk8 hx8)
  obtain ⟨fW, hfW⟩ : ∃ fW : Nat → Int, fW = fun i => if i < c.roots then fR i else f5 (i - c.roots) := ⟨_, rfl⟩
  rw [← hfW] at hO8
  obtain ⟨M, hM⟩ : ∃ M : Nat, M = c.roots + mf := ⟨_, rfl⟩
  rw [← hM] at hO8 ⊢
  have HFW : Hid (∀ i, i < M → 0 ≤ fW i ∧ fW i ≤ 100000) := fun i hi => by
    rw [hfW]
    show 0 ≤ (if i < c.roots then fR i else f5 (i - c.roots)) ∧ (if i < c.roots then fR i else f5 (i - c.roots)) ≤ 100000
    by_cases h : i < c.roots
    · rw [if_pos h]; exact HFR.out.2 i
    · rw [if_neg h]
      exact HF5.out (i - c.roots) (by omega)
  have HFWR : Hid (∀ i, i < c.roots → fW i = fR i) := fun i hi => by rw [hfW]; exact if_pos hi
  have hMi : (M : Int) ≤ 30 := by have := HMF.out; omega
  have HM : Hid (M = c.roots + mf ∧ c.roots ≤ M) := ⟨hM, by omega⟩
  have HO8 := hid hO8
  have HK58 : Hid (Keeps [] w5 w8) := HK57.out.new hk8 fun b hb => .inr (by have := (HO7.out.ge b hb).1; have := HK56.out.size; omega)
  clear hO8 hk8 hx8 hfW HO7 HO67 hM
  obtain ⟨P, hPq⟩ : ∃ P : CP, P = ⟨p, a, Sn, c, 0, us, wsN M fW, wsN c.roots fR⟩ := ⟨_, rfl⟩
  have hPf : P.p = p ∧ P.a = a ∧ P.S = Sn ∧ P.c = c ∧ P.k = 0 ∧ P.us = us ∧ P.ws.length = M ∧ P.rs.length = c.roots := by rw [hPq]; exact ⟨rfl, rfl, rfl, rfl, rfl, rfl, wsN_len _ _, wsN_len _ _⟩
  have hPok : P.Ok := by
    rw [hPq, HFR.out.1, HUS.out]
    refine ok14 p HO.out HN.out HFF.out HNM.out _ (fun v hv => ?_) (by rw [wsN_len]; omega)
    obtain ⟨i, hi, rfl⟩ := List.mem_map.1 hv
    have h1 := HFW.out i (List.mem_range.1 hi)
    omega
  have hws : P.ws = wsN M fW ∧ P.rs = wsN c.roots fR := by rw [hPq]; exact ⟨rfl, rfl⟩
  have hLS : P.LS = rcF Sn c 0 us (wsN M fW) := by rw [hPq]; rfl
  have hrdy := hPok.rdy
  rw [hPf.2.2.1, hPf.2.2.2.1, hPf.2.2.2.2.1, hPf.2.2.2.2.2.1] at hrdy
  have HXn : Hid (∀ j : Nat, c.frm 0 ≤ j → j < c.frm 0 + us → ∃ x : Nat, Sn.now j = (x : Int) ∧ x < 18446744073709551616) := hrdy.wd
  have HRE := hid (reached13_at w8 p a Sn c (HP5.out.keep0 HK58.out).dev HO.out HN.out 0 (by omega) us HFS.out.1 (.slice x c.roots cp) HXn.out xw M cw fW HO8.out.rd (by omega) (fun i hi => by have h1 := HFW.out i hi; exact ⟨(fW i).toNat, by omega, by omega⟩))
  rw [← hLS] at HRE
  obtain ⟨LS, hLSq⟩ : ∃ LS, LS = P.LS := ⟨_, rfl⟩
  rw [← hLSq] at HRE
  obtain ⟨K, hKq⟩ : ∃ K, K = LS.length := ⟨_, rfl⟩
  rw [← hKq] at HRE
  have hKi : (K : Int) ≤ 4096 := by
    have h1 := P.len
    rw [hPf.2.2.2.2.2.1, ← hLSq, ← hKq] at h1
    have := HFS.out
    omega
  have HPF := hid hPf
  have HPOK := hid hPok
  have HWS := hid hws
  have HLS := hid (And.intro hLSq hKq)
  have HC8 := hid (HK58.out.at HC5.out (by simp))
  have HB8 := hid (HK58.out.at HB5.out (by simp))
  have c0 := HC8.out.cell 0 rfl
  have c1 := HC8.out.cell 1 rfl
  have c2 := HC8.out.cell 2 rfl
  have b0 := HB8.out.cell 0 rfl
  have b1 := HB8.out.cell 1 rfl
  have b2 := HB8.out.cell 2 rfl
  clear hPq hPf hPok hws hLS hrdy hLSq hKq
  go_wp2_with fail
  refine HRE.out.mono ?_
  rintro e w9 ⟨xl, cpl, rfl, hOl, k89⟩
  have HOL := hid hOl
  have HK89 := hid k89
  have HC9 := hid (k89.at HC8.out (by simp))
  have HB9 := hid (k89.at HB8.out (by simp))
  have HP9 := hid (HP5.out.keep0 (HK58.out.trans k89))
  clear hOl k89 c0 c1 c2 b0 b1 b2 HRE
  go_wp2_with fail
  refine (words_at w9 p a Sn HP9.out.dev).mono ?_
  rintro e w10 ⟨v10, rfl, hv10, k10⟩
  obtain ⟨g10, cap10, rfl, hg10, hgb10, _, hR10⟩ := hv10.reads
  have HR10 := hid (And.intro hR10 (And.intro hg10 hgb10))
  have HK910 := hid k10
  have HC10 := hid (k10.at HC9.out (by simp))
  have HB10 := hid (k10.at HB9.out (by simp))
  have HK510 := hid ((HK58.out.trans HK89.out).trans k10)
  have c0 := HC10.out.cell 0 rfl
  have c1 := HC10.out.cell 1 rfl
  have c2 := HC10.out.cell 2 rfl
  have b0 := HB10.out.cell 0 rfl
  have b1 := HB10.out.cell 1 rfl
  have b2 := HB10.out.cell 2 rfl
  clear hv10 hR10 hg10 hgb10 k10
  have hnew := C.new P w10 HPOK.out (by rw [HPF.out.1, HPF.out.2.1, HPF.out.2.2.1]; exact (HP9.out.keep0 HK910.out).dev) x cp (by rw [HWS.out.2]; exact reads_ws (HRX.out w10 HK510.out) fun j _ => (HFR.out.2 j).1) xw cw (by rw [HWS.out.1]; exact reads_ws (((HO8.out.rd).keep HK89.out (by simp)).keep HK910.out (by simp)) fun j hj => (HFW.out j hj).1)
  rw [HPF.out.2.1, HPF.out.2.2.2.1, HPF.out.2.2.2.2.1, HPF.out.2.2.2.2.2.1, HPF.out.2.2.2.2.2.2.1, HPF.out.2.2.2.2.2.2.2] at hnew
  have HNW : Hid (Calls Tryz.prog 15 #[ptr a.d, cfgV c, bkV 0 us (.slice x c.roots cp), .slice xw M cw] w10 fun e w'' => ∃ xq T, e = .returned (ptr xq) ∧ Col P w'' xq T 0 ∧ (∀ b ∈ T, w10.heap.size ≤ b) ∧ Keeps [] w10 w'') := hnew
  clear hnew
  go_wp2_with fail
  refine HNW.out.mono ?_
  rintro e w11 ⟨yb, Ty, rfl, hCy, hTy, k11⟩
  have HDL : Hid (∀ b, w4.heap.size ≤ b → b ∉ [p, a.d, a.s, a.k, a.m]) := fun b hb h => by have := HDW.out b h; have := HK34.out.size; omega
  have h45 : w4.heap.size ≤ w10.heap.size := Nat.le_trans HK45.out.size HK510.out.size
  have hP11 : Pw w11 P.p P.a (-1) u5 P.S := by rw [HPF.out.1, HPF.out.2.1, HPF.out.2.2.1]; exact HP9.out.keep0 (HK910.out.trans k11)
  have HRY := hid (C.run hCy hP11 (by have := HU5.out; omega) P.at_start (fun b hb => by rw [HPF.out.1, HPF.out.2.1]; exact HDL.out b (by have := hTy b hb; omega)) (by unfold CP.N; omega))
  have HTY := hid hTy
  have HK11 := hid k11
  clear hCy hTy k11 hP11 HNW c0 c1 c2 b0 b1 b2
  go_wp2_with fail
  refine HRY.out.mono ?_
  rintro e w12 ⟨T12, u12, S1, rfl, hC12, hP12, hat12, _, _, hT12, k12⟩
  have HK1012 : Hid (w10.heap.size ≤ w12.heap.size) := Nat.le_trans HK11.out.size k12.size
  have hoff : ∀ b, b < w10.heap.size → b ∉ [p, a.d, a.s, a.k, a.m] → b ∉ Ty ++ [P.p, P.a.s, P.a.k, P.a.m] := fun b hb hd h => by
    rcases List.mem_append.1 h with h | h
    · have := HTY.out b h; omega
    · rw [HPF.out.1, HPF.out.2.1] at h
      exact hd (by simp only [List.mem_cons, List.not_mem_nil, or_false] at h ⊢; rcases h with h | h | h | h <;> simp [h])
  have HC12 := hid (k12.at (HK11.out.at HC10.out (by simp)) (hoff cb HC10.out.lt HCBD.out.1))
  have HB12 := hid (k12.at (HK11.out.at HB10.out (by simp)) (hoff bb HB10.out.lt HCBD.out.2))
  have hO10 := (HO8.out.keep HK89.out (by simp)).keep HK910.out (by simp)
  have HO12 := hid ((hO10.keep HK11.out (by simp)).keep k12 (fun b hb => hoff b (hO10.ge b hb).2 (HDL.out b (by have := (hO10.ge b hb).1; have := HK45.out.size; have := HK56.out.size; omega))))
  have hl10 := HOL.out.keep HK910.out (by simp)
  have HOL12 := hid ((hl10.keep HK11.out (by simp)).keep k12 (fun b hb => hoff b (hl10.ge b hb).2 (HDL.out b (by have := (hl10.ge b hb).1; have := HK45.out.size; have := HK58.out.size; omega))))
  have HR12 := hid ((HR10.out.1.keep HK11.out (by simp)).keep k12 (fun b off hb => by
    cases hb
    exact hoff g10 HR10.out.2.2 (HDL.out g10 (by have := HR10.out.2.1; have := HK45.out.size; have := HK58.out.size; have := HK89.out.size; omega))))
  have hi10 := HI5.out.keep HK510.out (by simp)
  have HI12 := hid ((hi10.keep HK11.out (by simp)).keep k12 (fun b hb => hoff b (hi10.ge b hb).2 (fun h => HIB2.out b hb h)))
  have HKW12 : Hid (Keeps [] W w12) := ((HKW5.out.trans HK510.out).trans HK11.out).new k12 fun b hb => .inr (by
    rcases List.mem_append.1 hb with h | h
    · exact Nat.le_trans (HKW5.out.trans HK510.out).size (HTY.out b h)
    · rw [HPF.out.1, HPF.out.2.1] at h
      exact (HWB.out b (by simp only [List.mem_cons, List.not_mem_nil, or_false] at h ⊢; rcases h with h | h | h | h <;> simp [h])).1)
  have HP12 : Hid (Pw w12 p a (-1) u12 S1) := by
    have h := hP12
    rw [HPF.out.1, HPF.out.2.1] at h
    exact h
  have HCPD := hid (CP.fin hat12)
  obtain ⟨U1, hU1⟩ : ∃ U1, U1 = szF P.S P.LS := ⟨_, rfl⟩
  have hcsN : P.cs P.N = P.LS := P.cs_end (by unfold CP.N; omega)
  have hbl := C.block hC12
  rw [hcsN, ← hU1, HPF.out.2.2.2.2.2.2.2, HPF.out.2.2.2.2.1] at hbl
  have HBL := hid hbl
  have hwnt := fun (R : List Nat) (w' : World) (hk : Keeps R w12 w') (hR : ∀ b ∈ R, b < w10.heap.size) (v : Nat) (hv : v < 9223372036854775808) => C.went (C.keep hC12 hk (fun b hb h => by
    have h1 := hR b h
    have h2 := HK11.out.size
    rcases hT12 b hb with h3 | h3
    · have h4 := HTY.out b h3; omega
    · omega)) v hv
  rw [hcsN] at hwnt
  have HWN := hid hwnt
  have HU1 := hid hU1
  clear hC12 hP12 hat12 hT12 k12 hoff hO10 hl10 hi10 hU1 hcsN hbl hwnt HRY h45
  go_wp2_with fail
  refine HBL.out.mono ?_
  rintro e w13 ⟨yB, cB, rfl, hOB, k13⟩
  have HOB := hid hOB
  have HK13 := hid k13
  clear hOB k13 HBL
  go_upto_region 17 with fail
  have hX14 := At.new w13 (bkO 1 (U1 : Nat) (.slice yB c.roots cB))
  have k1314 := (Keeps.refl [] w13).alloc (bkO 1 (U1 : Nat) (.slice yB c.roots cB))
  obtain ⟨tb, htb⟩ : ∃ q, q = w13.heap.size := ⟨_, rfl⟩
  obtain ⟨w14, hw14⟩ : ∃ w14, w14 = w13.alloc (bkO 1 (U1 : Nat) (.slice yB c.roots cB)) := ⟨_, rfl⟩
  rw [← hw14] at hX14 k1314
  first | rw [← hw14] | skip
  rw [← htb] at hX14 ⊢
  have HT14 := hid hX14
  have HTB12 : Hid (w12.heap.size ≤ tb) := by show _ ≤ _; rw [htb]; exact HK13.out.size
  have HK14 := hid (HK13.out.trans k1314)
  have HOB14 := hid (HOB.out.keep k1314 (by simp))
  have hcpd := HCPD.out
  rw [HPF.out.2.2.1, HPF.out.2.2.2.1, HPF.out.2.2.2.2.1, ← HLS.out.1] at hcpd
  have hu1 := HU1.out
  rw [HPF.out.2.2.1, ← HLS.out.1] at hu1
  have hrcf : LS = rcF Sn c 0 us P.ws := by
    have h : P.LS = rcF P.S P.c P.k P.us P.ws := rfl
    rw [HPF.out.2.2.1, HPF.out.2.2.2.1, HPF.out.2.2.2.2.1, HPF.out.2.2.2.2.2.1, ← HLS.out.1] at h
    exact h
  have hrdy := HPOK.out.rdy
  rw [HPF.out.2.2.1, HPF.out.2.2.2.1, HPF.out.2.2.2.2.1, HPF.out.2.2.2.2.2.1] at hrdy
  have hu1b : U1 ≤ c.space := by
    rw [hu1, hrcf]
    exact hrdy.sz
  obtain ⟨F1, hF1⟩ : ∃ F1, F1 = c.frm 1 := ⟨_, rfl⟩
  have hap : c.frm 0 + us ≤ c.frm 1 ∨ c.frm 1 + U1 ≤ c.frm 0 := sp_apart (k := 0) (by omega) HFS.out.1 hu1b
  have hf1 : c.frm 1 + c.space ≤ a.n := by
    have h1 := frm_space (c := c) 1 (by omega)
    have h2 := HN.out
    omega
  have hfl : c.frm 1 ≤ 15000 := frm_le HO.out.small (show 1 ≤ 2 by omega)
  rw [← hF1] at hap hf1 hfl
  have hrest : ∀ j, ¬ (F1 ≤ j ∧ j < F1 + U1) → S1.now j = Sn.now j := fun j h => hcpd.rest j (by rw [← hu1]; show ¬ (c.frm 1 ≤ j ∧ j < c.frm 1 + U1); rw [← hF1]; exact h)
  have HRE1 := hid hrest
  have HSM1 : Hid (∀ j, c.frm 0 ≤ j → j < c.frm 0 + us → S1.now j = Sn.now j) := fun j h1 h2 => hrest j (by omega)
  have HCP := hid hcpd
  have HUS1 := hid hu1
  have HRC := hid hrcf
  have HRDY := hid hrdy
  have hu1i : (U1 : Int) ≤ 4096 := by have := HFS.out; omega
  have hf1i : (F1 : Int) ≤ 15000 := by omega
  have HFU := hid (And.intro hF1 (And.intro hap (And.intro hf1 hu1b)))
  have HFA : Hid (∀ w, Calls Tryz.prog 20 #[cfgV c, .int .i64 1] w fun e w' => e = .returned (.int .i64 (F1 : Nat)) ∧ Keeps [] w w') := fun w => by
    have h := from_at w c HO.out.small 1 (by omega)
    rw [← hF1] at h
    exact h
  have HOF : Hid (∀ w', Keeps [] w12 w' → ∀ X n r : Nat, obW Sn c 0 us X = some (n, r) → Calls Tryz.prog 18 #[ptr a.d, cfgV c, bkV 0 us (.slice x c.roots cp), .int .i64 (X : Nat)] w' fun e w'' => e = .returned (.tuple #[obV (n : Nat) (r : Nat) (X : Nat), .int .i64 0]) ∧ Keeps [] w' w'') := fun w' hk X n r ho => by
    have h1 := (obW_some ho).2.1
    refine of_yes w' p a S1 (HP12.out.keep0 hk).dev c HO.out HN.out 0 (by omega) us HFS.out.1 _ X n r ?_ (by have := HFS.out; omega) (fun j h1 h2 => by rw [HSM1.out j h1 h2]; exact HXn.out j h1 h2)
    rw [ob_same HSM1.out]
    exact ho
  have HC14 := hid (HK14.out.at HC12.out (by simp))
  have HB14 := hid (HK14.out.at HB12.out (by simp))
  clear hw14 htb hX14 k1314 hcpd hu1 hrcf hrdy hu1b hF1 hap hf1 hfl hrest
  go_wp2_with fail
  go_loopg [19, 96] K (fun rr s19 s96 wr => ∃ i : Nat, i + rr = K ∧ s96 = .int .i64 (i : Nat) ∧ s19 = .int .i64 (szF Sn (LS.take i) : Nat) ∧ Keeps [] w14 wr)
  case atStart => exact ⟨0, by omega, rfl, rfl, Keeps.refl _ _⟩
  case round =>
    obtain ⟨i, hi, rfl, rfl, hK⟩ := hrel
    by_cases hil : i < K
    · skip
      obtain ⟨X, hX⟩ : ∃ X, X = LS.getD i 0 := ⟨_, rfl⟩
      have hXg : LS[i]? = some X := by
        rw [hX, List.getD_eq_getElem?_getD, List.getElem?_eq_getElem (by have := HLS.out.2; omega)]
        rfl
      have hXo : (obW Sn c 0 us X).isSome = true := rcF_ob (ws := P.ws) (by rw [← HRC.out]; exact List.mem_of_getElem? hXg)
      obtain ⟨⟨nn, rr'⟩, hnr⟩ := Option.isSome_iff_exists.1 hXo
      obtain ⟨x1, x2, x3, x4, x5, x6⟩ := obW_some hnr
      have hni : (nn : Int) ≤ 64 := by omega
      obtain ⟨zs, hzs⟩ : ∃ zs, zs = szF Sn (LS.take i) := ⟨_, rfl⟩
      have hZS : szF Sn (LS.take (i + 1)) = zs + (nn + 1) := by
        rw [szF_take hXg, ← hzs, x3]
      have hzi : (zs : Int) ≤ 4096 := by
        have h1 : szF Sn (LS.take i) ≤ szF Sn (LS.take K) := szF_takes (by omega)
        rw [HLS.out.2, List.take_length] at h1
        have h2 := HUS1.out
        omega
      rw [← hzs]
      obtain ⟨gw, hxl, hgl, hgc⟩ : ∃ g, xl = some ⟨g, 0, none⟩ ∧ g < w12.heap.size ∧ ∀ j, j < K → w12.cell? ⟨g, j, none⟩ = some (.int .i64 (LS.getD j 0 : Nat)) := by
        rcases HOL12.out.form with ⟨_, h⟩ | ⟨g, cur, h1, _, h2, h3⟩
        · omega
        · exact ⟨g, h1, h2.lt, fun j hj => h2.cell j (h3 j hj)⟩
      subst hxl
      have hKr := HK14.out.trans hK
      have d0 : wr.cell? ⟨gw, i, none⟩ = some (.int .i64 (X : Nat)) := by
        rw [hKr.cell hgl (by simp), hgc i hil, hX]
      have HOFi := hid (HOF.out wr hKr X nn rr' hnr)
      have HSZ := hid (fun w => hsize_at w nn rr' (by omega))
      have HII := hid (And.intro hi (And.intro hil hZS))
      have HKK := hid hK
      have hii : (i : Int) < (K : Int) := by omega
      have hCr := hKr.at HC12.out (by simp)
      have hBr := hKr.at HB12.out (by simp)
      have c0 := hCr.cell 0 rfl
      have c1 := hCr.cell 1 rfl
      have c2 := hCr.cell 2 rfl
      have b0 := hBr.cell 0 rfl
      have b1 := hBr.cell 1 rfl
      have b2 := hBr.cell 2 rfl
      have e1 : IntKind.i64.wrap ((zs : Int) + ((nn : Int) + 1)) = (zs : Int) + ((nn : Int) + 1) := IntWalk.i64_in _ (by omega)
      clear hi hil hK hX hXg hXo hnr x1 x2 x3 x4 x5 x6 hzs hZS hgl hgc hKr hCr hBr
      go_wp2_with fail
      refine HOFi.out.mono ?_
      rintro e w2 ⟨rfl, k2⟩
      have hO2 := At.new w2 (obO (nn : Nat) (rr' : Nat) (X : Nat))
      have o0 := hO2.cell 0 rfl
      have o1 := hO2.cell 1 rfl
      have k3 := k2.alloc (obO (nn : Nat) (rr' : Nat) (X : Nat))
      have HK3 := hid k3
      clear hO2 k2 k3 d0 c0 c1 c2 b0 b1 b2
      go_wp2_with fail
      refine (HSZ.out _).mono ?_
      rintro e w3 ⟨rfl, k4⟩
      have HK5 := hid (HK3.out.trans k4)
      clear k4 o0 o1
      go_wp2_with fail
      go_roundg (K - (i + 1))
      case measure => (have := HII.out; omega)
      case rel => exact ⟨i + 1, by have := HII.out; omega, by go_num, by rw [HII.out.2.2]; go_num, HKK.out.trans HK5.out⟩
    · have hie : K = i := by omega
      subst hie
      obtain ⟨w15, hw15⟩ : ∃ w15, w15 = wr := ⟨_, rfl⟩
      subst hw15
      have hz : szF Sn (LS.take K) = U1 := by
        rw [HLS.out.2, List.take_length, ← HUS1.out]
      rw [hz]
      have HK15 := hid (HK14.out.trans hK)
      have HK1415 := hid hK
      have HT15 := hid (hK.at HT14.out (by simp))
      have HC15 := hid (hK.at HC14.out (by simp))
      have HB15 := hid (hK.at HB14.out (by simp))
      have HP15 := hid (HP12.out.keep0 (HK14.out.trans hK))
      clear hi hil hK hz
      have t0 := HT15.out.cell 0 rfl
      have t1 := HT15.out.cell 1 rfl
      have t2 := HT15.out.cell 2 rfl
      have c1 := HC15.out.cell 1 rfl
      go_wp2_with fail
      refine (words_at w15 p a S1 HP15.out.dev).mono ?_
      rintro e w16 ⟨v16, rfl, hv16, k16⟩
      obtain ⟨g16, cap16, rfl, _, _, _, hR16⟩ := hv16.reads
      have HR16 := hid hR16
      have HK1216 := hid (HK15.out.trans k16)
      have HK1416 := hid (HK1415.out.trans k16)
      have HT16 := hid (k16.at HT15.out (by simp))
      have HC16 := hid (k16.at HC15.out (by simp))
      have HB16 := hid (k16.at HB15.out (by simp))
      have HP16 := hid (HP15.out.keep0 k16)
      clear hv16 hR16 k16 t0 t1 t2 c1
      go_wp2_with fail
      go_loopg [134] a.n (fun rr s134 wr => ∃ i : Nat, i + rr = a.n ∧ s134 = .int .i64 (i : Nat) ∧ Keeps [] w16 wr)
      case atStart => exact ⟨0, by omega, rfl, Keeps.refl _ _⟩
      case round =>
        obtain ⟨i, hi, rfl, hK⟩ := hrel
        by_cases hil : i < a.n
        · skip
          have hni : (i : Int) < (a.n : Int) := by omega
          have hani : (a.n : Int) ≤ 17592186044416 := by have := HAN.out; omega
          have hKr := HK1216.out.trans hK
          obtain ⟨v, hv⟩ : ∃ v, v = S1.now i := ⟨_, rfl⟩
          have d0 : wr.cell? ⟨g16, i, none⟩ = some (.int .u64 v) := by
            obtain ⟨g, o, he, hl, hc⟩ := HR16.out.resolve_left (by omega)
            cases he
            have h := hc i hil
            rw [Nat.zero_add] at h
            rw [hK.cell hl (by simp), h, hv]
          have HD1 : Hid (∀ w', Keeps [] wr w' → ¬ (F1 ≤ i ∧ i < F1 + U1) → w'.cell? ⟨g10, i, none⟩ = some (.int .u64 v)) := fun w' hk hno => by
            obtain ⟨g, o, he, hl, hc⟩ := HR12.out.resolve_left (by omega)
            cases he
            have h := hc i hil
            rw [Nat.zero_add] at h
            rw [(hKr.trans hk).cell hl (by simp), h, hv, HRE1.out i hno]
          have hCr := hKr.at HC12.out (by simp)
          have HCr := hid hCr
          have HII := hid (And.intro hi hil)
          have HKK := hid hK
          have c0 := hCr.cell 0 rfl
          have c1 := hCr.cell 1 rfl
          have c2 := hCr.cell 2 rfl
          have t1 : decide ((a.n : Int) ≤ (i : Int)) = false := decide_eq_false (by omega)
          have e1 : IntKind.i64.wrap ((F1 : Int) + (U1 : Int)) = (F1 : Int) + (U1 : Int) := IntWalk.i64_in _ (by omega)
          have t5 : (v != v) = false := by simp
          clear hi hil hK hv hKr hCr
          rcases (by omega : i < F1 ∨ (F1 ≤ i ∧ i < F1 + U1) ∨ (F1 ≤ i ∧ F1 + U1 ≤ i)) with hc | ⟨hc1, hc2⟩ | ⟨hc1, hc2⟩
          · have t2 : decide ((i : Int) < (F1 : Int)) = true := decide_eq_true (by omega)
            have hci : (i : Int) < (F1 : Int) := by omega
            have HNO : Hid (¬ (F1 ≤ i ∧ i < F1 + U1)) := by show ¬ _; omega
            clear hc
            go_wp2_with fail
            refine (HFA.out _).mono ?_
            rintro e w2 ⟨rfl, k2⟩
            have d1 := HD1.out w2 k2 HNO.out
            have HK2 := hid (HKK.out.trans k2)
            clear k2 d0 c0 c1 c2
            go_wp2_with fail
            go_roundg (a.n - (i + 1))
            case measure => (have := HII.out; omega)
            case rel => exact ⟨i + 1, by have := HII.out; omega, by go_num, HK2.out⟩
          · have t2 : decide ((i : Int) < (F1 : Int)) = false := decide_eq_false (by omega)
            have hci : ¬ (i : Int) < (F1 : Int) := by omega
            have t3 : decide ((F1 : Int) + (U1 : Int) ≤ (i : Int)) = false := decide_eq_false (by omega)
            clear hc1 hc2
            go_wp2_with fail
            refine (HFA.out _).mono ?_
            rintro e w2 ⟨rfl, k2⟩
            have hC2 := k2.at HCr.out (by simp)
            have HK2 := hid (HKK.out.trans k2)
            clear k2 d0 c0 c1 c2
            have c0 := hC2.cell 0 rfl
            have c1 := hC2.cell 1 rfl
            have c2 := hC2.cell 2 rfl
            clear hC2
            go_wp2_with fail
            refine (HFA.out _).mono ?_
            rintro e w3 ⟨rfl, k3⟩
            have HK3 := hid (HK2.out.trans k3)
            clear k3 c0 c1 c2
            go_wp2_with fail
            go_roundg (a.n - (i + 1))
            case measure => (have := HII.out; omega)
            case rel => exact ⟨i + 1, by have := HII.out; omega, by go_num, HK3.out⟩
          · have t2 : decide ((i : Int) < (F1 : Int)) = false := decide_eq_false (by omega)
            have hci : ¬ (i : Int) < (F1 : Int) := by omega
            have t3 : decide ((F1 : Int) + (U1 : Int) ≤ (i : Int)) = true := decide_eq_true (by omega)
            have hcj : (F1 : Int) + (U1 : Int) ≤ (i : Int) := by omega
            have HNO : Hid (¬ (F1 ≤ i ∧ i < F1 + U1)) := by show ¬ _; omega
            clear hc1 hc2
            go_wp2_with fail
            refine (HFA.out _).mono ?_
            rintro e w2 ⟨rfl, k2⟩
            have hC2 := k2.at HCr.out (by simp)
            have HK2 := hid (HKK.out.trans k2)
            have HKr2 := hid k2
            clear k2 d0 c0 c1 c2
            have c0 := hC2.cell 0 rfl
            have c1 := hC2.cell 1 rfl
            have c2 := hC2.cell 2 rfl
            clear hC2
            go_wp2_with fail
            refine (HFA.out _).mono ?_
            rintro e w3 ⟨rfl, k3⟩
            have d1 := HD1.out w3 (HKr2.out.trans k3) HNO.out
            have HK3 := hid (HK2.out.trans k3)
            clear k3 c0 c1 c2
            go_wp2_with fail
            go_roundg (a.n - (i + 1))
            case measure => (have := HII.out; omega)
            case rel => exact ⟨i + 1, by have := HII.out; omega, by go_num, HK3.out⟩
        · have hie : a.n = i := by omega
          have hnn : ¬ (i : Int) < (a.n : Int) := by omega
          obtain ⟨w17, hw17⟩ : ∃ w17, w17 = wr := ⟨_, rfl⟩
          subst hw17
          have HK17 := hid (HK1216.out.trans hK)
          have HK1617 := hid hK
          have HK1417 := hid (HK1416.out.trans hK)
          clear hi hil hK
          have hmk := fun w : World => run_makeMap (P := Tryz.prog) (w := w) 55
          go_upto_region 32 with fail
          have hM18 := IMap.made w17
          have k1718 := (Keeps.refl [] w17).alloc (.map #[] 0)
          obtain ⟨w18, hw18⟩ : ∃ w18, w18 = w17.alloc (.map #[] 0) := ⟨_, rfl⟩
          rw [← hw18] at hM18 k1718
          first | rw [← hw18] | skip
          obtain ⟨mm, hmm⟩ : ∃ q, q = w17.heap.size := ⟨_, rfl⟩
          rw [← hmm] at hM18 ⊢
          have HM18 := hid hM18
          have HK18 := hid (HK17.out.trans k1718)
          have HTM : Hid (tb < mm) := by
            have h1 := HT16.out.lt
            have h2 := HK1617.out.size
            show _ < _
            rw [hmm]
            omega
          have HYM : Hid (∀ b ∈ blkL yB, w12.heap.size ≤ b ∧ b < mm) := fun b hb => by
            have h1 := HOB14.out.ge b hb
            have h2 := HK1417.out.size
            rw [hmm]
            omega
          have HT18 := hid (k1718.at (HK1617.out.at HT16.out (by simp)) (by simp))
          have HY18 := hid (HOB14.out.keep (HK1417.out.trans k1718) (by simp))
          have HMM : Hid (w12.heap.size ≤ mm) := by show _ ≤ _; rw [hmm]; exact HK17.out.size
          have HWN1 := HWN.out
          rw [HPF.out.2.2.1, HPF.out.2.2.2.1, HPF.out.2.2.2.2.1, ← HLS.out.1] at HWN1
          have HWT := hid HWN1
          have HCT : Hid (∀ (R : List Nat) (w' : World), Keeps R w12 w' → (∀ b ∈ R, b < w8.heap.size) → ∀ X : Nat, Calls Tryz.prog 22 #[.slice xl K cpl, .int .i64 (X : Nat)] w' fun e w'' => e = .returned (.bool (decide (X ∈ LS))) ∧ w' = w'') := fun R w' hk hR X => by
            have h := containsI_at w' xl K cpl _ _ X (HOL12.out.keep hk (fun b hb h => by have := hR b h; have := (HOL12.out.ge b hb).1; omega)) (by omega)
            rw [HLS.out.2, mem_getD, ← HLS.out.2] at h
            exact h
          have HPL : Hid (∀ X ∈ LS, ∃ j, j < L ∧ c.frm 0 + posL os j = X) := fun X hX => by
            have h1 : (obW Sn c 0 us X).isSome = true := rcF_ob (ws := P.ws) (by rw [← HRC.out]; exact hX)
            rw [HUS.out, HNM.out.ob HFF.out HFS.out.2.1] at h1
            obtain ⟨j, hj, hx⟩ := stW_mem.1 (HFF.out.ob_st (lnkG_low c os G mn (by have := HFS.out; have := HUS.out; omega)) h1)
            exact ⟨j, by have := HL.out; omega, hx.symm⟩
          have HWB1 : Hid (∀ X ∈ LS, F1 ≤ wtC Sn c 0 LS X ∧ wtC Sn c 0 LS X < F1 + U1) := fun X hX => by
            have h1 := idx_get hX
            rw [wtC_at (by rw [HRC.out]; exact rcF_nodup) h1]
            have h2 := plC_end (S := Sn) (c := c) (k := 0) h1
            have h3 : c.frm (1 - 0) ≤ plC Sn c 0 LS (LS.idxOf X) := plC_ge _
            rw [← HUS1.out] at h2
            rw [HFU.out.1]
            show c.frm (1 - 0) ≤ _ ∧ _ < c.frm (1 - 0) + U1
            omega
          clear hM18 k1718 hw18 hmm hmk HWN1
          go_wp2_with fail
          go_loopg [169] L (fun rr s169 wr => ∃ (i : Nat) (E : Int → Option Value), i + rr = L ∧ s169 = .int .i64 (i : Nat) ∧ IMap wr mm E ∧ SeenC Sn c 0 LS (fun j => c.frm 0 + posL os j) i E ∧ Keeps [mm] w18 wr)
          case atStart => exact ⟨0, _, by omega, rfl, HM18.out, seenC_start _ _ _ _ _, Keeps.refl _ _⟩
          case round =>
            obtain ⟨i, E, hi, rfl, hM, hE, hK⟩ := hrel
            by_cases hil : i < L
            · skip
              obtain ⟨X, hX⟩ : ∃ X, X = c.frm 0 + posL os i := ⟨_, rfl⟩
              have hXb : X ≤ 100000 := by rw [hX]; exact HPB.out i hil
              have hKr : Keeps [] w12 wr := HK18.out.new hK (fun b hb => .inr (by rw [List.mem_singleton.1 hb]; exact HMM.out))
              obtain ⟨gw, hxl, hgl, hgc⟩ : ∃ g, y = some ⟨g, 0, none⟩ ∧ g < w12.heap.size ∧ ∀ j, j < L → w12.cell? ⟨g, j, none⟩ = some (.int .i64 (c.frm 0 + posL os j : Nat)) := by
                rcases HI12.out.form with ⟨_, h⟩ | ⟨g, cur, h1, _, h2, h3⟩
                · omega
                · exact ⟨g, h1, h2.lt, fun j hj => h2.cell j (h3 j hj)⟩
              subst hxl
              have d0 : wr.cell? ⟨gw, i, none⟩ = some (.int .i64 (X : Nat)) := by
                rw [hKr.cell hgl (by simp), hgc i hil, hX]
              have hCr := hKr.at HC12.out (by simp)
              have HCr := hid hCr
              have HKr := hid hKr
              have HII := hid (And.intro hi (And.intro hil hX))
              have HME := hid (And.intro hM (And.intro hE hK))
              have hii : (i : Int) < (L : Int) := by omega
              have e1 : IntKind.u64.wrap (X : Int) = (X : Int) := IntWalk.u64_in _ (by omega)
              have e2 : IntKind.i64.wrap ((F1 : Int) + (U1 : Int)) = (F1 : Int) + (U1 : Int) := IntWalk.i64_in _ (by omega)
              have HW1 := hid (HWT.out [] wr hKr (by simp) X (by omega))
              clear hi hil hM hE hK hgl hgc hX hKr
              by_cases hm : X ∈ LS
              · have hqb := HWB1.out X hm
                have HQ1 := HW1.out
                obtain ⟨q, hq⟩ : ∃ q, q = wtC Sn c 0 LS X := ⟨_, rfl⟩
                rw [← hq] at hqb HQ1
                have hmd : decide (X ∈ LS) = true := decide_eq_true hm
                have hq1 : (F1 : Int) ≤ (q : Int) := by omega
                have hq2 : (q : Int) < (F1 : Int) + (U1 : Int) := by omega
                have HF1 : Hid (1 ≤ F1) := by
                  have h := @plC_pos Sn c 0 LS 0
                  have h2 := HFU.out.1
                  show 1 ≤ F1
                  have h3 : plC Sn c 0 LS 0 = c.frm (1 - 0) + szF Sn (LS.take 0) := rfl
                  have h4 : szF Sn (LS.take 0) = 0 := rfl
                  have h5 : c.frm (1 - 0) = c.frm 1 := rfl
                  omega
                have t1 : ((q : Int) != 0) = true := by rw [bne_iff_ne]; have := HF1.out; omega
                have t2 : decide ((q : Int) < (F1 : Int)) = false := decide_eq_false (by omega)
                have t3 : decide ((F1 : Int) + (U1 : Int) ≤ (q : Int)) = false := decide_eq_false (by omega)
                have t4 : ¬ (q : Int) < (F1 : Int) := by omega
                have t5 : ¬ (q : Int) = 0 := by have := HF1.out; omega
                have HQI := hid hq
                have HQ1 := hid HQ1
                have HMI := hid hm
                clear hqb hq hm
                go_wp2_with fail
                refine HQ1.out.mono ?_
                rintro e w2 ⟨rfl, k2⟩
                have HCA := HCT.out [] w2 (HKr.out.trans k2) (by simp) X
                rw [hmd] at HCA
                have HCA := hid HCA
                have HK2 := hid k2
                have hC2 := k2.at HCr.out (by simp)
                have HC2 := hid hC2
                have c0 := hC2.cell 0 rfl
                have c1 := hC2.cell 1 rfl
                have c2 := hC2.cell 2 rfl
                clear d0 k2 hmd hC2
                go_wp2_with fail
                refine HCA.out.mono ?_
                rintro e w2' ⟨rfl, rfl⟩
                go_wp2_with fail
                refine (HFA.out _).mono ?_
                rintro e w3 ⟨rfl, k3⟩
                have HK3 := hid k3
                have hC3 := k3.at HC2.out (by simp)
                clear c0 c1 c2 k3
                have c0 := hC3.cell 0 rfl
                have c1 := hC3.cell 1 rfl
                have c2 := hC3.cell 2 rfl
                clear hC3
                go_wp2_with fail
                refine (HFA.out _).mono ?_
                rintro e w4 ⟨rfl, k4⟩
                have hk24 := (HK2.out.trans HK3.out).trans k4
                obtain ⟨w5, hrun, hM5, hk5⟩ := (HME.out.1.keep hk24 (by simp)).update (P := Tryz.prog) Tryz.underlying55 Tryz.underlying3 (q : Int) (.int .i64 (i : Nat))
                have HE5 : Hid (IMap w5 mm (fun z => if z = ((wtC Sn c 0 LS X : Nat) : Int) then some (.int .i64 (i : Nat)) else E z) ∧ Keeps [mm] w18 w5) := ⟨by rw [← HQI.out]; exact hM5, (HME.out.2.2.trans (hk24.mono (by simp))).trans hk5⟩
                clear hk24 k4 hM5 hk5 c0 c1 c2
                go_wp2_with fail
                go_roundg (L - (i + 1))
                case measure => (have := HII.out; omega)
                case rel => exact ⟨i + 1, _, by have := HII.out; omega, by go_num, HE5.out.1, by have h := HME.out.2.1.yes (by show c.frm 0 + posL os i ∈ LS; rw [← HII.out.2.2]; exact HMI.out) (.int .i64 (i : Nat)); rw [← HII.out.2.2] at h; exact h, HE5.out.2⟩
              · have hmd : decide (X ∈ LS) = false := decide_eq_false hm
                have HQ1 := HW1.out
                rw [wtC_no hm] at HQ1
                have HQ1 := hid HQ1
                have HMI := hid hm
                clear hm
                go_wp2_with fail
                refine HQ1.out.mono ?_
                rintro e w2 ⟨rfl, k2⟩
                have HCA := HCT.out [] w2 (HKr.out.trans k2) (by simp) X
                rw [hmd] at HCA
                have HCA := hid HCA
                have HK2 := hid k2
                clear d0 k2 hmd
                go_wp2_with fail
                refine HCA.out.mono ?_
                rintro e w2' ⟨rfl, rfl⟩
                go_wp2_with fail
                go_roundg (L - (i + 1))
                case measure => (have := HII.out; omega)
                case rel => exact ⟨i + 1, E, by have := HII.out; omega, by go_num, HME.out.1.keep HK2.out (by simp), HME.out.2.1.no (by show c.frm 0 + posL os i ∉ LS; rw [← HII.out.2.2]; exact HMI.out), HME.out.2.2.trans (HK2.out.mono (by simp))⟩
            · have hie : L = i := by omega
              obtain ⟨w19, hw19⟩ : ∃ w19, w19 = wr := ⟨_, rfl⟩
              subst hw19
              have hlen := hE.len (P := Tryz.prog) hM (by rw [HRC.out]; exact rcF_nodup) (fun x hx => by obtain ⟨j, h1, h2⟩ := HPL.out x hx; exact ⟨j, by omega, h2⟩) Tryz.underlying55 3
              rw [← HLS.out.2] at hlen
              have HK19 : Hid (Keeps [] w12 w19) := HK18.out.new hK (fun b hb => .inr (by rw [List.mem_singleton.1 hb]; exact HMM.out))
              have HT19 := hid (hK.at HT18.out (by have := HTM.out; simp; omega))
              have HY19 := hid (HY18.out.keep hK (fun b hb h => by have := (HYM.out b hb).2; simp at h; omega))
              have hnl : ¬ (i : Int) < (L : Int) := by omega
              clear hi hil hM hE hK
              go_upto_region 43 with fail
              have HGW : Hid (∀ b ∈ blkL xw, w6.heap.size ≤ b ∧ b < w8.heap.size ∧ b < w10.heap.size) := fun b hb => by
                have h1 := HO8.out.ge b hb
                have h2 := HK89.out.size
                have h3 := HK910.out.size
                omega
              have HO19 := hid (HO12.out.keep HK19.out (by simp))
              obtain ⟨fN, hfN⟩ : ∃ fN : Nat → Int, fN = fun j => ((wtC Sn c 0 LS (fW j).toNat : Nat) : Int) := ⟨_, rfl⟩
              obtain ⟨fA, hfA⟩ : ∃ fA : Nat → Int, fA = fun j => if (fW j).toNat ∈ LS then fW j else 0 := ⟨_, rfl⟩
              have HFN := hid (And.intro hfN hfA)
              clear hlen hfN hfA
              go_wp2_with fail
              go_loopg [30, 215] M (fun rr s30 s215 wr => ∃ (i : Nat) (xn : Option Addr) (cn : Nat), i + rr = M ∧ s215 = .int .i64 (i : Nat) ∧ s30 = .slice xn i cn ∧ OwnU wr w19.heap.size xn cn i fN ∧ OwnU wr w6.heap.size xw cw M (fun j => if j < i then fA j else fW j) ∧ Keeps (blkL xw) w19 wr)
              case atStart => exact ⟨0, none, 0, by omega, rfl, rfl, ownU_nil _ _ _, HO19.out.eq (fun j _ => by rw [if_neg (by omega)]), Keeps.refl _ _⟩
              case round =>
                obtain ⟨i, xn, cn, hi, rfl, rfl, hO, hA, hK⟩ := hrel
                by_cases hil : i < M
                · skip
                  obtain ⟨gw, hxw, hgc⟩ : ∃ g, xw = some ⟨g, 0, none⟩ ∧ ∀ j, j < M → wr.cell? ⟨g, j, none⟩ = some (.int .u64 (if j < i then fA j else fW j)) := by
                    rcases hA.form with ⟨_, h⟩ | ⟨g, cur, h1, _, h2, h3⟩
                    · omega
                    · exact ⟨g, h1, fun j hj => h2.cell j (h3 j hj)⟩
                  subst hxw
                  have hgw := HGW.out gw (by simp [blkL])
                  have hgl : gw < wr.heap.size := (hA.ge gw (by simp [blkL])).2
                  obtain ⟨v, hv⟩ : ∃ v : Nat, v = (fW i).toNat := ⟨_, rfl⟩
                  have hvf := HFW.out i hil
                  have d0 : wr.cell? ⟨gw, i, none⟩ = some (.int .u64 (v : Nat)) := by
                    rw [hgc i hil, if_neg (Nat.lt_irrefl i), hv]
                    congr 2
                    omega
                  have hKr : Keeps [gw] w12 wr := (HK19.out.mono (by simp)).trans hK
                  have HKr := hid hKr
                  have hvb : v ≤ 100000 := by omega
                  have e1 : IntKind.i64.wrap (v : Int) = (v : Int) := IntWalk.i64_in _ (by omega)
                  have HCA := HCT.out [gw] wr hKr (by simpa using hgw.2.1) v
                  have hHW := HWT.out [gw] wr hKr (by simpa using hgw.2.2) v (by omega)
                  have HII := hid (And.intro hi (And.intro hil hv))
                  have HOA := hid (And.intro hO (And.intro hA hK))
                  have HGL := hid (And.intro hgl hgw)
                  have hii : (i : Int) < (M : Int) := by omega
                  have hi5 : i ≤ 100000 := by omega
                  have HFI : Hid ((fA i = if v ∈ LS then (v : Int) else 0) ∧ fN i = ((wtC Sn c 0 LS v : Nat) : Int)) := by
                    rw [HFN.out.1, HFN.out.2]
                    show (if (fW i).toNat ∈ LS then fW i else 0) = _ ∧ ((wtC Sn c 0 LS (fW i).toNat : Nat) : Int) = _
                    rw [← hv]
                    refine ⟨?_, rfl⟩
                    congr 1
                    omega
                  clear hi hil hv hvf hO hA hK hgl hgw hgc hKr
                  by_cases hm : v ∈ LS
                  · rw [decide_eq_true hm] at HCA
                    obtain ⟨q, hq⟩ : ∃ q, q = wtC Sn c 0 LS v := ⟨_, rfl⟩
                    rw [← hq] at hHW
                    have hqb := HWB1.out v hm
                    rw [← hq] at hqb
                    have hqi : (q : Int) ≤ 100000 := by omega
                    have e2 : IntKind.u64.wrap (q : Int) = (q : Int) := IntWalk.u64_in _ (by omega)
                    have HMQ := hid (And.intro hm hq)
                    have HCA := hid HCA
                    have HWV := hid hHW
                    clear hm hq hqb hHW
                    go_wp2_with fail
                    refine HCA.out.mono ?_
                    rintro e w2' ⟨rfl, rfl⟩
                    go_wp2_with fail
                    refine HWV.out.mono ?_
                    rintro e w2 ⟨rfl, k2⟩
                    have hcX := (At.new w2 (.cells #[.int .u64 (q : Nat)] 40)).cell 0 rfl
                    have k3 := k2.alloc (.cells #[.int .u64 (q : Nat)] 40)
                    have HOX := hid (HOA.out.1.keep k3 (by simp))
                    have hBX : w19.heap.size ≤ (w2.alloc (.cells #[.int .u64 (q : Nat)] 40)).heap.size := Nat.le_trans HOA.out.2.2.size k3.size
                    have HK3 := hid k3
                    clear k2 k3 d0
                    go_wp2_with (at_builtin; refine appU_many rfl _ _ rfl w19.heap.size xn cn i _ rfl HOX.out _ _ (q : Nat) rfl hcX hi5 hBX ?_; intro g9 cap9 w9' hO9' hk9' hg9')
                    have HE : Hid (OwnU w9' w19.heap.size (some ⟨g9, 0, none⟩) cap9 (i + 1) fN ∧ OwnU w9' w6.heap.size (some ⟨gw, 0, none⟩) cw M (fun j => if j < i + 1 then fA j else fW j) ∧ Keeps (blkL (some ⟨gw, 0, none⟩)) w19 w9') := by
                      refine ⟨hO9'.eq (fun j hj => ?_), ((HOA.out.2.1.keep HK3.out (by simp)).keep hk9' (fun b hb h => ?_)).eq (fun j hj => ?_), (HOA.out.2.2.trans (HK3.out.mono (by simp))).new hk9' (fun b hb => .inr (HOA.out.1.ge b hb).1)⟩
                      · unfold put
                        by_cases hji : j = i
                        · rw [if_pos hji, hji, HFI.out.2, ← HMQ.out.2]
                        · rw [if_neg hji]
                      · have h1 := (HOA.out.1.ge b h).1
                        have h2 := (HO19.out.ge b hb).2
                        omega
                      · by_cases hji : j = i
                        · subst hji
                          rw [if_neg (Nat.lt_irrefl _), if_pos (by omega), HFI.out.1, if_pos HMQ.out.1]
                          have h1 := HII.out.2.2
                          have h2 := HFW.out j HII.out.2.1
                          omega
                        · by_cases hlt : j < i
                          · rw [if_pos hlt, if_pos (by omega)]
                          · rw [if_neg hlt, if_neg (by omega)]
                    clear hO9' hk9' hg9' hcX hBX e1 e2
                    go_roundg (M - (i + 1))
                    case measure => (have := HII.out; omega)
                    case rel => exact ⟨i + 1, some ⟨g9, 0, none⟩, cap9, by have := HII.out; omega, by go_num, rfl, HE.out⟩
                  · rw [decide_eq_false hm] at HCA
                    have HMQ := hid hm
                    have HCA := hid HCA
                    clear hm hHW
                    go_wp2_with fail
                    refine HCA.out.mono ?_
                    rintro e w2 ⟨rfl, rfl⟩
                    go_upto_region 48 with fail
                    have hcX := (At.new wr (.cells #[.int .u64 0] 40)).cell 0 rfl
                    have k3 := (Keeps.refl [] wr).alloc (.cells #[.int .u64 0] 40)
                    have HOX := hid (HOA.out.1.keep k3 (by simp))
                    have HAX := hid (HOA.out.2.1.keep k3 (by simp))
                    have hBX : w19.heap.size ≤ (wr.alloc (.cells #[.int .u64 0] 40)).heap.size := Nat.le_trans HOA.out.2.2.size k3.size
                    have HK3 := hid k3
                    clear k3 d0
                    have HFX : Hid (∀ w', Keeps (blkL xn) (wr.alloc (.cells #[.int .u64 0] 40)) w' → OwnU w' w6.heap.size (some ⟨gw, 0, none⟩) cw M (fun j => if j < i then fA j else fW j) ∧ w'.frozen? ⟨gw, i, none⟩ = false ∧ w'.cell? ⟨gw, i, none⟩ = some (.int .u64 (v : Nat))) := fun w' hk => by
                      have h1 := HAX.out.keep hk (fun b hb h => by
                        have h1 := (HOA.out.1.ge b h).1
                        have h2 := (HO19.out.ge b hb).2
                        omega)
                      obtain ⟨g, cur, hx, _, hA, hc⟩ := h1.form.resolve_left (by simp)
                      cases hx
                      refine ⟨h1, hA.free i, ?_⟩
                      rw [hA.cell i (hc i HII.out.2.1), if_neg (Nat.lt_irrefl i), HII.out.2.2]
                      have h2 := HFW.out i HII.out.2.1
                      congr 2
                      omega
                    go_wp2_with (at_builtin; refine appU_many rfl _ _ rfl w19.heap.size xn cn i _ rfl HOX.out _ _ 0 rfl hcX hi5 hBX ?_; intro g9 cap9 w9 hO9 hk9 hg9; obtain ⟨hA9, hf9, hd9⟩ := HFX.out w9 hk9)
                    have HE : Hid (OwnU (w9.setCell ⟨gw, i, none⟩ (.int .u64 0)) w19.heap.size (some ⟨g9, 0, none⟩) cap9 (i + 1) fN ∧ OwnU (w9.setCell ⟨gw, i, none⟩ (.int .u64 0)) w6.heap.size (some ⟨gw, 0, none⟩) cw M (fun j => if j < i + 1 then fA j else fW j) ∧ Keeps (blkL (some ⟨gw, 0, none⟩)) w19 (w9.setCell ⟨gw, i, none⟩ (.int .u64 0))) := by
                      have ks : Keeps [gw] w9 (w9.setCell ⟨gw, i, none⟩ (.int .u64 0)) := (Keeps.refl [gw] w9).set (p := ⟨gw, i, none⟩) (.inl (by simp)) _
                      have hg2 := (HO19.out.ge gw (by simp [blkL])).2
                      refine ⟨(hO9.keep ks (fun b hb h => ?_)).eq (fun j hj => ?_), (hA9.put HII.out.2.1 0).eq (fun j hj => ?_), ((HOA.out.2.2.trans (HK3.out.mono (by simp))).new hk9 (fun b hb => .inr (HOA.out.1.ge b hb).1)).trans ks⟩
                      · have h1 := (hO9.ge b hb).1
                        rw [List.mem_singleton.1 h] at h1
                        omega
                      · unfold put
                        by_cases hji : j = i
                        · rw [if_pos hji, hji, HFI.out.2, wtC_no HMQ.out]
                          rfl
                        · rw [if_neg hji]
                      · unfold put
                        by_cases hji : j = i
                        · subst hji
                          rw [if_pos rfl, if_pos (by omega), HFI.out.1, if_neg HMQ.out]
                        · rw [if_neg hji]
                          show (if j < i then fA j else fW j) = if j < i + 1 then fA j else fW j
                          by_cases hlt : j < i
                          · rw [if_pos hlt, if_pos (by omega)]
                          · rw [if_neg hlt, if_neg (by omega)]
                    clear hO9 hk9 hg9 hA9 hf9 hd9 hcX hBX e1
                    go_roundg (M - (i + 1))
                    case measure => (have := HII.out; omega)
                    case rel => exact ⟨i + 1, some ⟨g9, 0, none⟩, cap9, by have := HII.out; omega, by go_num, rfl, HE.out⟩
                · have hie : M = i := by omega
                  obtain ⟨w20, hw20⟩ : ∃ w20, w20 = wr := ⟨_, rfl⟩
                  subst hw20
                  have HOA := hid (And.intro hO (And.intro hA hK))
                  have hnm : ¬ (i : Int) < (M : Int) := by omega
                  have HT20 := hid (hK.at HT19.out (fun h => by
                    have h1 := HGW.out tb h
                    have h2 := HTB12.out
                    have h3 := HK89.out.size
                    have h4 := HK910.out.size
                    have h5 := HK1012.out
                    omega))
                  have HY20 := hid (HY19.out.keep hK (fun b hb h => by
                    have h1 := HGW.out b h
                    have h2 := (HYM.out b hb).1
                    have h5 := HK1012.out
                    omega))
                  have t2 := HT20.out.cell 2 rfl
                  clear hi hil hO hA hK
                  go_wp2_with fail
                  subst hie
                  go_loopg [242] c.roots (fun rr s242 wr => ∃ i : Nat, i + rr = c.roots ∧ s242 = .int .i64 (i : Nat) ∧ Keeps [] w20 wr)
                  case atStart => exact ⟨0, by omega, rfl, Keeps.refl _ _⟩
                  case round =>
                    obtain ⟨i, hi, rfl, hK⟩ := hrel
                    by_cases hil : i < c.roots
                    · skip
                      have hiM : i < M := by have := HM.out.2; omega
                      obtain ⟨v, hv⟩ : ∃ v, v = fN i := ⟨_, rfl⟩
                      obtain ⟨gy, hy, hyc⟩ : ∃ g, yB = some ⟨g, 0, none⟩ ∧ wr.cell? ⟨g, i, none⟩ = some (.int .u64 v) := by
                        rcases (HY20.out.keep hK (by simp)).form with ⟨_, h⟩ | ⟨g, cur, h1, _, h2, h3⟩
                        · omega
                        · refine ⟨g, h1, ?_⟩
                          rw [h2.cell i (h3 i hil), hv, HFN.out.1, HPF.out.2.2.1, HPF.out.2.2.2.1, ← HLS.out.1, HWS.out.2, wsN_getDc hil]
                          show some (Value.int .u64 ((wtC Sn c 0 LS (fR i).toNat : Nat) : Int)) = some (Value.int .u64 ((wtC Sn c 0 LS (fW i).toNat : Nat) : Int))
                          rw [HFWR.out i hil]
                      obtain ⟨gn, hn, hnc⟩ : ∃ g, xn = some ⟨g, 0, none⟩ ∧ wr.cell? ⟨g, i, none⟩ = some (.int .u64 v) := by
                        rcases (HOA.out.1.keep hK (by simp)).form with ⟨_, h⟩ | ⟨g, cur, h1, _, h2, h3⟩
                        · omega
                        · refine ⟨g, h1, ?_⟩
                          rw [h2.cell i (h3 i hiM), hv]
                      subst hy
                      subst hn
                      have hii : (i : Int) < (c.roots : Int) := by omega
                      have hiMi : (i : Int) < (M : Int) := by omega
                      have t5 : (v != v) = false := by simp
                      have HII := hid (And.intro hi (And.intro hil hiM))
                      have HKK := hid hK
                      clear hi hil hiM hv hK
                      go_wp2_with fail
                      go_roundg (c.roots - (i + 1))
                      case measure => (have := HII.out; omega)
                      case rel => exact ⟨i + 1, by have := HII.out; omega, by go_num, HKK.out⟩
                    · have hir : ¬ (i : Int) < (c.roots : Int) := by omega
                      obtain ⟨w21, hw21⟩ : ∃ w21, w21 = wr := ⟨_, rfl⟩
                      subst hw21
                      have HK21 := hid hK
                      have HKB : Hid (Keeps (blkL xw) w12 w21) := ((HK19.out.mono (by simp)).trans HOA.out.2.2).trans (hK.mono (by simp))
                      have HCBW : Hid (cb ∉ blkL xw ∧ bb ∉ blkL xw ∧ ∀ b ∈ [p, a.d, a.s, a.k, a.m], b ∉ blkL xw) := by
                        have h1 := HK45.out.size
                        have h2 := HK56.out.size
                        have h3 := HZ4.out
                        refine ⟨fun h => ?_, fun h => ?_, fun b hb h => ?_⟩
                        · have := HGW.out cb h; omega
                        · have := HGW.out bb h; omega
                        · have := HGW.out b h
                          have := HDW.out b hb
                          omega
                      have HC21 := hid (HKB.out.at HC12.out HCBW.out.1)
                      have HB21 := hid (HKB.out.at HB12.out HCBW.out.2.1)
                      have HT21 := hid (hK.at HT20.out (by simp))
                      have HD21 : Hid (Dev w21 p a S1) := HP12.out.dev.keep HKB.out (HCBW.out.2.2 a.d (by simp)) (HCBW.out.2.2 a.s (by simp)) (HCBW.out.2.2 a.k (by simp)) (HCBW.out.2.2 a.m (by simp))
                      have HX2 : Hid (∀ j : Nat, F1 ≤ j → j < F1 + U1 → ∃ x : Nat, S1.now j = (x : Int) ∧ x < 18446744073709551616) := fun j h1 h2 => by
                        have h := HRDY.out.next (by show c.frm 1 + c.space ≤ 1000000; have := HFU.out.1; have := HFS.out.2.1; omega) (by rw [← HRC.out]; exact HCP.out)
                        rw [← HRC.out, ← HUS1.out] at h
                        exact h.wd j (by show c.frm 1 ≤ j; rw [← HFU.out.1]; exact h1) (by show j < c.frm 1 + U1; rw [← HFU.out.1]; exact h2)
                      have HOB2 : Hid (∀ w', Keeps [] w21 w' → ∀ (t X : Nat), LS[t]? = some X → Calls Tryz.prog 18 #[ptr a.d, cfgV c, bkV 1 U1 (.slice yB c.roots cB), .int .i64 (plC Sn c 0 LS t : Nat)] w' fun e w'' => e = .returned (.tuple #[obV (hdN (Sn.now X).toNat : Nat) (hdR (Sn.now X).toNat : Nat) (plC Sn c 0 LS t : Nat), .int .i64 0]) ∧ Keeps [] w' w'') := fun w' hk t X hx => by
                        have h1 := HCP.out.ob (u := us) (fun x hx => rcF_ob (ws := P.ws) (by rw [← HRC.out]; exact hx)) hx
                        rw [← HUS1.out] at h1
                        have h2 := (obW_some h1).2.1
                        have h3 := HFU.out
                        have h4 := HFS.out.2.1
                        have h5 : c.frm (1 - 0) = c.frm 1 := rfl
                        refine of_yes w' p a S1 (HD21.out.keep hk (by simp) (by simp) (by simp) (by simp)) c HO.out HN.out 1 (by omega) U1 h3.2.2.2 _ _ _ _ h1 (by omega) (fun j h6 h7 => HX2.out j (by omega) (by omega))
                      have c0 := HC21.out.cell 0 rfl
                      have c1 := HC21.out.cell 1 rfl
                      have c2 := HC21.out.cell 2 rfl
                      clear hi hil hK t2
                      go_wp2_with fail
                      refine (HFA.out _).mono ?_
                      rintro e w22 ⟨rfl, k22⟩
                      have HK22 := hid k22
                      clear k22 c0 c1 c2
                      go_wp2_with fail
                      have hp0 : F1 = plC Sn c 0 LS 0 := HFU.out.1
                      have HP0 : Hid (∀ t X : Nat, LS[t]? = some X → plC Sn c 0 LS t + (hdN (Sn.now X).toNat + 1) ≤ F1 + U1 ∧ plC Sn c 0 LS (t + 1) = plC Sn c 0 LS t + (hdN (Sn.now X).toNat + 1)) := fun t X hx => by
                        have h1 := plC_end (S := Sn) (c := c) (k := 0) hx
                        rw [← HUS1.out] at h1
                        have h2 := HFU.out.1
                        have h3 : c.frm (1 - 0) = c.frm 1 := rfl
                        exact ⟨by omega, plC_succ hx⟩
                      have HPK : Hid (plC Sn c 0 LS K = F1 + U1) := by
                        show c.frm 1 + szF Sn (LS.take K) = _
                        rw [HLS.out.2, List.take_length, ← HUS1.out, ← HFU.out.1]
                      have HPZ : Hid (F1 = plC Sn c 0 LS 0) := hp0
                      have e0 : IntKind.i64.wrap ((F1 : Int) + (U1 : Int)) = (F1 : Int) + (U1 : Int) := IntWalk.i64_in _ (by omega)
                      clear hp0
                      go_loopg [35, 36] K (fun rr s35 s36 wr => ∃ i : Nat, i + rr = K ∧ s35 = .int .i64 (i : Nat) ∧ s36 = .int .i64 (plC Sn c 0 LS i : Nat) ∧ Keeps [] w22 wr)
                      case atStart => exact ⟨0, by omega, rfl, by rw [← HPZ.out], Keeps.refl _ _⟩
                      case round =>
                        obtain ⟨i, hi, rfl, rfl, hK⟩ := hrel
                        have hKr := HK22.out.trans hK
                        have hCr := hKr.at HC21.out (by simp)
                        have hTr := hKr.at HT21.out (by simp)
                        have c0 := hCr.cell 0 rfl
                        have c1 := hCr.cell 1 rfl
                        have c2 := hCr.cell 2 rfl
                        have HCr := hid hCr
                        have HTr := hid hTr
                        have HKr := hid hKr
                        have HKK := hid hK
                        by_cases hil : i < K
                        · skip
                          obtain ⟨X, hXg⟩ : ∃ X, LS[i]? = some X := ⟨_, List.getElem?_eq_getElem (by have := HLS.out.2; omega)⟩
                          have hpx := HP0.out i X hXg
                          have hn64 : hdN (Sn.now X).toNat ≤ 64 := (obW_some (HCP.out.ob (u := us) (fun x hx => rcF_ob (ws := P.ws) (by rw [← HRC.out]; exact hx)) hXg)).2.2.2.2.1
                          have HOFi := HOB2.out
                          obtain ⟨pl, hpl⟩ : ∃ pl, pl = plC Sn c 0 LS i := ⟨_, rfl⟩
                          obtain ⟨nn, hnn⟩ : ∃ nn, nn = hdN (Sn.now X).toNat := ⟨_, rfl⟩
                          obtain ⟨rr', hrr'⟩ : ∃ r, r = hdR (Sn.now X).toNat := ⟨_, rfl⟩
                          have HOX : Hid (∀ w', Keeps [] w21 w' → Calls Tryz.prog 18 #[ptr a.d, cfgV c, bkV 1 U1 (.slice yB c.roots cB), .int .i64 (pl : Nat)] w' fun e w'' => e = .returned (.tuple #[obV (nn : Nat) (rr' : Nat) (pl : Nat), .int .i64 0]) ∧ Keeps [] w' w'') := fun w' hk => by
                            have h := HOB2.out w' hk i X hXg
                            rw [← hpl, ← hnn, ← hrr'] at h
                            exact h
                          rw [← hpl, ← hnn] at hpx
                          have HPS := hid hpx.2
                          have hpi : (pl : Int) < (F1 : Int) + (U1 : Int) := by have := hpx.1; omega
                          have hni : (nn : Int) ≤ 64 := by omega
                          have t1 : decide ((pl : Int) < (F1 : Int) + (U1 : Int)) = true := decide_eq_true hpi
                          rw [← hpl]
                          have e1 : IntKind.i64.wrap ((pl : Int) + ((nn : Int) + 1)) = (pl : Int) + ((nn : Int) + 1) := IntWalk.i64_in _ (by omega)
                          have e2 : IntKind.i64.wrap ((i : Int) + 1) = (i : Int) + 1 := IntWalk.i64_in _ (by omega)
                          have HSZ := hid (fun w => hsize_at w nn rr' (by omega))
                          have HII := hid (And.intro hi hil)
                          clear hi hil hn64 hXg hpx HOFi hpl hnn hrr' hK hKr hCr hTr
                          go_wp2_with fail
                          refine (HFA.out _).mono ?_
                          rintro e w23 ⟨rfl, k23⟩
                          have HK23 := hid k23
                          have hC3 := k23.at HCr.out (by simp)
                          have hT3 := k23.at HTr.out (by simp)
                          have HO3 := hid (HOX.out w23 (HKr.out.trans k23))
                          clear c0 c1 c2 k23
                          have c0 := hC3.cell 0 rfl
                          have c1 := hC3.cell 1 rfl
                          have c2 := hC3.cell 2 rfl
                          have t0 := hT3.cell 0 rfl
                          have t1' := hT3.cell 1 rfl
                          have t2 := hT3.cell 2 rfl
                          clear hC3 hT3
                          go_wp2_with fail
                          refine HO3.out.mono ?_
                          rintro e w24 ⟨rfl, k24⟩
                          have hO2 := At.new w24 (obO (nn : Nat) (rr' : Nat) (pl : Nat))
                          have o0 := hO2.cell 0 rfl
                          have o1 := hO2.cell 1 rfl
                          have HK24 := hid ((HK23.out.trans k24).alloc (obO (nn : Nat) (rr' : Nat) (pl : Nat)))
                          clear hO2 k24 c0 c1 c2 t0 t1' t2
                          go_wp2_with fail
                          refine (HSZ.out _).mono ?_
                          rintro e w25 ⟨rfl, k25⟩
                          have HK25 := hid (HK24.out.trans k25)
                          clear k25 o0 o1
                          go_wp2_with fail
                          go_roundg (K - (i + 1))
                          case measure => (have := HII.out; omega)
                          case rel => exact ⟨i + 1, by have := HII.out; omega, by go_num, by rw [HPS.out]; go_num, HKK.out.trans HK25.out⟩
                        · have hie : K = i := by omega
                          subst hie
                          have hpk := HPK.out
                          rw [hpk]
                          have t1 : decide ((F1 : Int) + (U1 : Int) < (F1 : Int) + (U1 : Int)) = false := decide_eq_false (by omega)
                          have hsame : ∀ ws, Keeps [] wr ws → Calls Tryz.prog 23 #[ptr a.d, cfgV c, bkV 0 us (.slice x c.roots cp), .slice xw M cw, ptr a.d, bkV 1 U1 (.slice yB c.roots cB), .slice xn M cn] ws fun e w' => e = .returned (.bool true) ∧ Keeps [] ws w' := fun ws hks => by
                            have hf1 : F1 = c.frm 1 := HFU.out.1
                            have hx1 : ∀ j : Nat, c.frm 0 ≤ j → j < c.frm 0 + us → ∃ x : Nat, S1.now j = (x : Int) ∧ x < 18446744073709551616 := fun j h1 h2 => by rw [HSM1.out j h1 h2]; exact HXn.out j h1 h2
                            have hx2 : ∀ j : Nat, c.frm 1 ≤ j → j < c.frm 1 + U1 → ∃ x : Nat, S1.now j = (x : Int) ∧ x < 18446744073709551616 := by rw [← hf1]; exact HX2.out
                            have hsam := HRDY.out.sam (T := S1) (by rw [← HRC.out]; exact HCP.out) HSM1.out
                            rw [← HRC.out, ← HUS1.out] at hsam
                            have hsam : SamI S1 S1 c 0 us 1 U1 LS (LS.map (wtC Sn c 0 LS)) := hsam
                            have hk20 := (HK21.out.trans hKr).trans hks
                            have hkd := HKr.out.trans hks
                            have hrA : Reads ws xw M (fun i => (((fA i).toNat : Nat) : Int)) := ((HOA.out.2.1.keep hk20 (by simp)).eq (g := fun i => (((fA i).toNat : Nat) : Int)) (fun j hj => by
                              rw [if_pos hj, HFN.out.2]
                              show (if (fW j).toNat ∈ LS then fW j else 0) = (((if (fW j).toNat ∈ LS then fW j else 0 : Int).toNat : Nat) : Int)
                              have h1 := HFW.out j hj
                              split <;> omega)).rd
                            have hrN : Reads ws xn M (fun i => (((fN i).toNat : Nat) : Int)) := ((HOA.out.1.keep hk20 (by simp)).eq (g := fun i => (((fN i).toNat : Nat) : Int)) (fun j hj => by
                              rw [HFN.out.1]
                              show ((wtC Sn c 0 LS (fW j).toNat : Nat) : Int) = ((((wtC Sn c 0 LS (fW j).toNat : Nat) : Int).toNat : Nat) : Int)
                              omega)).rd
                            refine same14_at ws p a S1 (HD21.out.keep hkd (by simp) (by simp) (by simp) (by simp)) p a S1 (HD21.out.keep hkd (by simp) (by simp) (by simp) (by simp)) c HO.out HN.out HN.out 0 us 1 U1 (by omega) (by omega) HFS.out.1 HFU.out.2.2.2 _ _ hx1 hx2 LS (LS.map (wtC Sn c 0 LS)) hsam (by have := HLS.out.2; omega) xw M cw (fun i => (fA i).toNat) (fun i => (fN i).toNat) hrA xn cn hrN (by omega) (fun i hi => ?_)
                            rw [HFN.out.1, HFN.out.2]
                            show PairOk LS (LS.map (wtC Sn c 0 LS)) (if (fW i).toNat ∈ LS then fW i else 0 : Int).toNat ((wtC Sn c 0 LS (fW i).toNat : Nat) : Int).toNat
                            rw [Int.toNat_natCast]
                            by_cases hm : (fW i).toNat ∈ LS
                            · rw [if_pos hm]
                              exact pair_went (.inr hm)
                            · rw [if_neg hm, wtC_no hm]
                              exact .inl ⟨rfl, rfl⟩
                          have HSF := hid hsame
                          clear hi hil hK hKr hCr hTr hpk hsame
                          go_wp2_with fail
                          refine (HFA.out _).mono ?_
                          rintro e w23 ⟨rfl, k23⟩
                          have hC3 := k23.at HCr.out (by simp)
                          have hT3 := k23.at HTr.out (by simp)
                          have hB3 := (HKr.out.trans k23).at HB21.out (by simp)
                          have HSB := hid (HSF.out w23 k23)
                          have HK23 := hid k23
                          clear c0 c1 c2 k23
                          have c0 := hC3.cell 0 rfl
                          have c1 := hC3.cell 1 rfl
                          have c2 := hC3.cell 2 rfl
                          have t0 := hT3.cell 0 rfl
                          have t1' := hT3.cell 1 rfl
                          have t2 := hT3.cell 2 rfl
                          have b0 := hB3.cell 0 rfl
                          have b1 := hB3.cell 1 rfl
                          have b2 := hB3.cell 2 rfl
                          clear hC3 hT3 hB3
                          go_wp2_with fail
                          refine HSB.out.mono ?_
                          rintro e wE ⟨rfl, kE⟩
                          have HEND : Hid (Below W.heap.size W wE) := by
                            have h1 : Keeps [] W w21 := HKW12.out.new HKB.out fun b hb => .inr (by
                              have h1 := (HGW.out b hb).1
                              have h2 := HKW5.out.size
                              have h3 := HK56.out.size
                              omega)
                            exact (((h1.trans HKr.out).trans HK23.out).trans kE).below (Nat.le_refl _) (by simp)
                          clear kE c0 c1 c2 t0 t1' t2 b0 b1 b2
                          go_wp2_with fail
                          go_ret
                          exact ⟨rfl, HEND.out⟩

theorem cheneyCopies_walk (l r s : Int) (y : Option Addr) (m cm : Nat) (z : Nat → Nat → Int) (y1 : Option Addr) (mn cn : Nat) (g : Nat → Int) (y2 : Option Addr) (mf cf : Nat) (h : Nat → Int) (W : World) (wl : (Lit.int .u16 l).wf = true) (wr : (Lit.int .u16 r).wf = true) (ws : (Lit.int .u16 s).wf = true)
    (R2 : m * 2 = 0 ∨ ∃ b off, y = some ⟨b, off, none⟩ ∧ b < W.heap.size ∧ ∀ i j, i < m → j < 2 → W.cell? ⟨b, off + (i * 2 + j), none⟩ = some (.int ((fun j => if j = 0 then IntKind.u8 else IntKind.u8) j) (z i j)) ∧ (Lit.int ((fun j => if j = 0 then IntKind.u8 else IntKind.u8) j) (z i j)).wf = true) (hm : m ≤ maxLen)
    (R : ReadsV (Value.int .u16) W y1 mn g) (hg : ∀ i, i < mn → (Lit.int .u16 (g i)).wf = true) (hmn : mn ≤ maxLen)
    (R3 : ReadsV (Value.int .u16) W y2 mf h) (hh : ∀ i, i < mf → (Lit.int .u16 (h i)).wf = true) (hmf : mf ≤ maxLen) :
    Calls Tryz.prog 3 #[.agg #[.int .u16 l, .int .u16 r, .int .u16 s], .slice y m cm, .slice y1 mn cn, .slice y2 mf cf] W fun e w' => e = .returned (.bool true) ∧ Below W.heap.size W w' := by
  obtain ⟨l, rfl, hl⟩ := c3_open wl
  obtain ⟨r, rfl, hr⟩ := c3_open wr
  obtain ⟨s, rfl, hs⟩ := c3_open ws
  exact ccopies_small colC_is l r s y m cm _ _ y1 mn cn _ y2 mf cf _ W hl hr hs (readsH_of R2) (by unfold maxLen at hm; omega) (reads16_any R hg) (by unfold maxLen at hmn; omega) (reads16_any R3 hh) (by unfold maxLen at hmf; omega)

end Go.Proofs.YtbalmmnggfgpkaaGreat

