/- The walk of the law CheneyRound, over what is asked of a collector's functions. -/
import Derived.Test.YtbalmmnggfgpkaaGreatAwk14
import Derived.Test.YtbalmmnggfgpkaaGreatTwo
import Derived.Test.YtbalmmnggfgpkaaGreatPik
import Derived.Test.YtbalmmnggfgpkaaGreatApp
import Derived.Test.YtbalmmnggfgpkaaGreatCkl
import Derived.Test.YtbalmmnggfgpkaaGreatSam
import Derived.BigQuiet
import Derived.Deep.RegionHeld3
namespace Go.Proofs.YtbalmmnggfgpkaaGreat
open Go.RowKit Go.OpenShut

theorem wsN_map {n : Nat} {f : Nat → Int} (g : Nat → Nat) : (wsN n f).map g = wsN n fun i => ((g (f i).toNat : Nat) : Int) := by
  unfold wsN
  rw [List.map_map]
  refine List.map_congr_left fun i _ => ?_
  show g (f i).toNat = ((g (f i).toNat : Nat) : Int).toNat
  rw [Int.toNat_natCast]
theorem wsN_getD {n : Nat} {f : Nat → Int} {i : Nat} (h : i < n) : (wsN n f).getD i 0 = (f i).toNat := by simp [wsN, List.getD, h]

/-- The copies may be copied: another collector, over them. -/
theorem CP.Ok.next {P : CP} (h : P.Ok) {S1 : DS} (hC : Cpd P.S S1 P.c P.k P.LS) : CP.Ok ⟨P.p, P.a, S1, P.c, 1 - P.k, szF P.S P.LS, P.ws.map (wtC P.S P.c P.k P.LS), P.rs.map (wtC P.S P.c P.k P.LS)⟩ := by
  have h1 := frm_le h.c.small (show 1 - P.k ≤ 2 by omega)
  have h2 := h.c.small.2.2
  have hpre : P.Pre P.LS := ⟨[], by rw [List.append_nil]⟩
  have hw : ∀ l : List Nat, ∀ v ∈ l.map (wtC P.S P.c P.k P.LS), v < 9223372036854775808 := fun l v hv => by
    obtain ⟨x, _, rfl⟩ := List.mem_map.1 hv
    have := wt_few h hpre x
    omega
  exact ⟨h.c, h.n, by show 1 - P.k ≤ 1; omega, h.rdy.sz, h.rdy.next (by omega) hC, hw _, hw _, by rw [List.length_map]; exact h.few, by rw [List.length_map]; exact h.root⟩

set_option maxRecDepth 100000 in
set_option maxHeartbeats 8000000 in
theorem cround_small {Col : CP → World → Nat → List Nat → Nat → Prop} (C : ColK Col) (l r s : Nat) (y0 : Option Addr) (m cm : Nat) (R V : Nat → Nat) (y1 : Option Addr) (mn cn : Nat) (G : Nat → Nat) (y2 : Option Addr) (mf cf : Nat) (H : Nat → Nat) (W : World) (hl : l ≤ 65535) (hrr : r ≤ 65535) (hs : s ≤ 65535)
    (hy : ReadsH W y0 m R V) (hm : m ≤ 9223372036854775807) (hg : ReadsW W y1 mn G) (hmn : mn ≤ 9223372036854775807) (hh : ReadsW W y2 mf H) (hmf : mf ≤ 9223372036854775807) :
    Calls Tryz.prog 5 #[c3V l r s, .slice y0 m cm, .slice y1 mn cn, .slice y2 mf cf] W fun e w' => e = .returned (.bool true) ∧ Below W.heap.size W w' := by
  have hmi : (m : Int) ≤ 9223372036854775807 := by omega
  have hmni : (mn : Int) ≤ 9223372036854775807 := by omega
  have hmfi : (mf : Int) ≤ 9223372036854775807 := by omega
  have HG := hid hg
  have HH := hid hh
  have HY := hid hy
  clear hg hh hy
  go_enter Tryz.func5, Tryz.ntmps5
  go_wp2_with fail
  have h_xb := At.new W (c3O l r s)
  have K0 := (Keeps.refl [] W).alloc (c3O l r s)
  obtain ⟨xb, hq_xb⟩ : ∃ q, q = W.heap.size := ⟨_, rfl⟩
  rw [← hq_xb]
  rw [← hq_xb] at h_xb
  refine (awake14_any C _).mono ?_
  rintro e w1 ⟨rfl, hb1⟩
  have k1 := Go.Proofs.YtbalmmnggfgpkaaGreat.Below.keeps hb1 []
  have K1 := K0.trans k1
  have g_xb := k1.at h_xb (by simp)
  clear hb1 k1 K0 h_xb hq_xb
  have c0 : w1.cell? ⟨xb, 0, none⟩ = some (.int .u16 l) := g_xb.cell 0 rfl
  have c1 : w1.cell? ⟨xb, 1, none⟩ = some (.int .u16 r) := g_xb.cell 1 rfl
  have c2 : w1.cell? ⟨xb, 2, none⟩ = some (.int .u16 s) := g_xb.cell 2 rfl
  by_cases hm30 : m ≤ 25
  case neg =>
    have g2 : (25 : Int) < (m : Int) := by omega
    have g3 : decide ((25 : Int) < (m : Int)) = true := decide_eq_true g2
    go_wp2_with fail
    go_ret
    exact ⟨rfl, K1.below (Nat.le_refl _) (by simp)⟩
  have hm2 : (m : Int) ≤ 25 := by omega
  have hm3 : decide ((25 : Int) < (m : Int)) = false := decide_eq_false (by omega)
  clear hmi
  by_cases hn60 : mn ≤ 60
  case neg =>
    have g2 : (60 : Int) < (mn : Int) := by omega
    have g3 : decide ((60 : Int) < (mn : Int)) = true := decide_eq_true g2
    go_wp2_with fail
    go_ret
    exact ⟨rfl, K1.below (Nat.le_refl _) (by simp)⟩
  have h2_mn : (mn : Int) ≤ 60 := by omega
  have h3_mn : decide ((60 : Int) < (mn : Int)) = false := decide_eq_false (by omega)
  clear hmni
  by_cases hf10 : mf ≤ 10
  case neg =>
    have g2 : (10 : Int) < (mf : Int) := by omega
    have g3 : decide ((10 : Int) < (mf : Int)) = true := decide_eq_true g2
    go_wp2_with fail
    go_ret
    exact ⟨rfl, K1.below (Nat.le_refl _) (by simp)⟩
  have h2_mf : (mf : Int) ≤ 10 := by omega
  have h3_mf : decide ((10 : Int) < (mf : Int)) = false := decide_eq_false (by omega)
  clear hmfi
  have hok := mk3_ok l r s
  obtain ⟨c, hc⟩ : ∃ c, c = mk3 l r s := ⟨_, rfl⟩
  rw [← hc] at hok
  obtain ⟨os, hos⟩ : ∃ os, os = fillL c.space (hdsL R V m) := ⟨_, rfl⟩
  have HLI := hid (linked_at w1 l r s hl hrr hs y0 m cm R V (HY.out.keep K1 (by simp)) (by omega) y1 mn cn G (HG.out.keep K1 (by simp)) (by omega) 0 (by omega) c hc os hos)
  clear hc
  go_wp2_with fail
  refine HLI.out.mono ?_
  rintro e w3 ⟨p, a, u, S, x, cp, y, cy, B, rfl, hn, hP, hub, hF, hU, hI, ⟨b1, b2, b3, b4, b5⟩, hB, hk3⟩
  have K3 := K1.trans hk3
  have HO := hid hok
  have HN := hid hn
  obtain ⟨L, hL⟩ : ∃ L, L = os.length := ⟨_, rfl⟩
  have hLm : L ≤ m := by rw [hL, hos]; exact fillL_len _ _ _ _
  have hLi : (L : Int) ≤ 30 := by omega
  have HL := hid hL
  rw [← hL] at hI ⊢
  obtain ⟨us, hus⟩ : ∃ us, us = lenL os := ⟨_, rfl⟩
  have HUS := hid hus
  rw [← hus]
  have husb : us ≤ c.space := by rw [hus]; exact hF.fits
  have hsp : c.space ≤ 4096 := hok.small.2.2
  have husi : (us : Int) ≤ 4096 := by omega
  have hfr := frm_le hok.small (show 0 ≤ 2 by omega)
  have hfs : c.frm 0 + c.space ≤ a.n := by rw [← hn]; exact frm_space 0 (by omega)
  have hwd := hF.wd hsp (lnkG_wd c os G mn 0 (by omega))
  have HX : Hid (∀ j : Nat, c.frm 0 ≤ j → j < c.frm 0 + us → ∃ x : Nat, S.now j = (x : Int) ∧ x < 18446744073709551616) := fun j h1 h2 => hwd.sp j h1 (by omega)
  have HFS := hid (And.intro husb (And.intro hsp (And.intro hfs hfr)))
  have HP := hid hP
  have HI := hid hI
  have HWB : Hid (∀ b ∈ [p, a.d, a.s, a.k, a.m], W.heap.size ≤ b ∧ b < w3.heap.size) := fun b hb' => by
    have h1 := K1.size
    have h2 := hP.pow.lt
    have h3 := hP.dev.dev.lt
    have h4 := hP.dev.now.lt
    have h5 := hP.dev.kept.lt
    have h6 := hP.dev.map.lt
    simp only [List.mem_cons, List.not_mem_nil, or_false] at hb'
    omega
  have HUB := hid hub
  have HU := hid hU
  have HD4 : Hid (a.d < w3.heap.size ∧ a.s < w3.heap.size ∧ a.k < w3.heap.size ∧ a.m < w3.heap.size) := ⟨hP.dev.dev.lt, hP.dev.now.lt, hP.dev.kept.lt, hP.dev.map.lt⟩
  have HK3 := hid K3
  have HH3 := hid (HH.out.keep K3 (by simp))
  have HFF := hid hF
  clear hm30 hn60 hm2 hm3 h2_mn h3_mn h2_mf h3_mf hos hL hLm hus husb hsp hfs hfr hwd hF hP hub hI hU hB b1 b2 b3 b4 b5 hk3 K1 c0 c1 c2 HLI hok hn K3 g_xb
  go_upto_region 8 with fail
  have hC4 := (At.new w3 (cfgO c)).alloc (bkO 0 (us : Nat) (.slice x c.roots cp))
  have hB4 := At.new (w3.alloc (cfgO c)) (bkO 0 (us : Nat) (.slice x c.roots cp))
  have k34 := ((Keeps.refl [] w3).alloc (cfgO c)).alloc (bkO 0 (us : Nat) (.slice x c.roots cp))
  simp only [World.size_alloc] at hB4
  obtain ⟨cb, hcb⟩ : ∃ q, q = w3.heap.size := ⟨_, rfl⟩
  obtain ⟨bb, hbb⟩ : ∃ q, q = w3.heap.size + 1 := ⟨_, rfl⟩
  obtain ⟨w4, hw4⟩ : ∃ w4, w4 = (w3.alloc (cfgO c)).alloc (bkO 0 (us : Nat) (.slice x c.roots cp)) := ⟨_, rfl⟩
  have hz4 : w4.heap.size = w3.heap.size + 2 := by rw [hw4]; simp
  rw [← hw4] at hC4 hB4 k34
  first | rw [← hw4] | skip
  rw [← hbb, ← hcb]
  rw [← hcb] at hC4
  rw [← hbb] at hB4
  have HZ4 : Hid (cb = w3.heap.size ∧ bb = cb + 1 ∧ w4.heap.size = cb + 2) := ⟨by omega, by omega, by omega⟩
  have HP4 := hid (HP.out.keep0 k34)
  have HC4 := hid hC4
  have HB4 := hid hB4
  have HK4 := hid (HK3.out.trans k34)
  have HK34 := hid k34
  have HI4 := hid (HI.out.keep k34 (by simp))
  have HH4 := hid (HH3.out.keep k34 (by simp))
  clear hw4 hz4 hcb hbb hC4 hB4 k34
  have HPB : Hid (∀ j, j < L → c.frm 0 + posL os j ≤ 100000) := fun j hj => by
    have h1 := posN_end (l := os) (i := j) (by have := HL.out; omega)
    have h2 := HUS.out
    have h3 := HFS.out
    omega
  have HMF : Hid (mf ≤ 10) := hf10
  clear hf10
  have han : a.n ≤ 17592186044416 := by
    have h1 := HP4.out.dev.few
    have h2 := a.n8
    omega
  have HAN := hid han
  clear han
  obtain ⟨f5, hf5⟩ : ∃ f5 : Nat → Int, f5 = fun i => ((pkV H (fun j => c.frm 0 + posL os j) L i : Nat) : Int) := ⟨_, rfl⟩
  have HF5 : Hid (∀ i, i < mf → 0 ≤ f5 i ∧ f5 i ≤ 100000) := fun i hi => by
    have hh := HH4.out
    obtain ⟨b, off, _, _, hcl⟩ := hh.resolve_left (by omega)
    have h1 := pkV_le (G := H) (P := fun j => c.frm 0 + posL os j) (n := L) (i := i) (hcl i hi).2 HPB.out
    rw [hf5]
    show 0 ≤ ((pkV H (fun j => c.frm 0 + posL os j) L i : Nat) : Int) ∧ ((pkV H (fun j => c.frm 0 + posL os j) L i : Nat) : Int) ≤ 100000
    omega
  obtain ⟨fR, hfR⟩ : ∃ fR : Nat → Int, fR = fun j => lnkG c os G mn 0 (refL os + j) := ⟨_, rfl⟩
  have hfR0 : ∀ j, 0 ≤ fR j ∧ fR j < 9223372036854775808 := fun j => by
    obtain ⟨v, h1, h2⟩ := lnkG_low c os G mn (by have := HFS.out; have := HUS.out; omega) (refL os + j)
    rw [hfR]
    show 0 ≤ lnkG c os G mn 0 (refL os + j) ∧ lnkG c os G mn 0 (refL os + j) < 9223372036854775808
    rw [h1]
    omega
  have HFR := hid (And.intro hfR hfR0)
  have hrx : ∀ w', Keeps [] w4 w' → Reads w' x c.roots fR := fun w' hk => by
    rw [hfR]
    exact (HU.out.rd).keep (HK34.out.trans hk) (by simp)
  have HRX := hid hrx
  have hro : c.roots ≤ 16 := HO.out.2.1
  have HRO := hid hro
  have hroi : (c.roots : Int) ≤ 16 := by omega
  have b2 := HB4.out.cell 2 rfl
  clear hfR hfR0 hrx hro
  go_wp2_with fail
  refine (cloneU_any w4 x c.roots cp fR (HRX.out w4 (Keeps.refl _ _)) (by have := HRO.out; omega)).mono ?_
  rintro e w5 ⟨xr, cxr, rfl, hO5, k45⟩
  have HO5 := hid hO5
  have HK45 := hid k45
  clear hO5 k45 b2
  go_wp2_with fail
  refine (pick_at w5 y y2 L cy mf cf H (fun j => c.frm 0 + posL os j) (HH4.out.keep HK45.out (by simp)) (HI4.out.keep HK45.out (by simp)).reads HPB.out (by have := HMF.out; omega) (by omega)).mono ?_
  rintro e w6 ⟨x6, cp6, rfl, hO6, k56⟩
  rw [← hf5] at hO6
  have HO6 := hid hO6
  have HR6 := hid (HO5.out.keep k56 (by simp))
  have HK46 := hid (HK45.out.trans k56)
  have hrm : c.roots + mf ≤ 100000 := by have := HRO.out; have := HMF.out; omega
  have hB6 : w4.heap.size ≤ w6.heap.size := (HK45.out.trans k56).size
  have HHB := hid (And.intro hrm hB6)
  clear hO6 k56 hf5 hrm hB6 HO5
  go_upto_region 9 with (at_builtin; refine app2U_list rfl _ _ rfl w4.heap.size w5.heap.size xr x6 cxr c.roots cp6 mf fR f5 rfl rfl HR6.out HO6.out HHB.out.1 HHB.out.2 ?_; intro xw cw w7 hO7 hk7 hx7)
  obtain ⟨fW, hfW⟩ : ∃ fW : Nat → Int, fW = fun i => if i < c.roots then fR i else f5 (i - c.roots) := ⟨_, rfl⟩
  rw [← hfW] at hO7
  have HFW : Hid (∀ i, i < c.roots + mf → 0 ≤ fW i ∧ fW i < 9223372036854775808) := fun i hi => by
    rw [hfW]
    show 0 ≤ (if i < c.roots then fR i else f5 (i - c.roots)) ∧ (if i < c.roots then fR i else f5 (i - c.roots)) < 9223372036854775808
    by_cases h : i < c.roots
    · rw [if_pos h]; exact HFR.out.2 i
    · rw [if_neg h]
      have := HF5.out (i - c.roots) (by omega)
      omega
  have HO7 := hid hO7
  have HK47 : Hid (Keeps [] w4 w7) := HK46.out.new hk7 fun b hb => .inr (HR6.out.ge b hb).1
  clear hO7 hk7 hx7 hfW HR6 HO6
  obtain ⟨P, hPq⟩ : ∃ P : CP, P = ⟨p, a, S, c, 0, us, wsN (c.roots + mf) fW, wsN c.roots fR⟩ := ⟨_, rfl⟩
  have hPf : P.p = p ∧ P.a = a ∧ P.S = S ∧ P.c = c ∧ P.k = 0 ∧ P.us = us ∧ P.ws.length = c.roots + mf ∧ P.rs.length = c.roots := by rw [hPq]; exact ⟨rfl, rfl, rfl, rfl, rfl, rfl, wsN_len _ _, wsN_len _ _⟩
  have hPok : P.Ok := by
    rw [hPq, HFR.out.1, HUS.out]
    refine ok14 p HO.out HN.out HFF.out (nmdP_start S c os) _ (fun v hv => ?_) (by rw [wsN_len]; have := HMF.out; have := HRO.out; omega)
    obtain ⟨i, hi, rfl⟩ := List.mem_map.1 hv
    have h1 := HFW.out i (List.mem_range.1 hi)
    omega
  have hws : P.ws = wsN (c.roots + mf) fW ∧ P.rs = wsN c.roots fR := by rw [hPq]; exact ⟨rfl, rfl⟩
  have hnew := C.new P w7 hPok (by rw [hPf.1, hPf.2.1, hPf.2.2.1]; exact (HP4.out.keep0 HK47.out).dev) x cp (by rw [hws.2]; exact reads_ws (HRX.out w7 HK47.out) fun j _ => (HFR.out.2 j).1) xw cw (by rw [hws.1]; exact reads_ws HO7.out.rd fun j hj => (HFW.out j hj).1)
  rw [hPf.2.1, hPf.2.2.2.1, hPf.2.2.2.2.1, hPf.2.2.2.2.2.1, hPf.2.2.2.2.2.2.1, hPf.2.2.2.2.2.2.2] at hnew
  have HNW : Hid (Calls Tryz.prog 15 #[ptr a.d, cfgV c, bkV 0 us (.slice x c.roots cp), .slice xw (c.roots + mf) cw] w7 fun e w'' => ∃ xq T, e = .returned (ptr xq) ∧ Col P w'' xq T 0 ∧ (∀ b ∈ T, w7.heap.size ≤ b) ∧ Keeps [] w7 w'') := hnew
  have HPF := hid hPf
  have HPOK := hid hPok
  have HWS := hid hws
  have HC7 := hid (HK47.out.at HC4.out (by simp))
  have HB7 := hid (HK47.out.at HB4.out (by simp))
  have c0 := HC7.out.cell 0 rfl
  have c1 := HC7.out.cell 1 rfl
  have c2 := HC7.out.cell 2 rfl
  have b0 := HB7.out.cell 0 rfl
  have b1 := HB7.out.cell 1 rfl
  have b2 := HB7.out.cell 2 rfl
  clear hPq hPf hPok hws hnew
  go_wp2_with fail
  refine HNW.out.mono ?_
  rintro e w8 ⟨yb, Ty, rfl, hCy, hTy, k78⟩
  have HLD : Hid (∀ b ∈ [P.p, P.a.d, P.a.s, P.a.k, P.a.m], b < w4.heap.size ∧ W.heap.size ≤ b) := fun b h => by
    rw [HPF.out.1, HPF.out.2.1] at h
    have h1 := HWB.out b h
    have h3 := HK34.out.size
    omega
  have HTD : Hid (∀ b, w4.heap.size ≤ b → b ∉ [P.p, P.a.d, P.a.s, P.a.k, P.a.m]) := fun b hb h => by have := (HLD.out b h).1; omega
  have hP8 : Pw w8 P.p P.a (-1) u P.S := by rw [HPF.out.1, HPF.out.2.1, HPF.out.2.2.1]; exact HP4.out.keep0 (HK47.out.trans k78)
  have HRY := hid (C.run hCy hP8 (by have := HUB.out; omega) P.at_start (fun b hb => HTD.out b (Nat.le_trans HK47.out.size (hTy b hb))) (by unfold CP.N; omega))
  have HTY := hid hTy
  have HK78 := hid k78
  clear hCy hTy k78 hP8 HNW c0 c1 c2 b0 b1 b2
  go_wp2_with fail
  refine HRY.out.mono ?_
  rintro e w9 ⟨T9, u9, S1, rfl, hC9, hP9, hat9, _, hu9, hT9, k89⟩
  have hoff : ∀ b, b < w7.heap.size → b ∉ [P.p, P.a.d, P.a.s, P.a.k, P.a.m] → b ∉ Ty ++ [P.p, P.a.s, P.a.k, P.a.m] := fun b hb hd h => by
    rcases List.mem_append.1 h with h | h
    · have := HTY.out b h; omega
    · exact hd (by simp only [List.mem_cons, List.not_mem_nil, or_false] at h ⊢; rcases h with h | h | h | h <;> simp [h])
  have hcd : cb ∉ [P.p, P.a.d, P.a.s, P.a.k, P.a.m] := fun h => by
    rw [HPF.out.1, HPF.out.2.1] at h
    have h3 := (HWB.out cb h).2
    have h4 := HZ4.out
    omega
  have HC9 := hid (k89.at (HK78.out.at HC7.out (by simp)) (hoff cb HC7.out.lt hcd))
  have HO9 := hid ((HO7.out.keep HK78.out (by simp)).keep k89 (fun b hb => hoff b (HO7.out.ge b hb).2 (HTD.out b (HO7.out.ge b hb).1)))
  have hcpd := CP.fin hat9
  have HK9 : Hid (Keeps [] W w9) := (((HK4.out.trans HK47.out).trans HK78.out).new k89 fun b hb => .inr (by
    rcases List.mem_append.1 hb with h | h
    · exact Nat.le_trans (HK4.out.trans HK47.out).size (HTY.out b h)
    · exact (HLD.out b (by simp only [List.mem_cons, List.not_mem_nil, or_false] at h ⊢; rcases h with h | h | h | h <;> simp [h])).2))
  have HY9 := hid (And.intro hC9 (And.intro hP9 (And.intro hcpd hu9)))
  have HZ79 : Hid (w7.heap.size ≤ w9.heap.size) := Nat.le_trans HK78.out.size k89.size
  obtain ⟨U1, hU1⟩ : ∃ U1, U1 = szF P.S P.LS := ⟨_, rfl⟩
  have hcsN : P.cs P.N = P.LS := P.cs_end (by unfold CP.N; omega)
  have hbl := C.block hC9
  rw [hcsN, ← hU1, HPF.out.2.2.2.2.1, HPF.out.2.2.2.2.2.2.2] at hbl
  have HBL := hid hbl
  have hwnt := fun (w' : World) (hk : Keeps [] w9 w') (v : Nat) (hv : v < 9223372036854775808) => C.went (C.keep hC9 hk (by simp)) v hv
  rw [hcsN] at hwnt
  have HWN := hid hwnt
  have HU1 := hid hU1
  clear hC9 hP9 hat9 hu9 hT9 k89 hoff hcd hcpd hU1 hcsN hbl hwnt HRY
  go_wp2_with fail
  refine HBL.out.mono ?_
  rintro e w10 ⟨yB, cB, rfl, hOB, k910⟩
  have HOB := hid hOB
  have HK10 := hid k910
  clear hOB k910 HBL
  go_upto_region 13 with fail
  have hX11 := At.new w10 (bkO 1 (U1 : Nat) (.slice yB c.roots cB))
  have k1011 := (Keeps.refl [] w10).alloc (bkO 1 (U1 : Nat) (.slice yB c.roots cB))
  obtain ⟨tb, htb⟩ : ∃ q, q = w10.heap.size := ⟨_, rfl⟩
  obtain ⟨w11, hw11⟩ : ∃ w11, w11 = w10.alloc (bkO 1 (U1 : Nat) (.slice yB c.roots cB)) := ⟨_, rfl⟩
  rw [← hw11] at hX11 k1011
  first | rw [← hw11] | skip
  rw [← htb] at hX11 ⊢
  have HT11 := hid hX11
  have HK11 := hid (HK10.out.trans k1011)
  have HK1011 := hid k1011
  have HO11 := hid ((HO9.out.keep HK10.out (by simp)).keep k1011 (by simp))
  have HTBL : Hid (w9.heap.size ≤ tb) := by show _ ≤ _; rw [htb]; exact HK10.out.size
  have hmwi : (c.roots : Int) + (mf : Int) ≤ 30 := by have := HRO.out; have := HMF.out; omega
  obtain ⟨M, hM⟩ : ∃ M : Nat, M = c.roots + mf := ⟨_, rfl⟩
  have HM := hid hM
  rw [← hM] at HO11 HFW ⊢
  have hMi : (M : Int) ≤ 30 := by omega
  clear hw11 htb hX11 k1011 hM hmwi
  go_wp2_with fail
  go_loopg [16, 70] M (fun rr s16 s70 wr => ∃ (i : Nat) (xx : Option Addr) (cc : Nat), i + rr = M ∧ s70 = .int .i64 (i : Nat) ∧ s16 = .slice xx i cc ∧ OwnU wr w11.heap.size xx cc i (fun j => ((wtC P.S P.c P.k P.LS (fW j).toNat : Nat) : Int)) ∧ Keeps [] w11 wr)
  case atStart => exact ⟨0, none, 0, by omega, rfl, rfl, ownU_nil _ _ _, Keeps.refl _ _⟩
  case round =>
    obtain ⟨i, xx, cc, hi, rfl, rfl, hO, hK⟩ := hrel
    by_cases hil : i < M
    · obtain ⟨gw, hxw, hgl, hgc⟩ : ∃ g, xw = some ⟨g, 0, none⟩ ∧ g < w11.heap.size ∧ ∀ j, j < M → w11.cell? ⟨g, j, none⟩ = some (.int .u64 (fW j)) := by
        rcases HO11.out.form with ⟨_, h⟩ | ⟨g, cur, h1, _, h2, h3⟩
        · omega
        · exact ⟨g, h1, h2.lt, fun j hj => h2.cell j (h3 j hj)⟩
      subst hxw
      obtain ⟨v, hv⟩ : ∃ v : Nat, v = (fW i).toNat := ⟨_, rfl⟩
      have hvf := HFW.out i hil
      have d0 : wr.cell? ⟨gw, i, none⟩ = some (.int .u64 (v : Nat)) := by
        rw [hK.cell hgl (by simp), hgc i hil, hv]
        congr 2
        omega
      obtain ⟨t, ht⟩ : ∃ t : Nat, t = wtC P.S P.c P.k P.LS v := ⟨_, rfl⟩
      have htb : t ≤ 100000 := by rw [ht]; exact wt_few HPOK.out ⟨[], by rw [List.append_nil]⟩ v
      have hwn := HWN.out wr (HK11.out.trans hK) v (by omega)
      rw [← ht] at hwn
      have HW1 := hid hwn
      have HII := hid (And.intro hi (And.intro hil (And.intro hv ht)))
      have HOI := hid (And.intro hO hK)
      have hii : (i : Int) < (M : Int) := by omega
      have hi5 : i ≤ 100000 := by omega
      have e1 : IntKind.u64.wrap (t : Int) = (t : Int) := IntWalk.u64_in _ (by omega)
      clear hi hil hO hK hgl hgc hv hvf ht htb hwn
      go_wp2_with fail
      refine HW1.out.mono ?_
      rintro e w2 ⟨rfl, k2⟩
      have hcX := (At.new w2 (.cells #[.int .u64 (t : Nat)] 40)).cell 0 rfl
      have k3 := k2.alloc (.cells #[.int .u64 (t : Nat)] 40)
      have HOX := hid (HOI.out.1.keep k3 (by simp))
      have hBX : w11.heap.size ≤ (w2.alloc (.cells #[.int .u64 (t : Nat)] 40)).heap.size := Nat.le_trans HOI.out.2.size k3.size
      have HK3 := hid k3
      clear k2 k3 d0
      go_wp2_with (at_builtin; refine appU_many rfl _ _ rfl w11.heap.size xx cc i _ rfl HOX.out _ _ (t : Nat) rfl hcX hi5 hBX ?_; intro g9 cap9 w9' hO9' hk9' hg9')
      have HE : Hid (OwnU w9' w11.heap.size (some ⟨g9, 0, none⟩) cap9 (i + 1) (fun j => ((wtC P.S P.c P.k P.LS (fW j).toNat : Nat) : Int)) ∧ Keeps [] w11 w9') :=
        ⟨hO9'.eq (fun j hj => by
          unfold put
          by_cases hji : j = i
          · rw [if_pos hji, hji, ← HII.out.2.2.1, HII.out.2.2.2]
          · rw [if_neg hji]), (HOI.out.2.trans HK3.out).new hk9' (fun b hb => .inr (HOI.out.1.ge b hb).1)⟩
      clear hO9' hk9' hg9' hcX hBX e1
      go_roundg (M - (i + 1))
      case measure => (have := HII.out; omega)
      case rel => exact ⟨i + 1, some ⟨g9, 0, none⟩, cap9, by have := HII.out; omega, by go_num, rfl, HE.out⟩
    · have hie : M = i := by omega
      subst hie
      obtain ⟨w12, hw12⟩ : ∃ w12, w12 = wr := ⟨_, rfl⟩
      subst hw12
      have HO12 := hid hO
      have HK12 := hid hK
      have HK912 := hid (HK11.out.trans hK)
      have hPd : Pw w12 p a (-1) u9 S1 := by
        have h := HY9.out.2.1.keep0 (HK11.out.trans hK)
        rw [HPF.out.1, HPF.out.2.1] at h
        exact h
      have HPd := hid hPd
      clear hi hil hO hK hPd
      go_wp2_with fail
      refine (words_at w12 p a S1 HPd.out.dev).mono ?_
      rintro e w13 ⟨v13, rfl, hv13, k13⟩
      obtain ⟨g13, cap13, rfl, _, _, _, hR13⟩ := hv13.reads
      have HR13 := hid hR13
      have HK13 := hid k13
      clear hv13 hR13 k13
      go_wp2_with fail
      refine (cloneU_any w13 _ a.n cap13 S1.now HR13.out HAN.out).mono ?_
      rintro e w14 ⟨xC, cC, rfl, hOC, k14⟩
      have HOC := hid hOC
      have HK1214 := hid (HK13.out.trans k14)
      have HK914 := hid (HK912.out.trans (HK13.out.trans k14))
      have HP14 := hid (HPd.out.keep0 (HK13.out.trans k14))
      clear hOC k14
      obtain ⟨fN, hfN⟩ : ∃ fN : Nat → Int, fN = fun j => ((wtC P.S P.c P.k P.LS (fW j).toNat : Nat) : Int) := ⟨_, rfl⟩
      obtain ⟨fB, hfB⟩ : ∃ fB : Nat → Int, fB = fun j => ((wtC P.S P.c P.k P.LS (fR j).toNat : Nat) : Int) := ⟨_, rfl⟩
      obtain ⟨P2, hP2q⟩ : ∃ P2 : CP, P2 = ⟨P.p, P.a, S1, P.c, 1 - P.k, szF P.S P.LS, P.ws.map (wtC P.S P.c P.k P.LS), P.rs.map (wtC P.S P.c P.k P.LS)⟩ := ⟨_, rfl⟩
      have hok2 : P2.Ok := by rw [hP2q]; exact HPOK.out.next HY9.out.2.2.1
      have hf2 : P2.p = p ∧ P2.a = a ∧ P2.S = S1 ∧ P2.c = c ∧ P2.k = 1 ∧ P2.us = U1 ∧ P2.ws = wsN M fN ∧ P2.rs = wsN c.roots fB := by
        rw [hP2q]
        refine ⟨HPF.out.1, HPF.out.2.1, rfl, HPF.out.2.2.2.1, ?_, HU1.out.symm, ?_, ?_⟩
        · show 1 - P.k = 1
          rw [HPF.out.2.2.2.2.1]
        · show P.ws.map _ = _
          rw [HWS.out.1, ← HM.out, wsN_map, hfN]
        · show P.rs.map _ = _
          rw [HWS.out.2, wsN_map, hfB]
      have hrc2 : P2.LS = P.LS.map (wtC P.S P.c P.k P.LS) := by
        rw [hP2q]
        exact HPOK.out.rdy.rc HY9.out.2.2.1
      have hsz2 : szF S1 P2.LS = U1 := by
        rw [hrc2, HU1.out]
        exact HY9.out.2.2.1.sz P.nd P.LS fun _ h => h
      have hfN0 : ∀ j, 0 ≤ fN j ∧ fN j ≤ 100000 := fun j => by
        rw [hfN]
        have := wt_few HPOK.out ⟨[], by rw [List.append_nil]⟩ (fW j).toNat
        show 0 ≤ ((wtC P.S P.c P.k P.LS (fW j).toNat : Nat) : Int) ∧ ((wtC P.S P.c P.k P.LS (fW j).toNat : Nat) : Int) ≤ 100000
        omega
      have hrN : ∀ w', Keeps [] w14 w' → Reads w' xx M fN := fun w' hk => by
        rw [hfN]
        exact (HO12.out.rd).keep (HK1214.out.trans hk) (by simp)
      have hrB : ∀ w', Keeps [] w14 w' → Reads w' yB c.roots fB := fun w' hk => by
        have h1 := HOB.out.eq (g := fB) fun j hj => by
          rw [hfB]
          show ((wtC P.S P.c 0 P.LS (P.rs.getD j 0) : Nat) : Int) = ((wtC P.S P.c P.k P.LS (fR j).toNat : Nat) : Int)
          rw [HWS.out.2, wsN_getD hj, HPF.out.2.2.2.2.1]
        exact (h1.rd).keep ((by
          have h2 : Keeps [] w10 w11 := HK1011.out
          exact ((h2.trans HK12.out).trans HK1214.out).trans hk) : Keeps [] w10 w') (by simp)
      have hnew2 := C.new P2 w14 hok2 (by rw [hf2.1, hf2.2.1, hf2.2.2.1]; exact HP14.out.dev) yB cB (by rw [hf2.2.2.2.2.2.2.2]; exact reads_ws (hrB w14 (Keeps.refl _ _)) fun j _ => by rw [hfB]; exact Int.natCast_nonneg _) xx cc (by rw [hf2.2.2.2.2.2.2.1]; exact reads_ws (hrN w14 (Keeps.refl _ _)) fun j _ => (hfN0 j).1)
      rw [hf2.2.1, hf2.2.2.2.1, hf2.2.2.2.2.1, hf2.2.2.2.2.2.1, hf2.2.2.2.2.2.2.1, hf2.2.2.2.2.2.2.2, wsN_len, wsN_len] at hnew2
      have HNW2 : Hid (Calls Tryz.prog 15 #[ptr a.d, cfgV c, bkV 1 U1 (.slice yB c.roots cB), .slice xx M cc] w14 fun e w'' => ∃ xq T, e = .returned (ptr xq) ∧ Col P2 w'' xq T 0 ∧ (∀ b ∈ T, w14.heap.size ≤ b) ∧ Keeps [] w14 w'') := hnew2
      have HF2 := hid hf2
      have HOK2 := hid hok2
      have HS2 := hid (And.intro hrc2 hsz2)
      have HFN := hid (And.intro hfN hfN0)
      have HRN := hid hrN
      have hC14 := HK914.out.at HC9.out (by simp)
      have hT14 := (HK12.out.trans HK1214.out).at HT11.out (by simp)
      have c0 := hC14.cell 0 rfl
      have c1 := hC14.cell 1 rfl
      have c2 := hC14.cell 2 rfl
      have b0 := hT14.cell 0 rfl
      have b1 := hT14.cell 1 rfl
      have b2 := hT14.cell 2 rfl
      have HC14 := hid hC14
      have HT14 := hid hT14
      clear hfN hfB hP2q hok2 hf2 hrc2 hsz2 hfN0 hrN hrB hnew2 hC14 hT14
      go_wp2_with fail
      refine HNW2.out.mono ?_
      rintro e w15 ⟨zb, Tz, rfl, hCz, hTz, k15⟩
      have hsz914 := HK914.out.size
      have hdv : ∀ b ∈ Tz, b ∉ [P2.p, P2.a.d, P2.a.s, P2.a.k, P2.a.m] := fun b hb => by
        rw [HF2.out.1, HF2.out.2.1]
        have h := HTD.out b (by have := hTz b hb; have := HK47.out.size; have := HZ79.out; omega)
        rw [HPF.out.1, HPF.out.2.1] at h
        exact h
      have hP15 : Pw w15 P2.p P2.a (-1) u9 P2.S := by rw [HF2.out.1, HF2.out.2.1, HF2.out.2.2.1]; exact HP14.out.keep0 k15
      have HRZ := hid (C.run hCz hP15 (by have := HY9.out.2.2.2; have := HUB.out; omega) P2.at_start hdv (by unfold CP.N; omega))
      have HTZ := hid hTz
      have HK15 := hid k15
      clear hCz hTz k15 hdv hP15 HNW2 c0 c1 c2 b0 b1 b2 hsz914
      go_wp2_with fail
      refine HRZ.out.mono ?_
      rintro e w16 ⟨T16, u16, S2, rfl, hC16, hP16, hat16, _, _, hT16, k16⟩
      have hoff : ∀ b, b < w14.heap.size → b ∉ [p, a.d, a.s, a.k, a.m] → b ∉ Tz ++ [P2.p, P2.a.s, P2.a.k, P2.a.m] := fun b hb hd h => by
        rcases List.mem_append.1 h with h | h
        · have := HTZ.out b h; omega
        · rw [HF2.out.1, HF2.out.2.1] at h
          exact hd (by simp only [List.mem_cons, List.not_mem_nil, or_false] at h ⊢; rcases h with h | h | h | h <;> simp [h])
      have hdl : ∀ b, w4.heap.size ≤ b → b ∉ [p, a.d, a.s, a.k, a.m] := fun b hb => by
        have h := HTD.out b hb
        rw [HPF.out.1, HPF.out.2.1] at h
        exact h
      have hcd : cb ∉ [p, a.d, a.s, a.k, a.m] := fun h => by
        have h3 := (HWB.out cb h).2
        have h4 := HZ4.out
        omega
      have h49 : w4.heap.size ≤ w9.heap.size := Nat.le_trans HK47.out.size HZ79.out
      have HC16 := hid (k16.at (HK15.out.at HC14.out (by simp)) (hoff cb HC14.out.lt hcd))
      have HT16 := hid (k16.at (HK15.out.at HT14.out (by simp)) (hoff tb HT14.out.lt (hdl tb (Nat.le_trans h49 HTBL.out))))
      have HRN16 : Hid (∀ w', Keeps [] w16 w' → Reads w' xx M fN) := fun w' hk => ((HRN.out w15 HK15.out).keep k16 (fun b off hb => by
        have h1 := HO12.out.ge b (by rw [hb]; simp [blkL])
        have h2 := HK1214.out.size
        have h3 := HK11.out.size
        exact hoff b (by omega) (hdl b (by omega)))).keep hk (by simp)
      have HOC16 : Hid (Reads w16 xC a.n S1.now) := ((HOC.out.rd).keep HK15.out (by simp)).keep k16 (fun b off hb => by
        have h1 := HOC.out.ge b (by rw [hb]; simp [blkL])
        have h2 := HK13.out.size
        have h3 := HK912.out.size
        exact hoff b h1.2 (hdl b (by omega)))
      have HK16 : Hid (Keeps [] W w16) := ((HK9.out.trans HK914.out).trans HK15.out).new k16 fun b hb => .inr (by
        rcases List.mem_append.1 hb with h | h
        · exact Nat.le_trans (HK9.out.trans HK914.out).size (HTZ.out b h)
        · rw [HF2.out.1, HF2.out.2.1] at h
          exact (HWB.out b (by simp only [List.mem_cons, List.not_mem_nil, or_false] at h ⊢; rcases h with h | h | h | h <;> simp [h])).1)
      have hcpd2 := CP.fin hat16
      have hcsN2 : P2.cs P2.N = P2.LS := P2.cs_end (by unfold CP.N; omega)
      have hbl2 := C.block hC16
      rw [hcsN2, HF2.out.2.2.1, HS2.out.2, HF2.out.2.2.2.2.1, HF2.out.2.2.2.2.2.2.2, wsN_len] at hbl2
      have HBL2 : Hid (Calls Tryz.prog 17 #[ptr zb] w16 fun e w' => (∃ y cy, e = .returned (bkV 0 U1 (.slice y c.roots cy))) ∧ Keeps [] w16 w') := hbl2.mono fun e w' h => by
        obtain ⟨y, cy, h1, _, h2⟩ := h
        exact ⟨⟨y, cy, h1⟩, h2⟩
      have hwnt := fun (w' : World) (hk : Keeps [] w16 w') (v : Nat) (hv : v < 9223372036854775808) => C.went (C.keep hC16 hk (by simp)) v hv
      rw [hcsN2] at hwnt
      have HWN2 := hid hwnt
      have HPD16 : Hid (Pw w16 p a (-1) u16 S2) := by
        have h := hP16
        rw [HF2.out.1, HF2.out.2.1] at h
        exact h
      have HCPD2 := hid hcpd2
      clear hC16 hP16 hat16 hT16 k16 hoff hdl hcd h49 hcpd2 hcsN2 hbl2 hwnt HRZ
      go_wp2_with fail
      refine HBL2.out.mono ?_
      rintro e w17 ⟨⟨yS, cS, rfl⟩, k17⟩
      have HK17 := hid k17
      clear k17 HBL2
      go_upto_region 24 with fail
      have hS18 := At.new w17 (bkO 0 (U1 : Nat) (.slice yS c.roots cS))
      have k1718 := (Keeps.refl [] w17).alloc (bkO 0 (U1 : Nat) (.slice yS c.roots cS))
      obtain ⟨sb, hsb⟩ : ∃ q, q = w17.heap.size := ⟨_, rfl⟩
      obtain ⟨w18, hw18⟩ : ∃ w18, w18 = w17.alloc (bkO 0 (U1 : Nat) (.slice yS c.roots cS)) := ⟨_, rfl⟩
      rw [← hw18] at hS18 k1718
      first | rw [← hw18] | skip
      rw [← hsb] at hS18 ⊢
      have HS18 := hid hS18
      have HK18 := hid (HK17.out.trans k1718)
      clear hw18 hsb hS18 k1718
      go_wp2_with fail
      refine (lnew_at w18 xC a.n cC a.L S1.now (HOC16.out.keep HK18.out (by simp)) (by have := a.n8; omega) HAN.out).mono ?_
      rintro e w19 ⟨pe, ae, rfl, haL, hDe, hAe, hbe, k19⟩
      have hen : ae.n = a.n := by rw [ae.n8, a.n8, haL]
      obtain ⟨Se, hSe⟩ : ∃ Se : DS, Se = { now := fun i => if i < a.n then S1.now i else 0, kept := fun i => if i < a.n then S1.now i else 0, tok := fun _ => 0, is := fun _ => false } := ⟨_, rfl⟩
      rw [← hSe] at hDe
      have HSE : Hid (∀ j, j < a.n → Se.now j = S1.now j) := fun j hj => by rw [hSe]; exact if_pos hj
      have HDE := hid hDe
      have HEN := hid hen
      have HK19 := hid (HK18.out.trans k19)
      have hT19 := (HK18.out.trans k19).at HT16.out (by simp)
      have hS19 := k19.at HS18.out (by simp)
      have HT19 := hid hT19
      have HS19 := hid hS19
      have s0 := hS19.cell 0 rfl
      have s1 := hS19.cell 1 rfl
      have s2 := hS19.cell 2 rfl
      have b1 := hT19.cell 1 rfl
      clear haL hDe hAe hbe k19 hen hSe hT19 hS19
      obtain ⟨fT, hfT⟩ : ∃ fT : Nat → Int, fT = fun j => ((wtC P2.S P2.c P2.k P2.LS (fN j).toNat : Nat) : Int) := ⟨_, rfl⟩
      have HFT := hid hfT
      clear hfT
      go_wp2_with fail
      go_loopg [23, 114] M (fun rr s23 s114 wr => ∃ (i : Nat) (xt : Option Addr) (ct : Nat), i + rr = M ∧ s114 = .int .i64 (i : Nat) ∧ s23 = .slice xt i ct ∧ OwnU wr w19.heap.size xt ct i fT ∧ Keeps [] w19 wr)
      case atStart => exact ⟨0, none, 0, by omega, rfl, rfl, ownU_nil _ _ _, Keeps.refl _ _⟩
      case round =>
        obtain ⟨i, xt, ct, hi, rfl, rfl, hO, hK⟩ := hrel
        by_cases hil : i < M
        · obtain ⟨gw, offw, hxw, hgl, hgc⟩ : ∃ g off, xx = some ⟨g, off, none⟩ ∧ g < w19.heap.size ∧ ∀ j, j < M → w19.cell? ⟨g, off + j, none⟩ = some (.int .u64 (fN j)) := by
            rcases HRN16.out w19 HK19.out with h | ⟨g, off, h1, h2, h3⟩
            · omega
            · exact ⟨g, off, h1, h2, h3⟩
          subst hxw
          obtain ⟨v, hv⟩ : ∃ v : Nat, v = (fN i).toNat := ⟨_, rfl⟩
          have hvf := HFN.out.2 i
          have d0 : wr.cell? ⟨gw, offw + i, none⟩ = some (.int .u64 (v : Nat)) := by
            rw [hK.cell hgl (by simp), hgc i hil, hv]
            congr 2
            omega
          obtain ⟨t, ht⟩ : ∃ t : Nat, t = wtC P2.S P2.c P2.k P2.LS v := ⟨_, rfl⟩
          have htb : t ≤ 100000 := by rw [ht]; exact wt_few HOK2.out ⟨[], by rw [List.append_nil]⟩ v
          have hwn := HWN2.out wr (HK19.out.trans hK) v (by omega)
          rw [← ht] at hwn
          have HW1 := hid hwn
          have HII := hid (And.intro hi (And.intro hil (And.intro hv ht)))
          have HOI := hid (And.intro hO hK)
          have hii : (i : Int) < (M : Int) := by omega
          have hi5 : i ≤ 100000 := by omega
          have e1 : IntKind.u64.wrap (t : Int) = (t : Int) := IntWalk.u64_in _ (by omega)
          clear hi hil hO hK hgl hgc hv hvf ht htb hwn
          go_wp2_with fail
          refine HW1.out.mono ?_
          rintro e w2 ⟨rfl, k2⟩
          have hcX := (At.new w2 (.cells #[.int .u64 (t : Nat)] 40)).cell 0 rfl
          have k3 := k2.alloc (.cells #[.int .u64 (t : Nat)] 40)
          have HOX := hid (HOI.out.1.keep k3 (by simp))
          have hBX : w19.heap.size ≤ (w2.alloc (.cells #[.int .u64 (t : Nat)] 40)).heap.size := Nat.le_trans HOI.out.2.size k3.size
          have HK3 := hid k3
          clear k2 k3 d0
          go_wp2_with (at_builtin; refine appU_many rfl _ _ rfl w19.heap.size xt ct i _ rfl HOX.out _ _ (t : Nat) rfl hcX hi5 hBX ?_; intro g9 cap9 w9' hO9' hk9' hg9')
          have HE : Hid (OwnU w9' w19.heap.size (some ⟨g9, 0, none⟩) cap9 (i + 1) fT ∧ Keeps [] w19 w9') :=
            ⟨hO9'.eq (fun j hj => by
              unfold put
              by_cases hji : j = i
              · rw [if_pos hji, hji, HFT.out]
                show ((t : Nat) : Int) = ((wtC P2.S P2.c P2.k P2.LS (fN i).toNat : Nat) : Int)
                rw [← HII.out.2.2.1, HII.out.2.2.2]
              · rw [if_neg hji]), (HOI.out.2.trans HK3.out).new hk9' (fun b hb => .inr (HOI.out.1.ge b hb).1)⟩
          clear hO9' hk9' hg9' hcX hBX e1
          go_roundg (M - (i + 1))
          case measure => (have := HII.out; omega)
          case rel => exact ⟨i + 1, some ⟨g9, 0, none⟩, cap9, by have := HII.out; omega, by go_num, rfl, HE.out⟩
        · have hie : M = i := by omega
          subst hie
          have hc := HO.out
          have hKw := HK19.out.trans hK
          have hCr := hKw.at HC16.out (by simp)
          have hTr := hK.at HT19.out (by simp)
          have hSr := hK.at HS19.out (by simp)
          have c0 := hCr.cell 0 rfl
          have c1 := hCr.cell 1 rfl
          have c2 := hCr.cell 2 rfl
          have t0 := hTr.cell 0 rfl
          have t1 := hTr.cell 1 rfl
          have t2 := hTr.cell 2 rfl
          have s0 := hSr.cell 0 rfl
          have s1 := hSr.cell 1 rfl
          have s2 := hSr.cell 2 rfl
          have hf2 := HF2.out
          have hU1b : U1 ≤ c.space := by
            rw [HU1.out]
            have h : szF P.S P.LS ≤ P.c.space := HPOK.out.rdy.sz
            rw [HPF.out.2.2.2.1] at h
            exact h
          have hpn : c.frm 1 + U1 ≤ a.n := by
            have h1 := frm_space (c := c) 1 (by omega)
            have h2 := HN.out
            omega
          have hTe : ∀ j, c.frm 1 ≤ j → j < c.frm 1 + U1 → Se.now j = S1.now j := fun j _ hj => HSE.out j (by omega)
          have hrd2 := HOK2.out.rdy
          rw [hf2.2.2.1, hf2.2.2.2.1, hf2.2.2.2.2.1, hf2.2.2.2.2.2.1] at hrd2
          have hLS2 : P2.LS = rcF S1 c 1 U1 P2.ws := by
            have h : P2.LS = rcF P2.S P2.c P2.k P2.us P2.ws := rfl
            rw [hf2.2.2.1, hf2.2.2.2.1, hf2.2.2.2.2.1, hf2.2.2.2.2.2.1] at h
            exact h
          have hcp2 := HCPD2.out
          rw [hf2.2.2.1, hf2.2.2.2.1, hf2.2.2.2.2.1, hLS2] at hcp2
          have hsam := hrd2.sam hcp2 hTe
          have hx1 : ∀ j : Nat, c.frm 1 ≤ j → j < c.frm 1 + U1 → ∃ x : Nat, Se.now j = (x : Int) ∧ x < 18446744073709551616 := fun j h1 h2 => by rw [hTe j h1 h2]; exact hrd2.wd j h1 h2
          have hnx := hrd2.next (by have := frm_le HO.out.small (show 1 - 1 ≤ 2 by omega); have := HO.out.small.2.2; omega) hcp2
          have hs2 := HS2.out.2
          rw [hLS2] at hs2
          rw [hs2] at hsam hnx
          have hx2 : ∀ j : Nat, c.frm 0 ≤ j → j < c.frm 0 + U1 → ∃ x : Nat, S2.now j = (x : Int) ∧ x < 18446744073709551616 := hnx.wd
          have hrl : (rcF S1 c 1 U1 P2.ws).length ≤ 4096 := by
            have := rcF_len (S := S1) (c := c) (k := 1) (u := U1) (ws := P2.ws)
            have := HFS.out
            omega
          have hpk : ∀ i, i < M → PairOk (rcF S1 c 1 U1 P2.ws) ((rcF S1 c 1 U1 P2.ws).map (wtC S1 c 1 (rcF S1 c 1 U1 P2.ws))) (fN i).toNat (fT i).toNat := fun i hi => by
            rw [HFT.out]
            show PairOk _ _ _ (((wtC P2.S P2.c P2.k P2.LS (fN i).toNat : Nat) : Int)).toNat
            rw [Int.toNat_natCast, hf2.2.2.1, hf2.2.2.2.1, hf2.2.2.2.2.1, hLS2]
            refine pair_went ?_
            rw [← hLS2, HS2.out.1, HFN.out.1]
            show (((wtC P.S P.c P.k P.LS (fW i).toNat : Nat) : Int)).toNat = 0 ∨ (((wtC P.S P.c P.k P.LS (fW i).toNat : Nat) : Int)).toNat ∈ _
            rw [Int.toNat_natCast]
            by_cases hm : (fW i).toNat ∈ P.LS
            · exact .inr (List.mem_map.2 ⟨_, hm, rfl⟩)
            · exact .inl (wtC_no hm)
          have hrn := HRN16.out wr hKw
          have hr1 : Reads wr xx M (fun i => (((fN i).toNat : Nat) : Int)) := by
            rcases hrn with h | ⟨g, off, h1, h2, h3⟩
            · exact .inl h
            · refine .inr ⟨g, off, h1, h2, fun i hi => ?_⟩
              rw [h3 i hi]
              have := HFN.out.2 i
              show some (Value.int .u64 (fN i)) = some (Value.int .u64 (((fN i).toNat : Nat) : Int))
              rw [show (((fN i).toNat : Nat) : Int) = fN i by omega]
          have hr2 : Reads wr xt M (fun i => (((fT i).toNat : Nat) : Int)) := by
            rcases hO.rd with h | ⟨g, off, h1, h2, h3⟩
            · exact .inl h
            · refine .inr ⟨g, off, h1, h2, fun i hi => ?_⟩
              rw [h3 i hi, HFT.out]
              congr 2
          have hsm := same14_at wr pe ae Se (HDE.out.keep hK (by simp) (by simp) (by simp) (by simp)) p a S2 (HPD16.out.keep0 hKw).dev c hc (by rw [HN.out, HEN.out]) HN.out 1 U1 0 U1 (by omega) (by omega) hU1b hU1b (.slice yB c.roots cB) (.slice yS c.roots cS) hx1 hx2 _ _ hsam hrl xx M cc (fun i => (fN i).toNat) (fun i => (fT i).toNat) hr1 xt ct hr2 (by omega) hpk
          have HSM := hid hsm
          have HKE : Hid (Keeps [] W wr) := HK16.out.trans hKw
          clear hi hil hO hK hc hKw hCr hTr hSr hf2 hU1b hpn hTe hrd2 hLS2 hcp2 hsam hx1 hnx hs2 hx2 hrl hpk hrn hr1 hr2 hsm
          go_wp2_with fail
          refine HSM.out.mono ?_
          rintro e wE ⟨rfl, kE⟩
          have HEND : Hid (Below W.heap.size W wE) := (HKE.out.trans kE).below (Nat.le_refl _) (by simp)
          clear kE
          go_wp2_with fail
          go_ret
          exact ⟨rfl, HEND.out⟩

theorem cheneyRound_walk (l r s : Int) (y : Option Addr) (m cm : Nat) (z : Nat → Nat → Int) (y1 : Option Addr) (mn cn : Nat) (g : Nat → Int) (y2 : Option Addr) (mf cf : Nat) (h : Nat → Int) (W : World) (wl : (Lit.int .u16 l).wf = true) (wr : (Lit.int .u16 r).wf = true) (ws : (Lit.int .u16 s).wf = true)
    (R2 : m * 2 = 0 ∨ ∃ b off, y = some ⟨b, off, none⟩ ∧ b < W.heap.size ∧ ∀ i j, i < m → j < 2 → W.cell? ⟨b, off + (i * 2 + j), none⟩ = some (.int ((fun j => if j = 0 then IntKind.u8 else IntKind.u8) j) (z i j)) ∧ (Lit.int ((fun j => if j = 0 then IntKind.u8 else IntKind.u8) j) (z i j)).wf = true) (hm : m ≤ maxLen)
    (R : ReadsV (Value.int .u16) W y1 mn g) (hg : ∀ i, i < mn → (Lit.int .u16 (g i)).wf = true) (hmn : mn ≤ maxLen)
    (R3 : ReadsV (Value.int .u16) W y2 mf h) (hh : ∀ i, i < mf → (Lit.int .u16 (h i)).wf = true) (hmf : mf ≤ maxLen) :
    Calls Tryz.prog 5 #[.agg #[.int .u16 l, .int .u16 r, .int .u16 s], .slice y m cm, .slice y1 mn cn, .slice y2 mf cf] W fun e w' => e = .returned (.bool true) ∧ Below W.heap.size W w' := by
  obtain ⟨l, rfl, hl⟩ := c3_open wl
  obtain ⟨r, rfl, hr⟩ := c3_open wr
  obtain ⟨s, rfl, hs⟩ := c3_open ws
  exact cround_small colC_is l r s y m cm _ _ y1 mn cn _ y2 mf cf _ W hl hr hs (readsH_of R2) (by unfold maxLen at hm; omega) (reads16_any R hg) (by unfold maxLen at hmn; omega) (reads16_any R3 hh) (by unfold maxLen at hmf; omega)

end Go.Proofs.YtbalmmnggfgpkaaGreat

