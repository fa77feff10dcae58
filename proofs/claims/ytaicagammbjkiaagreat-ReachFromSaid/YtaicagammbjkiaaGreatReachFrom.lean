/- The walk of the law ReachFrom. -/
import Derived.Test.YtaicagammbjkiaaGreatAwk13
import Derived.Test.YtaicagammbjkiaaGreatRea
import Derived.BigQuiet
import Derived.Deep.RegionHeld3
namespace Go.Proofs.YtaicagammbjkiaaGreat
open Go.RowKit Go.OpenShut

set_option maxRecDepth 100000 in
set_option maxHeartbeats 4000000 in
theorem rfrom_small (l r s : Nat) (y0 : Option Addr) (m cm : Nat) (R V : Nat → Nat) (y1 : Option Addr) (mn cn : Nat) (G : Nat → Nat) (y2 : Option Addr) (mf cf : Nat) (H : Nat → Nat) (st : Nat) (W : World) (hl : l ≤ 65535) (hrr : r ≤ 65535) (hs : s ≤ 65535)
    (hy : ReadsH W y0 m R V) (hm : m ≤ 9223372036854775807) (hg : ReadsW W y1 mn G) (hmn : mn ≤ 9223372036854775807) (hh : ReadsW W y2 mf H) (hmf : mf ≤ 9223372036854775807) (hst : st ≤ 255) :
    Calls Tryz.prog 3 #[c3V l r s, .slice y0 m cm, .slice y1 mn cn, .slice y2 mf cf, .int .u8 st] W fun e w' => e = .returned (.bool true) ∧ Below W.heap.size W w' := by
  have hmi : (m : Int) ≤ 9223372036854775807 := by omega
  have hmni : (mn : Int) ≤ 9223372036854775807 := by omega
  have hmfi : (mf : Int) ≤ 9223372036854775807 := by omega
  have hsti : (st : Int) ≤ 255 := by omega
  have HG := hid hg
  have HH := hid hh
  clear hg hh
  have HY := hid hy
  clear hy
  refine callsAt_marks Tryz.func3 rfl (.of_wp ?_)
  simp only [Tryz.ntmps3, List.size_toArray, List.length_cons, List.length_nil, Nat.reduceAdd, Nat.reduceSub, Array.replicate_succ, Array.replicate_zero, List.push_toArray, List.append_toArray, List.nil_append, List.cons_append]
  go_wp2_with fail
  have h_xb := ((At.new W (c3O l r s)).alloc (.cells #[.int .u8 st] 5)).alloc (.cells #[.bool false] 4)
  have h_sb := (At.new (W.alloc (c3O l r s)) (.cells #[.int .u8 st] 5)).alloc (.cells #[.bool false] 4)
  have h_rb := At.new ((W.alloc (c3O l r s)).alloc (.cells #[.int .u8 st] 5)) (.cells #[.bool false] 4)
  have K0 := ((((Keeps.refl [] W).alloc (c3O l r s)).alloc (.cells #[.int .u8 st] 5)).alloc (.cells #[.bool false] 4))
  simp only [World.size_alloc] at h_sb h_rb
  obtain ⟨xb, hq_xb⟩ : ∃ q, q = W.heap.size := ⟨_, rfl⟩
  obtain ⟨sb, hq_sb⟩ : ∃ q, q = W.heap.size + 1 := ⟨_, rfl⟩
  obtain ⟨rb, hq_rb⟩ : ∃ q, q = W.heap.size + 1 + 1 := ⟨_, rfl⟩
  rw [← hq_rb, ← hq_sb, ← hq_xb]
  rw [← hq_xb] at h_xb
  rw [← hq_sb] at h_sb
  rw [← hq_rb] at h_rb
  have HQ : Hid (xb = W.heap.size ∧ sb = W.heap.size + 1 ∧ rb = W.heap.size + 2) := ⟨by omega, by omega, by omega⟩
  refine (awake13_any _).mono ?_
  rintro e w1 ⟨rfl, hb1⟩
  have k1 := Go.Proofs.YtaicagammbjkiaaGreat.Below.keeps hb1 []
  have K1 := K0.trans k1
  have g_xb := k1.at h_xb (by simp)
  have g_sb := k1.at h_sb (by simp)
  have g_rb := k1.at h_rb (by simp)
  clear hb1 k1 K0 h_xb h_sb h_rb hq_xb hq_sb hq_rb
  have c0 : w1.cell? ⟨xb, 0, none⟩ = some (.int .u16 l) := g_xb.cell 0 rfl
  have c1 : w1.cell? ⟨xb, 1, none⟩ = some (.int .u16 r) := g_xb.cell 1 rfl
  have c2 : w1.cell? ⟨xb, 2, none⟩ = some (.int .u16 s) := g_xb.cell 2 rfl
  have rf0 := g_rb.free 0
  have rc0 := g_rb.cell 0 rfl
  by_cases hm30 : m ≤ 25
  case neg =>
    have hm2 : (25 : Int) < (m : Int) := by omega
    have hm3 : decide ((25 : Int) < (m : Int)) = true := decide_eq_true hm2
    go_wp2_with fail
    have hRF := g_rb.set 0 (.bool true)
    have y0 := hRF.cell 0 rfl
    refine ⟨.bool true, ?_, rfl, ?_⟩
    · simp [results, Tryz.results3, go_sem, y0]
    · exact (K1.set (.inr (by have := HQ.out; show W.heap.size ≤ rb; omega)) _).below (Nat.le_refl _) (by simp)
  have hm2 : (m : Int) ≤ 25 := by omega
  have hm3 : decide ((25 : Int) < (m : Int)) = false := decide_eq_false (by omega)
  clear hmi
  by_cases hn60 : mn ≤ 60
  case neg =>
    have hn2 : (60 : Int) < (mn : Int) := by omega
    have hn3 : decide ((60 : Int) < (mn : Int)) = true := decide_eq_true hn2
    go_wp2_with fail
    have hRF := g_rb.set 0 (.bool true)
    have y0 := hRF.cell 0 rfl
    refine ⟨.bool true, ?_, rfl, ?_⟩
    · simp [results, Tryz.results3, go_sem, y0]
    · exact (K1.set (.inr (by have := HQ.out; show W.heap.size ≤ rb; omega)) _).below (Nat.le_refl _) (by simp)
  have h2_mn : (mn : Int) ≤ 60 := by omega
  have h3_mn : decide ((60 : Int) < (mn : Int)) = false := decide_eq_false (by omega)
  by_cases hf10 : mf ≤ 10
  case neg =>
    have hn2 : (10 : Int) < (mf : Int) := by omega
    have hn3 : decide ((10 : Int) < (mf : Int)) = true := decide_eq_true hn2
    go_wp2_with fail
    have hRF := g_rb.set 0 (.bool true)
    have y0 := hRF.cell 0 rfl
    refine ⟨.bool true, ?_, rfl, ?_⟩
    · simp [results, Tryz.results3, go_sem, y0]
    · exact (K1.set (.inr (by have := HQ.out; show W.heap.size ≤ rb; omega)) _).below (Nat.le_refl _) (by simp)
  have h2_mf : (mf : Int) ≤ 10 := by omega
  have h3_mf : decide ((10 : Int) < (mf : Int)) = false := decide_eq_false (by omega)
  clear hmni hmfi
  have hok := mk3_ok l r s
  obtain ⟨c, hc⟩ : ∃ c, c = mk3 l r s := ⟨_, rfl⟩
  rw [← hc] at hok
  obtain ⟨os, hos⟩ : ∃ os, os = fillL c.space (hdsL R V m) := ⟨_, rfl⟩
  have HLI := hid (linked_at w1 l r s hl hrr hs y0 m cm R V (HY.out.keep K1 (by simp)) (by omega) y1 mn cn G (HG.out.keep K1 (by simp)) (by omega) 7 (by omega) c hc os hos)
  clear hc
  go_wp2_with fail
  refine HLI.out.mono ?_
  rintro e w3 ⟨p, a, u, S, x, cp, y, cy, B, rfl, hn, hP, hub, hF, hU, hI, ⟨b1, b2, b3, b4, b5⟩, hB, hk3⟩
  have K3 := K1.trans hk3
  have f_sb := hk3.at g_sb (by simp)
  have f_rb := hk3.at g_rb (by simp)
  have HO := hid hok
  have HN := hid hn
  obtain ⟨L, hL⟩ : ∃ L, L = os.length := ⟨_, rfl⟩
  have hLm : L ≤ m := by rw [hL, hos]; exact fillL_len _ _ _ _
  have hLi : (L : Int) ≤ 30 := by omega
  have HL := hid hL
  rw [← hL] at hI ⊢
  obtain ⟨us, hus⟩ : ∃ us, us = lenL os := ⟨_, rfl⟩
  have HUS := hid hus
  rw [← hus]
  have husb : us ≤ c.space := by rw [hus]; exact hF.fits
  have hsp : c.space ≤ 4096 := hok.small.2.2
  have husi : (us : Int) ≤ 4096 := by omega
  have hfr := frm_le hok.small (show 0 ≤ 2 by omega)
  have hfs : c.frm 0 + c.space ≤ a.n := by rw [← hn]; exact frm_space 0 (by omega)
  have hwd := hF.wd hsp (lnkG_wd c os G mn 7 (by omega))
  have HX : Hid (∀ j : Nat, c.frm 0 ≤ j → j < c.frm 0 + us → ∃ x : Nat, S.now j = (x : Int) ∧ x < 18446744073709551616) := fun j h1 h2 => hwd.sp j h1 (by omega)
  have HFS := hid (And.intro husb (And.intro hsp (And.intro hfs hfr)))
  have HP := hid hP
  have HI := hid hI
  have HRB3 : Hid (rb < w3.heap.size ∧ sb < w3.heap.size ∧ sb ≠ rb) := ⟨f_rb.lt, f_sb.lt, by have := HQ.out; omega⟩
  have HD4 : Hid (a.d < w3.heap.size ∧ a.s < w3.heap.size ∧ a.k < w3.heap.size ∧ a.m < w3.heap.size ∧ rb < a.d ∧ rb < a.s ∧ rb < a.k ∧ rb < a.m) := ⟨hP.dev.dev.lt, hP.dev.now.lt, hP.dev.kept.lt, hP.dev.map.lt, by have := g_rb.lt; omega, by have := g_rb.lt; omega, by have := g_rb.lt; omega, by have := g_rb.lt; omega⟩
  have HK3 := hid K3
  have HH3 := hid (HH.out.keep K3 (by simp))
  have HFF := hid hF
  clear hm30 hn60 hf10 hm2 hm3 h2_mn h3_mn hos hL hLm hus husb hsp hfs hfr hwd hF hP hub hI hU hB b1 b2 b3 b4 b5 hk3 K1 c0 c1 c2 rf0 rc0 HLI hok hn K3 g_xb g_rb g_sb
  go_upto_region 8 with fail
  have hC4 := (At.new w3 (cfgO c)).alloc (bkO 0 (us : Nat) (.slice x c.roots cp))
  have hB4 := At.new (w3.alloc (cfgO c)) (bkO 0 (us : Nat) (.slice x c.roots cp))
  have k34 := ((Keeps.refl [] w3).alloc (cfgO c)).alloc (bkO 0 (us : Nat) (.slice x c.roots cp))
  simp only [World.size_alloc] at hB4
  obtain ⟨cb, hcb⟩ : ∃ q, q = w3.heap.size := ⟨_, rfl⟩
  obtain ⟨bb, hbb⟩ : ∃ q, q = w3.heap.size + 1 := ⟨_, rfl⟩
  obtain ⟨w4, hw4⟩ : ∃ w4, w4 = (w3.alloc (cfgO c)).alloc (bkO 0 (us : Nat) (.slice x c.roots cp)) := ⟨_, rfl⟩
  have hz4 : w4.heap.size = w3.heap.size + 2 := by rw [hw4]; simp
  rw [← hw4] at hC4 hB4 k34
  first | rw [← hw4] | skip
  rw [← hbb, ← hcb]
  rw [← hcb] at hC4
  rw [← hbb] at hB4
  have HZ4 : Hid (cb = w3.heap.size ∧ bb = cb + 1 ∧ w4.heap.size = cb + 2) := ⟨by omega, by omega, by omega⟩
  have HR4 := hid (k34.at f_rb (by simp))
  have HS4 := hid (k34.at f_sb (by simp))
  have HP4 := hid (HP.out.keep0 k34)
  have HC4 := hid hC4
  have HB4 := hid hB4
  have HK4 := hid (HK3.out.trans k34)
  have HI4 := hid (HI.out.keep k34 (by simp)).reads
  have HH4 := hid (HH3.out.keep k34 (by simp))
  clear hw4 hz4 hcb hbb f_rb f_sb hC4 hB4 k34
  have HPB : Hid (∀ j, j < L → c.frm 0 + posL os j ≤ 100000) := fun j hj => by
    have h1 := posN_end (l := os) (i := j) (by have := HL.out; omega)
    have h2 := HUS.out
    have h3 := HFS.out
    omega
  obtain ⟨f5, hf5⟩ : ∃ f5 : Nat → Int, f5 = fun i => ((pkV H (fun j => c.frm 0 + posL os j) L i : Nat) : Int) := ⟨_, rfl⟩
  have HF5 : Hid (∀ i, i < mf → ∃ v : Nat, f5 i = (v : Int) ∧ v < 18446744073709551616) := fun i hi => by
    have hh := HH4.out
    obtain ⟨b, off, _, _, hcl⟩ := hh.resolve_left (by omega)
    have h1 := pkV_le (G := H) (P := fun j => c.frm 0 + posL os j) (n := L) (i := i) (hcl i hi).2 HPB.out
    exact ⟨_, by rw [hf5], by omega⟩
  go_wp2_with fail
  refine (pick_at w4 y y2 L cy mf cf H (fun j => c.frm 0 + posL os j) HH4.out HI4.out HPB.out (by omega) (by omega)).mono ?_
  rintro e w5 ⟨x5, cp5, rfl, hO5, k45⟩
  rw [← hf5] at hO5
  have HO5 := hid hO5
  have HC5 := hid (k45.at HC4.out (by simp))
  have HB5 := hid (k45.at HB4.out (by simp))
  have HR5 := hid (k45.at HR4.out (by simp))
  have HS5 := hid (k45.at HS4.out (by simp))
  have HP5 := hid (HP4.out.keep0 k45)
  have HK5 := hid (HK4.out.trans k45)
  have HZ5 : Hid (cb + 2 ≤ w4.heap.size ∧ w4.heap.size ≤ w5.heap.size) := ⟨by have := HZ4.out; omega, k45.size⟩
  obtain ⟨LS, hLS⟩ : ∃ LS, LS = rcF S c 0 us (wsN mf f5) := ⟨_, rfl⟩
  obtain ⟨M, hM⟩ : ∃ M, M = LS.length := ⟨_, rfl⟩
  have hMi : M ≤ 4096 := by
    have h1 := rcF_len (S := S) (c := c) (k := 0) (u := us) (ws := wsN mf f5)
    have h2 := HFS.out
    rw [← hLS] at h1
    omega
  have hMn : (M : Int) ≤ 4096 := by omega
  have HRE := hid (reached13_at w5 p a S c HP5.out.dev HO.out HN.out 0 (by omega) us HFS.out.1 (.slice x c.roots cp) HX.out x5 mf cp5 f5 HO5.out.rd (by omega) HF5.out)
  rw [← hLS, ← hM] at HRE
  have HLS := hid hLS
  have HM := hid hM
  have c0 := HC5.out.cell 0 rfl
  have c1 := HC5.out.cell 1 rfl
  have c2 := HC5.out.cell 2 rfl
  have b0 := HB5.out.cell 0 rfl
  have b1 := HB5.out.cell 1 rfl
  have b2 := HB5.out.cell 2 rfl
  clear hf5 hO5 k45 hLS hM HC4 HB4 HR4 HS4 HP4 HK4 HI4 HH4 HH3
  go_wp2_with fail
  refine HRE.out.mono ?_
  rintro e w6 ⟨xr, cpr, rfl, hO6, k56⟩
  have HO6 := hid hO6
  have HU6 := hid (HO5.out.keep k56 (by simp))
  have HC6 := hid (k56.at HC5.out (by simp))
  have HB6 := hid (k56.at HB5.out (by simp))
  have HR6 := hid (k56.at HR5.out (by simp))
  have HS6 := hid (k56.at HS5.out (by simp))
  have HP6 := hid (HP5.out.keep0 k56)
  have HK6 := hid (HK5.out.trans k56)
  have HZ6 : Hid (cb + 2 ≤ w6.heap.size) := by show _ ≤ _; have := HZ5.out; have := k56.size; omega
  clear c0 c1 c2 b0 b1 b2 hO6 k56 HC5 HB5 HR5 HS5 HP5 HK5 HRE
  go_upto_region 11 with fail
  have hW7 := ((At.new w6 (.cells #[.slice xr M cpr] 34)).alloc (.cells #[.int .i64 0] 3)).alloc (.cells #[.int .i64 0] 3)
  have hN7 := (At.new (w6.alloc (.cells #[.slice xr M cpr] 34)) (.cells #[.int .i64 0] 3)).alloc (.cells #[.int .i64 0] 3)
  have hZ7 := At.new ((w6.alloc (.cells #[.slice xr M cpr] 34)).alloc (.cells #[.int .i64 0] 3)) (.cells #[.int .i64 0] 3)
  have k67 := (((Keeps.refl [] w6).alloc (.cells #[.slice xr M cpr] 34)).alloc (.cells #[.int .i64 0] 3)).alloc (.cells #[.int .i64 0] 3)
  simp only [World.size_alloc] at hN7 hZ7
  obtain ⟨wb, hwb⟩ : ∃ q, q = w6.heap.size := ⟨_, rfl⟩
  obtain ⟨nb, hnb⟩ : ∃ q, q = w6.heap.size + 1 := ⟨_, rfl⟩
  obtain ⟨zb, hzb⟩ : ∃ q, q = w6.heap.size + 1 + 1 := ⟨_, rfl⟩
  obtain ⟨w7, hw7⟩ : ∃ w7, w7 = ((w6.alloc (.cells #[.slice xr M cpr] 34)).alloc (.cells #[.int .i64 0] 3)).alloc (.cells #[.int .i64 0] 3) := ⟨_, rfl⟩
  have hz7 : w7.heap.size = w6.heap.size + 3 := by rw [hw7]; simp
  rw [← hw7] at hW7 hN7 hZ7 k67
  first | rw [← hw7] | skip
  rw [← hzb, ← hnb, ← hwb]
  rw [← hwb] at hW7
  rw [← hnb] at hN7
  rw [← hzb] at hZ7
  have HQ7 : Hid (cb + 2 ≤ wb ∧ wb = w6.heap.size ∧ nb = wb + 1 ∧ zb = wb + 2 ∧ w7.heap.size = wb + 3) := ⟨by have := HZ6.out; omega, hwb, by omega, by omega, by omega⟩
  have HW7 := hid hW7
  have HN7 := hid hN7
  have HZ7 := hid hZ7
  have HO7 := hid (HO6.out.keep k67 (by simp))
  have HU7 := hid (HU6.out.keep k67 (by simp))
  have HC7 := hid (k67.at HC6.out (by simp))
  have HB7 := hid (k67.at HB6.out (by simp))
  have HR7 := hid (k67.at HR6.out (by simp))
  have HS7 := hid (k67.at HS6.out (by simp))
  have HP7 := hid (HP6.out.keep0 k67)
  have HK7 := hid (HK6.out.trans k67)
  have HXB : Hid (∀ b ∈ blkL x5, b < wb) := fun b hb => by have := (HU6.out.ge b hb).2; omega
  have HXR : Hid (∀ b ∈ blkL xr, b < wb) := fun b hb => by have := (HO6.out.ge b hb).2; omega
  have c0 := HC7.out.cell 0 rfl
  have c1 := HC7.out.cell 1 rfl
  have c2 := HC7.out.cell 2 rfl
  have b0 := HB7.out.cell 0 rfl
  have b1 := HB7.out.cell 1 rfl
  have b2 := HB7.out.cell 2 rfl
  clear hw7 hz7 hwb hnb hzb hW7 hN7 hZ7 k67 HO6 HU6 HC6 HB6 HR6 HS6 HP6 HK6
  go_wp2_with fail
  refine (from13_at w7 p a S c HP7.out.dev HO.out HN.out 0 (by omega) us HFS.out.1 (.slice x c.roots cp) HX.out x5 mf cp5 f5 HU7.out.rd (by omega) HF5.out).mono ?_
  rintro e w8 ⟨gf, lb, Fct, rfl, hent, hit, hfct, k78⟩
  rw [← HLS.out, ← HM.out] at hit
  have HENT := hid hent
  have HIT := hid hit
  have HFC := hid hfct
  have HW8 := hid (k78.at HW7.out (by simp))
  have HN8 := hid (k78.at HN7.out (by simp))
  have HZ8 := hid (k78.at HZ7.out (by simp))
  have HO8 := hid (HO7.out.keep k78 (by simp))
  have HU8 := hid (HU7.out.keep k78 (by simp))
  have HC8 := hid (k78.at HC7.out (by simp))
  have HB8 := hid (k78.at HB7.out (by simp))
  have HR8 := hid (k78.at HR7.out (by simp))
  have HS8 := hid (k78.at HS7.out (by simp))
  have HP8 := hid (HP7.out.keep0 k78)
  have HK8 := hid (HK7.out.trans k78)
  have HQ8 : Hid (wb + 3 ≤ w8.heap.size ∧ rb < w3.heap.size ∧ sb < w3.heap.size ∧ w3.heap.size + 2 ≤ wb ∧ sb ≠ rb) := ⟨by have := k78.size; have := HQ7.out; omega, HRB3.out.1, HRB3.out.2.1, by have := HQ7.out; have := HZ4.out; omega, HRB3.out.2.2⟩
  clear c0 c1 c2 b0 b1 b2 hent hit hfct k78 HW7 HN7 HZ7 HO7 HU7 HC7 HB7 HR7 HS7 HK7
  go_wp2_with fail
  refine wp_rangeE (gf := gf) (lb := lb) rfl HENT.out (fun fn => ?_)
  refine' (iter_coreS HIT.out fn w8 _ _ _ _
    (fun i W => i ≤ M ∧ At W nb (.cells #[.int .i64 (i : Nat)] 3) ∧ At W zb (.cells #[.int .i64 (szF S (LS.take i) : Nat)] 3) ∧ Keeps [nb, zb] w8 W)
    (fun W => At W rb (.cells #[.bool true] 4) ∧ Keeps [nb, zb, rb] w8 W)
    .ret .ret (.inl ⟨rfl, rfl⟩) (fun _ => rfl) ?fct ?keep ?keepx ?round ?start).mono ?after
  case fct =>
    rintro i W ⟨_, _, _, hk⟩
    refine HFC.out [nb, zb] W hk fun b hb => .inl ?_
    have h1 := HQ7.out
    have h2 := HD4.out
    have h3 := HQ8.out
    simp at hb
    exact ⟨by omega, by omega, by omega, by omega, by omega⟩
  case keep =>
    rintro i W W' T ⟨h1, h2, h3, hk⟩ hk' hT
    have h4 := HQ7.out
    have h5 := HQ8.out
    exact ⟨h1, hk'.at h2 (fun h => by have := hT _ h; omega), hk'.at h3 (fun h => by have := hT _ h; omega), hk.new hk' (fun b hb => .inr (hT b hb))⟩
  case keepx =>
    rintro W W' T ⟨h1, hk⟩ hk' hT
    have h5 := HQ8.out
    exact ⟨hk'.at h1 (fun h => by have := hT _ h; omega), hk.new hk' (fun b hb => .inr (hT b hb))⟩
  case start => exact ⟨Nat.zero_le _, HN8.out, HZ8.out, Keeps.refl _ _⟩
  case round =>
    rintro i W him ⟨hil, hN, hZ, hK⟩ hsz
    have hlt : i < M := him
    obtain ⟨X, hX⟩ : ∃ X, X = LS.getD i 0 := ⟨_, rfl⟩
    have hXg : LS[i]? = some X := by
      rw [hX, List.getD_eq_getElem?_getD, List.getElem?_eq_getElem (by have := HM.out; omega)]
      rfl
    have hXo : (obW S c 0 us X).isSome = true := rcF_ob (ws := wsN mf f5) (by rw [← HLS.out]; exact List.mem_of_getElem? hXg)
    obtain ⟨⟨n', r'⟩, hnr⟩ := Option.isSome_iff_exists.1 hXo
    obtain ⟨x1, x2, x3, x4, x5', x6⟩ := obW_some hnr
    obtain ⟨nn, hnn⟩ : ∃ nn, nn = hdN (S.now X).toNat := ⟨_, rfl⟩
    obtain ⟨rr, hrr⟩ : ∃ rr, rr = hdR (S.now X).toNat := ⟨_, rfl⟩
    have hni : (nn : Int) ≤ 64 := by omega
    have hXb : (X : Int) ≤ 30000 := by have := HFS.out; omega
    rw [show rcA S LS i = #[obV (nn : Nat) (rr : Nat) (X : Nat)] by unfold rcA; rw [← hX, ← hnn, ← hrr]]
    obtain ⟨zs, hzs⟩ : ∃ zs, zs = szF S (LS.take i) := ⟨_, rfl⟩
    rw [← hzs] at hZ
    have HZS : Hid (szF S (LS.take (i + 1)) = zs + (nn + 1)) := by
      show _ = _
      rw [List.take_add_one, hXg, szF_app, ← hzs]
      show _ + szF S [X] = _
      rw [szF_cons, ← hnn]
      rfl
    have hzi : (zs : Int) ≤ 1000000 := by
      have h1 := szF_few S (LS.take i) (fun x hx => by
        have h2 := rcF_ob (ws := wsN mf f5) (by rw [← HLS.out]; exact List.mem_of_mem_take hx)
        obtain ⟨⟨n2, r2⟩, h3⟩ := Option.isSome_iff_exists.1 h2
        obtain ⟨_, _, h4, _, h5, _⟩ := obW_some h3
        rw [← h4]
        exact h5)
      have h2 : (LS.take i).length ≤ M := by rw [List.length_take, HM.out]; exact Nat.min_le_right _ _
      omega
    have HXD := hid hX
    have HLT := hid hlt
    have HKW := hid hK
    have HNW := hid hN
    have HZW := hid hZ
    have HSZ2 := hid (fun w => hsize_at w nn rr (by omega))
    clear hlt hX hXg hXo hnr x1 x2 x3 x4 x5' x6 hnn hrr hzs hK hN hZ him hil
    have hmix : Tryz.prog.follows .mixedOrders = true := by kernel_rfl
    have hsem := @Oper.semAt_some
    gi_wp2_with fail
    refine ⟨(Keeps.refl [] W).alloc _, fun W₂ k2 hz2 _ => ?_⟩
    have hq7 := HQ7.out
    have hq8 := HQ8.out
    have hW0 : w8.heap.size + 2 ≤ W.heap.size := hsz
    have hO2 := k2.at (At.new W (obO (nn : Nat) (rr : Nat) (X : Nat))) (by simp; omega)
    have kW2 : Keeps [w8.heap.size + 1] W W₂ := ((Keeps.refl _ W).alloc _).trans k2
    have hN2 := kW2.at HNW.out (by simp; omega)
    have hZ2 := kW2.at HZW.out (by simp; omega)
    have hKN : Keeps [nb, zb] w8 W₂ := HKW.out.new kW2 (by simp)
    have hWb2 := hKN.at HW8.out (by simp; omega)
    have hSb2 := hKN.at HS8.out (by simp; omega)
    have hRb2 := hKN.at HR8.out (by simp; omega)
    obtain ⟨g, rfl, hgB, hgl, hgc⟩ := (HO8.out.keep hKN (fun b hb h => by have := HXR.out b hb; simp at h; omega)).cell (by have := HLT.out; omega)
    have hgx : W₂.cell? ⟨g, i, none⟩ = some (.int .i64 (X : Nat)) := by rw [HXD.out]; exact hgc i HLT.out
    have HO2 := hid hO2
    have HN2 := hid hN2
    have HZ2 := hid hZ2
    have HKN := hid hKN
    have HSb := hid hSb2
    have HRb := hid hRb2
    have HWZ := hid hW0
    have o0 := hO2.cell 0 rfl
    have o1 := hO2.cell 1 rfl
    have o2 := hO2.cell 2 rfl
    have n0 := hN2.cell 0 rfl
    have w0c := hWb2.cell 0 rfl
    have t1 : decide ((M : Int) ≤ (i : Int)) = false := decide_eq_false (by have := HLT.out; omega)
    have t2 : (i : Int) < (M : Int) := by have := HLT.out; omega
    have t3 : decide (M ≤ i) = false := decide_eq_false (by have := HLT.out; omega)
    have t4 : i < M := HLT.out
    have t5 : ((X : Int) != (X : Int)) = false := by simp
    have HK22 := hid kW2
    clear hq7 hq8 hW0 hO2 kW2 hN2 hZ2 hKN hWb2 hSb2 hRb2 hgB hgl hgc k2 hz2 hsz
    gi_wp2_with fail
    refine round_quiet rfl hmix (by kernel_rfl) ?_
    repeat (go_big_quiet_step (fail))
    refine wpQuiet_nil ?_
    rintro _ ⟨nq, rfl⟩
    have kq : Keeps [] W₂ (W₂.drewN nq) := (Keeps.refl [] W₂).drewN nq
    obtain ⟨W3, hW3⟩ : ∃ W3, W3 = W₂.drewN nq := ⟨_, rfl⟩
    rw [← hW3] at kq
    first | rw [← hW3] | skip
    have HO3 := hid (kq.at HO2.out (by simp))
    have HN3 := hid (kq.at HN2.out (by simp))
    have HZ3 := hid (kq.at HZ2.out (by simp))
    have HS3 := hid (kq.at HSb.out (by simp))
    have HR3' := hid (kq.at HRb.out (by simp))
    have HKN3 : Hid (Keeps [nb, zb] w8 W3) := HKN.out.trans (kq.mono (by simp))
    have HKQ := hid kq
    clear hW3 kq o0 o1 o2 n0 w0c hgx t1 t3 t5 HO2 HN2 HZ2 HSb HRb
    have o0 := HO3.out.cell 0 rfl
    have o1 := HO3.out.cell 1 rfl
    have z0 := HZ3.out.cell 0 rfl
    have zf := HZ3.out.free 0
    gi_wp2_with fail
    have HZ3D := hid (HZ3.out.drew)
    have e1 : IntKind.i64.wrap ((zs : Int) + ((nn : Int) + 1)) = (zs : Int) + ((nn : Int) + 1) := IntWalk.i64_in _ (by omega)
    gi_region_with_o (first
      | (refine ⟨trivial, ?_⟩; gi_at_call 12; refine (callsIn_wide.2 (HSZ2.out _)).mono ?_; rintro e W4 ⟨rfl, hk4⟩; have hA4 := hk4.at HZ3D.out (by simp); have a4 := hA4.cell 0 rfl; have af4 := hA4.free 0))
    all_goals
      have hZ4 := hA4.set 0 (.int .i64 ((zs : Int) + ((nn : Int) + 1)))
      have kE : Keeps [zb] W3 (W4.setCell ⟨zb, 0, none⟩ (.int .i64 ((zs : Int) + ((nn : Int) + 1)))) := (((Keeps.refl [zb] W3).drew).trans (hk4.mono (by simp))).set (p := ⟨zb, 0, none⟩) (.inl (by simp)) _
      have hq7 := HQ7.out
      have hq8 := HQ8.out
      have hN4 := kE.at HN3.out (by simp; omega)
      have hN5 := hN4.set 0 (.int .i64 ((i : Int) + 1))
      have kF : Keeps [nb, zb] W3 ((W4.setCell ⟨zb, 0, none⟩ (.int .i64 ((zs : Int) + ((nn : Int) + 1)))).setCell ⟨nb, 0, none⟩ (.int .i64 ((i : Int) + 1))) := (kE.mono (by intro b _ h; rw [List.mem_singleton.1 h]; simp)).set (p := ⟨nb, 0, none⟩) (.inl (by simp)) _
      have hZ5 := hZ4.set_ne (a := ⟨nb, 0, none⟩) (by show zb ≠ nb; omega) (.int .i64 ((i : Int) + 1))
      have hS5 := kF.at HS3.out (by simp; omega)
      have hR5 := kF.at HR3'.out (by simp; omega)
      have n0 := hN4.cell 0 rfl
      have nf := hN4.free 0
      have n1 : ((W4.setCell ⟨zb, 0, none⟩ (.int .i64 ((zs : Int) + ((nn : Int) + 1)))).setCell ⟨nb, 0, none⟩ (.int .i64 ((i : Int) + 1))).cell? ⟨nb, 0, none⟩ = some (.int .i64 ((i : Int) + 1)) := hN5.cell 0 rfl
      have s1 := hS5.cell 0 rfl
      have r1 := hR5.cell 0 rfl
      have rf1 := hR5.free 0
      have f1 : IntKind.i64.wrap (st : Int) = (st : Int) := IntWalk.i64_in _ (by omega)
      have hi1 : (i : Int) ≤ 4096 := by omega
      have HE := hid (And.intro hN5 (And.intro hZ5 (And.intro hR5 kF)))
      clear hZ4 kE hN4 hN5 kF hZ5 hS5 hR5 hA4 a4 af4 hk4 hq7 hq8 o0 o1 z0 zf
      by_cases hst2 : st < 20 ∧ st < i + 1
      · have u1 : decide ((st : Int) < 20) = true := decide_eq_true (by omega)
        have u2 : decide ((st : Int) < (i : Int) + 1) = true := decide_eq_true (by omega)
        have u3 : (st : Int) < 20 := by omega
        have u4 : (st : Int) < (i : Int) + 1 := by omega
        clear hst2
        gi_wp2_with fail
        have hq7 := HQ7.out
        have hq8 := HQ8.out
        have hw0 := HWZ.out
        refine ⟨⟨by simpa using HE.out.2.2.1.set 0 (.bool true), ((HKN3.out.trans HE.out.2.2.2).mono (by intro b _ h; simp at h ⊢; omega)).set (p := ⟨rb, 0, none⟩) (.inl (by simp)) _⟩, [nb, zb, rb], (((HKQ.out.mono (by simp)).trans HE.out.2.2.2).mono (by intro b _ h; simp at h ⊢; omega)).set (p := ⟨rb, 0, none⟩) (.inl (by simp)) _, fun b hb => .inl ?_⟩
        simp at hb
        omega
      · by_cases ha : st < 20
        · have u1 : decide ((st : Int) < 20) = true := decide_eq_true (by omega)
          have u2 : decide ((st : Int) < (i : Int) + 1) = false := decide_eq_false (by omega)
          have u3 : (st : Int) < 20 := by omega
          have u4 : (i : Int) + 1 ≤ (st : Int) := by omega
          clear hst2
          gi_wp2_with fail
          have hq7 := HQ7.out
          have hq8 := HQ8.out
          have hw0 := HWZ.out
          refine ⟨⟨HLT.out, by simpa using HE.out.1, by rw [HZS.out]; simpa using HE.out.2.1, HKN3.out.trans HE.out.2.2.2⟩, [nb, zb], (HKQ.out.mono (by simp)).trans HE.out.2.2.2, fun b hb => .inl ?_⟩
          simp at hb
          omega
        · have u1 : decide ((st : Int) < 20) = false := decide_eq_false (by omega)
          have u3 : (20 : Int) ≤ (st : Int) := by omega
          clear hst2
          gi_wp2_with fail
          have hq7 := HQ7.out
          have hq8 := HQ8.out
          have hw0 := HWZ.out
          refine ⟨⟨HLT.out, by simpa using HE.out.1, by rw [HZS.out]; simpa using HE.out.2.1, HKN3.out.trans HE.out.2.2.2⟩, [nb, zb], (HKQ.out.mono (by simp)).trans HE.out.2.2.2, fun b hb => .inl ?_⟩
          simp at hb
          omega
  case after =>
    intro e w9 hr
    cases e with
    | panicked _ => exact hr
    | outgrown => exact hr
    | returned v =>
      have hq7 := HQ7.out
      have hq8 := HQ8.out
      have hd4 := HD4.out
      have hz4 := HZ4.out
      rcases hr with ⟨w10, hend, ⟨_, hN, hZ, hK⟩, hDf⟩ | ⟨w10, hend, ⟨hR, hK⟩, hDf⟩
      · refine .inl ⟨w10, hend, ?_⟩
        rw [List.take_of_length_le (by rw [HM.out]; exact Nat.le_refl _)] at hZ
        have hC10 := hK.at HC8.out (by simp; omega)
        have hB10 := hK.at HB8.out (by simp; omega)
        have hW10 := hK.at HW8.out (by simp; omega)
        have hR10 := hK.at HR8.out (by simp; omega)
        have hZ10 := hZ
        have hN10 := hN
        have hP10 := HP8.out.dev.keep hK (by simp; omega) (by simp; omega) (by simp; omega) (by simp; omega)
        have hU10 := HU8.out.keep hK (fun b hb h => by have := HXB.out b hb; simp at h; omega)
        have K10 : Keeps [] W w10 := HK8.out.new hK (fun b hb => .inr (by have h1 := HQ.out; have h2 := HK3.out.size; simp at hb; omega))
        obtain ⟨sz, hsz⟩ : ∃ sz, sz = szF S LS := ⟨_, rfl⟩
        rw [← hsz] at hZ10
        have HSZE := hid (fun (w' : World) (hk : Keeps [] w10 w') => size13_at w' p a S c (hP10.keep hk (by simp) (by simp) (by simp) (by simp)) HO.out HN.out 0 (by omega) us HFS.out.1 (.slice x c.roots cp) HX.out x5 mf cp5 f5 (hU10.keep hk (by simp)).rd (by omega) HF5.out)
        rw [← HLS.out, ← hsz] at HSZE
        have HCZ : Hid (∀ w', Keeps [rb] w10 w' → (w'.cell? ⟨nb, 0, none⟩ = some (.int .i64 (M : Nat)) ∧ w'.cell? ⟨wb, 0, none⟩ = some (.slice xr M cpr) ∧ w'.cell? ⟨cb, 0, none⟩ = some (.int .i64 c.log) ∧ w'.cell? ⟨cb, 1, none⟩ = some (.int .i64 c.roots) ∧ w'.cell? ⟨cb, 2, none⟩ = some (.int .i64 c.space) ∧
            w'.cell? ⟨bb, 0, none⟩ = some (.int .i64 0) ∧ w'.cell? ⟨bb, 1, none⟩ = some (.int .i64 (us : Nat)) ∧ w'.cell? ⟨bb, 2, none⟩ = some (.slice x c.roots cp) ∧ w'.cell? ⟨zb, 0, none⟩ = some (.int .i64 (sz : Nat)))) := fun w' hk => by
          have e1 := hk.at hN10 (by simp; omega)
          have e2 := hk.at hW10 (by simp; omega)
          have e3 := hk.at hC10 (by simp; omega)
          have e4 := hk.at hB10 (by simp; omega)
          have e5 := hk.at hZ10 (by simp; omega)
          exact ⟨e1.cell 0 rfl, e2.cell 0 rfl, e3.cell 0 rfl, e3.cell 1 rfl, e3.cell 2 rfl, e4.cell 0 rfl, e4.cell 1 rfl, e4.cell 2 rfl, e5.cell 0 rfl⟩
        have HRF : Hid (∀ w', Keeps [] w10 w' → At w' rb (.cells #[.bool false] 4)) := fun w' hk => hk.at hR10 (by simp)
        have HDF := hid hDf
        have HK10 := hid K10
        have HDB : Hid (rb ≠ w8.heap.size) := by show rb ≠ _; omega
        have t1 : ((M : Int) == (M : Int)) = true := beq_self_eq_true _
        have t2 : ((sz : Int) == (sz : Int)) = true := beq_self_eq_true _
        clear hq7 hq8 hd4 hz4 hC10 hB10 hW10 hR10 hZ10 hN10 hP10 hU10 K10 hsz hDf hK hN hZ hend
        simp only [Exit.inBlock, Exit.then]
        go_upto_region 19 with fail
        have kk : Keeps [] w10 w10.drew := (Keeps.refl _ _).drew
        have rf := (HRF.out _ kk).free 0
        have rc := (HRF.out _ kk).cell 0 rfl
        go_region_held3 (fun w' => w'.cell? ⟨nb, 0, none⟩ = some (.int .i64 (M : Nat)) ∧ w'.cell? ⟨wb, 0, none⟩ = some (.slice xr M cpr) ∧ w'.cell? ⟨cb, 0, none⟩ = some (.int .i64 c.log) ∧ w'.cell? ⟨cb, 1, none⟩ = some (.int .i64 c.roots) ∧ w'.cell? ⟨cb, 2, none⟩ = some (.int .i64 c.space) ∧
            w'.cell? ⟨bb, 0, none⟩ = some (.int .i64 0) ∧ w'.cell? ⟨bb, 1, none⟩ = some (.int .i64 (us : Nat)) ∧ w'.cell? ⟨bb, 2, none⟩ = some (.slice x c.roots cp) ∧ w'.cell? ⟨zb, 0, none⟩ = some (.int .i64 (sz : Nat)))
          (first | exact HCZ.out _ (kk.mono (by simp)) | exact HCZ.out _ ((kk.mono (by simp)).set (.inl (by simp)) _))
          (first
            | (go_at_call 13; refine (HSZE.out _ kk).mono ?_; rintro e w' ⟨rfl, hk9⟩; have kk := kk.trans hk9; clear hk9; have rf := (HRF.out _ kk).free 0; have rc := (HRF.out _ kk).cell 0 rfl))
        rename_i hHd
        clear hHd
        have hD2 := (kk.at HDF.out (by simp)).set_ne (a := ⟨rb, 0, none⟩) HDB.out.symm (.bool true)
        have hR2 := (HRF.out _ kk).set 0 (.bool true)
        have k2 : Keeps [] W (w'.setCell ⟨rb, 0, none⟩ (.bool true)) := (HK10.out.trans kk).set (p := ⟨rb, 0, none⟩) (.inr (by have := HQ.out; show W.heap.size ≤ rb; omega)) _
        have HE := hid (And.intro hD2 (And.intro hR2 k2))
        clear hD2 hR2 k2 rf rc
        go_wp2_with fail
        refine ⟨by simp, .inl ⟨_, _, rfl, run_takeDeferred HE.out.1, ?_⟩⟩
        have kd : Keeps [w8.heap.size] (w'.setCell ⟨rb, 0, none⟩ (.bool true)) ((w'.setCell ⟨rb, 0, none⟩ (.bool true)).putObj w8.heap.size (.deferred none)) := (Keeps.refl _ _).put (.inl (by simp)) _
        have f1 : ((w'.setCell ⟨rb, 0, none⟩ (.bool true)).putObj w8.heap.size (.deferred none)).cell? ⟨rb, 0, none⟩ = some (.bool true) := (kd.at HE.out.2.1 (by simpa using HDB.out)).cell 0 rfl
        refine ⟨.bool true, ?_, rfl, ?_⟩
        · simp [results, Tryz.results3, go_sem, f1]
        · exact (HE.out.2.2.new kd (fun b hb => .inr (by obtain rfl := List.mem_singleton.1 hb; exact HK8.out.size))).below (Nat.le_refl _) (by simp)
      · refine .inr ⟨.ret, w10, hend, ?_⟩
        have K10 : Keeps [] W w10 := HK8.out.new hK (fun b hb => .inr (by have h1 := HQ.out; have h2 := HK3.out.size; simp at hb; omega))
        go_wp2_with fail
        refine ⟨by simp, .inl ⟨_, _, rfl, run_takeDeferred hDf, ?_⟩⟩
        have kd : Keeps [w8.heap.size] w10 (w10.putObj w8.heap.size (.deferred none)) := (Keeps.refl _ _).put (.inl (by simp)) _
        have f1 : (w10.putObj w8.heap.size (.deferred none)).cell? ⟨rb, 0, none⟩ = some (.bool true) := (kd.at hR (by simp; omega)).cell 0 rfl
        refine ⟨.bool true, ?_, rfl, ?_⟩
        · simp [results, Tryz.results3, go_sem, f1]
        · exact (K10.new kd (fun b hb => .inr (by obtain rfl := List.mem_singleton.1 hb; exact HK8.out.size))).below (Nat.le_refl _) (by simp)

theorem reads16_of {W : World} {y : Option Addr} {n : Nat} {g : Nat → Int} (R : ReadsV (Value.int .u16) W y n g) (hg : ∀ i, i < n → (Lit.int .u16 (g i)).wf = true) : ReadsW W y n (fun i => (g i).toNat) := by
  rcases R with h | ⟨b, off, rfl, hb, hc⟩
  · exact .inl h
  · refine .inr ⟨b, off, rfl, hb, fun i hi => ?_⟩
    have h3 := bounds_u16 (hg i hi)
    refine ⟨?_, by show (g i).toNat ≤ 65535; omega⟩
    rw [show (((g i).toNat : Nat) : Int) = g i by omega]
    exact hc i hi

theorem reachFrom_walk (l r s : Int) (y : Option Addr) (m cm : Nat) (z : Nat → Nat → Int) (y1 : Option Addr) (mn cn : Nat) (g : Nat → Int) (y2 : Option Addr) (mf cf : Nat) (h : Nat → Int) (st : Int) (W : World) (wl : (Lit.int .u16 l).wf = true) (wr : (Lit.int .u16 r).wf = true) (ws : (Lit.int .u16 s).wf = true)
    (R2 : m * 2 = 0 ∨ ∃ b off, y = some ⟨b, off, none⟩ ∧ b < W.heap.size ∧ ∀ i j, i < m → j < 2 → W.cell? ⟨b, off + (i * 2 + j), none⟩ = some (.int ((fun j => if j = 0 then IntKind.u8 else IntKind.u8) j) (z i j)) ∧ (Lit.int ((fun j => if j = 0 then IntKind.u8 else IntKind.u8) j) (z i j)).wf = true) (hm : m ≤ maxLen)
    (R : ReadsV (Value.int .u16) W y1 mn g) (hg : ∀ i, i < mn → (Lit.int .u16 (g i)).wf = true) (hmn : mn ≤ maxLen)
    (R3 : ReadsV (Value.int .u16) W y2 mf h) (hh : ∀ i, i < mf → (Lit.int .u16 (h i)).wf = true) (hmf : mf ≤ maxLen) (wst : (Lit.int .u8 st).wf = true) :
    Calls Tryz.prog 3 #[.agg #[.int .u16 l, .int .u16 r, .int .u16 s], .slice y m cm, .slice y1 mn cn, .slice y2 mf cf, .int .u8 st] W fun e w' => e = .returned (.bool true) ∧ Below W.heap.size W w' := by
  obtain ⟨l, rfl, hl⟩ := c3_open wl
  obtain ⟨r, rfl, hr⟩ := c3_open wr
  obtain ⟨s, rfl, hs⟩ := c3_open ws
  obtain ⟨st, rfl, hst⟩ := u8_open wst
  exact rfrom_small l r s y m cm _ _ y1 mn cn _ y2 mf cf _ st W hl hr hs (readsH_of R2) (by unfold maxLen at hm; omega) (reads16_of R hg) (by unfold maxLen at hmn; omega) (reads16_of R3 hh) (by unfold maxLen at hmf; omega) hst

end Go.Proofs.YtaicagammbjkiaaGreat
