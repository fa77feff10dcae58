/- The walk of the law CheneyParts, over what is asked of a collector's functions. -/
import Derived.Test.YtbalmmnggfgpkaaGreatAwk14
import Derived.Test.YtbalmmnggfgpkaaGreatTwo
import Derived.Test.YtbalmmnggfgpkaaGreatPik
import Derived.Test.YtbalmmnggfgpkaaGreatApp
import Derived.Test.YtbalmmnggfgpkaaGreatCkl
import Derived.BigQuiet
import Derived.Deep.RegionHeld3
namespace Go.Proofs.YtbalmmnggfgpkaaGreat
open Go.RowKit Go.OpenShut

set_option maxRecDepth 100000 in
set_option maxHeartbeats 8000000 in
theorem cparts_small {Col : CP → World → Nat → List Nat → Nat → Prop} (C : ColK Col) (l r s : Nat) (y0 : Option Addr) (m cm : Nat) (R V : Nat → Nat) (y1 : Option Addr) (mn cn : Nat) (G : Nat → Nat) (y2 : Option Addr) (mf cf : Nat) (H : Nat → Nat) (W : World) (hl : l ≤ 65535) (hrr : r ≤ 65535) (hs : s ≤ 65535)
    (hy : ReadsH W y0 m R V) (hm : m ≤ 9223372036854775807) (hg : ReadsW W y1 mn G) (hmn : mn ≤ 9223372036854775807) (hh : ReadsW W y2 mf H) (hmf : mf ≤ 9223372036854775807) :
    Calls Tryz.prog 7 #[c3V l r s, .slice y0 m cm, .slice y1 mn cn, .slice y2 mf cf] W fun e w' => e = .returned (.bool true) ∧ Below W.heap.size W w' := by
  have hmi : (m : Int) ≤ 9223372036854775807 := by omega
  have hmni : (mn : Int) ≤ 9223372036854775807 := by omega
  have hmfi : (mf : Int) ≤ 9223372036854775807 := by omega
  have HG := hid hg
  have HH := hid hh
  have HY := hid hy
  clear hg hh hy
  go_enter Tryz.func7, Tryz.ntmps7
  go_wp2_with fail
  have h_xb := At.new W (c3O l r s)
  have K0 := (Keeps.refl [] W).alloc (c3O l r s)
  obtain ⟨xb, hq_xb⟩ : ∃ q, q = W.heap.size := ⟨_, rfl⟩
  rw [← hq_xb]
  rw [← hq_xb] at h_xb
  refine (awake14_any C _).mono ?_
  rintro e w1 ⟨rfl, hb1⟩
  have k1 := Go.Proofs.YtbalmmnggfgpkaaGreat.Below.keeps hb1 []
  have K1 := K0.trans k1
  have g_xb := k1.at h_xb (by simp)
  clear hb1 k1 K0 h_xb hq_xb
  have c0 : w1.cell? ⟨xb, 0, none⟩ = some (.int .u16 l) := g_xb.cell 0 rfl
  have c1 : w1.cell? ⟨xb, 1, none⟩ = some (.int .u16 r) := g_xb.cell 1 rfl
  have c2 : w1.cell? ⟨xb, 2, none⟩ = some (.int .u16 s) := g_xb.cell 2 rfl
  by_cases hm30 : m ≤ 25
  case neg =>
    have g2 : (25 : Int) < (m : Int) := by omega
    have g3 : decide ((25 : Int) < (m : Int)) = true := decide_eq_true g2
    go_wp2_with fail
    go_ret
    exact ⟨rfl, K1.below (Nat.le_refl _) (by simp)⟩
  have hm2 : (m : Int) ≤ 25 := by omega
  have hm3 : decide ((25 : Int) < (m : Int)) = false := decide_eq_false (by omega)
  clear hmi
  by_cases hn60 : mn ≤ 60
  case neg =>
    have g2 : (60 : Int) < (mn : Int) := by omega
    have g3 : decide ((60 : Int) < (mn : Int)) = true := decide_eq_true g2
    go_wp2_with fail
    go_ret
    exact ⟨rfl, K1.below (Nat.le_refl _) (by simp)⟩
  have h2_mn : (mn : Int) ≤ 60 := by omega
  have h3_mn : decide ((60 : Int) < (mn : Int)) = false := decide_eq_false (by omega)
  clear hmni
  by_cases hf10 : mf ≤ 10
  case neg =>
    have g2 : (10 : Int) < (mf : Int) := by omega
    have g3 : decide ((10 : Int) < (mf : Int)) = true := decide_eq_true g2
    go_wp2_with fail
    go_ret
    exact ⟨rfl, K1.below (Nat.le_refl _) (by simp)⟩
  have h2_mf : (mf : Int) ≤ 10 := by omega
  have h3_mf : decide ((10 : Int) < (mf : Int)) = false := decide_eq_false (by omega)
  clear hmfi
  have hok := mk3_ok l r s
  obtain ⟨c, hc⟩ : ∃ c, c = mk3 l r s := ⟨_, rfl⟩
  rw [← hc] at hok
  obtain ⟨os, hos⟩ : ∃ os, os = fillL c.space (hdsL R V m) := ⟨_, rfl⟩
  have HLI := hid (linked_at w1 l r s hl hrr hs y0 m cm R V (HY.out.keep K1 (by simp)) (by omega) y1 mn cn G (HG.out.keep K1 (by simp)) (by omega) 0 (by omega) c hc os hos)
  clear hc
  go_wp2_with fail
  refine HLI.out.mono ?_
  rintro e w3 ⟨p, a, u, S, x, cp, y, cy, B, rfl, hn, hP, hub, hF, hU, hI, ⟨b1, b2, b3, b4, b5⟩, hB, hk3⟩
  have K3 := K1.trans hk3
  have HO := hid hok
  have HN := hid hn
  obtain ⟨L, hL⟩ : ∃ L, L = os.length := ⟨_, rfl⟩
  have hLm : L ≤ m := by rw [hL, hos]; exact fillL_len _ _ _ _
  have hLi : (L : Int) ≤ 30 := by omega
  have HL := hid hL
  rw [← hL] at hI ⊢
  obtain ⟨us, hus⟩ : ∃ us, us = lenL os := ⟨_, rfl⟩
  have HUS := hid hus
  rw [← hus]
  have husb : us ≤ c.space := by rw [hus]; exact hF.fits
  have hsp : c.space ≤ 4096 := hok.small.2.2
  have husi : (us : Int) ≤ 4096 := by omega
  have hfr := frm_le hok.small (show 0 ≤ 2 by omega)
  have hfs : c.frm 0 + c.space ≤ a.n := by rw [← hn]; exact frm_space 0 (by omega)
  have hwd := hF.wd hsp (lnkG_wd c os G mn 0 (by omega))
  have HX : Hid (∀ j : Nat, c.frm 0 ≤ j → j < c.frm 0 + us → ∃ x : Nat, S.now j = (x : Int) ∧ x < 18446744073709551616) := fun j h1 h2 => hwd.sp j h1 (by omega)
  have HFS := hid (And.intro husb (And.intro hsp (And.intro hfs hfr)))
  have HP := hid hP
  have HI := hid hI
  have HWB : Hid (∀ b ∈ [p, a.d, a.s, a.k, a.m], W.heap.size ≤ b ∧ b < w3.heap.size) := fun b hb' => by
    have h1 := K1.size
    have h2 := hP.pow.lt
    have h3 := hP.dev.dev.lt
    have h4 := hP.dev.now.lt
    have h5 := hP.dev.kept.lt
    have h6 := hP.dev.map.lt
    simp only [List.mem_cons, List.not_mem_nil, or_false] at hb'
    omega
  have HUB := hid hub
  have HU := hid hU
  have HD4 : Hid (a.d < w3.heap.size ∧ a.s < w3.heap.size ∧ a.k < w3.heap.size ∧ a.m < w3.heap.size) := ⟨hP.dev.dev.lt, hP.dev.now.lt, hP.dev.kept.lt, hP.dev.map.lt⟩
  have HK3 := hid K3
  have HH3 := hid (HH.out.keep K3 (by simp))
  have HFF := hid hF
  clear hm30 hn60 hm2 hm3 h2_mn h3_mn h2_mf h3_mf hos hL hLm hus husb hsp hfs hfr hwd hF hP hub hI hU hB b1 b2 b3 b4 b5 hk3 K1 c0 c1 c2 HLI hok hn K3 g_xb
  go_upto_region 8 with fail
  have hC4 := (At.new w3 (cfgO c)).alloc (bkO 0 (us : Nat) (.slice x c.roots cp))
  have hB4 := At.new (w3.alloc (cfgO c)) (bkO 0 (us : Nat) (.slice x c.roots cp))
  have k34 := ((Keeps.refl [] w3).alloc (cfgO c)).alloc (bkO 0 (us : Nat) (.slice x c.roots cp))
  simp only [World.size_alloc] at hB4
  obtain ⟨cb, hcb⟩ : ∃ q, q = w3.heap.size := ⟨_, rfl⟩
  obtain ⟨bb, hbb⟩ : ∃ q, q = w3.heap.size + 1 := ⟨_, rfl⟩
  obtain ⟨w4, hw4⟩ : ∃ w4, w4 = (w3.alloc (cfgO c)).alloc (bkO 0 (us : Nat) (.slice x c.roots cp)) := ⟨_, rfl⟩
  have hz4 : w4.heap.size = w3.heap.size + 2 := by rw [hw4]; simp
  rw [← hw4] at hC4 hB4 k34
  first | rw [← hw4] | skip
  rw [← hbb, ← hcb]
  rw [← hcb] at hC4
  rw [← hbb] at hB4
  have HZ4 : Hid (cb = w3.heap.size ∧ bb = cb + 1 ∧ w4.heap.size = cb + 2) := ⟨by omega, by omega, by omega⟩
  have HP4 := hid (HP.out.keep0 k34)
  have HC4 := hid hC4
  have HB4 := hid hB4
  have HK4 := hid (HK3.out.trans k34)
  have HK34 := hid k34
  have HI4 := hid (HI.out.keep k34 (by simp))
  have HH4 := hid (HH3.out.keep k34 (by simp))
  clear hw4 hz4 hcb hbb hC4 hB4 k34
  have HPB : Hid (∀ j, j < L → c.frm 0 + posL os j ≤ 100000) := fun j hj => by
    have h1 := posN_end (l := os) (i := j) (by have := HL.out; omega)
    have h2 := HUS.out
    have h3 := HFS.out
    omega
  have HMF : Hid (mf ≤ 10) := hf10
  clear hf10
  have han : a.n ≤ 17592186044416 := by
    have h1 := HP4.out.dev.few
    have h2 := a.n8
    omega
  have HAN := hid han
  clear han
  go_wp2_with fail
  refine (words_at w4 p a S HP4.out.dev).mono ?_
  rintro e w5 ⟨v5, rfl, hv5, k45⟩
  obtain ⟨g5, cap5, rfl, hg5, hgb5, _, hR5⟩ := hv5.reads
  have HR5 := hid hR5
  have HK45 := hid k45
  clear hv5 hg5 hgb5 hR5 k45
  go_wp2_with fail
  refine (lnew_at w5 (some ⟨g5, 0, none⟩) a.n cap5 a.L S.now HR5.out (by have := a.n8; omega) HAN.out).mono ?_
  rintro e w6 ⟨pe, ae, rfl, haL, hDe, hAe, hbe, k56⟩
  have hen : ae.n = a.n := by rw [ae.n8, a.n8, haL]
  obtain ⟨Se, hSe⟩ : ∃ Se : DS, Se = { now := fun i => if i < a.n then S.now i else 0, kept := fun i => if i < a.n then S.now i else 0, tok := fun _ => 0, is := fun _ => false } := ⟨_, rfl⟩
  rw [← hSe] at hDe
  have HSE : Hid (∀ j, j < a.n → Se.now j = S.now j) := fun j hj => by rw [hSe]; exact if_pos hj
  have HE6 : Hid (Pw w6 pe ae (-1) 0 Se) := ⟨hDe, hAe, Int.le_refl 0, .inl (by omega)⟩
  have HEN := hid hen
  have HP6 := hid (HP4.out.keep0 (HK45.out.trans k56))
  have HK46 := hid (HK45.out.trans k56)
  have HWE : Hid (∀ b ∈ [pe, ae.d, ae.s, ae.k, ae.m], w4.heap.size ≤ b ∧ b < w6.heap.size) := fun b hb => by
    have h1 := HK45.out.size
    have h2 := hAe.lt
    have h3 := hDe.dev.lt
    have h4 := hDe.now.lt
    have h5 := hDe.kept.lt
    have h6 := hDe.map.lt
    simp only [List.mem_cons, List.not_mem_nil, or_false] at hb
    omega
  clear haL hDe hAe hbe k56 hen hSe
  obtain ⟨f5, hf5⟩ : ∃ f5 : Nat → Int, f5 = fun i => ((pkV H (fun j => c.frm 0 + posL os j) L i : Nat) : Int) := ⟨_, rfl⟩
  have HF5 : Hid (∀ i, i < mf → 0 ≤ f5 i ∧ f5 i ≤ 100000) := fun i hi => by
    have hh := HH4.out
    obtain ⟨b, off, _, _, hcl⟩ := hh.resolve_left (by omega)
    have h1 := pkV_le (G := H) (P := fun j => c.frm 0 + posL os j) (n := L) (i := i) (hcl i hi).2 HPB.out
    rw [hf5]
    show 0 ≤ ((pkV H (fun j => c.frm 0 + posL os j) L i : Nat) : Int) ∧ ((pkV H (fun j => c.frm 0 + posL os j) L i : Nat) : Int) ≤ 100000
    omega
  go_wp2_with fail
  refine (pick_at w6 y y2 L cy mf cf H (fun j => c.frm 0 + posL os j) (HH4.out.keep HK46.out (by simp)) (HI4.out.keep HK46.out (by simp)).reads HPB.out (by have := HMF.out; omega) (by omega)).mono ?_
  rintro e w7 ⟨x7, cp7, rfl, hO7, k67⟩
  rw [← hf5] at hO7
  have HO7 := hid hO7
  have HK47 := hid (HK46.out.trans k67)
  have HP7 := hid (HP6.out.keep0 k67)
  have HE7 := hid (HE6.out.keep0 k67)
  have HZ67 := hid k67.size
  clear hO7 k67 hf5 HE6 HP6
  obtain ⟨fR, hfR⟩ : ∃ fR : Nat → Int, fR = fun j => lnkG c os G mn 0 (refL os + j) := ⟨_, rfl⟩
  have hfR0 : ∀ j, 0 ≤ fR j := fun j => by
    obtain ⟨v, h1, _⟩ := lnkG_low c os G mn (by have := HFS.out; have := HUS.out; omega) (refL os + j)
    rw [hfR]
    show 0 ≤ lnkG c os G mn 0 (refL os + j)
    rw [h1]
    omega
  obtain ⟨P, hPq⟩ : ∃ P : CP, P = ⟨p, a, S, c, 0, us, wsN mf f5, wsN c.roots fR⟩ := ⟨_, rfl⟩
  have hPf : P.p = p ∧ P.a = a ∧ P.S = S ∧ P.c = c ∧ P.k = 0 ∧ P.us = us ∧ P.ws.length = mf ∧ P.rs.length = c.roots := by rw [hPq]; exact ⟨rfl, rfl, rfl, rfl, rfl, rfl, wsN_len _ _, wsN_len _ _⟩
  have hPok : P.Ok := by
    rw [hPq, hfR, HUS.out]
    refine ok14 p HO.out HN.out HFF.out (nmdP_start S c os) _ (fun v hv => ?_) (by rw [wsN_len]; have := HMF.out; omega)
    obtain ⟨i, hi, rfl⟩ := List.mem_map.1 hv
    have h1 := HF5.out i (List.mem_range.1 hi)
    omega
  obtain ⟨Q, hQq⟩ : ∃ Q : CP, Q = ⟨pe, ae, Se, P.c, P.k, P.us, P.ws, P.rs⟩ := ⟨_, rfl⟩
  have hse : ∀ j, j < P.a.n → Se.now j = P.S.now j := fun j hj => by rw [hPf.2.2.1]; rw [hPf.2.1] at hj; exact HSE.out j hj
  have hQf : Q.p = pe ∧ Q.a = ae ∧ Q.S = Se ∧ Q.c = c ∧ Q.k = 0 ∧ Q.us = us ∧ Q.ws.length = mf ∧ Q.rs.length = c.roots := by rw [hQq]; exact ⟨rfl, rfl, rfl, hPf.2.2.2.1, hPf.2.2.2.2.1, hPf.2.2.2.2.2.1, hPf.2.2.2.2.2.2.1, hPf.2.2.2.2.2.2.2⟩
  have hQok : Q.Ok := by rw [hQq]; exact hPok.same (by rw [HEN.out, hPf.2.1]) hse
  have hQN : Q.N = P.N := by rw [hQq]; exact CP.N_same hPok hse
  have hQLS : Q.LS = P.LS := by rw [hQq]; exact CP.LS_same hPok hse
  have hNf : P.N ≤ 900 := by
    have h1 := P.len
    have h2 := lenL_few os HFF.out.few
    have h3 := HL.out
    have h4 := HMF.out
    have h5 := HUS.out
    show P.ws.length + P.LS.length + 1 ≤ 900
    rw [hPf.2.2.2.2.2.2.1]
    rw [hPf.2.2.2.2.2.1] at h1
    omega
  have hreads : ∀ w', Keeps [] w7 w' → Reads w' x7 (wsN mf f5).length (fun j => (((wsN mf f5).getD j 0 : Nat) : Int)) ∧ Reads w' x (wsN c.roots fR).length (fun j => (((wsN c.roots fR).getD j 0 : Nat) : Int)) := fun w' hk => by
    refine ⟨reads_ws ((HO7.out.rd).keep hk (by simp)) fun j hj => (HF5.out j hj).1, reads_ws ?_ fun j _ => hfR0 j⟩
    rw [hfR]
    exact (HU.out.rd).keep ((HK34.out.trans HK47.out).trans hk) (by simp)
  have hws : P.ws = wsN mf f5 ∧ P.rs = wsN c.roots fR := by rw [hPq]; exact ⟨rfl, rfl⟩
  have hwq : Q.ws = wsN mf f5 ∧ Q.rs = wsN c.roots fR := by rw [hQq]; exact hws
  have HNP : Hid (∀ w', Keeps [] w7 w' → Calls Tryz.prog 15 #[ptr a.d, cfgV c, bkV 0 us (.slice x c.roots cp), .slice x7 mf cp7] w' fun e w'' => ∃ xq T, e = .returned (ptr xq) ∧ Col P w'' xq T 0 ∧ (∀ b ∈ T, w'.heap.size ≤ b) ∧ Keeps [] w' w'') := fun w' hk => by
    have h := C.new P w' hPok (by rw [hPf.1, hPf.2.1, hPf.2.2.1]; exact (HP7.out.keep0 hk).dev) x cp (by rw [hws.2]; exact (hreads w' hk).2) x7 cp7 (by rw [hws.1]; exact (hreads w' hk).1)
    rw [hPf.2.1, hPf.2.2.2.1, hPf.2.2.2.2.1, hPf.2.2.2.2.2.1, hPf.2.2.2.2.2.2.1, hPf.2.2.2.2.2.2.2] at h
    exact h
  have HNQ : Hid (∀ w', Keeps [] w7 w' → Calls Tryz.prog 15 #[ptr ae.d, cfgV c, bkV 0 us (.slice x c.roots cp), .slice x7 mf cp7] w' fun e w'' => ∃ xq T, e = .returned (ptr xq) ∧ Col Q w'' xq T 0 ∧ (∀ b ∈ T, w'.heap.size ≤ b) ∧ Keeps [] w' w'') := fun w' hk => by
    have h := C.new Q w' hQok (by rw [hQf.1, hQf.2.1, hQf.2.2.1]; exact (HE7.out.keep0 hk).dev) x cp (by rw [hwq.2]; exact (hreads w' hk).2) x7 cp7 (by rw [hwq.1]; exact (hreads w' hk).1)
    rw [hQf.2.1, hQf.2.2.2.1, hQf.2.2.2.2.1, hQf.2.2.2.2.2.1, hQf.2.2.2.2.2.2.1, hQf.2.2.2.2.2.2.2] at h
    exact h
  have HPF := hid hPf
  have HQF := hid hQf
  have HPOK := hid hPok
  have HQOK := hid hQok
  have HQQ := hid (And.intro hQN (And.intro hQLS (And.intro hNf hse)))
  have HCZ := hid (fun (w' : World) (kk : Keeps [] w7 w') => show w'.cell? ⟨cb, 0, none⟩ = some (.int .i64 c.log) ∧ w'.cell? ⟨cb, 1, none⟩ = some (.int .i64 c.roots) ∧ w'.cell? ⟨cb, 2, none⟩ = some (.int .i64 c.space) ∧ w'.cell? ⟨bb, 0, none⟩ = some (.int .i64 0) ∧ w'.cell? ⟨bb, 1, none⟩ = some (.int .i64 us) ∧ w'.cell? ⟨bb, 2, none⟩ = some (.slice x c.roots cp) from by
    have h1 := (HK47.out.trans kk).at HC4.out (by simp)
    have h2 := (HK47.out.trans kk).at HB4.out (by simp)
    exact ⟨h1.cell 0 rfl, h1.cell 1 rfl, h1.cell 2 rfl, h2.cell 0 rfl, h2.cell 1 rfl, h2.cell 2 rfl⟩)
  clear hfR hfR0 hPq hPf hPok hQq hse hQf hQok hQN hQLS hNf hreads hws hwq
  go_upto_region 12 with fail
  go_cut [15, 16] from 52 to 61 (fun s15 s16 wx => ∃ (yb zb : Nat) (Ty Tz : List Nat), s15 = ptr yb ∧ s16 = ptr zb ∧ Col P wx yb Ty 0 ∧ Col Q wx zb Tz 0 ∧ (∀ b ∈ Ty, w7.heap.size ≤ b) ∧ (∀ b ∈ Tz, w7.heap.size ≤ b) ∧ (∀ b ∈ Ty, b ∉ Tz) ∧ Keeps [] w7 wx)
  case first =>
    have kk : Keeps [] w7 w7.drew := (Keeps.refl [] w7).drew
    go_region_held3 (fun w' => w'.cell? ⟨cb, 0, none⟩ = some (.int .i64 c.log) ∧ w'.cell? ⟨cb, 1, none⟩ = some (.int .i64 c.roots) ∧ w'.cell? ⟨cb, 2, none⟩ = some (.int .i64 c.space) ∧ w'.cell? ⟨bb, 0, none⟩ = some (.int .i64 0) ∧ w'.cell? ⟨bb, 1, none⟩ = some (.int .i64 us) ∧ w'.cell? ⟨bb, 2, none⟩ = some (.slice x c.roots cp))
      (first | exact HCZ.out _ (k2.trans hk2) | exact HCZ.out _ k2 | exact HCZ.out _ kk)
      (first
        | (go_at_call 15; refine (HNQ.out _ k2).mono ?_; rintro e w' ⟨xq2, T2, rfl, hC2, hT2, hk2⟩)
        | (go_at_call 15; refine (HNP.out _ kk).mono ?_; rintro e w' ⟨xq1, T1, rfl, hC1, hT1, hk1⟩; have k2 := kk.trans hk1))
    all_goals
      have hE : ∃ (yb zb : Nat) (Ty Tz : List Nat), ptr xq1 = ptr yb ∧ ptr xq2 = ptr zb ∧ Col P w' yb Ty 0 ∧ Col Q w' zb Tz 0 ∧ (∀ b ∈ Ty, w7.heap.size ≤ b) ∧ (∀ b ∈ Tz, w7.heap.size ≤ b) ∧ (∀ b ∈ Ty, b ∉ Tz) ∧ Keeps [] w7 w' :=
        ⟨xq1, xq2, T1, T2, rfl, rfl, C.keep hC1 hk2 (by simp), hC2, fun b hb => Nat.le_trans kk.size (hT1 b hb), fun b hb => Nat.le_trans k2.size (hT2 b hb), fun b hb h => by
          have h1 := C.lt hC1 b hb
          have h2 := hT2 b h
          omega, k2.trans hk2⟩
      have HE := hid hE
      clear hE hC1 hC2 hT1 hT2 hk1 hk2 k2 kk
      go_wp2_with fail
      go_meet
      exact HE.out
  case rest =>
    obtain ⟨yb, zb, Ty, Tz, rfl, rfl, hCy, hCz, hTy, hTz, hYZ, hK8⟩ := hcut
    obtain ⟨w8, hw8⟩ : ∃ w8, w8 = wc := ⟨_, rfl⟩
    subst hw8
    have hlP : ∀ b ∈ [p, a.d, a.s, a.k, a.m], b < w4.heap.size := fun b hb => by
      have h1 := (HWB.out b hb).2
      have h2 := HK34.out.size
      omega
    have hdP : ∀ b, w7.heap.size ≤ b → b ∉ [P.p, P.a.d, P.a.s, P.a.k, P.a.m] ∧ b ∉ [Q.p, Q.a.d, Q.a.s, Q.a.k, Q.a.m] := fun b hb => by
      rw [HPF.out.1, HPF.out.2.1, HQF.out.1, HQF.out.2.1]
      have h3 := HK47.out.size
      have h4 := HZ67.out
      exact ⟨fun h => by have := hlP b h; omega, fun h => by have := (HWE.out b h).2; omega⟩
    have HLP := hid hlP
    have HDP := hid hdP
    have hPy : Pw w8 P.p P.a (-1) u P.S := by rw [HPF.out.1, HPF.out.2.1, HPF.out.2.2.1]; exact HP7.out.keep0 hK8
    have HRY := hid (C.run hCy hPy (by have := HUB.out; omega) P.at_start (fun b hb => (hdP b (hTy b hb)).1) (by unfold CP.N; omega))
    have HCZ8 := hid hCz
    have HT8 := hid (And.intro hTy (And.intro hTz hYZ))
    have HK8 := hid hK8
    clear hCy hCz hTy hTz hYZ hK8 hlP hdP hPy HCZ HNP HNQ
    go_wp2_with fail
    refine HRY.out.mono ?_
    rintro e w9 ⟨T9, u9, S9, rfl, hC9, hP9, hat9, _, hu9, hT9, hk9⟩
    have hoff9 : ∀ b, (b ∈ Tz ∨ b ∈ [Q.p, Q.a.d, Q.a.s, Q.a.k, Q.a.m]) → b ∉ Ty ++ [P.p, P.a.s, P.a.k, P.a.m] := fun b hb h => by
      rcases List.mem_append.1 h with h | h
      · rcases hb with hb | hb
        · exact HT8.out.2.2 b h hb
        · exact (HDP.out b (HT8.out.1 b h)).2 hb
      · have h2 : b ∈ [P.p, P.a.d, P.a.s, P.a.k, P.a.m] := by simp only [List.mem_cons, List.not_mem_nil, or_false] at h ⊢; rcases h with h | h | h | h <;> simp [h]
        rcases hb with hb | hb
        · exact (HDP.out b (HT8.out.2.1 b hb)).1 h2
        · rw [HPF.out.1, HPF.out.2.1] at h2
          rw [HQF.out.1, HQF.out.2.1] at hb
          have h3 := HLP.out b h2
          have h4 := (HWE.out b hb).1
          omega
    have hPz9 : Pw w9 Q.p Q.a (-1) 0 Q.S := by
      have h0 : Pw w8 Q.p Q.a (-1) 0 Q.S := by rw [HQF.out.1, HQF.out.2.1, HQF.out.2.2.1]; exact HE7.out.keep0 HK8.out
      exact h0.keep hk9 (hoff9 _ (.inr (by simp))) (hoff9 _ (.inr (by simp))) (hoff9 _ (.inr (by simp))) (hoff9 _ (.inr (by simp))) (hoff9 _ (.inr (by simp)))
    have hCz9 : Col Q w9 zb Tz 0 := C.keep HCZ8.out hk9 fun b hb => hoff9 b (.inl hb)
    have HY9 := hid (And.intro hC9 (And.intro hP9 (And.intro hat9 hT9)))
    have HZ9 := hid (And.intro hCz9 hPz9)
    have HK9 := hid hk9
    clear hC9 hP9 hat9 hu9 hT9 hk9 hoff9 hPz9 hCz9 HRY
    have hN1 : 1 ≤ Q.N := by unfold CP.N; omega
    go_wp2_with fail
    go_loopg [17] Q.N (fun rr s17 wr => ∃ (j : Nat) (T1 : List Nat) (u1 : Int) (S1 : DS), j + rr = Q.N ∧ j < Q.N ∧ s17 = .int .i64 (j : Nat) ∧ Col Q wr zb T1 j ∧ Pw wr Q.p Q.a (-1) u1 S1 ∧ Q.at j S1 ∧ u1 ≤ 100000 * (j : Int) ∧ (∀ b ∈ T1, b ∈ Tz ∨ w9.heap.size ≤ b) ∧ Keeps (Tz ++ [Q.p, Q.a.s, Q.a.k, Q.a.m]) w9 wr)
    case atStart => exact ⟨0, Tz, 0, Q.S, by omega, by omega, rfl, HZ9.out.1, HZ9.out.2, Q.at_start, by omega, fun b hb => .inl hb, Keeps.refl _ _⟩
    case round =>
      obtain ⟨j, T1, u1, S1, hj, hjN, rfl, hC1, hP1, hJ1, hu1, hT1, hK1⟩ := hrel
      have hNf := HQQ.out.2.2.1
      have hQN := HQQ.out.1
      have hji : (j : Int) ≤ 900 := by omega
      have hsz9 : w7.heap.size ≤ w9.heap.size := Nat.le_trans HK8.out.size HK9.out.size
      have hA1 : ∀ b ∈ T1, b ∉ [Q.p, Q.a.d, Q.a.s, Q.a.k, Q.a.m] := fun b hb => by
        rcases hT1 b hb with h | h
        · exact (HDP.out b (HT8.out.2.1 b h)).2
        · exact (HDP.out b (by omega)).2
      have HST := hid (C.step hC1 hP1 (by omega) hJ1 hA1 hjN)
      have HE := hid (And.intro hj (And.intro hjN (And.intro hu1 (And.intro hT1 (And.intro hK1 (And.intro hNf hQN))))))
      clear hj hjN hC1 hP1 hJ1 hu1 hT1 hK1 hA1 hNf hQN hsz9
      go_wp2_with fail
      refine HST.out.mono ?_
      rintro e w2 ⟨T2, u2, S2, rfl, hC2, hP2, hJ2, _, hu2, hT2, hK2⟩
      have hKK : Keeps (Tz ++ [Q.p, Q.a.s, Q.a.k, Q.a.m]) w9 w2 := HE.out.2.2.2.2.1.new hK2 fun b hb => by
        rcases List.mem_append.1 hb with hb | hb
        · rcases HE.out.2.2.2.1 b hb with h | h
          · exact .inl (List.mem_append_left _ h)
          · exact .inr h
        · exact .inl (List.mem_append_right _ hb)
      have hTT : ∀ b ∈ T2, b ∈ Tz ∨ w9.heap.size ≤ b := fun b hb => by
        rcases hT2 b hb with h | h
        · exact HE.out.2.2.2.1 b h
        · exact .inr (Nat.le_trans HE.out.2.2.2.2.1.size h)
      have HR := hid (And.intro hC2 (And.intro hP2 (And.intro hJ2 (And.intro hu2 (And.intro hKK hTT)))))
      clear hC2 hP2 hJ2 hu2 hT2 hK2 hKK hTT HST
      by_cases hend : j + 1 = Q.N
      · obtain ⟨dn, hdn⟩ : ∃ dn, dn = decide (j + 1 = Q.N) := ⟨_, rfl⟩
        rw [← hdn]
        obtain rfl : dn = true := by rw [hdn]; exact decide_eq_true hend
        have HEND := hid hend
        clear hdn hend
        go_wp2_with fail
        obtain ⟨hC2, hP2, hJ2, hu2, hKK, hTT⟩ := HR.out
        obtain ⟨hC9, hP9, hat9, hT9⟩ := HY9.out
        rw [HEND.out] at hC2 hJ2
        have hdev : ∀ b ∈ [P.p, P.a.d, P.a.s, P.a.k, P.a.m], b ∉ Tz ++ [Q.p, Q.a.s, Q.a.k, Q.a.m] := fun b hb h => by
          rcases List.mem_append.1 h with h | h
          · exact (HDP.out b (HT8.out.2.1 b h)).1 hb
          · have h2 : b ∈ [Q.p, Q.a.d, Q.a.s, Q.a.k, Q.a.m] := by simp only [List.mem_cons, List.not_mem_nil, or_false] at h ⊢; rcases h with h | h | h | h <;> simp [h]
            rw [HPF.out.1, HPF.out.2.1] at hb
            rw [HQF.out.1, HQF.out.2.1] at h2
            have h3 := HLP.out b hb
            have h4 := (HWE.out b h2).1
            omega
        have hPd := hP9.keep hKK (hdev _ (by simp)) (hdev _ (by simp)) (hdev _ (by simp)) (hdev _ (by simp)) (hdev _ (by simp))
        have hCy2 : Col P w2 yb T9 P.N := C.keep hC9 hKK fun b hb h => by
          have h5 : ∀ b ∈ Tz, b < w8.heap.size := C.lt HCZ8.out
          have h8 := HK8.out.size
          rcases List.mem_append.1 h with h | h
          · rcases hT9 b hb with h6 | h6
            · exact HT8.out.2.2 b h6 h
            · have := h5 b h; omega
          · have h2 : b ∈ [Q.p, Q.a.d, Q.a.s, Q.a.k, Q.a.m] := by simp only [List.mem_cons, List.not_mem_nil, or_false] at h ⊢; rcases h with h | h | h | h <;> simp [h]
            rcases hT9 b hb with h6 | h6
            · exact (HDP.out b (HT8.out.1 b h6)).2 h2
            · exact (HDP.out b (by omega)).2 h2
        have hob : ∀ x ∈ P.LS, (obW P.S P.c P.k P.us x).isSome = true := fun x hx => P.obs hx
        have hQe : Q.c = P.c ∧ Q.k = P.k ∧ Q.us = P.us := ⟨HQF.out.2.2.2.1.trans HPF.out.2.2.2.1.symm, HQF.out.2.2.2.2.1.trans HPF.out.2.2.2.2.1.symm, HQF.out.2.2.2.2.2.1.trans HPF.out.2.2.2.2.2.1.symm⟩
        have hfs2 : P.c.frm P.k + P.us ≤ P.a.n := by
          have h1 := frm_space (c := P.c) P.k HPOK.out.k
          have h2 := HPOK.out.n
          have h3 := HPOK.out.us
          omega
        have hQS : ∀ j, j < P.a.n → Q.S.now j = P.S.now j := fun j hj => by rw [HQF.out.2.2.1]; exact HQQ.out.2.2.2 j hj
        have hc2 : Cpd Q.S S2 P.c P.k P.LS := by
          have h := CP.fin hJ2
          rw [HQQ.out.2.1, hQe.1, hQe.2.1] at h
          exact h
        have heq : ∀ j, j < a.n → S2.now j = S9.now j := by
          have h := cpd_eq (CP.fin hat9) hc2 hfs2 hQS hob
          rw [HPF.out.2.1] at h
          exact h
        have husd : szF Q.S (Q.cs Q.N) = szF P.S (P.cs P.N) := by
          rw [Q.cs_end (by unfold CP.N; omega), P.cs_end (by unfold CP.N; omega), HQQ.out.2.1]
          exact szF_same (fun j _ hj => hQS j (by omega)) P.LS hob
        rw [HPF.out.1, HPF.out.2.1] at hPd
        rw [HQF.out.1, HQF.out.2.1] at hP2
        have HWD := hid (words_at w2 p a S9 hPd.dev)
        have HWX := hid (fun (w' : World) (hk : Keeps [] w2 w') => words_at w' pe ae S2 (hP2.keep0 hk).dev)
        have HEQ := hid heq
        obtain ⟨U1, hU1⟩ : ∃ U1, U1 = szF P.S (P.cs P.N) := ⟨_, rfl⟩
        have HBY := hid (fun (w' : World) (hk : Keeps [] w2 w') => C.block (C.keep hCy2 hk (by simp)))
        have HBZ := hid (fun (w' : World) (hk : Keeps [] w2 w') => C.block (C.keep hC2 hk (by simp)))
        rw [← hU1] at HBY
        rw [husd, ← hU1] at HBZ
        have HK2 : Hid (Keeps [] W w2) := by
          have hW : ∀ b ∈ [P.p, P.a.d, P.a.s, P.a.k, P.a.m], W.heap.size ≤ b := fun b hb => by rw [HPF.out.1, HPF.out.2.1] at hb; exact (HWB.out b hb).1
          have hW2 : ∀ b ∈ [Q.p, Q.a.d, Q.a.s, Q.a.k, Q.a.m], W.heap.size ≤ b := fun b hb => by rw [HQF.out.1, HQF.out.2.1] at hb; exact Nat.le_trans HK4.out.size (HWE.out b hb).1
          have hW7 : W.heap.size ≤ w7.heap.size := Nat.le_trans HK4.out.size HK47.out.size
          refine (((HK4.out.trans HK47.out).trans HK8.out).new HK9.out fun b hb => .inr ?_).new hKK fun b hb => .inr ?_
          · rcases List.mem_append.1 hb with h | h
            · exact Nat.le_trans hW7 (HT8.out.1 b h)
            · exact hW b (by simp only [List.mem_cons, List.not_mem_nil, or_false] at h ⊢; rcases h with h | h | h | h <;> simp [h])
          · rcases List.mem_append.1 hb with h | h
            · exact Nat.le_trans hW7 (HT8.out.2.1 b h)
            · exact hW2 b (by simp only [List.mem_cons, List.not_mem_nil, or_false] at h ⊢; rcases h with h | h | h | h <;> simp [h])
        clear hC2 hP2 hJ2 hu2 hKK hTT hC9 hP9 hat9 hT9 hdev hPd hCy2 hob hQe hfs2 hQS hc2 heq husd hU1
        refine HWD.out.mono ?_
        rintro e w10 ⟨v10, rfl, hv10, k10⟩
        obtain ⟨g10, cap10, rfl, _, _, _, hR10⟩ := hv10.reads
        have HR10 := hid hR10
        have HK10 := hid k10
        clear hv10 hR10 k10
        go_wp2_with fail
        refine (HWX.out w10 HK10.out).mono ?_
        rintro e w11 ⟨v11, rfl, hv11, k11⟩
        rw [HEN.out] at hv11
        obtain ⟨g11, cap11, rfl, _, _, _, hR11⟩ := hv11.reads
        have HR11 := hid (And.intro (HR10.out.keep k11 (by simp)) hR11)
        have HK11 := hid (HK10.out.trans k11)
        clear hv11 hR11 k11
        go_wp2_with fail
        refine (equal_true w11 _ _ a.n cap10 cap11 S9.now S2.now HR11.out.1 HR11.out.2 (fun i hi => (HEQ.out i hi).symm) (by have := HAN.out; omega)).mono ?_
        rintro e w12 ⟨rfl, k12⟩
        have HK12 := hid (HK11.out.trans k12)
        have hf1 := fld_used
        clear k12
        go_wp2_with fail
        refine (HBY.out w12 HK12.out).mono ?_
        rintro e w13 ⟨y13, c13, rfl, _, k13⟩
        have HK13 := hid (HK12.out.trans k13)
        clear k13
        go_wp2_with fail
        refine (HBZ.out w13 HK13.out).mono ?_
        rintro e w14 ⟨y14, c14, rfl, _, k14⟩
        have HK14 := hid ((HK2.out.trans (HK13.out.trans k14)).below (Nat.le_refl _) (by simp))
        clear k14
        go_wp2_with fail
        go_ret
        exact ⟨rfl, HK14.out⟩
      · obtain ⟨dn, hdn⟩ : ∃ dn, dn = decide (j + 1 = Q.N) := ⟨_, rfl⟩
        rw [← hdn]
        obtain rfl : dn = false := by rw [hdn]; exact decide_eq_false hend
        have HEND := hid hend
        have t1 : (j : Int) + 1 ≤ 1000 := by omega
        clear hdn hend
        go_wp2_with fail
        go_roundg (Q.N - (j + 1))
        case measure => (have := HE.out; omega)
        case rel =>
          obtain ⟨h1, h2, h3, h4, h5, h6⟩ := HR.out
          exact ⟨j + 1, T2, u2, S2, by have := HE.out; have := HEND.out; omega, by have := HE.out; have := HEND.out; omega, by go_num, h1, h2, h3, by have := HE.out; omega, h6, h5⟩

theorem cheneyParts_walk (l r s : Int) (y : Option Addr) (m cm : Nat) (z : Nat → Nat → Int) (y1 : Option Addr) (mn cn : Nat) (g : Nat → Int) (y2 : Option Addr) (mf cf : Nat) (h : Nat → Int) (W : World) (wl : (Lit.int .u16 l).wf = true) (wr : (Lit.int .u16 r).wf = true) (ws : (Lit.int .u16 s).wf = true)
    (R2 : m * 2 = 0 ∨ ∃ b off, y = some ⟨b, off, none⟩ ∧ b < W.heap.size ∧ ∀ i j, i < m → j < 2 → W.cell? ⟨b, off + (i * 2 + j), none⟩ = some (.int ((fun j => if j = 0 then IntKind.u8 else IntKind.u8) j) (z i j)) ∧ (Lit.int ((fun j => if j = 0 then IntKind.u8 else IntKind.u8) j) (z i j)).wf = true) (hm : m ≤ maxLen)
    (R : ReadsV (Value.int .u16) W y1 mn g) (hg : ∀ i, i < mn → (Lit.int .u16 (g i)).wf = true) (hmn : mn ≤ maxLen)
    (R3 : ReadsV (Value.int .u16) W y2 mf h) (hh : ∀ i, i < mf → (Lit.int .u16 (h i)).wf = true) (hmf : mf ≤ maxLen) :
    Calls Tryz.prog 7 #[.agg #[.int .u16 l, .int .u16 r, .int .u16 s], .slice y m cm, .slice y1 mn cn, .slice y2 mf cf] W fun e w' => e = .returned (.bool true) ∧ Below W.heap.size W w' := by
  obtain ⟨l, rfl, hl⟩ := c3_open wl
  obtain ⟨r, rfl, hr⟩ := c3_open wr
  obtain ⟨s, rfl, hs⟩ := c3_open ws
  exact cparts_small colC_is l r s y m cm _ _ y1 mn cn _ y2 mf cf _ W hl hr hs (readsH_of R2) (by unfold maxLen at hm; omega) (reads16_any R hg) (by unfold maxLen at hmn; omega) (reads16_any R3 hh) (by unfold maxLen at hmf; omega)

end Go.Proofs.YtbalmmnggfgpkaaGreat

