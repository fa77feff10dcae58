/- The walk of the law CheneySteps, over what is asked of a collector's functions. -/
import Derived.Test.YtbalmmnggfgpkaaGreatAwk14
import Derived.Test.YtbalmmnggfgpkaaGreatTwo
import Derived.Test.YtbalmmnggfgpkaaGreatPik
import Derived.Test.YtbalmmnggfgpkaaGreatRea
import Derived.Test.YtbalmmnggfgpkaaGreatApp
import Derived.Test.YtbalmmnggfgpkaaGreatCkl
import Derived.BigQuiet
import Derived.Deep.RegionHeld3
namespace Go.Proofs.YtbalmmnggfgpkaaGreat
open Go.RowKit Go.OpenShut

set_option maxRecDepth 100000 in
set_option maxHeartbeats 400000 in
theorem steps1_at (w : World) (b : Nat) (bits : Int) (i : Nat) (h : At w b (wordO bits)) (hi : i ≤ 17592186044416) :
    Calls Tryz.prog 28 #[.int .i64 i, ptr b] w fun e w' => e = .returned (.int .u8 (chV bits i)) ∧ w = w' := by
  have c1 := h.cell 0 rfl
  go_enter Tryz.func28, Tryz.ntmps28
  go_wp2_with fail
  refine (choice_at w bits i hi).mono ?_
  rintro e w1 ⟨rfl, rfl⟩
  go_wp2
  go_ret
  exact ⟨rfl, rfl⟩

theorem steps1_chooser (b : Nat) (bits : Int) (n : Nat) (hn : n ≤ 17592186044416) :
    Chooser 28 #[ptr b] n (chV bits) [] [b] (fun _ w => At w b (wordO bits)) where
  inv := fun w i => by simp [go_sem]
  call := fun i w hi h => (steps1_at w b bits i h (by omega)).mono fun e w' ⟨he, hw⟩ => ⟨he, by rw [← hw]; exact h, by rw [← hw]; exact Keeps.refl _ _⟩
  keep := fun _ w w' S h hk hs => hk.at h (hs b (by simp))
  low := chV_low bits

/-- A part of a row. -/
theorem run_sub (w : World) (g n cap lo hi : Nat) (h1 : lo ≤ hi) (h2 : hi ≤ cap) (h3 : lo < cap) (z : Int) (hz : z = (hi : Int)) :
    (Instr.slice 31 (.slice (some ⟨g, 0, none⟩) n cap) (some (.int .i64 (lo : Int))) (some (.int .i64 z)) none).run Tryz.prog w = .ok (.slice (some ⟨g, lo, none⟩) (hi - lo) (cap - lo)) w := by
  subst hz
  have hi' : ∃ i, Tryz.prog.info? 40 = some i ∧ i.size = 1 := by
    have h : (Tryz.prog.info? 40).map (fun i => i.size) = some 1 := by kernel_rfl
    exact Option.map_eq_some_iff.1 h
  obtain ⟨ti, hi1, hi2⟩ := hi'
  simp [Instr.slice, run_underlying Tryz.underlying31, Instr.sliceBounds, sizeOf, typeInfo, hi1, hi2, go_sem, h1, h2]
  try omega

set_option maxRecDepth 100000 in
set_option maxHeartbeats 8000000 in
theorem csteps_small {Col : CP → World → Nat → List Nat → Nat → Prop} (C : ColK Col) (l r s : Nat) (y0 : Option Addr) (m cm : Nat) (R V : Nat → Nat) (y1 : Option Addr) (mn cn : Nat) (G : Nat → Nat) (y2 : Option Addr) (mf cf : Nat) (H : Nat → Nat) (bits : Int) (W : World) (hl : l ≤ 65535) (hrr : r ≤ 65535) (hs : s ≤ 65535)
    (hy : ReadsH W y0 m R V) (hm : m ≤ 9223372036854775807) (hg : ReadsW W y1 mn G) (hmn : mn ≤ 9223372036854775807) (hh : ReadsW W y2 mf H) (hmf : mf ≤ 9223372036854775807) (hbits : 0 ≤ bits ∧ bits < 18446744073709551616) :
    Calls Tryz.prog 4 #[c3V l r s, .slice y0 m cm, .slice y1 mn cn, .slice y2 mf cf, .int .u64 bits] W fun e w' => e = .returned (.bool true) ∧ Below W.heap.size W w' := by
  have hmi : (m : Int) ≤ 9223372036854775807 := by omega
  have hmni : (mn : Int) ≤ 9223372036854775807 := by omega
  have hmfi : (mf : Int) ≤ 9223372036854775807 := by omega
  have HG := hid hg
  have HH := hid hh
  have HY := hid hy
  clear hg hh hy
  have HBT := hid hbits
  clear hbits
  go_enter Tryz.func4, Tryz.ntmps4
  go_wp2_with fail
  have h_xb := (At.new W (c3O l r s)).alloc (wordO bits)
  have h_sb := At.new (W.alloc (c3O l r s)) (wordO bits)
  have K0 := ((Keeps.refl [] W).alloc (c3O l r s)).alloc (wordO bits)
  simp only [World.size_alloc] at h_sb
  obtain ⟨xb, hq_xb⟩ : ∃ q, q = W.heap.size := ⟨_, rfl⟩
  obtain ⟨sb, hq_sb⟩ : ∃ q, q = W.heap.size + 1 := ⟨_, rfl⟩
  rw [← hq_sb, ← hq_xb]
  rw [← hq_xb] at h_xb
  rw [← hq_sb] at h_sb
  have HSB : Hid (W.heap.size ≤ sb) := by show _ ≤ _; omega
  refine (awake14_any C _).mono ?_
  rintro e w1 ⟨rfl, hb1⟩
  have k1 := Go.Proofs.YtbalmmnggfgpkaaGreat.Below.keeps hb1 []
  have K1 := K0.trans k1
  have g_xb := k1.at h_xb (by simp)
  have g_sb := k1.at h_sb (by simp)
  have HSB1 := hid g_sb
  clear g_sb h_sb hq_sb
  clear hb1 k1 K0 h_xb hq_xb
  have c0 : w1.cell? ⟨xb, 0, none⟩ = some (.int .u16 l) := g_xb.cell 0 rfl
  have c1 : w1.cell? ⟨xb, 1, none⟩ = some (.int .u16 r) := g_xb.cell 1 rfl
  have c2 : w1.cell? ⟨xb, 2, none⟩ = some (.int .u16 s) := g_xb.cell 2 rfl
  by_cases hm30 : m ≤ 25
  case neg =>
    have g2 : (25 : Int) < (m : Int) := by omega
    have g3 : decide ((25 : Int) < (m : Int)) = true := decide_eq_true g2
    go_wp2_with fail
    go_ret
    exact ⟨rfl, K1.below (Nat.le_refl _) (by simp)⟩
  have hm2 : (m : Int) ≤ 25 := by omega
  have hm3 : decide ((25 : Int) < (m : Int)) = false := decide_eq_false (by omega)
  clear hmi
  by_cases hn60 : mn ≤ 60
  case neg =>
    have g2 : (60 : Int) < (mn : Int) := by omega
    have g3 : decide ((60 : Int) < (mn : Int)) = true := decide_eq_true g2
    go_wp2_with fail
    go_ret
    exact ⟨rfl, K1.below (Nat.le_refl _) (by simp)⟩
  have h2_mn : (mn : Int) ≤ 60 := by omega
  have h3_mn : decide ((60 : Int) < (mn : Int)) = false := decide_eq_false (by omega)
  clear hmni
  by_cases hf10 : mf ≤ 10
  case neg =>
    have g2 : (10 : Int) < (mf : Int) := by omega
    have g3 : decide ((10 : Int) < (mf : Int)) = true := decide_eq_true g2
    go_wp2_with fail
    go_ret
    exact ⟨rfl, K1.below (Nat.le_refl _) (by simp)⟩
  have h2_mf : (mf : Int) ≤ 10 := by omega
  have h3_mf : decide ((10 : Int) < (mf : Int)) = false := decide_eq_false (by omega)
  clear hmfi
  have hok := mk3_ok l r s
  obtain ⟨c, hc⟩ : ∃ c, c = mk3 l r s := ⟨_, rfl⟩
  rw [← hc] at hok
  obtain ⟨os, hos⟩ : ∃ os, os = fillL c.space (hdsL R V m) := ⟨_, rfl⟩
  have HLI := hid (linked_at w1 l r s hl hrr hs y0 m cm R V (HY.out.keep K1 (by simp)) (by omega) y1 mn cn G (HG.out.keep K1 (by simp)) (by omega) 0 (by omega) c hc os hos)
  clear hc
  go_wp2_with fail
  refine HLI.out.mono ?_
  rintro e w3 ⟨p, a, u, S, x, cp, y, cy, B, rfl, hn, hP, hub, hF, hU, hI, ⟨b1, b2, b3, b4, b5⟩, hB, hk3⟩
  have K3 := K1.trans hk3
  have HO := hid hok
  have HN := hid hn
  obtain ⟨L, hL⟩ : ∃ L, L = os.length := ⟨_, rfl⟩
  have hLm : L ≤ m := by rw [hL, hos]; exact fillL_len _ _ _ _
  have hLi : (L : Int) ≤ 30 := by omega
  have HL := hid hL
  rw [← hL] at hI ⊢
  obtain ⟨us, hus⟩ : ∃ us, us = lenL os := ⟨_, rfl⟩
  have HUS := hid hus
  rw [← hus]
  have husb : us ≤ c.space := by rw [hus]; exact hF.fits
  have hsp : c.space ≤ 4096 := hok.small.2.2
  have husi : (us : Int) ≤ 4096 := by omega
  have hfr := frm_le hok.small (show 0 ≤ 2 by omega)
  have hfs : c.frm 0 + c.space ≤ a.n := by rw [← hn]; exact frm_space 0 (by omega)
  have hwd := hF.wd hsp (lnkG_wd c os G mn 0 (by omega))
  have HX : Hid (∀ j : Nat, c.frm 0 ≤ j → j < c.frm 0 + us → ∃ x : Nat, S.now j = (x : Int) ∧ x < 18446744073709551616) := fun j h1 h2 => hwd.sp j h1 (by omega)
  have HFS := hid (And.intro husb (And.intro hsp (And.intro hfs hfr)))
  have HP := hid hP
  have HI := hid hI
  have HWB : Hid (∀ b ∈ [p, a.d, a.s, a.k, a.m], W.heap.size ≤ b ∧ b < w3.heap.size) := fun b hb' => by
    have h1 := K1.size
    have h2 := hP.pow.lt
    have h3 := hP.dev.dev.lt
    have h4 := hP.dev.now.lt
    have h5 := hP.dev.kept.lt
    have h6 := hP.dev.map.lt
    simp only [List.mem_cons, List.not_mem_nil, or_false] at hb'
    omega
  have HUB := hid hub
  have HU := hid hU
  have HD4 : Hid (a.d < w3.heap.size ∧ a.s < w3.heap.size ∧ a.k < w3.heap.size ∧ a.m < w3.heap.size) := ⟨hP.dev.dev.lt, hP.dev.now.lt, hP.dev.kept.lt, hP.dev.map.lt⟩
  have HK3 := hid K3
  have HH3 := hid (HH.out.keep K3 (by simp))
  have HSB3 := hid (hk3.at HSB1.out (by simp))
  have HSBD : Hid (sb ∉ [p, a.d, a.s, a.k, a.m]) := fun h => by
    have h1 := HSB1.out.lt
    simp only [List.mem_cons, List.not_mem_nil, or_false] at h
    omega
  have HFF := hid hF
  clear hm30 hn60 hm2 hm3 h2_mn h3_mn h2_mf h3_mf hos hL hLm hus husb hsp hfs hfr hwd hF hP hub hI hU hB b1 b2 b3 b4 b5 hk3 K1 c0 c1 c2 HLI hok hn K3 g_xb
  go_upto_region 8 with fail
  have hC4 := (At.new w3 (cfgO c)).alloc (bkO 0 (us : Nat) (.slice x c.roots cp))
  have hB4 := At.new (w3.alloc (cfgO c)) (bkO 0 (us : Nat) (.slice x c.roots cp))
  have k34 := ((Keeps.refl [] w3).alloc (cfgO c)).alloc (bkO 0 (us : Nat) (.slice x c.roots cp))
  simp only [World.size_alloc] at hB4
  obtain ⟨cb, hcb⟩ : ∃ q, q = w3.heap.size := ⟨_, rfl⟩
  obtain ⟨bb, hbb⟩ : ∃ q, q = w3.heap.size + 1 := ⟨_, rfl⟩
  obtain ⟨w4, hw4⟩ : ∃ w4, w4 = (w3.alloc (cfgO c)).alloc (bkO 0 (us : Nat) (.slice x c.roots cp)) := ⟨_, rfl⟩
  have hz4 : w4.heap.size = w3.heap.size + 2 := by rw [hw4]; simp
  rw [← hw4] at hC4 hB4 k34
  first | rw [← hw4] | skip
  rw [← hbb, ← hcb]
  rw [← hcb] at hC4
  rw [← hbb] at hB4
  have HZ4 : Hid (cb = w3.heap.size ∧ bb = cb + 1 ∧ w4.heap.size = cb + 2) := ⟨by omega, by omega, by omega⟩
  have HP4 := hid (HP.out.keep0 k34)
  have HC4 := hid hC4
  have HB4 := hid hB4
  have HK4 := hid (HK3.out.trans k34)
  have HK34 := hid k34
  have HI4 := hid (HI.out.keep k34 (by simp))
  have HH4 := hid (HH3.out.keep k34 (by simp))
  have HSB4 := hid (k34.at HSB3.out (by simp))
  clear hw4 hz4 hcb hbb hC4 hB4 k34
  have HPB : Hid (∀ j, j < L → c.frm 0 + posL os j ≤ 100000) := fun j hj => by
    have h1 := posN_end (l := os) (i := j) (by have := HL.out; omega)
    have h2 := HUS.out
    have h3 := HFS.out
    omega
  have HMF : Hid (mf ≤ 10) := hf10
  clear hf10
  have han : a.n ≤ 17592186044416 := by
    have h1 := HP4.out.dev.few
    have h2 := a.n8
    omega
  have HAN := hid han
  clear han
  obtain ⟨f5, hf5⟩ : ∃ f5 : Nat → Int, f5 = fun i => ((pkV H (fun j => c.frm 0 + posL os j) L i : Nat) : Int) := ⟨_, rfl⟩
  have HF5 : Hid (∀ i, i < mf → 0 ≤ f5 i ∧ f5 i ≤ 100000) := fun i hi => by
    have hh := HH4.out
    obtain ⟨b, off, _, _, hcl⟩ := hh.resolve_left (by omega)
    have h1 := pkV_le (G := H) (P := fun j => c.frm 0 + posL os j) (n := L) (i := i) (hcl i hi).2 HPB.out
    rw [hf5]
    show 0 ≤ ((pkV H (fun j => c.frm 0 + posL os j) L i : Nat) : Int) ∧ ((pkV H (fun j => c.frm 0 + posL os j) L i : Nat) : Int) ≤ 100000
    omega
  go_wp2_with fail
  refine (pick_at w4 y y2 L cy mf cf H (fun j => c.frm 0 + posL os j) HH4.out HI4.out.reads HPB.out (by have := HMF.out; omega) (by omega)).mono ?_
  rintro e w5 ⟨x5, cp5, rfl, hO5, k45⟩
  rw [← hf5] at hO5
  have HO5 := hid hO5
  have HK45 := hid k45
  have HP5 := hid (HP4.out.keep0 k45)
  clear hO5 k45 hf5
  obtain ⟨fR, hfR⟩ : ∃ fR : Nat → Int, fR = fun j => lnkG c os G mn 0 (refL os + j) := ⟨_, rfl⟩
  have hfR0 : ∀ j, 0 ≤ fR j := fun j => by
    obtain ⟨v, h1, _⟩ := lnkG_low c os G mn (by have := HFS.out; have := HUS.out; omega) (refL os + j)
    rw [hfR]
    show 0 ≤ lnkG c os G mn 0 (refL os + j)
    rw [h1]
    omega
  obtain ⟨P, hPq⟩ : ∃ P : CP, P = ⟨p, a, S, c, 0, us, wsN mf f5, wsN c.roots fR⟩ := ⟨_, rfl⟩
  have hPf : P.p = p ∧ P.a = a ∧ P.S = S ∧ P.c = c ∧ P.k = 0 ∧ P.us = us ∧ P.ws.length = mf ∧ P.rs.length = c.roots := by rw [hPq]; exact ⟨rfl, rfl, rfl, rfl, rfl, rfl, wsN_len _ _, wsN_len _ _⟩
  have hPok : P.Ok := by
    rw [hPq, hfR, HUS.out]
    refine ok14 p HO.out HN.out HFF.out (nmdP_start S c os) _ (fun v hv => ?_) (by rw [wsN_len]; have := HMF.out; omega)
    obtain ⟨i, hi, rfl⟩ := List.mem_map.1 hv
    have h1 := HF5.out i (List.mem_range.1 hi)
    omega
  have hPL : P.LS = rcF S c 0 us (wsN mf f5) := by rw [hPq]; rfl
  have hreads : ∀ w', Keeps [] w5 w' → Reads w' x5 (wsN mf f5).length (fun j => (((wsN mf f5).getD j 0 : Nat) : Int)) ∧ Reads w' x (wsN c.roots fR).length (fun j => (((wsN c.roots fR).getD j 0 : Nat) : Int)) := fun w' hk => by
    refine ⟨reads_ws ((HO5.out.rd).keep hk (by simp)) fun j hj => (HF5.out j hj).1, reads_ws ?_ fun j _ => hfR0 j⟩
    rw [hfR]
    exact (HU.out.rd).keep ((HK34.out.trans HK45.out).trans hk) (by simp)
  have hws : P.ws = wsN mf f5 ∧ P.rs = wsN c.roots fR := by rw [hPq]; exact ⟨rfl, rfl⟩
  have HNP : Hid (∀ w', Keeps [] w5 w' → Calls Tryz.prog 15 #[ptr a.d, cfgV c, bkV 0 us (.slice x c.roots cp), .slice x5 mf cp5] w' fun e w'' => ∃ xq T, e = .returned (ptr xq) ∧ Col P w'' xq T 0 ∧ (∀ b ∈ T, w'.heap.size ≤ b) ∧ Keeps [] w' w'') := fun w' hk => by
    have h := C.new P w' hPok (by rw [hPf.1, hPf.2.1, hPf.2.2.1]; exact (HP5.out.keep0 hk).dev) x cp (by rw [hws.2]; exact (hreads w' hk).2) x5 cp5 (by rw [hws.1]; exact (hreads w' hk).1)
    rw [hPf.2.1, hPf.2.2.2.1, hPf.2.2.2.2.1, hPf.2.2.2.2.2.1, hPf.2.2.2.2.2.2.1, hPf.2.2.2.2.2.2.2] at h
    exact h
  obtain ⟨M, hM⟩ : ∃ M, M = (rcF S c 0 us (wsN mf f5)).length := ⟨_, rfl⟩
  have hMi : M ≤ 4096 := by
    have h1 := rcF_len (S := S) (c := c) (k := 0) (u := us) (ws := wsN mf f5)
    have h2 := HFS.out
    omega
  have HRE : Hid (∀ w', Keeps [] w5 w' → Calls Tryz.prog 13 #[ptr a.d, cfgV c, bkV 0 us (.slice x c.roots cp), .slice x5 mf cp5] w' fun e w'' => ∃ x cp, e = .returned (.slice x M cp) ∧ Keeps [] w' w'') := fun w' hk => by
    refine (reached13_at w' p a S c (HP5.out.keep0 hk).dev HO.out HN.out 0 (by omega) us HFS.out.1 _ HX.out x5 mf cp5 f5 ((HO5.out.rd).keep hk (by simp)) (by have := HMF.out; omega) (fun i hi => ?_)).mono ?_
    · have h1 := HF5.out i hi
      exact ⟨(f5 i).toNat, by omega, by omega⟩
    · rintro e w'' ⟨x1, cp1, rfl, _, h2⟩
      rw [← hM]
      exact ⟨x1, cp1, rfl, h2⟩
  have hPN : P.N = mf + M + 1 := by
    show P.ws.length + P.LS.length + 1 = _
    rw [hPf.2.2.2.2.2.2.1, hPL, ← hM]
  have HPF := hid hPf
  have HPOK := hid hPok
  have HPN := hid hPN
  have HC5 := hid (HK45.out.at HC4.out (by simp))
  have HB5 := hid (HK45.out.at HB4.out (by simp))
  have hMI : (M : Int) ≤ 4096 := by omega
  have hmfI : (mf : Int) ≤ 10 := by have := HMF.out; omega
  have c0 := HC5.out.cell 0 rfl
  have c1 := HC5.out.cell 1 rfl
  have c2 := HC5.out.cell 2 rfl
  have b0 := HB5.out.cell 0 rfl
  have b1 := HB5.out.cell 1 rfl
  have b2 := HB5.out.cell 2 rfl
  clear hfR hfR0 hPq hPf hPok hPL hreads hws hM hMi hPN
  go_wp2_with fail
  refine (HRE.out w5 (Keeps.refl _ _)).mono ?_
  rintro e w6 ⟨x6, cp6, rfl, k56⟩
  have HC6 := hid (k56.at HC5.out (by simp))
  have HB6 := hid (k56.at HB5.out (by simp))
  have HK56 := hid k56
  clear k56 c0 c1 c2 b0 b1 b2 HRE
  have c0 := HC6.out.cell 0 rfl
  have c1 := HC6.out.cell 1 rfl
  have c2 := HC6.out.cell 2 rfl
  have b0 := HB6.out.cell 0 rfl
  have b1 := HB6.out.cell 1 rfl
  have b2 := HB6.out.cell 2 rfl
  go_wp2_with fail
  refine (HNP.out w6 HK56.out).mono ?_
  rintro e w7 ⟨yb, Ty, rfl, hCy, hTy, k67⟩
  have HCY := hid hCy
  have HTY := hid hTy
  have HK67 := hid k67
  have HK47 := hid ((HK45.out.trans HK56.out).trans k67)
  clear hCy hTy k67 c0 c1 c2 b0 b1 b2 HNP
  obtain ⟨NN, hNN⟩ : ∃ NN : Nat, NN = mf + M + 1 := ⟨_, rfl⟩
  have HNN := hid hNN
  have e9 : (mf : Int) + (M : Int) + 1 = (NN : Int) := by omega
  clear hNN
  go_wp2_with fail
  have hTYd : ∀ b ∈ Ty, b ∉ [P.p, P.a.d, P.a.s, P.a.k, P.a.m] := fun b hb h => by
    rw [HPF.out.1, HPF.out.2.1] at h
    have h1 := (HWB.out b h).2
    have h2 := HTY.out b hb
    have h3 := HK34.out.size
    have h4 := HK45.out.size
    have h5 := HK56.out.size
    omega
  have HTYD := hid hTYd
  have HLD : Hid (∀ b ∈ [P.p, P.a.d, P.a.s, P.a.k, P.a.m], b < w7.heap.size ∧ W.heap.size ≤ b) := fun b h => by
    rw [HPF.out.1, HPF.out.2.1] at h
    have h1 := HWB.out b h
    have h3 := HK34.out.size
    have h4 := HK47.out.size
    omega
  have hP7 : Pw w7 P.p P.a (-1) u P.S := by rw [HPF.out.1, HPF.out.2.1, HPF.out.2.2.1]; exact HP4.out.keep0 HK47.out
  have HP7 := hid hP7
  have HTYL : Hid (∀ b ∈ Ty, b < w7.heap.size ∧ W.heap.size ≤ b) := fun b hb => by
    have h2 := HTY.out b hb
    have h3 := HK4.out.size
    have h4 := HK45.out.size
    have h5 := HK56.out.size
    exact ⟨C.lt HCY.out b hb, by omega⟩
  clear hTYd hP7
  go_loopg [67] NN (fun rr s67 wr => ∃ (j : Nat) (T1 : List Nat) (u1 : Int) (S1 : DS), j + rr = NN ∧ s67 = .int .i64 (j : Nat) ∧ Col P wr yb T1 j ∧ Pw wr P.p P.a (-1) u1 S1 ∧ P.at j S1 ∧ (j = NN → P.kp S1) ∧ u1 ≤ u + 100000 * (j : Int) ∧ (∀ b ∈ T1, b ∈ Ty ∨ w7.heap.size ≤ b) ∧ Keeps (Ty ++ [P.p, P.a.s, P.a.k, P.a.m]) w7 wr)
  case atStart => exact ⟨0, Ty, u, P.S, by omega, rfl, HCY.out, HP7.out, P.at_start, fun h => by have := HNN.out; omega, by omega, fun b hb => .inl hb, Keeps.refl _ _⟩
  case round =>
    obtain ⟨j, T1, u1, S1, hj, rfl, hC1, hP1, hJ1, hkp1, hu1, hT1, hK1⟩ := hrel
    have hA1 : ∀ b ∈ T1, b ∉ [P.p, P.a.d, P.a.s, P.a.k, P.a.m] := fun b hb h => by
      rcases hT1 b hb with h1 | h1
      · exact HTYD.out b h1 h
      · have := (HLD.out b h).1; omega
    by_cases hlt : j < NN
    · have hji : (j : Int) < (NN : Int) := by omega
      have hNi : (NN : Int) ≤ 5000 := by omega
      have e10 : IntKind.i64.wrap ((NN : Int) - 1) = (NN : Int) - 1 := IntWalk.i64_in _ (by omega)
      have HST := hid (C.step hC1 hP1 (by have := HUB.out; omega) hJ1 hA1 (by rw [HPN.out, ← HNN.out]; exact hlt))
      have HE := hid (And.intro hj (And.intro hlt (And.intro hu1 (And.intro hT1 (And.intro hK1 hA1)))))
      clear hj hC1 hP1 hJ1 hu1 hT1 hK1 hA1 hkp1 hlt
      go_wp2_with fail
      refine HST.out.mono ?_
      rintro e w2 ⟨T2, u2, S2, rfl, hC2, hP2, hJ2, hk2, hu2, hT2, hK2⟩
      have hKK : Keeps (Ty ++ [P.p, P.a.s, P.a.k, P.a.m]) w7 w2 := HE.out.2.2.2.2.1.new hK2 fun b hb => by
        rcases List.mem_append.1 hb with hb | hb
        · rcases HE.out.2.2.2.1 b hb with h | h
          · exact .inl (List.mem_append_left _ h)
          · exact .inr h
        · exact .inl (List.mem_append_right _ hb)
      have hTT : ∀ b ∈ T2, b ∈ Ty ∨ w7.heap.size ≤ b := fun b hb => by
        rcases hT2 b hb with h | h
        · exact HE.out.2.2.2.1 b h
        · exact .inr (Nat.le_trans HE.out.2.2.2.2.1.size h)
      have hk3 : j + 1 = NN → P.kp S2 := fun h => hk2 (by rw [HPN.out, ← HNN.out]; exact h)
      have HR := hid (And.intro hC2 (And.intro hP2 (And.intro hJ2 (And.intro hk3 (And.intro hu2 (And.intro hKK hTT))))))
      obtain ⟨dn, hdn⟩ : ∃ dn, dn = decide (j + 1 = P.N) := ⟨_, rfl⟩
      rw [← hdn]
      have heq : ((j : Int) == (NN : Int) - 1) = dn := by
        rw [hdn, HPN.out, ← HNN.out]
        by_cases h : j + 1 = NN
        · rw [decide_eq_true h, beq_iff_eq]; omega
        · rw [decide_eq_false h, beq_eq_false_iff_ne]; omega
      clear hC2 hP2 hJ2 hk2 hu2 hT2 hK2 hKK hTT HST hk3 hdn
      cases dn with
      | true =>
        go_wp2_with fail
        go_roundg (NN - (j + 1))
        case measure => (have := HE.out; omega)
        case rel =>
          obtain ⟨h1, h2, h3, h4, h5, h6, h7⟩ := HR.out
          exact ⟨j + 1, T2, u2, S2, by have := HE.out; omega, by go_num, h1, h2, h3, h4, by have := HE.out; omega, h7, h6⟩
      | false =>
        go_wp2_with fail
        go_roundg (NN - (j + 1))
        case measure => (have := HE.out; omega)
        case rel =>
          obtain ⟨h1, h2, h3, h4, h5, h6, h7⟩ := HR.out
          exact ⟨j + 1, T2, u2, S2, by have := HE.out; omega, by go_num, h1, h2, h3, h4, by have := HE.out; omega, h7, h6⟩
    · have hje : NN = j := by omega
      subst hje
      have hkp := hkp1 rfl
      have hpn : P.N = NN := by rw [HPN.out, HNN.out]
      rw [← hpn] at hC1 hJ1
      have hPd := hP1
      rw [HPF.out.1, HPF.out.2.1] at hPd
      have HWD := hid (words_at wr p a S1 hPd.dev)
      have HE := hid (And.intro hC1 (And.intro hP1 (And.intro hJ1 (And.intro hkp (And.intro hT1 (And.intro hK1 hA1))))))
      have HPD := hid hPd
      clear hj hC1 hP1 hJ1 hu1 hT1 hK1 hA1 hkp1 hlt hkp hpn hPd
      go_wp2_with fail
      refine HWD.out.mono ?_
      rintro e w8 ⟨v8, rfl, hv8, k8⟩
      obtain ⟨g8, cap8, rfl, hg8, _, hcap8, hR8⟩ := hv8.reads
      have HG8 := hid hg8
      clear hg8
      have HR8 := hid (And.intro hR8 hcap8)
      have HK8 := hid k8
      have HMO := hid (C.more (C.keep HE.out.1 k8 (by simp)))
      clear hv8 hR8 hcap8 k8
      go_wp2_with fail
      refine HMO.out.mono ?_
      rintro e w9 ⟨rfl, k9⟩
      have HK9 := hid (HK8.out.trans k9)
      have HR9 := hid (HR8.out.1.keep k9 (by simp))
      have HWD2 := hid (words_at w9 p a S1 (HPD.out.keep0 (HK8.out.trans k9)).dev)
      clear k9
      go_wp2_with fail
      refine HWD2.out.mono ?_
      rintro e w10 ⟨v10, rfl, hv10, k10⟩
      obtain ⟨g10, cap10, rfl, _, _, _, hR10⟩ := hv10.reads
      have HR10 := hid (And.intro hR10 (HR9.out.keep k10 (by simp)))
      have HK10 := hid (HK9.out.trans k10)
      clear hv10 hR10 k10
      go_wp2_with fail
      refine (equal_true w10 _ _ a.n cap10 cap8 S1.now S1.now HR10.out.1 HR10.out.2 (fun i hi => rfl) (by have := HAN.out; omega)).mono ?_
      rintro e w11 ⟨rfl, k11⟩
      have HK11 := hid (HK10.out.trans k11)
      have HR11 := hid (HR10.out.2.keep k11 (by simp))
      obtain ⟨U1, hU1⟩ : ∃ U1, U1 = szF P.S (P.cs P.N) := ⟨_, rfl⟩
      have HBY := hid (C.block (C.keep HE.out.1 (HK10.out.trans k11) (by simp)))
      rw [← hU1] at HBY
      have hU1b : U1 ≤ c.space := by
        rw [hU1, P.cs_end (by unfold CP.N; omega)]
        have h : szF P.S P.LS ≤ P.c.space := HPOK.out.rdy.sz
        rw [HPF.out.2.2.2.1] at h
        exact h
      have HU1 := hid (And.intro hU1 hU1b)
      have hf1 := fld_used
      clear k11 hU1 hU1b
      go_wp2_with fail
      refine HBY.out.mono ?_
      rintro e w12 ⟨y12, c12, rfl, _, k12⟩
      have HK12 := hid (HK11.out.trans k12)
      have HR12 := hid (HR11.out.keep k12 (by simp))
      clear k12
      have hCra : ∀ w', Keeps [] wr w' → At w' cb (cfgO c) := fun w' hk => by
        have h1 : cb ∉ Ty ++ [P.p, P.a.s, P.a.k, P.a.m] := fun h => by
          rcases List.mem_append.1 h with h | h
          · have h2 := HTY.out cb h
            have h3 := HC6.out.lt
            omega
          · have h2 : cb ∈ [P.p, P.a.d, P.a.s, P.a.k, P.a.m] := by simp only [List.mem_cons, List.not_mem_nil, or_false] at h ⊢; rcases h with h | h | h | h <;> simp [h]
            rw [HPF.out.1, HPF.out.2.1] at h2
            have h3 := (HWB.out cb h2).2
            have h4 := HZ4.out
            omega
        exact hk.at (HE.out.2.2.2.2.2.1.at (HK67.out.at HC6.out (by simp)) h1) (by simp)
      have HCRA := hid hCra
      have hCr : ∀ w', Keeps [] wr w' → w'.cell? ⟨cb, 0, none⟩ = some (.int .i64 c.log) ∧ w'.cell? ⟨cb, 1, none⟩ = some (.int .i64 c.roots) ∧ w'.cell? ⟨cb, 2, none⟩ = some (.int .i64 c.space) := fun w' hk => by
        have h2 := hCra w' hk
        exact ⟨h2.cell 0 rfl, h2.cell 1 rfl, h2.cell 2 rfl⟩
      obtain ⟨c0, c1, c2⟩ := hCr w12 HK12.out
      have hU1i : (U1 : Int) ≤ (c.space : Int) := by have := HU1.out.2; omega
      have hsi : (c.space : Int) ≤ 4096 := by have := HFS.out; omega
      have t2 : decide ((c.space : Int) < (U1 : Int)) = false := decide_eq_false (by omega)
      have HCW : Hid (∀ w', Calls Tryz.prog 26 #[cfgV c] w' fun e w'' => e = .returned (.int .i64 (a.n : Nat)) ∧ Keeps [] w' w'') := fun w' => by
        have := cwords_at w' c HO.out.small
        rwa [HN.out] at this
      clear hCr hCra
      go_wp2_with fail
      refine (HCW.out _).mono ?_
      rintro e w13 ⟨rfl, k13⟩
      have HK13 := hid (HK12.out.trans k13)
      have HR13 := hid (HR12.out.keep k13 (by simp))
      clear k13 c0 c1 c2
      have hoffd : ∀ b, b < w4.heap.size → b ∉ [P.p, P.a.d, P.a.s, P.a.k, P.a.m] → b ∉ Ty ++ [P.p, P.a.s, P.a.k, P.a.m] := fun b hb hd h => by
        rcases List.mem_append.1 h with h | h
        · have h2 := HTY.out b h
          have h3 := HK45.out.size
          have h4 := HK56.out.size
          omega
        · exact hd (by simp only [List.mem_cons, List.not_mem_nil, or_false] at h ⊢; rcases h with h | h | h | h <;> simp [h])
      have hsbd : sb ∉ [P.p, P.a.d, P.a.s, P.a.k, P.a.m] := fun h => by
        rw [HPF.out.1, HPF.out.2.1] at h
        exact HSBD.out h
      have hS13 := HK13.out.at (HE.out.2.2.2.2.2.1.at (HK47.out.at HSB4.out (by simp)) (hoffd _ HSB4.out.lt hsbd)) (by simp)
      have hP13 := HPD.out.keep0 HK13.out
      have hsbd2 : sb ∉ [p, a.d, a.s, a.k, a.m] := HSBD.out
      have HCRS := hid (crash_at w13 p a S1 hP13.dev 28 #[ptr sb] (chV bits) [] [sb] (fun _ w => At w sb (wordO bits)) (steps1_chooser sb bits a.n HAN.out) hS13 (by simp) ⟨by simp; exact fun h => hsbd2 (by simp [h]), by simp; exact fun h => hsbd2 (by simp [h]), by simp; exact fun h => hsbd2 (by simp [h])⟩ (by simp; exact hS13.lt) (by simp))
      clear hoffd hsbd hS13 hP13 hsbd2
      go_wp2_with fail
      refine HCRS.out.mono ?_
      rintro e w14 ⟨rfl, hD14, _, k14⟩
      have HD14 := hid hD14
      have hg8 : g8 ∉ [a.s, a.k, a.m] := fun h => by
        have h1 := HG8.out
        have h2 : g8 ∈ [p, a.d, a.s, a.k, a.m] := by simp only [List.mem_cons, List.not_mem_nil, or_false] at h ⊢; rcases h with h | h | h <;> simp [h]
        have h3 := (HWB.out g8 h2).2
        have h4 := HK34.out.size
        have h5 := HK47.out.size
        have h6 := HE.out.2.2.2.2.2.1.size
        omega
      have HR14 := hid (HR13.out.keep k14 (fun b off hb => by cases hb; exact hg8))
      have HK14 := hid k14
      have HWD3 := hid (words_at w14 p a _ hD14)
      clear hD14 hg8 k14 HCRS
      go_wp2_with fail
      refine HWD3.out.mono ?_
      rintro e w15 ⟨v15, rfl, hv15, k15⟩
      obtain ⟨g15, cap15, rfl, _, _, hcap15, hR15⟩ := hv15.reads
      have HR15 := hid (And.intro hR15 (HR14.out.keep k15 (by simp)))
      have HK15 := hid k15
      have hF1 : c.frm 1 + U1 ≤ a.n := by
        have h1 := frm_space (c := c) 1 (by omega)
        have h2 := HN.out
        have h3 := HU1.out.2
        omega
      have hF1i := frm_le HO.out.small (show 1 ≤ 2 by omega)
      have hsp8 : 8 ≤ c.space := HO.out.2.2.2.2.1
      have hF1s := frm_space (c := c) 1 (by omega)
      rw [HN.out] at hF1s
      obtain ⟨F1, hF1q⟩ : ∃ F1, F1 = c.frm 1 := ⟨_, rfl⟩
      rw [← hF1q] at hF1 hF1i hF1s
      have hc8 := HR8.out.2
      have e1 : IntKind.i64.wrap ((F1 : Int) + (U1 : Int)) = (F1 : Int) + (U1 : Int) := IntWalk.i64_in _ (by omega)
      have hs1 := fun w => run_sub w g15 a.n cap15 F1 (F1 + U1) (by omega) (by omega) (by omega) ((F1 : Int) + (U1 : Int)) (by omega)
      have hs2 := fun w => run_sub w g8 a.n cap8 F1 (F1 + U1) (by omega) (by omega) (by omega) ((F1 : Int) + (U1 : Int)) (by omega)
      rw [show F1 + U1 - F1 = U1 by omega] at hs1 hs2
      have HFR : Hid (∀ w', Calls Tryz.prog 20 #[cfgV c, .int .i64 1] w' fun e w'' => e = .returned (.int .i64 (F1 : Nat)) ∧ Keeps [] w' w'') := fun w' => by
        rw [hF1q]
        exact from_at w' c HO.out.small 1 (by omega)
      have HSUB : Hid (∀ w', Keeps [] w15 w' → Reads w' (some ⟨g15, F1, none⟩) U1 (fun i => S1.now (F1 + i)) ∧ Reads w' (some ⟨g8, F1, none⟩) U1 (fun i => S1.now (F1 + i))) := fun w' hk => by
        refine ⟨?_, ?_⟩
        · rcases HR15.out.1.keep hk (by simp) with h | ⟨b, o, h1, h2, h3⟩
          · left; omega
          · cases h1
            refine .inr ⟨g15, F1, rfl, h2, fun i hi => ?_⟩
            have h4 := h3 (F1 + i) (by omega)
            rw [Nat.zero_add] at h4
            rw [h4]
            have h5 := HE.out.2.2.2.1 (F1 + i) (by rw [HPF.out.2.2.2.1, HPF.out.2.2.2.2.1]; show c.frm 1 ≤ F1 + i; omega) (by rw [HPF.out.2.2.2.1, HPF.out.2.2.2.2.1]; have h6 := HU1.out.1; rw [P.cs_end (by unfold CP.N; omega)] at h6; rw [← h6]; show F1 + i < c.frm 1 + U1; omega)
            have h7 : leftV S1 (F1 + i) (chV bits (F1 + i) % 3) = S1.now (F1 + i) := h5.left _
            show some (Value.int .u64 (leftV S1 (F1 + i) (chV bits (F1 + i) % 3))) = _
            rw [h7]
        · rcases HR15.out.2.keep hk (by simp) with h | ⟨b, o, h1, h2, h3⟩
          · left; omega
          · cases h1
            refine .inr ⟨g8, F1, rfl, h2, fun i hi => ?_⟩
            have h4 := h3 (F1 + i) (by omega)
            rw [Nat.zero_add] at h4
            exact h4
      have hcc : ∀ w', Keeps [] w15 w' → w'.cell? ⟨cb, 0, none⟩ = some (.int .i64 c.log) ∧ w'.cell? ⟨cb, 1, none⟩ = some (.int .i64 c.roots) ∧ w'.cell? ⟨cb, 2, none⟩ = some (.int .i64 c.space) := fun w' hk => by
        have h1 := HCRA.out w13 HK13.out
        have h2 : cb ∉ [a.s, a.k, a.m] := fun h => by
          have h2 : cb ∈ [p, a.d, a.s, a.k, a.m] := by simp only [List.mem_cons, List.not_mem_nil, or_false] at h ⊢; rcases h with h | h | h <;> simp [h]
          have h3 := (HWB.out cb h2).2
          have h4 := HZ4.out
          omega
        have h3 := (HK15.out.trans hk).at (HK14.out.at h1 h2) (by simp)
        exact ⟨h3.cell 0 rfl, h3.cell 1 rfl, h3.cell 2 rfl⟩
      have HCC := hid hcc
      have hUi : (U1 : Int) ≤ 4096 := by omega
      have hFi : (F1 : Int) ≤ 20000 := by omega
      have HU2 : Hid (U1 ≤ 35184372088832) := by show _ ≤ _; omega
      clear hv15 hR15 k15 hcap15 hF1 hF1i hsp8 hF1s hF1q hc8 hcc hU1i hsi t2
      go_upto_region 25 with fail
      have kk : Keeps [] w15 w15.drew := (Keeps.refl _ _).drew
      go_region_held3 (fun w' => w'.cell? ⟨cb, 0, none⟩ = some (.int .i64 c.log) ∧ w'.cell? ⟨cb, 1, none⟩ = some (.int .i64 c.roots) ∧ w'.cell? ⟨cb, 2, none⟩ = some (.int .i64 c.space))
        (exact HCC.out _ kk)
        (first
          | (go_at_call 20; refine (HFR.out _).mono ?_; rintro e w' ⟨rfl, hk9⟩; have kk := kk.trans hk9; clear hk9)
          | (go_at_call 26; refine (HCW.out _).mono ?_; rintro e w' ⟨rfl, hk9⟩; have kk := kk.trans hk9; clear hk9)
          | (go_at_call 25; refine (equal_true _ _ _ U1 _ _ _ _ (HSUB.out _ kk).1 (HSUB.out _ kk).2 (fun _ _ => rfl) HU2.out).mono ?_; rintro e w' ⟨rfl, hk9⟩; have kk := kk.trans hk9; clear hk9))
      have HEN : Hid (Below W.heap.size W w') := by
        have k1 : Keeps [] W wr := (HK4.out.trans HK47.out).new HE.out.2.2.2.2.2.1 fun b hb => .inr (by
          rcases List.mem_append.1 hb with h | h
          · exact (HTYL.out b h).2
          · exact (HLD.out b (by simp only [List.mem_cons, List.not_mem_nil, or_false] at h ⊢; rcases h with h | h | h | h <;> simp [h])).2)
        have k2 : Keeps [] W w14 := (k1.trans HK13.out).new HK14.out fun b hb => .inr (by
          refine (HWB.out b ?_).1
          simp only [List.mem_cons, List.not_mem_nil, or_false] at hb ⊢
          rcases hb with h | h | h <;> simp [h])
        exact ((k2.trans HK15.out).trans kk).below (Nat.le_refl _) (by simp)
      rename_i hHd
      clear hHd kk
      go_wp2_with fail
      go_ret
      exact ⟨rfl, HEN.out⟩

theorem cheneySteps_walk (l r s : Int) (y : Option Addr) (m cm : Nat) (z : Nat → Nat → Int) (y1 : Option Addr) (mn cn : Nat) (g : Nat → Int) (y2 : Option Addr) (mf cf : Nat) (h : Nat → Int) (bits : Int) (W : World) (wl : (Lit.int .u16 l).wf = true) (wr : (Lit.int .u16 r).wf = true) (ws : (Lit.int .u16 s).wf = true)
    (R2 : m * 2 = 0 ∨ ∃ b off, y = some ⟨b, off, none⟩ ∧ b < W.heap.size ∧ ∀ i j, i < m → j < 2 → W.cell? ⟨b, off + (i * 2 + j), none⟩ = some (.int ((fun j => if j = 0 then IntKind.u8 else IntKind.u8) j) (z i j)) ∧ (Lit.int ((fun j => if j = 0 then IntKind.u8 else IntKind.u8) j) (z i j)).wf = true) (hm : m ≤ maxLen)
    (R : ReadsV (Value.int .u16) W y1 mn g) (hg : ∀ i, i < mn → (Lit.int .u16 (g i)).wf = true) (hmn : mn ≤ maxLen)
    (R3 : ReadsV (Value.int .u16) W y2 mf h) (hh : ∀ i, i < mf → (Lit.int .u16 (h i)).wf = true) (hmf : mf ≤ maxLen) (wst : (Lit.int .u64 bits).wf = true) :
    Calls Tryz.prog 4 #[.agg #[.int .u16 l, .int .u16 r, .int .u16 s], .slice y m cm, .slice y1 mn cn, .slice y2 mf cf, .int .u64 bits] W fun e w' => e = .returned (.bool true) ∧ Below W.heap.size W w' := by
  obtain ⟨l, rfl, hl⟩ := c3_open wl
  obtain ⟨r, rfl, hr⟩ := c3_open wr
  obtain ⟨s, rfl, hs⟩ := c3_open ws
  obtain ⟨bits, rfl, hb⟩ := u64_open wst
  exact csteps_small colC_is l r s y m cm _ _ y1 mn cn _ y2 mf cf _ bits W hl hr hs (readsH_of R2) (by unfold maxLen at hm; omega) (reads16_any R hg) (by unfold maxLen at hmn; omega) (reads16_any R3 hh) (by unfold maxLen at hmf; omega) (by omega)

end Go.Proofs.YtbalmmnggfgpkaaGreat

