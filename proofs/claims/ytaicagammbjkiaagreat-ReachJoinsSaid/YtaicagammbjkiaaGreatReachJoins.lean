/- The walk of the law ReachJoins. -/
import Derived.Test.YtaicagammbjkiaaGreatJoi
import Derived.Test.YtaicagammbjkiaaGreatPik
import Derived.BigQuiet
import Derived.Deep.RegionHeld3
namespace Go.Proofs.YtaicagammbjkiaaGreat
open Go.RowKit Go.OpenShut

theorem lnkG_few (c : Cfg) (os : List (Nat × Nat)) (G : Nat → Nat) (m : Nat) (hos : c.frm 0 + lenL os ≤ 1000000) (q : Nat) : ∃ v : Nat, lnkG c os G m 0 q = (v : Int) ∧ v < 72057594037927936 := by
  refine ⟨_, rfl, ?_⟩
  unfold nxV
  split
  · rename_i h
    have h1 : G q % os.length < os.length := Nat.mod_lt _ h.2.1
    have h2 := posN_end h1
    dsimp only
    split <;> omega
  · omega
theorem wsN_join (n m : Nat) (f g : Nat → Int) : wsN (n + m) (fun i => if i < n then f i else g (i - n)) = wsN n f ++ wsN m g := by
  unfold wsN
  apply List.ext_getElem?
  intro j
  by_cases hj : j < n
  · rw [List.getElem?_append_left (by simpa using hj)]
    simp [hj, show j < n + m by omega]
  · rw [List.getElem?_append_right (by simp; omega)]
    by_cases hj2 : j < n + m
    · simp [hj, hj2, show j - n < m by omega]
    · simp [hj2, show ¬ j - n < m by omega]

set_option maxRecDepth 100000 in
set_option maxHeartbeats 4000000 in
theorem rjoins_small (l r s : Nat) (y0 : Option Addr) (m cm : Nat) (R V : Nat → Nat) (y1 : Option Addr) (mn cn : Nat) (G : Nat → Nat) (yp : Option Addr) (mp cmp : Nat) (GP : Nat → Nat) (yq : Option Addr) (mq cmq : Nat) (GQ : Nat → Nat) (W : World) (hl : l ≤ 65535) (hrr : r ≤ 65535) (hs : s ≤ 65535)
    (hy : ReadsH W y0 m R V) (hm : m ≤ 9223372036854775807) (hg : ReadsW W y1 mn G) (hmn : mn ≤ 9223372036854775807) (hgp : ReadsW W yp mp GP) (hmp : mp ≤ 9223372036854775807) (hgq : ReadsW W yq mq GQ) (hmq : mq ≤ 9223372036854775807) :
    Calls Tryz.prog 4 #[c3V l r s, .slice y0 m cm, .slice y1 mn cn, .slice yp mp cmp, .slice yq mq cmq] W fun e w' => e = .returned (.bool true) ∧ Below W.heap.size W w' := by
  have hmi : (m : Int) ≤ 9223372036854775807 := by omega
  have hmni : (mn : Int) ≤ 9223372036854775807 := by omega
  have hmpi : (mp : Int) ≤ 9223372036854775807 := by omega
  have hmqi : (mq : Int) ≤ 9223372036854775807 := by omega
  have HG := hid hg
  have HY := hid hy
  have HGP := hid hgp
  have HGQ := hid hgq
  clear hg hy hgp hgq
  go_enter Tryz.func4, Tryz.ntmps4
  go_wp2_with fail
  have hB0 := At.new W (c3O l r s)
  have K0 := (Keeps.refl [] W).alloc (c3O l r s)
  obtain ⟨xb, hxb⟩ : ∃ q, q = W.heap.size := ⟨_, rfl⟩
  rw [← hxb] at hB0
  rw [← hxb]
  have HXB : Hid (xb = W.heap.size) := hxb
  clear hxb
  refine (awake13_any _).mono ?_
  rintro e w1 ⟨rfl, hb1⟩
  have k1 := Go.Proofs.YtaicagammbjkiaaGreat.Below.keeps hb1 []
  have K1 := K0.trans k1
  have hB1 := k1.at hB0 (by simp)
  clear hb1 k1 hB0 K0
  have c0 : w1.cell? ⟨xb, 0, none⟩ = some (.int .u16 l) := hB1.cell 0 rfl
  have c1 : w1.cell? ⟨xb, 1, none⟩ = some (.int .u16 r) := hB1.cell 1 rfl
  have c2 : w1.cell? ⟨xb, 2, none⟩ = some (.int .u16 s) := hB1.cell 2 rfl
  by_cases hm25 : m ≤ 25
  case neg =>
    have hn2 : (25 : Int) < (m : Int) := by omega
    have hn3 : decide ((25 : Int) < (m : Int)) = true := decide_eq_true hn2
    go_wp2_with fail
    go_ret
    exact ⟨rfl, K1.below (Nat.le_refl _) (by simp)⟩
  have i_m : (m : Int) ≤ 25 := by omega
  have d_m : decide ((25 : Int) < (m : Int)) = false := decide_eq_false (by omega)
  by_cases hn60 : mn ≤ 60
  case neg =>
    have hn2 : (60 : Int) < (mn : Int) := by omega
    have hn3 : decide ((60 : Int) < (mn : Int)) = true := decide_eq_true hn2
    go_wp2_with fail
    go_ret
    exact ⟨rfl, K1.below (Nat.le_refl _) (by simp)⟩
  have i_mn : (mn : Int) ≤ 60 := by omega
  have d_mn : decide ((60 : Int) < (mn : Int)) = false := decide_eq_false (by omega)
  by_cases hp10 : mp ≤ 10
  case neg =>
    have hn2 : (10 : Int) < (mp : Int) := by omega
    have hn3 : decide ((10 : Int) < (mp : Int)) = true := decide_eq_true hn2
    go_wp2_with fail
    go_ret
    exact ⟨rfl, K1.below (Nat.le_refl _) (by simp)⟩
  have i_mp : (mp : Int) ≤ 10 := by omega
  have d_mp : decide ((10 : Int) < (mp : Int)) = false := decide_eq_false (by omega)
  by_cases hq10 : mq ≤ 10
  case neg =>
    have hn2 : (10 : Int) < (mq : Int) := by omega
    have hn3 : decide ((10 : Int) < (mq : Int)) = true := decide_eq_true hn2
    go_wp2_with fail
    go_ret
    exact ⟨rfl, K1.below (Nat.le_refl _) (by simp)⟩
  have i_mq : (mq : Int) ≤ 10 := by omega
  have d_mq : decide ((10 : Int) < (mq : Int)) = false := decide_eq_false (by omega)
  clear hmi hmni hmpi hmqi
  have hok := mk3_ok l r s
  obtain ⟨c, hc⟩ : ∃ c, c = mk3 l r s := ⟨_, rfl⟩
  rw [← hc] at hok
  obtain ⟨os, hos⟩ : ∃ os, os = fillL c.space (hdsL R V m) := ⟨_, rfl⟩
  have HLI := hid (linked_at w1 l r s hl hrr hs y0 m cm R V (HY.out.keep K1 (by simp)) (by omega) y1 mn cn G (HG.out.keep K1 (by simp)) (by omega) 0 (by omega) c hc os hos)
  clear hc
  go_wp2_with fail
  refine HLI.out.mono ?_
  rintro e w3 ⟨p, a, u, S, x, cp, y, cy, B, rfl, hn, hP, hub, hF, hU, hI, ⟨b1, b2, b3, b4, b5⟩, hB, hk3⟩
  have K3 := K1.trans hk3
  have HO := hid hok
  have HN := hid hn
  obtain ⟨L, hL⟩ : ∃ L, L = os.length := ⟨_, rfl⟩
  have hLm : L ≤ m := by rw [hL, hos]; exact fillL_len _ _ _ _
  have hLi : (L : Int) ≤ 30 := by omega
  have HL := hid hL
  rw [← hL] at hI ⊢
  obtain ⟨us, hus⟩ : ∃ us, us = lenL os := ⟨_, rfl⟩
  have HUS := hid hus
  rw [← hus]
  have husb : us ≤ c.space := by rw [hus]; exact hF.fits
  have hsp : c.space ≤ 4096 := hok.small.2.2
  have husi : (us : Int) ≤ 4096 := by omega
  have hfr := frm_le hok.small (show 0 ≤ 2 by omega)
  have hfs : c.frm 0 + c.space ≤ a.n := by rw [← hn]; exact frm_space 0 (by omega)
  have hwd := hF.wd hsp (lnkG_wd c os G mn 0 (by omega))
  have HX : Hid (∀ j : Nat, c.frm 0 ≤ j → j < c.frm 0 + us → ∃ x : Nat, S.now j = (x : Int) ∧ x < 18446744073709551616) := fun j h1 h2 => hwd.sp j h1 (by omega)
  have HFS := hid (And.intro husb (And.intro hsp (And.intro hfs hfr)))
  have HP := hid hP
  have HI := hid hI
  have HD3 : Hid (a.d < w3.heap.size ∧ a.s < w3.heap.size ∧ a.k < w3.heap.size ∧ a.m < w3.heap.size) := ⟨hP.dev.dev.lt, hP.dev.now.lt, hP.dev.kept.lt, hP.dev.map.lt⟩
  have HK3 := hid K3
  have HGP3 := hid (HGP.out.keep K3 (by simp))
  have HGQ3 := hid (HGQ.out.keep K3 (by simp))
  have HFF := hid hF
  clear hm25 hn60 hp10 hq10 i_m d_m i_mn d_mn d_mp d_mq hos hL hLm hus husb hsp hfs hfr hwd hF hP hub hI hU hB b1 b2 b3 b4 b5 hk3 K1 c0 c1 c2 hB1 HLI hok hn K3 HGP HGQ
  go_upto_region 6 with fail
  have hDb4 := ((At.new w3 (.cells #[ptr a.d] 28)).alloc (cfgO c)).alloc (bkO 0 (us : Nat) (.slice x c.roots cp))
  have hC4 := (At.new (w3.alloc (.cells #[ptr a.d] 28)) (cfgO c)).alloc (bkO 0 (us : Nat) (.slice x c.roots cp))
  have hB4 := At.new ((w3.alloc (.cells #[ptr a.d] 28)).alloc (cfgO c)) (bkO 0 (us : Nat) (.slice x c.roots cp))
  have k34 := (((Keeps.refl [] w3).alloc (.cells #[ptr a.d] 28)).alloc (cfgO c)).alloc (bkO 0 (us : Nat) (.slice x c.roots cp))
  simp only [World.size_alloc] at hB4 hC4
  obtain ⟨w4, hw4⟩ : ∃ w4, w4 = ((w3.alloc (.cells #[ptr a.d] 28)).alloc (cfgO c)).alloc (bkO 0 (us : Nat) (.slice x c.roots cp)) := ⟨_, rfl⟩
  rw [← hw4] at hDb4 hC4 hB4 k34
  first | rw [← hw4] | skip
  obtain ⟨db, hdb⟩ : ∃ q, q = w3.heap.size := ⟨_, rfl⟩
  obtain ⟨cb, hcb⟩ : ∃ q, q = w3.heap.size + 1 := ⟨_, rfl⟩
  obtain ⟨bb, hbb⟩ : ∃ q, q = w3.heap.size + 1 + 1 := ⟨_, rfl⟩
  rw [← hbb, ← hcb, ← hdb]
  rw [← hdb] at hDb4
  rw [← hcb] at hC4
  rw [← hbb] at hB4
  have d0 := hDb4.cell 0 rfl
  have HDB := hid hDb4
  have HC4 := hid hC4
  have HB4 := hid hB4
  have HD4 := hid (HP.out.dev.keep k34 (by simp) (by simp) (by simp) (by simp))
  have HK4 := hid (HK3.out.trans k34)
  have HI4 := hid (HI.out.keep k34 (by simp)).reads
  have HGP4 := hid (HGP3.out.keep k34 (by simp))
  have HGQ4 := hid (HGQ3.out.keep k34 (by simp))
  clear hw4 hdb hcb hbb hDb4 hC4 hB4 k34 HGP3 HGQ3
  have HPB : Hid (∀ j, j < L → c.frm 0 + posL os j ≤ 100000) := fun j hj => by
    have h1 := posN_end (l := os) (i := j) (by have := HL.out; omega)
    have h2 := HUS.out
    have h3 := HFS.out
    omega
  obtain ⟨fp, hfp⟩ : ∃ f : Nat → Int, f = fun i => ((pkV GP (fun j => c.frm 0 + posL os j) L i : Nat) : Int) := ⟨_, rfl⟩
  have HFp : Hid (∀ i, i < mp → ∃ v : Nat, fp i = (v : Int) ∧ v < 18446744073709551616) := fun i hi => by
    obtain ⟨b, off, _, _, hcl⟩ := HGP4.out.resolve_left (by omega)
    have h1 := pkV_le (G := GP) (P := fun j => c.frm 0 + posL os j) (n := L) (i := i) (hcl i hi).2 HPB.out
    exact ⟨_, by rw [hfp], by omega⟩
  have HPKp := hid (fun (w' : World) (hk : Keeps [] w4 w') => pick_at w' y yp L cy mp cmp GP (fun j => c.frm 0 + posL os j) (HGP4.out.keep hk (by simp)) (HI4.out.keep hk (by simp)) HPB.out (by omega) (by omega))
  rw [← hfp] at HPKp
  clear hfp
  obtain ⟨fq, hfq⟩ : ∃ f : Nat → Int, f = fun i => ((pkV GQ (fun j => c.frm 0 + posL os j) L i : Nat) : Int) := ⟨_, rfl⟩
  have HFq : Hid (∀ i, i < mq → ∃ v : Nat, fq i = (v : Int) ∧ v < 18446744073709551616) := fun i hi => by
    obtain ⟨b, off, _, _, hcl⟩ := HGQ4.out.resolve_left (by omega)
    have h1 := pkV_le (G := GQ) (P := fun j => c.frm 0 + posL os j) (n := L) (i := i) (hcl i hi).2 HPB.out
    exact ⟨_, by rw [hfq], by omega⟩
  have HPKq := hid (fun (w' : World) (hk : Keeps [] w4 w') => pick_at w' y yq L cy mq cmq GQ (fun j => c.frm 0 + posL os j) (HGQ4.out.keep hk (by simp)) (HI4.out.keep hk (by simp)) HPB.out (by omega) (by omega))
  rw [← hfq] at HPKq
  clear hfq
  have HALL := hid (fun (w' : World) (hk : Keeps [] w4 w') (x' : Option Addr) (n' cp' : Nat) (f' : Nat → Int) (hr' : Reads w' x' n' f') (hn' : n' ≤ 1000) (hf' : ∀ i, i < n' → ∃ v : Nat, f' i = (v : Int) ∧ v < 18446744073709551616) (LS : List Nat) (hLS : LS = rcF S c 0 us (wsN n' f')) =>
    all_at w' db cb bb p a S c us (.slice x c.roots cp) (hk.at HDB.out (by simp)) (hk.at HC4.out (by simp)) (hk.at HB4.out (by simp)) (HD4.out.keep hk (by simp) (by simp) (by simp) (by simp)) HO.out HN.out HFS.out.1 HX.out x' n' cp' f' hr' hn' hf' LS hLS)
  obtain ⟨PU, hPU⟩ : ∃ PU, PU = rcF S c 0 us (wsN mp fp) := ⟨_, rfl⟩
  obtain ⟨PV, hPV⟩ : ∃ PV, PV = rcF S c 0 us (wsN mq fq) := ⟨_, rfl⟩
  obtain ⟨PB, hPB⟩ : ∃ PB, PB = rcF S c 0 us (wsN (mp + mq) (fun i => if i < mp then fp i else fq (i - mp))) := ⟨_, rfl⟩
  have HPU := hid hPU
  have HPV := hid hPV
  have HPBB := hid hPB
  have HMEM : Hid (∀ X, X ∈ PB ↔ X ∈ PU ∨ X ∈ PV) := fun X => by
    rw [hPB, hPU, hPV, wsN_join, mem_rcF, mem_rcF, mem_rcF]
    exact Rch.app
  have HLEN : Hid (PU.length ≤ 4096 ∧ PV.length ≤ 4096 ∧ PB.length ≤ 4096) := by
    have h1 := rcF_len (S := S) (c := c) (k := 0) (u := us) (ws := wsN mp fp)
    have h2 := rcF_len (S := S) (c := c) (k := 0) (u := us) (ws := wsN mq fq)
    have h3 := rcF_len (S := S) (c := c) (k := 0) (u := us) (ws := wsN (mp + mq) (fun i => if i < mp then fp i else fq (i - mp)))
    have h4 := HFS.out
    rw [← hPU] at h1
    rw [← hPV] at h2
    rw [← hPB] at h3
    exact ⟨by omega, by omega, by omega⟩
  have HSZU : Hid (szF S PU ≤ us) := by
    show _ ≤ _
    rw [hPU, HUS.out]
    refine HFF.out.sz_le (lnkG_few c os G mn (by have := HFS.out; have := HUS.out; omega)) rcF_nodup fun X hX => ?_
    exact rcF_ob hX
  clear hPU hPV hPB
  go_wp2_with fail
  refine (HPKp.out w4 (Keeps.refl _ _)).mono ?_
  rintro e w5 ⟨x5, cp5, rfl, hO5, k45⟩
  have HK5 := hid k45
  have HC := hid (HALL.out w5 k45 x5 mp cp5 fp hO5.rd (by omega) HFp.out PU HPU.out)
  clear d0 hO5 k45
  go_wp2_with fail
  refine HC.out.mono ?_
  rintro e w6 ⟨xu, cu, rfl, hOu, k56⟩
  have HU6 := hid hOu
  have HK6 := hid (HK5.out.trans k56)
  clear HC hOu k56
  go_wp2_with fail
  refine (HPKq.out w6 HK6.out).mono ?_
  rintro e w7 ⟨x7, cp7, rfl, hO7, k67⟩
  have HU7 := hid (HU6.out.keep k67 (by simp))
  have HK7 := hid (HK6.out.trans k67)
  have HC := hid (HALL.out w7 HK7.out x7 mq cp7 fq hO7.rd (by omega) HFq.out PV HPV.out)
  clear hO7 k67
  go_wp2_with fail
  refine HC.out.mono ?_
  rintro e w8 ⟨xv, cv, rfl, hOv, k78⟩
  have HU8 := hid (HU7.out.keep k78 (by simp))
  have HV8 := hid hOv
  have HUL : Hid ((∀ b ∈ blkL xu, b < w8.heap.size) ∧ ∀ b ∈ blkL xv, b < w8.heap.size) := ⟨fun b hb => (HU8.out.ge b hb).2, fun b hb => (HV8.out.ge b hb).2⟩
  have HK8 := hid (HK7.out.trans k78)
  clear HC hOv k78 HU6 HU7
  go_wp2_with fail
  refine (HPKp.out w8 HK8.out).mono ?_
  rintro e w9 ⟨x9, cp9, rfl, hO9, k89⟩
  have HK9 := hid (HK8.out.trans k89)
  have HO9 := hid hO9
  have HS89 : Hid (w8.heap.size ≤ w9.heap.size) := k89.size
  have HU9 := hid (HU8.out.keep k89 (by simp))
  have HV9 := hid (HV8.out.keep k89 (by simp))
  clear hO9 k89
  go_wp2_with fail
  refine (HPKq.out w9 HK9.out).mono ?_
  rintro e w10 ⟨x10, cp10, rfl, hO10, k910⟩
  have HK10 := hid (HK9.out.trans k910)
  have hOp := HO9.out.keep k910 (by simp)
  have HU10 := hid (HU9.out.keep k910 (by simp))
  have HV10 := hid (HV9.out.keep k910 (by simp))
  have hpq : mp + mq ≤ 100000 := by omega
  have hB10 : w8.heap.size ≤ w10.heap.size := Nat.le_trans HS89.out k910.size
  have HFPQ : Hid (∀ i, i < mp + mq → ∃ v : Nat, (if i < mp then fp i else fq (i - mp)) = (v : Int) ∧ v < 18446744073709551616) := fun i hi => by
    by_cases h : i < mp
    · rw [if_pos h]; exact HFp.out i h
    · rw [if_neg h]; exact HFq.out _ (by omega)
  have HW48 : Hid (w4.heap.size ≤ w8.heap.size) := HK8.out.size
  have HOP := hid hOp
  have HO10 := hid hO10
  have HHB := hid (And.intro hpq hB10)
  clear hOp hO10 hpq hB10 k910 HU8 HV8 HU9 HV9 HO9
  go_wp2_with (at_builtin; refine app2U_list rfl _ _ rfl w8.heap.size w9.heap.size x9 x10 cp9 mp cp10 mq fp fq rfl rfl HOP.out HO10.out HHB.out.1 HHB.out.2 ?_; intro x11 cp11 w11 hO11 hk11 hx11)
  have HK11 : Hid (Keeps [] w4 w11) := HK10.out.new hk11 (fun b hb => .inr (by have h1 := (HOP.out.ge b hb).1; have h2 := HW48.out; omega))
  have HU11 := hid (HU10.out.keep hk11 (fun b hb h => by have h1 := HUL.out.1 b hb; have h2 := (HOP.out.ge b h).1; omega))
  have HV11 := hid (HV10.out.keep hk11 (fun b hb h => by have h1 := HUL.out.2 b hb; have h2 := (HOP.out.ge b h).1; omega))
  have HC := hid (HALL.out w11 HK11.out x11 (mp + mq) cp11 _ hO11.rd (by omega) HFPQ.out PB HPBB.out)
  clear hO11 hk11 hx11 HU10 HV10 HOP HO10
  refine HC.out.mono ?_
  rintro e w12 ⟨xw, cw, rfl, hOw, k1112⟩
  have HU12 := hid (HU11.out.keep k1112 (by simp))
  have HV12 := hid (HV11.out.keep k1112 (by simp))
  have HW12 := hid hOw
  have HK12 := hid (HK11.out.trans k1112)
  clear HC hOw k1112 HU11 HV11
  obtain ⟨NB, hNB⟩ : ∃ NB, NB = PB.length := ⟨_, rfl⟩
  obtain ⟨NU, hNU⟩ : ∃ NU, NU = PU.length := ⟨_, rfl⟩
  obtain ⟨NV, hNV⟩ : ∃ NV, NV = PV.length := ⟨_, rfl⟩
  have HNN := hid (And.intro hNB (And.intro hNU hNV))
  have hNBi : (NB : Int) ≤ 4096 := by have := HLEN.out; omega
  have hNUi : (NU : Int) ≤ 4096 := by have := HLEN.out; omega
  have hNVi : (NV : Int) ≤ 4096 := by have := HLEN.out; omega
  have HCO := hid (fun (w' : World) (hk : Keeps [] w12 w') (X : Nat) => containsI_at w' xu PU.length cu (fun i => PU.getD i 0) w5.heap.size X (HU12.out.keep hk (by simp)) (by have := HLEN.out; omega))
  have HCV := hid (fun (w' : World) (hk : Keeps [] w12 w') (X : Nat) => containsI_at w' xv PV.length cv (fun i => PV.getD i 0) w7.heap.size X (HV12.out.keep hk (by simp)) (by have := HLEN.out; omega))
  have HCB := hid (fun (w' : World) (hk : Keeps [] w12 w') (X : Nat) => containsI_at w' xw PB.length cw (fun i => PB.getD i 0) w11.heap.size X (HW12.out.keep hk (by simp)) (by have := HLEN.out; omega))
  simp only [mem_getD] at HCO HCV HCB
  rw [← hNU] at HCO
  rw [← hNV] at HCV
  rw [← hNB] at HCB
  rw [← hNB, ← hNU, ← hNV] at ⊢
  rw [← hNU] at HU12
  rw [← hNV] at HV12
  rw [← hNB] at HW12
  have HSZ := hid (fun (w' : World) (hk : Keeps [] w4 w') (x' : Option Addr) (cp' : Nat) (hr' : Reads w' x' mp fp) => size13_at w' p a S c (HD4.out.keep hk (by simp) (by simp) (by simp) (by simp)) HO.out HN.out 0 (by omega) us HFS.out.1 (.slice x c.roots cp) HX.out x' mp cp' fp hr' (by omega) HFp.out)
  rw [← HPU.out] at HSZ
  obtain ⟨zu, hzu⟩ : ∃ zu, zu = szF S PU := ⟨_, rfl⟩
  have hzl : zu ≤ us := by rw [hzu]; exact HSZU.out
  rw [← hzu] at HSZ
  have HDB12 := hid (HK12.out.at HDB.out (by simp))
  have HC12 := hid (HK12.out.at HC4.out (by simp))
  have HB12 := hid (HK12.out.at HB4.out (by simp))
  clear HALL HPKq hNB hNU hNV HK5 HK6 HK7 HK8 HK9 HK10 HK11 hzu HSZU HFPQ HPU HPV HPBB HFq HHB HUL HW48 HS89
  go_wp2_with fail
  go_loopg [76] NB (fun rr s76 wr => ∃ i : Nat, i + rr = NB ∧ s76 = .int .i64 i ∧ w12 = wr)
  case atStart => exact ⟨0, by omega, rfl, rfl⟩
  case round =>
    obtain ⟨i, hi, rfl, rfl⟩ := hrel
    by_cases hil : i < NB
    · obtain ⟨X, hX⟩ : ∃ X, PB[i]? = some X := ⟨_, List.getElem?_eq_getElem (by have := HNN.out.1; omega)⟩
      obtain ⟨g, rfl, hgB, hgl, hgc⟩ := HW12.out.cell (by omega)
      have d1 : w12.cell? ⟨g, i, none⟩ = some (.int .i64 (X : Nat)) := by
        rw [hgc i hil, List.getD_eq_getElem?_getD, hX]
        rfl
      have hii : (i : Int) < (NB : Int) := by omega
      have HCX := hid (HCO.out w12 (Keeps.refl _ _) X)
      have HCY := hid (HCV.out w12 (Keeps.refl _ _) X)
      have HXM := hid ((HMEM.out X).1 (List.mem_of_getElem? hX))
      have HI := hid (And.intro hi hil)
      obtain ⟨bu, hbu⟩ : ∃ bu, bu = decide (X ∈ PU) := ⟨_, rfl⟩
      have HBU : Hid (bu = false → decide (X ∈ PV) = true) := fun h => by
        rw [hbu] at h
        rcases HXM.out with h1 | h1
        · exact absurd h1 (of_decide_eq_false h)
        · exact decide_eq_true h1
      rw [← hbu] at HCX
      clear hX hgB hgl hgc hi hil hbu
      go_wp2_with fail
      refine HCX.out.mono ?_
      rintro e w' ⟨rfl, rfl⟩
      cases bu with
      | true =>
        clear d1
        go_wp2_with fail
        go_roundg (NB - (i + 1))
        case measure => (have := HI.out; omega)
        case rel => exact ⟨i + 1, by have := HI.out; omega, by go_num, rfl⟩
      | false =>
        rw [HBU.out rfl] at HCY
        clear d1
        go_wp2_with fail
        refine HCY.out.mono ?_
        rintro e w' ⟨rfl, rfl⟩
        go_wp2_with fail
        go_roundg (NB - (i + 1))
        case measure => (have := HI.out; omega)
        case rel => exact ⟨i + 1, by have := HI.out; omega, by go_num, rfl⟩
    · have hie : NB = i := by omega
      subst hie
      clear hi hil
      have HCL := hid (cloneI_any w12 xu NU cu w5.heap.size _ HU12.out (by omega))
      have hnv : NU + NV ≤ 100000 := by omega
      go_wp2_with fail
      refine HCL.out.mono ?_
      rintro e w13 ⟨x13, c13, rfl, hO13, k13⟩
      have HO13 := hid hO13
      have HV13 := hid (HV12.out.keep k13 (by simp))
      have HK13 := hid k13
      have hB13 : w12.heap.size ≤ w13.heap.size := k13.size
      clear hO13 k13
      go_wp2_with (at_builtin; refine app2I_list rfl _ _ rfl w12.heap.size w7.heap.size x13 xv c13 NU cv NV _ _ rfl rfl HO13.out HV13.out hnv hB13 ?_; intro x14 c14 w14 hO14 hk14 hx14)
      have HK14 : Hid (Keeps [] w12 w14) := HK13.out.new hk14 (fun b hb => .inr (HO13.out.ge b hb).1)
      have HO14 := hid hO14
      have HDB14 := hid (HK14.out.at HDB12.out (by simp))
      have HC14 := hid (HK14.out.at HC12.out (by simp))
      have HB14 := hid (HK14.out.at HB12.out (by simp))
      clear hO14 hk14 hx14 HO13 HV13 HK13 hB13 HDB12 HC12 HB12
      obtain ⟨NT, hNT⟩ : ∃ NT, NT = NU + NV := ⟨_, rfl⟩
      rw [← hNT] at HO14 hnv
      have hcast : (NU : Int) + (NV : Int) = (NT : Int) := by omega
      first | rw [← hNT] | skip
      first | rw [hcast] | skip
      have HFT : Hid (∀ j, j < NT → ∃ X, (if j < NU then PU.getD j 0 else PV.getD (j - NU) 0) = X ∧ X ∈ PB) := fun j hj => by
        have hn1 := HNN.out
        refine ⟨_, rfl, (HMEM.out _).2 ?_⟩
        by_cases h : j < NU
        · rw [if_pos h, List.getD_eq_getElem?_getD, List.getElem?_eq_getElem (by omega)]
          exact .inl (List.getElem_mem _)
        · rw [if_neg h, List.getD_eq_getElem?_getD, List.getElem?_eq_getElem (by omega)]
          exact .inr (List.getElem_mem _)
      have hNTi : (NT : Int) ≤ 10000 := by omega
      obtain ⟨ft, hft⟩ : ∃ ft : Nat → Nat, ft = fun j => if j < NU then PU.getD j 0 else PV.getD (j - NU) 0 := ⟨_, rfl⟩
      rw [← hft] at HO14
      have HFT2 : Hid (∀ j, j < NT → ft j ∈ PB) := fun j hj => by
        obtain ⟨X, h1, h2⟩ := HFT.out j hj
        rw [hft]
        show (if j < NU then PU.getD j 0 else PV.getD (j - NU) 0) ∈ PB
        rw [h1]
        exact h2
      clear hcast hNT hnv hft HFT HCL HU12 HV12 HCO HCV
      go_loopg [96] NT (fun rr s96 wr => ∃ i : Nat, i + rr = NT ∧ s96 = .int .i64 i ∧ w14 = wr)
      case atStart => exact ⟨0, by omega, rfl, rfl⟩
      case round =>
        obtain ⟨i, hi, rfl, rfl⟩ := hrel
        by_cases hil : i < NT
        · obtain ⟨g, rfl, hgB, hgl, hgc⟩ := HO14.out.cell (by omega)
          obtain ⟨X, hX⟩ : ∃ X, X = ft i := ⟨_, rfl⟩
          have d1 : w14.cell? ⟨g, i, none⟩ = some (.int .i64 (X : Nat)) := by rw [hX]; exact hgc i hil
          have hii : (i : Int) < (NT : Int) := by omega
          have HCX := hid (HCB.out w14 HK14.out X)
          have hXB : X ∈ PB := by rw [hX]; exact HFT2.out i hil
          rw [decide_eq_true hXB] at HCX
          have HI := hid (And.intro hi hil)
          clear hX hgB hgl hgc hi hil hXB
          go_wp2_with fail
          refine HCX.out.mono ?_
          rintro e w' ⟨rfl, rfl⟩
          clear d1
          go_wp2_with fail
          go_roundg (NT - (i + 1))
          case measure => (have := HI.out; omega)
          case rel => exact ⟨i + 1, by have := HI.out; omega, by go_num, rfl⟩
        · have hie : NT = i := by omega
          subst hie
          clear hi hil
          have HCZ : Hid (∀ w', Keeps [] w14 w' → (w'.cell? ⟨db, 0, none⟩ = some (ptr a.d) ∧ w'.cell? ⟨cb, 0, none⟩ = some (.int .i64 c.log) ∧ w'.cell? ⟨cb, 1, none⟩ = some (.int .i64 c.roots) ∧ w'.cell? ⟨cb, 2, none⟩ = some (.int .i64 c.space) ∧
              w'.cell? ⟨bb, 0, none⟩ = some (.int .i64 0) ∧ w'.cell? ⟨bb, 1, none⟩ = some (.int .i64 (us : Nat)) ∧ w'.cell? ⟨bb, 2, none⟩ = some (.slice x c.roots cp))) := fun w' hk => by
            have e1 := hk.at HDB14.out (by simp)
            have e3 := hk.at HC14.out (by simp)
            have e4 := hk.at HB14.out (by simp)
            exact ⟨e1.cell 0 rfl, e3.cell 0 rfl, e3.cell 1 rfl, e3.cell 2 rfl, e4.cell 0 rfl, e4.cell 1 rfl, e4.cell 2 rfl⟩
          have HPK14 := hid (fun (w' : World) (hk : Keeps [] w14 w') => HPKp.out w' ((HK12.out.trans HK14.out).trans hk))
          have HSZ14 := hid (fun (w' : World) (hk : Keeps [] w14 w') => HSZ.out w' ((HK12.out.trans HK14.out).trans hk))
          have HK0 : Hid (Keeps [] W w14) := HK4.out.trans (HK12.out.trans HK14.out)
          have t1 : decide ((zu : Int) ≤ (us : Int)) = true := decide_eq_true (by omega)
          have t2 : (zu : Int) ≤ (us : Int) := by omega
          clear hzl HPKp HSZ
          go_upto_region 23 with fail
          have kk : Keeps [] w14 w14.drew := (Keeps.refl _ _).drew
          go_region_held3 (fun w' => w'.cell? ⟨db, 0, none⟩ = some (ptr a.d) ∧ w'.cell? ⟨cb, 0, none⟩ = some (.int .i64 c.log) ∧ w'.cell? ⟨cb, 1, none⟩ = some (.int .i64 c.roots) ∧ w'.cell? ⟨cb, 2, none⟩ = some (.int .i64 c.space) ∧
              w'.cell? ⟨bb, 0, none⟩ = some (.int .i64 0) ∧ w'.cell? ⟨bb, 1, none⟩ = some (.int .i64 (us : Nat)) ∧ w'.cell? ⟨bb, 2, none⟩ = some (.slice x c.roots cp))
            (exact HCZ.out _ kk)
            (first
              | (go_at_call 13; refine (HSZ14.out _ kk _ _ hO15.rd).mono ?_; rintro e w' ⟨rfl, hk16⟩; have kk := kk.trans hk16; clear hk16)
              | (go_at_call 9; refine (HPK14.out _ kk).mono ?_; rintro e w' ⟨x15, cp15, rfl, hO15, hk15⟩; have kk := kk.trans hk15; clear hk15))
          all_goals
            rename_i hHd
            clear hHd
            go_wp2_with fail
            go_ret
            exact ⟨rfl, (HK0.out.trans kk).below (Nat.le_refl _) (by simp)⟩

theorem reachJoins_walk (l r s : Int) (y : Option Addr) (m cm : Nat) (z : Nat → Nat → Int) (y1 : Option Addr) (mn cn : Nat) (g : Nat → Int) (y2 : Option Addr) (mp cmp : Nat) (gp : Nat → Int) (y3 : Option Addr) (mq cmq : Nat) (gq : Nat → Int) (W : World) (wl : (Lit.int .u16 l).wf = true) (wr : (Lit.int .u16 r).wf = true) (ws : (Lit.int .u16 s).wf = true)
    (R2 : m * 2 = 0 ∨ ∃ b off, y = some ⟨b, off, none⟩ ∧ b < W.heap.size ∧ ∀ i j, i < m → j < 2 → W.cell? ⟨b, off + (i * 2 + j), none⟩ = some (.int ((fun j => if j = 0 then IntKind.u8 else IntKind.u8) j) (z i j)) ∧ (Lit.int ((fun j => if j = 0 then IntKind.u8 else IntKind.u8) j) (z i j)).wf = true) (hm : m ≤ maxLen)
    (R : ReadsV (Value.int .u16) W y1 mn g) (hg : ∀ i, i < mn → (Lit.int .u16 (g i)).wf = true) (hmn : mn ≤ maxLen)
    (R3 : ReadsV (Value.int .u16) W y2 mp gp) (hgp : ∀ i, i < mp → (Lit.int .u16 (gp i)).wf = true) (hmp : mp ≤ maxLen)
    (R4 : ReadsV (Value.int .u16) W y3 mq gq) (hgq : ∀ i, i < mq → (Lit.int .u16 (gq i)).wf = true) (hmq : mq ≤ maxLen) :
    Calls Tryz.prog 4 #[.agg #[.int .u16 l, .int .u16 r, .int .u16 s], .slice y m cm, .slice y1 mn cn, .slice y2 mp cmp, .slice y3 mq cmq] W fun e w' => e = .returned (.bool true) ∧ Below W.heap.size W w' := by
  obtain ⟨l, rfl, hl⟩ := c3_open wl
  obtain ⟨r, rfl, hr⟩ := c3_open wr
  obtain ⟨s, rfl, hs⟩ := c3_open ws
  exact rjoins_small l r s y m cm _ _ y1 mn cn _ y2 mp cmp _ y3 mq cmq _ W hl hr hs (readsH_of R2) (by unfold maxLen at hm; omega) (reads16_any R hg) (by unfold maxLen at hmn; omega) (reads16_any R3 hgp) (by unfold maxLen at hmp; omega) (reads16_any R4 hgq) (by unfold maxLen at hmq; omega)

end Go.Proofs.YtaicagammbjkiaaGreat
