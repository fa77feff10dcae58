/- The walk of the law WalkLess. -/
import Derived.Test.YtcdlikblebdfkaaGreatAwk11
import Derived.BigQuiet
namespace Go.Proofs.YtcdlikblebdfkaaGreat
open Go.RowKit Go.OpenShut

/-- How many objects end within the first u words. -/
theorem cut_at (os : List (Nat × Nat)) (u : Nat) : ∃ N, N ≤ os.length ∧ posL os N ≤ u ∧ (N < os.length → u < posL os (N + 1)) := by
  have key : ∀ m, m ≤ os.length → ∃ N, N ≤ m ∧ posL os N ≤ u ∧ (N < m → u < posL os (N + 1)) := by
    intro m
    induction m with
    | zero => exact fun _ => ⟨0, by omega, by rw [posL_zero]; omega, fun h => by omega⟩
    | succ m ih =>
      intro hm
      obtain ⟨N, h1, h2, h3⟩ := ih (by omega)
      by_cases hN : N < m
      · exact ⟨N, by omega, h2, fun _ => h3 hN⟩
      · obtain rfl : N = m := by omega
        by_cases hu : u < posL os (N + 1)
        · exact ⟨N, by omega, h2, fun _ => hu⟩
        · exact ⟨N + 1, by omega, by omega, fun h => by omega⟩
  exact key os.length (Nat.le_refl _)

theorem cut_in {os : List (Nat × Nat)} {u N : Nat} (h1 : N ≤ os.length) (h2 : posL os N ≤ u) (h3 : N < os.length → u < posL os (N + 1)) {i : Nat} (hi : i < os.length) : posL os (i + 1) ≤ u ↔ i < N := by
  constructor
  · intro h
    rcases Nat.lt_or_ge i N with h4 | h4
    · exact h4
    · have h5 := pos_mono (os := os) (i := N + 1) (j := i + 1) (by omega) (by omega)
      have := h3 (by omega)
      omega
  · intro h
    have := pos_mono (os := os) (i := i + 1) (j := N) (by omega) h1
    omega

/-- Does one of the first i objects end just there? -/
def endB (os : List (Nat × Nat)) (N u i : Nat) : Bool := decide (N ≤ i ∧ posL os N = u)

theorem endB_zero {os : List (Nat × Nat)} {u N : Nat} (h1 : N ≤ os.length) (h3 : N < os.length → u < posL os (N + 1)) (h2 : posL os N ≤ u) : ((u : Int) == 0) = endB os N u 0 := by
  unfold endB
  by_cases hu : u = 0
  · subst hu
    have hN : N = 0 := by
      rcases Nat.eq_zero_or_pos N with h | h
      · exact h
      · have := posL_lt (l := os) h h1
        rw [posL_zero] at this
        omega
    subst hN
    simp [posL_zero]
  · have h4 : ((u : Int) == 0) = false := by rw [beq_eq_false_iff_ne]; omega
    rw [h4]
    symm
    rw [decide_eq_false_iff_not]
    rintro ⟨h5, h6⟩
    obtain rfl : N = 0 := by omega
    rw [posL_zero] at h6
    omega

theorem endB_no {os : List (Nat × Nat)} {u N i : Nat} (h : i < N) : endB os N u i = false := by
  unfold endB
  rw [decide_eq_false_iff_not]
  omega
theorem endB_stay {os : List (Nat × Nat)} {u N i : Nat} (h : N ≤ i) : endB os N u (i + 1) = endB os N u i := by
  unfold endB
  rw [decide_eq_decide]
  omega
theorem endB_next {os : List (Nat × Nat)} {u N i f : Nat} (h1 : N ≤ os.length) (h2 : posL os N ≤ u) (h : i < N) (x y : Int) (hx : x = ((f + posL os (i + 1) : Nat) : Int)) (hy : y = ((f + u : Nat) : Int)) : (x == y) = endB os N u (i + 1) := by
  have e : (x == y) = decide (posL os (i + 1) = u) := by
    rw [Bool.eq_iff_iff, beq_iff_eq, decide_eq_true_iff, hx, hy]
    omega
  rw [e]
  unfold endB
  rw [decide_eq_decide]
  constructor
  · intro h3
    have : i + 1 = N := by
      rcases Nat.lt_or_ge (i + 1) N with h4 | h4
      · have := posL_lt (l := os) h4 h1
        omega
      · omega
    subst this
    exact ⟨Nat.le_refl _, h3⟩
  · rintro ⟨h3, h4⟩
    obtain rfl : N = i + 1 := by omega
    exact h4

theorem lenL_take (os : List (Nat × Nat)) (N : Nat) : lenL (os.take N) = posL os N := rfl
theorem posL_take {os : List (Nat × Nat)} {N i : Nat} (h : i ≤ N) : posL (os.take N) i = posL os i := by
  unfold posL
  rw [List.take_take, Nat.min_eq_left h]
theorem take_at {os : List (Nat × Nat)} {N i : Nat} (h : i < N) : (os.take N)[i]? = os[i]? := by
  rw [List.getElem?_take_of_lt h]

/-- With less used: the first ones. -/
theorem Chn.less {S S' : DS} {c : Cfg} {us u N : Nat} {os : List (Nat × Nat)} (h : Chn S c 0 us os false) (hs : ∀ i, i < us → S'.now (c.frm 0 + i) = S.now (c.frm 0 + i)) (hu : u ≤ us) (h1 : N ≤ os.length) (h2 : posL os N ≤ u) (h3 : N < os.length → u < posL os (N + 1)) :
    Chn S' c 0 u (os.take N) (decide (posL os N ≠ u)) := by
  have hl := h.done rfl
  have hf := h.fits
  refine ⟨by omega, fun i x hx => ?_, fun hd => ?_, fun hd => ?_⟩
  · have hiN : i < N := by
      obtain ⟨hi, _⟩ := List.getElem?_eq_some_iff.1 hx
      simp at hi
      omega
    rw [take_at hiN] at hx
    obtain ⟨g1, g2, g3⟩ := h.head i x hx
    rw [posL_take (by omega)]
    have hp := posN_end (l := os) (i := i) (by omega)
    exact ⟨g1, g2, by rw [hs _ (by omega)]; exact g3⟩
  · rw [lenL_take]
    have := of_decide_eq_false hd
    simpa using this
  · rw [lenL_take]
    have hne := of_decide_eq_true hd
    have hNl : N < os.length := by
      rcases Nat.lt_or_ge N os.length with h4 | h4
      · exact h4
      · obtain rfl : N = os.length := by omega
        rw [posL_all] at h2 hne
        omega
    obtain ⟨g1, g2, g3⟩ := h.head N _ (nL_in hNl)
    have hp := posN_end hNl
    refine ⟨by omega, hdPk (nL os N) (rL os N), by rw [hs _ (by omega)]; exact g3, hdPk_lt g1 g2, fun hb => ?_⟩
    rw [hdN_pk _ _ g1] at hb
    have := h3 hNl
    rw [posN_succ hNl] at this
    omega

set_option maxRecDepth 100000 in
set_option maxHeartbeats 4000000 in
theorem less_small (l r s : Nat) (y0 : Option Addr) (m cm : Nat) (R V : Nat → Nat) (ud : Nat) (W : World) (hl : l ≤ 65535) (hrr : r ≤ 65535) (hs : s ≤ 65535)
    (hy : ReadsH W y0 m R V) (hm : m ≤ 9223372036854775807) (hud : ud ≤ 65535) :
    Calls Tryz.prog 6 #[c3V l r s, .slice y0 m cm, .int .u16 ud] W fun e w' => e = .returned (.bool true) ∧ Below W.heap.size W w' := by
  have hmi : (m : Int) ≤ 9223372036854775807 := by omega
  have hudi : (ud : Int) ≤ 65535 := by omega
  have HY := hid hy
  clear hy
  go_enter Tryz.func6, Tryz.ntmps6
  go_wp2_with fail
  have hB0 := At.new W (c3O l r s)
  have K0 := (Keeps.refl [] W).alloc (c3O l r s)
  refine (awake11_any _).mono ?_
  rintro e w1 ⟨rfl, hb1⟩
  have k1 := Go.Proofs.YtcdlikblebdfkaaGreat.Below.keeps hb1 []
  have K1 := K0.trans k1
  have hB1 := k1.at hB0 (by simp)
  clear hb1 k1 hB0 K0
  have c0 : w1.cell? ⟨W.heap.size, 0, none⟩ = some (.int .u16 l) := hB1.cell 0 rfl
  have c1 : w1.cell? ⟨W.heap.size, 1, none⟩ = some (.int .u16 r) := hB1.cell 1 rfl
  have c2 : w1.cell? ⟨W.heap.size, 2, none⟩ = some (.int .u16 s) := hB1.cell 2 rfl
  by_cases hm30 : m ≤ 30
  case neg =>
    have hm2 : (30 : Int) < (m : Int) := by omega
    go_wp2_with fail
    go_ret
    exact ⟨rfl, K1.below (Nat.le_refl _) (by simp)⟩
  have hm2 : (m : Int) ≤ 30 := by omega
  clear hmi
  have hok := mk3_ok l r s
  obtain ⟨c, hc⟩ : ∃ c, c = mk3 l r s := ⟨_, rfl⟩
  rw [← hc] at hok
  have HFI := hid (filled_at w1 l r s hl hrr hs y0 m cm R V (HY.out.keep K1 (by simp)) (by omega) c hc)
  clear hc
  go_wp2_with fail
  refine HFI.out.mono ?_
  obtain ⟨os, hos⟩ : ∃ os, os = fillL c.space (hdsL R V m) := ⟨_, rfl⟩
  rw [← hos]
  rintro e w3 ⟨p, a, u, S, x, cp, y, cy, B, rfl, hn, hP, hub, hF, hU, hI, ⟨b1, b2, b3, b4, b5⟩, hB, hk3⟩
  have K3 := K1.trans hk3
  have HWB : Hid (∀ b ∈ [p, a.s, a.k, a.m], W.heap.size ≤ b ∧ b < w3.heap.size) := fun b h => by
    have hz := K1.size
    have h1 := hP.pow.lt
    have h2 := hP.dev.now.lt
    have h3 := hP.dev.kept.lt
    have h4 := hP.dev.map.lt
    simp only [List.mem_cons, List.not_mem_nil, or_false] at h
    omega
  have HO := hid hok
  have HN := hid hn
  obtain ⟨L, hL⟩ : ∃ L, L = os.length := ⟨_, rfl⟩
  have hLm : L ≤ m := by rw [hL, hos]; exact fillL_len _ _ _ _
  have hLi : (L : Int) ≤ 30 := by omega
  have HL := hid hL
  rw [← hL] at hI ⊢
  obtain ⟨us, hus⟩ : ∃ us, us = lenL os := ⟨_, rfl⟩
  have HUS := hid hus
  rw [← hus]
  have husb : us ≤ c.space := by rw [hus]; exact hF.fits
  have hsp : c.space ≤ 4096 := hok.small.2.2
  have husi : (us : Int) ≤ 4096 := by omega
  have hfs : c.frm 0 + c.space ≤ a.n := by rw [← hn]; exact frm_space 0 (by omega)
  have hch := hF.chain hfs
  rw [← hus] at hch
  have HCH := hid hch
  have HF := hid hF
  have HFS := hid (And.intro hfs (And.intro husb hsp))
  have HP := hid hP
  have HUB := hid hub
  have HIY := hid hI
  have HK3 := hid K3
  have HBB : Hid (∀ b ∈ blkL y, b ∉ [p, a.s, a.k, a.m]) := fun b hb h => by
    have h1 := (hI.ge b hb).1
    simp at h
    omega
  clear hm30 hos hL hLm hus husb hsp hfs hch hF hP hub hI hU hB b1 b2 b3 b4 b5 hk3 hB1 K1 c0 c1 c2 HFI hok hn K3
  obtain ⟨uu, huu⟩ : ∃ uu, uu = ud % (us + 1) := ⟨_, rfl⟩
  have huul : uu < us + 1 := by rw [huu]; exact Nat.mod_lt _ (by omega)
  have e1 : (ud : Int) % ((us : Int) + 1) = (uu : Int) := by rw [huu]; exact (Int.natCast_emod ud (us + 1)).symm
  have e2 : (ud : Int).tmod ((us : Int) + 1) = (uu : Int) := by rw [Int.tmod_eq_emod_of_nonneg (by omega)]; exact e1
  have e3 : IntKind.i64.wrap (uu : Int) = (uu : Int) := IntWalk.i64_in _ (by omega)
  have e4 : IntKind.i64.wrap (ud : Int) = (ud : Int) := IntWalk.i64_in _ (by omega)
  have e5 : ¬ ((us : Int) + 1 = 0) := by omega
  have e6 : IntKind.u64.wrap (uu : Int) = (uu : Int) := IntWalk.u64_in _ (by omega)
  have HUU := hid huul
  clear huu huul
  go_wp2_with fail
  have hC4 := (At.new w3 (cfgO c)).alloc (bkO 0 (us : Nat) (.slice x c.roots cp))
  have hB4 := At.new (w3.alloc (cfgO c)) (bkO 0 (us : Nat) (.slice x c.roots cp))
  have k34 := ((Keeps.refl [] w3).alloc (cfgO c)).alloc (bkO 0 (us : Nat) (.slice x c.roots cp))
  simp only [World.size_alloc] at hB4
  obtain ⟨cb, hcb⟩ : ∃ cb, cb = w3.heap.size := ⟨_, rfl⟩
  obtain ⟨bb, hbb⟩ : ∃ bb, bb = w3.heap.size + 1 := ⟨_, rfl⟩
  obtain ⟨w4, hw4⟩ : ∃ w4, w4 = (w3.alloc (cfgO c)).alloc (bkO 0 (us : Nat) (.slice x c.roots cp)) := ⟨_, rfl⟩
  rw [← hw4] at hC4 hB4 k34
  first | rw [← hw4] | skip
  rw [← hbb, ← hcb]
  rw [← hcb] at hC4
  rw [← hbb] at hB4
  have hTn : ∀ b, cb ≤ b → b ∉ [p, a.s, a.k, a.m] := fun b hb h => by have := HWB.out b h; omega
  have HTN := hid hTn
  have HCB : Hid (cb ≤ bb) := by show _ ≤ _; omega
  clear hw4 hcb hbb
  refine (usedw_at _ c HO.out.small).mono ?_
  rintro e w5 ⟨rfl, k45⟩
  have k35 := k34.trans k45
  have hC5 := k45.at hC4 (by simp)
  have hB5 := k45.at hB4 (by simp)
  have hfr := @frm_ge c 0
  have HST := hid (store_free w5 p a u S (HP.out.keep0 k35) (by have := HUB.out; omega) ((c.act : Int) + 1) uu ⟨by omega, by have := HFS.out; omega⟩)
  clear hC4 hB4 k34 k45
  go_wp2_with fail
  refine HST.out.mono ?_
  rintro e w6 ⟨rfl, hx⟩
  obtain ⟨hP6, k56⟩ := hx.out
  have hC6 := k56.at hC5 (hTn _ (Nat.le_refl _))
  have hB6 := k56.at hB5 (hTn _ HCB.out)
  have K6 : Keeps [p, a.s, a.k, a.m] w3 w6 := (k35.mono (by simp)).trans k56
  obtain ⟨S6, hS6⟩ : ∃ S6, S6 = execs S [.st ((c.act : Int) + 1).toNat uu] := ⟨_, rfl⟩
  have hnow : ∀ z, S6.now z = if z = c.act + 1 then (uu : Int) else S.now z := fun z => by
    rw [hS6]
    show (if z = ((c.act : Int) + 1).toNat then (uu : Int) else S.now z) = _
    rw [show ((c.act : Int) + 1).toNat = c.act + 1 by omega]
  rw [← hS6] at hP6
  have hact : S6.now c.act = ((0 : Nat) : Int) := by rw [hnow, if_neg (by omega)]; exact HF.out.act
  have husd : S6.now (c.act + 1) = (uu : Int) := by rw [hnow, if_pos rfl]
  have hsam : ∀ i, S6.now (c.frm 0 + i) = S.now (c.frm 0 + i) := fun i => by rw [hnow, if_neg (by omega)]
  have HRD := hid (rread_at w6 p a S6 c hP6.dev HO.out HN.out (by rw [hact]; omega) (by rw [husd]; omega))
  have HSM := hid (And.intro hact (And.intro husd hsam))
  have HP6 := hid hP6
  have HK6 := hid K6
  clear hx hP6 k56 hC5 hB5 k35 K6 hS6 hnow hact husd hsam HST hfr
  have c0 := hC6.cell 0 rfl
  have c1 := hC6.cell 1 rfl
  have c2 := hC6.cell 2 rfl
  go_wp2_with fail
  refine HRD.out.mono ?_
  rintro e w9 (⟨h9, rfl, hk9⟩ | ⟨k1, u1, x9, cp9, hk1, hu1, hA1, hU1, rfl, hO9, hk9⟩)
  · rw [HSM.out.1, HSM.out.2.1] at h9
    have := HUU.out
    have := HFS.out
    omega
  rw [HSM.out.1] at hA1
  rw [HSM.out.2.1] at hU1
  obtain rfl : 0 = k1 := by omega
  obtain rfl : uu = u1 := by omega
  have hC9 := hk9.at hC6 (by simp)
  have hB9 := hk9.at hB6 (by simp)
  have HP9 := hid (HP6.out.keep0 hk9)
  have HK9 := hid (HK6.out.trans (hk9.mono (by simp)))
  clear c0 c1 c2 hk1 hu1 hA1 hU1 HRD hO9 hC6 hB6 hk9
  obtain ⟨N, hN1, hN2, hN3⟩ := cut_at os uu
  have HNN := hid (And.intro hN1 (And.intro hN2 hN3))
  have hNL : N ≤ L := by rw [HL.out]; exact hN1
  clear hN1 hN2 hN3
  have q0 := endB_zero (os := os) HNN.out.1 HNN.out.2.2 HNN.out.2.1
  go_wp2_with fail
  have hC10 := hC9.alloc (bkO 0 (uu : Nat) (.slice x9 c.roots cp9))
  have hB10 := hB9.alloc (bkO 0 (uu : Nat) (.slice x9 c.roots cp9))
  have hN10 := At.new w9 (bkO 0 (uu : Nat) (.slice x9 c.roots cp9))
  have K10 : Keeps [p, a.s, a.k, a.m] w3 (w9.alloc (bkO 0 (uu : Nat) (.slice x9 c.roots cp9))) := HK9.out.alloc _
  have hP10 := HP9.out.keep0 ((Keeps.refl [] w9).alloc (bkO 0 (uu : Nat) (.slice x9 c.roots cp9)))
  obtain ⟨nb, hnb⟩ : ∃ nb, nb = w9.heap.size := ⟨_, rfl⟩
  obtain ⟨wE, hwE⟩ : ∃ wE, wE = w9.alloc (bkO 0 (uu : Nat) (.slice x9 c.roots cp9)) := ⟨_, rfl⟩
  rw [← hwE] at hC10 hB10 hN10 K10 hP10
  rw [← hnb] at hN10
  first | rw [← hwE] | skip
  first | rw [← hnb] | skip
  have HC10 := hid hC10
  have HB10 := hid hB10
  have HN10 := hid hN10
  have HK10 := hid K10
  have HP10 := hid hP10
  have HI10 := hid (HIY.out.keep K10 HBB.out)
  have hUE : Hid (uu ≤ us ∧ us ≤ 4096) := ⟨by have := HUU.out; omega, by omega⟩
  clear q0 hC9 hB9 hC10 hB10 hN10 K10 hP10 hwE hnb e1 e2 e3 e4 e5 e6
  go_loopg [14, 15, 60] L (fun rr s14 s15 s60 wv => ∃ i mn : Nat, i + rr = L ∧ s60 = .int .i64 i ∧ mn = min i N ∧ s15 = .int .i64 mn ∧ s14 = .bool (endB os N uu i) ∧ Keeps [] wE wv)
  case atStart => exact ⟨0, 0, by omega, rfl, by omega, rfl, rfl, Keeps.refl _ _⟩
  case round =>
    obtain ⟨i, mn, hi, rfl, hmn, rfl, rfl, hK⟩ := hrel
    by_cases hlt : i < L
    · have hIi := HI10.out.keep hK (by simp)
      obtain ⟨gy, hgy, _, hgl, hgc⟩ := hIi.cell (by omega)
      obtain ⟨zi, hzi⟩ : ∃ zi, zi = c.frm 0 + posL os i := ⟨_, rfl⟩
      have y0 := hgc i hlt
      rw [← hzi] at y0
      have hil : i < os.length := by have := HL.out; omega
      have hli : (i : Int) < (L : Int) := by omega
      have hCi := hK.at HC10.out (by simp)
      have hBi := hK.at HB10.out (by simp)
      have hPi := HP10.out.keep0 hK
      obtain ⟨hh1, hh2, hh3⟩ := HCH.out.head i _ (nL_in hil)
      obtain ⟨nn, hnn⟩ : ∃ nn, nn = nL os i := ⟨_, rfl⟩
      obtain ⟨rr, hrr⟩ : ∃ rr, rr = rL os i := ⟨_, rfl⟩
      rw [← hnn] at hh1 hh2 hh3
      rw [← hrr] at hh2 hh3
      have hpe := posN_end hil
      rw [← hnn, ← HUS.out] at hpe
      have hps := posN_succ hil
      rw [← hnn] at hps
      have HOF := hid (fun (w' : World) (hk : Keeps [] wr w') => of_head w' p a S6 (hPi.dev.keep hk (by simp) (by simp) (by simp) (by simp)) c HO.out HN.out 0 (by omega) us HFS.out.2.1 (.slice x c.roots cp) (posL os i) nn rr (by rw [HSM.out.2.2]; exact hh3) hh1 hh2 (by omega) zi (by rw [hzi]))
      have hcut := cut_in HNN.out.1 HNN.out.2.1 HNN.out.2.2 hil
      have HCU := hid hcut
      have HZ := hid (And.intro hzi (And.intro hpe hps))
      have HII := hid (And.intro hi (And.intro hlt hil))
      have HMN := hid hmn
      have hmb : (mn : Int) ≤ 30 := by omega
      have hnb2 : (nn : Int) ≤ 64 := by omega
      have hzb : (zi : Int) ≤ 20000 := by have := frm_le HO.out.small (show 0 ≤ 2 by omega); have := hUE.out; omega
      have HPi := hid hPi
      have HKi := hid hK
      subst hgy
      have c0 := hCi.cell 0 rfl
      have c1 := hCi.cell 1 rfl
      have c2 := hCi.cell 2 rfl
      have b0 := hBi.cell 0 rfl
      have b1 := hBi.cell 1 rfl
      have b2 := hBi.cell 2 rfl
      clear hi hlt hil hgc hgl hzi hpe hps hnn hrr hh1 hh2 hh3 hcut hmn hIi hPi hK hBi
      go_wp2_with fail
      refine (HOF.out wr (Keeps.refl _ _)).mono ?_
      rintro e w11 ⟨rfl, k11⟩
      have hC11 := (k11.at hCi (by simp)).alloc (obO (nn : Nat) (rr : Nat) zi)
      have hO11 := At.new w11 (obO (nn : Nat) (rr : Nat) zi)
      have K11 := k11.alloc (obO (nn : Nat) (rr : Nat) zi)
      clear c0 c1 c2 b0 b1 b2 y0 hCi
      go_upto_region 19 with fail
      obtain ⟨ob, hob⟩ : ∃ ob, ob = w11.heap.size := ⟨_, rfl⟩
      obtain ⟨wO, hwO⟩ : ∃ wO, wO = w11.alloc (obO (nn : Nat) (rr : Nat) zi) := ⟨_, rfl⟩
      rw [← hwO] at hC11 hO11 K11
      rw [← hob] at hO11
      first | rw [← hwO] | skip
      first | rw [← hob] | skip
      clear hwO hob k11
      obtain ⟨ff, hff⟩ : ∃ ff, ff = c.frm 0 := ⟨_, rfl⟩
      have hfb : (ff : Int) ≤ 15000 := by have := frm_le HO.out.small (show 0 ≤ 2 by omega); omega
      have hui : (uu : Int) ≤ 4096 := by have := hUE.out; omega
      have HFR := hid (fun w => fromI_at w c HO.out.small 0 (by omega))
      rw [show (0 : Int).toNat = 0 from rfl, ← hff] at HFR
      have HSZ := hid (fun w => hsize_at w nn rr (by omega))
      have HCC : Hid (∀ w', Keeps [] wO w' → (w'.cell? ⟨cb, 0, none⟩ = some (.int .i64 c.log) ∧ w'.cell? ⟨cb, 1, none⟩ = some (.int .i64 c.roots) ∧ w'.cell? ⟨cb, 2, none⟩ = some (.int .i64 c.space) ∧ w'.cell? ⟨ob, 0, none⟩ = some (.int .i64 nn) ∧ w'.cell? ⟨ob, 1, none⟩ = some (.int .i64 rr))) := fun w' hk => by
        have e1 := hk.at hC11 (by simp)
        have e2 := hk.at hO11 (by simp)
        exact ⟨e1.cell 0 rfl, e1.cell 1 rfl, e1.cell 2 rfl, e2.cell 0 rfl, e2.cell 1 rfl⟩
      have HFF : Hid (zi + (nn + 1) = ff + posL os (i + 1) ∧ ff = c.frm 0) := by
        have hz := HZ.out
        refine ⟨?_, hff⟩
        rw [hz.2.2, hz.1, hff]
        omega
      have HKO := hid (HKi.out.trans K11)
      clear hff hC11 hO11 K11
      have kk : Keeps [] wO wO.drew := (Keeps.refl _ _).drew
      have e1 : IntKind.i64.wrap ((zi : Int) + ((nn : Int) + 1)) = (zi : Int) + ((nn : Int) + 1) := IntWalk.i64_in _ (by omega)
      have e2 : IntKind.i64.wrap ((ff : Int) + (uu : Int)) = (ff : Int) + (uu : Int) := IntWalk.i64_in _ (by omega)
      by_cases hiN : i < N
      · have t1 : decide ((zi : Int) + ((nn : Int) + 1) ≤ (ff : Int) + (uu : Int)) = true := by
          have h1 := HFF.out.1
          have h2 := HCU.out.2 hiN
          exact decide_eq_true (by omega)
        have t0 := endB_no (os := os) (u := uu) hiN
        have q1 := endB_next (os := os) (u := uu) (N := N) (i := i) (f := ff) HNN.out.1 HNN.out.2.1 hiN ((zi : Int) + ((nn : Int) + 1)) ((ff : Int) + (uu : Int)) (by have := HFF.out.1; omega) (by omega)
        have HIN := hid hiN
        clear hiN
        go_region_held3 (fun w' => w'.cell? ⟨cb, 0, none⟩ = some (.int .i64 c.log) ∧ w'.cell? ⟨cb, 1, none⟩ = some (.int .i64 c.roots) ∧ w'.cell? ⟨cb, 2, none⟩ = some (.int .i64 c.space) ∧ w'.cell? ⟨ob, 0, none⟩ = some (.int .i64 nn) ∧ w'.cell? ⟨ob, 1, none⟩ = some (.int .i64 rr))
          (exact HCC.out _ kk)
          (first
            | (go_at_call 10; refine (HFR.out _).mono ?_; rintro e w' ⟨rfl, hk9⟩; have kk := kk.trans hk9; clear hk9)
            | (go_at_call 16; refine (HSZ.out _).mono ?_; rintro e w' ⟨rfl, hk9⟩; have kk := kk.trans hk9; clear hk9))
        all_goals
          rename_i hHd
          clear hHd
          obtain ⟨wP, hwP⟩ : ∃ wP, wP = w' := ⟨_, rfl⟩
          subst hwP
          have KP := kk
          go_upto_region 21 with fail
          have kk := KP.drew
          go_region_held3 (fun w' => w'.cell? ⟨cb, 0, none⟩ = some (.int .i64 c.log) ∧ w'.cell? ⟨cb, 1, none⟩ = some (.int .i64 c.roots) ∧ w'.cell? ⟨cb, 2, none⟩ = some (.int .i64 c.space) ∧ w'.cell? ⟨ob, 0, none⟩ = some (.int .i64 nn) ∧ w'.cell? ⟨ob, 1, none⟩ = some (.int .i64 rr))
            (exact HCC.out _ kk)
            (first
              | (go_at_call 10; refine (HFR.out _).mono ?_; rintro e w' ⟨rfl, hk9⟩; have kk := kk.trans hk9; clear hk9)
              | (go_at_call 16; refine (HSZ.out _).mono ?_; rintro e w' ⟨rfl, hk9⟩; have kk := kk.trans hk9; clear hk9))
          all_goals
            rename_i hHd
            clear hHd
            have HKE := hid (HKO.out.trans kk)
            have HMB : Hid (mn + 1 = min (i + 1) N) := by
              have h1 := HMN.out
              have h2 := HIN.out
              show _ = _
              omega
            clear kk KP
            go_wp2_with fail
            go_roundg (L - (i + 1))
            case measure => (have := HII.out; omega)
            case rel => exact ⟨i + 1, mn + 1, by have := HII.out; omega, by go_num, HMB.out, by go_num, by first | rfl | (rw [← q1]), HKE.out⟩
      · have t1 : decide ((zi : Int) + ((nn : Int) + 1) ≤ (ff : Int) + (uu : Int)) = false := by
          have h1 := HFF.out.1
          have h2 : ¬ posL os (i + 1) ≤ uu := fun h => hiN (HCU.out.1 h)
          exact decide_eq_false (by omega)
        have HEB := hid (endB_stay (os := os) (u := uu) (N := N) (i := i) (by omega))
        have HMB : Hid (mn = min (i + 1) N) := by
          have h1 := HMN.out
          show _ = _
          omega
        clear hiN
        go_region_held3 (fun w' => w'.cell? ⟨cb, 0, none⟩ = some (.int .i64 c.log) ∧ w'.cell? ⟨cb, 1, none⟩ = some (.int .i64 c.roots) ∧ w'.cell? ⟨cb, 2, none⟩ = some (.int .i64 c.space) ∧ w'.cell? ⟨ob, 0, none⟩ = some (.int .i64 nn) ∧ w'.cell? ⟨ob, 1, none⟩ = some (.int .i64 rr))
          (exact HCC.out _ kk)
          (first
            | (go_at_call 10; refine (HFR.out _).mono ?_; rintro e w' ⟨rfl, hk9⟩; have kk := kk.trans hk9; clear hk9)
            | (go_at_call 16; refine (HSZ.out _).mono ?_; rintro e w' ⟨rfl, hk9⟩; have kk := kk.trans hk9; clear hk9))
        all_goals
          rename_i hHd
          clear hHd
          have HKE := hid (HKO.out.trans kk)
          clear kk
          go_wp2_with fail
          go_roundg (L - (i + 1))
          case measure => (have := HII.out; omega)
          case rel => exact ⟨i + 1, mn, by have := HII.out; omega, by go_num, HMB.out, rfl, by rw [HEB.out], HKE.out⟩
    · obtain rfl : L = i := by omega
      obtain rfl : N = mn := by omega
      obtain ⟨er, her⟩ : ∃ er, er = decide (posL os N ≠ uu) := ⟨_, rfl⟩
      have hEr : endB os N uu L = !er := by
        rw [her, Bool.eq_iff_iff]
        unfold endB
        simp [hNL]
      have hch : Chn S6 c 0 uu (os.take N) er := by rw [her]; exact HCH.out.less (fun i _ => HSM.out.2.2 i) hUE.out.1 HNN.out.1 HNN.out.2.1 HNN.out.2.2
      rw [hEr]
      have hPr := HP10.out.keep0 hK
      have HST := hid (fun (w' : World) (hk : Keeps [] wr w') => starts_at w' p a S6 c 0 uu (os.take N) er (hPr.dev.keep hk (by simp) (by simp) (by simp) (by simp)) HO.out HN.out (by omega) hch (.slice x9 c.roots cp9))
      have hNr := hK.at HN10.out (by simp)
      have hCr := hK.at HC10.out (by simp)
      have HKr := hid (HK10.out.trans (hK.mono (by simp)))
      have c0 := hCr.cell 0 rfl
      have c1 := hCr.cell 1 rfl
      have c2 := hCr.cell 2 rfl
      have n0 := hNr.cell 0 rfl
      have n1 := hNr.cell 1 rfl
      have n2 := hNr.cell 2 rfl
      have hlen : (os.take N).length = N := by rw [List.length_take, Nat.min_eq_left HNN.out.1]
      have HLN := hid hlen
      clear hi hlt hmn hK hEr her hch hPr hNr hCr hlen
      go_wp2_with fail
      refine (HST.out wr (Keeps.refl _ _)).mono ?_
      rintro e w12 ⟨mb, rfl, hI12, _, k12⟩
      have hl := stD_len hI12
      rw [HLN.out] at hl
      have HKE := hid (HK3.out.new (HKr.out.trans (k12.mono (by simp))) (fun b hb => .inr (HWB.out b hb).1))
      clear c0 c1 c2 n0 n1 n2 hI12 k12
      cases er
      · simp only [Bool.false_eq_true, if_false, Bool.not_false]
        go_wp2_with fail
        go_ret
        exact ⟨rfl, HKE.out.below (Nat.le_refl _) (by simp)⟩
      · simp only [if_true, Bool.not_true]
        go_wp2_with fail
        go_ret
        exact ⟨rfl, HKE.out.below (Nat.le_refl _) (by simp)⟩

theorem walkLess_walk (l r s : Int) (y : Option Addr) (m cm : Nat) (z : Nat → Nat → Int) (ud : Int) (W : World) (wl : (Lit.int .u16 l).wf = true) (wr : (Lit.int .u16 r).wf = true) (ws : (Lit.int .u16 s).wf = true)
    (R2 : m * 2 = 0 ∨ ∃ b off, y = some ⟨b, off, none⟩ ∧ b < W.heap.size ∧ ∀ i j, i < m → j < 2 → W.cell? ⟨b, off + (i * 2 + j), none⟩ = some (.int ((fun j => if j = 0 then IntKind.u8 else IntKind.u8) j) (z i j)) ∧ (Lit.int ((fun j => if j = 0 then IntKind.u8 else IntKind.u8) j) (z i j)).wf = true) (hm : m ≤ maxLen)
    (wu : (Lit.int .u16 ud).wf = true) :
    Calls Tryz.prog 6 #[.agg #[.int .u16 l, .int .u16 r, .int .u16 s], .slice y m cm, .int .u16 ud] W fun e w' => e = .returned (.bool true) ∧ Below W.heap.size W w' := by
  obtain ⟨l, rfl, hl⟩ := c3_open wl
  obtain ⟨r, rfl, hr⟩ := c3_open wr
  obtain ⟨s, rfl, hs⟩ := c3_open ws
  obtain ⟨ud, rfl, hu⟩ := c3_open wu
  exact less_small l r s y m cm _ _ ud W hl hr hs (readsH_of R2) (by unfold maxLen at hm; omega) hu

end Go.Proofs.YtcdlikblebdfkaaGreat
