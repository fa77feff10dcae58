/- The walk of the law ObjectFields. -/
import Derived.Test.YtfiohbniojmfaaaGreatAwk10
import Derived.Test.YtfiohbniojmfaaaGreatRowA
namespace Go.Proofs.YtfiohbniojmfaaaGreat
open Go.RowKit Go.OpenShut

/-- The function by which words are stored: the device's own, or one that is full. -/
def fvV (d : Nat) (full : Bool) : Value := if full then .func (.func 17) #[] #[] else .func (.func 10) #[ptr d] #[]

/-- What Write and Point answer by it; what stands behind them. -/
def fldX (full : Bool) (e0 : Int) : Int := if e0 = 0 then (if full then 3 else 0) else e0
def setX (full : Bool) (S : DS) (z i v e0 : Int) : DS := if full then S else setS S z i v e0

def WrX (full : Bool) (p : Nat) (a : DA) (u : Int) (S : DS) (z i v e0 : Int) (w : World) (e : Ending) (w' : World) : Prop :=
  e = .returned (.int .i64 (fldX full e0)) ∧ Hid (∃ u', Pw w' p a (-1) u' (setX full S z i v e0) ∧ u' ≤ u + 1 ∧ Keeps [p, a.s, a.k, a.m] w w')

theorem full10_at (w : World) (z v : Int) : Calls Tryz.prog 17 #[.int .i64 z, .int .u64 v] w fun e w' => e = .returned (.int .i64 3) ∧ w = w' := by
  go_enter Tryz.func17, Tryz.ntmps17
  go_wp2_with fail
  go_ret
  exact ⟨rfl, rfl⟩

theorem owrite_fv (w : World) (p : Nat) (a : DA) (u : Int) (S : DS) (full : Bool) (h : Pw w p a (-1) u S) (hb : u ≤ 1000000000000) (n r z i v : Int) (hn : 0 ≤ n ∧ n ≤ 64) (hz : 0 ≤ z ∧ z + n < a.n) :
    Calls Tryz.prog 21 #[obV n r z, .int .i64 i, .int .u64 v, fvV a.d full] w (WrX full p a u S z i v (fldE n r i false) w) := by
  cases full with
  | false =>
    refine (owrite_free w p a u S h hb n r z i v hn hz).mono ?_
    rintro e w' ⟨rfl, hx⟩
    refine ⟨?_, hx⟩
    unfold fldX
    by_cases h0 : fldE n r i false = 0
    · simp [h0]
    · simp [h0]
  | true =>
    have hfew := h.dev.few
    have hn8 := a.n8
    refine (owrite_at (F := 17) (first := #[]) (cap := #[]) w n r z i v (fun w1 code w' => code = 3 ∧ w1 = w') (fun _ _ => False) hn.2 ⟨hz.1, by omega⟩ (fun w i v => enters_of Tryz.func17 (by kernel_rfl) rfl _ w) (fun _ _ w1 _ => (full10_at w1 _ v).mono fun e w' ⟨h1, h2⟩ => .inl ⟨3, h1, rfl, h2⟩)).mono ?_
    rintro e w' (⟨h3, rfl, hk⟩ | ⟨h3, w1, hk, ⟨code, rfl, rfl, rfl⟩ | ⟨_, h4⟩⟩)
    · exact ⟨by simp [fldX, h3], u, h.keep0 hk, by omega, hk.mono (by simp)⟩
    · exact ⟨by simp [fldX, h3], u, h.keep0 hk, by omega, hk.mono (by simp)⟩
    · exact h4.elim

theorem opoint_fv (w : World) (p : Nat) (a : DA) (u : Int) (S : DS) (full : Bool) (h : Pw w p a (-1) u S) (hb : u ≤ 1000000000000) (n r z i t v : Int) (hv : IntKind.u64.wrap t = v) (hn : 0 ≤ n ∧ n ≤ 64) (hz : 0 ≤ z ∧ z + n < a.n) :
    Calls Tryz.prog 22 #[obV n r z, .int .i64 i, .int .i64 t, fvV a.d full] w (WrX full p a u S z i v (fldE n r i true) w) := by
  cases full with
  | false =>
    refine (opoint_free w p a u S h hb n r z i t v hv hn hz).mono ?_
    rintro e w' ⟨rfl, hx⟩
    refine ⟨?_, hx⟩
    unfold fldX
    by_cases h0 : fldE n r i true = 0
    · simp [h0]
    · simp [h0]
  | true =>
    have hfew := h.dev.few
    have hn8 := a.n8
    refine (opoint_at (F := 17) (first := #[]) (cap := #[]) w n r z i t (fun w1 code w' => code = 3 ∧ w1 = w') (fun _ _ => False) hn.2 ⟨hz.1, by omega⟩ (fun w i v => enters_of Tryz.func17 (by kernel_rfl) rfl _ w) (fun _ _ w1 _ => (full10_at w1 _ _).mono fun e w' ⟨h1, h2⟩ => .inl ⟨3, h1, rfl, h2⟩)).mono ?_
    rintro e w' (⟨h3, rfl, hk⟩ | ⟨h3, w1, hk, ⟨code, rfl, rfl, rfl⟩ | ⟨_, h4⟩⟩)
    · exact ⟨by simp [fldX, h3], u, h.keep0 hk, by omega, hk.mono (by simp)⟩
    · exact ⟨by simp [fldX, h3], u, h.keep0 hk, by omega, hk.mono (by simp)⟩
    · exact h4.elim

/-- What a number is behind %. -/
theorem tmod_bounds (z : Int) (h : -9223372036854775808 ≤ z ∧ z < 9223372036854775808) : -9223372036854775808 ≤ z.tmod 12 ∧ z.tmod 12 < 9223372036854775808 := by
  rcases Int.le_total 0 z with h0 | h0
  · rw [Int.tmod_eq_emod_of_nonneg h0]; omega
  · rw [show z = -(-z) by omega, Int.neg_tmod, Int.tmod_eq_emod_of_nonneg (by omega)]; omega

theorem fldX_cases {full b : Bool} {E : Int} (hb : b = (full && (E == 0))) : (b = true → fldX full E = 3) ∧ (b = false → fldX full E = E) := by
  subst hb
  unfold fldX
  by_cases h : E = 0
  · subst h; cases full <;> simp
  · cases full <;> simp [h]
theorem b3_cases {full ot b : Bool} {E : Int} (h : E = if ot then 1 else 0) (hb : b = ((E == 0) && !full)) : (b = true → full = false ∧ ot = false) ∧ (b = false → full = true ∨ ot = true) := by
  subst h hb
  cases ot <;> cases full <;> simp

/-- Is a field none? -/
def outB (n : Nat) (i : Int) : Bool := decide (i < 0 ∨ (n : Int) ≤ i)

theorem fld_out {n r : Nat} {i : Int} {b : Bool} (h : outB n i = true) : fldE n r i b = 1 := fldE_out (by simpa [outB] using h)
theorem fld_in {n : Nat} {i : Int} (h : outB n i = false) : 0 ≤ i ∧ i < n := by
  simp [outB] at h
  omega

set_option maxRecDepth 100000 in
set_option maxHeartbeats 4000000 in
theorem fields_small (l r s k t : Nat) (y0 : Option Addr) (m cm : Nat) (R V : Nat → Nat) (i v : Int) (near full : Bool) (W : World) (hl : l ≤ 65535) (hrr : r ≤ 65535) (hs : s ≤ 65535) (hk : k ≤ 255) (ht : t ≤ 65535)
    (hi : -9223372036854775808 ≤ i ∧ i < 9223372036854775808) (hy : ReadsH W y0 m R V) (hm : m ≤ 9223372036854775807) :
    Calls Tryz.prog 4 #[c3V l r s, .slice y0 m cm, .int .u8 k, .int .i64 i, .bool near, .int .u64 v, .int .u16 t, .bool full] W fun e w' => e = .returned (.bool true) ∧ Below W.heap.size W w' := by
  have hmi : (m : Int) ≤ 9223372036854775807 := by omega
  have hki : (k : Int) ≤ 255 := by omega
  have hti : (t : Int) ≤ 65535 := by omega
  have HY := hid hy
  have HI0 := hid hi
  clear hy hi
  go_enter Tryz.func4, Tryz.ntmps4
  go_wp2_with fail
  have hB0 := At.new W (c3O l r s)
  have K0 := (Keeps.refl [] W).alloc (c3O l r s)
  refine (awake10_any _).mono ?_
  rintro e w1 ⟨rfl, hb1⟩
  have k1 := Go.Proofs.YtfiohbniojmfaaaGreat.Below.keeps hb1 []
  have K1 := K0.trans k1
  have hB1 := k1.at hB0 (by simp)
  clear hb1 k1 hB0 K0
  have c0 : w1.cell? ⟨W.heap.size, 0, none⟩ = some (.int .u16 l) := hB1.cell 0 rfl
  have c1 : w1.cell? ⟨W.heap.size, 1, none⟩ = some (.int .u16 r) := hB1.cell 1 rfl
  have c2 : w1.cell? ⟨W.heap.size, 2, none⟩ = some (.int .u16 s) := hB1.cell 2 rfl
  by_cases hm20 : m ≤ 20
  case neg =>
    have hm2 : (20 : Int) < (m : Int) := by omega
    go_wp2_with fail
    go_ret
    exact ⟨rfl, K1.below (Nat.le_refl _) (by simp)⟩
  have hm2 : (m : Int) ≤ 20 := by omega
  by_cases hm0 : m = 0
  case pos =>
    subst hm0
    go_wp2_with fail
    go_ret
    exact ⟨rfl, K1.below (Nat.le_refl _) (by simp)⟩
  have hm3 : ¬ (m : Int) = 0 := by omega
  have hm4 : ((m : Int) == 0) = false := by rw [beq_eq_false_iff_ne]; omega
  clear hmi
  have hok := mk3_ok l r s
  obtain ⟨c, hc⟩ : ∃ c, c = mk3 l r s := ⟨_, rfl⟩
  rw [← hc] at hok
  have HFI := hid (filled_at w1 l r s hl hrr hs y0 m cm R V (HY.out.keep K1 (by simp)) (by omega) c hc)
  clear hc
  go_wp2_with fail
  refine HFI.out.mono ?_
  obtain ⟨os, hos⟩ : ∃ os, os = fillL c.space (hdsL R V m) := ⟨_, rfl⟩
  rw [← hos]
  rintro e w3 ⟨p, a, u, S, x, cp, y, cy, B, rfl, hn, hP, hub, hF, hU, hI, ⟨b1, b2, b3, b4, b5⟩, hB, hk3⟩
  have K3 := K1.trans hk3
  have HWB : Hid (∀ b ∈ [p, a.s, a.k, a.m], W.heap.size ≤ b ∧ b < w3.heap.size) := fun b h => by
    have hz := K1.size
    have h1 := hP.pow.lt
    have h2 := hP.dev.now.lt
    have h3 := hP.dev.kept.lt
    have h4 := hP.dev.map.lt
    simp only [List.mem_cons, List.not_mem_nil, or_false] at h
    omega
  have HO := hid hok
  have HN := hid hn
  obtain ⟨L, hL⟩ : ∃ L, L = os.length := ⟨_, rfl⟩
  have hLm : L ≤ m := by rw [hL, hos]; exact fillL_len _ _ _ _
  have hLi : (L : Int) ≤ 20 := by omega
  clear HFI hos b1 b2 b3 b4 b5 hB hk3 c0 c1 c2 hB1 hok K1 hm0 hU
  rw [← hL] at hI
  first | rw [← hL] | skip
  by_cases hL0 : L = 0
  case pos =>
    have hL1 : (L : Int) = 0 := by omega
    have hL2 : ((L : Int) == 0) = true := by rw [beq_iff_eq]; omega
    clear hL0
    go_wp2_with fail
    go_ret
    exact ⟨rfl, ((K3.alloc _).alloc _).below (Nat.le_refl _) (by simp)⟩
  have hL1 : ¬ (L : Int) = 0 := by omega
  have hL2 : ((L : Int) == 0) = false := by rw [beq_eq_false_iff_ne]; omega
  obtain ⟨g, rfl, hgB, hgl, hgc⟩ := hI.cell (by omega)
  obtain ⟨q, hq⟩ : ∃ q, q = k % L := ⟨_, rfl⟩
  have hqL : q < L := by rw [hq]; exact Nat.mod_lt _ (by omega)
  obtain ⟨P, hPe⟩ : ∃ P, P = posL os q := ⟨_, rfl⟩
  obtain ⟨zz, hzz⟩ : ∃ zz, zz = c.frm 0 + P := ⟨_, rfl⟩
  have hg0 : w3.cell? ⟨g, q, none⟩ = some (.int .i64 (zz : Nat)) := by rw [hzz, hPe]; exact hgc q hqL
  have hqo : q < os.length := by omega
  obtain ⟨n, hne⟩ : ∃ n, n = os[q].1 := ⟨_, rfl⟩
  obtain ⟨rr, hre⟩ : ∃ rr, rr = os[q].2 := ⟨_, rfl⟩
  have hhd := hF.head os[q] (List.getElem_mem _)
  have hph := pos_head hqo
  have hpz := fun j => pos_zero (j := j) hqo
  have hpe := pos_end hqo
  rw [← hne, ← hPe] at hpe
  rw [← hPe, ← hne, ← hre] at hph
  rw [← hne, ← hre] at hhd
  rw [← hne, ← hPe] at hpz
  have hfits := hF.fits
  have hfr15 := frm_le HO.out.small (show 0 ≤ 2 by omega)
  have hfrm : c.frm 0 + c.space ≤ a.n := by rw [← hn]; exact frm_space 0 (by omega)
  have hfge := @frm_ge c 0
  have hsp := HO.out.small.2.2
  obtain ⟨U, hUe⟩ : ∃ U, U = lenL os := ⟨_, rfl⟩
  rw [← hUe] at hpe hfits
  first | rw [← hUe] | skip
  have HQ : Hid (c.act + 2 ≤ zz ∧ zz + 1 + n ≤ a.n ∧ zz ≤ 20000 ∧ n ≤ 8 ∧ rr ≤ n) := ⟨by omega, by omega, by omega, hhd.1, hhd.2⟩
  have HS0 : Hid (∀ j, j < n → S.now (zz + 1 + j) = 0) := fun j hj => by
    have := hF.word (P + 1 + j) (by omega)
    rw [hpz j hj] at this
    rw [show zz + 1 + j = c.frm 0 + (P + 1 + j) by omega]
    exact this
  have hhw : S.now (c.frm 0 + P) = ((hdPk n rr : Nat) : Int) := by rw [hF.word P (by omega), hph]
  have HP := hid hP
  have HOF := hid (fun (w' : World) (hk : Keeps [] w3 w') => of_head w' p a S (hP.dev.keep hk (by simp) (by simp) (by simp) (by simp)) c HO.out hn 0 (by omega) U hfits (.slice x c.roots cp) P n rr hhw (by omega) hhd.2 (by omega) zz (by omega))
  have e1 : (k : Int).tmod (L : Int) = (q : Int) := by rw [hq]; exact (Int.ofNat_tmod k L).symm
  have e2 : (k : Int) % (L : Int) = (q : Int) := by rw [hq]; exact (Int.natCast_emod k L).symm
  have e3 : IntKind.i64.wrap (k : Int) = (k : Int) := IntWalk.i64_in _ (by omega)
  have e4 : ¬ L = 0 := hL0
  have e5 : (q : Int) < (L : Int) := by omega
  have e6 : IntKind.i64.wrap (q : Int) = (q : Int) := IntWalk.i64_in _ (by omega)
  have HUB := hid hub
  have HHD := hid hhd
  clear hq hqo hPe hzz hgc hI hF hne hre hph hpz hpe hfits hfr15 hfrm hfge hsp hUe hhw hL hLm hub hP hn hhd HY hgB
  go_upto_region 8 with fail
  obtain ⟨cb, hcb⟩ : ∃ cb, cb = w3.heap.size := ⟨_, rfl⟩
  obtain ⟨w4, hw4⟩ : ∃ w4, w4 = (w3.alloc (cfgO c)).alloc (bkO 0 U (.slice x c.roots cp)) := ⟨_, rfl⟩
  have hC4 : At w4 cb (cfgO c) := by rw [hw4, hcb]; exact (At.new w3 _).alloc _
  have hB4 : At w4 (cb + 1) (bkO 0 U (.slice x c.roots cp)) := by
    have := At.new (w3.alloc (cfgO c)) (bkO 0 U (.slice x c.roots cp))
    rw [World.size_alloc] at this
    rw [hw4, hcb]; exact this
  have k34 : Keeps [] w3 w4 := by rw [hw4]; exact ((Keeps.refl [] w3).alloc _).alloc _
  rw [← hw4, ← hcb]
  have HCL : Hid (∀ w', Keeps [] w4 w' → (w'.cell? ⟨cb, 0, none⟩ = some (.int .i64 c.log) ∧ w'.cell? ⟨cb, 1, none⟩ = some (.int .i64 c.roots) ∧ w'.cell? ⟨cb, 2, none⟩ = some (.int .i64 c.space) ∧ w'.cell? ⟨cb + 1, 0, none⟩ = some (.int .i64 0) ∧ w'.cell? ⟨cb + 1, 1, none⟩ = some (.int .i64 U) ∧ w'.cell? ⟨cb + 1, 2, none⟩ = some (.slice x c.roots cp) ∧ w'.cell? ⟨g, q, none⟩ = some (.int .i64 (zz : Nat)))) := fun w' hk => by
    have e1 := hk.at hC4 (by simp)
    have e2 := hk.at hB4 (by simp)
    exact ⟨e1.cell 0 rfl, e1.cell 1 rfl, e1.cell 2 rfl, e2.cell 0 rfl, e2.cell 1 rfl, e2.cell 2 rfl, by rw [(k34.trans hk).cell hgl (by simp)]; exact hg0⟩
  have HOR : Hid (∀ w', Keeps [] w4 w' → Calls Tryz.prog 14 #[ptr a.d, cfgV c, bkV 0 U (.slice x c.roots cp), .int .i64 (zz : Nat)] w' fun e w'' => e = .returned (.tuple #[obV n rr zz, .int .i64 0]) ∧ Keeps [] w' w'') := fun w' hk => HOF.out w' (k34.trans hk)
  have HK34 := hid k34
  have HC4 := hid hC4
  have HK3 := hid K3
  have HWC : Hid (∀ b ∈ [p, a.s, a.k, a.m], b ≠ cb) := fun b hb h => by
    have := HWB.out b hb
    omega
  clear hw4 hC4 hB4 k34 hg0 HOF hcb K3 hgl
  go_cut [21, 22] from 63 to 77 (fun s21 s22 wx => ∃ b5, s21 = ptr b5 ∧ s22 = .int .i64 0 ∧ At wx b5 (obO n rr zz) ∧ w4.heap.size ≤ b5 ∧ Keeps [] w4 wx)
  case first =>
    go_region_held3 (fun w' => w'.cell? ⟨cb, 0, none⟩ = some (.int .i64 c.log) ∧ w'.cell? ⟨cb, 1, none⟩ = some (.int .i64 c.roots) ∧ w'.cell? ⟨cb, 2, none⟩ = some (.int .i64 c.space) ∧ w'.cell? ⟨cb + 1, 0, none⟩ = some (.int .i64 0) ∧ w'.cell? ⟨cb + 1, 1, none⟩ = some (.int .i64 U) ∧ w'.cell? ⟨cb + 1, 2, none⟩ = some (.slice x c.roots cp) ∧ w'.cell? ⟨g, q, none⟩ = some (.int .i64 (zz : Nat)))
      ((refine HCL.out _ ?_; repeat' (first | assumption | exact Keeps.refl _ _ | refine Keeps.drew ?_ | refine Keeps.alloc ?_ _ | (refine Keeps.trans ?_ hk) | (refine Keeps.set ?_ (by right; simp) _))))
      (first
        | (go_at_call 14; refine (HOR.out _ ?_).mono ?_; (repeat' (first | exact Keeps.refl _ _ | refine Keeps.drew ?_ | refine Keeps.alloc ?_ _)); rintro e w' ⟨rfl, hk⟩; try (have h5 := hk.at (At.drew (At.new w4 (obO 0 0 0))) (by simp); have x0 := h5.cell 0 rfl; have x1 := h5.cell 1 rfl; have x2 := h5.cell 2 rfl; have y0 := h5.free 0; have y1 := h5.free 1; have y2 := h5.free 2)))
    all_goals
      go_wp2_with fail
      go_meet
      first
        | exact ⟨_, rfl, rfl, At.new _ _, hk.size, ((Keeps.refl [] w4).drew.trans hk).alloc _⟩
        | exact ⟨_, rfl, rfl, ((h5.set 0 (.int .i64 n)).set 1 (.int .i64 rr)).set 2 (.int .i64 zz), Nat.le_refl _, (((((Keeps.refl [] w4).alloc _).drew.trans hk).set (.inr (Nat.le_refl _)) _).set (.inr (Nat.le_refl _)) _).set (.inr (Nat.le_refl _)) _⟩
  case rest =>
  obtain ⟨b5, rfl, rfl, hA5, hz5, k5⟩ := hcut
  clear e1 e2 e3 e4 e5 e6 hL1 hL2 hL0 hm3 hm4
  obtain ⟨w5, hw5⟩ : ∃ w5, w5 = wc := ⟨_, rfl⟩
  subst hw5
  go_upto_if 80 with fail
  go_cut [3] from 80 to 82 (fun s3 wx => ∃ i' : Int, (-9223372036854775808 ≤ i' ∧ i' < 9223372036854775808) ∧ s3 = .int .i64 i' ∧ wx = w5)
  case first =>
    cases near with
    | false =>
      go_wp2_with fail
      go_meet
      exact ⟨i, HI0.out, rfl, rfl⟩
    | true =>
      go_wp2_with fail
      go_meet
      exact ⟨_, tmod_bounds i HI0.out, rfl, rfl⟩
  case rest =>
  obtain ⟨i1, hi1, rfl, hw⟩ := hcut
  rw [hw]
  clear hw
  have HI1 := hid hi1
  clear hi1
  go_upto_if 85 with fail
  go_cut [23] from 85 to 85 (fun s23 wx => s23 = fvV a.d full ∧ wx = w5)
  case first =>
    cases full with
    | false =>
      go_wp2_with fail
      go_meet
      exact ⟨rfl, rfl⟩
    | true =>
      go_wp2_with fail
      go_meet
      exact ⟨rfl, rfl⟩
  case rest =>
  obtain ⟨rfl, hw⟩ := hcut
  rw [hw]
  clear hw
  obtain ⟨fv, hfv⟩ : ∃ fv, fv = fvV a.d full := ⟨_, rfl⟩
  rw [← hfv]
  have HFV := hid hfv
  clear hfv
  have o0 := hA5.cell 0 rfl
  have o1 := hA5.cell 1 rfl
  have o2 := hA5.cell 2 rfl
  go_upto_region 17 with fail
  go_cut [94] from 86 to 94 (fun s94 wx => s94 = .bool (outB n i1) ∧ wx = w5)
  case first =>
    by_cases h1 : i1 < 0
    · have t1 : decide (i1 < 0) = true := decide_eq_true h1
      have hb : outB n i1 = true := by simp [outB, h1]
      go_wp2_with fail
      go_meet
      exact ⟨by rw [hb], rfl⟩
    have t1 : decide (i1 < 0) = false := decide_eq_false h1
    by_cases h2 : (n : Int) ≤ i1
    · have t2 : decide ((n : Int) ≤ i1) = true := decide_eq_true h2
      have t3 : decide (i1 ≥ (n : Int)) = true := decide_eq_true h2
      have hb : outB n i1 = true := by simp [outB, h2]
      go_wp2_with fail
      go_meet
      exact ⟨by rw [hb], rfl⟩
    · have t2 : decide ((n : Int) ≤ i1) = false := decide_eq_false h2
      have t3 : decide (i1 ≥ (n : Int)) = false := decide_eq_false h2
      have hb : outB n i1 = false := by simp [outB]; omega
      go_wp2_with fail
      go_meet
      exact ⟨by rw [hb], rfl⟩
  case rest =>
  obtain ⟨rfl, hw⟩ := hcut
  rw [hw]
  clear hw
  obtain ⟨ot, hot⟩ : ∃ ot, ot = outB n i1 := ⟨_, rfl⟩
  rw [← hot]
  have HOT := hid hot
  clear hot
  go_upto_if 94 with fail
  go_cut [24] from 94 to 94 (fun s24 wx => s24 = .int .i64 (if ot then 1 else 0) ∧ wx = w5)
  case first =>
    cases ot with
    | false =>
      go_wp2_with fail
      go_meet
      exact ⟨rfl, rfl⟩
    | true =>
      go_wp2_with fail
      go_meet
      exact ⟨rfl, rfl⟩
  case rest =>
  obtain ⟨rfl, hw⟩ := hcut
  rw [hw]
  clear hw
  obtain ⟨E0, hE0⟩ : ∃ E0 : Int, E0 = if ot then 1 else 0 := ⟨_, rfl⟩
  rw [← hE0]
  have HE0 := hid hE0
  clear hE0
  have HE1 : Hid (ot = true → fldE n rr i1 false = 1 ∧ fldE n rr i1 true = 1) := fun h => by
    rw [HOT.out] at h
    exact ⟨fld_out h, fld_out h⟩
  have HE2 : Hid (ot = false → 0 ≤ i1 ∧ i1 < n) := fun h => by
    rw [HOT.out] at h
    exact fld_in h
  obtain ⟨E1, hE1⟩ : ∃ E1, E1 = fldE n rr i1 false := ⟨_, rfl⟩
  obtain ⟨E2, hE2⟩ : ∃ E2, E2 = fldE n rr i1 true := ⟨_, rfl⟩
  rw [← hE1, ← hE2] at HE1
  have HEE := hid (And.intro hE1 hE2)
  clear hE1 hE2
  go_upto_region 20 with fail
  go_cut [105] from 97 to 105 (fun s105 wx => s105 = .bool (!ot && decide (i1 < (rr : Int))) ∧ wx = w5)
  case first =>
    cases ot with
    | true =>
      have h1 : E0 = 1 := HE0.out
      subst h1
      go_wp2_with fail
      go_meet
      exact ⟨rfl, rfl⟩
    | false =>
      have h1 : E0 = 0 := HE0.out
      subst h1
      go_wp2_with fail
      go_meet
      exact ⟨rfl, rfl⟩
  case rest =>
  obtain ⟨rfl, hw⟩ := hcut
  rw [hw]
  clear hw
  obtain ⟨nm, hnm⟩ : ∃ nm, nm = (!ot && decide (i1 < (rr : Int))) := ⟨_, rfl⟩
  rw [← hnm]
  have HNM := hid hnm
  clear hnm
  go_upto_if 105 with fail
  go_cut [25, 26] from 105 to 107 (fun s25 s26 wx => s25 = .int .i64 E1 ∧ s26 = .int .i64 E2 ∧ wx = w5)
  case first =>
    cases ot with
    | true =>
      have h1 : nm = false := HNM.out
      have h4 : E0 = 1 := HE0.out
      subst h4
      obtain ⟨h2, h3⟩ := HE1.out rfl
      subst h1
      clear HE1 HE2
      go_wp2_with fail
      go_meet
      exact ⟨by rw [h2], by rw [h3], rfl⟩
    | false =>
      obtain ⟨h0, h1⟩ := HE2.out rfl
      have h4 : E0 = 0 := HE0.out
      subst h4
      clear HE1 HE2
      cases nm with
      | true =>
        have hr : i1 < (rr : Int) := by have := HNM.out; simpa using this.symm
        have h2 : E1 = 5 := by rw [HEE.out.1]; exact fldE_kind h0 h1 (by simp; omega)
        have h3 : E2 = 0 := by rw [HEE.out.2]; exact fldE_in h0 h1 (by simp; omega)
        clear hr h0 h1 HNM
        go_wp2_with fail
        go_meet
        exact ⟨by rw [h2], by rw [h3], rfl⟩
      | false =>
        have hr : (rr : Int) ≤ i1 := by have := HNM.out; simpa using this.symm
        have h2 : E1 = 0 := by rw [HEE.out.1]; exact fldE_in h0 h1 (by simp; omega)
        have h3 : E2 = 5 := by rw [HEE.out.2]; exact fldE_kind h0 h1 (by simp; omega)
        clear hr h0 h1 HNM
        go_wp2_with fail
        go_meet
        exact ⟨by rw [h2], by rw [h3], rfl⟩
  case rest =>
  obtain ⟨rfl, rfl, hw⟩ := hcut
  rw [hw]
  clear hw
  have HR1 : Hid (rdW S zz i1 E1 = 0 ∧ rfW S zz i1 E2 = 0) := by
    obtain ⟨q1, q2⟩ := HEE.out
    constructor
    · unfold rdW
      by_cases h : E1 = 0
      · rw [if_pos h]
        obtain ⟨h1, h2, _⟩ := fldE_zero (q1 ▸ h)
        rw [show ((zz : Int) + 1 + i1).toNat = zz + 1 + i1.toNat by omega]
        exact HS0.out _ (by omega)
      · rw [if_neg h]
    · unfold rfW
      by_cases h : E2 = 0
      · rw [if_pos h]
        obtain ⟨h1, h2, _⟩ := fldE_zero (q2 ▸ h)
        rw [show ((zz : Int) + 1 + i1).toNat = zz + 1 + i1.toNat by omega, HS0.out _ (by omega)]
        exact asInt_of 0 (by decide)
      · rw [if_neg h]
  have k35 := HK34.out.trans k5
  have hP5 := HP.out.keep0 k35
  have HWB5 : Hid (∀ b ∈ [p, a.s, a.k, a.m], W.heap.size ≤ b ∧ b ≠ cb ∧ b ≠ b5) := fun b hb => by
    have h1 := HWB.out b hb
    have h2 := HWC.out b hb
    have h3 := HK34.out.size
    omega
  have HCB5 : Hid (cb ∉ [p, a.s, a.k, a.m] ∧ b5 ∉ [p, a.s, a.k, a.m]) := ⟨fun h => (HWB5.out _ h).2.1 rfl, fun h => (HWB5.out _ h).2.2 rfl⟩
  have HC5 := hid (k5.at HC4.out (by simp))
  have HA5 := hid hA5
  have HKW5 := hid (HK3.out.trans k35)
  have HZN : Hid ((0 : Int) ≤ (n : Int) ∧ (n : Int) ≤ 64 ∧ (0 : Int) ≤ (zz : Int) ∧ (zz : Int) + (n : Int) < (a.n : Int)) := by
    have := HQ.out
    exact ⟨by omega, by omega, by omega, by omega⟩
  have HWD := hid (words7_own w5 p a S c hP5.dev HO.out HN.out)
  have HRA := hid (fun (w' : World) (hk : Keeps [] w5 w') => oread_at w' p a S (hP5.keep0 hk).dev n rr zz i1 HZN.out.2.1 HZN.out.2.2)
  have HRB := hid (fun (w' : World) (hk : Keeps [] w5 w') => oref_at w' p a S (hP5.keep0 hk).dev n rr zz i1 HZN.out.2.1 HZN.out.2.2)
  rw [← HEE.out.1, HR1.out.1] at HRA
  rw [← HEE.out.2, HR1.out.2] at HRB
  have HP5 := hid hP5
  have c0 := HC5.out.cell 0 rfl
  have c1 := HC5.out.cell 1 rfl
  have c2 := HC5.out.cell 2 rfl
  clear hA5 hz5 k5 k35 hP5 HC4 HP HK34 HK3 HWB HWC HCL HOR HR1 HS0
  go_wp2_with fail
  refine HWD.out.mono ?_
  rintro e w6 ⟨g2, cap2, rfl, hg2, hO6, hcap2, hk6⟩
  have HG2 : Hid (g2 ∉ [p, a.s, a.k, a.m] ∧ g2 ≠ cb ∧ g2 ≠ b5 ∧ W.heap.size ≤ g2 ∧ g2 ≠ a.d ∧ w5.heap.size ≤ g2) := by
    have h1 := HP5.out.pow.lt
    have h2 := HP5.out.dev.now.lt
    have h3 := HP5.out.dev.kept.lt
    have h4 := HP5.out.dev.map.lt
    have h5 := HP5.out.dev.dev.lt
    have h6 := HC5.out.lt
    have h7 := HA5.out.lt
    have h8 := HKW5.out.size
    refine ⟨fun h => ?_, by omega, by omega, by omega, by omega, hg2⟩
    simp only [List.mem_cons, List.not_mem_nil, or_false] at h
    omega
  obtain ⟨d, hd⟩ : ∃ d, d = a.n - c.act := ⟨_, rfl⟩
  rw [← hd] at hO6 hcap2 ⊢
  have HD := hid hd
  have HO6 := hid hO6
  clear hd hO6 hg2 c0 c1 c2 o0 o1 o2 HWD
  have hA6 := hk6.at HA5.out (by simp)
  have o0 := hA6.cell 0 rfl
  have o1 := hA6.cell 1 rfl
  have o2 := hA6.cell 2 rfl
  go_wp2_with fail
  refine (HRA.out _ hk6).mono ?_
  rintro e w7 ⟨rfl, hk7⟩
  have k7 := hk6.trans hk7
  have hA7 := k7.at HA5.out (by simp)
  have HO7 := hid (HO6.out.keep hk7 (by simp))
  clear o0 o1 o2 hA6 HO6 hk7 hk6
  have o0 := hA7.cell 0 rfl
  have o1 := hA7.cell 1 rfl
  have o2 := hA7.cell 2 rfl
  go_wp2_with fail
  refine (HRB.out _ k7).mono ?_
  rintro e w8 ⟨rfl, hk8⟩
  have k8 := k7.trans hk8
  have hA8 := k8.at HA5.out (by simp)
  have HO8 := hid (HO7.out.keep hk8 (by simp))
  clear o0 o1 o2 hA7 HO7 hk8 k7 HRA HRB
  have o0 := hA8.cell 0 rfl
  have o1 := hA8.cell 1 rfl
  have o2 := hA8.cell 2 rfl
  have t1 : (E1 != E1) = false := by simp
  have t2 : (E2 != E2) = false := by simp
  go_upto_region 29 with fail
  obtain ⟨X1, hX1⟩ : ∃ X1, X1 = fldX full E1 := ⟨_, rfl⟩
  obtain ⟨X2, hX2⟩ : ∃ X2, X2 = fldX full E2 := ⟨_, rfl⟩
  obtain ⟨S1, hS1⟩ : ∃ S1, S1 = setX full S zz i1 v E1 := ⟨_, rfl⟩
  obtain ⟨S2, hS2⟩ : ∃ S2, S2 = setX full S1 zz i1 t E2 := ⟨_, rfl⟩
  have HWR : Hid (∀ w', Keeps [] w8 w' → Calls Tryz.prog 21 #[obV n rr zz, .int .i64 i1, .int .u64 v, fv] w' fun e w'' => e = .returned (.int .i64 X1) ∧ Hid (∃ u', Pw w'' p a (-1) u' S1 ∧ u' ≤ u + 1 ∧ Keeps [p, a.s, a.k, a.m] w' w'')) := fun w' hk => by
    have h := owrite_fv w' p a u S full (HP5.out.keep0 (k8.trans hk)) (by have := HUB.out; omega) n rr zz i1 v ⟨HZN.out.1, HZN.out.2.1⟩ HZN.out.2.2
    rw [← HFV.out] at h
    rw [hX1, hS1, HEE.out.1]
    exact h
  have HPT : Hid (∀ w' u', Pw w' p a (-1) u' S1 → u' ≤ u + 1 → Calls Tryz.prog 22 #[obV n rr zz, .int .i64 i1, .int .i64 t, fv] w' fun e w'' => e = .returned (.int .i64 X2) ∧ Hid (∃ u'', Pw w'' p a (-1) u'' S2 ∧ u'' ≤ u' + 1 ∧ Keeps [p, a.s, a.k, a.m] w' w'')) := fun w' u' hp hu' => by
    have h := opoint_fv w' p a u' S1 full hp (by have := HUB.out; omega) n rr zz i1 t t (IntWalk.u64_in _ (by omega)) ⟨HZN.out.1, HZN.out.2.1⟩ HZN.out.2.2
    rw [← HFV.out] at h
    rw [hX2, hS2, HEE.out.2]
    exact h
  have HXX := hid (And.intro hX1 (And.intro hX2 (And.intro hS1 hS2)))
  have HA8 := hid hA8
  have HC8 := hid (k8.at HC5.out (by simp))
  have HCL8 : Hid (∀ w', Keeps [p, a.s, a.k, a.m] w8 w' → (w'.cell? ⟨b5, 0, none⟩ = some (.int .i64 n) ∧ w'.cell? ⟨b5, 1, none⟩ = some (.int .i64 rr) ∧ w'.cell? ⟨b5, 2, none⟩ = some (.int .i64 zz))) := fun w' hk => by
    have e1 := hk.at HA8.out HCB5.out.2
    exact ⟨e1.cell 0 rfl, e1.cell 1 rfl, e1.cell 2 rfl⟩
  have e1 : IntKind.i64.wrap (t : Int) = (t : Int) := IntWalk.i64_in _ (by omega)
  clear hX1 hX2 hS1 hS2 hA8 o0 o1 o2 t1 t2
  have k0 : Keeps [] w8 w8.drew := (Keeps.refl _ _).drew
  go_region_held3 (fun w' => w'.cell? ⟨b5, 0, none⟩ = some (.int .i64 n) ∧ w'.cell? ⟨b5, 1, none⟩ = some (.int .i64 rr) ∧ w'.cell? ⟨b5, 2, none⟩ = some (.int .i64 zz))
    (first | exact HCL8.out _ kT | exact HCL8.out _ (k0.mono (by simp)))
    (first
      | (go_at_call 21; refine (HWR.out _ k0).mono ?_; rintro e wx ⟨rfl, hx⟩; obtain ⟨u9, hP9, hu9, hk9⟩ := hx.out; have kT := (k0.mono (by simp) : Keeps [p, a.s, a.k, a.m] _ _).trans hk9)
      | (go_at_call 22; refine (HPT.out _ _ hP9 hu9).mono ?_; rintro e wy ⟨rfl, hx2⟩; obtain ⟨u10, hP10, hu10, hk10⟩ := hx2.out; have kT := kT.trans hk10))
  rename_i hHd
  clear hHd e1
  have k89 : Keeps [p, a.s, a.k, a.m] w8 wy := kT
  have HP9 := hid hP10
  have HO9 := hid (HO8.out.keep k89 HG2.out.1)
  have HA9 := hid (k89.at HA8.out HCB5.out.2)
  have HC9 := hid (k89.at HC8.out HCB5.out.1)
  have HKW9 : Hid (Keeps [] W wy) := (HKW5.out.trans k8).new k89 (fun b hb => .inr (HWB5.out b hb).1)
  obtain ⟨w9, hw9⟩ : ∃ w9, w9 = wy := ⟨_, rfl⟩
  subst hw9
  clear kT hk9 hk10 hx hx2 k89 hP9 hP10 hu9 hu10 k0 HWR HPT HCL8 HO8 HA8 HC8 k8 HP5 HKW5
  go_upto_region 30 with fail
  go_cut [156] from 152 to 156 (fun s156 wx => s156 = .bool (full && (E1 == 0)) ∧ wx = w9)
  case first =>
    cases full with
    | false =>
      go_wp2_with fail
      go_meet
      exact ⟨rfl, rfl⟩
    | true =>
      go_wp2_with fail
      go_meet
      exact ⟨by simp, rfl⟩
  case rest =>
  obtain ⟨rfl, hw⟩ := hcut
  rw [hw]
  clear hw
  obtain ⟨b1, hb1⟩ : ∃ b1, b1 = (full && (E1 == 0)) := ⟨_, rfl⟩
  rw [← hb1]
  have HB1 : Hid ((b1 = true → X1 = 3) ∧ (b1 = false → X1 = E1)) := by
    rw [HXX.out.1]
    exact fldX_cases hb1
  clear hb1
  go_upto_if 156 with fail
  go_cut [25] from 156 to 156 (fun s25 wx => s25 = .int .i64 X1 ∧ wx = w9)
  case first =>
    cases b1 with
    | false =>
      have hh := hid (HB1.out.2 rfl)
      clear HB1
      go_wp2_with fail
      go_meet
      exact ⟨by rw [hh.out], rfl⟩
    | true =>
      have hh := hid (HB1.out.1 rfl)
      clear HB1
      go_wp2_with fail
      go_meet
      exact ⟨by rw [hh.out], rfl⟩
  case rest =>
  obtain ⟨rfl, hw⟩ := hcut
  rw [hw]
  clear hw HB1
  go_upto_region 32 with fail
  go_cut [161] from 157 to 161 (fun s161 wx => s161 = .bool (full && (E2 == 0)) ∧ wx = w9)
  case first =>
    cases full with
    | false =>
      go_wp2_with fail
      go_meet
      exact ⟨rfl, rfl⟩
    | true =>
      go_wp2_with fail
      go_meet
      exact ⟨by simp, rfl⟩
  case rest =>
  obtain ⟨rfl, hw⟩ := hcut
  rw [hw]
  clear hw
  obtain ⟨b2, hb2⟩ : ∃ b2, b2 = (full && (E2 == 0)) := ⟨_, rfl⟩
  rw [← hb2]
  have HB2 : Hid ((b2 = true → X2 = 3) ∧ (b2 = false → X2 = E2)) := by
    rw [HXX.out.2.1]
    exact fldX_cases hb2
  clear hb2
  go_upto_if 161 with fail
  go_cut [26] from 161 to 161 (fun s26 wx => s26 = .int .i64 X2 ∧ wx = w9)
  case first =>
    cases b2 with
    | false =>
      have hh := hid (HB2.out.2 rfl)
      clear HB2
      go_wp2_with fail
      go_meet
      exact ⟨by rw [hh.out], rfl⟩
    | true =>
      have hh := hid (HB2.out.1 rfl)
      clear HB2
      go_wp2_with fail
      go_meet
      exact ⟨by rw [hh.out], rfl⟩
  case rest =>
  obtain ⟨rfl, hw⟩ := hcut
  rw [hw]
  clear hw HB2
  have t1 : (X1 != X1) = false := by simp
  have t2 : (X2 != X2) = false := by simp
  go_upto_region 36 with fail
  clear t1 t2
  go_cut [175] from 170 to 175 (fun s175 wx => s175 = .bool ((E0 == 0) && !full) ∧ wx = w9)
  case first =>
    cases ot with
    | true =>
      have h4 : E0 = 1 := HE0.out
      subst h4
      go_wp2_with fail
      go_meet
      exact ⟨by simp, rfl⟩
    | false =>
      have h4 : E0 = 0 := HE0.out
      subst h4
      go_wp2_with fail
      go_meet
      exact ⟨by simp, rfl⟩
  case rest =>
  obtain ⟨rfl, hw⟩ := hcut
  rw [hw]
  clear hw
  obtain ⟨b3, hb3⟩ : ∃ b3, b3 = ((E0 == 0) && !full) := ⟨_, rfl⟩
  rw [← hb3]
  have HB3 : Hid ((b3 = true → full = false ∧ ot = false) ∧ (b3 = false → full = true ∨ ot = true)) := b3_cases HE0.out hb3
  clear hb3
  go_upto_if 175 with fail
  go_cut [] from 175 to 203 (fun wx => OwnAt wx g2 c.act d (fun j => S2.now (c.act + j)) ∧ Keeps [g2] w9 wx)
  case first =>
    cases b3 with
    | false =>
      have hS : S2 = S := by
        obtain ⟨_, _, q1, q2⟩ := HXX.out
        rcases HB3.out.2 rfl with h | h
        · rw [q2, q1, h]; rfl
        · obtain ⟨h1, h2⟩ := HE1.out h
          rw [q2, q1, h1, h2]
          unfold setX
          rw [setS_no (by decide), setS_no (by decide)]
          cases full <;> rfl
      go_wp2_with fail
      go_meet
      exact ⟨by rw [hS]; exact HO9.out, Keeps.refl _ _⟩
    | true =>
      obtain ⟨hfu, hot⟩ := HB3.out.1 rfl
      obtain ⟨h0, h1⟩ := HE2.out hot
      subst hfu
      obtain ⟨I, rfl⟩ : ∃ I : Nat, i1 = (I : Int) := ⟨i1.toNat, by omega⟩
      have hIn : I < n := by omega
      have hab : (c.act : Int) ≤ 823 := by have := act_le HO.out.small; omega
      have HAC := hid (fun (w' : World) => active_at w' c HO.out.small)
      obtain ⟨pl, hpe⟩ : ∃ pl, pl = zz + 1 + I - c.act := ⟨_, rfl⟩
      have hq := HQ.out
      have hpa : c.act + pl = zz + 1 + I := by omega
      have hpl : pl < d := by have := HD.out; omega
      have hplI : (pl : Int) < (d : Int) := by omega
      have e1 : IntKind.i64.wrap ((zz : Int) + 1 + (I : Int) - (c.act : Int)) = (pl : Int) := by rw [IntWalk.i64_in _ (by omega)]; omega
      have e0 : (zz : Int) + 1 + (I : Int) - (c.act : Int) = (pl : Int) := by omega
      have e4 : IntKind.i64.wrap (pl : Int) = (pl : Int) := IntWalk.i64_in _ (by omega)
      have e2 : IntKind.i64.wrap ((zz : Int) + 1 + (I : Int)) = (zz : Int) + 1 + (I : Int) := IntWalk.i64_in _ (by omega)
      have e3 : IntKind.i64.wrap ((zz : Int) + 1) = (zz : Int) + 1 := IntWalk.i64_in _ (by omega)
      have hdi : (d : Int) ≤ 20000 := by have := HD.out; have := HN.out; have h5 := frm_le HO.out.small (show 2 ≤ 2 by omega); have h6 : c.words = c.frm 2 := rfl; omega
      have hpli : (pl : Int) ≤ 20000 := by omega
      have hni : (n : Int) ≤ 8 := by omega
      have hzi : (zz : Int) ≤ 20000 := by omega
      have hIi : (I : Int) < 8 := by omega
      have HCL9 : Hid (∀ w', Keeps [g2] w9 w' → (w'.cell? ⟨b5, 0, none⟩ = some (.int .i64 n) ∧ w'.cell? ⟨b5, 1, none⟩ = some (.int .i64 rr) ∧ w'.cell? ⟨b5, 2, none⟩ = some (.int .i64 zz) ∧ w'.cell? ⟨cb, 0, none⟩ = some (.int .i64 c.log) ∧ w'.cell? ⟨cb, 1, none⟩ = some (.int .i64 c.roots) ∧ w'.cell? ⟨cb, 2, none⟩ = some (.int .i64 c.space))) := fun w' hk => by
        have e1 := hk.at HA9.out (by simp; exact fun h => HG2.out.2.2.1 h.symm)
        have e2 := hk.at HC9.out (by simp; exact fun h => HG2.out.2.1 h.symm)
        exact ⟨e1.cell 0 rfl, e1.cell 1 rfl, e1.cell 2 rfl, e2.cell 0 rfl, e2.cell 1 rfl, e2.cell 2 rfl⟩
      have HPA := hid hpa
      clear h0 h1 hpe HB3 hot HE1 HE2 HOT HNM hpa hq
      go_upto_region 37 with fail
      have hK9 : Keeps [g2] w9 w9 := Keeps.refl _ _
      have kk : Keeps [] w9 w9.drew := (Keeps.refl _ _).drew
      have O0 := HO9.out.keep kk (by simp)
      obtain ⟨yc, yf⟩ := O0.cell hpl
      go_region_held3 (fun w' => w'.cell? ⟨b5, 0, none⟩ = some (.int .i64 n) ∧ w'.cell? ⟨b5, 1, none⟩ = some (.int .i64 rr) ∧ w'.cell? ⟨b5, 2, none⟩ = some (.int .i64 zz) ∧ w'.cell? ⟨cb, 0, none⟩ = some (.int .i64 c.log) ∧ w'.cell? ⟨cb, 1, none⟩ = some (.int .i64 c.roots) ∧ w'.cell? ⟨cb, 2, none⟩ = some (.int .i64 c.space))
        (first | exact HCL9.out _ (hK9.trans (kk.mono (by simp))) | exact HCL9.out _ ((hK9.trans (kk.mono (by simp))).set (p := ⟨g2, c.act + pl, none⟩) (.inl (by simp)) _))
        (first
          | (go_at_call 23; refine (HAC.out _).mono ?_; rintro e w' ⟨rfl, hk9⟩; have kk := kk.trans hk9; clear hk9; have O0 := HO9.out.keep kk (by simp); obtain ⟨yc, yf⟩ := O0.cell hpl))
      rename_i hHd
      clear hHd
      have OP := O0.put hpl v
      have KP := (hK9.trans (kk.mono (by simp))).set (p := ⟨g2, c.act + pl, none⟩) (.inl (by simp)) (.int .u64 v)
      clear yc yf O0 kk
      obtain ⟨wS, hwS⟩ : ∃ wS, wS = w'.setCell ⟨g2, c.act + pl, none⟩ (.int .u64 v) := ⟨_, rfl⟩
      rw [← hwS] at OP KP ⊢
      have HOP := hid OP
      clear hwS OP hK9
      obtain ⟨z1, z2, z3, z4, z5, z6⟩ := HCL9.out _ KP
      by_cases hr : I < rr
      · have t1 : decide ((I : Int) < (rr : Int)) = true := decide_eq_true (by omega)
        have t2 : (I : Int) < (rr : Int) := by omega
        have t3 : decide (I < rr) = true := decide_eq_true hr
        have hE1 : E1 = 5 := by rw [HEE.out.1]; exact fldE_kind (by omega) (by omega) (by simp; omega)
        have hE2 : E2 = 0 := by rw [HEE.out.2]; exact fldE_in (by omega) (by omega) (by simp; omega)
        have HEQ : Hid (∀ j, S2.now j = if j = zz + 1 + I then (t : Int) else S.now j) := fun j => by
          obtain ⟨_, _, q1, q2⟩ := HXX.out
          rw [q2, q1, hE1, hE2]
          show (setS (setS S zz I v 5) zz I t 0).now j = _
          rw [setS_yes, setS_no (e0 := 5) (by decide), show ((zz : Int) + 1 + (I : Int)).toNat = zz + 1 + I by omega]
        clear hr hE1 hE2
        go_upto_region 39 with fail
        clear z1 z2 z3 z4 z5 z6
        have e6 : IntKind.u64.wrap (t : Int) = (t : Int) := IntWalk.u64_in _ (by omega)
        have kk : Keeps [] wS wS.drew := (Keeps.refl _ _).drew
        have O0 := HOP.out.keep kk (by simp)
        obtain ⟨yc, yf⟩ := O0.cell hpl
        go_region_held3 (fun w' => w'.cell? ⟨b5, 0, none⟩ = some (.int .i64 n) ∧ w'.cell? ⟨b5, 1, none⟩ = some (.int .i64 rr) ∧ w'.cell? ⟨b5, 2, none⟩ = some (.int .i64 zz) ∧ w'.cell? ⟨cb, 0, none⟩ = some (.int .i64 c.log) ∧ w'.cell? ⟨cb, 1, none⟩ = some (.int .i64 c.roots) ∧ w'.cell? ⟨cb, 2, none⟩ = some (.int .i64 c.space))
          (first | exact HCL9.out _ (KP.trans (kk.mono (by simp))) | exact HCL9.out _ ((KP.trans (kk.mono (by simp))).set (p := ⟨g2, c.act + pl, none⟩) (.inl (by simp)) _))
          (first
            | (go_at_call 23; refine (HAC.out _).mono ?_; rintro e w' ⟨rfl, hk9⟩; have kk := kk.trans hk9; clear hk9; have O0 := HOP.out.keep kk (by simp); obtain ⟨yc, yf⟩ := O0.cell hpl))
        rename_i hHd
        clear hHd
        have OP := O0.put hpl t
        have KP := (KP.trans (kk.mono (by simp))).set (p := ⟨g2, c.act + pl, none⟩) (.inl (by simp)) (.int .u64 t)
        clear yc yf O0 kk
        have HEN : Hid (OwnAt (w'.setCell ⟨g2, c.act + pl, none⟩ (.int .u64 t)) g2 c.act d (fun j => S2.now (c.act + j))) := OP.congr fun j hj => by
          have hpa := HPA.out
          rw [HEQ.out]
          by_cases hjp : j = pl
          · subst hjp; rw [put_on, if_pos hpa]
          · rw [put_off _ _ hjp, put_off _ _ hjp, if_neg (by omega)]
        have HKN := hid KP
        clear OP KP
        go_wp2_with fail
        go_meet
        exact ⟨HEN.out, HKN.out⟩
      · have t1 : decide ((I : Int) < (rr : Int)) = false := decide_eq_false (by omega)
        have t2 : (rr : Int) ≤ (I : Int) := by omega
        have t3 : decide (I < rr) = false := decide_eq_false hr
        have hE1 : E1 = 0 := by rw [HEE.out.1]; exact fldE_in (by omega) (by omega) (by simp; omega)
        have hE2 : E2 = 5 := by rw [HEE.out.2]; exact fldE_kind (by omega) (by omega) (by simp; omega)
        have HEN : Hid (OwnAt wS g2 c.act d (fun j => S2.now (c.act + j))) := HOP.out.congr fun j hj => by
          have hpa := HPA.out
          obtain ⟨_, _, q1, q2⟩ := HXX.out
          rw [q2, q1, hE1, hE2]
          show _ = (setS (setS S zz I v 0) zz I t 5).now (c.act + j)
          rw [setS_no (by decide), setS_yes, show ((zz : Int) + 1 + (I : Int)).toNat = zz + 1 + I by omega]
          by_cases hjp : j = pl
          · subst hjp; rw [put_on, if_pos hpa]
          · rw [put_off _ _ hjp, if_neg (by omega)]
        have HKN := hid KP
        clear hr hE1 hE2 KP
        go_wp2_with fail
        go_meet
        exact ⟨HEN.out, HKN.out⟩
  case rest =>
  obtain ⟨hO10, hk10⟩ := hcut
  obtain ⟨w10, hw10⟩ : ∃ w10, w10 = wc := ⟨_, rfl⟩
  subst hw10
  have g2T : ∀ b, b ≠ g2 → b ∉ [g2] := fun b h h2 => h (by simpa using h2)
  have HA10 := hid (hk10.at HA9.out (g2T _ (fun h => HG2.out.2.2.1 h.symm)))
  have HC10 := hid (hk10.at HC9.out (g2T _ (fun h => HG2.out.2.1 h.symm)))
  have hgT := HG2.out.1
  simp only [List.mem_cons, List.not_mem_nil, or_false, not_or] at hgT
  have hP10 := HP9.out.keep hk10 (g2T _ (fun h => hgT.1 h.symm)) (g2T _ (fun h => HG2.out.2.2.2.2.1 h.symm)) (g2T _ (fun h => hgT.2.1 h.symm)) (g2T _ (fun h => hgT.2.2.1 h.symm)) (g2T _ (fun h => hgT.2.2.2 h.symm))
  have HKW10 : Hid (Keeps [] W w10) := HKW9.out.new hk10 (fun b hb => .inr (by rw [List.mem_singleton.1 hb]; exact HG2.out.2.2.2.1))
  have HP10 := hid hP10
  have HO10 := hid hO10
  have HRA := hid (fun (w' : World) (hk : Keeps [] w10 w') => oread_at w' p a S2 (hP10.keep0 hk).dev n rr zz i1 HZN.out.2.1 HZN.out.2.2)
  have HRB := hid (fun (w' : World) (hk : Keeps [] w10 w') => oref_at w' p a S2 (hP10.keep0 hk).dev n rr zz i1 HZN.out.2.1 HZN.out.2.2)
  obtain ⟨N1, hN1⟩ : ∃ N1, N1 = rdW S2 zz i1 E1 := ⟨_, rfl⟩
  obtain ⟨N2, hN2⟩ : ∃ N2, N2 = rfW S2 zz i1 E2 := ⟨_, rfl⟩
  rw [← HEE.out.1, ← hN1] at HRA
  rw [← HEE.out.2, ← hN2] at HRB
  have HNN := hid (And.intro hN1 hN2)
  clear hN1 hN2 hgT g2T hP10 hk10 hO10 HA9 HC9 HP9 HKW9
  have o0 := HA10.out.cell 0 rfl
  have o1 := HA10.out.cell 1 rfl
  have o2 := HA10.out.cell 2 rfl
  go_wp2_with fail
  refine (HRA.out _ (Keeps.refl _ _)).mono ?_
  rintro e w11 ⟨rfl, hk11⟩
  have hA11 := hk11.at HA10.out (by simp)
  clear o0 o1 o2
  have o0 := hA11.cell 0 rfl
  have o1 := hA11.cell 1 rfl
  have o2 := hA11.cell 2 rfl
  go_wp2_with fail
  refine (HRB.out _ hk11).mono ?_
  rintro e w12 ⟨rfl, hk12⟩
  have k12 := hk11.trans hk12
  clear o0 o1 o2 hA11 hk11 hk12 HRA HRB
  go_upto_region 42 with fail
  go_cut [250] from 218 to 250 (fun s250 wx => s250 = .bool false ∧ wx = w12)
  case first =>
    cases full with
    | true =>
      go_wp2_with fail
      go_meet
      exact ⟨rfl, rfl⟩
    | false =>
      have hX1 : X1 = E1 := HXX.out.1.trans ((fldX_cases (full := false) (b := false) (E := E1) (by simp)).2 rfl)
      have hX2 : X2 = E2 := HXX.out.2.1.trans ((fldX_cases (full := false) (b := false) (E := E2) (by simp)).2 rfl)
      subst hX1 hX2
      cases ot with
      | true =>
        have hE1 := hid HE1.out
        have h1 : X1 = 1 := (HE1.out rfl).1
        have h2 : X2 = 1 := (HE1.out rfl).2
        subst h1 h2
        clear HE1 hE1 HE2 HXX HEE HNN
        go_wp2_with fail
        go_meet
        exact ⟨rfl, rfl⟩
      | false =>
        obtain ⟨h0, h1⟩ := HE2.out rfl
        obtain ⟨q01, q02, q1, q2⟩ := HXX.out
        obtain ⟨q3, q4⟩ := HNN.out
        clear q01 q02
        obtain ⟨r1, r2⟩ := HEE.out
        by_cases hr : i1 < (rr : Int)
        · have h2 : X1 = 5 := r1.trans (fldE_kind h0 h1 (by simp; omega))
          have h3 : X2 = 0 := r2.trans (fldE_in h0 h1 (by simp; omega))
          clear r1 r2 HEE HXX HNN HE1 HE2
          subst h2 h3
          have h4 : N2 = (t : Int) := by
            rw [q4, q2, q1]
            show asInt ((setS (setS S zz i1 v 5) zz i1 t 0).now ((zz : Int) + 1 + i1).toNat) = (t : Int)
            rw [setS_yes, if_pos rfl]
            exact asInt_of t (by omega)
          clear q1 q2 q3 q4
          subst h4
          have h5 : ((t : Int) != (t : Int)) = false := by simp
          go_wp2_with fail
          go_meet
          exact ⟨rfl, rfl⟩
        · have h2 : X1 = 0 := r1.trans (fldE_in h0 h1 (by simp; omega))
          have h3 : X2 = 5 := r2.trans (fldE_kind h0 h1 (by simp; omega))
          clear r1 r2 HEE HXX HNN HE1 HE2
          subst h2 h3
          have h4 : N1 = v := by
            rw [q3, q2, q1]
            show (setS (setS S zz i1 v 0) zz i1 t 5).now ((zz : Int) + 1 + i1).toNat = v
            rw [setS_no (by decide), setS_yes, if_pos rfl]
          clear q1 q2 q3 q4
          subst h4
          have h5 : (N1 != N1) = false := by simp
          go_wp2_with fail
          go_meet
          exact ⟨rfl, rfl⟩
  case rest =>
  obtain ⟨rfl, hw⟩ := hcut
  rw [hw]
  clear hw
  have hC12 := k12.at HC10.out (by simp)
  have c0 := hC12.cell 0 rfl
  have c1 := hC12.cell 1 rfl
  have c2 := hC12.cell 2 rfl
  have HW12 := hid (words7_own w12 p a S2 c (HP10.out.keep0 k12).dev HO.out HN.out)
  have HO12 := hid (HO10.out.keep k12 (by simp))
  have hdi : d ≤ 35184372088832 := by
    have := HD.out
    have := (HP10.out.dev).few
    have := a.n8
    omega
  have HDI := hid hdi
  clear hC12 hdi
  go_wp2_with fail
  refine HW12.out.mono ?_
  rintro e w13 ⟨g3, cap3, rfl, hg3, hO13, _, hk13⟩
  rw [← HD.out] at hO13 ⊢
  have HEQ := hid (equal_true w13 _ _ d cap3 cap2 _ _ hO13.reads (HO12.out.keep hk13 (by simp)).reads (fun _ _ => rfl) HDI.out)
  clear hO13 hg3 c0 c1 c2
  go_wp2_with fail
  refine HEQ.out.mono ?_
  rintro e w14 ⟨rfl, hk14⟩
  go_wp2_with fail
  go_ret
  exact ⟨rfl, (((HKW10.out.trans k12).trans hk13).trans hk14).below (Nat.le_refl _) (by simp)⟩

theorem objectFields_walk (l r s : Int) (y : Option Addr) (m cm : Nat) (z : Nat → Nat → Int) (k i : Int) (near : Bool) (v t : Int) (full : Bool) (W : World) (wl : (Lit.int .u16 l).wf = true) (wr : (Lit.int .u16 r).wf = true) (ws : (Lit.int .u16 s).wf = true)
    (R2 : m * 2 = 0 ∨ ∃ b off, y = some ⟨b, off, none⟩ ∧ b < W.heap.size ∧ ∀ i j, i < m → j < 2 → W.cell? ⟨b, off + (i * 2 + j), none⟩ = some (.int ((fun j => if j = 0 then IntKind.u8 else IntKind.u8) j) (z i j)) ∧ (Lit.int ((fun j => if j = 0 then IntKind.u8 else IntKind.u8) j) (z i j)).wf = true) (hm : m ≤ maxLen)
    (wk : (Lit.int .u8 k).wf = true) (wi : (Lit.int .i64 i).wf = true) (_ : (Lit.int .u64 v).wf = true) (wt : (Lit.int .u16 t).wf = true) :
    Calls Tryz.prog 4 #[.agg #[.int .u16 l, .int .u16 r, .int .u16 s], .slice y m cm, .int .u8 k, .int .i64 i, .bool near, .int .u64 v, .int .u16 t, .bool full] W fun e w' => e = .returned (.bool true) ∧ Below W.heap.size W w' := by
  obtain ⟨l, rfl, hl⟩ := c3_open wl
  obtain ⟨r, rfl, hr⟩ := c3_open wr
  obtain ⟨s, rfl, hs⟩ := c3_open ws
  obtain ⟨t, rfl, ht⟩ := c3_open wt
  have hk := bounds_u8 wk
  obtain ⟨k, rfl⟩ : ∃ n : Nat, (n : Int) = k := ⟨k.toNat, by omega⟩
  have hi := bounds_i64 wi
  exact fields_small l r s k t y m cm _ _ i v near full W hl hr hs (by omega) ht (by omega) (readsH_of R2) (by unfold maxLen at hm; omega)

end Go.Proofs.YtfiohbniojmfaaaGreat
