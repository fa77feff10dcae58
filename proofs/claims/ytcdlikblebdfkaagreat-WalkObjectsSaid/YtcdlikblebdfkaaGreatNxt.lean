/- What a name is set to: the closure's contract. -/
import Derived.Test.YtcdlikblebdfkaaGreatLnk
import Derived.BigQuiet
namespace Go.Proofs.YtcdlikblebdfkaaGreat
open Go.RowKit Go.OpenShut

/-- Words of 16 bits, in a row. -/
def ReadsW (w : World) (y : Option Addr) (m : Nat) (G : Nat → Nat) : Prop :=
  m = 0 ∨ ∃ b off, y = some ⟨b, off, none⟩ ∧ b < w.heap.size ∧ ∀ i, i < m → w.cell? ⟨b, off + i, none⟩ = some (.int .u16 (G i : Nat)) ∧ G i ≤ 65535

theorem ReadsW.keep {w w' : World} {y : Option Addr} {m : Nat} {G : Nat → Nat} {T : List Nat} (h : ReadsW w y m G) (hk : Keeps T w w') (hT : ∀ b off, y = some ⟨b, off, none⟩ → b ∉ T) : ReadsW w' y m G := by
  rcases h with h | ⟨b, off, rfl, hb, hc⟩
  · exact .inl h
  · exact .inr ⟨b, off, rfl, Nat.lt_of_lt_of_le hb hk.size, fun i hi => by rw [hk.cell hb (hT b off rfl)]; exact hc i hi⟩

/-- Whole numbers, in a row. -/
def ReadsN (w : World) (y : Option Addr) (n : Nat) (P : Nat → Nat) : Prop :=
  n = 0 ∨ ∃ b off, y = some ⟨b, off, none⟩ ∧ b < w.heap.size ∧ ∀ i, i < n → w.cell? ⟨b, off + i, none⟩ = some (.int .i64 (P i : Nat))

theorem ReadsN.keep {w w' : World} {y : Option Addr} {n : Nat} {P : Nat → Nat} {T : List Nat} (h : ReadsN w y n P) (hk : Keeps T w w') (hT : ∀ b off, y = some ⟨b, off, none⟩ → b ∉ T) : ReadsN w' y n P := by
  rcases h with h | ⟨b, off, rfl, hb, hc⟩
  · exact .inl h
  · exact .inr ⟨b, off, rfl, Nat.lt_of_lt_of_le hb hk.size, fun i hi => by rw [hk.cell hb (hT b off rfl)]; exact hc i hi⟩

theorem OwnI.reads {w : World} {B : Nat} {x : Option Addr} {cp n : Nat} {f : Nat → Nat} (h : OwnI w B x cp n f) : ReadsN w x n f := by
  by_cases hn : n = 0
  · exact .inl hn
  · obtain ⟨g, rfl, _, h2, h3⟩ := h.cell (by omega)
    exact .inr ⟨g, 0, rfl, h2, fun i hi => by rw [Nat.zero_add]; exact h3 i hi⟩

set_option maxRecDepth 100000 in
set_option maxHeartbeats 4000000 in
theorem next11_at (w : World) (kb nb pb wb : Nat) (k m cm n cn wr : Nat) (y px : Option Addr) (G P : Nat → Nat)
    (hk : At w kb (.cells #[.int .i64 k] 3)) (hn : At w nb (.cells #[.slice y m cm] 56)) (hp : At w pb (.cells #[.slice px n cn] 34)) (hw : At w wb (.cells #[.int .u8 wr] 5))
    (hG : ReadsW w y m G) (hP : ReadsN w px n P) (hPb : ∀ i, i < n → P i ≤ 100000) (hkb : k ≤ 1000000) (hwr : wr ≤ 255) (hm : m ≤ 9223372036854775807) (hnn : n ≤ 1000000)
    (hd : kb ≠ nb ∧ kb ≠ pb ∧ kb ≠ wb) (hy : m = 0 ∨ ∀ b off, y = some ⟨b, off, none⟩ → b ≠ kb) (hx : n = 0 ∨ ∀ b off, px = some ⟨b, off, none⟩ → b ≠ kb) :
    Calls Tryz.prog 32 #[ptr kb, ptr nb, ptr pb, ptr wb] w fun e w' => e = .returned (.int .u64 (nxV G m P n wr k : Nat)) ∧ At w' kb (.cells #[.int .i64 ((k + 1 : Nat) : Int)] 3) ∧ Keeps [kb] w w' := by
  have k0 := hk.cell 0 rfl
  have kf := hk.free 0
  have hkk : (k : Int) ≤ 1000000 := by omega
  go_enter Tryz.func32, Tryz.ntmps32
  go_upto_region 2 with fail
  have hK1 : At (w.setCell ⟨kb, 0, none⟩ (.int .i64 ((k : Int) + 1))) kb (.cells #[.int .i64 ((k : Int) + 1)] 3) := by
    have := hk.set 0 (.int .i64 ((k : Int) + 1))
    simpa using this
  have hN1 := hn.set_ne (a := ⟨kb, 0, none⟩) hd.1.symm (.int .i64 ((k : Int) + 1))
  have hP1 := hp.set_ne (a := ⟨kb, 0, none⟩) hd.2.1.symm (.int .i64 ((k : Int) + 1))
  have hW1 := hw.set_ne (a := ⟨kb, 0, none⟩) hd.2.2.symm (.int .i64 ((k : Int) + 1))
  have K1 : Keeps [kb] w (w.setCell ⟨kb, 0, none⟩ (.int .i64 ((k : Int) + 1))) := (Keeps.refl _ w).set (.inl (by simp)) _
  have hG1 : ReadsW (w.setCell ⟨kb, 0, none⟩ (.int .i64 ((k : Int) + 1))) y m G := by
    rcases hy with h | hy
    · exact .inl h
    · exact hG.keep K1 (fun b off h => by simpa using hy b off h)
  have hP1r : ReadsN (w.setCell ⟨kb, 0, none⟩ (.int .i64 ((k : Int) + 1))) px n P := by
    rcases hx with h | hx
    · exact .inl h
    · exact hP.keep K1 (fun b off h => by simpa using hx b off h)
  obtain ⟨w1, hw1⟩ : ∃ w1, w1 = w.setCell ⟨kb, 0, none⟩ (.int .i64 ((k : Int) + 1)) := ⟨_, rfl⟩
  rw [← hw1] at hK1 hN1 hP1 hW1 K1 hG1 hP1r
  first | rw [← hw1] | skip
  have HE : Hid (At w1 kb (.cells #[.int .i64 ((k + 1 : Nat) : Int)] 3) ∧ Keeps [kb] w w1) := ⟨by simpa using hK1, K1⟩
  have HPB := hid hPb
  clear hw1 hk hn hp hw hG hP hd hy hx k0 kf K1 hPb
  have k0 := hK1.cell 0 rfl
  have n0 := hN1.cell 0 rfl
  have p0 := hP1.cell 0 rfl
  have x0 := hW1.cell 0 rfl
  have hmi : (m : Int) ≤ 9223372036854775807 := by omega
  have hni : (n : Int) ≤ 1000000 := by omega
  have hwi : (wr : Int) ≤ 255 := by omega
  by_cases hkm : k < m
  case neg =>
    have t1 : decide ((m : Int) < (k : Int) + 1) = true := decide_eq_true (by omega)
    have t2 : (m : Int) < (k : Int) + 1 := by omega
    have HV : Hid (nxV G m P n wr k = 0) := by
      show _ = _
      unfold nxV
      rw [if_neg (by omega)]
    clear hkm
    go_wp2_with fail
    go_ret
    exact ⟨by rw [HV.out]; rfl, HE.out⟩
  obtain ⟨b, off, rfl, hb, hcl⟩ := hG1.resolve_left (by omega)
  obtain ⟨hc0, hg⟩ := hcl k hkm
  obtain ⟨gi, hgi⟩ : ∃ gi, gi = G k := ⟨_, rfl⟩
  rw [← hgi] at hc0 hg
  have HGI := hid hgi
  have hgb : (gi : Int) ≤ 65535 := by omega
  have t1 : decide ((m : Int) < (k : Int) + 1) = false := decide_eq_false (by omega)
  have t2 : (k : Int) + 1 ≤ (m : Int) := by omega
  have t3 : (k : Int) < (m : Int) := by omega
  have HKM := hid hkm
  clear hcl hb hgi hg hkm hG1
  by_cases hn0 : n = 0
  case pos =>
    subst hn0
    have HV : Hid (nxV G m P 0 wr k = 0) := by
      show _ = _
      unfold nxV
      rw [if_neg (by omega)]
    go_wp2_with fail
    go_ret
    exact ⟨by rw [HV.out]; rfl, HE.out⟩
  have t4 : ((n : Int) == 0) = false := by rw [beq_eq_false_iff_ne]; omega
  have t5 : 0 < (n : Int) := by omega
  have t6 : 0 < n := by omega
  obtain ⟨g5, hg5⟩ : ∃ g5, g5 = gi % 5 := ⟨_, rfl⟩
  have e1 : (gi : Int) % 5 = (g5 : Int) := by omega
  have e2 : (gi : Int).tmod 5 = (g5 : Int) := by rw [Int.tmod_eq_emod_of_nonneg (by omega)]; exact e1
  have e3 : IntKind.u16.wrap (g5 : Int) = (g5 : Int) := IntWalk.u16_in _ (by omega)
  have hg5b : (g5 : Int) ≤ 4 := by omega
  have HG5 := hid hg5
  clear hg5
  by_cases hz : g5 = 0
  case pos =>
    subst hz
    have HV : Hid (nxV G m P n wr k = 0) := by
      show _ = _
      unfold nxV
      rw [if_neg (by have := HG5.out; rw [← HGI.out]; omega)]
    go_wp2_with fail
    go_ret
    exact ⟨by rw [HV.out]; rfl, HE.out⟩
  have t7 : ((g5 : Int) == 0) = false := by rw [beq_eq_false_iff_ne]; omega
  obtain ⟨gn, hgn⟩ : ∃ gn, gn = gi % n := ⟨_, rfl⟩
  have hgl : gn < n := by rw [hgn]; exact Nat.mod_lt _ t6
  have e4 : (gi : Int) % (n : Int) = (gn : Int) := by rw [hgn]; exact (Int.natCast_emod gi n).symm
  have e5 : (gi : Int).tmod (n : Int) = (gn : Int) := by rw [Int.tmod_eq_emod_of_nonneg (by omega)]; exact e4
  have e6 : IntKind.i64.wrap (gn : Int) = (gn : Int) := IntWalk.i64_in _ (by omega)
  have e7 : IntKind.i64.wrap ((gi : Int).tmod (n : Int)) = (gn : Int) := by rw [e5]; exact e6
  have e8 : IntKind.i64.wrap (gi : Int) = (gi : Int) := IntWalk.i64_in _ (by omega)
  obtain ⟨bx, ox, rfl, hbx, hcx⟩ := hP1r.resolve_left (by omega)
  obtain ⟨pv, hpv⟩ : ∃ pv, pv = P gn := ⟨_, rfl⟩
  have px0 := hcx gn hgl
  rw [← hpv] at px0
  have hpb : (pv : Int) ≤ 100000 := by have := HPB.out gn hgl; omega
  have hgi2 : (gn : Int) < (n : Int) := by omega
  have hn0' : ¬ (n : Int) = 0 := by omega
  have hn0'' : ¬ n = 0 := hn0
  obtain ⟨bt, hbt⟩ : ∃ bt, bt = (decide (0 < wr) && decide (gi % wr = 1)) := ⟨_, rfl⟩
  have HV : Hid (nxV G m P n wr k = pv + (if bt = true then 1 else 0)) := by
    show _ = _
    unfold nxV
    rw [if_pos ⟨HKM.out, t6, by have := HG5.out; rw [← HGI.out]; omega⟩, ← HGI.out, ← hgn, ← hpv, hbt]
    simp
  have hm2 := hm
  have t8 : decide (m ≤ k) = false := decide_eq_false (by omega)
  have t9 : k < m := HKM.out
  clear hpv hgn hcx hn0 hbx hP1r
  go_upto_region 4 with fail
  go_quiet (fail)
  go_upto_region 5 with fail
  have hK2 := hK1.drewN nq
  have hN2 := hN1.drewN nq
  have hP2 := hP1.drewN nq
  have hW2 := hW1.drewN nq
  have hc2 : (w1.drewN nq).cell? ⟨b, off + k, none⟩ = some (.int .u16 (gi : Nat)) := hc0
  have HE2 : Hid (At (w1.drewN nq) kb (.cells #[.int .i64 ((k + 1 : Nat) : Int)] 3) ∧ Keeps [kb] w (w1.drewN nq)) := ⟨HE.out.1.drewN nq, HE.out.2.drewN nq⟩
  obtain ⟨w2, hw2⟩ : ∃ w2, w2 = w1.drewN nq := ⟨_, rfl⟩
  rw [← hw2] at hK2 hN2 hP2 hW2 hc2 HE2
  first | rw [← hw2] | skip
  clear hw2 k0 n0 p0 x0 hc0 HE hK1 hN1 hP1 hW1 px0
  have k0 := hK2.cell 0 rfl
  have n0 := hN2.cell 0 rfl
  have p0 := hP2.cell 0 rfl
  have x0 := hW2.cell 0 rfl
  by_cases hwz : wr = 0
  · subst hwz
    have hbf : bt = false := by rw [hbt]; simp
    rw [hbf] at HV
    clear hbt
    go_quiet (fail)
    go_wp2_with fail
    go_ret
    have HV' : nxV G m P n 0 k = pv := by rw [HV.out]; rfl
    exact ⟨by rw [HV']; rfl, HE2.out.1.drewN _, HE2.out.2.drewN _⟩
  · have q1 : decide ((0 : Int) < (wr : Int)) = true := decide_eq_true (by omega)
    have q1' : decide (0 < wr) = true := decide_eq_true (by omega)
    have q2 : (0 : Int) < (wr : Int) := by omega
    have q3 : 0 < wr := by omega
    have q4 : ¬ (wr : Int) = 0 := by omega
    obtain ⟨gw, hgw⟩ : ∃ gw, gw = gi % wr := ⟨_, rfl⟩
    have hgwl : gw < wr := by rw [hgw]; exact Nat.mod_lt _ q3
    have r1 : (gi : Int) % (wr : Int) = (gw : Int) := by rw [hgw]; exact (Int.natCast_emod gi wr).symm
    have r2 : (gi : Int).tmod (wr : Int) = (gw : Int) := by rw [Int.tmod_eq_emod_of_nonneg (by omega)]; exact r1
    have r3 : IntKind.u16.wrap (gw : Int) = (gw : Int) := IntWalk.u16_in _ (by omega)
    have r4 : IntKind.u16.wrap ((gi : Int).tmod (wr : Int)) = (gw : Int) := by rw [r2]; exact r3
    have r5 : IntKind.u16.wrap (wr : Int) = (wr : Int) := IntWalk.u16_in _ (by omega)
    have hbt2 : bt = decide (gw = 1) := by rw [hbt, hgw]; simp [q3]
    rw [hbt2] at HV
    clear hbt hbt2 hgw
    by_cases hg1 : gw = 1
    · subst hg1
      go_quiet (fail)
      go_wp2_with fail
      go_ret
      have HV' : nxV G m P n wr k = pv + 1 := by rw [HV.out]; rfl
      exact ⟨by rw [HV']; rfl, by simpa using HE2.out.1.drewN _, HE2.out.2.drewN _⟩
    · have s1 : ((gw : Int) == 1) = false := by rw [beq_eq_false_iff_ne]; omega
      go_quiet (fail)
      go_wp2_with fail
      go_ret
      have HV' : nxV G m P n wr k = pv := by rw [HV.out, if_neg (by simpa using hg1)]; rfl
      exact ⟨by rw [HV']; rfl, HE2.out.1.drewN _, HE2.out.2.drewN _⟩

end Go.Proofs.YtcdlikblebdfkaaGreat
