/- The walk of the law SectionEmpty. -/
import Derived.Test.YtphblanaicaicaaGreatAwk7
namespace Go.Proofs.YtphblanaicaicaaGreat
open Go.RowKit Go.OpenShut

/-- Behind the section: all words stand, and are kept, as they were. -/
def EmptyW (p : Nat) (a : DA) (S : DS) (q : Sc) (w0 wx : World) : Prop := ∃ S2, Dev wx p a S2 ∧ (∀ j, j < a.n → Fix S2 j (S.now j)) ∧ Keeps (q.bl p a) w0 wx

set_option maxRecDepth 100000 in
set_option maxHeartbeats 2000000 in
theorem empty_great (l r s : Nat) (y : Option Addr) (co cq : Nat) (ab : Bool) (i v : Int) (W : World) (hg : 20 < co) :
    Calls Tryz.prog 7 #[c3V l r s, .slice y co cq, .bool ab, .int .i64 i, .int .u64 v] W fun e w' => e = .returned (.bool true) ∧ Below W.heap.size W w' := by
  have g1 : decide (20 < co) = true := by rw [decide_eq_true_eq]; exact hg
  have g2 : decide (20 < (co : Int)) = true := by rw [decide_eq_true_eq]; omega
  go_enter Tryz.func7, Tryz.ntmps7
  go_wp2_with fail
  refine (awake7_any _).mono ?_
  rintro e w1 ⟨rfl, hb1⟩
  have K1 : Keeps [] W w1 := ((Keeps.refl [] W).alloc _).trans (Go.Proofs.YtphblanaicaicaaGreat.Below.keeps hb1 [])
  go_wp2_with fail
  go_ret
  exact ⟨rfl, K1.below (Nat.le_refl _) (by simp)⟩

set_option maxRecDepth 100000 in
set_option maxHeartbeats 4000000 in
theorem empty_small (l r s : Nat) (y : Option Addr) (co cq : Nat) (fo : Nat → Int) (ab : Bool) (i v : Int) (W : World) (hl : l ≤ 65535) (hr : r ≤ 65535) (hs : s ≤ 65535) (hco : co ≤ 20) (hRO : Reads W y co fo) :
    Calls Tryz.prog 7 #[c3V l r s, .slice y co cq, .bool ab, .int .i64 i, .int .u64 v] W fun e w' => e = .returned (.bool true) ∧ Below W.heap.size W w' := by
  have g1 : decide (20 < co) = false := by rw [decide_eq_false_iff_not]; omega
  have g2 : decide (20 < (co : Int)) = false := by rw [decide_eq_false_iff_not]; omega
  have HRO := hid hRO
  clear hRO
  go_enter Tryz.func7, Tryz.ntmps7
  go_wp2_with fail
  have hB0 := At.new W (c3O l r s)
  have K0 := (Keeps.refl [] W).alloc (c3O l r s)
  refine (awake7_any _).mono ?_
  rintro e w1 ⟨rfl, hb1⟩
  have V1 : Keeps [] _ w1 := Go.Proofs.YtphblanaicaicaaGreat.Below.keeps hb1 []
  have K1 := K0.trans V1
  clear hb1
  have c0 : w1.cell? ⟨W.heap.size, 0, none⟩ = some (.int .u16 l) := (V1.at hB0 (by simp)).cell 0 rfl
  have c1 : w1.cell? ⟨W.heap.size, 1, none⟩ = some (.int .u16 r) := (V1.at hB0 (by simp)).cell 1 rfl
  have c2 : w1.cell? ⟨W.heap.size, 2, none⟩ = some (.int .u16 s) := (V1.at hB0 (by simp)).cell 2 rfl
  go_wp2_with fail
  refine (start_at w1 l r s hl hr hs y co cq fo (HRO.out.keep K1 (by simp)) (by omega)).mono ?_
  rintro e w2 ⟨p, a, u, S, q, U, mb, nv, rfl, haN, hS2, hU, hu, hLI, hF, hM2, hO2, hbs, hmb, hnv, hk2⟩
  have hok := mk3_ok l r s
  obtain ⟨c, hc⟩ : ∃ c, c = mk3 l r s := ⟨_, rfl⟩
  rw [← hc] at hok haN hS2 hLI hM2 hO2
  have hci := c_in hok haN
  obtain ⟨ng, ncap, ncur, rfl, o1, o2, o3, o4, o5, o6⟩ := hO2
  have K2 := K1.trans hk2
  have hB2 : Hid (∀ b ∈ mb :: a.d :: q.bl p a, W.heap.size ≤ b) := fun b hb => Nat.le_trans K1.size (hbs b hb)
  have HMB := hid hmb
  have HN := hid haN
  have HO := hid hok
  have HLI := hid hLI
  have HF := hid hF
  have HU := hid hU
  clear c0 c1 c2 hB0 K0 V1 hc haN hok hLI hF hU hbs hmb hnv hk2 K1 o1 o2 o3 o4 o5 o6
  go_wp2_with fail
  refine (words_at w2 p a S hS2.lw.pw.dev).mono ?_
  rintro e w3 ⟨v3, rfl, hv3, hk3⟩
  obtain ⟨g, cap, rfl, hg, hgb, hcap, hR3⟩ := hv3.reads
  have hS3 := hS2.keep0 hk3
  have hM3 := hk3.at hM2 (by simp)
  have HR3 := hid hR3
  have K3 := K2.trans hk3
  have HG := hid (show W.heap.size ≤ g ∧ w2.heap.size ≤ g from ⟨Nat.le_trans K2.size hg, hg⟩)
  clear hv3 hR3 hk3 hM2 K2
  have c0 := hM3.cell 0 rfl
  have c1 := hM3.cell 1 rfl
  have c2 := hM3.cell 2 rfl
  go_wp2_with fail
  refine (active_at w3 c HO.out.small).mono ?_
  rintro e w4 ⟨rfl, hk4⟩
  have hS4 := hS3.keep0 hk4
  have hM4 := hk4.at hM3 (by simp)
  have HR4 := hid (HR3.out.keep hk4 (by simp))
  have K4 := K3.trans hk4
  clear c0 c1 c2 hS3 hM3 HR3 hk4 K3
  go_wp2_with fail
  refine (sstore_no hS4 c.act v).mono ?_
  rintro e w5 ⟨rfl, rfl⟩
  go_wp2_with fail
  refine (commit_no hS4).mono ?_
  rintro e w5 ⟨rfl, rfl⟩
  go_wp2_with fail
  refine (abort_no hS4).mono ?_
  rintro e w5 ⟨rfl, rfl⟩
  go_wp2_with fail
  have hSh := hid (SShut.mk HLI.out.1 (fun j _ hj => HF.out j hj) HU.out)
  refine (begin_ran hS4 HU.out hci.2.1 hci.2.2.2.2 (by omega)).mono ?_
  rintro e w6 ⟨ss, hss, hr6⟩
  obtain ⟨rfl, hS6, hk6⟩ := hr6.free hS4.lw.pw.lo
  have hl6 := HU.out.few hci.2.2.2.2 hss
  have hO6 := hid (hSh.out.begin 0 0 ss)
  have HF6 := hid (fun j (hj : j < a.n) => fix_kp (HF.out j hj) ss)
  have hMBn : Hid (mb ∉ q.bl p a) := fun hm => HMB.out (List.mem_cons_of_mem _ hm)
  have hM6 := hk6.at hM4 hMBn.out
  have hlt4 := hS4.lts
  have HBQ : Hid (∀ b ∈ q.bl p a, W.heap.size ≤ b) := fun b hb => hB2.out b (List.mem_cons_of_mem _ (List.mem_cons_of_mem _ hb))
  have HGQ : Hid (g ∉ q.bl p a) := fun hm => by
    have h1 := hS2.lts g (List.mem_cons_of_mem _ hm)
    have h2 := HG.out.2
    omega
  have HR6 := hid (HR4.out.keep hk6 (by rintro b off e; cases e; exact HGQ.out))
  have K6 : Keeps [] W w6 := K4.new hk6 (fun b hb => .inr (HBQ.out b hb))
  obtain ⟨S1, hS1⟩ : ∃ S1, S1 = execs S (kpC ss) := ⟨_, rfl⟩
  obtain ⟨u1, hu1⟩ : ∃ u1, u1 = u + ((kpC ss).length : Int) := ⟨_, rfl⟩
  have hub1 : u1 ≤ 110000 := by rw [hu1, kpC_len]; omega
  rw [← hS1] at hS6 hO6 HF6
  rw [← hu1] at hS6
  clear hS1 hu1 hr6 hk6 hss hl6 K4 hS4 hM4 HR4 hSh hS2 hlt4
  go_wp2_with fail
  refine (begin_no hS6).mono ?_
  rintro e w7 ⟨rfl, hk7⟩
  have hS7 := hS6.keep0 hk7
  have hM7 := hk7.at hM6 (by simp)
  have HR7 := hid (HR6.out.keep hk7 (by simp))
  have K7 := K6.trans hk7
  clear hS6 hM6 HR6 K6 hk7
  have c0 := hM7.cell 0 rfl
  have c1 := hM7.cell 1 rfl
  have c2 := hM7.cell 2 rfl
  obtain ⟨ob, hob⟩ : ∃ ob : Bool, ob = (decide (i < (c.act : Int)) || decide ((a.n : Int) ≤ i)) := ⟨_, rfl⟩
  have HOB := hid hob
  clear hob
  go_upto_region 12 with fail
  go_cut [81] from 69 to 81 (fun s81 wx => s81 = .bool ob ∧ Keeps [] w7 wx)
  case first =>
    by_cases h1 : i < (c.act : Int)
    · have t1 : decide (i < (c.act : Int)) = true := by rw [decide_eq_true_eq]; exact h1
      have H1 := hid h1
      clear h1
      go_wp2_with fail
      refine (active_at w7 c HO.out.small).mono ?_
      rintro e w8 ⟨rfl, hk8⟩
      go_wp2_with fail
      go_meet
      exact ⟨by rw [HOB.out, t1]; rfl, hk8⟩
    · have t1 : decide (i < (c.act : Int)) = false := by rw [decide_eq_false_iff_not]; exact h1
      have H1 := hid h1
      clear h1
      go_wp2_with fail
      refine (active_at w7 c HO.out.small).mono ?_
      rintro e w8 ⟨rfl, hk8⟩
      have hS8 := hS7.keep0 hk8
      go_wp2_with fail
      refine (len_at w8 p a S1 hS8.lw.pw.dev).mono ?_
      rintro e w9 ⟨rfl, rfl⟩
      go_wp2_with fail
      go_meet
      exact ⟨by rw [HOB.out, t1]; rfl, hk8⟩
  case rest =>
  obtain ⟨rfl, hk8⟩ := hcut
  have hS8 := hS7.keep0 hk8
  have HR8 := hid (HR7.out.keep hk8 (by simp))
  have K8 := K7.trans hk8
  clear c0 c1 c2 hS7 hM7 HR7 K7 hk8
  go_upto_if 81 with fail
  go_cut [] from 82 to 86 (fun wx => Keeps [] wc wx)
  case first =>
    cases ob with
    | true =>
      have hi : i < (c.act : Int) ∨ (a.n : Int) ≤ i := by simpa using HOB.out.symm
      have HI := hid hi
      clear hi
      go_wp2_with fail
      refine (sstore_out hS8 HO.out.small i v HI.out).mono ?_
      rintro e w9 ⟨rfl, hk9⟩
      go_wp2_with fail
      go_meet
      exact hk9
    | false =>
      go_wp2_with fail
      go_meet
      exact Keeps.refl _ _
  case rest =>
  have hS9 := hS8.keep0 hcut
  have HR9 := hid (HR8.out.keep hcut (by simp))
  have K9 := K8.trans hcut
  clear hS8 HR8 K8 hcut
  go_upto_if 87 with fail
  go_cut [18] from 88 to 91 (fun s18 wx => s18 = .int .i64 0 ∧ EmptyW p a S q wc wx)
  case first =>
    cases ab with
    | true =>
      go_wp2_with fail
      refine (abort_ran hS9 hO6.out.uin HO.out HN.out hO6.out.lr (by omega)).mono ?_
      rintro e w10 ⟨tt, htt, hr10⟩
      obtain ⟨rfl, hS10, hk10⟩ := hr10.free hS9.lw.pw.lo
      go_wp2_with fail
      go_meet
      exact ⟨rfl, _, hS10.lw.pw.dev, fun j hj => fix_kp (HF6.out j hj) tt, hk10⟩
    | false =>
      go_wp2_with fail
      refine (commit_ran hS9 hO6.out.uin HO.out HN.out hO6.out.lr (by omega)).mono ?_
      rintro e w10 ⟨tt, htt, hr10⟩
      obtain ⟨rfl, hS10, hk10⟩ := hr10.free hS9.lw.pw.lo
      go_wp2_with fail
      go_meet
      refine ⟨rfl, _, hS10.lw.pw.dev, fun j hj => ?_, hk10⟩
      rw [execs_append]
      exact fix_kp (HF6.out j hj) tt
  case rest =>
  obtain ⟨rfl, S2, hD2, hF2, hk2⟩ := hcut
  have HF2 := hid hF2
  have HR10 := hid (HR9.out.keep hk2 (by rintro b off e; cases e; exact HGQ.out))
  have K10 : Keeps [] W wc := K9.new hk2 (fun b hb => .inr (HBQ.out b hb))
  have hn35 : a.n ≤ 35184372088832 := by omega
  clear hS9 HR9 K9 hF2 hk2
  go_wp2_with fail
  refine (words_at wc p a S2 hD2).mono ?_
  rintro e w11 ⟨v11, rfl, hv11, hk11⟩
  obtain ⟨g2, cap2, rfl, hg2, hgb2, hcap2, hR11⟩ := hv11.reads
  have hD3 := hD2.keep hk11 (by simp) (by simp) (by simp) (by simp)
  have HR11 := hid hR11
  have HRW := hid (HR10.out.keep hk11 (by simp))
  have K11 := K10.trans hk11
  clear hv11 hR11 hk11 hD2 HR10 K10 hg2 hgb2 hcap2
  go_wp2_with fail
  refine (equal_true w11 _ _ a.n cap2 cap _ _ HR11.out HRW.out (fun j hj => (HF2.out j hj).1) hn35).mono ?_
  rintro e w12 ⟨rfl, hk12⟩
  have hD4 := hD3.keep hk12 (by simp) (by simp) (by simp) (by simp)
  have HRX := hid (HRW.out.keep hk12 (by simp))
  have K12 := K11.trans hk12
  clear hk12 hD3 HRW K11 HR11
  go_wp2_with fail
  refine (kept_at w12 p a S2 hD4).mono ?_
  rintro e w13 ⟨v13, rfl, hv13, hk13⟩
  obtain ⟨g3, cap3, rfl, hg3, hgb3, hcap3, hR13⟩ := hv13.reads
  have HR13 := hid hR13
  have HRY := hid (HRX.out.keep hk13 (by simp))
  have K13 := K12.trans hk13
  clear hv13 hR13 hk13 HRX K12 hg3 hgb3 hcap3
  go_wp2_with fail
  refine (equal_true w13 _ _ a.n cap3 cap _ _ HR13.out HRY.out (fun j hj => (HF2.out j hj).2.1) hn35).mono ?_
  rintro e w14 ⟨rfl, hk14⟩
  go_wp2_with fail
  go_ret
  exact ⟨rfl, (K13.trans hk14).below (Nat.le_refl _) (by simp)⟩

theorem sectionEmpty_walk (l r s : Int) (y : Option Addr) (co cq : Nat) (fo : Nat → Int) (ab : Bool) (i v : Int) (W : World) (wl : (Lit.int .u16 l).wf = true) (wr : (Lit.int .u16 r).wf = true) (ws : (Lit.int .u16 s).wf = true)
    (R1 : ReadsV (Value.int .u64) W y co fo) (_ : ∀ i, i < co → (Lit.int .u64 (fo i)).wf = true) (_ : co ≤ maxLen) (_ : (Lit.int .i64 i).wf = true) (_ : (Lit.int .u64 v).wf = true) :
    Calls Tryz.prog 7 #[.agg #[.int .u16 l, .int .u16 r, .int .u16 s], .slice y co cq, .bool ab, .int .i64 i, .int .u64 v] W fun e w' => e = .returned (.bool true) ∧ Below W.heap.size W w' := by
  obtain ⟨l, rfl, hl⟩ := c3_open wl
  obtain ⟨r, rfl, hr⟩ := c3_open wr
  obtain ⟨s, rfl, hs⟩ := c3_open ws
  by_cases hg : 20 < co
  · exact empty_great l r s y co cq ab i v W hg
  · exact empty_small l r s y co cq fo ab i v W hl hr hs (by omega) R1

end Go.Proofs.YtphblanaicaicaaGreat
