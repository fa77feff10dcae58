/- The walk of the law RootsReads. -/
import Derived.Test.YtkoflpcpopmkkaaGreatAwk8
import Derived.Test.YtkoflpcpopmkkaaGreatArgs
namespace Go.Proofs.YtkoflpcpopmkkaaGreat
open Go.RowKit Go.OpenShut

/-- Behind some stores: Active, Used, so many roots, the others noughts. -/
def RBlk (c : Cfg) (A U : Int) (m : Nat) (f : Nat → Int) (S : DS) : Prop :=
  S.now c.act = A ∧ S.now (c.act + 1) = U ∧ (∀ i, i < m → S.now (c.root i) = f i) ∧ ∀ i, m ≤ i → i < c.roots → S.now (c.root i) = 0

theorem RBlk.store {c : Cfg} {A U : Int} {m : Nat} {f : Nat → Int} {S : DS} (h : RBlk c A U m f S) : RBlk c A U (m + 1) f (execs S [.st (c.root m) (f m)]) := by
  obtain ⟨h1, h2, h3, h4⟩ := h
  have e : ∀ j, (execs S [.st (c.root m) (f m)]).now j = if j = c.root m then f m else S.now j := fun j => rfl
  refine ⟨?_, ?_, fun i hi => ?_, fun i hi hj => ?_⟩
  · rw [e, if_neg (by unfold Cfg.root; omega)]; exact h1
  · rw [e, if_neg (by unfold Cfg.root; omega)]; exact h2
  · rw [e]
    by_cases him : i = m
    · subst him; rw [if_pos rfl]
    · rw [if_neg (by unfold Cfg.root; omega)]; exact h3 i (by omega)
  · rw [e, if_neg (by unfold Cfg.root; omega)]; exact h4 i (by omega) hj

theorem RBlk.begin {c : Cfg} {S : DS} (h : LaidF c S.now) (A U : Int) (f : Nat → Int) : RBlk c A U 0 f (execs (execs S [.st c.act A]) [.st (c.act + 1) U]) := by
  have e : ∀ j, (execs (execs S [.st c.act A]) [.st (c.act + 1) U]).now j = if j = c.act + 1 then U else if j = c.act then A else S.now j := fun j => rfl
  refine ⟨?_, ?_, fun i hi => by omega, fun i _ hi => ?_⟩
  · rw [e, if_neg (by omega), if_pos rfl]
  · rw [e, if_pos rfl]
  · rw [e, if_neg (by unfold Cfg.root; omega), if_neg (by unfold Cfg.root; omega)]
    have := h.blk (2 + i) (by omega)
    rwa [show c.act + (2 + i) = c.root i by unfold Cfg.root; omega] at this

set_option maxRecDepth 100000 in
set_option maxHeartbeats 4000000 in
theorem reads_small (l r s : Nat) (ac us z : Int) (x : Option Addr) (n cp : Nat) (f : Nat → Int) (near : Bool) (W : World) (hl : l ≤ 65535) (hr : r ≤ 65535) (hs : s ≤ 65535) (ha : 0 ≤ ac ∧ ac < 18446744073709551616) (hu : 0 ≤ us ∧ us < 18446744073709551616) (hz : 0 ≤ z ∧ z < 18446744073709551616) (hx : Reads W x n f) (hnm : n ≤ 9223372036854775807) :
    Calls Tryz.prog 5 #[c3V l r s, .int .u64 ac, .int .u64 us, .slice x n cp, .bool near, .int .u64 z] W fun e w' => e = .returned (.bool true) ∧ Below W.heap.size W w' := by
  have hni : (n : Int) ≤ 9223372036854775807 := by omega
  have HA := hid ha
  have HU := hid hu
  have HZ := hid hz
  have HX := hid hx
  clear ha hu hz hx
  go_enter Tryz.func5, Tryz.ntmps5
  go_wp2_with fail
  have hB0 := At.new W (c3O l r s)
  have K0 := (Keeps.refl [] W).alloc (c3O l r s)
  refine (awake8_any _).mono ?_
  rintro e w1 ⟨rfl, hb1⟩
  have k1 := Go.Proofs.YtkoflpcpopmkkaaGreat.Below.keeps hb1 []
  have K1 := K0.trans k1
  have hB1 := k1.at hB0 (by simp)
  clear hb1 k1 hB0 K0
  have c0 : w1.cell? ⟨W.heap.size, 0, none⟩ = some (.int .u16 l) := hB1.cell 0 rfl
  have c1 : w1.cell? ⟨W.heap.size, 1, none⟩ = some (.int .u16 r) := hB1.cell 1 rfl
  have c2 : w1.cell? ⟨W.heap.size, 2, none⟩ = some (.int .u16 s) := hB1.cell 2 rfl
  by_cases hn : n ≤ 20
  case neg =>
    have hn2 : (20 : Int) < (n : Int) := by omega
    go_wp2_with fail
    go_ret
    exact ⟨rfl, K1.below (Nat.le_refl _) (by simp)⟩
  have hni2 : (n : Int) ≤ 20 := by omega
  clear hni
  go_wp2_with fail
  refine (make3_at w1 l r s hl hr hs).mono ?_
  rintro e w2 ⟨rfl, hk2⟩
  have K2 := K1.trans hk2
  have hok := mk3_ok l r s
  obtain ⟨c, hc⟩ : ∃ c, c = mk3 l r s := ⟨_, rfl⟩
  rw [← hc] at hok ⊢
  clear hc c0 c1 c2 hB1 hk2 K1
  go_wp2_with fail
  have hC3 := At.new w2 (cfgO c)
  have K3 := K2.alloc (cfgO c)
  have hz2 := K2.size
  obtain ⟨cb, hcb⟩ : ∃ cb, cb = w2.heap.size := ⟨_, rfl⟩
  rw [← hcb] at hC3 hz2 ⊢
  have HCB := hid hcb
  clear hcb K2
  refine (formatted_at _ c hok none 0 0 (fun _ => 0) (.inl rfl) (by omega)).mono ?_
  rintro e w4 ⟨p, a, u, S, rfl, haN, hP, hub, hW, hkp, his, ⟨b1, b2, b3, b4, b5⟩, hk4⟩
  simp only [World.size_alloc] at b1 b2 b3 b4 b5
  rw [← HCB.out] at b1 b2 b3 b4 b5
  have hC4 := hk4.at hC3 (by simp)
  have K4 := K3.trans hk4
  obtain ⟨_, hLF⟩ := hW
  have HLF := hid hLF
  have HN := hid haN
  have HO := hid hok
  have h0 := hP.lo
  have hsp : (c.space : Int) ≤ 4096 := by have := hok.small.2.2; omega
  have hwd := words_ge hok
  have hwi : (c.words : Int) ≤ 15000 := by omega
  have HBK := hid (show cb < a.d ∧ cb < a.s ∧ cb < a.k ∧ cb < a.m ∧ cb < p from ⟨by omega, by omega, by omega, by omega, by omega⟩)
  clear haN hok hkp his hC3 K3 hk4 hLF b1 b2 b3 b4 b5 hwd
  have c0 := hC4.cell 0 rfl
  have c1 := hC4.cell 1 rfl
  have c2 := hC4.cell 2 rfl
  go_upto_if 37 with fail
  go_cut [1, 2, 5] from 38 to 51 (fun s1 s2 s5 wx => ∃ A U Z : Int, s1 = .int .u64 A ∧ s2 = .int .u64 U ∧ s5 = .int .u64 Z ∧ (0 ≤ A ∧ A < 18446744073709551616) ∧ (0 ≤ U ∧ U < 18446744073709551616) ∧ (0 ≤ Z ∧ Z < 18446744073709551616) ∧ Keeps [] w4 wx)
  case first =>
    cases near with
    | false =>
      go_wp2_with fail
      go_meet
      exact ⟨_, _, _, rfl, rfl, rfl, HA.out, HU.out, HZ.out, Keeps.refl _ _⟩
    | true =>
      obtain ⟨an, rfl⟩ : ∃ k : Nat, (k : Int) = ac := ⟨ac.toNat, by have := HA.out; omega⟩
      obtain ⟨un, rfl⟩ : ∃ k : Nat, (k : Int) = us := ⟨us.toNat, by have := HU.out; omega⟩
      obtain ⟨zn, rfl⟩ : ∃ k : Nat, (k : Int) = z := ⟨z.toNat, by have := HZ.out; omega⟩
      have hab : (an : Int) ≤ 18446744073709551615 := by have := HA.out; omega
      have hub2 : (un : Int) ≤ 18446744073709551615 := by have := HU.out; omega
      have hzb : (zn : Int) ≤ 18446744073709551615 := by have := HZ.out; omega
      go_upto_region 10 with fail
      have HC : Hid (∀ w', Keeps [] w4 w' → (w'.cell? ⟨cb, 0, none⟩ = some (.int .i64 c.log) ∧ w'.cell? ⟨cb, 1, none⟩ = some (.int .i64 c.roots) ∧ w'.cell? ⟨cb, 2, none⟩ = some (.int .i64 c.space))) :=
        fun w' hk => ⟨(hk.at hC4 (by simp)).cell 0 rfl, (hk.at hC4 (by simp)).cell 1 rfl, (hk.at hC4 (by simp)).cell 2 rfl⟩
      have kk : Keeps [] w4 w4.drew := (Keeps.refl _ _).drew
      obtain ⟨sp, hsp2⟩ : ∃ sp : Nat, sp = c.space + 2 := ⟨_, rfl⟩
      obtain ⟨wd, hwd2⟩ : ∃ wd : Nat, wd = c.words + 10 := ⟨_, rfl⟩
      have g1 : (c.space : Int) + 2 = (sp : Int) := by omega
      have g2 : (c.words : Int) + 10 = (wd : Int) := by omega
      have spb : (sp : Int) ≤ 5000 := by omega
      have wdb : (wd : Int) ≤ 16000 := by omega
      have n1 : ¬ (sp : Int) = 0 := by omega
      have n2 : ¬ (wd : Int) = 0 := by omega
      have n3 : ¬ sp = 0 := by omega
      have n4 : ¬ wd = 0 := by omega
      have e1 : IntKind.u64.wrap (sp : Int) = (sp : Int) := IntWalk.u64_in _ (by omega)
      have e2 : IntKind.u64.wrap (wd : Int) = (wd : Int) := IntWalk.u64_in _ (by omega)
      have e3 : IntKind.i64.wrap (sp : Int) = (sp : Int) := IntWalk.i64_in _ (by omega)
      have e4 : IntKind.i64.wrap (wd : Int) = (wd : Int) := IntWalk.i64_in _ (by omega)
      have HAN := HA.out
      have HUN := HU.out
      have HZN := HZ.out
      have M1 := hid (show 0 ≤ (un : Int).tmod (sp : Int) ∧ (un : Int).tmod (sp : Int) < 18446744073709551616 from ⟨Int.tmod_nonneg _ (by omega), by rw [Int.tmod_eq_emod_of_nonneg (by omega)]; have := Int.emod_lt_of_pos (un : Int) (show (0 : Int) < sp by omega); omega⟩)
      have M2 := hid (show 0 ≤ (zn : Int).tmod (wd : Int) ∧ (zn : Int).tmod (wd : Int) < 18446744073709551616 from ⟨Int.tmod_nonneg _ (by omega), by rw [Int.tmod_eq_emod_of_nonneg (by omega)]; have := Int.emod_lt_of_pos (zn : Int) (show (0 : Int) < wd by omega); omega⟩)
      have M0 := hid (show 0 ≤ (an : Int).tmod 3 ∧ (an : Int).tmod 3 < 18446744073709551616 from ⟨Int.tmod_nonneg _ (by omega), by rw [Int.tmod_eq_emod_of_nonneg (by omega)]; omega⟩)
      clear hsp2 hwd2 HAN HUN HZN
      go_region_held3 (fun w' => w'.cell? ⟨cb, 0, none⟩ = some (.int .i64 c.log) ∧ w'.cell? ⟨cb, 1, none⟩ = some (.int .i64 c.roots) ∧ w'.cell? ⟨cb, 2, none⟩ = some (.int .i64 c.space))
        (exact HC.out _ kk)
        (first
          | (go_at_call 28; refine (cwords_at _ c HO.out.small).mono ?_; rintro e w' ⟨rfl, hk1⟩; have kk := kk.trans hk1; clear hk1))
      all_goals
        go_wp2_with fail
        go_meet
        refine ⟨_, _, _, rfl, rfl, rfl, ?_, ?_, ?_, kk⟩
        · first | exact M0.out | omega
        · first | exact M1.out | omega
        · first | exact M2.out | omega
  case rest =>
  obtain ⟨A, U, Z, rfl, rfl, rfl, hA, hU, hZ, hkx⟩ := hcut
  have HAA := hid hA
  have HUU := hid hU
  have HZZ := hid hZ
  have hC5 := hkx.at hC4 (by simp)
  have hP5 := hP.keep0 hkx
  have K5 := K4.trans hkx
  clear hA hU hZ HA HU HZ hC4 hP K4 hkx c0 c1 c2
  have c0 := hC5.cell 0 rfl
  have c1 := hC5.cell 1 rfl
  have c2 := hC5.cell 2 rfl
  have hpl := places HO.out
  have hci := c_in HO.out HN.out
  have hai : (c.act : Int) ≤ 823 := by have := act_le HO.out.small; omega
  have hrt : (c.roots : Int) ≤ 16 := by have := HO.out.2.1; omega
  have HIN : Hid (c.act + 2 + c.roots ≤ a.n) := by rw [← HN.out]; exact hpl.2.1
  clear hpl hci
  go_wp2_with fail
  refine (active_at _ c HO.out.small).mono ?_
  rintro e w6 ⟨rfl, hk6⟩
  have hC6 := hk6.at hC5 (by simp)
  have hP6 := hP5.keep0 hk6
  have K6 := K5.trans hk6
  clear c0 c1 c2 hC5 hP5 K5 hk6
  go_wp2_with fail
  refine (store_ran w6 p a (-1) u S c.act A hP6 (by have := HIN.out; omega) (by omega)).mono ?_
  intro e w7 hr7
  obtain ⟨rfl, hP7, hk7⟩ := hr7.free h0
  have HB := HBK.out
  have hcT : cb ∉ [p, a.s, a.k, a.m] := by simp; omega
  have hWT : ∀ b ∈ [p, a.s, a.k, a.m], b ∈ ([] : List Nat) ∨ W.heap.size ≤ b := by simp; omega
  have HCT := hid hcT
  have HWT := hid hWT
  have hC7 := hk7.at hC6 hcT
  have K7 := K6.new hk7 hWT
  clear hr7 hC6 hP6 K6 hk7 HB hcT hWT
  have c0 := hC7.cell 0 rfl
  have c1 := hC7.cell 1 rfl
  have c2 := hC7.cell 2 rfl
  go_wp2_with fail
  refine (usedw_at _ c HO.out.small).mono ?_
  rintro e w8 ⟨rfl, hk8⟩
  have hC8 := hk8.at hC7 (by simp)
  have hP8 := hP7.keep0 hk8
  have K8 := K7.trans hk8
  clear c0 c1 c2 hC7 hP7 K7 hk8
  go_wp2_with fail
  refine (show Calls Tryz.prog 36 #[ptr a.d, .int .i64 ((c.act : Int) + 1), .int .u64 U] w8 _ from store_ran w8 p a (-1) _ _ (c.act + 1) U hP8 (by have := HIN.out; omega) (by simp; omega)).mono ?_
  intro e w9 hr9
  obtain ⟨rfl, hP9, hk9⟩ := hr9.free (by simp; omega)
  have hC9 := hk9.at hC8 HCT.out
  have K9 := K8.new hk9 HWT.out
  clear hr9 hC8 hP8 K8 hk9
  have hRB := RBlk.begin HLF.out A U f
  obtain ⟨S9, hS9⟩ : ∃ S9, S9 = execs (execs S [.st c.act A]) [.st (c.act + 1) U] := ⟨_, rfl⟩
  obtain ⟨u9, hu9⟩ : ∃ u9, u9 = u + (([Cmd.st c.act A] : List Cmd).length : Int) + (([Cmd.st (c.act + 1) U] : List Cmd).length : Int) := ⟨_, rfl⟩
  have hu9b : 0 ≤ u9 ∧ u9 ≤ 100010 := by rw [hu9]; simp; omega
  rw [← hS9] at hP9 hRB
  rw [← hu9] at hP9
  clear hS9 hu9 HLF hub h0
  obtain ⟨mm, hmm⟩ : ∃ mm, mm = min n c.roots := ⟨_, rfl⟩
  have HMM := hid hmm
  have hmb : (mm : Int) ≤ 16 := by omega
  have EM := hid (show min (n : Int) (c.roots : Int) = (mm : Int) by omega)
  have hmr : mm ≤ c.roots := by omega
  have hmn : mm ≤ n := by omega
  clear hmm
  have c0 := hC9.cell 0 rfl
  have c1 := hC9.cell 1 rfl
  have c2 := hC9.cell 2 rfl
  have HRB := hid hRB
  clear hRB
  have HC9 := hid hC9
  have HK9 := hid K9
  clear hC9 K9
  go_wp2_with fail
  rw [EM.out]
  clear c0 c1 c2
  go_loopg [67] mm (fun rr sl wr => ∃ m : Nat, m + rr = mm ∧ sl = .int .i64 m ∧ (∃ S', Pw wr p a (-1) (u9 + (m : Int)) S' ∧ RBlk c A U m f S') ∧ Keeps [p, a.s, a.k, a.m] w9 wr)
  case atStart => exact ⟨0, by omega, rfl, ⟨S9, by simpa using hP9, HRB.out⟩, Keeps.refl _ _⟩
  case round =>
    obtain ⟨m, hm, rfl, ⟨S', hPr, hBr⟩, hKr⟩ := hrel
    have HBr := hid hBr
    clear hBr
    by_cases hlt : m < mm
    · obtain ⟨b, off, rfl, hb, hcl⟩ : ∃ b off, x = some ⟨b, off, none⟩ ∧ b < W.heap.size ∧ ∀ i, i < n → W.cell? ⟨b, off + i, none⟩ = some (.int .u64 (f i)) := by
        rcases HX.out with h | h
        · omega
        · exact h
      have hcm := hcl m (by omega)
      obtain ⟨fm, hfm⟩ : ∃ fm, fm = f m := ⟨_, rfl⟩
      rw [← hfm] at hcm
      have HFM := hid hfm
      have hmi : (m : Int) < (n : Int) := by omega
      have hmi2 : (m : Int) < (mm : Int) := by omega
      have hmb2 : (m : Int) ≤ 16 := by omega
      have HM := hid hm
      have HLT := hid hlt
      have hCr := hKr.at HC9.out HCT.out
      have hWr : Keeps [] W wr := HK9.out.new hKr HWT.out
      have hcr : wr.cell? ⟨b, off + m, none⟩ = some (.int .u64 fm) := by rw [hWr.cell hb (by simp)]; exact hcm
      have hbr : b < wr.heap.size := Nat.lt_of_lt_of_le hb hWr.size
      have hbT : b ∉ [p, a.s, a.k, a.m] := fun h => by rcases HWT.out b h with h | h; exact absurd h (by simp); omega
      have HS : Hid (∀ w', Keeps [p, a.s, a.k, a.m] wr w' → (w'.cell? ⟨cb, 0, none⟩ = some (.int .i64 c.log) ∧ w'.cell? ⟨cb, 1, none⟩ = some (.int .i64 c.roots) ∧ w'.cell? ⟨cb, 2, none⟩ = some (.int .i64 c.space) ∧ w'.cell? ⟨b, off + m, none⟩ = some (.int .u64 fm))) :=
        fun w' hk => ⟨(hk.at hCr HCT.out).cell 0 rfl, (hk.at hCr HCT.out).cell 1 rfl, (hk.at hCr HCT.out).cell 2 rfl, by rw [hk.cell hbr hbT]; exact hcr⟩
      have HST := hid (fun (w' : World) (hk : Keeps [] wr w') => store_ran w' p a (-1) (u9 + (m : Int)) S' (c.root m) fm (hPr.keep0 hk) (by have := HIN.out; unfold Cfg.root; omega) (by omega))
      have kk : Keeps [] wr wr.drew := (Keeps.refl _ _).drew
      clear hcl hcm hfm hm hCr hWr hcr hb hbr hbT hPr hlt
      go_wp2_with fail
      go_region_held3 (fun w' => w'.cell? ⟨cb, 0, none⟩ = some (.int .i64 c.log) ∧ w'.cell? ⟨cb, 1, none⟩ = some (.int .i64 c.roots) ∧ w'.cell? ⟨cb, 2, none⟩ = some (.int .i64 c.space) ∧ w'.cell? ⟨b, off + m, none⟩ = some (.int .u64 fm))
        (first | exact HS.out _ ((kk.mono (by simp)).trans hk10) | exact HS.out _ (kk.mono (by simp)))
        (first
          | (go_at_call 38; refine (root_at _ c HO.out.small m (by omega)).mono ?_; rintro e w' ⟨rfl, hk1⟩; have kk := kk.trans hk1; clear hk1)
          | (go_at_call 36; refine (HST.out _ kk).mono ?_; intro e w10 hr10; obtain ⟨rfl, hP10, hk10⟩ := hr10.free (by omega)))
      all_goals
        go_wp2_with fail
        go_roundg (mm - (m + 1))
        case measure => (have := HM.out; omega)
        case rel => exact ⟨m + 1, by have := HM.out; have := HLT.out; omega, by go_num, ⟨_, by have := hP10; simp only [List.length_cons, List.length_nil] at this; rw [show u9 + ((m + 1 : Nat) : Int) = u9 + (m : Int) + ((0 + 1 : Nat) : Int) by omega]; exact this, by have := HBr.out.store; rw [← HFM.out] at this; exact this⟩, (hKr.trans (kk.mono (by simp))).trans hk10⟩
    · have hme : m = mm := by omega
      subst hme
      have hCr := hKr.at HC9.out HCT.out
      have Kr : Keeps [] W wr := HK9.out.new hKr HWT.out
      have c0 := hCr.cell 0 rfl
      have c1 := hCr.cell 1 rfl
      have c2 := hCr.cell 2 rfl
      have HRD := hid (rread_at wr p a S' c hPr.dev HO.out HN.out (by rw [HBr.out.1]; exact HAA.out.1) (by rw [HBr.out.2.1]; exact HUU.out.1))
      clear hm hlt hKr hPr
      go_wp2_with fail
      refine HRD.out.mono ?_
      rintro e w10 (⟨h9, rfl, hk10⟩ | ⟨k, u8, x9, cp9, hk1, hu1, hA1, hU1, rfl, hO9, hk10⟩)
      · rw [HBr.out.1, HBr.out.2.1] at h9
        have K10 := Kr.trans hk10
        have hC10 := (hk10.at hCr (by simp)).alloc (bkO 0 0 (.slice none 0 0))
        have hB10 := At.new w10 (bkO 0 0 (.slice none 0 0))
        have K11 := K10.alloc (bkO 0 0 (.slice none 0 0))
        obtain ⟨bb, hbb⟩ : ∃ bb, bb = w10.heap.size := ⟨_, rfl⟩
        clear c0 c1 c2
        have su : IntKind.u64.wrap (c.space : Int) = (c.space : Int) := IntWalk.u64_in _ (by omega)
        have c2 := hC10.cell 2 rfl
        have d0 := hB10.cell 0 rfl
        have d1 := hB10.cell 1 rfl
        have d2 := hB10.cell 2 rfl
        clear hk10 hC10 hB10 hCr
        by_cases h1 : 1 < A
        · have t1 : decide ((1 : Int) < A) = true := decide_eq_true h1
          have t2 : decide (A > (1 : Int)) = true := decide_eq_true h1
          clear h9
          go_wp2_with fail
          go_ret
          exact ⟨rfl, K11.below (Nat.le_refl _) (by simp)⟩
        · have h2 : (c.space : Int) < U := h9.resolve_left h1
          have t1 : decide ((1 : Int) < A) = false := decide_eq_false h1
          have t2 : decide (A > (1 : Int)) = false := decide_eq_false h1
          have t3 : decide ((c.space : Int) < U) = true := decide_eq_true h2
          have t4 : decide (U > (c.space : Int)) = true := decide_eq_true h2
          clear h9
          go_wp2_with fail
          go_ret
          exact ⟨rfl, K11.below (Nat.le_refl _) (by simp)⟩
      · rw [HBr.out.1] at hA1
        rw [HBr.out.2.1] at hU1
        subst hA1 hU1
        have K10 := Kr.trans hk10
        have hz10 : wr.heap.size ≤ w10.heap.size := hk10.size
        have hC10 := (hk10.at hCr (by simp)).alloc (bkO k u8 (.slice x9 c.roots cp9))
        have hB10 := At.new w10 (bkO k u8 (.slice x9 c.roots cp9))
        have K11 := K10.alloc (bkO k u8 (.slice x9 c.roots cp9))
        have hO11 := hO9.keep ((Keeps.refl [] w10).alloc (bkO k u8 (.slice x9 c.roots cp9))) (by simp)
        obtain ⟨bb, hbb⟩ : ∃ bb, bb = w10.heap.size := ⟨_, rfl⟩
        have hcbb : cb ≠ bb := by have := hC10.lt; have := (hk10.at hCr (by simp)).lt; omega
        go_upto_region 19 with fail
        obtain ⟨w11, hw11⟩ : ∃ w11, w11 = w10.alloc (bkO k u8 (.slice x9 c.roots cp9)) := ⟨_, rfl⟩
        rw [← hbb] at hB10 ⊢
        rw [← hw11] at hC10 hB10 K11 hO11 ⊢
        clear hw11 hbb hO9 hk10 K10 Kr hCr c0 c1 c2 HRD hz10
        have hki : (k : Int) ≤ 1 := by omega
        have hui : (u8 : Int) ≤ (c.space : Int) := by omega
        have su : IntKind.u64.wrap (c.space : Int) = (c.space : Int) := IntWalk.u64_in _ (by omega)
        have t1 : decide ((1 : Int) < (k : Int)) = false := decide_eq_false (by omega)
        have t2 : decide ((k : Int) > (1 : Int)) = false := decide_eq_false (by omega)
        have t3 : decide ((c.space : Int) < (u8 : Int)) = false := decide_eq_false (by omega)
        have t4 : decide ((u8 : Int) > (c.space : Int)) = false := decide_eq_false (by omega)
        have t5 : decide (c.space < u8) = false := decide_eq_false (by omega)
        have c0 := hC10.cell 0 rfl
        have c1 := hC10.cell 1 rfl
        have c2 := hC10.cell 2 rfl
        have d0 := hB10.cell 0 rfl
        have d1 := hB10.cell 1 rfl
        have d2 := hB10.cell 2 rfl
        have HV : Hid (∀ i, i < c.roots → S'.now (c.root i) = if i < n then f i else 0) := fun i hi => by
          have hmm := HMM.out
          by_cases h : i < n
          · rw [if_pos h]; exact HBr.out.2.2.1 i (by omega)
          · rw [if_neg h]; exact HBr.out.2.2.2 i (by omega) hi
        have HO11 := hid hO11
        have HXX : Hid (∀ i, i < n → ∃ b off, x = some ⟨b, off, none⟩ ∧ w11.cell? ⟨b, off + i, none⟩ = some (.int .u64 (f i))) := fun i hi => by
          rcases HX.out with h | ⟨b, off, rfl, hb, hcl⟩
          · omega
          · exact ⟨b, off, rfl, by rw [K11.cell hb (by simp)]; exact hcl i hi⟩
        have KM := hid K11
        have HC10 := hid hC10
        have HB10 := hid hB10
        have HKU := hid (And.intro hk1 hu1)
        clear hO11 K11 hC10 hB10 hk1 hu1
        go_wp2_with fail
        clear c0 c1 c2 d0 d1 d2
        go_loopg [140] c.roots (fun rr sl wr2 => ∃ i : Nat, i + rr = c.roots ∧ sl = .int .i64 i ∧ w11 = wr2)
        case atStart => exact ⟨0, by omega, rfl, rfl⟩
        case round =>
          obtain ⟨i, hi, rfl, rfl⟩ := hrel
          by_cases hlt2 : i < c.roots
          · obtain ⟨g, cur, rfl, _, hAg, hcur⟩ : ∃ g cur, x9 = some ⟨g, 0, none⟩ ∧ wr.heap.size ≤ g ∧ At w11 g (.cells cur 27) ∧ ∀ i, i < c.roots → cur[i]? = some (.int .u64 (S'.now (c.root i))) := by
              rcases HO11.out.form with ⟨_, h⟩ | h
              · omega
              · exact h
            have d0 : w11.cell? ⟨g, i, none⟩ = some (.int .u64 (if i < n then f i else 0)) := by
              rw [← HV.out i hlt2]; exact hAg.cell i (hcur i hlt2)
            have hii : (i : Int) < (c.roots : Int) := by omega
            have hib : (i : Int) ≤ 16 := by omega
            have HI := hid hi
            clear hi hAg hcur
            by_cases hin : i < n
            · obtain ⟨b, off, rfl, hc⟩ := HXX.out i hin
              rw [if_pos hin] at d0
              have hin2 : (i : Int) < (n : Int) := by omega
              obtain ⟨fm, hfm⟩ : ∃ fm, fm = f i := ⟨_, rfl⟩
              rw [← hfm] at d0 hc
              clear hfm
              go_wp2_with fail
              go_roundg (c.roots - (i + 1))
              case measure => (have := HI.out; omega)
              case rel => exact ⟨i + 1, by have := HI.out; omega, by go_num, rfl⟩
            · rw [if_neg hin] at d0
              have hin2 : ¬ (i : Int) < (n : Int) := by omega
              go_wp2_with fail
              go_roundg (c.roots - (i + 1))
              case measure => (have := HI.out; omega)
              case rel => exact ⟨i + 1, by have := HI.out; omega, by go_num, rfl⟩
          · have hie : i = c.roots := by omega
            subst hie
            clear hi hlt2
            obtain ⟨fr, hfr⟩ : ∃ fr, fr = c.frm k := ⟨_, rfl⟩
            have hfb : (fr : Int) ≤ 15000 := by have := frm_le HO.out.small (show k ≤ 2 by have := HKU.out; omega); omega
            have hub9 : (u8 : Int) ≤ 4096 := by omega
            have HFR := hid (fun (w' : World) => from_at w' c HO.out.small k (by have := HKU.out; omega))
            have HPL := hid (fun (w' : World) => place8_at w' c HO.out.small k HKU.out.1 u8 (.slice x9 c.roots cp9) u8 (by omega))
            have HHA := hid (fun (w' : World) => has8_at w' c HO.out.small k HKU.out.1 u8 (by omega) (.slice x9 c.roots cp9) Z HZZ.out)
            unfold hasW at HHA
            rw [← hfr] at HFR HPL HHA
            have EF : IntKind.u64.wrap (fr : Int) = (fr : Int) := IntWalk.u64_in _ (by omega)
            have EG : IntKind.u64.wrap ((fr : Int) + (u8 : Int)) = (fr : Int) + (u8 : Int) := IntWalk.u64_in _ (by omega)
            have c0 := HC10.out.cell 0 rfl
            have c1 := HC10.out.cell 1 rfl
            have c2 := HC10.out.cell 2 rfl
            clear hfr
            go_wp2_with fail
            refine (HFR.out _).mono ?_
            rintro e w12 ⟨rfl, hk12⟩
            have hC12 := hk12.at HC10.out (by simp)
            have hB12 := hk12.at HB10.out (by simp)
            clear c0 c1 c2
            have c0 := hC12.cell 0 rfl
            have c1 := hC12.cell 1 rfl
            have c2 := hC12.cell 2 rfl
            have d0 := hB12.cell 0 rfl
            have d1 := hB12.cell 1 rfl
            have d2 := hB12.cell 2 rfl
            go_wp2_with fail
            refine (HPL.out _).mono ?_
            rintro e w13 ⟨rfl, hk13⟩
            have hC13 := hk13.at hC12 (by simp)
            have hB13 := hk13.at hB12 (by simp)
            clear c0 c1 c2 d0 d1 d2
            have c0 := hC13.cell 0 rfl
            have c1 := hC13.cell 1 rfl
            have c2 := hC13.cell 2 rfl
            have d0 := hB13.cell 0 rfl
            have d1 := hB13.cell 1 rfl
            have d2 := hB13.cell 2 rfl
            go_wp2_with fail
            refine (HHA.out _).mono ?_
            rintro e w14 ⟨rfl, hk14⟩
            by_cases q1 : (fr : Int) ≤ Z
            · by_cases q2 : Z < (fr : Int) + (u8 : Int)
              · go_wp2_with fail
                go_ret
                exact ⟨rfl, (((KM.out.trans hk12).trans hk13).trans hk14).below (Nat.le_refl _) (by simp)⟩
              · go_wp2_with fail
                go_ret
                exact ⟨rfl, (((KM.out.trans hk12).trans hk13).trans hk14).below (Nat.le_refl _) (by simp)⟩
            · go_wp2_with fail
              go_ret
              exact ⟨rfl, (((KM.out.trans hk12).trans hk13).trans hk14).below (Nat.le_refl _) (by simp)⟩

theorem rootsReads_walk (l r s : Int) (ac us : Int) (x : Option Addr) (n cp : Nat) (f : Nat → Int) (near : Bool) (z : Int) (W : World) (wl : (Lit.int .u16 l).wf = true) (wr : (Lit.int .u16 r).wf = true) (ws : (Lit.int .u16 s).wf = true) (wa : (Lit.int .u64 ac).wf = true) (wu : (Lit.int .u64 us).wf = true) (R1 : ReadsV (Value.int .u64) W x n f) (_ : ∀ i, i < n → (Lit.int .u64 (f i)).wf = true) (hn : n ≤ maxLen) (wz : (Lit.int .u64 z).wf = true) :
    Calls Tryz.prog 5 #[.agg #[.int .u16 l, .int .u16 r, .int .u16 s], .int .u64 ac, .int .u64 us, .slice x n cp, .bool near, .int .u64 z] W fun e w' => e = .returned (.bool true) ∧ Below W.heap.size W w' := by
  obtain ⟨l, rfl, hl⟩ := c3_open wl
  obtain ⟨r, rfl, hr⟩ := c3_open wr
  obtain ⟨s, rfl, hs⟩ := c3_open ws
  have ha := bounds_u64 wa
  have hu := bounds_u64 wu
  have hz := bounds_u64 wz
  exact reads_small l r s ac us z x n cp f near W hl hr hs (by omega) (by omega) (by omega) R1 (by unfold maxLen at hn; omega)

end Go.Proofs.YtkoflpcpopmkkaaGreat
