/- The walk of the law RootsBack. -/
import Derived.Test.YtkoflpcpopmkkaaGreatAwk8
import Derived.Test.YtkoflpcpopmkkaaGreatStoD
import Derived.Test.YtkoflpcpopmkkaaGreatArgs
namespace Go.Proofs.YtkoflpcpopmkkaaGreat
open Go.RowKit Go.OpenShut

set_option maxRecDepth 100000 in
set_option maxHeartbeats 4000000 in
theorem back_small (l r s ac us : Nat) (x : Option Addr) (n cp : Nat) (f : Nat → Int) (W : World) (hl : l ≤ 65535) (hr : r ≤ 65535) (hs : s ≤ 65535) (ha : ac ≤ 255) (hu : us ≤ 65535) (hx : Reads W x n f) (hnm : n ≤ 9223372036854775807) :
    Calls Tryz.prog 7 #[c3V l r s, .slice x n cp, .int .u8 ac, .int .u16 us] W fun e w' => e = .returned (.bool true) ∧ Below W.heap.size W w' := by
  have hai : (ac : Int) ≤ 255 := by omega
  have husi : (us : Int) ≤ 65535 := by omega
  have hni : (n : Int) ≤ 9223372036854775807 := by omega
  have HX := hid hx
  clear hx
  go_enter Tryz.func7, Tryz.ntmps7
  go_wp2_with fail
  have hB0 := At.new W (c3O l r s)
  have K0 := (Keeps.refl [] W).alloc (c3O l r s)
  refine (awake8_any _).mono ?_
  rintro e w1 ⟨rfl, hb1⟩
  have k1 := Go.Proofs.YtkoflpcpopmkkaaGreat.Below.keeps hb1 []
  have K1 := K0.trans k1
  have hB1 := k1.at hB0 (by simp)
  clear hb1 k1 hB0 K0
  have c0 : w1.cell? ⟨W.heap.size, 0, none⟩ = some (.int .u16 l) := hB1.cell 0 rfl
  have c1 : w1.cell? ⟨W.heap.size, 1, none⟩ = some (.int .u16 r) := hB1.cell 1 rfl
  have c2 : w1.cell? ⟨W.heap.size, 2, none⟩ = some (.int .u16 s) := hB1.cell 2 rfl
  by_cases hn : n ≤ 20
  case neg =>
    have hn2 : (20 : Int) < (n : Int) := by omega
    go_wp2_with fail
    go_ret
    exact ⟨rfl, K1.below (Nat.le_refl _) (by simp)⟩
  have hni2 : (n : Int) ≤ 20 := by omega
  clear hni
  go_wp2_with fail
  refine (make3_at w1 l r s hl hr hs).mono ?_
  rintro e w2 ⟨rfl, hk2⟩
  have K2 := K1.trans hk2
  have hok := mk3_ok l r s
  obtain ⟨c, hc⟩ : ∃ c, c = mk3 l r s := ⟨_, rfl⟩
  rw [← hc] at hok ⊢
  clear hc c0 c1 c2 hB1 hk2 K1
  go_wp2_with fail
  have hC3 := At.new w2 (cfgO c)
  have K3 := K2.alloc (cfgO c)
  have hz2 := K2.size
  obtain ⟨cb, hcb⟩ : ∃ cb, cb = w2.heap.size := ⟨_, rfl⟩
  rw [← hcb] at hC3 hz2 ⊢
  have HCB := hid hcb
  clear hcb K2
  refine (formatted_at _ c hok none 0 0 (fun _ => 0) (.inl rfl) (by omega)).mono ?_
  rintro e w4 ⟨p, a, u, S, rfl, haN, hP, hub, hW, hkp, his, ⟨b1, b2, b3, b4, b5⟩, hk4⟩
  simp only [World.size_alloc] at b1 b2 b3 b4 b5
  rw [← HCB.out] at b1 b2 b3 b4 b5
  have hC4 := hk4.at hC3 (by simp)
  have K4 := K3.trans hk4
  obtain ⟨_, hLF⟩ := hW
  have HLF := hid hLF
  have HN := hid haN
  have HO := hid hok
  have h0 := hP.lo
  have hsp : (c.space : Int) ≤ 4096 := by have := hok.small.2.2; omega
  have hwd := words_ge hok
  have hwi : (c.words : Int) ≤ 15000 := by omega
  have HBK := hid (show cb < a.d ∧ cb < a.s ∧ cb < a.k ∧ cb < a.m ∧ cb < p from ⟨by omega, by omega, by omega, by omega, by omega⟩)
  clear haN hok hkp his hC3 K3 hk4 hLF b1 b2 b3 b4 b5 hwd
  have c0 := hC4.cell 0 rfl
  have c1 := hC4.cell 1 rfl
  have c2 := hC4.cell 2 rfl
  obtain ⟨k, hk⟩ : ∃ k, k = ac % 2 := ⟨_, rfl⟩
  have EA := hid (show bits .and .u8 (ac : Int) 1 = (k : Int) by rw [and1_u8 ac ha, hk])
  have hkl : k ≤ 1 := by omega
  obtain ⟨sp, hsp2⟩ : ∃ sp : Nat, sp = c.space + 1 := ⟨_, rfl⟩
  obtain ⟨u9, hu9⟩ : ∃ u9, u9 = us % sp := ⟨_, rfl⟩
  have EU := hid (show (us : Int) % (sp : Int) = (u9 : Int) by rw [hu9]; simp)
  have hul : u9 ≤ c.space := by have := Nat.mod_lt us (show 0 < sp by omega); omega
  have EW := hid (show wrap64 (k : Int) = (k : Int) from IntWalk.wrap64_in _ (by omega))
  have g1 : (c.space : Int) + 1 = (sp : Int) := by omega
  have n1 : ¬ (sp : Int) = 0 := by omega
  have n3 : ¬ sp = 0 := by omega
  have e1 : IntKind.i64.wrap (sp : Int) = (sp : Int) := IntWalk.i64_in _ (by omega)
  have hrt : (c.roots : Int) ≤ 16 := by have := HO.out.2.1; omega
  have hmk : ∀ w : World, (Instr.makeSlice 25 (.int .i64 c.roots) (.int .i64 c.roots)).run Tryz.prog w = .ok (.slice (some ⟨w.heap.size, 0, none⟩) c.roots c.roots) (w.alloc (.cells (u64s c.roots fun _ => 0) 27)) :=
    fun w => run_make_at (P := Tryz.prog) 25 27 (.int .u64 0) 8 Tryz.underlying25 (by kernel_rfl) rfl c.roots (by omega) (by omega) w
  clear hk hu9 hsp2
  go_upto_region 9 with fail
  obtain ⟨oR, hoR⟩ : ∃ o, o = Obj.cells (u64s c.roots fun _ => 0) 27 := ⟨_, rfl⟩
  rw [← hoR] at hmk
  have HOR := hid hoR
  clear hoR
  have HC : Hid (∀ w', Keeps [] w4 w' → (w'.cell? ⟨cb, 0, none⟩ = some (.int .i64 c.log) ∧ w'.cell? ⟨cb, 1, none⟩ = some (.int .i64 c.roots) ∧ w'.cell? ⟨cb, 2, none⟩ = some (.int .i64 c.space))) :=
    fun w' hk => ⟨(hk.at hC4 (by simp)).cell 0 rfl, (hk.at hC4 (by simp)).cell 1 rfl, (hk.at hC4 (by simp)).cell 2 rfl⟩
  go_cut [12] from 30 to 42 (fun s12 wx => ∃ bb g, s12 = ptr bb ∧ At wx bb (bkO k u9 (.slice (some ⟨g, 0, none⟩) c.roots c.roots)) ∧ At wx g oR ∧ w4.heap.size ≤ bb ∧ w4.heap.size ≤ g ∧ bb ≠ g ∧ Keeps [] w4 wx)
  case first =>
    have KA := (Keeps.refl [] w4).alloc (bkO 0 0 (.slice none 0 0))
    have KR := (Keeps.refl [] w4).alloc oR
    obtain ⟨x0, x1, x2⟩ := HC.out _ KA
    obtain ⟨x3, x4, x5⟩ := HC.out _ KR
    obtain ⟨x6, x7, x8⟩ := HC.out _ (KA.alloc oR)
    obtain ⟨x9, x10, x11⟩ := HC.out _ (KR.alloc (bkO 0 0 (.slice none 0 0)))
    obtain ⟨x12, x13, x14⟩ := HC.out _ (Keeps.refl [] w4)
    clear c0 c1 c2
    have hA := (At.new w4 (bkO 0 0 (.slice none 0 0))).alloc oR
    have hB := At.new (w4.alloc oR) (bkO 0 0 (.slice none 0 0))
    rw [show (w4.alloc oR).heap.size = w4.heap.size + 1 by simp] at hB
    have y0 := hA.cell 0 rfl
    have y1 := hA.cell 1 rfl
    have y2 := hA.cell 2 rfl
    have f0 := hA.free 0
    have f1 := hA.free 1
    have f2 := hA.free 2
    have z0 := hB.cell 0 rfl
    have z1 := hB.cell 1 rfl
    have z2 := hB.cell 2 rfl
    have g10 := hB.free 0
    have g11 := hB.free 1
    have g12 := hB.free 2
    clear hA hB KA KR
    go_region
    all_goals
      go_wp2_with fail
      rw [EA.out, EU.out, EW.out]
      go_meet
    · exact ⟨_, _, rfl, by have := At.new (w4.alloc oR) (bkO k u9 (.slice (some ⟨w4.heap.size, 0, none⟩) c.roots c.roots)); rw [show (w4.alloc oR).heap.size = w4.heap.size + 1 by simp] at this; exact this.drew, ((At.new w4 oR).alloc _).drew, by omega, by omega, by omega, (((Keeps.refl [] w4).alloc _).alloc _).drew⟩
    · exact ⟨_, _, rfl, ((At.new w4 (bkO k u9 (.slice (some ⟨w4.heap.size + 1, 0, none⟩) c.roots c.roots))).alloc _).drew, by have := At.new (w4.alloc (bkO k u9 (.slice (some ⟨w4.heap.size + 1, 0, none⟩) c.roots c.roots))) oR; rw [show (w4.alloc (bkO k u9 (.slice (some ⟨w4.heap.size + 1, 0, none⟩) c.roots c.roots))).heap.size = w4.heap.size + 1 by simp] at this; exact this.drew, by omega, by omega, by omega, (((Keeps.refl [] w4).alloc _).alloc _).drew⟩
  case rest =>
  obtain ⟨bb, g, rfl, hBk, hRw, hbb, hgg, hbg, hkx⟩ := hcut
  rw [HOR.out] at hRw
  have hC5 := hkx.at hC4 (by simp)
  have hP5 := hP.keep0 hkx
  have K5 := K4.trans hkx
  have hDl := hP.dev.fresh hgg
  have hDb := hP.dev.fresh hbb
  have hpl4 := hP.pow.lt
  have hcl4 := hC4.lt
  have hz4 := K4.size
  have HZ4 := hid hz4
  have HSEP := hid (show p ≠ g ∧ p ≠ bb ∧ cb ≠ g ∧ cb ≠ bb from ⟨by omega, by omega, by omega, by omega⟩)
  have HDl := hid hDl
  have HDb := hid hDb
  have HGG := hid (show W.heap.size ≤ g ∧ W.heap.size ≤ bb ∧ bb ≠ g from ⟨by omega, by omega, hbg⟩)
  clear hDl hDb hpl4 hcl4 hz4 hP hC4 K4 hkx hbb hgg hbg EA EU EW HOR HC c0 c1 c2 e1 n1 n3 g1 hmk
  have d2 := hBk.cell 2 rfl
  have hXr := HX.out.keep K5 (by simp)
  obtain ⟨mm, hmm⟩ : ∃ mm, mm = min n c.roots := ⟨_, rfl⟩
  have HMM := hid hmm
  go_upto_region 11 with (refine copy64r rfl _ _ rfl g 0 c.roots c.roots x n cp rfl rfl c.roots _ f _ hRw hXr mm hmm (by omega) ?_; intro w6 hR6 hk6)
  have hSep := HSEP.out
  have hDL := HDl.out
  have hGG := HGG.out
  have hP6 := hP5.keep hk6 (by simp; omega) (by simp; omega) (by simp; omega) (by simp; omega) (by simp; omega)
  have hC6 := hk6.at hC5 (by simp; omega)
  have hB6 := hk6.at hBk (by simp; omega)
  have K6 : Keeps [] W w6 := K5.new hk6 (by simp; omega)
  obtain ⟨fg, hfg⟩ : ∃ fg, fg = over (fun _ => (0 : Int)) f 0 0 mm := ⟨_, rfl⟩
  rw [← hfg] at hR6
  have hbk := HBK.out
  have HWT : Hid (∀ b ∈ [p, a.s, a.k, a.m], W.heap.size ≤ b ∧ b ≠ cb ∧ b ≠ bb ∧ b ≠ g) := by
    have := HDb.out
    intro b hb
    simp only [List.mem_cons, List.not_mem_nil, or_false] at hb
    omega
  have HWR := hid (rwrite_at (free_storer p a u (by omega)) 0 S w6 ⟨u, hP6, by simp⟩ c HO.out HN.out k u9 hkl hul (some ⟨g, 0, none⟩) c.roots fg (by omega) (Reads.of_at0 hR6 (Nat.le_refl _))
    (fun b off e => by injection e with e; injection e with e1 e2; subst e1; exact ⟨fun h => (HWT.out _ h).2.2.2 rfl, hR6.lt⟩)
    (fun b hb => by
      simp only [List.mem_cons, List.not_mem_nil, or_false] at hb
      rcases hb with rfl | rfl | rfl | rfl
      · exact hP6.pow.lt
      · exact hP6.dev.now.lt
      · exact hP6.dev.kept.lt
      · exact hP6.dev.map.lt))
  have HFG := hid hfg
  clear hSep hDL hGG hP5 hC5 hBk K5 hRw hXr hk6 d2 hfg hbk hmm hP6
  have c0 := hC6.cell 0 rfl
  have c1 := hC6.cell 1 rfl
  have c2 := hC6.cell 2 rfl
  have d0 := hB6.cell 0 rfl
  have d1 := hB6.cell 1 rfl
  have d2 := hB6.cell 2 rfl
  go_wp2_with fail
  refine HWR.out.mono ?_
  rintro e w7 (⟨code, S7, rfl, hwr, ⟨u7, hP7, _⟩, hk7, _⟩ | ⟨_, hg⟩)
  case inr => exact absurd hg wrG_none
  obtain ⟨rfl, hs1, hs2, hs3⟩ := blkW_stands hwr
  have hC7 := hk7.at hC6 (fun h => (HWT.out _ h).2.1 rfl)
  have hB7 := hk7.at hB6 (fun h => (HWT.out _ h).2.2.1 rfl)
  have hR7 := hk7.at hR6 (fun h => (HWT.out _ h).2.2.2 rfl)
  have K7 := K6.new hk7 (fun b hb => .inr (HWT.out b hb).1)
  have HS := hid (And.intro hs1 (And.intro hs2 hs3))
  have HRD := hid (rread_at w7 p a S7 c hP7.dev HO.out HN.out (by rw [hs1]; omega) (by rw [hs2]; omega))
  clear HWR hwr hk7 c0 c1 c2 d0 d1 d2 hC6 hB6 hR6 K6 hP7 hs1 hs2 hs3
  have c0 := hC7.cell 0 rfl
  have c1 := hC7.cell 1 rfl
  have c2 := hC7.cell 2 rfl
  go_wp2_with fail
  refine HRD.out.mono ?_
  rintro e w8 (⟨h9, rfl, hk10⟩ | ⟨k1, u1, x9, cp9, hk1, hu1, hA1, hU1, rfl, hO9, hk10⟩)
  · rw [HS.out.1, HS.out.2.1] at h9
    omega
  · rw [HS.out.1] at hA1
    rw [HS.out.2.1] at hU1
    obtain rfl : k = k1 := by omega
    obtain rfl : u9 = u1 := by omega
    have hB8 := (hk10.at hB7 (by simp)).alloc (bkO k u9 (.slice x9 c.roots cp9))
    have hA8 := At.new w8 (bkO k u9 (.slice x9 c.roots cp9))
    have K8 := (K7.trans hk10).alloc (bkO k u9 (.slice x9 c.roots cp9))
    have hR8 : Reads (w8.alloc (bkO k u9 (.slice x9 c.roots cp9))) (some ⟨g, 0, none⟩) c.roots fg := Reads.of_at0 ((hk10.at hR7 (by simp)).alloc _) (Nat.le_refl _)
    have hO8 := (hO9.keep ((Keeps.refl [] w8).alloc (bkO k u9 (.slice x9 c.roots cp9))) (by simp)).rd
    have HEQ := hid (equal_true _ _ _ c.roots cp9 c.roots _ _ hO8 hR8 (fun i hi => HS.out.2.2 i hi) (by omega))
    clear hk10 hO9 hR8 hO8 c0 c1 c2 hk1 hu1 hA1 hU1 HRD hC7 hB7 hR7
    have d0 := hB8.cell 0 rfl
    have d1 := hB8.cell 1 rfl
    have d2 := hB8.cell 2 rfl
    have a0 := hA8.cell 0 rfl
    have a1 := hA8.cell 1 rfl
    have a2 := hA8.cell 2 rfl
    have hkk : (k : Int) ≤ 1 := by omega
    go_wp2_with fail
    refine HEQ.out.mono ?_
    rintro e w9 ⟨rfl, hk9⟩
    go_wp2_with fail
    go_ret
    exact ⟨rfl, (K8.trans hk9).below (Nat.le_refl _) (by simp)⟩

theorem rootsBack_walk (l r s : Int) (x : Option Addr) (n cp : Nat) (f : Nat → Int) (ac us : Int) (W : World) (wl : (Lit.int .u16 l).wf = true) (wr : (Lit.int .u16 r).wf = true) (ws : (Lit.int .u16 s).wf = true) (R1 : ReadsV (Value.int .u64) W x n f) (_ : ∀ i, i < n → (Lit.int .u64 (f i)).wf = true) (hn : n ≤ maxLen) (wa : (Lit.int .u8 ac).wf = true) (wu : (Lit.int .u16 us).wf = true) :
    Calls Tryz.prog 7 #[.agg #[.int .u16 l, .int .u16 r, .int .u16 s], .slice x n cp, .int .u8 ac, .int .u16 us] W fun e w' => e = .returned (.bool true) ∧ Below W.heap.size W w' := by
  obtain ⟨l, rfl, hl⟩ := c3_open wl
  obtain ⟨r, rfl, hr⟩ := c3_open wr
  obtain ⟨s, rfl, hs⟩ := c3_open ws
  obtain ⟨us, rfl, hu⟩ := c3_open wu
  have ha := bounds_u8 wa
  obtain ⟨ac, rfl⟩ : ∃ n : Nat, (n : Int) = ac := ⟨ac.toNat, by omega⟩
  exact back_small l r s ac us x n cp f W hl hr hs (by omega) hu R1 (by unfold maxLen at hn; omega)

end Go.Proofs.YtkoflpcpopmkkaaGreat
