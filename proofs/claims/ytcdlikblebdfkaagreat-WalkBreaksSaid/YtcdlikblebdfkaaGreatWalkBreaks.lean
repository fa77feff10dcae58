/- The walk of the law WalkBreaks. -/
import Derived.Test.YtcdlikblebdfkaaGreatAwk11
import Derived.BigQuiet
import Derived.LoopN
import Derived.Test.YtcdlikblebdfkaaGreatRnd
namespace Go.Proofs.YtcdlikblebdfkaaGreat
open Go.RowKit Go.OpenShut

theorem rangeE_two {P : Program} {l : Nat} {Q : Exit → Act → World → Prop} {a' : Act} {v : Value} {w₃ : World} {id : Nat} {J : World → Prop}
    (h : (∃ w₄, (Instr.endLoop l).run P w₃ = .ok none w₄ ∧ J w₄) ∨ ∃ w₄, (Instr.endLoop l).run P w₃ = .ok (some (.exit id)) w₄ ∧ J w₄) (hk : ∀ w₄, J w₄ → Q .normal a' w₄) (hx : ∀ w₄, Q .normal a' w₄ → Q (.exit id) a' w₄) : rangeE P l Q a' (.returned v) w₃ := by
  rcases h with ⟨w₄, h1, h2⟩ | ⟨w₄, h1, h2⟩
  · exact .inl ⟨w₄, h1, hk w₄ h2⟩
  · exact .inr ⟨_, w₄, h1, wp_exit (hx w₄ (hk w₄ h2))⟩

theorem rounds_k {P : Program} {c : Code} {Q : Exit → Act → World → Prop} {n : Nat} {a : Act} {w : World} (h : ∀ K : Act → World → Prop, (∀ a w, Code.rounds P c Q n a w → K a w) → c.wp P (Exit.then K Q) a w) : Code.rounds P c Q (n + 1) a w :=
  h _ fun _ _ h => h

set_option maxRecDepth 100000 in
set_option maxHeartbeats 4000000 in
theorem breaks_small (l r s : Nat) (y0 : Option Addr) (m cm : Nat) (R V : Nat → Nat) (sp : Nat) (W : World) (hl : l ≤ 65535) (hrr : r ≤ 65535) (hs : s ≤ 65535)
    (hy : ReadsH W y0 m R V) (hm : m ≤ 9223372036854775807) (hsp0 : sp ≤ 255) :
    Calls Tryz.prog 4 #[c3V l r s, .slice y0 m cm, .int .u8 sp] W fun e w' => e = .returned (.bool true) ∧ Below W.heap.size W w' := by
  have hmi : (m : Int) ≤ 9223372036854775807 := by omega
  have hspi : (sp : Int) ≤ 255 := by omega
  have HY := hid hy
  clear hy
  refine callsAt_marks Tryz.func4 rfl (.of_wp ?_)
  simp only [Tryz.ntmps4, List.size_toArray, List.length_cons, List.length_nil, Nat.reduceAdd, Nat.reduceSub, Array.replicate_succ, Array.replicate_zero, List.push_toArray, List.append_toArray, List.nil_append, List.cons_append]
  go_wp2_with fail
  have h_xb := ((At.new W (c3O l r s)).alloc (.cells #[.int .u8 sp] 5)).alloc (.cells #[.bool false] 4)
  have h_tb := (At.new (W.alloc (c3O l r s)) (.cells #[.int .u8 sp] 5)).alloc (.cells #[.bool false] 4)
  have h_rb := At.new ((W.alloc (c3O l r s)).alloc (.cells #[.int .u8 sp] 5)) (.cells #[.bool false] 4)
  have K0 := ((((Keeps.refl [] W).alloc (c3O l r s)).alloc (.cells #[.int .u8 sp] 5)).alloc (.cells #[.bool false] 4))
  simp only [World.size_alloc] at h_tb h_rb
  obtain ⟨xb, hq_xb⟩ : ∃ q, q = W.heap.size := ⟨_, rfl⟩
  obtain ⟨tb, hq_tb⟩ : ∃ q, q = W.heap.size + 1 := ⟨_, rfl⟩
  obtain ⟨rb, hq_rb⟩ : ∃ q, q = W.heap.size + 1 + 1 := ⟨_, rfl⟩
  rw [← hq_rb, ← hq_tb, ← hq_xb]
  rw [← hq_xb] at h_xb
  rw [← hq_tb] at h_tb
  rw [← hq_rb] at h_rb
  have HQ : Hid (xb = W.heap.size ∧ tb = W.heap.size + 1 ∧ rb = W.heap.size + 2) := ⟨by omega, by omega, by omega⟩
  refine (awake11_any _).mono ?_
  rintro e w1 ⟨rfl, hb1⟩
  have k1 := Go.Proofs.YtcdlikblebdfkaaGreat.Below.keeps hb1 []
  have K1 := K0.trans k1
  have g_xb := k1.at h_xb (by simp)
  have g_tb := k1.at h_tb (by simp)
  have g_rb := k1.at h_rb (by simp)
  clear hb1 k1 K0 h_xb h_tb h_rb hq_xb hq_tb hq_rb
  have c0 : w1.cell? ⟨xb, 0, none⟩ = some (.int .u16 l) := g_xb.cell 0 rfl
  have c1 : w1.cell? ⟨xb, 1, none⟩ = some (.int .u16 r) := g_xb.cell 1 rfl
  have c2 : w1.cell? ⟨xb, 2, none⟩ = some (.int .u16 s) := g_xb.cell 2 rfl
  have rf0 := g_rb.free 0
  have rc0 := g_rb.cell 0 rfl
  by_cases hm30 : m ≤ 30
  case neg =>
    have hm2 : (30 : Int) < (m : Int) := by omega
    go_wp2_with fail
    have hRF := g_rb.set 0 (.bool true)
    have y0 := hRF.cell 0 rfl
    refine ⟨.bool true, ?_, rfl, ?_⟩
    · simp [results, Tryz.results4, go_sem, y0]
    · exact (K1.set (.inr (by have := HQ.out; show W.heap.size ≤ rb; omega)) _).below (Nat.le_refl _) (by simp)
  have hm2 : (m : Int) ≤ 30 := by omega
  clear hmi
  have hok := mk3_ok l r s
  obtain ⟨c, hc⟩ : ∃ c, c = mk3 l r s := ⟨_, rfl⟩
  rw [← hc] at hok
  have HFI := hid (filled_at w1 l r s hl hrr hs y0 m cm R V (HY.out.keep K1 (by simp)) (by omega) c hc)
  clear hc
  go_wp2_with fail
  refine HFI.out.mono ?_
  obtain ⟨os, hos⟩ : ∃ os, os = fillL c.space (hdsL R V m) := ⟨_, rfl⟩
  rw [← hos]
  rintro e w3 ⟨p, a, u, S, x, cp, y, cy, B, rfl, hn, hP, hub, hF, hU, hI, ⟨b1, b2, b3, b4, b5⟩, hB, hk3⟩
  have K3 := K1.trans hk3
  have f_tb := hk3.at g_tb (by simp)
  have f_rb := hk3.at g_rb (by simp)
  have HWB : Hid (∀ b ∈ [p, a.s, a.k, a.m], rb < b ∧ b < w3.heap.size) := fun b h => by
    have hz := g_rb.lt
    have h1 := hP.pow.lt
    have h2 := hP.dev.now.lt
    have h3 := hP.dev.kept.lt
    have h4 := hP.dev.map.lt
    simp only [List.mem_cons, List.not_mem_nil, or_false] at h
    omega
  have HWD : Hid (rb < a.d ∧ a.d < w3.heap.size) := ⟨by have hz := g_rb.lt; omega, hP.dev.dev.lt⟩
  have HO := hid hok
  have HN := hid hn
  obtain ⟨L, hL⟩ : ∃ L, L = os.length := ⟨_, rfl⟩
  have hLm : L ≤ m := by rw [hL, hos]; exact fillL_len _ _ _ _
  have hLi : (L : Int) ≤ 30 := by omega
  have HL := hid hL
  rw [← hL] at hI ⊢
  obtain ⟨us, hus⟩ : ∃ us, us = lenL os := ⟨_, rfl⟩
  have HUS := hid hus
  rw [← hus]
  have husb : us ≤ c.space := by rw [hus]; exact hF.fits
  have hsp : c.space ≤ 4096 := hok.small.2.2
  have husi : (us : Int) ≤ 4096 := by omega
  have hfs : c.frm 0 + c.space ≤ a.n := by rw [← hn]; exact frm_space 0 (by omega)
  have hch := hF.chain hfs
  rw [← hus] at hch
  have HCH := hid hch
  have HF := hid hF
  have HFS := hid (And.intro hfs (And.intro husb hsp))
  have HP := hid hP
  have HUB := hid hub
  have HIY := hid hI
  have HK3 := hid K3
  have HBB : Hid (∀ b ∈ blkL y, b ∉ [p, a.s, a.k, a.m]) := fun b hb h => by
    have h1 := (hI.ge b hb).1
    simp at h
    omega
  clear hm30 hos hL hLm hus husb hsp hfs hch hF hP hub hI hU hB b1 b2 b3 b4 b5 hk3 K1 c0 c1 c2 rf0 rc0 HFI hok hn K3 g_xb g_tb g_rb
  go_wp2_with fail
  have hC4 := ((At.new w3 (cfgO c)).alloc (bkO 0 (us : Nat) (.slice x c.roots cp))).alloc (.cells #[.slice y L cy] 34)
  have hB4 := (At.new (w3.alloc (cfgO c)) (bkO 0 (us : Nat) (.slice x c.roots cp))).alloc (.cells #[.slice y L cy] 34)
  have hP4 := At.new ((w3.alloc (cfgO c)).alloc (bkO 0 (us : Nat) (.slice x c.roots cp))) (.cells #[.slice y L cy] 34)
  have k34 := (((Keeps.refl [] w3).alloc (cfgO c)).alloc (bkO 0 (us : Nat) (.slice x c.roots cp))).alloc (.cells #[.slice y L cy] 34)
  simp only [World.size_alloc] at hB4 hP4
  obtain ⟨cb, hcb⟩ : ∃ q, q = w3.heap.size := ⟨_, rfl⟩
  obtain ⟨bb, hbb⟩ : ∃ q, q = w3.heap.size + 1 := ⟨_, rfl⟩
  obtain ⟨pb, hpb⟩ : ∃ q, q = w3.heap.size + 1 + 1 := ⟨_, rfl⟩
  obtain ⟨w4, hw4⟩ : ∃ w4, w4 = ((w3.alloc (cfgO c)).alloc (bkO 0 (us : Nat) (.slice x c.roots cp))).alloc (.cells #[.slice y L cy] 34) := ⟨_, rfl⟩
  have hz4 : w4.heap.size = w3.heap.size + 3 := by rw [hw4]; simp
  rw [← hw4] at hC4 hB4 hP4 k34
  first | rw [← hw4] | skip
  rw [← hpb, ← hbb, ← hcb]
  rw [← hcb] at hC4
  rw [← hbb] at hB4
  rw [← hpb] at hP4
  have HZ4 : Hid (cb = w3.heap.size ∧ bb = cb + 1 ∧ pb = cb + 2 ∧ w4.heap.size = cb + 3) := ⟨by omega, by omega, by omega, by omega⟩
  have hT4 := k34.at f_tb (by simp)
  have hR4 := k34.at f_rb (by simp)
  have hD4 := HP.out.dev.keep k34 (by simp) (by simp) (by simp) (by simp)
  have hI4 := HIY.out.keep k34 (by simp)
  clear hw4 hz4 hcb hbb hpb f_tb f_rb
  refine (objects_at w4 a.d c 0 us (.slice x c.roots cp)).mono ?_
  rintro e w5 ⟨rfl, hx0, hx1, hx2, k45, hz5⟩
  have hD5 := hD4.keep k45 (by simp) (by simp) (by simp) (by simp)
  have HO5 : Hid (ObjF (w4.heap.size + 2) (w4.heap.size + 1) w4.heap.size a c 0 us os false w5) := ⟨hx2, hx1, hx0, p, S, hD5, HCH.out⟩
  have HT5 := hid (k45.at hT4 (by simp))
  have HR5 := hid (k45.at hR4 (by simp))
  have HP5 := hid (k45.at hP4 (by simp))
  have HI5 := hid (hI4.keep k45 (by simp))
  have HK5 := hid (k34.trans k45)
  have HZ5 : Hid (w5.heap.size = cb + 6) := by show _ = _; have := HZ4.out; omega
  clear hx0 hx1 hx2 hD4 hD5 hC4 hB4 hP4 hT4 hR4 hI4 k34 k45 hz5
  go_wp2_with fail
  have hmix : Tryz.prog.follows .mixedOrders = true := by kernel_rfl
  refine wp_loop_rounds 3 ?_
  obtain ⟨sm, hsm⟩ : ∃ sm, sm = sp % 20 := ⟨_, rfl⟩
  have hsm20 : sm < 20 := by rw [hsm]; exact Nat.mod_lt _ (by omega)
  have e1 : (sp : Int) % 20 = (sm : Int) := by rw [hsm]; exact (Int.natCast_emod sp 20).symm
  have e2 : (sp : Int).tmod 20 = (sm : Int) := by rw [Int.tmod_eq_emod_of_nonneg (by omega)]; exact e1
  have e3 : IntKind.u8.wrap (sm : Int) = (sm : Int) := IntWalk.u8_in _ (by omega)
  have e4 : IntKind.i64.wrap (sm : Int) = (sm : Int) := IntWalk.i64_in _ (by omega)
  have hsmi : (sm : Int) < 20 := by omega
  obtain ⟨mm, hmm⟩ : ∃ mm, mm = min L (1 + sm) := ⟨_, rfl⟩
  have HMM := hid hmm
  have hmmi : (mm : Int) ≤ 20 := by omega
  have q0 : ((mm : Int) != min (L : Int) (1 + (sm : Int))) = false := by rw [show min (L : Int) (1 + (sm : Int)) = (mm : Int) by omega]; simp
  clear hsm hmm
  obtain ⟨wS0, hwS⟩ : ∃ w, w = w5 := ⟨_, rfl⟩
  have HKs : Hid (Keeps [] w5 wS0) := by rw [hwS]; exact Keeps.refl _ _
  rw [← hwS]
  clear hwS
  refine rounds_k (n := 2) fun K0 hK0 => ?_
  go_wp2_with fail
  obtain ⟨nb, hnb⟩ : ∃ nb, nb = wS0.heap.size := ⟨_, rfl⟩
  have hN6 := At.new wS0 (.cells #[.int .i64 0] 3)
  have k6 := (Keeps.refl [] wS0).alloc (.cells #[.int .i64 0] 3)
  obtain ⟨w6, hw6⟩ : ∃ w6, w6 = wS0.alloc (.cells #[.int .i64 0] 3) := ⟨_, rfl⟩
  rw [← hnb]
  first | rw [← hw6] | skip
  rw [← hw6, ← hnb] at hN6
  rw [← hw6] at k6
  have HNB : Hid (cb + 6 ≤ nb ∧ w6.heap.size = nb + 1) := by
    have := HKs.out.size
    have := HZ5.out
    refine ⟨by omega, ?_⟩
    rw [hw6, hnb]; simp
  have HK6 := hid (HKs.out.trans k6)
  have HKS6 : Hid (Keeps [] wS0 w6 ∧ wS0.heap.size ≤ nb) := ⟨k6, by rw [hnb]; exact Nat.le_refl _⟩
  have HN6 := hid hN6
  clear hnb hN6 hw6 k6
  refine wp_rangeE (gf := 31) (lb := #[ptr (w4.heap.size + 2), ptr (w4.heap.size + 1), ptr w4.heap.size]) rfl (enters_of Tryz.func31 (by kernel_rfl) rfl) (fun fn => ?_)
  refine' (iter_core (objs_iter _ _ _ a c 0 us os false HO.out HN.out (by omega)) fn w6 _ _ _ _
    (fun i W => i ≤ L ∧ i < 1 + sm ∧ At W nb (.cells #[.int .i64 (i : Nat)] 3) ∧ Keeps [nb] w6 W)
    (fun W => 1 + sm ≤ L ∧ At W nb (.cells #[.int .i64 ((1 + sm : Nat) : Int)] 3) ∧ Keeps [nb] w6 W)
    (.exit 2) (.exit 2) (.inr ⟨2, rfl, rfl⟩) (fun _ => rfl) ?fct0 ?keep0 ?keepx0 ?round0 ?start0).mono ?after0
  case fct0 =>
    rintro i W ⟨_, _, _, hk⟩
    obtain ⟨h1, h2, h3, p', S', h4, h5⟩ := HO5.out
    have hz := HZ4.out
    have hn := HNB.out
    have hd := HWD.out
    have hb := HWB.out
    have hkk := HK6.out
    have hT : ∀ b, b < nb → b ∉ [nb] := fun b hb h => by have := List.mem_singleton.1 h; omega
    have h6 := h4.keep HK6.out (by simp) (by simp) (by simp) (by simp)
    have hdl := h4.dev.lt
    have hnl := h4.now.lt
    have hkl := h4.kept.lt
    have hml := h4.map.lt
    have hz5 := HZ5.out
    exact ⟨hk.at (hkk.at h1 (by simp)) (hT _ (by omega)), hk.at (hkk.at h2 (by simp)) (hT _ (by omega)), hk.at (hkk.at h3 (by simp)) (hT _ (by omega)), p', S', h6.keep hk (hT _ (by omega)) (hT _ (by omega)) (hT _ (by omega)) (hT _ (by omega)), h5⟩
  case keep0 =>
    rintro i W W' ⟨h1, h2, h3, hk⟩ hk'
    have hn := HNB.out
    exact ⟨h1, h2, hk'.at h3 (by simp; omega), hk.new hk' (by simp)⟩
  case keepx0 =>
    rintro W W' ⟨h1, h2, hk⟩ hk'
    have hn := HNB.out
    exact ⟨h1, hk'.at h2 (by simp; omega), hk.new hk' (by simp)⟩
  case start0 => exact ⟨Nat.zero_le _, by omega, HN6.out, Keeps.refl _ _⟩
  case round0 =>
    rintro l' i W0 W him ⟨_, _, _, hk0⟩ k0 ⟨hil, hism, hA, hK⟩ hsz
    have hlt : i < L := by unfold objM at him; simp at him; have := HL.out; omega
    rw [show objA c 0 os i = #[obV (nL os i : Nat) (rL os i : Nat) ((c.frm 0 + posL os i : Nat) : Int), .int .i64 0] by unfold objA; rw [if_pos (by have := HL.out; omega)]]
    obtain ⟨nn, hnn⟩ : ∃ nn, nn = nL os i := ⟨_, rfl⟩
    obtain ⟨rr, hrr⟩ : ∃ rr, rr = rL os i := ⟨_, rfl⟩
    obtain ⟨zi, hzi⟩ : ∃ zi, zi = c.frm 0 + posL os i := ⟨_, rfl⟩
    rw [← hnn, ← hrr, ← hzi]
    have HZI := hid hzi
    have HLT := hid (And.intro hlt hism)
    have HKW := hid hK
    have HAW := hid hA
    clear hnn hrr hzi hlt hism hK hA him hil
    have hsem := @Oper.semAt_some
    gi_wp2_with fail
    refine ⟨(Keeps.refl [] W).alloc _, fun W₂ k2 hz2 => ?_⟩
    have hn := HNB.out
    have hm0 : nb < W0.heap.size := by have := hk0.size; omega
    have hWz : W0.heap.size ≤ W.heap.size := k0.size
    have hA2 := k2.at (At.new W (obO (nn : Nat) (rr : Nat) zi)) (by simp; omega)
    have kW2 : Keeps [w6.heap.size + 1] W W₂ := ((Keeps.refl _ W).alloc _).trans k2
    have hS2 := kW2.at HAW.out (by simp; omega)
    have hkw := HKW.out
    have hT : ∀ b, b < nb → b ∉ [nb] ∧ b ∉ [w6.heap.size + 1] := fun b hb => by simp; omega
    have hlt5 : ∀ {b o}, At w5 b o → b < nb := fun h => by have := h.lt; have := HZ5.out; omega
    have hP2 := kW2.at (hkw.at (HK6.out.at HP5.out (by simp)) (hT _ (hlt5 HP5.out)).1) (hT _ (hlt5 HP5.out)).2
    have hT2 := kW2.at (hkw.at (HK6.out.at HT5.out (by simp)) (hT _ (hlt5 HT5.out)).1) (hT _ (hlt5 HT5.out)).2
    have hI2 := ((HI5.out.keep HK6.out (by simp)).keep hkw (fun b hb => (hT b (by have := (HI5.out.ge b hb).2; have := HZ5.out; omega)).1)).keep kW2 (fun b hb => (hT b (by have := (HI5.out.ge b hb).2; have := HZ5.out; omega)).2)
    obtain ⟨gy, hgy, _, hgl, hgc⟩ := hI2.cell (by have := HLT.out; omega)
    have y0 := hgc i HLT.out.1
    rw [← HZI.out] at y0
    subst hgy
    have hKN : Hid (Keeps [nb] w6 W₂) := hkw.new kW2 (by simp)
    have o0 := hA2.cell 0 rfl
    have o1 := hA2.cell 1 rfl
    have o2 := hA2.cell 2 rfl
    have n0 := hS2.cell 0 rfl
    have nf := hS2.free 0
    have p0 := hP2.cell 0 rfl
    have t0 := hT2.cell 0 rfl
    have t1 : decide ((L : Int) ≤ (i : Int)) = false := decide_eq_false (by have := HLT.out; omega)
    have t2 : (i : Int) < (L : Int) := by have := HLT.out; omega
    have t6 : decide (L ≤ i) = false := decide_eq_false (by have := HLT.out; omega)
    have t7 : i < L := HLT.out.1
    have t3 : (i : Int) ≤ 20 := by have := HLT.out; omega
    have HS2 := hid hS2
    have HM0 := hid hm0
    have hw6n : nb ≠ w6.heap.size ∧ nb ≠ w6.heap.size + 1 := by omega
    have hnt : tb ≠ nb := by have := hlt5 HT5.out; omega
    have HS2 := hid (And.intro hS2 (And.intro hT2 (And.intro hm0 (And.intro hw6n hnt))))
    clear hm0 hw6n hnt hWz hA2 kW2 hS2 hkw hT hlt5 hP2 hT2 hI2 hgc hgl k2 hz2 hn k0 hk0 hsz
    gi_wp2_with fail
    refine round_quiet rfl hmix (by kernel_rfl) ?_
    repeat (go_big_quiet_step (fail))
    refine wpQuiet_nil ?_
    rintro _ ⟨nq, rfl⟩
    have kq : Keeps [] W₂ (W₂.drewN nq) := (Keeps.refl [] W₂).drewN nq
    obtain ⟨W3, hW3⟩ : ∃ W3, W3 = W₂.drewN nq := ⟨_, rfl⟩
    rw [← hW3] at kq
    first | rw [← hW3] | skip
    have hS3 := kq.at HS2.out.1 (by simp)
    have hT3 := kq.at HS2.out.2.1 (by simp)
    have HKN3 : Hid (Keeps [nb] w6 W3) := hKN.out.trans (kq.mono (by simp))
    have HKQ : Hid (W₂.heap.size ≤ W3.heap.size) := kq.size
    have hst := hS3.set 0 (.int .i64 ((i : Int) + 1))
    have n3 := hS3.cell 0 rfl
    have nf3 := hS3.free 0
    have nn1 : (W3.setCell ⟨nb, 0, none⟩ (.int .i64 ((i : Int) + 1))).cell? ⟨nb, 0, none⟩ = some (.int .i64 ((i : Int) + 1)) := hst.cell 0 rfl
    have tn1 : (W3.setCell ⟨nb, 0, none⟩ (.int .i64 ((i : Int) + 1))).cell? ⟨tb, 0, none⟩ = some (.int .u8 sp) := (hT3.set_ne (a := ⟨nb, 0, none⟩) HS2.out.2.2.2.2 (.int .i64 ((i : Int) + 1))).cell 0 rfl
    have hkt : Keeps [nb] W₂ (W3.setCell ⟨nb, 0, none⟩ (.int .i64 ((i : Int) + 1))) := (kq.mono (by simp)).set (p := ⟨nb, 0, none⟩) (.inl (by simp)) _
    have hkt6 : Keeps [nb] w6 (W3.setCell ⟨nb, 0, none⟩ (.int .i64 ((i : Int) + 1))) := hKN.out.trans hkt
    have HST := hid (And.intro hst (And.intro hkt (And.intro hkt6 (And.intro HS2.out.2.2.1 HS2.out.2.2.2.1))))
    clear hst hkt hkt6 hS3 hT3 kq hW3
    all_goals
      by_cases hend : i + 1 = 1 + sm
      · have t4 : ((i : Int) == (sm : Int)) = true := by rw [beq_iff_eq]; omega
        have t5 : ((i : Int) + 1 == 1 + (sm : Int)) = true := by rw [beq_iff_eq]; omega
        have HEN := hid hend
        clear hend
        gi_wp2_with fail
        refine ⟨⟨?_, ?_, ?_⟩, [nb], HST.out.2.1, by have := HST.out.2.2.2.2; simp; omega, by have := HST.out.2.2.2.2; simp; omega, fun b hb => .inl (by obtain rfl := List.mem_singleton.1 hb; exact HST.out.2.2.2.1)⟩
        · have := HLT.out; have := HEN.out; omega
        · have := HST.out.1
          rw [show ((i : Int) + 1) = ((1 + sm : Nat) : Int) by have := HEN.out; omega] at this ⊢
          exact this
        · exact HST.out.2.2.1
      · have t4 : ((i : Int) == (sm : Int)) = false := by rw [beq_eq_false_iff_ne]; omega
        have t5 : ((i : Int) + 1 == 1 + (sm : Int)) = false := by rw [beq_eq_false_iff_ne]; omega
        have HEN := hid hend
        clear hend
        gi_wp2_with fail
        refine ⟨⟨?_, ?_, ?_, ?_⟩, [nb], HST.out.2.1, by have := HST.out.2.2.2.2; simp; omega, by have := HST.out.2.2.2.2; simp; omega, fun b hb => .inl (by obtain rfl := List.mem_singleton.1 hb; exact HST.out.2.2.2.1)⟩
        · have := HLT.out; omega
        · have := HLT.out; have := HEN.out; omega
        · exact HST.out.1
        · exact HST.out.2.2.1
  case after0 =>
    intro e w7 hr
    cases e with
    | panicked _ => exact hr
    | outgrown => exact hr
    | returned v =>
      refine rangeE_two (id := 2) (J := fun w8 => At w8 nb (.cells #[.int .i64 (mm : Nat)] 3) ∧ Keeps [nb] w6 w8 ∧ At w8 w6.heap.size (.deferred (some []))) ?_ (fun w8 hJ => ?_) (fun w8 h => h)
      · rcases hr with ⟨w8, hend, ⟨hil, hism, hA, hK⟩, hDf⟩ | ⟨w8, hend, ⟨hsl, hA, hK⟩, hDf⟩
        · refine .inl ⟨w8, hend, ?_, hK, hDf⟩
          rw [show mm = objM os false by have := HMM.out; unfold objM at hil hism ⊢; have := HL.out; simp at hil hism ⊢; omega]
          exact hA
        · refine .inr ⟨w8, hend, ?_, hK, hDf⟩
          rw [show mm = 1 + sm by have := HMM.out; omega]
          exact hA
      obtain ⟨hA, hK, hDf⟩ := hJ
      have hT8 := hK.at (HK6.out.at HT5.out (by simp)) (by have := HT5.out.lt; have := HZ5.out; have := HNB.out; simp; omega)
      have hP8 := hK.at (HK6.out.at HP5.out (by simp)) (by have := HP5.out.lt; have := HZ5.out; have := HNB.out; simp; omega)
      have HK8 : Hid (Keeps [] w5 w8) := HK6.out.new hK (fun b hb => .inr (by have := List.mem_singleton.1 hb; have := HNB.out; have := HZ5.out; omega))
      have n0 := hA.cell 0 rfl
      have t0 := hT8.cell 0 rfl
      have p0 := hP8.cell 0 rfl
      have HDF0 := hid hDf
      have HKW := hid hK
      have hwz : w6.heap.size < w8.heap.size := hDf.lt
      have HWZ := hid hwz
      obtain ⟨db0, hdb⟩ : ∃ db, db = w6.heap.size := ⟨_, rfl⟩
      have HDB0 : Hid (cb + 6 ≤ db0 ∧ db0 < w8.heap.size ∧ At w8 db0 (.deferred (some []))) := by
        have := HNB.out
        exact ⟨by omega, by omega, by rw [hdb]; exact hDf⟩
      have HDB01 : Hid (wS0.heap.size ≤ db0) := by have := HKS6.out.2; have := HNB.out; show _ ≤ _; omega
      rw [← hdb]
      clear hA hK hDf hwz hT8 hP8 hdb
      simp only [Exit.inBlock, Exit.then]
      go_wp2_with fail
      clear n0 t0 p0 HDB01
      obtain ⟨wS1, hwS⟩ : ∃ w, w = w8 := ⟨_, rfl⟩
      rw [← hwS] at HDB0
      have HKs : Hid (Keeps [] w5 wS1) := by rw [hwS]; exact HK8.out
      rw [← hwS]
      clear hwS HKW HWZ HDF0 HK8 HK6 HN6 HNB HKS6
      refine rounds_k (n := 1) fun K1 hK1 => ?_
      go_wp2_with fail
      obtain ⟨nb, hnb⟩ : ∃ nb, nb = wS1.heap.size := ⟨_, rfl⟩
      have hN6 := At.new wS1 (.cells #[.int .i64 0] 3)
      have k6 := (Keeps.refl [] wS1).alloc (.cells #[.int .i64 0] 3)
      obtain ⟨w6, hw6⟩ : ∃ w6, w6 = wS1.alloc (.cells #[.int .i64 0] 3) := ⟨_, rfl⟩
      rw [← hnb]
      first | rw [← hw6] | skip
      rw [← hw6, ← hnb] at hN6
      rw [← hw6] at k6
      have HNB : Hid (cb + 6 ≤ nb ∧ w6.heap.size = nb + 1) := by
        have := HKs.out.size
        have := HZ5.out
        refine ⟨by omega, ?_⟩
        rw [hw6, hnb]; simp
      have HK6 := hid (HKs.out.trans k6)
      have HKS6 : Hid (Keeps [] wS1 w6 ∧ wS1.heap.size ≤ nb) := ⟨k6, by rw [hnb]; exact Nat.le_refl _⟩
      have HN6 := hid hN6
      clear hnb hN6 hw6 k6
      refine wp_rangeE (gf := 31) (lb := #[ptr (w4.heap.size + 2), ptr (w4.heap.size + 1), ptr w4.heap.size]) rfl (enters_of Tryz.func31 (by kernel_rfl) rfl) (fun fn => ?_)
      refine' (iter_core (objs_iter _ _ _ a c 0 us os false HO.out HN.out (by omega)) fn w6 _ _ _ _
        (fun i W => i ≤ L ∧ i < 1 + sm ∧ At W nb (.cells #[.int .i64 (i : Nat)] 3) ∧ Keeps [nb] w6 W)
        (fun W => 1 + sm ≤ L ∧ At W nb (.cells #[.int .i64 ((1 + sm : Nat) : Int)] 3) ∧ Keeps [nb] w6 W)
        (.exit 2) (.exit 2) (.inr ⟨2, rfl, rfl⟩) (fun _ => rfl) ?fct1 ?keep1 ?keepx1 ?round1 ?start1).mono ?after1
      case fct1 =>
        rintro i W ⟨_, _, _, hk⟩
        obtain ⟨h1, h2, h3, p', S', h4, h5⟩ := HO5.out
        have hz := HZ4.out
        have hn := HNB.out
        have hd := HWD.out
        have hb := HWB.out
        have hkk := HK6.out
        have hT : ∀ b, b < nb → b ∉ [nb] := fun b hb h => by have := List.mem_singleton.1 h; omega
        have h6 := h4.keep HK6.out (by simp) (by simp) (by simp) (by simp)
        have hdl := h4.dev.lt
        have hnl := h4.now.lt
        have hkl := h4.kept.lt
        have hml := h4.map.lt
        have hz5 := HZ5.out
        exact ⟨hk.at (hkk.at h1 (by simp)) (hT _ (by omega)), hk.at (hkk.at h2 (by simp)) (hT _ (by omega)), hk.at (hkk.at h3 (by simp)) (hT _ (by omega)), p', S', h6.keep hk (hT _ (by omega)) (hT _ (by omega)) (hT _ (by omega)) (hT _ (by omega)), h5⟩
      case keep1 =>
        rintro i W W' ⟨h1, h2, h3, hk⟩ hk'
        have hn := HNB.out
        exact ⟨h1, h2, hk'.at h3 (by simp; omega), hk.new hk' (by simp)⟩
      case keepx1 =>
        rintro W W' ⟨h1, h2, hk⟩ hk'
        have hn := HNB.out
        exact ⟨h1, hk'.at h2 (by simp; omega), hk.new hk' (by simp)⟩
      case start1 => exact ⟨Nat.zero_le _, by omega, HN6.out, Keeps.refl _ _⟩
      case round1 =>
        rintro l' i W0 W him ⟨_, _, _, hk0⟩ k0 ⟨hil, hism, hA, hK⟩ hsz
        have hlt : i < L := by unfold objM at him; simp at him; have := HL.out; omega
        rw [show objA c 0 os i = #[obV (nL os i : Nat) (rL os i : Nat) ((c.frm 0 + posL os i : Nat) : Int), .int .i64 0] by unfold objA; rw [if_pos (by have := HL.out; omega)]]
        obtain ⟨nn, hnn⟩ : ∃ nn, nn = nL os i := ⟨_, rfl⟩
        obtain ⟨rr, hrr⟩ : ∃ rr, rr = rL os i := ⟨_, rfl⟩
        obtain ⟨zi, hzi⟩ : ∃ zi, zi = c.frm 0 + posL os i := ⟨_, rfl⟩
        rw [← hnn, ← hrr, ← hzi]
        have HZI := hid hzi
        have HLT := hid (And.intro hlt hism)
        have HKW := hid hK
        have HAW := hid hA
        clear hnn hrr hzi hlt hism hK hA him hil
        have hsem := @Oper.semAt_some
        gi_wp2_with fail
        refine ⟨(Keeps.refl [] W).alloc _, fun W₂ k2 hz2 => ?_⟩
        have hn := HNB.out
        have hm0 : nb < W0.heap.size := by have := hk0.size; omega
        have hWz : W0.heap.size ≤ W.heap.size := k0.size
        have hA2 := k2.at (At.new W (obO (nn : Nat) (rr : Nat) zi)) (by simp; omega)
        have kW2 : Keeps [w6.heap.size + 1] W W₂ := ((Keeps.refl _ W).alloc _).trans k2
        have hS2 := kW2.at HAW.out (by simp; omega)
        have hkw := HKW.out
        have hT : ∀ b, b < nb → b ∉ [nb] ∧ b ∉ [w6.heap.size + 1] := fun b hb => by simp; omega
        have hlt5 : ∀ {b o}, At w5 b o → b < nb := fun h => by have := h.lt; have := HZ5.out; omega
        have hP2 := kW2.at (hkw.at (HK6.out.at HP5.out (by simp)) (hT _ (hlt5 HP5.out)).1) (hT _ (hlt5 HP5.out)).2
        have hT2 := kW2.at (hkw.at (HK6.out.at HT5.out (by simp)) (hT _ (hlt5 HT5.out)).1) (hT _ (hlt5 HT5.out)).2
        have hI2 := ((HI5.out.keep HK6.out (by simp)).keep hkw (fun b hb => (hT b (by have := (HI5.out.ge b hb).2; have := HZ5.out; omega)).1)).keep kW2 (fun b hb => (hT b (by have := (HI5.out.ge b hb).2; have := HZ5.out; omega)).2)
        obtain ⟨gy, hgy, _, hgl, hgc⟩ := hI2.cell (by have := HLT.out; omega)
        have y0 := hgc i HLT.out.1
        rw [← HZI.out] at y0
        subst hgy
        have hKN : Hid (Keeps [nb] w6 W₂) := hkw.new kW2 (by simp)
        have o0 := hA2.cell 0 rfl
        have o1 := hA2.cell 1 rfl
        have o2 := hA2.cell 2 rfl
        have n0 := hS2.cell 0 rfl
        have nf := hS2.free 0
        have p0 := hP2.cell 0 rfl
        have t0 := hT2.cell 0 rfl
        have t1 : decide ((L : Int) ≤ (i : Int)) = false := decide_eq_false (by have := HLT.out; omega)
        have t2 : (i : Int) < (L : Int) := by have := HLT.out; omega
        have t6 : decide (L ≤ i) = false := decide_eq_false (by have := HLT.out; omega)
        have t7 : i < L := HLT.out.1
        have t3 : (i : Int) ≤ 20 := by have := HLT.out; omega
        have HS2 := hid hS2
        have HM0 := hid hm0
        have hw6n : nb ≠ w6.heap.size ∧ nb ≠ w6.heap.size + 1 := by omega
        have hnt : tb ≠ nb := by have := hlt5 HT5.out; omega
        have HS2 := hid (And.intro hS2 (And.intro hT2 (And.intro hm0 (And.intro hw6n hnt))))
        clear hm0 hw6n hnt hWz hA2 kW2 hS2 hkw hT hlt5 hP2 hT2 hI2 hgc hgl k2 hz2 hn k0 hk0 hsz
        gi_wp2_with fail
        refine round_quiet rfl hmix (by kernel_rfl) ?_
        repeat (go_big_quiet_step (fail))
        refine wpQuiet_nil ?_
        rintro _ ⟨nq, rfl⟩
        have kq : Keeps [] W₂ (W₂.drewN nq) := (Keeps.refl [] W₂).drewN nq
        obtain ⟨W3, hW3⟩ : ∃ W3, W3 = W₂.drewN nq := ⟨_, rfl⟩
        rw [← hW3] at kq
        first | rw [← hW3] | skip
        have hS3 := kq.at HS2.out.1 (by simp)
        have hT3 := kq.at HS2.out.2.1 (by simp)
        have HKN3 : Hid (Keeps [nb] w6 W3) := hKN.out.trans (kq.mono (by simp))
        have HKQ : Hid (W₂.heap.size ≤ W3.heap.size) := kq.size
        have hst := hS3.set 0 (.int .i64 ((i : Int) + 1))
        have n3 := hS3.cell 0 rfl
        have nf3 := hS3.free 0
        have nn1 : (W3.setCell ⟨nb, 0, none⟩ (.int .i64 ((i : Int) + 1))).cell? ⟨nb, 0, none⟩ = some (.int .i64 ((i : Int) + 1)) := hst.cell 0 rfl
        have tn1 : (W3.setCell ⟨nb, 0, none⟩ (.int .i64 ((i : Int) + 1))).cell? ⟨tb, 0, none⟩ = some (.int .u8 sp) := (hT3.set_ne (a := ⟨nb, 0, none⟩) HS2.out.2.2.2.2 (.int .i64 ((i : Int) + 1))).cell 0 rfl
        have hkt : Keeps [nb] W₂ (W3.setCell ⟨nb, 0, none⟩ (.int .i64 ((i : Int) + 1))) := (kq.mono (by simp)).set (p := ⟨nb, 0, none⟩) (.inl (by simp)) _
        have hkt6 : Keeps [nb] w6 (W3.setCell ⟨nb, 0, none⟩ (.int .i64 ((i : Int) + 1))) := hKN.out.trans hkt
        have HST := hid (And.intro hst (And.intro hkt (And.intro hkt6 (And.intro HS2.out.2.2.1 HS2.out.2.2.2.1))))
        clear hst hkt hkt6 hS3 hT3 kq hW3
        all_goals
          by_cases hend : i + 1 = 1 + sm
          · have t4 : ((i : Int) == (sm : Int)) = true := by rw [beq_iff_eq]; omega
            have t5 : ((i : Int) + 1 == 1 + (sm : Int)) = true := by rw [beq_iff_eq]; omega
            have HEN := hid hend
            clear hend
            gi_wp2_with fail
            refine ⟨⟨?_, ?_, ?_⟩, [nb], HST.out.2.1, by have := HST.out.2.2.2.2; simp; omega, by have := HST.out.2.2.2.2; simp; omega, fun b hb => .inl (by obtain rfl := List.mem_singleton.1 hb; exact HST.out.2.2.2.1)⟩
            · have := HLT.out; have := HEN.out; omega
            · have := HST.out.1
              rw [show ((i : Int) + 1) = ((1 + sm : Nat) : Int) by have := HEN.out; omega] at this ⊢
              exact this
            · exact HST.out.2.2.1
          · have t4 : ((i : Int) == (sm : Int)) = false := by rw [beq_eq_false_iff_ne]; omega
            have t5 : ((i : Int) + 1 == 1 + (sm : Int)) = false := by rw [beq_eq_false_iff_ne]; omega
            have HEN := hid hend
            clear hend
            gi_wp2_with fail
            refine ⟨⟨?_, ?_, ?_, ?_⟩, [nb], HST.out.2.1, by have := HST.out.2.2.2.2; simp; omega, by have := HST.out.2.2.2.2; simp; omega, fun b hb => .inl (by obtain rfl := List.mem_singleton.1 hb; exact HST.out.2.2.2.1)⟩
            · have := HLT.out; omega
            · have := HLT.out; have := HEN.out; omega
            · exact HST.out.1
            · exact HST.out.2.2.1
      case after1 =>
        intro e w7 hr
        cases e with
        | panicked _ => exact hr
        | outgrown => exact hr
        | returned v =>
          refine rangeE_two (id := 2) (J := fun w8 => At w8 nb (.cells #[.int .i64 (mm : Nat)] 3) ∧ Keeps [nb] w6 w8 ∧ At w8 w6.heap.size (.deferred (some []))) ?_ (fun w8 hJ => ?_) (fun w8 h => h)
          · rcases hr with ⟨w8, hend, ⟨hil, hism, hA, hK⟩, hDf⟩ | ⟨w8, hend, ⟨hsl, hA, hK⟩, hDf⟩
            · refine .inl ⟨w8, hend, ?_, hK, hDf⟩
              rw [show mm = objM os false by have := HMM.out; unfold objM at hil hism ⊢; have := HL.out; simp at hil hism ⊢; omega]
              exact hA
            · refine .inr ⟨w8, hend, ?_, hK, hDf⟩
              rw [show mm = 1 + sm by have := HMM.out; omega]
              exact hA
          obtain ⟨hA, hK, hDf⟩ := hJ
          have hT8 := hK.at (HK6.out.at HT5.out (by simp)) (by have := HT5.out.lt; have := HZ5.out; have := HNB.out; simp; omega)
          have hP8 := hK.at (HK6.out.at HP5.out (by simp)) (by have := HP5.out.lt; have := HZ5.out; have := HNB.out; simp; omega)
          have HK8 : Hid (Keeps [] w5 w8) := HK6.out.new hK (fun b hb => .inr (by have := List.mem_singleton.1 hb; have := HNB.out; have := HZ5.out; omega))
          have n0 := hA.cell 0 rfl
          have t0 := hT8.cell 0 rfl
          have p0 := hP8.cell 0 rfl
          have HDF1 := hid hDf
          have HKW := hid hK
          have hwz : w6.heap.size < w8.heap.size := hDf.lt
          have HWZ := hid hwz
          obtain ⟨db1, hdb⟩ : ∃ db, db = w6.heap.size := ⟨_, rfl⟩
          have HDB1 : Hid (cb + 6 ≤ db1 ∧ db1 < w8.heap.size ∧ At w8 db1 (.deferred (some []))) := by
            have := HNB.out
            exact ⟨by omega, by omega, by rw [hdb]; exact hDf⟩
          have HDB11 : Hid (wS1.heap.size ≤ db1) := by have := HKS6.out.2; have := HNB.out; show _ ≤ _; omega
          rw [← hdb]
          clear hA hK hDf hwz hT8 hP8 hdb
          simp only [Exit.inBlock, Exit.then]
          go_wp2_with fail
          refine rounds_k (n := 0) fun K2 hK2 => ?_
          clear n0 t0 p0
          have hR8 := HKW.out.at (HK6.out.at HR5.out (by simp)) (by have := HR5.out.lt; have := HZ5.out; have := HNB.out; simp; omega)
          have hD0 := HKW.out.at (HKS6.out.1.at HDB0.out.2.2 (by simp)) (by have := HDB0.out; have := HKS6.out.2; simp; omega)
          have r0 := hR8.cell 0 rfl
          have rf := hR8.free 0
          have HR8 := hid hR8
          have HD0 := hid hD0
          clear hR8 hD0
          go_wp2_with fail
          have hrl := HR5.out.lt
          have hz5 := HZ5.out
          have hdb := HDB0.out
          have hdb1 := HDB1.out
          have hd01 : db0 ≠ db1 := by have := hdb.2.1; have := HDB11.out; omega
          have hrb : W.heap.size ≤ rb := by have := HQ.out; omega
          have hwc : W.heap.size ≤ cb := by have := HK3.out.size; have := HZ4.out; omega
          have hD1b := hdb1.2.2.set_ne (a := ⟨rb, 0, none⟩) (by show db1 ≠ rb; omega) (.bool true)
          have hD0b := HD0.out.set_ne (a := ⟨rb, 0, none⟩) (by show db0 ≠ rb; omega) (.bool true)
          have kd1 : Keeps [db1] (w8.setCell ⟨rb, 0, none⟩ (.bool true)) ((w8.setCell ⟨rb, 0, none⟩ (.bool true)).putObj db1 (.deferred none)) := (Keeps.refl _ _).put (.inl (by simp)) _
          have kd0 : Keeps [db0] ((w8.setCell ⟨rb, 0, none⟩ (.bool true)).putObj db1 (.deferred none)) (((w8.setCell ⟨rb, 0, none⟩ (.bool true)).putObj db1 (.deferred none)).putObj db0 (.deferred none)) := (Keeps.refl _ _).put (.inl (by simp)) _
          refine ⟨by simp, .inl ⟨_, _, rfl, run_takeDeferred hD1b, ?_⟩⟩
          refine ⟨by simp, .inl ⟨_, _, rfl, run_takeDeferred (kd1.at hD0b (by simpa using hd01)), ?_⟩⟩
          have cf := ((kd0.at (kd1.at (HR8.out.set 0 (.bool true)) (by simp; omega)) (by simp; omega)).cell 0 rfl : _ = some (Value.bool true))
          refine ⟨.bool true, ?_, rfl, ?_⟩
          · simp [results, Tryz.results4, go_sem, cf]
          · exact ((((HK3.out.trans (HK5.out.trans HK8.out)).set (.inr hrb) _).new kd1 (fun b hb => .inr (by have := List.mem_singleton.1 hb; omega))).new kd0 (fun b hb => .inr (by have := List.mem_singleton.1 hb; omega))).below (Nat.le_refl _) (by simp)

theorem walkBreaks_walk (l r s : Int) (y : Option Addr) (m cm : Nat) (z : Nat → Nat → Int) (sp : Int) (W : World) (wl : (Lit.int .u16 l).wf = true) (wr : (Lit.int .u16 r).wf = true) (ws : (Lit.int .u16 s).wf = true)
    (R2 : m * 2 = 0 ∨ ∃ b off, y = some ⟨b, off, none⟩ ∧ b < W.heap.size ∧ ∀ i j, i < m → j < 2 → W.cell? ⟨b, off + (i * 2 + j), none⟩ = some (.int ((fun j => if j = 0 then IntKind.u8 else IntKind.u8) j) (z i j)) ∧ (Lit.int ((fun j => if j = 0 then IntKind.u8 else IntKind.u8) j) (z i j)).wf = true) (hm : m ≤ maxLen)
    (wu : (Lit.int .u8 sp).wf = true) :
    Calls Tryz.prog 4 #[.agg #[.int .u16 l, .int .u16 r, .int .u16 s], .slice y m cm, .int .u8 sp] W fun e w' => e = .returned (.bool true) ∧ Below W.heap.size W w' := by
  obtain ⟨l, rfl, hl⟩ := c3_open wl
  obtain ⟨r, rfl, hr⟩ := c3_open wr
  obtain ⟨s, rfl, hs⟩ := c3_open ws
  have hk := bounds_u8 wu
  obtain ⟨sp, rfl⟩ : ∃ n : Nat, (n : Int) = sp := ⟨sp.toNat, by omega⟩
  exact breaks_small l r s y m cm _ _ sp W hl hr hs (readsH_of R2) (by unfold maxLen at hm; omega) (by omega)

end Go.Proofs.YtcdlikblebdfkaaGreat
