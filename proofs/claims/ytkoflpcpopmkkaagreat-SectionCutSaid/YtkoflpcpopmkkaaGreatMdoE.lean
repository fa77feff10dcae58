/- A section that is open and its definition; a store of both. -/
import Derived.Test.YtkoflpcpopmkkaaGreatMdoD
namespace Go.Proofs.YtkoflpcpopmkkaaGreat
open Go.RowKit Go.OpenShut

section
variable {p : Nat} {a : DA} {l u : Int} {q : Sc} {c : Cfg} {mb nb ncap : Nat} {wB : World} {fr : Nat} {S : DS} {r : Nat} {K : Nat → Int} {w w' : World}

theorem do3_end {wt w' : World} {ut : Int} {St : DS} {m : Nat} {pl : Nat → Nat} {x : Option Addr} {ci wb wcap jx : Nat} {v : Int} (hp : MSep p a q c mb nb wB) (hOG : OpenG p a l ut St q c m r pl K ((c.words : Int) - (fr % 20 : Nat)) c.words wt)
    (hMB : At wt mb (mO c (.slice (some ⟨nb, 0, none⟩) (a.n - c.act) ncap) (.slice (some ⟨wb, 0, none⟩) (a.n - c.act) wcap) (.slice x m ci) true ((c.words : Int) - (fr % 20 : Nat)) c.words)) (hNB : OwnAt wt nb 0 (a.n - c.act) (fun i => S.now (c.act + i)))
    (hWB : OwnAt wt wb 0 (a.n - c.act) (fun i => K (c.act + i))) (hOI : OwnI wt wB.heap.size x ci m pl) (hwbB : wB.heap.size ≤ wb) (hwx : wb ∉ blkL x) (hKB : Keeps (mb :: nb :: q.bl p a) wB wt) (kk : Keeps [] wt w') (hjx : jx < a.n - c.act)
    (hnow : ∀ j, j < a.n - c.act → St.now (c.act + j) = if c.act + j = c.act + jx then v else S.now (c.act + j)) : MOpen p a l ut q c mb nb ncap wB fr St r K (w'.setCell ⟨nb, jx, none⟩ (.int .u64 v)) := by
  obtain ⟨hn1, hn2, hn3, hn4, hn5⟩ := hp.nb_ne
  have KS : Keeps [nb] w' (w'.setCell ⟨nb, jx, none⟩ (.int .u64 v)) := (Keeps.refl _ _).set (.inl (by simp)) _
  have hnl := hp.lt nb (by simp)
  have hP := (hNB.keep kk (by simp)).put hjx v
  rw [Nat.zero_add] at hP
  refine ⟨m, pl, wb, wcap, x, ci, (hOG.keep0 kk).keep KS (fun b hb hm => ?_), (kk.at hMB (by simp)).set_ne (a := ⟨nb, jx, none⟩) (by simpa using hn1.symm) _, hP.congr (fun j hj => ?_), (hWB.keep kk (by simp)).keep KS (by simp; omega), (hOI.keep kk (by simp)).keep KS (fun b hb hm => ?_), hwbB, hwx, (hKB.trans (kk.mono (by simp))).trans (KS.mono (fun k _ hk => by simp at hk; simp [hk]))⟩
  · simp only [List.mem_cons, List.not_mem_nil, or_false] at hm
    subst hm
    exact hp.sn (List.mem_cons_of_mem _ hb)
  · rw [hnow j hj]
    unfold put
    by_cases h : j = jx
    · rw [if_pos h, if_pos (by omega)]
    · rw [if_neg h, if_neg (by omega)]
  · simp only [List.mem_cons, List.not_mem_nil, or_false] at hm
    subst hm
    have := (hOI.ge _ hb).1
    omega

set_option maxRecDepth 100000 in
set_option maxHeartbeats 16000000 in
/-- A store, one being open. -/
theorem do3_open (hp : MSep p a q c mb nb wB) (h : MOpen p a l u q c mb nb ncap wB fr S r K w) (hu : u < 1000000) (hrb : r < 4294967296) (kd : Nat) (hkd : kd ≤ 255) (h0 : 3 ≤ kd % 8) (at_ : Nat) (hat : at_ ≤ 65535) (v : Int) (K2 : Nat → Int) :
    Calls Tryz.prog 17 #[ptr mb, ptr q.b, doV kd at_ v, .int .u8 fr] w fun e w' => (e = .returned (.bool true) ∧ ∃ u' S', MOpen p a l u' q c mb nb ncap wB fr S' r K w' ∧ u' ≤ u + 3000) ∨ Gone p a l c r ((c.words : Int) - (fr % 20 : Nat)) c.words K K2 (q.bl p a) w e w' := by
  have hkk : (kd : Int) ≤ 255 := by omega
  have s0 : ((kd : Int) % 8 == 0) = false := by rw [beq_eq_false_iff_ne]; omega
  have s1 : ((kd : Int) % 8 == 1) = false := by rw [beq_eq_false_iff_ne]; omega
  have s2 : ((kd : Int) % 8 == 2) = false := by rw [beq_eq_false_iff_ne]; omega
  clear h0
  have HP := hid hp
  obtain ⟨w0, hw0⟩ : ∃ w0, w0 = w.alloc (doO kd at_ v) := ⟨_, rfl⟩
  have h6 : MOpen p a l u q c mb nb ncap wB fr S r K w0 := by rw [hw0]; exact h.keep0 ((Keeps.refl _ _).alloc _)
  have hB := At.new w (doO kd at_ v)
  rw [← hw0] at hB
  have b0 := hB.cell 0 rfl
  have hci := c_in hp.ok hp.wn
  have hw := words_ge hp.ok
  have hai : (c.act : Int) ≤ 823 := by have := act_le hp.ok.small; omega
  have hwi : (c.words : Int) ≤ 15000 := by omega
  have hwa : (c.act : Int) ≤ (c.words : Int) := by have := hp.wn; omega
  have hwn := hp.wn
  obtain ⟨dd, hdd⟩ : ∃ dd : Nat, dd = c.words - c.act + 8 := ⟨_, rfl⟩
  have hddb : (dd : Int) ≤ 16000 := by omega
  have hdd0 : 0 < dd := by omega
  have hd1 : ¬ dd = 0 := by omega
  have hd2 : ¬ (dd : Int) = 0 := by omega
  obtain ⟨jj, hjj⟩ : ∃ jj, jj = at_ % dd := ⟨_, rfl⟩
  have hjd : jj < dd := by rw [hjj]; exact Nat.mod_lt _ hdd0
  have hji : (jj : Int) ≤ 16000 := by omega
  have hati : (at_ : Int) ≤ 65535 := by omega
  have E1 : IntKind.i64.wrap ((c.act : Int) - 4) = (c.act : Int) - 4 := IntWalk.i64_in _ (by omega)
  have E2 : IntKind.i64.wrap ((c.words : Int) - (c.act : Int)) = (dd : Int) - 8 := by rw [IntWalk.i64_in _ (by omega)]; omega
  have E3 : IntKind.i64.wrap ((dd : Int) - 8 + 8) = (dd : Int) := by rw [IntWalk.i64_in _ (by omega)]; omega
  have E3' : IntKind.i64.wrap (dd : Int) = (dd : Int) := IntWalk.i64_in _ (by omega)
  have E4 := hid (show IntKind.i64.wrap (at_ : Int) = (at_ : Int) from IntWalk.i64_in _ (by omega))
  have E5 := hid (show (at_ : Int).tmod (dd : Int) = (jj : Int) by rw [hjj, Int.tmod_eq_emod_of_nonneg (by omega)]; simp)
  have E6 := hid (show IntKind.i64.wrap ((c.act : Int) - 4 + (jj : Int)) = (c.act : Int) - 4 + (jj : Int) from IntWalk.i64_in _ (by omega))
  have K0 : Keeps [] w w0 := by rw [hw0]; exact (Keeps.refl _ _).alloc _
  obtain ⟨i, hi⟩ : ∃ i : Int, i = (c.act : Int) - 4 + (jj : Int) := ⟨_, rfl⟩
  have HI := hid hi.symm
  have hib : -4 ≤ i ∧ i ≤ 17000 := by omega
  have hwsz : wB.heap.size ≤ w.heap.size := by
    obtain ⟨_, _, _, _, _, _, _, _, _, _, _, _, _, hK⟩ := h
    exact hK.size
  have hci2 := hid hci
  clear hp h hdd hjj hw hi hwn hci
  have H6 := hid h6
  obtain ⟨m, pl, wb, wcap, x, ci, h1, h2, h3, h4, h5, h6', h7, h8⟩ := h6
  obtain ⟨hn1, hn2, hn3, hn4, hn5⟩ := HP.out.nb_ne
  have hltB := HP.out.lt
  have hwbq : wb ∉ q.bl p a := fun hm => by have := hltB wb (List.mem_cons_of_mem _ (List.mem_cons_of_mem _ (List.mem_cons_of_mem _ hm))); omega
  have hnbB := hltB nb (by simp)
  have hmbB := hltB mb (by simp)
  have hBq : w.heap.size ∉ q.bl p a := fun hm => by have := hltB _ (List.mem_cons_of_mem _ (List.mem_cons_of_mem _ (List.mem_cons_of_mem _ hm))); omega
  have hIq : ∀ b ∈ blkL x, b ∉ q.bl p a := fun b hb hm => by have := hltB _ (List.mem_cons_of_mem _ (List.mem_cons_of_mem _ (List.mem_cons_of_mem _ hm))); have := (h5.ge b hb).1; omega
  have hdoX : w.heap.size ∉ blkL x := fun hm => by
    rcases h5.form with ⟨rfl, _⟩ | ⟨g, cur, rfl, _, hA, _⟩
    · simp [blkL] at hm
    · simp [blkL] at hm
      exact cells_ne hB hA (by decide) hm
  have hIq2 : ∀ b ∈ a.d :: q.bl p a, b ∉ blkL x := fun b hb hm => by have := hltB _ (List.mem_cons_of_mem _ (List.mem_cons_of_mem _ hb)); have := (h5.ge b hm).1; omega
  have hm1000 : m ≤ 1000 := by have := h1.le; have := hci2.out.2.2.2.1; omega
  go_enter Tryz.func17, Tryz.ntmps17
  go_upto_region 1 with fail
  rw [← hw0]
  clear hw0
  go_upto_region 27 with fail
  have HX : Hid (∀ w', Keeps [] w0 w' → (w'.cell? ⟨mb, 0, none⟩ = some (.int .i64 c.log) ∧ w'.cell? ⟨mb, 1, none⟩ = some (.int .i64 c.roots) ∧ w'.cell? ⟨mb, 2, none⟩ = some (.int .i64 c.space) ∧ w'.cell? ⟨w.heap.size, 1, none⟩ = some (.int .u16 at_))) := fun w' hk => by
    have h := hk.at h2 (by simp)
    exact ⟨h.cell 0 rfl, h.cell 1 rfl, h.cell 2 rfl, (hk.at hB (by simp)).cell 1 rfl⟩
  have kk : Keeps [] w0 w0.drew := (Keeps.refl _ _).drew
  go_cut [14] from 137 to 159 (fun s14 wx => s14 = .int .i64 i ∧ Keeps [] w0 wx)
  case first =>
    go_region_held3 (fun w' => w'.cell? ⟨mb, 0, none⟩ = some (.int .i64 c.log) ∧ w'.cell? ⟨mb, 1, none⟩ = some (.int .i64 c.roots) ∧ w'.cell? ⟨mb, 2, none⟩ = some (.int .i64 c.space) ∧ w'.cell? ⟨w.heap.size, 1, none⟩ = some (.int .u16 at_))
      (exact HX.out _ kk)
      (first
        | (go_at_call 27; refine (active_at _ c HP.out.ok.small).mono ?_; rintro e w' ⟨rfl, hk1⟩; have kk := kk.trans hk1; clear hk1)
        | (go_at_call 28; refine (cwords_at _ c HP.out.ok.small).mono ?_; rintro e w' ⟨rfl, hk1⟩; have kk := kk.trans hk1; clear hk1))
    all_goals
      go_wp2_with fail
      go_meet
      exact ⟨by rw [E4.out, E5.out, E6.out, HI.out], kk⟩
  case rest =>
  obtain ⟨rfl, hkc⟩ := hcut
  have h1c := h1.keep0 hkc
  have h2c := hkc.at h2 (by simp)
  have h3c := h3.keep hkc (by simp)
  have h4c := h4.keep hkc (by simp)
  have h5c := h5.keep hkc (by simp)
  have h8c : Keeps (mb :: nb :: q.bl p a) wB wc := h8.trans (hkc.mono (by simp))
  have hBc := hkc.at hB (by simp)
  have KC : Keeps [] w wc := K0.trans hkc
  have H6c := hid (H6.out.keep0 hkc)
  have b2 := hBc.cell 2 rfl
  have d6 := h2c.cell 6 rfl
  obtain ⟨F, hF⟩ : ∃ F : Int, F = (c.words : Int) - (fr % 20 : Nat) := ⟨_, rfl⟩
  have HF := hid hF
  clear HX kk h1 h2 h3 h4 h5 h8 hB hkc K0 H6 hltB hF E1 E2 E3 E3' E4 E5 E6 b0
  by_cases hr : i < (c.act : Int) ∨ (c.words : Int) ≤ i
  · have hr2 : i < (c.act : Int) ∨ (a.n : Int) ≤ i := by have := HP.out.wn; omega
    have c0 := h2c.cell 0 rfl
    have c1 := h2c.cell 1 rfl
    have c2 := h2c.cell 2 rfl
    go_wp2_with fail
    refine (sstore_g_out h1c HP.out.ok.small _ _ hr2).mono ?_
    rintro e w1 ⟨rfl, hk1⟩
    have h21 := hk1.at h2c (by simp)
    clear c0 c1 c2 d6 b2
    have c0 := h21.cell 0 rfl
    have c1 := h21.cell 1 rfl
    have c2 := h21.cell 2 rfl
    have d6 := h21.cell 6 rfl
    have HR := hid hr
    clear hr hr2
    by_cases hi1 : i < (c.act : Int)
    · have t1 : decide (i < (c.act : Int)) = true := by rw [decide_eq_true_eq]; exact hi1
      clear hi1
      go_wp2_with fail
      refine (active_at w1 c HP.out.ok.small).mono ?_
      rintro e w2 ⟨rfl, hk2⟩
      go_wp2_with fail
      go_ret
      exact .inl ⟨rfl, u, S, (H6c.out.keep0 hk1).keep0 hk2, by omega⟩
    · have t1 : decide (i < (c.act : Int)) = false := by rw [decide_eq_false_iff_not]; exact hi1
      have t2 : decide ((c.words : Int) ≤ i) = true := by rw [decide_eq_true_eq]; have := HR.out; omega
      clear hi1
      go_wp2_with fail
      refine (active_at w1 c HP.out.ok.small).mono ?_
      rintro e w2 ⟨rfl, hk2⟩
      have h22 := hk2.at h21 (by simp)
      clear c0 c1 c2 d6
      have c0 := h22.cell 0 rfl
      have c1 := h22.cell 1 rfl
      have c2 := h22.cell 2 rfl
      go_wp2_with fail
      refine (cwords_at w2 c HP.out.ok.small).mono ?_
      rintro e w3 ⟨rfl, hk3⟩
      go_wp2_with fail
      go_ret
      exact .inl ⟨rfl, u, S, ((H6c.out.keep0 hk1).keep0 hk2).keep0 hk3, by omega⟩
  · obtain ⟨ii, rfl⟩ : ∃ ii : Nat, (ii : Int) = i := ⟨i.toNat, by omega⟩
    have hir : c.act ≤ ii ∧ ii < a.n := by have := HP.out.wn; omega
    have hiw : ii < c.words := by omega
    have r1 : decide ((ii : Int) < (c.act : Int)) = false := by rw [decide_eq_false_iff_not]; omega
    have r1' : decide (ii < c.act) = false := by rw [decide_eq_false_iff_not]; omega
    have r2 : decide ((c.words : Int) ≤ (ii : Int)) = false := by rw [decide_eq_false_iff_not]; omega
    have r2' : decide (c.words ≤ ii) = false := by rw [decide_eq_false_iff_not]; omega
    clear hr
    have hmark := HP.out.wn
    have HWN := hid hmark
    have hfu : freshB ((c.words : Int) - (fr % 20 : Nat)) c.words (ii : Int) = decide (((c.words : Int) - (fr % 20 : Nat)) ≤ (ii : Int)) := by
      unfold freshB
      have e : decide ((ii : Int) < (c.words : Int)) = true := by rw [decide_eq_true_eq]; omega
      rw [e, Bool.and_true]
    rw [← HF.out] at hfu h2c
    have HFU := hid hfu
    have c0 := h2c.cell 0 rfl
    clear hmark hfu c0
    cases hfb : freshB F c.words (ii : Int) with
    | true =>
      have q1 : decide ((ii : Int) < F) = false := by rw [HFU.out, decide_eq_true_eq] at hfb; rw [decide_eq_false_iff_not]; omega
      have hst := hid (sstore_g_old (v := v) h1c HP.out.ok HP.out.wn hu ii hir (.inl (by rw [← HF.out]; exact hfb)) K2)
      clear hfb
      go_wp2_with fail
      refine hst.out.mono ?_
      rintro e w1 (⟨rfl, ut, St, hOG, hnowN, hut, hk1⟩ | ⟨rfl, hg1, hk1⟩)
      rotate_left
      · exact ⟨rfl, .inr ⟨rfl, hg1, (KC.mono (by simp)).trans hk1⟩⟩
      have h21 := hk1.at h2c hn3
      clear b2 d6
      have c0 := h21.cell 0 rfl
      have c1 := h21.cell 1 rfl
      have c2 := h21.cell 2 rfl
      have d6 := h21.cell 6 rfl
      go_wp2_with fail
      refine (active_at w1 c HP.out.ok.small).mono ?_
      rintro e w2 ⟨rfl, hk2⟩
      have h22 := hk2.at h21 (by simp)
      clear c0 c1 c2 d6
      have c0 := h22.cell 0 rfl
      have c1 := h22.cell 1 rfl
      have c2 := h22.cell 2 rfl
      go_wp2_with fail
      refine (cwords_at w2 c HP.out.ok.small).mono ?_
      rintro e wt ⟨rfl, hk3⟩
      have hk23 := hk2.trans hk3
      have hMB := hk3.at h22 (by simp)
      have Kt : Keeps (q.bl p a) wc wt := hk1.trans hk23.nos
      have hNB := h3c.keep Kt hn2
      have hWB := h4c.keep Kt hwbq
      have hOI := h5c.keep Kt hIq
      have hKB : Keeps (mb :: nb :: q.bl p a) wB wt := h8c.trans (Kt.mono (fun k _ hk => List.mem_cons_of_mem _ (List.mem_cons_of_mem _ hk)))
      have hDO := Kt.at hBc hBq
      clear c0 c1 c2 h21 h22 h1c h3c h4c h5c h8c hBc
      have c5 := hMB.cell 5 rfl
      have c7 := hMB.cell 7 rfl
      have c8 := hMB.cell 8 rfl
      have hOG := hOG.keep0 hk23
      have hwbB := h6'
      have hwx := h7
      have hMB2 := hMB
      rw [HF.out] at hMB2
      clear hst
      have hjx : ii - c.act < a.n - c.act := by omega
      have hciN := hid hnowN
      obtain ⟨jx, hjxe⟩ : ∃ jx, jx = ii - c.act := ⟨_, rfl⟩
      rw [← hjxe] at hjx
      have hiie : ii = c.act + jx := by omega
      have E7 : IntKind.i64.wrap ((ii : Int) - (c.act : Int)) = (jx : Int) := by rw [IntWalk.i64_in _ (by omega)]; omega
      have E7' : IntKind.i64.wrap (jx : Int) = (jx : Int) := IntWalk.i64_in _ (by omega)
      have hjb3 : (jx : Int) ≤ 16000 := by omega
      have E8 : (ii : Int) - (c.act : Int) = (jx : Int) := by omega
      obtain ⟨d, hd⟩ : ∃ d, d = a.n - c.act := ⟨_, rfl⟩
      have hMB' := hMB2
      have hNB' := hNB
      rw [← hd] at hMB' hNB' hjx
      have HD := hid hd
      have hjb : (jx : Int) < (d : Int) := by omega
      have hjb2 : (0 : Int) ≤ (jx : Int) := by omega
      have HIE := hid hiie
      clear hd hiie hjxe hnowN
      have HX : Hid (∀ w', Keeps [] wt w' → (w'.cell? ⟨mb, 0, none⟩ = some (.int .i64 c.log) ∧ w'.cell? ⟨mb, 1, none⟩ = some (.int .i64 c.roots) ∧ w'.cell? ⟨mb, 2, none⟩ = some (.int .i64 c.space) ∧ w'.cell? ⟨mb, 3, none⟩ = some (.slice (some ⟨nb, 0, none⟩) d ncap) ∧ w'.cell? ⟨w.heap.size, 2, none⟩ = some (.int .u64 v))) := fun w' hk => by
        have h := hk.at hMB' (by simp)
        exact ⟨h.cell 0 rfl, h.cell 1 rfl, h.cell 2 rfl, h.cell 3 rfl, (hk.at hDO (by simp)).cell 2 rfl⟩
      have HX2 : Hid (∀ w' v', Keeps [] wt w' → ((w'.setCell ⟨nb, jx, none⟩ v').cell? ⟨mb, 0, none⟩ = some (.int .i64 c.log) ∧ (w'.setCell ⟨nb, jx, none⟩ v').cell? ⟨mb, 1, none⟩ = some (.int .i64 c.roots) ∧ (w'.setCell ⟨nb, jx, none⟩ v').cell? ⟨mb, 2, none⟩ = some (.int .i64 c.space) ∧ (w'.setCell ⟨nb, jx, none⟩ v').cell? ⟨mb, 3, none⟩ = some (.slice (some ⟨nb, 0, none⟩) d ncap) ∧ (w'.setCell ⟨nb, jx, none⟩ v').cell? ⟨w.heap.size, 2, none⟩ = some (.int .u64 v))) := fun w' v' hk => by
        have h := (hk.at hMB' (by simp)).set_ne (a := ⟨nb, jx, none⟩) (by simpa using hn1.symm) v'
        exact ⟨h.cell 0 rfl, h.cell 1 rfl, h.cell 2 rfl, h.cell 3 rfl, ((hk.at hDO (by simp)).set_ne (a := ⟨nb, jx, none⟩) (by simp; omega) v').cell 2 rfl⟩
      have HY := hid (fun (w' : World) (hk : Keeps [] wt w') => (hNB'.keep hk (by simp)).cell hjx)
      have kk : Keeps [] wt wt.drew := (Keeps.refl _ _).drew
      go_upto_region 37 with fail
      go_region_held3 (fun w' => w'.cell? ⟨mb, 0, none⟩ = some (.int .i64 c.log) ∧ w'.cell? ⟨mb, 1, none⟩ = some (.int .i64 c.roots) ∧ w'.cell? ⟨mb, 2, none⟩ = some (.int .i64 c.space) ∧ w'.cell? ⟨mb, 3, none⟩ = some (.slice (some ⟨nb, 0, none⟩) d ncap) ∧ w'.cell? ⟨w.heap.size, 2, none⟩ = some (.int .u64 v))
        (first | exact HX.out _ kk | exact HX2.out _ _ kk)
        (first
          | (go_at_call 27; refine (active_at _ c HP.out.ok.small).mono ?_; rintro e w' ⟨rfl, hk1⟩; have kk := kk.trans hk1; clear hk1; obtain ⟨y0, g0⟩ := HY.out _ kk; rw [Nat.zero_add] at y0 g0))
      all_goals
        go_wp2_with fail
        go_ret
        exact .inl ⟨rfl, ut, St, do3_end HP.out hOG hMB2 hNB hWB hOI hwbB hwx hKB kk (by rw [← HD.out]; exact hjx) (fun j hj => by rw [hciN.out (c.act + j) (by omega) (by omega), HIE.out]) , hut⟩
    | false =>
      have q1 : decide ((ii : Int) < F) = true := by rw [HFU.out, decide_eq_false_iff_not] at hfb; rw [decide_eq_true_eq]; omega
      have hfw := hfb
      rw [HF.out] at hfw
      have HFW := hid hfw
      clear hfb hfw
      by_cases hpr : HasR m pl ii
      · have hst := hid (sstore_g_old (v := v) h1c HP.out.ok HP.out.wn hu ii hir (.inr hpr) K2)
        have HPR := hid hpr
        clear hpr
        go_wp2_with fail
        refine hst.out.mono ?_
        rintro e w1 (⟨rfl, ut, St, hOG, hnowN, hut, hk1⟩ | ⟨rfl, hg1, hk1⟩)
        rotate_left
        · exact ⟨rfl, .inr ⟨rfl, hg1, (KC.mono (by simp)).trans hk1⟩⟩
        have h21 := hk1.at h2c hn3
        clear b2 d6
        have c0 := h21.cell 0 rfl
        have c1 := h21.cell 1 rfl
        have c2 := h21.cell 2 rfl
        have d6 := h21.cell 6 rfl
        go_wp2_with fail
        refine (active_at w1 c HP.out.ok.small).mono ?_
        rintro e w2 ⟨rfl, hk2⟩
        have h22 := hk2.at h21 (by simp)
        clear c0 c1 c2 d6
        have c0 := h22.cell 0 rfl
        have c1 := h22.cell 1 rfl
        have c2 := h22.cell 2 rfl
        go_wp2_with fail
        refine (cwords_at w2 c HP.out.ok.small).mono ?_
        rintro e wt ⟨rfl, hk3⟩
        have hk23 := hk2.trans hk3
        have hMB := hk3.at h22 (by simp)
        have Kt : Keeps (q.bl p a) wc wt := hk1.trans hk23.nos
        have hNB := h3c.keep Kt hn2
        have hWB := h4c.keep Kt hwbq
        have hOI := h5c.keep Kt hIq
        have hKB : Keeps (mb :: nb :: q.bl p a) wB wt := h8c.trans (Kt.mono (fun k _ hk => List.mem_cons_of_mem _ (List.mem_cons_of_mem _ hk)))
        have hDO := Kt.at hBc hBq
        clear c0 c1 c2 h21 h22 h1c h3c h4c h5c h8c hBc
        have c5 := hMB.cell 5 rfl
        have c7 := hMB.cell 7 rfl
        have c8 := hMB.cell 8 rfl
        have hOG := hOG.keep0 hk23
        go_wp2_with fail
        refine (contains_yes wt x m ci pl wB.heap.size ii hOI hm1000 HPR.out).mono ?_
        rintro e w4 ⟨rfl, rfl⟩
        clear c5 c7 c8
        have hwbB := h6'
        have hwx := h7
        have hMB2 := hMB
        rw [HF.out] at hMB2
        clear hst
        have hjx : ii - c.act < a.n - c.act := by omega
        have hciN := hid hnowN
        obtain ⟨jx, hjxe⟩ : ∃ jx, jx = ii - c.act := ⟨_, rfl⟩
        rw [← hjxe] at hjx
        have hiie : ii = c.act + jx := by omega
        have E7 : IntKind.i64.wrap ((ii : Int) - (c.act : Int)) = (jx : Int) := by rw [IntWalk.i64_in _ (by omega)]; omega
        have E7' : IntKind.i64.wrap (jx : Int) = (jx : Int) := IntWalk.i64_in _ (by omega)
        have hjb3 : (jx : Int) ≤ 16000 := by omega
        have E8 : (ii : Int) - (c.act : Int) = (jx : Int) := by omega
        obtain ⟨d, hd⟩ : ∃ d, d = a.n - c.act := ⟨_, rfl⟩
        have hMB' := hMB2
        have hNB' := hNB
        rw [← hd] at hMB' hNB' hjx
        have HD := hid hd
        have hjb : (jx : Int) < (d : Int) := by omega
        have hjb2 : (0 : Int) ≤ (jx : Int) := by omega
        have HIE := hid hiie
        clear hd hiie hjxe hnowN
        have HX : Hid (∀ w', Keeps [] wt w' → (w'.cell? ⟨mb, 0, none⟩ = some (.int .i64 c.log) ∧ w'.cell? ⟨mb, 1, none⟩ = some (.int .i64 c.roots) ∧ w'.cell? ⟨mb, 2, none⟩ = some (.int .i64 c.space) ∧ w'.cell? ⟨mb, 3, none⟩ = some (.slice (some ⟨nb, 0, none⟩) d ncap) ∧ w'.cell? ⟨w.heap.size, 2, none⟩ = some (.int .u64 v))) := fun w' hk => by
          have h := hk.at hMB' (by simp)
          exact ⟨h.cell 0 rfl, h.cell 1 rfl, h.cell 2 rfl, h.cell 3 rfl, (hk.at hDO (by simp)).cell 2 rfl⟩
        have HX2 : Hid (∀ w' v', Keeps [] wt w' → ((w'.setCell ⟨nb, jx, none⟩ v').cell? ⟨mb, 0, none⟩ = some (.int .i64 c.log) ∧ (w'.setCell ⟨nb, jx, none⟩ v').cell? ⟨mb, 1, none⟩ = some (.int .i64 c.roots) ∧ (w'.setCell ⟨nb, jx, none⟩ v').cell? ⟨mb, 2, none⟩ = some (.int .i64 c.space) ∧ (w'.setCell ⟨nb, jx, none⟩ v').cell? ⟨mb, 3, none⟩ = some (.slice (some ⟨nb, 0, none⟩) d ncap) ∧ (w'.setCell ⟨nb, jx, none⟩ v').cell? ⟨w.heap.size, 2, none⟩ = some (.int .u64 v))) := fun w' v' hk => by
          have h := (hk.at hMB' (by simp)).set_ne (a := ⟨nb, jx, none⟩) (by simpa using hn1.symm) v'
          exact ⟨h.cell 0 rfl, h.cell 1 rfl, h.cell 2 rfl, h.cell 3 rfl, ((hk.at hDO (by simp)).set_ne (a := ⟨nb, jx, none⟩) (by simp; omega) v').cell 2 rfl⟩
        have HY := hid (fun (w' : World) (hk : Keeps [] wt w') => (hNB'.keep hk (by simp)).cell hjx)
        have kk : Keeps [] wt wt.drew := (Keeps.refl _ _).drew
        go_upto_region 37 with fail
        go_region_held3 (fun w' => w'.cell? ⟨mb, 0, none⟩ = some (.int .i64 c.log) ∧ w'.cell? ⟨mb, 1, none⟩ = some (.int .i64 c.roots) ∧ w'.cell? ⟨mb, 2, none⟩ = some (.int .i64 c.space) ∧ w'.cell? ⟨mb, 3, none⟩ = some (.slice (some ⟨nb, 0, none⟩) d ncap) ∧ w'.cell? ⟨w.heap.size, 2, none⟩ = some (.int .u64 v))
          (first | exact HX.out _ kk | exact HX2.out _ _ kk)
          (first
            | (go_at_call 27; refine (active_at _ c HP.out.ok.small).mono ?_; rintro e w' ⟨rfl, hk1⟩; have kk := kk.trans hk1; clear hk1; obtain ⟨y0, g0⟩ := HY.out _ kk; rw [Nat.zero_add] at y0 g0))
        all_goals
          go_wp2_with fail
          go_ret
          exact .inl ⟨rfl, ut, St, do3_end HP.out hOG hMB2 hNB hWB hOI hwbB hwx hKB kk (by rw [← HD.out]; exact hjx) (fun j hj => by rw [hciN.out (c.act + j) (by omega) (by omega), HIE.out]) , hut⟩
      · have HPR := hid hpr
        clear hpr
        by_cases hml : m = c.log
        · have hst := hid (sstore_g_full h1c HP.out.ok.small ii v hir HFW.out HPR.out hml)
          have s1 : ((m : Int) == (c.log : Int)) = true := by rw [beq_iff_eq]; omega
          have s2' : (m == c.log) = true := by rw [beq_iff_eq]; exact hml
          clear hml
          go_wp2_with fail
          refine hst.out.mono ?_
          rintro e w1 ⟨rfl, hk1⟩
          have h21 := hk1.at h2c (by simp)
          clear b2 d6
          have c0 := h21.cell 0 rfl
          have c1 := h21.cell 1 rfl
          have c2 := h21.cell 2 rfl
          have d6 := h21.cell 6 rfl
          go_wp2_with fail
          refine (active_at w1 c HP.out.ok.small).mono ?_
          rintro e w2 ⟨rfl, hk2⟩
          have h22 := hk2.at h21 (by simp)
          clear c0 c1 c2 d6
          have c0 := h22.cell 0 rfl
          have c1 := h22.cell 1 rfl
          have c2 := h22.cell 2 rfl
          go_wp2_with fail
          refine (cwords_at w2 c HP.out.ok.small).mono ?_
          rintro e wt ⟨rfl, hk3⟩
          have hk23 := hk2.trans hk3
          have hMB := hk3.at h22 (by simp)
          have Kt : Keeps (q.bl p a) wc wt := hk1.nos.trans hk23.nos
          have hNB := h3c.keep Kt hn2
          have hWB := h4c.keep Kt hwbq
          have hOI := h5c.keep Kt hIq
          have hKB : Keeps (mb :: nb :: q.bl p a) wB wt := h8c.trans (Kt.mono (fun k _ hk => List.mem_cons_of_mem _ (List.mem_cons_of_mem _ hk)))
          have hDO := Kt.at hBc hBq
          clear c0 c1 c2 h21 h22 h1c h3c h4c h5c h8c hBc
          have c5 := hMB.cell 5 rfl
          have c7 := hMB.cell 7 rfl
          have c8 := hMB.cell 8 rfl
          go_wp2_with fail
          refine (contains_no wt x m ci pl wB.heap.size ii hOI hm1000 HPR.out).mono ?_
          rintro e w4 ⟨rfl, rfl⟩
          have kk0 : Keeps [] wt wt.drew := (Keeps.refl _ _).drew
          have HL : Hid (∀ w', Keeps [] wt w' → (w'.cell? ⟨mb, 0, none⟩ = some (.int .i64 c.log) ∧ w'.cell? ⟨mb, 5, none⟩ = some (.slice x m ci))) := fun w' hk => ⟨(hk.at hMB (by simp)).cell 0 rfl, (hk.at hMB (by simp)).cell 5 rfl⟩
          go_upto_region 34 with fail
          go_region_held3 (fun w' => w'.cell? ⟨mb, 0, none⟩ = some (.int .i64 c.log) ∧ w'.cell? ⟨mb, 5, none⟩ = some (.slice x m ci))
            (exact HL.out _ kk0)
            (fail)
          all_goals
            go_wp2_with fail
            go_ret
            exact .inl ⟨rfl, u, S, ((H6c.out.keep0 hk1).keep0 hk23).keep0 kk0, by omega⟩
        · have hmlt : m < c.log := by have := h1c.le; omega
          have hst := hid (sstore_g_new (v := v) h1c HP.out.ok HP.out.wn hu hrb ii hir HFW.out HPR.out hmlt K2)
          have s1 : ((m : Int) == (c.log : Int)) = false := by rw [beq_eq_false_iff_ne]; omega
          have s2' : (m == c.log) = false := by rw [beq_eq_false_iff_ne]; omega
          clear hml
          go_wp2_with fail
          refine hst.out.mono ?_
          rintro e w1 (⟨rfl, ut, St, hOG, hnowN, hut, hk1⟩ | ⟨rfl, hg1, hk1⟩)
          rotate_left
          · exact ⟨rfl, .inr ⟨rfl, hg1, (KC.mono (by simp)).trans hk1⟩⟩
          have h21 := hk1.at h2c hn3
          clear b2 d6
          have c0 := h21.cell 0 rfl
          have c1 := h21.cell 1 rfl
          have c2 := h21.cell 2 rfl
          have d6 := h21.cell 6 rfl
          go_wp2_with fail
          refine (active_at w1 c HP.out.ok.small).mono ?_
          rintro e w2 ⟨rfl, hk2⟩
          have h22 := hk2.at h21 (by simp)
          clear c0 c1 c2 d6
          have c0 := h22.cell 0 rfl
          have c1 := h22.cell 1 rfl
          have c2 := h22.cell 2 rfl
          go_wp2_with fail
          refine (cwords_at w2 c HP.out.ok.small).mono ?_
          rintro e wt ⟨rfl, hk3⟩
          have hk23 := hk2.trans hk3
          have hMB := hk3.at h22 (by simp)
          have Kt : Keeps (q.bl p a) wc wt := hk1.trans hk23.nos
          have hNB := h3c.keep Kt hn2
          have hWB := h4c.keep Kt hwbq
          have hOI := h5c.keep Kt hIq
          have hKB : Keeps (mb :: nb :: q.bl p a) wB wt := h8c.trans (Kt.mono (fun k _ hk => List.mem_cons_of_mem _ (List.mem_cons_of_mem _ hk)))
          have hDO := Kt.at hBc hBq
          clear c0 c1 c2 h21 h22 h1c h3c h4c h5c h8c hBc
          have c5 := hMB.cell 5 rfl
          have c7 := hMB.cell 7 rfl
          have c8 := hMB.cell 8 rfl
          have hOG := hOG.keep0 hk23
          go_wp2_with fail
          refine (contains_no wt x m ci pl wB.heap.size ii hOI hm1000 HPR.out).mono ?_
          rintro e w4 ⟨rfl, rfl⟩
          have kk0 : Keeps [] wt wt.drew := (Keeps.refl _ _).drew
          have HL : Hid (∀ w', Keeps [] wt w' → (w'.cell? ⟨mb, 0, none⟩ = some (.int .i64 c.log) ∧ w'.cell? ⟨mb, 5, none⟩ = some (.slice x m ci))) := fun w' hk => ⟨(hk.at hMB (by simp)).cell 0 rfl, (hk.at hMB (by simp)).cell 5 rfl⟩
          go_upto_region 34 with fail
          go_region_held3 (fun w' => w'.cell? ⟨mb, 0, none⟩ = some (.int .i64 c.log) ∧ w'.cell? ⟨mb, 5, none⟩ = some (.slice x m ci))
            (exact HL.out _ kk0)
            (fail)
          have hMB3 := kk0.at hMB (by simp)
          have hNB3 := hNB.keep kk0 (by simp)
          have hWB3 := hWB.keep kk0 (by simp)
          have hOI3 := hOI.keep kk0 (by simp)
          have hKB3 := hKB.trans (kk0.mono (by simp))
          have hDO3 := hDO.drew
          have hOG3 := hOG.keep0 kk0
          obtain ⟨wu, hwu⟩ : ∃ wu, wu = wt.drew := ⟨_, rfl⟩
          rw [← hwu] at hMB3 hNB3 hWB3 hOI3 hKB3 hDO3 hOG3 ⊢
          clear hMB hNB hWB hOI hKB hDO hOG c5 c7 c8 HL kk0 hwu hst Kt hk1 hk23 hk2 hk3 KC h2c
          have hm1 : m ≤ 1000 := by omega
          have hBu : wB.heap.size ≤ wu.heap.size := hKB3.size
          have c5 := hMB3.cell 5 rfl
          have kA : Keeps [] wu (wu.alloc (.cells #[.int .i64 (ii : Nat)] 3)) := (Keeps.refl _ _).alloc _
          have hOI4 := hOI3.keep kA (by simp)
          have hcI := (At.new wu (.cells #[.int .i64 (ii : Nat)] 3)).cell 0 rfl
          have hB2' : wB.heap.size ≤ (wu.alloc (.cells #[.int .i64 (ii : Nat)] 3)).heap.size := Nat.le_trans hBu kA.size
          have hIwu : ∀ b ∈ blkL x, wB.heap.size ≤ b := fun b hb => (hOI3.ge b hb).1
          have hmbX : mb ∉ blkL x := fun hm => by have := hIwu _ hm; omega
          have hnbX : nb ∉ blkL x := fun hm => by have := hIwu _ hm; omega
          have hwuX : wB.heap.size ≤ w.heap.size := hwsz
          have hDOX : w.heap.size ∉ blkL x := hdoX
          go_wp2_with (at_builtin; refine appI_list rfl _ _ rfl wB.heap.size x ci m pl rfl hOI4 _ _ ii rfl hcI hm1 hB2' ?_; intro g cap w7 hO7 hk7 hg7; have hMB7 := hk7.at (hMB3.alloc (.cells #[.int .i64 (ii : Nat)] 3)) hmbX; have c57 := hMB7.cell 5 rfl; have f57 := hMB7.free 5)
          have kA3 : Keeps (mb :: nb :: q.bl p a) wB w7 := (hKB3.trans (kA.mono (by simp))).new hk7 (fun b hb => .inr (hIwu b hb))
          have hgB : wB.heap.size ≤ g := (hO7.ge g (by simp [blkL])).1
          have hwbl := (hWB3.keep kA (by simp)).lt
          have hwbg : wb ≠ g := fun e => by
            rcases hg7 with h | h
            · exact h7 (by rw [h]; simp [e])
            · omega
          have KS5 : Keeps [mb] w7 (w7.setCell ⟨mb, 5, none⟩ (.slice (some ⟨g, 0, none⟩) (m + 1) cap)) := (Keeps.refl _ _).set (.inl (by simp)) _
          have hOG := ((hOG3.keep0 kA).keep hk7 hIq2).keep KS5 (fun b hb hm => by
            simp only [List.mem_cons, List.not_mem_nil, or_false] at hm
            subst hm
            exact HP.out.sm hb)
          have hMB2 := hMB7.set 5 (.slice (some ⟨g, 0, none⟩) (m + 1) cap)
          have hNB := ((hNB3.keep kA (by simp)).keep hk7 hnbX).keep KS5 (by simpa using hn1)
          have hWB := ((hWB3.keep kA (by simp)).keep hk7 h7).keep KS5 (by simp; omega)
          have hOI := hO7.keep KS5 (by simp [blkL]; omega)
          have hKB := kA3.trans (KS5.mono (fun k _ hk => by simp at hk; simp [hk]))
          have hDO := (hk7.at (hDO3.alloc (.cells #[.int .i64 (ii : Nat)] 3)) hdoX).set_ne (a := ⟨mb, 5, none⟩) (by simp; omega) (.slice (some ⟨g, 0, none⟩) (m + 1) cap)
          have hMB2 : At (w7.setCell ⟨mb, 5, none⟩ (.slice (some ⟨g, 0, none⟩) (m + 1) cap)) mb (mO c (.slice (some ⟨nb, 0, none⟩) (a.n - c.act) ncap) (.slice (some ⟨wb, 0, none⟩) (a.n - c.act) wcap) (.slice (some ⟨g, 0, none⟩) (m + 1) cap) true F c.words) := by simpa using hMB2
          rw [HF.out] at hMB2
          have hwbB := h6'
          have hwx : wb ∉ blkL (some (⟨g, 0, none⟩ : Addr)) := by simp [blkL]; exact hwbg
          obtain ⟨wt, hwt⟩ : ∃ wx, wx = w7.setCell ⟨mb, 5, none⟩ (.slice (some ⟨g, 0, none⟩) (m + 1) cap) := ⟨_, rfl⟩
          rw [← hwt] at hOG hMB2 hNB hWB hOI hKB hDO ⊢
          clear hwt KS5 kA3 hMB7 hO7 hk7 hg7 kA hOG3 hNB3 hWB3 hOI3 hOI4 hKB3 hDO3 hMB3 c5 c57 f57 hcI hB2' hBu hwbl
          have hjx : ii - c.act < a.n - c.act := by omega
          have hciN := hid hnowN
          obtain ⟨jx, hjxe⟩ : ∃ jx, jx = ii - c.act := ⟨_, rfl⟩
          rw [← hjxe] at hjx
          have hiie : ii = c.act + jx := by omega
          have E7 : IntKind.i64.wrap ((ii : Int) - (c.act : Int)) = (jx : Int) := by rw [IntWalk.i64_in _ (by omega)]; omega
          have E7' : IntKind.i64.wrap (jx : Int) = (jx : Int) := IntWalk.i64_in _ (by omega)
          have hjb3 : (jx : Int) ≤ 16000 := by omega
          have E8 : (ii : Int) - (c.act : Int) = (jx : Int) := by omega
          obtain ⟨d, hd⟩ : ∃ d, d = a.n - c.act := ⟨_, rfl⟩
          have hMB' := hMB2
          have hNB' := hNB
          rw [← hd] at hMB' hNB' hjx
          have HD := hid hd
          have hjb : (jx : Int) < (d : Int) := by omega
          have hjb2 : (0 : Int) ≤ (jx : Int) := by omega
          have HIE := hid hiie
          clear hd hiie hjxe hnowN
          have HX : Hid (∀ w', Keeps [] wt w' → (w'.cell? ⟨mb, 0, none⟩ = some (.int .i64 c.log) ∧ w'.cell? ⟨mb, 1, none⟩ = some (.int .i64 c.roots) ∧ w'.cell? ⟨mb, 2, none⟩ = some (.int .i64 c.space) ∧ w'.cell? ⟨mb, 3, none⟩ = some (.slice (some ⟨nb, 0, none⟩) d ncap) ∧ w'.cell? ⟨w.heap.size, 2, none⟩ = some (.int .u64 v))) := fun w' hk => by
            have h := hk.at hMB' (by simp)
            exact ⟨h.cell 0 rfl, h.cell 1 rfl, h.cell 2 rfl, h.cell 3 rfl, (hk.at hDO (by simp)).cell 2 rfl⟩
          have HX2 : Hid (∀ w' v', Keeps [] wt w' → ((w'.setCell ⟨nb, jx, none⟩ v').cell? ⟨mb, 0, none⟩ = some (.int .i64 c.log) ∧ (w'.setCell ⟨nb, jx, none⟩ v').cell? ⟨mb, 1, none⟩ = some (.int .i64 c.roots) ∧ (w'.setCell ⟨nb, jx, none⟩ v').cell? ⟨mb, 2, none⟩ = some (.int .i64 c.space) ∧ (w'.setCell ⟨nb, jx, none⟩ v').cell? ⟨mb, 3, none⟩ = some (.slice (some ⟨nb, 0, none⟩) d ncap) ∧ (w'.setCell ⟨nb, jx, none⟩ v').cell? ⟨w.heap.size, 2, none⟩ = some (.int .u64 v))) := fun w' v' hk => by
            have h := (hk.at hMB' (by simp)).set_ne (a := ⟨nb, jx, none⟩) (by simpa using hn1.symm) v'
            exact ⟨h.cell 0 rfl, h.cell 1 rfl, h.cell 2 rfl, h.cell 3 rfl, ((hk.at hDO (by simp)).set_ne (a := ⟨nb, jx, none⟩) (by simp; omega) v').cell 2 rfl⟩
          have HY := hid (fun (w' : World) (hk : Keeps [] wt w') => (hNB'.keep hk (by simp)).cell hjx)
          have kk : Keeps [] wt wt.drew := (Keeps.refl _ _).drew
          go_upto_region 37 with fail
          go_region_held3 (fun w' => w'.cell? ⟨mb, 0, none⟩ = some (.int .i64 c.log) ∧ w'.cell? ⟨mb, 1, none⟩ = some (.int .i64 c.roots) ∧ w'.cell? ⟨mb, 2, none⟩ = some (.int .i64 c.space) ∧ w'.cell? ⟨mb, 3, none⟩ = some (.slice (some ⟨nb, 0, none⟩) d ncap) ∧ w'.cell? ⟨w.heap.size, 2, none⟩ = some (.int .u64 v))
            (first | exact HX.out _ kk | exact HX2.out _ _ kk)
            (first
              | (go_at_call 27; refine (active_at _ c HP.out.ok.small).mono ?_; rintro e w' ⟨rfl, hk1⟩; have kk := kk.trans hk1; clear hk1; obtain ⟨y0, g0⟩ := HY.out _ kk; rw [Nat.zero_add] at y0 g0))
          all_goals
            go_wp2_with fail
            go_ret
            exact .inl ⟨rfl, ut, St, do3_end HP.out hOG hMB2 hNB hWB hOI hwbB hwx hKB kk (by rw [← HD.out]; exact hjx) (fun j hj => by rw [hciN.out (c.act + j) (by omega) (by omega), HIE.out]) , hut⟩
end

end Go.Proofs.YtkoflpcpopmkkaaGreat
