/- A section and its definition; Commit and Abort of both. -/
import Derived.Test.YtkoflpcpopmkkaaGreatMdoB
namespace Go.Proofs.YtkoflpcpopmkkaaGreat
open Go.RowKit Go.OpenShut

section
variable {p : Nat} {a : DA} {l u : Int} {q : Sc} {c : Cfg} {mb nb ncap : Nat} {wB : World} {fr : Nat} {S : DS} {r : Nat} {K : Nat → Int} {w w' : World}

set_option maxRecDepth 100000 in
set_option maxHeartbeats 4000000 in
/-- Commit, none being open. -/
theorem do1_shut (h : MShut p a l u q c mb nb ncap wB S r w) (kd : Nat) (hkd : kd ≤ 255) (h0 : kd % 8 = 1) (at_ v : Int) :
    Calls Tryz.prog 17 #[ptr mb, ptr q.b, doV kd at_ v, .int .u8 fr] w fun e w' => e = .returned (.bool true) ∧ MShut p a l u q c mb nb ncap wB S r w' := by
  have hkk : (kd : Int) ≤ 255 := by omega
  have e1 : (kd : Int) % 8 = 1 := by omega
  obtain ⟨w0, hw0⟩ : ∃ w0, w0 = w.alloc (doO kd at_ v) := ⟨_, rfl⟩
  have h6 : MShut p a l u q c mb nb ncap wB S r w0 := by rw [hw0]; exact h.keep0 ((Keeps.refl _ _).alloc _)
  have hB := At.new w (doO kd at_ v)
  rw [← hw0] at hB
  have b0 := hB.cell 0 rfl
  have H6 := hid h6
  clear h
  obtain ⟨x1, l1, c1, x2, l2, c2, f, t, h1, h2, h3, h4⟩ := h6
  have d6 := h2.cell 6 rfl
  go_enter Tryz.func17, Tryz.ntmps17
  go_upto_region 1 with fail
  rw [← hw0]
  clear hw0
  go_wp2_with fail
  refine (commit_g_no h1).mono ?_
  rintro e w1 ⟨rfl, rfl⟩
  go_wp2_with fail
  go_ret
  exact ⟨rfl, H6.out⟩

set_option maxRecDepth 100000 in
set_option maxHeartbeats 4000000 in
/-- Abort, none being open. -/
theorem do2_shut (h : MShut p a l u q c mb nb ncap wB S r w) (kd : Nat) (hkd : kd ≤ 255) (h0 : kd % 8 = 2) (at_ v : Int) :
    Calls Tryz.prog 17 #[ptr mb, ptr q.b, doV kd at_ v, .int .u8 fr] w fun e w' => e = .returned (.bool true) ∧ MShut p a l u q c mb nb ncap wB S r w' := by
  have hkk : (kd : Int) ≤ 255 := by omega
  have e1 : (kd : Int) % 8 = 2 := by omega
  obtain ⟨w0, hw0⟩ : ∃ w0, w0 = w.alloc (doO kd at_ v) := ⟨_, rfl⟩
  have h6 : MShut p a l u q c mb nb ncap wB S r w0 := by rw [hw0]; exact h.keep0 ((Keeps.refl _ _).alloc _)
  have hB := At.new w (doO kd at_ v)
  rw [← hw0] at hB
  have b0 := hB.cell 0 rfl
  have H6 := hid h6
  clear h
  obtain ⟨x1, l1, c1, x2, l2, c2, f, t, h1, h2, h3, h4⟩ := h6
  have d6 := h2.cell 6 rfl
  go_enter Tryz.func17, Tryz.ntmps17
  go_upto_region 1 with fail
  rw [← hw0]
  clear hw0
  go_wp2_with fail
  refine (abort_g_no h1).mono ?_
  rintro e w1 ⟨rfl, rfl⟩
  go_wp2_with fail
  go_ret
  exact ⟨rfl, H6.out⟩

theorem set_mb {T : List Nat} {mb i : Nat} {v : Value} (w : World) (h : mb ∈ T) : Keeps T w (w.setCell ⟨mb, i, none⟩ v) := (Keeps.refl _ _).set (.inl h) _

set_option maxRecDepth 100000 in
set_option maxHeartbeats 4000000 in
/-- Commit of an open one. -/
theorem do1_open (hp : MSep p a q c mb nb wB) (h : MOpen p a l u q c mb nb ncap wB fr S r K w) (hu : u < 1000000) (kd : Nat) (hkd : kd ≤ 255) (h0 : kd % 8 = 1) (at_ v : Int) :
    Calls Tryz.prog 17 #[ptr mb, ptr q.b, doV kd at_ v, .int .u8 fr] w fun e w' => (e = .returned (.bool true) ∧ ∃ u' S' r', MShut p a l u' q c mb nb ncap wB S' r' w' ∧ r' ≤ r + 1 ∧ (∀ j, c.act ≤ j → j < a.n → S'.now j = S.now j) ∧ u' ≤ u + 3000) ∨ Gone p a l c r ((c.words : Int) - (fr % 20 : Nat)) c.words K S.now (q.bl p a) w e w' := by
  have hkk : (kd : Int) ≤ 255 := by omega
  have e1 : (kd : Int) % 8 = 1 := by omega
  have HP := hid hp
  obtain ⟨w0, hw0⟩ : ∃ w0, w0 = w.alloc (doO kd at_ v) := ⟨_, rfl⟩
  have h6 : MOpen p a l u q c mb nb ncap wB fr S r K w0 := by rw [hw0]; exact h.keep0 ((Keeps.refl _ _).alloc _)
  have K0 : Keeps [] w w0 := by rw [hw0]; exact (Keeps.refl _ _).alloc _
  have hB := At.new w (doO kd at_ v)
  rw [← hw0] at hB
  have b0 := hB.cell 0 rfl
  have hci := c_in hp.ok hp.wn
  clear hp h
  obtain ⟨m, pl, wb, wcap, x, ci, h1, h2, h3, h4, h5, h6', h7, h8⟩ := h6
  obtain ⟨hn1, hn2, hn3, hn4, hn5⟩ := HP.out.nb_ne
  go_enter Tryz.func17, Tryz.ntmps17
  go_upto_region 1 with fail
  rw [← hw0]
  clear hw0
  go_wp2_with fail
  refine (commit_g h1 HP.out.ok HP.out.wn hu).mono ?_
  rintro e w1 (⟨rfl, u', S', hS, hnow, hu', hk1⟩ | ⟨rfl, hg1, hk1⟩)
  rotate_left
  · exact ⟨rfl, .inr ⟨rfl, hg1, (K0.mono (by simp)).trans hk1⟩⟩
  have h21 := hk1.at h2 hn3
  have h31 := hid ((h3.keep hk1 hn2).congr (f' := fun i => S'.now (c.act + i)) (fun i hi => (hnow _ (by omega) (by omega)).symm))
  have h81 : Keeps (mb :: nb :: q.bl p a) wB w1 := h8.trans (hk1.mono (fun k _ hk => List.mem_cons_of_mem _ (List.mem_cons_of_mem _ hk)))
  have HNW := hid hnow
  have d6 := h21.cell 6 rfl
  have f6 := h21.free 6
  have hr' : rS m r ≤ r + 1 := by unfold rS; split <;> omega
  clear h1 h2 h3 h4 h5 h7 h8 hB b0 hk1 K0 hnow
  go_wp2_with fail
  go_ret
  have KS := set_mb (T := [mb]) (mb := mb) (i := 6) (v := .bool false) w1 (by simp)
  refine .inl ⟨rfl, u', S', _, ⟨_, _, _, _, _, _, _, _, hS.keep KS (fun b hb hm => ?_), by simpa using h21.set 6 (.bool false), h31.out.keep KS (by simpa using hn1), h81.trans (KS.mono (fun k _ hk => by simp at hk; simp [hk]))⟩, hr', HNW.out, hu'⟩
  simp only [List.mem_cons, List.not_mem_nil, or_false] at hm
  subst hm
  exact HP.out.sm hb

/-- What is now, while it is taken back. -/
def backF (c : Cfg) (fr : Nat) (S K : Nat → Int) (k i : Nat) : Int := if i < k ∧ freshB ((c.words : Int) - (fr % 20 : Nat)) c.words ((c.act + i : Nat) : Int) = false then K (c.act + i) else S (c.act + i)

set_option maxRecDepth 100000 in
set_option maxHeartbeats 8000000 in
/-- Abort of an open one. -/
theorem do2_open (hp : MSep p a q c mb nb wB) (h : MOpen p a l u q c mb nb ncap wB fr S r K w) (hu : u < 1000000) (kd : Nat) (hkd : kd ≤ 255) (h0 : kd % 8 = 2) (at_ v : Int) (K2 : Nat → Int) :
    Calls Tryz.prog 17 #[ptr mb, ptr q.b, doV kd at_ v, .int .u8 fr] w fun e w' => (e = .returned (.bool true) ∧ ∃ u' S' r', MShut p a l u' q c mb nb ncap wB S' r' w' ∧ r' ≤ r + 1 ∧ (∀ j, c.act ≤ j → j < a.n → S'.now j = if freshB ((c.words : Int) - (fr % 20 : Nat)) c.words j = true then S.now j else K j) ∧ u' ≤ u + 3000) ∨ Gone p a l c r ((c.words : Int) - (fr % 20 : Nat)) c.words K K2 (q.bl p a) w e w' := by
  have hkk : (kd : Int) ≤ 255 := by omega
  have e1 : (kd : Int) % 8 = 2 := by omega
  have HP := hid hp
  obtain ⟨w0, hw0⟩ : ∃ w0, w0 = w.alloc (doO kd at_ v) := ⟨_, rfl⟩
  have h6 : MOpen p a l u q c mb nb ncap wB fr S r K w0 := by rw [hw0]; exact h.keep0 ((Keeps.refl _ _).alloc _)
  have K0 : Keeps [] w w0 := by rw [hw0]; exact (Keeps.refl _ _).alloc _
  have hB := At.new w (doO kd at_ v)
  rw [← hw0] at hB
  have b0 := hB.cell 0 rfl
  have hci := c_in hp.ok hp.wn
  clear hp h
  obtain ⟨m, pl, wb, wcap, x, ci, h1, h2, h3, h4, h5, h6', h7, h8⟩ := h6
  obtain ⟨hn1, hn2, hn3, hn4, hn5⟩ := HP.out.nb_ne
  go_enter Tryz.func17, Tryz.ntmps17
  go_upto_region 1 with fail
  rw [← hw0]
  clear hw0
  go_wp2_with fail
  refine (abort_g h1 HP.out.ok HP.out.wn hu K2).mono ?_
  rintro e w1 (⟨rfl, u', S', hS, hnow, hu', hk1⟩ | ⟨rfl, hg1, hk1⟩)
  rotate_left
  · exact ⟨rfl, .inr ⟨rfl, hg1, (K0.mono (by simp)).trans hk1⟩⟩
  have h21 := hk1.at h2 hn3
  have h31 := h3.keep hk1 hn2
  have hltB := HP.out.lt
  have hwbn : wb ∉ q.bl p a := fun hm => by have := hltB wb (List.mem_cons_of_mem _ (List.mem_cons_of_mem _ (List.mem_cons_of_mem _ hm))); omega
  have h41 := h4.keep hk1 hwbn
  have h81 : Keeps (mb :: nb :: q.bl p a) wB w1 := h8.trans (hk1.mono (fun k _ hk => List.mem_cons_of_mem _ (List.mem_cons_of_mem _ hk)))
  have HNW := hid hnow
  have hr' : rS m r ≤ r + 1 := by unfold rS; split <;> omega
  have hmbB := hltB mb (by simp)
  have hnbB := hltB nb (by simp)
  have hd0 : a.n - c.act ≤ 15000 := by omega
  obtain ⟨d, hd⟩ : ∃ d, d = a.n - c.act := ⟨_, rfl⟩
  have hda : c.act + d = a.n := by omega
  have hdb : (d : Int) ≤ 15000 := by omega
  have hai : (c.act : Int) ≤ 823 := by have := act_le HP.out.ok.small; omega
  rw [← hd] at h21 h31 h41 hd0
  obtain ⟨F, hF⟩ : ∃ F : Int, F = (c.words : Int) - (fr % 20 : Nat) := ⟨_, rfl⟩
  rw [← hF] at h21
  have HFE := hid hF
  clear h1 h2 h3 h4 h5 h7 h8 hB b0 hk1 K0 hnow hltB hci hF
  have d6 := h21.cell 6 rfl
  have f6 := h21.free 6
  have d1 := (h21.set 6 (.bool false)).cell 3 rfl
  have h22 := h21.set 6 (.bool false)
  have KS := set_mb (T := [mb]) (mb := mb) (i := 6) (v := .bool false) w1 (by simp)
  have hS2 := hS.keep KS (fun b hb hm => by
    simp only [List.mem_cons, List.not_mem_nil, or_false] at hm
    subst hm
    exact HP.out.sm hb)
  have h32 := h31.keep KS (by simpa using hn1)
  have h42 := h41.keep KS (by simp; omega)
  have h82 := h81.trans (KS.mono (fun k _ hk => by simp at hk; simp [hk]))
  go_upto_region 20 with fail
  obtain ⟨w2, hw2⟩ : ∃ w2, w2 = w1.setCell ⟨mb, 6, none⟩ (.bool false) := ⟨_, rfl⟩
  rw [← hw2] at h22 hS2 h32 h42 h82 ⊢
  clear hw2 KS h21 h31 h41 h81 hS d6 f6 d1
  go_loopg [95] d (fun rr sl wr => ∃ i : Nat, i + rr = d ∧ sl = .int .i64 i ∧ OwnAt wr nb 0 d (backF c fr S.now K i) ∧ Keeps [nb] w2 wr)
  case atStart => exact ⟨0, by omega, rfl, h32.congr (fun i _ => by unfold backF; rw [if_neg (by omega)]), Keeps.refl _ _⟩
  case round =>
    obtain ⟨i, hi, rfl, hO, hK⟩ := hrel
    have h2r := hK.at h22 (by simp; omega)
    have h4r := h42.keep hK (by simp; omega)
    by_cases hlt : i < d
    · have c0 := h2r.cell 0 rfl
      have c1 := h2r.cell 1 rfl
      have c2 := h2r.cell 2 rfl
      have hii : (i : Int) ≤ 15000 := by omega
      have ei : (c.act : Int) + (i : Int) = ((c.act + i : Nat) : Int) := by omega
      obtain ⟨k, hk⟩ : ∃ k, k = c.act + i := ⟨_, rfl⟩
      rw [← hk] at ei
      have hkb : (k : Int) ≤ 16000 := by omega
      have HK := hid (And.intro hk hi)
      clear hk hi
      go_wp2_with fail
      refine (active_at wr c HP.out.ok.small).mono ?_
      rintro e w3 ⟨rfl, hk3⟩
      have h2s := hk3.at h2r (by simp)
      have hOs := hO.keep hk3 (by simp)
      have h4s := h4r.keep hk3 (by simp)
      have K3 := hK.trans (hk3.mono (by simp))
      have HO3 := hid hOs
      clear c0 c1 c2 h2r h4r hO hK hk3
      have c3 := h2s.cell 3 rfl
      have c4 := h2s.cell 4 rfl
      have c7 := h2s.cell 7 rfl
      have c8 := h2s.cell 8 rfl
      cases hfb : freshB ((c.words : Int) - (fr % 20 : Nat)) c.words (k : Int) with
      | true =>
        have hfb2 : ((c.words : Int) - (fr % 20 : Nat)) ≤ (k : Int) ∧ (k : Int) < (c.words : Int) := by
          unfold freshB at hfb
          simpa using hfb
        have t1 : decide ((k : Int) < F) = false := by rw [decide_eq_false_iff_not, HFE.out]; omega
        have t2 : decide ((c.words : Int) ≤ (k : Int)) = false := by rw [decide_eq_false_iff_not]; omega
        have t3 : decide (c.words ≤ k) = false := by rw [decide_eq_false_iff_not]; omega
        have HFB := hid hfb
        clear hfb hfb2
        go_wp2_with fail
        go_roundg (d - (i + 1))
        case measure => have := HK.out; omega
        case rel =>
          refine ⟨i + 1, by have := HK.out; omega, by go_num, HO3.out.congr (fun j hj => ?_), K3⟩
          unfold backF
          by_cases hji : j = i
          · subst hji
            have := HFB.out
            rw [HK.out.1] at this
            rw [if_neg (by omega), if_neg (by rw [this]; simp)]
          · have e : (j < i + 1) ↔ (j < i) := by omega
            simp only [e]
      | false =>
        have hcase : (decide ((k : Int) < F) = true) ∨ (decide ((k : Int) < F) = false ∧ decide ((c.words : Int) ≤ (k : Int)) = true ∧ decide (c.words ≤ k) = true) := by
          rw [HFE.out]
          unfold freshB at hfb
          rw [Bool.and_eq_false_iff, decide_eq_false_iff_not, decide_eq_false_iff_not] at hfb
          by_cases h : (k : Int) < (c.words : Int) - (fr % 20 : Nat)
          · exact .inl (by rw [decide_eq_true_eq]; exact h)
          · refine .inr ⟨by rw [decide_eq_false_iff_not]; exact h, by rw [decide_eq_true_eq]; omega, by rw [decide_eq_true_eq]; omega⟩
        have HFB := hid hfb
        clear hfb
        rcases hcase with t1 | ⟨t1, t2, t3⟩
        all_goals
          go_upto_region 24 with fail
          refine wp_region_tail 13 (by kernel_rfl) (by kernel_rfl) ?_
          intro w4 hk4 hz4
          simp only [List.take_succ_cons, List.take_zero, List.drop_succ_cons, List.drop_zero]
          have h24 := hk4.at h2s (by simp)
          have hO4 := HO3.out.keep hk4 (by simp)
          have h44 := h4s.keep hk4 (by simp)
          have K4 := K3.trans (hk4.mono (by simp))
          obtain ⟨y0, g0⟩ := hO4.cell hlt
          obtain ⟨y1, g1⟩ := h44.cell hlt
          rw [Nat.zero_add] at y0 g0 y1 g1
          have x3 := h24.cell 3 rfl
          have x4 := h24.cell 4 rfl
          clear c3 c4 c7 c8 h2s h4s
          repeat still_step
          refine wpStill_nil ?_
          go_wp2_with fail
          go_roundg (d - (i + 1))
          case measure => have := HK.out; omega
          case rel =>
            refine ⟨i + 1, by have := HK.out; omega, by go_num, ?_, K4.set (.inl (by simp)) _⟩
            have hP := hO4.put hlt (K (c.act + i))
            rw [Nat.zero_add] at hP
            refine hP.congr (fun j hj => ?_)
            unfold put backF
            by_cases hji : j = i
            · subst hji
              have := HFB.out
              rw [HK.out.1] at this
              rw [if_pos rfl, if_pos ⟨by omega, this⟩]
            · have e : (j < i + 1) ↔ (j < i) := by omega
              rw [if_neg hji]
              simp only [e]
    · have hid' : i = d := by omega
      subst hid'
      clear hlt hi
      go_wp2_with fail
      go_ret
      have hOF : OwnAt wr nb 0 i (fun j => S'.now (c.act + j)) := hO.congr (fun j hj => by
        rw [HNW.out (c.act + j) (by omega) (by omega)]
        unfold backF
        cases hfb : freshB ((c.words : Int) - (fr % 20 : Nat)) c.words ((c.act + j : Nat) : Int) with
        | true => simp
        | false => simp [hj])
      rw [hd] at hOF
      have h2e := h2r
      rw [hd] at h2e
      refine .inl ⟨rfl, u', S', _, ⟨_, _, _, _, _, _, _, _, hS2.keep hK (fun b hb hm => ?_), by simpa using h2e, hOF, h82.trans (hK.mono (fun k _ hk => by simp at hk; simp [hk]))⟩, hr', HNW.out, hu'⟩
      simp only [List.mem_cons, List.not_mem_nil, or_false] at hm
      subst hm
      exact HP.out.sn (List.mem_cons_of_mem _ hb)

end

end Go.Proofs.YtkoflpcpopmkkaaGreat
