/- A section and its definition; Begin of both. -/
import Derived.Test.YtkoflpcpopmkkaaGreatMdoA
namespace Go.Proofs.YtkoflpcpopmkkaaGreat
open Go.RowKit Go.OpenShut

abbrev doV (k at_ v : Int) : Value := .agg #[.int .u8 k, .int .u16 at_, .int .u64 v]
abbrev doO (k at_ v : Int) : Obj := .cells #[.int .u8 k, .int .u16 at_, .int .u64 v] 47

theorem cell_set_off {w : World} {b i j : Nat} {v x : Value} (h : w.cell? ⟨b, i, none⟩ = some x) (hij : i ≠ j) : (w.setCell ⟨b, j, none⟩ v).cell? ⟨b, i, none⟩ = some x :=
  (World.cell?_setCell_other _ _ _ _ (fun e => hij (by injection e with _ e2 _; exact e2.symm))).trans h

theorem keep4 {w : World} {b j : Nat} {v x0 x1 x2 x3 : Value} (h : w.cell? ⟨b, 0, none⟩ = some x0 ∧ w.cell? ⟨b, 1, none⟩ = some x1 ∧ w.cell? ⟨b, 2, none⟩ = some x2 ∧ w.cell? ⟨b, 3, none⟩ = some x3) (hj : 3 < j) :
    (w.setCell ⟨b, j, none⟩ v).cell? ⟨b, 0, none⟩ = some x0 ∧ (w.setCell ⟨b, j, none⟩ v).cell? ⟨b, 1, none⟩ = some x1 ∧ (w.setCell ⟨b, j, none⟩ v).cell? ⟨b, 2, none⟩ = some x2 ∧ (w.setCell ⟨b, j, none⟩ v).cell? ⟨b, 3, none⟩ = some x3 :=
  ⟨cell_set_off h.1 (by omega), cell_set_off h.2.1 (by omega), cell_set_off h.2.2.1 (by omega), cell_set_off h.2.2.2 (by omega)⟩

/-- What lies apart. -/
structure MSep (p : Nat) (a : DA) (q : Sc) (c : Cfg) (mb nb : Nat) (wB : World) : Prop where
  ok : c.Ok
  wn : c.words = a.n
  sm : mb ∉ a.d :: q.bl p a
  sn : nb ∉ mb :: a.d :: q.bl p a
  lt : ∀ b ∈ nb :: mb :: a.d :: q.bl p a, b < wB.heap.size

/-- A section that is open, and its definition. -/
def MOpen (p : Nat) (a : DA) (l u : Int) (q : Sc) (c : Cfg) (mb nb ncap : Nat) (wB : World) (fr : Nat) (S : DS) (r : Nat) (K : Nat → Int) (w : World) : Prop :=
  ∃ m pl wb wcap x ci, OpenG p a l u S q c m r pl K ((c.words : Int) - (fr % 20 : Nat)) c.words w ∧
    At w mb (mO c (.slice (some ⟨nb, 0, none⟩) (a.n - c.act) ncap) (.slice (some ⟨wb, 0, none⟩) (a.n - c.act) wcap) (.slice x m ci) true ((c.words : Int) - (fr % 20 : Nat)) c.words) ∧
    OwnAt w nb 0 (a.n - c.act) (fun i => S.now (c.act + i)) ∧ OwnAt w wb 0 (a.n - c.act) (fun i => K (c.act + i)) ∧ OwnI w wB.heap.size x ci m pl ∧ wB.heap.size ≤ wb ∧ wb ∉ blkL x ∧ Keeps (mb :: nb :: q.bl p a) wB w

/-- A section that isn't. -/
def MShut (p : Nat) (a : DA) (l u : Int) (q : Sc) (c : Cfg) (mb nb ncap : Nat) (wB : World) (S : DS) (r : Nat) (w : World) : Prop :=
  ∃ x1 l1 c1 x2 l2 c2 f t, ShutG p a l u S q c r w ∧ At w mb (mO c (.slice (some ⟨nb, 0, none⟩) (a.n - c.act) ncap) (.slice x1 l1 c1) (.slice x2 l2 c2) false f t) ∧
    OwnAt w nb 0 (a.n - c.act) (fun i => S.now (c.act + i)) ∧ Keeps (mb :: nb :: q.bl p a) wB w

section
variable {p : Nat} {a : DA} {l u : Int} {q : Sc} {c : Cfg} {mb nb ncap : Nat} {wB : World} {fr : Nat} {S : DS} {r : Nat} {K : Nat → Int} {w w' : World}

theorem MSep.nb_ne (h : MSep p a q c mb nb wB) : nb ≠ mb ∧ nb ∉ q.bl p a ∧ mb ∉ q.bl p a ∧ nb ≠ a.d ∧ mb ≠ a.d := by
  have h1 := h.sn
  have h2 := h.sm
  simp only [List.mem_cons, not_or] at h1 h2
  exact ⟨h1.1, h1.2.2, h2.2, h1.2.1, h2.1⟩

theorem MOpen.keep0 (h : MOpen p a l u q c mb nb ncap wB fr S r K w) (hk : Keeps [] w w') : MOpen p a l u q c mb nb ncap wB fr S r K w' := by
  obtain ⟨m, pl, wb, wcap, x, ci, h1, h2, h3, h4, h5, h6, h7, h8⟩ := h
  exact ⟨m, pl, wb, wcap, x, ci, h1.keep0 hk, hk.at h2 (by simp), h3.keep hk (by simp), h4.keep hk (by simp), h5.keep hk (by simp), h6, h7, h8.trans (hk.mono (by simp))⟩
theorem MShut.keep0 (h : MShut p a l u q c mb nb ncap wB S r w) (hk : Keeps [] w w') : MShut p a l u q c mb nb ncap wB S r w' := by
  obtain ⟨x1, l1, c1, x2, l2, c2, f, t, h1, h2, h3, h4⟩ := h
  exact ⟨x1, l1, c1, x2, l2, c2, f, t, h1.keep0 hk, hk.at h2 (by simp), h3.keep hk (by simp), h4.trans (hk.mono (by simp))⟩

set_option maxRecDepth 100000 in
set_option maxHeartbeats 4000000 in
/-- Begin, one being open. -/
theorem do0_open (hp : MSep p a q c mb nb wB) (h : MOpen p a l u q c mb nb ncap wB fr S r K w) (kd : Nat) (hkd : kd ≤ 255) (h0 : kd % 8 = 0) (at_ v : Int) (hfr : fr ≤ 255) :
    Calls Tryz.prog 17 #[ptr mb, ptr q.b, doV kd at_ v, .int .u8 fr] w fun e w' => e = .returned (.bool true) ∧ MOpen p a l u q c mb nb ncap wB fr S r K w' := by
  have hkk : (kd : Int) ≤ 255 := by omega
  have e1 : (kd : Int) % 8 = 0 := by omega
  have HP := hid hp
  obtain ⟨w0, hw0⟩ : ∃ w0, w0 = w.alloc (doO kd at_ v) := ⟨_, rfl⟩
  have h6 : MOpen p a l u q c mb nb ncap wB fr S r K w0 := by rw [hw0]; exact h.keep0 ((Keeps.refl _ _).alloc _)
  have hB := At.new w (doO kd at_ v)
  rw [← hw0] at hB
  have b0 := hB.cell 0 rfl
  clear hp h
  obtain ⟨m, pl, wb, wcap, x, ci, h1, h2, h3, h4, h5, h6', h7, h8⟩ := h6
  have c0 := h2.cell 0 rfl
  have c1 := h2.cell 1 rfl
  have c2 := h2.cell 2 rfl
  go_enter Tryz.func17, Tryz.ntmps17
  go_upto_region 1 with fail
  rw [← hw0]
  clear hw0
  go_wp2_with fail
  refine (span_at w0 c HP.out.ok fr hfr).mono ?_
  rintro e w1 ⟨rfl, hk1⟩
  have h11 := h1.keep0 hk1
  have h21 := hk1.at h2 (by simp)
  clear c0 c1 c2 b0
  go_wp2_with fail
  refine (begin_g_no h11 _ _).mono ?_
  rintro e w2 ⟨rfl, hk2⟩
  have h22 := hk2.at h21 (by simp)
  have c6 := h22.cell 6 rfl
  go_wp2_with fail
  go_ret
  have kk := hk1.trans hk2
  exact ⟨rfl, m, pl, wb, wcap, x, ci, h1.keep0 kk, kk.at h2 (by simp), h3.keep kk (by simp), h4.keep kk (by simp), h5.keep kk (by simp), h6', h7, h8.trans (kk.mono (by simp))⟩

theorem do0_end {w2 w' : World} {u' : Int} {S' : DS} {pl : Nat → Nat} {x1 x2 : Option Addr} {l1 c1 l2 c2 wb wcap : Nat} {f t : Int} (hp : MSep p a q c mb nb wB) (hO : OpenG p a l u' S' q c 0 r pl S.now ((c.words : Int) - (fr % 20 : Nat)) c.words w2)
    (h22 : At w2 mb (mO c (.slice (some ⟨nb, 0, none⟩) (a.n - c.act) ncap) (.slice x1 l1 c1) (.slice x2 l2 c2) false f t)) (h32 : OwnAt w2 nb 0 (a.n - c.act) (fun i => S.now (c.act + i))) (h42 : Keeps (mb :: nb :: q.bl p a) wB w2) (hnow : ∀ j, S'.now j = S.now j)
    (kk : Keeps [] w2 w') (hW : OwnAt w' wb 0 (a.n - c.act) (fun i => S.now (c.act + i)) ∧ w2.heap.size ≤ wb) :
    MOpen p a l u' q c mb nb ncap wB fr S' r S.now (((((w'.setCell ⟨mb, 6, none⟩ (.bool true)).setCell ⟨mb, 7, none⟩ (.int .i64 ((c.words : Int) - (fr % 20 : Nat)))).setCell ⟨mb, 8, none⟩ (.int .i64 c.words)).setCell ⟨mb, 5, none⟩ (.slice none 0 0)).setCell ⟨mb, 4, none⟩ (.slice (some ⟨wb, 0, none⟩) (a.n - c.act) wcap)) := by
  obtain ⟨hn1, hn2, hn3, hn4, hn5⟩ := hp.nb_ne
  have hmlt : mb < w2.heap.size := h22.lt
  have hF := (((((kk.at h22 (by simp)).set 6 (.bool true)).set 7 (.int .i64 ((c.words : Int) - (fr % 20 : Nat)))).set 8 (.int .i64 c.words)).set 5 (.slice none 0 0)).set 4 (.slice (some ⟨wb, 0, none⟩) (a.n - c.act) wcap)
  have KS : Keeps [mb] w' (((((w'.setCell ⟨mb, 6, none⟩ (.bool true)).setCell ⟨mb, 7, none⟩ (.int .i64 ((c.words : Int) - (fr % 20 : Nat)))).setCell ⟨mb, 8, none⟩ (.int .i64 c.words)).setCell ⟨mb, 5, none⟩ (.slice none 0 0)).setCell ⟨mb, 4, none⟩ (.slice (some ⟨wb, 0, none⟩) (a.n - c.act) wcap)) :=
    (((((Keeps.refl [mb] w').set (.inl (by simp)) _).set (.inl (by simp)) _).set (.inl (by simp)) _).set (.inl (by simp)) _).set (.inl (by simp)) _
  have hwb := hW.2
  have hz := h42.size
  refine ⟨0, pl, wb, wcap, none, 0, (hO.keep0 kk).keep KS (fun b hb hm => ?_), by simpa using hF, ((h32.keep kk (by simp)).keep KS (by simpa using hn1)).congr (fun i _ => (hnow _).symm), hW.1.keep KS (by simp; omega), ownI_nil _ _ _, by omega, by simp [blkL], (h42.trans (kk.mono (by simp))).trans (KS.mono (fun k _ hk => by simp at hk; simp [hk]))⟩
  simp only [List.mem_cons, List.not_mem_nil, or_false] at hm
  subst hm
  exact hp.sm hb

set_option maxRecDepth 100000 in
set_option maxHeartbeats 8000000 in
/-- Begin, none being open. -/
theorem do0_shut (hp : MSep p a q c mb nb wB) (h : MShut p a l u q c mb nb ncap wB S r w) (hu : u < 1000000) (kd : Nat) (hkd : kd ≤ 255) (h0 : kd % 8 = 0) (at_ v : Int) (hfr : fr ≤ 255) (K2 : Nat → Int) :
    Calls Tryz.prog 17 #[ptr mb, ptr q.b, doV kd at_ v, .int .u8 fr] w fun e w' => (e = .returned (.bool true) ∧ ∃ u' S', MOpen p a l u' q c mb nb ncap wB fr S' r S.now w' ∧ (∀ j, S'.now j = S.now j) ∧ u' ≤ u + 3000) ∨ Gone p a l c r ((c.words : Int) - (fr % 20 : Nat)) c.words S.now K2 (q.bl p a) w e w' := by
  have hkk : (kd : Int) ≤ 255 := by omega
  have e1 : (kd : Int) % 8 = 0 := by omega
  have HP := hid hp
  obtain ⟨w0, hw0⟩ : ∃ w0, w0 = w.alloc (doO kd at_ v) := ⟨_, rfl⟩
  have h6 : MShut p a l u q c mb nb ncap wB S r w0 := by rw [hw0]; exact h.keep0 ((Keeps.refl _ _).alloc _)
  have K0 : Keeps [] w w0 := by rw [hw0]; exact (Keeps.refl _ _).alloc _
  have hB := At.new w (doO kd at_ v)
  rw [← hw0] at hB
  have b0 := hB.cell 0 rfl
  clear hp h
  obtain ⟨x1, l1, c1, x2, l2, c2, f, t, h1, h2, h3, h4⟩ := h6
  have d0 := h2.cell 0 rfl
  have d1 := h2.cell 1 rfl
  have d2 := h2.cell 2 rfl
  obtain ⟨hn1, hn2, hn3, hn4, hn5⟩ := HP.out.nb_ne
  go_enter Tryz.func17, Tryz.ntmps17
  go_upto_region 1 with fail
  rw [← hw0]
  clear hw0
  go_wp2_with fail
  refine (span_at w0 c HP.out.ok fr hfr).mono ?_
  rintro e w1 ⟨rfl, hk1⟩
  have h11 := h1.keep0 hk1
  have h21 := hk1.at h2 (by simp)
  have h31 := h3.keep hk1 (by simp)
  have h41 := h4.trans (hk1.mono (by simp))
  have K1 := K0.trans hk1
  clear d0 d1 d2 b0 h1 h2 h3 h4 hB K0 hk1
  go_wp2_with fail
  refine (begin_g h11 HP.out.ok HP.out.wn hu _ _ K2).mono ?_
  rintro e w2 (⟨rfl, u', S', pl, hO, hnow, hu', hk2⟩ | ⟨rfl, hg1, hk2⟩)
  rotate_left
  · exact ⟨rfl, .inr ⟨rfl, hg1, (K1.mono (by simp)).trans hk2⟩⟩
  have h22 := hk2.at h21 hn3
  have h32 := h31.keep hk2 hn2
  have h42 := h41.trans (hk2.mono (fun k _ hk => List.mem_cons_of_mem _ (List.mem_cons_of_mem _ hk)))
  have HNW := hid hnow
  have c6 := h22.cell 6 rfl
  clear h11 h21 h31 h41 hk2 hnow
  go_upto_region 6 with fail
  have HX : Hid (∀ w', Keeps [] w2 w' → (w'.cell? ⟨mb, 0, none⟩ = some (.int .i64 c.log) ∧ w'.cell? ⟨mb, 1, none⟩ = some (.int .i64 c.roots) ∧ w'.cell? ⟨mb, 2, none⟩ = some (.int .i64 c.space) ∧ w'.cell? ⟨mb, 3, none⟩ = some (.slice (some ⟨nb, 0, none⟩) (a.n - c.act) ncap))) := fun w' hk => by
    have h := hk.at h22 (by simp)
    exact ⟨h.cell 0 rfl, h.cell 1 rfl, h.cell 2 rfl, h.cell 3 rfl⟩
  have HY : Hid (∀ w', Keeps [] w2 w' → (w'.cell? ⟨mb, 4, none⟩ = some (.slice x1 l1 c1) ∧ w'.cell? ⟨mb, 5, none⟩ = some (.slice x2 l2 c2) ∧ w'.cell? ⟨mb, 6, none⟩ = some (.bool false) ∧ w'.cell? ⟨mb, 7, none⟩ = some (.int .i64 f) ∧ w'.cell? ⟨mb, 8, none⟩ = some (.int .i64 t) ∧ w'.frozen? ⟨mb, 4, none⟩ = false ∧ w'.frozen? ⟨mb, 5, none⟩ = false ∧ w'.frozen? ⟨mb, 6, none⟩ = false ∧ w'.frozen? ⟨mb, 7, none⟩ = false ∧ w'.frozen? ⟨mb, 8, none⟩ = false)) := fun w' hk => by
    have h := hk.at h22 (by simp)
    exact ⟨h.cell 4 rfl, h.cell 5 rfl, h.cell 6 rfl, h.cell 7 rfl, h.cell 8 rfl, h.free 4, h.free 5, h.free 6, h.free 7, h.free 8⟩
  have HN := hid (fun (w' : World) (hk : Keeps [] w2 w') => (h32.keep hk (by simp)).reads)
  have hd17 : a.n - c.act ≤ 17592186044416 := by have := (c_in HP.out.ok HP.out.wn).2.2.2.2; omega
  have kk : Keeps [] w2 w2.drew := (Keeps.refl _ _).drew
  go_region_held3 (fun w' => w'.cell? ⟨mb, 0, none⟩ = some (.int .i64 c.log) ∧ w'.cell? ⟨mb, 1, none⟩ = some (.int .i64 c.roots) ∧ w'.cell? ⟨mb, 2, none⟩ = some (.int .i64 c.space) ∧ w'.cell? ⟨mb, 3, none⟩ = some (.slice (some ⟨nb, 0, none⟩) (a.n - c.act) ncap))
    (first | exact HX.out _ kk | exact keep4 (by assumption) (by decide) | exact keep4 (keep4 (by assumption) (by decide)) (by decide))
    (first
      | (go_at_call 52; refine (span_at _ c HP.out.ok fr hfr).mono ?_; rintro e w' ⟨rfl, hk1⟩; have kk := kk.trans hk1; (first | (have HOW := hid (And.intro (HOW.out.1.keep hk1 (by simp)) HOW.out.2)) | skip); clear hk1; obtain ⟨y4, y5, y6, y7, y8, f4, f5, f6, f7, f8⟩ := HY.out _ kk)
      | (go_at_call 14; refine (clone_at _ _ _ _ _ (HN.out _ kk) hd17).mono ?_; rintro e w5 ⟨nv, rfl, ⟨wb, wcap, wcur, rfl, o1, o2, o3, o4, o5, o6⟩, hk1⟩; have o1' := Nat.le_trans (Keeps.size kk) o1; have kk := kk.trans hk1; obtain ⟨y4, y5, y6, y7, y8, f4, f5, f6, f7, f8⟩ := HY.out _ kk; have HOW := hid (show OwnAt w5 wb 0 (a.n - c.act) _ ∧ w2.heap.size ≤ wb from ⟨⟨wcur, o2, fun i hi => by rw [Nat.zero_add]; exact o6 i hi⟩, o1'⟩); clear hk1 o1 o1' o2 o3 o4 o5 o6))
  all_goals
    go_wp2_with fail
    go_ret
    exact .inl ⟨rfl, u', S', do0_end HP.out hO h22 h32 h42 HNW.out kk HOW.out, HNW.out, hu'⟩

end

end Go.Proofs.YtkoflpcpopmkkaaGreat
