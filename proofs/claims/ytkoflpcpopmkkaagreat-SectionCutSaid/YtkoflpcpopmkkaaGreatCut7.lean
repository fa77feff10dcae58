/- What the law SectionCut's Run leaves: the closure of steps, done or cut. -/
import Derived.Test.YtkoflpcpopmkkaaGreatMdoG
import Derived.Test.YtkoflpcpopmkkaaGreatP6
namespace Go.Proofs.YtkoflpcpopmkkaaGreat
open Go.RowKit Go.OpenShut

/-- The law's boxes, and the row that was kept, in the world on which a definition stands. -/
structure CB (p : Nat) (a : DA) (q : Sc) (c : Cfg) (mb nb : Nat) (W wB : World) (lx Mb cm sb kb : Nat) (x : Option Addr) (n cp g kcap : Nat) (cmv : Bool) (D : Nat → Int) : Prop where
  li : At wB lx (.cells #[.slice x n cp] 26)
  m : At wB Mb (.cells #[ptr mb] 31)
  cmt : At wB cm (.cells #[.bool cmv] 4)
  s : At wB sb (.cells #[ptr q.b] 30)
  k : At wB kb (.cells #[.slice (some ⟨g, 0, none⟩) (a.n - c.act) kcap] 25)
  row : OwnAt wB g 0 (a.n - c.act) (fun i => D (c.act + i))
  ap : ∀ b ∈ [lx, Mb, cm, sb, kb, g], b ∉ mb :: nb :: a.d :: q.bl p a
  c1 : cm ≠ lx ∧ cm ≠ Mb ∧ cm ≠ sb ∧ cm ≠ kb ∧ cm ≠ g
  k1 : kb ≠ lx ∧ kb ≠ Mb ∧ kb ≠ sb ∧ kb ≠ g
  W : Keeps [] W wB

section
variable {p : Nat} {a : DA} {l u : Int} {q : Sc} {c : Cfg} {mb nb ncap : Nat} {W wB w w' : World} {lx Mb cm sb kb n cp g kcap : Nat} {x : Option Addr} {cmv : Bool} {D : Nat → Int} {S : DS} {r : Nat}

theorem ap_off {L : List Nat} {b : Nat} (h : b ∉ mb :: nb :: a.d :: q.bl p a) (hL : ∀ k ∈ L, k ∈ mb :: nb :: a.d :: q.bl p a) : b ∉ L := fun hb => h (hL b hb)

theorem CB.move (h : CB p a q c mb nb W wB lx Mb cm sb kb x n cp g kcap cmv D) (hk : Keeps (mb :: nb :: q.bl p a) wB w) (hB : ∀ b ∈ mb :: nb :: q.bl p a, W.heap.size ≤ b) : CB p a q c mb nb W w lx Mb cm sb kb x n cp g kcap cmv D := by
  have hL : ∀ k ∈ mb :: nb :: q.bl p a, k ∈ mb :: nb :: a.d :: q.bl p a := fun k hk => by
    simp only [List.mem_cons] at hk ⊢
    rcases hk with h | h | h
    · exact .inl h
    · exact .inr (.inl h)
    · exact .inr (.inr (.inr h))
  have hq : ∀ b ∈ [lx, Mb, cm, sb, kb, g], b ∉ mb :: nb :: q.bl p a := fun b hb => ap_off (h.ap b hb) hL
  exact ⟨hk.at h.li (hq _ (by simp)), hk.at h.m (hq _ (by simp)), hk.at h.cmt (hq _ (by simp)), hk.at h.s (hq _ (by simp)), hk.at h.k (hq _ (by simp)), h.row.keep hk (hq _ (by simp)), h.ap, h.c1, h.k1, h.W.new hk (fun b hb => .inr (hB b hb))⟩

theorem CB.flag (h : CB p a q c mb nb W wB lx Mb cm sb kb x n cp g kcap cmv D) (hW : W.heap.size ≤ cm) (b : Bool) : CB p a q c mb nb W (wB.setCell ⟨cm, 0, none⟩ (.bool b)) lx Mb cm sb kb x n cp g kcap b D := by
  obtain ⟨c1, c2, c3, c4, c5⟩ := h.c1
  refine ⟨h.li.set_ne (a := ⟨cm, 0, none⟩) (fun e => c1 e.symm) _, h.m.set_ne (a := ⟨cm, 0, none⟩) (fun e => c2 e.symm) _, ?_, h.s.set_ne (a := ⟨cm, 0, none⟩) (fun e => c3 e.symm) _, h.k.set_ne (a := ⟨cm, 0, none⟩) (fun e => c4 e.symm) _, h.row.keep ((Keeps.refl [cm] wB).set (.inl (by simp)) _) (by simp; exact fun e => c5 e.symm), h.ap, h.c1, h.k1, h.W.set (.inr hW) _⟩
  have := h.cmt.set 0 (.bool b)
  simpa using this

/-- Another row is kept. -/
theorem CB.kept (h : CB p a q c mb nb W wB lx Mb cm sb kb x n cp g kcap cmv D) (hW : W.heap.size ≤ kb) {g' kcap' : Nat} {D' : Nat → Int} (hr : OwnAt wB g' 0 (a.n - c.act) (fun i => D' (c.act + i))) (h1 : g' ∉ mb :: nb :: a.d :: q.bl p a) (h2 : g' ∉ [lx, Mb, cm, sb, kb]) :
    CB p a q c mb nb W (wB.setCell ⟨kb, 0, none⟩ (.slice (some ⟨g', 0, none⟩) (a.n - c.act) kcap')) lx Mb cm sb kb x n cp g' kcap' cmv D' := by
  obtain ⟨k1, k2, k3, k4⟩ := h.k1
  simp only [List.mem_cons, List.not_mem_nil, or_false, not_or] at h2
  obtain ⟨g1, g2, g3, g4, g5⟩ := h2
  refine ⟨h.li.set_ne (a := ⟨kb, 0, none⟩) (fun e => k1 e.symm) _, h.m.set_ne (a := ⟨kb, 0, none⟩) (fun e => k2 e.symm) _, h.cmt.set_ne (a := ⟨kb, 0, none⟩) h.c1.2.2.2.1 _, h.s.set_ne (a := ⟨kb, 0, none⟩) (fun e => k3 e.symm) _, ?_, hr.keep ((Keeps.refl [kb] wB).set (.inl (by simp)) _) (by simp; exact g5), fun b hb => ?_, ⟨h.c1.1, h.c1.2.1, h.c1.2.2.1, h.c1.2.2.2.1, fun e => g3 e.symm⟩, ⟨k1, k2, k3, fun e => g5 e.symm⟩, h.W.set (.inr hW) _⟩
  · have := h.k.set 0 (.slice (some ⟨g', 0, none⟩) (a.n - c.act) kcap')
    simpa using this
  · simp only [List.mem_cons, List.not_mem_nil, or_false] at hb
    rcases hb with rfl | rfl | rfl | rfl | rfl | rfl
    · exact h.ap _ (by simp)
    · exact h.ap _ (by simp)
    · exact h.ap _ (by simp)
    · exact h.ap _ (by simp)
    · exact h.ap _ (by simp)
    · exact h1

theorem CB.congr {D' : Nat → Int} (h : CB p a q c mb nb W wB lx Mb cm sb kb x n cp g kcap cmv D) (he : ∀ j, c.act ≤ j → j < a.n → D j = D' j) : CB p a q c mb nb W wB lx Mb cm sb kb x n cp g kcap cmv D' :=
  ⟨h.li, h.m, h.cmt, h.s, h.k, h.row.congr (fun i hi => he _ (by omega) (by omega)), h.ap, h.c1, h.k1, h.W⟩

/-- Where none is open the definition stands on any world behind. -/
theorem MShut.turn (hp : MSep p a q c mb nb wB) (h : MShut p a l u q c mb nb ncap wB S r w) {T : List Nat} (hk : Keeps T w w') (hT : ∀ b ∈ mb :: nb :: a.d :: q.bl p a, b ∉ T) : MSep p a q c mb nb w' ∧ MShut p a l u q c mb nb ncap w' S r w' := by
  obtain ⟨x1, l1, c1, x2, l2, c2, f, t, h1, h2, h3, h4⟩ := h
  exact ⟨⟨hp.ok, hp.wn, hp.sm, hp.sn, fun k hk' => Nat.lt_of_lt_of_le (hp.lt k hk') (Nat.le_trans h4.size hk.size)⟩, x1, l1, c1, x2, l2, c2, f, t, h1.keep hk (fun b hb => hT b (by simp only [List.mem_cons] at hb ⊢; rcases hb with h | h; exact .inr (.inr (.inl h)); exact .inr (.inr (.inr h)))), hk.at h2 (hT _ (by simp)), h3.keep hk (hT _ (by simp)), Keeps.refl _ _⟩

/-- Between two steps. -/
def CSt (p : Nat) (a : DA) (l : Int) (q : Sc) (c : Cfg) (mb nb ncap : Nat) (W : World) (lx Mb cm sb kb : Nat) (x : Option Addr) (n cp k : Nat) (w : World) : Prop :=
  ∃ wB g kcap D u S r, MSep p a q c mb nb wB ∧ CB p a q c mb nb W wB lx Mb cm sb kb x n cp g kcap false D ∧ r ≤ k ∧ u ≤ 1000 + 3000 * (k : Int) ∧
    (MOpen p a l u q c mb nb ncap wB 0 S r D w ∨ (MShut p a l u q c mb nb ncap wB S r w ∧ ∀ j, c.act ≤ j → j < a.n → D j = S.now j))

/-- What Run leaves. -/
def CEnd (p : Nat) (a : DA) (l : Int) (c : Cfg) (q : Sc) (mb nb ncap : Nat) (W : World) (Mb cm kb : Nat) (cmv : Bool) (w : World) : Prop :=
  ∃ (D N : Nat → Int) (g kcap : Nat) (T : DS) (u : Int), Pw w p a l u T ∧ u < 1000000 ∧
    (∀ ch : Nat → Int, ∃ r m pl wd K, r ≤ 100 ∧ ((∀ j, c.act ≤ j → j < a.n → K j = D j) ∨ (cmv = true ∧ ∀ j, c.act ≤ j → j < a.n → K j = N j)) ∧ LI c a.n 1 r m pl wd K (crashed T ch)) ∧
    At w kb (.cells #[.slice (some ⟨g, 0, none⟩) (a.n - c.act) kcap] 25) ∧ OwnAt w g 0 (a.n - c.act) (fun i => D (c.act + i)) ∧ At w cm (.cells #[.bool cmv] 4) ∧ At w Mb (.cells #[ptr mb] 31) ∧
    (∃ was seen op f t, At w mb (mO c (.slice (some ⟨nb, 0, none⟩) (a.n - c.act) ncap) was seen op f t)) ∧ OwnAt w nb 0 (a.n - c.act) (fun i => N (c.act + i)) ∧
    (∀ b ∈ [Mb, cm, kb, g, mb, nb], b ∉ a.d :: q.bl p a) ∧ Keeps [] W w

theorem CEnd.alloc {Mb cm kb : Nat} (h : CEnd p a l c q mb nb ncap W Mb cm kb cmv w) (o : Obj) : CEnd p a l c q mb nb ncap W Mb cm kb cmv (w.alloc o) := by
  obtain ⟨D, N, g, kcap, T, u, h1, h2, h3, h4, h5, h6, h7, ⟨was, seen, op, f, t, h8⟩, h9, h10, h11⟩ := h
  have k := (Keeps.refl [] w).alloc o
  exact ⟨D, N, g, kcap, T, u, h1.keep0 k, h2, h3, k.at h4 (by simp), h5.keep k (by simp), k.at h6 (by simp), k.at h7 (by simp), ⟨was, seen, op, f, t, k.at h8 (by simp)⟩, h9.keep k (by simp), h10, h11.trans k⟩

theorem ap_end {w2 : World} (hp : MSep p a q c mb nb wB) (h : CB p a q c mb nb W w2 lx Mb cm sb kb x n cp g kcap cmv D) : ∀ b ∈ [Mb, cm, kb, g, mb, nb], b ∉ a.d :: q.bl p a := fun b hb hm => by
  have hL : ∀ z, z ∉ mb :: nb :: a.d :: q.bl p a → z ∉ a.d :: q.bl p a := fun z hz h => hz (List.mem_cons_of_mem _ (List.mem_cons_of_mem _ h))
  simp only [List.mem_cons, List.not_mem_nil, or_false] at hb
  rcases hb with rfl | rfl | rfl | rfl | rfl | rfl
  · exact hL _ (h.ap _ (by simp)) hm
  · exact hL _ (h.ap _ (by simp)) hm
  · exact hL _ (h.ap _ (by simp)) hm
  · exact hL _ (h.ap _ (by simp)) hm
  · exact hp.sm hm
  · exact hp.sn (List.mem_cons_of_mem _ hm)

theorem CSt.fin {k : Nat} (h : CSt p a l q c mb nb ncap W lx Mb cm sb kb x n cp k w) (hk : k ≤ 30) (hB : ∀ b ∈ mb :: nb :: q.bl p a, W.heap.size ≤ b) : CEnd p a l c q mb nb ncap W Mb cm kb false w := by
  obtain ⟨wB, g, kcap, D, u, S, r, hp, hC, hr, hu, h | ⟨h, hD⟩⟩ := h
  · obtain ⟨m, pl, wb, wcap, x', ci, ⟨st, wd, R, U, h1, h2⟩, h3, h4, h5, _, _, _, h8⟩ := h
    have hM := hC.move h8 hB
    have hf := fresh_none hp
    exact ⟨D, S.now, g, kcap, S, u, h1.lw.pw, by omega, fun ch => ⟨r, m, pl, wd, D, by omega, .inl fun _ _ _ => rfl, LI.crash (h2.li hf) ch⟩, hM.k, hM.row, hM.cmt, hM.m, ⟨_, _, _, _, _, h3⟩, h4, ap_end hp hC, hM.W⟩
  · obtain ⟨x1, l1, c1, x2, l2, c2, f, t, ⟨st, f', t', R, U, pl, wd, h1, h2⟩, h3, h4, h8⟩ := h
    have hM := hC.move h8 hB
    exact ⟨D, S.now, g, kcap, S, u, h1.lw.pw, by omega, fun ch => ⟨r, 0, pl, wd, S.now, by omega, .inl fun j h1 h2 => (hD j h1 h2).symm, LI.crash (LI.none h2.lr h2.cl) ch⟩, hM.k, hM.row, hM.cmt, hM.m, ⟨_, _, _, _, _, h3⟩, h4, ap_end hp hC, hM.W⟩

/-- The power has gone within a step. -/
theorem GoneC.fin {k : Nat} {N : Nat → Int} {com : Prop} {e : Ending} (hp : MSep p a q c mb nb wB) (hC : CB p a q c mb nb W w lx Mb cm sb kb x n cp g kcap cmv D) (hB : ∀ b ∈ mb :: nb :: q.bl p a, W.heap.size ≤ b) (h : GoneC p a l c r D N com (q.bl p a) w e w') (hcom : com → cmv = true) (hr : r ≤ k) (hk : k ≤ 30) (hl : l < 1000000)
    (hmb : ∃ was seen op f t, At w mb (mO c (.slice (some ⟨nb, 0, none⟩) (a.n - c.act) ncap) was seen op f t)) (hnb : OwnAt w nb 0 (a.n - c.act) (fun i => N (c.act + i))) : e = .panicked [{ v := goneV, recovered := false }] ∧ CEnd p a l c q mb nb ncap W Mb cm kb cmv w' := by
  obtain ⟨he, ⟨T, hP, hL⟩, hkp⟩ := h
  obtain ⟨was, seen, op, f, t, h8⟩ := hmb
  obtain ⟨hn1, hn2, hn3, hn4, hn5⟩ := hp.nb_ne
  have hM := hC.move (hkp.mono (fun k _ hk => List.mem_cons_of_mem _ (List.mem_cons_of_mem _ hk))) hB
  refine ⟨he, D, N, g, kcap, T, l, hP, hl, fun ch => ?_, hM.k, hM.row, hM.cmt, hM.m, ⟨was, seen, op, f, t, hkp.at h8 hn3⟩, hnb.keep hkp hn2, ap_end hp hC, hM.W⟩
  obtain ⟨r', m, pl, wd, K, h1, h2, h3⟩ := hL ch
  exact ⟨r', m, pl, wd, K, by omega, h2.imp id (fun h => ⟨hcom h.1, h.2⟩), h3⟩
end

set_option maxRecDepth 100000 in
set_option maxHeartbeats 4000000 in
theorem cutrun_at (w : World) (p : Nat) (a : DA) (l : Int) (q : Sc) (c : Cfg) (mb nb ncap : Nat) (W : World) (lx Mb cm sb kb : Nat) (x : Option Addr) (n cp : Nat) (f : Nat → Nat → Int) (hR : DReads W x n f) (hn : n ≤ 30) (hl : l < 1000)
    (hB : ∀ b ∈ mb :: nb :: q.bl p a, W.heap.size ≤ b) (hW : W.heap.size ≤ cm ∧ W.heap.size ≤ kb) (h : CSt p a l q c mb nb ncap W lx Mb cm sb kb x n cp 0 w) :
    Calls Tryz.prog 16 #[ptr lx, ptr Mb, ptr cm, ptr sb, ptr kb] w fun e w' => (e = .returned (.tuple #[]) ∧ CEnd p a l c q mb nb ncap W Mb cm kb false w') ∨ (e = .panicked [{ v := goneV, recovered := false }] ∧ ∃ cmv, CEnd p a l c q mb nb ncap W Mb cm kb cmv w') := by
  have HR := hid hR
  have HB := hid hB
  have HW := hid hW
  have hni : (n : Int) ≤ 30 := by omega
  have HSt := hid h
  obtain ⟨wB, g, kcap, D, u, S, r, hp, hC, hr, hu, hM⟩ := h
  have x0 : w.cell? ⟨lx, 0, none⟩ = some (.slice x n cp) := by
    rcases hM with ⟨_, _, _, _, _, _, _, _, _, _, _, _, _, h8⟩ | ⟨⟨_, _, _, _, _, _, _, _, _, _, _, h8⟩, _⟩
    · exact (hC.move h8 hB).li.cell 0 rfl
    · exact (hC.move h8 hB).li.cell 0 rfl
  clear hR hB hW hp hC hr hu hM
  go_enter Tryz.func16, Tryz.ntmps16
  go_wp2_with fail
  clear x0
  go_loopg [9] n (fun rr sl wr => ∃ k : Nat, k + rr = n ∧ sl = .int .i64 k ∧ CSt p a l q c mb nb ncap W lx Mb cm sb kb x n cp k wr)
  case atStart => exact ⟨0, by omega, rfl, HSt.out⟩
  case round =>
    obtain ⟨k, hk, rfl, hSk⟩ := hrel
    clear HSt
    by_cases hlt : k < n
    · obtain ⟨wB, g, kcap, D, u, S, r, hp, hC, hr, hu, hM⟩ := hSk
      obtain ⟨b, off, rfl, hbl, hcl⟩ : ∃ b off, x = some ⟨b, off, none⟩ ∧ b < W.heap.size ∧ ∀ i, i < n → W.cell? ⟨b, off + i * 3, none⟩ = some (.int .u8 (f i 0)) ∧ W.cell? ⟨b, off + i * 3 + 1, none⟩ = some (.int .u16 (f i 1)) ∧ W.cell? ⟨b, off + i * 3 + 2, none⟩ = some (.int .u64 (f i 2)) ∧ 0 ≤ f i 0 ∧ f i 0 ≤ 255 ∧ 0 ≤ f i 1 ∧ f i 1 ≤ 65535 := by
        rcases HR.out with h | h
        · omega
        · exact h
      obtain ⟨q0, q1, q2, q3, q4, q5, q6⟩ := hcl k hlt
      obtain ⟨kd, hkd⟩ : ∃ z : Nat, (z : Int) = f k 0 := ⟨(f k 0).toNat, by omega⟩
      obtain ⟨at_, hat⟩ : ∃ z : Nat, (z : Int) = f k 1 := ⟨(f k 1).toNat, by omega⟩
      obtain ⟨v, hv⟩ : ∃ z, z = f k 2 := ⟨_, rfl⟩
      have hkdb : kd ≤ 255 := by omega
      have hatb : at_ ≤ 65535 := by omega
      have hKr : Keeps (mb :: nb :: q.bl p a) wB wr := by
        rcases hM with ⟨_, _, _, _, _, _, _, _, _, _, _, _, _, h8⟩ | ⟨⟨_, _, _, _, _, _, _, _, _, _, _, h8⟩, _⟩
        · exact h8
        · exact h8
      have hCr := hC.move hKr HB.out
      have d0 : wr.cell? ⟨b, off + k * 3, none⟩ = some (.int .u8 (kd : Int)) := by rw [hkd]; exact (hCr.W.cell (p := ⟨b, off + k * 3, none⟩) hbl (by simp)).trans q0
      have d1 : wr.cell? ⟨b, off + k * 3 + 1, none⟩ = some (.int .u16 (at_ : Int)) := by rw [hat]; exact (hCr.W.cell (p := ⟨b, off + k * 3 + 1, none⟩) hbl (by simp)).trans q1
      have d2 : wr.cell? ⟨b, off + k * 3 + 2, none⟩ = some (.int .u64 v) := by rw [hv]; exact (hCr.W.cell (p := ⟨b, off + k * 3 + 2, none⟩) hbl (by simp)).trans q2
      have hki : (k : Int) < (n : Int) := by omega
      have hkb : (k : Int) ≤ 30 := by omega
      have HK := hid hk
      clear hcl q0 q1 q2 q3 q4 q5 q6 hkd hat hv hk hbl
      go_upto_region 3 with fail
      have hDo := At.new wr (doO kd at_ v)
      have k2 := (Keeps.refl [] wr).alloc (doO kd at_ v)
      have hdbc : cm < wr.heap.size ∧ Mb < wr.heap.size ∧ sb < wr.heap.size ∧ kb < wr.heap.size := ⟨hCr.cmt.lt, hCr.m.lt, hCr.s.lt, hCr.k.lt⟩
      obtain ⟨db, hdb⟩ : ∃ db, db = wr.heap.size := ⟨_, rfl⟩
      obtain ⟨w2, hw2⟩ : ∃ w2, w2 = wr.alloc (doO kd at_ v) := ⟨_, rfl⟩
      rw [← hdb] at hDo hdbc ⊢
      rw [← hw2] at hDo k2 ⊢
      clear hw2 hdb d0 d1 d2
      have hC2 := hCr.move (k2.mono (by simp)) HB.out
      have HC := hid hC
      have hcmB : cm < wB.heap.size := hC.cmt.lt
      have hap := hC.ap
      have hcm : cm ∉ mb :: nb :: a.d :: q.bl p a := hap cm (by simp)
      have hkbn : kb ∉ mb :: nb :: a.d :: q.bl p a := hap kb (by simp)
      have hcm2 : ∀ b ∈ mb :: nb :: a.d :: q.bl p a, b ∉ [cm] := fun b hb h => by simp at h; subst h; exact hcm hb
      have hD0 := hDo.cell 0 rfl
      have hD1 := hDo.cell 1 rfl
      have hD2 := hDo.cell 2 rfl
      have m0 := hC2.m.cell 0 rfl
      have s0 := hC2.s.cell 0 rfl
      have f0 := hC2.cmt.cell 0 rfl
      have f1 := hC2.cmt.free 0
      have hkk : (kd : Int) ≤ 255 := by omega
      have hmbc : mb ≠ cm := fun e => hcm (by rw [← e]; simp)
      have hMbc : Mb ≠ cm := hC.c1.2.1.symm
      have hsbc : sb ≠ cm := hC.c1.2.2.1.symm
      clear hC
      rcases hM with hMo | ⟨hSh, hDS⟩
      · have hMo2 := hMo.keep0 k2
        have o2 : w2.cell? ⟨mb, 6, none⟩ = some (.bool true) := by
          obtain ⟨_, _, _, _, _, _, _, hA, _⟩ := hMo2
          exact hA.cell 6 rfl
        have hmbx : ∃ was seen op f t, At w2 mb (mO c (.slice (some ⟨nb, 0, none⟩) (a.n - c.act) ncap) was seen op f t) := by
          obtain ⟨_, _, _, _, _, _, _, hA, _⟩ := hMo2
          exact ⟨_, _, _, _, _, hA⟩
        have hnbx : OwnAt w2 nb 0 (a.n - c.act) (fun i => S.now (c.act + i)) := by
          obtain ⟨_, _, _, _, _, _, _, _, hA, _⟩ := hMo2
          exact hA
        obtain ⟨fl, hfl⟩ : ∃ fl : Bool, fl = decide (kd % 8 = 1) := ⟨_, rfl⟩
        have t1 : ((kd : Int) % 8 == 1) = fl := by
          rw [hfl]
          by_cases h : kd % 8 = 1
          · rw [decide_eq_true h, beq_iff_eq]; omega
          · rw [decide_eq_false h, beq_eq_false_iff_ne]; omega
        have hflc : kd % 8 = 1 → fl = true := fun h => by rw [hfl]; exact decide_eq_true h
        have hfln : kd % 8 ≠ 1 → fl = false := fun h => by rw [hfl]; exact decide_eq_false h
        obtain ⟨hp3, hM3⟩ := hMo2.both hp hcm hcmB 0 (.bool fl)
        have HC3 := hid (HC.out.flag HW.out.1 fl)
        have HC3w := hid (hC2.flag HW.out.1 fl)
        have hks : Keeps [cm] w2 (w2.setCell ⟨cm, 0, none⟩ (.bool fl)) := (Keeps.refl _ _).set (.inl (by simp)) _
        have HMB := hid (show ∃ was seen op f t, At (w2.setCell ⟨cm, 0, none⟩ (.bool fl)) mb (mO c (.slice (some ⟨nb, 0, none⟩) (a.n - c.act) ncap) was seen op f t) from by
          obtain ⟨x1, x2, x3, x4, x5, hA⟩ := hmbx
          exact ⟨x1, x2, x3, x4, x5, hks.at hA (hcm2 mb (by simp))⟩)
        have HNB := hid (hnbx.keep hks (hcm2 nb (by simp)))
        have HP3 := hid hp3
        have HDO := hid (mdo_cut_open hp3 hM3 (by omega) (by omega) hkdb at_ hatb v)
        have HFC := hid hflc
        have HFN := hid hfln

        have m3 := (hC2.m.set_ne (a := ⟨cm, 0, none⟩) hMbc (.bool fl)).cell 0 rfl
        have s3 := (hC2.s.set_ne (a := ⟨cm, 0, none⟩) hsbc (.bool fl)).cell 0 rfl
        have hDo3 := hDo.set_ne (a := ⟨cm, 0, none⟩) (show db ≠ cm by omega) (.bool fl)
        have e0 := hDo3.cell 0 rfl
        have e1 := hDo3.cell 1 rfl
        have e2 := hDo3.cell 2 rfl

        clear hMo hMo2 hM3 hp3 hmbx hnbx hks hfl hflc hfln hDo3 hC2 hDo hCr hKr hp
        have HT := hid t1
        clear t1
        go_cut [] from 13 to 22 (fun wx => wx = w2.setCell ⟨cm, 0, none⟩ (.bool fl))
        case first =>
          have t1 := HT.out
          cases fl with
          | true =>
            go_wp2_with fail
            go_meet
            rfl
          | false =>
            go_wp2_with fail
            go_meet
            rfl
        case rest =>
        subst hcut
        go_wp2_with fail
        refine HDO.out.mono ?_
        rintro e w4 (⟨rfl, u4, S4, r4, hor, hr4, hu4⟩ | hgone)
        · rcases hor with ⟨⟨hk1, _⟩, hM4⟩ | ⟨_, hS4⟩
          · have hff := HFN.out hk1
            have HP4 := HP3
            have HC4 := HC3
            clear m3 s3 e0 e1 e2 hD0 hD1 hD2 m0 s0 f0 f1 o2 HDO
            have hK4 : Keeps (mb :: nb :: q.bl p a) (wB.setCell ⟨cm, 0, none⟩ (.bool fl)) w4 := by
              obtain ⟨_, _, _, _, _, _, _, _, _, _, _, _, _, h8⟩ := hM4
              exact h8
            have hc4 := HC4.out.move hK4 HB.out
            have m4 := hc4.m.cell 0 rfl
            have f4 := hc4.cmt.cell 0 rfl
            have f5 := hc4.cmt.free 0
            have o4 : w4.cell? ⟨mb, 6, none⟩ = some (.bool true) := by
              obtain ⟨_, _, _, _, _, _, _, hA, _⟩ := hM4
              exact hA.cell 6 rfl
            obtain ⟨hp5, hM5⟩ := hM4.both HP4.out hcm HC4.out.cmt.lt 0 (.bool false)
            have HEND := hid (show CSt p a l q c mb nb ncap W lx Mb cm sb kb (some ⟨b, off, none⟩) n cp (k + 1) (w4.setCell ⟨cm, 0, none⟩ (.bool false)) from ⟨_, _, _, _, _, _, _, hp5, HC4.out.flag HW.out.1 false, by omega, by omega, .inl hM5⟩)
            clear hM4 hM5 hp5 hK4 hc4
            go_wp2_with fail
            go_roundg (n - (k + 1))
            case measure => (have := HK.out; omega)
            case rel => exact ⟨k + 1, by have := HK.out; omega, by go_num, HEND.out⟩
          · have HP4 := HP3
            have HC4 := HC3
            clear m3 s3 e0 e1 e2 hD0 hD1 hD2 m0 s0 f0 f1 o2 HDO
            have hK4 : Keeps (mb :: nb :: q.bl p a) (wB.setCell ⟨cm, 0, none⟩ (.bool fl)) w4 := by
              obtain ⟨_, _, _, _, _, _, _, _, _, _, _, h8⟩ := hS4
              exact h8
            have hc4 := HC4.out.move hK4 HB.out
            have m4 := hc4.m.cell 0 rfl
            obtain ⟨x1, l1, cc1, x2, l2, cc2, ff, tt, hA1, hA2, hA3, hA4⟩ := id hS4
            have o4 := hA2.cell 6 rfl
            have o3 := hA2.cell 3 rfl
            have hpn := c_in HP4.out.ok HP4.out.wn
            have HCL := hid (clone_at w4 ⟨nb, 0, none⟩ (a.n - c.act) ncap _ hA3.reads (by omega))
            have hltn : ∀ b ∈ mb :: nb :: a.d :: q.bl p a, b < w4.heap.size := fun b hb => Nat.lt_of_lt_of_le (HP4.out.lt b (by simp only [List.mem_cons] at hb ⊢; rcases hb with h | h | h; exact .inr (.inl h); exact .inl h; exact .inr (.inr h))) hK4.size
            have hltb : ∀ b ∈ [lx, Mb, cm, sb, kb], b < w4.heap.size := fun b hb => by
              simp only [List.mem_cons, List.not_mem_nil, or_false] at hb
              rcases hb with rfl | rfl | rfl | rfl | rfl
              · exact hc4.li.lt
              · exact hc4.m.lt
              · exact hc4.cmt.lt
              · exact hc4.s.lt
              · exact hc4.k.lt
            have Hc4 := hid hc4
            have HS4 := hid hS4
            clear hA1 hA2 hA3 hA4 hS4 hc4 hK4
            go_wp2_with fail
            refine HCL.out.mono ?_
            rintro e w5 ⟨nv, rfl, ⟨g', kcap', ncur, rfl, o1, o2, _, _, _, o6⟩, hk5⟩
            have hc5 := Hc4.out.move (hk5.mono (by simp)) HB.out
            have hrow : OwnAt w5 g' 0 (a.n - c.act) (fun i => S4.now (c.act + i)) := ⟨ncur, o2, fun i hi => by rw [Nat.zero_add]; exact o6 i hi⟩
            have hc6 := hc5.kept HW.out.2 hrow (fun h => by have := hltn _ h; omega) (fun h => by have := hltb _ h; omega) (kcap' := kcap')
            have hc7 := hc6.flag HW.out.1 false
            have z0 := hc5.k.cell 0 rfl
            have z1 := hc5.k.free 0
            have z2 := hc6.cmt.cell 0 rfl
            have z3 := hc6.cmt.free 0
            have hk7 : Keeps [kb, cm] w4 ((w5.setCell ⟨kb, 0, none⟩ (.slice (some ⟨g', 0, none⟩) (a.n - c.act) kcap')).setCell ⟨cm, 0, none⟩ (.bool false)) := ((hk5.mono (by simp)).set (.inl (by simp)) _).set (.inl (by simp)) _
            obtain ⟨hp7, hS7⟩ := MShut.turn HP4.out HS4.out hk7 (fun b hb h => by
              simp only [List.mem_cons, List.not_mem_nil, or_false] at h
              rcases h with rfl | rfl
              · exact hkbn hb
              · exact hcm hb)
            have HEND := hid (show CSt p a l q c mb nb ncap W lx Mb cm sb kb (some ⟨b, off, none⟩) n cp (k + 1) ((w5.setCell ⟨kb, 0, none⟩ (.slice (some ⟨g', 0, none⟩) (a.n - c.act) kcap')).setCell ⟨cm, 0, none⟩ (.bool false)) from ⟨_, _, _, _, _, _, _, hp7, hc7, by omega, by omega, .inr ⟨hS7, fun _ _ _ => rfl⟩⟩)
            clear hc5 hc6 hc7 hrow hk7 hp7 hS7 hk5 o1 o2 o6 o3 o4 m4
            go_wp2_with fail
            go_roundg (n - (k + 1))
            case measure => (have := HK.out; omega)
            case rel => exact ⟨k + 1, by have := HK.out; omega, by go_num, HEND.out⟩
        · obtain ⟨rfl, hE⟩ := hgone.fin HP3.out HC3w.out HB.out HFC.out hr (by omega) (by omega) HMB.out HNB.out
          have HE := hid hE
          clear hE hgone HDO
          go_wp2_with fail
          exact ⟨rfl, .inr ⟨rfl, _, HE.out⟩⟩
      · have hSh2 := hSh.keep0 k2
        have o2 : w2.cell? ⟨mb, 6, none⟩ = some (.bool false) := by
          obtain ⟨_, _, _, _, _, _, _, _, _, hA, _⟩ := hSh2
          exact hA.cell 6 rfl
        have hks : Keeps [cm] w2 (w2.setCell ⟨cm, 0, none⟩ (.bool false)) := (Keeps.refl _ _).set (.inl (by simp)) _
        obtain ⟨hp3, hS3⟩ := MShut.turn hp hSh2 hks hcm2
        have HC3 := hid ((hC2.flag HW.out.1 false).congr hDS)
        have HMB := hid (show ∃ was seen op f t, At (w2.setCell ⟨cm, 0, none⟩ (.bool false)) mb (mO c (.slice (some ⟨nb, 0, none⟩) (a.n - c.act) ncap) was seen op f t) from by
          obtain ⟨_, _, _, _, _, _, _, _, _, hA, _⟩ := hS3
          exact ⟨_, _, _, _, _, hA⟩)
        have HNB := hid (show OwnAt (w2.setCell ⟨cm, 0, none⟩ (.bool false)) nb 0 (a.n - c.act) (fun i => S.now (c.act + i)) from by
          obtain ⟨_, _, _, _, _, _, _, _, _, _, hA, _⟩ := hS3
          exact hA)
        have HP3 := hid hp3
        have HDO := hid (mdo_cut_shut hp3 hS3 (by omega) hkdb at_ hatb v)
        obtain ⟨fl, hfl⟩ : ∃ fl : Bool, fl = decide (kd % 8 = 1) := ⟨_, rfl⟩
        have HT := hid (show ((kd : Int) % 8 == 1) = fl from by
          rw [hfl]
          by_cases h : kd % 8 = 1
          · rw [decide_eq_true h, beq_iff_eq]; omega
          · rw [decide_eq_false h, beq_eq_false_iff_ne]; omega)
        have m3 := (hC2.m.set_ne (a := ⟨cm, 0, none⟩) hMbc (.bool false)).cell 0 rfl
        have s3 := (hC2.s.set_ne (a := ⟨cm, 0, none⟩) hsbc (.bool false)).cell 0 rfl
        have hDo3 := hDo.set_ne (a := ⟨cm, 0, none⟩) (show db ≠ cm by omega) (.bool false)
        have e0 := hDo3.cell 0 rfl
        have e1 := hDo3.cell 1 rfl
        have e2 := hDo3.cell 2 rfl
        clear hSh hSh2 hS3 hp3 hks hfl hDo3 hC2 hDo hCr hKr hp
        go_cut [] from 13 to 22 (fun wx => wx = w2.setCell ⟨cm, 0, none⟩ (.bool false))
        case first =>
          have t1 := HT.out
          cases fl with
          | true =>
            go_wp2_with fail
            go_meet
            rfl
          | false =>
            go_wp2_with fail
            go_meet
            rfl
        case rest =>
        subst hcut
        go_wp2_with fail
        refine HDO.out.mono ?_
        rintro e w4 (⟨rfl, u4, S4, r4, hor, hr4, hu4⟩ | hgone)
        · rcases hor with ⟨_, hM4⟩ | ⟨_, hS4⟩
          · have HP4 := HP3
            have HC4 := HC3
            clear m3 s3 e0 e1 e2 hD0 hD1 hD2 m0 s0 f0 f1 o2 HDO
            have hK4 : Keeps (mb :: nb :: q.bl p a) (w2.setCell ⟨cm, 0, none⟩ (.bool false)) w4 := by
              obtain ⟨_, _, _, _, _, _, _, _, _, _, _, _, _, h8⟩ := hM4
              exact h8
            have hc4 := HC4.out.move hK4 HB.out
            have m4 := hc4.m.cell 0 rfl
            have f4 := hc4.cmt.cell 0 rfl
            have f5 := hc4.cmt.free 0
            have o4 : w4.cell? ⟨mb, 6, none⟩ = some (.bool true) := by
              obtain ⟨_, _, _, _, _, _, _, hA, _⟩ := hM4
              exact hA.cell 6 rfl
            obtain ⟨hp5, hM5⟩ := hM4.both HP4.out hcm HC4.out.cmt.lt 0 (.bool false)
            have HEND := hid (show CSt p a l q c mb nb ncap W lx Mb cm sb kb (some ⟨b, off, none⟩) n cp (k + 1) (w4.setCell ⟨cm, 0, none⟩ (.bool false)) from ⟨_, _, _, _, _, _, _, hp5, HC4.out.flag HW.out.1 false, by omega, by omega, .inl hM5⟩)
            clear hM4 hM5 hp5 hK4 hc4
            go_wp2_with fail
            go_roundg (n - (k + 1))
            case measure => (have := HK.out; omega)
            case rel => exact ⟨k + 1, by have := HK.out; omega, by go_num, HEND.out⟩
          · have HP4 := HP3
            have HC4 := HC3
            clear m3 s3 e0 e1 e2 hD0 hD1 hD2 m0 s0 f0 f1 o2 HDO
            have hK4 : Keeps (mb :: nb :: q.bl p a) (w2.setCell ⟨cm, 0, none⟩ (.bool false)) w4 := by
              obtain ⟨_, _, _, _, _, _, _, _, _, _, _, h8⟩ := hS4
              exact h8
            have hc4 := HC4.out.move hK4 HB.out
            have m4 := hc4.m.cell 0 rfl
            obtain ⟨x1, l1, cc1, x2, l2, cc2, ff, tt, hA1, hA2, hA3, hA4⟩ := id hS4
            have o4 := hA2.cell 6 rfl
            have o3 := hA2.cell 3 rfl
            have hpn := c_in HP4.out.ok HP4.out.wn
            have HCL := hid (clone_at w4 ⟨nb, 0, none⟩ (a.n - c.act) ncap _ hA3.reads (by omega))
            have hltn : ∀ b ∈ mb :: nb :: a.d :: q.bl p a, b < w4.heap.size := fun b hb => Nat.lt_of_lt_of_le (HP4.out.lt b (by simp only [List.mem_cons] at hb ⊢; rcases hb with h | h | h; exact .inr (.inl h); exact .inl h; exact .inr (.inr h))) hK4.size
            have hltb : ∀ b ∈ [lx, Mb, cm, sb, kb], b < w4.heap.size := fun b hb => by
              simp only [List.mem_cons, List.not_mem_nil, or_false] at hb
              rcases hb with rfl | rfl | rfl | rfl | rfl
              · exact hc4.li.lt
              · exact hc4.m.lt
              · exact hc4.cmt.lt
              · exact hc4.s.lt
              · exact hc4.k.lt
            have Hc4 := hid hc4
            have HS4 := hid hS4
            clear hA1 hA2 hA3 hA4 hS4 hc4 hK4
            go_wp2_with fail
            refine HCL.out.mono ?_
            rintro e w5 ⟨nv, rfl, ⟨g', kcap', ncur, rfl, o1, o2, _, _, _, o6⟩, hk5⟩
            have hc5 := Hc4.out.move (hk5.mono (by simp)) HB.out
            have hrow : OwnAt w5 g' 0 (a.n - c.act) (fun i => S4.now (c.act + i)) := ⟨ncur, o2, fun i hi => by rw [Nat.zero_add]; exact o6 i hi⟩
            have hc6 := hc5.kept HW.out.2 hrow (fun h => by have := hltn _ h; omega) (fun h => by have := hltb _ h; omega) (kcap' := kcap')
            have hc7 := hc6.flag HW.out.1 false
            have z0 := hc5.k.cell 0 rfl
            have z1 := hc5.k.free 0
            have z2 := hc6.cmt.cell 0 rfl
            have z3 := hc6.cmt.free 0
            have hk7 : Keeps [kb, cm] w4 ((w5.setCell ⟨kb, 0, none⟩ (.slice (some ⟨g', 0, none⟩) (a.n - c.act) kcap')).setCell ⟨cm, 0, none⟩ (.bool false)) := ((hk5.mono (by simp)).set (.inl (by simp)) _).set (.inl (by simp)) _
            obtain ⟨hp7, hS7⟩ := MShut.turn HP4.out HS4.out hk7 (fun b hb h => by
              simp only [List.mem_cons, List.not_mem_nil, or_false] at h
              rcases h with rfl | rfl
              · exact hkbn hb
              · exact hcm hb)
            have HEND := hid (show CSt p a l q c mb nb ncap W lx Mb cm sb kb (some ⟨b, off, none⟩) n cp (k + 1) ((w5.setCell ⟨kb, 0, none⟩ (.slice (some ⟨g', 0, none⟩) (a.n - c.act) kcap')).setCell ⟨cm, 0, none⟩ (.bool false)) from ⟨_, _, _, _, _, _, _, hp7, hc7, by omega, by omega, .inr ⟨hS7, fun _ _ _ => rfl⟩⟩)
            clear hc5 hc6 hc7 hrow hk7 hp7 hS7 hk5 o1 o2 o6 o3 o4 m4
            go_wp2_with fail
            go_roundg (n - (k + 1))
            case measure => (have := HK.out; omega)
            case rel => exact ⟨k + 1, by have := HK.out; omega, by go_num, HEND.out⟩
        · obtain ⟨rfl, hE⟩ := hgone.fin HP3.out HC3.out HB.out (fun h => h.elim) hr (by omega) (by omega) HMB.out HNB.out
          have HE := hid hE
          clear hE hgone HDO
          go_wp2_with fail
          exact ⟨rfl, .inr ⟨rfl, _, HE.out⟩⟩
    · have hke : k = n := by omega
      have HF := hid (hSk.fin (by omega) HB.out)
      subst hke
      clear hk hlt hSk
      go_wp2_with fail
      go_end0
      exact .inl ⟨rfl, HF.out⟩

end Go.Proofs.YtkoflpcpopmkkaaGreat
