/- The walk of the law RootsWrites. -/
import Derived.Test.YtkoflpcpopmkkaaGreatAwk8
import Derived.Test.YtkoflpcpopmkkaaGreatOne8
import Derived.Test.YtkoflpcpopmkkaaGreatArgs
namespace Go.Proofs.YtkoflpcpopmkkaaGreat
open Go.RowKit Go.OpenShut

/-- Behind some stores: Active, Used, so many roots of those that there are, the others noughts. -/
def RWb (c : Cfg) (A U : Int) (m n : Nat) (f : Nat → Int) (S : DS) : Prop :=
  S.now c.act = A ∧ S.now (c.act + 1) = U ∧ (∀ i, i < m → S.now (c.root i) = if i < n then f i else 0) ∧ ∀ i, m ≤ i → i < c.roots → S.now (c.root i) = 0

theorem RWb.store {c : Cfg} {A U : Int} {m n : Nat} {f : Nat → Int} {S : DS} (h : RWb c A U m n f S) (hm : m < n) : RWb c A U (m + 1) n f (execs S [.st (c.root m) (f m)]) := by
  obtain ⟨h1, h2, h3, h4⟩ := h
  have e : ∀ j, (execs S [.st (c.root m) (f m)]).now j = if j = c.root m then f m else S.now j := fun j => rfl
  refine ⟨?_, ?_, fun i hi => ?_, fun i hi hj => ?_⟩
  · rw [e, if_neg (by unfold Cfg.root; omega)]; exact h1
  · rw [e, if_neg (by unfold Cfg.root; omega)]; exact h2
  · rw [e]
    by_cases him : i = m
    · subst him; rw [if_pos rfl, if_pos hm]
    · rw [if_neg (by unfold Cfg.root; omega)]; exact h3 i (by omega)
  · rw [e, if_neg (by unfold Cfg.root; omega)]; exact h4 i (by omega) hj

theorem RWb.skip {c : Cfg} {A U : Int} {m n : Nat} {f : Nat → Int} {S : DS} (h : RWb c A U m n f S) (hm : ¬ m < n) (hr : m < c.roots) : RWb c A U (m + 1) n f S := by
  obtain ⟨h1, h2, h3, h4⟩ := h
  refine ⟨h1, h2, fun i hi => ?_, fun i hi hj => h4 i (by omega) hj⟩
  by_cases him : i = m
  · subst him; rw [if_neg hm]; exact h4 i (by omega) hr
  · exact h3 i (by omega)

theorem RWb.begin {c : Cfg} {S : DS} (h : LaidF c S.now) (A U : Int) (n : Nat) (f : Nat → Int) : RWb c A U 0 n f (execs (execs S [.st c.act A]) [.st (c.act + 1) U]) := by
  have e : ∀ j, (execs (execs S [.st c.act A]) [.st (c.act + 1) U]).now j = if j = c.act + 1 then U else if j = c.act then A else S.now j := fun j => rfl
  refine ⟨?_, ?_, fun i hi => by omega, fun i _ hi => ?_⟩
  · rw [e, if_neg (by omega), if_pos rfl]
  · rw [e, if_pos rfl]
  · rw [e, if_neg (by unfold Cfg.root; omega), if_neg (by unfold Cfg.root; omega)]
    have := h.blk (2 + i) (by omega)
    rwa [show c.act + (2 + i) = c.root i by unfold Cfg.root; omega] at this

theorem OwnU.alloc {w : World} {B : Nat} {x : Option Addr} {cp n : Nat} {f : Nat → Int} (h : OwnU w B x cp n f) (o : Obj) : OwnU (w.alloc o) B x cp n f := h.keep ((Keeps.refl [] w).alloc o) (by simp)

/-- What a law's two rows, and a block with one of them, are behind a round. -/
def RowsB (bb : Nat) (k1 u1 : Int) (m : Nat) (rr vv : Nat → Int) (s17 : Value) (wr : World) : Prop :=
  ∃ g cw xr cr, s17 = .slice (some ⟨g, 0, none⟩) (2 + m) cw ∧ OwnU wr (bb + 1) (some ⟨g, 0, none⟩) cw (2 + m) vv ∧ At wr bb (bkO k1 u1 (.slice xr m cr)) ∧ OwnU wr (bb + 1) xr cr m rr ∧ (∀ b ∈ blkL xr, b ≠ g)

theorem rowsB_end {bb : Nat} {k1 u1 : Int} {m : Nat} {rr vv : Nat → Int} {wc w5 w6 : World} {g cw cr g1 cap1 g2 cap2 : Nat} {xr : Option Addr} {o1 o2 : Obj} {v1 v2 : Int}
    (hBk : At wc bb (bkO k1 u1 (.slice xr m cr))) (hOW : OwnU wc (bb + 1) (some ⟨g, 0, none⟩) cw (2 + m) vv) (hOR : OwnU wc (bb + 1) xr cr m rr) (hap : ∀ b ∈ blkL xr, b ≠ g)
    (h5 : OwnU w5 (bb + 1) (some ⟨g1, 0, none⟩) cap1 (m + 1) (put rr m v1)) (e1 : v1 = rr m) (hk5 : Keeps (blkL xr) (wc.alloc o1) w5) (hg5 : blkL xr = [g1] ∨ (wc.alloc o1).heap.size ≤ g1)
    (h6 : OwnU w6 (bb + 1) (some ⟨g2, 0, none⟩) cap2 (2 + m + 1) (put vv (2 + m) v2)) (e2 : put vv (2 + m) v2 = vv) (hk6 : Keeps (blkL (some ⟨g, 0, none⟩)) (w5.alloc o2) w6) (hg6 : blkL (some ⟨g, 0, none⟩) = [g2] ∨ (w5.alloc o2).heap.size ≤ g2) :
    RowsB bb k1 u1 (m + 1) rr vv (.slice (some ⟨g2, 0, none⟩) (2 + m + 1) cap2) (w6.setCell ⟨bb, 2, none⟩ (.slice (some ⟨g1, 0, none⟩) (m + 1) cap1)) ∧ Keeps (bb :: g :: blkL xr) wc (w6.setCell ⟨bb, 2, none⟩ (.slice (some ⟨g1, 0, none⟩) (m + 1) cap1)) := by
  have hgx : ∀ b ∈ blkL xr, bb + 1 ≤ b := fun b hb => (hOR.ge b hb).1
  have hgg := hOW.ge g (by simp [blkL])
  have hz1 : (wc.alloc o1).heap.size = wc.heap.size + 1 := by simp
  have hz2 : (w5.alloc o2).heap.size = w5.heap.size + 1 := by simp
  have hg1 := h5.ge g1 (by simp [blkL])
  have hg2 := h6.ge g2 (by simp [blkL])
  have hne : g1 ≠ g := by
    rcases hg5 with h | h
    · exact hap g1 (by rw [h]; simp)
    · omega
  have hne2 : g1 ≠ g2 := by
    rcases hg6 with h | h
    · simp [blkL] at h; omega
    · omega
  have K6 : Keeps (g :: blkL xr) wc w6 := ((((Keeps.refl (g :: blkL xr) wc).alloc o1).trans (hk5.mono (by simp +contextual))).alloc o2).trans (hk6.mono (by intro k _ hk; simp [blkL] at hk; rw [hk]; simp))
  have hB6 := K6.at hBk (by
    intro h
    rcases List.mem_cons.1 h with h | h
    · omega
    · have := hgx _ h; omega)
  have ks : Keeps [bb] w6 (w6.setCell ⟨bb, 2, none⟩ (.slice (some ⟨g1, 0, none⟩) (m + 1) cap1)) := (Keeps.refl _ _).set (.inl (by simp)) _
  refine ⟨⟨g2, cap2, some ⟨g1, 0, none⟩, cap1, rfl, ?_, hB6.set 2 _, ?_, ?_⟩, (K6.mono (by simp +contextual)).trans (ks.mono (by simp +contextual))⟩
  · rw [e2] at h6
    exact h6.keep ks (by simp [blkL]; omega)
  · have e : OwnU w5 (bb + 1) (some ⟨g1, 0, none⟩) cap1 (m + 1) rr := h5.eq fun i hi => by
      by_cases h : i = m
      · subst h; rw [put_on, e1]
      · rw [put_off _ _ h]
    exact ((e.alloc o2).keep hk6 (by simp [blkL]; exact hne)).keep ks (by simp [blkL]; omega)
  · simp [blkL]; exact hne2

/-- A block's words by their places. -/
def vvF (p q : Int) (f : Nat → Int) (j : Nat) : Int := if j = 0 then p else if j = 1 then q else f (j - 2)

theorem ownU_two {w : World} {B g : Nat} {p q : Int} (f : Nat → Int) (h : At w g (.cells #[.int .u64 p, .int .u64 q] 27)) (hB : B ≤ g) : OwnU w B (some ⟨g, 0, none⟩) 2 2 (vvF p q f) :=
  ⟨rfl, .inr ⟨g, 2, _, rfl, hB, h, Nat.le_refl _, by decide, rfl, rfl⟩⟩

theorem vv_put (p q : Int) (f : Nat → Int) (m : Nat) (v : Int) (hv : v = f m) : put (vvF p q f) (2 + m) v = vvF p q f := by
  funext j
  by_cases h : j = 2 + m
  · subst h; rw [put_on, hv]; unfold vvF; rw [if_neg (by omega), if_neg (by omega)]; congr 1; omega
  · rw [put_off _ _ h]

theorem blkW_vv (c : Cfg) (k u : Int) (n : Nat) (f : Nat → Int) : blkW c k u n f = (List.range (n + 2)).map fun j => (c.act + j, vvF k u f j) := by
  unfold blkW
  rw [List.range_succ_eq_map, List.range_succ_eq_map]
  simp only [List.map_cons, List.map_map]
  rw [List.cons.injEq, List.cons.injEq]
  refine ⟨rfl, rfl, List.map_congr_left fun i _ => ?_⟩
  show (c.root i, f i) = (c.act + (i + 1 + 1), vvF k u f (i + 1 + 1))
  unfold vvF
  rw [if_neg (by omega), if_neg (by omega), show c.root i = c.act + (i + 1 + 1) by unfold Cfg.root; omega]
  rfl

theorem wrG_none8 {σ : Type} {now : σ → DS} {T : σ → Nat → Int → Int → σ → Prop} : ∀ {l : List (Nat × Int)} {s : σ} {w : World}, ¬ WrG now T (fun _ _ _ _ => False) l s w
  | [], _, _, h => h
  | (i, v) :: l, S, w, h => by
    rcases h with ⟨_, h⟩ | ⟨s1, _, h⟩
    · exact h
    · exact wrG_none8 h

/-- What is wanted of a block's first i words: on, or at an end. -/
def RunA (S : DS) (q : Nat) (c : Cfg) (k u : Int) (rr : Nat → Int) (i : Nat) (L : List (Nat × Int)) (code : Int) : Prop :=
  (code = 0 ∧ L.length ≤ q ∧ runL S q [] (blkW c k u c.roots rr) = runL S q L ((blkW c k u c.roots rr).drop i)) ∨ (code = 3 ∧ runL S q [] (blkW c k u c.roots rr) = (3, L))

theorem blkW_drop (c : Cfg) (k u : Int) (n : Nat) (f : Nat → Int) {i : Nat} (h : i < n + 2) : (blkW c k u n f).drop i = (c.act + i, vvF k u f i) :: (blkW c k u n f).drop (i + 1) := by
  rw [blkW_vv]
  have hl : i < ((List.range (n + 2)).map fun j => (c.act + j, vvF k u f j)).length := by simpa using h
  rw [List.drop_eq_getElem_cons hl]
  simp

theorem RunA.skip {S : DS} {q : Nat} {c : Cfg} {k u : Int} {rr : Nat → Int} {i : Nat} {L : List (Nat × Int)} {code : Int} (h : RunA S q c k u rr i L code) (hi : i < c.roots + 2) (he : S.now (c.act + i) = vvF k u rr i ∨ code ≠ 0) : RunA S q c k u rr (i + 1) L code := by
  rcases h with ⟨h1, h2, h3⟩ | ⟨h1, h2⟩
  · refine .inl ⟨h1, h2, ?_⟩
    rw [h3, blkW_drop c k u c.roots rr hi]
    show (if S.now (c.act + i) = vvF k u rr i then _ else _) = _
    rw [if_pos (he.resolve_right (fun h => h h1))]
  · exact .inr ⟨h1, h2⟩

theorem RunA.more {S : DS} {q : Nat} {c : Cfg} {k u : Int} {rr : Nat → Int} {i : Nat} {L : List (Nat × Int)} (h : RunA S q c k u rr i L 0) (hi : i < c.roots + 2) (he : S.now (c.act + i) ≠ vvF k u rr i) :
    RunA S q c k u rr (i + 1) (L ++ [(c.act + i, vvF k u rr i)]) (if L.length = q then 3 else 0) := by
  rcases h with ⟨h1, h2, h3⟩ | ⟨h1, _⟩
  · rw [blkW_drop c k u c.roots rr hi] at h3
    have h4 : runL S q [] (blkW c k u c.roots rr) = if L.length = q then (3, L ++ [(c.act + i, vvF k u rr i)]) else runL S q (L ++ [(c.act + i, vvF k u rr i)]) ((blkW c k u c.roots rr).drop (i + 1)) := by
      rw [h3]
      show (if S.now (c.act + i) = vvF k u rr i then _ else _) = _
      rw [if_neg he]
    by_cases hq : L.length = q
    · rw [if_pos hq] at h4 ⊢
      exact .inr ⟨rfl, h4⟩
    · rw [if_neg hq] at h4 ⊢
      exact .inl ⟨rfl, by simp; omega, h4⟩
  · exact absurd h1 (by decide)

theorem RunA.ends {S : DS} {q : Nat} {c : Cfg} {k u : Int} {rr : Nat → Int} {L : List (Nat × Int)} {code : Int} (h : RunA S q c k u rr (2 + c.roots) L code) : runL S q [] (blkW c k u c.roots rr) = (code, L) := by
  rcases h with ⟨rfl, _, h3⟩ | ⟨rfl, h3⟩
  · rw [h3, List.drop_eq_nil_of_le (by rw [blkW_len]; omega)]
    rfl
  · exact h3

set_option maxRecDepth 100000 in
set_option maxHeartbeats 4000000 in
theorem writes_small (l r s ac st a0 a1 : Nat) (x : Option Addr) (n cp : Nat) (f : Nat → Int) (y : Option Addr) (n2 cp2 : Nat) (f2 : Nat → Int) (W : World) (hl : l ≤ 65535) (hr : r ≤ 65535) (hs : s ≤ 65535) (ha : ac ≤ 255) (hst : st ≤ 255) (h0a : a0 ≤ 65535) (h1a : a1 ≤ 65535) (hx : Reads W x n f) (hnm : n ≤ 9223372036854775807) (hy : Reads W y n2 f2) (hnm2 : n2 ≤ 9223372036854775807) :
    Calls Tryz.prog 6 #[c3V l r s, .slice x n cp, .slice y n2 cp2, .int .u8 ac, .int .u8 st, .agg #[.int .u16 a0, .int .u16 a1]] W fun e w' => e = .returned (.bool true) ∧ Below W.heap.size W w' := by
  have hai : (ac : Int) ≤ 255 := by omega
  have hsti : (st : Int) ≤ 255 := by omega
  have h0i : (a0 : Int) ≤ 65535 := by omega
  have h1i : (a1 : Int) ≤ 65535 := by omega
  have hni : (n : Int) ≤ 9223372036854775807 := by omega
  have hni2 : (n2 : Int) ≤ 9223372036854775807 := by omega
  have HX := hid hx
  have HY := hid hy
  clear hx hy
  go_enter Tryz.func6, Tryz.ntmps6
  go_wp2_with fail
  have hB0 := ((At.new W (c3O l r s)).alloc (.cells #[.int .u8 st] 5)).alloc (.cells #[.int .u16 a0, .int .u16 a1] 82)
  have hS0 := (At.new (W.alloc (c3O l r s)) (.cells #[.int .u8 st] 5)).alloc (.cells #[.int .u16 a0, .int .u16 a1] 82)
  have hU0 := At.new ((W.alloc (c3O l r s)).alloc (.cells #[.int .u8 st] 5)) (.cells #[.int .u16 a0, .int .u16 a1] 82)
  rw [show (W.alloc (c3O l r s)).heap.size = W.heap.size + 1 by simp] at hS0
  rw [show ((W.alloc (c3O l r s)).alloc (.cells #[.int .u8 st] 5)).heap.size = W.heap.size + 1 + 1 by simp] at hU0
  have K0 := (((Keeps.refl [] W).alloc (c3O l r s)).alloc (.cells #[.int .u8 st] 5)).alloc (.cells #[.int .u16 a0, .int .u16 a1] 82)
  refine (awake8_any _).mono ?_
  rintro e w1 ⟨rfl, hb1⟩
  have k1 := Go.Proofs.YtkoflpcpopmkkaaGreat.Below.keeps hb1 []
  have K1 := K0.trans k1
  have hB1 := k1.at hB0 (by simp)
  have hS1 := k1.at hS0 (by simp)
  have hU1 := k1.at hU0 (by simp)
  clear hb1 k1 hB0 hS0 hU0 K0
  have c0 : w1.cell? ⟨W.heap.size, 0, none⟩ = some (.int .u16 l) := hB1.cell 0 rfl
  have c1 : w1.cell? ⟨W.heap.size, 1, none⟩ = some (.int .u16 r) := hB1.cell 1 rfl
  have c2 : w1.cell? ⟨W.heap.size, 2, none⟩ = some (.int .u16 s) := hB1.cell 2 rfl
  by_cases hn : n ≤ 20
  case neg =>
    have hn2 : (20 : Int) < (n : Int) := by omega
    go_wp2_with fail
    go_ret
    exact ⟨rfl, K1.below (Nat.le_refl _) (by simp)⟩
  by_cases hm : n2 ≤ 20
  case neg =>
    have hn3 : ¬ (20 : Int) < (n : Int) := by omega
    have hn2 : (20 : Int) < (n2 : Int) := by omega
    go_wp2_with fail
    go_ret
    exact ⟨rfl, K1.below (Nat.le_refl _) (by simp)⟩
  have hni3 : (n : Int) ≤ 20 := by omega
  have hni4 : (n2 : Int) ≤ 20 := by omega
  clear hni hni2
  have td1 : decide ((20 : Int) < (n : Int)) = false := decide_eq_false (by omega)
  have td2 : decide ((20 : Int) < (n2 : Int)) = false := decide_eq_false (by omega)
  have td3 : decide (20 < n) = false := decide_eq_false (by omega)
  have td4 : decide (20 < n2) = false := decide_eq_false (by omega)
  go_wp2_with fail
  refine (make3_at w1 l r s hl hr hs).mono ?_
  rintro e w2 ⟨rfl, hk2⟩
  have K2 := K1.trans hk2
  have hS2 := hk2.at hS1 (by simp)
  have hU2 := hk2.at hU1 (by simp)
  have hok := mk3_ok l r s
  obtain ⟨c, hc⟩ : ∃ c, c = mk3 l r s := ⟨_, rfl⟩
  rw [← hc] at hok ⊢
  clear hc c0 c1 c2 hB1 hS1 hU1 hk2 K1
  go_wp2_with fail
  have hC3 := At.new w2 (cfgO c)
  have K3 := K2.alloc (cfgO c)
  have hS3 := hS2.alloc (cfgO c)
  have hU3 := hU2.alloc (cfgO c)
  have hul := hU2.lt
  obtain ⟨sb, hsb⟩ : ∃ sb, sb = W.heap.size + 1 := ⟨_, rfl⟩
  obtain ⟨ub, hub0⟩ : ∃ ub, ub = W.heap.size + 1 + 1 := ⟨_, rfl⟩
  rw [← hub0] at hU3 hul ⊢
  rw [← hsb] at hS3 ⊢
  obtain ⟨cb, hcb⟩ : ∃ cb, cb = w2.heap.size := ⟨_, rfl⟩
  rw [← hcb] at hC3 hul ⊢
  have HCB := hid hcb
  have HLO := hid (show W.heap.size ≤ sb ∧ sb < ub ∧ ub < cb from ⟨by omega, by omega, hul⟩)
  clear hcb hsb hub0 hul K2 hS2 hU2
  refine (formatted_at _ c hok none 0 0 (fun _ => 0) (.inl rfl) (by omega)).mono ?_
  rintro e w4 ⟨p, a, u, S, rfl, haN, hP, hub, hW, hkp, his, ⟨b1, b2, b3, b4, b5⟩, hk4⟩
  simp only [World.size_alloc] at b1 b2 b3 b4 b5
  rw [← HCB.out] at b1 b2 b3 b4 b5
  have hC4 := hk4.at hC3 (by simp)
  have hS4 := hk4.at hS3 (by simp)
  have hU4 := hk4.at hU3 (by simp)
  have K4 := K3.trans hk4
  obtain ⟨_, hLF⟩ := hW
  have HLF := hid hLF
  have HN := hid haN
  have HO := hid hok
  have h0 := hP.lo
  have hsp : (c.space : Int) ≤ 4096 := by have := hok.small.2.2; omega
  have hwd := words_ge hok
  have hwi : (c.words : Int) ≤ 15000 := by omega
  have HBK := hid (show cb < a.d ∧ cb < a.s ∧ cb < a.k ∧ cb < a.m ∧ cb < p from ⟨by omega, by omega, by omega, by omega, by omega⟩)
  clear haN hok hkp his hC3 K3 hk4 hLF b1 b2 b3 b4 b5 hwd hS3 hU3
  have c0 := hC4.cell 0 rfl
  have c1 := hC4.cell 1 rfl
  have c2 := hC4.cell 2 rfl
  have HB := HBK.out
  have HLO' := HLO.out
  have hcT : cb ∉ [p, a.s, a.k, a.m] ∧ sb ∉ [p, a.s, a.k, a.m] ∧ ub ∉ [p, a.s, a.k, a.m] := by simp; omega
  have hWT : ∀ b ∈ [p, a.s, a.k, a.m], b ∈ ([] : List Nat) ∨ W.heap.size ≤ b := by simp; omega
  have HCT := hid hcT
  have HWT := hid hWT
  have hpl := places HO.out
  have hci := c_in HO.out HN.out
  have haci : (c.act : Int) ≤ 823 := by have := act_le HO.out.small; omega
  have hrt : (c.roots : Int) ≤ 16 := by have := HO.out.2.1; omega
  have HIN : Hid (c.act + 2 + c.roots ≤ a.n) := by rw [← HN.out]; exact hpl.2.1
  clear hpl hci HB HLO' hcT hWT
  obtain ⟨k0, hk0⟩ : ∃ k, k = ac % 2 := ⟨_, rfl⟩
  have EA := hid (show bits .and .u8 (ac : Int) 1 = (k0 : Int) by rw [and1_u8 ac ha, hk0])
  have hk0b : (k0 : Int) ≤ 1 := by omega
  have E64 := hid (show IntKind.u64.wrap (k0 : Int) = (k0 : Int) from IntWalk.u64_in _ (by omega))
  obtain ⟨sp, hsp2⟩ : ∃ sp : Nat, sp = c.space + 1 := ⟨_, rfl⟩
  obtain ⟨u0, hu0⟩ : ∃ u0, u0 = a0 % sp := ⟨_, rfl⟩
  obtain ⟨u1, hu1⟩ : ∃ u1, u1 = a1 % sp := ⟨_, rfl⟩
  have hu0l : (u0 : Int) ≤ 4096 := by have := Nat.mod_lt a0 (show 0 < sp by omega); omega
  have hu1s : u1 ≤ c.space := by have := Nat.mod_lt a1 (show 0 < sp by omega); omega
  have g1 : (c.space : Int) + 1 = (sp : Int) := by omega
  have n1 : ¬ (sp : Int) = 0 := by omega
  have n3 : ¬ sp = 0 := by omega
  have e1 : IntKind.i64.wrap (sp : Int) = (sp : Int) := IntWalk.i64_in _ (by omega)
  have EU0 := hid (show (a0 : Int) % (sp : Int) = (u0 : Int) by rw [hu0]; simp)
  have EU0t := hid (show IntKind.u64.wrap ((IntKind.i64.wrap (a0 : Int)).tmod (sp : Int)) = (u0 : Int) by rw [IntWalk.i64_in (a0 : Int) (by omega), Int.tmod_eq_emod_of_nonneg (by omega), EU0.out]; exact IntWalk.u64_in _ (by omega))
  have EU1 := hid (show (a1 : Int) % (sp : Int) = (u1 : Int) by rw [hu1]; simp)
  have EW0 := hid (show IntKind.u64.wrap (u0 : Int) = (u0 : Int) from IntWalk.u64_in _ (by omega))
  obtain ⟨k1, hk1⟩ : ∃ k, k = ac / 2 % 2 := ⟨_, rfl⟩
  have hk1b : k1 ≤ 1 := by omega
  have EK1 := hid (show wrap64 (bits .and .u8 ((ac : Int) / 2) 1) = (k1 : Int) by
    rw [show (ac : Int) / 2 = ((ac / 2 : Nat) : Int) by omega, and1_u8 _ (by omega), ← hk1]; exact IntWalk.wrap64_in _ (by omega))
  have hk1i : (k1 : Int) ≤ 1 := by omega
  have hu1i : (u1 : Int) ≤ 4096 := by omega
  have EW1 : IntKind.u64.wrap (k1 : Int) = (k1 : Int) := IntWalk.u64_in _ (by omega)
  have EW2 : IntKind.u64.wrap (u1 : Int) = (u1 : Int) := IntWalk.u64_in _ (by omega)
  clear hk0 hsp2 hu0 hu1 hk1
  go_wp2_with fail
  refine (active_at _ c HO.out.small).mono ?_
  rintro e w6 ⟨rfl, hk6⟩
  have hC6 := hk6.at hC4 (by simp)
  have hS6 := hk6.at hS4 (by simp)
  have hU6 := hk6.at hU4 (by simp)
  have hP6 := hP.keep0 hk6
  have K6 := K4.trans hk6
  clear c0 c1 c2 hC4 hS4 hU4 hP K4 hk6
  go_wp2_with fail
  rw [EA.out, E64.out]
  refine (store_ran w6 p a (-1) u S c.act k0 hP6 (by have := HIN.out; omega) (by omega)).mono ?_
  intro e w7 hr7
  obtain ⟨rfl, hP7, hk7⟩ := hr7.free h0
  have hC7 := hk7.at hC6 HCT.out.1
  have hS7 := hk7.at hS6 HCT.out.2.1
  have hU7 := hk7.at hU6 HCT.out.2.2
  have K7 := K6.new hk7 HWT.out
  clear hr7 hC6 hS6 hU6 hP6 K6 hk7
  go_upto_region 10 with fail
  have HC : Hid (∀ w', Keeps [p, a.s, a.k, a.m] w7 w' → (w'.cell? ⟨cb, 0, none⟩ = some (.int .i64 c.log) ∧ w'.cell? ⟨cb, 1, none⟩ = some (.int .i64 c.roots) ∧ w'.cell? ⟨cb, 2, none⟩ = some (.int .i64 c.space) ∧ w'.cell? ⟨ub, 0, none⟩ = some (.int .u16 a0))) :=
    fun w' hk => ⟨(hk.at hC7 HCT.out.1).cell 0 rfl, (hk.at hC7 HCT.out.1).cell 1 rfl, (hk.at hC7 HCT.out.1).cell 2 rfl, (hk.at hU7 HCT.out.2.2).cell 0 rfl⟩
  have HST := hid (fun (w' : World) (hk : Keeps [] w7 w') => show Calls Tryz.prog 36 #[ptr a.d, .int .i64 ((c.act : Int) + 1), .int .u64 u0] w' _ from store_ran w' p a (-1) _ _ (c.act + 1) u0 (hP7.keep0 hk) (by have := HIN.out; omega) (by simp; omega))
  have kk : Keeps [] w7 w7.drew := (Keeps.refl _ _).drew
  have HP7 := hid hP7
  clear hP7
  go_region_held3 (fun w' => w'.cell? ⟨cb, 0, none⟩ = some (.int .i64 c.log) ∧ w'.cell? ⟨cb, 1, none⟩ = some (.int .i64 c.roots) ∧ w'.cell? ⟨cb, 2, none⟩ = some (.int .i64 c.space) ∧ w'.cell? ⟨ub, 0, none⟩ = some (.int .u16 a0))
    (first | exact HC.out _ ((kk.mono (by simp)).trans hk9) | exact HC.out _ (kk.mono (by simp)))
    (first
      | (go_at_call 37; refine (usedw_at _ c HO.out.small).mono ?_; rintro e w' ⟨rfl, hk1⟩; have kk := kk.trans hk1; clear hk1)
      | (go_at_call 36; rw [EU0t.out]; refine (HST.out _ kk).mono ?_; intro e w9 hr9; obtain ⟨rfl, hP9, hk9⟩ := hr9.free (by simp; omega)))
  have hC9 := hk9.at (kk.at hC7 (by simp)) HCT.out.1
  have hS9 := hk9.at (kk.at hS7 (by simp)) HCT.out.2.1
  have hU9 := hk9.at (kk.at hU7 (by simp)) HCT.out.2.2
  have K9 := (K7.trans kk).new hk9 HWT.out
  clear HST HC HP7 hr9 hC7 hS7 hU7 K7 kk hk9
  have c0 := hC9.cell 0 rfl
  have c1 := hC9.cell 1 rfl
  have c2 := hC9.cell 2 rfl
  have x0 := hU9.cell 0 rfl
  have x1 := hU9.cell 1 rfl
  go_upto_region 12 with fail
  have EI0 : IntKind.i64.wrap (a0 : Int) = (a0 : Int) := IntWalk.i64_in _ (by omega)
  have EI1 : (a0 : Int).tmod (sp : Int) = (a0 : Int) % (sp : Int) := Int.tmod_eq_emod_of_nonneg (by omega)
  rw [EK1.out, EU1.out, EI0, EI1]
  clear EI0 EI1
  have hBk := At.new w9 (bkO k1 u1 (.slice none 0 0))
  have k11 := (Keeps.refl [] w9).alloc (bkO k1 u1 (.slice none 0 0))
  have hC11 := k11.at hC9 (by simp)
  have hS11 := k11.at hS9 (by simp)
  have hP11 := hP9.keep0 k11
  have K11 := K9.trans k11
  have hdb := hP9.dev.fresh (Nat.le_refl _)
  have hpb := hP9.pow.lt
  have hcl := hC9.lt
  have hsl := hS9.lt
  have hzz : (w9.alloc (bkO k1 u1 (.slice none 0 0))).heap.size = w9.heap.size + 1 := by simp
  have hwz := K9.size
  have hdl : a.d < w9.heap.size ∧ ∀ b ∈ [p, a.s, a.k, a.m], b < w9.heap.size := ⟨hP9.dev.dev.lt, fun b hb => by
    simp only [List.mem_cons, List.not_mem_nil, or_false] at hb
    rcases hb with rfl | rfl | rfl | rfl
    · exact hP9.pow.lt
    · exact hP9.dev.now.lt
    · exact hP9.dev.kept.lt
    · exact hP9.dev.map.lt⟩
  obtain ⟨bb, hbb⟩ : ∃ bb, bb = w9.heap.size := ⟨_, rfl⟩
  obtain ⟨w11, hw11⟩ : ∃ w11, w11 = w9.alloc (bkO k1 u1 (.slice none 0 0)) := ⟨_, rfl⟩
  rw [← hbb] at hBk hdb hpb hcl hsl hzz hwz hdl ⊢
  rw [← hw11] at hBk hC11 hS11 hP11 K11 hzz ⊢
  have HBB := hid (show (a.d ≠ bb ∧ a.s ≠ bb ∧ a.k ≠ bb ∧ a.m ≠ bb) ∧ p < bb ∧ cb < bb ∧ sb < bb ∧ w11.heap.size = bb + 1 ∧ W.heap.size ≤ bb from ⟨hdb, hpb, hcl, hsl, hzz, hwz⟩)
  have HDD := hid hdl.2
  have HDA := hid hdl.1
  clear hdl
  clear hbb hw11 k11 hC9 hS9 hU9 hP9 K9 c0 c1 c2 x0 x1 hdb hpb hcl hsl hzz hwz EK1 EU1 EA E64 EU0 EU0t EW0 e1 n1 n3 g1
  have d0 := hBk.cell 0 rfl
  have d1 := hBk.cell 1 rfl
  have d2 := hBk.cell 2 rfl
  go_upto_region 13 with fail
  have hG := At.new w11 (.cells #[.int .u64 k1, .int .u64 u1] 27)
  have k12 := (Keeps.refl [] w11).alloc (.cells #[.int .u64 k1, .int .u64 u1] 27)
  rw [HBB.out.2.2.2.2.1] at hG ⊢
  obtain ⟨w12, hw12⟩ : ∃ w12, w12 = w11.alloc (.cells #[.int .u64 k1, .int .u64 u1] 27) := ⟨_, rfl⟩
  rw [← hw12] at hG k12 ⊢
  clear hw12
  obtain ⟨rr, hrr⟩ : ∃ rr : Nat → Int, rr = fun i => if i < n2 then f2 i else 0 := ⟨_, rfl⟩
  have hOW := ownU_two rr hG (Nat.le_refl _)
  have hBk12 := k12.at hBk (by simp)
  have hC12 := k12.at hC11 (by simp)
  have hP12 := hP11.keep0 k12
  have hRB := RWb.begin HLF.out (k0 : Int) (u0 : Int) n f
  obtain ⟨S9, hS9'⟩ : ∃ S9, S9 = execs (execs S [.st c.act k0]) [.st (c.act + 1) u0] := ⟨_, rfl⟩
  obtain ⟨u9, hu9⟩ : ∃ u9, u9 = u + (([Cmd.st c.act k0] : List Cmd).length : Int) + (([Cmd.st (c.act + 1) u0] : List Cmd).length : Int) := ⟨_, rfl⟩
  have hu9b : 0 ≤ u9 ∧ u9 ≤ 100010 := by rw [hu9]; simp; omega
  rw [← hS9'] at hP12 hRB
  rw [← hu9] at hP12
  have HS11 := hid hS11
  have HC11 := hid hC11
  have HK11 := hid K11
  have HRR := hid hrr
  clear hS9' hu9 HLF hub h0 hP11 hS11 K11 hBk hG d0 d1 d2 EW1 EW2 hrr hC11
  have c1 := hC12.cell 1 rfl
  go_wp2_with fail
  clear c1
  go_loopg [17, 86] c.roots (fun rl s17 sl wr => ∃ m : Nat, m + rl = c.roots ∧ sl = .int .i64 m ∧ RowsB bb k1 u1 m rr (vvF k1 u1 rr) s17 wr ∧ (∃ u' S', Pw wr p a (-1) u' S' ∧ RWb c k0 u0 m n f S' ∧ u' ≤ 100010 + (m : Int)) ∧ Keeps [p, a.s, a.k, a.m, bb] w11 wr)
  case atStart => exact ⟨0, by omega, rfl, ⟨_, _, none, 0, rfl, hOW, hBk12, ownU_nil _ _ _, by simp [blkL]⟩, ⟨_, _, hP12, hRB, by omega⟩, k12.mono (by simp)⟩
  case round =>
    obtain ⟨m, hmm, rfl, ⟨g, cw, xr, cr, rfl, hOWr, hBkr, hORr, hap⟩, ⟨u', S', hPr, hRr, hu'⟩, hKr⟩ := hrel
    have HRr := hid hRr
    have hBB := HBB.out
    have hCr := hKr.at HC11.out (by have := HCT.out.1; simp at this ⊢; omega)
    clear hRr hOW hBk12 hC12 hP12 hRB
    by_cases hlt : m < c.roots
    · have hmi : (m : Int) < (c.roots : Int) := by omega
      have hmb : (m : Int) ≤ 16 := by omega
      have hWr : Keeps [] W wr := HK11.out.new hKr (by have := HWT.out; intro b hb; simp at hb this ⊢; omega)
      obtain ⟨bt, hbt⟩ : ∃ bt, decide ((m : Int) < (n : Int)) = bt := ⟨_, rfl⟩
      have hbt2 : decide (m < n) = bt := by rw [← hbt]; by_cases h : m < n <;> simp [h]
      go_upto_if 92 with fail
      have HBT := hid hbt
      clear hbt hbt2
      go_cut [] from 93 to 101 (fun wx => (∃ u' S', Pw wx p a (-1) u' S' ∧ RWb c k0 u0 (m + 1) n f S' ∧ u' ≤ 100010 + ((m + 1 : Nat) : Int)) ∧ Keeps [p, a.s, a.k, a.m] wr wx)
      case first =>
        by_cases hmn : m < n
        · have hbe := HBT.out
          rw [decide_eq_true (by omega)] at hbe
          subst hbe
          obtain ⟨b, off, rfl, hb, hcl⟩ : ∃ b off, x = some ⟨b, off, none⟩ ∧ b < W.heap.size ∧ ∀ i, i < n → W.cell? ⟨b, off + i, none⟩ = some (.int .u64 (f i)) := by
            rcases HX.out with h | h
            · omega
            · exact h
          have hcm := hcl m hmn
          obtain ⟨fm, hfm⟩ : ∃ fm, fm = f m := ⟨_, rfl⟩
          rw [← hfm] at hcm
          have HFM := hid hfm
          have hmni : (m : Int) < (n : Int) := by omega
          have hcr : wr.cell? ⟨b, off + m, none⟩ = some (.int .u64 fm) := by rw [hWr.cell hb (by simp)]; exact hcm
          have hbr : b < wr.heap.size := Nat.lt_of_lt_of_le hb hWr.size
          have hbT : b ∉ [p, a.s, a.k, a.m] := fun h => by rcases HWT.out b h with h | h; exact absurd h (by simp); omega
          have HS : Hid (∀ w', Keeps [p, a.s, a.k, a.m] wr w' → (w'.cell? ⟨cb, 0, none⟩ = some (.int .i64 c.log) ∧ w'.cell? ⟨cb, 1, none⟩ = some (.int .i64 c.roots) ∧ w'.cell? ⟨cb, 2, none⟩ = some (.int .i64 c.space) ∧ w'.cell? ⟨b, off + m, none⟩ = some (.int .u64 fm))) :=
            fun w' hk => ⟨(hk.at hCr HCT.out.1).cell 0 rfl, (hk.at hCr HCT.out.1).cell 1 rfl, (hk.at hCr HCT.out.1).cell 2 rfl, by rw [hk.cell hbr hbT]; exact hcr⟩
          have hlo := hPr.lo
          have HST := hid (fun (w' : World) (hk : Keeps [] wr w') => store_ran w' p a (-1) u' S' (c.root m) fm (hPr.keep0 hk) (by have := HIN.out; unfold Cfg.root; omega) (by omega))
          have kk : Keeps [] wr wr.drew := (Keeps.refl _ _).drew
          clear hcl hcm hfm hcr hbr hbT hb
          go_wp2_with fail
          go_region_held3 (fun w' => w'.cell? ⟨cb, 0, none⟩ = some (.int .i64 c.log) ∧ w'.cell? ⟨cb, 1, none⟩ = some (.int .i64 c.roots) ∧ w'.cell? ⟨cb, 2, none⟩ = some (.int .i64 c.space) ∧ w'.cell? ⟨b, off + m, none⟩ = some (.int .u64 fm))
            (first | exact HS.out _ ((kk.mono (by simp)).trans hk10) | exact HS.out _ (kk.mono (by simp)))
            (first
              | (go_at_call 38; refine (root_at _ c HO.out.small m (by omega)).mono ?_; rintro e w' ⟨rfl, hk1⟩; have kk := kk.trans hk1; clear hk1)
              | (go_at_call 36; refine (HST.out _ kk).mono ?_; intro e w10 hr10; obtain ⟨rfl, hP10, hk10⟩ := hr10.free (by omega)))
          all_goals
            go_wp2_with fail
            go_meet
            exact ⟨⟨_, _, hP10, by have := HRr.out.store hmn; rw [← HFM.out] at this; exact this, by simp; omega⟩, (kk.mono (by simp)).trans hk10⟩
        · have hmni : ¬ (m : Int) < (n : Int) := by omega
          have hbe := HBT.out
          rw [decide_eq_false hmni] at hbe
          subst hbe
          go_wp2_with fail
          go_meet
          exact ⟨⟨_, _, hPr, HRr.out.skip hmn hlt, by omega⟩, Keeps.refl _ _⟩
      case rest =>
      obtain ⟨⟨u2, S2, hP2, hR2, hu2⟩, hkx⟩ := hcut
      have hCx := hkx.at hCr HCT.out.1
      have hBkx := hkx.at hBkr (by simp; omega)
      have hdd : ∀ b ∈ [p, a.s, a.k, a.m], b < bb := HDD.out
      have hOWx := hOWr.keep hkx (fun b hb h => by have := hdd b h; have := (hOWr.ge b hb).1; omega)
      have hORx := hORr.keep hkx (fun b hb h => by have := hdd b h; have := (hORr.ge b hb).1; omega)
      have Kx : Keeps [p, a.s, a.k, a.m, bb] w11 wc := hKr.trans (hkx.mono (by intro k _ hk; simp at hk ⊢; omega))
      have HR2 := hid hR2
      have HP2 := hid hP2
      clear hCr hBkr hOWr hORr hPr hKr hkx HRr hR2 hP2
      obtain ⟨b2, hb2⟩ : ∃ b2, decide ((m : Int) < (n2 : Int)) = b2 := ⟨_, rfl⟩
      have hb22 : decide (m < n2) = b2 := by rw [← hb2]; by_cases h : m < n2 <;> simp [h]
      go_upto_if 105 with fail
      have HB2 := hid hb2
      clear hb2 hb22
      go_cut [19] from 106 to 109 (fun s19 wy => s19 = .int .u64 (rr m) ∧ wc = wy)
      case first =>
        by_cases hmn : m < n2
        · have hbe := HB2.out
          rw [decide_eq_true (by omega)] at hbe
          subst hbe
          obtain ⟨b, off, rfl, hb, hcl⟩ : ∃ b off, y = some ⟨b, off, none⟩ ∧ b < W.heap.size ∧ ∀ i, i < n2 → W.cell? ⟨b, off + i, none⟩ = some (.int .u64 (f2 i)) := by
            rcases HY.out with h | h
            · omega
            · exact h
          have hcr : wc.cell? ⟨b, off + m, none⟩ = some (.int .u64 (f2 m)) := by
            rw [(HK11.out.new Kx (by have := HWT.out; intro b hb; simp at hb this ⊢; omega) : Keeps [] W wc).cell hb (by simp)]; exact hcl m hmn
          have hmni : (m : Int) < (n2 : Int) := by omega
          clear hcl hb
          go_wp2_with fail
          go_meet
          exact ⟨by rw [HRR.out]; simp [hmn], rfl⟩
        · have hmni : ¬ (m : Int) < (n2 : Int) := by omega
          have hbe := HB2.out
          rw [decide_eq_false hmni] at hbe
          subst hbe
          go_wp2_with fail
          go_meet
          exact ⟨by rw [HRR.out]; simp [hmn], rfl⟩
      case rest =>
      obtain ⟨rfl, rfl⟩ := hcut
      have hbw := hBkx.lt
      have HOR1 := hid (hORx.alloc (.cells #[.int .u64 (rr m)] 27))
      have hcU : (wc.alloc (.cells #[.int .u64 (rr m)] 27)).cell? ⟨wc.heap.size, 0, none⟩ = some (.int .u64 (rr m)) := (At.new wc (.cells #[.int .u64 (rr m)] 27)).cell 0 rfl
      have hm1 : m ≤ 1000 := by omega
      have hm2 : 2 + m ≤ 1000 := by omega
      have hB1 : bb + 1 ≤ (wc.alloc (.cells #[.int .u64 (rr m)] 27)).heap.size := by simp; omega
      have d2 := hBkx.cell 2 rfl
      have HOWx := hid hOWx
      have HORx := hid hORx
      have HBkx := hid hBkx
      have HAP := hid hap
      have hgx : ∀ b ∈ blkL xr, bb + 1 ≤ b := fun b hb => (hORx.ge b hb).1
      have HGX := hid hgx
      have HGN : Hid (∀ b ∈ blkL (some ⟨g, 0, none⟩), b ∉ blkL xr) := fun b hb h => by
        have e : b = g := by simpa [blkL] using hb
        exact hap b h e
      have HGB : Hid (bb ∉ blkL (some ⟨g, 0, none⟩)) := fun h => by
        have e : bb = g := by simpa [blkL] using h
        have := (hOWx.ge g (by simp [blkL])).1
        omega
      have HXB : Hid (bb ∉ blkL xr) := fun h => by have := hgx _ h; omega
      clear hOWx hORx hap hgx
      go_wp2_with (first
        | (at_builtin; refine appU_list rfl _ _ rfl (bb + 1) xr cr m rr rfl HOR1.out wc.heap.size 1 (rr m) rfl hcU hm1 hB1 ?_; intro g1 cap1 w5 hO5 hk5 hg5; have HO5 := hid hO5; have hOW5 := hid (((HOWx.out.alloc (.cells #[.int .u64 (rr m)] 27)).keep hk5 HGN.out).alloc (.cells #[.int .u64 (rr m)] 27)); have hcU5 : (w5.alloc (.cells #[.int .u64 (rr m)] 27)).cell? ⟨w5.heap.size, 0, none⟩ = some (.int .u64 (rr m)) := (At.new w5 (.cells #[.int .u64 (rr m)] 27)).cell 0 rfl; have hB5 : bb + 1 ≤ (w5.alloc (.cells #[.int .u64 (rr m)] 27)).heap.size := Nat.le_trans hB1 (hk5.alloc _).size; clear hO5)
        | (at_builtin; refine appU_list rfl _ _ rfl (bb + 1) (some ⟨g, 0, none⟩) cw (2 + m) (vvF k1 u1 rr) rfl hOW5.out w5.heap.size 1 (rr m) rfl hcU5 hm2 hB5 ?_; intro g2 cap2 w6 hO6 hk6 hg6; have HO6 := hid hO6; have hE := hid (rowsB_end HBkx.out HOWx.out HORx.out HAP.out HO5.out rfl hk5 hg5 hO6 (vv_put _ _ _ _ _ rfl) hk6 hg6); have hb6 := (hk6.at ((hk5.at (HBkx.out.alloc _) HXB.out).alloc (.cells #[.int .u64 (rr m)] 27)) HGB.out); have y2 := hb6.cell 2 rfl; have yf := hb6.free 2; clear hO6))
      obtain ⟨q1, q2⟩ := hE.out
      have hQd : ∀ b, b < bb → b ∉ bb :: g :: blkL xr := fun b hb h => by
        have h1 := (HOWx.out.ge g (by simp [blkL])).1
        rcases List.mem_cons.1 h with h | h
        · omega
        · rcases List.mem_cons.1 h with h | h
          · omega
          · have := HGX.out _ h; omega
      go_roundg (c.roots - (m + 1))
      case measure => omega
      case rel =>
        refine ⟨m + 1, by omega, by go_num, q1, ⟨_, _, HP2.out.keep q2 (hQd _ (HDD.out _ (by simp))) (hQd _ HDA.out) (hQd _ (HDD.out _ (by simp))) (hQd _ (HDD.out _ (by simp))) (hQd _ (HDD.out _ (by simp))), HR2.out, hu2⟩, Kx.new q2 fun b hb => ?_⟩
        have h1 := (HOWx.out.ge g (by simp [blkL])).1
        have h2 := HBB.out.2.2.2.2.1
        rcases List.mem_cons.1 hb with h | h
        · left; rw [h]; simp
        · right
          rcases List.mem_cons.1 h with h | h
          · omega
          · have := HGX.out _ h; omega
    · have hme : m = c.roots := by omega
      subst hme
      have hCr2 := hCr
      have hSr := hKr.at HS11.out (by have := HCT.out.2.1; simp at this ⊢; omega)
      have Kr : Keeps [] W wr := HK11.out.new hKr (by have := HWT.out; intro b hb; simp at hb this ⊢; omega)
      have HWD := hid (words7_at wr p a S' c hPr.dev HO.out HN.out)
      have c0 := hCr.cell 0 rfl
      have c1 := hCr.cell 1 rfl
      have c2 := hCr.cell 2 rfl
      clear hmm hlt hCr2
      go_wp2_with fail
      refine HWD.out.mono ?_
      rintro e w20 ⟨g0, cap0, rfl, hg0, hgb0, hRd0, hk20⟩
      have hC20 := (hk20.at hCr (by simp)).alloc (.cells #[.slice none 0 0] 84)
      have hS20 := (hk20.at hSr (by simp)).alloc (.cells #[.slice none 0 0] 84)
      have hBk20 := (hk20.at hBkr (by simp)).alloc (.cells #[.slice none 0 0] 84)
      have hOW20 := (hOWr.keep hk20 (by simp)).alloc (.cells #[.slice none 0 0] 84)
      have hOR20 := (hORr.keep hk20 (by simp)).alloc (.cells #[.slice none 0 0] 84)
      have k21 := hk20.alloc (.cells #[.slice none 0 0] 84)
      have hP20 := hPr.keep0 k21
      have hRd20 := hRd0.keep ((Keeps.refl [] w20).alloc (.cells #[.slice none 0 0] 84)) (by simp)
      have hGt := At.new w20 (.cells #[.slice none 0 0] 84)
      have K20 := Kr.trans k21
      have hzz : (w20.alloc (.cells #[.slice none 0 0] 84)).heap.size = w20.heap.size + 1 := by simp
      have hlow : bb < w20.heap.size ∧ g < w20.heap.size ∧ g0 < w20.heap.size ∧ (∀ b ∈ blkL xr, b < w20.heap.size) := ⟨(hk20.at hBkr (by simp)).lt, ((hOWr.keep hk20 (by simp)).ge g (by simp [blkL])).2, hgb0, fun b hb => ((hORr.keep hk20 (by simp)).ge b hb).2⟩
      go_upto_region 25 with fail
      obtain ⟨gb, hgb⟩ : ∃ gb, gb = w20.heap.size := ⟨_, rfl⟩
      obtain ⟨w21, hw21⟩ : ∃ w21, w21 = w20.alloc (.cells #[.slice none 0 0] 84) := ⟨_, rfl⟩
      rw [← hgb] at hGt hzz hlow ⊢
      rw [← hw21] at hC20 hS20 hBk20 hOW20 hOR20 k21 hP20 hRd20 hGt K20 hzz ⊢
      have HLW := hid hlow
      have HZ := hid hzz
      have HC20 := hid hC20
      have HS20 := hid hS20
      have HBk20 := hid hBk20
      have HOW20 := hid hOW20
      have HOR20 := hid hOR20
      have HP20 := hid hP20
      have HRd20 := hid hRd20
      have HGt := hid hGt
      have HK20 := hid K20
      clear hgb hw21 hlow hzz hC20 hS20 hBk20 hOW20 hOR20 hP20 hRd20 hGt K20 c0 c1 c2 hk20 k21 hg0 hgb0 hRd0 hSr hCr hBkr hOWr hORr hPr hKr Kr HWD hBB
      obtain ⟨q, hq⟩ : ∃ q, q = st % 6 := ⟨_, rfl⟩
      have EQ := hid (show (st : Int) % 6 = (q : Int) by omega)
      have hqb : (q : Int) ≤ 5 := by omega
      have HQ := hid hq
      have hri : (c.roots : Int) ≤ 16 := hrt
      clear hq
      have hpn : c.act + 2 + c.roots ≤ a.n := HIN.out
      go_wp2_with fail
      go_loopg [21, 23, 126] (2 + c.roots) (fun rl s21 s23 sl wr => ∃ i : Nat, i + rl = 2 + c.roots ∧ sl = .int .i64 i ∧ (∃ (xw : Option Addr) (cp9 nL : Nat) (L : List (Nat × Int)) (code : Int), s21 = .slice xw nL cp9 ∧ s23 = .int .i64 code ∧ OwnL wr (gb + 1) xw cp9 nL L ∧ nL ≤ i ∧ RunA S' q c k1 u1 rr i L code) ∧ Keeps [] w21 wr)
      case atStart => exact ⟨0, by omega, rfl, ⟨none, 0, 0, [], 0, rfl, rfl, ownL_nil _ _, Nat.le_refl _, .inl ⟨rfl, Nat.zero_le _, rfl⟩⟩, Keeps.refl _ _⟩
      case round =>
        obtain ⟨i, hi, rfl, ⟨xw, cp9, nL, L, code, rfl, rfl, hOL, hnL, hRA⟩, hK⟩ := hrel
        have HOL := hid hOL
        have HRA := hid hRA
        clear hOL hRA
        by_cases hlt : i < 2 + c.roots
        · obtain ⟨cur, hcur, hAg⟩ : ∃ cur, (∀ i, i < 2 + c.roots → cur[i]? = some (.int .u64 (vvF k1 u1 rr i))) ∧ At wr g (.cells cur 27) := by
            rcases HOW20.out.form with ⟨h, _⟩ | ⟨g', cur, e, _, h2, h3⟩
            · cases h
            · injection e with e; injection e with e; subst e
              exact ⟨cur, h3, hK.at h2 (by simp)⟩
          obtain ⟨wv, hwv⟩ : ∃ wv, wv = S'.now (c.act + i) := ⟨_, rfl⟩
          obtain ⟨vv, hvv⟩ : ∃ vv, vv = vvF k1 u1 rr i := ⟨_, rfl⟩
          have d0 : wr.cell? ⟨g, i, none⟩ = some (.int .u64 vv) := by rw [hvv]; exact hAg.cell i (hcur i hlt)
          have d1 : wr.cell? ⟨g0, c.act + i, none⟩ = some (.int .u64 wv) := by
            rcases HRd20.out with h | ⟨b, off, e, hb, hc⟩
            · omega
            · injection e with e; injection e with e1 e2; subst e1 e2
              rw [hK.cell hb (by simp), hwv]; exact hc i (by omega)
          have hii : (i : Int) < 2 + (c.roots : Int) := by omega
          have hib : (i : Int) ≤ 18 := by omega
          have hia : (i : Int) < (a.n : Int) - (c.act : Int) := by omega
          have hia2 : i < a.n - c.act := by omega
          have hia3 : (i : Int) < ((a.n - c.act : Nat) : Int) := by omega
          have hC2 := hK.at HC20.out (by simp)
          have hS2 := hK.at HS20.out (by simp)
          have HI := hid hi
          have HWV := hid hwv
          have HVV := hid hvv
          clear hi hwv hvv hcur hAg
          by_cases heq : wv = vv
          · have t1 : (wv != vv) = false := by rw [heq]; simp
            have HEQ := hid heq
            clear heq
            go_wp2_with fail
            go_roundg (2 + c.roots - (i + 1))
            case measure => (have := HI.out; omega)
            case rel => exact ⟨i + 1, by have := HI.out; omega, by go_num, ⟨xw, cp9, nL, L, code, rfl, rfl, HOL.out, by omega, HRA.out.skip (by omega) (.inl (by rw [← HWV.out, ← HVV.out]; exact HEQ.out))⟩, hK⟩
          · have t1 : (wv != vv) = true := by simp [bne, heq]
            have HEQ := hid heq
            clear heq
            by_cases hcode : code = 0
            · subst hcode
              have c0 := hC2.cell 0 rfl
              have c1 := hC2.cell 1 rfl
              have c2 := hC2.cell 2 rfl
              have hzr := hK.size
              have hnLi : (nL : Int) ≤ 18 := by omega
              clear hC2
              go_wp2_with fail
              refine (active_at _ c HO.out.small).mono ?_
              rintro e w24 ⟨rfl, hk24⟩
              have K24 := hK.trans hk24
              have hS24 := hk24.at hS2 (by simp)
              have hOLn := HOL.out.keep hk24 (by simp)
              have hge := hOLn.ge
              have hLl := HOL.out.1
              have HOL2 := hid (hOLn.keep ((Keeps.refl [] w24).alloc (.cells #[.int .i64 ((c.act : Int) + (i : Int)), .int .u64 vv] 86)) (by simp))
              have hNw := At.new w24 (.cells #[.int .i64 ((c.act : Int) + (i : Int)), .int .u64 vv] 86)
              have n0 : (w24.alloc (.cells #[.int .i64 ((c.act : Int) + (i : Int)), .int .u64 vv] 86)).cell? ⟨w24.heap.size, 0, none⟩ = some (.int .i64 ((c.act + i : Nat) : Int)) := by rw [show ((c.act + i : Nat) : Int) = (c.act : Int) + (i : Int) by simp]; exact hNw.cell 0 rfl
              have n1 := hNw.cell 1 rfl
              have hn1k : nL ≤ 1000 := by omega
              have hB24 : gb + 1 ≤ (w24.alloc (.cells #[.int .i64 ((c.act : Int) + (i : Int)), .int .u64 vv] 86)).heap.size := by have := K24.size; have := HZ.out; simp; omega
              have k25 := (Keeps.refl [] w24).alloc (.cells #[.int .i64 ((c.act : Int) + (i : Int)), .int .u64 vv] 86)
              have hS25 := hS24.alloc (.cells #[.int .i64 ((c.act : Int) + (i : Int)), .int .u64 vv] 86)
              have HGE := hid hge
              have HSB := hid (show sb ∉ blkL xw from fun h => by have := (hge _ h).1; have := HLW.out.1; have := HBB.out.2.2.2.1; omega)
              clear c0 c1 c2 hk24 hS24 hOLn hge hNw hS2 d0 d1 hK
              go_upto_region 31 with (at_builtin; refine appL_list rfl _ _ rfl (gb + 1) xw cp9 nL L rfl HOL2.out w24.heap.size 1 (c.act + i) vv rfl n0 n1 hn1k hB24 ?_; intro g3 cap3 w26 hO26 hk26 hg26)
              have hS26 := hk26.at hS25 HSB.out
              have s0 := hS26.cell 0 rfl
              have K26 : Keeps [] w21 w26 := (K24.trans k25).new hk26 (fun b hb => .inr (by have := (HGE.out b hb).1; have := HZ.out; omega))
              have HO26 := hid hO26
              have HK26 := hid K26
              have hra := HRA.out.more (by omega) (by rw [← HWV.out, ← HVV.out]; exact HEQ.out)
              rw [← HVV.out, hLl] at hra
              have HRA2 := hid hra
              clear hra n0 n1 k25 hS25 K24 hO26 hk26 hg26 K26 hS26 hB24
              have em := EQ.out
              by_cases hnq : nL = q
              · have HR3 := hid (show RunA S' q c k1 u1 rr (i + 1) (L ++ [(c.act + i, vv)]) 3 from by have := HRA2.out; rw [if_pos hnq] at this; exact this)
                subst hnq
                have t3 : ((nL : Int) + 1 == 1 + (nL : Int)) = true := by rw [beq_iff_eq]; omega
                go_wp2_with fail
                go_roundg (2 + c.roots - (i + 1))
                case measure => (have := HI.out; omega)
                case rel => exact ⟨i + 1, by have := HI.out; omega, by go_num, ⟨some ⟨g3, 0, none⟩, cap3, nL + 1, _, 3, rfl, rfl, HO26.out, by omega, HR3.out⟩, HK26.out⟩
              · have t3 : ((nL : Int) + 1 == 1 + (q : Int)) = false := by rw [beq_eq_false_iff_ne]; omega
                have HNQ := hid hnq
                clear hnq
                go_wp2_with fail
                go_roundg (2 + c.roots - (i + 1))
                case measure => (have := HI.out; omega)
                case rel => exact ⟨i + 1, by have := HI.out; omega, by go_num, ⟨some ⟨g3, 0, none⟩, cap3, nL + 1, _, 0, rfl, rfl, HO26.out, by omega, by have := HRA2.out; rwa [if_neg HNQ.out] at this⟩, HK26.out⟩
            · have t2 : (code == 0) = false := by rw [beq_eq_false_iff_ne]; exact hcode
              have HCD := hid hcode
              clear hcode
              go_wp2_with fail
              go_roundg (2 + c.roots - (i + 1))
              case measure => (have := HI.out; omega)
              case rel => exact ⟨i + 1, by have := HI.out; omega, by go_num, ⟨xw, cp9, nL, L, code, rfl, rfl, HOL.out, by omega, HRA.out.skip (by omega) (.inr HCD.out)⟩, hK⟩
        · have hie : i = 2 + c.roots := by omega
          subst hie
          have hC2 := hK.at HC20.out (by simp)
          have hS2 := hK.at HS20.out (by simp)
          have hB2 := hK.at HBk20.out (by simp)
          have hG2 := hK.at HGt.out (by simp)
          have hP2 := HP20.out.keep0 hK
          have hR2 := (HOR20.out.keep hK (by simp)).rd
          have hLl := HOL.out.1
          have hLW := HLW.out
          have hbb := HBB.out
          have hzr := hK.size
          have hz21 := HZ.out
          have hEnd := HRA.out.ends
          have HWR := hid (rwrite_at (cll_storer p a S' gb sb (gb + 1) st hst ⟨by omega, by omega, by omega, by have := HDA.out; omega, by have := HDD.out a.s (by simp); omega, by have := HDD.out a.k (by simp); omega, by have := HDD.out a.m (by simp); omega, by have := HDA.out; omega, by have := HDD.out a.s (by simp); omega, by have := HDD.out a.k (by simp); omega, by have := HDD.out a.m (by simp); omega⟩)
            0 ([], none, 0) wr ⟨hP2.dev, by simpa using hG2, hS2, ownL_nil _ _, Nat.le_refl _, by omega⟩ c HO.out HN.out k1 u1 hk1b hu1s xr cr rr (by omega) hR2
            (fun b off e => ⟨fun h => by
              have h2 := hLW.2.2.2 b (by rw [e]; simp [blkL])
              simp [blkL] at h
              omega, by have h2 := hLW.2.2.2 b (by rw [e]; simp [blkL]); omega⟩)
            (fun b hb => by simp [blkL] at hb; omega))
          have hEQn : ∀ b ∈ blkL xw, b ∉ (gb :: blkL (([] : List (Nat × Int)), (none : Option Addr), (0 : Nat)).2.1) := fun b hb h => by
            have := (HOL.out.ge b hb).1
            simp [blkL] at h
            omega
          have HEN := hid hEnd
          have HEB := hid hEQn
          have HKr := hid hK
          clear hEnd hEQn hi hlt hK hP2 hR2
          have c0 := hC2.cell 0 rfl
          have c1 := hC2.cell 1 rfl
          have c2 := hC2.cell 2 rfl
          have d0 := hB2.cell 0 rfl
          have d1 := hB2.cell 1 rfl
          have d2 := hB2.cell 2 rfl
          go_wp2_with fail
          refine HWR.out.mono ?_
          rintro e w30 (⟨code9, ⟨L9, x9, cp10⟩, rfl, hwr, hJ30, hk30, _⟩ | ⟨_, hg⟩)
          case inr => exact absurd hg wrG_none8
          obtain ⟨hc9, hl9⟩ := wr_run S' st hwr
          have hrn : runL S' (st % 6) [] (blkW c k1 u1 c.roots rr) = (code, L) := by rw [← HQ.out]; exact HEN.out
          simp only [hrn] at hc9 hl9
          subst hc9 hl9
          obtain ⟨_, hG30, _, hO30, _, _⟩ := hJ30
          have hOL30 := HOL.out.keep hk30 HEB.out
          have K30 : Keeps [] W w30 := (HK20.out.trans HKr.out).new hk30 (by simp [blkL]; have := HBB.out; omega)
          have HQL := hid (fun (w' : World) (hk : Keeps [] w30 w') => equalL_true w' _ _ x9 xw nL cp10 cp9 L9 (by have := hO30.keep hk (by simp); simp only [hLl] at this; exact this) (hOL30.keep hk (by simp)) (by omega))
          simp only [hLl] at hG30
          clear HWR hwr hk30 hO30 hOL30 hrn c0 c1 c2 d0 d1 d2
          have g0 := hG30.cell 0 rfl
          go_wp2_with fail
          refine (HQL.out _ (Keeps.refl _ _)).mono ?_
          rintro e w31 ⟨rfl, hk31⟩
          go_wp2_with fail
          go_ret
          exact ⟨rfl, (K30.trans hk31).below (Nat.le_refl _) (by simp)⟩

theorem rootsWrites_walk (l r s : Int) (x : Option Addr) (n cp : Nat) (f : Nat → Int) (y : Option Addr) (n2 cp2 : Nat) (f2 : Nat → Int) (ac st a0 a1 : Int) (W : World) (wl : (Lit.int .u16 l).wf = true) (wr : (Lit.int .u16 r).wf = true) (ws : (Lit.int .u16 s).wf = true) (R1 : ReadsV (Value.int .u64) W x n f) (_ : ∀ i, i < n → (Lit.int .u64 (f i)).wf = true) (hn : n ≤ maxLen) (R2 : ReadsV (Value.int .u64) W y n2 f2) (_ : ∀ i, i < n2 → (Lit.int .u64 (f2 i)).wf = true) (hn2 : n2 ≤ maxLen) (wa : (Lit.int .u8 ac).wf = true) (wst : (Lit.int .u8 st).wf = true) (w0 : (Lit.int .u16 a0).wf = true) (w1 : (Lit.int .u16 a1).wf = true) :
    Calls Tryz.prog 6 #[.agg #[.int .u16 l, .int .u16 r, .int .u16 s], .slice x n cp, .slice y n2 cp2, .int .u8 ac, .int .u8 st, .agg #[.int .u16 a0, .int .u16 a1]] W fun e w' => e = .returned (.bool true) ∧ Below W.heap.size W w' := by
  obtain ⟨l, rfl, hl⟩ := c3_open wl
  obtain ⟨r, rfl, hr⟩ := c3_open wr
  obtain ⟨s, rfl, hs⟩ := c3_open ws
  obtain ⟨a0, rfl, h0⟩ := c3_open w0
  obtain ⟨a1, rfl, h1⟩ := c3_open w1
  have ha := bounds_u8 wa
  have hb := bounds_u8 wst
  obtain ⟨ac, rfl⟩ : ∃ n : Nat, (n : Int) = ac := ⟨ac.toNat, by omega⟩
  obtain ⟨st, rfl⟩ : ∃ n : Nat, (n : Int) = st := ⟨st.toNat, by omega⟩
  exact writes_small l r s ac st a0 a1 x n cp f y n2 cp2 f2 W hl hr hs (by omega) (by omega) h0 h1 R1 (by unfold maxLen at hn; omega) R2 (by unfold maxLen at hn2; omega)

end Go.Proofs.YtkoflpcpopmkkaaGreat
