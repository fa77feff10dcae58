/- What the laws of layer 6 have in common: places, words behind the log, another power, the fixed fact; a log's calls, the power staying. -/
import Derived.Test.YtcdlikblebdfkaaGreatLogM
namespace Go.Proofs.YtcdlikblebdfkaaGreat
open Go.RowKit Go.OpenShut

/-- A word behind the log, by a number. -/
def plc (c : Cfg) (k : Nat) : Nat := c.act + k % (c.words - c.act)

theorem plc_in {c : Cfg} (hc : c.Ok) (k : Nat) : c.act ≤ plc c k ∧ plc c k < c.words := by
  obtain ⟨p1, p2, p3, p4⟩ := places hc
  have : k % (c.words - c.act) < c.words - c.act := Nat.mod_lt _ (by omega)
  unfold plc
  omega

abbrev aV (k v : Int) : Value := .agg #[.int .u16 k, .int .u64 v]
/-- What behind answers. -/
def Behind (w : World) (c : Cfg) (n : Nat) (f : Nat → Int) (e : Ending) (w' : World) : Prop :=
  ∃ g cap, e = .returned (.slice (some ⟨g, c.act, none⟩) (n - c.act) cap) ∧ w.heap.size ≤ g ∧ g < w'.heap.size ∧ Reads w' (some ⟨g, c.act, none⟩) (n - c.act) (fun i => f (c.act + i)) ∧ Keeps [] w w'

theorem Reads.from {w : World} {g n k : Nat} {f : Nat → Int} (h : Reads w (some ⟨g, 0, none⟩) n f) (hk : k ≤ n) : Reads w (some ⟨g, k, none⟩) (n - k) (fun i => f (k + i)) := by
  rcases h with h | ⟨b, off, he, hb, hc⟩
  · exact .inl (by omega)
  · cases he
    refine .inr ⟨_, _, rfl, hb, fun i hi => ?_⟩
    have := hc (k + i) (by omega)
    rwa [Nat.zero_add] at this

section
variable {w : World} {p : Nat} {a : DA} {l u : Int} {S : DS} {lb : Nat} {c : Cfg} {e0 r m : Nat} {st : Bool} {pl : Nat → Nat} {wd : Nat → Int} {D : Nat → Int}

theorem c_in (hc : c.Ok) (hn : c.words = a.n) : c.act < a.n ∧ 8 < a.n ∧ 16 + 4 * c.log ≤ c.act ∧ c.log ≤ 200 ∧ a.n ≤ 15000 := by
  obtain ⟨p1, p2, p3, p4⟩ := places hc
  have hw := words_ge hc
  have := hc.2.2.2.1
  omega

/-- Open, over a log's words. -/
theorem open_li (h : Pw w p a l u S) (hc : c.Ok) (hn : c.words = a.n) (hL : LR c a.n e0 r m pl wd S) (hr : r < 4294967296) :
    Calls Tryz.prog 71 #[ptr a.d, cfgV c] w fun e w' => ∃ lb, e = .returned (ptr lb) ∧ w.heap.size ≤ lb ∧ LW w' p a l u S lb c m false ∧ Keeps [] w w' := by
  have hci := c_in hc hn
  refine (open_at w p a l u S c h hc.small (eN e0 r) (by have := eN_lt e0 r; omega) hL.ep.1 hci.1).mono ?_
  rintro e w' ⟨lb, k, rfl, hlb, hW, hk, h1, h2, h3⟩
  obtain rfl := hL.count hr h1 h2 h3
  exact ⟨lb, rfl, hlb, hW, hk⟩

/-- Append, over a log's words. -/
theorem append_li (h : LW w p a l u S lb c m st) (hc : c.Ok) (hn : c.words = a.n) (hL : LR c a.n e0 r m pl wd S) (hr : r < 4294967296) (hm : m < c.log) (i : Nat) (hi : i < a.n) (hb : u < 4611686018427340000) :
    Calls Tryz.prog 72 #[ptr lb, .int .i64 i] w (RanL p a l u S lb c (m + 1) true (appL c st false m (eN e0 r) i (S.now i)) (.int .i64 0) w) := by
  have hci := c_in hc hn
  have := append_ran h hc.small (eN e0 r) (by have := eN_lt e0 r; omega) hL.ep.1 hm (by omega) i hi false (hL.bad hr hm) (by omega)
  rwa [epN_eN] at this

theorem appL_len (hc : c.Ok) (e i : Nat) (v : Int) : (appL c st false m e i v).length ≤ 110 := by
  have := sL_len hc.small st
  simp [appL, gL, filL, seaL, kpL]
  omega

/-- What Undo does, of any. -/
def undS (c : Cfg) (st : Bool) (pl : Nat → Nat) (wd : Nat → Int) (m e : Nat) : List Cmd := if m = 0 then [] else undL c st pl wd m e
def stS (m : Nat) (st : Bool) : Bool := if m = 0 then st else true
def rS (m r : Nat) : Nat := if m = 0 then r else r + 1

theorem undS_len (hc : c.Ok) (hm : m ≤ c.log) (e : Nat) : (undS c st pl wd m e).length ≤ 600 := by
  have h1 := sL_len hc.small st
  have h2 := hc.2.2.2.1
  have h3 := undP_len pl wd m m
  unfold undS
  by_cases h0 : m = 0
  · rw [if_pos h0]; simp
  · rw [if_neg h0]
    simp [undL, truL, kpL, sL, h3] at h1 ⊢
    omega

theorem undo_li (h : LW w p a l u S lb c m st) (hc : c.Ok) (hn : c.words = a.n) (hL : LR c a.n e0 r m pl wd S) (hb : u < 4611686018427340000) :
    Calls Tryz.prog 79 #[ptr lb] w (RanL p a l u S lb c 0 (stS m st) (undS c st pl wd m (eN e0 r)) (.tuple #[]) w) := by
  have hci := c_in hc hn
  unfold undS stS
  by_cases h0 : m = 0
  · subst h0
    rw [if_pos rfl, if_pos rfl]
    exact undo_zero h
  · rw [if_neg h0, if_neg h0]
    have := undo_ran h hc.small (eN e0 r) (by have := eN_lt e0 r; omega) hL.ep.1 (by omega) hL.le hci.1 (by omega) pl wd (fun i hi => ?_)
    · rwa [epN_eN] at this
    · obtain ⟨_, a2, a3, a4, a5⟩ := hL.recs i hi
      refine ⟨?_, ?_, a4, a5⟩
      · rw [show 17 + 4 * i = 16 + 4 * i + 1 by omega]; exact a2.1
      · rw [show 18 + 4 * i = 16 + 4 * i + 2 by omega]; exact a3.1

/-- Undone. -/
theorem undS_done {n : Nat} (h : LI c n e0 r m pl wd D S) : LI c n e0 (rS m r) 0 pl wd D (execs S (undS c st pl wd m (eN e0 r))) := by
  unfold undS rS
  by_cases h0 : m = 0
  · subst h0
    rw [if_pos rfl, if_pos rfl]
    exact h
  · rw [if_neg h0, if_neg h0]
    obtain ⟨h1, h2⟩ := und_done (st := st) h pl wd
    exact LI.none h1 h2

theorem undS_crash {n : Nat} {S' : DS} (h : LI c n e0 r m pl wd D S) (hcut : Cut l u S (undS c st pl wd m (eN e0 r)) S') (ch : Nat → Int) : ∃ r' m', r' ≤ r + 1 ∧ LI c n e0 r' m' pl wd D (crashed S' ch) := by
  unfold undS at hcut
  by_cases h0 : m = 0
  · rw [if_pos h0] at hcut
    obtain ⟨pre, k, post, e, _, _⟩ := hcut
    cases pre <;> simp at e
  · rw [if_neg h0] at hcut
    rcases und_crash h hcut ch pl wd with h1 | ⟨h1, h2⟩
    · exact ⟨r, m, by omega, h1⟩
    · exact ⟨r + 1, 0, Nat.le_refl _, LI.none h1 h2⟩

/-- Truncate, over a log's words. -/
theorem trunc_li (h : LW w p a l u S lb c m st) (hc : c.Ok) (hn : c.words = a.n) (hL : LR c a.n e0 r m pl wd S) (hb : u < 4611686018427340000) :
    Calls Tryz.prog 94 #[ptr lb] w (RanL p a l u S lb c 0 (stS m st) (if m = 0 then [] else truL c st (eN e0 r)) (.tuple #[]) w) := by
  have hci := c_in hc hn
  unfold stS
  by_cases h0 : m = 0
  · subst h0
    rw [if_pos rfl, if_pos rfl]
    exact trunc_zero h
  · rw [if_neg h0, if_neg h0]
    have := trunc_ran h hc.small (eN e0 r) (by have := eN_lt e0 r; omega) hL.ep.1 (by omega) (by omega) hci.2.1 (by omega)
    rwa [epN_eN] at this

end

/-- All records are good. -/
theorem LR.good_ans {c : Cfg} {n e0 r m : Nat} {pl : Nat → Nat} {wd : Nat → Int} {S : DS} {rb : Int} (h : LR c n e0 r m pl wd S) (hn : n ≤ 15000) (hg : GoodAns S.now c n m rb) : rb = -1 := by
  rcases hg with ⟨h1, _⟩ | ⟨i, hi, _, h2, _⟩
  · exact h1
  · refine absurd ?_ h2
    obtain ⟨_, a2, _, a4, a5⟩ := h.recs i hi
    have e := a2.1
    rw [show 16 + 4 * i + 1 = 17 + 4 * i by omega] at e
    unfold okP
    rw [e, asInt_of _ (by omega)]
    omega

theorem run_func_nil (b : Nat) (w : World) : (binOp .eql 128 (.func (.func 86) #[] #[ptr b]) .nilFunc).run Tryz.prog w = .ok (.bool false) w := by
  kernel_rfl

set_option maxRecDepth 100000 in
set_option maxHeartbeats 2000000 in
/-- Layer 6's fixed fact. -/
theorem awake6_any (w : World) : Calls Tryz.prog 63 #[] w fun e w' => e = .returned (.bool true) ∧ Below w.heap.size w w' := by
  go_enter Tryz.func63, Tryz.ntmps63
  go_wp2_with fail
  refine (awake5_any _).mono ?_
  rintro e w1 ⟨rfl, hb1⟩
  have K1 : Keeps [] w w1 := Go.Proofs.YtcdlikblebdfkaaGreat.Below.keeps hb1 []
  clear hb1
  go_wp2_with fail
  have hC2 : At (w1.alloc (.cells #[.int .i64 3, .int .i64 1, .int .i64 8] 30)) w1.heap.size (cfgO exC) := At.new w1 (cfgO exC)
  have K2 := K1.alloc (.cells #[.int .i64 3, .int .i64 1, .int .i64 8] 30)
  have hz2 : w.heap.size ≤ w1.heap.size := K1.size
  refine (formatted_at _ exC exC_ok none 0 0 (fun _ => 0) (.inl rfl) (by omega)).mono ?_
  rintro e w3 ⟨p, a, u, S, rfl, hn, hP3, hu, hW, hkp, his, ⟨b1, b2, b3, b4, b5⟩, hk3⟩
  simp only [World.size_alloc] at b1 b2 b3 b4 b5
  have hC3 := hk3.at hC2 (by simp)
  have K3 := K2.trans hk3
  have hLI := LI.fresh (fun _ => 0) (fun _ => 0) exC_ok hn hW hkp his
  have hn56 : a.n = 56 := by rw [← hn, exC_words]
  have HN := hid hn
  have HLI := hid hLI
  have HN56 := hid hn56
  clear hn hn56 hLI hW hkp his hC2 hk3 K2 K1
  have c0 : w3.cell? ⟨w1.heap.size, 0, none⟩ = some (.int .i64 3) := hC3.cell 0 rfl
  have c1 : w3.cell? ⟨w1.heap.size, 1, none⟩ = some (.int .i64 1) := hC3.cell 1 rfl
  have c2 : w3.cell? ⟨w1.heap.size, 2, none⟩ = some (.int .i64 8) := hC3.cell 2 rfl
  go_wp2_with fail
  refine (open_li hP3 exC_ok HN.out HLI.out.1 (by omega)).mono ?_
  rintro e w4 ⟨lb, rfl, hlb, hL4, hk4⟩
  have hC4 := hk4.at hC3 (by simp)
  have K4 := K3.trans hk4
  have hz3 := K3.size
  clear c0 c1 c2 hC3 K3 hk4 hP3
  go_wp2_with fail
  refine (append_li hL4 exC_ok HN.out HLI.out.1 (by omega) (by decide) 40 (by have := HN56.out; omega) (by omega)).mono ?_
  intro e w5 hr5
  obtain ⟨rfl, hL5, hk5⟩ := hr5.free hL4.pw.lo
  clear hr5
  have HL5 := hid (app_done (st := false) HLI.out.1 (by decide) 40 (S.now 40) (by have := HN56.out; exact ⟨by decide, by omega⟩))
  have hC5 := hk5.at hC4 (by
    have h1 := hC4.lt
    have n1 := hL4.pw.dev
    have q1 : w1.heap.size ≠ p := cells_ne hC4 hL4.pw.pow (by decide)
    have q2 : w1.heap.size ≠ a.s := cells_ne hC4 n1.now (by decide)
    have q3 : w1.heap.size ≠ a.k := cells_ne hC4 n1.kept (by decide)
    have q4 : w1.heap.size ≠ a.m := by omega
    have q5 : w1.heap.size ≠ lb := cells_ne hC4 hL4.log (by decide)
    simp only [List.mem_cons, List.not_mem_nil, or_false, not_or]
    exact ⟨q1, q2, q3, q4, q5⟩)
  have K5 : Keeps [] w w5 := K4.new hk5 (by simp; omega)
  clear hC4 K4 hk5
  go_wp2_with fail
  refine (records_at w5 lb).mono ?_
  rintro e w6 ⟨rfl, rfl⟩
  have hnf := run_func_nil w5.heap.size
  have hL6 := hL5.keep0 ((Keeps.refl [] w5).alloc (boxO lb))
  have hC6 := hC5.alloc (boxO lb)
  have K6 := K5.alloc (boxO lb)
  have c0 : (w5.alloc (boxO lb)).cell? ⟨w1.heap.size, 0, none⟩ = some (.int .i64 3) := hC6.cell 0 rfl
  have c1 : (w5.alloc (boxO lb)).cell? ⟨w1.heap.size, 1, none⟩ = some (.int .i64 1) := hC6.cell 1 rfl
  have c2 : (w5.alloc (boxO lb)).cell? ⟨w1.heap.size, 2, none⟩ = some (.int .i64 8) := hC6.cell 2 rfl
  have hz5 := K6.size
  go_wp2_with fail
  clear hnf
  refine (open_li hL6.pw exC_ok HN.out HL5.out (by omega)).mono ?_
  rintro e w7 ⟨lb2, rfl, hlb2, hL7, hk7⟩
  have K7 := K6.trans hk7
  clear c0 c1 c2
  go_wp2_with fail
  refine (len6_at hL7).mono ?_
  rintro e w8 ⟨rfl, rfl⟩
  go_wp2_with fail
  refine (epoch6_at hL7 1 (by omega) HL5.out.ep.1 (by have := HN56.out; omega)).mono ?_
  rintro e w8 ⟨rfl, rfl⟩
  have e1 : Hid (epN 1 = 1) := by show _ = _; decide
  rw [e1.out]
  go_wp2_with fail
  go_ret
  exact ⟨rfl, K7.below (Nat.le_refl _) (by simp)⟩

end Go.Proofs.YtcdlikblebdfkaaGreat
