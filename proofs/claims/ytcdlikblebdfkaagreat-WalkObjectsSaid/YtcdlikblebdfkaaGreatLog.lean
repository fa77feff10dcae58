/- The log's object, and what its calls read. -/
import Derived.Test.YtcdlikblebdfkaaGreatLaw5
import Derived.Laws.BitsAllLaws
namespace Go.Proofs.YtcdlikblebdfkaaGreat
open Go.RowKit Go.OpenShut

/-- A log: its device, its config, how many records, is it settled. -/
abbrev logO (d : Nat) (c : Cfg) (cnt : Nat) (st : Bool) : Obj := .cells #[ptr d, .int .i64 c.log, .int .i64 c.roots, .int .i64 c.space, .int .i64 cnt, .bool st] 134

/-- A device, its power, and a log of it. -/
structure LW (w : World) (p : Nat) (a : DA) (l u : Int) (S : DS) (lb : Nat) (c : Cfg) (cnt : Nat) (st : Bool) : Prop where
  pw : Pw w p a l u S
  log : At w lb (logO a.d c cnt st)

theorem cells_ne {w : World} {b b' : Nat} {x y : Array Value} {T U : TypeId} {f g : Nat × Nat} (h : At w b (.cells x T f)) (h' : At w b' (.cells y U g)) (hT : T ≠ U) : b ≠ b' := by
  rintro rfl
  have := h.inj h'
  injection this with _ h2 _
  exact hT h2

theorem LW.ne {w : World} {p : Nat} {a : DA} {l u : Int} {S : DS} {lb : Nat} {c : Cfg} {cnt : Nat} {st : Bool} (h : LW w p a l u S lb c cnt st) : lb ≠ p ∧ lb ≠ a.d ∧ lb ≠ a.s ∧ lb ≠ a.k ∧ lb ≠ a.m := by
  refine ⟨cells_ne h.log h.pw.pow (by decide), cells_ne h.log h.pw.dev.dev (by decide), cells_ne h.log h.pw.dev.now (by decide), cells_ne h.log h.pw.dev.kept (by decide), ?_⟩
  rintro rfl
  obtain ⟨x, y, hm, _⟩ := h.pw.dev.map
  have := h.log.inj hm
  cases this

theorem LW.keep {w w' : World} {p : Nat} {a : DA} {l u : Int} {S : DS} {lb : Nat} {c : Cfg} {cnt : Nat} {st : Bool} {T : List Nat} (h : LW w p a l u S lb c cnt st) (hk : Keeps T w w') (hp : p ∉ T) (hd : a.d ∉ T) (hs : a.s ∉ T) (hkk : a.k ∉ T) (hm : a.m ∉ T) (hl : lb ∉ T) : LW w' p a l u S lb c cnt st :=
  ⟨h.pw.keep hk hp hd hs hkk hm, hk.at h.log hl⟩

theorem LW.keep0 {w w' : World} {p : Nat} {a : DA} {l u : Int} {S : DS} {lb : Nat} {c : Cfg} {cnt : Nat} {st : Bool} (h : LW w p a l u S lb c cnt st) (hk : Keeps [] w w') : LW w' p a l u S lb c cnt st :=
  ⟨h.pw.keep0 hk, hk.at h.log (by simp)⟩

theorem LW.next {w w' : World} {p : Nat} {a : DA} {l u u' : Int} {S S' : DS} {lb : Nat} {c : Cfg} {cnt : Nat} {st : Bool} (h : LW w p a l u S lb c cnt st) (h' : Pw w' p a l u' S') (hk : Keeps [p, a.s, a.k, a.m] w w') : LW w' p a l u' S' lb c cnt st := by
  obtain ⟨n1, n2, n3, n4, n5⟩ := h.ne
  exact ⟨h', hk.at h.log (by simp; exact ⟨n1, n3, n4, n5⟩)⟩

/-- A write into the log's own block. -/
theorem LW.set {w : World} {p : Nat} {a : DA} {l u : Int} {S : DS} {lb : Nat} {c : Cfg} {cnt : Nat} {st : Bool} (h : LW w p a l u S lb c cnt st) (i : Nat) (v : Value) {cnt' : Nat} {st' : Bool}
    (e : (logO a.d c cnt st) = (logO a.d c cnt st) → ((#[ptr a.d, .int .i64 c.log, .int .i64 c.roots, .int .i64 c.space, .int .i64 cnt, .bool st] : Array Value).setIfInBounds i v = #[ptr a.d, .int .i64 c.log, .int .i64 c.roots, .int .i64 c.space, .int .i64 cnt', .bool st'])) :
    LW (w.setCell ⟨lb, i, none⟩ v) p a l u S lb c cnt' st' := by
  obtain ⟨n1, n2, n3, n4, n5⟩ := h.ne
  refine ⟨h.pw.keep (T := [lb]) ((Keeps.refl _ _).set (.inl (by simp)) _) (by simpa using n1.symm) (by simpa using n2.symm) (by simpa using n3.symm) (by simpa using n4.symm) (by simpa using n5.symm), ?_⟩
  have := h.log.set i v
  rwa [e rfl] at this

/-! Words of records, stamps, epochs. -/

/-- The epoch of a word. -/
def epN (x : Nat) : Nat := x % 4294967296
/-- Record i's stamp in an epoch. -/
def stN (e i : Nat) : Nat := e * 4294967296 + (i + 1)

theorem epN_lt (x : Nat) : epN x < 4294967296 := Nat.mod_lt _ (by omega)

theorem ep_and (x : Nat) (hx : x < 18446744073709551616) : bits .and .u64 (x : Int) 4294967295 = (epN x : Nat) := by
  rw [show (4294967295 : Int) = ((4294967295 : Nat) : Int) from rfl, u64_and_nat _ _ hx (by omega)]
  congr 1
  exact Nat.and_two_pow_sub_one_eq_mod x 32

set_option maxHeartbeats 400000 in
theorem epoch_at (w : World) (x : Nat) (hx : x < 18446744073709551616) :
    Calls Tryz.prog 89 #[.int .u64 x] w fun e w' => e = .returned (.int .u64 (epN x)) ∧ w = w' := by
  have H := hid (ep_and x hx)
  go_enter Tryz.func89, Tryz.ntmps89
  go_wp2
  go_ret
  exact ⟨by rw [H.out]; rfl, rfl⟩

section
variable {w : World} {p : Nat} {a : DA} {l u : Int} {S : DS} {lb : Nat} {c : Cfg} {cnt : Nat} {st : Bool}

set_option maxHeartbeats 400000 in
theorem len6_at (h : LW w p a l u S lb c cnt st) :
    Calls Tryz.prog 74 #[ptr lb] w fun e w' => e = .returned (.int .i64 cnt) ∧ w = w' := by
  have c4 := h.log.cell 4 rfl
  go_enter Tryz.func74, Tryz.ntmps74
  go_wp2
  go_ret
  exact ⟨rfl, rfl⟩

set_option maxHeartbeats 400000 in
theorem epoch6_at (h : LW w p a l u S lb c cnt st) (x : Nat) (hx : x < 18446744073709551616) (h8 : S.now 8 = x) (hn : 8 < a.n) :
    Calls Tryz.prog 75 #[ptr lb] w fun e w' => e = .returned (.int .u64 (epN x)) ∧ w = w' := by
  have c0 := h.log.cell 0 rfl
  have HL := hid (load_eq w p a S 8 x h.pw.dev hn h8)
  have HE := hid (epoch_at w x hx)
  clear h8
  go_enter Tryz.func75, Tryz.ntmps75
  go_wp2_with fail
  refine HL.out.mono ?_
  rintro e w1 ⟨rfl, rfl⟩
  go_wp2_with fail
  refine HE.out.mono ?_
  rintro e w1 ⟨rfl, rfl⟩
  go_wp2_with fail
  go_ret
  exact ⟨rfl, rfl⟩

theorem st_or (e i : Nat) (he : e < 4294967296) (hi : i < 1000000) : bits .or .u64 ((e : Int) * 4294967296) ((i : Int) + 1) = (stN e i : Nat) := by
  have j : e * 4294967296 ||| (i + 1) = e * 4294967296 + (i + 1) := nat_join 32 _ _ (by omega) (by omega)
  rw [show ((e : Int) * 4294967296) = ((e * 4294967296 : Nat) : Int) by omega, show ((i : Int) + 1) = ((i + 1 : Nat) : Int) by omega, u64_or_nat _ _ (by omega) (by omega), j]
  rfl

set_option maxHeartbeats 400000 in
theorem stamp_at (h : LW w p a l u S lb c cnt st) (x : Nat) (hx : x < 18446744073709551616) (h8 : S.now 8 = x) (hn : 8 < a.n) (i : Nat) (hi : i < 100000) :
    Calls Tryz.prog 97 #[ptr lb, .int .i64 i] w fun e w' => e = .returned (.int .u64 (stN (epN x) i)) ∧ w = w' := by
  have HE := hid (epoch6_at h x hx h8 hn)
  have he := epN_lt x
  have H := hid (st_or (epN x) i he (by omega))
  have heb : (epN x : Int) < 4294967296 := by omega
  have hib : (i : Int) < 100000 := by omega
  clear h8
  go_enter Tryz.func97, Tryz.ntmps97
  go_wp2_with fail
  refine HE.out.mono ?_
  rintro e w1 ⟨rfl, rfl⟩
  go_wp2_with fail
  go_ret
  exact ⟨by rw [← H.out]; rfl, rfl⟩

theorem loadz_at (w : World) (p : Nat) (a : DA) (S : DS) (h : Dev w p a S) (z : Int) (k : Nat) (hz : z = k) (hk : k < a.n) :
    Calls Tryz.prog 30 #[ptr a.d, .int .i64 z] w fun e w' => e = .returned (.int .u64 (S.now k)) ∧ w = w' := by
  subst hz
  exact load_in w p a S k h hk

set_option maxRecDepth 100000 in
set_option maxHeartbeats 1000000 in
theorem word_at (h : LW w p a l u S lb c cnt st) (i j : Nat) (hi : i ≤ 10000) (hj : j ≤ 3) (hn : 16 + 4 * i + j < a.n) :
    Calls Tryz.prog 88 #[ptr lb, .int .i64 i, .int .i64 j] w fun e w' => e = .returned (.int .u64 (S.now (16 + 4 * i + j))) ∧ Keeps [] w w' := by
  have hib : (i : Int) ≤ 10000 := by omega
  have hjb : (j : Int) ≤ 3 := by omega
  have HS : Hid (∀ w', Keeps [] w w' → (w'.cell? ⟨lb, 0, none⟩ = some (ptr a.d) ∧ w'.cell? ⟨lb, 1, none⟩ = some (.int .i64 c.log) ∧ w'.cell? ⟨lb, 2, none⟩ = some (.int .i64 c.roots) ∧ w'.cell? ⟨lb, 3, none⟩ = some (.int .i64 c.space) ∧ Keeps [] w w')) := fun w' hk => ⟨(hk.at h.log (by simp)).cell 0 rfl, (hk.at h.log (by simp)).cell 1 rfl, (hk.at h.log (by simp)).cell 2 rfl, (hk.at h.log (by simp)).cell 3 rfl, hk⟩
  have k0 : Keeps [] w w.drew := (Keeps.refl _ _).drew
  have C1 := hid (fun w' => record_at w' c.log c.roots c.space i hi)
  have LD := hid (fun (w' : World) (hk : Keeps [] w w') (z : Int) (hz : z = ((16 + 4 * i + j : Nat) : Int)) => loadz_at w' p a S (h.pw.keep0 hk).dev z (16 + 4 * i + j) hz hn)
  have HW : Hid (IntKind.i64.wrap (((16 + 4 * i : Nat) : Int) + (j : Int)) = ((16 + 4 * i + j : Nat) : Int)) := by
    show _ = _
    rw [IntWalk.i64_in _ (by omega)]
    omega
  go_enter Tryz.func88, Tryz.ntmps88
  go_upto_region 1 with fail
  go_region_held3 (fun w' => w'.cell? ⟨lb, 0, none⟩ = some (ptr a.d) ∧ w'.cell? ⟨lb, 1, none⟩ = some (.int .i64 c.log) ∧ w'.cell? ⟨lb, 2, none⟩ = some (.int .i64 c.roots) ∧ w'.cell? ⟨lb, 3, none⟩ = some (.int .i64 c.space) ∧ Keeps [] w w')
    (first | exact HS.out _ k0 | exact HS.out _ k1)
    (first | (go_at_call 46; refine (C1.out _).mono ?_; rintro e w1 ⟨rfl, hk1⟩; have k1 := k0.trans hk1)
           | (go_at_call 30; refine (LD.out _ (by assumption) _ (by first | exact HW.out | omega)).mono ?_; rintro e w2 ⟨rfl, rfl⟩))
  go_wp2
  go_ret
  exact ⟨rfl, k1⟩

end

/-- As a whole number. -/
theorem asInt_of (n : Nat) (h : n < 9223372036854775808) : asInt (n : Int) = (n : Int) := IntWalk.wrap64_in _ (by omega)

section
variable {w : World} {p : Nat} {a : DA} {l u : Int} {S : DS} {lb : Nat} {c : Cfg} {cnt : Nat} {st : Bool}

set_option maxHeartbeats 400000 in
theorem place_at (h : LW w p a l u S lb c cnt st) (i : Nat) (hi : i ≤ 10000) (hn : 17 + 4 * i < a.n) :
    Calls Tryz.prog 87 #[ptr lb, .int .i64 i] w fun e w' => e = .returned (.int .i64 (asInt (S.now (17 + 4 * i)))) ∧ Keeps [] w w' := by
  have HW := hid (word_at h i 1 hi (by omega) (by omega))
  go_enter Tryz.func87, Tryz.ntmps87
  go_wp2_with fail
  refine HW.out.mono ?_
  rintro e w1 ⟨rfl, hk⟩
  go_wp2_with fail
  go_ret
  exact ⟨by rw [show 17 + 4 * i = 16 + 4 * i + 1 by omega]; rfl, hk⟩

/-- Is record i's stamp good? -/
def goodB (f : Nat → Int) (e i : Nat) : Bool := f (16 + 4 * i) == ((stN e i : Nat) : Int)

set_option maxHeartbeats 400000 in
theorem stamped_at (h : LW w p a l u S lb c cnt st) (x : Nat) (hx : x < 18446744073709551616) (h8 : S.now 8 = x) (i : Nat) (hi : i ≤ 10000) (hn : 16 + 4 * i < a.n) :
    Calls Tryz.prog 82 #[ptr lb, .int .i64 i] w fun e w' => e = .returned (.bool (goodB S.now (epN x) i)) ∧ Keeps [] w w' := by
  have HW := hid (word_at h i 0 hi (by omega) (by omega))
  have HT := hid (fun (w' : World) (hk : Keeps [] w w') => stamp_at (h.keep0 hk) x hx h8 (by omega) i (by omega))
  clear h8
  go_enter Tryz.func82, Tryz.ntmps82
  go_wp2_with fail
  refine HW.out.mono ?_
  rintro e w1 ⟨rfl, hk⟩
  have HT1 := hid (HT.out w1 hk)
  go_wp2_with fail
  refine HT1.out.mono ?_
  rintro e w2 ⟨rfl, rfl⟩
  go_wp2_with fail
  go_ret
  exact ⟨rfl, hk⟩

end

/-! Steps within the log. -/

/-- How a call of a log's ends: done, the log as told; or cut. -/
def RanL (p : Nat) (a : DA) (l u : Int) (S : DS) (lb : Nat) (c : Cfg) (cnt : Nat) (st : Bool) (cs : List Cmd) (v : Value) (w : World) (e : Ending) (w' : World) : Prop :=
  (e = .returned v ∧ LW w' p a l (u + (cs.length : Int)) (execs S cs) lb c cnt st ∧ Keeps [p, a.s, a.k, a.m, lb] w w') ∨
  (e = .panicked [{ v := goneV, recovered := false }] ∧ (∃ S', Cut l u S cs S' ∧ Pw w' p a l l S') ∧ Keeps [p, a.s, a.k, a.m, lb] w w')

theorem ranL_end {p : Nat} {a : DA} {l u u' : Int} {S S' : DS} {lb : Nat} {c : Cfg} {cnt : Nat} {st : Bool} {cs : List Cmd} {v : Value} {w w' : World} (h : LW w' p a l u' S' lb c cnt st) (hu : u' = u + (cs.length : Int)) (hS : S' = execs S cs) (hk : Keeps [p, a.s, a.k, a.m, lb] w w') :
    RanL p a l u S lb c cnt st cs v w (.returned v) w' := by
  subst hu hS
  exact .inl ⟨rfl, h, hk⟩

theorem ranL_cut {p : Nat} {a : DA} {l u : Int} {S S' : DS} {lb : Nat} {c : Cfg} {cnt : Nat} {st : Bool} {cs : List Cmd} {v : Value} {w w' : World} (h : Pw w' p a l l S') (hc : Cut l u S cs S') (hk : Keeps [p, a.s, a.k, a.m, lb] w w') :
    RanL p a l u S lb c cnt st cs v w (.panicked [{ v := goneV, recovered := false }]) w' :=
  .inr ⟨rfl, ⟨S', hc, h⟩, hk⟩

/-- Blocks of steps, and of the log. -/
theorem Keeps.lg {p : Nat} {a : DA} {lb : Nat} {w w' : World} (h : Keeps [p, a.s, a.k, a.m] w w') : Keeps [p, a.s, a.k, a.m, lb] w w' := h.mono (by simp; omega)

theorem RanL.free {p : Nat} {a : DA} {u : Int} {S : DS} {lb : Nat} {c : Cfg} {cnt : Nat} {st : Bool} {cs : List Cmd} {v : Value} {w w' : World} {e : Ending} (h : RanL p a (-1) u S lb c cnt st cs v w e w') (hu : 0 ≤ u) :
    e = .returned v ∧ LW w' p a (-1) (u + (cs.length : Int)) (execs S cs) lb c cnt st ∧ Keeps [p, a.s, a.k, a.m, lb] w w' := by
  rcases h with h | ⟨_, ⟨_, ⟨_, _, _, _, _, hl⟩, _⟩, _⟩
  · exact h
  · omega

section
variable {w : World} {p : Nat} {a : DA} {l u : Int} {S : DS} {lb : Nat} {c : Cfg} {cnt : Nat} {st : Bool}

set_option maxHeartbeats 1000000 in
theorem store6_ran (h : LW w p a l u S lb c cnt st) (i : Nat) (v : Int) (hi : i < a.n) (hb : u < 4611686018427387904) :
    Calls Tryz.prog 98 #[ptr lb, .int .i64 i, .int .u64 v] w (RanL p a l u S lb c cnt false [.st i v] (.tuple #[]) w) := by
  have f5 := h.log.free 5
  have c5 := h.log.cell 5 rfl
  have h1 := h.set 5 (.bool false) (cnt' := cnt) (st' := false) (fun _ => rfl)
  have K1 : Keeps [p, a.s, a.k, a.m, lb] w (w.setCell ⟨lb, 5, none⟩ (.bool false)) := (Keeps.refl _ _).set (.inl (by simp)) _
  have HS := hid (store_ran _ p a l u S i v h1.pw hi hb)
  have c0 := h1.log.cell 0 rfl
  have c0' := h.log.cell 0 rfl
  go_enter Tryz.func98, Tryz.ntmps98
  go_wp2_with fail
  refine HS.out.mono ?_
  rintro e w2 (⟨rfl, h2, k2⟩ | ⟨rfl, ⟨S', c2, h2⟩, k2⟩)
  · have h3 := h1.next h2 k2
    go_wp2_with fail
    go_end0
    exact ranL_end h3 rfl rfl (K1.trans k2.lg)
  · exact ⟨rfl, ranL_cut h2 c2 (K1.trans k2.lg)⟩

def kpL (i : Nat) : List Cmd := [.fl i, .fe]

set_option maxHeartbeats 1000000 in
theorem keep6_ran (h : LW w p a l u S lb c cnt st) (i : Nat) (hi : i < a.n) (hb : u < 4611686018427380000) :
    Calls Tryz.prog 99 #[ptr lb, .int .i64 i] w (RanL p a l u S lb c cnt true (kpL i) (.tuple #[]) w) := by
  have h0 := h.pw.lo
  have c0 := h.log.cell 0 rfl
  have HS := hid (flush_ran _ p a l u S i h.pw hi (by omega))
  go_enter Tryz.func99, Tryz.ntmps99
  go_wp2_with fail
  refine HS.out.mono ?_
  rintro e w2 (⟨rfl, h2, k2⟩ | ⟨rfl, ⟨S', c2, h2⟩, k2⟩)
  rotate_left
  · exact ⟨rfl, ranL_cut h2 (c2.left [.fe]) k2.lg⟩
  have l2 := h.next h2 k2
  have c0 := l2.log.cell 0 rfl
  go_wp2_with fail
  refine (fence_ran _ p a l _ _ h2 (by simp; omega)).mono ?_
  rintro e w3 (⟨rfl, h3, k3⟩ | ⟨rfl, ⟨S', c3, h3⟩, k3⟩)
  rotate_left
  · exact ⟨rfl, ranL_cut h3 (Cut.right (A := [.fl i]) c3 rfl rfl) (k2.trans k3).lg⟩
  have l3 := l2.next h3 k3
  have c5 := l3.log.cell 5 rfl
  have f5 := l3.log.free 5
  go_wp2_with fail
  go_end0
  exact ranL_end (l3.set 5 (.bool true) (cnt' := cnt) (st' := true) (fun _ => rfl)) (by simp [kpL]; omega) rfl ((k2.trans k3).lg.set (.inl (by simp)) _)

end

/-- What settle does. -/
def setF : Nat → Cmd := fun k => .fl (8 * (k + 1))
def setL (c : Cfg) : List Cmd := rowL setF (c.act / 8 - 1) ++ [.fe]
def sL (c : Cfg) (st : Bool) : List Cmd := if st then [] else setL c

theorem act8 (c : Cfg) : c.act = 8 * (c.act / 8) := by
  have := (up8_le (16 + 4 * c.log)).2.2
  have e : c.act = up8 (16 + 4 * c.log) := rfl
  omega

theorem setL_len (c : Cfg) : (setL c).length = c.act / 8 - 1 + 1 := by simp [setL, rowL_len]

theorem sL_len {c : Cfg} (h : c.Small) (st : Bool) : (sL c st).length ≤ 103 := by
  have := act_le h
  unfold sL
  cases st
  · simp only [Bool.false_eq_true, if_false, setL_len]; omega
  · simp

section
variable {w : World} {p : Nat} {a : DA} {l u : Int} {S : DS} {lb : Nat} {c : Cfg} {cnt : Nat} {st : Bool}

set_option maxRecDepth 100000 in
set_option maxHeartbeats 1000000 in
theorem settle_false (h : LW w p a l u S lb c cnt false) (hs : c.Small) (hn : c.act ≤ a.n) (hb : u < 4611686018427380000) :
    Calls Tryz.prog 83 #[ptr lb] w (RanL p a l u S lb c cnt true (setL c) (.tuple #[]) w) := by
  have h0 := h.pw.lo
  have c5 := h.log.cell 5 rfl
  have ha := act_le hs
  have h16 : 16 ≤ c.act := by have := (up8_le (16 + 4 * c.log)).1; have e : c.act = up8 (16 + 4 * c.log) := rfl; omega
  have hai : (c.act : Int) ≤ 823 := by omega
  have A8 := hid (act8 c)
  have HS := hid hs
  obtain ⟨N, hN⟩ : ∃ N, N = c.act / 8 - 1 := ⟨_, rfl⟩
  have HN := hid hN
  have hNb : N ≤ 102 := by omega
  clear hN hs
  go_enter Tryz.func83, Tryz.ntmps83
  go_wp2_with fail
  clear c5
  go_loopg [2] N (fun r s wr => ∃ i q : Nat, i + r = N ∧ q = 8 * (i + 1) ∧ s = .int .i64 (q : Int) ∧ LW wr p a l (u + (i : Int)) (execs S (rowL setF i)) lb c cnt false ∧ Keeps [p, a.s, a.k, a.m] w wr)
  case atStart => exact ⟨0, 8, by omega, rfl, rfl, by simpa [rowL_zero, execs_nil] using h, Keeps.refl _ _⟩
  case round =>
    obtain ⟨i, q, hi, hq, rfl, hP, hK⟩ := hrel
    have hq1 : (q : Int) ≤ 16000 := by omega
    have c0 := hP.log.cell 0 rfl
    have c1 := hP.log.cell 1 rfl
    have c2 := hP.log.cell 2 rfl
    have c3 := hP.log.cell 3 rfl
    by_cases hlt : i < N
    · have hqn : q < c.act := by have := A8.out; have := HN.out; omega
      have t0 : decide (q < c.act) = true := by rw [decide_eq_true_eq]; exact hqn
      have t1 : decide ((q : Int) < (c.act : Int)) = true := by rw [decide_eq_true_eq]; omega
      have HQ := hid hq
      clear hq
      go_wp2_with fail
      refine (active_at _ c HS.out).mono ?_
      rintro e w1 ⟨rfl, hk1⟩
      have hP1 := hP.keep0 hk1
      clear c0 c1 c2 c3
      have c0 := hP1.log.cell 0 rfl
      go_wp2_with fail
      refine (flush_ran w1 p a l _ _ q hP1.pw (by omega) (by omega)).mono ?_
      rintro e w2 (⟨rfl, h2, k2⟩ | ⟨rfl, ⟨S', d2, h2⟩, k2⟩)
      · go_wp2_with fail
        go_roundg (N - (i + 1))
        case measure => omega
        case rel =>
          refine ⟨i + 1, q + 8, by omega, by have := HQ.out; omega, by go_num, ?_, (hK.trans (hk1.mono (by simp))).trans k2⟩
          refine hP1.next ?_ k2
          have h3 := h2
          rw [← execs_append, HQ.out] at h3
          have e : rowL setF (i + 1) = rowL setF i ++ [Cmd.fl (8 * (i + 1))] := rowL_succ _ _
          rw [e]
          simpa [Int.add_assoc] using h3
      · refine ⟨rfl, ranL_cut h2 ?_ ((hK.trans (hk1.mono (by simp))).trans k2).lg⟩
        rw [HQ.out] at d2
        have := (Cut.row (f := setF) d2 hlt).left [Cmd.fe]
        rw [HN.out] at this
        exact this
    · have hiL : i = N := by omega
      subst hiL
      have hqn : q = c.act := by have := A8.out; have := HN.out; omega
      have t0 : decide (q < c.act) = false := by rw [decide_eq_false_iff_not]; omega
      have t1 : decide ((q : Int) < (c.act : Int)) = false := by rw [decide_eq_false_iff_not]; omega
      clear hqn hq hi
      go_wp2_with fail
      refine (active_at _ c HS.out).mono ?_
      rintro e w1 ⟨rfl, hk1⟩
      have hP1 := hP.keep0 hk1
      clear c0 c1 c2 c3
      have c0 := hP1.log.cell 0 rfl
      go_wp2_with fail
      refine (fence_ran w1 p a l _ _ hP1.pw (by omega)).mono ?_
      rintro e w2 (⟨rfl, h2, k2⟩ | ⟨rfl, ⟨S', d2, h2⟩, k2⟩)
      · have l2 := hP1.next h2 k2
        have c5 := l2.log.cell 5 rfl
        have f5 := l2.log.free 5
        go_wp2_with fail
        go_end0
        refine ranL_end (l2.set 5 (.bool true) (cnt' := cnt) (st' := true) (fun _ => rfl)) ?_ ?_ (((hK.trans (hk1.mono (by simp))).trans k2).lg.set (.inl (by simp)) _)
        · rw [setL_len, ← HN.out]; simp; omega
        · rw [setL, execs_append, ← HN.out]
      · refine ⟨rfl, ranL_cut h2 ?_ ((hK.trans (hk1.mono (by simp))).trans k2).lg⟩
        have := Cut.right (A := rowL setF i) (B := [Cmd.fe]) d2 (by rw [rowL_len]) rfl
        rw [HN.out] at this
        exact this

set_option maxHeartbeats 400000 in
theorem settle_true (h : LW w p a l u S lb c cnt true) :
    Calls Tryz.prog 83 #[ptr lb] w (RanL p a l u S lb c cnt true [] (.tuple #[]) w) := by
  have c5 := h.log.cell 5 rfl
  go_enter Tryz.func83, Tryz.ntmps83
  go_wp2_with fail
  go_end0
  exact ranL_end h (by simp) rfl (Keeps.refl _ _)

theorem settle_ran (h : LW w p a l u S lb c cnt st) (hs : c.Small) (hn : c.act ≤ a.n) (hb : u < 4611686018427380000) :
    Calls Tryz.prog 83 #[ptr lb] w (RanL p a l u S lb c cnt true (sL c st) (.tuple #[]) w) := by
  cases st
  · exact settle_false h hs hn hb
  · exact settle_true h

end

/-- What fill does ahead of a record whose stamp is good; what it does; what sealing does. -/
def clrL (i : Nat) : List Cmd := .st (16 + 4 * i) 0 :: kpL (16 + 4 * i)
def filL (i : Nat) (pl was : Int) : List Cmd := .st (16 + 4 * i + 1) pl :: .st (16 + 4 * i + 2) was :: kpL (16 + 4 * i)
def seaL (i e : Nat) : List Cmd := .st (16 + 4 * i) (stN e i : Nat) :: kpL (16 + 4 * i)
def gL (g : Bool) (i : Nat) : List Cmd := if g then clrL i else []

theorem gL_len (g : Bool) (i : Nat) : (gL g i).length ≤ 3 := by unfold gL; cases g <;> simp [clrL, kpL]
theorem filL_len (i : Nat) (pl was : Int) : (filL i pl was).length = 4 := rfl
theorem seaL_len (i e : Nat) : (seaL i e).length = 3 := rfl

theorem addz (i j : Nat) (hi : i ≤ 10000) (hj : j ≤ 3) : IntKind.i64.wrap (((16 + 4 * i : Nat) : Int) + (j : Int)) = ((16 + 4 * i + j : Nat) : Int) := by
  rw [IntWalk.i64_in _ (by omega)]
  omega

section
variable {w : World} {p : Nat} {a : DA} {l u : Int} {S : DS} {lb : Nat} {c : Cfg} {cnt : Nat} {st : Bool}

theorem LW.cells (h : LW w p a l u S lb c cnt st) : Hid (∀ w', Keeps [] w w' → (w'.cell? ⟨lb, 0, none⟩ = some (ptr a.d) ∧ w'.cell? ⟨lb, 1, none⟩ = some (.int .i64 c.log) ∧ w'.cell? ⟨lb, 2, none⟩ = some (.int .i64 c.roots) ∧ w'.cell? ⟨lb, 3, none⟩ = some (.int .i64 c.space) ∧ w'.cell? ⟨lb, 4, none⟩ = some (.int .i64 cnt) ∧ w'.cell? ⟨lb, 5, none⟩ = some (.bool st) ∧ Keeps [] w w')) :=
  fun _ hk => ⟨(hk.at h.log (by simp)).cell 0 rfl, (hk.at h.log (by simp)).cell 1 rfl, (hk.at h.log (by simp)).cell 2 rfl, (hk.at h.log (by simp)).cell 3 rfl, (hk.at h.log (by simp)).cell 4 rfl, (hk.at h.log (by simp)).cell 5 rfl, hk⟩

set_option maxRecDepth 100000 in
set_option maxHeartbeats 2000000 in
theorem fill_ran (h : LW w p a l u S lb c cnt st) (x : Nat) (hx : x < 18446744073709551616) (h8 : S.now 8 = x) (hc : cnt ≤ 10000) (hn : 16 + 4 * cnt + 3 < a.n) (i : Nat) (was : Int) (hi : i < 18446744073709551616) (g : Bool) (hg : goodB S.now (epN x) cnt = g) (hb : u < 4611686018427370000) :
    Calls Tryz.prog 84 #[ptr lb, .int .i64 i, .int .u64 was] w (RanL p a l u S lb c cnt true (gL g cnt ++ filL cnt i was) (.tuple #[]) w) := by
  have h0 := h.pw.lo
  have hcb : (cnt : Int) ≤ 10000 := by omega
  have hib : (i : Int) < 18446744073709551616 := by omega
  have HC := h.cells
  have k0 : Keeps [] w w.drew := (Keeps.refl _ _).drew
  have C1 := hid (fun w' => record_at w' c.log c.roots c.space cnt hc)
  have HG := hid (fun (w' : World) (hk : Keeps [] w w') => stamped_at (h.keep0 hk) x hx h8 cnt hc (by omega))
  rw [hg] at HG
  clear hg h8
  go_enter Tryz.func84, Tryz.ntmps84
  go_upto_region 0 with fail
  go_region_held3 (fun w' => w'.cell? ⟨lb, 0, none⟩ = some (ptr a.d) ∧ w'.cell? ⟨lb, 1, none⟩ = some (.int .i64 c.log) ∧ w'.cell? ⟨lb, 2, none⟩ = some (.int .i64 c.roots) ∧ w'.cell? ⟨lb, 3, none⟩ = some (.int .i64 c.space) ∧ w'.cell? ⟨lb, 4, none⟩ = some (.int .i64 cnt) ∧ w'.cell? ⟨lb, 5, none⟩ = some (.bool st) ∧ Keeps [] w w')
    (first | exact HC.out _ k0 | exact HC.out _ k1)
    (first | (go_at_call 46; refine (C1.out _).mono ?_; rintro e w1 ⟨rfl, hk1⟩; have k1 := k0.trans hk1))
  have hP1 := h.keep0 k1
  have HG1 := hid (HG.out w1 k1)
  have K1 := (k1.mono (by simp) : Keeps [p, a.s, a.k, a.m, lb] w w1)
  have c4 := hP1.log.cell 4 rfl
  clear HC C1 HG hk1 k0
  cases g
  · go_wp2_with fail
    refine HG1.out.mono ?_
    rintro e w2 ⟨rfl, hk2⟩
    have hP2 := hP1.keep0 hk2
    have K2 := K1.trans (hk2.mono (by simp))
    clear c4
    go_wp2_with fail
    refine (store6_ran hP2 (16 + 4 * cnt + 1) i (by omega) (by omega)).mono ?_
    rintro e w3 (⟨rfl, h3, k3⟩ | ⟨rfl, ⟨S', d3, h3⟩, k3⟩)
    rotate_left
    · exact ⟨rfl, ranL_cut h3 (d3.left (.st (16 + 4 * cnt + 2) was :: kpL (16 + 4 * cnt))) (K2.trans k3)⟩
    go_wp2_with fail
    refine (store6_ran h3 (16 + 4 * cnt + 2) was (by omega) (by simp; omega)).mono ?_
    rintro e w4 (⟨rfl, h4, k4⟩ | ⟨rfl, ⟨S', d4, h4⟩, k4⟩)
    rotate_left
    · exact ⟨rfl, ranL_cut h4 (Cut.right (A := [.st (16 + 4 * cnt + 1) i]) (d4.left (kpL (16 + 4 * cnt))) rfl rfl) ((K2.trans k3).trans k4)⟩
    go_wp2_with fail
    refine (keep6_ran h4 (16 + 4 * cnt) (by omega) (by simp; omega)).mono ?_
    rintro e w5 (⟨rfl, h5, k5⟩ | ⟨rfl, ⟨S', d5, h5⟩, k5⟩)
    rotate_left
    · exact ⟨rfl, ranL_cut h5 (Cut.right (A := [.st (16 + 4 * cnt + 1) i]) (Cut.right (A := [.st (16 + 4 * cnt + 2) was]) d5 rfl rfl) rfl rfl) (((K2.trans k3).trans k4).trans k5)⟩
    go_wp2_with fail
    go_end0
    exact ranL_end h5 (by simp [gL, filL, kpL]; omega) rfl (((K2.trans k3).trans k4).trans k5)
  · go_wp2_with fail
    refine HG1.out.mono ?_
    rintro e w2 ⟨rfl, hk2⟩
    have hP2 := hP1.keep0 hk2
    have K2 := K1.trans (hk2.mono (by simp))
    clear c4
    go_wp2_with fail
    refine (store6_ran hP2 (16 + 4 * cnt) 0 (by omega) (by omega)).mono ?_
    rintro e w6 (⟨rfl, h6, k6⟩ | ⟨rfl, ⟨S', d6, h6⟩, k6⟩)
    rotate_left
    · exact ⟨rfl, ranL_cut h6 (d6.left (kpL (16 + 4 * cnt) ++ filL cnt i was)) (K2.trans k6)⟩
    go_wp2_with fail
    refine (keep6_ran h6 (16 + 4 * cnt) (by omega) (by simp; omega)).mono ?_
    rintro e w7 (⟨rfl, h7, k7⟩ | ⟨rfl, ⟨S', d7, h7⟩, k7⟩)
    rotate_left
    · exact ⟨rfl, ranL_cut h7 ((Cut.right (A := [.st (16 + 4 * cnt) 0]) d7 rfl rfl).left (filL cnt i was)) ((K2.trans k6).trans k7)⟩
    have K7 := (K2.trans k6).trans k7
    have l7 : (clrL cnt).length = 3 := rfl
    have HL7 := hid l7
    clear k6 k7 K2 l7
    go_wp2_with fail
    refine (store6_ran h7 (16 + 4 * cnt + 1) i (by omega) (by simp [kpL]; omega)).mono ?_
    rintro e w3 (⟨rfl, h3, k3⟩ | ⟨rfl, ⟨S', d3, h3⟩, k3⟩)
    rotate_left
    · exact ⟨rfl, ranL_cut h3 (Cut.right (A := clrL cnt) (d3.left (.st (16 + 4 * cnt + 2) was :: kpL (16 + 4 * cnt))) (by simp [clrL, kpL]; omega) rfl) (K7.trans k3)⟩
    go_wp2_with fail
    refine (store6_ran h3 (16 + 4 * cnt + 2) was (by omega) (by simp [kpL]; omega)).mono ?_
    rintro e w4 (⟨rfl, h4, k4⟩ | ⟨rfl, ⟨S', d4, h4⟩, k4⟩)
    rotate_left
    · exact ⟨rfl, ranL_cut h4 (Cut.right (A := clrL cnt) (Cut.right (A := [.st (16 + 4 * cnt + 1) i]) (d4.left (kpL (16 + 4 * cnt))) rfl rfl) (by simp [clrL, kpL]; omega) rfl) ((K7.trans k3).trans k4)⟩
    go_wp2_with fail
    refine (keep6_ran h4 (16 + 4 * cnt) (by omega) (by simp [kpL]; omega)).mono ?_
    rintro e w5 (⟨rfl, h5, k5⟩ | ⟨rfl, ⟨S', d5, h5⟩, k5⟩)
    rotate_left
    · exact ⟨rfl, ranL_cut h5 (Cut.right (A := clrL cnt) (Cut.right (A := [.st (16 + 4 * cnt + 1) i]) (Cut.right (A := [.st (16 + 4 * cnt + 2) was]) d5 rfl rfl) rfl rfl) (by simp [clrL, kpL]; omega) rfl) (((K7.trans k3).trans k4).trans k5)⟩
    go_wp2_with fail
    go_end0
    exact ranL_end h5 (by simp [gL, filL, clrL, kpL]; omega) rfl (((K7.trans k3).trans k4).trans k5)

set_option maxRecDepth 100000 in
set_option maxHeartbeats 2000000 in
theorem seal_ran (h : LW w p a l u S lb c cnt st) (x : Nat) (hx : x < 18446744073709551616) (h8 : S.now 8 = x) (hc : cnt < 10000) (hn : 16 + 4 * cnt + 3 < a.n) (hb : u < 4611686018427370000) :
    Calls Tryz.prog 85 #[ptr lb] w (RanL p a l u S lb c (cnt + 1) true (seaL cnt (epN x)) (.tuple #[]) w) := by
  have h0 := h.pw.lo
  have hcb : (cnt : Int) < 10000 := by omega
  have HC := h.cells
  have k0 : Keeps [] w w.drew := (Keeps.refl _ _).drew
  have C1 := hid (fun w' => record_at w' c.log c.roots c.space cnt (by omega))
  have HT := hid (fun (w' : World) (hk : Keeps [] w w') => stamp_at (h.keep0 hk) x hx h8 (by omega) cnt (by omega))
  clear h8
  go_enter Tryz.func85, Tryz.ntmps85
  go_upto_region 0 with fail
  go_region_held3 (fun w' => w'.cell? ⟨lb, 0, none⟩ = some (ptr a.d) ∧ w'.cell? ⟨lb, 1, none⟩ = some (.int .i64 c.log) ∧ w'.cell? ⟨lb, 2, none⟩ = some (.int .i64 c.roots) ∧ w'.cell? ⟨lb, 3, none⟩ = some (.int .i64 c.space) ∧ w'.cell? ⟨lb, 4, none⟩ = some (.int .i64 cnt) ∧ w'.cell? ⟨lb, 5, none⟩ = some (.bool st) ∧ Keeps [] w w')
    (first | exact HC.out _ k0 | exact HC.out _ k1)
    (first | (go_at_call 46; refine (C1.out _).mono ?_; rintro e w1 ⟨rfl, hk1⟩; have k1 := k0.trans hk1))
  have hP1 := h.keep0 k1
  have HT1 := hid (HT.out w1 k1)
  have K1 := (k1.mono (by simp) : Keeps [p, a.s, a.k, a.m, lb] w w1)
  have c4 := hP1.log.cell 4 rfl
  clear HC C1 HT hk1 k0
  go_wp2_with fail
  refine HT1.out.mono ?_
  rintro e w2 ⟨rfl, rfl⟩
  clear c4
  go_wp2_with fail
  refine (store6_ran hP1 (16 + 4 * cnt) (stN (epN x) cnt : Nat) (by omega) (by omega)).mono ?_
  rintro e w3 (⟨rfl, h3, k3⟩ | ⟨rfl, ⟨S', d3, h3⟩, k3⟩)
  rotate_left
  · exact ⟨rfl, ranL_cut h3 (d3.left (kpL (16 + 4 * cnt))) (K1.trans k3)⟩
  have c4 := h3.log.cell 4 rfl
  have f4 := h3.log.free 4
  have h4 := h3.set 4 (.int .i64 ((cnt : Int) + 1)) (cnt' := cnt + 1) (st' := false) (fun _ => by simp)
  have K4 := (K1.trans k3).set (p := ⟨lb, 4, none⟩) (.inl (by simp)) (.int .i64 ((cnt : Int) + 1))
  clear h3 k3 K1
  go_wp2_with fail
  refine (keep6_ran h4 (16 + 4 * cnt) (by omega) (by simp; omega)).mono ?_
  rintro e w5 (⟨rfl, h5, k5⟩ | ⟨rfl, ⟨S', d5, h5⟩, k5⟩)
  rotate_left
  · exact ⟨rfl, ranL_cut h5 (Cut.right (A := [.st (16 + 4 * cnt) (stN (epN x) cnt : Nat)]) d5 rfl rfl) (K4.trans k5)⟩
  go_wp2_with fail
  go_end0
  exact ranL_end h5 (by simp [seaL, kpL]; omega) rfl (K4.trans k5)

end

/-- What Append does. -/
def appL (c : Cfg) (st g : Bool) (cnt e i : Nat) (was : Int) : List Cmd := sL c st ++ ((gL g cnt ++ filL cnt i was) ++ seaL cnt e)

/-- settle turns no word that stands. -/
theorem rowSet_now (S : DS) : ∀ n, (execs S (rowL setF n)).now = S.now
  | 0 => rfl
  | n + 1 => by rw [rowL_succ, execs_append]; exact rowSet_now S n
theorem sL_now (c : Cfg) (st : Bool) (S : DS) : (execs S (sL c st)).now = S.now := by
  cases st
  · show (execs S (setL c)).now = S.now
    rw [setL, execs_append]
    exact rowSet_now S _
  · rfl

section
variable {w : World} {p : Nat} {a : DA} {l u : Int} {S : DS} {lb : Nat} {c : Cfg} {cnt : Nat} {st : Bool}

set_option maxHeartbeats 400000 in
/-- Append, of no word. -/
theorem append_no (h : LW w p a l u S lb c cnt st) (i : Int) (hi : i < 0 ∨ (a.n : Int) ≤ i) :
    Calls Tryz.prog 72 #[ptr lb, .int .i64 i] w fun e w' => e = .returned (.int .i64 1) ∧ w = w' := by
  have c0 := h.log.cell 0 rfl
  have HL := hid (len_at w p a S h.pw.dev)
  by_cases h0 : i < 0
  · have t0 : decide (i < 0) = true := by rw [decide_eq_true_eq]; exact h0
    go_enter Tryz.func72, Tryz.ntmps72
    go_wp2_with fail
    go_ret
    exact ⟨rfl, rfl⟩
  · have t0 : decide (i < 0) = false := by rw [decide_eq_false_iff_not]; exact h0
    have hge : (a.n : Int) ≤ i := by omega
    have t1 : decide ((a.n : Int) ≤ i) = true := by rw [decide_eq_true_eq]; exact hge
    clear hi
    go_enter Tryz.func72, Tryz.ntmps72
    go_wp2_with fail
    refine HL.out.mono ?_
    rintro e w1 ⟨rfl, rfl⟩
    go_wp2_with fail
    go_ret
    exact ⟨rfl, rfl⟩

set_option maxHeartbeats 1000000 in
/-- Append, all records being there. -/
theorem append_full (h : LW w p a l u S lb c cnt st) (i : Nat) (hi : i < a.n) (hc : cnt = c.log) :
    Calls Tryz.prog 72 #[ptr lb, .int .i64 i] w fun e w' => e = .returned (.int .i64 3) ∧ Keeps [] w w' := by
  subst hc
  have c0 := h.log.cell 0 rfl
  have c1 := h.log.cell 1 rfl
  have c4 := h.log.cell 4 rfl
  have HL := hid (len_at w p a S h.pw.dev)
  have t0 : decide ((i : Int) < 0) = false := by rw [decide_eq_false_iff_not]; omega
  have t1 : decide ((a.n : Int) ≤ (i : Int)) = false := by rw [decide_eq_false_iff_not]; omega
  have t2 : decide (a.n ≤ i) = false := by rw [decide_eq_false_iff_not]; omega
  clear hi
  go_enter Tryz.func72, Tryz.ntmps72
  go_wp2_with fail
  refine HL.out.mono ?_
  rintro e w1 ⟨rfl, rfl⟩
  go_upto_region 3 with fail
  go_region
  go_wp2_with fail
  go_ret
  exact ⟨rfl, (Keeps.refl _ _).drew⟩

set_option maxRecDepth 100000 in
set_option maxHeartbeats 2000000 in
/-- Append, of a word. -/
theorem append_ran (h : LW w p a l u S lb c cnt st) (hs : c.Small) (x : Nat) (hx : x < 18446744073709551616) (h8 : S.now 8 = x) (hc : cnt < c.log) (hn : c.act ≤ a.n) (i : Nat) (hi : i < a.n) (g : Bool) (hg : goodB S.now (epN x) cnt = g) (hb : u < 4611686018427360000) :
    Calls Tryz.prog 72 #[ptr lb, .int .i64 i] w (RanL p a l u S lb c (cnt + 1) true (appL c st g cnt (epN x) i (S.now i)) (.int .i64 0) w) := by
  have h0 := h.pw.lo
  have c0 := h.log.cell 0 rfl
  have c1 := h.log.cell 1 rfl
  have c4 := h.log.cell 4 rfl
  have hl200 := hs.2.1
  have hact : 16 + 4 * c.log ≤ c.act := (up8_le (16 + 4 * c.log)).1
  have hsl := sL_len hs st
  have hgl := gL_len g cnt
  have hfew := h.pw.dev.few
  have hn8 := a.n8
  have hne : ((cnt : Int) == (c.log : Int)) = false := by rw [beq_eq_false_iff_ne]; omega
  have HL := hid (len_at w p a S h.pw.dev)
  have t0 : decide ((i : Int) < 0) = false := by rw [decide_eq_false_iff_not]; omega
  have t1 : decide ((a.n : Int) ≤ (i : Int)) = false := by rw [decide_eq_false_iff_not]; omega
  have t2 : decide (a.n ≤ i) = false := by rw [decide_eq_false_iff_not]; omega
  have B1 := hid (show cnt ≤ 10000 ∧ cnt < 10000 ∧ 16 + 4 * cnt + 3 < a.n ∧ i < 18446744073709551616 by omega)
  have H8 := hid h8
  have HG := hid hg
  clear h8 hg hl200 hact hfew hn8
  go_enter Tryz.func72, Tryz.ntmps72
  go_wp2_with fail
  refine HL.out.mono ?_
  rintro e w1 ⟨rfl, rfl⟩
  go_upto_region 3 with fail
  go_region
  have hw := h.keep0 ((Keeps.refl [] w).drew)
  have K0 : Keeps [p, a.s, a.k, a.m, lb] w w.drew := (Keeps.refl _ _).drew
  obtain ⟨w0, hw0⟩ : ∃ w0, w0 = w.drew := ⟨_, rfl⟩
  rw [← hw0] at hw K0 ⊢
  clear hw0 c0 c1 c4 HL
  have c0 := hw.log.cell 0 rfl
  go_wp2_with fail
  refine (load_in w0 p a S i hw.pw.dev hi).mono ?_
  rintro e w1 ⟨rfl, rfl⟩
  clear c0
  go_wp2_with fail
  refine (settle_ran hw hs hn (by omega)).mono ?_
  rintro e w2 (⟨rfl, h2, k2⟩ | ⟨rfl, ⟨S', d2, h2⟩, k2⟩)
  rotate_left
  · exact ⟨rfl, ranL_cut h2 (d2.left _) (K0.trans k2)⟩
  have e2 := sL_now c st S
  go_wp2_with fail
  refine (fill_ran h2 x hx (by rw [e2]; exact H8.out) B1.out.1 B1.out.2.2.1 i (S.now i) B1.out.2.2.2 g (by rw [e2]; exact HG.out) (by omega)).mono ?_
  rintro e w3 (⟨rfl, h3, k3⟩ | ⟨rfl, ⟨S', d3, h3⟩, k3⟩)
  rotate_left
  · exact ⟨rfl, ranL_cut h3 (Cut.right (A := sL c st) (d3.left _) rfl rfl) ((K0.trans k2).trans k3)⟩
  have e3 : (execs (execs S (sL c st)) (gL g cnt ++ filL cnt i (S.now i))).now 8 = x := by
    rw [execs_now_off]
    · rw [e2]; exact H8.out
    · intro y hy
      simp only [List.mem_append] at hy
      rcases hy with hy | hy
      · cases g
        · simp [gL] at hy
        · simp [gL, clrL, kpL] at hy
          rcases hy with rfl | rfl | rfl
          · show 16 + 4 * cnt ≠ 8; omega
          · trivial
          · trivial
      · simp [filL, kpL] at hy
        rcases hy with rfl | rfl | rfl | rfl
        · show 16 + 4 * cnt + 1 ≠ 8; omega
        · show 16 + 4 * cnt + 2 ≠ 8; omega
        · trivial
        · trivial
  go_wp2_with fail
  refine (seal_ran h3 x hx e3 B1.out.2.1 B1.out.2.2.1 (by simp [filL_len]; omega)).mono ?_
  rintro e w4 (⟨rfl, h4, k4⟩ | ⟨rfl, ⟨S', d4, h4⟩, k4⟩)
  rotate_left
  · exact ⟨rfl, ranL_cut h4 (Cut.right (A := sL c st) (Cut.right (A := gL g cnt ++ filL cnt i (S.now i)) d4 rfl rfl) rfl rfl) (((K0.trans k2).trans k3).trans k4)⟩
  go_wp2_with fail
  go_ret
  refine ranL_end h4 ?_ ?_ (((K0.trans k2).trans k3).trans k4)
  · unfold appL; simp only [List.length_append]; omega
  · unfold appL; simp only [execs_append]

end

/-- What Open answers. -/
def Opened (p : Nat) (a : DA) (l u : Int) (S : DS) (c : Cfg) (x : Nat) (w : World) (e : Ending) (w' : World) : Prop :=
  ∃ lb m, e = .returned (ptr lb) ∧ w.heap.size ≤ lb ∧ LW w' p a l u S lb c m false ∧ Keeps [] w w' ∧ m ≤ c.log ∧ (∀ i, i < m → goodB S.now (epN x) i = true) ∧ (m < c.log → goodB S.now (epN x) m = false)

section
variable {w : World} {p : Nat} {a : DA} {l u : Int} {S : DS} {lb : Nat} {c : Cfg} {cnt : Nat} {st : Bool}

set_option maxRecDepth 100000 in
set_option maxHeartbeats 2000000 in
theorem open_at (w : World) (p : Nat) (a : DA) (l u : Int) (S : DS) (c : Cfg) (h : Pw w p a l u S) (hs : c.Small) (x : Nat) (hx : x < 18446744073709551616) (h8 : S.now 8 = x) (hn : c.act < a.n) :
    Calls Tryz.prog 71 #[ptr a.d, cfgV c] w (Opened p a l u S c x w) := by
  have hl200 := hs.2.1
  have hact : 16 + 4 * c.log ≤ c.act := (up8_le (16 + 4 * c.log)).1
  have HA := hid (show 16 + 4 * c.log < a.n ∧ c.log ≤ 200 by omega)
  have H8 := hid h8
  have hlb : (c.log : Int) ≤ 200 := by omega
  clear h8 hl200 hact hn
  go_enter Tryz.func71, Tryz.ntmps71
  go_wp2_with fail
  go_loopg [] c.log (fun r wr => ∃ i : Nat, i + r = c.log ∧ LW wr p a l u S (w.heap.size + 1) c i false ∧ At wr w.heap.size (cfgO c) ∧ Keeps [w.heap.size + 1] w wr ∧ ∀ j, j < i → goodB S.now (epN x) j = true)
  case atStart =>
    have hB0 := (At.new w (cfgO c)).alloc (logO a.d c 0 false)
    have hL0 := At.new (w.alloc (cfgO c)) (logO a.d c 0 false)
    have K0 := ((Keeps.refl [w.heap.size + 1] w).alloc (cfgO c)).alloc (logO a.d c 0 false)
    have hP0 := h.keep0 (((Keeps.refl [] w).alloc (cfgO c)).alloc (logO a.d c 0 false))
    rw [show (w.alloc (cfgO c)).heap.size = w.heap.size + 1 by simp] at hL0
    exact ⟨0, by omega, ⟨hP0, hL0⟩, hB0, K0, fun j hj => by omega⟩
  case round =>
    obtain ⟨i, hi, hL, hB, hK, hg⟩ := hrel
    have hii : (i : Int) ≤ 200 := by omega
    have hHG := hid hg
    clear hg
    by_cases hlt : i < c.log
    · have t0 : decide (i < c.log) = true := by rw [decide_eq_true_eq]; exact hlt
      have t1 : decide ((i : Int) < (c.log : Int)) = true := by rw [decide_eq_true_eq]; omega
      have k0 : Keeps [] wr wr.drew := (Keeps.refl _ _).drew
      have HS : Hid (∀ w', Keeps [] wr w' → (w'.cell? ⟨w.heap.size + 1, 4, none⟩ = some (.int .i64 i) ∧ w'.cell? ⟨w.heap.size, 0, none⟩ = some (.int .i64 c.log) ∧ Keeps [] wr w')) := fun w' hk => ⟨(hk.at hL.log (by simp)).cell 4 rfl, (hk.at hB (by simp)).cell 0 rfl, hk⟩
      have HG := hid (fun (w' : World) (hk : Keeps [] wr w') => stamped_at (hL.keep0 hk) x hx H8.out i (by omega) (by have := HA.out; omega))
      cases hgb : goodB S.now (epN x) i
      · rw [hgb] at HG
        have HGB := hid hgb
        clear hgb
        go_upto_region 2 with fail
        go_region_held3 (fun w' => w'.cell? ⟨w.heap.size + 1, 4, none⟩ = some (.int .i64 i) ∧ w'.cell? ⟨w.heap.size, 0, none⟩ = some (.int .i64 c.log) ∧ Keeps [] wr w')
          (first | exact HS.out _ k0 | exact HS.out _ k1)
          (first | (go_at_call 82; refine (HG.out _ (by assumption)).mono ?_; rintro e w1 ⟨rfl, hk1⟩; have k1 := k0.trans hk1))
        go_wp2_with fail
        go_ret
        exact ⟨w.heap.size + 1, i, rfl, by omega, hL.keep0 k1, (hK.trans (k1.mono (by simp))).mono (by intro k hk hm; simp at hm; omega), by omega, hHG.out, fun _ => HGB.out⟩
      · rw [hgb] at HG
        have HGB := hid hgb
        clear hgb
        go_upto_region 2 with fail
        go_region_held3 (fun w' => w'.cell? ⟨w.heap.size + 1, 4, none⟩ = some (.int .i64 i) ∧ w'.cell? ⟨w.heap.size, 0, none⟩ = some (.int .i64 c.log) ∧ Keeps [] wr w')
          (first | exact HS.out _ k0 | exact HS.out _ k1)
          (first | (go_at_call 82; refine (HG.out _ (by assumption)).mono ?_; rintro e w1 ⟨rfl, hk1⟩; have k1 := k0.trans hk1))
        have hL1 := hL.keep0 k1
        have hB1 := k1.at hB (by simp)
        have c4 := hL1.log.cell 4 rfl
        have f4 := hL1.log.free 4
        go_wp2_with fail
        go_roundg (c.log - (i + 1))
        case measure => omega
        case rel =>
          have h2 := hL1.set 4 (.int .i64 ((i : Int) + 1)) (cnt' := i + 1) (st' := false) (fun _ => by simp)
          refine ⟨i + 1, by omega, h2, hB1.set_ne (by simp) _, (hK.trans (k1.mono (by simp))).set (.inl (by simp)) _, fun j hj => ?_⟩
          by_cases hji : j = i
          · subst hji; exact HGB.out
          · exact hHG.out j (by omega)
    · have hil : i = c.log := by omega
      have t0 : decide (i < c.log) = false := by rw [decide_eq_false_iff_not]; omega
      have t1 : decide ((i : Int) < (c.log : Int)) = false := by rw [decide_eq_false_iff_not]; omega
      have c4 := hL.log.cell 4 rfl
      have c5 := hB.cell 0 rfl
      have HIL := hid hil
      clear hil
      go_upto_region 2 with fail
      go_region
      go_wp2_with fail
      go_ret
      have k1 : Keeps [] wr wr.drew := (Keeps.refl _ _).drew
      exact ⟨w.heap.size + 1, i, rfl, by omega, hL.keep0 k1, (hK.trans (k1.mono (by simp))).mono (by intro k hk hm; simp at hm; omega), by have := HIL.out; omega, hHG.out, fun hl => absurd hl hlt⟩

set_option maxHeartbeats 1000000 in
/-- Truncate, there being none. -/
theorem trunc_zero (h : LW w p a l u S lb c 0 st) :
    Calls Tryz.prog 94 #[ptr lb] w (RanL p a l u S lb c 0 st [] (.tuple #[]) w) := by
  have c4 := h.log.cell 4 rfl
  go_enter Tryz.func94, Tryz.ntmps94
  go_wp2_with fail
  go_end0
  exact ranL_end h (by simp) rfl (Keeps.refl _ _)

/-- What Truncate does. -/
def truL (c : Cfg) (st : Bool) (e : Nat) : List Cmd := sL c st ++ (.st 8 (epN (e + 1) : Nat) :: kpL 8)

set_option maxRecDepth 100000 in
set_option maxHeartbeats 2000000 in
theorem trunc_ran (h : LW w p a l u S lb c cnt st) (hs : c.Small) (x : Nat) (hx : x < 18446744073709551616) (h8 : S.now 8 = x) (hc : 0 < cnt) (hn : c.act ≤ a.n) (hn8 : 8 < a.n) (hb : u < 4611686018427360000) :
    Calls Tryz.prog 94 #[ptr lb] w (RanL p a l u S lb c 0 true (truL c st (epN x)) (.tuple #[]) w) := by
  have h0 := h.pw.lo
  have c4 := h.log.cell 4 rfl
  have hsl := sL_len hs st
  have hne : ((cnt : Int) == 0) = false := by rw [beq_eq_false_iff_ne]; omega
  have H8 := hid h8
  have he := epN_lt x
  have heb : (epN x : Int) < 4294967296 := by omega
  clear h8
  go_enter Tryz.func94, Tryz.ntmps94
  go_wp2_with fail
  refine (settle_ran h hs hn (by omega)).mono ?_
  rintro e w2 (⟨rfl, h2, k2⟩ | ⟨rfl, ⟨S', d2, h2⟩, k2⟩)
  rotate_left
  · exact ⟨rfl, ranL_cut h2 (d2.left _) k2⟩
  have e2 : (execs S (sL c st)).now 8 = x := by rw [sL_now]; exact H8.out
  clear c4
  go_wp2_with fail
  refine (epoch6_at h2 x hx e2 hn8).mono ?_
  rintro e w3 ⟨rfl, rfl⟩
  go_wp2_with fail
  refine (epoch_at _ (epN x + 1) (by omega)).mono ?_
  rintro e w3 ⟨rfl, rfl⟩
  go_wp2_with fail
  refine (store6_ran h2 8 (epN (epN x + 1) : Nat) hn8 (by omega)).mono ?_
  rintro e w3 (⟨rfl, h3, k3⟩ | ⟨rfl, ⟨S', d3, h3⟩, k3⟩)
  rotate_left
  · exact ⟨rfl, ranL_cut h3 (Cut.right (A := sL c st) (d3.left (kpL 8)) rfl rfl) (k2.trans k3)⟩
  have c4 := h3.log.cell 4 rfl
  have f4 := h3.log.free 4
  have h4 := h3.set 4 (.int .i64 0) (cnt' := 0) (st' := false) (fun _ => by simp)
  have K4 := (k2.trans k3).set (p := ⟨lb, 4, none⟩) (.inl (by simp)) (.int .i64 0)
  clear h3 k3 k2
  go_wp2_with fail
  refine (keep6_ran h4 8 hn8 (by simp; omega)).mono ?_
  rintro e w5 (⟨rfl, h5, k5⟩ | ⟨rfl, ⟨S', d5, h5⟩, k5⟩)
  rotate_left
  · exact ⟨rfl, ranL_cut h5 (Cut.right (A := sL c st) (Cut.right (A := [.st 8 (epN (epN x + 1) : Nat)]) d5 rfl rfl) rfl rfl) (K4.trans k5)⟩
  go_wp2_with fail
  go_end0
  refine ranL_end h5 ?_ ?_ (K4.trans k5)
  · unfold truL; simp [kpL]; omega
  · unfold truL; rw [execs_append]; rfl

end

/-- Is record i of a word behind the log? -/
def okP (f : Nat → Int) (c : Cfg) (n i : Nat) : Prop := (c.act : Int) ≤ asInt (f (17 + 4 * i)) ∧ asInt (f (17 + 4 * i)) < (n : Int)

/-- What Good answers. -/
def GoodAns (f : Nat → Int) (c : Cfg) (n cnt : Nat) (r : Int) : Prop := (r = -1 ∧ ∀ i, i < cnt → okP f c n i) ∨ (∃ i : Nat, i < cnt ∧ r = i ∧ ¬ okP f c n i ∧ ∀ j, j < i → okP f c n j)

section
variable {w : World} {p : Nat} {a : DA} {l u : Int} {S : DS} {lb : Nat} {c : Cfg} {cnt : Nat} {st : Bool}

/-- The box in which Records' function finds its log. -/
abbrev boxO (lb : Nat) : Obj := .cells #[ptr lb] 115

set_option maxHeartbeats 400000 in
theorem records_at (w : World) (lb : Nat) :
    Calls Tryz.prog 73 #[ptr lb] w fun e w' => e = .returned (.func (.func 86) #[] #[ptr w.heap.size]) ∧ w.alloc (boxO lb) = w' := by
  go_enter Tryz.func73, Tryz.ntmps73
  go_wp2
  go_ret
  exact ⟨rfl, rfl⟩

end

end Go.Proofs.YtcdlikblebdfkaaGreat
