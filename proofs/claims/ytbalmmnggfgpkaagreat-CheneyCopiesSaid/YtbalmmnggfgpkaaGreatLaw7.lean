/- The section's object, and its calls as steps. | The section's calls as steps: keep, records, Begin, Store, Commit, Abort. | The section's calls as steps: records, Store. | The section's calls as steps: Begin, Store, Commit, Abort. | The section's calls as steps: Begin, Commit, Abort, New. | The section's New. | What the laws of layer 7 have in common: words from Active on, a section that is started, its definition's object. -/
import Derived.Test.YtbalmmnggfgpkaaGreatKeysM
import Derived.Test.YtbalmmnggfgpkaaGreatLaw6
namespace Go.Proofs.YtbalmmnggfgpkaaGreat
open Go.RowKit Go.OpenShut

/-- A section's blocks: its own, its log's, what is recorded, what isn't kept. -/
structure Sc where
  b : Nat
  lb : Nat
  rb : Nat
  ub : Nat

abbrev spV (f t : Int) : Value := .agg #[.int .i64 f, .int .i64 t]
abbrev spO (f t : Int) : Obj := .cells #[.int .i64 f, .int .i64 t] 162
abbrev secO (d : Nat) (s : Sc) (c : Cfg) (op : Bool) (f t : Int) : Obj := .cells #[ptr s.lb, ptr d, .int .i64 c.log, .int .i64 c.roots, .int .i64 c.space, .bool op, .int .i64 f, .int .i64 t, .map (some s.rb), .map (some s.ub)] 165

/-- A device, its power, a log, a section over them. -/
structure SW (w : World) (p : Nat) (a : DA) (l u : Int) (S : DS) (s : Sc) (c : Cfg) (cnt : Nat) (st : Bool) (op : Bool) (f t : Int) (R U : Int → Option Value) : Prop where
  lw : LW w p a l u S s.lb c cnt st
  sec : At w s.b (secO a.d s c op f t)
  rm : IMap w s.rb R
  um : IMap w s.ub U
  ru : s.rb ≠ s.ub
  ra : s.rb ≠ a.m
  ua : s.ub ≠ a.m

theorem imap_ne {w : World} {b b' : Nat} {x : Array Value} {T : TypeId} {fz : Nat × Nat} {D : Int → Option Value} (h : At w b (.cells x T fz)) (h' : IMap w b' D) : b ≠ b' := by
  rintro rfl
  obtain ⟨es, ck, hm, _⟩ := h'
  have := h.inj hm
  cases this

/-- The blocks that a section's calls may turn. -/
def Sc.bl (s : Sc) (p : Nat) (a : DA) : List Nat := [p, a.s, a.k, a.m, s.lb, s.b, s.rb, s.ub]

section
variable {w w' : World} {p : Nat} {a : DA} {l u : Int} {S S' : DS} {s : Sc} {c : Cfg} {cnt : Nat} {st : Bool} {op : Bool} {f t : Int} {R U : Int → Option Value}

theorem SW.ne (h : SW w p a l u S s c cnt st op f t R U) : s.b ∉ [p, a.s, a.k, a.m, s.lb, s.rb, s.ub] ∧ s.rb ∉ [p, a.s, a.k, a.m, s.lb, s.b, s.ub] ∧ s.ub ∉ [p, a.s, a.k, a.m, s.lb, s.b, s.rb] ∧ s.b ≠ a.d ∧ s.rb ≠ a.d ∧ s.ub ≠ a.d := by
  have d := h.lw.pw.dev
  have n1 : s.b ≠ p := cells_ne h.sec h.lw.pw.pow (by decide)
  have n2 : s.b ≠ a.s := cells_ne h.sec d.now (by decide)
  have n3 : s.b ≠ a.k := cells_ne h.sec d.kept (by decide)
  have n4 : s.b ≠ a.m := imap_ne h.sec d.map
  have n5 : s.b ≠ s.lb := cells_ne h.sec h.lw.log (by decide)
  have n6 : s.b ≠ a.d := cells_ne h.sec d.dev (by decide)
  have n7 : s.b ≠ s.rb := imap_ne h.sec h.rm
  have n8 : s.b ≠ s.ub := imap_ne h.sec h.um
  have r1 : p ≠ s.rb := imap_ne h.lw.pw.pow h.rm
  have r2 : a.s ≠ s.rb := imap_ne d.now h.rm
  have r3 : a.k ≠ s.rb := imap_ne d.kept h.rm
  have r5 : s.lb ≠ s.rb := imap_ne h.lw.log h.rm
  have r6 : a.d ≠ s.rb := imap_ne d.dev h.rm
  have u1 : p ≠ s.ub := imap_ne h.lw.pw.pow h.um
  have u2 : a.s ≠ s.ub := imap_ne d.now h.um
  have u3 : a.k ≠ s.ub := imap_ne d.kept h.um
  have u5 : s.lb ≠ s.ub := imap_ne h.lw.log h.um
  have u6 : a.d ≠ s.ub := imap_ne d.dev h.um
  have x1 := h.ru
  have x2 := h.ra
  have x3 := h.ua
  simp only [List.mem_cons, List.not_mem_nil, or_false, not_or]
  exact ⟨⟨n1, n2, n3, n4, n5, n7, n8⟩, ⟨r1.symm, r2.symm, r3.symm, x2, r5.symm, n7.symm, x1⟩, ⟨u1.symm, u2.symm, u3.symm, x3, u5.symm, n8.symm, x1.symm⟩, n6, r6.symm, u6.symm⟩

theorem SW.keep0 (h : SW w p a l u S s c cnt st op f t R U) (hk : Keeps [] w w') : SW w' p a l u S s c cnt st op f t R U :=
  ⟨h.lw.keep0 hk, hk.at h.sec (by simp), h.rm.keep hk (by simp), h.um.keep hk (by simp), h.ru, h.ra, h.ua⟩

theorem SW.keep {T : List Nat} (h : SW w p a l u S s c cnt st op f t R U) (hk : Keeps T w w') (hT : ∀ b ∈ s.bl p a, b ∉ T) (hd : a.d ∉ T) : SW w' p a l u S s c cnt st op f t R U := by
  unfold Sc.bl at hT
  exact ⟨h.lw.keep hk (hT _ (by simp)) hd (hT _ (by simp)) (hT _ (by simp)) (hT _ (by simp)) (hT _ (by simp)), hk.at h.sec (hT _ (by simp)), h.rm.keep hk (hT _ (by simp)), h.um.keep hk (hT _ (by simp)), h.ru, h.ra, h.ua⟩

/-- Behind steps of the log. -/
theorem SW.log {cnt' : Nat} {st' : Bool} {u' : Int} (h : SW w p a l u S s c cnt st op f t R U) (h' : LW w' p a l u' S' s.lb c cnt' st') (hk : Keeps [p, a.s, a.k, a.m, s.lb] w w') : SW w' p a l u' S' s c cnt' st' op f t R U := by
  obtain ⟨n1, n2, n3, _⟩ := h.ne
  exact ⟨h', hk.at h.sec fun hm => n1 (by simp only [List.mem_cons, List.not_mem_nil, or_false] at hm ⊢; rcases hm with e | e | e | e | e <;> simp [e]), h.rm.keep hk fun hm => n2 (by simp only [List.mem_cons, List.not_mem_nil, or_false] at hm ⊢; rcases hm with e | e | e | e | e <;> simp [e]), h.um.keep hk fun hm => n3 (by simp only [List.mem_cons, List.not_mem_nil, or_false] at hm ⊢; rcases hm with e | e | e | e | e <;> simp [e]), h.ru, h.ra, h.ua⟩

/-- Behind steps of the device. -/
theorem SW.next {u' : Int} (h : SW w p a l u S s c cnt st op f t R U) (h' : Pw w' p a l u' S') (hk : Keeps [p, a.s, a.k, a.m] w w') : SW w' p a l u' S' s c cnt st op f t R U := h.log (h.lw.next h' hk) hk.lg

/-- A write into the section's own block. -/
theorem SW.set (h : SW w p a l u S s c cnt st op f t R U) (i : Nat) (v : Value) {op' : Bool} {f' t' : Int}
    (e : (#[ptr s.lb, ptr a.d, .int .i64 c.log, .int .i64 c.roots, .int .i64 c.space, .bool op, .int .i64 f, .int .i64 t, .map (some s.rb), .map (some s.ub)] : Array Value).setIfInBounds i v = #[ptr s.lb, ptr a.d, .int .i64 c.log, .int .i64 c.roots, .int .i64 c.space, .bool op', .int .i64 f', .int .i64 t', .map (some s.rb), .map (some s.ub)]) :
    SW (w.setCell ⟨s.b, i, none⟩ v) p a l u S s c cnt st op' f' t' R U := by
  obtain ⟨n1, _, _, n4, _⟩ := h.ne
  simp only [List.mem_cons, List.not_mem_nil, or_false, not_or] at n1
  have kk : Keeps [s.b] w (w.setCell ⟨s.b, i, none⟩ v) := (Keeps.refl _ _).set (.inl (by simp)) _
  have := h.sec.set i v
  rw [e] at this
  exact ⟨h.lw.keep kk (by simp; omega) (by simp; omega) (by simp; omega) (by simp; omega) (by simp; omega) (by simp; omega), this, h.rm.keep kk (by simp; omega), h.um.keep kk (by simp; omega), h.ru, h.ra, h.ua⟩

/-- A write into what is recorded. -/
theorem SW.setR {R' : Int → Option Value} (h : SW w p a l u S s c cnt st op f t R U) (hm : IMap w' s.rb R') (hk : Keeps [s.rb] w w') : SW w' p a l u S s c cnt st op f t R' U := by
  obtain ⟨_, n2, _, _, n5, _⟩ := h.ne
  simp only [List.mem_cons, List.not_mem_nil, or_false, not_or] at n2
  have x := h.ru
  exact ⟨h.lw.keep hk (by simp; omega) (by simp; omega) (by simp; omega) (by simp; omega) (by simp; omega) (by simp; omega), hk.at h.sec (by simp; omega), hm, h.um.keep hk (by simp; omega), h.ru, h.ra, h.ua⟩

/-- A write into what isn't kept. -/
theorem SW.setU {U' : Int → Option Value} (h : SW w p a l u S s c cnt st op f t R U) (hm : IMap w' s.ub U') (hk : Keeps [s.ub] w w') : SW w' p a l u S s c cnt st op f t R U' := by
  obtain ⟨_, _, n3, _, _, n6⟩ := h.ne
  simp only [List.mem_cons, List.not_mem_nil, or_false, not_or] at n3
  have x := h.ru
  exact ⟨h.lw.keep hk (by simp; omega) (by simp; omega) (by simp; omega) (by simp; omega) (by simp; omega) (by simp; omega), hk.at h.sec (by simp; omega), h.rm.keep hk (by simp; omega), hm, h.ru, h.ra, h.ua⟩

end

/-- How a call of a section's ends: done, the section as told; or cut. -/
def RanS (p : Nat) (a : DA) (l u : Int) (S : DS) (s : Sc) (c : Cfg) (cnt : Nat) (st : Bool) (op : Bool) (f t : Int) (R U : Int → Option Value) (cs : List Cmd) (v : Value) (w : World) (e : Ending) (w' : World) : Prop :=
  (e = .returned v ∧ SW w' p a l (u + (cs.length : Int)) (execs S cs) s c cnt st op f t R U ∧ Keeps (s.bl p a) w w') ∨
  (e = .panicked [{ v := goneV, recovered := false }] ∧ (∃ S', Cut l u S cs S' ∧ Pw w' p a l l S') ∧ Keeps (s.bl p a) w w')

theorem Keeps.lgs {p : Nat} {a : DA} {s : Sc} {w w' : World} (h : Keeps [p, a.s, a.k, a.m, s.lb] w w') : Keeps (s.bl p a) w w' := h.mono (by unfold Sc.bl; intro k _ hk; simp at hk ⊢; omega)
theorem Keeps.dvs {p : Nat} {a : DA} {s : Sc} {w w' : World} (h : Keeps [p, a.s, a.k, a.m] w w') : Keeps (s.bl p a) w w' := h.lg.lgs
theorem Keeps.nos {p : Nat} {a : DA} {s : Sc} {w w' : World} (h : Keeps [] w w') : Keeps (s.bl p a) w w' := h.mono (by simp)
theorem Keeps.ups {p : Nat} {a : DA} {s : Sc} {w w' : World} (h : Keeps [s.ub] w w') : Keeps (s.bl p a) w w' := h.mono (by unfold Sc.bl; intro k _ hk; simp at hk ⊢; omega)
theorem Keeps.rps {p : Nat} {a : DA} {s : Sc} {w w' : World} (h : Keeps [s.rb] w w') : Keeps (s.bl p a) w w' := h.mono (by unfold Sc.bl; intro k _ hk; simp at hk ⊢; omega)

section
variable {w w' : World} {p : Nat} {a : DA} {l u u' : Int} {S S' : DS} {s : Sc} {c : Cfg} {cnt : Nat} {st : Bool} {op : Bool} {f t : Int} {R U : Int → Option Value} {cs : List Cmd} {v : Value} {e : Ending}

theorem ranS_end (h : SW w' p a l u' S' s c cnt st op f t R U) (hu : u' = u + (cs.length : Int)) (hS : S' = execs S cs) (hk : Keeps (s.bl p a) w w') : RanS p a l u S s c cnt st op f t R U cs v w (.returned v) w' := by
  subst hu hS
  exact .inl ⟨rfl, h, hk⟩

theorem ranS_cut (h : Pw w' p a l l S') (hc : Cut l u S cs S') (hk : Keeps (s.bl p a) w w') : RanS p a l u S s c cnt st op f t R U cs v w (.panicked [{ v := goneV, recovered := false }]) w' :=
  .inr ⟨rfl, ⟨S', hc, h⟩, hk⟩

theorem RanS.free (h : RanS p a (-1) u S s c cnt st op f t R U cs v w e w') (hu : 0 ≤ u) : e = .returned v ∧ SW w' p a (-1) (u + (cs.length : Int)) (execs S cs) s c cnt st op f t R U ∧ Keeps (s.bl p a) w w' := by
  rcases h with h | ⟨_, ⟨_, ⟨_, _, _, _, _, hl⟩, _⟩, _⟩
  · exact h
  · omega

end

/-- An empty struct. -/
abbrev unitV : Value := .agg #[]
/-- A word's line is marked. -/
def mkU (U : Int → Option Value) (i : Nat) : Int → Option Value := fun z => if z = ((i / 8 : Nat) : Int) then some unitV else U z
theorem mkU_eq (U : Int → Option Value) (i : Nat) : mkU U i = fun z => if z = ((i / 8 : Nat) : Int) then some unitV else U z := rfl

section
variable {w w' : World} {p : Nat} {a : DA} {l u u' : Int} {S S' : DS} {s : Sc} {c : Cfg} {cnt : Nat} {st : Bool} {op : Bool} {f t : Int} {R U : Int → Option Value} {cs : List Cmd} {v : Value} {e : Ending}

set_option maxHeartbeats 1000000 in
theorem mark_at (h : SW w p a l u S s c cnt st op f t R U) (i : Nat) (hi : i ≤ 100000) :
    Calls Tryz.prog 113 #[ptr s.b, .int .i64 i] w fun e w' => e = .returned (.tuple #[]) ∧ SW w' p a l u S s c cnt st op f t R (mkU U i) ∧ Keeps [s.ub] w w' := by
  have c9 := h.sec.cell 9 rfl
  have hib : (i : Int) ≤ 100000 := by omega
  rw [mkU_eq]
  obtain ⟨k, hk⟩ : ∃ k, k = i / 8 := ⟨_, rfl⟩
  have e8 : (i : Int) / 8 = (k : Int) := by omega
  rw [← hk]
  clear hk
  go_enter Tryz.func113, Tryz.ntmps113
  go_wp2_with (at_mapUpdate; refine wpList_update_at rfl _ _ _ _ rfl 3 131 Tryz.underlying130 Tryz.underlying3 s.ub _ rfl h.um (k : Int) _ rfl rfl ?_; intro w1 hm1 hk1)
  go_end0
  exact ⟨rfl, h.setU hm1 hk1, hk1⟩

set_option maxHeartbeats 400000 in
theorem sopen_at (h : SW w p a l u S s c cnt st op f t R U) :
    Calls Tryz.prog 106 #[ptr s.b] w fun e w' => e = .returned (.bool op) ∧ w = w' := by
  have c5 := h.sec.cell 5 rfl
  go_enter Tryz.func106, Tryz.ntmps106
  go_wp2
  go_ret
  exact ⟨rfl, rfl⟩

/-- Is a word fresh? -/
def freshB (f t i : Int) : Bool := decide (f ≤ i) && decide (i < t)

set_option maxHeartbeats 1000000 in
theorem shas_at (w : World) (f t i : Int) :
    Calls Tryz.prog 129 #[spV f t, .int .i64 i] w fun e w' => e = .returned (.bool (freshB f t i)) ∧ w.alloc (spO f t) = w' := by
  unfold freshB
  by_cases h1 : f ≤ i
  · have t1 : decide (f ≤ i) = true := by rw [decide_eq_true_eq]; exact h1
    rw [t1]
    have hH := hid h1
    clear h1
    go_enter Tryz.func129, Tryz.ntmps129
    go_wp2
    go_ret
    simp
  · have t1 : decide (f ≤ i) = false := by rw [decide_eq_false_iff_not]; exact h1
    rw [t1]
    have hH := hid h1
    clear h1
    go_enter Tryz.func129, Tryz.ntmps129
    go_wp2
    go_ret
    simp

end

end Go.Proofs.YtbalmmnggfgpkaaGreat

namespace Go.Proofs.YtbalmmnggfgpkaaGreat
open Go.RowKit Go.OpenShut

/-- What keep does: the epoch's line, each that is marked, a fence. -/
def flK (ss : List Int) (j : Nat) : Cmd := .fl (8 * (ss.getD j 0).toNat)
def kpC (ss : List Int) : List Cmd := [.fl 8] ++ (rowL (flK ss) ss.length ++ [.fe])

theorem kpC_len (ss : List Int) : (kpC ss).length = ss.length + 2 := by simp [kpC, rowL_len]

/-- The lines that are marked are lines of the device. -/
def UIn (U : Int → Option Value) (n : Nat) : Prop := ∀ k v, U k = some v → 0 ≤ k ∧ 8 * k < (n : Int)

theorem UIn.none (n : Nat) : UIn (fun _ => none) n := fun _ _ h => by cases h
theorem UIn.mark {U : Int → Option Value} {n : Nat} (h : UIn U n) {i : Nat} (hi : i < n) : UIn (mkU U i) n := fun k v hk => by
  unfold mkU at hk
  split at hk
  · omega
  · exact h k v hk

theorem UIn.few {U : Int → Option Value} {n : Nat} (h : UIn U n) (hn : n ≤ 15000) {ss : List Int} (hK : KeysOf U ss) : ss.length ≤ 1875 :=
  hK.len 1875 fun k v hk => by have := h k v hk; omega

section
variable {w w' : World} {p : Nat} {a : DA} {l u u' : Int} {S S' : DS} {s : Sc} {c : Cfg} {cnt : Nat} {st : Bool} {op : Bool} {f t : Int} {R U : Int → Option Value} {cs : List Cmd} {v : Value} {e : Ending}

set_option maxRecDepth 100000 in
set_option maxHeartbeats 2000000 in
theorem skeep_ran (h : SW w p a l u S s c cnt st op f t R U) (hU : UIn U a.n) (hn8 : 8 < a.n) (hn : a.n ≤ 15000) (hb : u < 4611686018427360000) :
    Calls Tryz.prog 114 #[ptr s.b] w fun e w' => ∃ ss, KeysOf U ss ∧ RanS p a l u S s c cnt st op f t R (fun _ => none) (kpC ss) (.tuple #[]) w e w' := by
  have h0 := h.lw.pw.lo
  have c1 := h.sec.cell 1 rfl
  have HS := hid (flush_ran _ p a l u S 8 h.lw.pw hn8 (by omega))
  have HU := hid hU
  have hK0 : ∃ ss, KeysOf U ss := by
    obtain ⟨D0, _, _, hP⟩ := h.um.owns (P := Tryz.prog) (fun k v hk => by have := hU k v hk; omega) 3 Tryz.underlying3
    exact ⟨_, hP _ (List.Perm.refl _)⟩
  clear hU
  go_enter Tryz.func114, Tryz.ntmps114
  go_wp2_with fail
  refine HS.out.mono ?_
  rintro e w2 (⟨rfl, h2, k2⟩ | ⟨rfl, ⟨S', d2, h2⟩, k2⟩)
  rotate_left
  · obtain ⟨ss, hss⟩ := hK0
    exact ⟨rfl, ss, hss, ranS_cut h2 (d2.left _) k2.dvs⟩
  clear hK0 HS c1
  have l2 := h.next h2 k2
  have K2 : Keeps (s.bl p a) w w2 := k2.dvs
  obtain ⟨S2, hS2⟩ : ∃ S2, S2 = execs S [.fl 8] := ⟨_, rfl⟩
  obtain ⟨u2, hu2⟩ : ∃ u2, u2 = u + (([.fl 8] : List Cmd).length : Int) := ⟨_, rfl⟩
  rw [← hS2, ← hu2] at l2
  have HS2 := hid hS2
  have HU2 := hid hu2
  have hub : u2 < 4611686018427361000 := by simp at hu2; omega
  clear hS2 hu2 h2 k2
  have c9 := l2.sec.cell 9 rfl
  go_wp2_with fail
  refine (mkeys_at w2 s.ub).mono ?_
  rintro e w3 ⟨rfl, rfl⟩
  have l3 := l2.keep0 ((Keeps.refl [] w2).alloc (mboxO s.ub))
  have hX3 := At.new w2 (mboxO s.ub)
  have K3 : Keeps (s.bl p a) w (w2.alloc (mboxO s.ub)) := K2.alloc _
  clear c9
  go_wp2_with fail
  refine (sorted_at _ s.ub w2.heap.size U l3.um hX3 (fun k v hk => by have := HU.out k v hk; omega)).mono ?_
  rintro e w4 ⟨y, ss, cap, rfl, hK, hR, hY, hk4⟩
  have l4 := l3.keep0 hk4
  have K4 : Keeps (s.bl p a) w w4 := K3.trans hk4.nos
  have hfew := HU.out.few hn hK
  have HK := hid hK
  have HR := hid hR
  obtain ⟨n, hnn⟩ : ∃ n, n = ss.length := ⟨_, rfl⟩
  have hlt4 : ∀ b ∈ s.bl p a, b < w2.heap.size := by
    unfold Sc.bl
    intro b hb
    simp only [List.mem_cons, List.not_mem_nil, or_false] at hb
    rcases hb with rfl | rfl | rfl | rfl | rfl | rfl | rfl | rfl
    · exact l2.lw.pw.pow.lt
    · exact l2.lw.pw.dev.now.lt
    · exact l2.lw.pw.dev.kept.lt
    · exact l2.lw.pw.dev.map.lt
    · exact l2.lw.log.lt
    · exact l2.sec.lt
    · exact l2.rm.lt
    · exact l2.um.lt
  have HNB : ∀ b, w2.heap.size ≤ b → b ∉ [p, a.s, a.k, a.m] := fun b hb hm => by
    have := hlt4 b (by unfold Sc.bl; simp only [List.mem_cons, List.not_mem_nil, or_false] at hm ⊢; rcases hm with e | e | e | e <;> simp [e])
    omega
  rw [← hnn] at HR hfew ⊢
  have HNN := hid hnn
  have HBY : ∀ b off, y = some ⟨b, off, none⟩ → w2.heap.size ≤ b := fun b off e => by have := hY b off e; simp at this; omega
  have hni : (n : Int) ≤ 1875 := by omega
  clear hK hR hnn K2 K3 l2 l3 hX3 h hY hlt4
  go_wp2_with fail
  go_loopg [16] n (fun r sl wr => ∃ i : Nat, i + r = n ∧ sl = .int .i64 i ∧ SW wr p a l (u2 + (i : Int)) (execs S2 (rowL (flK ss) i)) s c cnt st op f t R U ∧ Keeps [p, a.s, a.k, a.m] w4 wr)
  case atStart => exact ⟨0, by omega, rfl, by simpa [rowL_zero, execs_nil] using l4, Keeps.refl _ _⟩
  case round =>
    obtain ⟨i, hi, rfl, hL, hk⟩ := hrel
    have hii : (i : Int) ≤ 1875 := by omega
    by_cases hlt : i < n
    · obtain ⟨b, off, rfl, hbl, hcl⟩ : ∃ b off, y = some ⟨b, off, none⟩ ∧ b < w4.heap.size ∧ ∀ i, i < n → w4.cell? ⟨b, off + i, none⟩ = some (.int .i64 (ss.getD i 0)) := by
        rcases HR.out with h | h
        · omega
        · exact h
      have hcli := hcl i hlt
      clear hcl
      obtain ⟨z, hz⟩ : ∃ z, z = ss.getD i 0 := ⟨_, rfl⟩
      have hzU : 0 ≤ z ∧ 8 * z < (a.n : Int) := by
        have hm : z ∈ ss := by
          rw [hz, List.getD_eq_getElem?_getD, List.getElem?_eq_getElem (by have := HNN.out; omega)]
          exact List.getElem_mem _
        obtain ⟨v, hv⟩ := Option.isSome_iff_exists.1 ((HK.out.2 z).1 hm)
        exact HU.out z v hv
      obtain ⟨k, rfl⟩ : ∃ k : Nat, (k : Int) = z := ⟨z.toNat, by omega⟩
      obtain ⟨q, hq⟩ : ∃ q, q = 8 * k := ⟨_, rfl⟩
      have e9 : IntKind.i64.wrap ((k : Int) * 8) = (q : Int) := by rw [IntWalk.i64_in _ (by omega)]; omega
      have hqn : q < a.n := by omega
      have hnb : b ∉ [p, a.s, a.k, a.m] := HNB b (HBY b off rfl)
      have d0 := (hk.cell (p := ⟨b, off + i, none⟩) hbl hnb).trans hcli
      rw [← hz] at d0
      have c1 := hL.sec.cell 1 rfl
      have HFL : Hid (flK ss i = .fl q) := by show Cmd.fl _ = _; rw [← hz, hq]; rfl
      have HQ := hid hq
      have b1 : (i : Int) < (n : Int) := by omega
      have b2 : (0 : Int) ≤ (i : Int) := by omega
      clear hz hq hzU hcli
      go_wp2_with fail
      refine (flush_ran wr p a l _ _ q hL.lw.pw hqn (by omega)).mono ?_
      rintro e w5 (⟨rfl, h5, k5⟩ | ⟨rfl, ⟨S', d5, h5⟩, k5⟩)
      rotate_left
      · rw [← HFL.out] at d5
        exact ⟨rfl, ss, HK.out, ranS_cut h5 (Cut.right (A := [.fl 8]) ((d5.row (by have := HNN.out; omega)).left [.fe]) HU2.out HS2.out) ((K4.trans hk.dvs).trans k5.dvs)⟩
      rw [← HFL.out] at h5
      go_wp2_with fail
      go_roundg (n - (i + 1))
      case measure => omega
      case rel => exact ⟨i + 1, by omega, by go_num, hL.next h5.row k5, hk.trans k5⟩
    · have hin : i = n := by omega
      subst hin
      have c1 := hL.sec.cell 1 rfl
      go_wp2_with fail
      refine (fence_ran wr p a l _ _ hL.lw.pw (by omega)).mono ?_
      rintro e w5 (⟨rfl, h5, k5⟩ | ⟨rfl, ⟨S', d5, h5⟩, k5⟩)
      rotate_left
      · exact ⟨rfl, ss, HK.out, ranS_cut h5 (Cut.right (A := [.fl 8]) (Cut.right (A := rowL (flK ss) ss.length) d5 (by rw [rowL_len, ← HNN.out]) (by rw [← HNN.out])) HU2.out HS2.out) ((K4.trans hk.dvs).trans k5.dvs)⟩
      have l5 := hL.next h5 k5
      have K5 := (K4.trans hk.dvs).trans k5.dvs
      have c9 := l5.sec.cell 9 rfl
      clear c1
      go_wp2_with (refine wpList_clear_at rfl _ _ rfl 3 131 Tryz.underlying130 s.ub _ rfl l5.um ?_; intro w6 hm6 hk6)
      go_end0
      refine ⟨ss, HK.out, ranS_end (l5.setU hm6 hk6) ?_ ?_ (K5.trans hk6.ups)⟩
      · rw [HU2.out, kpC_len, HNN.out]; simp; omega
      · unfold kpC; rw [execs_append, execs_append, ← HS2.out, ← HNN.out]

/-- What is recorded: this epoch, of each word that has a record; no more. -/
def RecI (R : Int → Option Value) (m : Nat) (pl : Nat → Nat) (e : Nat) : Prop :=
  (∀ i, i < m → R (pl i : Nat) = some (.int .u64 e)) ∧ ∀ z, (∀ i, i < m → ((pl i : Nat) : Int) ≠ z) → R z = none

theorem RecI.none (pl : Nat → Nat) (e : Nat) : RecI (fun _ => none) 0 pl e := ⟨fun _ h => absurd h (Nat.not_lt_zero _), fun _ _ => rfl⟩

theorem RecI.grow {R : Int → Option Value} {m : Nat} {pl : Nat → Nat} {e : Nat} (h : RecI R m pl e) (i : Nat) : RecI (fun z => if z = (i : Int) then some (.int .u64 e) else R z) (m + 1) (put pl m i) e := by
  refine ⟨fun k hk => ?_, fun z hz => ?_⟩
  · by_cases hkm : k = m
    · subst hkm; rw [put_on]; exact if_pos rfl
    · rw [put_off _ _ hkm]
      show (if ((pl k : Nat) : Int) = (i : Int) then _ else _) = _
      split
      · rfl
      · exact h.1 k (by omega)
  · have h1 := hz m (by omega)
    rw [put_on] at h1
    show (if z = (i : Int) then _ else _) = _
    rw [if_neg (fun e => h1 e.symm)]
    refine h.2 z fun k hk => ?_
    have := hz k (by omega)
    rwa [put_off _ _ (by omega)] at this

set_option maxRecDepth 100000 in
set_option maxHeartbeats 2000000 in
theorem hasR_no (h : SW w p a l u S s c cnt st op f t R U) (i : Int) (hr : R i = none) :
    Calls Tryz.prog 130 #[ptr s.b, .int .i64 i] w fun e w' => e = .returned (.bool false) ∧ w = w' := by
  have c8 := h.sec.cell 8 rfl
  have c0 := h.sec.cell 0 rfl
  go_enter Tryz.func130, Tryz.ntmps130
  go_wp2_with (at_lookup; refine wpList_missed_at rfl _ _ _ rfl 3 40 Tryz.underlying163 Tryz.underlying3 (.int .u64 0) (by kernel_rfl) s.rb _ rfl h.rm i rfl hr ?_)
  go_ret
  exact ⟨rfl, rfl⟩

end

end Go.Proofs.YtbalmmnggfgpkaaGreat

namespace Go.Proofs.YtbalmmnggfgpkaaGreat
open Go.RowKit Go.OpenShut

section
variable {w w' : World} {p : Nat} {a : DA} {l u u' : Int} {S S' : DS} {s : Sc} {c : Cfg} {m e0 r : Nat} {st : Bool} {op : Bool} {f t : Int} {R U : Int → Option Value} {pl : Nat → Nat} {wd : Nat → Int} {cs : List Cmd} {v : Value} {e : Ending}

set_option maxRecDepth 100000 in
set_option maxHeartbeats 2000000 in
/-- A record more. -/
theorem record_new (h : SW w p a l u S s c m st op f t R U) (hc : c.Ok) (hn : c.words = a.n) (hL : LR c a.n e0 r m pl wd S) (hrb : r < 4294967296) (i : Nat) (hi : c.act ≤ i ∧ i < a.n) (hf : freshB f t i = false) (hr : R (i : Int) = none) (hm : m < c.log) (hb : u < 4611686018427340000) :
    Calls Tryz.prog 115 #[ptr s.b, .int .i64 i] w (RanS p a l u S s c (m + 1) true op f t (fun z => if z = (i : Int) then some (.int .u64 (eN e0 r : Nat)) else R z) U (appL c st false m (eN e0 r) i (S.now i)) (.int .i64 0) w) := by
  have c6 := h.sec.cell 6 rfl
  have c7 := h.sec.cell 7 rfl
  have HF := hid (shas_at w f t i)
  have K1 := (Keeps.refl [] w).alloc (spO f t)
  have h1 := h.keep0 K1
  have HH := hid (hasR_no h1 i hr)
  have HA := hid (append_li h1.lw hc hn hL hrb hm i hi.2 hb)
  have d0 := h1.sec.cell 0 rfl
  have HL := hid (app_done (st := st) hL hm i (S.now i) hi)
  have hci := hid (c_in hc hn)
  rw [hf] at HF
  clear hf hr hm hL hi
  go_enter Tryz.func115, Tryz.ntmps115
  go_wp2_with fail
  refine HF.out.mono ?_
  rintro e w1 ⟨rfl, rfl⟩
  go_wp2_with fail
  refine HH.out.mono ?_
  rintro e w1 ⟨rfl, rfl⟩
  go_wp2_with fail
  refine HA.out.mono ?_
  rintro e w2 (⟨rfl, h2, k2⟩ | ⟨rfl, ⟨S', d2, h2⟩, k2⟩)
  rotate_left
  · exact ⟨rfl, ranS_cut h2 d2 (K1.nos.trans k2.lgs)⟩
  have l2 := h1.log h2 k2
  have K2 : Keeps (s.bl p a) w w2 := K1.nos.trans k2.lgs
  clear d0 c6 c7 h1 k2 K1 HH HA HF h2
  obtain ⟨S2, hS2⟩ : ∃ S2, S2 = execs S (appL c st false m (eN e0 r) i (S.now i)) := ⟨_, rfl⟩
  obtain ⟨u2, hu2⟩ : ∃ u2, u2 = u + ((appL c st false m (eN e0 r) i (S.now i)).length : Int) := ⟨_, rfl⟩
  rw [← hS2, ← hu2] at l2
  rw [← hS2] at HL
  have HS2 := hid hS2
  have HU2 := hid hu2
  clear hS2 hu2
  have hep : epN (eN e0 r) = eN e0 r := epN_eN e0 r
  have HE := hid (fun (w' : World) (hk : Keeps [] w2 w') => epoch6_at (l2.keep0 hk).lw (eN e0 r) (by have := eN_lt e0 r; omega) HL.out.ep.1 hci.out.2.1)
  rw [hep] at HE
  clear hep
  obtain ⟨w3, hrun, hm3, hk3⟩ := (l2.keep0 (Keeps.refl [] w2).drew).rm.update (P := Tryz.prog) (t := 163) Tryz.underlying163 Tryz.underlying3 (i : Int) (.int .u64 (eN e0 r : Nat))
  have kk : Keeps [] w2 w2.drew := (Keeps.refl _ _).drew
  have HS : Hid (∀ w', SW w' p a l u2 S2 s c (m + 1) true op f t R U → (w'.cell? ⟨s.b, 0, none⟩ = some (ptr s.lb) ∧ w'.cell? ⟨s.b, 8, none⟩ = some (.map (some s.rb)))) := fun w' h => ⟨h.sec.cell 0 rfl, h.sec.cell 8 rfl⟩
  have l3 := (l2.keep0 (Keeps.refl [] w2).drew).setR hm3 hk3
  have HS3 : Hid (w3.cell? ⟨s.b, 0, none⟩ = some (ptr s.lb) ∧ w3.cell? ⟨s.b, 8, none⟩ = some (.map (some s.rb))) := ⟨l3.sec.cell 0 rfl, l3.sec.cell 8 rfl⟩
  go_upto_region 6 with fail
  go_region_held3 (fun w' => w'.cell? ⟨s.b, 0, none⟩ = some (ptr s.lb) ∧ w'.cell? ⟨s.b, 8, none⟩ = some (.map (some s.rb)))
    (first | exact HS.out _ (l2.keep0 kk) | exact HS3.out)
    (first | (go_at_call 112; refine (HE.out _ kk).mono ?_; rintro e w' ⟨rfl, rfl⟩))
  go_wp2_with fail
  go_ret
  exact ranS_end l3 HU2.out HS2.out ((K2.trans (kk.nos)).trans hk3.rps)

end

end Go.Proofs.YtbalmmnggfgpkaaGreat

namespace Go.Proofs.YtbalmmnggfgpkaaGreat
open Go.RowKit Go.OpenShut

section
variable {w w' : World} {p : Nat} {a : DA} {l u u' : Int} {S S' : DS} {s : Sc} {c : Cfg} {m e0 r : Nat} {st : Bool} {op : Bool} {f t f' t' : Int} {R U : Int → Option Value} {pl : Nat → Nat} {wd : Nat → Int} {cs : List Cmd} {v : Value} {e : Ending}

set_option maxRecDepth 100000 in
set_option maxHeartbeats 2000000 in
/-- A word that gets a record. -/
theorem sstore_new (h : SW w p a l u S s c m st true f t R U) (hc : c.Ok) (hn : c.words = a.n) (hL : LR c a.n e0 r m pl wd S) (hrb : r < 4294967296) (i : Nat) (v : Int) (hi : c.act ≤ i ∧ i < a.n) (hf : freshB f t i = false) (hr : R (i : Int) = none) (hm : m < c.log) (hb : u < 4611686018427330000) :
    Calls Tryz.prog 104 #[ptr s.b, .int .i64 i, .int .u64 v] w (RanS p a l u S s c (m + 1) true true f t (fun z => if z = (i : Int) then some (.int .u64 (eN e0 r : Nat)) else R z) (mkU U i) (appL c st false m (eN e0 r) i (S.now i) ++ [.st i v]) (.int .i64 0) w) := by
  have c1 := h.sec.cell 1 rfl
  have c2 := h.sec.cell 2 rfl
  have c3 := h.sec.cell 3 rfl
  have c4 := h.sec.cell 4 rfl
  have c5 := h.sec.cell 5 rfl
  have hci := c_in hc hn
  have hlen := appL_len (st := st) (m := m) hc (eN e0 r) i (S.now i)
  have t1 : decide ((i : Int) < (c.act : Int)) = false := by rw [decide_eq_false_iff_not]; omega
  have t2 : decide ((a.n : Int) ≤ (i : Int)) = false := by rw [decide_eq_false_iff_not]; omega
  have t3 : decide (i < c.act) = false := by rw [decide_eq_false_iff_not]; omega
  have t4 : decide (a.n ≤ i) = false := by rw [decide_eq_false_iff_not]; omega
  have HI := hid (show i < a.n ∧ i ≤ 100000 by omega)
  have HR := hid (fun (w' : World) (hk : Keeps [] w w') => record_new (h.keep0 hk) hc hn hL hrb i hi hf hr hm (by omega))
  have HL := hid hlen
  have hub := hid hb
  have hs := hc.small
  clear hi hf hr hm hL hci hlen hn hc
  go_enter Tryz.func104, Tryz.ntmps104
  go_wp2_with fail
  refine (active_at w c hs).mono ?_
  rintro e w1 ⟨rfl, hk1⟩
  have l1 := h.keep0 hk1
  clear c1 c2 c3 c4 c5
  have c1 := l1.sec.cell 1 rfl
  go_wp2_with fail
  refine (len_at w1 p a S l1.lw.pw.dev).mono ?_
  rintro e w2 ⟨rfl, rfl⟩
  go_wp2_with fail
  refine (HR.out _ hk1).mono ?_
  rintro e w2 (⟨rfl, l2, k2⟩ | ⟨rfl, ⟨S', d2, h2⟩, k2⟩)
  rotate_left
  · exact ⟨rfl, ranS_cut h2 (d2.left _) (hk1.nos.trans k2)⟩
  have K2 : Keeps (s.bl p a) w w2 := hk1.nos.trans k2
  clear c1 HR k2
  go_wp2_with fail
  refine (mark_at l2 i HI.out.2).mono ?_
  rintro e w3 ⟨rfl, l3, hk3⟩
  have K3 : Keeps (s.bl p a) w w3 := K2.trans hk3.ups
  have c1 := l3.sec.cell 1 rfl
  go_wp2_with fail
  refine (store_ran w3 p a l _ _ i v l3.lw.pw HI.out.1 (by have := HL.out; have := hub.out; omega)).mono ?_
  rintro e w4 (⟨rfl, h4, k4⟩ | ⟨rfl, ⟨S', d4, h4⟩, k4⟩)
  rotate_left
  · exact ⟨rfl, ranS_cut h4 (Cut.right d4 rfl rfl) (K3.trans k4.dvs)⟩
  go_wp2_with fail
  go_ret
  exact ranS_end (l3.next h4 k4) (by simp; omega) (by rw [execs_append]) (K3.trans k4.dvs)

end

end Go.Proofs.YtbalmmnggfgpkaaGreat

namespace Go.Proofs.YtbalmmnggfgpkaaGreat
open Go.RowKit Go.OpenShut

section
variable {w w' : World} {p : Nat} {a : DA} {l u u' : Int} {S S' : DS} {s : Sc} {c : Cfg} {m e0 r : Nat} {st : Bool} {op : Bool} {f t f' t' : Int} {R U : Int → Option Value} {pl : Nat → Nat} {wd : Nat → Int} {cs : List Cmd} {v : Value} {e : Ending}

set_option maxRecDepth 100000 in
set_option maxHeartbeats 2000000 in
theorem begin_ran (h : SW w p a l u S s c m st false f t R U) (hU : UIn U a.n) (hn8 : 8 < a.n) (hn : a.n ≤ 15000) (hb : u < 4611686018427350000) :
    Calls Tryz.prog 103 #[ptr s.b, spV f' t'] w fun e w' => ∃ ss, KeysOf U ss ∧ RanS p a l u S s c m st true f' t' (fun _ => none) (fun _ => none) (kpC ss) (.int .i64 0) w e w' := by
  have K1 := (Keeps.refl [] w).alloc (spO f' t')
  have h1 := h.keep0 K1
  have c5 := h1.sec.cell 5 rfl
  have hB := At.new w (spO f' t')
  have hBn : w.heap.size ∉ s.bl p a := by
    unfold Sc.bl
    have q1 := h.lw.pw.pow.lt
    have q2 := h.lw.pw.dev.now.lt
    have q3 := h.lw.pw.dev.kept.lt
    have q4 := h.lw.pw.dev.map.lt
    have q5 := h.lw.log.lt
    have q6 := h.sec.lt
    have q7 := h.rm.lt
    have q8 := h.um.lt
    simp only [List.mem_cons, List.not_mem_nil, or_false, not_or]
    exact ⟨by omega, by omega, by omega, by omega, by omega, by omega, by omega, by omega⟩
  go_enter Tryz.func103, Tryz.ntmps103
  go_wp2_with fail
  refine (skeep_ran h1 hU hn8 hn (by omega)).mono ?_
  rintro e w2 ⟨ss, hss, ⟨rfl, l2, k2⟩ | ⟨rfl, ⟨S', d2, h2⟩, k2⟩⟩
  rotate_left
  · exact ⟨rfl, ss, hss, ranS_cut h2 d2 (K1.nos.trans k2)⟩
  have hB2 := k2.at hB hBn
  have K2 : Keeps (s.bl p a) w w2 := K1.nos.trans k2
  have HSS := hid hss
  clear c5 hss k2 hB h1
  have c8 := l2.sec.cell 8 rfl
  go_wp2_with (refine wpList_clear_at rfl _ _ rfl 3 40 Tryz.underlying163 s.rb _ rfl l2.rm ?_; intro w3 hm3 hk3; have l3 := l2.setR hm3 hk3; have hB3 := hk3.at hB2 (fun hm => hBn (by unfold Sc.bl; simp only [List.mem_cons, List.not_mem_nil, or_false] at hm ⊢; simp [hm])); have K3 : Keeps (s.bl p a) w w3 := K2.trans hk3.rps; have b0 := hB3.cell 0 rfl; have b1 := hB3.cell 1 rfl; have f6 := l3.sec.free 6; have f7 := l3.sec.free 7; have c6 := l3.sec.cell 6 rfl; have c7 := l3.sec.cell 7 rfl; have f5 := l3.sec.free 5; have c5 := l3.sec.cell 5 rfl)
  go_ret
  have l6 := ((l3.set 6 (.int .i64 f') (op' := false) (f' := f') (t' := t) (by simp)).set 7 (.int .i64 t') (op' := false) (f' := f') (t' := t') (by simp)).set 5 (.bool true) (op' := true) (f' := f') (t' := t') (by simp)
  have hb : s.b ∈ s.bl p a := by unfold Sc.bl; simp
  exact ⟨ss, HSS.out, ranS_end l6 rfl rfl (((K3.set (.inl hb) _).set (.inl hb) _).set (.inl hb) _)⟩

theorem kpC_off {ss : List Int} {y : Cmd} (h : y ∈ kpC ss) (j : Nat) : y.Off j := by
  unfold kpC at h
  simp only [List.mem_append, List.mem_singleton] at h
  rcases h with rfl | h | rfl
  · trivial
  · obtain ⟨i, _, rfl⟩ := mem_rowL h
    trivial
  · trivial

theorem LR.kp {n : Nat} (h : LR c n e0 r m pl wd S) (ss : List Int) : LR c n e0 r m pl wd (execs S (kpC ss)) :=
  h.pre (pre_execs fun _ hy => kpC_off hy _) (fun _ _ => ⟨pre_execs fun _ hy => kpC_off hy _, pre_execs fun _ hy => kpC_off hy _, pre_execs fun _ hy => kpC_off hy _⟩) fun _ _ _ => pre_execs fun _ hy => kpC_off hy _

set_option maxRecDepth 100000 in
set_option maxHeartbeats 2000000 in
theorem abort_ran (h : SW w p a l u S s c m st true f t R U) (hU : UIn U a.n) (hc : c.Ok) (hn : c.words = a.n) (hL : LR c a.n e0 r m pl wd S) (hb : u < 4611686018427330000) :
    Calls Tryz.prog 105 #[ptr s.b] w fun e w' => ∃ ss, KeysOf U ss ∧ RanS p a l u S s c 0 (stS m st) false f t R (fun _ => none) (undS c st pl wd m (eN e0 r) ++ kpC ss) (.int .i64 0) w e w' := by
  have c5 := h.sec.cell 5 rfl
  have c0 := h.sec.cell 0 rfl
  have hci := hid (c_in hc hn)
  have HU := hid (undo_li h.lw hc hn hL (by omega))
  have hlen := hid (undS_len (st := st) (pl := pl) (wd := wd) hc hL.le (eN e0 r))
  have hK0 : ∃ ss, KeysOf U ss := by
    obtain ⟨D0, _, _, hP⟩ := h.um.owns (P := Tryz.prog) (fun k v hk => by have := hU k v hk; have := hci.out; omega) 3 Tryz.underlying3
    exact ⟨_, hP _ (List.Perm.refl _)⟩
  have HUI := hid hU
  clear hU
  go_enter Tryz.func105, Tryz.ntmps105
  go_wp2_with fail
  refine HU.out.mono ?_
  rintro e w2 (⟨rfl, h2, k2⟩ | ⟨rfl, ⟨S', d2, h2⟩, k2⟩)
  rotate_left
  · obtain ⟨ss, hss⟩ := hK0
    exact ⟨rfl, ss, hss, ranS_cut h2 (d2.left _) k2.lgs⟩
  have l2 := h.log h2 k2
  clear c0 c5 hK0 HU
  go_wp2_with fail
  refine (skeep_ran l2 HUI.out hci.out.2.1 hci.out.2.2.2.2 (by have := hlen.out; omega)).mono ?_
  rintro e w3 ⟨ss, hss, ⟨rfl, l3, k3⟩ | ⟨rfl, ⟨S', d3, h3⟩, k3⟩⟩
  rotate_left
  · exact ⟨rfl, ss, hss, ranS_cut h3 (Cut.right d3 rfl rfl) (k2.lgs.trans k3)⟩
  have f5 := l3.sec.free 5
  have c5 := l3.sec.cell 5 rfl
  have HSS := hid hss
  clear hss
  go_wp2_with fail
  go_ret
  have hb : s.b ∈ s.bl p a := by unfold Sc.bl; simp
  refine ⟨ss, HSS.out, ranS_end (l3.set 5 (.bool false) (op' := false) (f' := f) (t' := t) (by simp)) ?_ ?_ ((k2.lgs.trans k3).set (.inl hb) _)⟩
  · simp only [List.length_append]; omega
  · rw [execs_append]

end

end Go.Proofs.YtbalmmnggfgpkaaGreat

namespace Go.Proofs.YtbalmmnggfgpkaaGreat
open Go.RowKit Go.OpenShut

/-- A section that is made over a log and two maps. -/
theorem SW.make {w : World} {p : Nat} {a : DA} {l u : Int} {S : DS} {lb rb ub : Nat} {c : Cfg} {m : Nat} {st : Bool} {R U : Int → Option Value} (h : LW w p a l u S lb c m st) (hr : IMap w rb R) (hu : IMap w ub U) (ru : rb ≠ ub) (ra : rb ≠ a.m) (ua : ub ≠ a.m) :
    SW (w.alloc (secO a.d ⟨w.heap.size, lb, rb, ub⟩ c false 0 0)) p a l u S ⟨w.heap.size, lb, rb, ub⟩ c m st false 0 0 R U :=
  ⟨h.keep0 ((Keeps.refl [] w).alloc _), At.new _ _, hr.keep ((Keeps.refl [] w).alloc _) (by simp), hu.keep ((Keeps.refl [] w).alloc _) (by simp), ru, ra, ua⟩

/-- What New answers ahead of its loop. -/
def New0 (w : World) (p : Nat) (a : DA) (l u : Int) (S : DS) (c : Cfg) (m : Nat) (v : Value) (w' : World) : Prop :=
  ∃ s : Sc, v = ptr s.b ∧ SW w' p a l u S s c m false false 0 0 (fun _ => none) (fun _ => none) ∧ Keeps [] w w' ∧ w.heap.size ≤ s.b ∧ w.heap.size ≤ s.lb ∧ w.heap.size ≤ s.rb ∧ w.heap.size ≤ s.ub

abbrev mapO : Obj := .map #[] 0
theorem im1 (w : World) : IMap ((w.alloc mapO).alloc mapO) w.heap.size (fun _ => none) := (IMap.made w).keep ((Keeps.refl [] (w.alloc mapO)).alloc _) (by simp)
theorem im2 (w : World) : IMap ((w.alloc mapO).alloc mapO) (w.heap.size + 1) (fun _ => none) := by
  have := IMap.made (w.alloc mapO)
  rwa [show (w.alloc mapO).heap.size = w.heap.size + 1 by simp] at this

theorem new0_of {w w3 : World} {p : Nat} {a : DA} {l u : Int} {S : DS} {b lb rb ub : Nat} {c : Cfg} {m : Nat} (hL : LW w3 p a l u S lb c m false) (K : Keeps [] w w3) (hr : IMap w3 rb (fun _ => none)) (hu : IMap w3 ub (fun _ => none)) (ham : a.m < w.heap.size) (hb : b = w3.heap.size) (hs : w.heap.size ≤ lb ∧ w.heap.size ≤ rb ∧ w.heap.size ≤ ub ∧ rb ≠ ub) :
    New0 w p a l u S c m (ptr b) (w3.alloc (secO a.d ⟨b, lb, rb, ub⟩ c false 0 0)) := by
  subst hb
  exact ⟨⟨w3.heap.size, lb, rb, ub⟩, rfl, SW.make hL hr hu hs.2.2.2 (by omega) (by omega), K.alloc _, K.size, hs.1, hs.2.1, hs.2.2.1⟩

section
variable {w w' : World} {p : Nat} {a : DA} {l u u' : Int} {S S' : DS} {s : Sc} {c : Cfg} {m e0 r : Nat} {st : Bool} {op : Bool} {f t f' t' : Int} {R U : Int → Option Value} {pl : Nat → Nat} {wd : Nat → Int} {cs : List Cmd} {v : Value} {e : Ending}

set_option maxRecDepth 100000 in
set_option maxHeartbeats 4000000 in
theorem snew_at (h : Pw w p a l u S) (hc : c.Ok) (hn : c.words = a.n) (hL : LR c a.n e0 r m pl wd S) (hr : r < 4294967296) :
    Calls Tryz.prog 102 #[ptr a.d, cfgV c] w fun e w' => ∃ s U, e = .returned (ptr s.b) ∧ SW w' p a l u S s c m false false 0 0 (fun _ => none) U ∧ UIn U a.n ∧ Keeps [] w w' ∧ w.heap.size ≤ s.b ∧ w.heap.size ≤ s.lb ∧ w.heap.size ≤ s.rb ∧ w.heap.size ≤ s.ub := by
  have hci := c_in hc hn
  have ham : a.m < w.heap.size := h.dev.map.lt
  have HO := hid (fun (w' : World) (hk : Keeps [] w w') => open_li (h.keep0 hk) hc hn hL hr)
  have hB := At.new w (cfgO c)
  have K0 := (Keeps.refl [] w).alloc (cfgO c)
  have hmm := @run_makeMap Tryz.prog
  clear hL hc
  go_enter Tryz.func102, Tryz.ntmps102
  go_upto_region 1 with fail
  obtain ⟨w0, hw0⟩ : ∃ w0, w0 = w.alloc (cfgO c) := ⟨_, rfl⟩
  obtain ⟨bc, hbc⟩ : ∃ bc, bc = w.heap.size := ⟨_, rfl⟩
  have hz0 : w.heap.size ≤ w0.heap.size := by rw [hw0]; simp
  rw [← hw0] at hB K0 ⊢
  rw [← hbc] at hB ham hz0 ⊢
  have HBC := hid hbc
  clear hw0 hbc
  have HS : Hid (∀ w', Keeps [] w0 w' → (w'.cell? ⟨bc, 0, none⟩ = some (.int .i64 c.log) ∧ w'.cell? ⟨bc, 1, none⟩ = some (.int .i64 c.roots) ∧ w'.cell? ⟨bc, 2, none⟩ = some (.int .i64 c.space))) := fun w' hk => ⟨(hk.at hB (by simp)).cell 0 rfl, (hk.at hB (by simp)).cell 1 rfl, (hk.at hB (by simp)).cell 2 rfl⟩
  have kk : Keeps [] w0 w0.drew := (Keeps.refl _ _).drew
  go_cut [5] from 7 to 15 (fun s5 wx => New0 w p a l u S c m s5 wx)
  case first =>
    go_region_held3 (fun w' => w'.cell? ⟨bc, 0, none⟩ = some (.int .i64 c.log) ∧ w'.cell? ⟨bc, 1, none⟩ = some (.int .i64 c.roots) ∧ w'.cell? ⟨bc, 2, none⟩ = some (.int .i64 c.space))
      (exact HS.out _ (by repeat first | exact kk | apply Keeps.drew | apply Keeps.alloc | exact Keeps.refl _ _))
      (first | (go_at_call 108; refine (HO.out _ (K0.trans (by repeat first | exact kk | apply Keeps.drew | apply Keeps.alloc | exact Keeps.refl _ _))).mono ?_; rintro e w' ⟨lb, rfl, hlb, hLW, hk4⟩; have kk : Keeps [] w0 w' := Keeps.trans (by repeat first | exact kk | apply Keeps.drew | apply Keeps.alloc | exact Keeps.refl _ _) hk4))
    all_goals
      have hzk := kk.size
      have hz4 := hk4.size
      have HB2 := HBC.out
      rw [HB2] at ham hz0
      simp at hlb hz4
      go_wp2_with fail
      go_meet
    · refine new0_of (hLW.keep0 (by repeat first | exact kk | exact hk4 | exact Keeps.trans (Keeps.drew (Keeps.refl _ _) ) hk4 | apply Keeps.drew | apply Keeps.alloc | exact Keeps.refl _ _)) (K0.trans (by repeat first | exact kk | exact hk4 | exact Keeps.trans (Keeps.drew (Keeps.refl _ _) ) hk4 | apply Keeps.drew | apply Keeps.alloc | exact Keeps.refl _ _)) (im1 _) (im2 _) ham (by simp) (by simp; omega)
    · refine new0_of (hLW.keep0 (by repeat first | exact kk | exact hk4 | exact Keeps.trans (Keeps.drew (Keeps.refl _ _) ) hk4 | apply Keeps.drew | apply Keeps.alloc | exact Keeps.refl _ _)) (K0.trans (by repeat first | exact kk | exact hk4 | exact Keeps.trans (Keeps.drew (Keeps.refl _ _) ) hk4 | apply Keeps.drew | apply Keeps.alloc | exact Keeps.refl _ _)) (im2 _) (im1 _) ham (by simp) (by simp; omega)
    · refine new0_of (hLW.keep0 (by repeat first | exact kk | exact hk4 | exact Keeps.trans (Keeps.drew (Keeps.refl _ _) ) hk4 | apply Keeps.drew | apply Keeps.alloc | exact Keeps.refl _ _)) (K0.trans (by repeat first | exact kk | exact hk4 | exact Keeps.trans (Keeps.drew (Keeps.refl _ _) ) hk4 | apply Keeps.drew | apply Keeps.alloc | exact Keeps.refl _ _)) ((IMap.made w0).keep (S := []) (w' := _) (by repeat first | exact kk | exact hk4 | exact Keeps.trans (Keeps.drew (Keeps.refl _ _) ) hk4 | apply Keeps.drew | apply Keeps.alloc | exact Keeps.refl _ _) (by simp)) (IMap.made _) ham (by simp) (by simp; omega)
    · refine new0_of (hLW.keep0 (by repeat first | exact kk | exact hk4 | exact Keeps.trans (Keeps.drew (Keeps.refl _ _) ) hk4 | apply Keeps.drew | apply Keeps.alloc | exact Keeps.refl _ _)) (K0.trans (by repeat first | exact kk | exact hk4 | exact Keeps.trans (Keeps.drew (Keeps.refl _ _) ) hk4 | apply Keeps.drew | apply Keeps.alloc | exact Keeps.refl _ _)) ((im1 w0).keep (S := []) (by repeat first | exact kk | exact hk4 | exact Keeps.trans (Keeps.drew (Keeps.refl _ _) ) hk4 | apply Keeps.drew | apply Keeps.alloc | exact Keeps.refl _ _) (by simp)) ((im2 w0).keep (S := []) (by repeat first | exact kk | exact hk4 | exact Keeps.trans (Keeps.drew (Keeps.refl _ _) ) hk4 | apply Keeps.drew | apply Keeps.alloc | exact Keeps.refl _ _) (by simp)) ham (by simp) (by simp; omega)
    · refine new0_of (hLW.keep0 (by repeat first | exact kk | exact hk4 | exact Keeps.trans (Keeps.drew (Keeps.refl _ _) ) hk4 | apply Keeps.drew | apply Keeps.alloc | exact Keeps.refl _ _)) (K0.trans (by repeat first | exact kk | exact hk4 | exact Keeps.trans (Keeps.drew (Keeps.refl _ _) ) hk4 | apply Keeps.drew | apply Keeps.alloc | exact Keeps.refl _ _)) (IMap.made _) ((IMap.made w0).keep (S := []) (by repeat first | exact kk | exact hk4 | exact Keeps.trans (Keeps.drew (Keeps.refl _ _) ) hk4 | apply Keeps.drew | apply Keeps.alloc | exact Keeps.refl _ _) (by simp)) ham (by simp) (by simp; omega)
    · refine new0_of (hLW.keep0 (by repeat first | exact kk | exact hk4 | exact Keeps.trans (Keeps.drew (Keeps.refl _ _) ) hk4 | apply Keeps.drew | apply Keeps.alloc | exact Keeps.refl _ _)) (K0.trans (by repeat first | exact kk | exact hk4 | exact Keeps.trans (Keeps.drew (Keeps.refl _ _) ) hk4 | apply Keeps.drew | apply Keeps.alloc | exact Keeps.refl _ _)) ((im2 w0).keep (S := []) (by repeat first | exact kk | exact hk4 | exact Keeps.trans (Keeps.drew (Keeps.refl _ _) ) hk4 | apply Keeps.drew | apply Keeps.alloc | exact Keeps.refl _ _) (by simp)) ((im1 w0).keep (S := []) (by repeat first | exact kk | exact hk4 | exact Keeps.trans (Keeps.drew (Keeps.refl _ _) ) hk4 | apply Keeps.drew | apply Keeps.alloc | exact Keeps.refl _ _) (by simp)) ham (by simp) (by simp; omega)
  case rest =>
    obtain ⟨s, rfl, h0, k0, n1, n2, n3, n4⟩ := hcut
    have hN := hid (show w.heap.size ≤ s.b ∧ w.heap.size ≤ s.lb ∧ w.heap.size ≤ s.rb ∧ w.heap.size ≤ s.ub from ⟨n1, n2, n3, n4⟩)
    have hA := hid hci
    have hnb : (a.n : Int) ≤ 15000 := by omega
    clear HO hmm HS hB K0 kk n1 n2 n3 n4 HBC hz0 ham hci
    go_wp2_with fail
    go_loopg [6] (a.n - 8) (fun r sl wr => ∃ (i : Nat) (U : Int → Option Value), r = a.n - i ∧ i ≤ 20000 ∧ sl = .int .i64 i ∧ SW wr p a l u S s c m false false 0 0 (fun _ => none) U ∧ UIn U a.n ∧ Keeps [s.ub] wc wr)
    case atStart => exact ⟨8, _, rfl, by omega, rfl, h0, UIn.none _, Keeps.refl _ _⟩
    case round =>
      obtain ⟨i, U, hi, hi2, rfl, hL, hU, hk⟩ := hrel
      have hib : (i : Int) ≤ 20000 := by omega
      have HU := hid hU
      clear hU
      go_wp2_with fail
      refine (len_at wr p a S hL.lw.pw.dev).mono ?_
      rintro e w2 ⟨rfl, rfl⟩
      by_cases hlt : i < a.n
      · have t1 : decide ((i : Int) < (a.n : Int)) = true := by rw [decide_eq_true_eq]; omega
        have t2 : decide (i < a.n) = true := by rw [decide_eq_true_eq]; omega
        have HI := hid (And.intro hi hlt)
        clear hi hlt
        go_wp2_with fail
        refine (mark_at hL i (by omega)).mono ?_
        rintro e w3 ⟨rfl, hL3, hk3⟩
        have hli := HI.out.2
        have h15 : a.n ≤ 15000 := by omega
        go_wp2_with fail
        go_roundg (a.n - (i + 8))
        case measure => have := HI.out; omega
        case rel => exact ⟨i + 8, _, rfl, by omega, by go_num, hL3, HU.out.mark hli, hk.trans hk3⟩
      · have t1 : decide ((i : Int) < (a.n : Int)) = false := by rw [decide_eq_false_iff_not]; omega
        have t2 : decide (i < a.n) = false := by rw [decide_eq_false_iff_not]; omega
        clear hlt hi
        go_wp2_with fail
        go_ret
        have hn2 := hN.out
        exact ⟨s, U, rfl, hL, HU.out, k0.new hk (by simp; omega), hn2.1, hn2.2.1, hn2.2.2.1, hn2.2.2.2⟩

end

end Go.Proofs.YtbalmmnggfgpkaaGreat

namespace Go.Proofs.YtbalmmnggfgpkaaGreat
open Go.RowKit Go.OpenShut

end Go.Proofs.YtbalmmnggfgpkaaGreat

