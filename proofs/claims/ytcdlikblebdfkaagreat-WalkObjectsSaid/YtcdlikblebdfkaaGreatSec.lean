/- The section's object, and its calls as steps. -/
import Derived.Test.YtcdlikblebdfkaaGreatKeysM
import Derived.Test.YtcdlikblebdfkaaGreatLaw6
namespace Go.Proofs.YtcdlikblebdfkaaGreat
open Go.RowKit Go.OpenShut

/-- A section's blocks: its own, its log's, what is recorded, what isn't kept. -/
structure Sc where
  b : Nat
  lb : Nat
  rb : Nat
  ub : Nat

abbrev spV (f t : Int) : Value := .agg #[.int .i64 f, .int .i64 t]
abbrev spO (f t : Int) : Obj := .cells #[.int .i64 f, .int .i64 t] 117
abbrev secO (d : Nat) (s : Sc) (c : Cfg) (op : Bool) (f t : Int) : Obj := .cells #[ptr s.lb, ptr d, .int .i64 c.log, .int .i64 c.roots, .int .i64 c.space, .bool op, .int .i64 f, .int .i64 t, .map (some s.rb), .map (some s.ub)] 121

/-- A device, its power, a log, a section over them. -/
structure SW (w : World) (p : Nat) (a : DA) (l u : Int) (S : DS) (s : Sc) (c : Cfg) (cnt : Nat) (st : Bool) (op : Bool) (f t : Int) (R U : Int → Option Value) : Prop where
  lw : LW w p a l u S s.lb c cnt st
  sec : At w s.b (secO a.d s c op f t)
  rm : IMap w s.rb R
  um : IMap w s.ub U
  ru : s.rb ≠ s.ub
  ra : s.rb ≠ a.m
  ua : s.ub ≠ a.m

theorem imap_ne {w : World} {b b' : Nat} {x : Array Value} {T : TypeId} {fz : Nat × Nat} {D : Int → Option Value} (h : At w b (.cells x T fz)) (h' : IMap w b' D) : b ≠ b' := by
  rintro rfl
  obtain ⟨es, ck, hm, _⟩ := h'
  have := h.inj hm
  cases this

/-- The blocks that a section's calls may turn. -/
def Sc.bl (s : Sc) (p : Nat) (a : DA) : List Nat := [p, a.s, a.k, a.m, s.lb, s.b, s.rb, s.ub]

section
variable {w w' : World} {p : Nat} {a : DA} {l u : Int} {S S' : DS} {s : Sc} {c : Cfg} {cnt : Nat} {st : Bool} {op : Bool} {f t : Int} {R U : Int → Option Value}

theorem SW.ne (h : SW w p a l u S s c cnt st op f t R U) : s.b ∉ [p, a.s, a.k, a.m, s.lb, s.rb, s.ub] ∧ s.rb ∉ [p, a.s, a.k, a.m, s.lb, s.b, s.ub] ∧ s.ub ∉ [p, a.s, a.k, a.m, s.lb, s.b, s.rb] ∧ s.b ≠ a.d ∧ s.rb ≠ a.d ∧ s.ub ≠ a.d := by
  have d := h.lw.pw.dev
  have n1 : s.b ≠ p := cells_ne h.sec h.lw.pw.pow (by decide)
  have n2 : s.b ≠ a.s := cells_ne h.sec d.now (by decide)
  have n3 : s.b ≠ a.k := cells_ne h.sec d.kept (by decide)
  have n4 : s.b ≠ a.m := imap_ne h.sec d.map
  have n5 : s.b ≠ s.lb := cells_ne h.sec h.lw.log (by decide)
  have n6 : s.b ≠ a.d := cells_ne h.sec d.dev (by decide)
  have n7 : s.b ≠ s.rb := imap_ne h.sec h.rm
  have n8 : s.b ≠ s.ub := imap_ne h.sec h.um
  have r1 : p ≠ s.rb := imap_ne h.lw.pw.pow h.rm
  have r2 : a.s ≠ s.rb := imap_ne d.now h.rm
  have r3 : a.k ≠ s.rb := imap_ne d.kept h.rm
  have r5 : s.lb ≠ s.rb := imap_ne h.lw.log h.rm
  have r6 : a.d ≠ s.rb := imap_ne d.dev h.rm
  have u1 : p ≠ s.ub := imap_ne h.lw.pw.pow h.um
  have u2 : a.s ≠ s.ub := imap_ne d.now h.um
  have u3 : a.k ≠ s.ub := imap_ne d.kept h.um
  have u5 : s.lb ≠ s.ub := imap_ne h.lw.log h.um
  have u6 : a.d ≠ s.ub := imap_ne d.dev h.um
  have x1 := h.ru
  have x2 := h.ra
  have x3 := h.ua
  simp only [List.mem_cons, List.not_mem_nil, or_false, not_or]
  exact ⟨⟨n1, n2, n3, n4, n5, n7, n8⟩, ⟨r1.symm, r2.symm, r3.symm, x2, r5.symm, n7.symm, x1⟩, ⟨u1.symm, u2.symm, u3.symm, x3, u5.symm, n8.symm, x1.symm⟩, n6, r6.symm, u6.symm⟩

theorem SW.keep0 (h : SW w p a l u S s c cnt st op f t R U) (hk : Keeps [] w w') : SW w' p a l u S s c cnt st op f t R U :=
  ⟨h.lw.keep0 hk, hk.at h.sec (by simp), h.rm.keep hk (by simp), h.um.keep hk (by simp), h.ru, h.ra, h.ua⟩

theorem SW.keep {T : List Nat} (h : SW w p a l u S s c cnt st op f t R U) (hk : Keeps T w w') (hT : ∀ b ∈ s.bl p a, b ∉ T) (hd : a.d ∉ T) : SW w' p a l u S s c cnt st op f t R U := by
  unfold Sc.bl at hT
  exact ⟨h.lw.keep hk (hT _ (by simp)) hd (hT _ (by simp)) (hT _ (by simp)) (hT _ (by simp)) (hT _ (by simp)), hk.at h.sec (hT _ (by simp)), h.rm.keep hk (hT _ (by simp)), h.um.keep hk (hT _ (by simp)), h.ru, h.ra, h.ua⟩

/-- Behind steps of the log. -/
theorem SW.log {cnt' : Nat} {st' : Bool} {u' : Int} (h : SW w p a l u S s c cnt st op f t R U) (h' : LW w' p a l u' S' s.lb c cnt' st') (hk : Keeps [p, a.s, a.k, a.m, s.lb] w w') : SW w' p a l u' S' s c cnt' st' op f t R U := by
  obtain ⟨n1, n2, n3, _⟩ := h.ne
  exact ⟨h', hk.at h.sec fun hm => n1 (by simp only [List.mem_cons, List.not_mem_nil, or_false] at hm ⊢; rcases hm with e | e | e | e | e <;> simp [e]), h.rm.keep hk fun hm => n2 (by simp only [List.mem_cons, List.not_mem_nil, or_false] at hm ⊢; rcases hm with e | e | e | e | e <;> simp [e]), h.um.keep hk fun hm => n3 (by simp only [List.mem_cons, List.not_mem_nil, or_false] at hm ⊢; rcases hm with e | e | e | e | e <;> simp [e]), h.ru, h.ra, h.ua⟩

/-- Behind steps of the device. -/
theorem SW.next {u' : Int} (h : SW w p a l u S s c cnt st op f t R U) (h' : Pw w' p a l u' S') (hk : Keeps [p, a.s, a.k, a.m] w w') : SW w' p a l u' S' s c cnt st op f t R U := h.log (h.lw.next h' hk) hk.lg

/-- A write into the section's own block. -/
theorem SW.set (h : SW w p a l u S s c cnt st op f t R U) (i : Nat) (v : Value) {op' : Bool} {f' t' : Int}
    (e : (#[ptr s.lb, ptr a.d, .int .i64 c.log, .int .i64 c.roots, .int .i64 c.space, .bool op, .int .i64 f, .int .i64 t, .map (some s.rb), .map (some s.ub)] : Array Value).setIfInBounds i v = #[ptr s.lb, ptr a.d, .int .i64 c.log, .int .i64 c.roots, .int .i64 c.space, .bool op', .int .i64 f', .int .i64 t', .map (some s.rb), .map (some s.ub)]) :
    SW (w.setCell ⟨s.b, i, none⟩ v) p a l u S s c cnt st op' f' t' R U := by
  obtain ⟨n1, _, _, n4, _⟩ := h.ne
  simp only [List.mem_cons, List.not_mem_nil, or_false, not_or] at n1
  have kk : Keeps [s.b] w (w.setCell ⟨s.b, i, none⟩ v) := (Keeps.refl _ _).set (.inl (by simp)) _
  have := h.sec.set i v
  rw [e] at this
  exact ⟨h.lw.keep kk (by simp; omega) (by simp; omega) (by simp; omega) (by simp; omega) (by simp; omega) (by simp; omega), this, h.rm.keep kk (by simp; omega), h.um.keep kk (by simp; omega), h.ru, h.ra, h.ua⟩

/-- A write into what is recorded. -/
theorem SW.setR {R' : Int → Option Value} (h : SW w p a l u S s c cnt st op f t R U) (hm : IMap w' s.rb R') (hk : Keeps [s.rb] w w') : SW w' p a l u S s c cnt st op f t R' U := by
  obtain ⟨_, n2, _, _, n5, _⟩ := h.ne
  simp only [List.mem_cons, List.not_mem_nil, or_false, not_or] at n2
  have x := h.ru
  exact ⟨h.lw.keep hk (by simp; omega) (by simp; omega) (by simp; omega) (by simp; omega) (by simp; omega) (by simp; omega), hk.at h.sec (by simp; omega), hm, h.um.keep hk (by simp; omega), h.ru, h.ra, h.ua⟩

/-- A write into what isn't kept. -/
theorem SW.setU {U' : Int → Option Value} (h : SW w p a l u S s c cnt st op f t R U) (hm : IMap w' s.ub U') (hk : Keeps [s.ub] w w') : SW w' p a l u S s c cnt st op f t R U' := by
  obtain ⟨_, _, n3, _, _, n6⟩ := h.ne
  simp only [List.mem_cons, List.not_mem_nil, or_false, not_or] at n3
  have x := h.ru
  exact ⟨h.lw.keep hk (by simp; omega) (by simp; omega) (by simp; omega) (by simp; omega) (by simp; omega) (by simp; omega), hk.at h.sec (by simp; omega), h.rm.keep hk (by simp; omega), hm, h.ru, h.ra, h.ua⟩

end

/-- How a call of a section's ends: done, the section as told; or cut. -/
def RanS (p : Nat) (a : DA) (l u : Int) (S : DS) (s : Sc) (c : Cfg) (cnt : Nat) (st : Bool) (op : Bool) (f t : Int) (R U : Int → Option Value) (cs : List Cmd) (v : Value) (w : World) (e : Ending) (w' : World) : Prop :=
  (e = .returned v ∧ SW w' p a l (u + (cs.length : Int)) (execs S cs) s c cnt st op f t R U ∧ Keeps (s.bl p a) w w') ∨
  (e = .panicked [{ v := goneV, recovered := false }] ∧ (∃ S', Cut l u S cs S' ∧ Pw w' p a l l S') ∧ Keeps (s.bl p a) w w')

theorem Keeps.lgs {p : Nat} {a : DA} {s : Sc} {w w' : World} (h : Keeps [p, a.s, a.k, a.m, s.lb] w w') : Keeps (s.bl p a) w w' := h.mono (by unfold Sc.bl; intro k _ hk; simp at hk ⊢; omega)
theorem Keeps.dvs {p : Nat} {a : DA} {s : Sc} {w w' : World} (h : Keeps [p, a.s, a.k, a.m] w w') : Keeps (s.bl p a) w w' := h.lg.lgs
theorem Keeps.nos {p : Nat} {a : DA} {s : Sc} {w w' : World} (h : Keeps [] w w') : Keeps (s.bl p a) w w' := h.mono (by simp)
theorem Keeps.ups {p : Nat} {a : DA} {s : Sc} {w w' : World} (h : Keeps [s.ub] w w') : Keeps (s.bl p a) w w' := h.mono (by unfold Sc.bl; intro k _ hk; simp at hk ⊢; omega)
theorem Keeps.rps {p : Nat} {a : DA} {s : Sc} {w w' : World} (h : Keeps [s.rb] w w') : Keeps (s.bl p a) w w' := h.mono (by unfold Sc.bl; intro k _ hk; simp at hk ⊢; omega)

section
variable {w w' : World} {p : Nat} {a : DA} {l u u' : Int} {S S' : DS} {s : Sc} {c : Cfg} {cnt : Nat} {st : Bool} {op : Bool} {f t : Int} {R U : Int → Option Value} {cs : List Cmd} {v : Value} {e : Ending}

theorem ranS_end (h : SW w' p a l u' S' s c cnt st op f t R U) (hu : u' = u + (cs.length : Int)) (hS : S' = execs S cs) (hk : Keeps (s.bl p a) w w') : RanS p a l u S s c cnt st op f t R U cs v w (.returned v) w' := by
  subst hu hS
  exact .inl ⟨rfl, h, hk⟩

theorem ranS_cut (h : Pw w' p a l l S') (hc : Cut l u S cs S') (hk : Keeps (s.bl p a) w w') : RanS p a l u S s c cnt st op f t R U cs v w (.panicked [{ v := goneV, recovered := false }]) w' :=
  .inr ⟨rfl, ⟨S', hc, h⟩, hk⟩

theorem RanS.free (h : RanS p a (-1) u S s c cnt st op f t R U cs v w e w') (hu : 0 ≤ u) : e = .returned v ∧ SW w' p a (-1) (u + (cs.length : Int)) (execs S cs) s c cnt st op f t R U ∧ Keeps (s.bl p a) w w' := by
  rcases h with h | ⟨_, ⟨_, ⟨_, _, _, _, _, hl⟩, _⟩, _⟩
  · exact h
  · omega

end

/-- An empty struct. -/
abbrev unitV : Value := .agg #[]
/-- A word's line is marked. -/
def mkU (U : Int → Option Value) (i : Nat) : Int → Option Value := fun z => if z = ((i / 8 : Nat) : Int) then some unitV else U z
theorem mkU_eq (U : Int → Option Value) (i : Nat) : mkU U i = fun z => if z = ((i / 8 : Nat) : Int) then some unitV else U z := rfl

section
variable {w w' : World} {p : Nat} {a : DA} {l u u' : Int} {S S' : DS} {s : Sc} {c : Cfg} {cnt : Nat} {st : Bool} {op : Bool} {f t : Int} {R U : Int → Option Value} {cs : List Cmd} {v : Value} {e : Ending}

set_option maxHeartbeats 1000000 in
theorem mark_at (h : SW w p a l u S s c cnt st op f t R U) (i : Nat) (hi : i ≤ 100000) :
    Calls Tryz.prog 76 #[ptr s.b, .int .i64 i] w fun e w' => e = .returned (.tuple #[]) ∧ SW w' p a l u S s c cnt st op f t R (mkU U i) ∧ Keeps [s.ub] w w' := by
  have c9 := h.sec.cell 9 rfl
  have hib : (i : Int) ≤ 100000 := by omega
  rw [mkU_eq]
  obtain ⟨k, hk⟩ : ∃ k, k = i / 8 := ⟨_, rfl⟩
  have e8 : (i : Int) / 8 = (k : Int) := by omega
  rw [← hk]
  clear hk
  go_enter Tryz.func76, Tryz.ntmps76
  go_wp2_with (at_mapUpdate; refine wpList_update_at rfl _ _ _ _ rfl 3 97 Tryz.underlying119 Tryz.underlying3 s.ub _ rfl h.um (k : Int) _ rfl rfl ?_; intro w1 hm1 hk1)
  go_end0
  exact ⟨rfl, h.setU hm1 hk1, hk1⟩

set_option maxHeartbeats 400000 in
theorem sopen_at (h : SW w p a l u S s c cnt st op f t R U) :
    Calls Tryz.prog 68 #[ptr s.b] w fun e w' => e = .returned (.bool op) ∧ w = w' := by
  have c5 := h.sec.cell 5 rfl
  go_enter Tryz.func68, Tryz.ntmps68
  go_wp2
  go_ret
  exact ⟨rfl, rfl⟩

/-- Is a word fresh? -/
def freshB (f t i : Int) : Bool := decide (f ≤ i) && decide (i < t)

set_option maxHeartbeats 1000000 in
theorem shas_at (w : World) (f t i : Int) :
    Calls Tryz.prog 92 #[spV f t, .int .i64 i] w fun e w' => e = .returned (.bool (freshB f t i)) ∧ w.alloc (spO f t) = w' := by
  unfold freshB
  by_cases h1 : f ≤ i
  · have t1 : decide (f ≤ i) = true := by rw [decide_eq_true_eq]; exact h1
    rw [t1]
    have hH := hid h1
    clear h1
    go_enter Tryz.func92, Tryz.ntmps92
    go_wp2
    go_ret
    simp
  · have t1 : decide (f ≤ i) = false := by rw [decide_eq_false_iff_not]; exact h1
    rw [t1]
    have hH := hid h1
    clear h1
    go_enter Tryz.func92, Tryz.ntmps92
    go_wp2
    go_ret
    simp

end

end Go.Proofs.YtcdlikblebdfkaaGreat
