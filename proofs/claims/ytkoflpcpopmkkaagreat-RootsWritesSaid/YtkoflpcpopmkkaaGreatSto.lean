/- Words are stored by any function: what is asked of it; put and Write of the root block by it. -/
import Derived.Test.YtkoflpcpopmkkaaGreatRts
import Derived.Deep.RegionHeld2
namespace Go.Proofs.YtkoflpcpopmkkaaGreat
open Go.RowKit Go.OpenShut

/-- What is asked of a function by which words are stored: its states s, the device that each has, the blocks that it may turn, what holds in a world behind at most so many stores, what a store of a word makes of a state and answers, what holds where it panics by power that goes. -/
structure Storer (F : Nat) (first cap : Array Value) (a : DA) {σ : Type} (now : σ → DS) (own : σ → List Nat) (N : Nat) (J : Nat → σ → World → Prop) (T : σ → Nat → Int → Int → σ → Prop) (G : σ → Nat → Int → World → Prop) : Prop where
  inv : ∀ (w : World) (i v : Int), (callFunc F (first ++ (#[.int .i64 i, .int .u64 v] ++ cap))).run Tryz.prog w = .ok (.enter F (first ++ (#[.int .i64 i, .int .u64 v] ++ cap))) w
  dev : ∀ n s w, J n s w → ∃ p, Dev w p a (now s)
  keep : ∀ n s w w', J n s w → Keeps [] w w' → J n s w'
  more : ∀ n s w, J n s w → J (n + 1) s w
  call : ∀ n s w (i : Nat) (v : Int), n < N → J n s w → i < a.n → Calls Tryz.prog F (first ++ (#[.int .i64 i, .int .u64 v] ++ cap)) w fun e w' =>
    (∃ code s', e = .returned (.int .i64 code) ∧ T s i v code s' ∧ J (n + 1) s' w' ∧ Keeps (own s) w w' ∧ ∀ b ∈ own s', b ∈ own s ∨ w.heap.size ≤ b) ∨
    (e = .panicked [{ v := goneV, recovered := false }] ∧ G s i v w')

section
variable {F : Nat} {first cap : Array Value} {a : DA} {σ : Type} {now : σ → DS} {own : σ → List Nat} {N : Nat} {J : Nat → σ → World → Prop} {T : σ → Nat → Int → Int → σ → Prop} {G : σ → Nat → Int → World → Prop}

/-- A word that is put: it stands, or it is stored. -/
def PutT (now : σ → DS) (T : σ → Nat → Int → Int → σ → Prop) (s : σ) (i : Nat) (v : Int) (code : Int) (s' : σ) : Prop :=
  ((now s).now i = v ∧ code = 0 ∧ s' = s) ∨ ((now s).now i ≠ v ∧ T s i v code s')

/-- Words that are put, in a row, up to an error. -/
def WrT (now : σ → DS) (T : σ → Nat → Int → Int → σ → Prop) : List (Nat × Int) → σ → Int → σ → Prop
  | [], s, code, s' => code = 0 ∧ s' = s
  | (i, v) :: l, s, code, s' => ∃ c1 s1, PutT now T s i v c1 s1 ∧ ((c1 ≠ 0 ∧ code = c1 ∧ s' = s1) ∨ (c1 = 0 ∧ WrT now T l s1 code s'))

/-- Words that are put, in a row, the power going within. -/
def WrG (now : σ → DS) (T : σ → Nat → Int → Int → σ → Prop) (G : σ → Nat → Int → World → Prop) : List (Nat × Int) → σ → World → Prop
  | [], _, _ => False
  | (i, v) :: l, s, w => ((now s).now i ≠ v ∧ G s i v w) ∨ ∃ s1, PutT now T s i v 0 s1 ∧ WrG now T G l s1 w

theorem WrT.app : ∀ {A B : List (Nat × Int)} {s s1 s2 : σ} {code : Int}, WrT now T A s 0 s1 → WrT now T B s1 code s2 → WrT now T (A ++ B) s code s2
  | [], _, _, _, _, _, h, k => by obtain ⟨_, rfl⟩ := h; exact k
  | (i, v) :: A, B, s, s1, s2, code, h, k => by
    obtain ⟨c1, t1, h1, ⟨h2, h3, _⟩ | ⟨h2, h3⟩⟩ := h
    · exact absurd h3.symm h2
    · exact ⟨c1, t1, h1, .inr ⟨h2, h3.app k⟩⟩

theorem WrG.app : ∀ {A B : List (Nat × Int)} {s s1 : σ} {w : World}, WrT now T A s 0 s1 → WrG now T G B s1 w → WrG now T G (A ++ B) s w
  | [], _, _, _, _, h, k => by obtain ⟨_, rfl⟩ := h; exact k
  | (i, v) :: A, B, s, s1, w, h, k => by
    obtain ⟨c1, t1, h1, ⟨h2, h3, _⟩ | ⟨h2, h3⟩⟩ := h
    · exact absurd h3.symm h2
    · subst h2
      exact .inr ⟨t1, h1, WrG.app h3 k⟩

theorem WrG.left : ∀ {A : List (Nat × Int)} {s : σ} {w : World} (B : List (Nat × Int)), WrG now T G A s w → WrG now T G (A ++ B) s w
  | [], _, _, _, h => h.elim
  | (i, v) :: A, s, w, B, h => by
    rcases h with h | ⟨s1, h1, h2⟩
    · exact .inl h
    · exact .inr ⟨s1, h1, h2.left B⟩

theorem WrT.left : ∀ {A : List (Nat × Int)} {s s1 : σ} {code : Int} (B : List (Nat × Int)), code ≠ 0 → WrT now T A s code s1 → WrT now T (A ++ B) s code s1
  | [], _, _, _, _, h0, h => absurd h.1 h0
  | (i, v) :: A, s, s1, code, B, h0, h => by
    obtain ⟨c1, t1, h1, h2 | ⟨h2, h3⟩⟩ := h
    · exact ⟨c1, t1, h1, .inl h2⟩
    · exact ⟨c1, t1, h1, .inr ⟨h2, h3.left B h0⟩⟩

/-- How a row of puts ends. -/
def StoP (now : σ → DS) (own : σ → List Nat) (J : Nat → σ → World → Prop) (T : σ → Nat → Int → Int → σ → Prop) (G : σ → Nat → Int → World → Prop) (n : Nat) (l : List (Nat × Int)) (s : σ) (w : World) (e : Ending) (w' : World) : Prop :=
  (∃ code s', e = .returned (.int .i64 code) ∧ WrT now T l s code s' ∧ J (n + l.length) s' w' ∧ Keeps (own s) w w' ∧ ∀ b ∈ own s', b ∈ own s ∨ w.heap.size ≤ b) ∨
  (e = .panicked [{ v := goneV, recovered := false }] ∧ WrG now T G l s w')

set_option maxRecDepth 100000 in
set_option maxHeartbeats 1000000 in
theorem put8_at (hF : Storer F first cap a now own N J T G) (n : Nat) (s : σ) (w : World) (hn : n < N) (hJ : J n s w) (i : Nat) (hi : i < a.n) (v : Int) :
    Calls Tryz.prog 73 #[ptr a.d, .int .i64 i, .int .u64 v, .func (.func F) first cap] w (StoP now own J T G n [(i, v)] s w) := by
  obtain ⟨p, hD⟩ := hF.dev n s w hJ
  have hinv := hF.inv
  have HC := hid (hF.call n s w i v hn hJ hi)
  have HL := hid (load_in w p a (now s) i hD hi)
  have HM := hid (hF.more n s w hJ)
  obtain ⟨x, hx⟩ : ∃ x, x = (now s).now i := ⟨_, rfl⟩
  rw [← hx] at HL
  have HX := hid hx
  clear hx hD hJ
  by_cases hxv : x = v
  · subst hxv
    go_enter Tryz.func73, Tryz.ntmps73
    go_wp2_with fail
    refine HL.out.mono ?_
    rintro e w1 ⟨rfl, rfl⟩
    go_wp2_with fail
    go_ret
    exact .inl ⟨0, s, rfl, ⟨0, s, .inl ⟨HX.out.symm, rfl, rfl⟩, .inr ⟨rfl, rfl, rfl⟩⟩, HM.out, Keeps.refl _ _, fun b hb => .inl hb⟩
  · have t1 : (x == v) = false := by rw [beq_eq_false_iff_ne]; exact hxv
    have HXV := hid hxv
    clear hxv
    go_enter Tryz.func73, Tryz.ntmps73
    go_wp2_with fail
    refine HL.out.mono ?_
    rintro e w1 ⟨rfl, rfl⟩
    go_wp2_with fail
    refine HC.out.mono ?_
    rintro e w1 (⟨code, s', rfl, h1, h2, h3, h4⟩ | ⟨rfl, h1⟩)
    · go_wp2_with fail
      go_ret
      refine .inl ⟨code, s', rfl, ⟨code, s', .inr ⟨fun e => HXV.out (HX.out.trans e), h1⟩, ?_⟩, h2, h3, h4⟩
      by_cases hc : code = 0
      · exact .inr ⟨hc, hc, rfl⟩
      · exact .inl ⟨hc, rfl, rfl⟩
    · go_wp2_with fail
      exact ⟨rfl, .inr ⟨rfl, .inl ⟨fun e => HXV.out (HX.out.trans e), h1⟩⟩⟩

/-- What a block's words are, as it is written: Active, Used, the roots. -/
def blkW (c : Cfg) (k u : Int) (n : Nat) (f : Nat → Int) : List (Nat × Int) := (c.act, k) :: (c.act + 1, u) :: (List.range n).map fun i => (c.root i, f i)

theorem blkW_len (c : Cfg) (k u : Int) (n : Nat) (f : Nat → Int) : (blkW c k u n f).length = n + 2 := by simp [blkW]
theorem blkW_zero (c : Cfg) (k u : Int) (f : Nat → Int) : blkW c k u 0 f = [(c.act, k)] ++ [(c.act + 1, u)] := rfl
theorem blkW_succ (c : Cfg) (k u : Int) (n : Nat) (f : Nat → Int) : blkW c k u (n + 1) f = blkW c k u n f ++ [(c.root n, f n)] := by simp [blkW, List.range_succ]
theorem blkW_split (c : Cfg) (k u : Int) {m n : Nat} (h : m ≤ n) (f : Nat → Int) : ∃ R, blkW c k u n f = blkW c k u m f ++ R := by
  refine ⟨(blkW c k u n f).drop (m + 2), ?_⟩
  have e : blkW c k u m f = (blkW c k u n f).take (m + 2) := by
    simp only [blkW, List.take_succ_cons]
    rw [← List.map_take, List.take_range, Nat.min_eq_left h]
  rw [e, List.take_append_drop]

/-- So many puts done. -/
def StoR (now : σ → DS) (own : σ → List Nat) (J : Nat → σ → World → Prop) (T : σ → Nat → Int → Int → σ → Prop) (n : Nat) (l : List (Nat × Int)) (s : σ) (w : World) (w' : World) : Prop :=
  ∃ s', WrT now T l s 0 s' ∧ J (n + l.length) s' w' ∧ Keeps (own s) w w' ∧ ∀ b ∈ own s', b ∈ own s ∨ w.heap.size ≤ b

theorem sto_put {l : List (Nat × Int)} {s s1 s2 : σ} {w0 wx w2 w3 : World} {i : Nat} {v code : Int} (h1 : WrT now T l s 0 s1) (hk : Keeps (own s) w0 wx) (ho : ∀ b ∈ own s1, b ∈ own s ∨ w0.heap.size ≤ b) (hkk : Keeps [] wx w2)
    (h2 : WrT now T [(i, v)] s1 code s2) (hk2 : Keeps (own s1) w2 w3) (ho2 : ∀ b ∈ own s2, b ∈ own s1 ∨ w2.heap.size ≤ b) :
    WrT now T (l ++ [(i, v)]) s code s2 ∧ Keeps (own s) w0 w3 ∧ ∀ b ∈ own s2, b ∈ own s ∨ w0.heap.size ≤ b := by
  have hk3 := hk.trans (hkk.mono (by simp))
  refine ⟨h1.app h2, hk3.new hk2 ho, fun b hb => ?_⟩
  rcases ho2 b hb with h | h
  · exact ho b h
  · exact .inr (Nat.le_trans hk3.size h)

theorem Storer.mores (hF : Storer F first cap a now own N J T G) {n : Nat} {s : σ} {w : World} (h : J n s w) : ∀ k, J (n + k) s w
  | 0 => h
  | k + 1 => hF.more _ _ _ (hF.mores h k)

/-- The end of Write. -/
theorem sto_end (hF : Storer F first cap a now own N J T G) {n : Nat} {l R : List (Nat × Int)} {s s2 : σ} {w w0 w3 : World} {code : Int} (hw : Keeps [] w w0) (h1 : WrT now T l s code s2) (hJ : J (n + l.length) s2 w3) (hk : Keeps (own s) w0 w3) (ho : ∀ b ∈ own s2, b ∈ own s ∨ w0.heap.size ≤ b) (hc : R = [] ∨ code ≠ 0) :
    StoP now own J T G n (l ++ R) s w (.returned (.int .i64 code)) w3 := by
  refine .inl ⟨code, s2, rfl, ?_, by rw [List.length_append, ← Nat.add_assoc]; exact hF.mores hJ _, (hw.mono (by simp)).trans hk, fun b hb => ?_⟩
  · rcases hc with rfl | hc
    · rwa [List.append_nil]
    · exact h1.left R hc
  · rcases ho b hb with h | h
    · exact .inl h
    · exact .inr (Nat.le_trans hw.size h)

set_option maxRecDepth 100000 in
set_option maxHeartbeats 4000000 in
theorem rwrite_at (hF : Storer F first cap a now own N J T G) (n : Nat) (s : σ) (w : World) (hJ : J n s w) (c : Cfg) (hc : c.Ok) (hcn : c.words = a.n) (k u : Nat) (hk : k ≤ 1) (hu : u ≤ c.space) (x : Option Addr) (cp : Nat) (f : Nat → Int)
    (hN : n + c.roots + 2 ≤ N) (hx : Reads w x c.roots f) (hxo : ∀ b off, x = some ⟨b, off, none⟩ → b ∉ own s ∧ b < w.heap.size) (ho : ∀ b ∈ own s, b < w.heap.size) :
    Calls Tryz.prog 43 #[ptr a.d, cfgV c, bkV k u (.slice x c.roots cp), .func (.func F) first cap] w (StoP now own J T G n (blkW c k u c.roots f) s w) := by
  have hs := hc.small
  have hci := c_in hc hcn
  obtain ⟨q1, q2, q3, q4⟩ := places hc
  have hai : (c.act : Int) ≤ 823 := by have := act_le hs; omega
  have hri : (c.roots : Int) ≤ 16 := by have := hc.2.1; omega
  have hki : (k : Int) ≤ 1 := by omega
  have hui : (u : Int) ≤ 4096 := by have := hs.2.2; omega
  have hin : Hid (c.act + 2 + c.roots ≤ a.n) := by rw [← hcn]; exact q2
  have HJ := hid hJ
  have HO := hid ho
  have HX := hid hx
  have HXO := hid hxo
  have HNN := hid hN
  clear q1 q2 q3 q4 hci hJ ho hx hxo hc hcn hk hu hN
  go_enter Tryz.func43, Tryz.ntmps43
  go_upto_region 1 with fail
  have hC0 := (At.new w (cfgO c)).alloc (bkO k u (.slice x c.roots cp))
  have hB0 := At.new (w.alloc (cfgO c)) (bkO k u (.slice x c.roots cp))
  have K0 := ((Keeps.refl [] w).alloc (cfgO c)).alloc (bkO k u (.slice x c.roots cp))
  rw [show (w.alloc (cfgO c)).heap.size = w.heap.size + 1 by simp] at hB0
  obtain ⟨w0, hw0⟩ : ∃ w0, w0 = (w.alloc (cfgO c)).alloc (bkO k u (.slice x c.roots cp)) := ⟨_, rfl⟩
  rw [← hw0] at hB0 hC0 K0 ⊢
  clear hw0
  have HJ0 := hid (hF.keep _ _ _ _ HJ.out K0)
  have HX0 := hid (HX.out.keep K0 (by simp))
  have HNC : Hid (w.heap.size ∉ own s ∧ w.heap.size + 1 ∉ own s) := ⟨fun h => by have := HO.out _ h; omega, fun h => by have := HO.out _ h; omega⟩
  have hinv := hF.inv
  -- what a world behind some puts has
  have HCB : Hid (∀ w', Keeps (own s) w0 w' → (w'.cell? ⟨w.heap.size, 0, none⟩ = some (.int .i64 c.log) ∧ w'.cell? ⟨w.heap.size, 1, none⟩ = some (.int .i64 c.roots) ∧ w'.cell? ⟨w.heap.size, 2, none⟩ = some (.int .i64 c.space) ∧ w'.cell? ⟨w.heap.size + 1, 0, none⟩ = some (.int .i64 k) ∧ w'.cell? ⟨w.heap.size + 1, 1, none⟩ = some (.int .i64 u) ∧ w'.cell? ⟨w.heap.size + 1, 2, none⟩ = some (.slice x c.roots cp))) := fun w' hk => by
    have h1 := hk.at hC0 HNC.out.1
    have h2 := hk.at hB0 HNC.out.2
    exact ⟨h1.cell 0 rfl, h1.cell 1 rfl, h1.cell 2 rfl, h2.cell 0 rfl, h2.cell 1 rfl, h2.cell 2 rfl⟩
  have HPU : Hid (∀ (m : Nat) (s1 : σ) (wx w' : World) (i : Nat) (z v : Int), m < N → J m s1 wx → Keeps [] wx w' → i < a.n → z = (i : Int) → Calls Tryz.prog 73 #[ptr a.d, .int .i64 z, .int .u64 v, .func (.func F) first cap] w' (StoP now own J T G m [(i, v)] s1 w')) := fun m s1 wx w' i z v hm hj hk hi hz => by
    subst hz
    exact put8_at hF m s1 w' hm (hF.keep _ _ _ _ hj hk) i hi v
  clear hC0 hB0
  have EK := hid (show IntKind.u64.wrap (k : Int) = (k : Int) from IntWalk.u64_in _ (by omega))
  have EU := hid (show IntKind.u64.wrap (u : Int) = (u : Int) from IntWalk.u64_in _ (by omega))
  have kk : Keeps [] w0 w0.drew := (Keeps.refl _ _).drew
  go_region_held2 (fun w' => (w'.cell? ⟨w.heap.size, 0, none⟩ = some (.int .i64 c.log) ∧ w'.cell? ⟨w.heap.size, 1, none⟩ = some (.int .i64 c.roots) ∧ w'.cell? ⟨w.heap.size, 2, none⟩ = some (.int .i64 c.space) ∧ w'.cell? ⟨w.heap.size + 1, 0, none⟩ = some (.int .i64 k) ∧ w'.cell? ⟨w.heap.size + 1, 1, none⟩ = some (.int .i64 u) ∧ w'.cell? ⟨w.heap.size + 1, 2, none⟩ = some (.slice x c.roots cp)))
    (first | exact HCB.out _ ((kk.mono (by simp)).trans hk1) | exact HCB.out _ (kk.mono (by simp)))
    (first
      | (go_at_call 27; refine (active_at _ c hs).mono ?_; rintro e w' ⟨rfl, hk1⟩; have kk := kk.trans hk1; clear hk1)
      | (go_at_call 73; rw [EK.out]; refine (HPU.out n s _ _ c.act _ _ (by have := HNN.out; omega) HJ0.out kk (by have := hin.out; omega) rfl).mono ?_; rintro e w1 (⟨c1, s1, rfl, ht1, hj1, hk1, ho1⟩ | ⟨rfl, hg1⟩); rotate_left; exact ⟨rfl, .inr ⟨rfl, (hg1.left _)⟩⟩))
  rename_i hHd
  clear hHd
  have R1 : Keeps (own s) w0 w1 := (kk.mono (by simp)).trans hk1
  have HO1 : Hid (∀ b ∈ own s1, b ∈ own s ∨ w0.heap.size ≤ b) := fun b hb => (ho1 b hb).imp id fun h => Nat.le_trans kk.size h
  have HT1 := hid ht1
  have HJ1 := hid hj1
  have HR1 := hid R1
  have HRS : Hid (∃ R, blkW c k u c.roots f = [(c.act, (k : Int))] ++ R) := ⟨_, rfl⟩
  clear ht1 hj1 hk1 ho1 R1 kk
  by_cases hc1 : c1 = 0
  case neg =>
    have t1 : (c1 == 0) = false := by rw [beq_eq_false_iff_ne]; exact hc1
    have t2 : (c1 != 0) = true := by simp [bne, t1]
    have HC1 := hid hc1
    clear hc1
    go_wp2_with fail
    go_ret
    obtain ⟨R, hR⟩ := HRS.out
    rw [hR]
    exact sto_end hF K0 HT1.out HJ1.out HR1.out HO1.out (.inr HC1.out)
  subst hc1
  clear HRS
  go_upto_region 4 with fail
  have kk : Keeps [] w1 w1.drew := (Keeps.refl _ _).drew
  go_region_held2 (fun w' => (w'.cell? ⟨w.heap.size, 0, none⟩ = some (.int .i64 c.log) ∧ w'.cell? ⟨w.heap.size, 1, none⟩ = some (.int .i64 c.roots) ∧ w'.cell? ⟨w.heap.size, 2, none⟩ = some (.int .i64 c.space) ∧ w'.cell? ⟨w.heap.size + 1, 0, none⟩ = some (.int .i64 k) ∧ w'.cell? ⟨w.heap.size + 1, 1, none⟩ = some (.int .i64 u) ∧ w'.cell? ⟨w.heap.size + 1, 2, none⟩ = some (.slice x c.roots cp)))
    (first | exact HCB.out _ (sto_put HT1.out HR1.out HO1.out kk ht2 hk2 ho2).2.1 | exact HCB.out _ (HR1.out.trans (kk.mono (by simp))))
    (first
      | (go_at_call 37; refine (usedw_at _ c hs).mono ?_; rintro e w' ⟨rfl, hk1⟩; have kk := kk.trans hk1; clear hk1)
      | (go_at_call 73; rw [EU.out]; refine (HPU.out (n + 1) s1 _ _ (c.act + 1) _ _ (by have := HNN.out; omega) HJ1.out kk (by have := hin.out; omega) (by simp)).mono ?_; rintro e w2 (⟨c2, s2, rfl, ht2, hj2, hk2, ho2⟩ | ⟨rfl, hg2⟩); rotate_left; exact ⟨rfl, .inr ⟨rfl, (show WrG now T G ([(c.act, (k : Int))] ++ ([(c.act + 1, (u : Int))] ++ _)) s _ from WrG.app HT1.out (hg2.left _))⟩⟩))
  rename_i hHd
  clear hHd
  obtain ⟨x1, x2, x3⟩ := sto_put HT1.out HR1.out HO1.out kk ht2 hk2 ho2
  have HT2 := hid x1
  have HR2 := hid x2
  have HO2 := hid x3
  have HJ2 := hid hj2
  have HRS : Hid (∃ R, blkW c k u c.roots f = ([(c.act, (k : Int))] ++ [(c.act + 1, (u : Int))]) ++ R) := ⟨_, rfl⟩
  clear x1 x2 x3 ht2 hj2 hk2 ho2 kk HT1 HR1 HO1 HJ1
  by_cases hc2 : c2 = 0
  case neg =>
    have t1 : (c2 == 0) = false := by rw [beq_eq_false_iff_ne]; exact hc2
    have t2 : (c2 != 0) = true := by simp [bne, t1]
    have HC2 := hid hc2
    clear hc2
    go_wp2_with fail
    go_ret
    obtain ⟨R, hR⟩ := HRS.out
    rw [hR]
    exact sto_end hF K0 HT2.out HJ2.out HR2.out HO2.out (.inr HC2.out)
  subst hc2
  clear HRS
  obtain ⟨z1, z2, z3, z4, z5, z6⟩ := HCB.out _ HR2.out
  go_wp2_with fail
  clear z1 z2 z3 z4 z5 z6
  go_loopg [39] c.roots (fun r sl wr => ∃ m : Nat, m + r = c.roots ∧ sl = .int .i64 m ∧ StoR now own J T n (blkW c k u m f) s w0 wr)
  case atStart =>
    refine ⟨0, by omega, rfl, s2, HT2.out, ?_, HR2.out, HO2.out⟩
    exact HJ2.out
  case round =>
    obtain ⟨m, hm, rfl, s3, ht3, hj3, hr3, ho3⟩ := hrel
    have HT3 := hid ht3
    have HJ3 := hid hj3
    have HR3 := hid hr3
    have HO3 := hid ho3
    clear ht3 hj3 hr3 ho3
    by_cases hlt : m < c.roots
    · obtain ⟨b, off, rfl, hb, hcl⟩ : ∃ b off, x = some ⟨b, off, none⟩ ∧ b < w0.heap.size ∧ ∀ i, i < c.roots → w0.cell? ⟨b, off + i, none⟩ = some (.int .u64 (f i)) := by
        rcases HX0.out with h | h
        · omega
        · exact h
      obtain ⟨z1, z2, z3, z4, z5, z6⟩ := HCB.out _ HR3.out
      have d0 : wr.cell? ⟨b, off + m, none⟩ = some (.int .u64 (f m)) := by
        rw [HR3.out.cell hb (HXO.out b off rfl).1]
        exact hcl m hlt
      have hmi : (m : Int) < (c.roots : Int) := by omega
      have hmb : (m : Int) ≤ 16 := by omega
      have HM := hid hm
      have HLT := hid hlt
      obtain ⟨fm, hfm⟩ : ∃ fm, fm = f m := ⟨_, rfl⟩
      rw [← hfm] at d0
      have HFM := hid hfm
      clear hm hcl hb hfm
      go_wp2_with fail
      refine (root_at _ c hs m (by omega)).mono ?_
      rintro e w4 ⟨rfl, hk4⟩
      have K4 := hk4
      clear hk4
      go_wp2_with fail
      refine (HPU.out (n + (blkW c k u m f).length) s3 _ _ (c.root m) _ _ (by have := HNN.out; rw [blkW_len]; omega) HJ3.out K4 (by have := hin.out; unfold Cfg.root; omega) rfl).mono ?_
      rintro e w5 (⟨c5, s5, rfl, ht5, hj5, hk5, ho5⟩ | ⟨rfl, hg5⟩)
      · obtain ⟨x1, x2, x3⟩ := sto_put HT3.out HR3.out HO3.out K4 ht5 hk5 ho5
        rw [HFM.out, ← blkW_succ] at x1
        have HT5 := hid x1
        have HR5 := hid x2
        have HO5 := hid x3
        have HJ5 : Hid (J (n + (blkW c k u (m + 1) f).length) s5 w5) := by
          show J _ _ _
          rw [blkW_succ, List.length_append, ← Nat.add_assoc]; exact hj5
        clear x1 x2 x3 ht5 hj5 hk5 ho5 K4 z1 z2 z3 z4 z5 z6 d0
        by_cases hc5 : c5 = 0
        · subst hc5
          go_wp2_with fail
          go_roundg (c.roots - (m + 1))
          case measure => (have := HM.out; omega)
          case rel => exact ⟨m + 1, by have := HM.out; omega, by go_num, s5, HT5.out, HJ5.out, HR5.out, HO5.out⟩
        · have t1 : (c5 == 0) = false := by rw [beq_eq_false_iff_ne]; exact hc5
          have t2 : (c5 != 0) = true := by simp [bne, t1]
          have HC5 := hid hc5
          clear hc5
          go_wp2_with fail
          go_ret
          obtain ⟨R, hR⟩ := blkW_split c k u (show m + 1 ≤ c.roots from HLT.out) f
          rw [hR]
          exact sto_end hF K0 HT5.out HJ5.out HR5.out HO5.out (.inr HC5.out)
      · go_wp2_with fail
        obtain ⟨R, hR⟩ := blkW_split c k u (show m + 1 ≤ c.roots from HLT.out) f
        refine ⟨rfl, .inr ⟨rfl, ?_⟩⟩
        rw [hR, blkW_succ, List.append_assoc]
        refine WrG.app HT3.out (WrG.left _ ?_)
        rw [← HFM.out]
        exact hg5
    · have hme : m = c.roots := by omega
      subst hme
      clear hlt hm
      go_wp2_with fail
      go_ret
      have := sto_end (R := []) hF K0 HT3.out HJ3.out HR3.out HO3.out (.inl rfl)
      rwa [List.append_nil] at this

end

end Go.Proofs.YtkoflpcpopmkkaaGreat
