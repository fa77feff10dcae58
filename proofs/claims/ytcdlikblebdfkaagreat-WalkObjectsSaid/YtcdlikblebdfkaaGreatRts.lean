/- The root block: places, which words it has, read, written word by word by any function. -/
import Derived.Test.YtcdlikblebdfkaaGreatP6
import Derived.Test.YtcdlikblebdfkaaGreatReg
import Derived.Test.YtcdlikblebdfkaaGreatLaw6
import Derived.Maps.AppendAt
namespace Go.Proofs.YtcdlikblebdfkaaGreat
open Go.RowKit Go.OpenShut

/-- A root block, as a value and in a box. -/
abbrev bkV (k u : Int) (rs : Value) : Value := .agg #[.int .i64 k, .int .i64 u, rs]
abbrev bkO (k u : Int) (rs : Value) : Obj := .cells #[.int .i64 k, .int .i64 u, rs] 33

theorem frm_le {c : Cfg} (h : c.Small) {k : Nat} (hk : k ≤ 2) : c.frm k ≤ 15000 := by
  have h1 := (up8_le (c.root c.roots)).2.1
  have h2 := (up8_le c.space).2.1
  have h3 := act_le h
  obtain ⟨h4, h5, h6⟩ := h
  have h7 : k * up8 c.space ≤ 2 * up8 c.space := Nat.mul_le_mul_right _ hk
  unfold Cfg.frm Cfg.root at *
  omega

set_option maxRecDepth 100000 in
set_option maxHeartbeats 1000000 in
theorem place8_at (w : World) (c : Cfg) (hc : c.Small) (k : Nat) (hk : k ≤ 1) (u : Int) (rs : Value) (i : Int) (hi : -100000 ≤ i ∧ i ≤ 100000) :
    Calls Tryz.prog 15 #[bkV k u rs, cfgV c, .int .i64 i] w fun e w' => e = .returned (.int .i64 ((c.frm k : Int) + i)) ∧ Keeps [] w w' := by
  have hf : (c.frm k : Int) ≤ 15000 := by have := frm_le hc (show k ≤ 2 by omega); omega
  obtain ⟨f, hfe⟩ : ∃ f, f = c.frm k := ⟨_, rfl⟩
  have C1 := hid (fun w => from_at w c hc k (by omega))
  rw [← hfe] at hf C1 ⊢
  have H := hid (show IntKind.i64.wrap ((f : Int) + i) = (f : Int) + i from IntWalk.i64_in _ (by omega))
  clear hfe
  go_enter Tryz.func15, Tryz.ntmps15
  go_wp2_with fail
  refine (C1.out _).mono ?_
  rintro e w1 ⟨rfl, hK1⟩
  go_wp2_with fail
  go_ret
  exact ⟨rfl, (((Keeps.refl _ _).alloc _).alloc _).trans hK1⟩

/-- Has, by definition. -/
def hasW (c : Cfg) (k u : Nat) (z : Int) : Bool := decide ((c.frm k : Int) ≤ z ∧ z < (c.frm k : Int) + (u : Int))

set_option maxRecDepth 100000 in
set_option maxHeartbeats 1000000 in
theorem has8_at (w : World) (c : Cfg) (hc : c.Small) (k : Nat) (hk : k ≤ 1) (u : Nat) (hu : u ≤ 4096) (rs : Value) (z : Int) (hz : 0 ≤ z ∧ z < 18446744073709551616) :
    Calls Tryz.prog 28 #[bkV k u rs, cfgV c, .int .u64 z] w fun e w' => e = .returned (.bool (hasW c k u z)) ∧ Keeps [] w w' := by
  have hf : (c.frm k : Int) ≤ 15000 := by have := frm_le hc (show k ≤ 2 by omega); omega
  have hui : (u : Int) ≤ 4096 := by omega
  have C1 := hid (fun w => place8_at w c hc k hk u rs 0 (by omega))
  have C2 := hid (fun w => place8_at w c hc k hk u rs u (by omega))
  unfold hasW
  obtain ⟨f, hfe⟩ : ∃ f, f = c.frm k := ⟨_, rfl⟩
  rw [← hfe] at hf C1 C2 ⊢
  have H1 := hid (show IntKind.u64.wrap ((f : Int) + 0) = (f : Int) by rw [Int.add_zero]; exact IntWalk.u64_in _ (by omega))
  have H2 := hid (show IntKind.u64.wrap ((f : Int) + (u : Int)) = (f : Int) + (u : Int) from IntWalk.u64_in _ (by omega))
  clear hfe
  have HZ := hid hz
  by_cases h1 : (f : Int) ≤ z
  · have t1 : decide ((f : Int) ≤ z) = true := decide_eq_true h1
    have T2 := hid (show decide ((f : Int) ≤ z ∧ z < (f : Int) + (u : Int)) = decide (z < (f : Int) + (u : Int)) by simp [h1])
    clear h1
    go_enter Tryz.func28, Tryz.ntmps28
    go_wp2_with fail
    refine (C1.out _).mono ?_
    rintro e w1 ⟨rfl, hK1⟩
    have K0 := (((Keeps.refl [] w).alloc (bkO k u rs)).alloc (cfgO c))
    have hA := hK1.at ((At.new w (bkO k u rs)).alloc (cfgO c)) (by simp)
    have hB := hK1.at (At.new (w.alloc (bkO k u rs)) (cfgO c)) (by simp)
    rw [show (w.alloc (bkO k u rs)).heap.size = w.heap.size + 1 by simp] at hB
    have a0 := hA.cell 0 rfl
    have a1 := hA.cell 1 rfl
    have a2 := hA.cell 2 rfl
    have b0 := hB.cell 0 rfl
    have b1 := hB.cell 1 rfl
    have b2 := hB.cell 2 rfl
    go_wp2_with fail
    refine (C2.out _).mono ?_
    rintro e w2 ⟨rfl, hK2⟩
    go_wp2_with fail
    go_ret
    exact ⟨by rw [T2.out]; rfl, (K0.trans hK1).trans hK2⟩
  · have t1 : decide ((f : Int) ≤ z) = false := decide_eq_false h1
    have T2 := hid (show decide ((f : Int) ≤ z ∧ z < (f : Int) + (u : Int)) = false by simp [h1])
    clear h1
    go_enter Tryz.func28, Tryz.ntmps28
    go_wp2_with fail
    refine (C1.out _).mono ?_
    rintro e w1 ⟨rfl, hK1⟩
    have K0 := (((Keeps.refl [] w).alloc (bkO k u rs)).alloc (cfgO c))
    go_wp2_with fail
    go_ret
    exact ⟨by rw [T2.out]; rfl, K0.trans hK1⟩

theorem OwnU.low {w : World} {B B' : Nat} {x : Option Addr} {cp n : Nat} {f : Nat → Int} (h : OwnU w B x cp n f) (hb : B' ≤ B) : OwnU w B' x cp n f := by
  obtain ⟨h0, h1 | ⟨g, cap, cur, h1, h2, h3⟩⟩ := h
  · exact ⟨h0, .inl h1⟩
  · exact ⟨h0, .inr ⟨g, cap, cur, h1, Nat.le_trans hb h2, h3⟩⟩

theorem OwnU.eq {w : World} {B : Nat} {x : Option Addr} {cp n : Nat} {f g : Nat → Int} (h : OwnU w B x cp n f) (he : ∀ i, i < n → f i = g i) : OwnU w B x cp n g := by
  have e : ((List.range n).map fun i => Value.int .u64 (f i)) = ((List.range n).map fun i => Value.int .u64 (g i)) :=
    List.map_congr_left fun i hi => by rw [he i (List.mem_range.1 hi)]
  unfold OwnU at h ⊢
  rwa [e] at h

/-- A block with so many roots read. -/
def RowB (bb : Nat) (k u : Int) (m : Nat) (f : Nat → Int) (w1 wx : World) : Prop :=
  ∃ x cp, At wx bb (bkO k u (.slice x m cp)) ∧ OwnU wx (bb + 1) x cp m f ∧ Keeps [bb] w1 wx

theorem rowB_end {bb : Nat} {k u : Int} {m : Nat} {f : Nat → Int} {t : Int} {w1 w2 w3 : World} {x : Option Addr} {cp g c2 : Nat} {v : Value} (hb : bb + 1 ≤ w1.heap.size) (hA : At w2 bb (bkO k u v)) (hk : Keeps [bb] w1 w2) (hO : OwnU w2 (bb + 1) x cp m f)
    (hO3 : OwnU w3 (bb + 1) (some ⟨g, 0, none⟩) c2 (m + 1) (put f m t)) (ht : t = f m) (hk3 : Keeps (blkL x) w2 w3) (hx : ∀ b ∈ blkL x, w1.heap.size ≤ b) : RowB bb k u (m + 1) f w1 (w3.setCell ⟨bb, 2, none⟩ (.slice (some ⟨g, 0, none⟩) (m + 1) c2)) := by
  have hbx : bb ∉ blkL x := fun h => by have := hx _ h; omega
  have hg := hO3.ge g (by simp [blkL])
  have hA3 := (hk3.at hA hbx).set 2 (.slice (some ⟨g, 0, none⟩) (m + 1) c2)
  refine ⟨some ⟨g, 0, none⟩, c2, hA3, ?_, ?_⟩
  · have e : OwnU w3 (bb + 1) (some ⟨g, 0, none⟩) c2 (m + 1) f := hO3.eq fun i hi => by
      by_cases h : i = m
      · subst h; rw [put_on, ht]
      · rw [put_off _ _ h]
    exact e.keep ((Keeps.refl [bb] w3).set (.inl (by simp)) _) (by simp [blkL]; omega)
  · exact (hk.new hk3 fun b h => .inr (hx b h)).set (.inl (by simp)) _

/-- A word, its place a whole number as it comes. -/
theorem loadI_in (w : World) (p : Nat) (a : DA) (S : DS) (z : Int) (h : Dev w p a S) (hz : 0 ≤ z ∧ z < a.n) :
    Calls Tryz.prog 30 #[ptr a.d, .int .i64 z] w fun e w' => e = .returned (.int .u64 (S.now z.toNat)) ∧ w = w' := by
  obtain ⟨n, rfl⟩ : ∃ n : Nat, (n : Int) = z := ⟨z.toNat, by omega⟩
  rw [Int.toNat_natCast]
  exact load_in w p a S n h (by omega)

/-- What Read answers. -/
def RdBlk (S : DS) (c : Cfg) (w : World) (e : Ending) (w' : World) : Prop :=
  ((1 < S.now c.act ∨ (c.space : Int) < S.now (c.act + 1)) ∧ e = .returned (.tuple #[bkV 0 0 (.slice none 0 0), .int .i64 10]) ∧ Keeps [] w w') ∨
  (∃ (k u : Nat) (x : Option Addr) (cp : Nat), k ≤ 1 ∧ u ≤ c.space ∧ S.now c.act = (k : Int) ∧ S.now (c.act + 1) = (u : Int) ∧
    e = .returned (.tuple #[bkV k u (.slice x c.roots cp), .int .i64 0]) ∧ OwnU w' w.heap.size x cp c.roots (fun i => S.now (c.root i)) ∧ Keeps [] w w')

set_option maxRecDepth 100000 in
set_option maxHeartbeats 4000000 in
theorem rread_at (w : World) (p : Nat) (a : DA) (S : DS) (c : Cfg) (h : Dev w p a S) (hc : c.Ok) (hn : c.words = a.n) (h1 : 0 ≤ S.now c.act) (h2 : 0 ≤ S.now (c.act + 1)) :
    Calls Tryz.prog 18 #[ptr a.d, cfgV c] w (RdBlk S c w) := by
  have hs := hc.small
  have hci := c_in hc hn
  have hw := words_ge hc
  obtain ⟨q1, q2, q3, q4⟩ := places hc
  have hai : (c.act : Int) ≤ 823 := by have := act_le hs; omega
  have hri : (c.roots : Int) ≤ 16 := by have := hc.2.1; omega
  have hsi : (c.space : Int) ≤ 4096 := by have := hs.2.2; omega
  have hsu : Hid (IntKind.u64.wrap (c.space : Int) = (c.space : Int)) := IntWalk.u64_in _ (by omega)
  have H12 := hid (And.intro h1 h2)
  obtain ⟨z1, hz1⟩ : ∃ z, z = S.now c.act := ⟨_, rfl⟩
  obtain ⟨z2, hz2⟩ : ∃ z, z = S.now (c.act + 1) := ⟨_, rfl⟩
  have hin : Hid (c.act + 2 + c.roots ≤ a.n) := by rw [← hn]; exact q2
  have HN := hid hn
  have HZ1 := hid hz1
  have HZ2 := hid hz2
  have HO := hid hc
  rw [← hz1] at h1
  rw [← hz2] at h2
  clear hn hw q1 q2 q3 q4 hci hc H12
  go_enter Tryz.func18, Tryz.ntmps18
  go_upto_region 1 with fail
  have hC0 := (At.new w (cfgO c)).alloc (bkO 0 0 (.slice none 0 0))
  have hB0 := At.new (w.alloc (cfgO c)) (bkO 0 0 (.slice none 0 0))
  have K0 := ((Keeps.refl [] w).alloc (cfgO c)).alloc (bkO 0 0 (.slice none 0 0))
  rw [show (w.alloc (cfgO c)).heap.size = w.heap.size + 1 by simp] at hB0
  obtain ⟨w0, hw0⟩ : ∃ w0, w0 = (w.alloc (cfgO c)).alloc (bkO 0 0 (.slice none 0 0)) := ⟨_, rfl⟩
  have D0 := h.keep K0 (by simp) (by simp) (by simp) (by simp)
  rw [← hw0] at hB0 hC0 K0 D0 ⊢
  clear hw0 h
  have HC : Hid (∀ w', Keeps [] w0 w' → (w'.cell? ⟨w.heap.size, 0, none⟩ = some (.int .i64 c.log) ∧ w'.cell? ⟨w.heap.size, 1, none⟩ = some (.int .i64 c.roots) ∧ w'.cell? ⟨w.heap.size, 2, none⟩ = some (.int .i64 c.space))) :=
    fun w' hk => ⟨(hk.at hC0 (by simp)).cell 0 rfl, (hk.at hC0 (by simp)).cell 1 rfl, (hk.at hC0 (by simp)).cell 2 rfl⟩
  have HL := hid (fun (w' : World) (hk : Keeps [] w0 w') (z : Int) (hz : 0 ≤ z ∧ z < a.n) => loadI_in w' p a S z (D0.keep hk (by simp) (by simp) (by simp) (by simp)) hz)
  have E1 : Hid (S.now (c.act : Int).toNat = z1) := by show _ = _; rw [Int.toNat_natCast, hz1]
  have E2 : Hid (S.now ((c.act : Int) + 1).toNat = z2) := by show _ = _; rw [show ((c.act : Int) + 1).toNat = c.act + 1 by omega, hz2]
  clear hz1 hz2
  have kk : Keeps [] w0 w0.drew := (Keeps.refl _ _).drew
  go_region_held3 (fun w' => w'.cell? ⟨w.heap.size, 0, none⟩ = some (.int .i64 c.log) ∧ w'.cell? ⟨w.heap.size, 1, none⟩ = some (.int .i64 c.roots) ∧ w'.cell? ⟨w.heap.size, 2, none⟩ = some (.int .i64 c.space))
    (exact HC.out _ kk)
    (first
      | (go_at_call 34; refine (active_at _ c hs).mono ?_; rintro e w' ⟨rfl, hk1⟩; have kk := kk.trans hk1; clear hk1)
      | (go_at_call 17; refine (usedw_at _ c hs).mono ?_; rintro e w' ⟨rfl, hk1⟩; have kk := kk.trans hk1; clear hk1)
      | (go_at_call 30; refine (HL.out _ kk _ (by have := hin.out; omega)).mono ?_; rintro e w' ⟨rfl, rfl⟩; (first | rw [E1.out] | rw [E2.out])))
  rename_i hwx1 wx1 wx2 hHd
  clear hHd
  have hC1 := kk.at hC0 (by simp)
  have hB1 := kk.at hB0 (by simp)
  have D1 := D0.keep kk (by simp) (by simp) (by simp) (by simp)
  have K1 := K0.trans kk
  clear HL HC E1 E2 hC0 hB0 D0
  have c2 := hC1.cell 2 rfl
  have hz1n : ∃ k : Nat, (k : Int) = z1 := ⟨z1.toNat, by omega⟩
  have hz2n : ∃ k : Nat, (k : Int) = z2 := ⟨z2.toNat, by omega⟩
  obtain ⟨k, rfl⟩ := hz1n
  obtain ⟨u, rfl⟩ := hz2n
  clear h1 h2
  have b0 := hB1.cell 0 rfl
  have b1 := hB1.cell 1 rfl
  have b2 := hB1.cell 2 rfl
  have f0 := hB1.free 0
  have f1 := hB1.free 1
  have f2 := hB1.free 2
  by_cases hk1 : 1 < k
  · have t1 : decide ((k : Int) ≥ 2) = true := decide_eq_true (by omega)
    have t1' : decide ((2 : Int) ≤ (k : Int)) = true := decide_eq_true (by omega)
    have t1'' : decide (2 ≤ k) = true := decide_eq_true (by omega)
    have HOR : 1 < S.now c.act ∨ (c.space : Int) < S.now (c.act + 1) := .inl (by rw [← HZ1.out]; omega)
    go_wp2_with fail
    have hF := ((hB1.set 0 (.int .i64 0)).set 1 (.int .i64 0)).set 2 (.slice none 0 0)
    have x0 := hF.cell 0 rfl
    have x1 := hF.cell 1 rfl
    have x2 := hF.cell 2 rfl
    refine bodyPost_ret (v := .tuple #[bkV 0 0 (.slice none 0 0), .int .i64 10]) (by simp [results, Tryz.results18, go_sem, x0, x1, x2]) rfl ?_
    exact .inl ⟨HOR, rfl, ((K1.set (.inr (by simp)) _).set (.inr (by simp)) _).set (.inr (by simp)) _⟩
  · have hkb : (k : Int) ≤ 1 := by omega
    have t1 : decide ((k : Int) ≥ 2) = false := decide_eq_false (by omega)
    have t1' : decide ((2 : Int) ≤ (k : Int)) = false := decide_eq_false (by omega)
    have t1'' : decide (2 ≤ k) = false := decide_eq_false (by omega)
    have hsn := hsu.out
    by_cases hu1 : c.space < u
    · have t2 : decide ((c.space : Int) < (u : Int)) = true := decide_eq_true (by omega)
      have t2' : decide ((u : Int) > (c.space : Int)) = true := decide_eq_true (by omega)
      have t2'' : decide (c.space < u) = true := decide_eq_true (by omega)
      have HOR : 1 < S.now c.act ∨ (c.space : Int) < S.now (c.act + 1) := .inr (by rw [← HZ2.out]; omega)
      go_wp2_with fail
      have hF := ((hB1.set 0 (.int .i64 0)).set 1 (.int .i64 0)).set 2 (.slice none 0 0)
      have x0 := hF.cell 0 rfl
      have x1 := hF.cell 1 rfl
      have x2 := hF.cell 2 rfl
      refine bodyPost_ret (v := .tuple #[bkV 0 0 (.slice none 0 0), .int .i64 10]) (by simp [results, Tryz.results18, go_sem, x0, x1, x2]) rfl ?_
      exact .inl ⟨HOR, rfl, ((K1.set (.inr (by simp)) _).set (.inr (by simp)) _).set (.inr (by simp)) _⟩
    · have t2 : decide ((c.space : Int) < (u : Int)) = false := decide_eq_false (by omega)
      have t2' : decide ((u : Int) > (c.space : Int)) = false := decide_eq_false (by omega)
      have t2'' : decide (c.space < u) = false := decide_eq_false (by omega)
      have hub : (u : Int) ≤ 4096 := by omega
      have c1 := hC1.cell 1 rfl
      go_upto_region 5 with fail
      obtain ⟨bb, hbb⟩ : ∃ bb, bb = w'.heap.size := ⟨_, rfl⟩
      have hBk := At.new w' (bkO k u (.slice none 0 0))
      have hdb : Hid (a.d ≠ bb ∧ a.s ≠ bb ∧ a.k ≠ bb ∧ a.m ≠ bb) := D1.fresh (by omega)
      have K2 := K1.alloc (bkO k u (.slice none 0 0))
      have hC2 := hC1.alloc (bkO k u (.slice none 0 0))
      have hB2 := hB1.alloc (bkO k u (.slice none 0 0))
      have hbl := hB1.lt
      have D2 := D1.keep ((Keeps.refl [] w').alloc (bkO k u (.slice none 0 0))) (by simp) (by simp) (by simp) (by simp)
      have hcl := hC1.lt
      have hzw : w.heap.size ≤ w'.heap.size := K1.size
      obtain ⟨w1, hw1⟩ : ∃ w1, w1 = w'.alloc (bkO k u (.slice none 0 0)) := ⟨_, rfl⟩
      have hz1 : w1.heap.size = bb + 1 := by rw [hw1, hbb]; simp
      rw [← hbb] at hBk hcl hzw hbl ⊢
      rw [← hw1] at hBk K2 hC2 D2 hB2 ⊢
      clear hw1 c1 c2 b0 b1 b2 f0 f1 f2 hB1 hC1 D1 K1 hbb kk
      have c1 := hC2.cell 1 rfl
      have HBZ : Hid (bb + 1 ≤ w1.heap.size) := hz1 ▸ Nat.le_refl _
      have HZE := hid hz1
      have HBK := hid hBk
      have HCL := hid hcl
      have HBL := hid hbl
      have HB2 := hid hB2
      clear hB2 hbl
      have HZW := hid hzw
      clear hz1 hcl hzw hBk
      go_wp2_with fail
      clear c1
      go_loopg [35] c.roots (fun r s wr => ∃ m : Nat, m + r = c.roots ∧ s = .int .i64 m ∧ RowB bb k u m (fun i => S.now (c.root i)) w1 wr)
      case atStart => exact ⟨0, by omega, rfl, none, 0, HBK.out, ownU_nil _ _ _, Keeps.refl _ _⟩
      case round =>
        obtain ⟨m, hm, rfl, hRB⟩ := hrel
        by_cases hlt : m < c.roots
        · obtain ⟨x, cp, hAr, hOr, hKr⟩ := hRB
          have hmi : (m : Int) < (c.roots : Int) := by omega
          have hm16 : (m : Int) ≤ 16 := by omega
          have hCL := HCL.out
          have hcbb : w.heap.size ≠ bb := by omega
          have hCr := hKr.at hC2 (by simp; omega)
          have DB := hdb.out
          have Dr := D2.keep hKr (by simp; omega) (by simp; omega) (by simp; omega) (by simp; omega)
          obtain ⟨t, ht⟩ : ∃ t, t = S.now (c.root m) := ⟨_, rfl⟩
          have HT := hid ht
          have HF : Hid (∀ w', Keeps [] wr w' → (w'.cell? ⟨w.heap.size, 0, none⟩ = some (.int .i64 c.log) ∧ w'.cell? ⟨w.heap.size, 1, none⟩ = some (.int .i64 c.roots) ∧ w'.cell? ⟨w.heap.size, 2, none⟩ = some (.int .i64 c.space) ∧ w'.cell? ⟨bb, 2, none⟩ = some (.slice x m cp))) :=
            fun w' hk => ⟨(hk.at hCr (by simp)).cell 0 rfl, (hk.at hCr (by simp)).cell 1 rfl, (hk.at hCr (by simp)).cell 2 rfl, (hk.at hAr (by simp)).cell 2 rfl⟩
          have HL : Hid (∀ w', Keeps [] wr w' → Calls Tryz.prog 30 #[ptr a.d, .int .i64 (c.root m)] w' fun e w'' => e = .returned (.int .u64 t) ∧ w' = w'') := fun w' hk => by
            rw [ht]
            exact load_in w' p a S (c.root m) (Dr.keep hk (by simp) (by simp) (by simp) (by simp)) (by have := hin.out; unfold Cfg.root; omega)
          have HRB : Hid (∀ b ∈ blkL x, w1.heap.size ≤ b) := fun b hb => by have := (hOr.ge b hb).1; have := HZE.out; omega
          have hm1 : m ≤ 1000 := by omega
          have k0 : Keeps [] wr wr.drew := (Keeps.refl _ _).drew
          obtain ⟨e1, e2, e3, e4⟩ := HF.out _ k0
          obtain ⟨e5, e6, e7, e8⟩ := HF.out _ (Keeps.refl [] wr)
          have HOr := hid hOr
          have HKr := hid hKr
          have HAr := hid hAr
          have HM := hid hm
          clear hm hOr ht hCr Dr DB hcbb hCL hAr
          go_wp2_with fail
          refine wp_region_noPanic ?_
          go_region_law (first
            | (go_simp; go_at_call 27; refine (root_at _ c hs m (by omega)).mono ?_; rintro e w2 ⟨rfl, hk1⟩; have k1 := k0.trans hk1; have k2 := k1.alloc (.cells #[.int .u64 t] 26); obtain ⟨g1, g2, g3, g4⟩ := HF.out _ k1; obtain ⟨g5, g6, g7, g8⟩ := HF.out _ k2; have HO2 := hid (HOr.out.keep k2 (by simp)); have hcU := (At.new w2 (.cells #[.int .u64 t] 26)).cell 0 rfl; have hB2 : bb + 1 ≤ (w2.alloc (.cells #[.int .u64 t] 26)).heap.size := Nat.le_trans HBZ.out (Nat.le_trans HKr.out.size k2.size); clear hk1)
            | (go_simp; go_at_call 30; refine (HL.out _ k1).mono ?_; rintro e w' ⟨rfl, rfl⟩)
            | (refine appU_step rfl _ _ rfl (bb + 1) x cp m _ rfl HO2.out _ _ t rfl hcU hm1 hB2 ?_; intro gg cap2 w3 hO3 hk3 hg3; have HO3 := hid hO3; have hA3 := hk3.at (k2.at HAr.out (by simp)) (fun h => by have := HRB.out _ h; have := HBZ.out; omega); have y2 := hA3.cell 2 rfl; have yf := hA3.free 2; clear hO3 hg3 hA3))
          all_goals
            refine NoPanic.normal ?_
            go_wp2_with fail
            go_roundg (c.roots - (m + 1))
            case measure => (have := HM.out; omega)
            case rel => exact ⟨m + 1, by have := HM.out; omega, by go_num, rowB_end HBZ.out (k2.at HAr.out (by simp)) (HKr.out.trans (k2.mono (by simp))) HO2.out HO3.out HT.out hk3 HRB.out⟩
        · have hme : m = c.roots := by omega
          subst hme
          obtain ⟨x, cp, hAr, hOr, hKr⟩ := hRB
          have HBL := HBL.out
          have hBr := hKr.at HB2.out (by simp; omega)
          have hkb1 : k ≤ 1 := by omega
          have hub1 : u ≤ c.space := by omega
          have d0 := hAr.cell 0 rfl
          have d1 := hAr.cell 1 rfl
          have d2 := hAr.cell 2 rfl
          have b0 := hBr.cell 0 rfl
          have b1 := hBr.cell 1 rfl
          have b2 := hBr.cell 2 rfl
          have f0 := hBr.free 0
          have f1 := hBr.free 1
          have f2 := hBr.free 2
          have HEND := hid (And.intro hkb1 hub1)
          have K3 : Keeps [] w wr := K2.new hKr (by simp; omega)
          have hZ := HZW.out
          clear hk1 hu1 hkb hub hkb1 hub1 hm hlt
          go_wp2_with fail
          have hF := ((hBr.set 0 (.int .i64 k)).set 1 (.int .i64 u)).set 2 (.slice x c.roots cp)
          have x0 := hF.cell 0 rfl
          have x1 := hF.cell 1 rfl
          have x2 := hF.cell 2 rfl
          refine bodyPost_ret (v := .tuple #[bkV k u (.slice x c.roots cp), .int .i64 0]) (by simp [results, Tryz.results18, go_sem, x0, x1, x2]) rfl ?_
          refine .inr ⟨k, u, x, cp, HEND.out.1, HEND.out.2, HZ1.out.symm, HZ2.out.symm, rfl, (hOr.low (by omega)).keep (T := [w.heap.size + 1]) ((((Keeps.refl _ wr).set (.inl (by simp)) _).set (.inl (by simp)) _).set (.inl (by simp)) _) (fun b hb => by have := (hOr.ge b hb).1; simp; omega), ((K3.set (.inr (by simp)) _).set (.inr (by simp)) _).set (.inr (by simp)) _⟩

end Go.Proofs.YtcdlikblebdfkaaGreat
