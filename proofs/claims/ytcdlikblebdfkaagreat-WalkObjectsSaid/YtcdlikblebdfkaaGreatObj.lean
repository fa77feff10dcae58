/- Objects: the one at a place; its fields: read, named, written by any function. -/
import Derived.Test.YtcdlikblebdfkaaGreatSpcD
namespace Go.Proofs.YtcdlikblebdfkaaGreat
open Go.RowKit Go.OpenShut

/-- An object, as a value and in a box. -/
abbrev obV (n r z : Int) : Value := .agg #[.int .i64 n, .int .i64 r, .int .i64 z]
abbrev obO (n r z : Int) : Obj := .cells #[.int .i64 n, .int .i64 r, .int .i64 z] 44

/-- Is it a field, a name just if it should be? -/
def fldE (n r i : Int) (b : Bool) : Int := if i < 0 ∨ n ≤ i then 1 else if decide (i < r) = b then 0 else 5

theorem fldE_out {n r i : Int} {b : Bool} (h : i < 0 ∨ n ≤ i) : fldE n r i b = 1 := by simp [fldE, h]
theorem fldE_in {n r i : Int} {b : Bool} (h0 : 0 ≤ i) (h1 : i < n) (h2 : decide (i < r) = b) : fldE n r i b = 0 := by
  have : ¬ (i < 0 ∨ n ≤ i) := by omega
  simp [fldE, this, h2]
theorem fldE_kind {n r i : Int} {b : Bool} (h0 : 0 ≤ i) (h1 : i < n) (h2 : decide (i < r) ≠ b) : fldE n r i b = 5 := by
  have : ¬ (i < 0 ∨ n ≤ i) := by omega
  simp [fldE, this, h2]
theorem fldE_zero {n r i : Int} {b : Bool} (h : fldE n r i b = 0) : 0 ≤ i ∧ i < n ∧ decide (i < r) = b := by
  unfold fldE at h
  by_cases h1 : i < 0 ∨ n ≤ i
  · rw [if_pos h1] at h; exact absurd h (by decide)
  · rw [if_neg h1] at h
    by_cases h2 : decide (i < r) = b
    · exact ⟨by omega, by omega, h2⟩
    · rw [if_neg h2] at h; exact absurd h (by decide)

set_option maxRecDepth 100000 in
set_option maxHeartbeats 1000000 in
theorem field_at (w : World) (n r z i : Int) (b : Bool) :
    Calls Tryz.prog 44 #[obV n r z, .int .i64 i, .bool b] w fun e w' => e = .returned (.int .i64 (fldE n r i b)) ∧ Keeps [] w w' := by
  by_cases h0 : i < 0
  · have H := hid (fldE_out (b := b) (r := r) (.inl h0 : i < 0 ∨ n ≤ i))
    have t0 : decide (i < 0) = true := decide_eq_true h0
    go_enter Tryz.func44, Tryz.ntmps44
    go_wp2_with fail
    go_ret
    exact ⟨by rw [H.out]; rfl, (Keeps.refl _ _).alloc _⟩
  have t0 : decide (i < 0) = false := decide_eq_false h0
  have hi0 : 0 ≤ i := by omega
  by_cases h1 : n ≤ i
  · have H := hid (fldE_out (b := b) (r := r) (.inr h1 : i < 0 ∨ n ≤ i))
    have t1 : decide (n ≤ i) = true := decide_eq_true h1
    have t1' : decide (i ≥ n) = true := decide_eq_true h1
    clear h0
    go_enter Tryz.func44, Tryz.ntmps44
    go_wp2_with fail
    go_ret
    exact ⟨by rw [H.out]; rfl, (Keeps.refl _ _).alloc _⟩
  have t1 : decide (n ≤ i) = false := decide_eq_false h1
  have t1' : decide (i ≥ n) = false := decide_eq_false h1
  have hin : i < n := by omega
  by_cases h2 : decide (i < r) = b
  · have H := hid (fldE_in hi0 hin h2)
    have t2 : (decide (i < r) != b) = false := by simp [h2]
    have t2' : (decide (i < r) == b) = true := by simp [h2]
    have HB := hid h2
    clear h0 h1 h2
    go_enter Tryz.func44, Tryz.ntmps44
    go_wp2_with fail
    go_ret
    exact ⟨by rw [H.out]; rfl, (Keeps.refl _ _).alloc _⟩
  · have H := hid (fldE_kind hi0 hin h2)
    have t2' : (decide (i < r) == b) = false := by simpa using h2
    have t2 : (decide (i < r) != b) = true := by simp [bne, t2']
    clear h0 h1 h2
    go_enter Tryz.func44, Tryz.ntmps44
    go_wp2_with fail
    go_ret
    exact ⟨by rw [H.out]; rfl, (Keeps.refl _ _).alloc _⟩

set_option maxRecDepth 100000 in
set_option maxHeartbeats 1000000 in
theorem word10_at (w : World) (n r z i : Int) (hz : 0 ≤ z ∧ z ≤ 17592186044416) (hi : 0 ≤ i ∧ i ≤ 100000) :
    Calls Tryz.prog 45 #[obV n r z, .int .i64 i] w fun e w' => e = .returned (.int .i64 (z + 1 + i)) ∧ Keeps [] w w' := by
  go_enter Tryz.func45, Tryz.ntmps45
  go_wp2_with fail
  go_ret
  exact ⟨rfl, (Keeps.refl _ _).alloc _⟩

/-- What Read and Ref answer. -/
def rdW (S : DS) (z i e0 : Int) : Int := if e0 = 0 then S.now (z + 1 + i).toNat else 0
def rfW (S : DS) (z i e0 : Int) : Int := if e0 = 0 then asInt (S.now (z + 1 + i).toNat) else 0

theorem rdW_no {S : DS} {z i e0 : Int} (h : e0 ≠ 0) : rdW S z i e0 = 0 := by simp [rdW, h]
theorem rfW_no {S : DS} {z i e0 : Int} (h : e0 ≠ 0) : rfW S z i e0 = 0 := by simp [rfW, h]

set_option maxRecDepth 100000 in
set_option maxHeartbeats 1000000 in
theorem oread_at (w : World) (p : Nat) (a : DA) (S : DS) (h : Dev w p a S) (n r z i : Int) (hn : n ≤ 64) (hz : 0 ≤ z ∧ z + n < a.n) :
    Calls Tryz.prog 36 #[obV n r z, ptr a.d, .int .i64 i] w fun e w' => e = .returned (.tuple #[.int .u64 (rdW S z i (fldE n r i false)), .int .i64 (fldE n r i false)]) ∧ Keeps [] w w' := by
  have HF := hid (fun w => field_at w n r z i false)
  have hob := At.new w (obO n r z)
  by_cases hf : fldE n r i false = 0
  · obtain ⟨h0, h1, h2⟩ := fldE_zero hf
    have hfew := h.few
    have hn8 := a.n8
    have HW := hid (fun w => word10_at w n r z i (by omega) (by omega))
    have E := hid (show rdW S z i (fldE n r i false) = S.now (z + 1 + i).toNat by simp [rdW, hf])
    have HL := hid (fun (w' : World) (hk : Keeps [] w w') => loadI_in w' p a S (z + 1 + i) (h.keep hk (by simp) (by simp) (by simp) (by simp)) (by omega))
    have HE := hid hf
    clear hf h0 h1 h2 hfew hn8 hz hn
    go_enter Tryz.func36, Tryz.ntmps36
    go_wp2_with fail
    refine (HF.out _).mono ?_
    rintro e w1 ⟨rfl, hk1⟩
    rw [HE.out]
    have ho1 := hk1.at hob (by simp)
    have K1 := ((Keeps.refl [] w).alloc (obO n r z)).trans hk1
    have c0 := ho1.cell 0 rfl
    have c1 := ho1.cell 1 rfl
    have c2 := ho1.cell 2 rfl
    go_wp2_with fail
    refine (HW.out _).mono ?_
    rintro e w2 ⟨rfl, hk2⟩
    go_wp2_with fail
    refine (HL.out _ (K1.trans hk2)).mono ?_
    rintro e w3 ⟨rfl, rfl⟩
    go_wp2_with fail
    go_ret2
    exact ⟨by rw [← HE.out, E.out]; rfl, K1.trans hk2⟩
  · have E := hid (rdW_no (S := S) (z := z) (i := i) hf)
    obtain ⟨e0, he0⟩ : ∃ e0, e0 = fldE n r i false := ⟨_, rfl⟩
    rw [← he0] at HF E hf ⊢
    have t1 : (e0 == 0) = false := by rw [beq_eq_false_iff_ne]; exact hf
    have t2 : (e0 != 0) = true := by simp [bne, t1]
    clear he0 hf
    go_enter Tryz.func36, Tryz.ntmps36
    go_wp2_with fail
    refine (HF.out _).mono ?_
    rintro e w1 ⟨rfl, hk1⟩
    go_wp2_with fail
    go_ret2
    exact ⟨by rw [E.out]; rfl, ((Keeps.refl [] w).alloc (obO n r z)).trans hk1⟩

set_option maxRecDepth 100000 in
set_option maxHeartbeats 1000000 in
theorem oref_at (w : World) (p : Nat) (a : DA) (S : DS) (h : Dev w p a S) (n r z i : Int) (hn : n ≤ 64) (hz : 0 ≤ z ∧ z + n < a.n) :
    Calls Tryz.prog 50 #[obV n r z, ptr a.d, .int .i64 i] w fun e w' => e = .returned (.tuple #[.int .i64 (rfW S z i (fldE n r i true)), .int .i64 (fldE n r i true)]) ∧ Keeps [] w w' := by
  have HF := hid (fun w => field_at w n r z i true)
  have hob := At.new w (obO n r z)
  by_cases hf : fldE n r i true = 0
  · obtain ⟨h0, h1, h2⟩ := fldE_zero hf
    have hfew := h.few
    have hn8 := a.n8
    have HW := hid (fun w => word10_at w n r z i (by omega) (by omega))
    have E := hid (show rfW S z i (fldE n r i true) = wrap64 (S.now (z + 1 + i).toNat) by simp [rfW, hf, asInt])
    have HL := hid (fun (w' : World) (hk : Keeps [] w w') => loadI_in w' p a S (z + 1 + i) (h.keep hk (by simp) (by simp) (by simp) (by simp)) (by omega))
    have HE := hid hf
    clear hf h0 h1 h2 hfew hn8 hz hn
    go_enter Tryz.func50, Tryz.ntmps50
    go_wp2_with fail
    refine (HF.out _).mono ?_
    rintro e w1 ⟨rfl, hk1⟩
    rw [HE.out]
    have ho1 := hk1.at hob (by simp)
    have K1 := ((Keeps.refl [] w).alloc (obO n r z)).trans hk1
    have c0 := ho1.cell 0 rfl
    have c1 := ho1.cell 1 rfl
    have c2 := ho1.cell 2 rfl
    go_wp2_with fail
    refine (HW.out _).mono ?_
    rintro e w2 ⟨rfl, hk2⟩
    go_wp2_with fail
    refine (HL.out _ (K1.trans hk2)).mono ?_
    rintro e w3 ⟨rfl, rfl⟩
    go_wp2_with fail
    go_ret2
    exact ⟨by rw [← HE.out, E.out]; rfl, K1.trans hk2⟩
  · have E := hid (rfW_no (S := S) (z := z) (i := i) hf)
    obtain ⟨e0, he0⟩ : ∃ e0, e0 = fldE n r i true := ⟨_, rfl⟩
    rw [← he0] at HF E hf ⊢
    have t1 : (e0 == 0) = false := by rw [beq_eq_false_iff_ne]; exact hf
    have t2 : (e0 != 0) = true := by simp [bne, t1]
    clear he0 hf
    go_enter Tryz.func50, Tryz.ntmps50
    go_wp2_with fail
    refine (HF.out _).mono ?_
    rintro e w1 ⟨rfl, hk1⟩
    go_wp2_with fail
    go_ret2
    exact ⟨by rw [E.out]; rfl, ((Keeps.refl [] w).alloc (obO n r z)).trans hk1⟩

/-- How Write and Point end: by the field's error, or as the store of the word does. -/
def WrE (R : World → Int → World → Prop) (G : World → World → Prop) (e0 : Int) (w : World) (e : Ending) (w' : World) : Prop :=
  (e0 ≠ 0 ∧ e = .returned (.int .i64 e0) ∧ Keeps [] w w') ∨
  (e0 = 0 ∧ ∃ w1, Keeps [] w w1 ∧ ((∃ code, e = .returned (.int .i64 code) ∧ R w1 code w') ∨ (e = .panicked [{ v := goneV, recovered := false }] ∧ G w1 w')))

section
variable {F : Nat} {first cap : Array Value}

set_option maxRecDepth 100000 in
set_option maxHeartbeats 1000000 in
theorem owrite_at (w : World) (n r z i v : Int) (R : World → Int → World → Prop) (G : World → World → Prop) (hn : n ≤ 64) (hz : 0 ≤ z ∧ z ≤ 17592186044416)
    (hinv : ∀ (w : World) (i v : Int), (callFunc F (first ++ (#[.int .i64 i, .int .u64 v] ++ cap))).run Tryz.prog w = .ok (.enter F (first ++ (#[.int .i64 i, .int .u64 v] ++ cap))) w)
    (hS : 0 ≤ i → i < n → ∀ w1, Keeps [] w w1 → Calls Tryz.prog F (first ++ (#[.int .i64 (z + 1 + i), .int .u64 v] ++ cap)) w1 fun e w' => (∃ code, e = .returned (.int .i64 code) ∧ R w1 code w') ∨ (e = .panicked [{ v := goneV, recovered := false }] ∧ G w1 w')) :
    Calls Tryz.prog 37 #[obV n r z, .int .i64 i, .int .u64 v, .func (.func F) first cap] w (WrE R G (fldE n r i false) w) := by
  have HF := hid (fun w => field_at w n r z i false)
  have hob := At.new w (obO n r z)
  by_cases hf : fldE n r i false = 0
  · obtain ⟨h0, h1, h2⟩ := fldE_zero hf
    have HW := hid (fun w => word10_at w n r z i (by omega) (by omega))
    have HS := hid (hS h0 h1)
    have HE := hid hf
    clear hf h0 h1 h2 hz hn hS
    go_enter Tryz.func37, Tryz.ntmps37
    go_wp2_with fail
    refine (HF.out _).mono ?_
    rintro e w1 ⟨rfl, hk1⟩
    rw [HE.out]
    have ho1 := hk1.at hob (by simp)
    have K1 := ((Keeps.refl [] w).alloc (obO n r z)).trans hk1
    have c0 := ho1.cell 0 rfl
    have c1 := ho1.cell 1 rfl
    have c2 := ho1.cell 2 rfl
    go_wp2_with fail
    refine (HW.out _).mono ?_
    rintro e w2 ⟨rfl, hk2⟩
    go_wp2_with fail
    refine (HS.out _ (K1.trans hk2)).mono ?_
    rintro e w3 (⟨code, rfl, h3⟩ | ⟨rfl, h3⟩)
    · go_wp2_with fail
      go_ret
      exact .inr ⟨HE.out, w2, K1.trans hk2, .inl ⟨code, rfl, h3⟩⟩
    · go_wp2_with fail
      exact ⟨rfl, .inr ⟨HE.out, w2, K1.trans hk2, .inr ⟨rfl, h3⟩⟩⟩
  · obtain ⟨e0, he0⟩ : ∃ e0, e0 = fldE n r i false := ⟨_, rfl⟩
    rw [← he0] at HF hf ⊢
    have t1 : (e0 == 0) = false := by rw [beq_eq_false_iff_ne]; exact hf
    have t2 : (e0 != 0) = true := by simp [bne, t1]
    have HE := hid hf
    clear he0 hf hS
    go_enter Tryz.func37, Tryz.ntmps37
    go_wp2_with fail
    refine (HF.out _).mono ?_
    rintro e w1 ⟨rfl, hk1⟩
    go_wp2_with fail
    go_ret
    exact .inl ⟨HE.out, rfl, ((Keeps.refl [] w).alloc (obO n r z)).trans hk1⟩

set_option maxRecDepth 100000 in
set_option maxHeartbeats 1000000 in
theorem opoint_at (w : World) (n r z i t : Int) (R : World → Int → World → Prop) (G : World → World → Prop) (hn : n ≤ 64) (hz : 0 ≤ z ∧ z ≤ 17592186044416)
    (hinv : ∀ (w : World) (i v : Int), (callFunc F (first ++ (#[.int .i64 i, .int .u64 v] ++ cap))).run Tryz.prog w = .ok (.enter F (first ++ (#[.int .i64 i, .int .u64 v] ++ cap))) w)
    (hS : 0 ≤ i → i < n → ∀ w1, Keeps [] w w1 → Calls Tryz.prog F (first ++ (#[.int .i64 (z + 1 + i), .int .u64 (IntKind.u64.wrap t)] ++ cap)) w1 fun e w' => (∃ code, e = .returned (.int .i64 code) ∧ R w1 code w') ∨ (e = .panicked [{ v := goneV, recovered := false }] ∧ G w1 w')) :
    Calls Tryz.prog 33 #[obV n r z, .int .i64 i, .int .i64 t, .func (.func F) first cap] w (WrE R G (fldE n r i true) w) := by
  have HF := hid (fun w => field_at w n r z i true)
  have hob := At.new w (obO n r z)
  obtain ⟨v, hv⟩ : ∃ v, IntKind.u64.wrap t = v := ⟨_, rfl⟩
  rw [hv] at hS
  by_cases hf : fldE n r i true = 0
  · obtain ⟨h0, h1, h2⟩ := fldE_zero hf
    have HW := hid (fun w => word10_at w n r z i (by omega) (by omega))
    have HS := hid (hS h0 h1)
    have HE := hid hf
    clear hf h0 h1 h2 hz hn hS
    go_enter Tryz.func33, Tryz.ntmps33
    go_wp2_with fail
    refine (HF.out _).mono ?_
    rintro e w1 ⟨rfl, hk1⟩
    rw [HE.out]
    have ho1 := hk1.at hob (by simp)
    have K1 := ((Keeps.refl [] w).alloc (obO n r z)).trans hk1
    have c0 := ho1.cell 0 rfl
    have c1 := ho1.cell 1 rfl
    have c2 := ho1.cell 2 rfl
    go_wp2_with fail
    refine (HW.out _).mono ?_
    rintro e w2 ⟨rfl, hk2⟩
    go_wp2_with fail
    refine (HS.out _ (K1.trans hk2)).mono ?_
    rintro e w3 (⟨code, rfl, h3⟩ | ⟨rfl, h3⟩)
    · go_wp2_with fail
      go_ret
      exact .inr ⟨HE.out, w2, K1.trans hk2, .inl ⟨code, rfl, h3⟩⟩
    · go_wp2_with fail
      exact ⟨rfl, .inr ⟨HE.out, w2, K1.trans hk2, .inr ⟨rfl, h3⟩⟩⟩
  · obtain ⟨e0, he0⟩ : ∃ e0, e0 = fldE n r i true := ⟨_, rfl⟩
    rw [← he0] at HF hf ⊢
    have t1 : (e0 == 0) = false := by rw [beq_eq_false_iff_ne]; exact hf
    have t2 : (e0 != 0) = true := by simp [bne, t1]
    have HE := hid hf
    clear he0 hf hS hv
    go_enter Tryz.func33, Tryz.ntmps33
    go_wp2_with fail
    refine (HF.out _).mono ?_
    rintro e w1 ⟨rfl, hk1⟩
    go_wp2_with fail
    go_ret
    exact .inl ⟨HE.out, rfl, ((Keeps.refl [] w).alloc (obO n r z)).trans hk1⟩

end

/-- What Of answers: none of a place that the block hasn't; no head, or one whose words go beyond what is used; the object. -/
def OfP (S : DS) (c : Cfg) (k u : Nat) (z : Int) (w : World) (e : Ending) (w' : World) : Prop :=
  (¬ ((c.frm k : Int) ≤ z ∧ z < (c.frm k : Int) + (u : Int)) ∧ e = .returned (.tuple #[obV 0 0 0, .int .i64 6]) ∧ Keeps [] w w') ∨
  (∃ j x : Nat, z = (j : Int) ∧ c.frm k ≤ j ∧ j < c.frm k + u ∧ S.now j = (x : Int) ∧ x < 18446744073709551616 ∧
    ((¬ (isHd x = true ∧ j + (hdN x + 1) ≤ c.frm k + u) ∧ e = .returned (.tuple #[obV 0 0 0, .int .i64 8]) ∧ Keeps [] w w') ∨
     (isHd x = true ∧ j + (hdN x + 1) ≤ c.frm k + u ∧ e = .returned (.tuple #[obV (hdN x) (hdR x) j, .int .i64 0]) ∧ Keeps [] w w')))

theorem unV_yes {x : Nat} (h : isHd x = true) : unV x = .tuple #[hdV (hdN x) (hdR x), .bool true] := by simp [unV, h]
theorem unV_no {x : Nat} (h : isHd x = false) : unV x = .tuple #[hdV 0 0, .bool false] := by simp [unV, h]

set_option maxRecDepth 100000 in
set_option maxHeartbeats 4000000 in
theorem of_at (w : World) (p : Nat) (a : DA) (S : DS) (h : Dev w p a S) (c : Cfg) (hc : c.Ok) (hcn : c.words = a.n) (k : Nat) (hk : k ≤ 1) (u : Nat) (hu : u ≤ c.space) (rs : Value) (z : Int) (hz : -9223372036854775808 ≤ z ∧ z < 9223372036854775808)
    (hx : ∀ j : Nat, z = (j : Int) → c.frm k ≤ j → j < c.frm k + u → ∃ x : Nat, S.now j = (x : Int) ∧ x < 18446744073709551616) :
    Calls Tryz.prog 11 #[ptr a.d, cfgV c, bkV k u rs, .int .i64 z] w (OfP S c k u z w) := by
  have hs := hc.small
  have hub : u ≤ 4096 := by have := hs.2.2; omega
  have hfb : c.frm k ≤ 15000 := frm_le hs (by omega)
  have hfa : c.frm k + c.space ≤ a.n := by rw [← hcn]; exact frm_space k hk
  obtain ⟨q, hq⟩ : ∃ q, q = IntKind.u64.wrap z := ⟨_, rfl⟩
  have hq0 : 0 ≤ q ∧ q < 18446744073709551616 := by
    rw [hq]
    by_cases h0 : 0 ≤ z
    · rw [IntWalk.u64_in _ (by omega)]; omega
    · have : IntKind.u64.wrap z = z + 18446744073709551616 := by
        show z % 18446744073709551616 = _
        omega
      omega
  have hqz : hasW c k u q = decide ((c.frm k : Int) ≤ z ∧ z < (c.frm k : Int) + (u : Int)) := by
    unfold hasW
    rw [hq]
    by_cases h0 : 0 ≤ z
    · rw [IntWalk.u64_in _ (by omega)]
    · have e : IntKind.u64.wrap z = z + 18446744073709551616 := by
        show z % 18446744073709551616 = _
        omega
      rw [e, decide_eq_decide]
      omega
  have HH := hid (fun w => has8_at w c hs k hk u hub rs q hq0)
  have HQ := hid hq
  have K0 := (((Keeps.refl [] w).alloc (cfgO c)).alloc (bkO k u rs)).alloc (obO 0 0 0)
  have hC0 := ((At.new w (cfgO c)).alloc (bkO k u rs)).alloc (obO 0 0 0)
  have hB0 := (At.new (w.alloc (cfgO c)) (bkO k u rs)).alloc (obO 0 0 0)
  have hO0 := At.new ((w.alloc (cfgO c)).alloc (bkO k u rs)) (obO 0 0 0)
  rw [show (w.alloc (cfgO c)).heap.size = w.heap.size + 1 by simp] at hB0
  rw [show ((w.alloc (cfgO c)).alloc (bkO k u rs)).heap.size = w.heap.size + 2 by simp] at hO0
  obtain ⟨w0, hw0⟩ : ∃ w0, w0 = ((w.alloc (cfgO c)).alloc (bkO k u rs)).alloc (obO 0 0 0) := ⟨_, rfl⟩
  have hz0 : w0.heap.size = w.heap.size + 3 := by rw [hw0]; simp
  by_cases hhas : (c.frm k : Int) ≤ z ∧ z < (c.frm k : Int) + (u : Int)
  case neg =>
    have E := hid (hqz.trans (decide_eq_false hhas))
    have HN := hid hhas
    clear hhas hqz hq hq0
    go_enter Tryz.func11, Tryz.ntmps11
    go_upto_region 1 with fail
    rw [← hw0] at hC0 hB0 hO0 K0 ⊢
    clear hw0
    have c0 := hC0.cell 0 rfl
    have c1 := hC0.cell 1 rfl
    have c2 := hC0.cell 2 rfl
    have b0 := hB0.cell 0 rfl
    have b1 := hB0.cell 1 rfl
    have b2 := hB0.cell 2 rfl
    go_wp2_with fail
    rw [← HQ.out]
    refine (HH.out _).mono ?_
    rintro e w1 ⟨rfl, hk1⟩
    rw [E.out]
    have hO1 := hk1.at hO0 (by simp)
    have f0 := hO1.free 0
    have f1 := hO1.free 1
    have f2 := hO1.free 2
    have x0 := hO1.cell 0 rfl
    have x1 := hO1.cell 1 rfl
    have x2 := hO1.cell 2 rfl
    clear c0 c1 c2 b0 b1 b2
    go_wp2_with fail
    have hF := ((hO1.set 0 (.int .i64 0)).set 1 (.int .i64 0)).set 2 (.int .i64 0)
    have y0 := hF.cell 0 rfl
    have y1 := hF.cell 1 rfl
    have y2 := hF.cell 2 rfl
    refine bodyPost_ret (v := .tuple #[obV 0 0 0, .int .i64 6]) (by simp [results, Tryz.results11, go_sem, y0, y1, y2]) rfl ?_
    exact .inl ⟨HN.out, rfl, (((K0.trans hk1).set (.inr (by show _ ≤ _ + 1 + 1; omega)) _).set (.inr (by show _ ≤ _ + 1 + 1; omega)) _).set (.inr (by show _ ≤ _ + 1 + 1; omega)) _⟩
  case pos =>
    have E0 := hqz.trans (decide_eq_true hhas)
    obtain ⟨j, rfl⟩ : ∃ j : Nat, z = (j : Int) := ⟨z.toNat, by omega⟩
    have hqj : q = (j : Int) := by rw [hq]; exact IntWalk.u64_in _ (by omega)
    rw [hqj] at HH E0
    have E := hid E0
    clear HQ hqj E0
    have hj1 : c.frm k ≤ j := by omega
    have hj2 : j < c.frm k + u := by omega
    obtain ⟨x, hxe, hxb⟩ := hx j rfl hj1 hj2
    have HJ := hid (And.intro hj1 (And.intro hj2 (And.intro hxe hxb)))
    have HL := hid (fun (w' : World) (hk : Keeps [] w w') => load_eq w' p a S j x (h.keep hk (by simp) (by simp) (by simp) (by simp)) (by omega) hxe)
    have HU := hid (fun w => hunpack_at w x hxb)
    obtain ⟨f, hf⟩ : ∃ f, f = c.frm k := ⟨_, rfl⟩
    have HPL := hid (fun w => place8_at w c hs k hk u rs u (by omega))
    rw [← hf] at HPL
    have hfi : (f : Int) ≤ 15000 := by omega
    have hui : (u : Int) ≤ 4096 := by omega
    have hji : (j : Int) ≤ 20000 := by omega
    have HFE := hid hf
    clear hhas hqz hq hq0 hxe hxb hj1 hj2 hx hf hfb hfa hub hz
    go_enter Tryz.func11, Tryz.ntmps11
    go_upto_region 1 with fail
    rw [← hw0] at hC0 hB0 hO0 K0 ⊢
    clear hw0
    have c0 := hC0.cell 0 rfl
    have c1 := hC0.cell 1 rfl
    have c2 := hC0.cell 2 rfl
    have b0 := hB0.cell 0 rfl
    have b1 := hB0.cell 1 rfl
    have b2 := hB0.cell 2 rfl
    go_wp2_with fail
    refine (HH.out _).mono ?_
    rintro e w1 ⟨rfl, hk1⟩
    rw [E.out]
    clear c0 c1 c2 b0 b1 b2
    go_wp2_with fail
    refine (HL.out _ (K0.trans hk1)).mono ?_
    rintro e w2 ⟨rfl, rfl⟩
    go_wp2_with fail
    refine (HU.out _).mono ?_
    rintro e w2 ⟨rfl, hk2⟩
    have k2 := hk1.trans hk2
    have hC2 := k2.at hC0 (by simp)
    have hB2 := k2.at hB0 (by simp)
    have hO2 := k2.at hO0 (by simp)
    have K2 := K0.trans k2
    have hz2 : w.heap.size + 3 ≤ w2.heap.size := hz0 ▸ k2.size
    clear hk1 hk2 k2 hC0 hB0 hO0 K0 hz0
    cases hi : isHd x with
    | false =>
      rw [unV_no hi]
      have HI := hid hi
      clear hi
      have hC3 := hC2.alloc (hdO 0 0)
      have hO3 := hO2.alloc (hdO 0 0)
      have K3 := K2.alloc (hdO 0 0)
      have f0 := hO3.free 0
      have f1 := hO3.free 1
      have f2 := hO3.free 2
      have x0 := hO3.cell 0 rfl
      have x1 := hO3.cell 1 rfl
      have x2 := hO3.cell 2 rfl
      go_upto_region 4 with fail
      go_region
      go_wp2_with fail
      have hF := ((hO3.set 0 (.int .i64 0)).set 1 (.int .i64 0)).set 2 (.int .i64 0)
      have y0 := hF.cell 0 rfl
      have y1 := hF.cell 1 rfl
      have y2 := hF.cell 2 rfl
      refine bodyPost_ret (v := .tuple #[obV 0 0 0, .int .i64 8]) (by simp [results, Tryz.results11, go_sem, y0, y1, y2]) rfl ?_
      refine .inr ⟨j, x, rfl, HJ.out.1, HJ.out.2.1, HJ.out.2.2.1, HJ.out.2.2.2, .inl ⟨fun h => ?_, rfl, (((K3.set (.inr (by show _ ≤ _ + 1 + 1; omega)) _).set (.inr (by show _ ≤ _ + 1 + 1; omega)) _).set (.inr (by show _ ≤ _ + 1 + 1; omega)) _).drew⟩⟩
      rw [HI.out] at h
      exact absurd h.1 (by decide)
    | true =>
      rw [unV_yes hi]
      have hb := (isHd_pk hi).2
      obtain ⟨n, hn⟩ : ∃ n, n = hdN x := ⟨_, rfl⟩
      obtain ⟨r, hr⟩ : ∃ r, r = hdR x := ⟨_, rfl⟩
      rw [← hn, ← hr] at hb ⊢
      have HI := hid hi
      have HNR := hid (And.intro hn hr)
      clear hi hn hr
      have hni : (n : Int) ≤ 64 := by omega
      have hri : (r : Int) ≤ 64 := by omega
      have HSZ := hid (fun (w : World) => hsize_at w n r (by omega))
      clear hb
      go_upto_region 4 with fail
      have hC3 := hC2.alloc (hdO n r)
      have hB3 := hB2.alloc (hdO n r)
      have hO3 := hO2.alloc (hdO n r)
      have hH3 := At.new w2 (hdO n r)
      have K3 := K2.alloc (hdO n r)
      obtain ⟨hb, hhb⟩ : ∃ hb, hb = w2.heap.size := ⟨_, rfl⟩
      obtain ⟨w3, hw3⟩ : ∃ w3, w3 = w2.alloc (hdO n r) := ⟨_, rfl⟩
      rw [← hw3] at hC3 hB3 hO3 hH3 K3 ⊢
      rw [← hhb] at hH3 hz2 ⊢
      clear hw3 hhb hC2 hB2 hO2 K2
      have HC : Hid (∀ w', Keeps [] w3 w' → (w'.cell? ⟨w.heap.size, 0, none⟩ = some (.int .i64 c.log) ∧ w'.cell? ⟨w.heap.size, 1, none⟩ = some (.int .i64 c.roots) ∧ w'.cell? ⟨w.heap.size, 2, none⟩ = some (.int .i64 c.space) ∧ w'.cell? ⟨w.heap.size + 1, 0, none⟩ = some (.int .i64 k) ∧ w'.cell? ⟨w.heap.size + 1, 1, none⟩ = some (.int .i64 u) ∧ w'.cell? ⟨w.heap.size + 1, 2, none⟩ = some rs ∧ w'.cell? ⟨hb, 0, none⟩ = some (.int .i64 n) ∧ w'.cell? ⟨hb, 1, none⟩ = some (.int .i64 r))) := fun w' hk => by
        have e1 := hk.at hC3 (by simp)
        have e2 := hk.at hB3 (by simp)
        have e3 := hk.at hH3 (by simp)
        exact ⟨e1.cell 0 rfl, e1.cell 1 rfl, e1.cell 2 rfl, e2.cell 0 rfl, e2.cell 1 rfl, e2.cell 2 rfl, e3.cell 0 rfl, e3.cell 1 rfl⟩
      have ew : IntKind.i64.wrap ((j : Int) + ((n : Int) + 1)) = (j : Int) + ((n : Int) + 1) := IntWalk.i64_in _ (by omega)
      clear hC3 hB3
      have kk : Keeps [] w3 w3.drew := (Keeps.refl _ _).drew
      go_region_held3 (fun w' => (w'.cell? ⟨w.heap.size, 0, none⟩ = some (.int .i64 c.log) ∧ w'.cell? ⟨w.heap.size, 1, none⟩ = some (.int .i64 c.roots) ∧ w'.cell? ⟨w.heap.size, 2, none⟩ = some (.int .i64 c.space) ∧ w'.cell? ⟨w.heap.size + 1, 0, none⟩ = some (.int .i64 k) ∧ w'.cell? ⟨w.heap.size + 1, 1, none⟩ = some (.int .i64 u) ∧ w'.cell? ⟨w.heap.size + 1, 2, none⟩ = some rs ∧ w'.cell? ⟨hb, 0, none⟩ = some (.int .i64 n) ∧ w'.cell? ⟨hb, 1, none⟩ = some (.int .i64 r)))
        (exact HC.out _ kk)
        (first
          | (go_at_call 16; refine (HSZ.out _).mono ?_; rintro e w' ⟨rfl, hk9⟩; have kk := kk.trans hk9; clear hk9)
          | (go_at_call 15; refine (HPL.out _).mono ?_; rintro e w' ⟨rfl, hk9⟩; have kk := kk.trans hk9; clear hk9))
      rename_i hHd
      clear hHd
      have hO4 := kk.at hO3 (by simp)
      have hH4 := kk.at hH3 (by simp)
      have K4 := K3.trans kk
      have f0 := hO4.free 0
      have f1 := hO4.free 1
      have f2 := hO4.free 2
      have x0 := hO4.cell 0 rfl
      have x1 := hO4.cell 1 rfl
      have x2 := hO4.cell 2 rfl
      have m0 := hH4.cell 0 rfl
      have m1 := hH4.cell 1 rfl
      by_cases hg : f + u < j + (n + 1)
      · have t1 : decide ((f : Int) + (u : Int) < (j : Int) + ((n : Int) + 1)) = true := decide_eq_true (by omega)
        have t2 : (f : Int) + (u : Int) < (j : Int) + ((n : Int) + 1) := by omega
        have HG := hid hg
        clear hg
        go_wp2_with fail
        have hF := ((hO4.set 0 (.int .i64 0)).set 1 (.int .i64 0)).set 2 (.int .i64 0)
        have y0 := hF.cell 0 rfl
        have y1 := hF.cell 1 rfl
        have y2 := hF.cell 2 rfl
        refine bodyPost_ret (v := .tuple #[obV 0 0 0, .int .i64 8]) (by simp [results, Tryz.results11, go_sem, y0, y1, y2]) rfl ?_
        refine .inr ⟨j, x, rfl, HJ.out.1, HJ.out.2.1, HJ.out.2.2.1, HJ.out.2.2.2, .inl ⟨fun h => ?_, rfl, ((K4.set (.inr (by show _ ≤ _ + 1 + 1; omega)) _).set (.inr (by show _ ≤ _ + 1 + 1; omega)) _).set (.inr (by show _ ≤ _ + 1 + 1; omega)) _⟩⟩
        have := HG.out
        rw [← HFE.out, ← HNR.out.1] at h
        omega
      · have t1 : decide ((f : Int) + (u : Int) < (j : Int) + ((n : Int) + 1)) = false := decide_eq_false (by omega)
        have t2 : (j : Int) + ((n : Int) + 1) ≤ (f : Int) + (u : Int) := by omega
        have HG := hid hg
        clear hg
        go_wp2_with fail
        have hF := ((hO4.set 0 (.int .i64 n)).set 1 (.int .i64 r)).set 2 (.int .i64 j)
        have y0 := hF.cell 0 rfl
        have y1 := hF.cell 1 rfl
        have y2 := hF.cell 2 rfl
        refine bodyPost_ret (v := .tuple #[obV n r j, .int .i64 0]) (by simp [results, Tryz.results11, go_sem, y0, y1, y2]) rfl ?_
        refine .inr ⟨j, x, rfl, HJ.out.1, HJ.out.2.1, HJ.out.2.2.1, HJ.out.2.2.2, .inr ⟨HI.out, ?_, by rw [HNR.out.1, HNR.out.2], ((K4.set (.inr (by show _ ≤ _ + 1 + 1; omega)) _).set (.inr (by show _ ≤ _ + 1 + 1; omega)) _).set (.inr (by show _ ≤ _ + 1 + 1; omega)) _⟩⟩
        have := HG.out
        rw [← HFE.out, ← HNR.out.1]
        omega

/-- The same, of an answer in parts. -/
def OfD (S : DS) (c : Cfg) (k u : Nat) (z n r zz code : Int) : Prop :=
  (¬ ((c.frm k : Int) ≤ z ∧ z < (c.frm k : Int) + (u : Int)) ∧ n = 0 ∧ r = 0 ∧ zz = 0 ∧ code = 6) ∨
  (∃ j x : Nat, z = (j : Int) ∧ c.frm k ≤ j ∧ j < c.frm k + u ∧ S.now j = (x : Int) ∧ x < 18446744073709551616 ∧
    ((¬ (isHd x = true ∧ j + (hdN x + 1) ≤ c.frm k + u) ∧ n = 0 ∧ r = 0 ∧ zz = 0 ∧ code = 8) ∨
     (isHd x = true ∧ j + (hdN x + 1) ≤ c.frm k + u ∧ n = (hdN x : Nat) ∧ r = (hdR x : Nat) ∧ zz = z ∧ code = 0)))

theorem of_any (w : World) (p : Nat) (a : DA) (S : DS) (h : Dev w p a S) (c : Cfg) (hc : c.Ok) (hcn : c.words = a.n) (k : Nat) (hk : k ≤ 1) (u : Nat) (hu : u ≤ c.space) (rs : Value) (z : Int) (hz : -9223372036854775808 ≤ z ∧ z < 9223372036854775808)
    (hx : ∀ j : Nat, z = (j : Int) → c.frm k ≤ j → j < c.frm k + u → ∃ x : Nat, S.now j = (x : Int) ∧ x < 18446744073709551616) :
    Calls Tryz.prog 11 #[ptr a.d, cfgV c, bkV k u rs, .int .i64 z] w fun e w' => ∃ n r zz code, e = .returned (.tuple #[obV n r zz, .int .i64 code]) ∧ Keeps [] w w' ∧ Hid (OfD S c k u z n r zz code) := by
  refine (of_at w p a S h c hc hcn k hk u hu rs z hz hx).mono ?_
  rintro e w' (⟨h1, rfl, hk'⟩ | ⟨j, x, h0, h1, h2, h3, h4, ⟨h5, rfl, hk'⟩ | ⟨h5, h6, rfl, hk'⟩⟩)
  · exact ⟨0, 0, 0, 6, rfl, hk', .inl ⟨h1, rfl, rfl, rfl, rfl⟩⟩
  · exact ⟨0, 0, 0, 8, rfl, hk', .inr ⟨j, x, h0, h1, h2, h3, h4, .inl ⟨h5, rfl, rfl, rfl, rfl⟩⟩⟩
  · exact ⟨_, _, z, 0, by rw [h0], hk', .inr ⟨j, x, h0, h1, h2, h3, h4, .inr ⟨h5, h6, rfl, rfl, rfl, rfl⟩⟩⟩

theorem hdPk_lt {n r : Nat} (hn : n ≤ 64) (hr : r ≤ n) : hdPk n r < 18446744073709551616 := by unfold hdPk; omega

/-- Of, at a head's place. -/
theorem of_head (w : World) (p : Nat) (a : DA) (S : DS) (h : Dev w p a S) (c : Cfg) (hc : c.Ok) (hcn : c.words = a.n) (k : Nat) (hk : k ≤ 1) (u : Nat) (hu : u ≤ c.space) (rs : Value) (P n r : Nat) (hw : S.now (c.frm k + P) = ((hdPk n r : Nat) : Int)) (hn : n ≤ 64) (hr : r ≤ n) (hP : P + 1 + n ≤ u) (z : Int) (hz : z = ((c.frm k + P : Nat) : Int)) :
    Calls Tryz.prog 11 #[ptr a.d, cfgV c, bkV k u rs, .int .i64 z] w fun e w' => e = .returned (.tuple #[obV n r z, .int .i64 0]) ∧ Keeps [] w w' := by
  have hf := frm_le hc.small (show k ≤ 2 by omega)
  have hs := hc.small.2.2
  refine (of_at w p a S h c hc hcn k hk u hu rs z (by omega) (fun j hj _ _ => ?_)).mono ?_
  · obtain rfl : c.frm k + P = j := by omega
    exact ⟨_, hw, hdPk_lt hn hr⟩
  · rintro e w' (⟨h1, _⟩ | ⟨j, x, h0, _, _, hx, hxb, hd⟩)
    · exact absurd ⟨by omega, by omega⟩ h1
    · obtain rfl : c.frm k + P = j := by omega
      rw [hw] at hx
      obtain rfl : hdPk n r = x := by omega
      rw [hdN_pk n r hn, hdR_pk n r hn hr] at hd
      rcases hd with ⟨h1, _⟩ | ⟨_, _, rfl, hk'⟩
      · exact absurd ⟨isHd_of_pk n r hn hr, by omega⟩ h1
      · exact ⟨by rw [h0], hk'⟩

/-- A word is stored, the power without end. -/
theorem store_free (w : World) (p : Nat) (a : DA) (u : Int) (S : DS) (h : Pw w p a (-1) u S) (hb : u ≤ 1000000000000) (z v : Int) (hz : 0 ≤ z ∧ z < a.n) :
    Calls Tryz.prog 9 #[ptr a.d, .int .i64 z, .int .u64 v] w fun e w' => e = .returned (.int .i64 0) ∧ Hid (Pw w' p a (-1) (u + 1) (execs S [.st z.toNat v]) ∧ Keeps [p, a.s, a.k, a.m] w w') := by
  obtain ⟨j, rfl⟩ : ∃ j : Nat, z = (j : Int) := ⟨z.toNat, by omega⟩
  refine (store_ran w p a (-1) u S j v h (by omega) (by omega)).mono ?_
  intro e w' hr
  obtain ⟨rfl, h1, h2⟩ := hr.free h.lo
  rw [Int.toNat_natCast]
  exact ⟨rfl, by simpa using h1, h2⟩

/-- A number or a name that is set, by a device's own Store: what stands behind it. -/
def setS (S : DS) (z i v e0 : Int) : DS := if e0 = 0 then execs S [.st (z + 1 + i).toNat v] else S

theorem setS_no {S : DS} {z i v e0 : Int} (h : e0 ≠ 0) : setS S z i v e0 = S := by simp [setS, h]
theorem setS_yes {S : DS} {z i v : Int} (j : Nat) : (setS S z i v 0).now j = if j = (z + 1 + i).toNat then v else S.now j := by
  unfold setS
  rw [if_pos rfl]
  rfl

/-- What Write and Point come to, by a device's own Store, its power without end. -/
def WrF (p : Nat) (a : DA) (u : Int) (S : DS) (z i v e0 : Int) (w : World) (e : Ending) (w' : World) : Prop :=
  e = .returned (.int .i64 e0) ∧ Hid (∃ u', Pw w' p a (-1) u' (setS S z i v e0) ∧ u' ≤ u + 1 ∧ Keeps [p, a.s, a.k, a.m] w w')

theorem store_at (w : World) (p : Nat) (a : DA) (u : Int) (S : DS) (h : Pw w p a (-1) u S) (hb : u ≤ 1000000000000) (z v : Int) (hz : 0 ≤ z ∧ z < a.n) :
    Calls Tryz.prog 9 (#[ptr a.d] ++ (#[.int .i64 z, .int .u64 v] ++ #[])) w fun e w' =>
      (∃ code, e = .returned (.int .i64 code) ∧ code = 0 ∧ Pw w' p a (-1) (u + 1) (execs S [.st z.toNat v]) ∧ Keeps [p, a.s, a.k, a.m] w w') ∨ (e = .panicked [{ v := goneV, recovered := false }] ∧ False) := by
  obtain ⟨j, rfl⟩ : ∃ j : Nat, z = (j : Int) := ⟨z.toNat, by omega⟩
  refine (store_ran w p a (-1) u S j v h (by omega) (by omega)).mono ?_
  intro e w' hr
  obtain ⟨rfl, h1, h2⟩ := hr.free h.lo
  rw [Int.toNat_natCast]
  exact .inl ⟨0, rfl, rfl, by simpa using h1, h2⟩

theorem owrite_free (w : World) (p : Nat) (a : DA) (u : Int) (S : DS) (h : Pw w p a (-1) u S) (hb : u ≤ 1000000000000) (n r z i v : Int) (hn : 0 ≤ n ∧ n ≤ 64) (hz : 0 ≤ z ∧ z + n < a.n) :
    Calls Tryz.prog 37 #[obV n r z, .int .i64 i, .int .u64 v, .func (.func 9) #[ptr a.d] #[]] w (WrF p a u S z i v (fldE n r i false) w) := by
  have hfew := h.dev.few
  have hn8 := a.n8
  refine (owrite_at (F := 9) (first := #[ptr a.d]) (cap := #[]) w n r z i v (fun w1 code w' => code = 0 ∧ Pw w' p a (-1) (u + 1) (execs S [.st (z + 1 + i).toNat v]) ∧ Keeps [p, a.s, a.k, a.m] w1 w') (fun _ _ => False) hn.2 ⟨hz.1, by omega⟩ (free_storer p a u hb).inv (fun h1 h2 w1 hk => store_at w1 p a u S (h.keep0 hk) hb (z + 1 + i) v (by omega))).mono ?_
  rintro e w' (⟨h3, rfl, hk⟩ | ⟨h3, w1, hk, ⟨code, rfl, rfl, hP, hk1⟩ | ⟨_, h4⟩⟩)
  · refine ⟨rfl, u, ?_, by omega, hk.mono (by simp)⟩
    rw [setS_no h3]
    exact h.keep0 hk
  · refine ⟨by rw [h3], u + 1, ?_, by omega, (hk.mono (by simp)).trans hk1⟩
    rw [h3]
    unfold setS
    rw [if_pos rfl]
    exact hP
  · exact h4.elim

theorem opoint_free (w : World) (p : Nat) (a : DA) (u : Int) (S : DS) (h : Pw w p a (-1) u S) (hb : u ≤ 1000000000000) (n r z i t v : Int) (hv : IntKind.u64.wrap t = v) (hn : 0 ≤ n ∧ n ≤ 64) (hz : 0 ≤ z ∧ z + n < a.n) :
    Calls Tryz.prog 33 #[obV n r z, .int .i64 i, .int .i64 t, .func (.func 9) #[ptr a.d] #[]] w (WrF p a u S z i v (fldE n r i true) w) := by
  have hfew := h.dev.few
  have hn8 := a.n8
  refine (opoint_at (F := 9) (first := #[ptr a.d]) (cap := #[]) w n r z i t (fun w1 code w' => code = 0 ∧ Pw w' p a (-1) (u + 1) (execs S [.st (z + 1 + i).toNat v]) ∧ Keeps [p, a.s, a.k, a.m] w1 w') (fun _ _ => False) hn.2 ⟨hz.1, by omega⟩ (free_storer p a u hb).inv (fun h1 h2 w1 hk => by rw [hv]; exact store_at w1 p a u S (h.keep0 hk) hb (z + 1 + i) v (by omega))).mono ?_
  rintro e w' (⟨h3, rfl, hk⟩ | ⟨h3, w1, hk, ⟨code, rfl, rfl, hP, hk1⟩ | ⟨_, h4⟩⟩)
  · refine ⟨rfl, u, ?_, by omega, hk.mono (by simp)⟩
    rw [setS_no h3]
    exact h.keep0 hk
  · refine ⟨by rw [h3], u + 1, ?_, by omega, (hk.mono (by simp)).trans hk1⟩
    rw [h3]
    unfold setS
    rw [if_pos rfl]
    exact hP
  · exact h4.elim

/-- Names: a function over the object and its device, each in a box. -/
theorem onames_at (w : World) (n r z : Int) (d : Nat) :
    Calls Tryz.prog 38 #[obV n r z, ptr d] w fun e w' => e = .returned (.func (.func 48) #[] #[ptr w.heap.size, ptr (w.heap.size + 1)]) ∧ (w.alloc (obO n r z)).alloc (.cells #[ptr d] 28) = w' := by
  go_enter Tryz.func38, Tryz.ntmps38
  go_wp2_with fail
  go_ret
  exact ⟨rfl, rfl⟩

end Go.Proofs.YtcdlikblebdfkaaGreat
