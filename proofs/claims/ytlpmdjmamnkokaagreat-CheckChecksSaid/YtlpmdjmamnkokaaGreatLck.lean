/- Is a heap whole, by definition: the law's own Check's contract. -/
import Derived.Test.YtlpmdjmamnkokaaGreatChk
import Derived.Deep.RegionHeld3
import Derived.BigQuiet
namespace Go.Proofs.YtlpmdjmamnkokaaGreat
open Go.RowKit Go.OpenShut

/-- append of a word, at a step of a region, to rows of any length that a device's words have. -/
theorem appU_many {ops : Array Oper} {rest : List Oper} {o : Oper} {a : Act} {w : World} {Q : Exit → Act → World → Prop} (hgd : o.guard = none) (s x : Operand)
    (ho : o.op = .call { callee := .builtin .append, args := #[s, x], argTypes := #[32, 32] })
    (B : Nat) (xx : Option Addr) (cp n : Nat) (f : Nat → Int) (hs : a.eval s = .slice xx n cp) (hown : OwnU w B xx cp n f) (b c : Nat) (v : Int) (hx : a.eval x = .slice (some ⟨b, 0, none⟩) 1 c) (hc : w.cell? ⟨b, 0, none⟩ = some (.int .u64 v))
    (hn : n ≤ 100000) (hB : B ≤ w.heap.size)
    (h : ∀ g cap w', OwnU w' B (some ⟨g, 0, none⟩) cap (n + 1) (put f n v) → Keeps (blkL xx) w w' → (blkL xx = [g] ∨ w.heap.size ≤ g) → wpList Tryz.prog ops Q rest (a.put o.dst (.slice (some ⟨g, 0, none⟩) (n + 1) cap)) w') :
    wpList Tryz.prog ops Q (o :: rest) a w := by
  have hi : ∃ i, Tryz.prog.info? 27 = some i ∧ (i.zero, i.size, i.bytes) = (some (.int .u64 0), 1, 8) := by
    have h : (Tryz.prog.info? 27).map (fun i => (i.zero, i.size, i.bytes)) = some (some (.int .u64 0), 1, 8) := by kernel_rfl
    exact Option.map_eq_some_iff.1 h
  obtain ⟨ti, hi1, hi2⟩ := hi
  simp only [Prod.mk.injEq] at hi2
  obtain ⟨hz, hsz, hby⟩ := hi2
  refine wpList_append_own_at w hgd s x 32 ho B 27 ti (.int .u64 0) 1 8 Tryz.underlying32 hi1 hz hsz hby rfl (by omega) _ n _ hs hown ⟨b, 0, none⟩ 1 c [.int .u64 v] hx rfl (fun j u hj => ?_) (by simp [Value.oneCell']) (by unfold maxLen; omega) (by omega) hB ?_
  · cases j with
    | zero => simp at hj; subst hj; exact hc
    | succ j => simp at hj
  · intro v' w' h1 h2 h3 h4
    have hne : v' ≠ .slice none 0 0 := fun e => by have := (h3.1 e).2; omega
    have h1' := h1
    obtain ⟨_, ⟨rfl, _⟩ | ⟨g, cap, cur, rfl, hB', hg, h5⟩⟩ := h1'
    · exact absurd rfl hne
    · rw [range_put_u] at h1
      refine h g cap w' h1 (grown_keeps h2) ?_
      rcases h4 with h4 | h4
      · left
        cases xx with
        | none => simp [Value.ownBlock] at h4
        | some a => simp [Value.ownBlock] at h4; simp [blkL]; exact h4.symm
      · right
        simp [Value.ownBlock] at h4; omega

set_option maxHeartbeats 1000000 in
theorem indexU_at (w : World) (x : Option Addr) (n cp : Nat) (f : Nat → Nat) (B i : Nat) (h : OwnU w B x cp n fun j => (f j : Nat)) (hn : n ≤ 100000) :
    Calls Tryz.prog 59 #[.slice x n cp, .int .u64 i] w fun e w' => ((∃ k : Nat, k < n ∧ f k = i ∧ e = .returned (.int .i64 k)) ∨ ((∀ k, k < n → f k ≠ i) ∧ e = .returned (.int .i64 (-1)))) ∧ w = w' := by
  have hni : (n : Int) ≤ 100000 := by omega
  have HF := hid h.form
  clear h
  go_enter Tryz.func59, Tryz.ntmps59
  go_wp2_with fail
  go_loopg [8] n (fun r sl wr => ∃ k : Nat, k + r = n ∧ sl = .int .i64 k ∧ w = wr ∧ ∀ j, j < k → f j ≠ i)
  case atStart => exact ⟨0, by omega, rfl, rfl, fun j hj => by omega⟩
  case round =>
    obtain ⟨k, hk, rfl, rfl, hno⟩ := hrel
    have HNO := hid hno
    clear hno
    by_cases hlt : k < n
    · obtain ⟨g, cur, rfl, hg, hA, hcur⟩ : ∃ g cur, x = some ⟨g, 0, none⟩ ∧ B ≤ g ∧ At w g (.cells cur 27) ∧ ∀ i, i < n → cur[i]? = some (.int .u64 (f i : Nat)) := by
        rcases HF.out with ⟨_, h⟩ | h
        · omega
        · exact h
      have d0 : w.cell? ⟨g, k, none⟩ = some (.int .u64 (f k : Nat)) := hA.cell k (hcur k hlt)
      have hki : (k : Int) ≤ 100000 := by omega
      obtain ⟨z, hz⟩ : ∃ z, z = f k := ⟨_, rfl⟩
      rw [← hz] at d0
      have HZ := hid hz
      clear hz hcur
      by_cases hiz : i = z
      · subst hiz
        go_wp2_with fail
        go_ret
        exact ⟨.inl ⟨k, hlt, HZ.out.symm, rfl⟩, rfl⟩
      · have t1 : ((i : Int) == (z : Int)) = false := by rw [beq_eq_false_iff_ne]; omega
        have t2 : (i == z) = false := by rw [beq_eq_false_iff_ne]; exact hiz
        have HIZ := hid hiz
        clear hiz
        go_wp2_with fail
        go_roundg (n - (k + 1))
        case measure => omega
        case rel => exact ⟨k + 1, by omega, by go_num, rfl, fun j hj => by
          by_cases hjk : j = k
          · subst hjk; rw [← HZ.out]; exact fun e => HIZ.out e.symm
          · exact HNO.out j (by omega)⟩
    · have hkn : k = n := by omega
      subst hkn
      go_wp2_with fail
      go_ret
      exact ⟨.inr ⟨HNO.out, rfl⟩, rfl⟩

set_option maxHeartbeats 1000000 in
theorem containsU_at (w : World) (x : Option Addr) (n cp : Nat) (f : Nat → Nat) (B i : Nat) (h : OwnU w B x cp n fun j => (f j : Nat)) (hn : n ≤ 100000) :
    Calls Tryz.prog 39 #[.slice x n cp, .int .u64 i] w fun e w' => e = .returned (.bool ((List.range n).any fun j => f j == i)) ∧ w = w' := by
  have HI := hid (indexU_at w x n cp f B i h hn)
  clear h
  go_enter Tryz.func39, Tryz.ntmps39
  go_wp2_with fail
  refine HI.out.mono ?_
  rintro e w1 ⟨⟨k, h1, h2, rfl⟩ | ⟨h1, rfl⟩, rfl⟩
  · have HE : Hid (((List.range n).any fun j => f j == i) = true) := by
      show _ = _
      rw [List.any_eq_true]
      exact ⟨k, List.mem_range.2 h1, by rw [h2]; exact beq_self_eq_true i⟩
    have hk0 : (0 : Int) ≤ (k : Int) := by omega
    clear h2
    go_wp2_with fail
    go_ret
    rw [HE.out]
    simp
  · have HE : Hid (((List.range n).any fun j => f j == i) = false) := by
      show _ = _
      rw [List.any_eq_false]
      exact fun j hj => by simpa using h1 j (List.mem_range.1 hj)
    clear h1
    go_wp2_with fail
    go_ret
    rw [HE.out]
    simp

set_option maxRecDepth 100000 in
set_option maxHeartbeats 4000000 in
/-- The law's own question of a word. -/
theorem lnames_at (w : World) (qb : Nat) (c : Cfg) (k : Nat) (l : List (Nat × Nat)) (y : Option Addr) (cy B : Nat) (hA : At w qb (.cells #[.slice y l.length cy] 32)) (hO : OwnU w B y cy l.length fun j => ((c.frm k + posL l j : Nat) : Int)) (hn : l.length ≤ 100000) (v : Nat) :
    Calls Tryz.prog 38 #[.int .u64 v, ptr qb] w fun e w' => e = .returned (.bool (okW c k l v)) ∧ w = w' := by
  have HI := hid (containsU_at w y l.length cy (fun j => c.frm k + posL l j) B v hO hn)
  have c0 := hA.cell 0 rfl
  clear hO hn hA
  go_enter Tryz.func38, Tryz.ntmps38
  by_cases h0 : v = 0
  · have t1 : ((v : Int) == 0) = true := by subst h0; rfl
    have HV : Hid (okW c k l v = true) := okW_iff.2 (.inl (by omega))
    clear h0
    go_wp2_with fail
    go_ret
    exact ⟨by rw [HV.out]; rfl, rfl⟩
  · have t1 : ((v : Int) == 0) = false := by rw [beq_eq_false_iff_ne]; omega
    have HV : Hid (okW c k l v = (List.range l.length).any fun j => c.frm k + posL l j == v) := by
      show _ = _
      rw [Bool.eq_iff_iff, okW_iff, List.any_eq_true]
      constructor
      · rintro (h | ⟨i, hi, he⟩)
        · omega
        · exact ⟨i, List.mem_range.2 hi, by rw [beq_iff_eq]; omega⟩
      · rintro ⟨i, hi, he⟩
        rw [beq_iff_eq] at he
        exact .inr ⟨i, List.mem_range.1 hi, by omega⟩
    clear h0
    go_wp2_with fail
    refine HI.out.mono ?_
    rintro e w1 ⟨rfl, rfl⟩
    rw [← HV.out]
    go_wp2_with fail
    go_ret
    exact ⟨rfl, rfl⟩

theorem and_low32 (X : Nat) (h : X < 18446744073709551616) : bits .and .u64 (X : Int) 4294967295 = ((X % 4294967296 : Nat) : Int) := by
  have h1 := u64_and_nat X 4294967295 h (by decide)
  have h2 : X &&& 4294967295 = X % 4294967296 := Nat.and_two_pow_sub_one_eq_mod X 32
  rw [h2] at h1
  exact h1
theorem and_low24 (X : Nat) (h : X < 18446744073709551616) : bits .and .u64 (X : Int) 16777215 = ((X % 16777216 : Nat) : Int) := by
  have h1 := u64_and_nat X 16777215 h (by decide)
  have h2 : X &&& 16777215 = X % 16777216 := Nat.and_two_pow_sub_one_eq_mod X 24
  rw [h2] at h1
  exact h1

/-- Between two heads. -/
def StR (qb : Nat) (c : Cfg) (k : Nat) (l : List (Nat × Nat)) (i : Nat) (w1 wr : World) : Prop :=
  ∃ y cy, At wr qb (.cells #[.slice y i cy] 32) ∧ OwnU wr (qb + 1) y cy i (fun j => ((c.frm k + posL l j : Nat) : Int)) ∧ Keeps [qb] w1 wr

set_option maxRecDepth 100000 in
set_option maxHeartbeats 4000000 in
theorem lchk_at (w : World) (p : Nat) (a : DA) (S : DS) (c : Cfg) (hD : Dev w p a S) (hc : c.Ok) (hcn : c.words = a.n) (k u : Nat) (l : List (Nat × Nat)) (er : Bool) (hk : k ≤ 1) (ha : S.now c.act = (k : Int)) (hu : S.now (c.act + 1) = (u : Int)) (hch : Chn S c k u l er)
    (hw : WdU S c k) :
    Calls Tryz.prog 13 #[ptr a.d, cfgV c] w fun e w' => e = .returned (.int .i64 (ckC S c k l er)) ∧ Keeps [] w w' := by
  have hs := hc.small
  have hfit := hch.fits
  have hle := hch.le
  have hll := len_le l
  have hfr := frm_le hs (show k ≤ 2 by omega)
  have hsp := hs.2.2
  have hai : (c.act : Int) ≤ 823 := by have := act_le hs; omega
  have hki : (k : Int) ≤ 1 := by omega
  have hui : (u : Int) ≤ 4096 := by omega
  have hsi : (c.space : Int) ≤ 4096 := by omega
  have hus : (u : Int) ≤ (c.space : Int) := by omega
  have hin : Hid (c.act + 2 ≤ a.n) := by
    have := (places hc).2.1
    show _ ≤ _
    omega
  have HSP : Hid (c.frm k + c.space ≤ a.n) := by
    have h4 := frm_space (c := c) k (by omega)
    show _ ≤ _
    omega
  have HRT : Hid (∀ i, i < c.roots → c.root i < a.n) := fun i hi => by
    have := (root_lt hi).2
    have := frm_space (c := c) 0 (by omega)
    omega
  have HB := hid (And.intro hfit (And.intro hle (And.intro hll (And.intro hfr hsp))))
  have HC := hid (And.intro hc (And.intro hcn hk))
  have HW := hid hw
  have HCH := hid hch
  have E1 : Hid (S.now (c.act : Int).toNat = (k : Int)) := by show _ = _; rw [Int.toNat_natCast, ha]
  have E2 : Hid (S.now ((c.act : Int) + 1).toNat = (u : Int)) := by show _ = _; rw [show ((c.act : Int) + 1).toNat = c.act + 1 by omega, hu]
  clear hfit hle hll hfr hsp hc hcn hk hw hch ha hu
  go_enter Tryz.func13, Tryz.ntmps13
  go_upto_region 1 with fail
  have hC0 := At.new w (cfgO c)
  have K0 := (Keeps.refl [] w).alloc (cfgO c)
  obtain ⟨w0, hw0⟩ : ∃ w0, w0 = w.alloc (cfgO c) := ⟨_, rfl⟩
  have D0 := hD.keep K0 (by simp) (by simp) (by simp) (by simp)
  rw [← hw0] at hC0 K0 D0 ⊢
  obtain ⟨q0, hq0⟩ : ∃ q, q = w.heap.size := ⟨_, rfl⟩
  rw [← hq0] at hC0 ⊢
  have HQ0 : Hid (w0.heap.size = q0 + 1 ∧ q0 = w.heap.size) := ⟨by rw [hw0, hq0]; simp, hq0⟩
  have HDL : Hid (a.d < q0 ∧ a.s < q0 ∧ a.k < q0 ∧ a.m < q0) := ⟨by have := hD.dev.lt; omega, by have := hD.now.lt; omega, by have := hD.kept.lt; omega, by have := hD.map.lt; omega⟩
  clear hw0 hq0 hD
  have HCL : Hid (∀ w', Keeps [] w0 w' → (w'.cell? ⟨q0, 0, none⟩ = some (.int .i64 c.log) ∧ w'.cell? ⟨q0, 1, none⟩ = some (.int .i64 c.roots) ∧ w'.cell? ⟨q0, 2, none⟩ = some (.int .i64 c.space))) :=
    fun w' hk => ⟨(hk.at hC0 (by simp)).cell 0 rfl, (hk.at hC0 (by simp)).cell 1 rfl, (hk.at hC0 (by simp)).cell 2 rfl⟩
  have HL := hid (fun (w' : World) (hk : Keeps [] w0 w') (z : Int) (hz : 0 ≤ z ∧ z < a.n) => loadI_in w' p a S z (D0.keep hk (by simp) (by simp) (by simp) (by simp)) hz)
  have kk : Keeps [] w0 w0.drew := (Keeps.refl _ _).drew
  go_region_held3 (fun w' => w'.cell? ⟨q0, 0, none⟩ = some (.int .i64 c.log) ∧ w'.cell? ⟨q0, 1, none⟩ = some (.int .i64 c.roots) ∧ w'.cell? ⟨q0, 2, none⟩ = some (.int .i64 c.space))
    (exact HCL.out _ kk)
    (first
      | (go_at_call 11; refine (active_at _ c hs).mono ?_; rintro e w' ⟨rfl, hk1⟩; have kk := kk.trans hk1; clear hk1)
      | (go_at_call 17; refine (usedw_at _ c hs).mono ?_; rintro e w' ⟨rfl, hk1⟩; have kk := kk.trans hk1; clear hk1)
      | (go_at_call 37; refine (HL.out _ kk _ (by have := hin.out; omega)).mono ?_; rintro e w' ⟨rfl, rfl⟩; (first | rw [E1.out] | rw [E2.out])))
  rename_i hwx1 wx1 wx2 hHd
  clear hHd
  have hC1 := kk.at hC0 (by simp)
  have D1 := D0.keep kk (by simp) (by simp) (by simp) (by simp)
  have K1 := K0.trans kk
  have hz1 : q0 + 1 ≤ w'.heap.size := by have := kk.size; have := HQ0.out; omega
  clear HL HCL hC0 D0 K0 kk hwx1 wx2 wx1
  have c0 := hC1.cell 0 rfl
  have c1 := hC1.cell 1 rfl
  have c2 := hC1.cell 2 rfl
  have t1 : decide ((1 : Int) < (k : Int)) = false := decide_eq_false (by omega)
  have t2 : decide ((c.space : Int) < (u : Int)) = false := decide_eq_false (by omega)
  have g1 : IntKind.u64.wrap (c.space : Int) = (c.space : Int) := IntWalk.u64_in _ (by omega)
  have g2 : IntKind.i64.wrap (k : Int) = (k : Int) := IntWalk.i64_in _ (by omega)
  have g3 : IntKind.i64.wrap (u : Int) = (u : Int) := IntWalk.i64_in _ (by omega)
  go_wp2_with fail
  refine (from_at w' c hs k (by omega)).mono ?_
  rintro e w2 ⟨rfl, k12⟩
  obtain ⟨ff, hff⟩ : ∃ ff, ff = c.frm k := ⟨_, rfl⟩
  have hfi : (ff : Int) ≤ 20000 := by have := HB.out; omega
  rw [← hff]
  have HFF := hid hff
  have hC2 := k12.at hC1 (by simp)
  have HD2 := hid (D1.keep k12 (by simp) (by simp) (by simp) (by simp))
  have HK2 := hid (K1.trans k12)
  have HZ2 : Hid (q0 + 1 ≤ w2.heap.size) := by show _ ≤ _; have := k12.size; omega
  have HC2 := hid hC2
  clear hff hC1 D1 K1 k12 hz1 c0 c1 c2 hC2
  go_upto_region 7 with fail
  have hA3 := At.new w2 (.cells #[.slice none 0 0] 32)
  have k23 := (Keeps.refl [] w2).alloc (.cells #[.slice none 0 0] 32)
  obtain ⟨w3, hw3⟩ : ∃ w3, w3 = w2.alloc (.cells #[.slice none 0 0] 32) := ⟨_, rfl⟩
  obtain ⟨qb, hqb⟩ : ∃ q, q = w2.heap.size := ⟨_, rfl⟩
  have hz3 : w3.heap.size = qb + 1 := by rw [hw3, hqb]; simp
  rw [← hw3] at hA3 k23 ⊢
  rw [← hqb] at hA3 ⊢
  have HQB : Hid (q0 + 1 ≤ qb ∧ w3.heap.size = qb + 1 ∧ w.heap.size ≤ qb) := ⟨by have := HZ2.out; omega, hz3, by have := HZ2.out; have := HQ0.out; omega⟩
  have HC3 := hid (k23.at HC2.out (by simp))
  have HD3 := hid (HD2.out.keep k23 (by simp) (by simp) (by simp) (by simp))
  have HK3 := hid (HK2.out.trans k23)
  have HA3 := hid hA3
  obtain ⟨ze, hze⟩ : ∃ ze, ze = ff + u := ⟨_, rfl⟩
  have hzs : (ff : Int) + (u : Int) = (ze : Int) := by omega
  have hzeb : (ze : Int) ≤ 30000 := by omega
  have HZE := hid hze
  rw [hzs]
  clear hw3 hqb hz3 HC2 HD2 HK2 hA3 k23 hze hzs
  go_wp2_with fail
  go_loopg [10] l.length (fun rr s wr => ∃ i zi : Nat, i + rr = l.length ∧ zi = c.frm k + posL l i ∧ s = .int .i64 zi ∧ StR qb c k l i w3 wr)
  case atStart => exact ⟨0, ff, by omega, by rw [HFF.out, posL_zero, Nat.add_zero], rfl, none, 0, HA3.out, ownU_nil _ _ _, Keeps.refl _ _⟩
  case round =>
    obtain ⟨i, zi, hi, hzi, rfl, y, cy, hA, hO, hK⟩ := hrel
    have hpm := pos_mono (os := l) (i := i) (j := l.length) (by omega) (Nat.le_refl _)
    rw [posL_all] at hpm
    have hzb : (zi : Int) ≤ 30000 := by have := HB.out; omega
    have hqb := HQB.out
    have hC := hK.at HC3.out (by simp; omega)
    have hdl := HDL.out
    have hD := HD3.out.keep hK (by simp; omega) (by simp; omega) (by simp; omega) (by simp; omega)
    have HA := hid hA
    have HO := hid hO
    have HK := hid hK
    have HCr := hid hC
    have HD := hid hD
    have HII := hid (And.intro hi (And.intro hzi hpm))
    by_cases hil : i < l.length
    · obtain ⟨hn64, hrn, hwd⟩ := HCH.out.head i _ (nL_in hil)
      have hn64 : nL l i ≤ 64 := hn64
      have hrn : rL l i ≤ nL l i := hrn
      have hpe := posN_end hil
      have hps := posN_succ hil
      obtain ⟨nn, hnn⟩ : ∃ nn, nn = nL l i := ⟨_, rfl⟩
      obtain ⟨rr, hrr⟩ : ∃ rr, rr = rL l i := ⟨_, rfl⟩
      obtain ⟨X, hX⟩ : ∃ X, X = hdPk nn rr := ⟨_, rfl⟩
      have hwz : S.now zi = (X : Int) := by rw [hzi, hX, hnn, hrr]; exact hwd
      have hX1 : X / 4294967296 = 45312 * 65536 + rr ∧ X % 4294967296 = nn := by rw [hX]; unfold hdPk; rw [← hnn] at hn64; rw [← hrr, ← hnn] at hrn; omega
      have HLD := hid (load_in wr p a S zi hD (by have := HB.out; have := HSP.out; omega))
      rw [hwz] at HLD
      obtain ⟨Y, hY⟩ : ∃ Y, Y = 2969567232 + rr := ⟨_, rfl⟩
      rw [← hrr, ← hnn] at hrn
      rw [← hnn] at hn64 hps hpe
      have e1 : (X : Int) / 4294967296 = (Y : Int) := by omega
      have e2 : bits .and .u64 (Y : Int) 16777215 = (rr : Int) := by rw [and_low24 Y (by omega), show Y % 16777216 = rr by omega]
      have e3 : bits .and .u64 (X : Int) 4294967295 = (nn : Int) := by rw [and_low32 X (by omega), hX1.2]
      have e4 : (X : Int) / 72057594037927936 = 177 := by omega
      have hni : (nn : Int) ≤ 64 := by omega
      have hri : (rr : Int) ≤ (nn : Int) := by omega
      have hzl : (zi : Int) < (ze : Int) := by have := HB.out; have := HZE.out; have := HFF.out; omega
      have t1 : decide ((zi : Int) < (ze : Int)) = true := decide_eq_true hzl
      have hle : (zi : Int) + 1 + (nn : Int) ≤ (ze : Int) := by have := HB.out; have := HZE.out; have := HFF.out; omega
      have t5 : decide ((ze : Int) < (zi : Int) + 1 + (nn : Int)) = false := decide_eq_false (by omega)
      have t6 : decide ((64 : Int) < (nn : Int)) = false := decide_eq_false (by omega)
      have t7 : decide ((nn : Int) < (rr : Int)) = false := decide_eq_false (by omega)
      have HNX : Hid (zi + (nn + 1) = c.frm k + posL l (i + 1)) := by show _ = _; omega
      have HIL := hid hil
      clear hi hzi hpm hqb hdl hn64 hrn hwd hpe hps hnn hrr hX hwz hX1 hY hil hA hO hK hC hD
      go_wp2_with fail
      refine HLD.out.mono ?_
      rintro e w4 ⟨rfl, rfl⟩
      have c0 := HCr.out.cell 0 rfl
      go_upto_region 13 with fail
      have hAX := HA.out.alloc (.cells #[.int .u64 (zi : Nat)] 27)
      have hcX := (At.new wr (.cells #[.int .u64 (zi : Nat)] 27)).cell 0 rfl
      have HOX := hid (HO.out.keep ((Keeps.refl [] wr).alloc (.cells #[.int .u64 (zi : Nat)] 27)) (by simp))
      have hxb : qb ∉ blkL y := fun h => by have := (HO.out.ge _ h).1; omega
      have hBX : qb + 1 ≤ (wr.alloc (.cells #[.int .u64 (zi : Nat)] 27)).heap.size := by simp only [World.size_alloc]; have := hAX.lt; simp only [World.size_alloc] at this; omega
      have hi5 : i ≤ 100000 := by have := HB.out; have := HII.out; omega
      have HAX := hid hAX
      have HXB := hid hxb
      have a0 := HA.out.cell 0 rfl
      have g5 : IntKind.u64.wrap (zi : Int) = (zi : Int) := IntWalk.u64_in _ (by omega)
      have g6 : IntKind.i64.wrap (nn : Int) = (nn : Int) := IntWalk.i64_in _ (by omega)
      clear hAX hxb
      go_wp2_with (at_builtin; refine appU_many rfl _ _ rfl (qb + 1) y cy i _ rfl HOX.out _ _ (zi : Nat) rfl hcX hi5 hBX ?_; intro g9 cap9 w9 hO9 hk9 hg9; have hA9 := hk9.at HAX.out HXB.out; have a9 := hA9.cell 0 rfl; have af9 := hA9.free 0)
      have HE9 : Hid (StR qb c k l (i + 1) w3 (w9.setCell ⟨qb, 0, none⟩ (.slice (some ⟨g9, 0, none⟩) (i + 1) cap9))) := by
        have k1 : Keeps [qb] w9 (w9.setCell ⟨qb, 0, none⟩ (.slice (some ⟨g9, 0, none⟩) (i + 1) cap9)) := (Keeps.refl _ _).set (p := ⟨qb, 0, none⟩) (.inl (by simp)) _
        have kx : Keeps [] wr (wr.alloc (.cells #[.int .u64 (zi : Nat)] 27)) := (Keeps.refl _ _).alloc _
        refine ⟨some ⟨g9, 0, none⟩, cap9, by simpa using hA9.set 0 (.slice (some ⟨g9, 0, none⟩) (i + 1) cap9), ((hO9.keep k1 (fun b hb h => ?_)).eq fun j hj => ?_), ?_⟩
        · have h1 := (hO9.ge b hb).1
          have h2 := List.mem_singleton.1 h
          omega
        · unfold put
          by_cases hji : j = i
          · subst hji
            rw [if_pos rfl, HII.out.2.1]
          · rw [if_neg hji]
        · refine ((HK.out.trans (kx.mono (by simp))).new hk9 (fun b hb => ?_)).trans k1
          have := (HO.out.ge b hb).1
          have := HQB.out
          exact .inr (by omega)
      clear hO9 hk9 hg9 hA9 a9 af9
      go_roundg (l.length - (i + 1))
      case measure => (have := HII.out; have := HIL.out; omega)
      case rel => exact ⟨i + 1, zi + (nn + 1), by have := HII.out; have := HIL.out; omega, HNX.out, by go_num, HE9.out⟩
    · have hie : i = l.length := by omega
      cases er with
      | true =>
        obtain ⟨hlu, X, hX, hXb, hnh⟩ := HCH.out.bad rfl
        have hzx : zi = c.frm k + lenL l := by rw [hzi, hie, posL_all]
        have hwz : S.now zi = (X : Int) := by rw [hzx]; exact hX
        have HLD := hid (load_in wr p a S zi hD (by have := HB.out; have := HSP.out; omega))
        rw [hwz] at HLD
        have hzl : (zi : Int) < (ze : Int) := by have := HB.out; have := HZE.out; have := HFF.out; omega
        have t1 : decide ((zi : Int) < (ze : Int)) = true := decide_eq_true hzl
        obtain ⟨Y, hY⟩ : ∃ Y, Y = X / 4294967296 := ⟨_, rfl⟩
        obtain ⟨N, hN⟩ : ∃ N, N = X % 4294967296 := ⟨_, rfl⟩
        obtain ⟨R, hR⟩ : ∃ R, R = Y % 16777216 := ⟨_, rfl⟩
        obtain ⟨T, hT⟩ : ∃ T, T = X / 72057594037927936 := ⟨_, rfl⟩
        have e1 : (X : Int) / 4294967296 = (Y : Int) := by omega
        have e2 : bits .and .u64 (Y : Int) 16777215 = (R : Int) := by rw [and_low24 Y (by omega), ← hR]
        have e3 : bits .and .u64 (X : Int) 4294967295 = (N : Int) := by rw [and_low32 X (by omega), ← hN]
        have e4 : (X : Int) / 72057594037927936 = (T : Int) := by omega
        have hNb : (N : Int) ≤ 4294967295 := by omega
        have HNH : Hid (T = 177 → N ≤ 64 → R ≤ N → ze < zi + 1 + N) := by
          intro h1 h2 h3
          have h4 : isHd X = true := by
            unfold isHd
            rw [Bool.and_eq_true, Bool.and_eq_true, beq_iff_eq, decide_eq_true_iff, decide_eq_true_iff]
            exact ⟨by omega, by unfold hdN; omega, by unfold hdN hdR; omega⟩
          have h5 : ¬ (lenL l + (N + 1) ≤ u) := fun h => hnh ⟨h4, by show lenL l + (X % 4294967296 + 1) ≤ u; rw [← hN]; exact h⟩
          have := HZE.out
          have := HFF.out
          omega
        have HV : Hid (ckC S c k l true = 8) := rfl
        have HKF : Hid (Keeps [] w wr) := HK3.out.new hK (fun b hb => .inr (by have := List.mem_singleton.1 hb; have := HQB.out; omega))
        have c0 := hC.cell 0 rfl
        clear hi hzi hpm hqb hdl hil hA hO hK hC hD hie hlu hX hXb hnh hzx hwz hY hN hR hT HA HO HK HD HII HCr
        by_cases hT : T = 177
        · have tT : ((T : Int) != 177) = false := by subst hT; rfl
          by_cases hN : N ≤ 64
          · have tN : decide ((64 : Int) < (N : Int)) = false := decide_eq_false (by omega)
            by_cases hR : R ≤ N
            · have tR : decide ((N : Int) < (R : Int)) = false := decide_eq_false (by omega)
              have hz := HNH.out hT hN hR
              have tZ : decide ((ze : Int) < (zi : Int) + 1 + (N : Int)) = true := decide_eq_true (by omega)
              have s1 : (R : Int) ≤ (N : Int) := by omega
              have s2 : (N : Int) ≤ 64 := by omega
              have s3 : (ze : Int) < (zi : Int) + 1 + (N : Int) := by omega
              clear hT hz
              go_wp2_with fail
              refine HLD.out.mono ?_
              rintro e w4 ⟨rfl, rfl⟩
              go_wp2_with fail
              go_ret
              exact ⟨by rw [HV.out]; rfl, HKF.out⟩
            · have tR : decide ((N : Int) < (R : Int)) = true := decide_eq_true (by omega)
              have s1 : (N : Int) < (R : Int) := by omega
              have s2 : (N : Int) ≤ 64 := by omega
              have s3 : N < R := by omega
              clear hT hR
              go_wp2_with fail
              refine HLD.out.mono ?_
              rintro e w4 ⟨rfl, rfl⟩
              go_wp2_with fail
              go_ret
              exact ⟨by rw [HV.out]; rfl, HKF.out⟩
          · have tN : decide ((64 : Int) < (N : Int)) = true := decide_eq_true (by omega)
            have s1 : (64 : Int) < (N : Int) := by omega
            have s2 : 64 < N := by omega
            clear hT hN
            go_wp2_with fail
            refine HLD.out.mono ?_
            rintro e w4 ⟨rfl, rfl⟩
            go_wp2_with fail
            go_ret
            exact ⟨by rw [HV.out]; rfl, HKF.out⟩
        · have tT : ((T : Int) != 177) = true := by rw [bne_iff_ne]; omega
          clear hT
          go_wp2_with fail
          refine HLD.out.mono ?_
          rintro e w4 ⟨rfl, rfl⟩
          go_wp2_with fail
          go_ret
          exact ⟨by rw [HV.out]; rfl, HKF.out⟩
      | false =>
      subst hie
      have hdn := HCH.out.done rfl
      have hzx : zi = ze := by
        have := HZE.out
        have := HFF.out
        rw [hzi, posL_all]
        omega
      subst hzx
      rename World => wA
      have hll := HB.out.2.2.1
      have hlm : (l.length : Int) ≤ 4096 := by have := HB.out; omega
      have hrm : (c.roots : Int) ≤ 16 := by have := hs.1; omega
      have HNM := hid (fun (w' : World) (hk' : Keeps [] wA w') (v : Nat) => lnames_at w' qb c k l y cy (qb + 1) (hk'.at HA.out (by simp)) (HO.out.keep hk' (by simp)) (by omega) v)
      have HLD := hid (fun (w' : World) (hk' : Keeps [] wA w') (z : Nat) (hz : z < a.n) => load_in w' p a S z (HD.out.keep hk' (by simp) (by simp) (by simp) (by simp)) hz)
      have HCW : Hid (∀ w', Keeps [] wA w' → (w'.cell? ⟨q0, 0, none⟩ = some (.int .i64 c.log) ∧ w'.cell? ⟨q0, 1, none⟩ = some (.int .i64 c.roots) ∧ w'.cell? ⟨q0, 2, none⟩ = some (.int .i64 c.space) ∧ w'.cell? ⟨qb, 0, none⟩ = some (.slice y l.length cy))) :=
        fun w' hk => ⟨(hk.at HCr.out (by simp)).cell 0 rfl, (hk.at HCr.out (by simp)).cell 1 rfl, (hk.at HCr.out (by simp)).cell 2 rfl, (hk.at HA.out (by simp)).cell 0 rfl⟩
      have HKF : Hid (Keeps [] w wA) := HK3.out.new HK.out (fun b hb => .inr (by have := List.mem_singleton.1 hb; have := HQB.out; omega))
      have HFM := hid HO.out.form
      have t1 : decide ((zi : Int) < (zi : Int)) = false := decide_eq_false (by omega)
      obtain ⟨L, hL⟩ : ∃ L, L = l.length := ⟨_, rfl⟩
      obtain ⟨c0, c1, c2, c3⟩ := HCW.out wA (Keeps.refl _ _)
      clear hi hzi hpm hqb hdl hil hA hO hK hC hD hdn hL HK HII hll
      go_wp2_with fail
      clear c0 c1 c2 c3
      go_loopg [90] c.roots (fun rr s wr => ∃ j : Nat, j + rr = c.roots ∧ s = .int .i64 j ∧ (∀ j', j' < j → okW c k l (S.now (c.root j')) = true) ∧ Keeps [] wA wr)
      case atStart => exact ⟨0, by omega, rfl, fun j' h => absurd h (by omega), Keeps.refl _ _⟩
      case round =>
        obtain ⟨j, hj, rfl, hok, hK⟩ := hrel
        rename World => wB
        have HOK := hid hok
        have HK := hid hK
        clear hok hK
        by_cases hjl : j < c.roots
        · have hji : (j : Int) < (c.roots : Int) := by omega
          obtain ⟨c0, c1, c2, c3⟩ := HCW.out wB HK.out
          obtain ⟨v, hv, hvb⟩ := HW.out.1 j hjl
          have HV := hid hv
          have HJ := hid (And.intro hj hjl)
          clear hv hj hjl
          go_wp2_with fail
          refine (root_at wB c hs j (by omega)).mono ?_
          rintro e w5 ⟨rfl, k5⟩
          have HK5 := hid (HK.out.trans k5)
          clear c0 c1 c2 c3 k5
          go_wp2_with fail
          refine (HLD.out w5 HK5.out (c.root j) (HRT.out j HJ.out.2)).mono ?_
          rintro e w6 ⟨rfl, rfl⟩
          rw [HV.out]
          go_wp2_with fail
          refine (HNM.out w5 HK5.out v).mono ?_
          rintro e w6 ⟨rfl, rfl⟩
          obtain ⟨b, hb⟩ : ∃ b, b = okW c k l v := ⟨_, rfl⟩
          rw [← hb]
          have HBV := hid hb
          clear hb
          cases b with
          | false =>
            have HR : Hid (ckC S c k l false = 9) := by
              have h1 : okR S c k l = false := by
                rw [Bool.eq_false_iff]
                intro h
                have := okR_iff.1 h j HJ.out.2
                rw [HV.out, ← HBV.out] at this
                exact Bool.noConfusion this
              show _ = _
              unfold ckC
              rw [h1]
              rfl
            go_wp2_with fail
            go_ret
            exact ⟨by rw [HR.out]; rfl, HKF.out.trans HK5.out⟩
          | true =>
            go_wp2_with fail
            go_roundg (c.roots - (j + 1))
            case measure => (have := HJ.out; omega)
            case rel => exact ⟨j + 1, by have := HJ.out; omega, by go_num, (fun j' h => by
              by_cases hjj : j' = j
              · subst hjj; rw [HV.out]; exact HBV.out.symm
              · exact HOK.out j' (by omega)), HK5.out⟩
        · have hje : j = c.roots := by omega
          subst hje
          have HR : Hid (okR S c k l = true) := okR_iff.2 HOK.out
          obtain ⟨c0, c1, c2, c3⟩ := HCW.out wB HK.out
          clear hj hjl HOK
          go_wp2_with fail
          clear c0 c1 c2 c3
          go_loopg [104] l.length (fun rr s wr => ∃ i : Nat, i + rr = l.length ∧ s = .int .i64 i ∧ (∀ i', i' < i → ∀ j, j < rL l i' → okW c k l (S.now (c.frm k + posL l i' + 1 + j)) = true) ∧ Keeps [] wA wr)
          case atStart => exact ⟨0, by omega, rfl, fun i' h => absurd h (by omega), HK.out⟩
          case round =>
            obtain ⟨i, hi, rfl, hok, hK⟩ := hrel
            rename World => wD
            have HOK := hid hok
            have HKD := hid hK
            clear hok hK
            by_cases hil : i < l.length
            · have hii : (i : Int) < (l.length : Int) := by omega
              obtain ⟨hn64, hrn, hwd⟩ := HCH.out.head i _ (nL_in hil)
              have hn64 : nL l i ≤ 64 := hn64
              have hrn : rL l i ≤ nL l i := hrn
              have hpe := posN_end hil
              obtain ⟨nn, hnn⟩ : ∃ nn, nn = nL l i := ⟨_, rfl⟩
              obtain ⟨rr, hrr⟩ : ∃ rr, rr = rL l i := ⟨_, rfl⟩
              obtain ⟨z2, hz2⟩ : ∃ z2, z2 = c.frm k + posL l i := ⟨_, rfl⟩
              obtain ⟨X, hX⟩ : ∃ X, X = hdPk nn rr := ⟨_, rfl⟩
              have hwz : S.now z2 = (X : Int) := by rw [hz2, hX, hnn, hrr]; exact hwd
              have hX1 : X / 4294967296 = 45312 * 65536 + rr := by rw [hX]; unfold hdPk; rw [← hnn] at hn64; rw [← hrr, ← hnn] at hrn; omega
              have hzn : z2 + nn < a.n := by have := HB.out; have := HSP.out; omega
              have hzs : c.frm k ≤ z2 ∧ z2 + nn < c.frm k + c.space := by have := HB.out; omega
              obtain ⟨g, cur, rfl, hg, hA, hcur⟩ : ∃ g cur, y = some ⟨g, 0, none⟩ ∧ qb + 1 ≤ g ∧ At wA g (.cells cur 27) ∧ ∀ i, i < l.length → cur[i]? = some (.int .u64 ((c.frm k + posL l i : Nat) : Int)) := by
                rcases HFM.out with ⟨_, h⟩ | h
                · omega
                · exact h
              have d0 : wD.cell? ⟨g, i, none⟩ = some (.int .u64 (z2 : Nat)) := by rw [hz2]; exact (HKD.out.at hA (by simp)).cell i (hcur i hil)
              have h2 := HLD.out wD HKD.out z2 (by omega)
              rw [hwz] at h2
              have HL2 := hid h2
              obtain ⟨Y, hY⟩ : ∃ Y, Y = 2969567232 + rr := ⟨_, rfl⟩
              rw [← hrr, ← hnn] at hrn
              rw [← hnn] at hn64
              have e1 : (X : Int) / 4294967296 = (Y : Int) := by omega
              have e2 : bits .and .u64 (Y : Int) 16777215 = (rr : Int) := by rw [and_low24 Y (by omega), show Y % 16777216 = rr by omega]
              have hri : (rr : Int) ≤ 64 := by omega
              have hzi2 : (z2 : Int) ≤ 30000 := by have := HB.out; omega
              have g1 : IntKind.i64.wrap (z2 : Int) = (z2 : Int) := IntWalk.i64_in _ (by omega)
              have g2 : IntKind.i64.wrap (rr : Int) = (rr : Int) := IntWalk.i64_in _ (by omega)
              have HI := hid (And.intro hi (And.intro hil (And.intro hrr (And.intro hz2 (And.intro hrn (And.intro hzn hzs))))))
              clear hi hn64 hrn hwd hpe hnn hrr hz2 hX hwz hX1 hzn hzs hA hcur h2 hY hil
              go_wp2_with fail
              refine HL2.out.mono ?_
              rintro e w6 ⟨rfl, rfl⟩
              clear d0
              go_wp2_with fail
              go_loopg [115] rr (fun r2 s wr => ∃ j : Nat, j + r2 = rr ∧ s = .int .i64 j ∧ (∀ j', j' < j → okW c k l (S.now (z2 + 1 + j')) = true) ∧ Keeps [] wA wr)
              case atStart => exact ⟨0, by omega, rfl, fun j' h => absurd h (by omega), HKD.out⟩
              case round =>
                obtain ⟨j, hj, rfl, hok2, hK2⟩ := hrel
                rename World => wE
                have HOK2 := hid hok2
                have HKE := hid hK2
                clear hok2 hK2
                by_cases hjl : j < rr
                · have hji : (j : Int) < (rr : Int) := by omega
                  have hza : z2 + 1 + j < a.n := by have := HI.out; omega
                  obtain ⟨v, hv, hvb⟩ := HW.out.2 (z2 + 1 + j) (by have := HI.out; omega) (by have := HI.out; omega)
                  have h3 := HLD.out wE HKE.out (z2 + 1 + j) hza
                  rw [hv] at h3
                  obtain ⟨z3, hz3⟩ : ∃ z3, z3 = z2 + 1 + j := ⟨_, rfl⟩
                  rw [← hz3] at h3
                  have e5 : (z2 : Int) + 1 + (j : Int) = (z3 : Int) := by omega
                  have HL3 := hid h3
                  have HV := hid hv
                  have HJ := hid (And.intro hj hjl)
                  clear hv hj hjl h3 hz3 hza hvb
                  go_wp2_with fail
                  refine HL3.out.mono ?_
                  rintro e w6 ⟨rfl, rfl⟩
                  go_wp2_with fail
                  refine (HNM.out wE HKE.out v).mono ?_
                  rintro e w6 ⟨rfl, rfl⟩
                  obtain ⟨b, hb⟩ : ∃ b, b = okW c k l v := ⟨_, rfl⟩
                  rw [← hb]
                  have HBV := hid hb
                  clear hb
                  cases b with
                  | false =>
                    have HR9 : Hid (ckC S c k l false = 9) := by
                      have h1 : okN S c k l = false := by
                        rw [Bool.eq_false_iff]
                        intro h
                        have := okN_iff.1 h i HI.out.2.1 j (by rw [← HI.out.2.2.1]; exact HJ.out.2)
                        rw [← HI.out.2.2.2.1, HV.out, ← HBV.out] at this
                        exact Bool.noConfusion this
                      show _ = _
                      unfold ckC
                      rw [HR.out, h1]
                      rfl
                    go_wp2_with fail
                    go_ret
                    exact ⟨by rw [HR9.out]; rfl, HKF.out.trans HKE.out⟩
                  | true =>
                    go_wp2_with fail
                    go_roundg (rr - (j + 1))
                    case measure => (have := HJ.out; omega)
                    case rel => exact ⟨j + 1, by have := HJ.out; omega, by go_num, (fun j' h => by
                      by_cases hjj : j' = j
                      · subst hjj; rw [HV.out]; exact HBV.out.symm
                      · exact HOK2.out j' (by omega)), HKE.out⟩
                · have hje : j = rr := by omega
                  subst hje
                  clear hj hjl
                  go_wp2_with fail
                  go_roundg (l.length - (i + 1))
                  case measure => (have := HI.out; omega)
                  case rel => exact ⟨i + 1, by have := HI.out; omega, by go_num, (fun i' h j' hj' => by
                    by_cases hii2 : i' = i
                    · subst hii2
                      rw [← HI.out.2.2.2.1]
                      exact HOK2.out j' (by rw [HI.out.2.2.1]; exact hj')
                    · exact HOK.out i' (by omega) j' hj'), HKE.out⟩
            · have hie : i = l.length := by omega
              subst hie
              have HR0 : Hid (ckC S c k l false = 0) := by
                have h1 : okN S c k l = true := okN_iff.2 HOK.out
                show _ = _
                unfold ckC
                rw [HR.out, h1]
                rfl
              clear hi hil HOK
              go_wp2_with fail
              go_ret
              exact ⟨by rw [HR0.out]; rfl, HKF.out.trans HKD.out⟩

set_option maxRecDepth 100000 in
set_option maxHeartbeats 4000000 in
/-- No such space, or more used than there is. -/
theorem lchk_bad (w : World) (p : Nat) (a : DA) (S : DS) (c : Cfg) (hD : Dev w p a S) (hc : c.Ok) (hcn : c.words = a.n) (k u : Nat) (ha : S.now c.act = (k : Int)) (hu : S.now (c.act + 1) = (u : Int)) (hor : 1 < k ∨ c.space < u) :
    Calls Tryz.prog 13 #[ptr a.d, cfgV c] w fun e w' => e = .returned (.int .i64 10) ∧ Keeps [] w w' := by
  have hs := hc.small
  have hai : (c.act : Int) ≤ 823 := by have := act_le hs; omega
  have hsi : (c.space : Int) ≤ 4096 := by have := hs.2.2; omega
  have HOR := hid hor
  have hin : Hid (c.act + 2 ≤ a.n) := by
    have := (places hc).2.1
    show _ ≤ _
    omega
  have E1 : Hid (S.now (c.act : Int).toNat = (k : Int)) := by show _ = _; rw [Int.toNat_natCast, ha]
  have E2 : Hid (S.now ((c.act : Int) + 1).toNat = (u : Int)) := by show _ = _; rw [show ((c.act : Int) + 1).toNat = c.act + 1 by omega, hu]
  clear hc hcn ha hu hor
  go_enter Tryz.func13, Tryz.ntmps13
  go_upto_region 1 with fail
  have hC0 := At.new w (cfgO c)
  have K0 := (Keeps.refl [] w).alloc (cfgO c)
  obtain ⟨w0, hw0⟩ : ∃ w0, w0 = w.alloc (cfgO c) := ⟨_, rfl⟩
  have D0 := hD.keep K0 (by simp) (by simp) (by simp) (by simp)
  rw [← hw0] at hC0 K0 D0 ⊢
  obtain ⟨q0, hq0⟩ : ∃ q, q = w.heap.size := ⟨_, rfl⟩
  rw [← hq0] at hC0 ⊢
  clear hw0 hq0 hD
  have HCL : Hid (∀ w', Keeps [] w0 w' → (w'.cell? ⟨q0, 0, none⟩ = some (.int .i64 c.log) ∧ w'.cell? ⟨q0, 1, none⟩ = some (.int .i64 c.roots) ∧ w'.cell? ⟨q0, 2, none⟩ = some (.int .i64 c.space))) :=
    fun w' hk => ⟨(hk.at hC0 (by simp)).cell 0 rfl, (hk.at hC0 (by simp)).cell 1 rfl, (hk.at hC0 (by simp)).cell 2 rfl⟩
  have HL := hid (fun (w' : World) (hk : Keeps [] w0 w') (z : Int) (hz : 0 ≤ z ∧ z < a.n) => loadI_in w' p a S z (D0.keep hk (by simp) (by simp) (by simp) (by simp)) hz)
  have kk : Keeps [] w0 w0.drew := (Keeps.refl _ _).drew
  go_region_held3 (fun w' => w'.cell? ⟨q0, 0, none⟩ = some (.int .i64 c.log) ∧ w'.cell? ⟨q0, 1, none⟩ = some (.int .i64 c.roots) ∧ w'.cell? ⟨q0, 2, none⟩ = some (.int .i64 c.space))
    (exact HCL.out _ kk)
    (first
      | (go_at_call 11; refine (active_at _ c hs).mono ?_; rintro e w' ⟨rfl, hk1⟩; have kk := kk.trans hk1; clear hk1)
      | (go_at_call 17; refine (usedw_at _ c hs).mono ?_; rintro e w' ⟨rfl, hk1⟩; have kk := kk.trans hk1; clear hk1)
      | (go_at_call 37; refine (HL.out _ kk _ (by have := hin.out; omega)).mono ?_; rintro e w' ⟨rfl, rfl⟩; (first | rw [E1.out] | rw [E2.out])))
  rename_i hwx1 wx1 wx2 hHd
  clear hHd
  have hC1 := kk.at hC0 (by simp)
  have K1 := K0.trans kk
  clear HL HCL hC0 D0 K0 kk hwx1 wx2 wx1
  have c2 := hC1.cell 2 rfl
  have g1 : IntKind.u64.wrap (c.space : Int) = (c.space : Int) := IntWalk.u64_in _ (by omega)
  by_cases h1 : 1 < k
  · have t1 : decide ((1 : Int) < (k : Int)) = true := decide_eq_true (by omega)
    have s1 : (1 : Int) < (k : Int) := by omega
    go_wp2_with fail
    go_ret
    exact ⟨rfl, K1⟩
  · have hsu : c.space < u := by have := HOR.out; omega
    have t1 : decide ((1 : Int) < (k : Int)) = false := decide_eq_false (by omega)
    have t2 : decide ((c.space : Int) < (u : Int)) = true := decide_eq_true (by omega)
    have s1 : (k : Int) ≤ 1 := by omega
    have s2 : (c.space : Int) < (u : Int) := by omega
    go_wp2_with fail
    go_ret
    exact ⟨rfl, K1⟩

end Go.Proofs.YtlpmdjmamnkokaaGreat
