/- The walk of the law ObjectOf. -/
import Derived.Test.YtfiohbniojmfaaaGreatAwk10
import Derived.BigQuiet
namespace Go.Proofs.YtfiohbniojmfaaaGreat
open Go.RowKit Go.OpenShut

/-- A device whose words are words, nothing used. -/
def AnyW (p : Nat) (a : DA) (c : Cfg) (ub : Int) (w4 w : World) : Prop :=
  ∃ u S, Pw w p a (-1) u S ∧ u ≤ ub ∧ S.now c.act = 0 ∧ S.now (c.act + 1) = 0 ∧ (∀ j, c.frm 0 ≤ j → j < a.n → ∃ x : Nat, S.now j = (x : Int) ∧ x < 18446744073709551616) ∧ Keeps [p, a.s, a.k, a.m] w4 w

theorem AnyW.store {p : Nat} {a : DA} {c : Cfg} {ub u' : Int} {S : DS} {w4 w : World} (hA : S.now c.act = 0) (hU : S.now (c.act + 1) = 0) (hW : ∀ j, c.frm 0 ≤ j → j < a.n → ∃ x : Nat, S.now j = (x : Int) ∧ x < 18446744073709551616) {i x : Nat} (hi : c.frm 0 ≤ i) (hx : x < 18446744073709551616)
    (hP : Pw w p a (-1) u' (execs S [.st i (x : Nat)])) (hu : u' ≤ ub) (hk : Keeps [p, a.s, a.k, a.m] w4 w) : AnyW p a c ub w4 w := by
  have hfr := @frm_ge c 0
  have e : ∀ j, (execs S [.st i (x : Nat)]).now j = if j = i then (x : Int) else S.now j := fun j => rfl
  refine ⟨u', _, hP, hu, ?_, ?_, fun j h1 h2 => ?_, hk⟩
  · rw [e, if_neg (by omega)]; exact hA
  · rw [e, if_neg (by omega)]; exact hU
  · rw [e]
    by_cases h : j = i
    · rw [if_pos h]; exact ⟨x, rfl, hx⟩
    · rw [if_neg h]; exact hW j h1 h2

/-- A head's word, of any small numbers. -/
theorem hdPk_or2 (n r : Nat) (hn : n ≤ 64) (hr : r ≤ 64) : bits .or .u64 (bits .or .u64 12754194144713244672 ((r : Int) * 4294967296)) (n : Int) = (hdPk n r : Nat) := by
  have e1 : ((r : Int) * 4294967296) = ((r * 4294967296 : Nat) : Int) := by omega
  have j1 : 12754194144713244672 ||| r * 4294967296 = 12754194144713244672 + r * 4294967296 := nat_join 56 _ _ (by decide) (by omega)
  have j2 : (12754194144713244672 + r * 4294967296) ||| n = 12754194144713244672 + r * 4294967296 + n := nat_join 32 _ _ (by omega) (by omega)
  rw [e1, show (12754194144713244672 : Int) = ((12754194144713244672 : Nat) : Int) from rfl, u64_or_nat _ _ (by omega) (by omega), j1, u64_or_nat _ _ (by omega) (by omega), j2]
  rfl

theorem i64_bounds (y : Int) : -9223372036854775808 ≤ IntKind.i64.wrap y ∧ IntKind.i64.wrap y < 9223372036854775808 := by
  have e : IntKind.i64.wrap y = if y % 18446744073709551616 ≥ 9223372036854775808 then y % 18446744073709551616 - 18446744073709551616 else y % 18446744073709551616 := by
    simp [IntKind.wrap, IntKind.bits, IntKind.signed]
  rw [e]
  split <;> omega

set_option maxRecDepth 100000 in
set_option maxHeartbeats 4000000 in
theorem of_small (l r s us : Nat) (x : Option Addr) (n cp : Nat) (f : Nat → Nat) (z : Int) (near heads : Bool) (W : World) (hl : l ≤ 65535) (hrr : r ≤ 65535) (hs : s ≤ 65535) (hus : us ≤ 65535) (hz : -9223372036854775808 ≤ z ∧ z < 9223372036854775808)
    (hx : Reads W x n (fun i => (f i : Int))) (hf : ∀ i, i < n → f i < 18446744073709551616) (hnm : n ≤ 9223372036854775807) :
    Calls Tryz.prog 3 #[c3V l r s, .slice x n cp, .int .u16 us, .int .i64 z, .bool near, .bool heads] W fun e w' => e = .returned (.bool true) ∧ Below W.heap.size W w' := by
  have hni : (n : Int) ≤ 9223372036854775807 := by omega
  have husi : (us : Int) ≤ 65535 := by omega
  have HX := hid hx
  have HF := hid hf
  have HZ := hid hz
  clear hx hf hz
  go_enter Tryz.func3, Tryz.ntmps3
  go_wp2_with fail
  have hB0 := At.new W (c3O l r s)
  have K0 := (Keeps.refl [] W).alloc (c3O l r s)
  refine (awake10_any _).mono ?_
  rintro e w1 ⟨rfl, hb1⟩
  have k1 := Go.Proofs.YtfiohbniojmfaaaGreat.Below.keeps hb1 []
  have K1 := K0.trans k1
  have hB1 := k1.at hB0 (by simp)
  clear hb1 k1 hB0 K0
  have c0 : w1.cell? ⟨W.heap.size, 0, none⟩ = some (.int .u16 l) := hB1.cell 0 rfl
  have c1 : w1.cell? ⟨W.heap.size, 1, none⟩ = some (.int .u16 r) := hB1.cell 1 rfl
  have c2 : w1.cell? ⟨W.heap.size, 2, none⟩ = some (.int .u16 s) := hB1.cell 2 rfl
  by_cases hn : n ≤ 40
  case neg =>
    have hn2 : (40 : Int) < (n : Int) := by omega
    go_wp2_with fail
    go_ret
    exact ⟨rfl, K1.below (Nat.le_refl _) (by simp)⟩
  have hni2 : (n : Int) ≤ 40 := by omega
  clear hni
  go_wp2_with fail
  refine (make3_at w1 l r s hl hrr hs).mono ?_
  rintro e w2 ⟨rfl, hk2⟩
  have K2 := K1.trans hk2
  have hok := mk3_ok l r s
  obtain ⟨c, hc⟩ : ∃ c, c = mk3 l r s := ⟨_, rfl⟩
  rw [← hc] at hok ⊢
  clear hc c0 c1 c2 hB1 hk2 K1
  go_wp2_with fail
  have hC3 := At.new w2 (cfgO c)
  have K3 := K2.alloc (cfgO c)
  have hz2 := K2.size
  obtain ⟨cb, hcb⟩ : ∃ cb, cb = w2.heap.size := ⟨_, rfl⟩
  rw [← hcb] at hC3 hz2 ⊢
  have HCB := hid hcb
  clear hcb K2
  refine (formatted2_at _ c hok none 0 0 (fun _ => 0) (.inl rfl) (by omega)).mono ?_
  rintro e w4 ⟨p, a, u, S, ⟨rfl, haN, hP, hub, hW, hkp, his, ⟨b1, b2, b3, b4, b5⟩, hk4⟩, hold⟩
  simp only [World.size_alloc] at b1 b2 b3 b4 b5
  rw [← HCB.out] at b1 b2 b3 b4 b5
  have hC4 := hk4.at hC3 (by simp)
  have K4 := K3.trans hk4
  obtain ⟨_, hLF⟩ := hW
  have HN := hid haN
  have HO := hid hok
  have hsp : (c.space : Int) ≤ 4096 := by have := hok.small.2.2; omega
  have hsp0 : (8 : Int) ≤ c.space := by have := hok.2.2.2.2.1; omega
  have hin : Hid (c.act + 2 ≤ a.n ∧ c.frm 0 + c.space ≤ a.n ∧ c.frm 0 ≤ 15000) := by
    have := @frm_ge c 0
    have := @frm_space c 0 (by omega)
    have := frm_le hok.small (show 0 ≤ 2 by omega)
    exact ⟨by omega, by omega, by omega⟩
  have HWT : Hid (∀ b ∈ [p, a.s, a.k, a.m], W.heap.size ≤ b ∧ b ≠ cb) := fun b hb => by
    simp only [List.mem_cons, List.not_mem_nil, or_false] at hb
    omega
  have HI : Hid (AnyW p a c 100001 w4 w4) := ⟨u, S, hP, by omega, hLF.blk 0 (by omega), hLF.blk 1 (by omega), fun j h1 h2 => ⟨0, by rw [hold j (by have := @frm_ge c 0; unfold Cfg.root; omega) h2]; rfl, by omega⟩, Keeps.refl _ _⟩
  have HC4 := hid hC4
  have HK4 := hid K4
  clear haN hok hkp his hC3 K3 hk4 hLF b1 b2 b3 b4 b5 hold hP hub K4 hC4 HCB hz2 hn
  go_wp2_with fail
  go_loopg [41] n (fun rr s41 wr => ∃ i : Nat, i + rr = n ∧ s41 = .int .i64 i ∧ AnyW p a c (100001 + (i : Int)) w4 wr)
  case atStart => exact ⟨0, by omega, rfl, by simpa using HI.out⟩
  case round =>
    obtain ⟨i, hi, rfl, hA⟩ := hrel
    by_cases hlt : i < n
    · obtain ⟨u5, S5, hP5, hu5, hA5, hU5, hW5, hk5⟩ := hA
      have hKW : Keeps [] W wr := HK4.out.new hk5 (fun b hb => .inr (HWT.out b hb).1)
      obtain ⟨b, off, rfl, hb, hcl⟩ := HX.out.resolve_left (by omega)
      have d0 : wr.cell? ⟨b, off + i, none⟩ = some (.int .u64 (f i : Nat)) := by rw [hKW.cell hb (by simp)]; exact hcl i hlt
      have hfi := HF.out i hlt
      obtain ⟨v, hv⟩ : ∃ v, v = f i := ⟨_, rfl⟩
      rw [← hv] at d0 hfi
      clear hv
      have hii : (i : Int) < (n : Int) := by omega
      have hvi : (v : Int) < 18446744073709551616 := by omega
      go_upto_if 46 with fail
      go_cut [17] from 46 to 54 (fun s17 wx => ∃ v' : Nat, v' < 18446744073709551616 ∧ s17 = .int .u64 v' ∧ wx = wr)
      case first =>
        cases heads with
        | false =>
          go_wp2_with fail
          go_meet
          exact ⟨v, hfi, rfl, rfl⟩
        | true =>
          go_wp2_with fail
          go_meet
          refine ⟨hdPk (v / 256 % 9) (v % 3), by unfold hdPk; omega, ?_, rfl⟩
          rw [← hdPk_or2 (v / 256 % 9) (v % 3) (by omega) (by omega)]
          simp
      case rest =>
      obtain ⟨x1, hx1, rfl, rfl⟩ := hcut
      have hC5 := hk5.at HC4.out (fun h => (HWT.out _ h).2 rfl)
      have HCL : Hid (∀ w', Keeps [p, a.s, a.k, a.m] wc w' → (w'.cell? ⟨cb, 0, none⟩ = some (.int .i64 c.log) ∧ w'.cell? ⟨cb, 1, none⟩ = some (.int .i64 c.roots) ∧ w'.cell? ⟨cb, 2, none⟩ = some (.int .i64 c.space))) := fun w' hk => by
        have e1 := hk.at hC5 (fun h => (HWT.out _ h).2 rfl)
        exact ⟨e1.cell 0 rfl, e1.cell 1 rfl, e1.cell 2 rfl⟩
      obtain ⟨ff, hff⟩ : ∃ ff, ff = c.frm 0 := ⟨_, rfl⟩
      have HFR := hid (fun (w' : World) => from_at w' c HO.out.small 0 (by omega))
      rw [← hff] at HFR
      have hfb : (ff : Int) ≤ 15000 := by have := hin.out; omega
      obtain ⟨q, hq⟩ : ∃ q, q = i % c.space := ⟨_, rfl⟩
      have hqs : (q : Int) < c.space := by have := Nat.mod_lt i (show 0 < c.space by omega); omega
      have e1 : (i : Int).tmod (c.space : Int) = (q : Int) := by rw [hq]; exact (Int.ofNat_tmod i c.space).symm
      have e2 : (i : Int) % (c.space : Int) = (q : Int) := by rw [hq]; exact (Int.natCast_emod i c.space).symm
      have e3 : IntKind.i64.wrap (q : Int) = (q : Int) := IntWalk.i64_in _ (by omega)
      have e4 : IntKind.i64.wrap ((ff : Int) + (q : Int)) = (ff : Int) + (q : Int) := IntWalk.i64_in _ (by omega)
      have e5 : IntKind.i64.wrap ((i : Int).tmod (c.space : Int)) = (q : Int) := by rw [e1]; exact e3
      have e6 : ¬ (c.space : Int) = 0 := by omega
      have e7 : ¬ c.space = 0 := by omega
      have HST := hid (fun (w' : World) (hk : Keeps [] wc w') (zz : Int) (hz : 0 ≤ zz ∧ zz < a.n) => store_free w' p a u5 S5 (hP5.keep0 hk) (by omega) zz x1 hz)
      have HAW := hid (And.intro hA5 (And.intro hU5 hW5))
      have HQ := hid (And.intro hff hqs)
      have HI5 := hid (And.intro hi hx1)
      have HU5 := hid hu5
      have HK5 := hid hk5
      clear hff hq hqs hA5 hU5 hW5 hC5 hP5 hi hx1 hu5 hk5 d0 hfi hvi hKW
      go_upto_region 14 with fail
      have kk : Keeps [] wc wc.drew := (Keeps.refl _ _).drew
      go_region_held3 (fun w' => w'.cell? ⟨cb, 0, none⟩ = some (.int .i64 c.log) ∧ w'.cell? ⟨cb, 1, none⟩ = some (.int .i64 c.roots) ∧ w'.cell? ⟨cb, 2, none⟩ = some (.int .i64 c.space))
        (first | exact HCL.out _ ((kk.mono (by simp)).trans hx9.out.2) | exact HCL.out _ (kk.mono (by simp)))
        (first
          | (go_at_call 11; refine (HFR.out _).mono ?_; rintro e w' ⟨rfl, hk9⟩; have kk := kk.trans hk9; clear hk9)
          | (go_at_call 10; refine (HST.out _ kk _ (by have := hin.out; have := HQ.out; omega)).mono ?_; rintro e w' ⟨rfl, hx9⟩))
      rename_i hHd
      clear hHd
      have HNX : Hid (AnyW p a c (100001 + ((i + 1 : Nat) : Int)) w4 w') := by
        have e : ((ff : Int) + (q : Int)).toNat = c.frm 0 + q := by have := HQ.out.1; omega
        have h9 := hx9.out
        rw [e] at h9
        exact AnyW.store HAW.out.1 HAW.out.2.1 HAW.out.2.2 (by omega) HI5.out.2 h9.1 (by have := HU5.out; omega) (HK5.out.trans ((kk.mono (by simp)).trans h9.2))
      clear hx9 kk HST HCL HFR e1 e2 e3 e4 e5 e6 e7
      go_wp2_with fail
      go_roundg (n - (i + 1))
      case measure => (have := HI5.out.1; omega)
      case rel => exact ⟨i + 1, by have := HI5.out.1; omega, by go_num, HNX.out⟩
    · have hin2 : i = n := by omega
      subst hin2
      obtain ⟨u5, S5, hP5, hu5, hA5, hU5, hW5, hk5⟩ := hA
      have hC5 := hk5.at HC4.out (fun h => (HWT.out _ h).2 rfl)
      have HCL : Hid (∀ w', Keeps [p, a.s, a.k, a.m] wr w' → (w'.cell? ⟨cb, 0, none⟩ = some (.int .i64 c.log) ∧ w'.cell? ⟨cb, 1, none⟩ = some (.int .i64 c.roots) ∧ w'.cell? ⟨cb, 2, none⟩ = some (.int .i64 c.space))) := fun w' hk => by
        have e1 := hk.at hC5 (fun h => (HWT.out _ h).2 rfl)
        exact ⟨e1.cell 0 rfl, e1.cell 1 rfl, e1.cell 2 rfl⟩
      have hai : (c.act : Int) ≤ 823 := by have := act_le HO.out.small; omega
      have HUW := hid (fun (w' : World) => usedw_at w' c HO.out.small)
      obtain ⟨m, hm⟩ : ∃ m, m = us % (c.space + 1) := ⟨_, rfl⟩
      have hms : (m : Int) ≤ c.space := by have := Nat.mod_lt us (show 0 < c.space + 1 by omega); omega
      have e0 : (us : Int) % ((c.space : Int) + 1) = (m : Int) := by rw [hm]; simp
      have e1 : (us : Int).tmod ((c.space : Int) + 1) = (m : Int) := by rw [Int.tmod_eq_emod_of_nonneg (by omega)]; exact e0
      have e2 : IntKind.i64.wrap ((c.space : Int) + 1) = (c.space : Int) + 1 := IntWalk.i64_in _ (by omega)
      have e3 : IntKind.i64.wrap (m : Int) = (m : Int) := IntWalk.i64_in _ (by omega)
      have e4 : IntKind.u64.wrap (m : Int) = (m : Int) := IntWalk.u64_in _ (by omega)
      have e5 : IntKind.i64.wrap ((us : Int).tmod ((c.space : Int) + 1)) = (m : Int) := by rw [e1]; exact e3
      have e6 : ¬ (c.space : Int) + 1 = 0 := by omega
      have e7 : ¬ c.space + 1 = 0 := by omega
      have e8 : IntKind.i64.wrap (us : Int) = (us : Int) := IntWalk.i64_in _ (by omega)
      have HST := hid (fun (w' : World) (hk : Keeps [] wr w') (zz : Int) (hz : 0 ≤ zz ∧ zz < a.n) => store_free w' p a u5 S5 (hP5.keep0 hk) (by omega) zz m hz)
      have HAW := hid (And.intro hA5 (And.intro hU5 hW5))
      have HU5 := hid hu5
      have HK5 := hid hk5
      clear hA5 hU5 hW5 hC5 hP5 hi hu5 hk5 hm hlt
      go_upto_region 16 with fail
      have kk : Keeps [] wr wr.drew := (Keeps.refl _ _).drew
      go_region_held3 (fun w' => w'.cell? ⟨cb, 0, none⟩ = some (.int .i64 c.log) ∧ w'.cell? ⟨cb, 1, none⟩ = some (.int .i64 c.roots) ∧ w'.cell? ⟨cb, 2, none⟩ = some (.int .i64 c.space))
        (first | exact HCL.out _ ((kk.mono (by simp)).trans hx9.out.2) | exact HCL.out _ (kk.mono (by simp)))
        (first
          | (go_at_call 12; refine (HUW.out _).mono ?_; rintro e w' ⟨rfl, hk9⟩; have kk := kk.trans hk9; clear hk9)
          | (go_at_call 10; refine (HST.out _ kk _ (by have := hin.out; omega)).mono ?_; rintro e w' ⟨rfl, hx9⟩))
      rename_i hHd
      clear hHd
      have HB6 : Hid (∃ S6, Pw w' p a (-1) (u5 + 1) S6 ∧ S6.now c.act = 0 ∧ S6.now (c.act + 1) = (m : Int) ∧ (∀ j, c.frm 0 ≤ j → j < a.n → ∃ x : Nat, S6.now j = (x : Int) ∧ x < 18446744073709551616)) := by
        have h9 := hx9.out.1
        rw [show ((c.act : Int) + 1).toNat = c.act + 1 by omega] at h9
        have e : ∀ j, (execs S5 [.st (c.act + 1) (m : Nat)]).now j = if j = c.act + 1 then (m : Int) else S5.now j := fun j => rfl
        have hfr := @frm_ge c 0
        refine ⟨_, h9, ?_, ?_, fun j h1 h2 => ?_⟩
        · rw [e, if_neg (by omega)]; exact HAW.out.1
        · rw [e, if_pos rfl]
        · rw [e, if_neg (by omega)]; exact HAW.out.2.2 j h1 h2
      have HK6 : Hid (Keeps [p, a.s, a.k, a.m] w4 w') := HK5.out.trans ((kk.mono (by simp)).trans hx9.out.2)
      clear hx9 kk HST HCL HUW HAW HK5
      obtain ⟨S6, hP6, hA6, hU6, hW6⟩ := HB6.out
      have hC6 := HK6.out.at HC4.out (fun h => (HWT.out _ h).2 rfl)
      have KW6 : Keeps [] W w' := HK4.out.new HK6.out (fun b hb => .inr (HWT.out b hb).1)
      have HRD := hid (rread_at w' p a S6 c hP6.dev HO.out HN.out (by rw [hA6]; omega) (by rw [hU6]; omega))
      have hmn : m ≤ c.space := by omega
      have HP6 := hid hP6
      have HS6 := hid (And.intro hA6 (And.intro hU6 hW6))
      have HKW6 := hid KW6
      clear hP6 hA6 hU6 hW6 KW6 HB6 HK6
      have c0 := hC6.cell 0 rfl
      have c1 := hC6.cell 1 rfl
      have c2 := hC6.cell 2 rfl
      go_wp2_with fail
      refine HRD.out.mono ?_
      rintro e w7 (⟨h9, rfl, hk7⟩ | ⟨k1, u1, x9, cp9, hk1, hu1, hA1, hU1, rfl, hO9, hk7⟩)
      · rw [HS6.out.1, HS6.out.2.1] at h9
        omega
      rw [HS6.out.1] at hA1
      rw [HS6.out.2.1] at hU1
      obtain rfl : 0 = k1 := by omega
      obtain rfl : m = u1 := by omega
      have hC7 := (hk7.at hC6 (by simp)).alloc (bkO 0 m (.slice x9 c.roots cp9))
      have hB7 := At.new w7 (bkO 0 m (.slice x9 c.roots cp9))
      have k67 := hk7.alloc (bkO 0 m (.slice x9 c.roots cp9))
      obtain ⟨bb, hbb⟩ : ∃ bb, bb = w7.heap.size := ⟨_, rfl⟩
      obtain ⟨w8, hw8⟩ : ∃ w8, w8 = w7.alloc (bkO 0 m (.slice x9 c.roots cp9)) := ⟨_, rfl⟩
      clear hk1 hu1 hA1 hU1 hO9 hk7 hC6 c0 c1 c2
      go_upto_region 18 with fail
      rw [← hw8] at hC7 hB7 k67 ⊢
      rw [← hbb] at hB7 ⊢
      clear hw8 hbb
      have c0 := hC7.cell 0 rfl
      have c1 := hC7.cell 1 rfl
      have c2 := hC7.cell 2 rfl
      have d0 := hB7.cell 0 rfl
      have d1 := hB7.cell 1 rfl
      have d2 := hB7.cell 2 rfl
      have t1 : ((m : Int) != (m : Int)) = false := by simp
      have t2 : ((m : Int) == (m : Int)) = true := by simp
      go_quiet (fail)
      go_upto_if 96 with fail
      clear t1 t2
      have HKC : Hid (∀ w', Keeps [] w8 w' → (w'.cell? ⟨cb, 0, none⟩ = some (.int .i64 c.log) ∧ w'.cell? ⟨cb, 1, none⟩ = some (.int .i64 c.roots) ∧ w'.cell? ⟨cb, 2, none⟩ = some (.int .i64 c.space) ∧ w'.cell? ⟨bb, 0, none⟩ = some (.int .i64 0) ∧ w'.cell? ⟨bb, 1, none⟩ = some (.int .i64 m) ∧ w'.cell? ⟨bb, 2, none⟩ = some (.slice x9 c.roots cp9))) := fun w' hk => by
        have e1 := hk.at hC7 (by simp)
        have e2 := hk.at hB7 (by simp)
        exact ⟨e1.cell 0 rfl, e1.cell 1 rfl, e1.cell 2 rfl, e2.cell 0 rfl, e2.cell 1 rfl, e2.cell 2 rfl⟩
      obtain ⟨ff, hff⟩ : ∃ ff, ff = c.frm 0 := ⟨_, rfl⟩
      have HFR := hid (fun (w' : World) => from_at w' c HO.out.small 0 (by omega))
      rw [← hff] at HFR
      have hfb : (ff : Int) ≤ 15000 := by have := hin.out; omega
      have HFF := hid hff
      clear hff c0 c1 c2 d0 d1 d2
      go_cut [3] from 96 to 108 (fun s3 wx => ∃ z' : Int, (-9223372036854775808 ≤ z' ∧ z' < 9223372036854775808) ∧ s3 = .int .i64 z' ∧ Keeps [] w8 wx)
      case first =>
        cases near with
        | false =>
          go_wp2_with fail
          go_meet
          exact ⟨z, HZ.out, rfl, (Keeps.refl _ _).drewN _⟩
        | true =>
          go_upto_region 21 with fail
          have g1 : IntKind.u64.wrap ((c.space : Int) + 4) = (c.space : Int) + 4 := IntWalk.u64_in _ (by omega)
          have g2 : IntKind.i64.wrap ((c.space : Int) + 4) = (c.space : Int) + 4 := IntWalk.i64_in _ (by omega)
          have g3 : ¬ (c.space : Int) + 4 = 0 := by omega
          have g4 : ¬ c.space + 4 = 0 := by omega
          have g5 : IntKind.i64.wrap ((ff : Int) - 2) = (ff : Int) - 2 := IntWalk.i64_in _ (by omega)
          have kk : Keeps [] w8 (w8.drewN nq).drew := ((Keeps.refl _ _).drewN _).drew
          go_region_held3 (fun w' => w'.cell? ⟨cb, 0, none⟩ = some (.int .i64 c.log) ∧ w'.cell? ⟨cb, 1, none⟩ = some (.int .i64 c.roots) ∧ w'.cell? ⟨cb, 2, none⟩ = some (.int .i64 c.space))
            (first | exact ⟨(HKC.out _ kk).1, (HKC.out _ kk).2.1, (HKC.out _ kk).2.2.1⟩)
            (first
              | (go_at_call 11; refine (HFR.out _).mono ?_; rintro e w' ⟨rfl, hk9⟩; have kk := kk.trans hk9; clear hk9))
          rename_i hHd
          clear hHd
          go_wp2_with fail
          go_meet
          exact ⟨_, i64_bounds _, rfl, kk⟩
      case rest =>
      obtain ⟨z1, hz1, rfl, hk8⟩ := hcut
      have HOF := hid (of_any wc p a S6 (HP6.out.dev.keep (k67.trans hk8) (by simp) (by simp) (by simp) (by simp)) c HO.out HN.out 0 (by omega) m hmn (.slice x9 c.roots cp9) z1 hz1 (fun j _ h1 h2 => HS6.out.2.2 j h1 (by have := hin.out; omega)))
      have HZ1 := hid hz1
      have KW8 := (HKW6.out.trans k67).trans hk8
      obtain ⟨c0, c1, c2, d0, d1, d2⟩ := HKC.out _ hk8
      clear hz1 hC7 hB7
      go_wp2_with fail
      refine HOF.out.mono ?_
      rintro e w9 ⟨nn, rr, zz, code, rfl, hk9, hD⟩
      clear c0 c1 c2 d0 d1 d2
      go_upto_region 23 with fail
      have HKA : Hid (∀ w', Keeps [] (w9.alloc (obO nn rr zz)) w' → (w'.cell? ⟨cb, 0, none⟩ = some (.int .i64 c.log) ∧ w'.cell? ⟨cb, 1, none⟩ = some (.int .i64 c.roots) ∧ w'.cell? ⟨cb, 2, none⟩ = some (.int .i64 c.space) ∧ w'.cell? ⟨bb, 0, none⟩ = some (.int .i64 0) ∧ w'.cell? ⟨bb, 1, none⟩ = some (.int .i64 m) ∧ w'.cell? ⟨bb, 2, none⟩ = some (.slice x9 c.roots cp9))) := fun w' hk => HKC.out w' (((hk8.trans hk9).alloc _).trans hk)
      have hO := At.new w9 (obO nn rr zz)
      have KA := (KW8.trans hk9).alloc (obO nn rr zz)
      have kA := ((k67.trans hk8).trans hk9).alloc (obO nn rr zz)
      obtain ⟨ob, hob⟩ : ∃ ob, ob = w9.heap.size := ⟨_, rfl⟩
      obtain ⟨wA, hwA⟩ : ∃ wA, wA = w9.alloc (obO nn rr zz) := ⟨_, rfl⟩
      rw [← hwA] at hO KA HKA kA ⊢
      rw [← hob] at hO ⊢
      have e9 : IntKind.i64.wrap ((ff : Int) + (m : Int)) = (ff : Int) + (m : Int) := IntWalk.i64_in _ (by omega)
      clear hwA hob hk8 hk9 KW8
      have kk : Keeps [] wA wA.drew := (Keeps.refl _ _).drew
      go_region_held3 (fun w' => w'.cell? ⟨cb, 0, none⟩ = some (.int .i64 c.log) ∧ w'.cell? ⟨cb, 1, none⟩ = some (.int .i64 c.roots) ∧ w'.cell? ⟨cb, 2, none⟩ = some (.int .i64 c.space) ∧ w'.cell? ⟨bb, 0, none⟩ = some (.int .i64 0) ∧ w'.cell? ⟨bb, 1, none⟩ = some (.int .i64 m) ∧ w'.cell? ⟨bb, 2, none⟩ = some (.slice x9 c.roots cp9))
        (exact HKA.out _ kk)
        (first
          | (go_at_call 11; refine (HFR.out _).mono ?_; rintro e w' ⟨rfl, hk9⟩; have kk := kk.trans hk9; clear hk9))
      rename_i hHd
      clear hHd
      obtain ⟨c0, c1, c2, d0, d1, d2⟩ := HKA.out _ kk
      go_wp2_with fail
      refine (HFR.out _).mono ?_
      rintro e wB ⟨rfl, hkB⟩
      have kB := kk.trans hkB
      have hOB := kB.at hO (by simp)
      have KB := KA.trans kB
      have HPB := hid (HP6.out.keep0 (kA.trans kB))
      clear c0 c1 c2 d0 d1 d2 kk hkB kB hO KA kA HKA
      have o0 := hOB.cell 0 rfl
      have o1 := hOB.cell 1 rfl
      have o2 := hOB.cell 2 rfl
      rcases hD.out with ⟨h1, rfl, rfl, rfl, rfl⟩ | ⟨j, x1, rfl, h1, h2, h3, h4, h5⟩
      · rw [← HFF.out] at h1
        clear hD HOF
        by_cases hlo : z1 < (ff : Int)
        · have t1 : decide (z1 < (ff : Int)) = true := decide_eq_true hlo
          go_wp2_with fail
          go_ret
          exact ⟨rfl, KB.below (Nat.le_refl _) (by simp)⟩
        · have t1 : decide (z1 < (ff : Int)) = false := decide_eq_false hlo
          have t2 : decide ((ff : Int) + (m : Int) ≤ z1) = true := decide_eq_true (by omega)
          have t3 : decide (z1 ≥ (ff : Int) + (m : Int)) = true := decide_eq_true (by omega)
          have t4 : (ff : Int) + (m : Int) ≤ z1 := by omega
          have t5 : (ff : Int) ≤ z1 := by omega
          clear hlo
          go_wp2_with fail
          go_ret
          exact ⟨rfl, KB.below (Nat.le_refl _) (by simp)⟩
      · have t1 : decide ((j : Int) < (ff : Int)) = false := decide_eq_false (by have := HFF.out; omega)
        have t1' : (ff : Int) ≤ (j : Int) := by have := HFF.out; omega
        have t1'' : decide (j < ff) = false := decide_eq_false (by omega)
        have t2 : decide ((ff : Int) + (m : Int) ≤ (j : Int)) = false := decide_eq_false (by have := HFF.out; omega)
        have t2' : (j : Int) < (ff : Int) + (m : Int) := by have := HFF.out; omega
        have hjn : j < a.n := by have := hin.out; omega
        have HLD := hid (load_eq wB p a S6 j x1 HPB.out.dev hjn h3)
        obtain ⟨N, hN⟩ : ∃ N, N = hdN x1 := ⟨_, rfl⟩
        obtain ⟨R, hR⟩ : ∃ R, R = hdR x1 := ⟨_, rfl⟩
        obtain ⟨T, hT⟩ : ∃ T, T = x1 / 72057594037927936 := ⟨_, rfl⟩
        have EN := hid (show bits .and .u64 (x1 : Int) 4294967295 = (N : Int) by
          rw [hN, show (4294967295 : Int) = ((4294967295 : Nat) : Int) from rfl, u64_and_nat _ _ (by omega) (by decide), show (4294967295 : Nat) = 2 ^ 32 - 1 from rfl, Nat.and_two_pow_sub_one_eq_mod]
          rfl)
        have ER := hid (show bits .and .u64 ((x1 : Int) / 4294967296) 16777215 = (R : Int) by
          rw [hR, show ((x1 : Int) / 4294967296) = ((x1 / 4294967296 : Nat) : Int) by omega, show (16777215 : Int) = ((16777215 : Nat) : Int) from rfl, u64_and_nat _ _ (by omega) (by decide), show (16777215 : Nat) = 2 ^ 24 - 1 from rfl, Nat.and_two_pow_sub_one_eq_mod]
          rfl)
        have eT : (x1 : Int) / 72057594037927936 = (T : Int) := by rw [hT]; omega
        have hNb : (N : Int) < 4294967296 := by rw [hN]; unfold hdN; omega
        have hRb : (R : Int) < 16777216 := by rw [hR]; unfold hdR; omega
        have eW : IntKind.i64.wrap (N : Int) = (N : Int) := IntWalk.i64_in _ (by omega)
        have eW2 : IntKind.i64.wrap (R : Int) = (R : Int) := IntWalk.i64_in _ (by omega)
        have hjb : (j : Int) ≤ 20000 := by have := hin.out; omega
        have eW3 : IntKind.i64.wrap ((j : Int) + 1 + (N : Int)) = (j : Int) + 1 + (N : Int) := IntWalk.i64_in _ (by omega)
        have hx1b : (x1 : Int) < 18446744073709551616 := by omega
        have hHd : isHd x1 = (T == 177 && (decide (N ≤ 64) && decide (R ≤ N))) := by rw [hN, hR, hT]; rfl
        rw [← hN, ← hR, hHd, ← HFF.out] at h5
        clear hHd hN hR hT hD HOF h1 h2 h3 h4 hjn
        go_wp2_with fail
        refine HLD.out.mono ?_
        rintro e wC ⟨rfl, rfl⟩
        go_upto_region 28 with fail
        first | rw [EN.out, ER.out] | skip
        have t1 : (177 : Int) = 177 := rfl
        clear t1 HLD EN ER hNb hRb hx1b
        rcases h5 with ⟨h6, rfl, rfl, rfl, rfl⟩ | ⟨h6, h7, rfl, rfl, rfl, rfl⟩
        · by_cases g1 : T = 177
          case neg =>
            have q1 : ((T : Int) == 177) = false := by rw [beq_eq_false_iff_ne]; omega
            have q2 : ((T : Int) != 177) = true := by simp [bne, q1]
            have q3 : ¬ (T : Int) = 177 := by omega
            clear h6
            go_wp2_with fail
            go_ret
            exact ⟨rfl, KB.below (Nat.le_refl _) (by simp)⟩
          have q1 : ((T : Int) == 177) = true := by rw [beq_iff_eq]; omega
          have q2 : ((T : Int) != 177) = false := by simp [bne, q1]
          by_cases g2 : N ≤ 64
          case neg =>
            have q4 : decide ((64 : Int) < (N : Int)) = true := decide_eq_true (by omega)
            have q5 : (64 : Int) < (N : Int) := by omega
            clear h6
            go_wp2_with fail
            go_ret
            exact ⟨rfl, KB.below (Nat.le_refl _) (by simp)⟩
          have q4 : decide ((64 : Int) < (N : Int)) = false := decide_eq_false (by omega)
          have q5 : (N : Int) ≤ 64 := by omega
          by_cases g3 : R ≤ N
          case neg =>
            have q6 : decide ((N : Int) < (R : Int)) = true := decide_eq_true (by omega)
            have q7 : (N : Int) < (R : Int) := by omega
            clear h6
            go_wp2_with fail
            go_ret
            exact ⟨rfl, KB.below (Nat.le_refl _) (by simp)⟩
          have q6 : decide ((N : Int) < (R : Int)) = false := decide_eq_false (by omega)
          have q7 : (R : Int) ≤ (N : Int) := by omega
          have g4 : ff + m < j + (N + 1) := by
            rcases Nat.lt_or_ge (ff + m) (j + (N + 1)) with h | h
            · exact h
            · exact absurd ⟨by simp [g1, g2, g3], h⟩ h6
          have q8 : decide ((ff : Int) + (m : Int) < (j : Int) + 1 + (N : Int)) = true := decide_eq_true (by omega)
          have q9 : (ff : Int) + (m : Int) < (j : Int) + 1 + (N : Int) := by omega
          clear h6 g4 g1 g2 g3
          go_wp2_with fail
          go_ret
          exact ⟨rfl, KB.below (Nat.le_refl _) (by simp)⟩
        · simp only [Bool.and_eq_true, beq_iff_eq, decide_eq_true_eq] at h6
          have q1 : ((T : Int) == 177) = true := by rw [beq_iff_eq]; omega
          have q2 : ((T : Int) != 177) = false := by simp [bne, q1]
          have q4 : decide ((64 : Int) < (N : Int)) = false := decide_eq_false (by omega)
          have q5 : (N : Int) ≤ 64 := by omega
          have q6 : decide ((N : Int) < (R : Int)) = false := decide_eq_false (by omega)
          have q7 : (R : Int) ≤ (N : Int) := by omega
          have q8 : decide ((ff : Int) + (m : Int) < (j : Int) + 1 + (N : Int)) = false := decide_eq_false (by omega)
          have q9 : (j : Int) + 1 + (N : Int) ≤ (ff : Int) + (m : Int) := by omega
          clear h6 h7
          go_wp2_with fail
          go_ret
          exact ⟨rfl, KB.below (Nat.le_refl _) (by simp)⟩

theorem objectOf_walk (l r s : Int) (x : Option Addr) (n cp : Nat) (f : Nat → Int) (us z : Int) (near heads : Bool) (W : World) (wl : (Lit.int .u16 l).wf = true) (wr : (Lit.int .u16 r).wf = true) (ws : (Lit.int .u16 s).wf = true)
    (R1 : ReadsV (Value.int .u64) W x n f) (R2 : ∀ i, i < n → (Lit.int .u64 (f i)).wf = true) (hn : n ≤ maxLen) (wu : (Lit.int .u16 us).wf = true) (wz : (Lit.int .i64 z).wf = true) :
    Calls Tryz.prog 3 #[.agg #[.int .u16 l, .int .u16 r, .int .u16 s], .slice x n cp, .int .u16 us, .int .i64 z, .bool near, .bool heads] W fun e w' => e = .returned (.bool true) ∧ Below W.heap.size W w' := by
  obtain ⟨l, rfl, hl⟩ := c3_open wl
  obtain ⟨r, rfl, hr⟩ := c3_open wr
  obtain ⟨s, rfl, hs⟩ := c3_open ws
  obtain ⟨us, rfl, hus⟩ := c3_open wu
  have hz := bounds_i64 wz
  have hf : ∀ i, i < n → ((f i).toNat : Int) = f i ∧ (f i).toNat < 18446744073709551616 := fun i hi => by
    have := bounds_u64 (R2 i hi)
    omega
  refine of_small l r s us x n cp (fun i => (f i).toNat) z near heads W hl hr hs hus (by omega) ?_ (fun i hi => (hf i hi).2) (by unfold maxLen at hn; omega)
  rcases R1 with h | ⟨b, off, rfl, hb, hc⟩
  · exact .inl h
  · exact .inr ⟨b, off, rfl, hb, fun i hi => by
      show _ = some (Value.int .u64 ((f i).toNat : Int))
      rw [hc i hi, (hf i hi).1]⟩

end Go.Proofs.YtfiohbniojmfaaaGreat
