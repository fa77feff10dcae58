/- The walk of the law SpaceErrors. -/
import Derived.Test.YtbnmjlgjfaeekaaGreatAwk9
import Derived.BigQuiet
namespace Go.Proofs.YtbnmjlgjfaeekaaGreat
open Go.RowKit Go.OpenShut

/-- The function that counts, notes the first word, and answers an error at one call. -/
def CntJ (p : Nat) (a : DA) (S : DS) (nb fb tb st : Nat) (n : Nat) (s : Nat × Int) (w : World) : Prop :=
  Dev w p a S ∧ At w nb (.cells #[.int .i64 (s.1 : Nat)] 3) ∧ At w fb (.cells #[.int .i64 s.2] 3) ∧ At w tb (.cells #[.int .u8 (st : Nat)] 5) ∧ s.1 ≤ n
def CntT (st : Nat) (s : Nat × Int) (i : Nat) (_ : Int) (code : Int) (s' : Nat × Int) : Prop :=
  s' = (s.1 + 1, if s.1 = 0 then (i : Int) else s.2) ∧ code = if s.1 = st % 8 then 3 else 0

set_option maxRecDepth 100000 in
set_option maxHeartbeats 1000000 in
theorem errors1_at (w : World) (nb fb tb st m : Nat) (f : Int) (hst : st ≤ 255) (hm : m ≤ 900) (i : Nat) (v : Int) (h1 : At w nb (.cells #[.int .i64 (m : Nat)] 3)) (h2 : At w fb (.cells #[.int .i64 f] 3)) (h3 : At w tb (.cells #[.int .u8 (st : Nat)] 5))
    (n1 : nb ≠ fb) (n2 : nb ≠ tb) (n3 : fb ≠ tb) :
    Calls Tryz.prog 20 #[.int .i64 (i : Nat), .int .u64 v, ptr nb, ptr fb, ptr tb] w fun e w' => e = .returned (.int .i64 (if m = st % 8 then 3 else 0)) ∧
      At w' nb (.cells #[.int .i64 ((m + 1 : Nat) : Int)] 3) ∧ At w' fb (.cells #[.int .i64 (if m = 0 then (i : Int) else f)] 3) ∧ Keeps [nb, fb] w w' := by
  have c0 := h1.cell 0 rfl
  have cf := h1.free 0
  have d0 := h2.cell 0 rfl
  have df := h2.free 0
  have t0 := h3.cell 0 rfl
  have hsti : (st : Int) ≤ 255 := by omega
  have hmi : (m : Int) ≤ 900 := by omega
  obtain ⟨q, hq⟩ : ∃ q, q = st % 8 := ⟨_, rfl⟩
  have EQ := hid (show (st : Int) % 8 = (q : Int) by omega)
  have hqb : (q : Int) ≤ 7 := by omega
  rw [← hq]
  have e1 : ((m : Int) + 1) = ((m + 1 : Nat) : Int) := by simp
  have HA1 := hid (h1.set 0 (.int .i64 ((m : Int) + 1)))
  have HB1 := hid (h2.set_ne (a := ⟨nb, 0, none⟩) (fun e => n1 e.symm) (.int .i64 ((m : Int) + 1)))
  have HT1 := hid (h3.set_ne (a := ⟨nb, 0, none⟩) (fun e => n2 e.symm) (.int .i64 ((m : Int) + 1)))
  have K1 : Keeps [nb, fb] w (w.setCell ⟨nb, 0, none⟩ (.int .i64 ((m : Int) + 1))) := (Keeps.refl _ _).set (.inl (by simp)) _
  have HK1 := hid K1
  clear hq h1 h2 h3 K1 e1
  go_enter Tryz.func20, Tryz.ntmps20
  go_upto_region 2 with fail
  have HW := hid (And.intro HA1.out (And.intro HB1.out (And.intro HT1.out HK1.out)))
  obtain ⟨w1, hw1⟩ : ∃ w1, w1 = w.setCell ⟨nb, 0, none⟩ (.int .i64 ((m : Int) + 1)) := ⟨_, rfl⟩
  rw [← hw1] at HW ⊢
  clear hw1 HA1 HB1 HT1 HK1 c0 cf d0 df t0
  obtain ⟨hA1, hB1, hT1, K1⟩ := HW.out
  have c0 := hA1.cell 0 rfl
  have d0 := hB1.cell 0 rfl
  have df := hB1.free 0
  have t0 := hT1.cell 0 rfl
  by_cases hm0 : m = 0
  · subst hm0
    have HE := hid (And.intro (hA1.set_ne (a := ⟨fb, 0, none⟩) n1 (.int .i64 (i : Int))) (And.intro (hB1.set 0 (.int .i64 (i : Int))) (And.intro (hT1.set_ne (a := ⟨fb, 0, none⟩) (fun e => n3 e.symm) (.int .i64 (i : Int))) (K1.set (p := ⟨fb, 0, none⟩) (.inl (by simp)) (.int .i64 (i : Int))))))
    have u1 := HE.out.1.cell 0 rfl
    have u2 := HE.out.2.2.1.cell 0 rfl
    clear hA1 hB1 hT1 K1
    by_cases hq0 : (0 : Nat) = q
    · subst hq0
      have em := EQ.out
      go_wp2_with fail
      go_ret
      exact ⟨by first | rfl | (rw [if_pos rfl]; rfl), HE.out.1, HE.out.2.1, HE.out.2.2.2⟩
    · have HQ := hid hq0
      have em := EQ.out
      have t1 : ((1 : Int) == 1 + (q : Int)) = false := by rw [beq_eq_false_iff_ne]; omega
      clear hq0
      go_wp2_with fail
      go_ret
      exact ⟨by first | rfl | (rw [if_neg HQ.out]; rfl), HE.out.1, HE.out.2.1, HE.out.2.2.2⟩
  · have HM := hid hm0
    have HE := hid (And.intro hA1 (And.intro hB1 K1))
    have t3 : ((m : Int) + 1 == 1) = false := by rw [beq_eq_false_iff_ne]; omega
    have em := EQ.out
    clear hA1 hB1 hT1 K1 hm0
    by_cases hq0 : m = q
    · subst hq0
      have t1 : ((m : Int) + 1 == 1 + (m : Int)) = true := by rw [beq_iff_eq]; omega
      go_wp2_with fail
      go_ret
      exact ⟨by first | rfl | (rw [if_pos rfl]; rfl), HE.out.1, by first | exact HE.out.2.1 | (rw [if_neg HM.out]; exact HE.out.2.1), HE.out.2.2⟩
    · have HQ := hid hq0
      have t1 : ((m : Int) + 1 == 1 + (q : Int)) = false := by rw [beq_eq_false_iff_ne]; omega
      clear hq0
      go_wp2_with fail
      go_ret
      exact ⟨by first | rfl | (rw [if_neg HQ.out]; rfl), HE.out.1, by first | exact HE.out.2.1 | (rw [if_neg HM.out]; exact HE.out.2.1), HE.out.2.2⟩

theorem cnt9_storer (p : Nat) (a : DA) (S : DS) (nb fb tb st : Nat) (hst : st ≤ 255) (hs : nb ≠ fb ∧ nb ≠ tb ∧ fb ≠ tb ∧ (∀ b ∈ [a.d, a.s, a.k, a.m], b ≠ nb ∧ b ≠ fb)) :
    Storer 20 #[] #[ptr nb, ptr fb, ptr tb] a (fun _ => S) (fun _ => [nb, fb]) 900 (CntJ p a S nb fb tb st) (CntT st) (fun _ _ _ _ => False) where
  inv := fun w i v => by simp [go_sem]
  dev := fun n s w h => ⟨p, h.1⟩
  keep := fun n s w w' h hk => ⟨h.1.keep hk (by simp) (by simp) (by simp) (by simp), hk.at h.2.1 (by simp), hk.at h.2.2.1 (by simp), hk.at h.2.2.2.1 (by simp), h.2.2.2.2⟩
  more := fun n s w h => ⟨h.1, h.2.1, h.2.2.1, h.2.2.2.1, Nat.le_succ_of_le h.2.2.2.2⟩
  call := fun n s w i v hn ⟨h1, h2, h3, h4, h5⟩ hi => by
    obtain ⟨m, f⟩ := s
    obtain ⟨s1, s2, s3, s4⟩ := hs
    simp at h5
    refine (errors1_at w nb fb tb st m f hst (by omega) i v h2 h3 h4 s1 s2 s3).mono ?_
    rintro e w' ⟨rfl, e1, e2, e3⟩
    have hd : ∀ b ∈ [a.d, a.s, a.k, a.m], b ∉ [nb, fb] := fun b hb hm => by
      have := s4 b hb
      simp at hm
      omega
    exact .inl ⟨_, (m + 1, if m = 0 then (i : Int) else f), rfl, ⟨rfl, rfl⟩, ⟨h1.keep e3 (hd _ (by simp)) (hd _ (by simp)) (hd _ (by simp)) (hd _ (by simp)), e1, e2, e3.at h4 (by simp; omega), by simp; omega⟩, e3, fun b hb => .inl hb⟩

/-- What is counted, of a row of stores. -/
theorem sq_cnt {st : Nat} : ∀ {l : List (Nat × Int)} {s s' : Nat × Int} {code : Int}, SqT (CntT st) l s code s' → s.1 ≤ st % 8 →
    (s.1 + l.length ≤ st % 8 ∧ code = 0 ∧ s'.1 = s.1 + l.length) ∨ (st % 8 < s.1 + l.length ∧ code = 3 ∧ s'.1 = st % 8 + 1)
  | [], s, s', code, h, hs => by
    obtain ⟨rfl, rfl⟩ := h
    exact .inl ⟨by simpa using hs, rfl, rfl⟩
  | (i, v) :: l, s, s', code, h, hs => by
    obtain ⟨c1, s1, ⟨e1, e2⟩, h2⟩ := h
    rw [List.length_cons]
    by_cases hq : s.1 = st % 8
    · rw [if_pos hq] at e2
      rcases h2 with ⟨_, rfl, rfl⟩ | ⟨h3, _⟩
      · exact .inr ⟨by omega, e2, by rw [e1]; simp [hq]⟩
      · omega
    · rw [if_neg hq] at e2
      rcases h2 with ⟨h3, _⟩ | ⟨_, h3⟩
      · exact absurd e2 h3
      · have := sq_cnt h3 (by rw [e1]; show s.1 + 1 ≤ _; omega)
        rw [e1] at this
        simp only at this
        omega

theorem sq_first {st : Nat} : ∀ {l : List (Nat × Int)} {s s' : Nat × Int} {code : Int}, SqT (CntT st) l s code s' → s.1 ≠ 0 → s'.2 = s.2
  | [], s, s', code, h, hs => by obtain ⟨_, rfl⟩ := h; rfl
  | (i, v) :: l, s, s', code, h, hs => by
    obtain ⟨c1, s1, ⟨e1, e2⟩, h2⟩ := h
    rw [if_neg hs] at e1
    rcases h2 with ⟨_, _, rfl⟩ | ⟨_, h3⟩
    · rw [e1]
    · have := sq_first h3 (by rw [e1]; simp)
      rw [this, e1]

theorem sq_alc {st : Nat} {c : Cfg} {k u nw r : Nat} {s' : Nat × Int} {code : Int} (h : SqT (CntT st) (alcW c k u nw r) (0, 0) code s') :
    ((nw + 2 ≤ st % 8 ∧ code = 0 ∧ s'.1 = nw + 2) ∨ (st % 8 < nw + 2 ∧ code = 3 ∧ s'.1 = st % 8 + 1)) ∧ s'.2 = ((c.act + 1 : Nat) : Int) := by
  constructor
  · have := sq_cnt h (Nat.zero_le _)
    rw [alcW_len] at this
    simpa using this
  · obtain ⟨c1, s1, ⟨e1, e2⟩, h2⟩ := h
    simp at e1
    rcases h2 with ⟨_, _, rfl⟩ | ⟨_, h3⟩
    · rw [e1]; simp
    · rw [sq_first h3 (by rw [e1]; simp), e1]; simp

set_option maxRecDepth 100000 in
set_option maxHeartbeats 4000000 in
theorem errors_small (l r s st : Nat) (wv rv uv : Int) (near : Bool) (W : World) (hl : l ≤ 65535) (hrr : r ≤ 65535) (hs : s ≤ 65535) (hst : st ≤ 255)
    (hw : -9223372036854775808 ≤ wv ∧ wv ≤ 9223372036854775807) (hr : -9223372036854775808 ≤ rv ∧ rv ≤ 9223372036854775807) (hu : 0 ≤ uv ∧ uv < 18446744073709551616) :
    Calls Tryz.prog 4 #[c3V l r s, .int .i64 wv, .int .i64 rv, .int .u64 uv, .int .u8 (st : Nat), .bool near] W fun e w' => e = .returned (.bool true) ∧ Below W.heap.size W w' := by
  have HWV := hid hw
  have HRV := hid hr
  have HUV := hid hu
  clear hw hr hu
  go_enter Tryz.func4, Tryz.ntmps4
  go_wp2_with fail
  have hB0 := (At.new W (c3O l r s)).alloc (.cells #[.int .u8 (st : Nat)] 5)
  have hT0 := At.new (W.alloc (c3O l r s)) (.cells #[.int .u8 (st : Nat)] 5)
  have K0 := ((Keeps.refl [] W).alloc (c3O l r s)).alloc (.cells #[.int .u8 (st : Nat)] 5)
  rw [show (W.alloc (c3O l r s)).heap.size = W.heap.size + 1 by simp] at hT0
  refine (awake9_any _).mono ?_
  rintro e w1 ⟨rfl, hb1⟩
  have k1 := Go.Proofs.YtbnmjlgjfaeekaaGreat.Below.keeps hb1 []
  have K1 := K0.trans k1
  have hB1 := k1.at hB0 (by simp)
  have hT1 := k1.at hT0 (by simp)
  have hz1 : W.heap.size + 2 ≤ w1.heap.size := by have := k1.size; simp at this; omega
  clear hb1 k1 hB0 hT0 K0
  have c0 : w1.cell? ⟨W.heap.size, 0, none⟩ = some (.int .u16 l) := hB1.cell 0 rfl
  have c1 : w1.cell? ⟨W.heap.size, 1, none⟩ = some (.int .u16 r) := hB1.cell 1 rfl
  have c2 : w1.cell? ⟨W.heap.size, 2, none⟩ = some (.int .u16 s) := hB1.cell 2 rfl
  go_wp2_with fail
  refine (make3_at w1 l r s hl hrr hs).mono ?_
  rintro e w2 ⟨rfl, hk2⟩
  have K2 := K1.trans hk2
  have hT2 := hk2.at hT1 (by simp)
  have hok := mk3_ok l r s
  obtain ⟨c, hc⟩ : ∃ c, c = mk3 l r s := ⟨_, rfl⟩
  have hz2 : W.heap.size + 2 ≤ w2.heap.size := Nat.le_trans hz1 hk2.size
  rw [← hc] at hok ⊢
  clear hc c0 c1 c2 hB1 hT1 hk2 K1 hz1
  go_wp2_with fail
  have hC3 := At.new w2 (cfgO c)
  have hT3 := hT2.alloc (cfgO c)
  have K3 := K2.alloc (cfgO c)
  obtain ⟨cb, hcb⟩ : ∃ cb, cb = w2.heap.size := ⟨_, rfl⟩
  rw [← hcb] at hC3 hz2 ⊢
  have HCB := hid hcb
  clear hcb K2 hT2
  refine (formatted_at _ c hok none 0 0 (fun _ => 0) (.inl rfl) (by omega)).mono ?_
  rintro e w4 ⟨p, a, u, S, rfl, haN, hP, hub, hW, hkp, his, ⟨b1, b2, b3, b4, b5⟩, hk4⟩
  simp only [World.size_alloc] at b1 b2 b3 b4 b5
  rw [← HCB.out] at b1 b2 b3 b4 b5
  have hC4 := hk4.at hC3 (by simp)
  have hT4 := hk4.at hT3 (by simp)
  have K4 := K3.trans hk4
  obtain ⟨_, hLF⟩ := hW
  have HN := hid haN
  have HO := hid hok
  have hsp : (c.space : Int) ≤ 4096 := by have := hok.small.2.2; omega
  have hai : (c.act : Int) ≤ 823 := by have := act_le hok.small; omega
  have hin : Hid (c.act + 2 ≤ a.n) := by
    have := @frm_ge c 1
    have := @frm_space c 1 (Nat.le_refl _)
    show _ ≤ _; omega
  have HWT : Hid (∀ b ∈ [p, a.s, a.k, a.m], W.heap.size ≤ b ∧ b ≠ cb ∧ b ≠ W.heap.size + 1) := fun b hb => by
    simp only [List.mem_cons, List.not_mem_nil, or_false] at hb
    omega
  have HHB := hid (show W.heap.size + 1 < cb by omega)
  have HZ := hid (show S.now c.act = 0 from hLF.blk 0 (by omega))
  have HP := hid hP
  have HUB := hid hub
  clear haN hok hkp his hC3 hT3 K3 hk4 hLF b1 b2 b3 b4 b5 hP hub hz2 HCB
  have c0 := hC4.cell 0 rfl
  have c1 := hC4.cell 1 rfl
  have c2 := hC4.cell 2 rfl
  go_upto_if 32 with fail
  go_cut [1, 2, 3] from 33 to 42 (fun s1 s2 s3 wx => ∃ A B U : Int, s1 = .int .i64 A ∧ s2 = .int .i64 B ∧ s3 = .int .u64 U ∧ (-9223372036854775808 ≤ A ∧ A ≤ 9223372036854775807) ∧ (-9223372036854775808 ≤ B ∧ B ≤ 9223372036854775807) ∧ (0 ≤ U ∧ U < 18446744073709551616) ∧ Keeps [] w4 wx)
  case first =>
    cases near with
    | false =>
      go_wp2_with fail
      go_meet
      exact ⟨_, _, _, rfl, rfl, rfl, HWV.out, HRV.out, HUV.out, Keeps.refl _ _⟩
    | true =>
      obtain ⟨un, rfl⟩ : ∃ k : Nat, (k : Int) = uv := ⟨uv.toNat, by have := HUV.out; omega⟩
      have hub2 : (un : Int) ≤ 18446744073709551615 := by have := HUV.out; omega
      obtain ⟨sp, hsp2⟩ : ∃ sp : Nat, sp = c.space + 3 := ⟨_, rfl⟩
      have g1 : (c.space : Int) + 3 = (sp : Int) := by omega
      have spb : (sp : Int) ≤ 5000 := by omega
      have n1 : ¬ (sp : Int) = 0 := by omega
      have n3 : ¬ sp = 0 := by omega
      have e1 : IntKind.u64.wrap (sp : Int) = (sp : Int) := IntWalk.u64_in _ (by omega)
      have e3 : IntKind.i64.wrap (sp : Int) = (sp : Int) := IntWalk.i64_in _ (by omega)
      have HW1 := HWV.out
      have HW2 := HRV.out
      clear hsp2
      go_upto_region 8 with fail
      go_quiet (fail)
      go_wp2_with fail
      go_meet
      refine ⟨_, _, _, rfl, rfl, rfl, ?_, ?_, ?_, (Keeps.refl _ _).drewN _⟩
      · have := Int.tmod_lt_of_pos wv (show (0 : Int) < 12 by decide)
        have := Int.lt_tmod_of_pos wv (show (0 : Int) < 12 by decide)
        omega
      · have := Int.tmod_lt_of_pos rv (show (0 : Int) < 12 by decide)
        have := Int.lt_tmod_of_pos rv (show (0 : Int) < 12 by decide)
        omega
      · have := Int.emod_lt_of_pos (un : Int) (show (0 : Int) < sp by omega)
        have := Int.emod_nonneg (un : Int) n1
        omega
  case rest =>
  obtain ⟨A, B, U, rfl, rfl, rfl, hA, hB, hU, hkx⟩ := hcut
  have HA := hid hA
  have HB := hid hB
  have HU := hid hU
  have hC5 := hkx.at hC4 (by simp)
  have hT5 := hkx.at hT4 (by simp)
  have hP5 := HP.out.keep0 hkx
  have K5 := K4.trans hkx
  have hlo := HP.out.lo
  clear hA hB hU HWV HRV HUV hC4 hT4 K4 hkx HP c0 c1 c2
  have c0 := hC5.cell 0 rfl
  have c1 := hC5.cell 1 rfl
  have c2 := hC5.cell 2 rfl
  go_wp2_with fail
  refine (usedw_at _ c HO.out.small).mono ?_
  rintro e w6 ⟨rfl, hk6⟩
  have hC6 := hk6.at hC5 (by simp)
  have hT6 := hk6.at hT5 (by simp)
  have hP6 := hP5.keep0 hk6
  have K6 := K5.trans hk6
  clear c0 c1 c2 hC5 hT5 hP5 K5 hk6
  go_wp2_with fail
  refine (show Calls Tryz.prog 9 #[ptr a.d, .int .i64 ((c.act : Int) + 1), .int .u64 U] w6 _ from store_ran w6 p a (-1) u S (c.act + 1) U hP6 (by have := hin.out; omega) (by have := HUB.out; omega)).mono ?_
  intro e w7 hr7
  obtain ⟨rfl, hP7, hk7⟩ := hr7.free hlo
  have hcT : cb ∉ [p, a.s, a.k, a.m] := fun h => (HWT.out _ h).2.1 rfl
  have htT : W.heap.size + 1 ∉ [p, a.s, a.k, a.m] := fun h => (HWT.out _ h).2.2 rfl
  have hC7 := hk7.at hC6 hcT
  have hT7 := hk7.at hT6 htT
  have K7 : Keeps [] W w7 := K6.new hk7 (fun b hb => .inr (HWT.out b hb).1)
  have HS1 : Hid ((execs S [.st (c.act + 1) U]).now c.act = 0) := by
    show (if c.act = c.act + 1 then U else S.now c.act) = 0
    rw [if_neg (by omega)]; exact HZ.out
  have HS2 : Hid ((execs S [.st (c.act + 1) U]).now (c.act + 1) = U) := by
    show (if c.act + 1 = c.act + 1 then U else S.now (c.act + 1)) = U
    rw [if_pos rfl]
  obtain ⟨S7, hS7⟩ : ∃ S7, S7 = execs S [.st (c.act + 1) U] := ⟨_, rfl⟩
  have hD7 := hP7.dev
  rw [← hS7] at HS1 HS2 hD7
  clear hS7 hr7 hC6 hT6 hP6 K6 hk7 hP7 hcT htT HZ HUB hlo
  go_upto_region 12 with fail
  have hC8 := ((hC7.alloc (hdO A B)).alloc (.cells #[.int .i64 0] 3)).alloc (.cells #[.int .i64 0] 3)
  have hT8 := ((hT7.alloc (hdO A B)).alloc (.cells #[.int .i64 0] 3)).alloc (.cells #[.int .i64 0] 3)
  have hH8 := ((At.new w7 (hdO A B)).alloc (.cells #[.int .i64 0] 3)).alloc (.cells #[.int .i64 0] 3)
  have hN8 := (At.new (w7.alloc (hdO A B)) (.cells #[.int .i64 0] 3)).alloc (.cells #[.int .i64 0] 3)
  have hF8 := At.new ((w7.alloc (hdO A B)).alloc (.cells #[.int .i64 0] 3)) (.cells #[.int .i64 0] 3)
  have K78 := (((Keeps.refl [] w7).alloc (hdO A B)).alloc (.cells #[.int .i64 0] 3)).alloc (.cells #[.int .i64 0] 3)
  have hD8 := hD7.keep K78 (by simp) (by simp) (by simp) (by simp)
  have hf7 := hD7.fresh (Nat.le_refl w7.heap.size)
  have hf8 := hD7.fresh (show w7.heap.size ≤ w7.heap.size + 1 by omega)
  have hf9 := hD7.fresh (show w7.heap.size ≤ w7.heap.size + 2 by omega)
  have hzc := hC7.lt
  have hzt := hT7.lt
  have hzw := K7.size
  rw [show (w7.alloc (hdO A B)).heap.size = w7.heap.size + 1 by simp] at hN8
  rw [show ((w7.alloc (hdO A B)).alloc (.cells #[.int .i64 0] 3)).heap.size = w7.heap.size + 2 by simp] at hF8
  obtain ⟨hb, hhb⟩ : ∃ hb, hb = w7.heap.size := ⟨_, rfl⟩
  have K8 := K7.trans K78
  obtain ⟨w8, hw8⟩ : ∃ w8, w8 = ((w7.alloc (hdO A B)).alloc (.cells #[.int .i64 0] 3)).alloc (.cells #[.int .i64 0] 3) := ⟨_, rfl⟩
  rw [← hw8] at hC8 hT8 hH8 hN8 hF8 K8 hD8 ⊢
  rw [← hhb] at hH8 hN8 hF8 hf7 hf8 hf9 hzc hzt hzw ⊢
  clear hw8 hhb hC7 hT7 hD7 K7 K78
  have HSEP := hid (show cb ≠ hb ∧ cb ≠ hb + 1 ∧ cb ≠ hb + 2 ∧ W.heap.size + 1 ≠ hb ∧ W.heap.size + 1 ≠ hb + 1 ∧ W.heap.size + 1 ≠ hb + 2 ∧ W.heap.size ≤ hb from ⟨by omega, by omega, by omega, by omega, by omega, by omega, hzw⟩)
  have HF7 := hid (And.intro hf7 (And.intro hf8 hf9))
  clear hf7 hf8 hf9 hzc hzt hzw
  have c0 := hC8.cell 0 rfl
  have c1 := hC8.cell 1 rfl
  have c2 := hC8.cell 2 rfl
  have h0 := hH8.cell 0 rfl
  have h1 := hH8.cell 1 rfl
  by_cases hB : hdB A B = true
  case neg =>
    have HAL := hid (alloc9_bad w8 a.d c A B (by simpa using hB) (.func (.func 20) #[] #[ptr (hb + 1), ptr (hb + 2), ptr (W.heap.size + 1)]))
    have hor : A < 0 ∨ 64 < A ∨ B < 0 ∨ A < B := by
      simp [hdB] at hB
      omega
    clear hB
    go_wp2_with fail
    refine HAL.out.mono ?_
    rintro e w9 ⟨rfl, hk9⟩
    have n0 := (hk9.at hN8 (by simp)).cell 0 rfl
    have K9 := K8.trans hk9
    clear c0 c1 c2 h0 h1 hk9 HAL hC8 hT8 hH8 hN8 hF8 hD8 K8
    by_cases a1 : A < 0
    · have t1 : decide (A < (0 : Int)) = true := decide_eq_true a1
      clear hor
      go_wp2_with fail
      go_ret
      exact ⟨rfl, K9.below (Nat.le_refl _) (by simp)⟩
    · have t1 : decide (A < (0 : Int)) = false := decide_eq_false a1
      by_cases a2 : 64 < A
      · have t2 : decide (A > (64 : Int)) = true := decide_eq_true a2
        have t2' : decide ((64 : Int) < A) = true := decide_eq_true a2
        clear hor
        go_wp2_with fail
        go_ret
        exact ⟨rfl, K9.below (Nat.le_refl _) (by simp)⟩
      · have t2 : decide (A > (64 : Int)) = false := decide_eq_false a2
        have t2' : decide ((64 : Int) < A) = false := decide_eq_false a2
        by_cases a3 : B < 0
        · have t3 : decide (B < (0 : Int)) = true := decide_eq_true a3
          clear hor
          go_wp2_with fail
          go_ret
          exact ⟨rfl, K9.below (Nat.le_refl _) (by simp)⟩
        · have t3 : decide (B < (0 : Int)) = false := decide_eq_false a3
          have a4 : A < B := by omega
          have t4 : decide (B > A) = true := decide_eq_true a4
          have t4' : decide (A < B) = true := decide_eq_true a4
          clear hor
          go_wp2_with fail
          go_ret
          exact ⟨rfl, K9.below (Nat.le_refl _) (by simp)⟩
  have hor : 0 ≤ A ∧ A ≤ 64 ∧ 0 ≤ B ∧ B ≤ A := by
    simp [hdB] at hB
    omega
  clear hB
  obtain ⟨nw, rfl⟩ : ∃ k : Nat, (k : Int) = A := ⟨A.toNat, by omega⟩
  obtain ⟨rr, rfl⟩ : ∃ k : Nat, (k : Int) = B := ⟨B.toNat, by omega⟩
  obtain ⟨us, rfl⟩ : ∃ k : Nat, (k : Int) = U := ⟨U.toNat, by have := HU.out; omega⟩
  obtain ⟨o1, o2, o3, o4⟩ := hor
  have hub : (us : Int) ≤ 18446744073709551615 := by have := HU.out; omega
  have hJ0 : CntJ p a S7 (hb + 1) (hb + 2) (W.heap.size + 1) st 0 (0, 0) w8 := ⟨hD8, hN8, hF8, hT8, Nat.le_refl _⟩
  have HAL := hid (alloc9_at (cnt9_storer p a S7 (hb + 1) (hb + 2) (W.heap.size + 1) st hst ⟨by omega, by have := HSEP.out; omega, by have := HSEP.out; omega, fun b hm => by
      have := HF7.out
      simp only [List.mem_cons, List.not_mem_nil, or_false] at hm
      omega⟩) 0 (0, 0) w8 hJ0 c HO.out HN.out nw rr (by omega) (by omega) (by omega) (by rw [HS1.out]; omega) (by rw [HS2.out]; omega) (fun n s w hJ b hm => by
      simp only [List.mem_cons, List.not_mem_nil, or_false] at hm
      rcases hm with rfl | rfl
      · exact hJ.2.1.lt
      · exact hJ.2.2.1.lt))
  have t1 : decide ((nw : Int) < (0 : Int)) = false := decide_eq_false (by omega)
  have t2 : decide ((nw : Int) > (64 : Int)) = false := decide_eq_false (by omega)
  have t2' : decide ((64 : Int) < (nw : Int)) = false := decide_eq_false (by omega)
  have t2'' : decide (64 < nw) = false := decide_eq_false (by omega)
  have t3 : decide ((rr : Int) < (0 : Int)) = false := decide_eq_false (by omega)
  have t4 : decide ((rr : Int) > (nw : Int)) = false := decide_eq_false (by omega)
  have t4' : decide ((nw : Int) < (rr : Int)) = false := decide_eq_false (by omega)
  have t4'' : decide (nw < rr) = false := decide_eq_false (by omega)
  have hnb : (nw : Int) ≤ 64 := by omega
  have su : IntKind.u64.wrap (c.space : Int) = (c.space : Int) := IntWalk.u64_in _ (by omega)
  clear o1 o2 o3 o4 hJ0 hD8
  go_wp2_with fail
  refine HAL.out.mono ?_
  rintro e w9 (⟨h9, rfl, hk9⟩ | ⟨k, u9, hk, hu, e1, e2, ⟨g9, rfl, hk9⟩ | ⟨g9, ⟨code, s9, rfl, hq, hJ9, hk9, _⟩ | ⟨_, hg⟩⟩⟩)
  · rw [HS1.out, HS2.out] at h9
    have h2 : (c.space : Int) < (us : Int) := by omega
    have hC9 := hk9.at hC8 (by simp)
    have n0 := (hk9.at hN8 (by simp)).cell 0 rfl
    have K9 := K8.trans hk9
    clear h9 c0 c1 c2 h0 h1 hk9 HAL hC8 hT8 hH8 hN8 hF8 K8
    have c2 := hC9.cell 2 rfl
    have t5 : decide ((us : Int) > (c.space : Int)) = true := decide_eq_true h2
    have t5' : decide ((c.space : Int) < (us : Int)) = true := decide_eq_true h2
    have t5'' : decide (c.space < us) = true := decide_eq_true (by omega)
    go_wp2_with fail
    go_ret
    exact ⟨rfl, K9.below (Nat.le_refl _) (by simp)⟩
  · rw [HS1.out] at e1
    rw [HS2.out] at e2
    obtain rfl : us = u9 := by omega
    have hC9 := hk9.at hC8 (by simp)
    have n0 := (hk9.at hN8 (by simp)).cell 0 rfl
    have K9 := K8.trans hk9
    have h2 : (us : Int) ≤ (c.space : Int) := by omega
    clear c0 c1 c2 h0 h1 hk9 HAL hC8 hT8 hH8 hN8 hF8 K8 e1 e2
    have c2 := hC9.cell 2 rfl
    have t5 : decide ((us : Int) > (c.space : Int)) = false := decide_eq_false (by omega)
    have t5' : decide ((c.space : Int) < (us : Int)) = false := decide_eq_false (by omega)
    have t5'' : decide (c.space < us) = false := decide_eq_false (by omega)
    have t6 : (c.space : Int) - (us : Int) < (nw : Int) + 1 := by omega
    have t6' : decide ((c.space : Int) - (us : Int) < (nw : Int) + 1) = true := decide_eq_true t6
    go_wp2_with fail
    go_ret
    exact ⟨rfl, K9.below (Nat.le_refl _) (by simp)⟩
  · rw [HS1.out] at e1
    rw [HS2.out] at e2
    obtain rfl : us = u9 := by omega
    obtain rfl : k = 0 := by omega
    obtain ⟨hcase, hs2⟩ := sq_alc hq
    have hcT : cb ∉ [hb + 1, hb + 2] := by have := HSEP.out; simp; omega
    have htT : W.heap.size + 1 ∉ [hb + 1, hb + 2] := by have := HSEP.out; simp; omega
    have hC9 := hk9.at hC8 hcT
    have hT9 := hk9.at hT8 htT
    have K9 : Keeps [] W w9 := K8.new hk9 (fun b hm => by have := HSEP.out; simp at hm; right; omega)
    have h2 : (us : Int) ≤ (c.space : Int) := by omega
    have t5 : decide ((us : Int) > (c.space : Int)) = false := decide_eq_false (by omega)
    have t5' : decide ((c.space : Int) < (us : Int)) = false := decide_eq_false (by omega)
    have t5'' : decide (c.space < us) = false := decide_eq_false (by omega)
    have t6 : (nw : Int) + 1 ≤ (c.space : Int) - (us : Int) := by omega
    have t6' : decide ((c.space : Int) - (us : Int) < (nw : Int) + 1) = false := decide_eq_false (by omega)
    obtain ⟨_, hN9, hF9, _, _⟩ := hJ9
    obtain ⟨q, hq8⟩ : ∃ q, q = st % 8 := ⟨_, rfl⟩
    have EQ : (st : Int) % 8 = (q : Int) := by omega
    have hqb : (q : Int) ≤ 7 := by omega
    have hsti : (st : Int) ≤ 255 := by omega
    rw [← hq8] at hcase
    rw [hs2] at hF9
    have HN9 := hid hN9
    have HF9 := hid hF9
    have HC9 := hid hC9
    have HT9 := hid hT9
    clear c0 c1 c2 h0 h1 HAL hC8 hT8 hH8 hN8 hF8 K8 e1 e2 hq hk9 hcT htT hs2 hN9 hF9 hq8 hC9 hT9
    have c0 := HC9.out.cell 0 rfl
    have c1 := HC9.out.cell 1 rfl
    have c2 := HC9.out.cell 2 rfl
    have d0 := HT9.out.cell 0 rfl
    rcases hcase with ⟨g1, rfl, hs1⟩ | ⟨g1, rfl, hs1⟩
    · have t7 : (nw : Int) + 2 < 1 + (q : Int) := by omega
      have t7' : decide ((nw : Int) + 2 < 1 + (q : Int)) = true := decide_eq_true t7
      have t8 : ¬ (1 + (q : Int) ≤ (nw : Int) + 2) := by omega
      have t8' : decide (1 + (q : Int) ≤ (nw : Int) + 2) = false := decide_eq_false t8
      have t8'' : decide ((nw : Int) + 2 ≥ 1 + (q : Int)) = false := decide_eq_false t8
      go_upto_region 21 with fail
      have hfb : (c.frm 0 : Int) ≤ 15000 := by have := frm_le HO.out.small (show 0 ≤ 2 by omega); omega
      have HC : Hid (∀ w', Keeps [] w9 w' → (w'.cell? ⟨cb, 0, none⟩ = some (.int .i64 c.log) ∧ w'.cell? ⟨cb, 1, none⟩ = some (.int .i64 c.roots) ∧ w'.cell? ⟨cb, 2, none⟩ = some (.int .i64 c.space) ∧ w'.cell? ⟨hb + 1, 0, none⟩ = some (.int .i64 ((nw : Int) + 2)) ∧ w'.cell? ⟨hb + 2, 0, none⟩ = some (.int .i64 ((c.act : Int) + 1)))) := fun w' hk => by
        have e1 := hk.at HC9.out (by simp)
        have e2 := (hk.at HN9.out (by simp)).cell 0 rfl
        have e3 := (hk.at HF9.out (by simp)).cell 0 rfl
        rw [hs1] at e2
        exact ⟨e1.cell 0 rfl, e1.cell 1 rfl, e1.cell 2 rfl, by simpa using e2, by simpa using e3⟩
      have e1 : IntKind.i64.wrap (us : Int) = (us : Int) := IntWalk.i64_in _ (by omega)
      have e2 : IntKind.i64.wrap ((c.frm 0 : Int) + (us : Int)) = (c.frm 0 : Int) + (us : Int) := IntWalk.i64_in _ (by omega)
      have e3 : IntKind.i64.wrap ((nw : Int) + 2) = (nw : Int) + 2 := IntWalk.i64_in _ (by omega)
      clear t7 t7' t8 t8' t8'' g1 hs1 c0 c1 c2 d0 t1 t2 t2' t2'' t3 t4 t4' t4'' t5 t5' t5'' t6 t6' EQ
      have kk : Keeps [] w9 w9.drew := (Keeps.refl _ _).drew
      go_region_held3 (fun w' => (w'.cell? ⟨cb, 0, none⟩ = some (.int .i64 c.log) ∧ w'.cell? ⟨cb, 1, none⟩ = some (.int .i64 c.roots) ∧ w'.cell? ⟨cb, 2, none⟩ = some (.int .i64 c.space) ∧ w'.cell? ⟨hb + 1, 0, none⟩ = some (.int .i64 ((nw : Int) + 2)) ∧ w'.cell? ⟨hb + 2, 0, none⟩ = some (.int .i64 ((c.act : Int) + 1))))
        (exact HC.out _ kk)
        (first
          | (go_at_call 15; refine (show Calls Tryz.prog 15 #[cfgV c, .int .i64 0] _ _ from from_at _ c HO.out.small 0 (by omega)).mono ?_; rintro e w' ⟨rfl, hk1⟩; have kk := kk.trans hk1; clear hk1)
          | (go_at_call 19; refine (usedw_at _ c HO.out.small).mono ?_; rintro e w' ⟨rfl, hk1⟩; have kk := kk.trans hk1; clear hk1))
      rename_i hHd
      clear hHd
      go_wp2_with fail
      go_ret
      exact ⟨rfl, (K9.trans kk).below (Nat.le_refl _) (by simp)⟩
    · have t8 : 1 + (q : Int) ≤ (nw : Int) + 2 := by omega
      have t8' : decide (1 + (q : Int) ≤ (nw : Int) + 2) = true := decide_eq_true t8
      have t8'' : decide ((nw : Int) + 2 ≥ 1 + (q : Int)) = true := decide_eq_true t8
      go_upto_region 20 with fail
      have HC : Hid (∀ w', Keeps [] w9 w' → (w'.cell? ⟨cb, 0, none⟩ = some (.int .i64 c.log) ∧ w'.cell? ⟨cb, 1, none⟩ = some (.int .i64 c.roots) ∧ w'.cell? ⟨cb, 2, none⟩ = some (.int .i64 c.space) ∧ w'.cell? ⟨hb + 1, 0, none⟩ = some (.int .i64 (1 + (q : Int))) ∧ w'.cell? ⟨hb + 2, 0, none⟩ = some (.int .i64 ((c.act : Int) + 1)) ∧ w'.cell? ⟨W.heap.size + 1, 0, none⟩ = some (.int .u8 (st : Nat)))) := fun w' hk => by
        have e1 := hk.at HC9.out (by simp)
        have e2 := (hk.at HN9.out (by simp)).cell 0 rfl
        have e3 := (hk.at HF9.out (by simp)).cell 0 rfl
        have e4 := (hk.at HT9.out (by simp)).cell 0 rfl
        rw [hs1] at e2
        exact ⟨e1.cell 0 rfl, e1.cell 1 rfl, e1.cell 2 rfl, by simpa [Int.add_comm] using e2, by simpa using e3, e4⟩
      have e1 : (st : Int).tmod 8 = (q : Int) := by rw [Int.tmod_eq_emod_of_nonneg (by omega)]; exact EQ
      have e2 : IntKind.i64.wrap (q : Int) = (q : Int) := IntWalk.i64_in _ (by omega)
      have e3 : IntKind.i64.wrap (1 + (q : Int)) = 1 + (q : Int) := IntWalk.i64_in _ (by omega)
      clear t8 t8' t8'' g1 hs1 c0 c1 c2 d0 t1 t2 t2' t2'' t3 t4 t4' t4'' t5 t5' t5'' t6 t6'
      have kk : Keeps [] w9 w9.drew := (Keeps.refl _ _).drew
      go_region_held3 (fun w' => (w'.cell? ⟨cb, 0, none⟩ = some (.int .i64 c.log) ∧ w'.cell? ⟨cb, 1, none⟩ = some (.int .i64 c.roots) ∧ w'.cell? ⟨cb, 2, none⟩ = some (.int .i64 c.space) ∧ w'.cell? ⟨hb + 1, 0, none⟩ = some (.int .i64 (1 + (q : Int))) ∧ w'.cell? ⟨hb + 2, 0, none⟩ = some (.int .i64 ((c.act : Int) + 1)) ∧ w'.cell? ⟨W.heap.size + 1, 0, none⟩ = some (.int .u8 (st : Nat))))
        (exact HC.out _ kk)
        (first
          | (go_at_call 19; refine (usedw_at _ c HO.out.small).mono ?_; rintro e w' ⟨rfl, hk1⟩; have kk := kk.trans hk1; clear hk1))
      rename_i hHd
      clear hHd
      go_wp2_with fail
      go_ret
      exact ⟨rfl, (K9.trans kk).below (Nat.le_refl _) (by simp)⟩
  · exact absurd hg sqG_none

theorem spaceErrors_walk (l r s wv rv uv st : Int) (near : Bool) (W : World) (wl : (Lit.int .u16 l).wf = true) (wr : (Lit.int .u16 r).wf = true) (ws : (Lit.int .u16 s).wf = true) (w1 : (Lit.int .i64 wv).wf = true) (w2 : (Lit.int .i64 rv).wf = true) (w3 : (Lit.int .u64 uv).wf = true) (w4 : (Lit.int .u8 st).wf = true) :
    Calls Tryz.prog 4 #[.agg #[.int .u16 l, .int .u16 r, .int .u16 s], .int .i64 wv, .int .i64 rv, .int .u64 uv, .int .u8 st, .bool near] W fun e w' => e = .returned (.bool true) ∧ Below W.heap.size W w' := by
  obtain ⟨l, rfl, hl⟩ := c3_open wl
  obtain ⟨r, rfl, hr3⟩ := c3_open wr
  obtain ⟨s, rfl, hs⟩ := c3_open ws
  have h1 := bounds_i64 w1
  have h2 := bounds_i64 w2
  have h3 := bounds_u64 w3
  have h4 := bounds_u8 w4
  obtain ⟨st, rfl⟩ : ∃ n : Nat, (n : Int) = st := ⟨st.toNat, by omega⟩
  exact errors_small l r s st wv rv uv near W hl hr3 hs (by omega) (by omega) (by omega) (by omega)

end Go.Proofs.YtbnmjlgjfaeekaaGreat
