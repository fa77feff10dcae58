/- The walk of the law SpaceAllocs. -/
import Derived.Test.YtbnmjlgjfaeekaaGreatAwk9
import Derived.Test.YtbnmjlgjfaeekaaGreatRowA
namespace Go.Proofs.YtbnmjlgjfaeekaaGreat
open Go.RowKit Go.OpenShut

/-- Heads by small numbers, in a row. -/
def ReadsH (w : World) (y : Option Addr) (m : Nat) (R V : Nat → Nat) : Prop :=
  m = 0 ∨ ∃ b off, y = some ⟨b, off, none⟩ ∧ b < w.heap.size ∧ ∀ i, i < m → w.cell? ⟨b, off + i * 2, none⟩ = some (.int .u8 (R i : Nat)) ∧ w.cell? ⟨b, off + i * 2 + 1, none⟩ = some (.int .u8 (V i : Nat)) ∧ R i ≤ 255 ∧ V i ≤ 255

/-- Between two objects: what is wanted is what stands. -/
def AllI (p : Nat) (a : DA) (c : Cfg) (k g d us : Nat) (W0 : World) (i : Nat) (w : World) : Prop :=
  ∃ u S, Pw w p a (-1) u S ∧ u ≤ 100010 + 80 * (i : Int) ∧ S.now c.act = (k : Int) ∧ S.now (c.act + 1) = (us : Int) ∧ us ≤ c.space ∧ OwnAt w g c.act d (fun i => S.now (c.act + i)) ∧ Keeps [g, p, a.s, a.k, a.m] W0 w

/-- Words of a row, so many of them noughts. -/
def inF (o j : Nat) (F : Nat → Int) : Nat → Int := fun i => if o ≤ i ∧ i < o + j then 0 else F i

theorem inF_succ (o j : Nat) (F : Nat → Int) (i : Nat) : put (inF o j F) (o + j) 0 i = inF o (j + 1) F i := by
  unfold put inF
  by_cases h : i = o + j
  · rw [if_pos h, if_pos (by omega)]
  · rw [if_neg h]
    by_cases h2 : o ≤ i ∧ i < o + j
    · rw [if_pos h2, if_pos (by omega)]
    · rw [if_neg h2, if_neg (by omega)]

/-- What is wanted behind a new object is what stands. -/
theorem alc_row {c : Cfg} {k us nw r : Nat} {f g : Nat → Int} (h : AlcF c k us nw r f g) {o d : Nat} (ho : c.act + o = c.frm k + us) (i : Nat) (_ : i < d) :
    put (put (inF o (nw + 1) (fun i => f (c.act + i))) o ((hdPk nw r : Nat) : Int)) 1 ((us + (nw + 1) : Nat) : Int) i = g (c.act + i) := by
  obtain ⟨h1, h2, h3, h4⟩ := h
  have hfr := @frm_ge c k
  unfold put inF
  by_cases i1 : i = 1
  · rw [if_pos i1, i1, h1]
  rw [if_neg i1]
  by_cases i2 : i = o
  · rw [if_pos i2, i2, ho, h2]
  rw [if_neg i2]
  by_cases i3 : o ≤ i ∧ i < o + (nw + 1)
  · rw [if_pos i3]
    have := h3 (i - o - 1) (by omega)
    rw [show c.frm k + us + 1 + (i - o - 1) = c.act + i by omega] at this
    exact this.symm
  · rw [if_neg i3]
    exact (h4 (c.act + i) (by omega) (by omega)).symm

set_option maxRecDepth 100000 in
set_option maxHeartbeats 4000000 in
theorem allocs_small (l r s ac : Nat) (x y : Option Addr) (n cp m cm : Nat) (f : Nat → Int) (R V : Nat → Nat) (W : World) (hl : l ≤ 65535) (hrr : r ≤ 65535) (hs : s ≤ 65535) (ha : ac ≤ 255)
    (hx : Reads W x n f) (hnm : n ≤ 9223372036854775807) (hy : ReadsH W y m R V) (hmm : m ≤ 9223372036854775807) :
    Calls Tryz.prog 3 #[c3V l r s, .slice x n cp, .slice y m cm, .int .u8 (ac : Nat)] W fun e w' => e = .returned (.bool true) ∧ Below W.heap.size W w' := by
  have hai : (ac : Int) ≤ 255 := by omega
  have hni : (n : Int) ≤ 9223372036854775807 := by omega
  have hmi : (m : Int) ≤ 9223372036854775807 := by omega
  have HX := hid hx
  have HY := hid hy
  clear hx hy
  go_enter Tryz.func3, Tryz.ntmps3
  go_wp2_with fail
  have hB0 := At.new W (c3O l r s)
  have K0 := (Keeps.refl [] W).alloc (c3O l r s)
  refine (awake9_any _).mono ?_
  rintro e w1 ⟨rfl, hb1⟩
  have k1 := Go.Proofs.YtbnmjlgjfaeekaaGreat.Below.keeps hb1 []
  have K1 := K0.trans k1
  have hB1 := k1.at hB0 (by simp)
  clear hb1 k1 hB0 K0
  have c0 : w1.cell? ⟨W.heap.size, 0, none⟩ = some (.int .u16 l) := hB1.cell 0 rfl
  have c1 : w1.cell? ⟨W.heap.size, 1, none⟩ = some (.int .u16 r) := hB1.cell 1 rfl
  have c2 : w1.cell? ⟨W.heap.size, 2, none⟩ = some (.int .u16 s) := hB1.cell 2 rfl
  by_cases hn : n ≤ 20
  case neg =>
    have hn2 : (20 : Int) < (n : Int) := by omega
    go_wp2_with fail
    go_ret
    exact ⟨rfl, K1.below (Nat.le_refl _) (by simp)⟩
  have hni2 : (n : Int) ≤ 20 := by omega
  clear hni
  by_cases hm : m ≤ 30
  case neg =>
    have hm2 : (30 : Int) < (m : Int) := by omega
    go_wp2_with fail
    go_ret
    exact ⟨rfl, K1.below (Nat.le_refl _) (by simp)⟩
  have hmi2 : (m : Int) ≤ 30 := by omega
  clear hmi
  go_wp2_with fail
  refine (make3_at w1 l r s hl hrr hs).mono ?_
  rintro e w2 ⟨rfl, hk2⟩
  have K2 := K1.trans hk2
  have hok := mk3_ok l r s
  obtain ⟨c, hc⟩ : ∃ c, c = mk3 l r s := ⟨_, rfl⟩
  rw [← hc] at hok ⊢
  clear hc c0 c1 c2 hB1 hk2 K1
  go_wp2_with fail
  have hC3 := At.new w2 (cfgO c)
  have K3 := K2.alloc (cfgO c)
  have hz2 := K2.size
  have hX3 := HX.out.keep K3 (by simp)
  obtain ⟨cb, hcb⟩ : ∃ cb, cb = w2.heap.size := ⟨_, rfl⟩
  rw [← hcb] at hC3 hz2 ⊢
  have HCB := hid hcb
  clear hcb K2
  refine (formatted_at _ c hok x n cp f hX3 (by omega)).mono ?_
  rintro e w4 ⟨p, a, u, S, rfl, haN, hP, hub, hW, hkp, his, ⟨b1, b2, b3, b4, b5⟩, hk4⟩
  simp only [World.size_alloc] at b1 b2 b3 b4 b5
  rw [← HCB.out] at b1 b2 b3 b4 b5
  have hC4 := hk4.at hC3 (by simp)
  have K4 := K3.trans hk4
  obtain ⟨_, hLF⟩ := hW
  have HN := hid haN
  have HO := hid hok
  have hsp : (c.space : Int) ≤ 4096 := by have := hok.small.2.2; omega
  have hacb : (c.act : Int) ≤ 823 := by have := act_le hok.small; omega
  have hin : Hid (c.act + 2 ≤ a.n) := by
    have := @frm_ge c 1
    have := @frm_space c 1 (Nat.le_refl _)
    show _ ≤ _; omega
  have HWT : Hid (∀ b ∈ [p, a.s, a.k, a.m], W.heap.size ≤ b ∧ b ≠ cb) := fun b hb => by
    simp only [List.mem_cons, List.not_mem_nil, or_false] at hb
    omega
  have HZ := hid (And.intro (show S.now c.act = 0 from hLF.blk 0 (by omega)) (show S.now (c.act + 1) = 0 from hLF.blk 1 (by omega)))
  have hlo := hP.lo
  obtain ⟨k, hk⟩ : ∃ k, k = ac % 2 := ⟨_, rfl⟩
  have EA := hid (show bits .and .u8 (ac : Int) 1 = (k : Int) by rw [and1_u8 ac ha, hk])
  have hkl : k ≤ 1 := by omega
  have hki : (k : Int) ≤ 1 := by omega
  have HKK := hid hkl
  have hwi : (c.words : Int) ≤ 15000 := by
    have := frm_le hok.small (show 2 ≤ 2 by omega)
    have e : c.words = c.frm 2 := rfl
    omega
  clear haN hok hkp his hC3 K3 hk4 hLF b1 b2 b3 b4 b5 hk hkl hX3 HX hn hm hnm hmm
  have c0 := hC4.cell 0 rfl
  have c1 := hC4.cell 1 rfl
  have c2 := hC4.cell 2 rfl
  go_upto_region 10 with fail
  have EW := hid (show wrap64 (k : Int) = (k : Int) from IntWalk.wrap64_in _ (by omega))
  rw [EA.out, EW.out]
  clear EA EW
  go_wp2_with fail
  refine (active_at _ c HO.out.small).mono ?_
  rintro e w5 ⟨rfl, hk5⟩
  have hC5 := hk5.at hC4 (by simp)
  have hP5 := hP.keep0 hk5
  have K5 := K4.trans hk5
  clear c0 c1 c2 hC4 hP K4 hk5
  go_wp2_with fail
  refine (store_ran w5 p a (-1) u S c.act (k : Int) hP5 (by have := hin.out; omega) (by omega)).mono ?_
  intro e w6 hr6
  obtain ⟨rfl, hP6, hk6⟩ := hr6.free hlo
  have hcT : cb ∉ [p, a.s, a.k, a.m] := fun h => (HWT.out _ h).2 rfl
  have hC6 := hk6.at hC5 hcT
  have K6 : Keeps [] W w6 := K5.new hk6 (fun b hb => .inr (HWT.out b hb).1)
  have HS1 : Hid ((execs S [.st c.act (k : Int)]).now c.act = (k : Int)) := by
    show (if c.act = c.act then (k : Int) else S.now c.act) = (k : Int)
    rw [if_pos rfl]
  have HS2 : Hid ((execs S [.st c.act (k : Int)]).now (c.act + 1) = ((0 : Nat) : Int)) := by
    show (if c.act + 1 = c.act then (k : Int) else S.now (c.act + 1)) = ((0 : Nat) : Int)
    rw [if_neg (by omega)]; exact HZ.out.2
  obtain ⟨u6, hu6⟩ : ∃ u6, u6 = u + (([Cmd.st c.act (k : Int)] : List Cmd).length : Int) := ⟨_, rfl⟩
  have hu6b : u6 ≤ 100010 := by rw [hu6]; simp; omega
  obtain ⟨S6, hS6⟩ : ∃ S6, S6 = execs S [.st c.act (k : Int)] := ⟨_, rfl⟩
  rw [← hS6] at HS1 HS2 hP6
  rw [← hu6] at hP6
  clear hS6 hu6 hr6 hC5 hP5 K5 hk6 hlo hub HZ
  have c0 := hC6.cell 0 rfl
  have c1 := hC6.cell 1 rfl
  have c2 := hC6.cell 2 rfl
  go_wp2_with fail
  refine (words7_own w6 p a S6 c hP6.dev HO.out HN.out).mono ?_
  rintro e w7 ⟨g, gcap, rfl, hg, hO7, hgc, hk7⟩
  obtain ⟨d, hd⟩ : ∃ d, d = a.n - c.act := ⟨_, rfl⟩
  rw [← hd] at hO7 hgc ⊢
  have HD : Hid (a.n - c.act = d ∧ c.act + d = a.n) := ⟨hd.symm, by have := hin.out; omega⟩
  have hdb : (d : Int) ≤ 15000 := by have := HN.out; omega
  clear hd
  have hC7 := hk7.at hC6 (by simp)
  have hP7 := hP6.keep0 hk7
  have K7 := K6.trans hk7
  have hpl := hP6.pow.lt
  have hsl := hP6.dev.now.lt
  have hkl := hP6.dev.kept.lt
  have hml := hP6.dev.map.lt
  have hdl := hP6.dev.dev.lt
  have hcl := hC6.lt
  have hz6 := K6.size
  have HG := hid (show g ≠ p ∧ g ≠ a.d ∧ g ≠ a.s ∧ g ≠ a.k ∧ g ≠ a.m ∧ g ≠ cb ∧ W.heap.size ≤ g from ⟨by omega, by omega, by omega, by omega, by omega, by omega, by omega⟩)
  have HI7 : Hid (AllI p a c k g d 0 w7 0 w7) := ⟨u6, S6, hP7, by simpa using hu6b, HS1.out, HS2.out, Nat.zero_le _, hO7, Keeps.refl _ _⟩
  have HTT : Hid (∀ b ∈ [g, p, a.s, a.k, a.m], W.heap.size ≤ b ∧ b ≠ cb) := fun b hb => by
    rcases List.mem_cons.1 hb with rfl | hb
    · exact ⟨HG.out.2.2.2.2.2.2, HG.out.2.2.2.2.2.1⟩
    · exact HWT.out b hb
  have HC7 := hid hC7
  have HK7 := hid K7
  clear hC6 hP6 hP7 K6 hk7 hpl hsl hkl hml hdl hcl hz6 hcT hu6b hO7 hg hC7 K7 c0 c1 c2 HS1 HS2
  go_wp2_with fail
  go_loopg [13, 57] m (fun rr s13 sl wr => ∃ i us : Nat, i + rr = m ∧ sl = .int .i64 i ∧ s13 = .int .i64 us ∧ AllI p a c k g d us w7 i wr)
  case atStart => exact ⟨0, 0, by omega, rfl, rfl, HI7.out⟩
  case round =>
    obtain ⟨i, us, hi, rfl, rfl, u8, S8, hP8, hu8, hA8, hU8, hus8, hO8, hK8⟩ := hrel
    have hC8 := hK8.at HC7.out (fun h => (HTT.out _ h).2 rfl)
    by_cases hlt : i < m
    · obtain ⟨b, off, rfl, hb, hcl⟩ := HY.out.resolve_left (by omega)
      obtain ⟨x0, x1, hRi, hVi⟩ := hcl i hlt
      obtain ⟨Ri, hRe⟩ : ∃ Ri, Ri = R i := ⟨_, rfl⟩
      obtain ⟨Vi, hVe⟩ : ∃ Vi, Vi = V i := ⟨_, rfl⟩
      rw [← hRe] at x0 hRi
      rw [← hVe] at x1 hVi
      have hKW : Keeps [] W wr := HK7.out.new hK8 (fun b hb => .inr (HTT.out b hb).1)
      have d0 : wr.cell? ⟨b, off + i * 2, none⟩ = some (.int .u8 (Ri : Nat)) := by rw [hKW.cell hb (by simp)]; exact x0
      have d1 : wr.cell? ⟨b, off + i * 2 + 1, none⟩ = some (.int .u8 (Vi : Nat)) := by rw [hKW.cell hb (by simp)]; exact x1
      have hii : (i : Int) < (m : Int) := by omega
      have HI := hid hi
      have HR := hid (And.intro hRi hVi)
      have hib : (i : Int) ≤ 30 := by omega
      have husi : (us : Int) ≤ 4096 := by omega
      clear hcl x0 x1 hRe hVe hi hRi hVi hlt
      obtain ⟨fu, hfu⟩ : ∃ fu, fu = c.frm k + us := ⟨_, rfl⟩
      obtain ⟨ff, hff⟩ : ∃ ff, ff = c.frm k := ⟨_, rfl⟩
      have hfb : (ff : Int) ≤ 15000 := by have := frm_le HO.out.small (show k ≤ 2 by have := HKK.out; omega); omega
      have hfub : (fu : Int) ≤ 20000 := by omega
      have HFU := hid (And.intro hfu hff)
      have HFR := hid (fun (w' : World) => from_at w' c HO.out.small k (by have := HKK.out; omega))
      rw [← hff] at HFR
      have HFS := hid (fun (w' : World) (rs : Value) => fresh9_at w' c HO.out.small k HKK.out us (by omega) rs)
      rw [← hff] at HFS
      have HRD := hid (fun (w' : World) (hk : Keeps [] wr w') => rread_at w' p a S8 c (hP8.dev.keep hk (by simp) (by simp) (by simp) (by simp)) HO.out HN.out (by rw [hA8]; omega) (by rw [hU8]; omega))
      have HAL := hid (fun (w' : World) (hk : Keeps [] wr w') (nw r : Nat) (h1 : nw ≤ 64) (h2 : r ≤ nw) => alloc9_free w' p a u8 S8 c (hP8.keep0 hk) HO.out HN.out (by omega) k us HKK.out hus8 hA8 hU8 nw r h1 h2)
      have HP8 := hid hP8
      have HS8 := hid (And.intro hu8 (And.intro hA8 (And.intro hU8 hus8)))
      have HO8 := hid hO8
      have HK8 := hid hK8
      have HC8 := hid hC8
      clear hfu hff hP8 hu8 hA8 hU8 hus8 hO8 hK8 hC8 hb
      go_wp2_with fail
      refine (make9_at _ Ri Vi HR.out.1 HR.out.2).mono ?_
      rintro e w9 ⟨rfl, hk9⟩
      have k9 := ((Keeps.refl [] wr).alloc (h9O Ri Vi)).trans hk9
      have hnw : Vi % 9 ≤ 8 := by omega
      have hrw : Ri % (Vi % 9 + 1) ≤ Vi % 9 := by have := Nat.mod_lt Ri (show 0 < Vi % 9 + 1 by omega); omega
      obtain ⟨nw, hnwe⟩ : ∃ nw, nw = Vi % 9 := ⟨_, rfl⟩
      obtain ⟨rw9, hrwe⟩ : ∃ rw9, rw9 = Ri % (Vi % 9 + 1) := ⟨_, rfl⟩
      rw [← hrwe, ← hnwe] at hrw
      rw [← hrwe, ← hnwe]
      rw [← hnwe] at hnw
      have HNW := hid (And.intro hnw hrw)
      have hnwi : (nw : Int) ≤ 8 := by omega
      clear hnwe hrwe hnw hrw hk9 d0 d1
      have hC9 := (k9.at HC8.out (by simp)).alloc (hdO nw rw9)
      have c0 := hC9.cell 0 rfl
      have c1 := hC9.cell 1 rfl
      have c2 := hC9.cell 2 rfl
      go_wp2_with fail
      refine (HRD.out _ (k9.alloc (hdO nw rw9))).mono ?_
      rintro e w10 (⟨h9, rfl, hk10⟩ | ⟨k1, u1, x9, cp9, hk1, hu1, hA1, hU1, rfl, hO9, hk10⟩)
      · rw [HS8.out.2.1, HS8.out.2.2.1] at h9
        have := HKK.out
        have := HS8.out.2.2.2
        omega
      rw [HS8.out.2.1] at hA1
      rw [HS8.out.2.2.1] at hU1
      obtain rfl : k = k1 := by omega
      obtain rfl : us = u1 := by omega
      have hH10 := hk10.at (At.new w9 (hdO nw rw9)) (by simp)
      have hhl : w9.heap.size < w10.heap.size := by have := hk10.size; simp at this; omega
      have hhw : wr.heap.size ≤ w9.heap.size := k9.size
      obtain ⟨hb, hhb⟩ : ∃ hb, hb = w9.heap.size := ⟨_, rfl⟩
      rw [← hhb] at hH10 hhl hhw ⊢
      have k10 := (k9.alloc (hdO nw rw9)).trans hk10
      clear hhb hk1 hu1 hA1 hU1 hO9 hk10 c0 c1 c2 hC9 k9
      have hC10 := (k10.at HC8.out (by simp)).alloc (bkO k us (.slice x9 c.roots cp9))
      have hB10 := At.new w10 (bkO k us (.slice x9 c.roots cp9))
      have c0 := hC10.cell 0 rfl
      have c1 := hC10.cell 1 rfl
      have c2 := hC10.cell 2 rfl
      have d0 := hB10.cell 0 rfl
      have d1 := hB10.cell 1 rfl
      have d2 := hB10.cell 2 rfl
      go_wp2_with fail
      refine (HFS.out _ (.slice x9 c.roots cp9)).mono ?_
      rintro e w11 ⟨rfl, hk11⟩
      have k11 := (k10.alloc (bkO k us (.slice x9 c.roots cp9))).trans hk11
      have hH11 := hk11.at (hH10.alloc (bkO k us (.slice x9 c.roots cp9))) (by simp)
      clear c0 c1 c2 d0 d1 d2 hC10 hB10 k10 hH10 hk11
      go_upto_region 19 with fail
      have k12 := k11.alloc (.cells #[.int .i64 ((ff : Int) + us), .int .i64 ((ff : Int) + c.space)] 49)
      have hH12 := hH11.alloc (.cells #[.int .i64 ((ff : Int) + us), .int .i64 ((ff : Int) + c.space)] 49)
      have hS12 := At.new w11 (.cells #[.int .i64 ((ff : Int) + us), .int .i64 ((ff : Int) + c.space)] 49)
      obtain ⟨bb, hbb⟩ : ∃ bb, bb = w10.heap.size := ⟨_, rfl⟩
      obtain ⟨sb, hsb⟩ : ∃ sb, sb = w11.heap.size := ⟨_, rfl⟩
      obtain ⟨w12, hw12⟩ : ∃ w12, w12 = w11.alloc (.cells #[.int .i64 ((ff : Int) + us), .int .i64 ((ff : Int) + c.space)] 49) := ⟨_, rfl⟩
      rw [← hw12] at k12 hH12 hS12 ⊢
      rw [← hbb] at hhl ⊢
      rw [← hsb] at hS12 ⊢
      have hC12 := k12.at HC8.out (by simp)
      clear hw12 hbb hsb hH11 k11
      have HC12 : Hid (∀ w', Keeps [] w12 w' → (w'.cell? ⟨cb, 0, none⟩ = some (.int .i64 c.log) ∧ w'.cell? ⟨cb, 1, none⟩ = some (.int .i64 c.roots) ∧ w'.cell? ⟨cb, 2, none⟩ = some (.int .i64 c.space) ∧ w'.cell? ⟨sb, 0, none⟩ = some (.int .i64 ((ff : Int) + us)) ∧ w'.cell? ⟨sb, 1, none⟩ = some (.int .i64 ((ff : Int) + c.space)))) := fun w' hk => by
        have x6 := hk.at hC12 (by simp)
        have x7 := hk.at hS12 (by simp)
        exact ⟨x6.cell 0 rfl, x6.cell 1 rfl, x6.cell 2 rfl, x7.cell 0 rfl, x7.cell 1 rfl⟩
      have e1 : IntKind.i64.wrap ((ff : Int) + (us : Int)) = (ff : Int) + (us : Int) := IntWalk.i64_in _ (by omega)
      have e2 : IntKind.i64.wrap ((ff : Int) + (c.space : Int)) = (ff : Int) + (c.space : Int) := IntWalk.i64_in _ (by omega)
      have HH12 := hid hH12
      have HK12 := hid k12
      clear hC12 hS12 hH12 k12
      have kk : Keeps [] w12 w12.drew := (Keeps.refl _ _).drew
      go_region_held3 (fun w' => w'.cell? ⟨cb, 0, none⟩ = some (.int .i64 c.log) ∧ w'.cell? ⟨cb, 1, none⟩ = some (.int .i64 c.roots) ∧ w'.cell? ⟨cb, 2, none⟩ = some (.int .i64 c.space) ∧ w'.cell? ⟨sb, 0, none⟩ = some (.int .i64 ((ff : Int) + us)) ∧ w'.cell? ⟨sb, 1, none⟩ = some (.int .i64 ((ff : Int) + c.space)))
        (exact HC12.out _ kk)
        (first
          | (go_at_call 15; refine (HFR.out _).mono ?_; rintro e w' ⟨rfl, hk9⟩; have kk := kk.trans hk9; clear hk9))
      rename_i hHd
      clear hHd
      have hC13 := (HK12.out.trans kk).at HC8.out (by simp)
      have hH13 := kk.at HH12.out (by simp)
      have k13 := HK12.out.trans kk
      clear kk e1 e2
      have c0 := hC13.cell 0 rfl
      have c1 := hC13.cell 1 rfl
      have c2 := hC13.cell 2 rfl
      have h0 := hH13.cell 0 rfl
      have h1 := hH13.cell 1 rfl
      have hsz13 := k13.size
      go_wp2_with fail
      refine (HAL.out _ k13 nw rw9 (by have := HNW.out; omega) HNW.out.2).mono ?_
      rintro e w14 (⟨g9, rfl, hk14⟩ | ⟨g9, rfl, u14, S14, hP14, hu14, _, hAF, hk14⟩)
      · have k14 := k13.trans hk14
        have hC14 := hk14.at hC13 (by simp)
        have hH14 := hk14.at hH13 (by simp)
        have t1 : (c.space : Int) - (us : Int) < (nw : Int) + 1 := by omega
        have t2 : decide ((c.space : Int) - (us : Int) < (nw : Int) + 1) = true := decide_eq_true t1
        have HW14 := hid (words7_own w14 p a S8 c (HP8.out.dev.keep k14 (by simp) (by simp) (by simp) (by simp)) HO.out HN.out)
        have HO14 := hid (HO8.out.keep k14 (by simp))
        clear k13 hC13 hH13 c0 c1 c2 h0 h1 hk14 g9
        have c0 := hC14.cell 0 rfl
        have c1 := hC14.cell 1 rfl
        have c2 := hC14.cell 2 rfl
        have h0 := hH14.cell 0 rfl
        have h1 := hH14.cell 1 rfl
        go_wp2_with fail
        refine HW14.out.mono ?_
        rintro e w15 ⟨g2, cp2, rfl, hg2, hO15, _, hk15⟩
        rw [HD.out.1] at hO15 ⊢
        have k15 := k14.trans hk15
        have HEQ := hid (equal_true w15 _ _ d cp2 gcap _ _ hO15.reads (HO14.out.keep hk15 (by simp)).reads (fun _ _ => rfl) (by omega))
        clear hO15 hk15 k14 hC14 hH14 c0 c1 c2 h0 h1 hg2 t1 t2
        go_wp2_with fail
        refine HEQ.out.mono ?_
        rintro e w16 ⟨rfl, hk16⟩
        have k16 := k15.trans hk16
        clear HEQ k15 hk16
        go_wp2_with fail
        go_roundg (m - (i + 1))
        case measure => (have := HI.out; omega)
        case rel => exact ⟨i + 1, us, by have := HI.out; omega, by go_num, rfl, u8, S8, HP8.out.keep0 k16, by have := HS8.out.1; omega, HS8.out.2.1, HS8.out.2.2.1, HS8.out.2.2.2, HO8.out.keep k16 (by simp), HK8.out.trans (k16.mono (by simp))⟩
      · rw [← HFU.out.1]
        have k14 : Keeps [p, a.s, a.k, a.m] wr w14 := (k13.mono (by simp)).trans hk14
        have hcT : cb ∉ [p, a.s, a.k, a.m] := fun h => (HWT.out _ h).2 rfl
        have hhT : hb ∉ [p, a.s, a.k, a.m] := fun h => by
          have i1 := HP8.out.pow.lt
          have i2 := HP8.out.dev.now.lt
          have i3 := HP8.out.dev.kept.lt
          have i4 := HP8.out.dev.map.lt
          simp only [List.mem_cons, List.not_mem_nil, or_false] at h
          omega
        have hgT : g ∉ [p, a.s, a.k, a.m] := fun h => by
          have := HG.out
          simp only [List.mem_cons, List.not_mem_nil, or_false] at h
          omega
        have hgw := HO8.out.lt
        have hgh : hb ≠ g ∧ cb ≠ g := ⟨by omega, fun e => HG.out.2.2.2.2.2.1 e.symm⟩
        have hC14 := hk14.at hC13 hcT
        have hH14 := hk14.at hH13 hhT
        have hO14 := HO8.out.keep k14 hgT
        have t1 : (nw : Int) + 1 ≤ (c.space : Int) - (us : Int) := by omega
        have t2 : decide ((c.space : Int) - (us : Int) < (nw : Int) + 1) = false := decide_eq_false (by omega)
        have e1 : (ff : Int) + (us : Int) = (fu : Int) := by have := HFU.out; omega
        have HCT := hid (And.intro hcT (And.intro hhT (And.intro hgT hgh)))
        have HAF := hid hAF
        have HP14 := hid hP14
        have HU14 := hid hu14
        have HG9 := hid g9
        clear k13 hC13 hH13 c0 c1 c2 h0 h1 hk14 g9 hP14 hu14 hAF hcT hhT hgT hgw hgh
        have c0 := hC14.cell 0 rfl
        have c1 := hC14.cell 1 rfl
        have c2 := hC14.cell 2 rfl
        have h0 := hH14.cell 0 rfl
        have h1 := hH14.cell 1 rfl
        go_wp2_with fail
        refine (HFR.out _).mono ?_
        rintro e w15 ⟨rfl, hk15⟩
        have k15 : Keeps [p, a.s, a.k, a.m] wr w15 := k14.trans (hk15.mono (by simp))
        have hC15 := hk15.at hC14 (by simp)
        have hH15 := hk15.at hH14 (by simp)
        have hO15 := hO14.keep hk15 (by simp)
        have HP15 := hid (HP14.out.keep0 hk15)
        clear HP14 hC14 hH14 hO14 k14 hk15 c0 c1 c2 h0 h1
        have h0 := hH15.cell 0 rfl
        go_wp2_with fail
        obtain ⟨o, ho⟩ : ∃ o, c.act + o = fu := ⟨fu - c.act, by have := @frm_ge c k; have := HFU.out.1; omega⟩
        have hod : o + (nw + 1) ≤ d := by
          have := @frm_space c k HKK.out
          have := HFU.out.1
          have := HN.out
          have := HD.out.2
          have := HG9.out
          omega
        have ho2 : 2 ≤ o := by have := @frm_ge c k; have := HFU.out.1; omega
        have ei : (fu : Int) - (c.act : Int) = (o : Int) := by omega
        have hob : (o : Int) ≤ 20000 := by omega
        have HOO := hid (And.intro ho (And.intro hod ho2))
        have HO15 := hid hO15
        have HC15 := hid hC15
        have HH15 := hid hH15
        clear ho hod ho2 hO15 hC15 hH15 h0
        have hndi : (nw : Int) + 1 ≤ 9 := by omega
        go_loopg [132] (nw + 1) (fun rr sl wx => ∃ j : Nat, j + rr = nw + 1 ∧ sl = .int .i64 j ∧ OwnAt wx g c.act d (inF o j (fun i => S8.now (c.act + i))) ∧ Keeps [g] w15 wx)
        case atStart => exact ⟨0, by omega, rfl, HO15.out.congr (fun i _ => by unfold inF; rw [if_neg (by omega)]), Keeps.refl _ _⟩
        case round =>
          obtain ⟨j, hj, rfl, hOj, hKj⟩ := hrel
          have hCj := hKj.at HC15.out (by simp; exact HCT.out.2.2.2.2)
          have hHj := hKj.at HH15.out (by simp; exact HCT.out.2.2.2.1)
          by_cases hjl : j < nw + 1
          · obtain ⟨oj, hoj⟩ : ∃ oj, oj = o + j := ⟨_, rfl⟩
            have ej : (o : Int) + (j : Int) = (oj : Int) := by omega
            have hojd : oj < d := by have := HOO.out.2.1; omega
            have hoji : (oj : Int) < (d : Int) := by omega
            have hji : (j : Int) < (nw : Int) + 1 := by omega
            have HJ := hid (And.intro hj (And.intro hjl hoj))
            have HOD := hid hojd
            have HKJ := hid hKj
            have c0 := hCj.cell 0 rfl
            have c1 := hCj.cell 1 rfl
            have c2 := hCj.cell 2 rfl
            clear hj hjl hoj hKj hHj
            go_wp2_with fail
            refine (active_at _ c HO.out.small).mono ?_
            rintro e w17 ⟨rfl, hk17⟩
            have hO17 := hOj.keep hk17 (by simp)
            have K17 := HKJ.out.trans (hk17.mono (by simp))
            obtain ⟨x0, f0⟩ := hO17.cell HOD.out
            have HO18 := hid (hO17.put HOD.out 0)
            have HK18 := hid (K17.set (p := ⟨g, c.act + oj, none⟩) (.inl (by simp)) (.int .u64 0))
            clear c0 c1 c2 hOj hO17 K17 hk17 hCj hojd
            go_wp2_with fail
            go_roundg (nw + 1 - (j + 1))
            case measure => (have := HJ.out; omega)
            case rel => exact ⟨j + 1, by have := HJ.out; omega, by go_num, HO18.out.congr (fun i _ => by rw [HJ.out.2.2]; exact inF_succ o j _ i), HK18.out⟩
          · have hje : j = nw + 1 := by omega
            subst hje
            have HKJ := hid hKj
            have HOJ := hid hOj
            have h0 := hHj.cell 0 rfl
            have hCJ := hCj
            have hHJ := hHj
            clear hj hjl hKj hOj
            go_wp2_with fail
            have HC33 : Hid (∀ w', Keeps [g] wr w' → (w'.cell? ⟨cb, 0, none⟩ = some (.int .i64 c.log) ∧ w'.cell? ⟨cb, 1, none⟩ = some (.int .i64 c.roots) ∧ w'.cell? ⟨cb, 2, none⟩ = some (.int .i64 c.space) ∧ w'.cell? ⟨hb, 0, none⟩ = some (.int .i64 nw) ∧ w'.cell? ⟨hb, 1, none⟩ = some (.int .i64 rw9))) := fun w' hk => by
              have x6 := hk.at hCJ (by simp; exact HCT.out.2.2.2.2)
              have x7 := hk.at hHJ (by simp; exact HCT.out.2.2.2.1)
              exact ⟨x6.cell 0 rfl, x6.cell 1 rfl, x6.cell 2 rfl, x7.cell 0 rfl, x7.cell 1 rfl⟩
            have HPK := hid (fun w' => hpack_at w' nw rw9 (by omega) HNW.out.2)
            obtain ⟨pk, hpk⟩ : ∃ pk : Int, pk = ((hdPk nw rw9 : Nat) : Int) := ⟨_, rfl⟩
            rw [← hpk] at HPK
            have HPE := hid hpk
            have HOD := hid (show o < d by have := HOO.out.2.1; omega)
            have HOD1 := hid (show 1 < d by have := HOO.out.2; omega)
            have hod : (o : Int) < (d : Int) := by have := HOD.out; omega
            have hod1 : (1 : Int) < (d : Int) := by have := HOD1.out; omega
            have hod1n : 1 < d := HOD1.out
            have hne : ¬ o = 1 := by have := HOO.out.2.2; omega
            have hne2 : ¬ 1 = o := fun e => hne e.symm
            have e5 : IntKind.u64.wrap ((us : Int) + ((nw : Int) + 1)) = (us : Int) + ((nw : Int) + 1) := IntWalk.u64_in _ (by omega)
            have e6 : IntKind.i64.wrap ((fu : Int) - (c.act : Int)) = (o : Int) := by rw [ei]; exact IntWalk.i64_in _ (by omega)
            have e7 : IntKind.i64.wrap (o : Int) = (o : Int) := IntWalk.i64_in _ (by omega)
            clear hpk hCj hHj hCJ hHJ h0
            have kk : Keeps [] wr wr.drew := (Keeps.refl _ _).drew
            go_region_held3 (fun w' => w'.cell? ⟨cb, 0, none⟩ = some (.int .i64 c.log) ∧ w'.cell? ⟨cb, 1, none⟩ = some (.int .i64 c.roots) ∧ w'.cell? ⟨cb, 2, none⟩ = some (.int .i64 c.space) ∧ w'.cell? ⟨hb, 0, none⟩ = some (.int .i64 nw) ∧ w'.cell? ⟨hb, 1, none⟩ = some (.int .i64 rw9))
              (first | exact HC33.out _ (kk.mono (by simp)) | exact HC33.out _ ((kk.mono (by simp)).set (.inl (by simp)) _) | exact HC33.out _ (((kk.mono (by simp)).set (.inl (by simp)) _).set (.inl (by simp)) _))
              (first
                | (go_at_call 10; refine (active_at _ c HO.out.small).mono ?_; rintro e w' ⟨rfl, hk9⟩; have kk := kk.trans hk9; clear hk9)
                | (go_at_call 17; refine (HPK.out _).mono ?_; rintro e w' ⟨rfl, hk9⟩; have kk := kk.trans hk9; clear hk9; have hOx := HOJ.out.keep kk (by simp); have x0 := (hOx.cell HOD.out).1; have f0 := (hOx.cell HOD.out).2; have x1 := (hOx.cell HOD1.out).1; have f1 := (hOx.cell HOD1.out).2))
            rename_i hHd
            clear hHd
            have hOy := ((HOJ.out.keep kk (by simp)).put HOD.out pk).put HOD1.out ((us : Int) + ((nw : Int) + 1))
            have hOz : OwnAt _ g c.act d (fun i => S14.now (c.act + i)) := hOy.congr (fun i hi => by
              rw [HPE.out, show (us : Int) + ((nw : Int) + 1) = ((us + (nw + 1) : Nat) : Int) by simp]
              exact alc_row HAF.out (by rw [HOO.out.1, HFU.out.1]) i hi)
            have KZ : Keeps [g] w15 _ := ((HKJ.out.trans (kk.mono (by simp))).set (p := ⟨g, c.act + o, none⟩) (.inl (by simp)) (.int .u64 pk)).set (p := ⟨g, c.act + 1, none⟩) (.inl (by simp)) (.int .u64 ((us : Int) + ((nw : Int) + 1)))
            obtain ⟨wz, hwz⟩ : ∃ wz, wz = (w'.setCell ⟨g, c.act + o, none⟩ (.int .u64 pk)).setCell ⟨g, c.act + 1, none⟩ (.int .u64 ((us : Int) + ((nw : Int) + 1))) := ⟨_, rfl⟩
            rw [← hwz] at hOz KZ ⊢
            have HOZ := hid hOz
            have HKZ := hid KZ
            have hCZ := KZ.at HC15.out (by simp; exact HCT.out.2.2.2.2)
            have HPZ := hid (HP15.out.keep (T := [g]) KZ (by have := HG.out; simp; omega) (by have := HG.out; simp; omega) (by have := HG.out; simp; omega) (by have := HG.out; simp; omega) (by have := HG.out; simp; omega))
            have HWZ := hid (words7_own wz p a S14 c HPZ.out.dev HO.out HN.out)
            clear hwz hOy hOz KZ kk hOx x0 x1 f0 f1 e5 e6 e7 hne hne2 hod hod1 hod1n HC33 HPK
            have c0 := hCZ.cell 0 rfl
            have c1 := hCZ.cell 1 rfl
            have c2 := hCZ.cell 2 rfl
            go_wp2_with fail
            refine HWZ.out.mono ?_
            rintro e w19 ⟨g2, cp2, rfl, hg2, hO19, _, hk19⟩
            rw [HD.out.1] at hO19 ⊢
            have HK19 := hid hk19
            have HEQ := hid (equal_true w19 _ _ d cp2 gcap _ _ hO19.reads (HOZ.out.keep hk19 (by simp)).reads (fun _ _ => rfl) (by omega))
            clear hO19 hk19 hCZ c0 c1 c2 hg2 HWZ
            go_wp2_with fail
            refine HEQ.out.mono ?_
            rintro e w20 ⟨rfl, hk20⟩
            have HK20 := hid (HK19.out.trans hk20)
            clear HEQ hk20
            go_wp2_with fail
            go_roundg (m - (i + 1))
            case measure => (have := HI.out; omega)
            case rel =>
              refine ⟨i + 1, us + (nw + 1), by have := HI.out; omega, by go_num, by go_num, u14, S14, HPZ.out.keep0 HK20.out, by have := HU14.out; have := HS8.out.1; have := HNW.out.1; omega, ?_, HAF.out.1, HG9.out, HOZ.out.keep HK20.out (by simp), ?_⟩
              · rw [HAF.out.2.2.2 c.act (by omega) (by have := @frm_ge c k; omega)]
                exact HS8.out.2.1
              · exact (HK8.out.trans (k15.mono (by simp +contextual))).trans ((HKZ.out.mono (by simp +contextual)).trans (HK20.out.mono (by simp)))
    · have hme : i = m := by omega
      subst hme
      clear hi hlt
      go_wp2_with fail
      go_ret
      exact ⟨rfl, (HK7.out.new hK8 (fun b hb => .inr (HTT.out b hb).1)).below (Nat.le_refl _) (by simp)⟩

theorem spaceAllocs_walk (l r s : Int) (x : Option Addr) (n cp : Nat) (f : Nat → Int) (y : Option Addr) (m cm : Nat) (z : Nat → Nat → Int) (ac : Int) (W : World) (wl : (Lit.int .u16 l).wf = true) (wr : (Lit.int .u16 r).wf = true) (ws : (Lit.int .u16 s).wf = true) (R1 : ReadsV (Value.int .u64) W x n f) (_ : ∀ i, i < n → (Lit.int .u64 (f i)).wf = true) (hn : n ≤ maxLen)
    (R2 : m * 2 = 0 ∨ ∃ b off, y = some ⟨b, off, none⟩ ∧ b < W.heap.size ∧ ∀ i j, i < m → j < 2 → W.cell? ⟨b, off + (i * 2 + j), none⟩ = some (.int ((fun j => if j = 0 then IntKind.u8 else IntKind.u8) j) (z i j)) ∧ (Lit.int ((fun j => if j = 0 then IntKind.u8 else IntKind.u8) j) (z i j)).wf = true) (hm : m ≤ maxLen) (wa : (Lit.int .u8 ac).wf = true) :
    Calls Tryz.prog 3 #[.agg #[.int .u16 l, .int .u16 r, .int .u16 s], .slice x n cp, .slice y m cm, .int .u8 ac] W fun e w' => e = .returned (.bool true) ∧ Below W.heap.size W w' := by
  obtain ⟨l, rfl, hl⟩ := c3_open wl
  obtain ⟨r, rfl, hr⟩ := c3_open wr
  obtain ⟨s, rfl, hs⟩ := c3_open ws
  have ha := bounds_u8 wa
  obtain ⟨ac, rfl⟩ : ∃ n : Nat, (n : Int) = ac := ⟨ac.toNat, by omega⟩
  have hH : ReadsH W y m (fun i => (z i 0).toNat) (fun i => (z i 1).toNat) := by
    rcases R2 with h | ⟨b, off, rfl, hb, hc⟩
    · exact .inl (by omega)
    · refine .inr ⟨b, off, rfl, hb, fun i hi => ?_⟩
      obtain ⟨h1, h2⟩ := hc i 0 hi (by omega)
      obtain ⟨h3, h4⟩ := hc i 1 hi (by omega)
      have h2 := bounds_u8 (by simpa using h2)
      have h4 := bounds_u8 (by simpa using h4)
      refine ⟨?_, ?_, by show (z i 0).toNat ≤ 255; omega, by show (z i 1).toNat ≤ 255; omega⟩
      · rw [show (((z i 0).toNat : Nat) : Int) = z i 0 by omega]
        simpa using h1
      · rw [show (((z i 1).toNat : Nat) : Int) = z i 1 by omega]
        simpa [Nat.add_assoc] using h3
  exact allocs_small l r s ac x y n cp m cm f _ _ W hl hr hs (by omega) R1 (by unfold maxLen at hn; omega) hH (by unfold maxLen at hm; omega)

end Go.Proofs.YtbnmjlgjfaeekaaGreat
