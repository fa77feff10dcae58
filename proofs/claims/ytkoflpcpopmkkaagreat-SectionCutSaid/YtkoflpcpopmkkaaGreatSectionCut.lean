/- The walk of the law SectionCut. -/
import Derived.Test.YtkoflpcpopmkkaaGreatCut7
namespace Go.Proofs.YtkoflpcpopmkkaaGreat
open Go.RowKit Go.OpenShut

set_option maxHeartbeats 400000 in
theorem sectionCut2_at (w : World) (b : Nat) (bits : Int) (i : Nat) (h : At w b (wordO bits)) (hi : i ≤ 17592186044416) :
    Calls Tryz.prog 19 #[.int .i64 i, ptr b] w fun e w' => e = .returned (.int .u8 (chV bits i)) ∧ w = w' := by
  have c1 := h.cell 0 rfl
  go_enter Tryz.func19, Tryz.ntmps19
  go_wp2_with fail
  refine (choice_at w bits i hi).mono ?_
  rintro e w1 ⟨rfl, rfl⟩
  go_wp2
  go_ret
  exact ⟨rfl, rfl⟩

theorem sectionCut2_chooser (b : Nat) (bits : Int) (n : Nat) (hn : n ≤ 17592186044416) :
    Chooser 19 #[ptr b] n (chV bits) [] [b] (fun _ w => At w b (wordO bits)) where
  inv := fun w i => by simp [go_sem]
  call := fun i w hi h => (sectionCut2_at w b bits i h (by omega)).mono fun e w' ⟨he, hw⟩ => ⟨he, by rw [← hw]; exact h, by rw [← hw]; exact Keeps.refl _ _⟩
  keep := fun _ w w' S h hk hs => hk.at h (hs b (by simp))
  low := chV_low bits

/-- A section that isn't open, over another power. -/
theorem shut_power {w w' : World} {p pn : Nat} {a : DA} {l l2 u : Int} {S : DS} {q : Sc} {c : Cfg} {r : Nat} (h : ShutG p a l u S q c r w) (hP : Pw w' pn a l2 0 S) (hk : Keeps [a.d] w w') : ShutG pn a l2 0 S q c r w' := by
  obtain ⟨st, f, t, R, U, pl, wd, h1, h2⟩ := h
  obtain ⟨n1, n2, n3, n4, n5, n6⟩ := h1.ne
  have hd : q.lb ≠ a.d := h1.lw.ne.2.1
  exact ⟨st, f, t, R, U, pl, wd, ⟨⟨hP, hk.at h1.lw.log (by simpa using hd)⟩, hk.at h1.sec (by simpa using n4), h1.rm.keep hk (by simpa using n5), h1.um.keep hk (by simpa using n6), h1.ru, h1.ra, h1.ua⟩, h2⟩

theorem Pw.broken {w w' : World} {q : Nat} {a : DA} {l u : Int} {T : DS} {ch : Nat → Int} (h : Pw w q a l u T) (hD : Dev w' q a (Go.Proofs.YtkoflpcpopmkkaaGreat.crashed T ch)) (hk : Keeps [a.s, a.k, a.m] w w') : Pw w' q a l u (Go.Proofs.YtkoflpcpopmkkaaGreat.crashed T ch) :=
  ⟨hD, hk.at h.pow (by simp; have := h.dev.ps; have := h.dev.pk; have := h.dev.pm; omega), h.lo, h.st⟩

abbrev lO (x : Option Addr) (n cp : Nat) : Obj := .cells #[.slice x n cp] 26

set_option maxRecDepth 100000 in
set_option maxHeartbeats 8000000 in
theorem cut7_small (l r s : Nat) (y : Option Addr) (co cq : Nat) (fo : Nat → Int) (x : Option Addr) (n cp : Nat) (f : Nat → Nat → Int) (lim : Nat) (bits : Int) (W : World) (hl : l ≤ 65535) (hr : r ≤ 65535) (hs : s ≤ 65535) (hlim : lim ≤ 65535) (hRO : Reads W y co fo) (hcm : co ≤ 9223372036854775807) (hR : DReads W x n f) (hnm : n ≤ 9223372036854775807) :
    Calls Tryz.prog 3 #[c3V l r s, .slice y co cq, .slice x n cp, .int .u16 lim, .int .u64 bits] W fun e w' => e = .returned (.bool true) ∧ Below W.heap.size W w' := by
  have hlimi : (lim : Int) ≤ 65535 := by omega
  have hcoi : (co : Int) ≤ 9223372036854775807 := by omega
  have hnni : (n : Int) ≤ 9223372036854775807 := by omega
  have HR := hid hR
  have HRO := hid hRO
  clear hR hRO
  go_enter Tryz.func3, Tryz.ntmps3
  go_wp2_with fail
  have hB0 := ((At.new W (c3O l r s)).alloc (lO x n cp)).alloc (wordO bits)
  have hX0 := (At.new (W.alloc (c3O l r s)) (lO x n cp)).alloc (wordO bits)
  have hY0 := At.new ((W.alloc (c3O l r s)).alloc (lO x n cp)) (wordO bits)
  have K0 := (((Keeps.refl [] W).alloc (c3O l r s)).alloc (lO x n cp)).alloc (wordO bits)
  rw [show (W.alloc (c3O l r s)).heap.size = W.heap.size + 1 by simp] at hX0
  rw [show ((W.alloc (c3O l r s)).alloc (lO x n cp)).heap.size = W.heap.size + 2 by simp] at hY0
  have hs0 : (((W.alloc (c3O l r s)).alloc (lO x n cp)).alloc (wordO bits)).heap.size = W.heap.size + 3 := by simp
  obtain ⟨w0, hw0⟩ : ∃ w0, w0 = ((W.alloc (c3O l r s)).alloc (lO x n cp)).alloc (wordO bits) := ⟨_, rfl⟩
  rw [← hw0] at hB0 hX0 hY0 K0 hs0 ⊢
  clear hw0
  refine (awake7_any _).mono ?_
  rintro e w1 ⟨rfl, hb1⟩
  have V1 : Keeps [] w0 w1 := Go.Proofs.YtkoflpcpopmkkaaGreat.Below.keeps hb1 []
  clear hb1
  have hB1 := V1.at hB0 (by simp)
  have hX1 := V1.at hX0 (by simp)
  have hY1 := V1.at hY0 (by simp)
  have K1 := K0.trans V1
  have hs1 : W.heap.size + 3 ≤ w1.heap.size := by have := V1.size; omega
  have c0 : w1.cell? ⟨W.heap.size, 0, none⟩ = some (.int .u16 l) := hB1.cell 0 rfl
  have c1 : w1.cell? ⟨W.heap.size, 1, none⟩ = some (.int .u16 r) := hB1.cell 1 rfl
  have c2 : w1.cell? ⟨W.heap.size, 2, none⟩ = some (.int .u16 s) := hB1.cell 2 rfl
  have x0 := hX1.cell 0 rfl
  clear hB0 hX0 hY0 K0 V1 hs0 hB1
  by_cases hco : co ≤ 20
  case neg =>
    have hn2 : (20 : Int) < (co : Int) := by omega
    go_wp2_with fail
    go_ret
    exact ⟨rfl, K1.below (Nat.le_refl _) (by simp)⟩
  by_cases hnn : n ≤ 30
  case neg =>
    have hn3 : ¬ (20 : Int) < (co : Int) := by omega
    have hn2 : (30 : Int) < (n : Int) := by omega
    go_wp2_with fail
    go_ret
    exact ⟨rfl, K1.below (Nat.le_refl _) (by simp)⟩
  have hco3 : (co : Int) ≤ 20 := by omega
  have hnn3 : (n : Int) ≤ 30 := by omega
  clear hcoi hnni
  go_wp2_with fail
  refine (start_at w1 l r s hl hr hs y co cq fo (HRO.out.keep K1 (by simp)) (by omega)).mono ?_
  rintro e w2 ⟨p, a, u, S, q, U, mb, nv, rfl, haN, hS2, hU, hu, hLI, hF, hM2, hO2, hbs, hmb, hnv, hk2⟩
  have hok := mk3_ok l r s
  obtain ⟨c, hc⟩ : ∃ c, c = mk3 l r s := ⟨_, rfl⟩
  rw [← hc] at hok haN hS2 hLI hM2 hO2
  obtain ⟨nb, ncap, ncur, rfl, o1, o2, o3, o4, o5, o6⟩ := hO2
  have HN := hid haN
  have HO := hid hok
  have hG2 : ShutG p a (-1) u S q c 0 w2 := ⟨_, _, _, _, _, _, _, hS2, ⟨hLI.1, fun j _ hj => hF j hj, hU⟩⟩
  have hX2 := hk2.at hX1 (by simp)
  have hY2 := hk2.at hY1 (by simp)
  have K2 := hk2
  have HK1 := hid K1
  have HX1 := hid hX1
  have HY1 := hid hY1
  have HS1 := hid hs1
  have hBS : ∀ b ∈ mb :: a.d :: q.bl p a, w1.heap.size ≤ b := hbs
  have hnbs : w1.heap.size ≤ nb := o1
  have hnv2 := hnv nb rfl
  have hlts := hS2.lts
  have hmbl := hM2.lt
  have hrow2 : OwnAt w2 nb 0 (a.n - c.act) (fun i => S.now (c.act + i)) := ⟨ncur, o2, fun i hi => by rw [Nat.zero_add]; exact o6 i hi⟩
  have hnbl := hrow2.lt
  clear hc hok haN hS2 hU hLI hF hbs hnv hk2 K1 c0 c1 c2 x0 o1 o2 o3 o4 o5 o6 hX1 hY1 hs1
  go_upto_region 8 with fail
  have hs3 := (At.new w2 (.cells #[ptr q.b] 30)).alloc (.cells #[ptr mb] 31)
  have hm3 := At.new (w2.alloc (.cells #[ptr q.b] 30)) (.cells #[ptr mb] 31)
  have k3 := ((Keeps.refl [] w2).alloc (.cells #[ptr q.b] 30)).alloc (.cells #[ptr mb] 31)
  rw [show (w2.alloc (.cells #[ptr q.b] 30)).heap.size = w2.heap.size + 1 by simp] at hm3
  have hsz3 : ((w2.alloc (.cells #[ptr q.b] 30)).alloc (.cells #[ptr mb] 31)).heap.size = w2.heap.size + 2 := by simp
  have hz2 := K2.size
  have hX2l := hX2.lt
  have hY2l := hY2.lt
  obtain ⟨sb, hsb⟩ : ∃ sb, sb = w2.heap.size := ⟨_, rfl⟩
  obtain ⟨w3, hw3⟩ : ∃ w3, w3 = (w2.alloc (.cells #[ptr q.b] 30)).alloc (.cells #[ptr mb] 31) := ⟨_, rfl⟩
  rw [← hsb] at hs3 hm3 hsz3 hlts hmbl hnbl hX2l hY2l ⊢
  rw [← hw3] at hs3 hm3 k3 hsz3 ⊢
  have hG3 := hG2.keep0 k3
  have hX3 := k3.at hX2 (by simp)
  have hY3 := k3.at hY2 (by simp)
  have hM3 := k3.at hM2 (by simp)
  have hrow3 := hrow2.keep k3 (by simp)
  have K3 := K2.trans k3
  have hsbW : w1.heap.size ≤ sb := by omega
  clear hw3 hsb hG2 hX2 hY2 hM2 hrow2 K2 k3 hz2
  obtain ⟨z, hz⟩ : ∃ z : Int, (lim : Int) % 500 = z := ⟨_, rfl⟩
  have hzb : 0 ≤ z ∧ z < 500 := by omega
  go_wp2_with fail
  clear hz
  refine (new_at z _).mono ?_
  rintro e w4 ⟨rfl, hP4, hsz4, hk4⟩
  obtain ⟨pn, hpn⟩ : ∃ pn, pn = w3.heap.size := ⟨_, rfl⟩
  rw [← hpn] at hP4 hsz4 ⊢
  have HPW := hid (power_at w4 p pn a (-1) u z S (hG3.pw.keep0 hk4) hP4 (.inr hzb.1))
  have hpnb : sb + 2 ≤ pn ∧ pn < w4.heap.size := ⟨by omega, hP4.lt⟩
  clear hpn hsz3 hsz4
  go_wp2_with fail
  refine HPW.out.mono ?_
  rintro e w5 ⟨rfl, hP5, hk5⟩
  have hG5 := shut_power (hG3.keep0 hk4) hP5 hk5
  have had : w1.heap.size ≤ a.d ∧ a.d < sb := ⟨hBS _ (by simp), hlts _ (by simp)⟩
  have hmbd : mb ≠ a.d := fun e => hmb (by rw [e]; simp)
  have hnbd : nb ≠ a.d := fun e => hnv2 (by rw [e]; simp)
  have hs1 := HS1.out
  have hX5 := hk5.at (hk4.at hX3 (by simp)) (by simp; omega)
  have hY5 := hk5.at (hk4.at hY3 (by simp)) (by simp; omega)
  have hs5 := hk5.at (hk4.at hs3 (by simp)) (by simp; omega)
  have hm5 := hk5.at (hk4.at hm3 (by simp)) (by simp; omega)
  have hM5 := hk5.at (hk4.at hM3 (by simp)) (by simpa using hmbd)
  have hrow5 := (hrow3.keep hk4 (by simp)).keep hk5 (by simpa using hnbd)
  have K5 : Keeps [] w1 w5 := (K3.trans hk4).new hk5 (by simp; omega)
  have hsz5 : pn < w5.heap.size := Nat.lt_of_lt_of_le hpnb.2 hk5.size
  have hpnW := hpnb.1
  clear hpnb
  clear HPW hP4 hk4 hk5 hG3 hX3 hY3 hs3 hm3 hM3 hrow3 K3 hP5
  have m0 := hm5.cell 0 rfl
  have n3 := hM5.cell 3 rfl
  have hci := c_in HO.out HN.out
  have HCL := hid (clone_at w5 ⟨nb, 0, none⟩ (a.n - c.act) ncap _ hrow5.reads (by omega))
  go_wp2_with fail
  refine HCL.out.mono ?_
  rintro e w6 ⟨nv6, rfl, ⟨g, kcap, ncur6, rfl, o1, o2, _, _, _, o6⟩, hk6⟩
  have hrow6 : OwnAt w6 g 0 (a.n - c.act) (fun i => S.now (c.act + i)) := ⟨ncur6, o2, fun i hi => by rw [Nat.zero_add]; exact o6 i hi⟩
  have hgl := hrow6.lt
  have hk6s := hk6.size
  clear m0 n3 HCL o2 o6
  go_upto_region 11 with fail
  have kk := ((Keeps.refl [] w6).alloc (.cells #[.slice (some ⟨g, 0, none⟩) (a.n - c.act) kcap] 25)).alloc (.cells #[.bool false] 4)
  have hkb := (At.new w6 (.cells #[.slice (some ⟨g, 0, none⟩) (a.n - c.act) kcap] 25)).alloc (.cells #[.bool false] 4)
  have hcmn := At.new (w6.alloc (.cells #[.slice (some ⟨g, 0, none⟩) (a.n - c.act) kcap] 25)) (.cells #[.bool false] 4)
  rw [show (w6.alloc (.cells #[.slice (some ⟨g, 0, none⟩) (a.n - c.act) kcap] 25)).heap.size = w6.heap.size + 1 by simp] at hcmn
  obtain ⟨kb, hkbe⟩ : ∃ kb, kb = w6.heap.size := ⟨_, rfl⟩
  obtain ⟨w7, hw7⟩ : ∃ w7, w7 = (w6.alloc (.cells #[.slice (some ⟨g, 0, none⟩) (a.n - c.act) kcap] 25)).alloc (.cells #[.bool false] 4) := ⟨_, rfl⟩
  rw [← hkbe] at hkb hcmn hgl hk6s ⊢
  rw [← hw7] at kk hkb hcmn ⊢
  clear hw7 hkbe
  have k57 := hk6.trans kk
  have hG7 := hG5.keep0 k57
  have hX7 := k57.at hX5 (by simp)
  have hs7 := k57.at hs5 (by simp)
  have hm7 := k57.at hm5 (by simp)
  have hM7 := k57.at hM5 (by simp)
  have hrow7 := hrow5.keep k57 (by simp)
  have hrowg := hrow6.keep kk (by simp)
  have K7 := K5.trans k57
  have hpnb : sb + 2 ≤ pn ∧ pn < kb := ⟨hpnW, by omega⟩
  have hin : ∀ b ∈ a.d :: q.bl pn a, b = pn ∨ (b ∈ a.d :: q.bl p a) := fun b hb => by
    unfold Sc.bl at hb ⊢
    simp only [List.mem_cons, List.not_mem_nil, or_false] at hb ⊢
    rcases hb with h | h | h
    · exact .inr (.inl h)
    · exact .inl h
    · exact .inr (.inr (.inr h))
  have hin2 : ∀ b ∈ a.d :: q.bl pn a, w1.heap.size ≤ b ∧ (b = pn ∨ b < sb) := fun b hb => by
    rcases hin b hb with h | h
    · exact ⟨by omega, .inl h⟩
    · exact ⟨hBS b (List.mem_cons_of_mem _ h), .inr (hlts b h)⟩
  have hmbW : w1.heap.size ≤ mb := hBS mb (by simp)
  have hsep : MSep pn a q c mb nb w7 := by
    refine ⟨HO.out, HN.out, fun h => ?_, fun h => ?_, fun b hb => ?_⟩
    · rcases hin _ h with h | h
      · omega
      · exact hmb h
    · rcases List.mem_cons.1 h with h | h
      · exact hnv2 (by rw [h]; simp)
      · rcases hin _ h with h | h
        · omega
        · exact hnv2 (List.mem_cons_of_mem _ h)
    · have hkl := hkb.lt
      rcases List.mem_cons.1 hb with h | h
      · omega
      · rcases List.mem_cons.1 h with h | h
        · omega
        · have := (hin2 b h).2; omega
  have hCB : CB pn a q c mb nb w1 w7 (W.heap.size + 1) (sb + 1) (kb + 1) sb kb x n cp g kcap false S.now := by
    refine ⟨hX7, hm7, hcmn, hs7, hkb, hrowg, fun b hb h => ?_, ⟨by omega, by omega, by omega, by omega, by omega⟩, ⟨by omega, by omega, by omega, by omega⟩, K7⟩
    simp only [List.mem_cons, List.not_mem_nil, or_false] at hb
    rcases List.mem_cons.1 h with h | h
    · omega
    · rcases List.mem_cons.1 h with h | h
      · omega
      · have h1 := hin2 b (by exact h)
        omega
  have hHB : ∀ b ∈ mb :: nb :: q.bl pn a, w1.heap.size ≤ b := fun b hb => by
    rcases List.mem_cons.1 hb with h | h
    · rw [h]; exact hBS _ (by simp)
    · rcases List.mem_cons.1 h with h | h
      · omega
      · exact (hin2 b (List.mem_cons_of_mem _ h)).1
  have hSh7 : MShut pn a z 0 q c mb nb ncap w7 S 0 w7 := ⟨_, _, _, _, _, _, _, _, hG7, hM7, hrow7, Keeps.refl _ _⟩
  have hRX : DReads w1 x n f := by
    rcases HR.out with h | ⟨b, off, e, hb, hcl⟩
    · exact .inl h
    · refine .inr ⟨b, off, e, Nat.lt_of_lt_of_le hb HK1.out.size, fun i hi => ?_⟩
      obtain ⟨q1, q2, q3, q4⟩ := hcl i hi
      exact ⟨(HK1.out.cell (p := ⟨b, off + i * 3, none⟩) hb (by simp)).trans q1, (HK1.out.cell (p := ⟨b, off + i * 3 + 1, none⟩) hb (by simp)).trans q2, (HK1.out.cell (p := ⟨b, off + i * 3 + 2, none⟩) hb (by simp)).trans q3, q4⟩
  have HRUN := hid (run_any 16 #[ptr (W.heap.size + 1), ptr (sb + 1), ptr (kb + 1), ptr sb, ptr kb] w7 _ _ (fun _ => by simp [go_sem]) (cutrun_at w7 pn a z q c mb nb ncap w1 (W.heap.size + 1) (sb + 1) (kb + 1) sb kb x n cp f hRX hnn (by omega) hHB ⟨by omega, by omega⟩
    ⟨w7, g, kcap, S.now, 0, S, 0, hsep, hCB, Nat.le_refl _, by omega, .inr ⟨hSh7, fun _ _ _ => rfl⟩⟩))
  have HIN2 := hid hin2
  have hyb : W.heap.size + 2 < w1.heap.size := by omega
  clear hk6 kk k57 hG5 hG7 hX5 hs5 hm5 hM5 hrow5 hrow6 hX7 hs7 hm7 hM7 hrow7 hrowg K5 K7 hin hin2 hsep hCB hHB hSh7 hRX hkb hcmn hBS hlts hnv2 hmb
  go_wp2_with fail
  refine HRUN.out.mono ?_
  intro e w8 hrun
  have hrun2 : ∃ (whole cmv : Bool), e = .returned (.bool whole) ∧ CEnd pn a z c q mb nb ncap w1 (sb + 1) (kb + 1) kb cmv w8 ∧ (whole = true → cmv = false) := by
    rcases hrun with ⟨rfl, h⟩ | ⟨rfl, wx, ⟨cmv, h⟩, rfl⟩
    · exact ⟨true, false, rfl, h, fun _ => rfl⟩
    · exact ⟨false, cmv, rfl, h.alloc _, fun h => by cases h⟩
  obtain ⟨whole, cmv, rfl, ⟨D, N, g8, kcap8, T, u8, hP8, hu8, hLK, hk8, hrk8, hc8, hm8, ⟨was, seen, op, ff, tt, hM8⟩, hrn8, hap8, K8⟩, hwc⟩ := hrun2
  clear hrun HRUN
  have hS : ∀ b ∈ [a.d, a.s, a.k, a.m], w1.heap.size ≤ b := fun b hb => (HIN2.out b (by unfold Sc.bl; simp at hb ⊢; omega)).1
  have hne : ∀ b ∈ [sb + 1, kb + 1, kb, g8, mb, nb], b ∉ [a.d, a.s, a.k, a.m] := fun b hb h => hap8 b hb (by unfold Sc.bl; simp at h ⊢; omega)
  have hpl : pn < w8.heap.size := hP8.pow.lt
  obtain ⟨r9, m9, pl, wd, K, hr9, hK9, hI9⟩ := hLK (fun i => chV bits i % 3)
  have HI9 := hid hI9
  have hY8 := K8.at HY1.out (by simp)
  have hYs : W.heap.size + 2 ∉ [a.s, a.k, a.m] := fun h => by have := hS (W.heap.size + 2) (by simp at h ⊢; omega); omega
  have HCR := hid (crash_plain w8 pn a T hP8.dev _ #[ptr (W.heap.size + 2)] (chV bits) [W.heap.size + 2] _ (sectionCut2_chooser (W.heap.size + 2) bits a.n (by omega)) hY8 (by simp at hYs ⊢; omega) (by simp; exact hY8.lt))
  clear hLK hI9 hap8
  go_wp2_with fail
  refine HCR.out.mono ?_
  rintro e w9 ⟨rfl, hD9, _, hk9⟩
  have hP9 : Pw w9 pn a z u8 (crashed T fun i => chV bits i % 3) := hP8.broken hD9 hk9
  have E9 : Keeps [a.d, a.s, a.k, a.m] w8 w9 := hk9.mono (by intro k _ hk; simp at hk ⊢; omega)
  clear HCR hD9 hk9 hY8 hP8 hYs
  obtain ⟨S9, hS9⟩ : ∃ S', S' = crashed T fun i => chV bits i % 3 := ⟨_, rfl⟩
  rw [← hS9] at hP9 HI9
  clear hS9
  go_wp2_with fail
  refine (new_at (-1) _).mono ?_
  rintro e w10 ⟨rfl, hP10, hsz10, hk10⟩
  obtain ⟨qn, hqn⟩ : ∃ qn, qn = w9.heap.size := ⟨_, rfl⟩
  rw [← hqn] at hP10 hsz10 ⊢
  have hqn8 : w8.heap.size ≤ qn := by have := E9.size; omega
  have HPW := hid (power_at w10 pn qn a z u8 (-1) S9 (hP9.keep0 hk10) hP10 (.inl (by omega)))
  clear hqn hsz10
  go_wp2_with fail
  refine HPW.out.mono ?_
  rintro e w11 ⟨rfl, hP11, hk11⟩
  have E11 : Keeps [a.d, a.s, a.k, a.m] w8 w11 := (E9.trans (hk10.mono (by simp))).trans (hk11.mono (by intro k _ hk; simp at hk ⊢; omega))
  have hm11 := E11.at hm8 (hne _ (by simp))
  have hM11 := E11.at hM8 (hne _ (by simp))
  have m0 := hm11.cell 0 rfl
  have n0 := hM11.cell 0 rfl
  have n1 := hM11.cell 1 rfl
  have n2 := hM11.cell 2 rfl
  clear HPW hP9 hP10 hk10 hk11 E9 hm11 hM11
  go_wp2_with fail
  refine (open_li hP11 HO.out HN.out HI9.out.1 (by omega)).mono ?_
  rintro e w12 ⟨lb2, rfl, hlb2, hL12, hk12⟩
  have E12 : Keeps [a.d, a.s, a.k, a.m] w8 w12 := E11.trans (hk12.mono (by simp))
  have hlb8 : w8.heap.size ≤ lb2 := by have := E11.size; omega
  clear m0 n0 n1 n2 hk12 E11 hP11 hlb2
  have HM := hid HI9.out.1.le
  go_wp2_with fail
  refine (good_at hL12 HO.out.small HM.out hci.1).mono ?_
  rintro e w13 ⟨rb, rfl, hk13, hga⟩
  obtain rfl : rb = -1 := HI9.out.1.good_ans (by omega) hga
  have hL13 := hL12.keep0 hk13
  have E13 := E12.trans (hk13.mono (by simp))
  clear hga hk13 hL12 E12
  go_wp2_with fail
  refine (undo_li hL13 HO.out HN.out HI9.out.1 (by omega)).mono ?_
  intro e w14 hr14
  obtain ⟨rfl, hL14, hk14⟩ := hr14.free hL13.pw.lo
  have hD14 := hid (undS_done (st := false) HI9.out).clean
  have E14 : Keeps [a.d, a.s, a.k, a.m] w8 w14 := E13.new hk14 (by simp; omega)
  obtain ⟨T14, hT14⟩ : ∃ T', T' = execs S9 (undS c false pl wd m9 (eN 1 r9)) := ⟨_, rfl⟩
  rw [← hT14] at hL14 hD14
  have hdev := hL14.pw.dev
  have hm14 := E14.at hm8 (hne _ (by simp))
  have hM14 := E14.at hM8 (hne _ (by simp))
  have m0 := hm14.cell 0 rfl
  have n0 := hM14.cell 0 rfl
  have n1 := hM14.cell 1 rfl
  have n2 := hM14.cell 2 rfl
  clear hr14 hk14 hT14 hL13 E13 hL14 hm14 hM14
  go_wp2_with fail
  refine (words7_at w14 qn a T14 c hdev HO.out HN.out).mono ?_
  rintro e w15 ⟨g15, cap15, rfl, _, _, hR15, hk15⟩
  have E15 : Keeps [a.d, a.s, a.k, a.m] w8 w15 := E14.trans (hk15.mono (by simp))
  have hkk := (E15.at hk8 (hne _ (by simp))).cell 0 rfl
  have hrk := OwnAt.reads (hrk8.keep E15 (hne _ (by simp)))
  have he : ∀ j, j < a.n - c.act → T14.now (c.act + j) = K (c.act + j) := fun j hj => (hD14.out (c.act + j) (by omega) (by omega)).1
  clear m0 n0 n1 n2 hdev E14 hk15 hD14
  go_wp2_with fail
  rcases hK9 with hK | ⟨rfl, hK⟩
  · refine (equal_true w15 _ _ (a.n - c.act) _ _ _ _ hR15 hrk (fun j hj => by rw [he j hj]; exact hK _ (by omega) (by omega)) (by omega)).mono ?_
    rintro e w16 ⟨rfl, hk16⟩
    go_wp2_with fail
    go_ret
    exact ⟨rfl, (HK1.out.trans (K8.new (E15.trans (hk16.mono (by simp))) (fun b hb => .inr (hS b hb)))).below (Nat.le_refl _) (by simp)⟩
  · obtain rfl : whole = false := by cases whole with | false => rfl | true => exact absurd (hwc rfl) (by simp)
    refine (equal_any w15 _ _ (a.n - c.act) _ _ _ _ hR15 hrk (by omega)).mono ?_
    rintro e w16 ⟨b, rfl, hk16⟩
    have E16 : Keeps [a.d, a.s, a.k, a.m] w8 w16 := E15.trans (hk16.mono (by simp))
    cases b with
    | true =>
      go_wp2_with fail
      go_ret
      exact ⟨rfl, (HK1.out.trans (K8.new E16 (fun b hb => .inr (hS b hb)))).below (Nat.le_refl _) (by simp)⟩
    | false =>
      have v0 := (E16.at hc8 (hne _ (by simp))).cell 0 rfl
      have m0 := (E16.at hm8 (hne _ (by simp))).cell 0 rfl
      have n3 := (E16.at hM8 (hne _ (by simp))).cell 3 rfl
      have hrn := OwnAt.reads (hrn8.keep E16 (hne _ (by simp)))
      go_wp2_with fail
      refine (equal_true w16 _ _ (a.n - c.act) _ _ _ _ (hR15.keep hk16 (by simp)) hrn (fun j hj => by rw [he j hj]; exact hK _ (by omega) (by omega)) (by omega)).mono ?_
      rintro e w17 ⟨rfl, hk17⟩
      go_wp2_with fail
      go_ret
      exact ⟨rfl, (HK1.out.trans (K8.new (E16.trans (hk17.mono (by simp))) (fun b hb => .inr (hS b hb)))).below (Nat.le_refl _) (by simp)⟩

set_option maxHeartbeats 1000000 in
theorem sectionCut_walk (l r s : Int) (y : Option Addr) (co cq : Nat) (fo : Nat → Int) (x : Option Addr) (n cp : Nat) (f : Nat → Nat → Int) (lim bits : Int) (W : World) (wl : (Lit.int .u16 l).wf = true) (wr : (Lit.int .u16 r).wf = true) (ws : (Lit.int .u16 s).wf = true)
    (R1 : ReadsV (Value.int .u64) W y co fo) (_ : ∀ i, i < co → (Lit.int .u64 (fo i)).wf = true) (hco : co ≤ maxLen)
    (R2 : n * 3 = 0 ∨ ∃ b off, x = some ⟨b, off, none⟩ ∧ b < W.heap.size ∧ ∀ i j, i < n → j < 3 → W.cell? ⟨b, off + (i * 3 + j), none⟩ = some (.int ((fun j => if j = 0 then .u8 else if j = 1 then .u16 else .u64 : Nat → IntKind) j) (f i j)) ∧ (Lit.int ((fun j => if j = 0 then .u8 else if j = 1 then .u16 else .u64 : Nat → IntKind) j) (f i j)).wf = true) (hnm : n ≤ maxLen)
    (wlim : (Lit.int .u16 lim).wf = true) (_ : (Lit.int .u64 bits).wf = true) :
    Calls Tryz.prog 3 #[.agg #[.int .u16 l, .int .u16 r, .int .u16 s], .slice y co cq, .slice x n cp, .int .u16 lim, .int .u64 bits] W fun e w' => e = .returned (.bool true) ∧ Below W.heap.size W w' := by
  obtain ⟨l, rfl, hl⟩ := c3_open wl
  obtain ⟨r, rfl, hr⟩ := c3_open wr
  obtain ⟨s, rfl, hs⟩ := c3_open ws
  have hb := bounds_u16 wlim
  obtain ⟨lim, rfl⟩ : ∃ k : Nat, (k : Int) = lim := ⟨lim.toNat, by omega⟩
  exact cut7_small l r s y co cq fo x n cp f lim bits W hl hr hs (by omega) R1 (by unfold maxLen at hco; omega) (dreads_of R2) (by unfold maxLen at hnm; omega)

end Go.Proofs.YtkoflpcpopmkkaaGreat
