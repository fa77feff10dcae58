/- The walk of the law UlogOldest. -/
import Derived.Test.YthpebaghcaelcaaA6
namespace Go.Proofs.Ythpebaghcaelcaa
open Go.RowKit Go.OpenShut

set_option maxRecDepth 100000 in
set_option maxHeartbeats 2000000 in
theorem oldest_great (l r s : Nat) (at0 : Nat) (x : Option Addr) (n cp : Nat) (W : World) (hl : l ≤ 65535) (hr : r ≤ 65535) (hs : s ≤ 65535) (hn : 10 < n) :
    Calls Try.prog 8 #[c3V l r s, .int .u16 at0, .slice x n cp] W fun e w' => e = .returned (.bool true) ∧ Below W.heap.size W w' := by
  have g1 : decide (10 < n) = true := by rw [decide_eq_true_eq]; omega
  have g2 : decide (10 < (n : Int)) = true := by rw [decide_eq_true_eq]; omega
  go_enter Try.func8, Try.ntmps8
  go_wp2_with fail
  have hB0 := At.new W (c3O l r s)
  have K0 := (Keeps.refl [] W).alloc (c3O l r s)
  refine (awake6_any _).mono ?_
  rintro e w1 ⟨rfl, hb1⟩
  have k1 := Go.Proofs.Ythpebaghcaelcaa.Below.keeps hb1 []
  have K1 := K0.trans k1
  have hB1 := k1.at hB0 (by simp)
  clear hb1 k1 hB0 K0
  have c0 : w1.cell? ⟨W.heap.size, 0, none⟩ = some (.int .u16 l) := hB1.cell 0 rfl
  have c1 : w1.cell? ⟨W.heap.size, 1, none⟩ = some (.int .u16 r) := hB1.cell 1 rfl
  have c2 : w1.cell? ⟨W.heap.size, 2, none⟩ = some (.int .u16 s) := hB1.cell 2 rfl
  go_wp2_with fail
  refine (make3_at w1 l r s hl hr hs).mono ?_
  rintro e w2 ⟨rfl, hk2⟩
  have K2 := K1.trans hk2
  clear c0 c1 c2 hB1 hk2 K1
  go_wp2_with fail
  go_ret
  exact ⟨rfl, (K2.alloc _).below (Nat.le_refl _) (by simp)⟩

set_option maxRecDepth 100000 in
set_option maxHeartbeats 8000000 in
theorem oldest_small (l r s : Nat) (at0 : Nat) (x : Option Addr) (n cp : Nat) (f : Nat → Int) (W : World) (hl : l ≤ 65535) (hr : r ≤ 65535) (hs : s ≤ 65535) (ha : at0 ≤ 65535) (hn : n ≤ 10) (hR : Reads W x n f) :
    Calls Try.prog 8 #[c3V l r s, .int .u16 at0, .slice x n cp] W fun e w' => e = .returned (.bool true) ∧ Below W.heap.size W w' := by
  have g1 : decide (10 < n) = false := by rw [decide_eq_false_iff_not]; omega
  have g2 : decide (10 < (n : Int)) = false := by rw [decide_eq_false_iff_not]; omega
  have hni : (n : Int) ≤ 10 := by omega
  have HR := hid hR
  clear hR
  go_enter Try.func8, Try.ntmps8
  go_wp2_with fail
  have hB0 := At.new W (c3O l r s)
  have K0 := (Keeps.refl [] W).alloc (c3O l r s)
  refine (awake6_any _).mono ?_
  rintro e w1 ⟨rfl, hb1⟩
  have k1 := Go.Proofs.Ythpebaghcaelcaa.Below.keeps hb1 []
  have K1 := K0.trans k1
  have hB1 := k1.at hB0 (by simp)
  clear hb1 k1 hB0 K0
  have c0 : w1.cell? ⟨W.heap.size, 0, none⟩ = some (.int .u16 l) := hB1.cell 0 rfl
  have c1 : w1.cell? ⟨W.heap.size, 1, none⟩ = some (.int .u16 r) := hB1.cell 1 rfl
  have c2 : w1.cell? ⟨W.heap.size, 2, none⟩ = some (.int .u16 s) := hB1.cell 2 rfl
  go_wp2_with fail
  refine (make3_at w1 l r s hl hr hs).mono ?_
  rintro e w2 ⟨rfl, hk2⟩
  have K2 := K1.trans hk2
  have hok := mk3_ok l r s
  obtain ⟨c, hc⟩ : ∃ c, c = mk3 l r s := ⟨_, rfl⟩
  rw [← hc] at hok ⊢
  clear hc c0 c1 c2 hB1 hk2 K1
  go_wp2_with fail
  have hC3 := At.new w2 (cfgO c)
  have K3 := K2.alloc (cfgO c)
  have hz2 := K2.size
  obtain ⟨cb, hcb⟩ : ∃ cb, cb = w2.heap.size := ⟨_, rfl⟩
  rw [← hcb] at hC3 hz2 ⊢
  have HCB := hid hcb
  clear hcb K2
  refine (formatted_at _ c hok none 0 0 (fun _ => 0) (.inl rfl) (by omega)).mono ?_
  rintro e w4 ⟨p, a, u, S, rfl, haN, hP, hu, hW, hkp, his, ⟨b1, b2, b3, b4, b5⟩, hk4⟩
  simp only [World.size_alloc] at b1 b2 b3 b4 b5
  rw [← HCB.out] at b1 b2 b3 b4 b5
  have hC4 := hk4.at hC3 (by simp)
  have K4 := K3.trans hk4
  have hci := c_in hok haN
  have hLI := LI.fresh (fun _ => 0) (fun _ => 0) hok haN hW hkp his
  have HN := hid haN
  have HO := hid hok
  have HLI := hid hLI
  have HKP := hid (And.intro hkp his)
  have h0 := hP.lo
  clear haN hok hkp his hW hC3 K3 hk4 hLI
  have c0 := hC4.cell 0 rfl
  have c1 := hC4.cell 1 rfl
  have c2 := hC4.cell 2 rfl
  go_wp2_with fail
  refine (aplace_at w4 at0 0 c HO.out ha).mono ?_
  rintro e wa ⟨rfl, hka⟩
  have hpi := plc_in HO.out at0
  obtain ⟨i, hi⟩ : ∃ i, i = plc c at0 := ⟨_, rfl⟩
  rw [← hi] at hpi ⊢
  have hin : i < a.n := by rw [← HN.out]; exact hpi.2
  have hPa := hP.keep0 hka
  have hCa := hka.at hC4 (by simp)
  have Ka := K4.trans hka
  clear c0 c1 c2 hi hP hC4 hka
  have c0 := hCa.cell 0 rfl
  have c1 := hCa.cell 1 rfl
  have c2 := hCa.cell 2 rfl
  have hz4 : W.heap.size ≤ w4.heap.size := K4.size
  go_wp2_with fail
  refine (load_in wa p a S i hPa.dev hin).mono ?_
  rintro e wb ⟨rfl, rfl⟩
  go_wp2_with fail
  refine (open_li hPa HO.out HN.out HLI.out.1 (by omega)).mono ?_
  rintro e w5 ⟨lb, rfl, hlb, hL5, hk5⟩
  have hC5 := hk5.at hCa (by simp)
  have K5 := Ka.trans hk5
  have hlbc : cb < lb := Nat.lt_of_lt_of_le hCa.lt hlb
  have hWlb : W.heap.size ≤ lb := Nat.le_trans Ka.size hlb
  have hWT : ∀ b ∈ [p, a.s, a.k, a.m, lb], b ∈ ([] : List Nat) ∨ W.heap.size ≤ b := by simp; omega
  have hcT2 : cb ∉ [p, a.s, a.k, a.m, lb] := by simp; omega
  clear c0 c1 c2 hCa Ka hk5 hPa
  go_wp2_with fail
  go_loopg [13, 42] n (fun r s0 s1 wr => ∃ k m : Nat, k + r = n ∧ s1 = .int .i64 k ∧ s0 = .int .i64 m ∧ (∃ st u' S' pl wd, LW wr p a (-1) u' S' lb c m st ∧ LI c a.n 1 0 m pl wd S.now S' ∧ u' ≤ 110000 + 120 * (k : Int)) ∧ m = min k c.log ∧ Keeps [p, a.s, a.k, a.m, lb] w5 wr)
  case atStart => exact ⟨0, 0, by omega, rfl, rfl, ⟨false, u, S, _, _, hL5, HLI.out, by omega⟩, by omega, Keeps.refl _ _⟩
  case round =>
    obtain ⟨k, m, hk, rfl, rfl, ⟨st, u', S', pl, wd, hLk, hRk, huk⟩, hmk, hK⟩ := hrel
    have hR := hid hRk
    have hMK := hid hmk
    clear hRk hmk
    have KW : Keeps [] W wr := K5.new hK hWT
    have hmb : m ≤ 200 := by have := hMK.out; omega
    have hmbi : (m : Int) ≤ 200 := by omega
    by_cases hlt : k < n
    · obtain ⟨b, off, rfl, hbl, hcl⟩ : ∃ b off, x = some ⟨b, off, none⟩ ∧ b < W.heap.size ∧ W.cell? ⟨b, off + k, none⟩ = some (.int .u64 (f k)) := by
        rcases HR.out with h | ⟨b, off, h1, h2, h3⟩
        · omega
        · exact ⟨b, off, h1, h2, h3 k hlt⟩
      have d0 := (KW.cell (p := ⟨b, off + k, none⟩) hbl (by simp)).trans hcl
      clear hcl
      go_wp2_with fail
      by_cases hm : m < c.log
      · refine (append_li hLk HO.out HN.out hR.out.1 (by omega) hm i hin (by omega)).mono ?_
        intro e w8 hr8
        obtain ⟨rfl, hL8, hk8⟩ := hr8.free hLk.pw.lo
        have hlen := appL_len (st := st) (m := m) HO.out (eN 1 0) i (S'.now i)
        have hR8 := hid (show LI c a.n 1 0 (m + 1) (put pl m i) (put wd m (S'.now i)) S.now (execs S' (appL c st false m (eN 1 0) i (S'.now i))) from
          ⟨app_done hR.out.1 hm i _ ⟨hpi.1, hin⟩, hR.out.2.grow (fun j _ _ => (app_pre (by omega) (by omega) (by omega)).1) i ⟨hpi.1, hin⟩⟩)
        have hlo := hL8.pw.lo
        clear d0
        go_wp2_with fail
        refine (store_ran w8 p a (-1) _ _ i (f k) hL8.pw hin (by omega)).mono ?_
        intro e w9 hr9
        obtain ⟨rfl, hP9, hk9⟩ := hr9.free hlo
        have hL9 := hL8.next hP9 hk9
        have hR9 := hid (LI.store (v := f k) hR8.out (k := m) (by omega) (put_on pl m i))
        go_wp2_with fail
        go_roundg (n - (k + 1))
        case measure => omega
        case rel => exact ⟨k + 1, m + 1, by omega, by go_num, by go_num, ⟨true, _, _, _, _, hL9, hR9.out, by simp; omega⟩, by have := hMK.out; omega, (hK.trans hk8).trans hk9.lg⟩
      · have hmc : m = c.log := by have := hR.out.1.le; omega
        refine (append_full hLk i hin hmc).mono ?_
        rintro e w8 ⟨rfl, hk8⟩
        have hL8 := hLk.keep0 hk8
        clear d0
        go_wp2_with fail
        go_roundg (n - (k + 1))
        case measure => omega
        case rel => exact ⟨k + 1, m, by omega, by go_num, by go_num, ⟨st, u', S', pl, wd, hL8, hR.out, by omega⟩, by have := hMK.out; omega, hK.trans (hk8.mono (by simp))⟩
    · have hkn : k = n := by omega
      subst hkn
      have hCk := hK.at hC5 hcT2
      have hmin : min (k : Int) (c.log : Int) = (m : Int) := by have := hMK.out; omega
      have hmin2 : min k c.log = m := hMK.out.symm
      have hmin3 : (if (c.log : Int) < (k : Int) then (c.log : Int) else (k : Int)) = (m : Int) := by have := hMK.out; split <;> omega
      clear hk hlt hC5 hK
      have c0 := hCk.cell 0 rfl
      go_wp2_with fail
      refine (len6_at hLk).mono ?_
      rintro e w8 ⟨rfl, rfl⟩
      go_wp2_with fail
      all_goals
        refine (undo_li hLk HO.out HN.out hR.out.1 (by omega)).mono ?_
        intro e w8 hr8
        obtain ⟨rfl, hL8, hk8⟩ := hr8.free hLk.pw.lo
        have hLT := undS_done (st := st) hR.out
        have K8 : Keeps [] W w8 := KW.new hk8 hWT
        have hF := hLT.clean i hpi.1 hin
        have HF := hid hF
        clear hr8 hk8 hLk hCk KW hLT hF c0
        go_wp2_with fail
        refine (load_eq w8 p a _ i (S.now i) hL8.pw.dev hin HF.out.1).mono ?_
        rintro e w9 ⟨rfl, rfl⟩
        go_wp2_with fail
        go_ret
        exact ⟨rfl, K8.below (Nat.le_refl _) (by simp)⟩

theorem ulogOldest_walk (l r s : Int) (at0 : Int) (x : Option Addr) (n cp : Nat) (f : Nat → Int) (W : World) (wl : (Lit.int .u16 l).wf = true) (wr : (Lit.int .u16 r).wf = true) (ws : (Lit.int .u16 s).wf = true) (wa : (Lit.int .u16 at0).wf = true)
    (R1 : ReadsV (Value.int .u64) W x n f) (_ : ∀ i, i < n → (Lit.int .u64 (f i)).wf = true) (_ : n ≤ maxLen) :
    Calls Try.prog 8 #[.agg #[.int .u16 l, .int .u16 r, .int .u16 s], .int .u16 at0, .slice x n cp] W fun e w' => e = .returned (.bool true) ∧ Below W.heap.size W w' := by
  obtain ⟨l, rfl, hl⟩ := c3_open wl
  obtain ⟨r, rfl, hr⟩ := c3_open wr
  obtain ⟨s, rfl, hs⟩ := c3_open ws
  obtain ⟨at0, rfl, ha⟩ := c3_open wa
  by_cases hn : 10 < n
  · exact oldest_great l r s at0 x n cp W hl hr hs hn
  · exact oldest_small l r s at0 x n cp f W hl hr hs ha (by omega) R1.words

end Go.Proofs.Ythpebaghcaelcaa
