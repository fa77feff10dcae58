/- The walk of the law UlogEpochs. -/
import Derived.Test.YthpebaghcaelcaaA6
namespace Go.Proofs.Ythpebaghcaelcaa
open Go.RowKit Go.OpenShut

set_option maxRecDepth 100000 in
set_option maxHeartbeats 2000000 in
theorem epochs_great (l r s : Nat) (x : Option Addr) (n cp : Nat) (ep : Int) (W : World) (hn : 12 < n) :
    Calls Try.prog 9 #[c3V l r s, .slice x n cp, .int .u32 ep] W fun e w' => e = .returned (.bool true) ∧ Below W.heap.size W w' := by
  go_enter Try.func9, Try.ntmps9
  go_wp2_with fail
  refine (awake6_any _).mono ?_
  rintro e w1 ⟨rfl, hb1⟩
  have K1 := Go.Proofs.Ythpebaghcaelcaa.Below.keeps hb1 []
  go_wp2_with fail
  go_ret
  exact ⟨rfl, (((Keeps.refl [] W).alloc _).trans K1).below (Nat.le_refl _) (by simp)⟩

set_option maxRecDepth 100000 in
set_option maxHeartbeats 8000000 in
theorem epochs_small (l r s : Nat) (x : Option Addr) (n cp : Nat) (f : Nat → Int) (e0 : Nat) (W : World) (hl : l ≤ 65535) (hr : r ≤ 65535) (hs : s ≤ 65535) (he : e0 < 4294967296) (hn : n ≤ 12) (hR : ReadsV (Value.int .u8) W x n f) (hfb : ∀ i, i < n → 0 ≤ f i ∧ f i ≤ 255) :
    Calls Try.prog 9 #[c3V l r s, .slice x n cp, .int .u32 e0] W fun e w' => e = .returned (.bool true) ∧ Below W.heap.size W w' := by
  have g1 : decide (12 < n) = false := by rw [decide_eq_false_iff_not]; omega
  have g2 : decide (12 < (n : Int)) = false := by rw [decide_eq_false_iff_not]; omega
  have hni : (n : Int) ≤ 12 := by omega
  have HR := hid hR
  have HF := hid hfb
  have hei : (e0 : Int) < 4294967296 := by omega
  clear hR hfb
  go_enter Try.func9, Try.ntmps9
  go_wp2_with fail
  have hB0 := At.new W (c3O l r s)
  have K0 := (Keeps.refl [] W).alloc (c3O l r s)
  refine (awake6_any _).mono ?_
  rintro e w1 ⟨rfl, hb1⟩
  have k1 := Go.Proofs.Ythpebaghcaelcaa.Below.keeps hb1 []
  have K1 := K0.trans k1
  have hB1 := k1.at hB0 (by simp)
  clear hb1 k1 hB0 K0
  have c0 : w1.cell? ⟨W.heap.size, 0, none⟩ = some (.int .u16 l) := hB1.cell 0 rfl
  have c1 : w1.cell? ⟨W.heap.size, 1, none⟩ = some (.int .u16 r) := hB1.cell 1 rfl
  have c2 : w1.cell? ⟨W.heap.size, 2, none⟩ = some (.int .u16 s) := hB1.cell 2 rfl
  go_wp2_with fail
  refine (make3_at w1 l r s hl hr hs).mono ?_
  rintro e w2 ⟨rfl, hk2⟩
  have K2 := K1.trans hk2
  have hok := mk3_ok l r s
  obtain ⟨c, hc⟩ : ∃ c, c = mk3 l r s := ⟨_, rfl⟩
  rw [← hc] at hok ⊢
  clear hc c0 c1 c2 hB1 hk2 K1
  go_wp2_with fail
  have hC3 := At.new w2 (cfgO c)
  have K3 := K2.alloc (cfgO c)
  have hz2 := K2.size
  obtain ⟨cb, hcb⟩ : ∃ cb, cb = w2.heap.size := ⟨_, rfl⟩
  rw [← hcb] at hC3 hz2 ⊢
  have HCB := hid hcb
  clear hcb K2
  refine (formatted_at _ c hok none 0 0 (fun _ => 0) (.inl rfl) (by omega)).mono ?_
  rintro e w4 ⟨p, a, u, S, rfl, haN, hP, hu, hW, hkp, his, ⟨b1, b2, b3, b4, b5⟩, hk4⟩
  simp only [World.size_alloc] at b1 b2 b3 b4 b5
  rw [← HCB.out] at b1 b2 b3 b4 b5
  have hC4 := hk4.at hC3 (by simp)
  have K4 := K3.trans hk4
  have hci := c_in hok haN
  have hLI := LI.fresh (fun _ => 0) (fun _ => 0) hok haN hW hkp his
  have HN := hid haN
  have HO := hid hok
  have HLI := hid hLI
  have HKP := hid (And.intro hkp his)
  have h0 := hP.lo
  clear haN hok hkp his hW hC3 K3 hk4 hLI
  have c0 := hC4.cell 0 rfl
  have c1 := hC4.cell 1 rfl
  have c2 := hC4.cell 2 rfl
  have hact3 : c.act + 3 < a.n := by
    have h1 := HN.out
    have a7 := up8_le (c.root c.roots)
    have a9 : c.root c.roots = c.act + 2 + c.roots := rfl
    have e2 : c.words = up8 (c.root c.roots) + 2 * up8 c.space := rfl
    have a5 := up8_le c.space
    have := HO.out.1
    have := HO.out.2.2.2.2.1
    omega
  have hz4 : W.heap.size ≤ w4.heap.size := K4.size
  have hcT : cb ∉ [p, a.s, a.k, a.m] := by simp; omega
  have hWT : ∀ b ∈ [p, a.s, a.k, a.m], b ∈ ([] : List Nat) ∨ W.heap.size ≤ b := by simp; omega
  clear c0 c1 c2
  go_wp2_with fail
  refine (store_ran w4 p a (-1) u S 8 e0 hP hci.2.1 (by omega)).mono ?_
  intro e w5 hr5
  obtain ⟨rfl, hP5, hk5⟩ := hr5.free h0
  have hC5 := hk5.at hC4 hcT
  have K5 : Keeps [] W w5 := K4.new hk5 hWT
  have hLR5 : LR c a.n e0 0 0 (fun _ => 0) (fun _ => 0) (stood (execs S [.st 8 e0])) := by
    have h1 := HLI.out.1
    refine ⟨stood_all.2 ?_, fun _ hi => absurd hi (Nat.not_lt_zero _), fun i _ hi => stood_all.2 ?_, Nat.zero_le _⟩
    · show (execs S [.st 8 e0]).now 8 = _
      rw [one_on]
      unfold eN
      rw [Nat.add_zero, Nat.mod_eq_of_lt he]
    · rw [one_off _ _ (by omega)]
      rcases (h1.old i (Nat.zero_le _) hi).1 with h | ⟨r', h, _⟩
      · exact .inl h
      · omega
  have HLR := hid hLR5
  have hcl : (c.log : Int) ≤ 200 := by omega
  have hw0 : (e0 : Int) = (eN e0 0 : Nat) := by unfold eN; rw [Nat.add_zero, Nat.mod_eq_of_lt he]
  have HW0 := hid hw0
  clear hr5 hP hk5 hC4 K4 hLR5 hw0
  go_wp2_with fail
  go_loopg [10, 38] n (fun r s0 s1 wr => ∃ k q : Nat, k + r = n ∧ s1 = .int .i64 k ∧ s0 = .int .u32 (eN e0 q : Nat) ∧ q ≤ k ∧ (∃ u' S' pl wd, Pw wr p a (-1) u' S' ∧ LR c a.n e0 q 0 pl wd (stood S') ∧ u' ≤ 110000 + 30000 * (k : Int)) ∧ Keeps [p, a.s, a.k, a.m] w5 wr)
  case atStart => exact ⟨0, 0, by omega, rfl, by rw [← HW0.out], Nat.le_refl _, ⟨_, _, _, _, hP5, HLR.out, by simp; omega⟩, Keeps.refl _ _⟩
  case round =>
    obtain ⟨k, q, hk, rfl, rfl, hqk, ⟨u', S', pl, wd, hPk, hRk, huk⟩, hK⟩ := hrel
    have hR := hid hRk
    clear hRk
    have hCk := hK.at hC5 hcT
    have KW : Keeps [] W wr := K5.new hK hWT
    have hqlt := eN_lt e0 q
    have hqi : (eN e0 q : Int) < 4294967296 := by omega
    by_cases hlt : k < n
    · obtain ⟨b, off, rfl, hbl, hcl2⟩ : ∃ b off, x = some ⟨b, off, none⟩ ∧ b < W.heap.size ∧ W.cell? ⟨b, off + k, none⟩ = some (.int .u8 (f k)) := by
        rcases HR.out with h | ⟨b, off, h1, h2, h3⟩
        · omega
        · exact ⟨b, off, h1, h2, h3 k hlt⟩
      have d0 := (KW.cell (p := ⟨b, off + k, none⟩) hbl (by simp)).trans hcl2
      obtain ⟨z, hz⟩ : ∃ z : Nat, (z : Int) = f k := ⟨(f k).toNat, by have := (HF.out k hlt).1; omega⟩
      have hzb : (z : Int) ≤ 255 := by have := (HF.out k hlt).2; omega
      rw [← hz] at d0
      have c0 := hCk.cell 0 rfl
      have c1 := hCk.cell 1 rfl
      have c2 := hCk.cell 2 rfl
      clear hcl2 hz
      go_wp2_with fail
      refine (open_st hPk HO.out HN.out hR.out (by omega)).mono ?_
      rintro e w7 ⟨lb, rfl, hlb, hL7, hk7⟩
      have hC7 := hk7.at hCk (by simp)
      have K7 := hK.trans (hk7.mono (by simp))
      have hw5b : w5.heap.size ≤ lb := Nat.le_trans hK.size hlb
      have hlW : W.heap.size ≤ lb := Nat.le_trans KW.size hlb
      have hlc : cb < lb := Nat.lt_of_lt_of_le hCk.lt hlb
      have hcT2 : cb ∉ [p, a.s, a.k, a.m, lb] := by simp; omega
      have h8 : S'.now 8 = (eN e0 q : Nat) := by have := hR.out.ep.1; rwa [stood_now] at this
      have H8 := hid h8
      clear d0 c0 c1 c2 hCk hPk hk7 h8
      have c0 := hC7.cell 0 rfl
      go_wp2_with fail
      refine (len6_at hL7).mono ?_
      rintro e w8 ⟨rfl, rfl⟩
      go_wp2_with fail
      refine (epoch6_at hL7 (eN e0 q) (by omega) H8.out hci.2.1).mono ?_
      rintro e w8 ⟨rfl, rfl⟩
      rw [epN_eN]
      obtain ⟨d, hd⟩ : ∃ d : Nat, d = c.log + 1 := ⟨_, rfl⟩
      have ed : IntKind.i64.wrap ((c.log : Int) + 1) = (d : Int) := by rw [IntWalk.i64_in _ (by omega)]; omega
      have ed2 : (c.log : Int) + 1 = (d : Int) := by omega
      have hd1 : ¬ d = 0 := by omega
      have hd2 : ¬ (d : Int) = 0 := by omega
      obtain ⟨j, hj⟩ : ∃ j, j = z % d := ⟨_, rfl⟩
      have hjd : j < d := by rw [hj]; exact Nat.mod_lt _ (by omega)
      have ej : (z : Int).tmod (d : Int) = (j : Int) := by rw [hj, Int.tmod_eq_emod_of_nonneg (by omega)]; simp
      have ej2 : (z : Int) % (d : Int) = (j : Int) := by rw [hj]; simp
      have hjl : j ≤ c.log := by omega
      have hjb : (j : Int) ≤ 200 := by omega
      clear hj hd hjd
      go_wp2_with fail
      clear c0 ed ed2 ej ej2 hd1 hd2
      have HKQ := hid (And.intro hk hqk)
      have HUK := hid huk
      clear hk hqk huk
      go_loopg [66] j (fun r s0 wt => ∃ i : Nat, i + r = j ∧ s0 = .int .i64 i ∧ (∃ st u8 S8 pl wd, LW wt p a (-1) u8 S8 lb c i st ∧ LR c a.n e0 q i pl wd (stood S8) ∧ u8 ≤ u' + 110 * (i : Int)) ∧ Keeps [p, a.s, a.k, a.m, lb] w7 wt)
      case atStart => exact ⟨0, by omega, rfl, ⟨false, u', S', _, _, hL7, hR.out, by omega⟩, Keeps.refl _ _⟩
      case round =>
        obtain ⟨i, hi, rfl, ⟨st, u8, S8, pl8, wd8, hL8, hR8, hu8⟩, hK8⟩ := hrel
        have HR8 := hid hR8
        clear hR8
        have hC8 := hK8.at hC7 hcT2
        have K8 := K7.new hK8 (by simp; omega)
        have hib : (i : Int) ≤ 200 := by omega
        have hub : u8 ≤ 700000 := by have := HKQ.out; have := HUK.out; omega
        have c0 := hC8.cell 0 rfl
        have c1 := hC8.cell 1 rfl
        have c2 := hC8.cell 2 rfl
        by_cases hlt2 : i < j
        · go_wp2_with fail
          refine (active_at wr c HO.out.small).mono ?_
          rintro e w9 ⟨rfl, hk9⟩
          have hL9 := hL8.keep0 hk9
          have hai : (c.act : Int) ≤ 823 := by have := act_le HO.out.small; omega
          obtain ⟨y, hy⟩ : ∃ y, y = i % 4 := ⟨_, rfl⟩
          have ey : (i : Int) % 4 = (y : Int) := by omega
          have hy4 : y < 4 := by omega
          have hyi : (y : Int) < 4 := by omega
          clear hy c0 c1 c2
          go_wp2_with fail
          refine (append_st hL9 HO.out HN.out HR8.out (by have := HKQ.out; omega) (by omega) (c.act + y) (by omega) (by omega)).mono ?_
          intro e w10 hr10
          obtain ⟨rfl, hL10, hk10⟩ := hr10.free hL9.pw.lo
          have hlen := appL_len (st := st) (m := i) HO.out (eN e0 q) (c.act + y) (S8.now (c.act + y))
          go_wp2_with fail
          go_roundg (j - (i + 1))
          case measure => omega
          case rel => exact ⟨i + 1, by omega, by go_num, ⟨true, _, _, _, _, hL10, HR8.out.stood_app (by omega) _ _ ⟨by omega, by omega⟩, by omega⟩, (hK8.trans (hk9.mono (by simp))).trans hk10⟩
        · have hij : i = j := by omega
          subst hij
          clear hi hlt2
          go_wp2_with fail
          refine (open_st hL8.pw HO.out HN.out HR8.out (by have := HKQ.out; omega)).mono ?_
          rintro e w9 ⟨lb2, rfl, hlb2, hM9, hk9⟩
          have hL9 := hL8.keep0 hk9
          have hC9 := hk9.at hC8 (by simp)
          have K9 := K8.trans (hk9.mono (by simp))
          clear c0 c1 c2
          go_wp2_with fail
          refine (len6_at hM9).mono ?_
          rintro e w10 ⟨rfl, rfl⟩
          clear hM9
          by_cases hi0 : i = 0
          · subst hi0
            have t1 : decide ((0 : Int) < ((0 : Nat) : Int)) = false := by decide
            go_wp2_with fail
            refine (trunc_zero hL9).mono ?_
            intro e w11 hr11
            obtain ⟨rfl, hL11, hk11⟩ := hr11.free hL9.pw.lo
            go_wp2_with fail
            go_roundg (n - (k + 1))
            case measure => have := HKQ.out; omega
            case rel => exact ⟨k + 1, q, by have := HKQ.out; omega, by go_num, rfl, by have := HKQ.out; omega, ⟨_, _, _, _, hL11.pw, HR8.out, by have := HUK.out; simp; omega⟩, K9.new hk11 (by simp; omega)⟩
          · have t1 : decide ((0 : Int) < (i : Int)) = true := by rw [decide_eq_true_eq]; omega
            have t2 : decide (0 < i) = true := by rw [decide_eq_true_eq]; omega
            have hwr : IntKind.u32.wrap ((eN e0 q : Int) + 1) = ((eN e0 (q + 1) : Nat) : Int) := by
              rw [IntKind.wrap_u32']
              unfold eN
              omega
            have HI0 := hid hi0
            clear hi0
            go_wp2_with fail
            refine (trunc_st hL9 HO.out HN.out HR8.out (by have := HI0.out; omega) (by omega)).mono ?_
            intro e w11 hr11
            obtain ⟨rfl, hL11, hk11⟩ := hr11.free hL9.pw.lo
            have hlen := truL_len (st := st) HO.out (eN e0 q)
            go_wp2_with fail
            go_roundg (n - (k + 1))
            case measure => have := HKQ.out; omega
            case rel => exact ⟨k + 1, q + 1, by have := HKQ.out; omega, by go_num, by simp, by have := HKQ.out; omega, ⟨_, _, _, _, hL11.pw, HR8.out.stood_tru (fun _ => 0) (fun _ => 0), by have := HUK.out; omega⟩, K9.new hk11 (by simp; omega)⟩
    · have hkn : k = n := by omega
      subst hkn
      go_wp2_with fail
      go_ret
      exact ⟨rfl, KW.below (Nat.le_refl _) (by simp)⟩

theorem ulogEpochs_walk (l r s : Int) (x : Option Addr) (n cp : Nat) (f : Nat → Int) (ep : Int) (W : World) (wl : (Lit.int .u16 l).wf = true) (wr : (Lit.int .u16 r).wf = true) (ws : (Lit.int .u16 s).wf = true)
    (R1 : ReadsV (Value.int .u8) W x n f) (F1 : ∀ i, i < n → (Lit.int .u8 (f i)).wf = true) (_ : n ≤ maxLen) (we : (Lit.int .u32 ep).wf = true) :
    Calls Try.prog 9 #[.agg #[.int .u16 l, .int .u16 r, .int .u16 s], .slice x n cp, .int .u32 ep] W fun e w' => e = .returned (.bool true) ∧ Below W.heap.size W w' := by
  obtain ⟨l, rfl, hl⟩ := c3_open wl
  obtain ⟨r, rfl, hr⟩ := c3_open wr
  obtain ⟨s, rfl, hs⟩ := c3_open ws
  by_cases hn : 12 < n
  · exact epochs_great l r s x n cp ep W hn
  · have hb := bounds_u32 we
    obtain ⟨e0, rfl⟩ : ∃ e0 : Nat, (e0 : Int) = ep := ⟨ep.toNat, by omega⟩
    exact epochs_small l r s x n cp f e0 W hl hr hs (by omega) (by omega) R1 (fun i hi => bounds_u8 (F1 i hi))

end Go.Proofs.Ythpebaghcaelcaa
