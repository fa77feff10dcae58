/- The walk of the law UlogGood. -/
import Derived.Test.YthpebaghcaelcaaA6
import Derived.Deep.DeepCutAuto
import Derived.Deep.CutRange
namespace Go.Proofs.Ythpebaghcaelcaa
open Go.RowKit Go.OpenShut

theorem u64_congr {a b : Int} (h : a = b) : Value.int .u64 a = Value.int .u64 b := by rw [h]

/-- The first of n that isn't P. -/
def FirstBad (P : Nat → Prop) (n : Nat) (r : Int) : Prop := (r = -1 ∧ ∀ i, i < n → P i) ∨ (∃ i : Nat, i < n ∧ r = i ∧ ¬ P i ∧ ∀ j, j < i → P j)

theorem FirstBad.unique {P P' : Nat → Prop} {n : Nat} {r r' : Int} (h : FirstBad P n r) (h' : FirstBad P' n r') (e : ∀ i, i < n → (P i ↔ P' i)) : r = r' := by
  rcases h with ⟨rfl, h1⟩ | ⟨i, hi, rfl, h2, h3⟩
  · rcases h' with ⟨rfl, _⟩ | ⟨i, hi, rfl, h2, _⟩
    · rfl
    · exact absurd ((e i hi).1 (h1 i hi)) h2
  · rcases h' with ⟨rfl, h1⟩ | ⟨i', hi', rfl, h2', h3'⟩
    · exact absurd ((e i hi).2 (h1 i hi)) h2
    · rcases Nat.lt_trichotomy i i' with h | rfl | h
      · exact absurd ((e i hi).2 (h3' i h)) h2
      · rfl
      · exact absurd ((e i' hi').1 (h3 i' h)) h2'

/-- The law's stamps, its places. -/
def sG (e : Nat) (f : Nat → Nat) (i : Nat) : Nat := stN e i + (if f i % 8 = 7 then f i / 8 + 1 else 0)
def wG (m N : Nat) (near : Bool) (g : Nat → Nat) (i : Nat) : Nat := if i < m then (if near then g i % N else g i) else 0
/-- What the law has laid behind i rounds. -/
structure LaidG (c : Cfg) (x e : Nat) (f w : Nat → Nat) (i : Nat) (S : DS) : Prop where
  ep : S.now 8 = (x : Nat)
  st : ∀ j, j < i → S.now (16 + 4 * j) = (sG e f j : Nat) ∧ S.now (17 + 4 * j) = (w j : Nat)
  no : ∀ j, i ≤ j → j < c.log → S.now (16 + 4 * j) = 0
/-- How far the law counts. -/
structure CntG (f w : Nat → Nat) (act N i n : Nat) (b : Int) (cnt : Bool) : Prop where
  le : n ≤ i
  ok : ∀ j, j < n → f j % 8 ≠ 7
  stop : n < i → f n % 8 = 7
  cb : cnt = decide (n = i)
  bad : FirstBad (fun j => act ≤ w j ∧ w j < N) n b

theorem FirstBad.keep {P : Nat → Prop} {n : Nat} {b : Int} (h : FirstBad P n b) (hb : 0 ≤ b) : FirstBad P (n + 1) b := by
  rcases h with ⟨rfl, _⟩ | ⟨i, hi, rfl, h2, h3⟩
  · omega
  · exact .inr ⟨i, by omega, rfl, h2, h3⟩

theorem FirstBad.worse {P : Nat → Prop} {n i : Nat} (h : FirstBad P n (-1)) (e : n = i) (hp : ¬ P i) : FirstBad P (n + 1) i := by
  subst e
  rcases h with ⟨_, h1⟩ | ⟨j, _, h1, _⟩
  · exact .inr ⟨n, by omega, rfl, hp, h1⟩
  · omega

theorem FirstBad.still {P : Nat → Prop} {n i : Nat} (h : FirstBad P n (-1)) (e : n = i) (hp : P i) : FirstBad P (n + 1) (-1) := by
  subst e
  rcases h with ⟨_, h1⟩ | ⟨j, _, h1, _⟩
  · refine .inl ⟨rfl, fun j hj => ?_⟩
    by_cases hjn : j = n
    · subst hjn; exact hp
    · exact h1 j (by omega)
  · omega

section
variable {f w : Nat → Nat} {act N i n : Nat} {b b' : Int}
theorem CntG.no (h : CntG f w act N i n b false) : CntG f w act N (i + 1) n b false := by
  have h1 := h.cb
  have hne : n ≠ i := by intro e; simp [e] at h1
  have hl := h.le
  exact ⟨by omega, h.ok, fun _ => h.stop (by omega), by simp; omega, h.bad⟩
theorem CntG.here (h : CntG f w act N i n b true) : n = i := by
  have h1 := h.cb
  simpa using h1
theorem CntG.halt (h : CntG f w act N i n b true) (hf : f i % 8 = 7) : CntG f w act N (i + 1) n b false := by
  have h1 := h.here
  subst h1
  exact ⟨by omega, h.ok, fun _ => hf, by simp, h.bad⟩
theorem CntG.on (h : CntG f w act N i n b true) (hf : f i % 8 ≠ 7) (hb : FirstBad (fun j => act ≤ w j ∧ w j < N) (n + 1) b') : CntG f w act N (i + 1) (n + 1) b' true := by
  have h1 := h.here
  subst h1
  refine ⟨Nat.le_refl _, fun j hj => ?_, fun h2 => absurd h2 (Nat.lt_irrefl _), by simp, hb⟩
  by_cases hjn : j = n
  · subst hjn; exact hf
  · exact h.ok j (by omega)
end

theorem LaidG.step {c : Cfg} {x e i : Nat} {f w : Nat → Nat} {S : DS} (h : LaidG c x e f w i S) : LaidG c x e f w (i + 1) (execs (execs S [.st (16 + 4 * i) (sG e f i : Nat)]) [.st (16 + 4 * i + 1) (w i : Nat)]) := by
  refine ⟨?_, fun j hj => ?_, fun j h1 h2 => ?_⟩
  · rw [one_off _ _ (by omega), one_off _ _ (by omega)]; exact h.ep
  · by_cases hji : j = i
    · subst hji
      refine ⟨?_, ?_⟩
      · rw [one_off _ _ (by omega), one_on]
      · rw [show 17 + 4 * j = 16 + 4 * j + 1 by omega, one_on]
    · rw [one_off _ _ (by omega), one_off _ _ (by omega), one_off _ _ (by omega), one_off _ _ (by omega)]
      exact h.st j (by omega)
  · rw [one_off _ _ (by omega), one_off _ _ (by omega)]
    exact h.no j (by omega) h2

/-- Open finds as many as the law counts. -/
theorem LaidG.count {c : Cfg} {x e i n m act N : Nat} {f w : Nat → Nat} {S : DS} {b : Int} {cnt : Bool} (h : LaidG c x e f w i S) (hc : CntG f w act N i n b cnt) (hi : i ≤ c.log) (hm : m ≤ c.log)
    (h1 : ∀ j, j < m → goodB S.now e j = true) (h2 : m < c.log → goodB S.now e m = false) : m = n := by
  have good : ∀ j, j < i → f j % 8 ≠ 7 → goodB S.now e j = true := fun j hj hf => by
    unfold goodB
    rw [beq_iff_eq, (h.st j hj).1]
    unfold sG
    rw [if_neg hf, Nat.add_zero]
  have bad : ∀ j, j < i → f j % 8 = 7 → goodB S.now e j = false := fun j hj hf => by
    unfold goodB
    rw [beq_eq_false_iff_ne, (h.st j hj).1]
    unfold sG
    rw [if_pos hf]
    generalize stN e j = z
    omega
  have none : ∀ j, i ≤ j → j < c.log → goodB S.now e j = false := fun j hj hl => by
    unfold goodB
    rw [beq_eq_false_iff_ne, h.no j hj hl]
    unfold stN
    omega
  have hle := hc.le
  rcases Nat.lt_trichotomy m n with hlt | he | hgt
  · have := h2 (by omega)
    rw [good m (by omega) (hc.ok m hlt)] at this
    cases this
  · exact he
  · have := h1 n hgt
    rcases Nat.lt_or_ge n i with h3 | h3
    · rw [bad n h3 (hc.stop h3)] at this; cases this
    · rw [none n h3 (by omega)] at this; cases this

theorem okP_iff {c : Cfg} {n i : Nat} {f : Nat → Int} {w : Nat} (h : f (17 + 4 * i) = (w : Nat)) (hw : w < 18446744073709551616) (hn : n ≤ 20000) (ha : 0 < c.act) : okP f c n i ↔ (c.act ≤ w ∧ w < n) := by
  unfold okP
  rw [h]
  rcases Nat.lt_or_ge w 9223372036854775808 with h1 | h1
  · rw [asInt_of w h1]
    omega
  · have e : asInt (w : Int) = (w : Int) - 18446744073709551616 := by
      unfold asInt wrap64
      omega
    rw [e]
    omega

set_option maxRecDepth 100000 in
set_option maxHeartbeats 2000000 in
theorem good_great (l r s : Nat) (ep : Int) (x : Option Addr) (n cp : Nat) (y : Option Addr) (m cq : Nat) (near : Bool) (W : World) (hg : 20 < n ∨ 20 < m) :
    Calls Try.prog 6 #[c3V l r s, .int .u64 ep, .slice x n cp, .slice y m cq, .bool near] W fun e w' => e = .returned (.bool true) ∧ Below W.heap.size W w' := by
  by_cases h1 : 20 < n
  · go_enter Try.func6, Try.ntmps6
    go_wp2_with fail
    refine (awake6_any _).mono ?_
    rintro e w1 ⟨rfl, hb1⟩
    have K1 := Go.Proofs.Ythpebaghcaelcaa.Below.keeps hb1 []
    go_wp2_with fail
    go_ret
    exact ⟨rfl, (((Keeps.refl [] W).alloc _).trans K1).below (Nat.le_refl _) (by simp)⟩
  · have h2 : 20 < m := by omega
    have g1 : decide (20 < n) = false := by rw [decide_eq_false_iff_not]; omega
    have g2 : decide (20 < (n : Int)) = false := by rw [decide_eq_false_iff_not]; omega
    go_enter Try.func6, Try.ntmps6
    go_wp2_with fail
    refine (awake6_any _).mono ?_
    rintro e w1 ⟨rfl, hb1⟩
    have K1 := Go.Proofs.Ythpebaghcaelcaa.Below.keeps hb1 []
    go_wp2_with fail
    go_ret
    exact ⟨rfl, (((Keeps.refl [] W).alloc _).trans K1).below (Nat.le_refl _) (by simp)⟩

set_option maxRecDepth 100000 in
set_option maxHeartbeats 8000000 in
theorem good_small (l r s : Nat) (ep : Nat) (x : Option Addr) (n cp : Nat) (f : Nat → Nat) (y : Option Addr) (m cq : Nat) (g : Nat → Nat) (near : Bool) (W : World) (hl : l ≤ 65535) (hr : r ≤ 65535) (hs : s ≤ 65535) (he : ep < 18446744073709551616) (hn : n ≤ 20) (hm : m ≤ 20)
    (hR : ReadsV (Value.int .u8) W x n (fun i => (f i : Int))) (hfb : ∀ i, i < n → f i ≤ 255) (hY : Reads W y m (fun i => (g i : Int))) (hgb : ∀ i, i < m → g i < 18446744073709551616) :
    Calls Try.prog 6 #[c3V l r s, .int .u64 ep, .slice x n cp, .slice y m cq, .bool near] W fun e w' => e = .returned (.bool true) ∧ Below W.heap.size W w' := by
  have g1 : decide (20 < n) = false := by rw [decide_eq_false_iff_not]; omega
  have g2 : decide (20 < (n : Int)) = false := by rw [decide_eq_false_iff_not]; omega
  have g3 : decide (20 < m) = false := by rw [decide_eq_false_iff_not]; omega
  have g4 : decide (20 < (m : Int)) = false := by rw [decide_eq_false_iff_not]; omega
  have hni : (n : Int) ≤ 20 := by omega
  have hmi : (m : Int) ≤ 20 := by omega
  have hei : (ep : Int) < 18446744073709551616 := by omega
  have HR := hid hR
  have HF := hid hfb
  have HY := hid hY
  have HG := hid hgb
  clear hR hfb hY hgb
  go_enter Try.func6, Try.ntmps6
  go_wp2_with fail
  have hB0 := At.new W (c3O l r s)
  have K0 := (Keeps.refl [] W).alloc (c3O l r s)
  refine (awake6_any _).mono ?_
  rintro e w1 ⟨rfl, hb1⟩
  have k1 := Go.Proofs.Ythpebaghcaelcaa.Below.keeps hb1 []
  have K1 := K0.trans k1
  have hB1 := k1.at hB0 (by simp)
  clear hb1 k1 hB0 K0
  have c0 : w1.cell? ⟨W.heap.size, 0, none⟩ = some (.int .u16 l) := hB1.cell 0 rfl
  have c1 : w1.cell? ⟨W.heap.size, 1, none⟩ = some (.int .u16 r) := hB1.cell 1 rfl
  have c2 : w1.cell? ⟨W.heap.size, 2, none⟩ = some (.int .u16 s) := hB1.cell 2 rfl
  go_wp2_with fail
  refine (make3_at w1 l r s hl hr hs).mono ?_
  rintro e w2 ⟨rfl, hk2⟩
  have K2 := K1.trans hk2
  have hok := mk3_ok l r s
  obtain ⟨c, hc⟩ : ∃ c, c = mk3 l r s := ⟨_, rfl⟩
  rw [← hc] at hok ⊢
  clear hc c0 c1 c2 hB1 hk2 K1
  go_wp2_with fail
  have hC3 := At.new w2 (cfgO c)
  have K3 := K2.alloc (cfgO c)
  have hz2 := K2.size
  obtain ⟨cb, hcb⟩ : ∃ cb, cb = w2.heap.size := ⟨_, rfl⟩
  rw [← hcb] at hC3 hz2 ⊢
  have HCB := hid hcb
  clear hcb K2
  refine (formatted_at _ c hok none 0 0 (fun _ => 0) (.inl rfl) (by omega)).mono ?_
  rintro e w4 ⟨p, a, u, S, rfl, haN, hP, hu, hW, hkp, his, ⟨b1, b2, b3, b4, b5⟩, hk4⟩
  simp only [World.size_alloc] at b1 b2 b3 b4 b5
  rw [← HCB.out] at b1 b2 b3 b4 b5
  have hC4 := hk4.at hC3 (by simp)
  have K4 := K3.trans hk4
  have hci := c_in hok haN
  have hLI := LI.fresh (fun _ => 0) (fun _ => 0) hok haN hW hkp his
  have HN := hid haN
  have HO := hid hok
  have HLI := hid hLI
  have HKP := hid (And.intro hkp his)
  have h0 := hP.lo
  clear haN hok hkp his hW hC3 K3 hk4 hLI
  have c0 := hC4.cell 0 rfl
  have c1 := hC4.cell 1 rfl
  have c2 := hC4.cell 2 rfl
  have hz4 : W.heap.size ≤ w4.heap.size := K4.size
  have hcT : cb ∉ [p, a.s, a.k, a.m] := by simp; omega
  have hWT : ∀ b ∈ [p, a.s, a.k, a.m], b ∈ ([] : List Nat) ∨ W.heap.size ≤ b := by simp; omega
  clear c0 c1 c2
  go_wp2_with fail
  refine (store_ran w4 p a (-1) u S 8 ep hP hci.2.1 (by omega)).mono ?_
  intro e w5 hr5
  obtain ⟨rfl, hP5, hk5⟩ := hr5.free h0
  have hC5 := hk5.at hC4 hcT
  have K5 : Keeps [] W w5 := K4.new hk5 hWT
  have HLG := hid (show LaidG c ep (epN ep) f (wG m (a.n + 10) near g) 0 (execs S [.st 8 ep]) from ⟨one_on _ _ _, fun _ hj => absurd hj (Nat.not_lt_zero _), fun j _ hj => by
    rw [one_off _ _ (by omega)]
    rcases (HLI.out.1.old j (Nat.zero_le _) hj).1 with h | ⟨r', h, _⟩
    · exact h
    · omega⟩)
  clear hr5 hP hk5 hC4 K4
  obtain ⟨q, hq⟩ : ∃ q, q = min n c.log := ⟨_, rfl⟩
  have hqn : q ≤ n := by omega
  have hql : q ≤ c.log := by omega
  have HQ := hid hq
  have hqi : (q : Int) ≤ 20 := by omega
  clear hq
  have c0 := hC5.cell 0 rfl
  go_upto_region 12 with fail
  go_cut [47, 48] from 43 to 46 (fun s47 s48 wx => s47 = .int .i64 q ∧ s48 = .int .i64 0 ∧ wx = w5)
  case first =>
    by_cases hle : n ≤ c.log
    · obtain rfl : q = n := by have := HQ.out; omega
      have t1 : (q : Int) ≤ (c.log : Int) := by omega
      go_wp2_with fail
      all_goals
        go_meet
        first
          | exact ⟨rfl, rfl, rfl⟩
          | (refine ⟨?_, rfl, rfl⟩; congr 1; have := HQ.out; omega)
    · have t1 : (c.log : Int) < (n : Int) := by omega
      have t2 : c.log < n := by omega
      go_wp2_with fail
      all_goals
        go_meet
        first
          | exact ⟨rfl, rfl, rfl⟩
          | (refine ⟨?_, rfl, rfl⟩; congr 1; have := HQ.out; omega)
  case rest =>
    obtain ⟨rfl, rfl, rfl⟩ := hcut
    clear c0
    have hlo := hP5.lo
    go_wp2_with fail
    go_loopg [14, 15, 16, 48] q (fun r s14 s15 s16 s48 wr => ∃ (i k : Nat) (b : Int) (cnt : Bool), i + r = q ∧ s48 = .int .i64 i ∧ s14 = .int .i64 k ∧ s15 = .int .i64 b ∧ s16 = .bool cnt ∧ CntG f (wG m (a.n + 10) near g) c.act a.n i k b cnt ∧ (∃ u' S', Pw wr p a (-1) u' S' ∧ LaidG c ep (epN ep) f (wG m (a.n + 10) near g) i S' ∧ u' ≤ 110000 + 2 * (i : Int)) ∧ Keeps [p, a.s, a.k, a.m] wc wr)
    case atStart => exact ⟨0, 0, -1, true, by omega, rfl, rfl, rfl, rfl, ⟨Nat.le_refl _, fun _ hj => absurd hj (Nat.not_lt_zero _), fun h => absurd h (Nat.not_lt_zero _), rfl, .inl ⟨rfl, fun _ hj => absurd hj (Nat.not_lt_zero _)⟩⟩, ⟨_, _, hP5, HLG.out, by simp; omega⟩, Keeps.refl _ _⟩
    case round =>
      obtain ⟨i, k, b, cnt, hi, rfl, rfl, rfl, rfl, hcn, ⟨u', S', hPi, hlg, hui⟩, hK⟩ := hrel
      have hCi := hK.at hC5 hcT
      have KW : Keeps [] W wr := K5.new hK hWT
      have HCN := hid hcn
      have HLGi := hid hlg
      have hii : (i : Int) ≤ 20 := by omega
      have hki : (k : Int) ≤ 20 := by have := hcn.le; omega
      clear hcn hlg
      by_cases hlt : i < q
      · obtain ⟨bx, off, rfl, hbl, hcl⟩ : ∃ b off, x = some ⟨b, off, none⟩ ∧ b < W.heap.size ∧ W.cell? ⟨b, off + i, none⟩ = some (.int .u8 (f i : Nat)) := by
          rcases HR.out with h | ⟨b, off, h1, h2, h3⟩
          · omega
          · exact ⟨b, off, h1, h2, h3 i (by omega)⟩
        have d0 := (KW.cell (p := ⟨bx, off + i, none⟩) hbl (by simp)).trans hcl
        obtain ⟨z, hz⟩ : ∃ z, z = f i := ⟨_, rfl⟩
        have hzb : (z : Int) ≤ 255 := by have := HF.out i (by omega); omega
        rw [← hz] at d0
        have hcl' := hcl
        rw [← hz] at hcl'
        obtain ⟨E, hE⟩ : ∃ E, E = epN ep := ⟨_, rfl⟩
        have hEb : (E : Int) < 4294967296 := by have := epN_lt ep; omega
        have hand := ep_and ep he
        rw [← hE] at hand
        obtain ⟨y8, hy8⟩ : ∃ y8, y8 = z % 8 := ⟨_, rfl⟩
        have ey1 : (z : Int) % 8 = (y8 : Int) := by omega
        have ey2 : (z : Int).tmod 8 = (y8 : Int) := by rw [Int.tmod_eq_emod_of_nonneg (by omega)]; exact ey1
        obtain ⟨d8, hd8⟩ : ∃ d8, d8 = z / 8 := ⟨_, rfl⟩
        have ed1 : (z : Int) / 8 = (d8 : Int) := by omega
        have ed2 : (z : Int).tdiv 8 = (d8 : Int) := by rw [Int.tdiv_eq_ediv_of_nonneg (by omega)]; exact ed1
        have hdb : (d8 : Int) ≤ 31 := by omega
        have hyb : (y8 : Int) ≤ 7 := by omega
        have HZ := hid (And.intro hz (And.intro hE (And.intro hy8 hd8)))
        clear hz hE hy8 hd8 hcl
        have HDZ := hid (show W.cell? ⟨bx, off + i, none⟩ = some (.int .u8 (z : Nat)) from hcl')
        obtain ⟨D, hD⟩ : ∃ D, D = a.n + 10 := ⟨_, rfl⟩
        have eD1 : IntKind.i64.wrap ((a.n : Int) + 10) = (D : Int) := by rw [IntWalk.i64_in _ (by omega)]; omega
        have eD2 : (a.n : Int) + 10 = (D : Int) := by omega
        have hD1 : ¬ D = 0 := by omega
        have hD2 : ¬ (D : Int) = 0 := by omega
        have hDb : (D : Int) ≤ 20000 := by omega
        have HDD := hid hD
        have HII := hid hi
        have hai : (c.act : Int) ≤ 823 := by have := act_le HO.out.small; omega
        have han : (a.n : Int) ≤ 15000 := by omega
        have c0 := hCi.cell 0 rfl
        have c1 := hCi.cell 1 rfl
        have c2 := hCi.cell 2 rfl
        clear hD hi
        by_cases h7 : y8 = 7
        · have t1 : ((y8 : Int) == 7) = true := by rw [beq_iff_eq]; omega
          have t2 : (y8 == 7) = true := by rw [beq_iff_eq]; exact h7
          have H7 := hid h7
          clear h7
          by_cases him : i < m
          · obtain ⟨by', offy, rfl, hbly, hcly⟩ : ∃ b off, y = some ⟨b, off, none⟩ ∧ b < W.heap.size ∧ W.cell? ⟨b, off + i, none⟩ = some (.int .u64 (g i : Nat)) := by
              rcases HY.out with h | ⟨b, off, h1, h2, h3⟩
              · omega
              · exact ⟨b, off, h1, h2, h3 i him⟩
            have e0 := (KW.cell (p := ⟨by', offy + i, none⟩) hbly (by simp)).trans hcly
            have t3 : decide (i < m) = true := by rw [decide_eq_true_eq]; exact him
            have t4 : decide ((i : Int) < (m : Int)) = true := by rw [decide_eq_true_eq]; omega
            obtain ⟨v, hv⟩ : ∃ v, v = g i := ⟨_, rfl⟩
            rw [← hv] at e0
            have HV := hid hv
            have HIM := hid him
            have himI : (i : Int) < (m : Int) := by omega
            clear hv hcly
            cases near
            · go_wp2_with fail
              clear hand hei hEb
              have hsv : Hid ((E : Int) * 4294967296 + (i : Int) + 1 + ((d8 : Int) + 1) = ((sG (epN ep) f i : Nat) : Int)) := by
                show _ = _
                have hz := HZ.out
                have h7 := H7.out
                unfold sG stN
                rw [← hz.1, ← hz.2.1, if_pos (by omega), ← hz.2.2.2]
                omega
              have hwv : Hid ((v : Int) = ((wG m (a.n + 10) false g i : Nat) : Int)) := by
                show _ = _
                unfold wG
                rw [if_pos HIM.out, HV.out]
                rfl
              clear d0 t1 t2 t3 t4 e0
              refine (record_at _ c.log c.roots c.space i (by omega)).mono ?_
              rintro e w6 ⟨rfl, hk6⟩
              have hP6 := hPi.keep0 hk6
              have hC6 := hk6.at hCi (by simp)
              clear c0 c1 c2
              go_wp2_with fail
              refine (store_ran w6 p a (-1) u' S' (16 + 4 * i) _ hP6 (by omega) (by omega)).mono ?_
              intro e w7 hr7
              obtain ⟨rfl, hP7, hk7⟩ := hr7.free hP6.lo
              have hC7 := hk7.at hC6 hcT
              rw [hsv.out] at hP7
              have K7 := (hK.trans (hk6.mono (by simp))).trans hk7
              clear hr7 hC6 hP6 hk6 hk7
              have c0 := hC7.cell 0 rfl
              have c1 := hC7.cell 1 rfl
              have c2 := hC7.cell 2 rfl
              go_wp2_with fail
              refine (record_at w7 c.log c.roots c.space i (by omega)).mono ?_
              rintro e w8 ⟨rfl, hk8⟩
              have hP8 := hP7.keep0 hk8
              have hC8 := hk8.at hC7 (by simp)
              clear c0 c1 c2
              go_wp2_with fail
              refine (store_ran w8 p a (-1) _ _ (16 + 4 * i + 1) _ hP8 (by omega) (by simp; omega)).mono ?_
              intro e w9 hr9
              obtain ⟨rfl, hP9, hk9⟩ := hr9.free hP8.lo
              have hC9 := hk9.at hC8 hcT
              rw [hwv.out] at hP9
              have HL9 := hid HLGi.out.step
              have K9 := (K7.trans (hk8.mono (by simp))).trans hk9
              have d0 := ((K5.new K9 hWT).cell (p := ⟨bx, off + i, none⟩) hbl (by simp)).trans HDZ.out
              clear hr9 hC8 hP8 hP7 hC7 hk8 hk9 hsv K7
              have hP10 := hP9
              have HUB := hid hui
              clear hP9
              have t1 : ((y8 : Int) == 7) = true := by rw [beq_iff_eq]; have := H7.out; omega
              have t2 : (y8 == 7) = true := by rw [beq_iff_eq]; exact H7.out
              cases cnt
              · go_wp2_with fail
                go_roundg (q - (i + 1))
                case measure => have := HII.out; omega
                case rel => exact ⟨i + 1, k, b, false, by have := HII.out; omega, by go_num, by go_num, rfl, (by first | rfl | (rw [bne, t1]; first | done | rfl)), HCN.out.no, ⟨_, _, hP10, HL9.out, by have := HUB.out; simp; omega⟩, K9⟩
              · go_wp2_with fail
                go_roundg (q - (i + 1))
                case measure => have := HII.out; omega
                case rel => exact ⟨i + 1, k, b, false, by have := HII.out; omega, by go_num, by go_num, rfl, (by first | rfl | (rw [bne, t1]; first | done | rfl)), HCN.out.halt (by have := HZ.out; have := H7.out; omega), ⟨_, _, hP10, HL9.out, by have := HUB.out; simp; omega⟩, K9⟩
            · obtain ⟨vm, hvm⟩ : ∃ vm, vm = v % D := ⟨_, rfl⟩
              have ev1 : (v : Int) % (D : Int) = (vm : Int) := by rw [hvm]; simp
              have ev2 : (v : Int).tmod (D : Int) = (vm : Int) := by rw [Int.tmod_eq_emod_of_nonneg (by omega)]; exact ev1
              have HVM := hid hvm
              have HLN := hid (len_at wr p a S' hPi.dev)
              have hvmb : (vm : Int) ≤ 20000 := by have := Nat.mod_lt v (show 0 < D by omega); omega
              clear hvm
              go_wp2_with fail
              refine HLN.out.mono ?_
              rintro e w5' ⟨rfl, rfl⟩
              go_wp2_with fail
              clear hand hei hEb
              have hsv : Hid ((E : Int) * 4294967296 + (i : Int) + 1 + ((d8 : Int) + 1) = ((sG (epN ep) f i : Nat) : Int)) := by
                show _ = _
                have hz := HZ.out
                have h7 := H7.out
                unfold sG stN
                rw [← hz.1, ← hz.2.1, if_pos (by omega), ← hz.2.2.2]
                omega
              have hwv : Hid ((vm : Int) = ((wG m (a.n + 10) true g i : Nat) : Int)) := by
                show _ = _
                unfold wG
                rw [if_pos HIM.out, HVM.out, HV.out, HDD.out]
                rfl
              clear d0 t1 t2 t3 t4 e0 ev1 ev2
              refine (record_at _ c.log c.roots c.space i (by omega)).mono ?_
              rintro e w6 ⟨rfl, hk6⟩
              have hP6 := hPi.keep0 hk6
              have hC6 := hk6.at hCi (by simp)
              clear c0 c1 c2
              go_wp2_with fail
              refine (store_ran w6 p a (-1) u' S' (16 + 4 * i) _ hP6 (by omega) (by omega)).mono ?_
              intro e w7 hr7
              obtain ⟨rfl, hP7, hk7⟩ := hr7.free hP6.lo
              have hC7 := hk7.at hC6 hcT
              rw [hsv.out] at hP7
              have K7 := (hK.trans (hk6.mono (by simp))).trans hk7
              clear hr7 hC6 hP6 hk6 hk7
              have c0 := hC7.cell 0 rfl
              have c1 := hC7.cell 1 rfl
              have c2 := hC7.cell 2 rfl
              go_wp2_with fail
              refine (record_at w7 c.log c.roots c.space i (by omega)).mono ?_
              rintro e w8 ⟨rfl, hk8⟩
              have hP8 := hP7.keep0 hk8
              have hC8 := hk8.at hC7 (by simp)
              clear c0 c1 c2
              go_wp2_with fail
              refine (store_ran w8 p a (-1) _ _ (16 + 4 * i + 1) _ hP8 (by omega) (by simp; omega)).mono ?_
              intro e w9 hr9
              obtain ⟨rfl, hP9, hk9⟩ := hr9.free hP8.lo
              have hC9 := hk9.at hC8 hcT
              rw [hwv.out] at hP9
              have HL9 := hid HLGi.out.step
              have K9 := (K7.trans (hk8.mono (by simp))).trans hk9
              have d0 := ((K5.new K9 hWT).cell (p := ⟨bx, off + i, none⟩) hbl (by simp)).trans HDZ.out
              clear hr9 hC8 hP8 hP7 hC7 hk8 hk9 hsv K7
              have hP10 := hP9
              have HUB := hid hui
              clear hP9
              have t1 : ((y8 : Int) == 7) = true := by rw [beq_iff_eq]; have := H7.out; omega
              have t2 : (y8 == 7) = true := by rw [beq_iff_eq]; exact H7.out
              cases cnt
              · go_wp2_with fail
                go_roundg (q - (i + 1))
                case measure => have := HII.out; omega
                case rel => exact ⟨i + 1, k, b, false, by have := HII.out; omega, by go_num, by go_num, rfl, (by first | rfl | (rw [bne, t1]; first | done | rfl)), HCN.out.no, ⟨_, _, hP10, HL9.out, by have := HUB.out; simp; omega⟩, K9⟩
              · go_wp2_with fail
                go_roundg (q - (i + 1))
                case measure => have := HII.out; omega
                case rel => exact ⟨i + 1, k, b, false, by have := HII.out; omega, by go_num, by go_num, rfl, (by first | rfl | (rw [bne, t1]; first | done | rfl)), HCN.out.halt (by have := HZ.out; have := H7.out; omega), ⟨_, _, hP10, HL9.out, by have := HUB.out; simp; omega⟩, K9⟩
          · have t3 : decide (i < m) = false := by rw [decide_eq_false_iff_not]; exact him
            have t4 : decide ((i : Int) < (m : Int)) = false := by rw [decide_eq_false_iff_not]; omega
            have HIM := hid him
            clear him
            go_wp2_with fail
            clear hand hei hEb
            have hsv : Hid ((E : Int) * 4294967296 + (i : Int) + 1 + ((d8 : Int) + 1) = ((sG (epN ep) f i : Nat) : Int)) := by
              show _ = _
              have hz := HZ.out
              have h7 := H7.out
              unfold sG stN
              rw [← hz.1, ← hz.2.1, if_pos (by omega), ← hz.2.2.2]
              omega
            have hwv : Hid ((0 : Int) = ((wG m (a.n + 10) near g i : Nat) : Int)) := by
              show _ = _
              unfold wG
              rw [if_neg HIM.out]
              rfl
            clear d0 t1 t2 t3 t4
            refine (record_at _ c.log c.roots c.space i (by omega)).mono ?_
            rintro e w6 ⟨rfl, hk6⟩
            have hP6 := hPi.keep0 hk6
            have hC6 := hk6.at hCi (by simp)
            clear c0 c1 c2
            go_wp2_with fail
            refine (store_ran w6 p a (-1) u' S' (16 + 4 * i) _ hP6 (by omega) (by omega)).mono ?_
            intro e w7 hr7
            obtain ⟨rfl, hP7, hk7⟩ := hr7.free hP6.lo
            have hC7 := hk7.at hC6 hcT
            rw [hsv.out] at hP7
            have K7 := (hK.trans (hk6.mono (by simp))).trans hk7
            clear hr7 hC6 hP6 hk6 hk7
            have c0 := hC7.cell 0 rfl
            have c1 := hC7.cell 1 rfl
            have c2 := hC7.cell 2 rfl
            go_wp2_with fail
            refine (record_at w7 c.log c.roots c.space i (by omega)).mono ?_
            rintro e w8 ⟨rfl, hk8⟩
            have hP8 := hP7.keep0 hk8
            have hC8 := hk8.at hC7 (by simp)
            clear c0 c1 c2
            go_wp2_with fail
            refine (store_ran w8 p a (-1) _ _ (16 + 4 * i + 1) _ hP8 (by omega) (by simp; omega)).mono ?_
            intro e w9 hr9
            obtain ⟨rfl, hP9, hk9⟩ := hr9.free hP8.lo
            have hC9 := hk9.at hC8 hcT
            rw [hwv.out] at hP9
            have HL9 := hid HLGi.out.step
            have K9 := (K7.trans (hk8.mono (by simp))).trans hk9
            have d0 := ((K5.new K9 hWT).cell (p := ⟨bx, off + i, none⟩) hbl (by simp)).trans HDZ.out
            clear hr9 hC8 hP8 hP7 hC7 hk8 hk9 hsv K7
            have hP10 := hP9
            have HUB := hid hui
            clear hP9
            have t1 : ((y8 : Int) == 7) = true := by rw [beq_iff_eq]; have := H7.out; omega
            have t2 : (y8 == 7) = true := by rw [beq_iff_eq]; exact H7.out
            cases cnt
            · go_wp2_with fail
              go_roundg (q - (i + 1))
              case measure => have := HII.out; omega
              case rel => exact ⟨i + 1, k, b, false, by have := HII.out; omega, by go_num, by go_num, rfl, (by first | rfl | (rw [bne, t1]; first | done | rfl)), HCN.out.no, ⟨_, _, hP10, HL9.out, by have := HUB.out; simp; omega⟩, K9⟩
            · go_wp2_with fail
              go_roundg (q - (i + 1))
              case measure => have := HII.out; omega
              case rel => exact ⟨i + 1, k, b, false, by have := HII.out; omega, by go_num, by go_num, rfl, (by first | rfl | (rw [bne, t1]; first | done | rfl)), HCN.out.halt (by have := HZ.out; have := H7.out; omega), ⟨_, _, hP10, HL9.out, by have := HUB.out; simp; omega⟩, K9⟩
        · have t1 : ((y8 : Int) == 7) = false := by rw [beq_eq_false_iff_ne]; omega
          have t2 : (y8 == 7) = false := by rw [beq_eq_false_iff_ne]; exact h7
          have H7 := hid h7
          clear h7
          by_cases him : i < m
          · obtain ⟨by', offy, rfl, hbly, hcly⟩ : ∃ b off, y = some ⟨b, off, none⟩ ∧ b < W.heap.size ∧ W.cell? ⟨b, off + i, none⟩ = some (.int .u64 (g i : Nat)) := by
              rcases HY.out with h | ⟨b, off, h1, h2, h3⟩
              · omega
              · exact ⟨b, off, h1, h2, h3 i him⟩
            have e0 := (KW.cell (p := ⟨by', offy + i, none⟩) hbly (by simp)).trans hcly
            have t3 : decide (i < m) = true := by rw [decide_eq_true_eq]; exact him
            have t4 : decide ((i : Int) < (m : Int)) = true := by rw [decide_eq_true_eq]; omega
            obtain ⟨v, hv⟩ : ∃ v, v = g i := ⟨_, rfl⟩
            rw [← hv] at e0
            have HV := hid hv
            have HIM := hid him
            have himI : (i : Int) < (m : Int) := by omega
            clear hv hcly
            cases near
            · go_wp2_with fail
              clear hand hei hEb
              have hsv : Hid ((E : Int) * 4294967296 + (i : Int) + 1 = ((sG (epN ep) f i : Nat) : Int)) := by
                show _ = _
                have hz := HZ.out
                have h7 := H7.out
                unfold sG stN
                rw [← hz.1, ← hz.2.1, if_neg (by omega)]
                omega
              have hwv : Hid ((v : Int) = ((wG m (a.n + 10) false g i : Nat) : Int)) := by
                show _ = _
                unfold wG
                rw [if_pos HIM.out, HV.out]
                rfl
              clear d0 t1 t2 t3 t4 e0
              refine (record_at _ c.log c.roots c.space i (by omega)).mono ?_
              rintro e w6 ⟨rfl, hk6⟩
              have hP6 := hPi.keep0 hk6
              have hC6 := hk6.at hCi (by simp)
              clear c0 c1 c2
              go_wp2_with fail
              refine (store_ran w6 p a (-1) u' S' (16 + 4 * i) _ hP6 (by omega) (by omega)).mono ?_
              intro e w7 hr7
              obtain ⟨rfl, hP7, hk7⟩ := hr7.free hP6.lo
              have hC7 := hk7.at hC6 hcT
              rw [hsv.out] at hP7
              have K7 := (hK.trans (hk6.mono (by simp))).trans hk7
              clear hr7 hC6 hP6 hk6 hk7
              have c0 := hC7.cell 0 rfl
              have c1 := hC7.cell 1 rfl
              have c2 := hC7.cell 2 rfl
              go_wp2_with fail
              refine (record_at w7 c.log c.roots c.space i (by omega)).mono ?_
              rintro e w8 ⟨rfl, hk8⟩
              have hP8 := hP7.keep0 hk8
              have hC8 := hk8.at hC7 (by simp)
              clear c0 c1 c2
              go_wp2_with fail
              refine (store_ran w8 p a (-1) _ _ (16 + 4 * i + 1) _ hP8 (by omega) (by simp; omega)).mono ?_
              intro e w9 hr9
              obtain ⟨rfl, hP9, hk9⟩ := hr9.free hP8.lo
              have hC9 := hk9.at hC8 hcT
              rw [hwv.out] at hP9
              have HL9 := hid HLGi.out.step
              have K9 := (K7.trans (hk8.mono (by simp))).trans hk9
              have d0 := ((K5.new K9 hWT).cell (p := ⟨bx, off + i, none⟩) hbl (by simp)).trans HDZ.out
              clear hr9 hC8 hP8 hP7 hC7 hk8 hk9 hsv K7
              have hP10 := hP9
              have HUB := hid hui
              clear hP9
              have t1 : ((y8 : Int) == 7) = false := by rw [beq_eq_false_iff_ne]; have := H7.out; omega
              have t2 : (y8 == 7) = false := by rw [beq_eq_false_iff_ne]; exact H7.out
              cases cnt
              · go_wp2_with fail
                go_roundg (q - (i + 1))
                case measure => have := HII.out; omega
                case rel => exact ⟨i + 1, k, b, false, by have := HII.out; omega, by go_num, by go_num, rfl, (by first | rfl | (rw [bne, t1]; first | done | rfl)), HCN.out.no, ⟨_, _, hP10, HL9.out, by have := HUB.out; simp; omega⟩, K9⟩
              · have hn7 : Hid (f i % 8 ≠ 7) := by show _ ≠ _; have := HZ.out; have := H7.out; omega
                have c0 := hC9.cell 0 rfl
                have c1 := hC9.cell 1 rfl
                have c2 := hC9.cell 2 rfl
                by_cases hb0 : 0 ≤ b
                · have tb : decide (b < 0) = false := by rw [decide_eq_false_iff_not]; omega
                  have HB0 := hid hb0
                  clear hb0
                  go_wp2_with fail
                  go_roundg (q - (i + 1))
                  case measure => have := HII.out; omega
                  case rel => exact ⟨i + 1, k + 1, b, true, by have := HII.out; omega, by go_num, by go_num, rfl, (by first | rfl | (rw [bne, t1]; first | done | rfl)), HCN.out.on hn7.out (HCN.out.bad.keep HB0.out), ⟨_, _, hP10, HL9.out, by have := HUB.out; simp; omega⟩, K9⟩
                · have hbm : b = -1 := by
                    rcases HCN.out.bad with ⟨h, _⟩ | ⟨j, _, h, _⟩
                    · exact h
                    · omega
                  subst hbm
                  have hwe := hwv.out
                  by_cases hw1 : v < c.act
                  · have tw1 : decide ((v : Int) < (c.act : Int)) = true := by rw [decide_eq_true_eq]; omega
                    have tw2 : decide (v < c.act) = true := by rw [decide_eq_true_eq]; omega
                    have HBW := hid (show ¬ (c.act ≤ wG m (a.n + 10) false g i ∧ wG m (a.n + 10) false g i < a.n) by omega)
                    clear hwe hw1
                    go_wp2_with fail
                    refine (active_at w9 c HO.out.small).mono ?_
                    rintro e w10 ⟨rfl, hk10⟩
                    have hP11 := hP10.keep0 hk10
                    have K11 := K9.trans (hk10.mono (by simp))
                    clear c0 c1 c2
                    go_wp2_with fail
                    go_roundg (q - (i + 1))
                    case measure => have := HII.out; omega
                    case rel => exact ⟨i + 1, k + 1, i, true, by have := HII.out; omega, by go_num, by go_num, rfl, (by first | rfl | (rw [bne, t1]; first | done | rfl)), HCN.out.on hn7.out (HCN.out.bad.worse HCN.out.here HBW.out), ⟨_, _, hP11, HL9.out, by have := HUB.out; simp; omega⟩, K11⟩
                  · have tw1 : decide ((v : Int) < (c.act : Int)) = false := by rw [decide_eq_false_iff_not]; omega
                    have tw2 : decide (v < c.act) = false := by rw [decide_eq_false_iff_not]; omega
                    by_cases hw2 : a.n ≤ v
                    · have tw3 : decide ((a.n : Int) ≤ (v : Int)) = true := by rw [decide_eq_true_eq]; omega
                      have tw4 : decide (a.n ≤ v) = true := by rw [decide_eq_true_eq]; omega
                      have HBW := hid (show ¬ (c.act ≤ wG m (a.n + 10) false g i ∧ wG m (a.n + 10) false g i < a.n) by omega)
                      clear hwe hw1 hw2
                      go_wp2_with fail
                      refine (active_at w9 c HO.out.small).mono ?_
                      rintro e w10 ⟨rfl, hk10⟩
                      have hP11 := hP10.keep0 hk10
                      have K11 := K9.trans (hk10.mono (by simp))
                      clear c0 c1 c2
                      go_wp2_with fail
                      refine (len_at w10 p a _ hP11.dev).mono ?_
                      rintro e w11 ⟨rfl, rfl⟩
                      go_wp2_with fail
                      go_roundg (q - (i + 1))
                      case measure => have := HII.out; omega
                      case rel => exact ⟨i + 1, k + 1, i, true, by have := HII.out; omega, by go_num, by go_num, rfl, (by first | rfl | (rw [bne, t1]; first | done | rfl)), HCN.out.on hn7.out (HCN.out.bad.worse HCN.out.here HBW.out), ⟨_, _, hP11, HL9.out, by have := HUB.out; simp; omega⟩, K11⟩
                    · have tw3 : decide ((a.n : Int) ≤ (v : Int)) = false := by rw [decide_eq_false_iff_not]; omega
                      have tw4 : decide (a.n ≤ v) = false := by rw [decide_eq_false_iff_not]; omega
                      have HBW := hid (show c.act ≤ wG m (a.n + 10) false g i ∧ wG m (a.n + 10) false g i < a.n by omega)
                      clear hwe hw1 hw2
                      go_wp2_with fail
                      refine (active_at w9 c HO.out.small).mono ?_
                      rintro e w10 ⟨rfl, hk10⟩
                      have hP11 := hP10.keep0 hk10
                      have K11 := K9.trans (hk10.mono (by simp))
                      clear c0 c1 c2
                      go_wp2_with fail
                      refine (len_at w10 p a _ hP11.dev).mono ?_
                      rintro e w11 ⟨rfl, rfl⟩
                      go_wp2_with fail
                      go_roundg (q - (i + 1))
                      case measure => have := HII.out; omega
                      case rel => exact ⟨i + 1, k + 1, -1, true, by have := HII.out; omega, by go_num, by go_num, rfl, (by first | rfl | (rw [bne, t1]; first | done | rfl)), HCN.out.on hn7.out (HCN.out.bad.still HCN.out.here HBW.out), ⟨_, _, hP11, HL9.out, by have := HUB.out; simp; omega⟩, K11⟩
            · obtain ⟨vm, hvm⟩ : ∃ vm, vm = v % D := ⟨_, rfl⟩
              have ev1 : (v : Int) % (D : Int) = (vm : Int) := by rw [hvm]; simp
              have ev2 : (v : Int).tmod (D : Int) = (vm : Int) := by rw [Int.tmod_eq_emod_of_nonneg (by omega)]; exact ev1
              have HVM := hid hvm
              have HLN := hid (len_at wr p a S' hPi.dev)
              have hvmb : (vm : Int) ≤ 20000 := by have := Nat.mod_lt v (show 0 < D by omega); omega
              clear hvm
              go_wp2_with fail
              refine HLN.out.mono ?_
              rintro e w5' ⟨rfl, rfl⟩
              go_wp2_with fail
              clear hand hei hEb
              have hsv : Hid ((E : Int) * 4294967296 + (i : Int) + 1 = ((sG (epN ep) f i : Nat) : Int)) := by
                show _ = _
                have hz := HZ.out
                have h7 := H7.out
                unfold sG stN
                rw [← hz.1, ← hz.2.1, if_neg (by omega)]
                omega
              have hwv : Hid ((vm : Int) = ((wG m (a.n + 10) true g i : Nat) : Int)) := by
                show _ = _
                unfold wG
                rw [if_pos HIM.out, HVM.out, HV.out, HDD.out]
                rfl
              clear d0 t1 t2 t3 t4 e0 ev1 ev2
              refine (record_at _ c.log c.roots c.space i (by omega)).mono ?_
              rintro e w6 ⟨rfl, hk6⟩
              have hP6 := hPi.keep0 hk6
              have hC6 := hk6.at hCi (by simp)
              clear c0 c1 c2
              go_wp2_with fail
              refine (store_ran w6 p a (-1) u' S' (16 + 4 * i) _ hP6 (by omega) (by omega)).mono ?_
              intro e w7 hr7
              obtain ⟨rfl, hP7, hk7⟩ := hr7.free hP6.lo
              have hC7 := hk7.at hC6 hcT
              rw [hsv.out] at hP7
              have K7 := (hK.trans (hk6.mono (by simp))).trans hk7
              clear hr7 hC6 hP6 hk6 hk7
              have c0 := hC7.cell 0 rfl
              have c1 := hC7.cell 1 rfl
              have c2 := hC7.cell 2 rfl
              go_wp2_with fail
              refine (record_at w7 c.log c.roots c.space i (by omega)).mono ?_
              rintro e w8 ⟨rfl, hk8⟩
              have hP8 := hP7.keep0 hk8
              have hC8 := hk8.at hC7 (by simp)
              clear c0 c1 c2
              go_wp2_with fail
              refine (store_ran w8 p a (-1) _ _ (16 + 4 * i + 1) _ hP8 (by omega) (by simp; omega)).mono ?_
              intro e w9 hr9
              obtain ⟨rfl, hP9, hk9⟩ := hr9.free hP8.lo
              have hC9 := hk9.at hC8 hcT
              rw [hwv.out] at hP9
              have HL9 := hid HLGi.out.step
              have K9 := (K7.trans (hk8.mono (by simp))).trans hk9
              have d0 := ((K5.new K9 hWT).cell (p := ⟨bx, off + i, none⟩) hbl (by simp)).trans HDZ.out
              clear hr9 hC8 hP8 hP7 hC7 hk8 hk9 hsv K7
              have hP10 := hP9
              have HUB := hid hui
              clear hP9
              have t1 : ((y8 : Int) == 7) = false := by rw [beq_eq_false_iff_ne]; have := H7.out; omega
              have t2 : (y8 == 7) = false := by rw [beq_eq_false_iff_ne]; exact H7.out
              cases cnt
              · go_wp2_with fail
                go_roundg (q - (i + 1))
                case measure => have := HII.out; omega
                case rel => exact ⟨i + 1, k, b, false, by have := HII.out; omega, by go_num, by go_num, rfl, (by first | rfl | (rw [bne, t1]; first | done | rfl)), HCN.out.no, ⟨_, _, hP10, HL9.out, by have := HUB.out; simp; omega⟩, K9⟩
              · have hn7 : Hid (f i % 8 ≠ 7) := by show _ ≠ _; have := HZ.out; have := H7.out; omega
                have c0 := hC9.cell 0 rfl
                have c1 := hC9.cell 1 rfl
                have c2 := hC9.cell 2 rfl
                by_cases hb0 : 0 ≤ b
                · have tb : decide (b < 0) = false := by rw [decide_eq_false_iff_not]; omega
                  have HB0 := hid hb0
                  clear hb0
                  go_wp2_with fail
                  go_roundg (q - (i + 1))
                  case measure => have := HII.out; omega
                  case rel => exact ⟨i + 1, k + 1, b, true, by have := HII.out; omega, by go_num, by go_num, rfl, (by first | rfl | (rw [bne, t1]; first | done | rfl)), HCN.out.on hn7.out (HCN.out.bad.keep HB0.out), ⟨_, _, hP10, HL9.out, by have := HUB.out; simp; omega⟩, K9⟩
                · have hbm : b = -1 := by
                    rcases HCN.out.bad with ⟨h, _⟩ | ⟨j, _, h, _⟩
                    · exact h
                    · omega
                  subst hbm
                  have hwe := hwv.out
                  by_cases hw1 : vm < c.act
                  · have tw1 : decide ((vm : Int) < (c.act : Int)) = true := by rw [decide_eq_true_eq]; omega
                    have tw2 : decide (vm < c.act) = true := by rw [decide_eq_true_eq]; omega
                    have HBW := hid (show ¬ (c.act ≤ wG m (a.n + 10) true g i ∧ wG m (a.n + 10) true g i < a.n) by omega)
                    clear hwe hw1
                    go_wp2_with fail
                    refine (active_at w9 c HO.out.small).mono ?_
                    rintro e w10 ⟨rfl, hk10⟩
                    have hP11 := hP10.keep0 hk10
                    have K11 := K9.trans (hk10.mono (by simp))
                    clear c0 c1 c2
                    go_wp2_with fail
                    go_roundg (q - (i + 1))
                    case measure => have := HII.out; omega
                    case rel => exact ⟨i + 1, k + 1, i, true, by have := HII.out; omega, by go_num, by go_num, rfl, (by first | rfl | (rw [bne, t1]; first | done | rfl)), HCN.out.on hn7.out (HCN.out.bad.worse HCN.out.here HBW.out), ⟨_, _, hP11, HL9.out, by have := HUB.out; simp; omega⟩, K11⟩
                  · have tw1 : decide ((vm : Int) < (c.act : Int)) = false := by rw [decide_eq_false_iff_not]; omega
                    have tw2 : decide (vm < c.act) = false := by rw [decide_eq_false_iff_not]; omega
                    by_cases hw2 : a.n ≤ vm
                    · have tw3 : decide ((a.n : Int) ≤ (vm : Int)) = true := by rw [decide_eq_true_eq]; omega
                      have tw4 : decide (a.n ≤ vm) = true := by rw [decide_eq_true_eq]; omega
                      have HBW := hid (show ¬ (c.act ≤ wG m (a.n + 10) true g i ∧ wG m (a.n + 10) true g i < a.n) by omega)
                      clear hwe hw1 hw2
                      go_wp2_with fail
                      refine (active_at w9 c HO.out.small).mono ?_
                      rintro e w10 ⟨rfl, hk10⟩
                      have hP11 := hP10.keep0 hk10
                      have K11 := K9.trans (hk10.mono (by simp))
                      clear c0 c1 c2
                      go_wp2_with fail
                      refine (len_at w10 p a _ hP11.dev).mono ?_
                      rintro e w11 ⟨rfl, rfl⟩
                      go_wp2_with fail
                      go_roundg (q - (i + 1))
                      case measure => have := HII.out; omega
                      case rel => exact ⟨i + 1, k + 1, i, true, by have := HII.out; omega, by go_num, by go_num, rfl, (by first | rfl | (rw [bne, t1]; first | done | rfl)), HCN.out.on hn7.out (HCN.out.bad.worse HCN.out.here HBW.out), ⟨_, _, hP11, HL9.out, by have := HUB.out; simp; omega⟩, K11⟩
                    · have tw3 : decide ((a.n : Int) ≤ (vm : Int)) = false := by rw [decide_eq_false_iff_not]; omega
                      have tw4 : decide (a.n ≤ vm) = false := by rw [decide_eq_false_iff_not]; omega
                      have HBW := hid (show c.act ≤ wG m (a.n + 10) true g i ∧ wG m (a.n + 10) true g i < a.n by omega)
                      clear hwe hw1 hw2
                      go_wp2_with fail
                      refine (active_at w9 c HO.out.small).mono ?_
                      rintro e w10 ⟨rfl, hk10⟩
                      have hP11 := hP10.keep0 hk10
                      have K11 := K9.trans (hk10.mono (by simp))
                      clear c0 c1 c2
                      go_wp2_with fail
                      refine (len_at w10 p a _ hP11.dev).mono ?_
                      rintro e w11 ⟨rfl, rfl⟩
                      go_wp2_with fail
                      go_roundg (q - (i + 1))
                      case measure => have := HII.out; omega
                      case rel => exact ⟨i + 1, k + 1, -1, true, by have := HII.out; omega, by go_num, by go_num, rfl, (by first | rfl | (rw [bne, t1]; first | done | rfl)), HCN.out.on hn7.out (HCN.out.bad.still HCN.out.here HBW.out), ⟨_, _, hP11, HL9.out, by have := HUB.out; simp; omega⟩, K11⟩
          · have t3 : decide (i < m) = false := by rw [decide_eq_false_iff_not]; exact him
            have t4 : decide ((i : Int) < (m : Int)) = false := by rw [decide_eq_false_iff_not]; omega
            have HIM := hid him
            clear him
            go_wp2_with fail
            clear hand hei hEb
            have hsv : Hid ((E : Int) * 4294967296 + (i : Int) + 1 = ((sG (epN ep) f i : Nat) : Int)) := by
              show _ = _
              have hz := HZ.out
              have h7 := H7.out
              unfold sG stN
              rw [← hz.1, ← hz.2.1, if_neg (by omega)]
              omega
            have hwv : Hid ((0 : Int) = ((wG m (a.n + 10) near g i : Nat) : Int)) := by
              show _ = _
              unfold wG
              rw [if_neg HIM.out]
              rfl
            clear d0 t1 t2 t3 t4
            refine (record_at _ c.log c.roots c.space i (by omega)).mono ?_
            rintro e w6 ⟨rfl, hk6⟩
            have hP6 := hPi.keep0 hk6
            have hC6 := hk6.at hCi (by simp)
            clear c0 c1 c2
            go_wp2_with fail
            refine (store_ran w6 p a (-1) u' S' (16 + 4 * i) _ hP6 (by omega) (by omega)).mono ?_
            intro e w7 hr7
            obtain ⟨rfl, hP7, hk7⟩ := hr7.free hP6.lo
            have hC7 := hk7.at hC6 hcT
            rw [hsv.out] at hP7
            have K7 := (hK.trans (hk6.mono (by simp))).trans hk7
            clear hr7 hC6 hP6 hk6 hk7
            have c0 := hC7.cell 0 rfl
            have c1 := hC7.cell 1 rfl
            have c2 := hC7.cell 2 rfl
            go_wp2_with fail
            refine (record_at w7 c.log c.roots c.space i (by omega)).mono ?_
            rintro e w8 ⟨rfl, hk8⟩
            have hP8 := hP7.keep0 hk8
            have hC8 := hk8.at hC7 (by simp)
            clear c0 c1 c2
            go_wp2_with fail
            refine (store_ran w8 p a (-1) _ _ (16 + 4 * i + 1) _ hP8 (by omega) (by simp; omega)).mono ?_
            intro e w9 hr9
            obtain ⟨rfl, hP9, hk9⟩ := hr9.free hP8.lo
            have hC9 := hk9.at hC8 hcT
            rw [hwv.out] at hP9
            have HL9 := hid HLGi.out.step
            have K9 := (K7.trans (hk8.mono (by simp))).trans hk9
            have d0 := ((K5.new K9 hWT).cell (p := ⟨bx, off + i, none⟩) hbl (by simp)).trans HDZ.out
            clear hr9 hC8 hP8 hP7 hC7 hk8 hk9 hsv K7
            have hP10 := hP9
            have HUB := hid hui
            clear hP9
            have t1 : ((y8 : Int) == 7) = false := by rw [beq_eq_false_iff_ne]; have := H7.out; omega
            have t2 : (y8 == 7) = false := by rw [beq_eq_false_iff_ne]; exact H7.out
            cases cnt
            · go_wp2_with fail
              go_roundg (q - (i + 1))
              case measure => have := HII.out; omega
              case rel => exact ⟨i + 1, k, b, false, by have := HII.out; omega, by go_num, by go_num, rfl, (by first | rfl | (rw [bne, t1]; first | done | rfl)), HCN.out.no, ⟨_, _, hP10, HL9.out, by have := HUB.out; simp; omega⟩, K9⟩
            · have hn7 : Hid (f i % 8 ≠ 7) := by show _ ≠ _; have := HZ.out; have := H7.out; omega
              have c0 := hC9.cell 0 rfl
              have c1 := hC9.cell 1 rfl
              have c2 := hC9.cell 2 rfl
              by_cases hb0 : 0 ≤ b
              · have tb : decide (b < 0) = false := by rw [decide_eq_false_iff_not]; omega
                have HB0 := hid hb0
                clear hb0
                go_wp2_with fail
                go_roundg (q - (i + 1))
                case measure => have := HII.out; omega
                case rel => exact ⟨i + 1, k + 1, b, true, by have := HII.out; omega, by go_num, by go_num, rfl, (by first | rfl | (rw [bne, t1]; first | done | rfl)), HCN.out.on hn7.out (HCN.out.bad.keep HB0.out), ⟨_, _, hP10, HL9.out, by have := HUB.out; simp; omega⟩, K9⟩
              · have hbm : b = -1 := by
                  rcases HCN.out.bad with ⟨h, _⟩ | ⟨j, _, h, _⟩
                  · exact h
                  · omega
                subst hbm
                have hwe := hwv.out
                have tw1 : decide ((0 : Int) < (c.act : Int)) = true := by rw [decide_eq_true_eq]; omega
                have tw2 : decide (0 < c.act) = true := by rw [decide_eq_true_eq]; omega
                have HBW := hid (show ¬ (c.act ≤ wG m (a.n + 10) near g i ∧ wG m (a.n + 10) near g i < a.n) by omega)
                clear hwe
                go_wp2_with fail
                refine (active_at w9 c HO.out.small).mono ?_
                rintro e w10 ⟨rfl, hk10⟩
                have hP11 := hP10.keep0 hk10
                have K11 := K9.trans (hk10.mono (by simp))
                clear c0 c1 c2
                go_wp2_with fail
                go_roundg (q - (i + 1))
                case measure => have := HII.out; omega
                case rel => exact ⟨i + 1, k + 1, i, true, by have := HII.out; omega, by go_num, by go_num, rfl, (by first | rfl | (rw [bne, t1]; first | done | rfl)), HCN.out.on hn7.out (HCN.out.bad.worse HCN.out.here HBW.out), ⟨_, _, hP11, HL9.out, by have := HUB.out; simp; omega⟩, K11⟩
      · have hiq : i = q := by omega
        subst hiq
        have c0 := hCi.cell 0 rfl
        have c1 := hCi.cell 1 rfl
        have c2 := hCi.cell 2 rfl
        clear hi hlt hei
        go_wp2_with fail
        refine (open_at wr p a (-1) u' S' c hPi HO.out.small ep he HLGi.out.ep hci.1).mono ?_
        rintro e w6 ⟨lb, mm, rfl, hlb, hL6, hk6, hm1, hm2, hm3⟩
        have hmn := HLGi.out.count HCN.out hql hm1 hm2 hm3
        subst hmn
        have hC6 := hk6.at hCi (by simp)
        have K6 := KW.trans hk6
        have HM1 := hid hm1
        clear c0 c1 c2 hm1 hm2 hm3 hk6 hCi hPi
        go_wp2_with fail
        refine (len6_at hL6).mono ?_
        rintro e w7 ⟨rfl, rfl⟩
        go_wp2_with fail
        refine (good_at hL6 HO.out.small HM1.out hci.1).mono ?_
        rintro e w7 ⟨rb, rfl, hk7, hga⟩
        have hrb : rb = b := FirstBad.unique (P := fun j => okP S'.now c a.n j) hga HCN.out.bad fun j hj => okP_iff (HLGi.out.st j (by have := HCN.out.le; omega)).2 (by
          unfold wG
          by_cases hjm : j < m
          · rw [if_pos hjm]
            have := HG.out j hjm
            by_cases hnr : near = true
            · rw [if_pos hnr]; have := Nat.mod_le (g j) (a.n + 10); omega
            · rw [if_neg hnr]; omega
          · rw [if_neg hjm]; omega) (by omega) (by omega)
        subst hrb
        have hL7 := hL6.keep0 hk7
        have K7 := K6.trans hk7
        have HHE := hid he
        clear hga hk7 hL6 K6 he
        go_wp2_with fail
        refine (epoch6_at hL7 ep HHE.out HLGi.out.ep hci.2.1).mono ?_
        rintro e w8 ⟨rfl, rfl⟩
        have hand := ep_and ep HHE.out
        have tq : ((epN ep : Int) == (epN ep : Int)) = true := by simp
        go_wp2_with fail
        go_ret
        exact ⟨rfl, K7.below (Nat.le_refl _) (by simp)⟩

theorem ulogGood_walk (l r s : Int) (ep : Int) (x : Option Addr) (n cp : Nat) (f : Nat → Int) (y : Option Addr) (m cq : Nat) (g : Nat → Int) (near : Bool) (W : World) (wl : (Lit.int .u16 l).wf = true) (wr : (Lit.int .u16 r).wf = true) (ws : (Lit.int .u16 s).wf = true) (we : (Lit.int .u64 ep).wf = true)
    (R1 : ReadsV (Value.int .u8) W x n f) (F1 : ∀ i, i < n → (Lit.int .u8 (f i)).wf = true) (_ : n ≤ maxLen) (R2 : ReadsV (Value.int .u64) W y m g) (F2 : ∀ i, i < m → (Lit.int .u64 (g i)).wf = true) (_ : m ≤ maxLen) :
    Calls Try.prog 6 #[.agg #[.int .u16 l, .int .u16 r, .int .u16 s], .int .u64 ep, .slice x n cp, .slice y m cq, .bool near] W fun e w' => e = .returned (.bool true) ∧ Below W.heap.size W w' := by
  obtain ⟨l, rfl, hl⟩ := c3_open wl
  obtain ⟨r, rfl, hr⟩ := c3_open wr
  obtain ⟨s, rfl, hs⟩ := c3_open ws
  have hb := bounds_u64 we
  by_cases hg : 20 < n ∨ 20 < m
  · exact good_great l r s ep x n cp y m cq near W hg
  · obtain ⟨ep, rfl⟩ : ∃ k : Nat, (k : Int) = ep := ⟨ep.toNat, by omega⟩
    refine good_small l r s ep x n cp (fun i => (f i).toNat) y m cq (fun i => (g i).toNat) near W hl hr hs (by omega) (by omega) (by omega) ?_ (fun i hi => by have := bounds_u8 (F1 i hi); omega) ?_ (fun i hi => by have := bounds_u64 (F2 i hi); omega)
    · rcases R1 with h | ⟨b, off, h1, h2, h3⟩
      · exact .inl h
      · exact .inr ⟨b, off, h1, h2, fun i hi => by rw [h3 i hi]; have hq := bounds_u8 (F1 i hi); have : ((f i).toNat : Int) = f i := by omega
                                                   show _ = some (Value.int .u8 ((f i).toNat : Int))
                                                   rw [this]⟩
    · rcases R2 with h | ⟨b, off, h1, h2, h3⟩
      · exact .inl h
      · exact .inr ⟨b, off, h1, h2, fun i hi => by rw [h3 i hi]; have hq := bounds_u64 (F2 i hi); have : ((g i).toNat : Int) = g i := by omega
                                                   show _ = some (Value.int .u64 ((g i).toNat : Int))
                                                   rw [this]⟩

end Go.Proofs.Ythpebaghcaelcaa
