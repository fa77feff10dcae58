/- The walk of the law RootsHas. -/
import Derived.Test.YtkoflpcpopmkkaaGreatAwk8
import Derived.Test.YtkoflpcpopmkkaaGreatArgs
namespace Go.Proofs.YtkoflpcpopmkkaaGreat
open Go.RowKit Go.OpenShut

theorem frm_in {c : Cfg} {k u f : Nat} (hk : k ≤ 1) (hu : u ≤ c.space) (hf : f = c.frm k) : f + u ≤ c.words := by
  have h2 := (up8_le c.space).1
  have h3 : c.words = up8 (c.root c.roots) + 2 * up8 c.space := rfl
  have h4 : f = up8 (c.root c.roots) + k * up8 c.space := hf
  have h5 : k * up8 c.space ≤ 1 * up8 c.space := Nat.mul_le_mul_right _ hk
  omega

set_option maxRecDepth 100000 in
set_option maxHeartbeats 4000000 in
theorem has_small (l r s ac us : Nat) (W : World) (hl : l ≤ 65535) (hr : r ≤ 65535) (hs : s ≤ 65535) (ha : ac ≤ 255) (hu : us ≤ 65535) :
    Calls Tryz.prog 9 #[c3V l r s, .int .u8 ac, .int .u16 us] W fun e w' => e = .returned (.bool true) ∧ Below W.heap.size W w' := by
  have hai : (ac : Int) ≤ 255 := by omega
  have husi : (us : Int) ≤ 65535 := by omega
  go_enter Tryz.func9, Tryz.ntmps9
  go_wp2_with fail
  have hB0 := At.new W (c3O l r s)
  have K0 := (Keeps.refl [] W).alloc (c3O l r s)
  refine (awake8_any _).mono ?_
  rintro e w1 ⟨rfl, hb1⟩
  have k1 := Go.Proofs.YtkoflpcpopmkkaaGreat.Below.keeps hb1 []
  have K1 := K0.trans k1
  have hB1 := k1.at hB0 (by simp)
  clear hb1 k1 hB0 K0
  have c0 : w1.cell? ⟨W.heap.size, 0, none⟩ = some (.int .u16 l) := hB1.cell 0 rfl
  have c1 : w1.cell? ⟨W.heap.size, 1, none⟩ = some (.int .u16 r) := hB1.cell 1 rfl
  have c2 : w1.cell? ⟨W.heap.size, 2, none⟩ = some (.int .u16 s) := hB1.cell 2 rfl
  go_wp2_with fail
  refine (make3_at w1 l r s hl hr hs).mono ?_
  rintro e w2 ⟨rfl, hk2⟩
  have K2 := K1.trans hk2
  have hok := mk3_ok l r s
  obtain ⟨c, hc⟩ : ∃ c, c = mk3 l r s := ⟨_, rfl⟩
  rw [← hc] at hok ⊢
  clear hc c0 c1 c2 hB1 hk2 K1
  have hsp : (c.space : Int) ≤ 4096 := by have := hok.small.2.2; omega
  obtain ⟨k, hk⟩ : ∃ k, k = ac % 2 := ⟨_, rfl⟩
  have EA := hid (show bits .and .u8 (ac : Int) 1 = (k : Int) by rw [and1_u8 ac ha, hk])
  have hkl : k ≤ 1 := by omega
  obtain ⟨u, hu8⟩ : ∃ u, u = us % (c.space + 1) := ⟨_, rfl⟩
  have EU := hid (show (us : Int) % ((c.space : Int) + 1) = (u : Int) by rw [hu8]; simp)
  have hul : u ≤ c.space := by have := Nat.mod_lt us (show 0 < c.space + 1 by omega); omega
  have EW := hid (show wrap64 (k : Int) = (k : Int) from IntWalk.wrap64_in _ (by omega))
  have hsne : ¬ ((c.space : Int) + 1 = 0) := by omega
  clear hk hu8
  go_upto_region 5 with fail
  rw [EA.out, EU.out, EW.out]
  clear EA EU EW
  have hC3 := (At.new w2 (cfgO c)).alloc (bkO k u (.slice none 0 0))
  have hB3 := At.new (w2.alloc (cfgO c)) (bkO k u (.slice none 0 0))
  have K3 := (K2.alloc (cfgO c)).alloc (bkO k u (.slice none 0 0))
  rw [show (w2.alloc (cfgO c)).heap.size = w2.heap.size + 1 by simp] at hB3
  obtain ⟨cb, hcb⟩ : ∃ cb, cb = w2.heap.size := ⟨_, rfl⟩
  obtain ⟨w3, hw3⟩ : ∃ w3, w3 = (w2.alloc (cfgO c)).alloc (bkO k u (.slice none 0 0)) := ⟨_, rfl⟩
  rw [← hcb] at hC3 hB3 ⊢
  rw [← hw3] at hC3 hB3 K3 ⊢
  clear hcb hw3 K2 hsne
  have hsm := hok.small
  have hw := words_ge hok
  have hwi : (c.words : Int) ≤ 15000 := by omega
  have c0 := hC3.cell 0 rfl
  have c1 := hC3.cell 1 rfl
  have c2 := hC3.cell 2 rfl
  go_wp2_with fail
  refine (cwords_at w3 c hsm).mono ?_
  rintro e w4 ⟨rfl, hk4⟩
  have hC4 := hk4.at hC3 (by simp)
  have hB4 := hk4.at hB3 (by simp)
  have K4 := K3.trans hk4
  obtain ⟨f, hf⟩ : ∃ f, f = c.frm k := ⟨_, rfl⟩
  have hfl : f + u ≤ c.words := frm_in hkl hul hf
  have HHA := hid (fun (w' : World) (z : Int) (hz : 0 ≤ z ∧ z < 18446744073709551616) => has8_at w' c hsm k hkl u (by have := hsm.2.2; omega) (.slice none 0 0) z hz)
  have HPL := hid (fun (w' : World) (z : Int) (hz : -100000 ≤ z ∧ z ≤ 100000) => place8_at w' c hsm k hkl u (.slice none 0 0) z hz)
  unfold hasW at HHA
  rw [← hf] at HHA HPL
  have HUL := hid hul
  have HFL := hid hfl
  clear hf hw hul hfl hsp hkl c0 c1 c2 hC3 hB3 K3 hk4 hai husi ha hu hl hr hs
  have KM := hid K4
  have HC : Hid (∀ w', Keeps [] w4 w' → (w'.cell? ⟨cb, 0, none⟩ = some (.int .i64 c.log) ∧ w'.cell? ⟨cb, 1, none⟩ = some (.int .i64 c.roots) ∧ w'.cell? ⟨cb, 2, none⟩ = some (.int .i64 c.space) ∧ w'.cell? ⟨cb + 1, 0, none⟩ = some (.int .i64 k) ∧ w'.cell? ⟨cb + 1, 1, none⟩ = some (.int .i64 u) ∧ w'.cell? ⟨cb + 1, 2, none⟩ = some (.slice none 0 0))) :=
    fun w' hk => ⟨(hk.at hC4 (by simp)).cell 0 rfl, (hk.at hC4 (by simp)).cell 1 rfl, (hk.at hC4 (by simp)).cell 2 rfl, (hk.at hB4 (by simp)).cell 0 rfl, (hk.at hB4 (by simp)).cell 1 rfl, (hk.at hB4 (by simp)).cell 2 rfl⟩
  clear K4 hC4 hB4
  have hui : (u : Int) ≤ 4096 := by have := HUL.out; have := hsm.2.2; omega
  have hfi : (f : Int) ≤ 15000 := by have := HFL.out; omega
  go_wp2_with fail
  go_loopg [28, 9] (c.words + 20) (fun rr sl s9 wr => ∃ i n : Nat, i + rr = c.words + 20 ∧ sl = .int .i64 i ∧ s9 = .int .i64 n ∧ n = min i (f + u) - f ∧ Keeps [] w4 wr)
  case atStart => exact ⟨0, 0, by omega, rfl, rfl, by omega, Keeps.refl _ _⟩
  case round =>
    obtain ⟨i, n, hi, rfl, rfl, hn, hK⟩ := hrel
    by_cases hlt : i < c.words + 20
    · have hii : (i : Int) < (c.words : Int) + 20 := by omega
      have hnb : (n : Int) ≤ 4096 := by omega
      obtain ⟨e0, e1, e2, e3, e4, e5⟩ := HC.out _ hK
      have HI := hid hi
      have HN := hid hn
      clear hi hn
      go_wp2_with fail
      refine (HHA.out _ i (by omega)).mono ?_
      rintro e w5 ⟨rfl, hk5⟩
      have K5 := hK.trans hk5
      clear e0 e1 e2 e3 e4 e5 hk5
      obtain ⟨e0, e1, e2, e3, e4, e5⟩ := HC.out _ K5
      by_cases hin : f ≤ i ∧ i < f + u
      · have HIN := hid hin
        have T1 : decide ((f : Int) ≤ (i : Int) ∧ (i : Int) < (f : Int) + (u : Int)) = true := decide_eq_true (by omega)
        rw [T1]
        clear T1
        have t2 : decide ((i : Int) < (f : Int)) = false := decide_eq_false (by omega)
        have t2' : decide (i < f) = false := decide_eq_false (by omega)
        have t3 : decide ((i : Int) ≥ (f : Int) + (u : Int)) = false := decide_eq_false (by omega)
        have t3' : decide ((f : Int) + (u : Int) ≤ (i : Int)) = false := decide_eq_false (by omega)
        clear hin
        go_wp2_with fail
        refine (HPL.out _ 0 (by omega)).mono ?_
        rintro e w6 ⟨rfl, hk6⟩
        have K6 := K5.trans hk6
        clear e0 e1 e2 e3 e4 e5 hk6
        obtain ⟨e0, e1, e2, e3, e4, e5⟩ := HC.out _ K6
        go_wp2_with fail
        refine (HPL.out _ u (by omega)).mono ?_
        rintro e w7 ⟨rfl, hk7⟩
        have K7 := K6.trans hk7
        clear e0 e1 e2 e3 e4 e5 hk7
        go_wp2_with fail
        go_roundg (c.words + 20 - (i + 1))
        case measure => (have := HI.out; omega)
        case rel => exact ⟨i + 1, n + 1, by have := HI.out; omega, by go_num, by go_num, by have := HIN.out; have := HN.out; omega, K7⟩
      · have T1 : decide ((f : Int) ≤ (i : Int) ∧ (i : Int) < (f : Int) + (u : Int)) = false := decide_eq_false (by omega)
        rw [T1]
        have HIN := hid hin
        clear T1 hin e0 e1 e2 e3 e4 e5
        go_wp2_with fail
        go_roundg (c.words + 20 - (i + 1))
        case measure => (have := HI.out; omega)
        case rel => exact ⟨i + 1, n, by have := HI.out; omega, by go_num, rfl, by have := HIN.out; have := HN.out; omega, K5⟩
    · have hie : i = c.words + 20 := by omega
      have hnu : n = u := by have := HFL.out; omega
      subst hnu
      clear hn hi
      subst hie
      clear hlt
      go_upto_region 14 with fail
      have kk := hK.drew
      have EW := hid (show IntKind.u64.wrap ((f : Int) + (n : Int)) = (f : Int) + (n : Int) from IntWalk.u64_in _ (by omega))
      have HH2 : Hid (∀ w' (z : Int), (z = 9223372036854775808 ∨ z = (f : Int) + (n : Int)) → Calls Tryz.prog 42 #[bkV k n (.slice none 0 0), cfgV c, .int .u64 z] w' fun e w'' => e = .returned (.bool false) ∧ Keeps [] w' w'') := fun w' z hz => by
        refine (HHA.out w' z (by omega)).mono ?_
        rintro e w'' ⟨rfl, hk⟩
        refine ⟨?_, hk⟩
        rw [decide_eq_false (by omega)]
      go_region_held3 (fun w' => w'.cell? ⟨cb, 0, none⟩ = some (.int .i64 c.log) ∧ w'.cell? ⟨cb, 1, none⟩ = some (.int .i64 c.roots) ∧ w'.cell? ⟨cb, 2, none⟩ = some (.int .i64 c.space) ∧ w'.cell? ⟨cb + 1, 0, none⟩ = some (.int .i64 k) ∧ w'.cell? ⟨cb + 1, 1, none⟩ = some (.int .i64 n) ∧ w'.cell? ⟨cb + 1, 2, none⟩ = some (.slice none 0 0))
        (exact HC.out _ kk)
        (first
          | (go_at_call 42; (try rw [EW.out]); refine (HH2.out _ _ (by first | exact .inl rfl | exact .inr rfl)).mono ?_; rintro e w' ⟨rfl, hk1⟩; have kk := kk.trans hk1; clear hk1)
          | (go_at_call 41; refine (HPL.out _ _ (by omega)).mono ?_; rintro e w' ⟨rfl, hk1⟩; have kk := kk.trans hk1; clear hk1))
      all_goals
        go_wp2_with fail
        go_ret
        exact ⟨rfl, (KM.out.trans kk).below (Nat.le_refl _) (by simp)⟩

theorem rootsHas_walk (l r s : Int) (ac us : Int) (W : World) (wl : (Lit.int .u16 l).wf = true) (wr : (Lit.int .u16 r).wf = true) (ws : (Lit.int .u16 s).wf = true) (wa : (Lit.int .u8 ac).wf = true) (wu : (Lit.int .u16 us).wf = true) :
    Calls Tryz.prog 9 #[.agg #[.int .u16 l, .int .u16 r, .int .u16 s], .int .u8 ac, .int .u16 us] W fun e w' => e = .returned (.bool true) ∧ Below W.heap.size W w' := by
  obtain ⟨l, rfl, hl⟩ := c3_open wl
  obtain ⟨r, rfl, hr⟩ := c3_open wr
  obtain ⟨s, rfl, hs⟩ := c3_open ws
  obtain ⟨us, rfl, hu⟩ := c3_open wu
  have ha := bounds_u8 wa
  obtain ⟨ac, rfl⟩ : ∃ n : Nat, (n : Int) = ac := ⟨ac.toNat, by omega⟩
  exact has_small l r s ac us W hl hr hs (by omega) hu

end Go.Proofs.YtkoflpcpopmkkaaGreat
