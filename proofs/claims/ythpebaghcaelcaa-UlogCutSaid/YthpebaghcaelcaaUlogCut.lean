/- The walk of the law UlogCut. -/
import Derived.Test.YthpebaghcaelcaaC6
namespace Go.Proofs.Ythpebaghcaelcaa
open Go.RowKit Go.OpenShut

theorem kept6_at (w : World) (p : Nat) (a : DA) (S : DS) (c : Cfg) (h : Dev w p a S) (hal : c.act < a.n) :
    Calls Try.prog 27 #[ptr a.d] w fun e w' => ∃ g cap, e = .returned (.slice (some ⟨g, 0, none⟩) a.n cap) ∧ (c.act ≤ cap ∧ (a.n : Int) ≤ (cap : Int) ∧ ¬ cap = c.act) ∧ Reads w' (some ⟨g, c.act, none⟩) (a.n - c.act) (fun i => S.kept (c.act + i)) ∧ Keeps [] w w' := by
  refine (kept_at w p a S h).mono ?_
  rintro e w1 ⟨v1, rfl, hv1, hk1⟩
  obtain ⟨g, cap, rfl, hg, hgb, hcap, hR⟩ := hv1.reads
  have hcp := hv1.row
  exact ⟨g, cap, rfl, by omega, hR.from (by omega), hk1⟩

set_option maxHeartbeats 400000 in
theorem ulogCut2_at (w : World) (b : Nat) (bits : Int) (i : Nat) (h : At w b (wordO bits)) (hi : i ≤ 17592186044416) :
    Calls Try.prog 34 #[.int .i64 i, ptr b] w fun e w' => e = .returned (.int .u8 (chV bits i)) ∧ w = w' := by
  have c1 := h.cell 0 rfl
  go_enter Try.func34, Try.ntmps34
  go_wp2_with fail
  refine (choice_at w bits i hi).mono ?_
  rintro e w1 ⟨rfl, rfl⟩
  go_wp2
  go_ret
  exact ⟨rfl, rfl⟩

theorem ulogCut2_chooser (b : Nat) (bits : Int) (n : Nat) (hn : n ≤ 17592186044416) :
    Chooser 34 #[ptr b] n (chV bits) [] [b] (fun _ w => At w b (wordO bits)) where
  inv := fun w i => by simp [go_sem]
  call := fun i w hi h => (ulogCut2_at w b bits i h (by omega)).mono fun e w' ⟨he, hw⟩ => ⟨he, by rw [← hw]; exact h, by rw [← hw]; exact Keeps.refl _ _⟩
  keep := fun _ w w' S h hk hs => hk.at h (hs b (by simp))
  low := chV_low bits

set_option maxHeartbeats 400000 in
theorem ulogCut4_at (w : World) (b : Nat) (bits : Int) (i : Nat) (h : At w b (wordO bits)) (hi : i ≤ 17592186044416) :
    Calls Try.prog 37 #[.int .i64 i, ptr b] w fun e w' => e = .returned (.int .u8 (chV bits i)) ∧ w = w' := by
  have c1 := h.cell 0 rfl
  go_enter Try.func37, Try.ntmps37
  go_wp2_with fail
  refine (choice_at w bits i hi).mono ?_
  rintro e w1 ⟨rfl, rfl⟩
  go_wp2
  go_ret
  exact ⟨rfl, rfl⟩

theorem ulogCut4_chooser (b : Nat) (bits : Int) (n : Nat) (hn : n ≤ 17592186044416) :
    Chooser 37 #[ptr b] n (chV bits) [] [b] (fun _ w => At w b (wordO bits)) where
  inv := fun w i => by simp [go_sem]
  call := fun i w hi h => (ulogCut4_at w b bits i h (by omega)).mono fun e w' ⟨he, hw⟩ => ⟨he, by rw [← hw]; exact h, by rw [← hw]; exact Keeps.refl _ _⟩
  keep := fun _ w w' S h hk hs => hk.at h (hs b (by simp))
  low := chV_low bits

set_option maxRecDepth 100000 in
set_option maxHeartbeats 2000000 in
theorem cut6_great (l r s : Nat) (y : Option Addr) (co cq : Nat) (x : Option Addr) (n cp : Nat) (lim ag bits more : Int) (W : World) (hg : 20 < co ∨ 20 < n) :
    Calls Try.prog 4 #[c3V l r s, .slice y co cq, .slice x n cp, .int .u16 lim, .int .u16 ag, .int .u64 bits, .int .u64 more] W fun e w' => e = .returned (.bool true) ∧ Below W.heap.size W w' := by
  by_cases h1 : 20 < co
  · go_enter Try.func4, Try.ntmps4
    go_wp2_with fail
    refine (awake6_any _).mono ?_
    rintro e w1 ⟨rfl, hb1⟩
    have hX1 := (Go.Proofs.Ythpebaghcaelcaa.Below.keeps hb1 []).at (((At.new (W.alloc (c3O l r s)) (asO x n cp)).alloc (wordO bits)).alloc (wordO more)) (by simp)
    rw [show (W.alloc (c3O l r s)).heap.size = W.heap.size + 1 by simp] at hX1
    have x0 := hX1.cell 0 rfl
    have K1 := Go.Proofs.Ythpebaghcaelcaa.Below.keeps hb1 []
    go_wp2_with fail
    go_ret
    exact ⟨rfl, ((((((Keeps.refl [] W).alloc _).alloc _).alloc _).alloc _).trans K1).below (Nat.le_refl _) (by simp)⟩
  · have h2 : 20 < n := by omega
    have g1 : decide (20 < co) = false := by rw [decide_eq_false_iff_not]; omega
    have g2 : decide (20 < (co : Int)) = false := by rw [decide_eq_false_iff_not]; omega
    go_enter Try.func4, Try.ntmps4
    go_wp2_with fail
    refine (awake6_any _).mono ?_
    rintro e w1 ⟨rfl, hb1⟩
    have hX1 := (Go.Proofs.Ythpebaghcaelcaa.Below.keeps hb1 []).at (((At.new (W.alloc (c3O l r s)) (asO x n cp)).alloc (wordO bits)).alloc (wordO more)) (by simp)
    rw [show (W.alloc (c3O l r s)).heap.size = W.heap.size + 1 by simp] at hX1
    have x0 := hX1.cell 0 rfl
    have K1 := Go.Proofs.Ythpebaghcaelcaa.Below.keeps hb1 []
    go_wp2_with fail
    go_ret
    exact ⟨rfl, ((((((Keeps.refl [] W).alloc _).alloc _).alloc _).alloc _).trans K1).below (Nat.le_refl _) (by simp)⟩

set_option maxRecDepth 100000 in
set_option maxHeartbeats 8000000 in
theorem cut6_small (l r s : Nat) (y : Option Addr) (co cq : Nat) (fo : Nat → Int) (x : Option Addr) (n cp : Nat) (f : Nat → Nat → Int) (lim ag : Nat) (bits more : Int) (W : World) (hl : l ≤ 65535) (hr : r ≤ 65535) (hs : s ≤ 65535) (hlim : lim ≤ 65535) (hag : ag ≤ 65535) (hco : co ≤ 20) (hn : n ≤ 20) (hRO : Reads W y co fo) (hR : AReads W x n f) :
    Calls Try.prog 4 #[c3V l r s, .slice y co cq, .slice x n cp, .int .u16 lim, .int .u16 ag, .int .u64 bits, .int .u64 more] W fun e w' => e = .returned (.bool true) ∧ Below W.heap.size W w' := by
  have g1 : decide (20 < co) = false := by rw [decide_eq_false_iff_not]; omega
  have g2 : decide (20 < (co : Int)) = false := by rw [decide_eq_false_iff_not]; omega
  have g3 : decide (20 < n) = false := by rw [decide_eq_false_iff_not]; omega
  have g4 : decide (20 < (n : Int)) = false := by rw [decide_eq_false_iff_not]; omega
  have hni : (n : Int) ≤ 20 := by omega
  have hcoi : (co : Int) ≤ 20 := by omega
  have hlm : (lim : Int) ≤ 65535 := by omega
  have hagm : (ag : Int) ≤ 65535 := by omega
  obtain ⟨z1, hz1⟩ : ∃ z : Int, z = IntKind.i64.wrap ((lim : Int).tmod 300) := ⟨_, rfl⟩
  have hz1b : 0 ≤ z1 ∧ z1 < 300 := by rw [hz1, Int.tmod_eq_emod_of_nonneg (by omega), IntWalk.i64_in _ (by omega)]; omega
  obtain ⟨z2, hz2e⟩ : ∃ z : Int, z = IntKind.i64.wrap ((ag : Int).tmod 60) := ⟨_, rfl⟩
  have hz2b : 0 ≤ z2 ∧ z2 < 60 := by rw [hz2e, Int.tmod_eq_emod_of_nonneg (by omega), IntWalk.i64_in _ (by omega)]; omega
  have HZ1 := hid (And.intro trivial hz1.symm)
  have HZ2 := hid (And.intro trivial hz2e.symm)
  clear hz1 hz2e
  have HR := hid hR
  have HRO := hid hRO
  clear hR hRO
  go_enter Try.func4, Try.ntmps4
  go_wp2_with fail
  have hB0 := (((At.new W (c3O l r s)).alloc (asO x n cp)).alloc (wordO bits)).alloc (wordO more)
  have hX0 := ((At.new (W.alloc (c3O l r s)) (asO x n cp)).alloc (wordO bits)).alloc (wordO more)
  have hY0 := (At.new ((W.alloc (c3O l r s)).alloc (asO x n cp)) (wordO bits)).alloc (wordO more)
  have hZ0 := At.new (((W.alloc (c3O l r s)).alloc (asO x n cp)).alloc (wordO bits)) (wordO more)
  have K0 := ((((Keeps.refl [] W).alloc (c3O l r s)).alloc (asO x n cp)).alloc (wordO bits)).alloc (wordO more)
  rw [show (W.alloc (c3O l r s)).heap.size = W.heap.size + 1 by simp] at hX0
  rw [show ((W.alloc (c3O l r s)).alloc (asO x n cp)).heap.size = W.heap.size + 2 by simp] at hY0
  rw [show (((W.alloc (c3O l r s)).alloc (asO x n cp)).alloc (wordO bits)).heap.size = W.heap.size + 3 by simp] at hZ0
  have hs0 : ((((W.alloc (c3O l r s)).alloc (asO x n cp)).alloc (wordO bits)).alloc (wordO more)).heap.size = W.heap.size + 4 := by simp
  obtain ⟨w0, hw0⟩ : ∃ w0, w0 = (((W.alloc (c3O l r s)).alloc (asO x n cp)).alloc (wordO bits)).alloc (wordO more) := ⟨_, rfl⟩
  rw [← hw0] at hB0 hX0 hY0 hZ0 K0 hs0 ⊢
  replace hs0 : W.heap.size + 4 ≤ w0.heap.size := by omega
  clear hw0
  refine (awake6_any _).mono ?_
  rintro e w1 ⟨rfl, hb1⟩
  have V1 : Keeps [] w0 w1 := Go.Proofs.Ythpebaghcaelcaa.Below.keeps hb1 []
  clear hb1
  have c0 : w1.cell? ⟨W.heap.size, 0, none⟩ = some (.int .u16 l) := (V1.at hB0 (by simp)).cell 0 rfl
  have c1 : w1.cell? ⟨W.heap.size, 1, none⟩ = some (.int .u16 r) := (V1.at hB0 (by simp)).cell 1 rfl
  have c2 : w1.cell? ⟨W.heap.size, 2, none⟩ = some (.int .u16 s) := (V1.at hB0 (by simp)).cell 2 rfl
  have x0 := (V1.at hX0 (by simp)).cell 0 rfl
  go_wp2_with fail
  refine (make3_at w1 l r s hl hr hs).mono ?_
  rintro e w2 ⟨rfl, hk2⟩
  have V2 := V1.trans hk2
  have hok := mk3_ok l r s
  obtain ⟨c, hc⟩ : ∃ c, c = mk3 l r s := ⟨_, rfl⟩
  rw [← hc] at hok ⊢
  clear hc c0 c1 c2 x0 hB0 hk2 V1
  go_wp2_with fail
  have hC3 := At.new w2 (cfgO c)
  have V3 := V2.alloc (cfgO c)
  have hz2 := V2.size
  obtain ⟨cb, hcb⟩ : ∃ cb, cb = w2.heap.size := ⟨_, rfl⟩
  rw [← hcb] at hC3 hz2 ⊢
  have HCB := hid hcb
  clear hcb V2
  refine (formatted_at _ c hok y co cq fo (HRO.out.keep (K0.trans V3) (by simp)) (by omega)).mono ?_
  rintro e w4 ⟨p, a, u, S, rfl, haN, hP, hu, hW, hkp, his, ⟨b1, b2, b3, b4, b5⟩, hk4⟩
  simp only [World.size_alloc] at b1 b2 b3 b4 b5
  rw [← HCB.out] at b1 b2 b3 b4 b5
  have hC4 := hk4.at hC3 (by simp)
  have V4 := V3.trans hk4
  have hci := c_in hok haN
  have hLI := LI.fresh (fun _ => 0) (fun _ => 0) hok haN hW hkp his
  have HN := hid haN
  have HO := hid hok
  have HLI := hid hLI
  have y1 := hP.dev.dev.lt
  have y2 := hP.dev.now.lt
  have y3 := hP.dev.kept.lt
  have y4 := hP.dev.map.lt
  have y5 := hP.pow.lt
  clear haN hok hkp his hW hC3 V3 hk4 hLI
  have c0 := (hC4.alloc (devP a.d)).cell 0 rfl
  have c1 := (hC4.alloc (devP a.d)).cell 1 rfl
  have c2 := (hC4.alloc (devP a.d)).cell 2 rfl
  go_wp2_with fail
  have hC5 := hC4.alloc (devP a.d)
  have hD5 := At.new w4 (devP a.d)
  have V5 := V4.alloc (devP a.d)
  have hP5 := hP.keep0 ((Keeps.refl [] w4).alloc (devP a.d))
  have hs5 : (w4.alloc (devP a.d)).heap.size = w4.heap.size + 1 := by simp
  obtain ⟨db, hdb⟩ : ∃ db, db = w4.heap.size := ⟨_, rfl⟩
  obtain ⟨w5, hw5⟩ : ∃ w5, w5 = w4.alloc (devP a.d) := ⟨_, rfl⟩
  rw [← hw5] at hC5 hD5 V5 hP5 hs5 c0 c1 c2 ⊢
  rw [← hdb] at hD5 hs5 y1 y2 y3 y4 y5 ⊢
  replace hs5 : db < w5.heap.size := by omega
  clear hw5 hdb hC4 V4 hP
  refine (behind_at w5 p a S c hP5.dev HO.out HN.out).mono ?_
  rintro e w6 ⟨g, cap, rfl, hg, hgb, hRW, hk6⟩
  have hC6 := hk6.at hC5 (by simp)
  have hD6 := hk6.at hD5 (by simp)
  have V6 := V5.trans hk6
  have hP6 := hP5.keep0 hk6
  have HRW := hid hRW
  clear c0 c1 c2 hC5 hD5 V5 hP5 hk6 hRW
  have c0 := hC6.cell 0 rfl
  have c1 := hC6.cell 1 rfl
  have c2 := hC6.cell 2 rfl
  have d0 := hD6.cell 0 rfl
  go_wp2_with fail
  refine (open_li hP6 HO.out HN.out HLI.out.1 (by omega)).mono ?_
  rintro e w7 ⟨lb, rfl, hlb, hL7, hk7⟩
  have hC7 := hk7.at hC6 (by simp)
  have hD7 := hk7.at hD6 (by simp)
  have V7 := V6.trans hk7
  have HRW7 := hid (HRW.out.keep hk7 (by simp))
  have y6 := hL7.log.lt
  clear c0 c1 c2 d0 hC6 hD6 V6 hP6 hk7 HRW
  go_upto_region 11 with fail
  have hC8 := hC7.alloc (boxO lb)
  have hD8 := hD7.alloc (boxO lb)
  have hU8 := At.new w7 (boxO lb)
  have hX8 := (V7.alloc (boxO lb)).at hX0 (by simp)
  have hY8 := (V7.alloc (boxO lb)).at hY0 (by simp)
  have hZ8 := (V7.alloc (boxO lb)).at hZ0 (by simp)
  have K8 := K0.trans (V7.alloc (boxO lb))
  have hL8 := hL7.keep0 ((Keeps.refl [] w7).alloc (boxO lb))
  have HRW8 := hid (HRW7.out.keep ((Keeps.refl [] w7).alloc (boxO lb)) (by simp))
  have hs8 : (w7.alloc (boxO lb)).heap.size = w7.heap.size + 1 := by simp
  obtain ⟨ub, hub⟩ : ∃ ub, ub = w7.heap.size := ⟨_, rfl⟩
  obtain ⟨w8, hw8⟩ : ∃ w8, w8 = w7.alloc (boxO lb) := ⟨_, rfl⟩
  rw [← hw8] at hC8 hD8 hU8 hX8 hY8 hZ8 K8 hL8 HRW8 hs8 ⊢
  rw [← hub] at hU8 hs8 y6 ⊢
  replace hs8 : ub < w8.heap.size := by omega
  clear hw8 hub hC7 hD7 hX0 hY0 hZ0 K0 V7 hL7 HRW7
  have TW : ∀ b ∈ [a.d, a.s, a.k, a.m, lb], b ∈ ([] : List Nat) ∨ W.heap.size ≤ b := by simp; omega
  have tX : W.heap.size + 1 ∉ [a.d, a.s, a.k, a.m, lb] := by simp; omega
  have tY : W.heap.size + 2 ∉ [a.d, a.s, a.k, a.m, lb] := by simp; omega
  have tZ : W.heap.size + 3 ∉ [a.d, a.s, a.k, a.m, lb] := by simp; omega
  have tC : cb ∉ [a.d, a.s, a.k, a.m, lb] := by simp; omega
  have tD : db ∉ [a.d, a.s, a.k, a.m, lb] := by simp; omega
  have tU : ub ∉ [a.d, a.s, a.k, a.m, lb] := by simp; omega
  have tG : g ∉ [a.d, a.s, a.k, a.m, lb] := by simp; omega
  have HS : Hid (∀ w', Keeps [] w8 w' → w'.cell? ⟨db, 0, none⟩ = some (ptr a.d)) := fun w' hk => (hk.at hD8 (by simp)).cell 0 rfl
  have HS2 : Hid (∀ w' w'', Keeps [] w8 w' → Keeps [a.d] w' w'' → w''.cell? ⟨db, 0, none⟩ = some (ptr a.d)) := fun w' w'' hk hk2 => (hk2.at (hk.at hD8 (by simp)) (by simp; omega)).cell 0 rfl
  have HPW := hid (fun (w' : World) (qn : Nat) (z : Int) (hk : Keeps [] w8 w') (hq : At w' qn (powO z 0)) (h0 : z < 0 ∨ 0 ≤ z) => power_at w' p qn a (-1) u z S (hL8.pw.keep0 hk) hq h0)
  have kk : Keeps [] w8 w8.drew := (Keeps.refl _ _).drew
  go_upto_region 11 with fail
  go_region_held3 (fun w' => w'.cell? ⟨db, 0, none⟩ = some (ptr a.d))
    (first | exact HS2.out _ _ kk hKq | exact HS.out _ kk)
    (first | (go_at_call 30; rw [HZ1.out.2]; refine (new_at _ _).mono ?_; rintro e wn ⟨rfl, hPn, hsn, hKn⟩; have kk := kk.trans hKn)
           | (go_at_call 29; refine (HPW.out _ _ _ kk hPn (by omega)).mono ?_; rintro e wq ⟨rfl, hPq, hKq⟩))
  have hq8 : w8.heap.size ≤ w8.drew.heap.size := ((Keeps.refl [] w8).drew).size
  have hq8b : w8.heap.size ≤ w8.drew.heap.size := hq8
  obtain ⟨q, hq⟩ : ∃ q, q = w8.drew.heap.size := ⟨_, rfl⟩
  rw [← hq] at hPq hq8
  have EQ : Keeps [a.d, a.s, a.k, a.m, lb] w8 wq := (kk.mono (by simp)).trans (hKq.mono (by intro k _ hk; simp at hk ⊢; omega))
  have hnel := hL8.ne
  have hLq : LW wq q a z1 0 S lb c 0 false := ⟨hPq, hKq.at (kk.at hL8.log (by simp)) (by simp; exact hnel.2.1)⟩
  have KWq : Keeps [] W wq := K8.new EQ TW
  have RW : ∀ b ∈ [q, a.s, a.k, a.m, lb], b ∈ ([] : List Nat) ∨ W.heap.size ≤ b := by simp; omega
  have RV : ∀ b ∈ [q, a.s, a.k, a.m, lb], b ∈ [a.d, a.s, a.k, a.m, lb] ∨ w8.heap.size ≤ b := by simp; omega
  have rT : ub ∉ [q, a.s, a.k, a.m, lb] ∧ cb ∉ [q, a.s, a.k, a.m, lb] ∧ db ∉ [q, a.s, a.k, a.m, lb] := by simp; omega
  have HRUN := hid (run_cutw (c := c) (D := S.now) (k := 1) (l := z1) (T := [q, a.s, a.k, a.m, lb]) (fun _ => by simp [go_sem]) (cut1_at wq q a z1 S lb c (fun _ => 0) (fun _ => 0) S.now (W.heap.size + 1) ub cb db x n cp f hLq HO.out HN.out HLI.out (EQ.at hX8 tX) (EQ.at hU8 tU) (EQ.at hC8 tC) (EQ.at hD8 tD) W HR.out KWq hn (by omega) RW rT))
  clear HS HS2 HPW hPn hsn hKn kk hPq hKq hLq KWq RW rT hq hq8b
  go_wp2_with fail
  refine HRUN.out.mono ?_
  rintro e w9 ⟨r9, rfl, hcw, hk9⟩
  have E9 := EQ.new hk9 RV
  clear HRUN hk9 EQ RV
  obtain ⟨T, u9, r10, m10, pl, wd, hP9, hu9, hr10, hI10⟩ := cutw_crash hcw (fun i => chV bits i % 3)
  have HI10 := hid hI10
  have d0 := (E9.at hD8 tD).cell 0 rfl
  have hY9 := E9.at hY8 tY
  have K9 := K8.new E9 TW
  have HCR := hid (crash_plain w9 q a T hP9.dev _ #[ptr (W.heap.size + 2)] (chV bits) [W.heap.size + 2] _ (ulogCut2_chooser (W.heap.size + 2) bits a.n (by omega)) hY9 (by simp; omega) (by simp; exact hY9.lt))
  clear hcw hI10
  go_wp2_with fail
  refine HCR.out.mono ?_
  rintro e w10 ⟨rfl, hD10', _, hk10⟩
  have hP10 : Pw w10 q a z1 u9 (crashed T fun i => chV bits i % 3) := hP9.crashed hD10' hk10
  have E10 : Keeps [a.d, a.s, a.k, a.m, lb] w8 w10 := E9.trans (hk10.mono (by intro k _ hk; simp at hk ⊢; omega))
  have hD10 := E10.at hD8 tD
  clear HCR hD10' hk10 hY9 E9 K9 d0 hP9
  obtain ⟨S10, hS10⟩ : ∃ S', S' = crashed T fun i => chV bits i % 3 := ⟨_, rfl⟩
  rw [← hS10] at hP10 HI10
  clear hS10
  have HS : Hid (∀ w', Keeps [] w10 w' → w'.cell? ⟨db, 0, none⟩ = some (ptr a.d)) := fun w' hk => (hk.at hD10 (by simp)).cell 0 rfl
  have HS2 : Hid (∀ w' w'', Keeps [] w10 w' → Keeps [a.d] w' w'' → w''.cell? ⟨db, 0, none⟩ = some (ptr a.d)) := fun w' w'' hk hk2 => (hk2.at (hk.at hD10 (by simp)) (by simp; omega)).cell 0 rfl
  have HPW := hid (fun (w' : World) (qn : Nat) (z : Int) (hk : Keeps [] w10 w') (hq : At w' qn (powO z 0)) (h0 : z < 0 ∨ 0 ≤ z) => power_at w' q qn a z1 u9 z S10 (hP10.keep0 hk) hq h0)
  have kk : Keeps [] w10 w10.drew := (Keeps.refl _ _).drew
  go_upto_region 14 with fail
  go_region_held3 (fun w' => w'.cell? ⟨db, 0, none⟩ = some (ptr a.d))
    (first | exact HS2.out _ _ kk hKq | exact HS.out _ kk)
    (first | (go_at_call 30; rw [HZ2.out.2]; refine (new_at _ _).mono ?_; rintro e wn ⟨rfl, hPn, hsn, hKn⟩; have kk := kk.trans hKn)
           | (go_at_call 29; refine (HPW.out _ _ _ kk hPn (by omega)).mono ?_; rintro e wq ⟨rfl, hPq, hKq⟩))
  have hq10 : w10.heap.size ≤ w10.drew.heap.size := ((Keeps.refl [] w10).drew).size
  have hz10 : w8.heap.size ≤ w10.heap.size := E10.size
  obtain ⟨q2, hq2⟩ : ∃ q, q = w10.drew.heap.size := ⟨_, rfl⟩
  rw [← hq2] at hPq hq10
  have EQ : Keeps [a.d, a.s, a.k, a.m, lb] w8 wq := E10.trans ((kk.mono (by simp)).trans (hKq.mono (by intro k _ hk; simp at hk ⊢; omega)))
  have RV : ∀ b ∈ [q2, a.s, a.k, a.m], b ∈ [a.d, a.s, a.k, a.m, lb] ∨ w8.heap.size ≤ b := by simp; omega
  have HRUN := hid (run_cutw (c := c) (D := S.now) (k := r10 + 1) (l := z2) (T := [q2, a.s, a.k, a.m]) (fun _ => by simp [go_sem]) (cut3_at wq q2 a z2 0 S10 c r10 m10 pl wd S.now cb db hPq HO.out HN.out HI10.out (by omega) (EQ.at hC8 tC) (EQ.at hD8 tD) (by omega) (by omega)))
  clear HS HS2 HPW hPn hsn hKn kk hPq hKq hq2 hD10 E10 hP10
  go_wp2_with fail
  refine HRUN.out.mono ?_
  rintro e w11 ⟨r11, rfl, hcw, hk11⟩
  have E11 := EQ.new hk11 RV
  clear HRUN hk11 EQ RV
  obtain ⟨T2, u11, r12, m12, pl2, wd2, hP11, hu11, hr12, hI12⟩ := cutw_crash hcw (fun i => chV more i % 3)
  have HI12 := hid hI12
  have d0 := (E11.at hD8 tD).cell 0 rfl
  have hZ11 := E11.at hZ8 tZ
  have HCR := hid (crash_plain w11 q2 a T2 hP11.dev _ #[ptr (W.heap.size + 3)] (chV more) [W.heap.size + 3] _ (ulogCut4_chooser (W.heap.size + 3) more a.n (by omega)) hZ11 (by simp; omega) (by simp; exact hZ11.lt))
  clear hcw hI12
  go_wp2_with fail
  refine HCR.out.mono ?_
  rintro e w12 ⟨rfl, hD12', _, hk12⟩
  have hP12 : Pw w12 q2 a z2 u11 (crashed T2 fun i => chV more i % 3) := hP11.crashed hD12' hk12
  have E12 : Keeps [a.d, a.s, a.k, a.m, lb] w8 w12 := E11.trans (hk12.mono (by intro k _ hk; simp at hk ⊢; omega))
  have hD12 := E12.at hD8 tD
  clear HCR hD12' hk12 hZ11 E11 d0 hP11
  obtain ⟨S12, hS12⟩ : ∃ S', S' = crashed T2 fun i => chV more i % 3 := ⟨_, rfl⟩
  rw [← hS12] at hP12 HI12
  clear hS12
  have HS : Hid (∀ w', Keeps [] w12 w' → w'.cell? ⟨db, 0, none⟩ = some (ptr a.d)) := fun w' hk => (hk.at hD12 (by simp)).cell 0 rfl
  have HS2 : Hid (∀ w' w'', Keeps [] w12 w' → Keeps [a.d] w' w'' → w''.cell? ⟨db, 0, none⟩ = some (ptr a.d)) := fun w' w'' hk hk2 => (hk2.at (hk.at hD12 (by simp)) (by simp; omega)).cell 0 rfl
  have HPW := hid (fun (w' : World) (qn : Nat) (z : Int) (hk : Keeps [] w12 w') (hq : At w' qn (powO z 0)) (h0 : z < 0 ∨ 0 ≤ z) => power_at w' q2 qn a z2 u11 z S12 (hP12.keep0 hk) hq h0)
  have kk : Keeps [] w12 w12.drew := (Keeps.refl _ _).drew
  go_upto_region 17 with fail
  go_region_held3 (fun w' => w'.cell? ⟨db, 0, none⟩ = some (ptr a.d))
    (first | exact HS2.out _ _ kk hKq | exact HS.out _ kk)
    (first | (go_at_call 30; refine (new_at _ _).mono ?_; rintro e wn ⟨rfl, hPn, hsn, hKn⟩; have kk := kk.trans hKn)
           | (go_at_call 29; refine (HPW.out _ _ _ kk hPn (by omega)).mono ?_; rintro e wq ⟨rfl, hPq, hKq⟩))
  have hq12 : w12.heap.size ≤ w12.drew.heap.size := ((Keeps.refl [] w12).drew).size
  have hz12 : w8.heap.size ≤ w12.heap.size := E12.size
  obtain ⟨q3, hq3⟩ : ∃ q, q = w12.drew.heap.size := ⟨_, rfl⟩
  rw [← hq3] at hPq hq12
  have EQ : Keeps [a.d, a.s, a.k, a.m, lb] w8 wq := E12.trans ((kk.mono (by simp)).trans (hKq.mono (by intro k _ hk; simp at hk ⊢; omega)))
  have d0 := (EQ.at hD8 tD).cell 0 rfl
  have c0 := (EQ.at hC8 tC).cell 0 rfl
  have c1 := (EQ.at hC8 tC).cell 1 rfl
  have c2 := (EQ.at hC8 tC).cell 2 rfl
  clear HS HS2 HPW hPn hsn hKn kk hKq hq3 hD12 E12 hP12
  go_wp2_with fail
  refine (open_li hPq HO.out HN.out HI12.out.1 (by omega)).mono ?_
  rintro e w13 ⟨lb2, rfl, hlb2, hL13, hk13⟩
  have E13 : Keeps [a.d, a.s, a.k, a.m, lb] w8 w13 := EQ.trans (hk13.mono (by simp))
  have hzq : w8.heap.size ≤ wq.heap.size := EQ.size
  clear d0 c0 c1 c2 hk13 EQ hPq
  have HM := hid HI12.out.1.le
  go_wp2_with fail
  refine (good_at hL13 HO.out.small HM.out hci.1).mono ?_
  rintro e w14 ⟨rb, rfl, hk14, hga⟩
  obtain rfl : rb = -1 := HI12.out.1.good_ans (by omega) hga
  have hL14 := hL13.keep0 hk14
  have E14 := E13.trans (hk14.mono (by simp))
  clear hga hk14 hL13 E13
  go_wp2_with fail
  refine (undo_li hL14 HO.out HN.out HI12.out.1 (by omega)).mono ?_
  intro e w15 hr15
  obtain ⟨rfl, hL15, hk15⟩ := hr15.free hL14.pw.lo
  have hD15 := hid (undS_done (st := false) HI12.out).clean
  have E15 : Keeps [a.d, a.s, a.k, a.m, lb] w8 w15 := E14.new hk15 (by simp; omega)
  obtain ⟨T15, hT15⟩ : ∃ T', T' = execs S12 (undS c false pl2 wd2 m12 (eN 1 r12)) := ⟨_, rfl⟩
  rw [← hT15] at hL15 hD15
  have hdev := hL15.pw.dev
  have hD15b := E15.at hD8 tD
  have hC15 := E15.at hC8 tC
  have HRW15 := hid (HRW8.out.keep E15 (by rintro b off h; cases h; exact tG))
  have K15 := K8.new E15 TW
  clear hr15 hk15 hT15 hL14 E14 hL15
  have HS : Hid (∀ w', Keeps [] w15 w' → (w'.cell? ⟨db, 0, none⟩ = some (ptr a.d) ∧ w'.cell? ⟨cb, 0, none⟩ = some (.int .i64 c.log) ∧ w'.cell? ⟨cb, 1, none⟩ = some (.int .i64 c.roots) ∧ w'.cell? ⟨cb, 2, none⟩ = some (.int .i64 c.space))) :=
    fun w' hk => ⟨(hk.at hD15b (by simp)).cell 0 rfl, (hk.at hC15 (by simp)).cell 0 rfl, (hk.at hC15 (by simp)).cell 1 rfl, (hk.at hC15 (by simp)).cell 2 rfl⟩
  have HBH := hid (fun (w' : World) (hk : Keeps [] w15 w') => behind_at w' q3 a T15 c (hdev.keep hk (by simp) (by simp) (by simp) (by simp)) HO.out HN.out)
  have HKP := hid (fun (w' : World) (hk : Keeps [] w15 w') => kept6_at w' q3 a T15 c (hdev.keep hk (by simp) (by simp) (by simp) (by simp)) hci.1)
  have HAC := hid (fun (w' : World) => active_at w' c HO.out.small)
  have HEQ := hid (fun (w' : World) (a1 : Option Addr) (c1 : Nat) (h : Nat → Int) (hk : Keeps [] w15 w') (h1 : Reads w' a1 (a.n - c.act) h) (he : ∀ j, j < a.n - c.act → h j = S.now (c.act + j)) => equal_true w' a1 _ (a.n - c.act) c1 cap h _ h1 (HRW15.out.keep hk (by simp)) he (by omega))
  have kk : Keeps [] w15 w15.drew := (Keeps.refl _ _).drew
  have hal : c.act ≤ a.n := by omega
  have he1 : ∀ j, j < a.n - c.act → T15.now (c.act + j) = S.now (c.act + j) := fun j hj => (hD15.out (c.act + j) (by omega) (by omega)).1
  have he2 : ∀ j, j < a.n - c.act → T15.kept (c.act + j) = S.now (c.act + j) := fun j hj => (hD15.out (c.act + j) (by omega) (by omega)).2.1
  have HE1 := hid he1
  have HE2 := hid he2
  have hci0 : (c.act : Int) ≤ (a.n : Int) := by omega
  have han : (a.n : Int) ≤ 15000 := by omega
  clear he1 he2
  go_upto_region 22 with fail
  go_region_held3 (fun w' => w'.cell? ⟨db, 0, none⟩ = some (ptr a.d) ∧ w'.cell? ⟨cb, 0, none⟩ = some (.int .i64 c.log) ∧ w'.cell? ⟨cb, 1, none⟩ = some (.int .i64 c.roots) ∧ w'.cell? ⟨cb, 2, none⟩ = some (.int .i64 c.space))
    (exact HS.out _ kk)
    (first
      | (go_at_call 25; refine (HEQ.out _ _ _ _ kk (by first | exact HRK.out | exact HR9.out) (by first | exact HE1.out | exact HE2.out)).mono ?_; rintro e w' ⟨rfl, hk1⟩; have kk := kk.trans hk1; clear hk1)
      | (go_at_call 14; refine (HBH.out _ kk).mono ?_; rintro e w9 ⟨g9, cap9, rfl, hg9, hgb9, hR9, hk1⟩; have kk := kk.trans hk1; have HR9 := hid hR9; clear hk1 hR9 hg9 hgb9)
      | (go_at_call 27; refine (HKP.out _ kk).mono ?_; rintro e wk ⟨gk, capk, rfl, ⟨hcc, hci2, hne⟩, hRk, hk1⟩; have kk := kk.trans hk1; have HRK := hid hRk; clear hk1 hRk)
      | (go_at_call 28; refine (HAC.out _).mono ?_; rintro e w' ⟨rfl, hk1⟩; have kk := kk.trans hk1; have HRK := hid (HRK.out.keep hk1 (by simp)); clear hk1)
      | (go_at_call 28; refine (HAC.out _).mono ?_; rintro e w' ⟨rfl, hk1⟩; have kk := kk.trans hk1; clear hk1))
  all_goals
    go_wp2_with fail
    go_ret
    exact ⟨rfl, (K15.trans kk).below (Nat.le_refl _) (by simp)⟩

theorem ulogCut_walk (l r s : Int) (y : Option Addr) (co cq : Nat) (fo : Nat → Int) (x : Option Addr) (n cp : Nat) (f : Nat → Nat → Int) (lim ag bits more : Int) (W : World) (wl : (Lit.int .u16 l).wf = true) (wr : (Lit.int .u16 r).wf = true) (ws : (Lit.int .u16 s).wf = true)
    (R1 : ReadsV (Value.int .u64) W y co fo) (_ : ∀ i, i < co → (Lit.int .u64 (fo i)).wf = true) (_ : co ≤ maxLen)
    (R2 : n * 2 = 0 ∨ ∃ b off, x = some ⟨b, off, none⟩ ∧ b < W.heap.size ∧ ∀ i j, i < n → j < 2 → W.cell? ⟨b, off + (i * 2 + j), none⟩ = some (.int ((fun j => if j = 0 then .u16 else .u64 : Nat → IntKind) j) (f i j)) ∧ (Lit.int ((fun j => if j = 0 then .u16 else .u64 : Nat → IntKind) j) (f i j)).wf = true) (_ : n ≤ maxLen)
    (wlim : (Lit.int .u16 lim).wf = true) (wag : (Lit.int .u16 ag).wf = true) (_ : (Lit.int .u64 bits).wf = true) (_ : (Lit.int .u64 more).wf = true) :
    Calls Try.prog 4 #[.agg #[.int .u16 l, .int .u16 r, .int .u16 s], .slice y co cq, .slice x n cp, .int .u16 lim, .int .u16 ag, .int .u64 bits, .int .u64 more] W fun e w' => e = .returned (.bool true) ∧ Below W.heap.size W w' := by
  obtain ⟨l, rfl, hl⟩ := c3_open wl
  obtain ⟨r, rfl, hr⟩ := c3_open wr
  obtain ⟨s, rfl, hs⟩ := c3_open ws
  by_cases hg : 20 < co ∨ 20 < n
  · exact cut6_great l r s y co cq x n cp lim ag bits more W hg
  · have hb1 := bounds_u16 wlim
    have hb2 := bounds_u16 wag
    obtain ⟨lim, rfl⟩ : ∃ k : Nat, (k : Int) = lim := ⟨lim.toNat, by omega⟩
    obtain ⟨ag, rfl⟩ : ∃ k : Nat, (k : Int) = ag := ⟨ag.toNat, by omega⟩
    exact cut6_small l r s y co cq fo x n cp f lim ag bits more W hl hr hs (by omega) (by omega) (by omega) (by omega) R1 (areads_of R2)

end Go.Proofs.Ythpebaghcaelcaa
