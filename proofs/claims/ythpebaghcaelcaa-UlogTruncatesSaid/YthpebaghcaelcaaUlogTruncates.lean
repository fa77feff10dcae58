/- The walk of the law UlogTruncates. -/
import Derived.Test.YthpebaghcaelcaaA6
namespace Go.Proofs.Ythpebaghcaelcaa
open Go.RowKit Go.OpenShut

set_option maxHeartbeats 400000 in
theorem ulogTruncates1_at (w : World) (b : Nat) (bits : Int) (i : Nat) (h : At w b (wordO bits)) (hi : i ≤ 17592186044416) :
    Calls Try.prog 41 #[.int .i64 i, ptr b] w fun e w' => e = .returned (.int .u8 (chV bits i)) ∧ w = w' := by
  have c1 := h.cell 0 rfl
  go_enter Try.func41, Try.ntmps41
  go_wp2_with fail
  refine (choice_at w bits i hi).mono ?_
  rintro e w1 ⟨rfl, rfl⟩
  go_wp2
  go_ret
  exact ⟨rfl, rfl⟩

theorem ulogTruncates1_chooser (b : Nat) (bits : Int) (n : Nat) (hn : n ≤ 17592186044416) :
    Chooser 41 #[ptr b] n (chV bits) [] [b] (fun _ w => At w b (wordO bits)) where
  inv := fun w i => by simp [go_sem]
  call := fun i w hi h => (ulogTruncates1_at w b bits i h (by omega)).mono fun e w' ⟨he, hw⟩ => ⟨he, by rw [← hw]; exact h, by rw [← hw]; exact Keeps.refl _ _⟩
  keep := fun _ w w' S h hk hs => hk.at h (hs b (by simp))
  low := chV_low bits

set_option maxRecDepth 100000 in
set_option maxHeartbeats 2000000 in
theorem truncates_great (l r s : Nat) (x : Option Addr) (n cp : Nat) (lim bits : Int) (W : World) (hn : 20 < n) :
    Calls Try.prog 5 #[c3V l r s, .slice x n cp, .int .u8 lim, .int .u64 bits] W fun e w' => e = .returned (.bool true) ∧ Below W.heap.size W w' := by
  go_enter Try.func5, Try.ntmps5
  go_wp2_with fail
  refine (awake6_any _).mono ?_
  rintro e w1 ⟨rfl, hb1⟩
  have K1 := Go.Proofs.Ythpebaghcaelcaa.Below.keeps hb1 []
  go_wp2_with fail
  go_ret
  exact ⟨rfl, ((((Keeps.refl [] W).alloc _).alloc _).trans K1).below (Nat.le_refl _) (by simp)⟩

set_option maxRecDepth 100000 in
set_option maxHeartbeats 8000000 in
theorem truncates_small (l r s : Nat) (x : Option Addr) (n cp : Nat) (f : Nat → Nat → Int) (lim : Nat) (bits : Int) (W : World) (hl : l ≤ 65535) (hr : r ≤ 65535) (hs : s ≤ 65535) (hlim : lim ≤ 255) (hn : n ≤ 20) (hR : AReads W x n f) :
    Calls Try.prog 5 #[c3V l r s, .slice x n cp, .int .u8 lim, .int .u64 bits] W fun e w' => e = .returned (.bool true) ∧ Below W.heap.size W w' := by
  have g1 : decide (20 < n) = false := by rw [decide_eq_false_iff_not]; omega
  have g2 : decide (20 < (n : Int)) = false := by rw [decide_eq_false_iff_not]; omega
  have hni : (n : Int) ≤ 20 := by omega
  have hlm : (lim : Int) ≤ 255 := by omega
  have HR := hid hR
  clear hR
  go_enter Try.func5, Try.ntmps5
  go_wp2_with fail
  have hB0 := (At.new W (c3O l r s)).alloc (wordO bits)
  have hV0 := At.new (W.alloc (c3O l r s)) (wordO bits)
  have K0 := ((Keeps.refl [] W).alloc (c3O l r s)).alloc (wordO bits)
  rw [show (W.alloc (c3O l r s)).heap.size = W.heap.size + 1 by simp] at hV0
  refine (awake6_any _).mono ?_
  rintro e w1 ⟨rfl, hb1⟩
  have k1 := Go.Proofs.Ythpebaghcaelcaa.Below.keeps hb1 []
  have K1 := K0.trans k1
  have hB1 := k1.at hB0 (by simp)
  have hV1 := k1.at hV0 (by simp)
  clear hb1 k1 hB0 K0 hV0
  have c0 : w1.cell? ⟨W.heap.size, 0, none⟩ = some (.int .u16 l) := hB1.cell 0 rfl
  have c1 : w1.cell? ⟨W.heap.size, 1, none⟩ = some (.int .u16 r) := hB1.cell 1 rfl
  have c2 : w1.cell? ⟨W.heap.size, 2, none⟩ = some (.int .u16 s) := hB1.cell 2 rfl
  go_wp2_with fail
  refine (make3_at w1 l r s hl hr hs).mono ?_
  rintro e w2 ⟨rfl, hk2⟩
  have K2 := K1.trans hk2
  have hV2 := hk2.at hV1 (by simp)
  have hok := mk3_ok l r s
  obtain ⟨c, hc⟩ : ∃ c, c = mk3 l r s := ⟨_, rfl⟩
  rw [← hc] at hok ⊢
  clear hc c0 c1 c2 hB1 hk2 K1 hV1
  go_wp2_with fail
  have hC3 := At.new w2 (cfgO c)
  have K3 := K2.alloc (cfgO c)
  have hz2 := K2.size
  have hV3 := hV2.alloc (cfgO c)
  have hv2 : W.heap.size + 1 < w2.heap.size := hV2.lt
  obtain ⟨cb, hcb⟩ : ∃ cb, cb = w2.heap.size := ⟨_, rfl⟩
  rw [← hcb] at hC3 hz2 hv2 ⊢
  have HCB := hid hcb
  clear hcb K2 hV2
  refine (formatted_at _ c hok none 0 0 (fun _ => 0) (.inl rfl) (by omega)).mono ?_
  rintro e w4 ⟨p, a, u, S, rfl, haN, hP, hu, hW, hkp, his, ⟨b1, b2, b3, b4, b5⟩, hk4⟩
  simp only [World.size_alloc] at b1 b2 b3 b4 b5
  rw [← HCB.out] at b1 b2 b3 b4 b5
  have hC4 := hk4.at hC3 (by simp)
  have hV4 := hk4.at hV3 (by simp)
  have K4 := K3.trans hk4
  have hci := c_in hok haN
  have hLI := LI.fresh (fun _ => 0) (fun _ => 0) hok haN hW hkp his
  have HN := hid haN
  have HO := hid hok
  have HLI := hid hLI
  have HKP := hid (And.intro hkp his)
  have h0 := hP.lo
  clear haN hok hkp his hW hC3 K3 hk4 hLI hV3
  have c0 := hC4.cell 0 rfl
  have c1 := hC4.cell 1 rfl
  have c2 := hC4.cell 2 rfl
  go_wp2_with fail
  refine (open_li hP HO.out HN.out HLI.out.1 (by omega)).mono ?_
  rintro e w5 ⟨lb, rfl, hlb, hL5, hk5⟩
  have hC5 := hk5.at hC4 (by simp)
  have hV5 := hk5.at hV4 (by simp)
  have K5 := K4.trans hk5
  have hlbc : cb < lb := Nat.lt_of_lt_of_le hC4.lt hlb
  have hz4 : W.heap.size ≤ w4.heap.size := K4.size
  have hcT : cb ∉ [p, a.s, a.k, a.m] := by simp; omega
  have hcT2 : cb ∉ [p, a.s, a.k, a.m, lb] := by simp; omega
  have hvT2 : W.heap.size + 1 ∉ [p, a.s, a.k, a.m, lb] := by simp; omega
  have hWT : ∀ b ∈ [p, a.s, a.k, a.m, lb], b ∈ ([] : List Nat) ∨ W.heap.size ≤ b := by simp; omega
  clear c0 c1 c2 hC4 K4 hk5 hP hV4
  go_wp2_with fail
  go_loopg [38] n (fun r s wr => ∃ k : Nat, k + r = n ∧ s = .int .i64 k ∧ (∃ st u' S' m pl wd, LW wr p a (-1) u' S' lb c m st ∧ LR c a.n 1 0 m pl wd S' ∧ m ≤ k ∧ u' ≤ 110000 + 120 * (k : Int) ∧ FixAll c a.n S') ∧ Keeps [p, a.s, a.k, a.m, lb] w5 wr)
  case atStart => exact ⟨0, by omega, rfl, ⟨false, u, S, 0, _, _, hL5, HLI.out.1, Nat.le_refl _, by omega, fun j _ h2 => ⟨rfl, HKP.out.1 j h2, fun e => by rw [HKP.out.2] at e; cases e⟩⟩, Keeps.refl _ _⟩
  case round =>
    obtain ⟨k, hk, rfl, ⟨st, u', S', m, pl, wd, hLk, hRk, hmk, huk, hrk⟩, hK⟩ := hrel
    have hR := hid hRk
    have hQ := hid hrk
    clear hRk hrk
    have hCk := hK.at hC5 hcT2
    have KW : Keeps [] W wr := K5.new hK hWT
    by_cases hlt : k < n
    · obtain ⟨b, off, rfl, hbl, hcl⟩ : ∃ b off, x = some ⟨b, off, none⟩ ∧ b < W.heap.size ∧ ∀ i, i < n → W.cell? ⟨b, off + i * 2, none⟩ = some (.int .u16 (f i 0)) ∧ W.cell? ⟨b, off + i * 2 + 1, none⟩ = some (.int .u64 (f i 1)) ∧ 0 ≤ f i 0 ∧ f i 0 ≤ 65535 := by
        rcases HR.out with h | h
        · omega
        · exact h
      obtain ⟨q0, q1, q2, q3⟩ := hcl k hlt
      have d0 := (KW.cell (p := ⟨b, off + k * 2, none⟩) hbl (by simp)).trans q0
      have d1 := (KW.cell (p := ⟨b, off + k * 2 + 1, none⟩) hbl (by simp)).trans q1
      obtain ⟨z, hz⟩ : ∃ z : Nat, (z : Int) = f k 0 := ⟨(f k 0).toNat, by omega⟩
      have hzb : z ≤ 65535 := by omega
      obtain ⟨v, hv⟩ : ∃ v, v = f k 1 := ⟨_, rfl⟩
      rw [← hz] at d0
      rw [← hv] at d1
      have hpi := plc_in HO.out z
      have c0 := (hCk.alloc (aO z v)).cell 0 rfl
      have c1 := (hCk.alloc (aO z v)).cell 1 rfl
      have c2 := (hCk.alloc (aO z v)).cell 2 rfl
      clear hcl q0 q1 q2 q3 hz hv
      go_wp2_with fail
      have hA6 := At.new wr (aO z v)
      have hC6 := hCk.alloc (aO z v)
      have hL6 := hLk.keep0 ((Keeps.refl [] wr).alloc (aO z v))
      have K6 : Keeps [p, a.s, a.k, a.m, lb] w5 (wr.alloc (aO z v)) := hK.alloc _
      have hls := hLk.log.lt
      have hLl : wr.heap.size ∉ [p, a.s, a.k, a.m, lb] := by
        have l1 := hLk.pw.pow.lt
        have l2 := hLk.pw.dev.now.lt
        have l3 := hLk.pw.dev.kept.lt
        have l4 := hLk.pw.dev.map.lt
        simp; omega
      obtain ⟨ab, hab⟩ : ∃ ab, ab = wr.heap.size := ⟨_, rfl⟩
      obtain ⟨w6, hw6⟩ : ∃ w6, w6 = wr.alloc (aO z v) := ⟨_, rfl⟩
      rw [← hw6] at hA6 hC6 hL6 K6 ⊢
      rw [← hab] at hA6 hLl ⊢
      clear hw6 hab hls c0 c1 c2 d0 d1 hLk hCk hK
      refine (aplace_at _ z v c HO.out hzb).mono ?_
      rintro e w7 ⟨rfl, hk7⟩
      obtain ⟨i, hi⟩ : ∃ i, i = plc c z := ⟨_, rfl⟩
      rw [← hi] at hpi ⊢
      have hin : i < a.n := by rw [← HN.out]; exact hpi.2
      have hA7 := hk7.at hA6 (by simp)
      have hC7 := hk7.at hC6 (by simp)
      have hL7 := hL6.keep0 hk7
      have K7 := K6.trans (hk7.mono (by simp))
      have HI := hid hi
      clear hi hA6 hC6 hL6 K6 hk7
      go_wp2_with fail
      by_cases hm : m < c.log
      · refine (append_li hL7 HO.out HN.out hR.out (by omega) hm i hin (by omega)).mono ?_
        intro e w8 hr8
        obtain ⟨rfl, hL8, hk8⟩ := hr8.free hL7.pw.lo
        have hlen := appL_len (st := st) (m := m) HO.out (eN 1 0) i (S'.now i)
        have hA8 := hk8.at hA7 hLl
        have hC8 := hk8.at hC7 hcT2
        have K8 := K7.trans hk8
        have hlo := hL8.pw.lo
        have hR8 := hid (app_done (st := st) hR.out hm i (S'.now i) ⟨hpi.1, hin⟩)
        have hQ8 := hid (hQ.out.app (st := st) (e := eN 1 0) (i := i) (v := S'.now i) hm)
        obtain ⟨u8, hu8⟩ : ∃ u8, u8 = u' + ((appL c st false m (eN 1 0) i (S'.now i)).length : Int) := ⟨_, rfl⟩
        obtain ⟨S8, hS8⟩ : ∃ S8, S8 = execs S' (appL c st false m (eN 1 0) i (S'.now i)) := ⟨_, rfl⟩
        rw [← hu8] at hL8 hlo
        rw [← hS8] at hL8 hR8 hQ8
        have hu8b : u8 ≤ 110000 + 120 * (k : Int) + 110 := by omega
        clear hr8 hA7 hC7 K7 hk8 hL7 hu8 hS8 hlen
        have HS : Hid (∀ w', Keeps [] w8 w' → (w'.cell? ⟨ab, 0, none⟩ = some (.int .u16 z) ∧ w'.cell? ⟨ab, 1, none⟩ = some (.int .u64 v) ∧ w'.cell? ⟨cb, 0, none⟩ = some (.int .i64 c.log) ∧ w'.cell? ⟨cb, 1, none⟩ = some (.int .i64 c.roots) ∧ w'.cell? ⟨cb, 2, none⟩ = some (.int .i64 c.space))) :=
          fun w' hk => ⟨(hk.at hA8 (by simp)).cell 0 rfl, (hk.at hA8 (by simp)).cell 1 rfl, (hk.at hC8 (by simp)).cell 0 rfl, (hk.at hC8 (by simp)).cell 1 rfl, (hk.at hC8 (by simp)).cell 2 rfl⟩
        have hLl' : ab ∉ [p, a.s, a.k, a.m] := by simp at hLl ⊢; omega
        have HS2 : Hid (∀ w' w'', Keeps [] w8 w' → Keeps [p, a.s, a.k, a.m] w' w'' → (w''.cell? ⟨ab, 0, none⟩ = some (.int .u16 z) ∧ w''.cell? ⟨ab, 1, none⟩ = some (.int .u64 v) ∧ w''.cell? ⟨cb, 0, none⟩ = some (.int .i64 c.log) ∧ w''.cell? ⟨cb, 1, none⟩ = some (.int .i64 c.roots) ∧ w''.cell? ⟨cb, 2, none⟩ = some (.int .i64 c.space))) :=
          fun w' w'' hk hk2 => ⟨(hk2.at (hk.at hA8 (by simp)) hLl').cell 0 rfl, (hk2.at (hk.at hA8 (by simp)) hLl').cell 1 rfl, (hk2.at (hk.at hC8 (by simp)) hcT).cell 0 rfl, (hk2.at (hk.at hC8 (by simp)) hcT).cell 1 rfl, (hk2.at (hk.at hC8 (by simp)) hcT).cell 2 rfl⟩
        have HST := hid (fun (w' : World) (hk : Keeps [] w8 w') => store_ran w' p a (-1) u8 S8 i v (hL8.pw.keep0 hk) hin (by omega))
        have HPL := hid (fun (w' : World) => aplace_at w' z v c HO.out hzb)
        rw [← HI.out] at HPL
        have kk : Keeps [] w8 w8.drew := (Keeps.refl _ _).drew
        go_upto_region 14 with fail
        go_region_held3 (fun w' => w'.cell? ⟨ab, 0, none⟩ = some (.int .u16 z) ∧ w'.cell? ⟨ab, 1, none⟩ = some (.int .u64 v) ∧ w'.cell? ⟨cb, 0, none⟩ = some (.int .i64 c.log) ∧ w'.cell? ⟨cb, 1, none⟩ = some (.int .i64 c.roots) ∧ w'.cell? ⟨cb, 2, none⟩ = some (.int .i64 c.space))
          (first | exact HS2.out _ _ kk hk9 | exact HS.out _ kk)
          (first | (go_at_call 16; refine (HPL.out _).mono ?_; rintro e w' ⟨rfl, hk1⟩; have kk := kk.trans hk1; clear hk1)
                 | (go_at_call 19; refine (HST.out _ kk).mono ?_; intro e w9 hr9; obtain ⟨rfl, hP9, hk9⟩ := hr9.free hlo; clear hr9))
        have hL9 := (hL8.keep0 kk).next hP9 hk9
        have hA9 := hk9.at (kk.at hA8 (by simp)) hLl'
        have hC9 := hk9.at (kk.at hC8 (by simp)) hcT
        have K9 := K8.trans ((kk.mono (by simp)).trans hk9.lg)
        clear kk hk9 hP9 hL8 hA8 hC8 K8 HS HS2 HST
        have c0 := hC9.cell 0 rfl
        have c1 := hC9.cell 1 rfl
        have c2 := hC9.cell 2 rfl
        have d0 := hA9.cell 0 rfl
        have d1 := hA9.cell 1 rfl
        go_wp2_with fail
        refine (HPL.out _).mono ?_
        rintro e w10 ⟨rfl, hk10⟩
        have hL10 := hL9.keep0 hk10
        have K10 := K9.trans (hk10.mono (by simp))
        clear c0 c1 c2 d0 d1
        go_wp2_with fail
        refine (flush_ran w10 p a (-1) _ _ i hL10.pw hin (by simp; omega)).mono ?_
        intro e w11 hr11
        obtain ⟨rfl, hP11, hk11⟩ := hr11.free hL10.pw.lo
        have hL11 := hL10.next hP11 hk11
        go_wp2_with fail
        refine (fence_ran w11 p a (-1) _ _ hL11.pw (by simp; omega)).mono ?_
        intro e w12 hr12
        obtain ⟨rfl, hP12, hk12⟩ := hr12.free hL11.pw.lo
        have hL12 := hL11.next hP12 hk12
        have hR12 := hid (hR8.out.tri (v := v) hpi.1)
        have hQ12 := hid (hQ8.out.tri (i := i) (v := v))
        have K12 := (K10.trans hk11.lg).trans hk12.lg
        go_wp2_with fail
        go_roundg (n - (k + 1))
        case measure => omega
        case rel => exact ⟨k + 1, by omega, by go_num, ⟨true, _, _, m + 1, _, _, hL12, hR12.out, by omega, by simp; omega, hQ12.out⟩, K12⟩
      · have hmc : m = c.log := by have := hR.out.le; omega
        refine (append_full hL7 i hin hmc).mono ?_
        rintro e w8 ⟨rfl, hk8⟩
        have hL8 := hL7.keep0 hk8
        have K8 := K7.trans (hk8.mono (by simp))
        go_wp2_with fail
        go_roundg (n - (k + 1))
        case measure => omega
        case rel => exact ⟨k + 1, by omega, by go_num, ⟨st, u', S', m, pl, wd, hL8, hR.out, by omega, by omega, hQ.out⟩, K8⟩
    · have hkn : k = n := by omega
      subst hkn
      have hVk := hK.at hV5 hvT2
      have HSZ := hid (hK.size)
      clear hk hlt hC5 hV5 hK
      have HS : Hid (∀ w', Keeps [] wr w' → (w'.cell? ⟨cb, 0, none⟩ = some (.int .i64 c.log) ∧ w'.cell? ⟨cb, 1, none⟩ = some (.int .i64 c.roots) ∧ w'.cell? ⟨cb, 2, none⟩ = some (.int .i64 c.space))) :=
        fun w' hk => ⟨(hk.at hCk (by simp)).cell 0 rfl, (hk.at hCk (by simp)).cell 1 rfl, (hk.at hCk (by simp)).cell 2 rfl⟩
      have HLn := hid (fun (w' : World) (hk : Keeps [] wr w') => len6_at (hLk.keep0 hk))
      have HBH := hid (fun (w' : World) (hk : Keeps [] wr w') => behind_at w' p a S' c (hLk.keep0 hk).pw.dev HO.out HN.out)
      have kk : Keeps [] wr wr.drew := (Keeps.refl _ _).drew
      go_upto_region 18 with fail
      go_region_held3 (fun w' => w'.cell? ⟨cb, 0, none⟩ = some (.int .i64 c.log) ∧ w'.cell? ⟨cb, 1, none⟩ = some (.int .i64 c.roots) ∧ w'.cell? ⟨cb, 2, none⟩ = some (.int .i64 c.space))
        (exact HS.out _ kk)
        (first | (go_at_call 20; refine (HLn.out _ kk).mono ?_; rintro e w' ⟨rfl, rfl⟩)
               | (go_at_call 14; refine (HBH.out _ kk).mono ?_; rintro e w9 ⟨g9, cap9, rfl, hg9, hgb9, hR9, hk1⟩; have kk := kk.trans hk1; clear hk1))
      have hL9 := hLk.keep0 kk
      have hC9 := kk.at hCk (by simp)
      have hV9 := kk.at hVk (by simp)
      have K9 := KW.trans kk
      have HR9 := hid hR9
      have hgr : wr.heap.size ≤ g9 := by simpa using hg9
      have y1 := hLk.pw.dev.dev.lt
      have y2 := hLk.pw.dev.now.lt
      have y3 := hLk.pw.dev.kept.lt
      have y4 := hLk.pw.dev.map.lt
      have y5 := hLk.log.lt
      have y6 := hCk.lt
      have y8 := K9.size
      obtain ⟨z, hz⟩ : ∃ z : Int, z = (lim : Int) % 5 := ⟨_, rfl⟩
      have hzb : 0 ≤ z ∧ z ≤ 4 := by omega
      clear hR9 hg9 hLk hCk hVk KW HS HLn HBH kk
      go_wp2_with fail
      rw [← hz]
      clear hz
      refine (new_at z w9).mono ?_
      rintro e wn ⟨rfl, hPn, hsn, hKn⟩
      have hLn := hL9.keep0 hKn
      have hCn := hKn.at hC9 (by simp)
      have hVn := hKn.at hV9 (by simp)
      have HRn := hid (HR9.out.keep hKn (by simp))
      have Kn := K9.trans hKn
      obtain ⟨q, hq⟩ : ∃ q, q = w9.heap.size := ⟨_, rfl⟩
      rw [← hq] at hPn hgb9 y8 ⊢
      have HQe := hid hsn
      clear hq hL9 hC9 hV9 K9 hKn hsn
      go_wp2_with fail
      refine (power_at wn p q a (-1) u' z S' hLn.pw hPn (.inr hzb.1)).mono ?_
      rintro e wq ⟨rfl, hPq, hKq⟩
      have hLq : LW wq q a z 0 S' lb c m st := ⟨hPq, hKq.at hLn.log (by simp; exact hLn.ne.2.1)⟩
      have hCq := hKq.at hCn (by simp; omega)
      have hVq := hKq.at hVn (by simp; omega)
      have HRq := hid (HRn.out.keep hKq (by rintro b off h; cases h; simp; omega))
      have Kq : Keeps [] W wq := Kn.new hKq (by simp; omega)
      clear hLn hCn hVn Kn hKq hPq
      obtain ⟨tl, htl⟩ : ∃ tl, tl = (if m = 0 then [] else truL c st (eN 1 0)) := ⟨_, rfl⟩
      have HTL := hid htl
      have HTR := hid (trunc_li hLq HO.out HN.out hR.out (by omega))
      rw [← htl] at HTR
      have HRUN := hid (run_first 40 #[ptr lb] wq
        (fun w' => LW w' q a z (0 + (tl.length : Int)) (execs S' tl) lb c 0 (stS m st) ∧ Keeps [q, a.s, a.k, a.m, lb] wq w')
        (fun w' => (∃ S'', Cut z 0 S' tl S'' ∧ Pw w' q a z z S'') ∧ Keeps [q, a.s, a.k, a.m, lb] wq w') (fun _ => by simp [go_sem]) HTR.out)
      have hTc : cb ∉ [q, a.s, a.k, a.m, lb] := by simp; omega
      have hTv : W.heap.size + 1 ∉ [q, a.s, a.k, a.m, lb] := by simp; omega
      have hTg : ∀ b off, (some (⟨g9, c.act, none⟩ : Addr)) = some ⟨b, off, none⟩ → b ∉ [q, a.s, a.k, a.m, lb] := by rintro b off h; cases h; simp; omega
      have hTW : ∀ b ∈ [q, a.s, a.k, a.m, lb], b ∈ ([] : List Nat) ∨ W.heap.size ≤ b := by simp; omega
      clear htl hLq HTR
      go_wp2_with fail
      refine HRUN.out.mono ?_
      clear HRUN
      have hact : 16 + 4 * c.log ≤ c.act := hci.2.2.1
      have hdata : ∀ T, (∀ j, c.act ≤ j → Pre S' T j) → ∀ j, c.act ≤ j → j < a.n → (crashed T fun i => chV bits i % 3).now j = S'.now j := fun T hT j h1 h2 => (hT j h1 _ (hQ.out j h1 h2)).left _
      have hoff : ∀ j, c.act ≤ j → ∀ y ∈ tl, y.Off j := fun j hj y hy => by
        rw [HTL.out] at hy
        by_cases h0 : m = 0
        · rw [if_pos h0] at hy; simp at hy
        · rw [if_neg h0] at hy; exact truL_off hy (by omega)
      have HDT := hid hdata
      have HOF := hid hoff
      clear hdata hoff
      rintro e w11 (⟨rfl, hL11, k11⟩ | ⟨rfl, w10, ⟨⟨S'', hcut, hP10⟩, k10⟩, rfl⟩)
      · have hlr : LR c a.n 1 (rS m 0) 0 pl wd (crashed (execs S' tl) fun i => chV bits i % 3) := by
          have h1 : LR c a.n 1 (rS m 0) 0 pl wd (execs S' tl) := by
            rw [HTL.out]
            unfold rS
            by_cases h0 : m = 0
            · subst h0
              rw [if_pos rfl, if_pos rfl]
              exact hR.out
            · rw [if_neg h0, if_neg h0]
              exact tru_done hR.out _ _
          exact h1.pre (crashed_pre _ _ _) (fun _ _ => ⟨crashed_pre _ _ _, crashed_pre _ _ _, crashed_pre _ _ _⟩) (fun _ _ _ => crashed_pre _ _ _)
        have HLR := hid hlr
        have hrs : rS m 0 ≤ 1 := by unfold rS; split <;> omega
        have HDA := hid (HDT.out (execs S' tl) fun j hj => pre_execs (HOF.out j hj))
        have hP11 := hL11.pw
        have hC11 := k11.at hCq hTc
        have hV11 := k11.at hVq hTv
        have HR11 := hid (HRq.out.keep k11 hTg)
        have K11 : Keeps [] W w11 := Kq.new k11 hTW
        obtain ⟨T, hT⟩ : ∃ T, T = execs S' tl := ⟨_, rfl⟩
        obtain ⟨u11, hu11⟩ : ∃ u11, u11 = 0 + (tl.length : Int) := ⟨_, rfl⟩
        rw [← hT] at HLR HDA hP11
        rw [← hu11] at hP11
        clear hlr hL11 k11 hCq hVq Kq hT hu11
        have HCR := hid (crash_plain w11 q a T hP11.dev _ #[ptr (W.heap.size + 1)] (chV bits) [W.heap.size + 1] _ (ulogTruncates1_chooser (W.heap.size + 1) bits a.n (by omega)) hV11 (by simp; omega) (by simp; exact hV11.lt))
        go_wp2_with fail
        refine HCR.out.mono ?_
        rintro e w12 ⟨rfl, hD12, _, hk12⟩
        have hP12 : Pw w12 q a z _ (crashed T fun i => chV bits i % 3) := ⟨hD12, hk12.at hP11.pow (by simp; have := hP11.dev.ps; have := hP11.dev.pk; have := hP11.dev.pm; omega), hP11.lo, hP11.st⟩
        have hC12 := hk12.at hC11 (by simp; omega)
        have HR12 := hid (HR11.out.keep hk12 (by rintro b off h; cases h; simp; omega))
        have K12 : Keeps [] W w12 := K11.new hk12 (by simp; omega)
        clear HCR hk12 hD12 hP11 hC11 hV11 K11
        have c0 := hC12.cell 0 rfl
        have c1 := hC12.cell 1 rfl
        have c2 := hC12.cell 2 rfl
        go_wp2_with fail
        refine (open_li hP12 HO.out HN.out HLR.out (by omega)).mono ?_
        rintro e w13 ⟨lb2, rfl, hlb2, hL13, hk13⟩
        have hC13 := hk13.at hC12 (by simp)
        have HR13 := hid (HR12.out.keep hk13 (by simp))
        have K13 := K12.trans hk13
        clear c0 c1 c2 hC12 K12 hk13 hP12
        have c0 := hC13.cell 0 rfl
        have c1 := hC13.cell 1 rfl
        have c2 := hC13.cell 2 rfl
        go_wp2_with fail
        refine (behind_at w13 q a _ c hL13.pw.dev HO.out HN.out).mono ?_
        rintro e w14 ⟨g14, cap14, rfl, _, hgb14, hR14, hk14⟩
        have hL14 := hL13.keep0 hk14
        have HE := hid (equal_true w14 _ _ (a.n - c.act) cap14 cap9 _ _ hR14 (HR13.out.keep hk14 (by simp)) (fun j hj => HDA.out (c.act + j) (by omega) (by omega)) (by omega))
        have K14 := K13.trans hk14
        clear c0 c1 c2 hC13 K13 hk14 hL13 hR14
        go_wp2_with fail
        refine HE.out.mono ?_
        rintro e w15 ⟨rfl, hk15⟩
        have hL15 := hL14.keep0 hk15
        have K15 := K14.trans hk15
        clear HE hk15 hL14 K14
        go_wp2_with fail
        refine (len6_at hL15).mono ?_
        rintro e w16 ⟨rfl, rfl⟩
        go_wp2_with fail
        go_ret
        exact ⟨rfl, K15.below (Nat.le_refl _) (by simp)⟩
      · have hm0 : ¬ m = 0 := by
          intro h0
          have h1 := HTL.out
          rw [if_pos h0] at h1
          obtain ⟨pre, k, post, e, _, _⟩ := hcut
          rw [h1] at e
          cases pre <;> simp at e
        have htl2 := HTL.out
        rw [if_neg hm0] at htl2
        have hda := HDT.out S'' fun j hj => pre_cut (HOF.out j hj) hcut
        rw [htl2] at hcut
        have hP11 := hP10.keep0 (boxed (.cells #[] 88))
        have hC11 := (k10.at hCq hTc).alloc (.cells #[] 88)
        have hV11 := (k10.at hVq hTv).alloc (.cells #[] 88)
        have HR11 := hid ((HRq.out.keep k10 hTg).keep (boxed (.cells #[] 88)) (by simp))
        have K11 : Keeps [] W _ := (Kq.new k10 hTW).alloc (.cells #[] 88)
        obtain ⟨w11, hw11⟩ : ∃ w11, w11 = w10.alloc (.cells #[] 88) := ⟨_, rfl⟩
        rw [← hw11] at hP11 hC11 hV11 HR11 K11 ⊢
        have HDA := hid hda
        have hcut2 := hcut
        clear hw11 hCq hVq Kq hP10 k10 hda htl2
        obtain ⟨T, hT⟩ : ∃ T, T = S'' := ⟨_, rfl⟩
        rw [← hT] at hcut2 HDA hP11
        clear hT hcut
        rcases tru_cut hR.out hcut2 (fun i => chV bits i % 3) pl wd with hlr | hlr
        · have HLR := hid hlr
          have hrs : (0 : Nat) ≤ 1 := by omega
          have HM0 := hid hm0
          clear hlr hcut2 hm0
          have HCR := hid (crash_plain w11 q a T hP11.dev _ #[ptr (W.heap.size + 1)] (chV bits) [W.heap.size + 1] _ (ulogTruncates1_chooser (W.heap.size + 1) bits a.n (by omega)) hV11 (by simp; omega) (by simp; exact hV11.lt))
          go_wp2_with fail
          refine HCR.out.mono ?_
          rintro e w12 ⟨rfl, hD12, _, hk12⟩
          have hP12 : Pw w12 q a z _ (crashed T fun i => chV bits i % 3) := ⟨hD12, hk12.at hP11.pow (by simp; have := hP11.dev.ps; have := hP11.dev.pk; have := hP11.dev.pm; omega), hP11.lo, hP11.st⟩
          have hC12 := hk12.at hC11 (by simp; omega)
          have HR12 := hid (HR11.out.keep hk12 (by rintro b off h; cases h; simp; omega))
          have K12 : Keeps [] W w12 := K11.new hk12 (by simp; omega)
          clear HCR hk12 hD12 hP11 hC11 hV11 K11
          have c0 := hC12.cell 0 rfl
          have c1 := hC12.cell 1 rfl
          have c2 := hC12.cell 2 rfl
          go_wp2_with fail
          refine (open_li hP12 HO.out HN.out HLR.out (by omega)).mono ?_
          rintro e w13 ⟨lb2, rfl, hlb2, hL13, hk13⟩
          have hC13 := hk13.at hC12 (by simp)
          have HR13 := hid (HR12.out.keep hk13 (by simp))
          have K13 := K12.trans hk13
          clear c0 c1 c2 hC12 K12 hk13 hP12
          have c0 := hC13.cell 0 rfl
          have c1 := hC13.cell 1 rfl
          have c2 := hC13.cell 2 rfl
          go_wp2_with fail
          refine (behind_at w13 q a _ c hL13.pw.dev HO.out HN.out).mono ?_
          rintro e w14 ⟨g14, cap14, rfl, _, hgb14, hR14, hk14⟩
          have hL14 := hL13.keep0 hk14
          have HE := hid (equal_true w14 _ _ (a.n - c.act) cap14 cap9 _ _ hR14 (HR13.out.keep hk14 (by simp)) (fun j hj => HDA.out (c.act + j) (by omega) (by omega)) (by omega))
          have K14 := K13.trans hk14
          clear c0 c1 c2 hC13 K13 hk14 hL13 hR14
          go_wp2_with fail
          refine HE.out.mono ?_
          rintro e w15 ⟨rfl, hk15⟩
          have hL15 := hL14.keep0 hk15
          have K15 := K14.trans hk15
          clear HE hk15 hL14 K14
          go_wp2_with fail
          refine (len6_at hL15).mono ?_
          rintro e w16 ⟨rfl, rfl⟩
          have t0 : ((m : Int) == 0) = false := by rw [beq_eq_false_iff_ne]; have := HM0.out; omega
          go_wp2_with fail
          refine (len6_at hL15).mono ?_
          rintro e w16 ⟨rfl, rfl⟩
          go_wp2_with fail
          go_ret
          exact ⟨rfl, K15.below (Nat.le_refl _) (by simp)⟩
        · have HLR := hid hlr
          have hrs : 0 + 1 ≤ 1 := by omega
          clear hlr hcut2 hm0
          have HCR := hid (crash_plain w11 q a T hP11.dev _ #[ptr (W.heap.size + 1)] (chV bits) [W.heap.size + 1] _ (ulogTruncates1_chooser (W.heap.size + 1) bits a.n (by omega)) hV11 (by simp; omega) (by simp; exact hV11.lt))
          go_wp2_with fail
          refine HCR.out.mono ?_
          rintro e w12 ⟨rfl, hD12, _, hk12⟩
          have hP12 : Pw w12 q a z _ (crashed T fun i => chV bits i % 3) := ⟨hD12, hk12.at hP11.pow (by simp; have := hP11.dev.ps; have := hP11.dev.pk; have := hP11.dev.pm; omega), hP11.lo, hP11.st⟩
          have hC12 := hk12.at hC11 (by simp; omega)
          have HR12 := hid (HR11.out.keep hk12 (by rintro b off h; cases h; simp; omega))
          have K12 : Keeps [] W w12 := K11.new hk12 (by simp; omega)
          clear HCR hk12 hD12 hP11 hC11 hV11 K11
          have c0 := hC12.cell 0 rfl
          have c1 := hC12.cell 1 rfl
          have c2 := hC12.cell 2 rfl
          go_wp2_with fail
          refine (open_li hP12 HO.out HN.out HLR.out (by omega)).mono ?_
          rintro e w13 ⟨lb2, rfl, hlb2, hL13, hk13⟩
          have hC13 := hk13.at hC12 (by simp)
          have HR13 := hid (HR12.out.keep hk13 (by simp))
          have K13 := K12.trans hk13
          clear c0 c1 c2 hC12 K12 hk13 hP12
          have c0 := hC13.cell 0 rfl
          have c1 := hC13.cell 1 rfl
          have c2 := hC13.cell 2 rfl
          go_wp2_with fail
          refine (behind_at w13 q a _ c hL13.pw.dev HO.out HN.out).mono ?_
          rintro e w14 ⟨g14, cap14, rfl, _, hgb14, hR14, hk14⟩
          have hL14 := hL13.keep0 hk14
          have HE := hid (equal_true w14 _ _ (a.n - c.act) cap14 cap9 _ _ hR14 (HR13.out.keep hk14 (by simp)) (fun j hj => HDA.out (c.act + j) (by omega) (by omega)) (by omega))
          have K14 := K13.trans hk14
          clear c0 c1 c2 hC13 K13 hk14 hL13 hR14
          go_wp2_with fail
          refine HE.out.mono ?_
          rintro e w15 ⟨rfl, hk15⟩
          have hL15 := hL14.keep0 hk15
          have K15 := K14.trans hk15
          clear HE hk15 hL14 K14
          go_wp2_with fail
          refine (len6_at hL15).mono ?_
          rintro e w16 ⟨rfl, rfl⟩
          go_wp2_with fail
          go_ret
          exact ⟨rfl, K15.below (Nat.le_refl _) (by simp)⟩

theorem ulogTruncates_walk (l r s : Int) (x : Option Addr) (n cp : Nat) (f : Nat → Nat → Int) (lim bits : Int) (W : World) (wl : (Lit.int .u16 l).wf = true) (wr : (Lit.int .u16 r).wf = true) (ws : (Lit.int .u16 s).wf = true)
    (R1 : n * 2 = 0 ∨ ∃ b off, x = some ⟨b, off, none⟩ ∧ b < W.heap.size ∧ ∀ i j, i < n → j < 2 → W.cell? ⟨b, off + (i * 2 + j), none⟩ = some (.int ((fun j => if j = 0 then .u16 else .u64 : Nat → IntKind) j) (f i j)) ∧ (Lit.int ((fun j => if j = 0 then .u16 else .u64 : Nat → IntKind) j) (f i j)).wf = true) (_ : n ≤ maxLen) (wm : (Lit.int .u8 lim).wf = true) (_ : (Lit.int .u64 bits).wf = true) :
    Calls Try.prog 5 #[.agg #[.int .u16 l, .int .u16 r, .int .u16 s], .slice x n cp, .int .u8 lim, .int .u64 bits] W fun e w' => e = .returned (.bool true) ∧ Below W.heap.size W w' := by
  obtain ⟨l, rfl, hl⟩ := c3_open wl
  obtain ⟨r, rfl, hr⟩ := c3_open wr
  obtain ⟨s, rfl, hs⟩ := c3_open ws
  have hb := bounds_u8 wm
  obtain ⟨lim, rfl⟩ : ∃ k : Nat, (k : Int) = lim := ⟨lim.toNat, by omega⟩
  by_cases hn : 20 < n
  · exact truncates_great l r s x n cp lim bits W hn
  · exact truncates_small l r s x n cp f lim bits W hl hr hs (by omega) (by omega) (areads_of R1)

end Go.Proofs.Ythpebaghcaelcaa
