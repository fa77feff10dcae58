/- The walk of the law UlogOnce. -/
import Derived.Test.YthpebaghcaelcaaA6
namespace Go.Proofs.Ythpebaghcaelcaa
open Go.RowKit Go.OpenShut

set_option maxHeartbeats 400000 in
theorem ulogOnce1_at (w : World) (b : Nat) (bits : Int) (i : Nat) (h : At w b (wordO bits)) (hi : i ≤ 17592186044416) :
    Calls Try.prog 44 #[.int .i64 i, ptr b] w fun e w' => e = .returned (.int .u8 (chV bits i)) ∧ w = w' := by
  have c1 := h.cell 0 rfl
  go_enter Try.func44, Try.ntmps44
  go_wp2_with fail
  refine (choice_at w bits i hi).mono ?_
  rintro e w1 ⟨rfl, rfl⟩
  go_wp2
  go_ret
  exact ⟨rfl, rfl⟩

theorem ulogOnce1_chooser (b : Nat) (bits : Int) (n : Nat) (hn : n ≤ 17592186044416) :
    Chooser 44 #[ptr b] n (chV bits) [] [b] (fun _ w => At w b (wordO bits)) where
  inv := fun w i => by simp [go_sem]
  call := fun i w hi h => (ulogOnce1_at w b bits i h (by omega)).mono fun e w' ⟨he, hw⟩ => ⟨he, by rw [← hw]; exact h, by rw [← hw]; exact Keeps.refl _ _⟩
  keep := fun _ w w' S h hk hs => hk.at h (hs b (by simp))
  low := chV_low bits

set_option maxRecDepth 100000 in
set_option maxHeartbeats 2000000 in
theorem once_great (l r s : Nat) (x : Option Addr) (n cp : Nat) (bits : Int) (W : World) (hn : 20 < n) :
    Calls Try.prog 7 #[c3V l r s, .slice x n cp, .int .u64 bits] W fun e w' => e = .returned (.bool true) ∧ Below W.heap.size W w' := by
  go_enter Try.func7, Try.ntmps7
  go_wp2_with fail
  refine (awake6_any _).mono ?_
  rintro e w1 ⟨rfl, hb1⟩
  have K1 := Go.Proofs.Ythpebaghcaelcaa.Below.keeps hb1 []
  go_wp2_with fail
  go_ret
  exact ⟨rfl, ((((Keeps.refl [] W).alloc _).alloc _).trans K1).below (Nat.le_refl _) (by simp)⟩

set_option maxRecDepth 100000 in
set_option maxHeartbeats 8000000 in
theorem once_small (l r s : Nat) (x : Option Addr) (n cp : Nat) (f : Nat → Nat → Int) (bits : Int) (W : World) (hl : l ≤ 65535) (hr : r ≤ 65535) (hs : s ≤ 65535) (hn : n ≤ 20) (hR : AReads W x n f) :
    Calls Try.prog 7 #[c3V l r s, .slice x n cp, .int .u64 bits] W fun e w' => e = .returned (.bool true) ∧ Below W.heap.size W w' := by
  have g1 : decide (20 < n) = false := by rw [decide_eq_false_iff_not]; omega
  have g2 : decide (20 < (n : Int)) = false := by rw [decide_eq_false_iff_not]; omega
  have hni : (n : Int) ≤ 20 := by omega
  have HR := hid hR
  clear hR
  go_enter Try.func7, Try.ntmps7
  go_wp2_with fail
  have hB0 := (At.new W (c3O l r s)).alloc (wordO bits)
  have hV0 := At.new (W.alloc (c3O l r s)) (wordO bits)
  have K0 := ((Keeps.refl [] W).alloc (c3O l r s)).alloc (wordO bits)
  rw [show (W.alloc (c3O l r s)).heap.size = W.heap.size + 1 by simp] at hV0
  refine (awake6_any _).mono ?_
  rintro e w1 ⟨rfl, hb1⟩
  have k1 := Go.Proofs.Ythpebaghcaelcaa.Below.keeps hb1 []
  have K1 := K0.trans k1
  have hB1 := k1.at hB0 (by simp)
  have hV1 := k1.at hV0 (by simp)
  clear hb1 k1 hB0 K0 hV0
  have c0 : w1.cell? ⟨W.heap.size, 0, none⟩ = some (.int .u16 l) := hB1.cell 0 rfl
  have c1 : w1.cell? ⟨W.heap.size, 1, none⟩ = some (.int .u16 r) := hB1.cell 1 rfl
  have c2 : w1.cell? ⟨W.heap.size, 2, none⟩ = some (.int .u16 s) := hB1.cell 2 rfl
  go_wp2_with fail
  refine (make3_at w1 l r s hl hr hs).mono ?_
  rintro e w2 ⟨rfl, hk2⟩
  have K2 := K1.trans hk2
  have hV2 := hk2.at hV1 (by simp)
  have hok := mk3_ok l r s
  obtain ⟨c, hc⟩ : ∃ c, c = mk3 l r s := ⟨_, rfl⟩
  rw [← hc] at hok ⊢
  clear hc c0 c1 c2 hB1 hk2 K1 hV1
  go_wp2_with fail
  have hC3 := At.new w2 (cfgO c)
  have K3 := K2.alloc (cfgO c)
  have hz2 := K2.size
  have hV3 := hV2.alloc (cfgO c)
  have hv2 : W.heap.size + 1 < w2.heap.size := hV2.lt
  obtain ⟨cb, hcb⟩ : ∃ cb, cb = w2.heap.size := ⟨_, rfl⟩
  rw [← hcb] at hC3 hz2 hv2 ⊢
  have HCB := hid hcb
  clear hcb K2 hV2
  refine (formatted_at _ c hok none 0 0 (fun _ => 0) (.inl rfl) (by omega)).mono ?_
  rintro e w4 ⟨p, a, u, S, rfl, haN, hP, hu, hW, hkp, his, ⟨b1, b2, b3, b4, b5⟩, hk4⟩
  simp only [World.size_alloc] at b1 b2 b3 b4 b5
  rw [← HCB.out] at b1 b2 b3 b4 b5
  have hC4 := hk4.at hC3 (by simp)
  have hV4 := hk4.at hV3 (by simp)
  have K4 := K3.trans hk4
  have hci := c_in hok haN
  have hLI := LI.fresh (fun _ => 0) (fun _ => 0) hok haN hW hkp his
  have HN := hid haN
  have HO := hid hok
  have HLI := hid hLI
  have HKP := hid (And.intro hkp his)
  have h0 := hP.lo
  clear haN hok hkp his hW hC3 K3 hk4 hLI hV3
  have c0 := hC4.cell 0 rfl
  have c1 := hC4.cell 1 rfl
  have c2 := hC4.cell 2 rfl
  go_wp2_with fail
  refine (open_li hP HO.out HN.out HLI.out.1 (by omega)).mono ?_
  rintro e w5 ⟨lb, rfl, hlb, hL5, hk5⟩
  have hC5 := hk5.at hC4 (by simp)
  have hV5 := hk5.at hV4 (by simp)
  have K5 := K4.trans hk5
  have hlbc : cb < lb := Nat.lt_of_lt_of_le hC4.lt hlb
  have hz4 : W.heap.size ≤ w4.heap.size := K4.size
  have hcT : cb ∉ [p, a.s, a.k, a.m] := by simp; omega
  have hcT2 : cb ∉ [p, a.s, a.k, a.m, lb] := by simp; omega
  have hvT2 : W.heap.size + 1 ∉ [p, a.s, a.k, a.m, lb] := by simp; omega
  have hWT : ∀ b ∈ [p, a.s, a.k, a.m, lb], b ∈ ([] : List Nat) ∨ W.heap.size ≤ b := by simp; omega
  clear c0 c1 c2 hC4 K4 hk5 hP hV4
  go_wp2_with fail
  go_loopg [34] n (fun r s wr => ∃ k : Nat, k + r = n ∧ s = .int .i64 k ∧ AInv p a lb c S.now k wr ∧ Keeps [p, a.s, a.k, a.m, lb] w5 wr)
  case atStart => exact ⟨0, by omega, rfl, ⟨false, u, S, 0, _, _, hL5, HLI.out, Nat.le_refl _, by omega, rest_fresh _ HKP.out.1 HKP.out.2⟩, Keeps.refl _ _⟩
  case round =>
    obtain ⟨k, hk, rfl, ⟨st, u', S', m, pl, wd, hLk, hRk, hmk, huk, hrk⟩, hK⟩ := hrel
    have hR := hid hRk
    have hQ := hid hrk
    clear hRk hrk
    have hCk := hK.at hC5 hcT2
    have KW : Keeps [] W wr := K5.new hK hWT
    by_cases hlt : k < n
    · obtain ⟨b, off, rfl, hbl, hcl⟩ : ∃ b off, x = some ⟨b, off, none⟩ ∧ b < W.heap.size ∧ ∀ i, i < n → W.cell? ⟨b, off + i * 2, none⟩ = some (.int .u16 (f i 0)) ∧ W.cell? ⟨b, off + i * 2 + 1, none⟩ = some (.int .u64 (f i 1)) ∧ 0 ≤ f i 0 ∧ f i 0 ≤ 65535 := by
        rcases HR.out with h | h
        · omega
        · exact h
      obtain ⟨q0, q1, q2, q3⟩ := hcl k hlt
      have d0 := (KW.cell (p := ⟨b, off + k * 2, none⟩) hbl (by simp)).trans q0
      have d1 := (KW.cell (p := ⟨b, off + k * 2 + 1, none⟩) hbl (by simp)).trans q1
      obtain ⟨z, hz⟩ : ∃ z : Nat, (z : Int) = f k 0 := ⟨(f k 0).toNat, by omega⟩
      have hzb : z ≤ 65535 := by omega
      obtain ⟨v, hv⟩ : ∃ v, v = f k 1 := ⟨_, rfl⟩
      rw [← hz] at d0
      rw [← hv] at d1
      have hpi := plc_in HO.out z
      have c0 := (hCk.alloc (aO z v)).cell 0 rfl
      have c1 := (hCk.alloc (aO z v)).cell 1 rfl
      have c2 := (hCk.alloc (aO z v)).cell 2 rfl
      clear hcl q0 q1 q2 q3 hz hv
      go_wp2_with fail
      have hA6 := At.new wr (aO z v)
      have hC6 := hCk.alloc (aO z v)
      have hL6 := hLk.keep0 ((Keeps.refl [] wr).alloc (aO z v))
      have K6 : Keeps [p, a.s, a.k, a.m, lb] w5 (wr.alloc (aO z v)) := hK.alloc _
      have hls := hLk.log.lt
      have hLl : wr.heap.size ∉ [p, a.s, a.k, a.m, lb] := by
        have l1 := hLk.pw.pow.lt
        have l2 := hLk.pw.dev.now.lt
        have l3 := hLk.pw.dev.kept.lt
        have l4 := hLk.pw.dev.map.lt
        simp; omega
      obtain ⟨ab, hab⟩ : ∃ ab, ab = wr.heap.size := ⟨_, rfl⟩
      obtain ⟨w6, hw6⟩ : ∃ w6, w6 = wr.alloc (aO z v) := ⟨_, rfl⟩
      rw [← hw6] at hA6 hC6 hL6 K6 ⊢
      rw [← hab] at hA6 hLl ⊢
      clear hw6 hab hls c0 c1 c2 d0 d1 hLk hCk hK
      refine (aplace_at _ z v c HO.out hzb).mono ?_
      rintro e w7 ⟨rfl, hk7⟩
      obtain ⟨i, hi⟩ : ∃ i, i = plc c z := ⟨_, rfl⟩
      rw [← hi] at hpi ⊢
      have hin : i < a.n := by rw [← HN.out]; exact hpi.2
      have hA7 := hk7.at hA6 (by simp)
      have hC7 := hk7.at hC6 (by simp)
      have hL7 := hL6.keep0 hk7
      have K7 := K6.trans (hk7.mono (by simp))
      have HI := hid hi
      clear hi hA6 hC6 hL6 K6 hk7
      go_wp2_with fail
      by_cases hm : m < c.log
      · refine (append_li hL7 HO.out HN.out hR.out.1 (by omega) hm i hin (by omega)).mono ?_
        intro e w8 hr8
        obtain ⟨rfl, hL8, hk8⟩ := hr8.free hL7.pw.lo
        have hlen := appL_len (st := st) (m := m) HO.out (eN 1 0) i (S'.now i)
        have hA8 := hk8.at hA7 hLl
        have hC8 := hk8.at hC7 hcT2
        have K8 := K7.trans hk8
        have hlo := hL8.pw.lo
        have hR8 := hid (show LI c a.n 1 0 (m + 1) (put pl m i) (put wd m (S'.now i)) S.now (execs S' (appL c st false m (eN 1 0) i (S'.now i))) from
          ⟨app_done hR.out.1 hm i _ ⟨hpi.1, hin⟩, hR.out.2.grow (fun j _ _ => (app_pre (by omega) (by omega) (by omega)).1) i ⟨hpi.1, hin⟩⟩)
        have hQ8 := hid (show Rest a.n (m + 1) (put pl m i) (execs S' (appL c st false m (eN 1 0) i (S'.now i))) from hQ.out.app _)
        obtain ⟨u8, hu8⟩ : ∃ u8, u8 = u' + ((appL c st false m (eN 1 0) i (S'.now i)).length : Int) := ⟨_, rfl⟩
        obtain ⟨S8, hS8⟩ : ∃ S8, S8 = execs S' (appL c st false m (eN 1 0) i (S'.now i)) := ⟨_, rfl⟩
        rw [← hu8] at hL8 hlo
        rw [← hS8] at hL8 hR8 hQ8
        have hu8b : u8 ≤ 110000 + 120 * (k : Int) + 110 := by omega
        clear hr8 hA7 hC7 K7 hk8 hL7 hu8 hS8 hlen
        have HS : Hid (∀ w', Keeps [] w8 w' → (w'.cell? ⟨ab, 0, none⟩ = some (.int .u16 z) ∧ w'.cell? ⟨ab, 1, none⟩ = some (.int .u64 v) ∧ w'.cell? ⟨cb, 0, none⟩ = some (.int .i64 c.log) ∧ w'.cell? ⟨cb, 1, none⟩ = some (.int .i64 c.roots) ∧ w'.cell? ⟨cb, 2, none⟩ = some (.int .i64 c.space))) :=
          fun w' hk => ⟨(hk.at hA8 (by simp)).cell 0 rfl, (hk.at hA8 (by simp)).cell 1 rfl, (hk.at hC8 (by simp)).cell 0 rfl, (hk.at hC8 (by simp)).cell 1 rfl, (hk.at hC8 (by simp)).cell 2 rfl⟩
        have hLl' : ab ∉ [p, a.s, a.k, a.m] := by simp at hLl ⊢; omega
        have HS2 : Hid (∀ w' w'', Keeps [] w8 w' → Keeps [p, a.s, a.k, a.m] w' w'' → (w''.cell? ⟨ab, 0, none⟩ = some (.int .u16 z) ∧ w''.cell? ⟨ab, 1, none⟩ = some (.int .u64 v) ∧ w''.cell? ⟨cb, 0, none⟩ = some (.int .i64 c.log) ∧ w''.cell? ⟨cb, 1, none⟩ = some (.int .i64 c.roots) ∧ w''.cell? ⟨cb, 2, none⟩ = some (.int .i64 c.space))) :=
          fun w' w'' hk hk2 => ⟨(hk2.at (hk.at hA8 (by simp)) hLl').cell 0 rfl, (hk2.at (hk.at hA8 (by simp)) hLl').cell 1 rfl, (hk2.at (hk.at hC8 (by simp)) hcT).cell 0 rfl, (hk2.at (hk.at hC8 (by simp)) hcT).cell 1 rfl, (hk2.at (hk.at hC8 (by simp)) hcT).cell 2 rfl⟩
        have HST := hid (fun (w' : World) (hk : Keeps [] w8 w') => store_ran w' p a (-1) u8 S8 i v (hL8.pw.keep0 hk) hin (by omega))
        have HPL := hid (fun (w' : World) => aplace_at w' z v c HO.out hzb)
        rw [← HI.out] at HPL
        have kk : Keeps [] w8 w8.drew := (Keeps.refl _ _).drew
        go_upto_region 14 with fail
        go_region_held3 (fun w' => w'.cell? ⟨ab, 0, none⟩ = some (.int .u16 z) ∧ w'.cell? ⟨ab, 1, none⟩ = some (.int .u64 v) ∧ w'.cell? ⟨cb, 0, none⟩ = some (.int .i64 c.log) ∧ w'.cell? ⟨cb, 1, none⟩ = some (.int .i64 c.roots) ∧ w'.cell? ⟨cb, 2, none⟩ = some (.int .i64 c.space))
          (first | exact HS2.out _ _ kk hk9 | exact HS.out _ kk)
          (first | (go_at_call 16; refine (HPL.out _).mono ?_; rintro e w' ⟨rfl, hk1⟩; have kk := kk.trans hk1; clear hk1)
                 | (go_at_call 19; refine (HST.out _ kk).mono ?_; intro e w9 hr9; obtain ⟨rfl, hP9, hk9⟩ := hr9.free hlo; clear hr9))
        have hL9 := (hL8.keep0 kk).next hP9 hk9
        have hR9 := hid (LI.store (v := v) hR8.out (k := m) (by omega) (put_on pl m i))
        have hQ9 := hid (hQ8.out.store (v := v) (k := m) (by omega) (put_on pl m i))
        have K9 := K8.trans ((kk.mono (by simp)).trans hk9.lg)
        go_wp2_with fail
        go_roundg (n - (k + 1))
        case measure => omega
        case rel => exact ⟨k + 1, by omega, by go_num, ⟨true, _, _, m + 1, _, _, hL9, hR9.out, by omega, by simp; omega, hQ9.out⟩, K9⟩
      · have hmc : m = c.log := by have := hR.out.1.le; omega
        refine (append_full hL7 i hin hmc).mono ?_
        rintro e w8 ⟨rfl, hk8⟩
        have hL8 := hL7.keep0 hk8
        have K8 := K7.trans (hk8.mono (by simp))
        go_wp2_with fail
        go_roundg (n - (k + 1))
        case measure => omega
        case rel => exact ⟨k + 1, by omega, by go_num, ⟨st, u', S', m, pl, wd, hL8, hR.out, by omega, by omega, hQ.out⟩, K8⟩
    · have hkn : k = n := by omega
      subst hkn
      have hVk := hK.at hV5 hvT2
      clear hk hlt hC5 hV5 hK
      go_wp2_with fail
      refine (undo_li hLk HO.out HN.out hR.out.1 (by omega)).mono ?_
      intro e w8 hr8
      obtain ⟨rfl, hL8, hk8⟩ := hr8.free hLk.pw.lo
      have hlen := undS_len (st := st) (pl := pl) (wd := wd) HO.out hR.out.1.le (eN 1 0)
      have hF := hQ.out.undone (st := st) hR.out
      have hLT := undS_done (st := st) hR.out
      have hC8 := hk8.at hCk hcT2
      have hV8 := hk8.at hVk hvT2
      have K8 : Keeps [] W w8 := KW.new hk8 hWT
      obtain ⟨T, hT⟩ : ∃ T, T = execs S' (undS c st pl wd m (eN 1 0)) := ⟨_, rfl⟩
      obtain ⟨u8, hu8⟩ : ∃ u8, u8 = u' + ((undS c st pl wd m (eN 1 0)).length : Int) := ⟨_, rfl⟩
      obtain ⟨r8, hr8e⟩ : ∃ r8, r8 = rS m 0 := ⟨_, rfl⟩
      have hr8b : r8 ≤ 1 := by rw [hr8e]; unfold rS; split <;> omega
      rw [← hT] at hL8 hF hLT
      rw [← hu8] at hL8
      rw [← hr8e] at hLT
      have hu8b : u8 ≤ 200000 := by omega
      have HF := hid hF
      have HLT := hid hLT
      clear hr8 hk8 hLk hCk hVk KW hT hu8 hr8e hF hLT hlen
      go_wp2_with fail
      refine (words_at w8 p a T hL8.pw.dev).mono ?_
      rintro e w9 ⟨v9, rfl, hv9, hk9⟩
      obtain ⟨g9, cap9, rfl, hg9, hgb9, _, hR9⟩ := hv9.reads
      have hL9 := hL8.keep0 hk9
      have hC9 := hk9.at hC8 (by simp)
      have hV9 := hk9.at hV8 (by simp)
      have K9 := K8.trans hk9
      have HR9 := hid hR9
      have hgW : W.heap.size ≤ g9 := Nat.le_trans K8.size hg9
      have hL8l := hL8.log.lt
      have hP8l := hL8.pw.pow.lt
      have hs8l := hL8.pw.dev.now.lt
      have hk8l := hL8.pw.dev.kept.lt
      have hm8l := hL8.pw.dev.map.lt
      have hgT : g9 ∉ [p, a.s, a.k, a.m, lb] := by simp; omega
      clear hv9 hR9 hk9 hC8 hV8 K8 hL8
      go_wp2_with fail
      refine (undo_zero hL9).mono ?_
      intro e w10 hr10
      obtain ⟨rfl, hL10, hk10⟩ := hr10.free hL9.pw.lo
      have hC10 := hk10.at hC9 hcT2
      have hV10 := hk10.at hV9 hvT2
      have K10 : Keeps [] W w10 := K9.new hk10 hWT
      have HR10 := hid (HR9.out.keep hk10 (by rintro b off h; cases h; exact hgT))
      have hL10' : LW w10 p a (-1) u8 T lb c 0 (stS m st) := by simpa [execs_nil] using hL10
      clear hr10 hk10 hL10 hL9 hC9 hV9 K9
      have c0 := hC10.cell 0 rfl
      have c1 := hC10.cell 1 rfl
      have c2 := hC10.cell 2 rfl
      go_wp2_with fail
      refine (open_li hL10'.pw HO.out HN.out HLT.out.1 (by omega)).mono ?_
      rintro e w11 ⟨lb2, rfl, hlb2, hM11, hk11⟩
      have hL11 := hL10'.keep0 hk11
      have hV11 := hk11.at hV10 (by simp)
      have HR11 := hid (HR10.out.keep hk11 (by simp))
      have K11 := K10.trans hk11
      have hl2 : W.heap.size ≤ lb2 := Nat.le_trans K10.size hlb2
      have hne2 : lb ≠ lb2 := by have := hL10'.log.lt; omega
      have hg2 : g9 ∉ [p, a.s, a.k, a.m, lb2] := by
        simp at hgT ⊢
        have : g9 < w10.heap.size := by rcases HR10.out with h | ⟨b, off, he, hb, _⟩; omega; cases he; exact hb
        omega
      have hv2' : W.heap.size + 1 ∉ [p, a.s, a.k, a.m, lb2] := by
        have := hV10.lt
        simp at hvT2 ⊢
        omega
      clear c0 c1 c2 hC10 hV10 K10 hL10' hk11
      go_wp2_with fail
      refine (undo_zero hM11).mono ?_
      intro e w12 hr12
      obtain ⟨rfl, hM12, hk12⟩ := hr12.free hM11.pw.lo
      have hM12' : LW w12 p a (-1) u8 T lb2 c 0 false := by simpa [execs_nil] using hM12
      have hB12 : At w12 lb (logO a.d c 0 (stS m st)) := hk12.at hL11.log (by obtain ⟨n1, n2, n3, n4, n5⟩ := hL11.ne; simp; omega)
      have hV12 := hk12.at hV11 hv2'
      have HR12 := hid (HR11.out.keep hk12 (by rintro b off h; cases h; exact hg2))
      have K12 : Keeps [] W w12 := K11.new hk12 (by simp; omega)
      clear hr12 hk12 hM12 hM11 hL11 hV11 K11
      have HCR := hid (crash_plain w12 p a T hM12'.pw.dev _ #[ptr (W.heap.size + 1)] (chV bits) [W.heap.size + 1] _ (ulogOnce1_chooser (W.heap.size + 1) bits a.n (by omega)) hV12 (by simp; omega) (by simp; exact hV12.lt))
      go_wp2_with fail
      refine HCR.out.mono ?_
      rintro e w13 ⟨rfl, hD13, _, hk13⟩
      have hM13 : LW w13 p a (-1) u8 (crashed T fun i => chV bits i % 3) lb2 c 0 false := hM12'.next ⟨hD13, hk13.at hM12'.pw.pow (by simp; have := hM12'.pw.dev.ps; have := hM12'.pw.dev.pk; have := hM12'.pw.dev.pm; omega), hM12'.pw.lo, .inl (by omega)⟩ (hk13.mono (by intro q _ hq; simp at hq ⊢; omega))
      have hB13 := hk13.at hB12 (by
        have q1 : lb ≠ a.s := cells_ne hB12 hM12'.pw.dev.now (by decide)
        have q2 : lb ≠ a.k := cells_ne hB12 hM12'.pw.dev.kept (by decide)
        have q3 : lb ≠ a.m := by
          rintro rfl
          obtain ⟨x, y, hm, _⟩ := hM12'.pw.dev.map
          have := hB12.inj hm
          cases this
        simp; exact ⟨q1, q2, q3⟩)
      have hL13 : LW w13 p a (-1) u8 (crashed T fun i => chV bits i % 3) lb c 0 (stS m st) := ⟨hM13.pw, hB13⟩
      have HR13 := hid (HR12.out.keep hk13 (by rintro b off h; cases h; simp at hg2 ⊢; omega))
      have K13 : Keeps [] W w13 := K12.new hk13 (by simp; omega)
      have HE8 := hid (show (crashed T fun i => chV bits i % 3).now 8 = (eN 1 r8 : Nat) from HLT.out.1.ep.left _)
      clear HCR hk13 hD13 hM12' hB12 hV12 K12 hB13
      go_wp2_with fail
      refine (words_at w13 p a _ hM13.pw.dev).mono ?_
      rintro e w14 ⟨v14, rfl, hv14, hk14⟩
      obtain ⟨g14, cap14, rfl, _, _, _, hR14⟩ := hv14.reads
      have hM14 := hM13.keep0 hk14
      have hL14 := hL13.keep0 hk14
      have HE := hid (equal_true w14 _ _ a.n cap14 cap9 _ _ hR14 (HR13.out.keep hk14 (by simp)) (fun j hj => (HF.out j hj).left _) (by omega))
      have K14 := K13.trans hk14
      clear hv14 hR14 hk14 hM13 hL13 K13
      go_wp2_with fail
      refine HE.out.mono ?_
      rintro e w15 ⟨rfl, hk15⟩
      have hM15 := hM14.keep0 hk15
      have hL15 := hL14.keep0 hk15
      have K15 := K14.trans hk15
      clear HE hk15 hM14 hL14 K14
      go_wp2_with fail
      refine (epoch6_at hM15 (eN 1 r8) (by have := eN_lt 1 r8; omega) HE8.out hci.2.1).mono ?_
      rintro e w16 ⟨rfl, rfl⟩
      go_wp2_with fail
      refine (epoch6_at hL15 (eN 1 r8) (by have := eN_lt 1 r8; omega) HE8.out hci.2.1).mono ?_
      rintro e w16 ⟨rfl, rfl⟩
      go_wp2_with fail
      go_ret
      exact ⟨rfl, K15.below (Nat.le_refl _) (by simp)⟩

theorem ulogOnce_walk (l r s : Int) (x : Option Addr) (n cp : Nat) (f : Nat → Nat → Int) (bits : Int) (W : World) (wl : (Lit.int .u16 l).wf = true) (wr : (Lit.int .u16 r).wf = true) (ws : (Lit.int .u16 s).wf = true)
    (R1 : n * 2 = 0 ∨ ∃ b off, x = some ⟨b, off, none⟩ ∧ b < W.heap.size ∧ ∀ i j, i < n → j < 2 → W.cell? ⟨b, off + (i * 2 + j), none⟩ = some (.int ((fun j => if j = 0 then .u16 else .u64 : Nat → IntKind) j) (f i j)) ∧ (Lit.int ((fun j => if j = 0 then .u16 else .u64 : Nat → IntKind) j) (f i j)).wf = true) (_ : n ≤ maxLen) (_ : (Lit.int .u64 bits).wf = true) :
    Calls Try.prog 7 #[.agg #[.int .u16 l, .int .u16 r, .int .u16 s], .slice x n cp, .int .u64 bits] W fun e w' => e = .returned (.bool true) ∧ Below W.heap.size W w' := by
  obtain ⟨l, rfl, hl⟩ := c3_open wl
  obtain ⟨r, rfl, hr⟩ := c3_open wr
  obtain ⟨s, rfl, hs⟩ := c3_open ws
  by_cases hn : 20 < n
  · exact once_great l r s x n cp bits W hn
  · exact once_small l r s x n cp f bits W hl hr hs (by omega) (areads_of R1)

end Go.Proofs.Ythpebaghcaelcaa
