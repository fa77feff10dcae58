/- The walk of the law SectionKeeps. -/
import Derived.Test.YtphblanaicaicaaGreatMdoF
namespace Go.Proofs.YtphblanaicaicaaGreat
open Go.RowKit Go.OpenShut

set_option maxHeartbeats 400000 in
theorem sectionKeeps1_at (w : World) (b : Nat) (bits : Int) (i : Nat) (h : At w b (wordO bits)) (hi : i ≤ 17592186044416) :
    Calls Tryz.prog 28 #[.int .i64 i, ptr b] w fun e w' => e = .returned (.int .u8 (chV bits i)) ∧ w = w' := by
  have c1 := h.cell 0 rfl
  go_enter Tryz.func28, Tryz.ntmps28
  go_wp2_with fail
  refine (choice_at w bits i hi).mono ?_
  rintro e w1 ⟨rfl, rfl⟩
  go_wp2
  go_ret
  exact ⟨rfl, rfl⟩

theorem sectionKeeps1_chooser (b : Nat) (bits : Int) (n : Nat) (hn : n ≤ 17592186044416) :
    Chooser 28 #[ptr b] n (chV bits) [] [b] (fun _ w => At w b (wordO bits)) where
  inv := fun w i => by simp [go_sem]
  call := fun i w hi h => (sectionKeeps1_at w b bits i h (by omega)).mono fun e w' ⟨he, hw⟩ => ⟨he, by rw [← hw]; exact h, by rw [← hw]; exact Keeps.refl _ _⟩
  keep := fun _ w w' S h hk hs => hk.at h (hs b (by simp))
  low := chV_low bits

set_option maxRecDepth 100000 in
set_option maxHeartbeats 2000000 in
theorem keeps7_great (l r s : Nat) (x : Option Addr) (n cp : Nat) (fr bits : Int) (W : World) (hg : 40 < n) :
    Calls Tryz.prog 5 #[c3V l r s, .slice x n cp, .int .u8 fr, .int .u64 bits] W fun e w' => e = .returned (.bool true) ∧ Below W.heap.size W w' := by
  have g1 : decide (40 < n) = true := by rw [decide_eq_true_eq]; omega
  have g2 : decide (40 < (n : Int)) = true := by rw [decide_eq_true_eq]; omega
  go_enter Tryz.func5, Tryz.ntmps5
  go_wp2_with fail
  refine (awake7_any _).mono ?_
  rintro e w1 ⟨rfl, hb1⟩
  have K1 : Keeps [] W w1 := (((Keeps.refl [] W).alloc _).alloc _).trans (Go.Proofs.YtphblanaicaicaaGreat.Below.keeps hb1 [])
  go_wp2_with fail
  go_ret
  exact ⟨rfl, K1.below (Nat.le_refl _) (by simp)⟩

set_option maxRecDepth 100000 in
set_option maxHeartbeats 8000000 in
theorem keeps7_small (l r s : Nat) (x : Option Addr) (n cp : Nat) (f : Nat → Nat → Int) (fr : Nat) (bits : Int) (W : World) (hl : l ≤ 65535) (hr : r ≤ 65535) (hs : s ≤ 65535) (hn : n ≤ 40) (hfr : fr ≤ 255) (hR : DReads W x n f) :
    Calls Tryz.prog 5 #[c3V l r s, .slice x n cp, .int .u8 fr, .int .u64 bits] W fun e w' => e = .returned (.bool true) ∧ Below W.heap.size W w' := by
  have g3 : decide (40 < n) = false := by rw [decide_eq_false_iff_not]; omega
  have g4 : decide (40 < (n : Int)) = false := by rw [decide_eq_false_iff_not]; omega
  have hni : (n : Int) ≤ 40 := by omega
  have hfri : (fr : Int) ≤ 255 := by omega
  have HR := hid hR
  clear hR
  go_enter Tryz.func5, Tryz.ntmps5
  go_wp2_with fail
  have hB0 := (At.new W (c3O l r s)).alloc (wordO bits)
  have hV0 := At.new (W.alloc (c3O l r s)) (wordO bits)
  have K0 := ((Keeps.refl [] W).alloc (c3O l r s)).alloc (wordO bits)
  rw [show (W.alloc (c3O l r s)).heap.size = W.heap.size + 1 by simp] at hV0
  refine (awake7_any _).mono ?_
  rintro e w1 ⟨rfl, hb1⟩
  have V1 : Keeps [] _ w1 := Go.Proofs.YtphblanaicaicaaGreat.Below.keeps hb1 []
  have K1 := K0.trans V1
  have hV1 := V1.at hV0 (by simp)
  clear hb1
  have c0 : w1.cell? ⟨W.heap.size, 0, none⟩ = some (.int .u16 l) := (V1.at hB0 (by simp)).cell 0 rfl
  have c1 : w1.cell? ⟨W.heap.size, 1, none⟩ = some (.int .u16 r) := (V1.at hB0 (by simp)).cell 1 rfl
  have c2 : w1.cell? ⟨W.heap.size, 2, none⟩ = some (.int .u16 s) := (V1.at hB0 (by simp)).cell 2 rfl
  have hz1 : W.heap.size + 2 ≤ w1.heap.size := by have := V1.size; simpa using this
  clear V1 hB0 hV0 K0
  go_wp2_with fail
  refine (start_at w1 l r s hl hr hs none 0 0 (fun _ => 0) (.inl rfl) (by omega)).mono ?_
  rintro e w2 ⟨p, a, u, S, q, U, mb, nv, rfl, haN, hS2, hU, hu, hLI, hF, hM2, hO2, hbs, hmb, hnv, hk2⟩
  have hok := mk3_ok l r s
  obtain ⟨c, hc⟩ : ∃ c, c = mk3 l r s := ⟨_, rfl⟩
  rw [← hc] at hok haN hS2 hLI hM2 hO2
  obtain ⟨nb, ncap, ncur, rfl, o1, o2, o3, o4, o5, o6⟩ := hO2
  have hP : MSep p a q c mb nb w2 := ⟨hok, haN, hmb, hnv nb rfl, fun b hb => by
    rcases List.mem_cons.1 hb with rfl | hb
    · exact o2.lt
    · rcases List.mem_cons.1 hb with rfl | hb
      · exact hM2.lt
      · exact hS2.lts b hb⟩
  have hSh2 : MAny p a (-1) u q c mb nb ncap w2 fr S 0 w2 := .inr ⟨_, _, _, _, _, _, _, _, ⟨_, _, _, _, _, _, _, hS2, ⟨hLI.1, fun j _ hj => hF j hj, hU⟩⟩, hM2, ⟨ncur, o2, fun i hi => by rw [Nat.zero_add]; exact o6 i hi⟩, Keeps.refl _ _⟩
  have HP := hid hP
  have K2 := K1.trans hk2
  have hV2 := hk2.at hV1 (by simp)
  have HB := hid (show ∀ b ∈ mb :: nb :: q.bl p a, W.heap.size + 2 ≤ b from fun b hb => by
    rcases List.mem_cons.1 hb with rfl | hb
    · have := hbs b (by simp); omega
    · rcases List.mem_cons.1 hb with rfl | hb
      · omega
      · have := hbs b (by simp [hb]); omega)
  clear c0 c1 c2 hc hok haN hS2 hLI hM2 o1 o2 o3 o4 o5 o6 hP hbs hmb hnv hF hU hk2 K1 hV1
  go_wp2_with fail
  refine (mdo_opn (kd0 := 0) HP.out (.inl ⟨by omega, hSh2⟩) (by omega) (by omega) (by omega) 0 (by omega) 0 hfr).mono ?_
  rintro e w3 ⟨rfl, u3, S3, K3, hO3, hu3⟩
  have hV3 := (show MAny p a (-1) u3 q c mb nb ncap w2 fr S3 0 w3 from .inl ⟨_, hO3⟩).keeps.at hV2 (fun hm => by have := HB.out _ hm; omega)
  have HO3 := hid (show MAny p a (-1) u3 q c mb nb ncap w2 fr S3 0 w3 from .inl ⟨_, hO3⟩)
  clear hSh2 hV3
  go_wp2_with fail
  go_loopg [38] n (fun r sl wr => ∃ k : Nat, k + r = n ∧ sl = .int .i64 k ∧ ∃ u S K, MOpen p a (-1) u q c mb nb ncap w2 fr S 0 K wr ∧ u ≤ 103000 + 3000 * (k : Int))
  case atStart => exact ⟨0, by omega, rfl, u3, S3, K3, hO3, by omega⟩
  case round =>
    obtain ⟨k, hk, rfl, u', S', KK, hA, hu'⟩ := hrel
    by_cases hlt : k < n
    · obtain ⟨b, off, rfl, hbl, hcl⟩ : ∃ b off, x = some ⟨b, off, none⟩ ∧ b < W.heap.size ∧ ∀ i, i < n → W.cell? ⟨b, off + i * 3, none⟩ = some (.int .u8 (f i 0)) ∧ W.cell? ⟨b, off + i * 3 + 1, none⟩ = some (.int .u16 (f i 1)) ∧ W.cell? ⟨b, off + i * 3 + 2, none⟩ = some (.int .u64 (f i 2)) ∧ 0 ≤ f i 0 ∧ f i 0 ≤ 255 ∧ 0 ≤ f i 1 ∧ f i 1 ≤ 65535 := by
        rcases HR.out with h | h
        · omega
        · exact h
      obtain ⟨q0, q1, q2, q3, q4, q5, q6⟩ := hcl k hlt
      have KW : Keeps [] W wr := K2.new (MAny.keeps (fr := fr) (S := S') (r := 0) (.inl ⟨_, hA⟩)) (fun b hb => .inr (by have := HB.out b hb; omega))
      have d0 := (KW.cell (p := ⟨b, off + k * 3, none⟩) hbl (by simp)).trans q0
      have d1 := (KW.cell (p := ⟨b, off + k * 3 + 1, none⟩) hbl (by simp)).trans q1
      have d2 := (KW.cell (p := ⟨b, off + k * 3 + 2, none⟩) hbl (by simp)).trans q2
      obtain ⟨kd, hkd⟩ : ∃ z : Nat, (z : Int) = f k 0 := ⟨(f k 0).toNat, by omega⟩
      obtain ⟨zt, hzt⟩ : ∃ z : Nat, (z : Int) = f k 1 := ⟨(f k 1).toNat, by omega⟩
      obtain ⟨v, hv⟩ : ∃ v, v = f k 2 := ⟨_, rfl⟩
      have hkb : kd ≤ 255 := by omega
      have hzb : zt ≤ 65535 := by omega
      rw [← hkd] at d0
      rw [← hzt] at d1
      rw [← hv] at d2
      have hki : (k : Int) ≤ 60 := by omega
      clear hcl q0 q1 q2 q3 q4 q5 q6 hkd hzt hv KW
      obtain ⟨z, hz⟩ : ∃ z, z = kd % 5 := ⟨_, rfl⟩
      obtain ⟨k3, hk3⟩ : ∃ k3, k3 = 3 + z := ⟨_, rfl⟩
      have hzb2 : (z : Int) ≤ 4 := by omega
      have e1 : (kd : Int) % 5 = (z : Int) := by omega
      have e2 : (kd : Int).tmod 5 = (z : Int) := by rw [Int.tmod_eq_emod_of_nonneg (by omega)]; exact e1
      have e3 : (3 : Int) + (z : Int) = (k3 : Int) := by omega
      have hkdi : (kd : Int) ≤ 255 := by omega
      have hk3b : (k3 : Int) ≤ 7 := by omega
      have HK3 := hid (show k3 % 8 ≠ 0 ∧ k3 % 8 ≠ 1 ∧ k3 % 8 ≠ 2 ∧ k3 ≤ 255 by omega)
      have HHK := hid hk
      clear hz hk3 hk
      go_wp2_with fail
      have KA : Keeps [] wr (wr.alloc (doO k3 zt v)) := (Keeps.refl [] wr).alloc (doO k3 zt v)
      refine (mdo_opn (kd0 := k3) HP.out (.inr ⟨HK3.out.2.1, HK3.out.2.2.1, _, hA.keep0 KA⟩) (by omega) (by omega) HK3.out.2.2.2 zt hzb v hfr).mono ?_
      rintro e w7 ⟨rfl, u7, S7, K7, hO7, hu7⟩
      have HO7 := hid hO7
      clear hA KA hO7 d0 d1 d2 e1 e2 e3
      go_wp2_with fail
      go_roundg (n - (k + 1))
      case measure => have := HHK.out; omega
      case rel => exact ⟨k + 1, by have := HHK.out; omega, by go_num, u7, S7, K7, HO7.out, by simp; omega⟩
    · have hkn : k = n := by omega
      subst hkn
      clear hlt hk
      go_wp2_with fail
      refine (mdo_sht (kd0 := 1) (fr := fr) HP.out (.inl ⟨.inl (by omega), .inl ⟨_, hA⟩⟩) (by omega) (by omega) 0 (by omega) 0).mono ?_
      rintro e w4 ⟨rfl, u4, S4, r4, hSh4, hr4, hu4⟩
      have hKp : Keeps (mb :: nb :: q.bl p a) w2 w4 := MAny.keeps (fr := fr) (.inr hSh4)
      have hV4 := hKp.at hV2 (fun hm => by have := HB.out _ hm; omega)
      have KW : Keeps [] W w4 := K2.new hKp (fun b hb => .inr (by have := HB.out b hb; omega))
      obtain ⟨x1, l1, c1, x2, l2, c2, f4, t4, hG, hM4, hO4, _⟩ := hSh4
      obtain ⟨st', f', t', R', U', pl', wd', hSW, hSS⟩ := hG
      have hci := c_in HP.out.ok HP.out.wn
      have hD := hSW.lw.pw.dev
      have hsn := HP.out.nb_ne
      have hCR := hid (crash_plain w4 p a S4 hD _ #[ptr (W.heap.size + 1)] (chV bits) [W.heap.size + 1] _ (sectionKeeps1_chooser (W.heap.size + 1) bits a.n (by omega)) hV4 (by
        have h2 := HB.out a.s (by unfold Sc.bl; simp)
        have h3 := HB.out a.k (by unfold Sc.bl; simp)
        have h4 := HB.out a.m (by unfold Sc.bl; simp)
        simp; omega) (by simp; exact hV4.lt))
      have HSW := hid hSW
      have HSS := hid hSS
      have hlr := hid ((LI.crash (LI.none hSS.lr hSS.cl) (fun i => chV bits i % 3)).1)
      have HE := hid (fun j (hj : j < a.n - c.act) => show leftV S4 (c.act + j) (chV bits (c.act + j) % 3) = S4.now (c.act + j) from (hSS.cl (c.act + j) (by omega) (by omega)).left _)
      clear hA hKp hSW hSS hD
      go_wp2_with fail
      refine hCR.out.mono ?_
      rintro e w5 ⟨rfl, hD5, hV5, hk5⟩
      have hP5 : Pw w5 p a (-1) u4 (crashed S4 fun i => chV bits i % 3) := ⟨hD5, hk5.at HSW.out.lw.pw.pow (by simp; have := HSW.out.lw.pw.dev.ps; have := HSW.out.lw.pw.dev.pk; have := HSW.out.lw.pw.dev.pm; omega), HSW.out.lw.pw.lo, .inl (by omega)⟩
      have hM5 := hk5.at hM4 (by
        have hm := hsn.2.2.1
        unfold Sc.bl at hm
        simp only [List.mem_cons, List.not_mem_nil, or_false, not_or] at hm ⊢
        exact ⟨hm.2.1, hm.2.2.1, hm.2.2.2.1⟩)
      have hO5 := hO4.keep hk5 (by
        have hm := hsn.2.1
        unfold Sc.bl at hm
        simp only [List.mem_cons, List.not_mem_nil, or_false, not_or] at hm ⊢
        exact ⟨hm.2.1, hm.2.2.1, hm.2.2.2.1⟩)
      have K5 : Keeps [] W w5 := KW.new hk5 (by
        have h2 := HB.out a.s (by unfold Sc.bl; simp)
        have h3 := HB.out a.k (by unfold Sc.bl; simp)
        have h4 := HB.out a.m (by unfold Sc.bl; simp)
        simp; omega)
      have m0 := hM5.cell 0 rfl
      have m1 := hM5.cell 1 rfl
      have m2 := hM5.cell 2 rfl
      clear hCR hk5 hV5 hV4 hM4 hO4 KW hD5 hsn
      go_wp2_with fail
      refine (open_li hP5 HP.out.ok HP.out.wn hlr.out (by omega)).mono ?_
      rintro e w6 ⟨lb, rfl, hlb, hL6, hk6⟩
      have hM6 := hk6.at hM5 (by simp)
      have HO6 := hid (hO5.keep hk6 (by simp))
      have K6 := K5.trans hk6
      have HL6 := hid hL6
      have HPW := hid hL6.pw
      have HX := hid (fun (w' : World) (hk : Keeps [] w6 w') => show w'.cell? ⟨mb, 0, none⟩ = some (.int .i64 c.log) ∧ w'.cell? ⟨mb, 1, none⟩ = some (.int .i64 c.roots) ∧ w'.cell? ⟨mb, 2, none⟩ = some (.int .i64 c.space) ∧ w'.cell? ⟨mb, 3, none⟩ = some (.slice (some ⟨nb, 0, none⟩) (a.n - c.act) ncap) from
        ⟨(hk.at hM6 (by simp)).cell 0 rfl, (hk.at hM6 (by simp)).cell 1 rfl, (hk.at hM6 (by simp)).cell 2 rfl, (hk.at hM6 (by simp)).cell 3 rfl⟩)
      have hdn : a.n - c.act ≤ 35184372088832 := by omega
      clear m0 m1 m2 hM5 hO5 K5 hL6 hk6 hP5
      go_upto_region 19 with fail
      have kk : Keeps [] w6 w6.drew := (Keeps.refl _ _).drew
      go_region_held3 (fun w' => w'.cell? ⟨mb, 0, none⟩ = some (.int .i64 c.log) ∧ w'.cell? ⟨mb, 1, none⟩ = some (.int .i64 c.roots) ∧ w'.cell? ⟨mb, 2, none⟩ = some (.int .i64 c.space) ∧ w'.cell? ⟨mb, 3, none⟩ = some (.slice (some ⟨nb, 0, none⟩) (a.n - c.act) ncap))
        (exact HX.out _ kk)
        (first
          | (go_at_call 26; refine (words7_own _ p a _ c (HPW.out.dev.keep kk (by simp) (by simp) (by simp) (by simp)) HP.out.ok HP.out.wn).mono ?_; rintro e w7 ⟨g7, cap7, rfl, hg7, hR7, hcap7, hk7⟩; have kk := kk.trans hk7; have HR7 := hid hR7; clear hk7 hR7 hg7 hcap7)
          | (go_at_call 27; refine (equal_true _ _ _ (a.n - c.act) _ ncap _ _ HR7.out.reads (HO6.out.keep kk (by simp)).reads HE.out hdn).mono ?_; rintro e w8 ⟨rfl, hk8⟩; have kk := kk.trans hk8; clear hk8)
          | (go_at_call 14; refine (len6_at (HL6.out.keep0 kk)).mono ?_; rintro e w' ⟨rfl, rfl⟩))
      all_goals
        go_wp2_with fail
        go_ret
        exact ⟨rfl, (K6.trans kk).below (Nat.le_refl _) (by simp)⟩

theorem sectionKeeps_walk (l r s : Int) (x : Option Addr) (n cp : Nat) (f : Nat → Nat → Int) (fr bits : Int) (W : World) (wl : (Lit.int .u16 l).wf = true) (wr : (Lit.int .u16 r).wf = true) (ws : (Lit.int .u16 s).wf = true)
    (R2 : n * 3 = 0 ∨ ∃ b off, x = some ⟨b, off, none⟩ ∧ b < W.heap.size ∧ ∀ i j, i < n → j < 3 → W.cell? ⟨b, off + (i * 3 + j), none⟩ = some (.int ((fun j => if j = 0 then .u8 else if j = 1 then .u16 else .u64 : Nat → IntKind) j) (f i j)) ∧ (Lit.int ((fun j => if j = 0 then .u8 else if j = 1 then .u16 else .u64 : Nat → IntKind) j) (f i j)).wf = true) (_ : n ≤ maxLen) (wf : (Lit.int .u8 fr).wf = true) (_ : (Lit.int .u64 bits).wf = true) :
    Calls Tryz.prog 5 #[.agg #[.int .u16 l, .int .u16 r, .int .u16 s], .slice x n cp, .int .u8 fr, .int .u64 bits] W fun e w' => e = .returned (.bool true) ∧ Below W.heap.size W w' := by
  obtain ⟨l, rfl, hl⟩ := c3_open wl
  obtain ⟨r, rfl, hr⟩ := c3_open wr
  obtain ⟨s, rfl, hs⟩ := c3_open ws
  by_cases hg : 40 < n
  · exact keeps7_great l r s x n cp fr bits W hg
  · have bf := bounds_u8 wf
    obtain ⟨fr, rfl⟩ : ∃ z : Nat, (z : Int) = fr := ⟨fr.toNat, by omega⟩
    exact keeps7_small l r s x n cp f fr bits W hl hr hs (by omega) (by omega) (dreads_of R2)

end Go.Proofs.YtphblanaicaicaaGreat
