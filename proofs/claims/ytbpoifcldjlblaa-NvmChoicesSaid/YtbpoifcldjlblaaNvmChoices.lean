/- The walk of the law NvmChoices. -/
import Derived.Test.YtbpoifcldjlblaaNvmPlays
namespace Go.Proofs.Ytbpoifcldjlblaa
open Go.RowKit

set_option maxHeartbeats 1000000 in
theorem choices_great (a0 : Option Addr) (l0 c0 : Nat) (a1 : Option Addr) (l1 c1 : Nat) (bits : Int) (W : World) (hg : 40 < l0 ∨ 60 < l1) :
    Calls Try.prog 7 #[.slice a0 l0 c0, .slice a1 l1 c1, .int .u64 bits] W fun e w' => e = .returned (.bool true) ∧ Below W.heap.size W w' := by
  by_cases h1 : 40 < l0
  · go_enter Try.func7, Try.ntmps7
    go_wp2_with fail
    refine (lawake_any _).mono ?_
    rintro e w1 ⟨rfl, hb1⟩
    have K1 := Go.Proofs.Ytbpoifcldjlblaa.Below.keeps hb1 []
    go_wp2_with fail
    go_ret
    exact ⟨rfl, (((Keeps.refl [] W).alloc _).trans K1).below (Nat.le_refl _) (by simp)⟩
  · have h2 : 60 < l1 := by omega
    go_enter Try.func7, Try.ntmps7
    go_wp2_with fail
    refine (lawake_any _).mono ?_
    rintro e w1 ⟨rfl, hb1⟩
    have K1 := Go.Proofs.Ytbpoifcldjlblaa.Below.keeps hb1 []
    go_wp2_with fail
    go_ret
    exact ⟨rfl, (((Keeps.refl [] W).alloc _).trans K1).below (Nat.le_refl _) (by simp)⟩

/-- What two devices lie in, and what they are held against: nothing of one lies in another. -/
structure Four (B : Nat) (p : Nat) (a : DA) (x : MA) (q : Nat) (b : DA) (y : MA) : Prop where
  s1 : Sep p a x
  s2 : Sep q b y
  s3 : ∀ k ∈ p :: (a.blocks ++ x.blocks), k ∉ q :: (b.blocks ++ y.blocks)
  low : (∀ k ∈ p :: (a.blocks ++ x.blocks), B ≤ k) ∧ ∀ k ∈ q :: (b.blocks ++ y.blocks), B ≤ k

theorem Both.keep {w w' : World} {p : Nat} {a : DA} {x : MA} {T : List Nat} (h : Both w p a x) (hk : Keeps T w w') (hT : ∀ k ∈ p :: (a.blocks ++ x.blocks), k ∉ T) : Both w' p a x := by
  obtain ⟨S, h1, h2⟩ := h
  exact ⟨S, h1.keep hk (hT _ (by simp)) (hT _ (by simp)) (hT _ (by simp)) (hT _ (by simp)), h2.keep hk (fun b hb => hT b (by simp at hb ⊢; omega))⟩

set_option maxRecDepth 100000 in
set_option maxHeartbeats 4000000 in
theorem choices_small (a0 : Option Addr) (l0 c0 : Nat) (f0 : Nat → Int) (a1 : Option Addr) (l1 c1 : Nat) (f1 : Nat → Nat → Int) (bits : Int) (W : World) (h1 : l0 ≤ 40) (h2 : l1 ≤ 60) (R0 : Reads W a0 l0 f0) (R1 : Steps W a1 l1 f1) :
    Calls Try.prog 7 #[.slice a0 l0 c0, .slice a1 l1 c1, .int .u64 bits] W fun e w' => e = .returned (.bool true) ∧ Below W.heap.size W w' := by
  have g1 : decide (40 < (l0 : Int)) = false := by rw [decide_eq_false_iff_not]; omega
  have g3 : decide (60 < (l1 : Int)) = false := by rw [decide_eq_false_iff_not]; omega
  have HR0 := hid R0
  have HR1 := hid R1
  clear R0 R1
  go_enter Try.func7, Try.ntmps7
  go_wp2_with fail
  refine (lawake_any _).mono ?_
  rintro e w1 ⟨rfl, hb1⟩
  have K1 : Keeps [] W w1 := ((Keeps.refl [] W).alloc _).trans (Go.Proofs.Ytbpoifcldjlblaa.Below.keeps hb1 [])
  have hB1 : At w1 W.heap.size (wordO bits) := (Go.Proofs.Ytbpoifcldjlblaa.Below.keeps hb1 []).at (At.new W _) (by simp)
  have zB := hB1.lt
  clear hb1
  go_wp2_with fail
  refine (lnew_at w1 a0 l0 c0 ((l0 + 7) / 8) f0 (HR0.out.keep K1 (by simp)) rfl (by omega)).mono ?_
  rintro e w2 ⟨p, a, rfl, haL, hD2, hp2, ⟨b1, b2, b3, b4, b5⟩, hK2⟩
  have K2 := K1.trans hK2
  have hn0 : a.n ≤ 40 := by have := a.n8; omega
  have HAN : Hid (8 * ((l0 + 7) / 8) = a.n) := by have := a.n8; show _ = _; omega
  go_wp2_with fail
  refine (lnew_at w2 a0 l0 c0 ((l0 + 7) / 8) f0 (HR0.out.keep K2 (by simp)) rfl (by omega)).mono ?_
  rintro e w3 ⟨q, b, rfl, hbL, hE3, hq3, ⟨d1, d2, d3, d4, d5⟩, hK3⟩
  have K3 := K2.trans hK3
  have HBN : Hid (8 * ((l0 + 7) / 8) = b.n) := by have := b.n8; show _ = _; omega
  have HAB : Hid (b.n = a.n) := by have := b.n8; have := a.n8; show _ = _; omega
  clear haL hbL
  have e1 := hD2.low
  have e2 := hp2.lt
  have hD3 := hD2.keep hK3 (by simp) (by simp) (by simp) (by simp)
  have hp3 := hK3.at hp2 (by simp)
  go_wp2_with fail
  refine (make_at w3 a0 l0 c0 ((l0 + 7) / 8) f0 (HR0.out.keep K3 (by simp)) rfl (by omega)).mono ?_
  rintro e w4 ⟨x, rfl, hM4, hbx, hK4⟩
  rw [HAN.out] at hM4
  have K4 := K3.trans hK4
  have e3 := hE3.low
  have e4 := hq3.lt
  have e5 := hM4.low
  go_wp2_with fail
  refine (make_at w4 a0 l0 c0 ((l0 + 7) / 8) f0 (HR0.out.keep K4 (by simp)) rfl (by omega)).mono ?_
  rintro e w5 ⟨y, rfl, hN5, hby, hK5⟩
  rw [HBN.out] at hN5
  have K5 := K4.trans hK5
  have hK35 := hK4.trans hK5
  have hBB : At w5 W.heap.size (wordO bits) := (hK2.trans (hK3.trans hK35)).at hB1 (by simp)
  have z1 := K1.size
  have z2 := hK2.size
  have z3 := hK3.size
  have HF : Hid (Four (W.heap.size + 1) p a x q b y) := by
    simp only [List.mem_cons, List.not_mem_nil, or_false, forall_eq_or_imp, forall_eq] at hbx hby
    refine ⟨?_, ?_, ?_, ?_, ?_⟩
    · intro k hk; simp at hk; omega
    · intro k hk; simp at hk; omega
    · intro k hk; simp at hk ⊢; omega
    · intro k hk; simp at hk; omega
    · intro k hk; simp at hk; omega
  have HA : Hid (Both w5 p a x) := ⟨_, hD3.keep hK35 (by simp) (by simp) (by simp) (by simp), hM4.keep hK5 (by simp)⟩
  have HB : Hid (Both w5 q b y) := ⟨_, hE3.keep hK35 (by simp) (by simp) (by simp) (by simp), hN5⟩
  have hp5 := hK35.at hp3 (by simp)
  have hq5 := hK35.at hq3 (by simp)
  clear hD2 hD3 hp2 hp3 hE3 hq3 hM4 hN5 hbx hby e1 e2 e3 e4 e5 b1 b2 b3 b4 b5 d1 d2 d3 d4 d5 hB1 hK2 hK3 hK4 hK5 hK35 z1 z2 z3 K1 K2 K3 K4
  go_wp2_with fail
  go_loopg [41] l1 (fun r s wr => ∃ z : Nat, z + r = l1 ∧ s = .int .i64 z ∧ Both wr p a x ∧ Both wr q b y ∧ (∃ u : Int, At wr p (powO (-1) u) ∧ 0 ≤ u ∧ u ≤ z) ∧ (∃ u : Int, At wr q (powO (-1) u) ∧ 0 ≤ u ∧ u ≤ z) ∧
    Keeps ((p :: (a.blocks ++ x.blocks)) ++ (q :: (b.blocks ++ y.blocks))) w5 wr)
  case atStart => exact ⟨0, by omega, rfl, HA.out, HB.out, ⟨_, hp5, by omega, by omega⟩, ⟨_, hq5, by omega, by omega⟩, Keeps.refl _ _⟩
  case round =>
    obtain ⟨z, hz, rfl, hA, hB, ⟨u, hp, hu0, hu1⟩, ⟨v, hq, hv0, hv1⟩, hK⟩ := hrel
    have HLW : Hid (∀ k ∈ (p :: (a.blocks ++ x.blocks)) ++ (q :: (b.blocks ++ y.blocks)), k ∈ ([] : List Nat) ∨ W.heap.size ≤ k) := by
      intro k hk
      right
      rcases List.mem_append.1 hk with hk | hk
      · have := HF.out.low.1 k hk; omega
      · have := HF.out.low.2 k hk; omega
    have KW : Keeps [] W wr := K5.new hK HLW.out
    by_cases hlt : z < l1
    · obtain ⟨bb, off, rfl, hbl, ⟨q0, q1, q2, q3⟩, hd, hqq⟩ : ∃ b off, a1 = some ⟨b, off, none⟩ ∧ b < W.heap.size ∧ _ := by
        rcases HR1.out with h | ⟨b, off, h1, h2, h3⟩
        · omega
        · exact ⟨b, off, h1, h2, h3 z hlt⟩
      have c0 := (KW.cell (p := ⟨bb, off + z * 4, none⟩) hbl (by simp)).trans q0
      have c1 := (KW.cell (p := ⟨bb, off + z * 4 + 1, none⟩) hbl (by simp)).trans q1
      have c2 := (KW.cell (p := ⟨bb, off + z * 4 + 2, none⟩) hbl (by simp)).trans q2
      have c3 := (KW.cell (p := ⟨bb, off + z * 4 + 3, none⟩) hbl (by simp)).trans q3
      clear q0 q1 q2 q3
      have hk0 : Keeps [] wr (wr.alloc (stepO (f1 z 0) (f1 z 1) (f1 z 2) (f1 z 3))) := (Keeps.refl _ _).alloc _
      have hS0 : At (wr.alloc (stepO (f1 z 0) (f1 z 1) (f1 z 2) (f1 z 3))) wr.heap.size (stepO (f1 z 0) (f1 z 1) (f1 z 2) (f1 z 3)) := At.new _ _
      obtain ⟨S, hD, hM⟩ := hA.keep hk0 (by simp)
      have HDo := hid (do_at _ p a x S (-1) u hD (hk0.at hp (by simp)) hM HF.out.s1 (f1 z 0) (f1 z 1) (f1 z 2) (f1 z 3) hqq hd hu0 (by omega) (.inl (by omega)))
      have HB0 := hid (hB.keep hk0 (by simp))
      have hq0 := hk0.at hq (by simp)
      have HKK := hid (hK.trans (hk0.mono (by simp)))
      have HLB : Hid (∀ k ∈ p :: (a.blocks ++ x.blocks), k < wr.heap.size) := by
        intro k hk
        obtain ⟨S', hD', hM'⟩ := hA
        have g1 := hD'.low
        have g2 := hM'.low
        have g3 := hp.lt
        simp at hk
        omega
      clear hD hM hp hk0 hK hA hB hq
      go_wp2_with fail
      refine HDo.out.mono ?_
      rintro e w6 ⟨u', hu', rfl, hAB, hp6, hK6⟩
      have HU := hid hu'
      have hA6 : Both w6 p a x := hAB
      have hs3 := HF.out.s3
      obtain ⟨S, hD, hM⟩ := HB0.out.keep hK6 (fun k hk hk2 => hs3 k hk2 hk)
      have hq6 := hK6.at hq0 (fun hk2 => hs3 q hk2 (by simp))
      have hS6 := hK6.at hS0 (fun hk2 => by have := HLB.out _ hk2; omega)
      have s0 := hS6.cell 0 rfl
      have s1 := hS6.cell 1 rfl
      have s2 := hS6.cell 2 rfl
      have s3 := hS6.cell 3 rfl
      have HDo2 := hid (do_at _ q b y S (-1) v hD hq6 hM HF.out.s2 (f1 z 0) (f1 z 1) (f1 z 2) (f1 z 3) hqq hd hv0 (by omega) (.inl (by omega)))
      clear hu' c0 c1 c2 c3 hD hM hs3 hAB HDo hq0 hS0
      go_wp2_with fail
      refine HDo2.out.mono ?_
      rintro e w7 ⟨v', hv', rfl, hBB7, hq7, hK7⟩
      have HV := hid hv'
      have hB7 : Both w7 q b y := hBB7
      clear hv' hBB7 s0 s1 s2 s3
      go_wp2_with fail
      go_roundg (l1 - (z + 1))
      case measure => omega
      case rel =>
        have g5 := HU.out
        have g6 := HV.out
        refine ⟨z + 1, by omega, by go_num, hA6.keep hK7 HF.out.s3, hB7, ⟨u', hK7.at hp6 (HF.out.s3 p (by simp)), by omega, by omega⟩, ⟨v', hq7, by omega, by omega⟩, ?_⟩
        exact (HKK.out.trans (hK6.mono (fun k _ hk => List.mem_append_left _ hk))).trans (hK7.mono (fun k _ hk => List.mem_append_right _ hk))
    · obtain ⟨SA, hA0, _⟩ := hA
      obtain ⟨SB, hB0, _⟩ := hB
      have hBw : At wr W.heap.size (wordO bits) := hK.at hBB (by
        intro hm
        rcases List.mem_append.1 hm with hm | hm
        · have := HF.out.low.1 _ hm; omega
        · have := HF.out.low.2 _ hm; omega)
      have hAbn : b.n = a.n := HAB.out
      have HBL : Hid (∀ k, (k = a.s ∨ k = a.k ∨ k = a.m ∨ k = b.s ∨ k = b.k ∨ k = b.m) → W.heap.size + 1 ≤ k) := by
        intro k hk
        have l1 := HF.out.low.1 a.s (by simp)
        have l2 := HF.out.low.1 a.k (by simp)
        have l3 := HF.out.low.1 a.m (by simp)
        have l4 := HF.out.low.2 b.s (by simp)
        have l5 := HF.out.low.2 b.k (by simp)
        have l6 := HF.out.low.2 b.m (by simp)
        omega
      have HAD : Hid ((∀ k, k ∈ a.blocks → k ∉ b.blocks)) := fun k hk hk2 => HF.out.s3 k (by simp at hk ⊢; omega) (by simp at hk2 ⊢; omega)
      clear hp hq hAbn
      go_wp2_with fail
      refine (kept_at wr p a _ hA0).mono ?_
      rintro e w6 ⟨v6, rfl, hv6, hK6⟩
      obtain ⟨r6, cap6, rfl, hr6, hr6b, _, hR6⟩ := hv6.reads
      have hB6 := hB0.keep hK6 (by simp) (by simp) (by simp) (by simp)
      have hA6 := hA0.keep hK6 (by simp) (by simp) (by simp) (by simp)
      have hl6 := hA0.low
      have hm6 := hB0.low
      go_wp2_with fail
      refine (words_at w6 q b _ hB6).mono ?_
      rintro e w7 ⟨v7, rfl, hv7, hK7⟩
      obtain ⟨r7, cap7, rfl, hr7, hr7b, _, hR7⟩ := hv7.reads
      have hA7 := hA6.keep hK7 (by simp) (by simp) (by simp) (by simp)
      have hB7 := hB6.keep hK7 (by simp) (by simp) (by simp) (by simp)
      have HR6 := hid (hR6.keep hK7 (by simp))
      have HR7 := hid hR7
      have K7 := (KW.trans hK6).trans hK7
      have hBw7 := (hK6.trans hK7).at hBw (by simp)
      have z6 := hK6.size
      clear hv6 hv7 hR6 hR7 hA0 hA6 hB0 hB6 hBw
      have HC := hid (crash_plain w7 p a _ hA7 _ #[] (fun _ => 0) [] (fun _ _ => True) (lchoices1_chooser a.n) trivial (by simp) (by simp))
      go_wp2_with fail
      refine HC.out.mono ?_
      rintro e w8 ⟨rfl, hA8, _, hK8⟩
      have hB8 := hB7.keep hK8 (fun h => HAD.out _ (by simp at h ⊢; omega) (by simp : b.d ∈ b.blocks)) (fun h => HAD.out _ (by simp at h ⊢; omega) (by simp : b.s ∈ b.blocks)) (fun h => HAD.out _ (by simp at h ⊢; omega) (by simp : b.k ∈ b.blocks)) (fun h => HAD.out _ (by simp at h ⊢; omega) (by simp : b.m ∈ b.blocks))
      have HC := hid (crash_plain w8 q b _ hB8 _ #[] (fun _ => 2) [] (fun _ _ => True) (lchoices2_chooser b.n) trivial (by simp) (by simp))
      clear hA7 hB7
      go_wp2_with fail
      refine HC.out.mono ?_
      rintro e w9 ⟨rfl, hB9, _, hK9⟩
      have hA9 := hA8.keep hK9 (fun h => HAD.out a.d (by simp) (by simp at h ⊢; omega)) (fun h => HAD.out a.s (by simp) (by simp at h ⊢; omega)) (fun h => HAD.out a.k (by simp) (by simp at h ⊢; omega)) (fun h => HAD.out a.m (by simp) (by simp at h ⊢; omega))
      have K9 : Keeps [] W w9 := (K7.new hK8 (by intro k hk; have := HBL.out k (by simp at hk; omega); omega)).new hK9 (by intro k hk; have := HBL.out k (by simp at hk; omega); omega)
      have hBw9 := hK9.at (hK8.at hBw7 (by intro h; have := HBL.out W.heap.size (by simp at h; omega); omega)) (by intro h; have := HBL.out W.heap.size (by simp at h; omega); omega)
      have HR6 := hid ((HR6.out.keep hK8 (by rintro b' off h1; cases h1; simp; omega)).keep hK9 (by rintro b' off h1; cases h1; simp; omega))
      have HR7 := hid ((HR7.out.keep hK8 (by rintro b' off h1; cases h1; simp; omega)).keep hK9 (by rintro b' off h1; cases h1; simp; omega))
      clear hA8 hB8 hBw7 HC
      go_wp2_with fail
      refine (words_at w9 p a _ hA9).mono ?_
      rintro e w10 ⟨v10, rfl, hv10, hK10⟩
      obtain ⟨r10, cap10, rfl, _, _, _, hR10⟩ := hv10.reads
      have HE := hid (equal_true w10 _ _ a.n cap10 cap6 _ _ hR10 (HR6.out.keep hK10 (by simp)) (fun i _ => by simp [leftV]) (by omega))
      clear hv10 hR10
      go_wp2_with fail
      refine HE.out.mono ?_
      rintro e w11 ⟨rfl, hK11⟩
      have hK911 := hK10.trans hK11
      have hB11 := hB9.keep hK911 (by simp) (by simp) (by simp) (by simp)
      go_wp2_with fail
      refine (words_at w11 q b _ hB11).mono ?_
      rintro e w12 ⟨v12, rfl, hv12, hK12⟩
      obtain ⟨r12, cap12, rfl, _, _, _, hR12⟩ := hv12.reads
      have HE := hid (equal_true w12 _ _ b.n cap12 cap7 _ _ hR12 ((HR7.out.keep hK911 (by simp)).keep hK12 (by simp)) (fun i _ => by simp [leftV]) (by have := HAB.out; omega))
      clear hv12 hR12
      go_wp2_with fail
      refine HE.out.mono ?_
      rintro e w13 ⟨rfl, hK13⟩
      have hK913 := (hK911.trans hK12).trans hK13
      have hA13 := hA9.keep hK913 (by simp) (by simp) (by simp) (by simp)
      have hBw13 := hK913.at hBw9 (by simp)
      have HR6 := hid (HR6.out.keep hK913 (by simp))
      have HCR := hid (crash_plain w13 p a _ hA13 _ #[ptr W.heap.size] (chV bits) [W.heap.size] _ (choices3_chooser W.heap.size bits a.n (by omega)) hBw13 (by have l1 := HBL.out a.s (by simp); have l2 := HBL.out a.k (by simp); have l3 := HBL.out a.m (by simp); simp; omega) (by simp; have := hBw13.lt; omega))
      clear hA9 hB9 hB11 hBw9 HE
      go_wp2_with fail
      refine HCR.out.mono ?_
      rintro e w14 ⟨rfl, hA14, _, hK14⟩
      have K14 : Keeps [] W w14 := (K9.trans hK913).new hK14 (by intro k hk; have := HBL.out k (by simp at hk; omega); omega)
      have z13 := hK913.size
      have z9 := hK9.size
      have z8 := hK8.size
      have HR6 := hid (HR6.out.keep hK14 (by rintro b' off h1; cases h1; simp; omega))
      clear hA13 hBw13 HCR
      go_wp2_with fail
      refine (words_at w14 p a _ hA14).mono ?_
      rintro e w15 ⟨v15, rfl, hv15, hK15⟩
      obtain ⟨r15, cap15, rfl, _, _, _, hR15⟩ := hv15.reads
      have HE := hid (equal_true w15 _ _ a.n cap15 cap6 _ _ hR15 (HR6.out.keep hK15 (by simp)) (fun i _ => by simp [leftV]) (by omega))
      clear hv15 hR15
      go_wp2_with fail
      refine HE.out.mono ?_
      rintro e w16 ⟨rfl, hK16⟩
      have hK1416 := hK15.trans hK16
      have hA16 := hA14.keep hK1416 (by simp) (by simp) (by simp) (by simp)
      go_wp2_with fail
      refine (kept_at w16 p a _ hA16).mono ?_
      rintro e w17 ⟨v17, rfl, hv17, hK17⟩
      obtain ⟨r17, cap17, rfl, _, _, _, hR17⟩ := hv17.reads
      have HE := hid (equal_true w17 _ _ a.n cap17 cap6 _ _ hR17 ((HR6.out.keep hK1416 (by simp)).keep hK17 (by simp)) (fun i _ => by simp [leftV]) (by omega))
      clear hv17 hR17
      go_wp2_with fail
      refine HE.out.mono ?_
      rintro e w18 ⟨rfl, hK18⟩
      go_wp2_with fail
      go_ret
      exact ⟨rfl, (((K14.trans hK1416).trans hK17).trans hK18).below (Nat.le_refl _) (by simp)⟩

theorem nvmChoices_walk (a0 : Option Addr) (l0 c0 : Nat) (f0 : Nat → Int) (a1 : Option Addr) (l1 c1 : Nat) (f1 : Nat → Nat → Int) (bits : Int) (W : World)
    (R0 : ReadsV (Value.int .u64) W a0 l0 f0) (_ : ∀ i, i < l0 → (Lit.int .u64 (f0 i)).wf = true) (_ : l0 ≤ maxLen)
    (R1 : l1 * 4 = 0 ∨ ∃ b off, a1 = some ⟨b, off, none⟩ ∧ b < W.heap.size ∧ ∀ i j, i < l1 → j < 4 → W.cell? ⟨b, off + (i * 4 + j), none⟩ = some (.int ((fun j => if j = 0 then .u8 else if j = 1 then .u8 else if j = 2 then .u64 else .u64 : Nat → IntKind) j) (f1 i j)) ∧ (Lit.int ((fun j => if j = 0 then .u8 else if j = 1 then .u8 else if j = 2 then .u64 else .u64 : Nat → IntKind) j) (f1 i j)).wf = true) (_ : l1 ≤ maxLen)
    (_ : (Lit.int .u64 bits).wf = true) :
    Calls Try.prog 7 #[.slice a0 l0 c0, .slice a1 l1 c1, .int .u64 bits] W fun e w' => e = .returned (.bool true) ∧ Below W.heap.size W w' := by
  by_cases hg : 40 < l0 ∨ 60 < l1
  · exact choices_great a0 l0 c0 a1 l1 c1 bits W hg
  · exact choices_small a0 l0 c0 f0 a1 l1 c1 f1 bits W (by omega) (by omega) R0.words (steps_of R1)

end Go.Proofs.Ytbpoifcldjlblaa
