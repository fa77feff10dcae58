/- The walk of the law ObjectApart. -/
import Derived.Test.YtfiohbniojmfaaaGreatAwk10
import Derived.Test.YtfiohbniojmfaaaGreatFmap
namespace Go.Proofs.YtfiohbniojmfaaaGreat
open Go.RowKit Go.OpenShut

/-- Objects stand, their fields as a function says. -/
structure ApS (c : Cfg) (os : List (Nat × Nat)) (S : DS) (F : Int → Int → Int) : Prop where
  head : ∀ q (h : q < os.length), S.now (c.frm 0 + posL os q) = ((hdPk os[q].1 os[q].2 : Nat) : Int)
  word : ∀ q (h : q < os.length) (i : Nat), i < os[q].1 → S.now (c.frm 0 + posL os q + 1 + i) = F ((c.frm 0 + posL os q : Nat) : Int) (i : Int)
  byte : ∀ z i, 0 ≤ F z i ∧ F z i ≤ 255

theorem ApS.start {c : Cfg} {n : Nat} {os : List (Nat × Nat)} {S : DS} (h : FilS c n os S) (hn : c.frm 0 + c.space ≤ n) : ApS c os S (fun _ _ => 0) := by
  have hf := h.fits
  refine ⟨fun q hq => ?_, fun q hq i hi => ?_, fun _ _ => by omega⟩
  · have := pos_end hq
    rw [h.word _ (by omega), pos_head hq]
  · have := pos_end hq
    rw [show c.frm 0 + posL os q + 1 + i = c.frm 0 + (posL os q + 1 + i) by omega, h.word _ (by omega), pos_zero hq hi]

theorem ApS.put {c : Cfg} {os : List (Nat × Nat)} {S S' : DS} {F : Int → Int → Int} (h : ApS c os S F) {q : Nat} (hq : q < os.length) {i : Nat} (hi : i < os[q].1) {v : Int} (hv : 0 ≤ v ∧ v ≤ 255)
    (hS : ∀ j, S'.now j = if j = c.frm 0 + posL os q + 1 + i then v else S.now j) : ApS c os S' (putF F ((c.frm 0 + posL os q : Nat) : Int) (i : Int) v) := by
  have key : ∀ q' (h' : q' < os.length), q' ≠ q → posL os q' + 1 + os[q'].1 ≤ posL os q ∨ posL os q + 1 + os[q].1 ≤ posL os q' := fun q' h' hne => by
    rcases Nat.lt_or_ge q' q with h1 | h1
    · exact .inl (pos_apart h1 hq)
    · exact .inr (pos_apart (by omega) h')
  refine ⟨fun q' h' => ?_, fun q' h' i' hi' => ?_, fun z i' => ?_⟩
  · rw [hS, if_neg]
    · exact h.head q' h'
    · by_cases he : q' = q
      · subst he; omega
      · have := key q' h' he; omega
  · rw [hS]
    unfold putF
    by_cases he : q' = q
    · subst he
      by_cases hii : i' = i
      · subst hii
        rw [if_pos rfl, if_pos ⟨rfl, rfl⟩]
      · rw [if_neg (by omega), if_neg (by omega)]
        exact h.word q' h' i' hi'
    · have := key q' h' he
      rw [if_neg (by omega), if_neg (by omega)]
      exact h.word q' h' i' hi'
  · unfold putF
    split
    · exact hv
    · exact h.byte z i'

theorem wf_small {z : Int} (h0 : 0 ≤ z) (h1 : z ≤ 1000000) : (Lit.int .i64 z).wf = true := by
  simp [Lit.wf, IntKind.min, IntKind.max, IntKind.signed, IntKind.bits]
  omega

/-- Numbers by threes, in a row. -/
def ReadsT (w : World) (y : Option Addr) (m : Nat) (G : Nat → Nat → Nat) : Prop :=
  m = 0 ∨ ∃ b off, y = some ⟨b, off, none⟩ ∧ b < w.heap.size ∧ ∀ i j, i < m → j < 3 → w.cell? ⟨b, off + (i * 3 + j), none⟩ = some (.int .u8 (G i j : Nat)) ∧ G i j ≤ 255

/-- Between two rounds. -/
def ApI (c : Cfg) (os : List (Nat × Nat)) (p : Nat) (a : DA) (mb k : Nat) (w3 w : World) : Prop :=
  ∃ u S F, Pw w p a (-1) u S ∧ u ≤ 200000 + 2 * (k : Int) ∧ ApS c os S F ∧ SMap w mb k F ∧ Keeps [mb, p, a.s, a.k, a.m] w3 w

set_option maxRecDepth 100000 in
set_option maxHeartbeats 4000000 in
theorem apart_small (l r s : Nat) (y0 : Option Addr) (m cm : Nat) (R V : Nat → Nat) (y3 : Option Addr) (m3 cm3 : Nat) (G : Nat → Nat → Nat) (W : World) (hl : l ≤ 65535) (hrr : r ≤ 65535) (hs : s ≤ 65535)
    (hy : ReadsH W y0 m R V) (hm : m ≤ 9223372036854775807) (hg : ReadsT W y3 m3 G) (hm3 : m3 ≤ 9223372036854775807) :
    Calls Tryz.prog 6 #[c3V l r s, .slice y0 m cm, .slice y3 m3 cm3] W fun e w' => e = .returned (.bool true) ∧ Below W.heap.size W w' := by
  have hmi : (m : Int) ≤ 9223372036854775807 := by omega
  have hm3i : (m3 : Int) ≤ 9223372036854775807 := by omega
  have HY := hid hy
  have HG := hid hg
  clear hy hg
  go_enter Tryz.func6, Tryz.ntmps6
  go_wp2_with fail
  have hB0 := At.new W (c3O l r s)
  have K0 := (Keeps.refl [] W).alloc (c3O l r s)
  refine (awake10_any _).mono ?_
  rintro e w1 ⟨rfl, hb1⟩
  have k1 := Go.Proofs.YtfiohbniojmfaaaGreat.Below.keeps hb1 []
  have K1 := K0.trans k1
  have hB1 := k1.at hB0 (by simp)
  clear hb1 k1 hB0 K0
  have c0 : w1.cell? ⟨W.heap.size, 0, none⟩ = some (.int .u16 l) := hB1.cell 0 rfl
  have c1 : w1.cell? ⟨W.heap.size, 1, none⟩ = some (.int .u16 r) := hB1.cell 1 rfl
  have c2 : w1.cell? ⟨W.heap.size, 2, none⟩ = some (.int .u16 s) := hB1.cell 2 rfl
  by_cases hm20 : m ≤ 20
  case neg =>
    have hm2 : (20 : Int) < (m : Int) := by omega
    go_wp2_with fail
    go_ret
    exact ⟨rfl, K1.below (Nat.le_refl _) (by simp)⟩
  have hm2 : (m : Int) ≤ 20 := by omega
  by_cases hm60 : m3 ≤ 60
  case neg =>
    have hm6 : (60 : Int) < (m3 : Int) := by omega
    go_wp2_with fail
    go_ret
    exact ⟨rfl, K1.below (Nat.le_refl _) (by simp)⟩
  have hm6 : (m3 : Int) ≤ 60 := by omega
  clear hmi hm3i
  have hok := mk3_ok l r s
  obtain ⟨c, hc⟩ : ∃ c, c = mk3 l r s := ⟨_, rfl⟩
  rw [← hc] at hok
  have HFI := hid (filled_at w1 l r s hl hrr hs y0 m cm R V (HY.out.keep K1 (by simp)) (by omega) c hc)
  clear hc
  go_wp2_with fail
  refine HFI.out.mono ?_
  obtain ⟨os, hos⟩ : ∃ os, os = fillL c.space (hdsL R V m) := ⟨_, rfl⟩
  rw [← hos]
  rintro e w3 ⟨p, a, u, S, x, cp, y, cy, B, rfl, hn, hP, hub, hF, hU, hI, ⟨b1, b2, b3, b4, b5⟩, hB, hk3⟩
  have K3 := K1.trans hk3
  have HWB : Hid (∀ b ∈ [p, a.s, a.k, a.m], W.heap.size ≤ b ∧ b < w3.heap.size) := fun b h => by
    have hz := K1.size
    have h1 := hP.pow.lt
    have h2 := hP.dev.now.lt
    have h3 := hP.dev.kept.lt
    have h4 := hP.dev.map.lt
    simp only [List.mem_cons, List.not_mem_nil, or_false] at h
    omega
  have HO := hid hok
  have HN := hid hn
  obtain ⟨L, hL⟩ : ∃ L, L = os.length := ⟨_, rfl⟩
  have hLm : L ≤ m := by rw [hL, hos]; exact fillL_len _ _ _ _
  have hLi : (L : Int) ≤ 20 := by omega
  have HL := hid hL
  clear HFI hos b1 b2 b3 b4 b5 hk3 c0 c1 c2 hB1 hok K1 hU
  rw [← hL] at hI
  first | rw [← hL] | skip
  by_cases hL0 : L = 0
  case pos =>
    have hL1 : (L : Int) = 0 := by omega
    have hL2 : ((L : Int) == 0) = true := by rw [beq_iff_eq]; omega
    clear hL0 hL
    go_wp2_with fail
    go_ret
    exact ⟨rfl, ((K3.alloc _).alloc _).below (Nat.le_refl _) (by simp)⟩
  have hL1 : ¬ (L : Int) = 0 := by omega
  have hL2 : ((L : Int) == 0) = false := by rw [beq_eq_false_iff_ne]; omega
  obtain ⟨g, rfl, hgB, hgl, hgc⟩ := hI.cell (by omega)
  have HGC := hid hgc
  have hfrm : c.frm 0 + c.space ≤ a.n := by rw [← hn]; exact frm_space 0 (by omega)
  have hfr15 := frm_le HO.out.small (show 0 ≤ 2 by omega)
  have hfge := @frm_ge c 0
  have hsp := HO.out.small.2.2
  have hfits := hF.fits
  obtain ⟨U, hUe⟩ : ∃ U, U = lenL os := ⟨_, rfl⟩
  have hUs : U ≤ c.space := by omega
  -- of each object
  have HQ : Hid (∀ q (h : q < os.length), os[q].1 ≤ 8 ∧ os[q].2 ≤ os[q].1 ∧ posL os q + 1 + os[q].1 ≤ U ∧ c.frm 0 + posL os q + 1 + os[q].1 ≤ a.n ∧ c.frm 0 + posL os q ≤ 20000) := fun q h => by
    have h1 := hF.head os[q] (List.getElem_mem _)
    have h2 := pos_end h
    exact ⟨h1.1, h1.2, by omega, by omega, by omega⟩
  have HAP := hid (ApS.start hF hfrm)
  have HUS := hid hUs
  first | rw [← hUe] | skip
  have HP := hid hP
  have HUB := hid hub
  have HGB : Hid (∀ b ∈ [p, a.s, a.k, a.m], b < g) := fun b hb => by
    have h1 := hB
    simp only [List.mem_cons, List.not_mem_nil, or_false] at hb
    omega
  clear hgc hI hF hfits hfr15 hfge hsp hUe hL hLm hub hP hn HY hgB hfrm hUs hB
  have hmk := fun w : World => run_makeMap (P := Tryz.prog) (w := w) 74
  go_upto_region 9 with fail
  clear hmk
  obtain ⟨cb, hcb⟩ : ∃ cb, cb = w3.heap.size := ⟨_, rfl⟩
  obtain ⟨mb, hmb⟩ : ∃ mb, mb = cb + 1 + 1 := ⟨_, rfl⟩
  obtain ⟨w4, hw4⟩ : ∃ w4, w4 = ((w3.alloc (cfgO c)).alloc (bkO 0 U (.slice x c.roots cp))).alloc (.map #[] 0) := ⟨_, rfl⟩
  have hC4 : At w4 cb (cfgO c) := by rw [hw4, hcb]; exact ((At.new w3 _).alloc _).alloc _
  have hB4 : At w4 (cb + 1) (bkO 0 U (.slice x c.roots cp)) := by
    have := (At.new (w3.alloc (cfgO c)) (bkO 0 U (.slice x c.roots cp))).alloc (.map #[] 0)
    rw [World.size_alloc] at this
    rw [hw4, hcb]; exact this
  have hM4 : SMap w4 mb 0 (fun _ _ => 0) := by
    have := SMap.made ((w3.alloc (cfgO c)).alloc (bkO 0 U (.slice x c.roots cp)))
    rw [World.size_alloc, World.size_alloc] at this
    rw [hw4, hmb, hcb]; exact this
  have k34 : Keeps [] w3 w4 := by rw [hw4]; exact (((Keeps.refl [] w3).alloc _).alloc _).alloc _
  rw [← hw4, ← hcb, ← hmb]
  have HTT : Hid (∀ b ∈ [mb, p, a.s, a.k, a.m], W.heap.size ≤ b ∧ b ≠ cb ∧ b ≠ cb + 1 ∧ b ≠ g ∧ b < w4.heap.size) := fun b hb => by
    have h1 := K3.size
    have h2 := k34.size
    have h3 := hM4.lt
    rcases List.mem_cons.1 hb with rfl | hb
    · omega
    · have := HWB.out b hb
      have h4 := hgl
      refine ⟨this.1, by omega, by omega, ?_, by omega⟩
      rintro rfl
      have := (HGB.out b hb)
      omega
  have HMB : Hid (mb ∉ [p, a.s, a.k, a.m] ∧ mb ≠ p ∧ mb ≠ a.d ∧ mb ≠ a.s ∧ mb ≠ a.k ∧ mb ≠ a.m) := by
    have h1 := HP.out.pow.lt
    have h2 := HP.out.dev.now.lt
    have h3 := HP.out.dev.kept.lt
    have h4 := HP.out.dev.map.lt
    have h5 := HP.out.dev.dev.lt
    refine ⟨fun h => ?_, by omega, by omega, by omega, by omega, by omega⟩
    simp only [List.mem_cons, List.not_mem_nil, or_false] at h
    omega
  have HI4 : Hid (ApI c os p a mb 0 w4 w4) := ⟨u, S, _, HP.out.keep0 k34, by have := HUB.out; omega, HAP.out, hM4, Keeps.refl _ _⟩
  have HGW : Hid (g < w4.heap.size ∧ ∀ i, i < L → w4.cell? ⟨g, i, none⟩ = some (.int .i64 ((c.frm 0 + posL os i : Nat) : Int))) := ⟨Nat.lt_of_lt_of_le hgl k34.size, fun i hi => by rw [k34.cell hgl (by simp)]; exact HGC.out i hi⟩
  have HC4 := hid hC4
  have HB4 := hid hB4
  have HKW := hid (K3.trans k34)
  clear hC4 hB4 hM4 k34 K3 hw4 hcb hmb hgl HGC HAP HP HUB HWB HGB
  go_wp2_with fail
  go_loopg [56] m3 (fun rr s56 wr => ∃ k : Nat, k + rr = m3 ∧ s56 = .int .i64 k ∧ ApI c os p a mb k w4 wr)
  case atStart => exact ⟨0, by omega, rfl, HI4.out⟩
  case round =>
    obtain ⟨k, hk, rfl, u5, S5, F5, hP5, hu5, hA5, hM5, hK5⟩ := hrel
    have hKW : Keeps [] W wr := HKW.out.new hK5 (fun b hb => .inr (HTT.out b hb).1)
    by_cases hlt : k < m3
    · obtain ⟨b, off, rfl, hb, hcl⟩ := HG.out.resolve_left (by omega)
      obtain ⟨x0, y0, hG0⟩ : ∃ G0, G0 = G k 0 ∧ G0 ≤ 255 := ⟨_, rfl, (hcl k 0 hlt (by omega)).2⟩
      obtain ⟨x1, y1, hG1⟩ : ∃ G1, G1 = G k 1 ∧ G1 ≤ 255 := ⟨_, rfl, (hcl k 1 hlt (by omega)).2⟩
      obtain ⟨x2, y2, hG2⟩ : ∃ G2, G2 = G k 2 ∧ G2 ≤ 255 := ⟨_, rfl, (hcl k 2 hlt (by omega)).2⟩
      have d0 : wr.cell? ⟨b, off + k * 3, none⟩ = some (.int .u8 (x0 : Nat)) := by rw [hKW.cell hb (by simp), y0]; exact (hcl k 0 hlt (by omega)).1
      have d1 : wr.cell? ⟨b, off + k * 3 + 1, none⟩ = some (.int .u8 (x1 : Nat)) := by rw [hKW.cell hb (by simp), y1]; exact (hcl k 1 hlt (by omega)).1
      have d2 : wr.cell? ⟨b, off + k * 3 + 2, none⟩ = some (.int .u8 (x2 : Nat)) := by rw [hKW.cell hb (by simp), y2]; exact (hcl k 2 hlt (by omega)).1
      have hki : (k : Int) < (m3 : Int) := by omega
      have hxi0 : (x0 : Int) ≤ 255 := by omega
      have hxi1 : (x1 : Int) ≤ 255 := by omega
      have hxi2 : (x2 : Int) ≤ 255 := by omega
      have HKK := hid hk
      clear y0 y1 y2 hcl hk hlt
      go_upto_region 12 with fail
      obtain ⟨kb, hkb⟩ : ∃ kb, kb = wr.heap.size := ⟨_, rfl⟩
      obtain ⟨w6, hw6⟩ : ∃ w6, w6 = wr.alloc (.cells #[.int .u8 x0, .int .u8 x1, .int .u8 x2] 75) := ⟨_, rfl⟩
      have hB6 : At w6 kb (.cells #[.int .u8 x0, .int .u8 x1, .int .u8 x2] 75) := by rw [hw6, hkb]; exact At.new _ _
      have k56 : Keeps [] wr w6 := by rw [hw6]; exact (Keeps.refl [] wr).alloc _
      have K46 : Keeps [mb, p, a.s, a.k, a.m] w4 w6 := hK5.trans (k56.mono (by simp))
      have hkbz : w4.heap.size ≤ kb := by rw [hkb]; exact hK5.size
      rw [← hw6, ← hkb]
      obtain ⟨q, hq⟩ : ∃ q, q = x0 % L := ⟨_, rfl⟩
      have hqL : q < L := by rw [hq]; exact Nat.mod_lt _ (by omega)
      have hqo : q < os.length := by have := HL.out; omega
      obtain ⟨zz, hzz⟩ : ∃ zz, zz = c.frm 0 + posL os q := ⟨_, rfl⟩
      obtain ⟨n, hne⟩ : ∃ n, n = os[q].1 := ⟨_, rfl⟩
      obtain ⟨rr, hre⟩ : ∃ rr, rr = os[q].2 := ⟨_, rfl⟩
      have hqq := HQ.out q hqo
      have hhd := hA5.head q hqo
      rw [← hne, ← hre] at hqq hhd
      have HZQ : Hid (zz + 1 + n ≤ a.n ∧ zz ≤ 20000 ∧ n ≤ 8 ∧ rr ≤ n) := by
        obtain ⟨q1, q2, q3, q4, q5⟩ := hqq
        exact ⟨by omega, by omega, q1, q2⟩
      have HPUT : Hid (∀ (i : Nat) (S' : DS), i < n → (∀ j, S'.now j = if j = zz + 1 + i then (x2 : Int) else S5.now j) → ApS c os S' (putF F5 zz i x2)) := fun i S' hi hS => by
        have := ApS.put hA5 hqo (i := i) (by rw [← hne]; exact hi) (v := x2) (S' := S') (by omega) (fun j => by rw [hS j, hzz])
        rwa [← hzz] at this
      have HOF := hid (fun (w' : World) (hk : Keeps [] wr w') => of_head w' p a S5 (hP5.dev.keep hk (by simp) (by simp) (by simp) (by simp)) c HO.out HN.out 0 (by omega) U HUS.out (.slice x c.roots cp) (posL os q) n rr hhd (by omega) hqq.2.1 (by omega) zz (by omega))
      have HCL : Hid (∀ w', Keeps [] w6 w' → (w'.cell? ⟨cb, 0, none⟩ = some (.int .i64 c.log) ∧ w'.cell? ⟨cb, 1, none⟩ = some (.int .i64 c.roots) ∧ w'.cell? ⟨cb, 2, none⟩ = some (.int .i64 c.space) ∧ w'.cell? ⟨cb + 1, 0, none⟩ = some (.int .i64 0) ∧ w'.cell? ⟨cb + 1, 1, none⟩ = some (.int .i64 U) ∧ w'.cell? ⟨cb + 1, 2, none⟩ = some (.slice x c.roots cp) ∧ w'.cell? ⟨g, q, none⟩ = some (.int .i64 (zz : Nat)) ∧ w'.cell? ⟨kb, 0, none⟩ = some (.int .u8 x0))) := fun w' hk => by
        have k46 := K46.trans (hk.mono (by simp))
        have e1 := k46.at HC4.out (fun h => (HTT.out _ h).2.1 rfl)
        have e2 := k46.at HB4.out (fun h => (HTT.out _ h).2.2.1 rfl)
        have e3 := hk.at hB6 (by simp)
        exact ⟨e1.cell 0 rfl, e1.cell 1 rfl, e1.cell 2 rfl, e2.cell 0 rfl, e2.cell 1 rfl, e2.cell 2 rfl, by rw [k46.cell HGW.out.1 (fun h => (HTT.out _ h).2.2.2.1 rfl), hzz]; exact HGW.out.2 q hqL, e3.cell 0 rfl⟩
      have HOR : Hid (∀ w', Keeps [] w6 w' → Calls Tryz.prog 14 #[ptr a.d, cfgV c, bkV 0 U (.slice x c.roots cp), .int .i64 (zz : Nat)] w' fun e w'' => e = .returned (.tuple #[obV n rr zz, .int .i64 0]) ∧ Keeps [] w' w'') := fun w' hk => HOF.out w' (k56.trans hk)
      have e1 : (x0 : Int).tmod (L : Int) = (q : Int) := by rw [hq]; exact (Int.ofNat_tmod x0 L).symm
      have e2 : (x0 : Int) % (L : Int) = (q : Int) := by rw [hq]; exact (Int.natCast_emod x0 L).symm
      have e3 : IntKind.i64.wrap (x0 : Int) = (x0 : Int) := IntWalk.i64_in _ (by omega)
      have e4 : ¬ L = 0 := hL0
      have e5 : (q : Int) < (L : Int) := by omega
      have e6 : IntKind.i64.wrap (q : Int) = (q : Int) := IntWalk.i64_in _ (by omega)
      have HP5 := hid hP5
      have HU5 := hid hu5
      have HM5 := hid hM5
      have HA5 := hid hA5
      have HK5 := hid hK5
      have HB6 := hid hB6
      have HK56 := hid k56
      have HKBZ := hid hkbz
      clear hw6 hkb hq hqo hzz hne hre hqq hhd hP5 hu5 hM5 hA5 hK5 hB6 k56 K46 hkbz HOF hKW d0 d1 d2 hb
      go_cut [14, 15] from 60 to 75 (fun s14 s15 wx => ∃ b5, s14 = ptr b5 ∧ s15 = .int .i64 0 ∧ At wx b5 (obO n rr zz) ∧ w6.heap.size ≤ b5 ∧ Keeps [] w6 wx)
      case first =>
        go_region_held3 (fun w' => w'.cell? ⟨cb, 0, none⟩ = some (.int .i64 c.log) ∧ w'.cell? ⟨cb, 1, none⟩ = some (.int .i64 c.roots) ∧ w'.cell? ⟨cb, 2, none⟩ = some (.int .i64 c.space) ∧ w'.cell? ⟨cb + 1, 0, none⟩ = some (.int .i64 0) ∧ w'.cell? ⟨cb + 1, 1, none⟩ = some (.int .i64 U) ∧ w'.cell? ⟨cb + 1, 2, none⟩ = some (.slice x c.roots cp) ∧ w'.cell? ⟨g, q, none⟩ = some (.int .i64 (zz : Nat)) ∧ w'.cell? ⟨kb, 0, none⟩ = some (.int .u8 x0))
          ((refine HCL.out _ ?_; repeat' (first | assumption | exact Keeps.refl _ _ | refine Keeps.drew ?_ | refine Keeps.alloc ?_ _ | (refine Keeps.trans ?_ hk) | (refine Keeps.set ?_ (by right; simp) _))))
          (first
            | (go_at_call 14; refine (HOR.out _ ?_).mono ?_; (repeat' (first | exact Keeps.refl _ _ | refine Keeps.drew ?_ | refine Keeps.alloc ?_ _)); rintro e w' ⟨rfl, hk⟩; try (have h5 := hk.at (At.drew (At.new w6 (obO 0 0 0))) (by simp); have x0 := h5.cell 0 rfl; have x1 := h5.cell 1 rfl; have x2 := h5.cell 2 rfl; have y0 := h5.free 0; have y1 := h5.free 1; have y2 := h5.free 2)))
        all_goals
          go_wp2_with fail
          go_meet
          first
            | exact ⟨_, rfl, rfl, At.new _ _, hk.size, ((Keeps.refl [] w6).drew.trans hk).alloc _⟩
            | exact ⟨_, rfl, rfl, ((h5.set 0 (.int .i64 n)).set 1 (.int .i64 rr)).set 2 (.int .i64 zz), Nat.le_refl _, (((((Keeps.refl [] w6).alloc _).drew.trans hk).set (.inr (Nat.le_refl _)) _).set (.inr (Nat.le_refl _)) _).set (.inr (Nat.le_refl _)) _⟩
      case rest =>
      obtain ⟨b5, rfl, rfl, hA6, hz5, k5⟩ := hcut
      clear e1 e2 e3 e4 e5 e6
      obtain ⟨w7, hw7⟩ : ∃ w7, w7 = wc := ⟨_, rfl⟩
      subst hw7
      have HB7 := hid (k5.at HB6.out (by simp))
      have HA7 := hid hA6
      have HBT : Hid (kb ∉ [p, a.s, a.k, a.m] ∧ b5 ∉ [p, a.s, a.k, a.m] ∧ kb ≠ mb ∧ b5 ≠ mb) := by
        have h1 := HKBZ.out
        have h2 : kb < w6.heap.size := HB6.out.lt
        refine ⟨fun h => ?_, fun h => ?_, fun h => ?_, fun h => ?_⟩
        · have := (HTT.out kb (List.mem_cons_of_mem _ h)).2.2.2.2; omega
        · have := (HTT.out b5 (List.mem_cons_of_mem _ h)).2.2.2.2; omega
        · have := (HTT.out mb List.mem_cons_self).2.2.2.2; omega
        · have := (HTT.out mb List.mem_cons_self).2.2.2.2; omega
      have hP7 := HP5.out.keep0 (HK56.out.trans k5)
      have HM7 := hid (HM5.out.keep (HK56.out.trans k5) (by simp))
      have HK7 : Hid (Keeps [mb, p, a.s, a.k, a.m] w4 w7) := HK5.out.trans ((HK56.out.trans k5).mono (by simp))
      have HP7 := hid hP7
      obtain ⟨I, hI⟩ : ∃ I, I = x1 % 8 := ⟨_, rfl⟩
      have e1 : (x1 : Int) % 8 = (I : Int) := by omega
      have hIi : (I : Int) ≤ 7 := by omega
      clear hA6 hz5 k5 hP7 hI HOR HCL
      have k0 := HB7.out.cell 0 rfl
      have k1 := HB7.out.cell 1 rfl
      have k2 := HB7.out.cell 2 rfl
      have o0 := HA7.out.cell 0 rfl
      have o1 := HA7.out.cell 1 rfl
      have o2 := HA7.out.cell 2 rfl
      go_upto_region 16 with fail
      have hub5 : u5 ≤ 100000000000 := by have := HU5.out; have := HKK.out; omega
      have hq1 : (zz : Int) + 1 + (n : Int) ≤ (a.n : Int) := by have := HZQ.out; omega
      have hq2 : (n : Int) ≤ 8 := by have := HZQ.out; omega
      have hq3 : (rr : Int) ≤ (n : Int) := by have := HZQ.out; omega
      have hq4 : (zz : Int) ≤ 20000 := by have := HZQ.out; omega
      try rw [e1]
      clear e1
      go_cut [101] from 82 to 101 (fun s101 wx => ∃ (bb : Bool) (u' : Int) (S' : DS), s101 = .bool bb ∧ Pw wx p a (-1) u' S' ∧ u' ≤ u5 + 2 ∧ (bb = true → I < n ∧ ∀ j, S'.now j = if j = zz + 1 + I then (x2 : Int) else S5.now j) ∧ (bb = false → S' = S5) ∧ Keeps [p, a.s, a.k, a.m] w7 wx)
      case first =>
        by_cases hin : n ≤ I
        · have hini : (n : Int) ≤ (I : Int) := by omega
          have HWR := hid (owrite_free w7 p a u5 S5 HP7.out (by omega) n rr zz I x2 ⟨by omega, by omega⟩ ⟨by omega, by omega⟩)
          rw [show fldE n rr I false = 1 from fldE_out (.inr hini)] at HWR
          have HPT := hid (fun (w' : World) (u' : Int) (hp : Pw w' p a (-1) u' S5) (hu' : u' ≤ u5 + 1) => opoint_free w' p a u' S5 hp (by omega) n rr zz I x2 x2 (IntWalk.u64_in _ (by omega)) ⟨by omega, by omega⟩ ⟨by omega, by omega⟩)
          rw [show fldE n rr I true = 1 from fldE_out (.inr hini)] at HPT
          clear hq1 hq2 hq3 hq4 hub5
          go_wp2_with fail
          refine HWR.out.mono ?_
          rintro e w8 ⟨rfl, hx⟩
          obtain ⟨u8, hP8, hu8, hk8⟩ := hx.out
          rw [setS_no (by decide)] at hP8
          have hA8 := hk8.at HA7.out HBT.out.2.1
          have hB8 := hk8.at HB7.out HBT.out.1
          clear k0 k1 k2 o0 o1 o2
          have k0 := hB8.cell 0 rfl
          have k1 := hB8.cell 1 rfl
          have k2 := hB8.cell 2 rfl
          have o0 := hA8.cell 0 rfl
          have o1 := hA8.cell 1 rfl
          have o2 := hA8.cell 2 rfl
          have HPX := hid (HPT.out w8 u8 hP8 hu8)
          have HU8 := hid hu8
          have HK8 := hid hk8
          clear hx hP8 hu8 hk8 hA8 hB8 HPT
          go_wp2_with fail
          refine HPX.out.mono ?_
          rintro e w9 ⟨rfl, hx⟩
          clear k0 k1 k2 o0 o1 o2
          go_wp2_with fail
          go_meet
          obtain ⟨u9, hP9, hu9, hk9⟩ := hx.out
          rw [setS_no (by decide)] at hP9
          exact ⟨false, u9, S5, rfl, hP9, by have := HU8.out; omega, fun h => by simp at h, fun _ => rfl, HK8.out.trans hk9⟩
        by_cases hir : I < rr
        · have hini : (I : Int) < (n : Int) := by omega
          have hiri : (I : Int) < (rr : Int) := by omega
          have HWR := hid (owrite_free w7 p a u5 S5 HP7.out (by omega) n rr zz I x2 ⟨by omega, by omega⟩ ⟨by omega, by omega⟩)
          rw [show fldE n rr I false = 5 from fldE_kind (by omega) hini (by simp; omega)] at HWR
          have HPT := hid (fun (w' : World) (u' : Int) (hp : Pw w' p a (-1) u' S5) (hu' : u' ≤ u5 + 1) => opoint_free w' p a u' S5 hp (by omega) n rr zz I x2 x2 (IntWalk.u64_in _ (by omega)) ⟨by omega, by omega⟩ ⟨by omega, by omega⟩)
          rw [show fldE n rr I true = 0 from fldE_in (by omega) hini (by simp; omega)] at HPT
          clear hq1 hq2 hq3 hq4 hub5
          go_wp2_with fail
          refine HWR.out.mono ?_
          rintro e w8 ⟨rfl, hx⟩
          obtain ⟨u8, hP8, hu8, hk8⟩ := hx.out
          rw [setS_no (by decide)] at hP8
          have hA8 := hk8.at HA7.out HBT.out.2.1
          have hB8 := hk8.at HB7.out HBT.out.1
          clear k0 k1 k2 o0 o1 o2
          have k0 := hB8.cell 0 rfl
          have k1 := hB8.cell 1 rfl
          have k2 := hB8.cell 2 rfl
          have o0 := hA8.cell 0 rfl
          have o1 := hA8.cell 1 rfl
          have o2 := hA8.cell 2 rfl
          have HPX := hid (HPT.out w8 u8 hP8 hu8)
          have HU8 := hid hu8
          have HK8 := hid hk8
          clear hx hP8 hu8 hk8 hA8 hB8 HPT
          go_wp2_with fail
          refine HPX.out.mono ?_
          rintro e w9 ⟨rfl, hx⟩
          clear k0 k1 k2 o0 o1 o2
          go_wp2_with fail
          go_meet
          obtain ⟨u9, hP9, hu9, hk9⟩ := hx.out
          refine ⟨true, u9, _, rfl, hP9, by have := HU8.out; omega, fun _ => ⟨by omega, fun j => ?_⟩, fun h => by simp at h, HK8.out.trans hk9⟩
          rw [setS_yes, show ((zz : Int) + 1 + (I : Int)).toNat = zz + 1 + I by omega]
        · have hini : (I : Int) < (n : Int) := by omega
          have hiri : (rr : Int) ≤ (I : Int) := by omega
          have HWR := hid (owrite_free w7 p a u5 S5 HP7.out (by omega) n rr zz I x2 ⟨by omega, by omega⟩ ⟨by omega, by omega⟩)
          rw [show fldE n rr I false = 0 from fldE_in (by omega) hini (by simp; omega)] at HWR
          clear hq1 hq2 hq3 hq4 hub5
          go_wp2_with fail
          refine HWR.out.mono ?_
          rintro e w8 ⟨rfl, hx⟩
          clear k0 k1 k2 o0 o1 o2
          go_wp2_with fail
          go_meet
          obtain ⟨u8, hP8, hu8, hk8⟩ := hx.out
          refine ⟨true, u8, _, rfl, hP8, by omega, fun _ => ⟨by omega, fun j => ?_⟩, fun h => by simp at h, hk8⟩
          rw [setS_yes, show ((zz : Int) + 1 + (I : Int)).toNat = zz + 1 + I by omega]
      case rest =>
      obtain ⟨bb, u8, S8, rfl, hP8, hu8, hS8, hS8', hk8⟩ := hcut
      obtain ⟨w8, hw8⟩ : ∃ w8, w8 = wc := ⟨_, rfl⟩
      subst hw8
      have HM8 := hid (HM7.out.keep hk8 HMB.out.1)
      have HK8 : Hid (Keeps [mb, p, a.s, a.k, a.m] w4 w8) := HK7.out.trans (hk8.mono (by intro k _ h; exact List.mem_cons_of_mem _ h))
      have hA8 := hk8.at HA7.out HBT.out.2.1
      have hB8 := hk8.at HB7.out HBT.out.1
      clear k0 k1 k2 o0 o1 o2 hk8
      have HP8 := hid hP8
      have HS8 := hid (And.intro hS8 hS8')
      have HU8 := hid hu8
      have HZI := hid hq4
      clear hP8 hS8 hS8' hu8 HM7 HK7 HP7 HB7 HA7 hq1 hq2 hq3 hq4
      go_upto_if 101 with fail
      cases bb with
      | false =>
        have hS : S8 = S5 := HS8.out.2 rfl
        subst hS
        have HEN : Hid (ApI c os p a mb (k + 1) w4 w8) := by
          obtain ⟨D, h1, h2, h3⟩ := HM8.out
          exact ⟨u8, S8, F5, HP8.out, by have := HU8.out; have := HU5.out; omega, HA5.out, ⟨D, h1.mono (by omega), h2, h3⟩, HK8.out⟩
        clear HS8 HU8 HU5 hub5 hA8 hB8
        go_wp2_with fail
        go_roundg (m3 - (k + 1))
        case measure => (have := HKK.out; omega)
        case rel => exact ⟨k + 1, by have := HKK.out; omega, by go_num, HEN.out⟩
      | true =>
        have k0 := hB8.cell 0 rfl
        have k1 := hB8.cell 1 rfl
        have k2 := hB8.cell 2 rfl
        have o0 := hA8.cell 0 rfl
        have o1 := hA8.cell 1 rfl
        have o2 := hA8.cell 2 rfl
        obtain ⟨w9, hrun, hM9, hk9⟩ := HM8.out.update (z := zz) (i := I) (v := x2) (by have := HKK.out; unfold maxLen; omega) (wf_small (by omega) (by have := HZI.out; omega)) (wf_small (by omega) (by omega)) (wf_small (by omega) (by omega))
        have HEN : Hid (ApI c os p a mb (k + 1) w4 w9) := by
          obtain ⟨h1, h2⟩ := HS8.out.1 rfl
          have g1 := HMB.out
          exact ⟨u8, S8, _, HP8.out.keep hk9 (by simp; exact fun h => g1.2.1 h.symm) (by simp; exact fun h => g1.2.2.1 h.symm) (by simp; exact fun h => g1.2.2.2.1 h.symm) (by simp; exact fun h => g1.2.2.2.2.1 h.symm) (by simp; exact fun h => g1.2.2.2.2.2 h.symm), by have := HU8.out; have := HU5.out; omega, HPUT.out I S8 h1 h2, hM9, HK8.out.trans (hk9.mono (by intro k _ h; simp at h; simp [h]))⟩
        clear HS8 HU8 HU5 hub5 hA8 hB8 hM9 hk9
        go_wp2_with fail
        go_roundg (m3 - (k + 1))
        case measure => (have := HKK.out; omega)
        case rel => exact ⟨k + 1, by have := HKK.out; omega, by go_num, HEN.out⟩
    · have hkm : k = m3 := by omega
      subst hkm
      have HP5 := hid hP5
      have HA5 := hid hA5
      have HM5 := hid hM5
      have HK5 := hid hK5
      have HKW5 := hid hKW
      obtain ⟨w5, hw5⟩ : ∃ w5, w5 = wr := ⟨_, rfl⟩
      subst hw5
      clear hP5 hA5 hM5 hK5 hKW hk hlt hu5 HG
      go_wp2_with fail
      go_loopg [113] L (fun rr9 s113 wx => ∃ q : Nat, q + rr9 = L ∧ s113 = .int .i64 q ∧ Keeps [] w5 wx)
      case atStart => exact ⟨0, by omega, rfl, Keeps.refl _ _⟩
      case round =>
        obtain ⟨q, hq, rfl, hKq⟩ := hrel
        obtain ⟨wq, hwq⟩ : ∃ wq, wq = wr := ⟨_, rfl⟩
        subst hwq
        by_cases hql : q < L
        · have hqo : q < os.length := by have := HL.out; omega
          obtain ⟨zz, hzz⟩ : ∃ zz, zz = c.frm 0 + posL os q := ⟨_, rfl⟩
          obtain ⟨n, hne⟩ : ∃ n, n = os[q].1 := ⟨_, rfl⟩
          obtain ⟨rr, hre⟩ : ∃ rr, rr = os[q].2 := ⟨_, rfl⟩
          have hqq := HQ.out q hqo
          have hhd := HA5.out.head q hqo
          have hww := fun i => HA5.out.word q hqo i
          rw [← hne, ← hre] at hqq hhd
          rw [← hne, ← hzz] at hww
          have HWW := hid hww
          have HZQ : Hid (zz + 1 + n ≤ a.n ∧ zz ≤ 20000 ∧ n ≤ 8 ∧ rr ≤ n) := by
            obtain ⟨q1, q2, q3, q4, q5⟩ := hqq
            exact ⟨by omega, by omega, q1, q2⟩
          have k4q : Keeps [mb, p, a.s, a.k, a.m] w4 wq := HK5.out.trans (hKq.mono (by simp))
          have d0 : wq.cell? ⟨g, q, none⟩ = some (.int .i64 (zz : Nat)) := by rw [k4q.cell HGW.out.1 (fun h => (HTT.out _ h).2.2.2.1 rfl), hzz]; exact HGW.out.2 q hql
          have hCq := k4q.at HC4.out (fun h => (HTT.out _ h).2.1 rfl)
          have hBq := k4q.at HB4.out (fun h => (HTT.out _ h).2.2.1 rfl)
          have HOF := hid (of_head wq p a S5 (HP5.out.keep0 hKq).dev c HO.out HN.out 0 (by omega) U HUS.out (.slice x c.roots cp) (posL os q) n rr hhd (by omega) hqq.2.1 (by omega) zz (by omega))
          have hqi : (q : Int) < (L : Int) := by omega
          have HQI := hid hq
          have c0 := hCq.cell 0 rfl
          have c1 := hCq.cell 1 rfl
          have c2 := hCq.cell 2 rfl
          have b0 := hBq.cell 0 rfl
          have b1 := hBq.cell 1 rfl
          have b2 := hBq.cell 2 rfl
          have HKQ := hid hKq
          clear hq hqo hzz hne hre hqq hhd hww k4q hCq hBq hql hKq
          go_wp2_with fail
          refine HOF.out.mono ?_
          rintro e w6 ⟨rfl, hk6⟩
          clear c0 c1 c2 b0 b1 b2 d0 HOF
          go_upto_region 25 with fail
          have hA7 := At.new w6 (obO n rr zz)
          have k57 := (HKQ.out.trans hk6).alloc (obO n rr zz)
          obtain ⟨b5, hb5⟩ : ∃ b5, b5 = w6.heap.size := ⟨_, rfl⟩
          obtain ⟨w7, hw7⟩ : ∃ w7, w7 = w6.alloc (obO n rr zz) := ⟨_, rfl⟩
          rw [← hw7] at hA7 k57 ⊢
          rw [← hb5] at hA7 ⊢
          have HA7 := hid hA7
          have HK36 := hid k57
          have o0 := hA7.cell 0 rfl
          have o1 := hA7.cell 1 rfl
          have o2 := hA7.cell 2 rfl
          clear hw7 hb5 hA7 k57 hk6
          go_wp2_with fail
          clear o0 o1 o2
          go_loopg [130] n (fun rr9 s130 wx => ∃ i : Nat, i + rr9 = n ∧ s130 = .int .i64 i ∧ Keeps [] w7 wx)
          case atStart => exact ⟨0, by omega, rfl, Keeps.refl _ _⟩
          case round =>
            obtain ⟨i, hi, rfl, hKj⟩ := hrel
            obtain ⟨wi, hwi⟩ : ∃ wi, wi = wr := ⟨_, rfl⟩
            subst hwi
            have hAi := hKj.at HA7.out (by simp)
            have hKi := HK36.out.trans hKj
            by_cases hil : i < n
            · have hq1 : (zz : Int) + 1 + (n : Int) ≤ (a.n : Int) := by have := HZQ.out; omega
              have hq2 : (n : Int) ≤ 64 := by have := HZQ.out; omega
              have hq3 : (rr : Int) ≤ (n : Int) := by have := HZQ.out; omega
              have hq4 : (zz : Int) ≤ 20000 := by have := HZQ.out; omega
              have hini : (i : Int) < (n : Int) := by omega
              have hi8 : (i : Int) ≤ 8 := by have := HZQ.out; omega
              have HII := hid hi
              have HZI := hid hq4
              obtain ⟨vn, hvn⟩ : ∃ vn : Nat, F5 (zz : Int) (i : Int) = (vn : Int) := ⟨(F5 zz i).toNat, by have := HA5.out.byte zz i; omega⟩
              have hvb : vn ≤ 255 := by have := HA5.out.byte zz i; omega
              have hvbi : (vn : Int) ≤ 255 := by omega
              have HFV := hid hvn
              have HWV : Hid (S5.now (zz + 1 + i) = (vn : Int)) := by
                show _ = _
                rw [HWW.out i hil, hvn]
              have o0 := hAi.cell 0 rfl
              have o1 := hAi.cell 1 rfl
              have o2 := hAi.cell 2 rfl
              clear hi hvn hvb
              by_cases hir : i < rr
              · have hiri : (i : Int) < (rr : Int) := by omega
                clear hir hil
                have HRA := hid (oread_at wi p a S5 (HP5.out.keep0 hKi).dev n rr zz i hq2 ⟨by omega, by omega⟩)
                rw [show fldE n rr i false = 5 from fldE_kind (by omega) hini (by simp; omega)] at HRA
                have hr1 : rdW S5 zz i 5 = 0 := by
                  rw [rdW_no (by decide)]
                rw [hr1] at HRA
                have HRB := hid (fun (w' : World) (hk : Keeps [] wi w') => oref_at w' p a S5 (HP5.out.keep0 (hKi.trans hk)).dev n rr zz i hq2 ⟨by omega, by omega⟩)
                rw [show fldE n rr i true = 0 from fldE_in (by omega) hini (by simp; omega)] at HRB
                have hr2 : rfW S5 zz i 0 = (vn : Int) := by
                  unfold rfW; rw [if_pos rfl, show ((zz : Int) + 1 + (i : Int)).toNat = zz + 1 + i by omega, HWV.out]; exact asInt_of vn (by omega)
                rw [hr2] at HRB
                clear hr1 hr2 hq1 hq2 hq3 hq4
                go_wp2_with fail
                refine HRA.out.mono ?_
                rintro e w9 ⟨rfl, hk9⟩
                have hA9 := hk9.at hAi (by simp)
                clear o0 o1 o2
                have o0 := hA9.cell 0 rfl
                have o1 := hA9.cell 1 rfl
                have o2 := hA9.cell 2 rfl
                go_wp2_with fail
                refine (HRB.out _ hk9).mono ?_
                rintro e w10 ⟨rfl, hk10⟩
                have k10 := (HK36.out.trans hKj).trans (hk9.trans hk10)
                have hlk := (HM5.out.keep k10 (by simp)).lookup (z := zz) (i := i) (wf_small (by omega) (by have := HZI.out; omega)) (wf_small (by omega) (by omega))
                rw [HFV.out] at hlk
                have HKN := hid (hKj.trans (hk9.trans hk10))
                clear o0 o1 o2 hk9 hk10 k10 hA9 hAi hKj hKi HRA HRB
                go_wp2_with fail
                go_roundg (n - (i + 1))
                case measure => (have := HII.out; omega)
                case rel => exact ⟨i + 1, by have := HII.out; omega, by go_num, HKN.out⟩
              · have hiri : (rr : Int) ≤ (i : Int) := by omega
                clear hir hil
                have HRA := hid (oread_at wi p a S5 (HP5.out.keep0 hKi).dev n rr zz i hq2 ⟨by omega, by omega⟩)
                rw [show fldE n rr i false = 0 from fldE_in (by omega) hini (by simp; omega)] at HRA
                have hr1 : rdW S5 zz i 0 = (vn : Int) := by
                  unfold rdW; rw [if_pos rfl, show ((zz : Int) + 1 + (i : Int)).toNat = zz + 1 + i by omega]; exact HWV.out
                rw [hr1] at HRA
                have HRB := hid (fun (w' : World) (hk : Keeps [] wi w') => oref_at w' p a S5 (HP5.out.keep0 (hKi.trans hk)).dev n rr zz i hq2 ⟨by omega, by omega⟩)
                rw [show fldE n rr i true = 5 from fldE_kind (by omega) hini (by simp; omega)] at HRB
                have hr2 : rfW S5 zz i 5 = 0 := by
                  rw [rfW_no (by decide)]
                rw [hr2] at HRB
                clear hr1 hr2 hq1 hq2 hq3 hq4
                go_wp2_with fail
                refine HRA.out.mono ?_
                rintro e w9 ⟨rfl, hk9⟩
                have hA9 := hk9.at hAi (by simp)
                clear o0 o1 o2
                have o0 := hA9.cell 0 rfl
                have o1 := hA9.cell 1 rfl
                have o2 := hA9.cell 2 rfl
                go_wp2_with fail
                refine (HRB.out _ hk9).mono ?_
                rintro e w10 ⟨rfl, hk10⟩
                have k10 := (HK36.out.trans hKj).trans (hk9.trans hk10)
                have hlk := (HM5.out.keep k10 (by simp)).lookup (z := zz) (i := i) (wf_small (by omega) (by have := HZI.out; omega)) (wf_small (by omega) (by omega))
                rw [HFV.out] at hlk
                have HKN := hid (hKj.trans (hk9.trans hk10))
                clear o0 o1 o2 hk9 hk10 k10 hA9 hAi hKj hKi HRA HRB
                go_wp2_with fail
                go_roundg (n - (i + 1))
                case measure => (have := HII.out; omega)
                case rel => exact ⟨i + 1, by have := HII.out; omega, by go_num, HKN.out⟩
            · have hin2 : i = n := by omega
              subst hin2
              have HKE : Hid (Keeps [] w5 wi) := hKi
              clear hi hil hKj hKi hAi
              go_wp2_with fail
              go_roundg (L - (q + 1))
              case measure => (have := HQI.out; omega)
              case rel => exact ⟨q + 1, by have := HQI.out; omega, by go_num, HKE.out⟩
        · have hqe : q = L := by omega
          subst hqe
          clear hq hql
          have HKE : Hid (Keeps [] W wq) := HKW5.out.trans hKq
          clear hKq
          go_wp2_with fail
          go_ret
          exact ⟨rfl, HKE.out.below (Nat.le_refl _) (by simp)⟩

theorem objectApart_walk (l r s : Int) (y : Option Addr) (m cm : Nat) (z : Nat → Nat → Int) (y3 : Option Addr) (m3 cm3 : Nat) (z3 : Nat → Nat → Int) (W : World) (wl : (Lit.int .u16 l).wf = true) (wr : (Lit.int .u16 r).wf = true) (ws : (Lit.int .u16 s).wf = true)
    (R2 : m * 2 = 0 ∨ ∃ b off, y = some ⟨b, off, none⟩ ∧ b < W.heap.size ∧ ∀ i j, i < m → j < 2 → W.cell? ⟨b, off + (i * 2 + j), none⟩ = some (.int ((fun j => if j = 0 then IntKind.u8 else IntKind.u8) j) (z i j)) ∧ (Lit.int ((fun j => if j = 0 then IntKind.u8 else IntKind.u8) j) (z i j)).wf = true) (hm : m ≤ maxLen)
    (R3 : m3 * 3 = 0 ∨ ∃ b off, y3 = some ⟨b, off, none⟩ ∧ b < W.heap.size ∧ ∀ i j, i < m3 → j < 3 → W.cell? ⟨b, off + (i * 3 + j), none⟩ = some (.int .u8 (z3 i j)) ∧ (Lit.int .u8 (z3 i j)).wf = true) (hm3 : m3 ≤ maxLen) :
    Calls Tryz.prog 6 #[.agg #[.int .u16 l, .int .u16 r, .int .u16 s], .slice y m cm, .slice y3 m3 cm3] W fun e w' => e = .returned (.bool true) ∧ Below W.heap.size W w' := by
  obtain ⟨l, rfl, hl⟩ := c3_open wl
  obtain ⟨r, rfl, hr⟩ := c3_open wr
  obtain ⟨s, rfl, hs⟩ := c3_open ws
  have hT : ReadsT W y3 m3 (fun i j => (z3 i j).toNat) := by
    rcases R3 with h | ⟨b, off, rfl, hb, hc⟩
    · exact .inl (by omega)
    · refine .inr ⟨b, off, rfl, hb, fun i j hi hj => ?_⟩
      obtain ⟨h1, h2⟩ := hc i j hi hj
      have h2 := bounds_u8 h2
      refine ⟨?_, by show (z3 i j).toNat ≤ 255; omega⟩
      rw [show (((z3 i j).toNat : Nat) : Int) = z3 i j by omega]
      exact h1
  exact apart_small l r s y m cm _ _ y3 m3 cm3 _ W hl hr hs (readsH_of R2) (by unfold maxLen at hm; omega) hT (by unfold maxLen at hm3; omega)

end Go.Proofs.YtfiohbniojmfaaaGreat
