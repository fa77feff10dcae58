/- The walk of the law WalkSums. -/
import Derived.Test.YtcdlikblebdfkaaGreatAwk11
import Derived.BigQuiet
import Derived.Test.YtcdlikblebdfkaaGreatRnd
import Derived.Deep.RegionHeld3
namespace Go.Proofs.YtcdlikblebdfkaaGreat
open Go.RowKit Go.OpenShut

/-- What those have that were gone over, in whatever order. -/
def sumN (os : List (Nat × Nat)) (f : Nat → Bool) : Nat → Nat
  | 0 => 0
  | m + 1 => sumN os f m + (if f m then 0 else nL os m + 1)

theorem sumN_all {os : List (Nat × Nat)} {f : Nat → Bool} : ∀ m, (∀ i, i < m → f i = true) → sumN os f m = 0
  | 0, _ => rfl
  | m + 1, h => by
    show sumN os f m + _ = 0
    rw [sumN_all m (fun i hi => h i (by omega)), h m (by omega)]
    rfl
theorem sumN_none {os : List (Nat × Nat)} {f : Nat → Bool} : ∀ m, m ≤ os.length → (∀ i, i < m → f i = false) → sumN os f m = posL os m
  | 0, _, _ => rfl
  | m + 1, hm, h => by
    show sumN os f m + _ = _
    rw [sumN_none m (by omega) (fun i hi => h i (by omega)), h m (by omega), posN_succ (by omega)]
    simp
    omega
theorem sumN_same {os : List (Nat × Nat)} {f g : Nat → Bool} : ∀ m, (∀ i, i < m → f i = g i) → sumN os f m = sumN os g m
  | 0, _ => rfl
  | m + 1, h => by
    show sumN os f m + _ = sumN os g m + _
    rw [sumN_same m (fun i hi => h i (by omega)), h m (by omega)]
theorem sumN_less {os : List (Nat × Nat)} {f g : Nat → Bool} {j : Nat} (hf : f j = true) : ∀ m, (∀ i, i < m → g i = (f i && !decide (i = j))) → j < m → sumN os g m = sumN os f m + (nL os j + 1)
  | 0, _, h => by omega
  | m + 1, hg, h => by
    show sumN os g m + _ = sumN os f m + _ + _
    by_cases hj : j = m
    · subst hj
      rw [sumN_same (f := g) (g := f) j (fun i hi => by rw [hg i (by omega)]; simp; omega), hg j (by omega), hf]
      simp
    · rw [sumN_less hf m (fun i hi => hg i (by omega)) (by omega), hg m (by omega)]
      rw [show decide (m = j) = false from decide_eq_false (by omega)]
      simp
      omega
theorem sumN_le {os : List (Nat × Nat)} {f : Nat → Bool} : ∀ m, m ≤ os.length → sumN os f m ≤ posL os m
  | 0, _ => Nat.le_refl _
  | m + 1, hm => by
    show sumN os f m + _ ≤ _
    have := sumN_le (os := os) (f := f) m (by omega)
    rw [posN_succ (by omega)]
    split <;> omega

set_option maxRecDepth 100000 in
set_option maxHeartbeats 4000000 in
theorem sums_small (l r s : Nat) (y0 : Option Addr) (m cm : Nat) (R V : Nat → Nat) (y1 : Option Addr) (mn cn : Nat) (G : Nat → Nat) (W : World) (hl : l ≤ 65535) (hrr : r ≤ 65535) (hs : s ≤ 65535)
    (hy : ReadsH W y0 m R V) (hm : m ≤ 9223372036854775807) (hg : ReadsW W y1 mn G) (hmn : mn ≤ 9223372036854775807) :
    Calls Tryz.prog 5 #[c3V l r s, .slice y0 m cm, .slice y1 mn cn] W fun e w' => e = .returned (.bool true) ∧ Below W.heap.size W w' := by
  have hmi : (m : Int) ≤ 9223372036854775807 := by omega
  have hmni : (mn : Int) ≤ 9223372036854775807 := by omega
  have HG := hid hg
  clear hg
  have HY := hid hy
  clear hy
  refine callsAt_marks Tryz.func5 rfl (.of_wp ?_)
  simp only [Tryz.ntmps5, List.size_toArray, List.length_cons, List.length_nil, Nat.reduceAdd, Nat.reduceSub, Array.replicate_succ, Array.replicate_zero, List.push_toArray, List.append_toArray, List.nil_append, List.cons_append]
  go_wp2_with fail
  have h_xb := (At.new W (c3O l r s)).alloc (.cells #[.bool false] 4)
  have h_rb := At.new (W.alloc (c3O l r s)) (.cells #[.bool false] 4)
  have K0 := (((Keeps.refl [] W).alloc (c3O l r s)).alloc (.cells #[.bool false] 4))
  simp only [World.size_alloc] at h_rb
  obtain ⟨xb, hq_xb⟩ : ∃ q, q = W.heap.size := ⟨_, rfl⟩
  obtain ⟨rb, hq_rb⟩ : ∃ q, q = W.heap.size + 1 := ⟨_, rfl⟩
  rw [← hq_rb, ← hq_xb]
  rw [← hq_xb] at h_xb
  rw [← hq_rb] at h_rb
  have HQ : Hid (xb = W.heap.size ∧ rb = W.heap.size + 1) := ⟨by omega, by omega⟩
  refine (awake11_any _).mono ?_
  rintro e w1 ⟨rfl, hb1⟩
  have k1 := Go.Proofs.YtcdlikblebdfkaaGreat.Below.keeps hb1 []
  have K1 := K0.trans k1
  have g_xb := k1.at h_xb (by simp)
  have g_rb := k1.at h_rb (by simp)
  clear hb1 k1 K0 h_xb h_rb hq_xb hq_rb
  have c0 : w1.cell? ⟨xb, 0, none⟩ = some (.int .u16 l) := g_xb.cell 0 rfl
  have c1 : w1.cell? ⟨xb, 1, none⟩ = some (.int .u16 r) := g_xb.cell 1 rfl
  have c2 : w1.cell? ⟨xb, 2, none⟩ = some (.int .u16 s) := g_xb.cell 2 rfl
  have rf0 := g_rb.free 0
  have rc0 := g_rb.cell 0 rfl
  by_cases hm30 : m ≤ 30
  case neg =>
    have hm2 : (30 : Int) < (m : Int) := by omega
    have hm3 : decide ((30 : Int) < (m : Int)) = true := decide_eq_true hm2
    go_wp2_with fail
    have hRF := g_rb.set 0 (.bool true)
    have y0 := hRF.cell 0 rfl
    refine ⟨.bool true, ?_, rfl, ?_⟩
    · simp [results, Tryz.results5, go_sem, y0]
    · exact (K1.set (.inr (by have := HQ.out; show W.heap.size ≤ rb; omega)) _).below (Nat.le_refl _) (by simp)
  have hm2 : (m : Int) ≤ 30 := by omega
  have hm3 : decide ((30 : Int) < (m : Int)) = false := decide_eq_false (by omega)
  by_cases hn60 : mn ≤ 60
  case neg =>
    have hn2 : (60 : Int) < (mn : Int) := by omega
    have hn3 : decide ((60 : Int) < (mn : Int)) = true := decide_eq_true hn2
    go_wp2_with fail
    have hRF := g_rb.set 0 (.bool true)
    have y0 := hRF.cell 0 rfl
    refine ⟨.bool true, ?_, rfl, ?_⟩
    · simp [results, Tryz.results5, go_sem, y0]
    · exact (K1.set (.inr (by have := HQ.out; show W.heap.size ≤ rb; omega)) _).below (Nat.le_refl _) (by simp)
  have hn2 : (mn : Int) ≤ 60 := by omega
  have hn3 : decide ((60 : Int) < (mn : Int)) = false := decide_eq_false (by omega)
  clear hmi hmni
  have hok := mk3_ok l r s
  obtain ⟨c, hc⟩ : ∃ c, c = mk3 l r s := ⟨_, rfl⟩
  rw [← hc] at hok
  obtain ⟨os, hos⟩ : ∃ os, os = fillL c.space (hdsL R V m) := ⟨_, rfl⟩
  have HLI := hid (linked_at w1 l r s hl hrr hs y0 m cm R V (HY.out.keep K1 (by simp)) (by omega) y1 mn cn G (HG.out.keep K1 (by simp)) (by omega) 0 (by omega) c hc os hos)
  clear hc
  go_wp2_with fail
  refine HLI.out.mono ?_
  rintro e w3 ⟨p, a, u, S, x, cp, y, cy, B, rfl, hn, hP, hub, hF, hU, hI, ⟨b1, b2, b3, b4, b5⟩, hB, hk3⟩
  have K3 := K1.trans hk3
  have f_rb := hk3.at g_rb (by simp)
  have HO := hid hok
  have HN := hid hn
  obtain ⟨L, hL⟩ : ∃ L, L = os.length := ⟨_, rfl⟩
  have hLm : L ≤ m := by rw [hL, hos]; exact fillL_len _ _ _ _
  have hLi : (L : Int) ≤ 30 := by omega
  have HL := hid hL
  rw [← hL] at hI ⊢
  obtain ⟨us, hus⟩ : ∃ us, us = lenL os := ⟨_, rfl⟩
  have HUS := hid hus
  rw [← hus]
  have husb : us ≤ c.space := by rw [hus]; exact hF.fits
  have hsp : c.space ≤ 4096 := hok.small.2.2
  have husi : (us : Int) ≤ 4096 := by omega
  have hch := hF.chain
  rw [← hus] at hch
  have HCH := hid hch
  have HFS := hid (And.intro husb hsp)
  have HP := hid hP
  have HRB3 : Hid (rb < w3.heap.size) := f_rb.lt
  have HD4 : Hid (a.d < w3.heap.size ∧ a.s < w3.heap.size ∧ a.k < w3.heap.size ∧ a.m < w3.heap.size) := ⟨hP.dev.dev.lt, hP.dev.now.lt, hP.dev.kept.lt, hP.dev.map.lt⟩
  have HK3 := hid K3
  have HFB : Hid (c.frm 0 ≤ 15000) := frm_le hok.small (show 0 ≤ 2 by omega)
  clear hm30 hn60 hm3 hn3 hn2 hos hL hLm hus husb hsp hch hF hP hub hI hU hB b1 b2 b3 b4 b5 hk3 K1 c0 c1 c2 rf0 rc0 HLI hok hn K3 g_xb g_rb
  go_wp2_with fail
  have hC4 := (At.new w3 (cfgO c)).alloc (bkO 0 (us : Nat) (.slice x c.roots cp))
  have hB4 := At.new (w3.alloc (cfgO c)) (bkO 0 (us : Nat) (.slice x c.roots cp))
  have k34 := ((Keeps.refl [] w3).alloc (cfgO c)).alloc (bkO 0 (us : Nat) (.slice x c.roots cp))
  simp only [World.size_alloc] at hB4
  obtain ⟨cb, hcb⟩ : ∃ q, q = w3.heap.size := ⟨_, rfl⟩
  obtain ⟨bb, hbb⟩ : ∃ q, q = w3.heap.size + 1 := ⟨_, rfl⟩
  obtain ⟨w4, hw4⟩ : ∃ w4, w4 = (w3.alloc (cfgO c)).alloc (bkO 0 (us : Nat) (.slice x c.roots cp)) := ⟨_, rfl⟩
  have hz4 : w4.heap.size = w3.heap.size + 2 := by rw [hw4]; simp
  rw [← hw4] at hC4 hB4 k34
  first | rw [← hw4] | skip
  rw [← hbb, ← hcb]
  rw [← hcb] at hC4
  rw [← hbb] at hB4
  have HPL : Hid (p < w3.heap.size) := HP.out.pow.lt
  have HZ4 : Hid (cb = w3.heap.size ∧ bb = cb + 1 ∧ w4.heap.size = cb + 2) := ⟨by omega, by omega, by omega⟩
  have hR4 := k34.at f_rb (by simp)
  have hP4 := HP.out.keep0 k34
  have HC4 := hid hC4
  have HB4 := hid hB4
  have HR4 := hid hR4
  have HP4 := hid hP4
  have HK4 := hid (HK3.out.trans k34)
  clear hw4 hz4 hcb hbb f_rb hC4 hB4 hR4 hP4 k34
  have hmix : Tryz.prog.follows .mixedOrders = true := by kernel_rfl
  obtain ⟨ff, hff⟩ : ∃ ff, ff = c.frm 0 := ⟨_, rfl⟩
  have HFF := hid hff
  have HPC := hid (fun w (i : Int) (hi : -100000 ≤ i ∧ i ≤ 100000) => place8_at w c HO.out.small 0 (by omega) us (.slice x c.roots cp) i hi)
  rw [← hff] at HPC
  refine (HPC.out w4 0 (by omega)).mono ?_
  rintro e w5 ⟨rfl, k45⟩
  rw [Int.add_zero]
  have hC6 := (k45.at HC4.out (by simp)).alloc (.cells #[.int .i64 (ff : Nat)] 3)
  have hB6 := (k45.at HB4.out (by simp)).alloc (.cells #[.int .i64 (ff : Nat)] 3)
  have hA6 := At.new w5 (.cells #[.int .i64 (ff : Nat)] 3)
  have k56 := (Keeps.refl [] w5).alloc (.cells #[.int .i64 (ff : Nat)] 3)
  have c0 := hC6.cell 0 rfl
  have c1 := hC6.cell 1 rfl
  have c2 := hC6.cell 2 rfl
  have b0 := hB6.cell 0 rfl
  have b1 := hB6.cell 1 rfl
  have b2 := hB6.cell 2 rfl
  clear hff
  go_wp2_with fail
  obtain ⟨ab, hab⟩ : ∃ q, q = w5.heap.size := ⟨_, rfl⟩
  obtain ⟨w6, hw6⟩ : ∃ w6, w6 = w5.alloc (.cells #[.int .i64 (ff : Nat)] 3) := ⟨_, rfl⟩
  have hz6 : w6.heap.size = ab + 1 := by rw [hw6, hab]; simp
  rw [← hw6] at hC6 hB6 hA6 k56
  first | rw [← hw6] | skip
  first | rw [← hab] | skip
  rw [← hab] at hA6
  have HZ6 : Hid (cb + 2 ≤ ab ∧ w6.heap.size = ab + 1) := ⟨by have := HZ4.out; have := k45.size; omega, hz6⟩
  have hR6 := k56.at (k45.at HR4.out (by simp)) (by simp)
  have hP6 := (HP4.out.keep0 k45).keep0 k56
  have K6 := (HK4.out.trans k45).trans k56
  clear hw6 hab hz6 k45 k56 c0 c1 c2 b0 b1 b2
  refine (objects_at w6 a.d c 0 us (.slice x c.roots cp)).mono ?_
  rintro e w7 ⟨rfl, hx0, hx1, hx2, k67, hz7⟩
  have hD7 := hP6.dev.keep k67 (by simp) (by simp) (by simp) (by simp)
  have HO7 : Hid (ObjF (w6.heap.size + 2) (w6.heap.size + 1) w6.heap.size a c 0 us os false w7) := ⟨hx2, hx1, hx0, p, S, hD7, HCH.out⟩
  have HC7 := hid (k67.at hC6 (by simp))
  have HB7 := hid (k67.at hB6 (by simp))
  have HR7 := hid (k67.at hR6 (by simp))
  have HA7 := hid (k67.at hA6 (by simp))
  have HP7 := hid (hP6.keep0 k67)
  have HK7 := hid (K6.trans k67)
  have HZ7 : Hid (w7.heap.size = ab + 4) := by show _ = _; have := HZ6.out; omega
  clear hx0 hx1 hx2 hD7 hC6 hB6 hR6 hA6 hP6 K6 k67 hz7
  go_wp2_with fail
  refine wp_rangeE (gf := 31) (lb := #[ptr (w6.heap.size + 2), ptr (w6.heap.size + 1), ptr w6.heap.size]) rfl (enters_of Tryz.func31 (by kernel_rfl) rfl) (fun fn => ?_)
  refine' (iter_core (objs_iter _ _ _ a c 0 us os false HO.out HN.out (by omega)) fn w7 _ _ _ _
    (fun i W => i ≤ L ∧ At W ab (.cells #[.int .i64 ((ff + posL os i : Nat) : Int)] 3) ∧ Keeps [ab] w7 W)
    (fun W => False)
    .ret .ret (.inl ⟨rfl, rfl⟩) (fun _ => rfl) ?fct ?keep ?keepx ?round ?start).mono ?after
  case fct =>
    rintro i W ⟨_, _, hk⟩
    obtain ⟨h1, h2, h3, p', S', h4, h5⟩ := HO7.out
    have hz := HZ7.out
    have hz6 := HZ6.out
    have hpl := HP7.out
    have hT : ∀ b, b ≠ ab → b ∉ [ab] := fun b hb => by simpa using hb
    have hd := HD4.out
    have hz4 := HZ4.out
    exact ⟨hk.at h1 (hT _ (by omega)), hk.at h2 (hT _ (by omega)), hk.at h3 (hT _ (by omega)), p', S', h4.keep hk (hT _ (by omega)) (hT _ (by omega)) (hT _ (by omega)) (hT _ (by omega)), h5⟩
  case keep =>
    rintro i W W' ⟨h1, h2, hk⟩ hk'
    have hz := HZ7.out
    exact ⟨h1, hk'.at h2 (by simp; omega), hk.new hk' (by simp)⟩
  case keepx =>
    rintro W W' h _
    exact h
  case start => exact ⟨Nat.zero_le _, by rw [posL_zero]; exact HA7.out, Keeps.refl _ _⟩
  case round =>
    rintro l' i W0 W him ⟨_, _, hk0⟩ k0 ⟨hil, hA, hK⟩ hsz
    have hlt : i < L := by unfold objM at him; simp at him; have := HL.out; omega
    have hlo : i < os.length := by have := HL.out; omega
    rw [show objA c 0 os i = #[obV (nL os i : Nat) (rL os i : Nat) ((c.frm 0 + posL os i : Nat) : Int), .int .i64 0] by unfold objA; rw [if_pos hlo]]
    have hps := posN_succ hlo
    have hpe := posN_end hlo
    have hn64 := ((HCH.out.head i _ (nL_in hlo))).1
    rw [← HUS.out] at hpe
    obtain ⟨nn, hnn⟩ : ∃ nn, nn = nL os i := ⟨_, rfl⟩
    obtain ⟨rr, hrr⟩ : ∃ rr, rr = rL os i := ⟨_, rfl⟩
    obtain ⟨zi, hzi⟩ : ∃ zi, zi = c.frm 0 + posL os i := ⟨_, rfl⟩
    have hze : ff + posL os i = zi := by rw [HFF.out, hzi]
    rw [← hnn, ← hrr, ← hzi]
    rw [hze] at hA
    rw [← hnn] at hps hpe
    have hn64 : nn ≤ 64 := by rw [hnn]; exact hn64
    have hzb : (zi : Int) ≤ 20000 := by have := HFB.out; have := HFS.out; omega
    have hni : (nn : Int) ≤ 64 := by omega
    have HSU : Hid (ff + posL os (i + 1) = zi + (nn + 1)) := by show _ = _; omega
    have HLT := hid hlt
    have HKW := hid hK
    have HAW := hid hA
    have HSZ := hid (fun w => hsize_at w nn rr (by omega))
    clear hnn hrr hzi hze hlt hlo hK hA him hil hps hpe hn64
    have hsem := @Oper.semAt_some
    gi_wp2_with fail
    refine ⟨(Keeps.refl [] W).alloc _, fun W₂ k2 hz2 => ?_⟩
    have hz := HZ7.out
    have hm0 : ab < W0.heap.size := by have := hk0.size; omega
    have hWz : W0.heap.size ≤ W.heap.size := k0.size
    have hO2 := k2.at (At.new W (obO (nn : Nat) (rr : Nat) zi)) (by simp; omega)
    have kW2 : Keeps [w7.heap.size + 1] W W₂ := ((Keeps.refl _ W).alloc _).trans k2
    have hA2 := kW2.at HAW.out (by simp; omega)
    have hKN : Hid (Keeps [ab] w7 W₂) := HKW.out.new kW2 (by simp)
    have o0 := hO2.cell 0 rfl
    have o1 := hO2.cell 1 rfl
    have o2 := hO2.cell 2 rfl
    have a0 := hA2.cell 0 rfl
    have HO2 := hid hO2
    have HA2 := hid (And.intro hA2 hm0)
    have HWH : Hid (W.heap.size ≠ ab) := by show _ ≠ _; omega
    clear hz hm0 hWz hO2 kW2 hA2 k2 hz2 k0 hk0 hsz
    gi_wp2_with fail
    have HA2D := hid (HA2.out.1.drew)
    have HO2D := hid (HO2.out.drew)
    have e1 : IntKind.i64.wrap ((zi : Int) + ((nn : Int) + 1)) = (zi : Int) + ((nn : Int) + 1) := IntWalk.i64_in _ (by omega)
    gi_region_with_o (first
      | (refine ⟨trivial, ?_⟩; gi_at_call 16; refine (callsIn_wide.2 (HSZ.out _)).mono ?_; rintro e W3 ⟨rfl, hk3⟩; have hA3 := hk3.at HA2D.out (by simp); have a3 := hA3.cell 0 rfl; have af := hA3.free 0))
    all_goals
      have hA4 := hA3.set 0 (.int .i64 ((zi : Int) + ((nn : Int) + 1)))
      have kE : Keeps [ab] W₂ (W3.setCell ⟨ab, 0, none⟩ (.int .i64 ((zi : Int) + ((nn : Int) + 1)))) := (((Keeps.refl [ab] W₂).drew).trans (hk3.mono (by simp))).set (p := ⟨ab, 0, none⟩) (.inl (by simp)) _
      have HE := hid (And.intro hA4 kE)
      clear hA4 kE hA3 a3 af hk3
      gi_wp2_with fail
      refine ⟨⟨?_, ?_, ?_⟩, [ab], HE.out.2, ?_, ?_, fun b hb => .inl (by obtain rfl := List.mem_singleton.1 hb; exact HA2.out.2)⟩
      · have := HLT.out; omega
      · rw [show ((ff : Int) + ((posL os (i + 1) : Nat) : Int)) = (zi : Int) + ((nn : Int) + 1) by have := HSU.out; omega]; exact HE.out.1
      · exact hKN.out.trans HE.out.2
      · have := HZ7.out; simp; omega
      · have := HZ7.out; simp; omega
  case after =>
    intro e w8 hr
    cases e with
    | panicked _ => exact hr
    | outgrown => exact hr
    | returned v =>
      rcases hr with ⟨w9, hend, ⟨hil, hA, hK⟩, hDf⟩ | ⟨w9, hend, h, hDf⟩
      case inr => exact h.elim
      refine .inl ⟨w9, hend, ?_⟩
      obtain ⟨ee, hee⟩ : ∃ ee, ee = ff + us := ⟨_, rfl⟩
      have hA9 : At w9 ab (.cells #[.int .i64 (ee : Nat)] 3) := by
        rw [show ((ee : Nat) : Int) = ((ff + posL os (objM os false) : Nat) : Int) by
          unfold objM
          rw [hee, HUS.out]
          simp [posL_all]]
        exact hA
      have hP9 := HP7.out.keep hK (by have := HP7.out.pow.lt; have := HD4.out; have := HZ4.out; have := HZ6.out; have := HPL.out; simp; omega) (by have := HD4.out; have := HZ4.out; have := HZ6.out; simp; omega) (by have := HD4.out; have := HZ4.out; have := HZ6.out; simp; omega) (by have := HD4.out; have := HZ4.out; have := HZ6.out; simp; omega) (by have := HD4.out; have := HZ4.out; have := HZ6.out; simp; omega)
      have hC9 := hK.at HC7.out (by have := HZ4.out; have := HZ6.out; simp; omega)
      have hB9 := hK.at HB7.out (by have := HZ4.out; have := HZ6.out; simp; omega)
      have hR9 := hK.at HR7.out (by have := HR4.out.lt; have := HZ4.out; have := HZ6.out; simp; omega)
      have HDB : Hid (ab + 4 ≤ w7.heap.size ∧ At w9 w7.heap.size (.deferred (some []))) := ⟨by have := HZ7.out; omega, hDf⟩
      obtain ⟨db, hdb⟩ : ∃ db, db = w7.heap.size := ⟨_, rfl⟩
      have HDW : Hid (db = ab + 4 ∧ W.heap.size ≤ db) := ⟨by have := HZ7.out; omega, by rw [hdb]; exact HK7.out.size⟩
      rw [← hdb] at HDB ⊢
      have HEE := hid hee
      have HA9 := hid hA9
      have HB9 := hid hB9
      have HC9 := hid hC9
      have HR9 := hid hR9
      have HD9 := hid hP9.dev
      have HK9 : Hid (Keeps [] W w9) := HK7.out.new hK (fun b hb => .inr (by have := List.mem_singleton.1 hb; have := HZ6.out; have := HZ4.out; have := HK3.out.size; omega))
      have c0 := hC9.cell 0 rfl
      have c1 := hC9.cell 1 rfl
      have c2 := hC9.cell 2 rfl
      have b0 := hB9.cell 0 rfl
      have b1 := hB9.cell 1 rfl
      have b2 := hB9.cell 2 rfl
      clear hend hil hA hK hDf hee hA9 hP9 hC9 hB9 hR9 hdb
      simp only [Exit.inBlock, Exit.then]
      go_wp2_with fail
      refine (starts_at w9 p a S c 0 us os false HD9.out HO.out HN.out (by omega) HCH.out (.slice x c.roots cp)).mono ?_
      rintro e w10 ⟨mb, rfl, hI10, hmb, k9⟩
      simp only [Bool.false_eq_true, if_false]
      clear c0 c1 c2 b0 b1 b2
      have hE := hI10
      have hmbl : mb < w10.heap.size := hI10.lt
      have HI10 := hid hI10
      have HA10 := hid (k9.at HA9.out (by simp))
      have HB10 := hid (k9.at HB9.out (by simp))
      have HC10 := hid (k9.at HC9.out (by simp))
      have HR10 := hid (k9.at HR9.out (by simp))
      have HF10 := hid (k9.at HDB.out.2 (by simp))
      have HK10 := hid (HK9.out.trans k9)
      clear hI10 hmb k9
      go_wp2_with (at_range; refine wpList_range_at rfl _ _ rfl 3 44 Tryz.underlying50 mb _ rfl hE ?_; intro w20 cnt hr20 hk20 hz20)
      go_frame
      obtain ⟨ib, hib⟩ : ∃ ib, ib = w10.heap.size := ⟨_, rfl⟩
      rw [← hib] at hr20 hmbl ⊢
      have HIB : Hid (ib ≠ mb ∧ W.heap.size ≤ ib) := ⟨by omega, by rw [hib]; exact HK10.out.size⟩
      have hA20 := hk20.at HA10.out (by simp)
      have hB20 := hk20.at HB10.out (by simp)
      have hC20 := hk20.at HC10.out (by simp)
      have hR20 := hk20.at HR10.out (by simp)
      have hF20 := hk20.at HF10.out (by simp)
      have hlt20 : ∀ {b o}, At w10 b o → b < ib := fun h => by rw [hib]; exact h.lt
      have HLT20 : Hid (ab < ib ∧ bb < ib ∧ cb < ib ∧ rb < ib ∧ db < ib) := ⟨hlt20 HA10.out, hlt20 HB10.out, hlt20 HC10.out, hlt20 HR10.out, hlt20 HF10.out⟩
      have HA20 := hid hA20
      have HB20 := hid hB20
      have HC20 := hid hC20
      have HR20 := hid hR20
      have HF20 := hid hF20
      have HK20 := hid (HK10.out.trans hk20)
      clear hE hk20 hz20 hib hmbl hlt20 hA20 hB20 hC20 hR20 hF20
      obtain ⟨F, hF⟩ : ∃ F : (Int → Bool) → Nat → Bool, F = fun left i => left ((c.frm 0 + posL os i : Nat) : Int) := ⟨_, rfl⟩
      have HF := hid hF
      clear hF
      go_loopg [16] cnt (fun rl s16 wq => ∃ (left : Int → Bool) (q : Nat), s16 = .int .i64 q ∧ q = sumN os (F left) L ∧ IRange wq ib mb (stD c 0 os os.length) left rl ∧ Keeps [ib] w20 wq)
      case atStart =>
        refine ⟨_, 0, rfl, ?_, hr20, Keeps.refl _ _⟩
        refine (sumN_all L (fun i hi => ?_)).symm
        rw [HF.out]
        show (stD c 0 os os.length _).isSome = true
        rw [stD_at (by have := HL.out; omega) (Nat.le_refl _)]
        rfl
      case round =>
        obtain ⟨left, q, rfl, hq, hR, hK⟩ := hrel
        have HQE := hid hq
        have HKQ := hid hK
        have HRQ := hid hR
        clear hr20 hq hK
        go_wp2_with (at_next; refine wpList_next_at rfl _ rfl ib mb _ left gk rfl hR HIB.out.1 ?_ ?_)
        · intro hr0 hl0
          have hqu : q = us := by
            rw [HQE.out, HUS.out, sumN_none L (by have := HL.out; omega) (fun i hi => by rw [HF.out]; exact hl0 _), HL.out, posL_all]
          obtain rfl : us = q := hqu.symm
          clear hr0 hl0 hR hqu
          have hA30 := HKQ.out.at HA20.out (by have := HLT20.out; simp; omega)
          have hB30 := HKQ.out.at HB20.out (by have := HLT20.out; simp; omega)
          have hC30 := HKQ.out.at HC20.out (by have := HLT20.out; simp; omega)
          have hR30 := HKQ.out.at HR20.out (by have := HLT20.out; simp; omega)
          have hF30 := HKQ.out.at HF20.out (by have := HLT20.out; simp; omega)
          have HK30 : Hid (Keeps [] W wr) := HK20.out.new HKQ.out (fun b hb => .inr (by have := List.mem_singleton.1 hb; have := HIB.out; omega))
          have a0 := hA30.cell 0 rfl
          have b0 := hB30.cell 0 rfl
          have b1 := hB30.cell 1 rfl
          have b2 := hB30.cell 2 rfl
          have c0 := hC30.cell 0 rfl
          have c1 := hC30.cell 1 rfl
          have c2 := hC30.cell 2 rfl
          have r0 := hR30.cell 0 rfl
          have rf := hR30.free 0
          have HA30 := hid hA30
          have HR30 := hid hR30
          have HF30 := hid hF30
          have HCC : Hid (∀ w', Keeps [rb] wr w' → (w'.cell? ⟨ab, 0, none⟩ = some (.int .i64 (ee : Nat)) ∧ w'.cell? ⟨bb, 0, none⟩ = some (.int .i64 0) ∧ w'.cell? ⟨bb, 1, none⟩ = some (.int .i64 (us : Nat)) ∧ w'.cell? ⟨bb, 2, none⟩ = some (.slice x c.roots cp) ∧ w'.cell? ⟨cb, 0, none⟩ = some (.int .i64 c.log) ∧ w'.cell? ⟨cb, 1, none⟩ = some (.int .i64 c.roots) ∧ w'.cell? ⟨cb, 2, none⟩ = some (.int .i64 c.space))) := fun w' hk => by
            have h3 := HRB3.out
            have h4 := HZ4.out
            have h6 := HZ6.out
            have x1 := hk.at hA30 (by simp; omega)
            have x2 := hk.at hB30 (by simp; omega)
            have x3 := hk.at hC30 (by simp; omega)
            exact ⟨x1.cell 0 rfl, x2.cell 0 rfl, x2.cell 1 rfl, x2.cell 2 rfl, x3.cell 0 rfl, x3.cell 1 rfl, x3.cell 2 rfl⟩
          have t1 : ((ee : Int) == (ff : Int) + (us : Int)) = true := by rw [beq_iff_eq]; have := HEE.out; omega
          have HPC2 := hid (fun w => HPC.out w (us : Nat) (by omega))
          clear hA30 hB30 hC30 hR30 hF30
          go_wp2_with fail
          clear a0 b0 b1 b2 c0 c1 c2 r0 rf
          have kk : Keeps [] wr wr.drew := (Keeps.refl _ _).drew
          go_region_held3 (fun w' => w'.cell? ⟨ab, 0, none⟩ = some (.int .i64 (ee : Nat)) ∧ w'.cell? ⟨bb, 0, none⟩ = some (.int .i64 0) ∧ w'.cell? ⟨bb, 1, none⟩ = some (.int .i64 (us : Nat)) ∧ w'.cell? ⟨bb, 2, none⟩ = some (.slice x c.roots cp) ∧ w'.cell? ⟨cb, 0, none⟩ = some (.int .i64 c.log) ∧ w'.cell? ⟨cb, 1, none⟩ = some (.int .i64 c.roots) ∧ w'.cell? ⟨cb, 2, none⟩ = some (.int .i64 c.space))
            (first | exact HCC.out _ (kk.mono (by simp)) | exact HCC.out _ ((kk.mono (by simp)).set (p := ⟨rb, 0, none⟩) (.inl (by simp)) _))
            (first
              | (go_at_call 15; refine (HPC2.out _).mono ?_; rintro e w' ⟨rfl, hk9⟩; have kk := kk.trans hk9; clear hk9; have hR9 := kk.at HR30.out (by simp); have r0 := hR9.cell 0 rfl; have rf := hR9.free 0))
          all_goals
            rename_i hHd
            clear hHd
            go_wp2_with fail
            have hdr : db ≠ rb := by have := HDW.out; have := HRB3.out; have := HZ4.out; have := HZ6.out; have := HZ7.out; omega
            have hrb : W.heap.size ≤ rb := by have := HQ.out; omega
            have hwd : W.heap.size ≤ db := by have := HDW.out; omega
            have hDf := (kk.at HF30.out (by simp)).set_ne (a := ⟨rb, 0, none⟩) (by show db ≠ rb; omega) (.bool true)
            have kd : Keeps [db] (w'.setCell ⟨rb, 0, none⟩ (.bool true)) ((w'.setCell ⟨rb, 0, none⟩ (.bool true)).putObj db (.deferred none)) := (Keeps.refl _ _).put (.inl (by simp)) _
            refine ⟨by simp, .inl ⟨_, _, rfl, run_takeDeferred hDf, ?_⟩⟩
            have cf := ((kd.at ((kk.at HR30.out (by simp)).set 0 (.bool true)) (by simp; omega)).cell 0 rfl : _ = some (Value.bool true))
            refine ⟨.bool true, ?_, rfl, ?_⟩
            · simp [results, Tryz.results5, go_sem, cf]
            · exact (((HK30.out.trans kk).set (.inr hrb) _).new kd (fun b hb => .inr (by have := List.mem_singleton.1 hb; omega))).below (Nat.le_refl _) (by simp)
        · intro k v w21 cnt' hlk hD hlt' hR3 hk21 hen
          obtain ⟨jx, hjx, hjk, hjv⟩ := stD_some (Nat.le_refl _) hD
          subst hjv
          have hjo : jx < os.length := hjx
          have hsu : q + (nL os jx + 1) = sumN os (F fun z => left z && !decide (z = k)) L := by
            rw [HQE.out]
            refine (sumN_less (f := F left) (j := jx) ?_ L (fun i hi => ?_) (by have := HL.out; omega)).symm
            · rw [HF.out]; show left _ = true; rw [← hjk]; exact hlk
            · rw [HF.out]
              show (left _ && !decide (_ = k)) = (left _ && !decide (i = jx))
              congr 2
              rw [decide_eq_decide, hjk]
              constructor
              · intro h
                have h : c.frm 0 + posL os i = c.frm 0 + posL os jx := by exact_mod_cast h
                exact posL_inj (l := os) (by have := HL.out; omega) (by omega) (by omega)
              · rintro rfl; rfl
          have hpe := posN_end hjo
          have hqb := sumN_le (os := os) (f := F left) L (by have := HL.out; omega)
          rw [← HQE.out, HL.out, posL_all, ← HUS.out] at hqb
          rw [← HUS.out] at hpe
          obtain ⟨nn, hnn⟩ : ∃ nn, nn = nL os jx := ⟨_, rfl⟩
          obtain ⟨rr, hrr⟩ : ∃ rr, rr = rL os jx := ⟨_, rfl⟩
          rw [← hnn] at hpe hsu
          rw [← hnn, ← hrr]
          have hni : (nn : Int) ≤ 4096 := by omega
          have hnb : nn ≤ 64 := by rw [hnn]; exact (HCH.out.head jx _ (nL_in hjo)).1
          have hqi : (q : Int) ≤ 4096 := by omega
          have HR3 := hid hR3
          have HCN := hid hlt'
          have HSU := hid hsu
          have HNB := hid hnb
          have HK21 := hid (HKQ.out.trans hk21)
          rw [← hnn, ← hrr] at hen
          have hO22 := At.new w21 (obO (nn : Nat) (rr : Nat) k)
          have o0 := hO22.cell 0 rfl
          have o1 := hO22.cell 1 rfl
          clear hD hlk hR3 hlt' hjx hjk hjo hpe hqb hnn hrr hnb hsu hR hk21
          go_wp2_with fail
          refine (hsize_at _ nn rr (by have := HNB.out; omega)).mono ?_
          rintro e w22 ⟨rfl, hk22⟩
          have HK22 : Hid (Keeps [] w21 w22) := ((Keeps.refl [] w21).alloc (obO (nn : Nat) (rr : Nat) k)).trans hk22
          clear o0 o1 hO22 hk22
          go_wp2_with fail
          go_roundg cnt'
          case measure => exact HCN.out
          case rel => exact ⟨_, q + (nn + 1), by go_num, HSU.out, HR3.out.keep HK22.out (by simp) (by simp), HK21.out.trans (HK22.out.mono (by simp))⟩

theorem walkSums_walk (l r s : Int) (y : Option Addr) (m cm : Nat) (z : Nat → Nat → Int) (y1 : Option Addr) (mn cn : Nat) (g : Nat → Int) (W : World) (wl : (Lit.int .u16 l).wf = true) (wr : (Lit.int .u16 r).wf = true) (ws : (Lit.int .u16 s).wf = true)
    (R2 : m * 2 = 0 ∨ ∃ b off, y = some ⟨b, off, none⟩ ∧ b < W.heap.size ∧ ∀ i j, i < m → j < 2 → W.cell? ⟨b, off + (i * 2 + j), none⟩ = some (.int ((fun j => if j = 0 then IntKind.u8 else IntKind.u8) j) (z i j)) ∧ (Lit.int ((fun j => if j = 0 then IntKind.u8 else IntKind.u8) j) (z i j)).wf = true) (hm : m ≤ maxLen)
    (R : ReadsV (Value.int .u16) W y1 mn g) (hg : ∀ i, i < mn → (Lit.int .u16 (g i)).wf = true) (hmn : mn ≤ maxLen) :
    Calls Tryz.prog 5 #[.agg #[.int .u16 l, .int .u16 r, .int .u16 s], .slice y m cm, .slice y1 mn cn] W fun e w' => e = .returned (.bool true) ∧ Below W.heap.size W w' := by
  obtain ⟨l, rfl, hl⟩ := c3_open wl
  obtain ⟨r, rfl, hr⟩ := c3_open wr
  obtain ⟨s, rfl, hs⟩ := c3_open ws
  have hR : ReadsW W y1 mn (fun i => (g i).toNat) := by
    rcases R with h | ⟨b, off, rfl, hb, hc⟩
    · exact .inl h
    · refine .inr ⟨b, off, rfl, hb, fun i hi => ?_⟩
      have h3 := bounds_u16 (hg i hi)
      refine ⟨?_, by show (g i).toNat ≤ 65535; omega⟩
      rw [show (((g i).toNat : Nat) : Int) = g i by omega]
      exact hc i hi
  exact sums_small l r s y m cm _ _ y1 mn cn _ W hl hr hs (readsH_of R2) (by unfold maxLen at hm; omega) hR (by unfold maxLen at hmn; omega)

end Go.Proofs.YtcdlikblebdfkaaGreat
