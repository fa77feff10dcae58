/- The walk of the law ReachCloses. -/
import Derived.Test.YtaicagammbjkiaaGreatAwk13
import Derived.Test.YtaicagammbjkiaaGreatApp
import Derived.Test.YtaicagammbjkiaaGreatPik
import Derived.BigQuiet
import Derived.Deep.RegionHeld3
namespace Go.Proofs.YtaicagammbjkiaaGreat
open Go.RowKit Go.OpenShut

/-- Each place so far, once. -/
def onceD (L : List Nat) (z : Int) : Option Value := if 0 ≤ z ∧ z.toNat ∈ L then some (.int .i64 1) else none
theorem onceD_app (L : List Nat) (x : Nat) : (fun z : Int => if z = (x : Int) then some (.int .i64 1) else onceD L z) = onceD (L ++ [x]) := by
  funext z
  unfold onceD
  by_cases h : z = (x : Int)
  · subst h
    rw [if_pos rfl, if_pos ⟨by omega, by simp⟩]
  · rw [if_neg h]
    by_cases h1 : 0 ≤ z ∧ z.toNat ∈ L
    · rw [if_pos h1, if_pos ⟨h1.1, List.mem_append_left _ h1.2⟩]
    · rw [if_neg h1, if_neg]
      rintro ⟨h2, h3⟩
      rcases List.mem_append.1 h3 with h3 | h3
      · exact h1 ⟨h2, h3⟩
      · have := List.mem_singleton.1 h3
        omega
theorem zeroZ (w : World) : (zeroValue 3).run Tryz.prog w = .ok (.int .i64 0) w := by kernel_rfl
theorem once_had {w : World} {mb : Nat} {L : List Nat} (h : IMap w mb (onceD L)) {x : Nat} (hx : x ∈ L) : (Instr.lookup 57 (.map (some mb)) (.int .i64 (x : Nat)) false).run Tryz.prog w = .ok (.int .i64 1) w := by
  rw [h.lookup Tryz.underlying57 Tryz.underlying3 (zeroZ w) (x : Nat) false]
  show Result.ok ((onceD L (x : Int)).getD (.int .i64 0)) w = _
  unfold onceD
  rw [if_pos ⟨by omega, by simpa using hx⟩]
  rfl
theorem once_none {w : World} {mb : Nat} {L : List Nat} (h : IMap w mb (onceD L)) {x : Nat} (hx : x ∉ L) : (Instr.lookup 57 (.map (some mb)) (.int .i64 (x : Nat)) false).run Tryz.prog w = .ok (.int .i64 0) w := by
  rw [h.lookup Tryz.underlying57 Tryz.underlying3 (zeroZ w) (x : Nat) false]
  show Result.ok ((onceD L (x : Int)).getD (.int .i64 0)) w = _
  unfold onceD
  rw [if_neg (fun h => hx (by simpa using h.2))]
  rfl
theorem lnkG_low (c : Cfg) (os : List (Nat × Nat)) (G : Nat → Nat) (m : Nat) (hos : c.frm 0 + lenL os ≤ 1000000) (q : Nat) : ∃ v : Nat, lnkG c os G m 0 q = (v : Int) ∧ v < 72057594037927936 := by
  refine ⟨_, rfl, ?_⟩
  unfold nxV
  split
  · rename_i h
    have h1 : G q % os.length < os.length := Nat.mod_lt _ h.2.1
    have h2 := posN_end h1
    dsimp only
    split <;> omega
  · omega
/-- What an object names is nothing, or an object. -/
theorem LnkS.names {c : Cfg} {n : Nat} {os : List (Nat × Nat)} {G : Nat → Nat} {m : Nat} {S : DS} (h : LnkS c n os (lnkG c os G m 0) S) (hos : c.frm 0 + lenL os ≤ 1000000) {X nn rr t v : Nat} (hX : obW S c 0 (lenL os) X = some (nn, rr)) (ht : t < rr) (hv : S.now (X + 1 + t) = (v : Int)) (h0 : v ≠ 0) :
    (obW S c 0 (lenL os) v).isSome = true := by
  obtain ⟨i, hi, rfl⟩ := stW_mem.1 (h.ob_st (lnkG_low c os G m hos) (by rw [hX]; rfl))
  have h1 := h.ob hi
  rw [hX] at h1
  injection h1 with h1
  injection h1 with _ h1
  have h2 := h.name i t hi (by omega)
  have h3 := lnkG_ok c os G m (refB os i + t)
  rw [← h2, hv] at h3
  rcases okW_iff.1 h3 with h4 | ⟨i', hi', h4⟩
  · exact absurd (by exact_mod_cast h4 : v = 0) h0
  · have h5 : v = c.frm 0 + posL os i' := by exact_mod_cast h4
    rw [h5, h.ob hi']
    rfl

set_option maxRecDepth 100000 in
set_option maxHeartbeats 4000000 in
theorem rcloses_small (l r s : Nat) (y0 : Option Addr) (m cm : Nat) (R V : Nat → Nat) (y1 : Option Addr) (mn cn : Nat) (G : Nat → Nat) (y2 : Option Addr) (mf cf : Nat) (H : Nat → Nat) (W : World) (hl : l ≤ 65535) (hrr : r ≤ 65535) (hs : s ≤ 65535)
    (hy : ReadsH W y0 m R V) (hm : m ≤ 9223372036854775807) (hg : ReadsW W y1 mn G) (hmn : mn ≤ 9223372036854775807) (hh : ReadsW W y2 mf H) (hmf : mf ≤ 9223372036854775807) :
    Calls Tryz.prog 6 #[c3V l r s, .slice y0 m cm, .slice y1 mn cn, .slice y2 mf cf] W fun e w' => e = .returned (.bool true) ∧ Below W.heap.size W w' := by
  have hmi : (m : Int) ≤ 9223372036854775807 := by omega
  have hmni : (mn : Int) ≤ 9223372036854775807 := by omega
  have hmfi : (mf : Int) ≤ 9223372036854775807 := by omega
  have HG := hid hg
  have HH := hid hh
  clear hg hh
  have HY := hid hy
  clear hy
  refine callsAt_marks Tryz.func6 rfl (.of_wp ?_)
  simp only [Tryz.ntmps6, List.size_toArray, List.length_cons, List.length_nil, Nat.reduceAdd, Nat.reduceSub, Array.replicate_succ, Array.replicate_zero, List.push_toArray, List.append_toArray, List.nil_append, List.cons_append]
  go_wp2_with fail
  have h_xb := (At.new W (c3O l r s)).alloc (.cells #[.bool false] 4)
  have h_rb := At.new (W.alloc (c3O l r s)) (.cells #[.bool false] 4)
  have K0 := (((Keeps.refl [] W).alloc (c3O l r s)).alloc (.cells #[.bool false] 4))
  simp only [World.size_alloc] at h_rb
  obtain ⟨xb, hq_xb⟩ : ∃ q, q = W.heap.size := ⟨_, rfl⟩
  obtain ⟨rb, hq_rb⟩ : ∃ q, q = W.heap.size + 1 := ⟨_, rfl⟩
  rw [← hq_rb, ← hq_xb]
  rw [← hq_xb] at h_xb
  rw [← hq_rb] at h_rb
  have HQ : Hid (xb = W.heap.size ∧ rb = W.heap.size + 1) := ⟨by omega, by omega⟩
  refine (awake13_any _).mono ?_
  rintro e w1 ⟨rfl, hb1⟩
  have k1 := Go.Proofs.YtaicagammbjkiaaGreat.Below.keeps hb1 []
  have K1 := K0.trans k1
  have g_xb := k1.at h_xb (by simp)
  have g_rb := k1.at h_rb (by simp)
  clear hb1 k1 K0 h_xb h_rb hq_xb hq_rb
  have c0 : w1.cell? ⟨xb, 0, none⟩ = some (.int .u16 l) := g_xb.cell 0 rfl
  have c1 : w1.cell? ⟨xb, 1, none⟩ = some (.int .u16 r) := g_xb.cell 1 rfl
  have c2 : w1.cell? ⟨xb, 2, none⟩ = some (.int .u16 s) := g_xb.cell 2 rfl
  have rf0 := g_rb.free 0
  have rc0 := g_rb.cell 0 rfl
  by_cases hm30 : m ≤ 25
  case neg =>
    have hm2 : (25 : Int) < (m : Int) := by omega
    have hm3 : decide ((25 : Int) < (m : Int)) = true := decide_eq_true hm2
    go_wp2_with fail
    have hRF := g_rb.set 0 (.bool true)
    have y0 := hRF.cell 0 rfl
    refine ⟨.bool true, ?_, rfl, ?_⟩
    · simp [results, Tryz.results6, go_sem, y0]
    · exact (K1.set (.inr (by have := HQ.out; show W.heap.size ≤ rb; omega)) _).below (Nat.le_refl _) (by simp)
  have hm2 : (m : Int) ≤ 25 := by omega
  have hm3 : decide ((25 : Int) < (m : Int)) = false := decide_eq_false (by omega)
  clear hmi
  by_cases hn60 : mn ≤ 60
  case neg =>
    have hn2 : (60 : Int) < (mn : Int) := by omega
    have hn3 : decide ((60 : Int) < (mn : Int)) = true := decide_eq_true hn2
    go_wp2_with fail
    have hRF := g_rb.set 0 (.bool true)
    have y0 := hRF.cell 0 rfl
    refine ⟨.bool true, ?_, rfl, ?_⟩
    · simp [results, Tryz.results6, go_sem, y0]
    · exact (K1.set (.inr (by have := HQ.out; show W.heap.size ≤ rb; omega)) _).below (Nat.le_refl _) (by simp)
  have h2_mn : (mn : Int) ≤ 60 := by omega
  have h3_mn : decide ((60 : Int) < (mn : Int)) = false := decide_eq_false (by omega)
  by_cases hf10 : mf ≤ 10
  case neg =>
    have hn2 : (10 : Int) < (mf : Int) := by omega
    have hn3 : decide ((10 : Int) < (mf : Int)) = true := decide_eq_true hn2
    go_wp2_with fail
    have hRF := g_rb.set 0 (.bool true)
    have y0 := hRF.cell 0 rfl
    refine ⟨.bool true, ?_, rfl, ?_⟩
    · simp [results, Tryz.results6, go_sem, y0]
    · exact (K1.set (.inr (by have := HQ.out; show W.heap.size ≤ rb; omega)) _).below (Nat.le_refl _) (by simp)
  have h2_mf : (mf : Int) ≤ 10 := by omega
  have h3_mf : decide ((10 : Int) < (mf : Int)) = false := decide_eq_false (by omega)
  clear hmni hmfi
  have hok := mk3_ok l r s
  obtain ⟨c, hc⟩ : ∃ c, c = mk3 l r s := ⟨_, rfl⟩
  rw [← hc] at hok
  obtain ⟨os, hos⟩ : ∃ os, os = fillL c.space (hdsL R V m) := ⟨_, rfl⟩
  have HLI := hid (linked_at w1 l r s hl hrr hs y0 m cm R V (HY.out.keep K1 (by simp)) (by omega) y1 mn cn G (HG.out.keep K1 (by simp)) (by omega) 0 (by omega) c hc os hos)
  clear hc
  go_wp2_with fail
  refine HLI.out.mono ?_
  rintro e w3 ⟨p, a, u, S, x, cp, y, cy, B, rfl, hn, hP, hub, hF, hU, hI, ⟨b1, b2, b3, b4, b5⟩, hB, hk3⟩
  have K3 := K1.trans hk3
  have f_rb := hk3.at g_rb (by simp)
  have HO := hid hok
  have HN := hid hn
  obtain ⟨L, hL⟩ : ∃ L, L = os.length := ⟨_, rfl⟩
  have hLm : L ≤ m := by rw [hL, hos]; exact fillL_len _ _ _ _
  have hLi : (L : Int) ≤ 30 := by omega
  have HL := hid hL
  rw [← hL] at hI ⊢
  obtain ⟨us, hus⟩ : ∃ us, us = lenL os := ⟨_, rfl⟩
  have HUS := hid hus
  rw [← hus]
  have husb : us ≤ c.space := by rw [hus]; exact hF.fits
  have hsp : c.space ≤ 4096 := hok.small.2.2
  have husi : (us : Int) ≤ 4096 := by omega
  have hfr := frm_le hok.small (show 0 ≤ 2 by omega)
  have hfs : c.frm 0 + c.space ≤ a.n := by rw [← hn]; exact frm_space 0 (by omega)
  have hwd := hF.wd hsp (lnkG_wd c os G mn 0 (by omega))
  have HX : Hid (∀ j : Nat, c.frm 0 ≤ j → j < c.frm 0 + us → ∃ x : Nat, S.now j = (x : Int) ∧ x < 18446744073709551616) := fun j h1 h2 => hwd.sp j h1 (by omega)
  have HFS := hid (And.intro husb (And.intro hsp (And.intro hfs hfr)))
  have HP := hid hP
  have HI := hid hI
  have HYB : Hid (∀ b ∈ blkL y, b < w3.heap.size) := fun b hb => (hI.ge b hb).2
  have HRB3 : Hid (rb < w3.heap.size) := f_rb.lt
  have HD4 : Hid (a.d < w3.heap.size ∧ a.s < w3.heap.size ∧ a.k < w3.heap.size ∧ a.m < w3.heap.size ∧ rb < a.d ∧ rb < a.s ∧ rb < a.k ∧ rb < a.m) := ⟨hP.dev.dev.lt, hP.dev.now.lt, hP.dev.kept.lt, hP.dev.map.lt, by have := g_rb.lt; omega, by have := g_rb.lt; omega, by have := g_rb.lt; omega, by have := g_rb.lt; omega⟩
  have HK3 := hid K3
  have HFF := hid hF
  have HH3 := hid (HH.out.keep K3 (by simp))
  clear hm30 hn60 hf10 hm2 hm3 h2_mn h3_mn h3_mf hos hL hLm hus husb hsp hfs hfr hwd hF hP hub hI hU hB b1 b2 b3 b4 b5 hk3 K1 c0 c1 c2 rf0 rc0 HLI hok hn K3 g_xb g_rb
  go_upto_region 8 with fail
  have hC4 := (At.new w3 (cfgO c)).alloc (bkO 0 (us : Nat) (.slice x c.roots cp))
  have hB4 := At.new (w3.alloc (cfgO c)) (bkO 0 (us : Nat) (.slice x c.roots cp))
  have k34 := ((Keeps.refl [] w3).alloc (cfgO c)).alloc (bkO 0 (us : Nat) (.slice x c.roots cp))
  simp only [World.size_alloc] at hB4
  obtain ⟨cb, hcb⟩ : ∃ q, q = w3.heap.size := ⟨_, rfl⟩
  obtain ⟨bb, hbb⟩ : ∃ q, q = w3.heap.size + 1 := ⟨_, rfl⟩
  obtain ⟨w4, hw4⟩ : ∃ w4, w4 = (w3.alloc (cfgO c)).alloc (bkO 0 (us : Nat) (.slice x c.roots cp)) := ⟨_, rfl⟩
  have hz4 : w4.heap.size = w3.heap.size + 2 := by rw [hw4]; simp
  rw [← hw4] at hC4 hB4 k34
  first | rw [← hw4] | skip
  rw [← hbb, ← hcb]
  rw [← hcb] at hC4
  rw [← hbb] at hB4
  have HZ4 : Hid (cb = w3.heap.size ∧ bb = cb + 1 ∧ w4.heap.size = cb + 2) := ⟨by omega, by omega, by omega⟩
  have HR4 := hid (k34.at f_rb (by simp))
  have HP4 := hid (HP.out.keep0 k34)
  have HC4 := hid hC4
  have HB4 := hid hB4
  have HK4 := hid (HK3.out.trans k34)
  have HI4 := hid (HI.out.keep k34 (by simp)).reads
  have HH4 := hid (HH3.out.keep k34 (by simp))
  clear hw4 hz4 hcb hbb f_rb hC4 hB4 k34 HH3
  have HPB : Hid (∀ j, j < L → c.frm 0 + posL os j ≤ 100000) := fun j hj => by
    have h1 := posN_end (l := os) (i := j) (by have := HL.out; omega)
    have h2 := HUS.out
    have h3 := HFS.out
    omega
  obtain ⟨f5, hf5⟩ : ∃ f5 : Nat → Int, f5 = fun i => ((pkV H (fun j => c.frm 0 + posL os j) L i : Nat) : Int) := ⟨_, rfl⟩
  have HF5 : Hid (∀ i, i < mf → ∃ v : Nat, f5 i = (v : Int) ∧ v < 18446744073709551616) := fun i hi => by
    obtain ⟨b, off, _, _, hcl⟩ := HH4.out.resolve_left (by omega)
    have h1 := pkV_le (G := H) (P := fun j => c.frm 0 + posL os j) (n := L) (i := i) (hcl i hi).2 HPB.out
    exact ⟨_, by rw [hf5], by omega⟩
  have HPK := hid (fun (w' : World) (hk : Keeps [] w4 w') => pick_at w' y y2 L cy mf cf H (fun j => c.frm 0 + posL os j) (HH4.out.keep hk (by simp)) (HI4.out.keep hk (by simp)) HPB.out (by omega) (by omega))
  rw [← hf5] at HPK
  clear hf5
  have hmix : Tryz.prog.follows .mixedOrders = true := by kernel_rfl
  have hmk := fun w : World => run_makeMap (P := Tryz.prog) (w := w) 57
  go_upto_region 9 with fail
  have hM4 := IMap.made w4
  have hS5 := At.new (w4.alloc (.map #[] 0)) (.cells #[.map (some w4.heap.size)] 57)
  have k45 := ((Keeps.refl [] w4).alloc (.map #[] 0)).alloc (.cells #[.map (some w4.heap.size)] 57)
  have hM5 := hM4.keep ((Keeps.refl [] (w4.alloc (.map #[] 0))).alloc (.cells #[.map (some w4.heap.size)] 57)) (by simp)
  simp only [World.size_alloc] at hS5
  obtain ⟨w5, hw5⟩ : ∃ w5, w5 = (w4.alloc (.map #[] 0)).alloc (.cells #[.map (some w4.heap.size)] 57) := ⟨_, rfl⟩
  have hz5 : w5.heap.size = w4.heap.size + 2 := by rw [hw5]; simp
  rw [← hw5] at hS5 k45 hM5
  first | rw [← hw5] | skip
  obtain ⟨sb, hsb⟩ : ∃ q, q = w4.heap.size + 1 := ⟨_, rfl⟩
  rw [← hsb] at hS5 ⊢
  obtain ⟨mm, hmm⟩ : ∃ q, q = w4.heap.size := ⟨_, rfl⟩
  rw [← hmm] at hS5 hM5 ⊢
  have HZ5 : Hid (mm = cb + 2 ∧ sb = mm + 1 ∧ w5.heap.size = mm + 2 ∧ bb = cb + 1 ∧ cb = w3.heap.size ∧ rb < w3.heap.size) := ⟨by have := HZ4.out; omega, by omega, by omega, HZ4.out.2.1, HZ4.out.1, HRB3.out⟩
  have HS5 := hid hS5
  have HM5 : Hid (IMap w5 mm (onceD [])) := hM5.congr fun z => by simp [onceD]
  have HR5 := hid (k45.at HR4.out (by simp))
  have HC5 := hid (k45.at HC4.out (by simp))
  have HB5 := hid (k45.at HB4.out (by simp))
  have HD5 := hid (HP4.out.dev.keep k45 (by simp) (by simp) (by simp) (by simp))
  have HPK5 := hid (fun (w' : World) (hk : Keeps [] w5 w') => HPK.out w' (k45.trans hk))
  have HK5 := hid (HK4.out.trans k45)
  clear hmk hw5 hz5 hsb hmm hM4 hS5 hM5 k45 HR4 HC4 HB4 HP4 HI4 HH4 HK4 HPK
  have HFR := hid (fun (w' : World) (hk : Keeps [] w5 w') (x' : Option Addr) (cp' : Nat) (hr' : Reads w' x' mf f5) => from13_at w' p a S c (HD5.out.keep hk (by simp) (by simp) (by simp) (by simp)) HO.out HN.out 0 (by omega) us HFS.out.1 (.slice x c.roots cp) HX.out x' mf cp' f5 hr' (by omega) HF5.out)
  obtain ⟨LS, hLS⟩ : ∃ LS, LS = rcF S c 0 us (wsN mf f5) := ⟨_, rfl⟩
  have HLS := hid hLS
  have HCZ := hid (fun (w' : World) (hk : Keeps [] w5 w') => show w'.cell? ⟨cb, 0, none⟩ = some (.int .i64 c.log) ∧ w'.cell? ⟨cb, 1, none⟩ = some (.int .i64 c.roots) ∧ w'.cell? ⟨cb, 2, none⟩ = some (.int .i64 c.space) ∧
      w'.cell? ⟨bb, 0, none⟩ = some (.int .i64 0) ∧ w'.cell? ⟨bb, 1, none⟩ = some (.int .i64 (us : Nat)) ∧ w'.cell? ⟨bb, 2, none⟩ = some (.slice x c.roots cp) from
    ⟨(hk.at HC5.out (by simp)).cell 0 rfl, (hk.at HC5.out (by simp)).cell 1 rfl, (hk.at HC5.out (by simp)).cell 2 rfl, (hk.at HB5.out (by simp)).cell 0 rfl, (hk.at HB5.out (by simp)).cell 1 rfl, (hk.at HB5.out (by simp)).cell 2 rfl⟩)
  clear hLS
  have kk : Keeps [] w5 w5.drew := (Keeps.refl _ _).drew
  go_region_held3 (fun w' => w'.cell? ⟨cb, 0, none⟩ = some (.int .i64 c.log) ∧ w'.cell? ⟨cb, 1, none⟩ = some (.int .i64 c.roots) ∧ w'.cell? ⟨cb, 2, none⟩ = some (.int .i64 c.space) ∧
        w'.cell? ⟨bb, 0, none⟩ = some (.int .i64 0) ∧ w'.cell? ⟨bb, 1, none⟩ = some (.int .i64 (us : Nat)) ∧ w'.cell? ⟨bb, 2, none⟩ = some (.slice x c.roots cp))
    (exact HCZ.out _ kk)
    (first
      | (go_at_call 11; refine (HFR.out _ kk _ _ hO15.rd).mono ?_; rintro e w' ⟨gf, lb, Fct, rfl, hent, hit, hfct, hk16⟩; have k0 := kk; have kk := kk.trans hk16; clear hk16)
      | (go_at_call 9; refine (HPK5.out _ kk).mono ?_; rintro e w' ⟨x15, cp15, rfl, hO15, hk15⟩; have kk := kk.trans hk15; clear hk15))
  all_goals
    rename_i hHd
    clear hHd
    rw [← HLS.out] at hit
    have HFC : Hid (∀ T W, Keeps T w' W → (∀ b ∈ T, (b < w5.heap.size ∧ b ≠ a.d ∧ b ≠ a.s ∧ b ≠ a.k ∧ b ≠ a.m) ∨ w'.heap.size ≤ b) → Fct W) := fun T W hk hT => hfct T W hk fun b hb => (hT b hb).imp (fun h => ⟨Nat.lt_of_lt_of_le h.1 k0.size, h.2⟩) id
    have HENT := hid hent
    have HIT := hid hit
    have HM6 := hid (HM5.out.keep kk (by simp))
    have HS6 := hid (kk.at HS5.out (by simp))
    have HR6 := hid (kk.at HR5.out (by simp))
    have HC6 := hid (kk.at HC5.out (by simp))
    have HB6 := hid (kk.at HB5.out (by simp))
    have HD6 := hid (HD5.out.keep kk (by simp) (by simp) (by simp) (by simp))
    have HK6 := hid (HK5.out.trans kk)
    have HQ6 : Hid (w5.heap.size ≤ w'.heap.size) := kk.size
    have HOBX : Hid (∀ X, X ∈ LS → X ≤ 30000) := fun X hX => by
      have h1 := obW_in (rcF_ob (ws := wsN mf f5) (by rw [← HLS.out]; exact hX))
      have h2 := HFS.out
      omega
    clear hent hit hfct hO15 k0 kk HM5 HS5 HR5 HC5 HB5 HD5 HK5 HPK5 HFR HCZ
    go_wp2_with fail
    refine wp_rangeE (gf := gf) (lb := lb) rfl HENT.out (fun fn => ?_)
    refine' (iter_coreS HIT.out fn w' _ _ _ _
      (fun i W => i ≤ LS.length ∧ IMap W mm (onceD (LS.take i)) ∧ Keeps [mm] w' W)
      (fun W => False)
      .ret .ret (.inl ⟨rfl, rfl⟩) (fun _ => rfl) ?fct ?keep ?keepx ?round ?start).mono ?after
    case fct =>
      rintro i W ⟨_, _, hk⟩
      refine HFC.out [mm] W hk fun b hb => .inl ?_
      have h1 := HZ5.out
      have h2 := HD4.out
      obtain rfl := List.mem_singleton.1 hb
      exact ⟨by omega, by omega, by omega, by omega, by omega⟩
    case keep =>
      rintro i W W' T ⟨h1, h2, hk⟩ hk' hT
      have h5 := HQ6.out
      have h6 := HZ5.out
      exact ⟨h1, h2.keep hk' (fun h => by have := hT _ h; omega), hk.new hk' (fun b hb => .inr (hT b hb))⟩
    case keepx =>
      rintro W W' T h _ _
      exact h
    case start => exact ⟨Nat.zero_le _, HM6.out, Keeps.refl _ _⟩
    case round =>
      rintro i W him ⟨hil, hM, hK⟩ hsz
      have hlt : i < LS.length := him
      obtain ⟨X, hX⟩ : ∃ X, LS[i]? = some X := ⟨_, List.getElem?_eq_getElem hlt⟩
      rw [rcA_at hX]
      obtain ⟨nn, hnn⟩ : ∃ nn, nn = hdN (S.now X).toNat := ⟨_, rfl⟩
      obtain ⟨rr, hrr⟩ : ∃ rr, rr = hdR (S.now X).toNat := ⟨_, rfl⟩
      rw [← hnn, ← hrr]
      have hXb : (X : Int) ≤ 30000 := by have := HOBX.out X (List.mem_of_getElem? hX); omega
      have htk : LS.take (i + 1) = LS.take i ++ [X] := by rw [List.take_add_one, hX]; rfl
      have hXn : X ∉ LS.take i := fun h => by
        have hnd : (LS.take (i + 1)).Nodup := (by rw [HLS.out]; exact rcF_nodup : LS.Nodup).sublist (List.take_sublist _ _)
        rw [htk] at hnd
        exact (List.nodup_append.1 hnd).2.2 X h X (by simp) rfl
      have HTK := hid htk
      have HLT := hid hlt
      have HKW := hid hK
      have HMW := hid hM
      have HXN := hid hXn
      clear hlt hX hnn hrr hK hM him hil htk hXn
      have hsem := @Oper.semAt_some
      gi_wp2_with fail
      refine ⟨(Keeps.refl [] W).alloc _, fun W₂ k2 hz2 _ => ?_⟩
      have hq6 := HQ6.out
      have hz5 := HZ5.out
      have hW0 : w'.heap.size + 2 ≤ W.heap.size := hsz
      have hO2 := k2.at (At.new W (obO (nn : Nat) (rr : Nat) (X : Nat))) (by simp; omega)
      have kW2 : Keeps [w'.heap.size + 1] W W₂ := ((Keeps.refl _ W).alloc _).trans k2
      have hM2 := HMW.out.keep kW2 (by simp; omega)
      have hKN : Keeps [mm] w' W₂ := HKW.out.new kW2 (by simp)
      have hS2 := hKN.at HS6.out (by simp; omega)
      have hlk0 := once_none hM2 HXN.out
      obtain ⟨W3, hrun, hM3, hk3⟩ := hM2.update (P := Tryz.prog) Tryz.underlying57 Tryz.underlying3 (X : Int) (.int .i64 1)
      rw [onceD_app, ← HTK.out] at hM3
      have hlk1 := once_had hM3 (x := X) (by rw [HTK.out]; simp)
      have hS3 := hk3.at hS2 (by simp; omega)
      have hO3 := hk3.at hO2 (by simp; omega)
      have s0 := hS2.cell 0 rfl
      have o0 := hO2.cell 0 rfl
      have o1 := hO2.cell 1 rfl
      have o2 := hO2.cell 2 rfl
      have s3 := hS3.cell 0 rfl
      have p0 := hO3.cell 0 rfl
      have p1 := hO3.cell 1 rfl
      have p2 := hO3.cell 2 rfl
      have HM3 := hid hM3
      have HK3' := hid (hKN.trans hk3)
      have HT3 := hid hk3
      clear hq6 hz5 hW0 hO2 kW2 hM2 hKN hS2 hM3 hk3 hS3 hO3 k2 hz2 hsz
      gi_wp2_with fail
      refine ⟨⟨HLT.out, HM3.out, HK3'.out⟩, [mm], HT3.out, fun b hb => .inl ?_⟩
      obtain rfl := List.mem_singleton.1 hb
      have := HQ6.out
      have := HZ5.out
      omega
    case after =>
      intro e w9 hr
      cases e with
      | panicked _ => exact hr
      | outgrown => exact hr
      | returned v =>
        rcases hr with ⟨w10, hend, ⟨_, hM, hK⟩, hDf⟩ | ⟨w10, hend, h, hDf⟩
        case inr => exact h.elim
        refine .inl ⟨w10, hend, ?_⟩
        rw [List.take_of_length_le (Nat.le_refl _)] at hM
        have hq6 := HQ6.out
        have hz5 := HZ5.out
        have hd4 := HD4.out
        have hS10 := hK.at HS6.out (by simp; omega)
        have hC10 := hK.at HC6.out (by simp; omega)
        have hB10 := hK.at HB6.out (by simp; omega)
        have hR10 := hK.at HR6.out (by simp; omega)
        have hD10 := HD6.out.keep hK (by simp; omega) (by simp; omega) (by simp; omega) (by simp; omega)
        have K10 : Keeps [] W w10 := HK6.out.new hK (fun b hb => .inr (by have h1 := HQ.out; have h2 := HK3.out.size; obtain rfl := List.mem_singleton.1 hb; omega))
        have HLO : Hid (mm < w10.heap.size ∧ rb < w'.heap.size ∧ w'.heap.size < w10.heap.size ∧ W.heap.size ≤ w'.heap.size) := ⟨hM.lt, by omega, hDf.lt, HK6.out.size⟩
        have s0 := hS10.cell 0 rfl
        have HS10 := hid hS10
        have HC10 := hid hC10
        have HB10 := hid hB10
        have HR10 := hid hR10
        have HD10 := hid hD10
        have HDF := hid hDf
        have HK10 := hid K10
        have HM10 := hid hM
        have hE := hM
        clear hq6 hz5 hd4 hS10 hC10 hB10 hR10 hD10 K10 hDf hM hK hend
        simp only [Exit.inBlock, Exit.then]
        go_wp2_with (at_range; refine wpList_range_at rfl _ _ rfl 3 3 Tryz.underlying57 mm _ rfl hE ?_; intro w20 cnt hr20 hk20 hz20)
        go_frame
        obtain ⟨ib, hib⟩ : ∃ ib, ib = w10.heap.size := ⟨_, rfl⟩
        rw [← hib] at hr20 ⊢
        have HIB : Hid (ib ≠ mm ∧ w'.heap.size < ib ∧ w20.heap.size = ib + 1) := ⟨by have := HLO.out; omega, by have := HLO.out; omega, by rw [hib]; exact hz20⟩
        have HS20 := hid (hk20.at HS10.out (by simp))
        have HC20 := hid (hk20.at HC10.out (by simp))
        have HB20 := hid (hk20.at HB10.out (by simp))
        have HR20 := hid (hk20.at HR10.out (by simp))
        have HD20 := hid (HD10.out.keep hk20 (by simp) (by simp) (by simp) (by simp))
        have HDF20 := hid (hk20.at HDF.out (by simp))
        have HK20 := hid (HK10.out.trans hk20)
        have HLT20 : Hid (sb < ib ∧ cb < ib ∧ bb < ib ∧ rb < ib ∧ a.d < ib ∧ a.s < ib ∧ a.k < ib ∧ a.m < ib) := by
          have h1 := hib
          exact ⟨by rw [h1]; exact HS10.out.lt, by rw [h1]; exact HC10.out.lt, by rw [h1]; exact HB10.out.lt, by rw [h1]; exact HR10.out.lt, by rw [h1]; exact HD10.out.dev.lt, by rw [h1]; exact HD10.out.now.lt, by rw [h1]; exact HD10.out.kept.lt, by rw [h1]; exact HD10.out.map.lt⟩
        clear hE hk20 hz20 hib HS10 HC10 HB10 HR10 HD10 HDF HK10 HM10 s0
        refine wp_loop_inv (fun N act w => ∃ (bs : List Nat) (left : Int → Bool) (s15 s16 s17 s18 s19 s67 s68 s69 s70 s71 s72 s73 s74 s75 s76 s77 s78 s79 s80 s81 s82 s83 s84 s85 s86 s87 s88 s89 : Value), act = { tmps := #[c3V l r s, .slice y0 m cm, .slice y1 mn cn, .slice y2 mf cf, .pointer (some ⟨xb, 0, none⟩), undef, undef, undef, .pointer (some ⟨rb, 0, none⟩), ptr a.d, .pointer (some ⟨cb, 0, none⟩), .pointer (some ⟨bb, 0, none⟩), .slice y L cy, .pointer (some ⟨sb, 0, none⟩), undef, s15, s16, s17, s18, s19, .bool true, .bool false, .slice y0 m cm, .int .i64 m, .bool false, .bool false, .slice y1 mn cn, .int .i64 mn, .bool false, .bool false, .bool false, .slice y2 mf cf, .int .i64 mf, .bool false, .bool false, .tuple #[ptr a.d, cfgV c, bkV 0 (us : Nat) (.slice x c.roots cp), .slice y L cy], .agg #[.int .u16 l, .int .u16 r, .int .u16 s], .slice y0 m cm, .slice y1 mn cn, .tuple #[ptr a.d, cfgV c, bkV 0 (us : Nat) (.slice x c.roots cp), .slice y L cy], ptr a.d, cfgV c, bkV 0 (us : Nat) (.slice x c.roots cp), .slice y L cy, ptr a.d, .bool false, .map (some mm), ptr a.d, .agg #[.int .i64 c.log, .int .i64 c.roots, .int .i64 c.space], .agg #[.int .i64 0, .int .i64 (us : Nat), .slice x c.roots cp], .slice y L cy, .slice y2 mf cf, .slice x15 mf cp15, .func (.func gf) #[] lb, undef, undef, undef, undef, undef, undef, undef, undef, undef, undef, undef, .map (some mm), .pointer (some ⟨ib, 0, none⟩), s67, s68, s69, s70, s71, s72, s73, s74, s75, s76, s77, s78, s79, s80, s81, s82, s83, s84, s85, s86, s87, s88, s89], defers := mkD bs } ∧ bs.Nodup ∧ (∀ b ∈ bs, At w b (.deferred (some [])) ∧ (b = w'.heap.size ∨ ib < b)) ∧ IRange w ib mm (onceD LS) left N ∧ Keeps [ib] w20 w) cnt
          ⟨[w'.heap.size], _, _, _, _, _, _, _, _, _, _, _, _, _, _, _, _, _, _, _, _, _, _, _, _, _, _, _, _, _, rfl, by simp, fun b hb => by obtain rfl := List.mem_singleton.1 hb; exact ⟨HDF20.out, .inl rfl⟩, hr20, Keeps.refl _ _⟩ ?_
        clear hr20 HDF20
        rintro N act w ⟨bs, left, s15, s16, s17, s18, s19, s67, s68, s69, s70, s71, s72, s73, s74, s75, s76, s77, s78, s79, s80, s81, s82, s83, s84, s85, s86, s87, s88, s89, rfl, hnd, hbs, hR, hK⟩ K hKK
        have hlt := HLT20.out
        have hib := HIB.out
        have hSw := hK.at HS20.out (by simp; omega)
        have hCw := hK.at HC20.out (by simp; omega)
        have hBw := hK.at HB20.out (by simp; omega)
        have hRw := hK.at HR20.out (by simp; omega)
        have hDw := HD20.out.keep hK (by simp; omega) (by simp; omega) (by simp; omega) (by simp; omega)
        have HND := hid hnd
        have HBS := hid hbs
        have HKW := hid hK
        have HSw := hid hSw
        have HCw := hid hCw
        have HBw := hid hBw
        have HRw := hid hRw
        have HDw := hid hDw
        have HKK := hid hKK
        have HK0 : Hid (Keeps [] W w) := HK20.out.new hK (fun b hb => .inr (by have h1 := HLO.out; obtain rfl := List.mem_singleton.1 hb; omega))
        clear hlt hib hSw hCw hBw hRw hDw hnd hbs hK hKK
        go_wp2_with (at_next; refine wpList_next_at rfl _ rfl ib mm _ left N rfl hR HIB.out.1 ?_ ?_)
        · intro hr0 hl0
          have r0 := HRw.out.cell 0 rfl
          have rf := HRw.out.free 0
          clear hR hr0 hl0
          go_wp2_with fail
          have hrn : ∀ b ∈ bs, b ≠ rb := fun b hb => by have h1 := (HBS.out b hb).2; have h2 := HLO.out; have h3 := HIB.out; omega
          refine leavesM_all bs _ HND.out (fun b hb => ((HBS.out b hb).1).set_ne (a := ⟨rb, 0, none⟩) (hrn b hb) (.bool true)) fun w6 k6 => ?_
          have f1 : w6.cell? ⟨rb, 0, none⟩ = some (.bool true) := (k6.at (HRw.out.set 0 (.bool true)) (fun h => hrn _ h rfl)).cell 0 rfl
          refine ⟨.bool true, ?_, rfl, ?_⟩
          · simp [results, Tryz.results6, go_sem, f1]
          · exact ((HK0.out.set (p := ⟨rb, 0, none⟩) (.inr (by have := HQ.out; show W.heap.size ≤ rb; omega)) (.bool true)).new k6 (fun b hb => .inr (by have h1 := (HBS.out b hb).2; have h2 := HLO.out; have h3 := HIB.out; omega))).below (Nat.le_refl _) (by simp)
        · intro kz v w21 cnt' hlk hD hlt' hR3 hk21 hen
          obtain ⟨X, hXL, rfl, rfl⟩ : ∃ X : Nat, X ∈ LS ∧ kz = (X : Int) ∧ v = .int .i64 1 := by
            unfold onceD at hD
            split at hD
            · rename_i h
              injection hD with hD
              exact ⟨kz.toNat, h.2, by omega, hD.symm⟩
            · cases hD
          obtain ⟨⟨nn, rr⟩, hob⟩ := Option.isSome_iff_exists.1 (rcF_ob (S := S) (c := c) (k := 0) (u := us) (ws := wsN mf f5) (x := X) (by rw [← HLS.out]; exact hXL))
          obtain ⟨x1, x2, x3, x4, x5, x6⟩ := obW_some hob
          have hXi : (X : Int) ≤ 30000 := by have := HOBX.out X hXL; omega
          have hlt := HLT20.out
          have hib := HIB.out
          have hC21 := hk21.at HCw.out (by simp; omega)
          have hB21 := hk21.at HBw.out (by simp; omega)
          have hS21 := hk21.at HSw.out (by simp; omega)
          have hD21 := HDw.out.keep hk21 (by simp; omega) (by simp; omega) (by simp; omega) (by simp; omega)
          have HOF := hid (of_ob w21 p a S hD21 c HO.out HN.out 0 (by omega) us HFS.out.1 (.slice x c.roots cp) (X : Nat) (by omega) HX.out)
          have HXL := hid hXL
          have HOB := hid hob
          have HXX := hid (And.intro x1 (And.intro x2 (And.intro x5 x6)))
          have HS21 := hid hS21
          have HD21 := hid hD21
          have HR3 := hid hR3
          have HCN := hid hlt'
          have HK21 := hid hk21
          have hnni : (nn : Int) ≤ 64 := by omega
          have c0 := hC21.cell 0 rfl
          have c1 := hC21.cell 1 rfl
          have c2 := hC21.cell 2 rfl
          have b0 := hB21.cell 0 rfl
          have b1 := hB21.cell 1 rfl
          have b2 := hB21.cell 2 rfl
          clear hXL hob x1 x2 x3 x4 x5 x6 hlt hib hC21 hB21 hS21 hD21 hR3 hlt' hk21 hlk hD hR
          go_wp2_with fail
          refine HOF.out.mono ?_
          rintro e w22 ⟨hO22, hk22⟩
          rcases hO22 with ⟨X2, n2, r2, hX2, hob2, rfl⟩ | ⟨hno, _⟩
          case inr =>
            have h1 := hno X rfl
            rw [HOB.out] at h1
            exact Bool.noConfusion h1
          obtain rfl : X = X2 := by omega
          rw [HOB.out] at hob2
          injection hob2 with hob2
          injection hob2 with h1 h2
          subst h1
          subst h2
          have hO23 := At.new w22 (obO (nn : Nat) (rr : Nat) (X : Nat))
          have o0 := hO23.cell 0 rfl
          have o1 := hO23.cell 1 rfl
          have o2 := hO23.cell 2 rfl
          have HK23 := hid (hk22.alloc (obO (nn : Nat) (rr : Nat) (X : Nat)))
          clear c0 c1 c2 b0 b1 b2 hO23 hX2 hk22 hen HOF
          go_wp2_with fail
          refine (names13_at _ _ _ _ _).mono ?_
          rintro e w24 ⟨Bo, Bd, rfl, hBo, hBd, hBo2, hBd2, hk24⟩
          have K24 := HK23.out.trans hk24
          have HM24 := hid (HR3.out.map.keep K24 (by simp))
          have HS24 := hid (K24.at HS21.out (by simp))
          have HD24 := hid (HD21.out.keep K24 (by simp) (by simp) (by simp) (by simp))
          have HR24 := hid (HR3.out.keep K24 (by simp) (by simp))
          have HBD := hid (And.intro hBo hBd)
          have HK24 : Hid (Keeps [ib] w w24) := HK21.out.trans (K24.mono (by simp))
          have HSZ24 : Hid (w20.heap.size ≤ w24.heap.size ∧ w.heap.size ≤ w24.heap.size ∧ w20.heap.size ≤ w.heap.size) := ⟨Nat.le_trans HKW.out.size HK24.out.size, HK24.out.size, HKW.out.size⟩
          obtain ⟨Gn, hGn⟩ : ∃ Gn : Nat → Int, ∀ t, Gn t = asInt (S.now (X + 1 + t)) := ⟨_, fun _ => rfl⟩
          have HGN := hid hGn
          have HRF : Hid (∀ t, rfW S X t 0 = asInt (S.now (X + 1 + t).toNat)) := fun t => by
            unfold rfW
            rw [if_pos rfl]
          clear hBo hBd hBo2 hBd2 hk24 K24 o0 o1 o2 hGn HS21 HD21
          go_wp2_with fail
          refine wp_rangeE (gf := 36) (lb := #[ptr Bo, ptr Bd]) rfl (enters_of Tryz.func36 (by kernel_rfl) rfl) (fun fn => ?_)
          refine' (iter_core (names_iter Bo Bd a nn rr X Gn ⟨HXX.out.2.2.2, HXX.out.2.2.1, by have := HXX.out; have := HFS.out; omega⟩) fn w24 _ _ _ _
            (fun m W => Keeps [] w24 W) (fun W => False)
            .ret .ret (.inl ⟨rfl, rfl⟩) (fun _ => rfl) ?nfct ?nkeep ?nkeepx ?nround ?nstart).mono ?nafter
          case nfct =>
            intro m W hk
            refine ⟨⟨hk.at HBD.out.1 (by simp), hk.at HBD.out.2 (by simp)⟩, p, S, HD24.out.keep hk (by simp) (by simp) (by simp) (by simp), fun t _ => ?_⟩
            rw [HRF.out, HGN.out, show ((X : Int) + 1 + (t : Int)).toNat = X + 1 + t by omega]
          case nkeep =>
            intro m W W' hk hk'
            exact hk.new hk' (by simp)
          case nkeepx =>
            intro W W' h _
            exact h
          case nstart => exact Keeps.refl _ _
          case nround =>
            intro l' mi W0 W hm _ kv0 hk hsz
            obtain ⟨t, htr, htn, htm⟩ := nzL_mem hm
            rw [← htm, namA_at htr htn]
            obtain ⟨v, hv, hvb⟩ := HX.out (X + 1 + t) (by have := HXX.out; omega) (by have := HXX.out; omega)
            have hv0 : v ≠ 0 := fun h => by
              rw [HGN.out, hv, h] at htn
              exact htn (IntWalk.wrap64_in _ (by decide))
            have hvo : (obW S c 0 us v).isSome = true := by
              rw [HUS.out]
              refine HFF.out.names (by have := HFS.out; have := HUS.out; omega) (X := X) (nn := nn) (rr := rr) (t := t) ?_ htr hv hv0
              rw [← HUS.out]
              exact HOB.out
            have hvL : v ∈ LS := by
              have h1 := HXL.out
              rw [HLS.out] at h1 ⊢
              refine rcF_close h1 ?_ hvo
              obtain ⟨_, _, _, h4, _, _⟩ := obW_some HOB.out
              unfold nmW
              rw [← h4]
              exact List.mem_map.2 ⟨t, List.mem_range.2 htr, by rw [hv, Int.toNat_natCast]⟩
            have hvi : (v : Int) ≤ 30000 := by have := HOBX.out v hvL; omega
            have hGv : Gn t = (v : Int) := by
              rw [HGN.out, hv]
              exact asInt_nat v (by omega)
            rw [hGv]
            have HVL := hid hvL
            have HKV := hid hk
            have HKV0 := hid kv0
            clear htr htn htm hv hvb hv0 hvo hvL hGv hm hk kv0 hsz
            have hsem := @Oper.semAt_some
            gi_wp2_with fail
            refine ⟨Keeps.refl _ _, fun V₂ k2 hz2 => ?_⟩
            have K2 : Keeps [] w24 V₂ := HKV.out.new k2 (by simp)
            have hM2 := HM24.out.keep K2 (by simp)
            have hlk2 := once_had hM2 (x := v) HVL.out
            have s0 := (K2.at HS24.out (by simp)).cell 0 rfl
            have HK2 := hid K2
            clear K2 hM2 k2 hz2
            gi_wp2_with fail
            exact ⟨HK2.out, [], Keeps.refl _ _, by simp, by simp, by simp⟩
          case nafter =>
            intro e w9 hr
            cases e with
            | panicked _ => exact hr
            | outgrown => exact hr
            | returned ve =>
              rcases hr with ⟨w25, hend, hk25, hDf⟩ | ⟨w25, hend, h, hDf⟩
              case inr => exact h.elim
              refine .inl ⟨w25, hend, ?_⟩
              have HK25 := hid hk25
              have HDF25 := hid hDf
              clear hend hk25 hDf
              simp only [Exit.inBlock, Exit.then]
              go_wp2_with fail
              have K25 : Keeps [ib] w w25 := HK24.out.trans (HK25.out.mono (by simp))
              have hnew : w24.heap.size ∉ bs := fun h => by have h1 := (HBS.out _ h).1.lt; have h2 := HSZ24.out; omega
              refine HKK.out cnt' _ _ HCN.out ⟨w24.heap.size :: bs, _, _, _, _, _, _, _, _, _, _, _, _, _, _, _, _, _, _, _, _, _, _, _, _, _, _, _, _, _, rfl, List.nodup_cons.2 ⟨hnew, HND.out⟩, fun b hb => ?_, HR24.out.keep HK25.out (by simp) (by simp), HKW.out.trans K25⟩
              rcases List.mem_cons.1 hb with rfl | hb
              · exact ⟨HDF25.out, .inr (by have h1 := HSZ24.out; have h2 := HIB.out; omega)⟩
              · refine ⟨K25.at (HBS.out b hb).1 (fun h => ?_), (HBS.out b hb).2⟩
                obtain rfl := List.mem_singleton.1 h
                have h1 := (HBS.out b hb).2
                have h2 := HIB.out
                omega

theorem reachCloses_walk (l r s : Int) (y : Option Addr) (m cm : Nat) (z : Nat → Nat → Int) (y1 : Option Addr) (mn cn : Nat) (g : Nat → Int) (y2 : Option Addr) (mf cf : Nat) (h : Nat → Int) (W : World) (wl : (Lit.int .u16 l).wf = true) (wr : (Lit.int .u16 r).wf = true) (ws : (Lit.int .u16 s).wf = true)
    (R2 : m * 2 = 0 ∨ ∃ b off, y = some ⟨b, off, none⟩ ∧ b < W.heap.size ∧ ∀ i j, i < m → j < 2 → W.cell? ⟨b, off + (i * 2 + j), none⟩ = some (.int ((fun j => if j = 0 then IntKind.u8 else IntKind.u8) j) (z i j)) ∧ (Lit.int ((fun j => if j = 0 then IntKind.u8 else IntKind.u8) j) (z i j)).wf = true) (hm : m ≤ maxLen)
    (R : ReadsV (Value.int .u16) W y1 mn g) (hg : ∀ i, i < mn → (Lit.int .u16 (g i)).wf = true) (hmn : mn ≤ maxLen)
    (R3 : ReadsV (Value.int .u16) W y2 mf h) (hh : ∀ i, i < mf → (Lit.int .u16 (h i)).wf = true) (hmf : mf ≤ maxLen) :
    Calls Tryz.prog 6 #[.agg #[.int .u16 l, .int .u16 r, .int .u16 s], .slice y m cm, .slice y1 mn cn, .slice y2 mf cf] W fun e w' => e = .returned (.bool true) ∧ Below W.heap.size W w' := by
  obtain ⟨l, rfl, hl⟩ := c3_open wl
  obtain ⟨r, rfl, hr⟩ := c3_open wr
  obtain ⟨s, rfl, hs⟩ := c3_open ws
  exact rcloses_small l r s y m cm _ _ y1 mn cn _ y2 mf cf _ W hl hr hs (readsH_of R2) (by unfold maxLen at hm; omega) (reads16_any R hg) (by unfold maxLen at hmn; omega) (reads16_any R3 hh) (by unfold maxLen at hmf; omega)

end Go.Proofs.YtaicagammbjkiaaGreat
