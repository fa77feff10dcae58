/- The walk of the law ReachAll. -/
import Derived.Test.YtaicagammbjkiaaGreatAwk13
import Derived.Test.YtaicagammbjkiaaGreatRev
import Derived.Test.YtaicagammbjkiaaGreatApp
import Derived.BigQuiet
import Derived.Deep.RegionHeld3
namespace Go.Proofs.YtaicagammbjkiaaGreat
open Go.RowKit Go.OpenShut

set_option maxRecDepth 100000 in
set_option maxHeartbeats 4000000 in
theorem reverse_nil (w : World) : Calls Tryz.prog 17 #[.slice none 0 0] w fun e w' => e = .returned (.tuple #[]) ∧ w = w' := by
  go_enter Tryz.func17, Tryz.ntmps17
  go_wp2_with fail
  go_loopg [2, 3] 1 (fun rr s2 s3 wr => s2 = .int .i64 0 ∧ s3 = .int .i64 (-1) ∧ w = wr)
  case atStart => exact ⟨rfl, rfl, rfl⟩
  case round =>
    obtain ⟨rfl, rfl, rfl⟩ := hrel
    go_wp2_with fail
    go_end0
    exact ⟨rfl, rfl⟩

set_option maxRecDepth 100000 in
set_option maxHeartbeats 4000000 in
theorem clone_nil (w : World) : Calls Tryz.prog 18 #[.slice none 0 0] w fun e w' => e = .returned (.slice none 0 0) ∧ w = w' := by
  have hnil := run_slice_nil none 0 0
  go_enter Tryz.func18, Tryz.ntmps18
  go_wp2_with fail
  go_ret
  exact ⟨rfl, rfl⟩

/-- The words, to the front or to the back. -/
def alW (c : Cfg) (os : List (Nat × Nat)) (back : Bool) (L j : Nat) : Nat := if back then c.frm 0 + posL os (L - 1 - j) else c.frm 0 + posL os j
def alL (c : Cfg) (os : List (Nat × Nat)) (back : Bool) : List Nat := (List.range os.length).map (alW c os back os.length)
theorem alL_eq (c : Cfg) (os : List (Nat × Nat)) (back : Bool) : alL c os back = if back then (stW c os).reverse else stW c os := by
  cases back with
  | false => rfl
  | true =>
    apply List.ext_getElem?
    intro j
    show ((List.range os.length).map (alW c os true os.length))[j]? = ((stW c os).reverse)[j]?
    by_cases hj : j < os.length
    · rw [List.getElem?_reverse (by rw [stW_len]; exact hj), stW_len, stW_get (by omega)]
      simp [hj, alW]
    · rw [List.getElem?_eq_none (by simp; omega), List.getElem?_eq_none (by simp [stW_len]; omega)]
theorem alL_mem {c : Cfg} {os : List (Nat × Nat)} {back : Bool} {w : Nat} : w ∈ alL c os back ↔ w ∈ stW c os := by
  rw [alL_eq]
  cases back <;> simp
theorem alL_nodup (c : Cfg) (os : List (Nat × Nat)) (back : Bool) : (alL c os back).Nodup := by
  rw [alL_eq]
  cases back
  · exact stW_nodup c os
  · exact (List.reverse_perm (stW c os)).symm.nodup (stW_nodup c os)
theorem alL_sz (S : DS) (c : Cfg) (os : List (Nat × Nat)) (back : Bool) : szF S (alL c os back) = szF S (stW c os) := by
  rw [alL_eq]
  cases back
  · rfl
  · exact szF_perm (List.reverse_perm _)
theorem lnkG_small (c : Cfg) (os : List (Nat × Nat)) (G : Nat → Nat) (m : Nat) (hos : c.frm 0 + lenL os ≤ 1000000) (q : Nat) : ∃ v : Nat, lnkG c os G m 0 q = (v : Int) ∧ v < 72057594037927936 := by
  refine ⟨_, rfl, ?_⟩
  unfold nxV
  split
  · rename_i h
    have h1 : G q % os.length < os.length := Nat.mod_lt _ h.2.1
    have h2 := posN_end h1
    dsimp only
    split <;> omega
  · omega
theorem wsN_app (n m : Nat) (f g : Nat → Int) : wsN (n + m) (fun i => if i < n then f i else g (i - n)) = wsN n f ++ wsN m g := by
  unfold wsN
  apply List.ext_getElem?
  intro j
  by_cases hj : j < n
  · rw [List.getElem?_append_left (by simpa using hj)]
    simp [hj, show j < n + m by omega]
  · rw [List.getElem?_append_right (by simp; omega)]
    by_cases hj2 : j < n + m
    · simp [hj, hj2, show j - n < m by omega]
    · simp [hj2, show ¬ j - n < m by omega]
/-- All, named one by one: these. -/
theorem LnkS.all {c : Cfg} {n : Nat} {os : List (Nat × Nat)} {g : Nat → Int} {S : DS} (h : LnkS c n os g S) (hg : ∀ q, ∃ v : Nat, g q = (v : Int) ∧ v < 72057594037927936) (back : Bool) {m : List Nat} (hm : ∀ w ∈ m, w ∈ alL c os back) : rcF S c 0 (lenL os) (alL c os back ++ m) = alL c os back :=
  rcF_all (alL_nodup c os back) (fun w hw => by
    obtain ⟨i, hi, rfl⟩ := stW_mem.1 (alL_mem.1 hw)
    rw [h.ob hi]
    rfl) (fun w hw => alL_mem.2 (h.ob_st hg hw)) hm

/-- The row, to the front or to the back. -/
def AlI (vb B : Nat) (c : Cfg) (os : List (Nat × Nat)) (back : Bool) (L : Nat) (w5 wx : World) : Prop :=
  ∃ xx cc, At wx vb (.cells #[.slice xx L cc] 31) ∧ OwnU wx B xx cc L (fun j => (alW c os back L j : Nat)) ∧ Keeps [vb] w5 wx
/-- The row twice. -/
def AlT (vb B : Nat) (c : Cfg) (os : List (Nat × Nat)) (back : Bool) (L : Nat) (w5 : World) (s16 : Value) (wx : World) : Prop :=
  ∃ y2 c2, s16 = .slice y2 (L + L) c2 ∧ OwnU wx B y2 c2 (L + L) (fun i => if i < L then ((alW c os back L i : Nat) : Int) else ((alW c os back L (i - L) : Nat) : Int)) ∧ AlI vb B c os back L w5 wx

set_option maxRecDepth 100000 in
set_option maxHeartbeats 4000000 in
theorem rall_small (l r s : Nat) (y0 : Option Addr) (m cm : Nat) (R V : Nat → Nat) (y1 : Option Addr) (mn cn : Nat) (G : Nat → Nat) (back : Bool) (W : World) (hl : l ≤ 65535) (hrr : r ≤ 65535) (hs : s ≤ 65535)
    (hy : ReadsH W y0 m R V) (hm : m ≤ 9223372036854775807) (hg : ReadsW W y1 mn G) (hmn : mn ≤ 9223372036854775807) :
    Calls Tryz.prog 5 #[c3V l r s, .slice y0 m cm, .slice y1 mn cn, .bool back] W fun e w' => e = .returned (.bool true) ∧ Below W.heap.size W w' := by
  have hmi : (m : Int) ≤ 9223372036854775807 := by omega
  have hmni : (mn : Int) ≤ 9223372036854775807 := by omega
  have HG := hid hg
  clear hg
  have HY := hid hy
  clear hy
  refine callsAt_marks Tryz.func5 rfl (.of_wp ?_)
  simp only [Tryz.ntmps5, List.size_toArray, List.length_cons, List.length_nil, Nat.reduceAdd, Nat.reduceSub, Array.replicate_succ, Array.replicate_zero, List.push_toArray, List.append_toArray, List.nil_append, List.cons_append]
  go_wp2_with fail
  have h_xb := (At.new W (c3O l r s)).alloc (.cells #[.bool false] 4)
  have h_rb := At.new (W.alloc (c3O l r s)) (.cells #[.bool false] 4)
  have K0 := (((Keeps.refl [] W).alloc (c3O l r s)).alloc (.cells #[.bool false] 4))
  simp only [World.size_alloc] at h_rb
  obtain ⟨xb, hq_xb⟩ : ∃ q, q = W.heap.size := ⟨_, rfl⟩
  obtain ⟨rb, hq_rb⟩ : ∃ q, q = W.heap.size + 1 := ⟨_, rfl⟩
  rw [← hq_rb, ← hq_xb]
  rw [← hq_xb] at h_xb
  rw [← hq_rb] at h_rb
  have HQ : Hid (xb = W.heap.size ∧ rb = W.heap.size + 1) := ⟨by omega, by omega⟩
  refine (awake13_any _).mono ?_
  rintro e w1 ⟨rfl, hb1⟩
  have k1 := Go.Proofs.YtaicagammbjkiaaGreat.Below.keeps hb1 []
  have K1 := K0.trans k1
  have g_xb := k1.at h_xb (by simp)
  have g_rb := k1.at h_rb (by simp)
  clear hb1 k1 K0 h_xb h_rb hq_xb hq_rb
  have c0 : w1.cell? ⟨xb, 0, none⟩ = some (.int .u16 l) := g_xb.cell 0 rfl
  have c1 : w1.cell? ⟨xb, 1, none⟩ = some (.int .u16 r) := g_xb.cell 1 rfl
  have c2 : w1.cell? ⟨xb, 2, none⟩ = some (.int .u16 s) := g_xb.cell 2 rfl
  have rf0 := g_rb.free 0
  have rc0 := g_rb.cell 0 rfl
  by_cases hm30 : m ≤ 25
  case neg =>
    have hm2 : (25 : Int) < (m : Int) := by omega
    have hm3 : decide ((25 : Int) < (m : Int)) = true := decide_eq_true hm2
    go_wp2_with fail
    have hRF := g_rb.set 0 (.bool true)
    have y0 := hRF.cell 0 rfl
    refine ⟨.bool true, ?_, rfl, ?_⟩
    · simp [results, Tryz.results5, go_sem, y0]
    · exact (K1.set (.inr (by have := HQ.out; show W.heap.size ≤ rb; omega)) _).below (Nat.le_refl _) (by simp)
  have hm2 : (m : Int) ≤ 25 := by omega
  have hm3 : decide ((25 : Int) < (m : Int)) = false := decide_eq_false (by omega)
  clear hmi
  by_cases hn60 : mn ≤ 60
  case neg =>
    have hn2 : (60 : Int) < (mn : Int) := by omega
    have hn3 : decide ((60 : Int) < (mn : Int)) = true := decide_eq_true hn2
    go_wp2_with fail
    have hRF := g_rb.set 0 (.bool true)
    have y0 := hRF.cell 0 rfl
    refine ⟨.bool true, ?_, rfl, ?_⟩
    · simp [results, Tryz.results5, go_sem, y0]
    · exact (K1.set (.inr (by have := HQ.out; show W.heap.size ≤ rb; omega)) _).below (Nat.le_refl _) (by simp)
  have h2_mn : (mn : Int) ≤ 60 := by omega
  have h3_mn : decide ((60 : Int) < (mn : Int)) = false := decide_eq_false (by omega)
  clear hmni
  have hok := mk3_ok l r s
  obtain ⟨c, hc⟩ : ∃ c, c = mk3 l r s := ⟨_, rfl⟩
  rw [← hc] at hok
  obtain ⟨os, hos⟩ : ∃ os, os = fillL c.space (hdsL R V m) := ⟨_, rfl⟩
  have HLI := hid (linked_at w1 l r s hl hrr hs y0 m cm R V (HY.out.keep K1 (by simp)) (by omega) y1 mn cn G (HG.out.keep K1 (by simp)) (by omega) 0 (by omega) c hc os hos)
  clear hc
  go_wp2_with fail
  refine HLI.out.mono ?_
  rintro e w3 ⟨p, a, u, S, x, cp, y, cy, B, rfl, hn, hP, hub, hF, hU, hI, ⟨b1, b2, b3, b4, b5⟩, hB, hk3⟩
  have K3 := K1.trans hk3
  have f_rb := hk3.at g_rb (by simp)
  have HO := hid hok
  have HN := hid hn
  obtain ⟨L, hL⟩ : ∃ L, L = os.length := ⟨_, rfl⟩
  have hLm : L ≤ m := by rw [hL, hos]; exact fillL_len _ _ _ _
  have hLi : (L : Int) ≤ 30 := by omega
  have HL := hid hL
  rw [← hL] at hI ⊢
  obtain ⟨us, hus⟩ : ∃ us, us = lenL os := ⟨_, rfl⟩
  have HUS := hid hus
  rw [← hus]
  have husb : us ≤ c.space := by rw [hus]; exact hF.fits
  have hsp : c.space ≤ 4096 := hok.small.2.2
  have husi : (us : Int) ≤ 4096 := by omega
  have hfr := frm_le hok.small (show 0 ≤ 2 by omega)
  have hfs : c.frm 0 + c.space ≤ a.n := by rw [← hn]; exact frm_space 0 (by omega)
  have hwd := hF.wd hsp (lnkG_wd c os G mn 0 (by omega))
  have HX : Hid (∀ j : Nat, c.frm 0 ≤ j → j < c.frm 0 + us → ∃ x : Nat, S.now j = (x : Int) ∧ x < 18446744073709551616) := fun j h1 h2 => hwd.sp j h1 (by omega)
  have HFS := hid (And.intro husb (And.intro hsp (And.intro hfs hfr)))
  have HP := hid hP
  have HI := hid hI
  have HYB : Hid (∀ b ∈ blkL y, b < w3.heap.size) := fun b hb => (hI.ge b hb).2
  have HRB3 : Hid (rb < w3.heap.size) := f_rb.lt
  have HD4 : Hid (a.d < w3.heap.size ∧ a.s < w3.heap.size ∧ a.k < w3.heap.size ∧ a.m < w3.heap.size ∧ rb < a.d ∧ rb < a.s ∧ rb < a.k ∧ rb < a.m) := ⟨hP.dev.dev.lt, hP.dev.now.lt, hP.dev.kept.lt, hP.dev.map.lt, by have := g_rb.lt; omega, by have := g_rb.lt; omega, by have := g_rb.lt; omega, by have := g_rb.lt; omega⟩
  have HK3 := hid K3
  have HFF := hid hF
  clear hm30 hn60 hm2 hm3 h2_mn h3_mn hos hL hLm hus husb hsp hfs hfr hwd hF hP hub hI hU hB b1 b2 b3 b4 b5 hk3 K1 c0 c1 c2 rf0 rc0 HLI hok hn K3 g_xb g_rb
  go_upto_region 8 with fail
  have hC4 := (At.new w3 (cfgO c)).alloc (bkO 0 (us : Nat) (.slice x c.roots cp))
  have hB4 := At.new (w3.alloc (cfgO c)) (bkO 0 (us : Nat) (.slice x c.roots cp))
  have k34 := ((Keeps.refl [] w3).alloc (cfgO c)).alloc (bkO 0 (us : Nat) (.slice x c.roots cp))
  simp only [World.size_alloc] at hB4
  obtain ⟨cb, hcb⟩ : ∃ q, q = w3.heap.size := ⟨_, rfl⟩
  obtain ⟨bb, hbb⟩ : ∃ q, q = w3.heap.size + 1 := ⟨_, rfl⟩
  obtain ⟨w4, hw4⟩ : ∃ w4, w4 = (w3.alloc (cfgO c)).alloc (bkO 0 (us : Nat) (.slice x c.roots cp)) := ⟨_, rfl⟩
  have hz4 : w4.heap.size = w3.heap.size + 2 := by rw [hw4]; simp
  rw [← hw4] at hC4 hB4 k34
  first | rw [← hw4] | skip
  rw [← hbb, ← hcb]
  rw [← hcb] at hC4
  rw [← hbb] at hB4
  have HZ4 : Hid (cb = w3.heap.size ∧ bb = cb + 1 ∧ w4.heap.size = cb + 2) := ⟨by omega, by omega, by omega⟩
  have HR4 := hid (k34.at f_rb (by simp))
  have HP4 := hid (HP.out.keep0 k34)
  have HC4 := hid hC4
  have HB4 := hid hB4
  have HK4 := hid (HK3.out.trans k34)
  have HI4 := hid (HI.out.keep k34 (by simp))
  clear hw4 hz4 hcb hbb f_rb hC4 hB4 k34
  have HPB : Hid (∀ j, j < L → c.frm 0 + posL os j ≤ 100000) := fun j hj => by
    have h1 := posN_end (l := os) (i := j) (by have := HL.out; omega)
    have h2 := HUS.out
    have h3 := HFS.out
    omega
  have hmix : Tryz.prog.follows .mixedOrders = true := by kernel_rfl
  go_upto_region 9 with fail
  have hV5 := At.new w4 (.cells #[.slice none 0 0] 31)
  have k45 := (Keeps.refl [] w4).alloc (.cells #[.slice none 0 0] 31)
  obtain ⟨vb, hvb⟩ : ∃ q, q = w4.heap.size := ⟨_, rfl⟩
  obtain ⟨w5, hw5⟩ : ∃ w5, w5 = w4.alloc (.cells #[.slice none 0 0] 31) := ⟨_, rfl⟩
  have hz5 : w5.heap.size = vb + 1 := by rw [hw5, hvb]; simp
  rw [← hw5] at hV5 k45
  first | rw [← hw5] | skip
  rw [← hvb] at hV5
  rw [← hvb]
  have HZ5 : Hid (w5.heap.size = vb + 1 ∧ vb = cb + 2) := ⟨hz5, by have := HZ4.out; omega⟩
  have HV5 := hid hV5
  have HR5 := hid (k45.at HR4.out (by simp))
  have HC5 := hid (k45.at HC4.out (by simp))
  have HB5 := hid (k45.at HB4.out (by simp))
  have HP5 := hid (HP4.out.keep0 k45)
  have HI5 := hid (HI4.out.keep k45 (by simp))
  have HK5 := hid (HK4.out.trans k45)
  clear hw5 hvb hz5 hV5 k45 HR4 HC4 HB4 HP4 HI4 HK4
  go_wp2_with fail
  go_loopg [42] L (fun rr s wr => ∃ (i : Nat) (xx : Option Addr) (cc : Nat), i + rr = L ∧ s = .int .i64 i ∧ (i = 0 → xx = none) ∧ At wr vb (.cells #[.slice xx i cc] 31) ∧ OwnU wr w5.heap.size xx cc i (fun j => ((c.frm 0 + posL os j : Nat) : Int)) ∧ Keeps [vb] w5 wr)
  case atStart => exact ⟨0, none, 0, by omega, rfl, fun _ => rfl, HV5.out, ownU_nil _ _ _, Keeps.refl _ _⟩
  case round =>
    obtain ⟨i, xx, cc, hi, rfl, h0, hA, hO, hK⟩ := hrel
    have H0 := hid h0
    have HA := hid hA
    have HO := hid hO
    have HK := hid hK
    by_cases hil : i < L
    · obtain ⟨pv, hpv⟩ : ∃ pv, pv = c.frm 0 + posL os i := ⟨_, rfl⟩
      have hpb : (pv : Int) ≤ 100000 := by have := HPB.out i hil; omega
      obtain ⟨g, rfl, hgB, hgl, hgc⟩ := HI5.out.cell (by omega)
      have d0 : wr.cell? ⟨g, i, none⟩ = some (.int .i64 (pv : Nat)) := by
        rw [hK.cell hgl (by have h1 := HYB.out g (by simp [blkL]); have h2 := HZ5.out; have h3 := HZ4.out; simp; omega), hpv]
        exact hgc i hil
      have e1 : IntKind.u64.wrap (pv : Int) = (pv : Int) := IntWalk.u64_in _ (by omega)
      have hii : (i : Int) < (L : Int) := by omega
      have hi5 : i ≤ 100000 := by omega
      have a0 := hA.cell 0 rfl
      have hAX := hA.alloc (.cells #[.int .u64 (pv : Nat)] 53)
      have HAX := hid hAX
      have hcX := (At.new wr (.cells #[.int .u64 (pv : Nat)] 53)).cell 0 rfl
      have HOX := hid (HO.out.keep ((Keeps.refl [] wr).alloc (.cells #[.int .u64 (pv : Nat)] 53)) (by simp))
      have hxb : vb ∉ blkL xx := fun h => by have := (hO.ge _ h).1; have := HZ5.out; omega
      have HXB := hid hxb
      have hBX : w5.heap.size ≤ (wr.alloc (.cells #[.int .u64 (pv : Nat)] 53)).heap.size := by simp only [World.size_alloc]; have := hK.size; omega
      have HI := hid (And.intro hi (And.intro hil hpv))
      clear hi hil hpv hgB hgl hgc hA hO hK hAX hxb
      go_wp2_with (at_builtin; refine appU_many rfl _ _ rfl w5.heap.size xx cc i _ rfl HOX.out _ _ (pv : Nat) rfl hcX hi5 hBX ?_; intro g9 cap9 w9 hO9 hk9 hg9; have hA9 := hk9.at HAX.out HXB.out; have a9 := hA9.cell 0 rfl; have af9 := hA9.free 0)
      have HA9 := hid (And.intro hA9 (And.intro hO9 hk9))
      clear hA9 a9 af9 hO9 hk9 hg9
      have hAF := HA9.out.1.set 0 (.slice (some ⟨g9, 0, none⟩) (i + 1) cap9)
      have kF := (Keeps.refl [vb] w9).set (p := ⟨vb, 0, none⟩) (.inl (by simp)) (.slice (some ⟨g9, 0, none⟩) (i + 1) cap9)
      have hOF := (HA9.out.2.1.eq (g := fun j => ((c.frm 0 + posL os j : Nat) : Int)) (fun j hj => by
        unfold put
        by_cases hji : j = i
        · rw [if_pos hji, hji, ← HI.out.2.2]
        · rw [if_neg hji])).keep kF (fun b hb h => by have h1 := (HA9.out.2.1.ge b hb).1; have h2 := HZ5.out; simp at h; omega)
      have kT : Keeps [vb] w5 (w9.setCell ⟨vb, 0, none⟩ (.slice (some ⟨g9, 0, none⟩) (i + 1) cap9)) := ((HK.out.alloc _).new HA9.out.2.2 (fun b hb => .inr (by have := (HO.out.ge b hb).1; omega))).trans kF
      have HE := hid (And.intro hAF (And.intro hOF kT))
      clear hAF hOF kT kF
      go_wp2_with fail
      go_roundg (L - (i + 1))
      case measure => (have := HI.out; omega)
      case rel => exact ⟨i + 1, some ⟨g9, 0, none⟩, cap9, by have := HI.out; omega, by go_num, fun h => by omega, HE.out⟩
    · have hie : L = i := by omega
      subst hie
      have hxn : L = 0 → xx = none := h0
      have HXN := hid hxn
      clear hi hil hA hO hK h0 hxn H0
      go_upto_if 52 with fail
      go_cut [] from 53 to 54 (fun wx => AlI vb w5.heap.size c os back L w5 wx)
      case first =>
        cases back with
        | false =>
          go_wp2_with fail
          go_meet
          exact ⟨xx, cc, HA.out, HO.out.eq (fun j _ => by simp [alW]), HK.out⟩
        | true =>
          have a0 := HA.out.cell 0 rfl
          by_cases hL0 : L = 0
          · obtain rfl := HXN.out hL0
            subst hL0
            obtain ⟨_, ⟨hcc, _⟩ | ⟨_, _, _, hcc, _⟩⟩ := HO.out
            case inr => exact absurd hcc (by simp)
            injection hcc with _ _ hcc
            subst hcc
            go_wp2_with fail
            refine (reverse_nil _).mono ?_
            rintro e w6 ⟨rfl, rfl⟩
            clear a0
            go_wp2_with fail
            go_meet
            exact ⟨none, 0, HA.out, HO.out.eq (fun j hj => by omega), HK.out⟩
          · obtain ⟨g, cur, rfl, hgB, hgA, _⟩ := HO.out.form.resolve_left (by omega)
            have HRV := hid (reverse13_at wr w5.heap.size g cc L (fun j => ((c.frm 0 + posL os j : Nat) : Int)) HO.out (by omega))
            have hgv : vb ≠ g := by have := HZ5.out; omega
            have HGV := hid (And.intro hgB hgv)
            clear hgA hgB hgv
            go_wp2_with fail
            refine HRV.out.mono ?_
            rintro e w6 ⟨rfl, hO6, k6⟩
            have HE := hid (And.intro hO6 k6)
            clear a0 hO6 k6
            go_wp2_with fail
            go_meet
            exact ⟨some ⟨g, 0, none⟩, cc, HE.out.2.at HA.out (by have := HGV.out.2; simp; exact this), HE.out.1.eq (fun j hj => by simp [alW]), HK.out.new HE.out.2 (fun b hb => .inr (by have := HGV.out.1; obtain rfl := List.mem_singleton.1 hb; omega))⟩
      case rest =>
        obtain ⟨xx2, cc2, hA2, hO2, hK2⟩ := hcut
        have HO2 := hid hO2
        have HK2 := hid hK2
        have HA2 := hid hA2
        have HVA := hid (fun (w' : World) (hk : Keeps [] wc w') => show w'.cell? ⟨vb, 0, none⟩ = some (.slice xx2 L cc2) from (hk.at hA2 (by simp)).cell 0 rfl)
        have HCL := hid (fun (w' : World) (hk : Keeps [] wc w') => cloneU_any w' xx2 L cc2 _ (hO2.keep hk (by simp)).rd (by omega))
        clear hA2 hO2 hK2 HA HO HK HXN
        go_upto_region 16 with fail
        go_cut [16] from 55 to 58 (fun s16 wx => AlT vb w5.heap.size c os back L w5 s16 wx)
        case first =>
          have kk : Keeps [] wc wc.drew := (Keeps.refl [] wc).drew
          have v0 := HVA.out _ kk
          have hLb : L + L ≤ 100000 := by omega
          have hBw : ∀ w', Keeps [] wc w' → w5.heap.size ≤ w'.heap.size := fun w' hk => Nat.le_trans HK2.out.size hk.size
          refine wp_region_noPanic ?_
          go_region_law (first
            | (go_simp; go_at_call 18; refine (HCL.out _ kk).mono ?_; rintro e w' ⟨x7, c7, rfl, hO7, hk7⟩; have k7 := kk.trans hk7; have v7 := HVA.out _ k7)
            | (refine app2U_step rfl _ _ rfl w5.heap.size w5.heap.size x7 xx2 c7 L cc2 L _ _ rfl rfl (hO7.low (hBw _ kk)) (HO2.out.keep k7 (by simp)) hLb (hBw _ k7) ?_; intro x9 cp9 w9 hO9 hk9 hx9))
          all_goals
            refine NoPanic.normal ?_
            have hB7 : ∀ b ∈ blkL x7, wc.heap.size ≤ b := fun b hb => (hO7.ge b hb).1
            have hv9 : vb ∉ blkL x7 := fun h => by have := hB7 _ h; have := HA2.out.lt; omega
            have HE := hid (show AlT vb w5.heap.size c os back L w5 (.slice x9 (L + L) cp9) w9 from ⟨x9, cp9, rfl, hO9, xx2, cc2, (hk9.at (k7.at HA2.out (by simp)) hv9), (HO2.out.keep k7 (by simp)).keep hk9 (fun b hb h => by have := hB7 _ h; have := (HO2.out.ge b hb).2; omega), (HK2.out.trans (k7.mono (by simp))).new hk9 (fun b hb => .inr (by have := hB7 _ hb; have := HK2.out.size; omega))⟩)
            clear hB7 hv9 hO9 hk9 hx9 hO7 hk7 k7 v7 v0
            go_wp2_with fail
            go_meet
            exact HE.out
        case rest =>
          obtain ⟨y2, c2, rfl, hO2b, xx3, cc3, hA3, hO3, hK3b⟩ := hcut
          have HO2b := hid hO2b
          have HO3 := hid hO3
          have HA3 := hid hA3
          have HK3b := hid hK3b
          clear hO2b hO3 hA3 hK3b HO2 HK2 HA2 HVA HCL
          have HALB : Hid (∀ i, i < L → alW c os back L i ≤ 100000) := fun i hi => by
            unfold alW
            split
            · exact HPB.out _ (by omega)
            · exact HPB.out _ hi
          have hll : (alL c os back).length = L := by rw [HL.out]; simp [alL]
          have hwl : wsN L (fun j => ((alW c os back L j : Nat) : Int)) = alL c os back := by
            unfold wsN alL
            rw [← HL.out]
            exact List.map_congr_left fun j _ => Int.toNat_natCast _
          have hgs := lnkG_small c os G mn (by have := HFS.out; have := HUS.out; omega)
          have hrf : ∀ m, (∀ w ∈ m, w ∈ alL c os back) → rcF S c 0 us (alL c os back ++ m) = alL c os back := fun m hm => by rw [HUS.out]; exact HFF.out.all hgs back hm
          have HRF1 : Hid (rcF S c 0 us (wsN L (fun j => ((alW c os back L j : Nat) : Int))) = alL c os back) := by
            show _ = _
            rw [hwl]
            have := hrf [] (by simp)
            rwa [List.append_nil] at this
          have HRF2 : Hid (rcF S c 0 us (wsN (L + L) (fun i => if i < L then ((alW c os back L i : Nat) : Int) else ((alW c os back L (i - L) : Nat) : Int))) = alL c os back) := by
            show _ = _
            rw [wsN_app L L (fun j => ((alW c os back L j : Nat) : Int)) (fun j => ((alW c os back L j : Nat) : Int)), hwl]
            exact hrf _ fun w hw => hw
          have HSZA : Hid (szF S (alL c os back) = us) := by show _ = _; rw [alL_sz, HFF.out.sz_all, HUS.out]
          have HALL : Hid (∀ i, i < L → (alL c os back)[i]? = some (alW c os back L i)) := fun i hi => by
            unfold alL
            rw [← HL.out]
            simp [hi]
          obtain ⟨LS, hLS⟩ : ∃ LS, LS = alL c os back := ⟨_, rfl⟩
          rw [← hLS] at HRF1 HRF2 HSZA HALL hll
          have HLL := hid hll
          clear hwl hgs hrf hll hLS
          obtain ⟨fD, hfD⟩ : ∃ fD : Nat → Int, fD = fun i => if i < L then ((alW c os back L i : Nat) : Int) else ((alW c os back L (i - L) : Nat) : Int) := ⟨_, rfl⟩
          obtain ⟨fA, hfA⟩ : ∃ fA : Nat → Int, fA = fun j => ((alW c os back L j : Nat) : Int) := ⟨_, rfl⟩
          have HFD : Hid (∀ i, i < L + L → ∃ v : Nat, fD i = (v : Int) ∧ v < 18446744073709551616) := fun i hi => by
            rw [hfD]
            by_cases h : i < L
            · exact ⟨alW c os back L i, if_pos h, by have := HALB.out i h; omega⟩
            · exact ⟨alW c os back L (i - L), if_neg h, by have := HALB.out (i - L) (by omega); omega⟩
          have HFA : Hid (∀ i, i < L → ∃ v : Nat, fA i = (v : Int) ∧ v < 18446744073709551616) := fun i hi => ⟨alW c os back L i, by rw [hfA], by have := HALB.out i hi; omega⟩
          have HFAV : Hid (∀ i, fA i = ((alW c os back L i : Nat) : Int)) := fun i => by rw [hfA]
          rw [← hfD] at HRF2 HO2b
          rw [← hfA] at HRF1 HO3
          clear hfD hfA
          have hvb3 : ∀ q, q < w3.heap.size ∨ q = cb ∨ q = bb → q ∉ [vb] := fun q hq h => by have h1 := List.mem_singleton.1 h; have h2 := HZ5.out; have h3 := HZ4.out; omega
          have HR6 := hid (HK3b.out.at HR5.out (hvb3 _ (.inl HRB3.out)))
          have HC6 := hid (HK3b.out.at HC5.out (hvb3 _ (.inr (.inl rfl))))
          have HB6 := hid (HK3b.out.at HB5.out (hvb3 _ (.inr (.inr rfl))))
          have HD6 := hid (HP5.out.dev.keep HK3b.out (hvb3 _ (.inl HD4.out.1)) (hvb3 _ (.inl HD4.out.2.1)) (hvb3 _ (.inl HD4.out.2.2.1)) (hvb3 _ (.inl HD4.out.2.2.2.1)))
          have HK6 : Hid (Keeps [] W wc) := HK5.out.new HK3b.out (fun b hb => .inr (by have h1 := HQ.out; have h2 := HK3.out.size; have h3 := HZ5.out; have h4 := HZ4.out; obtain rfl := List.mem_singleton.1 hb; omega))
          have HS6 : Hid (w5.heap.size ≤ wc.heap.size) := HK3b.out.size
          clear hvb3 HK3b HR5 HC5 HB5 HP5 HK5 HV5 HI5
          go_upto_region 18 with fail
          have hN7 := At.new wc (.cells #[.int .i64 0] 3)
          have k67 := (Keeps.refl [] wc).alloc (.cells #[.int .i64 0] 3)
          obtain ⟨nb, hnb⟩ : ∃ q, q = wc.heap.size := ⟨_, rfl⟩
          obtain ⟨w7, hw7⟩ : ∃ w7, w7 = wc.alloc (.cells #[.int .i64 0] 3) := ⟨_, rfl⟩
          have hz7 : w7.heap.size = nb + 1 := by rw [hw7, hnb]; simp
          rw [← hw7] at hN7 k67
          first | rw [← hw7] | skip
          rw [← hnb] at hN7
          rw [← hnb]
          have HQ7 : Hid (w7.heap.size = nb + 1 ∧ w5.heap.size ≤ nb ∧ w5.heap.size = vb + 1 ∧ vb = cb + 2 ∧ bb = cb + 1 ∧ cb = w3.heap.size ∧ rb < w3.heap.size) := ⟨hz7, by have := HS6.out; omega, HZ5.out.1, HZ5.out.2, HZ4.out.2.1, HZ4.out.1, HRB3.out⟩
          have HN7 := hid hN7
          have HV7 := hid (k67.at HA3.out (by simp))
          have HO7 := hid (HO3.out.keep k67 (by simp))
          have HU7 := hid (HO2b.out.keep k67 (by simp))
          have HC7 := hid (k67.at HC6.out (by simp))
          have HB7 := hid (k67.at HB6.out (by simp))
          have HR7 := hid (k67.at HR6.out (by simp))
          have HD7 := hid (HD6.out.keep k67 (by simp) (by simp) (by simp) (by simp))
          have HK7 := hid (HK6.out.trans k67)
          have HXR : Hid (∀ b ∈ blkL xx3, w5.heap.size ≤ b ∧ b < nb) := fun b hb => by have := HO3.out.ge b hb; omega
          have c0 := HC7.out.cell 0 rfl
          have c1 := HC7.out.cell 1 rfl
          have c2' := HC7.out.cell 2 rfl
          have b0 := HB7.out.cell 0 rfl
          have b1 := HB7.out.cell 1 rfl
          have b2 := HB7.out.cell 2 rfl
          clear hw7 hz7 hnb hN7 k67 HO3 HO2b HA3 HC6 HB6 HR6 HD6 HK6 HS6
          go_wp2_with fail
          refine (from13_at w7 p a S c HD7.out HO.out HN.out 0 (by omega) us HFS.out.1 (.slice x c.roots cp) HX.out y2 (L + L) c2 fD HU7.out.rd (by omega) HFD.out).mono ?_
          rintro e w8 ⟨gf, lb, Fct, rfl, hent, hit, hfct, k78⟩
          rw [HRF2.out, HLL.out] at hit
          have HENT := hid hent
          have HIT := hid hit
          have HFC := hid hfct
          have HN8 := hid (k78.at HN7.out (by simp))
          have HV8 := hid (k78.at HV7.out (by simp))
          have HO8 := hid (HO7.out.keep k78 (by simp))
          have HC8 := hid (k78.at HC7.out (by simp))
          have HB8 := hid (k78.at HB7.out (by simp))
          have HR8 := hid (k78.at HR7.out (by simp))
          have HD8 := hid (HD7.out.keep k78 (by simp) (by simp) (by simp) (by simp))
          have HK8 := hid (HK7.out.trans k78)
          have HQ8 : Hid (nb + 1 ≤ w8.heap.size) := by have := k78.size; have := HQ7.out; show _ ≤ _; omega
          clear c0 c1 c2' b0 b1 b2 hent hit hfct k78 HN7 HV7 HO7 HU7 HC7 HB7 HR7 HD7 HK7
          go_wp2_with fail
          refine wp_rangeE (gf := gf) (lb := lb) rfl HENT.out (fun fn => ?_)
          refine' (iter_coreS HIT.out fn w8 _ _ _ _
            (fun i W => i ≤ L ∧ At W nb (.cells #[.int .i64 (i : Nat)] 3) ∧ Keeps [nb] w8 W)
            (fun W => False)
            .ret .ret (.inl ⟨rfl, rfl⟩) (fun _ => rfl) ?fct ?keep ?keepx ?round ?start).mono ?after
          case fct =>
            rintro i W ⟨_, _, hk⟩
            refine HFC.out [nb] W hk fun b hb => .inl ?_
            have h1 := HQ7.out
            have h2 := HD4.out
            obtain rfl := List.mem_singleton.1 hb
            exact ⟨by omega, by omega, by omega, by omega, by omega⟩
          case keep =>
            rintro i W W' T ⟨h1, h2, hk⟩ hk' hT
            have h5 := HQ8.out
            exact ⟨h1, hk'.at h2 (fun h => by have := hT _ h; omega), hk.new hk' (fun b hb => .inr (hT b hb))⟩
          case keepx =>
            rintro W W' T h _ _
            exact h
          case start => exact ⟨Nat.zero_le _, HN8.out, Keeps.refl _ _⟩
          case round =>
            rintro i W him ⟨hil, hN, hK⟩ hsz
            have hlt : i < L := him
            obtain ⟨X, hX⟩ : ∃ X, X = alW c os back L i := ⟨_, rfl⟩
            have hXg : LS[i]? = some X := by rw [hX]; exact HALL.out i hlt
            rw [rcA_at hXg]
            obtain ⟨nn, hnn⟩ : ∃ nn, nn = hdN (S.now X).toNat := ⟨_, rfl⟩
            obtain ⟨rr, hrr⟩ : ∃ rr, rr = hdR (S.now X).toNat := ⟨_, rfl⟩
            rw [← hnn, ← hrr]
            have hXb : (X : Int) ≤ 100000 := by have := HALB.out i hlt; omega
            have HXD := hid hX
            have HLT := hid hlt
            have HKW := hid hK
            have HNW := hid hN
            clear hlt hX hXg hnn hrr hK hN him hil
            have hmix : Tryz.prog.follows .mixedOrders = true := by kernel_rfl
            have hsem := @Oper.semAt_some
            gi_wp2_with fail
            refine ⟨(Keeps.refl [] W).alloc _, fun W₂ k2 hz2 _ => ?_⟩
            have hq7 := HQ7.out
            have hq8 := HQ8.out
            have hW0 : w8.heap.size + 2 ≤ W.heap.size := hsz
            have hO2 := k2.at (At.new W (obO (nn : Nat) (rr : Nat) (X : Nat))) (by simp; omega)
            have kW2 : Keeps [w8.heap.size + 1] W W₂ := ((Keeps.refl _ W).alloc _).trans k2
            have hN2 := kW2.at HNW.out (by simp; omega)
            have hKN : Keeps [nb] w8 W₂ := HKW.out.new kW2 (by simp)
            have hV2 := hKN.at HV8.out (by simp; omega)
            obtain ⟨g, cur, rfl, hgB, hgA, hgc⟩ := (HO8.out.keep hKN (fun b hb h => by have := HXR.out b hb; simp at h; omega)).form.resolve_left (by have := HLT.out; omega)
            have hgx : W₂.cell? ⟨g, i, none⟩ = some (.int .u64 (X : Nat)) := by rw [HXD.out, ← HFAV.out]; exact hgA.cell i (hgc i HLT.out)
            have HO2 := hid hO2
            have HN2 := hid hN2
            have HKN := hid hKN
            have HWZ := hid hW0
            have o0 := hO2.cell 0 rfl
            have o1 := hO2.cell 1 rfl
            have o2 := hO2.cell 2 rfl
            have n0 := hN2.cell 0 rfl
            have v0 := hV2.cell 0 rfl
            have t1 : decide ((L : Int) ≤ (i : Int)) = false := decide_eq_false (by have := HLT.out; omega)
            have t2 : (i : Int) < (L : Int) := by have := HLT.out; omega
            have t3 : decide (L ≤ i) = false := decide_eq_false (by have := HLT.out; omega)
            have t4 : i < L := HLT.out
            have t5 : ((X : Int) != (X : Int)) = false := by simp
            have e5 : IntKind.u64.wrap (X : Int) = (X : Int) := IntWalk.u64_in _ (by omega)
            have HK22 := hid kW2
            clear hq7 hq8 hW0 hO2 kW2 hN2 hKN hV2 hgB hgA hgc k2 hz2 hsz
            gi_wp2_with fail
            refine round_quiet rfl hmix (by kernel_rfl) ?_
            repeat (go_big_quiet_step (fail))
            refine wpQuiet_nil ?_
            rintro _ ⟨nq, rfl⟩
            have kq : Keeps [] W₂ (W₂.drewN nq) := (Keeps.refl [] W₂).drewN nq
            obtain ⟨W3, hW3⟩ : ∃ W3, W3 = W₂.drewN nq := ⟨_, rfl⟩
            rw [← hW3] at kq
            first | rw [← hW3] | skip
            have HN3 := hid (kq.at HN2.out (by simp))
            have HKN3 : Hid (Keeps [nb] w8 W3) := HKN.out.trans (kq.mono (by simp))
            have HKQ := hid kq
            clear hW3 kq o0 o1 o2 n0 v0 hgx t1 t3 t5 HO2 HN2
            have n0 := HN3.out.cell 0 rfl
            have nf := HN3.out.free 0
            have hi1 : (i : Int) ≤ 100 := by omega
            gi_wp2_with fail
            refine ⟨⟨HLT.out, by simpa using HN3.out.set 0 (.int .i64 ((i : Int) + 1)), HKN3.out.set (p := ⟨nb, 0, none⟩) (.inl (by simp)) _⟩, [nb], (HKQ.out.mono (by simp)).set (p := ⟨nb, 0, none⟩) (.inl (by simp)) _, fun b hb => .inl ?_⟩
            obtain rfl := List.mem_singleton.1 hb
            have := HQ8.out
            omega
          case after =>
            intro e w9 hr
            cases e with
            | panicked _ => exact hr
            | outgrown => exact hr
            | returned v =>
              rcases hr with ⟨w10, hend, ⟨_, hN, hK⟩, hDf⟩ | ⟨w10, hend, h, hDf⟩
              case inr => exact h.elim
              refine .inl ⟨w10, hend, ?_⟩
              have hq7 := HQ7.out
              have hq8 := HQ8.out
              have hd4 := HD4.out
              have hC10 := hK.at HC8.out (by simp; omega)
              have hB10 := hK.at HB8.out (by simp; omega)
              have hV10 := hK.at HV8.out (by simp; omega)
              have hR10 := hK.at HR8.out (by simp; omega)
              have hN10 := hN
              have hD10 := HD8.out.keep hK (by simp; omega) (by simp; omega) (by simp; omega) (by simp; omega)
              have hO10 := HO8.out.keep hK (fun b hb h => by have := HXR.out b hb; simp at h; omega)
              have K10 : Keeps [] W w10 := HK8.out.new hK (fun b hb => .inr (by have h1 := HQ.out; have h2 := HK3.out.size; obtain rfl := List.mem_singleton.1 hb; omega))
              have HSZE := hid (fun (w' : World) (hk : Keeps [] w10 w') => size13_at w' p a S c (hD10.keep hk (by simp) (by simp) (by simp) (by simp)) HO.out HN.out 0 (by omega) us HFS.out.1 (.slice x c.roots cp) HX.out xx3 L cc3 fA (hO10.keep hk (by simp)).rd (by omega) HFA.out)
              rw [HRF1.out, HSZA.out] at HSZE
              have HCZ : Hid (∀ w', Keeps [rb] w10 w' → (w'.cell? ⟨nb, 0, none⟩ = some (.int .i64 (L : Nat)) ∧ w'.cell? ⟨vb, 0, none⟩ = some (.slice xx3 L cc3) ∧ w'.cell? ⟨cb, 0, none⟩ = some (.int .i64 c.log) ∧ w'.cell? ⟨cb, 1, none⟩ = some (.int .i64 c.roots) ∧ w'.cell? ⟨cb, 2, none⟩ = some (.int .i64 c.space) ∧
                  w'.cell? ⟨bb, 0, none⟩ = some (.int .i64 0) ∧ w'.cell? ⟨bb, 1, none⟩ = some (.int .i64 (us : Nat)) ∧ w'.cell? ⟨bb, 2, none⟩ = some (.slice x c.roots cp))) := fun w' hk => by
                have e1 := hk.at hN10 (by simp; omega)
                have e2 := hk.at hV10 (by simp; omega)
                have e3 := hk.at hC10 (by simp; omega)
                have e4 := hk.at hB10 (by simp; omega)
                exact ⟨e1.cell 0 rfl, e2.cell 0 rfl, e3.cell 0 rfl, e3.cell 1 rfl, e3.cell 2 rfl, e4.cell 0 rfl, e4.cell 1 rfl, e4.cell 2 rfl⟩
              have HRF : Hid (∀ w', Keeps [] w10 w' → At w' rb (.cells #[.bool false] 4)) := fun w' hk => hk.at hR10 (by simp)
              have HDF := hid hDf
              have HK10 := hid K10
              have HDB : Hid (rb ≠ w8.heap.size) := by show rb ≠ _; omega
              have t1 : ((L : Int) == (L : Int)) = true := beq_self_eq_true _
              have t2 : ((us : Int) == (us : Int)) = true := beq_self_eq_true _
              clear hq7 hq8 hd4 hC10 hB10 hV10 hR10 hN10 hD10 hO10 K10 hDf hK hN hend
              simp only [Exit.inBlock, Exit.then]
              go_upto_region 23 with fail
              have kk : Keeps [] w10 w10.drew := (Keeps.refl _ _).drew
              have rf := (HRF.out _ kk).free 0
              have rc := (HRF.out _ kk).cell 0 rfl
              go_region_held3 (fun w' => w'.cell? ⟨nb, 0, none⟩ = some (.int .i64 (L : Nat)) ∧ w'.cell? ⟨vb, 0, none⟩ = some (.slice xx3 L cc3) ∧ w'.cell? ⟨cb, 0, none⟩ = some (.int .i64 c.log) ∧ w'.cell? ⟨cb, 1, none⟩ = some (.int .i64 c.roots) ∧ w'.cell? ⟨cb, 2, none⟩ = some (.int .i64 c.space) ∧
                  w'.cell? ⟨bb, 0, none⟩ = some (.int .i64 0) ∧ w'.cell? ⟨bb, 1, none⟩ = some (.int .i64 (us : Nat)) ∧ w'.cell? ⟨bb, 2, none⟩ = some (.slice x c.roots cp))
                (first | exact HCZ.out _ (kk.mono (by simp)) | exact HCZ.out _ ((kk.mono (by simp)).set (.inl (by simp)) _))
                (first
                  | (go_at_call 13; refine (HSZE.out _ kk).mono ?_; rintro e w' ⟨rfl, hk9⟩; have kk := kk.trans hk9; clear hk9; have rf := (HRF.out _ kk).free 0; have rc := (HRF.out _ kk).cell 0 rfl))
              rename_i hHd
              clear hHd
              have hD2 := (kk.at HDF.out (by simp)).set_ne (a := ⟨rb, 0, none⟩) HDB.out.symm (.bool true)
              have hR2 := (HRF.out _ kk).set 0 (.bool true)
              have k2 : Keeps [] W (w'.setCell ⟨rb, 0, none⟩ (.bool true)) := (HK10.out.trans kk).set (p := ⟨rb, 0, none⟩) (.inr (by have := HQ.out; show W.heap.size ≤ rb; omega)) _
              have HE := hid (And.intro hD2 (And.intro hR2 k2))
              clear hD2 hR2 k2 rf rc
              go_wp2_with fail
              refine ⟨by simp, .inl ⟨_, _, rfl, run_takeDeferred HE.out.1, ?_⟩⟩
              have kd : Keeps [w8.heap.size] (w'.setCell ⟨rb, 0, none⟩ (.bool true)) ((w'.setCell ⟨rb, 0, none⟩ (.bool true)).putObj w8.heap.size (.deferred none)) := (Keeps.refl _ _).put (.inl (by simp)) _
              have f1 : ((w'.setCell ⟨rb, 0, none⟩ (.bool true)).putObj w8.heap.size (.deferred none)).cell? ⟨rb, 0, none⟩ = some (.bool true) := (kd.at HE.out.2.1 (by simpa using HDB.out)).cell 0 rfl
              refine ⟨.bool true, ?_, rfl, ?_⟩
              · simp [results, Tryz.results5, go_sem, f1]
              · exact (HE.out.2.2.new kd (fun b hb => .inr (by obtain rfl := List.mem_singleton.1 hb; exact HK8.out.size))).below (Nat.le_refl _) (by simp)

theorem reachAll_walk (l r s : Int) (y : Option Addr) (m cm : Nat) (z : Nat → Nat → Int) (y1 : Option Addr) (mn cn : Nat) (g : Nat → Int) (back : Bool) (W : World) (wl : (Lit.int .u16 l).wf = true) (wr : (Lit.int .u16 r).wf = true) (ws : (Lit.int .u16 s).wf = true)
    (R2 : m * 2 = 0 ∨ ∃ b off, y = some ⟨b, off, none⟩ ∧ b < W.heap.size ∧ ∀ i j, i < m → j < 2 → W.cell? ⟨b, off + (i * 2 + j), none⟩ = some (.int ((fun j => if j = 0 then IntKind.u8 else IntKind.u8) j) (z i j)) ∧ (Lit.int ((fun j => if j = 0 then IntKind.u8 else IntKind.u8) j) (z i j)).wf = true) (hm : m ≤ maxLen)
    (R : ReadsV (Value.int .u16) W y1 mn g) (hg : ∀ i, i < mn → (Lit.int .u16 (g i)).wf = true) (hmn : mn ≤ maxLen) :
    Calls Tryz.prog 5 #[.agg #[.int .u16 l, .int .u16 r, .int .u16 s], .slice y m cm, .slice y1 mn cn, .bool back] W fun e w' => e = .returned (.bool true) ∧ Below W.heap.size W w' := by
  obtain ⟨l, rfl, hl⟩ := c3_open wl
  obtain ⟨r, rfl, hr⟩ := c3_open wr
  obtain ⟨s, rfl, hs⟩ := c3_open ws
  exact rall_small l r s y m cm _ _ y1 mn cn _ back W hl hr hs (readsH_of R2) (by unfold maxLen at hm; omega) (reads16_any R hg) (by unfold maxLen at hmn; omega)

end Go.Proofs.YtaicagammbjkiaaGreat
