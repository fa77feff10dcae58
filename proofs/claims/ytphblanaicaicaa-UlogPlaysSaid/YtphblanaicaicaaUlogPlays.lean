/- The walk of the law UlogPlays. -/
import Derived.Test.YtphblanaicaicaaP6
import Derived.Deep.RegionLaw
namespace Go.Proofs.Ytphblanaicaicaa
open Go.RowKit Go.OpenShut

abbrev resO (b : Bool) : Obj := .cells #[.bool b] 4
abbrev plO (x : Option Addr) (n cp : Nat) : Obj := .cells #[.slice x n cp] 37
abbrev wlO (x : Option Addr) (n cp : Nat) : Obj := .cells #[.slice x n cp] 25

/-- Between two words: the places and the words of the records that came. -/
def PInv (p : Nat) (a : DA) (lb : Nat) (c : Cfg) (D : Nat → Int) (pb B k : Nat) (w : World) : Prop :=
  ∃ st u S m pl wd xi ci xw cw, LW w p a (-1) u S lb c m st ∧ LI c a.n 1 0 m pl wd D S ∧ m ≤ k ∧ u ≤ 110000 + 120 * (k : Int) ∧ At w pb (plO xi m ci) ∧ At w (pb + 1) (wlO xw m cw) ∧ OwnI w B xi ci m pl ∧ OwnU w B xw cw m wd

/-- Behind the appends. -/
def PlW (pb B m : Nat) (pl : Nat → Nat) (wd : Nat → Int) (R : List Nat) (w wx : World) : Prop :=
  ∃ xi ci xw cw, At wx pb (plO xi m ci) ∧ At wx (pb + 1) (wlO xw m cw) ∧ OwnI wx B xi ci m pl ∧ OwnU wx B xw cw m wd ∧ Keeps (pb :: (pb + 1) :: R) w wx

theorem kept6b_at (w : World) (p : Nat) (a : DA) (S : DS) (c : Cfg) (h : Dev w p a S) (hal : c.act < a.n) :
    Calls Try.prog 20 #[ptr a.d] w fun e w' => ∃ g cap, e = .returned (.slice (some ⟨g, 0, none⟩) a.n cap) ∧ (c.act ≤ cap ∧ (a.n : Int) ≤ (cap : Int) ∧ ¬ cap = c.act) ∧ Reads w' (some ⟨g, c.act, none⟩) (a.n - c.act) (fun i => S.kept (c.act + i)) ∧ Keeps [] w w' := by
  refine (kept_at w p a S h).mono ?_
  rintro e w1 ⟨v1, rfl, hv1, hk1⟩
  obtain ⟨g, cap, rfl, hg, hgb, hcap, hR⟩ := hv1.reads
  have hcp := hv1.row
  exact ⟨g, cap, rfl, by omega, hR.from (by omega), hk1⟩

abbrev kO (z : Int) : Obj := .cells #[.int .i64 z] 3

theorem plw_end {pb B B' m g1 g2 c1 c2 ci cw cw' n' : Nat} {pl : Nat → Nat} {wd wd0 : Nat → Int} {R : List Nat} {w9 w10 w11 : World} {xi xw : Option Addr} (hP : At w11 pb (plO xi m ci)) (hQ : At w11 (pb + 1) (wlO xw m cw))
    (h1 : OwnI w10 B (some ⟨g1, 0, none⟩) c1 (m + 1) pl) (h2 : OwnU w11 B (some ⟨g2, 0, none⟩) c2 (m + 1) wd) (hk : Keeps (blkL xw) w10 w11) (hU : OwnU w10 B' xw cw' n' wd0) (hR : Keeps R w9 w11) (hB : pb + 1 < B) :
    PlW pb B (m + 1) pl wd R w9 ((w11.setCell ⟨pb, 0, none⟩ (.slice (some ⟨g1, 0, none⟩) (m + 1) c1)).setCell ⟨pb + 1, 0, none⟩ (.slice (some ⟨g2, 0, none⟩) (m + 1) c2)) := by
  have e1 := (hP.set 0 (.slice (some ⟨g1, 0, none⟩) (m + 1) c1)).set_ne (a := ⟨pb + 1, 0, none⟩) (show pb ≠ pb + 1 by omega) (.slice (some ⟨g2, 0, none⟩) (m + 1) c2)
  have e2 := (hQ.set_ne (a := ⟨pb, 0, none⟩) (show pb + 1 ≠ pb by omega) (.slice (some ⟨g1, 0, none⟩) (m + 1) c1)).set 0 (.slice (some ⟨g2, 0, none⟩) (m + 1) c2)
  have kk : Keeps [pb, pb + 1] w11 ((w11.setCell ⟨pb, 0, none⟩ (.slice (some ⟨g1, 0, none⟩) (m + 1) c1)).setCell ⟨pb + 1, 0, none⟩ (.slice (some ⟨g2, 0, none⟩) (m + 1) c2)) := ((Keeps.refl _ _).set (.inl (by simp)) _).set (.inl (by simp)) _
  refine ⟨_, _, _, _, e1, e2, (h1.keep hk fun b hb h => own_apart h1 hU b h hb).keep kk fun b hb => ?_, h2.keep kk fun b hb => ?_, (hR.mono fun k _ hk => by simp [hk]).trans (kk.mono fun k _ hk => by simp at hk ⊢; omega)⟩
  · have := (h1.ge b hb).1
    simp; omega
  · have := (h2.ge b hb).1
    simp; omega

theorem plays_end {w8 wf W : World} {b db : Nat} (kk : Keeps [] w8 wf) (hV : At w8 b (resO false)) (hD : At w8 db (.deferred (some []))) (hdv : db ≠ b) (hB : W.heap.size ≤ b) (hDB : W.heap.size ≤ db) (K : Keeps [] W w8) :
    At (wf.setCell ⟨b, 0, none⟩ (.bool true)) db (.deferred (some [])) ∧ ((wf.setCell ⟨b, 0, none⟩ (.bool true)).putObj db (.deferred none)).cell? ⟨b, 0, none⟩ = some (.bool true) ∧ Below W.heap.size W ((wf.setCell ⟨b, 0, none⟩ (.bool true)).putObj db (.deferred none)) := by
  have hVf := (kk.at hV (by simp)).set 0 (.bool true)
  have hDf := (kk.at hD (by simp)).set_ne (a := ⟨b, 0, none⟩) hdv (.bool true)
  have Kf : Keeps [] W (wf.setCell ⟨b, 0, none⟩ (.bool true)) := (K.trans kk).set (.inr hB) _
  have kd : Keeps [db] (wf.setCell ⟨b, 0, none⟩ (.bool true)) ((wf.setCell ⟨b, 0, none⟩ (.bool true)).putObj db (.deferred none)) := (Keeps.refl _ _).put (.inl (by simp)) _
  exact ⟨hDf, (kd.at hVf (by simp; omega)).cell 0 rfl, (Kf.new kd (by simp; omega)).below (Nat.le_refl _) (by simp)⟩

set_option maxRecDepth 100000 in
set_option maxHeartbeats 2000000 in
theorem plays6_great (l r s : Nat) (y : Option Addr) (co cq : Nat) (x : Option Addr) (n cp : Nat) (W : World) (hg : 20 < co ∨ 30 < n) :
    Calls Try.prog 3 #[c3V l r s, .slice y co cq, .slice x n cp] W fun e w' => e = .returned (.bool true) ∧ Below W.heap.size W w' := by
  by_cases h1 : 20 < co
  · have g1 : decide (20 < co) = true := by rw [decide_eq_true_eq]; omega
    have g2 : decide (20 < (co : Int)) = true := by rw [decide_eq_true_eq]; omega
    refine callsAt_marks Try.func3 rfl ?_
    simp only [Try.ntmps3, List.size_toArray, List.length_cons, List.length_nil, Nat.reduceAdd, Nat.reduceSub, Array.replicate_succ, Array.replicate_zero, List.push_toArray, List.append_toArray, List.nil_append, List.cons_append]
    refine WpAt.seq_k fun KK hKK => ?_
    go_wp2_with fail
    refine WpAt.seq_k fun KK hKK => ?_
    go_wp2_with fail
    have hV0 := At.new (W.alloc (c3O l r s)) (resO false)
    have K0 := ((Keeps.refl [] W).alloc (c3O l r s)).alloc (resO false)
    rw [show (W.alloc (c3O l r s)).heap.size = W.heap.size + 1 by simp] at hV0
    obtain ⟨w0, hw0⟩ : ∃ w0, w0 = (W.alloc (c3O l r s)).alloc (resO false) := ⟨_, rfl⟩
    rw [← hw0] at hV0 K0 ⊢
    clear hw0
    refine (awake6_any _).mono ?_
    rintro e w1 ⟨rfl, hb1⟩
    have V1 : Keeps [] w0 w1 := Go.Proofs.Ytphblanaicaicaa.Below.keeps hb1 []
    clear hb1
    have hV1 := V1.at hV0 (by simp)
    have K1 := K0.trans V1
    have v0 := hV1.cell 0 rfl
    have vf := hV1.free 0
    go_wp2_with fail
    refine WpAt.seq_k fun KK hKK => ?_
    go_wp2_with fail
    have cf := (hV1.set 0 (.bool true)).cell 0 rfl
    have Kf : Keeps [] W (w1.setCell ⟨W.heap.size + 1, 0, none⟩ (.bool true)) := K1.set (.inr (by simp)) _
    refine ⟨.bool true, ?_, rfl, Kf.below (Nat.le_refl _) (by simp)⟩
    simp [results, Try.results3, go_sem, cf]
  · have h2 : 30 < n := by omega
    have g1 : decide (20 < co) = false := by rw [decide_eq_false_iff_not]; omega
    have g2 : decide (20 < (co : Int)) = false := by rw [decide_eq_false_iff_not]; omega
    have g3 : decide (30 < n) = true := by rw [decide_eq_true_eq]; omega
    have g4 : decide (30 < (n : Int)) = true := by rw [decide_eq_true_eq]; omega
    refine callsAt_marks Try.func3 rfl ?_
    simp only [Try.ntmps3, List.size_toArray, List.length_cons, List.length_nil, Nat.reduceAdd, Nat.reduceSub, Array.replicate_succ, Array.replicate_zero, List.push_toArray, List.append_toArray, List.nil_append, List.cons_append]
    refine WpAt.seq_k fun KK hKK => ?_
    go_wp2_with fail
    refine WpAt.seq_k fun KK hKK => ?_
    go_wp2_with fail
    have hV0 := At.new (W.alloc (c3O l r s)) (resO false)
    have K0 := ((Keeps.refl [] W).alloc (c3O l r s)).alloc (resO false)
    rw [show (W.alloc (c3O l r s)).heap.size = W.heap.size + 1 by simp] at hV0
    obtain ⟨w0, hw0⟩ : ∃ w0, w0 = (W.alloc (c3O l r s)).alloc (resO false) := ⟨_, rfl⟩
    rw [← hw0] at hV0 K0 ⊢
    clear hw0
    refine (awake6_any _).mono ?_
    rintro e w1 ⟨rfl, hb1⟩
    have V1 : Keeps [] w0 w1 := Go.Proofs.Ytphblanaicaicaa.Below.keeps hb1 []
    clear hb1
    have hV1 := V1.at hV0 (by simp)
    have K1 := K0.trans V1
    have v0 := hV1.cell 0 rfl
    have vf := hV1.free 0
    go_wp2_with fail
    refine WpAt.seq_k fun KK hKK => ?_
    go_wp2_with fail
    have cf := (hV1.set 0 (.bool true)).cell 0 rfl
    have Kf : Keeps [] W (w1.setCell ⟨W.heap.size + 1, 0, none⟩ (.bool true)) := K1.set (.inr (by simp)) _
    refine ⟨.bool true, ?_, rfl, Kf.below (Nat.le_refl _) (by simp)⟩
    simp [results, Try.results3, go_sem, cf]

set_option maxRecDepth 100000 in
set_option maxHeartbeats 8000000 in
theorem plays6_small (l r s : Nat) (y : Option Addr) (co cq : Nat) (fo : Nat → Int) (x : Option Addr) (n cp : Nat) (f : Nat → Nat → Int) (W : World) (hl : l ≤ 65535) (hr : r ≤ 65535) (hs : s ≤ 65535) (hco : co ≤ 20) (hn : n ≤ 30) (hRO : Reads W y co fo) (hR : AReads W x n f) :
    Calls Try.prog 3 #[c3V l r s, .slice y co cq, .slice x n cp] W fun e w' => e = .returned (.bool true) ∧ Below W.heap.size W w' := by
  have g1 : decide (20 < co) = false := by rw [decide_eq_false_iff_not]; omega
  have g2 : decide (20 < (co : Int)) = false := by rw [decide_eq_false_iff_not]; omega
  have g3 : decide (30 < n) = false := by rw [decide_eq_false_iff_not]; omega
  have g4 : decide (30 < (n : Int)) = false := by rw [decide_eq_false_iff_not]; omega
  have hni : (n : Int) ≤ 30 := by omega
  have hcoi : (co : Int) ≤ 20 := by omega
  have HR := hid hR
  have HRO := hid hRO
  clear hR hRO
  refine callsAt_marks Try.func3 rfl ?_
  simp only [Try.ntmps3, List.size_toArray, List.length_cons, List.length_nil, Nat.reduceAdd, Nat.reduceSub, Array.replicate_succ, Array.replicate_zero, List.push_toArray, List.append_toArray, List.nil_append, List.cons_append]
  refine WpAt.seq_k fun KK hKK => ?_
  go_wp2_with fail
  refine WpAt.seq_k fun KK hKK => ?_
  go_wp2_with fail
  have hB0 := (At.new W (c3O l r s)).alloc (resO false)
  have hV0 := At.new (W.alloc (c3O l r s)) (resO false)
  have K0 := ((Keeps.refl [] W).alloc (c3O l r s)).alloc (resO false)
  rw [show (W.alloc (c3O l r s)).heap.size = W.heap.size + 1 by simp] at hV0
  have hs0 : ((W.alloc (c3O l r s)).alloc (resO false)).heap.size = W.heap.size + 2 := by simp
  obtain ⟨w0, hw0⟩ : ∃ w0, w0 = (W.alloc (c3O l r s)).alloc (resO false) := ⟨_, rfl⟩
  rw [← hw0] at hB0 hV0 K0 hs0 ⊢
  replace hs0 : W.heap.size + 2 ≤ w0.heap.size := by omega
  clear hw0
  refine (awake6_any _).mono ?_
  rintro e w1 ⟨rfl, hb1⟩
  have V1 : Keeps [] w0 w1 := Go.Proofs.Ytphblanaicaicaa.Below.keeps hb1 []
  clear hb1
  have c0 : w1.cell? ⟨W.heap.size, 0, none⟩ = some (.int .u16 l) := (V1.at hB0 (by simp)).cell 0 rfl
  have c1 : w1.cell? ⟨W.heap.size, 1, none⟩ = some (.int .u16 r) := (V1.at hB0 (by simp)).cell 1 rfl
  have c2 : w1.cell? ⟨W.heap.size, 2, none⟩ = some (.int .u16 s) := (V1.at hB0 (by simp)).cell 2 rfl
  go_wp2_with fail
  refine WpAt.seq_k fun KK hKK => ?_
  go_wp2_with fail
  refine WpAt.seq_k fun KK hKK => ?_
  go_wp2_with fail
  refine (make3_at w1 l r s hl hr hs).mono ?_
  rintro e w2 ⟨rfl, hk2⟩
  have V2 := V1.trans hk2
  have hok := mk3_ok l r s
  obtain ⟨c, hc⟩ : ∃ c, c = mk3 l r s := ⟨_, rfl⟩
  rw [← hc] at hok ⊢
  clear hc c0 c1 c2 hB0 hk2 V1
  go_wp2_with fail
  refine WpAt.seq_k fun KK hKK => ?_
  go_wp2_with fail
  have hC3 := At.new w2 (cfgO c)
  have V3 := V2.alloc (cfgO c)
  have hz2 := V2.size
  obtain ⟨cb, hcb⟩ : ∃ cb, cb = w2.heap.size := ⟨_, rfl⟩
  rw [← hcb] at hC3 hz2 ⊢
  have hcv : cb ≠ W.heap.size + 1 := by omega
  have HCB := hid hcb
  clear hcb V2
  refine (formatted_at _ c hok y co cq fo (HRO.out.keep (K0.trans V3) (by simp)) (by omega)).mono ?_
  rintro e w4 ⟨p, a, u, S, rfl, haN, hP, hu, hW, hkp, his, ⟨b1, b2, b3, b4, b5⟩, hk4⟩
  simp only [World.size_alloc] at b1 b2 b3 b4 b5
  rw [← HCB.out] at b1 b2 b3 b4 b5
  have hC4 := hk4.at hC3 (by simp)
  have V4 := V3.trans hk4
  have hci := c_in hok haN
  have hLI := LI.fresh (fun _ => 0) (fun _ => 0) hok haN hW hkp his
  have HN := hid haN
  have HO := hid hok
  have HLI := hid hLI
  have y1 := hP.dev.dev.lt
  have y2 := hP.dev.now.lt
  have y3 := hP.dev.kept.lt
  have y4 := hP.dev.map.lt
  have y5 := hP.pow.lt
  clear haN hok hkp his hW hC3 V3 hk4 hLI
  have c0 := hC4.cell 0 rfl
  have c1 := hC4.cell 1 rfl
  have c2 := hC4.cell 2 rfl
  go_wp2_with fail
  refine WpAt.seq_k fun KK hKK => ?_
  go_wp2_with fail
  refine WpAt.seq_k fun KK hKK => ?_
  go_wp2_with fail
  refine (behind_at w4 p a S c hP.dev HO.out HN.out).mono ?_
  rintro e w6 ⟨g, cap, rfl, hg, hgb, hRW, hk6⟩
  have hC6 := hk6.at hC4 (by simp)
  have V6 := V4.trans hk6
  have hP6 := hP.keep0 hk6
  have HRW := hid hRW
  have hz4 : w4.heap.size ≤ w6.heap.size := hk6.size
  clear c0 c1 c2 hC4 V4 hP hk6 hRW
  have c0 := hC6.cell 0 rfl
  have c1 := hC6.cell 1 rfl
  have c2 := hC6.cell 2 rfl
  go_wp2_with fail
  refine WpAt.seq_k fun KK hKK => ?_
  go_wp2_with fail
  refine (open_li hP6 HO.out HN.out HLI.out.1 (by omega)).mono ?_
  rintro e w7 ⟨lb, rfl, hlb, hL7, hk7⟩
  have hC7 := hk7.at hC6 (by simp)
  have V7 := V6.trans hk7
  have HRW7 := hid (HRW.out.keep hk7 (by simp))
  have y6 := hL7.log.lt
  clear c0 c1 c2 hC6 V6 hP6 hk7 HRW
  go_wp2_with fail
  refine WpAt.seq_k fun KK hKK => ?_
  go_wp2_with fail
  refine WpAt.seq_k fun KK hKK => ?_
  go_wp2_with fail
  refine WpAt.seq_k fun KK hKK => ?_
  go_upto_region 13 with fail
  have hC8 := (hC7.alloc (plO none 0 0)).alloc (wlO none 0 0)
  have hV8 := ((V7.alloc (plO none 0 0)).alloc (wlO none 0 0)).at hV0 (by simp)
  have hI8 := (At.new w7 (plO none 0 0)).alloc (wlO none 0 0)
  have hJ8 := At.new (w7.alloc (plO none 0 0)) (wlO none 0 0)
  rw [show (w7.alloc (plO none 0 0)).heap.size = w7.heap.size + 1 by simp] at hJ8
  have K8 := K0.trans ((V7.alloc (plO none 0 0)).alloc (wlO none 0 0))
  have hL8 := hL7.keep0 (((Keeps.refl [] w7).alloc (plO none 0 0)).alloc (wlO none 0 0))
  have HRW8 := hid (HRW7.out.keep (((Keeps.refl [] w7).alloc (plO none 0 0)).alloc (wlO none 0 0)) (by simp))
  have hs8 : ((w7.alloc (plO none 0 0)).alloc (wlO none 0 0)).heap.size = w7.heap.size + 2 := by simp
  obtain ⟨pb, hpb⟩ : ∃ pb, pb = w7.heap.size := ⟨_, rfl⟩
  obtain ⟨w8, hw8⟩ : ∃ w8, w8 = (w7.alloc (plO none 0 0)).alloc (wlO none 0 0) := ⟨_, rfl⟩
  rw [← hw8] at hC8 hV8 hI8 hJ8 K8 hL8 HRW8 hs8 ⊢
  rw [← hpb] at hI8 hJ8 hs8 y6 ⊢
  replace hs8 : pb + 2 ≤ w8.heap.size := by omega
  clear hw8 hpb hC7 hV0 K0 V7 hL7 HRW7
  have hcT : cb ∉ [p, a.s, a.k, a.m] := by simp; omega
  have hcT2 : cb ∉ [p, a.s, a.k, a.m, lb] := by simp; omega
  have hpT2 : pb ∉ [p, a.s, a.k, a.m, lb] := by simp; omega
  have hwT2 : pb + 1 ∉ [p, a.s, a.k, a.m, lb] := by simp; omega
  have hcT3 : cb ∉ [p, a.s, a.k, a.m, lb, pb, pb + 1] := by simp; omega
  have hvT3 : W.heap.size + 1 ∉ [p, a.s, a.k, a.m, lb, pb, pb + 1] := by simp; omega
  have hgT3 : g ∉ [p, a.s, a.k, a.m, lb, pb, pb + 1] := by simp; omega
  have hWT : ∀ b ∈ [p, a.s, a.k, a.m, lb, pb, pb + 1], b ∈ ([] : List Nat) ∨ W.heap.size ≤ b := by simp; omega
  have hlt8 : ∀ b ∈ [p, a.s, a.k, a.m, lb, pb, pb + 1], b < w8.heap.size := by simp; omega
  obtain ⟨B, hB⟩ : ∃ B, B = w8.heap.size := ⟨_, rfl⟩
  have HB := hid hB
  clear hB
  go_wp2_with fail
  go_loopg [52] n (fun r s wr => ∃ k : Nat, k + r = n ∧ s = .int .i64 k ∧ PInv p a lb c S.now pb B k wr ∧ Keeps [p, a.s, a.k, a.m, lb, pb, pb + 1] w8 wr)
  case atStart => exact ⟨0, by omega, rfl, ⟨false, u, S, 0, _, _, none, 0, none, 0, hL8, HLI.out, Nat.le_refl _, by omega, hI8, hJ8, ownI_nil _ _ _, ownU_nil _ _ _⟩, Keeps.refl _ _⟩
  case round =>
    obtain ⟨k, hk, rfl, ⟨st, u', S', m, pl, wd, xi, ci, xw, cw, hLk, hIk, hmk, huk, hPk, hQk, hOI, hOU⟩, hK⟩ := hrel
    have HI := hid hIk
    have HOI := hid hOI
    have HOU := hid hOU
    clear hIk hOI hOU
    have hCk := hK.at hC8 hcT3
    have KW : Keeps [] W wr := K8.new hK hWT
    by_cases hlt : k < n
    · obtain ⟨b, off, rfl, hbl, hcl⟩ : ∃ b off, x = some ⟨b, off, none⟩ ∧ b < W.heap.size ∧ ∀ i, i < n → W.cell? ⟨b, off + i * 2, none⟩ = some (.int .u16 (f i 0)) ∧ W.cell? ⟨b, off + i * 2 + 1, none⟩ = some (.int .u64 (f i 1)) ∧ 0 ≤ f i 0 ∧ f i 0 ≤ 65535 := by
        rcases HR.out with h | h
        · omega
        · exact h
      obtain ⟨q0, q1, q2, q3⟩ := hcl k hlt
      have d0 := (KW.cell (p := ⟨b, off + k * 2, none⟩) hbl (by simp)).trans q0
      have d1 := (KW.cell (p := ⟨b, off + k * 2 + 1, none⟩) hbl (by simp)).trans q1
      obtain ⟨z, hz⟩ : ∃ z : Nat, (z : Int) = f k 0 := ⟨(f k 0).toNat, by omega⟩
      have hzb : z ≤ 65535 := by omega
      obtain ⟨v, hv⟩ : ∃ v, v = f k 1 := ⟨_, rfl⟩
      rw [← hz] at d0
      rw [← hv] at d1
      have hpi := plc_in HO.out z
      have c0 := (hCk.alloc (aO z v)).cell 0 rfl
      have c1 := (hCk.alloc (aO z v)).cell 1 rfl
      have c2 := (hCk.alloc (aO z v)).cell 2 rfl
      clear hcl q0 q1 q2 q3 hz hv KW
      go_wp2_with fail
      have KA : Keeps [] wr (wr.alloc (aO z v)) := (Keeps.refl [] wr).alloc (aO z v)
      have hA6 := At.new wr (aO z v)
      have hC6 := hCk.alloc (aO z v)
      have hP6 := hPk.alloc (aO z v)
      have hQ6 := hQk.alloc (aO z v)
      have hL6 := hLk.keep0 KA
      have K6 : Keeps [p, a.s, a.k, a.m, lb, pb, pb + 1] w8 (wr.alloc (aO z v)) := hK.alloc _
      have hz6 := hK.size
      have hab1 : wr.heap.size ∉ [p, a.s, a.k, a.m, lb, pb, pb + 1] := fun h => by have := hlt8 _ h; omega
      have habI : wr.heap.size ∉ blkL xi := fun h => by have := (HOI.out.ge _ h).2; omega
      have habU : wr.heap.size ∉ blkL xw := fun h => by have := (HOU.out.ge _ h).2; omega
      have hOI6 := hid (HOI.out.keep KA (by simp))
      have hOU6 := hid (HOU.out.keep KA (by simp))
      obtain ⟨ab, hab⟩ : ∃ ab, ab = wr.heap.size := ⟨_, rfl⟩
      obtain ⟨w6, hw6⟩ : ∃ w6, w6 = wr.alloc (aO z v) := ⟨_, rfl⟩
      rw [← hw6] at hA6 hC6 hP6 hQ6 hL6 K6 hOI6 hOU6 ⊢
      rw [← hab] at hA6 hab1 habI habU hz6 ⊢
      clear hw6 hab c0 c1 c2 d0 d1 hLk hCk hPk hQk hK KA HOI HOU
      refine (aplace_at _ z v c HO.out hzb).mono ?_
      rintro e w7 ⟨rfl, hk7⟩
      obtain ⟨i, hi⟩ : ∃ i, i = plc c z := ⟨_, rfl⟩
      rw [← hi] at hpi ⊢
      have hin : i < a.n := by rw [← HN.out]; exact hpi.2
      have hA7 := hk7.at hA6 (by simp)
      have hC7 := hk7.at hC6 (by simp)
      have hP7 := hk7.at hP6 (by simp)
      have hQ7 := hk7.at hQ6 (by simp)
      have hL7 := hL6.keep0 hk7
      have K7 := K6.trans (hk7.mono (by simp))
      have hOI7 := hid (hOI6.out.keep hk7 (by simp))
      have hOU7 := hid (hOU6.out.keep hk7 (by simp))
      have HI' := hid hi
      have hmi : (m : Int) ≤ 30 := by omega
      have hli : (c.log : Int) ≤ 200 := by omega
      clear hi hA6 hC6 hP6 hQ6 hL6 K6 hk7 hOI6 hOU6
      go_wp2_with fail
      by_cases hm : m < c.log
      · refine (append_li hL7 HO.out HN.out HI.out.1 (by omega) hm i hin (by omega)).mono ?_
        intro e w9 hr9
        obtain ⟨rfl, hL9, hk9⟩ := hr9.free hL7.pw.lo
        have hlen := appL_len (st := st) (m := m) HO.out (eN 1 0) i (S'.now i)
        have hab2 : ab ∉ [p, a.s, a.k, a.m, lb] := by simp at hab1 ⊢; omega
        have hBT : ∀ b, B ≤ b → b ∉ [p, a.s, a.k, a.m, lb] := fun b hb h => by
          have := hlt8 b (by simp at h ⊢; omega)
          have := HB.out
          omega
        have hA9 := hk9.at hA7 hab2
        have hC9 := hk9.at hC7 hcT2
        have hP9 := hk9.at hP7 hpT2
        have hQ9 := hk9.at hQ7 hwT2
        have hOI9 := hid (hOI7.out.keep hk9 fun b hb => hBT b (hOI7.out.ge b hb).1)
        have hOU9 := hid (hOU7.out.keep hk9 fun b hb => hBT b (hOU7.out.ge b hb).1)
        have K9 : Keeps [p, a.s, a.k, a.m, lb, pb, pb + 1] w8 w9 := K7.trans (hk9.mono (by intro k _ hk; simp at hk ⊢; omega))
        have hlo := hL9.pw.lo
        have hnow : (execs S' (appL c st false m (eN 1 0) i (S'.now i))).now i = S'.now i := by
          have := hci.2.2.1
          exact (app_pre (by omega) (by omega) (by omega)).2
        have hI9 := hid (show LI c a.n 1 0 (m + 1) (put pl m i) (put wd m (S'.now i)) S.now (execs S' (appL c st false m (eN 1 0) i (S'.now i))) from
          ⟨app_done HI.out.1 hm i _ ⟨hpi.1, hin⟩, HI.out.2.grow (fun j _ _ => (app_pre (by omega) (by omega) (by omega)).1) i ⟨hpi.1, hin⟩⟩)
        obtain ⟨u9, hu9⟩ : ∃ u9, u9 = u' + ((appL c st false m (eN 1 0) i (S'.now i)).length : Int) := ⟨_, rfl⟩
        obtain ⟨T, hTe⟩ : ∃ T, T = execs S' (appL c st false m (eN 1 0) i (S'.now i)) := ⟨_, rfl⟩
        obtain ⟨t, ht⟩ : ∃ t, t = S'.now i := ⟨_, rfl⟩
        rw [← hu9] at hL9 hlo
        rw [← hTe] at hL9 hI9 hnow
        rw [← ht] at hI9 hnow
        have hu9b : u9 ≤ 110000 + 120 * (k : Int) + 110 := by omega
        have p0 := hP9.cell 0 rfl
        have c0 := hC9.cell 0 rfl
        have t1 : ((m : Int) == (c.log : Int)) = false := by rw [beq_eq_false_iff_ne]; omega
        have t2 : (m == c.log) = false := by rw [beq_eq_false_iff_ne]; omega
        clear hr9 hk9 hA7 hC7 hP7 hQ7 hL7 K7 hOI7 hOU7 hu9 hTe ht hlen hm
        go_upto_region 23 with fail
        have hpB : pb + 1 < B := by rw [HB.out]; omega
        have hnI : ∀ b, b < B → b ∉ blkL xi := fun b hb h => by have := (hOI9.out.ge b h).1; omega
        have hnU : ∀ b, b < B → b ∉ blkL xw := fun b hb h => by have := (hOU9.out.ge b h).1; omega
        have hap := own_apart hOI9.out hOU9.out
        have hB9 : B ≤ w9.heap.size := by rw [HB.out]; exact K9.size
        obtain ⟨R, hR⟩ : ∃ R, R = blkL xi ++ blkL xw := ⟨_, rfl⟩
        have hpR : pb ∉ R := by rw [hR, List.mem_append]; exact fun h => h.elim (hnI pb (by omega)) (hnU pb (by omega))
        have hwR : pb + 1 ∉ R := by rw [hR, List.mem_append]; exact fun h => h.elim (hnI _ hpB) (hnU _ hpB)
        have hRI : ∀ b, b ∈ blkL xi → b ∈ R := fun b h => by rw [hR]; exact List.mem_append_left _ h
        have hRU : ∀ b, b ∈ blkL xw → b ∈ R := fun b h => by rw [hR]; exact List.mem_append_right _ h
        have hRB : ∀ b ∈ R, B ≤ b := fun b h => by
          rw [hR, List.mem_append] at h
          exact h.elim (fun h => (hOI9.out.ge b h).1) (fun h => (hOU9.out.ge b h).1)
        have R0 : Keeps R w9 w9.drew := ((Keeps.refl [] w9).drew).mono (by simp)
        have R1 : Keeps R w9 (w9.drew.alloc (.cells #[.int .i64 (i : Nat)] 3)) := R0.alloc _
        have k1 : Keeps [] w9 (w9.drew.alloc (.cells #[.int .i64 (i : Nat)] 3)) := ((Keeps.refl [] w9).drew).alloc _
        have HF : Hid (∀ w', Keeps R w9 w' → (w'.cell? ⟨pb, 0, none⟩ = some (.slice xi m ci) ∧ w'.cell? ⟨pb + 1, 0, none⟩ = some (.slice xw m cw))) :=
          fun w' hk => ⟨(hk.at hP9 hpR).cell 0 rfl, (hk.at hQ9 hwR).cell 0 rfl⟩
        obtain ⟨e1, e2⟩ := HF.out _ R0
        obtain ⟨e3, e4⟩ := HF.out _ R1
        obtain ⟨e9, e10⟩ := HF.out _ (Keeps.refl R w9)
        obtain ⟨e11, e12⟩ := HF.out _ ((Keeps.refl R w9).alloc (.cells #[.int .i64 (i : Nat)] 3))
        have HOa := hid (hOI9.out.keep k1 (by simp))
        have HOu := hid (hOU9.out.keep k1 (by simp))
        have hcI := (At.new w9.drew (.cells #[.int .i64 (i : Nat)] 3)).cell 0 rfl
        have HLD : Hid (∀ w', Keeps R w9 w' → Calls Try.prog 11 #[ptr a.d, .int .i64 i] w' fun e w'' => e = .returned (.int .u64 t) ∧ w' = w'') := fun w' hk => by
          rw [← hnow]
          exact load_in w' p a T i ((hL9.pw.keep hk (fun h => by have := hRB _ h; omega) (fun h => by have := hRB _ h; omega) (fun h => by have := hRB _ h; omega) (fun h => by have := hRB _ h; omega) (fun h => by have := hRB _ h; omega)).dev) hin
        have HHR := hid hR
        have HAP := hid hap
        have hm1 : m ≤ 1000 := by omega
        have hB1 : B ≤ (w9.drew.alloc (.cells #[.int .i64 (i : Nat)] 3)).heap.size := Nat.le_trans hB9 R1.size
        clear hR hap hnI hnU
        have HT1 : Hid (∀ w', Keeps (blkL xi) (w9.drew.alloc (.cells #[.int .i64 (i : Nat)] 3)) w' → Keeps R w9 w') := fun w' h => R1.trans (h.mono fun k _ hk => hRI k hk)
        go_cut [] from 71 to 80 (fun wx => PlW pb B (m + 1) (put pl m i) (put wd m t) R w9 wx)
        case first =>
          refine wp_region_noPanic ?_
          go_region_law (first
            | (refine appI_step rfl _ _ rfl B xi ci m pl rfl HOa.out _ _ i rfl hcI hm1 hB1 ?_; intro g1 cap1 w10 hO1 hk10 hg1; have R10 := HT1.out _ hk10; have R10a := R10.alloc (.cells #[.int .u64 t] 38); have HF10 := HF.out _ R10; have HF11 := HF.out _ R10a; obtain ⟨e5, e6⟩ := HF10; obtain ⟨e7, e8⟩ := HF11; have HOb := hid ((HOu.out.keep hk10 HAP.out).keep ((Keeps.refl [] w10).alloc (.cells #[.int .u64 t] 38)) (by simp)); have hcU := (At.new w10 (.cells #[.int .u64 t] 38)).cell 0 rfl; have hB2 := Nat.le_trans hB9 R10a.size; have HO1 := hid (hO1.keep ((Keeps.refl [] w10).alloc (.cells #[.int .u64 t] 38)) (by simp)); clear hO1 hg1)
            | (refine appU_step rfl _ _ rfl B xw cw m wd rfl HOb.out _ _ t rfl hcU hm1 hB2 ?_; intro g2 cap2 w11 hO2 hk11 hg2; have R11 := R10a.trans (hk11.mono fun k _ hk => hRU k hk); have hP11 := R11.at hP9 hpR; have hQ11 := R11.at hQ9 hwR; have p11 := hP11.cell 0 rfl; have f11 := hP11.free 0; have hQ12 := hQ11.set_ne (a := ⟨pb, 0, none⟩) (show pb + 1 ≠ pb by omega) (.slice (some ⟨g1, 0, none⟩) (m + 1) cap1); have q12 := hQ12.cell 0 rfl; have f12 := hQ12.free 0; have HO2 := hid hO2; clear hO2 hg2)
            | (go_simp; go_at_call 11; refine (HLD.out _ R10).mono ?_; rintro e w' ⟨rfl, rfl⟩))
          all_goals
            refine NoPanic.normal ?_
            go_wp2_with fail
            go_meet
            exact plw_end hP11 hQ11 HO1.out HO2.out hk11 HOb.out R11 hpB
        case rest =>
          obtain ⟨xi2, ci2, xw2, cw2, hPt, hQt, hOIt, hOUt, hkt⟩ := hcut
          have hnt : ∀ b, b < B → b ≠ pb → b ≠ pb + 1 → b ∉ pb :: (pb + 1) :: R := fun b h1 h2 h3 h4 => by
            simp only [List.mem_cons] at h4
            rcases h4 with h4 | h4 | h4
            · exact h2 h4
            · exact h3 h4
            · have := hRB b h4; omega
          have hBe := HB.out
          have hLt : LW wc p a (-1) u9 T lb c (m + 1) true := hL9.keep hkt (hnt _ (by omega) (by omega) (by omega)) (hnt _ (by omega) (by omega) (by omega)) (hnt _ (by omega) (by omega) (by omega)) (hnt _ (by omega) (by omega) (by omega)) (hnt _ (by omega) (by omega) (by omega)) (hnt _ (by omega) (by omega) (by omega))
          have hAt := hkt.at hA9 (by
            rw [HHR.out]
            simp only [List.mem_cons, List.mem_append, not_or]
            simp at hab1
            exact ⟨by omega, by omega, habI, habU⟩)
          have Kt : Keeps [p, a.s, a.k, a.m, lb, pb, pb + 1] w8 wc := K9.new hkt (fun b hb => by
            simp only [List.mem_cons] at hb
            rcases hb with hb | hb | hb
            · left; simp [hb]
            · left; simp [hb]
            · right; rw [← hBe]; exact hRB b hb)
          have HOIt := hid hOIt
          have HOUt := hid hOUt
          have d1 := hAt.cell 1 rfl
          clear e1 e2 e3 e4 e9 e10 e11 e12 HF HOa HOu hcI HLD HHR HAP HT1 R0 R1 k1 hkt hnt hL9 hA9 hC9 hP9 hQ9 hOI9 hOU9 K9 hOIt hOUt p0 c0
          go_wp2_with fail
          refine (store_ran wc p a (-1) u9 T i v hLt.pw hin (by omega)).mono ?_
          intro e w12 hr12
          obtain ⟨rfl, hP12, hk12⟩ := hr12.free hlo
          have hL12 := hLt.next hP12 hk12
          have hBT4 : ∀ b, B ≤ b → b ∉ [p, a.s, a.k, a.m] := fun b hb h => hBT b hb (by simp at h ⊢; omega)
          have hpl := hk12.at hPt (by simp at hpT2 ⊢; omega)
          have hwl := hk12.at hQt (by simp at hwT2 ⊢; omega)
          have HOI12 := hid (HOIt.out.keep hk12 fun b hb => hBT4 b (HOIt.out.ge b hb).1)
          have HOU12 := hid (HOUt.out.keep hk12 fun b hb => hBT4 b (HOUt.out.ge b hb).1)
          have HI12 := hid (LI.store (v := v) hI9.out (k := m) (by omega) (put_on pl m i))
          have K12 := Kt.trans (hk12.mono (by intro k _ hk; simp at hk ⊢; omega))
          clear d1
          go_wp2_with fail
          go_roundg (n - (k + 1))
          case measure => omega
          case rel => exact ⟨k + 1, by omega, by go_num, ⟨true, _, _, m + 1, _, _, xi2, ci2, xw2, cw2, hL12, HI12.out, by omega, by simp; omega, hpl, hwl, HOI12.out, HOU12.out⟩, K12⟩
      · have hmc : m = c.log := by have := HI.out.1.le; omega
        refine (append_full hL7 i hin hmc).mono ?_
        rintro e w9 ⟨rfl, hk9⟩
        have hL9 := hL7.keep0 hk9
        have hP9 := hk9.at hP7 (by simp)
        have hQ9 := hk9.at hQ7 (by simp)
        have hC9 := hk9.at hC7 (by simp)
        have HOI9 := hid (hOI7.out.keep hk9 (by simp))
        have HOU9 := hid (hOU7.out.keep hk9 (by simp))
        have K9 := K7.trans (hk9.mono (by simp))
        have p0 := hP9.cell 0 rfl
        have c0 := hC9.cell 0 rfl
        have t1 : ((m : Int) == (c.log : Int)) = true := by rw [beq_iff_eq]; omega
        have t2 : (m == c.log) = true := by rw [beq_iff_eq]; omega
        have HMC := hid hmc
        clear hmc hm
        go_wp2_with fail
        go_roundg (n - (k + 1))
        case measure => omega
        case rel => exact ⟨k + 1, by omega, by go_num, ⟨st, u', S', m, pl, wd, xi, ci, xw, cw, hL9, HI.out, by omega, by omega, hP9, hQ9, HOI9.out, HOU9.out⟩, K9⟩
    · have hkn : k = n := by omega
      subst hkn
      have hVk := hK.at hV8 hvT3
      have KW9 := KW
      have HGk := hid (HRW8.out.keep hK (by rintro b off h; cases h; exact hgT3))
      have p0 := hPk.cell 0 rfl
      have hmi : (m : Int) ≤ 30 := by omega
      have HS : Hid (∀ w', Keeps [] wr w' → w'.cell? ⟨pb, 0, none⟩ = some (.slice xi m ci)) := fun w' hk => (hk.at hPk (by simp)).cell 0 rfl
      have HLN := hid (fun (w' : World) (hk : Keeps [] wr w') => len6_at (hLk.keep0 hk))
      have HGD : Hid (∀ w', Keeps [] wr w' → Calls Try.prog 14 #[ptr lb] w' fun e w'' => e = .returned (.int .i64 (-1)) ∧ Keeps [] w' w'') := fun w' hk =>
        (good_at (hLk.keep0 hk) HO.out.small HI.out.1.le hci.1).mono fun e w'' ⟨rb, h1, h2, h3⟩ => by
          obtain rfl := HI.out.1.good_ans (by omega) h3
          exact ⟨h1, h2⟩
      have HAN := hid (fun (w' : World) (i : Int) (hk : Keeps [] wr w') (hi : i < 0 ∨ (a.n : Int) ≤ i) => append_no (hLk.keep0 hk) i hi)
      have HDL := hid (fun (w' : World) (hk : Keeps [] wr w') => len_at w' p a S' (hLk.keep0 hk).pw.dev)
      have kk : Keeps [] wr wr.drew := (Keeps.refl _ _).drew
      have hz8 : w8.heap.size ≤ wr.heap.size := hK.size
      clear hk hlt
      go_wp2_with fail
      refine WpAt.seq_k fun KK2 hKK2 => ?_
      go_upto_region 26 with fail
      go_region_held3 (fun w' => w'.cell? ⟨pb, 0, none⟩ = some (.slice xi m ci))
        (exact HS.out _ kk)
        (first
          | (go_at_call 13; refine (HLN.out _ kk).mono ?_; rintro e w' ⟨rfl, rfl⟩)
          | (go_at_call 14; refine (HGD.out _ kk).mono ?_; rintro e w' ⟨rfl, hk1⟩; have kk := kk.trans hk1; clear hk1)
          | (go_at_call 15; refine (HDL.out _ kk).mono ?_; rintro e w' ⟨rfl, rfl⟩)
          | (go_at_call 10; refine (HAN.out _ _ kk (by omega)).mono ?_; rintro e w' ⟨rfl, rfl⟩))
      have hz9 := kk.size
      have hL26 := hLk.keep0 kk
      have hP26 := kk.at hPk (by simp)
      have hQ26 := kk.at hQk (by simp)
      have hC26 := kk.at hCk (by simp)
      have hV26 := kk.at hVk (by simp)
      have HOI26 := hid (HOI.out.keep kk (by simp))
      have HOU26 := hid (HOU.out.keep kk (by simp))
      have HG26 := hid (HGk.out.keep kk (by simp))
      have K26 := KW9.trans kk
      obtain ⟨w26, hw26⟩ : ∃ w', w' = w' := ⟨wr, rfl⟩
      clear hw26 w26 HS HLN HGD HAN HDL hLk hPk hQk hCk hVk HOI HOU HGk KW KW9 hK p0
      have p0 := hP26.cell 0 rfl
      go_wp2_with fail
      refine WpAt.seq_k fun KK3 hKK3 => ?_
      go_wp2_with fail
      refine WpAt.seq ?_
      refine WpAt.seq_k fun KK4 hKK4 => ?_
      go_wp2_with fail
      refine (records_at _ lb).mono ?_
      rintro e w3 ⟨rfl, rfl⟩
      go_wp2_with fail
      have l1 := hL26.pw.pow.lt
      have l2 := hL26.pw.dev.dev.lt
      have l3 := hL26.pw.dev.now.lt
      have l4 := hL26.pw.dev.kept.lt
      have l5 := hL26.pw.dev.map.lt
      have l6 := hL26.log.lt
      have l7 := hP26.lt
      have l8 := hQ26.lt
      have l9 := hC26.lt
      have l10 := hV26.lt
      have lI := hid fun b hb => (HOI26.out.ge b hb).2
      have lU := hid fun b hb => (HOU26.out.ge b hb).2
      have lg : g < w'.heap.size := Nat.lt_of_lt_of_le (show g < w8.heap.size by omega) (by omega)
      have KA : Keeps [] w' ((w'.alloc (kO m)).alloc (boxO lb)) := ((Keeps.refl [] w').alloc (kO m)).alloc (boxO lb)
      have hL27 := hL26.keep0 KA
      have hP27 := KA.at hP26 (by simp)
      have hQ27 := KA.at hQ26 (by simp)
      have hC27 := KA.at hC26 (by simp)
      have hV27 := KA.at hV26 (by simp)
      have hk27 := (At.new w' (kO m)).alloc (boxO lb)
      have hX27 := At.new (w'.alloc (kO m)) (boxO lb)
      rw [show (w'.alloc (kO m)).heap.size = w'.heap.size + 1 by simp] at hX27
      have HOI27 := hid (HOI26.out.keep KA (by simp))
      have HOU27 := hid (HOU26.out.keep KA (by simp))
      have HG27 := hid (HG26.out.keep KA (by simp))
      have K27 := K26.trans KA
      have K26z := hid K26.size
      have hs27 : ((w'.alloc (kO m)).alloc (boxO lb)).heap.size = w'.heap.size + 2 := by simp
      obtain ⟨kb, hkb⟩ : ∃ kb, kb = w'.heap.size := ⟨_, rfl⟩
      obtain ⟨w3, hw3⟩ : ∃ w3, w3 = (w'.alloc (kO m)).alloc (boxO lb) := ⟨_, rfl⟩
      rw [← hw3] at hL27 hP27 hQ27 hC27 hV27 hk27 hX27 HOI27 HOU27 HG27 K27 hs27 ⊢
      rw [← hkb] at K26z hk27 hX27 hs27 l1 l2 l3 l4 l5 l6 l7 l8 l9 l10 lI lU lg ⊢
      have hs28 : kb + 2 ≤ w3.heap.size := by omega
      clear hw3 hkb hs27 KA hL26 hP26 hQ26 hC26 hV26 HOI26 HOU26 HG26 K26 p0
      refine WpAt.block ?_
      refine WpAt.range (gf := 34) (lb := #[ptr (kb + 1)]) rfl (enters_of Try.func34 (by kernel_rfl) rfl) ?_
      refine' (recs_core _ w3 _ _ _ _ (kb + 1) lb m (fun i => (pl i : Int)) wd
        (fun j W => (LW W p a (-1) u' S' lb c m st ∧ At W (kb + 1) (boxO lb)) ∧ (At W kb (kO ((m : Int) - j)) ∧ At W pb (plO xi m ci) ∧ At W (pb + 1) (wlO xw m cw)) ∧ (OwnI W B xi ci m pl ∧ OwnU W B xw cw m wd) ∧ Keeps [kb] w3 W ∧ j ≤ m)
        (fun _ => False) [kb] _ ?sub rfl (.inr fun _ h => h) ?box ?log (by omega) ?keep ?assign ?body ?start).mono ?after
      case assign =>
        intro l i W K hK
        have hsem := @Oper.semAt_some
        gi_wp2
        exact hK
      case sub => intro b hb; simp at hb; omega
      case box => exact fun k W h => h.1.2
      case log =>
        rintro j W ⟨⟨hL, _⟩, _⟩
        refine ⟨p, a, -1, u', S', c, st, hL, fun i hi => ?_, by have := HI.out.1.le; omega⟩
        obtain ⟨_, a2, a3, a4, a5⟩ := HI.out.1.recs i hi
        have e2 := a2.1
        have e3 := a3.1
        rw [show 16 + 4 * i + 1 = 17 + 4 * i by omega] at e2
        rw [show 16 + 4 * i + 2 = 18 + 4 * i by omega] at e3
        rw [e2, e3]
        exact ⟨asInt_of _ (by omega), rfl⟩
      case keep =>
        rintro j W W' T' ⟨⟨hL, hX⟩, ⟨h1, h2, h3⟩, ⟨h4, h5⟩, hk, hj⟩ hk' hT'
        have nT : ∀ b, b < w3.heap.size → b ∉ T' := fun b hb hm => by have := hT' b hm; omega
        exact ⟨⟨hL.keep hk' (nT _ (by omega)) (nT _ (by omega)) (nT _ (by omega)) (nT _ (by omega)) (nT _ (by omega)) (nT _ (by omega)), hk'.at hX (nT _ (by omega))⟩, ⟨hk'.at h1 (nT _ (by omega)), hk'.at h2 (nT _ (by omega)), hk'.at h3 (nT _ (by omega))⟩,
          ⟨h4.keep hk' fun b hb => nT b (by have := lI.out b hb; omega), h5.keep hk' fun b hb => nT b (by have := lU.out b hb; omega)⟩, hk.new hk' fun b hb => .inr (hT' b hb), hj⟩
      case start => exact ⟨⟨hL27, hX27⟩, ⟨by simpa using hk27, hP27, hQ27⟩, ⟨HOI27.out, HOU27.out⟩, Keeps.refl _ _, Nat.zero_le _⟩
      case body =>
        rintro l' j i W hj hi ⟨⟨hL, hX⟩, ⟨h1, h2, h3⟩, ⟨h4, h5⟩, hk, hjm⟩
        have him : i < m := by omega
        obtain ⟨z, hz⟩ : ∃ z : Int, z = (m : Int) - j := ⟨_, rfl⟩
        have e2 : z - 1 = (i : Int) := by omega
        have e1 : IntKind.i64.wrap (z - 1) = (i : Int) := by rw [e2]; exact IntWalk.i64_in _ (by omega)
        have hzb : 1 ≤ z ∧ z ≤ 30 := by omega
        rw [← hz] at h1
        have HZ := hid (And.intro hz (And.intro hj (And.intro hi hjm)))
        rcases h4.form with ⟨_, h0⟩ | ⟨g1, cur1, hx1, hg1, hr1, hc1⟩
        · omega
        rcases h5.form with ⟨_, h0⟩ | ⟨g2, cur2, hx2, hg2, hr2, hc2⟩
        · omega
        have lI1 := lI.out g1 (by rw [hx1]; simp [blkL])
        have lU1 := lU.out g2 (by rw [hx2]; simp [blkL])
        have HX1 := hid hx1
        have HX2 := hid hx2
        rw [hx1] at h2
        rw [hx2] at h3
        have H45 := hid (And.intro h4 h5)
        have k0 := h1.cell 0 rfl
        have f0 := h1.free 0
        have k1 := (h1.set 0 (.int .i64 (i : Nat))).cell 0 rfl
        have p1 := (h2.set_ne (a := ⟨kb, 0, none⟩) (by show pb ≠ kb; omega) (.int .i64 (i : Nat))).cell 0 rfl
        have q1 := (h3.set_ne (a := ⟨kb, 0, none⟩) (by show pb + 1 ≠ kb; omega) (.int .i64 (i : Nat))).cell 0 rfl
        have r1 := (hr1.set_ne (a := ⟨kb, 0, none⟩) (by show g1 ≠ kb; omega) (.int .i64 (i : Nat))).cell i (hc1 i him)
        have r2 := (hr2.set_ne (a := ⟨kb, 0, none⟩) (by show g2 ≠ kb; omega) (.int .i64 (i : Nat))).cell i (hc2 i him)
        have t1 : decide ((i : Int) < 0) = false := by rw [decide_eq_false_iff_not]; omega
        have b1 : (i : Int) < (m : Int) := by omega
        have b2 : (0 : Int) ≤ (i : Int) := by omega
        clear hz hj hi hjm hx1 hx2 h4 h5 e2
        have hsem := @Oper.semAt_some
        gi_wp2_with fail
        have ks : Keeps [kb] W (W.setCell ⟨kb, 0, none⟩ (.int .i64 (i : Nat))) := (Keeps.refl _ _).set (.inl (by simp)) _
        have nk : ∀ b, b < kb → b ∉ [kb] := fun b hb => by simp; omega
        have hz2 := HZ.out
        refine ⟨⟨⟨hL.keep ks (nk _ l1) (nk _ l2) (nk _ l3) (nk _ l4) (nk _ l5) (nk _ l6), ks.at hX (by simp)⟩, ⟨?_, ?_, ?_⟩, ⟨H45.out.1.keep ks fun b hb => nk b (lI.out b hb), H45.out.2.keep ks fun b hb => nk b (lU.out b hb)⟩, hk.trans ks, by omega⟩, ks⟩
        · have e3 : (m : Int) - ((j : Int) + 1) = (i : Int) := by omega
          rw [e3]
          exact h1.set 0 _
        · rw [HX1.out]; exact ks.at h2 (nk _ l7)
        · rw [HX2.out]; exact ks.at h3 (nk _ l8)
      case after =>
        intro e wz hr
        cases e with
        | outgrown => exact hr.elim
        | panicked ch => obtain ⟨_, h, _⟩ := hr; exact h.elim
        | returned v =>
          obtain ⟨w4, hend, ⟨⟨hL, hX⟩, ⟨h1, h2, h3⟩, ⟨h4, h5⟩, hk, _⟩, hD⟩ := hr
          refine ⟨w4, hend, .inl rfl, ?_⟩
          have nk : ∀ b, b < kb → b ∉ [kb] := fun b hb => by simp; omega
          have hC4 := hk.at hC27 (nk _ l9)
          have hV4 := hk.at hV27 (nk _ l10)
          have HG4 := hid (HG27.out.keep hk (by rintro b off h; cases h; exact nk _ lg))
          have K4 : Keeps [] W w4 := K27.new hk (by have := K26z.out; simp; omega)
          have hz4 := hk.size
          rw [show (m : Int) - (m : Int) = 0 by omega] at h1
          obtain ⟨db, hdb⟩ : ∃ db, db = w3.heap.size := ⟨_, rfl⟩
          rw [← hdb] at hD hs28 hz4 ⊢
          have hdv : db ≠ W.heap.size + 1 := by omega
          have HDB := hid (show W.heap.size ≤ db by omega)
          clear hdb h4 h5 hk hend
          refine WpAt.of_wp ?_
          have c0 := hC4.cell 0 rfl
          have c1 := hC4.cell 1 rfl
          have c2 := hC4.cell 2 rfl
          go_wp2_with fail
          refine (open_li hL.pw HO.out HN.out HI.out.1 (by omega)).mono ?_
          rintro e w5 ⟨lb2, rfl, hlb2, hM5, hk5⟩
          have hL5 := hL.keep0 hk5
          have hC5 := hk5.at hC4 (by simp)
          have hV5 := hk5.at hV4 (by simp)
          have hk15 := hk5.at h1 (by simp)
          have hP5 := hk5.at h2 (by simp)
          have HG5 := hid (HG4.out.keep hk5 (by simp))
          have hD5 : At w5 db (.deferred (some [])) := hk5.at hD (by simp)
          have K5 := K4.trans hk5
          clear c0 c1 c2 hC4 hV4 h1 h2 h3 HG4 hD K4 hk5 hX hL
          have HS : Hid (∀ w', Keeps [] w5 w' → (w'.cell? ⟨kb, 0, none⟩ = some (.int .i64 0) ∧ w'.cell? ⟨pb, 0, none⟩ = some (.slice xi m ci))) := fun w' hk => ⟨(hk.at hk15 (by simp)).cell 0 rfl, (hk.at hP5 (by simp)).cell 0 rfl⟩
          have HLN := hid (fun (w' : World) (hk : Keeps [] w5 w') => len6_at (hM5.keep0 hk))
          have kk : Keeps [] w5 w5.drew := (Keeps.refl _ _).drew
          go_upto_region 36 with fail
          go_region_held3 (fun w' => w'.cell? ⟨kb, 0, none⟩ = some (.int .i64 0) ∧ w'.cell? ⟨pb, 0, none⟩ = some (.slice xi m ci))
            (exact HS.out _ kk)
            (first | (go_at_call 13; refine (HLN.out _ kk).mono ?_; rintro e w' ⟨rfl, rfl⟩))
          have hL6 := hL5.keep0 kk
          have hC6 := kk.at hC5 (by simp)
          have hV6 := kk.at hV5 (by simp)
          have hP6 := kk.at hP5 (by simp)
          have HG6 := hid (HG5.out.keep kk (by simp))
          have hD6 : At _ db (.deferred (some [])) := kk.at hD5 (by simp)
          have K6 := K5.trans kk
          clear HS HLN hL5 hC5 hV5 hP5 HG5 hD5 K5
          go_wp2_with fail
          refine (undo_li hL6 HO.out HN.out HI.out.1 (by omega)).mono ?_
          intro e w7 hr7
          obtain ⟨rfl, hL7, hk7⟩ := hr7.free hL6.pw.lo
          have hlen := undS_len (st := st) (pl := pl) (wd := wd) HO.out HI.out.1.le (eN 1 0)
          have hF := undS_done (st := st) HI.out
          have hC7 := hk7.at hC6 hcT2
          have hV7 := hk7.at hV6 (by simp at hvT3 ⊢; omega)
          have hP7 := hk7.at hP6 hpT2
          have HG7 := hid (HG6.out.keep hk7 (by rintro b off h; cases h; simp at hgT3 ⊢; omega))
          have hD7 : At w7 db (.deferred (some [])) := hk7.at hD6 (by simp; omega)
          have K7 : Keeps [] W w7 := K6.new hk7 (fun b hb => hWT b (by simp at hb ⊢; omega))
          obtain ⟨T, hT⟩ : ∃ T, T = execs S' (undS c st pl wd m (eN 1 0)) := ⟨_, rfl⟩
          obtain ⟨u7, hu7⟩ : ∃ u7, u7 = u' + ((undS c st pl wd m (eN 1 0)).length : Int) := ⟨_, rfl⟩
          rw [← hT] at hL7 hF
          rw [← hu7] at hL7
          clear hT hr7 hk7 hL6 hC6 hV6 hP6 HG6 hD6 K6
          have c0 := hC7.cell 0 rfl
          have c1 := hC7.cell 1 rfl
          have c2 := hC7.cell 2 rfl
          have p0 := hP7.cell 0 rfl
          have HF := hid hF
          obtain ⟨E, hE⟩ : ∃ E, E = epN (eN 1 (rS m 0)) := ⟨_, rfl⟩
          have HE : Hid (epN (eN 1 (rS m 0)) = E) := hid hE.symm
          clear hF hu7 hlen
          go_upto_if 155 with fail
          go_cut [22] from 153 to 155 (fun s22 wx => s22 = .int .u64 E ∧ wx = w7)
          case first =>
            go_wp2_with fail
            · go_meet
              have hE1 : E = 2 := by rw [hE, show rS m 0 = 1 by unfold rS; rw [if_neg (by omega)]]; decide
              exact ⟨by rw [hE1]; rfl, rfl⟩
            · go_meet
              have hE1 : E = 1 := by rw [hE, show rS m 0 = 0 by unfold rS; rw [if_pos (by omega)]]; decide
              exact ⟨by rw [hE1]; rfl, rfl⟩
          case rest =>
          obtain ⟨rfl, rfl⟩ := hcut
          have hrS : rS m 0 ≤ 1 := by unfold rS; split <;> omega
          clear hE
          go_wp2_with fail
          refine (open_li hL7.pw HO.out HN.out HF.out.1 (by omega)).mono ?_
          rintro e w8 ⟨lb3, rfl, hlb3, hM8, hk8⟩
          have hL8 := hL7.keep0 hk8
          have hC8b := hk8.at hC7 (by simp)
          have hV8b := hk8.at hV7 (by simp)
          have HG8 := hid (HG7.out.keep hk8 (by simp))
          have hD8 : At w8 db (.deferred (some [])) := hk8.at hD7 (by simp)
          have K8b := K7.trans hk8
          have hdev := hM8.pw.dev
          have HEP := hid (show T.now 8 = (eN 1 (rS m 0) : Nat) from HF.out.1.ep.1)
          have HCL := hid HF.out.clean
          clear c0 c1 c2 hC7 hV7 HG7 hD7 K7 hL7 hk8
          have HBH := hid (fun (w' : World) (hk : Keeps [] w8 w') => behind_at w' p a T c (hdev.keep hk (by simp) (by simp) (by simp) (by simp)) HO.out HN.out)
          have HKP := hid (fun (w' : World) (hk : Keeps [] w8 w') => kept6b_at w' p a T c (hdev.keep hk (by simp) (by simp) (by simp) (by simp)) hci.1)
          have HAC := hid (fun (w' : World) => active_at w' c HO.out.small)
          have HEQ := hid (fun (w' : World) (a1 : Option Addr) (c1 : Nat) (h : Nat → Int) (hk : Keeps [] w8 w') (h1 : Reads w' a1 (a.n - c.act) h) (he : ∀ j, j < a.n - c.act → h j = S.now (c.act + j)) => equal_true w' a1 _ (a.n - c.act) c1 cap h _ h1 (HG8.out.keep hk (by simp)) he (by omega))
          have hal : c.act ≤ a.n := by omega
          have HE1 := hid (fun j (hj : j < a.n - c.act) => (HCL.out (c.act + j) (by omega) (by omega)).1)
          have HE2 := hid (fun j (hj : j < a.n - c.act) => (HCL.out (c.act + j) (by omega) (by omega)).2.1)
          have HLU := hid (fun (w' : World) (hk : Keeps [] w8 w') => hL8.keep0 hk)
          have HLM := hid (fun (w' : World) (hk : Keeps [] w8 w') => hM8.keep0 hk)
          have hci0 : (c.act : Int) ≤ (a.n : Int) := by omega
          have han : (a.n : Int) ≤ 15000 := by omega
          have kk : Keeps [] w8 w8.drew := (Keeps.refl _ _).drew
          have HC : Hid (∀ w', Keeps [] w8 w' → (w'.cell? ⟨cb, 0, none⟩ = some (.int .i64 c.log) ∧ w'.cell? ⟨cb, 1, none⟩ = some (.int .i64 c.roots) ∧ w'.cell? ⟨cb, 2, none⟩ = some (.int .i64 c.space))) :=
            fun w' hk => ⟨(hk.at hC8b (by simp)).cell 0 rfl, (hk.at hC8b (by simp)).cell 1 rfl, (hk.at hC8b (by simp)).cell 2 rfl⟩
          have HC2 : Hid (∀ w' v, Keeps [] w8 w' → ((w'.setCell ⟨W.heap.size + 1, 0, none⟩ v).cell? ⟨cb, 0, none⟩ = some (.int .i64 c.log) ∧ (w'.setCell ⟨W.heap.size + 1, 0, none⟩ v).cell? ⟨cb, 1, none⟩ = some (.int .i64 c.roots) ∧ (w'.setCell ⟨W.heap.size + 1, 0, none⟩ v).cell? ⟨cb, 2, none⟩ = some (.int .i64 c.space))) :=
            fun w' v hk => ⟨((hk.at hC8b (by simp)).set_ne hcv v).cell 0 rfl, ((hk.at hC8b (by simp)).set_ne hcv v).cell 1 rfl, ((hk.at hC8b (by simp)).set_ne hcv v).cell 2 rfl⟩
          have HV := hid (fun (w' : World) (hk : Keeps [] w8 w') => And.intro ((hk.at hV8b (by simp)).cell 0 rfl) ((hk.at hV8b (by simp)).free 0))
          go_upto_region 43 with fail
          go_region_held3 (fun w' => w'.cell? ⟨cb, 0, none⟩ = some (.int .i64 c.log) ∧ w'.cell? ⟨cb, 1, none⟩ = some (.int .i64 c.roots) ∧ w'.cell? ⟨cb, 2, none⟩ = some (.int .i64 c.space))
            (first | exact HC.out _ kk | exact HC2.out _ _ kk)
            (first
              | (go_at_call 18; refine (HEQ.out _ _ _ _ kk (by first | exact HRK.out | exact HR9.out) (by first | exact HE1.out | exact HE2.out)).mono ?_; rintro e w' ⟨rfl, hk1⟩; have kk := kk.trans hk1; obtain ⟨v0, vf⟩ := HV.out _ kk; clear hk1)
              | (go_at_call 7; refine (HBH.out _ kk).mono ?_; rintro e w9 ⟨g9, cap9, rfl, hg9, hgb9, hR9, hk1⟩; have kk := kk.trans hk1; have HR9 := hid hR9; clear hk1 hR9 hg9 hgb9)
              | (go_at_call 13; refine (len6_at (by first | exact HLU.out _ kk | exact HLM.out _ kk)).mono ?_; rintro e w' ⟨rfl, rfl⟩)
              | (go_at_call 19; refine (epoch6_at (by first | exact HLU.out _ kk | exact HLM.out _ kk) (eN 1 (rS m 0)) (by have := eN_lt 1 (rS m 0); omega) HEP.out hci.2.1).mono ?_; rintro e w' ⟨rfl, rfl⟩; rw [HE.out])
              | (go_at_call 20; refine (HKP.out _ kk).mono ?_; rintro e wk ⟨gk, capk, rfl, ⟨hcc, hci2, hne⟩, hRk, hk1⟩; have kk := kk.trans hk1; have HRK := hid hRk; clear hk1 hRk)
              | (go_at_call 21; refine (HAC.out _).mono ?_; rintro e w' ⟨rfl, hk1⟩; have kk := kk.trans hk1; have HRK := hid (HRK.out.keep hk1 (by simp)); clear hk1)
              | (go_at_call 21; refine (HAC.out _).mono ?_; rintro e w' ⟨rfl, hk1⟩; have kk := kk.trans hk1; clear hk1))
          all_goals
            obtain ⟨hDf, cf, hBf⟩ := plays_end kk hV8b hD8 hdv (Nat.le_succ _) HDB.out K8b
            go_wp2_with fail
            refine ⟨by simp, .inl ⟨_, _, rfl, run_takeDeferred hDf, ?_⟩⟩
            refine ⟨.bool true, ?_, rfl, hBf⟩
            simp [results, Try.results3, go_sem, cf]
theorem ulogPlays_walk (l r s : Int) (y : Option Addr) (co cq : Nat) (fo : Nat → Int) (x : Option Addr) (n cp : Nat) (f : Nat → Nat → Int) (W : World) (wl : (Lit.int .u16 l).wf = true) (wr : (Lit.int .u16 r).wf = true) (ws : (Lit.int .u16 s).wf = true)
    (R1 : ReadsV (Value.int .u64) W y co fo) (_ : ∀ i, i < co → (Lit.int .u64 (fo i)).wf = true) (_ : co ≤ maxLen)
    (R2 : n * 2 = 0 ∨ ∃ b off, x = some ⟨b, off, none⟩ ∧ b < W.heap.size ∧ ∀ i j, i < n → j < 2 → W.cell? ⟨b, off + (i * 2 + j), none⟩ = some (.int ((fun j => if j = 0 then .u16 else .u64 : Nat → IntKind) j) (f i j)) ∧ (Lit.int ((fun j => if j = 0 then .u16 else .u64 : Nat → IntKind) j) (f i j)).wf = true) (_ : n ≤ maxLen) :
    Calls Try.prog 3 #[.agg #[.int .u16 l, .int .u16 r, .int .u16 s], .slice y co cq, .slice x n cp] W fun e w' => e = .returned (.bool true) ∧ Below W.heap.size W w' := by
  obtain ⟨l, rfl, hl⟩ := c3_open wl
  obtain ⟨r, rfl, hr⟩ := c3_open wr
  obtain ⟨s, rfl, hs⟩ := c3_open ws
  by_cases hg : 20 < co ∨ 30 < n
  · exact plays6_great l r s y co cq x n cp W hg
  · exact plays6_small l r s y co cq fo x n cp f W hl hr hs (by omega) (by omega) R1 (areads_of R2)

end Go.Proofs.Ytphblanaicaicaa
