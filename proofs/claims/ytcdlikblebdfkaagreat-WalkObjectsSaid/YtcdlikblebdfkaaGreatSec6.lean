/- The section's New. -/
import Derived.Test.YtcdlikblebdfkaaGreatSec5
namespace Go.Proofs.YtcdlikblebdfkaaGreat
open Go.RowKit Go.OpenShut

/-- A section that is made over a log and two maps. -/
theorem SW.make {w : World} {p : Nat} {a : DA} {l u : Int} {S : DS} {lb rb ub : Nat} {c : Cfg} {m : Nat} {st : Bool} {R U : Int → Option Value} (h : LW w p a l u S lb c m st) (hr : IMap w rb R) (hu : IMap w ub U) (ru : rb ≠ ub) (ra : rb ≠ a.m) (ua : ub ≠ a.m) :
    SW (w.alloc (secO a.d ⟨w.heap.size, lb, rb, ub⟩ c false 0 0)) p a l u S ⟨w.heap.size, lb, rb, ub⟩ c m st false 0 0 R U :=
  ⟨h.keep0 ((Keeps.refl [] w).alloc _), At.new _ _, hr.keep ((Keeps.refl [] w).alloc _) (by simp), hu.keep ((Keeps.refl [] w).alloc _) (by simp), ru, ra, ua⟩

/-- What New answers ahead of its loop. -/
def New0 (w : World) (p : Nat) (a : DA) (l u : Int) (S : DS) (c : Cfg) (m : Nat) (v : Value) (w' : World) : Prop :=
  ∃ s : Sc, v = ptr s.b ∧ SW w' p a l u S s c m false false 0 0 (fun _ => none) (fun _ => none) ∧ Keeps [] w w' ∧ w.heap.size ≤ s.b ∧ w.heap.size ≤ s.lb ∧ w.heap.size ≤ s.rb ∧ w.heap.size ≤ s.ub

abbrev mapO : Obj := .map #[] 0
theorem im1 (w : World) : IMap ((w.alloc mapO).alloc mapO) w.heap.size (fun _ => none) := (IMap.made w).keep ((Keeps.refl [] (w.alloc mapO)).alloc _) (by simp)
theorem im2 (w : World) : IMap ((w.alloc mapO).alloc mapO) (w.heap.size + 1) (fun _ => none) := by
  have := IMap.made (w.alloc mapO)
  rwa [show (w.alloc mapO).heap.size = w.heap.size + 1 by simp] at this

theorem new0_of {w w3 : World} {p : Nat} {a : DA} {l u : Int} {S : DS} {b lb rb ub : Nat} {c : Cfg} {m : Nat} (hL : LW w3 p a l u S lb c m false) (K : Keeps [] w w3) (hr : IMap w3 rb (fun _ => none)) (hu : IMap w3 ub (fun _ => none)) (ham : a.m < w.heap.size) (hb : b = w3.heap.size) (hs : w.heap.size ≤ lb ∧ w.heap.size ≤ rb ∧ w.heap.size ≤ ub ∧ rb ≠ ub) :
    New0 w p a l u S c m (ptr b) (w3.alloc (secO a.d ⟨b, lb, rb, ub⟩ c false 0 0)) := by
  subst hb
  exact ⟨⟨w3.heap.size, lb, rb, ub⟩, rfl, SW.make hL hr hu hs.2.2.2 (by omega) (by omega), K.alloc _, K.size, hs.1, hs.2.1, hs.2.2.1⟩

section
variable {w w' : World} {p : Nat} {a : DA} {l u u' : Int} {S S' : DS} {s : Sc} {c : Cfg} {m e0 r : Nat} {st : Bool} {op : Bool} {f t f' t' : Int} {R U : Int → Option Value} {pl : Nat → Nat} {wd : Nat → Int} {cs : List Cmd} {v : Value} {e : Ending}

set_option maxRecDepth 100000 in
set_option maxHeartbeats 4000000 in
theorem snew_at (h : Pw w p a l u S) (hc : c.Ok) (hn : c.words = a.n) (hL : LR c a.n e0 r m pl wd S) (hr : r < 4294967296) :
    Calls Tryz.prog 64 #[ptr a.d, cfgV c] w fun e w' => ∃ s U, e = .returned (ptr s.b) ∧ SW w' p a l u S s c m false false 0 0 (fun _ => none) U ∧ UIn U a.n ∧ Keeps [] w w' ∧ w.heap.size ≤ s.b ∧ w.heap.size ≤ s.lb ∧ w.heap.size ≤ s.rb ∧ w.heap.size ≤ s.ub := by
  have hci := c_in hc hn
  have ham : a.m < w.heap.size := h.dev.map.lt
  have HO := hid (fun (w' : World) (hk : Keeps [] w w') => open_li (h.keep0 hk) hc hn hL hr)
  have hB := At.new w (cfgO c)
  have K0 := (Keeps.refl [] w).alloc (cfgO c)
  have hmm := @run_makeMap Tryz.prog
  clear hL hc
  go_enter Tryz.func64, Tryz.ntmps64
  go_upto_region 1 with fail
  obtain ⟨w0, hw0⟩ : ∃ w0, w0 = w.alloc (cfgO c) := ⟨_, rfl⟩
  obtain ⟨bc, hbc⟩ : ∃ bc, bc = w.heap.size := ⟨_, rfl⟩
  have hz0 : w.heap.size ≤ w0.heap.size := by rw [hw0]; simp
  rw [← hw0] at hB K0 ⊢
  rw [← hbc] at hB ham hz0 ⊢
  have HBC := hid hbc
  clear hw0 hbc
  have HS : Hid (∀ w', Keeps [] w0 w' → (w'.cell? ⟨bc, 0, none⟩ = some (.int .i64 c.log) ∧ w'.cell? ⟨bc, 1, none⟩ = some (.int .i64 c.roots) ∧ w'.cell? ⟨bc, 2, none⟩ = some (.int .i64 c.space))) := fun w' hk => ⟨(hk.at hB (by simp)).cell 0 rfl, (hk.at hB (by simp)).cell 1 rfl, (hk.at hB (by simp)).cell 2 rfl⟩
  have kk : Keeps [] w0 w0.drew := (Keeps.refl _ _).drew
  go_cut [5] from 7 to 15 (fun s5 wx => New0 w p a l u S c m s5 wx)
  case first =>
    go_region_held3 (fun w' => w'.cell? ⟨bc, 0, none⟩ = some (.int .i64 c.log) ∧ w'.cell? ⟨bc, 1, none⟩ = some (.int .i64 c.roots) ∧ w'.cell? ⟨bc, 2, none⟩ = some (.int .i64 c.space))
      (exact HS.out _ (by repeat first | exact kk | apply Keeps.drew | apply Keeps.alloc | exact Keeps.refl _ _))
      (first | (go_at_call 71; refine (HO.out _ (K0.trans (by repeat first | exact kk | apply Keeps.drew | apply Keeps.alloc | exact Keeps.refl _ _))).mono ?_; rintro e w' ⟨lb, rfl, hlb, hLW, hk4⟩; have kk : Keeps [] w0 w' := Keeps.trans (by repeat first | exact kk | apply Keeps.drew | apply Keeps.alloc | exact Keeps.refl _ _) hk4))
    all_goals
      have hzk := kk.size
      have hz4 := hk4.size
      have HB2 := HBC.out
      rw [HB2] at ham hz0
      simp at hlb hz4
      go_wp2_with fail
      go_meet
    · refine new0_of (hLW.keep0 (by repeat first | exact kk | exact hk4 | exact Keeps.trans (Keeps.drew (Keeps.refl _ _) ) hk4 | apply Keeps.drew | apply Keeps.alloc | exact Keeps.refl _ _)) (K0.trans (by repeat first | exact kk | exact hk4 | exact Keeps.trans (Keeps.drew (Keeps.refl _ _) ) hk4 | apply Keeps.drew | apply Keeps.alloc | exact Keeps.refl _ _)) (im1 _) (im2 _) ham (by simp) (by simp; omega)
    · refine new0_of (hLW.keep0 (by repeat first | exact kk | exact hk4 | exact Keeps.trans (Keeps.drew (Keeps.refl _ _) ) hk4 | apply Keeps.drew | apply Keeps.alloc | exact Keeps.refl _ _)) (K0.trans (by repeat first | exact kk | exact hk4 | exact Keeps.trans (Keeps.drew (Keeps.refl _ _) ) hk4 | apply Keeps.drew | apply Keeps.alloc | exact Keeps.refl _ _)) (im2 _) (im1 _) ham (by simp) (by simp; omega)
    · refine new0_of (hLW.keep0 (by repeat first | exact kk | exact hk4 | exact Keeps.trans (Keeps.drew (Keeps.refl _ _) ) hk4 | apply Keeps.drew | apply Keeps.alloc | exact Keeps.refl _ _)) (K0.trans (by repeat first | exact kk | exact hk4 | exact Keeps.trans (Keeps.drew (Keeps.refl _ _) ) hk4 | apply Keeps.drew | apply Keeps.alloc | exact Keeps.refl _ _)) ((IMap.made w0).keep (S := []) (w' := _) (by repeat first | exact kk | exact hk4 | exact Keeps.trans (Keeps.drew (Keeps.refl _ _) ) hk4 | apply Keeps.drew | apply Keeps.alloc | exact Keeps.refl _ _) (by simp)) (IMap.made _) ham (by simp) (by simp; omega)
    · refine new0_of (hLW.keep0 (by repeat first | exact kk | exact hk4 | exact Keeps.trans (Keeps.drew (Keeps.refl _ _) ) hk4 | apply Keeps.drew | apply Keeps.alloc | exact Keeps.refl _ _)) (K0.trans (by repeat first | exact kk | exact hk4 | exact Keeps.trans (Keeps.drew (Keeps.refl _ _) ) hk4 | apply Keeps.drew | apply Keeps.alloc | exact Keeps.refl _ _)) ((im1 w0).keep (S := []) (by repeat first | exact kk | exact hk4 | exact Keeps.trans (Keeps.drew (Keeps.refl _ _) ) hk4 | apply Keeps.drew | apply Keeps.alloc | exact Keeps.refl _ _) (by simp)) ((im2 w0).keep (S := []) (by repeat first | exact kk | exact hk4 | exact Keeps.trans (Keeps.drew (Keeps.refl _ _) ) hk4 | apply Keeps.drew | apply Keeps.alloc | exact Keeps.refl _ _) (by simp)) ham (by simp) (by simp; omega)
    · refine new0_of (hLW.keep0 (by repeat first | exact kk | exact hk4 | exact Keeps.trans (Keeps.drew (Keeps.refl _ _) ) hk4 | apply Keeps.drew | apply Keeps.alloc | exact Keeps.refl _ _)) (K0.trans (by repeat first | exact kk | exact hk4 | exact Keeps.trans (Keeps.drew (Keeps.refl _ _) ) hk4 | apply Keeps.drew | apply Keeps.alloc | exact Keeps.refl _ _)) (IMap.made _) ((IMap.made w0).keep (S := []) (by repeat first | exact kk | exact hk4 | exact Keeps.trans (Keeps.drew (Keeps.refl _ _) ) hk4 | apply Keeps.drew | apply Keeps.alloc | exact Keeps.refl _ _) (by simp)) ham (by simp) (by simp; omega)
    · refine new0_of (hLW.keep0 (by repeat first | exact kk | exact hk4 | exact Keeps.trans (Keeps.drew (Keeps.refl _ _) ) hk4 | apply Keeps.drew | apply Keeps.alloc | exact Keeps.refl _ _)) (K0.trans (by repeat first | exact kk | exact hk4 | exact Keeps.trans (Keeps.drew (Keeps.refl _ _) ) hk4 | apply Keeps.drew | apply Keeps.alloc | exact Keeps.refl _ _)) ((im2 w0).keep (S := []) (by repeat first | exact kk | exact hk4 | exact Keeps.trans (Keeps.drew (Keeps.refl _ _) ) hk4 | apply Keeps.drew | apply Keeps.alloc | exact Keeps.refl _ _) (by simp)) ((im1 w0).keep (S := []) (by repeat first | exact kk | exact hk4 | exact Keeps.trans (Keeps.drew (Keeps.refl _ _) ) hk4 | apply Keeps.drew | apply Keeps.alloc | exact Keeps.refl _ _) (by simp)) ham (by simp) (by simp; omega)
  case rest =>
    obtain ⟨s, rfl, h0, k0, n1, n2, n3, n4⟩ := hcut
    have hN := hid (show w.heap.size ≤ s.b ∧ w.heap.size ≤ s.lb ∧ w.heap.size ≤ s.rb ∧ w.heap.size ≤ s.ub from ⟨n1, n2, n3, n4⟩)
    have hA := hid hci
    have hnb : (a.n : Int) ≤ 15000 := by omega
    clear HO hmm HS hB K0 kk n1 n2 n3 n4 HBC hz0 ham hci
    go_wp2_with fail
    go_loopg [6] (a.n - 8) (fun r sl wr => ∃ (i : Nat) (U : Int → Option Value), r = a.n - i ∧ i ≤ 20000 ∧ sl = .int .i64 i ∧ SW wr p a l u S s c m false false 0 0 (fun _ => none) U ∧ UIn U a.n ∧ Keeps [s.ub] wc wr)
    case atStart => exact ⟨8, _, rfl, by omega, rfl, h0, UIn.none _, Keeps.refl _ _⟩
    case round =>
      obtain ⟨i, U, hi, hi2, rfl, hL, hU, hk⟩ := hrel
      have hib : (i : Int) ≤ 20000 := by omega
      have HU := hid hU
      clear hU
      go_wp2_with fail
      refine (len_at wr p a S hL.lw.pw.dev).mono ?_
      rintro e w2 ⟨rfl, rfl⟩
      by_cases hlt : i < a.n
      · have t1 : decide ((i : Int) < (a.n : Int)) = true := by rw [decide_eq_true_eq]; omega
        have t2 : decide (i < a.n) = true := by rw [decide_eq_true_eq]; omega
        have HI := hid (And.intro hi hlt)
        clear hi hlt
        go_wp2_with fail
        refine (mark_at hL i (by omega)).mono ?_
        rintro e w3 ⟨rfl, hL3, hk3⟩
        have hli := HI.out.2
        have h15 : a.n ≤ 15000 := by omega
        go_wp2_with fail
        go_roundg (a.n - (i + 8))
        case measure => have := HI.out; omega
        case rel => exact ⟨i + 8, _, rfl, by omega, by go_num, hL3, HU.out.mark hli, hk.trans hk3⟩
      · have t1 : decide ((i : Int) < (a.n : Int)) = false := by rw [decide_eq_false_iff_not]; omega
        have t2 : decide (i < a.n) = false := by rw [decide_eq_false_iff_not]; omega
        clear hlt hi
        go_wp2_with fail
        go_ret
        have hn2 := hN.out
        exact ⟨s, U, rfl, hL, HU.out, k0.new hk (by simp; omega), hn2.1, hn2.2.1, hn2.2.2.1, hn2.2.2.2⟩

end

end Go.Proofs.YtcdlikblebdfkaaGreat
