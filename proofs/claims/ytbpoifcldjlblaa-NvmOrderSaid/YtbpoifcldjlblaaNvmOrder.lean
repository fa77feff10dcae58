/- The walk of the law NvmOrder. -/
import Derived.Test.YtbpoifcldjlblaaLaw2
import Derived.Test.YtbpoifcldjlblaaArgs
import Derived.Deep.RegionHeld3
namespace Go.Proofs.Ytbpoifcldjlblaa
open Go.RowKit

set_option maxHeartbeats 4000000 in
theorem order_at (x y z bits : Int) (W : World) (q : Nat) (hq : q < 3) (hc : chV bits 0 % 3 = q) :
    Calls Try.prog 9 #[.int .u64 x, .int .u64 y, .int .u64 z, .int .u64 bits] W fun e w' => e = .returned (.bool true) ∧ Below W.heap.size W w' := by
  have HC := hid hc
  clear hc
  go_enter Try.func9, Try.ntmps9
  go_wp2_with fail
  refine (lawake_any _).mono ?_
  rintro e w1 ⟨rfl, hb1⟩
  have K1 : Keeps [] W w1 := ((Keeps.refl [] W).alloc _).trans (Go.Proofs.Ytbpoifcldjlblaa.Below.keeps hb1 [])
  have hB1 : At w1 W.heap.size (wordO bits) := (Go.Proofs.Ytbpoifcldjlblaa.Below.keeps hb1 []).at (At.new W _) (by simp)
  have z1 := hB1.lt
  clear hb1
  go_wp2_with fail
  have hs1 : At (w1.alloc (.cells #[.int .u64 x] 30)) w1.heap.size (wordO x) := At.new _ _
  refine (lnew_at _ _ 1 1 1 (fun _ => x) (reads_one hs1) rfl (by omega)).mono ?_
  rintro e w2 ⟨p, a, rfl, haL, hD2, hp2, ⟨b1, b2, b3, b4, b5⟩, hK2⟩
  have K2 : Keeps [] W w2 := (K1.alloc _).trans hK2
  have hB2 := hK2.at (hB1.alloc _) (by simp)
  have haN : a.n = 8 := by have := a.n8; omega
  have HAN := hid haN
  simp only [World.size_alloc] at b1 b2 b3 b4 b5
  clear haL haN hs1
  go_wp2_with fail
  refine (store_in w2 p a _ (-1) 0 0 y hD2 hp2 (by rw [HAN.out]; omega) (by omega) (by omega) (.inl (by omega))).mono ?_
  rintro e w3 ⟨rfl, hD3, hp3, hK3⟩
  have K3 : Keeps [] W w3 := K2.new hK3 (by simp; omega)
  have hB3 := hK3.at hB2 (by simp; omega)
  go_wp2_with fail
  refine (flush_in w3 p a _ (-1) _ 0 hD3 hp3 (by rw [HAN.out]; omega) (by omega) (by omega) (.inl (by omega))).mono ?_
  rintro e w4 ⟨rfl, hD4, hp4, hK4⟩
  have K4 : Keeps [] W w4 := K3.new hK4 (by simp; omega)
  have hB4 := hK4.at hB3 (by simp; omega)
  go_wp2_with fail
  refine (store_in w4 p a _ (-1) _ 0 z hD4 hp4 (by rw [HAN.out]; omega) (by omega) (by omega) (.inl (by omega))).mono ?_
  rintro e w5 ⟨rfl, hD5, hp5, hK5⟩
  have K5 : Keeps [] W w5 := K4.new hK5 (by simp; omega)
  have hB5 := hK5.at hB4 (by simp; omega)
  have z5 := K5.size
  obtain ⟨f1, f2, f3, f4⟩ := hD5.fresh (Nat.le_refl _)
  go_wp2_with fail
  have hs5 : At (w5.alloc (.cells #[.int .u64 x] 30)) w5.heap.size (wordO x) := At.new _ _
  refine (lnew_at _ _ 1 1 1 (fun _ => x) (reads_one hs5) rfl (by omega)).mono ?_
  rintro e w6 ⟨pe, ae, rfl, haL, hE6, hpe6, ⟨c1, c2, c3, c4, c5⟩, hK6⟩
  have hK56 : Keeps [] w5 w6 := ((Keeps.refl _ _).alloc _).trans hK6
  have K6 : Keeps [] W w6 := K5.trans hK56
  have hB6 := hK56.at hB5 (by simp)
  have hD6 := hD5.keep hK56 (by simp) (by simp) (by simp) (by simp)
  have hEN : ae.n = 8 := by have := ae.n8; omega
  have HEN := hid hEN
  have q1 := hD5.dev.lt
  have q2 := hD5.now.lt
  have q3 := hD5.kept.lt
  have q4 := hD5.map.lt
  simp only [World.size_alloc] at c1 c2 c3 c4 c5
  clear haL hEN hs5 hK56 f1 f2 f3 f4
  go_wp2_with fail
  refine (store_in w6 pe ae _ (-1) _ 0 y hE6 hpe6 (by rw [HEN.out]; omega) (by omega) (by omega) (.inl (by omega))).mono ?_
  rintro e w7 ⟨rfl, hE7, hpe7, hK7⟩
  have K7 : Keeps [] W w7 := K6.new hK7 (by simp; omega)
  have hB7 := hK7.at hB6 (by simp; omega)
  have hD7 := hD6.keep hK7 (by simp; omega) (by simp; omega) (by simp; omega) (by simp; omega)
  go_wp2_with fail
  refine (flush_in w7 pe ae _ (-1) _ 0 hE7 hpe7 (by rw [HEN.out]; omega) (by omega) (by omega) (.inl (by omega))).mono ?_
  rintro e w8 ⟨rfl, hE8, hpe8, hK8⟩
  have K8 : Keeps [] W w8 := K7.new hK8 (by simp; omega)
  have hB8 := hK8.at hB7 (by simp; omega)
  have hD8 := hD7.keep hK8 (by simp; omega) (by simp; omega) (by simp; omega) (by simp; omega)
  go_wp2_with fail
  refine (store_in w8 pe ae _ (-1) _ 0 z hE8 hpe8 (by rw [HEN.out]; omega) (by omega) (by omega) (.inl (by omega))).mono ?_
  rintro e w9 ⟨rfl, hE9, hpe9, hK9⟩
  have K9 : Keeps [] W w9 := K8.new hK9 (by simp; omega)
  have hB9 := hK9.at hB8 (by simp; omega)
  have hD9 := hD8.keep hK9 (by simp; omega) (by simp; omega) (by simp; omega) (by simp; omega)
  go_wp2_with fail
  refine (fence_at w9 pe ae _ (-1) _ hE9 hpe9 (by omega) (by omega) (.inl (by omega))).mono ?_
  rintro e w10 ⟨rfl, hE10, hpe10, hK10⟩
  have K10 : Keeps [] W w10 := K9.new hK10 (by simp; omega)
  have hB10 := hK10.at hB9 (by simp; omega)
  have hD10 := hD9.keep hK10 (by simp; omega) (by simp; omega) (by simp; omega) (by simp; omega)
  have HSD : Hid (∃ S, Dev w10 p a S ∧ S.now 0 = z ∧ S.kept 0 = x ∧ S.tok 0 = y ∧ S.is 0 = true) := ⟨_, hD10, by simp [put], by simp, by simp [put], by simp [put]⟩
  have HSE : Hid (∃ S, Dev w10 pe ae S ∧ S.now 0 = z ∧ S.kept 0 = y ∧ ∀ k, S.is k = false) := ⟨_, hE10, by simp [put], by simp [put], fun _ => rfl⟩
  clear hD2 hD3 hD4 hD5 hD6 hD7 hD8 hD9 hD10 hE6 hE7 hE8 hE9 hE10 hp2 hp3 hp4 hp5 hpe6 hpe7 hpe8 hpe9 hpe10 hB1 hB2 hB3 hB4 hB5 hB6 hB7 hB8 hB9 K1 K2 K3 K4 K5 K6 K7 K8 K9 hK2 hK3 hK4 hK5 hK6 hK7 hK8 hK9 hK10
  obtain ⟨SD, hD10, sd1, sd2, sd3, sd4⟩ := HSD.out
  obtain ⟨SE, hE10, se1, se2, se3⟩ := HSE.out
  have SD1 := hid sd1
  have SD2 := hid sd2
  have SD3 := hid sd3
  have SD4 := hid sd4
  have SE1 := hid se1
  have SE2 := hid se2
  have SE3 := hid se3
  clear sd1 sd2 sd3 sd4 se1 se2 se3 HSD HSE
  go_wp2_with fail
  refine (load_eq w10 p a _ 0 z hD10 (by rw [HAN.out]; omega) SD1.out).mono ?_
  rintro e w11 ⟨rfl, rfl⟩
  have gz : (z != z) = false := by simp
  go_wp2_with fail
  refine (load_eq w10 pe ae _ 0 z hE10 (by rw [HEN.out]; omega) SE1.out).mono ?_
  rintro e w11 ⟨rfl, rfl⟩
  go_wp2_with fail
  refine (kept_at w10 pe ae _ hE10).mono ?_
  rintro e w11 ⟨v11, rfl, hv11, hK11⟩
  obtain ⟨g11, cap11, rfl, _, _, _, hR11⟩ := hv11.reads
  have hE11 := hE10.keep hK11 (by simp) (by simp) (by simp) (by simp)
  have en : ((ae.n : Int) == 0) = false := by rw [beq_eq_false_iff_ne]; have := HEN.out; omega
  clear hv11 hR11
  go_wp2_with fail
  refine (kept_at w11 pe ae _ hE11).mono ?_
  rintro e w12 ⟨v12, rfl, hv12, hK12⟩
  obtain ⟨g12, cap12, rfl, _, _, _, hR12⟩ := hv12.reads
  have K12 : Keeps [] w10 w12 := hK11.trans hK12
  have hD12 := hD10.keep K12 (by simp) (by simp) (by simp) (by simp)
  have hE12 := hE10.keep K12 (by simp) (by simp) (by simp) (by simp)
  have cz : w12.cell? ⟨g12, 0, none⟩ = some (.int .u64 y) := by
    rcases hR12 with h | ⟨b, off, h1, _, h2⟩
    · have := HEN.out; omega
    · cases h1
      have := h2 0 (by have := HEN.out; omega)
      rw [SE2.out] at this
      simpa using this
  have gy : (y != y) = false := by simp
  have hpos : 0 < ae.n := by have := HEN.out; omega
  have hB12 := K12.at hB10 (by simp)
  clear hv12 hR12 hK11 hK12 hE10 hE11 hD10 hB10
  obtain ⟨va, vb, hva, hvb, ha3, hb3⟩ : ∃ va vb, leftV SD 0 (chV bits 0 % 3) = va ∧ leftV SE 0 (chV bits 0 % 3) = vb ∧ (#[Value.int .u64 x, .int .u64 y, .int .u64 z] : Array Value)[q]? = some (.int .u64 va) ∧ (#[Value.int .u64 y, .int .u64 y, .int .u64 z] : Array Value)[q]? = some (.int .u64 vb) := by
    rw [HC.out]
    rcases (by omega : q = 0 ∨ q = 1 ∨ q = 2) with rfl | rfl | rfl
    · exact ⟨x, y, by simp [leftV, SD2.out], by simp [leftV, SE2.out], rfl, rfl⟩
    · exact ⟨y, y, by simp [leftV, SD3.out, SD4.out], by simp [leftV, SE2.out, SE3.out], rfl, rfl⟩
    · exact ⟨z, z, by simp [leftV, SD1.out], by simp [leftV, SE1.out], rfl, rfl⟩
  have HVA := hid hva
  have HVB := hid hvb
  have HA3 := hid ha3
  have HB3 := hid hb3
  have zW := K10.size
  clear hva hvb ha3 hb3
  have hDs : a.d ∉ [ae.s, ae.k, ae.m] ∧ a.s ∉ [ae.s, ae.k, ae.m] ∧ a.k ∉ [ae.s, ae.k, ae.m] ∧ a.m ∉ [ae.s, ae.k, ae.m] := by simp; omega
  have hEs : ae.d ∉ [a.s, a.k, a.m] ∧ ae.s ∉ [a.s, a.k, a.m] ∧ ae.k ∉ [a.s, a.k, a.m] ∧ ae.m ∉ [a.s, a.k, a.m] := by simp; omega
  have HCR := hid (crash_plain w12 p a SD hD12 _ #[ptr W.heap.size] (chV bits) [W.heap.size] _ (order1_chooser W.heap.size bits a.n (by rw [HAN.out]; omega)) hB12 (by simp; omega) (by simp; have := hB12.lt; omega))
  go_wp2_with fail
  refine HCR.out.mono ?_
  rintro e w13 ⟨rfl, hD13, _, hK13⟩
  have hE13 := hE12.keep hK13 hEs.1 hEs.2.1 hEs.2.2.1 hEs.2.2.2
  have hB13 := hK13.at hB12 (by simp; omega)
  have HCR := hid (crash_plain w13 pe ae SE hE13 _ #[ptr W.heap.size] (chV bits) [W.heap.size] _ (order2_chooser W.heap.size bits ae.n (by rw [HEN.out]; omega)) hB13 (by simp; omega) (by simp; have := hB13.lt; omega))
  go_wp2_with fail
  refine HCR.out.mono ?_
  rintro e w14 ⟨rfl, hE14, _, hK14⟩
  have hD14 := hD13.keep hK14 hDs.1 hDs.2.1 hDs.2.2.1 hDs.2.2.2
  have hB14 := hK14.at hB13 (by simp; omega)
  have K14 : Keeps [] W w14 := ((K10.trans K12).new hK13 (by simp; omega)).new hK14 (by simp; omega)
  clear hDs hEs HCR hK13 hK14 hE12 hE13 hD12 hD13 hB12 hB13 cz en gz gy K12 K10
  go_wp2_with fail
  refine (load_eq w14 p a _ 0 va hD14 (by rw [HAN.out]; omega) HVA.out).mono ?_
  rintro e w15 ⟨rfl, rfl⟩
  go_wp2_with fail
  have HS : Hid (∀ w', Keeps [] w14 w' → w'.cell? ⟨W.heap.size, 0, none⟩ = some (.int .u64 bits) ∧ Keeps [] w14 w') := fun w' hk => ⟨(hk.at hB14 (by simp)).cell 0 rfl, hk⟩
  have e3 : chV bits 0 % 3 = (q : Int) := HC.out
  have e3t : (chV bits 0).tmod 3 = (q : Int) := by have := (chV_low bits 0).1; rw [Int.tmod_eq_emod_of_nonneg this]; exact e3
  have qb : (q : Int) < 3 := by omega
  have ha3 := HA3.out
  have hb3 := HB3.out
  rw [List.getElem?_toArray] at ha3 hb3
  have ha4 := (List.getElem?_eq_some_iff.1 ha3).2
  have hb4 := (List.getElem?_eq_some_iff.1 hb3).2
  have gvb : (vb == vb) = true := by simp
  have gva : (va == va) = true := by simp
  have cB := hB14.cell 0 rfl
  have lB := hB14.lt
  refine wp_region_noPanic ?_
  refine wp_region_held_drew (S := fun w' => w'.cell? ⟨W.heap.size, 0, none⟩ = some (.int .u64 bits) ∧ Keeps [] w14 w') (by kernel_rfl) ?_ (fun hHeld0 => ?_)
  · (try dsimp only); (first | exact HS.out _ (Keeps.refl [] w14).drew | exact HS.out _ ((Keeps.refl [] w14).drew.alloc _) | exact HS.out _ (((Keeps.refl [] w14).drew.alloc _).alloc _))
  refine' wpAnyH_take (i := 0) (oi := _) (v := _) ?hi1 (by kernel_rfl) (by kernel_rfl) (by kernel_rfl) (fun _ _ _ h => h) (Or.inl ⟨?hw1, ?hy1⟩) hHeld0 ?rest1
  case hi1 => (simp only [List.getElem?_toArray, List.getElem?_cons_zero]; rfl)
  case hw1 => rfl
  case hy1 => (intro w hSw; (try dsimp only at hSw); go_simp; try (with_reducible rfl))
  (try simp only [Act.put, List.setIfInBounds_toArray, List.set_cons_zero, List.set_cons_succ])
  refine' wpAnyH_take (i := 1) (oi := _) (v := _) ?hi2 (by kernel_rfl) (by kernel_rfl) (by kernel_rfl) (fun _ _ _ h => h) (Or.inl ⟨?hw2, ?hy2⟩) hHeld0 ?rest2
  case hi2 => (simp only [List.getElem?_toArray, List.getElem?_cons_succ, List.getElem?_cons_zero]; rfl)
  case hw2 => rfl
  case hy2 => (intro w hSw; (try dsimp only at hSw); go_simp; try (with_reducible rfl))
  (try simp only [Act.put, List.setIfInBounds_toArray, List.set_cons_zero, List.set_cons_succ])
  refine' wpAnyH_take (i := 2) (oi := _) (v := _) ?hi3 (by kernel_rfl) (by kernel_rfl) (by kernel_rfl) (fun _ _ _ h => h) (Or.inl ⟨?hw3, ?hy3⟩) hHeld0 ?rest3
  case hi3 => (simp only [List.getElem?_toArray, List.getElem?_cons_succ, List.getElem?_cons_zero]; rfl)
  case hw3 => rfl
  case hy3 => (intro w hSw; (try dsimp only at hSw); go_simp; try (with_reducible rfl))
  (try simp only [Act.put, List.setIfInBounds_toArray, List.set_cons_zero, List.set_cons_succ])
  refine' wpAnyH_take (i := 3) (oi := _) (v := _) ?hi4 (by kernel_rfl) (by kernel_rfl) (by kernel_rfl) (fun _ _ _ h => h) (Or.inl ⟨?hw4, ?hy4⟩) hHeld0 ?rest4
  case hi4 => (simp only [List.getElem?_toArray, List.getElem?_cons_succ, List.getElem?_cons_zero]; rfl)
  case hw4 => rfl
  case hy4 => (intro w hSw; (try dsimp only at hSw); go_simp; try (with_reducible rfl))
  (try simp only [Act.put, List.setIfInBounds_toArray, List.set_cons_zero, List.set_cons_succ])
  refine' wpAnyH_take (i := 5) (oi := _) (v := _) ?hi5 (by kernel_rfl) (by kernel_rfl) (by kernel_rfl) (fun _ _ _ h => h) (Or.inl ⟨?hw5, ?hy5⟩) hHeld0 ?rest5
  case hi5 => (simp only [List.getElem?_toArray, List.getElem?_cons_succ, List.getElem?_cons_zero]; rfl)
  case hw5 => rfl
  case hy5 => (intro w hSw; (try dsimp only at hSw); go_simp; try (with_reducible rfl))
  (try simp only [Act.put, List.setIfInBounds_toArray, List.set_cons_zero, List.set_cons_succ])
  refine wpAnyH_ready (rs := [4, 6]) (by kernel_rfl) (by simp) ?_
  refine' AllReadyH.cons (o := _) ?ho6 (fun K hK => ?step6) ?more6
  case ho6 => (simp only [List.getElem?_toArray, List.getElem?_cons_succ, List.getElem?_cons_zero]; rfl)
  case step6 =>
    go_simp
    refine hK.out _ _ ?_ (fun hHeld1 => ?_)
    · (try dsimp only); (first | exact HS.out _ (Keeps.refl [] w14).drew | exact HS.out _ ((Keeps.refl [] w14).drew.alloc _) | exact HS.out _ (((Keeps.refl [] w14).drew.alloc _).alloc _))
    clear hK K hHeld0
    (try simp only [Act.put, List.setIfInBounds_toArray, List.set_cons_zero, List.set_cons_succ])
    refine wpAnyH_ready (rs := [6]) (by kernel_rfl) (by simp) ?_
    refine' AllReadyH.cons (o := _) ?ho7 (fun K hK => ?step7) ?more7
    case ho7 => (simp only [List.getElem?_toArray, List.getElem?_cons_succ, List.getElem?_cons_zero]; rfl)
    case step7 =>
      go_simp
      (go_at_call 27; refine (choice_at _ bits 0 (by omega)).mono ?_; rintro e w9 ⟨rfl, rfl⟩)
      (try go_wp2_with fail)
      refine hK.out _ _ ?_ (fun hHeld2 => ?_)
      · (try dsimp only); (first | exact HS.out _ (Keeps.refl [] w14).drew | exact HS.out _ ((Keeps.refl [] w14).drew.alloc _) | exact HS.out _ (((Keeps.refl [] w14).drew.alloc _).alloc _))
      clear hK K hHeld1
      (try simp only [Act.put, List.setIfInBounds_toArray, List.set_cons_zero, List.set_cons_succ])
      refine' wpAnyH_take (i := 7) (oi := _) (v := _) ?hi8 (by kernel_rfl) (by kernel_rfl) (by kernel_rfl) (fun _ _ _ h => h) (Or.inl ⟨?hw8, ?hy8⟩) hHeld2 ?rest8
      case hi8 => (simp only [List.getElem?_toArray, List.getElem?_cons_succ, List.getElem?_cons_zero]; rfl)
      case hw8 => rfl
      case hy8 => (intro w hSw; (try dsimp only at hSw); go_simp; try (with_reducible rfl))
      (try simp only [Act.put, List.setIfInBounds_toArray, List.set_cons_zero, List.set_cons_succ])
      refine' wpAnyH_take (i := 8) (oi := _) (v := _) ?hi9 (by kernel_rfl) (by kernel_rfl) (by kernel_rfl) (fun _ _ _ h => h) (Or.inl ⟨?hw9, ?hy9⟩) hHeld2 ?rest9
      case hi9 => (simp only [List.getElem?_toArray, List.getElem?_cons_succ, List.getElem?_cons_zero]; rfl)
      case hw9 => rfl
      case hy9 => (intro w hSw; (try dsimp only at hSw); go_simp; try (with_reducible rfl))
      (try simp only [Act.put, List.setIfInBounds_toArray, List.set_cons_zero, List.set_cons_succ])
      refine wpAnyH_ready (rs := [9]) (by kernel_rfl) (by simp) ?_
      refine' AllReadyH.cons (o := _) ?ho10 (fun K hK => ?step10) ?more10
      case ho10 => (simp only [List.getElem?_toArray, List.getElem?_cons_succ, List.getElem?_cons_zero]; rfl)
      case step10 =>
        go_simp
        refine hK.out _ _ ?_ (fun hHeld3 => ?_)
        · (try dsimp only); (first | exact HS.out _ (Keeps.refl [] w14).drew | exact HS.out _ ((Keeps.refl [] w14).drew.alloc _) | exact HS.out _ (((Keeps.refl [] w14).drew.alloc _).alloc _))
        clear hK K hHeld2
        (try simp only [Act.put, List.setIfInBounds_toArray, List.set_cons_zero, List.set_cons_succ])
        refine' wpAnyH_take (i := 10) (oi := _) (v := _) ?hi11 (by kernel_rfl) (by kernel_rfl) (by kernel_rfl) (fun _ _ _ h => h) (Or.inl ⟨?hw11, ?hy11⟩) hHeld3 ?rest11
        case hi11 => (simp only [List.getElem?_toArray, List.getElem?_cons_succ, List.getElem?_cons_zero]; rfl)
        case hw11 => rfl
        case hy11 => (intro w hSw; (try dsimp only at hSw); go_simp; try (with_reducible rfl))
        (try simp only [Act.put, List.setIfInBounds_toArray, List.set_cons_zero, List.set_cons_succ])
        refine' wpAnyH_take (i := 11) (oi := _) (v := _) ?hi12 (by kernel_rfl) (by kernel_rfl) (by kernel_rfl) (fun _ _ _ h => h) (Or.inl ⟨?hw12, ?hy12⟩) hHeld3 ?rest12
        case hi12 => (simp only [List.getElem?_toArray, List.getElem?_cons_succ, List.getElem?_cons_zero]; rfl)
        case hw12 => rfl
        case hy12 => (intro w hSw; (try dsimp only at hSw); go_simp; try (with_reducible rfl))
        (try simp only [Act.put, List.setIfInBounds_toArray, List.set_cons_zero, List.set_cons_succ])
        refine' wpAnyH_take (i := 12) (oi := _) (v := _) ?hi13 (by kernel_rfl) (by kernel_rfl) (by kernel_rfl) (fun _ _ _ h => h) (Or.inl ⟨?hw13, ?hy13⟩) hHeld3 ?rest13
        case hi13 => (simp only [List.getElem?_toArray, List.getElem?_cons_succ, List.getElem?_cons_zero]; rfl)
        case hw13 => rfl
        case hy13 => (intro w hSw; (try dsimp only at hSw); go_simp; try (with_reducible rfl))
        (try simp only [Act.put, List.setIfInBounds_toArray, List.set_cons_zero, List.set_cons_succ])
        refine' wpAnyH_take (i := 14) (oi := _) (v := _) ?hi14 (by kernel_rfl) (by kernel_rfl) (by kernel_rfl) (fun _ _ _ h => h) (Or.inl ⟨?hw14, ?hy14⟩) hHeld3 ?rest14
        case hi14 => (simp only [List.getElem?_toArray, List.getElem?_cons_succ, List.getElem?_cons_zero]; rfl)
        case hw14 => rfl
        case hy14 => (intro w hSw; (try dsimp only at hSw); go_simp; try (with_reducible rfl))
        (try simp only [Act.put, List.setIfInBounds_toArray, List.set_cons_zero, List.set_cons_succ])
        refine' wpAnyH_take (i := 15) (oi := _) (v := _) ?hi15 (by kernel_rfl) (by kernel_rfl) (by kernel_rfl) (fun _ _ _ h => h) (Or.inl ⟨?hw15, ?hy15⟩) hHeld3 ?rest15
        case hi15 => (simp only [List.getElem?_toArray, List.getElem?_cons_succ, List.getElem?_cons_zero]; rfl)
        case hw15 => rfl
        case hy15 => (intro w hSw; (try dsimp only at hSw); go_simp; try (with_reducible rfl))
        (try simp only [Act.put, List.setIfInBounds_toArray, List.set_cons_zero, List.set_cons_succ])
        refine' wpAnyH_take (i := 16) (oi := _) (v := _) ?hi16 (by kernel_rfl) (by kernel_rfl) (by kernel_rfl) (fun _ _ _ h => h) (Or.inl ⟨?hw16, ?hy16⟩) hHeld3 ?rest16
        case hi16 => (simp only [List.getElem?_toArray, List.getElem?_cons_succ, List.getElem?_cons_zero]; rfl)
        case hw16 => rfl
        case hy16 => (intro w hSw; (try dsimp only at hSw); go_simp; try (with_reducible rfl))
        (try simp only [Act.put, List.setIfInBounds_toArray, List.set_cons_zero, List.set_cons_succ])
        refine' wpAnyH_take (i := 18) (oi := _) (v := _) ?hi17 (by kernel_rfl) (by kernel_rfl) (by kernel_rfl) (fun _ _ _ h => h) (Or.inl ⟨?hw17, ?hy17⟩) hHeld3 ?rest17
        case hi17 => (simp only [List.getElem?_toArray, List.getElem?_cons_succ, List.getElem?_cons_zero]; rfl)
        case hw17 => rfl
        case hy17 => (intro w hSw; (try dsimp only at hSw); go_simp; try (with_reducible rfl))
        (try simp only [Act.put, List.setIfInBounds_toArray, List.set_cons_zero, List.set_cons_succ])
        refine wpAnyH_ready (rs := [13, 17]) (by kernel_rfl) (by simp) ?_
        refine' AllReadyH.cons (o := _) ?ho18 (fun K hK => ?step18) ?more18
        case ho18 => (simp only [List.getElem?_toArray, List.getElem?_cons_succ, List.getElem?_cons_zero]; rfl)
        case step18 =>
          go_simp
          (go_at_call 15; refine (load_eq _ pe ae _ 0 vb (hE14.keep (by first | exact (Keeps.refl [] _).drew | exact ((Keeps.refl [] _).drew.alloc _) | exact (((Keeps.refl [] _).drew.alloc _).alloc _)) (by simp) (by simp) (by simp) (by simp)) (by rw [HEN.out]; omega) HVB.out).mono ?_; rintro e w9 ⟨rfl, rfl⟩)
          (try go_wp2_with fail)
          refine hK.out _ _ ?_ (fun hHeld4 => ?_)
          · (try dsimp only); (first | exact HS.out _ (Keeps.refl [] w14).drew | exact HS.out _ ((Keeps.refl [] w14).drew.alloc _) | exact HS.out _ (((Keeps.refl [] w14).drew.alloc _).alloc _))
          clear hK K hHeld3
          (try simp only [Act.put, List.setIfInBounds_toArray, List.set_cons_zero, List.set_cons_succ])
          refine wpAnyH_ready (rs := [17, 19]) (by kernel_rfl) (by simp) ?_
          refine' AllReadyH.cons (o := _) ?ho19 (fun K hK => ?step19) ?more19
          case ho19 => (simp only [List.getElem?_toArray, List.getElem?_cons_succ, List.getElem?_cons_zero]; rfl)
          case step19 =>
            go_simp
            refine hK.out _ _ ?_ (fun hHeld5 => ?_)
            · (try dsimp only); (first | exact HS.out _ (Keeps.refl [] w14).drew | exact HS.out _ ((Keeps.refl [] w14).drew.alloc _) | exact HS.out _ (((Keeps.refl [] w14).drew.alloc _).alloc _))
            clear hK K hHeld4
            (try simp only [Act.put, List.setIfInBounds_toArray, List.set_cons_zero, List.set_cons_succ])
            refine wpAnyH_ready (rs := [19]) (by kernel_rfl) (by simp) ?_
            refine' AllReadyH.cons (o := _) ?ho20 (fun K hK => ?step20) ?more20
            case ho20 => (simp only [List.getElem?_toArray, List.getElem?_cons_succ, List.getElem?_cons_zero]; rfl)
            case step20 =>
              go_simp
              (go_at_call 27; refine (choice_at _ bits 0 (by omega)).mono ?_; rintro e w9 ⟨rfl, rfl⟩)
              (try go_wp2_with fail)
              refine hK.out _ _ ?_ (fun hHeld6 => ?_)
              · (try dsimp only); (first | exact HS.out _ (Keeps.refl [] w14).drew | exact HS.out _ ((Keeps.refl [] w14).drew.alloc _) | exact HS.out _ (((Keeps.refl [] w14).drew.alloc _).alloc _))
              clear hK K hHeld5
              (try simp only [Act.put, List.setIfInBounds_toArray, List.set_cons_zero, List.set_cons_succ])
              refine' wpAnyH_take (i := 20) (oi := _) (v := _) ?hi21 (by kernel_rfl) (by kernel_rfl) (by kernel_rfl) (fun _ _ _ h => h) (Or.inl ⟨?hw21, ?hy21⟩) hHeld6 ?rest21
              case hi21 => (simp only [List.getElem?_toArray, List.getElem?_cons_succ, List.getElem?_cons_zero]; rfl)
              case hw21 => rfl
              case hy21 => (intro w hSw; (try dsimp only at hSw); go_simp; try (with_reducible rfl))
              (try simp only [Act.put, List.setIfInBounds_toArray, List.set_cons_zero, List.set_cons_succ])
              refine' wpAnyH_take (i := 21) (oi := _) (v := _) ?hi22 (by kernel_rfl) (by kernel_rfl) (by kernel_rfl) (fun _ _ _ h => h) (Or.inl ⟨?hw22, ?hy22⟩) hHeld6 ?rest22
              case hi22 => (simp only [List.getElem?_toArray, List.getElem?_cons_succ, List.getElem?_cons_zero]; rfl)
              case hw22 => rfl
              case hy22 => (intro w hSw; (try dsimp only at hSw); go_simp; try (with_reducible rfl))
              (try simp only [Act.put, List.setIfInBounds_toArray, List.set_cons_zero, List.set_cons_succ])
              refine wpAnyH_ready (rs := [22]) (by kernel_rfl) (by simp) ?_
              refine' AllReadyH.cons (o := _) ?ho23 (fun K hK => ?step23) ?more23
              case ho23 => (simp only [List.getElem?_toArray, List.getElem?_cons_succ, List.getElem?_cons_zero]; rfl)
              case step23 =>
                go_simp
                refine hK.out _ _ ?_ (fun hHeld7 => ?_)
                · (try dsimp only); (first | exact HS.out _ (Keeps.refl [] w14).drew | exact HS.out _ ((Keeps.refl [] w14).drew.alloc _) | exact HS.out _ (((Keeps.refl [] w14).drew.alloc _).alloc _))
                clear hK K hHeld6
                (try simp only [Act.put, List.setIfInBounds_toArray, List.set_cons_zero, List.set_cons_succ])
                refine' wpAnyH_take (i := 23) (oi := _) (v := _) ?hi24 (by kernel_rfl) (by kernel_rfl) (by kernel_rfl) (fun _ _ _ h => h) (Or.inl ⟨?hw24, ?hy24⟩) hHeld7 ?rest24
                case hi24 => (simp only [List.getElem?_toArray, List.getElem?_cons_succ, List.getElem?_cons_zero]; rfl)
                case hw24 => rfl
                case hy24 => (intro w hSw; (try dsimp only at hSw); go_simp; try (with_reducible rfl))
                (try simp only [Act.put, List.setIfInBounds_toArray, List.set_cons_zero, List.set_cons_succ])
                refine' wpAnyH_take (i := 24) (oi := _) (v := _) ?hi25 (by kernel_rfl) (by kernel_rfl) (by kernel_rfl) (fun _ _ _ h => h) (Or.inl ⟨?hw25, ?hy25⟩) hHeld7 ?rest25
                case hi25 => (simp only [List.getElem?_toArray, List.getElem?_cons_succ, List.getElem?_cons_zero]; rfl)
                case hw25 => rfl
                case hy25 => (intro w hSw; (try dsimp only at hSw); go_simp; try (with_reducible rfl))
                (try simp only [Act.put, List.setIfInBounds_toArray, List.set_cons_zero, List.set_cons_succ])
                refine wpAnyH_ready (rs := [25]) (by kernel_rfl) (by simp) ?_
                refine' AllReadyH.cons (o := _) ?ho26 (fun K hK => ?step26) ?more26
                case ho26 => (simp only [List.getElem?_toArray, List.getElem?_cons_succ, List.getElem?_cons_zero]; rfl)
                case step26 =>
                  go_simp
                  refine hK.out _ _ ?_ (fun hHeld8 => ?_)
                  · (try dsimp only); (first | exact HS.out _ (Keeps.refl [] w14).drew | exact HS.out _ ((Keeps.refl [] w14).drew.alloc _) | exact HS.out _ (((Keeps.refl [] w14).drew.alloc _).alloc _))
                  clear hK K hHeld7
                  (try simp only [Act.put, List.setIfInBounds_toArray, List.set_cons_zero, List.set_cons_succ])
                  refine wpAnyH_done (by kernel_rfl) ?_ _
                  refine NoPanic.normal ?_
                  go_wp2
                  go_ret
                  exact ⟨rfl, (K14.trans (((Keeps.refl [] w14).alloc _).alloc _).drew).below (Nat.le_refl _) (by simp)⟩
                exact AllReadyH.nil
              exact AllReadyH.nil
            exact AllReadyH.nil
          refine' AllReadyH.cons (o := _) ?ho27 (fun K hK => ?step27) ?more27
          case ho27 => (simp only [List.getElem?_toArray, List.getElem?_cons_succ, List.getElem?_cons_zero]; rfl)
          case step27 =>
            go_simp
            (go_at_call 27; refine (choice_at _ bits 0 (by omega)).mono ?_; rintro e w9 ⟨rfl, rfl⟩)
            (try go_wp2_with fail)
            refine hK.out _ _ ?_ (fun hHeld5 => ?_)
            · (try dsimp only); (first | exact HS.out _ (Keeps.refl [] w14).drew | exact HS.out _ ((Keeps.refl [] w14).drew.alloc _) | exact HS.out _ (((Keeps.refl [] w14).drew.alloc _).alloc _))
            clear hK K hHeld4
            (try simp only [Act.put, List.setIfInBounds_toArray, List.set_cons_zero, List.set_cons_succ])
            refine' wpAnyH_take (i := 20) (oi := _) (v := _) ?hi28 (by kernel_rfl) (by kernel_rfl) (by kernel_rfl) (fun _ _ _ h => h) (Or.inl ⟨?hw28, ?hy28⟩) hHeld5 ?rest28
            case hi28 => (simp only [List.getElem?_toArray, List.getElem?_cons_succ, List.getElem?_cons_zero]; rfl)
            case hw28 => rfl
            case hy28 => (intro w hSw; (try dsimp only at hSw); go_simp; try (with_reducible rfl))
            (try simp only [Act.put, List.setIfInBounds_toArray, List.set_cons_zero, List.set_cons_succ])
            refine wpAnyH_ready (rs := [17]) (by kernel_rfl) (by simp) ?_
            refine' AllReadyH.cons (o := _) ?ho29 (fun K hK => ?step29) ?more29
            case ho29 => (simp only [List.getElem?_toArray, List.getElem?_cons_succ, List.getElem?_cons_zero]; rfl)
            case step29 =>
              go_simp
              refine hK.out _ _ ?_ (fun hHeld6 => ?_)
              · (try dsimp only); (first | exact HS.out _ (Keeps.refl [] w14).drew | exact HS.out _ ((Keeps.refl [] w14).drew.alloc _) | exact HS.out _ (((Keeps.refl [] w14).drew.alloc _).alloc _))
              clear hK K hHeld5
              (try simp only [Act.put, List.setIfInBounds_toArray, List.set_cons_zero, List.set_cons_succ])
              refine' wpAnyH_take (i := 21) (oi := _) (v := _) ?hi30 (by kernel_rfl) (by kernel_rfl) (by kernel_rfl) (fun _ _ _ h => h) (Or.inl ⟨?hw30, ?hy30⟩) hHeld6 ?rest30
              case hi30 => (simp only [List.getElem?_toArray, List.getElem?_cons_succ, List.getElem?_cons_zero]; rfl)
              case hw30 => rfl
              case hy30 => (intro w hSw; (try dsimp only at hSw); go_simp; try (with_reducible rfl))
              (try simp only [Act.put, List.setIfInBounds_toArray, List.set_cons_zero, List.set_cons_succ])
              refine wpAnyH_ready (rs := [22]) (by kernel_rfl) (by simp) ?_
              refine' AllReadyH.cons (o := _) ?ho31 (fun K hK => ?step31) ?more31
              case ho31 => (simp only [List.getElem?_toArray, List.getElem?_cons_succ, List.getElem?_cons_zero]; rfl)
              case step31 =>
                go_simp
                refine hK.out _ _ ?_ (fun hHeld7 => ?_)
                · (try dsimp only); (first | exact HS.out _ (Keeps.refl [] w14).drew | exact HS.out _ ((Keeps.refl [] w14).drew.alloc _) | exact HS.out _ (((Keeps.refl [] w14).drew.alloc _).alloc _))
                clear hK K hHeld6
                (try simp only [Act.put, List.setIfInBounds_toArray, List.set_cons_zero, List.set_cons_succ])
                refine' wpAnyH_take (i := 23) (oi := _) (v := _) ?hi32 (by kernel_rfl) (by kernel_rfl) (by kernel_rfl) (fun _ _ _ h => h) (Or.inl ⟨?hw32, ?hy32⟩) hHeld7 ?rest32
                case hi32 => (simp only [List.getElem?_toArray, List.getElem?_cons_succ, List.getElem?_cons_zero]; rfl)
                case hw32 => rfl
                case hy32 => (intro w hSw; (try dsimp only at hSw); go_simp; try (with_reducible rfl))
                (try simp only [Act.put, List.setIfInBounds_toArray, List.set_cons_zero, List.set_cons_succ])
                refine' wpAnyH_take (i := 24) (oi := _) (v := _) ?hi33 (by kernel_rfl) (by kernel_rfl) (by kernel_rfl) (fun _ _ _ h => h) (Or.inl ⟨?hw33, ?hy33⟩) hHeld7 ?rest33
                case hi33 => (simp only [List.getElem?_toArray, List.getElem?_cons_succ, List.getElem?_cons_zero]; rfl)
                case hw33 => rfl
                case hy33 => (intro w hSw; (try dsimp only at hSw); go_simp; try (with_reducible rfl))
                (try simp only [Act.put, List.setIfInBounds_toArray, List.set_cons_zero, List.set_cons_succ])
                refine wpAnyH_ready (rs := [25]) (by kernel_rfl) (by simp) ?_
                refine' AllReadyH.cons (o := _) ?ho34 (fun K hK => ?step34) ?more34
                case ho34 => (simp only [List.getElem?_toArray, List.getElem?_cons_succ, List.getElem?_cons_zero]; rfl)
                case step34 =>
                  go_simp
                  refine hK.out _ _ ?_ (fun hHeld8 => ?_)
                  · (try dsimp only); (first | exact HS.out _ (Keeps.refl [] w14).drew | exact HS.out _ ((Keeps.refl [] w14).drew.alloc _) | exact HS.out _ (((Keeps.refl [] w14).drew.alloc _).alloc _))
                  clear hK K hHeld7
                  (try simp only [Act.put, List.setIfInBounds_toArray, List.set_cons_zero, List.set_cons_succ])
                  refine wpAnyH_done (by kernel_rfl) ?_ _
                  refine NoPanic.normal ?_
                  go_wp2
                  go_ret
                  exact ⟨rfl, (K14.trans (((Keeps.refl [] w14).alloc _).alloc _).drew).below (Nat.le_refl _) (by simp)⟩
                exact AllReadyH.nil
              exact AllReadyH.nil
            exact AllReadyH.nil
          exact AllReadyH.nil
        refine' AllReadyH.cons (o := _) ?ho35 (fun K hK => ?step35) ?more35
        case ho35 => (simp only [List.getElem?_toArray, List.getElem?_cons_succ, List.getElem?_cons_zero]; rfl)
        case step35 =>
          go_simp
          refine hK.out _ _ ?_ (fun hHeld4 => ?_)
          · (try dsimp only); (first | exact HS.out _ (Keeps.refl [] w14).drew | exact HS.out _ ((Keeps.refl [] w14).drew.alloc _) | exact HS.out _ (((Keeps.refl [] w14).drew.alloc _).alloc _))
          clear hK K hHeld3
          (try simp only [Act.put, List.setIfInBounds_toArray, List.set_cons_zero, List.set_cons_succ])
          refine wpAnyH_ready (rs := [13]) (by kernel_rfl) (by simp) ?_
          refine' AllReadyH.cons (o := _) ?ho36 (fun K hK => ?step36) ?more36
          case ho36 => (simp only [List.getElem?_toArray, List.getElem?_cons_succ, List.getElem?_cons_zero]; rfl)
          case step36 =>
            go_simp
            (go_at_call 15; refine (load_eq _ pe ae _ 0 vb (hE14.keep (by first | exact (Keeps.refl [] _).drew | exact ((Keeps.refl [] _).drew.alloc _) | exact (((Keeps.refl [] _).drew.alloc _).alloc _)) (by simp) (by simp) (by simp) (by simp)) (by rw [HEN.out]; omega) HVB.out).mono ?_; rintro e w9 ⟨rfl, rfl⟩)
            (try go_wp2_with fail)
            refine hK.out _ _ ?_ (fun hHeld5 => ?_)
            · (try dsimp only); (first | exact HS.out _ (Keeps.refl [] w14).drew | exact HS.out _ ((Keeps.refl [] w14).drew.alloc _) | exact HS.out _ (((Keeps.refl [] w14).drew.alloc _).alloc _))
            clear hK K hHeld4
            (try simp only [Act.put, List.setIfInBounds_toArray, List.set_cons_zero, List.set_cons_succ])
            refine wpAnyH_ready (rs := [19]) (by kernel_rfl) (by simp) ?_
            refine' AllReadyH.cons (o := _) ?ho37 (fun K hK => ?step37) ?more37
            case ho37 => (simp only [List.getElem?_toArray, List.getElem?_cons_succ, List.getElem?_cons_zero]; rfl)
            case step37 =>
              go_simp
              (go_at_call 27; refine (choice_at _ bits 0 (by omega)).mono ?_; rintro e w9 ⟨rfl, rfl⟩)
              (try go_wp2_with fail)
              refine hK.out _ _ ?_ (fun hHeld6 => ?_)
              · (try dsimp only); (first | exact HS.out _ (Keeps.refl [] w14).drew | exact HS.out _ ((Keeps.refl [] w14).drew.alloc _) | exact HS.out _ (((Keeps.refl [] w14).drew.alloc _).alloc _))
              clear hK K hHeld5
              (try simp only [Act.put, List.setIfInBounds_toArray, List.set_cons_zero, List.set_cons_succ])
              refine' wpAnyH_take (i := 20) (oi := _) (v := _) ?hi38 (by kernel_rfl) (by kernel_rfl) (by kernel_rfl) (fun _ _ _ h => h) (Or.inl ⟨?hw38, ?hy38⟩) hHeld6 ?rest38
              case hi38 => (simp only [List.getElem?_toArray, List.getElem?_cons_succ, List.getElem?_cons_zero]; rfl)
              case hw38 => rfl
              case hy38 => (intro w hSw; (try dsimp only at hSw); go_simp; try (with_reducible rfl))
              (try simp only [Act.put, List.setIfInBounds_toArray, List.set_cons_zero, List.set_cons_succ])
              refine' wpAnyH_take (i := 21) (oi := _) (v := _) ?hi39 (by kernel_rfl) (by kernel_rfl) (by kernel_rfl) (fun _ _ _ h => h) (Or.inl ⟨?hw39, ?hy39⟩) hHeld6 ?rest39
              case hi39 => (simp only [List.getElem?_toArray, List.getElem?_cons_succ, List.getElem?_cons_zero]; rfl)
              case hw39 => rfl
              case hy39 => (intro w hSw; (try dsimp only at hSw); go_simp; try (with_reducible rfl))
              (try simp only [Act.put, List.setIfInBounds_toArray, List.set_cons_zero, List.set_cons_succ])
              refine wpAnyH_ready (rs := [22]) (by kernel_rfl) (by simp) ?_
              refine' AllReadyH.cons (o := _) ?ho40 (fun K hK => ?step40) ?more40
              case ho40 => (simp only [List.getElem?_toArray, List.getElem?_cons_succ, List.getElem?_cons_zero]; rfl)
              case step40 =>
                go_simp
                refine hK.out _ _ ?_ (fun hHeld7 => ?_)
                · (try dsimp only); (first | exact HS.out _ (Keeps.refl [] w14).drew | exact HS.out _ ((Keeps.refl [] w14).drew.alloc _) | exact HS.out _ (((Keeps.refl [] w14).drew.alloc _).alloc _))
                clear hK K hHeld6
                (try simp only [Act.put, List.setIfInBounds_toArray, List.set_cons_zero, List.set_cons_succ])
                refine' wpAnyH_take (i := 23) (oi := _) (v := _) ?hi41 (by kernel_rfl) (by kernel_rfl) (by kernel_rfl) (fun _ _ _ h => h) (Or.inl ⟨?hw41, ?hy41⟩) hHeld7 ?rest41
                case hi41 => (simp only [List.getElem?_toArray, List.getElem?_cons_succ, List.getElem?_cons_zero]; rfl)
                case hw41 => rfl
                case hy41 => (intro w hSw; (try dsimp only at hSw); go_simp; try (with_reducible rfl))
                (try simp only [Act.put, List.setIfInBounds_toArray, List.set_cons_zero, List.set_cons_succ])
                refine' wpAnyH_take (i := 24) (oi := _) (v := _) ?hi42 (by kernel_rfl) (by kernel_rfl) (by kernel_rfl) (fun _ _ _ h => h) (Or.inl ⟨?hw42, ?hy42⟩) hHeld7 ?rest42
                case hi42 => (simp only [List.getElem?_toArray, List.getElem?_cons_succ, List.getElem?_cons_zero]; rfl)
                case hw42 => rfl
                case hy42 => (intro w hSw; (try dsimp only at hSw); go_simp; try (with_reducible rfl))
                (try simp only [Act.put, List.setIfInBounds_toArray, List.set_cons_zero, List.set_cons_succ])
                refine wpAnyH_ready (rs := [25]) (by kernel_rfl) (by simp) ?_
                refine' AllReadyH.cons (o := _) ?ho43 (fun K hK => ?step43) ?more43
                case ho43 => (simp only [List.getElem?_toArray, List.getElem?_cons_succ, List.getElem?_cons_zero]; rfl)
                case step43 =>
                  go_simp
                  refine hK.out _ _ ?_ (fun hHeld8 => ?_)
                  · (try dsimp only); (first | exact HS.out _ (Keeps.refl [] w14).drew | exact HS.out _ ((Keeps.refl [] w14).drew.alloc _) | exact HS.out _ (((Keeps.refl [] w14).drew.alloc _).alloc _))
                  clear hK K hHeld7
                  (try simp only [Act.put, List.setIfInBounds_toArray, List.set_cons_zero, List.set_cons_succ])
                  refine wpAnyH_done (by kernel_rfl) ?_ _
                  refine NoPanic.normal ?_
                  go_wp2
                  go_ret
                  exact ⟨rfl, (K14.trans (((Keeps.refl [] w14).alloc _).alloc _).drew).below (Nat.le_refl _) (by simp)⟩
                exact AllReadyH.nil
              exact AllReadyH.nil
            exact AllReadyH.nil
          exact AllReadyH.nil
        exact AllReadyH.nil
      exact AllReadyH.nil
    exact AllReadyH.nil
  refine' AllReadyH.cons (o := _) ?ho44 (fun K hK => ?step44) ?more44
  case ho44 => (simp only [List.getElem?_toArray, List.getElem?_cons_succ, List.getElem?_cons_zero]; rfl)
  case step44 =>
    go_simp
    (go_at_call 27; refine (choice_at _ bits 0 (by omega)).mono ?_; rintro e w9 ⟨rfl, rfl⟩)
    (try go_wp2_with fail)
    refine hK.out _ _ ?_ (fun hHeld1 => ?_)
    · (try dsimp only); (first | exact HS.out _ (Keeps.refl [] w14).drew | exact HS.out _ ((Keeps.refl [] w14).drew.alloc _) | exact HS.out _ (((Keeps.refl [] w14).drew.alloc _).alloc _))
    clear hK K hHeld0
    (try simp only [Act.put, List.setIfInBounds_toArray, List.set_cons_zero, List.set_cons_succ])
    refine' wpAnyH_take (i := 7) (oi := _) (v := _) ?hi45 (by kernel_rfl) (by kernel_rfl) (by kernel_rfl) (fun _ _ _ h => h) (Or.inl ⟨?hw45, ?hy45⟩) hHeld1 ?rest45
    case hi45 => (simp only [List.getElem?_toArray, List.getElem?_cons_succ, List.getElem?_cons_zero]; rfl)
    case hw45 => rfl
    case hy45 => (intro w hSw; (try dsimp only at hSw); go_simp; try (with_reducible rfl))
    (try simp only [Act.put, List.setIfInBounds_toArray, List.set_cons_zero, List.set_cons_succ])
    refine wpAnyH_ready (rs := [4]) (by kernel_rfl) (by simp) ?_
    refine' AllReadyH.cons (o := _) ?ho46 (fun K hK => ?step46) ?more46
    case ho46 => (simp only [List.getElem?_toArray, List.getElem?_cons_succ, List.getElem?_cons_zero]; rfl)
    case step46 =>
      go_simp
      refine hK.out _ _ ?_ (fun hHeld2 => ?_)
      · (try dsimp only); (first | exact HS.out _ (Keeps.refl [] w14).drew | exact HS.out _ ((Keeps.refl [] w14).drew.alloc _) | exact HS.out _ (((Keeps.refl [] w14).drew.alloc _).alloc _))
      clear hK K hHeld1
      (try simp only [Act.put, List.setIfInBounds_toArray, List.set_cons_zero, List.set_cons_succ])
      refine' wpAnyH_take (i := 8) (oi := _) (v := _) ?hi47 (by kernel_rfl) (by kernel_rfl) (by kernel_rfl) (fun _ _ _ h => h) (Or.inl ⟨?hw47, ?hy47⟩) hHeld2 ?rest47
      case hi47 => (simp only [List.getElem?_toArray, List.getElem?_cons_succ, List.getElem?_cons_zero]; rfl)
      case hw47 => rfl
      case hy47 => (intro w hSw; (try dsimp only at hSw); go_simp; try (with_reducible rfl))
      (try simp only [Act.put, List.setIfInBounds_toArray, List.set_cons_zero, List.set_cons_succ])
      refine wpAnyH_ready (rs := [9]) (by kernel_rfl) (by simp) ?_
      refine' AllReadyH.cons (o := _) ?ho48 (fun K hK => ?step48) ?more48
      case ho48 => (simp only [List.getElem?_toArray, List.getElem?_cons_succ, List.getElem?_cons_zero]; rfl)
      case step48 =>
        go_simp
        refine hK.out _ _ ?_ (fun hHeld3 => ?_)
        · (try dsimp only); (first | exact HS.out _ (Keeps.refl [] w14).drew | exact HS.out _ ((Keeps.refl [] w14).drew.alloc _) | exact HS.out _ (((Keeps.refl [] w14).drew.alloc _).alloc _))
        clear hK K hHeld2
        (try simp only [Act.put, List.setIfInBounds_toArray, List.set_cons_zero, List.set_cons_succ])
        refine' wpAnyH_take (i := 10) (oi := _) (v := _) ?hi49 (by kernel_rfl) (by kernel_rfl) (by kernel_rfl) (fun _ _ _ h => h) (Or.inl ⟨?hw49, ?hy49⟩) hHeld3 ?rest49
        case hi49 => (simp only [List.getElem?_toArray, List.getElem?_cons_succ, List.getElem?_cons_zero]; rfl)
        case hw49 => rfl
        case hy49 => (intro w hSw; (try dsimp only at hSw); go_simp; try (with_reducible rfl))
        (try simp only [Act.put, List.setIfInBounds_toArray, List.set_cons_zero, List.set_cons_succ])
        refine' wpAnyH_take (i := 11) (oi := _) (v := _) ?hi50 (by kernel_rfl) (by kernel_rfl) (by kernel_rfl) (fun _ _ _ h => h) (Or.inl ⟨?hw50, ?hy50⟩) hHeld3 ?rest50
        case hi50 => (simp only [List.getElem?_toArray, List.getElem?_cons_succ, List.getElem?_cons_zero]; rfl)
        case hw50 => rfl
        case hy50 => (intro w hSw; (try dsimp only at hSw); go_simp; try (with_reducible rfl))
        (try simp only [Act.put, List.setIfInBounds_toArray, List.set_cons_zero, List.set_cons_succ])
        refine' wpAnyH_take (i := 12) (oi := _) (v := _) ?hi51 (by kernel_rfl) (by kernel_rfl) (by kernel_rfl) (fun _ _ _ h => h) (Or.inl ⟨?hw51, ?hy51⟩) hHeld3 ?rest51
        case hi51 => (simp only [List.getElem?_toArray, List.getElem?_cons_succ, List.getElem?_cons_zero]; rfl)
        case hw51 => rfl
        case hy51 => (intro w hSw; (try dsimp only at hSw); go_simp; try (with_reducible rfl))
        (try simp only [Act.put, List.setIfInBounds_toArray, List.set_cons_zero, List.set_cons_succ])
        refine' wpAnyH_take (i := 14) (oi := _) (v := _) ?hi52 (by kernel_rfl) (by kernel_rfl) (by kernel_rfl) (fun _ _ _ h => h) (Or.inl ⟨?hw52, ?hy52⟩) hHeld3 ?rest52
        case hi52 => (simp only [List.getElem?_toArray, List.getElem?_cons_succ, List.getElem?_cons_zero]; rfl)
        case hw52 => rfl
        case hy52 => (intro w hSw; (try dsimp only at hSw); go_simp; try (with_reducible rfl))
        (try simp only [Act.put, List.setIfInBounds_toArray, List.set_cons_zero, List.set_cons_succ])
        refine' wpAnyH_take (i := 15) (oi := _) (v := _) ?hi53 (by kernel_rfl) (by kernel_rfl) (by kernel_rfl) (fun _ _ _ h => h) (Or.inl ⟨?hw53, ?hy53⟩) hHeld3 ?rest53
        case hi53 => (simp only [List.getElem?_toArray, List.getElem?_cons_succ, List.getElem?_cons_zero]; rfl)
        case hw53 => rfl
        case hy53 => (intro w hSw; (try dsimp only at hSw); go_simp; try (with_reducible rfl))
        (try simp only [Act.put, List.setIfInBounds_toArray, List.set_cons_zero, List.set_cons_succ])
        refine' wpAnyH_take (i := 16) (oi := _) (v := _) ?hi54 (by kernel_rfl) (by kernel_rfl) (by kernel_rfl) (fun _ _ _ h => h) (Or.inl ⟨?hw54, ?hy54⟩) hHeld3 ?rest54
        case hi54 => (simp only [List.getElem?_toArray, List.getElem?_cons_succ, List.getElem?_cons_zero]; rfl)
        case hw54 => rfl
        case hy54 => (intro w hSw; (try dsimp only at hSw); go_simp; try (with_reducible rfl))
        (try simp only [Act.put, List.setIfInBounds_toArray, List.set_cons_zero, List.set_cons_succ])
        refine' wpAnyH_take (i := 18) (oi := _) (v := _) ?hi55 (by kernel_rfl) (by kernel_rfl) (by kernel_rfl) (fun _ _ _ h => h) (Or.inl ⟨?hw55, ?hy55⟩) hHeld3 ?rest55
        case hi55 => (simp only [List.getElem?_toArray, List.getElem?_cons_succ, List.getElem?_cons_zero]; rfl)
        case hw55 => rfl
        case hy55 => (intro w hSw; (try dsimp only at hSw); go_simp; try (with_reducible rfl))
        (try simp only [Act.put, List.setIfInBounds_toArray, List.set_cons_zero, List.set_cons_succ])
        refine wpAnyH_ready (rs := [13, 17]) (by kernel_rfl) (by simp) ?_
        refine' AllReadyH.cons (o := _) ?ho56 (fun K hK => ?step56) ?more56
        case ho56 => (simp only [List.getElem?_toArray, List.getElem?_cons_succ, List.getElem?_cons_zero]; rfl)
        case step56 =>
          go_simp
          (go_at_call 15; refine (load_eq _ pe ae _ 0 vb (hE14.keep (by first | exact (Keeps.refl [] _).drew | exact ((Keeps.refl [] _).drew.alloc _) | exact (((Keeps.refl [] _).drew.alloc _).alloc _)) (by simp) (by simp) (by simp) (by simp)) (by rw [HEN.out]; omega) HVB.out).mono ?_; rintro e w9 ⟨rfl, rfl⟩)
          (try go_wp2_with fail)
          refine hK.out _ _ ?_ (fun hHeld4 => ?_)
          · (try dsimp only); (first | exact HS.out _ (Keeps.refl [] w14).drew | exact HS.out _ ((Keeps.refl [] w14).drew.alloc _) | exact HS.out _ (((Keeps.refl [] w14).drew.alloc _).alloc _))
          clear hK K hHeld3
          (try simp only [Act.put, List.setIfInBounds_toArray, List.set_cons_zero, List.set_cons_succ])
          refine wpAnyH_ready (rs := [17, 19]) (by kernel_rfl) (by simp) ?_
          refine' AllReadyH.cons (o := _) ?ho57 (fun K hK => ?step57) ?more57
          case ho57 => (simp only [List.getElem?_toArray, List.getElem?_cons_succ, List.getElem?_cons_zero]; rfl)
          case step57 =>
            go_simp
            refine hK.out _ _ ?_ (fun hHeld5 => ?_)
            · (try dsimp only); (first | exact HS.out _ (Keeps.refl [] w14).drew | exact HS.out _ ((Keeps.refl [] w14).drew.alloc _) | exact HS.out _ (((Keeps.refl [] w14).drew.alloc _).alloc _))
            clear hK K hHeld4
            (try simp only [Act.put, List.setIfInBounds_toArray, List.set_cons_zero, List.set_cons_succ])
            refine wpAnyH_ready (rs := [19]) (by kernel_rfl) (by simp) ?_
            refine' AllReadyH.cons (o := _) ?ho58 (fun K hK => ?step58) ?more58
            case ho58 => (simp only [List.getElem?_toArray, List.getElem?_cons_succ, List.getElem?_cons_zero]; rfl)
            case step58 =>
              go_simp
              (go_at_call 27; refine (choice_at _ bits 0 (by omega)).mono ?_; rintro e w9 ⟨rfl, rfl⟩)
              (try go_wp2_with fail)
              refine hK.out _ _ ?_ (fun hHeld6 => ?_)
              · (try dsimp only); (first | exact HS.out _ (Keeps.refl [] w14).drew | exact HS.out _ ((Keeps.refl [] w14).drew.alloc _) | exact HS.out _ (((Keeps.refl [] w14).drew.alloc _).alloc _))
              clear hK K hHeld5
              (try simp only [Act.put, List.setIfInBounds_toArray, List.set_cons_zero, List.set_cons_succ])
              refine' wpAnyH_take (i := 20) (oi := _) (v := _) ?hi59 (by kernel_rfl) (by kernel_rfl) (by kernel_rfl) (fun _ _ _ h => h) (Or.inl ⟨?hw59, ?hy59⟩) hHeld6 ?rest59
              case hi59 => (simp only [List.getElem?_toArray, List.getElem?_cons_succ, List.getElem?_cons_zero]; rfl)
              case hw59 => rfl
              case hy59 => (intro w hSw; (try dsimp only at hSw); go_simp; try (with_reducible rfl))
              (try simp only [Act.put, List.setIfInBounds_toArray, List.set_cons_zero, List.set_cons_succ])
              refine' wpAnyH_take (i := 21) (oi := _) (v := _) ?hi60 (by kernel_rfl) (by kernel_rfl) (by kernel_rfl) (fun _ _ _ h => h) (Or.inl ⟨?hw60, ?hy60⟩) hHeld6 ?rest60
              case hi60 => (simp only [List.getElem?_toArray, List.getElem?_cons_succ, List.getElem?_cons_zero]; rfl)
              case hw60 => rfl
              case hy60 => (intro w hSw; (try dsimp only at hSw); go_simp; try (with_reducible rfl))
              (try simp only [Act.put, List.setIfInBounds_toArray, List.set_cons_zero, List.set_cons_succ])
              refine wpAnyH_ready (rs := [22]) (by kernel_rfl) (by simp) ?_
              refine' AllReadyH.cons (o := _) ?ho61 (fun K hK => ?step61) ?more61
              case ho61 => (simp only [List.getElem?_toArray, List.getElem?_cons_succ, List.getElem?_cons_zero]; rfl)
              case step61 =>
                go_simp
                refine hK.out _ _ ?_ (fun hHeld7 => ?_)
                · (try dsimp only); (first | exact HS.out _ (Keeps.refl [] w14).drew | exact HS.out _ ((Keeps.refl [] w14).drew.alloc _) | exact HS.out _ (((Keeps.refl [] w14).drew.alloc _).alloc _))
                clear hK K hHeld6
                (try simp only [Act.put, List.setIfInBounds_toArray, List.set_cons_zero, List.set_cons_succ])
                refine' wpAnyH_take (i := 23) (oi := _) (v := _) ?hi62 (by kernel_rfl) (by kernel_rfl) (by kernel_rfl) (fun _ _ _ h => h) (Or.inl ⟨?hw62, ?hy62⟩) hHeld7 ?rest62
                case hi62 => (simp only [List.getElem?_toArray, List.getElem?_cons_succ, List.getElem?_cons_zero]; rfl)
                case hw62 => rfl
                case hy62 => (intro w hSw; (try dsimp only at hSw); go_simp; try (with_reducible rfl))
                (try simp only [Act.put, List.setIfInBounds_toArray, List.set_cons_zero, List.set_cons_succ])
                refine' wpAnyH_take (i := 24) (oi := _) (v := _) ?hi63 (by kernel_rfl) (by kernel_rfl) (by kernel_rfl) (fun _ _ _ h => h) (Or.inl ⟨?hw63, ?hy63⟩) hHeld7 ?rest63
                case hi63 => (simp only [List.getElem?_toArray, List.getElem?_cons_succ, List.getElem?_cons_zero]; rfl)
                case hw63 => rfl
                case hy63 => (intro w hSw; (try dsimp only at hSw); go_simp; try (with_reducible rfl))
                (try simp only [Act.put, List.setIfInBounds_toArray, List.set_cons_zero, List.set_cons_succ])
                refine wpAnyH_ready (rs := [25]) (by kernel_rfl) (by simp) ?_
                refine' AllReadyH.cons (o := _) ?ho64 (fun K hK => ?step64) ?more64
                case ho64 => (simp only [List.getElem?_toArray, List.getElem?_cons_succ, List.getElem?_cons_zero]; rfl)
                case step64 =>
                  go_simp
                  refine hK.out _ _ ?_ (fun hHeld8 => ?_)
                  · (try dsimp only); (first | exact HS.out _ (Keeps.refl [] w14).drew | exact HS.out _ ((Keeps.refl [] w14).drew.alloc _) | exact HS.out _ (((Keeps.refl [] w14).drew.alloc _).alloc _))
                  clear hK K hHeld7
                  (try simp only [Act.put, List.setIfInBounds_toArray, List.set_cons_zero, List.set_cons_succ])
                  refine wpAnyH_done (by kernel_rfl) ?_ _
                  refine NoPanic.normal ?_
                  go_wp2
                  go_ret
                  exact ⟨rfl, (K14.trans (((Keeps.refl [] w14).alloc _).alloc _).drew).below (Nat.le_refl _) (by simp)⟩
                exact AllReadyH.nil
              exact AllReadyH.nil
            exact AllReadyH.nil
          refine' AllReadyH.cons (o := _) ?ho65 (fun K hK => ?step65) ?more65
          case ho65 => (simp only [List.getElem?_toArray, List.getElem?_cons_succ, List.getElem?_cons_zero]; rfl)
          case step65 =>
            go_simp
            (go_at_call 27; refine (choice_at _ bits 0 (by omega)).mono ?_; rintro e w9 ⟨rfl, rfl⟩)
            (try go_wp2_with fail)
            refine hK.out _ _ ?_ (fun hHeld5 => ?_)
            · (try dsimp only); (first | exact HS.out _ (Keeps.refl [] w14).drew | exact HS.out _ ((Keeps.refl [] w14).drew.alloc _) | exact HS.out _ (((Keeps.refl [] w14).drew.alloc _).alloc _))
            clear hK K hHeld4
            (try simp only [Act.put, List.setIfInBounds_toArray, List.set_cons_zero, List.set_cons_succ])
            refine' wpAnyH_take (i := 20) (oi := _) (v := _) ?hi66 (by kernel_rfl) (by kernel_rfl) (by kernel_rfl) (fun _ _ _ h => h) (Or.inl ⟨?hw66, ?hy66⟩) hHeld5 ?rest66
            case hi66 => (simp only [List.getElem?_toArray, List.getElem?_cons_succ, List.getElem?_cons_zero]; rfl)
            case hw66 => rfl
            case hy66 => (intro w hSw; (try dsimp only at hSw); go_simp; try (with_reducible rfl))
            (try simp only [Act.put, List.setIfInBounds_toArray, List.set_cons_zero, List.set_cons_succ])
            refine wpAnyH_ready (rs := [17]) (by kernel_rfl) (by simp) ?_
            refine' AllReadyH.cons (o := _) ?ho67 (fun K hK => ?step67) ?more67
            case ho67 => (simp only [List.getElem?_toArray, List.getElem?_cons_succ, List.getElem?_cons_zero]; rfl)
            case step67 =>
              go_simp
              refine hK.out _ _ ?_ (fun hHeld6 => ?_)
              · (try dsimp only); (first | exact HS.out _ (Keeps.refl [] w14).drew | exact HS.out _ ((Keeps.refl [] w14).drew.alloc _) | exact HS.out _ (((Keeps.refl [] w14).drew.alloc _).alloc _))
              clear hK K hHeld5
              (try simp only [Act.put, List.setIfInBounds_toArray, List.set_cons_zero, List.set_cons_succ])
              refine' wpAnyH_take (i := 21) (oi := _) (v := _) ?hi68 (by kernel_rfl) (by kernel_rfl) (by kernel_rfl) (fun _ _ _ h => h) (Or.inl ⟨?hw68, ?hy68⟩) hHeld6 ?rest68
              case hi68 => (simp only [List.getElem?_toArray, List.getElem?_cons_succ, List.getElem?_cons_zero]; rfl)
              case hw68 => rfl
              case hy68 => (intro w hSw; (try dsimp only at hSw); go_simp; try (with_reducible rfl))
              (try simp only [Act.put, List.setIfInBounds_toArray, List.set_cons_zero, List.set_cons_succ])
              refine wpAnyH_ready (rs := [22]) (by kernel_rfl) (by simp) ?_
              refine' AllReadyH.cons (o := _) ?ho69 (fun K hK => ?step69) ?more69
              case ho69 => (simp only [List.getElem?_toArray, List.getElem?_cons_succ, List.getElem?_cons_zero]; rfl)
              case step69 =>
                go_simp
                refine hK.out _ _ ?_ (fun hHeld7 => ?_)
                · (try dsimp only); (first | exact HS.out _ (Keeps.refl [] w14).drew | exact HS.out _ ((Keeps.refl [] w14).drew.alloc _) | exact HS.out _ (((Keeps.refl [] w14).drew.alloc _).alloc _))
                clear hK K hHeld6
                (try simp only [Act.put, List.setIfInBounds_toArray, List.set_cons_zero, List.set_cons_succ])
                refine' wpAnyH_take (i := 23) (oi := _) (v := _) ?hi70 (by kernel_rfl) (by kernel_rfl) (by kernel_rfl) (fun _ _ _ h => h) (Or.inl ⟨?hw70, ?hy70⟩) hHeld7 ?rest70
                case hi70 => (simp only [List.getElem?_toArray, List.getElem?_cons_succ, List.getElem?_cons_zero]; rfl)
                case hw70 => rfl
                case hy70 => (intro w hSw; (try dsimp only at hSw); go_simp; try (with_reducible rfl))
                (try simp only [Act.put, List.setIfInBounds_toArray, List.set_cons_zero, List.set_cons_succ])
                refine' wpAnyH_take (i := 24) (oi := _) (v := _) ?hi71 (by kernel_rfl) (by kernel_rfl) (by kernel_rfl) (fun _ _ _ h => h) (Or.inl ⟨?hw71, ?hy71⟩) hHeld7 ?rest71
                case hi71 => (simp only [List.getElem?_toArray, List.getElem?_cons_succ, List.getElem?_cons_zero]; rfl)
                case hw71 => rfl
                case hy71 => (intro w hSw; (try dsimp only at hSw); go_simp; try (with_reducible rfl))
                (try simp only [Act.put, List.setIfInBounds_toArray, List.set_cons_zero, List.set_cons_succ])
                refine wpAnyH_ready (rs := [25]) (by kernel_rfl) (by simp) ?_
                refine' AllReadyH.cons (o := _) ?ho72 (fun K hK => ?step72) ?more72
                case ho72 => (simp only [List.getElem?_toArray, List.getElem?_cons_succ, List.getElem?_cons_zero]; rfl)
                case step72 =>
                  go_simp
                  refine hK.out _ _ ?_ (fun hHeld8 => ?_)
                  · (try dsimp only); (first | exact HS.out _ (Keeps.refl [] w14).drew | exact HS.out _ ((Keeps.refl [] w14).drew.alloc _) | exact HS.out _ (((Keeps.refl [] w14).drew.alloc _).alloc _))
                  clear hK K hHeld7
                  (try simp only [Act.put, List.setIfInBounds_toArray, List.set_cons_zero, List.set_cons_succ])
                  refine wpAnyH_done (by kernel_rfl) ?_ _
                  refine NoPanic.normal ?_
                  go_wp2
                  go_ret
                  exact ⟨rfl, (K14.trans (((Keeps.refl [] w14).alloc _).alloc _).drew).below (Nat.le_refl _) (by simp)⟩
                exact AllReadyH.nil
              exact AllReadyH.nil
            exact AllReadyH.nil
          exact AllReadyH.nil
        refine' AllReadyH.cons (o := _) ?ho73 (fun K hK => ?step73) ?more73
        case ho73 => (simp only [List.getElem?_toArray, List.getElem?_cons_succ, List.getElem?_cons_zero]; rfl)
        case step73 =>
          go_simp
          refine hK.out _ _ ?_ (fun hHeld4 => ?_)
          · (try dsimp only); (first | exact HS.out _ (Keeps.refl [] w14).drew | exact HS.out _ ((Keeps.refl [] w14).drew.alloc _) | exact HS.out _ (((Keeps.refl [] w14).drew.alloc _).alloc _))
          clear hK K hHeld3
          (try simp only [Act.put, List.setIfInBounds_toArray, List.set_cons_zero, List.set_cons_succ])
          refine wpAnyH_ready (rs := [13]) (by kernel_rfl) (by simp) ?_
          refine' AllReadyH.cons (o := _) ?ho74 (fun K hK => ?step74) ?more74
          case ho74 => (simp only [List.getElem?_toArray, List.getElem?_cons_succ, List.getElem?_cons_zero]; rfl)
          case step74 =>
            go_simp
            (go_at_call 15; refine (load_eq _ pe ae _ 0 vb (hE14.keep (by first | exact (Keeps.refl [] _).drew | exact ((Keeps.refl [] _).drew.alloc _) | exact (((Keeps.refl [] _).drew.alloc _).alloc _)) (by simp) (by simp) (by simp) (by simp)) (by rw [HEN.out]; omega) HVB.out).mono ?_; rintro e w9 ⟨rfl, rfl⟩)
            (try go_wp2_with fail)
            refine hK.out _ _ ?_ (fun hHeld5 => ?_)
            · (try dsimp only); (first | exact HS.out _ (Keeps.refl [] w14).drew | exact HS.out _ ((Keeps.refl [] w14).drew.alloc _) | exact HS.out _ (((Keeps.refl [] w14).drew.alloc _).alloc _))
            clear hK K hHeld4
            (try simp only [Act.put, List.setIfInBounds_toArray, List.set_cons_zero, List.set_cons_succ])
            refine wpAnyH_ready (rs := [19]) (by kernel_rfl) (by simp) ?_
            refine' AllReadyH.cons (o := _) ?ho75 (fun K hK => ?step75) ?more75
            case ho75 => (simp only [List.getElem?_toArray, List.getElem?_cons_succ, List.getElem?_cons_zero]; rfl)
            case step75 =>
              go_simp
              (go_at_call 27; refine (choice_at _ bits 0 (by omega)).mono ?_; rintro e w9 ⟨rfl, rfl⟩)
              (try go_wp2_with fail)
              refine hK.out _ _ ?_ (fun hHeld6 => ?_)
              · (try dsimp only); (first | exact HS.out _ (Keeps.refl [] w14).drew | exact HS.out _ ((Keeps.refl [] w14).drew.alloc _) | exact HS.out _ (((Keeps.refl [] w14).drew.alloc _).alloc _))
              clear hK K hHeld5
              (try simp only [Act.put, List.setIfInBounds_toArray, List.set_cons_zero, List.set_cons_succ])
              refine' wpAnyH_take (i := 20) (oi := _) (v := _) ?hi76 (by kernel_rfl) (by kernel_rfl) (by kernel_rfl) (fun _ _ _ h => h) (Or.inl ⟨?hw76, ?hy76⟩) hHeld6 ?rest76
              case hi76 => (simp only [List.getElem?_toArray, List.getElem?_cons_succ, List.getElem?_cons_zero]; rfl)
              case hw76 => rfl
              case hy76 => (intro w hSw; (try dsimp only at hSw); go_simp; try (with_reducible rfl))
              (try simp only [Act.put, List.setIfInBounds_toArray, List.set_cons_zero, List.set_cons_succ])
              refine' wpAnyH_take (i := 21) (oi := _) (v := _) ?hi77 (by kernel_rfl) (by kernel_rfl) (by kernel_rfl) (fun _ _ _ h => h) (Or.inl ⟨?hw77, ?hy77⟩) hHeld6 ?rest77
              case hi77 => (simp only [List.getElem?_toArray, List.getElem?_cons_succ, List.getElem?_cons_zero]; rfl)
              case hw77 => rfl
              case hy77 => (intro w hSw; (try dsimp only at hSw); go_simp; try (with_reducible rfl))
              (try simp only [Act.put, List.setIfInBounds_toArray, List.set_cons_zero, List.set_cons_succ])
              refine wpAnyH_ready (rs := [22]) (by kernel_rfl) (by simp) ?_
              refine' AllReadyH.cons (o := _) ?ho78 (fun K hK => ?step78) ?more78
              case ho78 => (simp only [List.getElem?_toArray, List.getElem?_cons_succ, List.getElem?_cons_zero]; rfl)
              case step78 =>
                go_simp
                refine hK.out _ _ ?_ (fun hHeld7 => ?_)
                · (try dsimp only); (first | exact HS.out _ (Keeps.refl [] w14).drew | exact HS.out _ ((Keeps.refl [] w14).drew.alloc _) | exact HS.out _ (((Keeps.refl [] w14).drew.alloc _).alloc _))
                clear hK K hHeld6
                (try simp only [Act.put, List.setIfInBounds_toArray, List.set_cons_zero, List.set_cons_succ])
                refine' wpAnyH_take (i := 23) (oi := _) (v := _) ?hi79 (by kernel_rfl) (by kernel_rfl) (by kernel_rfl) (fun _ _ _ h => h) (Or.inl ⟨?hw79, ?hy79⟩) hHeld7 ?rest79
                case hi79 => (simp only [List.getElem?_toArray, List.getElem?_cons_succ, List.getElem?_cons_zero]; rfl)
                case hw79 => rfl
                case hy79 => (intro w hSw; (try dsimp only at hSw); go_simp; try (with_reducible rfl))
                (try simp only [Act.put, List.setIfInBounds_toArray, List.set_cons_zero, List.set_cons_succ])
                refine' wpAnyH_take (i := 24) (oi := _) (v := _) ?hi80 (by kernel_rfl) (by kernel_rfl) (by kernel_rfl) (fun _ _ _ h => h) (Or.inl ⟨?hw80, ?hy80⟩) hHeld7 ?rest80
                case hi80 => (simp only [List.getElem?_toArray, List.getElem?_cons_succ, List.getElem?_cons_zero]; rfl)
                case hw80 => rfl
                case hy80 => (intro w hSw; (try dsimp only at hSw); go_simp; try (with_reducible rfl))
                (try simp only [Act.put, List.setIfInBounds_toArray, List.set_cons_zero, List.set_cons_succ])
                refine wpAnyH_ready (rs := [25]) (by kernel_rfl) (by simp) ?_
                refine' AllReadyH.cons (o := _) ?ho81 (fun K hK => ?step81) ?more81
                case ho81 => (simp only [List.getElem?_toArray, List.getElem?_cons_succ, List.getElem?_cons_zero]; rfl)
                case step81 =>
                  go_simp
                  refine hK.out _ _ ?_ (fun hHeld8 => ?_)
                  · (try dsimp only); (first | exact HS.out _ (Keeps.refl [] w14).drew | exact HS.out _ ((Keeps.refl [] w14).drew.alloc _) | exact HS.out _ (((Keeps.refl [] w14).drew.alloc _).alloc _))
                  clear hK K hHeld7
                  (try simp only [Act.put, List.setIfInBounds_toArray, List.set_cons_zero, List.set_cons_succ])
                  refine wpAnyH_done (by kernel_rfl) ?_ _
                  refine NoPanic.normal ?_
                  go_wp2
                  go_ret
                  exact ⟨rfl, (K14.trans (((Keeps.refl [] w14).alloc _).alloc _).drew).below (Nat.le_refl _) (by simp)⟩
                exact AllReadyH.nil
              exact AllReadyH.nil
            exact AllReadyH.nil
          exact AllReadyH.nil
        exact AllReadyH.nil
      exact AllReadyH.nil
    exact AllReadyH.nil
  exact AllReadyH.nil

theorem nvmOrder_walk (x y z bits : Int) (W : World) (_ : (Lit.int .u64 x).wf = true) (_ : (Lit.int .u64 y).wf = true) (_ : (Lit.int .u64 z).wf = true) (_ : (Lit.int .u64 bits).wf = true) :
    Calls Try.prog 9 #[.int .u64 x, .int .u64 y, .int .u64 z, .int .u64 bits] W fun e w' => e = .returned (.bool true) ∧ Below W.heap.size W w' := by
  have h0 := (chV_low bits 0).1
  exact order_at x y z bits W (chV bits 0 % 3).toNat (by omega) (by omega)

end Go.Proofs.Ytbpoifcldjlblaa
