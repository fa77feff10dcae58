/- The walk of the law NvmLines. -/
import Derived.Test.YtbpoifcldjlblaaLaw2
import Derived.Test.YtbpoifcldjlblaaArgs
import Derived.Deep.QuietTactic
import Derived.BigQuiet
namespace Go.Proofs.Ytbpoifcldjlblaa
open Go.RowKit

set_option maxHeartbeats 1000000 in
theorem lines_great (a0 : Option Addr) (l0 c0 : Nat) (k v : Int) (a1 : Option Addr) (l1 c1 : Nat) (W : World) (hg : 60 < l0 ∨ l0 = 0 ∨ 30 < l1) :
    Calls Try.prog 8 #[.slice a0 l0 c0, .slice a1 l1 c1, .int .u8 k, .int .u64 v] W fun e w' => e = .returned (.bool true) ∧ Below W.heap.size W w' := by
  by_cases h1 : 60 < l0
  · go_enter Try.func8, Try.ntmps8
    go_wp2_with fail
    refine (lawake_any _).mono ?_
    rintro e w1 ⟨rfl, hb1⟩
    go_wp2_with fail
    go_ret
    exact ⟨rfl, hb1⟩
  · by_cases h2 : l0 = 0
    · subst h2
      go_enter Try.func8, Try.ntmps8
      go_wp2_with fail
      refine (lawake_any _).mono ?_
      rintro e w1 ⟨rfl, hb1⟩
      go_wp2_with fail
      go_ret
      exact ⟨rfl, hb1⟩
    · have h3 : 30 < l1 := by omega
      have h2' : 0 < l0 := by omega
      go_enter Try.func8, Try.ntmps8
      go_wp2_with fail
      refine (lawake_any _).mono ?_
      rintro e w1 ⟨rfl, hb1⟩
      go_wp2_with fail
      go_ret
      exact ⟨rfl, hb1⟩

set_option maxHeartbeats 4000000 in
theorem lines_small (a0 : Option Addr) (l0 c0 : Nat) (f0 : Nat → Int) (k : Nat) (v : Int) (a4 : Option Addr) (l4 c4 : Nat) (f4 : Nat → Int) (W : World) (h1 : l0 ≤ 60) (h2 : 0 < l0) (h3 : l4 ≤ 30)
    (R0 : Reads W a0 l0 f0) (R4 : ReadsV (Value.int .u8) W a4 l4 f4) (F4 : ∀ i, i < l4 → 0 ≤ f4 i ∧ f4 i ≤ 255) (hk : k ≤ 255) :
    Calls Try.prog 8 #[.slice a0 l0 c0, .slice a4 l4 c4, .int .u8 k, .int .u64 v] W fun e w' => e = .returned (.bool true) ∧ Below W.heap.size W w' := by
  have g1 : decide (60 < (l0 : Int)) = false := by rw [decide_eq_false_iff_not]; omega
  have g2 : ((l0 : Int) == 0) = false := by rw [beq_eq_false_iff_ne]; omega
  have g3 : decide (30 < (l4 : Int)) = false := by rw [decide_eq_false_iff_not]; omega
  have HR0 := hid R0
  have HR4 := hid R4
  have HF4 := hid F4
  clear R0 R4 F4
  go_enter Try.func8, Try.ntmps8
  go_wp2_with fail
  refine (lawake_any _).mono ?_
  rintro e w1 ⟨rfl, hb1⟩
  have K1 : Keeps [] W w1 := Go.Proofs.Ytbpoifcldjlblaa.Below.keeps hb1 []
  clear hb1
  go_wp2_with fail
  refine (lnew_at w1 a0 l0 c0 ((l0 + 7) / 8) f0 (HR0.out.keep K1 (by simp)) rfl (by omega)).mono ?_
  rintro e w2 ⟨p, a, rfl, haL, hD2, hp2, ⟨b1, b2, b3, b4, b5⟩, hK2⟩
  have K2 := K1.trans hK2
  have z1 := K1.size
  have hn0 : 0 < a.n ∧ a.n ≤ 64 := by have := a.n8; omega
  have HAL := hid haL
  clear haL
  obtain ⟨kf, hkf⟩ : ∃ kf : Nat → Int, kf = fun i => if i < l0 then f0 i else 0 := ⟨_, rfl⟩
  rw [← hkf] at hD2
  have HKF := hid hkf
  clear hkf
  go_wp2_with fail
  refine (kept_at w2 p a _ hD2).mono ?_
  rintro e w3 ⟨v3, rfl, hv3, hK3⟩
  obtain ⟨g, cap, rfl, hg, hgl, _, hR3⟩ := hv3.reads
  have K3 := K2.trans hK3
  have q1 := hD2.dev.lt
  have q2 := hD2.now.lt
  have q3 := hD2.kept.lt
  have q4 := hD2.map.lt
  have q5 := hp2.lt
  have hD3 := hD2.keep hK3 (by simp) (by simp) (by simp) (by simp)
  have hp3 := hK3.at hp2 (by simp)
  have HS : Hid (∃ S, Dev w3 p a S ∧ S.kept = kf ∧ ∀ q, S.is q = false) := ⟨_, hD3, rfl, fun _ => rfl⟩
  clear hv3 hD2 hD3 hp2
  have HR3 := hid hR3
  clear hR3
  go_wp2_with fail
  go_loopg [41] l4 (fun r s wr => ∃ x : Nat, x + r = l4 ∧ s = .int .i64 x ∧ (∃ S, Dev wr p a S ∧ S.kept = kf ∧ ∀ q, S.is q = false) ∧ (∃ u : Int, At wr p (powO (-1) u) ∧ 0 ≤ u ∧ u ≤ x) ∧ Keeps [p, a.s] w3 wr)
  case atStart => exact ⟨0, by omega, rfl, HS.out, ⟨_, hp3, by omega, by omega⟩, Keeps.refl _ _⟩
  case round =>
    obtain ⟨x, hx, rfl, ⟨S, hD, hS2, hS3⟩, ⟨u, hp, hu0, hu1⟩, hK⟩ := hrel
    have HS2 := hid hS2
    have HS3 := hid hS3
    clear hS2 hS3
    by_cases hlt : x < l4
    · obtain ⟨b, off, rfl, hbl, hc⟩ : ∃ b off, a4 = some ⟨b, off, none⟩ ∧ b < W.heap.size ∧ W.cell? ⟨b, off + x, none⟩ = some (.int .u8 (f4 x)) := by
        rcases HR4.out with h | ⟨b, off, h1, h2, h3⟩
        · omega
        · exact ⟨b, off, h1, h2, h3 x hlt⟩
      have KW : Keeps [] W _ := K3.new hK (by simp; omega)
      have c1 := (KW.cell (p := ⟨b, off + x, none⟩) hbl (by simp)).trans hc
      clear hc
      obtain ⟨y, hy⟩ : ∃ y : Nat, (y : Int) = f4 x := ⟨(f4 x).toNat, by have := (HF4.out x hlt).1; omega⟩
      have hy2 : y ≤ 255 := by have := (HF4.out x hlt).2; omega
      rw [← hy] at c1
      have HY := hid hy
      clear hy
      obtain ⟨j, hj⟩ : ∃ j : Nat, j = y % a.n := ⟨_, rfl⟩
      have ej : (y : Int) % (a.n : Int) = (j : Int) := by omega
      have hjn : j < a.n := by rw [hj]; exact Nat.mod_lt _ hn0.1
      clear hj
      have HL := hid (len_at _ p a _ hD)
      have hST := hid (fun q => store_in _ p a _ (-1) u j q hD hp hjn hu0 (by omega) (.inl (by omega)))
      go_wp2_with fail
      refine HL.out.mono ?_
      rintro e w6 ⟨rfl, rfl⟩
      go_wp2_with fail
      refine (hST.out _).mono ?_
      rintro e w6 ⟨rfl, hD6, hp6, hK6⟩
      go_wp2_with fail
      go_roundg (l4 - (x + 1))
      case measure => omega
      case rel => exact ⟨x + 1, by omega, by go_num, ⟨_, hD6, HS2.out, HS3.out⟩, ⟨u + 1, hp6, by omega, by omega⟩, hK.trans hK6⟩
    · have KW : Keeps [] W _ := K3.new hK (by simp; omega)
      have HRr := hid (HR3.out.keep hK (by rintro b off h1; cases h1; simp; omega))
      have HFE := hid (fence_at _ p a S (-1) u hD hp hu0 (by omega) (.inl (by omega)))
      clear hD hp HR3
      go_wp2_with fail
      refine HFE.out.mono ?_
      rintro e w6 ⟨rfl, hD6, hp6, hK6⟩
      have K6 : Keeps [] W w6 := KW.new hK6 (by simp; omega)
      have HR6 := hid (HRr.out.keep hK6 (by rintro b off h1; cases h1; simp; omega))
      go_wp2_with fail
      refine (kept_at w6 p a _ hD6).mono ?_
      rintro e w7 ⟨v7, rfl, hv7, hK7⟩
      have hD7 := hD6.keep hK7 (by simp) (by simp) (by simp) (by simp)
      have hp7 := hK7.at hp6 (by simp)
      obtain ⟨q7, cap7, rfl, hq7, hq7b, _, hR7⟩ := hv7.reads
      have HR7 := hid (HR6.out.keep hK7 (by simp))
      have HE := hid (equal_true w7 _ _ a.n cap7 cap _ _ hR7 HR7.out (fun i _ => by simp [HS3.out, HS2.out]) (by omega))
      clear hD6 hp6 hv7 hR7 HRr HR6
      go_wp2_with fail
      refine HE.out.mono ?_
      rintro e w8 ⟨rfl, hK8⟩
      have K8 := (K6.trans hK7).trans hK8
      have hD8 := hD7.keep hK8 (by simp) (by simp) (by simp) (by simp)
      have hp8 := hK8.at hp7 (by simp)
      have HR8 := hid (HR7.out.keep hK8 (by simp))
      clear hD7 hp7 HE HR7 HFE
      go_wp2_with fail
      refine (len_at w8 p a _ hD8).mono ?_
      rintro e w9 ⟨rfl, rfl⟩
      obtain ⟨i, hi⟩ : ∃ i : Nat, i = k % a.n := ⟨_, rfl⟩
      have ei : (k : Int) % (a.n : Int) = (i : Int) := by omega
      have hin : i < a.n := by rw [hi]; exact Nat.mod_lt _ hn0.1
      have HI := hid hi
      clear hi
      go_wp2_with fail
      refine (flush_in w8 p a _ (-1) _ i hD8 hp8 hin (by omega) (by omega) (.inl (by omega))).mono ?_
      rintro e w9 ⟨rfl, hD9, hp9, hK9⟩
      have K9 : Keeps [] W w9 := K8.new hK9 (by simp; omega)
      have HR9 := hid (HR8.out.keep hK9 (by rintro b off h1; cases h1; simp; omega))
      clear hD8 hp8 HR8
      go_wp2_with fail
      refine (kept_at w9 p a _ hD9).mono ?_
      rintro e w10 ⟨v10, rfl, hv10, hK10⟩
      have hD10 := hD9.keep hK10 (by simp) (by simp) (by simp) (by simp)
      have hp10 := hK10.at hp9 (by simp)
      obtain ⟨q10, cap10, rfl, hq10, hq10b, _, hR10⟩ := hv10.reads
      have HR10 := hid (HR9.out.keep hK10 (by simp))
      have HE := hid (equal_true w10 _ _ a.n cap10 cap _ _ hR10 HR10.out (fun i _ => by simp [HS3.out, HS2.out]) (by omega))
      clear hD9 hp9 hv10 hR10 HR9
      go_wp2_with fail
      refine HE.out.mono ?_
      rintro e w11 ⟨rfl, hK11⟩
      have K11 := (K9.trans hK10).trans hK11
      have hD11 := hD10.keep hK11 (by simp) (by simp) (by simp) (by simp)
      have hp11 := hK11.at hp10 (by simp)
      have HR11 := hid (HR10.out.keep hK11 (by simp))
      clear hD10 hp10 HE HR10
      go_wp2_with fail
      refine (fence_at w11 p a _ (-1) _ hD11 hp11 (by omega) (by omega) (.inl (by omega))).mono ?_
      rintro e w12 ⟨rfl, hD12, hp12, hK12⟩
      have K12 : Keeps [] W w12 := K11.new hK12 (by simp; omega)
      have HR12 := hid (HR11.out.keep hK12 (by rintro b off h1; cases h1; simp; omega))
      clear hD11 hp11 HR11
      go_wp2_with fail
      refine (words_at w12 p a _ hD12).mono ?_
      rintro e w13 ⟨v13, rfl, hv13, hK13⟩
      have hD13 := hD12.keep hK13 (by simp) (by simp) (by simp) (by simp)
      obtain ⟨q13, cap13, rfl, hq13, hq13b, _, hR13⟩ := hv13.reads
      go_wp2_with fail
      refine (kept_at w13 p a _ hD13).mono ?_
      rintro e w14 ⟨v14, rfl, hv14, hK14⟩
      obtain ⟨q14, cap14, rfl, hq14, hq14b, _, hR14⟩ := hv14.reads
      have K14 := (K12.trans hK13).trans hK14
      have HRn : Hid (Reads w14 (some ⟨q13, 0, none⟩) a.n S.now) := hR13.keep hK14 (by simp)
      have HRk : Hid (Reads w14 (some ⟨q14, 0, none⟩) a.n fun j => if j / 8 = i / 8 then S.now j else kf j) := by
        refine Eq.mp ?_ hR14
        congr 1
        funext j
        by_cases hj : j / 8 = i / 8
        · simp [hj, put]
        · simp [hj, put, HS3.out, HS2.out]
      have HRw := hid ((HR12.out.keep hK13 (by simp)).keep hK14 (by simp))
      clear hD12 hD13 hv13 hv14 hR13 hR14 HR12
      have cells : ∀ {b : Nat} {f : Nat → Int}, Reads w14 (some ⟨b, 0, none⟩) a.n f → Hid (b < w14.heap.size ∧ ∀ x, x < a.n → w14.cell? ⟨b, x, none⟩ = some (.int .u64 (f x))) := by
        intro b f hr
        rcases hr with h | ⟨b', off, h1, h2, h3⟩
        · omega
        · cases h1
          exact ⟨h2, fun x hx => by have := h3 x hx; rwa [Nat.zero_add] at this⟩
      have CN := cells HRn.out
      have CK := cells HRk.out
      have CW := cells HRw.out
      clear cells HRn HRk HRw HS HR4 HR0 HF4 HKF
      go_wp2_with fail
      go_loopg [97] a.n (fun r s wr => ∃ x : Nat, x + r = a.n ∧ s = .int .i64 x ∧ Keeps [] w14 wr)
      case atStart => exact ⟨0, by omega, rfl, Keeps.refl _ _⟩
      case round =>
        obtain ⟨x, hx, rfl, hKr⟩ := hrel
        by_cases hxl : x < a.n
        · have d1 := CN.out.2 x hxl
          rw [← hKr.cell (p := ⟨q13, x, none⟩) CN.out.1 (by simp)] at d1
          have d2 := CK.out.2 x hxl
          rw [← hKr.cell (p := ⟨q14, x, none⟩) CK.out.1 (by simp)] at d2
          have d3 := CW.out.2 x hxl
          rw [← hKr.cell (p := ⟨g, x, none⟩) CW.out.1 (by simp)] at d3
          have xb : (x : Int) < (a.n : Int) := by omega
          have x0 : (0 : Int) ≤ (x : Int) := by omega
          by_cases hin2 : x / 8 = i / 8
          · rw [if_pos hin2] at d2
            have e1 : ((x : Int) / 8 == (i : Int) / 8) = true := by rw [beq_iff_eq]; omega
            have e2 : (S.now x != S.now x) = false := by simp
            go_wp2_with fail
            go_quiet (fail)
            go_wp2_with fail
            clear d1 d2 d3 e1 e2
            go_roundg (a.n - (x + 1))
            case measure => omega
            case rel => exact ⟨x + 1, by omega, by go_num, hKr.drewN _⟩
          · rw [if_neg hin2] at d2
            have e1 : ((x : Int) / 8 == (i : Int) / 8) = false := by rw [beq_eq_false_iff_ne]; omega
            have e2 : (kf x != kf x) = false := by simp
            go_wp2_with fail
            go_quiet (fail)
            go_wp2_with fail
            clear d1 d2 d3 e1 e2
            go_roundg (a.n - (x + 1))
            case measure => omega
            case rel => exact ⟨x + 1, by omega, by go_num, hKr.drewN _⟩
        · have hxn : x = a.n := by omega
          subst hxn
          go_wp2_with fail
          go_ret
          exact ⟨rfl, (K14.trans hKr).below (Nat.le_refl _) (by simp)⟩

theorem nvmLines_walk (a0 : Option Addr) (l0 c0 : Nat) (f0 : Nat → Int) (a1 : Option Addr) (l1 c1 : Nat) (f1 : Nat → Int) (k v : Int) (W : World)
    (R0 : ReadsV (Value.int .u64) W a0 l0 f0) (_ : ∀ i, i < l0 → (Lit.int .u64 (f0 i)).wf = true) (_ : l0 ≤ maxLen)
    (R1 : ReadsV (Value.int .u8) W a1 l1 f1) (F1 : ∀ i, i < l1 → (Lit.int .u8 (f1 i)).wf = true) (_ : l1 ≤ maxLen) (hk : (Lit.int .u8 k).wf = true) (_ : (Lit.int .u64 v).wf = true) :
    Calls Try.prog 8 #[.slice a0 l0 c0, .slice a1 l1 c1, .int .u8 k, .int .u64 v] W fun e w' => e = .returned (.bool true) ∧ Below W.heap.size W w' := by
  by_cases hg : 60 < l0 ∨ l0 = 0 ∨ 30 < l1
  · exact lines_great a0 l0 c0 k v a1 l1 c1 W hg
  · have bk := bounds_u8 hk
    obtain ⟨k, rfl⟩ := Int.eq_ofNat_of_zero_le bk.1
    exact lines_small a0 l0 c0 f0 k v a1 l1 c1 f1 W (by omega) (by omega) (by omega) R0.words R1 (fun i hi => bounds_u8 (F1 i hi)) (by omega)

end Go.Proofs.Ytbpoifcldjlblaa
