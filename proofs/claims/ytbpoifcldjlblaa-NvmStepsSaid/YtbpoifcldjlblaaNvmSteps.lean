/- The walk of the law NvmSteps. -/
import Derived.Test.YtbpoifcldjlblaaNvmPlays
namespace Go.Proofs.Ytbpoifcldjlblaa
open Go.RowKit

/-- What the law's function goes by. -/
structure Caught (w : World) (mb db sb rb : Nat) (p : Nat) (a : DA) (x : MA) (S : DS) (d q v bits : Int) : Prop where
  dev : Dev w p a S
  mdev : MDev w x a.n S.ms
  sep : Sep p a x
  mc : At w mb (.cells #[ptr x.m] 27)
  dc : At w db (.cells #[ptr a.d] 25)
  sc : At w sb (stepO d q v bits)
  rc : At w rb (.cells #[.bool true] 4)
  low : ∀ k ∈ p :: (a.blocks ++ x.blocks), k ≠ mb ∧ k ≠ db ∧ k ≠ sb ∧ k ≠ rb

set_option maxRecDepth 100000 in
set_option maxHeartbeats 1000000 in
theorem steps1_stays (w : World) (mb db sb rb : Nat) (p : Nat) (a : DA) (x : MA) (S : DS) (d q v bits : Int) (h : Caught w mb db sb rb p a x S d q v bits) (l u : Int) (hp : At w p (powO l u)) (hq : 10 < q ∧ q ≤ 255) (hd : 0 ≤ d ∧ d ≤ 255) (hn : 0 < a.n) (h6 : d % 7 ≠ 6)
    (hu0 : 0 ≤ u) (hu1 : u < 9223372036854775807) (hst : Stays l u) :
    Calls Try.prog 19 #[ptr mb, ptr db, ptr sb, ptr rb] w fun e w' => e = .returned (.tuple #[]) ∧
      (Both w' p a x ∧ At w' p (powO l (u + 1)) ∧ At w' rb (.cells #[.bool true] 4) ∧ Keeps (rb :: p :: (a.blocks ++ x.blocks)) w w') := by
  have c1 := h.mc.cell 0 rfl
  have c2 := h.dc.cell 0 rfl
  have s0 := h.sc.cell 0 rfl
  have s1 := h.sc.cell 1 rfl
  have s2 := h.sc.cell 2 rfl
  have s3 := h.sc.cell 3 rfl
  have HD := hid (do_stays w p a x S l u h.dev hp h.mdev h.sep d q v bits hq hd hn h6 hu0 hu1 hst)
  clear hst h6
  go_enter Try.func19, Try.ntmps19
  go_wp2_with fail
  refine HD.out.mono ?_
  rintro e w1 ⟨rfl, hB, hp1, hk1⟩
  have hr1 := hk1.at h.rc (fun hm => (h.low rb hm).2.2.2 rfl)
  have r1 := hr1.cell 0 rfl
  have r2 := hr1.free 0
  clear c1 c2 s0 s1 s2 s3
  go_wp2
  go_end0
  have hks : Keeps [rb] w1 (w1.setCell ⟨rb, 0, none⟩ (.bool true)) := (Keeps.refl _ _).set (.inl (by simp)) _
  have hnr : ∀ k ∈ p :: (a.blocks ++ x.blocks), k ∉ [rb] := fun k hk => by simpa using (h.low k hk).2.2.2
  refine ⟨rfl, ?_, hks.at hp1 (hnr p (by simp)), ?_, (hk1.mono (fun k _ hk => List.mem_cons_of_mem _ hk)).trans (hks.mono (fun k _ hk => by rw [List.mem_singleton.1 hk]; exact List.mem_cons_self))⟩
  · obtain ⟨S', h1, h2⟩ := hB
    exact ⟨S', h1.keep hks (hnr _ (by simp)) (hnr _ (by simp)) (hnr _ (by simp)) (hnr _ (by simp)), h2.keep hks (fun b hb => hnr b (by simp at hb ⊢; omega))⟩
  · exact hr1.set 0 _

set_option maxRecDepth 100000 in
set_option maxHeartbeats 1000000 in
theorem steps1_goes (w : World) (mb db sb rb : Nat) (p : Nat) (a : DA) (x : MA) (S : DS) (d q v bits : Int) (h : Caught w mb db sb rb p a x S d q v bits) (u : Int) (hp : At w p (powO u u)) (hq : 10 < q ∧ q ≤ 255) (hd : 0 ≤ d ∧ d ≤ 255) (hn : 0 < a.n) (h6 : d % 7 ≠ 6)
    (hu0 : 0 ≤ u) (hu1 : u < 9223372036854775807) :
    Calls Try.prog 19 #[ptr mb, ptr db, ptr sb, ptr rb] w fun e w' => e = .panicked [{ v := goneV, recovered := false }] ∧
      (Dev w' p a S ∧ MDev w' x a.n S.ms ∧ At w' p (powO u u) ∧ Keeps [] w w') := by
  have c1 := h.mc.cell 0 rfl
  have c2 := h.dc.cell 0 rfl
  have s0 := h.sc.cell 0 rfl
  have s1 := h.sc.cell 1 rfl
  have s2 := h.sc.cell 2 rfl
  have s3 := h.sc.cell 3 rfl
  have HD := hid (do_goes w p a x S u h.dev hp h.mdev h.sep d q v bits hq hd hn h6 hu0 hu1)
  clear h6
  go_enter Try.func19, Try.ntmps19
  go_wp2_with fail
  refine HD.out.mono ?_
  rintro e w1 ⟨rfl, h1, h2, h3, h4⟩
  exact ⟨rfl, rfl, h1, h2, h3, h4⟩

/-- Run of it. -/
theorem run_stays (w : World) (mb db sb rb : Nat) (p : Nat) (a : DA) (x : MA) (S : DS) (d q v bits : Int) (h : Caught w mb db sb rb p a x S d q v bits) (l u : Int) (hp : At w p (powO l u)) (hq : 10 < q ∧ q ≤ 255) (hd : 0 ≤ d ∧ d ≤ 255) (hn : 0 < a.n) (h6 : d % 7 ≠ 6)
    (hu0 : 0 ≤ u) (hu1 : u < 9223372036854775807) (hst : Stays l u) :
    Calls Try.prog 18 #[.func (.func 19) #[] #[ptr mb, ptr db, ptr sb, ptr rb]] w fun e w' => e = .returned (.bool true) ∧
      (Both w' p a x ∧ At w' p (powO l (u + 1)) ∧ At w' rb (.cells #[.bool true] 4) ∧ Keeps (rb :: p :: (a.blocks ++ x.blocks)) w w') := by
  refine (run_any _ _ w (fun w' => Both w' p a x ∧ At w' p (powO l (u + 1)) ∧ At w' rb (.cells #[.bool true] 4) ∧ Keeps (rb :: p :: (a.blocks ++ x.blocks)) w w') (fun _ => False) (fun _ => by simp [go_sem])
    ((steps1_stays w mb db sb rb p a x S d q v bits h l u hp hq hd hn h6 hu0 hu1 hst).mono fun e w' h => .inl h)).mono ?_
  rintro e w' (h | ⟨_, _, hf, _⟩)
  · exact h
  · exact hf.elim

theorem run_goes (w : World) (mb db sb rb : Nat) (p : Nat) (a : DA) (x : MA) (S : DS) (d q v bits : Int) (h : Caught w mb db sb rb p a x S d q v bits) (u : Int) (hp : At w p (powO u u)) (hq : 10 < q ∧ q ≤ 255) (hd : 0 ≤ d ∧ d ≤ 255) (hn : 0 < a.n) (h6 : d % 7 ≠ 6)
    (hu0 : 0 ≤ u) (hu1 : u < 9223372036854775807) :
    Calls Try.prog 18 #[.func (.func 19) #[] #[ptr mb, ptr db, ptr sb, ptr rb]] w fun e w' => e = .returned (.bool false) ∧
      (Dev w' p a S ∧ MDev w' x a.n S.ms ∧ At w' p (powO u u) ∧ Keeps [] w w') := by
  refine (run_any _ _ w (fun _ => False) (fun w' => Dev w' p a S ∧ MDev w' x a.n S.ms ∧ At w' p (powO u u) ∧ Keeps [] w w') (fun _ => by simp [go_sem])
    ((steps1_goes w mb db sb rb p a x S d q v bits h u hp hq hd hn h6 hu0 hu1).mono fun e w' h => .inr h)).mono ?_
  rintro e w' (⟨_, hf⟩ | ⟨he, w1, ⟨h1, h2, h3, h4⟩, rfl⟩)
  · exact hf.elim
  · have hk := (Keeps.refl [] w1).alloc (.cells #[] 67)
    exact ⟨he, h1.keep hk (by simp) (by simp) (by simp) (by simp), h2.keep hk (by simp), h3.alloc _, h4.trans hk⟩

set_option maxHeartbeats 1000000 in
theorem steps_great (a0 : Option Addr) (l0 c0 : Nat) (a1 : Option Addr) (l1 c1 : Nat) (k : Int) (W : World) (hg : 40 < l0 ∨ 60 < l1 ∨ l0 = 0) :
    Calls Try.prog 4 #[.slice a0 l0 c0, .slice a1 l1 c1, .int .u8 k] W fun e w' => e = .returned (.bool true) ∧ Below W.heap.size W w' := by
  by_cases h1 : 40 < l0
  · go_enter Try.func4, Try.ntmps4
    go_wp2_with fail
    refine (lawake_any _).mono ?_
    rintro e w1 ⟨rfl, hb1⟩
    go_wp2_with fail
    go_ret
    exact ⟨rfl, hb1⟩
  · by_cases h2 : 60 < l1
    · go_enter Try.func4, Try.ntmps4
      go_wp2_with fail
      refine (lawake_any _).mono ?_
      rintro e w1 ⟨rfl, hb1⟩
      go_wp2_with fail
      go_ret
      exact ⟨rfl, hb1⟩
    · have h3 : l0 = 0 := by omega
      subst h3
      go_enter Try.func4, Try.ntmps4
      go_wp2_with fail
      refine (lawake_any _).mono ?_
      rintro e w1 ⟨rfl, hb1⟩
      go_wp2_with fail
      go_ret
      exact ⟨rfl, hb1⟩

set_option maxRecDepth 100000 in
set_option maxHeartbeats 4000000 in
theorem steps_small (a0 : Option Addr) (l0 c0 : Nat) (f0 : Nat → Int) (a1 : Option Addr) (l1 c1 : Nat) (f1 : Nat → Nat → Int) (k : Nat) (W : World) (h1 : l0 ≤ 40) (h2 : l1 ≤ 60) (h3 : 0 < l0) (hk : k ≤ 255) (R0 : Reads W a0 l0 f0) (R1 : Steps W a1 l1 f1) :
    Calls Try.prog 4 #[.slice a0 l0 c0, .slice a1 l1 c1, .int .u8 k] W fun e w' => e = .returned (.bool true) ∧ Below W.heap.size W w' := by
  have g1 : decide (40 < (l0 : Int)) = false := by rw [decide_eq_false_iff_not]; omega
  have g2 : ((l0 : Int) == 0) = false := by rw [beq_eq_false_iff_ne]; omega
  have g3 : decide (60 < (l1 : Int)) = false := by rw [decide_eq_false_iff_not]; omega
  obtain ⟨L, hL⟩ : ∃ L : Nat, L = k % 40 := ⟨_, rfl⟩
  have e40 : (k : Int) % 40 = (L : Int) := by omega
  have hLb : L < 40 := by omega
  have HR0 := hid R0
  have HR1 := hid R1
  have HLL := hid hL
  clear R0 R1 hL
  go_enter Try.func4, Try.ntmps4
  go_wp2_with fail
  refine (lawake_any _).mono ?_
  rintro e w1 ⟨rfl, hb1⟩
  have K1 : Keeps [] W w1 := Go.Proofs.Ytbpoifcldjlblaa.Below.keeps hb1 []
  clear hb1
  go_wp2_with fail
  refine (new_at _ _).mono ?_
  rintro e w2 ⟨rfl, hp2, hs2, hK2⟩
  have K2 := K1.trans hK2
  obtain ⟨p, hpe⟩ : ∃ p, p = w1.heap.size := ⟨_, rfl⟩
  rw [← hpe] at hp2 ⊢
  have HPE := hid hpe
  have HS2 := hid hs2
  clear hpe hs2
  go_wp2_with fail
  refine (dnew_at w2 p a0 l0 c0 ((l0 + 7) / 8) f0 (HR0.out.keep K2 (by simp)) rfl (by omega) hp2.lt).mono ?_
  rintro e w3 ⟨a, rfl, haL, hD3, b1, b2, b3, b4, hK3⟩
  have K3 := K2.trans hK3
  have hp3 := hK3.at hp2 (by simp)
  have hn0 : 0 < a.n ∧ a.n ≤ 40 := by have := a.n8; omega
  have HAN : Hid (8 * ((l0 + 7) / 8) = a.n) := by have := a.n8; show _ = _; omega
  have hpl := hp2.lt
  clear haL
  go_wp2_with fail
  refine (make_at w3 a0 l0 c0 ((l0 + 7) / 8) f0 (HR0.out.keep K3 (by simp)) rfl (by omega)).mono ?_
  rintro e w4 ⟨x, rfl, hM4, hbl, hK4⟩
  rw [HAN.out] at hM4
  have K4 := K3.trans hK4
  have hD4 := hD3.keep hK4 (by simp) (by simp) (by simp) (by simp)
  have hp4 := hK4.at hp3 (by simp)
  have hl := hD3.low
  have hpl3 := hp3.lt
  have HSEP : Hid (Sep p a x) := by
    intro b hb
    have := hbl b hb
    omega
  have HLO : Hid (∀ k ∈ p :: (a.blocks ++ x.blocks), W.heap.size ≤ k ∧ k < w4.heap.size) := by
    have z1 := K1.size
    have z2 := K2.size
    have z3 := K3.size
    have z4 := hK4.size
    have q1 := hM4.low
    have q2 := HPE.out
    have q3 := HS2.out
    simp only [List.mem_cons, List.not_mem_nil, or_false, forall_eq_or_imp, forall_eq] at hbl
    intro k hk
    simp at hk
    omega
  have HB4 : Hid (Both w4 p a x) := ⟨_, hD4, hM4⟩
  clear hD3 hp2 hp3 hD4 hM4 hl hpl hpl3 hbl b1 b2 b3 b4 hK2 hK3 hK4
  go_upto_region 10 with fail
  obtain ⟨w5, hw5⟩ : ∃ w5, w5 = (w4.alloc (Obj.cells #[Value.pointer (some { block := a.d, off := 0 })] 25)).alloc (Obj.cells #[Value.pointer (some { block := x.m, off := 0 })] 27) := ⟨_, rfl⟩
  have HDB : Hid (At w5 w4.heap.size (.cells #[ptr a.d] 25)) := by rw [hw5]; exact At.alloc (At.new _ _) _
  have HMB : Hid (At w5 (w4.heap.size + 1) (.cells #[ptr x.m] 27)) := by
    have h := At.new (w4.alloc (.cells #[ptr a.d] 25)) (.cells #[ptr x.m] 27)
    rw [World.size_alloc] at h
    rw [hw5]
    exact h
  have hK5 : Keeps [] w4 w5 := by rw [hw5]; exact ((Keeps.refl [] _).alloc _).alloc _
  have HSZ : Hid (w5.heap.size = w4.heap.size + 2) := by rw [hw5]; show _ = _; simp [World.size_alloc]
  have HB5 : Hid (Both w5 p a x) := by
    obtain ⟨S, hD, hM⟩ := HB4.out
    exact ⟨S, hD.keep hK5 (by simp) (by simp) (by simp) (by simp), hM.keep hK5 (by simp)⟩
  have hp5 := hK5.at hp4 (by simp)
  have K5 := K4.trans hK5
  rw [← hw5]
  clear hw5 hp4 K4 hK5 HB4
  go_wp2_with fail
  go_loopg [10, 47] l1 (fun r sn si wr => ∃ (z : Nat) (u : Nat), z + r = l1 ∧ si = .int .i64 z ∧ sn = .int .i64 u ∧ Both wr p a x ∧ At wr p (powO L u) ∧ u ≤ z ∧ u ≤ L ∧ Keeps (p :: (a.blocks ++ x.blocks)) w5 wr)
  case atStart => exact ⟨0, 0, by omega, rfl, rfl, HB5.out, hp5, by omega, by omega, Keeps.refl _ _⟩
  case round =>
    obtain ⟨z, u, hz, rfl, rfl, HB, hp, huz, huL, hK⟩ := hrel
    have KW : Keeps [] W _ := K5.new hK (by have h := HLO.out; intro b hb; right; exact (h b hb).1)
    have hnb : ∀ b ∈ p :: (a.blocks ++ x.blocks), b < w4.heap.size := fun b hb => (HLO.out b hb).2
    have HDBr := hid (hK.at HDB.out (fun h => by have := hnb _ h; omega))
    have HMBr := hid (hK.at HMB.out (fun h => by have := hnb _ h; omega))
    have HZR : Hid (w4.heap.size + 2 ≤ wr.heap.size) := by have h1 := hK.size; have h2 := HSZ.out; show _ ≤ _; omega
    clear hnb
    by_cases hlt : z < l1
    · obtain ⟨b, off, rfl, hbl, ⟨q0, q1, q2, q3⟩, hd, hq⟩ : ∃ b off, a1 = some ⟨b, off, none⟩ ∧ b < W.heap.size ∧ _ := by
        rcases HR1.out with h | ⟨b, off, h1, h2, h3⟩
        · omega
        · exact ⟨b, off, h1, h2, h3 z hlt⟩
      have c0 := (KW.cell (p := ⟨b, off + z * 4, none⟩) hbl (by simp)).trans q0
      have c1 := (KW.cell (p := ⟨b, off + z * 4 + 1, none⟩) hbl (by simp)).trans q1
      have c2 := (KW.cell (p := ⟨b, off + z * 4 + 2, none⟩) hbl (by simp)).trans q2
      have c3 := (KW.cell (p := ⟨b, off + z * 4 + 3, none⟩) hbl (by simp)).trans q3
      clear q0 q1 q2 q3
      have HZW := hid KW.size
      generalize f1 z 0 = d at *
      generalize f1 z 1 = q at *
      generalize f1 z 2 = v at *
      generalize f1 z 3 = bits at *
      by_cases h6 : d % 7 = 6
      · have e6 : (d % 7 == 6) = true := by rw [beq_iff_eq]; exact h6
        go_wp2_with fail
        clear c0 c1 c2 c3
        go_roundg (l1 - (z + 1))
        case measure => omega
        case rel =>
          have hk0 : Keeps [] wr (wr.alloc (stepO d (11 + q % 100) v bits)) := (Keeps.refl _ _).alloc _
          obtain ⟨S, hD, hM⟩ := HB
          exact ⟨z + 1, u, by omega, by go_num, rfl, ⟨S, hD.keep hk0 (by simp) (by simp) (by simp) (by simp), hM.keep hk0 (by simp)⟩, hk0.at hp (by simp), by omega, by omega, hK.trans (hk0.mono (by simp))⟩
      · have e6 : (d % 7 == 6) = false := by rw [beq_eq_false_iff_ne]; exact h6
        have HCT : Hid (∃ S, Caught ((wr.alloc (stepO d (11 + q % 100) v bits)).alloc (.cells #[.bool true] 4)) (w4.heap.size + 1) w4.heap.size wr.heap.size (wr.heap.size + 1) p a x S d (11 + q % 100) v bits) := by
          obtain ⟨S, hD, hM⟩ := HB
          have hk0 : Keeps [] wr ((wr.alloc (stepO d (11 + q % 100) v bits)).alloc (.cells #[.bool true] 4)) := ((Keeps.refl _ _).alloc _).alloc _
          have hr := At.new (wr.alloc (stepO d (11 + q % 100) v bits)) (.cells #[.bool true] 4)
          rw [World.size_alloc] at hr
          have hz := HZR.out
          exact ⟨S, hD.keep hk0 (by simp) (by simp) (by simp) (by simp), hM.keep hk0 (by simp), HSEP.out, hk0.at HMBr.out (by simp), hk0.at HDBr.out (by simp), (At.new _ _).alloc _, hr,
            fun k hk => by have := (HLO.out k hk).2; omega⟩
        have hp7 : At ((wr.alloc (stepO d (11 + q % 100) v bits)).alloc (.cells #[.bool true] 4)) p (powO L u) := (hp.alloc _).alloc _
        have HK7 : Hid (Keeps (p :: (a.blocks ++ x.blocks)) w5 ((wr.alloc (stepO d (11 + q % 100) v bits)).alloc (.cells #[.bool true] 4))) := (hK.alloc _).alloc _
        have HPA := hid hp7
        have HSW : Hid (W.heap.size ≤ wr.heap.size) := KW.size
        have HQ : Hid (10 < 11 + q % 100 ∧ 11 + q % 100 ≤ 255) := by show _ ∧ _; omega
        clear HB hp hK KW hp7
        by_cases huL2 : u < L
        · have g5 : decide ((L : Int) < (u : Int) + 1) = false := by rw [decide_eq_false_iff_not]; omega
          have g6 : ((u : Int) + 1 != (u : Int) + 1) = false := by simp
          go_wp2_with fail
          obtain ⟨S, hC⟩ := HCT.out
          refine (run_stays _ _ _ _ _ p a x S d (11 + q % 100) v bits hC L u HPA.out HQ.out hd hn0.1 h6 (by omega) (by omega) (.inr (by omega))).mono ?_
          rintro e w8 ⟨rfl, hB8, hp8, hr8, hK8⟩
          have r8 := hr8.cell 0 rfl
          have hni : ∀ k, k = w4.heap.size ∨ k = w4.heap.size + 1 → k ∉ (wr.heap.size + 1) :: p :: (a.blocks ++ x.blocks) := by
            have h1 := HZR.out
            intro k hk hm
            rcases List.mem_cons.1 hm with rfl | hm
            · omega
            · have := (HLO.out k hm).2; omega
          have cm8 := (hK8.at hC.mc (hni _ (.inr rfl))).cell 0 rfl
          have cd8 := (hK8.at hC.dc (hni _ (.inl rfl))).cell 0 rfl
          have HC := hid hC
          clear hni
          have HB8 := hid hB8
          have HK8 := hid hK8
          clear c0 c1 c2 c3 hC hB8 hK8 hr8
          go_wp2_with fail
          refine (used_at p L (u + 1) w8 hp8).mono ?_
          rintro e w9 ⟨rfl, rfl⟩
          go_wp2_with fail
          obtain ⟨S8, hD8, hM8⟩ := HB8.out
          refine (same_at _ p a x S8 hD8 hM8).mono ?_
          rintro e w9 ⟨rfl, hK9⟩
          have hp9 := hK9.at hp8 (by simp)
          have HB9 : Hid (Both w9 p a x) := ⟨S8, hD8.keep hK9 (by simp) (by simp) (by simp) (by simp), hM8.keep hK9 (by simp)⟩
          have HK9 := hid hK9
          clear hD8 hM8 hp8 hK9 r8 cm8 cd8
          go_wp2_with fail
          refine (used_at p L (u + 1) w9 hp9).mono ?_
          rintro e w10 ⟨rfl, rfl⟩
          go_wp2_with fail
          go_roundg (l1 - (z + 1))
          case measure => omega
          case rel =>
            have k8 := HK7.out.new (HK8.out.mono (S' := (wr.heap.size + 1) :: (p :: (a.blocks ++ x.blocks))) (fun k _ hk => hk)) (fun k hk => by
              have h1 := HZR.out
              have h2 := HSZ.out
              rcases List.mem_cons.1 hk with rfl | hk
              · right; omega
              · left; exact hk)
            exact ⟨z + 1, u + 1, by omega, by go_num, by go_num, HB9.out, hp9, by omega, by omega, k8.trans (HK9.out.mono (by simp))⟩
        · have hul : u = L := by omega
          subst hul
          have g5 : ((u : Int) == (u : Int)) = true := by simp
          go_wp2_with fail
          obtain ⟨S, hC⟩ := HCT.out
          refine (run_goes _ _ _ _ _ p a x S d (11 + q % 100) v bits hC u HPA.out HQ.out hd hn0.1 h6 (by omega) (by omega)).mono ?_
          rintro e w8 ⟨rfl, hD8, hM8, hp8, hK8⟩
          have cm8 := (hK8.at hC.mc (by simp)).cell 0 rfl
          have cd8 := (hK8.at hC.dc (by simp)).cell 0 rfl
          have HD8 := hid hD8
          have HM8 := hid hM8
          have HK8 := hid hK8
          clear c0 c1 c2 c3 hC hD8 hM8 hK8
          go_wp2_with fail
          refine (used_at p u u w8 hp8).mono ?_
          rintro e w9 ⟨rfl, rfl⟩
          go_wp2_with fail
          refine (same_at _ p a x S HD8.out HM8.out).mono ?_
          rintro e w9 ⟨rfl, hK9⟩
          have HK9 := hid hK9
          go_wp2_with fail
          go_ret
          have k9 := HK7.out.trans ((HK8.out.trans HK9.out).mono (by simp))
          exact ⟨rfl, (K5.new k9 (fun k hk => .inr (HLO.out k hk).1)).below (Nat.le_refl _) (by simp)⟩
    · go_wp2_with fail
      go_ret
      exact ⟨rfl, KW.below (Nat.le_refl _) (by simp)⟩

theorem nvmSteps_walk (a0 : Option Addr) (l0 c0 : Nat) (f0 : Nat → Int) (a1 : Option Addr) (l1 c1 : Nat) (f1 : Nat → Nat → Int) (k : Int) (W : World)
    (R0 : ReadsV (Value.int .u64) W a0 l0 f0) (_ : ∀ i, i < l0 → (Lit.int .u64 (f0 i)).wf = true) (_ : l0 ≤ maxLen)
    (R1 : l1 * 4 = 0 ∨ ∃ b off, a1 = some ⟨b, off, none⟩ ∧ b < W.heap.size ∧ ∀ i j, i < l1 → j < 4 → W.cell? ⟨b, off + (i * 4 + j), none⟩ = some (.int ((fun j => if j = 0 then .u8 else if j = 1 then .u8 else if j = 2 then .u64 else .u64 : Nat → IntKind) j) (f1 i j)) ∧ (Lit.int ((fun j => if j = 0 then .u8 else if j = 1 then .u8 else if j = 2 then .u64 else .u64 : Nat → IntKind) j) (f1 i j)).wf = true) (_ : l1 ≤ maxLen) (hw : (Lit.int .u8 k).wf = true) :
    Calls Try.prog 4 #[.slice a0 l0 c0, .slice a1 l1 c1, .int .u8 k] W fun e w' => e = .returned (.bool true) ∧ Below W.heap.size W w' := by
  obtain ⟨hk0, hk⟩ := bounds_u8 hw
  obtain ⟨k, rfl⟩ := Int.eq_ofNat_of_zero_le hk0
  by_cases hg : 40 < l0 ∨ 60 < l1 ∨ l0 = 0
  · exact steps_great a0 l0 c0 a1 l1 c1 k W hg
  · exact steps_small a0 l0 c0 f0 a1 l1 c1 f1 k W (by omega) (by omega) (by omega) (by omega) R0.words (steps_of R1)

end Go.Proofs.Ytbpoifcldjlblaa
