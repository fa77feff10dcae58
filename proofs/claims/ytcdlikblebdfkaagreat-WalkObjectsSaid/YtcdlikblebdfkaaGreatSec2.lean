/- The section's calls as steps: keep, records, Begin, Store, Commit, Abort. -/
import Derived.Test.YtcdlikblebdfkaaGreatSec
namespace Go.Proofs.YtcdlikblebdfkaaGreat
open Go.RowKit Go.OpenShut

/-- What keep does: the epoch's line, each that is marked, a fence. -/
def flK (ss : List Int) (j : Nat) : Cmd := .fl (8 * (ss.getD j 0).toNat)
def kpC (ss : List Int) : List Cmd := [.fl 8] ++ (rowL (flK ss) ss.length ++ [.fe])

theorem kpC_len (ss : List Int) : (kpC ss).length = ss.length + 2 := by simp [kpC, rowL_len]

/-- The lines that are marked are lines of the device. -/
def UIn (U : Int → Option Value) (n : Nat) : Prop := ∀ k v, U k = some v → 0 ≤ k ∧ 8 * k < (n : Int)

theorem UIn.none (n : Nat) : UIn (fun _ => none) n := fun _ _ h => by cases h
theorem UIn.mark {U : Int → Option Value} {n : Nat} (h : UIn U n) {i : Nat} (hi : i < n) : UIn (mkU U i) n := fun k v hk => by
  unfold mkU at hk
  split at hk
  · omega
  · exact h k v hk

theorem UIn.few {U : Int → Option Value} {n : Nat} (h : UIn U n) (hn : n ≤ 15000) {ss : List Int} (hK : KeysOf U ss) : ss.length ≤ 1875 :=
  hK.len 1875 fun k v hk => by have := h k v hk; omega

section
variable {w w' : World} {p : Nat} {a : DA} {l u u' : Int} {S S' : DS} {s : Sc} {c : Cfg} {cnt : Nat} {st : Bool} {op : Bool} {f t : Int} {R U : Int → Option Value} {cs : List Cmd} {v : Value} {e : Ending}

set_option maxRecDepth 100000 in
set_option maxHeartbeats 2000000 in
theorem skeep_ran (h : SW w p a l u S s c cnt st op f t R U) (hU : UIn U a.n) (hn8 : 8 < a.n) (hn : a.n ≤ 15000) (hb : u < 4611686018427360000) :
    Calls Tryz.prog 77 #[ptr s.b] w fun e w' => ∃ ss, KeysOf U ss ∧ RanS p a l u S s c cnt st op f t R (fun _ => none) (kpC ss) (.tuple #[]) w e w' := by
  have h0 := h.lw.pw.lo
  have c1 := h.sec.cell 1 rfl
  have HS := hid (flush_ran _ p a l u S 8 h.lw.pw hn8 (by omega))
  have HU := hid hU
  have hK0 : ∃ ss, KeysOf U ss := by
    obtain ⟨D0, _, _, hP⟩ := h.um.owns (P := Tryz.prog) (fun k v hk => by have := hU k v hk; omega) 3 Tryz.underlying3
    exact ⟨_, hP _ (List.Perm.refl _)⟩
  clear hU
  go_enter Tryz.func77, Tryz.ntmps77
  go_wp2_with fail
  refine HS.out.mono ?_
  rintro e w2 (⟨rfl, h2, k2⟩ | ⟨rfl, ⟨S', d2, h2⟩, k2⟩)
  rotate_left
  · obtain ⟨ss, hss⟩ := hK0
    exact ⟨rfl, ss, hss, ranS_cut h2 (d2.left _) k2.dvs⟩
  clear hK0 HS c1
  have l2 := h.next h2 k2
  have K2 : Keeps (s.bl p a) w w2 := k2.dvs
  obtain ⟨S2, hS2⟩ : ∃ S2, S2 = execs S [.fl 8] := ⟨_, rfl⟩
  obtain ⟨u2, hu2⟩ : ∃ u2, u2 = u + (([.fl 8] : List Cmd).length : Int) := ⟨_, rfl⟩
  rw [← hS2, ← hu2] at l2
  have HS2 := hid hS2
  have HU2 := hid hu2
  have hub : u2 < 4611686018427361000 := by simp at hu2; omega
  clear hS2 hu2 h2 k2
  have c9 := l2.sec.cell 9 rfl
  go_wp2_with fail
  refine (mkeys_at w2 s.ub).mono ?_
  rintro e w3 ⟨rfl, rfl⟩
  have l3 := l2.keep0 ((Keeps.refl [] w2).alloc (mboxO s.ub))
  have hX3 := At.new w2 (mboxO s.ub)
  have K3 : Keeps (s.bl p a) w (w2.alloc (mboxO s.ub)) := K2.alloc _
  clear c9
  go_wp2_with fail
  refine (sorted_at _ s.ub w2.heap.size U l3.um hX3 (fun k v hk => by have := HU.out k v hk; omega)).mono ?_
  rintro e w4 ⟨y, ss, cap, rfl, hK, hR, hY, hk4⟩
  have l4 := l3.keep0 hk4
  have K4 : Keeps (s.bl p a) w w4 := K3.trans hk4.nos
  have hfew := HU.out.few hn hK
  have HK := hid hK
  have HR := hid hR
  obtain ⟨n, hnn⟩ : ∃ n, n = ss.length := ⟨_, rfl⟩
  have hlt4 : ∀ b ∈ s.bl p a, b < w2.heap.size := by
    unfold Sc.bl
    intro b hb
    simp only [List.mem_cons, List.not_mem_nil, or_false] at hb
    rcases hb with rfl | rfl | rfl | rfl | rfl | rfl | rfl | rfl
    · exact l2.lw.pw.pow.lt
    · exact l2.lw.pw.dev.now.lt
    · exact l2.lw.pw.dev.kept.lt
    · exact l2.lw.pw.dev.map.lt
    · exact l2.lw.log.lt
    · exact l2.sec.lt
    · exact l2.rm.lt
    · exact l2.um.lt
  have HNB : ∀ b, w2.heap.size ≤ b → b ∉ [p, a.s, a.k, a.m] := fun b hb hm => by
    have := hlt4 b (by unfold Sc.bl; simp only [List.mem_cons, List.not_mem_nil, or_false] at hm ⊢; rcases hm with e | e | e | e <;> simp [e])
    omega
  rw [← hnn] at HR hfew ⊢
  have HNN := hid hnn
  have HBY : ∀ b off, y = some ⟨b, off, none⟩ → w2.heap.size ≤ b := fun b off e => by have := hY b off e; simp at this; omega
  have hni : (n : Int) ≤ 1875 := by omega
  clear hK hR hnn K2 K3 l2 l3 hX3 h hY hlt4
  go_wp2_with fail
  go_loopg [16] n (fun r sl wr => ∃ i : Nat, i + r = n ∧ sl = .int .i64 i ∧ SW wr p a l (u2 + (i : Int)) (execs S2 (rowL (flK ss) i)) s c cnt st op f t R U ∧ Keeps [p, a.s, a.k, a.m] w4 wr)
  case atStart => exact ⟨0, by omega, rfl, by simpa [rowL_zero, execs_nil] using l4, Keeps.refl _ _⟩
  case round =>
    obtain ⟨i, hi, rfl, hL, hk⟩ := hrel
    have hii : (i : Int) ≤ 1875 := by omega
    by_cases hlt : i < n
    · obtain ⟨b, off, rfl, hbl, hcl⟩ : ∃ b off, y = some ⟨b, off, none⟩ ∧ b < w4.heap.size ∧ ∀ i, i < n → w4.cell? ⟨b, off + i, none⟩ = some (.int .i64 (ss.getD i 0)) := by
        rcases HR.out with h | h
        · omega
        · exact h
      have hcli := hcl i hlt
      clear hcl
      obtain ⟨z, hz⟩ : ∃ z, z = ss.getD i 0 := ⟨_, rfl⟩
      have hzU : 0 ≤ z ∧ 8 * z < (a.n : Int) := by
        have hm : z ∈ ss := by
          rw [hz, List.getD_eq_getElem?_getD, List.getElem?_eq_getElem (by have := HNN.out; omega)]
          exact List.getElem_mem _
        obtain ⟨v, hv⟩ := Option.isSome_iff_exists.1 ((HK.out.2 z).1 hm)
        exact HU.out z v hv
      obtain ⟨k, rfl⟩ : ∃ k : Nat, (k : Int) = z := ⟨z.toNat, by omega⟩
      obtain ⟨q, hq⟩ : ∃ q, q = 8 * k := ⟨_, rfl⟩
      have e9 : IntKind.i64.wrap ((k : Int) * 8) = (q : Int) := by rw [IntWalk.i64_in _ (by omega)]; omega
      have hqn : q < a.n := by omega
      have hnb : b ∉ [p, a.s, a.k, a.m] := HNB b (HBY b off rfl)
      have d0 := (hk.cell (p := ⟨b, off + i, none⟩) hbl hnb).trans hcli
      rw [← hz] at d0
      have c1 := hL.sec.cell 1 rfl
      have HFL : Hid (flK ss i = .fl q) := by show Cmd.fl _ = _; rw [← hz, hq]; rfl
      have HQ := hid hq
      have b1 : (i : Int) < (n : Int) := by omega
      have b2 : (0 : Int) ≤ (i : Int) := by omega
      clear hz hq hzU hcli
      go_wp2_with fail
      refine (flush_ran wr p a l _ _ q hL.lw.pw hqn (by omega)).mono ?_
      rintro e w5 (⟨rfl, h5, k5⟩ | ⟨rfl, ⟨S', d5, h5⟩, k5⟩)
      rotate_left
      · rw [← HFL.out] at d5
        exact ⟨rfl, ss, HK.out, ranS_cut h5 (Cut.right (A := [.fl 8]) ((d5.row (by have := HNN.out; omega)).left [.fe]) HU2.out HS2.out) ((K4.trans hk.dvs).trans k5.dvs)⟩
      rw [← HFL.out] at h5
      go_wp2_with fail
      go_roundg (n - (i + 1))
      case measure => omega
      case rel => exact ⟨i + 1, by omega, by go_num, hL.next h5.row k5, hk.trans k5⟩
    · have hin : i = n := by omega
      subst hin
      have c1 := hL.sec.cell 1 rfl
      go_wp2_with fail
      refine (fence_ran wr p a l _ _ hL.lw.pw (by omega)).mono ?_
      rintro e w5 (⟨rfl, h5, k5⟩ | ⟨rfl, ⟨S', d5, h5⟩, k5⟩)
      rotate_left
      · exact ⟨rfl, ss, HK.out, ranS_cut h5 (Cut.right (A := [.fl 8]) (Cut.right (A := rowL (flK ss) ss.length) d5 (by rw [rowL_len, ← HNN.out]) (by rw [← HNN.out])) HU2.out HS2.out) ((K4.trans hk.dvs).trans k5.dvs)⟩
      have l5 := hL.next h5 k5
      have K5 := (K4.trans hk.dvs).trans k5.dvs
      have c9 := l5.sec.cell 9 rfl
      clear c1
      go_wp2_with (refine wpList_clear_at rfl _ _ rfl 3 97 Tryz.underlying119 s.ub _ rfl l5.um ?_; intro w6 hm6 hk6)
      go_end0
      refine ⟨ss, HK.out, ranS_end (l5.setU hm6 hk6) ?_ ?_ (K5.trans hk6.ups)⟩
      · rw [HU2.out, kpC_len, HNN.out]; simp; omega
      · unfold kpC; rw [execs_append, execs_append, ← HS2.out, ← HNN.out]

/-- What is recorded: this epoch, of each word that has a record; no more. -/
def RecI (R : Int → Option Value) (m : Nat) (pl : Nat → Nat) (e : Nat) : Prop :=
  (∀ i, i < m → R (pl i : Nat) = some (.int .u64 e)) ∧ ∀ z, (∀ i, i < m → ((pl i : Nat) : Int) ≠ z) → R z = none

theorem RecI.none (pl : Nat → Nat) (e : Nat) : RecI (fun _ => none) 0 pl e := ⟨fun _ h => absurd h (Nat.not_lt_zero _), fun _ _ => rfl⟩

theorem RecI.grow {R : Int → Option Value} {m : Nat} {pl : Nat → Nat} {e : Nat} (h : RecI R m pl e) (i : Nat) : RecI (fun z => if z = (i : Int) then some (.int .u64 e) else R z) (m + 1) (put pl m i) e := by
  refine ⟨fun k hk => ?_, fun z hz => ?_⟩
  · by_cases hkm : k = m
    · subst hkm; rw [put_on]; exact if_pos rfl
    · rw [put_off _ _ hkm]
      show (if ((pl k : Nat) : Int) = (i : Int) then _ else _) = _
      split
      · rfl
      · exact h.1 k (by omega)
  · have h1 := hz m (by omega)
    rw [put_on] at h1
    show (if z = (i : Int) then _ else _) = _
    rw [if_neg (fun e => h1 e.symm)]
    refine h.2 z fun k hk => ?_
    have := hz k (by omega)
    rwa [put_off _ _ (by omega)] at this

set_option maxRecDepth 100000 in
set_option maxHeartbeats 2000000 in
theorem hasR_yes (h : SW w p a l u S s c cnt st op f t R U) (x : Nat) (hx : x < 4294967296) (h8 : S.now 8 = x) (hn8 : 8 < a.n) (i : Int) (hr : R i = some (.int .u64 x)) :
    Calls Tryz.prog 93 #[ptr s.b, .int .i64 i] w fun e w' => e = .returned (.bool true) ∧ w = w' := by
  have c8 := h.sec.cell 8 rfl
  have c0 := h.sec.cell 0 rfl
  have HE := hid (epoch6_at h.lw x (by omega) h8 hn8)
  have hep : epN x = x := Nat.mod_eq_of_lt hx
  rw [hep] at HE
  clear h8 hep
  go_enter Tryz.func93, Tryz.ntmps93
  go_wp2_with (at_lookup; refine wpList_found_at rfl _ _ _ rfl 3 26 Tryz.underlying118 Tryz.underlying3 (.int .u64 0) (by kernel_rfl) s.rb _ rfl h.rm i rfl _ hr ?_)
  refine HE.out.mono ?_
  rintro e w1 ⟨rfl, rfl⟩
  go_wp2_with fail
  go_ret
  exact ⟨rfl, rfl⟩

set_option maxRecDepth 100000 in
set_option maxHeartbeats 2000000 in
theorem hasR_no (h : SW w p a l u S s c cnt st op f t R U) (i : Int) (hr : R i = none) :
    Calls Tryz.prog 93 #[ptr s.b, .int .i64 i] w fun e w' => e = .returned (.bool false) ∧ w = w' := by
  have c8 := h.sec.cell 8 rfl
  have c0 := h.sec.cell 0 rfl
  go_enter Tryz.func93, Tryz.ntmps93
  go_wp2_with (at_lookup; refine wpList_missed_at rfl _ _ _ rfl 3 26 Tryz.underlying118 Tryz.underlying3 (.int .u64 0) (by kernel_rfl) s.rb _ rfl h.rm i rfl hr ?_)
  go_ret
  exact ⟨rfl, rfl⟩

end

end Go.Proofs.YtcdlikblebdfkaaGreat
