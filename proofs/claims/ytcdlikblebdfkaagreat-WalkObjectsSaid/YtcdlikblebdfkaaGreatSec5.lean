/- The section's calls as steps: Begin, Commit, Abort, New. -/
import Derived.Test.YtcdlikblebdfkaaGreatSec4
namespace Go.Proofs.YtcdlikblebdfkaaGreat
open Go.RowKit Go.OpenShut

section
variable {w w' : World} {p : Nat} {a : DA} {l u u' : Int} {S S' : DS} {s : Sc} {c : Cfg} {m e0 r : Nat} {st : Bool} {op : Bool} {f t f' t' : Int} {R U : Int → Option Value} {pl : Nat → Nat} {wd : Nat → Int} {cs : List Cmd} {v : Value} {e : Ending}

set_option maxRecDepth 100000 in
set_option maxHeartbeats 2000000 in
theorem begin_ran (h : SW w p a l u S s c m st false f t R U) (hU : UIn U a.n) (hn8 : 8 < a.n) (hn : a.n ≤ 15000) (hb : u < 4611686018427350000) :
    Calls Tryz.prog 65 #[ptr s.b, spV f' t'] w fun e w' => ∃ ss, KeysOf U ss ∧ RanS p a l u S s c m st true f' t' (fun _ => none) (fun _ => none) (kpC ss) (.int .i64 0) w e w' := by
  have K1 := (Keeps.refl [] w).alloc (spO f' t')
  have h1 := h.keep0 K1
  have c5 := h1.sec.cell 5 rfl
  have hB := At.new w (spO f' t')
  have hBn : w.heap.size ∉ s.bl p a := by
    unfold Sc.bl
    have q1 := h.lw.pw.pow.lt
    have q2 := h.lw.pw.dev.now.lt
    have q3 := h.lw.pw.dev.kept.lt
    have q4 := h.lw.pw.dev.map.lt
    have q5 := h.lw.log.lt
    have q6 := h.sec.lt
    have q7 := h.rm.lt
    have q8 := h.um.lt
    simp only [List.mem_cons, List.not_mem_nil, or_false, not_or]
    exact ⟨by omega, by omega, by omega, by omega, by omega, by omega, by omega, by omega⟩
  go_enter Tryz.func65, Tryz.ntmps65
  go_wp2_with fail
  refine (skeep_ran h1 hU hn8 hn (by omega)).mono ?_
  rintro e w2 ⟨ss, hss, ⟨rfl, l2, k2⟩ | ⟨rfl, ⟨S', d2, h2⟩, k2⟩⟩
  rotate_left
  · exact ⟨rfl, ss, hss, ranS_cut h2 d2 (K1.nos.trans k2)⟩
  have hB2 := k2.at hB hBn
  have K2 : Keeps (s.bl p a) w w2 := K1.nos.trans k2
  have HSS := hid hss
  clear c5 hss k2 hB h1
  have c8 := l2.sec.cell 8 rfl
  go_wp2_with (refine wpList_clear_at rfl _ _ rfl 3 26 Tryz.underlying118 s.rb _ rfl l2.rm ?_; intro w3 hm3 hk3; have l3 := l2.setR hm3 hk3; have hB3 := hk3.at hB2 (fun hm => hBn (by unfold Sc.bl; simp only [List.mem_cons, List.not_mem_nil, or_false] at hm ⊢; simp [hm])); have K3 : Keeps (s.bl p a) w w3 := K2.trans hk3.rps; have b0 := hB3.cell 0 rfl; have b1 := hB3.cell 1 rfl; have f6 := l3.sec.free 6; have f7 := l3.sec.free 7; have c6 := l3.sec.cell 6 rfl; have c7 := l3.sec.cell 7 rfl; have f5 := l3.sec.free 5; have c5 := l3.sec.cell 5 rfl)
  go_ret
  have l6 := ((l3.set 6 (.int .i64 f') (op' := false) (f' := f') (t' := t) (by simp)).set 7 (.int .i64 t') (op' := false) (f' := f') (t' := t') (by simp)).set 5 (.bool true) (op' := true) (f' := f') (t' := t') (by simp)
  have hb : s.b ∈ s.bl p a := by unfold Sc.bl; simp
  exact ⟨ss, HSS.out, ranS_end l6 rfl rfl (((K3.set (.inl hb) _).set (.inl hb) _).set (.inl hb) _)⟩

theorem kpC_off {ss : List Int} {y : Cmd} (h : y ∈ kpC ss) (j : Nat) : y.Off j := by
  unfold kpC at h
  simp only [List.mem_append, List.mem_singleton] at h
  rcases h with rfl | h | rfl
  · trivial
  · obtain ⟨i, _, rfl⟩ := mem_rowL h
    trivial
  · trivial

theorem LR.kp {n : Nat} (h : LR c n e0 r m pl wd S) (ss : List Int) : LR c n e0 r m pl wd (execs S (kpC ss)) :=
  h.pre (pre_execs fun _ hy => kpC_off hy _) (fun _ _ => ⟨pre_execs fun _ hy => kpC_off hy _, pre_execs fun _ hy => kpC_off hy _, pre_execs fun _ hy => kpC_off hy _⟩) fun _ _ _ => pre_execs fun _ hy => kpC_off hy _

/-- What Truncate does, of any. -/
def truS (c : Cfg) (st : Bool) (m e : Nat) : List Cmd := if m = 0 then [] else truL c st e

set_option maxRecDepth 100000 in
set_option maxHeartbeats 2000000 in
theorem abort_ran (h : SW w p a l u S s c m st true f t R U) (hU : UIn U a.n) (hc : c.Ok) (hn : c.words = a.n) (hL : LR c a.n e0 r m pl wd S) (hb : u < 4611686018427330000) :
    Calls Tryz.prog 67 #[ptr s.b] w fun e w' => ∃ ss, KeysOf U ss ∧ RanS p a l u S s c 0 (stS m st) false f t R (fun _ => none) (undS c st pl wd m (eN e0 r) ++ kpC ss) (.int .i64 0) w e w' := by
  have c5 := h.sec.cell 5 rfl
  have c0 := h.sec.cell 0 rfl
  have hci := hid (c_in hc hn)
  have HU := hid (undo_li h.lw hc hn hL (by omega))
  have hlen := hid (undS_len (st := st) (pl := pl) (wd := wd) hc hL.le (eN e0 r))
  have hK0 : ∃ ss, KeysOf U ss := by
    obtain ⟨D0, _, _, hP⟩ := h.um.owns (P := Tryz.prog) (fun k v hk => by have := hU k v hk; have := hci.out; omega) 3 Tryz.underlying3
    exact ⟨_, hP _ (List.Perm.refl _)⟩
  have HUI := hid hU
  clear hU
  go_enter Tryz.func67, Tryz.ntmps67
  go_wp2_with fail
  refine HU.out.mono ?_
  rintro e w2 (⟨rfl, h2, k2⟩ | ⟨rfl, ⟨S', d2, h2⟩, k2⟩)
  rotate_left
  · obtain ⟨ss, hss⟩ := hK0
    exact ⟨rfl, ss, hss, ranS_cut h2 (d2.left _) k2.lgs⟩
  have l2 := h.log h2 k2
  clear c0 c5 hK0 HU
  go_wp2_with fail
  refine (skeep_ran l2 HUI.out hci.out.2.1 hci.out.2.2.2.2 (by have := hlen.out; omega)).mono ?_
  rintro e w3 ⟨ss, hss, ⟨rfl, l3, k3⟩ | ⟨rfl, ⟨S', d3, h3⟩, k3⟩⟩
  rotate_left
  · exact ⟨rfl, ss, hss, ranS_cut h3 (Cut.right d3 rfl rfl) (k2.lgs.trans k3)⟩
  have f5 := l3.sec.free 5
  have c5 := l3.sec.cell 5 rfl
  have HSS := hid hss
  clear hss
  go_wp2_with fail
  go_ret
  have hb : s.b ∈ s.bl p a := by unfold Sc.bl; simp
  refine ⟨ss, HSS.out, ranS_end (l3.set 5 (.bool false) (op' := false) (f' := f) (t' := t) (by simp)) ?_ ?_ ((k2.lgs.trans k3).set (.inl hb) _)⟩
  · simp only [List.length_append]; omega
  · rw [execs_append]

end

end Go.Proofs.YtcdlikblebdfkaaGreat
