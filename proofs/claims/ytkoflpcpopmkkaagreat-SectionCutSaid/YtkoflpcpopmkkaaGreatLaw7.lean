/- What the laws of layer 7 have in common: words from Active on, a section that is started, its definition's object. -/
import Derived.Test.YtkoflpcpopmkkaaGreatSec6
namespace Go.Proofs.YtkoflpcpopmkkaaGreat
open Go.RowKit Go.OpenShut

set_option maxRecDepth 100000 in
set_option maxHeartbeats 1000000 in
theorem words7_at (w : World) (p : Nat) (a : DA) (S : DS) (c : Cfg) (h : Dev w p a S) (hc : c.Ok) (hn : c.words = a.n) :
    Calls Tryz.prog 24 #[ptr a.d, cfgV c] w (Behind w c a.n S.now) := by
  have hs := hc.small
  obtain ⟨p1, p2, p3, p4⟩ := places hc
  have hw := words_ge hc
  have hab : (c.act : Int) ≤ 823 := by have := act_le hs; omega
  have hal : c.act ≤ a.n := by omega
  have hal1 : c.act < a.n := by omega
  have hnb : (a.n : Int) ≤ 15000 := by omega
  have HN := hid hn
  have D0 := h.keep ((Keeps.refl [] w).alloc (cfgO c)) (by simp) (by simp) (by simp) (by simp)
  have hB0 := At.new w (cfgO c)
  have K0 := (Keeps.refl [] w).alloc (cfgO c)
  clear p1 p2 p3 p4 hw hn
  go_enter Tryz.func24, Tryz.ntmps24
  go_wp2_with fail
  refine (words_at _ p a S D0).mono ?_
  rintro e w1 ⟨v1, rfl, hv1, hk1⟩
  obtain ⟨g, cap, rfl, hg, hgb, hcap, hR⟩ := hv1.reads
  have hB1 := hk1.at hB0 (by simp)
  have K1 := K0.trans hk1
  have hgw : w.heap.size ≤ g := by simp at hg; omega
  have HR := hid hR
  have hcp := hv1.row
  clear hv1 hR hg hcp K0 hk1
  have c0 := hB1.cell 0 rfl
  have c1 := hB1.cell 1 rfl
  have c2 := hB1.cell 2 rfl
  go_wp2_with fail
  refine (cwords_at w1 c hs).mono ?_
  rintro e w2 ⟨rfl, hk2⟩
  rw [HN.out]
  have hB2 := hk2.at hB1 (by simp)
  have K2 := K1.trans hk2
  have HR2 := hid (HR.out.keep hk2 (by simp))
  have hg2 := Nat.lt_of_lt_of_le hgb hk2.size
  clear c0 c1 c2
  have c0 := hB2.cell 0 rfl
  have c1 := hB2.cell 1 rfl
  have c2 := hB2.cell 2 rfl
  go_wp2_with fail
  refine (active_at w2 c hs).mono ?_
  rintro e w3 ⟨rfl, hk3⟩
  have HR3 := hid (HR2.out.keep hk3 (by simp))
  have hg3 := Nat.lt_of_lt_of_le hg2 hk3.size
  have K3 := K2.trans hk3
  clear c0 c1 c2
  have hcc : c.act ≤ cap := by omega
  have hci : (c.act : Int) ≤ (a.n : Int) := by omega
  have hci2 : (a.n : Int) ≤ (cap : Int) := by omega
  have hne : ¬ cap = c.act := by omega
  go_wp2_with fail
  go_ret
  exact ⟨g, _, rfl, hgw, hg3, HR3.out.from hal, K3⟩

/-- A section by definition: its config, words that stand, as they were, which have a record, is one open, what is fresh. -/
abbrev mO (c : Cfg) (now was seen : Value) (op : Bool) (f t : Int) : Obj := .cells #[.int .i64 c.log, .int .i64 c.roots, .int .i64 c.space, now, was, seen, .bool op, .int .i64 f, .int .i64 t] 44

theorem SW.lts {w : World} {p : Nat} {a : DA} {l u : Int} {S : DS} {s : Sc} {c : Cfg} {cnt : Nat} {st op : Bool} {f t : Int} {R U : Int → Option Value} (h : SW w p a l u S s c cnt st op f t R U) : ∀ b ∈ a.d :: s.bl p a, b < w.heap.size := by
  unfold Sc.bl
  intro b hb
  simp only [List.mem_cons, List.not_mem_nil, or_false] at hb
  rcases hb with rfl | rfl | rfl | rfl | rfl | rfl | rfl | rfl | rfl
  · exact h.lw.pw.dev.dev.lt
  · exact h.lw.pw.pow.lt
  · exact h.lw.pw.dev.now.lt
  · exact h.lw.pw.dev.kept.lt
  · exact h.lw.pw.dev.map.lt
  · exact h.lw.log.lt
  · exact h.sec.lt
  · exact h.rm.lt
  · exact h.um.lt

/-- What start answers: a device, a section over it that isn't open, what it is by definition. -/
def Started (c : Cfg) (w : World) (e : Ending) (w' : World) : Prop :=
  ∃ p a u S s U mb nv, e = .returned (.tuple #[ptr a.d, ptr s.b, ptr mb]) ∧ c.words = a.n ∧ SW w' p a (-1) u S s c 0 false false 0 0 (fun _ => none) U ∧ UIn U a.n ∧ u ≤ 100000 ∧ LI c a.n 1 0 0 (fun _ => 0) (fun _ => 0) S.now S ∧ (∀ j, j < a.n → Fix S j (S.now j)) ∧
    At w' mb (mO c nv (.slice none 0 0) (.slice none 0 0) false 0 0) ∧ Own w' w.heap.size nv (a.n - c.act) (fun i => S.now (c.act + i)) ∧ (∀ b ∈ mb :: a.d :: s.bl p a, w.heap.size ≤ b) ∧ mb ∉ a.d :: s.bl p a ∧ (∀ g, nv.ownBlock = some g → g ∉ mb :: a.d :: s.bl p a) ∧ Keeps [] w w'

set_option maxRecDepth 100000 in
set_option maxHeartbeats 4000000 in
theorem start_at (w : World) (l r s : Nat) (hl : l ≤ 65535) (hr : r ≤ 65535) (hs : s ≤ 65535) (x : Option Addr) (n cp : Nat) (f : Nat → Int) (hx : Reads w x n f) (hn : n ≤ 30) :
    Calls Tryz.prog 11 #[c3V l r s, .slice x n cp] w (Started (mk3 l r s) w) := by
  have HX := hid hx
  clear hx
  go_enter Tryz.func11, Tryz.ntmps11
  go_wp2_with fail
  have K0 := (Keeps.refl [] w).alloc (c3O l r s)
  refine (make3_at _ l r s hl hr hs).mono ?_
  rintro e w1 ⟨rfl, hk1⟩
  have K1 := K0.trans hk1
  have hok := mk3_ok l r s
  obtain ⟨c, hc⟩ : ∃ c, c = mk3 l r s := ⟨_, rfl⟩
  rw [← hc] at hok ⊢
  have HCC := hid hc
  clear hc hk1 K0
  go_wp2_with fail
  have hC2 := At.new w1 (cfgO c)
  have K2 := K1.alloc (cfgO c)
  have hz1 : w.heap.size ≤ w1.heap.size := K1.size
  obtain ⟨cb, hcb⟩ : ∃ cb, cb = w1.heap.size := ⟨_, rfl⟩
  obtain ⟨w2, hw2⟩ : ∃ w2, w2 = w1.alloc (cfgO c) := ⟨_, rfl⟩
  have hz2 : w2.heap.size = cb + 1 := by rw [hw2, hcb]; simp
  rw [← hw2] at hC2 K2 ⊢
  rw [← hcb] at hC2 hz1 ⊢
  clear hw2 hcb K1
  refine (formatted_at w2 c hok x n cp f (HX.out.keep K2 (by simp)) hn).mono ?_
  rintro e w3 ⟨p, a, u, S, rfl, haN, hP, hu, hW, hkp, his, ⟨b1, b2, b3, b4, b5⟩, hk3⟩
  have hC3 := hk3.at hC2 (by simp)
  have K3 := K2.trans hk3
  have hLI := LI.fresh (fun _ => 0) (fun _ => 0) hok haN hW hkp his
  have hF : Hid (∀ j, j < a.n → Fix S j (S.now j)) := fun j hj => ⟨rfl, hkp j hj, fun e => by rw [his] at e; cases e⟩
  have HN := hid haN
  have HO := hid hok
  have HLI := hid hLI
  have hci := c_in hok haN
  have HB := hid (show cb + 1 ≤ a.d ∧ cb + 1 ≤ a.s ∧ cb + 1 ≤ a.k ∧ cb + 1 ≤ a.m ∧ cb + 1 ≤ p ∧ w.heap.size ≤ cb by omega)
  clear haN hok hkp his hW hC2 hk3 hLI K2 b1 b2 b3 b4 b5
  have c0 := hC3.cell 0 rfl
  have c1 := hC3.cell 1 rfl
  have c2 := hC3.cell 2 rfl
  go_wp2_with fail
  refine (snew_at hP HO.out HN.out HLI.out.1 (by omega)).mono ?_
  rintro e w4 ⟨s, U, rfl, hS4, hU, hk4, n1, n2, n3, n4⟩
  have hC4 := hk4.at hC3 (by simp)
  have K4 := K3.trans hk4
  have HU := hid hU
  have hz3 := K3.size
  have z3 := hC3.lt
  have HS4 := hid (show w3.heap.size ≤ s.b ∧ w3.heap.size ≤ s.lb ∧ w3.heap.size ≤ s.rb ∧ w3.heap.size ≤ s.ub from ⟨n1, n2, n3, n4⟩)
  clear c0 c1 c2 hC3 hk4 hP hU n1 n2 n3 n4
  have d0 := hS4.sec.cell 0 rfl
  go_upto_region 8 with fail
  have HC : Hid (∀ w', Keeps [] w4 w' → (w'.cell? ⟨cb, 0, none⟩ = some (.int .i64 c.log) ∧ w'.cell? ⟨cb, 1, none⟩ = some (.int .i64 c.roots) ∧ w'.cell? ⟨cb, 2, none⟩ = some (.int .i64 c.space))) := fun w' hk => ⟨(hk.at hC4 (by simp)).cell 0 rfl, (hk.at hC4 (by simp)).cell 1 rfl, (hk.at hC4 (by simp)).cell 2 rfl⟩
  have HW := hid (fun (w' : World) (hk : Keeps [] w4 w') => words7_at w' p a S c (hS4.lw.pw.dev.keep hk (by simp) (by simp) (by simp) (by simp)) HO.out HN.out)
  have kk : Keeps [] w4 w4.drew := (Keeps.refl _ _).drew
  go_region_held3 (fun w' => w'.cell? ⟨cb, 0, none⟩ = some (.int .i64 c.log) ∧ w'.cell? ⟨cb, 1, none⟩ = some (.int .i64 c.roots) ∧ w'.cell? ⟨cb, 2, none⟩ = some (.int .i64 c.space))
    (exact HC.out _ (by repeat first | exact kk | apply Keeps.alloc))
    (first
      | (go_at_call 24; refine (HW.out _ kk).mono ?_; rintro e w5 ⟨g, cap, rfl, hg, hgb, hR, hk1⟩; have kk := kk.trans hk1; have HR := hid hR; clear hk1 hR hg hgb)
      | (go_at_call 14; refine (clone_at _ _ _ _ _ HR.out (by omega)).mono ?_; rintro e w6 ⟨nv, rfl, ⟨ng, ncap, ncur, rfl, o1, o2, o3, o4, o5, o6⟩, hk1⟩; have kk := kk.trans hk1; have o1' := Nat.le_trans (Keeps.size (by assumption : Keeps [] w4 _)) o1; have HO6 := hid (show Own w6 w4.heap.size (.slice (some ⟨ng, 0, none⟩) (a.n - c.act) ncap) (a.n - c.act) _ from ⟨ng, ncap, ncur, rfl, o1', o2, o3, o4, o5, o6⟩); clear hk1 o1 o2 o3 o4 o5 o6))
  go_wp2_with fail
  go_ret3
  have hlt := hS4.lts
  have hz6 := kk.size
  have hng : ng < w6.heap.size := by
    obtain ⟨_, _, _, e1, _, e2, _⟩ := HO6.out
    cases e1
    exact e2.lt
  have HBo := HB.out
  have HSo := HS4.out
  rw [← HCC.out]
  refine ⟨p, a, u, S, s, U, w6.heap.size, _, rfl, HN.out, hS4.keep0 (kk.alloc _), HU.out, hu, HLI.out, hF.out, At.new _ _, ?_, ?_, ?_, ?_, K4.trans (kk.alloc _)⟩
  · obtain ⟨g0, cap0, cur0, e1, e2, e3, e4, e5, e6, e7⟩ := HO6.out
    exact ⟨g0, cap0, cur0, e1, by have := K4.size; omega, e3.alloc _, e4, e5, e6, e7⟩
  · intro b hb
    rw [List.mem_cons] at hb
    rcases hb with rfl | hb
    · have := K4.size; omega
    · unfold Sc.bl at hb
      simp only [List.mem_cons, List.not_mem_nil, or_false] at hb
      omega
  · intro hm
    have := hlt _ hm
    omega
  · intro g' hg' hm
    have e0 : ng = g' := by simpa [Value.ownBlock] using hg'
    rw [List.mem_cons] at hm
    rcases hm with e | hm
    · omega
    · have := hlt _ hm
      omega

end Go.Proofs.YtkoflpcpopmkkaaGreat
