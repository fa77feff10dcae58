/- What the laws of layer 7 have in common: words from Active on, a section that is started, its definition's object. -/
import Derived.Test.YtfiohbniojmfaaaGreatSec6
namespace Go.Proofs.YtfiohbniojmfaaaGreat
open Go.RowKit Go.OpenShut

set_option maxRecDepth 100000 in
set_option maxHeartbeats 1000000 in
theorem words7_at (w : World) (p : Nat) (a : DA) (S : DS) (c : Cfg) (h : Dev w p a S) (hc : c.Ok) (hn : c.words = a.n) :
    Calls Tryz.prog 18 #[ptr a.d, cfgV c] w (Behind w c a.n S.now) := by
  have hs := hc.small
  obtain ⟨p1, p2, p3, p4⟩ := places hc
  have hw := words_ge hc
  have hab : (c.act : Int) ≤ 823 := by have := act_le hs; omega
  have hal : c.act ≤ a.n := by omega
  have hal1 : c.act < a.n := by omega
  have hnb : (a.n : Int) ≤ 15000 := by omega
  have HN := hid hn
  have D0 := h.keep ((Keeps.refl [] w).alloc (cfgO c)) (by simp) (by simp) (by simp) (by simp)
  have hB0 := At.new w (cfgO c)
  have K0 := (Keeps.refl [] w).alloc (cfgO c)
  clear p1 p2 p3 p4 hw hn
  go_enter Tryz.func18, Tryz.ntmps18
  go_wp2_with fail
  refine (words_at _ p a S D0).mono ?_
  rintro e w1 ⟨v1, rfl, hv1, hk1⟩
  obtain ⟨g, cap, rfl, hg, hgb, hcap, hR⟩ := hv1.reads
  have hB1 := hk1.at hB0 (by simp)
  have K1 := K0.trans hk1
  have hgw : w.heap.size ≤ g := by simp at hg; omega
  have HR := hid hR
  have hcp := hv1.row
  clear hv1 hR hg hcp K0 hk1
  have c0 := hB1.cell 0 rfl
  have c1 := hB1.cell 1 rfl
  have c2 := hB1.cell 2 rfl
  go_wp2_with fail
  refine (cwords_at w1 c hs).mono ?_
  rintro e w2 ⟨rfl, hk2⟩
  rw [HN.out]
  have hB2 := hk2.at hB1 (by simp)
  have K2 := K1.trans hk2
  have HR2 := hid (HR.out.keep hk2 (by simp))
  have hg2 := Nat.lt_of_lt_of_le hgb hk2.size
  clear c0 c1 c2
  have c0 := hB2.cell 0 rfl
  have c1 := hB2.cell 1 rfl
  have c2 := hB2.cell 2 rfl
  go_wp2_with fail
  refine (active_at w2 c hs).mono ?_
  rintro e w3 ⟨rfl, hk3⟩
  have HR3 := hid (HR2.out.keep hk3 (by simp))
  have hg3 := Nat.lt_of_lt_of_le hg2 hk3.size
  have K3 := K2.trans hk3
  clear c0 c1 c2
  have hcc : c.act ≤ cap := by omega
  have hci : (c.act : Int) ≤ (a.n : Int) := by omega
  have hci2 : (a.n : Int) ≤ (cap : Int) := by omega
  have hne : ¬ cap = c.act := by omega
  go_wp2_with fail
  go_ret
  exact ⟨g, _, rfl, hgw, hg3, HR3.out.from hal, K3⟩

theorem SW.lts {w : World} {p : Nat} {a : DA} {l u : Int} {S : DS} {s : Sc} {c : Cfg} {cnt : Nat} {st op : Bool} {f t : Int} {R U : Int → Option Value} (h : SW w p a l u S s c cnt st op f t R U) : ∀ b ∈ a.d :: s.bl p a, b < w.heap.size := by
  unfold Sc.bl
  intro b hb
  simp only [List.mem_cons, List.not_mem_nil, or_false] at hb
  rcases hb with rfl | rfl | rfl | rfl | rfl | rfl | rfl | rfl | rfl
  · exact h.lw.pw.dev.dev.lt
  · exact h.lw.pw.pow.lt
  · exact h.lw.pw.dev.now.lt
  · exact h.lw.pw.dev.kept.lt
  · exact h.lw.pw.dev.map.lt
  · exact h.lw.log.lt
  · exact h.sec.lt
  · exact h.rm.lt
  · exact h.um.lt

end Go.Proofs.YtfiohbniojmfaaaGreat
