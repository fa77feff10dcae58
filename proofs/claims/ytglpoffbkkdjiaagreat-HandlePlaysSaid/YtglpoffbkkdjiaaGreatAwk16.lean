import Derived.Test.YtglpoffbkkdjiaaGreatTab
import Derived.Test.YtglpoffbkkdjiaaGreatAwk15
namespace Go.Proofs.YtglpoffbkkdjiaaGreat
open Go.RowKit Go.OpenShut
set_option maxRecDepth 100000 in
set_option maxHeartbeats 1000000 in
theorem awake16_any (w:World):Calls Tryz.prog 7 #[] w fun e w' => e = .returned (.bool true) ∧ Below w.heap.size w w':=by
 go_enter Tryz.func7,Tryz.ntmps7
 go_wp2_with fail
 refine (awake15_any _).mono ?_
 rintro e w1 ⟨rfl,hb1⟩
 have K1:Keeps [] w w1:=Go.Proofs.YtglpoffbkkdjiaaGreat.Below.keeps hb1 []
 clear hb1
 go_wp2_with fail
 refine (hnew_at w1).mono ?_
 rintro e w2 ⟨x,rfl,h2,hk2,hx⟩
 have HX:Hid (∀ b ∈ x.bl,b ∉ [] ∧ w.heap.size ≤ b):=fun b hb => ⟨by simp,Nat.le_trans K1.size (hx b hb)⟩
 have K2:=K1.trans hk2
 have c5:=hid (htake_new w2 x 0 _ 5 h2 (fun _ => by simp) (by omega) (by omega) (by omega))
 rw [show ((5:Nat):Int) = 5 from rfl,show ((0 + 1:Nat):Int) = 1 from rfl] at c5
 clear hx hk2 h2 K1
 go_wp2_with fail
 refine c5.out.mono ?_
 rintro e w3 ⟨rfl,h3,hk3⟩
 have K3:=K2.new hk3 (fun b hb => .inr (HX.out b hb).2)
 have hg6:∀ i,upd (fun _ => 0) (0 + 1) 5 i ≠ 6:=fun i => by unfold upd; split <;> simp
 have c6:=hid (htake_new w3 x 1 _ 6 h3 hg6 (by omega) (by omega) (by omega))
 rw [show ((6:Nat):Int) = 6 from rfl,show ((1 + 1:Nat):Int) = 2 from rfl] at c6
 clear hk3 h3 K2 c5 hg6
 go_wp2_with fail
 refine c6.out.mono ?_
 rintro e w4 ⟨rfl,h4,hk4⟩
 have K4:=K3.new hk4 (fun b hb => .inr (HX.out b hb).2)
 have c7:=hid (htake_had w4 x 2 _ 1 5 h4 (by unfold upd; rfl) (by omega))
 rw [show ((5:Nat):Int) = 5 from rfl,show ((1:Nat):Int) = 1 from rfl] at c7
 clear hk4 h4 K3 c6
 go_wp2_with fail
 refine c7.out.mono ?_
 rintro e w5 ⟨rfl,rfl⟩
 clear c7
 go_wp2_with fail
 refine (htake_zero _ x.t).mono ?_
 rintro e w6 ⟨rfl,rfl⟩
 go_wp2_with fail
 go_ret
 exact ⟨rfl,K4.below (Nat.le_refl _) (by simp)⟩
end Go.Proofs.YtglpoffbkkdjiaaGreat
