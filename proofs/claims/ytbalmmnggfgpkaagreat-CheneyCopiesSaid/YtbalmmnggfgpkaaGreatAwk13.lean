/- Layer 13's fixed fact. -/
import Derived.Test.YtbalmmnggfgpkaaGreatAwk12
import Derived.Test.YtbalmmnggfgpkaaGreatSiz
import Derived.Deep.RegionHeld3
namespace Go.Proofs.YtbalmmnggfgpkaaGreat
open Go.RowKit Go.OpenShut

theorem run_eqIn_rc (w : World) (d : Nat) (f : Fn) (l1 l2 : Array Value) : (Op.equalIn (d + 1) 102 (.func f l1 l2) .nilFunc).run Tryz.prog w = .ok false w := by
  simp [Op.equalIn, run_underlying Tryz.underlying102]
theorem run_eql_rc (w : World) (f : Fn) (l1 l2 : Array Value) : (binOp .eql 102 (.func f l1 l2) .nilFunc).run Tryz.prog w = .ok (.bool false) w := by
  have h : (Op.equal 102 (.func f l1 l2) .nilFunc).run Tryz.prog w = .ok false w := run_eqIn_rc w 9999 f l1 l2
  simp [binOp, h]

theorem rcF_none (S : DS) (c : Cfg) (k u : Nat) : rcF S c k u [] = [] := (rcW_fin (S := S) (c := c) (k := k) (u := u) (ws := []) (i := 0) (Nat.le_refl _)).symm
/-- One that names nothing. -/
theorem rcF_one {S : DS} {c : Cfg} {k u z n : Nat} (h : obW S c k u z = some (n, 0)) : rcF S c k u [z] = [z] ∧ szF S (rcF S c k u [z]) = n + 1 := by
  obtain ⟨_, _, h3, h4, _, _⟩ := obW_some h
  have h0 : rcW S c k u [z] 0 = [z] := by
    show seeW S c k u [] z = _
    rw [seeW_yes (by rw [h]; rfl) (by simp)]
    rfl
  have h1 : rcW S c k u [z] 1 = [z] := by
    rw [rcW_some (by rw [h0]; rfl : (rcW S c k u [z] 0)[0]? = some z), h0]
    unfold nmW
    rw [← h4]
    rfl
  have h2 : rcF S c k u [z] = [z] := by
    rw [← rcW_fin (i := 1) (by rw [h1]; exact Nat.le_refl _), h1]
  refine ⟨h2, ?_⟩
  rw [h2, szF_cons, ← h3]
  rfl

set_option maxRecDepth 100000 in
set_option maxHeartbeats 4000000 in
theorem awake13_any (w : World) : Calls Tryz.prog 32 #[] w fun e w' => e = .returned (.bool true) ∧ Below w.heap.size w w' := by
  go_enter Tryz.func32, Tryz.ntmps32
  go_wp2_with fail
  refine (awake12_any _).mono ?_
  rintro e w1 ⟨rfl, hb1⟩
  have K1 : Keeps [] w w1 := Go.Proofs.YtbalmmnggfgpkaaGreat.Below.keeps hb1 []
  clear hb1
  have hos : [(1, 0), (2, 0)] = fillL (mk3 0 0 40).space (hdsL (fun _ => 0) (fun i => i + 1) 2) := by decide
  have hok := mk3_ok 0 0 40
  obtain ⟨c, hc⟩ : ∃ c, c = mk3 0 0 40 := ⟨_, rfl⟩
  rw [← hc] at hos hok
  have HO := hid hok
  have HC := hid hc
  have HOS := hid hos
  clear hok hc hos
  go_wp2_with fail
  have hH2 := At.new w1 (.cells #[.int .u8 0, .int .u8 1, .int .u8 0, .int .u8 2] 69)
  have hy : ReadsH (w1.alloc (.cells #[.int .u8 0, .int .u8 1, .int .u8 0, .int .u8 2] 69)) (some ⟨w1.heap.size, 0, none⟩) 2 (fun _ => 0) (fun i => i + 1) :=
    .inr ⟨w1.heap.size, 0, rfl, hH2.lt, fun i hi => by
      have h2 : i = 0 ∨ i = 1 := by omega
      rcases h2 with rfl | rfl
      · exact ⟨hH2.cell 0 rfl, hH2.cell 1 rfl, by decide, by decide⟩
      · exact ⟨hH2.cell 2 rfl, hH2.cell 3 rfl, by decide, by decide⟩⟩
  have K2 := K1.alloc (.cells #[.int .u8 0, .int .u8 1, .int .u8 0, .int .u8 2] 69)
  refine (linked_at _ 0 0 40 (by omega) (by omega) (by omega) _ 2 2 (fun _ => 0) (fun i => i + 1) hy (by omega) none 0 0 (fun _ => 0) (.inl rfl) (by omega) 0 (by omega) c HC.out [(1, 0), (2, 0)] HOS.out).mono ?_
  rintro e w3 ⟨p, a, u, S, x, cp, y, cy, B, rfl, hn, hP, hub, hL, hU, hI, hb, hB, hk3⟩
  have K3 := K2.trans hk3
  have hl1 : ([(1, 0), (2, 0)] : List (Nat × Nat)).length = 2 := rfl
  have hob1 := hL.ob (i := 1) (by decide)
  have hsp := HO.out.small.2.2
  have hfr := frm_le HO.out.small (show 0 ≤ 2 by omega)
  have hwd := hL.wd hsp (lnkG_wd c _ (fun _ => 0) 0 0 (by have : lenL [(1, 0), (2, 0)] = 5 := rfl; omega))
  rw [hl1] at hI ⊢
  obtain ⟨g, rfl, hgB, hgl, hgc⟩ := hI.cell (by omega)
  obtain ⟨zz, hzz⟩ : ∃ zz, zz = c.frm 0 + posL [(1, 0), (2, 0)] 1 := ⟨_, rfl⟩
  have hg1 : w3.cell? ⟨g, 1, none⟩ = some (.int .i64 (zz : Nat)) := by rw [hzz]; exact hgc 1 (by omega)
  rw [← hzz] at hob1
  have hUl : (lenL [(1, 0), (2, 0)] : Nat) = 5 := rfl
  rw [hUl] at hob1 ⊢
  have HOB := hid (show obW S c 0 5 zz = some (2, 0) from hob1)
  have HX : Hid (∀ j : Nat, c.frm 0 ≤ j → j < c.frm 0 + 5 → ∃ x : Nat, S.now j = (x : Int) ∧ x < 18446744073709551616) := fun j h1 h2 => hwd.sp j h1 (by have h3 := frm_space (c := c) 0 (by omega); have h4 := hL.fits; omega)
  have hzi : (zz : Int) ≤ 100000 := by rw [hzz]; have : posL [(1, 0), (2, 0)] 1 = 2 := rfl; omega
  have HFI : Hid (5 ≤ c.space) := by have := hL.fits; rw [hUl] at this; exact this
  have HP := hid hP
  have HN := hid hn
  have HK3 := hid K3
  clear hy hH2 K1 K2 hk3 hb hB hI hgc hL hU hP hn hub hzz hsp hfr hwd hob1 K3
  go_wp2_with fail
  obtain ⟨cb, hcb⟩ : ∃ cb, cb = w3.heap.size := ⟨_, rfl⟩
  obtain ⟨w4, hw4⟩ : ∃ w4, w4 = (w3.alloc (cfgO c)).alloc (bkO 0 5 (.slice x c.roots cp)) := ⟨_, rfl⟩
  have hC4 : At w4 cb (cfgO c) := by rw [hw4, hcb]; exact (At.new w3 _).alloc _
  have hB4 : At w4 (cb + 1) (bkO 0 5 (.slice x c.roots cp)) := by
    have := At.new (w3.alloc (cfgO c)) (bkO 0 5 (.slice x c.roots cp))
    rw [World.size_alloc] at this
    rw [hw4, hcb]; exact this
  have k34 : Keeps [] w3 w4 := by rw [hw4]; exact ((Keeps.refl [] w3).alloc _).alloc _
  rw [← hw4, ← hcb]
  clear hw4 hcb
  refine (from13_at w4 p a S c (HP.out.dev.keep k34 (by simp) (by simp) (by simp) (by simp)) HO.out HN.out 0 (by omega) 5 HFI.out (.slice x c.roots cp) HX.out none 0 0 (fun _ => 0) (.inl rfl) (by omega) (fun i hi => by omega)).mono ?_
  rintro e w5 ⟨gf, lb, Fct, rfl, _, _, _, k45⟩
  have hfn := fun w => run_eql_rc w (.func gf) #[] lb
  have k35 := k34.trans k45
  have hC5 := k45.at hC4 (by simp)
  have hB5 := k45.at hB4 (by simp)
  have hD5 := HP.out.dev.keep k35 (by simp) (by simp) (by simp) (by simp)
  have HSZ : Hid (∀ W, Keeps [] w5 W → ∀ (y : Option Addr) (n cq : Nat), (n = 0 ∨ n = 1 ∧ ∃ b, y = some ⟨b, 0, none⟩ ∧ b < W.heap.size ∧ W.cell? ⟨b, 0, none⟩ = some (.int .u64 (zz : Nat))) →
      Calls Tryz.prog 56 #[ptr a.d, cfgV c, bkV 0 5 (.slice x c.roots cp), .slice y n cq] W fun e w' => e = .returned (.int .i64 (if n = 0 then 0 else 3)) ∧ Keeps [] W w') := by
    intro W hk y n cq hq
    have hDW := hD5.keep hk (by simp) (by simp) (by simp) (by simp)
    have hr : Reads W y n (fun _ => (zz : Int)) := by
      rcases hq with h | ⟨rfl, b, rfl, hb, hcl⟩
      · exact .inl h
      · exact .inr ⟨b, 0, rfl, hb, fun i hi => by obtain rfl : i = 0 := by omega
                                                  exact hcl⟩
    refine (size13_at W p a S c hDW HO.out HN.out 0 (by omega) 5 HFI.out (.slice x c.roots cp) HX.out y n cq (fun _ => (zz : Int)) hr (by omega) (fun i hi => ⟨zz, rfl, by omega⟩)).mono ?_
    rintro e w' ⟨rfl, hk'⟩
    refine ⟨?_, hk'⟩
    rcases hq with rfl | ⟨rfl, _⟩
    · rw [show wsN 0 (fun _ => (zz : Int)) = [] from rfl, rcF_none]
      rfl
    · rw [show wsN 1 (fun _ => (zz : Int)) = [zz] by simp [wsN], (rcF_one HOB.out).2]
      rfl
  have g5 : w5.cell? ⟨g, 1, none⟩ = some (.int .i64 (zz : Nat)) := (k35.cell hgl (by simp)).trans hg1
  have hcz : zz < 18446744073709551616 := by omega
  have e1 : IntKind.u64.wrap (zz : Int) = (zz : Int) := IntWalk.u64_in _ (by omega)
  have HCZ := hid (fun (w' : World) (kk : Keeps [] w5 w') => show w'.cell? ⟨cb, 0, none⟩ = some (.int .i64 c.log) ∧ w'.cell? ⟨cb, 1, none⟩ = some (.int .i64 c.roots) ∧ w'.cell? ⟨cb, 2, none⟩ = some (.int .i64 c.space) ∧ w'.cell? ⟨cb + 1, 0, none⟩ = some (.int .i64 0) ∧ w'.cell? ⟨cb + 1, 1, none⟩ = some (.int .i64 5) ∧ w'.cell? ⟨cb + 1, 2, none⟩ = some (.slice x c.roots cp) ∧ w'.cell? ⟨g, 1, none⟩ = some (.int .i64 (zz : Nat)) from
    ⟨(kk.at hC5 (by simp)).cell 0 rfl, (kk.at hC5 (by simp)).cell 1 rfl, (kk.at hC5 (by simp)).cell 2 rfl, (kk.at hB5 (by simp)).cell 0 rfl, (kk.at hB5 (by simp)).cell 1 rfl, (kk.at hB5 (by simp)).cell 2 rfl, (kk.cell (Nat.lt_of_lt_of_le hgl k35.size) (by simp)).trans g5⟩)
  have c0 := hC4.cell 0 rfl
  have HK5 := hid (HK3.out.trans k35)
  have c0 := hC5.cell 0 rfl
  clear hC4 hB4 k34 k45 hC5 hB5 k35 hD5 hgl hg1 hcz
  go_upto_region 6 with fail
  have kk : Keeps [] w5 w5.drew := (Keeps.refl [] w5).drew
  go_region_held3 (fun w' => w'.cell? ⟨cb, 0, none⟩ = some (.int .i64 c.log) ∧ w'.cell? ⟨cb, 1, none⟩ = some (.int .i64 c.roots) ∧ w'.cell? ⟨cb, 2, none⟩ = some (.int .i64 c.space) ∧ w'.cell? ⟨cb + 1, 0, none⟩ = some (.int .i64 0) ∧ w'.cell? ⟨cb + 1, 1, none⟩ = some (.int .i64 5) ∧ w'.cell? ⟨cb + 1, 2, none⟩ = some (.slice x c.roots cp) ∧ w'.cell? ⟨g, 1, none⟩ = some (.int .i64 (zz : Nat)))
    (first | exact HCZ.out _ kk | exact HCZ.out _ (kk.alloc _))
    (first
      | (go_at_call 56; refine (HSZ.out _ (by first | exact kk | exact kk.alloc _) _ _ _ (by first | exact .inl rfl | exact .inr ⟨rfl, _, rfl, (At.new _ _).lt, (At.new _ _).cell 0 rfl⟩)).mono ?_; rintro e w' ⟨rfl, hk9⟩; have kk := (by first | exact kk.trans hk9 | exact (kk.alloc _).trans hk9 : Keeps [] w5 w'); clear hk9))
  all_goals
    rename_i hHd
    clear hHd
    go_wp2_with fail
    go_ret
    exact ⟨rfl, (HK5.out.trans kk).below (Nat.le_refl _) (by simp)⟩

end Go.Proofs.YtbalmmnggfgpkaaGreat

