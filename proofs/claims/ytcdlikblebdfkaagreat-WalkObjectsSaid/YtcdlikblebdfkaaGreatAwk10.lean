/- Layer 10's fixed fact. -/
import Derived.Test.YtcdlikblebdfkaaGreatFil
namespace Go.Proofs.YtcdlikblebdfkaaGreat
open Go.RowKit Go.OpenShut

theorem run_eqIn_fn (w : World) (d : Nat) (f : Fn) (l1 l2 : Array Value) : (Op.equalIn (d + 1) 88 (.func f l1 l2) .nilFunc).run Tryz.prog w = .ok false w := by
  simp [Op.equalIn, run_underlying Tryz.underlying88]
theorem run_neq_fn (w : World) (f : Fn) (l1 l2 : Array Value) : (binOp .neq 88 (.func f l1 l2) .nilFunc).run Tryz.prog w = .ok (.bool true) w := by
  have h : (Op.equal 88 (.func f l1 l2) .nilFunc).run Tryz.prog w = .ok false w := run_eqIn_fn w 9999 f l1 l2
  simp [binOp, h]

set_option maxRecDepth 100000 in
set_option maxHeartbeats 4000000 in
theorem awake10_any (w : World) : Calls Tryz.prog 19 #[] w fun e w' => e = .returned (.bool true) ∧ Below w.heap.size w w' := by
  go_enter Tryz.func19, Tryz.ntmps19
  go_wp2_with fail
  refine (awake9_any _).mono ?_
  rintro e w1 ⟨rfl, hb1⟩
  have K1 : Keeps [] w w1 := Go.Proofs.YtcdlikblebdfkaaGreat.Below.keeps hb1 []
  clear hb1
  have hos : fillL (mk3 0 0 40).space (hdsL (fun _ => 1) (fun _ => 2) 1) = [(2, 1)] := by decide
  have hok := mk3_ok 0 0 40
  obtain ⟨c, hc⟩ : ∃ c, c = mk3 0 0 40 := ⟨_, rfl⟩
  rw [← hc] at hos hok
  have HO := hid hok
  have HC := hid hc
  have HOS := hid hos
  clear hok hc hos
  go_wp2_with fail
  have hH2 := At.new w1 (.cells #[.int .u8 1, .int .u8 2] 65)
  have hy : ReadsH (w1.alloc (.cells #[.int .u8 1, .int .u8 2] 65)) (some ⟨w1.heap.size, 0, none⟩) 1 (fun _ => 1) (fun _ => 2) :=
    .inr ⟨w1.heap.size, 0, rfl, hH2.lt, fun i hi => by
      obtain rfl : i = 0 := by omega
      exact ⟨hH2.cell 0 rfl, hH2.cell 1 rfl, by decide, by decide⟩⟩
  have K2 := K1.alloc (.cells #[.int .u8 1, .int .u8 2] 65)
  have HF2 := hid (filled_at _ 0 0 40 (by omega) (by omega) (by omega) _ 1 1 (fun _ => 1) (fun _ => 2) hy (by omega) c HC.out)
  rw [HOS.out] at HF2
  clear hy hH2 K1
  refine HF2.out.mono ?_
  rintro e w3 ⟨p, a, u, S, x, cp, y, cy, B, rfl, hn, hP, hub, hF, hU, hI, hb, hB, hk3⟩
  have K3 := K2.trans hk3
  have hl1 : ([(2, 1)] : List (Nat × Nat)).length = 1 := rfl
  rw [hl1] at hI ⊢
  obtain ⟨g, rfl, hgB, hgl, hgc⟩ := hI.cell (by omega)
  obtain ⟨zz, hzz⟩ : ∃ zz, zz = c.frm 0 + posL [(2, 1)] 0 := ⟨_, rfl⟩
  have hg0 : w3.cell? ⟨g, 0, none⟩ = some (.int .i64 (zz : Nat)) := by rw [hzz]; exact hgc 0 (by omega)
  have hUl : (lenL [(2, 1)] : Nat) = 3 := rfl
  have hus : 3 ≤ c.space := by rw [← hUl]; exact hF.fits
  rw [hUl]
  have hfrm : c.frm 0 + c.space ≤ a.n := by rw [← hn]; exact frm_space 0 (by omega)
  have hp0 : posL [(2, 1)] 0 = 0 := rfl
  have HZ : Hid (zz = c.frm 0 ∧ zz + 2 < a.n ∧ S.now zz = ((hdPk 2 1 : Nat) : Int)) := by
    rw [hp0, Nat.add_zero] at hzz
    refine ⟨hzz, by omega, ?_⟩
    have := hF.word 0 (by omega)
    rw [hzz]
    exact this
  have HP := hid hP
  have HOF := hid (fun (w' : World) (hk : Keeps [] w3 w') => of_head w' p a S (hP.dev.keep hk (by simp) (by simp) (by simp) (by simp)) c HO.out hn 0 (by omega) 3 hus (.slice x c.roots cp) 0 2 1 (by rw [Nat.add_zero, ← HZ.out.1]; exact HZ.out.2.2) (by omega) (by omega) (by omega) zz (by rw [HZ.out.1]; rfl))
  go_upto_region 6 with fail
  obtain ⟨cb, hcb⟩ : ∃ cb, cb = w3.heap.size := ⟨_, rfl⟩
  obtain ⟨w4, hw4⟩ : ∃ w4, w4 = (w3.alloc (cfgO c)).alloc (bkO 0 3 (.slice x c.roots cp)) := ⟨_, rfl⟩
  have hC4 : At w4 cb (cfgO c) := by rw [hw4, hcb]; exact (At.new w3 _).alloc _
  have hB4 : At w4 (cb + 1) (bkO 0 3 (.slice x c.roots cp)) := by
    have := At.new (w3.alloc (cfgO c)) (bkO 0 3 (.slice x c.roots cp))
    rw [World.size_alloc] at this
    rw [hw4, hcb]; exact this
  have k34 : Keeps [] w3 w4 := by rw [hw4]; exact ((Keeps.refl [] w3).alloc _).alloc _
  have hzc : w4.heap.size = cb + 2 := by rw [hw4, hcb]; simp
  rw [← hw4, ← hcb]
  have HCL : Hid (∀ w', Keeps [] w4 w' → (w'.cell? ⟨cb, 0, none⟩ = some (.int .i64 c.log) ∧ w'.cell? ⟨cb, 1, none⟩ = some (.int .i64 c.roots) ∧ w'.cell? ⟨cb, 2, none⟩ = some (.int .i64 c.space) ∧ w'.cell? ⟨cb + 1, 0, none⟩ = some (.int .i64 0) ∧ w'.cell? ⟨cb + 1, 1, none⟩ = some (.int .i64 3) ∧ w'.cell? ⟨cb + 1, 2, none⟩ = some (.slice x c.roots cp) ∧ w'.cell? ⟨g, 0, none⟩ = some (.int .i64 (zz : Nat)))) := fun w' hk => by
    have e1 := hk.at hC4 (by simp)
    have e2 := hk.at hB4 (by simp)
    exact ⟨e1.cell 0 rfl, e1.cell 1 rfl, e1.cell 2 rfl, e2.cell 0 rfl, e2.cell 1 rfl, e2.cell 2 rfl, by rw [(k34.trans hk).cell hgl (by simp)]; exact hg0⟩
  have HOR : Hid (∀ w', Keeps [] w4 w' → Calls Tryz.prog 11 #[ptr a.d, cfgV c, bkV 0 3 (.slice x c.roots cp), .int .i64 (zz : Nat)] w' fun e w'' => e = .returned (.tuple #[obV 2 1 zz, .int .i64 0]) ∧ Keeps [] w' w'') := fun w' hk => HOF.out w' (k34.trans hk)
  have HK34 := hid k34
  have HC4 := hid hC4
  have HB4 := hid hB4
  have HN := hid hn
  have HK3 := hid K3
  have HUB := hid hub
  have HWB : Hid (∀ b ∈ [p, a.s, a.k, a.m], w.heap.size ≤ b) := fun b h => by
    have hz := (K2.size : w.heap.size ≤ _)
    simp only [List.mem_cons, List.not_mem_nil, or_false] at h
    omega
  clear hw4 hC4 hB4 k34 hg0 hgc HOF hI hF hfrm hp0 hl1 hUl hzz hus hcb hn K3 hb hB hk3 hgl hgB hzc HF2 K2 hU hP hub
  go_cut [5, 6] from 30 (fun s5 s6 wx => ∃ b5, s5 = ptr b5 ∧ s6 = .int .i64 0 ∧ At wx b5 (obO 2 1 zz) ∧ w4.heap.size ≤ b5 ∧ Keeps [] w4 wx)
  case first =>
    go_region_held3 (fun w' => w'.cell? ⟨cb, 0, none⟩ = some (.int .i64 c.log) ∧ w'.cell? ⟨cb, 1, none⟩ = some (.int .i64 c.roots) ∧ w'.cell? ⟨cb, 2, none⟩ = some (.int .i64 c.space) ∧ w'.cell? ⟨cb + 1, 0, none⟩ = some (.int .i64 0) ∧ w'.cell? ⟨cb + 1, 1, none⟩ = some (.int .i64 3) ∧ w'.cell? ⟨cb + 1, 2, none⟩ = some (.slice x c.roots cp) ∧ w'.cell? ⟨g, 0, none⟩ = some (.int .i64 (zz : Nat)))
      ((refine HCL.out _ ?_; repeat' (first | assumption | exact Keeps.refl _ _ | refine Keeps.drew ?_ | refine Keeps.alloc ?_ _ | (refine Keeps.trans ?_ hk) | (refine Keeps.set ?_ (by right; simp) _))))
      (first
        | (go_at_call 11; refine (HOR.out _ ?_).mono ?_; (repeat' (first | exact Keeps.refl _ _ | refine Keeps.drew ?_ | refine Keeps.alloc ?_ _)); rintro e w' ⟨rfl, hk⟩; try (have h5 := hk.at (At.drew (At.new w4 (obO 0 0 0))) (by simp); have x0 := h5.cell 0 rfl; have x1 := h5.cell 1 rfl; have x2 := h5.cell 2 rfl; have y0 := h5.free 0; have y1 := h5.free 1; have y2 := h5.free 2)))
    all_goals
      go_wp2_with fail
      go_meet
      first
        | exact ⟨_, rfl, rfl, At.new _ _, hk.size, ((Keeps.refl [] w4).drew.trans hk).alloc _⟩
        | exact ⟨_, rfl, rfl, ((h5.set 0 (.int .i64 2)).set 1 (.int .i64 1)).set 2 (.int .i64 zz), Nat.le_refl _, (((((Keeps.refl [] w4).alloc _).drew.trans hk).set (.inr (Nat.le_refl _)) _).set (.inr (Nat.le_refl _)) _).set (.inr (Nat.le_refl _)) _⟩
  case rest =>
    obtain ⟨b5, rfl, rfl, hA5, hz5, k5⟩ := hcut
    have hP5 := HP.out.keep0 (HK34.out.trans k5)
    have K5 := (HK3.out.trans HK34.out).trans k5
    have hpl := hP5.lo
    have E1 : fldE 2 1 0 false = 5 := by decide
    have E2 : fldE 2 1 1 false = 0 := by decide
    have hzi : (zz : Int) + 2 < (a.n : Int) := by have := HZ.out.2.1; omega
    have HR1 := hid (oread_at wc p a S hP5.dev 2 1 zz 0 (by omega) (by omega))
    rw [E1, rdW_no (by decide)] at HR1
    have hU : u ≤ 200000 := HUB.out
    have HW := hid (fun (w' : World) (hk : Keeps [] wc w') => owrite_free w' p a u S (hP5.keep0 hk) (by omega) 2 1 zz 1 9 (by omega) (by omega))
    rw [E2] at HW
    have HA5 := hid hA5
    have HZ5 : Hid (b5 ∉ [p, a.s, a.k, a.m]) := fun h => by
      have h1 := HP.out.pow.lt
      have h2 := HP.out.dev.now.lt
      have h3 := HP.out.dev.kept.lt
      have h4 := HP.out.dev.map.lt
      have h5 := HK34.out.size
      simp only [List.mem_cons, List.not_mem_nil, or_false] at h
      omega
    have HZI := hid hzi
    have HKW := hid K5
    clear hU hpl hzi hz5 k5 K5 hP5 E1
    have c0 := hA5.cell 0 rfl
    have c1 := hA5.cell 1 rfl
    have c2 := hA5.cell 2 rfl
    go_wp2_with fail
    refine HR1.out.mono ?_
    rintro e w6 ⟨rfl, hk6⟩
    have hA6 := hk6.at hA5 (by simp)
    clear c0 c1 c2
    have c0 := hA6.cell 0 rfl
    have c1 := hA6.cell 1 rfl
    have c2 := hA6.cell 2 rfl
    go_wp2_with fail
    refine (HW.out _ hk6).mono ?_
    rintro e w7 ⟨rfl, hx⟩
    obtain ⟨u7, hP7, hu7, hk7⟩ := hx.out
    have hA7 := hk7.at hA6 HZ5.out
    have HR7 := hid (oread_at w7 p a _ hP7.dev 2 1 zz 1 (by omega) (by have := HZI.out; omega))
    have EV : rdW (setS S zz 1 9 0) zz 1 0 = 9 := by
      unfold rdW
      rw [if_pos rfl, setS_yes, if_pos rfl]
    rw [E2, EV] at HR7
    have K7 : Keeps [] w w7 := (HKW.out.trans hk6).new hk7 (fun b hb => .inr (HWB.out b hb))
    clear c0 c1 c2 hx hA6 hA5 EV hP7 hu7 hk7
    have c0 := hA7.cell 0 rfl
    have c1 := hA7.cell 1 rfl
    have c2 := hA7.cell 2 rfl
    go_wp2_with fail
    refine HR7.out.mono ?_
    rintro e w8 ⟨rfl, hk8⟩
    have hA8 := hk8.at hA7 (by simp)
    clear c0 c1 c2
    have c0 := hA8.cell 0 rfl
    have c1 := hA8.cell 1 rfl
    have c2 := hA8.cell 2 rfl
    go_wp2_with fail
    refine (onames_at w8 2 1 zz a.d).mono ?_
    rintro e w9 ⟨rfl, rfl⟩
    have hfn := fun w => run_neq_fn w (.func 48) #[] #[ptr w8.heap.size, ptr (w8.heap.size + 1)]
    go_wp2_with fail
    go_ret
    exact ⟨rfl, (((K7.trans hk8).alloc _).alloc _).below (Nat.le_refl _) (by simp)⟩

end Go.Proofs.YtcdlikblebdfkaaGreat
