/- The walk of the law SuperMagic. -/
import Derived.Test.YtmbbhjddjmljoaaLaw5
namespace Go.Proofs.Ytmbbhjddjmljoaa
open Go.RowKit Go.OpenShut

theorem magic_put (S : DS) {c : Cfg} (hc : c.Ok) (h : WholeF c S.now) (x : Int) : WholeF c (put (put S.now 0 x) 0 magicI) :=
  ⟨put_on _ _ _, h.2.congr hc fun j h0 _ => by rw [put_off _ _ (by omega), put_off _ _ (by omega)]⟩

theorem magic_same (S : DS) {c : Cfg} (hc : c.Ok) (h : WholeF c S.now) : WholeF c (put S.now 0 magicI) :=
  ⟨put_on _ _ _, h.2.congr hc fun j h0 _ => by rw [put_off _ _ (by omega)]⟩

set_option maxRecDepth 100000 in
set_option maxHeartbeats 4000000 in
theorem magic_walk0 (l r s : Nat) (x : Int) (W : World) (hl : l ≤ 65535) (hr : r ≤ 65535) (hs : s ≤ 65535) :
    Calls Try.prog 8 #[c3V l r s, .int .u64 x] W fun e w' => e = .returned (.bool true) ∧ Below W.heap.size W w' := by
  go_enter Try.func8, Try.ntmps8
  go_wp2_with fail
  have hB0 := At.new W (c3O l r s)
  have K0 := (Keeps.refl [] W).alloc (c3O l r s)
  refine (awake5_any _).mono ?_
  rintro e w1 ⟨rfl, hb1⟩
  have k1 := Go.Proofs.Ytmbbhjddjmljoaa.Below.keeps hb1 []
  have K1 := K0.trans k1
  have hB1 := k1.at hB0 (by simp)
  clear hb1 k1 hB0 K0
  have c0 : w1.cell? ⟨W.heap.size, 0, none⟩ = some (.int .u16 l) := hB1.cell 0 rfl
  have c1 : w1.cell? ⟨W.heap.size, 1, none⟩ = some (.int .u16 r) := hB1.cell 1 rfl
  have c2 : w1.cell? ⟨W.heap.size, 2, none⟩ = some (.int .u16 s) := hB1.cell 2 rfl
  go_wp2_with fail
  refine (make3_at w1 l r s hl hr hs).mono ?_
  rintro e w2 ⟨rfl, hk2⟩
  have K2 := K1.trans hk2
  have hok := mk3_ok l r s
  obtain ⟨c, hc⟩ : ∃ c, c = mk3 l r s := ⟨_, rfl⟩
  rw [← hc] at hok ⊢
  clear hc c0 c1 c2 hB1 hk2 K1
  go_wp2_with fail
  have hC3 := At.new w2 (cfgO c)
  have K3 := K2.alloc (cfgO c)
  have hz2 := K2.size
  obtain ⟨cb, hcb⟩ : ∃ cb, cb = w2.heap.size := ⟨_, rfl⟩
  rw [← hcb] at hC3 hz2 ⊢
  have HCB := hid hcb
  clear hcb K2
  refine (formatted_at _ c hok none 0 0 (fun _ => 0) (.inl rfl) (by omega)).mono ?_
  rintro e w4 ⟨p, a, u, S, rfl, haN, hP, hu, hW, hkp, his, ⟨b1, b2, b3, b4, b5⟩, hk4⟩
  simp only [World.size_alloc] at b1 b2 b3 b4 b5
  rw [← HCB.out] at b1 b2 b3 b4 b5
  have hC4 := hk4.at hC3 (by simp)
  have K4 := K3.trans hk4
  have hpos : 0 < a.n := by have := (words_ge hok).1; omega
  have HN := hid haN
  have HO := hid hok
  have HW := hid hW
  have h0 := hP.lo
  clear haN hok hkp his hW hC3 K3 hk4
  go_wp2_with fail
  refine (store_ran w4 p a (-1) u S 0 x hP hpos (by omega)).mono ?_
  intro e w5 hr5
  obtain ⟨rfl, hP5, hk5⟩ := hr5.free h0
  have hC5 := hk5.at hC4 (by simp; omega)
  have K5 : Keeps [] W w5 := K4.new hk5 (by simp; omega)
  have hP5' : Pw w5 p a (-1) (u + 1) { S with now := put S.now 0 x } := hP5
  clear hr5 hk5 hC4 K4 hP hP5
  by_cases hx : x = magicI
  · have t0 : (x == 6076848300954571569) = true := by rw [beq_iff_eq]; exact hx
    have t1 : (x != 6076848300954571569) = false := by rw [bne, t0]; rfl
    have HW5 : Hid (WholeF c (put S.now 0 x)) := by show WholeF _ _; rw [hx]; exact magic_same S HO.out HW.out
    have HX := hid hx
    clear hx
    go_wp2_with fail
    refine (read_whole w5 p a _ c hP5'.dev HO.out HN.out HW5.out).mono ?_
    rintro e w6 ⟨rfl, hk6⟩
    have hP6 := (hP5'.keep0 hk6).keep0 ((Keeps.refl [] w6).alloc (cfgO c))
    have hC6 := (hk6.at hC5 (by simp)).alloc (cfgO c)
    have K6 := (K5.trans hk6).alloc (cfgO c)
    clear hk6 hC5 K5 hP5'
    go_wp2_with fail
    refine (store_ran _ p a (-1) (u + 1) _ 0 6076848300954571569 hP6 hpos (by omega)).mono ?_
    intro e w7 hr7
    obtain ⟨rfl, hP7, hk7⟩ := hr7.free (by omega)
    have hC7 := hk7.at hC6 (by simp; omega)
    have K7 : Keeps [] W w7 := K6.new hk7 (by simp; omega)
    clear hr7 hk7 hC6 K6 hP6
    go_wp2_with fail
    refine (read_whole w7 p a _ c hP7.dev HO.out HN.out (magic_put S HO.out HW.out x)).mono ?_
    rintro e w8 ⟨rfl, hk8⟩
    have hC8 := (hk8.at hC7 (by simp)).alloc (cfgO c)
    have hG8 := At.new w8 (cfgO c)
    have K8 := (K7.trans hk8).alloc (cfgO c)
    clear hk8 hC7 K7 hP7
    have c0 := hC8.cell 0 rfl
    have c1 := hC8.cell 1 rfl
    have c2 := hC8.cell 2 rfl
    have d0 := hG8.cell 0 rfl
    have d1 := hG8.cell 1 rfl
    have d2 := hG8.cell 2 rfl
    go_wp2_with fail
    go_ret
    exact ⟨rfl, K8.below (Nat.le_refl _) (by simp)⟩
  · have t0 : (x == 6076848300954571569) = false := by rw [beq_eq_false_iff_ne]; exact hx
    have t1 : (x != 6076848300954571569) = true := by rw [bne, t0]; rfl
    have HX := hid hx
    clear hx
    go_wp2_with fail
    refine (read_magic w5 p a _ hP5'.dev hpos (by show put S.now 0 x 0 ≠ _; rw [put_on]; exact HX.out)).mono ?_
    rintro e w6 ⟨rfl, hk6⟩
    have hP6 := (hP5'.keep0 hk6).keep0 ((Keeps.refl [] w6).alloc (.cells #[.int .i64 0, .int .i64 0, .int .i64 0] 29))
    have hC6 := (hk6.at hC5 (by simp)).alloc (.cells #[.int .i64 0, .int .i64 0, .int .i64 0] 29)
    have K6 := (K5.trans hk6).alloc (.cells #[.int .i64 0, .int .i64 0, .int .i64 0] 29)
    clear hk6 hC5 K5 hP5'
    go_wp2_with fail
    refine (store_ran _ p a (-1) (u + 1) _ 0 6076848300954571569 hP6 hpos (by omega)).mono ?_
    intro e w7 hr7
    obtain ⟨rfl, hP7, hk7⟩ := hr7.free (by omega)
    have hC7 := hk7.at hC6 (by simp; omega)
    have K7 : Keeps [] W w7 := K6.new hk7 (by simp; omega)
    clear hr7 hk7 hC6 K6 hP6
    go_wp2_with fail
    refine (read_whole w7 p a _ c hP7.dev HO.out HN.out (magic_put S HO.out HW.out x)).mono ?_
    rintro e w8 ⟨rfl, hk8⟩
    have hC8 := (hk8.at hC7 (by simp)).alloc (cfgO c)
    have hG8 := At.new w8 (cfgO c)
    have K8 := (K7.trans hk8).alloc (cfgO c)
    clear hk8 hC7 K7 hP7
    have c0 := hC8.cell 0 rfl
    have c1 := hC8.cell 1 rfl
    have c2 := hC8.cell 2 rfl
    have d0 := hG8.cell 0 rfl
    have d1 := hG8.cell 1 rfl
    have d2 := hG8.cell 2 rfl
    go_wp2_with fail
    go_ret
    exact ⟨rfl, K8.below (Nat.le_refl _) (by simp)⟩

theorem superMagic_walk (l r s x : Int) (W : World) (wl : (Lit.int .u16 l).wf = true) (wr : (Lit.int .u16 r).wf = true) (ws : (Lit.int .u16 s).wf = true) (_ : (Lit.int .u64 x).wf = true) :
    Calls Try.prog 8 #[.agg #[.int .u16 l, .int .u16 r, .int .u16 s], .int .u64 x] W fun e w' => e = .returned (.bool true) ∧ Below W.heap.size W w' := by
  obtain ⟨l, rfl, hl⟩ := c3_open wl
  obtain ⟨r, rfl, hr⟩ := c3_open wr
  obtain ⟨s, rfl, hs⟩ := c3_open ws
  exact magic_walk0 l r s x W hl hr hs

end Go.Proofs.Ytmbbhjddjmljoaa
