/- The walk of the law UlogFull. -/
import Derived.Test.YthpebaghcaelcaaLaw6
import Derived.Test.YthpebaghcaelcaaArgs
namespace Go.Proofs.Ythpebaghcaelcaa
open Go.RowKit Go.OpenShut

def ansF (z : Int) : Int := if z < 0 then 1 else 3

set_option maxRecDepth 100000 in
set_option maxHeartbeats 4000000 in
theorem full_small (l r s at0 : Nat) (v : Int) (W : World) (hl : l ≤ 65535) (hr : r ≤ 65535) (hs : s ≤ 65535) (ha : at0 ≤ 65535) :
    Calls Try.prog 10 #[c3V l r s, .int .u16 at0, .int .u64 v] W fun e w' => e = .returned (.bool true) ∧ Below W.heap.size W w' := by
  go_enter Try.func10, Try.ntmps10
  go_wp2_with fail
  have hB0 := At.new W (c3O l r s)
  have K0 := (Keeps.refl [] W).alloc (c3O l r s)
  refine (awake6_any _).mono ?_
  rintro e w1 ⟨rfl, hb1⟩
  have k1 := Go.Proofs.Ythpebaghcaelcaa.Below.keeps hb1 []
  have K1 := K0.trans k1
  have hB1 := k1.at hB0 (by simp)
  clear hb1 k1 hB0 K0
  have c0 : w1.cell? ⟨W.heap.size, 0, none⟩ = some (.int .u16 l) := hB1.cell 0 rfl
  have c1 : w1.cell? ⟨W.heap.size, 1, none⟩ = some (.int .u16 r) := hB1.cell 1 rfl
  have c2 : w1.cell? ⟨W.heap.size, 2, none⟩ = some (.int .u16 s) := hB1.cell 2 rfl
  go_wp2_with fail
  refine (make3_at w1 l r s hl hr hs).mono ?_
  rintro e w2 ⟨rfl, hk2⟩
  have K2 := K1.trans hk2
  have hok := mk3_ok l r s
  obtain ⟨c, hc⟩ : ∃ c, c = mk3 l r s := ⟨_, rfl⟩
  rw [← hc] at hok ⊢
  clear hc c0 c1 c2 hB1 hk2 K1
  go_wp2_with fail
  have hC3 := At.new w2 (cfgO c)
  have K3 := K2.alloc (cfgO c)
  have hz2 := K2.size
  obtain ⟨cb, hcb⟩ : ∃ cb, cb = w2.heap.size := ⟨_, rfl⟩
  rw [← hcb] at hC3 hz2 ⊢
  have HCB := hid hcb
  clear hcb K2
  refine (formatted_at _ c hok none 0 0 (fun _ => 0) (.inl rfl) (by omega)).mono ?_
  rintro e w4 ⟨p, a, u, S, rfl, haN, hP, hu, hW, hkp, his, ⟨b1, b2, b3, b4, b5⟩, hk4⟩
  simp only [World.size_alloc] at b1 b2 b3 b4 b5
  rw [← HCB.out] at b1 b2 b3 b4 b5
  have hC4 := hk4.at hC3 (by simp)
  have K4 := K3.trans hk4
  have hci := c_in hok haN
  have hLI := LI.fresh (fun _ => 0) (fun _ => 0) hok haN hW hkp his
  have HN := hid haN
  have HO := hid hok
  have HLI := hid hLI
  have hpi := plc_in hok at0
  have h0 := hP.lo
  clear haN hok hkp his hW hC3 K3 hk4 hLI
  have c0 := hC4.cell 0 rfl
  have c1 := hC4.cell 1 rfl
  have c2 := hC4.cell 2 rfl
  go_wp2_with fail
  refine (open_li hP HO.out HN.out HLI.out.1 (by omega)).mono ?_
  rintro e w5 ⟨lb, rfl, hlb, hL5, hk5⟩
  have hC5 := hk5.at hC4 (by simp)
  have K5 := K4.trans hk5
  have hlbc : cb < lb := Nat.lt_of_lt_of_le hC4.lt hlb
  have hz4 : W.heap.size ≤ w4.heap.size := K4.size
  clear c0 c1 c2 hC4 K4 hk5 hP
  have c0 := hC5.cell 0 rfl
  have c1 := hC5.cell 1 rfl
  have c2 := hC5.cell 2 rfl
  go_wp2_with fail
  refine (aplace_at w5 at0 0 c HO.out ha).mono ?_
  rintro e w6 ⟨rfl, hk6⟩
  have hC6 := hk6.at hC5 (by simp)
  have hL6 := hL5.keep0 hk6
  have K6 := K5.trans hk6
  obtain ⟨i, hi⟩ : ∃ i, i = plc c at0 := ⟨_, rfl⟩
  rw [← hi] at hpi ⊢
  have hin : i < a.n := by rw [← HN.out]; exact hpi.2
  clear hi c0 c1 c2 hC5 K5 hk6 hL5
  go_wp2_with fail
  refine (store_ran w6 p a (-1) u S i v hL6.pw hin (by omega)).mono ?_
  intro e w7 hr7
  obtain ⟨rfl, hP7, hk7⟩ := hr7.free h0
  have hL7 := hL6.next hP7 hk7
  have hcT : cb ∉ [p, a.s, a.k, a.m] := by simp; omega
  have hcT2 : cb ∉ [p, a.s, a.k, a.m, lb] := by simp; omega
  have hWT : ∀ b ∈ [p, a.s, a.k, a.m, lb], b ∈ ([] : List Nat) ∨ W.heap.size ≤ b := by simp; omega
  have hC7 := hk7.at hC6 hcT
  have K7 : Keeps [] W w7 := K6.new hk7 (by simp; omega)
  have hLR7 : LR c a.n 1 0 0 (fun _ => 0) (fun _ => 0) (execs S [.st i v]) :=
    HLI.out.1.pre (pre_execs (by simp; show i ≠ 8; omega)) (fun k hk => absurd hk (Nat.not_lt_zero _)) (fun k _ hk => pre_execs (by simp; show i ≠ 16 + 4 * k; omega))
  have hv7 : (execs S [.st i v]).now i = v := one_on _ _ _
  have HLR := hid hLR7
  have HV := hid hv7
  have HK7 := hid K7
  clear hr7 hL6 hP7 hk7 hC6 K6 hLR7 hv7 K7
  have c0 := hC7.cell 0 rfl
  have hcl : (c.log : Int) ≤ 200 := by omega
  go_wp2_with fail
  clear c0
  go_loopg [37] c.log (fun r s wr => ∃ k : Nat, k + r = c.log ∧ s = .int .i64 k ∧ (∃ st u' S' pl wd, LW wr p a (-1) u' S' lb c k st ∧ LR c a.n 1 0 k pl wd S' ∧ S'.now i = v ∧ u' ≤ 110000 + 110 * (k : Int)) ∧ Keeps [p, a.s, a.k, a.m, lb] w7 wr)
  case atStart => exact ⟨0, by omega, rfl, ⟨false, _, _, _, _, hL7, HLR.out, HV.out, by simp; omega⟩, Keeps.refl _ _⟩
  case round =>
    obtain ⟨k, hk, rfl, ⟨st, u', S', pl, wd, hLk, hRk, hvk, huk⟩, hK⟩ := hrel
    have hR := hid hRk
    have hVk := hid hvk
    clear hRk hvk
    by_cases hlt : k < c.log
    · go_wp2_with fail
      refine (append_li hLk HO.out HN.out hR.out (by omega) hlt i hin (by omega)).mono ?_
      intro e w8 hr8
      obtain ⟨rfl, hL8, hk8⟩ := hr8.free hLk.pw.lo
      have hlen := appL_len (st := st) (m := k) HO.out (eN 1 0) i (S'.now i)
      go_wp2_with fail
      go_roundg (c.log - (k + 1))
      case measure => omega
      case rel =>
        refine ⟨k + 1, by omega, by go_num, ⟨true, _, _, _, _, hL8, app_done hR.out hlt i _ ⟨hpi.1, hin⟩, ?_, ?_⟩, hK.trans hk8⟩
        · rw [(app_pre (by omega) (by omega) (by omega)).2]; exact hVk.out
        · omega
    · have hkl : k = c.log := by omega
      subst hkl
      have hC8 := hK.at hC7 hcT2
      have K8 : Keeps [] W wr := HK7.out.new hK hWT
      clear hk hlt hC7 hK hL7
      go_wp2_with fail
      refine (words_at wr p a S' hLk.pw.dev).mono ?_
      rintro e w9 ⟨v9, rfl, hv9, hk9⟩
      obtain ⟨g9, cap9, rfl, hg9, hgb9, _, hR9⟩ := hv9.reads
      have hL9 := hLk.keep0 hk9
      have hC9 := hk9.at hC8 (by simp)
      have K9 := K8.trans hk9
      have HR9 := hid hR9
      clear hv9 hR9 hC8 K8 hk9 hLk
      have HS : Hid (∀ w', Keeps [] w9 w' → w'.cell? ⟨cb, 0, none⟩ = some (.int .i64 c.log)) := fun w' hk => (hk.at hC9 (by simp)).cell 0 rfl
      have HA := hid (fun (w' : World) (hk : Keeps [] w9 w') (z : Int) (hz : z = i ∨ z = -5) => show Calls Try.prog 17 #[ptr lb, .int .i64 z] w' (fun e w'' => e = .returned (.int .i64 (ansF z)) ∧ Keeps [] w' w'') by
        rcases hz with rfl | rfl
        · have := append_full (hL9.keep0 hk) i hin rfl
          rwa [show (3 : Int) = ansF (i : Int) by unfold ansF; rw [if_neg (by omega)]] at this
        · refine (append_no (hL9.keep0 hk) (-5) (.inl (by omega))).mono ?_
          rintro e w'' ⟨rfl, rfl⟩
          exact ⟨rfl, Keeps.refl _ _⟩)
      have E1 : Hid (ansF (i : Int) = 3) := by show _ = _; unfold ansF; rw [if_neg (by omega)]
      have E2 : Hid (ansF (-5) = 1) := by show _ = _; decide
      have HL := hid (fun (w' : World) (hk : Keeps [] w9 w') => len6_at (hL9.keep0 hk))
      have HW := hid (fun (w' : World) (hk : Keeps [] w9 w') => words_at w' p a S' (hL9.keep0 hk).pw.dev)
      have HLD := hid (fun (w' : World) (hk : Keeps [] w9 w') => load_eq w' p a S' i v (hL9.keep0 hk).pw.dev hin hVk.out)
      have kk : Keeps [] w9 w9.drew := (Keeps.refl _ _).drew
      go_upto_region 16 with fail
      go_region_held3 (fun w' => w'.cell? ⟨cb, 0, none⟩ = some (.int .i64 c.log))
        (exact HS.out _ kk)
        (first | (go_at_call 17; refine (HA.out _ kk _ (by first | exact .inl rfl | exact .inr rfl)).mono ?_; rintro e w' ⟨rfl, hk1⟩; (first | rw [E1.out] | rw [E2.out]); have kk := kk.trans hk1; clear hk1)
               | (go_at_call 20; refine (HL.out _ kk).mono ?_; rintro e w' ⟨rfl, rfl⟩)
               | (go_at_call 43; refine (HW.out _ kk).mono ?_; rintro e w' ⟨v10, rfl, hv10, hk1⟩; have kk := kk.trans hk1; obtain ⟨g10, cap10, rfl, _, _, _, hR10⟩ := hv10.reads; have hR9' := HR9.out.keep kk (by simp); have HE := hid (equal_true _ _ _ a.n cap10 cap9 _ _ hR10 hR9' (fun _ _ => rfl) (by omega)); clear hv10 hk1 hR10 hR9')
               | (go_at_call 25; refine HE.out.mono ?_; rintro e w' ⟨rfl, hk1⟩; have kk := kk.trans hk1; clear hk1)
               | (go_at_call 18; refine (HLD.out _ kk).mono ?_; rintro e w' ⟨rfl, rfl⟩))
      go_wp2_with fail
      go_ret
      exact ⟨rfl, (K9.trans kk).below (Nat.le_refl _) (by simp)⟩

theorem ulogFull_walk (l r s : Int) (at0 v : Int) (W : World) (wl : (Lit.int .u16 l).wf = true) (wr : (Lit.int .u16 r).wf = true) (ws : (Lit.int .u16 s).wf = true) (wa : (Lit.int .u16 at0).wf = true) (_ : (Lit.int .u64 v).wf = true) :
    Calls Try.prog 10 #[.agg #[.int .u16 l, .int .u16 r, .int .u16 s], .int .u16 at0, .int .u64 v] W fun e w' => e = .returned (.bool true) ∧ Below W.heap.size W w' := by
  obtain ⟨l, rfl, hl⟩ := c3_open wl
  obtain ⟨r, rfl, hr⟩ := c3_open wr
  obtain ⟨s, rfl, hs⟩ := c3_open ws
  obtain ⟨at0, rfl, ha⟩ := c3_open wa
  exact full_small l r s at0 v W hl hr hs ha

end Go.Proofs.Ythpebaghcaelcaa
