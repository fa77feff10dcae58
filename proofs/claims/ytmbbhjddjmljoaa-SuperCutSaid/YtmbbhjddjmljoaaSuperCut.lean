/- The walk of the law SuperCut. -/
import Derived.Test.YtmbbhjddjmljoaaLaw5
namespace Go.Proofs.Ytmbbhjddjmljoaa
open Go.RowKit Go.OpenShut

set_option maxHeartbeats 400000 in
theorem sc2_at (w : World) (b : Nat) (bits : Int) (i : Nat) (h : At w b (wordO bits)) (hi : i ≤ 17592186044416) :
    Calls Try.prog 23 #[.int .i64 i, ptr b] w fun e w' => e = .returned (.int .u8 (chV bits i)) ∧ w = w' := by
  have c1 := h.cell 0 rfl
  go_enter Try.func23, Try.ntmps23
  go_wp2_with fail
  refine (choice_at w bits i hi).mono ?_
  rintro e w1 ⟨rfl, rfl⟩
  go_wp2
  go_ret
  exact ⟨rfl, rfl⟩

theorem sc2_chooser (b : Nat) (bits : Int) (n : Nat) (hn : n ≤ 17592186044416) :
    Chooser 23 #[ptr b] n (chV bits) [] [b] (fun _ w => At w b (wordO bits)) where
  inv := fun w i => by simp [go_sem]
  call := fun i w hi h => (sc2_at w b bits i h (by omega)).mono fun e w' ⟨he, hw⟩ => ⟨he, by rw [← hw]; exact h, by rw [← hw]; exact Keeps.refl _ _⟩
  keep := fun _ w w' S h hk hs => hk.at h (hs b (by simp))
  low := chV_low bits

abbrev devP (d : Nat) : Obj := .cells #[ptr d] 31
abbrev errO (e : Int) : Obj := .cells #[.int .i64 e] 38

/-- Format within Run, done. -/
def CutDone (p : Nat) (a : DA) (u : Int) (l : Int) (S : DS) (c : Cfg) (eb : Nat) (w wx : World) : Prop :=
  Pw wx p a l u (execs S (fmtL c a.L)) ∧ At wx eb (errO 0) ∧ Keeps [p, a.s, a.k, a.m, eb] w wx
/-- Cut. -/
def CutGone (p : Nat) (a : DA) (l : Int) (S : DS) (c : Cfg) (eb : Nat) (w wx : World) : Prop :=
  (∃ S', Cut l 0 S (fmtL c a.L) S' ∧ Pw wx p a l l S') ∧ Keeps [p, a.s, a.k, a.m, eb] w wx

set_option maxHeartbeats 1000000 in
/-- The function that Run is handed. -/
theorem sc1_at (w : World) (p : Nat) (a : DA) (l : Int) (S : DS) (c : Cfg) (db cb eb : Nat) (h : Pw w p a l 0 S) (hc : c.Ok) (hn : c.words = a.n) (hd : At w db (devP a.d)) (hcb : At w cb (cfgO c)) (he : At w eb (errO 0))
    (hq : eb ∉ [p, a.s, a.k, a.m] ∧ eb ≠ a.d) :
    Calls Try.prog 21 #[ptr db, ptr cb, ptr eb] w fun e w' =>
      (e = .returned (.tuple #[]) ∧ CutDone p a ((fmtL c a.L).length : Int) l S c eb w w') ∨ (e = .panicked [{ v := goneV, recovered := false }] ∧ CutGone p a l S c eb w w') := by
  have c0 := hd.cell 0 rfl
  have c1 := hcb.cell 0 rfl
  have c2 := hcb.cell 1 rfl
  have c3 := hcb.cell 2 rfl
  have HQ := hid hq
  have HF := hid (format_ran w p a l 0 S c h hc hn (by omega))
  clear hq hn
  go_enter Try.func21, Try.ntmps21
  go_wp2_with fail
  refine HF.out.mono ?_
  rintro e w1 (⟨rfl, h1, k1⟩ | ⟨rfl, ⟨S', hS', h1⟩, k1⟩)
  · have he1 := k1.at he HQ.out.1
    have g0 := he1.cell 0 rfl
    have f0 := he1.free 0
    clear c0 c1 c2 c3
    go_wp2_with fail
    go_end0
    refine .inl ⟨rfl, ?_, he1.set 0 _, (k1.mono (by intro k _ hk; simp at hk ⊢; omega)).set (.inl (by simp)) _⟩
    have hne : eb ∉ [p, a.s, a.k, a.m] := HQ.out.1
    simp at hne
    have h2 : Pw w1 p a l ((fmtL c a.L).length : Int) (execs S (fmtL c a.L)) := by simpa using h1
    exact h2.keep (T := [eb]) ((Keeps.refl _ _).set (.inl (by simp)) _) (by simp; omega) (by simp; exact fun h => HQ.out.2 h.symm) (by simp; omega) (by simp; omega) (by simp; omega)
  · exact ⟨rfl, .inr ⟨rfl, ⟨S', hS', h1⟩, k1.mono (by intro k _ hk; simp at hk ⊢; omega)⟩⟩


set_option maxRecDepth 100000 in
set_option maxHeartbeats 2000000 in
theorem cut_great (l r s : Nat) (x : Option Addr) (n cp : Nat) (lim bits : Int) (mg : Bool) (W : World) (hn : 30 < n) :
    Calls Try.prog 4 #[c3V l r s, .slice x n cp, .int .u16 lim, .int .u64 bits, .bool mg] W fun e w' => e = .returned (.bool true) ∧ Below W.heap.size W w' := by
  go_enter Try.func4, Try.ntmps4
  go_wp2_with fail
  refine (awake5_any _).mono ?_
  rintro e w1 ⟨rfl, hb1⟩
  have K1 := Go.Proofs.Ytmbbhjddjmljoaa.Below.keeps hb1 []
  go_wp2_with fail
  go_ret
  exact ⟨rfl, ((((Keeps.refl [] W).alloc _).alloc _).trans K1).below (Nat.le_refl _) (by simp)⟩

theorem boxed {w : World} (o : Obj) : Keeps [] w (w.alloc o) := (Keeps.refl _ _).alloc _

set_option maxRecDepth 100000 in
set_option maxHeartbeats 8000000 in
theorem cut_small (l r s : Nat) (x : Option Addr) (n cp : Nat) (f : Nat → Int) (lim : Nat) (bits : Int) (mg : Bool) (W : World) (hl : l ≤ 65535) (hr : r ≤ 65535) (hs : s ≤ 65535) (hlim : lim ≤ 65535) (hn : n ≤ 30) (hR : Reads W x n f) :
    Calls Try.prog 4 #[c3V l r s, .slice x n cp, .int .u16 lim, .int .u64 bits, .bool mg] W fun e w' => e = .returned (.bool true) ∧ Below W.heap.size W w' := by
  have g1 : decide (30 < n) = false := by rw [decide_eq_false_iff_not]; omega
  have g2 : decide (30 < (n : Int)) = false := by rw [decide_eq_false_iff_not]; omega
  have hwg := words_ge (mk3_ok l r s)
  have HMK := hid (run_make_at (P := Try.prog) 25 26 (.int .u64 0) 8 Try.underlying25 (by kernel_rfl) rfl (mk3 l r s).words (by omega) (by omega))
  have HR := hid hR
  have hni : (n : Int) ≤ 30 := by omega
  have hlm : (lim : Int) ≤ 65535 := by omega
  clear hR
  go_enter Try.func4, Try.ntmps4
  go_wp2_with fail
  have hB0 := (At.new W (c3O l r s)).alloc (wordO bits)
  have hV0 := At.new (W.alloc (c3O l r s)) (wordO bits)
  have K0 := ((Keeps.refl [] W).alloc (c3O l r s)).alloc (wordO bits)
  rw [show (W.alloc (c3O l r s)).heap.size = W.heap.size + 1 by simp] at hV0
  refine (awake5_any _).mono ?_
  rintro e w1 ⟨rfl, hb1⟩
  have k1 := Go.Proofs.Ytmbbhjddjmljoaa.Below.keeps hb1 []
  have K1 := K0.trans k1
  have hB1 := k1.at hB0 (by simp)
  have hV1 := k1.at hV0 (by simp)
  clear hb1 k1 hB0 hV0 K0
  have c0 : w1.cell? ⟨W.heap.size, 0, none⟩ = some (.int .u16 l) := hB1.cell 0 rfl
  have c1 : w1.cell? ⟨W.heap.size, 1, none⟩ = some (.int .u16 r) := hB1.cell 1 rfl
  have c2 : w1.cell? ⟨W.heap.size, 2, none⟩ = some (.int .u16 s) := hB1.cell 2 rfl
  go_wp2_with fail
  refine (make3_at w1 l r s hl hr hs).mono ?_
  rintro e w2 ⟨rfl, hk2⟩
  have K2 := K1.trans hk2
  have hV2 := hk2.at hV1 (by simp)
  have hok := mk3_ok l r s
  obtain ⟨c, hc⟩ : ∃ c, c = mk3 l r s := ⟨_, rfl⟩
  rw [← hc] at hok hwg HMK ⊢
  have HO := hid hok
  have hwi : (c.words : Int) ≤ 15000 := by omega
  have hsm := hok.small
  clear hc c0 c1 c2 hB1 hV1 hk2 K1
  go_wp2_with fail
  have hC3 := At.new w2 (cfgO c)
  have hV3 := hV2.alloc (cfgO c)
  have K3 := K2.alloc (cfgO c)
  have hz2 : W.heap.size + 1 < w2.heap.size := hV2.lt
  obtain ⟨cb, hcb⟩ : ∃ cb, cb = w2.heap.size := ⟨_, rfl⟩
  rw [← hcb] at hC3 hz2 ⊢
  clear hcb K2 hok hV2
  refine (cwords_at _ c hsm).mono ?_
  rintro e w3 ⟨rfl, hk3⟩
  have hC4 := hk3.at hC3 (by simp)
  have hV4 := hk3.at hV3 (by simp)
  have K4 := K3.trans hk3
  have hcw : cb < w3.heap.size := hC4.lt
  have hmk := HMK.out
  clear hC3 K3 hk3 hV3
  go_wp2_with fail
  clear hmk
  have hA := At.new w3 (.cells (rowOf id c.words fun _ => .int .u64 0) 26)
  have hC5 := hC4.alloc (.cells (rowOf id c.words fun _ => .int .u64 0) 26)
  have hV5 := hV4.alloc (.cells (rowOf id c.words fun _ => .int .u64 0) 26)
  have K5 := K4.alloc (.cells (rowOf id c.words fun _ => .int .u64 0) 26)
  rw [rowOf_u64 c.words (fun _ => 0)] at hA hC5 hV5 K5 ⊢
  obtain ⟨g, hg⟩ : ∃ g, g = w3.heap.size := ⟨_, rfl⟩
  obtain ⟨w5, hw5⟩ : ∃ w5, w5 = w3.alloc (.cells (u64s c.words fun _ => 0) 26) := ⟨_, rfl⟩
  rw [← hw5] at hA hC5 hV5 K5 ⊢
  rw [← hg] at hA hcw ⊢
  clear hw5 hg hC4 hV4 K4 HMK
  go_loopg [29] c.words (fun r s wr => ∃ i : Nat, i + r = c.words ∧ s = .int .i64 i ∧ At wr g (.cells (u64s c.words fun j => if j < i then oldF n f j else 0) 26) ∧ Keeps [g] w5 wr)
  case atStart =>
    exact ⟨0, by omega, rfl, by simpa using hA, Keeps.refl _ _⟩
  case round =>
    obtain ⟨i, hi, rfl, hAi, hK⟩ := hrel
    by_cases hlt : i < c.words
    · by_cases h0 : n = 0
      · have t0 : decide (0 < n) = false := by rw [decide_eq_false_iff_not]; omega
        have t1 : decide (0 < (n : Int)) = false := by rw [decide_eq_false_iff_not]; omega
        have H0 := hid h0
        clear h0
        go_wp2_with fail
        go_roundg (c.words - (i + 1))
        case measure => omega
        case rel =>
          refine ⟨i + 1, by omega, by go_num, ?_, hK⟩
          have e : u64s c.words (fun j => if j < i + 1 then oldF n f j else 0) = u64s c.words (fun j => if j < i then oldF n f j else 0) := u64s_congr fun j _ => by simp [oldF, H0.out]
          rw [e]
          exact hAi
      · have t0 : decide (0 < n) = true := by rw [decide_eq_true_eq]; omega
        have t1 : decide (0 < (n : Int)) = true := by rw [decide_eq_true_eq]; omega
        obtain ⟨b, off, rfl, hbl, hcl⟩ : ∃ b off, x = some ⟨b, off, none⟩ ∧ b < W.heap.size ∧ ∀ i, i < n → W.cell? ⟨b, off + i, none⟩ = some (.int .u64 (f i)) := by
          rcases HR.out with h | h
          · exact absurd h h0
          · exact h
        obtain ⟨j, hj⟩ : ∃ j, j = i % n := ⟨_, rfl⟩
        have hjn : j < n := by rw [hj]; exact Nat.mod_lt _ (by omega)
        have ej : (i : Int) % (n : Int) = (j : Int) := by omega
        have KW : Keeps [] W wr := K5.new hK (by simp; omega)
        have c3 := (KW.cell (p := ⟨b, off + j, none⟩) hbl (by simp)).trans (hcl j hjn)
        have c4 := hAi.cell i (u64s_get hlt)
        have c5 := hAi.free i
        have HJ := hid hj
        clear hj hcl
        go_wp2_with fail
        go_roundg (c.words - (i + 1))
        case measure => omega
        case rel =>
          have h6 := hAi.set i (.int .u64 (f j))
          rw [u64s_set] at h6
          have e : u64s c.words (put (fun j => if j < i then oldF n f j else 0) i (f j)) = u64s c.words (fun j => if j < i + 1 then oldF n f j else 0) := u64s_congr fun k _ => by
            unfold put
            by_cases h1 : k = i
            · subst h1
              simp [oldF_pos f k h0, HJ.out]
            · by_cases h2 : k < i
              · simp [h1, h2, show k < i + 1 by omega]
              · simp [h1, h2, show ¬ k < i + 1 by omega]
          rw [e] at h6
          exact ⟨i + 1, by omega, by go_num, h6, hK.set (.inl (by simp)) _⟩
    · have K6 : Keeps [] W wr := K5.new hK (by simp; omega)
      have hC6 := hK.at hC5 (by simp; omega)
      have hV6 := hK.at hV5 (by simp; omega)
      obtain ⟨h, hh⟩ : ∃ h, h = fun j => if j < i then oldF n f j else 0 := ⟨_, rfl⟩
      rw [← hh] at hAi
      clear hh hC5 hV5 K5 hK hA hi
      cases mg
      · go_upto_region 15 with fail
        obtain ⟨wm, rfl⟩ : ∃ wm, wm = wr := ⟨_, rfl⟩
        have hAm := hAi
        have Km := K6
        have hCm := hC6
        have hVm := hV6
        clear hAi K6 hC6 hV6
        obtain ⟨hM, hMe⟩ : ∃ hM, hM = h := ⟨_, rfl⟩
        rw [← hMe] at hAm
        clear hMe
        obtain ⟨z, hz⟩ : ∃ z : Int, z = (lim : Int) % 400 := ⟨_, rfl⟩
        have hzb : 0 ≤ z ∧ z ≤ 399 := by omega
        go_wp2_with fail
        rw [← hz]
        clear hz
        refine (new_at z wm).mono ?_
        rintro e wn ⟨rfl, hPn, hsn, hKn⟩
        have hAn := hKn.at hAm (by simp)
        have hCn := hKn.at hCm (by simp)
        have hVn := hKn.at hVm (by simp)
        have Kn := Km.trans hKn
        have hgm : g < wm.heap.size := hAm.lt
        have hWm : W.heap.size ≤ wm.heap.size := Km.size
        have HSN := hid hsn
        clear hAm hCm hVm Km hKn hsn
        go_wp2_with fail
        refine (dnew_at wn wm.heap.size (some ⟨g, 0, none⟩) c.words c.words (c.words / 8) hM (Reads.of_at0 hAn (Nat.le_refl _)) (by omega) (by omega) hPn.lt).mono ?_
        rintro e wd ⟨a, rfl, haL, hDd, b1, b2, b3, b4, hKd⟩
        rw [HSN.out] at b1 b2 b3 b4
        have hPd := hKd.at hPn (by simp)
        have hAd := hKd.at hAn (by simp)
        have hCd := hKd.at hCn (by simp)
        have hVd := hKd.at hVn (by simp)
        have Kd := Kn.trans hKd
        have hnw : Hid (c.words = a.n) := by show _ = _; have := a.n8; omega
        have hL8 : Hid (c.words = 8 * a.L) := by show _ = _; omega
        clear hPn hAn hCn hVn Kn hKd haL
        obtain ⟨p, hp⟩ : ∃ p, p = wm.heap.size := ⟨_, rfl⟩
        rw [← hp] at hDd hPd hgm hWm b1 b2 b3 b4 ⊢
        clear hp
        have hPw : Pw wd p a z 0 _ := ⟨hDd, hPd, by omega, .inr hzb.1⟩
        have hlast : a.d < wd.heap.size ∧ a.s < wd.heap.size ∧ a.k < wd.heap.size ∧ a.m < wd.heap.size ∧ p < wd.heap.size := ⟨hDd.dev.lt, hDd.now.lt, hDd.kept.lt, hDd.map.lt, hPd.lt⟩
        obtain ⟨S, hS⟩ : ∃ S : DS, S = { now := fun i => if i < c.words then hM i else 0, kept := fun i => if i < c.words then hM i else 0, tok := fun _ => 0, is := fun _ => false } := ⟨_, rfl⟩
        rw [← hS] at hPw
        have HSn := hid (show ∀ j, j < c.words → S.now j = hM j from fun j hj => by rw [hS]; simp [hj])
        have HSk := hid (show ∀ j, S.kept j = S.now j from fun j => by rw [hS])
        have HSi := hid (show ∀ k, S.is k = false from fun k => by rw [hS])
        clear hS hDd hPd
        go_wp2_with fail
        have hW1 := (hPw.keep0 (boxed (devP a.d))).keep0 (boxed (errO 0))
        have hD1 := (At.new wd (devP a.d)).alloc (errO 0)
        have hE1 := At.new (wd.alloc (devP a.d)) (errO 0)
        rw [show (wd.alloc (devP a.d)).heap.size = wd.heap.size + 1 by simp] at hE1
        have hC1 := (hCd.alloc (devP a.d)).alloc (errO 0)
        have hV1 := (hVd.alloc (devP a.d)).alloc (errO 0)
        have hA1 := (hAd.alloc (devP a.d)).alloc (errO 0)
        have K1 := (Kd.alloc (devP a.d)).alloc (errO 0)
        have hz1 : ((wd.alloc (devP a.d)).alloc (errO 0)).heap.size = wd.heap.size + 2 := by simp
        obtain ⟨wb, hwb⟩ : ∃ wb, wb = (wd.alloc (devP a.d)).alloc (errO 0) := ⟨_, rfl⟩
        rw [← hwb] at hW1 hD1 hE1 hC1 hV1 hA1 K1 hz1 ⊢
        obtain ⟨db, hdb⟩ : ∃ db, db = wd.heap.size := ⟨_, rfl⟩
        rw [← hdb] at hD1 hE1 hz1 hlast ⊢
        have HDB := hid hdb
        have HZ1 := hid hz1
        clear hwb hdb hz1 hPw hCd hVd hAd Kd
        have hq : db + 1 ∉ [p, a.s, a.k, a.m] ∧ db + 1 ≠ a.d := by simp; omega
        refine (run_any 21 #[ptr db, ptr cb, ptr (db + 1)] wb (CutDone p a ((fmtL c a.L).length : Int) z S c (db + 1) wb) (CutGone p a z S c (db + 1) wb) (fun _ => by simp [go_sem]) (sc1_at wb p a z S c db cb (db + 1) hW1 HO.out hnw.out hD1 hC1 hE1 hq)).mono ?_
        have hgl : g < db := by omega
        have hT : ∀ q, q < p → q ∉ [p, a.s, a.k, a.m, db + 1] := fun q hq => by simp; omega
        have hTd : db ∉ [p, a.s, a.k, a.m, db + 1] := by simp; omega
        have hTW : ∀ q ∈ [p, a.s, a.k, a.m, db + 1], q ∈ ([] : List Nat) ∨ W.heap.size ≤ q := by simp; omega
        rintro e w9 (⟨rfl, hP9, hE9, k9⟩ | ⟨rfl, w8, ⟨⟨S', hcut, hP8⟩, k8⟩, rfl⟩)
        · have hD9 := k9.at hD1 hTd
          have hC9 := k9.at hC1 (hT _ (by omega))
          have K9 : Keeps [] W w9 := K1.new k9 hTW
          have hWh := hid (fmt_done S (L := a.L) HO.out)
          have c0 := hC9.cell 0 rfl
          have c1 := hC9.cell 1 rfl
          have c2 := hC9.cell 2 rfl
          have d0 := hD9.cell 0 rfl
          have e0 := hE9.cell 0 rfl
          clear hT hTW hTd hq k9 hD1 hC1 hE1 hV1 hA1 K1 hW1 hC9 hD9 hE9
          go_wp2_with fail
          refine (whole_true w9 p a _ c hP9.dev HO.out hnw.out hWh.out.1).mono ?_
          rintro e w10 ⟨rfl, hk10⟩
          clear c0 c1 c2 d0 e0
          go_wp2_with fail
          go_ret
          exact ⟨rfl, (K9.trans hk10).below (Nat.le_refl _) (by simp)⟩
        · have hD9 := (k8.at hD1 hTd).alloc (.cells #[] 74)
          have hC9 := (k8.at hC1 (hT _ (by omega))).alloc (.cells #[] 74)
          have hV9 := (k8.at hV1 (hT _ (by omega))).alloc (.cells #[] 74)
          have hA9 := (k8.at hA1 (hT _ (by omega))).alloc (.cells #[] 74)
          have K9 : Keeps [] W _ := (K1.new k8 hTW).alloc (.cells #[] 74)
          have hP9 := hP8.keep0 (boxed (.cells #[] 74))
          obtain ⟨w9, hw9⟩ : ∃ w9, w9 = w8.alloc (.cells #[] 74) := ⟨_, rfl⟩
          rw [← hw9] at hD9 hC9 hV9 hA9 K9 hP9 ⊢
          have hfc := fmt_cut hcut HO.out hL8.out HSi.out (fun j _ => HSk.out j) (fun j => chV bits j % 3)
          have HFC := hid hfc
          clear hw9 hT hTW hTd hq k8 hD1 hC1 hE1 hV1 hA1 K1 hW1 hP8 hcut hfc
          have hnb : a.n ≤ 17592186044416 := by have := hP9.dev.few; have := a.n8; omega
          have hvl := hV9.lt
          have d0 := hD9.cell 0 rfl
          have HCR := hid (crash_plain w9 p a S' hP9.dev _ #[ptr (W.heap.size + 1)] (chV bits) [W.heap.size + 1] _ (sc2_chooser (W.heap.size + 1) bits a.n hnb) hV9 (by simp; omega) (by simp; omega))
          go_wp2_with fail
          refine HCR.out.mono ?_
          rintro e w10 ⟨rfl, hD10, _, hk10⟩
          have K10 : Keeps [] W w10 := K9.new hk10 (by simp; omega)
          have hC10 := hk10.at hC9 (by simp; omega)
          have hB10 := hk10.at hD9 (by simp; omega)
          have hA10 := hk10.at hA9 (by simp; omega)
          obtain ⟨T, hTe⟩ : ∃ T : DS, T = { now := fun i => leftV S' i (chV bits i % 3), kept := fun i => leftV S' i (chV bits i % 3), tok := S'.tok, is := fun _ => false } := ⟨_, rfl⟩
          rw [← hTe] at hD10
          have hTn : ∀ j, T.now j = leftV S' j (chV bits j % 3) := fun j => by rw [hTe]
          have hfd : T.now 0 ≠ magicI ∨ (∀ j, j < a.n → T.now j = hM j) ∨ WholeF c T.now := by
            rcases HFC.out with h | h | h
            · left; rw [hTn]; exact h
            · right; left
              intro j hj
              rw [hTn, h j (by have := a.n8; omega), HSn.out j (by rw [hnw.out]; exact hj)]
            · right; right
              rw [show T.now = fun j => leftV S' j (chV bits j % 3) from funext hTn]
              exact h
          have hpos : 0 < a.n := by have := hnw.out; omega
          clear hk10 hC9 hD9 hA9 hV9 K9 hP9 HCR hTe hTn HFC d0
          have e0 := hB10.cell 0 rfl
          by_cases hm : T.now 0 = magicI
          · have t0 : (T.now 0 == 6076848300954571569) = true := by rw [beq_iff_eq]; exact hm
            have t1 : (T.now 0 != 6076848300954571569) = false := by rw [bne, t0]; rfl
            have hfd2 : (∀ j, j < a.n → T.now j = hM j) ∨ WholeF c T.now := by
              rcases hfd with h | h
              · exact absurd hm h
              · exact h
            clear hm hfd
            go_wp2_with fail
            refine (load_in w10 p a T 0 hD10 hpos).mono ?_
            rintro e w11 ⟨rfl, rfl⟩
            go_wp2_with fail
            refine (words_at w10 p a T hD10).mono ?_
            rintro e w12 ⟨v12, rfl, hv12, hk12⟩
            obtain ⟨q12, cap12, rfl, hq12, hqb12, _, hR12⟩ := hv12.reads
            have hD12 := hD10.keep hk12 (by simp) (by simp) (by simp) (by simp)
            have hC12 := hk12.at hC10 (by simp)
            have hB12 := hk12.at hB10 (by simp)
            have hA12 := hk12.at hA10 (by simp)
            have K12 := K10.trans hk12
            rw [hnw.out] at hA12 ⊢
            have hRA := Reads.of_at0 hA12 (Nat.le_refl _)
            clear e0 hv12 hk12 hD10 hC10 hB10 hA10 K10 hA12
            rcases hfd2 with hsame | hwhole
            · have HE := hid (equal_true w12 _ _ a.n cap12 a.n _ _ hR12 hRA hsame (by omega))
              clear hsame
              go_wp2_with fail
              refine HE.out.mono ?_
              rintro e w13 ⟨rfl, hk13⟩
              go_wp2_with fail
              go_ret
              exact ⟨rfl, (K12.trans hk13).below (Nat.le_refl _) (by simp)⟩
            · have HE := hid (equal_any w12 _ _ a.n cap12 a.n _ _ hR12 hRA (by omega))
              have HWH := hid hwhole
              clear hwhole
              go_wp2_with fail
              refine HE.out.mono ?_
              rintro e w13 ⟨b13, rfl, hk13⟩
              have hD13 := hD12.keep hk13 (by simp) (by simp) (by simp) (by simp)
              have hC13 := hk13.at hC12 (by simp)
              have hB13 := hk13.at hB12 (by simp)
              have K13 := K12.trans hk13
              clear hk13 hD12 hC12 hB12 K12
              cases b13
              · have c0 := hC13.cell 0 rfl
                have c1 := hC13.cell 1 rfl
                have c2 := hC13.cell 2 rfl
                have e0 := hB13.cell 0 rfl
                go_wp2_with fail
                refine (whole_true w13 p a T c hD13 HO.out hnw.out HWH.out).mono ?_
                rintro e w14 ⟨rfl, hk14⟩
                clear c0 c1 c2 e0
                go_wp2_with fail
                go_ret
                exact ⟨rfl, (K13.trans hk14).below (Nat.le_refl _) (by simp)⟩
              · go_wp2_with fail
                go_ret
                exact ⟨rfl, K13.below (Nat.le_refl _) (by simp)⟩
          · have t0 : (T.now 0 == 6076848300954571569) = false := by rw [beq_eq_false_iff_ne]; exact hm
            have t1 : (T.now 0 != 6076848300954571569) = true := by rw [bne, t0]; rfl
            clear hm hfd
            go_wp2_with fail
            refine (load_in w10 p a T 0 hD10 hpos).mono ?_
            rintro e w11 ⟨rfl, rfl⟩
            go_wp2_with fail
            go_ret
            exact ⟨rfl, K10.below (Nat.le_refl _) (by simp)⟩
      · have c0 := hAi.cell 0 (u64s_get (by omega))
        have f0 := hAi.free 0
        have hpw : 0 < c.words := by omega
        go_upto_region 15 with fail
        have hAm := hAi.set 0 (.int .u64 6076848300954571569)
        rw [u64s_set] at hAm
        have Km := K6.set (p := ⟨g, 0, none⟩) (.inr (show W.heap.size ≤ g by omega)) (.int .u64 6076848300954571569)
        have hCm := hC6.set_ne (a := ⟨g, 0, none⟩) (show cb ≠ g by omega) (.int .u64 6076848300954571569)
        have hVm := hV6.set_ne (a := ⟨g, 0, none⟩) (show W.heap.size + 1 ≠ g by omega) (.int .u64 6076848300954571569)
        obtain ⟨wm, hwm⟩ : ∃ wm, wm = wr.setCell ⟨g, 0, none⟩ (.int .u64 6076848300954571569) := ⟨_, rfl⟩
        rw [← hwm] at hAm Km hCm hVm ⊢
        clear hwm c0 f0 hpw K6 hC6 hV6 hAi
        obtain ⟨hM, hMe⟩ : ∃ hM, hM = put h 0 6076848300954571569 := ⟨_, rfl⟩
        rw [← hMe] at hAm
        clear hMe
        obtain ⟨z, hz⟩ : ∃ z : Int, z = (lim : Int) % 400 := ⟨_, rfl⟩
        have hzb : 0 ≤ z ∧ z ≤ 399 := by omega
        go_wp2_with fail
        rw [← hz]
        clear hz
        refine (new_at z wm).mono ?_
        rintro e wn ⟨rfl, hPn, hsn, hKn⟩
        have hAn := hKn.at hAm (by simp)
        have hCn := hKn.at hCm (by simp)
        have hVn := hKn.at hVm (by simp)
        have Kn := Km.trans hKn
        have hgm : g < wm.heap.size := hAm.lt
        have hWm : W.heap.size ≤ wm.heap.size := Km.size
        have HSN := hid hsn
        clear hAm hCm hVm Km hKn hsn
        go_wp2_with fail
        refine (dnew_at wn wm.heap.size (some ⟨g, 0, none⟩) c.words c.words (c.words / 8) hM (Reads.of_at0 hAn (Nat.le_refl _)) (by omega) (by omega) hPn.lt).mono ?_
        rintro e wd ⟨a, rfl, haL, hDd, b1, b2, b3, b4, hKd⟩
        rw [HSN.out] at b1 b2 b3 b4
        have hPd := hKd.at hPn (by simp)
        have hAd := hKd.at hAn (by simp)
        have hCd := hKd.at hCn (by simp)
        have hVd := hKd.at hVn (by simp)
        have Kd := Kn.trans hKd
        have hnw : Hid (c.words = a.n) := by show _ = _; have := a.n8; omega
        have hL8 : Hid (c.words = 8 * a.L) := by show _ = _; omega
        clear hPn hAn hCn hVn Kn hKd haL
        obtain ⟨p, hp⟩ : ∃ p, p = wm.heap.size := ⟨_, rfl⟩
        rw [← hp] at hDd hPd hgm hWm b1 b2 b3 b4 ⊢
        clear hp
        have hPw : Pw wd p a z 0 _ := ⟨hDd, hPd, by omega, .inr hzb.1⟩
        have hlast : a.d < wd.heap.size ∧ a.s < wd.heap.size ∧ a.k < wd.heap.size ∧ a.m < wd.heap.size ∧ p < wd.heap.size := ⟨hDd.dev.lt, hDd.now.lt, hDd.kept.lt, hDd.map.lt, hPd.lt⟩
        obtain ⟨S, hS⟩ : ∃ S : DS, S = { now := fun i => if i < c.words then hM i else 0, kept := fun i => if i < c.words then hM i else 0, tok := fun _ => 0, is := fun _ => false } := ⟨_, rfl⟩
        rw [← hS] at hPw
        have HSn := hid (show ∀ j, j < c.words → S.now j = hM j from fun j hj => by rw [hS]; simp [hj])
        have HSk := hid (show ∀ j, S.kept j = S.now j from fun j => by rw [hS])
        have HSi := hid (show ∀ k, S.is k = false from fun k => by rw [hS])
        clear hS hDd hPd
        go_wp2_with fail
        have hW1 := (hPw.keep0 (boxed (devP a.d))).keep0 (boxed (errO 0))
        have hD1 := (At.new wd (devP a.d)).alloc (errO 0)
        have hE1 := At.new (wd.alloc (devP a.d)) (errO 0)
        rw [show (wd.alloc (devP a.d)).heap.size = wd.heap.size + 1 by simp] at hE1
        have hC1 := (hCd.alloc (devP a.d)).alloc (errO 0)
        have hV1 := (hVd.alloc (devP a.d)).alloc (errO 0)
        have hA1 := (hAd.alloc (devP a.d)).alloc (errO 0)
        have K1 := (Kd.alloc (devP a.d)).alloc (errO 0)
        have hz1 : ((wd.alloc (devP a.d)).alloc (errO 0)).heap.size = wd.heap.size + 2 := by simp
        obtain ⟨wb, hwb⟩ : ∃ wb, wb = (wd.alloc (devP a.d)).alloc (errO 0) := ⟨_, rfl⟩
        rw [← hwb] at hW1 hD1 hE1 hC1 hV1 hA1 K1 hz1 ⊢
        obtain ⟨db, hdb⟩ : ∃ db, db = wd.heap.size := ⟨_, rfl⟩
        rw [← hdb] at hD1 hE1 hz1 hlast ⊢
        have HDB := hid hdb
        have HZ1 := hid hz1
        clear hwb hdb hz1 hPw hCd hVd hAd Kd
        have hq : db + 1 ∉ [p, a.s, a.k, a.m] ∧ db + 1 ≠ a.d := by simp; omega
        refine (run_any 21 #[ptr db, ptr cb, ptr (db + 1)] wb (CutDone p a ((fmtL c a.L).length : Int) z S c (db + 1) wb) (CutGone p a z S c (db + 1) wb) (fun _ => by simp [go_sem]) (sc1_at wb p a z S c db cb (db + 1) hW1 HO.out hnw.out hD1 hC1 hE1 hq)).mono ?_
        have hgl : g < db := by omega
        have hT : ∀ q, q < p → q ∉ [p, a.s, a.k, a.m, db + 1] := fun q hq => by simp; omega
        have hTd : db ∉ [p, a.s, a.k, a.m, db + 1] := by simp; omega
        have hTW : ∀ q ∈ [p, a.s, a.k, a.m, db + 1], q ∈ ([] : List Nat) ∨ W.heap.size ≤ q := by simp; omega
        rintro e w9 (⟨rfl, hP9, hE9, k9⟩ | ⟨rfl, w8, ⟨⟨S', hcut, hP8⟩, k8⟩, rfl⟩)
        · have hD9 := k9.at hD1 hTd
          have hC9 := k9.at hC1 (hT _ (by omega))
          have K9 : Keeps [] W w9 := K1.new k9 hTW
          have hWh := hid (fmt_done S (L := a.L) HO.out)
          have c0 := hC9.cell 0 rfl
          have c1 := hC9.cell 1 rfl
          have c2 := hC9.cell 2 rfl
          have d0 := hD9.cell 0 rfl
          have e0 := hE9.cell 0 rfl
          clear hT hTW hTd hq k9 hD1 hC1 hE1 hV1 hA1 K1 hW1 hC9 hD9 hE9
          go_wp2_with fail
          refine (whole_true w9 p a _ c hP9.dev HO.out hnw.out hWh.out.1).mono ?_
          rintro e w10 ⟨rfl, hk10⟩
          clear c0 c1 c2 d0 e0
          go_wp2_with fail
          go_ret
          exact ⟨rfl, (K9.trans hk10).below (Nat.le_refl _) (by simp)⟩
        · have hD9 := (k8.at hD1 hTd).alloc (.cells #[] 74)
          have hC9 := (k8.at hC1 (hT _ (by omega))).alloc (.cells #[] 74)
          have hV9 := (k8.at hV1 (hT _ (by omega))).alloc (.cells #[] 74)
          have hA9 := (k8.at hA1 (hT _ (by omega))).alloc (.cells #[] 74)
          have K9 : Keeps [] W _ := (K1.new k8 hTW).alloc (.cells #[] 74)
          have hP9 := hP8.keep0 (boxed (.cells #[] 74))
          obtain ⟨w9, hw9⟩ : ∃ w9, w9 = w8.alloc (.cells #[] 74) := ⟨_, rfl⟩
          rw [← hw9] at hD9 hC9 hV9 hA9 K9 hP9 ⊢
          have hfc := fmt_cut hcut HO.out hL8.out HSi.out (fun j _ => HSk.out j) (fun j => chV bits j % 3)
          have HFC := hid hfc
          clear hw9 hT hTW hTd hq k8 hD1 hC1 hE1 hV1 hA1 K1 hW1 hP8 hcut hfc
          have hnb : a.n ≤ 17592186044416 := by have := hP9.dev.few; have := a.n8; omega
          have hvl := hV9.lt
          have d0 := hD9.cell 0 rfl
          have HCR := hid (crash_plain w9 p a S' hP9.dev _ #[ptr (W.heap.size + 1)] (chV bits) [W.heap.size + 1] _ (sc2_chooser (W.heap.size + 1) bits a.n hnb) hV9 (by simp; omega) (by simp; omega))
          go_wp2_with fail
          refine HCR.out.mono ?_
          rintro e w10 ⟨rfl, hD10, _, hk10⟩
          have K10 : Keeps [] W w10 := K9.new hk10 (by simp; omega)
          have hC10 := hk10.at hC9 (by simp; omega)
          have hB10 := hk10.at hD9 (by simp; omega)
          have hA10 := hk10.at hA9 (by simp; omega)
          obtain ⟨T, hTe⟩ : ∃ T : DS, T = { now := fun i => leftV S' i (chV bits i % 3), kept := fun i => leftV S' i (chV bits i % 3), tok := S'.tok, is := fun _ => false } := ⟨_, rfl⟩
          rw [← hTe] at hD10
          have hTn : ∀ j, T.now j = leftV S' j (chV bits j % 3) := fun j => by rw [hTe]
          have hfd : T.now 0 ≠ magicI ∨ (∀ j, j < a.n → T.now j = hM j) ∨ WholeF c T.now := by
            rcases HFC.out with h | h | h
            · left; rw [hTn]; exact h
            · right; left
              intro j hj
              rw [hTn, h j (by have := a.n8; omega), HSn.out j (by rw [hnw.out]; exact hj)]
            · right; right
              rw [show T.now = fun j => leftV S' j (chV bits j % 3) from funext hTn]
              exact h
          have hpos : 0 < a.n := by have := hnw.out; omega
          clear hk10 hC9 hD9 hA9 hV9 K9 hP9 HCR hTe hTn HFC d0
          have e0 := hB10.cell 0 rfl
          by_cases hm : T.now 0 = magicI
          · have t0 : (T.now 0 == 6076848300954571569) = true := by rw [beq_iff_eq]; exact hm
            have t1 : (T.now 0 != 6076848300954571569) = false := by rw [bne, t0]; rfl
            have hfd2 : (∀ j, j < a.n → T.now j = hM j) ∨ WholeF c T.now := by
              rcases hfd with h | h
              · exact absurd hm h
              · exact h
            clear hm hfd
            go_wp2_with fail
            refine (load_in w10 p a T 0 hD10 hpos).mono ?_
            rintro e w11 ⟨rfl, rfl⟩
            go_wp2_with fail
            refine (words_at w10 p a T hD10).mono ?_
            rintro e w12 ⟨v12, rfl, hv12, hk12⟩
            obtain ⟨q12, cap12, rfl, hq12, hqb12, _, hR12⟩ := hv12.reads
            have hD12 := hD10.keep hk12 (by simp) (by simp) (by simp) (by simp)
            have hC12 := hk12.at hC10 (by simp)
            have hB12 := hk12.at hB10 (by simp)
            have hA12 := hk12.at hA10 (by simp)
            have K12 := K10.trans hk12
            rw [hnw.out] at hA12 ⊢
            have hRA := Reads.of_at0 hA12 (Nat.le_refl _)
            clear e0 hv12 hk12 hD10 hC10 hB10 hA10 K10 hA12
            rcases hfd2 with hsame | hwhole
            · have HE := hid (equal_true w12 _ _ a.n cap12 a.n _ _ hR12 hRA hsame (by omega))
              clear hsame
              go_wp2_with fail
              refine HE.out.mono ?_
              rintro e w13 ⟨rfl, hk13⟩
              go_wp2_with fail
              go_ret
              exact ⟨rfl, (K12.trans hk13).below (Nat.le_refl _) (by simp)⟩
            · have HE := hid (equal_any w12 _ _ a.n cap12 a.n _ _ hR12 hRA (by omega))
              have HWH := hid hwhole
              clear hwhole
              go_wp2_with fail
              refine HE.out.mono ?_
              rintro e w13 ⟨b13, rfl, hk13⟩
              have hD13 := hD12.keep hk13 (by simp) (by simp) (by simp) (by simp)
              have hC13 := hk13.at hC12 (by simp)
              have hB13 := hk13.at hB12 (by simp)
              have K13 := K12.trans hk13
              clear hk13 hD12 hC12 hB12 K12
              cases b13
              · have c0 := hC13.cell 0 rfl
                have c1 := hC13.cell 1 rfl
                have c2 := hC13.cell 2 rfl
                have e0 := hB13.cell 0 rfl
                go_wp2_with fail
                refine (whole_true w13 p a T c hD13 HO.out hnw.out HWH.out).mono ?_
                rintro e w14 ⟨rfl, hk14⟩
                clear c0 c1 c2 e0
                go_wp2_with fail
                go_ret
                exact ⟨rfl, (K13.trans hk14).below (Nat.le_refl _) (by simp)⟩
              · go_wp2_with fail
                go_ret
                exact ⟨rfl, K13.below (Nat.le_refl _) (by simp)⟩
          · have t0 : (T.now 0 == 6076848300954571569) = false := by rw [beq_eq_false_iff_ne]; exact hm
            have t1 : (T.now 0 != 6076848300954571569) = true := by rw [bne, t0]; rfl
            clear hm hfd
            go_wp2_with fail
            refine (load_in w10 p a T 0 hD10 hpos).mono ?_
            rintro e w11 ⟨rfl, rfl⟩
            go_wp2_with fail
            go_ret
            exact ⟨rfl, K10.below (Nat.le_refl _) (by simp)⟩

theorem superCut_walk (l r s : Int) (x : Option Addr) (n cp : Nat) (f : Nat → Int) (lim bits : Int) (mg : Bool) (W : World) (wl : (Lit.int .u16 l).wf = true) (wr : (Lit.int .u16 r).wf = true) (ws : (Lit.int .u16 s).wf = true)
    (R0 : ReadsV (Value.int .u64) W x n f) (_ : ∀ i, i < n → (Lit.int .u64 (f i)).wf = true) (_ : n ≤ maxLen) (wm : (Lit.int .u16 lim).wf = true) (_ : (Lit.int .u64 bits).wf = true) :
    Calls Try.prog 4 #[.agg #[.int .u16 l, .int .u16 r, .int .u16 s], .slice x n cp, .int .u16 lim, .int .u64 bits, .bool mg] W fun e w' => e = .returned (.bool true) ∧ Below W.heap.size W w' := by
  obtain ⟨l, rfl, hl⟩ := c3_open wl
  obtain ⟨r, rfl, hr⟩ := c3_open wr
  obtain ⟨s, rfl, hs⟩ := c3_open ws
  obtain ⟨lim, rfl, hlim⟩ := c3_open wm
  by_cases hn : 30 < n
  · exact cut_great l r s x n cp lim bits mg W hn
  · exact cut_small l r s x n cp f lim bits mg W hl hr hs hlim (by omega) R0.words

end Go.Proofs.Ytmbbhjddjmljoaa
