/- What a law's Runs leave, done or cut: words that get records and are stored, or an Undo. -/
import Derived.Test.YthpebaghcaelcaaA6
import Derived.Deep.RegionHeld2
namespace Go.Proofs.Ythpebaghcaelcaa
open Go.RowKit Go.OpenShut

/-- Opened anew, and undone, all is D. -/
def CutW (c : Cfg) (a : DA) (D : Nat → Int) (k q : Nat) (l : Int) (w' : World) : Prop :=
  ∃ T u, Pw w' q a l u T ∧ u < 1000000 ∧ ∀ ch, ∃ r m pl wd, r ≤ k ∧ LI c a.n 1 r m pl wd D (crashed T ch)

abbrev asO (x : Option Addr) (n cp : Nat) : Obj := .cells #[.slice x n cp] 26
abbrev devP (d : Nat) : Obj := .cells #[ptr d] 31

theorem cutw_cut {w' : World} {c : Cfg} {a : DA} {D : Nat → Int} {k q : Nat} {l : Int} {T : DS} (h : Pw w' q a l l T) (hl : l < 1000000) (hc : ∀ ch, ∃ r m pl wd, r ≤ k ∧ LI c a.n 1 r m pl wd D (crashed T ch)) : CutW c a D k q l w' := ⟨T, l, h, hl, hc⟩

theorem cut_of_one {l u : Int} {S S' : DS} {x : Cmd} (h : Cut l u S [x] S') : S' = S := by
  obtain ⟨pre, k, post, e, h1, _⟩ := h
  cases pre with
  | nil => exact h1
  | cons y ys => cases ys <;> simp at e

theorem CutW.keep0 {w w' : World} {c : Cfg} {a : DA} {D : Nat → Int} {k q : Nat} {l : Int} (h : CutW c a D k q l w) (hk : Keeps [] w w') : CutW c a D k q l w' := by
  obtain ⟨T, u, h1, h2⟩ := h
  exact ⟨T, u, h1.keep0 hk, h2⟩

theorem run_cutw {F : Nat} {cap : Array Value} {w : World} {c : Cfg} {a : DA} {D : Nat → Int} {k q : Nat} {l : Int} {T : List Nat} (hinv : ∀ w, (callFunc F cap).run Try.prog w = .ok (.enter F cap) w)
    (h : Calls Try.prog F cap w fun e w' => (e = .returned (.tuple #[]) ∧ CutW c a D k q l w' ∧ Keeps T w w') ∨ (e = .panicked [{ v := goneV, recovered := false }] ∧ CutW c a D k q l w' ∧ Keeps T w w')) :
    Calls Try.prog 31 #[.func (.func F) #[] cap] w fun e w' => ∃ b, e = .returned (.bool b) ∧ CutW c a D k q l w' ∧ Keeps T w w' := by
  refine (run_any F cap w (fun w' => CutW c a D k q l w' ∧ Keeps T w w') (fun w' => CutW c a D k q l w' ∧ Keeps T w w') hinv h).mono ?_
  rintro e w' (⟨rfl, h1, h2⟩ | ⟨rfl, w1, ⟨h1, h2⟩, rfl⟩)
  · exact ⟨_, rfl, h1, h2⟩
  · exact ⟨_, rfl, h1.keep0 ((Keeps.refl [] _).alloc _), h2.alloc _⟩

theorem AReads.keep {w w' : World} {x : Option Addr} {n : Nat} {f : Nat → Nat → Int} (h : AReads w x n f) (hk : Keeps [] w w') : AReads w' x n f := by
  rcases h with h | ⟨b, off, rfl, hb, hc⟩
  · exact .inl h
  · refine .inr ⟨b, off, rfl, Nat.lt_of_lt_of_le hb hk.size, fun i hi => ?_⟩
    obtain ⟨h0, h1, h2⟩ := hc i hi
    exact ⟨(hk.cell (p := ⟨b, off + i * 2, none⟩) hb (by simp)).trans h0, (hk.cell (p := ⟨b, off + i * 2 + 1, none⟩) hb (by simp)).trans h1, h2⟩

/-- All records are good. -/
theorem LR.good_ans {c : Cfg} {n e0 r m : Nat} {pl : Nat → Nat} {wd : Nat → Int} {S : DS} {rb : Int} (h : LR c n e0 r m pl wd S) (hn : n ≤ 15000) (hg : GoodAns S.now c n m rb) : rb = -1 := by
  rcases hg with ⟨h1, _⟩ | ⟨i, hi, _, h2, _⟩
  · exact h1
  · refine absurd ?_ h2
    obtain ⟨_, a2, _, a4, a5⟩ := h.recs i hi
    have e := a2.1
    rw [show 16 + 4 * i + 1 = 17 + 4 * i by omega] at e
    unfold okP
    rw [e, asInt_of _ (by omega)]
    omega

/-- A crash, by bits. -/
theorem cutw_crash {c : Cfg} {a : DA} {D : Nat → Int} {k q : Nat} {l : Int} {w : World} (h : CutW c a D k q l w) (ch : Nat → Int) : ∃ T u r m pl wd, Pw w q a l u T ∧ u < 1000000 ∧ r ≤ k ∧ LI c a.n 1 r m pl wd D (crashed T ch) := by
  obtain ⟨T, u, h1, h2, h3⟩ := h
  obtain ⟨r, m, pl, wd, h4, h5⟩ := h3 ch
  exact ⟨T, u, r, m, pl, wd, h1, h2, h4, h5⟩

theorem Pw.crashed {w w' : World} {q : Nat} {a : DA} {l u : Int} {T : DS} {ch : Nat → Int} (h : Pw w q a l u T) (hD : Dev w' q a (Go.Proofs.Ythpebaghcaelcaa.crashed T ch)) (hk : Keeps [a.s, a.k, a.m] w w') : Pw w' q a l u (Go.Proofs.Ythpebaghcaelcaa.crashed T ch) :=
  ⟨hD, hk.at h.pow (by simp; have := h.dev.ps; have := h.dev.pk; have := h.dev.pm; omega), h.lo, h.st⟩

set_option maxRecDepth 100000 in
set_option maxHeartbeats 4000000 in
/-- Words get records, and are stored; all is undone. -/
theorem cut1_at (w : World) (q : Nat) (a : DA) (z : Int) (S : DS) (lb : Nat) (c : Cfg) (pl : Nat → Nat) (wd D : Nat → Int) (xb ub cb db : Nat) (x : Option Addr) (n cp : Nat) (f : Nat → Nat → Int)
    (hL : LW w q a z 0 S lb c 0 false) (hc : c.Ok) (hn : c.words = a.n) (hI : LI c a.n 1 0 0 pl wd D S)
    (hX : At w xb (asO x n cp)) (hU : At w ub (boxO lb)) (hC : At w cb (cfgO c)) (hD : At w db (devP a.d)) (W : World) (hR : AReads W x n f) (hKW : Keeps [] W w) (hnn : n ≤ 20) (hz : z < 1000000)
    (hWT : ∀ b ∈ [q, a.s, a.k, a.m, lb], b ∈ ([] : List Nat) ∨ W.heap.size ≤ b) (hT : ub ∉ [q, a.s, a.k, a.m, lb] ∧ cb ∉ [q, a.s, a.k, a.m, lb] ∧ db ∉ [q, a.s, a.k, a.m, lb]) :
    Calls Try.prog 32 #[ptr xb, ptr ub, ptr cb, ptr db] w fun e w' =>
      (e = .returned (.tuple #[]) ∧ CutW c a D 1 q z w' ∧ Keeps [q, a.s, a.k, a.m, lb] w w') ∨ (e = .panicked [{ v := goneV, recovered := false }] ∧ CutW c a D 1 q z w' ∧ Keeps [q, a.s, a.k, a.m, lb] w w') := by
  have HR := hid hR
  have HO := hid hc
  have HN := hid hn
  have HI0 := hid hI
  have hci := c_in hc hn
  obtain ⟨hTu, hTc, hTd⟩ := hT
  have hni : (n : Int) ≤ 20 := by omega
  have x0 := hX.cell 0 rfl
  clear hR hc hn hI hX
  go_enter Try.func32, Try.ntmps32
  go_wp2_with fail
  clear x0
  go_loopg [8] n (fun r s wr => ∃ k : Nat, k + r = n ∧ s = .int .i64 k ∧ (∃ st u' S' m pl wd, LW wr q a z u' S' lb c m st ∧ LI c a.n 1 0 m pl wd D S' ∧ m ≤ k ∧ u' ≤ 120 * (k : Int)) ∧ Keeps [q, a.s, a.k, a.m, lb] w wr)
  case atStart => exact ⟨0, by omega, rfl, ⟨false, 0, S, 0, pl, wd, hL, HI0.out, Nat.le_refl _, by omega⟩, Keeps.refl _ _⟩
  case round =>
    obtain ⟨k, hk, rfl, ⟨st, u', S', m, pl', wd', hLk, hIk, hmk, huk⟩, hK⟩ := hrel
    have HI := hid hIk
    have hUk := hK.at hU hTu
    have hCk := hK.at hC hTc
    have hDk := hK.at hD hTd
    have KW : Keeps [] W wr := hKW.new hK hWT
    clear hIk
    by_cases hlt : k < n
    · obtain ⟨b, off, rfl, hbl, hcl⟩ : ∃ b off, x = some ⟨b, off, none⟩ ∧ b < W.heap.size ∧ ∀ i, i < n → W.cell? ⟨b, off + i * 2, none⟩ = some (.int .u16 (f i 0)) ∧ W.cell? ⟨b, off + i * 2 + 1, none⟩ = some (.int .u64 (f i 1)) ∧ 0 ≤ f i 0 ∧ f i 0 ≤ 65535 := by
        rcases HR.out with h | h
        · omega
        · exact h
      obtain ⟨q0, q1, q2, q3⟩ := hcl k hlt
      have d0 := (KW.cell (p := ⟨b, off + k * 2, none⟩) hbl (by simp)).trans q0
      have d1 := (KW.cell (p := ⟨b, off + k * 2 + 1, none⟩) hbl (by simp)).trans q1
      obtain ⟨y, hy⟩ : ∃ y : Nat, (y : Int) = f k 0 := ⟨(f k 0).toNat, by omega⟩
      have hyb : y ≤ 65535 := by omega
      obtain ⟨v, hv⟩ : ∃ v, v = f k 1 := ⟨_, rfl⟩
      rw [← hy] at d0
      rw [← hv] at d1
      have hpi := plc_in HO.out y
      clear hcl q0 q1 q2 q3 hy hv KW
      go_upto_region 3 with fail
      have hA6 := At.new wr (aO y v)
      have hC6 := hCk.alloc (aO y v)
      have hU6 := hUk.alloc (aO y v)
      have hD6 := hDk.alloc (aO y v)
      have hL6 := hLk.keep0 ((Keeps.refl [] wr).alloc (aO y v))
      have K6 : Keeps [q, a.s, a.k, a.m, lb] w (wr.alloc (aO y v)) := hK.alloc _
      have hLl : wr.heap.size ∉ [q, a.s, a.k, a.m, lb] := by
        have l1 := hLk.pw.pow.lt
        have l2 := hLk.pw.dev.now.lt
        have l3 := hLk.pw.dev.kept.lt
        have l4 := hLk.pw.dev.map.lt
        have l5 := hLk.log.lt
        simp; omega
      obtain ⟨ab, hab⟩ : ∃ ab, ab = wr.heap.size := ⟨_, rfl⟩
      obtain ⟨w6, hw6⟩ : ∃ w6, w6 = wr.alloc (aO y v) := ⟨_, rfl⟩
      rw [← hw6] at hA6 hC6 hU6 hD6 hL6 K6 ⊢
      rw [← hab] at hA6 hLl ⊢
      clear hw6 hab d0 d1 hLk hCk hUk hDk hK
      obtain ⟨i, hi⟩ : ∃ i, i = plc c y := ⟨_, rfl⟩
      have HPL := hid (fun (w' : World) => aplace_at w' y v c HO.out hyb)
      rw [← hi] at hpi HPL
      have hin : i < a.n := by rw [← HN.out]; exact hpi.2
      clear hi
      have HS : Hid (∀ w', Keeps [] w6 w' → (w'.cell? ⟨ub, 0, none⟩ = some (ptr lb) ∧ w'.cell? ⟨ab, 0, none⟩ = some (.int .u16 y) ∧ w'.cell? ⟨ab, 1, none⟩ = some (.int .u64 v) ∧ w'.cell? ⟨cb, 0, none⟩ = some (.int .i64 c.log) ∧ w'.cell? ⟨cb, 1, none⟩ = some (.int .i64 c.roots) ∧ w'.cell? ⟨cb, 2, none⟩ = some (.int .i64 c.space))) :=
        fun w' hk => ⟨(hk.at hU6 (by simp)).cell 0 rfl, (hk.at hA6 (by simp)).cell 0 rfl, (hk.at hA6 (by simp)).cell 1 rfl, (hk.at hC6 (by simp)).cell 0 rfl, (hk.at hC6 (by simp)).cell 1 rfl, (hk.at hC6 (by simp)).cell 2 rfl⟩
      have HS2 : Hid (∀ w' w'', Keeps [] w6 w' → Keeps [q, a.s, a.k, a.m, lb] w' w'' → (w''.cell? ⟨ub, 0, none⟩ = some (ptr lb) ∧ w''.cell? ⟨ab, 0, none⟩ = some (.int .u16 y) ∧ w''.cell? ⟨ab, 1, none⟩ = some (.int .u64 v) ∧ w''.cell? ⟨cb, 0, none⟩ = some (.int .i64 c.log) ∧ w''.cell? ⟨cb, 1, none⟩ = some (.int .i64 c.roots) ∧ w''.cell? ⟨cb, 2, none⟩ = some (.int .i64 c.space))) :=
        fun w' w'' hk hk2 => ⟨(hk2.at (hk.at hU6 (by simp)) hTu).cell 0 rfl, (hk2.at (hk.at hA6 (by simp)) hLl).cell 0 rfl, (hk2.at (hk.at hA6 (by simp)) hLl).cell 1 rfl, (hk2.at (hk.at hC6 (by simp)) hTc).cell 0 rfl, (hk2.at (hk.at hC6 (by simp)) hTc).cell 1 rfl, (hk2.at (hk.at hC6 (by simp)) hTc).cell 2 rfl⟩
      have kk : Keeps [] w6 w6.drew := (Keeps.refl _ _).drew
      by_cases hm : m < c.log
      · have HAP := hid (fun (w' : World) (hk : Keeps [] w6 w') => append_li (hL6.keep0 hk) HO.out HN.out HI.out.1 (by omega) hm i hin (by omega))
        have HPA := hid (fun (S9 : DS) (hcut : Cut z u' S' (appL c st false m (eN 1 0) i (S'.now i)) S9) (ch : Nat → Int) => show ∃ r m pl wd, r ≤ 1 ∧ LI c a.n 1 r m pl wd D (crashed S9 ch) from by
          rcases app_cut HI.out hm i ⟨hpi.1, hin⟩ hcut ch with h | h
          · exact ⟨0, _, _, _, by omega, h⟩
          · exact ⟨0, _, _, _, by omega, h⟩)
        go_region_held2 (fun w' => (w'.cell? ⟨ub, 0, none⟩ = some (ptr lb) ∧ w'.cell? ⟨ab, 0, none⟩ = some (.int .u16 y) ∧ w'.cell? ⟨ab, 1, none⟩ = some (.int .u64 v) ∧ w'.cell? ⟨cb, 0, none⟩ = some (.int .i64 c.log) ∧ w'.cell? ⟨cb, 1, none⟩ = some (.int .i64 c.roots) ∧ w'.cell? ⟨cb, 2, none⟩ = some (.int .i64 c.space)))
          (first | exact HS2.out _ _ kk hk9 | exact HS.out _ kk)
          (first | (go_at_call 16; refine (HPL.out _).mono ?_; rintro e w' ⟨rfl, hk1⟩; have kk := kk.trans hk1; clear hk1)
                 | (go_at_call 17; refine (HAP.out _ kk).mono ?_; rintro e w9 (⟨rfl, hL9, hk9⟩ | ⟨rfl, ⟨S9, hc9, hP9⟩, hk9⟩); rotate_left; exact ⟨rfl, .inr ⟨rfl, cutw_cut hP9 hz (HPA.out _ hc9), (K6.trans (kk.mono (by simp))).trans hk9⟩⟩))
        have hlen := appL_len (st := st) (m := m) HO.out (eN 1 0) i (S'.now i)
        have hA9 := hk9.at (kk.at hA6 (by simp)) hLl
        have hC9 := hk9.at (kk.at hC6 (by simp)) hTc
        have hU9 := hk9.at (kk.at hU6 (by simp)) hTu
        have hD9 := hk9.at (kk.at hD6 (by simp)) hTd
        have K9 := (K6.trans (kk.mono (by simp))).trans hk9
        have hlo := hL9.pw.lo
        have hI9 := hid (show LI c a.n 1 0 (m + 1) (put pl' m i) (put wd' m (S'.now i)) D (execs S' (appL c st false m (eN 1 0) i (S'.now i))) from
          ⟨app_done HI.out.1 hm i _ ⟨hpi.1, hin⟩, HI.out.2.grow (fun j _ _ => (app_pre (by omega) (by omega) (by omega)).1) i ⟨hpi.1, hin⟩⟩)
        obtain ⟨u9, hu9⟩ : ∃ u9, u9 = u' + ((appL c st false m (eN 1 0) i (S'.now i)).length : Int) := ⟨_, rfl⟩
        obtain ⟨T, hTe⟩ : ∃ T, T = execs S' (appL c st false m (eN 1 0) i (S'.now i)) := ⟨_, rfl⟩
        rw [← hu9] at hL9 hlo
        rw [← hTe] at hL9 hI9
        have hu9b : u9 ≤ 120 * (k : Int) + 110 := by omega
        clear hk9 hA6 hC6 hU6 hD6 hL6 K6 kk HS HS2 HAP HPA hu9 hTe hlen
        have HS : Hid (∀ w', Keeps [] w9 w' → (w'.cell? ⟨db, 0, none⟩ = some (ptr a.d) ∧ w'.cell? ⟨ab, 0, none⟩ = some (.int .u16 y) ∧ w'.cell? ⟨ab, 1, none⟩ = some (.int .u64 v) ∧ w'.cell? ⟨cb, 0, none⟩ = some (.int .i64 c.log) ∧ w'.cell? ⟨cb, 1, none⟩ = some (.int .i64 c.roots) ∧ w'.cell? ⟨cb, 2, none⟩ = some (.int .i64 c.space))) :=
          fun w' hk => ⟨(hk.at hD9 (by simp)).cell 0 rfl, (hk.at hA9 (by simp)).cell 0 rfl, (hk.at hA9 (by simp)).cell 1 rfl, (hk.at hC9 (by simp)).cell 0 rfl, (hk.at hC9 (by simp)).cell 1 rfl, (hk.at hC9 (by simp)).cell 2 rfl⟩
        have hTd4 : db ∉ [q, a.s, a.k, a.m] := by simp at hTd ⊢; omega
        have hTc4 : cb ∉ [q, a.s, a.k, a.m] := by simp at hTc ⊢; omega
        have hLl4 : ab ∉ [q, a.s, a.k, a.m] := by simp at hLl ⊢; omega
        have HS2 : Hid (∀ w' w'', Keeps [] w9 w' → Keeps [q, a.s, a.k, a.m] w' w'' → (w''.cell? ⟨db, 0, none⟩ = some (ptr a.d) ∧ w''.cell? ⟨ab, 0, none⟩ = some (.int .u16 y) ∧ w''.cell? ⟨ab, 1, none⟩ = some (.int .u64 v) ∧ w''.cell? ⟨cb, 0, none⟩ = some (.int .i64 c.log) ∧ w''.cell? ⟨cb, 1, none⟩ = some (.int .i64 c.roots) ∧ w''.cell? ⟨cb, 2, none⟩ = some (.int .i64 c.space))) :=
          fun w' w'' hk hk2 => ⟨(hk2.at (hk.at hD9 (by simp)) hTd4).cell 0 rfl, (hk2.at (hk.at hA9 (by simp)) hLl4).cell 0 rfl, (hk2.at (hk.at hA9 (by simp)) hLl4).cell 1 rfl, (hk2.at (hk.at hC9 (by simp)) hTc4).cell 0 rfl, (hk2.at (hk.at hC9 (by simp)) hTc4).cell 1 rfl, (hk2.at (hk.at hC9 (by simp)) hTc4).cell 2 rfl⟩
        have HST := hid (fun (w' : World) (hk : Keeps [] w9 w') => store_ran w' q a z u9 T i v (hL9.pw.keep0 hk) hin (by omega))
        have HPA := hid (fun (S9 : DS) (hcut : Cut z u9 T [.st i v] S9) (ch : Nat → Int) => show ∃ r m pl wd, r ≤ 1 ∧ LI c a.n 1 r m pl wd D (crashed S9 ch) from by
          obtain rfl := cut_of_one hcut
          exact ⟨0, _, _, _, by omega, hI9.out.crash ch⟩)
        have kk : Keeps [] w9 w9.drew := (Keeps.refl _ _).drew
        go_upto_region 4 with fail
        go_region_held2 (fun w' => (w'.cell? ⟨db, 0, none⟩ = some (ptr a.d) ∧ w'.cell? ⟨ab, 0, none⟩ = some (.int .u16 y) ∧ w'.cell? ⟨ab, 1, none⟩ = some (.int .u64 v) ∧ w'.cell? ⟨cb, 0, none⟩ = some (.int .i64 c.log) ∧ w'.cell? ⟨cb, 1, none⟩ = some (.int .i64 c.roots) ∧ w'.cell? ⟨cb, 2, none⟩ = some (.int .i64 c.space)))
          (first | exact HS2.out _ _ kk hk9 | exact HS.out _ kk)
          (first | (go_at_call 16; refine (HPL.out _).mono ?_; rintro e w' ⟨rfl, hk1⟩; have kk := kk.trans hk1; clear hk1)
                 | (go_at_call 19; refine (HST.out _ kk).mono ?_; rintro e wt (⟨rfl, hPt, hk9⟩ | ⟨rfl, ⟨S9, hc9, hPt⟩, hk9⟩); rotate_left; exact ⟨rfl, .inr ⟨rfl, cutw_cut hPt hz (HPA.out _ hc9), (K9.trans (kk.mono (by simp))).trans hk9.lg⟩⟩))
        have hLt := (hL9.keep0 kk).next hPt hk9
        have hIt := hid (LI.store (v := v) hI9.out (k := m) (by omega) (put_on pl' m i))
        have Kt := K9.trans ((kk.mono (by simp)).trans hk9.lg)
        go_wp2_with fail
        go_roundg (n - (k + 1))
        case measure => omega
        case rel => exact ⟨k + 1, by omega, by go_num, ⟨true, _, _, m + 1, _, _, hLt, hIt.out, by omega, by simp; omega⟩, Kt⟩
      · have hmc : m = c.log := by have := HI.out.1.le; omega
        have HAP := hid (fun (w' : World) (hk : Keeps [] w6 w') => append_full (hL6.keep0 hk) i hin hmc)
        go_region_held3 (fun w' => (w'.cell? ⟨ub, 0, none⟩ = some (ptr lb) ∧ w'.cell? ⟨ab, 0, none⟩ = some (.int .u16 y) ∧ w'.cell? ⟨ab, 1, none⟩ = some (.int .u64 v) ∧ w'.cell? ⟨cb, 0, none⟩ = some (.int .i64 c.log) ∧ w'.cell? ⟨cb, 1, none⟩ = some (.int .i64 c.roots) ∧ w'.cell? ⟨cb, 2, none⟩ = some (.int .i64 c.space)))
          (first | exact HS2.out _ _ kk (hk9.mono (by simp)) | exact HS.out _ kk)
          (first | (go_at_call 16; refine (HPL.out _).mono ?_; rintro e w' ⟨rfl, hk1⟩; have kk := kk.trans hk1; clear hk1)
                 | (go_at_call 17; refine (HAP.out _ kk).mono ?_; rintro e w9 ⟨rfl, hk9⟩))
        have hL9 := (hL6.keep0 kk).keep0 hk9
        have K9 := (K6.trans (kk.mono (by simp))).trans (hk9.mono (by simp))
        go_wp2_with fail
        go_roundg (n - (k + 1))
        case measure => omega
        case rel => exact ⟨k + 1, by omega, by go_num, ⟨st, u', S', m, pl', wd', hL9, HI.out, by omega, by omega⟩, K9⟩
    · have hkn : k = n := by omega
      subst hkn
      have u0 := hUk.cell 0 rfl
      clear hk hlt
      go_wp2_with fail
      refine (undo_li hLk HO.out HN.out HI.out.1 (by omega)).mono ?_
      have hlen := undS_len (st := st) (pl := pl') (wd := wd') HO.out HI.out.1.le (eN 1 0)
      have hrs : rS m 0 ≤ 1 := by unfold rS; split <;> omega
      rintro e w9 (⟨rfl, hL9, hk9⟩ | ⟨rfl, ⟨S9, hc9, hP9⟩, hk9⟩)
      · go_wp2_with fail
        go_end0
        exact .inl ⟨rfl, ⟨_, _, hL9.pw, by omega, fun ch => ⟨_, _, _, _, hrs, (undS_done HI.out).crash ch⟩⟩, hK.trans hk9⟩
      · exact ⟨rfl, .inr ⟨rfl, cutw_cut hP9 hz (fun ch => by obtain ⟨r', m', h1, h2⟩ := undS_crash HI.out hc9 ch; exact ⟨r', m', _, _, by omega, h2⟩), hK.trans hk9⟩⟩

set_option maxRecDepth 100000 in
set_option maxHeartbeats 2000000 in
/-- Opened anew, and undone. -/
theorem cut3_at (w : World) (q : Nat) (a : DA) (z u : Int) (S : DS) (c : Cfg) (r m : Nat) (pl : Nat → Nat) (wd D : Nat → Int) (cb db : Nat)
    (hP : Pw w q a z u S) (hc : c.Ok) (hn : c.words = a.n) (hI : LI c a.n 1 r m pl wd D S) (hr : r ≤ 2) (hC : At w cb (cfgO c)) (hD : At w db (devP a.d)) (hz : z < 1000000) (hu : u ≤ 900000) :
    Calls Try.prog 36 #[ptr db, ptr cb] w fun e w' =>
      (e = .returned (.tuple #[]) ∧ CutW c a D (r + 1) q z w' ∧ Keeps [q, a.s, a.k, a.m] w w') ∨ (e = .panicked [{ v := goneV, recovered := false }] ∧ CutW c a D (r + 1) q z w' ∧ Keeps [q, a.s, a.k, a.m] w w') := by
  have HO := hid hc
  have HN := hid hn
  have HI := hid hI
  have d0 := hD.cell 0 rfl
  have c0 := hC.cell 0 rfl
  have c1 := hC.cell 1 rfl
  have c2 := hC.cell 2 rfl
  clear hc hn hI
  go_enter Try.func36, Try.ntmps36
  go_wp2_with fail
  refine (open_li hP HO.out HN.out HI.out.1 (by omega)).mono ?_
  rintro e w1 ⟨lb, rfl, hlb, hL1, hk1⟩
  clear d0 c0 c1 c2
  have hT : ∀ b ∈ [q, a.s, a.k, a.m, lb], b ∈ [q, a.s, a.k, a.m] ∨ w.heap.size ≤ b := by simp; omega
  go_wp2_with fail
  refine (undo_li hL1 HO.out HN.out HI.out.1 (by omega)).mono ?_
  have hlen := undS_len (st := false) (pl := pl) (wd := wd) HO.out HI.out.1.le (eN 1 r)
  have hrs : rS m r ≤ r + 1 := by unfold rS; split <;> omega
  rintro e w9 (⟨rfl, hL9, hk9⟩ | ⟨rfl, ⟨S9, hc9, hP9⟩, hk9⟩)
  · go_wp2_with fail
    go_end0
    exact .inl ⟨rfl, ⟨_, _, hL9.pw, by omega, fun ch => ⟨_, _, _, _, hrs, (undS_done HI.out).crash ch⟩⟩, (hk1.mono (by simp)).new hk9 hT⟩
  · exact ⟨rfl, .inr ⟨rfl, cutw_cut hP9 hz (fun ch => by obtain ⟨r', m', h1, h2⟩ := undS_crash HI.out hc9 ch; exact ⟨r', m', _, _, h1, h2⟩), (hk1.mono (by simp)).new hk9 hT⟩⟩

end Go.Proofs.Ythpebaghcaelcaa
