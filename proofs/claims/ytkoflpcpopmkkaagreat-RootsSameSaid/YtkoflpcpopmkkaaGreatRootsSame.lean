/- The walk of the law RootsSame. -/
import Derived.Test.YtkoflpcpopmkkaaGreatAwk8
import Derived.Test.YtkoflpcpopmkkaaGreatStoD
import Derived.Test.YtkoflpcpopmkkaaGreatArgs
namespace Go.Proofs.YtkoflpcpopmkkaaGreat
open Go.RowKit Go.OpenShut

/-- Behind some stores: so many roots, the others noughts; nothing used of the first space. -/
def RSame (c : Cfg) (m : Nat) (f : Nat → Int) (S : DS) : Prop :=
  S.now c.act = 0 ∧ S.now (c.act + 1) = 0 ∧ (∀ i, i < m → S.now (c.root i) = f i) ∧ ∀ i, m ≤ i → i < c.roots → S.now (c.root i) = 0

theorem RSame.store {c : Cfg} {m : Nat} {f : Nat → Int} {S : DS} (h : RSame c m f S) : RSame c (m + 1) f (execs S [.st (c.root m) (f m)]) := by
  obtain ⟨h1, h2, h3, h4⟩ := h
  have e : ∀ j, (execs S [.st (c.root m) (f m)]).now j = if j = c.root m then f m else S.now j := fun j => rfl
  refine ⟨?_, ?_, fun i hi => ?_, fun i hi hj => ?_⟩
  · rw [e, if_neg (by unfold Cfg.root; omega)]; exact h1
  · rw [e, if_neg (by unfold Cfg.root; omega)]; exact h2
  · rw [e]
    by_cases him : i = m
    · subst him; rw [if_pos rfl]
    · rw [if_neg (by unfold Cfg.root; omega)]; exact h3 i (by omega)
  · rw [e, if_neg (by unfold Cfg.root; omega)]; exact h4 i (by omega) hj

theorem RSame.begin {c : Cfg} {S : DS} (h : LaidF c S.now) (f : Nat → Int) : RSame c 0 f S := by
  refine ⟨h.blk 0 (by omega), h.blk 1 (by omega), fun i hi => by omega, fun i _ hi => ?_⟩
  have := h.blk (2 + i) (by omega)
  rwa [show c.act + (2 + i) = c.root i by unfold Cfg.root; omega] at this

/-- A function that counts: what it is called with is not looked at. -/
def CntJ (p : Nat) (a : DA) (S : DS) (nb : Nat) (n : Nat) (k : Nat) (w : World) : Prop := Dev w p a S ∧ At w nb (.cells #[.int .i64 (k : Int)] 3) ∧ k ≤ n ∧ a.d ≠ nb ∧ a.s ≠ nb ∧ a.k ≠ nb ∧ a.m ≠ nb
def CntT (k : Nat) (_ : Nat) (_ : Int) (code : Int) (k' : Nat) : Prop := code = 0 ∧ k' = k + 1

set_option maxRecDepth 100000 in
set_option maxHeartbeats 400000 in
theorem same1_at (w : World) (nb k : Nat) (i v : Int) (h : At w nb (.cells #[.int .i64 (k : Int)] 3)) (hk : k ≤ 1000) :
    Calls Tryz.prog 46 #[.int .i64 i, .int .u64 v, ptr nb] w fun e w' => e = .returned (.int .i64 0) ∧ At w' nb (.cells #[.int .i64 ((k + 1 : Nat) : Int)] 3) ∧ Keeps [nb] w w' := by
  have c0 := h.cell 0 rfl
  have f0 := h.free 0
  have hki : (k : Int) ≤ 1000 := by omega
  go_enter Tryz.func46, Tryz.ntmps46
  go_wp2_with fail
  go_ret
  exact ⟨rfl, h.set 0 _, (Keeps.refl _ _).set (.inl (by simp)) _⟩

theorem cnt_storer (p : Nat) (a : DA) (S : DS) (nb : Nat) :
    Storer 46 #[] #[ptr nb] a (fun _ => S) (fun _ => [nb]) 1000 (CntJ p a S nb) CntT (fun _ _ _ _ => False) where
  inv := fun w i v => by simp [go_sem]
  dev := fun n k w h => ⟨p, h.1⟩
  keep := fun n k w w' h hk => ⟨h.1.keep hk (by simp) (by simp) (by simp) (by simp), hk.at h.2.1 (by simp), h.2.2⟩
  more := fun n k w h => ⟨h.1, h.2.1, Nat.le_succ_of_le h.2.2.1, h.2.2.2⟩
  call := fun n k w i v hn ⟨h1, h2, h3, h4, h5, h6, h7⟩ hi => by
    refine (same1_at w nb k i v h2 (by omega)).mono ?_
    rintro e w' ⟨rfl, h8, hk⟩
    exact .inl ⟨0, k + 1, rfl, ⟨rfl, rfl⟩, ⟨h1.keep hk (by simpa using h4) (by simpa using h5) (by simpa using h6) (by simpa using h7), h8, by omega, h4, h5, h6, h7⟩, hk, fun b hb => .inl hb⟩

/-- How many words another one stands for. -/
def unl (S : DS) (l : List (Nat × Int)) : Nat := (l.filter fun x => S.now x.1 ≠ x.2).length

theorem wr_cnt (S : DS) : ∀ {l : List (Nat × Int)} {k k' : Nat} {code : Int}, WrT (fun _ => S) CntT l k code k' → code = 0 ∧ k' = k + unl S l
  | [], k, k', code, h => by obtain ⟨rfl, rfl⟩ := h; exact ⟨rfl, rfl⟩
  | (i, v) :: l, k, k', code, h => by
    obtain ⟨c1, k1, h1, h2⟩ := h
    have h3 : c1 = 0 ∧ k1 = k + (if S.now i = v then 0 else 1) := by
      rcases h1 with ⟨e1, e2, e3⟩ | ⟨e1, e2, e3⟩
      · rw [if_pos e1]; exact ⟨e2, e3⟩
      · rw [if_neg e1]; exact ⟨e2, e3⟩
    obtain ⟨rfl, rfl⟩ := h3
    rcases h2 with ⟨h6, _⟩ | ⟨_, h6⟩
    · exact absurd rfl h6
    · obtain ⟨rfl, rfl⟩ := wr_cnt S h6
      refine ⟨rfl, ?_⟩
      unfold unl
      rw [List.filter_cons]
      by_cases h : S.now i = v
      · simp [h]
      · simp [h]; omega

theorem wrG_zero {σ : Type} {now : σ → DS} {T : σ → Nat → Int → Int → σ → Prop} : ∀ {l : List (Nat × Int)} {s : σ} {w : World}, ¬ WrG now T (fun _ _ _ _ => False) l s w
  | [], _, _, h => h
  | (i, v) :: l, S, w, h => by
    rcases h with ⟨_, h⟩ | ⟨s1, _, h⟩
    · exact h
    · exact wrG_zero h

theorem unl_zero {S : DS} {l : List (Nat × Int)} (h : ∀ x ∈ l, S.now x.1 = x.2) : unl S l = 0 := by
  unfold unl
  rw [List.length_eq_zero_iff, List.filter_eq_nil_iff]
  intro x hx
  simp [h x hx]

theorem unl_map {S : DS} {l : List Nat} {g : Nat → Nat} {f f' : Nat → Int} {j : Nat} (hd : l.Nodup) (hs : ∀ i ∈ l, S.now (g i) = f i) (he : ∀ i, i ≠ j → f' i = f i) (hj : j ∈ l) : unl S (l.map fun i => (g i, f' i)) = if f' j = f j then 0 else 1 := by
  induction l with
  | nil => cases hj
  | cons x l ih =>
    rw [List.nodup_cons] at hd
    unfold unl at ih ⊢
    rw [List.map_cons, List.filter_cons]
    by_cases hx : x = j
    · subst hx
      have h0 : unl S (l.map fun i => (g i, f' i)) = 0 := unl_zero fun y hy => by
        obtain ⟨i, hi, rfl⟩ := List.mem_map.1 hy
        show S.now (g i) = f' i
        rw [hs i (List.mem_cons_of_mem _ hi), he i (fun e => hd.1 (e ▸ hi))]
      unfold unl at h0
      simp only [hs x List.mem_cons_self]
      by_cases h : f' x = f x
      · rw [if_pos h]; simpa [h] using h0
      · rw [if_neg h, if_pos (by simpa using fun e => h e.symm), List.length_cons, h0]
    · have hjl : j ∈ l := by
        rcases List.mem_cons.1 hj with h | h
        · exact absurd h.symm hx
        · exact h
      have := ih hd.2 (fun i hi => hs i (List.mem_cons_of_mem _ hi)) hjl
      simp only [hs x List.mem_cons_self, he x hx, ne_eq, not_true_eq_false, decide_false, Bool.false_eq_true, if_false]
      exact this

/-- What a block that stands is written with, one root of it another one. -/
theorem unl_blk {S : DS} {c : Cfg} {k u : Int} {f f' : Nat → Int} {j : Nat} (h1 : S.now c.act = k) (h2 : S.now (c.act + 1) = u) (hs : ∀ i, i < c.roots → S.now (c.root i) = f i) (he : ∀ i, i ≠ j → f' i = f i) (hj : j < c.roots) : unl S (blkW c k u c.roots f') = if f' j = f j then 0 else 1 := by
  have := unl_map (S := S) (l := List.range c.roots) (g := c.root) List.nodup_range (fun i hi => hs i (List.mem_range.1 hi)) he (List.mem_range.2 hj)
  unfold unl at this ⊢
  unfold blkW
  rw [List.filter_cons, List.filter_cons]
  simpa [h1, h2] using this

set_option maxRecDepth 100000 in
set_option maxHeartbeats 4000000 in
theorem same_small (l r s kk0 : Nat) (v : Int) (x : Option Addr) (n cp : Nat) (f : Nat → Int) (W : World) (hl : l ≤ 65535) (hr : r ≤ 65535) (hs : s ≤ 65535) (hkb : kk0 ≤ 255) (hx : Reads W x n f) (hnm : n ≤ 9223372036854775807) :
    Calls Tryz.prog 8 #[c3V l r s, .slice x n cp, .int .u8 kk0, .int .u64 v] W fun e w' => e = .returned (.bool true) ∧ Below W.heap.size W w' := by
  have hkbi : (kk0 : Int) ≤ 255 := by omega
  have hni : (n : Int) ≤ 9223372036854775807 := by omega
  have HX := hid hx
  clear hx
  go_enter Tryz.func8, Tryz.ntmps8
  go_wp2_with fail
  have hB0 := At.new W (c3O l r s)
  have K0 := (Keeps.refl [] W).alloc (c3O l r s)
  refine (awake8_any _).mono ?_
  rintro e w1 ⟨rfl, hb1⟩
  have k1 := Go.Proofs.YtkoflpcpopmkkaaGreat.Below.keeps hb1 []
  have K1 := K0.trans k1
  have hB1 := k1.at hB0 (by simp)
  clear hb1 k1 hB0 K0
  have c0 : w1.cell? ⟨W.heap.size, 0, none⟩ = some (.int .u16 l) := hB1.cell 0 rfl
  have c1 : w1.cell? ⟨W.heap.size, 1, none⟩ = some (.int .u16 r) := hB1.cell 1 rfl
  have c2 : w1.cell? ⟨W.heap.size, 2, none⟩ = some (.int .u16 s) := hB1.cell 2 rfl
  by_cases hn : n ≤ 20
  case neg =>
    have hn2 : (20 : Int) < (n : Int) := by omega
    go_wp2_with fail
    go_ret
    exact ⟨rfl, K1.below (Nat.le_refl _) (by simp)⟩
  have hni2 : (n : Int) ≤ 20 := by omega
  clear hni
  go_wp2_with fail
  refine (make3_at w1 l r s hl hr hs).mono ?_
  rintro e w2 ⟨rfl, hk2⟩
  have K2 := K1.trans hk2
  have hok := mk3_ok l r s
  obtain ⟨c, hc⟩ : ∃ c, c = mk3 l r s := ⟨_, rfl⟩
  rw [← hc] at hok ⊢
  clear hc c0 c1 c2 hB1 hk2 K1
  go_wp2_with fail
  have hC3 := At.new w2 (cfgO c)
  have K3 := K2.alloc (cfgO c)
  have hz2 := K2.size
  obtain ⟨cb, hcb⟩ : ∃ cb, cb = w2.heap.size := ⟨_, rfl⟩
  rw [← hcb] at hC3 hz2 ⊢
  have HCB := hid hcb
  clear hcb K2
  refine (formatted_at _ c hok none 0 0 (fun _ => 0) (.inl rfl) (by omega)).mono ?_
  rintro e w4 ⟨p, a, u, S, rfl, haN, hP, hub, hW, hkp, his, ⟨b1, b2, b3, b4, b5⟩, hk4⟩
  simp only [World.size_alloc] at b1 b2 b3 b4 b5
  rw [← HCB.out] at b1 b2 b3 b4 b5
  have hC4 := hk4.at hC3 (by simp)
  have K4 := K3.trans hk4
  obtain ⟨_, hLF⟩ := hW
  have HLF := hid hLF
  have HN := hid haN
  have HO := hid hok
  have h0 := hP.lo
  have hsp : (c.space : Int) ≤ 4096 := by have := hok.small.2.2; omega
  have hwd := words_ge hok
  have hwi : (c.words : Int) ≤ 15000 := by omega
  have HBK := hid (show cb < a.d ∧ cb < a.s ∧ cb < a.k ∧ cb < a.m ∧ cb < p from ⟨by omega, by omega, by omega, by omega, by omega⟩)
  clear haN hok hkp his hC3 K3 hk4 hLF b1 b2 b3 b4 b5 hwd
  have HB := HBK.out
  have hcT : cb ∉ [p, a.s, a.k, a.m] := by simp; omega
  have hWT : ∀ b ∈ [p, a.s, a.k, a.m], b ∈ ([] : List Nat) ∨ W.heap.size ≤ b := by simp; omega
  have HCT := hid hcT
  have HWT := hid hWT
  have hpl := places HO.out
  have hci := c_in HO.out HN.out
  have hai : (c.act : Int) ≤ 823 := by have := act_le HO.out.small; omega
  have hrt : (c.roots : Int) ≤ 16 := by have := HO.out.2.1; omega
  have HIN : Hid (c.act + 2 + c.roots ≤ a.n) := by rw [← HN.out]; exact hpl.2.1
  clear hpl hci HB hcT hWT
  have hRB := RSame.begin HLF.out f
  have hu9b : 0 ≤ u ∧ u ≤ 100010 := by omega
  clear HLF hub h0
  obtain ⟨mm, hmm⟩ : ∃ mm, mm = min n c.roots := ⟨_, rfl⟩
  have HMM := hid hmm
  have hmb : (mm : Int) ≤ 16 := by omega
  have EM := hid (show min (n : Int) (c.roots : Int) = (mm : Int) by omega)
  have hmr : mm ≤ c.roots := by omega
  have hmn : mm ≤ n := by omega
  clear hmm
  have c0 := hC4.cell 0 rfl
  have c1 := hC4.cell 1 rfl
  have c2 := hC4.cell 2 rfl
  have HRB := hid hRB
  clear hRB
  have HC9 := hid hC4
  have HK9 := hid K4
  clear hC4 K4
  go_wp2_with fail
  rw [EM.out]
  clear c0 c1 c2
  go_loopg [38] mm (fun rr sl wr => ∃ m : Nat, m + rr = mm ∧ sl = .int .i64 m ∧ (∃ S', Pw wr p a (-1) (u + (m : Int)) S' ∧ RSame c m f S') ∧ Keeps [p, a.s, a.k, a.m] w4 wr)
  case atStart => exact ⟨0, by omega, rfl, ⟨S, by simpa using hP, HRB.out⟩, Keeps.refl _ _⟩
  case round =>
    obtain ⟨m, hm, rfl, ⟨S', hPr, hBr⟩, hKr⟩ := hrel
    have HBr := hid hBr
    clear hBr
    by_cases hlt : m < mm
    · obtain ⟨b, off, rfl, hb, hcl⟩ : ∃ b off, x = some ⟨b, off, none⟩ ∧ b < W.heap.size ∧ ∀ i, i < n → W.cell? ⟨b, off + i, none⟩ = some (.int .u64 (f i)) := by
        rcases HX.out with h | h
        · omega
        · exact h
      have hcm := hcl m (by omega)
      obtain ⟨fm, hfm⟩ : ∃ fm, fm = f m := ⟨_, rfl⟩
      rw [← hfm] at hcm
      have HFM := hid hfm
      have hmi : (m : Int) < (n : Int) := by omega
      have hmi2 : (m : Int) < (mm : Int) := by omega
      have hmb2 : (m : Int) ≤ 16 := by omega
      have HM := hid hm
      have HLT := hid hlt
      have hCr := hKr.at HC9.out HCT.out
      have hWr : Keeps [] W wr := HK9.out.new hKr HWT.out
      have hcr : wr.cell? ⟨b, off + m, none⟩ = some (.int .u64 fm) := by rw [hWr.cell hb (by simp)]; exact hcm
      have hbr : b < wr.heap.size := Nat.lt_of_lt_of_le hb hWr.size
      have hbT : b ∉ [p, a.s, a.k, a.m] := fun h => by rcases HWT.out b h with h | h; exact absurd h (by simp); omega
      have HS : Hid (∀ w', Keeps [p, a.s, a.k, a.m] wr w' → (w'.cell? ⟨cb, 0, none⟩ = some (.int .i64 c.log) ∧ w'.cell? ⟨cb, 1, none⟩ = some (.int .i64 c.roots) ∧ w'.cell? ⟨cb, 2, none⟩ = some (.int .i64 c.space) ∧ w'.cell? ⟨b, off + m, none⟩ = some (.int .u64 fm))) :=
        fun w' hk => ⟨(hk.at hCr HCT.out).cell 0 rfl, (hk.at hCr HCT.out).cell 1 rfl, (hk.at hCr HCT.out).cell 2 rfl, by rw [hk.cell hbr hbT]; exact hcr⟩
      have HST := hid (fun (w' : World) (hk : Keeps [] wr w') => store_ran w' p a (-1) (u + (m : Int)) S' (c.root m) fm (hPr.keep0 hk) (by have := HIN.out; unfold Cfg.root; omega) (by omega))
      have kk : Keeps [] wr wr.drew := (Keeps.refl _ _).drew
      clear hcl hcm hfm hm hCr hWr hcr hb hbr hbT hPr hlt
      go_wp2_with fail
      go_region_held3 (fun w' => w'.cell? ⟨cb, 0, none⟩ = some (.int .i64 c.log) ∧ w'.cell? ⟨cb, 1, none⟩ = some (.int .i64 c.roots) ∧ w'.cell? ⟨cb, 2, none⟩ = some (.int .i64 c.space) ∧ w'.cell? ⟨b, off + m, none⟩ = some (.int .u64 fm))
        (first | exact HS.out _ ((kk.mono (by simp)).trans hk10) | exact HS.out _ (kk.mono (by simp)))
        (first
          | (go_at_call 38; refine (root_at _ c HO.out.small m (by omega)).mono ?_; rintro e w' ⟨rfl, hk1⟩; have kk := kk.trans hk1; clear hk1)
          | (go_at_call 36; refine (HST.out _ kk).mono ?_; intro e w10 hr10; obtain ⟨rfl, hP10, hk10⟩ := hr10.free (by omega)))
      all_goals
        go_wp2_with fail
        go_roundg (mm - (m + 1))
        case measure => (have := HM.out; omega)
        case rel => exact ⟨m + 1, by have := HM.out; have := HLT.out; omega, by go_num, ⟨_, by have := hP10; simp only [List.length_cons, List.length_nil] at this; rw [show u + ((m + 1 : Nat) : Int) = u + (m : Int) + ((0 + 1 : Nat) : Int) by omega]; exact this, by have := HBr.out.store; rw [← HFM.out] at this; exact this⟩, (hKr.trans (kk.mono (by simp))).trans hk10⟩
    · have hme : m = mm := by omega
      subst hme
      have hCr := hKr.at HC9.out HCT.out
      have Kr : Keeps [] W wr := HK9.out.new hKr HWT.out
      have Kr0 := hid Kr.size
      have HCR := hid hCr.lt
      have c0 := hCr.cell 0 rfl
      have c1 := hCr.cell 1 rfl
      have c2 := hCr.cell 2 rfl
      have HRD := hid (rread_at wr p a S' c hPr.dev HO.out HN.out (by rw [HBr.out.1]; omega) (by rw [HBr.out.2.1]; omega))
      have HDr := hid hPr.dev
      clear hm hlt hKr hPr
      go_wp2_with fail
      refine HRD.out.mono ?_
      rintro e w10 (⟨h9, rfl, hk10⟩ | ⟨k, u8, x9, cp9, hk1, hu1, hA1, hU1, rfl, hO9, hk10⟩)
      · rw [HBr.out.1, HBr.out.2.1] at h9
        omega
      · rw [HBr.out.1] at hA1
        rw [HBr.out.2.1] at hU1
        obtain rfl : k = 0 := by omega
        obtain rfl : u8 = 0 := by omega
        clear hA1 hU1 hk1 hu1
        have K10 := Kr.trans hk10
        have hD10 := HDr.out.keep hk10 (by simp) (by simp) (by simp) (by simp)
        have hC10 := (hk10.at hCr (by simp)).alloc (bkO 0 0 (.slice x9 c.roots cp9))
        have hB10 := At.new w10 (bkO 0 0 (.slice x9 c.roots cp9))
        have K11 := K10.alloc (bkO 0 0 (.slice x9 c.roots cp9))
        have hO11 := hO9.keep ((Keeps.refl [] w10).alloc (bkO 0 0 (.slice x9 c.roots cp9))) (by simp)
        have hD11 := hD10.keep ((Keeps.refl [] w10).alloc (bkO 0 0 (.slice x9 c.roots cp9))) (by simp) (by simp) (by simp) (by simp)
        have hbd := hD10.fresh (Nat.le_refl _)
        have hrz := hk10.size
        have hcb10 := (hk10.at hCr (by simp)).lt
        have hxr : ∀ b ∈ blkL x9, b < w10.heap.size := fun b hb => (hO9.ge b hb).2
        obtain ⟨bb, hbb⟩ : ∃ bb, bb = w10.heap.size := ⟨_, rfl⟩
        go_upto_region 15 with fail
        obtain ⟨w11, hw11⟩ : ∃ w11, w11 = w10.alloc (bkO 0 0 (.slice x9 c.roots cp9)) := ⟨_, rfl⟩
        have hz11 : w11.heap.size = bb + 1 := by rw [hw11, hbb]; simp
        rw [← hbb] at hB10 hbd hcb10 hxr ⊢
        have hzbb : wr.heap.size ≤ bb := by omega
        rw [← hw11] at hC10 hB10 K11 hO11 hD11 ⊢
        clear hw11 hbb hO9 hk10 K10 Kr hCr c0 c1 c2 HRD hD10 hrz
        have c0 := hC10.cell 0 rfl
        have c1 := hC10.cell 1 rfl
        have c2 := hC10.cell 2 rfl
        have d0 := hB10.cell 0 rfl
        have d1 := hB10.cell 1 rfl
        have d2 := hB10.cell 2 rfl
        have HO11 := hid hO11
        have HD11 := hid hD11
        have HBD := hid hbd
        have HXR := hid hxr
        have HSZ := hid (show wr.heap.size ≤ bb ∧ w11.heap.size = bb + 1 ∧ cb < bb from ⟨hzbb, hz11, hcb10⟩)
        clear hO11 hD11 hbd hxr hzbb hz11 hcb10
        go_upto_region 19 with fail
        have hN12 := At.new w11 (.cells #[.int .i64 0] 3)
        have k12 := (Keeps.refl [] w11).alloc (.cells #[.int .i64 0] 3)
        rw [HSZ.out.2.1] at hN12 ⊢
        obtain ⟨w12, hw12⟩ : ∃ w12, w12 = w11.alloc (.cells #[.int .i64 0] 3) := ⟨_, rfl⟩
        rw [← hw12] at hN12 k12 ⊢
        clear hw12
        have hC12 := k12.at hC10 (by simp)
        have hB12 := k12.at hB10 (by simp)
        have K12 := K11.trans k12
        have HO12 := hid (HO11.out.keep k12 (by simp))
        have HD12 := hid (HD11.out.keep k12 (by simp) (by simp) (by simp) (by simp))
        have hnd := HD11.out.fresh (g := bb + 1) (by have := HSZ.out; omega)
        have HWR := hid (rwrite_at (cnt_storer p a S' (bb + 1)) 0 0 w12 ⟨HD12.out, by simpa using hN12, Nat.le_refl _, hnd⟩ c HO.out HN.out 0 0 (by omega) (by omega) x9 cp9 (fun i => S'.now (c.root i)) (by omega) HO12.out.rd
          (fun b off e => ⟨fun h => by simp at h; have := HXR.out b (by rw [e]; simp [blkL]); omega, by have := HXR.out b (by rw [e]; simp [blkL]); have := k12.size; have := HSZ.out; omega⟩)
          (fun b hb => by simp at hb; subst hb; exact hN12.lt))
        have HND := hid hnd
        clear c0 c1 c2 d0 d1 d2 hC10 hB10 K11 HO11 HD11 hnd k12
        have c0 := hC12.cell 0 rfl
        have c1 := hC12.cell 1 rfl
        have c2 := hC12.cell 2 rfl
        have d0 := hB12.cell 0 rfl
        have d1 := hB12.cell 1 rfl
        have d2 := hB12.cell 2 rfl
        go_wp2_with fail
        refine HWR.out.mono ?_
        rintro e w13 (⟨code, k3, rfl, hwr, hJ13, hk13, _⟩ | ⟨_, hg⟩)
        case inr => exact absurd hg wrG_zero
        obtain ⟨rfl, hk3⟩ := wr_cnt S' hwr
        have hk4 : k3 = 0 := by
          rw [hk3, Nat.zero_add]
          exact (unl_blk (j := 0) (k := ((0 : Nat) : Int)) (u := ((0 : Nat) : Int)) HBr.out.1 HBr.out.2.1 (fun i _ => rfl) (fun i _ => rfl) (by have := HO.out.1; omega)).trans (if_pos rfl)
        subst hk4
        clear hk3 hwr HWR
        obtain ⟨hD13, hN13, _, _⟩ := hJ13
        have hC13 := hk13.at hC12 (by simp; have := HSZ.out; omega)
        have hB13 := hk13.at hB12 (by simp)
        have K13 : Keeps [] W w13 := K12.new hk13 (by simp; have := HSZ.out; have := Kr0.out; omega)
        have hxo : ∀ b ∈ blkL x9, b ∉ ((fun _ => [bb + 1]) 0 : List Nat) := fun b hb h => by simp at h; have := HXR.out b hb; omega
        have hO13 := HO12.out.keep hk13 hxo
        obtain ⟨j, hj⟩ : ∃ j, j = kk0 % c.roots := ⟨_, rfl⟩
        have hr0 : 0 < c.roots := HO.out.1
        have hjr : j < c.roots := by rw [hj]; exact Nat.mod_lt _ hr0
        have EJ := hid (show (kk0 : Int) % (c.roots : Int) = (j : Int) by rw [hj]; simp)
        have n1 : ¬ c.roots = 0 := by omega
        have n2 : ¬ (c.roots : Int) = 0 := by omega
        obtain ⟨g, cur, rfl, hwg, hAg, hcur⟩ : ∃ g cur, x9 = some ⟨g, 0, none⟩ ∧ wr.heap.size ≤ g ∧ At w13 g (.cells cur 27) ∧ ∀ i, i < c.roots → cur[i]? = some (.int .u64 (S'.now (c.root i))) := by
          rcases hO13.form with ⟨_, h⟩ | h
          · omega
          · exact h
        have hgb : g < bb := HXR.out g (by simp [blkL])
        clear c0 c1 c2 d0 d1 d2 hC12 hB12 K12 hN12 hk13 hO13 hj HD12 HO12
        have c0 := hC13.cell 0 rfl
        have c1 := hC13.cell 1 rfl
        have c2 := hC13.cell 2 rfl
        have d0 := hB13.cell 0 rfl
        have d1 := hB13.cell 1 rfl
        have d2 := hB13.cell 2 rfl
        have m0 : w13.cell? ⟨bb + 1, 0, none⟩ = some (.int .i64 0) := hN13.cell 0 rfl
        go_upto_region 22 with fail
        rw [EJ.out]
        have hji : (j : Int) < (c.roots : Int) := by omega
        have hjb : (j : Int) ≤ 16 := by omega
        obtain ⟨t, ht⟩ : ∃ t, t = S'.now (c.root j) := ⟨_, rfl⟩
        have r0 : w13.cell? ⟨g, j, none⟩ = some (.int .u64 t) := by rw [ht]; exact hAg.cell j (hcur j hjr)
        have r1 := hAg.free j
        have HT := hid ht
        clear ht
        go_upto_region 24 with fail
        have hA14 := hAg.set j (.int .u64 v)
        have k14 : Keeps [g] w13 (w13.setCell ⟨g, j, none⟩ (.int .u64 v)) := (Keeps.refl _ _).set (.inl (by simp)) _
        obtain ⟨w14, hw14⟩ : ∃ w14, w14 = w13.setCell ⟨g, j, none⟩ (.int .u64 v) := ⟨_, rfl⟩
        rw [← hw14] at hA14 k14 ⊢
        clear hw14
        have hgd := HDr.out.fresh hwg
        have hgc : cb ≠ g := by have := HCR.out; omega
        have hC14 := k14.at hC13 (by simpa using hgc)
        have hB14 := k14.at hB13 (by simp; omega)
        have hN14 := k14.at hN13 (by simp; omega)
        have hD14 := hD13.keep k14 (by simp; omega) (by simp; omega) (by simp; omega) (by simp; omega)
        have K14 : Keeps [] W w14 := K13.new k14 (by simp; have := Kr0.out; omega)
        have hrd : Reads w14 (some ⟨g, 0, none⟩) c.roots (put (fun i => S'.now (c.root i)) j v) := .inr ⟨g, 0, rfl, hA14.lt, fun i hi => by
          rw [Nat.zero_add]
          refine hA14.cell i ?_
          rw [Array.getElem?_setIfInBounds]
          have hjs : j < cur.size := by
            rcases Nat.lt_or_ge j cur.size with h | h
            · exact h
            · have := hcur j hjr; rw [Array.getElem?_eq_none h] at this; cases this
          by_cases hij : j = i
          · subst hij; rw [if_pos rfl, if_pos hjs, put_on]
          · rw [if_neg hij, put_off _ _ (fun e => hij e.symm)]; exact hcur i hi⟩
        have HWR := hid (rwrite_at (cnt_storer p a S' (bb + 1)) 0 0 w14 ⟨hD14, by simpa using hN14, Nat.le_refl _, HND.out⟩ c HO.out HN.out 0 0 (by omega) (by omega) (some ⟨g, 0, none⟩) cp9 (put (fun i => S'.now (c.root i)) j v) (by omega) hrd
          (fun b off e => by injection e with e; injection e with e1 e2; subst e1; exact ⟨fun h => by simp at h; omega, hA14.lt⟩)
          (fun b hb => by simp at hb; subst hb; exact hN14.lt))
        clear c0 c1 c2 d0 d1 d2 m0 r0 r1 hC13 hB13 hN13 K13 hD13 k14 hrd hcur hAg hgd n1 n2
        have c0 := hC14.cell 0 rfl
        have c1 := hC14.cell 1 rfl
        have c2 := hC14.cell 2 rfl
        have d0 := hB14.cell 0 rfl
        have d1 := hB14.cell 1 rfl
        have d2 := hB14.cell 2 rfl
        go_wp2_with fail
        refine HWR.out.mono ?_
        rintro e w15 (⟨code, k5, rfl, hwr, hJ15, hk15, _⟩ | ⟨_, hg⟩)
        case inr => exact absurd hg wrG_zero
        obtain ⟨rfl, hk5⟩ := wr_cnt S' hwr
        have hk6 : k5 = if v = t then 0 else 1 := by
          rw [hk5, Nat.zero_add, HT.out]
          refine (unl_blk (j := j) (f := fun i => S'.now (c.root i)) (k := ((0 : Nat) : Int)) (u := ((0 : Nat) : Int)) HBr.out.1 HBr.out.2.1 (fun i _ => rfl) (fun i hi => put_off (fun i => S'.now (c.root i)) v hi) hjr).trans ?_
          rw [put_on]
        obtain ⟨hD15, hN15, _, _⟩ := hJ15
        have hC15 := hk15.at hC14 (by simp; have := HSZ.out; omega)
        have K15 : Keeps [] W w15 := K14.new hk15 (by simp; have := HSZ.out; have := Kr0.out; omega)
        have HLD := hid (fun (w' : World) (hk : Keeps [] w15 w') => load_eq w' p a S' (c.root j) t (hD15.keep hk (by simp) (by simp) (by simp) (by simp)) (by have := HIN.out; unfold Cfg.root; omega) HT.out.symm)
        clear hk5 hwr HWR c0 c1 c2 d0 d1 d2 hC14 hB14 hN14 K14 hk15 hD14 hA14 hgc
        have c0 := hC15.cell 0 rfl
        have c1 := hC15.cell 1 rfl
        have c2 := hC15.cell 2 rfl
        by_cases hvt : v = t
        · rw [if_pos hvt] at hk6
          subst hk6
          have m0 : w15.cell? ⟨bb + 1, 0, none⟩ = some (.int .i64 0) := hN15.cell 0 rfl
          have t1 : (v == t) = true := by rw [beq_iff_eq]; exact hvt
          have t2 : (v != t) = false := by rw [bne, t1]; rfl
          clear hvt
          go_wp2_with fail
          refine (root_at _ c HO.out.small j (by omega)).mono ?_
          rintro e w16 ⟨rfl, hk16⟩
          go_wp2_with fail
          refine (HLD.out _ hk16).mono ?_
          rintro e w17 ⟨rfl, rfl⟩
          go_wp2_with fail
          go_ret
          exact ⟨rfl, (K15.trans hk16).below (Nat.le_refl _) (by simp)⟩
        · rw [if_neg hvt] at hk6
          subst hk6
          have m0 : w15.cell? ⟨bb + 1, 0, none⟩ = some (.int .i64 1) := hN15.cell 0 rfl
          have t1 : (v == t) = false := by rw [beq_eq_false_iff_ne]; exact hvt
          have t2 : (v != t) = true := by rw [bne, t1]; rfl
          clear hvt
          go_wp2_with fail
          refine (root_at _ c HO.out.small j (by omega)).mono ?_
          rintro e w16 ⟨rfl, hk16⟩
          go_wp2_with fail
          refine (HLD.out _ hk16).mono ?_
          rintro e w17 ⟨rfl, rfl⟩
          go_wp2_with fail
          go_ret
          exact ⟨rfl, (K15.trans hk16).below (Nat.le_refl _) (by simp)⟩

theorem rootsSame_walk (l r s : Int) (x : Option Addr) (n cp : Nat) (f : Nat → Int) (kk v : Int) (W : World) (wl : (Lit.int .u16 l).wf = true) (wr : (Lit.int .u16 r).wf = true) (ws : (Lit.int .u16 s).wf = true) (R1 : ReadsV (Value.int .u64) W x n f) (_ : ∀ i, i < n → (Lit.int .u64 (f i)).wf = true) (hn : n ≤ maxLen) (wa : (Lit.int .u8 kk).wf = true) (_ : (Lit.int .u64 v).wf = true) :
    Calls Tryz.prog 8 #[.agg #[.int .u16 l, .int .u16 r, .int .u16 s], .slice x n cp, .int .u8 kk, .int .u64 v] W fun e w' => e = .returned (.bool true) ∧ Below W.heap.size W w' := by
  obtain ⟨l, rfl, hl⟩ := c3_open wl
  obtain ⟨r, rfl, hr⟩ := c3_open wr
  obtain ⟨s, rfl, hs⟩ := c3_open ws
  have ha := bounds_u8 wa
  obtain ⟨kk, rfl⟩ : ∃ n : Nat, (n : Int) = kk := ⟨kk.toNat, by omega⟩
  exact same_small l r s kk v x n cp f W hl hr hs (by omega) R1 (by unfold maxLen at hn; omega)

end Go.Proofs.YtkoflpcpopmkkaaGreat
