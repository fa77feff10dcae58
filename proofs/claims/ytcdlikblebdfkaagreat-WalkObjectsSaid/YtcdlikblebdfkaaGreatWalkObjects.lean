/- The walk of the law WalkObjects. -/
import Derived.Test.YtcdlikblebdfkaaGreatAwk11
import Derived.BigQuiet
import Derived.Test.YtcdlikblebdfkaaGreatRnd
import Derived.Deep.RegionHeld3
import Derived.Deep.DeepCutAuto
import Derived.Deep.CutBlock
namespace Go.Proofs.YtcdlikblebdfkaaGreat
open Go.RowKit Go.OpenShut

/-- Whatever stands in the words that are used: a row of objects, as far as it goes. -/
theorem chn_ex (S : DS) (c : Cfg) (k u : Nat) (hu : u ≤ c.space) (hw : ∀ j, j < u → ∃ x : Nat, S.now (c.frm k + j) = (x : Int) ∧ x < 18446744073709551616) : ∃ l er, Chn S c k u l er := by
  have key : ∀ n p, p + n = u → ∃ (l : List (Nat × Nat)) (er : Bool), (∀ i x, l[i]? = some x → x.1 ≤ 64 ∧ x.2 ≤ x.1 ∧ S.now (c.frm k + (p + posL l i)) = ((hdPk x.1 x.2 : Nat) : Int)) ∧ (er = false → p + lenL l = u) ∧
      (er = true → p + lenL l < u ∧ ∃ x : Nat, S.now (c.frm k + (p + lenL l)) = (x : Int) ∧ x < 18446744073709551616 ∧ ¬ (isHd x = true ∧ p + lenL l + (hdN x + 1) ≤ u)) := by
    intro n
    induction n using Nat.strongRecOn with
    | _ n ih =>
      intro p hp
      have hnil : lenL [] = 0 := rfl
      by_cases hn : n = 0
      · exact ⟨[], false, fun i x h => by simp at h, fun _ => by omega, (fun h => Bool.noConfusion h)⟩
      · obtain ⟨x, hx, hxb⟩ := hw p (by omega)
        by_cases hh : isHd x = true ∧ p + (hdN x + 1) ≤ u
        · obtain ⟨h1, h2, h3⟩ := isHd_pk hh.1
          obtain ⟨l, er, g1, g2, g3⟩ := ih (n - (hdN x + 1)) (by omega) (p + (hdN x + 1)) (by omega)
          have hlc : lenL ((hdN x, hdR x) :: l) = hdN x + 1 + lenL l := lenL_cons _ _
          refine ⟨(hdN x, hdR x) :: l, er, fun i y hy => ?_, fun he => ?_, fun he => ?_⟩
          · cases i with
            | zero =>
              have hy : (hdN x, hdR x) = y := by simpa using hy
              subst hy
              refine ⟨h2, h3, ?_⟩
              rw [posL_zero, Nat.add_zero, hx, ← h1]
            | succ i =>
              have hy : l[i]? = some y := by simpa using hy
              obtain ⟨e1, e2, e3⟩ := g1 i y hy
              refine ⟨e1, e2, ?_⟩
              rw [posL_cons, show p + ((hdN x, hdR x).1 + 1 + posL l i) = p + (hdN x + 1) + posL l i by show p + (hdN x + 1 + posL l i) = _; omega]
              exact e3
          · have := g2 he; omega
          · obtain ⟨e1, y, e2, e3, e4⟩ := g3 he
            rw [hlc, show p + (hdN x + 1 + lenL l) = p + (hdN x + 1) + lenL l by omega]
            exact ⟨e1, y, e2, e3, e4⟩
        · exact ⟨[], true, fun i x h => by simp at h, (fun h => Bool.noConfusion h), fun _ => ⟨by omega, x, by rw [hnil]; exact hx, hxb, by rw [hnil]; exact hh⟩⟩
  obtain ⟨l, er, h1, h2, h3⟩ := key u 0 (by omega)
  refine ⟨l, er, hu, fun i x hx => ?_, fun he => ?_, fun he => ?_⟩
  · have := h1 i x hx; rwa [Nat.zero_add] at this
  · have := h2 he; omega
  · have := h3 he; rwa [Nat.zero_add] at this

theorem len_le (l : List (Nat × Nat)) : l.length ≤ lenL l := by
  induction l with
  | nil => simp
  | cons x l ih => rw [lenL_cons, List.length_cons]; omega

theorem cellF_nat {os : List (Nat × Nat)} (h : ∀ x ∈ os, x.1 ≤ 8 ∧ x.2 ≤ x.1) (i : Nat) : ∃ x : Nat, cellF os i = (x : Int) ∧ x < 18446744073709551616 := by
  unfold cellF
  cases hg : (cellsL os)[i]? with
  | none => exact ⟨0, rfl, by decide⟩
  | some z =>
    have hm := List.mem_of_getElem? hg
    unfold cellsL at hm
    obtain ⟨x, hx, hz⟩ := List.mem_flatMap.1 hm
    have h1 := h x hx
    rcases List.mem_cons.1 hz with rfl | hz
    · exact ⟨hdPk x.1 x.2, rfl, hdPk_lt (by omega) h1.2⟩
    · obtain rfl := (List.mem_replicate.1 hz).2
      exact ⟨0, rfl, by decide⟩

theorem appJ_list {ops : Array Oper} {rest : List Oper} {o : Oper} {a : Act} {w : World} {Q : Exit → Act → World → Prop} (hgd : o.guard = none) (s x : Operand)
    (ho : o.op = .call { callee := .builtin .append, args := #[s, x], argTypes := #[34, 34] })
    (B : Nat) (xx : Option Addr) (cp n : Nat) (f : Nat → Nat) (hs : a.eval s = .slice xx n cp) (hown : OwnI w B xx cp n f) (b c i : Nat) (hx : a.eval x = .slice (some ⟨b, 0, none⟩) 1 c) (hc : w.cell? ⟨b, 0, none⟩ = some (.int .i64 (i : Nat)))
    (hn : n ≤ 100000) (hB : B ≤ w.heap.size)
    (h : ∀ g cap w', OwnI w' B (some ⟨g, 0, none⟩) cap (n + 1) (put f n i) → Keeps (blkL xx) w w' → (blkL xx = [g] ∨ w.heap.size ≤ g) → wpList Tryz.prog ops Q rest (a.put o.dst (.slice (some ⟨g, 0, none⟩) (n + 1) cap)) w') :
    wpList Tryz.prog ops Q (o :: rest) a w := by
  have hi : ∃ i, Tryz.prog.info? 3 = some i ∧ (i.zero, i.size, i.bytes) = (some (.int .i64 0), 1, 8) := by
    have h : (Tryz.prog.info? 3).map (fun i => (i.zero, i.size, i.bytes)) = some (some (.int .i64 0), 1, 8) := by kernel_rfl
    exact Option.map_eq_some_iff.1 h
  obtain ⟨ti, hi1, hi2⟩ := hi
  simp only [Prod.mk.injEq] at hi2
  obtain ⟨hz, hsz, hby⟩ := hi2
  refine wpList_append_own_at w hgd s x 34 ho B 3 ti (.int .i64 0) 1 8 Tryz.underlying34 hi1 hz hsz hby rfl (by omega) _ n _ hs hown ⟨b, 0, none⟩ 1 c [.int .i64 (i : Nat)] hx rfl (fun j u hj => ?_) (by simp [Value.oneCell']) (by unfold maxLen; omega) (by omega) hB ?_
  · cases j with
    | zero => simp at hj; subst hj; exact hc
    | succ j => simp at hj
  · intro v' w' h1 h2 h3 h4
    have hne : v' ≠ .slice none 0 0 := fun e => by have := (h3.1 e).2; omega
    have h1' := h1
    obtain ⟨_, ⟨rfl, _⟩ | ⟨g, cap, cur, rfl, hB', hg, h5⟩⟩ := h1'
    · exact absurd rfl hne
    · rw [range_put_i] at h1
      refine h g cap w' h1 (grown_keeps h2) ?_
      rcases h4 with h4 | h4
      · left
        cases xx with
        | none => simp [Value.ownBlock] at h4
        | some a => simp [Value.ownBlock] at h4; simp [blkL]; exact h4.symm
      · right
        simp [Value.ownBlock] at h4; omega


/-- The code of the first error, or none. -/
def cdE (er : Bool) : Int := if er = true then 8 else 0

/-- Between two objects that are looked at. -/
def LoopP (wb B ff : Nat) (lc : List (Nat × Nat)) (w7 : World) (i : Nat) (w : World) : Prop :=
  ∃ xw cw, At w wb (.cells #[.slice xw i cw] 34) ∧ OwnI w B xw cw i (fun j => ff + posL lc j) ∧ Keeps [wb] w7 w

/-- Behind the word that may be turned. -/
def TurnP (p : Nat) (a : DA) (c : Cfg) (st : Nat) (S : DS) (w4 w : World) : Prop :=
  ∃ u2 S2, Pw w p a (-1) u2 S2 ∧ (∀ j, j < c.space → ∃ x : Nat, S2.now (c.frm 0 + j) = (x : Int) ∧ x < 18446744073709551616) ∧ (st % 3 = 0 → S2 = S) ∧ Keeps [p, a.s, a.k, a.m] w4 w

/-- A word that may be a head's. -/
theorem head_or (n r : Nat) (hn : n ≤ 100) (hr : r ≤ 64) : bits .or .u64 (bits .or .u64 12754194144713244672 ((r : Int) * 4294967296)) (n : Int) = (hdPk n r : Nat) := by
  have e1 : ((r : Int) * 4294967296) = ((r * 4294967296 : Nat) : Int) := by omega
  have j1 : 12754194144713244672 ||| r * 4294967296 = 12754194144713244672 + r * 4294967296 := nat_join 56 _ _ (by decide) (by omega)
  have j2 : (12754194144713244672 + r * 4294967296) ||| n = 12754194144713244672 + r * 4294967296 + n := nat_join 32 _ _ (by omega) (by omega)
  rw [e1, show (12754194144713244672 : Int) = ((12754194144713244672 : Nat) : Int) from rfl, u64_or_nat _ _ (by omega) (by omega), j1, u64_or_nat _ _ (by omega) (by omega), j2]
  rfl

set_option maxRecDepth 100000 in
set_option maxHeartbeats 4000000 in
theorem objects_small (l r s : Nat) (y0 : Option Addr) (m cm : Nat) (R V : Nat → Nat) (ap v : Nat) (heads : Bool) (st : Nat) (W : World) (hl : l ≤ 65535) (hrr : r ≤ 65535) (hs : s ≤ 65535)
    (hy : ReadsH W y0 m R V) (hm : m ≤ 9223372036854775807) (hap : ap ≤ 65535) (hv : v < 18446744073709551616) (hst : st ≤ 255) :
    Calls Tryz.prog 3 #[c3V l r s, .slice y0 m cm, .int .u16 ap, .int .u64 v, .bool heads, .int .u8 st] W fun e w' => e = .returned (.bool true) ∧ Below W.heap.size W w' := by
  have hmi : (m : Int) ≤ 9223372036854775807 := by omega
  have hapi : (ap : Int) ≤ 65535 := by omega
  have hsti : (st : Int) ≤ 255 := by omega
  have HV := hid hv
  clear hv
  have HY := hid hy
  clear hy
  refine callsAt_marks Tryz.func3 rfl (.of_wp ?_)
  simp only [Tryz.ntmps3, List.size_toArray, List.length_cons, List.length_nil, Nat.reduceAdd, Nat.reduceSub, Array.replicate_succ, Array.replicate_zero, List.push_toArray, List.append_toArray, List.nil_append, List.cons_append]
  go_wp2_with fail
  have h_xb := (At.new W (c3O l r s)).alloc (.cells #[.bool false] 4)
  have h_rb := At.new (W.alloc (c3O l r s)) (.cells #[.bool false] 4)
  have K0 := (((Keeps.refl [] W).alloc (c3O l r s)).alloc (.cells #[.bool false] 4))
  simp only [World.size_alloc] at h_rb
  obtain ⟨xb, hq_xb⟩ : ∃ q, q = W.heap.size := ⟨_, rfl⟩
  obtain ⟨rb, hq_rb⟩ : ∃ q, q = W.heap.size + 1 := ⟨_, rfl⟩
  rw [← hq_rb, ← hq_xb]
  rw [← hq_xb] at h_xb
  rw [← hq_rb] at h_rb
  have HQ : Hid (xb = W.heap.size ∧ rb = W.heap.size + 1) := ⟨by omega, by omega⟩
  refine (awake11_any _).mono ?_
  rintro e w1 ⟨rfl, hb1⟩
  have k1 := Go.Proofs.YtcdlikblebdfkaaGreat.Below.keeps hb1 []
  have K1 := K0.trans k1
  have g_xb := k1.at h_xb (by simp)
  have g_rb := k1.at h_rb (by simp)
  clear hb1 k1 K0 h_xb h_rb hq_xb hq_rb
  have c0 : w1.cell? ⟨xb, 0, none⟩ = some (.int .u16 l) := g_xb.cell 0 rfl
  have c1 : w1.cell? ⟨xb, 1, none⟩ = some (.int .u16 r) := g_xb.cell 1 rfl
  have c2 : w1.cell? ⟨xb, 2, none⟩ = some (.int .u16 s) := g_xb.cell 2 rfl
  have rf0 := g_rb.free 0
  have rc0 := g_rb.cell 0 rfl
  by_cases hm30 : m ≤ 30
  case neg =>
    have hm2 : (30 : Int) < (m : Int) := by omega
    go_wp2_with fail
    have hRF := g_rb.set 0 (.bool true)
    have y0 := hRF.cell 0 rfl
    refine ⟨.bool true, ?_, rfl, ?_⟩
    · simp [results, Tryz.results3, go_sem, y0]
    · exact (K1.set (.inr (by have := HQ.out; show W.heap.size ≤ rb; omega)) _).below (Nat.le_refl _) (by simp)
  have hm2 : (m : Int) ≤ 30 := by omega
  clear hmi
  have hok := mk3_ok l r s
  obtain ⟨c, hc⟩ : ∃ c, c = mk3 l r s := ⟨_, rfl⟩
  rw [← hc] at hok
  have HFI := hid (filled_at w1 l r s hl hrr hs y0 m cm R V (HY.out.keep K1 (by simp)) (by omega) c hc)
  clear hc
  go_wp2_with fail
  refine HFI.out.mono ?_
  obtain ⟨os, hos⟩ : ∃ os, os = fillL c.space (hdsL R V m) := ⟨_, rfl⟩
  rw [← hos]
  rintro e w3 ⟨p, a, u, S, x, cp, y, cy, B, rfl, hn, hP, hub, hF, hU, hI, ⟨b1, b2, b3, b4, b5⟩, hB, hk3⟩
  have K3 := K1.trans hk3
  have f_rb := hk3.at g_rb (by simp)
  have HWB : Hid (∀ b ∈ [p, a.s, a.k, a.m], rb < b ∧ b < w3.heap.size) := fun b h => by
    have hz := g_rb.lt
    have h1 := hP.pow.lt
    have h2 := hP.dev.now.lt
    have h3 := hP.dev.kept.lt
    have h4 := hP.dev.map.lt
    simp only [List.mem_cons, List.not_mem_nil, or_false] at h
    omega
  have HWD : Hid (rb < a.d ∧ a.d < w3.heap.size) := ⟨by have hz := g_rb.lt; omega, hP.dev.dev.lt⟩
  have HO := hid hok
  have HN := hid hn
  obtain ⟨L, hL⟩ : ∃ L, L = os.length := ⟨_, rfl⟩
  have hLm : L ≤ m := by rw [hL, hos]; exact fillL_len _ _ _ _
  have hLi : (L : Int) ≤ 30 := by omega
  have HL := hid hL
  rw [← hL] at hI ⊢
  obtain ⟨us, hus⟩ : ∃ us, us = lenL os := ⟨_, rfl⟩
  have HUS := hid hus
  rw [← hus]
  have husb : us ≤ c.space := by rw [hus]; exact hF.fits
  have hsp : c.space ≤ 4096 := hok.small.2.2
  have husi : (us : Int) ≤ 4096 := by omega
  have hfs : c.frm 0 + c.space ≤ a.n := by rw [← hn]; exact frm_space 0 (by omega)
  have hch := hF.chain hfs
  rw [← hus] at hch
  have HCH := hid hch
  have HF := hid hF
  have HFS := hid (And.intro hfs (And.intro husb hsp))
  have HP := hid hP
  have HUB := hid hub
  have HIY := hid hI
  have HK3 := hid K3
  have HBB : Hid (∀ b ∈ blkL y, b ∉ [p, a.s, a.k, a.m]) := fun b hb h => by
    have h1 := (hI.ge b hb).1
    simp at h
    omega
  clear hm30 hos hL hLm hus husb hsp hfs hch hF hP hub hI hU hB b1 b2 b3 b4 b5 hk3 K1 c0 c1 c2 rf0 rc0 HFI hok hn K3 g_xb g_rb
  have hos2 : ∀ j, j < c.space → ∃ x : Nat, S.now (c.frm 0 + j) = (x : Int) ∧ x < 18446744073709551616 := fun j hj => by
    obtain ⟨x, h1, h2⟩ := cellF_nat HF.out.head j
    exact ⟨x, by rw [HF.out.word j (by have := HFS.out; omega), h1], h2⟩
  have HOS := hid hos2
  clear hos2
  go_upto_if 49 with fail
  go_cut [3] from 50 to 57 (fun s3 wx => ∃ v' : Nat, v' < 18446744073709551616 ∧ s3 = .int .u64 v' ∧ wx = ((w3.alloc (.cells #[ptr a.d] 28)).alloc (cfgO c)).alloc (bkO 0 (us : Nat) (.slice x c.roots cp)))
  case first =>
    cases heads with
    | false =>
      go_wp2_with fail
      go_meet
      exact ⟨v, HV.out, rfl, rfl⟩
    | true =>
      go_wp2_with fail
      go_meet
      refine ⟨hdPk (v / 256 % 70) (v % 3), by unfold hdPk; omega, ?_, rfl⟩
      rw [← head_or (v / 256 % 70) (v % 3) (by omega) (by omega)]
      simp
  case rest =>
  obtain ⟨x1, hx1, rfl, hwc⟩ := hcut
  subst hwc
  have hD4 := ((At.new w3 (.cells #[ptr a.d] 28)).alloc (cfgO c)).alloc (bkO 0 (us : Nat) (.slice x c.roots cp))
  have hC4 := (At.new (w3.alloc (.cells #[ptr a.d] 28)) (cfgO c)).alloc (bkO 0 (us : Nat) (.slice x c.roots cp))
  have hB4 := At.new ((w3.alloc (.cells #[ptr a.d] 28)).alloc (cfgO c)) (bkO 0 (us : Nat) (.slice x c.roots cp))
  have k34 := (((Keeps.refl [] w3).alloc (.cells #[ptr a.d] 28)).alloc (cfgO c)).alloc (bkO 0 (us : Nat) (.slice x c.roots cp))
  simp only [World.size_alloc] at hC4 hB4
  obtain ⟨eb, heb⟩ : ∃ q, q = w3.heap.size := ⟨_, rfl⟩
  obtain ⟨cb, hcb⟩ : ∃ q, q = w3.heap.size + 1 := ⟨_, rfl⟩
  obtain ⟨bb, hbb⟩ : ∃ q, q = w3.heap.size + 1 + 1 := ⟨_, rfl⟩
  obtain ⟨w4, hw4⟩ : ∃ w4, w4 = ((w3.alloc (.cells #[ptr a.d] 28)).alloc (cfgO c)).alloc (bkO 0 (us : Nat) (.slice x c.roots cp)) := ⟨_, rfl⟩
  have hz4 : w4.heap.size = w3.heap.size + 3 := by rw [hw4]; simp
  rw [← hw4] at hD4 hC4 hB4 k34
  first | rw [← hw4] | skip
  rw [← hbb, ← hcb, ← heb]
  rw [← heb] at hD4
  rw [← hcb] at hC4
  rw [← hbb] at hB4
  have HZ4 : Hid (eb = w3.heap.size ∧ cb = eb + 1 ∧ bb = eb + 2 ∧ w4.heap.size = eb + 3) := ⟨by omega, by omega, by omega, by omega⟩
  have hR4 := k34.at f_rb (by simp)
  have hP4 := HP.out.keep0 k34
  have HD4 := hid hD4
  have HC4 := hid hC4
  have HB4 := hid hB4
  have HR4 := hid hR4
  have HP4 := hid hP4
  have HI4 := hid (HIY.out.keep k34 (by simp))
  have HK4 := hid (HK3.out.trans k34)
  have HX1 := hid hx1
  obtain ⟨ff, hff⟩ : ∃ ff, ff = c.frm 0 := ⟨_, rfl⟩
  have HFF := hid hff
  have hffi : (ff : Int) ≤ 15000 := by rw [hff]; have := frm_le HO.out.small (show 0 ≤ 2 by omega); omega
  have hspi : (c.space : Int) ≤ 4096 := by have := HFS.out; omega
  have hsp0 : 0 < c.space := Nat.lt_of_lt_of_le (by decide) HO.out.2.2.2.2.1
  clear hw4 hz4 heb hcb hbb f_rb hD4 hC4 hB4 hR4 hP4 k34 hff hx1
  obtain ⟨sm, hsm⟩ : ∃ sm, sm = st % 3 := ⟨_, rfl⟩
  have hs3 : (sm : Int) < 3 := by rw [hsm]; omega
  have s1 : (st : Int) % 3 = (sm : Int) := by rw [hsm]; exact (Int.natCast_emod st 3).symm
  have s2 : (st : Int).tmod 3 = (sm : Int) := by rw [Int.tmod_eq_emod_of_nonneg (by omega)]; exact s1
  have s3 : IntKind.u8.wrap (sm : Int) = (sm : Int) := IntWalk.u8_in _ (by omega)
  have HSM := hid hsm
  have HFR := hid (fun (w' : World) => from_at w' c HO.out.small 0 (by omega))
  rw [← HFF.out] at HFR
  have HLW : Hid (∀ b ∈ [p, a.s, a.k, a.m], b < eb) := fun b hb => by have := HWB.out b hb; have := HZ4.out; omega
  have HCT : Hid (∀ w', Keeps [p, a.s, a.k, a.m] w4 w' → (w'.cell? ⟨eb, 0, none⟩ = some (ptr a.d) ∧ w'.cell? ⟨cb, 0, none⟩ = some (.int .i64 c.log) ∧ w'.cell? ⟨cb, 1, none⟩ = some (.int .i64 c.roots) ∧ w'.cell? ⟨cb, 2, none⟩ = some (.int .i64 c.space) ∧ w'.cell? ⟨bb, 0, none⟩ = some (.int .i64 0) ∧ w'.cell? ⟨bb, 1, none⟩ = some (.int .i64 (us : Nat)) ∧ w'.cell? ⟨bb, 2, none⟩ = some (.slice x c.roots cp))) := fun w' hk => by
    have hz := HZ4.out
    have x1 := hk.at HD4.out (fun h => by have := HLW.out _ h; omega)
    have x2 := hk.at HC4.out (fun h => by have := HLW.out _ h; omega)
    have x3 := hk.at HB4.out (fun h => by have := HLW.out _ h; omega)
    exact ⟨x1.cell 0 rfl, x2.cell 0 rfl, x2.cell 1 rfl, x2.cell 2 rfl, x3.cell 0 rfl, x3.cell 1 rfl, x3.cell 2 rfl⟩
  clear hsm
  obtain ⟨bt, hbt⟩ : ∃ bt, bt = decide (0 < sm) := ⟨_, rfl⟩
  have hb1 : decide (0 < sm) = bt := hbt.symm
  have hb2 : decide ((0 : Int) < (sm : Int)) = bt := by rw [hbt, decide_eq_decide]; omega
  clear hbt
  go_upto_if 60 with fail
  go_cut [] from 61 to 71 (fun wx => TurnP p a c st S w4 wx)
  case first =>
    cases bt with
    | false =>
      go_wp2_with fail
      go_meet
      exact ⟨u, S, HP4.out, HOS.out, fun _ => rfl, Keeps.refl _ _⟩
    | true =>
      have hs0 : sm ≠ 0 := by have := of_decide_eq_true hb1; omega
      obtain ⟨q, hq⟩ : ∃ q, q = ap % c.space := ⟨_, rfl⟩
      have hqs : q < c.space := by rw [hq]; exact Nat.mod_lt _ hsp0
      have e1 : (ap : Int).tmod (c.space : Int) = (q : Int) := by rw [hq]; exact (Int.ofNat_tmod ap c.space).symm
      have e2 : (ap : Int) % (c.space : Int) = (q : Int) := by rw [hq]; exact (Int.natCast_emod ap c.space).symm
      have e3 : IntKind.i64.wrap (q : Int) = (q : Int) := IntWalk.i64_in _ (by omega)
      have e4 : IntKind.i64.wrap ((ff : Int) + (q : Int)) = (ff : Int) + (q : Int) := IntWalk.i64_in _ (by omega)
      have e5 : IntKind.i64.wrap ((ap : Int).tmod (c.space : Int)) = (q : Int) := by rw [e1]; exact e3
      have e6 : ¬ (c.space : Int) = 0 := by omega
      have e7 : ¬ c.space = 0 := by omega
      have e8 : IntKind.i64.wrap (ap : Int) = (ap : Int) := IntWalk.i64_in _ (by omega)
      have HQS := hid hqs
      have HST := hid (fun (w' : World) (hk : Keeps [] w4 w') (zz : Int) (hz : 0 ≤ zz ∧ zz < a.n) => store_free w' p a u S (HP4.out.keep0 hk) (by have := HUB.out; omega) zz x1 hz)
      clear hq hqs
      go_upto_region 11 with fail
      have kk : Keeps [] w4 w4.drew := (Keeps.refl _ _).drew
      go_region_held3 (fun w' => w'.cell? ⟨eb, 0, none⟩ = some (ptr a.d) ∧ w'.cell? ⟨cb, 0, none⟩ = some (.int .i64 c.log) ∧ w'.cell? ⟨cb, 1, none⟩ = some (.int .i64 c.roots) ∧ w'.cell? ⟨cb, 2, none⟩ = some (.int .i64 c.space))
        (first | exact (fun h => ⟨h.1, h.2.1, h.2.2.1, h.2.2.2.1⟩) (HCT.out _ ((kk.mono (by simp)).trans hx9.out.2)) | exact (fun h => ⟨h.1, h.2.1, h.2.2.1, h.2.2.2.1⟩) (HCT.out _ (kk.mono (by simp))))
        (first
          | (go_at_call 10; refine (HFR.out _).mono ?_; rintro e w' ⟨rfl, hk9⟩; have kk := kk.trans hk9; clear hk9)
          | (go_at_call 9; refine (HST.out _ kk _ (by have := HFS.out; have := HQS.out; have := HFF.out; omega)).mono ?_; rintro e w' ⟨rfl, hx9⟩))
      all_goals
        rename_i hHd
        clear hHd
        go_wp2_with fail
        go_meet
        obtain ⟨hP9, hk9⟩ := hx9.out
        refine ⟨_, _, hP9, fun j hj => ?_, fun h => ?_, (kk.mono (by simp)).trans hk9⟩
        · obtain ⟨x', g1, g2⟩ := HOS.out j hj
          show ∃ x : Nat, (if c.frm 0 + j = ((ff : Int) + (q : Int)).toNat then (x1 : Int) else S.now (c.frm 0 + j)) = (x : Int) ∧ _
          by_cases he : c.frm 0 + j = ((ff : Int) + (q : Int)).toNat
          · rw [if_pos he]; exact ⟨x1, rfl, HX1.out⟩
          · rw [if_neg he]; exact ⟨x', g1, g2⟩
        · exact absurd (HSM.out.trans h) hs0
  case rest =>
  obtain ⟨u2, S2, hP5, hW5, hS5, hk5⟩ := hcut
  obtain ⟨lc, er, hch, hst0⟩ : ∃ lc er, Chn S2 c 0 us lc er ∧ (st % 3 = 0 → lc = os ∧ er = false) := by
    by_cases h : st % 3 = 0
    · rw [hS5 h]; exact ⟨os, false, HCH.out, fun _ => ⟨rfl, rfl⟩⟩
    · obtain ⟨l, er, h1⟩ := chn_ex S2 c 0 us HFS.out.2.1 (fun j hj => hW5 j (by have := HFS.out; omega))
      exact ⟨l, er, h1, fun h' => absurd h' h⟩
  have HST0 := hid hst0
  obtain ⟨w5, hw5⟩ : ∃ w, w = wc := ⟨_, rfl⟩
  subst hw5
  have hA6 := At.new w5 (.cells #[.slice none 0 0] 34)
  have hk6 := hk5.alloc (.cells #[.slice none 0 0] 34)
  have hP6 := hP5.keep0 ((Keeps.refl [] w5).alloc (.cells #[.slice none 0 0] 34))
  obtain ⟨d0, c0, c1, c2, b0, b1, b2⟩ := HCT.out _ hk6
  have HHC := hid hch
  have hz50 : w4.heap.size ≤ w5.heap.size := hk5.size
  clear hst0 hS5 hW5 hk5 hP5 hch s1 s2 s3 hb1 hb2
  go_wp2_with fail
  obtain ⟨wb, hwb⟩ : ∃ q, q = w5.heap.size := ⟨_, rfl⟩
  obtain ⟨w6, hw6⟩ : ∃ w, w = w5.alloc (.cells #[.slice none 0 0] 34) := ⟨_, rfl⟩
  have hz6 : w6.heap.size = wb + 1 := by rw [hw6, hwb]; simp
  rw [← hw6] at hA6 hk6 hP6
  rw [← hwb] at hA6
  first | rw [← hw6] | skip
  first | rw [← hwb] | skip
  have hz5 : w4.heap.size ≤ wb := by rw [hwb]; exact hz50
  clear hw6 hwb hz50 d0 c0 c1 c2 b0 b1 b2
  refine (HFR.out w6).mono ?_
  rintro e w7 ⟨rfl, k67⟩
  have hA7 := k67.at hA6 (by simp)
  have HK7 := hid (hk6.trans (k67.mono (by simp)))
  have HP7 := hid (hP6.keep0 k67)
  have HDL : Hid (a.d < eb) := by have := HWD.out; have := HZ4.out; show _ < _; omega
  have HWB6 : Hid (eb + 3 ≤ wb ∧ wb < w7.heap.size) := ⟨by have := HZ4.out; omega, hA7.lt⟩
  have HLP : Hid (LoopP wb w7.heap.size ff lc w7 0 w7) := ⟨none, 0, hA7, ownI_nil _ _ _, Keeps.refl _ _⟩
  have hlcl := len_le lc
  have hlcu := HHC.out.le
  have hlci : (lc.length : Int) ≤ 4096 := by have := HFS.out; omega
  have HLN : Hid (lc.length ≤ 4096 ∧ us ≤ 4096 ∧ lenL lc ≤ us) := ⟨by omega, by have := HFS.out; omega, hlcu⟩
  clear hA6 hk6 hP6 k67 hA7 hz5 hz6 hlcl hlcu
  go_upto_block 0 with fail
  go_cut [18, 19] from 74 to 101 (fun s18 s19 wx => ∃ z' : Int, s19 = .int .i64 z' ∧ s18 = .int .i64 (cdE er) ∧ LoopP wb w7.heap.size ff lc w7 (objM lc er) wx)
  case first =>
    go_wp2_with fail
    go_loopg [18, 19] lc.length (fun rr s18 s19 wx => ∃ i zi : Nat, i + rr = lc.length ∧ s18 = .int .i64 0 ∧ s19 = .int .i64 zi ∧ zi = ff + posL lc i ∧ LoopP wb w7.heap.size ff lc w7 i wx)
    case atStart => exact ⟨0, ff, by omega, rfl, rfl, by rw [posL_zero]; rfl, HLP.out⟩
    case round =>
      obtain ⟨i, zi, hi, rfl, rfl, hzi, xw, cw, hA, hO, hK⟩ := hrel
      have HCW : Hid (∀ w', Keeps [wb] w7 w' → (w'.cell? ⟨eb, 0, none⟩ = some (ptr a.d) ∧ w'.cell? ⟨cb, 0, none⟩ = some (.int .i64 c.log) ∧ w'.cell? ⟨cb, 1, none⟩ = some (.int .i64 c.roots) ∧ w'.cell? ⟨cb, 2, none⟩ = some (.int .i64 c.space) ∧ w'.cell? ⟨bb, 0, none⟩ = some (.int .i64 0) ∧ w'.cell? ⟨bb, 1, none⟩ = some (.int .i64 (us : Nat)) ∧ w'.cell? ⟨bb, 2, none⟩ = some (.slice x c.roots cp))) := fun w' hk => by
        have hz := HZ4.out
        have hb := HWB6.out
        have x1 := hk.at (HK7.out.at HD4.out (fun h => by have := HLW.out _ h; omega)) (by simp; omega)
        have x2 := hk.at (HK7.out.at HC4.out (fun h => by have := HLW.out _ h; omega)) (by simp; omega)
        have x3 := hk.at (HK7.out.at HB4.out (fun h => by have := HLW.out _ h; omega)) (by simp; omega)
        exact ⟨x1.cell 0 rfl, x2.cell 0 rfl, x2.cell 1 rfl, x2.cell 2 rfl, x3.cell 0 rfl, x3.cell 1 rfl, x3.cell 2 rfl⟩
      have HZI := hid hzi
      have HII := hid hi
      have hzb : (zi : Int) ≤ 20000 := by
        have h1 := pos_mono (os := lc) (i := i) (j := lc.length) (by omega) (Nat.le_refl _)
        rw [posL_all] at h1
        have := HLN.out
        omega
      have husb : (us : Int) ≤ 4096 := by have := HLN.out; omega
      have e4 : IntKind.i64.wrap ((ff : Int) + (us : Int)) = (ff : Int) + (us : Int) := IntWalk.i64_in _ (by omega)
      obtain ⟨bt, hbt⟩ : ∃ bt, bt = decide ((zi : Int) < (ff : Int) + (us : Int)) := ⟨_, rfl⟩
      have hb1 : decide ((zi : Int) < (ff : Int) + (us : Int)) = bt := hbt.symm
      have HOI := hid (And.intro hA (And.intro hO hK))
      clear hbt hi hzi hA hO hK
      go_upto_region 15 with fail
      have kk : Keeps [] wr wr.drew := (Keeps.refl _ _).drew
      go_region_held3 (fun w' => w'.cell? ⟨cb, 0, none⟩ = some (.int .i64 c.log) ∧ w'.cell? ⟨cb, 1, none⟩ = some (.int .i64 c.roots) ∧ w'.cell? ⟨cb, 2, none⟩ = some (.int .i64 c.space) ∧ w'.cell? ⟨bb, 1, none⟩ = some (.int .i64 (us : Nat)))
        (exact (fun h => ⟨h.2.1, h.2.2.1, h.2.2.2.1, h.2.2.2.2.2.1⟩) (HCW.out _ (HOI.out.2.2.trans (kk.mono (by simp)))))
        (first
          | (go_at_call 10; refine (HFR.out _).mono ?_; rintro e w' ⟨rfl, hk9⟩; have kk := kk.trans hk9; clear hk9))
      rename_i hHd
      clear hHd
      have HKK := hid kk
      clear kk
      obtain ⟨hA, hO, hK⟩ := HOI.out
      have hA := HKK.out.at hA (by simp)
      have hO := hO.keep HKK.out (by simp)
      have hK := hK.trans (HKK.out.mono (by simp))
      obtain ⟨d0, c0, c1, c2, b0, b1, b2⟩ := HCW.out _ hK
      cases bt with
      | false =>
        have hend : i = lc.length ∧ er = false := by
          have h1 := of_decide_eq_false hb1
          have h2 := HZI.out
          by_cases hil : i < lc.length
          · have := posN_end hil
            have := HHC.out.le
            have := HII.out
            omega
          · have hie : i = lc.length := by have := HII.out; omega
            refine ⟨hie, ?_⟩
            cases er with
            | false => rfl
            | true =>
              have h4 := (HHC.out.bad rfl).1
              rw [hie, posL_all] at h2
              omega
        obtain ⟨rfl, rfl⟩ := hend
        go_wp2_with fail
        go_meet
        exact ⟨_, rfl, rfl, xw, cw, hA, hO, hK⟩
      | true =>
        have hD0 := HP7.out.dev.keep hK (by have := HLW.out a.d; have := HWB6.out; have := HDL.out; simp; omega) (by have := HLW.out a.s (by simp); have := HWB6.out; simp; omega) (by have := HLW.out a.k (by simp); have := HWB6.out; simp; omega) (by have := HLW.out a.m (by simp); have := HWB6.out; simp; omega)
        by_cases hil : i < lc.length
        · have hpe := posN_end hil
          have hps := posN_succ hil
          have hn64 := (HHC.out.head i _ (nL_in hil)).1
          have HOF := hid (fun (w'' : World) (hk : Keeps [] w' w'') => of_chain (hD0.keep hk (by simp) (by simp) (by simp) (by simp)) HO.out HN.out (by omega) HHC.out (.slice x c.roots cp) hil (zi : Nat) (by rw [HZI.out, HFF.out]))
          obtain ⟨nn, hnn⟩ : ∃ nn, nn = nL lc i := ⟨_, rfl⟩
          obtain ⟨rr, hrr⟩ : ∃ rr, rr = rL lc i := ⟨_, rfl⟩
          rw [← hnn, ← hrr] at HOF
          rw [← hnn] at hps
          have hn64 : nn ≤ 64 := by rw [hnn]; exact hn64
          have hnni : (nn : Int) ≤ 64 := by omega
          have HSU : Hid (zi + (nn + 1) = ff + posL lc (i + 1)) := by show _ = _; have := HZI.out; omega
          have HIL := hid hil
          clear hD0 hil hpe hps hn64 hnn hrr hb1
          go_wp2_with fail
          refine (HOF.out w' (Keeps.refl _ _)).mono ?_
          rintro e w8 ⟨rfl, k8⟩
          have hA8 := k8.at hA (by simp)
          have hO8 := hO.keep k8 (by simp)
          have hobw : w8.heap.size ≠ wb ∧ w8.heap.size ∉ blkL xw := ⟨by have := hA8.lt; omega, fun h => by have := (hO8.ge _ h).2; omega⟩
          have hA10 := hA8.alloc (obO (nn : Nat) (rr : Nat) (zi : Nat))
          have hB10 := At.new w8 (obO (nn : Nat) (rr : Nat) (zi : Nat))
          have hO10 := hO8.keep ((Keeps.refl [] w8).alloc (obO (nn : Nat) (rr : Nat) (zi : Nat))) (by simp)
          have K10 := (hK.trans (k8.mono (by simp))).alloc (obO (nn : Nat) (rr : Nat) (zi : Nat))
          clear hA hO hK k8 d0 c0 c1 c2 b0 b1 b2 hA8 hO8
          go_upto_region 17 with fail
          obtain ⟨ob, hob⟩ : ∃ q, q = w8.heap.size := ⟨_, rfl⟩
          obtain ⟨w10, hw10⟩ : ∃ w, w = w8.alloc (obO (nn : Nat) (rr : Nat) (zi : Nat)) := ⟨_, rfl⟩
          rw [← hw10] at hA10 hB10 hO10 K10
          rw [← hob] at hB10 hobw
          first | rw [← hw10] | skip
          first | rw [← hob] | skip
          clear hw10 hob
          have hA11 := hA10.alloc (.cells #[.int .i64 (zi : Nat)] 3)
          have hB11 := hB10.alloc (.cells #[.int .i64 (zi : Nat)] 3)
          have hO11 := hO10.keep ((Keeps.refl [] w10).alloc (.cells #[.int .i64 (zi : Nat)] 3)) (by simp)
          have K11 := K10.alloc (.cells #[.int .i64 (zi : Nat)] 3)
          have hcX : (w10.alloc (.cells #[.int .i64 (zi : Nat)] 3)).cell? ⟨w10.heap.size, 0, none⟩ = some (.int .i64 (zi : Nat)) := (At.new w10 _).cell 0 rfl
          have a10 := hA10.cell 0 rfl
          have hwbx : wb ∉ blkL xw := fun h => by have := (hO10.ge wb h).1; have := HWB6.out; omega
          have hin5 : i ≤ 100000 := by have := HII.out; have := HLN.out; omega
          have hB7 : w7.heap.size ≤ (w10.alloc (.cells #[.int .i64 (zi : Nat)] 3)).heap.size := K11.size
          have HA11 := hid hA11
          have HB11 := hid hB11
          have HO11 := hid hO11
          have HK11 := hid K11
          have HOBW := hid (And.intro hobw.1 (And.intro hobw.2 hwbx))
          clear hA10 hB10 hO10 K10 hA11 hB11 hO11 K11 hwbx hobw
          go_wp2_with (at_builtin; refine appJ_list rfl _ _ rfl w7.heap.size xw cw i _ rfl HO11.out _ _ zi rfl hcX hin5 hB7 ?_; intro g9 cap9 w9 hO9 hk9 hg9; have hA9 := hk9.at HA11.out HOBW.out.2.2; have hB9 := hk9.at HB11.out HOBW.out.2.1; have a9 := hA9.cell 0 rfl; have af9 := hA9.free 0; have HA9 := hid hA9; have hA12 := hA9.set 0 (.slice (some ⟨g9, 0, none⟩) (i + 1) cap9); have hB12 := hB9.set_ne (a := ⟨wb, 0, none⟩) HOBW.out.1 (.slice (some ⟨g9, 0, none⟩) (i + 1) cap9); have q0 := hB12.cell 0 rfl; have q1 := hB12.cell 1 rfl; have q2 := hB12.cell 2 rfl; clear hB9)
          have hO12 := hO9.keep (T := [wb]) ((Keeps.refl [wb] w9).set (p := ⟨wb, 0, none⟩) (.inl (by simp)) (.slice (some ⟨g9, 0, none⟩) (i + 1) cap9)) (fun b hb h => by have h1 := (hO9.ge b hb).1; have h2 := HWB6.out; have h3 := List.mem_singleton.1 h; omega)
          have K12 : Keeps [wb] w7 (w9.setCell ⟨wb, 0, none⟩ (.slice (some ⟨g9, 0, none⟩) (i + 1) cap9)) := (HK11.out.new hk9 (fun b hb => .inr (HO11.out.ge b hb).1)).set (p := ⟨wb, 0, none⟩) (.inl (by simp)) _
          have hO13 := hO12.eq (g := fun j => ff + posL lc j) (fun j hj => by
            by_cases hji : j = i
            · subst hji; rw [put_on]; exact HZI.out
            · rw [put_off _ _ hji])
          have HE := hid (And.intro hA12 (And.intro hO13 K12))
          clear hA12 hB12 hO12 hO13 K12 hO9 hk9 hg9 hA9 hcX a10 hB7
          go_roundg (lc.length - (i + 1))
          case measure => (have := HII.out; have := HIL.out; omega)
          case rel => exact ⟨i + 1, zi + (nn + 1), by have := HII.out; have := HIL.out; omega, rfl, by go_num, HSU.out, _, _, HE.out.1, HE.out.2.1, HE.out.2.2⟩
        · have hie : i = lc.length := by have := HII.out; omega
          have her : er = true := by
            cases er with
            | true => rfl
            | false =>
              have h1 := of_decide_eq_true hb1
              have h2 := HZI.out
              have h3 := HHC.out.done rfl
              rw [hie, posL_all] at h2
              omega
          subst her
          have HOF := hid (fun (w'' : World) (hk : Keeps [] w' w'') => of_chain_bad (hD0.keep hk (by simp) (by simp) (by simp) (by simp)) HO.out HN.out (by omega) HHC.out (.slice x c.roots cp) (zi : Nat) (by have := HZI.out; rw [hie, posL_all] at this; rw [this, HFF.out]))
          have HIE := hid hie
          clear hD0 hil hb1 hie
          go_wp2_with fail
          refine (HOF.out w' (Keeps.refl _ _)).mono ?_
          rintro e w8 ⟨rfl, k8⟩
          have hA8 := k8.at hA (by simp)
          have hO8 := hO.keep k8 (by simp)
          have hobw : w8.heap.size ≠ wb ∧ w8.heap.size ∉ blkL xw := ⟨by have := hA8.lt; omega, fun h => by have := (hO8.ge _ h).2; omega⟩
          have hA10 := hA8.alloc (obO 0 0 0)
          have hB10 := At.new w8 (obO 0 0 0)
          have hO10 := hO8.keep ((Keeps.refl [] w8).alloc (obO 0 0 0)) (by simp)
          have K10 := (hK.trans (k8.mono (by simp))).alloc (obO 0 0 0)
          clear hA hO hK k8 d0 c0 c1 c2 b0 b1 b2 hA8 hO8
          go_upto_region 17 with fail
          obtain ⟨ob, hob⟩ : ∃ q, q = w8.heap.size := ⟨_, rfl⟩
          obtain ⟨w10, hw10⟩ : ∃ w, w = w8.alloc (obO 0 0 0) := ⟨_, rfl⟩
          rw [← hw10] at hA10 hB10 hO10 K10
          rw [← hob] at hB10 hobw
          first | rw [← hw10] | skip
          first | rw [← hob] | skip
          clear hw10 hob
          have hA11 := hA10.alloc (.cells #[.int .i64 (zi : Nat)] 3)
          have hB11 := hB10.alloc (.cells #[.int .i64 (zi : Nat)] 3)
          have hO11 := hO10.keep ((Keeps.refl [] w10).alloc (.cells #[.int .i64 (zi : Nat)] 3)) (by simp)
          have K11 := K10.alloc (.cells #[.int .i64 (zi : Nat)] 3)
          have hcX : (w10.alloc (.cells #[.int .i64 (zi : Nat)] 3)).cell? ⟨w10.heap.size, 0, none⟩ = some (.int .i64 (zi : Nat)) := (At.new w10 _).cell 0 rfl
          have a10 := hA10.cell 0 rfl
          have hwbx : wb ∉ blkL xw := fun h => by have := (hO10.ge wb h).1; have := HWB6.out; omega
          have hin5 : i ≤ 100000 := by have := HII.out; have := HLN.out; omega
          have hB7 : w7.heap.size ≤ (w10.alloc (.cells #[.int .i64 (zi : Nat)] 3)).heap.size := K11.size
          have HA11 := hid hA11
          have HB11 := hid hB11
          have HO11 := hid hO11
          have HK11 := hid K11
          have HOBW := hid (And.intro hobw.1 (And.intro hobw.2 hwbx))
          clear hA10 hB10 hO10 K10 hA11 hB11 hO11 K11 hwbx hobw
          go_wp2_with (at_builtin; refine appJ_list rfl _ _ rfl w7.heap.size xw cw i _ rfl HO11.out _ _ zi rfl hcX hin5 hB7 ?_; intro g9 cap9 w9 hO9 hk9 hg9; have hA9 := hk9.at HA11.out HOBW.out.2.2; have hB9 := hk9.at HB11.out HOBW.out.2.1; have a9 := hA9.cell 0 rfl; have af9 := hA9.free 0; have HA9 := hid hA9; have hA12 := hA9.set 0 (.slice (some ⟨g9, 0, none⟩) (i + 1) cap9); have hB12 := hB9.set_ne (a := ⟨wb, 0, none⟩) HOBW.out.1 (.slice (some ⟨g9, 0, none⟩) (i + 1) cap9); have q0 := hB12.cell 0 rfl; have q1 := hB12.cell 1 rfl; have q2 := hB12.cell 2 rfl; clear hB9)
          have hO12 := hO9.keep (T := [wb]) ((Keeps.refl [wb] w9).set (p := ⟨wb, 0, none⟩) (.inl (by simp)) (.slice (some ⟨g9, 0, none⟩) (i + 1) cap9)) (fun b hb h => by have h1 := (hO9.ge b hb).1; have h2 := HWB6.out; have h3 := List.mem_singleton.1 h; omega)
          have K12 : Keeps [wb] w7 (w9.setCell ⟨wb, 0, none⟩ (.slice (some ⟨g9, 0, none⟩) (i + 1) cap9)) := (HK11.out.new hk9 (fun b hb => .inr (HO11.out.ge b hb).1)).set (p := ⟨wb, 0, none⟩) (.inl (by simp)) _
          have hO13 := hO12.eq (g := fun j => ff + posL lc j) (fun j hj => by
            by_cases hji : j = i
            · subst hji; rw [put_on]; exact HZI.out
            · rw [put_off _ _ hji])
          have HE := hid (And.intro hA12 (And.intro hO13 K12))
          clear hA12 hB12 hO12 hO13 K12 hO9 hk9 hg9 hA9 hcX a10 hB7
          go_meet
          exact ⟨_, rfl, rfl, _, _, by rw [show objM lc true = i + 1 by rw [HIE.out]; rfl]; exact HE.out.1, by rw [show objM lc true = i + 1 by rw [HIE.out]; rfl]; exact HE.out.2.1, HE.out.2.2⟩
  case rest =>
  obtain ⟨z', rfl, rfl, xw, cw, hA, hO, hK⟩ := hcut
  obtain ⟨w11, hw11⟩ : ∃ w, w = wc := ⟨_, rfl⟩
  subst hw11
  obtain ⟨cd, hcd⟩ : ∃ cd, cd = cdE er := ⟨_, rfl⟩
  rw [← hcd]
  have HCD := hid hcd
  have hcdi : 0 ≤ cd ∧ cd ≤ 8 := by rw [hcd]; unfold cdE; cases er <;> decide
  have HCB := hid hcdi
  clear hcd hcdi
  obtain ⟨M, hM⟩ : ∃ M, M = objM lc er := ⟨_, rfl⟩
  have hMl : M = lc.length ∨ M = lc.length + 1 := by
    rw [hM]; unfold objM; cases er
    · exact .inl rfl
    · exact .inr rfl
  have HM := hid (And.intro hM hMl)
  have hMi : (M : Int) ≤ 4097 := by have := HLN.out; omega
  rw [← hM] at hA hO
  have HHA : Hid (wb < w11.heap.size) := hA.lt
  have HHB : Hid (∀ nb, nb = w11.heap.size → ∀ b ∈ blkL xw, w7.heap.size ≤ b ∧ b < nb) := fun nb h b hb => by have := hO.ge b hb; omega
  have hz4 := HZ4.out
  have hwb6 := HWB6.out
  have hT7 : ∀ b, (∀ b' ∈ [p, a.s, a.k, a.m], b ≠ b') → b ∉ [p, a.s, a.k, a.m] := fun b h hb => h b hb rfl
  have hw4 : ∀ {b o}, At w4 b o → b < wb := fun h => by have := h.lt; omega
  have hne : ∀ b, b < wb → b ∉ [wb] := fun b h => by simp; omega
  have hD11 := hK.at (HK7.out.at HD4.out (fun h => by have := HLW.out _ h; omega)) (hne _ (by omega))
  have hC11 := hK.at (HK7.out.at HC4.out (fun h => by have := HLW.out _ h; omega)) (hne _ (by omega))
  have hB11 := hK.at (HK7.out.at HB4.out (fun h => by have := HLW.out _ h; omega)) (hne _ (by omega))
  have hR11 := hK.at (HK7.out.at HR4.out (fun h => by have := (HWB.out _ h).1; omega)) (hne _ (hw4 HR4.out))
  have hDv11 := HP7.out.dev.keep hK (hne _ (by have := HDL.out; omega)) (hne _ (by have := HLW.out a.s (by simp); omega)) (hne _ (by have := HLW.out a.k (by simp); omega)) (hne _ (by have := HLW.out a.m (by simp); omega))
  have K11 : Keeps [] W w11 := (HK4.out.new HK7.out (fun b hb => .inr (by have := (HWB.out b hb).1; have := HQ.out; omega))).new hK (fun b hb => .inr (by have := List.mem_singleton.1 hb; have := HK3.out.size; omega))
  have hRW : rb < wb := hw4 HR4.out
  have HRW := hid hRW
  have hA12 := hA.alloc (.cells #[.int .i64 0] 3)
  have hO12 := hO.keep ((Keeps.refl [] w11).alloc (.cells #[.int .i64 0] 3)) (by simp)
  have hD12 := hD11.alloc (.cells #[.int .i64 0] 3)
  have hC12 := hC11.alloc (.cells #[.int .i64 0] 3)
  have hB12 := hB11.alloc (.cells #[.int .i64 0] 3)
  have hR12 := hR11.alloc (.cells #[.int .i64 0] 3)
  have hDv12 := hDv11.keep ((Keeps.refl [] w11).alloc (.cells #[.int .i64 0] 3)) (by simp) (by simp) (by simp) (by simp)
  have hN12 := At.new w11 (.cells #[.int .i64 0] 3)
  have K12 := K11.alloc (.cells #[.int .i64 0] 3)
  have d0 := hD12.cell 0 rfl
  have c0 := hC12.cell 0 rfl
  have c1 := hC12.cell 1 rfl
  have c2 := hC12.cell 2 rfl
  have b0 := hB12.cell 0 rfl
  have b1 := hB12.cell 1 rfl
  have b2 := hB12.cell 2 rfl
  clear hA hO hK hM hMl hz4 hwb6 hT7 hw4 hne hD11 hC11 hB11 hR11 hDv11 K11 hRW HCT
  go_wp2_with fail
  obtain ⟨nb, hnb⟩ : ∃ q, q = w11.heap.size := ⟨_, rfl⟩
  obtain ⟨w12, hw12⟩ : ∃ w, w = w11.alloc (.cells #[.int .i64 0] 3) := ⟨_, rfl⟩
  have hz12 : w12.heap.size = nb + 1 := by rw [hw12, hnb]; simp
  have hnbw : wb < nb := by rw [hnb]; have := hA12.lt; rw [← hw12, hz12] at this; have h2 := HHA.out; omega
  rw [← hw12] at hA12 hO12 hD12 hC12 hB12 hR12 hDv12 hN12 K12
  rw [← hnb] at hN12
  first | rw [← hw12] | skip
  first | rw [← hnb] | skip
  have hxw : ∀ b ∈ blkL xw, w7.heap.size ≤ b ∧ b < nb := HHB.out nb hnb
  clear hw12 hnb d0 c0 c1 c2 b0 b1 b2
  refine (objects_at w12 a.d c 0 us (.slice x c.roots cp)).mono ?_
  rintro e w13 ⟨rfl, hx0, hx1, hx2, k13, hz13⟩
  have hDv13 := hDv12.keep k13 (by simp) (by simp) (by simp) (by simp)
  have HO13 : Hid (ObjF (w12.heap.size + 2) (w12.heap.size + 1) w12.heap.size a c 0 us lc er w13) := ⟨hx2, hx1, hx0, p, S2, hDv13, HHC.out⟩
  have HDv := hid hDv13
  have HDW13 : Hid (a.d < nb ∧ a.s < nb ∧ a.k < nb ∧ a.m < nb) := by have h1 := HDL.out; have h2 := HLW.out a.s (by simp); have h3 := HLW.out a.k (by simp); have h4 := HLW.out a.m (by simp); have h5 := HWB6.out; exact ⟨by omega, by omega, by omega, by omega⟩
  have HA13 := hid (k13.at hA12 (by simp))
  have HW13 := hid (hO12.keep k13 (by simp))
  have HD13 := hid (k13.at hD12 (by simp))
  have HC13 := hid (k13.at hC12 (by simp))
  have HB13 := hid (k13.at hB12 (by simp))
  have HR13 := hid (k13.at hR12 (by simp))
  have HN13 := hid (k13.at hN12 (by simp))
  have HK13 := hid (K12.trans k13)
  have HZ13 : Hid (w13.heap.size = nb + 4 ∧ wb < nb ∧ rb < wb ∧ eb + 3 ≤ wb ∧ (∀ b ∈ blkL xw, w7.heap.size ≤ b ∧ b < nb) ∧ w12.heap.size = nb + 1) := ⟨by omega, hnbw, HRW.out, HWB6.out.1, hxw, hz12⟩
  clear hx0 hx1 hx2 hDv12 hDv13 hA12 hO12 hD12 hC12 hB12 hR12 hN12 K12 k13 hz13 hz12 hnbw hxw
  go_wp2_with fail
  refine wp_rangeE (gf := 31) (lb := #[ptr (w12.heap.size + 2), ptr (w12.heap.size + 1), ptr w12.heap.size]) rfl (enters_of Tryz.func31 (by kernel_rfl) rfl) (fun fn => ?_)
  have hmix : Tryz.prog.follows .mixedOrders = true := by kernel_rfl
  refine' (iter_core (objs_iter _ _ _ a c 0 us lc er HO.out HN.out (by omega)) fn w13 _ _ _ _
    (fun i W => i ≤ M ∧ At W nb (.cells #[.int .i64 (i : Nat)] 3) ∧ Keeps [nb] w13 W)
    (fun W => False)
    .ret .ret (.inl ⟨rfl, rfl⟩) (fun _ => rfl) ?fct ?keep ?keepx ?round ?start).mono ?after
  case fct =>
    rintro i W ⟨_, _, hk⟩
    obtain ⟨h1, h2, h3, p', S', h4, h5⟩ := HO13.out
    have hz := HZ13.out
    have hn : ∀ b, b ≠ nb → b ∉ [nb] := fun b h => by simpa using h
    have h6 := HDv.out
    have hl := HDW13.out
    exact ⟨hk.at h1 (hn _ (by omega)), hk.at h2 (hn _ (by omega)), hk.at h3 (hn _ (by omega)), p, S2, h6.keep hk (hn _ (by omega)) (hn _ (by omega)) (hn _ (by omega)) (hn _ (by omega)), HHC.out⟩
  case keep =>
    rintro i W W' ⟨h1, h2, hk⟩ hk'
    have hz := HZ13.out
    exact ⟨h1, hk'.at h2 (by simp; omega), hk.new hk' (by simp)⟩
  case keepx =>
    rintro W W' h _
    exact h
  case start => exact ⟨Nat.zero_le _, HN13.out, Keeps.refl _ _⟩
  case round =>
    rintro l' i W0 W him ⟨_, _, hk0⟩ k0 ⟨hil, hA, hK⟩ hsz
    have hiM : i < M := by have := HM.out.1; omega
    obtain ⟨zi, hzi⟩ : ∃ zi, zi = c.frm 0 + posL lc i := ⟨_, rfl⟩
    have HZI : Hid (zi = c.frm 0 + posL lc i ∧ ff + posL lc i = zi) := ⟨hzi, by rw [HFF.out, hzi]⟩
    have HLT := hid hiM
    have HKW := hid hK
    have HAW := hid hA
    have hzb : (zi : Int) ≤ 20000 := by
      have h1 := pos_mono (os := lc) (i := min i lc.length) (j := lc.length) (Nat.min_le_right _ _) (Nat.le_refl _)
      rw [posL_all] at h1
      have h2 := HLN.out
      have h3 : posL lc i = posL lc (min i lc.length) := by
        rcases Nat.le_total i lc.length with h | h
        · rw [Nat.min_eq_left h]
        · have h5 := HM.out.2
          rw [Nat.min_eq_right h]
          unfold posL
          rw [List.take_of_length_le h, List.take_of_length_le (Nat.le_refl _)]
      have := HFF.out
      omega
    have hDr := (HDv.out.keep hK (by have := HDW13.out; simp; omega) (by have := HDW13.out; simp; omega) (by have := HDW13.out; simp; omega) (by have := HDW13.out; simp; omega))
    by_cases hlt : i < lc.length
    · rw [show objA c 0 lc i = #[obV (nL lc i : Nat) (rL lc i : Nat) ((c.frm 0 + posL lc i : Nat) : Int), .int .i64 0] by unfold objA; rw [if_pos hlt]]
      have hn64 := (HHC.out.head i _ (nL_in hlt)).1
      have HOF := hid (fun (w'' : World) (hk : Keeps [nb] w13 w'') => of_chain (HDv.out.keep hk (by have := HDW13.out; simp; omega) (by have := HDW13.out; simp; omega) (by have := HDW13.out; simp; omega) (by have := HDW13.out; simp; omega)) HO.out HN.out (by omega) HHC.out (.slice x c.roots cp) hlt (zi : Nat) (by rw [HZI.out.1]))
      obtain ⟨nn, hnn⟩ : ∃ nn, nn = nL lc i := ⟨_, rfl⟩
      obtain ⟨rr, hrr⟩ : ∃ rr, rr = rL lc i := ⟨_, rfl⟩
      rw [← hnn, ← hrr] at HOF
      rw [← hnn, ← hrr, ← hzi]
      clear hnn hrr hzi hlt hK hA him hil hn64 hDr hiM
      have hsem := @Oper.semAt_some
      gi_wp2_with fail
      refine ⟨(Keeps.refl [] W).alloc _, fun W₂ k2 hz2 => ?_⟩
      have hz := HZ13.out
      have hm0 : nb < W0.heap.size := by have := hk0.size; omega
      have hWz : W0.heap.size ≤ W.heap.size := k0.size
      have hO2 := k2.at (At.new W (obO (nn : Nat) (rr : Nat) zi)) (by simp; omega)
      have kW2 : Keeps [w13.heap.size + 1] W W₂ := ((Keeps.refl _ W).alloc _).trans k2
      have hN2 := kW2.at HAW.out (by simp; omega)
      have hKN : Hid (Keeps [nb] w13 W₂) := HKW.out.new kW2 (by simp)
      obtain ⟨g, hgx, hgB, hgl, hgc⟩ := HW13.out.cell (by have := HLT.out; omega)
      subst hgx
      have hgn : g < nb := (hz.2.2.2.2.1 g (by simp [blkL])).2
      have HCR : Hid (∀ w', Keeps [nb] w13 w' → (w'.cell? ⟨eb, 0, none⟩ = some (ptr a.d) ∧ w'.cell? ⟨cb, 0, none⟩ = some (.int .i64 c.log) ∧ w'.cell? ⟨cb, 1, none⟩ = some (.int .i64 c.roots) ∧ w'.cell? ⟨cb, 2, none⟩ = some (.int .i64 c.space) ∧ w'.cell? ⟨bb, 0, none⟩ = some (.int .i64 0) ∧ w'.cell? ⟨bb, 1, none⟩ = some (.int .i64 (us : Nat)) ∧ w'.cell? ⟨bb, 2, none⟩ = some (.slice x c.roots cp) ∧ w'.cell? ⟨wb, 0, none⟩ = some (.slice (some ⟨g, 0, none⟩) M cw) ∧ w'.cell? ⟨g, i, none⟩ = some (.int .i64 (zi : Nat)))) := fun w' hk => by
        have hn : ∀ b, b < nb → b ∉ [nb] := fun b h => by simp; omega
        have hz4 := HZ4.out
        have y1 := hk.at HD13.out (hn _ (by omega))
        have y2 := hk.at HC13.out (hn _ (by omega))
        have y3 := hk.at HB13.out (hn _ (by omega))
        have y4 := hk.at HA13.out (hn _ (by omega))
        refine ⟨y1.cell 0 rfl, y2.cell 0 rfl, y2.cell 1 rfl, y2.cell 2 rfl, y3.cell 0 rfl, y3.cell 1 rfl, y3.cell 2 rfl, y4.cell 0 rfl, ?_⟩
        rw [hk.cell (by omega) (hn _ hgn), hgc i HLT.out, HZI.out.2]
      have HND : Hid (W.heap.size ≠ nb ∧ nb < W₂.heap.size) := ⟨by omega, hN2.lt⟩
      have HO2 := hid hO2
      have HN2 := hid (And.intro hN2 hm0)
      have HKW2 := hid kW2
      obtain ⟨d0, c0, c1, c2, b0, b1, b2, a0, g0⟩ := HCR.out _ hKN.out
      have o0 := hO2.cell 0 rfl
      have o1 := hO2.cell 1 rfl
      have o2 := hO2.cell 2 rfl
      have n0 := hN2.cell 0 rfl
      have t1 : decide ((M : Int) ≤ (i : Int)) = false := decide_eq_false (by have := HLT.out; omega)
      have t2 : (i : Int) < (M : Int) := by have := HLT.out; omega
      have t6 : decide (M ≤ i) = false := decide_eq_false (by have := HLT.out; omega)
      have t7 : i < M := HLT.out
      clear hz hm0 hWz hO2 kW2 hN2 k2 hz2 k0 hk0 hsz hgB hgl hgc hgn
      gi_wp2_with fail
      refine round_quiet rfl hmix (by kernel_rfl) ?_
      repeat (go_big_quiet_step (fail))
      refine wpQuiet_nil ?_
      rintro _ ⟨nq, rfl⟩
      have kq : Keeps [] W₂ (W₂.drewN nq) := (Keeps.refl [] W₂).drewN nq
      obtain ⟨W3, hW3⟩ : ∃ W3, W3 = W₂.drewN nq := ⟨_, rfl⟩
      rw [← hW3] at kq
      first | rw [← hW3] | skip
      have HO3 := hid (kq.at HO2.out (by simp))
      have HN3 := hid (kq.at HN2.out.1 (by simp))
      have HKN3 : Hid (Keeps [nb] w13 W3) := hKN.out.trans (kq.mono (by simp))
      have HK23 := hid kq
      clear hW3 kq d0 c0 c1 c2 b0 b1 b2 a0 g0 o0 o1 o2 n0
      gi_wp2_with fail
      have HCS : Hid (∀ w', Keeps [] W3 w' → (w'.cell? ⟨eb, 0, none⟩ = some (ptr a.d) ∧ w'.cell? ⟨cb, 0, none⟩ = some (.int .i64 c.log) ∧ w'.cell? ⟨cb, 1, none⟩ = some (.int .i64 c.roots) ∧ w'.cell? ⟨cb, 2, none⟩ = some (.int .i64 c.space) ∧ w'.cell? ⟨bb, 0, none⟩ = some (.int .i64 0) ∧ w'.cell? ⟨bb, 1, none⟩ = some (.int .i64 (us : Nat)) ∧ w'.cell? ⟨bb, 2, none⟩ = some (.slice x c.roots cp) ∧ w'.cell? ⟨wb, 0, none⟩ = some (.slice (some ⟨g, 0, none⟩) M cw) ∧ w'.cell? ⟨g, i, none⟩ = some (.int .i64 (zi : Nat)) ∧ w'.cell? ⟨nb, 0, none⟩ = some (.int .i64 (i : Nat)))) := fun w' hk => by
        obtain ⟨d0, c0, c1, c2, b0, b1, b2, a0, g0⟩ := HCR.out _ (HKN3.out.trans (hk.mono (by simp)))
        exact ⟨d0, c0, c1, c2, b0, b1, b2, a0, g0, (hk.at HN3.out (by simp)).cell 0 rfl⟩
      refine round_held (S := (fun w' => w'.cell? ⟨eb, 0, none⟩ = some (ptr a.d) ∧ w'.cell? ⟨cb, 0, none⟩ = some (.int .i64 c.log) ∧ w'.cell? ⟨cb, 1, none⟩ = some (.int .i64 c.roots) ∧ w'.cell? ⟨cb, 2, none⟩ = some (.int .i64 c.space) ∧ w'.cell? ⟨bb, 0, none⟩ = some (.int .i64 0) ∧ w'.cell? ⟨bb, 1, none⟩ = some (.int .i64 (us : Nat)) ∧ w'.cell? ⟨bb, 2, none⟩ = some (.slice x c.roots cp) ∧ w'.cell? ⟨wb, 0, none⟩ = some (.slice (some ⟨g, 0, none⟩) M cw) ∧ w'.cell? ⟨g, i, none⟩ = some (.int .i64 (zi : Nat)) ∧ w'.cell? ⟨nb, 0, none⟩ = some (.int .i64 (i : Nat)))) rfl hmix ?_ (fun hHeld0 => ?_)
      · (try dsimp only); (refine HCS.out _ ?_; repeat' (first | assumption | exact Keeps.refl _ _ | refine Keeps.drew ?_ | refine Keeps.alloc ?_ _ | (refine Keeps.trans ?_ hk) | (refine Keeps.set ?_ (by right; first | (simp; done) | (have hkz := hk.size; simp at hkz ⊢; omega)) _)))
      refine' wpAnyH_take (i := 0) (oi := _) (v := _) ?hi1 (by kernel_rfl) (by kernel_rfl) (by kernel_rfl) (fun _ _ _ h => h) (Or.inl ⟨?hw1, ?hy1⟩) hHeld0 ?rest1
      case hi1 => (simp only [List.getElem?_toArray, List.getElem?_cons_zero]; rfl)
      case hw1 => rfl
      case hy1 => (intro w hSw; (try dsimp only at hSw); go_simp; try (with_reducible rfl))
      (try simp only [Act.put, List.setIfInBounds_toArray, List.set_cons_zero, List.set_cons_succ])
      refine' wpAnyH_take (i := 1) (oi := _) (v := _) ?hi2 (by kernel_rfl) (by kernel_rfl) (by kernel_rfl) (fun _ _ _ h => h) (Or.inl ⟨?hw2, ?hy2⟩) hHeld0 ?rest2
      case hi2 => (simp only [List.getElem?_toArray, List.getElem?_cons_succ, List.getElem?_cons_zero]; rfl)
      case hw2 => rfl
      case hy2 => (intro w hSw; (try dsimp only at hSw); go_simp; try (with_reducible rfl))
      (try simp only [Act.put, List.setIfInBounds_toArray, List.set_cons_zero, List.set_cons_succ])
      refine' wpAnyH_take (i := 2) (oi := _) (v := _) ?hi3 (by kernel_rfl) (by kernel_rfl) (by kernel_rfl) (fun _ _ _ h => h) (Or.inl ⟨?hw3, ?hy3⟩) hHeld0 ?rest3
      case hi3 => (simp only [List.getElem?_toArray, List.getElem?_cons_succ, List.getElem?_cons_zero]; rfl)
      case hw3 => rfl
      case hy3 => (intro w hSw; (try dsimp only at hSw); go_simp; try (with_reducible rfl))
      (try simp only [Act.put, List.setIfInBounds_toArray, List.set_cons_zero, List.set_cons_succ])
      refine' wpAnyH_take (i := 3) (oi := _) (v := _) ?hi4 (by kernel_rfl) (by kernel_rfl) (by kernel_rfl) (fun _ _ _ h => h) (Or.inl ⟨?hw4, ?hy4⟩) hHeld0 ?rest4
      case hi4 => (simp only [List.getElem?_toArray, List.getElem?_cons_succ, List.getElem?_cons_zero]; rfl)
      case hw4 => rfl
      case hy4 => (intro w hSw; (try dsimp only at hSw); go_simp; try (with_reducible rfl))
      (try simp only [Act.put, List.setIfInBounds_toArray, List.set_cons_zero, List.set_cons_succ])
      refine' wpAnyH_take (i := 4) (oi := _) (v := _) ?hi5 (by kernel_rfl) (by kernel_rfl) (by kernel_rfl) (fun _ _ _ h => h) (Or.inl ⟨?hw5, ?hy5⟩) hHeld0 ?rest5
      case hi5 => (simp only [List.getElem?_toArray, List.getElem?_cons_succ, List.getElem?_cons_zero]; rfl)
      case hw5 => rfl
      case hy5 => (intro w hSw; (try dsimp only at hSw); go_simp; try (with_reducible rfl))
      (try simp only [Act.put, List.setIfInBounds_toArray, List.set_cons_zero, List.set_cons_succ])
      refine' wpAnyH_take (i := 5) (oi := _) (v := _) ?hi6 (by kernel_rfl) (by kernel_rfl) (by kernel_rfl) (fun _ _ _ h => h) (Or.inl ⟨?hw6, ?hy6⟩) hHeld0 ?rest6
      case hi6 => (simp only [List.getElem?_toArray, List.getElem?_cons_succ, List.getElem?_cons_zero]; rfl)
      case hw6 => rfl
      case hy6 => (intro w hSw; (try dsimp only at hSw); go_simp; try (with_reducible rfl))
      (try simp only [Act.put, List.setIfInBounds_toArray, List.set_cons_zero, List.set_cons_succ])
      refine' wpAnyH_take (i := 6) (oi := _) (v := _) ?hi7 (by kernel_rfl) (by kernel_rfl) (by kernel_rfl) (fun _ _ _ h => h) (Or.inl ⟨?hw7, ?hy7⟩) hHeld0 ?rest7
      case hi7 => (simp only [List.getElem?_toArray, List.getElem?_cons_succ, List.getElem?_cons_zero]; rfl)
      case hw7 => rfl
      case hy7 => (intro w hSw; (try dsimp only at hSw); go_simp; try (with_reducible rfl))
      (try simp only [Act.put, List.setIfInBounds_toArray, List.set_cons_zero, List.set_cons_succ])
      refine wpAnyH_ready (rs := [7, 11]) (by kernel_rfl) (by simp) ?_
      refine' AllReadyH.cons (o := _) ?ho9 (fun K hK => ?step9) ?more9
      case ho9 => (simp only [List.getElem?_toArray, List.getElem?_cons_succ, List.getElem?_cons_zero]; rfl)
      case step9 =>
        go_simp
        go_at_call 11; refine (HOF.out _ (HKN3.out.trans (Keeps.mono (S := []) (by first | exact (Keeps.refl _ _).drew | exact ((Keeps.refl _ _).drew).alloc _) (by simp)))).mono ?_; rintro e w' ⟨rfl, hk⟩; try (have h5 := hk.at (At.drew (At.new W3 (obO 0 0 0))) (by simp); have x0 := h5.cell 0 rfl; have x1 := h5.cell 1 rfl; have x2 := h5.cell 2 rfl; have z0 := h5.free 0; have z1 := h5.free 1; have z2 := h5.free 2)
        (try go_wp2_with fail)
        refine hK.out _ _ ?_ (fun hHeld1 => ?_)
        · (try dsimp only); (refine HCS.out _ ?_; repeat' (first | assumption | exact Keeps.refl _ _ | refine Keeps.drew ?_ | refine Keeps.alloc ?_ _ | (refine Keeps.trans ?_ hk) | (refine Keeps.set ?_ (by right; first | (simp; done) | (have hkz := hk.size; simp at hkz ⊢; omega)) _)))
        clear hK K hHeld0
        (try simp only [Act.put, List.setIfInBounds_toArray, List.set_cons_zero, List.set_cons_succ])
        refine' wpAnyH_take (i := 8) (oi := _) (v := _) ?hi10 (by kernel_rfl) (by kernel_rfl) (by kernel_rfl) (fun _ _ _ h => h) (Or.inl ⟨?hw10, ?hy10⟩) hHeld1 ?rest10
        case hi10 => (simp only [List.getElem?_toArray, List.getElem?_cons_succ, List.getElem?_cons_zero]; rfl)
        case hw10 => rfl
        case hy10 => (intro w hSw; (try dsimp only at hSw); go_simp; try (with_reducible rfl))
        (try simp only [Act.put, List.setIfInBounds_toArray, List.set_cons_zero, List.set_cons_succ])
        refine' wpAnyH_take (i := 9) (oi := _) (v := _) ?hi11 (by kernel_rfl) (by kernel_rfl) (by kernel_rfl) (fun _ _ _ h => h) (Or.inl ⟨?hw11, ?hy11⟩) hHeld1 ?rest11
        case hi11 => (simp only [List.getElem?_toArray, List.getElem?_cons_succ, List.getElem?_cons_zero]; rfl)
        case hw11 => rfl
        case hy11 => (intro w hSw; (try dsimp only at hSw); go_simp; try (with_reducible rfl))
        (try simp only [Act.put, List.setIfInBounds_toArray, List.set_cons_zero, List.set_cons_succ])
        refine' wpAnyH_take (i := 10) (oi := _) (v := _) ?hi12 (by kernel_rfl) (by kernel_rfl) (by kernel_rfl) (fun _ _ _ h => h) (Or.inl ⟨?hw12, ?hy12⟩) hHeld1 ?rest12
        case hi12 => (simp only [List.getElem?_toArray, List.getElem?_cons_succ, List.getElem?_cons_zero]; rfl)
        case hw12 => rfl
        case hy12 => (intro w hSw; (try dsimp only at hSw); go_simp; try (with_reducible rfl))
        (try simp only [Act.put, List.setIfInBounds_toArray, List.set_cons_zero, List.set_cons_succ])
        refine wpAnyH_ready (rs := [11]) (by kernel_rfl) (by simp) ?_
        refine' AllReadyH.cons (o := _) ?ho14 (fun K hK => ?step14) ?more14
        case ho14 => (simp only [List.getElem?_toArray, List.getElem?_cons_succ, List.getElem?_cons_zero]; rfl)
        case step14 =>
          go_simp
          refine hK.out _ _ ?_ (fun hHeld2 => ?_)
          · (try dsimp only); (refine HCS.out _ ?_; repeat' (first | assumption | exact Keeps.refl _ _ | refine Keeps.drew ?_ | refine Keeps.alloc ?_ _ | (refine Keeps.trans ?_ hk) | (refine Keeps.set ?_ (by right; first | (simp; done) | (have hkz := hk.size; simp at hkz ⊢; omega)) _)))
          clear hK K hHeld1
          (try simp only [Act.put, List.setIfInBounds_toArray, List.set_cons_zero, List.set_cons_succ])
          refine wpAnyH_ready (rs := [12]) (by kernel_rfl) (by simp) ?_
          refine' AllReadyH.cons (o := _) ?ho16 (fun K hK => ?step16) ?more16
          case ho16 => (simp only [List.getElem?_toArray, List.getElem?_cons_succ, List.getElem?_cons_zero]; rfl)
          case step16 =>
            go_simp
            refine hK.out _ _ ?_ (fun hHeld3 => ?_)
            · (try dsimp only); (refine HCS.out _ ?_; repeat' (first | assumption | exact Keeps.refl _ _ | refine Keeps.drew ?_ | refine Keeps.alloc ?_ _ | (refine Keeps.trans ?_ hk) | (refine Keeps.set ?_ (by right; first | (simp; done) | (have hkz := hk.size; simp at hkz ⊢; omega)) _)))
            clear hK K hHeld2
            (try simp only [Act.put, List.setIfInBounds_toArray, List.set_cons_zero, List.set_cons_succ])
            refine wpAnyH_ready (rs := [13]) (by kernel_rfl) (by simp) ?_
            refine' AllReadyH.cons (o := _) ?ho18 (fun K hK => ?step18) ?more18
            case ho18 => (simp only [List.getElem?_toArray, List.getElem?_cons_succ, List.getElem?_cons_zero]; rfl)
            case step18 =>
              go_simp
              refine hK.out _ _ ?_ (fun hHeld4 => ?_)
              · (try dsimp only); (refine HCS.out _ ?_; repeat' (first | assumption | exact Keeps.refl _ _ | refine Keeps.drew ?_ | refine Keeps.alloc ?_ _ | (refine Keeps.trans ?_ hk) | (refine Keeps.set ?_ (by right; first | (simp; done) | (have hkz := hk.size; simp at hkz ⊢; omega)) _)))
              clear hK K hHeld3
              (try simp only [Act.put, List.setIfInBounds_toArray, List.set_cons_zero, List.set_cons_succ])
              refine wpAnyH_done (by kernel_rfl) ?_ _
              refine OnlyN.normal ?_
              have hRB := At.new w' (obO (nn : Nat) (rr : Nat) zi)
              have kX : Keeps [] W3 (w'.alloc (obO (nn : Nat) (rr : Nat) zi)) := ((Keeps.refl [] W3).drew.trans hk).alloc _
              obtain ⟨X, hX⟩ : ∃ X, X = (w'.alloc (obO (nn : Nat) (rr : Nat) zi)) := ⟨_, rfl⟩
              rw [← hX] at hRB kX
              first | rw [← hX] | skip
              obtain ⟨qb, hqb⟩ : ∃ q, q = w'.heap.size := ⟨_, rfl⟩
              rw [← hqb] at hRB
              first | rw [← hqb] | skip
              have hO5 := kX.at HO3.out (by simp)
              have hN5 := kX.at HN3.out (by simp)
              have hst := hN5.set 0 (.int .i64 ((i : Int) + 1))
              have hkt : Keeps [nb] W₂ (X.setCell ⟨nb, 0, none⟩ (.int .i64 ((i : Int) + 1))) := ((HK23.out.trans kX).mono (by simp)).set (p := ⟨nb, 0, none⟩) (.inl (by simp)) _
              have HST := hid (And.intro hst hkt)
              have o0 := hO5.cell 0 rfl
              have o1 := hO5.cell 1 rfl
              have o2 := hO5.cell 2 rfl
              have n0 := hN5.cell 0 rfl
              have nf := hN5.free 0
              have p0 := hRB.cell 0 rfl
              have p1 := hRB.cell 1 rfl
              have p2 := hRB.cell 2 rfl
              have e1 : IntKind.i64.wrap ((i : Int) + 1) = (i : Int) + 1 := IntWalk.i64_in _ (by have := HM.out; have := HLN.out; omega)
              clear hX hqb hk kX hRB hO5 hN5 hst hkt
              gi_wp2_with fail
              refine ⟨⟨?_, ?_, ?_⟩, [nb], HST.out.2, ?_, ?_, fun b hb => .inl (by obtain rfl := List.mem_singleton.1 hb; exact HN2.out.2)⟩
              · have := HLT.out; omega
              · exact HST.out.1
              · exact hKN.out.trans HST.out.2
              · have := HZ13.out; simp; omega
              · have := HZ13.out; simp; omega
            exact AllReadyH.nil
          exact AllReadyH.nil
        exact AllReadyH.nil
      refine' AllReadyH.cons (o := _) ?ho19 (fun K hK => ?step19) ?more19
      case ho19 => (simp only [List.getElem?_toArray, List.getElem?_cons_succ, List.getElem?_cons_zero]; rfl)
      case step19 =>
        go_simp
        refine hK.out _ _ ?_ (fun hHeld1 => ?_)
        · (try dsimp only); (refine HCS.out _ ?_; repeat' (first | assumption | exact Keeps.refl _ _ | refine Keeps.drew ?_ | refine Keeps.alloc ?_ _ | (refine Keeps.trans ?_ hk) | (refine Keeps.set ?_ (by right; first | (simp; done) | (have hkz := hk.size; simp at hkz ⊢; omega)) _)))
        clear hK K hHeld0
        (try simp only [Act.put, List.setIfInBounds_toArray, List.set_cons_zero, List.set_cons_succ])
        refine wpAnyH_ready (rs := [7]) (by kernel_rfl) (by simp) ?_
        refine' AllReadyH.cons (o := _) ?ho21 (fun K hK => ?step21) ?more21
        case ho21 => (simp only [List.getElem?_toArray, List.getElem?_cons_succ, List.getElem?_cons_zero]; rfl)
        case step21 =>
          go_simp
          go_at_call 11; refine (HOF.out _ (HKN3.out.trans (Keeps.mono (S := []) (by first | exact (Keeps.refl _ _).drew | exact ((Keeps.refl _ _).drew).alloc _) (by simp)))).mono ?_; rintro e w' ⟨rfl, hk⟩; try (have h5 := hk.at (At.drew (At.new W3 (obO 0 0 0))) (by simp); have x0 := h5.cell 0 rfl; have x1 := h5.cell 1 rfl; have x2 := h5.cell 2 rfl; have z0 := h5.free 0; have z1 := h5.free 1; have z2 := h5.free 2)
          (try go_wp2_with fail)
          refine hK.out _ _ ?_ (fun hHeld2 => ?_)
          · (try dsimp only); (refine HCS.out _ ?_; repeat' (first | assumption | exact Keeps.refl _ _ | refine Keeps.drew ?_ | refine Keeps.alloc ?_ _ | (refine Keeps.trans ?_ hk) | (refine Keeps.set ?_ (by right; first | (simp; done) | (have hkz := hk.size; simp at hkz ⊢; omega)) _)))
          clear hK K hHeld1
          (try simp only [Act.put, List.setIfInBounds_toArray, List.set_cons_zero, List.set_cons_succ])
          refine' wpAnyH_take (i := 8) (oi := _) (v := _) ?hi22 (by kernel_rfl) (by kernel_rfl) (by kernel_rfl) (fun _ _ _ h => h) (Or.inl ⟨?hw22, ?hy22⟩) hHeld2 ?rest22
          case hi22 => (simp only [List.getElem?_toArray, List.getElem?_cons_succ, List.getElem?_cons_zero]; rfl)
          case hw22 => rfl
          case hy22 => (intro w hSw; (try dsimp only at hSw); go_simp; try (with_reducible rfl))
          (try simp only [Act.put, List.setIfInBounds_toArray, List.set_cons_zero, List.set_cons_succ])
          refine' wpAnyH_take (i := 9) (oi := _) (v := _) ?hi23 (by kernel_rfl) (by kernel_rfl) (by kernel_rfl) (fun _ _ _ h => h) (Or.inl ⟨?hw23, ?hy23⟩) hHeld2 ?rest23
          case hi23 => (simp only [List.getElem?_toArray, List.getElem?_cons_succ, List.getElem?_cons_zero]; rfl)
          case hw23 => rfl
          case hy23 => (intro w hSw; (try dsimp only at hSw); go_simp; try (with_reducible rfl))
          (try simp only [Act.put, List.setIfInBounds_toArray, List.set_cons_zero, List.set_cons_succ])
          refine' wpAnyH_take (i := 10) (oi := _) (v := _) ?hi24 (by kernel_rfl) (by kernel_rfl) (by kernel_rfl) (fun _ _ _ h => h) (Or.inl ⟨?hw24, ?hy24⟩) hHeld2 ?rest24
          case hi24 => (simp only [List.getElem?_toArray, List.getElem?_cons_succ, List.getElem?_cons_zero]; rfl)
          case hw24 => rfl
          case hy24 => (intro w hSw; (try dsimp only at hSw); go_simp; try (with_reducible rfl))
          (try simp only [Act.put, List.setIfInBounds_toArray, List.set_cons_zero, List.set_cons_succ])
          refine wpAnyH_ready (rs := [12]) (by kernel_rfl) (by simp) ?_
          refine' AllReadyH.cons (o := _) ?ho26 (fun K hK => ?step26) ?more26
          case ho26 => (simp only [List.getElem?_toArray, List.getElem?_cons_succ, List.getElem?_cons_zero]; rfl)
          case step26 =>
            go_simp
            refine hK.out _ _ ?_ (fun hHeld3 => ?_)
            · (try dsimp only); (refine HCS.out _ ?_; repeat' (first | assumption | exact Keeps.refl _ _ | refine Keeps.drew ?_ | refine Keeps.alloc ?_ _ | (refine Keeps.trans ?_ hk) | (refine Keeps.set ?_ (by right; first | (simp; done) | (have hkz := hk.size; simp at hkz ⊢; omega)) _)))
            clear hK K hHeld2
            (try simp only [Act.put, List.setIfInBounds_toArray, List.set_cons_zero, List.set_cons_succ])
            refine wpAnyH_ready (rs := [13]) (by kernel_rfl) (by simp) ?_
            refine' AllReadyH.cons (o := _) ?ho28 (fun K hK => ?step28) ?more28
            case ho28 => (simp only [List.getElem?_toArray, List.getElem?_cons_succ, List.getElem?_cons_zero]; rfl)
            case step28 =>
              go_simp
              refine hK.out _ _ ?_ (fun hHeld4 => ?_)
              · (try dsimp only); (refine HCS.out _ ?_; repeat' (first | assumption | exact Keeps.refl _ _ | refine Keeps.drew ?_ | refine Keeps.alloc ?_ _ | (refine Keeps.trans ?_ hk) | (refine Keeps.set ?_ (by right; first | (simp; done) | (have hkz := hk.size; simp at hkz ⊢; omega)) _)))
              clear hK K hHeld3
              (try simp only [Act.put, List.setIfInBounds_toArray, List.set_cons_zero, List.set_cons_succ])
              refine wpAnyH_done (by kernel_rfl) ?_ _
              refine OnlyN.normal ?_
              have hRB := ((h5.set 0 (.int .i64 (nn : Nat))).set 1 (.int .i64 (rr : Nat))).set 2 (.int .i64 zi)
              have kX : Keeps [] W3 (((w'.setCell ⟨W3.heap.size, 0, none⟩ (.int .i64 (nn : Nat))).setCell ⟨W3.heap.size, 1, none⟩ (.int .i64 (rr : Nat))).setCell ⟨W3.heap.size, 2, none⟩ (.int .i64 zi)) := (((((Keeps.refl [] W3).alloc _).drew.trans hk).set (.inr (Nat.le_refl _)) _).set (.inr (Nat.le_refl _)) _).set (.inr (Nat.le_refl _)) _
              obtain ⟨X, hX⟩ : ∃ X, X = (((w'.setCell ⟨W3.heap.size, 0, none⟩ (.int .i64 (nn : Nat))).setCell ⟨W3.heap.size, 1, none⟩ (.int .i64 (rr : Nat))).setCell ⟨W3.heap.size, 2, none⟩ (.int .i64 zi)) := ⟨_, rfl⟩
              rw [← hX] at hRB kX
              first | rw [← hX] | skip
              obtain ⟨qb, hqb⟩ : ∃ q, q = W3.heap.size := ⟨_, rfl⟩
              rw [← hqb] at hRB
              first | rw [← hqb] | skip
              have hO5 := kX.at HO3.out (by simp)
              have hN5 := kX.at HN3.out (by simp)
              have hst := hN5.set 0 (.int .i64 ((i : Int) + 1))
              have hkt : Keeps [nb] W₂ (X.setCell ⟨nb, 0, none⟩ (.int .i64 ((i : Int) + 1))) := ((HK23.out.trans kX).mono (by simp)).set (p := ⟨nb, 0, none⟩) (.inl (by simp)) _
              have HST := hid (And.intro hst hkt)
              have o0 := hO5.cell 0 rfl
              have o1 := hO5.cell 1 rfl
              have o2 := hO5.cell 2 rfl
              have n0 := hN5.cell 0 rfl
              have nf := hN5.free 0
              have p0 := hRB.cell 0 rfl
              have p1 := hRB.cell 1 rfl
              have p2 := hRB.cell 2 rfl
              have e1 : IntKind.i64.wrap ((i : Int) + 1) = (i : Int) + 1 := IntWalk.i64_in _ (by have := HM.out; have := HLN.out; omega)
              clear hX hqb hk kX hRB hO5 hN5 hst hkt h5 x0 x1 x2 z0 z1 z2
              gi_wp2_with fail
              refine ⟨⟨?_, ?_, ?_⟩, [nb], HST.out.2, ?_, ?_, fun b hb => .inl (by obtain rfl := List.mem_singleton.1 hb; exact HN2.out.2)⟩
              · have := HLT.out; omega
              · exact HST.out.1
              · exact hKN.out.trans HST.out.2
              · have := HZ13.out; simp; omega
              · have := HZ13.out; simp; omega
            exact AllReadyH.nil
          exact AllReadyH.nil
        exact AllReadyH.nil
      exact AllReadyH.nil
    · have hie : i = lc.length := by have := HM.out.2; omega
      have her : er = true := by
        cases er with
        | true => rfl
        | false => have := HM.out.1; unfold objM at this; simp at this; omega
      rw [show objA c 0 lc i = #[obV 0 0 ((c.frm 0 + posL lc i : Nat) : Int), .int .i64 8] by unfold objA; rw [if_neg hlt, (nL_out (by omega)).1, (nL_out (by omega)).2]; rfl]
      have hch := HHC.out
      rw [her] at hch
      have HOF := hid (fun (w'' : World) (hk : Keeps [nb] w13 w'') => of_chain_bad (HDv.out.keep hk (by have := HDW13.out; simp; omega) (by have := HDW13.out; simp; omega) (by have := HDW13.out; simp; omega) (by have := HDW13.out; simp; omega)) HO.out HN.out (by omega) hch (.slice x c.roots cp) (zi : Nat) (by rw [HZI.out.1, hie, posL_all]))
      rw [← hzi]
      clear hie her hch hzi hlt hK hA him hil hDr hiM
      have hsem := @Oper.semAt_some
      gi_wp2_with fail
      refine ⟨(Keeps.refl [] W).alloc _, fun W₂ k2 hz2 => ?_⟩
      have hz := HZ13.out
      have hm0 : nb < W0.heap.size := by have := hk0.size; omega
      have hWz : W0.heap.size ≤ W.heap.size := k0.size
      have hO2 := k2.at (At.new W (obO 0 0 zi)) (by simp; omega)
      have kW2 : Keeps [w13.heap.size + 1] W W₂ := ((Keeps.refl _ W).alloc _).trans k2
      have hN2 := kW2.at HAW.out (by simp; omega)
      have hKN : Hid (Keeps [nb] w13 W₂) := HKW.out.new kW2 (by simp)
      obtain ⟨g, hgx, hgB, hgl, hgc⟩ := HW13.out.cell (by have := HLT.out; omega)
      subst hgx
      have hgn : g < nb := (hz.2.2.2.2.1 g (by simp [blkL])).2
      have HCR : Hid (∀ w', Keeps [nb] w13 w' → (w'.cell? ⟨eb, 0, none⟩ = some (ptr a.d) ∧ w'.cell? ⟨cb, 0, none⟩ = some (.int .i64 c.log) ∧ w'.cell? ⟨cb, 1, none⟩ = some (.int .i64 c.roots) ∧ w'.cell? ⟨cb, 2, none⟩ = some (.int .i64 c.space) ∧ w'.cell? ⟨bb, 0, none⟩ = some (.int .i64 0) ∧ w'.cell? ⟨bb, 1, none⟩ = some (.int .i64 (us : Nat)) ∧ w'.cell? ⟨bb, 2, none⟩ = some (.slice x c.roots cp) ∧ w'.cell? ⟨wb, 0, none⟩ = some (.slice (some ⟨g, 0, none⟩) M cw) ∧ w'.cell? ⟨g, i, none⟩ = some (.int .i64 (zi : Nat)))) := fun w' hk => by
        have hn : ∀ b, b < nb → b ∉ [nb] := fun b h => by simp; omega
        have hz4 := HZ4.out
        have y1 := hk.at HD13.out (hn _ (by omega))
        have y2 := hk.at HC13.out (hn _ (by omega))
        have y3 := hk.at HB13.out (hn _ (by omega))
        have y4 := hk.at HA13.out (hn _ (by omega))
        refine ⟨y1.cell 0 rfl, y2.cell 0 rfl, y2.cell 1 rfl, y2.cell 2 rfl, y3.cell 0 rfl, y3.cell 1 rfl, y3.cell 2 rfl, y4.cell 0 rfl, ?_⟩
        rw [hk.cell (by omega) (hn _ hgn), hgc i HLT.out, HZI.out.2]
      have HND : Hid (W.heap.size ≠ nb ∧ nb < W₂.heap.size) := ⟨by omega, hN2.lt⟩
      have HO2 := hid hO2
      have HN2 := hid (And.intro hN2 hm0)
      have HKW2 := hid kW2
      obtain ⟨d0, c0, c1, c2, b0, b1, b2, a0, g0⟩ := HCR.out _ hKN.out
      have o0 := hO2.cell 0 rfl
      have o1 := hO2.cell 1 rfl
      have o2 := hO2.cell 2 rfl
      have n0 := hN2.cell 0 rfl
      have t1 : decide ((M : Int) ≤ (i : Int)) = false := decide_eq_false (by have := HLT.out; omega)
      have t2 : (i : Int) < (M : Int) := by have := HLT.out; omega
      have t6 : decide (M ≤ i) = false := decide_eq_false (by have := HLT.out; omega)
      have t7 : i < M := HLT.out
      clear hz hm0 hWz hO2 kW2 hN2 k2 hz2 k0 hk0 hsz hgB hgl hgc hgn
      gi_wp2_with fail
      refine round_quiet rfl hmix (by kernel_rfl) ?_
      repeat (go_big_quiet_step (fail))
      refine wpQuiet_nil ?_
      rintro _ ⟨nq, rfl⟩
      have kq : Keeps [] W₂ (W₂.drewN nq) := (Keeps.refl [] W₂).drewN nq
      obtain ⟨W3, hW3⟩ : ∃ W3, W3 = W₂.drewN nq := ⟨_, rfl⟩
      rw [← hW3] at kq
      first | rw [← hW3] | skip
      have HO3 := hid (kq.at HO2.out (by simp))
      have HN3 := hid (kq.at HN2.out.1 (by simp))
      have HKN3 : Hid (Keeps [nb] w13 W3) := hKN.out.trans (kq.mono (by simp))
      have HK23 := hid kq
      clear hW3 kq d0 c0 c1 c2 b0 b1 b2 a0 g0 o0 o1 o2 n0
      gi_wp2_with fail
      have HCS : Hid (∀ w', Keeps [] W3 w' → (w'.cell? ⟨eb, 0, none⟩ = some (ptr a.d) ∧ w'.cell? ⟨cb, 0, none⟩ = some (.int .i64 c.log) ∧ w'.cell? ⟨cb, 1, none⟩ = some (.int .i64 c.roots) ∧ w'.cell? ⟨cb, 2, none⟩ = some (.int .i64 c.space) ∧ w'.cell? ⟨bb, 0, none⟩ = some (.int .i64 0) ∧ w'.cell? ⟨bb, 1, none⟩ = some (.int .i64 (us : Nat)) ∧ w'.cell? ⟨bb, 2, none⟩ = some (.slice x c.roots cp) ∧ w'.cell? ⟨wb, 0, none⟩ = some (.slice (some ⟨g, 0, none⟩) M cw) ∧ w'.cell? ⟨g, i, none⟩ = some (.int .i64 (zi : Nat)) ∧ w'.cell? ⟨nb, 0, none⟩ = some (.int .i64 (i : Nat)))) := fun w' hk => by
        obtain ⟨d0, c0, c1, c2, b0, b1, b2, a0, g0⟩ := HCR.out _ (HKN3.out.trans (hk.mono (by simp)))
        exact ⟨d0, c0, c1, c2, b0, b1, b2, a0, g0, (hk.at HN3.out (by simp)).cell 0 rfl⟩
      refine round_held (S := (fun w' => w'.cell? ⟨eb, 0, none⟩ = some (ptr a.d) ∧ w'.cell? ⟨cb, 0, none⟩ = some (.int .i64 c.log) ∧ w'.cell? ⟨cb, 1, none⟩ = some (.int .i64 c.roots) ∧ w'.cell? ⟨cb, 2, none⟩ = some (.int .i64 c.space) ∧ w'.cell? ⟨bb, 0, none⟩ = some (.int .i64 0) ∧ w'.cell? ⟨bb, 1, none⟩ = some (.int .i64 (us : Nat)) ∧ w'.cell? ⟨bb, 2, none⟩ = some (.slice x c.roots cp) ∧ w'.cell? ⟨wb, 0, none⟩ = some (.slice (some ⟨g, 0, none⟩) M cw) ∧ w'.cell? ⟨g, i, none⟩ = some (.int .i64 (zi : Nat)) ∧ w'.cell? ⟨nb, 0, none⟩ = some (.int .i64 (i : Nat)))) rfl hmix ?_ (fun hHeld0 => ?_)
      · (try dsimp only); (refine HCS.out _ ?_; repeat' (first | assumption | exact Keeps.refl _ _ | refine Keeps.drew ?_ | refine Keeps.alloc ?_ _ | (refine Keeps.trans ?_ hk) | (refine Keeps.set ?_ (by right; first | (simp; done) | (have hkz := hk.size; simp at hkz ⊢; omega)) _)))
      refine' wpAnyH_take (i := 0) (oi := _) (v := _) ?hi29 (by kernel_rfl) (by kernel_rfl) (by kernel_rfl) (fun _ _ _ h => h) (Or.inl ⟨?hw29, ?hy29⟩) hHeld0 ?rest29
      case hi29 => (simp only [List.getElem?_toArray, List.getElem?_cons_zero]; rfl)
      case hw29 => rfl
      case hy29 => (intro w hSw; (try dsimp only at hSw); go_simp; try (with_reducible rfl))
      (try simp only [Act.put, List.setIfInBounds_toArray, List.set_cons_zero, List.set_cons_succ])
      refine' wpAnyH_take (i := 1) (oi := _) (v := _) ?hi30 (by kernel_rfl) (by kernel_rfl) (by kernel_rfl) (fun _ _ _ h => h) (Or.inl ⟨?hw30, ?hy30⟩) hHeld0 ?rest30
      case hi30 => (simp only [List.getElem?_toArray, List.getElem?_cons_succ, List.getElem?_cons_zero]; rfl)
      case hw30 => rfl
      case hy30 => (intro w hSw; (try dsimp only at hSw); go_simp; try (with_reducible rfl))
      (try simp only [Act.put, List.setIfInBounds_toArray, List.set_cons_zero, List.set_cons_succ])
      refine' wpAnyH_take (i := 2) (oi := _) (v := _) ?hi31 (by kernel_rfl) (by kernel_rfl) (by kernel_rfl) (fun _ _ _ h => h) (Or.inl ⟨?hw31, ?hy31⟩) hHeld0 ?rest31
      case hi31 => (simp only [List.getElem?_toArray, List.getElem?_cons_succ, List.getElem?_cons_zero]; rfl)
      case hw31 => rfl
      case hy31 => (intro w hSw; (try dsimp only at hSw); go_simp; try (with_reducible rfl))
      (try simp only [Act.put, List.setIfInBounds_toArray, List.set_cons_zero, List.set_cons_succ])
      refine' wpAnyH_take (i := 3) (oi := _) (v := _) ?hi32 (by kernel_rfl) (by kernel_rfl) (by kernel_rfl) (fun _ _ _ h => h) (Or.inl ⟨?hw32, ?hy32⟩) hHeld0 ?rest32
      case hi32 => (simp only [List.getElem?_toArray, List.getElem?_cons_succ, List.getElem?_cons_zero]; rfl)
      case hw32 => rfl
      case hy32 => (intro w hSw; (try dsimp only at hSw); go_simp; try (with_reducible rfl))
      (try simp only [Act.put, List.setIfInBounds_toArray, List.set_cons_zero, List.set_cons_succ])
      refine' wpAnyH_take (i := 4) (oi := _) (v := _) ?hi33 (by kernel_rfl) (by kernel_rfl) (by kernel_rfl) (fun _ _ _ h => h) (Or.inl ⟨?hw33, ?hy33⟩) hHeld0 ?rest33
      case hi33 => (simp only [List.getElem?_toArray, List.getElem?_cons_succ, List.getElem?_cons_zero]; rfl)
      case hw33 => rfl
      case hy33 => (intro w hSw; (try dsimp only at hSw); go_simp; try (with_reducible rfl))
      (try simp only [Act.put, List.setIfInBounds_toArray, List.set_cons_zero, List.set_cons_succ])
      refine' wpAnyH_take (i := 5) (oi := _) (v := _) ?hi34 (by kernel_rfl) (by kernel_rfl) (by kernel_rfl) (fun _ _ _ h => h) (Or.inl ⟨?hw34, ?hy34⟩) hHeld0 ?rest34
      case hi34 => (simp only [List.getElem?_toArray, List.getElem?_cons_succ, List.getElem?_cons_zero]; rfl)
      case hw34 => rfl
      case hy34 => (intro w hSw; (try dsimp only at hSw); go_simp; try (with_reducible rfl))
      (try simp only [Act.put, List.setIfInBounds_toArray, List.set_cons_zero, List.set_cons_succ])
      refine' wpAnyH_take (i := 6) (oi := _) (v := _) ?hi35 (by kernel_rfl) (by kernel_rfl) (by kernel_rfl) (fun _ _ _ h => h) (Or.inl ⟨?hw35, ?hy35⟩) hHeld0 ?rest35
      case hi35 => (simp only [List.getElem?_toArray, List.getElem?_cons_succ, List.getElem?_cons_zero]; rfl)
      case hw35 => rfl
      case hy35 => (intro w hSw; (try dsimp only at hSw); go_simp; try (with_reducible rfl))
      (try simp only [Act.put, List.setIfInBounds_toArray, List.set_cons_zero, List.set_cons_succ])
      refine wpAnyH_ready (rs := [7, 11]) (by kernel_rfl) (by simp) ?_
      refine' AllReadyH.cons (o := _) ?ho37 (fun K hK => ?step37) ?more37
      case ho37 => (simp only [List.getElem?_toArray, List.getElem?_cons_succ, List.getElem?_cons_zero]; rfl)
      case step37 =>
        go_simp
        go_at_call 11; refine (HOF.out _ (HKN3.out.trans (Keeps.mono (S := []) (by first | exact (Keeps.refl _ _).drew | exact ((Keeps.refl _ _).drew).alloc _) (by simp)))).mono ?_; rintro e w' ⟨rfl, hk⟩; try (have h5 := hk.at (At.drew (At.new W3 (obO 0 0 0))) (by simp); have x0 := h5.cell 0 rfl; have x1 := h5.cell 1 rfl; have x2 := h5.cell 2 rfl; have z0 := h5.free 0; have z1 := h5.free 1; have z2 := h5.free 2)
        (try go_wp2_with fail)
        refine hK.out _ _ ?_ (fun hHeld1 => ?_)
        · (try dsimp only); (refine HCS.out _ ?_; repeat' (first | assumption | exact Keeps.refl _ _ | refine Keeps.drew ?_ | refine Keeps.alloc ?_ _ | (refine Keeps.trans ?_ hk) | (refine Keeps.set ?_ (by right; first | (simp; done) | (have hkz := hk.size; simp at hkz ⊢; omega)) _)))
        clear hK K hHeld0
        (try simp only [Act.put, List.setIfInBounds_toArray, List.set_cons_zero, List.set_cons_succ])
        refine' wpAnyH_take (i := 8) (oi := _) (v := _) ?hi38 (by kernel_rfl) (by kernel_rfl) (by kernel_rfl) (fun _ _ _ h => h) (Or.inl ⟨?hw38, ?hy38⟩) hHeld1 ?rest38
        case hi38 => (simp only [List.getElem?_toArray, List.getElem?_cons_succ, List.getElem?_cons_zero]; rfl)
        case hw38 => rfl
        case hy38 => (intro w hSw; (try dsimp only at hSw); go_simp; try (with_reducible rfl))
        (try simp only [Act.put, List.setIfInBounds_toArray, List.set_cons_zero, List.set_cons_succ])
        refine' wpAnyH_take (i := 9) (oi := _) (v := _) ?hi39 (by kernel_rfl) (by kernel_rfl) (by kernel_rfl) (fun _ _ _ h => h) (Or.inl ⟨?hw39, ?hy39⟩) hHeld1 ?rest39
        case hi39 => (simp only [List.getElem?_toArray, List.getElem?_cons_succ, List.getElem?_cons_zero]; rfl)
        case hw39 => rfl
        case hy39 => (intro w hSw; (try dsimp only at hSw); go_simp; try (with_reducible rfl))
        (try simp only [Act.put, List.setIfInBounds_toArray, List.set_cons_zero, List.set_cons_succ])
        refine' wpAnyH_take (i := 10) (oi := _) (v := _) ?hi40 (by kernel_rfl) (by kernel_rfl) (by kernel_rfl) (fun _ _ _ h => h) (Or.inl ⟨?hw40, ?hy40⟩) hHeld1 ?rest40
        case hi40 => (simp only [List.getElem?_toArray, List.getElem?_cons_succ, List.getElem?_cons_zero]; rfl)
        case hw40 => rfl
        case hy40 => (intro w hSw; (try dsimp only at hSw); go_simp; try (with_reducible rfl))
        (try simp only [Act.put, List.setIfInBounds_toArray, List.set_cons_zero, List.set_cons_succ])
        refine wpAnyH_ready (rs := [11]) (by kernel_rfl) (by simp) ?_
        refine' AllReadyH.cons (o := _) ?ho42 (fun K hK => ?step42) ?more42
        case ho42 => (simp only [List.getElem?_toArray, List.getElem?_cons_succ, List.getElem?_cons_zero]; rfl)
        case step42 =>
          go_simp
          refine hK.out _ _ ?_ (fun hHeld2 => ?_)
          · (try dsimp only); (refine HCS.out _ ?_; repeat' (first | assumption | exact Keeps.refl _ _ | refine Keeps.drew ?_ | refine Keeps.alloc ?_ _ | (refine Keeps.trans ?_ hk) | (refine Keeps.set ?_ (by right; first | (simp; done) | (have hkz := hk.size; simp at hkz ⊢; omega)) _)))
          clear hK K hHeld1
          (try simp only [Act.put, List.setIfInBounds_toArray, List.set_cons_zero, List.set_cons_succ])
          refine wpAnyH_ready (rs := [12]) (by kernel_rfl) (by simp) ?_
          refine' AllReadyH.cons (o := _) ?ho44 (fun K hK => ?step44) ?more44
          case ho44 => (simp only [List.getElem?_toArray, List.getElem?_cons_succ, List.getElem?_cons_zero]; rfl)
          case step44 =>
            go_simp
            refine hK.out _ _ ?_ (fun hHeld3 => ?_)
            · (try dsimp only); (refine HCS.out _ ?_; repeat' (first | assumption | exact Keeps.refl _ _ | refine Keeps.drew ?_ | refine Keeps.alloc ?_ _ | (refine Keeps.trans ?_ hk) | (refine Keeps.set ?_ (by right; first | (simp; done) | (have hkz := hk.size; simp at hkz ⊢; omega)) _)))
            clear hK K hHeld2
            (try simp only [Act.put, List.setIfInBounds_toArray, List.set_cons_zero, List.set_cons_succ])
            refine wpAnyH_ready (rs := [13]) (by kernel_rfl) (by simp) ?_
            refine' AllReadyH.cons (o := _) ?ho46 (fun K hK => ?step46) ?more46
            case ho46 => (simp only [List.getElem?_toArray, List.getElem?_cons_succ, List.getElem?_cons_zero]; rfl)
            case step46 =>
              go_simp
              refine hK.out _ _ ?_ (fun hHeld4 => ?_)
              · (try dsimp only); (refine HCS.out _ ?_; repeat' (first | assumption | exact Keeps.refl _ _ | refine Keeps.drew ?_ | refine Keeps.alloc ?_ _ | (refine Keeps.trans ?_ hk) | (refine Keeps.set ?_ (by right; first | (simp; done) | (have hkz := hk.size; simp at hkz ⊢; omega)) _)))
              clear hK K hHeld3
              (try simp only [Act.put, List.setIfInBounds_toArray, List.set_cons_zero, List.set_cons_succ])
              refine wpAnyH_done (by kernel_rfl) ?_ _
              refine OnlyN.normal ?_
              have hRB := At.new w' (obO 0 0 0)
              have kX : Keeps [] W3 (w'.alloc (obO 0 0 0)) := ((Keeps.refl [] W3).drew.trans hk).alloc _
              obtain ⟨X, hX⟩ : ∃ X, X = (w'.alloc (obO 0 0 0)) := ⟨_, rfl⟩
              rw [← hX] at hRB kX
              first | rw [← hX] | skip
              obtain ⟨qb, hqb⟩ : ∃ q, q = w'.heap.size := ⟨_, rfl⟩
              rw [← hqb] at hRB
              first | rw [← hqb] | skip
              have hO5 := kX.at HO3.out (by simp)
              have hN5 := kX.at HN3.out (by simp)
              have hst := hN5.set 0 (.int .i64 ((i : Int) + 1))
              have hkt : Keeps [nb] W₂ (X.setCell ⟨nb, 0, none⟩ (.int .i64 ((i : Int) + 1))) := ((HK23.out.trans kX).mono (by simp)).set (p := ⟨nb, 0, none⟩) (.inl (by simp)) _
              have HST := hid (And.intro hst hkt)
              have o0 := hO5.cell 0 rfl
              have o1 := hO5.cell 1 rfl
              have o2 := hO5.cell 2 rfl
              have n0 := hN5.cell 0 rfl
              have nf := hN5.free 0
              have p0 := hRB.cell 0 rfl
              have p1 := hRB.cell 1 rfl
              have p2 := hRB.cell 2 rfl
              have e1 : IntKind.i64.wrap ((i : Int) + 1) = (i : Int) + 1 := IntWalk.i64_in _ (by have := HM.out; have := HLN.out; omega)
              clear hX hqb hk kX hRB hO5 hN5 hst hkt
              gi_wp2_with fail
              refine ⟨⟨?_, ?_, ?_⟩, [nb], HST.out.2, ?_, ?_, fun b hb => .inl (by obtain rfl := List.mem_singleton.1 hb; exact HN2.out.2)⟩
              · have := HLT.out; omega
              · exact HST.out.1
              · exact hKN.out.trans HST.out.2
              · have := HZ13.out; simp; omega
              · have := HZ13.out; simp; omega
            exact AllReadyH.nil
          exact AllReadyH.nil
        exact AllReadyH.nil
      refine' AllReadyH.cons (o := _) ?ho47 (fun K hK => ?step47) ?more47
      case ho47 => (simp only [List.getElem?_toArray, List.getElem?_cons_succ, List.getElem?_cons_zero]; rfl)
      case step47 =>
        go_simp
        refine hK.out _ _ ?_ (fun hHeld1 => ?_)
        · (try dsimp only); (refine HCS.out _ ?_; repeat' (first | assumption | exact Keeps.refl _ _ | refine Keeps.drew ?_ | refine Keeps.alloc ?_ _ | (refine Keeps.trans ?_ hk) | (refine Keeps.set ?_ (by right; first | (simp; done) | (have hkz := hk.size; simp at hkz ⊢; omega)) _)))
        clear hK K hHeld0
        (try simp only [Act.put, List.setIfInBounds_toArray, List.set_cons_zero, List.set_cons_succ])
        refine wpAnyH_ready (rs := [7]) (by kernel_rfl) (by simp) ?_
        refine' AllReadyH.cons (o := _) ?ho49 (fun K hK => ?step49) ?more49
        case ho49 => (simp only [List.getElem?_toArray, List.getElem?_cons_succ, List.getElem?_cons_zero]; rfl)
        case step49 =>
          go_simp
          go_at_call 11; refine (HOF.out _ (HKN3.out.trans (Keeps.mono (S := []) (by first | exact (Keeps.refl _ _).drew | exact ((Keeps.refl _ _).drew).alloc _) (by simp)))).mono ?_; rintro e w' ⟨rfl, hk⟩; try (have h5 := hk.at (At.drew (At.new W3 (obO 0 0 0))) (by simp); have x0 := h5.cell 0 rfl; have x1 := h5.cell 1 rfl; have x2 := h5.cell 2 rfl; have z0 := h5.free 0; have z1 := h5.free 1; have z2 := h5.free 2)
          (try go_wp2_with fail)
          refine hK.out _ _ ?_ (fun hHeld2 => ?_)
          · (try dsimp only); (refine HCS.out _ ?_; repeat' (first | assumption | exact Keeps.refl _ _ | refine Keeps.drew ?_ | refine Keeps.alloc ?_ _ | (refine Keeps.trans ?_ hk) | (refine Keeps.set ?_ (by right; first | (simp; done) | (have hkz := hk.size; simp at hkz ⊢; omega)) _)))
          clear hK K hHeld1
          (try simp only [Act.put, List.setIfInBounds_toArray, List.set_cons_zero, List.set_cons_succ])
          refine' wpAnyH_take (i := 8) (oi := _) (v := _) ?hi50 (by kernel_rfl) (by kernel_rfl) (by kernel_rfl) (fun _ _ _ h => h) (Or.inl ⟨?hw50, ?hy50⟩) hHeld2 ?rest50
          case hi50 => (simp only [List.getElem?_toArray, List.getElem?_cons_succ, List.getElem?_cons_zero]; rfl)
          case hw50 => rfl
          case hy50 => (intro w hSw; (try dsimp only at hSw); go_simp; try (with_reducible rfl))
          (try simp only [Act.put, List.setIfInBounds_toArray, List.set_cons_zero, List.set_cons_succ])
          refine' wpAnyH_take (i := 9) (oi := _) (v := _) ?hi51 (by kernel_rfl) (by kernel_rfl) (by kernel_rfl) (fun _ _ _ h => h) (Or.inl ⟨?hw51, ?hy51⟩) hHeld2 ?rest51
          case hi51 => (simp only [List.getElem?_toArray, List.getElem?_cons_succ, List.getElem?_cons_zero]; rfl)
          case hw51 => rfl
          case hy51 => (intro w hSw; (try dsimp only at hSw); go_simp; try (with_reducible rfl))
          (try simp only [Act.put, List.setIfInBounds_toArray, List.set_cons_zero, List.set_cons_succ])
          refine' wpAnyH_take (i := 10) (oi := _) (v := _) ?hi52 (by kernel_rfl) (by kernel_rfl) (by kernel_rfl) (fun _ _ _ h => h) (Or.inl ⟨?hw52, ?hy52⟩) hHeld2 ?rest52
          case hi52 => (simp only [List.getElem?_toArray, List.getElem?_cons_succ, List.getElem?_cons_zero]; rfl)
          case hw52 => rfl
          case hy52 => (intro w hSw; (try dsimp only at hSw); go_simp; try (with_reducible rfl))
          (try simp only [Act.put, List.setIfInBounds_toArray, List.set_cons_zero, List.set_cons_succ])
          refine wpAnyH_ready (rs := [12]) (by kernel_rfl) (by simp) ?_
          refine' AllReadyH.cons (o := _) ?ho54 (fun K hK => ?step54) ?more54
          case ho54 => (simp only [List.getElem?_toArray, List.getElem?_cons_succ, List.getElem?_cons_zero]; rfl)
          case step54 =>
            go_simp
            refine hK.out _ _ ?_ (fun hHeld3 => ?_)
            · (try dsimp only); (refine HCS.out _ ?_; repeat' (first | assumption | exact Keeps.refl _ _ | refine Keeps.drew ?_ | refine Keeps.alloc ?_ _ | (refine Keeps.trans ?_ hk) | (refine Keeps.set ?_ (by right; first | (simp; done) | (have hkz := hk.size; simp at hkz ⊢; omega)) _)))
            clear hK K hHeld2
            (try simp only [Act.put, List.setIfInBounds_toArray, List.set_cons_zero, List.set_cons_succ])
            refine wpAnyH_ready (rs := [13]) (by kernel_rfl) (by simp) ?_
            refine' AllReadyH.cons (o := _) ?ho56 (fun K hK => ?step56) ?more56
            case ho56 => (simp only [List.getElem?_toArray, List.getElem?_cons_succ, List.getElem?_cons_zero]; rfl)
            case step56 =>
              go_simp
              refine hK.out _ _ ?_ (fun hHeld4 => ?_)
              · (try dsimp only); (refine HCS.out _ ?_; repeat' (first | assumption | exact Keeps.refl _ _ | refine Keeps.drew ?_ | refine Keeps.alloc ?_ _ | (refine Keeps.trans ?_ hk) | (refine Keeps.set ?_ (by right; first | (simp; done) | (have hkz := hk.size; simp at hkz ⊢; omega)) _)))
              clear hK K hHeld3
              (try simp only [Act.put, List.setIfInBounds_toArray, List.set_cons_zero, List.set_cons_succ])
              refine wpAnyH_done (by kernel_rfl) ?_ _
              refine OnlyN.normal ?_
              have hRB := ((h5.set 0 (.int .i64 0)).set 1 (.int .i64 0)).set 2 (.int .i64 0)
              have kX : Keeps [] W3 (((w'.setCell ⟨W3.heap.size, 0, none⟩ (.int .i64 0)).setCell ⟨W3.heap.size, 1, none⟩ (.int .i64 0)).setCell ⟨W3.heap.size, 2, none⟩ (.int .i64 0)) := (((((Keeps.refl [] W3).alloc _).drew.trans hk).set (.inr (Nat.le_refl _)) _).set (.inr (Nat.le_refl _)) _).set (.inr (Nat.le_refl _)) _
              obtain ⟨X, hX⟩ : ∃ X, X = (((w'.setCell ⟨W3.heap.size, 0, none⟩ (.int .i64 0)).setCell ⟨W3.heap.size, 1, none⟩ (.int .i64 0)).setCell ⟨W3.heap.size, 2, none⟩ (.int .i64 0)) := ⟨_, rfl⟩
              rw [← hX] at hRB kX
              first | rw [← hX] | skip
              obtain ⟨qb, hqb⟩ : ∃ q, q = W3.heap.size := ⟨_, rfl⟩
              rw [← hqb] at hRB
              first | rw [← hqb] | skip
              have hO5 := kX.at HO3.out (by simp)
              have hN5 := kX.at HN3.out (by simp)
              have hst := hN5.set 0 (.int .i64 ((i : Int) + 1))
              have hkt : Keeps [nb] W₂ (X.setCell ⟨nb, 0, none⟩ (.int .i64 ((i : Int) + 1))) := ((HK23.out.trans kX).mono (by simp)).set (p := ⟨nb, 0, none⟩) (.inl (by simp)) _
              have HST := hid (And.intro hst hkt)
              have o0 := hO5.cell 0 rfl
              have o1 := hO5.cell 1 rfl
              have o2 := hO5.cell 2 rfl
              have n0 := hN5.cell 0 rfl
              have nf := hN5.free 0
              have p0 := hRB.cell 0 rfl
              have p1 := hRB.cell 1 rfl
              have p2 := hRB.cell 2 rfl
              have e1 : IntKind.i64.wrap ((i : Int) + 1) = (i : Int) + 1 := IntWalk.i64_in _ (by have := HM.out; have := HLN.out; omega)
              clear hX hqb hk kX hRB hO5 hN5 hst hkt h5 x0 x1 x2 z0 z1 z2
              gi_wp2_with fail
              refine ⟨⟨?_, ?_, ?_⟩, [nb], HST.out.2, ?_, ?_, fun b hb => .inl (by obtain rfl := List.mem_singleton.1 hb; exact HN2.out.2)⟩
              · have := HLT.out; omega
              · exact HST.out.1
              · exact hKN.out.trans HST.out.2
              · have := HZ13.out; simp; omega
              · have := HZ13.out; simp; omega
            exact AllReadyH.nil
          exact AllReadyH.nil
        exact AllReadyH.nil
      exact AllReadyH.nil
  case after =>
    intro e w14 hr
    cases e with
    | panicked _ => exact hr
    | outgrown => exact hr
    | returned v9 =>
      rcases hr with ⟨w15, hend, ⟨hil, hA, hK⟩, hDf⟩ | ⟨w15, hend, h, hDf⟩
      case inr => exact h.elim
      refine .inl ⟨w15, hend, ?_⟩
      rw [← HM.out.1] at hA
      have hn : ∀ b, b < nb → b ∉ [nb] := fun b h => by simp; omega
      have hz := HZ13.out
      have hz4 := HZ4.out
      have hD15 := hK.at HD13.out (hn _ (by omega))
      have hC15 := hK.at HC13.out (hn _ (by omega))
      have hB15 := hK.at HB13.out (hn _ (by omega))
      have hW15 := hK.at HA13.out (hn _ (by omega))
      have hR15 := hK.at HR13.out (hn _ (by omega))
      have hO15 := HW13.out.keep hK (fun b hb => hn _ (hz.2.2.2.2.1 b hb).2)
      have hDv15 := HDv.out.keep hK (by have := HDW13.out; simp; omega) (by have := HDW13.out; simp; omega) (by have := HDW13.out; simp; omega) (by have := HDW13.out; simp; omega)
      have HK15 : Hid (Keeps [] W w15) := HK13.out.new hK (fun b hb => .inr (by have := List.mem_singleton.1 hb; have := HK3.out.size; omega))
      obtain ⟨db, hdb⟩ : ∃ db, db = w13.heap.size := ⟨_, rfl⟩
      rw [← hdb] at hDf ⊢
      have HDB : Hid (W.heap.size ≤ db ∧ rb < db) := ⟨by rw [hdb]; exact HK13.out.size, by omega⟩
      have HDf := hid hDf
      have HN15 := hid hA
      have HW15 := hid hW15
      have HR15 := hid hR15
      have HO15 := hid hO15
      have HDv15 := hid hDv15
      have d0 := hD15.cell 0 rfl
      have c0 := hC15.cell 0 rfl
      have c1 := hC15.cell 1 rfl
      have c2 := hC15.cell 2 rfl
      have b0 := hB15.cell 0 rfl
      have b1 := hB15.cell 1 rfl
      have b2 := hB15.cell 2 rfl
      clear hend hil hA hK hDf hn hz hz4 hD15 hC15 hB15 hW15 hR15 hO15 hDv15 hdb
      simp only [Exit.inBlock, Exit.then]
      go_wp2_with fail
      refine (starts_at w15 p a S2 c 0 us lc er HDv15.out HO.out HN.out (by omega) HHC.out (.slice x c.roots cp)).mono ?_
      rintro e w16 ⟨mb, rfl, hI16, _, k16⟩
      rw [show (Value.int .i64 (if er = true then 8 else 0)) = .int .i64 cd by rw [HCD.out]; rfl]
      have HI16 := hid hI16
      have HW16 := hid (k16.at HW15.out (by simp))
      have HN16 := hid (k16.at HN15.out (by simp))
      have HR16 := hid (k16.at HR15.out (by simp))
      have HO16 := hid (HO15.out.keep k16 (by simp))
      have HF16 := hid (k16.at HDf.out (by simp))
      have HK16 := hid (HK15.out.trans k16)
      clear hI16 k16 d0 c0 c1 c2 b0 b1 b2
      have a0 := HW16.out.cell 0 rfl
      have n0 := HN16.out.cell 0 rfl
      have q1 : ((cd : Int) != 0) = er := by rw [HCD.out]; unfold cdE; cases er <;> rfl
      have q2 : ((M : Int) != (M : Int)) = false := by simp
      have q3 : ((cd : Int) != (cd : Int)) = false := by simp
      go_upto_if 181 with fail
      go_cut [29] from 182 to 183 (fun s29 wx => s29 = .int .i64 (lc.length : Nat) ∧ wx = w16)
      case first =>
        cases er with
        | false =>
          go_wp2_with fail
          go_meet
          exact ⟨by rw [HM.out.1]; rfl, rfl⟩
        | true =>
          have e1 : IntKind.i64.wrap ((M : Int) - 1) = (M : Int) - 1 := IntWalk.i64_in _ (by omega)
          go_wp2_with fail
          go_meet
          exact ⟨by rw [show ((M : Int) - 1) = (lc.length : Nat) by have := HM.out.1; unfold objM at this; simp at this; omega], rfl⟩
      case rest =>
      obtain ⟨rfl, hw⟩ := hcut
      obtain rfl : w16 = wc := hw.symm
      clear q1 q2 q3 n0 hw
      go_wp2_with fail
      clear a0
      go_loopg [186] M (fun rr s186 wx => ∃ i : Nat, i + rr = M ∧ s186 = .int .i64 i ∧ Keeps [] w16 wx)
      case atStart => exact ⟨0, by omega, rfl, Keeps.refl _ _⟩
      case round =>
        obtain ⟨i, hi, rfl, hK⟩ := hrel
        by_cases hiM : i < M
        · have hIr := HI16.out.keep hK (by simp)
          have hOr := HO16.out.keep hK (by simp)
          obtain ⟨g, hgx, hgB, hgl, hgc⟩ := hOr.cell (by omega)
          obtain ⟨zi, hzi⟩ : ∃ zi, zi = ff + posL lc i := ⟨_, rfl⟩
          have y0 := hgc i hiM
          rw [← hzi] at y0
          subst hgx
          have hiMi : (i : Int) < (M : Int) := by omega
          have HZI : Hid (((zi : Nat) : Int) = ((c.frm 0 + posL lc i : Nat) : Int)) := by show _ = _; rw [hzi, HFF.out]
          have HII := hid hi
          have HKW := hid hK
          by_cases hlt : i < lc.length
          · have lk := stD_lookup hIr hlt (zi : Nat) HZI.out true
            simp only [if_true] at lk
            obtain ⟨nn, hnn⟩ : ∃ nn, nn = nL lc i := ⟨_, rfl⟩
            obtain ⟨rr, hrr⟩ : ∃ rr, rr = rL lc i := ⟨_, rfl⟩
            rw [← hnn, ← hrr] at lk
            have hli : (i : Int) < (lc.length : Int) := by omega
            have t1 : decide ((i : Int) < (lc.length : Int)) = true := decide_eq_true hli
            have t2 : ((zi : Int) != (zi : Int)) = false := by simp
            have hB := At.new wr (obO (nn : Nat) (rr : Nat) (zi : Nat))
            have o1 := hB.cell 1 rfl
            have o2 := hB.cell 2 rfl
            have o0 := hB.cell 0 rfl
            have HKE : Hid (Keeps [] w16 (wr.alloc (obO (nn : Nat) (rr : Nat) (zi : Nat)))) := hK.alloc _
            clear hnn hrr hi hzi hgB hgl hgc hlt hIr hOr hK hB hiM
            go_wp2_with fail
            go_roundg (M - (i + 1))
            case measure => (have := HII.out; omega)
            case rel => exact ⟨i + 1, by have := HII.out; omega, by go_num, HKE.out⟩
          · have hie : i = lc.length := by have := HM.out.2; omega
            have lk := stD_missed hIr (zi : Nat) (fun j hj e => by
              rw [HZI.out, hie] at e
              have e : c.frm 0 + posL lc lc.length = c.frm 0 + posL lc j := by exact_mod_cast e
              have := posL_lt hj (Nat.le_refl _)
              omega) true
            simp only [if_true] at lk
            have hli : (lc.length : Int) ≤ (i : Int) := by omega
            have t1 : decide ((i : Int) < (lc.length : Int)) = false := decide_eq_false (by omega)
            have HKE : Hid (Keeps [] w16 (wr.alloc (obO 0 0 0))) := hK.alloc _
            clear hi hzi hgB hgl hgc hlt hIr hOr hK hie hiM
            go_wp2_with fail
            go_roundg (M - (i + 1))
            case measure => (have := HII.out; omega)
            case rel => exact ⟨i + 1, by have := HII.out; omega, by go_num, HKE.out⟩
        · have hie : i = M := by omega
          have hIr := HI16.out.keep hK (by simp)
          have hl := stD_len hIr
          have hWr := hK.at HW16.out (by simp)
          have a0 := hWr.cell 0 rfl
          have hRr := hK.at HR16.out (by simp)
          have r0 := hRr.cell 0 rfl
          have rf := hRr.free 0
          have HRr := hid hRr
          have HFr := hid (hK.at HF16.out (by simp))
          have HKr := hid (HK16.out.trans hK)
          have q1 : ((lc.length : Int) == (lc.length : Int)) = true := by simp
          have s1 : (st : Int) % 3 = (sm : Int) := by rw [HSM.out]; exact (Int.natCast_emod st 3).symm
          have s2 : (st : Int).tmod 3 = (sm : Int) := by rw [Int.tmod_eq_emod_of_nonneg (by omega)]; exact s1
          have s3 : IntKind.u8.wrap (sm : Int) = (sm : Int) := IntWalk.u8_in _ (by omega)
          have hIE := hid hie
          clear hi hiM hIr hWr hRr hK
          subst hie
          by_cases hs0 : sm = 0
          · have t1 : decide ((0 : Int) < (sm : Int)) = false := decide_eq_false (by omega)
            have t2 : decide (0 < sm) = false := decide_eq_false (by omega)
            have t3 : ((i : Int) == (L : Int)) = true := by
              rw [beq_iff_eq]
              obtain ⟨h1, h2⟩ := HST0.out (by have := HSM.out; omega)
              have h3 := HM.out.1
              have h4 := HL.out
              rw [h1, h2] at h3
              unfold objM at h3
              simp at h3
              omega
            clear hs0
            go_wp2_with fail
            have hdr := HDB.out
            have hrb : W.heap.size ≤ rb := by have := HQ.out; omega
            have hDf := HFr.out.set_ne (a := ⟨rb, 0, none⟩) (by show db ≠ rb; omega) (.bool true)
            have kd : Keeps [db] (wr.setCell ⟨rb, 0, none⟩ (.bool true)) ((wr.setCell ⟨rb, 0, none⟩ (.bool true)).putObj db (.deferred none)) := (Keeps.refl _ _).put (.inl (by simp)) _
            refine ⟨by simp, .inl ⟨_, _, rfl, run_takeDeferred hDf, ?_⟩⟩
            have cf := ((kd.at (HRr.out.set 0 (.bool true)) (by simp; omega)).cell 0 rfl : _ = some (Value.bool true))
            refine ⟨.bool true, ?_, rfl, ?_⟩
            · simp [results, Tryz.results3, go_sem, cf]
            · exact ((HKr.out.set (.inr hrb) _).new kd (fun b hb => .inr (by have := List.mem_singleton.1 hb; omega))).below (Nat.le_refl _) (by simp)
          · have t1 : decide ((0 : Int) < (sm : Int)) = true := decide_eq_true (by omega)
            have t2 : decide (0 < sm) = true := decide_eq_true (by omega)
            clear hs0
            go_wp2_with fail
            have hdr := HDB.out
            have hrb : W.heap.size ≤ rb := by have := HQ.out; omega
            have hDf := HFr.out.set_ne (a := ⟨rb, 0, none⟩) (by show db ≠ rb; omega) (.bool true)
            have kd : Keeps [db] (wr.setCell ⟨rb, 0, none⟩ (.bool true)) ((wr.setCell ⟨rb, 0, none⟩ (.bool true)).putObj db (.deferred none)) := (Keeps.refl _ _).put (.inl (by simp)) _
            refine ⟨by simp, .inl ⟨_, _, rfl, run_takeDeferred hDf, ?_⟩⟩
            have cf := ((kd.at (HRr.out.set 0 (.bool true)) (by simp; omega)).cell 0 rfl : _ = some (Value.bool true))
            refine ⟨.bool true, ?_, rfl, ?_⟩
            · simp [results, Tryz.results3, go_sem, cf]
            · exact ((HKr.out.set (.inr hrb) _).new kd (fun b hb => .inr (by have := List.mem_singleton.1 hb; omega))).below (Nat.le_refl _) (by simp)

theorem walkObjects_walk (l r s : Int) (y : Option Addr) (m cm : Nat) (z : Nat → Nat → Int) (ap v : Int) (heads : Bool) (st : Int) (W : World) (wl : (Lit.int .u16 l).wf = true) (wr : (Lit.int .u16 r).wf = true) (ws : (Lit.int .u16 s).wf = true)
    (R2 : m * 2 = 0 ∨ ∃ b off, y = some ⟨b, off, none⟩ ∧ b < W.heap.size ∧ ∀ i j, i < m → j < 2 → W.cell? ⟨b, off + (i * 2 + j), none⟩ = some (.int ((fun j => if j = 0 then IntKind.u8 else IntKind.u8) j) (z i j)) ∧ (Lit.int ((fun j => if j = 0 then IntKind.u8 else IntKind.u8) j) (z i j)).wf = true) (hm : m ≤ maxLen)
    (wa : (Lit.int .u16 ap).wf = true) (wv : (Lit.int .u64 v).wf = true) (wu : (Lit.int .u8 st).wf = true) :
    Calls Tryz.prog 3 #[.agg #[.int .u16 l, .int .u16 r, .int .u16 s], .slice y m cm, .int .u16 ap, .int .u64 v, .bool heads, .int .u8 st] W fun e w' => e = .returned (.bool true) ∧ Below W.heap.size W w' := by
  obtain ⟨l, rfl, hl⟩ := c3_open wl
  obtain ⟨r, rfl, hr⟩ := c3_open wr
  obtain ⟨s, rfl, hs⟩ := c3_open ws
  obtain ⟨ap, rfl, ha⟩ := c3_open wa
  have hk := bounds_u8 wu
  have hv := bounds_u64 wv
  obtain ⟨st, rfl⟩ : ∃ n : Nat, (n : Int) = st := ⟨st.toNat, by omega⟩
  obtain ⟨v, rfl⟩ : ∃ n : Nat, (n : Int) = v := ⟨v.toNat, by omega⟩
  exact objects_small l r s y m cm _ _ ap v heads st W hl hr hs (readsH_of R2) (by unfold maxLen at hm; omega) ha (by omega) (by omega)

end Go.Proofs.YtcdlikblebdfkaaGreat
