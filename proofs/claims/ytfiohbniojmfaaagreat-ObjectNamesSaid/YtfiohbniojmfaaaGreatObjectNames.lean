/- The walk of the law ObjectNames. -/
import Derived.Test.YtfiohbniojmfaaaGreatAwk10
import Derived.Test.YtfiohbniojmfaaaGreatNam
import Derived.Deep.AppendLies
namespace Go.Proofs.YtfiohbniojmfaaaGreat
open Go.RowKit Go.OpenShut

/-- The names that are wanted, of the first so many fields. -/
def wantL (g : Nat → Nat) (k : Nat) : List (Nat × Nat) := ((List.range k).filter fun j => g j != 0).map fun j => (j, g j)

theorem wantL_zero (g : Nat → Nat) : wantL g 0 = [] := rfl
theorem wantL_no {g : Nat → Nat} {k : Nat} (h : g k = 0) : wantL g (k + 1) = wantL g k := by simp [wantL, List.range_succ, List.filter_append, h]
theorem wantL_yes {g : Nat → Nat} {k : Nat} (h : g k ≠ 0) : wantL g (k + 1) = wantL g k ++ [(k, g k)] := by simp [wantL, List.range_succ, List.filter_append, h]
theorem wantL_split (g : Nat → Nat) {k n : Nat} (h : k ≤ n) : ∃ R, wantL g n = wantL g k ++ R := by
  induction n with
  | zero => obtain rfl : k = 0 := by omega
            exact ⟨[], by simp⟩
  | succ n ih =>
    rcases Nat.lt_or_ge k (n + 1) with h1 | h1
    · obtain ⟨R, hR⟩ := ih (by omega)
      by_cases hg : g n = 0
      · exact ⟨R, by rw [wantL_no hg, hR]⟩
      · exact ⟨R ++ [(n, g n)], by rw [wantL_yes hg, hR, List.append_assoc]⟩
    · obtain rfl : k = n + 1 := by omega
      exact ⟨[], by simp⟩
/-- The next one of them. -/
theorem wantL_at {g : Nat → Nat} {k n : Nat} (h : k < n) (hg : g k ≠ 0) : (wantL g n)[(wantL g k).length]? = some (k, g k) := by
  obtain ⟨R, hR⟩ := wantL_split g (show k + 1 ≤ n from h)
  rw [hR, wantL_yes hg, List.append_assoc, List.getElem?_append_right (Nat.le_refl _)]
  simp
theorem wantL_le (g : Nat → Nat) (k : Nat) : (wantL g k).length ≤ k := by
  unfold wantL
  rw [List.length_map]
  exact Nat.le_trans (List.length_filter_le _ _) (by simp)

/-! Rows of pairs. -/
def pairL (L : List (Nat × Nat)) : List Value := L.flatMap fun x => [.int .i64 (x.1 : Nat), .int .i64 (x.2 : Nat)]

theorem pairL_len : ∀ L : List (Nat × Nat), (pairL L).length = L.length * 2
  | [] => rfl
  | x :: L => by
    show (_ ++ pairL L).length = _
    rw [List.length_append, pairL_len L]
    simp; omega

theorem pairL_get : ∀ (L : List (Nat × Nat)) (i : Nat) (x : Nat × Nat), L[i]? = some x → (pairL L)[i * 2]? = some (.int .i64 (x.1 : Nat)) ∧ (pairL L)[i * 2 + 1]? = some (.int .i64 (x.2 : Nat))
  | [], i, x, h => by simp at h
  | y :: L, 0, x, h => by
    simp at h; subst h
    exact ⟨rfl, rfl⟩
  | y :: L, i + 1, x, h => by
    have := pairL_get L i x (by simpa using h)
    show ([.int .i64 (y.1 : Nat), .int .i64 (y.2 : Nat)] ++ pairL L : List Value)[(i + 1) * 2]? = _ ∧ ([.int .i64 (y.1 : Nat), .int .i64 (y.2 : Nat)] ++ pairL L : List Value)[(i + 1) * 2 + 1]? = _
    rw [show (i + 1) * 2 = 2 + i * 2 by omega, show 2 + i * 2 + 1 = 2 + (i * 2 + 1) by omega]
    rw [List.getElem?_append_right (by simp), List.getElem?_append_right (by simp)]
    simpa [show 2 + i * 2 - 2 = i * 2 by omega, show 2 + (i * 2 + 1) - 2 = i * 2 + 1 by omega] using this

theorem pairL_app (L : List (Nat × Nat)) (i v : Nat) : pairL L ++ [.int .i64 (i : Nat), .int .i64 (v : Nat)] = pairL (L ++ [(i, v)]) := by
  simp [pairL]

/-- A row of pairs of the call's own. -/
def OwnN (w : World) (B : Nat) (x : Option Addr) (cp n : Nat) (L : List (Nat × Nat)) : Prop :=
  L.length = n ∧ w.ownsRow B 68 2 (.slice x n cp) n (pairL L)

theorem ownN_nil (w : World) (B : Nat) : OwnN w B none 0 0 [] := ⟨rfl, rfl, .inl ⟨rfl, rfl⟩⟩

theorem OwnN.form {w : World} {B : Nat} {x : Option Addr} {cp n : Nat} {L : List (Nat × Nat)} (h : OwnN w B x cp n L) :
    (x = none ∧ n = 0) ∨ ∃ g cur, x = some ⟨g, 0, none⟩ ∧ B ≤ g ∧ At w g (.cells cur 68) ∧ ∀ i y, L[i]? = some y → cur[i * 2]? = some (.int .i64 (y.1 : Nat)) ∧ cur[i * 2 + 1]? = some (.int .i64 (y.2 : Nat)) := by
  obtain ⟨hl, _, ⟨h1, h2⟩ | ⟨g, cap, cur, h1, h2, h3, _, _, h6, h7⟩⟩ := h
  · injection h1 with h1; exact .inl ⟨h1, h2⟩
  · injection h1 with h1
    refine .inr ⟨g, cur, h1, h2, h3, fun i y hy => ?_⟩
    obtain ⟨hi, _⟩ := List.getElem?_eq_some_iff.1 hy
    obtain ⟨e1, e2⟩ := pairL_get L i y hy
    have k1 : (cur.toList.take (n * 2))[i * 2]? = (pairL L)[i * 2]? := by rw [h7]
    have k2 : (cur.toList.take (n * 2))[i * 2 + 1]? = (pairL L)[i * 2 + 1]? := by rw [h7]
    rw [List.getElem?_take_of_lt (by omega), Array.getElem?_toList, e1] at k1
    rw [List.getElem?_take_of_lt (by omega), Array.getElem?_toList, e2] at k2
    exact ⟨k1, k2⟩

theorem OwnN.keep {w w' : World} {B : Nat} {x : Option Addr} {cp n : Nat} {L : List (Nat × Nat)} {T : List Nat} (h : OwnN w B x cp n L) (hk : Keeps T w w') (hT : ∀ b ∈ blkL x, b ∉ T) : OwnN w' B x cp n L := by
  obtain ⟨hl, h0, h1 | ⟨g, cap, cur, h1, h2, h3, h4⟩⟩ := h
  · exact ⟨hl, h0, .inl h1⟩
  · refine ⟨hl, h0, .inr ⟨g, cap, cur, h1, h2, ?_, h4⟩⟩
    injection h1 with h1
    exact hk.at (show At w g (.cells cur 68) from h3) (hT g (by rw [h1]; simp [blkL]))

theorem OwnN.ge {w : World} {B : Nat} {x : Option Addr} {cp n : Nat} {L : List (Nat × Nat)} (h : OwnN w B x cp n L) : ∀ b ∈ blkL x, B ≤ b ∧ b < w.heap.size := by
  rcases h.form with ⟨rfl, _⟩ | ⟨g, cur, rfl, h1, h2, _⟩
  · simp [blkL]
  · simp [blkL]; exact ⟨h1, h2.lt⟩

/-- append of a pair, at a step of a region that draws. -/
theorem appN_step {ops : Array Oper} {o : Oper} {a : Act} {w : World} {K : Act → World → Prop} {Q : Exit → Act → World → Prop} {E : Prop} (hgd : o.guard = none) (s x : Operand)
    (ho : o.op = .call { callee := .builtin .append, args := #[s, x], argTypes := #[67, 67] })
    (B : Nat) (xx : Option Addr) (cp n : Nat) (L : List (Nat × Nat)) (hs : a.eval s = .slice xx n cp) (hown : OwnN w B xx cp n L) (b c i v : Nat) (hx : a.eval x = .slice (some ⟨b, 0, none⟩) 1 c) (hc : w.cell? ⟨b, 0, none⟩ = some (.int .i64 (i : Nat))) (hc2 : w.cell? ⟨b, 1, none⟩ = some (.int .i64 (v : Nat)))
    (hn : n ≤ 1000) (hB : B ≤ w.heap.size)
    (h : ∀ g cap w', OwnN w' B (some ⟨g, 0, none⟩) cap (n + 1) (L ++ [(i, v)]) → Keeps (blkL xx) w w' → (blkL xx = [g] ∨ w.heap.size ≤ g) → K (a.put o.dst (.slice (some ⟨g, 0, none⟩) (n + 1) cap)) w') :
    if Region.wanted o (yielded ops a.tmps) = true then Oper.wp Tryz.prog o a w K Q else E := by
  have hi : ∃ i, Tryz.prog.info? 68 = some i ∧ (i.zero, i.size, i.bytes) = (some (.agg #[.int .i64 0, .int .i64 0]), 2, 16) := by
    have h : (Tryz.prog.info? 68).map (fun i => (i.zero, i.size, i.bytes)) = some (some (.agg #[.int .i64 0, .int .i64 0]), 2, 16) := by kernel_rfl
    exact Option.map_eq_some_iff.1 h
  obtain ⟨ti, hi1, hi2⟩ := hi
  simp only [Prod.mk.injEq] at hi2
  obtain ⟨hz, hsz, hby⟩ := hi2
  refine step_append_lies w hgd s x 67 ho B 68 ti (.agg #[.int .i64 0, .int .i64 0]) 2 16 Tryz.underlying67 hi1 hz hsz hby rfl (by omega) _ n _ hs hown.2 ⟨b, 0, none⟩ 1 c [.int .i64 (i : Nat), .int .i64 (v : Nat)] hx rfl (fun j u hj => ?_) (by simp [Value.oneCell']) (by omega) (by unfold maxLen; omega) (by omega) hB w.heap.size rfl ?_
  · match j, hj with
    | 0, hj => simp at hj; subst hj; exact hc
    | 1, hj => simp at hj; subst hj; exact hc2
    | j + 2, hj => simp at hj
  · intro g cap w' h1 h2 h3 h4
    rw [pairL_app] at h1
    refine h g cap w' ⟨by simp [hown.1], h1⟩ (grown_keeps h2) ?_
    rcases h3 with h3 | h3
    · left
      cases xx with
      | none => simp [Value.ownBlock] at h3
      | some a => simp [Value.ownBlock] at h3; simp [blkL]; exact h3
    · right; omega

/-- Words of 16 bits, in a row. -/
def ReadsW (w : World) (y : Option Addr) (m : Nat) (G : Nat → Nat) : Prop :=
  m = 0 ∨ ∃ b off, y = some ⟨b, off, none⟩ ∧ b < w.heap.size ∧ ∀ i, i < m → w.cell? ⟨b, off + i, none⟩ = some (.int .u16 (G i : Nat)) ∧ G i ≤ 65535

/-- What the names are set to. -/
def nmF (m : Nat) (G : Nat → Nat) (i : Nat) : Nat := if i < m then G i % 4 else 0

/-- Between two names that are set. -/
def NmI (p : Nat) (a : DA) (wb zz : Nat) (g : Nat → Nat) (w6 : World) (i : Nat) (w : World) : Prop :=
  ∃ u S xw cw, Pw w p a (-1) u S ∧ u ≤ 200000 + (i : Int) ∧ (∀ j, j < 8 → S.now (zz + 1 + j) = if j < i then ((g j : Nat) : Int) else 0) ∧
    At w wb (.cells #[.slice xw (wantL g i).length cw] 67) ∧ OwnN w w6.heap.size xw cw (wantL g i).length (wantL g i) ∧ Keeps (wb :: [p, a.s, a.k, a.m]) w6 w

set_option maxRecDepth 100000 in
set_option maxHeartbeats 4000000 in
theorem names_small (rf st : Nat) (y0 : Option Addr) (m cm : Nat) (G : Nat → Nat) (W : World) (hrf : rf ≤ 255) (hst : st ≤ 255) (hy : ReadsW W y0 m G) (hm : m ≤ 9223372036854775807) :
    Calls Tryz.prog 5 #[.int .u8 rf, .slice y0 m cm, .int .u8 st] W fun e w' => e = .returned (.bool true) ∧ Below W.heap.size W w' := by
  have hmi : (m : Int) ≤ 9223372036854775807 := by omega
  have hsti : (st : Int) ≤ 255 := by omega
  have hrfi : (rf : Int) ≤ 255 := by omega
  have HY := hid hy
  clear hy
  refine callsAt_marks Tryz.func5 rfl ?_
  simp only [Tryz.ntmps5, List.size_toArray, List.length_cons, List.length_nil, Nat.reduceAdd, Nat.reduceSub, Array.replicate_succ, Array.replicate_zero, List.push_toArray, List.append_toArray, List.nil_append, List.cons_append]
  refine WpAt.seq_k fun K hK => ?_
  go_wp2_with fail
  refine WpAt.seq_k fun K hK => ?_
  go_wp2_with fail
  have hT0 := (At.new W (.cells #[.int .u8 st] 5)).alloc (.cells #[.bool false] 4)
  have hR0 := At.new (W.alloc (.cells #[.int .u8 st] 5)) (.cells #[.bool false] 4)
  have K0 := ((Keeps.refl [] W).alloc (.cells #[.int .u8 st] 5)).alloc (.cells #[.bool false] 4)
  rw [show (W.alloc (.cells #[.int .u8 st] 5)).heap.size = W.heap.size + 1 by simp] at hR0
  obtain ⟨tb, htb⟩ : ∃ tb, tb = W.heap.size := ⟨_, rfl⟩
  obtain ⟨rb, hrb⟩ : ∃ rb, rb = W.heap.size + 1 := ⟨_, rfl⟩
  rw [← htb] at hT0
  rw [← hrb] at hR0
  rw [← hrb]
  first | rw [← htb] | skip
  have HTR : Hid (tb = W.heap.size ∧ rb = W.heap.size + 1) := ⟨htb, hrb⟩
  clear htb hrb
  refine (awake10_any _).mono ?_
  rintro e w1 ⟨rfl, hb1⟩
  have k1 := Go.Proofs.YtfiohbniojmfaaaGreat.Below.keeps hb1 []
  have K1 := K0.trans k1
  have hT1 := k1.at hT0 (by simp)
  have hR1 := k1.at hR0 (by simp)
  have hz1 : rb < w1.heap.size := hR1.lt
  clear hb1 k1 hT0 hR0 K0
  have rf0 := hR1.free 0
  have rc0 := hR1.cell 0 rfl
  go_wp2_with fail
  refine WpAt.seq_k fun K hK => ?_
  by_cases hm20 : m ≤ 20
  case neg =>
    have hm2 : (20 : Int) < (m : Int) := by omega
    go_wp2_with fail
    have hRF := hR1.set 0 (.bool true)
    have y0 := hRF.cell 0 rfl
    refine ⟨.bool true, ?_, rfl, ?_⟩
    · simp [results, Tryz.results5, go_sem, y0]
    · exact (K1.set (.inr (by have := HTR.out; show W.heap.size ≤ rb; omega)) _).below (Nat.le_refl _) (by simp)
  have hm2 : (m : Int) ≤ 20 := by omega
  go_wp2_with fail
  clear hmi
  refine WpAt.seq_k fun K hK => ?_
  have hos : fillL (mk3 0 0 80).space (hdsL (fun _ => rf) (fun _ => 8) 1) = [(8, rf % 9)] := by simp [fillL, hdsL, mk3, lenL]
  have hok := mk3_ok 0 0 80
  obtain ⟨c, hc⟩ : ∃ c, c = mk3 0 0 80 := ⟨_, rfl⟩
  rw [← hc] at hos hok
  have HO := hid hok
  have HC := hid hc
  have HOS := hid hos
  clear hok hc hos rf0 rc0
  go_wp2_with fail
  have hH2 := At.new w1 (.cells #[.int .u8 rf, .int .u8 8] 66)
  have hy : ReadsH (w1.alloc (.cells #[.int .u8 rf, .int .u8 8] 66)) (some ⟨w1.heap.size, 0, none⟩) 1 (fun _ => rf) (fun _ => 8) :=
    .inr ⟨w1.heap.size, 0, rfl, hH2.lt, fun i hi => by
      obtain rfl : i = 0 := by omega
      exact ⟨hH2.cell 0 rfl, hH2.cell 1 rfl, hrf, by decide⟩⟩
  have K2 := K1.alloc (.cells #[.int .u8 rf, .int .u8 8] 66)
  have hT2 := hT1.alloc (.cells #[.int .u8 rf, .int .u8 8] 66)
  have hR2 := hR1.alloc (.cells #[.int .u8 rf, .int .u8 8] 66)
  have HF2 := hid (filled_at _ 0 0 80 (by omega) (by omega) (by omega) _ 1 1 (fun _ => rf) (fun _ => 8) hy (by omega) c HC.out)
  rw [HOS.out] at HF2
  obtain ⟨rr, hre⟩ : ∃ rr, rr = rf % 9 := ⟨_, rfl⟩
  rw [← hre] at HF2
  have hr8 : rr ≤ 8 := by omega
  clear hy hH2 K1 hT1 hR1 hre
  refine HF2.out.mono ?_
  rintro e w3 ⟨p, a, u, S, x, cp, y, cy, B, rfl, hn, hP, hub, hF, hU, hI, ⟨b1, b2, b3, b4, b5⟩, hB, hk3⟩
  simp only [World.size_alloc] at b1 b2 b3 b4 b5
  have K3 := K2.trans hk3
  have hT3 := hk3.at hT2 (by simp)
  have hR3 := hk3.at hR2 (by simp)
  have HWB : Hid (∀ b ∈ [p, a.s, a.k, a.m], rb < b ∧ b < w3.heap.size) := fun b h => by
    have h1 := hP.pow.lt
    have h2 := hP.dev.now.lt
    have h3 := hP.dev.kept.lt
    have h4 := hP.dev.map.lt
    simp only [List.mem_cons, List.not_mem_nil, or_false] at h
    omega
  have HWD : Hid (rb < a.d ∧ a.d < w3.heap.size) := ⟨by omega, hP.dev.dev.lt⟩
  have hl1 : ([(8, rr)] : List (Nat × Nat)).length = 1 := rfl
  rw [hl1] at hI ⊢
  obtain ⟨g, rfl, hgB, hgl, hgc⟩ := hI.cell (by omega)
  obtain ⟨zz, hzz⟩ : ∃ zz, zz = c.frm 0 + posL [(8, rr)] 0 := ⟨_, rfl⟩
  have hg0 : w3.cell? ⟨g, 0, none⟩ = some (.int .i64 (zz : Nat)) := by rw [hzz]; exact hgc 0 (by omega)
  have hUl : (lenL [(8, rr)] : Nat) = 9 := rfl
  have hus : 9 ≤ c.space := by rw [← hUl]; exact hF.fits
  rw [hUl]
  have hfrm : c.frm 0 + c.space ≤ a.n := by rw [← hn]; exact frm_space 0 (by omega)
  have hfr15 := frm_le HO.out.small (show 0 ≤ 2 by omega)
  have hp0 : posL [(8, rr)] 0 = 0 := rfl
  rw [hp0, Nat.add_zero] at hzz
  have HZ : Hid (zz = c.frm 0 ∧ zz + 8 < a.n ∧ zz ≤ 20000 ∧ S.now zz = ((hdPk 8 rr : Nat) : Int)) := by
    refine ⟨hzz, by omega, by omega, ?_⟩
    have := hF.word 0 (by omega)
    rw [hzz]
    exact this
  have HZ0 : Hid (∀ i, i < 8 → S.now (zz + 1 + i) = 0) := fun i hi => by
    have := hF.word (1 + i) (by omega)
    rw [show cellF [(8, rr)] (1 + i) = 0 from cellF_zero (8, rr) [] (by omega) (by show 1 + i ≤ 8; omega)] at this
    rw [hzz, Nat.add_assoc]
    exact this
  have HP := hid hP
  have HOF := hid (fun (w' : World) (hk : Keeps [] w3 w') => of_head w' p a S (hP.dev.keep hk (by simp) (by simp) (by simp) (by simp)) c HO.out hn 0 (by omega) 9 hus (.slice x c.roots cp) 0 8 rr (by rw [Nat.add_zero, ← HZ.out.1]; exact HZ.out.2.2.2) (by omega) hr8 (by omega) zz (by rw [HZ.out.1]; rfl))
  have HUB := hid hub
  go_wp2_with fail
  refine WpAt.seq_k fun K hK => ?_
  go_wp2_with fail
  refine WpAt.seq_k fun K hK => ?_
  obtain ⟨cb, hcb⟩ : ∃ cb, cb = w3.heap.size := ⟨_, rfl⟩
  obtain ⟨w4, hw4⟩ : ∃ w4, w4 = (w3.alloc (cfgO c)).alloc (bkO 0 9 (.slice x c.roots cp)) := ⟨_, rfl⟩
  have hC4 : At w4 cb (cfgO c) := by rw [hw4, hcb]; exact (At.new w3 _).alloc _
  have hB4 : At w4 (cb + 1) (bkO 0 9 (.slice x c.roots cp)) := by
    have := At.new (w3.alloc (cfgO c)) (bkO 0 9 (.slice x c.roots cp))
    rw [World.size_alloc] at this
    rw [hw4, hcb]; exact this
  have k34 : Keeps [] w3 w4 := by rw [hw4]; exact ((Keeps.refl [] w3).alloc _).alloc _
  rw [← hw4, ← hcb]
  have HCL : Hid (∀ w', Keeps [] w4 w' → (w'.cell? ⟨cb, 0, none⟩ = some (.int .i64 c.log) ∧ w'.cell? ⟨cb, 1, none⟩ = some (.int .i64 c.roots) ∧ w'.cell? ⟨cb, 2, none⟩ = some (.int .i64 c.space) ∧ w'.cell? ⟨cb + 1, 0, none⟩ = some (.int .i64 0) ∧ w'.cell? ⟨cb + 1, 1, none⟩ = some (.int .i64 9) ∧ w'.cell? ⟨cb + 1, 2, none⟩ = some (.slice x c.roots cp) ∧ w'.cell? ⟨g, 0, none⟩ = some (.int .i64 (zz : Nat)))) := fun w' hk => by
    have e1 := hk.at hC4 (by simp)
    have e2 := hk.at hB4 (by simp)
    exact ⟨e1.cell 0 rfl, e1.cell 1 rfl, e1.cell 2 rfl, e2.cell 0 rfl, e2.cell 1 rfl, e2.cell 2 rfl, by rw [(k34.trans hk).cell hgl (by simp)]; exact hg0⟩
  have HOR : Hid (∀ w', Keeps [] w4 w' → Calls Tryz.prog 14 #[ptr a.d, cfgV c, bkV 0 9 (.slice x c.roots cp), .int .i64 (zz : Nat)] w' fun e w'' => e = .returned (.tuple #[obV 8 rr zz, .int .i64 0]) ∧ Keeps [] w' w'') := fun w' hk => HOF.out w' (k34.trans hk)
  have HK34 := hid k34
  have HK3 := hid K3
  have HT4 := hid (k34.at hT3 (by simp))
  have HR4 := hid (k34.at hR3 (by simp))
  clear hw4 hC4 hB4 k34 hg0 hgc HOF hI hF hfrm hfr15 hp0 hl1 hUl hzz hus hcb hn K3 hB hk3 hgl hgB HF2 K2 hU hP hub hT2 hR2 hT3 hR3 b1 b2 b3 b4 b5 hz1
  go_cut [11, 12] from 40 to 49 (fun s11 s12 wx => ∃ b5, s11 = ptr b5 ∧ s12 = .int .i64 0 ∧ At wx b5 (obO 8 rr zz) ∧ w4.heap.size ≤ b5 ∧ Keeps [] w4 wx)
  case first =>
    go_region_held3 (fun w' => w'.cell? ⟨cb, 0, none⟩ = some (.int .i64 c.log) ∧ w'.cell? ⟨cb, 1, none⟩ = some (.int .i64 c.roots) ∧ w'.cell? ⟨cb, 2, none⟩ = some (.int .i64 c.space) ∧ w'.cell? ⟨cb + 1, 0, none⟩ = some (.int .i64 0) ∧ w'.cell? ⟨cb + 1, 1, none⟩ = some (.int .i64 9) ∧ w'.cell? ⟨cb + 1, 2, none⟩ = some (.slice x c.roots cp) ∧ w'.cell? ⟨g, 0, none⟩ = some (.int .i64 (zz : Nat)))
      ((refine HCL.out _ ?_; repeat' (first | assumption | exact Keeps.refl _ _ | refine Keeps.drew ?_ | refine Keeps.alloc ?_ _ | (refine Keeps.trans ?_ hk) | (refine Keeps.set ?_ (by right; simp) _))))
      (first
        | (go_at_call 14; refine (HOR.out _ ?_).mono ?_; (repeat' (first | exact Keeps.refl _ _ | refine Keeps.drew ?_ | refine Keeps.alloc ?_ _)); rintro e w' ⟨rfl, hk⟩; try (have h5 := hk.at (At.drew (At.new w4 (obO 0 0 0))) (by simp); have x0 := h5.cell 0 rfl; have x1 := h5.cell 1 rfl; have x2 := h5.cell 2 rfl; have y0 := h5.free 0; have y1 := h5.free 1; have y2 := h5.free 2)))
    all_goals
      go_wp2_with fail
      go_meet
      first
        | exact ⟨_, rfl, rfl, At.new _ _, hk.size, ((Keeps.refl [] w4).drew.trans hk).alloc _⟩
        | exact ⟨_, rfl, rfl, ((h5.set 0 (.int .i64 8)).set 1 (.int .i64 rr)).set 2 (.int .i64 zz), Nat.le_refl _, (((((Keeps.refl [] w4).alloc _).drew.trans hk).set (.inr (Nat.le_refl _)) _).set (.inr (Nat.le_refl _)) _).set (.inr (Nat.le_refl _)) _⟩
  case rest =>
  obtain ⟨b5, rfl, rfl, hA5, hz5, k5⟩ := hcut
  obtain ⟨w5, hw5⟩ : ∃ w5, w5 = wc := ⟨_, rfl⟩
  subst hw5
  refine hK _ _ ?_
  clear hK K
  have hA5' := hA5
  have o0 := hA5.cell 0 rfl
  have o1 := hA5.cell 1 rfl
  have o2 := hA5.cell 2 rfl
  refine WpAt.seq_k fun K hK => ?_
  go_wp2_with fail
  refine WpAt.seq_k fun K hK => ?_
  go_wp2_with fail
  refine WpAt.seq_k fun K hK => ?_
  obtain ⟨wb, hwb⟩ : ∃ wb, wb = w5.heap.size := ⟨_, rfl⟩
  obtain ⟨w6, hw6⟩ : ∃ w6, w6 = w5.alloc (.cells #[.slice none 0 0] 67) := ⟨_, rfl⟩
  have hW6 : At w6 wb (.cells #[.slice none 0 0] 67) := by rw [hw6, hwb]; exact At.new _ _
  have k56 : Keeps [] w5 w6 := by rw [hw6]; exact (Keeps.refl [] w5).alloc _
  have hz6 : w6.heap.size = wb + 1 := by rw [hw6, hwb]; simp
  first | rw [← hw6, ← hwb] | (rw [← hw6])
  have k36 := (HK34.out.trans k5).trans k56
  have hP6 := HP.out.keep0 k36
  have HA6 := hid (k56.at hA5 (by simp))
  have HT6 := hid ((k5.trans k56).at HT4.out (by simp))
  have HR6 := hid ((k5.trans k56).at HR4.out (by simp))
  have HKW6 := hid (HK3.out.trans k36)
  have HNE : Hid (tb ≠ rb ∧ rb < wb ∧ tb < wb ∧ b5 < wb ∧ (∀ b ∈ [p, a.s, a.k, a.m], rb < b ∧ b < wb ∧ b ≠ b5) ∧ rb < a.d ∧ a.d < wb ∧ tb < rb ∧ W.heap.size ≤ tb ∧ W.heap.size ≤ b5 ∧ rb < b5) := by
    have h1 := HTR.out
    have h2 := HWD.out
    have h3 := (HK34.out.trans k5).size
    have h4 := hA5.lt
    have h5 : rb < w5.heap.size := (k5.at HR4.out (by simp)).lt
    have h6 := HK34.out.size
    have h7 := HK3.out.size
    have h8 : rb < w4.heap.size := HR4.out.lt
    refine ⟨by omega, by omega, by omega, by omega, fun b hb => ?_, by omega, by omega, by omega, by omega, by omega, by omega⟩
    have := HWB.out b hb
    exact ⟨this.1, by omega, by omega⟩
  obtain ⟨gF, hgF⟩ : ∃ gF, gF = nmF m G := ⟨_, rfl⟩
  have HGF := hid hgF
  have HI6 : Hid (NmI p a wb zz gF w6 0 w6) := ⟨u, S, none, 0, hP6, by have := HUB.out; omega, fun j hj => by rw [if_neg (by omega)]; exact HZ0.out j hj, hW6, ownN_nil _ _, Keeps.refl _ _⟩
  clear o0 o1 o2 hA5 hA5' hw6 hwb hW6 k56 k36 hP6 hz5 k5 HT4 HR4 HK34 HK3 HWB HWD HCL HOR HP HUB HZ0 hgF
  have o0 := HA6.out.cell 0 rfl
  have o1 := HA6.out.cell 1 rfl
  have o2 := HA6.out.cell 2 rfl
  go_wp2_with fail
  clear o0 o1 o2
  go_loopg [55] rr (fun r9 s55 wr => ∃ i : Nat, i + r9 = rr ∧ s55 = .int .i64 i ∧ NmI p a wb zz gF w6 i wr)
  case atStart => exact ⟨0, by omega, rfl, HI6.out⟩
  case round =>
    obtain ⟨i, hi, rfl, u7, S7, xw, cw, hP7, hu7, hS7, hW7, hO7, hk7⟩ := hrel
    obtain ⟨w7, hw7⟩ : ∃ w7, w7 = wr := ⟨_, rfl⟩
    subst hw7
    have hnT : ∀ b, b < wb → b ∉ [p, a.s, a.k, a.m] → b ∉ wb :: [p, a.s, a.k, a.m] := fun b h1 h2 h3 => by
      rcases List.mem_cons.1 h3 with h3 | h3
      · omega
      · exact h2 h3
    have hA7 := hk7.at HA6.out (hnT _ HNE.out.2.2.2.1 (fun h => (HNE.out.2.2.2.2.1 _ h).2.2 rfl))
    have hKW7 : Keeps [] W w7 := HKW6.out.new hk7 (fun b hb => .inr (by
      have h1 := HNE.out
      have h2 := HTR.out
      rcases List.mem_cons.1 hb with rfl | hb
      · omega
      · have := (h1.2.2.2.2.1 b hb).1; omega))
    by_cases hir : i < rr
    · have hii : (i : Int) < (rr : Int) := by omega
      have HII := hid hi
      by_cases him : i < m
      · obtain ⟨b, off, rfl, hb, hcl⟩ := HY.out.resolve_left (by omega)
        obtain ⟨hc0, hg⟩ := hcl i him
        obtain ⟨gi, hgi⟩ : ∃ gi, gi = G i := ⟨_, rfl⟩
        rw [← hgi] at hc0 hg
        obtain ⟨v4, hv4⟩ : ∃ v4, v4 = gi % 4 := ⟨_, rfl⟩
        have HGV : Hid (gF i = v4) := by
          show _ = _
          rw [HGF.out]
          unfold nmF
          rw [if_pos him, hv4, hgi]
        have HT5 : Hid (∀ x ∈ [p, a.s, a.k, a.m], x ≠ b5 ∧ W.heap.size ≤ x) := fun x hx => by
          have h1 := HNE.out
          have h2 := h1.2.2.2.2.1 x hx
          omega
        have HLC : Hid (∀ w', Keeps [p, a.s, a.k, a.m] w7 w' → w'.cell? ⟨b, off + i, none⟩ = some (.int .u16 (gi : Nat))) := fun w' hk => by
          have hk2 : Keeps [] W w' := hKW7.new hk (fun x hx => .inr (HT5.out x hx).2)
          rw [hk2.cell hb (by simp)]; exact hc0
        have hmi : (i : Int) < (m : Int) := by omega
        have hgb : (gi : Int) ≤ 65535 := by omega
        have hv4b : (v4 : Int) ≤ 3 := by omega
        have e1 : (gi : Int) % 4 = (v4 : Int) := by omega
        have e2 : (gi : Int).tmod 4 = (v4 : Int) := by rw [Int.tmod_eq_emod_of_nonneg (by omega)]; exact e1
        have e3 : IntKind.u16.wrap (v4 : Int) = (v4 : Int) := IntWalk.u16_in _ (by omega)
        have e4 : IntKind.i64.wrap (v4 : Int) = (v4 : Int) := IntWalk.i64_in _ (by omega)
        have e5 : IntKind.u16.wrap ((gi : Int).tmod 4) = (v4 : Int) := by rw [e2]; exact e3
        have HPT := hid (fun (w' : World) (hk : Keeps [] w7 w') => opoint_free w' p a u7 S7 (hP7.keep0 hk) (by omega) 8 rr zz i v4 v4 (IntWalk.u64_in _ (by omega)) ⟨by omega, by omega⟩ ⟨by omega, by have := HZ.out; omega⟩)
        rw [show fldE 8 rr i true = 0 from fldE_in (by omega) (by omega) (by simp; omega)] at HPT
        have HCL7 : Hid (∀ w', Keeps [p, a.s, a.k, a.m] w7 w' → (w'.cell? ⟨b5, 0, none⟩ = some (.int .i64 8) ∧ w'.cell? ⟨b5, 1, none⟩ = some (.int .i64 rr) ∧ w'.cell? ⟨b5, 2, none⟩ = some (.int .i64 zz) ∧ w'.cell? ⟨b, off + i, none⟩ = some (.int .u16 (gi : Nat)))) := fun w' hk => by
          have e1 := hk.at hA7 (fun h => (HT5.out _ h).1 rfl)
          exact ⟨e1.cell 0 rfl, e1.cell 1 rfl, e1.cell 2 rfl, HLC.out w' hk⟩
        have HA7 := hid hA7
        have HKW7 := hid hKW7
        have HX7 := hid (And.intro hu7 (And.intro hS7 (And.intro hW7 (And.intro hO7 hk7))))
        clear hi hcl hc0 hg hgi hv4 hA7 hKW7 hu7 hS7 hW7 hO7 hk7 hP7 hnT hb
        go_upto_region 16 with fail
        have kk : Keeps [] w7 w7.drew := (Keeps.refl _ _).drew
        go_region_held3 (fun w' => w'.cell? ⟨b5, 0, none⟩ = some (.int .i64 8) ∧ w'.cell? ⟨b5, 1, none⟩ = some (.int .i64 rr) ∧ w'.cell? ⟨b5, 2, none⟩ = some (.int .i64 zz) ∧ w'.cell? ⟨b, off + i, none⟩ = some (.int .u16 (gi : Nat)))
          (first | exact HCL7.out _ kT | exact HCL7.out _ (kk.mono (by simp)))
          (first
            | (go_at_call 22; refine (HPT.out _ kk).mono ?_; rintro e w' ⟨rfl, hx⟩; obtain ⟨u8, hP8, hu8, hk9⟩ := hx.out; have kT := (kk.mono (by simp) : Keeps [p, a.s, a.k, a.m] _ _).trans hk9))
        rename_i hHd
        clear hHd
        have HLC8 := hid (HLC.out _ kT)
        obtain ⟨w8, hw8⟩ : ∃ w8, w8 = w' := ⟨_, rfl⟩
        subst hw8
        have HK78 := hid kT
        have HP8 := hid hP8
        have HU8 := hid hu8
        have hWT : wb ∉ [p, a.s, a.k, a.m] := fun h => by have := HNE.out.2.2.2.2.1 _ h; omega
        have HW8 := hid (HK78.out.at HX7.out.2.2.1 hWT)
        have HS8 : Hid (∀ j, j < 8 → (setS S7 zz i v4 0).now (zz + 1 + j) = if j < i + 1 then ((gF j : Nat) : Int) else 0) := fun j hj => by
          rw [setS_yes, show ((zz : Int) + 1 + (i : Int)).toNat = zz + 1 + i by omega]
          by_cases hji : j = i
          · subst hji
            rw [if_pos rfl, if_pos (by omega), HGV.out]
          · rw [if_neg (by omega), HX7.out.2.1 j hj]
            by_cases hjl : j < i
            · rw [if_pos hjl, if_pos (by omega)]
            · rw [if_neg hjl, if_neg (by omega)]
        have HO8 := hid (HX7.out.2.2.2.1.keep HK78.out (fun x hx h => by
          have h1 := (HX7.out.2.2.2.1.ge x hx).1
          have h2 := (HNE.out.2.2.2.2.1 x h).2.1
          omega))
        have hk68 : Keeps (wb :: [p, a.s, a.k, a.m]) w6 w8 := HX7.out.2.2.2.2.trans (HK78.out.mono (by intro x _ h; exact List.mem_cons_of_mem _ h))
        have HK68 := hid hk68
        have hlc8 := HLC8.out
        clear kT kk hk9 hx hP8 hu8 HPT HCL7 hWT hk68
        by_cases hv0 : v4 = 0
        · have t1 : decide ((0 : Int) < (v4 : Int)) = false := decide_eq_false (by omega)
          have t2 : (v4 : Int) = 0 := by omega
          have HWN : Hid (wantL gF (i + 1) = wantL gF i) := wantL_no (by rw [HGV.out]; exact hv0)
          have HEN : Hid (NmI p a wb zz gF w6 (i + 1) w8) := by
            refine ⟨u8, _, xw, cw, HP8.out, by have := HU8.out; have := HX7.out.1; omega, HS8.out, ?_, ?_, HK68.out⟩
            · rw [HWN.out]; exact HW8.out
            · rw [HWN.out]; exact HO8.out
          clear hv0
          go_wp2_with fail
          go_roundg (rr - (i + 1))
          case measure => (have := HII.out; omega)
          case rel => exact ⟨i + 1, by have := HII.out; omega, by go_num, HEN.out⟩
        · have t1 : decide ((0 : Int) < (v4 : Int)) = true := decide_eq_true (by omega)
          have t2 : (0 : Int) < (v4 : Int) := by omega
          have t3 : ¬ (v4 : Int) = 0 := by omega
          have HWN : Hid (wantL gF (i + 1) = wantL gF i ++ [(i, v4)]) := by
            have := wantL_yes (g := gF) (k := i) (by rw [HGV.out]; exact hv0)
            rw [HGV.out] at this
            exact this
          obtain ⟨len, hlen⟩ : ∃ len, len = (wantL gF i).length := ⟨_, rfl⟩
          have hlb : len ≤ 1000 := by rw [hlen]; have := wantL_le gF i; omega
          have HLN := hid hlen
          rw [← hlen] at HW8 HO8
          clear hv0 hlen
          go_upto_region 18 with fail
          have w0 := HW8.out.cell 0 rfl
          have wf := HW8.out.free 0
          have hO9 := HO8.out.keep ((Keeps.refl [] w8).alloc (.cells #[.int .i64 (i : Nat), .int .i64 (v4 : Nat)] 68)) (by simp)
          have hW9 := HW8.out.alloc (.cells #[.int .i64 (i : Nat), .int .i64 (v4 : Nat)] 68)
          have w90 := hW9.cell 0 rfl
          have hc9 := (At.new w8 (.cells #[.int .i64 (i : Nat), .int .i64 (v4 : Nat)] 68)).cell 0 rfl
          have hc91 := (At.new w8 (.cells #[.int .i64 (i : Nat), .int .i64 (v4 : Nat)] 68)).cell 1 rfl
          have hlc9 : (w8.alloc (.cells #[.int .i64 (i : Nat), .int .i64 (v4 : Nat)] 68)).cell? ⟨b, off + i, none⟩ = some (.int .u16 (gi : Nat)) := HLC.out _ (HK78.out.alloc _)
          have hB9 : w6.heap.size ≤ (w8.alloc (.cells #[.int .i64 (i : Nat), .int .i64 (v4 : Nat)] 68)).heap.size := Nat.le_trans HK68.out.size ((Keeps.refl [] w8).alloc (.cells #[.int .i64 (i : Nat), .int .i64 (v4 : Nat)] 68)).size
          have HO9 := hid hO9
          have HW9 := hid hW9
          have hnb : wb ∉ blkL xw := fun h => by
            have h1 := (HO8.out.ge _ h).1
            have h2 : wb < w6.heap.size := by have := HNE.out; omega
            omega
          have HNB := hid hnb
          clear hO9 hW9 hnb
          refine wp_region_noPanic ?_
          go_region_law (first
            | (refine appN_step rfl _ _ rfl w6.heap.size xw cw len (wantL gF i) rfl HO9.out _ _ i v4 rfl hc9 hc91 hlb hB9 ?_; intro g9 cap9 w10 hO10 hk10 hg10; have hW10 := hk10.at HW9.out HNB.out; have w100 := hW10.cell 0 rfl; have w10f := hW10.free 0))
          all_goals
            refine NoPanic.normal ?_
            have hWF := hW10.set 0 (.slice (some ⟨g9, 0, none⟩) (len + 1) cap9)
            have hg9w : ∀ x ∈ blkL (some ⟨g9, 0, none⟩ : Option Addr), x ≠ wb := fun x hx h => by
              have h1 := (hO10.ge x hx).1
              have h2 : wb < w6.heap.size := by have := HNE.out; omega
              omega
            have kF := (Keeps.refl [wb] w10).set (p := ⟨wb, 0, none⟩) (.inl (by simp)) (.slice (some ⟨g9, 0, none⟩) (len + 1) cap9)
            have hOF := hO10.keep kF (fun x hx h => hg9w x hx (by simpa using h))
            have hXT : ∀ x ∈ blkL xw, w6.heap.size ≤ x := fun x hx => (HO8.out.ge x hx).1
            have hPF := ((HP8.out.keep0 (((Keeps.refl [] w8).alloc (.cells #[.int .i64 (i : Nat), .int .i64 (v4 : Nat)] 68)).drew)).keep hk10
              (fun h => by have h1 := hXT _ h; have h2 := HNE.out.2.2.2.2.1 p (by simp); omega) (fun h => by have h1 := hXT _ h; have h2 := HNE.out; omega) (fun h => by have h1 := hXT _ h; have h2 := HNE.out.2.2.2.2.1 a.s (by simp); omega) (fun h => by have h1 := hXT _ h; have h2 := HNE.out.2.2.2.2.1 a.k (by simp); omega) (fun h => by have h1 := hXT _ h; have h2 := HNE.out.2.2.2.2.1 a.m (by simp); omega)).keep kF
              (fun h => by have h2 := HNE.out.2.2.2.2.1 p (by simp); simp at h; omega) (fun h => by have h2 := HNE.out; simp at h; omega) (fun h => by have h2 := HNE.out.2.2.2.2.1 a.s (by simp); simp at h; omega) (fun h => by have h2 := HNE.out.2.2.2.2.1 a.k (by simp); simp at h; omega) (fun h => by have h2 := HNE.out.2.2.2.2.1 a.m (by simp); simp at h; omega)
            have hKF : Keeps (wb :: [p, a.s, a.k, a.m]) w6 (w10.setCell ⟨wb, 0, none⟩ (.slice (some ⟨g9, 0, none⟩) (len + 1) cap9)) := ((HK68.out.alloc (.cells #[.int .i64 (i : Nat), .int .i64 (v4 : Nat)] 68)).drew.new hk10 (fun x hx => .inr (hXT x hx))).trans (kF.mono (by intro x _ h; simp at h; simp [h]))
            have HEN : Hid (NmI p a wb zz gF w6 (i + 1) (w10.setCell ⟨wb, 0, none⟩ (.slice (some ⟨g9, 0, none⟩) (len + 1) cap9))) := by
              refine ⟨u8, _, some ⟨g9, 0, none⟩, cap9, hPF, by have := HU8.out; have := HX7.out.1; omega, HS8.out, ?_, ?_, hKF⟩
              · rw [HWN.out, List.length_append, ← HLN.out]; exact hWF
              · rw [HWN.out, List.length_append, ← HLN.out]; exact hOF
            clear hW10 w100 w10f hO10 hk10 hg10 hWF hg9w kF hOF hXT hPF hKF w0 wf w90 hc9 hc91 hlc9 hB9
            go_wp2_with fail
            go_roundg (rr - (i + 1))
            case measure => (have := HII.out; omega)
            case rel => exact ⟨i + 1, by have := HII.out; omega, by go_num, HEN.out⟩
      · have t1 : decide ((i : Int) < (m : Int)) = false := decide_eq_false (by omega)
        have t2 : (m : Int) ≤ (i : Int) := by omega
        have hG0 : gF i = 0 := by rw [HGF.out]; unfold nmF; rw [if_neg him]
        have HEN : Hid (NmI p a wb zz gF w6 (i + 1) w7) := by
          refine ⟨u7, S7, xw, cw, hP7, by omega, fun j hj => ?_, ?_, ?_, hk7⟩
          · rw [hS7 j hj]
            by_cases hji : j = i
            · subst hji
              rw [if_neg (by omega), if_pos (by omega), hG0]
              rfl
            · by_cases hjl : j < i
              · rw [if_pos hjl, if_pos (by omega)]
              · rw [if_neg hjl, if_neg (by omega)]
          · rw [wantL_no hG0]; exact hW7
          · rw [wantL_no hG0]; exact hO7
        clear him hi hP7 hu7 hS7 hW7 hO7 hk7 hnT hA7 hKW7 hG0
        go_wp2_with fail
        go_roundg (rr - (i + 1))
        case measure => (have := HII.out; omega)
        case rel => exact ⟨i + 1, by have := HII.out; omega, by go_num, HEN.out⟩
    · have hie : rr = i := by omega
      subst hie
      obtain ⟨len, hlen⟩ : ∃ len, len = (wantL gF rr).length := ⟨_, rfl⟩
      rw [← hlen] at hW7 hO7
      have hlb : len ≤ 8 := by rw [hlen]; exact Nat.le_trans (wantL_le _ _) hr8
      have HLN := hid hlen
      have HW7 := hid hW7
      have HO7 := hid hO7
      have HA7 := hid hA7
      have HP7 := hid hP7
      have HKW7 := hid hKW7
      have HT7 := hid (hk7.at HT6.out (hnT _ HNE.out.2.2.1 (fun h => by have := (HNE.out.2.2.2.2.1 _ h).1; have := HNE.out; omega)))
      have HR7 := hid (hk7.at HR6.out (hnT _ HNE.out.2.1 (fun h => by have := (HNE.out.2.2.2.2.1 _ h).1; omega)))
      have HSV : Hid (∀ i, i < rr → rfW S7 zz i 0 = ((gF i : Nat) : Int)) := fun i hi => by
        have hg3 : gF i ≤ 3 := by
          rw [HGF.out]; unfold nmF; split
          · omega
          · omega
        unfold rfW
        rw [if_pos rfl, show ((zz : Int) + 1 + (i : Int)).toNat = zz + 1 + i by omega, hS7 i (by omega), if_pos hi]
        exact asInt_of _ (by omega)
      have hz7 : wb < w7.heap.size := hW7.lt
      have HZ7 := hid hz7
      have hbx : ∀ x ∈ blkL xw, x < w7.heap.size := fun x hx => (hO7.ge x hx).2
      have HBX := hid hbx
      clear hi hir hlen hW7 hO7 hA7 hP7 hKW7 hS7 hu7 hk7 hnT hbx hz7
      go_wp2_with fail
      refine WpAt.seq_k fun K hK => ?_
      go_wp2_with fail
      refine WpAt.seq ?_
      refine WpAt.seq_k fun K hK => ?_
      obtain ⟨nb, hnb⟩ : ∃ nb, nb = w7.heap.size := ⟨_, rfl⟩
      obtain ⟨w8, hw8⟩ : ∃ w8, w8 = w7.alloc (.cells #[.int .i64 0] 3) := ⟨_, rfl⟩
      have hN8 : At w8 nb (.cells #[.int .i64 0] 3) := by rw [hw8, hnb]; exact At.new _ _
      have k78 : Keeps [] w7 w8 := by rw [hw8]; exact (Keeps.refl [] w7).alloc _
      have hz8 : w8.heap.size = nb + 1 := by rw [hw8, hnb]; simp
      rw [← hw8]
      first | rw [← hnb] | skip
      have hA8 := k78.at HA7.out (by simp)
      have o0 := hA8.cell 0 rfl
      have o1 := hA8.cell 1 rfl
      have o2 := hA8.cell 2 rfl
      have HNB : Hid (nb = w7.heap.size) := hnb
      clear hw8 hnb
      go_wp2_with fail
      refine (onames_at w8 8 rr zz a.d).mono ?_
      rintro e w9 ⟨rfl, hw9⟩
      clear o0 o1 o2
      have hN9 : At w9 nb (.cells #[.int .i64 0] 3) := by rw [← hw9]; exact (hN8.alloc _).alloc _
      have hO9 : At w9 (nb + 1) (obO 8 rr zz) := by
        have := (At.new w8 (obO 8 rr zz)).alloc (.cells #[ptr a.d] 30)
        rw [hz8] at this
        rw [← hw9]; exact this
      have hD9 : At w9 (nb + 2) (.cells #[ptr a.d] 30) := by
        have := At.new (w8.alloc (obO 8 rr zz)) (.cells #[ptr a.d] 30)
        rw [World.size_alloc, hz8] at this
        rw [← hw9]; exact this
      have k79 : Keeps [] w7 w9 := by rw [← hw9]; exact (k78.alloc _).alloc _
      have hz9 : w9.heap.size = nb + 3 := by rw [← hw9]; simp [hz8]
      rw [hz8]
      have HK79 := hid k79
      have HN9 := hid hN9
      have HO9 := hid hO9
      have HD9 := hid hD9
      have HZ9 := hid hz9
      clear hw9 hN8 hN9 hO9 hD9 k78 k79 hz8 hz9 hA8
      go_wp2_with fail
      refine WpAt.blockR ?_
      refine WpAt.rangeR (gf := 44) (lb := #[ptr (nb + 1), ptr (nb + 1 + 1)]) rfl (enters_of Tryz.func44 (by kernel_rfl) rfl) ?_
      have hlow : tb < w7.heap.size ∧ rb < w7.heap.size ∧ b5 < w7.heap.size ∧ wb < w7.heap.size := ⟨HT7.out.lt, HR7.out.lt, HA7.out.lt, HW7.out.lt⟩
      have HLW := hid hlow
      have hpl : p < w7.heap.size ∧ a.d < w7.heap.size ∧ a.s < w7.heap.size ∧ a.k < w7.heap.size ∧ a.m < w7.heap.size := ⟨HP7.out.pow.lt, HP7.out.dev.dev.lt, HP7.out.dev.now.lt, HP7.out.dev.kept.lt, HP7.out.dev.map.lt⟩
      have HPL := hid hpl
      have hnT : ∀ b, b < w7.heap.size → b ∉ [nb] := fun b hb h => by have := HNB.out; simp at h; omega
      clear hlow hpl
      refine' (names_core _ w9 _ _ _ _ (nb + 1) (nb + 1 + 1) a 8 rr zz (fun i => ((gF i : Nat) : Int))
        (fun k W => At W nb (.cells #[.int .i64 ((wantL gF k).length : Nat)] 3) ∧ Keeps [nb] w9 W)
        (fun W => At W rb (.cells #[.bool true] 4) ∧ Keeps [nb, rb] w9 W)
        [nb, rb] _ ?hT rfl ?box ?dev ?few ?keep ?keepx ?skip ?assign ?body ?start).mono ?after
      case assign =>
        intro l i W K hK
        have hsem := @Oper.semAt_some
        gi_wp2
        exact hK
      case hT =>
        intro b hb
        have h1 := HZ9.out
        have h2 := HLW.out
        have h3 := HNB.out
        simp at hb
        omega
      case box =>
        rintro k W ⟨_, hK⟩
        exact ⟨hK.at HO9.out (fun h => by have := List.mem_singleton.1 h; omega), hK.at HD9.out (fun h => by have := List.mem_singleton.1 h; omega)⟩
      case dev =>
        rintro k W ⟨_, hK⟩
        have hk := HK79.out.new hK (fun b hb => .inr (by have := HNB.out; simp at hb; omega))
        exact ⟨p, S7, (HP7.out.keep0 hk).dev, HSV.out⟩
      case few =>
        have := HZ.out
        exact ⟨hr8, by omega, by omega⟩
      case keep =>
        rintro k W W' T' ⟨h1, h2⟩ hk hT
        have h3 := HZ9.out
        exact ⟨hk.at h1 (fun h => by have := hT _ h; omega), h2.new hk (fun b hb => .inr (hT b hb))⟩
      case keepx =>
        rintro W W' T' ⟨h1, h2⟩ hk hT
        have h3 := HZ9.out
        have h4 := HLW.out
        have h5 := HNB.out
        exact ⟨hk.at h1 (fun h => by have := hT _ h; omega), h2.new hk (fun b hb => .inr (hT b hb))⟩
      case skip =>
        rintro k W ⟨h1, h2⟩ hk hf
        refine ⟨?_, h2⟩
        rw [wantL_no (by omega)]
        exact h1
      case start => exact ⟨HN9.out, Keeps.refl _ _⟩
      case body =>
        rintro l k W hk hf ⟨hN, hK⟩
        have hgk : gF k ≠ 0 := by omega
        have hat := wantL_at (g := gF) hk hgk
        obtain ⟨cnt, hcnt⟩ : ∃ cnt, cnt = (wantL gF k).length := ⟨_, rfl⟩
        rw [← hcnt] at hN hat
        have hcl : cnt < len := by rw [HLN.out]; exact (List.getElem?_eq_some_iff.1 hat).1
        have hcb : cnt ≤ 8 := by omega
        have HCN := hid hcnt
        have HSU : Hid ((wantL gF (k + 1)).length = cnt + 1) := by
          show _ = _
          rw [wantL_yes hgk, List.length_append, ← hcnt]
          rfl
        obtain ⟨gk, hgke⟩ : ∃ gk, gk = gF k := ⟨_, rfl⟩
        rw [← hgke] at hat
        rw [← hgke]
        have K7 : Keeps [nb] w7 W := (HK79.out.mono (by simp)).trans hK
        have hW10 := K7.at HW7.out (hnT _ HLW.out.2.2.2)
        have hO10 := HO7.out.keep K7 (fun x hx => hnT _ (HBX.out x hx))
        have hT10 := K7.at HT7.out (hnT _ HLW.out.1)
        have hR10 := K7.at HR7.out (hnT _ HLW.out.2.1)
        rcases hO10.form with ⟨_, h0⟩ | ⟨gw, cur, hxw, hgwB, hgA, hgc⟩
        · omega
        obtain ⟨g1, g2⟩ := hgc cnt _ hat
        have w0 := hW10.cell 0 rfl
        rw [hxw] at w0
        have n0 := hN.cell 0 rfl
        have nf := hN.free 0
        have a0 := hgA.cell (cnt * 2) g1
        have a1 := hgA.cell (cnt * 2 + 1) g2
        have t0 := hT10.cell 0 rfl
        have r0 := hR10.cell 0 rfl
        have rf0 := hR10.free 0
        have hci : (cnt : Int) < (len : Int) := by omega
        have hcbi : (cnt : Int) ≤ 8 := by omega
        have hlbi : (len : Int) ≤ 8 := by omega
        have hki : (k : Int) ≤ 8 := by omega
        have q1 : decide ((len : Int) ≤ (cnt : Int)) = false := decide_eq_false (by omega)
        have q2 : ((k : Int) != (k : Int)) = false := by simp
        have q3 : ((gk : Int) != (gk : Int)) = false := by simp
        obtain ⟨s9, hs9⟩ : ∃ s9, s9 = st % 9 := ⟨_, rfl⟩
        have e1 : (st : Int) % 9 = (s9 : Int) := by omega
        have hs9b : (s9 : Int) ≤ 8 := by omega
        have hbn : nb ≠ rb ∧ nb ≠ tb := by have := HLW.out; have := HNB.out; exact ⟨by omega, by omega⟩
        have HBN := hid hbn
        have hRN := hR10.set_ne (a := ⟨nb, 0, none⟩) (fun h => HBN.out.1 h.symm) (.int .i64 ((cnt : Int) + 1))
        have hTN := hT10.set_ne (a := ⟨nb, 0, none⟩) (fun h => HBN.out.2 h.symm) (.int .i64 ((cnt : Int) + 1))
        have hNN := hN.set 0 (.int .i64 ((cnt : Int) + 1))
        have KN := (Keeps.refl [nb, rb] W).set (p := ⟨nb, 0, none⟩) (.inl (by simp)) (.int .i64 ((cnt : Int) + 1))
        obtain ⟨WN, hWN⟩ : ∃ WN, WN = W.setCell ⟨nb, 0, none⟩ (.int .i64 ((cnt : Int) + 1)) := ⟨_, rfl⟩
        have hKN : Keeps [nb] w9 WN := by rw [hWN]; exact hK.set (.inl (by simp)) _
        have hNF : At WN nb (.cells #[.int .i64 ((wantL gF (k + 1)).length : Nat)] 3) := by
          rw [HSU.out, hWN]
          have := hNN
          simpa using this
        rw [← hWN] at hRN hTN KN
        have HNF := hid hNF
        have HKN := hid hKN
        have HKN2 := hid KN
        have HRN := hid hRN
        have HK0 := hid hK
        have rn0 := hRN.cell 0 rfl
        have rnf := hRN.free 0
        have tn0 := hTN.cell 0 rfl
        have nn0 : WN.cell? ⟨nb, 0, none⟩ = some (.int .i64 ((cnt : Int) + 1)) := by
          have := hNF.cell 0 rfl
          rw [HSU.out] at this
          simpa using this
        have tn1 : (W.setCell ⟨nb, 0, none⟩ (.int .i64 ((cnt : Int) + 1))).cell? ⟨tb, 0, none⟩ = some (.int .u8 st) := by rw [← hWN]; exact tn0
        have rn1 : (W.setCell ⟨nb, 0, none⟩ (.int .i64 ((cnt : Int) + 1))).cell? ⟨rb, 0, none⟩ = some (.bool false) := by rw [← hWN]; exact rn0
        have rnf1 : (W.setCell ⟨nb, 0, none⟩ (.int .i64 ((cnt : Int) + 1))).frozen? ⟨rb, 0, none⟩ = false := by rw [← hWN]; exact rnf
        have nn1 : (W.setCell ⟨nb, 0, none⟩ (.int .i64 ((cnt : Int) + 1))).cell? ⟨nb, 0, none⟩ = some (.int .i64 ((cnt : Int) + 1)) := by rw [← hWN]; exact nn0
        have HWN := hid hWN
        clear hWN tn0 rn0 rnf nn0
        clear hat hcnt hcl hcb hgke K7 hW10 hO10 hT10 hR10 hgwB hgA hgc g1 g2 hs9 hbn hRN hTN hNN KN hKN hNF hN hK hgk hf hk hxw
        have hsem := @Oper.semAt_some
        by_cases hst9 : s9 < cnt + 1
        · have q4 : decide ((s9 : Int) < (cnt : Int) + 1) = true := decide_eq_true (by omega)
          have q5 : (s9 : Int) < (cnt : Int) + 1 := by omega
          clear hst9
          gi_wp2_with fail
          rw [← HWN.out]
          have hRS := HRN.out.set 0 (.bool true)
          exact ⟨⟨by simpa using hRS, (HKN.out.mono (by intro x _ h; simp at h; simp [h])).set (.inl (by simp)) _⟩, HKN2.out.set (.inl (by simp)) _⟩
        · have q4 : decide ((s9 : Int) < (cnt : Int) + 1) = false := decide_eq_false (by omega)
          have q5 : (cnt : Int) + 1 ≤ (s9 : Int) := by omega
          clear hst9
          gi_wp2_with fail
          rw [← HWN.out]
          exact ⟨⟨HNF.out, HKN.out⟩, HKN2.out⟩
      case after =>
        intro e w10 hr
        have hrbW : W.heap.size ≤ rb := by have := HTR.out; omega
        have hnbW : W.heap.size ≤ nb := by have := HTR.out; have := HLW.out; have := HNB.out; omega
        have hds : w9.heap.size ≠ rb ∧ W.heap.size ≤ w9.heap.size ∧ rb ≠ nb ∧ wb ≠ nb ∧ wb ≠ rb := by
          have h1 := HZ9.out
          have h2 := HLW.out
          have h3 := HNB.out
          have h4 := HNE.out
          exact ⟨by omega, by omega, by omega, by omega, by omega⟩
        have HDS := hid (And.intro hrbW (And.intro hnbW hds))
        clear hrbW hnbW hds
        cases e with
        | panicked _ => exact hr
        | outgrown => exact hr
        | returned v =>
          rcases hr with ⟨w11, hend, ⟨hN, hK⟩, hD⟩ | ⟨w11, hend, ⟨hR, hK⟩, hD⟩
          · refine .inl ⟨w11, hend, .inl rfl, ?_⟩
            have K7 : Keeps [nb] w7 w11 := (HK79.out.mono (by simp)).trans hK
            rw [← HLN.out] at hN
            have hW11 := K7.at HW7.out (fun h => HDS.out.2.2.2.2.2.1 (List.mem_singleton.1 h))
            have hR11 := K7.at HR7.out (fun h => HDS.out.2.2.2.2.1 (List.mem_singleton.1 h))
            have HD := hid hD
            have HR11 := hid hR11
            have K11 : Keeps [] W w11 := HKW7.out.new K7 (fun b hb => .inr (by have := List.mem_singleton.1 hb; rw [this]; exact HDS.out.2.1))
            have HK11 := hid K11
            have n0 := hN.cell 0 rfl
            have w0 := hW11.cell 0 rfl
            have rf0 := hR11.free 0
            have rc0 := hR11.cell 0 rfl
            have q1 : ((len : Int) == (len : Int)) = true := by simp
            clear hend hN hK hD K7 hW11 hR11 K11
            refine WpAt.of_wp ?_
            go_wp2_with fail
            have hDf := HD.out.set_ne (a := ⟨rb, 0, none⟩) HDS.out.2.2.1 (.bool true)
            refine ⟨by simp, .inl ⟨_, _, rfl, run_takeDeferred hDf, ?_⟩⟩
            have kd : Keeps [w9.heap.size] (w11.setCell ⟨rb, 0, none⟩ (.bool true)) ((w11.setCell ⟨rb, 0, none⟩ (.bool true)).putObj w9.heap.size (.deferred none)) := (Keeps.refl _ _).put (.inl (by simp)) _
            have cf : ((w11.setCell ⟨rb, 0, none⟩ (.bool true)).putObj w9.heap.size (.deferred none)).cell? ⟨rb, 0, none⟩ = some (.bool true) := (kd.at (HR11.out.set 0 (.bool true)) (fun h => HDS.out.2.2.1 (List.mem_singleton.1 h).symm)).cell 0 rfl
            refine ⟨.bool true, ?_, rfl, ?_⟩
            · simp [results, Tryz.results5, go_sem, cf]
            · exact ((HK11.out.set (.inr HDS.out.1) _).new kd (fun b hb => .inr (by have := List.mem_singleton.1 hb; exact Nat.le_trans HDS.out.2.2.2.1 (Nat.le_of_eq this.symm)))).below (Nat.le_refl _) (by simp)
          · refine .inr ⟨w11, hend, .inr rfl, ?_⟩
            refine ⟨by simp, .inl ⟨_, _, rfl, run_takeDeferred hD, ?_⟩⟩
            have kd : Keeps [w9.heap.size] w11 (w11.putObj w9.heap.size (.deferred none)) := (Keeps.refl _ _).put (.inl (by simp)) _
            have cf : (w11.putObj w9.heap.size (.deferred none)).cell? ⟨rb, 0, none⟩ = some (.bool true) := (kd.at hR (fun h => HDS.out.2.2.1 (List.mem_singleton.1 h).symm)).cell 0 rfl
            have K7 : Keeps [nb, rb] w7 w11 := (HK79.out.mono (by simp)).trans hK
            refine ⟨.bool true, ?_, rfl, ?_⟩
            · simp [results, Tryz.results5, go_sem, cf]
            · exact ((HKW7.out.new K7 (fun b hb => .inr (by simp at hb; rcases hb with rfl | rfl; exact HDS.out.2.1; exact HDS.out.1))).new kd (fun b hb => .inr (by have := List.mem_singleton.1 hb; exact Nat.le_trans HDS.out.2.2.2.1 (Nat.le_of_eq this.symm)))).below (Nat.le_refl _) (by simp)

theorem objectNames_walk (l : Int) (y : Option Addr) (m cm : Nat) (z : Nat → Int) (s : Int) (W : World) (wl : (Lit.int .u8 l).wf = true) (R : ReadsV (Value.int .u16) W y m z) (hz : ∀ i, i < m → (Lit.int .u16 (z i)).wf = true) (hm : m ≤ maxLen) (ws : (Lit.int .u8 s).wf = true) :
    Calls Tryz.prog 5 #[.int .u8 l, .slice y m cm, .int .u8 s] W fun e w' => e = .returned (.bool true) ∧ Below W.heap.size W w' := by
  have h1 := bounds_u8 wl
  have h2 := bounds_u8 ws
  obtain ⟨l, rfl⟩ : ∃ k : Nat, l = (k : Int) := ⟨l.toNat, by omega⟩
  obtain ⟨s, rfl⟩ : ∃ k : Nat, s = (k : Int) := ⟨s.toNat, by omega⟩
  have hR : ReadsW W y m (fun i => (z i).toNat) := by
    rcases R with h | ⟨b, off, rfl, hb, hc⟩
    · exact .inl h
    · refine .inr ⟨b, off, rfl, hb, fun i hi => ?_⟩
      have h3 := bounds_u16 (hz i hi)
      refine ⟨?_, by show (z i).toNat ≤ 65535; omega⟩
      rw [show (((z i).toNat : Nat) : Int) = z i by omega]
      exact hc i hi
  exact names_small l s y m cm _ W (by omega) (by omega) hR (by unfold maxLen at hm; omega)

end Go.Proofs.YtfiohbniojmfaaaGreat
