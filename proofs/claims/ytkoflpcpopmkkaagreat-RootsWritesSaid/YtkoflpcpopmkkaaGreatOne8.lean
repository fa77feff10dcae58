/- Rows of stores that a law collects: appended, compared; the function of RootsWrites that collects them. -/
import Derived.Test.YtkoflpcpopmkkaaGreatStoD
import Derived.Test.YtkoflpcpopmkkaaGreatMdoA
namespace Go.Proofs.YtkoflpcpopmkkaaGreat
open Go.RowKit Go.OpenShut

def cellsL (L : List (Nat × Int)) : List Value := L.flatMap fun x => [.int .i64 (x.1 : Nat), .int .u64 x.2]

theorem cellsL_len : ∀ L : List (Nat × Int), (cellsL L).length = L.length * 2
  | [] => rfl
  | x :: L => by
    show (_ ++ cellsL L).length = _
    rw [List.length_append, cellsL_len L]
    simp; omega

theorem cellsL_get : ∀ (L : List (Nat × Int)) (i : Nat) (x : Nat × Int), L[i]? = some x → (cellsL L)[2 * i]? = some (.int .i64 (x.1 : Nat)) ∧ (cellsL L)[2 * i + 1]? = some (.int .u64 x.2)
  | [], i, x, h => by simp at h
  | y :: L, 0, x, h => by
    simp at h; subst h
    exact ⟨rfl, rfl⟩
  | y :: L, i + 1, x, h => by
    have := cellsL_get L i x (by simpa using h)
    show ([.int .i64 (y.1 : Nat), .int .u64 y.2] ++ cellsL L : List Value)[2 * (i + 1)]? = _ ∧ ([.int .i64 (y.1 : Nat), .int .u64 y.2] ++ cellsL L : List Value)[2 * (i + 1) + 1]? = _
    rw [show 2 * (i + 1) = 2 + 2 * i by omega, show 2 + 2 * i + 1 = 2 + (2 * i + 1) by omega]
    rw [List.getElem?_append_right (by simp), List.getElem?_append_right (by simp)]
    simpa [show 2 + 2 * i - 2 = 2 * i by omega, show 2 + (2 * i + 1) - 2 = 2 * i + 1 by omega] using this

theorem cellsL_app (L : List (Nat × Int)) (i : Nat) (v : Int) : cellsL L ++ [.int .i64 (i : Nat), .int .u64 v] = cellsL (L ++ [(i, v)]) := by
  simp [cellsL]

/-- A row of stores. -/
def OwnL (w : World) (B : Nat) (x : Option Addr) (cp n : Nat) (L : List (Nat × Int)) : Prop :=
  L.length = n ∧ w.ownsRow B 86 2 (.slice x n cp) n (cellsL L)

theorem ownL_nil (w : World) (B : Nat) : OwnL w B none 0 0 [] := ⟨rfl, rfl, .inl ⟨rfl, rfl⟩⟩

theorem OwnL.form {w : World} {B : Nat} {x : Option Addr} {cp n : Nat} {L : List (Nat × Int)} (h : OwnL w B x cp n L) :
    (x = none ∧ n = 0) ∨ ∃ g cur, x = some ⟨g, 0, none⟩ ∧ B ≤ g ∧ At w g (.cells cur 86) ∧ ∀ i y, L[i]? = some y → cur[2 * i]? = some (.int .i64 (y.1 : Nat)) ∧ cur[2 * i + 1]? = some (.int .u64 y.2) := by
  obtain ⟨hl, _, ⟨h1, h2⟩ | ⟨g, cap, cur, h1, h2, h3, _, _, h6, h7⟩⟩ := h
  · injection h1 with h1; exact .inl ⟨h1, h2⟩
  · injection h1 with h1
    refine .inr ⟨g, cur, h1, h2, h3, fun i y hy => ?_⟩
    obtain ⟨hi, _⟩ := List.getElem?_eq_some_iff.1 hy
    obtain ⟨e1, e2⟩ := cellsL_get L i y hy
    have k1 : (cur.toList.take (n * 2))[2 * i]? = (cellsL L)[2 * i]? := by rw [h7]
    have k2 : (cur.toList.take (n * 2))[2 * i + 1]? = (cellsL L)[2 * i + 1]? := by rw [h7]
    rw [List.getElem?_take_of_lt (by omega), Array.getElem?_toList, e1] at k1
    rw [List.getElem?_take_of_lt (by omega), Array.getElem?_toList, e2] at k2
    exact ⟨k1, k2⟩

theorem OwnL.keep {w w' : World} {B : Nat} {x : Option Addr} {cp n : Nat} {L : List (Nat × Int)} {T : List Nat} (h : OwnL w B x cp n L) (hk : Keeps T w w') (hT : ∀ b ∈ blkL x, b ∉ T) : OwnL w' B x cp n L := by
  obtain ⟨hl, h0, h1 | ⟨g, cap, cur, h1, h2, h3, h4⟩⟩ := h
  · exact ⟨hl, h0, .inl h1⟩
  · refine ⟨hl, h0, .inr ⟨g, cap, cur, h1, h2, ?_, h4⟩⟩
    injection h1 with h1
    exact hk.at (show At w g (.cells cur 86) from h3) (hT g (by rw [h1]; simp [blkL]))

theorem OwnL.ge {w : World} {B : Nat} {x : Option Addr} {cp n : Nat} {L : List (Nat × Int)} (h : OwnL w B x cp n L) : ∀ b ∈ blkL x, B ≤ b ∧ b < w.heap.size := by
  rcases h.form with ⟨rfl, _⟩ | ⟨g, cur, rfl, h1, h2, _⟩
  · simp [blkL]
  · simp [blkL]; exact ⟨h1, h2.lt⟩

/-- append of a store, at a step of a region. -/
theorem appL_list {ops : Array Oper} {rest : List Oper} {o : Oper} {a : Act} {w : World} {Q : Exit → Act → World → Prop} (hgd : o.guard = none) (s x : Operand)
    (ho : o.op = .call { callee := .builtin .append, args := #[s, x], argTypes := #[84, 84] })
    (B : Nat) (xx : Option Addr) (cp n : Nat) (L : List (Nat × Int)) (hs : a.eval s = .slice xx n cp) (hown : OwnL w B xx cp n L) (b c i : Nat) (v : Int) (hx : a.eval x = .slice (some ⟨b, 0, none⟩) 1 c) (hc : w.cell? ⟨b, 0, none⟩ = some (.int .i64 (i : Nat))) (hc2 : w.cell? ⟨b, 1, none⟩ = some (.int .u64 v))
    (hn : n ≤ 1000) (hB : B ≤ w.heap.size)
    (h : ∀ g cap w', OwnL w' B (some ⟨g, 0, none⟩) cap (n + 1) (L ++ [(i, v)]) → Keeps (blkL xx) w w' → (blkL xx = [g] ∨ w.heap.size ≤ g) → wpList Tryz.prog ops Q rest (a.put o.dst (.slice (some ⟨g, 0, none⟩) (n + 1) cap)) w') :
    wpList Tryz.prog ops Q (o :: rest) a w := by
  have hi : ∃ i, Tryz.prog.info? 86 = some i ∧ (i.zero, i.size, i.bytes) = (some (.agg #[.int .i64 0, .int .u64 0]), 2, 16) := by
    have h : (Tryz.prog.info? 86).map (fun i => (i.zero, i.size, i.bytes)) = some (some (.agg #[.int .i64 0, .int .u64 0]), 2, 16) := by kernel_rfl
    exact Option.map_eq_some_iff.1 h
  obtain ⟨ti, hi1, hi2⟩ := hi
  simp only [Prod.mk.injEq] at hi2
  obtain ⟨hz, hsz, hby⟩ := hi2
  refine wpList_append_own_at w hgd s x 84 ho B 86 ti (.agg #[.int .i64 0, .int .u64 0]) 2 16 Tryz.underlying84 hi1 hz hsz hby rfl (by omega) _ n _ hs hown.2 ⟨b, 0, none⟩ 1 c [.int .i64 (i : Nat), .int .u64 v] hx rfl (fun j u hj => ?_) (by simp [Value.oneCell']) (by unfold maxLen; omega) (by omega) hB ?_
  · match j, hj with
    | 0, hj => simp at hj; subst hj; exact hc
    | 1, hj => simp at hj; subst hj; exact hc2
    | j + 2, hj => simp at hj
  · intro v' w' h1 h2 h3 h4
    have hne : v' ≠ .slice none 0 0 := fun e => by have := (h3.1 e).2; omega
    have h1' := h1
    obtain ⟨_, ⟨rfl, _⟩ | ⟨g, cap, cur, rfl, hB', hg, h5⟩⟩ := h1'
    · exact absurd rfl hne
    · rw [cellsL_app] at h1
      refine h g cap w' ⟨by simp [hown.1], h1⟩ (grown_keeps h2) ?_
      rcases h4 with h4 | h4
      · left
        cases xx with
        | none => simp [Value.ownBlock] at h4
        | some a => simp [Value.ownBlock] at h4; simp [blkL]; exact h4.symm
      · right
        simp [Value.ownBlock] at h4; omega

/-- append of a word, at a step of a region. -/
theorem appU_list {ops : Array Oper} {rest : List Oper} {o : Oper} {a : Act} {w : World} {Q : Exit → Act → World → Prop} (hgd : o.guard = none) (s x : Operand)
    (ho : o.op = .call { callee := .builtin .append, args := #[s, x], argTypes := #[25, 25] })
    (B : Nat) (xx : Option Addr) (cp n : Nat) (f : Nat → Int) (hs : a.eval s = .slice xx n cp) (hown : OwnU w B xx cp n f) (b c : Nat) (v : Int) (hx : a.eval x = .slice (some ⟨b, 0, none⟩) 1 c) (hc : w.cell? ⟨b, 0, none⟩ = some (.int .u64 v))
    (hn : n ≤ 1000) (hB : B ≤ w.heap.size)
    (h : ∀ g cap w', OwnU w' B (some ⟨g, 0, none⟩) cap (n + 1) (put f n v) → Keeps (blkL xx) w w' → (blkL xx = [g] ∨ w.heap.size ≤ g) → wpList Tryz.prog ops Q rest (a.put o.dst (.slice (some ⟨g, 0, none⟩) (n + 1) cap)) w') :
    wpList Tryz.prog ops Q (o :: rest) a w := by
  have hi : ∃ i, Tryz.prog.info? 27 = some i ∧ (i.zero, i.size, i.bytes) = (some (.int .u64 0), 1, 8) := by
    have h : (Tryz.prog.info? 27).map (fun i => (i.zero, i.size, i.bytes)) = some (some (.int .u64 0), 1, 8) := by kernel_rfl
    exact Option.map_eq_some_iff.1 h
  obtain ⟨ti, hi1, hi2⟩ := hi
  simp only [Prod.mk.injEq] at hi2
  obtain ⟨hz, hsz, hby⟩ := hi2
  refine wpList_append_own_at w hgd s x 25 ho B 27 ti (.int .u64 0) 1 8 Tryz.underlying25 hi1 hz hsz hby rfl (by omega) _ n _ hs hown ⟨b, 0, none⟩ 1 c [.int .u64 v] hx rfl (fun j u hj => ?_) (by simp [Value.oneCell']) (by unfold maxLen; omega) (by omega) hB ?_
  · cases j with
    | zero => simp at hj; subst hj; exact hc
    | succ j => simp at hj
  · intro v' w' h1 h2 h3 h4
    have hne : v' ≠ .slice none 0 0 := fun e => by have := (h3.1 e).2; omega
    have h1' := h1
    obtain ⟨_, ⟨rfl, _⟩ | ⟨g, cap, cur, rfl, hB', hg, h5⟩⟩ := h1'
    · exact absurd rfl hne
    · rw [range_put_u] at h1
      refine h g cap w' h1 (grown_keeps h2) ?_
      rcases h4 with h4 | h4
      · left
        cases xx with
        | none => simp [Value.ownBlock] at h4
        | some a => simp [Value.ownBlock] at h4; simp [blkL]; exact h4.symm
      · right
        simp [Value.ownBlock] at h4; omega

set_option maxRecDepth 100000 in
set_option maxHeartbeats 1000000 in
/-- slices.Equal, of two rows of the same stores. -/
theorem equalL_true (w : World) (B1 B2 : Nat) (a1 a2 : Option Addr) (n c1 c2 : Nat) (L : List (Nat × Int)) (h1 : OwnL w B1 a1 c1 n L) (h2 : OwnL w B2 a2 c2 n L) (hn : n ≤ 1000) :
    Calls Tryz.prog 45 #[.slice a1 n c1, .slice a2 n c2] w fun e w' => e = .returned (.bool true) ∧ Keeps [] w w' := by
  have hL := h1.1
  have hni : (n : Int) ≤ 1000 := by omega
  have HF1 := hid h1.form
  have HF2 := hid h2.form
  clear h1 h2
  go_enter Tryz.func45, Tryz.ntmps45
  go_wp2
  go_loopg [13] n (fun r s wr => ∃ i : Nat, i + r = n ∧ s = .int .i64 i ∧ Keeps [] w wr)
  case atStart => exact ⟨0, by omega, rfl, Keeps.refl _ _⟩
  case round =>
    obtain ⟨i, hi, rfl, hK⟩ := hrel
    by_cases hlt : i < n
    · obtain ⟨g1, cur1, rfl, _, hA1, hc1⟩ := HF1.out.resolve_left (fun h => by omega)
      obtain ⟨g2, cur2, rfl, _, hA2, hc2⟩ := HF2.out.resolve_left (fun h => by omega)
      obtain ⟨y, hy⟩ : ∃ y, L[i]? = some y := ⟨L[i], List.getElem?_eq_getElem (by omega)⟩
      obtain ⟨d1, d2⟩ := hc1 i y hy
      obtain ⟨d3, d4⟩ := hc2 i y hy
      obtain ⟨y1, y2⟩ := y
      have hii : (i : Int) < (n : Int) := by omega
      clear hc1 hc2 hy
      go_wp2_with fail
      refine wp_region_tail 8 (by kernel_rfl) (by kernel_rfl) ?_
      intro w2 hk2 hz2
      simp only [List.take_succ_cons, List.take_zero, List.drop_succ_cons, List.drop_zero]
      have e1 : w2.cell? ⟨g1, i * 2, none⟩ = some (.int .i64 (y1 : Nat)) := by rw [Nat.mul_comm]; exact ((hK.trans hk2).at hA1 (by simp)).cell _ d1
      have e2 : w2.cell? ⟨g1, i * 2 + 1, none⟩ = some (.int .u64 y2) := by rw [Nat.mul_comm]; exact ((hK.trans hk2).at hA1 (by simp)).cell _ d2
      have e3 : w2.cell? ⟨g2, i * 2, none⟩ = some (.int .i64 (y1 : Nat)) := by rw [Nat.mul_comm]; exact ((hK.trans hk2).at hA2 (by simp)).cell _ d3
      have e4 : w2.cell? ⟨g2, i * 2 + 1, none⟩ = some (.int .u64 y2) := by rw [Nat.mul_comm]; exact ((hK.trans hk2).at hA2 (by simp)).cell _ d4
      repeat still_step
      refine wpStill_nil ?_
      go_wp2
      go_roundg (n - (i + 1))
      case measure => omega
      case rel => exact ⟨i + 1, by omega, by go_num, hK.trans hk2⟩
    · go_wp2
      go_ret
      exact ⟨rfl, hK⟩

/-- The function that collects, at its q-th call an error. -/
def CllJ (p : Nat) (a : DA) (S : DS) (gb sb B st : Nat) (n : Nat) (s : List (Nat × Int) × Option Addr × Nat) (w : World) : Prop :=
  Dev w p a S ∧ At w gb (.cells #[.slice s.2.1 s.1.length s.2.2] 84) ∧ At w sb (.cells #[.int .u8 (st : Nat)] 5) ∧ OwnL w B s.2.1 s.2.2 s.1.length s.1 ∧ s.1.length ≤ n ∧ B ≤ w.heap.size
def CllT (st : Nat) (s : List (Nat × Int) × Option Addr × Nat) (i : Nat) (v : Int) (code : Int) (s' : List (Nat × Int) × Option Addr × Nat) : Prop :=
  s'.1 = s.1 ++ [(i, v)] ∧ code = if s.1.length = st % 6 then 3 else 0

def CllP (gb B n m : Nat) (x : Option Addr) (L : List (Nat × Int)) (i : Nat) (v : Int) (w : World) (e : Ending) (w' : World) : Prop :=
  ∃ g cap, e = .returned (.int .i64 (if n = m then 3 else 0)) ∧
    At w' gb (.cells #[.slice (some ⟨g, 0, none⟩) (n + 1) cap] 84) ∧ OwnL w' B (some ⟨g, 0, none⟩) cap (n + 1) (L ++ [(i, v)]) ∧ Keeps (gb :: blkL x) w w' ∧ (blkL x = [g] ∨ w.heap.size ≤ g)

set_option maxRecDepth 100000 in
set_option maxHeartbeats 1000000 in
theorem writes1_at (w : World) (gb sb B st : Nat) (hst : st ≤ 255) (x : Option Addr) (cp n : Nat) (L : List (Nat × Int)) (i : Nat) (v : Int) (h1 : At w gb (.cells #[.slice x n cp] 84)) (h2 : At w sb (.cells #[.int .u8 (st : Nat)] 5))
    (h3 : OwnL w B x cp n L) (hn : n ≤ 900) (hB : B ≤ w.heap.size) (hgb : gb < B) (hsb : sb < B) (hne : gb ≠ sb) :
    Calls Tryz.prog 44 #[.int .i64 (i : Nat), .int .u64 v, ptr gb, ptr sb] w (CllP gb B n (st % 6) x L i v w) := by
  have c0 := h1.cell 0 rfl
  have k0 := (Keeps.refl [] w).alloc (.cells #[.int .i64 (i : Nat), .int .u64 v] 86)
  have HO := hid (h3.keep k0 (by simp))
  have hA := At.new w (.cells #[.int .i64 (i : Nat), .int .u64 v] 86)
  have n0 := hA.cell 0 rfl
  have n1 := hA.cell 1 rfl
  have h1a := k0.at h1 (by simp)
  have h2a := k0.at h2 (by simp)
  have HG := hid h3.ge
  have hB2 := Nat.le_trans hB k0.size
  have HB := hid hB2
  have hn1 : n ≤ 1000 := by omega
  have hni : (n : Int) ≤ 900 := by omega
  have hsti : (st : Int) ≤ 255 := by omega
  obtain ⟨m, hm⟩ : ∃ m, m = st % 6 := ⟨_, rfl⟩
  have EM := hid (show (st : Int) % 6 = (m : Int) by omega)
  have hmb : (m : Int) ≤ 5 := by omega
  rw [← hm]
  clear h1 h2 h3 hA hm
  go_enter Tryz.func44, Tryz.ntmps44
  go_upto_region 2 with (refine appL_list rfl _ _ rfl B x cp n L rfl HO.out w.heap.size 1 i v rfl n0 n1 hn1 hB2 ?_; intro g cap w3 hO3 hk3 hg3; have hA3 := hk3.at h1a (fun h => by have := HG.out _ h; omega); have y0 := hA3.cell 0 rfl; have yf := hA3.free 0)
  have hS3 := (hk3.at h2a (fun h => by have := HG.out _ h; omega)).set_ne (a := ⟨gb, 0, none⟩) (fun e => hne e.symm) (.slice (some ⟨g, 0, none⟩) (n + 1) cap)
  have hA4 := hA3.set 0 (.slice (some ⟨g, 0, none⟩) (n + 1) cap)
  have hO4 := hO3.keep (T := [gb]) ((Keeps.refl [gb] w3).set (p := ⟨gb, 0, none⟩) (.inl (by simp)) (.slice (some ⟨g, 0, none⟩) (n + 1) cap)) (fun b hb => by
    have := hO3.ge b hb
    simp
    omega)
  have K4 : Keeps (gb :: blkL x) w (w3.setCell ⟨gb, 0, none⟩ (.slice (some ⟨g, 0, none⟩) (n + 1) cap)) :=
    ((k0.mono (by simp)).trans (hk3.mono (by simp +contextual))).set (.inl (by simp)) _
  have HE := hid (And.intro hA4 (And.intro hO4 (And.intro K4 (hg3.imp id (fun h => Nat.le_trans k0.size h)))))
  have z0 := hA4.cell 0 rfl
  have s0 := hS3.cell 0 rfl
  clear c0 n0 n1 h1a h2a hA3 y0 yf hO3 hO4 K4 hg3 hS3 hA4 hk3 k0 hB2
  by_cases hnm : n = m
  · subst hnm
    have t1 : ((n : Int) + 1 == 1 + (n : Int)) = true := by rw [beq_iff_eq]; omega
    have em := EM.out
    go_wp2_with fail
    go_ret
    exact ⟨g, cap, by rw [if_pos rfl]; rfl, HE.out⟩
  · have t1 : ((n : Int) + 1 == 1 + (m : Int)) = false := by rw [beq_eq_false_iff_ne]; omega
    have HNM := hid hnm
    have em := EM.out
    clear hnm
    go_wp2_with fail
    go_ret
    exact ⟨g, cap, by rw [if_neg HNM.out]; rfl, HE.out⟩

theorem cll_storer (p : Nat) (a : DA) (S : DS) (gb sb B st : Nat) (hst : st ≤ 255) (hs : gb < B ∧ sb < B ∧ gb ≠ sb ∧ a.d < B ∧ a.s < B ∧ a.k < B ∧ a.m < B ∧ a.d ≠ gb ∧ a.s ≠ gb ∧ a.k ≠ gb ∧ a.m ≠ gb) :
    Storer 44 #[] #[ptr gb, ptr sb] a (fun _ => S) (fun s => gb :: blkL s.2.1) 900 (CllJ p a S gb sb B st) (CllT st) (fun _ _ _ _ => False) where
  inv := fun w i v => by simp [go_sem]
  dev := fun n s w h => ⟨p, h.1⟩
  keep := fun n s w w' h hk => ⟨h.1.keep hk (by simp) (by simp) (by simp) (by simp), hk.at h.2.1 (by simp), hk.at h.2.2.1 (by simp), h.2.2.2.1.keep hk (by simp), h.2.2.2.2.1, Nat.le_trans h.2.2.2.2.2 hk.size⟩
  more := fun n s w h => ⟨h.1, h.2.1, h.2.2.1, h.2.2.2.1, Nat.le_succ_of_le h.2.2.2.2.1, h.2.2.2.2.2⟩
  call := fun n s w i v hn ⟨h1, h2, h3, h4, h5, h6⟩ hi => by
    obtain ⟨L, x, cp⟩ := s
    obtain ⟨s1, s2, s3, s4, s5, s6, s7, s8, s9, s10, s11⟩ := hs
    have hge := h4.ge
    refine (writes1_at w gb sb B st hst x cp L.length L i v h2 h3 h4 (by simp at h5; omega) h6 s1 s2 s3).mono ?_
    rintro e w' ⟨g, cap, rfl, e1, e2, e3, e4⟩
    have hd : ∀ b, b < B → b ≠ gb → b ∉ gb :: blkL x := fun b hb hne hm => by
      rcases List.mem_cons.1 hm with h | h
      · exact hne h
      · have := (hge b h).1; omega
    refine .inl ⟨_, (L ++ [(i, v)], some ⟨g, 0, none⟩, cap), rfl, ⟨rfl, rfl⟩, ⟨h1.keep e3 (hd _ s4 s8) (hd _ s5 s9) (hd _ s6 s10) (hd _ s7 s11), ?_, e3.at h3 (hd _ s2 (fun e => s3 e.symm)), ?_, ?_, Nat.le_trans h6 e3.size⟩, e3, fun b hb => ?_⟩
    · simpa using e1
    · simpa using e2
    · simp at h5 ⊢; omega
    · rcases List.mem_cons.1 hb with h | h
      · exact .inl (by rw [h]; exact List.mem_cons_self)
      · simp [blkL] at h
        subst h
        rcases e4 with e4 | e4
        · exact .inl (List.mem_cons_of_mem _ (by show b ∈ blkL x; rw [e4]; simp))
        · exact .inr e4

/-- What is stored of words, in their order, up to the m-th behind the first, by definition: the answer, the stores. -/
def runL (S : DS) (m : Nat) : List (Nat × Int) → List (Nat × Int) → Int × List (Nat × Int)
  | L, [] => (0, L)
  | L, (i, v) :: l => if S.now i = v then runL S m L l else if L.length = m then (3, L ++ [(i, v)]) else runL S m (L ++ [(i, v)]) l

theorem wr_run (S : DS) (st : Nat) : ∀ {l : List (Nat × Int)} {s s' : List (Nat × Int) × Option Addr × Nat} {code : Int}, WrT (fun _ => S) (CllT st) l s code s' → code = (runL S (st % 6) s.1 l).1 ∧ s'.1 = (runL S (st % 6) s.1 l).2
  | [], s, s', code, h => by obtain ⟨rfl, rfl⟩ := h; exact ⟨rfl, rfl⟩
  | (i, v) :: l, s, s', code, h => by
    obtain ⟨c1, s1, h1, h2⟩ := h
    rcases h1 with ⟨e1, rfl, rfl⟩ | ⟨e1, e2, e3⟩
    · rcases h2 with ⟨h6, _⟩ | ⟨_, h6⟩
      · exact absurd rfl h6
      · have := wr_run S st h6
        unfold runL
        rw [if_pos e1]
        exact this
    · unfold runL
      rw [if_neg e1]
      by_cases hm : s.1.length = st % 6
      · rw [if_pos hm] at e3 ⊢
        subst e3
        rcases h2 with ⟨_, rfl, rfl⟩ | ⟨h6, _⟩
        · exact ⟨rfl, e2⟩
        · exact absurd h6 (by decide)
      · rw [if_neg hm] at e3 ⊢
        subst e3
        rcases h2 with ⟨h6, _⟩ | ⟨_, h6⟩
        · exact absurd rfl h6
        · rw [← e2]
          exact wr_run S st h6

end Go.Proofs.YtkoflpcpopmkkaaGreat
