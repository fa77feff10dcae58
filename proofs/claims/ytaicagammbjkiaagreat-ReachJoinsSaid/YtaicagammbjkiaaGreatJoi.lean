/- The law's own row of what is reached, gone over and collected; slices.Clone of ints. -/
import Derived.Test.YtaicagammbjkiaaGreatAwk13
import Derived.Test.YtaicagammbjkiaaGreatApp
import Derived.Test.YtaicagammbjkiaaGreatRea
import Derived.OwnWalkIn
namespace Go.Proofs.YtaicagammbjkiaaGreat
open Go.RowKit Go.OpenShut

/-- append of an int, in a round. -/
theorem appI_in {F : Fence} {nf : Nat} {ops : Array Oper} {rest : List Oper} {o : Oper} {a : Act} {w : World} {Q : Exit → Act → World → Prop} (hgd : o.guard = none) (s x : Operand)
    (ho : o.op = .call { callee := .builtin .append, args := #[s, x], argTypes := #[34, 34] })
    (B : Nat) (xx : Option Addr) (cp n : Nat) (f : Nat → Nat) (hs : a.eval s = .slice xx n cp) (hown : OwnI w B xx cp n f) (b i : Nat) (hx : a.eval x = .slice (some ⟨b, 0, none⟩) 1 1) (hA : At w b (.cells #[.int .i64 (i : Nat)] 3))
    (hn : n + 1 ≤ 100000) (hB : B ≤ w.heap.size)
    (h : ∀ x' cp' w', OwnI w' B x' cp' (n + 1) (fun j => if j < n then f j else i) → Keeps (blkL xx) w w' → (∀ b ∈ blkL x', b ∈ blkL xx ∨ w.heap.size ≤ b) → wpListIn F nf Tryz.prog ops Q rest (a.put o.dst (.slice x' (n + 1) cp')) w') :
    wpListIn F nf Tryz.prog ops Q (o :: rest) a w := by
  refine wpListIn_plain hgd fun K hK' => ?_
  have hy : OwnI w 0 (some ⟨b, 0, none⟩) 1 1 (fun _ => i) := ⟨rfl, .inr ⟨b, 1, #[.int .i64 (i : Nat)], rfl, Nat.zero_le _, hA, Nat.le_refl _, by unfold maxLen; omega, rfl, rfl⟩⟩
  obtain ⟨x', cp', w', hrun, h1, h2, h3⟩ := app2I_run hown hy hn hB o.type
  unfold Oper.wpIn
  refine ⟨?_, ?_⟩
  · simp [Oper.about, ho, resolve, Target.leads, Sem.run_pure]
  · rw [Oper.semAt_plain F _ _ (by rw [ho]; intro c hc'; cases hc')]
    simp [execOp, ho, resolve, invoke, builtin, hs, hx, hrun, Result.andThen]
    exact hK' _ _ (h x' cp' w' h1 h2 h3)

theorem run_slice_nilI (a : Option Addr) (n c : Nat) (w : World) : (binOp .eql 34 (.slice a n c) (.slice none 0 0)).run Tryz.prog w = .ok (.bool a.isNone) w := by
  have h := run_equal_slice_nil (P := Tryz.prog) (w := w) 34 3 a n c Tryz.underlying34
  simp [binOp, h, Result.andThen]

/-- slices.Clone, of ints. -/
theorem cloneI_any (w : World) (x : Option Addr) (n c B : Nat) (f : Nat → Nat) (h : OwnI w B x c n f) (hn : n ≤ 100000) :
    Calls Tryz.prog 16 #[.slice x n c] w fun e w' => ∃ x' c', e = .returned (.slice x' n c') ∧ OwnI w' w.heap.size x' c' n f ∧ Keeps [] w w' := by
  cases x with
  | some x =>
    have hnil := run_slice_nilI (some x) n c
    have hO := h.keep ((Keeps.refl [] w).alloc (.cells #[] 3)) (by simp)
    have hE : OwnI (w.alloc (.cells #[] 3)) w.heap.size (some ⟨w.heap.size, 0, none⟩) 0 0 (fun _ => 0) := ⟨rfl, .inr ⟨w.heap.size, 0, #[], rfl, Nat.le_refl _, At.new _ _, Nat.le_refl _, by unfold maxLen; omega, rfl, rfl⟩⟩
    have hBw : w.heap.size ≤ (w.alloc (.cells #[] 3)).heap.size := by simp
    have hn2 : 0 + n ≤ 100000 := by omega
    clear h hn
    go_enter Tryz.func16, Tryz.ntmps16
    go_wp2_with (at_builtin; refine app2I_list rfl _ _ rfl w.heap.size B (some ⟨w.heap.size, 0, none⟩) (some x) 0 0 c n (fun _ => 0) f rfl rfl hE hO hn2 hBw ?_; intro x' c' w' h1 h2 h3)
    have h4 : OwnI w' w.heap.size x' c' n f := by
      have := h1.eq (g := f) (fun j _ => by simp)
      rwa [Nat.zero_add] at this
    have h5 : Keeps [] w w' := ((Keeps.refl [] w).alloc (.cells #[] 3)).new h2 (fun b hb => .inr (by have h6 : b = w.heap.size := (by simpa [blkL] using hb); omega))
    have HE := hid (And.intro h4 h5)
    clear h1 h2 h3 h4 h5
    go_ret
    exact ⟨x', c', rfl, HE.out⟩
  | none =>
    have hn0 : n = 0 := by
      rcases h.form with ⟨_, h⟩ | ⟨_, _, h, _⟩
      · exact h
      · exact absurd h (by simp)
    subst hn0
    have hnil := run_slice_nilI none 0 c
    clear h hn
    go_enter Tryz.func16, Tryz.ntmps16
    go_wp2_with fail
    go_ret
    exact ⟨none, 0, rfl, ownI_nil _ _ _, Keeps.refl _ _⟩

/-- Places collected so far, in a box. -/
def AllI (ob : Nat) (w2 : World) (LS : List Nat) (k : Nat) (O : List Nat) (W : World) : Prop :=
  ∃ x' cp', k ≤ LS.length ∧ At W ob (.cells #[.slice x' k cp'] 34) ∧ OwnI W w2.heap.size x' cp' k (fun i => LS.getD i 0) ∧ ob ∉ O ∧ (∀ b ∈ blkL x', b ∉ O) ∧ (∀ b ∈ O, w2.heap.size ≤ b) ∧ w2.heap.size ≤ W.heap.size ∧ Keeps [ob] w2 W

theorem AllI.bears (ob : Nat) (w2 : World) (LS : List Nat) (k : Nat) : Bears (AllI ob w2 LS k) := by
  rintro O O' W W' ⟨x', cp', h1, h2, h3, h4, h5, h6, h7, h8⟩ hk hO
  refine ⟨x', cp', h1, hk.at h2 h4, h3.keep hk h5, fun h => ?_, fun b hb h => ?_, fun b hb => ?_, Nat.le_trans h7 hk.size, h8.new hk fun b hb => .inr (h6 b hb)⟩
  · rcases hO _ h with h | h
    · exact h4 h
    · have := h2.lt; omega
  · rcases hO _ h with h | h
    · exact h5 b hb h
    · have := (h3.ge b hb).2; omega
  · rcases hO _ hb with h | h
    · exact h6 b h
    · omega

/-- What it answers. -/
def AllP (LS : List Nat) (w : World) (e : Ending) (w' : World) : Prop :=
  ∃ x' cp', e = .returned (.slice x' LS.length cp') ∧ OwnI w' w.heap.size x' cp' LS.length (fun i => LS.getD i 0) ∧ Keeps [] w w'

set_option maxRecDepth 100000 in
set_option maxHeartbeats 4000000 in
theorem all_at (w : World) (db cb bb : Nat) (p : Nat) (a : DA) (S : DS) (c : Cfg) (us : Nat) (rs : Value) (hdb : At w db (.cells #[ptr a.d] 28)) (hcb : At w cb (cfgO c)) (hbb : At w bb (bkO 0 us rs)) (hD : Dev w p a S) (hc : c.Ok) (hcn : c.words = a.n) (hu : us ≤ c.space)
    (hx : ∀ j : Nat, c.frm 0 ≤ j → j < c.frm 0 + us → ∃ x : Nat, S.now j = (x : Int) ∧ x < 18446744073709551616)
    (x : Option Addr) (n cp : Nat) (f : Nat → Int) (hr : Reads w x n f) (hn : n ≤ 1000) (hf : ∀ i, i < n → ∃ v : Nat, f i = (v : Int) ∧ v < 18446744073709551616) (LS : List Nat) (hLS : LS = rcF S c 0 us (wsN n f)) :
    Calls Tryz.prog 14 #[.slice x n cp, ptr db, ptr cb, ptr bb] w (AllP LS w) := by
  have hsp := hc.small.2.2
  have hlen : LS.length ≤ 4096 := by
    have := rcF_len (S := S) (c := c) (k := 0) (u := us) (ws := wsN n f)
    rw [← hLS] at this
    omega
  have hob : ∀ y ∈ LS, y ≤ 30000 := fun y hy => by
    have h1 := obW_in (rcF_ob (ws := wsN n f) (by rw [← hLS]; exact hy))
    have h2 := frm_le hc.small (show 0 ≤ 2 by omega)
    omega
  have HFR := hid (fun (w' : World) (hk' : Keeps [] w w') => from13_at w' p a S c (hD.keep hk' (by simp) (by simp) (by simp) (by simp)) hc hcn 0 (by omega) us hu rs hx x n cp f (hr.keep hk' (by simp)) hn hf)
  have HDL : Hid (a.d < w.heap.size ∧ a.s < w.heap.size ∧ a.k < w.heap.size ∧ a.m < w.heap.size) := ⟨hD.dev.lt, hD.now.lt, hD.kept.lt, hD.map.lt⟩
  have HLS := hid hLS
  have HLN := hid hlen
  have HOB := hid hob
  have HDB := hid hdb
  have HCB := hid hcb
  have HBB := hid hbb
  clear hD hc hcn hu hx hr hn hf hLS hlen hsp hdb hcb hbb hob
  refine callsAt_marks Tryz.func14 rfl (.of_wp ?_)
  simp only [Tryz.ntmps14, List.size_toArray, List.length_cons, List.length_nil, Nat.reduceAdd, Nat.reduceSub, Array.replicate_succ, Array.replicate_zero, List.push_toArray, List.append_toArray, List.nil_append, List.cons_append]
  go_upto_region 2 with fail
  have hO1 := At.new w (.cells #[.slice none 0 0] 34)
  have k01 := (Keeps.refl [] w).alloc (.cells #[.slice none 0 0] 34)
  obtain ⟨ob, hob⟩ : ∃ q, q = w.heap.size := ⟨_, rfl⟩
  obtain ⟨w1, hw1⟩ : ∃ w1, w1 = w.alloc (.cells #[.slice none 0 0] 34) := ⟨_, rfl⟩
  have hz1 : w1.heap.size = ob + 1 := by rw [hw1, hob]; simp
  rw [← hw1] at hO1 k01
  first | rw [← hw1] | skip
  rw [← hob] at hO1
  rw [← hob]
  have d0 := (k01.at HDB.out (by simp)).cell 0 rfl
  have c0 := (k01.at HCB.out (by simp)).cell 0 rfl
  have c1 := (k01.at HCB.out (by simp)).cell 1 rfl
  have c2 := (k01.at HCB.out (by simp)).cell 2 rfl
  have b0 := (k01.at HBB.out (by simp)).cell 0 rfl
  have b1 := (k01.at HBB.out (by simp)).cell 1 rfl
  have b2 := (k01.at HBB.out (by simp)).cell 2 rfl
  have HO1 := hid hO1
  have HK1 := hid k01
  have HQ : Hid (ob = w.heap.size ∧ w1.heap.size = ob + 1) := ⟨hob, hz1⟩
  clear hw1 hz1 hob hO1 k01
  go_wp2_with fail
  refine (HFR.out w1 HK1.out).mono ?_
  rintro e w2 ⟨gf, lb, Fct, rfl, hent, hit, hfct, k12⟩
  rw [← HLS.out] at hit
  have hfn := fun w => run_eql_rc w (.func gf) #[] lb
  have HENT := hid hent
  have HIT := hid hit
  have HFC := hid hfct
  have HO2 := hid (k12.at HO1.out (by simp))
  have HK2 := hid (HK1.out.trans k12)
  have HS2 : Hid (ob < w1.heap.size ∧ w1.heap.size ≤ w2.heap.size) := ⟨by have := HQ.out; omega, k12.size⟩
  clear hent hit hfct k12 d0 c0 c1 c2 b0 b1 b2
  go_wp2_with fail
  clear hfn
  refine wp_rangeE (gf := gf) (lb := lb) rfl HENT.out (fun fn => ?_)
  refine' (iter_coreO HIT.out fn w2 _ _ _ _ (AllI ob w2 LS) (fun O W => False)
    .ret .ret (.inl ⟨rfl, rfl⟩) (fun _ => rfl) ?fct (AllI.bears ob w2 LS) ?keepx ?round ?start).mono ?after
  case fct =>
    rintro i O W ⟨_, _, _, _, _, _, _, _, _, hk⟩
    refine HFC.out [ob] W hk fun b hb => .inl ?_
    obtain rfl := List.mem_singleton.1 hb
    have h1 := HQ.out
    have h2 := HDL.out
    exact ⟨HS2.out.1, by omega, by omega, by omega, by omega⟩
  case keepx =>
    rintro O O' W W' h _ _
    exact h
  case start => exact ⟨none, 0, Nat.zero_le _, HO2.out, ownI_nil _ _ _, by simp, by simp, by simp, Nat.le_refl _, Keeps.refl _ _⟩
  case round =>
    rintro i O W him ⟨x', cp', hil, hA, hO, hn1, hn2, hn3, hn4, hK⟩ hlt hm1 hm2 hsz
    obtain ⟨X, hX⟩ : ∃ X, LS[i]? = some X := ⟨_, List.getElem?_eq_getElem him⟩
    rw [rcA_at hX]
    obtain ⟨nn, hnn⟩ : ∃ nn, nn = hdN (S.now X).toNat := ⟨_, rfl⟩
    obtain ⟨rr, hrr⟩ : ∃ rr, rr = hdR (S.now X).toNat := ⟨_, rfl⟩
    rw [← hnn, ← hrr]
    have hXb : X ≤ 30000 := HOB.out X (List.mem_of_getElem? hX)
    have HX := hid hX
    have HLT := hid him
    have HI := hid (And.intro hA (And.intro hO (And.intro hn1 (And.intro hn2 (And.intro hn3 (And.intro hn4 hK))))))
    have HOL := hid (And.intro hlt (And.intro hm1 (And.intro hm2 hsz)))
    clear hX hnn hrr hA hO hn1 hn2 hn3 hn4 hK hlt hm1 hm2 hsz him hil
    have hsem := @Oper.semAt_some
    gi_wp2_with fail
    refine ⟨(Keeps.refl [] W).alloc _, fun W₂ k2 hz2 _ => ?_⟩
    have hol := HOL.out
    have hi := HI.out
    have hq := HS2.out
    have hO2 := k2.at (At.new W (obO (nn : Nat) (rr : Nat) (X : Nat))) (by simp; omega)
    have kW2 : Keeps [w2.heap.size + 1] W W₂ := ((Keeps.refl _ W).alloc _).trans k2
    have hA2 := kW2.at HI.out.1 (by simp; omega)
    have hOw : OwnI W₂ w2.heap.size x' cp' i (fun i => LS.getD i 0) := HI.out.2.1.keep kW2 (fun b hb h => by
      obtain rfl := List.mem_singleton.1 h
      exact hi.2.2.2.1 _ hb hol.2.2.1)
    have o0 := hO2.cell 0 rfl
    have o1 := hO2.cell 1 rfl
    have o2 := hO2.cell 2 rfl
    have a0 := hA2.cell 0 rfl
    have hAX := At.new W₂ (.cells #[.int .i64 (X : Nat)] 3)
    have hOX : OwnI (W₂.alloc (.cells #[.int .i64 (X : Nat)] 3)) w2.heap.size x' cp' i (fun i => LS.getD i 0) := hOw.keep ((Keeps.refl [] W₂).alloc _) (by simp)
    have hA2X := hA2.alloc (.cells #[.int .i64 (X : Nat)] 3)
    have hi1 : i + 1 ≤ 100000 := by have := HLT.out; have := HLN.out; omega
    have hBX : w2.heap.size ≤ (W₂.alloc (.cells #[.int .i64 (X : Nat)] 3)).heap.size := by simp only [World.size_alloc]; have := kW2.size; omega
    have hobn : ob ∉ blkL x' := fun h => by have := (hi.2.1.ge _ h).1; omega
    have HKW := hid kW2
    have HOBN := hid (And.intro hobn hBX)
    clear hol hi hq hO2 k2 hz2 hOw
    gi_wp2_with (gi_at_builtin; refine appI_in rfl _ _ rfl w2.heap.size x' cp' i _ rfl hOX _ X rfl hAX hi1 hBX ?_; intro x9 cp9 w9 hO9 hk9 hx9; have hA9 := hk9.at hA2X hobn; have a9 := hA9.cell 0 rfl; have af9 := hA9.free 0)
    obtain ⟨hA, hO, hn1, hn2, hn3, hn4, hK⟩ := HI.out
    obtain ⟨hlt, hm1, hm2, hsz⟩ := HOL.out
    have hq := HS2.out
    have hzX : (W₂.alloc (.cells #[.int .i64 (X : Nat)] 3)).heap.size = W₂.heap.size + 1 := by simp
    have hkz := HKW.out.size
    have hset := (Keeps.refl [ob] w9).set (p := ⟨ob, 0, none⟩) (.inl (by simp)) (.slice x9 (i + 1) cp9)
    have hx9l : ∀ b ∈ blkL x9, w2.heap.size ≤ b := fun b hb => (hO9.ge b hb).1
    have kT : Keeps (ob :: blkL x') W₂ (w9.setCell ⟨ob, 0, none⟩ (.slice x9 (i + 1) cp9)) := ((((Keeps.refl [] W₂).alloc (.cells #[.int .i64 (X : Nat)] 3)).mono (by simp)).trans (hk9.mono (by intro b _ hb; exact List.mem_cons_of_mem _ hb))).trans (hset.mono (by intro b _ hb; rw [List.mem_singleton.1 hb]; exact List.mem_cons_self))
    have kA : Keeps ((w2.heap.size + 1) :: ob :: blkL x') W (w9.setCell ⟨ob, 0, none⟩ (.slice x9 (i + 1) cp9)) := (HKW.out.mono (by intro b _ hb; rw [List.mem_singleton.1 hb]; exact List.mem_cons_self)).trans (kT.mono (by intro b _ hb; exact List.mem_cons_of_mem _ hb))
    refine ⟨⟨x9, cp9, HLT.out, hA9.set 0 (.slice x9 (i + 1) cp9), (hO9.eq fun j hj => ?_).keep hset (fun b hb h => by have := hx9l b hb; obtain rfl := List.mem_singleton.1 h; omega), hn1, fun b hb h => ?_, hn3, Nat.le_trans hn4 kA.size, hK.new kA fun b hb => ?_⟩, ob :: blkL x', kT, fun b hb h => ?_⟩
    · by_cases hji : j < i
      · exact if_pos hji
      · have hje : j = i := by omega
        subst hje
        rw [if_neg hji, List.getD_eq_getElem?_getD, HX.out]
        rfl
    · rcases hx9 b hb with h1 | h1
      · exact hn2 b h1 h
      · have := hlt b h; omega
    · simp only [List.mem_cons] at hb
      rcases hb with rfl | rfl | hb
      · exact .inr (by omega)
      · exact .inl (by simp)
      · exact .inr (hO.ge b hb).1
    · rcases List.mem_cons.1 hb with rfl | hb
      · exact hn1 h
      · exact hn2 b hb h
  case after =>
    intro e w9 hr
    cases e with
    | panicked _ => exact hr
    | outgrown => exact hr
    | returned v =>
      rcases hr with ⟨w10, hend, ⟨O, x', cp', _, hA, hO, _, _, _, _, hK⟩, hDf⟩ | ⟨w10, hend, ⟨_, h⟩, hDf⟩
      case inr => exact h.elim
      refine .inl ⟨w10, hend, ?_⟩
      have a0 := hA.cell 0 rfl
      have K10 : Keeps [] w w10 := HK2.out.new hK (fun b hb => .inr (by have := HQ.out; obtain rfl := List.mem_singleton.1 hb; omega))
      have HE := hid (And.intro hO (And.intro K10 hDf))
      clear hend hA hO hK K10 hDf
      simp only [Exit.inBlock, Exit.then]
      go_wp2_with fail
      refine ⟨by simp, .inl ⟨_, _, rfl, run_takeDeferred HE.out.2.2, ?_⟩⟩
      have kd : Keeps [w2.heap.size] w10 (w10.putObj w2.heap.size (.deferred none)) := (Keeps.refl _ _).put (.inl (by simp)) _
      refine ⟨.slice x' LS.length cp', by simp [results, Tryz.results14, go_sem], x', cp', rfl, (HE.out.1.keep kd fun b hb h => ?_).low (by have := HQ.out; have := HS2.out; omega), HE.out.2.1.new kd (fun b hb => .inr (by obtain rfl := List.mem_singleton.1 hb; exact HK2.out.size))⟩
      obtain rfl := List.mem_singleton.1 h
      rcases HE.out.1.form with ⟨rfl, _⟩ | ⟨g, cur, rfl, _, hg, _⟩
      · simp [blkL] at hb
      · have h6 : w2.heap.size = g := by simpa [blkL] using hb
        rw [← h6] at hg
        exact Obj.noConfusion (hg.inj HE.out.2.2)

end Go.Proofs.YtaicagammbjkiaaGreat
