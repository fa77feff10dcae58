/- From's contract. -/
import Derived.Test.YtaicagammbjkiaaGreatFrn
import Derived.LoopN
import Derived.BigQuiet
namespace Go.Proofs.YtaicagammbjkiaaGreat
open Go.RowKit Go.OpenShut

set_option maxRecDepth 100000 in
set_option maxHeartbeats 4000000 in
theorem from1_iter (a : DA) (S : DS) (c : Cfg) (hc : c.Ok) (hcn : c.words = a.n) (k : Nat) (hk : k ≤ 1) (u : Nat) (hu : u ≤ c.space)
    (hx : ∀ j : Nat, c.frm k ≤ j → j < c.frm k + u → ∃ x : Nat, S.now j = (x : Int) ∧ x < 18446744073709551616)
    (bd bc bb bx : Nat) (x : Option Addr) (n cp : Nat) (f : Nat → Int) (hn : n ≤ 1000) (hf : ∀ i, i < n → ∃ v : Nat, f i = (v : Int) ∧ v < 18446744073709551616) :
    IterO Tryz.prog 30 #[ptr bd, ptr bc, ptr bb, ptr bx] (rcF S c k u (wsN n f)).length (rcA S (rcF S c k u (wsN n f))) (FrF a c k u bd bc bb bx S x n cp f) := by
  intro l J Jx W hF hJ hX hY h0
  have hsp := hc.small.2.2
  have hfr := frm_le hc.small (show k ≤ 2 by omega)
  obtain ⟨LS, hLS⟩ : ∃ LS, LS = rcF S c k u (wsN n f) := ⟨_, rfl⟩
  rw [← hLS] at hY ⊢
  have HT := hid (fun out O x' cp' W1 h hol z v hz hzv hnext => tell_at a S c hc hcn k hk u hu hx l J Jx LS bd bc bb W.heap.size (fun k' O W h => (hF k' O W h).bs) hJ hY out O x' cp' W1 h hol z v hz hzv hnext)
  have HHF := hid hF
  have HHJ := hid hJ
  have HHX := hid hX
  have HLS := hid hLS
  have HFF := hid hf
  have HSP := hid (And.intro hfr (And.intro hu hsp))
  have HAN : Hid (c.frm k + c.space ≤ a.n) := by show _ ≤ _; rw [← hcn]; exact frm_space k hk
  have HXS := hid hx
  have H0 := hid h0
  clear hF hJ hX hY hLS hf hfr hsp hu hx hc h0 hk hcn
  refine callsIn_wide.2 (callsAt_marks Tryz.func30 rfl (.of_wp ?_))
  simp only [Tryz.ntmps30, List.size_toArray, List.length_cons, List.length_nil, Nat.reduceAdd, Nat.reduceSub, Array.replicate_succ, Array.replicate_zero, List.push_toArray, List.append_toArray, List.nil_append, List.cons_append]
  have hmk := fun w : World => run_makeMap (P := Tryz.prog) (w := w) 78
  go_upto_region 4 with fail
  obtain ⟨B, hB⟩ : ∃ B, B = W.heap.size := ⟨_, rfl⟩
  rw [← hB] at HT ⊢
  simp only [Nat.add_assoc, Nat.reduceAdd]
  have f1 := At.new W (.cells #[.func (.yield l) #[] #[]] 76)
  have f2 := At.new (W.alloc (.cells #[.func (.yield l) #[] #[]] 76)) (.cells #[.slice none 0 0] 77)
  have f3 := IMap.made ((W.alloc (.cells #[.func (.yield l) #[] #[]] 76)).alloc (.cells #[.slice none 0 0] 77))
  have f4 := At.new (((W.alloc (.cells #[.func (.yield l) #[] #[]] 76)).alloc (.cells #[.slice none 0 0] 77)).alloc (.map #[] 0)) (.cells #[.map (some (B + 2))] 78)
  obtain ⟨W3, hW3⟩ : ∃ w, w = ((((W.alloc (.cells #[.func (.yield l) #[] #[]] 76)).alloc (.cells #[.slice none 0 0] 77)).alloc (.map #[] 0)).alloc (.cells #[.map (some (B + 2))] 78)) := ⟨_, rfl⟩
  have f5 := At.new W3 (tellO bd bc bb B)
  have k4 : Keeps [] W (W3.alloc (tellO bd bc bb B)) := by rw [hW3]; exact (((((Keeps.refl [] W).alloc _).alloc _).alloc _).alloc _).alloc _
  have hz4 : (W3.alloc (tellO bd bc bb B)).heap.size = B + 5 := by rw [hW3, hB]; simp
  have g1 := (((f1.alloc (.cells #[.slice none 0 0] 77)).alloc (.map #[] 0)).alloc (.cells #[.map (some (B + 2))] 78))
  have g2 := ((f2.alloc (.map #[] 0)).alloc (.cells #[.map (some (B + 2))] 78))
  have g3 := f3.keep ((Keeps.refl [] _).alloc (.cells #[.map (some (B + 2))] 78)) (by simp)
  have hz3 : W3.heap.size = B + 4 := by rw [hW3, hB]; simp
  rw [← hW3] at g1 g2 g3 f4 ⊢
  simp only [World.size_alloc, ← hB, Nat.add_assoc, Nat.reduceAdd] at g1 g2 g3 f4
  rw [hz3] at f5
  obtain ⟨W4, hW4⟩ : ∃ w, w = W3.alloc (tellO bd bc bb B) := ⟨_, rfl⟩
  have k34 : Keeps [] W3 W4 := by rw [hW4]; exact (Keeps.refl [] W3).alloc _
  rw [← hW4] at f5 k4 hz4 ⊢
  have hTl : TlI J S (.func (.yield l) #[] #[]) B [] (rngW W W4) none 0 W4 :=
    ⟨HHJ.out 0 [] _ W W4 H0.out k4 (fun b hb => .inr (mem_rngW.1 hb).1), fun b hb => (mem_rngW.1 hb).2, fun j hj => mem_rngW.2 (by omega), by simp [blkL],
      k34.at g1 (by simp), k34.at g2 (by simp), (g3.keep k34 (by simp)).congr fun z => by simp [seenD], k34.at f4 (by simp), ownO_nil _ _ _⟩
  have hFr := HHF.out _ _ _ hTl.j
  have x0 := hFr.xb.cell 0 rfl
  have HTl := hid hTl
  have HF5 := hid f5
  have HBW := hid hB
  clear f1 f2 f3 f4 f5 g1 g2 g3 hz3 k34 hW4 hW3 k4 hz4 hTl hFr hmk hB
  go_wp2_with fail
  go_loopg [18] n (fun rr s18 wr => ∃ (i : Nat) (O : List Nat) (x' : Option Addr) (cp' : Nat), i + rr = n ∧ s18 = .int .i64 i ∧ FrI J S l bd bc bb B (seeL S c k u [] ((wsN n f).take i)) O x' cp' wr)
  case atStart => exact ⟨0, _, _, _, by omega, rfl, HTl.out, HF5.out⟩
  case round =>
    obtain ⟨i, O, x', cp', hi, rfl, hI⟩ := hrel
    have hFr := HHF.out _ _ _ hI.1.j
    have HI := hid hI
    by_cases hin : i < n
    · obtain ⟨bw, off, rfl, hbw, hcl⟩ := hFr.xr.resolve_left (by omega)
      obtain ⟨v, hv, hvb⟩ := HFF.out i hin
      have d0 := hcl i hin
      rw [hv] at d0
      have a0 : wr.cell? ⟨B + 4, 0, none⟩ = some (.func (.func 31) #[] #[ptr bd, ptr bc, ptr bb, ptr (B + 3), ptr (B + 1), ptr B]) := hI.2.cell 0 rfl
      obtain ⟨z, hz⟩ : ∃ z, z = asInt (v : Int) := ⟨_, rfl⟩
      obtain ⟨hz1, hz2⟩ := asInt_any v hvb
      rw [← hz] at hz1 hz2
      have e1 : IntKind.i64.wrap (v : Int) = z := by rw [hz]; exact IntWalk.i64_left _
      have hws : (wsN n f)[i]? = some v := by simp [wsN, hin, hv]
      have hol : (seeL S c k u [] ((wsN n f).take i)).length ≤ 5000 := by
        have := seeL_len (S := S) (c := c) (k := k) (u := u) ((wsN n f).take i) (out := []) List.nodup_nil (by simp)
        have := HSP.out
        omega
      have hnx : (obW S c k u v).isSome = true → v ∉ seeL S c k u [] ((wsN n f).take i) → LS[(seeL S c k u [] ((wsN n f).take i)).length]? = some v := fun h1 h2 => by rw [HLS.out]; exact seeL_next hws h1 h2
      have HC := hid (HT.out _ O x' cp' wr hI.1 hol z v hz1 hz2 hnx)
      have HE : Hid (seeW S c k u (seeL S c k u [] ((wsN n f).take i)) v = seeL S c k u [] ((wsN n f).take (i + 1))) := by
        show _ = _
        rw [List.take_add_one, hws, ← seeL_one]
        rfl
      have hii : (i : Int) < (n : Int) := by omega
      have HIN := hid (And.intro hi hin)
      clear hz hz1 hz2 hws hol hnx hv hvb hcl hbw hI hFr hi hin
      go_wp2_with fail
      refine HC.out.mono ?_
      rintro e w5 ⟨O', hOO, ⟨T, hkT, hT⟩, ⟨rfl, x2, cp2, hT2, hbx⟩ | ⟨rfl, hJx⟩⟩
      · have HE2 : Hid (FrI J S l bd bc bb B (seeL S c k u [] ((wsN n f).take (i + 1))) O' x2 cp2 w5) := ⟨by rw [← HE.out]; exact hT2, hkT.at HI.out.2 (HI.out.off hT)⟩
        clear d0 a0 e1 hOO hkT hT hT2 hbx
        go_wp2_with fail
        go_roundg (n - (i + 1))
        case measure => (have := HIN.out; omega)
        case rel => exact ⟨i + 1, O', x2, cp2, by have := HIN.out; omega, by go_num, HE2.out⟩
      · have HX := hid hJx
        clear d0 a0 e1 hOO hkT hT hJx
        go_wp2_with fail
        refine leavesM_all [] w5 List.nodup_nil (by simp) fun w6 k6 => ?_
        exact ⟨.tuple #[], by simp [results, Tryz.results30, go_sem], rfl, O', .inr (HHX.out _ _ _ _ HX.out (k6.mono (by simp)) (fun b hb => .inl hb))⟩
    · have hie : i = n := by omega
      subst hie
      clear hi hin hI hFr
      go_wp2_with fail
      rw [show (wsN i f).take i = wsN i f from List.take_of_length_le (by rw [wsN_len]; exact Nat.le_refl _)] at HI
      clear x0
      refine wp_loop_inv (fun N act w => ∃ (j : Nat) (bs : List Nat) (O : List Nat) (x' : Option Addr) (cp' : Nat) (s12 s13 s28 s29 s30 s31 s32 s33 s34 s35 s36 s37 s38 s39 s40 s41 s42 s43 s44 s45 : Value),
        act = { tmps := #[.func (.yield l) #[] #[], ptr bd, ptr bc, ptr bb, ptr bx, .pointer (some ⟨B, 0, none⟩), .pointer (some ⟨B + 1, 0, none⟩), .pointer (some ⟨B + 3, 0, none⟩), .pointer (some ⟨B + 4, 0, none⟩), undef,
          u10, .int .i64 j, s12, s13, .map (some (B + 2)), .func (.func 31) #[] #[ptr bd, ptr bc, ptr bb, .pointer (some ⟨B + 3, 0, none⟩), .pointer (some ⟨B + 1, 0, none⟩), .pointer (some ⟨B, 0, none⟩)],
          .slice x i cp, .int .i64 i, .int .i64 i, .bool false, u20, u21, u22, u23, u24, u25, u26, u27, s28, s29, s30, s31, s32, s33, s34, s35, s36, s37, s38, s39, s40, s41, s42, s43, s44, s45], defers := mkD bs } ∧
        j + N = u + 1 ∧ bs.Nodup ∧ (∀ b ∈ bs, b ∈ O ∧ At w b (.deferred (some []))) ∧ FrI J S l bd bc bb B (rcW S c k u (wsN i f) j) O x' cp' w) (u + 1)
        ⟨0, [], O, x', cp', _, _, _, _, _, _, _, _, _, _, _, _, _, _, _, _, _, _, _, _, rfl, by omega, List.nodup_nil, by simp, HI.out⟩ ?_
      clear HI HTl HF5
      rintro N act w ⟨j, bs, O, x', cp', s12, s13, s28, s29, s30, s31, s32, s33, s34, s35, s36, s37, s38, s39, s40, s41, s42, s43, s44, s45, rfl, hjN, hnd, hbs, hI⟩ K hK
      have hlen : (rcW S c k u (wsN i f) j).length ≤ u := rcW_len j
      have hlu : (u : Int) ≤ 4096 := by have := HSP.out; omega
      have hobs : ∀ y ∈ rcW S c k u (wsN i f) j, (obW S c k u y).isSome = true := fun y hy => rcW_ob j y hy
      have hfin : (rcW S c k u (wsN i f) j).length ≤ j → rcW S c k u (wsN i f) j = LS := fun h => by rw [HLS.out]; exact rcW_fin h
      obtain ⟨out, hout⟩ : ∃ out, out = rcW S c k u (wsN i f) j := ⟨_, rfl⟩
      rw [← hout] at hlen hobs hfin hI
      have HOUT := hid hout
      obtain ⟨M, hM⟩ : ∃ M, M = out.length := ⟨_, rfl⟩
      have t0 : w.cell? ⟨B + 1, 0, none⟩ = some (.slice x' M cp') := by rw [hM]; exact hI.1.tb.cell 0 rfl
      rw [← hM] at hlen hfin
      have HI := hid hI
      have HBS := hid hbs
      have HND := hid hnd
      have HM := hid hM
      have HJN := hid hjN
      have HKK := hid hK
      have hMi : (M : Int) ≤ 4096 := by omega
      have HLE := hid hlen
      clear hout hM hI hbs hnd hjN hK hlu
      by_cases hjl : j < M
      case neg =>
        have t1 : decide ((j : Int) < (M : Int)) = false := decide_eq_false (by omega)
        have HFIN := hid (hfin (by omega))
        have t2 : ¬ (j : Int) < (M : Int) := by omega
        clear hfin hlen hobs hjl
        go_wp2_with fail
        refine leavesM_all bs w HND.out (fun b hb => (HBS.out b hb).2) fun w6 k6 => ?_
        refine ⟨.tuple #[], by simp [results, Tryz.results30, go_sem], rfl, O, .inl ?_⟩
        rw [← HFIN.out]
        exact HHJ.out _ O O w w6 HI.out.1.j (k6.mono (fun b _ hb => (HBS.out b hb).1)) (fun b hb => .inl hb)
      obtain ⟨X, hX⟩ : ∃ X, out[j]? = some X := ⟨_, List.getElem?_eq_getElem (by have := HM.out; omega)⟩
      obtain ⟨⟨nn, rr⟩, hob⟩ := Option.isSome_iff_exists.1 (hobs X (List.mem_of_getElem? hX))
      obtain ⟨x1, x2, x3, x4, x5, x6⟩ := obW_some hob
      have t1 : decide ((j : Int) < (M : Int)) = true := decide_eq_true (by omega)
      have hji : (j : Int) < (M : Int) := by omega
      have HJM := hid hjl
      have hFr := HHF.out _ _ _ HI.out.1.j
      have d0 : w.cell? ⟨bd, 0, none⟩ = some (ptr a.d) := hFr.bs.d.cell 0 rfl
      obtain ⟨g, cur, rfl, hg1, hg2, hg3⟩ := HI.out.1.ob.form.resolve_left (by have := HM.out; omega)
      obtain ⟨e0, e1, e2⟩ := hg3 j X hX
      rw [← x3] at e0
      rw [← x4] at e1
      have q0 := hg2.cell _ e0
      have q1 := hg2.cell _ e1
      have q2 := hg2.cell _ e2
      have HX := hid hX
      have HXX := hid (And.intro x1 (And.intro x2 (And.intro x5 x6)))
      have HNR := hid (And.intro x3 x4)
      have hnni : (nn : Int) ≤ 64 := by omega
      have hXi : (X : Int) ≤ 30000 := by have := HSP.out; omega
      have HCZ := hid (fun (w' : World) (kk : Keeps [] w w') => show w'.cell? ⟨B + 1, 0, none⟩ = some (.slice (some ⟨g, 0, none⟩) M cp') ∧ w'.cell? ⟨g, j * 3, none⟩ = some (.int .i64 (nn : Nat)) ∧ w'.cell? ⟨g, j * 3 + 1, none⟩ = some (.int .i64 (rr : Nat)) ∧ w'.cell? ⟨g, j * 3 + 2, none⟩ = some (.int .i64 (X : Nat)) ∧ w'.cell? ⟨bd, 0, none⟩ = some (ptr a.d) from
        ⟨(kk.cell (HI.out.1.tb.lt) (by simp)).trans t0, (kk.cell hg2.lt (by simp)).trans q0, (kk.cell hg2.lt (by simp)).trans q1, (kk.cell hg2.lt (by simp)).trans q2, (kk.cell hFr.bs.d.lt (by simp)).trans d0⟩)
      clear hX hob x1 x2 x3 x4 x5 x6 hfin hlen hobs hg1 hg2 hg3 e0 e1 e2 hFr
      have kk : Keeps [] w w.drew := (Keeps.refl [] w).drew
      go_upto_region 12 with fail
      go_region_held3 (fun w' => w'.cell? ⟨B + 1, 0, none⟩ = some (.slice (some ⟨g, 0, none⟩) M cp') ∧ w'.cell? ⟨g, j * 3, none⟩ = some (.int .i64 (nn : Nat)) ∧ w'.cell? ⟨g, j * 3 + 1, none⟩ = some (.int .i64 (rr : Nat)) ∧ w'.cell? ⟨g, j * 3 + 2, none⟩ = some (.int .i64 (X : Nat)) ∧ w'.cell? ⟨bd, 0, none⟩ = some (ptr a.d))
          (exact HCZ.out _ kk)
          (first
            | (go_at_call 20; refine (names13_at _ _ _ _ _).mono ?_; rintro e w' ⟨Bo, Bd, rfl, hBo, hBd, hBo2, hBd2, hk9⟩; have hk8 := kk; have kk := kk.trans hk9; clear hk9))
      all_goals
        rename_i hHd
        clear hHd
        have hlow : ∀ b ∈ blkL (some (⟨g, 0, none⟩ : Addr)), b < w.heap.size := fun b hb => (HI.out.1.ob.ge b hb).2
        have h13 := HI.out.1.keep HHJ.out kk (by simp)
        have hb4 : B + 4 < w.heap.size := HI.out.2.lt
        have HI13 : Hid (FrI J S l bd bc bb B out (O ++ rngW w w') (some ⟨g, 0, none⟩) cp' w') := ⟨h13, kk.at HI.out.2 (by simp)⟩
        have HBD : Hid (At w' Bo (obO (nn : Nat) (rr : Nat) (X : Nat)) ∧ At w' Bd (.cells #[ptr a.d] 28) ∧ w.heap.size ≤ Bo ∧ w.heap.size ≤ Bd ∧ B + 4 < w.heap.size ∧ w.heap.size ≤ w'.heap.size) := ⟨hBo, hBd, hBo2, hBd2, hb4, kk.size⟩
        have HBS3 : Hid (∀ b ∈ bs, b ∈ O ++ rngW w w' ∧ At w' b (.deferred (some [])) ∧ b < w.heap.size) := fun b hb => ⟨List.mem_append_left _ (HBS.out b hb).1, kk.at (HBS.out b hb).2 (by simp), (HBS.out b hb).2.lt⟩
        have HLOW := hid hlow
        obtain ⟨O3, hO3⟩ : ∃ O3, O3 = O ++ rngW w w' := ⟨_, rfl⟩
        have hBO3 : Bo ∈ O3 ∧ Bd ∈ O3 := by rw [hO3]; exact ⟨List.mem_append_right _ (mem_rngW.2 ⟨hBo2, hBo.lt⟩), List.mem_append_right _ (mem_rngW.2 ⟨hBd2, hBd.lt⟩)⟩
        rw [← hO3] at HI13 HBS3
        have HBO := hid hBO3
        obtain ⟨G, hG⟩ : ∃ G : Nat → Int, ∀ t, G t = asInt (S.now (X + 1 + t)) := ⟨_, fun _ => rfl⟩
        obtain ⟨nl, hnl⟩ : ∃ nl, nl = (nzL G rr).map fun t => (S.now (X + 1 + t)).toNat := ⟨_, rfl⟩
        have HG := hid hG
        have HNL := hid hnl
        have HRC : Hid (seeL S c k u out nl = rcW S c k u (wsN i f) (j + 1)) := by
          show _ = _
          have hX2 := HX.out
          rw [HOUT.out] at hX2
          rw [hnl, HOUT.out]
          exact rcW_names hX2 HNR.out.2 (fun t ht => HXS.out (X + 1 + t) (by have := HXX.out; omega) (by have := HXX.out; omega)) (fun t _ => HG.out t)
        have HRF : Hid (∀ t, rfW S X t 0 = asInt (S.now (X + 1 + t).toNat)) := fun t => by
          unfold rfW
          rw [if_pos rfl]
        clear hjl hBo hBd hBo2 hBd2 hb4 hlow h13 hO3 hBO3 hG hnl t0 q0 q1 q2 d0 t1 hk8
        go_wp2_with fail
        obtain ⟨D, hD⟩ : ∃ D, D = w'.heap.size := ⟨_, rfl⟩
        have HS : Hid (NmS B w.heap.size D Bo Bd bs O3) := by
          have h1 := HBD.out
          exact ⟨⟨h1.2.2.2.2.1, by rw [hD]; exact h1.2.2.2.2.2⟩, ⟨h1.2.2.1, by rw [hD]; exact h1.1.lt, HBO.out.1⟩, ⟨h1.2.2.2.1, by rw [hD]; exact h1.2.1.lt, HBO.out.2⟩, fun b hb => ⟨(HBS3.out b hb).2.2, (HBS3.out b hb).1⟩⟩
        refine wp_rangeE (gf := 36) (lb := #[ptr Bo, ptr Bd]) rfl (enters_of Tryz.func36 (by kernel_rfl) rfl) (fun fn => ?_)
        refine' (iter_core (names_iter Bo Bd a nn rr X G ⟨HXX.out.2.2.2, HXX.out.2.2.1, by have := HAN.out; have := HXX.out; have := HSP.out; omega⟩) fn w' _ _ _ _
          (fun m W => ∃ O' x2 cp2, NmI J S l bd bc bb B a nn rr X Bo Bd bs O3 w.heap.size D (seeL S c k u out (nl.take m)) O' x2 cp2 W)
          (fun W => ∃ O', NmX Jx bs O3 D O' W)
          .ret .ret (.inl ⟨rfl, rfl⟩) (fun _ => rfl) ?fct ?keep ?keepx ?round ?start).mono ?after
        case fct =>
          rintro m W ⟨O', x2, cp2, h⟩
          obtain ⟨p, hp⟩ := (HHF.out _ _ _ h.i.1.j).bs.dev
          refine ⟨⟨h.bo, h.bd⟩, p, S, hp, fun t _ => ?_⟩
          rw [HRF.out, HG.out, show ((X : Int) + 1 + (t : Int)).toNat = X + 1 + t by omega]
        case keep =>
          rintro m W W' ⟨O', x2, cp2, h⟩ hk'
          exact ⟨_, x2, cp2, h.keep HHJ.out HS.out hk' fun b hb _ => by rw [hD]; exact List.mem_singleton.1 hb⟩
        case keepx =>
          rintro W W' ⟨O', h⟩ hk'
          exact ⟨_, h.keep HHX.out HS.out hk' fun b hb _ => by rw [hD]; exact List.mem_singleton.1 hb⟩
        case start =>
          refine ⟨O3, some ⟨g, 0, none⟩, cp', HI13.out, fun b hb => hb, fun b h1 _ h3 => by omega, fun b hb => .inl (HLOW.out b hb), HBD.out.1, HBD.out.2.1, fun b hb => (HBS3.out b hb).2.1⟩
        case round =>
          rintro l' m W0 W hm ⟨O', x2, cp2, hI0⟩ kv0 _ hsz
          obtain ⟨t, htr, htn, htm⟩ := nzL_mem hm
          rw [← htm, namA_at htr htn]
          obtain ⟨v, hv, hvb⟩ := HXS.out (X + 1 + t) (by have := HXX.out; omega) (by have := HXX.out; omega)
          obtain ⟨z, hz⟩ : ∃ z, z = G t := ⟨_, rfl⟩
          have hze : z = asInt (v : Int) := by rw [hz, HG.out, hv]
          obtain ⟨hz1, hz2⟩ := asInt_any v hvb
          rw [← hze] at hz1 hz2
          rw [← hz]
          have hnl : nl[nzC G t]? = some v := by
            rw [HNL.out, List.getElem?_map, nzL_get htr htn]
            show some ((S.now (X + 1 + t)).toNat) = _
            rw [hv, Int.toNat_natCast]
          rw [← htm] at hI0
          obtain ⟨m', hm'⟩ : ∃ m', m' = nzC G t := ⟨_, rfl⟩
          rw [← hm'] at hI0 hnl ⊢
          have HE : Hid (seeW S c k u (seeL S c k u out (nl.take m')) v = seeL S c k u out (nl.take (m' + 1))) := by
            show _ = _
            rw [List.take_add_one, hnl, ← seeL_one]
            rfl
          have hol : (seeL S c k u out (nl.take m')).length ≤ 5000 := by
            have h1 := seeL_len (S := S) (c := c) (k := k) (u := u) (nl.take m') (out := out) (by rw [HOUT.out]; exact rcW_nodup j) (by rw [HOUT.out]; exact fun y hy => rcW_ob j y hy)
            have h2 := HSP.out
            clear hvb hz2 hz1 hze
            omega
          have hnx : (obW S c k u v).isSome = true → v ∉ seeL S c k u out (nl.take m') → LS[(seeL S c k u out (nl.take m')).length]? = some v := fun h1 h2 => by
            have h3 := seeL_step hnl h1 h2
            rw [HRC.out] at h3
            rw [HLS.out]
            exact rcW_get h3
          have HTV := hid (fun V h => HT.out (seeL S c k u out (nl.take m')) (O' ++ rngW W0 V) x2 cp2 V h hol z v hz1 hz2 hnx)
          have HI0 := hid hI0
          have HKV := hid kv0
          have HSZ := hid hsz
          clear htr htn htm hv hvb hz hze hz1 hz2 hnl hm' hol hnx hm hI0 kv0 hsz
          have hsem := @Oper.semAt_some
          gi_wp2_with fail
          refine ⟨Keeps.refl _ _, fun V₂ k2 hz2 => ?_⟩
          have K02 : Keeps [w'.heap.size + 1] W0 V₂ := (HKV.out.mono (by simp)).trans k2
          have hI2 := HI0.out.keep HHJ.out HS.out K02 (fun b hb _ => by rw [hD]; exact List.mem_singleton.1 hb)
          have a0 : V₂.cell? ⟨B + 4, 0, none⟩ = some (.func (.func 31) #[] #[ptr bd, ptr bc, ptr bb, ptr (B + 3), ptr (B + 1), ptr B]) := hI2.i.2.cell 0 rfl
          have HC := hid (HTV.out V₂ hI2.i.1)
          have HI2 := hid hI2
          have HD2 : Hid (D + 2 ≤ V₂.heap.size ∧ W0.heap.size ≤ W.heap.size ∧ W.heap.size = V₂.heap.size) := ⟨by have := K02.size; have := HSZ.out; omega, HKV.out.size, hz2.symm⟩
          clear K02 hI2 k2 hz2
          gi_wp2_with fail
          refine ⟨trivial, ?_⟩
          refine (callsIn_wide.2 HC.out).mono ?_
          intro e V3 hTE
          obtain ⟨hE, T, hkT, hT1, hT2, hT3⟩ := HI2.out.tell HS.out HD2.out.1 hTE
          rw [HE.out] at hE
          have HTT : Hid (Keeps T V₂ V3 ∧ w'.heap.size ∉ T ∧ w'.heap.size + 1 ∉ T ∧ ∀ b ∈ T, b < W0.heap.size ∨ W.heap.size ≤ b) := by
            refine ⟨hkT, by rw [← hD]; exact hT1, by rw [← hD]; exact hT2, fun b hb => ?_⟩
            have h0 := HD2.out
            have hB4 := HI0.out.i.2.lt
            rcases hT3 b hb with h1 | h1 | h1 | h1
            · by_cases h2 : b < W0.heap.size
              · exact .inl h2
              · by_cases h3 : b < V₂.heap.size
                · exact absurd (List.mem_append_right _ (mem_rngW.2 ⟨by omega, h3⟩)) h1
                · exact .inr (by omega)
            · exact .inl (by omega)
            · exact .inl (by omega)
            · exact .inl (HI0.out.i.1.ob.ge b h1).2
          rcases hE with ⟨rfl, hI3⟩ | ⟨rfl, hX3⟩
          · have HI3 := hid hI3
            rw [hD] at HI3
            clear hTE hkT hT1 hT2 hT3 hI3 a0
            gi_wp2_with fail
            exact ⟨HI3.out, T, HTT.out⟩
          · have HX3 := hid hX3
            rw [hD] at HX3
            clear hTE hkT hT1 hT2 hT3 hX3 a0
            gi_wp2_with fail
            exact ⟨HX3.out, T, HTT.out⟩
        case after =>
          intro e w9 hr
          cases e with
          | panicked _ => exact hr
          | outgrown => exact hr
          | returned ve =>
            rcases hr with ⟨w10, hend, ⟨O', x2, cp2, hI⟩, hDf⟩ | ⟨w10, hend, ⟨O', hX⟩, hDf⟩
            case inl =>
              refine .inl ⟨w10, hend, ?_⟩
              have hnlen : nl.length = nzC G rr := by rw [HNL.out, List.length_map]; rfl
              rw [List.take_of_length_le (by rw [hnlen]; exact Nat.le_refl _), HRC.out] at hI
              have HI := hid hI
              have HDF := hid hDf
              clear hend hnlen hI hDf
              simp only [Exit.inBlock, Exit.then]
              go_wp2_with fail
              have hjm := HJM.out
              have hN : 1 ≤ N := by have := HJN.out; have := HLE.out; omega
              have hlow := HS.out.low
              refine HKK.out (N - 1) _ _ (by omega) ⟨j + 1, D :: bs, O', x2, cp2, _, _, _, _, _, _, _, _, _, _, _, _, _, _, _, _, _, _, _, _, (by rw [mkD_cons, hD]; rfl), by have := HJN.out; omega, List.nodup_cons.2 ⟨fun h => by have := (HS.out.bs D h).1; omega, HND.out⟩, fun b hb => ?_, HI.out.i⟩
              rcases List.mem_cons.1 hb with rfl | hb
              · exact ⟨HI.out.rec' b (Nat.le_refl _) (by omega) (by rw [hD]; exact HDF.out.lt), by rw [hD]; exact HDF.out⟩
              · exact ⟨HI.out.sub b (HS.out.bs b hb).2, HI.out.bs b hb⟩
            case inr =>
              refine .inr ⟨_, w10, hend, ?_⟩
              have HX := hid hX
              have HDF := hid hDf
              clear hend hX hDf
              go_wp2_with fail
              have hlow := HS.out.low
              rw [← hD] at HDF ⊢
              refine leavesM_all (D :: bs) w10 (List.nodup_cons.2 ⟨fun h => by have := (HS.out.bs D h).1; omega, HND.out⟩) (fun b hb => ?_) fun w11 k11 => ?_
              · rcases List.mem_cons.1 hb with rfl | hb
                · exact HDF.out
                · exact HX.out.2.2.2 b hb
              · refine ⟨.tuple #[], by simp [results, Tryz.results30, go_sem], rfl, O', .inr (HHX.out O' O' w10 w11 HX.out.1 (k11.mono fun b hlt hb => ?_) (fun b hb => .inl hb))⟩
                rcases List.mem_cons.1 hb with rfl | hb
                · exact HX.out.2.2.1 b (Nat.le_refl _) (by omega) hlt
                · exact HX.out.2.1 b (HS.out.bs b hb).2

end Go.Proofs.YtaicagammbjkiaaGreat
