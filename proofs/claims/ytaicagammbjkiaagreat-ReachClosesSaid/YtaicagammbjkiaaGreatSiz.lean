/- Size, over From: a sum over what is gone over (of a Size of this form: a number, a range over From, its sum). -/
import Derived.Test.YtaicagammbjkiaaGreatFrd
namespace Go.Proofs.YtaicagammbjkiaaGreat
open Go.RowKit Go.OpenShut

set_option maxRecDepth 100000 in
set_option maxHeartbeats 4000000 in
theorem size13_at (w : World) (p : Nat) (a : DA) (S : DS) (c : Cfg) (hD : Dev w p a S) (hc : c.Ok) (hcn : c.words = a.n) (k : Nat) (hk : k ≤ 1) (u : Nat) (hu : u ≤ c.space) (rs : Value)
    (hx : ∀ j : Nat, c.frm k ≤ j → j < c.frm k + u → ∃ x : Nat, S.now j = (x : Int) ∧ x < 18446744073709551616)
    (x : Option Addr) (n cp : Nat) (f : Nat → Int) (hr : Reads w x n f) (hn : n ≤ 1000) (hf : ∀ i, i < n → ∃ v : Nat, f i = (v : Int) ∧ v < 18446744073709551616) :
    Calls Tryz.prog 13 #[ptr a.d, cfgV c, bkV k u rs, .slice x n cp] w fun e w' => e = .returned (.int .i64 (szF S (rcF S c k u (wsN n f)) : Nat)) ∧ Keeps [] w w' := by
  have hmix : Tryz.prog.follows .mixedOrders = true := by kernel_rfl
  have hsp := hc.small.2.2
  have hfr := frm_le hc.small (show k ≤ 2 by omega)
  have HFR := hid (fun (w' : World) (hk' : Keeps [] w w') => from13_at w' p a S c (hD.keep hk' (by simp) (by simp) (by simp) (by simp)) hc hcn k hk u hu rs hx x n cp f (hr.keep hk' (by simp)) hn hf)
  have HDL : Hid (a.d < w.heap.size ∧ a.s < w.heap.size ∧ a.k < w.heap.size ∧ a.m < w.heap.size) := ⟨hD.dev.lt, hD.now.lt, hD.kept.lt, hD.map.lt⟩
  obtain ⟨LS, hLS⟩ : ∃ LS, LS = rcF S c k u (wsN n f) := ⟨_, rfl⟩
  have HLS := hid hLS
  have hlen : LS.length ≤ 4096 := by
    have := rcF_len (S := S) (c := c) (k := k) (u := u) (ws := wsN n f)
    rw [← hLS] at this
    omega
  have HLN := hid hlen
  clear hD hc hcn hx hr hf hsp hfr hLS hlen
  refine callsAt_marks Tryz.func13 rfl (.of_wp ?_)
  simp only [Tryz.ntmps13, List.size_toArray, List.length_cons, List.length_nil, Nat.reduceAdd, Nat.reduceSub, Array.replicate_succ, Array.replicate_zero, List.push_toArray, List.append_toArray, List.nil_append, List.cons_append]
  go_upto_region 2 with fail
  have hC0 := ((At.new w (cfgO c)).alloc (bkO k u rs)).alloc (.cells #[.int .i64 0] 3)
  have hB0 := (At.new (w.alloc (cfgO c)) (bkO k u rs)).alloc (.cells #[.int .i64 0] 3)
  have hZ0 := At.new ((w.alloc (cfgO c)).alloc (bkO k u rs)) (.cells #[.int .i64 0] 3)
  have K0 := (((Keeps.refl [] w).alloc (cfgO c)).alloc (bkO k u rs)).alloc (.cells #[.int .i64 0] 3)
  simp only [World.size_alloc] at hB0 hZ0
  obtain ⟨w0, hw0⟩ : ∃ w0, w0 = ((w.alloc (cfgO c)).alloc (bkO k u rs)).alloc (.cells #[.int .i64 0] 3) := ⟨_, rfl⟩
  have hz0 : w0.heap.size = w.heap.size + 3 := by rw [hw0]; simp
  rw [← hw0] at hC0 hB0 hZ0 K0
  first | rw [← hw0] | skip
  obtain ⟨q0, hq0⟩ : ∃ q, q = w.heap.size := ⟨_, rfl⟩
  obtain ⟨q1, hq1⟩ : ∃ q, q = w.heap.size + 1 := ⟨_, rfl⟩
  obtain ⟨zb, hzb⟩ : ∃ q, q = w.heap.size + 1 + 1 := ⟨_, rfl⟩
  rw [← hzb, ← hq1, ← hq0]
  rw [← hq0] at hC0
  rw [← hq1] at hB0
  rw [← hzb] at hZ0
  have HQ : Hid (q0 = w.heap.size ∧ q1 = q0 + 1 ∧ zb = q0 + 2 ∧ w0.heap.size = q0 + 3) := ⟨hq0, by omega, by omega, by omega⟩
  have c0 := hC0.cell 0 rfl
  have c1 := hC0.cell 1 rfl
  have c2 := hC0.cell 2 rfl
  have b0 := hB0.cell 0 rfl
  have b1 := hB0.cell 1 rfl
  have b2 := hB0.cell 2 rfl
  have HZ0 := hid hZ0
  have HK0 := hid K0
  clear hw0 hz0 hq0 hq1 hzb hC0 hB0 hZ0 K0
  go_wp2_with fail
  refine (HFR.out w0 HK0.out).mono ?_
  rintro e w1 ⟨gf, lb, Fct, rfl, hent, hit, hfct, k01⟩
  rw [← HLS.out] at hit
  have HENT := hid hent
  have HIT := hid hit
  have HFC := hid hfct
  have HZ1 := hid (k01.at HZ0.out (by simp))
  have HK1 := hid (HK0.out.trans k01)
  have HS1 : Hid (zb < w0.heap.size ∧ w0.heap.size ≤ w1.heap.size) := ⟨by have := HQ.out; omega, k01.size⟩
  clear hent hit hfct k01 c0 c1 c2 b0 b1 b2
  go_wp2_with fail
  refine wp_rangeE (gf := gf) (lb := lb) rfl HENT.out (fun fn => ?_)
  refine' (iter_coreS HIT.out fn w1 _ _ _ _
    (fun i W => i ≤ LS.length ∧ At W zb (.cells #[.int .i64 (szF S (LS.take i) : Nat)] 3) ∧ Keeps [zb] w1 W)
    (fun W => False)
    .ret .ret (.inl ⟨rfl, rfl⟩) (fun _ => rfl) ?fct ?keep ?keepx ?round ?start).mono ?after
  case fct =>
    rintro i W ⟨_, _, hk⟩
    refine HFC.out [zb] W hk fun b hb => .inl ?_
    obtain rfl := List.mem_singleton.1 hb
    have h1 := HQ.out
    have h2 := HDL.out
    exact ⟨HS1.out.1, by omega, by omega, by omega, by omega⟩
  case keep =>
    rintro i W W' T ⟨h1, h2, hk⟩ hk' hT
    have h3 := HS1.out
    exact ⟨h1, hk'.at h2 (fun h => by have := hT _ h; omega), hk.new hk' (fun b hb => .inr (hT b hb))⟩
  case keepx =>
    rintro W W' T h _ _
    exact h
  case start => exact ⟨Nat.zero_le _, HZ1.out, Keeps.refl _ _⟩
  case round =>
    rintro i W him ⟨hil, hZ, hK⟩ hsz
    have hlt : i < LS.length := him
    obtain ⟨X, hX⟩ : ∃ X, X = LS.getD i 0 := ⟨_, rfl⟩
    have hXg : LS[i]? = some X := by
      rw [hX, List.getD_eq_getElem?_getD, List.getElem?_eq_getElem hlt]
      rfl
    have hXo : (obW S c k u X).isSome = true := rcF_ob (ws := wsN n f) (by rw [← HLS.out]; exact List.mem_of_getElem? hXg)
    obtain ⟨⟨n', r'⟩, hnr⟩ := Option.isSome_iff_exists.1 hXo
    obtain ⟨x1, x2, x3, x4, x5', x6⟩ := obW_some hnr
    obtain ⟨nn, hnn⟩ : ∃ nn, nn = hdN (S.now X).toNat := ⟨_, rfl⟩
    obtain ⟨rr, hrr⟩ : ∃ rr, rr = hdR (S.now X).toNat := ⟨_, rfl⟩
    have hni : (nn : Int) ≤ 64 := by omega
    rw [show rcA S LS i = #[obV (nn : Nat) (rr : Nat) (X : Nat)] by unfold rcA; rw [← hX, ← hnn, ← hrr]]
    obtain ⟨zs, hzs⟩ : ∃ zs, zs = szF S (LS.take i) := ⟨_, rfl⟩
    rw [← hzs] at hZ
    have HZS : Hid (szF S (LS.take (i + 1)) = zs + (nn + 1)) := by
      show _ = _
      rw [List.take_add_one, hXg, szF_app, ← hzs]
      show _ + szF S [X] = _
      rw [szF_cons, ← hnn]
      rfl
    have hzi : (zs : Int) ≤ 1000000 := by
      have h1 := szF_few S (LS.take i) (fun x hx => by
        have h2 := rcF_ob (ws := wsN n f) (by rw [← HLS.out]; exact List.mem_of_mem_take hx)
        obtain ⟨⟨n2, r2⟩, h3⟩ := Option.isSome_iff_exists.1 h2
        obtain ⟨_, _, h4, _, h5, _⟩ := obW_some h3
        rw [← h4]
        exact h5)
      have h2 : (LS.take i).length ≤ LS.length := by rw [List.length_take]; exact Nat.min_le_right _ _
      have := HLN.out
      omega
    have HLT := hid hlt
    have HKW := hid hK
    have HZW := hid hZ
    have HSZ2 := hid (fun w => hsize_at w nn rr (by omega))
    clear hlt hX hXg hXo hnr x1 x2 x3 x4 x5' x6 hnn hrr hzs hK hZ him hil
    have hsem := @Oper.semAt_some
    gi_wp2_with fail
    refine ⟨(Keeps.refl [] W).alloc _, fun W₂ k2 hz2 _ => ?_⟩
    have hW0 : w1.heap.size + 2 ≤ W.heap.size := hsz
    have hs1 := HS1.out
    have hO2 := k2.at (At.new W (obO (nn : Nat) (rr : Nat) (X : Nat))) (by simp; omega)
    have kW2 : Keeps [w1.heap.size + 1] W W₂ := ((Keeps.refl _ W).alloc _).trans k2
    have hZ2 := kW2.at HZW.out (by simp; omega)
    have hKN : Hid (Keeps [zb] w1 W₂) := HKW.out.new kW2 (by simp)
    have HWZ := hid hW0
    have o0 := hO2.cell 0 rfl
    have o1 := hO2.cell 1 rfl
    have z0 := hZ2.cell 0 rfl
    have HZ2 := hid hZ2
    have HZ3D := hid hZ2.drew
    have e1 : IntKind.i64.wrap ((zs : Int) + ((nn : Int) + 1)) = (zs : Int) + ((nn : Int) + 1) := IntWalk.i64_in _ (by omega)
    clear hW0 hs1 hO2 kW2 hZ2 k2 hz2 hsz
    gi_wp2_with fail
    gi_region_with_o (first
      | (refine ⟨trivial, ?_⟩; gi_at_call 12; refine (callsIn_wide.2 (HSZ2.out _)).mono ?_; rintro e W4 ⟨rfl, hk4⟩; have hA4 := hk4.at HZ3D.out (by simp); have a4 := hA4.cell 0 rfl; have af4 := hA4.free 0))
    all_goals
      have hZ4 := hA4.set 0 (.int .i64 ((zs : Int) + ((nn : Int) + 1)))
      have kE : Keeps [zb] W₂ (W4.setCell ⟨zb, 0, none⟩ (.int .i64 ((zs : Int) + ((nn : Int) + 1)))) := (((Keeps.refl [zb] W₂).drew).trans (hk4.mono (by simp))).set (p := ⟨zb, 0, none⟩) (.inl (by simp)) _
      have HE := hid (And.intro hZ4 kE)
      clear hZ4 kE hA4 a4 af4 hk4 o0 o1 z0
      gi_wp2_with fail
      have hs1 := HS1.out
      have hw0 := HWZ.out
      refine ⟨⟨HLT.out, by rw [HZS.out]; simpa using HE.out.1, hKN.out.trans HE.out.2⟩, [zb], HE.out.2, fun b hb => .inl ?_⟩
      obtain rfl := List.mem_singleton.1 hb
      omega
  case after =>
    intro e w9 hr
    cases e with
    | panicked _ => exact hr
    | outgrown => exact hr
    | returned v =>
      rcases hr with ⟨w10, hend, ⟨_, hZ, hK⟩, hDf⟩ | ⟨w10, hend, h, hDf⟩
      case inr => exact h.elim
      refine .inl ⟨w10, hend, ?_⟩
      rw [List.take_of_length_le (Nat.le_refl _)] at hZ
      obtain ⟨sz, hsz⟩ : ∃ sz, sz = szF S LS := ⟨_, rfl⟩
      rw [← hsz] at hZ
      have HSZ := hid hsz
      have z0 := hZ.cell 0 rfl
      have K10 : Keeps [] w w10 := HK1.out.new hK (fun b hb => .inr (by have := HQ.out; obtain rfl := List.mem_singleton.1 hb; omega))
      have HK10 := hid K10
      have HDF := hid hDf
      clear hsz hZ hK K10 hDf hend
      simp only [Exit.inBlock, Exit.then]
      go_wp2_with fail
      refine ⟨by simp, .inl ⟨_, _, rfl, run_takeDeferred HDF.out, ?_⟩⟩
      have kd : Keeps [w1.heap.size] w10 (w10.putObj w1.heap.size (.deferred none)) := (Keeps.refl _ _).put (.inl (by simp)) _
      refine ⟨.int .i64 (sz : Nat), ?_, by rw [← HLS.out, HSZ.out], HK10.out.new kd (fun b hb => .inr (by obtain rfl := List.mem_singleton.1 hb; exact HK1.out.size))⟩
      simp [results, Tryz.results13, go_sem]

end Go.Proofs.YtaicagammbjkiaaGreat
