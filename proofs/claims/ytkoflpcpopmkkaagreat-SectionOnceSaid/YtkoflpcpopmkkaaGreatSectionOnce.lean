/- The walk of the law SectionOnce. -/
import Derived.Test.YtkoflpcpopmkkaaGreatKeysM
import Derived.Test.YtkoflpcpopmkkaaGreatSecF
import Derived.Test.YtkoflpcpopmkkaaGreatAwk7
import Derived.Test.YtkoflpcpopmkkaaGreatArgs
namespace Go.Proofs.YtkoflpcpopmkkaaGreat
open Go.RowKit Go.OpenShut Go.MapKept

/-- How many keys. -/
theorem IMap.len7 {P : Program} {w : World} {b m : Nat} {E : Int → Option Value} {pl : Nat → Nat} (h : IMap w b E) (hk : ∀ k, k < m → (E (pl k)).isSome = true) (ho : ∀ z v, E z = some v → ∃ k, k < m ∧ z = (pl k : Int)) (hi : ∀ j k, j < m → k < m → pl j = pl k → j = k)
    {t kt et : TypeId} (ht : P.underlying t = some (.map kt et)) (ty : TypeId) : (Builtin.len_ #[t] ty #[.map (some b)]).run P w = .ok (.int .i64 (m : Int)) w := by
  obtain ⟨es, clock, hb, hE⟩ := h
  have hkey : ∀ x ∈ es.toList, x.key = .int .i64 (keyI x.key) ∧ (E (keyI x.key)).isSome = true := fun x hx => by
    obtain ⟨k, h1, h2⟩ := hE.reads x hx
    rw [h1]
    exact ⟨rfl, by show (E k).isSome = true; rw [h2]; rfl⟩
  have hnd : (es.toList.map fun x => keyI x.key).Nodup := by
    have h1 := hE.st.2.2
    refine List.pairwise_map.2 ((List.pairwise_map.1 h1).imp_of_mem ?_)
    intro x y hx hy hne he
    apply hne
    rw [(hkey x hx).1, (hkey y hy).1, he]
  have hnd2 : ((List.range m).map fun k => ((pl k : Nat) : Int)).Nodup := by
    refine List.pairwise_map.2 (List.nodup_range.imp_of_mem ?_)
    intro x y hx hy hne he
    exact hne (hi x y (List.mem_range.1 hx) (List.mem_range.1 hy) (by omega))
  have hp : (es.toList.map fun x => keyI x.key).Perm ((List.range m).map fun k => ((pl k : Nat) : Int)) := by
    refine (List.perm_ext_iff_of_nodup hnd hnd2).2 fun z => ?_
    constructor
    · intro hz
      obtain ⟨x, hx, rfl⟩ := List.mem_map.1 hz
      obtain ⟨v, hv⟩ := Option.isSome_iff_exists.1 (hkey x hx).2
      obtain ⟨k, h1, h2⟩ := ho _ v hv
      exact List.mem_map.2 ⟨k, List.mem_range.2 h1, h2.symm⟩
    · intro hz
      obtain ⟨k, hk1, rfl⟩ := List.mem_map.1 hz
      obtain ⟨v, hv⟩ := Option.isSome_iff_exists.1 (hk k (List.mem_range.1 hk1))
      obtain ⟨x, hx, hxk⟩ := hE.has _ v hv
      exact List.mem_map.2 ⟨x, hx, by rw [hxk]; rfl⟩
  have e1 : es.size = m := by have := hp.length_eq; simpa using this
  rw [← e1]
  simp [Builtin.len_, run_underlying ht, MapKept.run_getObj_map hb, goInt, Result.andThen]

/-- What was stored: places that have a record, each once, their words, and the law's own map of them. -/
structure OnceI (c : Cfg) (n m : Nat) (pl : Nat → Nat) (E : Int → Option Value) (S : DS) : Prop where
  at_ : ∀ k, k < m → c.act ≤ pl k ∧ pl k < n ∧ ∃ v : Nat, S.now (pl k) = (v : Int) ∧ v ≤ 100000 ∧ E (pl k) = some (.int .i64 (v : Nat))
  only : ∀ z v, E z = some v → ∃ k, k < m ∧ z = (pl k : Int)
  inj : ∀ j k, j < m → k < m → pl j = pl k → j = k

section
variable {c : Cfg} {n m : Nat} {pl : Nat → Nat} {E : Int → Option Value} {S S' : DS}

theorem OnceI.found (h : OnceI c n m pl E S) {i : Nat} (hp : HasP m pl i) : ∃ v : Nat, E (i : Int) = some (.int .i64 (v : Nat)) := by
  obtain ⟨k, hk, rfl⟩ := hp
  obtain ⟨_, _, v, _, _, hv⟩ := h.at_ k hk
  exact ⟨v, hv⟩

theorem OnceI.missed (h : OnceI c n m pl E S) {i : Nat} (hp : ¬ HasP m pl i) : E (i : Int) = none := by
  cases he : E (i : Int) with
  | none => rfl
  | some v =>
    obtain ⟨k, hk, e⟩ := h.only _ v he
    exact absurd ⟨k, hk, by omega⟩ hp

theorem OnceI.old (h : OnceI c n m pl E S) {i : Nat} (v : Nat) (hv : v ≤ 100000) (hp : HasP m pl i) (hS : ∀ j, c.act ≤ j → j < n → S'.now j = if j = i then (v : Int) else S.now j) :
    OnceI c n m pl (fun z => if z = (i : Int) then some (.int .i64 (v : Nat)) else E z) S' := by
  refine ⟨fun k hk => ?_, fun z w hz => ?_, h.inj⟩
  · obtain ⟨h1, h2, v0, h3, h4, h5⟩ := h.at_ k hk
    by_cases hki : pl k = i
    · refine ⟨h1, h2, v, ?_, hv, ?_⟩
      · rw [hS _ h1 h2, if_pos hki]
      · show (if ((pl k : Nat) : Int) = (i : Int) then _ else _) = _
        rw [if_pos (by omega)]
    · refine ⟨h1, h2, v0, ?_, h4, ?_⟩
      · rw [hS _ h1 h2, if_neg hki]; exact h3
      · show (if ((pl k : Nat) : Int) = (i : Int) then _ else _) = _
        rw [if_neg (by omega)]; exact h5
  · by_cases hzi : z = (i : Int)
    · obtain ⟨k, hk, e⟩ := hp
      exact ⟨k, hk, by omega⟩
    · have : E z = some w := by have := hz; simpa [hzi] using this
      exact h.only z w this

theorem OnceI.new (h : OnceI c n m pl E S) {i : Nat} (v : Nat) (hv : v ≤ 100000) (hi : c.act ≤ i ∧ i < n) (hp : ¬ HasP m pl i) (hS : ∀ j, c.act ≤ j → j < n → S'.now j = if j = i then (v : Int) else S.now j) :
    OnceI c n (m + 1) (put pl m i) (fun z => if z = (i : Int) then some (.int .i64 (v : Nat)) else E z) S' := by
  refine ⟨fun k hk => ?_, fun z w hz => ?_, fun j k hj hk e => ?_⟩
  · by_cases hkm : k = m
    · subst hkm
      rw [put_on]
      refine ⟨hi.1, hi.2, v, by rw [hS _ hi.1 hi.2, if_pos rfl], hv, ?_⟩
      show (if ((i : Nat) : Int) = (i : Int) then _ else _) = _
      rw [if_pos rfl]
    · rw [put_off _ _ hkm]
      obtain ⟨h1, h2, v0, h3, h4, h5⟩ := h.at_ k (by omega)
      have hki : pl k ≠ i := fun e => hp ⟨k, by omega, e⟩
      refine ⟨h1, h2, v0, by rw [hS _ h1 h2, if_neg hki]; exact h3, h4, ?_⟩
      show (if ((pl k : Nat) : Int) = (i : Int) then _ else _) = _
      rw [if_neg (by omega)]; exact h5
  · by_cases hzi : z = (i : Int)
    · exact ⟨m, by omega, by rw [put_on]; exact hzi⟩
    · have : E z = some w := by have := hz; simpa [hzi] using this
      obtain ⟨k, hk, e⟩ := h.only z w this
      exact ⟨k, by omega, by rw [put_off _ _ (by omega)]; exact e⟩
  · by_cases hjm : j = m
    · by_cases hkm : k = m
      · omega
      · rw [hjm, put_on, put_off _ _ hkm] at e
        exact absurd ⟨k, by omega, e.symm⟩ hp
    · by_cases hkm : k = m
      · rw [hkm, put_on, put_off _ _ hjm] at e
        exact absurd ⟨j, by omega, e⟩ hp
      · rw [put_off _ _ hjm, put_off _ _ hkm] at e
        exact h.inj j k (by omega) (by omega) e
end

theorem freshB_no (i : Nat) : freshB 0 0 (i : Int) = false := by
  unfold freshB
  simp

/-- Behind so many rounds, and so many of the next. -/
def OnceSt (p : Nat) (a : DA) (q : Sc) (c : Cfg) (D : Nat → Int) (sm : Nat) (w4 : World) (kk j : Nat) (wr : World) : Prop :=
  ∃ u' S' m pl E, OpenW p a u' S' q c m 0 pl D 0 0 wr ∧ IMap wr sm E ∧ OnceI c a.n m pl E S' ∧ u' ≤ 110000 + 100000 * (kk : Int) + 3000 * (j : Int) ∧ Keeps (sm :: q.bl p a) w4 wr

set_option maxRecDepth 100000 in
set_option maxHeartbeats 4000000 in
theorem once7_small (l r s tm : Nat) (x : Option Addr) (n cp : Nat) (f : Nat → Int) (W : World) (hl : l ≤ 65535) (hr : r ≤ 65535) (hs : s ≤ 65535) (ht : tm ≤ 255) (hx : ReadsV (Value.int .u16) W x n f) (hfb : ∀ i, i < n → 0 ≤ f i ∧ f i ≤ 65535) (hnm : n ≤ 9223372036854775807) :
    Calls Tryz.prog 4 #[c3V l r s, .slice x n cp, .int .u8 tm] W fun e w' => e = .returned (.bool true) ∧ Below W.heap.size W w' := by
  have hti : (tm : Int) ≤ 255 := by omega
  have hni : (n : Int) ≤ 9223372036854775807 := by omega
  have HX := hid hx
  have HFB := hid hfb
  clear hx hfb
  go_enter Tryz.func4, Tryz.ntmps4
  go_wp2_with fail
  have hB0 := At.new W (c3O l r s)
  have K0 := (Keeps.refl [] W).alloc (c3O l r s)
  refine (awake7_any _).mono ?_
  rintro e w1 ⟨rfl, hb1⟩
  have k1 := Go.Proofs.YtkoflpcpopmkkaaGreat.Below.keeps hb1 []
  have K1 := K0.trans k1
  have hB1 := k1.at hB0 (by simp)
  clear hb1 k1 hB0 K0
  have c0 : w1.cell? ⟨W.heap.size, 0, none⟩ = some (.int .u16 l) := hB1.cell 0 rfl
  have c1 : w1.cell? ⟨W.heap.size, 1, none⟩ = some (.int .u16 r) := hB1.cell 1 rfl
  have c2 : w1.cell? ⟨W.heap.size, 2, none⟩ = some (.int .u16 s) := hB1.cell 2 rfl
  by_cases hn : n ≤ 30
  case neg =>
    have hn2 : (30 : Int) < (n : Int) := by omega
    go_wp2_with fail
    go_ret
    exact ⟨rfl, K1.below (Nat.le_refl _) (by simp)⟩
  have hni2 : (n : Int) ≤ 30 := by omega
  have td1 : decide ((30 : Int) < (n : Int)) = false := decide_eq_false (by omega)
  have td2 : decide (30 < n) = false := decide_eq_false (by omega)
  clear hni
  go_wp2_with fail
  refine (start_at w1 l r s hl hr hs none 0 0 (fun _ => 0) (.inl rfl) (by omega)).mono ?_
  rintro e w2 ⟨p, a, u, S, q, U, mb, nv, rfl, haN, hS2, hU, hu, hLI, hF, hM2, hO2, hbs, hmb, hnv, hk2⟩
  have hok := mk3_ok l r s
  obtain ⟨c, hc⟩ : ∃ c, c = mk3 l r s := ⟨_, rfl⟩
  rw [← hc] at hok haN hS2 hLI hM2 hO2
  have hSh : ShutW p a u S q c 0 w2 := ⟨_, _, _, _, _, _, _, hS2, ⟨hLI.1, fun j _ hj => hF j hj, hU⟩⟩
  have HN := hid haN
  have HO := hid hok
  have K2 := K1.trans hk2
  have hz1 := K1.size
  have HBS : Hid (∀ b ∈ mb :: a.d :: q.bl p a, W.heap.size ≤ b) := fun b hb => Nat.le_trans hz1 (hbs b hb)
  have HMB := hid hmb
  have hz2 := K2.size
  clear hc hok haN hS2 hU hLI hF hO2 hbs hmb hnv hk2 K1 hB1 c0 c1 c2 hz1
  go_wp2_with fail
  refine (begin_f hSh HO.out HN.out (by omega) 0 0).mono ?_
  rintro e w3 ⟨rfl, u3, S3, pl3, hOp3, _, hu3, hk3⟩
  have hM3 := hk3.at hM2 (fun h => HMB.out (List.mem_cons_of_mem _ h))
  have K3 : Keeps [] W w3 := K2.new hk3 (fun b hb => .inr (HBS.out b (by simp [hb])))
  have hmk := fun w : World => run_makeMap (P := Tryz.prog) (w := w) 61
  clear hSh hM2 K2 hz2 hk3
  go_upto_region 9 with fail
  have hSM := IMap.made w3
  have k4 := (Keeps.refl [] w3).alloc (.map #[] 0)
  have hlt3 := hOp3.lts
  have hmb3 := hM3.lt
  have hz3 := K3.size
  obtain ⟨sm, hsm⟩ : ∃ sm, sm = w3.heap.size := ⟨_, rfl⟩
  obtain ⟨w4, hw4⟩ : ∃ w4, w4 = w3.alloc (.map #[] 0) := ⟨_, rfl⟩
  rw [← hsm] at hSM hlt3 hmb3 hz3 ⊢
  rw [← hw4] at hSM k4 ⊢
  have hOp4 := hOp3.keep0 k4
  have hM4 := k4.at hM3 (by simp)
  have K4 := K3.trans k4
  have HSP : Hid (sm ≠ mb ∧ sm ∉ a.d :: q.bl p a ∧ W.heap.size ≤ sm) := ⟨by omega, fun h => by have := hlt3 _ h; omega, hz3⟩
  have HM4 := hid hM4
  have HK4 := hid K4
  clear hsm hw4 k4 hlt3 hmb3 hz3 hOp3 hM3 hM4 K3 K4 hmk
  obtain ⟨tz, htz⟩ : ∃ tz, tz = tm % 3 := ⟨_, rfl⟩
  have EM := hid (show (tm : Int) % 3 = (tz : Int) by omega)
  have htzb : (tz : Int) ≤ 2 := by omega
  clear htz
  have em := EM.out
  go_wp2_with fail
  clear em
  go_loopg [43] (1 + tz) (fun rr sl wr => ∃ kk : Nat, kk + rr = 1 + tz ∧ sl = .int .i64 kk ∧ OnceSt p a q c S.now sm w4 kk 0 wr)
  case atStart => exact ⟨0, by omega, rfl, u3, S3, 0, pl3, _, hOp4, hSM, ⟨fun k hk => absurd hk (Nat.not_lt_zero _), fun z v h => by simp at h, fun j k hj => absurd hj (Nat.not_lt_zero _)⟩, by omega, Keeps.refl _ _⟩
  case round =>
    obtain ⟨kk, hkk, rfl, hSt⟩ := hrel
    by_cases hlt : kk < 1 + tz
    · have hki : (kk : Int) < 1 + (tz : Int) := by omega
      have hkb : (kk : Int) ≤ 2 := by omega
      have HKK := hid hkk
      have HLT := hid hlt
      have HSt := hid hSt
      clear hSt hkk hlt hOp4 hSM
      go_wp2_with fail
      go_loopg [48] n (fun rr sl wr => ∃ j : Nat, j + rr = n ∧ sl = .int .i64 j ∧ OnceSt p a q c S.now sm w4 kk j wr)
      case atStart => exact ⟨0, by omega, rfl, HSt.out⟩
      case round =>
        obtain ⟨j, hj, rfl, u', S', m, pl, E, hOp, hE, hI, hu', hK⟩ := hrel
        by_cases hjn : j < n
        · obtain ⟨b, off, rfl, hb, hcl⟩ : ∃ b off, x = some ⟨b, off, none⟩ ∧ b < W.heap.size ∧ ∀ i, i < n → W.cell? ⟨b, off + i, none⟩ = some (.int .u16 (f i)) := by
            rcases HX.out with h | h
            · omega
            · exact h
          have hfj := HFB.out j hjn
          obtain ⟨fj, hfj2⟩ : ∃ k : Nat, (k : Int) = f j := ⟨(f j).toNat, by omega⟩
          have hWr : Keeps [] W wr := HK4.out.new hK (fun b hb => by
            have := HSP.out.2.2
            rcases List.mem_cons.1 hb with h | h
            · right; omega
            · exact .inr (HBS.out b (by simp [h])))
          have d0 : wr.cell? ⟨b, off + j, none⟩ = some (.int .u16 (fj : Int)) := by rw [hWr.cell hb (by simp), hfj2]; exact hcl j hjn
          have hfjb : (fj : Int) ≤ 65535 := by omega
          have hji : (j : Int) < (n : Int) := by omega
          have hjb : (j : Int) ≤ 30 := by omega
          have hM := hK.at HM4.out (fun h => by
            rcases List.mem_cons.1 h with h | h
            · exact HSP.out.1 h.symm
            · exact HMB.out (List.mem_cons_of_mem _ h))
          have hci := c_in HO.out HN.out
          have hwi : (c.words : Int) ≤ 15000 := by rw [HN.out]; omega
          have hwa : (c.act : Int) < (c.words : Int) := by rw [HN.out]; omega
          obtain ⟨dd, hdd⟩ : ∃ dd : Nat, dd = c.words - c.act := ⟨_, rfl⟩
          have hddb : (dd : Int) ≤ 15000 := by omega
          have hd1 : ¬ dd = 0 := by omega
          have hd2 : ¬ (dd : Int) = 0 := by omega
          obtain ⟨ii, hii⟩ : ∃ ii, ii = fj % dd := ⟨_, rfl⟩
          obtain ⟨i, hi⟩ : ∃ i, i = c.act + ii := ⟨_, rfl⟩
          have hiL : c.act ≤ i ∧ i < a.n := by have := Nat.mod_lt fj (show 0 < dd by omega); rw [← HN.out]; omega
          have hai : (c.act : Int) ≤ 823 := by have := act_le HO.out.small; omega
          have hib : (i : Int) ≤ 15000 := by omega
          have hiib : (ii : Int) ≤ 15000 := by omega
          have E2 : IntKind.i64.wrap ((c.words : Int) - (c.act : Int)) = (dd : Int) := by rw [IntWalk.i64_in _ (by omega)]; omega
          have E4 : IntKind.i64.wrap (fj : Int) = (fj : Int) := IntWalk.i64_in _ (by omega)
          have E5 : (fj : Int).tmod (dd : Int) = (ii : Int) := by rw [hii, Int.tmod_eq_emod_of_nonneg (by omega)]; simp
          have E6 : IntKind.i64.wrap ((c.act : Int) + (ii : Int)) = (i : Int) := by rw [IntWalk.i64_in _ (by omega)]; omega
          have E6' : (c.act : Int) + (ii : Int) = (i : Int) := by omega
          have HE := hid (And.intro E2 (And.intro E4 (And.intro E5 (And.intro E6 E6'))))
          have HJ := hid hj
          have HU := hid hu'
          have E2' : IntKind.i64.wrap (dd : Int) = (dd : Int) := IntWalk.i64_in _ (by omega)
          clear E4 E5 E6 E6' hdd hii hi hj hcl hfj hfj2 hb hci hu'
          go_upto_region 15 with fail
          have HCM : Hid (∀ w', Keeps [] wr w' → (w'.cell? ⟨mb, 0, none⟩ = some (.int .i64 c.log) ∧ w'.cell? ⟨mb, 1, none⟩ = some (.int .i64 c.roots) ∧ w'.cell? ⟨mb, 2, none⟩ = some (.int .i64 c.space))) :=
            fun w' hk => ⟨(hk.at hM (by simp)).cell 0 rfl, (hk.at hM (by simp)).cell 1 rfl, (hk.at hM (by simp)).cell 2 rfl⟩
          have k9 : Keeps [] wr wr.drew := (Keeps.refl _ _).drew
          have hs0 := HO.out.small
          go_region_held3 (fun w' => w'.cell? ⟨mb, 0, none⟩ = some (.int .i64 c.log) ∧ w'.cell? ⟨mb, 1, none⟩ = some (.int .i64 c.roots) ∧ w'.cell? ⟨mb, 2, none⟩ = some (.int .i64 c.space))
            (exact HCM.out _ k9)
            (first
              | (go_at_call 27; refine (active_at _ c hs0).mono ?_; rintro e w' ⟨rfl, hk1⟩; have k9 := k9.trans hk1; clear hk1)
              | (go_at_call 28; refine (cwords_at _ c hs0).mono ?_; rintro e w' ⟨rfl, hk1⟩; have k9 := k9.trans hk1; clear hk1))
          obtain ⟨E2o, E4, E5, E6, E6'⟩ := HE.out
          rw [E4, E5, E6]
          clear E2o E4 E5 E6 E6' E2 E2' d0 HCM
          rename_i hHd
          clear hHd
          have hE9 := hE.keep k9 (by simp)
          have hM9 := k9.at hM (by simp)
          have hOp9 := hOp.keep0 k9
          have K9 := hK.trans (k9.mono (by simp))
          have hle := hOp.le
          have hmi : (m : Int) ≤ 200 := by have := HO.out.small.2.1; omega
          have hkeys : ∀ w'', IMap w'' sm E → (Builtin.len_ #[61] 3 #[.map (some sm)]).run Tryz.prog w'' = .ok (.int .i64 (m : Int)) w'' := fun w'' h => h.len7 (fun k hk => by obtain ⟨_, _, v, _, _, hv⟩ := hI.at_ k hk; rw [hv]; rfl) hI.only hI.inj Tryz.underlying61 _
          by_cases hp : HasP m pl i
          · obtain ⟨v0, hv0⟩ := hI.found hp
            have HP := hid hp
            clear hp
            go_wp2_with (at_lookup; refine wpList_found_at rfl _ _ _ rfl 3 3 Tryz.underlying61 Tryz.underlying3 (.int .i64 0) (by kernel_rfl) sm _ rfl hE9 _ rfl _ hv0 ?_)
            go_quiet (fail)
            have k10 := (Keeps.refl [] w').drewN nq
            have hE10 := hE9.keep k10 (by simp)
            have hOp10 := hOp9.keep0 k10
            have K10 := K9.trans (k10.mono (by simp))
            obtain ⟨vv, hvv⟩ : ∃ vv : Nat, vv = 100 * kk + j := ⟨_, rfl⟩
            have EV : (100 : Int) * (kk : Int) + (j : Int) = (vv : Int) := by omega
            have hvb : vv ≤ 100000 := by omega
            have hvbi : (vv : Int) ≤ 100000 := by omega
            have EVU : IntKind.u64.wrap (vv : Int) = (vv : Int) := IntWalk.u64_in _ (by omega)
            clear hvv
            go_wp2_with (refine wpList_update_at rfl _ _ _ _ rfl 3 3 Tryz.underlying61 Tryz.underlying3 sm _ rfl hE10 (i : Int) (.int .i64 (vv : Int)) rfl rfl ?_; intro w11 hE11 hk11)
            have hOp11 := hOp10.keep hk11 (fun b hb h => HSP.out.2.1 (by simp at h; rw [← h]; exact hb))
            have K11 : Keeps (sm :: q.bl p a) w4 w11 := K10.trans (hk11.mono (by simp +contextual))
            have hul : u' < 1000000 := by have := HU.out; omega
            refine (sstore_f_old hOp11 HO.out HN.out hul i vv hiL (.inr HP.out)).mono ?_
            rintro e w12 ⟨rfl, u12, S12, hOp12, hS12, hu12, hk12⟩
            have hE12 := hE11.keep hk12 (fun h => HSP.out.2.1 (List.mem_cons_of_mem _ h))
            have K12 : Keeps (sm :: q.bl p a) w4 w12 := K11.trans (hk12.mono (fun k _ hk => List.mem_cons_of_mem _ hk))
            have hI12 := hI.old vv hvb HP.out hS12
            have HEND := hid (show OnceSt p a q c S.now sm w4 kk (j + 1) w12 from ⟨u12, S12, _, _, _, hOp12, hE12, hI12, by have := HU.out; omega, K12⟩)
            clear hOp12 hE12 hI12 K12 hk12 K11 hOp11 hE11 hk11 hS12
            go_wp2_with fail
            go_roundg (n - (j + 1))
            case measure => (have := HJ.out; omega)
            case rel => exact ⟨j + 1, by have := HJ.out; omega, by go_num, HEND.out⟩
          · have hv0 := hI.missed hp
            have HP := hid hp
            clear hp
            go_wp2_with (at_lookup; refine wpList_missed_at rfl _ _ _ rfl 3 3 Tryz.underlying61 Tryz.underlying3 (.int .i64 0) (by kernel_rfl) sm _ rfl hE9 _ rfl hv0 ?_)
            have hlen : ∀ nn, (Builtin.len_ #[61] 3 #[.map (some sm)]).run Tryz.prog (w'.drewN nn) = .ok (.int .i64 (m : Int)) (w'.drewN nn) := fun nn => hkeys _ (hE9.keep ((Keeps.refl [] w').drewN nn) (by simp))
            have q0 := hM9.cell 0 rfl
            have hcl : (c.log : Int) ≤ 200 := by have := HO.out.small.2.1; omega
            by_cases hfull : m = c.log
            · have t1 : ((m : Int) == (c.log : Int)) = true := by rw [beq_iff_eq]; omega
              have HFL := hid hfull
              clear hfull
              go_quiet (fail)
              have k10 := (Keeps.refl [] w').drewN nq
              have hE10 := hE9.keep k10 (by simp)
              have hOp10 := hOp9.keep0 k10
              have K10 := K9.trans (k10.mono (by simp))
              go_wp2_with fail
              refine (sstore_f_full hOp10 hs0 i 1 hiL (freshB_no i) HP.out HFL.out).mono ?_
              rintro e w12 ⟨rfl, hk12⟩
              have HEND := hid (show OnceSt p a q c S.now sm w4 kk (j + 1) w12 from ⟨u', S', m, pl, E, hOp10.keep0 hk12, hE10.keep hk12 (by simp), hI, by have := HU.out; omega, K10.trans (hk12.mono (by simp))⟩)
              clear hk12 K10 hOp10 hE10
              go_wp2_with fail
              go_roundg (n - (j + 1))
              case measure => (have := HJ.out; omega)
              case rel => exact ⟨j + 1, by have := HJ.out; omega, by go_num, HEND.out⟩
            · have t1 : ((m : Int) == (c.log : Int)) = false := by rw [beq_eq_false_iff_ne]; omega
              have t2 : (m == c.log) = false := by rw [beq_eq_false_iff_ne]; exact hfull
              have HFL := hid hfull
              clear hfull
              go_quiet (fail)
              have k10 := (Keeps.refl [] w').drewN nq
              have hE10 := hE9.keep k10 (by simp)
              have hOp10 := hOp9.keep0 k10
              have K10 := K9.trans (k10.mono (by simp))
              obtain ⟨vv, hvv⟩ : ∃ vv : Nat, vv = 100 * kk + j := ⟨_, rfl⟩
              have EV : (100 : Int) * (kk : Int) + (j : Int) = (vv : Int) := by omega
              have hvb : vv ≤ 100000 := by omega
              have hvbi : (vv : Int) ≤ 100000 := by omega
              have EVU : IntKind.u64.wrap (vv : Int) = (vv : Int) := IntWalk.u64_in _ (by omega)
              clear hvv
              go_wp2_with (refine wpList_update_at rfl _ _ _ _ rfl 3 3 Tryz.underlying61 Tryz.underlying3 sm _ rfl hE10 (i : Int) (.int .i64 (vv : Int)) rfl rfl ?_; intro w11 hE11 hk11)
              have hOp11 := hOp10.keep hk11 (fun b hb h => HSP.out.2.1 (by simp at h; rw [← h]; exact hb))
              have K11 : Keeps (sm :: q.bl p a) w4 w11 := K10.trans (hk11.mono (by simp +contextual))
              have hul : u' < 1000000 := by have := HU.out; omega
              refine (sstore_f_new hOp11 HO.out HN.out hul (by omega) i vv hiL (freshB_no i) HP.out (by have := hle; have := HFL.out; omega)).mono ?_
              rintro e w12 ⟨rfl, u12, S12, hOp12, hS12, hu12, hk12⟩
              have hE12 := hE11.keep hk12 (fun h => HSP.out.2.1 (List.mem_cons_of_mem _ h))
              have K12 : Keeps (sm :: q.bl p a) w4 w12 := K11.trans (hk12.mono (fun k _ hk => List.mem_cons_of_mem _ hk))
              have hI12 := hI.new vv hvb hiL HP.out hS12
              have HEND := hid (show OnceSt p a q c S.now sm w4 kk (j + 1) w12 from ⟨u12, S12, _, _, _, hOp12, hE12, hI12, by have := HU.out; omega, K12⟩)
              clear hOp12 hE12 hI12 K12 hk12 K11 hOp11 hE11 hk11 hS12
              go_wp2_with fail
              go_roundg (n - (j + 1))
              case measure => (have := HJ.out; omega)
              case rel => exact ⟨j + 1, by have := HJ.out; omega, by go_num, HEND.out⟩
        · have hje : j = n := by omega
          have HEND := hid (show OnceSt p a q c S.now sm w4 (kk + 1) 0 wr from ⟨u', S', m, pl, E, hOp, hE, hI, by have : (3000 : Int) * (j : Int) ≤ 90000 := by omega
                                                                                                                  omega, hK⟩)
          subst hje
          clear hOp hE hI hK hu' hj hjn
          go_wp2_with fail
          go_roundg (1 + tz - (kk + 1))
          case measure => (have := HKK.out; omega)
          case rel => exact ⟨kk + 1, by have := HKK.out; have := HLT.out; omega, by go_num, HEND.out⟩
    · obtain ⟨u', S', m, pl, E, hOp, hE, hI, hu', hK⟩ := hSt
      have hke : kk = 1 + tz := by omega
      have hKw : Keeps [] W wr := HK4.out.new hK (fun b hb => by
        have := HSP.out.2.2
        rcases List.mem_cons.1 hb with h | h
        · right; omega
        · exact .inr (HBS.out b (by simp [h])))
      have hlts := hOp.lts
      have hsml := hE.lt
      have hmi : (m : Int) ≤ 200 := by have := hOp.le; have := HO.out.small.2.1; omega
      have hci := c_in HO.out HN.out
      have hub : u' < 1000000 := by omega
      have HUB := hid hub
      have HI := hid hI
      subst hke
      clear hkk hlt hSM hOp4 hu' hub hK hI
      go_wp2_with (at_range; refine wpList_range_at rfl _ _ rfl 3 3 Tryz.underlying61 sm _ rfl hE ?_; intro w20 cnt hr20 hk20 hz20)
      go_frame
      obtain ⟨rb, hrb⟩ : ∃ rb, rb = wr.heap.size := ⟨_, rfl⟩
      rw [← hrb] at hr20 hlts hsml ⊢
      have HRB : Hid (rb ≠ sm ∧ (∀ b ∈ a.d :: q.bl p a, b ≠ rb) ∧ W.heap.size ≤ rb) := ⟨by omega, fun b hb => by have := hlts b hb; omega, by rw [hrb]; exact hKw.size⟩
      have hOp20 := hOp.keep0 hk20
      have K20 := hKw.trans hk20
      have HOp20 := hid hOp20
      have HK20 := hid K20
      clear hOp hE hk20 hz20 hKw hrb hlts hsml hOp20 K20
      go_loopg [17] cnt (fun rl _ wq => ∃ left : Int → Bool, IRange wq rb sm E left rl ∧ Keeps [rb] w20 wq)
      case atStart => exact ⟨_, hr20, Keeps.refl _ _⟩
      case round =>
        obtain ⟨left, hR, hK⟩ := hrel
        have hOpq := HOp20.out.keep hK (fun b hb h => HRB.out.2.1 b hb (by simpa using h))
        have Kq := Keeps.new (S := []) (T := [rb]) HK20.out hK (fun b hb => .inr (by have e : b = rb := by simpa using hb
                                                                                     rw [e]; exact HRB.out.2.2))
        clear hr20
        go_wp2_with (at_next; refine wpList_next_at rfl _ rfl rb sm _ left gk rfl hR HRB.out.1 ?_ ?_)
        · intro hr0 hl0
          have hE9 := hR.map
          have hlen := hE9.len7 (fun k hk => by obtain ⟨_, _, v, _, _, hv⟩ := HI.out.at_ k hk; rw [hv]; rfl) HI.out.only HI.out.inj Tryz.underlying61 3
          obtain ⟨hQ, hL⟩ := slen_f hOpq
          have HL := hid hL
          have HCM := hid (commit_f hOpq HO.out HN.out HUB.out)
          have c0 := hQ.cell 0 rfl
          clear hl0 hr0 hE9 hL hR
          go_wp2_with fail
          refine HL.out.mono ?_
          rintro e w31 ⟨rfl, rfl⟩
          go_wp2_with fail
          refine HCM.out.mono ?_
          rintro e w32 ⟨rfl, u32, S32, hSh, _, _, hk32⟩
          obtain ⟨⟨f32, t32, hQ2⟩, hL2⟩ := slen_f_no hSh
          have HL2 := hid hL2
          have K32 := Keeps.new (S := []) (T := q.bl p a) Kq hk32 (fun b hb => .inr (HBS.out b (by simp [hb])))
          have c0' := hQ2.cell 0 rfl
          clear hL2 c0 hQ hk32 hlen
          go_wp2_with fail
          refine HL2.out.mono ?_
          rintro e w33 ⟨rfl, rfl⟩
          go_wp2_with fail
          go_ret
          exact ⟨rfl, K32.below (Nat.le_refl _) (by simp)⟩
        · intro k v w21 cnt' hlk hD hlt' hR3 hk21 hen
          obtain ⟨jx, hjx, rfl⟩ := HI.out.only _ _ hD
          obtain ⟨h1, h2, vx, h3, h4, h5⟩ := HI.out.at_ jx hjx
          rw [h5] at hD
          obtain rfl : Value.int .i64 (vx : Int) = v := Option.some.inj hD
          have hOp21 := hOpq.keep hk21 (fun b hb h => HRB.out.2.1 b hb (by simpa using h))
          have EVU : IntKind.u64.wrap (vx : Int) = (vx : Int) := IntWalk.u64_in _ (by omega)
          have HLD := hid (load_eq w21 p a S' (pl jx) vx hOp21.pw.dev h2 h3)
          have HR3 := hid hR3
          have HCN := hid hlt'
          clear hD hlk h5 hR3 hlt'
          go_wp2_with fail
          refine HLD.out.mono ?_
          rintro e w22 ⟨rfl, rfl⟩
          go_wp2_with fail
          go_roundg cnt'
          case measure => exact HCN.out
          case rel => exact ⟨_, HR3.out, hK.trans hk21⟩

theorem sectionOnce_walk (l r s : Int) (x : Option Addr) (n cp : Nat) (f : Nat → Int) (tm : Int) (W : World) (wl : (Lit.int .u16 l).wf = true) (wr : (Lit.int .u16 r).wf = true) (ws : (Lit.int .u16 s).wf = true) (R1 : ReadsV (Value.int .u16) W x n f) (hf : ∀ i, i < n → (Lit.int .u16 (f i)).wf = true) (hn : n ≤ maxLen) (wt : (Lit.int .u8 tm).wf = true) :
    Calls Tryz.prog 4 #[.agg #[.int .u16 l, .int .u16 r, .int .u16 s], .slice x n cp, .int .u8 tm] W fun e w' => e = .returned (.bool true) ∧ Below W.heap.size W w' := by
  obtain ⟨l, rfl, hl⟩ := c3_open wl
  obtain ⟨r, rfl, hr⟩ := c3_open wr
  obtain ⟨s, rfl, hs⟩ := c3_open ws
  have ha := bounds_u8 wt
  obtain ⟨tm, rfl⟩ : ∃ n : Nat, (n : Int) = tm := ⟨tm.toNat, by omega⟩
  exact once7_small l r s tm x n cp f W hl hr hs (by omega) R1 (fun i hi => bounds_u16 (hf i hi)) (by unfold maxLen at hn; omega)

end Go.Proofs.YtkoflpcpopmkkaaGreat
