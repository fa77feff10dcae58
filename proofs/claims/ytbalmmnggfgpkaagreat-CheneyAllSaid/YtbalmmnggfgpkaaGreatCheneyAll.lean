/- The walk of the law CheneyAll, over what is asked of a collector's functions. -/
import Derived.Test.YtbalmmnggfgpkaaGreatAwk14
import Derived.Test.YtbalmmnggfgpkaaGreatAlw
import Derived.Test.YtbalmmnggfgpkaaGreatRev
import Derived.Test.YtbalmmnggfgpkaaGreatApp
import Derived.Test.YtbalmmnggfgpkaaGreatCkl
import Derived.BigQuiet
import Derived.Deep.RegionHeld3
namespace Go.Proofs.YtbalmmnggfgpkaaGreat
open Go.RowKit Go.OpenShut

set_option maxRecDepth 100000 in
set_option maxHeartbeats 4000000 in
theorem call_small {Col : CP → World → Nat → List Nat → Nat → Prop} (C : ColK Col) (l r s : Nat) (y0 : Option Addr) (m cm : Nat) (R V : Nat → Nat) (y1 : Option Addr) (mn cn : Nat) (G : Nat → Nat) (back : Bool) (W : World) (hl : l ≤ 65535) (hrr : r ≤ 65535) (hs : s ≤ 65535)
    (hy : ReadsH W y0 m R V) (hm : m ≤ 9223372036854775807) (hg : ReadsW W y1 mn G) (hmn : mn ≤ 9223372036854775807) :
    Calls Tryz.prog 6 #[c3V l r s, .slice y0 m cm, .slice y1 mn cn, .bool back] W fun e w' => e = .returned (.bool true) ∧ Below W.heap.size W w' := by
  have hmi : (m : Int) ≤ 9223372036854775807 := by omega
  have hmni : (mn : Int) ≤ 9223372036854775807 := by omega
  have HG := hid hg
  clear hg
  have HY := hid hy
  clear hy
  go_enter Tryz.func6, Tryz.ntmps6
  go_wp2_with fail
  have h_xb := At.new W (c3O l r s)
  have K0 := (Keeps.refl [] W).alloc (c3O l r s)
  obtain ⟨xb, hq_xb⟩ : ∃ q, q = W.heap.size := ⟨_, rfl⟩
  rw [← hq_xb]
  rw [← hq_xb] at h_xb
  refine (awake14_any C _).mono ?_
  rintro e w1 ⟨rfl, hb1⟩
  have k1 := Go.Proofs.YtbalmmnggfgpkaaGreat.Below.keeps hb1 []
  have K1 := K0.trans k1
  have g_xb := k1.at h_xb (by simp)
  clear hb1 k1 K0 h_xb hq_xb
  have c0 : w1.cell? ⟨xb, 0, none⟩ = some (.int .u16 l) := g_xb.cell 0 rfl
  have c1 : w1.cell? ⟨xb, 1, none⟩ = some (.int .u16 r) := g_xb.cell 1 rfl
  have c2 : w1.cell? ⟨xb, 2, none⟩ = some (.int .u16 s) := g_xb.cell 2 rfl
  by_cases hm30 : m ≤ 25
  case neg =>
    have hm2 : (25 : Int) < (m : Int) := by omega
    have hm3 : decide ((25 : Int) < (m : Int)) = true := decide_eq_true hm2
    go_wp2_with fail
    go_ret
    exact ⟨rfl, K1.below (Nat.le_refl _) (by simp)⟩
  have hm2 : (m : Int) ≤ 25 := by omega
  have hm3 : decide ((25 : Int) < (m : Int)) = false := decide_eq_false (by omega)
  clear hmi
  by_cases hn60 : mn ≤ 60
  case neg =>
    have hn2 : (60 : Int) < (mn : Int) := by omega
    have hn3 : decide ((60 : Int) < (mn : Int)) = true := decide_eq_true hn2
    go_wp2_with fail
    go_ret
    exact ⟨rfl, K1.below (Nat.le_refl _) (by simp)⟩
  have h2_mn : (mn : Int) ≤ 60 := by omega
  have h3_mn : decide ((60 : Int) < (mn : Int)) = false := decide_eq_false (by omega)
  clear hmni
  have hok := mk3_ok l r s
  obtain ⟨c, hc⟩ : ∃ c, c = mk3 l r s := ⟨_, rfl⟩
  rw [← hc] at hok
  obtain ⟨os, hos⟩ : ∃ os, os = fillL c.space (hdsL R V m) := ⟨_, rfl⟩
  have HLI := hid (linked_at w1 l r s hl hrr hs y0 m cm R V (HY.out.keep K1 (by simp)) (by omega) y1 mn cn G (HG.out.keep K1 (by simp)) (by omega) 0 (by omega) c hc os hos)
  clear hc
  go_wp2_with fail
  refine HLI.out.mono ?_
  rintro e w3 ⟨p, a, u, S, x, cp, y, cy, B, rfl, hn, hP, hub, hF, hU, hI, ⟨b1, b2, b3, b4, b5⟩, hB, hk3⟩
  have K3 := K1.trans hk3
  have HO := hid hok
  have HN := hid hn
  obtain ⟨L, hL⟩ : ∃ L, L = os.length := ⟨_, rfl⟩
  have hLm : L ≤ m := by rw [hL, hos]; exact fillL_len _ _ _ _
  have hLi : (L : Int) ≤ 30 := by omega
  have HL := hid hL
  rw [← hL] at hI ⊢
  obtain ⟨us, hus⟩ : ∃ us, us = lenL os := ⟨_, rfl⟩
  have HUS := hid hus
  rw [← hus]
  have husb : us ≤ c.space := by rw [hus]; exact hF.fits
  have hsp : c.space ≤ 4096 := hok.small.2.2
  have husi : (us : Int) ≤ 4096 := by omega
  have hfr := frm_le hok.small (show 0 ≤ 2 by omega)
  have hfs : c.frm 0 + c.space ≤ a.n := by rw [← hn]; exact frm_space 0 (by omega)
  have hwd := hF.wd hsp (lnkG_wd c os G mn 0 (by omega))
  have HX : Hid (∀ j : Nat, c.frm 0 ≤ j → j < c.frm 0 + us → ∃ x : Nat, S.now j = (x : Int) ∧ x < 18446744073709551616) := fun j h1 h2 => hwd.sp j h1 (by omega)
  have HFS := hid (And.intro husb (And.intro hsp (And.intro hfs hfr)))
  have HP := hid hP
  have HI := hid hI
  have HYB : Hid (∀ b ∈ blkL y, b < w3.heap.size) := fun b hb => (hI.ge b hb).2
  have HWB : Hid (∀ b ∈ [p, a.d, a.s, a.k, a.m], W.heap.size ≤ b ∧ b < w3.heap.size) := fun b hb' => by
    have h1 := K1.size
    have h2 := hP.pow.lt
    have h3 := hP.dev.dev.lt
    have h4 := hP.dev.now.lt
    have h5 := hP.dev.kept.lt
    have h6 := hP.dev.map.lt
    simp only [List.mem_cons, List.not_mem_nil, or_false] at hb'
    omega
  have HUB := hid hub
  have HU := hid hU
  have HD4 : Hid (a.d < w3.heap.size ∧ a.s < w3.heap.size ∧ a.k < w3.heap.size ∧ a.m < w3.heap.size) := ⟨hP.dev.dev.lt, hP.dev.now.lt, hP.dev.kept.lt, hP.dev.map.lt⟩
  have HK3 := hid K3
  have HFF := hid hF
  clear hm30 hn60 hm2 hm3 h2_mn h3_mn hos hL hLm hus husb hsp hfs hfr hwd hF hP hub hI hU hB b1 b2 b3 b4 b5 hk3 K1 c0 c1 c2 HLI hok hn K3 g_xb
  go_upto_region 8 with fail
  have hC4 := (At.new w3 (cfgO c)).alloc (bkO 0 (us : Nat) (.slice x c.roots cp))
  have hB4 := At.new (w3.alloc (cfgO c)) (bkO 0 (us : Nat) (.slice x c.roots cp))
  have k34 := ((Keeps.refl [] w3).alloc (cfgO c)).alloc (bkO 0 (us : Nat) (.slice x c.roots cp))
  simp only [World.size_alloc] at hB4
  obtain ⟨cb, hcb⟩ : ∃ q, q = w3.heap.size := ⟨_, rfl⟩
  obtain ⟨bb, hbb⟩ : ∃ q, q = w3.heap.size + 1 := ⟨_, rfl⟩
  obtain ⟨w4, hw4⟩ : ∃ w4, w4 = (w3.alloc (cfgO c)).alloc (bkO 0 (us : Nat) (.slice x c.roots cp)) := ⟨_, rfl⟩
  have hz4 : w4.heap.size = w3.heap.size + 2 := by rw [hw4]; simp
  rw [← hw4] at hC4 hB4 k34
  first | rw [← hw4] | skip
  rw [← hbb, ← hcb]
  rw [← hcb] at hC4
  rw [← hbb] at hB4
  have HZ4 : Hid (cb = w3.heap.size ∧ bb = cb + 1 ∧ w4.heap.size = cb + 2) := ⟨by omega, by omega, by omega⟩
  have HP4 := hid (HP.out.keep0 k34)
  have HC4 := hid hC4
  have HB4 := hid hB4
  have HK4 := hid (HK3.out.trans k34)
  have HK34 := hid k34
  have HI4 := hid (HI.out.keep k34 (by simp))
  clear hw4 hz4 hcb hbb hC4 hB4 k34
  have HPB : Hid (∀ j, j < L → c.frm 0 + posL os j ≤ 100000) := fun j hj => by
    have h1 := posN_end (l := os) (i := j) (by have := HL.out; omega)
    have h2 := HUS.out
    have h3 := HFS.out
    omega
  go_wp2_with fail
  go_loopg [13, 46] L (fun rr s13 s46 wr => ∃ (i : Nat) (xx : Option Addr) (cc : Nat), i + rr = L ∧ s46 = .int .i64 i ∧ s13 = .slice xx i cc ∧ (i = 0 → xx = none) ∧ OwnU wr w4.heap.size xx cc i (fun j => ((c.frm 0 + posL os j : Nat) : Int)) ∧ Keeps [] w4 wr)
  case atStart => exact ⟨0, none, 0, by omega, rfl, rfl, fun _ => rfl, ownU_nil _ _ _, Keeps.refl _ _⟩
  case round =>
    obtain ⟨i, xx, cc, hi, rfl, rfl, h0, hO, hK⟩ := hrel
    have H0 := hid h0
    have HOO := hid hO
    have HK := hid hK
    by_cases hil : i < L
    · obtain ⟨pv, hpv⟩ : ∃ pv, pv = c.frm 0 + posL os i := ⟨_, rfl⟩
      have hpb : (pv : Int) ≤ 100000 := by have := HPB.out i hil; omega
      obtain ⟨g, rfl, hgB, hgl, hgc⟩ := HI4.out.cell (by omega)
      have d0 : wr.cell? ⟨g, i, none⟩ = some (.int .i64 (pv : Nat)) := by
        rw [hK.cell hgl (by simp), hpv]
        exact hgc i hil
      have e1 : IntKind.u64.wrap (pv : Int) = (pv : Int) := IntWalk.u64_in _ (by omega)
      have hii : (i : Int) < (L : Int) := by omega
      have hi5 : i ≤ 100000 := by omega
      have hcX := (At.new wr (.cells #[.int .u64 (pv : Nat)] 40)).cell 0 rfl
      have HOX := hid (HOO.out.keep ((Keeps.refl [] wr).alloc (.cells #[.int .u64 (pv : Nat)] 40)) (by simp))
      have hBX : w4.heap.size ≤ (wr.alloc (.cells #[.int .u64 (pv : Nat)] 40)).heap.size := by simp only [World.size_alloc]; have := hK.size; omega
      have HIV := hid (And.intro hi (And.intro hil hpv))
      clear hi hil hpv hgB hgl hgc hO hK h0
      go_wp2_with (at_builtin; refine appU_many rfl _ _ rfl w4.heap.size xx cc i _ rfl HOX.out _ _ (pv : Nat) rfl hcX hi5 hBX ?_; intro g9 cap9 w9 hO9 hk9 hg9)
      have HE : Hid (OwnU w9 w4.heap.size (some ⟨g9, 0, none⟩) cap9 (i + 1) (fun j => ((c.frm 0 + posL os j : Nat) : Int)) ∧ Keeps [] w4 w9) :=
        ⟨hO9.eq (fun j hj => by
          unfold put
          by_cases hji : j = i
          · rw [if_pos hji, hji, ← HIV.out.2.2]
          · rw [if_neg hji]), (HK.out.alloc _).new hk9 (fun b hb => .inr (HOO.out.ge b hb).1)⟩
      clear hO9 hk9 hg9 hcX hBX d0 e1
      go_roundg (L - (i + 1))
      case measure => (have := HIV.out; omega)
      case rel => exact ⟨i + 1, some ⟨g9, 0, none⟩, cap9, by have := HIV.out; omega, by go_num, rfl, fun h => by omega, HE.out⟩
    · have hie : L = i := by omega
      subst hie
      clear hi hil hO hK h0
      go_upto_if 56 with fail
      go_cut [] from 57 to 58 (fun wx => OwnU wx w4.heap.size xx cc L (fun j => ((alW c os back L j : Nat) : Int)) ∧ Keeps [] w4 wx)
      case first =>
        cases back with
        | false =>
          go_wp2_with fail
          go_meet
          exact ⟨HOO.out.eq (fun j _ => by simp [alW]), HK.out⟩
        | true =>
          by_cases hL0 : L = 0
          · obtain rfl := H0.out hL0
            subst hL0
            obtain ⟨_, ⟨hcc, _⟩ | ⟨_, _, _, hcc, _⟩⟩ := HOO.out
            case inr => exact absurd hcc (by simp)
            injection hcc with _ _ hcc
            subst hcc
            go_wp2_with fail
            refine (reverse_nil _).mono ?_
            rintro e w6 ⟨rfl, rfl⟩
            go_wp2_with fail
            go_meet
            exact ⟨HOO.out.eq (fun j hj => by omega), HK.out⟩
          · obtain ⟨g, cur, rfl, hgB, hgA, _⟩ := HOO.out.form.resolve_left (by omega)
            have HRV := hid (reverse13_at wr w4.heap.size g cc L (fun j => ((c.frm 0 + posL os j : Nat) : Int)) HOO.out (by omega))
            have HGV := hid hgB
            clear hgA hgB
            go_wp2_with fail
            refine HRV.out.mono ?_
            rintro e w6 ⟨rfl, hO6, k6⟩
            have HE := hid (And.intro hO6 k6)
            clear hO6 k6
            go_wp2_with fail
            go_meet
            exact ⟨HE.out.1.eq (fun j hj => by simp [alW]), HK.out.new HE.out.2 (fun b hb => .inr (by have := HGV.out; obtain rfl := List.mem_singleton.1 hb; omega))⟩
      case rest =>
        obtain ⟨wD, hwD⟩ : ∃ wD, wD = wc := ⟨_, rfl⟩
        subst hwD
        obtain ⟨hO2, hK2⟩ := hcut
        have HO2 := hid hO2
        have HK2 := hid hK2
        clear hO2 hK2 HOO HK H0
        have HALB : Hid (∀ i, i < L → alW c os back L i ≤ 100000) := fun i hi => by
          unfold alW
          split
          · exact HPB.out _ (by omega)
          · exact HPB.out _ hi
        obtain ⟨fA, hfA⟩ : ∃ fA : Nat → Int, fA = fun j => ((alW c os back L j : Nat) : Int) := ⟨_, rfl⟩
        obtain ⟨fR, hfR⟩ : ∃ fR : Nat → Int, fR = fun j => lnkG c os G mn 0 (refL os + j) := ⟨_, rfl⟩
        have hfR0 : ∀ j, 0 ≤ fR j := fun j => by
          obtain ⟨v, h1, _⟩ := lnkG_low c os G mn (by have := HFS.out; have := HUS.out; omega) (refL os + j)
          rw [hfR]
          show 0 ≤ lnkG c os G mn 0 (refL os + j)
          rw [h1]
          omega
        have hfA0 : ∀ j, 0 ≤ fA j := fun j => by rw [hfA]; exact Int.natCast_nonneg _
        obtain ⟨PQ, hPQ⟩ : ∃ PQ : Nat → CP, PQ = fun n => ⟨p, a, S, c, 0, us, wsN n fA, wsN c.roots fR⟩ := ⟨_, rfl⟩
        have HOK : Hid (∀ n, n ≤ L → (PQ n).Ok) := fun n hn => by
          rw [hPQ, hfR]
          show CP.Ok ⟨p, a, S, c, 0, us, wsN n fA, _⟩
          rw [HUS.out]
          refine ok14 p HO.out HN.out HFF.out (nmdP_start S c os) _ (fun v hv => ?_) (by rw [wsN_len]; omega)
          obtain ⟨i, hi, rfl⟩ := List.mem_map.1 hv
          have h1 := HALB.out i (by have := List.mem_range.1 hi; omega)
          rw [hfA]
          show ((alW c os back L i : Nat) : Int).toNat < _
          omega
        have hRr : ∀ w', Keeps [] wD w' → Reads w' x (wsN c.roots fR).length (fun j => (((wsN c.roots fR).getD j 0 : Nat) : Int)) := fun w' hk => by
          refine reads_ws ?_ fun j _ => hfR0 j
          rw [hfR]
          exact (HU.out.rd).keep ((by
            have h1 : Keeps [] w3 w4 := HK34.out
            exact (h1.trans HK2.out).trans hk) : Keeps [] w3 w') (by simp)
        have HNW : Hid (∀ w', Keeps [] wD w' → ∀ (q : Option Addr) (n cq : Nat), (q = xx ∧ n = L ∧ cq = cc ∨ q = none ∧ n = 0 ∧ cq = 0) →
            Calls Tryz.prog 15 #[ptr a.d, cfgV c, bkV 0 us (.slice x c.roots cp), .slice q n cq] w' fun e w'' => ∃ xq T, e = .returned (ptr xq) ∧ Col (PQ n) w'' xq T 0 ∧ (∀ b ∈ T, w'.heap.size ≤ b) ∧ Keeps [] w' w'') := fun w' hk q n cq hq => by
          have hrw : Reads w' q (wsN n fA).length (fun j => (((wsN n fA).getD j 0 : Nat) : Int)) := by
            rcases hq with ⟨rfl, rfl, rfl⟩ | ⟨rfl, rfl, rfl⟩
            · refine reads_ws ?_ fun j _ => hfA0 j
              rw [hfA]
              exact (HO2.out.rd).keep hk (by simp)
            · exact .inl rfl
          have h := C.new (PQ n) w' (HOK.out n (by omega)) (by rw [hPQ]; exact HP4.out.dev.keep (HK2.out.trans hk) (by simp) (by simp) (by simp) (by simp)) x cp (by rw [hPQ]; exact hRr w' hk) q cq (by rw [hPQ]; exact hrw)
          have e1 : (PQ n).rs.length = c.roots := by rw [hPQ]; exact wsN_len _ _
          have e2 : (PQ n).ws.length = n := by rw [hPQ]; exact wsN_len _ _
          rw [e1, e2] at h
          have e3 : (PQ n).a = a ∧ (PQ n).c = c ∧ (PQ n).k = 0 ∧ (PQ n).us = us := by rw [hPQ]; exact ⟨rfl, rfl, rfl, rfl⟩
          rw [e3.1, e3.2.1, e3.2.2.1, e3.2.2.2] at h
          exact h
        have HFA := hid (And.intro hfA (And.intro hfR hPQ))
        have HCZ := hid (fun (w' : World) (kk : Keeps [] wD w') => show w'.cell? ⟨cb, 0, none⟩ = some (.int .i64 c.log) ∧ w'.cell? ⟨cb, 1, none⟩ = some (.int .i64 c.roots) ∧ w'.cell? ⟨cb, 2, none⟩ = some (.int .i64 c.space) ∧ w'.cell? ⟨bb, 0, none⟩ = some (.int .i64 0) ∧ w'.cell? ⟨bb, 1, none⟩ = some (.int .i64 us) ∧ w'.cell? ⟨bb, 2, none⟩ = some (.slice x c.roots cp) from by
          have h1 := (HK2.out.trans kk).at HC4.out (by simp)
          have h2 := (HK2.out.trans kk).at HB4.out (by simp)
          exact ⟨h1.cell 0 rfl, h1.cell 1 rfl, h1.cell 2 rfl, h2.cell 0 rfl, h2.cell 1 rfl, h2.cell 2 rfl⟩)
        clear hfA hfR hPQ hfR0 hfA0 hRr
        go_upto_region 16 with fail
        go_cut [16, 17] from 59 to 67 (fun s16 s17 wx => ∃ (yb zb : Nat) (Ty Tz : List Nat), s16 = ptr yb ∧ s17 = ptr zb ∧ Col (PQ L) wx yb Ty 0 ∧ Col (PQ 0) wx zb Tz 0 ∧ (∀ b ∈ Ty, wD.heap.size ≤ b) ∧ (∀ b ∈ Tz, wD.heap.size ≤ b) ∧ (∀ b ∈ Ty, b ∉ Tz) ∧ Keeps [] wD wx)
        case first =>
          have kk : Keeps [] wD wD.drew := (Keeps.refl [] wD).drew
          go_region_held3 (fun w' => w'.cell? ⟨cb, 0, none⟩ = some (.int .i64 c.log) ∧ w'.cell? ⟨cb, 1, none⟩ = some (.int .i64 c.roots) ∧ w'.cell? ⟨cb, 2, none⟩ = some (.int .i64 c.space) ∧ w'.cell? ⟨bb, 0, none⟩ = some (.int .i64 0) ∧ w'.cell? ⟨bb, 1, none⟩ = some (.int .i64 us) ∧ w'.cell? ⟨bb, 2, none⟩ = some (.slice x c.roots cp))
            (first | exact HCZ.out _ (k2.trans hk2) | exact HCZ.out _ k2 | exact HCZ.out _ kk)
            (first
              | (go_at_call 15; refine (HNW.out _ k2 _ _ _ (by first | exact .inl ⟨rfl, rfl, rfl⟩ | exact .inr ⟨rfl, rfl, rfl⟩)).mono ?_; rintro e w' ⟨xq2, T2, rfl, hC2, hT2, hk2⟩)
              | (go_at_call 15; refine (HNW.out _ kk _ _ _ (by first | exact .inl ⟨rfl, rfl, rfl⟩ | exact .inr ⟨rfl, rfl, rfl⟩)).mono ?_; rintro e w' ⟨xq1, T1, rfl, hC1, hT1, hk1⟩; have k2 := kk.trans hk1))
          all_goals
            have hE : ∃ (yb zb : Nat) (Ty Tz : List Nat), ptr xq1 = ptr yb ∧ ptr xq2 = ptr zb ∧ Col (PQ L) w' yb Ty 0 ∧ Col (PQ 0) w' zb Tz 0 ∧ (∀ b ∈ Ty, wD.heap.size ≤ b) ∧ (∀ b ∈ Tz, wD.heap.size ≤ b) ∧ (∀ b ∈ Ty, b ∉ Tz) ∧ Keeps [] wD w' :=
              ⟨xq1, xq2, T1, T2, rfl, rfl, C.keep hC1 hk2 (by simp), hC2, fun b hb => Nat.le_trans kk.size (hT1 b hb), fun b hb => Nat.le_trans k2.size (hT2 b hb), fun b hb h => by
                have h1 := C.lt hC1 b hb
                have h2 := hT2 b h
                omega, k2.trans hk2⟩
            have HE := hid hE
            clear hE hC1 hC2 hT1 hT2 hk1 hk2 k2 kk
            go_wp2_with fail
            go_meet
            exact HE.out
        case rest =>
          obtain ⟨yb, zb, Ty, Tz, rfl, rfl, hCy, hCz, hTy, hTz, hYZ, hK5⟩ := hcut
          obtain ⟨w5, hw5⟩ : ∃ w5, w5 = wc := ⟨_, rfl⟩
          subst hw5
          have HP5 := hid (HP4.out.keep0 (HK2.out.trans hK5))
          have hq0 : ∀ n, (PQ n).p = p ∧ (PQ n).a = a ∧ (PQ n).S = S ∧ (PQ n).c = c ∧ (PQ n).k = 0 ∧ (PQ n).us = us ∧ (PQ n).rs.length = c.roots := fun n => by rw [HFA.out.2.2]; exact ⟨rfl, rfl, rfl, rfl, rfl, rfl, wsN_len _ _⟩
          have HQ0 := hid hq0
          have hz0 : (PQ 0).LS = [] := by rw [HFA.out.2.2]; exact rcF_nowords _ _ _ _
          have HZ0 := hid hz0
          have hdv : ∀ T : List Nat, (∀ b ∈ T, wD.heap.size ≤ b) → ∀ n, ∀ b ∈ T, b ∉ [(PQ n).p, (PQ n).a.d, (PQ n).a.s, (PQ n).a.k, (PQ n).a.m] := fun T hT n b hb h => by
            rw [(hq0 n).1, (hq0 n).2.1] at h
            have h1 := (HWB.out b h).2
            have h2 := hT b hb
            have h3 := HK34.out.size
            have h4 := HK2.out.size
            omega
          have HDV := hid hdv
          have HRZ := hid (C.run hCz (u := u) (S := S) (by rw [(hq0 0).1, (hq0 0).2.1]; exact HP5.out) (by have := HUB.out; omega) (by have := (PQ 0).at_start; rwa [(hq0 0).2.2.1] at this) (hdv Tz hTz 0) (by unfold CP.N; omega))
          have HCY := hid hCy
          have HTY := hid (And.intro hTy (And.intro hTz hYZ))
          have HK5 := hid hK5
          clear hCy hCz hTy hTz hYZ hK5 hq0 hz0 hdv HCZ HNW
          go_upto_region 19 with fail
          go_wp2_with fail
          refine HRZ.out.mono ?_
          rintro e w6 ⟨T6, u6, S6, rfl, hC6, hP6, hat6, hkp6, hu6, hT6, hk6⟩
          have hdn : ∀ n, (PQ n).p = p ∧ (PQ n).a = a ∧ (PQ n).S = S ∧ (PQ n).c = c ∧ (PQ n).k = 0 ∧ (PQ n).us = us := fun n => ⟨(HQ0.out n).1, (HQ0.out n).2.1, (HQ0.out n).2.2.1, (HQ0.out n).2.2.2.1, (HQ0.out n).2.2.2.2.1, (HQ0.out n).2.2.2.2.2.1⟩
          have hCy6 : Col (PQ L) w6 yb Ty 0 := C.keep HCY.out hk6 (fun b hb h => by
            rcases List.mem_append.1 h with h | h
            · exact HTY.out.2.2 b hb h
            · refine HDV.out Ty HTY.out.1 0 b hb ?_
              simp only [List.mem_cons, List.not_mem_nil, or_false] at h ⊢
              omega)
          have hat0 : (PQ L).at 0 S6 := CP.at_none hat6 HZ0.out ((hdn L).2.2.1.trans (hdn 0).2.2.1.symm) ((hdn L).2.2.2.1.trans (hdn 0).2.2.2.1.symm) ((hdn L).2.2.2.2.1.trans (hdn 0).2.2.2.2.1.symm) ((hdn L).2.2.2.2.2.trans (hdn 0).2.2.2.2.2.symm)
          have hPy : Pw w6 (PQ L).p (PQ L).a (-1) u6 S6 := by
            rw [(hdn L).1, (hdn L).2.1]
            rw [(hdn 0).1, (hdn 0).2.1] at hP6
            exact hP6
          have HRY := hid (C.run hCy6 hPy (by have := HUB.out; omega) hat0 (HDV.out Ty HTY.out.1 L) (by unfold CP.N; omega))
          have HC6 := hid hC6
          have HT6 : Hid (∀ b ∈ T6, b ∈ Tz ∨ w5.heap.size ≤ b) := hT6
          have HTYL : Hid (∀ b ∈ Ty, b < w5.heap.size) := fun b hb => C.lt HCY.out b hb
          have hlow : ∀ T : List Nat, (∀ b ∈ T, wD.heap.size ≤ b) → ∀ n, ∀ b ∈ T ++ [(PQ n).p, (PQ n).a.s, (PQ n).a.k, (PQ n).a.m], b ∈ ([] : List Nat) ∨ W.heap.size ≤ b := fun T hT n b hb => by
            have h1 := HK4.out.size
            have h2 := HK2.out.size
            rcases List.mem_append.1 hb with h | h
            · have := hT b h
              exact .inr (by omega)
            · rw [(hdn n).1, (hdn n).2.1] at h
              refine .inr (HWB.out b ?_).1
              simp only [List.mem_cons, List.not_mem_nil, or_false] at h ⊢
              omega
          have HK6 : Hid (Keeps [] W w6) := ((HK4.out.trans HK2.out).trans HK5.out).new hk6 (hlow Tz HTY.out.2.1 0)
          have hbox6 : ∀ b, w3.heap.size ≤ b → b < wD.heap.size → b ∉ Tz ++ [(PQ 0).p, (PQ 0).a.s, (PQ 0).a.k, (PQ 0).a.m] := fun b h1 h2 h => by
            rcases List.mem_append.1 h with h | h
            · have := HTY.out.2.1 b h; omega
            · rw [(hdn 0).1, (hdn 0).2.1] at h
              have := (HWB.out b (by simp only [List.mem_cons, List.not_mem_nil, or_false] at h ⊢; omega)).2
              omega
          have hbox7 : ∀ b, w3.heap.size ≤ b → b < wD.heap.size → b ∉ Ty ++ [(PQ L).p, (PQ L).a.s, (PQ L).a.k, (PQ L).a.m] := fun b h1 h2 h => by
            rcases List.mem_append.1 h with h | h
            · have := HTY.out.1 b h; omega
            · rw [(hdn L).1, (hdn L).2.1] at h
              have := (HWB.out b (by simp only [List.mem_cons, List.not_mem_nil, or_false] at h ⊢; omega)).2
              omega
          have HK56 := hid hk6
          have HLOW := hid hlow
          have HBOX := hid (And.intro hbox6 hbox7)
          have HU6 := hid hu6
          clear hCy6 hat0 hPy hC6 hP6 hat6 hkp6 hT6 hk6 HRZ hlow hdn hbox6 hbox7 hu6
          go_wp2_with fail
          refine HRY.out.mono ?_
          rintro e w7 ⟨T7, u7, S7, rfl, hC7, hP7, hat7, hkp7, hu7, hT7, hk7⟩
          have hdn : ∀ n, (PQ n).p = p ∧ (PQ n).a = a ∧ (PQ n).S = S ∧ (PQ n).c = c ∧ (PQ n).k = 0 ∧ (PQ n).us = us := fun n => ⟨(HQ0.out n).1, (HQ0.out n).2.1, (HQ0.out n).2.2.1, (HQ0.out n).2.2.2.1, (HQ0.out n).2.2.2.2.1, (HQ0.out n).2.2.2.2.2.1⟩
          have hgs := lnkG_low c os G mn (by have := HFS.out; have := HUS.out; omega)
          have hwl : wsN L fA = alL c os back := by
            rw [HFA.out.1]
            unfold wsN alL
            rw [← HL.out]
            exact List.map_congr_left fun j _ => Int.toNat_natCast _
          have hLS : (PQ L).LS = alL c os back := by
            have h1 := HFF.out.all hgs back (m := []) (by simp)
            rw [List.append_nil] at h1
            rw [HFA.out.2.2]
            show rcF S c 0 us (wsN L fA) = _
            rw [hwl, HUS.out]
            exact h1
          have hcd := CP.fin hat7
          rw [hLS, (hdn L).2.2.1, (hdn L).2.2.2.1, (hdn L).2.2.2.2.1] at hcd
          have hcs : (PQ L).cs (PQ L).N = alL c os back := by rw [(PQ L).cs_end (by unfold CP.N; omega), hLS]
          have HCD := hid hcd
          have HP7 : Hid (Pw w7 p a (-1) u7 S7) := by
            rw [(hdn L).1, (hdn L).2.1] at hP7
            exact hP7
          have HK7 : Hid (Keeps [] W w7) := HK6.out.new hk7 (HLOW.out Ty HTY.out.1 L)
          have HWE : Hid (∀ w', Keeps [] w7 w' → ∀ v : Nat, v < 9223372036854775808 → Calls Tryz.prog 21 #[ptr yb, .int .u64 v] w' fun e w'' => e = .returned (.int .i64 (wtC S c 0 (alL c os back) v : Nat)) ∧ Keeps [] w' w'') := fun w' hk v hv => by
            have h := C.went (C.keep hC7 hk (by simp)) v hv
            rw [hcs, (hdn L).2.2.1, (hdn L).2.2.2.1, (hdn L).2.2.2.2.1] at h
            exact h
          have HBY : Hid (∀ w', Keeps [] w7 w' → Calls Tryz.prog 17 #[ptr yb] w' fun e w'' => (∃ q cq, e = .returned (bkV 1 us (.slice q c.roots cq))) ∧ Keeps [] w' w'') := fun w' hk => by
            refine (C.block (C.keep hC7 hk (by simp))).mono ?_
            rintro e w'' ⟨q, cq, rfl, _, hk'⟩
            rw [hcs, (hdn L).2.2.1, (hdn L).2.2.2.2.1, (HQ0.out L).2.2.2.2.2.2, alL_sz, HFF.out.sz_all, ← HUS.out]
            exact ⟨⟨q, cq, rfl⟩, hk'⟩
          have HBZ : Hid (∀ w', Keeps [] w7 w' → Calls Tryz.prog 17 #[ptr zb] w' fun e w'' => (∃ q cq, e = .returned (bkV 1 0 (.slice q c.roots cq))) ∧ Keeps [] w' w'') := fun w' hk => by
            have h6 : Col (PQ 0) w7 zb T6 (PQ 0).N := C.keep HC6.out hk7 (fun b hb h => by
              rcases List.mem_append.1 h with h | h
              · rcases HT6.out b hb with h1 | h1
                · exact HTY.out.2.2 b h h1
                · have := HTYL.out b h; omega
              · rcases HT6.out b hb with h1 | h1
                · refine HDV.out Tz HTY.out.2.1 L b h1 ?_
                  simp only [List.mem_cons, List.not_mem_nil, or_false] at h ⊢
                  omega
                · rw [(hdn L).1, (hdn L).2.1] at h
                  have h2 := (HWB.out b (by simp only [List.mem_cons, List.not_mem_nil, or_false] at h ⊢; omega)).2
                  have h3 := HK34.out.size
                  have h4 := HK2.out.size
                  have h5 := HK5.out.size
                  omega)
            refine (C.block (C.keep h6 hk (by simp))).mono ?_
            rintro e w'' ⟨q, cq, rfl, _, hk'⟩
            rw [(PQ 0).cs_end (by unfold CP.N; omega), HZ0.out, (hdn 0).2.2.2.2.1, (HQ0.out 0).2.2.2.2.2.2]
            exact ⟨⟨q, cq, rfl⟩, hk'⟩
          have hbx : ∀ {b : Nat} {o : Obj}, At w5 b o → w3.heap.size ≤ b → b < wD.heap.size → At w7 b o := fun h h1 h2 => hk7.at (HK56.out.at h (HBOX.out.1 _ h1 h2)) (HBOX.out.2 _ h1 h2)
          have HC7 := hid (hbx (HK5.out.at (HK2.out.at HC4.out (by simp)) (by simp)) (by have := HZ4.out; omega) (by have := HZ4.out; have := HK2.out.size; omega))
          have HB7 := hid (hbx (HK5.out.at (HK2.out.at HB4.out (by simp)) (by simp)) (by have := HZ4.out; omega) (by have := HZ4.out; have := HK2.out.size; omega))
          have HX7 : Hid (OwnU w7 w4.heap.size xx cc L fun j => ((alW c os back L j : Nat) : Int)) := by
            have h1 := HO2.out.keep HK5.out (by simp)
            have hb : ∀ b ∈ blkL xx, w3.heap.size ≤ b ∧ b < wD.heap.size := fun b hb => by
              have h2 := HO2.out.ge b hb
              have h3 := HK34.out.size
              exact ⟨by omega, h2.2⟩
            exact (h1.keep HK56.out fun b h => HBOX.out.1 b (hb b h).1 (hb b h).2).keep hk7 fun b h => HBOX.out.2 b (hb b h).1 (hb b h).2
          clear hdn hgs hwl hLS hcd hcs hC7 hP7 hat7 hkp7 hu7 hT7 hk7 hbx HRY
          have c0 := HC7.out.cell 0 rfl
          have c1 := HC7.out.cell 1 rfl
          have c2 := HC7.out.cell 2 rfl
          go_wp2_with fail
          refine (from_at w7 c HO.out.small 1 (by omega)).mono ?_
          rintro e w8 ⟨rfl, hk8⟩
          have HK8 := hid hk8
          clear hk8 c0 c1 c2
          go_wp2_with fail
          have HFR : Hid (∀ j, c.frm 0 ≤ j → j < c.frm 0 + us → S7.now j = S.now j) := fun j h1 h2 => by
            refine HCD.out.rest j fun h => ?_
            have h3 : c.frm 0 + c.space ≤ c.frm 1 := by
              have h2 := (up8_le c.space).1
              have h4 : ∀ k, c.frm k = up8 (c.root c.roots) + k * up8 c.space := fun _ => rfl
              rw [h4, h4]
              omega
            have h4 := HFS.out.1
            have h5 : c.frm (1 - 0) = c.frm 1 := rfl
            omega
          go_loopg [18, 78] L (fun rr s18 s78 wr => ∃ i : Nat, i + rr = L ∧ s78 = .int .i64 i ∧ s18 = .int .i64 (plC S c 0 (alL c os back) i : Nat) ∧ Keeps [] w8 wr)
          case atStart => exact ⟨0, by omega, rfl, rfl, Keeps.refl _ _⟩
          case round =>
            obtain ⟨i, hi, rfl, rfl, hK⟩ := hrel
            obtain ⟨wE, hwE⟩ : ∃ wE, wE = wr := ⟨_, rfl⟩
            subst hwE
            obtain ⟨pl, hpl⟩ : ∃ pl, pl = plC S c 0 (alL c os back) i := ⟨_, rfl⟩
            rw [← hpl]
            have hK78 := HK8.out.trans hK
            have hCr := hK78.at HC7.out (by simp)
            have hBr := hK78.at HB7.out (by simp)
            by_cases hil : i < L
            · obtain ⟨g, cur, rfl, hgB, hgA, hgc⟩ := HX7.out.form.resolve_left (by omega)
              obtain ⟨v, hv⟩ : ∃ v, v = alW c os back L i := ⟨_, rfl⟩
              have d0 : wE.cell? ⟨g, i, none⟩ = some (.int .u64 (v : Nat)) := by rw [hv]; exact (hK78.at hgA (by simp)).cell i (hgc i hil)
              have hal : (alL c os back)[i]? = some v := by
                rw [hv, HL.out]
                unfold alL
                rw [List.getElem?_map, List.getElem?_range (by rw [← HL.out]; exact hil)]
                rfl
              have hvb : v ≤ 100000 := by rw [hv]; exact HALB.out i hil
              obtain ⟨k, hk, hvk⟩ := stW_mem.1 (alL_mem.1 (List.mem_of_getElem? hal))
              have hob := HFF.out.ob hk
              rw [← hvk, ← HUS.out] at hob
              have hob7 : obW S7 c 0 us v = some (nL os k, rL os k) := by rw [ob_same HFR.out]; exact hob
              obtain ⟨nn, hnn⟩ : ∃ nn, nn = nL os k := ⟨_, rfl⟩
              obtain ⟨rr, hrr⟩ : ∃ rr, rr = rL os k := ⟨_, rfl⟩
              rw [← hnn, ← hrr] at hob7 hob
              obtain ⟨f1, f2, f3, f4, f5, f6⟩ := ob_few hob
              have hpl1 : plC S c 0 (alL c os back) (i + 1) = pl + (nn + 1) := by rw [plC_succ hal, ← hpl, f5]
              have hplb : pl ≤ 1000000 := by
                have h1 := plC_end (S := S) (c := c) (k := 0) hal
                rw [alL_sz, HFF.out.sz_all, ← HUS.out, ← hpl] at h1
                have h2 := frm_le HO.out.small (show 1 ≤ 2 by omega)
                have h3 : c.frm (1 - 0) = c.frm 1 := rfl
                have h4 := HFS.out
                omega
              have HW9 := hid (HWE.out wE hK78 v (by omega))
              rw [wtC_at (alL_nodup c os back) hal, ← hpl] at HW9
              have HOF := hid (fun w' (hk' : Keeps [] wE w') => of_ob w' p a S7 (HP7.out.dev.keep (hK78.trans hk') (by simp) (by simp) (by simp) (by simp)) c HO.out HN.out 0 (by omega) us HFS.out.1 (.slice x c.roots cp) (v : Nat) (by omega) (fun j h1 h2 => by rw [HFR.out j h1 h2]; exact HX.out j h1 h2))
              have e1 : IntKind.i64.wrap (v : Int) = (v : Int) := IntWalk.i64_in _ (by omega)
              have e2 : IntKind.i64.wrap ((pl : Int) + ((nn : Int) + 1)) = (pl : Int) + ((nn : Int) + 1) := IntWalk.i64_in _ (by omega)
              have HII := hid (And.intro hi (And.intro hil (And.intro hpl1 (And.intro hob7 (And.intro f3 f4)))))
              have HCR := hid (And.intro hCr hBr)
              have HKE := hid hK
              have hii : (i : Int) < (L : Int) := by omega
              clear hgB hgA hgc hv hal hvb hk hvk hob hob7 hnn hrr f1 f2 f3 f4 f5 f6 hpl hpl1 hplb hi hil hK hK78 hCr hBr
              go_wp2_with fail
              refine HW9.out.mono ?_
              rintro e w9 ⟨rfl, hk9⟩
              have HK9 := hid hk9
              have hC9 := hk9.at HCR.out.1 (by simp)
              have hB9 := hk9.at HCR.out.2 (by simp)
              have c0 := hC9.cell 0 rfl
              have c1 := hC9.cell 1 rfl
              have c2 := hC9.cell 2 rfl
              have b0 := hB9.cell 0 rfl
              have b1 := hB9.cell 1 rfl
              have b2 := hB9.cell 2 rfl
              clear hk9 hC9 hB9 d0
              go_wp2_with fail
              refine (HOF.out w9 HK9.out).mono ?_
              rintro e w10 ⟨hO10, hk10⟩
              rcases hO10 with ⟨X2, n2, r2, hX2, hob2, rfl⟩ | ⟨hno, _⟩
              case inr =>
                have h1 := hno v rfl
                rw [HII.out.2.2.2.1] at h1
                exact Bool.noConfusion h1
              obtain rfl : v = X2 := by omega
              rw [HII.out.2.2.2.1] at hob2
              injection hob2 with hob2
              injection hob2 with h1 h2
              subst h1
              subst h2
              have hO11 := At.new w10 (obO (nn : Nat) (rr : Nat) (v : Nat))
              have k11 : Keeps [] w9 (w10.alloc (obO (nn : Nat) (rr : Nat) (v : Nat))) := hk10.alloc _
              obtain ⟨ob1, hob1⟩ : ∃ q, q = w10.heap.size := ⟨_, rfl⟩
              obtain ⟨w11, hw11⟩ : ∃ w11, w11 = w10.alloc (obO (nn : Nat) (rr : Nat) (v : Nat)) := ⟨_, rfl⟩
              rw [← hw11] at hO11 k11
              rw [← hob1] at hO11
              have HO11 := hid hO11
              have HK11 : Hid (Keeps [] w8 w11) := (HKE.out.trans HK9.out).trans k11
              clear hX2 hO11 k11 hk10 c0 c1 c2 b0 b1 b2 HOF HW9
              go_upto_region 28 with fail
              first | rw [← hw11] | skip
              first | rw [← hob1] | skip
              clear hw11 hob1
              have o0 := HO11.out.cell 0 rfl
              have o1 := HO11.out.cell 1 rfl
              go_wp2_with fail
              refine (hsize_at w11 nn rr (by have := HII.out; omega)).mono ?_
              rintro e w12 ⟨rfl, hk12⟩
              have HK12 : Hid (Keeps [] w8 w12) := HK11.out.trans hk12
              have HPL : Hid ((pl : Int) + ((nn : Int) + 1) = ((plC S c 0 (alL c os back) (i + 1) : Nat) : Int)) := by
                show _ = _
                rw [HII.out.2.2.1]
                omega
              clear hk12 o0 o1
              go_wp2_with fail
              go_roundg (L - (i + 1))
              case measure => (have := HII.out; omega)
              case rel => exact ⟨i + 1, by have := HII.out; omega, by go_num, by rw [← HPL.out], HK12.out⟩
            · have hie : L = i := by omega
              have hnf : ¬ (i : Int) < (L : Int) := by omega
              have HKE := hid hK78
              have HBR := hid hBr
              have b1 := hBr.cell 1 rfl
              have hf1 : ∀ (w : World) (k u : Int) (rs : Value), (Instr.field 33 (bkV k u rs) 1).run Tryz.prog w = .ok (.int .i64 u) w := fun w k u rs => by kernel_rfl
              clear hi hil hie hK hK78 hCr hBr hpl
              go_upto_region 30 with fail
              have HBC := hid (fun (w' : World) (kk : Keeps [] wE w') => show w'.cell? ⟨bb, 1, none⟩ = some (.int .i64 us) from (kk.at HBR.out (by simp)).cell 1 rfl)
              have kk : Keeps [] wE wE.drew := (Keeps.refl [] wE).drew
              clear b1
              go_region_held3 (fun w' => w'.cell? ⟨bb, 1, none⟩ = some (.int .i64 us))
                (first | exact HBC.out _ k3 | exact HBC.out _ k2 | exact HBC.out _ kk)
                (first
                  | (go_at_call 17; refine (HBZ.out _ (HKE.out.trans k2)).mono ?_; rintro e w' ⟨⟨q2, cq2, rfl⟩, hk2⟩; have k3 := k2.trans hk2)
                  | (go_at_call 17; refine (HBY.out _ (HKE.out.trans kk)).mono ?_; rintro e w' ⟨⟨q1, cq1, rfl⟩, hk1⟩; have k2 := kk.trans hk1))
              all_goals
                have HE : Hid (Below W.heap.size W w') := ((HK7.out.trans HKE.out).trans k3).below (Nat.le_refl _) (by simp)
                go_wp2_with fail
                go_ret
                exact ⟨rfl, HE.out⟩

theorem cheneyAll_walk (l r s : Int) (y : Option Addr) (m cm : Nat) (z : Nat → Nat → Int) (y1 : Option Addr) (mn cn : Nat) (g : Nat → Int) (back : Bool) (W : World) (wl : (Lit.int .u16 l).wf = true) (wr : (Lit.int .u16 r).wf = true) (ws : (Lit.int .u16 s).wf = true)
    (R2 : m * 2 = 0 ∨ ∃ b off, y = some ⟨b, off, none⟩ ∧ b < W.heap.size ∧ ∀ i j, i < m → j < 2 → W.cell? ⟨b, off + (i * 2 + j), none⟩ = some (.int ((fun j => if j = 0 then IntKind.u8 else IntKind.u8) j) (z i j)) ∧ (Lit.int ((fun j => if j = 0 then IntKind.u8 else IntKind.u8) j) (z i j)).wf = true) (hm : m ≤ maxLen)
    (R : ReadsV (Value.int .u16) W y1 mn g) (hg : ∀ i, i < mn → (Lit.int .u16 (g i)).wf = true) (hmn : mn ≤ maxLen) :
    Calls Tryz.prog 6 #[.agg #[.int .u16 l, .int .u16 r, .int .u16 s], .slice y m cm, .slice y1 mn cn, .bool back] W fun e w' => e = .returned (.bool true) ∧ Below W.heap.size W w' := by
  obtain ⟨l, rfl, hl⟩ := c3_open wl
  obtain ⟨r, rfl, hr⟩ := c3_open wr
  obtain ⟨s, rfl, hs⟩ := c3_open ws
  exact call_small colC_is l r s y m cm _ _ y1 mn cn _ back W hl hr hs (readsH_of R2) (by unfold maxLen at hm; omega) (reads16_any R hg) (by unfold maxLen at hmn; omega)

end Go.Proofs.YtbalmmnggfgpkaaGreat

