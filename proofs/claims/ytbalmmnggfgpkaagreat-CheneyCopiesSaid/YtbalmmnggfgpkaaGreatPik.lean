/- Some words: the law's own row of them. -/
import Derived.Test.YtbalmmnggfgpkaaGreatRob
import Derived.BigQuiet
namespace Go.Proofs.YtbalmmnggfgpkaaGreat
open Go.RowKit Go.OpenShut

/-- One of them. -/
def pkV (G P : Nat → Nat) (n i : Nat) : Nat := if G i % 6 = 0 ∨ n = 0 then G i / 6 else P (G i / 6 % n)

theorem pkV_le {G P : Nat → Nat} {n i : Nat} (hG : G i ≤ 65535) (hP : ∀ j, j < n → P j ≤ 100000) : pkV G P n i ≤ 100000 := by
  unfold pkV
  split
  · omega
  · rename_i h
    exact hP _ (Nat.mod_lt _ (by omega))

theorem pick_end {w wr w9 : World} {x : Option Addr} {cp i g9 cap9 v : Nat} {G P : Nat → Nat} {n : Nat} (hK : Keeps [] w wr) (hO : OwnU wr w.heap.size x cp i (fun i => (pkV G P n i : Nat)))
    (hO9 : OwnU w9 w.heap.size (some ⟨g9, 0, none⟩) cap9 (i + 1) (put (fun i => ((pkV G P n i : Nat) : Int)) i ((v : Nat) : Int))) (hk9 : Keeps (blkL x) (wr.alloc (.cells #[.int .u64 (v : Nat)] 40)) w9) (hv : pkV G P n i = v) :
    OwnU w9 w.heap.size (some ⟨g9, 0, none⟩) cap9 (i + 1) (fun i => (pkV G P n i : Nat)) ∧ Keeps [] w w9 := by
  refine ⟨hO9.eq fun j hj => ?_, (hK.trans ((Keeps.refl [] wr).alloc _)).new hk9 fun b hb => .inr (hO.ge b hb).1⟩
  unfold put
  by_cases hji : j = i
  · rw [if_pos hji, hji, hv]
  · rw [if_neg hji]

set_option maxRecDepth 100000 in
set_option maxHeartbeats 4000000 in
theorem pick_at (w : World) (px y : Option Addr) (n cn m cm : Nat) (G P : Nat → Nat) (hG : ReadsW w y m G) (hP : ReadsN w px n P) (hPb : ∀ i, i < n → P i ≤ 100000) (hm : m ≤ 1000) (hn : n ≤ 1000000) :
    Calls Tryz.prog 11 #[.slice px n cn, .slice y m cm] w fun e w' => ∃ x cp, e = .returned (.slice x m cp) ∧ OwnU w' w.heap.size x cp m (fun i => (pkV G P n i : Nat)) ∧ Keeps [] w w' := by
  have hmi : (m : Int) ≤ 1000 := by omega
  have hni : (n : Int) ≤ 1000000 := by omega
  have HG := hid hG
  have HP := hid hP
  have HPB := hid hPb
  clear hG hP hPb
  go_enter Tryz.func11, Tryz.ntmps11
  go_wp2_with fail
  go_loopg [5, 10] m (fun rr s5 s10 wr => ∃ (i : Nat) (x : Option Addr) (cp : Nat), i + rr = m ∧ s10 = .int .i64 i ∧ s5 = .slice x i cp ∧ OwnU wr w.heap.size x cp i (fun i => (pkV G P n i : Nat)) ∧ Keeps [] w wr)
  case atStart => exact ⟨0, none, 0, by omega, rfl, rfl, ownU_nil _ _ _, Keeps.refl _ _⟩
  case round =>
    obtain ⟨i, x, cp, hi, rfl, rfl, hO, hK⟩ := hrel
    have HO := hid hO
    have HK := hid hK
    by_cases hil : i < m
    · obtain ⟨b, off, rfl, hb, hcl⟩ := HG.out.resolve_left (by omega)
      obtain ⟨hc0, hg⟩ := hcl i hil
      have d0 := (hK.cell hb (by simp)).trans hc0
      obtain ⟨gi, hgi⟩ : ∃ gi, gi = G i := ⟨_, rfl⟩
      rw [← hgi] at d0 hg
      obtain ⟨g6, hg6⟩ : ∃ g6, g6 = gi % 6 := ⟨_, rfl⟩
      obtain ⟨gq, hgq⟩ : ∃ gq, gq = gi / 6 := ⟨_, rfl⟩
      have e1 : (gi : Int) % 6 = (g6 : Int) := by omega
      have e2 : (gi : Int).tmod 6 = (g6 : Int) := by rw [Int.tmod_eq_emod_of_nonneg (by omega)]; exact e1
      have e3 : IntKind.u16.wrap (g6 : Int) = (g6 : Int) := IntWalk.u16_in _ (by omega)
      have e4 : (gi : Int) / 6 = (gq : Int) := by omega
      have e5 : (gi : Int).tdiv 6 = (gq : Int) := by rw [Int.tdiv_eq_ediv_of_nonneg (by omega)]; exact e4
      have e6 : IntKind.u16.wrap (gq : Int) = (gq : Int) := IntWalk.u16_in _ (by omega)
      have e7 : IntKind.i64.wrap (gq : Int) = (gq : Int) := IntWalk.i64_in _ (by omega)
      have e8 : IntKind.u64.wrap (gq : Int) = (gq : Int) := IntWalk.u64_in _ (by omega)
      have hgb : (gq : Int) ≤ 65535 := by omega
      have hg6b : (g6 : Int) ≤ 5 := by omega
      have hii : (i : Int) < (m : Int) := by omega
      have hi1 : i ≤ 100000 := by omega
      have hbw : w.heap.size ≤ wr.heap.size := hK.size
      have HGI := hid (And.intro hgi (And.intro hg6 hgq))
      have HI := hid (And.intro hi hil)
      clear hgi hg6 hgq hi hil hcl hc0 hb hO hK hg
      by_cases h6 : g6 = 0
      · subst h6
        have HVV : Hid (pkV G P n i = gq) := by
          show _ = _
          unfold pkV
          rw [if_pos (.inl (by rw [← HGI.out.1, ← HGI.out.2.1])), ← HGI.out.1, ← HGI.out.2.2]
        have hcX := (At.new wr (.cells #[.int .u64 (gq : Nat)] 40)).cell 0 rfl
        have HOX := hid (HO.out.keep ((Keeps.refl [] wr).alloc (.cells #[.int .u64 (gq : Nat)] 40)) (by simp))
        have hBX : w.heap.size ≤ (wr.alloc (.cells #[.int .u64 (gq : Nat)] 40)).heap.size := by simp only [World.size_alloc]; omega
        go_wp2_with (at_builtin; refine appU_many rfl _ _ rfl w.heap.size x cp i _ rfl HOX.out _ _ (gq : Nat) rfl hcX hi1 hBX ?_; intro g9 cap9 w9 hO9 hk9 hg9)
        have HE := hid (pick_end (v := gq) HK.out HO.out hO9 hk9 HVV.out)
        clear hO9 hk9 hg9
        go_roundg (m - (i + 1))
        case measure => (have := HI.out; omega)
        case rel => exact ⟨i + 1, some ⟨g9, 0, none⟩, cap9, by have := HI.out; omega, by go_num, rfl, HE.out⟩
      have t1 : ((g6 : Int) == 0) = false := by rw [beq_eq_false_iff_ne]; omega
      by_cases h0 : n = 0
      · subst h0
        have HVV : Hid (pkV G P 0 i = gq) := by
          show _ = _
          unfold pkV
          rw [if_pos (.inr rfl), ← HGI.out.1, ← HGI.out.2.2]
        clear h6
        have hcX := (At.new wr (.cells #[.int .u64 (gq : Nat)] 40)).cell 0 rfl
        have HOX := hid (HO.out.keep ((Keeps.refl [] wr).alloc (.cells #[.int .u64 (gq : Nat)] 40)) (by simp))
        have hBX : w.heap.size ≤ (wr.alloc (.cells #[.int .u64 (gq : Nat)] 40)).heap.size := by simp only [World.size_alloc]; omega
        go_wp2_with (at_builtin; refine appU_many rfl _ _ rfl w.heap.size x cp i _ rfl HOX.out _ _ (gq : Nat) rfl hcX hi1 hBX ?_; intro g9 cap9 w9 hO9 hk9 hg9)
        have HE := hid (pick_end (v := gq) HK.out HO.out hO9 hk9 HVV.out)
        clear hO9 hk9 hg9
        go_roundg (m - (i + 1))
        case measure => (have := HI.out; omega)
        case rel => exact ⟨i + 1, some ⟨g9, 0, none⟩, cap9, by have := HI.out; omega, by go_num, rfl, HE.out⟩
      have t2 : ((n : Int) == 0) = false := by rw [beq_eq_false_iff_ne]; omega
      have t3 : ¬ (n : Int) = 0 := by omega
      obtain ⟨bx, ox, rfl, hbx, hcx⟩ := HP.out.resolve_left h0
      obtain ⟨gn, hgn⟩ : ∃ gn, gn = gq % n := ⟨_, rfl⟩
      have hgl : gn < n := by rw [hgn]; exact Nat.mod_lt _ (by omega)
      have f1 : (gq : Int).tmod (n : Int) = (gn : Int) := by rw [hgn]; exact (Int.ofNat_tmod gq n).symm
      have f2 : (gq : Int) % (n : Int) = (gn : Int) := by rw [hgn]; exact (Int.natCast_emod gq n).symm
      have f3 : IntKind.i64.wrap (gn : Int) = (gn : Int) := IntWalk.i64_in _ (by omega)
      have f4 : IntKind.i64.wrap ((gq : Int).tmod (n : Int)) = (gn : Int) := by rw [f1]; exact f3
      have hgi2 : (gn : Int) < (n : Int) := by omega
      obtain ⟨pv, hpv⟩ : ∃ pv, pv = P gn := ⟨_, rfl⟩
      have d1 := (HK.out.cell hbx (by simp)).trans (hcx gn hgl)
      rw [← hpv] at d1
      have hpb : (pv : Int) ≤ 100000 := by have := HPB.out gn hgl; omega
      have f5 : IntKind.u64.wrap (pv : Int) = (pv : Int) := IntWalk.u64_in _ (by omega)
      have HVV : Hid (pkV G P n i = pv) := by
        show _ = _
        unfold pkV
        rw [if_neg (by rw [← HGI.out.1, ← HGI.out.2.1]; omega), ← HGI.out.1, ← HGI.out.2.2, ← hgn, hpv]
      clear hgn hgl hpv hbx hcx h6 h0
      ·
        have hcX := (At.new wr (.cells #[.int .u64 (pv : Nat)] 40)).cell 0 rfl
        have HOX := hid (HO.out.keep ((Keeps.refl [] wr).alloc (.cells #[.int .u64 (pv : Nat)] 40)) (by simp))
        have hBX : w.heap.size ≤ (wr.alloc (.cells #[.int .u64 (pv : Nat)] 40)).heap.size := by simp only [World.size_alloc]; omega
        go_wp2_with (at_builtin; refine appU_many rfl _ _ rfl w.heap.size x cp i _ rfl HOX.out _ _ (pv : Nat) rfl hcX hi1 hBX ?_; intro g9 cap9 w9 hO9 hk9 hg9)
        have HE := hid (pick_end (v := pv) HK.out HO.out hO9 hk9 HVV.out)
        clear hO9 hk9 hg9
        go_roundg (m - (i + 1))
        case measure => (have := HI.out; omega)
        case rel => exact ⟨i + 1, some ⟨g9, 0, none⟩, cap9, by have := HI.out; omega, by go_num, rfl, HE.out⟩
    · have hie : i = m := by omega
      subst hie
      clear hi hil hO hK
      go_wp2_with fail
      go_ret
      exact ⟨x, cp, rfl, HO.out, HK.out⟩

end Go.Proofs.YtbalmmnggfgpkaaGreat

