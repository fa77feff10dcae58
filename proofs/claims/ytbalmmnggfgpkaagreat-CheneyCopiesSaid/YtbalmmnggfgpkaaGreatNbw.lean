/- The law's own function that sets objects' numbers. -/
import Derived.Test.YtbalmmnggfgpkaaGreatCpk
import Derived.BigQuiet
namespace Go.Proofs.YtbalmmnggfgpkaaGreat
open Go.RowKit Go.OpenShut

/-- What it leaves. -/
def NbwP (p : Nat) (a : DA) (u : Int) (S : DS) (c : Cfg) (os : List (Nat × Nat)) (w : World) (e : Ending) (w' : World) : Prop :=
  e = .returned (.tuple #[]) ∧ ∃ u' S', Pw w' p a (-1) u' S' ∧ u' ≤ u + 64 * (os.length : Int) ∧ NmdP S S' c os os.length 0 ∧ Keeps [p, a.s, a.k, a.m] w w'

set_option maxRecDepth 100000 in
set_option maxHeartbeats 4000000 in
theorem numbered_at (w : World) (p : Nat) (a : DA) (u : Int) (S : DS) (hP : Pw w p a (-1) u S) (hub : u ≤ 1000000) (c : Cfg) (hc : c.Ok) (hcn : c.words = a.n) (os : List (Nat × Nat)) (g : Nat → Int) (hL : LnkS c a.n os g S) (hg : ∀ q, ∃ v : Nat, g q = (v : Int) ∧ v < 18446744073709551616) (rs : Value)
    (y : Option Addr) (cy B L : Nat) (hLo : L = os.length) (hLb : L ≤ 100) (hI : OwnI w B y cy L (fun j => c.frm 0 + posL os j)) (hap : ∀ b ∈ blkL y, b ∉ [p, a.s, a.k, a.m]) (us : Nat) (hus : us = lenL os) :
    Calls Tryz.prog 10 #[ptr a.d, cfgV c, bkV 0 us rs, .slice y L cy] w (NbwP p a u S c os w) := by
  have hsp := hc.small.2.2
  have hfr := frm_le hc.small (show 0 ≤ 2 by omega)
  have hfs : c.frm 0 + c.space ≤ a.n := by rw [← hcn]; exact frm_space 0 (by omega)
  have hfit := hL.fits
  have hwd := hL.wd hsp hg
  have hf16 : ∀ i, nL os i ≤ 8 ∧ rL os i ≤ nL os i := few_at hL.few
  have hend : ∀ k, k < L → c.frm 0 + posL os k + 1 + nL os k ≤ c.frm 0 + us := fun k hk => by
    have := posN_end (l := os) (i := k) (by omega)
    omega
  -- words are words, whatever was set
  have hwx : ∀ (S' : DS) (K I : Nat), NmdP S S' c os K I → ∀ j : Nat, c.frm 0 ≤ j → j < c.frm 0 + us → ∃ x : Nat, S'.now j = (x : Int) ∧ x < 18446744073709551616 := fun S' K I hN j h1 h2 => by
    obtain ⟨k, t, hk, ht, he⟩ := pos_ex os (j - c.frm 0) (by omega)
    by_cases hd : ∃ k i, k < os.length ∧ rL os k ≤ i ∧ i < nL os k ∧ (k < K ∨ k = K ∧ i < I) ∧ j = c.frm 0 + posL os k + 1 + i
    · obtain ⟨k, i, g1, g2, g3, g4, rfl⟩ := hd
      have := hf16 k
      exact ⟨1000 * k + i, hN.1 k i g1 g2 g3 g4, by omega⟩
    · rw [hN.2 j fun k i g1 g2 g3 g4 e => hd ⟨k, i, g1, g2, g3, g4, e⟩]
      exact hwd.sp j h1 (by omega)
  have HOB := hid (fun (S' : DS) (K I : Nat) (hN : NmdP S S' c os K I) (k : Nat) (hk : k < L) => show obW S' c 0 us (c.frm 0 + posL os k) = some (nL os k, rL os k) by
    rw [hus, hN.ob hL hsp]
    exact hL.ob (by omega))
  have HWX := hid hwx
  have HF16 := hid hf16
  have HEND := hid hend
  have HO := hid hc
  have HN := hid hcn
  have HFS := hid (And.intro hsp (And.intro hfr (And.intro hfs (show us ≤ c.space by omega))))
  have HL := hid hLo
  have hLi : (L : Int) ≤ 100 := by omega
  have HUB := hid hub
  have HAP := hid hap
  clear hsp hfr hfs hfit hwd hf16 hend hwx hc hcn hL hg hLo hLb hub hus hap
  go_enter Tryz.func10, Tryz.ntmps10
  go_upto_region 1 with fail
  have hC1 := (At.new w (cfgO c)).alloc (bkO 0 (us : Nat) rs)
  have hB1 := At.new (w.alloc (cfgO c)) (bkO 0 (us : Nat) rs)
  have k01 := ((Keeps.refl [] w).alloc (cfgO c)).alloc (bkO 0 (us : Nat) rs)
  simp only [World.size_alloc] at hB1
  obtain ⟨w1, hw1⟩ : ∃ w1, w1 = (w.alloc (cfgO c)).alloc (bkO 0 (us : Nat) rs) := ⟨_, rfl⟩
  rw [← hw1] at hC1 hB1 k01
  first | rw [← hw1] | skip
  obtain ⟨cb, hcb⟩ : ∃ q, q = w.heap.size := ⟨_, rfl⟩
  obtain ⟨bb, hbb⟩ : ∃ q, q = w.heap.size + 1 := ⟨_, rfl⟩
  rw [← hbb, ← hcb]
  rw [← hcb] at hC1
  rw [← hbb] at hB1
  have HP1 := hid (hP.keep0 k01)
  have HI1 := hid (hI.keep k01 (by simp))
  have HC1 := hid hC1
  have HB1 := hid hB1
  have HK1 := hid k01
  have hpl : ∀ b ∈ [p, a.s, a.k, a.m], b < w.heap.size := fun b hb => by
    simp only [List.mem_cons, List.not_mem_nil, or_false] at hb
    have h1 := hP.pow.lt
    have h2 := hP.dev.now.lt
    have h3 := hP.dev.kept.lt
    have h4 := hP.dev.map.lt
    omega
  have HCB : Hid (cb ∉ [p, a.s, a.k, a.m] ∧ bb ∉ [p, a.s, a.k, a.m]) := ⟨fun h => by have := hpl _ h; omega, fun h => by have := hpl _ h; omega⟩
  have HPL : Hid (∀ b ∈ [p, a.s, a.k, a.m], b < w1.heap.size) := fun b hb => Nat.lt_of_lt_of_le (hpl b hb) k01.size
  clear hw1 hcb hbb hC1 hB1 k01 hpl hP hI
  go_wp2_with fail
  go_loopg [15] L (fun rr s15 wr => ∃ (k : Nat) (u' : Int) (S' : DS), k + rr = L ∧ s15 = .int .i64 k ∧ Pw wr p a (-1) u' S' ∧ u' ≤ u + 64 * (k : Int) ∧ NmdP S S' c os k 0 ∧ Keeps [p, a.s, a.k, a.m] w1 wr)
  case atStart => exact ⟨0, u, S, by omega, rfl, HP1.out, by omega, nmdP_start S c os, Keeps.refl _ _⟩
  case round =>
    obtain ⟨k, u', S', hk, rfl, hPw, hu, hN, hK⟩ := hrel
    by_cases hkl : k < L
    · obtain ⟨gy, rfl, hgB, hgl, hgc⟩ := HI1.out.cell (by omega)
      obtain ⟨X, hX⟩ : ∃ X, X = c.frm 0 + posL os k := ⟨_, rfl⟩
      have d0 : wr.cell? ⟨gy, k, none⟩ = some (.int .i64 (X : Nat)) := by rw [hX]; exact (hK.cell hgl (HAP.out gy (by simp [blkL]))).trans (hgc k hkl)
      have hCw := hK.at HC1.out HCB.out.1
      have hBw := hK.at HB1.out HCB.out.2
      obtain ⟨nn, hnn⟩ : ∃ nn, nn = nL os k := ⟨_, rfl⟩
      obtain ⟨rr, hrr⟩ : ∃ rr, rr = rL os k := ⟨_, rfl⟩
      have hob := HOB.out S' k 0 hN k hkl
      rw [← hX, ← hnn, ← hrr] at hob
      have hXi : (X : Int) ≤ 30000 := by have := HEND.out k hkl; have := HFS.out; omega
      have hnr := HF16.out k
      rw [← hnn, ← hrr] at hnr
      have hXe : X + 1 + nn ≤ c.frm 0 + us := by rw [hX, hnn]; exact HEND.out k hkl
      have HOF := hid (of_ob wr p a S' hPw.dev c HO.out HN.out 0 (by omega) us HFS.out.2.2.2 rs (X : Nat) (by omega) (HWX.out S' k 0 hN))
      have HXR := hid (And.intro hX (And.intro hnn hrr))
      have hNl := hN.low (I := rr) (by rw [hrr]; exact Nat.le_refl _)
      have HNN := hid hNl
      have HPW := hid hPw
      have HUU := hid hu
      have HKW := hid hK
      have HKK := hid (And.intro hk hkl)
      have HOBB := hid hob
      have HXE := hid hXe
      have hnni : (nn : Int) ≤ 8 := by omega
      have hrni : (rr : Int) ≤ (nn : Int) := by omega
      have hki : (k : Int) < (L : Int) := by omega
      have c0 := hCw.cell 0 rfl
      have c1 := hCw.cell 1 rfl
      have c2 := hCw.cell 2 rfl
      have b0 := hBw.cell 0 rfl
      have b1 := hBw.cell 1 rfl
      have b2 := hBw.cell 2 rfl
      clear hgB hgl hgc hX hCw hBw hnn hrr hob hnr hXe hNl hPw hu hK hk hkl hN
      go_wp2_with fail
      refine HOF.out.mono ?_
      rintro e w2 ⟨hO2, hk2⟩
      rcases hO2 with ⟨X2, n2, r2, hX2, hob2, rfl⟩ | ⟨hno, _⟩
      case inr =>
        have h1 := hno X rfl
        rw [HOBB.out] at h1
        exact Bool.noConfusion h1
      obtain rfl : X = X2 := by omega
      rw [HOBB.out] at hob2
      injection hob2 with hob2
      injection hob2 with h1 h2
      subst h1
      subst h2
      have hO3 := At.new w2 (obO (nn : Nat) (rr : Nat) (X : Nat))
      have k23 : Keeps [] wr (w2.alloc (obO (nn : Nat) (rr : Nat) (X : Nat))) := hk2.alloc _
      obtain ⟨ob, hobq⟩ : ∃ q, q = w2.heap.size := ⟨_, rfl⟩
      obtain ⟨w3, hw3⟩ : ∃ w3, w3 = w2.alloc (obO (nn : Nat) (rr : Nat) (X : Nat)) := ⟨_, rfl⟩
      have hobw : wr.heap.size ≤ ob := by rw [hobq]; exact hk2.size
      rw [← hw3] at hO3 k23
      rw [← hobq] at hO3
      have HO3 := hid hO3
      have HP3 := hid (HPW.out.keep0 k23)
      have HK3 : Hid (Keeps [p, a.s, a.k, a.m] w1 w3) := HKW.out.trans (k23.mono (by simp))
      have HOBN : Hid (ob ∉ [p, a.s, a.k, a.m]) := fun h => by have h1 := HPL.out _ h; have h2 := HKW.out.size; omega
      have o0 := hO3.cell 0 rfl
      have o1 := hO3.cell 1 rfl
      clear hX2 hO3 k23 hk2 hobw c0 c1 c2 b0 b1 b2 d0 HOF
      go_upto_region 5 with fail
      first | rw [← hw3] | skip
      first | rw [← hobq] | skip
      clear hw3 hobq
      go_wp2_with fail
      obtain ⟨wO, hwO⟩ : ∃ wO, wO = wr := ⟨_, rfl⟩
      subst hwO
      clear o0 o1
      go_loopg [12] (nn - rr) (fun t s12 wv => ∃ (i : Nat) (u2 : Int) (S2 : DS), i + t = nn ∧ rr ≤ i ∧ s12 = .int .i64 i ∧ Pw wv p a (-1) u2 S2 ∧ u2 ≤ u' + (i : Int) ∧ NmdP S S2 c os k i ∧ Keeps [p, a.s, a.k, a.m] w3 wv)
      case atStart => exact ⟨rr, u', S', by omega, Nat.le_refl _, rfl, HP3.out, by omega, HNN.out, Keeps.refl _ _⟩
      case round =>
        obtain ⟨i, u2, S2, hi, hri, rfl, hP2, hu2, hN2, hK2⟩ := hrel
        have hO := hK2.at HO3.out HOBN.out
        by_cases hin : i < nn
        · have hini : (i : Int) < (nn : Int) := by omega
          have hrii : (rr : Int) ≤ (i : Int) := by omega
          have hkk := HKK.out
          have hxe := HXE.out
          have hfs := HFS.out
          have hub2 : u2 ≤ 1000000000000 := by have := HUB.out; have := HUU.out; omega
          have HWR := hid (owrite_free wr p a u2 S2 hP2 hub2 nn rr X i (1000 * (k : Int) + (i : Int)) ⟨by omega, by omega⟩ ⟨by omega, by omega⟩)
          rw [show fldE nn rr i false = 0 from fldE_in (by omega) hini (by simp; omega)] at HWR
          have e1 : IntKind.u64.wrap (1000 * (k : Int) + (i : Int)) = 1000 * (k : Int) + (i : Int) := IntWalk.u64_in _ (by omega)
          have o0 := hO.cell 0 rfl
          have o1 := hO.cell 1 rfl
          have o2 := hO.cell 2 rfl
          have HII := hid (And.intro hi (And.intro hri hin))
          have HU2 := hid (And.intro hu2 (And.intro hN2 hK2))
          clear hi hri hin hkk hxe hfs hub2 hu2 hN2 hK2 hP2 hO
          go_wp2_with fail
          refine HWR.out.mono ?_
          rintro e w4 ⟨rfl, hx4⟩
          obtain ⟨u4, hP4, hu4, hk4⟩ := hx4.out
          have HEN : Hid (∃ (u2 : Int) (S2 : DS), Pw w4 p a (-1) u2 S2 ∧ u2 ≤ u' + ((i + 1 : Nat) : Int) ∧ NmdP S S2 c os k (i + 1) ∧ Keeps [p, a.s, a.k, a.m] w3 w4) := by
            have hii := HII.out
            have hxr := HXR.out
            refine ⟨u4, _, hP4, by have := HU2.out.1; omega, HU2.out.2.1.put (by have := HKK.out; have := HL.out; omega) (by rw [← hxr.2.2]; exact hii.2.1) (by rw [← hxr.2.1]; exact hii.2.2) (fun j => ?_), HU2.out.2.2.trans hk4⟩
            rw [setS_yes, ← hxr.1, show ((X : Int) + 1 + (i : Int)).toNat = X + 1 + i by omega]
            have e5 : 1000 * (k : Int) + (i : Int) = ((1000 * k + i : Nat) : Int) := by omega
            rw [e5]
          clear hx4 hP4 hu4 hk4 HWR o0 o1 o2 e1
          go_wp2_with fail
          go_roundg (nn - (i + 1))
          case measure => (have := HII.out; omega)
          case rel =>
            obtain ⟨u2, S2, h1, h2, h3, h4⟩ := HEN.out
            exact ⟨i + 1, u2, S2, by have := HII.out; omega, by have := HII.out; omega, by go_num, h1, h2, h3, h4⟩
        · have hie : nn = i := by omega
          subst hie
          have HEN : Hid (∃ (u' : Int) (S' : DS), Pw wr p a (-1) u' S' ∧ u' ≤ u + 64 * ((k + 1 : Nat) : Int) ∧ NmdP S S' c os (k + 1) 0 ∧ Keeps [p, a.s, a.k, a.m] w1 wr) :=
            ⟨u2, S2, hP2, by have := HUU.out; omega, hN2.next (by rw [← HXR.out.2.1]; exact Nat.le_refl _), HK3.out.trans hK2⟩
          have o0 := hO.cell 0 rfl
          clear hi hri hin hu2 hN2 hK2 hP2 hO
          go_wp2_with fail
          go_roundg (L - (k + 1))
          case measure => (have := HKK.out; omega)
          case rel =>
            obtain ⟨u', S', h1, h2, h3, h4⟩ := HEN.out
            exact ⟨k + 1, u', S', by have := HKK.out; omega, by go_num, h1, h2, h3, h4⟩
    · have hie : L = k := by omega
      subst hie
      have HE : Hid (NbwP p a u S c os w (.returned (.tuple #[])) wr) := ⟨rfl, u', S', hPw, by rw [← HL.out]; exact hu, by rw [← HL.out]; exact hN, (HK1.out.mono (by simp)).trans hK⟩
      clear hk hkl hPw hu hN hK
      go_wp2_with fail
      go_end0
      exact HE.out

end Go.Proofs.YtbalmmnggfgpkaaGreat

