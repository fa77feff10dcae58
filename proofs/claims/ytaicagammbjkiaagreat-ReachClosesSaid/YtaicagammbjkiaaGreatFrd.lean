/- From's contract. -/
import Derived.Test.YtaicagammbjkiaaGreatFrc
namespace Go.Proofs.YtaicagammbjkiaaGreat
open Go.RowKit Go.OpenShut

/-- slices.Clone, of a row of words, nil or not. -/
theorem clone_any (w : World) (x : Option Addr) (n c : Nat) (f : Nat → Int) (h : Reads w x n f) (hn : n ≤ 17592186044416) :
    Calls Tryz.prog 18 #[.slice x n c] w fun e w' => ∃ x' c', e = .returned (.slice x' n c') ∧ Reads w' x' n f ∧ (∀ b ∈ blkL x', w.heap.size ≤ b ∧ b < w'.heap.size) ∧ Keeps [] w w' := by
  cases x with
  | some x =>
    refine (clone_at w x n c f h hn).mono ?_
    rintro e w' ⟨v, rfl, hv, hk⟩
    obtain ⟨g, cap, rfl, h1, h2, _, h3⟩ := hv.reads
    exact ⟨_, cap, rfl, h3, by simp [blkL]; exact ⟨h1, h2⟩, hk⟩
  | none =>
    have hn0 : n = 0 := by
      rcases h with h | ⟨b, off, h, _⟩
      · exact h
      · exact absurd h (by simp)
    subst hn0
    have hnil := run_slice_nil none 0 c
    clear h hn
    go_enter Tryz.func18, Tryz.ntmps18
    go_wp2_with fail
    go_ret
    exact ⟨none, 0, rfl, .inl rfl, by simp [blkL], Keeps.refl _ _⟩

set_option maxRecDepth 100000 in
set_option maxHeartbeats 4000000 in
theorem from13_at (w : World) (p : Nat) (a : DA) (S : DS) (c : Cfg) (hD : Dev w p a S) (hc : c.Ok) (hcn : c.words = a.n) (k : Nat) (hk : k ≤ 1) (u : Nat) (hu : u ≤ c.space) (rs : Value)
    (hx : ∀ j : Nat, c.frm k ≤ j → j < c.frm k + u → ∃ x : Nat, S.now j = (x : Int) ∧ x < 18446744073709551616)
    (x : Option Addr) (n cp : Nat) (f : Nat → Int) (hr : Reads w x n f) (hn : n ≤ 1000) (hf : ∀ i, i < n → ∃ v : Nat, f i = (v : Int) ∧ v < 18446744073709551616) :
    Calls Tryz.prog 11 #[ptr a.d, cfgV c, bkV k u rs, .slice x n cp] w (FrmP S c k u (wsN n f) a w) := by
  have HIT := hid (fun bd bc bb bx x' cp' => from1_iter a S c hc hcn k hk u hu hx bd bc bb bx x' n cp' f hn hf)
  have HDL : Hid (a.d < w.heap.size ∧ a.s < w.heap.size ∧ a.k < w.heap.size ∧ a.m < w.heap.size) := ⟨hD.dev.lt, hD.now.lt, hD.kept.lt, hD.map.lt⟩
  have HD := hid hD
  have HR := hid hr
  have hn2 : n ≤ 17592186044416 := by omega
  clear hD hc hcn hk hu hx hr hn hf
  go_enter Tryz.func11, Tryz.ntmps11
  go_upto_region 1 with fail
  have f1 := At.new w (.cells #[ptr a.d] 28)
  have f2 := At.new (w.alloc (.cells #[ptr a.d] 28)) (cfgO c)
  have f3 := At.new ((w.alloc (.cells #[ptr a.d] 28)).alloc (cfgO c)) (bkO k u rs)
  have f4 := At.new (((w.alloc (.cells #[ptr a.d] 28)).alloc (cfgO c)).alloc (bkO k u rs)) (.cells #[.slice x n cp] 31)
  have k1 : Keeps [] w ((((w.alloc (.cells #[ptr a.d] 28)).alloc (cfgO c)).alloc (bkO k u rs)).alloc (.cells #[.slice x n cp] 31)) := ((((Keeps.refl [] w).alloc _).alloc _).alloc _).alloc _
  have g1 := ((f1.alloc (cfgO c)).alloc (bkO k u rs)).alloc (.cells #[.slice x n cp] 31)
  have g2 := (f2.alloc (bkO k u rs)).alloc (.cells #[.slice x n cp] 31)
  have g3 := f3.alloc (.cells #[.slice x n cp] 31)
  obtain ⟨B, hB⟩ : ∃ B, B = w.heap.size := ⟨_, rfl⟩
  simp only [World.size_alloc, ← hB, Nat.add_assoc, Nat.reduceAdd] at g1 g2 g3 f4
  obtain ⟨w1, hw1⟩ : ∃ w1, w1 = ((((w.alloc (.cells #[ptr a.d] 28)).alloc (cfgO c)).alloc (bkO k u rs)).alloc (.cells #[.slice x n cp] 31)) := ⟨_, rfl⟩
  have hz1 : w1.heap.size = B + 4 := by rw [hw1, hB]; simp
  rw [← hw1] at g1 g2 g3 f4 k1
  first | rw [← hw1] | skip
  rw [← hB]
  simp only [Nat.add_assoc, Nat.reduceAdd]
  clear f1 f2 f3 hw1
  have x0 := f4.cell 0 rfl
  have xf := f4.free 0
  have HCL := hid (clone_any w1 x n cp f (HR.out.keep k1 (by simp)) hn2)
  have HG := hid (And.intro g1 (And.intro g2 (And.intro g3 f4)))
  have HK1 := hid k1
  have HBQ := hid (And.intro hB hz1)
  clear g1 g2 g3 f4 k1 hn2 hB hz1
  go_wp2_with fail
  refine HCL.out.mono ?_
  rintro e w2 ⟨x', c', rfl, hr2, hx2, hk2⟩
  have hX2 := hk2.at HG.out.2.2.2 (by simp)
  have hB2 := hk2.at HG.out.2.2.1 (by simp)
  have x2 := hX2.cell 0 rfl
  have x2f := hX2.free 0
  have b2 := hB2.cell 2 rfl
  have b2f := hB2.free 2
  have HE2 := hid (And.intro hr2 (And.intro hx2 hk2))
  have HA2 := hid (And.intro hX2 hB2)
  clear x0 xf hr2 hx2 hk2 hX2 hB2
  go_wp2_with fail
  go_ret
  have hX3 := (HA2.out.1.set 0 (.slice x' n c')).set_ne (a := ⟨B + 2, 2, none⟩) (by simp) (.slice none 0 0)
  have hB3 := (HA2.out.2.set_ne (a := ⟨B + 3, 0, none⟩) (by simp) (.slice x' n c')).set 2 (.slice none 0 0)
  have k3 := (((Keeps.refl [B + 3, B + 2] w2).set (p := ⟨B + 3, 0, none⟩) (.inl (by simp)) (.slice x' n c'))).set (p := ⟨B + 2, 2, none⟩) (.inl (by simp)) (.slice none 0 0)
  obtain ⟨w3, hw3⟩ : ∃ w3, w3 = (w2.setCell ⟨B + 3, 0, none⟩ (.slice x' n c')).setCell ⟨B + 2, 2, none⟩ (.slice none 0 0) := ⟨_, rfl⟩
  rw [← hw3] at hX3 hB3 k3 ⊢
  obtain ⟨hB, hz1⟩ := HBQ.out
  have K2 := HK1.out.trans HE2.out.2.2
  have K3 : Keeps [] w w3 := K2.new k3 (fun b hb => .inr (by simp at hb; omega))
  have hz2 := HE2.out.2.2.size
  have hd3 := k3.at (HE2.out.2.2.at HG.out.1 (by simp)) (by simp)
  have hc3 := k3.at (HE2.out.2.2.at HG.out.2.1 (by simp)) (by simp)
  have hr3 := HE2.out.1.keep k3 (fun b off hb => by have h1 := (HE2.out.2.1 b (by rw [hb]; simp [blkL])).1; simp; omega)
  have hz3 := k3.size
  refine ⟨30, _, FrF a c k u B (B + 1) (B + 2) (B + 3) S x' n c' f, rfl, enters_of Tryz.func30 (by kernel_rfl) rfl, HIT.out B (B + 1) (B + 2) (B + 3) x' c', fun T W hk hT => ?_, K3⟩
  have hD := HDL.out
  have off : ∀ b, b < w3.heap.size → w.heap.size ≤ b → b ∉ T := fun b h1 h2 h3 => by
    rcases hT b h3 with h4 | h4
    · omega
    · omega
  have offD : ∀ b, b = a.d ∨ b = a.s ∨ b = a.k ∨ b = a.m → b ∉ T := fun b h1 h3 => by
    rcases hT b h3 with h4 | h4
    · omega
    · have := K3.size
      omega
  refine ⟨⟨hk.at hd3 (off B (by omega) (by omega)), hk.at hc3 (off (B + 1) (by omega) (by omega)), hk.at hB3 (off (B + 2) (by omega) (by omega)), p, (HD.out.keep K3 (by simp) (by simp) (by simp) (by simp)).keep hk (offD _ (by simp)) (offD _ (by simp)) (offD _ (by simp)) (offD _ (by simp))⟩, hk.at hX3 (off (B + 3) (by omega) (by omega)), hr3.keep hk (fun b o hb => ?_)⟩
  have h1 := HE2.out.2.1 b (by rw [hb]; simp [blkL])
  exact off b (by omega) (by omega)

end Go.Proofs.YtaicagammbjkiaaGreat
