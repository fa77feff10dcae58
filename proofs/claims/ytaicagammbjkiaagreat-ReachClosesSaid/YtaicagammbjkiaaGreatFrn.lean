/- What stands between two rounds of From's function, and between two names of one object. -/
import Derived.Test.YtaicagammbjkiaaGreatFrm
namespace Go.Proofs.YtaicagammbjkiaaGreat
open Go.RowKit Go.OpenShut

/-- The box of the function that tells. -/
abbrev tellO (bd bc bb B : Nat) : Obj := .cells #[.func (.func 31) #[] #[ptr bd, ptr bc, ptr bb, ptr (B + 3), ptr (B + 1), ptr B]] 81

theorem names13_at (w : World) (n r z : Int) (d : Nat) :
    Calls Tryz.prog 20 #[obV n r z, ptr d] w fun e w' => ∃ Bo Bd, e = .returned (.func (.func 36) #[] #[ptr Bo, ptr Bd]) ∧ At w' Bo (obO n r z) ∧ At w' Bd (.cells #[ptr d] 28) ∧ w.heap.size ≤ Bo ∧ w.heap.size ≤ Bd ∧ Keeps [] w w' := by
  refine (onames_at w n r z d).mono ?_
  rintro e w' ⟨rfl, rfl⟩
  refine ⟨_, _, rfl, (At.new w _).alloc _, ?_, Nat.le_refl _, by omega, ((Keeps.refl [] w).alloc _).alloc _⟩
  have := At.new (w.alloc (obO n r z)) (.cells #[ptr d] 28)
  rwa [World.size_alloc] at this

/-- Between two of them. -/
def FrI (J : Nat → List Nat → World → Prop) (S : DS) (l bd bc bb B : Nat) (out O : List Nat) (x : Option Addr) (cp : Nat) (W : World) : Prop :=
  TlI J S (.func (.yield l) #[] #[]) B out O x cp W ∧ At W (B + 4) (tellO bd bc bb B)

theorem FrI.off {J : Nat → List Nat → World → Prop} {S : DS} {l bd bc bb B : Nat} {out O : List Nat} {x : Option Addr} {cp : Nat} {W : World} (h : FrI J S l bd bc bb B out O x cp W) {T : List Nat} (hT : ∀ b ∈ T, b ∉ O ∨ b = B + 1 ∨ b = B + 2 ∨ b ∈ blkL x) : B + 4 ∉ T := fun hm => by
  rcases hT _ hm with h1 | h1 | h1 | h1
  · exact h1 (h.1.own 4 (by omega))
  · omega
  · omega
  · have := (h.1.ob.ge _ h1).1
    omega


/-- Places of boxes that a range over one object's names is about. -/
structure NmS (B D0 D Bo Bd : Nat) (bs O3 : List Nat) : Prop where
  low : B + 4 < D0 ∧ D0 ≤ D
  o : D0 ≤ Bo ∧ Bo < D ∧ Bo ∈ O3
  d : D0 ≤ Bd ∧ Bd < D ∧ Bd ∈ O3
  bs : ∀ b ∈ bs, b < D0 ∧ b ∈ O3

/-- Between two names. D: where the range's own boxes begin. -/
structure NmI (J : Nat → List Nat → World → Prop) (S : DS) (l bd bc bb B : Nat) (a : DA) (nn rr X Bo Bd : Nat) (bs O3 : List Nat) (D0 D : Nat) (out O : List Nat) (x : Option Addr) (cp : Nat) (W : World) : Prop where
  i : FrI J S l bd bc bb B out O x cp W
  sub : ∀ b ∈ O3, b ∈ O
  rec' : ∀ b, D ≤ b → b < D + 2 → b < W.heap.size → b ∈ O
  row : ∀ b ∈ blkL x, b < D0 ∨ D + 2 ≤ b
  bo : At W Bo (obO (nn : Nat) (rr : Nat) (X : Nat))
  bd : At W Bd (.cells #[ptr a.d] 28)
  bs : ∀ b ∈ bs, At W b (.deferred (some []))

/-- Broken off. -/
def NmX (Jx : List Nat → World → Prop) (bs O3 : List Nat) (D : Nat) (O : List Nat) (W : World) : Prop :=
  Jx O W ∧ (∀ b ∈ O3, b ∈ O) ∧ (∀ b, D ≤ b → b < D + 2 → b < W.heap.size → b ∈ O) ∧ ∀ b ∈ bs, At W b (.deferred (some []))

theorem NmI.keep {J : Nat → List Nat → World → Prop} {S : DS} {l bd bc bb B : Nat} {a : DA} {nn rr X Bo Bd : Nat} {bs O3 : List Nat} {D0 D : Nat} {out O : List Nat} {x : Option Addr} {cp : Nat} {W W' : World} {T : List Nat} (hJ : ∀ k, Bears (J k)) (hS : NmS B D0 D Bo Bd bs O3)
    (h : NmI J S l bd bc bb B a nn rr X Bo Bd bs O3 D0 D out O x cp W) (hk : Keeps T W W') (hT : ∀ b ∈ T, b < W.heap.size → b = D + 1) : NmI J S l bd bc bb B a nn rr X Bo Bd bs O3 D0 D out (O ++ rngW W W') x cp W' := by
  have hl := hS.low
  have off : ∀ b, b < W.heap.size → b ≠ D + 1 → b ∉ T := fun b h1 h2 h3 => h2 (hT b h3 h1)
  refine ⟨⟨h.i.1.keep hJ hk fun b hb hlt => ?_, hk.at h.i.2 (off _ h.i.2.lt (by omega))⟩, fun b hb => List.mem_append_left _ (h.sub b hb), fun b h1 h2 h3 => ?_, h.row, hk.at h.bo (off _ h.bo.lt (by have := hS.o; omega)), hk.at h.bd (off _ h.bd.lt (by have := hS.d; omega)), fun b hb => hk.at (h.bs b hb) (off _ (h.bs b hb).lt (by have := (hS.bs b hb).1; omega))⟩
  · obtain rfl := hT b hb hlt
    refine ⟨h.rec' _ (by omega) (by omega) hlt, by omega, fun hr => ?_⟩
    have := h.row _ hr
    omega
  · by_cases hw : b < W.heap.size
    · exact List.mem_append_left _ (h.rec' b h1 h2 hw)
    · exact List.mem_append_right _ (mem_rngW.2 ⟨by omega, h3⟩)

theorem NmX.keep {Jx : List Nat → World → Prop} {B D0 D Bo Bd : Nat} {bs O3 O : List Nat} {W W' : World} {T : List Nat} (hX : Bears Jx) (hS : NmS B D0 D Bo Bd bs O3) (h : NmX Jx bs O3 D O W) (hk : Keeps T W W') (hT : ∀ b ∈ T, b < W.heap.size → b = D + 1) : NmX Jx bs O3 D (O ++ rngW W W') W' := by
  obtain ⟨h1, h2, h3, h4⟩ := h
  have hl := hS.low
  refine ⟨hX _ _ W W' h1 (hk.mono fun b hlt hb => ?_) (fun b hb => ?_), fun b hb => List.mem_append_left _ (h2 b hb), fun b g1 g2 g3 => ?_, fun b hb => hk.at (h4 b hb) fun hm => ?_⟩
  · obtain rfl := hT b hb hlt
    exact h3 _ (by omega) (by omega) hlt
  · rcases List.mem_append.1 hb with hb | hb
    · exact .inl hb
    · exact .inr (mem_rngW.1 hb).1
  · by_cases hw : b < W.heap.size
    · exact List.mem_append_left _ (h3 b g1 g2 hw)
    · exact List.mem_append_right _ (mem_rngW.2 ⟨by omega, g3⟩)
  · have := hT b hm (h4 b hb).lt
    have := (hS.bs b hb).1
    omega

/-- One is told of. -/
theorem NmI.tell {J : Nat → List Nat → World → Prop} {Jx : List Nat → World → Prop} {S : DS} {l bd bc bb B : Nat} {a : DA} {nn rr X Bo Bd : Nat} {bs O3 : List Nat} {D0 D : Nat} {out O out' : List Nat} {x : Option Addr} {cp : Nat} {W W' : World} {e : Ending} (hS : NmS B D0 D Bo Bd bs O3)
    (h : NmI J S l bd bc bb B a nn rr X Bo Bd bs O3 D0 D out O x cp W) (hD : D + 2 ≤ W.heap.size) (hT : TellE J Jx S (.func (.yield l) #[] #[]) B O x W out' e W') :
    ((e = .returned (.bool true) ∧ ∃ O' x' cp', NmI J S l bd bc bb B a nn rr X Bo Bd bs O3 D0 D out' O' x' cp' W') ∨ (e = .returned (.bool false) ∧ ∃ O', NmX Jx bs O3 D O' W')) ∧
      ∃ T, Keeps T W W' ∧ D ∉ T ∧ D + 1 ∉ T ∧ ∀ b ∈ T, b ∉ O ∨ b = B + 1 ∨ b = B + 2 ∨ b ∈ blkL x := by
  obtain ⟨O', hO, ⟨T, hkT, hT⟩, hE⟩ := hT
  have hl := hS.low
  have off : ∀ b, b ∈ O → B + 4 < b → b ∉ blkL x → b ∉ T := fun b h1 h2 h3 h4 => by
    rcases hT b h4 with h5 | h5 | h5 | h5
    · exact h5 h1
    · omega
    · omega
    · exact h3 h5
  have hDr : ∀ b, D ≤ b → b < D + 2 → b ∉ T := fun b h1 h2 => off b (h.rec' b h1 h2 (by omega)) (by omega) fun hr => by have := h.row b hr; omega
  have hBs : ∀ b ∈ bs, At W' b (.deferred (some [])) := fun b hb => hkT.at (h.bs b hb) fun hm => by
    have hbO := h.sub b (hS.bs b hb).2
    have hA := h.bs b hb
    rcases hT b hm with h5 | h5 | h5 | h5
    · exact h5 hbO
    · rw [h5] at hA
      exact Obj.noConfusion (hA.inj h.i.1.tb)
    · rw [h5] at hA
      obtain ⟨_, _, hm, _⟩ := h.i.1.mp
      exact Obj.noConfusion (hA.inj hm)
    · rcases h.i.1.ob.form with ⟨rfl, _⟩ | ⟨g, cur, rfl, _, hg, _⟩
      · simp [blkL] at h5
      · have h6 : b = g := by simpa [blkL] using h5
        rw [h6] at hA
        exact Obj.noConfusion (hA.inj hg)
  refine ⟨?_, T, hkT, hDr D (by omega) (by omega), hDr (D + 1) (by omega) (by omega), hT⟩
  rcases hE with ⟨rfl, x', cp', hI, hr⟩ | ⟨rfl, hx⟩
  · refine .inl ⟨rfl, O', x', cp', ⟨hI, hkT.at h.i.2 (h.i.off hT)⟩, fun b hb => hO b (h.sub b hb), fun b h1 h2 h3 => hO b (h.rec' b h1 h2 (by omega)), fun b hb => ?_, hkT.at h.bo (off _ (h.sub _ hS.o.2.2) (by have := hS.o; omega) fun hr => by have := h.row _ hr; have := hS.o; omega),
      hkT.at h.bd (off _ (h.sub _ hS.d.2.2) (by have := hS.d; omega) fun hr => by have := h.row _ hr; have := hS.d; omega), hBs⟩
    rcases hr b hb with h1 | h1
    · exact h.row b h1
    · exact .inr (by omega)
  · exact .inr ⟨rfl, O', hx, fun b hb => hO b (h.sub b hb), fun b h1 h2 h3 => hO b (h.rec' b h1 h2 (by omega)), hBs⟩

end Go.Proofs.YtaicagammbjkiaaGreat
