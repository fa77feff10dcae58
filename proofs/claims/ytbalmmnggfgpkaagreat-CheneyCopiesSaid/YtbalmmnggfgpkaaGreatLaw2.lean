/- A new device. | What the laws of layer 2 have in common: New, Choice, the functions that a crash is handed, the fixed fact. -/
import Derived.Test.YtbalmmnggfgpkaaGreatSl
import Derived.RegionTactic
import Derived.ChangeAlike
import Derived.BigRegion
import Derived.Deep.DeepCutAuto
namespace Go.Proofs.YtbalmmnggfgpkaaGreat
open Go.RowKit

theorem At.newk {w : World} {k : Nat} {o : Obj} (hk : k = w.heap.size) : At (w.alloc o) k o := by subst hk; exact At.new _ _

theorem rowOf_u64 (n : Nat) (f : Nat → Int) : rowOf id n (fun i => Value.int .u64 (f i)) = u64s n f := rfl

/-- What stands behind New's first statements: a device of noughts. -/
def Made (w : World) (p L : Nat) (s6 : Value) (wx : World) : Prop :=
  ∃ a : DA, s6 = ptr a.d ∧ a.L = L ∧ Dev wx p a { now := fun _ => 0, kept := fun _ => 0, tok := fun _ => 0, is := fun _ => false } ∧ w.heap.size ≤ a.d ∧ w.heap.size ≤ a.s ∧ w.heap.size ≤ a.k ∧ w.heap.size ≤ a.m ∧ Keeps [] w wx

theorem made {w wx : World} {p L N d s k m : Nat} (hd : At wx d (.cells #[ptr p, .slice (some ⟨s, 0, none⟩) N N, .slice (some ⟨k, 0, none⟩) N N, .map (some m)] 82)) (hN : N = 8 * L) (hL : L ≤ 2199023255552)
    (hs : At wx s (.cells (u64s N fun _ => 0) 40)) (hk : At wx k (.cells (u64s N fun _ => 0) 40)) (hm : At wx m (.map #[] 0)) (hK : Keeps [] w wx) (hp : p < w.heap.size)
    (b : w.heap.size ≤ d ∧ w.heap.size ≤ s ∧ w.heap.size ≤ k ∧ w.heap.size ≤ m ∧ d ≠ s ∧ d ≠ k ∧ d ≠ m ∧ s ≠ k ∧ s ≠ m ∧ k ≠ m) : Made w p L (ptr d) wx := by
  obtain ⟨b1, b2, b3, b4, b5, b6, b7, b8, b9, b10⟩ := b
  subst hN
  refine ⟨⟨d, s, k, m, L⟩, rfl, rfl, ⟨hd, hs, hk, ⟨#[], 0, hm, ?_⟩, (fun _ hq => by cases hq), hL, b5, b6, b7, b8, b9, b10, by show p ≠ d; omega, by show p ≠ s; omega, by show p ≠ k; omega, by show p ≠ m; omega⟩, b1, b2, b3, b4, hK⟩
  have e : lines (fun _ => 0) (fun _ => false) = fun _ => none := by funext k; simp [lines]
  rw [e]
  exact Ents.empty 0

set_option maxRecDepth 100000 in
set_option maxHeartbeats 1000000 in
/-- New: n words, up to whole lines. -/
theorem dnew_at (w : World) (p : Nat) (x : Option Addr) (n c L : Nat) (f : Nat → Int) (hr : Reads w x n f) (hL : L = (n + 7) / 8) (hn : n ≤ 17592186044416) (hp : p < w.heap.size) :
    Calls Tryz.prog 52 #[ptr p, .slice x n c] w fun e w' => ∃ a : DA, e = .returned (ptr a.d) ∧ a.L = L ∧ Dev w' p a { now := fun i => if i < n then f i else 0, kept := fun i => if i < n then f i else 0, tok := fun _ => 0, is := fun _ => false } ∧
      w.heap.size ≤ a.d ∧ w.heap.size ≤ a.s ∧ w.heap.size ≤ a.k ∧ w.heap.size ≤ a.m ∧ Keeps [] w w' := by
  obtain ⟨N, hN⟩ : ∃ N, N = 8 * L := ⟨_, rfl⟩
  have hmk := run_make_at (P := Tryz.prog) 31 40 (.int .u64 0) 8 Tryz.underlying31 (by kernel_rfl) rfl N (by omega) (by omega)
  have e1 : ((n : Int) + 8 - 1) / 8 * 8 = (N : Int) := by omega
  have hLb : L ≤ 2199023255552 := by omega
  have HN := hid hN
  have hmm := @run_makeMap Tryz.prog
  have hb : (n : Int) ≤ 17592186044416 := by omega
  have HL := hid hL
  clear hL hN
  go_enter Tryz.func52, Tryz.ntmps52
  go_upto_region 2 with fail
  go_cut [6] from 13 (fun s6 wx => Made w p L s6 wx)
  case first =>
    go_region
    all_goals
      go_wp2_with fail
      go_meet
      refine made (N := N) ((At.newk ?_).drew) HN.out hLb ?_ ?_ ?_ ?_ hp ?_
      · simp
      · (first | (refine ((At.newk ?_).alloc _).drew; simp; done) | (refine (((At.newk ?_).alloc _).alloc _).drew; simp; done) | (refine ((((At.newk ?_).alloc _).alloc _).alloc _).drew; simp; done) | (refine ((((At.newk ?_).alloc _).alloc _).alloc _).drew; rfl))
      · (first | (refine ((At.newk ?_).alloc _).drew; simp; done) | (refine (((At.newk ?_).alloc _).alloc _).drew; simp; done) | (refine ((((At.newk ?_).alloc _).alloc _).alloc _).drew; simp; done) | (refine ((((At.newk ?_).alloc _).alloc _).alloc _).drew; rfl))
      · (first | (refine ((At.newk ?_).alloc _).drew; simp; done) | (refine (((At.newk ?_).alloc _).alloc _).drew; simp; done) | (refine ((((At.newk ?_).alloc _).alloc _).alloc _).drew; simp; done) | (refine ((((At.newk ?_).alloc _).alloc _).alloc _).drew; rfl))
      · exact ((((((Keeps.refl [] w).alloc _).alloc _).alloc _).alloc _).drew)
      · omega
  case rest =>
    clear hmk hmm e1
    obtain ⟨a, rfl, haL, hD, b1, b2, b3, b4, hK⟩ := hcut
    have HAL := hid haL
    clear haL
    have haN : Hid (a.n = N) := by have h1 := HN.out; have h2 := HAL.out; have h3 := a.n8; show a.n = N; omega
    have hr1 := hr.keep hK (by simp)
    have c1 := hD.dev.cell 1 rfl
    have hnN : n ≤ a.n := by have h1 := HAL.out; have h2 := HL.out; have h3 := a.n8; omega
    go_upto_region 4 with (refine copy64r rfl _ _ rfl a.s 0 a.n a.n x n c rfl rfl a.n _ f _ hD.now hr1 n (by omega) (by omega) ?_; intro w2 hs2 hk2; have hd2 := hk2.at hD.dev (by simpa using hD.ds); have hkk2 := hk2.at hD.kept (by simpa using hD.sk.symm); have hm2 := hD.map.keep hk2 (by simpa using hD.sm.symm); have c2 := hd2.cell 2 rfl)
    have hr2 : Reads w2 x n f := hr.keep (hK.new hk2 (by simpa using b2)) (by simp)
    go_wp2_with (refine copy64r rfl _ _ rfl a.k 0 a.n a.n x n c rfl rfl a.n _ f _ hkk2 hr2 n (by omega) (by omega) ?_; intro w3 hs3 hk3)
    go_ret
    refine ⟨a, rfl, HAL.out, ?_, b1, b2, b3, b4, (hK.new hk2 (by simpa using b2)).new hk3 (by simpa using b3)⟩
    have e : u64s a.n (over (fun _ => 0) f 0 0 n) = u64s a.n fun i => if i < n then f i else 0 := u64s_congr fun i hi => by simp [over]
    exact { hD with
      dev := hk3.at hd2 (by simpa using hD.dk)
      now := by have := hk3.at hs2 (by simpa using hD.sk); rwa [e] at this
      kept := by rwa [e] at hs3
      map := hm2.keep hk3 (by simpa using hD.km.symm) }

end Go.Proofs.YtbalmmnggfgpkaaGreat

namespace Go.Proofs.YtbalmmnggfgpkaaGreat
open Go.RowKit

def LNew (w : World) (L n : Nat) (f : Nat → Int) (e : Ending) (w' : World) : Prop :=
  ∃ p a, e = .returned (ptr a.d) ∧ a.L = L ∧ Dev w' p a { now := fun i => if i < n then f i else 0, kept := fun i => if i < n then f i else 0, tok := fun _ => 0, is := fun _ => false } ∧ At w' p (powO (-1) 0) ∧
    (w.heap.size ≤ a.d ∧ w.heap.size ≤ a.s ∧ w.heap.size ≤ a.k ∧ w.heap.size ≤ a.m ∧ w.heap.size ≤ p) ∧ Keeps [] w w'

set_option maxRecDepth 100000 in
set_option maxHeartbeats 400000 in
theorem lnew_at (w : World) (x : Option Addr) (n c L : Nat) (f : Nat → Int) (hr : Reads w x n f) (hL : L = (n + 7) / 8) (hn : n ≤ 17592186044416) :
    Calls Tryz.prog 30 #[.slice x n c] w (LNew w L n f) := by
  have HL := hid hL
  clear hL
  go_enter Tryz.func30, Tryz.ntmps30
  go_wp2_with fail
  refine (new_at _ _).mono ?_
  rintro e w1 ⟨rfl, hA1, hs1, hK1⟩
  go_wp2_with fail
  refine (dnew_at w1 w.heap.size x n c L f (hr.keep hK1 (by simp)) HL.out hn hA1.lt).mono ?_
  rintro e w2 ⟨a, rfl, haL, hD, b1, b2, b3, b4, hK2⟩
  have HAL := hid haL
  have HS := hid hs1
  clear haL hs1
  go_wp2
  go_ret
  have hs := HS.out
  exact ⟨w.heap.size, a, rfl, HAL.out, hD, hK2.at hA1 (by simp), ⟨by omega, by omega, by omega, by omega, Nat.le_refl _⟩, hK1.trans hK2⟩

/-- How word i is left, by bits. -/
def chV (bits : Int) (i : Nat) : Int := Go.bits BinOp.and IntKind.u64 (bits / 2 ^ (2 * (i % 32))) 3 % 256

theorem chV_low (bits : Int) (i : Nat) : 0 ≤ chV bits i ∧ chV bits i ≤ 255 := by unfold chV; omega

set_option maxRecDepth 100000 in
set_option maxHeartbeats 400000 in
theorem choice_at (w : World) (bits : Int) (i : Nat) (hi : i ≤ 17592186044416) :
    Calls Tryz.prog 29 #[.int .u64 bits, .int .i64 i] w fun e w' => e = .returned (.int .u8 (chV bits i)) ∧ w = w' := by
  have hib : (i : Int) ≤ 17592186044416 := by omega
  go_enter Tryz.func29, Tryz.ntmps29
  go_wp2
  go_ret
  exact ⟨rfl, rfl⟩

/-- A word of the caller's. -/
abbrev wordO (v : Int) : Obj := .cells #[.int .u64 v] 40

set_option maxRecDepth 100000 in
set_option maxHeartbeats 400000 in
theorem lawake1_at (w : World) (i : Nat) : Calls Tryz.prog 145 #[.int .i64 i] w fun e w' => e = .returned (.int .u8 0) ∧ w = w' := by
  go_enter Tryz.func145, Tryz.ntmps145
  go_wp2
  go_ret
  exact ⟨rfl, rfl⟩

theorem lawake1_chooser (n : Nat) : Chooser 145 #[] n (fun _ => 0) [] [] (fun _ _ => True) where
  inv := fun w i => by simp [go_sem]
  call := fun i w _ _ => by simpa using (lawake1_at w i).mono fun e w' ⟨he, hw⟩ => ⟨he, by rw [← hw]; exact Keeps.refl _ _⟩
  keep := fun _ _ _ _ _ _ _ => trivial
  low := fun _ => by omega

/-- A crash whose function touches nothing. -/
theorem crash_plain (w : World) (p : Nat) (a : DA) (S : DS) (h : Dev w p a S) (F : Nat) (cap : Array Value) (c : Nat → Int) (R : List Nat) (J : Nat → World → Prop) (hF : Chooser F cap a.n c [] R J) (hJ : J 0 w)
    (hR : a.s ∉ R ∧ a.k ∉ R ∧ a.m ∉ R) (hRl : ∀ k ∈ R, k < w.heap.size) :
    Calls Tryz.prog 27 #[ptr a.d, .func (.func F) #[] cap] w fun e w' =>
      e = .returned (.tuple #[]) ∧ Dev w' p a { now := fun i => leftV S i (c i % 3), kept := fun i => leftV S i (c i % 3), tok := S.tok, is := fun _ => false } ∧ J a.n w' ∧ Keeps [a.s, a.k, a.m] w w' :=
  crash_at w p a S h F cap c [] R J hF hJ (by simp) hR hRl (by simp)

theorem reads_one {w : World} {b : Nat} {v : Int} {T : TypeId} {fz : Nat × Nat} (h : At w b (.cells #[.int .u64 v] T fz)) : Reads w (some ⟨b, 0, none⟩) 1 (fun _ => v) :=
  .inr ⟨b, 0, rfl, h.lt, fun i hi => by obtain rfl : i = 0 := by omega
                                        exact h.cell 0 rfl⟩

/-- The fixed fact. -/
theorem lawake_any (w : World) : Calls Tryz.prog 140 #[] w fun e w' => e = .returned (.bool true) ∧ Below w.heap.size w w' := by
  go_enter Tryz.func140, Tryz.ntmps140
  go_wp2_with fail
  refine (awake_any _).mono ?_
  rintro e w1 ⟨rfl, hb1⟩
  go_wp2_with fail
  have hs1 : At (w1.alloc (.cells #[.int .u64 1] 40)) w1.heap.size (wordO 1) := At.new _ _
  refine (lnew_at _ _ 1 1 1 (fun _ => 1) (reads_one hs1) rfl (by omega)).mono ?_
  rintro e w2 ⟨p, a, rfl, haL, hD2, hp2, ⟨b1, b2, b3, b4, b5⟩, hK2⟩
  have haN : a.n = 8 := by have := a.n8; omega
  have HAN := hid haN
  clear haL haN
  have hK02 : Keeps [] w w2 := ((Go.Proofs.YtbalmmnggfgpkaaGreat.Below.keeps hb1 []).alloc _).trans hK2
  go_wp2_with fail
  refine (store_in w2 p a _ (-1) 0 0 5 hD2 hp2 (by rw [HAN.out]; omega) (by omega) (by omega) (.inl (by omega))).mono ?_
  rintro e w3 ⟨rfl, hD3, hp3, hK3⟩
  have hK03 : Keeps [] w w3 := hK02.new hK3 (by have := hb1.size; simp at b2 b5; simp; omega)
  go_wp2_with fail
  refine (load_eq w3 p a _ 0 5 hD3 (by rw [HAN.out]; omega) (by simp [put])).mono ?_
  rintro e w4 ⟨rfl, rfl⟩
  go_wp2_with fail
  refine (crash_plain w3 p a _ hD3 _ #[] (fun _ => 0) [] (fun _ _ => True) (lawake1_chooser a.n) trivial (by simp) (by simp)).mono ?_
  rintro e w5 ⟨rfl, hD5, _, hK5⟩
  have hK05 : Keeps [] w w5 := hK03.new hK5 (by have := hb1.size; simp at b2 b3 b4; simp; omega)
  go_wp2_with fail
  refine (load_eq w5 p a _ 0 1 hD5 (by rw [HAN.out]; omega) (by simp [leftV])).mono ?_
  rintro e w6 ⟨rfl, rfl⟩
  go_wp2_with fail
  refine (len_at w5 p a _ hD5).mono ?_
  rintro e w6 ⟨rfl, rfl⟩
  have hn := HAN.out
  have e8 : (a.n : Int) = 8 := by omega
  clear hn
  go_wp2
  go_ret
  exact ⟨rfl, hK05.below (Nat.le_refl _) (by simp)⟩

end Go.Proofs.YtbalmmnggfgpkaaGreat

