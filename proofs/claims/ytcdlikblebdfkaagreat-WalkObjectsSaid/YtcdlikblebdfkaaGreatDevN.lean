/- A new device. -/
import Derived.Test.YtcdlikblebdfkaaGreatSl
import Derived.RegionTactic
import Derived.ChangeAlike
import Derived.BigRegion
import Derived.Deep.DeepCutAuto
namespace Go.Proofs.YtcdlikblebdfkaaGreat
open Go.RowKit

theorem At.newk {w : World} {k : Nat} {o : Obj} (hk : k = w.heap.size) : At (w.alloc o) k o := by subst hk; exact At.new _ _

theorem rowOf_u64 (n : Nat) (f : Nat → Int) : rowOf id n (fun i => Value.int .u64 (f i)) = u64s n f := rfl

/-- What stands behind New's first statements: a device of noughts. -/
def Made (w : World) (p L : Nat) (s6 : Value) (wx : World) : Prop :=
  ∃ a : DA, s6 = ptr a.d ∧ a.L = L ∧ Dev wx p a { now := fun _ => 0, kept := fun _ => 0, tok := fun _ => 0, is := fun _ => false } ∧ w.heap.size ≤ a.d ∧ w.heap.size ≤ a.s ∧ w.heap.size ≤ a.k ∧ w.heap.size ≤ a.m ∧ Keeps [] w wx

theorem made {w wx : World} {p L N d s k m : Nat} (hd : At wx d (.cells #[ptr p, .slice (some ⟨s, 0, none⟩) N N, .slice (some ⟨k, 0, none⟩) N N, .map (some m)] 76)) (hN : N = 8 * L) (hL : L ≤ 2199023255552)
    (hs : At wx s (.cells (u64s N fun _ => 0) 26)) (hk : At wx k (.cells (u64s N fun _ => 0) 26)) (hm : At wx m (.map #[] 0)) (hK : Keeps [] w wx) (hp : p < w.heap.size)
    (b : w.heap.size ≤ d ∧ w.heap.size ≤ s ∧ w.heap.size ≤ k ∧ w.heap.size ≤ m ∧ d ≠ s ∧ d ≠ k ∧ d ≠ m ∧ s ≠ k ∧ s ≠ m ∧ k ≠ m) : Made w p L (ptr d) wx := by
  obtain ⟨b1, b2, b3, b4, b5, b6, b7, b8, b9, b10⟩ := b
  subst hN
  refine ⟨⟨d, s, k, m, L⟩, rfl, rfl, ⟨hd, hs, hk, ⟨#[], 0, hm, ?_⟩, (fun _ hq => by cases hq), hL, b5, b6, b7, b8, b9, b10, by show p ≠ d; omega, by show p ≠ s; omega, by show p ≠ k; omega, by show p ≠ m; omega⟩, b1, b2, b3, b4, hK⟩
  have e : lines (fun _ => 0) (fun _ => false) = fun _ => none := by funext k; simp [lines]
  rw [e]
  exact Ents.empty 0

set_option maxRecDepth 100000 in
set_option maxHeartbeats 1000000 in
/-- New: n words, up to whole lines. -/
theorem dnew_at (w : World) (p : Nat) (x : Option Addr) (n c L : Nat) (f : Nat → Int) (hr : Reads w x n f) (hL : L = (n + 7) / 8) (hn : n ≤ 17592186044416) (hp : p < w.heap.size) :
    Calls Tryz.prog 51 #[ptr p, .slice x n c] w fun e w' => ∃ a : DA, e = .returned (ptr a.d) ∧ a.L = L ∧ Dev w' p a { now := fun i => if i < n then f i else 0, kept := fun i => if i < n then f i else 0, tok := fun _ => 0, is := fun _ => false } ∧
      w.heap.size ≤ a.d ∧ w.heap.size ≤ a.s ∧ w.heap.size ≤ a.k ∧ w.heap.size ≤ a.m ∧ Keeps [] w w' := by
  obtain ⟨N, hN⟩ : ∃ N, N = 8 * L := ⟨_, rfl⟩
  have hmk := run_make_at (P := Tryz.prog) 31 26 (.int .u64 0) 8 Tryz.underlying31 (by kernel_rfl) rfl N (by omega) (by omega)
  have e1 : ((n : Int) + 8 - 1) / 8 * 8 = (N : Int) := by omega
  have hLb : L ≤ 2199023255552 := by omega
  have HN := hid hN
  have hmm := @run_makeMap Tryz.prog
  have hb : (n : Int) ≤ 17592186044416 := by omega
  have HL := hid hL
  clear hL hN
  go_enter Tryz.func51, Tryz.ntmps51
  go_upto_region 2 with fail
  go_cut [6] from 13 (fun s6 wx => Made w p L s6 wx)
  case first =>
    go_region
    all_goals
      go_wp2_with fail
      go_meet
      refine made (N := N) ((At.newk ?_).drew) HN.out hLb ?_ ?_ ?_ ?_ hp ?_
      · simp
      · (first | (refine ((At.newk ?_).alloc _).drew; simp; done) | (refine (((At.newk ?_).alloc _).alloc _).drew; simp; done) | (refine ((((At.newk ?_).alloc _).alloc _).alloc _).drew; simp; done) | (refine ((((At.newk ?_).alloc _).alloc _).alloc _).drew; rfl))
      · (first | (refine ((At.newk ?_).alloc _).drew; simp; done) | (refine (((At.newk ?_).alloc _).alloc _).drew; simp; done) | (refine ((((At.newk ?_).alloc _).alloc _).alloc _).drew; simp; done) | (refine ((((At.newk ?_).alloc _).alloc _).alloc _).drew; rfl))
      · (first | (refine ((At.newk ?_).alloc _).drew; simp; done) | (refine (((At.newk ?_).alloc _).alloc _).drew; simp; done) | (refine ((((At.newk ?_).alloc _).alloc _).alloc _).drew; simp; done) | (refine ((((At.newk ?_).alloc _).alloc _).alloc _).drew; rfl))
      · exact ((((((Keeps.refl [] w).alloc _).alloc _).alloc _).alloc _).drew)
      · omega
  case rest =>
    clear hmk hmm e1
    obtain ⟨a, rfl, haL, hD, b1, b2, b3, b4, hK⟩ := hcut
    have HAL := hid haL
    clear haL
    have haN : Hid (a.n = N) := by have h1 := HN.out; have h2 := HAL.out; have h3 := a.n8; show a.n = N; omega
    have hr1 := hr.keep hK (by simp)
    have c1 := hD.dev.cell 1 rfl
    have hnN : n ≤ a.n := by have h1 := HAL.out; have h2 := HL.out; have h3 := a.n8; omega
    go_upto_region 4 with (refine copy64r rfl _ _ rfl a.s 0 a.n a.n x n c rfl rfl a.n _ f _ hD.now hr1 n (by omega) (by omega) ?_; intro w2 hs2 hk2; have hd2 := hk2.at hD.dev (by simpa using hD.ds); have hkk2 := hk2.at hD.kept (by simpa using hD.sk.symm); have hm2 := hD.map.keep hk2 (by simpa using hD.sm.symm); have c2 := hd2.cell 2 rfl)
    have hr2 : Reads w2 x n f := hr.keep (hK.new hk2 (by simpa using b2)) (by simp)
    go_wp2_with (refine copy64r rfl _ _ rfl a.k 0 a.n a.n x n c rfl rfl a.n _ f _ hkk2 hr2 n (by omega) (by omega) ?_; intro w3 hs3 hk3)
    go_ret
    refine ⟨a, rfl, HAL.out, ?_, b1, b2, b3, b4, (hK.new hk2 (by simpa using b2)).new hk3 (by simpa using b3)⟩
    have e : u64s a.n (over (fun _ => 0) f 0 0 n) = u64s a.n fun i => if i < n then f i else 0 := u64s_congr fun i hi => by simp [over]
    exact { hD with
      dev := hk3.at hd2 (by simpa using hD.dk)
      now := by have := hk3.at hs2 (by simpa using hD.sk); rwa [e] at this
      kept := by rwa [e] at hs3
      map := hm2.keep hk3 (by simpa using hD.km.symm) }

end Go.Proofs.YtcdlikblebdfkaaGreat
