/- The device by definition: where it lies, what it is; Make, Same. -/
import Derived.Test.YtbpoifcldjlblaaLaw2
import Derived.Test.YtbpoifcldjlblaaArgs
import Derived.RegionTactic
import Derived.BigRegion
import Derived.Deep.DeepCutAuto
import Derived.Deep.RegionHeld3
namespace Go.Proofs.Ytbpoifcldjlblaa
open Go.RowKit

/-- A row of c words, of which f says the first n. -/
def Row (w : World) (b c n : Nat) (f : Nat → Int) : Prop := ∃ cur, At w b (.cells cur 30 (0, 0)) ∧ cur.size = c ∧ n ≤ c ∧ ∀ i, i < n → cur[i]? = some (.int .u64 (f i))

theorem Row.lt {w : World} {b c n : Nat} {f : Nat → Int} (h : Row w b c n f) : b < w.heap.size := by
  obtain ⟨cur, h1, _⟩ := h
  exact h1.lt

theorem Row.keep {w w' : World} {b c n : Nat} {f : Nat → Int} {S : List Nat} (h : Row w b c n f) (hk : Keeps S w w') (hs : b ∉ S) : Row w' b c n f := by
  obtain ⟨cur, h1, h2⟩ := h
  exact ⟨cur, hk.at h1 hs, h2⟩

theorem Row.cell {w : World} {b c n : Nat} {f : Nat → Int} (h : Row w b c n f) {i : Nat} (hi : i < n) : w.cell? ⟨b, i, none⟩ = some (.int .u64 (f i)) := by
  obtain ⟨cur, h1, _, _, h4⟩ := h
  exact h1.cell i (h4 i hi)

theorem Row.free {w : World} {b c n : Nat} {f : Nat → Int} (h : Row w b c n f) (i : Nat) : w.frozen? ⟨b, i, none⟩ = false := by
  obtain ⟨cur, h1, _⟩ := h
  exact h1.free i

theorem Row.set {w : World} {b c n : Nat} {f : Nat → Int} (h : Row w b c n f) {i : Nat} (hi : i < n) (v : Int) : Row (w.setCell ⟨b, i, none⟩ (.int .u64 v)) b c n (put f i v) := by
  obtain ⟨cur, h1, h2, h3, h4⟩ := h
  refine ⟨_, h1.set i _, by simpa using h2, h3, fun j hj => ?_⟩
  rw [Array.getElem?_setIfInBounds]
  by_cases hij : i = j
  · subst hij
    simp [put, show i < cur.size by omega]
  · rw [if_neg hij, h4 j hj]
    simp [put, Ne.symm hij]

theorem Row.reads {w : World} {b c n : Nat} {f : Nat → Int} (h : Row w b c n f) : Reads w (some ⟨b, 0, none⟩) n f :=
  .inr ⟨b, 0, rfl, h.lt, fun i hi => by rw [Nat.zero_add]; exact h.cell hi⟩

theorem Row.congr {w : World} {b c n : Nat} {f g : Nat → Int} (h : Row w b c n f) (he : ∀ i, i < n → f i = g i) : Row w b c n g := by
  obtain ⟨cur, h1, h2, h3, h4⟩ := h
  exact ⟨cur, h1, h2, h3, fun i hi => by rw [h4 i hi, he i hi]⟩

theorem Row.of_at {w : World} {b n : Nat} {f : Nat → Int} (h : At w b (.cells (u64s n f) 30 (0, 0))) : Row w b n n f := ⟨_, h, u64s_size _ _, Nat.le_refl _, fun _ hi => u64s_get hi⟩

/-- Where it lies: itself, what stands, what is kept (and its room), what is to be kept, whether. -/
structure MA where
  m : Nat
  n : Nat
  k : Nat
  c : Nat
  t : Nat
  i : Nat

abbrev mO (x : MA) (N : Nat) : Obj := .cells #[.slice (some ⟨x.n, 0, none⟩) N N, .slice (some ⟨x.k, 0, none⟩) N x.c, .slice (some ⟨x.t, 0, none⟩) N N, .slice (some ⟨x.i, 0, none⟩) N N] 36

/-- What it is, word by word. -/
structure MS where
  now : Nat → Int
  kept : Nat → Int
  tok : Nat → Int
  is : Nat → Bool

abbrev DS.ms (S : DS) : MS := ⟨S.now, S.kept, S.tok, fun j => S.is (j / 8)⟩

structure MDev (w : World) (x : MA) (N : Nat) (S : MS) : Prop where
  mo : At w x.m (mO x N)
  now : Row w x.n N N S.now
  kept : Row w x.k x.c N S.kept
  too : Row w x.t N N S.tok
  is : At w x.i (.cells (rowOf Value.bool N S.is) 4)
  mn : x.m ≠ x.n
  mkk : x.m ≠ x.k
  mt : x.m ≠ x.t
  mi : x.m ≠ x.i
  nk : x.n ≠ x.k
  nt : x.n ≠ x.t
  ni : x.n ≠ x.i
  kt : x.k ≠ x.t
  ki : x.k ≠ x.i
  ti : x.t ≠ x.i

abbrev MA.blocks (x : MA) : List Nat := [x.m, x.n, x.k, x.t, x.i]

theorem MDev.keep {w w' : World} {x : MA} {N : Nat} {S : MS} {T : List Nat} (h : MDev w x N S) (hk : Keeps T w w') (hd : ∀ b ∈ x.blocks, b ∉ T) : MDev w' x N S :=
  { h with
    mo := hk.at h.mo (hd _ (by simp))
    now := h.now.keep hk (hd _ (by simp))
    kept := h.kept.keep hk (hd _ (by simp))
    too := h.too.keep hk (hd _ (by simp))
    is := hk.at h.is (hd _ (by simp)) }

theorem Row.ne {w : World} {b c n : Nat} {f : Nat → Int} (h : Row w b c n f) {q : Addr} (hq : b ≠ q.block) (v : Value) : Row (w.setCell q v) b c n f := by
  obtain ⟨cur, h1, h2⟩ := h
  exact ⟨cur, h1.set_ne hq v, h2⟩

theorem MDev.drew {w : World} {x : MA} {N : Nat} {S : MS} (h : MDev w x N S) : MDev w.drew x N S := h.keep (Keeps.refl [] w).drew (by simp)

theorem MDev.set_now {w : World} {x : MA} {N : Nat} {S : MS} (h : MDev w x N S) {z : Nat} (hz : z < N) (v : Int) : MDev (w.setCell ⟨x.n, z, none⟩ (.int .u64 v)) x N { S with now := put S.now z v } :=
  { h with mo := h.mo.set_ne h.mn _, now := h.now.set hz v, kept := h.kept.ne h.nk.symm _, too := h.too.ne h.nt.symm _, is := h.is.set_ne h.ni.symm _ }
theorem MDev.set_kept {w : World} {x : MA} {N : Nat} {S : MS} (h : MDev w x N S) {z : Nat} (hz : z < N) (v : Int) : MDev (w.setCell ⟨x.k, z, none⟩ (.int .u64 v)) x N { S with kept := put S.kept z v } :=
  { h with mo := h.mo.set_ne h.mkk _, now := h.now.ne h.nk _, kept := h.kept.set hz v, too := h.too.ne h.kt.symm _, is := h.is.set_ne h.ki.symm _ }
theorem MDev.set_tok {w : World} {x : MA} {N : Nat} {S : MS} (h : MDev w x N S) {z : Nat} (hz : z < N) (v : Int) : MDev (w.setCell ⟨x.t, z, none⟩ (.int .u64 v)) x N { S with tok := put S.tok z v } :=
  { h with mo := h.mo.set_ne h.mt _, now := h.now.ne h.nt _, kept := h.kept.ne h.kt _, too := h.too.set hz v, is := h.is.set_ne h.ti.symm _ }
theorem MDev.set_is {w : World} {x : MA} {N : Nat} {S : MS} (h : MDev w x N S) (z : Nat) (v : Bool) : MDev (w.setCell ⟨x.i, z, none⟩ (.bool v)) x N { S with is := put S.is z v } :=
  { h with mo := h.mo.set_ne h.mi _, now := h.now.ne h.ni _, kept := h.kept.ne h.ki _, too := h.too.ne h.ti _, is := by have := h.is.set z (.bool v); rwa [rowOf_set] at this }

theorem MDev.low {w : World} {x : MA} {N : Nat} {S : MS} (h : MDev w x N S) : x.m < w.heap.size ∧ x.n < w.heap.size ∧ x.k < w.heap.size ∧ x.t < w.heap.size ∧ x.i < w.heap.size :=
  ⟨h.mo.lt, h.now.lt, h.kept.lt, h.too.lt, h.is.lt⟩

theorem Dev.low {w : World} {p : Nat} {a : DA} {S : DS} (h : Dev w p a S) : a.d < w.heap.size ∧ a.s < w.heap.size ∧ a.k < w.heap.size ∧ a.m < w.heap.size :=
  ⟨h.dev.lt, h.now.lt, h.kept.lt, h.map.lt⟩

set_option maxHeartbeats 4000000 in
/-- Same: of what is the same. -/
theorem same_at (w : World) (p : Nat) (a : DA) (x : MA) (S : DS) (h : Dev w p a S) (hm : MDev w x a.n S.ms) :
    Calls Try.prog 13 #[ptr x.m, ptr a.d] w fun e w' => e = .returned (.bool true) ∧ Keeps [] w w' := by
  have hn := h.few
  have hnb : a.n ≤ 17592186044416 := by have := a.n8; omega
  have c0 := hm.mo.cell 0 rfl
  have c1 := hm.mo.cell 1 rfl
  have HS : Hid (∀ w', Keeps [] w w' → (w'.cell? ⟨x.m, 0, none⟩ = some (.slice (some ⟨x.n, 0, none⟩) a.n a.n) ∧ w'.cell? ⟨x.m, 1, none⟩ = some (.slice (some ⟨x.k, 0, none⟩) a.n x.c) ∧ Keeps [] w w')) :=
    fun w' hk => ⟨(hk.at hm.mo (by simp)).cell 0 rfl, (hk.at hm.mo (by simp)).cell 1 rfl, hk⟩
  have HD : Hid (∀ w', Keeps [] w w' → Dev w' p a S) := fun w' hk => h.keep hk (by simp) (by simp) (by simp) (by simp)
  have HN : Hid (∀ w', Keeps [] w w' → Reads w' (some ⟨x.n, 0, none⟩) a.n S.now) := fun w' hk => hm.now.reads.keep hk (by simp)
  have HK : Hid (∀ w', Keeps [] w w' → Reads w' (some ⟨x.k, 0, none⟩) a.n S.kept) := fun w' hk => hm.kept.reads.keep hk (by simp)
  have gn : ((a.n : Int) == (a.n : Int)) = true := by simp
  clear h hm
  go_enter Try.func13, Try.ntmps13
  go_wp2_with fail
  have k0 : Keeps [] w w.drew := (Keeps.refl _ _).drew
  go_region_held3 (fun w' => w'.cell? ⟨x.m, 0, none⟩ = some (.slice (some ⟨x.n, 0, none⟩) a.n a.n) ∧ w'.cell? ⟨x.m, 1, none⟩ = some (.slice (some ⟨x.k, 0, none⟩) a.n x.c) ∧ Keeps [] w w')
    (first | exact HS.out _ k0 | exact HS.out _ k1 | exact HS.out _ k2 | exact HS.out _ k3 | exact HS.out _ k4)
    (first | (go_at_call 21; refine (len_at _ p a S (HD.out _ k0)).mono ?_; rintro e w' ⟨rfl, rfl⟩)
           | (go_at_call 29; refine (words_at _ p a S (HD.out _ k0)).mono ?_; rintro e w1 ⟨v1, rfl, hv1, hk1⟩; have k1 := k0.trans hk1; obtain ⟨g1, cap1, rfl, _, _, _, hr1⟩ := hv1.reads; clear hv1)
           | (go_at_call 30; refine (kept_at _ p a S (HD.out _ k2)).mono ?_; rintro e w3 ⟨v3, rfl, hv3, hk3⟩; have k3 := k2.trans hk3; obtain ⟨g3, cap3, rfl, _, _, _, hr3⟩ := hv3.reads; clear hv3)
           | (go_at_call 28; refine (equal_true w3 _ _ a.n _ _ S.kept S.kept hr3 (HK.out _ k3) (fun _ _ => rfl) (by omega)).mono ?_; rintro e w4 ⟨rfl, hk4⟩; have k4 := k3.trans hk4)
           | (go_at_call 28; refine (equal_true w1 _ _ a.n _ _ S.now S.now hr1 (HN.out _ k1) (fun _ _ => rfl) (by omega)).mono ?_; rintro e w2 ⟨rfl, hk2⟩; have k2 := k1.trans hk2))
  go_wp2
  go_ret
  exact ⟨rfl, k4⟩

/-- What stands behind Make's first statements. -/
def MMade (w : World) (N : Nat) (s4 : Value) (wx : World) : Prop :=
  ∃ m n t i : Nat, s4 = ptr m ∧ At wx m (.cells #[.slice (some ⟨n, 0, none⟩) N N, .slice none 0 0, .slice (some ⟨t, 0, none⟩) N N, .slice (some ⟨i, 0, none⟩) N N] 36) ∧
    At wx n (.cells (u64s N fun _ => 0) 30) ∧ At wx t (.cells (u64s N fun _ => 0) 30) ∧ At wx i (.cells (rowOf id N fun _ => .bool false) 4) ∧ Keeps [] w wx ∧
    (w.heap.size ≤ m ∧ w.heap.size ≤ n ∧ w.heap.size ≤ t ∧ w.heap.size ≤ i ∧ m ≠ n ∧ m ≠ t ∧ m ≠ i ∧ n ≠ t ∧ n ≠ i ∧ t ≠ i)

theorem mmade {w wx : World} {N m n t i : Nat} (hm : At wx m (.cells #[.slice (some ⟨n, 0, none⟩) N N, .slice none 0 0, .slice (some ⟨t, 0, none⟩) N N, .slice (some ⟨i, 0, none⟩) N N] 36))
    (hn : At wx n (.cells (u64s N fun _ => 0) 30)) (ht : At wx t (.cells (u64s N fun _ => 0) 30)) (hi : At wx i (.cells (rowOf id N fun _ => .bool false) 4)) (hK : Keeps [] w wx)
    (b : w.heap.size ≤ m ∧ w.heap.size ≤ n ∧ w.heap.size ≤ t ∧ w.heap.size ≤ i ∧ m ≠ n ∧ m ≠ t ∧ m ≠ i ∧ n ≠ t ∧ n ≠ i ∧ t ≠ i) : MMade w N (ptr m) wx :=
  ⟨m, n, t, i, rfl, hm, hn, ht, hi, hK, b⟩

set_option maxHeartbeats 1000000 in
/-- Make. -/
theorem make_at (w : World) (x : Option Addr) (n c L : Nat) (f : Nat → Int) (hr : Reads w x n f) (hL : L = (n + 7) / 8) (hn : n ≤ 17592186044416) :
    Calls Try.prog 12 #[.slice x n c] w fun e w' => ∃ m : MA, e = .returned (ptr m.m) ∧ MDev w' m (8 * L) (DS.ms { now := fun i => if i < n then f i else 0, kept := fun i => if i < n then f i else 0, tok := fun _ => 0, is := fun _ => false }) ∧
      (∀ b ∈ m.blocks, w.heap.size ≤ b) ∧ Keeps [] w w' := by
  obtain ⟨N, hN⟩ : ∃ N, N = 8 * L := ⟨_, rfl⟩
  have hmk := run_make_at (P := Try.prog) 22 30 (.int .u64 0) 8 Try.underlying22 (by kernel_rfl) rfl N (by omega) (by omega)
  have hmb := run_make_at (P := Try.prog) 34 4 (.bool false) 1 Try.underlying34 (by kernel_rfl) rfl N (by omega) (by omega)
  have e1 : ((n : Int) + 7) / 8 * 8 = (N : Int) := by omega
  have hb : (n : Int) ≤ 17592186044416 := by omega
  rw [← hN]
  have HN : Hid (n ≤ N) := by show n ≤ N; omega
  have HB : Hid (N ≤ 17592186044416) := by show N ≤ _; omega
  clear hL hN
  go_enter Try.func12, Try.ntmps12
  go_upto_region 2 with fail
  go_cut [4] from 10 (fun s4 wx => MMade w N s4 wx)
  case first =>
    go_region
    all_goals
      go_wp2_with fail
      go_meet
      refine mmade ((At.newk ?_).drew) ?_ ?_ ?_ ?_ ?_
      · simp
      · (first | (refine ((At.newk ?_).alloc _).drew; simp; done) | (refine (((At.newk ?_).alloc _).alloc _).drew; simp; done) | (refine ((((At.newk ?_).alloc _).alloc _).alloc _).drew; simp; done) | (refine ((((At.newk ?_).alloc _).alloc _).alloc _).drew; rfl))
      · (first | (refine ((At.newk ?_).alloc _).drew; simp; done) | (refine (((At.newk ?_).alloc _).alloc _).drew; simp; done) | (refine ((((At.newk ?_).alloc _).alloc _).alloc _).drew; simp; done) | (refine ((((At.newk ?_).alloc _).alloc _).alloc _).drew; rfl))
      · (first | (refine ((At.newk ?_).alloc _).drew; simp; done) | (refine (((At.newk ?_).alloc _).alloc _).drew; simp; done) | (refine ((((At.newk ?_).alloc _).alloc _).alloc _).drew; simp; done) | (refine ((((At.newk ?_).alloc _).alloc _).alloc _).drew; rfl))
      · exact ((((((Keeps.refl [] w).alloc _).alloc _).alloc _).alloc _).drew)
      · omega
  case rest =>
    clear hmk hmb e1
    obtain ⟨bm, bn, bt, bi, rfl, hm, hnn, ht, hi, hK, hbs⟩ := hcut
    have HBS := hid hbs
    clear hbs
    have c0 := hm.cell 0 rfl
    have hr1 := hr.keep hK (by simp)
    go_upto_region 4 with (refine copy64r rfl _ _ rfl bn 0 N N x n c rfl rfl N _ f _ hnn hr1 n (by have := HN.out; omega) (by have := HN.out; omega) ?_; intro w2 hs2 hk2; have hm2 := hk2.at hm (by simpa using HBS.out.2.2.2.2.1); have c2 := hm2.cell 0 rfl; have f2 := hm2.free 1; have c3 := hm2.cell 1 rfl)
    have hR2 : Reads w2 (some ⟨bn, 0, none⟩) N (fun i => if i < n then f i else 0) := by
      have e : u64s N (over (fun _ => 0) f 0 0 n) = u64s N fun i => if i < n then f i else 0 := u64s_congr fun i hi => by simp [over]
      rw [e] at hs2
      exact Reads.of_at0 hs2 (Nat.le_refl _)
    have K2 : Keeps [] w w2 := hK.new hk2 (by simp; exact HBS.out.2.1)
    have ht2 := hk2.at ht (by simpa using HBS.out.2.2.2.2.2.2.2.1.symm)
    have hi2 := hk2.at hi (by simpa using HBS.out.2.2.2.2.2.2.2.2.1.symm)
    go_frame
    go_wp2_with fail
    refine (clone_at w2 ⟨bn, 0, none⟩ N N _ hR2 HB.out).mono ?_
    rintro e w3 ⟨v3, rfl, hv3, hk3⟩
    obtain ⟨bk, cap, cur, rfl, hbk, hkk, hcap, _, hcs, hcr⟩ := hv3
    have HCR := hid hcr
    have HCS := hid hcs
    clear hcr hcs c0 c2
    have hm3 := hk3.at hm2 (by simp)
    have f3 := hm3.free 1
    have c4 := hm3.cell 1 rfl
    clear f2 c3
    go_wp2_with fail
    go_ret
    have hs3 := hk3.at hs2 (by simp)
    have ht3 := hk3.at ht2 (by simp)
    have hi3 := hk3.at hi2 (by simp)
    have z2 := K2.size
    have l1 := hm2.lt
    have l2 := hs2.lt
    have l3 := ht2.lt
    have l4 := hi2.lt
    obtain ⟨q1, q2, q3, q4, q5, q6, q7, q8, q9, q10⟩ := HBS.out
    refine ⟨⟨bm, bn, bk, cap, bt, bi⟩, rfl, ⟨hm3.set 1 _, ?_, ⟨cur, hkk.set_ne (by simp; omega) _, HCS.out, hcap, HCR.out⟩, Row.of_at (ht3.set_ne (by simpa using q6.symm) _), ?_, q5, by show bm ≠ bk; omega, q6, q7, by show bn ≠ bk; omega, q8, q9, by show bk ≠ bt; omega, by show bk ≠ bi; omega, q10⟩, ?_, ?_⟩
    · have e : u64s N (over (fun _ => 0) f 0 0 n) = u64s N fun i => if i < n then f i else 0 := u64s_congr fun i hi => by simp [over]
      rw [e] at hs3
      exact Row.of_at (hs3.set_ne (by simpa using q5.symm) _)
    · exact hi3.set_ne (by simpa using q7.symm) _
    · simp; omega
    · exact (K2.trans hk3).set (.inr q1) _

end Go.Proofs.Ytbpoifcldjlblaa
