/- A device in a world: its blocks, what stands, what is kept, what is to be kept; the contracts of its calls. -/
import Derived.Test.YtcdlikblebdfkaaGreatAwk
import Derived.IntWalk
import Derived.Test.YtcdlikblebdfkaaGreatMaps
import Derived.Laws.CopyOwn
import Derived.StillTailTactics
namespace Go.Proofs.YtcdlikblebdfkaaGreat
open Go.RowKit

/-- n cells of 64 bits that f says. -/
def u64s (n : Nat) (f : Nat → Int) : Array Value := Array.ofFn (n := n) fun i => .int .u64 (f i)

theorem u64s_size (n : Nat) (f : Nat → Int) : (u64s n f).size = n := by simp [u64s]

theorem u64s_get {n : Nat} {f : Nat → Int} {i : Nat} (h : i < n) : (u64s n f)[i]? = some (.int .u64 (f i)) := by
  simp [u64s, h]

theorem u64s_ext {n : Nat} {a : Array Value} {f : Nat → Int} (hs : a.size = n) (h : ∀ i, i < n → a[i]? = some (.int .u64 (f i))) : a = u64s n f := by
  apply Array.ext_getElem?
  intro i
  by_cases hi : i < n
  · rw [h i hi, u64s_get hi]
  · rw [Array.getElem?_eq_none (by omega), Array.getElem?_eq_none (by rw [u64s_size]; omega)]

/-- f, but v at i. -/
def put {α : Type} (f : Nat → α) (i : Nat) (v : α) : Nat → α := fun j => if j = i then v else f j

theorem u64s_set (n : Nat) (f : Nat → Int) (i : Nat) (v : Int) : (u64s n f).setIfInBounds i (.int .u64 v) = u64s n (put f i v) := by
  refine u64s_ext (by simp [u64s_size]) fun j hj => ?_
  rw [Array.getElem?_setIfInBounds]
  by_cases h : i = j
  · subst h
    simp [u64s_size, hj, put]
  · rw [if_neg h, u64s_get hj]
    simp [put, Ne.symm h]

theorem u64s_congr {n : Nat} {f g : Nat → Int} (h : ∀ i, i < n → f i = g i) : u64s n f = u64s n g :=
  u64s_ext (u64s_size _ _) fun i hi => by rw [u64s_get hi, h i hi]

/-- f, but n of g's from soff on at off. -/
def over (f g : Nat → Int) (off soff n : Nat) : Nat → Int := fun i => if off ≤ i ∧ i < off + n then g (soff + (i - off)) else f i

theorem u64s_over {N off soff n : Nat} {f g : Nat → Int} (h : off + n ≤ N) :
    ((u64s N f).toList.take off ++ ((List.range n).map fun j => Value.int .u64 (g (soff + j))) ++ (u64s N f).toList.drop (off + ((List.range n).map fun j => Value.int .u64 (g (soff + j))).length)).toArray = u64s N (over f g off soff n) := by
  refine u64s_ext (by simp [u64s_size]; omega) fun i hi => ?_
  have hl : ((u64s N f).toList.take off).length = off := by simp [u64s_size]; omega
  simp only [List.getElem?_toArray, List.length_map, List.length_range]
  by_cases h1 : i < off
  · rw [List.append_assoc, List.getElem?_append_left (by omega), List.getElem?_take_of_lt h1, Array.getElem?_toList, u64s_get hi]
    simp [over, show ¬ off ≤ i by omega]
  · by_cases h2 : i < off + n
    · rw [List.append_assoc, List.getElem?_append_right (by omega), hl, List.getElem?_append_left (by simp; omega)]
      simp [over, h2, show off ≤ i by omega, show i - off < n by omega]
    · rw [List.getElem?_append_right (by simp [u64s_size]; omega), List.getElem?_drop, Array.getElem?_toList]
      rw [show off + n + (i - ((u64s N f).toList.take off ++ (List.range n).map fun j => Value.int .u64 (g (soff + j))).length) = i from by simp [u64s_size]; omega, u64s_get hi]
      simp [over, show ¬ i < off + n by omega]

theorem wpList_copy_at {P : Program} {w : World} {ops : Array Oper} {rest : List Oper} {o : Oper} {a : Act} {Q : Exit → Act → World → Prop} (hgd : o.guard = none) (d s : Operand) (dT sT : TypeId)
    (ho : o.op = .call { callee := .builtin .copy, args := #[d, s], argTypes := #[dT, sT] }) (elem : TypeId) (hu : P.underlying dT = some (.slice elem)) (hsz : (P.info? elem).map (·.size) = some 1)
    (g off dLen dCap b soff sLen sCap : Nat) (hd : a.eval d = .slice (some ⟨g, off, none⟩) dLen dCap) (hs : a.eval s = .slice (some ⟨b, soff, none⟩) sLen sCap)
    (N M : Nat) (f f2 : Nat → Int) (T T2 : TypeId) (fz : Nat × Nat) (hg : At w g (.cells (u64s N f) T (0, 0))) (hb : At w b (.cells (u64s M f2) T2 fz)) (n : Nat) (hn : n = min sLen dLen) (hfit : off + n ≤ N) (hsrc : soff + n ≤ M)
    (hK : ∀ w', At w' g (.cells (u64s N (over f f2 off soff n)) T (0, 0)) → Keeps [g] w w' → wpList P ops Q rest (a.put o.dst (.int .i64 n)) w') :
    wpList P ops Q (o :: rest) a w := by
  have e := u64s_over (soff := soff) (f := f) (g := f2) hfit
  refine wpList_copy_own hgd d s dT sT ho elem hu hsz g off dLen dCap ⟨b, soff, none⟩ sLen sCap hd hs (u64s N f) T hg ((List.range n).map fun j => Value.int .u64 (f2 (soff + j))) (by simpa using hn) ?_ (by simp [u64s_size]; omega) (by simp [Value.oneCell']) ?_
  · intro j v hj
    obtain ⟨hj1, rfl⟩ := List.getElem?_eq_some_iff.1 hj
    have hj2 : j < n := by simpa using hj1
    rw [List.getElem_map, List.getElem_range]
    have e2 : (⟨b, soff, none⟩ : Addr).add j = ⟨b, soff + j, none⟩ := by unfold Addr.add; split <;> simp_all
    rw [e2]
    exact hb.cell (soff + j) (u64s_get (by omega))
  · rw [← List.append_assoc, e]
    have hk : Keeps [g] w (w.setRow g (u64s N (over f f2 off soff n))) := by
      refine ⟨rfl, rfl, rfl, by simp [World.setRow], fun k _ hk => setRow_other w g k _ (by simpa using hk)⟩
    have hh : At (w.setRow g (u64s N (over f f2 off soff n))) g (.cells (u64s N (over f f2 off soff n)) T (0, 0)) := setRow_heap w g _ _ T _ hg
    have := hK _ hh hk
    simpa [goInt] using this

/-- copy, between rows of 64 bits. -/
theorem copy64 {w : World} {ops : Array Oper} {rest : List Oper} {o : Oper} {a : Act} {Q : Exit → Act → World → Prop} (hgd : o.guard = none) (d s : Operand)
    (ho : o.op = .call { callee := .builtin .copy, args := #[d, s], argTypes := #[31, 31] })
    (g off dLen dCap b soff sLen sCap : Nat) (hd : a.eval d = .slice (some ⟨g, off, none⟩) dLen dCap) (hs : a.eval s = .slice (some ⟨b, soff, none⟩) sLen sCap)
    (N M : Nat) (f f2 : Nat → Int) (T T2 : TypeId) (fz : Nat × Nat) (hg : At w g (.cells (u64s N f) T (0, 0))) (hb : At w b (.cells (u64s M f2) T2 fz)) (n : Nat) (hn : n = min sLen dLen) (hfit : off + n ≤ N) (hsrc : soff + n ≤ M)
    (hK : ∀ w', At w' g (.cells (u64s N (over f f2 off soff n)) T (0, 0)) → Keeps [g] w w' → wpList Tryz.prog ops Q rest (a.put o.dst (.int .i64 n)) w') :
    wpList Tryz.prog ops Q (o :: rest) a w :=
  wpList_copy_at hgd d s _ _ ho 26 Tryz.underlying31 (by kernel_rfl) g off dLen dCap b soff sLen sCap hd hs N M f f2 T T2 fz hg hb n hn hfit hsrc hK

/-- A region that draws its order, whose first n operations only read: one walk, in a world that holds what it held; then its tail. -/
theorem wp_region_tail {P : Program} {id : Nat} {Q : Exit → Act → World → Prop} {a : Act} {w : World} {l : List Oper} (n : Nat) (hm : P.follows .mixedOrders = true) (hB : Region.lexTailB .any l.toArray n = true)
    (h : ∀ w2, Keeps [] w w2 → Hid (w2.heap.size = w.heap.size) → wpStill P l.toArray w2 (fun a' => wpList P l.toArray Q (l.drop n) a' w2) (l.take n) a) : (Code.region id l.toArray true).wp P Q a w :=
  wp_region_still_tail n hm hB (h _ ((Keeps.refl _ _).drew) (hid rfl))

/-- Where a device lies: itself, what stands, what is kept, its lines; its power; how many lines. -/
structure DA where
  d : Nat
  s : Nat
  k : Nat
  m : Nat
  L : Nat

def DA.n (a : DA) : Nat := 8 * a.L

theorem DA.n8 (a : DA) : a.n = 8 * a.L := rfl

/-- What a device is: what stands, what is kept, what is to be kept, of which lines. -/
structure DS where
  now : Nat → Int
  kept : Nat → Int
  tok : Nat → Int
  is : Nat → Bool

/-- A line's words as a value. -/
def lineV (f : Nat → Int) (k : Nat) : Value :=
  .agg #[.int .u64 (f (8 * k)), .int .u64 (f (8 * k + 1)), .int .u64 (f (8 * k + 2)), .int .u64 (f (8 * k + 3)), .int .u64 (f (8 * k + 4)), .int .u64 (f (8 * k + 5)), .int .u64 (f (8 * k + 6)), .int .u64 (f (8 * k + 7))]

theorem lineV_cells (f : Nat → Int) (k : Nat) : (lineV f k).cells = u64s 8 fun j => f (8 * k + j) :=
  u64s_ext rfl fun i hi => by
    match i, hi with
    | 0, _ => rfl
    | 1, _ => rfl
    | 2, _ => rfl
    | 3, _ => rfl
    | 4, _ => rfl
    | 5, _ => rfl
    | 6, _ => rfl
    | 7, _ => rfl

/-- The map of a device's lines. -/
def lines (tok : Nat → Int) (is : Nat → Bool) (k : Int) : Option Value := if 0 ≤ k ∧ is k.toNat = true then some (lineV tok k.toNat) else none

abbrev devO (p : Nat) (a : DA) : Obj := .cells #[ptr p, .slice (some ⟨a.s, 0, none⟩) a.n a.n, .slice (some ⟨a.k, 0, none⟩) a.n a.n, .map (some a.m)] 76

/-- A device lies there. -/
structure Dev (w : World) (p : Nat) (a : DA) (S : DS) : Prop where
  dev : At w a.d (devO p a)
  now : At w a.s (.cells (u64s a.n S.now) 26)
  kept : At w a.k (.cells (u64s a.n S.kept) 26)
  map : IMap w a.m (lines S.tok S.is)
  line : ∀ k, S.is k = true → k < a.L
  few : a.L ≤ 2199023255552
  ds : a.d ≠ a.s
  dk : a.d ≠ a.k
  dm : a.d ≠ a.m
  sk : a.s ≠ a.k
  sm : a.s ≠ a.m
  km : a.k ≠ a.m
  pd : p ≠ a.d
  ps : p ≠ a.s
  pk : p ≠ a.k
  pm : p ≠ a.m

abbrev DA.blocks (a : DA) : List Nat := [a.d, a.s, a.k, a.m]

theorem Dev.keep {w w' : World} {p : Nat} {a : DA} {S : DS} {T : List Nat} (h : Dev w p a S) (hk : Keeps T w w') (hd : a.d ∉ T) (hs : a.s ∉ T) (hkk : a.k ∉ T) (hm : a.m ∉ T) : Dev w' p a S :=
  { h with
    dev := hk.at h.dev hd
    now := hk.at h.now hs
    kept := hk.at h.kept hkk
    map := h.map.keep hk hm }

theorem Dev.fresh {w : World} {p : Nat} {a : DA} {S : DS} (h : Dev w p a S) {g : Nat} (hg : w.heap.size ≤ g) : a.d ≠ g ∧ a.s ≠ g ∧ a.k ≠ g ∧ a.m ≠ g := by
  have h1 := h.dev.lt
  have h2 := h.now.lt
  have h3 := h.kept.lt
  have h4 := h.map.lt
  omega

theorem lines_put (tok now : Nat → Int) (is : Nat → Bool) (k : Nat) (z : Int) :
    (if z = (k : Int) then some (lineV now k) else lines tok is z) = lines (fun j => if j / 8 = k then now j else tok j) (put is k true) z := by
  by_cases hz : z = k
  · subst hz
    rw [if_pos rfl]
    unfold lines
    rw [if_pos (by simp [put])]
    simp [lineV, show 8 * k / 8 = k by omega, show (8 * k + 1) / 8 = k by omega, show (8 * k + 2) / 8 = k by omega, show (8 * k + 3) / 8 = k by omega, show (8 * k + 4) / 8 = k by omega,
      show (8 * k + 5) / 8 = k by omega, show (8 * k + 6) / 8 = k by omega, show (8 * k + 7) / 8 = k by omega]
  · rw [if_neg hz]
    unfold lines
    by_cases h0 : 0 ≤ z
    · have hk : z.toNat ≠ k := by omega
      have e : put is k true z.toNat = is z.toNat := by simp [put, hk]
      rw [e]
      by_cases hi : is z.toNat = true
      · rw [if_pos ⟨h0, hi⟩, if_pos ⟨h0, hi⟩]
        obtain ⟨n, hn⟩ : ∃ n, n = z.toNat := ⟨_, rfl⟩
        rw [← hn] at hk ⊢
        simp [lineV, show 8 * n / 8 = n by omega, show (8 * n + 1) / 8 = n by omega, show (8 * n + 2) / 8 = n by omega, show (8 * n + 3) / 8 = n by omega, show (8 * n + 4) / 8 = n by omega,
          show (8 * n + 5) / 8 = n by omega, show (8 * n + 6) / 8 = n by omega, show (8 * n + 7) / 8 = n by omega, hk]
      · rw [if_neg (fun h => hi h.2), if_neg (fun h => hi h.2)]
    · rw [if_neg (fun h => h0 h.1), if_neg (fun h => h0 h.1)]

set_option maxRecDepth 100000 in
set_option maxHeartbeats 400000 in
theorem len_at (w : World) (p : Nat) (a : DA) (S : DS) (h : Dev w p a S) :
    Calls Tryz.prog 49 #[ptr a.d] w fun e w' => e = .returned (.int .i64 a.n) ∧ w = w' := by
  have c1 := h.dev.cell 1 rfl
  go_enter Tryz.func49, Tryz.ntmps49
  go_wp2
  go_ret
  exact ⟨rfl, rfl⟩

/-- Is there such a word? -/
def hasB (i : Int) (n : Nat) : Bool := decide (0 ≤ i ∧ i < n)

set_option maxRecDepth 100000 in
set_option maxHeartbeats 400000 in
theorem has_at (w : World) (p : Nat) (a : DA) (S : DS) (i : Int) (h : Dev w p a S) :
    Calls Tryz.prog 24 #[ptr a.d, .int .i64 i] w fun e w' => e = .returned (.bool (hasB i a.n)) ∧ w = w' := by
  have c1 := h.dev.cell 1 rfl
  by_cases h0 : 0 ≤ i
  · have h1 : decide (0 ≤ i) = true := by simpa using h0
    go_enter Tryz.func24, Tryz.ntmps24
    go_wp2
    go_ret
    refine ⟨?_, rfl⟩
    simp [hasB, h0]
  · have h1 : decide (0 ≤ i) = false := by simpa using h0
    go_enter Tryz.func24, Tryz.ntmps24
    go_wp2
    go_ret
    refine ⟨?_, rfl⟩
    simp [hasB]
    omega

theorem hasB_in {i n : Nat} (h : i < n) : hasB i n = true := by simp [hasB, h]
theorem hasB_out {i : Int} {n : Nat} (h : ¬ (0 ≤ i ∧ i < n)) : hasB i n = false := by simpa [hasB] using h

set_option maxRecDepth 100000 in
set_option maxHeartbeats 400000 in
theorem load_in (w : World) (p : Nat) (a : DA) (S : DS) (i : Nat) (h : Dev w p a S) (hi : i < a.n) :
    Calls Tryz.prog 30 #[ptr a.d, .int .i64 i] w fun e w' => e = .returned (.int .u64 (S.now i)) ∧ w = w' := by
  have c1 := h.dev.cell 1 rfl
  have c2 := h.now.cell i (u64s_get hi)
  have hb := has_at w p a S i h
  rw [hasB_in hi] at hb
  have HB := hid hb
  have hn := h.few
  clear hb
  go_enter Tryz.func30, Tryz.ntmps30
  go_wp2_with fail
  refine HB.out.mono ?_
  rintro e w1 ⟨rfl, rfl⟩
  go_wp2
  go_ret
  exact ⟨rfl, rfl⟩

theorem load_eq (w : World) (p : Nat) (a : DA) (S : DS) (i : Nat) (v : Int) (h : Dev w p a S) (hi : i < a.n) (hv : S.now i = v) :
    Calls Tryz.prog 30 #[ptr a.d, .int .i64 i] w fun e w' => e = .returned (.int .u64 v) ∧ w = w' := by
  rw [← hv]
  exact load_in w p a S i h hi

set_option maxRecDepth 100000 in
set_option maxHeartbeats 400000 in
theorem load_out (w : World) (p : Nat) (a : DA) (S : DS) (i : Int) (h : Dev w p a S) (hi : ¬ (0 ≤ i ∧ i < a.n)) :
    Calls Tryz.prog 30 #[ptr a.d, .int .i64 i] w fun e w' => e = .returned (.int .u64 0) ∧ w = w' := by
  have hb := has_at w p a S i h
  rw [hasB_out hi] at hb
  have HB := hid hb
  clear hb
  go_enter Tryz.func30, Tryz.ntmps30
  go_wp2_with fail
  refine HB.out.mono ?_
  rintro e w1 ⟨rfl, rfl⟩
  go_wp2
  go_ret
  exact ⟨rfl, rfl⟩

/-- The power stays at this step. -/
abbrev Stays (l u : Int) : Prop := l < 0 ∨ u < l

theorem Dev.set_now {w : World} {p : Nat} {a : DA} {S : DS} (h : Dev w p a S) (i : Nat) (v : Int) : Dev (w.setCell ⟨a.s, i, none⟩ (.int .u64 v)) p a { S with now := put S.now i v } :=
  { h with
    dev := h.dev.set_ne h.ds _
    now := by have := h.now.set i (.int .u64 v); rwa [u64s_set] at this
    kept := h.kept.set_ne h.sk.symm _
    map := h.map.keep ((Keeps.refl [a.s] w).set (.inl (by simp)) _) (by simpa using h.sm.symm) }

set_option maxRecDepth 100000 in
set_option maxHeartbeats 400000 in
/-- Store, the power staying. -/
theorem store_in (w : World) (p : Nat) (a : DA) (S : DS) (l u : Int) (i : Nat) (v : Int) (h : Dev w p a S) (hp : At w p (powO l u)) (hi : i < a.n) (hu0 : 0 ≤ u) (hu1 : u < 9223372036854775807) (hst : Stays l u) :
    Calls Tryz.prog 9 #[ptr a.d, .int .i64 i, .int .u64 v] w fun e w' =>
      e = .returned (.int .i64 0) ∧ Dev w' p a { S with now := put S.now i v } ∧ At w' p (powO l (u + 1)) ∧ Keeps [p, a.s] w w' := by
  have c0 := h.dev.cell 0 rfl
  have hb := has_at w p a S i h
  rw [hasB_in hi] at hb
  have HB := hid hb
  have HT := hid (tick_stays p l u w hp hu0 hu1 hst)
  have hn := h.few
  clear hb hst
  go_enter Tryz.func9, Tryz.ntmps9
  go_wp2_with fail
  refine HB.out.mono ?_
  rintro e w1 ⟨rfl, rfl⟩
  go_wp2_with fail
  refine HT.out.mono ?_
  rintro e w1 ⟨rfl, hp1, hk1⟩
  have h1 := h.keep hk1 (by simp [h.pd.symm]) (by simp [h.ps.symm]) (by simp [h.pk.symm]) (by simp [h.pm.symm])
  have c1 := h1.dev.cell 1 rfl
  have c2 := h1.now.cell i (u64s_get hi)
  have c3 := h1.now.free i
  go_wp2
  go_ret
  exact ⟨rfl, h1.set_now i v, hp1.set_ne h.ps _, (hk1.mono (by simp +contextual)).set (.inl (by simp)) _⟩

set_option maxRecDepth 100000 in
set_option maxHeartbeats 400000 in
/-- Store, as the power goes. -/
theorem store_goes (w : World) (p : Nat) (a : DA) (S : DS) (u : Int) (i : Nat) (v : Int) (h : Dev w p a S) (hp : At w p (powO u u)) (hi : i < a.n) (hu0 : 0 ≤ u) (hu1 : u < 9223372036854775807) :
    Calls Tryz.prog 9 #[ptr a.d, .int .i64 i, .int .u64 v] w fun e w' =>
      e = .panicked [{ v := goneV, recovered := false }] ∧ Dev w' p a S ∧ At w' p (powO u u) ∧ Keeps [] w w' := by
  have c0 := h.dev.cell 0 rfl
  have hb := has_at w p a S i h
  rw [hasB_in hi] at hb
  have HB := hid hb
  have HT := hid (tick_goes p u u w hp hu0 hu1 hu0 rfl)
  have hn := h.few
  clear hb
  go_enter Tryz.func9, Tryz.ntmps9
  go_wp2_with fail
  refine HB.out.mono ?_
  rintro e w1 ⟨rfl, rfl⟩
  go_wp2_with fail
  refine HT.out.mono ?_
  rintro e w1 ⟨rfl, hp1, hk1⟩
  exact ⟨rfl, rfl, h.keep hk1 (by simp) (by simp) (by simp) (by simp), hp1, hk1⟩

set_option maxRecDepth 100000 in
set_option maxHeartbeats 400000 in
/-- Store of no word. -/
theorem store_out (w : World) (p : Nat) (a : DA) (S : DS) (i : Int) (v : Int) (h : Dev w p a S) (hi : ¬ (0 ≤ i ∧ i < a.n)) :
    Calls Tryz.prog 9 #[ptr a.d, .int .i64 i, .int .u64 v] w fun e w' => e = .returned (.int .i64 1) ∧ w = w' := by
  have hb := has_at w p a S i h
  rw [hasB_out hi] at hb
  have HB := hid hb
  clear hb hi
  go_enter Tryz.func9, Tryz.ntmps9
  go_wp2_with fail
  refine HB.out.mono ?_
  rintro e w1 ⟨rfl, rfl⟩
  go_wp2
  go_ret
  exact ⟨rfl, rfl⟩

theorem int_div8 (i : Nat) : ((i : Int) / 8) = ((i / 8 : Nat) : Int) := by omega

set_option maxRecDepth 100000 in
set_option maxHeartbeats 400000 in
/-- Flush, the power staying. -/
theorem flush_in (w : World) (p : Nat) (a : DA) (S : DS) (l u : Int) (i : Nat) (h : Dev w p a S) (hp : At w p (powO l u)) (hi : i < a.n) (hu0 : 0 ≤ u) (hu1 : u < 9223372036854775807) (hst : Stays l u) :
    Calls Tryz.prog 60 #[ptr a.d, .int .i64 i] w fun e w' =>
      e = .returned (.int .i64 0) ∧ Dev w' p a { S with tok := fun j => if j / 8 = i / 8 then S.now j else S.tok j, is := put S.is (i / 8) true } ∧ At w' p (powO l (u + 1)) ∧ Keeps [p, a.m] w w' := by
  have c0 := h.dev.cell 0 rfl
  have hb := has_at w p a S i h
  rw [hasB_in hi] at hb
  have HB := hid hb
  have HT := hid (tick_stays p l u w hp hu0 hu1 hst)
  have hn := h.few
  clear hb hst
  obtain ⟨k, hk⟩ : ∃ k, k = i / 8 := ⟨_, rfl⟩
  have HK := hid hk
  have e8 : (i : Int) / 8 = (k : Int) := by omega
  have hib : (i : Int) ≤ 9007199254740992 := by have := a.n8; omega
  have hkb : k ≤ 1125899906842624 := by omega
  obtain ⟨q, hq⟩ : ∃ q, q = 8 * k := ⟨_, rfl⟩
  have e9 : IntKind.i64.wrap ((k : Int) * 8) = (q : Int) := by rw [IntWalk.i64_in _ (by omega)]; omega
  have hq1 : (q : Int) < (a.n : Int) := by have := a.n8; omega
  have hq2 : q < a.n := by omega
  have hq3 : ¬ a.n = q := by omega
  have hq4 : (0 : Int) ≤ (q : Int) := by omega
  have hq5 : (q : Int) ≤ (a.n : Int) := by omega
  have HQ := hid hq
  clear hk hq
  go_enter Tryz.func60, Tryz.ntmps60
  go_wp2_with fail
  refine HB.out.mono ?_
  rintro e w1 ⟨rfl, rfl⟩
  go_wp2_with fail
  refine HT.out.mono ?_
  rintro e w1 ⟨rfl, hp1, hk1⟩
  have h1 := h.keep hk1 (by simp [h.pd.symm]) (by simp [h.ps.symm]) (by simp [h.pk.symm]) (by simp [h.pm.symm])
  have c1 := h1.dev.cell 1 rfl
  have c3 := h1.dev.cell 3 rfl
  have c2 := h1.now.cell i (u64s_get hi)
  go_wp2
  have h1b : Dev (w1.alloc (.cells #[.int .u64 0, .int .u64 0, .int .u64 0, .int .u64 0, .int .u64 0, .int .u64 0, .int .u64 0, .int .u64 0] 125)) p a S := h1.keep ((Keeps.refl [] _).alloc _) (by simp) (by simp) (by simp) (by simp)
  have hL := At.new w1 (.cells #[.int .u64 0, .int .u64 0, .int .u64 0, .int .u64 0, .int .u64 0, .int .u64 0, .int .u64 0, .int .u64 0] 125)
  refine wp_region_tail 8 (by kernel_rfl) (by kernel_rfl) ?_
  intro w2 hk2 hz2
  simp only [List.take_succ_cons, List.take_zero, List.drop_succ_cons, List.drop_zero]
  have h2 := h1b.keep hk2 (by simp) (by simp) (by simp) (by simp)
  have c1 := h2.dev.cell 1 rfl
  repeat still_step
  refine wpStill_nil ?_
  have hL2 := hk2.at hL (by simp)
  refine copy64 rfl _ _ rfl w1.heap.size 0 8 8 a.s q (a.n - q) (a.n - q) rfl rfl 8 a.n (fun _ => 0) S.now _ _ _ hL2 h2.now 8 (by have := HQ.out; have := HK.out; have := a.n8; omega) (by omega) (by have := HQ.out; have := HK.out; have := a.n8; omega) ?_
  intro w3 hL3 hk3
  obtain ⟨f1, f2, f3, f4⟩ := h1.fresh (Nat.le_refl _)
  have h3 := h2.keep hk3 (by simpa using f1) (by simpa using f2) (by simpa using f3) (by simpa using f4)
  clear f1 f2 f3 f4
  have c3 := h3.dev.cell 3 rfl
  go_wp2_with fail
  refine wp_region_tail 6 (by kernel_rfl) (by kernel_rfl) ?_
  intro w4 hk4 hz4
  simp only [List.take_succ_cons, List.take_zero, List.drop_succ_cons, List.drop_zero]
  have h4 := h3.keep hk4 (by simp) (by simp) (by simp) (by simp)
  have hL4 := hk4.at hL3 (by simp)
  have c3 := h4.dev.cell 3 rfl
  have d0 := hL4.cell 0 (u64s_get (by omega))
  have d1 := hL4.cell 1 (u64s_get (by omega))
  have d2 := hL4.cell 2 (u64s_get (by omega))
  have d3 := hL4.cell 3 (u64s_get (by omega))
  have d4 := hL4.cell 4 (u64s_get (by omega))
  have d5 := hL4.cell 5 (u64s_get (by omega))
  have d6 := hL4.cell 6 (u64s_get (by omega))
  have d7 := hL4.cell 7 (u64s_get (by omega))
  repeat still_step
  refine wpStill_nil ?_
  refine wpList_update_at rfl _ _ _ _ rfl 3 125 Tryz.underlying74 Tryz.underlying3 a.m _ rfl h4.map k _ rfl rfl ?_
  intro w5 hM5 hk5
  have e : ∀ j, j < 8 → over (fun _ => 0) S.now 0 q 8 j = S.now (8 * k + j) := by
    intro j hj
    have := HQ.out
    simp [over, hj, this]
  rw [e 0 (by omega), e 1 (by omega), e 2 (by omega), e 3 (by omega), e 4 (by omega), e 5 (by omega), e 6 (by omega), e 7 (by omega)] at hM5
  have hM6 := hM5.congr (lines_put S.tok S.now S.is k)
  have HM6 := hid hM6
  clear hM5 hM6 e d0 d1 d2 d3 d4 d5 d6 d7 hL4 c3 e8 e9 hq3
  go_wp2
  go_ret
  have hK := HK.out
  subst hK
  have hp5 : At w5 p (powO l (u + 1)) := by
    have q1 := hk2.at (hp1.alloc (.cells #[.int .u64 0, .int .u64 0, .int .u64 0, .int .u64 0, .int .u64 0, .int .u64 0, .int .u64 0, .int .u64 0] 125)) (by simp)
    have q2 := hk3.at q1 (by have := hp1.lt; simp; omega)
    exact hk5.at (hk4.at q2 (by simp)) (by simpa using h.pm)
  have hk : Keeps [p, a.m] w w5 := by
    exact ((((((hk1.mono (S' := [p, a.m]) (by simp +contextual)).alloc _).new hk2 (by simp)).new hk3 (by have := hk1.size; simp; omega)).new hk4 (by simp)).new hk5 (by simp))
  refine ⟨rfl, ?_, hp5, hk⟩
  exact { h with
    dev := hk5.at h4.dev (by simpa using h.dm)
    now := hk5.at h4.now (by simpa using h.sm)
    kept := hk5.at h4.kept (by simpa using h.km)
    map := HM6.out
    line := fun k hk => by
      by_cases hkk : k = i / 8
      · have := a.n8; omega
      · exact h.line k (by simpa [put, hkk] using hk) }

set_option maxRecDepth 100000 in
set_option maxHeartbeats 400000 in
/-- Flush, as the power goes. -/
theorem flush_goes (w : World) (p : Nat) (a : DA) (S : DS) (u : Int) (i : Nat) (h : Dev w p a S) (hp : At w p (powO u u)) (hi : i < a.n) (hu0 : 0 ≤ u) (hu1 : u < 9223372036854775807) :
    Calls Tryz.prog 60 #[ptr a.d, .int .i64 i] w fun e w' =>
      e = .panicked [{ v := goneV, recovered := false }] ∧ Dev w' p a S ∧ At w' p (powO u u) ∧ Keeps [] w w' := by
  have c0 := h.dev.cell 0 rfl
  have hb := has_at w p a S i h
  rw [hasB_in hi] at hb
  have HB := hid hb
  have HT := hid (tick_goes p u u w hp hu0 hu1 hu0 rfl)
  have hn := h.few
  clear hb
  go_enter Tryz.func60, Tryz.ntmps60
  go_wp2_with fail
  refine HB.out.mono ?_
  rintro e w1 ⟨rfl, rfl⟩
  go_wp2_with fail
  refine HT.out.mono ?_
  rintro e w1 ⟨rfl, hp1, hk1⟩
  exact ⟨rfl, rfl, h.keep hk1 (by simp) (by simp) (by simp) (by simp), hp1, hk1⟩

set_option maxRecDepth 100000 in
set_option maxHeartbeats 400000 in
/-- Flush of no word. -/
theorem flush_out (w : World) (p : Nat) (a : DA) (S : DS) (i : Int) (h : Dev w p a S) (hi : ¬ (0 ≤ i ∧ i < a.n)) :
    Calls Tryz.prog 60 #[ptr a.d, .int .i64 i] w fun e w' => e = .returned (.int .i64 1) ∧ w = w' := by
  have hb := has_at w p a S i h
  rw [hasB_out hi] at hb
  have HB := hid hb
  clear hb hi
  go_enter Tryz.func60, Tryz.ntmps60
  go_wp2_with fail
  refine HB.out.mono ?_
  rintro e w1 ⟨rfl, rfl⟩
  go_wp2
  go_ret
  exact ⟨rfl, rfl⟩

set_option maxRecDepth 100000 in
set_option maxHeartbeats 400000 in
/-- Fence, as the power goes. -/
theorem fence_goes (w : World) (p : Nat) (a : DA) (S : DS) (u : Int) (h : Dev w p a S) (hp : At w p (powO u u)) (hu0 : 0 ≤ u) (hu1 : u < 9223372036854775807) :
    Calls Tryz.prog 61 #[ptr a.d] w fun e w' =>
      e = .panicked [{ v := goneV, recovered := false }] ∧ Dev w' p a S ∧ At w' p (powO u u) ∧ Keeps [] w w' := by
  have c0 := h.dev.cell 0 rfl
  have HT := hid (tick_goes p u u w hp hu0 hu1 hu0 rfl)
  go_enter Tryz.func61, Tryz.ntmps61
  go_wp2_with fail
  refine HT.out.mono ?_
  rintro e w1 ⟨rfl, hp1, hk1⟩
  exact ⟨rfl, rfl, h.keep hk1 (by simp) (by simp) (by simp) (by simp), hp1, hk1⟩

set_option maxRecDepth 100000 in
set_option maxHeartbeats 400000 in
/-- Fence, the power staying. -/
theorem fence_at (w : World) (p : Nat) (a : DA) (S : DS) (l u : Int) (h : Dev w p a S) (hp : At w p (powO l u)) (hu0 : 0 ≤ u) (hu1 : u < 9223372036854775807) (hst : Stays l u) :
    Calls Tryz.prog 61 #[ptr a.d] w fun e w' =>
      e = .returned (.tuple #[]) ∧ Dev w' p a { S with kept := fun i => if S.is (i / 8) = true then S.tok i else S.kept i, is := fun _ => false } ∧ At w' p (powO l (u + 1)) ∧ Keeps [p, a.k, a.m] w w' := by
  have c0 := h.dev.cell 0 rfl
  have HT := hid (tick_stays p l u w hp hu0 hu1 hst)
  have hn := h.few
  clear hst
  go_enter Tryz.func61, Tryz.ntmps61
  go_wp2_with fail
  refine HT.out.mono ?_
  rintro e w1 ⟨rfl, hp1, hk1⟩
  have h1 := h.keep hk1 (by simp [h.pd.symm]) (by simp [h.ps.symm]) (by simp [h.pk.symm]) (by simp [h.pm.symm])
  have c3 := h1.dev.cell 3 rfl
  go_wp2_with (at_range; refine wpList_range_at rfl _ _ rfl 3 125 Tryz.underlying74 a.m _ rfl h1.map ?_; intro w2 cnt hr2 hk2 hz2)
  go_frame
  have h2 := h1.keep hk2 (by simp) (by simp) (by simp) (by simp)
  have hp2 := hk2.at hp1 (by simp)
  obtain ⟨f1, f2, f3, f4⟩ := h1.fresh (Nat.le_refl _)
  have F1 := hid f1
  have F2 := hid f2
  have F3 := hid f3
  have F4 := hid f4
  have FP : Hid (p ≠ w1.heap.size) := by have := hp1.lt; show p ≠ _; omega
  clear f1 f2 f3 f4 c3
  go_loopg [2] cnt (fun r _ wr => ∃ left : Int → Bool, IRange wr w1.heap.size a.m (lines S.tok S.is) left r ∧
    At wr a.k (.cells (u64s a.n fun i => if S.is (i / 8) = true ∧ left ((i / 8 : Nat) : Int) = false then S.tok i else S.kept i) 26) ∧ Keeps [a.k, w1.heap.size] w2 wr)
  case atStart =>
    refine ⟨_, hr2, ?_, Keeps.refl _ _⟩
    have e : u64s a.n (fun i => if S.is (i / 8) = true ∧ (lines S.tok S.is ((i / 8 : Nat) : Int)).isSome = false then S.tok i else S.kept i) = u64s a.n S.kept := by
      refine u64s_congr fun i _ => ?_
      rw [if_neg]
      rintro ⟨hi, hl⟩
      unfold lines at hl
      rw [if_pos ⟨by omega, by rw [Int.toNat_natCast]; exact hi⟩] at hl
      cases hl
    rw [e]
    exact h2.kept
  case round =>
    obtain ⟨left, hR, hA, hK⟩ := hrel
    have hd := hK.at h2.dev (by simp [h.dk, F1.out])
    have c0 := hd.cell 0 rfl
    have c3 := hd.cell 3 rfl
    go_wp2_with (at_next; refine wpList_next_at rfl _ rfl w1.heap.size a.m _ left gk rfl hR F4.out.symm ?_ ?_)
    · intro hr0 hl
      have HL := hid hl
      clear hl
      go_wp2_with (refine wpList_clear_at rfl _ _ rfl 3 125 Tryz.underlying74 a.m _ rfl hR.map ?_; intro w3 hm3 hk3)
      go_end0
      have hk' : Keeps [p, a.k, a.m] w w3 := by
        refine ((((hk1.mono (S' := [p, a.k, a.m]) (by simp +contextual)).new hk2 (by simp)).new hK ?_).new hk3 (by simp))
        have := hk1.size
        simp
        omega
      refine ⟨rfl, ?_, ?_, hk'⟩
      · exact { h with
          dev := hk3.at hd (by simpa using h.dm)
          now := hk3.at (hK.at h2.now (by simp [h.sk, F2.out])) (by simpa using h.sm)
          kept := by
            have := hk3.at hA (by simpa using h.km)
            have e : u64s a.n (fun i => if S.is (i / 8) = true ∧ left ((i / 8 : Nat) : Int) = false then S.tok i else S.kept i) = u64s a.n (fun i => if S.is (i / 8) = true then S.tok i else S.kept i) :=
              u64s_congr fun i _ => by simp [HL.out]
            rwa [e] at this
          map := hm3.congr fun k => by simp [lines]
          line := fun k hk => by cases hk }
      · exact hk3.at (hK.at hp2 (by simp [h.pk, FP.out])) (by simpa using h.pm)
    · intro k v w3 cnt' hlk hD hlt hR3 hk3 hen
      obtain ⟨kk, rfl, hik, hv⟩ : ∃ kk : Nat, k = kk ∧ S.is kk = true ∧ v = lineV S.tok kk := by
        unfold lines at hD
        split at hD
        · rename_i hc
          refine ⟨k.toNat, by omega, hc.2, ?_⟩
          exact (Option.some.inj hD).symm
        · cases hD
      unfold lineV at hv
      subst hv
      have hkL := h.line kk hik
      have hd3 := hk3.at hd (by simpa using F1.out)
      have hA3 := hk3.at hA (by simpa using F3.out)
      go_wp2_with fail
      have hL := At.new w3 (.cells (lineV S.tok kk).cells 125)
      rw [lineV_cells] at hL
      have HR3 := hid hR3
      have HLK := hid hlk
      clear hen hD hR3 hlk
      obtain ⟨q, hq⟩ : ∃ q, q = 8 * kk := ⟨_, rfl⟩
      have e9 : IntKind.i64.wrap ((kk : Int) * 8) = (q : Int) := by rw [IntWalk.i64_in _ (by omega)]; omega
      have hq1 : (q : Int) < (a.n : Int) := by have := a.n8; omega
      have hq3 : ¬ a.n = q := by omega
      have hq4 : (0 : Int) ≤ (q : Int) := by omega
      have hq5 : (q : Int) ≤ (a.n : Int) := by omega
      have HQ := hid hq
      clear hq
      refine wp_region_tail 8 (by kernel_rfl) (by kernel_rfl) ?_
      intro w4 hk4 hz4
      simp only [List.take_succ_cons, List.take_zero, List.drop_succ_cons, List.drop_zero]
      have hL4 := hk4.at hL (by simp)
      have hd4 := hk4.at (hd3.alloc _) (by simp)
      have hA4 := hk4.at (hA3.alloc _) (by simp)
      have hR4 := HR3.out.keep (((Keeps.refl [] w3).alloc _).trans hk4) (by simp) (by simp)
      have c2 := hd4.cell 2 rfl
      repeat still_step
      refine wpStill_nil ?_
      refine copy64 rfl _ _ rfl a.k q (a.n - q) (a.n - q) w3.heap.size 0 8 8 rfl rfl a.n 8 _ _ _ _ _ hA4 hL4 8 (by have := HQ.out; have := a.n8; omega) (by have := HQ.out; have := a.n8; omega) (by omega) ?_
      intro w5 hA5 hk5
      have hR5 := hR4.keep hk5 (by simpa using h.km.symm) (by simpa using F3.out.symm)
      have hk53 : Keeps [a.k, w1.heap.size] w2 w5 := (((hK.new hk3 (by simp)).alloc _).new hk4 (by simp)).new hk5 (by simp)
      clear e9 hq3 c2 c3 c0
      go_wp2_with fail
      go_roundg cnt'
      case measure => exact hlt
      case rel =>
        refine ⟨_, hR5, ?_, hk53⟩
        have e : u64s a.n (over (fun i => if S.is (i / 8) = true ∧ left ((i / 8 : Nat) : Int) = false then S.tok i else S.kept i) (fun j => S.tok (8 * kk + j)) q 0 8) =
            u64s a.n (fun i => if S.is (i / 8) = true ∧ (left ((i / 8 : Nat) : Int) && !decide (((i / 8 : Nat) : Int) = (kk : Int))) = false then S.tok i else S.kept i) := by
          refine u64s_congr fun i hi => ?_
          have hq := HQ.out
          subst hq
          unfold over
          by_cases hik2 : i / 8 = kk
          · rw [if_pos (by omega), hik2, hik, if_pos (by simp)]
            show S.tok (8 * kk + (0 + (i - 8 * kk))) = S.tok i
            rw [show 8 * kk + (0 + (i - 8 * kk)) = i by omega]
          · rw [if_neg (by omega)]
            have : decide (((i / 8 : Nat) : Int) = (kk : Int)) = false := by rw [decide_eq_false_iff_not]; omega
            rw [this, Bool.not_false, Bool.and_true]
        rw [← e]
        exact hA5

end Go.Proofs.YtcdlikblebdfkaaGreat
