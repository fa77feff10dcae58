/- A device in a world, on: what a crash leaves; copies of all words. -/
import Derived.Test.YtcdlikblebdfkaaGreatDev
import Derived.Deep.RegionHeld3
import Derived.Laws.MakeOwn
namespace Go.Proofs.YtcdlikblebdfkaaGreat
open Go.RowKit

/-- n cells that f says. -/
def rowOf {α : Type} (c : α → Value) (n : Nat) (f : Nat → α) : Array Value := Array.ofFn (n := n) fun i => c (f i)

section
variable {α : Type} {c : α → Value}
theorem rowOf_size (n : Nat) (f : Nat → α) : (rowOf c n f).size = n := by simp [rowOf]
theorem rowOf_get {n : Nat} {f : Nat → α} {i : Nat} (h : i < n) : (rowOf c n f)[i]? = some (c (f i)) := by simp [rowOf, h]
theorem rowOf_ext {n : Nat} {a : Array Value} {f : Nat → α} (hs : a.size = n) (h : ∀ i, i < n → a[i]? = some (c (f i))) : a = rowOf c n f := by
  apply Array.ext_getElem?
  intro i
  by_cases hi : i < n
  · rw [h i hi, rowOf_get hi]
  · rw [Array.getElem?_eq_none (by omega), Array.getElem?_eq_none (by rw [rowOf_size]; omega)]
theorem rowOf_congr {n : Nat} {f g : Nat → α} (h : ∀ i, i < n → f i = g i) : rowOf c n f = rowOf c n g :=
  rowOf_ext (rowOf_size _ _) fun i hi => by rw [rowOf_get hi, h i hi]
theorem rowOf_set (n : Nat) (f : Nat → α) (i : Nat) (v : α) : (rowOf c n f).setIfInBounds i (c v) = rowOf c n (put f i v) := by
  refine rowOf_ext (by simp [rowOf_size]) fun j hj => ?_
  rw [Array.getElem?_setIfInBounds]
  by_cases h : i = j
  · subst h
    simp [rowOf_size, hj, put]
  · rw [if_neg h, rowOf_get hj]
    simp [put, Ne.symm h]
end

/-- make, of cells of one kind. -/
theorem run_make_at {P : Program} (t e : TypeId) (z : Value) (b : Nat) (ht : P.underlying t = some (.slice e)) (hi : (P.info? e).map (fun i => (i.zero, i.size, i.bytes)) = some (some z, 1, b)) (hz1 : z.cells = #[z]) (n : Nat)
    (hb : b * n ≤ 281474976710656) (hn : n ≤ 9223372036854775807) (w : World) :
    (Instr.makeSlice t (.int .i64 n) (.int .i64 n)).run P w = .ok (.slice (some ⟨w.heap.size, 0, none⟩) n n) (w.alloc (.cells (rowOf id n fun _ => z) e)) := by
  obtain ⟨i, hi1, hi2⟩ := Option.map_eq_some_iff.1 hi
  simp only [Prod.mk.injEq] at hi2
  obtain ⟨hz, hs, rfl⟩ := hi2
  have hb' : (i.bytes : Int) * (n : Int) ≤ 281474976710656 := by
    have h : ((i.bytes * n : Nat) : Int) ≤ 281474976710656 := by omega
    rwa [Int.natCast_mul] at h
  have h := run_make (P := P) w t e i z ht hi1 hz .i64 .i64 n n (by omega) (by omega) hb' (by omega)
  rw [h, hz1, hs]
  simp only [Int.toNat_natCast, Nat.mul_one]
  congr 3
  refine rowOf_ext (c := id) (size_madeCells _ _) fun j hj => ?_
  simp [madeCells, hj, Nat.mod_one]

/-- What a crash leaves of a word. -/
def leftV (S : DS) (i : Nat) (c : Int) : Int :=
  if c = 1 then (if S.is (i / 8) = true then S.tok i else S.kept i) else if c = 2 then S.now i else S.kept i

set_option maxRecDepth 100000 in
set_option maxHeartbeats 400000 in
theorem left_two (w : World) (p : Nat) (a : DA) (S : DS) (i : Nat) (h : Dev w p a S) (hi : i < a.n) :
    Calls Tryz.prog 125 #[ptr a.d, .int .i64 i, .int .u8 2] w fun e w' => e = .returned (.int .u64 (S.now i)) ∧ w = w' := by
  have c1 := h.dev.cell 1 rfl
  have d1 := h.now.cell i (u64s_get hi)
  have hib : (i : Int) < (a.n : Int) := by omega
  go_enter Tryz.func125, Tryz.ntmps125
  go_wp2
  go_ret
  exact ⟨rfl, rfl⟩

set_option maxRecDepth 100000 in
set_option maxHeartbeats 400000 in
theorem left_none (w : World) (p : Nat) (a : DA) (S : DS) (i : Nat) (h : Dev w p a S) (hi : i < a.n) :
    Calls Tryz.prog 125 #[ptr a.d, .int .i64 i, .int .u8 0] w fun e w' => e = .returned (.int .u64 (S.kept i)) ∧ w = w' := by
  have c2 := h.dev.cell 2 rfl
  have d2 := h.kept.cell i (u64s_get hi)
  have hib : (i : Int) < (a.n : Int) := by omega
  go_enter Tryz.func125, Tryz.ntmps125
  go_wp2
  go_ret
  exact ⟨rfl, rfl⟩

set_option maxRecDepth 100000 in
set_option maxHeartbeats 400000 in
theorem left_one (w : World) (p : Nat) (a : DA) (S : DS) (i : Nat) (h : Dev w p a S) (hi : i < a.n) :
    Calls Tryz.prog 125 #[ptr a.d, .int .i64 i, .int .u8 1] w fun e w' => e = .returned (.int .u64 (if S.is (i / 8) = true then S.tok i else S.kept i)) ∧ Keeps [] w w' := by
  have c2 := h.dev.cell 2 rfl
  have c3 := h.dev.cell 3 rfl
  have d2 := h.kept.cell i (u64s_get hi)
  have hib : (i : Int) < (a.n : Int) := by omega
  have hn := h.few
  have hbb : (i : Int) ≤ 9007199254740992 := by have := a.n8; omega
  obtain ⟨k, hk⟩ : ∃ k, k = i / 8 := ⟨_, rfl⟩
  have e8 : (i : Int) / 8 = (k : Int) := by omega
  have HK := hid hk
  clear hk
  by_cases hs : S.is k = true
  · have hD : lines S.tok S.is (k : Int) = some (lineV S.tok k) := by
      unfold lines
      rw [if_pos ⟨by omega, by rw [Int.toNat_natCast]; exact hs⟩, Int.toNat_natCast]
    have hj : (lineV S.tok k).cells[i % 8]? = some (.int .u64 (S.tok i)) := by
      have := HK.out
      rw [lineV_cells, u64s_get (by omega), show 8 * k + i % 8 = i by omega]
    unfold lineV at hD hj
    simp only [Value.cells] at hj
    have hj2 := hj
    rw [List.getElem?_toArray] at hj2
    have hjb : i % 8 < 8 := by omega
    have e9 : (i : Int) % 8 = ((i % 8 : Nat) : Int) := by omega
    obtain ⟨j, hj0⟩ : ∃ j, j = i % 8 := ⟨_, rfl⟩
    rw [← hj0] at hj hj2 hjb e9
    rw [if_pos (by rw [← HK.out]; exact hs)]
    have HJ := hid hj0
    clear hj0
    go_enter Tryz.func125, Tryz.ntmps125
    go_wp2_with (at_lookup; refine wpList_found_at rfl _ _ _ rfl 3 125 Tryz.underlying74 Tryz.underlying3 (lineV (fun _ => 0) 0) (by kernel_rfl) a.m _ rfl h.map _ rfl _ hD ?_)
    go_ret
    refine ⟨congrArg Ending.returned ?_, (Keeps.refl _ _).alloc _⟩
    exact (List.getElem?_eq_some_iff.1 hj2).2
  · have hD : lines S.tok S.is (k : Int) = none := by
      unfold lines
      rw [if_neg]
      rintro ⟨_, h2⟩
      rw [Int.toNat_natCast] at h2
      exact hs h2
    rw [if_neg (by rw [← HK.out]; exact hs)]
    have l1 := h.dev.lt
    have l2 := h.kept.lt
    go_enter Tryz.func125, Tryz.ntmps125
    go_wp2_with (at_lookup; refine wpList_missed_at rfl _ _ _ rfl 3 125 Tryz.underlying74 Tryz.underlying3 (.agg #[.int .u64 0, .int .u64 0, .int .u64 0, .int .u64 0, .int .u64 0, .int .u64 0, .int .u64 0, .int .u64 0]) (by kernel_rfl) a.m _ rfl h.map _ rfl hD ?_)
    go_ret
    exact ⟨rfl, (Keeps.refl _ _).alloc _⟩

theorem left_at (w : World) (p : Nat) (a : DA) (S : DS) (i : Nat) (c : Int) (h : Dev w p a S) (hi : i < a.n) (h0 : 0 ≤ c) (h3 : c < 3) :
    Calls Tryz.prog 125 #[ptr a.d, .int .i64 i, .int .u8 c] w fun e w' => e = .returned (.int .u64 (leftV S i c)) ∧ Keeps [] w w' := by
  rcases (by omega : c = 0 ∨ c = 1 ∨ c = 2) with rfl | rfl | rfl
  · exact (left_none w p a S i h hi).mono fun e w' ⟨he, hw⟩ => ⟨he, by rw [← hw]; exact Keeps.refl _ _⟩
  · exact (left_one w p a S i h hi).mono fun e w' ⟨he, hw⟩ => ⟨he, hw⟩
  · exact (left_two w p a S i h hi).mono fun e w' ⟨he, hw⟩ => ⟨he, by rw [← hw]; exact Keeps.refl _ _⟩

/-- What is asked of a function that Crash is handed: called with i it tells c i; it turns the blocks of T alone; what it goes by lies in the blocks of R. -/
structure Chooser (F : Nat) (cap : Array Value) (n : Nat) (c : Nat → Int) (T R : List Nat) (J : Nat → World → Prop) : Prop where
  inv : ∀ (w : World) (i : Int), (callFunc F (#[.int .i64 i] ++ cap)).run Tryz.prog w = .ok (.enter F (#[.int .i64 i] ++ cap)) w
  call : ∀ (i : Nat) w, i < n → J i w → Calls Tryz.prog F (#[.int .i64 i] ++ cap) w fun e w' => e = .returned (.int .u8 (c i)) ∧ J (i + 1) w' ∧ Keeps T w w'
  keep : ∀ i w w' S, J i w → Keeps S w w' → (∀ k ∈ R, k ∉ S) → J i w'
  low : ∀ i, 0 ≤ c i ∧ c i ≤ 255

set_option maxRecDepth 100000 in
set_option maxHeartbeats 400000 in
/-- Crash. -/
theorem crash_at (w : World) (p : Nat) (a : DA) (S : DS) (h : Dev w p a S) (F : Nat) (cap : Array Value) (c : Nat → Int) (T R : List Nat) (J : Nat → World → Prop) (hF : Chooser F cap a.n c T R J) (hJ : J 0 w)
    (hT : a.d ∉ T ∧ a.s ∉ T ∧ a.k ∉ T ∧ a.m ∉ T) (hR : a.s ∉ R ∧ a.k ∉ R ∧ a.m ∉ R) (hRl : ∀ k ∈ R, k < w.heap.size) (hTl : ∀ k ∈ T, k < w.heap.size) :
    Calls Tryz.prog 108 #[ptr a.d, .func (.func F) #[] cap] w fun e w' =>
      e = .returned (.tuple #[]) ∧ Dev w' p a { now := fun i => leftV S i (c i % 3), kept := fun i => leftV S i (c i % 3), tok := S.tok, is := fun _ => false } ∧ J a.n w' ∧ Keeps (a.s :: a.k :: a.m :: T) w w' := by
  have HL := hid (len_at w p a S h)
  have hinv := hF.inv
  have hn := h.few
  have hnb : a.n ≤ 17592186044416 := by have := a.n8; omega
  have hmk := run_make_at (P := Tryz.prog) 162 5 (.int .u8 0) 1 Tryz.underlying162 (by kernel_rfl) rfl a.n (by omega) (by omega)
  go_enter Tryz.func108, Tryz.ntmps108
  go_wp2_with fail
  refine HL.out.mono ?_
  rintro e w1 ⟨rfl, rfl⟩
  go_wp2_with fail
  have hC := At.new w (.cells (rowOf id a.n fun _ => .int .u8 0) 5)
  have HMK := hid hmk
  clear hmk
  have hTn : w.heap.size ∉ T := fun hm => by have := hTl _ hm; omega
  have HTn := hid hTn
  have HRl := hid hRl
  have HT := hid hT
  have HR := hid hR
  clear hTn hRl hTl hT hR
  go_loopg [13] a.n (fun r s wr => ∃ i : Nat, i + r = a.n ∧ s = .int .i64 i ∧ J i wr ∧ At wr w.heap.size (.cells (rowOf (Value.int .u8) a.n fun j => if j < i then c j % 3 else 0) 5) ∧ Keeps (w.heap.size :: T) (w.alloc (.cells (rowOf id a.n fun _ => .int .u8 0) 5)) wr)
  case atStart =>
    refine ⟨0, by omega, rfl, hF.keep _ _ _ [] hJ ((Keeps.refl _ _).alloc _) (by simp), ?_, Keeps.refl _ _⟩
    have e : rowOf id a.n (fun _ => Value.int .u8 0) = rowOf (Value.int .u8) a.n fun j => if j < 0 then c j % 3 else 0 :=
      rowOf_ext (rowOf_size _ _) fun j hj => by rw [rowOf_get hj]; simp
    rw [← e]
    exact hC
  case round =>
    obtain ⟨i, hi, rfl, hj, hA, hK⟩ := hrel
    by_cases hlt : i < a.n
    · have HC := hid (hF.call i wr hlt hj)
      have hlow := hF.low i
      go_wp2_with fail
      refine HC.out.mono ?_
      rintro e w1 ⟨rfl, hj1, hk1⟩
      have hA1 := hk1.at hA HTn.out
      have c1 := hA1.cell i (rowOf_get hlt)
      have c2 := hA1.free i
      go_wp2
      go_roundg (a.n - (i + 1))
      case measure => omega
      case rel =>
        have hA2 := hA1.set i (.int .u8 (c i % 3))
        rw [rowOf_set] at hA2
        have e : rowOf (Value.int .u8) a.n (put (fun j => if j < i then c j % 3 else 0) i (c i % 3)) = rowOf (Value.int .u8) a.n fun j => if j < i + 1 then c j % 3 else 0 :=
          rowOf_congr fun j hj => by
            unfold put
            by_cases h1 : j = i
            · subst h1; simp
            · by_cases h2 : j < i
              · simp [h1, h2, show j < i + 1 by omega]
              · simp [h1, h2, show ¬ j < i + 1 by omega]
        rw [e] at hA2
        have hk2 : Keeps [w.heap.size] w1 (w1.setCell ⟨w.heap.size, i, none⟩ (.int .u8 (c i % 3))) := (Keeps.refl _ _).set (.inl (by simp)) _
        exact ⟨i + 1, by omega, by go_num, hF.keep _ _ _ _ hj1 hk2 (fun k hk => by have := HRl.out k hk; simp; omega), hA2, (hK.trans (hk1.mono (by simp +contextual))).trans (hk2.mono (by simp +contextual))⟩
    · have hin : i = a.n := by omega
      subst hin
      obtain ⟨f1, f2, f3, f4⟩ := h.fresh (Nat.le_refl _)
      have hr : Dev wr p a S := (h.keep ((Keeps.refl [] w).alloc (.cells (rowOf id a.n fun _ => .int .u8 0) 5)) (by simp) (by simp) (by simp) (by simp)).keep hK
        (by simp [f1, HT.out.1]) (by simp [f2, HT.out.2.1]) (by simp [f3, HT.out.2.2.1]) (by simp [f4, HT.out.2.2.2])
      have F1 := hid f1
      have F2 := hid f2
      have F3 := hid f3
      have F4 := hid f4
      clear f1 f2 f3 f4 hlt
      go_wp2
      go_loopg [26] a.n (fun r s w2 => ∃ i : Nat, i + r = a.n ∧ s = .int .i64 i ∧ Dev w2 p a { S with now := fun j => if j < i then leftV S j (c j % 3) else S.now j } ∧ Keeps [a.s] wr w2)
      case atStart =>
        exact ⟨0, by omega, rfl, by simpa using hr, Keeps.refl _ _⟩
      case round =>
        obtain ⟨i, hi2, rfl, hD, hK2⟩ := hrel
        have hA2 := hK2.at hA (by simpa using F2.out.symm)
        by_cases hlt : i < a.n
        · have hlow := hF.low i
          have c0 := hA2.cell i (rowOf_get hlt)
          rw [if_pos hlt] at c0
          go_wp2_with fail
          have hDd := hD.keep ((Keeps.refl [] wr).drew) (by simp) (by simp) (by simp) (by simp)
          have HLf := hid (left_at wr.drew p a _ i (c i % 3) hDd hlt (by omega) (by omega))
          have c1 := hDd.dev.cell 1 rfl
          go_region_held3 (fun w' => w'.cell? ⟨a.d, 1, none⟩ = some (.slice (some ⟨a.s, 0, none⟩) a.n a.n)) (first | exact c1 | exact hd3.cell 1 rfl | exact (hd3.set_ne h.ds _).cell 1 rfl)
            (first | (go_at_call 125; refine HLf.out.mono ?_; rintro e w3 ⟨rfl, hk3⟩; have hd3 := hk3.at hDd.dev (by simp); have hs3 := hk3.at hDd.now (by simp); have c3 := hs3.cell i (u64s_get hlt); have c4 := hs3.free i))
          clear c0 c1 c3 c4
          go_wp2
          go_roundg (a.n - (i + 1))
          case measure => omega
          case rel =>
            have h3 := (hDd.keep hk3 (by simp) (by simp) (by simp) (by simp)).set_now i (leftV { S with now := fun j => if j < i then leftV S j (c j % 3) else S.now j } i (c i % 3))
            have e : put (fun j => if j < i then leftV S j (c j % 3) else S.now j) i (leftV { S with now := fun j => if j < i then leftV S j (c j % 3) else S.now j } i (c i % 3)) = fun j => if j < i + 1 then leftV S j (c j % 3) else S.now j := by
              funext j
              unfold put
              by_cases h1 : j = i
              · subst h1; simp [leftV]
              · by_cases h2 : j < i
                · simp [h1, h2, show j < i + 1 by omega]
                · simp [h1, h2, show ¬ j < i + 1 by omega]
            rw [e] at h3
            exact ⟨i + 1, by omega, by go_num, h3, ((hK2.drew).trans (hk3.mono (by simp))).set (.inl (by simp)) _⟩
        · have hin : i = a.n := by omega
          subst hin
          clear hlt hi2
          go_wp2_with fail
          refine wp_region_tail 8 (by kernel_rfl) (by kernel_rfl) ?_
          intro w4 hk4 hz4
          simp only [List.take_succ_cons, List.take_zero, List.drop_succ_cons, List.drop_zero]
          have h4 := hD.keep hk4 (by simp) (by simp) (by simp) (by simp)
          have c1 := h4.dev.cell 1 rfl
          have c2 := h4.dev.cell 2 rfl
          repeat still_step
          refine wpStill_nil ?_
          refine copy64 rfl _ _ rfl a.k 0 a.n a.n a.s 0 a.n a.n rfl rfl a.n a.n _ _ _ _ _ h4.kept h4.now a.n (by omega) (by omega) (by omega) ?_
          intro w5 hk5A hk5
          have hd5 := hk5.at h4.dev (by simpa using h.dk)
          have hs5 := hk5.at h4.now (by simpa using h.sk)
          have hm5 := h4.map.keep hk5 (by simpa using h.km.symm)
          have c3 := hd5.cell 3 rfl
          go_wp2_with (refine wpList_clear_at rfl _ _ rfl 3 125 Tryz.underlying74 a.m _ rfl hm5 ?_; intro w6 hm6 hk6)
          go_end0
          have hkA := (((hK2.mono (S' := [a.s, a.k, a.m]) (by simp +contextual)).new hk4 (by simp)).new hk5 (by simp)).new hk6 (by simp)
          have hjf := hF.keep _ _ _ _ hj hkA (fun k hk => by
            have := HR.out
            simp only [List.mem_cons, List.not_mem_nil, or_false, not_or]
            exact ⟨fun e => this.1 (e ▸ hk), fun e => this.2.1 (e ▸ hk), fun e => this.2.2 (e ▸ hk)⟩)
          refine ⟨rfl, ?_, hjf, ?_⟩
          · exact { h with
              dev := hk6.at hd5 (by simpa using h.dm)
              now := by
                have := hk6.at hs5 (by simpa using h.sm)
                have e : u64s a.n (fun j => if j < a.n then leftV S j (c j % 3) else S.now j) = u64s a.n fun j => leftV S j (c j % 3) := u64s_congr fun j hj => by simp [hj]
                rwa [e] at this
              kept := by
                have := hk6.at hk5A (by simpa using h.km)
                have e : u64s a.n (over S.kept (fun j => if j < a.n then leftV S j (c j % 3) else S.now j) 0 0 a.n) = u64s a.n fun j => leftV S j (c j % 3) := u64s_congr fun j hj => by simp [over, hj]
                rwa [e] at this
              map := hm6.congr fun k => by simp [lines]
              line := fun k hk => by cases hk }
          · have k1 : Keeps (a.s :: a.k :: a.m :: T) w (w.alloc (.cells (rowOf id a.n fun _ => .int .u8 0) 5)) := (Keeps.refl _ _).alloc _
            exact (k1.new hK (by simp +contextual)).new hkA (by simp +contextual)

end Go.Proofs.YtcdlikblebdfkaaGreat
