/- What a section's definition is made of: its span, its rows. -/
import Derived.Test.YtkoflpcpopmkkaaGreatP6
import Derived.Test.YtkoflpcpopmkkaaGreatSecG
import Derived.Test.YtkoflpcpopmkkaaGreatRowA
import Derived.Maps.AppendAt
namespace Go.Proofs.YtkoflpcpopmkkaaGreat
open Go.RowKit Go.OpenShut

set_option maxRecDepth 100000 in
set_option maxHeartbeats 2000000 in
theorem span_at (w : World) (c : Cfg) (hc : c.Ok) (fr : Nat) (hfr : fr ≤ 255) :
    Calls Tryz.prog 52 #[cfgV c, .int .u8 fr] w fun e w' => e = .returned (spV ((c.words : Int) - (fr % 20 : Nat)) c.words) ∧ Keeps [] w w' := by
  have hs := hc.small
  have hw := words_ge hc
  have hwb : (c.words : Int) ≤ 15000 := by omega
  have hwl : (40 : Int) ≤ c.words := by omega
  have hfi : (fr : Int) ≤ 255 := by omega
  obtain ⟨z, hz⟩ : ∃ z, z = fr % 20 := ⟨_, rfl⟩
  have hzb : (z : Int) ≤ 19 := by omega
  have e1 : (fr : Int) % 20 = (z : Int) := by omega
  have e2 : (fr : Int).tmod 20 = (z : Int) := by rw [Int.tmod_eq_emod_of_nonneg (by omega)]; exact e1
  have EK := hid (show IntKind.i64.wrap ((fr : Int).tmod 20) = (z : Int) by rw [e2]; exact IntWalk.i64_in _ (by omega))
  have ES := hid (show IntKind.i64.wrap ((c.words : Int) - (z : Int)) = (c.words : Int) - (z : Int) from IntWalk.i64_in _ (by omega))
  rw [← hz]
  clear hz hw e1 e2
  go_enter Tryz.func52, Tryz.ntmps52
  go_upto_region 1 with fail
  have hB0 := (At.new w (cfgO c)).alloc (spO 0 0)
  have hR0 := At.new (w.alloc (cfgO c)) (spO 0 0)
  have K0 := ((Keeps.refl [] w).alloc (cfgO c)).alloc (spO 0 0)
  rw [show (w.alloc (cfgO c)).heap.size = w.heap.size + 1 by simp] at hR0
  obtain ⟨w0, hw0⟩ : ∃ w0, w0 = (w.alloc (cfgO c)).alloc (spO 0 0) := ⟨_, rfl⟩
  rw [← hw0] at hB0 hR0 K0 ⊢
  clear hw0
  have HC : Hid (∀ w', Keeps [] w0 w' → (w'.cell? ⟨w.heap.size, 0, none⟩ = some (.int .i64 c.log) ∧ w'.cell? ⟨w.heap.size, 1, none⟩ = some (.int .i64 c.roots) ∧ w'.cell? ⟨w.heap.size, 2, none⟩ = some (.int .i64 c.space))) :=
    fun w' hk => ⟨(hk.at hB0 (by simp)).cell 0 rfl, (hk.at hB0 (by simp)).cell 1 rfl, (hk.at hB0 (by simp)).cell 2 rfl⟩
  have HC2 : Hid (∀ w' v1 v2, Keeps [] w0 w' → ((((w'.setCell ⟨w.heap.size + 1, 0, none⟩ v1).setCell ⟨w.heap.size + 1, 1, none⟩ v2).cell? ⟨w.heap.size, 0, none⟩ = some (.int .i64 c.log) ∧ ((w'.setCell ⟨w.heap.size + 1, 0, none⟩ v1).setCell ⟨w.heap.size + 1, 1, none⟩ v2).cell? ⟨w.heap.size, 1, none⟩ = some (.int .i64 c.roots) ∧ ((w'.setCell ⟨w.heap.size + 1, 0, none⟩ v1).setCell ⟨w.heap.size + 1, 1, none⟩ v2).cell? ⟨w.heap.size, 2, none⟩ = some (.int .i64 c.space)))) := fun w' v1 v2 hk => by
    have h := ((hk.at hB0 (by simp)).set_ne (a := ⟨w.heap.size + 1, 0, none⟩) (by simp) v1).set_ne (a := ⟨w.heap.size + 1, 1, none⟩) (by simp) v2
    exact ⟨h.cell 0 rfl, h.cell 1 rfl, h.cell 2 rfl⟩
  have HR := hid (fun (w' : World) (hk : Keeps [] w0 w') => show w'.cell? ⟨w.heap.size + 1, 0, none⟩ = some (.int .i64 0) ∧ w'.cell? ⟨w.heap.size + 1, 1, none⟩ = some (.int .i64 0) ∧ w'.frozen? ⟨w.heap.size + 1, 0, none⟩ = false ∧ w'.frozen? ⟨w.heap.size + 1, 1, none⟩ = false from ⟨(hk.at hR0 (by simp)).cell 0 rfl, (hk.at hR0 (by simp)).cell 1 rfl, (hk.at hR0 (by simp)).free 0, (hk.at hR0 (by simp)).free 1⟩)
  have kk : Keeps [] w0 w0.drew := (Keeps.refl _ _).drew
  go_region_held3 (fun w' => w'.cell? ⟨w.heap.size, 0, none⟩ = some (.int .i64 c.log) ∧ w'.cell? ⟨w.heap.size, 1, none⟩ = some (.int .i64 c.roots) ∧ w'.cell? ⟨w.heap.size, 2, none⟩ = some (.int .i64 c.space))
    (first | exact HC.out _ kk | exact HC2.out _ _ _ kk)
    (first | (go_at_call 28; refine (cwords_at _ c hs).mono ?_; rintro e w' ⟨rfl, hk1⟩; have kk := kk.trans hk1; clear hk1; obtain ⟨x0, x1, f0, f1⟩ := HR.out _ kk))
  all_goals
    go_wp2_with fail
    rw [EK.out, ES.out]
    have hF := ((kk.at hR0 (by simp)).set 0 (.int .i64 ((c.words : Int) - (z : Int)))).set 1 (.int .i64 c.words)
    have x0 := hF.cell 0 rfl
    have x1 := hF.cell 1 rfl
    refine bodyPost_ret (v := spV ((c.words : Int) - (z : Int)) c.words) (by simp [results, Tryz.results52, go_sem, x0, x1]) rfl ?_
    exact ⟨rfl, ((K0.trans kk).set (.inr (by simp)) _).set (.inr (by simp)) _⟩

set_option maxRecDepth 100000 in
set_option maxHeartbeats 2000000 in
theorem index_at (w : World) (x : Option Addr) (n cp : Nat) (f : Nat → Nat) (B i : Nat) (h : OwnI w B x cp n f) (hn : n ≤ 1000) :
    Calls Tryz.prog 77 #[.slice x n cp, .int .i64 i] w fun e w' => (∃ k : Nat, k < n ∧ f k = i ∧ e = .returned (.int .i64 k) ∧ w = w') ∨ (¬ HasR n f i ∧ e = .returned (.int .i64 (-1)) ∧ w = w') := by
  have hni : (n : Int) ≤ 1000 := by omega
  have HF := hid h.form
  clear h
  go_enter Tryz.func77, Tryz.ntmps77
  go_wp2_with fail
  go_loopg [8] n (fun r sl wr => ∃ k : Nat, k + r = n ∧ sl = .int .i64 k ∧ w = wr ∧ ∀ j, j < k → f j ≠ i)
  case atStart => exact ⟨0, by omega, rfl, rfl, fun j hj => by omega⟩
  case round =>
    obtain ⟨k, hk, rfl, rfl, hno⟩ := hrel
    have HNO := hid hno
    clear hno
    by_cases hlt : k < n
    · obtain ⟨g, cur, rfl, hg, hA, hcur⟩ : ∃ g cur, x = some ⟨g, 0, none⟩ ∧ B ≤ g ∧ At w g (.cells cur 3) ∧ ∀ i, i < n → cur[i]? = some (.int .i64 (f i : Nat)) := by
        rcases HF.out with ⟨_, h⟩ | h
        · omega
        · exact h
      have d0 : w.cell? ⟨g, k, none⟩ = some (.int .i64 (f k : Nat)) := hA.cell k (hcur k hlt)
      have hki : (k : Int) ≤ 1000 := by omega
      obtain ⟨z, hz⟩ : ∃ z, z = f k := ⟨_, rfl⟩
      rw [← hz] at d0
      have HZ := hid hz
      clear hz hcur
      by_cases hiz : i = z
      · subst hiz
        go_wp2_with fail
        go_ret
        exact .inl ⟨k, hlt, HZ.out.symm, rfl, rfl⟩
      · have t1 : ((i : Int) == (z : Int)) = false := by rw [beq_eq_false_iff_ne]; omega
        have t2 : (i == z) = false := by rw [beq_eq_false_iff_ne]; exact hiz
        have HIZ := hid hiz
        clear hiz
        go_wp2_with fail
        go_roundg (n - (k + 1))
        case measure => omega
        case rel => exact ⟨k + 1, by omega, by go_num, rfl, fun j hj => by
          by_cases hjk : j = k
          · subst hjk; rw [← HZ.out]; exact fun e => HIZ.out e.symm
          · exact HNO.out j (by omega)⟩
    · have hkn : k = n := by omega
      subst hkn
      go_wp2_with fail
      go_ret
      exact .inr ⟨fun ⟨j, hj, e⟩ => HNO.out j hj e, rfl, rfl⟩

set_option maxHeartbeats 1000000 in
theorem contains_yes (w : World) (x : Option Addr) (n cp : Nat) (f : Nat → Nat) (B i : Nat) (h : OwnI w B x cp n f) (hn : n ≤ 1000) (hp : HasR n f i) :
    Calls Tryz.prog 53 #[.slice x n cp, .int .i64 i] w fun e w' => e = .returned (.bool true) ∧ w = w' := by
  have HI := hid (index_at w x n cp f B i h hn)
  have HP := hid hp
  clear h hp
  go_enter Tryz.func53, Tryz.ntmps53
  go_wp2_with fail
  refine HI.out.mono ?_
  rintro e w1 (⟨k, h1, h2, rfl, rfl⟩ | ⟨h1, rfl, rfl⟩)
  · have hk0 : (0 : Int) ≤ (k : Int) := by omega
    go_wp2_with fail
    go_ret
    simp
  · exact absurd HP.out h1

set_option maxHeartbeats 1000000 in
theorem contains_no (w : World) (x : Option Addr) (n cp : Nat) (f : Nat → Nat) (B i : Nat) (h : OwnI w B x cp n f) (hn : n ≤ 1000) (hp : ¬ HasR n f i) :
    Calls Tryz.prog 53 #[.slice x n cp, .int .i64 i] w fun e w' => e = .returned (.bool false) ∧ w = w' := by
  have HI := hid (index_at w x n cp f B i h hn)
  have HP := hid hp
  clear h hp
  go_enter Tryz.func53, Tryz.ntmps53
  go_wp2_with fail
  refine HI.out.mono ?_
  rintro e w1 (⟨k, h1, h2, rfl, rfl⟩ | ⟨h1, rfl, rfl⟩)
  · exact absurd ⟨k, h1, h2⟩ HP.out
  · go_wp2_with fail
    go_ret
    simp

/-- append of a place, at a step of a region. -/
theorem appI_list {ops : Array Oper} {rest : List Oper} {o : Oper} {a : Act} {w : World} {Q : Exit → Act → World → Prop} (hgd : o.guard = none) (s x : Operand)
    (ho : o.op = .call { callee := .builtin .append, args := #[s, x], argTypes := #[40, 40] })
    (B : Nat) (xx : Option Addr) (cp n : Nat) (f : Nat → Nat) (hs : a.eval s = .slice xx n cp) (hown : OwnI w B xx cp n f) (b c i : Nat) (hx : a.eval x = .slice (some ⟨b, 0, none⟩) 1 c) (hc : w.cell? ⟨b, 0, none⟩ = some (.int .i64 (i : Nat)))
    (hn : n ≤ 1000) (hB : B ≤ w.heap.size)
    (h : ∀ g cap w', OwnI w' B (some ⟨g, 0, none⟩) cap (n + 1) (put f n i) → Keeps (blkL xx) w w' → (blkL xx = [g] ∨ w.heap.size ≤ g) → wpList Tryz.prog ops Q rest (a.put o.dst (.slice (some ⟨g, 0, none⟩) (n + 1) cap)) w') :
    wpList Tryz.prog ops Q (o :: rest) a w := by
  have hi : ∃ i, Tryz.prog.info? 3 = some i ∧ (i.zero, i.size, i.bytes) = (some (.int .i64 0), 1, 8) := by
    have h : (Tryz.prog.info? 3).map (fun i => (i.zero, i.size, i.bytes)) = some (some (.int .i64 0), 1, 8) := by kernel_rfl
    exact Option.map_eq_some_iff.1 h
  obtain ⟨ti, hi1, hi2⟩ := hi
  simp only [Prod.mk.injEq] at hi2
  obtain ⟨hz, hsz, hby⟩ := hi2
  refine wpList_append_own_at w hgd s x 40 ho B 3 ti (.int .i64 0) 1 8 Tryz.underlying40 hi1 hz hsz hby rfl (by omega) _ n _ hs hown ⟨b, 0, none⟩ 1 c [.int .i64 (i : Nat)] hx rfl (fun j u hj => ?_) (by simp [Value.oneCell']) (by unfold maxLen; omega) (by omega) hB ?_
  · cases j with
    | zero => simp at hj; subst hj; exact hc
    | succ j => simp at hj
  · intro v' w' h1 h2 h3 h4
    have hne : v' ≠ .slice none 0 0 := fun e => by have := (h3.1 e).2; omega
    have h1' := h1
    obtain ⟨_, ⟨rfl, _⟩ | ⟨g, cap, cur, rfl, hB', hg, h5⟩⟩ := h1'
    · exact absurd rfl hne
    · rw [range_put_i] at h1
      refine h g cap w' h1 (grown_keeps h2) ?_
      rcases h4 with h4 | h4
      · left
        cases xx with
        | none => simp [Value.ownBlock] at h4
        | some a => simp [Value.ownBlock] at h4; simp [blkL]; exact h4.symm
      · right
        simp [Value.ownBlock] at h4; omega

end Go.Proofs.YtkoflpcpopmkkaaGreat
