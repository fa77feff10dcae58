/- The section's calls as steps: records, Store. -/
import Derived.Test.YtcdlikblebdfkaaGreatSec2
namespace Go.Proofs.YtcdlikblebdfkaaGreat
open Go.RowKit Go.OpenShut

section
variable {w w' : World} {p : Nat} {a : DA} {l u u' : Int} {S S' : DS} {s : Sc} {c : Cfg} {m e0 r : Nat} {st : Bool} {op : Bool} {f t : Int} {R U : Int → Option Value} {pl : Nat → Nat} {wd : Nat → Int} {cs : List Cmd} {v : Value} {e : Ending}

set_option maxRecDepth 100000 in
set_option maxHeartbeats 2000000 in
/-- A word that is fresh. -/
theorem record_fresh (h : SW w p a l u S s c m st op f t R U) (i : Int) (hf : freshB f t i = true) :
    Calls Tryz.prog 78 #[ptr s.b, .int .i64 i] w fun e w' => e = .returned (.int .i64 0) ∧ Keeps [] w w' := by
  have c6 := h.sec.cell 6 rfl
  have c7 := h.sec.cell 7 rfl
  have HF := hid (shas_at w f t i)
  rw [hf] at HF
  clear hf
  go_enter Tryz.func78, Tryz.ntmps78
  go_wp2_with fail
  refine HF.out.mono ?_
  rintro e w1 ⟨rfl, rfl⟩
  go_wp2_with fail
  go_ret
  exact ⟨rfl, (Keeps.refl _ _).alloc _⟩

set_option maxRecDepth 100000 in
set_option maxHeartbeats 2000000 in
/-- A word that has a record. -/
theorem record_has (h : SW w p a l u S s c m st op f t R U) (x : Nat) (hx : x < 4294967296) (h8 : S.now 8 = x) (hn8 : 8 < a.n) (i : Int) (hf : freshB f t i = false) (hr : R i = some (.int .u64 x)) :
    Calls Tryz.prog 78 #[ptr s.b, .int .i64 i] w fun e w' => e = .returned (.int .i64 0) ∧ Keeps [] w w' := by
  have c6 := h.sec.cell 6 rfl
  have c7 := h.sec.cell 7 rfl
  have HF := hid (shas_at w f t i)
  have HH := hid (hasR_yes (h.keep0 ((Keeps.refl [] w).alloc (spO f t))) x hx h8 hn8 i hr)
  rw [hf] at HF
  clear hf h8 hr
  go_enter Tryz.func78, Tryz.ntmps78
  go_wp2_with fail
  refine HF.out.mono ?_
  rintro e w1 ⟨rfl, rfl⟩
  go_wp2_with fail
  refine HH.out.mono ?_
  rintro e w1 ⟨rfl, rfl⟩
  go_wp2_with fail
  go_ret
  exact ⟨rfl, (Keeps.refl _ _).alloc _⟩

set_option maxRecDepth 100000 in
set_option maxHeartbeats 2000000 in
/-- There is no room for a record. -/
theorem record_full (h : SW w p a l u S s c m st op f t R U) (i : Nat) (hi : i < a.n) (hf : freshB f t i = false) (hr : R (i : Int) = none) (hm : m = c.log) :
    Calls Tryz.prog 78 #[ptr s.b, .int .i64 i] w fun e w' => e = .returned (.int .i64 3) ∧ Keeps [] w w' := by
  have c6 := h.sec.cell 6 rfl
  have c7 := h.sec.cell 7 rfl
  have HF := hid (shas_at w f t i)
  have h1 := h.keep0 ((Keeps.refl [] w).alloc (spO f t))
  have HH := hid (hasR_no h1 i hr)
  have HA := hid (append_full h1.lw i hi hm)
  have d0 := h1.sec.cell 0 rfl
  rw [hf] at HF
  clear hf hr hm
  go_enter Tryz.func78, Tryz.ntmps78
  go_wp2_with fail
  refine HF.out.mono ?_
  rintro e w1 ⟨rfl, rfl⟩
  go_wp2_with fail
  refine HH.out.mono ?_
  rintro e w1 ⟨rfl, rfl⟩
  go_wp2_with fail
  refine HA.out.mono ?_
  rintro e w2 ⟨rfl, hk2⟩
  go_wp2_with fail
  go_ret
  exact ⟨rfl, ((Keeps.refl _ _).alloc _).trans hk2⟩

set_option maxRecDepth 100000 in
set_option maxHeartbeats 2000000 in
/-- A record more. -/
theorem record_new (h : SW w p a l u S s c m st op f t R U) (hc : c.Ok) (hn : c.words = a.n) (hL : LR c a.n e0 r m pl wd S) (hrb : r < 4294967296) (i : Nat) (hi : c.act ≤ i ∧ i < a.n) (hf : freshB f t i = false) (hr : R (i : Int) = none) (hm : m < c.log) (hb : u < 4611686018427340000) :
    Calls Tryz.prog 78 #[ptr s.b, .int .i64 i] w (RanS p a l u S s c (m + 1) true op f t (fun z => if z = (i : Int) then some (.int .u64 (eN e0 r : Nat)) else R z) U (appL c st false m (eN e0 r) i (S.now i)) (.int .i64 0) w) := by
  have c6 := h.sec.cell 6 rfl
  have c7 := h.sec.cell 7 rfl
  have HF := hid (shas_at w f t i)
  have K1 := (Keeps.refl [] w).alloc (spO f t)
  have h1 := h.keep0 K1
  have HH := hid (hasR_no h1 i hr)
  have HA := hid (append_li h1.lw hc hn hL hrb hm i hi.2 hb)
  have d0 := h1.sec.cell 0 rfl
  have HL := hid (app_done (st := st) hL hm i (S.now i) hi)
  have hci := hid (c_in hc hn)
  rw [hf] at HF
  clear hf hr hm hL hi
  go_enter Tryz.func78, Tryz.ntmps78
  go_wp2_with fail
  refine HF.out.mono ?_
  rintro e w1 ⟨rfl, rfl⟩
  go_wp2_with fail
  refine HH.out.mono ?_
  rintro e w1 ⟨rfl, rfl⟩
  go_wp2_with fail
  refine HA.out.mono ?_
  rintro e w2 (⟨rfl, h2, k2⟩ | ⟨rfl, ⟨S', d2, h2⟩, k2⟩)
  rotate_left
  · exact ⟨rfl, ranS_cut h2 d2 (K1.nos.trans k2.lgs)⟩
  have l2 := h1.log h2 k2
  have K2 : Keeps (s.bl p a) w w2 := K1.nos.trans k2.lgs
  clear d0 c6 c7 h1 k2 K1 HH HA HF h2
  obtain ⟨S2, hS2⟩ : ∃ S2, S2 = execs S (appL c st false m (eN e0 r) i (S.now i)) := ⟨_, rfl⟩
  obtain ⟨u2, hu2⟩ : ∃ u2, u2 = u + ((appL c st false m (eN e0 r) i (S.now i)).length : Int) := ⟨_, rfl⟩
  rw [← hS2, ← hu2] at l2
  rw [← hS2] at HL
  have HS2 := hid hS2
  have HU2 := hid hu2
  clear hS2 hu2
  have hep : epN (eN e0 r) = eN e0 r := epN_eN e0 r
  have HE := hid (fun (w' : World) (hk : Keeps [] w2 w') => epoch6_at (l2.keep0 hk).lw (eN e0 r) (by have := eN_lt e0 r; omega) HL.out.ep.1 hci.out.2.1)
  rw [hep] at HE
  clear hep
  obtain ⟨w3, hrun, hm3, hk3⟩ := (l2.keep0 (Keeps.refl [] w2).drew).rm.update (P := Tryz.prog) (t := 118) Tryz.underlying118 Tryz.underlying3 (i : Int) (.int .u64 (eN e0 r : Nat))
  have kk : Keeps [] w2 w2.drew := (Keeps.refl _ _).drew
  have HS : Hid (∀ w', SW w' p a l u2 S2 s c (m + 1) true op f t R U → (w'.cell? ⟨s.b, 0, none⟩ = some (ptr s.lb) ∧ w'.cell? ⟨s.b, 8, none⟩ = some (.map (some s.rb)))) := fun w' h => ⟨h.sec.cell 0 rfl, h.sec.cell 8 rfl⟩
  have l3 := (l2.keep0 (Keeps.refl [] w2).drew).setR hm3 hk3
  have HS3 : Hid (w3.cell? ⟨s.b, 0, none⟩ = some (ptr s.lb) ∧ w3.cell? ⟨s.b, 8, none⟩ = some (.map (some s.rb))) := ⟨l3.sec.cell 0 rfl, l3.sec.cell 8 rfl⟩
  go_upto_region 6 with fail
  go_region_held3 (fun w' => w'.cell? ⟨s.b, 0, none⟩ = some (ptr s.lb) ∧ w'.cell? ⟨s.b, 8, none⟩ = some (.map (some s.rb)))
    (first | exact HS.out _ (l2.keep0 kk) | exact HS3.out)
    (first | (go_at_call 75; refine (HE.out _ kk).mono ?_; rintro e w' ⟨rfl, rfl⟩))
  go_wp2_with fail
  go_ret
  exact ranS_end l3 HU2.out HS2.out ((K2.trans (kk.nos)).trans hk3.rps)

end

end Go.Proofs.YtcdlikblebdfkaaGreat
