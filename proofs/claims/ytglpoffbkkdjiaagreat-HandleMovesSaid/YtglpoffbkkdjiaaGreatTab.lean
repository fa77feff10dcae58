import Derived.Test.YtglpoffbkkdjiaaGreatMae
import Derived.Test.YtglpoffbkkdjiaaGreatP6
namespace Go.Proofs.YtglpoffbkkdjiaaGreat
open Go.RowKit Go.OpenShut
def upd (g:Nat → Nat) (k v:Nat):Nat → Nat:=fun n => if n = k then v else g n
def numD (g:Nat → Nat) (z:Int):Option Value:=if 0 ≤ z ∧ g z.toNat ≠ 0 then some (.int .i64 (g z.toNat:Nat)) else none
def Pl (g:Nat → Nat) (E:Int → Option Value):Prop:=(∀ n,g n ≠ 0 → E (g n:Nat) = some (.int .i64 (n:Nat))) ∧ ∀ z v,E z = some v → ∃ n,g n ≠ 0 ∧ z = (g n:Nat)
theorem upd_on (g:Nat → Nat) (k v:Nat):upd g k v k = v:=if_pos rfl
theorem upd_off {g:Nat → Nat} {k v n:Nat} (h:n ≠ k):upd g k v n = g n:=if_neg h
theorem numD_get (g:Nat → Nat) (n:Nat):numD g (n:Nat) = if g n ≠ 0 then some (.int .i64 (g n:Nat)) else none:=by
 unfold numD
 by_cases h:g n ≠ 0
 ·rw [if_pos h,if_pos ⟨by omega,by simpa using h⟩]; simp
 ·rw [if_neg h,if_neg (fun hh => h (by simpa using hh.2))]
theorem numD_neg (g:Nat → Nat) {z:Int} (h:z < 0):numD g z = none:=if_neg fun hh => by omega
theorem numD_upd (g:Nat → Nat) (k v:Nat):(fun z:Int => if z = (k:Nat) then (if v ≠ 0 then some (Value.int .i64 (v:Nat)) else none) else numD g z) = numD (upd g k v):=by
 funext z
 by_cases hz:0 ≤ z
 ·obtain ⟨n,rfl⟩:=Int.eq_ofNat_of_zero_le hz
  rw [numD_get,numD_get]
  by_cases h:n = k
  ·subst h; rw [if_pos rfl,upd_on]
  ·rw [if_neg (by omega),upd_off h]
 ·rw [if_neg (by omega),numD_neg _ (by omega),numD_neg _ (by omega)]
theorem numD_set (g:Nat → Nat) (k:Nat) {v:Nat} (h:v ≠ 0):(fun z:Int => if z = (k:Nat) then some (Value.int .i64 (v:Nat)) else numD g z) = numD (upd g k v):=by
 rw [← numD_upd g k v]; funext z; rw [if_pos h]
theorem numD_del (g:Nat → Nat) (k:Nat):(fun z:Int => if z = (k:Nat) then none else numD g z) = numD (upd g k 0):=by
 rw [← numD_upd g k 0]; funext z; simp
theorem del_none {D:Int → Option Value} {k:Int} (h:D k = none):(fun z:Int => if z = k then none else D z) = D:=by
 funext z
 split
 ·rename_i hz; rw [hz,h]
 ·rfl
theorem upd_same {g:Nat → Nat} {k:Nat} (h:g k = 0):upd g k 0 = g:=by
 funext n
 unfold upd
 split
 ·rename_i hn; rw [hn,h]
 ·rfl
theorem Pl.uq {g:Nat → Nat} {E:Int → Option Value} (h:Pl g E) {i j:Nat} (he:g i = g j) (h0:g i ≠ 0):i = j:=by
 have h1:=h.1 i h0
 have h2:=h.1 j (he ▸ h0)
 rw [he,h2] at h1
 injection h1 with h1
 injection h1 with _ h1
 omega
theorem Pl.none {g:Nat → Nat} {E:Int → Option Value} (h:Pl g E) {p:Nat} (hp:∀ n,g n ≠ 0 → g n ≠ p):E (p:Nat) = none:=by
 cases he:E (p:Nat) with
 | none => rfl
 | some v =>
  obtain ⟨n,h1,h2⟩:=h.2 _ _ he
  exact absurd (by omega) (hp n h1)
theorem Pl.zero {g:Nat → Nat} {E:Int → Option Value} (h:Pl g E):E 0 = Option.none:=h.none (p:=0) fun _ h1 => h1
theorem Pl.set {g:Nat → Nat} {E:Int → Option Value} (h:Pl g E) {k v:Nat} (hv:v ≠ 0) (hn:∀ n,g n ≠ v) (hk:g k = 0):Pl (upd g k v) (fun z:Int => if z = (v:Nat) then some (Value.int .i64 (k:Nat)) else E z):=by
 refine ⟨fun n h0 => ?_,fun z w hz => ?_⟩
 ·dsimp only
  by_cases hnk:n = k
  ·subst hnk; rw [upd_on,if_pos rfl]
  ·rw [upd_off hnk] at h0 ⊢
   rw [if_neg (by have:=hn n; omega)]
   exact h.1 n h0
 ·dsimp only at hz
  split at hz
  ·rename_i hzv; exact ⟨k,by rw [upd_on]; exact hv,by rw [upd_on,hzv]⟩
  ·obtain ⟨n,h1,h2⟩:=h.2 _ _ hz
   have hnk:n ≠ k:=by rintro rfl; exact h1 hk
   exact ⟨n,by rw [upd_off hnk]; exact h1,by rw [upd_off hnk]; exact h2⟩
theorem Pl.del {g:Nat → Nat} {E:Int → Option Value} (h:Pl g E) {k v:Nat} (hk:g k = v):Pl (upd g k 0) (fun z:Int => if z = (v:Nat) then Option.none else E z):=by
 refine ⟨fun n h0 => ?_,fun z w hz => ?_⟩
 ·dsimp only
  have hnk:n ≠ k:=by rintro rfl; rw [upd_on] at h0; exact h0 rfl
  rw [upd_off hnk] at h0 ⊢
  rw [if_neg (fun he => hnk (h.uq (by omega) h0))]
  exact h.1 n h0
 ·dsimp only at hz
  split at hz
  ·cases hz
  ·rename_i hzv
   obtain ⟨n,h1,h2⟩:=h.2 _ _ hz
   have hnk:n ≠ k:=by rintro rfl; exact hzv (by rw [h2,hk])
   exact ⟨n,by rw [upd_off hnk]; exact h1,by rw [upd_off hnk]; exact h2⟩
theorem pl_nil:Pl (fun _ => 0) (fun _ => none):=⟨fun _ h => absurd rfl h,fun _ _ h => by cases h⟩
structure Tb where
 t:Nat
 p:Nat
 n:Nat
abbrev Tb.bl (x:Tb):List Nat:=[x.t,x.p,x.n]
abbrev tabO (m:Nat) (x:Tb):Obj:=.cells #[.int .i64 (m:Nat), .map (some x.p), .map (some x.n)] 45
structure TabW (w:World) (x:Tb) (m:Nat) (g:Nat → Nat):Prop where
 box:At w x.t (tabO m x)
 pm:IMap w x.p (numD g)
 nm:∃ E,IMap w x.n E ∧ Pl g E
 ne:x.t ≠ x.p ∧ x.t ≠ x.n ∧ x.p ≠ x.n
 bd:∀ n,g n ≠ 0 → 1 ≤ n ∧ n ≤ m ∧ g n < 4000
 le:m ≤ 1000
theorem TabW.keep {w w':World} {x:Tb} {m:Nat} {g:Nat → Nat} {S:List Nat} (h:TabW w x m g) (hk:Keeps S w w') (hS:∀ b ∈ x.bl,b ∉ S):TabW w' x m g:=by
 obtain ⟨E,h1,h2⟩:=h.nm
 exact ⟨hk.at h.box (hS _ (by simp)),h.pm.keep hk (hS _ (by simp)),⟨E,h1.keep hk (hS _ (by simp)),h2⟩,h.ne,h.bd,h.le⟩
theorem TabW.lt {w:World} {x:Tb} {m:Nat} {g:Nat → Nat} (h:TabW w x m g):∀ b ∈ x.bl,b < w.heap.size:=by
 obtain ⟨E,h1,_⟩:=h.nm
 intro b hb
 simp only [List.mem_cons,List.not_mem_nil,or_false] at hb
 rcases hb with rfl | rfl | rfl
 ·exact h.box.lt
 ·exact h.pm.lt
 ·exact h1.lt
theorem TabW.uq {w:World} {x:Tb} {m:Nat} {g:Nat → Nat} (h:TabW w x m g) {i j:Nat} (he:g i = g j) (h0:g i ≠ 0):i = j:=by
 obtain ⟨E,_,h2⟩:=h.nm
 exact h2.uq he h0
theorem TabW.congr {w:World} {x:Tb} {m:Nat} {g f:Nat → Nat} (h:TabW w x m g) (he:∀ n,f n = g n):TabW w x m f:=by
 have:f = g:=funext he
 rw [this]; exact h
theorem zeroI (w:World):(zeroValue 3).run Tryz.prog w = .ok (.int .i64 0) w:=by kernel_rfl
set_option maxRecDepth 100000 in
set_option maxHeartbeats 1000000 in
theorem hnew_at (w:World):Calls Tryz.prog 8 #[] w fun e w' => ∃ x:Tb,e = .returned (.pointer (some ⟨x.t,0,none⟩)) ∧ TabW w' x 0 (fun _ => 0) ∧ Keeps [] w w' ∧ ∀ b ∈ x.bl,w.heap.size ≤ b:=by
 have hmk:=fun w:World => run_makeMap (P:=Tryz.prog) (w:=w) 32
 go_enter Tryz.func8,Tryz.ntmps8
 go_wp2_with fail
 go_ret
 have hb:=At.new ((w.alloc (.map #[] 0)).alloc (.map #[] 0)) (tabO 0 ⟨w.heap.size + 2,w.heap.size,w.heap.size + 1⟩)
 have h1:IMap (((w.alloc (.map #[] 0)).alloc (.map #[] 0)).alloc (tabO 0 ⟨w.heap.size + 2,w.heap.size,w.heap.size + 1⟩)) w.heap.size (fun _ => none) :=
  (IMap.made w).keep (((Keeps.refl [] _).alloc _).alloc _) (by simp)
 have h2:IMap (((w.alloc (.map #[] 0)).alloc (.map #[] 0)).alloc (tabO 0 ⟨w.heap.size + 2,w.heap.size,w.heap.size + 1⟩)) (w.heap.size + 1) (fun _ => none):=by
  have:=(IMap.made (w.alloc (.map #[] 0))).keep ((Keeps.refl [] _).alloc (tabO 0 ⟨w.heap.size + 2,w.heap.size,w.heap.size + 1⟩)) (by simp)
  simpa only [World.size_alloc] using this
 simp only [World.size_alloc] at hb
 refine ⟨⟨w.heap.size + 2,w.heap.size,w.heap.size + 1⟩,by simp,⟨?_, ?_,⟨_,h2,pl_nil⟩, ?_,fun n h => absurd rfl h,by omega⟩,(((Keeps.refl [] w).alloc _).alloc _).alloc _, ?_⟩
 ·exact hb
 ·exact h1.congr fun k => by unfold numD; rw [if_neg]; simp
 ·dsimp only; omega
 ·intro b hb; simp at hb; omega
set_option linter.unusedSimpArgs false in
set_option maxRecDepth 100000 in
set_option maxHeartbeats 1000000 in
theorem hput_at (w:World) (x:Tb) (m:Nat) (D E:Int → Option Value) (n p:Nat) (hb:At w x.t (tabO m x)) (hD:IMap w x.p D) (hE:IMap w x.n E) (hne:x.t ≠ x.p ∧ x.t ≠ x.n ∧ x.p ≠ x.n) :
  Calls Tryz.prog 24 #[.pointer (some ⟨x.t,0,none⟩), .int .i64 (n:Nat), .int .i64 (p:Nat)] w fun e w' => e = .returned (.tuple #[]) ∧
   IMap w' x.p (fun z => if z = (n:Nat) then some (.int .i64 (p:Nat)) else D z) ∧ IMap w' x.n (fun z => if z = (p:Nat) then some (.int .i64 (n:Nat)) else E z) ∧ Keeps [x.p,x.n] w w':=by
 have HB:=hid hb
 have HD:=hid hD
 have HE:=hid hE
 have HNE:=hid hne
 obtain ⟨tt,pp,nn⟩:=x
 dsimp only at *
 clear hb hD hE hne
 go_enter Tryz.func24,Tryz.ntmps24
 go_wp2_with fail
 have HK:=hid ((Keeps.refl [pp,nn] w).drew)
 have HNE1:Hid (tt ∉ [pp,nn]):=by have h:=HNE.out; show tt ∉ [pp,nn]; simp only [List.mem_cons,List.not_mem_nil,or_false]; omega
 have HNE2:Hid (nn ∉ [pp]):=by have h:=HNE.out; show nn ∉ [pp]; simp only [List.mem_cons,List.not_mem_nil,or_false]; omega
 have HNE3:Hid (pp ∉ [nn]):=by have h:=HNE.out; show pp ∉ [nn]; simp only [List.mem_cons,List.not_mem_nil,or_false]; omega
 have HP:=hid (HD.out.keep ((Keeps.refl [] w).drew) (by simp))
 have HN:=hid (HE.out.keep ((Keeps.refl [] w).drew) (by simp))
 refine wp_region_noPanic ?_
 refine wp_region_held_drew (S:=fun w' => w'.cell? ⟨tt,1,none⟩ = some (.map (some pp)) ∧ w'.cell? ⟨tt,2,none⟩ = some (.map (some nn))) (by kernel_rfl) ?_ (fun hHeld0 => ?_)
 ·(try dsimp only); exact ⟨(HK.out.at HB.out HNE1.out).cell 1 rfl,(HK.out.at HB.out HNE1.out).cell 2 rfl⟩
 refine' wpAnyH_take (i:=0) (oi:=_) (v:=_) ?hi1 (by kernel_rfl) (by kernel_rfl) (by kernel_rfl) (fun _ _ _ h => h) (Or.inl ⟨?hw1, ?hy1⟩) hHeld0 ?rest1
 case hi1 => (simp only [List.getElem?_toArray,List.getElem?_cons_zero]; rfl)
 case hw1 => rfl
 case hy1 => (intro w hSw; (try dsimp only at hSw); go_simp; try (with_reducible rfl))
 (try simp only [Act.put,List.setIfInBounds_toArray,List.set_cons_zero,List.set_cons_succ])
 refine' wpAnyH_take (i:=1) (oi:=_) (v:=_) ?hi2 (by kernel_rfl) (by kernel_rfl) (by kernel_rfl) (fun _ _ _ h => h) (Or.inl ⟨?hw2, ?hy2⟩) hHeld0 ?rest2
 case hi2 => (simp only [List.getElem?_toArray,List.getElem?_cons_succ,List.getElem?_cons_zero]; rfl)
 case hw2 => rfl
 case hy2 => (intro w hSw; (try dsimp only at hSw); go_simp; try (with_reducible rfl))
 (try simp only [Act.put,List.setIfInBounds_toArray,List.set_cons_zero,List.set_cons_succ])
 refine' wpAnyH_take (i:=2) (oi:=_) (v:=_) ?hi3 (by kernel_rfl) (by kernel_rfl) (by kernel_rfl) (fun _ _ _ h => h) (Or.inl ⟨?hw3, ?hy3⟩) hHeld0 ?rest3
 case hi3 => (simp only [List.getElem?_toArray,List.getElem?_cons_succ,List.getElem?_cons_zero]; rfl)
 case hw3 => rfl
 case hy3 => (intro w hSw; (try dsimp only at hSw); go_simp; try (with_reducible rfl))
 (try simp only [Act.put,List.setIfInBounds_toArray,List.set_cons_zero,List.set_cons_succ])
 refine' wpAnyH_take (i:=3) (oi:=_) (v:=_) ?hi4 (by kernel_rfl) (by kernel_rfl) (by kernel_rfl) (fun _ _ _ h => h) (Or.inl ⟨?hw4, ?hy4⟩) hHeld0 ?rest4
 case hi4 => (simp only [List.getElem?_toArray,List.getElem?_cons_succ,List.getElem?_cons_zero]; rfl)
 case hw4 => rfl
 case hy4 => (intro w hSw; (try dsimp only at hSw); go_simp; try (with_reducible rfl))
 (try simp only [Act.put,List.setIfInBounds_toArray,List.set_cons_zero,List.set_cons_succ])
 refine' wpAnyH_take (i:=4) (oi:=_) (v:=_) ?hi5 (by kernel_rfl) (by kernel_rfl) (by kernel_rfl) (fun _ _ _ h => h) (Or.inl ⟨?hw5, ?hy5⟩) hHeld0 ?rest5
 case hi5 => (simp only [List.getElem?_toArray,List.getElem?_cons_succ,List.getElem?_cons_zero]; rfl)
 case hw5 => rfl
 case hy5 => (intro w hSw; (try dsimp only at hSw); go_simp; try (with_reducible rfl))
 (try simp only [Act.put,List.setIfInBounds_toArray,List.set_cons_zero,List.set_cons_succ])
 refine' wpAnyH_take (i:=5) (oi:=_) (v:=_) ?hi6 (by kernel_rfl) (by kernel_rfl) (by kernel_rfl) (fun _ _ _ h => h) (Or.inl ⟨?hw6, ?hy6⟩) hHeld0 ?rest6
 case hi6 => (simp only [List.getElem?_toArray,List.getElem?_cons_succ,List.getElem?_cons_zero]; rfl)
 case hw6 => rfl
 case hy6 => (intro w hSw; (try dsimp only at hSw); go_simp; try (with_reducible rfl))
 (try simp only [Act.put,List.setIfInBounds_toArray,List.set_cons_zero,List.set_cons_succ])
 refine' wpAnyH_take (i:=6) (oi:=_) (v:=_) ?hi7 (by kernel_rfl) (by kernel_rfl) (by kernel_rfl) (fun _ _ _ h => h) (Or.inl ⟨?hw7, ?hy7⟩) hHeld0 ?rest7
 case hi7 => (simp only [List.getElem?_toArray,List.getElem?_cons_succ,List.getElem?_cons_zero]; rfl)
 case hw7 => rfl
 case hy7 => (intro w hSw; (try dsimp only at hSw); go_simp; try (with_reducible rfl))
 (try simp only [Act.put,List.setIfInBounds_toArray,List.set_cons_zero,List.set_cons_succ])
 refine' wpAnyH_take (i:=7) (oi:=_) (v:=_) ?hi8 (by kernel_rfl) (by kernel_rfl) (by kernel_rfl) (fun _ _ _ h => h) (Or.inl ⟨?hw8, ?hy8⟩) hHeld0 ?rest8
 case hi8 => (simp only [List.getElem?_toArray,List.getElem?_cons_succ,List.getElem?_cons_zero]; rfl)
 case hw8 => rfl
 case hy8 => (intro w hSw; (try dsimp only at hSw); go_simp; try (with_reducible rfl))
 (try simp only [Act.put,List.setIfInBounds_toArray,List.set_cons_zero,List.set_cons_succ])
 refine' wpAnyH_take (i:=8) (oi:=_) (v:=_) ?hi9 (by kernel_rfl) (by kernel_rfl) (by kernel_rfl) (fun _ _ _ h => h) (Or.inl ⟨?hw9, ?hy9⟩) hHeld0 ?rest9
 case hi9 => (simp only [List.getElem?_toArray,List.getElem?_cons_succ,List.getElem?_cons_zero]; rfl)
 case hw9 => rfl
 case hy9 => (intro w hSw; (try dsimp only at hSw); go_simp; try (with_reducible rfl))
 (try simp only [Act.put,List.setIfInBounds_toArray,List.set_cons_zero,List.set_cons_succ])
 refine' wpAnyH_take (i:=9) (oi:=_) (v:=_) ?hi10 (by kernel_rfl) (by kernel_rfl) (by kernel_rfl) (fun _ _ _ h => h) (Or.inl ⟨?hw10, ?hy10⟩) hHeld0 ?rest10
 case hi10 => (simp only [List.getElem?_toArray,List.getElem?_cons_succ,List.getElem?_cons_zero]; rfl)
 case hw10 => rfl
 case hy10 => (intro w hSw; (try dsimp only at hSw); go_simp; try (with_reducible rfl))
 (try simp only [Act.put,List.setIfInBounds_toArray,List.set_cons_zero,List.set_cons_succ])
 refine' wpAnyH_take (i:=10) (oi:=_) (v:=_) ?hi11 (by kernel_rfl) (by kernel_rfl) (by kernel_rfl) (fun _ _ _ h => h) (Or.inl ⟨?hw11, ?hy11⟩) hHeld0 ?rest11
 case hi11 => (simp only [List.getElem?_toArray,List.getElem?_cons_succ,List.getElem?_cons_zero]; rfl)
 case hw11 => rfl
 case hy11 => (intro w hSw; (try dsimp only at hSw); go_simp; try (with_reducible rfl))
 (try simp only [Act.put,List.setIfInBounds_toArray,List.set_cons_zero,List.set_cons_succ])
 refine' wpAnyH_take (i:=11) (oi:=_) (v:=_) ?hi12 (by kernel_rfl) (by kernel_rfl) (by kernel_rfl) (fun _ _ _ h => h) (Or.inl ⟨?hw12, ?hy12⟩) hHeld0 ?rest12
 case hi12 => (simp only [List.getElem?_toArray,List.getElem?_cons_succ,List.getElem?_cons_zero]; rfl)
 case hw12 => rfl
 case hy12 => (intro w hSw; (try dsimp only at hSw); go_simp; try (with_reducible rfl))
 (try simp only [Act.put,List.setIfInBounds_toArray,List.set_cons_zero,List.set_cons_succ])
 refine wpAnyH_ready (rs:=[12]) (by kernel_rfl) (by simp) ?_
 refine' AllReadyH.cons (o:=_) ?ho14 (fun K hK => ?step14) ?more14
 case ho14 => (simp only [List.getElem?_toArray,List.getElem?_cons_succ,List.getElem?_cons_zero]; rfl)
 case step14 =>
  (refine step_entry_at rfl _ _ 32 rfl 3 3 Tryz.underlying32 Tryz.underlying3 (.int .i64 0) zeroI pp _ rfl HP.out (n:Nat) rfl ?_; intro s1 w' hm hk; have HP:=hid hm; have HN:=hid (HN.out.keep hk HNE2.out); have HK:=hid (HK.out.trans (hk.mono (S':=[pp,nn]) (fun k _ h => by rw [List.mem_singleton.1 h]; simp))); clear hk hm; rename World => wA)
  refine hK.out _ _ ?_ (fun hHeld1 => ?_)
  ·(try dsimp only); exact ⟨(HK.out.at HB.out HNE1.out).cell 1 rfl,(HK.out.at HB.out HNE1.out).cell 2 rfl⟩
  clear hK K hHeld0
  (try simp only [Act.put,List.setIfInBounds_toArray,List.set_cons_zero,List.set_cons_succ])
  refine' wpAnyH_take (i:=13) (oi:=_) (v:=_) ?hi15 (by kernel_rfl) (by kernel_rfl) (by kernel_rfl) (fun _ _ _ h => h) (Or.inl ⟨?hw15, ?hy15⟩) hHeld1 ?rest15
  case hi15 => (simp only [List.getElem?_toArray,List.getElem?_cons_succ,List.getElem?_cons_zero]; rfl)
  case hw15 => rfl
  case hy15 => (intro w hSw; (try dsimp only at hSw); go_simp; try (with_reducible rfl))
  (try simp only [Act.put,List.setIfInBounds_toArray,List.set_cons_zero,List.set_cons_succ])
  refine wpAnyH_ready (rs:=[14]) (by kernel_rfl) (by simp) ?_
  refine' AllReadyH.cons (o:=_) ?ho17 (fun K hK => ?step17) ?more17
  case ho17 => (simp only [List.getElem?_toArray,List.getElem?_cons_succ,List.getElem?_cons_zero]; rfl)
  case step17 =>
   (refine step_estore_at rfl _ _ _ 32 rfl pp _ rfl (n:Nat) s1 HP.out rfl (.int .i64 (p:Nat)) rfl ?_; intro w' hm hk; have HP:=hid hm; have HN:=hid (HN.out.keep hk HNE2.out); have HK:=hid (HK.out.trans (hk.mono (S':=[pp,nn]) (fun k _ h => by rw [List.mem_singleton.1 h]; simp))); clear hk hm; rename World => wA)
   refine hK.out _ _ ?_ (fun hHeld2 => ?_)
   ·(try dsimp only); exact ⟨(HK.out.at HB.out HNE1.out).cell 1 rfl,(HK.out.at HB.out HNE1.out).cell 2 rfl⟩
   clear hK K hHeld1
   (try simp only [Act.put,List.setIfInBounds_toArray,List.set_cons_zero,List.set_cons_succ])
   refine wpAnyH_ready (rs:=[15]) (by kernel_rfl) (by simp) ?_
   refine' AllReadyH.cons (o:=_) ?ho19 (fun K hK => ?step19) ?more19
   case ho19 => (simp only [List.getElem?_toArray,List.getElem?_cons_succ,List.getElem?_cons_zero]; rfl)
   case step19 =>
    (refine step_entry_at rfl _ _ 32 rfl 3 3 Tryz.underlying32 Tryz.underlying3 (.int .i64 0) zeroI nn _ rfl HN.out (p:Nat) rfl ?_; intro s2 w' hm hk; have HN:=hid hm; have HP:=hid (HP.out.keep hk HNE3.out); have HK:=hid (HK.out.trans (hk.mono (S':=[pp,nn]) (fun k _ h => by rw [List.mem_singleton.1 h]; simp))); clear hk hm; rename World => wA)
    refine hK.out _ _ ?_ (fun hHeld3 => ?_)
    ·(try dsimp only); exact ⟨(HK.out.at HB.out HNE1.out).cell 1 rfl,(HK.out.at HB.out HNE1.out).cell 2 rfl⟩
    clear hK K hHeld2
    (try simp only [Act.put,List.setIfInBounds_toArray,List.set_cons_zero,List.set_cons_succ])
    refine' wpAnyH_take (i:=16) (oi:=_) (v:=_) ?hi20 (by kernel_rfl) (by kernel_rfl) (by kernel_rfl) (fun _ _ _ h => h) (Or.inl ⟨?hw20, ?hy20⟩) hHeld3 ?rest20
    case hi20 => (simp only [List.getElem?_toArray,List.getElem?_cons_succ,List.getElem?_cons_zero]; rfl)
    case hw20 => rfl
    case hy20 => (intro w hSw; (try dsimp only at hSw); go_simp; try (with_reducible rfl))
    (try simp only [Act.put,List.setIfInBounds_toArray,List.set_cons_zero,List.set_cons_succ])
    refine wpAnyH_ready (rs:=[17]) (by kernel_rfl) (by simp) ?_
    refine' AllReadyH.cons (o:=_) ?ho22 (fun K hK => ?step22) ?more22
    case ho22 => (simp only [List.getElem?_toArray,List.getElem?_cons_succ,List.getElem?_cons_zero]; rfl)
    case step22 =>
     (refine step_estore_at rfl _ _ _ 32 rfl nn _ rfl (p:Nat) s2 HN.out rfl (.int .i64 (n:Nat)) rfl ?_; intro w' hm hk; have HN:=hid hm; have HP:=hid (HP.out.keep hk HNE3.out); have HK:=hid (HK.out.trans (hk.mono (S':=[pp,nn]) (fun k _ h => by rw [List.mem_singleton.1 h]; simp))); clear hk hm; rename World => wA)
     refine hK.out _ _ ?_ (fun hHeld4 => ?_)
     ·(try dsimp only); exact ⟨(HK.out.at HB.out HNE1.out).cell 1 rfl,(HK.out.at HB.out HNE1.out).cell 2 rfl⟩
     clear hK K hHeld3
     (try simp only [Act.put,List.setIfInBounds_toArray,List.set_cons_zero,List.set_cons_succ])
     refine wpAnyH_done (by kernel_rfl) ?_ _
     refine NoPanic.normal ?_
     go_wp2_with fail
     go_end0
     exact ⟨rfl,HP.out,HN.out,HK.out⟩
    exact AllReadyH.nil
   exact AllReadyH.nil
  exact AllReadyH.nil
 exact AllReadyH.nil
theorem TabW.put {w w':World} {x:Tb} {m k:Nat} {g:Nat → Nat} {E:Int → Option Value} {n p:Nat} (hb:At w' x.t (tabO k x)) (hP:IMap w' x.p (fun z => if z = (n:Nat) then some (.int .i64 (p:Nat)) else numD g z)) (hN:IMap w' x.n (fun z => if z = (p:Nat) then some (.int .i64 (n:Nat)) else E z))
  (h:TabW w x m g) (hE:Pl g E) (hp:p ≠ 0) (hp4:p < 4000) (hno:∀ i,g i ≠ p) (hn:g n = 0) (hn1:1 ≤ n) (hnk:n ≤ k) (hmk:m ≤ k) (hk:k ≤ 1000):TabW w' x k (upd g n p) :=
 ⟨hb,by rw [← numD_set g n hp]; exact hP,⟨_,hN,hE.set hp hno hn⟩,h.ne,fun i hi => by
  by_cases hin:i = n
  ·subst hin; rw [upd_on]; omega
  ·rw [upd_off hin] at hi ⊢; have:=h.bd i hi; omega,hk⟩
theorem htake_zero (w:World) (t:Nat):Calls Tryz.prog 14 #[.pointer (some ⟨t,0,none⟩), .int .i64 0] w fun e w' => e = .returned (.int .i64 0) ∧ w' = w:=by
 go_enter Tryz.func14,Tryz.ntmps14
 go_wp2_with fail
 go_ret
 exact ⟨rfl,rfl⟩
set_option maxRecDepth 100000 in
set_option maxHeartbeats 1000000 in
theorem htake_had (w:World) (x:Tb) (m:Nat) (g:Nat → Nat) (n p:Nat) (h:TabW w x m g) (hg:g n = p) (hp:p ≠ 0) :
  Calls Tryz.prog 14 #[.pointer (some ⟨x.t,0,none⟩), .int .i64 (p:Nat)] w fun e w' => e = .returned (.int .i64 (n:Nat)) ∧ w' = w:=by
 have c2:=h.box.cell 2 rfl
 obtain ⟨E,hE,hPl⟩:=h.nm
 have hv:E (p:Nat) = some (.int .i64 (n:Nat)):=by rw [← hg]; exact hPl.1 n (by omega)
 have hp0:¬ (p:Int) = 0:=by omega
 clear hPl h hg hp
 obtain ⟨tt,pp,nn⟩:=x
 dsimp only at *
 go_enter Tryz.func14,Tryz.ntmps14
 go_wp2_with (at_lookup; refine wpList_found_at rfl _ _ _ rfl 3 3 Tryz.underlying32 Tryz.underlying3 (.int .i64 0) (by kernel_rfl) nn _ rfl hE (p:Nat) rfl _ hv ?_)
 go_ret
 exact ⟨rfl,rfl⟩
set_option maxRecDepth 100000 in
set_option maxHeartbeats 1000000 in
theorem htake_new (w:World) (x:Tb) (m:Nat) (g:Nat → Nat) (p:Nat) (h:TabW w x m g) (hg:∀ i,g i ≠ p) (hp:p ≠ 0) (hp4:p < 4000) (hm:m < 1000) :
  Calls Tryz.prog 14 #[.pointer (some ⟨x.t,0,none⟩), .int .i64 (p:Nat)] w fun e w' => e = .returned (.int .i64 (m + 1:Nat)) ∧ TabW w' x (m + 1) (upd g (m + 1) p) ∧ Keeps x.bl w w':=by
 have H:=hid h
 have c0:=h.box.cell 0 rfl
 have c2:=h.box.cell 2 rfl
 have f0:=h.box.free 0
 obtain ⟨E,hE,hPl⟩:=h.nm
 have HPL:=hid hPl
 have HG:=hid hg
 have HE:=hid hE
 have hv:E (p:Nat) = none:=hPl.none fun i _ => hg i
 have hp0:¬ (p:Int) = 0:=by omega
 have hmi:(m:Int) ≤ 1000:=by omega
 clear hPl h hg hp
 obtain ⟨tt,pp,nn⟩:=x
 dsimp only at *
 go_enter Tryz.func14,Tryz.ntmps14
 go_wp2_with (at_lookup; refine wpList_missed_at rfl _ _ _ rfl 3 3 Tryz.underlying32 Tryz.underlying3 (.int .i64 0) (by kernel_rfl) nn _ rfl hE (p:Nat) rfl hv ?_)
 have K1:Keeps [tt] w (w.setCell ⟨tt,0,none⟩ (.int .i64 ((m:Int) + 1))):=(Keeps.refl [tt] w).set (.inl (by simp)) _
 have hb1:At (w.setCell ⟨tt,0,none⟩ (.int .i64 ((m:Int) + 1))) tt (tabO (m + 1) ⟨tt,pp,nn⟩):=by
  have:=H.out.box.set 0 (.int .i64 ((m:Int) + 1))
  exact this
 have HNE:=hid H.out.ne
 have n1:pp ∉ [tt]:=by have h:=HNE.out; rw [List.mem_singleton]; exact fun e => h.1 e.symm
 have n2:nn ∉ [tt]:=by have h:=HNE.out; rw [List.mem_singleton]; exact fun e => h.2.1 e.symm
 have hP1:=H.out.pm.keep K1 n1
 have hN1:=HE.out.keep K1 n2
 have HC:=hid (hput_at _ ⟨tt,pp,nn⟩ (m + 1) _ _ (m + 1) p hb1 hP1 hN1 HNE.out)
 have HB1:=hid hb1
 have HK1:=hid K1
 have e1:((m + 1:Nat):Int) = (m:Int) + 1:=by omega
 obtain ⟨w1,hw1⟩:∃ w1,w1 = w.setCell ⟨tt,0,none⟩ (.int .i64 ((m:Int) + 1)):=⟨_,rfl⟩
 rw [e1, ← hw1] at HC
 rw [← hw1] at HB1 HK1
 rw [← hw1]
 clear hw1 hP1 hN1 hb1 K1 n1 n2 c0 c2 f0 hE e1
 refine HC.out.mono ?_
 rintro e w2 ⟨rfl,hP2,hN2,hk2⟩
 have hb2:At w2 tt (tabO (m + 1) ⟨tt,pp,nn⟩):=hk2.at HB1.out (show tt ∉ [pp,nn] by have h:=HNE.out; dsimp only at h; simp only [List.mem_cons,List.not_mem_nil,or_false]; omega)
 have c20:=hb2.cell 0 rfl
 have e2:(m:Int) + 1 = ((m + 1:Nat):Int):=by omega
 have HW:Hid (TabW w2 ⟨tt,pp,nn⟩ (m + 1) (upd g (m + 1) p)):=hid (TabW.put (n:=m + 1) hb2 (by rw [← e2]; exact hP2) (by rw [← e2]; exact hN2) H.out HPL.out (by omega) hp4 HG.out (by
  by_cases hz:g (m + 1) = 0
  ·exact hz
  ·have:=(H.out.bd _ hz).2.1; omega) (by omega) (Nat.le_refl _) (by omega) (by omega))
 clear hP2 hN2 hb2 e2
 go_wp2_with fail
 go_ret
 refine ⟨by simp,HW.out,(HK1.out.mono ?_).trans (hk2.mono ?_)⟩
 ·intro k _ h; rw [List.mem_singleton.1 h]; simp
 ·intro k _ h; simp only [List.mem_cons,List.not_mem_nil,or_false] at h ⊢; omega
set_option maxRecDepth 100000 in
set_option maxHeartbeats 1000000 in
theorem hplace_at (w:World) (x:Tb) (m:Nat) (g:Nat → Nat) (z:Int) (h:TabW w x m g) :
  Calls Tryz.prog 10 #[.pointer (some ⟨x.t,0,none⟩), .int .i64 z] w fun e w' =>
   e = .returned (.tuple #[.int .i64 (if 0 ≤ z then g z.toNat else 0:Nat), .bool (decide (0 ≤ z ∧ g z.toNat ≠ 0))]) ∧ w' = w:=by
 have c1:=h.box.cell 1 rfl
 have hE:=h.pm
 by_cases hz:0 ≤ z ∧ g z.toNat ≠ 0
 ·have hv:numD g z = some (.int .i64 (g z.toNat:Nat)):=if_pos hz
  have e1:(if 0 ≤ z then g z.toNat else 0) = g z.toNat:=if_pos hz.1
  rw [e1,decide_eq_true hz]
  clear h hz e1
  obtain ⟨tt,pp,nn⟩:=x
  dsimp only at *
  go_enter Tryz.func10,Tryz.ntmps10
  go_wp2_with (at_lookup; refine wpList_found_at rfl _ _ _ rfl 3 3 Tryz.underlying32 Tryz.underlying3 (.int .i64 0) (by kernel_rfl) pp _ rfl hE z rfl _ hv ?_)
  go_ret2
  exact ⟨rfl,rfl⟩
 ·have hv:numD g z = none:=if_neg hz
  have e1:(if 0 ≤ z then g z.toNat else 0) = 0:=by
   split
   ·omega
   ·rfl
  rw [e1,decide_eq_false hz]
  clear h hz e1
  obtain ⟨tt,pp,nn⟩:=x
  dsimp only at *
  go_enter Tryz.func10,Tryz.ntmps10
  go_wp2_with (at_lookup; refine wpList_missed_at rfl _ _ _ rfl 3 3 Tryz.underlying32 Tryz.underlying3 (.int .i64 0) (by kernel_rfl) pp _ rfl hE z rfl hv ?_)
  go_ret2
  exact ⟨rfl,rfl⟩
set_option maxRecDepth 100000 in
set_option maxHeartbeats 1000000 in
theorem hdrop_raw (w:World) (x:Tb) (m:Nat) (D E:Int → Option Value) (z:Int) (q:Int) (b:Bool) (hb:At w x.t (tabO m x)) (hD:IMap w x.p D) (hE:IMap w x.n E) (hne:x.t ≠ x.p ∧ x.t ≠ x.n ∧ x.p ≠ x.n)
  (hv:(D z = some (.int .i64 q) ∧ b = true) ∨ (D z = none ∧ q = 0 ∧ b = false)) :
  Calls Tryz.prog 9 #[.pointer (some ⟨x.t,0,none⟩), .int .i64 z] w fun e w' => e = .returned (.bool b) ∧
   IMap w' x.p (fun y => if y = z then none else D y) ∧ IMap w' x.n (fun y => if y = q then none else E y) ∧ Keeps [x.p,x.n] w w':=by
 obtain ⟨tt,pp,nn⟩:=x
 dsimp only at *
 have HNE:=hid hne
 have HB:=hid hb
 have HE:=hid hE
 have c1:=hb.cell 1 rfl
 clear hb hE hne
 go_enter Tryz.func9,Tryz.ntmps9
 have hR:(Instr.lookup 32 (.map (some pp)) (.int .i64 z) true).run Tryz.prog w = .ok (.tuple #[.int .i64 q, .bool b]) w:=by
  rw [hD.lookup Tryz.underlying32 Tryz.underlying3 (zeroI w) z true]
  rcases hv with ⟨h1,rfl⟩ | ⟨h1,rfl,rfl⟩
  ·rw [h1]; rfl
  ·rw [h1]; rfl
 have h1:tt ∉ [pp]:=by have h:=HNE.out; rw [List.mem_singleton]; exact h.1
 have h2:tt ∉ [nn]:=by have h:=HNE.out; rw [List.mem_singleton]; exact h.2.1
 have h3:pp ∉ [nn]:=by have h:=HNE.out; rw [List.mem_singleton]; exact h.2.2
 have h4:nn ∉ [pp]:=by have h:=HNE.out; rw [List.mem_singleton]; exact fun e => h.2.2 e.symm
 have HH:=hid (And.intro h1 (And.intro h2 (And.intro h3 h4)))
 clear hv h1 h2 h3 h4
 go_wp2_with (first
  | (refine wpList_delete_at rfl _ _ 32 3 rfl 3 3 Tryz.underlying32 Tryz.underlying3 pp _ rfl hD z rfl ?_; intro w1 hm1 hk1; have hB1:=hk1.at HB.out HH.out.1; have c20:=hB1.cell 2 rfl; have hE1:=HE.out.keep hk1 HH.out.2.2.2; have HM1:=hid hm1; have HK1:=hid hk1; clear hm1 hk1 hB1 hR c1)
  | (refine wpList_delete_at rfl _ _ 32 3 rfl 3 3 Tryz.underlying32 Tryz.underlying3 nn _ rfl hE1 q rfl ?_; intro w2 hm2 hk2; have HM2:=hid hm2; have HK2:=hid hk2; have hm3:=HM1.out.keep hk2 HH.out.2.2.1; have HM3:=hid hm3; clear hm2 hk2 hm3 c20))
 go_ret
 refine ⟨rfl,HM3.out,HM2.out,(HK1.out.mono ?_).trans (HK2.out.mono ?_)⟩
 ·intro k _ h; rw [List.mem_singleton.1 h]; simp
 ·intro k _ h; rw [List.mem_singleton.1 h]; simp
theorem hdrop_at (w:World) (x:Tb) (m:Nat) (g:Nat → Nat) (z:Int) (h:TabW w x m g) :
  Calls Tryz.prog 9 #[.pointer (some ⟨x.t,0,none⟩), .int .i64 z] w fun e w' =>
   e = .returned (.bool (decide (0 ≤ z ∧ g z.toNat ≠ 0))) ∧ TabW w' x m (if 0 ≤ z then upd g z.toNat 0 else g) ∧ Keeps [x.p,x.n] w w':=by
 obtain ⟨E,hE,hPl⟩:=h.nm
 have ht:x.t ∉ [x.p,x.n]:=by have h:=h.ne; simp only [List.mem_cons,List.not_mem_nil,or_false]; omega
 by_cases hz:0 ≤ z ∧ g z.toNat ≠ 0
 ·obtain ⟨n,rfl⟩:=Int.eq_ofNat_of_zero_le hz.1
  have h0:g n ≠ 0:=by simpa using hz.2
  refine (hdrop_raw w x m _ _ (n:Nat) (g n:Nat) true h.box h.pm hE h.ne (.inl ⟨by rw [numD_get,if_pos h0],rfl⟩)).mono ?_
  rintro e w' ⟨rfl,hP,hN,hk⟩
  rw [decide_eq_true hz,if_pos hz.1,Int.toNat_natCast]
  refine ⟨rfl,⟨hk.at h.box ht,by rw [← numD_del]; exact hP,⟨_,hN,hPl.del rfl⟩,h.ne,fun i hi => ?_,h.le⟩,hk⟩
  have hin:i ≠ n:=by rintro rfl; rw [upd_on] at hi; exact hi rfl
  rw [upd_off hin] at hi ⊢
  exact h.bd i hi
 ·have hn:numD g z = none:=if_neg hz
  refine (hdrop_raw w x m _ _ z 0 false h.box h.pm hE h.ne (.inr ⟨hn,rfl,rfl⟩)).mono ?_
  rintro e w' ⟨rfl,hP,hN,hk⟩
  rw [decide_eq_false hz]
  have hg:(if 0 ≤ z then upd g z.toNat 0 else g) = g:=by
   split
   ·exact upd_same (by omega)
   ·rfl
  rw [hg]
  refine ⟨rfl,⟨hk.at h.box ht, ?_,⟨E, ?_,hPl⟩,h.ne,h.bd,h.le⟩,hk⟩
  ·rw [del_none hn] at hP; exact hP
  ·rw [del_none hPl.zero] at hN; exact hN
end Go.Proofs.YtglpoffbkkdjiaaGreat
