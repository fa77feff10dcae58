import Derived.Test.YtglpoffbkkdjiaaGreatClb
namespace Go.Proofs.YtglpoffbkkdjiaaGreat
open Go.RowKit Go.OpenShut
def Zon (P:CP) (S S':DS):Prop:=∀ j, ¬ (P.c.frm (1 - P.k) ≤ j ∧ j < P.c.frm (1 - P.k) + szF P.S P.LS) → S'.now j = S.now j ∧ ∀ q:Int → Prop,All S j q → All S' j q
theorem Zon.refl (P:CP) (S:DS):Zon P S S:=fun _ _ => ⟨rfl,fun _ h => h⟩
theorem Zon.trans {P:CP} {S T U:DS} (h:Zon P S T) (g:Zon P T U):Zon P S U:=fun j hj => ⟨(g j hj).1.trans (h j hj).1,fun q hq => (g j hj).2 q ((h j hj).2 q hq)⟩
theorem Zon.st {P:CP} {S T:DS} (h:Zon P S T) {i:Nat} (hi:P.c.frm (1 - P.k) ≤ i ∧ i < P.c.frm (1 - P.k) + szF P.S P.LS) (v:Int):Zon P S (execs T [.st i v]):=fun j hj => by
 have hne:j ≠ i:=fun e => hj (e ▸ hi)
 refine ⟨?_,fun q hq => ((h j hj).2 q hq).exec (c:=.st i v) (fun e => absurd e (by first | exact hne | exact hne.symm))⟩
 show put T.now i v j = _
 unfold put
 rw [if_neg hne]
 exact (h j hj).1
theorem Zon.fl {P:CP} {S T:DS} (h:Zon P S T) (i:Nat):Zon P S (execs T [.fl i]):=fun j hj => ⟨(h j hj).1,fun q hq => ((h j hj).2 q hq).exec (c:=.fl i) trivial⟩
theorem Zon.fe {P:CP} {S T:DS} (h:Zon P S T):Zon P S (execs T [.fe]):=fun j hj => ⟨(h j hj).1,fun q hq => ((h j hj).2 q hq).exec (c:=.fe) trivial⟩
def CutC (P:CP) (l:Int) (T:List Nat) (S:DS) (w:World) (e:Ending) (w':World):Prop :=
 e = .panicked [{ v:=goneV,recovered:=false }] ∧ ∃ S',Pw w' P.p P.a l l S' ∧ Zon P S S' ∧ Keeps (T ++ [P.p,P.a.s,P.a.k,P.a.m]) w w'
def OneP (p:Nat) (a:DA) (l u:Int) (S:DS) (c:Cmd) (v:Value) (w:World) (e:Ending) (w':World):Prop :=
 (e = .returned v ∧ Hid (Pw w' p a l (u + 1) (execs S [c]) ∧ Keeps [p,a.s,a.k,a.m] w w')) ∨ (e = .panicked [{ v:=goneV,recovered:=false }] ∧ Hid (Pw w' p a l l S ∧ Keeps [p,a.s,a.k,a.m] w w'))
theorem Ran.one {p:Nat} {a:DA} {l u:Int} {S:DS} {c:Cmd} {v:Value} {w w':World} {e:Ending} (h:Ran p a l u S [c] v w e w'):OneP p a l u S c v w e w':=by
 rcases h with ⟨rfl,h1,h2⟩ | ⟨rfl,⟨S',⟨pre,c',post,hp,h3,h4⟩,h1⟩,h2⟩
 ·exact .inl ⟨rfl,by simpa using h1,h2⟩
 ·refine .inr ⟨rfl, ?_,h2⟩
  cases pre with
  | nil => rw [h3] at h1; exact h1
  | cons x pre => simp at hp
theorem store_l (w:World) (p:Nat) (a:DA) (l u:Int) (S:DS) (h:Pw w p a l u S) (hb:u ≤ 1000000000000) (z v:Int) (hz:0 ≤ z ∧ z < a.n) :
  Calls Tryz.prog 47 #[ptr a.d, .int .i64 z, .int .u64 v] w (OneP p a l u S (.st z.toNat v) (.int .i64 0) w):=by
 obtain ⟨j,rfl⟩:∃ j:Nat,z = (j:Int):=⟨z.toNat,by omega⟩
 refine (store_ran w p a l u S j v h (by omega) (by omega)).mono fun e w' hr => ?_
 rw [Int.toNat_natCast]
 exact hr.one
theorem flush_l (w:World) (p:Nat) (a:DA) (l u:Int) (S:DS) (h:Pw w p a l u S) (hb:u ≤ 1000000000000) (i:Nat) (hi:i < a.n) :
  Calls Tryz.prog 101 #[ptr a.d, .int .i64 i] w (OneP p a l u S (.fl i) (.int .i64 0) w) :=
 (flush_ran w p a l u S i h hi (by omega)).mono fun e w' hr => hr.one
theorem fence_l (w:World) (p:Nat) (a:DA) (l u:Int) (S:DS) (h:Pw w p a l u S) (hb:u ≤ 1000000000000) :
  Calls Tryz.prog 102 #[ptr a.d] w (OneP p a l u S .fe (.tuple #[]) w) :=
 (fence_ran w p a l u S h (by omega)).mono fun e w' hr => hr.one
end Go.Proofs.YtglpoffbkkdjiaaGreat
