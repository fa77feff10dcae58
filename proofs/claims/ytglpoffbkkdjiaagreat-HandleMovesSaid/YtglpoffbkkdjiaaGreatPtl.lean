import Derived.Test.YtglpoffbkkdjiaaGreatZon
import Derived.Test.YtglpoffbkkdjiaaGreatNap
namespace Go.Proofs.YtglpoffbkkdjiaaGreat
open Go.RowKit Go.OpenShut
section
variable {P:Program} {ops:Array Oper} {l n:Nat}
def OnlyP (Q:Exit → Act → World → Prop):Exit → Act → World → Prop
 | .outgrown,_,_ => False
 | e,a,w => Q e a w
theorem OnlyP.normal {Q:Exit → Act → World → Prop} {a:Act} {w:World} (h:Q .normal a w):OnlyP Q .normal a w:=h
theorem OnlyP.imp {Q:Exit → Act → World → Prop}:∀ (e:Exit) (a:Act) (w:World),OnlyP Q e a w → Q e a w:=fun e a w h => by
 cases e <;> first | exact h | exact (h:False).elim
theorem OnlyP.in {Q:Exit → Act → World → Prop}:¬ LetsOut (OnlyP Q):=fun ⟨_,_,h⟩ => h
theorem round_heldP {id:Nat} {Q:Exit → Act → World → Prop} {S:World → Prop} {a:Act} {w:World} (hd:ndB ops = true) (hm:P.follows .mixedOrders = true) (hS:S w.drew)
  (h:S w.drew → wpAnyH P .any ops (OnlyP Q) S ops.size (Array.replicate ops.size false) a w.drew):(Code.region id ops true).wpIn (Fence.wide.inRound l) n P Q a w :=
 wpIn_mono (wpIn_region_any hm (wpAnyIn_of_any hd OnlyP.in _ _ _ _ (wpAny_of_held _ _ _ _ (h hS)))) OnlyP.imp
end
theorem opoint_l (w:World) (p:Nat) (a:DA) (l u:Int) (S:DS) (h:Pw w p a l u S) (hb:u ≤ 1000000000000) (n r z i t v:Int) (hv:IntKind.u64.wrap t = v) (hn:0 ≤ n ∧ n ≤ 64) (hz:0 ≤ z ∧ z + n < a.n) (hf:fldE n r i true = 0) :
  Calls Tryz.prog 46 #[obV n r z, .int .i64 i, .int .i64 t, .func (.func 47) #[ptr a.d] #[]] w (OneP p a l u S (.st (z + 1 + i).toNat v) (.int .i64 0) w):=by
 have hfew:=h.dev.few
 have hn8:=a.n8
 refine (opoint_at (F:=47) (first:=#[ptr a.d]) (cap:=#[]) w n r z i t (fun w1 code w' => code = 0 ∧ Pw w' p a l (u + 1) (execs S [.st (z + 1 + i).toNat v]) ∧ Keeps [p,a.s,a.k,a.m] w1 w') (fun w1 w' => Pw w' p a l l S ∧ Keeps [p,a.s,a.k,a.m] w1 w') hn.2 ⟨hz.1,by omega⟩ (fun w i v => by simp [go_sem]) (fun h1 h2 w1 hk => ?_)).mono ?_
 ·rw [hv]
  refine (store_l w1 p a l u S (h.keep0 hk) hb (z + 1 + i) v (by omega)).mono ?_
  rintro e w' (⟨rfl,h3⟩ | ⟨rfl,h3⟩)
  ·exact .inl ⟨0,rfl,rfl,h3.out.1,h3.out.2⟩
  ·exact .inr ⟨rfl,h3.out⟩
 rintro e w' (⟨h3,rfl,hk⟩ | ⟨h3,w1,hk,⟨code,rfl,rfl,hP,hk1⟩ | ⟨rfl,h4,hk1⟩⟩)
 ·exact absurd hf h3
 ·exact .inl ⟨rfl,hP,(hk.mono (by simp)).trans hk1⟩
 ·exact .inr ⟨rfl,h4,(hk.mono (by simp)).trans hk1⟩
end Go.Proofs.YtglpoffbkkdjiaaGreat
