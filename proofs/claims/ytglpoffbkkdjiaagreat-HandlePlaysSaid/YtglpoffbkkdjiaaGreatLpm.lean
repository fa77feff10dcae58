import Derived.Test.YtglpoffbkkdjiaaGreatRnd
import Derived.LoopNIn
namespace Go.Proofs.YtglpoffbkkdjiaaGreat
open Go.RowKit Go.OpenShut
def mkD (bs:List Nat):List Deferred:=bs.map fun b => { target:=.collected b,args:=#[] }
theorem mkD_cons (b:Nat) (bs:List Nat):mkD (b :: bs) = { target:=.collected b,args:=#[] } :: mkD bs:=rfl
theorem leavesM_all {P:Program} {n:Nat} {fn:Func} {tmps:Array Value} {R:Ending → World → Prop}:∀ (bs:List Nat) (w:World),bs.Nodup → (∀ b ∈ bs,At w b (.deferred (some []))) →
  (∀ w',Keeps bs w w' → LeavesInM Fence.wide n P fn tmps R [] .returning w') → LeavesInM Fence.wide n P fn tmps R (mkD bs) .returning w
 | [],w,_,_,h => h w (Keeps.refl _ _)
 | b :: bs,w,hn,ha,h => by
  obtain ⟨h1,h2⟩:=List.nodup_cons.1 hn
  rw [mkD_cons]
  have kp:Keeps [b] w (w.putObj b (.deferred none)):=(Keeps.refl _ _).put (.inl (by simp)) _
  refine ⟨by simp, .inl ⟨b,w.putObj b (.deferred none),rfl,run_takeDeferred (ha b (by simp)),leavesM_all bs _ h2 (fun b' hb' => kp.at (ha b' (by simp [hb'])) (fun hm => ?_)) fun w' hk => h w' ?_⟩⟩
  ·obtain rfl:=List.mem_singleton.1 hm
   exact h1 hb'
  ·exact (kp.mono (fun k _ hk => by rw [List.mem_singleton.1 hk]; simp)).trans (hk.mono (fun k _ hk => by simp [hk]))
theorem wp_loop_inv {P:Program} {c:Code} {Q:Exit → Act → World → Prop} {a:Act} {w:World} (I:Nat → Act → World → Prop) (n0:Nat) (h0:I n0 a w)
  (round:∀ n a w,I n a w → ∀ K:Act → World → Prop,(∀ n' a' w',n' < n → I n' a' w' → K a' w') → c.wp P (Exit.then K Q) a w):(Code.loop c).wp P Q a w:=by
 have key:∀ N n a w,n < N → I n a w → Code.rounds P c Q N a w:=by
  intro N
  induction N with
  | zero => intro n a w h; omega
  | succ N ih =>
   intro n a w hn hI
   refine rounds_k fun K hK => round n a w hI K fun n' a' w' hn' hI' => hK _ _ (ih n' a' w' (by omega) hI')
 exact wp_loop_rounds (n0 + 1) (key _ n0 a w (by omega) h0)
end Go.Proofs.YtglpoffbkkdjiaaGreat
