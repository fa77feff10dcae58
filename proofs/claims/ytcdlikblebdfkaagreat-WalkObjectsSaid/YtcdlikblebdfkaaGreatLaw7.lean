/- What the laws of layer 7 have in common: words from Active on, a section that is started, its definition's object. -/
import Derived.Test.YtcdlikblebdfkaaGreatSec6
namespace Go.Proofs.YtcdlikblebdfkaaGreat
open Go.RowKit Go.OpenShut

theorem SW.lts {w : World} {p : Nat} {a : DA} {l u : Int} {S : DS} {s : Sc} {c : Cfg} {cnt : Nat} {st op : Bool} {f t : Int} {R U : Int → Option Value} (h : SW w p a l u S s c cnt st op f t R U) : ∀ b ∈ a.d :: s.bl p a, b < w.heap.size := by
  unfold Sc.bl
  intro b hb
  simp only [List.mem_cons, List.not_mem_nil, or_false] at hb
  rcases hb with rfl | rfl | rfl | rfl | rfl | rfl | rfl | rfl | rfl
  · exact h.lw.pw.dev.dev.lt
  · exact h.lw.pw.pow.lt
  · exact h.lw.pw.dev.now.lt
  · exact h.lw.pw.dev.kept.lt
  · exact h.lw.pw.dev.map.lt
  · exact h.lw.log.lt
  · exact h.sec.lt
  · exact h.rm.lt
  · exact h.um.lt

end Go.Proofs.YtcdlikblebdfkaaGreat
