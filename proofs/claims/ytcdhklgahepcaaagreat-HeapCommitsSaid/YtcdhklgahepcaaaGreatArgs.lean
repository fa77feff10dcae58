import Derived.Test.YtcdhklgahepcaaaGreatSl
import Derived.ChangeSlices
import Derived.Deep.Slices
import Derived.Deep.Fields
import Derived.OpenShut
import Derived.Lib.SmallJoins
import Derived.Laws.IdiomArrays
namespace Go.Proofs.YtcdhklgahepcaaaGreat
open Go.RowKit Go.ChangeShapes Go.WideShapes Go.Deep
def ReadsV {α:Type} (k:α->Value) (w:World) (a:Option Addr) (n:Nat) (f:Nat->α):Prop:=
 n=0\/∃b off,a=some ⟨b,off,none⟩/\b<w.heap.size/\∀i,i<n->w.cell? ⟨b,off+i,none⟩=some (k (f i))
section
variable {H:Type} {enc:TypeId×Value->H} {P:Program} {w:World} {base:Nat} {held:Bool}
theorem VY {α:Type} (k:α->Value) {a:Addr} {n:Nat} {f:Nat->α} (h:∀i,i<n->w.cell? (a.add i)=some (k (f i))):ReadsV k w (some a) n f:=by
 by_cases h0:n=0
 ·exact .inl h0
 ·obtain⟨b,off,spot⟩:=a
  have hspot:spot=none:=by simpa[Addr.add]using World.cell?_spot (h 0 (by omega))
  subst hspot
  have hc:∀i,i<n->w.cell? ⟨b,off+i,none⟩=some (k (f i)):=fun j hj=>by rw[<-Go.WideShapes.add_plain];exact h j hj
  refine .inr ⟨b,off,rfl,?_,hc⟩
  have:=hc 0 (by omega)
  unfold World.cell? at this
  rcases Nat.lt_or_ge b w.heap.size with h1|h1
  ·exact h1
  ·simp[Array.getElem?_eq_none h1]at this
theorem xam {t e:TypeId} {q:IntKind} {a:Option Addr} {len cap:Nat} {d:DataW H} {p:List MemPlace} (ht:P.underlying t=some (.slice e)) (he:P.underlying e=some (.int q)) (hc:P.cellsOf e=1)
  (h:DataW.Trod enc P w base (fun _=>true) held t (.slice a len cap) d p):∃f:Nat->Int,ReadsV (Value.int q) w a len f/\(∀i,i<len->(Lit.int q (f i)).wf=true)/\len≤maxLen:=by
 obtain⟨fuel,hf⟩:=h
 rcases open_ints ht he hc hf with⟨hcs,_⟩|⟨x,l,c,zs,hcs,_,hl,hm,hz,_,hcell,hwf⟩
 ·simp[Value.cells]at hcs
  obtain⟨rfl,rfl,rfl⟩:=hcs
  exact⟨fun _=>0,.inl rfl,fun i hi=>by omega,Nat.zero_le _⟩
 ·simp[Value.cells]at hcs
  obtain⟨rfl,rfl,rfl⟩:=hcs
  simp only[if_true]at hz
  refine⟨fun i=>zs.getD i 0,VY _ fun i hi=>hcell i (by omega),fun i hi=>hwf _ ?_,Nat.le_trans hl hm⟩
  simp only[List.getD_eq_getElem?_getD,List.getElem?_eq_getElem (show i<zs.length by omega),Option.getD_some]
  exact List.getElem_mem _
theorem WT {k0 k1 k2:IntKind} {r:Reach} {b0:Nat} {t:TypeId} {f0 f1 f2:Field} {v:Value} {d:DataW H} {p:List MemPlace} (hs:P.underlying t=some (.struct #[f0,f1,f2])) (hone:oneCellFields P #[f0,f1,f2]=true) (hC:P.cellsOf t=3)
  (h0:P.underlying f0.type=some (.int k0)) (h1:P.underlying f1.type=some (.int k1)) (h2:P.underlying f2.type=some (.int k2)) (hv:Value.okWide P w r b0 t v) (h:DataW.Trod enc P w base (fun _=>true) held t v d p):
  ∃x y z:Int,v=.agg #[.int k0 x,.int k1 y,.int k2 z]/\d=.agg [.lit (.int k0 x),.lit (.int k1 y),.lit (.int k2 z)]/\p= []/\(Lit.int k0 x).wf=true/\(Lit.int k1 y).wf=true/\(Lit.int k2 z).wf=true:=by
 obtain⟨c0,c1,c2,y0,y1,y2,m,rfl,rfl,rfl,g0,g1,g2⟩:=Go.Joins.open_agg3 hs hone hC hv h
 obtain⟨a,e0,rfl,wa⟩:=DataW.trod_int h0 g0
 obtain⟨b,e1,rfl,wb⟩:=DataW.trod_int h1 g1
 obtain⟨c,e2,rfl,wc⟩:=DataW.trod_int h2 g2
 simp at e0 e1 e2
 subst e0 e1 e2
 exact⟨a,b,c,rfl,rfl,rfl,wa,wb,wc⟩
theorem WH {k0 k1 k2:IntKind} {t:TypeId} {f0 f1 f2:Field} {x y z:Int} {sp:Nat->Bool} (hs:P.underlying t=some (.struct #[f0,f1,f2])) (hone:oneCellFields P #[f0,f1,f2]=true) (hC:P.cellsOf t=3)
  (h0:P.underlying f0.type=some (.int k0)) (h1:P.underlying f1.type=some (.int k1)) (h2:P.underlying f2.type=some (.int k2)) (wx:(Lit.int k0 x).wf=true) (wy:(Lit.int k1 y).wf=true) (wz:(Lit.int k2 z).wf=true):
  DataW.Trod enc P w base sp held t (.agg #[.int k0 x,.int k1 y,.int k2 z]) (.agg [.lit (.int k0 x),.lit (.int k1 y),.lit (.int k2 z)]) []:=
 Go.Joins.shut_agg3 (y0:=(.lit (.int k0 x),[])) (y1:=(.lit (.int k1 y),[])) (y2:=(.lit (.int k2 z),[])) hs hone hC ⟨1,by simp[DataW.trod,h0,wx]⟩ ⟨1,by simp[DataW.trod,h1,wy]⟩ ⟨1,by simp[DataW.trod,h2,wz]⟩
end
end Go.Proofs.YtcdhklgahepcaaaGreat
