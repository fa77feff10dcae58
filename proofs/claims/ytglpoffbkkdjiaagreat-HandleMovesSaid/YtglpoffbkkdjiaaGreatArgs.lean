import Derived.Test.YtglpoffbkkdjiaaGreatSl
import Derived.ChangeSlices
import Derived.Deep.Slices
import Derived.Deep.Fields
import Derived.OpenShut
import Derived.Lib.SmallJoins
import Derived.Laws.IdiomArrays
namespace Go.Proofs.YtglpoffbkkdjiaaGreat
open Go.RowKit Go.ChangeShapes Go.WideShapes Go.Deep
def ReadsV {α:Type} (k:α → Value) (w:World) (a:Option Addr) (n:Nat) (f:Nat → α):Prop :=
 n = 0 ∨ ∃ b off,a = some ⟨b,off,none⟩ ∧ b < w.heap.size ∧ ∀ i,i < n → w.cell? ⟨b,off + i,none⟩ = some (k (f i))
section
variable {H:Type} {enc:TypeId × Value → H} {P:Program} {w:World} {base:Nat} {held:Bool}
theorem reads_cells {α:Type} (k:α → Value) {a:Addr} {n:Nat} {f:Nat → α} (h:∀ i,i < n → w.cell? (a.add i) = some (k (f i))):ReadsV k w (some a) n f:=by
 by_cases h0:n = 0
 ·exact .inl h0
 ·obtain ⟨b,off,spot⟩:=a
  have hspot:spot = none:=by simpa [Addr.add] using World.cell?_spot (h 0 (by omega))
  subst hspot
  have hc:∀ i,i < n → w.cell? ⟨b,off + i,none⟩ = some (k (f i)):=fun j hj => by rw [← Go.WideShapes.add_plain]; exact h j hj
  refine .inr ⟨b,off,rfl, ?_,hc⟩
  have:=hc 0 (by omega)
  unfold World.cell? at this
  rcases Nat.lt_or_ge b w.heap.size with h1 | h1
  ·exact h1
  ·simp [Array.getElem?_eq_none h1] at this
theorem open_nums {t e:TypeId} {q:IntKind} {a:Option Addr} {len cap:Nat} {d:DataW H} {p:List MemPlace} (ht:P.underlying t = some (.slice e)) (he:P.underlying e = some (.int q)) (hc:P.cellsOf e = 1)
  (h:DataW.Trod enc P w base (fun _ => true) held t (.slice a len cap) d p):∃ f:Nat → Int,ReadsV (Value.int q) w a len f ∧ (∀ i,i < len → (Lit.int q (f i)).wf = true) ∧ len ≤ maxLen:=by
 obtain ⟨fuel,hf⟩:=h
 rcases open_ints ht he hc hf with ⟨hcs,_⟩ | ⟨x,l,c,zs,hcs,_,hl,hm,hz,_,hcell,hwf⟩
 ·simp [Value.cells] at hcs
  obtain ⟨rfl,rfl,rfl⟩:=hcs
  exact ⟨fun _ => 0, .inl rfl,fun i hi => by omega,Nat.zero_le _⟩
 ·simp [Value.cells] at hcs
  obtain ⟨rfl,rfl,rfl⟩:=hcs
  simp only [if_true] at hz
  refine ⟨fun i => zs.getD i 0,reads_cells _ fun i hi => hcell i (by omega),fun i hi => hwf _ ?_,Nat.le_trans hl hm⟩
  simp only [List.getD_eq_getElem?_getD,List.getElem?_eq_getElem (show i < zs.length by omega),Option.getD_some]
  exact List.getElem_mem _
theorem open_structs {t e:TypeId} {fs:Array Field} (q:Nat → IntKind) {a:Option Addr} {len cap:Nat} {d:DataW H} {p:List MemPlace} (ht:P.underlying t = some (.slice e)) (he:P.underlying e = some (.struct fs))
  (hone:oneCellFields P fs = true) (hC:P.cellsOf e = fs.size) (hq:∀ (j:Nat) (f:Field),fs[j]? = some f → P.underlying f.type = some (.int (q j)))
  (h:DataW.Trod enc P w base (fun _ => true) held t (.slice a len cap) d p) :
  ∃ f:Nat → Nat → Int,(len * fs.size = 0 ∨ ∃ b off,a = some ⟨b,off,none⟩ ∧ b < w.heap.size ∧ ∀ i j,i < len → j < fs.size → w.cell? ⟨b,off + (i * fs.size + j),none⟩ = some (.int (q j) (f i j)) ∧ (Lit.int (q j) (f i j)).wf = true) ∧ len ≤ maxLen:=by
 obtain ⟨fuel,hf⟩:=h
 rcases open_slice ht hf with ⟨hcs,_⟩ | ⟨x,l,c,m,n,D,Pl,hcs,_,hl,hm,hmm,_,hx⟩
 ·simp [Value.cells] at hcs
  obtain ⟨rfl,rfl,rfl⟩:=hcs
  exact ⟨fun _ _ => 0, .inl (by simp),Nat.zero_le _⟩
 ·simp [Value.cells] at hcs
  obtain ⟨rfl,rfl,rfl⟩:=hcs
  simp only [if_true] at hmm
  have hcell:∀ i j,i < len → j < fs.size → ∃ z,w.cell? (x.add (i * fs.size + j)) = some (.int (q j) z) ∧ (Lit.int (q j) z).wf = true:=by
   intro i j hi hj
   obtain ⟨cs',hc1,hc2⟩:=hx i (by omega)
   rw [hC] at hc1
   obtain ⟨_,hcl,hat⟩:=World.cells?_some hc1
   obtain ⟨xs,n',_,_,_,hxl,hff⟩:=DataW.trod_struct he hc2
   have hfj:fs[j]? = some (fs[j]'hj):=Array.getElem?_eq_getElem hj
   obtain ⟨ho,hk⟩:=hone_of hone j _ hfj
   have h1:=hff j _ hfj
   rw [ho,hk,List.getElem?_eq_getElem (show j < xs.length by omega)] at h1
   obtain ⟨z,hz1,_,hz3⟩:=DataW.trod_int (hq j _ hfj) h1
   have h2:=hat j hj
   have h3:cs'[j]? = some (.int (q j) z):=by
    have:(List.take 1 (List.drop j cs'))[0]? = [Value.int (q j) z][0]?:=by rw [hz1]
    simpa [List.getElem?_take,List.getElem?_drop] using this
   refine ⟨z, ?_,hz3⟩
   rw [← Go.Deep.add_add,h2,h3]
  by_cases h0:len * fs.size = 0
  ·exact ⟨fun _ _ => 0, .inl h0,Nat.le_trans hl hm⟩
  ·have hlen:0 < len:=by rcases Nat.eq_zero_or_pos len with h | h; simp [h] at h0; exact h
   have hfs:0 < fs.size:=by rcases Nat.eq_zero_or_pos fs.size with h | h; simp [h] at h0; exact h
   obtain ⟨b,off,spot⟩:=x
   obtain ⟨z0,h00,_⟩:=hcell 0 0 hlen hfs
   have hspot:spot = none:=by simpa [Addr.add] using World.cell?_spot h00
   subst hspot
   have hch:∃ f:Nat → Nat → Int, ∀ i j,i < len → j < fs.size → w.cell? ((⟨b,off,none⟩:Addr).add (i * fs.size + j)) = some (.int (q j) (f i j)) ∧ (Lit.int (q j) (f i j)).wf = true:=by
    refine ⟨fun i j => if h:i < len ∧ j < fs.size then (hcell i j h.1 h.2).choose else 0,fun i j hi hj => ?_⟩
    simp only [hi,hj,and_self,dif_pos]
    exact (hcell i j hi hj).choose_spec
   obtain ⟨f,hf'⟩:=hch
   refine ⟨f, .inr ⟨b,off,rfl, ?_,fun i j hi hj => ?_⟩,Nat.le_trans hl hm⟩
   ·have:=(hf' 0 0 hlen hfs).1
    rw [Go.WideShapes.add_plain] at this
    unfold World.cell? at this
    rcases Nat.lt_or_ge b w.heap.size with h1 | h1
    ·exact h1
    ·simp [Array.getElem?_eq_none h1] at this
   ·have:=hf' i j hi hj
    rwa [Go.WideShapes.add_plain] at this
end
end Go.Proofs.YtglpoffbkkdjiaaGreat
