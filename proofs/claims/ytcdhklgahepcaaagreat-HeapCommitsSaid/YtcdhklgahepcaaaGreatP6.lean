import Derived.Test.YtcdhklgahepcaaaGreatLaw6
import Derived.Test.YtcdhklgahepcaaaGreatArgs
import Derived.Deep.AppendLies
namespace Go.Proofs.YtcdhklgahepcaaaGreat
open Go.RowKit Go.OpenShut
section
variable {c:Cfg} {n e0 r m:Nat} {pl:Nat->Nat} {wd:Nat->Int} {S:DS} {st:Bool}
variable {w:World} {p:Nat} {a:DA} {l u:Int} {lb:Nat}
end
open Go.RowKit Go.OpenShut
def OwnI (w:World) (B:Nat) (x:Option Addr) (cp n:Nat) (f:Nat->Nat):Prop:=
 w.ownsRow B 3 1 (.slice x n cp) n ((List.range n).map fun i=>.int .i64 (f i:Nat))
def OwnU (w:World) (B:Nat) (x:Option Addr) (cp n:Nat) (f:Nat->Int):Prop:=
 w.ownsRow B 26 1 (.slice x n cp) n ((List.range n).map fun i=>.int .u64 (f i))
def blkL (x:Option Addr):List Nat:=match x with|some a=>[a.block]|none=>[]
theorem Jw (w:World) (B:Nat) (f:Nat->Nat):OwnI w B none 0 0 f:=⟨rfl,.inl ⟨rfl,rfl⟩⟩
theorem Jv (w:World) (B:Nat) (f:Nat->Int):OwnU w B none 0 0 f:=⟨rfl,.inl ⟨rfl,rfl⟩⟩
theorem OwnI.form {w:World} {B:Nat} {x:Option Addr} {cp n:Nat} {f:Nat->Nat} (h:OwnI w B x cp n f):
  (x=none/\n=0)\/∃g cur,x=some ⟨g,0,none⟩/\B≤g/\At w g (.cells cur 3)/\∀i,i<n->cur[i]? =some (.int .i64 (f i:Nat)):=by
 obtain⟨_,⟨h1,h2⟩|⟨g,cap,cur,h1,h2,h3,_,_,h6,h7⟩⟩:=h
 ·injection h1 with h1;exact .inl ⟨h1,h2⟩
 ·injection h1 with h1
  refine .inr ⟨g,cur,h1,h2,h3,fun i hi=>?_⟩
  have e:(cur.toList.take (n*1))[i]? =((List.range n).map fun i=>Value.int .i64 (f i:Nat))[i]? :=by rw[h7]
  rw[List.getElem?_take_of_lt (by omega),Array.getElem?_toList]at e
  rw[e]
  simp[hi]
theorem OwnU.form {w:World} {B:Nat} {x:Option Addr} {cp n:Nat} {f:Nat->Int} (h:OwnU w B x cp n f):
  (x=none/\n=0)\/∃g cur,x=some ⟨g,0,none⟩/\B≤g/\At w g (.cells cur 26)/\∀i,i<n->cur[i]? =some (.int .u64 (f i)):=by
 obtain⟨_,⟨h1,h2⟩|⟨g,cap,cur,h1,h2,h3,_,_,h6,h7⟩⟩:=h
 ·injection h1 with h1;exact .inl ⟨h1,h2⟩
 ·injection h1 with h1
  refine .inr ⟨g,cur,h1,h2,h3,fun i hi=>?_⟩
  have e:(cur.toList.take (n*1))[i]? =((List.range n).map fun i=>Value.int .u64 (f i))[i]? :=by rw[h7]
  rw[List.getElem?_take_of_lt (by omega),Array.getElem?_toList]at e
  rw[e]
  simp[hi]
theorem OwnI.keep {w w':World} {B:Nat} {x:Option Addr} {cp n:Nat} {f:Nat->Nat} {T:List Nat} (h:OwnI w B x cp n f) (hk:xe T w w') (hT:∀b∈blkL x,b∉T):OwnI w' B x cp n f:=by
 obtain⟨h0,h1|⟨g,cap,cur,h1,h2,h3,h4⟩⟩:=h
 ·exact⟨h0,.inl h1⟩
 ·refine⟨h0,.inr ⟨g,cap,cur,h1,h2,?_,h4⟩⟩
  injection h1 with h1
  exact hk.at (show At w g (.cells cur 3)from h3) (hT g (by rw[h1];simp[blkL]))
theorem OwnU.keep {w w':World} {B:Nat} {x:Option Addr} {cp n:Nat} {f:Nat->Int} {T:List Nat} (h:OwnU w B x cp n f) (hk:xe T w w') (hT:∀b∈blkL x,b∉T):OwnU w' B x cp n f:=by
 obtain⟨h0,h1|⟨g,cap,cur,h1,h2,h3,h4⟩⟩:=h
 ·exact⟨h0,.inl h1⟩
 ·refine⟨h0,.inr ⟨g,cap,cur,h1,h2,?_,h4⟩⟩
  injection h1 with h1
  exact hk.at (show At w g (.cells cur 26)from h3) (hT g (by rw[h1];simp[blkL]))
theorem OwnI.ge {w:World} {B:Nat} {x:Option Addr} {cp n:Nat} {f:Nat->Nat} (h:OwnI w B x cp n f):∀b∈blkL x,B≤b/\b<w.heap.size:=by
 rcases h.form with⟨rfl,_⟩|⟨g,cur,rfl,h1,h2,_⟩
 ·simp[blkL]
 ·simp[blkL];exact⟨h1,h2.lt⟩
theorem OwnU.ge {w:World} {B:Nat} {x:Option Addr} {cp n:Nat} {f:Nat->Int} (h:OwnU w B x cp n f):∀b∈blkL x,B≤b/\b<w.heap.size:=by
 rcases h.form with⟨rfl,_⟩|⟨g,cur,rfl,h1,h2,_⟩
 ·simp[blkL]
 ·simp[blkL];exact⟨h1,h2.lt⟩
theorem vR (n i:Nat) (f:Nat->Nat):((List.range n).map fun j=>Value.int .i64 (f j:Nat))++ [Value.int .i64 (i:Nat)]=(List.range (n+1)).map fun j=>Value.int .i64 (put f n i j:Nat):=by
 rw[List.range_succ,List.map_append]
 congr 1
 ·refine List.map_congr_left fun j hj=>?_
  rw[xI _ _ (by have:=List.mem_range.1 hj;omega)]
 ·simp[xO]
theorem YE (n:Nat) (v:Int) (f:Nat->Int):((List.range n).map fun j=>Value.int .u64 (f j))++ [Value.int .u64 v]=(List.range (n+1)).map fun j=>Value.int .u64 (put f n v j):=by
 rw[List.range_succ,List.map_append]
 congr 1
 ·refine List.map_congr_left fun j hj=>?_
  rw[xI _ _ (by have:=List.mem_range.1 hj;omega)]
 ·simp[xO]
theorem xS {w w':World} {x:Option Addr} {n cp:Nat} (h:w.grownBy w' (Value.slice x n cp).ownBlock):xe (blkL x) w w':=
 ⟨h.os,h.tape,h.output,h.size,fun k hk hn=>h.block k hk fun e=>hn (by cases x with
  |none=>simp[Value.ownBlock]at e
  |some a=>simp[Value.ownBlock]at e;simp[blkL];exact e)⟩
theorem xe4 {ops:Array Oper} {o:Oper} {a:Act} {w:World} {K:Act->World->Prop} {Q:Exit->Act->World->Prop} {E:Prop} (hgd:o.guard=none) (s x:Operand)
  (ho:o.op=.call { callee:=.builtin .append,args:=#[s,x],argTypes:=#[132,132] })
  (B:Nat) (xx:Option Addr) (cp n:Nat) (f:Nat->Nat) (hs:a.eval s=.slice xx n cp) (hown:OwnI w B xx cp n f) (b c i:Nat) (hx:a.eval x=.slice (some ⟨b,0,none⟩) 1 c) (hc:w.cell? ⟨b,0,none⟩=some (.int .i64 (i:Nat)))
  (hn:n≤1000) (hB:B≤w.heap.size)
  (h:∀g cap w',OwnI w' B (some ⟨g,0,none⟩) cap (n+1) (put f n i)->xe (blkL xx) w w'->(blkL xx= [g]\/w.heap.size≤g)->K (a.put o.dst (.slice (some ⟨g,0,none⟩) (n+1) cap)) w'):
  if Region.wanted o (yielded ops a.tmps)=true then Oper.wp Tryz.prog o a w K Q else E:=by
 have hi:∃i,Tryz.prog.info? 3=some i/\(i.zero,i.size,i.bytes)=(some (.int .i64 0),1,8):=by
  have h:(Tryz.prog.info? 3).map (fun i=>(i.zero,i.size,i.bytes))=some (some (.int .i64 0),1,8):=by kernel_rfl
  exact Option.map_eq_some_iff.1 h
 obtain⟨ti,hi1,hi2⟩:=hi
 simp only[Prod.mk.injEq]at hi2
 obtain⟨hz,hsz,hby⟩:=hi2
 refine step_append_lies w hgd s x 132 ho B 3 ti (.int .i64 0) 1 8 Tryz.underlying132 hi1 hz hsz hby rfl (by omega) _ n _ hs hown ⟨b,0,none⟩ 1 c [.int .i64 (i:Nat)] hx rfl (fun j u hj=>?_) (by simp[Value.oneCell']) (by omega) (by unfold maxLen;omega) (by omega) hB w.heap.size rfl ?_
 ·cases j with
  |zero=>simp at hj;subst hj;exact hc
  |succ j=>simp at hj
 ·intro g cap w' h1 h2 h3 h4
  rw[vR]at h1
  refine h g cap w' h1 (xS h2) ?_
  rcases h3 with h3|h3
  ·left
   cases xx with
   |none=>simp[Value.ownBlock]at h3
   |some a=>simp[Value.ownBlock]at h3;simp[blkL];exact h3
  ·right;omega
theorem Xz {ops:Array Oper} {o:Oper} {a:Act} {w:World} {K:Act->World->Prop} {Q:Exit->Act->World->Prop} {E:Prop} (hgd:o.guard=none) (s x:Operand)
  (ho:o.op=.call { callee:=.builtin .append,args:=#[s,x],argTypes:=#[60,60] })
  (B:Nat) (xx:Option Addr) (cp n:Nat) (f:Nat->Int) (hs:a.eval s=.slice xx n cp) (hown:OwnU w B xx cp n f) (b c:Nat) (v:Int) (hx:a.eval x=.slice (some ⟨b,0,none⟩) 1 c) (hc:w.cell? ⟨b,0,none⟩=some (.int .u64 v))
  (hn:n≤1000) (hB:B≤w.heap.size)
  (h:∀g cap w',OwnU w' B (some ⟨g,0,none⟩) cap (n+1) (put f n v)->xe (blkL xx) w w'->(blkL xx= [g]\/w.heap.size≤g)->K (a.put o.dst (.slice (some ⟨g,0,none⟩) (n+1) cap)) w'):
  if Region.wanted o (yielded ops a.tmps)=true then Oper.wp Tryz.prog o a w K Q else E:=by
 have hi:∃i,Tryz.prog.info? 26=some i/\(i.zero,i.size,i.bytes)=(some (.int .u64 0),1,8):=by
  have h:(Tryz.prog.info? 26).map (fun i=>(i.zero,i.size,i.bytes))=some (some (.int .u64 0),1,8):=by kernel_rfl
  exact Option.map_eq_some_iff.1 h
 obtain⟨ti,hi1,hi2⟩:=hi
 simp only[Prod.mk.injEq]at hi2
 obtain⟨hz,hsz,hby⟩:=hi2
 refine step_append_lies w hgd s x 60 ho B 26 ti (.int .u64 0) 1 8 Tryz.underlying60 hi1 hz hsz hby rfl (by omega) _ n _ hs hown ⟨b,0,none⟩ 1 c [.int .u64 v] hx rfl (fun j u hj=>?_) (by simp[Value.oneCell']) (by omega) (by unfold maxLen;omega) (by omega) hB w.heap.size rfl ?_
 ·cases j with
  |zero=>simp at hj;subst hj;exact hc
  |succ j=>simp at hj
 ·intro g cap w' h1 h2 h3 h4
  rw[YE]at h1
  refine h g cap w' h1 (xS h2) ?_
  rcases h3 with h3|h3
  ·left
   cases xx with
   |none=>simp[Value.ownBlock]at h3
   |some a=>simp[Value.ownBlock]at h3;simp[blkL];exact h3
  ·right;omega
end Go.Proofs.YtcdhklgahepcaaaGreat
