import Derived.Test.YtcdhklgahepcaaaGreatAwk13
import Derived.Laws.OwnMore
import Derived.Maps.AppendAt
namespace Go.Proofs.YtcdhklgahepcaaaGreat
open Go.RowKit Go.OpenShut
theorem xby {w:World} {B B2:Nat} {xx y:Option Addr} {cp n c m:Nat} {f g:Nat->Int} (hown:OwnU w B xx cp n f) (hy:OwnU w B2 y c m g) (hb:n+m≤100000) (hB:B≤w.heap.size) (ty:TypeId):
  ∃x' cp' w',(Builtin.append_ #[60,60] ty #[.slice xx n cp,.slice y m c]).run Tryz.prog w=.ok (.slice x' (n+m) cp') w'/\OwnU w' B x' cp' (n+m) (fun i=>if i<n then f i else g (i-n))/\xe (blkL xx) w w'/\(∀b∈blkL x',b∈blkL xx\/w.heap.size≤b):=by
 have hi:∃i,Tryz.prog.info? 26=some i/\(i.zero,i.size,i.bytes)=(some (.int .u64 0),1,8):=by
  have h:(Tryz.prog.info? 26).map (fun i=>(i.zero,i.size,i.bytes))=some (some (.int .u64 0),1,8):=by kernel_rfl
  exact Option.map_eq_some_iff.1 h
 obtain⟨i,hi1,hi2⟩:=hi
 simp only[Prod.mk.injEq]at hi2
 obtain⟨hz,hsz,hby⟩:=hi2
 have e:((List.range n).map fun i=>(.int .u64 (f i):Value))++((List.range m).map fun i=>(.int .u64 (g i):Value))=(List.range (n+m)).map fun i=>(.int .u64 ((if i<n then f i else g (i-n))):Value):=by
  apply List.ext_getElem?
  intro j
  by_cases hj:j<n
  ·rw[List.getElem?_append_left (by simpa using hj)]
   simp[hj,show j<n+m by omega]
  ·rw[List.getElem?_append_right (by simp;omega)]
   by_cases hj2:j<n+m
   ·simp[hj,hj2,show j-n<m by omega]
   ·simp[hj2,show¬j-n<m by omega]
 rcases hy.2 with⟨h1,h2⟩|⟨g0,cap0,cur0,h1,h2,h3,h4,h5,h6,h7⟩
 ·injection h1 with h1 _ h1c
  subst h1;subst h2;subst h1c
  refine⟨xx,cp,w,run_append_owned_none (P:=Tryz.prog) w B _ ty 26 i 1 Tryz.underlying60 hi1 _ n _ hown,hown.eq fun j hj=>(if_pos hj).symm,xe.refl _ _,fun b hb=>.inl hb⟩
 ·injection h1 with h1 _ h1c
  subst h1;subst h1c
  have hnews:∀j u,((List.range m).map fun i=>(.int .u64 (g i):Value))[j]? =some u->w.cell? ((⟨g0,0,none⟩:Addr).add j)=some u:=by
   intro j u hj
   obtain⟨hj1,_⟩:=List.getElem?_eq_some_iff.1 hj
   have hj2:j<m:=by simpa using hj1
   have e2:(⟨g0,0,none⟩:Addr).add j=⟨g0,j,none⟩:=by unfold Addr.add;split<;>simp_all
   rw[e2]
   refine At.cell (show At w g0 (.cells cur0 26)from h3) j ?_
   have e3:(cur0.toList.take (m*1))[j]? =some u:=by rw[h7];exact hj
   rwa[List.getElem?_take_of_lt (by omega),Array.getElem?_toList]at e3
  obtain⟨v',w',hrun,g1,g2,g3,g4⟩:=run_append_own_at (P:=Tryz.prog) w B 60 ty 26 i (.int .u64 0) 1 8 Tryz.underlying60 hi1 hz hsz hby rfl (by omega) _ n _ hown ⟨g0,0,none⟩ m c
   ((List.range m).map fun i=>(.int .u64 (g i):Value)) (by simp) hnews (by simp[Value.oneCell']) (by unfold maxLen;omega) (by omega) hB
  rw[e]at g1
  have hk:=xS g2
  obtain⟨k1,k2⟩:=g1
  rcases k2 with⟨rfl,k3⟩|⟨g9,cap9,cur9,rfl,k4⟩
  ·refine⟨none,0,w',by rw[hrun,k3],⟨k1,.inl ⟨by rw[k3],k3⟩⟩,hk,by simp[blkL]⟩
  ·refine⟨some ⟨g9,0,none⟩,cap9,w',hrun,⟨k1,.inr ⟨g9,cap9,cur9,rfl,k4⟩⟩,hk,fun b hb=>?_⟩
   have hbg:b=g9:=by simpa[blkL]using hb
   subst hbg
   rcases g4 with g4|g4
   ·left
    cases xx with
    |none=>simp[Value.ownBlock]at g4
    |some a=>simp[Value.ownBlock]at g4;simp[blkL];exact g4
   ·right
    simp[Value.ownBlock]at g4;omega
theorem ZK {ops:Array Oper} {rest:List Oper} {o:Oper} {a:Act} {w:World} {Q:Exit->Act->World->Prop} (hgd:o.guard=none) (s x:Operand)
  (ho:o.op=.call { callee:=.builtin .append,args:=#[s,x],argTypes:=#[60,60] })
  (B B2:Nat) (xx y:Option Addr) (cp n c m:Nat) (f g:Nat->Int) (hs:a.eval s=.slice xx n cp) (hx:a.eval x=.slice y m c) (hown:OwnU w B xx cp n f) (hy:OwnU w B2 y c m g) (hb:n+m≤100000) (hB:B≤w.heap.size)
  (h:∀x' cp' w',OwnU w' B x' cp' (n+m) (fun i=>if i<n then f i else g (i-n))->xe (blkL xx) w w'->(∀b∈blkL x',b∈blkL xx\/w.heap.size≤b)->wpList Tryz.prog ops Q rest (a.put o.dst (.slice x' (n+m) cp')) w'):
  wpList Tryz.prog ops Q (o::rest) a w:=by
 refine wpList_plain hgd fun K' hK'=>?_
 obtain⟨x',cp',w',hrun,h1,h2,h3⟩:=xby hown hy hb hB o.type
 unfold Oper.wp
 simp[execOp,ho,resolve,invoke,builtin,hs,hx,hrun,Result.andThen]
 exact hK' _ _ (h x' cp' w' h1 h2 h3)
end Go.Proofs.YtcdhklgahepcaaaGreat
