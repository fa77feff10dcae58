import Derived.Test.YtcdhklgahepcaaaGreatAwk
import Derived.Maps.RangeWalk
import Derived.Maps.OwnSet
namespace Go.Proofs.YtcdhklgahepcaaaGreat
open Go.RowKit Go.MapKept
open Go.ChangeMaps (setBlock)
theorem At.setBlock {w:World} {b:Nat} {o:Obj} (h:At w b o) (o':Obj):At (setBlock w b o') b o':=by
 unfold At
 simp[ChangeMaps.setBlock,h.lt]
theorem xe.setBlock {S:List Nat} {a w:World} (h:xe S a w) {b:Nat} (hb:b∈S\/a.heap.size≤b) (o':Obj):xe S a (setBlock w b o'):=
 ⟨h.os,h.tape,h.output,by simpa[ChangeMaps.setBlock]using h.size,fun k hk hs=>by
  have hne:b≠k:=by rintro rfl;rcases hb with hb|hb;exact hs hb;omega
  have e:(ChangeMaps.setBlock w b o').heap[k]? =w.heap[k]? :=by simp[ChangeMaps.setBlock,hne]
  rw[e]
  exact h.block k hk hs⟩
theorem Xn {α:Type} {l:List α} (h:l.Nodup) {i j:Nat} {x:α} (hi:l[i]? =some x) (hj:l[j]? =some x):i=j:=by
 obtain⟨hi',e1⟩:=List.getElem?_eq_some_iff.1 hi
 obtain⟨hj',e2⟩:=List.getElem?_eq_some_iff.1 hj
 rcases Nat.lt_trichotomy i j with h1|h1|h1
 ·exact absurd (e1.trans e2.symm) (List.pairwise_iff_getElem.1 h i j hi' hj' h1)
 ·exact h1
 ·exact absurd (e2.trans e1.symm) (List.pairwise_iff_getElem.1 h j i hj' hi' h1)
theorem Xm {α β:Type} {f:α->β} {l:List α} (h:(l.map f).Nodup) {x y:α} (hx:x∈l) (hy:y∈l) (he:f x=f y):x=y:=by
 obtain⟨i,hi⟩:=List.mem_iff_getElem?.1 hx
 obtain⟨j,hj⟩:=List.mem_iff_getElem?.1 hy
 have:i=j:=Xn h (x:=f x) (by simp[hi]) (by simp[hj,he])
 subst this
 rw[hi]at hj
 exact Option.some.inj hj
structure Ents (es:Array MapEntry) (clock:Nat) (D:Int->Option Value):Prop where
 st:Stamped es clock
 reads:∀x∈es.toList,∃k,x.key=.int .i64 k/\D k=some x.val
 has:∀k v,D k=some v->∃x∈es.toList,x.key=.int .i64 k
def IMap (w:World) (b:Nat) (D:Int->Option Value):Prop:=∃es clock,At w b (.map es clock)/\Ents es clock D
theorem IMap.lt {w:World} {b:Nat} {D:Int->Option Value} (h:IMap w b D):b<w.heap.size:=by
 obtain⟨_,_,h1,_⟩:=h
 exact h1.lt
theorem IMap.keep {S:List Nat} {w w':World} {b:Nat} {D:Int->Option Value} (h:IMap w b D) (hk:xe S w w') (hs:b∉S):IMap w' b D:=by
 obtain⟨es,clock,h1,h2⟩:=h
 exact⟨es,clock,hk.at h1 hs,h2⟩
theorem IMap.congr {w:World} {b:Nat} {D E:Int->Option Value} (h:IMap w b D) (he:∀k,D k=E k):IMap w b E:=by
 have:D=E:=funext he
 rwa[<-this]
theorem Ents.empty (clock:Nat):Ents #[] clock (fun _=>none):=⟨stamped_empty clock,by simp,by simp⟩
theorem IMap.made (w:World):IMap (w.alloc (.map #[] 0)) w.heap.size (fun _=>none):=⟨#[],0,At.new _ _,Ents.empty 0⟩
theorem Ents.isKey {es:Array MapEntry} {clock:Nat} {D:Int->Option Value} (h:Ents es clock D):∀x∈es.toList,IsKey (.int .i64) x.key:=by
 intro x hx
 obtain⟨k,hk,_⟩:=h.reads x hx
 simp[hk,IsKey]
theorem Ents.find {es:Array MapEntry} {clock:Nat} {D:Int->Option Value} (h:Ents es clock D) (k:Int):
  (Instr.findNow (.int .i64) (.int .i64 k) es.toList 0=some none/\D k=none/\∀x∈es.toList,x.key≠.int .i64 k)\/
  ∃j e,Instr.findNow (.int .i64) (.int .i64 k) es.toList 0=some (some (j,e.val))/\es[j]? =some e/\e.key=.int .i64 k/\D k=some e.val:=by
 rcases findNow_spec (d:=.int .i64) (k:=.int .i64 k) rfl es.toList 0 h.isKey with⟨h1,h2⟩|⟨j,e,h1,h2,h3⟩
 ·refine .inl ⟨h1,?_,h2⟩
  cases hd:D k with
  |none=>rfl
  |some v=>obtain⟨x,hx,hk⟩:=h.has k v hd;exact absurd hk (h2 x hx)
 ·have hj:es[j]? =some e:=by simpa using h2
  refine .inr ⟨j,e,by simpa using h1,hj,h3,?_⟩
  obtain⟨k',hk',hv⟩:=h.reads e (Array.mem_toList_iff.2 (Array.mem_of_getElem? hj))
  rw[h3]at hk'
  cases hk'
  exact hv
section
variable {P:Program} {w:World} {b:Nat} {D:Int->Option Value} {t kt et:TypeId}
theorem Ents.push {es:Array MapEntry} {clock:Nat} (h:Ents es clock D) (k:Int) (v:Value) (hn:∀x∈es.toList,x.key≠.int .i64 k):
  Ents (es.push { key:=.int .i64 k,val:=v,born:=clock }) (clock+1) (fun z=>if z=k then some v else D z):=by
 refine⟨stamped_push h.st hn,?_,?_⟩
 ·intro x hx
  simp only[Array.toList_push,List.mem_append,List.mem_singleton]at hx
  rcases hx with hx|rfl
  ·obtain⟨z,hz,hd⟩:=h.reads x hx
   have:z≠k:=by rintro rfl;exact hn x hx hz
   exact⟨z,hz,by simp[this,hd]⟩
  ·exact⟨k,rfl,by simp⟩
 ·intro z v' hv
  change (if z=k then some v else D z)=some v' at hv
  split at hv
  ·rename_i hz
   subst hz
   exact⟨{ key:=.int .i64 z,val:=v,born:=clock },by simp,rfl⟩
  ·obtain⟨x,hx,hk⟩:=h.has z v' hv
   exact⟨x,by simp only[Array.toList_push,List.mem_append];exact .inl hx,hk⟩
theorem Ents.modify {es:Array MapEntry} {clock:Nat} (h:Ents es clock D) (k:Int) (v:Value) (j:Nat) (e:MapEntry) (hj:es[j]? =some e) (hk:e.key=.int .i64 k):
  Ents (es.modify j fun x=> { x with key:=.int .i64 k,val:=v }) clock (fun z=>if z=k then some v else D z):=by
 have hmem:e∈es.toList:=Array.mem_toList_iff.2 (Array.mem_of_getElem? hj)
 have hget:∀i,(es.modify j fun x=> { x with key:=.int .i64 k,val:=v })[i]? =if j=i then some { e with key:=.int .i64 k,val:=v } else es[i]? :=by
  intro i
  rw[Array.getElem?_modify]
  split
  ·rename_i h0;subst h0;simp[hj]
  ·rfl
 have huniq:∀i x,es[i]? =some x->x.key=.int .i64 k->i=j:=by
  intro i x hx hxk
  have hnd:=h.st.2.2
  have l1:(es.toList.map (·.key))[i]? =some (.int .i64 k):=by simp[hx,hxk]
  have l2:(es.toList.map (·.key))[j]? =some (.int .i64 k):=by simp[hj,hk]
  exact Xn hnd l1 l2
 refine⟨stamped_modify h.st _ _ (fun _ _=>rfl) (fun x _ hx=>by rw[hj]at hx;cases hx;exact hk.symm),?_,?_⟩
 ·intro x hx
  obtain⟨i,hi⟩:=Array.mem_iff_getElem?.1 (Array.mem_toList_iff.1 hx)
  rw[hget]at hi
  split at hi
  ·cases hi;exact⟨k,rfl,by simp⟩
  ·rename_i hne
   obtain⟨z,hz,hd⟩:=h.reads x (Array.mem_toList_iff.2 (Array.mem_of_getElem? hi))
   have:z≠k:=by rintro rfl;exact hne (huniq i x hi hz).symm
   exact⟨z,hz,by simp[this,hd]⟩
 ·intro z v' hv
  change (if z=k then some v else D z)=some v' at hv
  split at hv
  ·rename_i hz
   subst hz
   refine⟨{ e with key:=.int .i64 z,val:=v },?_,rfl⟩
   exact Array.mem_toList_iff.2 (Array.mem_of_getElem? (i:=j) (by rw[hget];simp))
  ·rename_i hz
   obtain⟨x,hx,hxk⟩:=h.has z v' hv
   obtain⟨i,hi⟩:=Array.mem_iff_getElem?.1 (Array.mem_toList_iff.1 hx)
   refine⟨x,Array.mem_toList_iff.2 (Array.mem_of_getElem? (i:=i) ?_),hxk⟩
   rw[hget,if_neg,hi]
   rintro rfl
   rw[hj]at hi
   cases hi
   rw[hk]at hxk
   cases hxk
   exact hz rfl
theorem IMap.update (h:IMap w b D) (hm:P.underlying t=some (.map kt et)) (hd:P.underlying kt=some (.int .i64)) (k:Int) (v:Value):
  ∃w',(Instr.mapUpdate t (.map (some b)) (.int .i64 k) v).run P w=.ok () w'/\IMap w' b (fun z=>if z=k then some v else D z)/\xe [b] w w':=by
 obtain⟨es,clock,hb,hE⟩:=h
 have hk:IsKey (.int .i64) (.int .i64 k):=rfl
 rcases hE.find k with⟨h1,h2,h3⟩|⟨j,e,h1,h2,h3,h4⟩
 ·refine⟨setBlock w b (.map (es.push { key:=.int .i64 k,val:=v,born:=clock }) (clock+1)),?_,⟨_,_,hb.setBlock _,hE.push k v h3⟩,(xe.refl _ _).setBlock (.inl (by simp)) _⟩
  simp[Instr.mapUpdate,run_underlying hm,MapKept.run_getObj_map (P:=P) (w:=w) (r:=b) hb,run_checkKey hd hk,run_findKey hd h1,MapKept.run_setObj_map (P:=P) (w:=w) (r:=b) _ hb,Result.andThen,ChangeMaps.setBlock]
 ·refine⟨setBlock w b (.map (es.modify j fun x=> { x with key:=.int .i64 k,val:=v }) clock),?_,⟨_,_,hb.setBlock _,hE.modify k v j e h2 h3⟩,(xe.refl _ _).setBlock (.inl (by simp)) _⟩
  simp[Instr.mapUpdate,run_underlying hm,MapKept.run_getObj_map (P:=P) (w:=w) (r:=b) hb,run_checkKey hd hk,run_findKey hd h1,h2,h3,run_keyThatStays hk,MapKept.run_setObj_map (P:=P) (w:=w) (r:=b) _ hb,Result.andThen,ChangeMaps.setBlock]
theorem IMap.lookup (h:IMap w b D) (hm:P.underlying t=some (.map kt et)) (hd:P.underlying kt=some (.int .i64)) {z:Value} (hz:(zeroValue et).run P w=.ok z w) (k:Int) (c:Bool):
  (Instr.lookup t (.map (some b)) (.int .i64 k) c).run P w=.ok (if c then .tuple #[(D k).getD z,.bool (D k).isSome]else(D k).getD z) w:=by
 obtain⟨es,clock,hb,hE⟩:=h
 have hk:IsKey (.int .i64) (.int .i64 k):=rfl
 rcases hE.find k with⟨h1,h2,h3⟩|⟨j,e,h1,h2,h3,h4⟩
 ·cases c<;>simp[Instr.lookup,run_underlying hm,MapKept.run_getObj_map (P:=P) (w:=w) (r:=b) hb,run_checkKey hd hk,run_findKey hd h1,Result.andThen,hz,h2]
 ·cases c<;>simp[Instr.lookup,run_underlying hm,MapKept.run_getObj_map (P:=P) (w:=w) (r:=b) hb,run_checkKey hd hk,run_findKey hd h1,Result.andThen,h4]
theorem IMap.clear (h:IMap w b D) (hm:P.underlying t=some (.map kt et)) (ty:TypeId):
  ∃w',(Builtin.clear_ #[t] ty #[.map (some b)]).run P w=.ok (.tuple #[]) w'/\IMap w' b (fun _=>none)/\xe [b] w w':=by
 obtain⟨es,clock,hb,hE⟩:=h
 refine⟨setBlock w b (.map #[] clock),?_,⟨_,_,hb.setBlock _,Ents.empty clock⟩,(xe.refl _ _).setBlock (.inl (by simp)) _⟩
 simp[Builtin.clear_,run_underlying hm,MapKept.run_getObj_map (P:=P) (w:=w) (r:=b) hb,MapKept.run_setObj_map (P:=P) (w:=w) (r:=b) _ hb,Result.andThen,ChangeMaps.setBlock]
def zM (w:World) (r b:Nat) (D:Int->Option Value) (left:Int->Bool) (cnt:Nat):Prop:=
 ∃es clock since seen last,At w b (.map es clock)/\Ents es clock D/\At w r (.mapIter (some b) since seen last)/\(∀x∈es.toList,x.born<since)/\since≤last/\since≤clock/\
  (∀k,left k=true↔∃x∈(leftOf es seen).toList,x.key=.int .i64 k)/\cnt=(leftOf es seen).size
theorem zM.map {r:Nat} {left:Int->Bool} {cnt:Nat} (h:zM w r b D left cnt):IMap w b D:=by
 obtain⟨es,clock,since,seen,last,h1,h2,_⟩:=h
 exact⟨es,clock,h1,h2⟩
theorem zM.keep {S:List Nat} {w':World} {r:Nat} {left:Int->Bool} {cnt:Nat} (h:zM w r b D left cnt) (hk:xe S w w') (hs:b∉S) (hr:r∉S):zM w' r b D left cnt:=by
 obtain⟨es,clock,since,seen,last,h1,h2,h3,h4⟩:=h
 exact⟨es,clock,since,seen,last,hk.at h1 hs,h2,hk.at h3 hr,h4⟩
theorem YO (es:Array MapEntry):leftOf es #[]=es:=by
 unfold leftOf
 rw[Array.filter_eq_self]
 simp
theorem IMap.range (h:IMap w b D) (hm:P.underlying t=some (.map kt et)):
  ∃w' cnt,(Instr.range t (.map (some b))).run P w=.ok (.pointer (some ⟨w.heap.size,0,none⟩)) w'/\zM w' w.heap.size b D (fun k=>(D k).isSome) cnt/\xe [] w w'/\w'.heap.size=w.heap.size+1:=by
 obtain⟨es,clock,hb,hE⟩:=h
 refine⟨w.alloc (.mapIter (some b) clock #[] clock),es.size,?_,⟨es,clock,clock,#[],clock,hb.alloc _,hE,At.new _ _,hE.st.1,Nat.le_refl _,Nat.le_refl _,?_,by rw[YO]⟩,(xe.refl _ _).alloc _,by simp⟩
 ·simp[Instr.range,run_underlying hm,MapKept.run_getObj_map (P:=P) (w:=w) (r:=b) hb,Result.andThen]
 ·intro k
  rw[YO]
  constructor
  ·intro hs
   obtain⟨v,hv⟩:=Option.isSome_iff_exists.1 hs
   exact hE.has k v hv
  ·rintro⟨x,hx,hk⟩
   obtain⟨k',hk',hv⟩:=hE.reads x hx
   rw[hk]at hk'
   cases hk'
   simp[hv]
theorem zM.next {r:Nat} {left:Int->Bool} {cnt:Nat} (h:zM w r b D left cnt) (hne:r≠b) (ty:TypeId):
  (cnt=0/\(∀k,left k=false)/\(Instr.next (.pointer (some ⟨r,0,none⟩)) false ty).run P w=.ok (.tuple #[.bool false]) w)\/
  ∃k v w' cnt',left k=true/\D k=some v/\cnt'<cnt/\(Instr.next (.pointer (some ⟨r,0,none⟩)) false ty).run P w=.ok (.tuple #[.bool true,.int .i64 k,v]) w'/\
   zM w' r b D (fun z=>left z&& !decide (z=k)) cnt'/\xe [r] w w'/\(Instr.entry (.pointer (some ⟨r,0,none⟩))).run P w'=.ok (.tuple #[.int .i64 k,v]) w':=by
 obtain⟨es,clock,since,seen,last,hb,hE,hr,h4,h5,h5c,h6,h7⟩:=h
 rcases run_next_at (P:=P) w ty r b since last seen es clock hr hb h4 h5 with⟨h0,hrun⟩|⟨e,he,w1,hw1,hrun⟩
 ·left
  refine⟨by omega,fun k=>?_,hrun⟩
  rw[Bool.eq_false_iff]
  intro hk
  obtain⟨x,hx,_⟩:=(h6 k).1 hk
  have:leftOf es seen=#[]:=Array.eq_empty_of_size_eq_zero h0
  rw[this]at hx
  simp at hx
 ·right
  obtain⟨hes,hns⟩:=mem_left he
  obtain⟨k,hk,hv⟩:=hE.reads e hes
  have hk1:xe [r] w w1:=by rcases hw1 with rfl|rfl;exact xe.refl _ _;exact(xe.refl _ _).drew
  have hr1:At w1 r (.mapIter (some b) since seen last):=by rcases hw1 with rfl|rfl;exact hr;exact hr.drew
  have hb1:At w1 b (.map es clock):=by rcases hw1 with rfl|rfl;exact hb;exact hb.drew
  have hb2:At (setBlock w1 r (.mapIter (some b) since (seen.push e.born) clock)) b (.map es clock):=by
   have:=((xe.refl [r] w1).setBlock (b:=r) (.inl (by simp)) (.mapIter (some b) since (seen.push e.born) clock)).at hb1 (by simpa using hne.symm)
   exact this
  have hr2:=hr1.setBlock (.mapIter (some b) since (seen.push e.born) clock)
  refine⟨k,e.val,_,(leftOf es (seen.push e.born)).size,(h6 k).2 ⟨e,he,hk⟩,hv,by rw[h7];exact left_shrinks es seen e he,by rw[hrun,hk],
   ⟨es,clock,since,seen.push e.born,clock,hb2,hE,hr2,h4,h5c,h5c,?_,rfl⟩,hk1.setBlock (.inl (List.mem_singleton.2 rfl)) _,?_⟩
  ·intro z
   have hpush:∀x∈es.toList,(x∈(leftOf es (seen.push e.born)).toList↔x∈(leftOf es seen).toList/\x.born≠e.born):=by
    intro x hx
    simp[leftOf]
    constructor
    ·rintro⟨a1,a2,a3⟩;exact⟨⟨a1,a2⟩,a3⟩
    ·rintro⟨⟨a1,a2⟩,a3⟩;exact⟨a1,a2,a3⟩
   simp only[Bool.and_eq_true,Bool.not_eq_true',decide_eq_false_iff_not]
   constructor
   ·rintro⟨hl,hzk⟩
    obtain⟨x,hx,hxk⟩:=(h6 z).1 hl
    refine⟨x,(hpush x (mem_left hx).1).2 ⟨hx,fun hbn=>?_⟩,hxk⟩
    have:x=e:=by
     have hnd:=hE.st.2.1
     exact Xm hnd (mem_left hx).1 hes hbn
    subst this
    rw[hk]at hxk
    cases hxk
    exact hzk rfl
   ·rintro⟨x,hx,hxk⟩
    obtain⟨h1,h2⟩:=(hpush x (mem_left hx).1).1 hx
    refine⟨(h6 z).2 ⟨x,h1,hxk⟩,?_⟩
    rintro rfl
    have:x=e:=Xm hE.st.2.2 (mem_left hx).1 hes (by rw[hxk,hk])
    subst this
    exact h2 rfl
  ·have:=run_entry_at (P:=P) _ r b since seen es clock e hr2 hb2 hes hE.st.2.1
   rw[this,hk]
variable {ops:Array Oper} {rest:List Oper} {o:Oper} {a:Act} {Q:Exit->Act->World->Prop}
theorem zl (hg:o.guard=none) (m x v:Operand) (t:TypeId) (hop:o.op=Op.mapUpdate t m x v) (kt et:TypeId) (hm:P.underlying t=some (.map kt et)) (hd:P.underlying kt=some (.int .i64))
  (b:Nat) (D:Int->Option Value) (hme:a.eval m=.map (some b)) (h:IMap w b D) (k:Int) (val:Value) (hx:a.eval x=.int .i64 k) (hv:a.eval v=val)
  (hK:∀w',IMap w' b (fun z=>if z=k then some val else D z)->xe [b] w w'->wpList P ops Q rest (a.put o.dst undef) w'):
  wpList P ops Q (o::rest) a w:=by
 refine wpList_plain hg fun K' hK'=>?_
 obtain⟨w',hrun,r1,r2⟩:=h.update hm hd k val
 unfold Oper.wp
 simp[execOp,hop,hme,hx,hv,hrun,Result.andThen]
 exact hK' _ _ (hK w' r1 r2)
theorem wI (hg:o.guard=none) (m x:Operand) (t:TypeId) (c:Bool) (hop:o.op=Op.lookup t m x c) (kt et:TypeId) (hm:P.underlying t=some (.map kt et)) (hd:P.underlying kt=some (.int .i64))
  (z:Value) (hz:(zeroValue et).run P w=.ok z w) (b:Nat) (D:Int->Option Value) (hme:a.eval m=.map (some b)) (h:IMap w b D) (k:Int) (hx:a.eval x=.int .i64 k)
  (hK:wpList P ops Q rest (a.put o.dst (if c then .tuple #[(D k).getD z,.bool (D k).isSome]else(D k).getD z)) w):
  wpList P ops Q (o::rest) a w:=by
 refine wpList_plain hg fun K' hK'=>?_
 have hrun:=h.lookup hm hd hz k c
 unfold Oper.wp
 simp[execOp,hop,hme,hx,hrun,Result.andThen]
 exact hK' _ _ hK
theorem yI (hg:o.guard=none) (m x:Operand) (t:TypeId) (hop:o.op=Op.lookup t m x true) (kt et:TypeId) (hm:P.underlying t=some (.map kt et)) (hd:P.underlying kt=some (.int .i64))
  (z:Value) (hz:(zeroValue et).run P w=.ok z w) (b:Nat) (D:Int->Option Value) (hme:a.eval m=.map (some b)) (h:IMap w b D) (k:Int) (hx:a.eval x=.int .i64 k) (v:Value) (hv:D k=some v)
  (hK:wpList P ops Q rest (a.put o.dst (.tuple #[v,.bool true])) w):
  wpList P ops Q (o::rest) a w:=
 wI hg m x t true hop kt et hm hd z hz b D hme h k hx (by simpa[hv]using hK)
theorem yA (hg:o.guard=none) (m x:Operand) (t:TypeId) (hop:o.op=Op.lookup t m x true) (kt et:TypeId) (hm:P.underlying t=some (.map kt et)) (hd:P.underlying kt=some (.int .i64))
  (z:Value) (hz:(zeroValue et).run P w=.ok z w) (b:Nat) (D:Int->Option Value) (hme:a.eval m=.map (some b)) (h:IMap w b D) (k:Int) (hx:a.eval x=.int .i64 k) (hv:D k=none)
  (hK:wpList P ops Q rest (a.put o.dst (.tuple #[z,.bool false])) w):
  wpList P ops Q (o::rest) a w:=
 wI hg m x t true hop kt et hm hd z hz b D hme h k hx (by simpa[hv]using hK)
theorem yn (hg:o.guard=none) (m:Operand) (t:TypeId) (hop:o.op=Op.call { callee:=Callee.builtin Builtin.clear,args:=#[m],argTypes:=#[t] }) (kt et:TypeId) (hm:P.underlying t=some (.map kt et))
  (b:Nat) (D:Int->Option Value) (hme:a.eval m=.map (some b)) (h:IMap w b D)
  (hK:∀w',IMap w' b (fun _=>none)->xe [b] w w'->wpList P ops Q rest (a.put o.dst (.tuple #[])) w'):
  wpList P ops Q (o::rest) a w:=by
 refine wpList_plain hg fun K' hK'=>?_
 obtain⟨w',hrun,r1,r2⟩:=h.clear hm o.type
 unfold Oper.wp
 simp[execOp,hop,resolve,invoke,builtin,hme,hrun,Result.andThen]
 exact hK' _ _ (hK w' r1 r2)
theorem wN (hg:o.guard=none) (m:Operand) (t:TypeId) (hop:o.op=Op.range t m) (kt et:TypeId) (hm:P.underlying t=some (.map kt et))
  (b:Nat) (D:Int->Option Value) (hme:a.eval m=.map (some b)) (h:IMap w b D)
  (hK:∀w' cnt,zM w' w.heap.size b D (fun k=>(D k).isSome) cnt->xe [] w w'->w'.heap.size=w.heap.size+1->wpList P ops Q rest (a.put o.dst (.pointer (some ⟨w.heap.size,0,none⟩))) w'):
  wpList P ops Q (o::rest) a w:=by
 refine wpList_plain hg fun K' hK'=>?_
 obtain⟨w',cnt,hrun,r1,r2,r3⟩:=h.range hm
 unfold Oper.wp
 simp[execOp,hop,hme,hrun,Result.andThen]
 exact hK' _ _ (hK w' cnt r1 r2 r3)
theorem vK (hg:o.guard=none) (it:Operand) (hop:o.op=Op.next it false) (r b:Nat) (D:Int->Option Value) (left:Int->Bool) (cnt:Nat) (hit:a.eval it=.pointer (some ⟨r,0,none⟩)) (h:zM w r b D left cnt) (hne:r≠b)
  (hDone:cnt=0->(∀k,left k=false)->wpList P ops Q rest (a.put o.dst (.tuple #[.bool false])) w)
  (hMore:∀(k:Int) (v:Value) (w':World) (cnt':Nat),left k=true->D k=some v->cnt'<cnt->zM w' r b D (fun z=>left z&& !decide (z=k)) cnt'->xe [r] w w'->
    (Instr.entry (.pointer (some ⟨r,0,none⟩))).run P w'=.ok (.tuple #[.int .i64 k,v]) w'->wpList P ops Q rest (a.put o.dst (.tuple #[.bool true,.int .i64 k,v])) w'):
  wpList P ops Q (o::rest) a w:=by
 refine wpList_plain hg fun K' hK'=>?_
 unfold Oper.wp
 rcases h.next (P:=P) hne o.type with⟨h0,hl,hrun⟩|⟨k,v,w',cnt',h1,h2,h3,hrun,h4,h5,h6⟩
 ·simp[execOp,hop,hit,hrun,Result.andThen]
  exact hK' _ _ (hDone h0 hl)
 ·simp[execOp,hop,hit,hrun,Result.andThen]
  exact hK' _ _ (hMore k v w' cnt' h1 h2 h3 h4 h5 h6)
end
end Go.Proofs.YtcdhklgahepcaaaGreat
