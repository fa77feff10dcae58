import Derived.Test.YtcdhklgahepcaaaGreatMaps
import Derived.WideKeyEntry
namespace Go.Proofs.YtcdhklgahepcaaaGreat
open Go.RowKit Go.MapKept
open Go.ChangeMaps (setBlock)
theorem Ents.erase {es:Array MapEntry} {clock:Nat} {D:Int->Option Value} (h:Ents es clock D) (k:Int) (j:Nat) (e:MapEntry) (hj:es[j]? =some e) (hk:e.key=.int .i64 k):
  Ents (es.eraseIdxIfInBounds j) clock (fun z=>if z=k then none else D z):=by
 have hjs:j<es.size:=(Array.getElem?_eq_some_iff.1 hj).1
 have hl:(es.eraseIdxIfInBounds j).toList=es.toList.eraseIdx j:=by
  unfold Array.eraseIdxIfInBounds
  rw[dif_pos hjs]
  simp
 have hnd:(es.toList.map (·.key)).Nodup:=List.pairwise_map.2 (List.pairwise_map.1 h.st.2.2)
 have hkj:(es.toList.map (·.key))[j]? =some (.int .i64 k):=by simp[hj,hk]
 refine⟨stamped_erase h.st j,?_,?_⟩
 ·intro x hx
  rw[hl,List.mem_eraseIdx_iff_getElem?]at hx
  obtain⟨i,hne,hi⟩:=hx
  obtain⟨z,hz,hd⟩:=h.reads x (List.mem_of_getElem? hi)
  refine⟨z,hz,?_⟩
  show(if z=k then none else D z)=_
  rw[if_neg,hd]
  rintro rfl
  exact hne (Xn hnd (by simp[show es[i]? =some x by simpa using hi,hz]) hkj)
 ·intro z v hv
  change (if z=k then none else D z)=some v at hv
  split at hv
  ·cases hv
  ·rename_i hz
   obtain⟨x,hx,hxk⟩:=h.has z v hv
   obtain⟨i,hi⟩:=List.mem_iff_getElem?.1 hx
   refine⟨x,?_,hxk⟩
   rw[hl,List.mem_eraseIdx_iff_getElem?]
   refine⟨i,?_,hi⟩
   rintro rfl
   have:x=e:=by
    have h1:es[i]? =some x:=by simpa using hi
    rw[h1]at hj
    exact Option.some.inj hj
   subst this
   rw[hk]at hxk
   cases hxk
   exact hz rfl
section
variable {P:Program} {w:World} {b:Nat} {D:Int->Option Value} {t kt et:TypeId}
theorem IMap.delete (h:IMap w b D) (hm:P.underlying t=some (.map kt et)) (hd:P.underlying kt=some (.int .i64)) (k:Int) (kt2 ty:TypeId):
  ∃w',(Builtin.delete_ #[t,kt2] ty #[.map (some b),.int .i64 k]).run P w=.ok (.tuple #[]) w'/\IMap w' b (fun z=>if z=k then none else D z)/\xe [b] w w':=by
 obtain⟨es,clock,hb,hE⟩:=h
 have hk:IsKey (.int .i64) (.int .i64 k):=rfl
 rcases hE.find k with⟨h1,h2,h3⟩|⟨j,e,h1,h2,h3,h4⟩
 ·refine⟨setBlock w b (.map es clock),?_,(show IMap _ b D from⟨_,_,hb.setBlock _,hE⟩).congr fun z=>?_,(xe.refl _ _).setBlock (.inl (by simp)) _⟩
  ·simp[Builtin.delete_,run_underlying hm,MapKept.run_getObj_map (P:=P) (w:=w) (r:=b) hb,run_checkKey hd hk,run_findKey hd h1,MapKept.run_setObj_map (P:=P) (w:=w) (r:=b) _ hb,Result.andThen,ChangeMaps.setBlock]
  ·split
   ·rename_i hz;rw[hz,h2]
   ·rfl
 ·refine⟨setBlock w b (.map (es.eraseIdxIfInBounds j) clock),?_,⟨_,_,hb.setBlock _,hE.erase k j e h2 h3⟩,(xe.refl _ _).setBlock (.inl (by simp)) _⟩
  simp[Builtin.delete_,run_underlying hm,MapKept.run_getObj_map (P:=P) (w:=w) (r:=b) hb,run_checkKey hd hk,run_findKey hd h1,MapKept.run_setObj_map (P:=P) (w:=w) (r:=b) _ hb,Result.andThen,ChangeMaps.setBlock]
def IEnt (w:World) (b:Nat) (D:Int->Option Value) (k:Int) (st:Nat):Prop:=
 ∃es clock,At w b (.map es clock)/\(∃D1,Ents es clock D1/\∀z,z≠k->D1 z=D z)/\∃(j:Nat) (e:MapEntry),es[j]? =some e/\e.key=.int .i64 k/\e.born=st
theorem IMap.entry (h:IMap w b D) (hm:P.underlying t=some (.map kt et)) (hd:P.underlying kt=some (.int .i64)) {z:Value} (hz:∀u:World,(zeroValue et).run P u=.ok z u) (k:Int):
  ∃(st:Nat) (w':World),(Instr.mapEntry t (.map (some b)) (.int .i64 k)).run P w=.ok (.tuple #[(D k).getD z,goInt st]) w'/\IEnt w' b D k st/\xe [b] w w':=by
 obtain⟨es,clock,hb,hE⟩:=h
 have hk:IsKey (.int .i64) (.int .i64 k):=rfl
 rcases hE.find k with⟨h1,h2,h3⟩|⟨j,e,h1,h2,h3,h4⟩
 ·refine⟨clock,setBlock w b (.map (es.push ⟨.int .i64 k,z,clock⟩) (clock+1)),?_,⟨_,_,hb.setBlock _,⟨_,hE.push k z h3,fun y hy=>if_neg hy⟩,es.size,⟨.int .i64 k,z,clock⟩,by simp,rfl,rfl⟩,(xe.refl _ _).setBlock (.inl (by simp)) _⟩
  simp[Instr.mapEntry,run_underlying hm,MapKept.run_getObj_map (P:=P) (w:=w) (r:=b) hb,run_checkKey hd hk,run_findKey hd h1,hz,h2,MapKept.run_setObj_map (P:=P) (w:=w) (r:=b) _ hb,Result.andThen,ChangeMaps.setBlock]
 ·have hsame:es.modify j (fun x=> { x with key:=.int .i64 k })=es:=by
   apply Array.ext'
   rw[Array.toList_modify,ChangeMaps.modify_eq_set _ _ _ _ (show es.toList[j]? =some e by simpa using h2)]
   have:({ e with key:=.int .i64 k } :MapEntry)=e:=by rw[<-h3]
   rw[this]
   exact WideElems.set_self _ _ _ (by simpa using h2)
  refine⟨e.born,setBlock w b (.map es clock),?_,⟨_,_,hb.setBlock _,⟨_,hE,fun _ _=>rfl⟩,j,e,h2,h3,rfl⟩,(xe.refl _ _).setBlock (.inl (by simp)) _⟩
  simp[Instr.mapEntry,run_underlying hm,MapKept.run_getObj_map (P:=P) (w:=w) (r:=b) hb,run_checkKey hd hk,run_findKey hd h1,h2,h3,h4,hsame,run_keyThatStays hk,MapKept.run_setObj_map (P:=P) (w:=w) (r:=b) _ hb,Result.andThen,ChangeMaps.setBlock]
theorem IEnt.store {k:Int} {st:Nat} (h:IEnt w b D k st) (t:TypeId) (v:Value):
  ∃w',(Instr.entryStore t (.map (some b)) (goInt st) v).run P w=.ok () w'/\IMap w' b (fun z=>if z=k then some v else D z)/\xe [b] w w':=by
 obtain⟨es,clock,hb,⟨D1,hE,hD⟩,j,e,hj,hk,rfl⟩:=h
 have hidx:es.findIdx? (fun x=>((x.born:Nat):Int)==((e.born:Nat):Int))=some j:=by
  rw[WideElems.findIdx_arr]
  exact WideElems.findIdx_born hE.st.2.1 (by simpa using hj)
 have hmod:es.modify j (fun x=> { x with val:=v })=es.modify j (fun x=> { x with key:=.int .i64 k,val:=v }):=by
  apply Array.ext'
  rw[Array.toList_modify,Array.toList_modify,ChangeMaps.modify_eq_set _ _ _ _ (show es.toList[j]? =some e by simpa using hj),ChangeMaps.modify_eq_set _ _ _ _ (show es.toList[j]? =some e by simpa using hj),<-hk]
 refine⟨setBlock w b (.map (es.modify j fun x=> { x with key:=.int .i64 k,val:=v }) clock),?_,(show IMap _ b _ from⟨_,_,hb.setBlock _,hE.modify k v j e hj hk⟩).congr fun z=>?_,(xe.refl _ _).setBlock (.inl (by simp)) _⟩
 ·simp[Instr.entryStore,MapKept.run_getObj_map (P:=P) (w:=w) (r:=b) hb,asInt,asIntOf,goInt,hidx,hmod,MapKept.run_setObj_map (P:=P) (w:=w) (r:=b) _ hb,Result.andThen,ChangeMaps.setBlock]
 ·split
  ·rfl
  ·rename_i hz;exact hD z hz
variable {ops:Array Oper} {rest:List Oper} {o:Oper} {a:Act} {Q:Exit->Act->World->Prop}
theorem zm (hg:o.guard=none) (m x:Operand) (t kt2:TypeId) (hop:o.op=Op.call { callee:=Callee.builtin Builtin.delete,args:=#[m,x],argTypes:=#[t,kt2] }) (kt et:TypeId) (hm:P.underlying t=some (.map kt et)) (hd:P.underlying kt=some (.int .i64))
  (b:Nat) (D:Int->Option Value) (hme:a.eval m=.map (some b)) (h:IMap w b D) (k:Int) (hx:a.eval x=.int .i64 k)
  (hK:∀w',IMap w' b (fun z=>if z=k then none else D z)->xe [b] w w'->wpList P ops Q rest (a.put o.dst (.tuple #[])) w'):
  wpList P ops Q (o::rest) a w:=by
 refine wpList_plain hg fun K' hK'=>?_
 obtain⟨w',hrun,r1,r2⟩:=h.delete hm hd k kt2 o.type
 unfold Oper.wp
 simp[execOp,hop,resolve,invoke,builtin,hme,hx,hrun,Result.andThen]
 exact hK' _ _ (hK w' r1 r2)
variable {K:Act->World->Prop} {E:Prop}
theorem Xe (hg:o.guard=none) (m x:Operand) (t:TypeId) (hop:o.op=Op.mapEntry t m x) (kt et:TypeId) (hm:P.underlying t=some (.map kt et)) (hd:P.underlying kt=some (.int .i64))
  (z:Value) (hz:∀u:World,(zeroValue et).run P u=.ok z u) (b:Nat) (D:Int->Option Value) (hme:a.eval m=.map (some b)) (h:IMap w b D) (k:Int) (hx:a.eval x=.int .i64 k)
  (hK:∀(st:Nat) (w':World),IEnt w' b D k st->xe [b] w w'->K (a.put o.dst (.tuple #[(D k).getD z,.int .i64 (st:Nat)])) w'):
  if Region.wanted o (yielded ops a.tmps)=true then Oper.wp P o a w K Q else E:=by
 have hw:Region.wanted o (yielded ops a.tmps)=true:=by simp[Region.wanted,hg]
 rw[if_pos hw]
 obtain⟨st,w',hrun,r1,r2⟩:=h.entry hm hd hz k
 unfold Oper.wp
 simp[execOp,hop,hme,hx,hrun,Result.andThen]
 exact hK st w' r1 r2
theorem vM (hg:o.guard=none) (m s x:Operand) (t:TypeId) (hop:o.op=Op.entryStore t m s x) (b:Nat) (D:Int->Option Value) (hme:a.eval m=.map (some b)) (k:Int) (st:Nat) (h:IEnt w b D k st)
  (hs:a.eval s=.int .i64 (st:Nat)) (v:Value) (hv:a.eval x=v) (hK:∀w',IMap w' b (fun z=>if z=k then some v else D z)->xe [b] w w'->K (a.put o.dst undef) w'):
  if Region.wanted o (yielded ops a.tmps)=true then Oper.wp P o a w K Q else E:=by
 have hw:Region.wanted o (yielded ops a.tmps)=true:=by simp[Region.wanted,hg]
 rw[if_pos hw]
 obtain⟨w',hrun,r1,r2⟩:=h.store (P:=P) t v
 have hrun':(Instr.entryStore t (.map (some b)) (.int .i64 (st:Nat)) v).run P w=.ok () w':=hrun
 unfold Oper.wp
 simp[execOp,hop,hme,hs,hv,hrun',Result.andThen]
 exact hK w' r1 r2
end
end Go.Proofs.YtcdhklgahepcaaaGreat
