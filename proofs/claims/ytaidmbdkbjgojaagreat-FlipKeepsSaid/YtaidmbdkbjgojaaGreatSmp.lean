import Derived.Test.YtaidmbdkbjgojaaGreatMaps
import Derived.Test.YtaidmbdkbjgojaaGreatAwk14
import Derived.Test.YtaidmbdkbjgojaaGreatClb
import Derived.Test.YtaidmbdkbjgojaaGreatRea
namespace Go.Proofs.YtaidmbdkbjgojaaGreat
open Go.RowKit Go.MapKept
open Go.ChangeMaps (setBlock)
structure UEnts (es:Array MapEntry) (clock:Nat) (D:Int → Option Value):Prop where
 st:Stamped es clock
 reads:∀ x ∈ es.toList, ∃ k,x.key = .int .u64 k ∧ D k = some x.val
 has:∀ k v,D k = some v → ∃ x ∈ es.toList,x.key = .int .u64 k
def UMap (w:World) (b:Nat) (D:Int → Option Value):Prop:=∃ es clock,At w b (.map es clock) ∧ UEnts es clock D
theorem UMap.lt {w:World} {b:Nat} {D:Int → Option Value} (h:UMap w b D):b < w.heap.size:=by
 obtain ⟨_,_,h1,_⟩:=h
 exact h1.lt
theorem UMap.keep {S:List Nat} {w w':World} {b:Nat} {D:Int → Option Value} (h:UMap w b D) (hk:Keeps S w w') (hs:b ∉ S):UMap w' b D:=by
 obtain ⟨es,clock,h1,h2⟩:=h
 exact ⟨es,clock,hk.at h1 hs,h2⟩
theorem UEnts.empty (clock:Nat):UEnts #[] clock (fun _ => none):=⟨stamped_empty clock,by simp,by simp⟩
theorem UMap.made (w:World):UMap (w.alloc (.map #[] 0)) w.heap.size (fun _ => none):=⟨#[],0,At.new _ _,UEnts.empty 0⟩
theorem UEnts.isKey {es:Array MapEntry} {clock:Nat} {D:Int → Option Value} (h:UEnts es clock D):∀ x ∈ es.toList,IsKey (.int .u64) x.key:=by
 intro x hx
 obtain ⟨k,hk,_⟩:=h.reads x hx
 simp [hk,IsKey]
theorem UEnts.find {es:Array MapEntry} {clock:Nat} {D:Int → Option Value} (h:UEnts es clock D) (k:Int) :
  (Instr.findNow (.int .u64) (.int .u64 k) es.toList 0 = some none ∧ D k = none ∧ ∀ x ∈ es.toList,x.key ≠ .int .u64 k) ∨
  ∃ j e,Instr.findNow (.int .u64) (.int .u64 k) es.toList 0 = some (some (j,e.val)) ∧ es[j]? = some e ∧ e.key = .int .u64 k ∧ D k = some e.val:=by
 rcases findNow_spec (d:=.int .u64) (k:=.int .u64 k) rfl es.toList 0 h.isKey with ⟨h1,h2⟩ | ⟨j,e,h1,h2,h3⟩
 ·refine .inl ⟨h1, ?_,h2⟩
  cases hd:D k with
  | none => rfl
  | some v => obtain ⟨x,hx,hk⟩:=h.has k v hd; exact absurd hk (h2 x hx)
 ·have hj:es[j]? = some e:=by simpa using h2
  refine .inr ⟨j,e,by simpa using h1,hj,h3, ?_⟩
  obtain ⟨k',hk',hv⟩:=h.reads e (Array.mem_toList_iff.2 (Array.mem_of_getElem? hj))
  rw [h3] at hk'
  cases hk'
  exact hv
section
variable {P:Program} {w:World} {b:Nat} {D:Int → Option Value} {t kt et:TypeId}
theorem UEnts.push {es:Array MapEntry} {clock:Nat} (h:UEnts es clock D) (k:Int) (v:Value) (hn:∀ x ∈ es.toList,x.key ≠ .int .u64 k) :
  UEnts (es.push { key:=.int .u64 k,val:=v,born:=clock }) (clock + 1) (fun z => if z = k then some v else D z):=by
 refine ⟨stamped_push h.st hn, ?_, ?_⟩
 ·intro x hx
  simp only [Array.toList_push,List.mem_append,List.mem_singleton] at hx
  rcases hx with hx | rfl
  ·obtain ⟨z,hz,hd⟩:=h.reads x hx
   have:z ≠ k:=by rintro rfl; exact hn x hx hz
   exact ⟨z,hz,by simp [this,hd]⟩
  ·exact ⟨k,rfl,by simp⟩
 ·intro z v' hv
  change (if z = k then some v else D z) = some v' at hv
  split at hv
  ·rename_i hz
   subst hz
   exact ⟨{ key:=.int .u64 z,val:=v,born:=clock },by simp,rfl⟩
  ·obtain ⟨x,hx,hk⟩:=h.has z v' hv
   exact ⟨x,by simp only [Array.toList_push,List.mem_append]; exact .inl hx,hk⟩
theorem UEnts.modify {es:Array MapEntry} {clock:Nat} (h:UEnts es clock D) (k:Int) (v:Value) (j:Nat) (e:MapEntry) (hj:es[j]? = some e) (hk:e.key = .int .u64 k) :
  UEnts (es.modify j fun x => { x with key:=.int .u64 k,val:=v }) clock (fun z => if z = k then some v else D z):=by
 have hmem:e ∈ es.toList:=Array.mem_toList_iff.2 (Array.mem_of_getElem? hj)
 have hget:∀ i,(es.modify j fun x => { x with key:=.int .u64 k,val:=v })[i]? = if j = i then some { e with key:=.int .u64 k,val:=v } else es[i]?:=by
  intro i
  rw [Array.getElem?_modify]
  split
  ·rename_i h0; subst h0; simp [hj]
  ·rfl
 have huniq:∀ i x,es[i]? = some x → x.key = .int .u64 k → i = j:=by
  intro i x hx hxk
  have hnd:=h.st.2.2
  have l1:(es.toList.map (·.key))[i]? = some (.int .u64 k):=by simp [hx,hxk]
  have l2:(es.toList.map (·.key))[j]? = some (.int .u64 k):=by simp [hj,hk]
  exact nodup_idx hnd l1 l2
 refine ⟨stamped_modify h.st _ _ (fun _ _ => rfl) (fun x _ hx => by rw [hj] at hx; cases hx; exact hk.symm), ?_, ?_⟩
 ·intro x hx
  obtain ⟨i,hi⟩:=Array.mem_iff_getElem?.1 (Array.mem_toList_iff.1 hx)
  rw [hget] at hi
  split at hi
  ·cases hi; exact ⟨k,rfl,by simp⟩
  ·rename_i hne
   obtain ⟨z,hz,hd⟩:=h.reads x (Array.mem_toList_iff.2 (Array.mem_of_getElem? hi))
   have:z ≠ k:=by rintro rfl; exact hne (huniq i x hi hz).symm
   exact ⟨z,hz,by simp [this,hd]⟩
 ·intro z v' hv
  change (if z = k then some v else D z) = some v' at hv
  split at hv
  ·rename_i hz
   subst hz
   refine ⟨{ e with key:=.int .u64 z,val:=v }, ?_,rfl⟩
   exact Array.mem_toList_iff.2 (Array.mem_of_getElem? (i:=j) (by rw [hget]; simp))
  ·rename_i hz
   obtain ⟨x,hx,hxk⟩:=h.has z v' hv
   obtain ⟨i,hi⟩:=Array.mem_iff_getElem?.1 (Array.mem_toList_iff.1 hx)
   refine ⟨x,Array.mem_toList_iff.2 (Array.mem_of_getElem? (i:=i) ?_),hxk⟩
   rw [hget,if_neg,hi]
   rintro rfl
   rw [hj] at hi
   cases hi
   rw [hk] at hxk
   cases hxk
   exact hz rfl
theorem UMap.update (h:UMap w b D) (hm:P.underlying t = some (.map kt et)) (hd:P.underlying kt = some (.int .u64)) (k:Int) (v:Value) :
  ∃ w',(Instr.mapUpdate t (.map (some b)) (.int .u64 k) v).run P w = .ok () w' ∧ UMap w' b (fun z => if z = k then some v else D z) ∧ Keeps [b] w w':=by
 obtain ⟨es,clock,hb,hE⟩:=h
 have hk:IsKey (.int .u64) (.int .u64 k):=rfl
 rcases hE.find k with ⟨h1,h2,h3⟩ | ⟨j,e,h1,h2,h3,h4⟩
 ·refine ⟨setBlock w b (.map (es.push { key:=.int .u64 k,val:=v,born:=clock }) (clock + 1)), ?_,⟨_,_,hb.setBlock _,hE.push k v h3⟩,(Keeps.refl _ _).setBlock (.inl (by simp)) _⟩
  simp [Instr.mapUpdate,run_underlying hm,MapKept.run_getObj_map (P:=P) (w:=w) (r:=b) hb,run_checkKey hd hk,run_findKey hd h1,MapKept.run_setObj_map (P:=P) (w:=w) (r:=b) _ hb,Result.andThen,ChangeMaps.setBlock]
 ·refine ⟨setBlock w b (.map (es.modify j fun x => { x with key:=.int .u64 k,val:=v }) clock), ?_,⟨_,_,hb.setBlock _,hE.modify k v j e h2 h3⟩,(Keeps.refl _ _).setBlock (.inl (by simp)) _⟩
  simp [Instr.mapUpdate,run_underlying hm,MapKept.run_getObj_map (P:=P) (w:=w) (r:=b) hb,run_checkKey hd hk,run_findKey hd h1,h2,h3,run_keyThatStays hk,MapKept.run_setObj_map (P:=P) (w:=w) (r:=b) _ hb,Result.andThen,ChangeMaps.setBlock]
theorem UMap.lookup (h:UMap w b D) (hm:P.underlying t = some (.map kt et)) (hd:P.underlying kt = some (.int .u64)) {z:Value} (hz:(zeroValue et).run P w = .ok z w) (k:Int) (c:Bool) :
  (Instr.lookup t (.map (some b)) (.int .u64 k) c).run P w = .ok (if c then .tuple #[(D k).getD z, .bool (D k).isSome] else (D k).getD z) w:=by
 obtain ⟨es,clock,hb,hE⟩:=h
 have hk:IsKey (.int .u64) (.int .u64 k):=rfl
 rcases hE.find k with ⟨h1,h2,h3⟩ | ⟨j,e,h1,h2,h3,h4⟩
 ·cases c <;> simp [Instr.lookup,run_underlying hm,MapKept.run_getObj_map (P:=P) (w:=w) (r:=b) hb,run_checkKey hd hk,run_findKey hd h1,Result.andThen,hz,h2]
 ·cases c <;> simp [Instr.lookup,run_underlying hm,MapKept.run_getObj_map (P:=P) (w:=w) (r:=b) hb,run_checkKey hd hk,run_findKey hd h1,Result.andThen,h4]
end
end Go.Proofs.YtaidmbdkbjgojaaGreat
namespace Go.Proofs.YtaidmbdkbjgojaaGreat
open Go.RowKit Go.OpenShut
def qC (Q:List (Nat × Nat)):List Value:=Q.flatMap fun p => [.int .u64 (p.1:Nat), .int .u64 (p.2:Nat)]
theorem qC_app (Q:List (Nat × Nat)) (x y:Nat):qC Q ++ [.int .u64 (x:Nat), .int .u64 (y:Nat)] = qC (Q ++ [(x,y)]):=by simp [qC]
def QueQ (w:World) (B:Nat) (y:Option Addr) (cp:Nat) (Q:List (Nat × Nat)):Prop:=QueP w B 131 2 (.slice y Q.length cp) Q.length (qC Q)
theorem queQ_nil (w:World) (B:Nat):QueQ w B none 0 []:=queP_nil w B _ _
theorem QueQ.keep {w w':World} {B:Nat} {y:Option Addr} {cp:Nat} {Q:List (Nat × Nat)} {T:List Nat} (h:QueQ w B y cp Q) (hk:Keeps T w w') (hT:∀ b ∈ blkL y,b ∉ T):QueQ w' B y cp Q :=
 QueP.keep h hk fun b hb => hT b (by
  cases y with
  | none => simp [Value.ownBlock] at hb
  | some a => simp [Value.ownBlock] at hb; simp [blkL,hb])
theorem QueQ.ge {w:World} {B:Nat} {y:Option Addr} {cp:Nat} {Q:List (Nat × Nat)} (h:QueQ w B y cp Q):∀ b ∈ blkL y,B ≤ b ∧ b < w.heap.size:=fun b hb => QueP.ge h (by
 cases y with
 | none => simp [blkL] at hb
 | some a => simp [blkL] at hb; simp [Value.ownBlock,hb])
theorem QueQ.front {w:World} {B:Nat} {y:Option Addr} {cp:Nat} {x1 x2:Nat} {Q:List (Nat × Nat)} (h:QueQ w B y cp ((x1,x2) :: Q)) :
  ∃ g off,y = some ⟨g,off,none⟩ ∧ w.cell? ⟨g,off,none⟩ = some (.int .u64 (x1:Nat)) ∧ w.cell? ⟨g,off + 1,none⟩ = some (.int .u64 (x2:Nat)) ∧ Q.length + 1 ≤ cp ∧ cp ≤ maxLen ∧ QueQ w B (if cp = 1 then some ⟨g,off,none⟩ else some ⟨g,off + 2,none⟩) (cp - 1) Q:=by
 obtain ⟨g,off,cap,hv,h1,h2,h3,h4,h5⟩:=QueP.form h (by simp)
 injection hv with hv1 _ hv2
 subst hv1
 subst hv2
 refine ⟨g,off,rfl,by simpa using h5 0 (.int .u64 (x1:Nat)) rfl,h5 1 (.int .u64 (x2:Nat)) rfl,by simpa using h3,h4, ?_⟩
 exact QueP.tail (ys:=[.int .u64 (x1:Nat), .int .u64 (x2:Nat)]) h rfl
theorem run_tail (w:World) (g off n cap:Nat):(Instr.slice 129 (.slice (some ⟨g,off,none⟩) (n + 1) cap) (some (.int .i64 1)) none none).run Tryz.prog w = .ok (.slice (if cap = 1 then some ⟨g,off,none⟩ else some ⟨g,off + 2,none⟩) n (cap - 1)) w:=by
 have hi:∃ i,Tryz.prog.info? 131 = some i ∧ i.size = 2:=by
  have h:(Tryz.prog.info? 131).map (fun i => i.size) = some 2:=by kernel_rfl
  exact Option.map_eq_some_iff.1 h
 obtain ⟨ti,hi1,hi2⟩:=hi
 simp [Instr.slice,run_underlying Tryz.underlying129,Instr.sliceBounds,sizeOf,typeInfo,hi1,hi2,go_sem]
 intro h
 omega
theorem appQ_run {w:World} {B:Nat} {xx:Option Addr} {cp:Nat} {L:List (Nat × Nat)} (hown:QueQ w B xx cp L) {b x1 x2:Nat} (c:Nat)
  (hc:w.cell? ⟨b,0,none⟩ = some (.int .u64 (x1:Nat))) (hc2:w.cell? ⟨b,1,none⟩ = some (.int .u64 (x2:Nat))) (hn:L.length ≤ 1000000) (hB:B ≤ w.heap.size) (ty:TypeId) :
  ∃ xx' cap w',(Builtin.append_ #[129,129] ty #[.slice xx L.length cp, .slice (some ⟨b,0,none⟩) 1 c]).run Tryz.prog w = .ok (.slice xx' (L.length + 1) cap) w' ∧
   QueQ w' B xx' cap (L ++ [(x1,x2)]) ∧ Keeps (blkL xx) w w' ∧ (blkL xx' = blkL xx ∨ ∀ g ∈ blkL xx',w.heap.size ≤ g):=by
 have hi:∃ i,Tryz.prog.info? 131 = some i ∧ (i.zero,i.size,i.bytes) = (some (.agg #[.int .u64 0, .int .u64 0]),2,16):=by
  have h:(Tryz.prog.info? 131).map (fun i => (i.zero,i.size,i.bytes)) = some (some (.agg #[.int .u64 0, .int .u64 0]),2,16):=by kernel_rfl
  exact Option.map_eq_some_iff.1 h
 obtain ⟨ti,hi1,hi2⟩:=hi
 simp only [Prod.mk.injEq] at hi2
 obtain ⟨hz,hsz,hby⟩:=hi2
 obtain ⟨v',w',hr,h2,h3,h4⟩:=run_append_que (P:=Tryz.prog) w B 129 ty 131 ti _ 2 16 Tryz.underlying129 hi1 hz hsz hby rfl (by omega) _ _ _ hown ⟨b,0,none⟩ 1 c [.int .u64 (x1:Nat), .int .u64 (x2:Nat)] rfl (fun j u hj => by
   match j,hj with
   | 0,hj => simp at hj; subst hj; exact hc
   | 1,hj => simp at hj; subst hj; exact hc2
   | j + 2,hj => simp at hj) (by simp [Value.oneCell']) (by unfold maxLen; omega) (by omega) hB
 rw [qC_app] at h2
 obtain ⟨xx',cap,rfl⟩:∃ xx' cap,v' = .slice xx' (L.length + 1) cap:=by
  obtain ⟨_,⟨_,h5⟩ | ⟨g,off,cap,cur,rfl,_⟩⟩:=h2
  ·omega
  ·exact ⟨_,_,rfl⟩
 have h5:QueQ w' B xx' cap (L ++ [(x1,x2)]):=by
  unfold QueQ
  rw [List.length_append]
  exact h2
 refine ⟨xx',cap,w',hr,h5,grown_keeps h3, ?_⟩
 have hb:∀ (q:Option Addr) (m k:Nat),(Value.slice q m k).ownBlock = (blkL q)[0]? ∧ (blkL q).length ≤ 1:=fun q m k => by cases q <;> simp [Value.ownBlock,blkL]
 rw [(hb _ _ _).1,(hb _ _ _).1] at h4
 have l1:=(hb xx 0 0).2
 have l2:=(hb xx' 0 0).2
 rcases h4 with h4 | h4
 ·left
  refine List.ext_getElem? fun i => ?_
  cases i with
  | zero => exact h4
  | succ i => rw [List.getElem?_eq_none (by omega),List.getElem?_eq_none (by omega)]
 ·right
  intro g hg
  obtain ⟨i,hi⟩:=List.getElem?_of_mem hg
  obtain rfl:i = 0:=by have:=(List.getElem?_eq_some_iff.1 hi).1; omega
  rw [h4] at hi
  have:=Option.some.inj hi
  omega
theorem appQ_list {ops:Array Oper} {rest:List Oper} {o:Oper} {a:Act} {w:World} {Q:Exit → Act → World → Prop} (hgd:o.guard = none) (s x:Operand)
  (ho:o.op = .call { callee:=.builtin .append,args:=#[s,x],argTypes:=#[129,129] })
  (B:Nat) (xx:Option Addr) (cp n:Nat) (L:List (Nat × Nat)) (hn0:n = L.length) (hs:a.eval s = .slice xx n cp) (hown:QueQ w B xx cp L) (b c x1 x2:Nat) (hx:a.eval x = .slice (some ⟨b,0,none⟩) 1 c)
  (hc:w.cell? ⟨b,0,none⟩ = some (.int .u64 (x1:Nat))) (hc2:w.cell? ⟨b,1,none⟩ = some (.int .u64 (x2:Nat))) (hn:n ≤ 1000000) (hB:B ≤ w.heap.size)
  (h:∀ xx' cap w',QueQ w' B xx' cap (L ++ [(x1,x2)]) → Keeps (blkL xx) w w' → (blkL xx' = blkL xx ∨ ∀ g ∈ blkL xx',w.heap.size ≤ g) → wpList Tryz.prog ops Q rest (a.put o.dst (.slice xx' (n + 1) cap)) w') :
  wpList Tryz.prog ops Q (o :: rest) a w:=by
 subst hn0
 refine wpList_plain hgd fun K hK => ?_
 obtain ⟨xx',cap,w',hr,h1,h2,h3⟩:=appQ_run hown c hc hc2 hn hB o.type
 unfold Oper.wp execOp
 simp only [ho,resolve,invoke,builtin,Sem.run_bind,Sem.run_pure,Result.andThen_ok,List.map_toArray,List.map_cons,List.map_nil,hs,hx,hr]
 exact hK _ _ (h xx' cap w' h1 h2 h3)
theorem appQ_step {ops:Array Oper} {o:Oper} {a:Act} {w:World} {K:Act → World → Prop} {Q:Exit → Act → World → Prop} {E:Prop} (hgd:o.guard = none) (s x:Operand)
  (ho:o.op = .call { callee:=.builtin .append,args:=#[s,x],argTypes:=#[129,129] })
  (B:Nat) (xx:Option Addr) (cp n:Nat) (L:List (Nat × Nat)) (hn0:n = L.length) (hs:a.eval s = .slice xx n cp) (hown:QueQ w B xx cp L) (b c x1 x2:Nat) (hx:a.eval x = .slice (some ⟨b,0,none⟩) 1 c)
  (hc:w.cell? ⟨b,0,none⟩ = some (.int .u64 (x1:Nat))) (hc2:w.cell? ⟨b,1,none⟩ = some (.int .u64 (x2:Nat))) (hn:n ≤ 1000000) (hB:B ≤ w.heap.size)
  (h:∀ xx' cap w',QueQ w' B xx' cap (L ++ [(x1,x2)]) → Keeps (blkL xx) w w' → (blkL xx' = blkL xx ∨ ∀ g ∈ blkL xx',w.heap.size ≤ g) → K (a.put o.dst (.slice xx' (n + 1) cap)) w') :
  if Region.wanted o (yielded ops a.tmps) = true then Oper.wp Tryz.prog o a w K Q else E:=by
 subst hn0
 have hw:Region.wanted o (yielded ops a.tmps) = true:=by simp [Region.wanted,hgd]
 rw [if_pos hw]
 obtain ⟨xx',cap,w',hr,h1,h2,h3⟩:=appQ_run hown c hc hc2 hn hB o.type
 unfold Oper.wp
 simp [execOp,ho,resolve,invoke,builtin,hs,hx,hr,Result.andThen]
 exact h xx' cap w' h1 h2 h3
end Go.Proofs.YtaidmbdkbjgojaaGreat
