import Derived.Test.YtcdhklgahepcaaaGreatKeys
import Derived.Test.YtcdhklgahepcaaaGreatArgs
import Derived.CallsIn
namespace Go.Proofs.YtcdhklgahepcaaaGreat
open Go.RowKit Go.Maps Go.Sort Go.Shelf Go.Proofs
theorem nodup_few:∀(N:Nat) (l:List Int),l.Nodup->(∀x∈l,0≤x/\x<(N:Int))->l.length≤N
 |0,l,_,h=>by
  cases l with
  |nil=>simp
  |cons x xs=>have:=h x (by simp);omega
 |N+1,l,hn,h=>by
  by_cases hm:(N:Int)∈l
  ·have h1:=nodup_few N (l.erase (N:Int)) (hn.erase _) (fun x hx=>by
    have hx2:=(hn.mem_erase_iff).1 hx
    have:=h x hx2.2
    have:=hx2.1
    omega)
   rw[List.length_erase_of_mem hm]at h1
   omega
  ·have h1:=nodup_few N l hn (fun x hx=>by
    have:=h x hx
    have hne:x≠(N:Int):=fun e=>hm (e▸hx)
    omega)
   omega
def keyI (v:Value):Int:=match v with| .int _ a=>a|_=>0
def KeysOf (D:Int->Option Value) (ss:List Int):Prop:=ss.Nodup/\∀x,x∈ss↔(D x).isSome=true
theorem KeysOf.len {D:Int->Option Value} {ss:List Int} (h:KeysOf D ss) (N:Nat) (hB:∀k v,D k=some v->0≤k/\k<(N:Int)):ss.length≤N:=
 nodup_few N ss h.1 fun x hx=>by
  obtain⟨v,hv⟩:=Option.isSome_iff_exists.1 ((h.2 x).1 hx)
  exact hB x v hv
theorem KeysOf.perm {D:Int->Option Value} {ss tt:List Int} (h:KeysOf D ss) (hp:tt.Perm ss):KeysOf D tt:=⟨hp.symm.nodup h.1,fun x=>(hp.mem_iff).trans (h.2 x)⟩
theorem IMap.owns {P:Program} {w:World} {b:Nat} {D:Int->Option Value} (h:IMap w b D) (hB:∀k v,D k=some v->0≤k/\k<4000) (K:TypeId) (hK:P.underlying K=some (.int .i64)):
  ∃D0:DataW Unit,w.ownsMap P K (fun _=>some (.nil,[])) b 4000 D0/\Maps.size D0≤4000/\∀ss:List Int,ss.Perm (intKeys D0)->KeysOf D ss:=by
 obtain⟨es,clock,hb,hE⟩:=h
 have hkey:∀x∈es.toList,x.key=.int .i64 (keyI x.key)/\(D (keyI x.key)).isSome=true:=fun x hx=>by
  obtain⟨k,h1,h2⟩:=hE.reads x hx
  rw[h1]
  exact⟨rfl,by show(D k).isSome=true;rw[h2];rfl⟩
 have hnd:(es.toList.map fun x=>keyI x.key).Nodup:=by
  have h1:=hE.st.2.2
  refine List.pairwise_map.2 ((List.pairwise_map.1 h1).imp_of_mem ?_)
  intro x y hx hy hne he
  apply hne
  rw[(hkey x hx).1,(hkey y hy).1,he]
 have hK1:KeysOf D (es.toList.map fun x=>keyI x.key):=⟨hnd,fun z=>by
  rw[List.mem_map]
  constructor
  ·rintro⟨x,hx,rfl⟩
   exact(hkey x hx).2
  ·intro hz
   obtain⟨v,hv⟩:=Option.isSome_iff_exists.1 hz
   obtain⟨x,hx,hk⟩:=hE.has z v hv
   exact⟨x,hx,by rw[hk];rfl⟩⟩
 have hlen:es.size≤4000:=by
  have:=hK1.len 4000 hB
  simpa using this
 have hrd:∀x∈es.toList,WideElems.rd P K (fun _=>some ((DataW.nil:DataW Unit),[])) x=some (.int .i64 (keyI x.key),.nil):=fun x hx=>by
  obtain⟨h1,h2⟩:=hkey x hx
  obtain⟨v,hv⟩:=Option.isSome_iff_exists.1 h2
  have:=hB _ _ hv
  have hk:=keyOf_int_mk hK (WalkArith.wf_i64 (n:=keyI x.key) (by omega))
  rw[<-h1]at hk
  simp[WideElems.rd,hk]
 refine⟨_,⟨es,clock,hb,⟨by unfold maxLen;omega,hE.st,fun x hx=>⟨_,hrd x hx⟩⟩,hlen,rfl⟩,?_,fun ss hp=>hK1.perm (hp.trans ?_)⟩
 ·simp[Maps.size,length_sorted]
  exact hlen
 ·refine((Go.WideShapes.sorted_perm _).map _).trans ?_
  rw[List.map_map]
  refine List.Perm.of_eq (List.map_congr_left fun x hx=>?_)
  show Go.intOf (WideElems.rg P K (fun _=>some ((DataW.nil:DataW Unit),[])) x).1=keyI x.key
  rw[WideElems.rg_of (hrd x hx)]
  rfl
theorem sorts_in (m:Nat):AnyZI.SortsIn Tryz.prog Tryz.sortedA_ren Fence.wide m:=
 ⟨fun blk off cap ss W hH hblk hsz=>callsIn_wide.2 (AnyM.slices_Sort_int Tryz.sortA blk off cap ss W hH hblk hsz),
  fun p cap W=>callsIn_wide.2 (AnyM.slices_Sort_int_none Tryz.sortA p cap W)⟩
abbrev mboxO (b:Nat):Obj:=.cells #[.map (some b)] 115
theorem mkeys_at (w:World) (b:Nat):Calls Tryz.prog 207 #[.map (some b)] w fun e w'=>e=.returned (.func (.func 237) #[] #[ptr w.heap.size])/\w.alloc (mboxO b)=w':=by
 refine(callsIn_wide (n:=6)).1 ((AnyZI.keys_in Tryz.keysA Fence.wide 6 trivial rfl (some b) w).mono ?_)
 rintro e w' ⟨rfl,rfl⟩
 exact⟨rfl,rfl⟩
theorem sorted_at (w:World) (b x:Nat) (D:Int->Option Value) (hm:IMap w b D) (hx:At w x (mboxO b)) (hB:∀k v,D k=some v->0≤k/\k<4000):
  Calls Tryz.prog 184 #[.func (.func 237) #[] #[ptr x]] w fun e w'=>∃(y:Option Addr) (ss:List Int) (cap:Nat),e=.returned (.slice y ss.length cap)/\KeysOf D ss/\
   ReadsV (Value.int .i64) w' y ss.length (fun i=>ss.getD i 0)/\(∀b off,y=some ⟨b,off,none⟩->w.heap.size≤b)/\xe [] w w':=by
 obtain⟨D0,hown,hsz,hP⟩:=hm.owns (P:=Tryz.prog) hB 3 Tryz.underlying3
 have hseq:SeqGives Fence.wide 3 Tryz.prog 237 #[ptr x] encZ (fun ss=>ss.Perm (intKeys D0)) (Maps.size D0) w:=
  AnyZI.keys_gives (ρ:=Tryz.keysA_ren) { Tryz.keysA with } Fence.wide _ trivial rfl (by omega) x b 4000 D0 _ hx.lt (hx.cell 0 rfl) hown
 have cS:=AnyZI.sorted_in Tryz.sortedA Fence.wide 6 trivial trivial trivial trivial rfl (by omega) (sorts_in _) (enters_of Tryz.func153 (by kernel_rfl) rfl) 237 #[ptr x] trivial (enters_of Tryz.func237 (by kernel_rfl) rfl) _ _ (by unfold maxLen;omega) (by omega) w hseq
 refine(callsIn_wide (n:=6)).1 (cS.mono ?_)
 rintro e w' ⟨v,ss,rfl,hS,hrow,hnil,hb⟩
 have hK:=(hP ss hS).perm (List.mergeSort_perm ss (fun x y=>decide (x≤y)))
 have hl:(ss.mergeSort (fun x y=>decide (x≤y))).length=ss.length:=List.length_mergeSort ss
 have kk:xe [] w w':=Go.Proofs.YtcdhklgahepcaaaGreat.Below.keeps hb []
 rcases hrow.2 with⟨rfl,hz⟩|⟨g,cap,cur,rfl,hbase,hg,r1,r2,r3,r4⟩
 ·exact⟨none,_,0,by rw[hl,hz],hK,.inl (by rw[hl];exact hz),by simp,kk⟩
 ·refine⟨_,_,cap,by rw[hl],hK,.inr ⟨g,0,rfl,(Array.getElem?_eq_some_iff.1 hg).1,fun i hi=>?_⟩,fun b off e=>by cases e;exact hbase,kk⟩
  have hi2:i<ss.length:=by omega
  have h1:cur.toList[i]? =((ss.mergeSort (fun x y=>decide (x≤y))).map encZ)[i]? :=by
   rw[<-r4,List.getElem?_take_of_lt (by omega)]
  refine(show At w' g _ from hg).cell (0+i) ?_
  rw[Nat.zero_add,<-Array.getElem?_toList,h1,List.getElem?_map]
  obtain⟨tt,ht⟩:∃tt,tt=ss.mergeSort (fun x y=>decide (x≤y)):=⟨_,rfl⟩
  rw[<-ht]at hi⊢
  have e1:tt.getD i 0=tt[i]:=by rw[List.getD_eq_getElem?_getD,List.getElem?_eq_getElem hi];rfl
  rw[List.getElem?_eq_getElem hi]
  show some (encZ tt[i])=some (.int .i64 (tt.getD i 0))
  rw[e1]
end Go.Proofs.YtcdhklgahepcaaaGreat
