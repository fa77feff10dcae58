import Derived.Test.YtglpoffbkkdjiaaGreatTab
import Derived.Test.YtglpoffbkkdjiaaGreatKeysM
import Derived.Sort.OwnSortedInts
namespace Go.Proofs.YtglpoffbkkdjiaaGreat
open Go.RowKit Go.OpenShut Go.Sort Go.Shelf Go.Proofs
def numL (m:Nat) (g:Nat → Nat):List Nat:=(List.range (m + 1)).filter fun n => g n != 0
theorem numL_mem {m:Nat} {g:Nat → Nat} (hbd:∀ n,g n ≠ 0 → 1 ≤ n ∧ n ≤ m ∧ g n < 4000) (n:Nat):n ∈ numL m g ↔ g n ≠ 0:=by
 unfold numL
 simp only [List.mem_filter,List.mem_range,bne_iff_ne]
 exact ⟨fun h => h.2,fun h => ⟨by have:=hbd n h; omega,h⟩⟩
theorem numL_rise (m:Nat) (g:Nat → Nat):(numL m g).Pairwise (· < ·):=List.Pairwise.filter _ List.pairwise_lt_range
theorem numL_len (m:Nat) (g:Nat → Nat):(numL m g).length ≤ m + 1:=by
 have:=List.length_filter_le (fun n => g n != 0) (List.range (m + 1))
 rwa [List.length_range] at this
theorem numL_sorted {m:Nat} {g:Nat → Nat} (hbd:∀ n,g n ≠ 0 → 1 ≤ n ∧ n ≤ m ∧ g n < 4000) {zs:List Int} (hnd:zs.Nodup) (hm:∀ z,z ∈ zs ↔ (numD g z).isSome = true) :
  zs.mergeSort (fun x y => decide (x ≤ y)) = (numL m g).map (fun n:Nat => (n:Int)):=by
 have hp:(zs.mergeSort (fun x y => decide (x ≤ y))).Perm ((numL m g).map (fun n:Nat => (n:Int))):=by
  refine (List.mergeSort_perm _ _).trans ((List.perm_ext_iff_of_nodup hnd ?_).2 fun z => ?_)
  ·exact List.pairwise_map.2 ((numL_rise m g).imp fun h => by omega)
  ·rw [hm,List.mem_map]
   constructor
   ·intro h
    unfold numD at h
    split at h
    ·rename_i hz
     exact ⟨z.toNat,(numL_mem hbd _).2 hz.2,by omega⟩
    ·cases h
   ·rintro ⟨n,hn,rfl⟩
    rw [numD_get,if_pos ((numL_mem hbd _).1 hn)]
    rfl
 refine hp.eq_of_pairwise (le:=fun x y:Int => x ≤ y) (fun a b _ _ h1 h2 => Int.le_antisymm h1 h2) ?_ ?_
 ·refine (List.pairwise_mergeSort (fun a b c h1 h2 => ?_) (fun a b => ?_) zs).imp fun h => by simpa using h
  ·simp only [decide_eq_true_eq] at *; omega
  ·simp only [Bool.or_eq_true,decide_eq_true_eq]; omega
 ·exact List.pairwise_map.2 ((numL_rise m g).imp fun h => by omega)
theorem IMap.lenB {P:Program} {w:World} {b:Nat} {D:Int → Option Value} (h:IMap w b D) (hB:∀ k v,D k = some v → 0 ≤ k ∧ k < 4000) {t kt et:TypeId} (ht:P.underlying t = some (.map kt et)) :
  ∃ c:Nat,c ≤ 4000 ∧ ∀ ty,(Builtin.len_ #[t] ty #[.map (some b)]).run P w = .ok (.int .i64 (c:Nat)) w:=by
 obtain ⟨es,clock,hb,hE⟩:=h
 have hkey:∀ x ∈ es.toList,x.key = .int .i64 (keyI x.key) ∧ (D (keyI x.key)).isSome = true:=fun x hx => by
  obtain ⟨k,h1,h2⟩:=hE.reads x hx
  rw [h1]
  exact ⟨rfl,by show (D k).isSome = true; rw [h2]; rfl⟩
 have hnd:(es.toList.map fun x => keyI x.key).Nodup:=by
  have h1:=hE.st.2.2
  refine List.pairwise_map.2 ((List.pairwise_map.1 h1).imp_of_mem ?_)
  intro x y hx hy hne he
  apply hne
  rw [(hkey x hx).1,(hkey y hy).1,he]
 have hlen:=nodup_few 4000 _ hnd fun z hz => by
  obtain ⟨x,hx,rfl⟩:=List.mem_map.1 hz
  obtain ⟨v,hv⟩:=Option.isSome_iff_exists.1 (hkey x hx).2
  exact hB _ v hv
 rw [List.length_map,Array.length_toList] at hlen
 exact ⟨es.size,hlen,fun ty => by simp [Builtin.len_,run_underlying ht,MapKept.run_getObj_map hb,goInt,Result.andThen]⟩
theorem infoI:∃ i,Tryz.prog.info? 3 = some i ∧ i.zero = some (.int .i64 0) ∧ i.size = 1 ∧ i.bytes = 8:=by
 have h:(Tryz.prog.info? 3).map (fun i => (i.zero,i.size,i.bytes)) = some (some (.int .i64 0),1,8):=by kernel_rfl
 obtain ⟨i,h1,h2⟩:=Option.map_eq_some_iff.1 h
 simp only [Prod.mk.injEq] at h2
 exact ⟨i,h1,h2⟩
theorem appN_list {ops:Array Oper} {rest:List Oper} {o:Oper} {a:Act} {w:World} {Q:Exit → Act → World → Prop} (hgd:o.guard = none) (s x:Operand)
  (ho:o.op = .call { callee:=.builtin .append,args:=#[s,x],argTypes:=#[26,26] })
  (B:Nat) (xx:Option Addr) (cp n:Nat) (f:Nat → Nat) (hs:a.eval s = .slice xx n cp) (hown:OwnI w B xx cp n f) (b c i:Nat) (hx:a.eval x = .slice (some ⟨b,0,none⟩) 1 c) (hc:w.cell? ⟨b,0,none⟩ = some (.int .i64 (i:Nat)))
  (hn:n ≤ 100000) (hB:B ≤ w.heap.size)
  (h:∀ g cap w',OwnI w' B (some ⟨g,0,none⟩) cap (n + 1) (put f n i) → Keeps (blkL xx) w w' → (blkL xx = [g] ∨ w.heap.size ≤ g) → wpList Tryz.prog ops Q rest (a.put o.dst (.slice (some ⟨g,0,none⟩) (n + 1) cap)) w') :
  wpList Tryz.prog ops Q (o :: rest) a w:=by
 obtain ⟨ti,hi1,hz,hsz,hby⟩:=infoI
 refine wpList_append_own_at w hgd s x 26 ho B 3 ti (.int .i64 0) 1 8 Tryz.underlying26 hi1 hz hsz hby rfl (by omega) _ n _ hs hown ⟨b,0,none⟩ 1 c [.int .i64 (i:Nat)] hx rfl (fun j u hj => ?_) (by simp [Value.oneCell']) (by unfold maxLen; omega) (by omega) hB ?_
 ·cases j with
  | zero => simp at hj; subst hj; exact hc
  | succ j => simp at hj
 ·intro v' w' h1 h2 h3 h4
  have hne:v' ≠ .slice none 0 0:=fun e => by have:=(h3.1 e).2; omega
  have h1':=h1
  obtain ⟨_,⟨rfl,_⟩ | ⟨g,cap,cur,rfl,hB',hg,h5⟩⟩:=h1'
  ·exact absurd rfl hne
  ·rw [range_put_i] at h1
   refine h g cap w' h1 (grown_keeps h2) ?_
   rcases h4 with h4 | h4
   ·left
    cases xx with
    | none => simp [Value.ownBlock] at h4
    | some a => simp [Value.ownBlock] at h4; simp [blkL]; exact h4.symm
   ·right
    simp [Value.ownBlock] at h4; omega
theorem sortI_at (w:World) (B:Nat) (y:Option Addr) (cp n:Nat) (f:Nat → Nat) (L:List Nat) (h:OwnI w B y cp n f) (hn:n ≤ 100000) (hL:((List.range n).map fun i => (f i:Int)).mergeSort (fun x y => decide (x ≤ y)) = L.map (fun n:Nat => (n:Int))) :
  Calls Tryz.prog 25 #[.slice y n cp] w fun e w' => e = .returned (.tuple #[]) ∧ OwnI w' B y cp n (fun i => L.getD i 0) ∧ Keeps (blkL y) w w':=by
 have hl:L.length = n:=by
  have:=congrArg List.length hL
  rw [List.length_mergeSort,List.length_map,List.length_range,List.length_map] at this
  exact this.symm
 have hxs:(L.map (fun n:Nat => (n:Int))).map (Value.int .i64) = (List.range n).map fun i => Value.int .i64 (L.getD i 0:Nat):=by
  refine List.ext_getElem (by simp [hl]) fun i h1 h2 => ?_
  simp [List.getD_eq_getElem?_getD,show i < L.length by simpa using h1]
 obtain ⟨h0,⟨h1,h2⟩ | ⟨g,cap,cur,h1,h2,h3,h4,h5,h6,h7⟩⟩:=h
 ·injection h1 with h1 h1n h1c
  subst h1 h1c h2
  refine (AnyM.slices_Sort_int_none Tryz.sortA none 0 w).mono ?_
  rintro e w' ⟨rfl,rfl⟩
  exact ⟨rfl,ownI_nil _ _ _,Keeps.refl _ _⟩
 ·injection h1 with h1 h1n h1c
  subst h1 h1c
  have hg:g < w.heap.size:=(Array.getElem?_eq_some_iff.1 h3).1
  have ht:cur.toList.take ((List.range n).map fun i => (f i:Int)).length = ((List.range n).map fun i => (f i:Int)).map (Value.int .i64):=by
   rw [List.length_map,List.length_range]
   rw [Nat.mul_one] at h7
   rw [h7,List.map_map]
   rfl
  have cS:=AnyM.slices_Sort_int Tryz.sortA g 0 cp ((List.range n).map fun i => (f i:Int)) w (holds_of_blockI h3 ht) hg (by simp; omega)
  rw [List.length_map,List.length_range] at cS
  refine cS.mono ?_
  rintro e w' ⟨rfl,nn,os,rfl⟩
  have hr:=ownsRow_sortedI (w:=w) (base:=B) (g:=g) (cap:=cp) (n:=nn) (e:=3) (os:=os) (cur:=cur) (ss:=(List.range n).map fun i => (f i:Int)) (ts:=L.map (fun n:Nat => (n:Int))) (by simp [hl]) h2 h3 (by simpa using h4) h5 h6
  rw [List.length_map,List.length_range,hxs, ← hL] at hr
  have hk:=grown_keeps (x:=some ⟨g,0,none⟩) (n:=n) (cp:=cp) (grownBy_sortedI (w:=w) (g:=g) (n:=nn) (os:=os) (((List.range n).map fun i => (f i:Int)).mergeSort (fun x y => decide (x ≤ y))).toArray)
  exact ⟨rfl,hr,hk⟩
structure NumI (g:Nat → Nat) (left:Int → Bool) (n:Nat) (f:Nat → Nat):Prop where
 is:∀ i,i < n → g (f i) ≠ 0
 inj:∀ i j,i < n → j < n → f i = f j → i = j
 left:∀ k:Nat,left (k:Int) = true ↔ g k ≠ 0 ∧ ∀ i,i < n → f i ≠ k
theorem NumI.start (g:Nat → Nat) (f:Nat → Nat):NumI g (fun k => (numD g k).isSome) 0 f :=
 ⟨fun i hi => by omega,fun i j hi => by omega,fun k => by
  rw [numD_get]
  by_cases h:g k ≠ 0
  ·rw [if_pos h]; exact ⟨fun _ => ⟨h,fun i hi => by omega⟩,fun _ => rfl⟩
  ·rw [if_neg h]; exact ⟨fun h1 => (by cases h1),fun h1 => absurd h1.1 h⟩⟩
theorem NumI.more {g:Nat → Nat} {left:Int → Bool} {n:Nat} {f:Nat → Nat} (h:NumI g left n f) {k:Nat} (hk:left (k:Int) = true):NumI g (fun z => left z && !decide (z = (k:Nat))) (n + 1) (put f n k):=by
 obtain ⟨h1,h2⟩:=(h.left k).1 hk
 have he:∀ i,i < n → put f n k i = f i:=fun i hi => put_off _ _ (by omega)
 refine ⟨fun i hi => ?_,fun i j hi hj hij => ?_,fun z => ?_⟩
 ·by_cases hin:i = n
  ·subst hin; rw [put_on]; exact h1
  ·rw [he i (by omega)]; exact h.is i (by omega)
 ·by_cases hin:i = n
  ·by_cases hjn:j = n
   ·omega
   ·subst hin; rw [put_on,he j (by omega)] at hij; exact absurd hij.symm (h2 j (by omega))
  ·by_cases hjn:j = n
   ·subst hjn; rw [put_on,he i (by omega)] at hij; exact absurd hij (h2 i (by omega))
   ·rw [he i (by omega),he j (by omega)] at hij; exact h.inj i j (by omega) (by omega) hij
 ·simp only [Bool.and_eq_true,Bool.not_eq_true',decide_eq_false_iff_not]
  rw [h.left z]
  constructor
  ·rintro ⟨⟨a1,a2⟩,a3⟩
   refine ⟨a1,fun i hi => ?_⟩
   by_cases hin:i = n
   ·subst hin; rw [put_on]; omega
   ·rw [he i (by omega)]; exact a2 i (by omega)
  ·rintro ⟨a1,a2⟩
   refine ⟨⟨a1,fun i hi => ?_⟩, ?_⟩
   ·have:=a2 i (by omega); rwa [he i hi] at this
   ·have:=a2 n (by omega); rw [put_on] at this; omega
theorem NumI.len {g:Nat → Nat} {left:Int → Bool} {n m:Nat} {f:Nat → Nat} (h:NumI g left n f) (hbd:∀ n,g n ≠ 0 → 1 ≤ n ∧ n ≤ m ∧ g n < 4000):n ≤ m:=by
 have h1:=nodup_few (m + 1) ((List.range n).map fun i => (f i:Int)) (List.pairwise_map.2 (List.nodup_range.imp_of_mem fun {a b} ha hb hne he => hne (h.inj a b (List.mem_range.1 ha) (List.mem_range.1 hb) (by omega)))) (fun x hx => by
  obtain ⟨i,hi,rfl⟩:=List.mem_map.1 hx
  have:=hbd _ (h.is i (List.mem_range.1 hi)); omega)
 rw [List.length_map,List.length_range] at h1
 have h2:=nodup_few m ((List.range n).map fun i => (f i:Int) - 1) (List.pairwise_map.2 (List.nodup_range.imp_of_mem fun {a b} ha hb hne he => hne (h.inj a b (List.mem_range.1 ha) (List.mem_range.1 hb) (by omega)))) (fun x hx => by
  obtain ⟨i,hi,rfl⟩:=List.mem_map.1 hx
  have:=hbd _ (h.is i (List.mem_range.1 hi)); omega)
 rwa [List.length_map,List.length_range] at h2
theorem NumI.all {g:Nat → Nat} {left:Int → Bool} {n m:Nat} {f:Nat → Nat} (h:NumI g left n f) (hbd:∀ n,g n ≠ 0 → 1 ≤ n ∧ n ≤ m ∧ g n < 4000) (hl:∀ k,left k = false) :
  ((List.range n).map fun i => (f i:Int)).mergeSort (fun x y => decide (x ≤ y)) = (numL m g).map (fun n:Nat => (n:Int)):=by
 refine numL_sorted hbd ?_ fun z => ?_
 ·refine List.pairwise_map.2 (List.nodup_range.imp_of_mem ?_)
  intro i j hi hj hne he
  exact hne (h.inj i j (List.mem_range.1 hi) (List.mem_range.1 hj) (by omega))
 ·rw [List.mem_map]
  constructor
  ·rintro ⟨i,hi,rfl⟩
   rw [numD_get,if_pos (h.is i (List.mem_range.1 hi))]
   rfl
  ·intro hz
   unfold numD at hz
   split at hz
   ·rename_i h0
    by_cases hx:∃ i,i < n ∧ f i = z.toNat
    ·obtain ⟨i,hi,he⟩:=hx
     exact ⟨i,List.mem_range.2 hi,by omega⟩
    ·have:=(h.left z.toNat).2 ⟨h0.2,fun i hi he => hx ⟨i,hi,he⟩⟩
     rw [hl] at this
     cases this
   ·cases hz
set_option maxRecDepth 100000 in
set_option maxHeartbeats 1000000 in
theorem hnumbers_raw (w:World) (x:Tb) (m:Nat) (g:Nat → Nat) (hb:At w x.t (tabO m x)) (hP:IMap w x.p (numD g)) (hbd:∀ n,g n ≠ 0 → 1 ≤ n ∧ n ≤ m ∧ g n < 4000) (hle:m ≤ 1000) :
  Calls Tryz.prog 16 #[.pointer (some ⟨x.t,0,none⟩)] w fun e w' =>
   ∃ y cp,e = .returned (.slice y (numL m g).length cp) ∧ OwnI w' w.heap.size y cp (numL m g).length (fun i => (numL m g).getD i 0) ∧ Keeps [] w w':=by
 have HBD:=hid hbd
 have HLM:=hid hle
 have HBX:=hid hb
 have hxp:x.p < w.heap.size:=hP.lt
 obtain ⟨c,hc,hlen⟩:=hP.lenB (fun k v hk => by
  unfold numD at hk
  split at hk
  ·rename_i h0; have:=hbd _ h0.2; omega
  ·cases hk) Tryz.underlying32
 have c1:=hb.cell 1 rfl
 have hci:(c:Int) ≤ 4000:=by omega
 obtain ⟨ti,hi1,hz,hsz,hby⟩:=infoI
 have hbyte:ti.bytes * c ≤ 281474976710656:=by rw [hby]; omega
 have hcm:c ≤ maxLen:=by unfold maxLen; omega
 have HXP:=hid hxp
 have HTI:=hid hi1
 have HTZ:=hid hz
 have HTS:=hid hsz
 have HTB:=hid hbyte
 have HCM:=hid hcm
 clear hb hbd hle hi1 hz hsz hby hbyte hcm hxp hc
 obtain ⟨tt,pp,nn⟩:=x
 dsimp only at *
 go_enter Tryz.func16,Tryz.ntmps16
 go_wp2_with (first
  | (at_make; refine wpList_make_own w rfl _ _ 26 rfl w.heap.size 3 ti (.int .i64 0) 1 Tryz.underlying26 HTI.out HTZ.out HTS.out .i64 .i64 (c:Nat) c rfl rfl rfl HTB.out HCM.out (Nat.le_refl _) ?_; intro w1 hr1 hg1; have hk1:=grown_keeps (x:=none) (n:=0) (cp:=0) hg1; have HR1:=hid hr1; have hP1:=hP.keep hk1 (by simp [blkL]); have hB1:=hk1.at HBX.out (by simp [blkL]); have c11:=hB1.cell 1 rfl; have HK1:=hid hk1; have HB1:=hid hB1; clear hr1 hg1 hk1 hB1 hlen c1)
  | (at_range; refine wpList_range_at rfl _ _ rfl 3 3 Tryz.underlying32 pp _ rfl hP1 ?_; intro w2 cnt hr2 hk2 hz2))
 obtain ⟨ib,hib⟩:∃ ib,ib = w1.heap.size:=⟨_,rfl⟩
 rw [← hib] at hr2 ⊢
 have hlt:w.heap.size < ib:=by
  have h1:w.heap.size < w1.heap.size:=by
   obtain ⟨_,h1 | ⟨g1,cap,cur,h1,h2,h3,h4⟩⟩:=HR1.out
   ·cases h1.1
   ·injection h1 with h1
    injection h1 with h1
    have h5:=(Array.getElem?_eq_some_iff.1 h3).1
    injection h1 with h1
    omega
  omega
 have HIB:Hid (ib ≠ pp ∧ w.heap.size < ib ∧ w2.heap.size = ib + 1):=⟨by have:=HXP.out; omega,hlt,by rw [hib]; exact hz2⟩
 have HO2:Hid (OwnI w2 w.heap.size (some ⟨w.heap.size,0,none⟩) c 0 (fun _ => 0)):=hid (OwnI.keep (T:=[]) (show OwnI w1 w.heap.size (some ⟨w.heap.size,0,none⟩) c 0 (fun _ => 0) from HR1.out) hk2 (by simp))
 have HK2:Hid (Keeps [] w w2):=hid (HK1.out.trans hk2)
 clear c11 hP1 hP hk2 hz2 hib hlt HR1 HK1 HB1 HTI HTZ HTS HTB HCM HBX hci
 go_loopg [3,4] cnt (fun r sl sn wr => ∃ y cp n f left,sl = .slice y n cp ∧ OwnI wr w.heap.size y cp n f ∧ (∀ b ∈ blkL y,b ≠ ib) ∧ IRange wr ib pp (numD g) left r ∧ NumI g left n f ∧ Keeps [] w wr ∧ ib < wr.heap.size)
 case atStart => exact ⟨_,_,0,_,_,rfl,HO2.out,by simp [blkL]; have:=HIB.out; omega,hr2,NumI.start g _,HK2.out,by have:=HIB.out; omega⟩
 case round =>
  obtain ⟨y,cp,n,f,left,rfl,hO,hy,hR,hN,hK,hlt⟩:=hrel
  have HO:=hid hO
  have HY:=hid hy
  have HN:=hid hN
  have HK:=hid hK
  have HLT:=hid hlt
  clear hO hy hN hK hlt
  go_wp2_with (at_next; refine wpList_next_at rfl _ rfl ib pp _ left gk rfl hR HIB.out.1 ?_ ?_)
  ·intro hr0 hl0
   have HS:=HN.out.all HBD.out hl0
   have hl:n = (numL m g).length:=by
    have h1:=congrArg List.length HS
    rwa [List.length_mergeSort,List.length_map,List.length_range,List.length_map] at h1
   have HC:=hid (sortI_at wr w.heap.size y cp n f (numL m g) HO.out (by have h1:=HN.out.len HBD.out; have h2:=HLM.out; omega) HS)
   have HLE:=hid hl
   clear hr0 hl0 hR HS hl
   go_wp2_with fail
   refine HC.out.mono ?_
   rintro e w4 ⟨rfl,hO4,hk4⟩
   have HO4:=hid hO4
   have HK4:Hid (Keeps [] w w4):=hid (HK.out.new hk4 (fun b hb => .inr (HO.out.ge b hb).1))
   clear hO4 hk4 HC
   go_wp2_with fail
   go_ret
   rw [← HLE.out]
   exact ⟨_,_,rfl,HO4.out,HK4.out⟩
  ·intro kz v w3 cnt' hlk hD hlt' hR3 hk3 hen
   obtain ⟨k,h0,rfl,rfl⟩:∃ k:Nat,g k ≠ 0 ∧ kz = (k:Int) ∧ v = .int .i64 (g k:Nat):=by
    unfold numD at hD
    split at hD
    ·rename_i h
     injection hD with hD
     exact ⟨kz.toNat,h.2,by omega,hD.symm⟩
    ·cases hD
   have HO3:=hid (HO.out.keep hk3 (fun b hb => by rw [List.mem_singleton]; exact HY.out b hb))
   have HK3:Hid (Keeps [] w w3):=hid (HK.out.new hk3 (fun b hb => .inr (by obtain rfl:=List.mem_singleton.1 hb; have:=HIB.out; omega)))
   have HN3:=hid (HN.out.more hlk)
   have HCN:=hid hlt'
   have HR3:=hid hR3
   have HL3:Hid (ib < w3.heap.size):=by have h1:=HLT.out; have h2:=hk3.size; show ib < _; omega
   have hn5:n ≤ 100000:=by have h1:=HN.out.len HBD.out; have h2:=HLM.out; omega
   have hB5:w.heap.size ≤ (w3.alloc (.cells #[.int .i64 (k:Nat)] 3)).heap.size:=by have h1:=HK3.out.size; rw [World.size_alloc]; omega
   clear hlk hD hlt' hR3 hk3 h0 hR
   go_wp2_with (at_builtin; refine appN_list rfl _ _ rfl w.heap.size y cp n f rfl (HO3.out.keep (Keeps.alloc (Keeps.refl [] w3) _) (fun _ _ => List.not_mem_nil)) w3.heap.size 1 k rfl ((At.new w3 _).cell 0 rfl) hn5 hB5 ?_; intro g' cap' w5 ho5 hk5 hg5; have HO5:=hid ho5; have HK5:=hid hk5; have HG5:=hid hg5; clear ho5 hk5 hg5)
   have hge:∀ b ∈ blkL y,w.heap.size ≤ b:=fun b hb => (HO3.out.ge b hb).1
   have hal:=Keeps.alloc (Keeps.refl [] w3) (.cells #[.int .i64 (k:Nat)] 3)
   have hk5:Keeps [] w w5:=(HK3.out.trans hal).new HK5.out (fun b hb => .inr (hge b hb))
   have hpy:pp ∉ blkL y:=fun hb => by have:=hge _ hb; have:=HXP.out; omega
   have hR5:=(HR3.out.keep hal (by simp) (by simp)).keep HK5.out hpy (fun hb => HY.out _ hb rfl)
   have hl5:ib < w5.heap.size:=by have h1:=HK5.out.size; have h2:=HL3.out; rw [World.size_alloc] at h1; omega
   have hy5:∀ b ∈ blkL (some (⟨g',0,none⟩:Addr)),b ≠ ib:=fun b hb => by
    have hb1:b = g':=by simpa [blkL] using hb
    rcases HG5.out with h | h
    ·have:=HY.out g' (by rw [h]; simp); omega
    ·have h2:=HL3.out; rw [World.size_alloc] at h; omega
   have HF5:=hid (And.intro hk5 (And.intro hR5 (And.intro hl5 hy5)))
   clear hge hal hk5 hpy hR5 hl5 hy5 hn5 hB5 hen
   go_roundg cnt'
   case measure => exact HCN.out
   case rel => exact ⟨_,_,n + 1,_,_,rfl,HO5.out,HF5.out.2.2.2,HF5.out.2.1,HN3.out,HF5.out.1,HF5.out.2.2.1⟩
theorem hnumbers_at (w:World) (x:Tb) (m:Nat) (g:Nat → Nat) (h:TabW w x m g) :
  Calls Tryz.prog 16 #[.pointer (some ⟨x.t,0,none⟩)] w fun e w' =>
   ∃ y cp,e = .returned (.slice y (numL m g).length cp) ∧ OwnI w' w.heap.size y cp (numL m g).length (fun i => (numL m g).getD i 0) ∧ Keeps [] w w' :=
 hnumbers_raw w x m g h.box h.pm h.bd h.le
end Go.Proofs.YtglpoffbkkdjiaaGreat
