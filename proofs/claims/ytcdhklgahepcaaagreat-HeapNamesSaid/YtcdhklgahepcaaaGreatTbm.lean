import Derived.Test.YtcdhklgahepcaaaGreatMae
import Derived.Test.YtcdhklgahepcaaaGreatP6
import Derived.Test.YtcdhklgahepcaaaGreatKeysM
import Derived.Sort.OwnSortedInts
set_option maxHeartbeats 4000000
set_option maxRecDepth 100000
namespace Go.Proofs.YtcdhklgahepcaaaGreat
open Go.RowKit Go.OpenShut
def upd (g:Nat->Nat) (k v:Nat):Nat->Nat:=fun n=>if n=k then v else g n
def numD (g:Nat->Nat) (z:Int):Option Value:=if 0≤z/\g z.toNat≠0 then some (.int .i64 (g z.toNat:Nat))else none
def Pl (g:Nat->Nat) (E:Int->Option Value):Prop:=(∀n,g n≠0->E (g n:Nat)=some (.int .i64 (n:Nat)))/\∀z v,E z=some v->∃n,g n≠0/\z=(g n:Nat)
theorem Xb (g:Nat->Nat) (k v:Nat):upd g k v k=v:=if_pos rfl
theorem zN {g:Nat->Nat} {k v n:Nat} (h:n≠k):upd g k v n=g n:=if_neg h
theorem ww (g:Nat->Nat) (n:Nat):numD g (n:Nat)=if g n≠0 then some (.int .i64 (g n:Nat))else none:=by
 unfold numD
 by_cases h:g n≠0
 ·rw[if_pos h,if_pos ⟨by omega,by simpa using h⟩];simp
 ·rw[if_neg h,if_neg (fun hh=>h (by simpa using hh.2))]
theorem JF (g:Nat->Nat) {z:Int} (h:z<0):numD g z=none:=if_neg fun hh=>by omega
theorem JD (g:Nat->Nat) (k v:Nat):(fun z:Int=>if z=(k:Nat)then(if v≠0 then some (Value.int .i64 (v:Nat))else none)else numD g z)=numD (upd g k v):=by
 funext z
 by_cases hz:0≤z
 ·obtain⟨n,rfl⟩:=Int.eq_ofNat_of_zero_le hz
  rw[ww,ww]
  by_cases h:n=k
  ·subst h;rw[if_pos rfl,Xb]
  ·rw[if_neg (by omega),zN h]
 ·rw[if_neg (by omega),JF _ (by omega),JF _ (by omega)]
theorem JE (g:Nat->Nat) (k:Nat) {v:Nat} (h:v≠0):(fun z:Int=>if z=(k:Nat)then some (Value.int .i64 (v:Nat))else numD g z)=numD (upd g k v):=by
 rw[<-JD g k v];funext z;rw[if_pos h]
theorem JG (g:Nat->Nat) (k:Nat):(fun z:Int=>if z=(k:Nat)then none else numD g z)=numD (upd g k 0):=by
 rw[<-JD g k 0];funext z;simp
theorem JZ {D:Int->Option Value} {k:Int} (h:D k=none):(fun z:Int=>if z=k then none else D z)=D:=by
 funext z
 split
 ·rename_i hz;rw[hz,h]
 ·rfl
theorem upd_same {g:Nat->Nat} {k:Nat} (h:g k=0):upd g k 0=g:=by
 funext n
 unfold upd
 split
 ·rename_i hn;rw[hn,h]
 ·rfl
theorem Pl.uq {g:Nat->Nat} {E:Int->Option Value} (h:Pl g E) {i j:Nat} (he:g i=g j) (h0:g i≠0):i=j:=by
 have h1:=h.1 i h0
 have h2:=h.1 j (he▸h0)
 rw[he,h2]at h1
 injection h1 with h1
 injection h1 with _ h1
 omega
theorem Pl.none {g:Nat->Nat} {E:Int->Option Value} (h:Pl g E) {p:Nat} (hp:∀n,g n≠0->g n≠p):E (p:Nat)=none:=by
 cases he:E (p:Nat)with
 |none=>rfl
 |some v=>
  obtain⟨n,h1,h2⟩:=h.2 _ _ he
  exact absurd (by omega) (hp n h1)
theorem Pl.zero {g:Nat->Nat} {E:Int->Option Value} (h:Pl g E):E 0=Option.none:=h.none (p:=0) fun _ h1=>h1
theorem Pl.set {g:Nat->Nat} {E:Int->Option Value} (h:Pl g E) {k v:Nat} (hv:v≠0) (hn:∀n,g n≠v) (hk:g k=0):Pl (upd g k v) (fun z:Int=>if z=(v:Nat)then some (Value.int .i64 (k:Nat))else E z):=by
 refine⟨fun n h0=>?_,fun z w hz=>?_⟩
 ·dsimp only
  by_cases hnk:n=k
  ·subst hnk;rw[Xb,if_pos rfl]
  ·rw[zN hnk]at h0⊢
   rw[if_neg (by have:=hn n;omega)]
   exact h.1 n h0
 ·dsimp only at hz
  split at hz
  ·rename_i hzv;exact⟨k,by rw[Xb];exact hv,by rw[Xb,hzv]⟩
  ·obtain⟨n,h1,h2⟩:=h.2 _ _ hz
   have hnk:n≠k:=by rintro rfl;exact h1 hk
   exact⟨n,by rw[zN hnk];exact h1,by rw[zN hnk];exact h2⟩
theorem Pl.del {g:Nat->Nat} {E:Int->Option Value} (h:Pl g E) {k v:Nat} (hk:g k=v):Pl (upd g k 0) (fun z:Int=>if z=(v:Nat)then Option.none else E z):=by
 refine⟨fun n h0=>?_,fun z w hz=>?_⟩
 ·dsimp only
  have hnk:n≠k:=by rintro rfl;rw[Xb]at h0;exact h0 rfl
  rw[zN hnk]at h0⊢
  rw[if_neg (fun he=>hnk (h.uq (by omega) h0))]
  exact h.1 n h0
 ·dsimp only at hz
  split at hz
  ·cases hz
  ·rename_i hzv
   obtain⟨n,h1,h2⟩:=h.2 _ _ hz
   have hnk:n≠k:=by rintro rfl;exact hzv (by rw[h2,hk])
   exact⟨n,by rw[zN hnk];exact h1,by rw[zN hnk];exact h2⟩
theorem xc8:Pl (fun _=>0) (fun _=>none):=⟨fun _ h=>absurd rfl h,fun _ _ h=>by cases h⟩
structure Tb where
 t:Nat
 p:Nat
 n:Nat
abbrev Tb.bl (x:Tb):List Nat:=[x.t,x.p,x.n]
abbrev tabO (m:Nat) (x:Tb):Obj:=.cells #[.int .i64 (m:Nat),.map (some x.p),.map (some x.n)] 201
structure TabW (w:World) (x:Tb) (m:Nat) (g:Nat->Nat):Prop where
 box:At w x.t (tabO m x)
 pm:IMap w x.p (numD g)
 nm:∃E,IMap w x.n E/\Pl g E
 ne:x.t≠x.p/\x.t≠x.n/\x.p≠x.n
 bd:∀n,g n≠0->1≤n/\n≤m/\g n<4000
 le:m≤1000
theorem TabW.keep {w w':World} {x:Tb} {m:Nat} {g:Nat->Nat} {S:List Nat} (h:TabW w x m g) (hk:xe S w w') (hS:∀b∈x.bl,b∉S):TabW w' x m g:=by
 obtain⟨E,h1,h2⟩:=h.nm
 exact⟨hk.at h.box (hS _ (by simp)),h.pm.keep hk (hS _ (by simp)),⟨E,h1.keep hk (hS _ (by simp)),h2⟩,h.ne,h.bd,h.le⟩
theorem TabW.lt {w:World} {x:Tb} {m:Nat} {g:Nat->Nat} (h:TabW w x m g):∀b∈x.bl,b<w.heap.size:=by
 obtain⟨E,h1,_⟩:=h.nm
 intro b hb
 simp only[List.mem_cons,List.not_mem_nil,or_false]at hb
 rcases hb with rfl|rfl|rfl
 ·exact h.box.lt
 ·exact h.pm.lt
 ·exact h1.lt
theorem TabW.uq {w:World} {x:Tb} {m:Nat} {g:Nat->Nat} (h:TabW w x m g) {i j:Nat} (he:g i=g j) (h0:g i≠0):i=j:=by
 obtain⟨E,_,h2⟩:=h.nm
 exact h2.uq he h0
theorem Qr (w:World):(zeroValue 3).run Tryz.prog w=.ok (.int .i64 0) w:=by kernel_rfl
theorem xaO (w:World):Calls Tryz.prog 78 #[] w fun e w'=>∃x:Tb,e=.returned (.pointer (some ⟨x.t,0,none⟩))/\TabW w' x 0 (fun _=>0)/\xe [] w w'/\∀b∈x.bl,w.heap.size≤b:=by
 have hmk:=fun w:World=>run_makeMap (P:=Tryz.prog) (w:=w) 199
 go_enter Tryz.func78,Tryz.ntmps78
 go_wp2_with fail
 go_ret
 have hb:=At.new ((w.alloc (.map #[] 0)).alloc (.map #[] 0)) (tabO 0 ⟨w.heap.size+2,w.heap.size,w.heap.size+1⟩)
 have h1:IMap (((w.alloc (.map #[] 0)).alloc (.map #[] 0)).alloc (tabO 0 ⟨w.heap.size+2,w.heap.size,w.heap.size+1⟩)) w.heap.size (fun _=>none):=
  (IMap.made w).keep (((xe.refl [] _).alloc _).alloc _) (by simp)
 have h2:IMap (((w.alloc (.map #[] 0)).alloc (.map #[] 0)).alloc (tabO 0 ⟨w.heap.size+2,w.heap.size,w.heap.size+1⟩)) (w.heap.size+1) (fun _=>none):=by
  have:=(IMap.made (w.alloc (.map #[] 0))).keep ((xe.refl [] _).alloc (tabO 0 ⟨w.heap.size+2,w.heap.size,w.heap.size+1⟩)) (by simp)
  simpa only[World.size_alloc]using this
 simp only[World.size_alloc]at hb
 refine⟨⟨w.heap.size+2,w.heap.size,w.heap.size+1⟩,by simp,⟨?_,?_,⟨_,h2,xc8⟩,?_,fun n h=>absurd rfl h,by omega⟩,(((xe.refl [] w).alloc _).alloc _).alloc _,?_⟩
 ·exact hb
 ·exact h1.congr fun k=>by unfold numD;rw[if_neg];simp
 ·dsimp only;omega
 ·intro b hb;simp at hb;omega
set_option linter.unusedSimpArgs false in
theorem xaL (w:World) (x:Tb) (m:Nat) (D E:Int->Option Value) (n p:Nat) (hb:At w x.t (tabO m x)) (hD:IMap w x.p D) (hE:IMap w x.n E) (hne:x.t≠x.p/\x.t≠x.n/\x.p≠x.n):
  Calls Tryz.prog 161 #[.pointer (some ⟨x.t,0,none⟩),.int .i64 (n:Nat),.int .i64 (p:Nat)] w fun e w'=>e=.returned (.tuple #[])/\
   IMap w' x.p (fun z=>if z=(n:Nat)then some (.int .i64 (p:Nat))else D z)/\IMap w' x.n (fun z=>if z=(p:Nat)then some (.int .i64 (n:Nat))else E z)/\xe [x.p,x.n] w w':=by
 have HB:=hid hb
 have HD:=hid hD
 have HE:=hid hE
 have HNE:=hid hne
 obtain⟨tt,pp,nn⟩:=x
 dsimp only at*
 clear hb hD hE hne
 go_enter Tryz.func161,Tryz.ntmps161
 go_wp2_with fail
 have HK:=hid ((xe.refl [pp,nn] w).drew)
 have HNE1:Hid (tt∉[pp,nn]):=by have h:=HNE.out;show tt∉[pp,nn];simp only[List.mem_cons,List.not_mem_nil,or_false];omega
 have HNE2:Hid (nn∉[pp]):=by have h:=HNE.out;show nn∉[pp];simp only[List.mem_cons,List.not_mem_nil,or_false];omega
 have HNE3:Hid (pp∉[nn]):=by have h:=HNE.out;show pp∉[nn];simp only[List.mem_cons,List.not_mem_nil,or_false];omega
 have HP:=hid (HD.out.keep ((xe.refl [] w).drew) (by simp))
 have HN:=hid (HE.out.keep ((xe.refl [] w).drew) (by simp))
 refine wp_region_noPanic ?_
 refine wp_region_held_drew (S:=fun w'=>w'.cell? ⟨tt,1,none⟩=some (.map (some pp))/\w'.cell? ⟨tt,2,none⟩=some (.map (some nn))) (by kernel_rfl) ?_ (fun hHeld0=>?_)
 ·(try dsimp only);exact⟨(HK.out.at HB.out HNE1.out).cell 1 rfl,(HK.out.at HB.out HNE1.out).cell 2 rfl⟩
 refine' wpAnyH_take (i:=0) (oi:=_) (v:=_) ?hi1 (by kernel_rfl) (by kernel_rfl) (by kernel_rfl) (fun _ _ _ h=>h) (Or.inl ⟨?hw1,?hy1⟩) hHeld0 ?rest1
 case hi1=>(simp only[gA,gC];rfl)
 case hw1=>rfl
 case hy1=>(intro w hSw;(try dsimp only at hSw);go_simp;try (with_reducible rfl))
 (try simp only[Act.put,sA,sB,sC])
 refine' wpAnyH_take (i:=1) (oi:=_) (v:=_) ?hi2 (by kernel_rfl) (by kernel_rfl) (by kernel_rfl) (fun _ _ _ h=>h) (Or.inl ⟨?hw2,?hy2⟩) hHeld0 ?rest2
 case hi2=>(simp only[gA,gB,gC];rfl)
 case hw2=>rfl
 case hy2=>(intro w hSw;(try dsimp only at hSw);go_simp;try (with_reducible rfl))
 (try simp only[Act.put,sA,sB,sC])
 refine' wpAnyH_take (i:=2) (oi:=_) (v:=_) ?hi3 (by kernel_rfl) (by kernel_rfl) (by kernel_rfl) (fun _ _ _ h=>h) (Or.inl ⟨?hw3,?hy3⟩) hHeld0 ?rest3
 case hi3=>(simp only[gA,gB,gC];rfl)
 case hw3=>rfl
 case hy3=>(intro w hSw;(try dsimp only at hSw);go_simp;try (with_reducible rfl))
 (try simp only[Act.put,sA,sB,sC])
 refine' wpAnyH_take (i:=3) (oi:=_) (v:=_) ?hi4 (by kernel_rfl) (by kernel_rfl) (by kernel_rfl) (fun _ _ _ h=>h) (Or.inl ⟨?hw4,?hy4⟩) hHeld0 ?rest4
 case hi4=>(simp only[gA,gB,gC];rfl)
 case hw4=>rfl
 case hy4=>(intro w hSw;(try dsimp only at hSw);go_simp;try (with_reducible rfl))
 (try simp only[Act.put,sA,sB,sC])
 refine' wpAnyH_take (i:=4) (oi:=_) (v:=_) ?hi5 (by kernel_rfl) (by kernel_rfl) (by kernel_rfl) (fun _ _ _ h=>h) (Or.inl ⟨?hw5,?hy5⟩) hHeld0 ?rest5
 case hi5=>(simp only[gA,gB,gC];rfl)
 case hw5=>rfl
 case hy5=>(intro w hSw;(try dsimp only at hSw);go_simp;try (with_reducible rfl))
 (try simp only[Act.put,sA,sB,sC])
 refine' wpAnyH_take (i:=5) (oi:=_) (v:=_) ?hi6 (by kernel_rfl) (by kernel_rfl) (by kernel_rfl) (fun _ _ _ h=>h) (Or.inl ⟨?hw6,?hy6⟩) hHeld0 ?rest6
 case hi6=>(simp only[gA,gB,gC];rfl)
 case hw6=>rfl
 case hy6=>(intro w hSw;(try dsimp only at hSw);go_simp;try (with_reducible rfl))
 (try simp only[Act.put,sA,sB,sC])
 refine' wpAnyH_take (i:=6) (oi:=_) (v:=_) ?hi7 (by kernel_rfl) (by kernel_rfl) (by kernel_rfl) (fun _ _ _ h=>h) (Or.inl ⟨?hw7,?hy7⟩) hHeld0 ?rest7
 case hi7=>(simp only[gA,gB,gC];rfl)
 case hw7=>rfl
 case hy7=>(intro w hSw;(try dsimp only at hSw);go_simp;try (with_reducible rfl))
 (try simp only[Act.put,sA,sB,sC])
 refine' wpAnyH_take (i:=7) (oi:=_) (v:=_) ?hi8 (by kernel_rfl) (by kernel_rfl) (by kernel_rfl) (fun _ _ _ h=>h) (Or.inl ⟨?hw8,?hy8⟩) hHeld0 ?rest8
 case hi8=>(simp only[gA,gB,gC];rfl)
 case hw8=>rfl
 case hy8=>(intro w hSw;(try dsimp only at hSw);go_simp;try (with_reducible rfl))
 (try simp only[Act.put,sA,sB,sC])
 refine' wpAnyH_take (i:=8) (oi:=_) (v:=_) ?hi9 (by kernel_rfl) (by kernel_rfl) (by kernel_rfl) (fun _ _ _ h=>h) (Or.inl ⟨?hw9,?hy9⟩) hHeld0 ?rest9
 case hi9=>(simp only[gA,gB,gC];rfl)
 case hw9=>rfl
 case hy9=>(intro w hSw;(try dsimp only at hSw);go_simp;try (with_reducible rfl))
 (try simp only[Act.put,sA,sB,sC])
 refine' wpAnyH_take (i:=9) (oi:=_) (v:=_) ?hi10 (by kernel_rfl) (by kernel_rfl) (by kernel_rfl) (fun _ _ _ h=>h) (Or.inl ⟨?hw10,?hy10⟩) hHeld0 ?rest10
 case hi10=>(simp only[gA,gB,gC];rfl)
 case hw10=>rfl
 case hy10=>(intro w hSw;(try dsimp only at hSw);go_simp;try (with_reducible rfl))
 (try simp only[Act.put,sA,sB,sC])
 refine' wpAnyH_take (i:=10) (oi:=_) (v:=_) ?hi11 (by kernel_rfl) (by kernel_rfl) (by kernel_rfl) (fun _ _ _ h=>h) (Or.inl ⟨?hw11,?hy11⟩) hHeld0 ?rest11
 case hi11=>(simp only[gA,gB,gC];rfl)
 case hw11=>rfl
 case hy11=>(intro w hSw;(try dsimp only at hSw);go_simp;try (with_reducible rfl))
 (try simp only[Act.put,sA,sB,sC])
 refine' wpAnyH_take (i:=11) (oi:=_) (v:=_) ?hi12 (by kernel_rfl) (by kernel_rfl) (by kernel_rfl) (fun _ _ _ h=>h) (Or.inl ⟨?hw12,?hy12⟩) hHeld0 ?rest12
 case hi12=>(simp only[gA,gB,gC];rfl)
 case hw12=>rfl
 case hy12=>(intro w hSw;(try dsimp only at hSw);go_simp;try (with_reducible rfl))
 (try simp only[Act.put,sA,sB,sC])
 refine wpAnyH_ready (rs:=[12]) (by kernel_rfl) (by simp) ?_
 refine' AllReadyH.cons (o:=_) ?ho14 (fun K hK=>?step14) ?more14
 case ho14=>(simp only[gA,gB,gC];rfl)
 case step14=>
  (refine Xe rfl _ _ 199 rfl 3 3 Tryz.underlying199 Tryz.underlying3 (.int .i64 0) Qr pp _ rfl HP.out (n:Nat) rfl ?_;intro s1 w' hm hk;have HP:=hid hm;have HN:=hid (HN.out.keep hk HNE2.out);have HK:=hid (HK.out.trans (hk.mono (S':=[pp,nn]) (fun k _ h=>by rw[List.mem_singleton.1 h];simp)));clear hk hm;rename World=>wA)
  refine hK.out _ _ ?_ (fun hHeld1=>?_)
  ·(try dsimp only);exact⟨(HK.out.at HB.out HNE1.out).cell 1 rfl,(HK.out.at HB.out HNE1.out).cell 2 rfl⟩
  clear hK K hHeld0
  (try simp only[Act.put,sA,sB,sC])
  refine' wpAnyH_take (i:=13) (oi:=_) (v:=_) ?hi15 (by kernel_rfl) (by kernel_rfl) (by kernel_rfl) (fun _ _ _ h=>h) (Or.inl ⟨?hw15,?hy15⟩) hHeld1 ?rest15
  case hi15=>(simp only[gA,gB,gC];rfl)
  case hw15=>rfl
  case hy15=>(intro w hSw;(try dsimp only at hSw);go_simp;try (with_reducible rfl))
  (try simp only[Act.put,sA,sB,sC])
  refine wpAnyH_ready (rs:=[14]) (by kernel_rfl) (by simp) ?_
  refine' AllReadyH.cons (o:=_) ?ho17 (fun K hK=>?step17) ?more17
  case ho17=>(simp only[gA,gB,gC];rfl)
  case step17=>
   (refine vM rfl _ _ _ 199 rfl pp _ rfl (n:Nat) s1 HP.out rfl (.int .i64 (p:Nat)) rfl ?_;intro w' hm hk;have HP:=hid hm;have HN:=hid (HN.out.keep hk HNE2.out);have HK:=hid (HK.out.trans (hk.mono (S':=[pp,nn]) (fun k _ h=>by rw[List.mem_singleton.1 h];simp)));clear hk hm;rename World=>wA)
   refine hK.out _ _ ?_ (fun hHeld2=>?_)
   ·(try dsimp only);exact⟨(HK.out.at HB.out HNE1.out).cell 1 rfl,(HK.out.at HB.out HNE1.out).cell 2 rfl⟩
   clear hK K hHeld1
   (try simp only[Act.put,sA,sB,sC])
   refine wpAnyH_ready (rs:=[15]) (by kernel_rfl) (by simp) ?_
   refine' AllReadyH.cons (o:=_) ?ho19 (fun K hK=>?step19) ?more19
   case ho19=>(simp only[gA,gB,gC];rfl)
   case step19=>
    (refine Xe rfl _ _ 199 rfl 3 3 Tryz.underlying199 Tryz.underlying3 (.int .i64 0) Qr nn _ rfl HN.out (p:Nat) rfl ?_;intro s2 w' hm hk;have HN:=hid hm;have HP:=hid (HP.out.keep hk HNE3.out);have HK:=hid (HK.out.trans (hk.mono (S':=[pp,nn]) (fun k _ h=>by rw[List.mem_singleton.1 h];simp)));clear hk hm;rename World=>wA)
    refine hK.out _ _ ?_ (fun hHeld3=>?_)
    ·(try dsimp only);exact⟨(HK.out.at HB.out HNE1.out).cell 1 rfl,(HK.out.at HB.out HNE1.out).cell 2 rfl⟩
    clear hK K hHeld2
    (try simp only[Act.put,sA,sB,sC])
    refine' wpAnyH_take (i:=16) (oi:=_) (v:=_) ?hi20 (by kernel_rfl) (by kernel_rfl) (by kernel_rfl) (fun _ _ _ h=>h) (Or.inl ⟨?hw20,?hy20⟩) hHeld3 ?rest20
    case hi20=>(simp only[gA,gB,gC];rfl)
    case hw20=>rfl
    case hy20=>(intro w hSw;(try dsimp only at hSw);go_simp;try (with_reducible rfl))
    (try simp only[Act.put,sA,sB,sC])
    refine wpAnyH_ready (rs:=[17]) (by kernel_rfl) (by simp) ?_
    refine' AllReadyH.cons (o:=_) ?ho22 (fun K hK=>?step22) ?more22
    case ho22=>(simp only[gA,gB,gC];rfl)
    case step22=>
     (refine vM rfl _ _ _ 199 rfl nn _ rfl (p:Nat) s2 HN.out rfl (.int .i64 (n:Nat)) rfl ?_;intro w' hm hk;have HN:=hid hm;have HP:=hid (HP.out.keep hk HNE3.out);have HK:=hid (HK.out.trans (hk.mono (S':=[pp,nn]) (fun k _ h=>by rw[List.mem_singleton.1 h];simp)));clear hk hm;rename World=>wA)
     refine hK.out _ _ ?_ (fun hHeld4=>?_)
     ·(try dsimp only);exact⟨(HK.out.at HB.out HNE1.out).cell 1 rfl,(HK.out.at HB.out HNE1.out).cell 2 rfl⟩
     clear hK K hHeld3
     (try simp only[Act.put,sA,sB,sC])
     refine wpAnyH_done (by kernel_rfl) ?_ _
     refine NoPanic.normal ?_
     go_wp2_with fail
     go_end0
     exact⟨rfl,HP.out,HN.out,HK.out⟩
    exact AllReadyH.nil
   exact AllReadyH.nil
  exact AllReadyH.nil
 exact AllReadyH.nil
theorem TabW.put {w w':World} {x:Tb} {m k:Nat} {g:Nat->Nat} {E:Int->Option Value} {n p:Nat} (hb:At w' x.t (tabO k x)) (hP:IMap w' x.p (fun z=>if z=(n:Nat)then some (.int .i64 (p:Nat))else numD g z)) (hN:IMap w' x.n (fun z=>if z=(p:Nat)then some (.int .i64 (n:Nat))else E z))
  (h:TabW w x m g) (hE:Pl g E) (hp:p≠0) (hp4:p<4000) (hno:∀i,g i≠p) (hn:g n=0) (hn1:1≤n) (hnk:n≤k) (hmk:m≤k) (hk:k≤1000):TabW w' x k (upd g n p):=
 ⟨hb,by rw[<-JE g n hp];exact hP,⟨_,hN,hE.set hp hno hn⟩,h.ne,fun i hi=>by
  by_cases hin:i=n
  ·subst hin;rw[Xb];omega
  ·rw[zN hin]at hi⊢;have:=h.bd i hi;omega,hk⟩
theorem Zz (w:World) (t:Nat):Calls Tryz.prog 92 #[.pointer (some ⟨t,0,none⟩),.int .i64 0] w fun e w'=>e=.returned (.int .i64 0)/\w'=w:=by
 go_enter Tryz.func92,Tryz.ntmps92
 go_wp2_with fail
 go_ret
 exact⟨rfl,rfl⟩
theorem Vh (w:World) (x:Tb) (m:Nat) (g:Nat->Nat) (n p:Nat) (h:TabW w x m g) (hg:g n=p) (hp:p≠0):
  Calls Tryz.prog 92 #[.pointer (some ⟨x.t,0,none⟩),.int .i64 (p:Nat)] w fun e w'=>e=.returned (.int .i64 (n:Nat))/\w'=w:=by
 have c2:=h.box.cell 2 rfl
 obtain⟨E,hE,hPl⟩:=h.nm
 have hv:E (p:Nat)=some (.int .i64 (n:Nat)):=by rw[<-hg];exact hPl.1 n (by omega)
 have hp0:¬(p:Int)=0:=by omega
 clear hPl h hg hp
 obtain⟨tt,pp,nn⟩:=x
 dsimp only at*
 go_enter Tryz.func92,Tryz.ntmps92
 go_wp2_with (at_lookup;refine yI rfl _ _ _ rfl 3 3 Tryz.underlying199 Tryz.underlying3 (.int .i64 0) (by kernel_rfl) nn _ rfl hE (p:Nat) rfl _ hv ?_)
 go_ret
 exact⟨rfl,rfl⟩
theorem Xu (w:World) (x:Tb) (m:Nat) (g:Nat->Nat) (p:Nat) (h:TabW w x m g) (hg:∀i,g i≠p) (hp:p≠0) (hp4:p<4000) (hm:m<1000):
  Calls Tryz.prog 92 #[.pointer (some ⟨x.t,0,none⟩),.int .i64 (p:Nat)] w fun e w'=>e=.returned (.int .i64 (m+1:Nat))/\TabW w' x (m+1) (upd g (m+1) p)/\xe x.bl w w':=by
 have H:=hid h
 have c0:=h.box.cell 0 rfl
 have c2:=h.box.cell 2 rfl
 have f0:=h.box.free 0
 obtain⟨E,hE,hPl⟩:=h.nm
 have HPL:=hid hPl
 have HG:=hid hg
 have HE:=hid hE
 have hv:E (p:Nat)=none:=hPl.none fun i _=>hg i
 have hp0:¬(p:Int)=0:=by omega
 have hmi:(m:Int)≤1000:=by omega
 clear hPl h hg hp
 obtain⟨tt,pp,nn⟩:=x
 dsimp only at*
 go_enter Tryz.func92,Tryz.ntmps92
 go_wp2_with (at_lookup;refine yA rfl _ _ _ rfl 3 3 Tryz.underlying199 Tryz.underlying3 (.int .i64 0) (by kernel_rfl) nn _ rfl hE (p:Nat) rfl hv ?_)
 have K1:xe [tt] w (w.setCell ⟨tt,0,none⟩ (.int .i64 ((m:Int)+1))):=(xe.refl [tt] w).set (.inl (by simp)) _
 have hb1:At (w.setCell ⟨tt,0,none⟩ (.int .i64 ((m:Int)+1))) tt (tabO (m+1) ⟨tt,pp,nn⟩):=by
  have:=H.out.box.set 0 (.int .i64 ((m:Int)+1))
  exact this
 have HNE:=hid H.out.ne
 have n1:pp∉[tt]:=by have h:=HNE.out;rw[List.mem_singleton];exact fun e=>h.1 e.symm
 have n2:nn∉[tt]:=by have h:=HNE.out;rw[List.mem_singleton];exact fun e=>h.2.1 e.symm
 have hP1:=H.out.pm.keep K1 n1
 have hN1:=HE.out.keep K1 n2
 have HC:=hid (xaL _ ⟨tt,pp,nn⟩ (m+1) _ _ (m+1) p hb1 hP1 hN1 HNE.out)
 have HB1:=hid hb1
 have HK1:=hid K1
 have e1:((m+1:Nat):Int)=(m:Int)+1:=by omega
 obtain⟨w1,hw1⟩:∃w1,w1=w.setCell ⟨tt,0,none⟩ (.int .i64 ((m:Int)+1)):=⟨_,rfl⟩
 rw[e1,<-hw1]at HC
 rw[<-hw1]at HB1 HK1
 rw[<-hw1]
 clear hw1 hP1 hN1 hb1 K1 n1 n2 c0 c2 f0 hE e1
 refine HC.out.mono ?_
 rintro e w2 ⟨rfl,hP2,hN2,hk2⟩
 have hb2:At w2 tt (tabO (m+1) ⟨tt,pp,nn⟩):=hk2.at HB1.out (show tt∉[pp,nn] by have h:=HNE.out;dsimp only at h;simp only[List.mem_cons,List.not_mem_nil,or_false];omega)
 have c20:=hb2.cell 0 rfl
 have e2:(m:Int)+1=((m+1:Nat):Int):=by omega
 have HW:Hid (TabW w2 ⟨tt,pp,nn⟩ (m+1) (upd g (m+1) p)):=hid (TabW.put (n:=m+1) hb2 (by rw[<-e2];exact hP2) (by rw[<-e2];exact hN2) H.out HPL.out (by omega) hp4 HG.out (by
  by_cases hz:g (m+1)=0
  ·exact hz
  ·have:=(H.out.bd _ hz).2.1;omega) (by omega) (Nat.le_refl _) (by omega) (by omega))
 clear hP2 hN2 hb2 e2
 go_wp2_with fail
 go_ret
 refine⟨by simp,HW.out,(HK1.out.mono ?_).trans (hk2.mono ?_)⟩
 ·intro k _ h;rw[List.mem_singleton.1 h];simp
 ·intro k _ h;simp only[List.mem_cons,List.not_mem_nil,or_false]at h⊢;omega
theorem xaN (w:World) (x:Tb) (m:Nat) (g:Nat->Nat) (z:Int) (h:TabW w x m g):
  Calls Tryz.prog 170 #[.pointer (some ⟨x.t,0,none⟩),.int .i64 z] w fun e w'=>
   e=.returned (.tuple #[.int .i64 (if 0≤z then g z.toNat else 0:Nat),.bool (decide (0≤z/\g z.toNat≠0))])/\w'=w:=by
 have c1:=h.box.cell 1 rfl
 have hE:=h.pm
 by_cases hz:0≤z/\g z.toNat≠0
 ·have hv:numD g z=some (.int .i64 (g z.toNat:Nat)):=if_pos hz
  have e1:(if 0≤z then g z.toNat else 0)=g z.toNat:=if_pos hz.1
  rw[e1,decide_eq_true hz]
  clear h hz e1
  obtain⟨tt,pp,nn⟩:=x
  dsimp only at*
  go_enter Tryz.func170,Tryz.ntmps170
  go_wp2_with (at_lookup;refine yI rfl _ _ _ rfl 3 3 Tryz.underlying199 Tryz.underlying3 (.int .i64 0) (by kernel_rfl) pp _ rfl hE z rfl _ hv ?_)
  go_ret2
  exact⟨rfl,rfl⟩
 ·have hv:numD g z=none:=if_neg hz
  have e1:(if 0≤z then g z.toNat else 0)=0:=by
   split
   ·omega
   ·rfl
  rw[e1,decide_eq_false hz]
  clear h hz e1
  obtain⟨tt,pp,nn⟩:=x
  dsimp only at*
  go_enter Tryz.func170,Tryz.ntmps170
  go_wp2_with (at_lookup;refine yA rfl _ _ _ rfl 3 3 Tryz.underlying199 Tryz.underlying3 (.int .i64 0) (by kernel_rfl) pp _ rfl hE z rfl hv ?_)
  go_ret2
  exact⟨rfl,rfl⟩
theorem Vl (w:World) (x:Tb) (m:Nat) (D E:Int->Option Value) (z:Int) (q:Int) (b:Bool) (hb:At w x.t (tabO m x)) (hD:IMap w x.p D) (hE:IMap w x.n E) (hne:x.t≠x.p/\x.t≠x.n/\x.p≠x.n)
  (hv:(D z=some (.int .i64 q)/\b=true)\/(D z=none/\q=0/\b=false)):
  Calls Tryz.prog 108 #[.pointer (some ⟨x.t,0,none⟩),.int .i64 z] w fun e w'=>e=.returned (.bool b)/\
   IMap w' x.p (fun y=>if y=z then none else D y)/\IMap w' x.n (fun y=>if y=q then none else E y)/\xe [x.p,x.n] w w':=by
 obtain⟨tt,pp,nn⟩:=x
 dsimp only at*
 have HNE:=hid hne
 have HB:=hid hb
 have HE:=hid hE
 have c1:=hb.cell 1 rfl
 clear hb hE hne
 go_enter Tryz.func108,Tryz.ntmps108
 have hR:(Instr.lookup 199 (.map (some pp)) (.int .i64 z) true).run Tryz.prog w=.ok (.tuple #[.int .i64 q,.bool b]) w:=by
  rw[hD.lookup Tryz.underlying199 Tryz.underlying3 (Qr w) z true]
  rcases hv with⟨h1,rfl⟩|⟨h1,rfl,rfl⟩
  ·rw[h1];rfl
  ·rw[h1];rfl
 have h1:tt∉[pp]:=by have h:=HNE.out;rw[List.mem_singleton];exact h.1
 have h2:tt∉[nn]:=by have h:=HNE.out;rw[List.mem_singleton];exact h.2.1
 have h3:pp∉[nn]:=by have h:=HNE.out;rw[List.mem_singleton];exact h.2.2
 have h4:nn∉[pp]:=by have h:=HNE.out;rw[List.mem_singleton];exact fun e=>h.2.2 e.symm
 have HH:=hid (And.intro h1 (And.intro h2 (And.intro h3 h4)))
 clear hv h1 h2 h3 h4
 go_wp2_with (first
  |(refine zm rfl _ _ 199 3 rfl 3 3 Tryz.underlying199 Tryz.underlying3 pp _ rfl hD z rfl ?_;intro w1 hm1 hk1;have hB1:=hk1.at HB.out HH.out.1;have c20:=hB1.cell 2 rfl;have hE1:=HE.out.keep hk1 HH.out.2.2.2;have HM1:=hid hm1;have HK1:=hid hk1;clear hm1 hk1 hB1 hR c1)
  |(refine zm rfl _ _ 199 3 rfl 3 3 Tryz.underlying199 Tryz.underlying3 nn _ rfl hE1 q rfl ?_;intro w2 hm2 hk2;have HM2:=hid hm2;have HK2:=hid hk2;have hm3:=HM1.out.keep hk2 HH.out.2.2.1;have HM3:=hid hm3;clear hm2 hk2 hm3 c20))
 go_ret
 refine⟨rfl,HM3.out,HM2.out,(HK1.out.mono ?_).trans (HK2.out.mono ?_)⟩
 ·intro k _ h;rw[List.mem_singleton.1 h];simp
 ·intro k _ h;rw[List.mem_singleton.1 h];simp
theorem xcv (w:World) (x:Tb) (m:Nat) (g:Nat->Nat) (z:Int) (h:TabW w x m g):
  Calls Tryz.prog 108 #[.pointer (some ⟨x.t,0,none⟩),.int .i64 z] w fun e w'=>
   e=.returned (.bool (decide (0≤z/\g z.toNat≠0)))/\TabW w' x m (if 0≤z then upd g z.toNat 0 else g)/\xe [x.p,x.n] w w':=by
 obtain⟨E,hE,hPl⟩:=h.nm
 have ht:x.t∉[x.p,x.n]:=by have h:=h.ne;simp only[List.mem_cons,List.not_mem_nil,or_false];omega
 by_cases hz:0≤z/\g z.toNat≠0
 ·obtain⟨n,rfl⟩:=Int.eq_ofNat_of_zero_le hz.1
  have h0:g n≠0:=by simpa using hz.2
  refine(Vl w x m _ _ (n:Nat) (g n:Nat) true h.box h.pm hE h.ne (.inl ⟨by rw[ww,if_pos h0],rfl⟩)).mono ?_
  rintro e w' ⟨rfl,hP,hN,hk⟩
  rw[decide_eq_true hz,if_pos hz.1,Int.toNat_natCast]
  refine⟨rfl,⟨hk.at h.box ht,by rw[<-JG];exact hP,⟨_,hN,hPl.del rfl⟩,h.ne,fun i hi=>?_,h.le⟩,hk⟩
  have hin:i≠n:=by rintro rfl;rw[Xb]at hi;exact hi rfl
  rw[zN hin]at hi⊢
  exact h.bd i hi
 ·have hn:numD g z=none:=if_neg hz
  refine(Vl w x m _ _ z 0 false h.box h.pm hE h.ne (.inr ⟨hn,rfl,rfl⟩)).mono ?_
  rintro e w' ⟨rfl,hP,hN,hk⟩
  rw[decide_eq_false hz]
  have hg:(if 0≤z then upd g z.toNat 0 else g)=g:=by
   split
   ·exact upd_same (by omega)
   ·rfl
  rw[hg]
  refine⟨rfl,⟨hk.at h.box ht,?_,⟨E,?_,hPl⟩,h.ne,h.bd,h.le⟩,hk⟩
  ·rw[JZ hn]at hP;exact hP
  ·rw[JZ hPl.zero]at hN;exact hN
open Go.RowKit Go.OpenShut Go.Sort Go.Shelf Go.Proofs
def numL (m:Nat) (g:Nat->Nat):List Nat:=(List.range (m+1)).filter fun n=>g n != 0
theorem Yl {m:Nat} {g:Nat->Nat} (hbd:∀n,g n≠0->1≤n/\n≤m/\g n<4000) (n:Nat):n∈numL m g↔g n≠0:=by
 unfold numL
 simp only[List.mem_filter,List.mem_range,bne_iff_ne]
 exact⟨fun h=>h.2,fun h=>⟨by have:=hbd n h;omega,h⟩⟩
theorem YK (m:Nat) (g:Nat->Nat):(numL m g).Pairwise (· < ·):=List.Pairwise.filter _ List.pairwise_lt_range
theorem Xl (m:Nat) (g:Nat->Nat):(numL m g).length≤m+1:=by
 have:=List.length_filter_le (fun n=>g n != 0) (List.range (m+1))
 rwa[List.length_range]at this
theorem jk {m:Nat} {g:Nat->Nat} (hbd:∀n,g n≠0->1≤n/\n≤m/\g n<4000) {zs:List Int} (hnd:zs.Nodup) (hm:∀z,z∈zs↔(numD g z).isSome=true):
  zs.mergeSort (fun x y=>decide (x≤y))=(numL m g).map (fun n:Nat=>(n:Int)):=by
 have hp:(zs.mergeSort (fun x y=>decide (x≤y))).Perm ((numL m g).map (fun n:Nat=>(n:Int))):=by
  refine(List.mergeSort_perm _ _).trans ((List.perm_ext_iff_of_nodup hnd ?_).2 fun z=>?_)
  ·exact List.pairwise_map.2 ((YK m g).imp fun h=>by omega)
  ·rw[hm,List.mem_map]
   constructor
   ·intro h
    unfold numD at h
    split at h
    ·rename_i hz
     exact⟨z.toNat,(Yl hbd _).2 hz.2,by omega⟩
    ·cases h
   ·rintro⟨n,hn,rfl⟩
    rw[ww,if_pos ((Yl hbd _).1 hn)]
    rfl
 refine hp.eq_of_pairwise (le:=fun x y:Int=>x≤y) (fun a b _ _ h1 h2=>Int.le_antisymm h1 h2) ?_ ?_
 ·refine(List.pairwise_mergeSort (fun a b c h1 h2=>?_) (fun a b=>?_) zs).imp fun h=>by simpa using h
  ·simp only[decide_eq_true_eq]at*;omega
  ·simp only[Bool.or_eq_true,decide_eq_true_eq];omega
 ·exact List.pairwise_map.2 ((YK m g).imp fun h=>by omega)
theorem IMap.lenB {P:Program} {w:World} {b:Nat} {D:Int->Option Value} (h:IMap w b D) (hB:∀k v,D k=some v->0≤k/\k<4000) {t kt et:TypeId} (ht:P.underlying t=some (.map kt et)):
  ∃c:Nat,c≤4000/\∀ty,(Builtin.len_ #[t] ty #[.map (some b)]).run P w=.ok (.int .i64 (c:Nat)) w:=by
 obtain⟨es,clock,hb,hE⟩:=h
 have hkey:∀x∈es.toList,x.key=.int .i64 (keyI x.key)/\(D (keyI x.key)).isSome=true:=fun x hx=>by
  obtain⟨k,h1,h2⟩:=hE.reads x hx
  rw[h1]
  exact⟨rfl,by show(D k).isSome=true;rw[h2];rfl⟩
 have hnd:(es.toList.map fun x=>keyI x.key).Nodup:=by
  have h1:=hE.st.2.2
  refine List.pairwise_map.2 ((List.pairwise_map.1 h1).imp_of_mem ?_)
  intro x y hx hy hne he
  apply hne
  rw[(hkey x hx).1,(hkey y hy).1,he]
 have hlen:=nodup_few 4000 _ hnd fun z hz=>by
  obtain⟨x,hx,rfl⟩:=List.mem_map.1 hz
  obtain⟨v,hv⟩:=Option.isSome_iff_exists.1 (hkey x hx).2
  exact hB _ v hv
 rw[List.length_map,Array.length_toList]at hlen
 exact⟨es.size,hlen,fun ty=>by simp[Builtin.len_,run_underlying ht,MapKept.run_getObj_map hb,goInt,Result.andThen]⟩
theorem xeU:∃i,Tryz.prog.info? 3=some i/\i.zero=some (.int .i64 0)/\i.size=1/\i.bytes=8:=by
 have h:(Tryz.prog.info? 3).map (fun i=>(i.zero,i.size,i.bytes))=some (some (.int .i64 0),1,8):=by kernel_rfl
 obtain⟨i,h1,h2⟩:=Option.map_eq_some_iff.1 h
 simp only[Prod.mk.injEq]at h2
 exact⟨i,h1,h2⟩
theorem xbw {ops:Array Oper} {rest:List Oper} {o:Oper} {a:Act} {w:World} {Q:Exit->Act->World->Prop} (hgd:o.guard=none) (s x:Operand)
  (ho:o.op=.call { callee:=.builtin .append,args:=#[s,x],argTypes:=#[132,132] })
  (B:Nat) (xx:Option Addr) (cp n:Nat) (f:Nat->Nat) (hs:a.eval s=.slice xx n cp) (hown:OwnI w B xx cp n f) (b c i:Nat) (hx:a.eval x=.slice (some ⟨b,0,none⟩) 1 c) (hc:w.cell? ⟨b,0,none⟩=some (.int .i64 (i:Nat)))
  (hn:n≤100000) (hB:B≤w.heap.size)
  (h:∀g cap w',OwnI w' B (some ⟨g,0,none⟩) cap (n+1) (put f n i)->xe (blkL xx) w w'->(blkL xx= [g]\/w.heap.size≤g)->wpList Tryz.prog ops Q rest (a.put o.dst (.slice (some ⟨g,0,none⟩) (n+1) cap)) w'):
  wpList Tryz.prog ops Q (o::rest) a w:=by
 obtain⟨ti,hi1,hz,hsz,hby⟩:=xeU
 refine wpList_append_own_at w hgd s x 132 ho B 3 ti (.int .i64 0) 1 8 Tryz.underlying132 hi1 hz hsz hby rfl (by omega) _ n _ hs hown ⟨b,0,none⟩ 1 c [.int .i64 (i:Nat)] hx rfl (fun j u hj=>?_) (by simp[Value.oneCell']) (by unfold maxLen;omega) (by omega) hB ?_
 ·cases j with
  |zero=>simp at hj;subst hj;exact hc
  |succ j=>simp at hj
 ·intro v' w' h1 h2 h3 h4
  have hne:v'≠.slice none 0 0:=fun e=>by have:=(h3.1 e).2;omega
  have h1':=h1
  obtain⟨_,⟨rfl,_⟩|⟨g,cap,cur,rfl,hB',hg,h5⟩⟩:=h1'
  ·exact absurd rfl hne
  ·rw[vR]at h1
   refine h g cap w' h1 (xS h2) ?_
   rcases h4 with h4|h4
   ·left
    cases xx with
    |none=>simp[Value.ownBlock]at h4
    |some a=>simp[Value.ownBlock]at h4;simp[blkL];exact h4.symm
   ·right
    simp[Value.ownBlock]at h4;omega
theorem xbS (w:World) (B:Nat) (y:Option Addr) (cp n:Nat) (f:Nat->Nat) (L:List Nat) (h:OwnI w B y cp n f) (hn:n≤100000) (hL:((List.range n).map fun i=>(f i:Int)).mergeSort (fun x y=>decide (x≤y))=L.map (fun n:Nat=>(n:Int))):
  Calls Tryz.prog 153 #[.slice y n cp] w fun e w'=>e=.returned (.tuple #[])/\OwnI w' B y cp n (fun i=>L.getD i 0)/\xe (blkL y) w w':=by
 have hl:L.length=n:=by
  have:=congrArg List.length hL
  rw[List.length_mergeSort,List.length_map,List.length_range,List.length_map]at this
  exact this.symm
 have hxs:(L.map (fun n:Nat=>(n:Int))).map (Value.int .i64)=(List.range n).map fun i=>Value.int .i64 (L.getD i 0:Nat):=by
  refine List.ext_getElem (by simp[hl]) fun i h1 h2=>?_
  simp[List.getD_eq_getElem?_getD,show i<L.length by simpa using h1]
 obtain⟨h0,⟨h1,h2⟩|⟨g,cap,cur,h1,h2,h3,h4,h5,h6,h7⟩⟩:=h
 ·injection h1 with h1 h1n h1c
  subst h1 h1c h2
  refine(AnyM.slices_Sort_int_none Tryz.sortA none 0 w).mono ?_
  rintro e w' ⟨rfl,rfl⟩
  exact⟨rfl,Jw _ _ _,xe.refl _ _⟩
 ·injection h1 with h1 h1n h1c
  subst h1 h1c
  have hg:g<w.heap.size:=(Array.getElem?_eq_some_iff.1 h3).1
  have ht:cur.toList.take ((List.range n).map fun i=>(f i:Int)).length=((List.range n).map fun i=>(f i:Int)).map (Value.int .i64):=by
   rw[List.length_map,List.length_range]
   rw[Nat.mul_one]at h7
   rw[h7,List.map_map]
   rfl
  have cS:=AnyM.slices_Sort_int Tryz.sortA g 0 cp ((List.range n).map fun i=>(f i:Int)) w (holds_of_blockI h3 ht) hg (by simp;omega)
  rw[List.length_map,List.length_range]at cS
  refine cS.mono ?_
  rintro e w' ⟨rfl,nn,os,rfl⟩
  have hr:=ownsRow_sortedI (w:=w) (base:=B) (g:=g) (cap:=cp) (n:=nn) (e:=3) (os:=os) (cur:=cur) (ss:=(List.range n).map fun i=>(f i:Int)) (ts:=L.map (fun n:Nat=>(n:Int))) (by simp[hl]) h2 h3 (by simpa using h4) h5 h6
  rw[List.length_map,List.length_range,hxs,<-hL]at hr
  have hk:=xS (x:=some ⟨g,0,none⟩) (n:=n) (cp:=cp) (grownBy_sortedI (w:=w) (g:=g) (n:=nn) (os:=os) (((List.range n).map fun i=>(f i:Int)).mergeSort (fun x y=>decide (x≤y))).toArray)
  exact⟨rfl,hr,hk⟩
structure NumI (g:Nat->Nat) (left:Int->Bool) (n:Nat) (f:Nat->Nat):Prop where
 is:∀i,i<n->g (f i)≠0
 inj:∀i j,i<n->j<n->f i=f j->i=j
 left:∀k:Nat,left (k:Int)=true↔g k≠0/\∀i,i<n->f i≠k
theorem NumI.start (g:Nat->Nat) (f:Nat->Nat):NumI g (fun k=>(numD g k).isSome) 0 f:=
 ⟨fun i hi=>by omega,fun i j hi=>by omega,fun k=>by
  rw[ww]
  by_cases h:g k≠0
  ·rw[if_pos h];exact⟨fun _=>⟨h,fun i hi=>by omega⟩,fun _=>rfl⟩
  ·rw[if_neg h];exact⟨fun h1=>(by cases h1),fun h1=>absurd h1.1 h⟩⟩
theorem NumI.more {g:Nat->Nat} {left:Int->Bool} {n:Nat} {f:Nat->Nat} (h:NumI g left n f) {k:Nat} (hk:left (k:Int)=true):NumI g (fun z=>left z&& !decide (z=(k:Nat))) (n+1) (put f n k):=by
 obtain⟨h1,h2⟩:=(h.left k).1 hk
 have he:∀i,i<n->put f n k i=f i:=fun i hi=>xI _ _ (by omega)
 refine⟨fun i hi=>?_,fun i j hi hj hij=>?_,fun z=>?_⟩
 ·by_cases hin:i=n
  ·subst hin;rw[xO];exact h1
  ·rw[he i (by omega)];exact h.is i (by omega)
 ·by_cases hin:i=n
  ·by_cases hjn:j=n
   ·omega
   ·subst hin;rw[xO,he j (by omega)]at hij;exact absurd hij.symm (h2 j (by omega))
  ·by_cases hjn:j=n
   ·subst hjn;rw[xO,he i (by omega)]at hij;exact absurd hij (h2 i (by omega))
   ·rw[he i (by omega),he j (by omega)]at hij;exact h.inj i j (by omega) (by omega) hij
 ·simp only[Bool.and_eq_true,Bool.not_eq_true',decide_eq_false_iff_not]
  rw[h.left z]
  constructor
  ·rintro⟨⟨a1,a2⟩,a3⟩
   refine⟨a1,fun i hi=>?_⟩
   by_cases hin:i=n
   ·subst hin;rw[xO];omega
   ·rw[he i (by omega)];exact a2 i (by omega)
  ·rintro⟨a1,a2⟩
   refine⟨⟨a1,fun i hi=>?_⟩,?_⟩
   ·have:=a2 i (by omega);rwa[he i hi]at this
   ·have:=a2 n (by omega);rw[xO]at this;omega
theorem NumI.len {g:Nat->Nat} {left:Int->Bool} {n m:Nat} {f:Nat->Nat} (h:NumI g left n f) (hbd:∀n,g n≠0->1≤n/\n≤m/\g n<4000):n≤m:=by
 have h1:=nodup_few (m+1) ((List.range n).map fun i=>(f i:Int)) (List.pairwise_map.2 (List.nodup_range.imp_of_mem fun {a b} ha hb hne he=>hne (h.inj a b (List.mem_range.1 ha) (List.mem_range.1 hb) (by omega)))) (fun x hx=>by
  obtain⟨i,hi,rfl⟩:=List.mem_map.1 hx
  have:=hbd _ (h.is i (List.mem_range.1 hi));omega)
 rw[List.length_map,List.length_range]at h1
 have h2:=nodup_few m ((List.range n).map fun i=>(f i:Int)-1) (List.pairwise_map.2 (List.nodup_range.imp_of_mem fun {a b} ha hb hne he=>hne (h.inj a b (List.mem_range.1 ha) (List.mem_range.1 hb) (by omega)))) (fun x hx=>by
  obtain⟨i,hi,rfl⟩:=List.mem_map.1 hx
  have:=hbd _ (h.is i (List.mem_range.1 hi));omega)
 rwa[List.length_map,List.length_range]at h2
theorem NumI.all {g:Nat->Nat} {left:Int->Bool} {n m:Nat} {f:Nat->Nat} (h:NumI g left n f) (hbd:∀n,g n≠0->1≤n/\n≤m/\g n<4000) (hl:∀k,left k=false):
  ((List.range n).map fun i=>(f i:Int)).mergeSort (fun x y=>decide (x≤y))=(numL m g).map (fun n:Nat=>(n:Int)):=by
 refine jk hbd ?_ fun z=>?_
 ·refine List.pairwise_map.2 (List.nodup_range.imp_of_mem ?_)
  intro i j hi hj hne he
  exact hne (h.inj i j (List.mem_range.1 hi) (List.mem_range.1 hj) (by omega))
 ·rw[List.mem_map]
  constructor
  ·rintro⟨i,hi,rfl⟩
   rw[ww,if_pos (h.is i (List.mem_range.1 hi))]
   rfl
  ·intro hz
   unfold numD at hz
   split at hz
   ·rename_i h0
    by_cases hx:∃i,i<n/\f i=z.toNat
    ·obtain⟨i,hi,he⟩:=hx
     exact⟨i,List.mem_range.2 hi,by omega⟩
    ·have:=(h.left z.toNat).2 ⟨h0.2,fun i hi he=>hx ⟨i,hi,he⟩⟩
     rw[hl]at this
     cases this
   ·cases hz
theorem XY (w:World) (x:Tb) (m:Nat) (g:Nat->Nat) (hb:At w x.t (tabO m x)) (hP:IMap w x.p (numD g)) (hbd:∀n,g n≠0->1≤n/\n≤m/\g n<4000) (hle:m≤1000):
  Calls Tryz.prog 82 #[.pointer (some ⟨x.t,0,none⟩)] w fun e w'=>
   ∃y cp,e=.returned (.slice y (numL m g).length cp)/\OwnI w' w.heap.size y cp (numL m g).length (fun i=>(numL m g).getD i 0)/\xe [] w w':=by
 have HBD:=hid hbd
 have HLM:=hid hle
 have HBX:=hid hb
 have hxp:x.p<w.heap.size:=hP.lt
 obtain⟨c,hc,hlen⟩:=hP.lenB (fun k v hk=>by
  unfold numD at hk
  split at hk
  ·rename_i h0;have:=hbd _ h0.2;omega
  ·cases hk) Tryz.underlying199
 have c1:=hb.cell 1 rfl
 have hci:(c:Int)≤4000:=by omega
 obtain⟨ti,hi1,hz,hsz,hby⟩:=xeU
 have hbyte:ti.bytes*c≤281474976710656:=by rw[hby];omega
 have hcm:c≤maxLen:=by unfold maxLen;omega
 have HXP:=hid hxp
 have HTI:=hid hi1
 have HTZ:=hid hz
 have HTS:=hid hsz
 have HTB:=hid hbyte
 have HCM:=hid hcm
 clear hb hbd hle hi1 hz hsz hby hbyte hcm hxp hc
 obtain⟨tt,pp,nn⟩:=x
 dsimp only at*
 go_enter Tryz.func82,Tryz.ntmps82
 go_wp2_with (first
  |(at_make;refine wpList_make_own w rfl _ _ 132 rfl w.heap.size 3 ti (.int .i64 0) 1 Tryz.underlying132 HTI.out HTZ.out HTS.out .i64 .i64 (c:Nat) c rfl rfl rfl HTB.out HCM.out (Nat.le_refl _) ?_;intro w1 hr1 hg1;have hk1:=xS (x:=none) (n:=0) (cp:=0) hg1;have HR1:=hid hr1;have hP1:=hP.keep hk1 (by simp[blkL]);have hB1:=hk1.at HBX.out (by simp[blkL]);have c11:=hB1.cell 1 rfl;have HK1:=hid hk1;have HB1:=hid hB1;clear hr1 hg1 hk1 hB1 hlen c1)
  |(at_range;refine wN rfl _ _ rfl 3 3 Tryz.underlying199 pp _ rfl hP1 ?_;intro w2 cnt hr2 hk2 hz2))
 obtain⟨ib,hib⟩:∃ib,ib=w1.heap.size:=⟨_,rfl⟩
 rw[<-hib]at hr2⊢
 have hlt:w.heap.size<ib:=by
  have h1:w.heap.size<w1.heap.size:=by
   obtain⟨_,h1|⟨g1,cap,cur,h1,h2,h3,h4⟩⟩:=HR1.out
   ·cases h1.1
   ·injection h1 with h1
    injection h1 with h1
    have h5:=(Array.getElem?_eq_some_iff.1 h3).1
    injection h1 with h1
    omega
  omega
 have HIB:Hid (ib≠pp/\w.heap.size<ib/\w2.heap.size=ib+1):=⟨by have:=HXP.out;omega,hlt,by rw[hib];exact hz2⟩
 have HO2:Hid (OwnI w2 w.heap.size (some ⟨w.heap.size,0,none⟩) c 0 (fun _=>0)):=hid (OwnI.keep (T:=[]) (show OwnI w1 w.heap.size (some ⟨w.heap.size,0,none⟩) c 0 (fun _=>0)from HR1.out) hk2 (by simp))
 have HK2:Hid (xe [] w w2):=hid (HK1.out.trans hk2)
 clear c11 hP1 hP hk2 hz2 hib hlt HR1 HK1 HB1 HTI HTZ HTS HTB HCM HBX hci
 go_loopg [3,4] cnt (fun r sl sn wr=>∃y cp n f left,sl=.slice y n cp∧OwnI wr w.heap.size y cp n f∧(∀b∈blkL y,b≠ib)∧zM wr ib pp (numD g) left r∧NumI g left n f∧xe [] w wr∧ib<wr.heap.size)
 case atStart=>exact⟨_,_,0,_,_,rfl,HO2.out,by simp[blkL];have:=HIB.out;omega,hr2,NumI.start g _,HK2.out,by have:=HIB.out;omega⟩
 case round=>
  obtain⟨y,cp,n,f,left,rfl,hO,hy,hR,hN,hK,hlt⟩:=hrel
  have HO:=hid hO
  have HY:=hid hy
  have HN:=hid hN
  have HK:=hid hK
  have HLT:=hid hlt
  clear hO hy hN hK hlt
  go_wp2_with (at_next;refine vK rfl _ rfl ib pp _ left gk rfl hR HIB.out.1 ?_ ?_)
  ·intro hr0 hl0
   have HS:=HN.out.all HBD.out hl0
   have hl:n=(numL m g).length:=by
    have h1:=congrArg List.length HS
    rwa[List.length_mergeSort,List.length_map,List.length_range,List.length_map]at h1
   have HC:=hid (xbS wr w.heap.size y cp n f (numL m g) HO.out (by have h1:=HN.out.len HBD.out;have h2:=HLM.out;omega) HS)
   have HLE:=hid hl
   clear hr0 hl0 hR HS hl
   go_wp2_with fail
   refine HC.out.mono ?_
   rintro e w4 ⟨rfl,hO4,hk4⟩
   have HO4:=hid hO4
   have HK4:Hid (xe [] w w4):=hid (HK.out.new hk4 (fun b hb=>.inr (HO.out.ge b hb).1))
   clear hO4 hk4 HC
   go_wp2_with fail
   go_ret
   rw[<-HLE.out]
   exact⟨_,_,rfl,HO4.out,HK4.out⟩
  ·intro kz v w3 cnt' hlk hD hlt' hR3 hk3 hen
   obtain⟨k,h0,rfl,rfl⟩:∃k:Nat,g k≠0/\kz=(k:Int)/\v=.int .i64 (g k:Nat):=by
    unfold numD at hD
    split at hD
    ·rename_i h
     injection hD with hD
     exact⟨kz.toNat,h.2,by omega,hD.symm⟩
    ·cases hD
   have HO3:=hid (HO.out.keep hk3 (fun b hb=>by rw[List.mem_singleton];exact HY.out b hb))
   have HK3:Hid (xe [] w w3):=hid (HK.out.new hk3 (fun b hb=>.inr (by obtain rfl:=List.mem_singleton.1 hb;have:=HIB.out;omega)))
   have HN3:=hid (HN.out.more hlk)
   have HCN:=hid hlt'
   have HR3:=hid hR3
   have HL3:Hid (ib<w3.heap.size):=by have h1:=HLT.out;have h2:=hk3.size;show ib<_;omega
   have hn5:n≤100000:=by have h1:=HN.out.len HBD.out;have h2:=HLM.out;omega
   have hB5:w.heap.size≤(w3.alloc (.cells #[.int .i64 (k:Nat)] 3)).heap.size:=by have h1:=HK3.out.size;rw[World.size_alloc];omega
   clear hlk hD hlt' hR3 hk3 h0 hR
   go_wp2_with (at_builtin;refine xbw rfl _ _ rfl w.heap.size y cp n f rfl (HO3.out.keep (xe.alloc (xe.refl [] w3) _) (fun _ _=>List.not_mem_nil)) w3.heap.size 1 k rfl ((At.new w3 _).cell 0 rfl) hn5 hB5 ?_;intro g' cap' w5 ho5 hk5 hg5;have HO5:=hid ho5;have HK5:=hid hk5;have HG5:=hid hg5;clear ho5 hk5 hg5)
   have hge:∀b∈blkL y,w.heap.size≤b:=fun b hb=>(HO3.out.ge b hb).1
   have hal:=xe.alloc (xe.refl [] w3) (.cells #[.int .i64 (k:Nat)] 3)
   have hk5:xe [] w w5:=(HK3.out.trans hal).new HK5.out (fun b hb=>.inr (hge b hb))
   have hpy:pp∉blkL y:=fun hb=>by have:=hge _ hb;have:=HXP.out;omega
   have hR5:=(HR3.out.keep hal (by simp) (by simp)).keep HK5.out hpy (fun hb=>HY.out _ hb rfl)
   have hl5:ib<w5.heap.size:=by have h1:=HK5.out.size;have h2:=HL3.out;rw[World.size_alloc]at h1;omega
   have hy5:∀b∈blkL (some (⟨g',0,none⟩:Addr)),b≠ib:=fun b hb=>by
    have hb1:b=g':=by simpa[blkL]using hb
    rcases HG5.out with h|h
    ·have:=HY.out g' (by rw[h];simp);omega
    ·have h2:=HL3.out;rw[World.size_alloc]at h;omega
   have HF5:=hid (And.intro hk5 (And.intro hR5 (And.intro hl5 hy5)))
   clear hge hal hk5 hpy hR5 hl5 hy5 hn5 hB5 hen
   go_roundg cnt'
   case measure=>exact HCN.out
   case rel=>exact⟨_,_,n+1,_,_,rfl,HO5.out,HF5.out.2.2.2,HF5.out.2.1,HN3.out,HF5.out.1,HF5.out.2.2.1⟩
theorem YU (w:World) (x:Tb) (m:Nat) (g:Nat->Nat) (h:TabW w x m g):
  Calls Tryz.prog 82 #[.pointer (some ⟨x.t,0,none⟩)] w fun e w'=>
   ∃y cp,e=.returned (.slice y (numL m g).length cp)/\OwnI w' w.heap.size y cp (numL m g).length (fun i=>(numL m g).getD i 0)/\xe [] w w':=
 XY w x m g h.box h.pm h.bd h.le
open Go.RowKit Go.OpenShut Go.Maps Go.Sort Go.Shelf Go.Proofs
abbrev xay (b:Nat):Obj:=.cells #[.map (some b)] 199
theorem xax (w:World) (b:Nat):Calls Tryz.prog 185 #[.map (some b)] w fun e w'=>e=.returned (.func (.func 222) #[] #[ptr w.heap.size])/\w.alloc (xay b)=w':=by
 refine(callsIn_wide (n:=6)).1 ((AnyZI.keys_in Tryz.keysB Fence.wide 6 trivial rfl (some b) w).mono ?_)
 rintro e w' ⟨rfl,rfl⟩
 exact⟨rfl,rfl⟩
theorem qo (w:World) (b x:Nat) (D:Int->Option Value) (hm:IMap w b D) (hx:At w x (xay b)) (hB:∀k v,D k=some v->0≤k/\k<4000):
  Calls Tryz.prog 184 #[.func (.func 222) #[] #[ptr x]] w fun e w'=>∃(y:Option Addr) (ss:List Int) (cap:Nat),e=.returned (.slice y ss.length cap)/\KeysOf D ss/\
   ReadsV (Value.int .i64) w' y ss.length (fun i=>ss.getD i 0)/\(∀b off,y=some ⟨b,off,none⟩->w.heap.size≤b)/\xe [] w w':=by
 obtain⟨D0,hown,hsz,hP⟩:=hm.owns (P:=Tryz.prog) hB 3 Tryz.underlying3
 have hseq:SeqGives Fence.wide 3 Tryz.prog 222 #[ptr x] encZ (fun ss=>ss.Perm (intKeys D0)) (Maps.size D0) w:=
  AnyZI.keys_gives (ρ:=Tryz.keysB_ren) { Tryz.keysB with } Fence.wide _ trivial rfl (by omega) x b 4000 D0 _ hx.lt (hx.cell 0 rfl) hown
 have cS:=AnyZI.sorted_in Tryz.sortedA Fence.wide 6 trivial trivial trivial trivial rfl (by omega) (sorts_in _) (enters_of Tryz.func153 (by kernel_rfl) rfl) 222 #[ptr x] trivial (enters_of Tryz.func222 (by kernel_rfl) rfl) _ _ (by unfold maxLen;omega) (by omega) w hseq
 refine(callsIn_wide (n:=6)).1 (cS.mono ?_)
 rintro e w' ⟨v,ss,rfl,hS,hrow,hnil,hb⟩
 have hK:=(hP ss hS).perm (List.mergeSort_perm ss (fun x y=>decide (x≤y)))
 have hl:(ss.mergeSort (fun x y=>decide (x≤y))).length=ss.length:=List.length_mergeSort ss
 have kk:xe [] w w':=Go.Proofs.YtcdhklgahepcaaaGreat.Below.keeps hb []
 rcases hrow.2 with⟨rfl,hz⟩|⟨g,cap,cur,rfl,hbase,hg,r1,r2,r3,r4⟩
 ·exact⟨none,_,0,by rw[hl,hz],hK,.inl (by rw[hl];exact hz),by simp,kk⟩
 ·refine⟨_,_,cap,by rw[hl],hK,.inr ⟨g,0,rfl,(Array.getElem?_eq_some_iff.1 hg).1,fun i hi=>?_⟩,fun b off e=>by cases e;exact hbase,kk⟩
  have hi2:i<ss.length:=by omega
  have h1:cur.toList[i]? =((ss.mergeSort (fun x y=>decide (x≤y))).map encZ)[i]? :=by
   rw[<-r4,List.getElem?_take_of_lt (by omega)]
  refine(show At w' g _ from hg).cell (0+i) ?_
  rw[Nat.zero_add,<-Array.getElem?_toList,h1,List.getElem?_map]
  obtain⟨tt,ht⟩:∃tt,tt=ss.mergeSort (fun x y=>decide (x≤y)):=⟨_,rfl⟩
  rw[<-ht]at hi⊢
  have e1:tt.getD i 0=tt[i]:=by rw[List.getD_eq_getElem?_getD,List.getElem?_eq_getElem hi];rfl
  rw[List.getElem?_eq_getElem hi]
  show some (encZ tt[i])=some (.int .i64 (tt.getD i 0))
  rw[e1]
structure xfa (F:Nat) (cap:Array Value) (f:Nat->Nat) (own:List Nat) (dom:Nat->Prop) (J:List Nat->World->Prop):Prop where
 inv:∀(w:World) (p:Int),(callFunc F (#[.int .i64 p]++cap)).run Tryz.prog w=.ok (.enter F (#[.int .i64 p]++cap)) w
 keep:∀L w w' S,J L w->xe S w w'->(∀b∈S,b∉own)->J L w'
 call:∀L w (p:Nat),J L w->p∉L->dom p->Calls Tryz.prog F (#[.int .i64 (p:Nat)]++cap) w fun e w'=>e=.returned (.int .i64 (f p:Nat))/\J (L++ [p]) w'/\xe own w w'
def VJ (f:Nat->Nat) (L:List Nat) (z:Int):Option Value:=if 0≤z/\z.toNat∈L then some (.int .i64 (f z.toNat:Nat))else none
theorem Qw (f:Nat->Nat) (L:List Nat) (p:Nat):(fun z:Int=>if z=(p:Nat)then some (.int .i64 (f p:Nat))else VJ f L z)=VJ f (L++ [p]):=by
 funext z
 unfold VJ
 by_cases hz:z=(p:Nat)
 ·subst hz;rw[if_pos rfl,if_pos ⟨by omega,by simp⟩,Int.toNat_natCast]
 ·rw[if_neg hz]
  by_cases h:0≤z/\z.toNat∈L
  ·rw[if_pos h,if_pos ⟨h.1,List.mem_append_left _ h.2⟩]
  ·rw[if_neg h,if_neg]
   rintro⟨h1,h2⟩
   rcases List.mem_append.1 h2 with h2|h2
   ·exact h ⟨h1,h2⟩
   ·have:=List.mem_singleton.1 h2;omega
def mvd (f g:Nat->Nat) (n:Nat):Nat:=if g n=0 then 0 else f (g n)
section
variable {F:Nat} {cap:Array Value} {f:Nat->Nat} {own:List Nat} {dom:Nat->Prop} {J:List Nat->World->Prop}
def hyb (f g:Nat->Nat) (ns:List Nat) (n:Nat):Nat:=if n∈ns then f (g n)else g n
def hyz (f g:Nat->Nat) (ns:List Nat) (n:Nat):Nat:=if n∈ns then f (g n)else 0
theorem JS (f g:Nat->Nat) (ns:List Nat) (k:Nat):hyb f g (ns++ [k])=upd (hyb f g ns) k (f (g k)):=by
 funext n
 unfold hyb upd
 by_cases h:n=k
 ·subst h;simp
 ·simp[h]
theorem JR (f g:Nat->Nat) (ns:List Nat) (k:Nat):hyz f g (ns++ [k])=upd (hyz f g ns) k (f (g k)):=by
 funext n
 unfold hyz upd
 by_cases h:n=k
 ·subst h;simp
 ·simp[h]
theorem WA {L:List Nat} {k:Nat} (hk:k<L.length) (hn:L.Nodup):L.take (k+1)=L.take k++ [L.getD k 0]/\L.getD k 0∈L/\L.getD k 0∉L.take k:=by
 have e:L.getD k 0=L[k]:=by rw[List.getD_eq_getElem?_getD,List.getElem?_eq_getElem hk];rfl
 rw[e]
 refine⟨List.take_succ_eq_append_getElem hk,List.getElem_mem hk,fun h=>?_⟩
 have h1:=(List.take_append_drop k L).symm
 rw[h1,List.nodup_append]at hn
 refine hn.2.2 _ h _ ?_ rfl
 rw[List.drop_eq_getElem_cons hk]
 exact List.mem_cons_self
theorem xaQ (hF:xfa F cap f own dom J) (w:World) (x:Tb) (m:Nat) (g:Nat->Nat) (h:TabW w x m g) (hJ:J [] w) (hap:∀b∈x.bl,b∉own) (hlt:∀b∈own,b<w.heap.size) (hdom:∀n,g n≠0->dom (g n)/\f (g n)<4000)
  (hinj:∀i j,g i≠0->g j≠0->f (g i)=f (g j)->f (g i)≠0->i=j):
  Calls Tryz.prog 117 #[.pointer (some ⟨x.t,0,none⟩),.func (.func F) #[] cap] w fun e w'=>e=.returned (.tuple #[])/\TabW w' x m (mvd f g)/\
   (∃L:List Nat,J L w'/\L.Nodup/\∀p,p∈L↔∃n,g n≠0/\g n=p)/\xe (x.p::x.n::own) w w':=by
 have hinv:=hF.inv
 have hmk:=fun w:World=>run_makeMap (P:=Tryz.prog) (w:=w) 199
 have H:=hid h
 have HJ:=hid hJ
 have HAP:=hid hap
 have HLT:=hid hlt
 have HDM:=hid hdom
 have HIN:=hid hinj
 have hk1:=xe.alloc (xe.refl [] w) (.map #[] 0)
 have hB1:=hk1.at h.box (by simp)
 have c2:=hB1.cell 2 rfl
 have hM1:=IMap.made w
 have HM1:=hid hM1
 have HK1:=hid hk1
 obtain⟨mb,hmb⟩:∃mb,mb=w.heap.size:=⟨_,rfl⟩
 obtain⟨w1,hw1⟩:∃w1,w1=w.alloc (.map #[] 0):=⟨_,rfl⟩
 obtain⟨tt,pp,nn⟩:=x
 dsimp only at*
 have HB1:=hid hB1
 rw[<-hw1,<-hmb]at HM1
 rw[<-hw1]at HK1 c2 HB1
 clear h hJ hap hlt hdom hinj hk1 hB1 hM1
 go_enter Tryz.func117,Tryz.ntmps117
 go_upto_region 1 with fail
 first|rw[<-hw1,<-hmb]|skip
 obtain⟨E,hE,hPl⟩:=H.out.nm
 have hE2:=hE.keep (HK1.out.trans (xe.alloc (xe.refl [] w1) (xay nn))) (by simp)
 have HS:=hid (qo _ nn w1.heap.size E hE2 (At.new w1 (xay nn)) (fun k v hk=>by
  obtain⟨n,h1,h2⟩:=hPl.2 _ _ hk
  have:=H.out.bd n h1;omega))
 have HPL:=hid hPl
 have HE:=hid hE
 have HW1:Hid (mb<w1.heap.size/\w.heap.size≤mb):=⟨by rw[hw1,hmb];simp,by omega⟩
 have HKM:=hid (xax w1 nn)
 clear hE2 hPl hE hmk hmb hw1
 go_wp2_with fail
 refine HKM.out.mono ?_
 rintro e w2 ⟨rfl,hw2⟩
 rw[hw2]at HS
 have hk2:xe [] w1 w2:=by rw[<-hw2];exact xe.alloc (xe.refl [] w1) (xay nn)
 have HK2:=hid hk2
 clear hw2 HKM hk2 c2
 go_wp2_with fail
 refine HS.out.mono ?_
 rintro e w3 ⟨y,ss,cp,rfl,hKO,hR,hyb,hk3⟩
 obtain⟨L,hL⟩:∃L,L=ss.map Int.toNat:=⟨_,rfl⟩
 obtain⟨n,hn⟩:∃n,n=ss.length:=⟨_,rfl⟩
 have hLn:L.length=n:=by rw[hL,hn,List.length_map]
 have hsL:∀z,z∈ss->∃p:Nat,z=(p:Nat)/\∃i,g i≠0/\g i=p:=fun z hz=>by
  obtain⟨v,hv⟩:=Option.isSome_iff_exists.1 ((hKO.2 z).1 hz)
  obtain⟨i,h1,h2⟩:=HPL.out.2 _ _ hv
  exact⟨g i,h2,i,h1,rfl⟩
 have hnd:L.Nodup:=by
  rw[hL]
  refine List.pairwise_map.2 (hKO.1.imp_of_mem fun {a b} ha hb hne he=>hne ?_)
  obtain⟨p,rfl,_⟩:=hsL a ha
  obtain⟨q,rfl,_⟩:=hsL b hb
  have h1:p=q:=by simpa using he
  omega
 have hLm:∀p,p∈L↔∃i,g i≠0/\g i=p:=fun p=>by
  rw[hL,List.mem_map]
  constructor
  ·rintro⟨z,hz,rfl⟩
   obtain⟨q,rfl,h⟩:=hsL z hz
   simpa using h
  ·rintro⟨i,h1,rfl⟩
   exact⟨(g i:Nat),(hKO.2 _).2 (by rw[HPL.out.1 i h1];rfl),by simp⟩
 have hg:∀i,ss.getD i 0=((L.getD i 0:Nat):Int):=fun i=>by
  rw[hL]
  by_cases hi:i<ss.length
  ·obtain⟨p,hp,_⟩:=hsL ss[i] (List.getElem_mem hi)
   simp[List.getD_eq_getElem?_getD,hi,hp]
  ·simp[List.getD_eq_getElem?_getD,hi]
 have hR':ReadsV (Value.int .i64) w3 y n (fun i=>((L.getD i 0:Nat):Int)):=by
  rw[hn]
  have:(fun i=>((L.getD i 0:Nat):Int))=fun i=>ss.getD i 0:=funext fun i=>(hg i).symm
  rw[this];exact hR
 have hbE:∀k v,E k=some v->0≤k/\k<(4000:Nat):=fun k v hk=>by
  obtain⟨i,h1,h2⟩:=HPL.out.2 _ _ hk
  have:=H.out.bd i h1;omega
 have hni:n≤4000:=by rw[hn];exact hKO.len 4000 hbE
 rw[<-hn]
 have HL:=hid (And.intro hLn (And.intro hnd hLm))
 have HR:=hid hR'
 have HYB:=hid hyb
 have hni2:(n:Int)≤4000:=by omega
 have HK3:Hid (xe [] w1 w3):=hid (HK2.out.trans hk3)
 have HW2:Hid (mb<w2.heap.size/\w.heap.size≤w2.heap.size):=by have h1:=HW1.out;have h2:=HK2.out.size;show _/\_;omega
 have HM3:=hid (HM1.out.keep HK3.out (by simp))
 have HJ3:=hid (hF.keep _ _ _ [] HJ.out (HK1.out.trans HK3.out) (by simp))
 clear hKO hbE hR hR' hyb hk3 hL hLn hsL hnd hLm hg hn hni HS HK2 HM1
 go_wp2_with fail
 go_loopg [6,19] n (fun r s6 s19 wr=>∃k:Nat,k+r=n∧s19=.int .i64 k∧IMap wr mb (VJ f (L.take k))∧J (L.take k) wr∧xe (mb::own) w3 wr)
 case atStart=>exact⟨0,by omega,rfl,HM3.out.congr fun k=>by unfold VJ;rw[if_neg];simp,HJ3.out,xe.refl _ _⟩
 case round=>
  obtain⟨k,hk,rfl,hM,hJ,hK⟩:=hrel
  have HM:=hid hM
  have HJk:=hid hJ
  have HK:=hid hK
  clear hM hJ hK
  by_cases hlt:k<n
  ·have hlti:(k:Int)<(n:Int):=by omega
   obtain⟨b,off,rfl,hb,hc⟩:∃b off,y=some ⟨b,off,none⟩/\b<w3.heap.size/\∀i,i<n->w3.cell? ⟨b,off+i,none⟩=some (.int .i64 ((L.getD i 0:Nat):Int)):=by
    rcases HR.out with h|h
    ·omega
    ·exact h
   obtain⟨e1,e2,e3⟩:=WA (L:=L) (k:=k) (by have:=HL.out.1;omega) HL.out.2.1
   obtain⟨q,hq⟩:∃q,q=L.getD k 0:=⟨_,rfl⟩
   rw[<-hq]at e1 e2 e3
   obtain⟨i,hi0,hi⟩:=(HL.out.2.2 q).1 e2
   have hbw:b<wr.heap.size:=by have:=HK.out.size;omega
   have hbn:b∉mb::own:=fun h=>by
    have h1:=HYB.out b off rfl
    have h2:=HW2.out
    rcases List.mem_cons.1 h with h|h
    ·omega
    ·have:=HLT.out b h;omega
   have d0:wr.cell? ⟨b,off+k,none⟩=some (.int .i64 (q:Nat)):=by
    rw[hq,<-hc k hlt]
    exact HK.out.cell (p:=⟨b,off+k,none⟩) hb hbn
   have HC:=hid (hF.call _ wr q HJk.out e3 (by rw[<-hi];exact(HDM.out i hi0).1))
   have HE1:=hid e1
   have HMO:Hid (mb∉own):=by have h1:=HW1.out;exact fun h=>by have:=HLT.out mb h;omega
   clear hc e1 e2 e3 hq hi hi0 hb hbw hbn
   go_wp2_with fail
   refine HC.out.mono ?_
   rintro e w4 ⟨rfl,hJ4,hk4⟩
   have hM4:=HM.out.keep hk4 HMO.out
   have HJ4:=hid hJ4
   have HK4:=hid hk4
   clear hJ4 hk4 HC d0
   go_wp2_with (at_mapUpdate;refine zl rfl _ _ _ _ rfl 3 3 Tryz.underlying199 Tryz.underlying3 mb _ rfl hM4 (q:Nat) _ rfl rfl ?_;intro w5 hm5 hk5;have HM5:=hid hm5;have HK5:=hid hk5;clear hm5 hk5 hM4)
   go_roundg (n-(k+1))
   case measure=>omega
   case rel=>
    refine⟨k+1,by omega,by go_num,?_,?_,?_⟩
    ·rw[HE1.out,<-Qw];exact HM5.out
    ·rw[HE1.out];exact hF.keep _ _ _ _ HJ4.out HK5.out (fun b hb=>by rw[List.mem_singleton.1 hb];exact HMO.out)
    ·refine(HK.out.trans (HK4.out.mono fun b _ h=>List.mem_cons_of_mem _ h)).trans (HK5.out.mono fun b _ h=>?_)
     rw[List.mem_singleton.1 h];exact List.mem_cons_self
  ·obtain rfl:k=n:=by omega
   have htn:L.take k=L:=List.take_of_length_le (by have:=HL.out.1;omega)
   rw[htn]at HM HJk
   have hlow:∀b∈(⟨tt,pp,nn⟩:Tb).bl,b∉mb::own:=fun b hb h=>by
    have h1:=H.out.lt b hb
    have h2:=HW1.out
    rcases List.mem_cons.1 h with h|h
    ·omega
    ·exact HAP.out b hb h
   have hKw:xe own w wr:=((HK1.out.trans HK3.out).mono (by simp)).new HK.out (fun b hb=>by
    rcases List.mem_cons.1 hb with h|h
    ·exact .inr (by have:=HW1.out;omega)
    ·exact .inl h)
   have hTw:=H.out.keep hKw HAP.out
   have hBw:=hTw.box
   have hPw:=hTw.pm
   have hNw:=HE.out.keep hKw (HAP.out nn (by simp))
   have c2:=hBw.cell 2 rfl
   have HBw:=hid hBw
   have HPw:=hid hPw
   have HKw:=hid hKw
   have HNE:=hid H.out.ne
   clear hlow hTw hBw hPw hKw htn HK HM3 HJ3 HK3 HK1 HB1 HJ hk hlt
   go_wp2_with (refine yn rfl _ _ rfl 3 3 Tryz.underlying199 nn _ rfl hNw ?_;intro w5 hm5 hk5;have HM5:=hid hm5;have HK5:=hid hk5;clear hm5 hk5 hNw c2)
   have h5:tt∉[nn]/\pp∉[nn]/\mb∉[nn]:=by
    have h1:=HNE.out
    have h2:=H.out.lt nn (by simp)
    have h3:=HW1.out
    simp only[List.mem_singleton]
    omega
   have hB5:=HK5.out.at HBw.out h5.1
   have hP5:=HPw.out.keep HK5.out h5.2.1
   have hM5:=HM.out.keep HK5.out h5.2.2
   have hJ5:=hF.keep _ _ _ _ HJk.out HK5.out (fun b hb=>by rw[List.mem_singleton.1 hb];exact HAP.out nn (by simp))
   have HNum:=hid (XY w5 ⟨tt,pp,nn⟩ m g hB5 hP5 H.out.bd H.out.le)
   have HL5:Hid (∀b∈[tt,pp,nn,mb],b<w5.heap.size):=hid (fun b hb=>by
    have h1:=hB5.lt
    have h2:=hP5.lt
    have h3:=HM5.out.lt
    have h4:=hM5.lt
    simp only[List.mem_cons,List.not_mem_nil,or_false]at hb
    rcases hb with rfl|rfl|rfl|rfl<;>assumption)
   have HB5:=hid hB5
   have HP5:=hid hP5
   have HMM5:=hid hM5
   have HJ5:=hid hJ5
   clear hB5 hP5 hM5 hJ5 h5 HBw HPw HM HJk
   refine HNum.out.mono ?_
   rintro e w6 ⟨y2,cp2,rfl,hO6,hk6⟩
   obtain⟨ns,hns⟩:∃ns,ns=numL m g:=⟨_,rfl⟩
   rw[<-hns]at hO6⊢
   obtain⟨N,hN⟩:∃N,N=ns.length:=⟨_,rfl⟩
   rw[<-hN]at hO6⊢
   have hNi:(N:Int)≤2000:=by have h1:=Xl m g;have h2:=H.out.le;rw[hN,hns];omega
   have HNS:Hid (ns.length=N/\ns.Nodup/\∀i,i∈ns↔g i≠0):=hid ⟨hN.symm,by rw[hns];exact(YK m g).imp fun h=>by omega,fun i=>by rw[hns];exact Yl H.out.bd i⟩
   have HO6:=hid hO6
   have HB6:=hid (hk6.at HB5.out (by simp))
   have HP6:=hid (HP5.out.keep hk6 (by simp))
   have HM6:=hid (HMM5.out.keep hk6 (by simp))
   have HN6:=hid (HM5.out.keep hk6 (by simp))
   have HJ6:=hid (hF.keep _ _ _ [] HJ5.out hk6 (by simp))
   have HK6:Hid (xe (pp::nn::own) w w6):=hid ((((HKw.out.mono (fun b _ h=>List.mem_cons_of_mem _ (List.mem_cons_of_mem _ h))).trans (HK5.out.mono (fun b _ h=>by rw[List.mem_singleton.1 h];simp))).trans (hk6.mono (by simp))))
   clear hO6 hk6 hns hN HNum HB5 HP5 HMM5 HJ5 HM5 HK5 HKw
   go_wp2_with fail
   go_loopg [8,9,10,36] N (fun r s8 s9 s10 s36 wr=>∃k:Nat,k+r=N∧s36=.int .i64 k∧IMap wr pp (numD (hyb f g (ns.take k)))∧(∃E,IMap wr nn E∧Pl (hyz f g (ns.take k)) E)∧xe [pp,nn] w6 wr)
   case atStart=>exact⟨0,by omega,rfl,HP6.out,⟨_,HN6.out,xc8⟩,xe.refl _ _⟩
   case round=>
    obtain⟨k,hk,rfl,hP,⟨E2,hN,hPl⟩,hK⟩:=hrel
    have HP:=hid hP
    have HN:=hid hN
    have HPL2:=hid hPl
    have HK:=hid hK
    have hb:=hK.at HB6.out (by have h:=HNE.out;simp only[List.mem_cons,List.not_mem_nil,or_false];omega)
    have c1:wr.cell? ⟨tt,1,none⟩=some (.map (some pp)):=hb.cell 1 rfl
    have HB:=hid hb
    clear hN hPl hb
    by_cases hlt:k<N
    ·have hlti:(k:Int)<(N:Int):=by omega
     obtain⟨e1,e2,e3⟩:=WA (L:=ns) (k:=k) (by have:=HNS.out.1;omega) HNS.out.2.1
     have hO:=HO6.out.keep hK (fun b hb h=>by
      have h1:=(HO6.out.ge b hb).1
      have h2:=HL5.out
      simp only[List.mem_cons,List.not_mem_nil,or_false]at h
      rcases h with rfl|rfl
      ·have:=h2 _ (show b∈[tt,b,nn,mb] by simp);omega
      ·have:=h2 _ (show b∈[tt,pp,b,mb] by simp);omega)
     obtain⟨r,cur,rfl,hr1,hr2,hr3⟩:∃r cur,y2=some ⟨r,0,none⟩/\w5.heap.size≤r/\At wr r (.cells cur 3)/\∀i,i<N->cur[i]? =some (.int .i64 (ns.getD i 0:Nat)):=by
      rcases hO.form with⟨_,h⟩|h
      ·omega
      ·exact h
     have d0:=hr2.cell k (hr3 k hlt)
     obtain⟨z,hz⟩:∃z,z=ns.getD k 0:=⟨_,rfl⟩
     rw[<-hz]at e1 e2 e3 d0
     obtain⟨q,hq⟩:∃q,q=g z:=⟨_,rfl⟩
     have hq0:q≠0:=by rw[hq];exact(HNS.out.2.2 z).1 e2
     obtain⟨v,hv⟩:∃v,v=f q:=⟨_,rfl⟩
     have hM:=HM6.out.keep hK (by
      have h1:=H.out.lt pp (by simp)
      have h2:=H.out.lt nn (by simp)
      have h3:=HW1.out
      simp only[List.mem_cons,List.not_mem_nil,or_false];omega)
     have hR1:(Instr.lookup 199 (.map (some pp)) (.int .i64 (z:Nat)) false).run Tryz.prog wr=.ok (.int .i64 (q:Nat)) wr:=by
      rw[hP.lookup Tryz.underlying199 Tryz.underlying3 (Qr wr) (z:Nat) false]
      have h1:hyb f g (ns.take k) z=q:=by unfold hyb;rw[if_neg e3,hq]
      rw[ww,h1,if_pos hq0]
      rfl
     have hR2:(Instr.lookup 199 (.map (some mb)) (.int .i64 (q:Nat)) true).run Tryz.prog wr=.ok (.tuple #[.int .i64 (v:Nat),.bool true]) wr:=by
      rw[hM.lookup Tryz.underlying199 Tryz.underlying3 (Qr wr) (q:Nat) true]
      have h1:VJ f L (q:Nat)=some (.int .i64 (v:Nat)):=by
       unfold VJ
       rw[if_pos ⟨by omega,by rw[Int.toNat_natCast];exact(HL.out.2.2 q).2 ⟨z,by omega,hq.symm⟩⟩,Int.toNat_natCast,hv]
      rw[h1]
      rfl
     have HEZ:=hid (And.intro e1 (And.intro e2 e3))
     have HQV:=hid (And.intro hq (And.intro hq0 hv))
     have hzk:hyz f g (ns.take k) z=0:=by unfold hyz;rw[if_neg e3]
     have HZK:=hid hzk
     clear e1 e2 e3 hO hr1 hr2 hr3 hz hq hq0 hM hzk
     by_cases h0:v=0
     ·have HV:=hid (hv.symm.trans h0)
      clear hv
      subst h0
      go_wp2_with (refine zm rfl _ _ 199 3 rfl 3 3 Tryz.underlying199 Tryz.underlying3 pp _ rfl hP (z:Nat) rfl ?_;intro w7 hm7 hk7;have HM7:=hid hm7;have HK7:=hid hk7;clear hm7 hk7 hP c1 d0 hR1 hR2)
      go_roundg (N-(k+1))
      case measure=>omega
      case rel=>
       refine⟨k+1,by omega,by go_num,?_,⟨E2,HN.out.keep HK7.out (by have h:=HNE.out;rw[List.mem_singleton];exact fun e=>h.2.2 e.symm),?_⟩,?_⟩
       ·rw[HEZ.out.1,JS,<-HQV.out.1,HV.out,<-JG];exact HM7.out
       ·rw[HEZ.out.1,JR,<-HQV.out.1,HV.out,upd_same HZK.out];exact HPL2.out
       ·exact HK.out.trans (HK7.out.mono fun b _ h=>by rw[List.mem_singleton.1 h];simp)
     ·have HPUT:=hid (xaL wr ⟨tt,pp,nn⟩ m _ _ z v HB.out HP.out HN.out HNE.out)
      have HV:=hid hv
      have hv0:¬(v:Int)=0:=by omega
      clear hv hP
      go_wp2_with fail
      refine HPUT.out.mono ?_
      rintro e w7 ⟨rfl,hp7,hn7,hk7⟩
      have HP7:=hid hp7
      have HN7:=hid hn7
      have HK7:=hid hk7
      clear hp7 hn7 hk7 HPUT c1 d0 hR1 hR2
      go_wp2_with fail
      go_roundg (N-(k+1))
      case measure=>omega
      case rel=>
       refine⟨k+1,by omega,by go_num,?_,⟨_,HN7.out,?_⟩,?_⟩
       ·rw[HEZ.out.1,JS,<-HQV.out.1,<-HV.out,<-JE _ _ h0];exact HP7.out
       ·rw[HEZ.out.1,JR,<-HQV.out.1,<-HV.out]
        refine HPL2.out.set h0 (fun i hi=>?_) HZK.out
        have h1:i∈ns.take k:=by
         by_cases h:i∈ns.take k
         ·exact h
         ·unfold hyz at hi;rw[if_neg h]at hi;exact absurd hi.symm h0
        have h2:hyz f g (ns.take k) i=f (g i):=by unfold hyz;rw[if_pos h1]
        rw[h2]at hi
        have h3:=(HNS.out.2.2 i).1 (List.mem_of_mem_take h1)
        have h4:=HQV.out
        have h5:=HIN.out i z h3 (by rw[<-h4.1];exact h4.2.1) (by rw[hi,<-h4.1];exact h4.2.2) (by rw[hi];exact h0)
        exact HEZ.out.2.2 (h5▸h1)
       ·exact HK.out.trans HK7.out
    ·obtain rfl:k=N:=by omega
     go_wp2_with fail
     go_end0
     have htn:ns.take k=ns:=List.take_of_length_le (by have:=HNS.out.1;omega)
     have e1:hyb f g ns=mvd f g:=by
      funext n
      unfold hyb mvd
      by_cases h:g n=0
      ·rw[if_neg (fun hh=>(HNS.out.2.2 n).1 hh h),if_pos h,h]
      ·rw[if_pos ((HNS.out.2.2 n).2 h),if_neg h]
     have e2:hyz f g ns=mvd f g:=by
      funext n
      unfold hyz mvd
      by_cases h:g n=0
      ·rw[if_neg (fun hh=>(HNS.out.2.2 n).1 hh h),if_pos h]
      ·rw[if_pos ((HNS.out.2.2 n).2 h),if_neg h]
     have h1:=HP.out
     have h2:=HPL2.out
     rw[htn,e1]at h1
     rw[htn,e2]at h2
     refine⟨rfl,⟨HB.out,h1,⟨E2,HN.out,h2⟩,HNE.out,fun i hi=>?_,H.out.le⟩,⟨L,?_,HL.out.2.1,HL.out.2.2⟩,?_⟩
     ·unfold mvd at hi⊢
      by_cases h:g i=0
      ·rw[if_pos h]at hi;exact absurd rfl hi
      ·rw[if_neg h];have h3:=H.out.bd i h;have h4:=(HDM.out i h).2;omega
     ·refine hF.keep _ _ _ _ HJ6.out HK.out (fun b hb=>HAP.out b ?_)
      simp only[List.mem_cons,List.not_mem_nil,or_false]at hb⊢
      exact .inr hb
     ·refine HK6.out.trans (HK.out.mono fun b _ h=>?_)
      simp only[List.mem_cons,List.not_mem_nil,or_false]at h⊢
      rcases h with h|h
      ·exact .inl h
      ·exact .inr (.inl h)
end
end Go.Proofs.YtcdhklgahepcaaaGreat
