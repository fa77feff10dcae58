import Derived.Test.YtglpoffbkkdjiaaGreatTbn
namespace Go.Proofs.YtglpoffbkkdjiaaGreat
open Go.RowKit Go.OpenShut Go.Maps Go.Sort Go.Shelf Go.Proofs
abbrev mboxB (b:Nat):Obj:=.cells #[.map (some b)] 32
theorem mkeysB_at (w:World) (b:Nat):Calls Tryz.prog 23 #[.map (some b)] w fun e w' => e = .returned (.func (.func 35) #[] #[ptr w.heap.size]) ∧ w.alloc (mboxB b) = w':=by
 refine (callsIn_wide (n:=6)).1 ((AnyZI.keys_in Tryz.keysB Fence.wide 6 trivial rfl (some b) w).mono ?_)
 rintro e w' ⟨rfl,rfl⟩
 exact ⟨rfl,rfl⟩
theorem sortedB_at (w:World) (b x:Nat) (D:Int → Option Value) (hm:IMap w b D) (hx:At w x (mboxB b)) (hB:∀ k v,D k = some v → 0 ≤ k ∧ k < 4000) :
  Calls Tryz.prog 22 #[.func (.func 35) #[] #[ptr x]] w fun e w' => ∃ (y:Option Addr) (ss:List Int) (cap:Nat),e = .returned (.slice y ss.length cap) ∧ KeysOf D ss ∧
   ReadsV (Value.int .i64) w' y ss.length (fun i => ss.getD i 0) ∧ (∀ b off,y = some ⟨b,off,none⟩ → w.heap.size ≤ b) ∧ Keeps [] w w':=by
 obtain ⟨D0,hown,hsz,hP⟩:=hm.owns (P:=Tryz.prog) hB 3 Tryz.underlying3
 have hseq:SeqGives Fence.wide 3 Tryz.prog 35 #[ptr x] encZ (fun ss => ss.Perm (intKeys D0)) (Maps.size D0) w :=
  AnyZI.keys_gives (ρ:=Tryz.keysB_ren) { Tryz.keysB with } Fence.wide _ trivial rfl (by omega) x b 4000 D0 _ hx.lt (hx.cell 0 rfl) hown
 have cS:=AnyZI.sorted_in Tryz.sortedA Fence.wide 6 trivial trivial trivial trivial rfl (by omega) (sorts_in _) (enters_of Tryz.func25 (by kernel_rfl) rfl) 35 #[ptr x] trivial (enters_of Tryz.func35 (by kernel_rfl) rfl) _ _ (by unfold maxLen; omega) (by omega) w hseq
 refine (callsIn_wide (n:=6)).1 (cS.mono ?_)
 rintro e w' ⟨v,ss,rfl,hS,hrow,hnil,hb⟩
 have hK:=(hP ss hS).perm (List.mergeSort_perm ss (fun x y => decide (x ≤ y)))
 have hl:(ss.mergeSort (fun x y => decide (x ≤ y))).length = ss.length:=List.length_mergeSort ss
 have kk:Keeps [] w w':=Go.Proofs.YtglpoffbkkdjiaaGreat.Below.keeps hb []
 rcases hrow.2 with ⟨rfl,hz⟩ | ⟨g,cap,cur,rfl,hbase,hg,r1,r2,r3,r4⟩
 ·exact ⟨none,_,0,by rw [hl,hz],hK, .inl (by rw [hl]; exact hz),by simp,kk⟩
 ·refine ⟨_,_,cap,by rw [hl],hK, .inr ⟨g,0,rfl,(Array.getElem?_eq_some_iff.1 hg).1,fun i hi => ?_⟩,fun b off e => by cases e; exact hbase,kk⟩
  have hi2:i < ss.length:=by omega
  have h1:cur.toList[i]? = ((ss.mergeSort (fun x y => decide (x ≤ y))).map encZ)[i]?:=by
   rw [← r4,List.getElem?_take_of_lt (by omega)]
  refine (show At w' g _ from hg).cell (0 + i) ?_
  rw [Nat.zero_add, ← Array.getElem?_toList,h1,List.getElem?_map]
  obtain ⟨tt,ht⟩:∃ tt,tt = ss.mergeSort (fun x y => decide (x ≤ y)):=⟨_,rfl⟩
  rw [← ht] at hi ⊢
  have e1:tt.getD i 0 = tt[i]:=by rw [List.getD_eq_getElem?_getD,List.getElem?_eq_getElem hi]; rfl
  rw [List.getElem?_eq_getElem hi]
  show some (encZ tt[i]) = some (.int .i64 (tt.getD i 0))
  rw [e1]
structure Mover (F:Nat) (cap:Array Value) (f:Nat → Nat) (own:List Nat) (dom:Nat → Prop) (J:List Nat → World → Prop):Prop where
 inv:∀ (w:World) (p:Int),(callFunc F (#[.int .i64 p] ++ cap)).run Tryz.prog w = .ok (.enter F (#[.int .i64 p] ++ cap)) w
 keep:∀ L w w' S,J L w → Keeps S w w' → (∀ b ∈ S,b ∉ own) → J L w'
 call:∀ L w (p:Nat),J L w → p ∉ L → dom p → Calls Tryz.prog F (#[.int .i64 (p:Nat)] ++ cap) w fun e w' => e = .returned (.int .i64 (f p:Nat)) ∧ J (L ++ [p]) w' ∧ Keeps own w w'
def wentM (f:Nat → Nat) (L:List Nat) (z:Int):Option Value:=if 0 ≤ z ∧ z.toNat ∈ L then some (.int .i64 (f z.toNat:Nat)) else none
theorem wentM_app (f:Nat → Nat) (L:List Nat) (p:Nat):(fun z:Int => if z = (p:Nat) then some (.int .i64 (f p:Nat)) else wentM f L z) = wentM f (L ++ [p]):=by
 funext z
 unfold wentM
 by_cases hz:z = (p:Nat)
 ·subst hz; rw [if_pos rfl,if_pos ⟨by omega,by simp⟩,Int.toNat_natCast]
 ·rw [if_neg hz]
  by_cases h:0 ≤ z ∧ z.toNat ∈ L
  ·rw [if_pos h,if_pos ⟨h.1,List.mem_append_left _ h.2⟩]
  ·rw [if_neg h,if_neg]
   rintro ⟨h1,h2⟩
   rcases List.mem_append.1 h2 with h2 | h2
   ·exact h ⟨h1,h2⟩
   ·have:=List.mem_singleton.1 h2; omega
def mvd (f g:Nat → Nat) (n:Nat):Nat:=if g n = 0 then 0 else f (g n)
section
variable {F:Nat} {cap:Array Value} {f:Nat → Nat} {own:List Nat} {dom:Nat → Prop} {J:List Nat → World → Prop}
def hyb (f g:Nat → Nat) (ns:List Nat) (n:Nat):Nat:=if n ∈ ns then f (g n) else g n
def hyz (f g:Nat → Nat) (ns:List Nat) (n:Nat):Nat:=if n ∈ ns then f (g n) else 0
theorem hyb_next (f g:Nat → Nat) (ns:List Nat) (k:Nat):hyb f g (ns ++ [k]) = upd (hyb f g ns) k (f (g k)):=by
 funext n
 unfold hyb upd
 by_cases h:n = k
 ·subst h; simp
 ·simp [h]
theorem hyz_next (f g:Nat → Nat) (ns:List Nat) (k:Nat):hyz f g (ns ++ [k]) = upd (hyz f g ns) k (f (g k)):=by
 funext n
 unfold hyz upd
 by_cases h:n = k
 ·subst h; simp
 ·simp [h]
theorem take_next {L:List Nat} {k:Nat} (hk:k < L.length) (hn:L.Nodup):L.take (k + 1) = L.take k ++ [L.getD k 0] ∧ L.getD k 0 ∈ L ∧ L.getD k 0 ∉ L.take k:=by
 have e:L.getD k 0 = L[k]:=by rw [List.getD_eq_getElem?_getD,List.getElem?_eq_getElem hk]; rfl
 rw [e]
 refine ⟨List.take_succ_eq_append_getElem hk,List.getElem_mem hk,fun h => ?_⟩
 have h1:=(List.take_append_drop k L).symm
 rw [h1,List.nodup_append] at hn
 refine hn.2.2 _ h _ ?_ rfl
 rw [List.drop_eq_getElem_cons hk]
 exact List.mem_cons_self
set_option maxRecDepth 100000 in
set_option maxHeartbeats 4000000 in
theorem hmoved_at (hF:Mover F cap f own dom J) (w:World) (x:Tb) (m:Nat) (g:Nat → Nat) (h:TabW w x m g) (hJ:J [] w) (hap:∀ b ∈ x.bl,b ∉ own) (hlt:∀ b ∈ own,b < w.heap.size) (hdom:∀ n,g n ≠ 0 → dom (g n) ∧ f (g n) < 4000)
  (hinj:∀ i j,g i ≠ 0 → g j ≠ 0 → f (g i) = f (g j) → f (g i) ≠ 0 → i = j) :
  Calls Tryz.prog 11 #[.pointer (some ⟨x.t,0,none⟩), .func (.func F) #[] cap] w fun e w' => e = .returned (.tuple #[]) ∧ TabW w' x m (mvd f g) ∧
   (∃ L:List Nat,J L w' ∧ L.Nodup ∧ ∀ p,p ∈ L ↔ ∃ n,g n ≠ 0 ∧ g n = p) ∧ Keeps (x.p :: x.n :: own) w w':=by
 have hinv:=hF.inv
 have hmk:=fun w:World => run_makeMap (P:=Tryz.prog) (w:=w) 32
 have H:=hid h
 have HJ:=hid hJ
 have HAP:=hid hap
 have HLT:=hid hlt
 have HDM:=hid hdom
 have HIN:=hid hinj
 have hk1:=Keeps.alloc (Keeps.refl [] w) (.map #[] 0)
 have hB1:=hk1.at h.box (by simp)
 have c2:=hB1.cell 2 rfl
 have hM1:=IMap.made w
 have HM1:=hid hM1
 have HK1:=hid hk1
 obtain ⟨mb,hmb⟩:∃ mb,mb = w.heap.size:=⟨_,rfl⟩
 obtain ⟨w1,hw1⟩:∃ w1,w1 = w.alloc (.map #[] 0):=⟨_,rfl⟩
 obtain ⟨tt,pp,nn⟩:=x
 dsimp only at *
 have HB1:=hid hB1
 rw [← hw1, ← hmb] at HM1
 rw [← hw1] at HK1 c2 HB1
 clear h hJ hap hlt hdom hinj hk1 hB1 hM1
 go_enter Tryz.func11,Tryz.ntmps11
 go_upto_region 1 with fail
 first | rw [← hw1, ← hmb] | skip
 obtain ⟨E,hE,hPl⟩:=H.out.nm
 have hE2:=hE.keep (HK1.out.trans (Keeps.alloc (Keeps.refl [] w1) (mboxB nn))) (by simp)
 have HS:=hid (sortedB_at _ nn w1.heap.size E hE2 (At.new w1 (mboxB nn)) (fun k v hk => by
  obtain ⟨n,h1,h2⟩:=hPl.2 _ _ hk
  have:=H.out.bd n h1; omega))
 have HPL:=hid hPl
 have HE:=hid hE
 have HW1:Hid (mb < w1.heap.size ∧ w.heap.size ≤ mb):=⟨by rw [hw1,hmb]; simp,by omega⟩
 have HKM:=hid (mkeysB_at w1 nn)
 clear hE2 hPl hE hmk hmb hw1
 go_wp2_with fail
 refine HKM.out.mono ?_
 rintro e w2 ⟨rfl,hw2⟩
 rw [hw2] at HS
 have hk2:Keeps [] w1 w2:=by rw [← hw2]; exact Keeps.alloc (Keeps.refl [] w1) (mboxB nn)
 have HK2:=hid hk2
 clear hw2 HKM hk2 c2
 go_wp2_with fail
 refine HS.out.mono ?_
 rintro e w3 ⟨y,ss,cp,rfl,hKO,hR,hyb,hk3⟩
 obtain ⟨L,hL⟩:∃ L,L = ss.map Int.toNat:=⟨_,rfl⟩
 obtain ⟨n,hn⟩:∃ n,n = ss.length:=⟨_,rfl⟩
 have hLn:L.length = n:=by rw [hL,hn,List.length_map]
 have hsL:∀ z,z ∈ ss → ∃ p:Nat,z = (p:Nat) ∧ ∃ i,g i ≠ 0 ∧ g i = p:=fun z hz => by
  obtain ⟨v,hv⟩:=Option.isSome_iff_exists.1 ((hKO.2 z).1 hz)
  obtain ⟨i,h1,h2⟩:=HPL.out.2 _ _ hv
  exact ⟨g i,h2,i,h1,rfl⟩
 have hnd:L.Nodup:=by
  rw [hL]
  refine List.pairwise_map.2 (hKO.1.imp_of_mem fun {a b} ha hb hne he => hne ?_)
  obtain ⟨p,rfl,_⟩:=hsL a ha
  obtain ⟨q,rfl,_⟩:=hsL b hb
  have h1:p = q:=by simpa using he
  omega
 have hLm:∀ p,p ∈ L ↔ ∃ i,g i ≠ 0 ∧ g i = p:=fun p => by
  rw [hL,List.mem_map]
  constructor
  ·rintro ⟨z,hz,rfl⟩
   obtain ⟨q,rfl,h⟩:=hsL z hz
   simpa using h
  ·rintro ⟨i,h1,rfl⟩
   exact ⟨(g i:Nat),(hKO.2 _).2 (by rw [HPL.out.1 i h1]; rfl),by simp⟩
 have hg:∀ i,ss.getD i 0 = ((L.getD i 0:Nat):Int):=fun i => by
  rw [hL]
  by_cases hi:i < ss.length
  ·obtain ⟨p,hp,_⟩:=hsL ss[i] (List.getElem_mem hi)
   simp [List.getD_eq_getElem?_getD,hi,hp]
  ·simp [List.getD_eq_getElem?_getD,hi]
 have hR':ReadsV (Value.int .i64) w3 y n (fun i => ((L.getD i 0:Nat):Int)):=by
  rw [hn]
  have:(fun i => ((L.getD i 0:Nat):Int)) = fun i => ss.getD i 0:=funext fun i => (hg i).symm
  rw [this]; exact hR
 have hbE:∀ k v,E k = some v → 0 ≤ k ∧ k < (4000:Nat):=fun k v hk => by
  obtain ⟨i,h1,h2⟩:=HPL.out.2 _ _ hk
  have:=H.out.bd i h1; omega
 have hni:n ≤ 4000:=by rw [hn]; exact hKO.len 4000 hbE
 rw [← hn]
 have HL:=hid (And.intro hLn (And.intro hnd hLm))
 have HR:=hid hR'
 have HYB:=hid hyb
 have hni2:(n:Int) ≤ 4000:=by omega
 have HK3:Hid (Keeps [] w1 w3):=hid (HK2.out.trans hk3)
 have HW2:Hid (mb < w2.heap.size ∧ w.heap.size ≤ w2.heap.size):=by have h1:=HW1.out; have h2:=HK2.out.size; show _ ∧ _; omega
 have HM3:=hid (HM1.out.keep HK3.out (by simp))
 have HJ3:=hid (hF.keep _ _ _ [] HJ.out (HK1.out.trans HK3.out) (by simp))
 clear hKO hbE hR hR' hyb hk3 hL hLn hsL hnd hLm hg hn hni HS HK2 HM1
 go_wp2_with fail
 go_loopg [6,19] n (fun r s6 s19 wr => ∃ k:Nat,k + r = n ∧ s19 = .int .i64 k ∧ IMap wr mb (wentM f (L.take k)) ∧ J (L.take k) wr ∧ Keeps (mb :: own) w3 wr)
 case atStart => exact ⟨0,by omega,rfl,HM3.out.congr fun k => by unfold wentM; rw [if_neg]; simp,HJ3.out,Keeps.refl _ _⟩
 case round =>
  obtain ⟨k,hk,rfl,hM,hJ,hK⟩:=hrel
  have HM:=hid hM
  have HJk:=hid hJ
  have HK:=hid hK
  clear hM hJ hK
  by_cases hlt:k < n
  ·have hlti:(k:Int) < (n:Int):=by omega
   obtain ⟨b,off,rfl,hb,hc⟩:∃ b off,y = some ⟨b,off,none⟩ ∧ b < w3.heap.size ∧ ∀ i,i < n → w3.cell? ⟨b,off + i,none⟩ = some (.int .i64 ((L.getD i 0:Nat):Int)):=by
    rcases HR.out with h | h
    ·omega
    ·exact h
   obtain ⟨e1,e2,e3⟩:=take_next (L:=L) (k:=k) (by have:=HL.out.1; omega) HL.out.2.1
   obtain ⟨q,hq⟩:∃ q,q = L.getD k 0:=⟨_,rfl⟩
   rw [← hq] at e1 e2 e3
   obtain ⟨i,hi0,hi⟩:=(HL.out.2.2 q).1 e2
   have hbw:b < wr.heap.size:=by have:=HK.out.size; omega
   have hbn:b ∉ mb :: own:=fun h => by
    have h1:=HYB.out b off rfl
    have h2:=HW2.out
    rcases List.mem_cons.1 h with h | h
    ·omega
    ·have:=HLT.out b h; omega
   have d0:wr.cell? ⟨b,off + k,none⟩ = some (.int .i64 (q:Nat)):=by
    rw [hq, ← hc k hlt]
    exact HK.out.cell (p:=⟨b,off + k,none⟩) hb hbn
   have HC:=hid (hF.call _ wr q HJk.out e3 (by rw [← hi]; exact (HDM.out i hi0).1))
   have HE1:=hid e1
   have HMO:Hid (mb ∉ own):=by have h1:=HW1.out; exact fun h => by have:=HLT.out mb h; omega
   clear hc e1 e2 e3 hq hi hi0 hb hbw hbn
   go_wp2_with fail
   refine HC.out.mono ?_
   rintro e w4 ⟨rfl,hJ4,hk4⟩
   have hM4:=HM.out.keep hk4 HMO.out
   have HJ4:=hid hJ4
   have HK4:=hid hk4
   clear hJ4 hk4 HC d0
   go_wp2_with (at_mapUpdate; refine wpList_update_at rfl _ _ _ _ rfl 3 3 Tryz.underlying32 Tryz.underlying3 mb _ rfl hM4 (q:Nat) _ rfl rfl ?_; intro w5 hm5 hk5; have HM5:=hid hm5; have HK5:=hid hk5; clear hm5 hk5 hM4)
   go_roundg (n - (k + 1))
   case measure => omega
   case rel =>
    refine ⟨k + 1,by omega,by go_num, ?_, ?_, ?_⟩
    ·rw [HE1.out, ← wentM_app]; exact HM5.out
    ·rw [HE1.out]; exact hF.keep _ _ _ _ HJ4.out HK5.out (fun b hb => by rw [List.mem_singleton.1 hb]; exact HMO.out)
    ·refine (HK.out.trans (HK4.out.mono fun b _ h => List.mem_cons_of_mem _ h)).trans (HK5.out.mono fun b _ h => ?_)
     rw [List.mem_singleton.1 h]; exact List.mem_cons_self
  ·obtain rfl:k = n:=by omega
   have htn:L.take k = L:=List.take_of_length_le (by have:=HL.out.1; omega)
   rw [htn] at HM HJk
   have hlow:∀ b ∈ (⟨tt,pp,nn⟩:Tb).bl,b ∉ mb :: own:=fun b hb h => by
    have h1:=H.out.lt b hb
    have h2:=HW1.out
    rcases List.mem_cons.1 h with h | h
    ·omega
    ·exact HAP.out b hb h
   have hKw:Keeps own w wr:=((HK1.out.trans HK3.out).mono (by simp)).new HK.out (fun b hb => by
    rcases List.mem_cons.1 hb with h | h
    ·exact .inr (by have:=HW1.out; omega)
    ·exact .inl h)
   have hTw:=H.out.keep hKw HAP.out
   have hBw:=hTw.box
   have hPw:=hTw.pm
   have hNw:=HE.out.keep hKw (HAP.out nn (by simp))
   have c2:=hBw.cell 2 rfl
   have HBw:=hid hBw
   have HPw:=hid hPw
   have HKw:=hid hKw
   have HNE:=hid H.out.ne
   clear hlow hTw hBw hPw hKw htn HK HM3 HJ3 HK3 HK1 HB1 HJ hk hlt
   go_wp2_with (refine wpList_clear_at rfl _ _ rfl 3 3 Tryz.underlying32 nn _ rfl hNw ?_; intro w5 hm5 hk5; have HM5:=hid hm5; have HK5:=hid hk5; clear hm5 hk5 hNw c2)
   have h5:tt ∉ [nn] ∧ pp ∉ [nn] ∧ mb ∉ [nn]:=by
    have h1:=HNE.out
    have h2:=H.out.lt nn (by simp)
    have h3:=HW1.out
    simp only [List.mem_singleton]
    omega
   have hB5:=HK5.out.at HBw.out h5.1
   have hP5:=HPw.out.keep HK5.out h5.2.1
   have hM5:=HM.out.keep HK5.out h5.2.2
   have hJ5:=hF.keep _ _ _ _ HJk.out HK5.out (fun b hb => by rw [List.mem_singleton.1 hb]; exact HAP.out nn (by simp))
   have HNum:=hid (hnumbers_raw w5 ⟨tt,pp,nn⟩ m g hB5 hP5 H.out.bd H.out.le)
   have HL5:Hid (∀ b ∈ [tt,pp,nn,mb],b < w5.heap.size):=hid (fun b hb => by
    have h1:=hB5.lt
    have h2:=hP5.lt
    have h3:=HM5.out.lt
    have h4:=hM5.lt
    simp only [List.mem_cons,List.not_mem_nil,or_false] at hb
    rcases hb with rfl | rfl | rfl | rfl <;> assumption)
   have HB5:=hid hB5
   have HP5:=hid hP5
   have HMM5:=hid hM5
   have HJ5:=hid hJ5
   clear hB5 hP5 hM5 hJ5 h5 HBw HPw HM HJk
   refine HNum.out.mono ?_
   rintro e w6 ⟨y2,cp2,rfl,hO6,hk6⟩
   obtain ⟨ns,hns⟩:∃ ns,ns = numL m g:=⟨_,rfl⟩
   rw [← hns] at hO6 ⊢
   obtain ⟨N,hN⟩:∃ N,N = ns.length:=⟨_,rfl⟩
   rw [← hN] at hO6 ⊢
   have hNi:(N:Int) ≤ 2000:=by have h1:=numL_len m g; have h2:=H.out.le; rw [hN,hns]; omega
   have HNS:Hid (ns.length = N ∧ ns.Nodup ∧ ∀ i,i ∈ ns ↔ g i ≠ 0):=hid ⟨hN.symm,by rw [hns]; exact (numL_rise m g).imp fun h => by omega,fun i => by rw [hns]; exact numL_mem H.out.bd i⟩
   have HO6:=hid hO6
   have HB6:=hid (hk6.at HB5.out (by simp))
   have HP6:=hid (HP5.out.keep hk6 (by simp))
   have HM6:=hid (HMM5.out.keep hk6 (by simp))
   have HN6:=hid (HM5.out.keep hk6 (by simp))
   have HJ6:=hid (hF.keep _ _ _ [] HJ5.out hk6 (by simp))
   have HK6:Hid (Keeps (pp :: nn :: own) w w6):=hid ((((HKw.out.mono (fun b _ h => List.mem_cons_of_mem _ (List.mem_cons_of_mem _ h))).trans (HK5.out.mono (fun b _ h => by rw [List.mem_singleton.1 h]; simp))).trans (hk6.mono (by simp))))
   clear hO6 hk6 hns hN HNum HB5 HP5 HMM5 HJ5 HM5 HK5 HKw
   go_wp2_with fail
   go_loopg [8,9,10,36] N (fun r s8 s9 s10 s36 wr => ∃ k:Nat,k + r = N ∧ s36 = .int .i64 k ∧ IMap wr pp (numD (hyb f g (ns.take k))) ∧ (∃ E,IMap wr nn E ∧ Pl (hyz f g (ns.take k)) E) ∧ Keeps [pp,nn] w6 wr)
   case atStart => exact ⟨0,by omega,rfl,HP6.out,⟨_,HN6.out,pl_nil⟩,Keeps.refl _ _⟩
   case round =>
    obtain ⟨k,hk,rfl,hP,⟨E2,hN,hPl⟩,hK⟩:=hrel
    have HP:=hid hP
    have HN:=hid hN
    have HPL2:=hid hPl
    have HK:=hid hK
    have hb:=hK.at HB6.out (by have h:=HNE.out; simp only [List.mem_cons,List.not_mem_nil,or_false]; omega)
    have c1:wr.cell? ⟨tt,1,none⟩ = some (.map (some pp)):=hb.cell 1 rfl
    have HB:=hid hb
    clear hN hPl hb
    by_cases hlt:k < N
    ·have hlti:(k:Int) < (N:Int):=by omega
     obtain ⟨e1,e2,e3⟩:=take_next (L:=ns) (k:=k) (by have:=HNS.out.1; omega) HNS.out.2.1
     have hO:=HO6.out.keep hK (fun b hb h => by
      have h1:=(HO6.out.ge b hb).1
      have h2:=HL5.out
      simp only [List.mem_cons,List.not_mem_nil,or_false] at h
      rcases h with rfl | rfl
      ·have:=h2 _ (show b ∈ [tt,b,nn,mb] by simp); omega
      ·have:=h2 _ (show b ∈ [tt,pp,b,mb] by simp); omega)
     obtain ⟨r,cur,rfl,hr1,hr2,hr3⟩:∃ r cur,y2 = some ⟨r,0,none⟩ ∧ w5.heap.size ≤ r ∧ At wr r (.cells cur 3) ∧ ∀ i,i < N → cur[i]? = some (.int .i64 (ns.getD i 0:Nat)):=by
      rcases hO.form with ⟨_,h⟩ | h
      ·omega
      ·exact h
     have d0:=hr2.cell k (hr3 k hlt)
     obtain ⟨z,hz⟩:∃ z,z = ns.getD k 0:=⟨_,rfl⟩
     rw [← hz] at e1 e2 e3 d0
     obtain ⟨q,hq⟩:∃ q,q = g z:=⟨_,rfl⟩
     have hq0:q ≠ 0:=by rw [hq]; exact (HNS.out.2.2 z).1 e2
     obtain ⟨v,hv⟩:∃ v,v = f q:=⟨_,rfl⟩
     have hM:=HM6.out.keep hK (by
      have h1:=H.out.lt pp (by simp)
      have h2:=H.out.lt nn (by simp)
      have h3:=HW1.out
      simp only [List.mem_cons,List.not_mem_nil,or_false]; omega)
     have hR1:(Instr.lookup 32 (.map (some pp)) (.int .i64 (z:Nat)) false).run Tryz.prog wr = .ok (.int .i64 (q:Nat)) wr:=by
      rw [hP.lookup Tryz.underlying32 Tryz.underlying3 (zeroI wr) (z:Nat) false]
      have h1:hyb f g (ns.take k) z = q:=by unfold hyb; rw [if_neg e3,hq]
      rw [numD_get,h1,if_pos hq0]
      rfl
     have hR2:(Instr.lookup 32 (.map (some mb)) (.int .i64 (q:Nat)) true).run Tryz.prog wr = .ok (.tuple #[.int .i64 (v:Nat), .bool true]) wr:=by
      rw [hM.lookup Tryz.underlying32 Tryz.underlying3 (zeroI wr) (q:Nat) true]
      have h1:wentM f L (q:Nat) = some (.int .i64 (v:Nat)):=by
       unfold wentM
       rw [if_pos ⟨by omega,by rw [Int.toNat_natCast]; exact (HL.out.2.2 q).2 ⟨z,by omega,hq.symm⟩⟩,Int.toNat_natCast,hv]
      rw [h1]
      rfl
     have HEZ:=hid (And.intro e1 (And.intro e2 e3))
     have HQV:=hid (And.intro hq (And.intro hq0 hv))
     have hzk:hyz f g (ns.take k) z = 0:=by unfold hyz; rw [if_neg e3]
     have HZK:=hid hzk
     clear e1 e2 e3 hO hr1 hr2 hr3 hz hq hq0 hM hzk
     by_cases h0:v = 0
     ·have HV:=hid (hv.symm.trans h0)
      clear hv
      subst h0
      go_wp2_with (refine wpList_delete_at rfl _ _ 32 3 rfl 3 3 Tryz.underlying32 Tryz.underlying3 pp _ rfl hP (z:Nat) rfl ?_; intro w7 hm7 hk7; have HM7:=hid hm7; have HK7:=hid hk7; clear hm7 hk7 hP c1 d0 hR1 hR2)
      go_roundg (N - (k + 1))
      case measure => omega
      case rel =>
       refine ⟨k + 1,by omega,by go_num, ?_,⟨E2,HN.out.keep HK7.out (by have h:=HNE.out; rw [List.mem_singleton]; exact fun e => h.2.2 e.symm), ?_⟩, ?_⟩
       ·rw [HEZ.out.1,hyb_next, ← HQV.out.1,HV.out, ← numD_del]; exact HM7.out
       ·rw [HEZ.out.1,hyz_next, ← HQV.out.1,HV.out,upd_same HZK.out]; exact HPL2.out
       ·exact HK.out.trans (HK7.out.mono fun b _ h => by rw [List.mem_singleton.1 h]; simp)
     ·have HPUT:=hid (hput_at wr ⟨tt,pp,nn⟩ m _ _ z v HB.out HP.out HN.out HNE.out)
      have HV:=hid hv
      have hv0:¬ (v:Int) = 0:=by omega
      clear hv hP
      go_wp2_with fail
      refine HPUT.out.mono ?_
      rintro e w7 ⟨rfl,hp7,hn7,hk7⟩
      have HP7:=hid hp7
      have HN7:=hid hn7
      have HK7:=hid hk7
      clear hp7 hn7 hk7 HPUT c1 d0 hR1 hR2
      go_wp2_with fail
      go_roundg (N - (k + 1))
      case measure => omega
      case rel =>
       refine ⟨k + 1,by omega,by go_num, ?_,⟨_,HN7.out, ?_⟩, ?_⟩
       ·rw [HEZ.out.1,hyb_next, ← HQV.out.1, ← HV.out, ← numD_set _ _ h0]; exact HP7.out
       ·rw [HEZ.out.1,hyz_next, ← HQV.out.1, ← HV.out]
        refine HPL2.out.set h0 (fun i hi => ?_) HZK.out
        have h1:i ∈ ns.take k:=by
         by_cases h:i ∈ ns.take k
         ·exact h
         ·unfold hyz at hi; rw [if_neg h] at hi; exact absurd hi.symm h0
        have h2:hyz f g (ns.take k) i = f (g i):=by unfold hyz; rw [if_pos h1]
        rw [h2] at hi
        have h3:=(HNS.out.2.2 i).1 (List.mem_of_mem_take h1)
        have h4:=HQV.out
        have h5:=HIN.out i z h3 (by rw [← h4.1]; exact h4.2.1) (by rw [hi, ← h4.1]; exact h4.2.2) (by rw [hi]; exact h0)
        exact HEZ.out.2.2 (h5 ▸ h1)
       ·exact HK.out.trans HK7.out
    ·obtain rfl:k = N:=by omega
     go_wp2_with fail
     go_end0
     have htn:ns.take k = ns:=List.take_of_length_le (by have:=HNS.out.1; omega)
     have e1:hyb f g ns = mvd f g:=by
      funext n
      unfold hyb mvd
      by_cases h:g n = 0
      ·rw [if_neg (fun hh => (HNS.out.2.2 n).1 hh h),if_pos h,h]
      ·rw [if_pos ((HNS.out.2.2 n).2 h),if_neg h]
     have e2:hyz f g ns = mvd f g:=by
      funext n
      unfold hyz mvd
      by_cases h:g n = 0
      ·rw [if_neg (fun hh => (HNS.out.2.2 n).1 hh h),if_pos h]
      ·rw [if_pos ((HNS.out.2.2 n).2 h),if_neg h]
     have h1:=HP.out
     have h2:=HPL2.out
     rw [htn,e1] at h1
     rw [htn,e2] at h2
     refine ⟨rfl,⟨HB.out,h1,⟨E2,HN.out,h2⟩,HNE.out,fun i hi => ?_,H.out.le⟩,⟨L, ?_,HL.out.2.1,HL.out.2.2⟩, ?_⟩
     ·unfold mvd at hi ⊢
      by_cases h:g i = 0
      ·rw [if_pos h] at hi; exact absurd rfl hi
      ·rw [if_neg h]; have h3:=H.out.bd i h; have h4:=(HDM.out i h).2; omega
     ·refine hF.keep _ _ _ _ HJ6.out HK.out (fun b hb => HAP.out b ?_)
      simp only [List.mem_cons,List.not_mem_nil,or_false] at hb ⊢
      exact .inr hb
     ·refine HK6.out.trans (HK.out.mono fun b _ h => ?_)
      simp only [List.mem_cons,List.not_mem_nil,or_false] at h ⊢
      rcases h with h | h
      ·exact .inl h
      ·exact .inr (.inl h)
end
end Go.Proofs.YtglpoffbkkdjiaaGreat
