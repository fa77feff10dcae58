import Derived.Test.YtaidmbdkbjgojaaGreatSmp
import Derived.Test.YtaidmbdkbjgojaaGreatAwk14
import Derived.BigQuiet
import Derived.Deep.RegionLaw
namespace Go.Proofs.YtaidmbdkbjgojaaGreat
open Go.RowKit Go.OpenShut
def prS (fv fw:Nat → Nat) (n:Nat):List (Nat × Nat):=(List.range n).map fun j => (fv j,fw j)
theorem prS_len (fv fw:Nat → Nat) (n:Nat):(prS fv fw n).length = n:=by simp [prS]
theorem prS_succ (fv fw:Nat → Nat) (n:Nat):prS fv fw n ++ [(fv n,fw n)] = prS fv fw (n + 1):=by simp [prS,List.range_succ]
structure SmI (LS PS:List Nat) (E Q:List (Nat × Nat)):Prop where
 q:∀ p ∈ Q,PairOk LS PS p.1 p.2
 e:∀ p ∈ E, ∃ t:Nat,LS[t]? = some p.1 ∧ PS[t]? = some p.2
 nd:(E.map (·.1)).Nodup
 b:Q.length ≤ 1000 + 64 * E.length
theorem SmI.start {LS PS:List Nat} {fv fw:Nat → Nat} {n:Nat} (hn:n ≤ 1000) (h:∀ i,i < n → PairOk LS PS (fv i) (fw i)):SmI LS PS [] (prS fv fw n) :=
 ⟨fun p hp => by obtain ⟨i,hi,rfl⟩:=List.mem_map.1 hp; exact h i (List.mem_range.1 hi),by simp,by simp,by rw [prS_len]; simp; omega⟩
theorem SmI.few {LS PS:List Nat} {E Q:List (Nat × Nat)} (h:SmI LS PS E Q):E.length ≤ LS.length:=sam_few h.e h.nd
theorem SmI.pop {LS PS:List Nat} {E Q:List (Nat × Nat)} {x:Nat × Nat} (h:SmI LS PS E (x :: Q)):SmI LS PS E Q ∧ PairOk LS PS x.1 x.2:=⟨⟨fun p hp => h.q p (by simp [hp]),h.e,h.nd,by have:=h.b; simp at this; omega⟩,h.q x (by simp)⟩
theorem SmI.go {LS PS:List Nat} {E Q:List (Nat × Nat)} (h:SmI LS PS E Q) {v u t r:Nat} (h1:LS[t]? = some v) (h2:PS[t]? = some u) (hno:∀ p ∈ E,p.1 ≠ v ∧ p.2 ≠ u) {fv fw:Nat → Nat} (hr:r ≤ 64)
  (hp:∀ i,i < r → PairOk LS PS (fv i) (fw i)):SmI LS PS (E ++ [(v,u)]) (Q ++ prS fv fw r):=by
 refine ⟨fun p hq => ?_,fun p hq => ?_, ?_, ?_⟩
 ·rcases List.mem_append.1 hq with hq | hq
  ·exact h.q p hq
  ·obtain ⟨i,hi,rfl⟩:=List.mem_map.1 hq
   exact hp i (List.mem_range.1 hi)
 ·rcases List.mem_append.1 hq with hq | hq
  ·exact h.e p hq
  ·have:=List.mem_singleton.1 hq
   subst this
   exact ⟨t,h1,h2⟩
 ·rw [List.map_append,List.nodup_append]
  refine ⟨h.nd,by simp,fun x hx y hy e => ?_⟩
  obtain ⟨p,hq,rfl⟩:=List.mem_map.1 hx
  have hy:y = v:=by simpa using hy
  exact (hno p hq).1 (by rw [e,hy])
 ·have:=h.b
  rw [List.length_append,List.length_append,prS_len]
  simp
  omega
set_option maxRecDepth 100000 in
set_option maxHeartbeats 4000000 in
theorem same14_at (w:World) (p1:Nat) (a1:DA) (S1:DS) (hD1:Dev w p1 a1 S1) (p2:Nat) (a2:DA) (S2:DS) (hD2:Dev w p2 a2 S2) (c:Cfg) (hc:c.Ok) (hn1:c.words = a1.n) (hn2:c.words = a2.n)
  (k1 u1 k2 u2:Nat) (hk1:k1 ≤ 1) (hk2:k2 ≤ 1) (hu1:u1 ≤ c.space) (hu2:u2 ≤ c.space) (rs1 rs2:Value)
  (hx1:∀ j:Nat,c.frm k1 ≤ j → j < c.frm k1 + u1 → ∃ x:Nat,S1.now j = (x:Int) ∧ x < 18446744073709551616)
  (hx2:∀ j:Nat,c.frm k2 ≤ j → j < c.frm k2 + u2 → ∃ x:Nat,S2.now j = (x:Int) ∧ x < 18446744073709551616)
  (LS PS:List Nat) (hS:SamI S1 S2 c k1 u1 k2 u2 LS PS) (hLS:LS.length ≤ 4096)
  (y1:Option Addr) (n cy1:Nat) (fv fw:Nat → Nat) (hr1:Reads w y1 n (fun i => (fv i:Int))) (y2:Option Addr) (cy2:Nat) (hr2:Reads w y2 n (fun i => (fw i:Int))) (hn:n ≤ 1000)
  (hp:∀ i,i < n → PairOk LS PS (fv i) (fw i)) :
  Calls Tryz.prog 24 #[ptr a1.d,cfgV c,bkV k1 u1 rs1, .slice y1 n cy1,ptr a2.d,bkV k2 u2 rs2, .slice y2 n cy2] w fun e w' => e = .returned (.bool true) ∧ Keeps [] w w':=by
 have hni:(n:Int) ≤ 1000:=by omega
 have HD1:=hid hD1
 have HD2:=hid hD2
 have HC:=hid (And.intro hc (And.intro hn1 hn2))
 have HK:=hid (And.intro hk1 (And.intro hk2 (And.intro hu1 hu2)))
 have HX1:=hid hx1
 have HX2:=hid hx2
 have HS:=hid hS
 have HLS:=hid hLS
 have HR1:=hid hr1
 have HR2:=hid hr2
 have HPP:=hid hp
 clear hD1 hD2 hc hn1 hn2 hk1 hk2 hu1 hu2 hx1 hx2 hS hLS hr1 hr2 hp hn
 go_enter Tryz.func24,Tryz.ntmps24
 go_upto_region 1 with fail
 have hC1:=((At.new w (cfgO c)).alloc (bkO k1 u1 rs1)).alloc (bkO k2 u2 rs2)
 have hA1:=(At.new (w.alloc (cfgO c)) (bkO k1 u1 rs1)).alloc (bkO k2 u2 rs2)
 have hB1:=At.new ((w.alloc (cfgO c)).alloc (bkO k1 u1 rs1)) (bkO k2 u2 rs2)
 have k01:=(((Keeps.refl [] w).alloc (cfgO c)).alloc (bkO k1 u1 rs1)).alloc (bkO k2 u2 rs2)
 simp only [World.size_alloc] at hA1 hB1
 obtain ⟨w1,hw1⟩:∃ w1,w1 = ((w.alloc (cfgO c)).alloc (bkO k1 u1 rs1)).alloc (bkO k2 u2 rs2):=⟨_,rfl⟩
 rw [← hw1] at hC1 hA1 hB1 k01
 first | rw [← hw1] | skip
 obtain ⟨cb,hcb⟩:∃ q,q = w.heap.size:=⟨_,rfl⟩
 obtain ⟨ab,hab⟩:∃ q,q = w.heap.size + 1:=⟨_,rfl⟩
 obtain ⟨bb,hbb⟩:∃ q,q = w.heap.size + 1 + 1:=⟨_,rfl⟩
 rw [← hbb, ← hab, ← hcb]
 rw [← hcb] at hC1
 rw [← hab] at hA1
 rw [← hbb] at hB1
 have HC1:=hid hC1
 have HA1:=hid hA1
 have HB1:=hid hB1
 have HK1:=hid k01
 clear hw1 hC1 hA1 hB1 k01 hcb hab hbb
 have hmk:=fun w:World => run_makeMap (P:=Tryz.prog) (w:=w) 128
 go_upto_region 4 with fail
 clear hmk
 have hT2:=(UMap.made w1).keep ((Keeps.refl [] _).alloc (.map #[] 0)) (by simp)
 have hF2:=UMap.made (w1.alloc (.map #[] 0))
 have k12:=((Keeps.refl [] w1).alloc (.map #[] 0)).alloc (.map #[] 0)
 simp only [World.size_alloc] at hF2
 obtain ⟨w2,hw2⟩:∃ w2,w2 = (w1.alloc (.map #[] 0)).alloc (.map #[] 0):=⟨_,rfl⟩
 rw [← hw2] at hT2 hF2 k12
 first | rw [← hw2] | skip
 obtain ⟨tb,htb⟩:∃ q,q = w1.heap.size:=⟨_,rfl⟩
 obtain ⟨fb,hfb⟩:∃ q,q = w1.heap.size + 1:=⟨_,rfl⟩
 rw [← hfb, ← htb]
 rw [← htb] at hT2
 rw [← hfb] at hF2
 have HT2:=hid hT2
 have HF2:=hid hF2
 have HC2:=hid (k12.at HC1.out (by simp))
 have HA2:=hid (k12.at HA1.out (by simp))
 have HB2:=hid (k12.at HB1.out (by simp))
 have HK2:=hid (HK1.out.trans k12)
 have HTF:Hid (tb + 1 = fb ∧ cb < tb ∧ ab < tb ∧ bb < tb ∧ w.heap.size ≤ tb ∧ fb < w2.heap.size):=by
  have h1:=HC1.out.lt
  have h2:=HA1.out.lt
  have h3:=HB1.out.lt
  have h4:=HK1.out.size
  have h5:=hF2.lt
  exact ⟨by omega,by omega,by omega,by omega,by omega,h5⟩
 clear hw2 hT2 hF2 k12 htb hfb HC1 HA1 HB1 HK1
 go_wp2_with fail
 go_loopg [17,40] n (fun rr s17 s40 wr => ∃ (i:Nat) (y:Option Addr) (cp:Nat),i + rr = n ∧ s40 = .int .i64 i ∧ s17 = .slice y i cp ∧ QueQ wr w2.heap.size y cp (prS fv fw i) ∧ Keeps [] w2 wr)
 case atStart => exact ⟨0,none,0,by omega,rfl,rfl,queQ_nil _ _,Keeps.refl _ _⟩
 case round =>
  obtain ⟨i,y,cp,hi,rfl,rfl,hQ,hK⟩:=hrel
  by_cases hin:i < n
  ·obtain ⟨g1,o1,rfl,hg1,hv1⟩:=HR1.out.resolve_left (by omega)
   obtain ⟨g2,o2,rfl,hg2,hv2⟩:=HR2.out.resolve_left (by omega)
   have hK0:=HK2.out.trans hK
   obtain ⟨v,hv⟩:∃ v,v = fv i:=⟨_,rfl⟩
   obtain ⟨u,hu⟩:∃ u,u = fw i:=⟨_,rfl⟩
   have d1:wr.cell? ⟨g1,o1 + i,none⟩ = some (.int .u64 (fv i:Nat)):=(hK0.cell hg1 (by simp)).trans (hv1 i hin)
   have d2:wr.cell? ⟨g2,o2 + i,none⟩ = some (.int .u64 (fw i:Nat)):=(hK0.cell hg2 (by simp)).trans (hv2 i hin)
   rw [← hv] at d1
   rw [← hu] at d2
   have hii:(i:Int) < (n:Int):=by omega
   have HG:Hid (g1 < wr.heap.size ∧ g2 < wr.heap.size):=⟨Nat.lt_of_lt_of_le hg1 hK0.size,Nat.lt_of_lt_of_le hg2 hK0.size⟩
   have HQ:=hid hQ
   have HKK:=hid hK
   have HII:=hid (And.intro hi (And.intro hin (And.intro hv hu)))
   clear hg1 hg2 hv1 hv2 hK0 hv hu hQ hK hi hin
   go_upto_region 8 with fail
   have hX5:=At.new wr (.cells #[.int .u64 (v:Nat), .int .u64 (u:Nat)] 131)
   have k45:Keeps [] wr (wr.alloc (.cells #[.int .u64 (v:Nat), .int .u64 (u:Nat)] 131)):=(Keeps.refl _ _).alloc _
   have hcX:=hX5.cell 0 rfl
   have hcY:=hX5.cell 1 rfl
   have HOX:=hid (HQ.out.keep k45 (by simp))
   have hBX:=Nat.le_trans HKK.out.size k45.size
   have hi1:i ≤ 1000000:=by omega
   have HIL:=hid (prS_len fv fw i).symm
   have e1:(wr.alloc (.cells #[.int .u64 (v:Nat), .int .u64 (u:Nat)] 131)).cell? ⟨g1,o1 + i,none⟩ = some (.int .u64 (v:Nat)):=(k45.cell HG.out.1 (by simp)).trans d1
   have e2:(wr.alloc (.cells #[.int .u64 (v:Nat), .int .u64 (u:Nat)] 131)).cell? ⟨g2,o2 + i,none⟩ = some (.int .u64 (u:Nat)):=(k45.cell HG.out.2 (by simp)).trans d2
   have HK45:=hid k45
   clear hX5 k45
   refine wp_region_noPanic ?_
   go_region_law (first
    | (refine appQ_step rfl _ _ rfl w2.heap.size y cp i _ HIL.out rfl HOX.out _ _ v u rfl hcX hcY hi1 hBX ?_; intro y9 cap9 w9 hQ9 hk9 hg9))
   all_goals
    refine NoPanic.normal ?_
    have HE:Hid (QueQ w9 w2.heap.size y9 cap9 (prS fv fw (i + 1)) ∧ Keeps [] w2 w9):=by
     have hii:=HII.out
     refine ⟨?_,(HKK.out.trans HK45.out).drew.new hk9 fun b hb => .inr (HQ.out.ge b hb).1⟩
     rw [← prS_succ, ← hii.2.2.1, ← hii.2.2.2]
     exact hQ9
    clear hQ9 hk9 hg9 hcX hcY hBX hi1 e1 e2 d1 d2
    simp [Act.put]
    go_wp2_with fail
    go_roundg (n - (i + 1))
    case measure => (have:=HII.out; omega)
    case rel => exact ⟨i + 1,y9,cap9,by have:=HII.out; omega,by go_num,rfl,HE.out⟩
  ·have hie:n = i:=by omega
   subst hie
   have HQ:=hid hQ
   have HKK:=hid hK
   clear hQ hK hi hin
   go_wp2_with fail
   have HTD:Hid (UMap wr tb (toD []) ∧ UMap wr fb (frD [])):=⟨HT2.out.keep HKK.out (by simp),HF2.out.keep HKK.out (by simp)⟩
   go_loopg [17] (n + 65 * LS.length) (fun rr s17 wv => ∃ (E Q:List (Nat × Nat)) (y:Option Addr) (cp m:Nat),SmI LS PS E Q ∧ m = Q.length ∧ Q.length + 65 * (LS.length - E.length) = rr ∧ s17 = .slice y m cp ∧ QueQ wv w2.heap.size y cp Q ∧ UMap wv tb (toD E) ∧ UMap wv fb (frD E) ∧ Keeps [tb,fb] w2 wv)
   case atStart => exact ⟨[],prS fv fw n,y,cp,n,SmI.start (by omega) HPP.out,(prS_len fv fw n).symm,by rw [prS_len]; rfl,rfl,HQ.out,HTD.out.1,HTD.out.2,HKK.out.mono (by simp)⟩
   case round =>
    obtain ⟨E,Q,y,cp,m,hI,hm,hmm,rfl,hQ,hTm,hFm,hK⟩:=hrel
    obtain ⟨w3,hw3⟩:∃ w3,w3 = wr:=⟨_,rfl⟩
    subst hw3
    cases Q with
    | nil =>
     have hm0:m = 0:=hm
     subst hm0
     have HE:Hid (Keeps [] w w3):=HK2.out.new hK (by have:=HTF.out; simp; omega)
     clear hI hm hmm hQ hTm hFm hK
     go_wp2_with fail
     go_ret
     exact ⟨rfl,HE.out⟩
    | cons x Q =>
     obtain ⟨v,u⟩:=x
     obtain ⟨g,off,hy,d1,d2,hcp,hcpm,hQ1⟩:=hQ.front
     subst hy
     have hI1:=hI.pop
     have hm1:0 < m:=by rw [hm]; simp
     obtain ⟨q,hq⟩:∃ q,m = q + 1:=⟨m - 1,by omega⟩
     subst hq
     have hqi:(0:Int) < ((q + 1:Nat):Int):=by omega
     have htl:=fun w => run_tail w g off q cp
     obtain ⟨y1,hy1⟩:∃ y1,y1 = (if cp = 1 then some ⟨g,off,none⟩ else some ⟨g,off + 2,none⟩:Option Addr):=⟨_,rfl⟩
     rw [← hy1] at hQ1
     simp only [← hy1] at htl
     have HY:=hid (And.intro hm (And.intro hmm hcp))
     have HI1:=hid hI1
     have HQ1:=hid hQ1
     have HTM:=hid hTm
     have HFM:=hid hFm
     have HKK:=hid hK
     clear hI hm hmm hQ hTm hFm hK hy1 hcp hcpm hQ1 hI1 hm1
     go_upto_region 13 with fail
     have hX4:=At.new w3 (.cells #[.int .u64 (v:Nat), .int .u64 (u:Nat)] 131)
     have k34:Keeps [] w3 (w3.alloc (.cells #[.int .u64 (v:Nat), .int .u64 (u:Nat)] 131)):=(Keeps.refl _ _).alloc _
     obtain ⟨w4,hw4⟩:∃ w4,w4 = w3.alloc (.cells #[.int .u64 (v:Nat), .int .u64 (u:Nat)] 131):=⟨_,rfl⟩
     obtain ⟨pb,hpb⟩:∃ q,q = w3.heap.size:=⟨_,rfl⟩
     rw [← hw4] at hX4 k34
     first | rw [← hw4] | skip
     rw [← hpb] at hX4
     rw [← hpb]
     have HX4:=hid hX4
     have HQ4:=hid (HQ1.out.keep k34 (by simp))
     have HT4:=hid (HTM.out.keep k34 (by simp))
     have HF4:=hid (HFM.out.keep k34 (by simp))
     have HK4:Hid (Keeps [tb,fb] w2 w4):=HKK.out.trans (k34.mono (by simp))
     have HPB:Hid (pb ≠ tb ∧ pb ≠ fb ∧ w2.heap.size ≤ pb ∧ ∀ b ∈ blkL y1,b < pb):=by
      have h1:=HKK.out.size
      have h2:=HTF.out
      refine ⟨by omega,by omega,by omega,fun b hb => ?_⟩
      have:=(HQ1.out.ge b hb).2
      omega
     clear hw4 hX4 k34 hpb d1 d2 htl hqi HQ1 HTM HFM HKK
     have x0:=HX4.out.cell 0 rfl
     have x1:=HX4.out.cell 1 rfl
     rcases HI1.out.2 with ⟨h1,h2⟩ | ⟨t,ht1,ht2⟩
     ·obtain rfl:v = 0:=h1
      obtain rfl:u = 0:=h2
      have HE:Hid (SmI LS PS E Q ∧ q = Q.length):=⟨HI1.out.1,by have:=HY.out.1; simp at this; omega⟩
      go_wp2_with fail
      go_roundg (Q.length + 65 * (LS.length - E.length))
      case measure => (have:=HY.out.2.1; simp at this; omega)
      case rel => exact ⟨E,Q,y1,cp - 1,q,HE.out.1,HE.out.2,rfl,by go_num,HQ4.out,HT4.out,HF4.out,HK4.out⟩
     ·have ht1:LS[t]? = some v:=ht1
      have ht2:PS[t]? = some u:=ht2
      have hpos:=HS.out.pos ht1 ht2
      have t1:((v:Int) == 0) = false:=by rw [beq_eq_false_iff_ne]; omega
      have t2:((u:Int) == 0) = false:=by rw [beq_eq_false_iff_ne]; omega
      have HTT:=hid (And.intro ht1 ht2)
      have hzz:(zeroValue 47).run Tryz.prog w4 = .ok (.int .u64 0) w4:=by kernel_rfl
      have l1:=HT4.out.lookup (P:=Tryz.prog) Tryz.underlying128 Tryz.underlying47 hzz (v:Nat) true
      have l2:=HF4.out.lookup (P:=Tryz.prog) Tryz.underlying128 Tryz.underlying47 hzz (u:Nat) true
      have hhad:=HS.out.had (E:=E) (fun p hp => .inr (HI1.out.1.e p hp)) (.inr ⟨t,ht1,ht2⟩:PairOk LS PS v u)
      clear hzz ht1 ht2 hpos
      rcases hhad with ⟨hno,h1,h2⟩ | ⟨h1,h2⟩
      ·have HNO:=hid hno
       rw [h1] at l1
       rw [h2] at l2
       simp only [Option.getD_none,Option.isSome_none,if_true] at l1 l2
       clear h1 h2 hno
       go_upto_region 21 with fail
       clear l1 l2 t1 t2
       go_cut [] from 113 to 122 (fun wx => UMap wx tb (toD (E ++ [(v,u)])) ∧ UMap wx fb (frD (E ++ [(v,u)])) ∧ Keeps [tb,fb] w4 wx)
       case first =>
        have kd:Keeps [] w4 w4.drew:=(Keeps.refl _ _).drew
        have htf:tb ≠ fb:=by have:=HTF.out; omega
        obtain ⟨wa,ra,hTa,ka⟩:=(HT4.out.keep kd (by simp)).update (P:=Tryz.prog) Tryz.underlying128 Tryz.underlying47 (v:Int) (.int .u64 (u:Nat))
        obtain ⟨we,re,hFe,ke⟩:=((HF4.out.keep kd (by simp)).keep ka (by simpa using htf.symm)).update (P:=Tryz.prog) Tryz.underlying128 Tryz.underlying47 (u:Int) (.int .u64 (v:Nat))
        obtain ⟨wc,rc,hFc,kc⟩:=(HF4.out.keep kd (by simp)).update (P:=Tryz.prog) Tryz.underlying128 Tryz.underlying47 (u:Int) (.int .u64 (v:Nat))
        obtain ⟨wg,rg,hTg,kg⟩:=((HT4.out.keep kd (by simp)).keep kc (by simpa using htf)).update (P:=Tryz.prog) Tryz.underlying128 Tryz.underlying47 (v:Int) (.int .u64 (u:Nat))
        have a0:=ka.at (kd.at HX4.out (by simp)) (by simpa using HPB.out.1)
        have a1x:=kc.at (kd.at HX4.out (by simp)) (by simpa using HPB.out.2.1)
        have x2:=a0.cell 0 rfl
        have x3:=a0.cell 1 rfl
        have x4:=a1x.cell 0 rfl
        have x5:=a1x.cell 1 rfl
        have HA:Hid (UMap we tb (toD (E ++ [(v,u)])) ∧ UMap we fb (frD (E ++ [(v,u)])) ∧ Keeps [tb,fb] w4 we):=by
         refine ⟨?_, ?_,((kd.mono (by simp)).trans (ka.mono (by simp +contextual))).trans (ke.mono (by simp +contextual))⟩
         ·rw [← toD_put E v u fun p hp => (HNO.out p hp).1]; exact hTa.keep ke (by simpa using htf)
         ·rw [← frD_put E v u fun p hp => (HNO.out p hp).2]; exact hFe
        have HB:Hid (UMap wg tb (toD (E ++ [(v,u)])) ∧ UMap wg fb (frD (E ++ [(v,u)])) ∧ Keeps [tb,fb] w4 wg):=by
         refine ⟨?_, ?_,((kd.mono (by simp)).trans (kc.mono (by simp +contextual))).trans (kg.mono (by simp +contextual))⟩
         ·rw [← toD_put E v u fun p hp => (HNO.out p hp).1]; exact hTg
         ·rw [← frD_put E v u fun p hp => (HNO.out p hp).2]; exact hFc.keep kg (by simpa using htf.symm)
        clear hTa ka hFe ke hFc kc hTg kg a0 a1x htf kd
        go_region
        all_goals
         first
          | (go_wp2_with fail; go_meet; exact HA.out)
          | (go_wp2_with fail; go_meet; exact HB.out)
       case rest =>
        obtain ⟨w5,hw5⟩:∃ w5,w5 = wc:=⟨_,rfl⟩
        subst hw5
        obtain ⟨hT5,hF5,hk5⟩:=hcut
        obtain ⟨nn,rr,ho1,ho2,hnm,hnu⟩:=HS.out.ob t v u HTT.out.1 HTT.out.2
        obtain ⟨f1,f2,f3,f4,f5,f6⟩:=ob_few ho1
        obtain ⟨g1,g2,g3,g4,g5,g6⟩:=ob_few ho2
        have hc:=HC.out
        have hkk:=HK.out
        have hfr1:=frm_le hc.1.small (show k1 ≤ 2 by omega)
        have hfr2:=frm_le hc.1.small (show k2 ≤ 2 by omega)
        have hsp:=hc.1.small.2.2
        have hfa1:c.frm k1 + c.space ≤ a1.n:=by rw [← hc.2.1]; exact frm_space k1 (by omega)
        have hfa2:c.frm k2 + c.space ≤ a2.n:=by rw [← hc.2.2]; exact frm_space k2 (by omega)
        have e1:IntKind.i64.wrap (v:Int) = (v:Int):=IntWalk.i64_in _ (by omega)
        have e2:IntKind.i64.wrap (u:Int) = (u:Int):=IntWalk.i64_in _ (by omega)
        have hK5:Keeps [tb,fb] w2 w5:=HK4.out.trans hk5
        have hK05:Keeps [] w w5:=HK2.out.new hK5 (by have:=HTF.out; simp; omega)
        have HD15:Hid (∀ w',Keeps [] w5 w' → Dev w' p1 a1 S1 ∧ Dev w' p2 a2 S2):=fun w' hk => ⟨HD1.out.keep (hK05.trans hk) (by simp) (by simp) (by simp) (by simp),HD2.out.keep (hK05.trans hk) (by simp) (by simp) (by simp) (by simp)⟩
        have HK05:=hid hK05
        have HOF1:=hid (of_ob w5 p1 a1 S1 (HD15.out _ (Keeps.refl _ _)).1 c hc.1 hc.2.1 k1 hkk.1 u1 hkk.2.2.1 rs1 (v:Nat) (by omega) HX1.out)
        have HOF2:=hid (fun w' (hk:Keeps [] w5 w') => of_ob w' p2 a2 S2 (HD15.out _ hk).2 c hc.1 hc.2.2 k2 hkk.2.1 u2 hkk.2.2.2 rs2 (u:Nat) (by omega) HX2.out)
        have HOB:=hid (And.intro ho1 ho2)
        have HNM:=hid hnm
        have HNU:=hid hnu
        have HFW:Hid (v + 1 + nn ≤ a1.n ∧ u + 1 + nn ≤ a2.n ∧ rr ≤ nn ∧ nn ≤ 64 ∧ c.frm k1 ≤ v ∧ v + 1 + nn ≤ c.frm k1 + u1 ∧ c.frm k2 ≤ u ∧ u + 1 + nn ≤ c.frm k2 + u2 ∧ v ≤ 100000 ∧ u ≤ 100000):=⟨by omega,by omega,f4,f3,f1,f2,g1,g2,by omega,by omega⟩
        have hX5:=hk5.at HX4.out (by simpa using ⟨HPB.out.1,HPB.out.2.1⟩)
        have HX5:=hid hX5
        have HQ5:=hid (HQ4.out.keep hk5 (by
         intro b hb
         have h1:=(HQ4.out.ge b hb).1
         have h2:=HTF.out
         simp
         omega))
        have HT5:=hid hT5
        have HF5:=hid hF5
        have HK5:=hid hK5
        have hcT:∀ b,b < tb → b ∉ [tb,fb]:=fun b hb => by have:=HTF.out; simp; omega
        have HC5:=hid (hK5.at HC2.out (hcT _ HTF.out.2.1))
        have HA5:=hid (hK5.at HA2.out (hcT _ HTF.out.2.2.1))
        have HB5:=hid (hK5.at HB2.out (hcT _ HTF.out.2.2.2.1))
        have c0:=HC5.out.cell 0 rfl
        have c1:=HC5.out.cell 1 rfl
        have c2:=HC5.out.cell 2 rfl
        have b0:=HA5.out.cell 0 rfl
        have b1:=HA5.out.cell 1 rfl
        have b2:=HA5.out.cell 2 rfl
        have x2:=HX5.out.cell 0 rfl
        clear hT5 hF5 hk5 ho1 ho2 hnm hnu f1 f2 f3 f4 f5 f6 g1 g2 g3 g4 g5 g6 hc hkk hfr1 hfr2 hsp hfa1 hfa2 hK5 hK05 hX5 hcT x0 x1 HX4 HQ4 HT4 HF4 HK4 ht1 ht2
        go_wp2_with fail
        refine HOF1.out.mono ?_
        rintro e w6 ⟨hO6,hk6⟩
        rcases hO6 with ⟨X2,n2,r2,hX2,hob2,rfl⟩ | ⟨hno,_⟩
        case inr =>
         have h1:=hno v rfl
         rw [HOB.out.1] at h1
         exact Bool.noConfusion h1
        obtain rfl:v = X2:=by omega
        rw [HOB.out.1] at hob2
        injection hob2 with hob2
        injection hob2 with h1 h2
        subst h1
        subst h2
        have hO7:=At.new w6 (obO (nn:Nat) (rr:Nat) (v:Nat))
        have k57:Keeps [] w5 (w6.alloc (obO (nn:Nat) (rr:Nat) (v:Nat))):=hk6.alloc _
        obtain ⟨ob1,hob1⟩:∃ q,q = w6.heap.size:=⟨_,rfl⟩
        obtain ⟨w7,hw7⟩:∃ w7,w7 = w6.alloc (obO (nn:Nat) (rr:Nat) (v:Nat)):=⟨_,rfl⟩
        have hob1w:w5.heap.size ≤ ob1:=by rw [hob1]; exact hk6.size
        rw [← hw7] at hO7 k57
        rw [← hob1] at hO7
        have HO7:=hid hO7
        have HK57:=hid k57
        have HOB1:=hid hob1w
        clear hX2 hO7 k57 hk6 hob1w c0 c1 c2 b0 b1 b2 x2 HOF1
        go_upto_region 23 with fail
        first | rw [← hw7] | skip
        first | rw [← hob1] | skip
        clear hw7 hob1
        have c0:=(HK57.out.at HC5.out (by simp)).cell 0 rfl
        have c1:=(HK57.out.at HC5.out (by simp)).cell 1 rfl
        have c2:=(HK57.out.at HC5.out (by simp)).cell 2 rfl
        have b0:=(HK57.out.at HB5.out (by simp)).cell 0 rfl
        have b1:=(HK57.out.at HB5.out (by simp)).cell 1 rfl
        have b2:=(HK57.out.at HB5.out (by simp)).cell 2 rfl
        have x3:=(HK57.out.at HX5.out (by simp)).cell 1 rfl
        go_wp2_with fail
        refine (HOF2.out w7 HK57.out).mono ?_
        rintro e w8 ⟨hO8,hk8⟩
        rcases hO8 with ⟨X2,n2,r2,hX2,hob2,rfl⟩ | ⟨hno,_⟩
        case inr =>
         have h1:=hno u rfl
         rw [HOB.out.2] at h1
         exact Bool.noConfusion h1
        obtain rfl:u = X2:=by omega
        rw [HOB.out.2] at hob2
        injection hob2 with hob2
        injection hob2 with h1 h2
        subst h1
        subst h2
        have hO9:=At.new w8 (obO (nn:Nat) (rr:Nat) (u:Nat))
        have k79:Keeps [] w7 (w8.alloc (obO (nn:Nat) (rr:Nat) (u:Nat))):=hk8.alloc _
        obtain ⟨ob2,hob2⟩:∃ q,q = w8.heap.size:=⟨_,rfl⟩
        obtain ⟨w9,hw9⟩:∃ w9,w9 = w8.alloc (obO (nn:Nat) (rr:Nat) (u:Nat)):=⟨_,rfl⟩
        have hob2w:w7.heap.size ≤ ob2:=by rw [hob2]; exact hk8.size
        rw [← hw9] at hO9 k79
        rw [← hob2] at hO9
        have HO9:=hid hO9
        have HO79:=hid (k79.at HO7.out (by simp))
        have HK59:=hid (HK57.out.trans k79)
        have HQ9:=hid ((HQ5.out.keep HK57.out (by simp)).keep k79 (by simp))
        have HYB:Hid (ob1 ∉ blkL y1 ∧ ob2 ∉ blkL y1):=by
         have h1:=HOB1.out
         have h2:=HK57.out.size
         exact ⟨fun h => by have:=(HQ5.out.ge _ h).2; omega,fun h => by have:=(HQ5.out.ge _ h).2; omega⟩
        clear hX2 hO9 k79 hk8 hob2w c0 c1 c2 b0 b1 b2 x3 HOF2
        go_upto_region 24 with fail
        first | rw [← hw9] | skip
        first | rw [← hob2] | skip
        clear hw9 hob2
        have o0:=HO79.out.cell 0 rfl
        have o1:=HO79.out.cell 1 rfl
        have q0:=HO9.out.cell 0 rfl
        have q1:=HO9.out.cell 1 rfl
        go_wp2_with fail
        clear o0 o1 q0 q1
        obtain ⟨fa,hfa⟩:∃ fa:Nat → Nat,fa = fun j => (S1.now (v + 1 + j)).toNat:=⟨_,rfl⟩
        obtain ⟨fe,hfe⟩:∃ fe:Nat → Nat,fe = fun j => (S2.now (u + 1 + j)).toNat:=⟨_,rfl⟩
        have HFA:=hid (And.intro hfa hfe)
        clear hfa hfe
        go_loopg [17,170] nn (fun rz s17 s170 wv => ∃ (i:Nat) (y:Option Addr) (cp m:Nat),i + rz = nn ∧ s170 = .int .i64 i ∧ s17 = .slice y m cp ∧ m = (Q ++ prS fa fe (min i rr)).length ∧ QueQ wv w2.heap.size y cp (Q ++ prS fa fe (min i rr)) ∧ (∀ b ∈ blkL y,b ∈ blkL y1 ∨ w9.heap.size ≤ b) ∧ Keeps (blkL y1) w9 wv)
        case atStart => exact ⟨0,y1,cp - 1,q,by omega,rfl,rfl,by have:=HY.out.1; simp [prS] at this ⊢; omega,by simpa [prS] using HQ9.out,fun b hb => .inl hb,Keeps.refl _ _⟩
        case round =>
         obtain ⟨i,y,cy,m,hi,rfl,rfl,hm,hQi,hbi,hKi⟩:=hrel
         obtain ⟨wA,hwA⟩:∃ wA,wA = wr:=⟨_,rfl⟩
         subst hwA
         have hKi0:Keeps [] w wA:=(HK05.out.trans HK59.out).new hKi (fun b hb => .inr (by
          have h1:=(HQ5.out.ge b hb).1
          have h2:=HK2.out.size
          omega))
         have hoa:=hKi.at HO79.out HYB.out.1
         have hob:=hKi.at HO9.out HYB.out.2
         by_cases hin:i < nn
         ·have hfw:=HFW.out
          obtain ⟨lx,hlx,hlb⟩:=HX1.out (v + 1 + i) (by omega) (by omega)
          obtain ⟨mx,hmx,hmb⟩:=HX2.out (u + 1 + i) (by omega) (by omega)
          have hii:(i:Int) < (nn:Int):=by omega
          have hvi:(v:Int) ≤ 100000:=by omega
          have hui:(u:Int) ≤ 100000:=by omega
          have hnni:(nn:Int) ≤ 64:=by omega
          have L0:=hid (load_quiet (HD1.out.keep hKi0 (by simp) (by simp) (by simp) (by simp)) ((v:Int) + 1 + (i:Int)) (v + 1 + i) (lx:Int) (by omega) (by omega) hlx)
          have L1:=hid (load_quiet (HD2.out.keep hKi0 (by simp) (by simp) (by simp) (by simp)) ((u:Int) + 1 + (i:Int)) (u + 1 + i) (mx:Int) (by omega) (by omega) hmx)
          have HII:=hid (And.intro hi (And.intro hm hin))
          have HLM:=hid (And.intro hlx hmx)
          have HQI:=hid hQi
          have HBI:=hid hbi
          have HKI:=hid hKi
          have HOA:=hid hoa
          have HOBB:=hid hob
          have o0:=hoa.cell 0 rfl
          have o1:=hoa.cell 1 rfl
          have o2:=hoa.cell 2 rfl
          have q0:=hob.cell 0 rfl
          have q1:=hob.cell 1 rfl
          have q2:=hob.cell 2 rfl
          clear hi hm hQi hbi hKi hKi0 hoa hob hfw hlx hlb hmx hmb hin
          go_upto_region 29 with fail
          go_quiet ((go_at_call 57; first | (with_reducible exact Calls.quiet_of_same (L0.out _)) | (with_reducible exact Calls.quiet_of_same (L1.out _))))
          have kq:Keeps [] wA (wA.drewN nq):=(Keeps.refl [] wA).drewN nq
          obtain ⟨wB,hwB⟩:∃ wB,wB = wA.drewN nq:=⟨_,rfl⟩
          rw [← hwB] at kq
          first | rw [← hwB] | skip
          have HQB:=hid (HQI.out.keep kq (by simp))
          have HKB:=hid (HKI.out.trans (kq.mono (by simp)))
          have HSZ:Hid (wA.heap.size ≤ wB.heap.size):=kq.size
          have HOAB:=hid (kq.at HOA.out (by simp))
          clear hwB kq o0 o1 o2 q0 q1 q2 L0 L1
          have o1:=HOAB.out.cell 1 rfl
          by_cases hir:i < rr
          ·have hiri:(i:Int) < (rr:Int):=by omega
           have hX5:=At.new wB (.cells #[.int .u64 (lx:Nat), .int .u64 (mx:Nat)] 131)
           have k45:Keeps [] wB (wB.alloc (.cells #[.int .u64 (lx:Nat), .int .u64 (mx:Nat)] 131)):=(Keeps.refl _ _).alloc _
           have hcX:=hX5.cell 0 rfl
           have hcY:=hX5.cell 1 rfl
           have HOX:=hid (HQB.out.keep k45 (by simp))
           have hBX:w2.heap.size ≤ (wB.alloc (.cells #[.int .u64 (lx:Nat), .int .u64 (mx:Nat)] 131)).heap.size:=by
            have h1:=HK5.out.size
            have h2:=HK59.out.size
            have h3:=HKB.out.size
            have h4:=k45.size
            omega
           have hi1:m ≤ 1000000:=by
            have h1:=HII.out.2.1
            have h2:=HI1.out.1.b
            have h3:=HI1.out.1.few
            have h4:=HLS.out
            rw [List.length_append,prS_len] at h1
            have h5:=HFW.out
            omega
           have HK45:=hid k45
           clear hX5 k45
           go_wp2_with (at_builtin; refine appQ_list rfl _ _ rfl w2.heap.size y cy m _ HII.out.2.1 rfl HOX.out _ _ lx mx rfl hcX hcY hi1 hBX ?_; intro y9 cap9 w10 hQ10 hk10 hg10)
           have HEN:Hid (m + 1 = (Q ++ prS fa fe (min (i + 1) rr)).length ∧ QueQ w10 w2.heap.size y9 cap9 (Q ++ prS fa fe (min (i + 1) rr)) ∧ (∀ b ∈ blkL y9,b ∈ blkL y1 ∨ w9.heap.size ≤ b) ∧ Keeps (blkL y1) w9 w10):=by
            have hfe:=HFA.out
            have e5:min (i + 1) rr = i + 1:=by omega
            have e6:min i rr = i:=by omega
            have hmm:=HII.out.2.1
            rw [e6] at hmm
            have e7:fa i = lx:=by rw [hfe.1]; show (S1.now (v + 1 + i)).toNat = lx; rw [HLM.out.1,Int.toNat_natCast]
            have e8:fe i = mx:=by rw [hfe.2]; show (S2.now (u + 1 + i)).toNat = mx; rw [HLM.out.2,Int.toNat_natCast]
            have hq:Q ++ prS fa fe (i + 1) = (Q ++ prS fa fe (min i rr)) ++ [(lx,mx)]:=by rw [← prS_succ,e7,e8,e6,List.append_assoc]
            refine ⟨?_, ?_, ?_,(HKB.out.trans (HK45.out.mono (by simp))).new hk10 (fun b hb => ?_)⟩
            ·rw [e5,hq,List.length_append, ← HII.out.2.1]; rfl
            ·rw [e5,hq]; exact hQ10
            ·intro b hb
             rcases hg10 with hg | hg
             ·rw [hg] at hb; exact HBI.out b hb
             ·have h1:=hg b hb
              have h2:=HKB.out.size
              have h3:=HK45.out.size
              exact .inr (by omega)
            ·exact HBI.out b hb
           clear hQ10 hk10 hg10 hcX hcY hBX hi1 o1
           go_wp2_with fail
           go_roundg (nn - (i + 1))
           case measure => (have:=HII.out; omega)
           case rel => exact ⟨i + 1,y9,cap9,m + 1,by have:=HII.out; omega,by go_num,rfl,HEN.out⟩
          ·have hiri:(rr:Int) ≤ (i:Int):=by omega
           obtain rfl:lx = mx:=by
            have h1:=HNU.out i (by omega) HII.out.2.2
            rw [HLM.out.1,HLM.out.2] at h1
            omega
           have HEN:Hid (m = (Q ++ prS fa fe (min (i + 1) rr)).length ∧ QueQ wB w2.heap.size y cy (Q ++ prS fa fe (min (i + 1) rr)) ∧ (∀ b ∈ blkL y,b ∈ blkL y1 ∨ w9.heap.size ≤ b) ∧ Keeps (blkL y1) w9 wB):=by
            have e5:min (i + 1) rr = min i rr:=by omega
            rw [e5]
            exact ⟨HII.out.2.1,HQB.out,HBI.out,HKB.out⟩
           go_wp2_with fail
           go_roundg (nn - (i + 1))
           case measure => (have:=HII.out; omega)
           case rel => exact ⟨i + 1,y,cy,m,by have:=HII.out; omega,by go_num,rfl,HEN.out⟩
         ·have hie:nn = i:=by omega
          have hfw:=HFW.out
          have e5:min i rr = rr:=by omega
          rw [e5] at hm hQi
          have hgo:SmI LS PS (E ++ [(v,u)]) (Q ++ prS fa fe rr):=by
           refine HI1.out.1.go HTT.out.1 HTT.out.2 HNO.out (by omega) fun j hj => ?_
           have h1:=HNM.out j hj
           rw [HFA.out.1,HFA.out.2]
           exact h1
          have hk95:Keeps [tb,fb] w2 wA:=(HK5.out.trans (HK59.out.mono (by simp))).new hKi (fun b hb => .inr (HQ5.out.ge b hb).1)
          have htb:tb ∉ blkL y1 ∧ fb ∉ blkL y1:=by
           have h2:=HTF.out
           exact ⟨fun h => by have:=(HQ5.out.ge _ h).1; omega,fun h => by have:=(HQ5.out.ge _ h).1; omega⟩
          have hTx:=(HT5.out.keep HK59.out (by simp)).keep hKi htb.1
          have hFx:=(HF5.out.keep HK59.out (by simp)).keep hKi htb.2
          have HGO:=hid (And.intro hgo (And.intro hm (And.intro hQi (And.intro hTx (And.intro hFx hk95)))))
          have HFE:=hid hie
          have o0:=hoa.cell 0 rfl
          clear hi hm hQi hbi hKi hKi0 hoa hob hfw hgo hk95 htb hTx hFx e5
          have hnf:¬ (i:Int) < (nn:Int):=by have:=HFE.out; omega
          clear hin hie
          go_wp2_with fail
          go_roundg ((Q ++ prS fa fe rr).length + 65 * (LS.length - (E ++ [(v,u)]).length))
          case measure =>
           have h1:=HY.out.2.1
           have h2:=HGO.out.1.few
           have h3:=HFW.out
           rw [List.length_append,List.length_append,prS_len]
           rw [List.length_append] at h2
           simp at h1 h2 ⊢
           omega
          case rel => exact ⟨E ++ [(v,u)],Q ++ prS fa fe rr,y,cy,m,HGO.out.1,HGO.out.2.1,rfl,rfl,HGO.out.2.2.1,HGO.out.2.2.2.1,HGO.out.2.2.2.2.1,HGO.out.2.2.2.2.2⟩
      ·rw [h1] at l1
       rw [h2] at l2
       simp only [Option.getD_some,Option.isSome_some,if_true] at l1 l2
       have HE:Hid (SmI LS PS E Q ∧ q = Q.length):=⟨HI1.out.1,by have:=HY.out.1; simp at this; omega⟩
       clear h1 h2
       go_wp2_with fail
       go_roundg (Q.length + 65 * (LS.length - E.length))
       case measure => (have:=HY.out.2.1; simp at this; omega)
       case rel => exact ⟨E,Q,y1,cp - 1,q,HE.out.1,HE.out.2,rfl,by go_num,HQ4.out,HT4.out,HF4.out,HK4.out⟩
end Go.Proofs.YtaidmbdkbjgojaaGreat
