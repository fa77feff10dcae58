import Derived.Test.YtcdhklgahepcaaaGreatCms
set_option maxHeartbeats 8000000
set_option maxRecDepth 100000
namespace Go.Proofs.YtcdhklgahepcaaaGreat
open Go.RowKit Go.OpenShut
theorem Zf (l r s:Nat) (y:Option Addr) (m cm:Nat) (G:Nat->Nat) (bits:Int) (W:World) (hl:l≤65535) (hrr:r≤65535) (hs:s≤65535) (hy:Reads W y m (fun i=>((G i:Nat):Int))) (hg:∀i,i<m->G i<18446744073709551616) (hm:m≤9223372036854775807):
  Calls Tryz.prog 8 #[c3V l r s,.slice y m cm,.int .u64 bits] W fun e w'=>e=.returned (.bool true)/\Below W.heap.size W w':=by
 have hmi:(m:Int)≤9223372036854775807:=by omega
 have HOPN:=hid (fun w':World=>vS w' l r s hl hrr hs none 0 0 (fun _=>0) (.inl rfl) (by omega))
 have HY:=hid hy
 have HG:=hid hg
 clear hy hg hm
 go_enter Tryz.func8,Tryz.ntmps8
 go_upto_region 1 with fail
 have hX:=(At.new W (c3O l r s)).alloc (VI bits)
 have hS:=At.new (W.alloc (c3O l r s)) (VI bits)
 have K0:=((xe.refl [] W).alloc (c3O l r s)).alloc (VI bits)
 simp only[World.size_alloc]at hS
 obtain⟨xb,hxb⟩:∃q,q=W.heap.size:=⟨_,rfl⟩
 obtain⟨sb,hsb⟩:∃q,q=W.heap.size+1:=⟨_,rfl⟩
 obtain⟨w0,hw0⟩:∃w0,w0=(W.alloc (c3O l r s)).alloc (VI bits):=⟨_,rfl⟩
 rw[<-hsb,<-hxb]
 rw[<-hxb]at hX
 rw[<-hsb]at hS
 rw[<-hw0]at hX hS K0⊢
 have HSB:Hid (W.heap.size≤sb):=by show _≤_;omega
 clear hxb hsb hw0
 go_wp2_with fail
 refine(Y7 _).mono ?_
 rintro e w1 ⟨rfl,hb1⟩
 have k1:xe [] w0 w1:=Go.Proofs.YtcdhklgahepcaaaGreat.Below.keeps hb1 []
 have K1:=K0.trans k1
 have hX1:=k1.at hX (by simp)
 have HS1:=hid (k1.at hS (by simp))
 clear hb1 k1 K0 hX hS
 have x0:=hX1.cell 0 rfl
 have x1:=hX1.cell 1 rfl
 have x2:=hX1.cell 2 rfl
 clear hX1
 by_cases hm7:m≤7
 case neg=>
  have g2:(7:Int)<(m:Int):=by omega
  have g3:decide ((7:Int)<(m:Int))=true:=decide_eq_true g2
  go_wp2_with fail
  go_ret
  exact⟨rfl,K1.below (Nat.le_refl _) (by simp)⟩
 have hm8:(m:Int)≤7:=by omega
 have g3:decide ((7:Int)<(m:Int))=false:=decide_eq_false (by omega)
 have HM7:=hid hm7
 clear hmi hm7
 have HO1:=hid (HOPN.out w1)
 go_wp2_with fail
 refine HO1.out.mono ?_
 rintro e w3 ⟨H,V,mb,rb,rfl,hO⟩
 have hO2:=hO.h
 obtain⟨v1,v2,v3,v4,v5,v6,v7,v8⟩:=hO.v
 obtain⟨u1,u2⟩:=hO.u
 have HC:Hid (1≤H.c.roots/\3≤H.c.log/\8≤H.c.space/\H.c.space≤100):=by rw[hO.hc];show _/\_/\_;unfold mk3;simp only;omega
 have HOW:Hid (∀b∈H.a.d::H.bl,W.heap.size≤b):=fun b hb=>by have h1:=hO.own b hb;have h2:=K1.size;omega
 have HSO:Hid (sb∉H.a.d::H.bl):=fun hb=>by have h1:=hO.own _ hb;have h2:=HS1.out.lt;omega
 have HMD:Hid (Md0 H.c mb rb w3):=by rw[hO.hc];exact hO.md
 have HAP:Hid (mb∉H.bl/\rb∉H.bl):=⟨fun h=>(hO.ap mb (by simp)).2 (List.mem_cons_of_mem _ h),fun h=>(hO.ap rb (by simp)).2 (List.mem_cons_of_mem _ h)⟩
 have K3:=K1.trans hO.keep
 have HS3:=hid (hO.keep.at HS1.out (by simp))
 have HBG:=hid (Wn hO2 v1 (by omega) (by omega) (by omega) v3)
 have HV:=hid (And.intro v2 (And.intro v3 (And.intro v4 (And.intro v5 (And.intro v6 (And.intro v7 (And.intro u1 (And.intro u2 (show V.rs.length=H.c.roots from hO2.hep.rl)))))))))
 clear hO hO2 v1 v2 v3 v4 v5 v6 v7 v8 u1 u2 HO1 HOPN K1 x0 x1 x2 HS1
 go_wp2_with fail
 refine HBG.out.mono ?_
 rintro e w4 ⟨rfl,V1,pl1,D1,h1,⟨⟨e1,e2,e3,e4,e5,e6⟩,e7⟩,r1,n1,s1,k4⟩
 obtain⟨v2,v3,v4,v5,v6,v7,u1,u2,v8⟩:=HV.out
 rw[v2]at e1
 rw[v3]at e2
 rw[v5]at e3
 rw[v6]at e4
 rw[v7]at e5
 have HA:=hid (Yn h1 s1 (by omega) (by omega) (by omega) m 0 (by have:=HM7.out;omega) (by omega) (by have:=HC.out;have:=HM7.out;omega) (by have:=HC.out;omega))
 rw[e4]at HA
 have K4:=K3.new k4 fun b hb=>.inr (HOW.out b (List.mem_cons_of_mem _ hb))
 have HMD4:=hid (HMD.out.keep k4 HAP.out.1 HAP.out.2)
 have HS4:=hid (k4.at HS3.out fun h=>HSO.out (List.mem_cons_of_mem _ h))
 have HV1:=hid (And.intro e1 (And.intro e2 (And.intro e3 (And.intro e5 (And.intro r1 (show V1.u≤203000/\V1.r≤1 by omega))))))
 clear e1 e2 e3 e4 e5 e6 e7 v2 v3 v4 v5 v6 v7 v8 u1 u2 HBG k4 K3 n1 r1 h1 HMD HS3
 go_wp2_with fail
 refine HA.out.mono ?_
 rintro e w5 ⟨rfl,V2,m2,pl2,h2,⟨e1,e2,e3,e4,e5,e6,e7⟩,u2,n2,s2,a2,k5⟩
 obtain⟨v1,v2,v3,v4,v5,v6⟩:=HV1.out
 rw[v1]at e1 e6
 rw[v2]at e2 e6
 rw[v3]at e4
 rw[v4]at e6
 rw[v5]at e3
 have hm2:m2≤1:=by rcases a2 with⟨h,_⟩|⟨h,_⟩<;>omega
 have hf:=h2.fits (t:=0) (by rw[e4];exact Nat.zero_lt_one)
 rw[e1]at hf
 have hg1:numA V2.g 1=H.c.frm 0:=by rw[e6];rfl
 have HRT:=hid (xaJ h2 s2 (by omega) (by omega) (z2:=1) (j:=0) (by have:=HC.out;omega) (by rw[hg1];have h1:=xK (c:=H.c) 0;have h2:=xH H.c;omega) (by have:=HC.out;omega))
 rw[show((0:Nat):Int)=0 from rfl,hg1]at HRT
 have K5:=K4.new k5 fun b hb=>.inr (HOW.out b (List.mem_cons_of_mem _ hb))
 have HM5:=HMD4.out.keep k5 HAP.out.1 HAP.out.2
 have HS5:=hid (k5.at HS4.out fun h=>HSO.out (List.mem_cons_of_mem _ h))
 have q2:w5.cell? ⟨mb,2,none⟩=some (.int .i64 H.c.space):=HM5.md.cell 2 rfl
 have g4:decide ((H.c.space:Int)<(m:Int)+1)=false:=decide_eq_false (by have:=HC.out;omega)
 have g5:(m:Int)+1≤(H.c.space:Int):=by have:=HC.out;omega
 have g6:(H.c.space:Int)≤100:=by have:=HC.out;omega
 have HV2:=hid (And.intro e1 (And.intro e2 (And.intro e3 (And.intro e4 (And.intro hg1 (And.intro e5 (And.intro hm2 (show V2.u≤503000/\V2.r≤1 by omega))))))))
 clear e1 e2 e3 e4 e5 e6 e7 v1 v2 v3 v4 v5 v6 u2 n2 a2 k5 K4 HA HV1 h2 s1 s2 hm2 hf hg1 HM5 HMD4 HS4
 go_wp2_with fail
 refine HRT.out.mono ?_
 rintro e w6 ⟨rfl,V3,m3,pl3,h3,⟨⟨e1,e2,e3,e4,e5,e6⟩,e7⟩,r3,s3,n3,k6⟩
 obtain⟨v1,v2,v3,v4,v5,v6,v7,v8,v9⟩:=HV2.out
 have hrg:V3.rs.getD 0 0=H.c.frm 0:=by
  rw[r3,v3]
  have h1:0<V.rs.length:=by rw[HV.out.2.2.2.2.2.2.2.2];exact HC.out.1
  simp[List.getD,h1]
 have hI:CmI H m G 0 520000 1 V3:=⟨e1.trans v1,by rw[e2,v2];omega,e3.trans v4,by rw[e5];exact v5,e4.trans v6,hrg,by omega,by omega,fun j hj=>absurd hj (Nat.not_lt_zero _)⟩
 have K6:=K5.new k6 fun b hb=>.inr (HOW.out b (List.mem_cons_of_mem _ hb))
 have HK6:=hid K6
 have HS6:=hid (k6.at HS5.out fun h=>HSO.out (List.mem_cons_of_mem _ h))
 have HI3:=hid (And.intro h3 (And.intro hI s3))
 clear e1 e2 e3 e4 e5 e6 e7 v1 v2 v3 v4 v5 v6 v7 v8 v9 r3 s3 n3 h3 k6 K5 K6 HRT HV2 HV HS5 hrg hI q2 g4 g5 g6
 go_wp2_with fail
 go_loopg [68] m (fun rr sl wr=>∃(i:Nat) (Vi:HpV),i+rr=m∧sl=.int .i64 (i:Nat)∧HpW H (-1) Vi wr∧CmI H m G i (520000+3000*(i:Int)) 1 Vi∧Vi.st=.opn m3 pl3 D1 0 V.rs V.os∧xe H.bl w6 wr)
 case atStart=>exact⟨0,V3,by omega,rfl,HI3.out.1,by simpa using HI3.out.2.1,HI3.out.2.2,xe.refl _ _⟩
 case round=>
  obtain⟨i,Vi,hi,rfl,hW,hI,hst,hk⟩:=hrel
  have hib:(i:Int)≤7:=by omega
  by_cases hlt:i<m
  ·have hlti:(i:Int)<(m:Int):=by omega
   have t1:decide ((i:Int)<(m:Int))=true:=decide_eq_true hlti
   have t2:decide (i<m)=true:=decide_eq_true hlt
   have HWR:=hid (hI.write (by omega) (by omega) hW hst hlt (HG.out i hlt))
   have HKR:=hid hk
   have HIE:=hid (And.intro hi hst)
   rcases HY.out with h0|⟨yb,off,rfl,hyl,hyc⟩
   ·omega
   have cy:wr.cell? ⟨yb,off+i,none⟩=some (.int .u64 (G i:Nat)):=by
    have h1:xe [] W wr:=HK6.out.new hk fun b hb=>.inr (HOW.out b (List.mem_cons_of_mem _ hb))
    rw[h1.cell hyl (by simp)]
    exact hyc i hlt
   clear hW hI hst hi hk
   go_wp2_with fail
   refine HWR.out.mono ?_
   rintro e w7 ⟨rfl,V7,h7,i7,s7,k7⟩
   go_wp2_with fail
   go_roundg (m-(i+1))
   case measure=>have:=HIE.out.1;omega
   case rel=>exact⟨i+1,V7,by have:=HIE.out.1;omega,by go_num,h7,by rw[show(520000:Int)+3000*((i+1:Nat):Int)=520000+3000*(i:Int)+3000 by omega];exact i7,s7.trans HIE.out.2,HKR.out.trans k7⟩
  ·have hlti:¬(i:Int)<(m:Int):=by omega
   have t1:decide ((i:Int)<(m:Int))=false:=decide_eq_false hlti
   have t2:decide (i<m)=false:=decide_eq_false hlt
   obtain rfl:i=m:=by omega
   have HCM:=hid (hI.commit hW hst (by omega) (Nat.le_refl _))
   have HK7:=hid hk
   clear hW hI hst hi hk HM7
   go_wp2_with fail
   refine HCM.out.mono ?_
   rintro e w8 ⟨rfl,V8,h8,i8,s8,k8⟩
   have K8:=HK7.out.trans k8
   have hS8:=K8.at HS6.out fun h=>HSO.out (List.mem_cons_of_mem _ h)
   have hds:=h8.pw.dev
   have hnb:=h8.n4
   have HCR:=hid (Y1 w8 H.p H.a V8.S hds 44 #[ptr sb] (chV bits) [sb] _ (vJ sb bits H.a.n (by omega)) hS8 (by
    have h1:∀b∈H.a.d::H.bl,b≠sb:=fun b hb e=>HSO.out (e▸hb)
    simp
    exact⟨h1 _ (by unfold HpC.bl Sc.bl;simp),h1 _ (by unfold HpC.bl Sc.bl;simp),h1 _ (by unfold HpC.bl Sc.bl;simp)⟩) (by simp;exact hS8.lt))
   have HI8:=hid (And.intro h8 (And.intro i8 s8))
   have HK8:=hid (HK6.out.new K8 fun b hb=>.inr (HOW.out b (List.mem_cons_of_mem _ hb)))
   clear h8 i8 s8 k8 K8 hS8 hds hnb HCM HK7
   go_wp2_with fail
   refine HCR.out.mono ?_
   rintro e w9 ⟨rfl,hD9,_,k9⟩
   have HRO:=hid (HI8.out.1.reopen HI8.out.2.2 (by have:=HI8.out.2.1.u;omega) (by have:=HI8.out.2.1.r;omega) (fun i=>chV bits i%3) hD9 k9)
   have HK9:=hid (HK8.out.new k9 fun b hb=>.inr (HOW.out b (by unfold HpC.bl Sc.bl;simp at hb⊢;omega)))
   have HWZ:Hid (W.heap.size≤w9.heap.size):=HK9.out.size
   clear hD9 k9 HCR
   go_wp2_with fail
   refine HRO.out.mono ?_
   rintro e w10 ⟨H2,V2,rfl,hO⟩
   obtain⟨b1,b2,b3,b4,b5,b6,b7⟩:=HI8.out.2.1.back HI8.out.1 HI8.out.2.2 _ hO
   have hbl4:∀b∈[H.p,H.a.s,H.a.k,H.a.m],W.heap.size≤b:=fun b hb=>HOW.out b (by unfold HpC.bl Sc.bl;simp only[List.mem_cons,List.not_mem_nil,or_false]at hb;rcases hb with e|e|e|e<;>simp[e])
   have HOW2:=hid (hO.own2 HWZ.out hbl4)
   have K10:=HK9.out.new hO.keep fun b hb=>.inr (hbl4 b hb)
   have HRT:=hid (jB hO.h (by omega) (j:=0) (by have:=hO.h.ok.1;omega))
   rw[show((0:Nat):Int)=0 from rfl,b4,b2,b3]at HRT
   have hfp:H2.c.frm 0≠0:=by have h1:=xK (c:=H2.c) 0;have h2:=xH H2.c;omega
   have HB:=hid (And.intro b1 (And.intro b5 (And.intro b6 (And.intro b7 hfp))))
   clear b1 b2 b3 b4 b5 b6 b7 hbl4 hfp hO HRO
   go_wp2_with fail
   refine HRT.out.mono ?_
   rintro e w11 ⟨n1,m1,g1,rfl,hT,h11,k11⟩
   obtain⟨rfl,rfl,rfl⟩:n1=1/\m1=1/\g1=upd (fun _=>0) 1 (H2.c.frm 0):=by
    rcases hT with⟨h,_⟩|⟨h,h2,⟨_,rfl⟩|⟨h3,h4,h5,_⟩⟩
    ·exact absurd h HB.out.2.2.2.2
    ·exact absurd h2.symm h
    ·exact⟨h3,h4,h5⟩
   obtain⟨V9,hV9⟩:∃V9:HpV,V9= { V2 with m:=1,g:=upd (fun _=>0) 1 (H2.c.frm 0) } :=⟨_,rfl⟩
   rw[<-hV9]at h11
   have HV9:=hid (show V9.us=i+1/\V9.k=0/\V9.os= [(i,0)]/\V9.m=1/\numA V9.g 1=H2.c.frm 0/\∀j,j<i->V9.S.now (H2.c.frm 0+1+j)=((G j:Nat):Int) by
    rw[hV9]
    exact⟨HB.out.1,HB.out.2.1,HB.out.2.2.1,rfl,rfl,HB.out.2.2.2.1⟩)
   have HK11:=hid (K10.new k11 fun b hb=>.inr (HOW2.out b hb))
   have HH11:=hid h11
   clear hT h11 k11 K10 HRT hV9 HB
   rw[show((1:Nat):Int)=1 from rfl]
   go_wp2_with fail
   go_loopg [104] i (fun rr sl wr=>∃j:Nat,j+rr=i∧sl=.int .i64 (j:Nat)∧xe [] w11 wr)
   case atStart=>exact⟨0,by omega,rfl,xe.refl _ _⟩
   case round=>
    obtain⟨j,hj,rfl,hk⟩:=hrel
    have hjb:(j:Int)≤7:=by omega
    by_cases hlt:j<i
    ·have hlti:(j:Int)<(i:Int):=by omega
     have t1:decide ((j:Int)<(i:Int))=true:=decide_eq_true hlti
     have t2:decide (j<i)=true:=decide_eq_true hlt
     have HRD:Hid (Calls Tryz.prog 45 #[ptr H2.hb,.int .i64 1,.int .i64 (j:Nat)] wr fun e w'=>e=.returned (.tuple #[.int .u64 (G j:Nat),.int .i64 0])/\xe [] wr w'):=by
      obtain⟨q1,q2,q3,q4,q5,q6⟩:=HV9.out
      have hp:posL V9.os 0=0:=by rw[q3];rfl
      exact xdX (HH11.out.keep0 hk) (z:=1) (t:=0) (j:=j) (y:=G j) (by rw[q3];exact Nat.zero_lt_one) (by rw[q5,q2,hp];rfl) (by rw[q3];exact Nat.zero_le _) (by rw[q3];exact hlt) (by rw[q2,hp];exact q6 j hlt)
     have HKR:=hid hk
     have HIE:=hid hj
     rcases HY.out with h0|⟨yb,off,rfl,hyl,hyc⟩
     ·omega
     have cy:wr.cell? ⟨yb,off+j,none⟩=some (.int .u64 (G j:Nat)):=by
      rw[(HK11.out.trans hk).cell hyl (by simp)]
      exact hyc j hlt
     clear hk hj hyc
     go_wp2_with fail
     refine HRD.out.mono ?_
     rintro e w12 ⟨rfl,k12⟩
     go_wp2_with fail
     go_roundg (i-(j+1))
     case measure=>have:=HIE.out;omega
     case rel=>exact⟨j+1,by have:=HIE.out;omega,by go_num,HKR.out.trans k12⟩
    ·have hlti:¬(j:Int)<(i:Int):=by omega
     have t1:decide ((j:Int)<(i:Int))=false:=decide_eq_false hlti
     have t2:decide (j<i)=false:=decide_eq_false hlt
     have HST:=hid (xaI (HH11.out.keep0 hk) (by have:=HV9.out.2.2.2.1;omega))
     rw[HV9.out.1]at HST
     obtain⟨sa,hsa⟩:∃sa:Int,sa=(szF V9.S (rcF V9.S H2.c V9.k (i+1) (V9.rs++plcL V9.m V9.g)):Nat):=⟨_,rfl⟩
     obtain⟨sc,hsc⟩:∃sc:Int,sc=((numL V9.m V9.g).length:Nat):=⟨_,rfl⟩
     obtain⟨sd,hsd⟩:∃sd:Int,sd=(V9.st.recs:Nat):=⟨_,rfl⟩
     unfold StaV at HST
     rw[<-hsa,<-hsc,<-hsd,show((i+1:Nat):Int)=(i:Int)+1 by omega]at HST
     have HKR:=hid (HK11.out.trans hk)
     have hf0:=xa7
     clear hk hj hsa hsc hsd
     go_wp2_with fail
     refine HST.out.mono ?_
     rintro e w12 ⟨rfl,k12⟩
     have HE:=hid ((HKR.out.trans k12).below (Nat.le_refl _) (by simp))
     clear k12
     go_wp2_with fail
     go_ret
     exact⟨rfl,HE.out⟩
theorem X8 (l r s:Int) (y:Option Addr) (m cm:Nat) (f:Nat->Int) (bits:Int) (W:World) (wl:(Lit.int .u16 l).wf=true) (wr:(Lit.int .u16 r).wf=true) (ws:(Lit.int .u16 s).wf=true)
  (R:ReadsV (Value.int .u64) W y m f) (hg:∀i,i<m->(Lit.int .u64 (f i)).wf=true) (hm:m≤maxLen) (_:(Lit.int .u64 bits).wf=true):
  Calls Tryz.prog 8 #[.agg #[.int .u16 l,.int .u16 r,.int .u16 s],.slice y m cm,.int .u64 bits] W fun e w'=>e=.returned (.bool true)/\Below W.heap.size W w':=by
 obtain⟨l,rfl,hl⟩:=XT wl
 obtain⟨r,rfl,hr⟩:=XT wr
 obtain⟨s,rfl,hs⟩:=XT ws
 have hb:∀i,i<m->0≤f i/\f i<18446744073709551616:=fun i hi=>by have:=bounds_u64 (hg i hi);omega
 refine Zf l r s y m cm (fun i=>(f i).toNat) bits W hl hr hs ?_ (fun i hi=>by have:=hb i hi;omega) (by unfold maxLen at hm;omega)
 rcases R with h|⟨b,off,rfl,hbl,hc⟩
 ·exact .inl h
 ·exact .inr ⟨b,off,rfl,hbl,fun i hi=>by rw[hc i hi];show _=some (Value.int .u64 (((f i).toNat:Nat):Int));rw[Int.toNat_of_nonneg (hb i hi).1]⟩
end Go.Proofs.YtcdhklgahepcaaaGreat
