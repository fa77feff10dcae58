import Derived.Test.YtcdhklgahepcaaaGreatAwk17
import Derived.Test.YtcdhklgahepcaaaGreatHpn
set_option maxHeartbeats 8000000
set_option maxRecDepth 100000
namespace Go.Proofs.YtcdhklgahepcaaaGreat
open Go.RowKit Go.OpenShut
section
variable {H:HpC} {V:HpV} {A B:Nat} {n m1:Nat} {g1:Nat->Nat} {w:World}
theorem Gr2.only (hG:Gr2 H V A B) (hT:TabW w H.x V.m V.g) {i:Nat} (hi:V.g i≠0):i=1\/i=2:=by
 have h1:=hT.bd i hi
 have h2:=hG.m
 omega
theorem Gr2.tkB (hG:Gr2 H V A B) (hT:TabW w H.x V.m V.g) (h:TkP V.m V.g B n m1 g1):n=2/\m1=V.m/\g1=V.g:=by
 rcases h with⟨h,_⟩|⟨h0,h1,⟨rfl,rfl⟩|⟨_,_,_,h2⟩⟩
 ·exact absurd h hG.z.2
 ·rcases hG.only hT (by rw[h1];exact h0)with rfl|rfl
  ·rw[hG.ga]at h1;exact absurd h1 hG.ab
  ·exact⟨rfl,rfl,rfl⟩
 ·exact absurd hG.gb (h2 2)
theorem Gr2.tkA (hG:Gr2 H V A B) (hT:TabW w H.x V.m V.g) (h:TkP V.m V.g A n m1 g1):n=1/\m1=V.m/\g1=V.g:=by
 rcases h with⟨h,_⟩|⟨h0,h1,⟨rfl,rfl⟩|⟨_,_,_,h2⟩⟩
 ·exact absurd h hG.z.1
 ·rcases hG.only hT (by rw[h1];exact h0)with rfl|rfl
  ·exact⟨rfl,rfl,rfl⟩
  ·rw[hG.gb]at h1;exact absurd h1.symm hG.ab
 ·exact absurd hG.ga (h2 1)
theorem Gr2.tkD (hG:Gr2 H V A B) (hT:TabW w H.x V.m V.g) (h:TkP V.m (drG V.g 2) B n m1 g1):n=3/\m1=3/\g1=upd (upd V.g 2 0) 3 B:=by
 have e:drG V.g 2=upd V.g 2 0:=rfl
 rw[e]at h
 have h2:=hG.m
 rcases h with⟨h,_⟩|⟨h0,h1,⟨rfl,rfl⟩|⟨q1,q2,q3,_⟩⟩
 ·exact absurd h hG.z.2
 ·exfalso
  unfold upd at h1
  split at h1
  ·exact h0 h1.symm
  ·rename_i h3
   rcases hG.only hT (by rw[h1];exact h0)with rfl|rfl
   ·rw[hG.ga]at h1;exact hG.ab h1
   ·exact h3 rfl
 ·rw[h2]at q1 q2 q3
  exact⟨q1,q2,q3⟩
theorem Gr2.tkE (hG:Gr2 H V A B) (hT:TabW w H.x V.m V.g) (h:TkP 3 (upd (upd V.g 2 0) 3 B) B n m1 g1):n=3/\m1=3/\g1=upd (upd V.g 2 0) 3 B:=by
 rcases h with⟨h,_⟩|⟨h0,h1,⟨rfl,rfl⟩|⟨_,_,_,h2⟩⟩
 ·exact absurd h hG.z.2
 ·refine⟨?_,rfl,rfl⟩
  unfold upd at h1
  split at h1
  ·assumption
  ·exfalso
   split at h1
   ·exact h0 h1.symm
   ·rename_i h3
    rcases hG.only hT (by rw[h1];exact h0)with rfl|rfl
    ·rw[hG.ga]at h1;exact hG.ab h1
    ·exact h3 rfl
 ·exact absurd rfl (h2 3)
variable {w':World}
theorem Gr2.nz (hG:Gr2 H V A B):numA V.g 1=A/\numA V.g 2=B:=⟨hG.ga,hG.gb⟩
theorem Gr2.refA (h:HpW H (-1) V w) (hG:Gr2 H V A B):Calls Tryz.prog 40 #[ptr H.hb,.int .i64 1,.int .i64 0] w fun e w'=>e=.returned (.tuple #[.int .i64 2,.int .i64 0])/\HpW H (-1) V w'/\xe H.bl w w':=by
 obtain⟨t,ht,eA,n1,r1⟩:=hG.a
 refine(Wj h (by have:=hG.m;omega) (z:=1) (j:=0) (v:=B) ht (hG.nz.1.trans eA) (by omega) (by rw[<-eA];exact hG.na0)).mono ?_
 rintro e w' ⟨n,m1,g1,rfl,hk,h',hk'⟩
 obtain⟨rfl,rfl,rfl⟩:=hG.tkB h.tab hk
 exact⟨rfl,h',hk'⟩
theorem Gr2.refA1 (h:HpW H (-1) V w) (hG:Gr2 H V A B):Calls Tryz.prog 40 #[ptr H.hb,.int .i64 1,.int .i64 1] w fun e w'=>e=.returned (.tuple #[.int .i64 1,.int .i64 0])/\HpW H (-1) V w'/\xe H.bl w w':=by
 obtain⟨t,ht,eA,n1,r1⟩:=hG.a
 refine(Wj h (by have:=hG.m;omega) (z:=1) (j:=1) (v:=A) ht (hG.nz.1.trans eA) (by omega) (by rw[<-eA];exact hG.na1)).mono ?_
 rintro e w' ⟨n,m1,g1,rfl,hk,h',hk'⟩
 obtain⟨rfl,rfl,rfl⟩:=hG.tkA h.tab hk
 exact⟨rfl,h',hk'⟩
theorem Gr2.refB (h:HpW H (-1) V w) (hG:Gr2 H V A B):Calls Tryz.prog 40 #[ptr H.hb,.int .i64 2,.int .i64 0] w fun e w'=>e=.returned (.tuple #[.int .i64 1,.int .i64 0])/\HpW H (-1) V w'/\xe H.bl w w':=by
 obtain⟨t,ht,eB,n1,r1⟩:=hG.b
 refine(Wj h (by have:=hG.m;omega) (z:=2) (j:=0) (v:=A) ht (hG.nz.2.trans eB) (by omega) (by rw[<-eB];exact hG.nb)).mono ?_
 rintro e w' ⟨n,m1,g1,rfl,hk,h',hk'⟩
 obtain⟨rfl,rfl,rfl⟩:=hG.tkA h.tab hk
 exact⟨rfl,h',hk'⟩
theorem Gr2.root (h:HpW H (-1) V w) (hG:Gr2 H V A B):Calls Tryz.prog 41 #[ptr H.hb,.int .i64 0] w fun e w'=>e=.returned (.tuple #[.int .i64 2,.int .i64 0])/\HpW H (-1) V w'/\xe H.bl w w':=by
 refine(jB h (by have:=hG.m;omega) (j:=0) (by have:=h.ok.1;omega)).mono ?_
 rintro e w' ⟨n,m1,g1,rfl,hk,h',hk'⟩
 rw[hG.rt]at hk
 obtain⟨rfl,rfl,rfl⟩:=hG.tkB h.tab hk
 exact⟨rfl,h',hk'⟩
theorem Gr2.drop (h:HpW H (-1) V w) (hG:Gr2 H V A B):Calls Tryz.prog 42 #[ptr H.hb,.int .i64 2] w fun e w'=>e=.returned (.int .i64 0)/\HpW H (-1) { V with g:=drG V.g 2 } w'/\xe H.bl w w':=by
 refine(xaT w H.hb H.a.d H.c H.q.b H.x V.cv V.m V.g 2 h.ob h.tab).mono ?_
 rintro e w' ⟨rfl,hT,hk⟩
 have h1:drE V.g 2=0:=by unfold drE;rw[hG.nz.2,if_neg hG.z.2]
 rw[h1]
 refine⟨rfl,h.tabs hT hk fun n hn=>?_,hk.mono fun b _ hb=>bl_x hb⟩
 have e:drG V.g 2=upd V.g 2 0:=rfl
 rw[e]at hn⊢
 unfold upd at hn⊢
 split at hn
 ·exact absurd rfl hn
 ·rename_i h3
  rw[if_neg h3]
  exact h.hs n hn
theorem Gr2.root2 (h:HpW H (-1) { V with g:=drG V.g 2 } w) (hG:Gr2 H V A B) (hT:TabW w' H.x V.m V.g):Calls Tryz.prog 41 #[ptr H.hb,.int .i64 0] w fun e w'=>e=.returned (.tuple #[.int .i64 3,.int .i64 0])/\HpW H (-1) { V with m:=3,g:=upd (upd V.g 2 0) 3 B } w'/\xe H.bl w w':=by
 refine(jB h (by have:=hG.m;show V.m<_;omega) (j:=0) (by have:=h.ok.1;omega)).mono ?_
 rintro e w' ⟨n,m1,g1,rfl,hk,h',hk'⟩
 have hk2:TkP V.m (drG V.g 2) B n m1 g1:=by rw[<-hG.rt];exact hk
 obtain⟨rfl,rfl,rfl⟩:=hG.tkD hT hk2
 exact⟨rfl,h',hk'⟩
theorem Gr2.ref2 (h:HpW H (-1) { V with m:=3,g:=upd (upd V.g 2 0) 3 B } w) (hG:Gr2 H V A B) (hT:TabW w' H.x V.m V.g):Calls Tryz.prog 40 #[ptr H.hb,.int .i64 1,.int .i64 0] w fun e w'=>e=.returned (.tuple #[.int .i64 3,.int .i64 0])/\HpW H (-1) { V with m:=3,g:=upd (upd V.g 2 0) 3 B } w'/\xe H.bl w w':=by
 obtain⟨t,ht,eA,n1,r1⟩:=hG.a
 have hz:numA (upd (upd V.g 2 0) 3 B) 1=V.g 1:=rfl
 refine(Wj h (by show 3<1000;omega) (z:=1) (j:=0) (v:=B) ht (hz.trans (hG.ga.trans eA)) (by show 0<rL V.os t;omega) (by show V.S.now (H.c.frm V.k+posL V.os t+1+0)=_;rw[<-eA];exact hG.na0)).mono ?_
 rintro e w' ⟨n,m1,g1,rfl,hk,h',hk'⟩
 obtain⟨rfl,rfl,rfl⟩:=hG.tkE hT hk
 exact⟨rfl,h',hk'⟩
theorem Gr2.head (h:HpW H (-1) { V with m:=3,g:=upd (upd V.g 2 0) 3 B } w):Calls Tryz.prog 37 #[ptr H.hb,.int .i64 2] w fun e w'=>e=.returned (.tuple #[hdV 0 0,.int .i64 6])/\xe [] w w':=by
 refine(xct w H.hb 2 h.ob h.pw.dev h.hep h.ok h.n h.tab h.hs).mono ?_
 have hz:numA (upd (upd V.g 2 0) 3 B) 2=0:=rfl
 rintro e w' ⟨⟨_,rfl⟩|⟨i,hi,h1,_⟩,hk⟩
 ·exact⟨rfl,hk⟩
 ·rw[hz]at h1
  have:=xK (c:=H.c) V.k
  have:=xH H.c
  change 0=H.c.frm V.k+_ at h1
  omega
end
theorem Xw {H:HpC} {V:HpV} (hk:V.k=0) (ho:V.os= []++ [(2,2)]++ [(1,1)]) (hg:V.g=upd (upd (fun _=>0) (0+1) (H.c.frm 0+0)) (0+1+1) (H.c.frm 0+(0+(2+1)))):
  0<V.os.length/\1<V.os.length/\numA V.g 1=H.c.frm V.k+posL V.os 0/\0<rL V.os 0/\1<rL V.os 0/\numA V.g 2≠0/\numA V.g 1≠0/\numA V.g 2=H.c.frm V.k+posL V.os 1/\0<rL V.os 1/\numA V.g 1=H.c.frm 0/\numA V.g 2=H.c.frm 0+3:=by
 have h1:numA V.g 1=H.c.frm 0:=by rw[hg];rfl
 have h2:numA V.g 2=H.c.frm 0+3:=by rw[hg];rfl
 have h3:=xK (c:=H.c) 0
 have h4:=xH H.c
 refine⟨by rw[ho];decide,by rw[ho];decide,by rw[h1,hk,ho];rfl,by rw[ho];decide,by rw[ho];decide,by omega,by omega,by rw[h2,hk,ho];rfl,by rw[ho];decide,h1,h2⟩
theorem Vj (l r s:Nat) (b:Bool) (W:World) (hl:l≤65535) (hrr:r≤65535) (hs:s≤65535):
  Calls Tryz.prog 7 #[c3V l r s,.bool b] W fun e w'=>e=.returned (.bool true)/\Below W.heap.size W w':=by
 have HOPN:=hid (fun(w':World) (s':Nat) (hs':s'≤65535)=>vS w' l r s' hl hrr hs' none 0 0 (fun _=>0) (.inl rfl) (by omega))
 have hX:=At.new W (c3O l r s)
 have K0:=(xe.refl [] W).alloc (c3O l r s)
 go_enter Tryz.func7,Tryz.ntmps7
 go_upto_region 1 with fail
 obtain⟨w0,hw0⟩:∃w0,w0=W.alloc (c3O l r s):=⟨_,rfl⟩
 obtain⟨xb,hxb⟩:∃xb,xb=W.heap.size:=⟨_,rfl⟩
 rw[<-hw0]at hX K0⊢
 rw[<-hxb]at hX⊢
 have HXB:Hid (W.heap.size≤xb):=by show _≤_;omega
 clear hw0 hxb
 go_wp2_with fail
 refine(Y7 _).mono ?_
 rintro e w1 ⟨rfl,hb1⟩
 have k1:xe [] w0 w1:=Go.Proofs.YtcdhklgahepcaaaGreat.Below.keeps hb1 []
 have K1:=K0.trans k1
 have hX1:=k1.at hX (by simp)
 clear hb1 k1 K0 hX
 have x0:=hX1.cell 0 rfl
 have x1:=hX1.cell 1 rfl
 have x2:w1.cell? ⟨xb,2,none⟩=some (.int .u16 s):=hX1.cell 2 rfl
 have f2:=hX1.free 2
 go_upto_region 4 with fail
 have hX2:=hX1.set 2 (.int .u16 (IntKind.u16.wrap ((s:Int)+IntKind.u16.wrap (40-(s:Int)%90))))
 have k2:=(xe.refl [xb] w1).set (.inl (by simp)) (.int .u16 (IntKind.u16.wrap ((s:Int)+IntKind.u16.wrap (40-(s:Int)%90)))) (p:=⟨xb,2,none⟩)
 obtain⟨z,hz⟩:∃z,z=IntKind.u16.wrap ((s:Int)+IntKind.u16.wrap (40-(s:Int)%90)):=⟨_,rfl⟩
 obtain⟨w2,hw2⟩:∃w2,w2=w1.setCell ⟨xb,2,none⟩ (.int .u16 (IntKind.u16.wrap ((s:Int)+IntKind.u16.wrap (40-(s:Int)%90)))):=⟨_,rfl⟩
 rw[<-hw2]at hX2 k2⊢
 have hzb:0≤z/\z≤65535:=by
  rw[hz]
  have h1:=Int.emod_nonneg ((s:Int)+IntKind.u16.wrap (40-(s:Int)%90)) (show(65536:Int)≠0 by omega)
  have h2:=Int.emod_lt_of_pos ((s:Int)+IntKind.u16.wrap (40-(s:Int)%90)) (show(0:Int)<65536 by omega)
  have h3:IntKind.u16.wrap ((s:Int)+IntKind.u16.wrap (40-(s:Int)%90))=((s:Int)+IntKind.u16.wrap (40-(s:Int)%90))%65536:=rfl
  omega
 rw[<-hz]at hX2⊢
 obtain⟨s',rfl⟩:∃s':Nat,z=(s':Int):=⟨z.toNat,by omega⟩
 have hX3:At w2 xb (c3O l r s'):=by simpa using hX2
 have y0:=hX3.cell 0 rfl
 have y1:=hX3.cell 1 rfl
 have y2:=hX3.cell 2 rfl
 have HO2:=hid (HOPN.out w2 s' (by omega))
 have K2:=K1.new k2 fun b hb=>.inr (by rw[List.mem_singleton.1 hb];exact HXB.out)
 clear hz hzb hw2 hX1 hX2 hX3 k2 K1 x0 x1 x2 f2 HOPN
 go_wp2_with fail
 refine HO2.out.mono ?_
 rintro e w3 ⟨H,V,mb,rb,rfl,hO⟩
 have hO2:=hO.h
 obtain⟨v1,v2,v3,v4,v5,v6,v7,v8⟩:=hO.v
 obtain⟨u1,u2⟩:=hO.u
 have HC:Hid (1≤H.c.roots/\3≤H.c.log/\8≤H.c.space):=by rw[hO.hc];show _/\_/\_;unfold mk3;simp only;omega
 have HOW:Hid (∀b∈H.bl,W.heap.size≤b):=fun b hb=>by have h1:=hO.own b (List.mem_cons_of_mem _ hb);have h2:=K2.size;omega
 have K3:=K2.trans hO.keep
 have HBG:=hid (Wn hO2 v1 (by omega) (by omega) (by omega) v3)
 have HV:=hid (And.intro v2 (And.intro v3 (And.intro v4 (And.intro v5 (And.intro v6 (And.intro v7 (And.intro u1 (And.intro u2 (show V.rs.length=H.c.roots from hO2.hep.rl)))))))))
 clear hO hO2 v1 v2 v3 v4 v5 v6 v7 v8 u1 u2 HO2 K2 y0 y1 y2
 go_wp2_with fail
 refine HBG.out.mono ?_
 rintro e w4 ⟨rfl,V1,pl1,D1,h1,⟨⟨e1,e2,e3,e4,e5,e6⟩,e7⟩,r1,n1,s1,k4⟩
 obtain⟨v2,v3,v4,v5,v6,v7,u1,u2,v8⟩:=HV.out
 rw[v2]at e1
 rw[v3]at e2
 rw[v5]at e3
 rw[v6]at e4
 rw[v7]at e5
 have HA:=hid (Yn h1 s1 (by omega) (by omega) (by omega) 2 2 (by omega) (by omega) (by have:=HC.out;omega) (by have:=HC.out;omega))
 rw[e4]at HA
 have K4:=K3.new k4 fun b hb=>.inr (HOW.out b hb)
 have HV1:=hid (And.intro e1 (And.intro e2 (And.intro e3 (And.intro e5 (And.intro r1 (show V1.u≤203000/\V1.r≤1 by omega))))))
 clear e1 e2 e3 e4 e5 e6 e7 v2 v3 v4 v5 v6 v7 v8 u1 u2 HBG k4 K3 n1 r1 h1
 go_wp2_with fail
 refine HA.out.mono ?_
 rintro e w5 ⟨rfl,V2,m2,pl2,h2,⟨e1,e2,e3,e4,e5,e6,e7⟩,u2,n2,s2,a2,k5⟩
 obtain⟨v1,v2,v3,v4,v5,v6,v7⟩:=HV1.out
 rw[v1]at e1 e6
 rw[v2]at e2 e6
 rw[v3]at e4
 rw[v4]at e6
 rw[v5]at e3
 have hm2:m2≤1:=by rcases a2 with⟨h,_⟩|⟨h,_⟩<;>omega
 have HA2:=hid (Yn h2 s2 (by omega) (by omega) (by omega) 1 1 (by omega) (by omega) (by have:=HC.out;omega) (by have:=HC.out;omega))
 rw[e5]at HA2
 have K5:=K4.new k5 fun b hb=>.inr (HOW.out b hb)
 have HV2:=hid (And.intro e1 (And.intro e2 (And.intro e3 (And.intro e4 (And.intro e6 (And.intro hm2 (show V2.u≤503000/\V2.r≤1 by omega)))))))
 have HS2:=hid (And.intro s2 a2)
 clear e1 e2 e3 e4 e5 e6 e7 v1 v2 v3 v4 v5 v6 v7 u2 n2 a2 k5 K4 HA HV1 h2 s1 s2 hm2
 go_wp2_with fail
 refine HA2.out.mono ?_
 rintro e w6 ⟨rfl,V3,m3,pl3,h3,⟨e1,e2,e3,e4,e5,e6,e7⟩,u3,n3,s3,a3,k6⟩
 obtain⟨v1,v2,v3,v4,v5,v6,v7⟩:=HV2.out
 rw[v1]at e1 e6
 rw[v2]at e2 e6
 rw[v3]at e3
 rw[v4]at e4
 rw[v5]at e6
 have hm3:m3≤2:=by rcases a3 with⟨h,_⟩|⟨h,_⟩<;>omega
 have hP:=Xw e1 e4 e6
 have hf3:=h3.fits (t:=1) (by rw[e4];decide)
 rw[e4,e1]at hf3
 have HF:Hid (H.c.act+2≤H.c.frm 0/\H.c.root H.c.roots≤H.c.frm 0/\H.c.frm 0+5≤H.a.n):=⟨by have:=xK (c:=H.c) 0;have:=xH H.c;omega,xK 0,by have h1:=hf3.2.2.2.1;have h2:=hf3.2.2.2.2;have:nL ([]++ [(2,2)]++ [(1,1)]) 1=1:=rfl;have:posL ([]++ [(2,2)]++ [(1,1)]) 1=3:=rfl;omega⟩
 have HP1:=hid (jC h3 s3 (by omega) (by omega) (z:=1) (z2:=2) (t:=0) (j:=0) hP.1 hP.2.2.1 hP.2.2.2.1 hP.2.2.2.2.2.1)
 rw[show((0:Nat):Int)=0 from rfl]at HP1
 have K6:=K5.new k6 fun b hb=>.inr (HOW.out b hb)
 have HV3:=hid (And.intro e1 (And.intro e3 (And.intro e4 (And.intro e5 (And.intro e6 (And.intro hm3 (And.intro s3 (show V3.u≤803000/\V3.r≤1 by omega))))))))
 clear e1 e2 e3 e4 e5 e6 e7 v1 v2 v3 v4 v5 v6 v7 u3 n3 a3 k6 K5 HA2 HV2 h3 s3 hm3 hP hf3 HS2
 go_wp2_with fail
 refine HP1.out.mono ?_
 rintro e w7 ⟨rfl,V4,h4,⟨⟨e1,e2,e3,e4,e5,e6⟩,e7⟩,r4,s4,n4,k7⟩
 obtain⟨v1,v3,v4,v5,v6,v7,v8,v9⟩:=HV3.out
 have hP:=Xw v1 v4 v6
 rw[v1,hP.2.2.2.2.2.2.2.2.2.2]at n4
 rw[v1]at e1
 rw[v4]at e3 n4
 rw[v6]at e5
 rw[v5]at e4
 rw[v3]at r4
 rw[v8]at s4
 have q1:V4.S.now (H.c.frm 0+1+0)=((H.c.frm 0+3:Nat):Int):=by
  rw[n4 _ (by have:=HF.out;omega) (by have:=HF.out;omega),if_pos (show H.c.frm 0+1+0=H.c.frm 0+posL ([]++ [(2,2)]++ [(1,1)]) 0+1+0 from rfl)]
 have hP4:=Xw e1 e3 e5
 have HP2:=hid (jC h4 s4 (by omega) (by omega) (z:=1) (z2:=1) (t:=0) (j:=1) hP4.1 hP4.2.2.1 hP4.2.2.2.2.1 hP4.2.2.2.2.2.2.1)
 rw[show((1:Nat):Int)=1 from rfl]at HP2
 have K7:=K6.new k7 fun b hb=>.inr (HOW.out b hb)
 have HV4:=hid (And.intro e1 (And.intro r4 (And.intro e3 (And.intro e4 (And.intro e5 (And.intro v7 (And.intro s4 (And.intro q1 (show V4.u≤806000/\V4.r≤1 by omega)))))))))
 clear e1 e2 e3 e4 e5 e6 e7 v1 v3 v4 v5 v6 v7 v8 v9 r4 n4 k7 K6 HP1 HV3 h4 s4 hP hP4 q1
 go_wp2_with fail
 refine HP2.out.mono ?_
 rintro e w8 ⟨rfl,V5,h5,⟨⟨e1,e2,e3,e4,e5,e6⟩,e7⟩,r4,s4,n4,k7⟩
 obtain⟨v1,v3,v4,v5,v6,v7,v8,v9,v10⟩:=HV4.out
 have hP:=Xw v1 v4 v6
 rw[v1,hP.2.2.2.2.2.2.2.2.2.1]at n4
 rw[v1]at e1
 rw[v4]at e3 n4
 rw[v6]at e5
 rw[v5]at e4
 rw[v3]at r4
 rw[v8]at s4
 have hp0:posL ([]++ [(2,2)]++ [(1,1)]) 0=0:=rfl
 rw[hp0]at n4
 have q1:V5.S.now (H.c.frm 0+1+0)=((H.c.frm 0+3:Nat):Int):=by
  rw[n4 _ (by have:=HF.out;omega) (by have:=HF.out;omega),if_neg (by omega),v9]
 have q2:V5.S.now (H.c.frm 0+1+1)=((H.c.frm 0:Nat):Int):=by
  rw[n4 _ (by have:=HF.out;omega) (by have:=HF.out;omega),if_pos (by omega)]
 have hP4:=Xw e1 e3 e5
 have HP3:=hid (jC h5 s4 (by omega) (by omega) (z:=2) (z2:=1) (t:=1) (j:=0) hP4.2.1 hP4.2.2.2.2.2.2.2.1 hP4.2.2.2.2.2.2.2.2.1 hP4.2.2.2.2.2.2.1)
 rw[show((0:Nat):Int)=0 from rfl]at HP3
 have K8:=K7.new k7 fun b hb=>.inr (HOW.out b hb)
 have HV5:=hid (And.intro e1 (And.intro r4 (And.intro e3 (And.intro e4 (And.intro e5 (And.intro v7 (And.intro s4 (And.intro q1 (And.intro q2 (show V5.u≤809000/\V5.r≤1 by omega))))))))))
 clear e1 e2 e3 e4 e5 e6 e7 v1 v3 v4 v5 v6 v7 v8 v9 v10 r4 n4 k7 K7 HP2 HV4 h5 s4 hP hP4 q1 q2 hp0
 go_wp2_with fail
 refine HP3.out.mono ?_
 rintro e w9 ⟨rfl,V6,h6,⟨⟨e1,e2,e3,e4,e5,e6⟩,e7⟩,r4,s4,n4,k7⟩
 obtain⟨v1,v3,v4,v5,v6,v7,v8,v9,v10,v11⟩:=HV5.out
 have hP:=Xw v1 v4 v6
 rw[v1,hP.2.2.2.2.2.2.2.2.2.1]at n4
 rw[v1]at e1
 rw[v4]at e3 n4
 rw[v6]at e5
 rw[v5]at e4
 rw[v3]at r4
 rw[v8]at s4
 have hp0:posL ([]++ [(2,2)]++ [(1,1)]) 1=3:=rfl
 rw[hp0]at n4
 have q1:V6.S.now (H.c.frm 0+1+0)=((H.c.frm 0+3:Nat):Int):=by
  rw[n4 _ (by have:=HF.out;omega) (by have:=HF.out;omega),if_neg (by omega),v9]
 have q2:V6.S.now (H.c.frm 0+1+1)=((H.c.frm 0:Nat):Int):=by
  rw[n4 _ (by have:=HF.out;omega) (by have:=HF.out;omega),if_neg (by omega),v10]
 have q3:V6.S.now (H.c.frm 0+3+1+0)=((H.c.frm 0:Nat):Int):=by
  rw[n4 _ (by have:=HF.out;omega) (by have:=HF.out;omega),if_pos (by omega)]
 have hP4:=Xw e1 e3 e5
 have HRT:=hid (xaJ h6 s4 (by omega) (by omega) (z2:=2) (j:=0) (by have:=HC.out;omega) hP4.2.2.2.2.2.1 (by have:=HC.out;omega))
 rw[show((0:Nat):Int)=0 from rfl]at HRT
 have K9:=K8.new k7 fun b hb=>.inr (HOW.out b hb)
 have HV6:=hid (And.intro e1 (And.intro r4 (And.intro e3 (And.intro e4 (And.intro e5 (And.intro q3 (And.intro q1 (And.intro q2 (show V6.u≤812000/\V6.r≤1 by omega)))))))))
 clear e1 e2 e3 e4 e5 e6 e7 v1 v3 v4 v5 v6 v7 v8 v9 v10 v11 r4 n4 k7 K8 HP3 HV5 h6 s4 hP hP4 q1 q2 q3 hp0
 go_wp2_with fail
 refine HRT.out.mono ?_
 rintro e w10 ⟨rfl,V7,m7,pl7,h7,⟨⟨e1,e2,e3,e4,e5,e6⟩,e7⟩,r4,s4,n4,k7⟩
 obtain⟨v1,v3,v4,v5,v6,v7,v8,v9,v10⟩:=HV6.out
 have hP:=Xw v1 v4 v6
 rw[hP.2.2.2.2.2.2.2.2.2.2]at n4 r4
 rw[v1]at e1
 rw[v4]at e3
 rw[v6]at e5
 rw[v5]at e4
 rw[v3]at r4
 have hrt:H.c.root 0<H.c.root H.c.roots:=by have:=HC.out.1;unfold Cfg.root;omega
 have q1:V7.S.now (H.c.frm 0+1+0)=((H.c.frm 0+3:Nat):Int):=by
  rw[n4 _ (by have:=HF.out;omega) (by have:=HF.out;omega),if_neg (by have:=HF.out;omega),v8]
 have q2:V7.S.now (H.c.frm 0+1+1)=((H.c.frm 0:Nat):Int):=by
  rw[n4 _ (by have:=HF.out;omega) (by have:=HF.out;omega),if_neg (by have:=HF.out;omega),v9]
 have q3:V7.S.now (H.c.frm 0+3+1+0)=((H.c.frm 0:Nat):Int):=by
  rw[n4 _ (by have:=HF.out;omega) (by have:=HF.out;omega),if_neg (by have:=HF.out;omega),v7]
 have hrg:V7.rs.getD 0 0=H.c.frm 0+3:=by
  rw[r4]
  have h1:0<V.rs.length:=by rw[HV.out.2.2.2.2.2.2.2.2];exact HC.out.1
  simp[List.getD,h1]
 have HCM:=hid (Wm h7 s4 (by omega))
 have K10:=K9.new k7 fun b hb=>.inr (HOW.out b hb)
 have HV7:=hid (And.intro e1 (And.intro hrg (And.intro e3 (And.intro e4 (And.intro e5 (And.intro q3 (And.intro q1 (And.intro q2 (show V7.u≤815000/\V7.r≤1 by omega)))))))))
 clear e1 e2 e3 e4 e5 e6 e7 v1 v3 v4 v5 v6 v7 v8 v9 v10 r4 n4 k7 K9 HRT HV6 h7 s4 hP q1 q2 q3 hrt hrg
 go_wp2_with fail
 refine HCM.out.mono ?_
 rintro e w11 ⟨rfl,V8,h8,⟨e1,e2,e3,e4,e5,e6⟩,s8,n8,u8,r8,k7⟩
 obtain⟨v1,v3,v4,v5,v6,v7,v8,v9,v10⟩:=HV7.out
 have hG:Gr2 H V8 (H.c.frm 0) (H.c.frm 0+3):=by
  rw[v1]at e1
  rw[v4]at e4
  rw[v6]at e6
  have hP:=Xw e1 e4 e6
  have hz:=xK (c:=H.c) 0
  have hz2:=xH H.c
  refine⟨by omega,e5.trans v5,hP.2.2.2.2.2.2.2.2.2.1,hP.2.2.2.2.2.2.2.2.2.2,⟨by omega,by omega⟩,⟨0,hP.1,?_,?_,?_⟩,⟨1,hP.2.1,?_,?_,?_⟩,?_,?_,?_,by rw[e3];exact v3⟩
  ·rw[<-hP.2.2.1];exact hP.2.2.2.2.2.2.2.2.2.1.symm
  ·rw[e4];rfl
  ·rw[e4];rfl
  ·rw[<-hP.2.2.2.2.2.2.2.1];exact hP.2.2.2.2.2.2.2.2.2.2.symm
  ·rw[e4];rfl
  ·rw[e4];rfl
  ·rw[n8 _ (by have:=HF.out;omega) (by have:=HF.out;omega)];exact v8
  ·rw[n8 _ (by have:=HF.out;omega) (by have:=HF.out;omega)];exact v9
  ·rw[n8 _ (by have:=HF.out;omega) (by have:=HF.out;omega)];exact v7
 have HCL:=hid (xcy h8 s8 (by omega) (by omega) (by have:=hG.m;omega))
 have HH8:=hid h8
 have HG8:=hid hG
 have HU8:=hid (show V8.u≤818000/\V8.r≤2 by omega)
 have K11:=K10.new k7 fun b hb=>.inr (HOW.out b hb)
 clear e1 e2 e3 e4 e5 e6 v1 v3 v4 v5 v6 v7 v8 v9 v10 n8 u8 r8 s8 k7 K10 HCM HV7 h8 hG HV
 go_upto_region 11 with fail
 go_cut [104]from 99 to 104 (fun s104 wx=>s104=.bool false∧∃(V9:HpV) (A B:Nat),HpW H (-1) V9 wx∧Gr2 H V9 A B∧xe [] W wx)
 case first=>
  cases b
  ·go_wp2_with fail
   go_meet
   exact⟨rfl,V8,_,_,HH8.out,HG8.out,K11⟩
  ·go_wp2_with fail
   refine HCL.out.mono ?_
   rintro e w12 ⟨rfl,u',S',r',hC,h9,_,_,k12⟩
   obtain⟨A',B',hG'⟩:=HG8.out.col HH8.out hC h9
   have HE:=hid (show∃(V9:HpV) (A B:Nat),HpW H (-1) V9 w12/\Gr2 H V9 A B/\xe [] W w12 from⟨_,A',B',h9,hG',K11.new k12 fun b hb=>.inr (HOW.out b hb)⟩)
   clear hC h9 k12 hG'
   go_wp2_with fail
   go_meet
   exact⟨rfl,HE.out⟩
 case rest=>
  obtain⟨rfl,V9,A,B,h9,hG,K12⟩:=hcut
  clear HCL HH8 HG8 HU8 K11
  have HG:=hid hG
  have HTB:=hid h9.tab
  have HR:=hid (hG.refA h9)
  clear h9 hG
  go_wp2_with fail
  refine HR.out.mono ?_
  rintro e w13 ⟨rfl,h13,k⟩
  have K13:=K12.new k fun b hb=>.inr (HOW.out b hb)
  have HR:=hid (HG.out.refA1 h13)
  clear h13 k K12
  go_wp2_with fail
  refine HR.out.mono ?_
  rintro e w14 ⟨rfl,h14,k⟩
  have K14:=K13.new k fun b hb=>.inr (HOW.out b hb)
  have HR:=hid (HG.out.root h14)
  clear h14 k K13
  go_wp2_with fail
  refine HR.out.mono ?_
  rintro e w15 ⟨rfl,h15,k⟩
  have K15:=K14.new k fun b hb=>.inr (HOW.out b hb)
  have HR:=hid (HG.out.refB h15)
  clear h15 k K14
  go_wp2_with fail
  refine HR.out.mono ?_
  rintro e w16 ⟨rfl,h16,k⟩
  have K16:=K15.new k fun b hb=>.inr (HOW.out b hb)
  have HR:=hid (HG.out.drop h16)
  clear h16 k K15
  go_wp2_with fail
  refine HR.out.mono ?_
  rintro e w17 ⟨rfl,h17,k⟩
  have K17:=K16.new k fun b hb=>.inr (HOW.out b hb)
  have HR:=hid (Gr2.root2 h17 HG.out HTB.out)
  clear h17 k K16
  go_wp2_with fail
  refine HR.out.mono ?_
  rintro e w18 ⟨rfl,h18,k⟩
  have K18:=K17.new k fun b hb=>.inr (HOW.out b hb)
  have HR:=hid (Gr2.ref2 h18 HG.out HTB.out)
  clear h18 k K17
  go_wp2_with fail
  refine HR.out.mono ?_
  rintro e w19 ⟨rfl,h19,k⟩
  have K19:=K18.new k fun b hb=>.inr (HOW.out b hb)
  have HR:=hid (Gr2.head h19)
  clear h19 k K18
  go_wp2_with fail
  refine HR.out.mono ?_
  rintro e w20 ⟨rfl,k⟩
  have HE:=hid (show∀o,Below W.heap.size W (w20.alloc o)from fun o=>((K19.trans k).alloc o).below (Nat.le_refl _) (by simp))
  clear k K19
  go_wp2_with fail
  go_ret
  exact⟨rfl,HE.out _⟩
theorem Ze (l r s:Int) (b:Bool) (W:World) (wl:(Lit.int .u16 l).wf=true) (wr:(Lit.int .u16 r).wf=true) (ws:(Lit.int .u16 s).wf=true):
  Calls Tryz.prog 7 #[.agg #[.int .u16 l,.int .u16 r,.int .u16 s],.bool b] W fun e w'=>e=.returned (.bool true)/\Below W.heap.size W w':=by
 obtain⟨l,rfl,hl⟩:=XT wl
 obtain⟨r,rfl,hr⟩:=XT wr
 obtain⟨s,rfl,hs⟩:=XT ws
 exact Vj l r s b W hl hr hs
end Go.Proofs.YtcdhklgahepcaaaGreat
