import Derived.Test.YtcdhklgahepcaaaGreatSecM
import Derived.Test.YtcdhklgahepcaaaGreatObj
import Derived.Test.YtcdhklgahepcaaaGreatArgs
import Derived.Test.YtcdhklgahepcaaaGreatP6
import Derived.Maps.AppendAt
set_option maxHeartbeats 4000000
set_option maxRecDepth 100000
namespace Go.Proofs.YtcdhklgahepcaaaGreat
open Go.RowKit Go.OpenShut
theorem Qf (w:World):Calls Tryz.prog 255 #[] w fun e w'=>e=.returned (.bool true)/\Below w.heap.size w w':=by
 go_enter Tryz.func255,Tryz.ntmps255
 go_wp2_with fail
 refine(Qg _).mono ?_
 rintro e w1 ⟨rfl,hb1⟩
 have K1:xe [] w w1:=Go.Proofs.YtcdhklgahepcaaaGreat.Below.keeps hb1 []
 clear hb1
 go_wp2_with fail
 have hC2:At (w1.alloc (.cells #[.int .i64 3,.int .i64 1,.int .i64 8] 36)) w1.heap.size (cfgO exC):=At.new w1 (cfgO exC)
 have K2:=K1.alloc (.cells #[.int .i64 3,.int .i64 1,.int .i64 8] 36)
 have hz2:w.heap.size≤w1.heap.size:=K1.size
 refine(yt _ exC xX none 0 0 (fun _=>0) (.inl rfl) (by omega)).mono ?_
 rintro e w3 ⟨p,a,u,S,⟨rfl,hn,hP3,hu,hW,hkp,his,⟨b1,b2,b3,b4,b5⟩,hk3⟩,hold⟩
 simp only[World.size_alloc]at b1 b2 b3 b4 b5
 have hC3:=hk3.at hC2 (by simp)
 have K3:=K2.trans hk3
 have hLI:=LI.fresh (fun _=>0) (fun _=>0) xX hn hW hkp his
 have hn56:a.n=56:=by rw[<-hn,vk]
 have hz40:Hid (S.now 40=0):=hold 40 (by decide) (by omega)
 have HF:Hid (∀j,j<a.n->Fix S j (S.now j)):=fun j hj=>⟨rfl,hkp j hj,fun e=>by rw[his]at e;cases e⟩
 have HN:=hid hn
 have HLI:=hid hLI
 have HN56:=hid hn56
 clear hn hn56 hLI hW hkp his hC2 hk3 K2 K1 hold
 have c0:w3.cell? ⟨w1.heap.size,0,none⟩=some (.int .i64 3):=hC3.cell 0 rfl
 have c1:w3.cell? ⟨w1.heap.size,1,none⟩=some (.int .i64 1):=hC3.cell 1 rfl
 have c2:w3.cell? ⟨w1.heap.size,2,none⟩=some (.int .i64 8):=hC3.cell 2 rfl
 go_wp2_with fail
 refine(VO hP3 xX HN.out HLI.out.1 (by omega)).mono ?_
 rintro e w4 ⟨s,U,rfl,hS4,hU,hk4,n1,n2,n3,n4⟩
 have K4:=K3.trans hk4
 have hSh:=hid (Wu.mk HLI.out.1 (fun j _ hj=>HF.out j hj) hU)
 have HU:=hid hU
 have hz3:=K3.size
 have HB:Hid (∀b∈s.bl p a,w.heap.size≤b):=by
  unfold Sc.bl
  intro b hb
  simp only[List.mem_cons,List.not_mem_nil,or_false]at hb
  omega
 clear c0 c1 c2 hC3 hk4 hP3 n1 n2 n3 n4 hU K3 HF HLI b1 b2 b3 b4 b5
 have d0:=hS4.sec.cell 0 rfl
 go_wp2_with fail
 refine(Vx hS4 HU.out (by have:=HN56.out;omega) (by have:=HN56.out;omega) (by omega)).mono ?_
 rintro e w5 ⟨ss,hss,hr5⟩
 obtain⟨rfl,hS5,hk5⟩:=hr5.free hS4.lw.pw.lo
 have hl5:=HU.out.few (by have:=HN56.out;omega) hss
 have hO5:=hid (hSh.out.begin 0 0 ss)
 have K5:=K4.new hk5 (fun b hb=>.inr (HB.out b hb))
 obtain⟨S1,hS1⟩:∃S1,S1=xh S (kpC ss):=⟨_,rfl⟩
 obtain⟨u1,hu1⟩:∃u1,u1=u+((kpC ss).length:Int):=⟨_,rfl⟩
 have hub1:u1≤110000:=by rw[hu1,YR];omega
 rw[<-hS1]at hS5 hO5
 rw[<-hu1]at hS5
 clear hS1 hu1 hr5 hk5 hss hl5 K4 hS4 d0 hSh HU
 go_wp2_with fail
 refine(Zo hS5 xX HN.out hO5.out.lr (by omega) 40 5 (by have:=HN56.out;exact⟨by decide,by omega⟩) (by decide) rfl (by decide) (by omega)).mono ?_
 intro e w6 hr6
 obtain⟨rfl,hS6,hk6⟩:=hr6.free hS5.lw.pw.lo
 have hlen:=Ws (st:=false) (m:=0) xX (eN 1 0) 40 (S1.now 40)
 have hO6:=hid ((hO5.out.new (st:=false) (i:=40) (by have:=HN56.out;exact⟨by decide,by omega⟩) (by decide) (by decide) (fun _ hk=>absurd hk (Nat.not_lt_zero _))).store 5 (by have:=HN56.out;exact⟨by decide,by omega⟩) (.inr ⟨0,by omega,xO _ _ _⟩))
 rw[<-xg]at hO6
 have K6:=K5.new hk6 (fun b hb=>.inr (HB.out b hb))
 obtain⟨S2,hS2⟩:∃S2,S2=xh S1 (appL exC false false 0 (eN 1 0) 40 (S1.now 40)++ [.st 40 5]):=⟨_,rfl⟩
 have h5:Hid (S2.now 40=5):=by show _=_;rw[hS2,xg,Zl,if_pos rfl]
 obtain⟨u2,hu2⟩:∃u2,u2=u1+((appL exC false false 0 (eN 1 0) 40 (S1.now 40)++ [Cmd.st 40 5]).length:Int):=⟨_,rfl⟩
 have hub2:u2≤120000:=by rw[hu2,List.length_append];simp;omega
 rw[<-hS2]at hS6 hO6
 rw[<-hu2]at hS6
 clear hS2 hu2 hr6 hk6 hlen K5 hS5 hO5
 go_wp2_with fail
 refine(zn w6 p a S2 40 hS6.lw.pw.dev (by have:=HN56.out;omega)).mono ?_
 rintro e w7 ⟨rfl,rfl⟩
 rw[h5.out]
 go_wp2_with fail
 refine(xbA hS6 hO6.out.uin xX HN.out hO6.out.lr (by omega)).mono ?_
 rintro e w7 ⟨tt,htt,hr7⟩
 obtain⟨rfl,hS7,hk7⟩:=hr7.free hS6.lw.pw.lo
 have h0:=(hO6.out.abort (st:=true) htt).2 40 (by decide) (by have:=HN56.out;omega)
 have K7:=K6.new hk7 (fun b hb=>.inr (HB.out b hb))
 obtain⟨S3,hS3⟩:∃S3,S3=xh S2 (undS exC true (put (fun _=>0) 0 40) (put (fun _=>0) 0 (S1.now 40)) (0+1) (eN 1 0)++kpC tt):=⟨_,rfl⟩
 obtain⟨u3,hu3⟩:∃u3,u3=u2+((undS exC true (put (fun _=>0) 0 40) (put (fun _=>0) 0 (S1.now 40)) (0+1) (eN 1 0)++kpC tt).length:Int):=⟨_,rfl⟩
 rw[<-hS3]at hS7 h0
 rw[<-hu3]at hS7
 have h0':Hid (S3.now 40=0):=h0.trans (by rw[if_neg (by decide)];exact hz40.out)
 clear hS3 hu3 hr7 hk7 htt h0 K6 hS6 hO6
 go_wp2_with fail
 refine(zn w7 p a S3 40 hS7.lw.pw.dev (by have:=HN56.out;omega)).mono ?_
 rintro e w8 ⟨rfl,rfl⟩
 rw[h0'.out]
 go_wp2_with fail
 refine(Yd hS7).mono ?_
 rintro e w8 ⟨rfl,rfl⟩
 go_wp2_with fail
 go_ret
 exact⟨rfl,K7.below (Nat.le_refl _) (by simp)⟩
open Go.RowKit Go.OpenShut
theorem vX.blk {c:Cfg} {f:Nat->Int} (h:vX c f) (i:Nat) (hi:i<2+c.roots):f (c.act+i)=0:=
 h.2.2.2.2.2 _ (Nat.le_add_right _ _) (by unfold Cfg.root;omega)
theorem Qe (w:World):Calls Tryz.prog 254 #[] w fun e w'=>e=.returned (.bool true)/\Below w.heap.size w w':=by
 go_enter Tryz.func254,Tryz.ntmps254
 go_wp2_with fail
 refine(Qf _).mono ?_
 rintro e w1 ⟨rfl,hb1⟩
 have K1:xe [] w w1:=Go.Proofs.YtcdhklgahepcaaaGreat.Below.keeps hb1 []
 clear hb1
 go_wp2_with fail
 have hC2:At (w1.alloc (.cells #[.int .i64 3,.int .i64 1,.int .i64 8] 36)) w1.heap.size (cfgO exC):=At.new w1 (cfgO exC)
 have K2:=K1.alloc (.cells #[.int .i64 3,.int .i64 1,.int .i64 8] 36)
 have hz2:w.heap.size≤w1.heap.size:=K1.size
 refine(yt _ exC xX none 0 0 (fun _=>0) (.inl rfl) (by omega)).mono ?_
 rintro e w3 ⟨p,a,u,S,⟨rfl,hn,hP3,hu,hW,hkp,his,⟨b1,b2,b3,b4,b5⟩,hk3⟩,hold⟩
 have hC3:=hk3.at hC2 (by simp)
 have K3:=K2.trans hk3
 have HN:=hid hn
 obtain⟨_,HL⟩:=hW
 have hz32:S.now exC.act=0:=vX.blk HL 0 (by decide)
 have hz33:S.now (exC.act+1)=0:=vX.blk HL 1 (by decide)
 have HZ:=hid (And.intro hz32 hz33)
 clear hn hkp his hC2 hk3 K2 K1 hold HL hz32 hz33 b1 b2 b3 b4 b5
 obtain⟨cb,hcb⟩:∃cb,cb=w1.heap.size:=⟨_,rfl⟩
 rw[<-hcb]at hC3 hz2⊢
 clear hcb
 have c0:w3.cell? ⟨cb,0,none⟩=some (.int .i64 3):=hC3.cell 0 rfl
 have c1:w3.cell? ⟨cb,1,none⟩=some (.int .i64 1):=hC3.cell 1 rfl
 have c2:w3.cell? ⟨cb,2,none⟩=some (.int .i64 8):=hC3.cell 2 rfl
 go_wp2_with fail
 refine(zI w3 p a S exC hP3.dev xX HN.out (by rw[HZ.out.1];decide) (by rw[HZ.out.2];decide)).mono ?_
 rintro e w4 (⟨h0,rfl,_⟩|⟨k,u8,x,cp,hk1,hk2,hk3,hk4,rfl,hO,hk5⟩)
 ·rw[HZ.out.1,HZ.out.2]at h0
  exact absurd h0 (by decide)
 ·rw[HZ.out.1]at hk3
  rw[HZ.out.2]at hk4
  obtain rfl:k=0:=by omega
  obtain rfl:u8=0:=by omega
  clear hk1 hk2 hk3 hk4 c0 c1 c2
  have K4:=K3.trans hk5
  have hC4:=(hk5.at hC3 (by simp)).alloc (bkO 0 0 (.slice x 1 cp))
  have hB4:=At.new w4 (bkO 0 0 (.slice x 1 cp))
  have c0:(w4.alloc (bkO 0 0 (.slice x 1 cp))).cell? ⟨cb,0,none⟩=some (.int .i64 3):=hC4.cell 0 rfl
  have c1:(w4.alloc (bkO 0 0 (.slice x 1 cp))).cell? ⟨cb,1,none⟩=some (.int .i64 1):=hC4.cell 1 rfl
  have c2:(w4.alloc (bkO 0 0 (.slice x 1 cp))).cell? ⟨cb,2,none⟩=some (.int .i64 8):=hC4.cell 2 rfl
  have d0:=hB4.cell 0 rfl
  have d1:=hB4.cell 1 rfl
  have d2:=hB4.cell 2 rfl
  go_wp2_with fail
  refine(yM _ exC xX.small 0 (by omega) 0 _ 3 (by omega)).mono ?_
  rintro e w5 ⟨rfl,hk6⟩
  go_wp2_with fail
  go_ret
  exact⟨rfl,((K4.alloc _).trans hk6).below (Nat.le_refl _) (by simp)⟩
open Go.RowKit Go.OpenShut
theorem Qd (w:World):Calls Tryz.prog 253 #[] w fun e w'=>e=.returned (.bool true)/\Below w.heap.size w w':=by
 go_enter Tryz.func253,Tryz.ntmps253
 go_wp2_with fail
 refine(Qe _).mono ?_
 rintro e w1 ⟨rfl,hb1⟩
 have K1:xe [] w w1:=Go.Proofs.YtcdhklgahepcaaaGreat.Below.keeps hb1 []
 clear hb1
 go_wp2_with fail
 have hC2:At (w1.alloc (.cells #[.int .i64 3,.int .i64 1,.int .i64 8] 36)) w1.heap.size (cfgO exC):=At.new w1 (cfgO exC)
 have K2:=K1.alloc (.cells #[.int .i64 3,.int .i64 1,.int .i64 8] 36)
 have hz2:w.heap.size≤w1.heap.size:=K1.size
 refine(yt _ exC xX none 0 0 (fun _=>0) (.inl rfl) (by omega)).mono ?_
 rintro e w3 ⟨p,a,u,S,⟨rfl,hn,hP3,hu,hW,hkp,his,⟨b1,b2,b3,b4,b5⟩,hk3⟩,hold⟩
 simp only[World.size_alloc]at b1 b2 b3 b4 b5
 have hC3:=hk3.at hC2 (by simp)
 have K3:=K2.trans hk3
 have HN:=hid hn
 obtain⟨_,HL⟩:=hW
 have hz32:S.now exC.act=((0:Nat):Int):=vX.blk HL 0 (by decide)
 have hz33:S.now (exC.act+1)=((0:Nat):Int):=vX.blk HL 1 (by decide)
 have HB:Hid (∀b∈[p,a.s,a.k,a.m],w.heap.size≤b/\w1.heap.size≠b):=fun b hb=>by
  simp only[List.mem_cons,List.not_mem_nil,or_false]at hb
  omega
 have HA1:=hid (vW w3 p a u S exC hP3 xX HN.out (by omega) 0 0 (by omega) (by omega) hz32 hz33 2 0 (by omega) (by omega))
 clear hn hkp his hC2 hk3 K2 K1 hold HL b1 b2 b3 b4 b5 hP3
 have HU:=hid hu
 have HZ:=hid (And.intro hz32 hz33)
 clear hu hz32 hz33
 have c0:w3.cell? ⟨w1.heap.size,0,none⟩=some (.int .i64 3):=hC3.cell 0 rfl
 have c1:w3.cell? ⟨w1.heap.size,1,none⟩=some (.int .i64 1):=hC3.cell 1 rfl
 have c2:w3.cell? ⟨w1.heap.size,2,none⟩=some (.int .i64 8):=hC3.cell 2 rfl
 go_wp2_with fail
 refine HA1.out.mono ?_
 rintro e w4 (⟨h0,_⟩|⟨_,rfl,u4,S4,hP4,hu4,_,⟨f1,f2,f3,f4⟩,hk4⟩)
 ·exact absurd h0 (by decide)
 have hC4:=hk4.at hC3 (fun h=>(HB.out _ h).2 rfl)
 have K4:=K3.new hk4 (fun b hb=>.inr (HB.out b hb).1)
 have g1:S4.now exC.act=((0:Nat):Int):=by rw[f4 _ (by omega) (by decide)];exact HZ.out.1
 have HA2:=hid (vW w4 p a u4 S4 exC hP4 xX HN.out (by have:=HU.out;omega) 0 3 (by omega) (by decide) g1 (by rw[f1]) 5 0 (by omega) (by omega))
 clear HA1 hk4 hC3 K3 f1 f2 f3 f4 g1 hP4 c0 c1 c2
 have c0:w4.cell? ⟨w1.heap.size,0,none⟩=some (.int .i64 3):=hC4.cell 0 rfl
 have c1:w4.cell? ⟨w1.heap.size,1,none⟩=some (.int .i64 1):=hC4.cell 1 rfl
 have c2:w4.cell? ⟨w1.heap.size,2,none⟩=some (.int .i64 8):=hC4.cell 2 rfl
 go_wp2_with fail
 refine HA2.out.mono ?_
 rintro e w5 (⟨_,rfl,hk5⟩|⟨h0,_⟩)
 case inr=>exact absurd h0 (by decide)
 have hC5:=hk5.at hC4 (by simp)
 have K5:=K4.trans hk5
 clear HA2 hk5 hC4 K4 c0 c1 c2
 have c0:w5.cell? ⟨w1.heap.size,0,none⟩=some (.int .i64 3):=hC5.cell 0 rfl
 have c1:w5.cell? ⟨w1.heap.size,1,none⟩=some (.int .i64 1):=hC5.cell 1 rfl
 have c2:w5.cell? ⟨w1.heap.size,2,none⟩=some (.int .i64 8):=hC5.cell 2 rfl
 go_wp2_with fail
 refine(YZ _ exC xX.small 0 (by omega)).mono ?_
 rintro e w6 ⟨rfl,hk6⟩
 go_wp2_with fail
 go_ret
 exact⟨rfl,(K5.trans hk6).below (Nat.le_refl _) (by simp)⟩
abbrev h9V (r n:Int):Value:=.agg #[.int .u8 r,.int .u8 n]
abbrev h9O (r n:Int):Obj:=.cells #[.int .u8 r,.int .u8 n] 226
theorem xci (w:World) (r n:Nat) (hr:r≤255) (hn:n≤255):
  Calls Tryz.prog 242 #[h9V r n] w fun e w'=>e=.returned (hdV ((n%9:Nat):Int) ((r%(n%9+1):Nat):Int))/\xe [] w w':=by
 have hri:(r:Int)≤255:=by omega
 have hni:(n:Int)≤255:=by omega
 obtain⟨m,hm⟩:∃m,m=n%9:=⟨_,rfl⟩
 have E1:=hid (show(n:Int)%9=(m:Int) by omega)
 have hmb:(m:Int)≤8:=by omega
 have E2:Hid ((r:Int)%((m:Int)+1)=((r%(m+1):Nat):Int)):=by show _=_;simp
 have hne:¬((m:Int)+1=0):=by omega
 rw[<-hm]
 clear hm
 go_enter Tryz.func242,Tryz.ntmps242
 go_wp2
 refine bodyPost_ret (v:=hdV ((n:Int)%9) ((r:Int)%((n:Int)%9+1))) (by simp[results,Tryz.results242,go_sem]) rfl ?_
 exact⟨by rw[E1.out,E2.out],((xe.refl _ _).alloc _).alloc _⟩
open Go.RowKit Go.OpenShut
def lenL (os:List (Nat×Nat)):Nat:=(os.map fun x=>x.1+1).sum
def zW (sp:Nat) (l:List (Nat×Nat)):List (Nat×Nat):=l.foldl (fun os x=>if lenL os+(x.1+1)≤sp then os++ [x]else os) []
def X4 (os:List (Nat×Nat)):List Int:=os.flatMap fun x=>((hdPk x.1 x.2:Nat):Int)::List.replicate x.1 0
def vV (os:List (Nat×Nat)) (i:Nat):Int:=(X4 os)[i]?.getD 0
def posL (os:List (Nat×Nat)) (i:Nat):Nat:=lenL (os.take i)
theorem Xr (A B:List (Nat×Nat)):lenL (A++B)=lenL A+lenL B:=by simp[lenL]
theorem Xp (x:Nat×Nat):lenL [x]=x.1+1:=by simp[lenL]
theorem Xq (x:Nat×Nat) (l:List (Nat×Nat)):lenL (x::l)=x.1+1+lenL l:=by simp[lenL]
theorem xba (sp:Nat):zW sp []= []:=rfl
theorem Vr (sp:Nat) (l:List (Nat×Nat)) (x:Nat×Nat):zW sp (l++ [x])=if lenL (zW sp l)+(x.1+1)≤sp then zW sp l++ [x]else zW sp l:=by
 unfold zW
 rw[List.foldl_append]
 rfl
theorem zX (A B:List (Nat×Nat)):X4 (A++B)=X4 A++X4 B:=by simp[X4]
theorem XR (x:Nat×Nat):X4 [x]=((hdPk x.1 x.2:Nat):Int)::List.replicate x.1 0:=by simp[X4]
theorem vI (os:List (Nat×Nat)):(X4 os).length=lenL os:=by
 induction os with
 |nil=>rfl
 |cons x l ih=>
  rw[show x::l= [x]++l from rfl,zX,Xr,List.length_append,ih,XR,Xp]
  simp
theorem Y5 {os:List (Nat×Nat)} {i:Nat} (h:lenL os≤i):vV os i=0:=by
 unfold vV
 rw[List.getElem?_eq_none (by rw[vI];exact h)]
 rfl
theorem Qa {A:List (Nat×Nat)} (B:List (Nat×Nat)) {i:Nat} (h:i<lenL A):vV (A++B) i=vV A i:=by
 unfold vV
 rw[zX,List.getElem?_append_left (by rw[vI];exact h)]
theorem vU (A B:List (Nat×Nat)) (i:Nat):vV (A++B) (lenL A+i)=vV B i:=by
 unfold vV
 rw[zX,List.getElem?_append_right (by rw[vI];omega),vI,Nat.add_sub_cancel_left]
theorem ZH (x:Nat×Nat) (B:List (Nat×Nat)):vV (x::B) 0=((hdPk x.1 x.2:Nat):Int):=by
 unfold vV
 rw[show x::B= [x]++B from rfl,zX,XR]
 rfl
theorem ZG (x:Nat×Nat) (B:List (Nat×Nat)) {i:Nat} (h0:0<i) (h:i≤x.1):vV (x::B) i=0:=by
 unfold vV
 obtain⟨j,rfl⟩:∃j,i=j+1:=⟨i-1,by omega⟩
 rw[show x::B= [x]++B from rfl,zX,XR,List.cons_append,List.getElem?_cons_succ,List.getElem?_append_left (by simp;omega)]
 simp[show j<x.1 by omega]
theorem vD {A:List (Nat×Nat)} (B:List (Nat×Nat)) {i:Nat} (h:i≤A.length):posL (A++B) i=posL A i:=by
 unfold posL
 rw[List.take_append_of_le_length h]
theorem Z0 (A B:List (Nat×Nat)):posL (A++B) A.length=lenL A:=by
 unfold posL
 rw[List.take_left']
 rfl
theorem zq (A:List (Nat×Nat)):posL A A.length=lenL A:=by unfold posL;rw[List.take_length]
theorem WO {os:List (Nat×Nat)} {i:Nat} (h:i<os.length):∃A B,os=A++os[i]::B/\lenL A=posL os i:=by
 refine⟨os.take i,os.drop (i+1),?_,rfl⟩
 rw[List.getElem_cons_drop,List.take_append_drop]
theorem xb9 {os:List (Nat×Nat)} {i:Nat} (h:i<os.length):vV os (posL os i)=((hdPk os[i].1 os[i].2:Nat):Int):=by
 obtain⟨A,B,h1,h2⟩:=WO h
 have:=vU A (os[i]::B) 0
 rw[<-h1,h2,Nat.add_zero,ZH]at this
 exact this
theorem xb8 {os:List (Nat×Nat)} {i j:Nat} (h:i<os.length) (hj:j<os[i].1):vV os (posL os i+1+j)=0:=by
 obtain⟨A,B,h1,h2⟩:=WO h
 have:=vU A (os[i]::B) (1+j)
 rw[<-h1,h2,ZG _ _ (by omega) (by omega)]at this
 rw[Nat.add_assoc]
 exact this
theorem Jq {os:List (Nat×Nat)} {i:Nat} (h:i<os.length):posL os (i+1)=posL os i+1+os[i].1:=by
 unfold posL
 rw[<-List.take_append_getElem h,Xr,Xp]
 omega
theorem vC {os:List (Nat×Nat)} {i j:Nat} (hij:i≤j) (h:j≤os.length):posL os i≤posL os j:=by
 induction j with
 |zero=>obtain rfl:i=0:=by omega
        exact Nat.le_refl _
 |succ j ih=>
  rcases Nat.lt_or_ge i (j+1)with h1|h1
  ·have:=ih (by omega) (by omega)
   have:=Jq (os:=os) (i:=j) (by omega)
   omega
  ·obtain rfl:i=j+1:=by omega
   exact Nat.le_refl _
def LgS (c:Cfg) (n:Nat) (S:DS):Prop:=(∃pl wd,LR c n 1 0 0 pl wd S)/\(∀j,c.act≤j->j<n->S.kept j=0)/\∀k,S.is k=false
theorem LgS.pre {c:Cfg} {n:Nat} {S S':DS} (h:LgS c n S) (hp:∀j,j<c.act->Pre S S' j) (hk:S'.kept=S.kept) (hi:S'.is=S.is):LgS c n S':=by
 obtain⟨⟨pl,wd,h⟩,h1,h2⟩:=h
 refine⟨?_,by rw[hk];exact h1,by rw[hi];exact h2⟩
 have hact:16+4*c.log≤c.act:=(xD (16+4*c.log)).1
 exact⟨pl,wd,h.pre (hp 8 (by omega)) (fun i hi=>absurd hi (Nat.not_lt_zero _)) fun i _ hi=>hp _ (by omega)⟩
structure FilS (c:Cfg) (n:Nat) (os:List (Nat×Nat)) (S:DS):Prop where
 act:S.now c.act=((0:Nat):Int)
 used:S.now (c.act+1)=((lenL os:Nat):Int)
 fits:lenL os≤c.space
 head:∀x∈os,x.1≤8/\x.2≤x.1
 low:∀j,c.act+2≤j->j<c.frm 0->S.now j=0
 word:∀i,c.frm 0+i<n->S.now (c.frm 0+i)=vV os i
 log:LgS c n S
theorem FilS.next {c:Cfg} {n:Nat} {os:List (Nat×Nat)} {S S':DS} (h:FilS c n os S) {nw r:Nat} (h1:nw≤8) (h2:r≤nw) (hg:lenL os+(nw+1)≤c.space) (hA:AlcF c 0 (lenL os) nw r S.now S'.now) (hl:∀j,j<c.act->Pre S S' j) (hk:S'.kept=S.kept) (hi:S'.is=S.is):FilS c n (os++ [(nw,r)]) S':=by
 obtain⟨a1,a2,a3,a4⟩:=hA
 have hfr:=@xK c 0
 refine⟨?_,?_,?_,?_,?_,?_,h.log.pre hl hk hi⟩
 ·rw[a4 _ (by omega) (by omega)];exact h.act
 ·rw[a1,Xr,Xp]
 ·rw[Xr,Xp];exact hg
 ·intro x hx
  rcases List.mem_append.1 hx with hx|hx
  ·exact h.head x hx
  ·obtain rfl:=List.mem_singleton.1 hx
   exact⟨h1,h2⟩
 ·intro j hj1 hj2
  rw[a4 _ (by omega) (by omega)];exact h.low j hj1 hj2
 ·intro i hi
  by_cases i1:i<lenL os
  ·rw[a4 _ (by omega) (by omega),Qa _ i1];exact h.word i hi
  obtain⟨j,rfl⟩:∃j,i=lenL os+j:=⟨i-lenL os,by omega⟩
  rw[vU]
  by_cases j0:j=0
  ·subst j0
   rw[Nat.add_zero,a2,ZH]
  by_cases j1:j≤nw
  ·rw[ZG _ _ (by omega) j1]
   have:=a3 (j-1) (by omega)
   rwa[show c.frm 0+lenL os+1+(j-1)=c.frm 0+(lenL os+j) by omega]at this
  ·rw[Y5 (by rw[Xp];simp;omega),a4 _ (by omega) (by omega),h.word _ hi,Y5 (by omega)]
def vt (w:World) (y:Option Addr) (m:Nat) (R V:Nat->Nat):Prop:=
 m=0\/∃b off,y=some ⟨b,off,none⟩/\b<w.heap.size/\∀i,i<m->w.cell? ⟨b,off+i*2,none⟩=some (.int .u8 (R i:Nat))/\w.cell? ⟨b,off+i*2+1,none⟩=some (.int .u8 (V i:Nat))/\R i≤255/\V i≤255
theorem vt.keep {w w':World} {y:Option Addr} {m:Nat} {R V:Nat->Nat} {T:List Nat} (h:vt w y m R V) (hk:xe T w w') (hT:∀b off,y=some ⟨b,off,none⟩->b∉T):vt w' y m R V:=by
 rcases h with h|⟨b,off,rfl,hb,hc⟩
 ·exact .inl h
 ·exact .inr ⟨b,off,rfl,Nat.lt_of_lt_of_le hb hk.size,fun i hi=>by rw[hk.cell hb (hT b off rfl),hk.cell hb (hT b off rfl)];exact hc i hi⟩
def hdsL (R V:Nat->Nat) (m:Nat):List (Nat×Nat):=(List.range m).map fun i=>(V i%9,R i%(V i%9+1))
theorem Vk (R V:Nat->Nat) (m:Nat):hdsL R V (m+1)=hdsL R V m++ [(V m%9,R m%(V m%9+1))]:=by simp[hdsL,List.range_succ]
theorem Y0 (sp:Nat) (R V:Nat->Nat):∀m,(zW sp (hdsL R V m)).length≤m
 |0=>Nat.le_refl _
 |m+1=>by
  have:=Y0 sp R V m
  rw[Vk,Vr]
  split
  ·rw[List.length_append];simp;omega
  ·omega
def xbE (p:Nat) (a:DA) (u:Int) (S:DS) (c:Cfg) (us nw r:Nat) (w:World) (z code:Int) (w':World):Prop:=
 (c.space<us+(nw+1)/\z=0/\code=4/\xe [] w w')\/
 (us+(nw+1)≤c.space/\z=((c.frm 0+us:Nat):Int)/\code=0/\∃u' S',Pw w' p a (-1) u' S'/\u'≤u+((nw+2:Nat):Int)/\(S'.kept=S.kept/\(∀j,j<c.act->Pre S S' j)/\S'.is=S.is)/\AlcF c 0 us nw r S.now S'.now/\xe [p,a.s,a.k,a.m] w w')
theorem xbE.keeps {p:Nat} {a:DA} {u:Int} {S:DS} {c:Cfg} {us nw r:Nat} {w:World} {z code:Int} {w':World} (h:xbE p a u S c us nw r w z code w'):xe [p,a.s,a.k,a.m] w w':=by
 rcases h with⟨_,_,_,hk⟩|⟨_,_,_,_,_,_,_,_,_,hk⟩
 ·exact hk.mono (by simp)
 ·exact hk
theorem Qp (w:World) (p:Nat) (a:DA) (u:Int) (S:DS) (c:Cfg) (h:Pw w p a (-1) u S) (hc:c.Ok) (hcn:c.words=a.n) (hb:u≤1000000000000) (us:Nat) (hus:us≤c.space) (h1:S.now c.act=((0:Nat):Int)) (h2:S.now (c.act+1)=(us:Int)) (nw r:Nat) (hnw:nw≤64) (hr:r≤nw):
  Calls Tryz.prog 90 #[ptr a.d,cfgV c,hdV nw r,.func (.func 145) #[ptr a.d] #[]] w fun e w'=>∃z code,e=.returned (.tuple #[.int .i64 z,.int .i64 code])/\Hid (xbE p a u S c us nw r w z code w'):=by
 refine(vW w p a u S c h hc hcn hb 0 us (by omega) hus h1 h2 nw r hnw hr).mono ?_
 rintro e w' (⟨g,rfl,hk⟩|⟨g,rfl,hx⟩)
 ·exact⟨0,4,rfl,.inl ⟨g,rfl,rfl,hk⟩⟩
 ·exact⟨_,0,rfl,.inr ⟨g,rfl,rfl,hx⟩⟩
theorem xbx {ops:Array Oper} {rest:List Oper} {o:Oper} {a:Act} {w:World} {Q:Exit->Act->World->Prop} (hgd:o.guard=none) (s x:Operand)
  (ho:o.op=.call { callee:=.builtin .append,args:=#[s,x],argTypes:=#[132,132] })
  (B:Nat) (xx:Option Addr) (cp n:Nat) (f:Nat->Nat) (hs:a.eval s=.slice xx n cp) (hown:OwnI w B xx cp n f) (b c i:Nat) (hx:a.eval x=.slice (some ⟨b,0,none⟩) 1 c) (hc:w.cell? ⟨b,0,none⟩=some (.int .i64 (i:Nat)))
  (hn:n≤1000) (hB:B≤w.heap.size)
  (h:∀g cap w',OwnI w' B (some ⟨g,0,none⟩) cap (n+1) (put f n i)->xe (blkL xx) w w'->(blkL xx= [g]\/w.heap.size≤g)->wpList Tryz.prog ops Q rest (a.put o.dst (.slice (some ⟨g,0,none⟩) (n+1) cap)) w'):
  wpList Tryz.prog ops Q (o::rest) a w:=by
 have hi:∃i,Tryz.prog.info? 3=some i/\(i.zero,i.size,i.bytes)=(some (.int .i64 0),1,8):=by
  have h:(Tryz.prog.info? 3).map (fun i=>(i.zero,i.size,i.bytes))=some (some (.int .i64 0),1,8):=by kernel_rfl
  exact Option.map_eq_some_iff.1 h
 obtain⟨ti,hi1,hi2⟩:=hi
 simp only[Prod.mk.injEq]at hi2
 obtain⟨hz,hsz,hby⟩:=hi2
 refine wpList_append_own_at w hgd s x 132 ho B 3 ti (.int .i64 0) 1 8 Tryz.underlying132 hi1 hz hsz hby rfl (by omega) _ n _ hs hown ⟨b,0,none⟩ 1 c [.int .i64 (i:Nat)] hx rfl (fun j u hj=>?_) (by simp[Value.oneCell']) (by unfold maxLen;omega) (by omega) hB ?_
 ·cases j with
  |zero=>simp at hj;subst hj;exact hc
  |succ j=>simp at hj
 ·intro v' w' h1 h2 h3 h4
  have hne:v'≠.slice none 0 0:=fun e=>by have:=(h3.1 e).2;omega
  have h1':=h1
  obtain⟨_,⟨rfl,_⟩|⟨g,cap,cur,rfl,hB',hg,h5⟩⟩:=h1'
  ·exact absurd rfl hne
  ·rw[vR]at h1
   refine h g cap w' h1 (xS h2) ?_
   rcases h4 with h4|h4
   ·left
    cases xx with
    |none=>simp[Value.ownBlock]at h4
    |some a=>simp[Value.ownBlock]at h4;simp[blkL];exact h4.symm
   ·right
    simp[Value.ownBlock]at h4;omega
theorem OwnI.eq {w:World} {B:Nat} {x:Option Addr} {cp n:Nat} {f g:Nat->Nat} (h:OwnI w B x cp n f) (he:∀i,i<n->f i=g i):OwnI w B x cp n g:=by
 have e:((List.range n).map fun i=>Value.int .i64 (f i:Nat))=((List.range n).map fun i=>Value.int .i64 (g i:Nat)):=
  List.map_congr_left fun i hi=>by rw[he i (List.mem_range.1 hi)]
 unfold OwnI at h⊢
 rwa[e]at h
theorem OwnI.cell {w:World} {B:Nat} {x:Option Addr} {cp n:Nat} {f:Nat->Nat} (h:OwnI w B x cp n f) (hn:0<n):∃g,x=some ⟨g,0,none⟩/\B≤g/\g<w.heap.size/\∀i,i<n->w.cell? ⟨g,i,none⟩=some (.int .i64 (f i:Nat)):=by
 rcases h.form with⟨_,h0⟩|⟨g,cur,rfl,h1,h2,h3⟩
 ·omega
 ·exact⟨g,rfl,h1,h2.lt,fun i hi=>h2.cell i (h3 i hi)⟩
def FilI (c:Cfg) (p:Nat) (a:DA) (B:Nat) (os:List (Nat×Nat)) (ub:Int) (w1:World) (y:Option Addr) (cy:Nat) (w:World):Prop:=
 ∃u S,Pw w p a (-1) u S/\u≤ub/\FilS c a.n os S/\OwnI w B y cy os.length (fun j=>c.frm 0+posL os j)/\xe [p,a.s,a.k,a.m] w1 w
def FilP (c:Cfg) (os:List (Nat×Nat)) (w:World) (e:Ending) (w':World):Prop:=
 ∃p a u S x cp y cy B,e=.returned (.tuple #[ptr a.d,cfgV c,bkV 0 (lenL os:Nat) (.slice x c.roots cp),.slice y os.length cy])/\c.words=a.n/\Pw w' p a (-1) u S/\u≤200000/\FilS c a.n os S/\
  OwnU w' B x cp c.roots (fun _=>0)/\OwnI w' B y cy os.length (fun j=>c.frm 0+posL os j)/\
  (w.heap.size≤p/\w.heap.size≤a.d/\w.heap.size≤a.s/\w.heap.size≤a.k/\w.heap.size≤a.m)/\(p<B/\a.d<B/\a.s<B/\a.k<B/\a.m<B)/\xe [] w w'
theorem Vq (w:World) (l r s:Nat) (hl:l≤65535) (hrr:r≤65535) (hs:s≤65535) (y0:Option Addr) (m cm:Nat) (R V:Nat->Nat) (hy:vt w y0 m R V) (hm:m≤1000) (c:Cfg) (hc:c=mk3 l r s):
  Calls Tryz.prog 218 #[c3V l r s,.slice y0 m cm] w (FilP c (zW c.space (hdsL R V m)) w):=by
 have hmi:(m:Int)≤1000:=by omega
 have HY:=hid hy
 clear hy
 go_enter Tryz.func218,Tryz.ntmps218
 go_upto_region 1 with fail
 have hB0:=((At.new w (c3O l r s)).alloc (.cells #[.int .i64 0,.int .i64 0,.int .i64 0] 36)).alloc (bkO 0 0 (.slice none 0 0))
 have hC0:=(At.new (w.alloc (c3O l r s)) (.cells #[.int .i64 0,.int .i64 0,.int .i64 0] 36)).alloc (bkO 0 0 (.slice none 0 0))
 have hK0:=At.new ((w.alloc (c3O l r s)).alloc (.cells #[.int .i64 0,.int .i64 0,.int .i64 0] 36)) (bkO 0 0 (.slice none 0 0))
 have K0:=(((xe.refl [] w).alloc (c3O l r s)).alloc (.cells #[.int .i64 0,.int .i64 0,.int .i64 0] 36)).alloc (bkO 0 0 (.slice none 0 0))
 rw[show(w.alloc (c3O l r s)).heap.size=w.heap.size+1 by simp]at hC0
 rw[show((w.alloc (c3O l r s)).alloc (.cells #[.int .i64 0,.int .i64 0,.int .i64 0] 36)).heap.size=w.heap.size+2 by simp]at hK0
 obtain⟨w0,hw0⟩:∃w0,w0=((w.alloc (c3O l r s)).alloc (.cells #[.int .i64 0,.int .i64 0,.int .i64 0] 36)).alloc (bkO 0 0 (.slice none 0 0)):=⟨_,rfl⟩
 have hz0:w0.heap.size=w.heap.size+3:=by rw[hw0];simp
 rw[<-hw0]at hB0 hC0 hK0 K0
 first|rw[<-hw0]|skip
 clear hw0
 have c0:w0.cell? ⟨w.heap.size,0,none⟩=some (.int .u16 l):=hB0.cell 0 rfl
 have c1:w0.cell? ⟨w.heap.size,1,none⟩=some (.int .u16 r):=hB0.cell 1 rfl
 have c2:w0.cell? ⟨w.heap.size,2,none⟩=some (.int .u16 s):=hB0.cell 2 rfl
 go_wp2_with fail
 refine(JM w0 l r s hl hrr hs).mono ?_
 rintro e w2 ⟨rfl,hk2⟩
 have K2:=K0.trans hk2
 have hR2:=hk2.at hC0 (by simp)
 have hK2:=hk2.at hK0 (by simp)
 have hz2:w.heap.size+3≤w2.heap.size:=hz0▸hk2.size
 have hok:=XW l r s
 rw[<-hc]at hok⊢
 clear hc c0 c1 c2 hB0 hC0 hK0 K0 hk2 hz0
 go_wp2_with fail
 have hC3:=At.new w2 (cfgO c)
 have hR3:=hR2.alloc (cfgO c)
 have hK3:=hK2.alloc (cfgO c)
 have K3:=K2.alloc (cfgO c)
 obtain⟨cb,hcb⟩:∃cb,cb=w2.heap.size:=⟨_,rfl⟩
 rw[<-hcb]at hC3 hz2⊢
 have HCB:=hid hcb
 clear hcb K2 hR2 hK2
 refine(yt _ c hok none 0 0 (fun _=>0) (.inl rfl) (by omega)).mono ?_
 rintro e w4 ⟨p,a,u,S,⟨rfl,haN,hP,hub,hW,hkp,his,⟨b1,b2,b3,b4,b5⟩,hk4⟩,hold⟩
 simp only[World.size_alloc]at b1 b2 b3 b4 b5
 rw[<-HCB.out]at b1 b2 b3 b4 b5
 have hC4:=hk4.at hC3 (by simp)
 have hR4:=hk4.at hR3 (by simp)
 have hK4:=hk4.at hK3 (by simp)
 have K4:=K3.trans hk4
 have hWW:=hW
 obtain⟨_,hLF⟩:=hW
 have HN:=hid haN
 have HO:=hid hok
 have hF0:FilS c a.n [] S:=by
  refine⟨hLF.blk 0 (by omega),hLF.blk 1 (by omega),Nat.zero_le _,fun x hx=>by simp at hx,fun j h1 h2=>?_,fun i hi=>?_,⟨⟨fun _=>0,fun _=>0,(LI.fresh _ _ hok haN hWW hkp his).1⟩,fun j h1 h2=>?_,his⟩⟩
  ·by_cases h3:j<c.root c.roots
   ·exact hLF.2.2.2.2.2 j (by omega) h3
   ·have:=@xu c 0 (by omega)
    rw[hold j (by omega) (by omega)];rfl
  ·have:=@xK c 0
   have e:c.root c.roots=c.act+2+c.roots:=rfl
   rw[hold _ (by omega) hi];rfl
  ·rw[hkp j h2]
   by_cases h3:j<c.root c.roots
   ·have h4:=hLF.blk (j-c.act) (by unfold Cfg.root at h3;omega)
    rwa[show c.act+(j-c.act)=j by omega]at h4
   ·rw[hold j (by omega) h2];rfl
 have HSZ:Hid (p<w4.heap.size/\a.d<w4.heap.size/\a.s<w4.heap.size/\a.k<w4.heap.size/\a.m<w4.heap.size):=⟨hP.pow.lt,hP.dev.dev.lt,hP.dev.now.lt,hP.dev.kept.lt,hP.dev.map.lt⟩
 have HWB:Hid (cb<p/\cb<a.d/\cb<a.s/\cb<a.k/\cb<a.m):=⟨by omega,by omega,by omega,by omega,by omega⟩
 have HWT:Hid (∀b∈[p,a.s,a.k,a.m],w.heap.size≤b/\b≠cb/\b≠w.heap.size+1/\b≠w.heap.size+2/\b<w4.heap.size):=fun b hb=>by
  have:=HSZ.out
  simp only[List.mem_cons,List.not_mem_nil,or_false]at hb
  omega
 have HI:Hid (FilI c p a w4.heap.size [] 100001 w4 none 0 w4):=⟨u,S,hP,by omega,hF0,Jw _ _ _,xe.refl _ _⟩
 have hsp:(c.space:Int)≤4096:=by have:=hok.small.2.2;omega
 have HC4:=hid hC4
 have HR4:=hid hR4
 have HK4:=hid hK4
 have HKW:=hid K4
 have HCZ:Hid (cb<w4.heap.size):=hC4.lt
 have HZB:Hid (w.heap.size+3≤cb):=hz2
 clear haN hok hkp his hWW hC3 hR3 hK3 K3 hk4 hLF b1 b2 b3 b4 b5 hold hP hub hF0 K4 hC4 hR4 hK4 HCB hz2
 go_wp2_with fail
 go_loopg [11,31] m (fun rr s11 s31 wr=>∃(i:Nat) (y:Option Addr) (cy:Nat),i+rr=m∧s31=.int .i64 i∧s11=.slice y (zW c.space (hdsL R V i)).length cy∧FilI c p a w4.heap.size (zW c.space (hdsL R V i)) (100001+20*(i:Int)) w4 y cy wr)
 case atStart=>exact⟨0,none,0,by omega,rfl,rfl,by simpa[hdsL,xba]using HI.out⟩
 case round=>
  obtain⟨i,y,cy,hi,rfl,rfl,hFI⟩:=hrel
  obtain⟨os,hos⟩:∃os,os=zW c.space (hdsL R V i):=⟨_,rfl⟩
  have hosl:os.length≤i:=by rw[hos];exact Y0 _ _ _ _
  rw[<-hos]at hFI⊢
  have HOS:=hid hos
  clear hos
  obtain⟨u5,S5,hP5,hu5,hF5,hO5,hk5⟩:=hFI
  have hCr:=hk5.at HC4.out (fun h=>(HWT.out _ h).2.1 rfl)
  by_cases hlt:i<m
  ·obtain⟨b,off,rfl,hb,hcl⟩:=HY.out.resolve_left (by omega)
   obtain⟨x0,x1,hRi,hVi⟩:=hcl i hlt
   have HNX:Hid (zW c.space (hdsL R V (i+1))=if lenL os+(V i%9+1)≤c.space then os++ [(V i%9,R i%(V i%9+1))]else os):=by
    show _=_
    rw[Vk,Vr,<-HOS.out]
   obtain⟨Ri,hRe⟩:∃Ri,Ri=R i:=⟨_,rfl⟩
   obtain⟨Vi,hVe⟩:∃Vi,Vi=V i:=⟨_,rfl⟩
   rw[<-hRe]at x0 hRi HNX
   rw[<-hVe]at x1 hVi HNX
   have hKW:xe [] w wr:=HKW.out.new hk5 (fun b hb=>.inr (HWT.out b hb).1)
   have d0:wr.cell? ⟨b,off+i*2,none⟩=some (.int .u8 (Ri:Nat)):=by rw[hKW.cell hb (by simp)];exact x0
   have d1:wr.cell? ⟨b,off+i*2+1,none⟩=some (.int .u8 (Vi:Nat)):=by rw[hKW.cell hb (by simp)];exact x1
   have hii:(i:Int)<(m:Int):=by omega
   have HII:=hid hi
   have HR:=hid (And.intro hRi hVi)
   clear hcl x0 x1 hRe hVe hi hlt
   go_upto_region 9 with fail
   obtain⟨hb9,hhb⟩:∃hb9,hb9=wr.heap.size:=⟨_,rfl⟩
   have hH6:=At.new wr (h9O Ri Vi)
   have hC6:=hCr.alloc (h9O Ri Vi)
   have k6:=(xe.refl [] wr).alloc (h9O Ri Vi)
   obtain⟨w6,hw6⟩:∃w6,w6=wr.alloc (h9O Ri Vi):=⟨_,rfl⟩
   have hwz:w4.heap.size≤wr.heap.size:=hk5.size
   rw[<-hw6]at hH6 hC6 k6⊢
   rw[<-hhb]at hH6 hwz⊢
   have hP6:=hP5.keep0 k6
   have hO6:=hO5.keep k6 (by simp)
   have k46:xe [p,a.s,a.k,a.m] w4 w6:=hk5.trans (k6.mono (by simp))
   clear hw6 hhb d0 d1 hCr hP5 hO5 hk5 k6 hKW
   have HT6:Hid (∀b∈[p,a.s,a.k,a.m],b≠cb/\b≠hb9):=fun b hb=>by
    have:=HWT.out b hb
    omega
   have HCH:Hid (∀w',xe [p,a.s,a.k,a.m] w6 w'->(w'.cell? ⟨cb,0,none⟩=some (.int .i64 c.log)/\w'.cell? ⟨cb,1,none⟩=some (.int .i64 c.roots)/\w'.cell? ⟨cb,2,none⟩=some (.int .i64 c.space)/\w'.cell? ⟨hb9,0,none⟩=some (.int .u8 Ri)/\w'.cell? ⟨hb9,1,none⟩=some (.int .u8 Vi))):=fun w' hk=>by
    have e1:=hk.at hC6 (fun h=>(HT6.out _ h).1 rfl)
    have e2:=hk.at hH6 (fun h=>(HT6.out _ h).2 rfl)
    exact⟨e1.cell 0 rfl,e1.cell 1 rfl,e1.cell 2 rfl,e2.cell 0 rfl,e2.cell 1 rfl⟩
   obtain⟨nw,hnwe⟩:∃nw,nw=Vi%9:=⟨_,rfl⟩
   obtain⟨rw9,hrwe⟩:∃rw9,rw9=Ri%(Vi%9+1):=⟨_,rfl⟩
   have HMK:=hid (fun w=>xci w Ri Vi HR.out.1 HR.out.2)
   rw[<-hrwe,<-hnwe]at HMK
   rw[<-hrwe,<-hnwe]at HNX
   have hnw:nw≤8:=by omega
   have hrw:rw9≤nw:=by rw[hrwe,hnwe];have:=Nat.mod_lt Ri (show 0<Vi%9+1 by omega);omega
   have HAL:=hid (fun(w':World) (hk:xe [] w6 w')=>Qp w' p a u5 S5 c (hP6.keep0 hk) HO.out HN.out (by omega) (lenL os) hF5.fits hF5.act hF5.used nw rw9 (by omega) hrw)
   have HNW:=hid (And.intro hnw hrw)
   have HF5:=hid hF5
   have HO6:=hid hO6
   have HP6:=hid hP6
   have HU5:=hid hu5
   have HK46:=hid k46
   have hos10:os.length≤1000:=by omega
   have HOL:=hid hosl
   have HMI:=hid hmi
   clear hnwe hrwe hnw hrw hF5 hO6 hP6 hu5 k46 hosl hH6 hC6
   have kk:xe [] w6 w6.drew:=(xe.refl _ _).drew
   go_region_held3 (fun w'=>w'.cell? ⟨cb,0,none⟩=some (.int .i64 c.log)∧w'.cell? ⟨cb,1,none⟩=some (.int .i64 c.roots)∧w'.cell? ⟨cb,2,none⟩=some (.int .i64 c.space)∧w'.cell? ⟨hb9,0,none⟩=some (.int .u8 Ri)∧w'.cell? ⟨hb9,1,none⟩=some (.int .u8 Vi))
    (first|exact HCH.out _ ((kk.mono (by simp)).trans hk1)|exact HCH.out _ (kk.mono (by simp)))
    (first
      |(go_at_call 242;refine(HMK.out _).mono ?_;rintro e w' ⟨rfl,hk9⟩;have kk:=kk.trans hk9;clear hk9)
      |(go_at_call 90;refine(HAL.out _ kk).mono ?_;rintro e w7 ⟨z,code,rfl,hD⟩;have hk1:=(hD.out.keeps)))
   all_goals
    rename_i hHd
    clear hHd
    have k67:=(kk.mono (by simp):xe [p,a.s,a.k,a.m] w6 _).trans hk1
    have kz:=k67.size
    have K47:=HK46.out.trans k67
    have hzw7:w4.heap.size≤w7.heap.size:=K47.size
    obtain⟨zz,hzz⟩:∃zz,zz=c.frm 0+lenL os:=⟨_,rfl⟩
    have hO7:=HO6.out.keep k67 (fun b hb=>fun h=>by have:=(HO6.out.ge b hb).1;have:=(HWT.out b h).2.2.2.2;omega)
    rcases hD.out with⟨g,rfl,rfl,hk⟩|⟨g,hz,rfl,u7,S7,hP7,hu7,hp7,hA7,hk7⟩
    ·have HN9:Hid (zW c.space (hdsL R V (i+1))=os):=by
      show _=_
      rw[HNX.out,if_neg (by omega)]
     have HFN:Hid (FilI c p a w4.heap.size os (100001+20*((i+1:Nat):Int)) w4 y cy w7):=
      ⟨u5,S5,HP6.out.keep0 (kk.trans hk),by have:=HU5.out;omega,HF5.out,hO7,K47⟩
     clear hD hk g hk1 kk k67 K47 hO7 kz hzz
     go_wp2_with fail
     go_roundg (m-(i+1))
     case measure=>(have:=HII.out;omega)
     case rel=>exact⟨i+1,y,cy,by have:=HII.out;omega,by go_num,by rw[HN9.out],by rw[HN9.out];exact HFN.out⟩
    ·rw[<-hzz]at hz
     subst hz
     have HN9:Hid (zW c.space (hdsL R V (i+1))=os++ [(nw,rw9)]):=by
      show _=_
      rw[HNX.out,if_pos (by omega)]
     have HF9:=hid (HF5.out.next HNW.out.1 HNW.out.2 (by omega) hA7 hp7.2.1 hp7.1 hp7.2.2)
     have HU9:=hid (show u7≤100001+20*((i+1:Nat):Int) by have:=HU5.out;have:=HNW.out.1;omega)
     have hP8:=hP7.keep0 ((xe.refl [] w7).alloc (.cells #[.int .i64 (zz:Nat)] 3))
     have hO8:=hO7.keep ((xe.refl [] w7).alloc (.cells #[.int .i64 (zz:Nat)] 3)) (by simp)
     have K48:=K47.alloc (.cells #[.int .i64 (zz:Nat)] 3)
     have hcX:(w7.alloc (.cells #[.int .i64 (zz:Nat)] 3)).cell? ⟨w7.heap.size,0,none⟩=some (.int .i64 (zz:Nat)):=(At.new w7 _).cell 0 rfl
     have hB8:w4.heap.size≤(w7.alloc (.cells #[.int .i64 (zz:Nat)] 3)).heap.size:=K48.size
     have HG8:Hid (∀b∈blkL y,w4.heap.size≤b):=fun b hb=>(hO8.ge b hb).1
     have HO8:=hid hO8
     have HP8:=hid hP8
     have HK48:=hid K48
     have HZZ:=hid hzz
     clear hD g hk1 kk k67 K47 hO7 kz hA7 hp7 hP7 hu7 hk7 hO8 hP8 K48 hzz
     go_wp2_with (at_builtin;refine xbx rfl _ _ rfl w4.heap.size y cy os.length _ rfl HO8.out _ _ zz rfl hcX hos10 hB8 ?_;intro g9 cap9 w9 hO9 hk9 hg9)
     have HFN:Hid (FilI c p a w4.heap.size (os++ [(nw,rw9)]) (100001+20*((i+1:Nat):Int)) w4 (some ⟨g9,0,none⟩) cap9 w9):=by
      have hnt:∀b,b<w4.heap.size->b∉blkL y:=fun b hb h=>by have:=HG8.out b h;omega
      obtain⟨s1,s2,s3,s4,s5⟩:=HSZ.out
      refine⟨u7,S7,HP8.out.keep hk9 (hnt _ s1) (hnt _ s2) (hnt _ s3) (hnt _ s4) (hnt _ s5),HU9.out,HF9.out,?_,HK48.out.new hk9 (fun b hb=>.inr (HG8.out b hb))⟩
      rw[List.length_append]
      refine hO9.eq fun j hj=>?_
      by_cases hj2:j=os.length
      ·subst hj2
       rw[xO,Z0,HZZ.out]
      ·rw[xI _ _ hj2,vD _ (by omega)]
     clear hO9 hk9 hg9 hcX hB8
     go_roundg (m-(i+1))
     case measure=>(have:=HII.out;omega)
     case rel=>exact⟨i+1,_,cap9,by have:=HII.out;omega,by go_num,by rw[HN9.out,List.length_append];go_num,by rw[HN9.out];exact HFN.out⟩
  ·have him:i=m:=by omega
   subst him
   have hzw5:w4.heap.size≤wr.heap.size:=hk5.size
   have HRD:=hid (zI wr p a S5 c hP5.dev HO.out HN.out (by rw[hF5.act];omega) (by rw[hF5.used];omega))
   have HF5:=hid hF5
   have HO5:=hid hO5
   have HP5:=hid hP5
   have HU5:=hid hu5
   have HK5:=hid hk5
   clear hP5 hu5 hF5 hO5 hk5 hi hlt
   have c0:=hCr.cell 0 rfl
   have c1:=hCr.cell 1 rfl
   have c2:=hCr.cell 2 rfl
   go_wp2_with fail
   refine HRD.out.mono ?_
   rintro e w9 (⟨h9,rfl,hk9⟩|⟨k1,u1,x9,cp9,hk1,hu1,hA1,hU1,rfl,hO9,hk9⟩)
   ·rw[HF5.out.act,HF5.out.used]at h9
    have:=HF5.out.fits
    omega
   rw[HF5.out.act]at hA1
   rw[HF5.out.used]at hU1
   obtain rfl:0=k1:=by omega
   obtain rfl:lenL os=u1:=by omega
   clear c0 c1 c2 hk1 hu1 hA1 hU1 HRD
   have K49:xe [p,a.s,a.k,a.m] w4 w9:=HK5.out.trans (hk9.mono (by simp))
   have hC9:=(K49.at HC4.out (fun h=>(HWT.out _ h).2.1 rfl)).alloc (bkO 0 (lenL os:Nat) (.slice x9 c.roots cp9))
   have hR9:=(K49.at HR4.out (fun h=>(HWT.out _ h).2.2.1 rfl)).alloc (bkO 0 (lenL os:Nat) (.slice x9 c.roots cp9))
   have hK9:=(K49.at HK4.out (fun h=>(HWT.out _ h).2.2.2.1 rfl)).alloc (bkO 0 (lenL os:Nat) (.slice x9 c.roots cp9))
   have hN9:=At.new w9 (bkO 0 (lenL os:Nat) (.slice x9 c.roots cp9))
   go_upto_region 14 with fail
   obtain⟨nb,hnb⟩:∃nb,nb=w9.heap.size:=⟨_,rfl⟩
   obtain⟨wE,hwE⟩:∃wE,wE=w9.alloc (bkO 0 (lenL os:Nat) (.slice x9 c.roots cp9)):=⟨_,rfl⟩
   have HO9:=hid (hO9.keep ((xe.refl [] w9).alloc (bkO 0 (lenL os:Nat) (.slice x9 c.roots cp9))) (by simp))
   have KE:xe [p,a.s,a.k,a.m] w4 wE:=by rw[hwE];exact K49.alloc _
   have HP9:=hid (HP5.out.keep0 (hk9.alloc (bkO 0 (lenL os:Nat) (.slice x9 c.roots cp9))))
   have HI9:=hid (HO5.out.keep (hk9.alloc (bkO 0 (lenL os:Nat) (.slice x9 c.roots cp9))) (by simp))
   have hcz:cb<w9.heap.size:=hC9.lt |> fun h=>by have:=HCZ.out;have:=K49.size;omega
   rw[<-hwE]at hC9 hR9 hK9 hN9 HO9 HP9 HI9
   first|rw[<-hwE]|skip
   rw[<-hnb]at hN9 hcz
   first|rw[<-hnb]|skip
   have hnl:nb<wE.heap.size:=hN9.lt
   have hnz:w4.heap.size≤nb:=by rw[hnb];exact K49.size
   clear hwE hO9 hk9 K49 hnb
   have c0:=hC9.cell 0 rfl
   have c1:=hC9.cell 1 rfl
   have c2:=hC9.cell 2 rfl
   have n0:=hN9.cell 0 rfl
   have n1:=hN9.cell 1 rfl
   have n2:=hN9.cell 2 rfl
   have r0:=hR9.cell 0 rfl
   have r1:=hR9.cell 1 rfl
   have r2:=hR9.cell 2 rfl
   have k0:=hK9.cell 0 rfl
   have k1:=hK9.cell 1 rfl
   have k2:=hK9.cell 2 rfl
   have rf0:=hR9.free 0
   have rf1:=hR9.free 1
   have rf2:=hR9.free 2
   have kf0:=hK9.free 0
   have kf1:=hK9.free 1
   have kf2:=hK9.free 2
   have hzb:=HZB.out
   have hczz:=HCZ.out
   go_region
   all_goals
    go_wp2_with fail
    obtain⟨g1,g2,g3,g4,g5⟩:=HWB.out
    have hRF:=((((((hR9.set 0 (.int .i64 c.log)).set 1 (.int .i64 c.roots)).set 2 (.int .i64 c.space)).set_ne (a:=⟨w.heap.size+2,0,none⟩) (by simp) (.int .i64 0)).set_ne (a:=⟨w.heap.size+2,1,none⟩) (by simp) (.int .i64 (lenL os:Nat))).set_ne (a:=⟨w.heap.size+2,2,none⟩) (by simp) (.slice x9 c.roots cp9)).drew
    have hKF:=((((((hK9.set_ne (a:=⟨w.heap.size+1,0,none⟩) (by simp) (.int .i64 c.log)).set_ne (a:=⟨w.heap.size+1,1,none⟩) (by simp) (.int .i64 c.roots)).set_ne (a:=⟨w.heap.size+1,2,none⟩) (by simp) (.int .i64 c.space)).set 0 (.int .i64 0)).set 1 (.int .i64 (lenL os:Nat))).set 2 (.slice x9 c.roots cp9)).drew
    have KF:=((((((xe.refl [w.heap.size+1,w.heap.size+2] wE).set (p:=⟨w.heap.size+1,0,none⟩) (.inl (by simp)) (.int .i64 c.log)).set (p:=⟨w.heap.size+1,1,none⟩) (.inl (by simp)) (.int .i64 c.roots)).set (p:=⟨w.heap.size+1,2,none⟩) (.inl (by simp)) (.int .i64 c.space)).set (p:=⟨w.heap.size+2,0,none⟩) (.inl (by simp)) (.int .i64 0)).set (p:=⟨w.heap.size+2,1,none⟩) (.inl (by simp)) (.int .i64 (lenL os:Nat))).set (p:=⟨w.heap.size+2,2,none⟩) (.inl (by simp)) (.slice x9 c.roots cp9) |>.drew
    obtain⟨wF,hwF⟩:∃wF,wF=((((((wE.setCell ⟨w.heap.size+1,0,none⟩ (.int .i64 c.log)).setCell ⟨w.heap.size+1,1,none⟩ (.int .i64 c.roots)).setCell ⟨w.heap.size+1,2,none⟩ (.int .i64 c.space)).setCell ⟨w.heap.size+2,0,none⟩ (.int .i64 0)).setCell ⟨w.heap.size+2,1,none⟩ (.int .i64 (lenL os:Nat))).setCell ⟨w.heap.size+2,2,none⟩ (.slice x9 c.roots cp9)).drew:=⟨_,rfl⟩
    rw[<-hwF]at hRF hKF KF
    have hnT:∀b,cb<b->b∉[w.heap.size+1,w.heap.size+2]:=fun b hb h=>by
     simp only[List.mem_cons,List.not_mem_nil,or_false]at h
     omega
    have hPF:=HP9.out.keep KF (hnT _ g1) (hnT _ g2) (hnT _ g3) (hnT _ g4) (hnT _ g5)
    have hfr:=@xK c 0
    have hUF:=((HO9.out.low hzw5).keep KF (fun b hb=>hnT b (by have:=((HO9.out.low hzw5).ge b hb).1;omega))).eq (g:=fun _=>0) (fun i hi=>HF5.out.low _ (by unfold Cfg.root;omega) (by unfold Cfg.root;omega))
    have hIF:=HI9.out.keep KF (fun b hb=>hnT b (by have:=(HI9.out.ge b hb).1;omega))
    have KW:xe [] w wF:=(HKW.out.new KE (fun b hb=>.inr (HWT.out b hb).1)).new KF (fun b hb=>.inr (by simp only[List.mem_cons,List.not_mem_nil,or_false]at hb;omega))
    have y0:=hRF.cell 0 rfl
    have y1:=hRF.cell 1 rfl
    have y2:=hRF.cell 2 rfl
    have y3:=hKF.cell 0 rfl
    have y4:=hKF.cell 1 rfl
    have y5:=hKF.cell 2 rfl
    first|rw[<-hwF]|(show bodyPost _ _ _ _ _ wF)
    refine bodyPost_ret (v:=.tuple #[ptr a.d,cfgV c,bkV 0 (lenL os:Nat) (.slice x9 c.roots cp9),.slice y os.length cy]) (by simp[results,Tryz.results218,go_sem,y0,y1,y2,y3,y4,y5]) rfl ?_
    rw[<-HOS.out]
    exact⟨p,a,u5,S5,x9,cp9,y,cy,w4.heap.size,rfl,HN.out,hPF,by have:=HU5.out;omega,HF5.out,hUF,hIF,⟨by omega,by omega,by omega,by omega,by omega⟩,HSZ.out,KW⟩
open Go.RowKit Go.OpenShut
theorem VS (w:World) (d:Nat) (f:Fn) (l1 l2:Array Value):(Op.equalIn (d+1) 193 (.func f l1 l2) .nilFunc).run Tryz.prog w=.ok false w:=by
 simp[Op.equalIn,run_underlying Tryz.underlying193]
theorem qw (w:World) (f:Fn) (l1 l2:Array Value):(binOp .neq 193 (.func f l1 l2) .nilFunc).run Tryz.prog w=.ok (.bool true) w:=by
 have h:(Op.equal 193 (.func f l1 l2) .nilFunc).run Tryz.prog w=.ok false w:=VS w 9999 f l1 l2
 simp[binOp,h]
theorem jQ (w:World):Calls Tryz.prog 252 #[] w fun e w'=>e=.returned (.bool true)/\Below w.heap.size w w':=by
 go_enter Tryz.func252,Tryz.ntmps252
 go_wp2_with fail
 refine(Qd _).mono ?_
 rintro e w1 ⟨rfl,hb1⟩
 have K1:xe [] w w1:=Go.Proofs.YtcdhklgahepcaaaGreat.Below.keeps hb1 []
 clear hb1
 have hos:zW (mk3 0 0 40).space (hdsL (fun _=>1) (fun _=>2) 1)= [(2,1)]:=by decide
 have hok:=XW 0 0 40
 obtain⟨c,hc⟩:∃c,c=mk3 0 0 40:=⟨_,rfl⟩
 rw[<-hc]at hos hok
 have HO:=hid hok
 have HC:=hid hc
 have HOS:=hid hos
 clear hok hc hos
 go_wp2_with fail
 have hH2:=At.new w1 (.cells #[.int .u8 1,.int .u8 2] 226)
 have hy:vt (w1.alloc (.cells #[.int .u8 1,.int .u8 2] 226)) (some ⟨w1.heap.size,0,none⟩) 1 (fun _=>1) (fun _=>2):=
  .inr ⟨w1.heap.size,0,rfl,hH2.lt,fun i hi=>by
   obtain rfl:i=0:=by omega
   exact⟨hH2.cell 0 rfl,hH2.cell 1 rfl,by decide,by decide⟩⟩
 have K2:=K1.alloc (.cells #[.int .u8 1,.int .u8 2] 226)
 have HF2:=hid (Vq _ 0 0 40 (by omega) (by omega) (by omega) _ 1 1 (fun _=>1) (fun _=>2) hy (by omega) c HC.out)
 rw[HOS.out]at HF2
 clear hy hH2 K1
 refine HF2.out.mono ?_
 rintro e w3 ⟨p,a,u,S,x,cp,y,cy,B,rfl,hn,hP,hub,hF,hU,hI,hb,hB,hk3⟩
 have K3:=K2.trans hk3
 have hl1:([(2,1)]:List (Nat×Nat)).length=1:=rfl
 rw[hl1]at hI⊢
 obtain⟨g,rfl,hgB,hgl,hgc⟩:=hI.cell (by omega)
 obtain⟨zz,hzz⟩:∃zz,zz=c.frm 0+posL [(2,1)] 0:=⟨_,rfl⟩
 have hg0:w3.cell? ⟨g,0,none⟩=some (.int .i64 (zz:Nat)):=by rw[hzz];exact hgc 0 (by omega)
 have hUl:(lenL [(2,1)]:Nat)=3:=rfl
 have hus:3≤c.space:=by rw[<-hUl];exact hF.fits
 rw[hUl]
 have hfrm:c.frm 0+c.space≤a.n:=by rw[<-hn];exact xu 0 (by omega)
 have hp0:posL [(2,1)] 0=0:=rfl
 have HZ:Hid (zz=c.frm 0/\zz+2<a.n/\S.now zz=((hdPk 2 1:Nat):Int)):=by
  rw[hp0,Nat.add_zero]at hzz
  refine⟨hzz,by omega,?_⟩
  have:=hF.word 0 (by omega)
  rw[hzz]
  exact this
 have HP:=hid hP
 have HOF:=hid (fun(w':World) (hk:xe [] w3 w')=>jg w' p a S (hP.dev.keep hk (by simp) (by simp) (by simp) (by simp)) c HO.out hn 0 (by omega) 3 hus (.slice x c.roots cp) 0 2 1 (by rw[Nat.add_zero,<-HZ.out.1];exact HZ.out.2.2) (by omega) (by omega) (by omega) zz (by rw[HZ.out.1];rfl))
 go_upto_region 6 with fail
 obtain⟨cb,hcb⟩:∃cb,cb=w3.heap.size:=⟨_,rfl⟩
 obtain⟨w4,hw4⟩:∃w4,w4=(w3.alloc (cfgO c)).alloc (bkO 0 3 (.slice x c.roots cp)):=⟨_,rfl⟩
 have hC4:At w4 cb (cfgO c):=by rw[hw4,hcb];exact(At.new w3 _).alloc _
 have hB4:At w4 (cb+1) (bkO 0 3 (.slice x c.roots cp)):=by
  have:=At.new (w3.alloc (cfgO c)) (bkO 0 3 (.slice x c.roots cp))
  rw[World.size_alloc]at this
  rw[hw4,hcb];exact this
 have k34:xe [] w3 w4:=by rw[hw4];exact((xe.refl [] w3).alloc _).alloc _
 have hzc:w4.heap.size=cb+2:=by rw[hw4,hcb];simp
 rw[<-hw4,<-hcb]
 have HCL:Hid (∀w',xe [] w4 w'->(w'.cell? ⟨cb,0,none⟩=some (.int .i64 c.log)/\w'.cell? ⟨cb,1,none⟩=some (.int .i64 c.roots)/\w'.cell? ⟨cb,2,none⟩=some (.int .i64 c.space)/\w'.cell? ⟨cb+1,0,none⟩=some (.int .i64 0)/\w'.cell? ⟨cb+1,1,none⟩=some (.int .i64 3)/\w'.cell? ⟨cb+1,2,none⟩=some (.slice x c.roots cp)/\w'.cell? ⟨g,0,none⟩=some (.int .i64 (zz:Nat)))):=fun w' hk=>by
  have e1:=hk.at hC4 (by simp)
  have e2:=hk.at hB4 (by simp)
  exact⟨e1.cell 0 rfl,e1.cell 1 rfl,e1.cell 2 rfl,e2.cell 0 rfl,e2.cell 1 rfl,e2.cell 2 rfl,by rw[(k34.trans hk).cell hgl (by simp)];exact hg0⟩
 have HOR:Hid (∀w',xe [] w4 w'->Calls Tryz.prog 174 #[ptr a.d,cfgV c,bkV 0 3 (.slice x c.roots cp),.int .i64 (zz:Nat)] w' fun e w''=>e=.returned (.tuple #[obV 2 1 zz,.int .i64 0])/\xe [] w' w''):=fun w' hk=>HOF.out w' (k34.trans hk)
 have HK34:=hid k34
 have HC4:=hid hC4
 have HB4:=hid hB4
 have HN:=hid hn
 have HK3:=hid K3
 have HUB:=hid hub
 have HWB:Hid (∀b∈[p,a.s,a.k,a.m],w.heap.size≤b):=fun b h=>by
  have hz:=(K2.size:w.heap.size≤_)
  simp only[List.mem_cons,List.not_mem_nil,or_false]at h
  omega
 clear hw4 hC4 hB4 k34 hg0 hgc HOF hI hF hfrm hp0 hl1 hUl hzz hus hcb hn K3 hb hB hk3 hgl hgB hzc HF2 K2 hU hP hub
 go_cut [5,6]from 30 (fun s5 s6 wx=>∃b5,s5=ptr b5∧s6=.int .i64 0∧At wx b5 (obO 2 1 zz)∧w4.heap.size≤b5∧xe [] w4 wx)
 case first=>
  go_region_held3 (fun w'=>w'.cell? ⟨cb,0,none⟩=some (.int .i64 c.log)∧w'.cell? ⟨cb,1,none⟩=some (.int .i64 c.roots)∧w'.cell? ⟨cb,2,none⟩=some (.int .i64 c.space)∧w'.cell? ⟨cb+1,0,none⟩=some (.int .i64 0)∧w'.cell? ⟨cb+1,1,none⟩=some (.int .i64 3)∧w'.cell? ⟨cb+1,2,none⟩=some (.slice x c.roots cp)∧w'.cell? ⟨g,0,none⟩=some (.int .i64 (zz:Nat)))
   ((refine HCL.out _ ?_;repeat' (first|assumption|exact xe.refl _ _|refine xe.drew ?_|refine xe.alloc ?_ _|(refine xe.trans ?_ hk)|(refine xe.set ?_ (by right;simp) _))))
   (first
     |(go_at_call 174;refine(HOR.out _ ?_).mono ?_;(repeat' (first|exact xe.refl _ _|refine xe.drew ?_|refine xe.alloc ?_ _));rintro e w' ⟨rfl,hk⟩;try (have h5:=hk.at (At.drew (At.new w4 (obO 0 0 0))) (by simp);have x0:=h5.cell 0 rfl;have x1:=h5.cell 1 rfl;have x2:=h5.cell 2 rfl;have y0:=h5.free 0;have y1:=h5.free 1;have y2:=h5.free 2)))
  all_goals
   go_wp2_with fail
   go_meet
   first
    |exact⟨_,rfl,rfl,At.new _ _,hk.size,((xe.refl [] w4).drew.trans hk).alloc _⟩
    |exact⟨_,rfl,rfl,((h5.set 0 (.int .i64 2)).set 1 (.int .i64 1)).set 2 (.int .i64 zz),Nat.le_refl _,(((((xe.refl [] w4).alloc _).drew.trans hk).set (.inr (Nat.le_refl _)) _).set (.inr (Nat.le_refl _)) _).set (.inr (Nat.le_refl _)) _⟩
 case rest=>
  obtain⟨b5,rfl,rfl,hA5,hz5,k5⟩:=hcut
  have hP5:=HP.out.keep0 (HK34.out.trans k5)
  have K5:=(HK3.out.trans HK34.out).trans k5
  have hpl:=hP5.lo
  have E1:fldE 2 1 0 false=5:=by decide
  have E2:fldE 2 1 1 false=0:=by decide
  have hzi:(zz:Int)+2<(a.n:Int):=by have:=HZ.out.2.1;omega
  have HR1:=hid (Z5 wc p a S hP5.dev 2 1 zz 0 (by omega) (by omega))
  rw[E1,xc7 (by decide)]at HR1
  have hU:u≤200000:=HUB.out
  have HW:=hid (fun(w':World) (hk:xe [] wc w')=>je w' p a u S (hP5.keep0 hk) (by omega) 2 1 zz 1 9 (by omega) (by omega))
  rw[E2]at HW
  have HA5:=hid hA5
  have HZ5:Hid (b5∉[p,a.s,a.k,a.m]):=fun h=>by
   have h1:=HP.out.pow.lt
   have h2:=HP.out.dev.now.lt
   have h3:=HP.out.dev.kept.lt
   have h4:=HP.out.dev.map.lt
   have h5:=HK34.out.size
   simp only[List.mem_cons,List.not_mem_nil,or_false]at h
   omega
  have HZI:=hid hzi
  have HKW:=hid K5
  clear hU hpl hzi hz5 k5 K5 hP5 E1
  have c0:=hA5.cell 0 rfl
  have c1:=hA5.cell 1 rfl
  have c2:=hA5.cell 2 rfl
  go_wp2_with fail
  refine HR1.out.mono ?_
  rintro e w6 ⟨rfl,hk6⟩
  have hA6:=hk6.at hA5 (by simp)
  clear c0 c1 c2
  have c0:=hA6.cell 0 rfl
  have c1:=hA6.cell 1 rfl
  have c2:=hA6.cell 2 rfl
  go_wp2_with fail
  refine(HW.out _ hk6).mono ?_
  rintro e w7 ⟨rfl,hx⟩
  obtain⟨u7,hP7,hu7,hk7⟩:=hx.out
  have hA7:=hk7.at hA6 HZ5.out
  have HR7:=hid (Z5 w7 p a _ hP7.dev 2 1 zz 1 (by omega) (by have:=HZI.out;omega))
  have EV:rdW (setS S zz 1 9 0) zz 1 0=9:=by
   unfold rdW
   rw[if_pos rfl,ZW,if_pos rfl]
  rw[E2,EV]at HR7
  have K7:xe [] w w7:=(HKW.out.trans hk6).new hk7 (fun b hb=>.inr (HWB.out b hb))
  clear c0 c1 c2 hx hA6 hA5 EV hP7 hu7 hk7
  have c0:=hA7.cell 0 rfl
  have c1:=hA7.cell 1 rfl
  have c2:=hA7.cell 2 rfl
  go_wp2_with fail
  refine HR7.out.mono ?_
  rintro e w8 ⟨rfl,hk8⟩
  have hA8:=hk8.at hA7 (by simp)
  clear c0 c1 c2
  have c0:=hA8.cell 0 rfl
  have c1:=hA8.cell 1 rfl
  have c2:=hA8.cell 2 rfl
  go_wp2_with fail
  refine(Xk w8 2 1 zz a.d).mono ?_
  rintro e w9 ⟨rfl,rfl⟩
  have hfn:=fun w=>qw w (.func 195) #[] #[ptr w8.heap.size,ptr (w8.heap.size+1)]
  go_wp2_with fail
  go_ret
  exact⟨rfl,(((K7.trans hk8).alloc _).alloc _).below (Nat.le_refl _) (by simp)⟩
end Go.Proofs.YtcdhklgahepcaaaGreat
