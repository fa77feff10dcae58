import Derived.Test.YtcdhklgahepcaaaGreatP6
import Derived.Test.YtcdhklgahepcaaaGreatHead
import Derived.Test.YtcdhklgahepcaaaGreatLaw6
import Derived.Maps.AppendAt
import Derived.Deep.RegionHeld2
set_option maxHeartbeats 4000000
set_option maxRecDepth 100000
namespace Go.Proofs.YtcdhklgahepcaaaGreat
open Go.RowKit Go.OpenShut
abbrev bkV (k u:Int) (rs:Value):Value:=.agg #[.int .i64 k,.int .i64 u,rs]
abbrev bkO (k u:Int) (rs:Value):Obj:=.cells #[.int .i64 k,.int .i64 u,rs] 127
theorem xW {c:Cfg} (h:c.Small) {k:Nat} (hk:k≤2):c.frm k≤15000:=by
 have h1:=(xD (c.root c.roots)).2.1
 have h2:=(xD c.space).2.1
 have h3:=vP h
 obtain⟨h4,h5,h6⟩:=h
 have h7:k*up8 c.space≤2*up8 c.space:=Nat.mul_le_mul_right _ hk
 unfold Cfg.frm Cfg.root at*
 omega
theorem yM (w:World) (c:Cfg) (hc:c.Small) (k:Nat) (hk:k≤1) (u:Int) (rs:Value) (i:Int) (hi:-100000≤i/\i≤100000):
  Calls Tryz.prog 156 #[bkV k u rs,cfgV c,.int .i64 i] w fun e w'=>e=.returned (.int .i64 ((c.frm k:Int)+i))/\xe [] w w':=by
 have hf:(c.frm k:Int)≤15000:=by have:=xW hc (show k≤2 by omega);omega
 obtain⟨f,hfe⟩:∃f,f=c.frm k:=⟨_,rfl⟩
 have C1:=hid (fun w=>YZ w c hc k (by omega))
 rw[<-hfe]at hf C1⊢
 have H:=hid (show IntKind.i64.wrap ((f:Int)+i)=(f:Int)+i from IntWalk.i64_in _ (by omega))
 clear hfe
 go_enter Tryz.func156,Tryz.ntmps156
 go_wp2_with fail
 refine(C1.out _).mono ?_
 rintro e w1 ⟨rfl,hK1⟩
 go_wp2_with fail
 go_ret
 exact⟨rfl,(((xe.refl _ _).alloc _).alloc _).trans hK1⟩
def hasW (c:Cfg) (k u:Nat) (z:Int):Bool:=decide ((c.frm k:Int)≤z/\z<(c.frm k:Int)+(u:Int))
theorem xd3 (w:World) (c:Cfg) (hc:c.Small) (k:Nat) (hk:k≤1) (u:Nat) (hu:u≤4096) (rs:Value) (z:Int) (hz:0≤z/\z<18446744073709551616):
  Calls Tryz.prog 119 #[bkV k u rs,cfgV c,.int .u64 z] w fun e w'=>e=.returned (.bool (hasW c k u z))/\xe [] w w':=by
 have hf:(c.frm k:Int)≤15000:=by have:=xW hc (show k≤2 by omega);omega
 have hui:(u:Int)≤4096:=by omega
 have C1:=hid (fun w=>yM w c hc k hk u rs 0 (by omega))
 have C2:=hid (fun w=>yM w c hc k hk u rs u (by omega))
 unfold hasW
 obtain⟨f,hfe⟩:∃f,f=c.frm k:=⟨_,rfl⟩
 rw[<-hfe]at hf C1 C2⊢
 have H1:=hid (show IntKind.u64.wrap ((f:Int)+0)=(f:Int) by rw[Int.add_zero];exact IntWalk.u64_in _ (by omega))
 have H2:=hid (show IntKind.u64.wrap ((f:Int)+(u:Int))=(f:Int)+(u:Int)from IntWalk.u64_in _ (by omega))
 clear hfe
 have HZ:=hid hz
 by_cases h1:(f:Int)≤z
 ·have t1:decide ((f:Int)≤z)=true:=decide_eq_true h1
  have T2:=hid (show decide ((f:Int)≤z/\z<(f:Int)+(u:Int))=decide (z<(f:Int)+(u:Int)) by simp[h1])
  clear h1
  go_enter Tryz.func119,Tryz.ntmps119
  go_wp2_with fail
  refine(C1.out _).mono ?_
  rintro e w1 ⟨rfl,hK1⟩
  have K0:=(((xe.refl [] w).alloc (bkO k u rs)).alloc (cfgO c))
  have hA:=hK1.at ((At.new w (bkO k u rs)).alloc (cfgO c)) (by simp)
  have hB:=hK1.at (At.new (w.alloc (bkO k u rs)) (cfgO c)) (by simp)
  rw[show(w.alloc (bkO k u rs)).heap.size=w.heap.size+1 by simp]at hB
  have a0:=hA.cell 0 rfl
  have a1:=hA.cell 1 rfl
  have a2:=hA.cell 2 rfl
  have b0:=hB.cell 0 rfl
  have b1:=hB.cell 1 rfl
  have b2:=hB.cell 2 rfl
  go_wp2_with fail
  refine(C2.out _).mono ?_
  rintro e w2 ⟨rfl,hK2⟩
  go_wp2_with fail
  go_ret
  exact⟨by rw[T2.out];rfl,(K0.trans hK1).trans hK2⟩
 ·have t1:decide ((f:Int)≤z)=false:=decide_eq_false h1
  have T2:=hid (show decide ((f:Int)≤z/\z<(f:Int)+(u:Int))=false by simp[h1])
  clear h1
  go_enter Tryz.func119,Tryz.ntmps119
  go_wp2_with fail
  refine(C1.out _).mono ?_
  rintro e w1 ⟨rfl,hK1⟩
  have K0:=(((xe.refl [] w).alloc (bkO k u rs)).alloc (cfgO c))
  go_wp2_with fail
  go_ret
  exact⟨by rw[T2.out];rfl,K0.trans hK1⟩
theorem OwnU.low {w:World} {B B':Nat} {x:Option Addr} {cp n:Nat} {f:Nat->Int} (h:OwnU w B x cp n f) (hb:B'≤B):OwnU w B' x cp n f:=by
 obtain⟨h0,h1|⟨g,cap,cur,h1,h2,h3⟩⟩:=h
 ·exact⟨h0,.inl h1⟩
 ·exact⟨h0,.inr ⟨g,cap,cur,h1,Nat.le_trans hb h2,h3⟩⟩
theorem OwnU.eq {w:World} {B:Nat} {x:Option Addr} {cp n:Nat} {f g:Nat->Int} (h:OwnU w B x cp n f) (he:∀i,i<n->f i=g i):OwnU w B x cp n g:=by
 have e:((List.range n).map fun i=>Value.int .u64 (f i))=((List.range n).map fun i=>Value.int .u64 (g i)):=
  List.map_congr_left fun i hi=>by rw[he i (List.mem_range.1 hi)]
 unfold OwnU at h⊢
 rwa[e]at h
def RowB (bb:Nat) (k u:Int) (m:Nat) (f:Nat->Int) (w1 wx:World):Prop:=
 ∃x cp,At wx bb (bkO k u (.slice x m cp))/\OwnU wx (bb+1) x cp m f/\xe [bb] w1 wx
theorem Yi {bb:Nat} {k u:Int} {m:Nat} {f:Nat->Int} {t:Int} {w1 w2 w3:World} {x:Option Addr} {cp g c2:Nat} {v:Value} (hb:bb+1≤w1.heap.size) (hA:At w2 bb (bkO k u v)) (hk:xe [bb] w1 w2) (hO:OwnU w2 (bb+1) x cp m f)
  (hO3:OwnU w3 (bb+1) (some ⟨g,0,none⟩) c2 (m+1) (put f m t)) (ht:t=f m) (hk3:xe (blkL x) w2 w3) (hx:∀b∈blkL x,w1.heap.size≤b):RowB bb k u (m+1) f w1 (w3.setCell ⟨bb,2,none⟩ (.slice (some ⟨g,0,none⟩) (m+1) c2)):=by
 have hbx:bb∉blkL x:=fun h=>by have:=hx _ h;omega
 have hg:=hO3.ge g (by simp[blkL])
 have hA3:=(hk3.at hA hbx).set 2 (.slice (some ⟨g,0,none⟩) (m+1) c2)
 refine⟨some ⟨g,0,none⟩,c2,hA3,?_,?_⟩
 ·have e:OwnU w3 (bb+1) (some ⟨g,0,none⟩) c2 (m+1) f:=hO3.eq fun i hi=>by
   by_cases h:i=m
   ·subst h;rw[xO,ht]
   ·rw[xI _ _ h]
  exact e.keep ((xe.refl [bb] w3).set (.inl (by simp)) _) (by simp[blkL];omega)
 ·exact(hk.new hk3 fun b h=>.inr (hx b h)).set (.inl (by simp)) _
theorem Ym (w:World) (p:Nat) (a:DA) (S:DS) (z:Int) (h:Dev w p a S) (hz:0≤z/\z<a.n):
  Calls Tryz.prog 107 #[ptr a.d,.int .i64 z] w fun e w'=>e=.returned (.int .u64 (S.now z.toNat))/\w=w':=by
 obtain⟨n,rfl⟩:∃n:Nat,(n:Int)=z:=⟨z.toNat,by omega⟩
 rw[Int.toNat_natCast]
 exact zn w p a S n h (by omega)
def xe7 (S:DS) (c:Cfg) (w:World) (e:Ending) (w':World):Prop:=
 ((1<S.now c.act\/(c.space:Int)<S.now (c.act+1))/\e=.returned (.tuple #[bkV 0 0 (.slice none 0 0),.int .i64 10])/\xe [] w w')\/
 (∃(k u:Nat) (x:Option Addr) (cp:Nat),k≤1/\u≤c.space/\S.now c.act=(k:Int)/\S.now (c.act+1)=(u:Int)/\
   e=.returned (.tuple #[bkV k u (.slice x c.roots cp),.int .i64 0])/\OwnU w' w.heap.size x cp c.roots (fun i=>S.now (c.root i))/\xe [] w w')
theorem zI (w:World) (p:Nat) (a:DA) (S:DS) (c:Cfg) (h:Dev w p a S) (hc:c.Ok) (hn:c.words=a.n) (h1:0≤S.now c.act) (h2:0≤S.now (c.act+1)):
  Calls Tryz.prog 149 #[ptr a.d,cfgV c] w (xe7 S c w):=by
 have hs:=hc.small
 have hci:=c_in hc hn
 have hw:=vv hc
 obtain⟨q1,q2,q3,q4⟩:=places hc
 have hai:(c.act:Int)≤823:=by have:=vP hs;omega
 have hri:(c.roots:Int)≤16:=by have:=hc.2.1;omega
 have hsi:(c.space:Int)≤4096:=by have:=hs.2.2;omega
 have hsu:Hid (IntKind.u64.wrap (c.space:Int)=(c.space:Int)):=IntWalk.u64_in _ (by omega)
 have H12:=hid (And.intro h1 h2)
 obtain⟨z1,hz1⟩:∃z,z=S.now c.act:=⟨_,rfl⟩
 obtain⟨z2,hz2⟩:∃z,z=S.now (c.act+1):=⟨_,rfl⟩
 have hin:Hid (c.act+2+c.roots≤a.n):=by rw[<-hn];exact q2
 have HN:=hid hn
 have HZ1:=hid hz1
 have HZ2:=hid hz2
 have HO:=hid hc
 rw[<-hz1]at h1
 rw[<-hz2]at h2
 clear hn hw q1 q2 q3 q4 hci hc H12
 go_enter Tryz.func149,Tryz.ntmps149
 go_upto_region 1 with fail
 have hC0:=(At.new w (cfgO c)).alloc (bkO 0 0 (.slice none 0 0))
 have hB0:=At.new (w.alloc (cfgO c)) (bkO 0 0 (.slice none 0 0))
 have K0:=((xe.refl [] w).alloc (cfgO c)).alloc (bkO 0 0 (.slice none 0 0))
 rw[show(w.alloc (cfgO c)).heap.size=w.heap.size+1 by simp]at hB0
 obtain⟨w0,hw0⟩:∃w0,w0=(w.alloc (cfgO c)).alloc (bkO 0 0 (.slice none 0 0)):=⟨_,rfl⟩
 have D0:=h.keep K0 (by simp) (by simp) (by simp) (by simp)
 rw[<-hw0]at hB0 hC0 K0 D0⊢
 clear hw0 h
 have HC:Hid (∀w',xe [] w0 w'->(w'.cell? ⟨w.heap.size,0,none⟩=some (.int .i64 c.log)/\w'.cell? ⟨w.heap.size,1,none⟩=some (.int .i64 c.roots)/\w'.cell? ⟨w.heap.size,2,none⟩=some (.int .i64 c.space))):=
  fun w' hk=>⟨(hk.at hC0 (by simp)).cell 0 rfl,(hk.at hC0 (by simp)).cell 1 rfl,(hk.at hC0 (by simp)).cell 2 rfl⟩
 have HL:=hid (fun(w':World) (hk:xe [] w0 w') (z:Int) (hz:0≤z/\z<a.n)=>Ym w' p a S z (D0.keep hk (by simp) (by simp) (by simp) (by simp)) hz)
 have E1:Hid (S.now (c.act:Int).toNat=z1):=by show _=_;rw[Int.toNat_natCast,hz1]
 have E2:Hid (S.now ((c.act:Int)+1).toNat=z2):=by show _=_;rw[show((c.act:Int)+1).toNat=c.act+1 by omega,hz2]
 clear hz1 hz2
 have kk:xe [] w0 w0.drew:=(xe.refl _ _).drew
 go_region_held3 (fun w'=>w'.cell? ⟨w.heap.size,0,none⟩=some (.int .i64 c.log)∧w'.cell? ⟨w.heap.size,1,none⟩=some (.int .i64 c.roots)∧w'.cell? ⟨w.heap.size,2,none⟩=some (.int .i64 c.space))
  (exact HC.out _ kk)
  (first
    |(go_at_call 135;refine(xQ _ c hs).mono ?_;rintro e w' ⟨rfl,hk1⟩;have kk:=kk.trans hk1;clear hk1)
    |(go_at_call 158;refine(X9 _ c hs).mono ?_;rintro e w' ⟨rfl,hk1⟩;have kk:=kk.trans hk1;clear hk1)
    |(go_at_call 107;refine(HL.out _ kk _ (by have:=hin.out;omega)).mono ?_;rintro e w' ⟨rfl,rfl⟩;(first|rw[E1.out]|rw[E2.out])))
 rename_i hwx1 wx1 wx2 hHd
 clear hHd
 have hC1:=kk.at hC0 (by simp)
 have hB1:=kk.at hB0 (by simp)
 have D1:=D0.keep kk (by simp) (by simp) (by simp) (by simp)
 have K1:=K0.trans kk
 clear HL HC E1 E2 hC0 hB0 D0
 have c2:=hC1.cell 2 rfl
 have hz1n:∃k:Nat,(k:Int)=z1:=⟨z1.toNat,by omega⟩
 have hz2n:∃k:Nat,(k:Int)=z2:=⟨z2.toNat,by omega⟩
 obtain⟨k,rfl⟩:=hz1n
 obtain⟨u,rfl⟩:=hz2n
 clear h1 h2
 have b0:=hB1.cell 0 rfl
 have b1:=hB1.cell 1 rfl
 have b2:=hB1.cell 2 rfl
 have f0:=hB1.free 0
 have f1:=hB1.free 1
 have f2:=hB1.free 2
 by_cases hk1:1<k
 ·have t1:decide ((k:Int)≥2)=true:=decide_eq_true (by omega)
  have t1':decide ((2:Int)≤(k:Int))=true:=decide_eq_true (by omega)
  have t1'':decide (2≤k)=true:=decide_eq_true (by omega)
  have HOR:1<S.now c.act\/(c.space:Int)<S.now (c.act+1):=.inl (by rw[<-HZ1.out];omega)
  go_wp2_with fail
  have hF:=((hB1.set 0 (.int .i64 0)).set 1 (.int .i64 0)).set 2 (.slice none 0 0)
  have x0:=hF.cell 0 rfl
  have x1:=hF.cell 1 rfl
  have x2:=hF.cell 2 rfl
  refine bodyPost_ret (v:=.tuple #[bkV 0 0 (.slice none 0 0),.int .i64 10]) (by simp[results,Tryz.results149,go_sem,x0,x1,x2]) rfl ?_
  exact .inl ⟨HOR,rfl,((K1.set (.inr (by simp)) _).set (.inr (by simp)) _).set (.inr (by simp)) _⟩
 ·have hkb:(k:Int)≤1:=by omega
  have t1:decide ((k:Int)≥2)=false:=decide_eq_false (by omega)
  have t1':decide ((2:Int)≤(k:Int))=false:=decide_eq_false (by omega)
  have t1'':decide (2≤k)=false:=decide_eq_false (by omega)
  have hsn:=hsu.out
  by_cases hu1:c.space<u
  ·have t2:decide ((c.space:Int)<(u:Int))=true:=decide_eq_true (by omega)
   have t2':decide ((u:Int)>(c.space:Int))=true:=decide_eq_true (by omega)
   have t2'':decide (c.space<u)=true:=decide_eq_true (by omega)
   have HOR:1<S.now c.act\/(c.space:Int)<S.now (c.act+1):=.inr (by rw[<-HZ2.out];omega)
   go_wp2_with fail
   have hF:=((hB1.set 0 (.int .i64 0)).set 1 (.int .i64 0)).set 2 (.slice none 0 0)
   have x0:=hF.cell 0 rfl
   have x1:=hF.cell 1 rfl
   have x2:=hF.cell 2 rfl
   refine bodyPost_ret (v:=.tuple #[bkV 0 0 (.slice none 0 0),.int .i64 10]) (by simp[results,Tryz.results149,go_sem,x0,x1,x2]) rfl ?_
   exact .inl ⟨HOR,rfl,((K1.set (.inr (by simp)) _).set (.inr (by simp)) _).set (.inr (by simp)) _⟩
  ·have t2:decide ((c.space:Int)<(u:Int))=false:=decide_eq_false (by omega)
   have t2':decide ((u:Int)>(c.space:Int))=false:=decide_eq_false (by omega)
   have t2'':decide (c.space<u)=false:=decide_eq_false (by omega)
   have hub:(u:Int)≤4096:=by omega
   have c1:=hC1.cell 1 rfl
   go_upto_region 5 with fail
   obtain⟨bb,hbb⟩:∃bb,bb=w'.heap.size:=⟨_,rfl⟩
   have hBk:=At.new w' (bkO k u (.slice none 0 0))
   have hdb:Hid (a.d≠bb/\a.s≠bb/\a.k≠bb/\a.m≠bb):=D1.fresh (by omega)
   have K2:=K1.alloc (bkO k u (.slice none 0 0))
   have hC2:=hC1.alloc (bkO k u (.slice none 0 0))
   have hB2:=hB1.alloc (bkO k u (.slice none 0 0))
   have hbl:=hB1.lt
   have D2:=D1.keep ((xe.refl [] w').alloc (bkO k u (.slice none 0 0))) (by simp) (by simp) (by simp) (by simp)
   have hcl:=hC1.lt
   have hzw:w.heap.size≤w'.heap.size:=K1.size
   obtain⟨w1,hw1⟩:∃w1,w1=w'.alloc (bkO k u (.slice none 0 0)):=⟨_,rfl⟩
   have hz1:w1.heap.size=bb+1:=by rw[hw1,hbb];simp
   rw[<-hbb]at hBk hcl hzw hbl⊢
   rw[<-hw1]at hBk K2 hC2 D2 hB2⊢
   clear hw1 c1 c2 b0 b1 b2 f0 f1 f2 hB1 hC1 D1 K1 hbb kk
   have c1:=hC2.cell 1 rfl
   have HBZ:Hid (bb+1≤w1.heap.size):=hz1▸Nat.le_refl _
   have HZE:=hid hz1
   have HBK:=hid hBk
   have HCL:=hid hcl
   have HBL:=hid hbl
   have HB2:=hid hB2
   clear hB2 hbl
   have HZW:=hid hzw
   clear hz1 hcl hzw hBk
   go_wp2_with fail
   clear c1
   go_loopg [35] c.roots (fun r s wr=>∃m:Nat,m+r=c.roots∧s=.int .i64 m∧RowB bb k u m (fun i=>S.now (c.root i)) w1 wr)
   case atStart=>exact⟨0,by omega,rfl,none,0,HBK.out,Jv _ _ _,xe.refl _ _⟩
   case round=>
    obtain⟨m,hm,rfl,hRB⟩:=hrel
    by_cases hlt:m<c.roots
    ·obtain⟨x,cp,hAr,hOr,hKr⟩:=hRB
     have hmi:(m:Int)<(c.roots:Int):=by omega
     have hm16:(m:Int)≤16:=by omega
     have hCL:=HCL.out
     have hcbb:w.heap.size≠bb:=by omega
     have hCr:=hKr.at hC2 (by simp;omega)
     have DB:=hdb.out
     have Dr:=D2.keep hKr (by simp;omega) (by simp;omega) (by simp;omega) (by simp;omega)
     obtain⟨t,ht⟩:∃t,t=S.now (c.root m):=⟨_,rfl⟩
     have HT:=hid ht
     have HF:Hid (∀w',xe [] wr w'->(w'.cell? ⟨w.heap.size,0,none⟩=some (.int .i64 c.log)/\w'.cell? ⟨w.heap.size,1,none⟩=some (.int .i64 c.roots)/\w'.cell? ⟨w.heap.size,2,none⟩=some (.int .i64 c.space)/\w'.cell? ⟨bb,2,none⟩=some (.slice x m cp))):=
      fun w' hk=>⟨(hk.at hCr (by simp)).cell 0 rfl,(hk.at hCr (by simp)).cell 1 rfl,(hk.at hCr (by simp)).cell 2 rfl,(hk.at hAr (by simp)).cell 2 rfl⟩
     have HL:Hid (∀w',xe [] wr w'->Calls Tryz.prog 107 #[ptr a.d,.int .i64 (c.root m)] w' fun e w''=>e=.returned (.int .u64 t)/\w'=w''):=fun w' hk=>by
      rw[ht]
      exact zn w' p a S (c.root m) (Dr.keep hk (by simp) (by simp) (by simp) (by simp)) (by have:=hin.out;unfold Cfg.root;omega)
     have HRB:Hid (∀b∈blkL x,w1.heap.size≤b):=fun b hb=>by have:=(hOr.ge b hb).1;have:=HZE.out;omega
     have hm1:m≤1000:=by omega
     have k0:xe [] wr wr.drew:=(xe.refl _ _).drew
     obtain⟨e1,e2,e3,e4⟩:=HF.out _ k0
     obtain⟨e5,e6,e7,e8⟩:=HF.out _ (xe.refl [] wr)
     have HOr:=hid hOr
     have HKr:=hid hKr
     have HAr:=hid hAr
     have HM:=hid hm
     clear hm hOr ht hCr Dr DB hcbb hCL hAr
     go_wp2_with fail
     refine wp_region_noPanic ?_
     go_region_law (first
      |(go_simp;go_at_call 105;refine(wR _ c hs m (by omega)).mono ?_;rintro e w2 ⟨rfl,hk1⟩;have k1:=k0.trans hk1;have k2:=k1.alloc (.cells #[.int .u64 t] 26);obtain⟨g1,g2,g3,g4⟩:=HF.out _ k1;obtain⟨g5,g6,g7,g8⟩:=HF.out _ k2;have HO2:=hid (HOr.out.keep k2 (by simp));have hcU:=(At.new w2 (.cells #[.int .u64 t] 26)).cell 0 rfl;have hB2:bb+1≤(w2.alloc (.cells #[.int .u64 t] 26)).heap.size:=Nat.le_trans HBZ.out (Nat.le_trans HKr.out.size k2.size);clear hk1)
      |(go_simp;go_at_call 107;refine(HL.out _ k1).mono ?_;rintro e w' ⟨rfl,rfl⟩)
      |(refine Xz rfl _ _ rfl (bb+1) x cp m _ rfl HO2.out _ _ t rfl hcU hm1 hB2 ?_;intro gg cap2 w3 hO3 hk3 hg3;have HO3:=hid hO3;have hA3:=hk3.at (k2.at HAr.out (by simp)) (fun h=>by have:=HRB.out _ h;have:=HBZ.out;omega);have y2:=hA3.cell 2 rfl;have yf:=hA3.free 2;clear hO3 hg3 hA3))
     all_goals
      refine NoPanic.normal ?_
      go_wp2_with fail
      go_roundg (c.roots-(m+1))
      case measure=>(have:=HM.out;omega)
      case rel=>exact⟨m+1,by have:=HM.out;omega,by go_num,Yi HBZ.out (k2.at HAr.out (by simp)) (HKr.out.trans (k2.mono (by simp))) HO2.out HO3.out HT.out hk3 HRB.out⟩
    ·have hme:m=c.roots:=by omega
     subst hme
     obtain⟨x,cp,hAr,hOr,hKr⟩:=hRB
     have HBL:=HBL.out
     have hBr:=hKr.at HB2.out (by simp;omega)
     have hkb1:k≤1:=by omega
     have hub1:u≤c.space:=by omega
     have d0:=hAr.cell 0 rfl
     have d1:=hAr.cell 1 rfl
     have d2:=hAr.cell 2 rfl
     have b0:=hBr.cell 0 rfl
     have b1:=hBr.cell 1 rfl
     have b2:=hBr.cell 2 rfl
     have f0:=hBr.free 0
     have f1:=hBr.free 1
     have f2:=hBr.free 2
     have HEND:=hid (And.intro hkb1 hub1)
     have K3:xe [] w wr:=K2.new hKr (by simp;omega)
     have hZ:=HZW.out
     clear hk1 hu1 hkb hub hkb1 hub1 hm hlt
     go_wp2_with fail
     have hF:=((hBr.set 0 (.int .i64 k)).set 1 (.int .i64 u)).set 2 (.slice x c.roots cp)
     have x0:=hF.cell 0 rfl
     have x1:=hF.cell 1 rfl
     have x2:=hF.cell 2 rfl
     refine bodyPost_ret (v:=.tuple #[bkV k u (.slice x c.roots cp),.int .i64 0]) (by simp[results,Tryz.results149,go_sem,x0,x1,x2]) rfl ?_
     refine .inr ⟨k,u,x,cp,HEND.out.1,HEND.out.2,HZ1.out.symm,HZ2.out.symm,rfl,(hOr.low (by omega)).keep (T:=[w.heap.size+1]) ((((xe.refl _ wr).set (.inl (by simp)) _).set (.inl (by simp)) _).set (.inl (by simp)) _) (fun b hb=>by have:=(hOr.ge b hb).1;simp;omega),((K3.set (.inr (by simp)) _).set (.inr (by simp)) _).set (.inr (by simp)) _⟩
open Go.RowKit Go.OpenShut
structure wL (F:Nat) (first cap:Array Value) (a:DA) {σ:Type} (now:σ->DS) (own:σ->List Nat) (N:Nat) (J:Nat->σ->World->Prop) (T:σ->Nat->Int->Int->σ->Prop) (G:σ->Nat->Int->World->Prop):Prop where
 inv:∀(w:World) (i v:Int),(callFunc F (first++(#[.int .i64 i,.int .u64 v]++cap))).run Tryz.prog w=.ok (.enter F (first++(#[.int .i64 i,.int .u64 v]++cap))) w
 dev:∀n s w,J n s w->∃p,Dev w p a (now s)
 keep:∀n s w w',J n s w->xe [] w w'->J n s w'
 more:∀n s w,J n s w->J (n+1) s w
 call:∀n s w (i:Nat) (v:Int),n<N->J n s w->i<a.n->Calls Tryz.prog F (first++(#[.int .i64 i,.int .u64 v]++cap)) w fun e w'=>
  (∃code s',e=.returned (.int .i64 code)/\T s i v code s'/\J (n+1) s' w'/\xe (own s) w w'/\∀b∈own s',b∈own s\/w.heap.size≤b)\/
  (e=.panicked [{ v:=xP,recovered:=false }]/\G s i v w')
section
variable {F:Nat} {first cap:Array Value} {a:DA} {σ:Type} {now:σ->DS} {own:σ->List Nat} {N:Nat} {J:Nat->σ->World->Prop} {T:σ->Nat->Int->Int->σ->Prop} {G:σ->Nat->Int->World->Prop}
def PutT (now:σ->DS) (T:σ->Nat->Int->Int->σ->Prop) (s:σ) (i:Nat) (v:Int) (code:Int) (s':σ):Prop:=
 ((now s).now i=v/\code=0/\s'=s)\/((now s).now i≠v/\T s i v code s')
def WrT (now:σ->DS) (T:σ->Nat->Int->Int->σ->Prop):List (Nat×Int)->σ->Int->σ->Prop
 | [],s,code,s'=>code=0/\s'=s
 |(i,v)::l,s,code,s'=>∃c1 s1,PutT now T s i v c1 s1/\((c1≠0/\code=c1/\s'=s1)\/(c1=0/\WrT now T l s1 code s'))
def WrG (now:σ->DS) (T:σ->Nat->Int->Int->σ->Prop) (G:σ->Nat->Int->World->Prop):List (Nat×Int)->σ->World->Prop
 | [],_,_=>False
 |(i,v)::l,s,w=>((now s).now i≠v/\G s i v w)\/∃s1,PutT now T s i v 0 s1/\WrG now T G l s1 w
theorem WrT.app:∀ {A B:List (Nat×Int)} {s s1 s2:σ} {code:Int},WrT now T A s 0 s1->WrT now T B s1 code s2->WrT now T (A++B) s code s2
 | [],_,_,_,_,_,h,k=>by obtain⟨_,rfl⟩:=h;exact k
 |(i,v)::A,B,s,s1,s2,code,h,k=>by
  obtain⟨c1,t1,h1,⟨h2,h3,_⟩|⟨h2,h3⟩⟩:=h
  ·exact absurd h3.symm h2
  ·exact⟨c1,t1,h1,.inr ⟨h2,h3.app k⟩⟩
theorem WrG.app:∀ {A B:List (Nat×Int)} {s s1:σ} {w:World},WrT now T A s 0 s1->WrG now T G B s1 w->WrG now T G (A++B) s w
 | [],_,_,_,_,h,k=>by obtain⟨_,rfl⟩:=h;exact k
 |(i,v)::A,B,s,s1,w,h,k=>by
  obtain⟨c1,t1,h1,⟨h2,h3,_⟩|⟨h2,h3⟩⟩:=h
  ·exact absurd h3.symm h2
  ·subst h2
   exact .inr ⟨t1,h1,WrG.app h3 k⟩
theorem WrG.left:∀ {A:List (Nat×Int)} {s:σ} {w:World} (B:List (Nat×Int)),WrG now T G A s w->WrG now T G (A++B) s w
 | [],_,_,_,h=>h.elim
 |(i,v)::A,s,w,B,h=>by
  rcases h with h|⟨s1,h1,h2⟩
  ·exact .inl h
  ·exact .inr ⟨s1,h1,h2.left B⟩
theorem WrT.left:∀ {A:List (Nat×Int)} {s s1:σ} {code:Int} (B:List (Nat×Int)),code≠0->WrT now T A s code s1->WrT now T (A++B) s code s1
 | [],_,_,_,_,h0,h=>absurd h.1 h0
 |(i,v)::A,s,s1,code,B,h0,h=>by
  obtain⟨c1,t1,h1,h2|⟨h2,h3⟩⟩:=h
  ·exact⟨c1,t1,h1,.inl h2⟩
  ·exact⟨c1,t1,h1,.inr ⟨h2,h3.left B h0⟩⟩
def StoP (now:σ->DS) (own:σ->List Nat) (J:Nat->σ->World->Prop) (T:σ->Nat->Int->Int->σ->Prop) (G:σ->Nat->Int->World->Prop) (n:Nat) (l:List (Nat×Int)) (s:σ) (w:World) (e:Ending) (w':World):Prop:=
 (∃code s',e=.returned (.int .i64 code)/\WrT now T l s code s'/\J (n+l.length) s' w'/\xe (own s) w w'/\∀b∈own s',b∈own s\/w.heap.size≤b)\/
 (e=.panicked [{ v:=xP,recovered:=false }]/\WrG now T G l s w')
theorem xdK (hF:wL F first cap a now own N J T G) (n:Nat) (s:σ) (w:World) (hn:n<N) (hJ:J n s w) (i:Nat) (hi:i<a.n) (v:Int):
  Calls Tryz.prog 240 #[ptr a.d,.int .i64 i,.int .u64 v,.func (.func F) first cap] w (StoP now own J T G n [(i,v)] s w):=by
 obtain⟨p,hD⟩:=hF.dev n s w hJ
 have hinv:=hF.inv
 have HC:=hid (hF.call n s w i v hn hJ hi)
 have HL:=hid (zn w p a (now s) i hD hi)
 have HM:=hid (hF.more n s w hJ)
 obtain⟨x,hx⟩:∃x,x=(now s).now i:=⟨_,rfl⟩
 rw[<-hx]at HL
 have HX:=hid hx
 clear hx hD hJ
 by_cases hxv:x=v
 ·subst hxv
  go_enter Tryz.func240,Tryz.ntmps240
  go_wp2_with fail
  refine HL.out.mono ?_
  rintro e w1 ⟨rfl,rfl⟩
  go_wp2_with fail
  go_ret
  exact .inl ⟨0,s,rfl,⟨0,s,.inl ⟨HX.out.symm,rfl,rfl⟩,.inr ⟨rfl,rfl,rfl⟩⟩,HM.out,xe.refl _ _,fun b hb=>.inl hb⟩
 ·have t1:(x==v)=false:=by rw[beq_eq_false_iff_ne];exact hxv
  have HXV:=hid hxv
  clear hxv
  go_enter Tryz.func240,Tryz.ntmps240
  go_wp2_with fail
  refine HL.out.mono ?_
  rintro e w1 ⟨rfl,rfl⟩
  go_wp2_with fail
  refine HC.out.mono ?_
  rintro e w1 (⟨code,s',rfl,h1,h2,h3,h4⟩|⟨rfl,h1⟩)
  ·go_wp2_with fail
   go_ret
   refine .inl ⟨code,s',rfl,⟨code,s',.inr ⟨fun e=>HXV.out (HX.out.trans e),h1⟩,?_⟩,h2,h3,h4⟩
   by_cases hc:code=0
   ·exact .inr ⟨hc,hc,rfl⟩
   ·exact .inl ⟨hc,rfl,rfl⟩
  ·go_wp2_with fail
   exact⟨rfl,.inr ⟨rfl,.inl ⟨fun e=>HXV.out (HX.out.trans e),h1⟩⟩⟩
def blkW (c:Cfg) (k u:Int) (n:Nat) (f:Nat->Int):List (Nat×Int):=(c.act,k)::(c.act+1,u)::(List.range n).map fun i=>(c.root i,f i)
theorem Yq (c:Cfg) (k u:Int) (n:Nat) (f:Nat->Int):(blkW c k u n f).length=n+2:=by simp[blkW]
theorem Y6 (c:Cfg) (k u:Int) (n:Nat) (f:Nat->Int):blkW c k u (n+1) f=blkW c k u n f++ [(c.root n,f n)]:=by simp[blkW,List.range_succ]
theorem ZI (c:Cfg) (k u:Int) {m n:Nat} (h:m≤n) (f:Nat->Int):∃R,blkW c k u n f=blkW c k u m f++R:=by
 refine⟨(blkW c k u n f).drop (m+2),?_⟩
 have e:blkW c k u m f=(blkW c k u n f).take (m+2):=by
  simp only[blkW,List.take_succ_cons]
  rw[<-List.map_take,List.take_range,Nat.min_eq_left h]
 rw[e,List.take_append_drop]
def StoR (now:σ->DS) (own:σ->List Nat) (J:Nat->σ->World->Prop) (T:σ->Nat->Int->Int->σ->Prop) (n:Nat) (l:List (Nat×Int)) (s:σ) (w:World) (w':World):Prop:=
 ∃s',WrT now T l s 0 s'/\J (n+l.length) s' w'/\xe (own s) w w'/\∀b∈own s',b∈own s\/w.heap.size≤b
theorem VM {l:List (Nat×Int)} {s s1 s2:σ} {w0 wx w2 w3:World} {i:Nat} {v code:Int} (h1:WrT now T l s 0 s1) (hk:xe (own s) w0 wx) (ho:∀b∈own s1,b∈own s\/w0.heap.size≤b) (hkk:xe [] wx w2)
  (h2:WrT now T [(i,v)] s1 code s2) (hk2:xe (own s1) w2 w3) (ho2:∀b∈own s2,b∈own s1\/w2.heap.size≤b):
  WrT now T (l++ [(i,v)]) s code s2/\xe (own s) w0 w3/\∀b∈own s2,b∈own s\/w0.heap.size≤b:=by
 have hk3:=hk.trans (hkk.mono (by simp))
 refine⟨h1.app h2,hk3.new hk2 ho,fun b hb=>?_⟩
 rcases ho2 b hb with h|h
 ·exact ho b h
 ·exact .inr (Nat.le_trans hk3.size h)
theorem wL.mores (hF:wL F first cap a now own N J T G) {n:Nat} {s:σ} {w:World} (h:J n s w):∀k,J (n+k) s w
 |0=>h
 |k+1=>hF.more _ _ _ (hF.mores h k)
theorem ZT (hF:wL F first cap a now own N J T G) {n:Nat} {l R:List (Nat×Int)} {s s2:σ} {w w0 w3:World} {code:Int} (hw:xe [] w w0) (h1:WrT now T l s code s2) (hJ:J (n+l.length) s2 w3) (hk:xe (own s) w0 w3) (ho:∀b∈own s2,b∈own s\/w0.heap.size≤b) (hc:R= []\/code≠0):
  StoP now own J T G n (l++R) s w (.returned (.int .i64 code)) w3:=by
 refine .inl ⟨code,s2,rfl,?_,by rw[List.length_append,<-Nat.add_assoc];exact hF.mores hJ _,(hw.mono (by simp)).trans hk,fun b hb=>?_⟩
 ·rcases hc with rfl|hc
  ·rwa[List.append_nil]
  ·exact h1.left R hc
 ·rcases ho b hb with h|h
  ·exact .inl h
  ·exact .inr (Nat.le_trans hw.size h)
theorem WK (hF:wL F first cap a now own N J T G) (n:Nat) (s:σ) (w:World) (hJ:J n s w) (c:Cfg) (hc:c.Ok) (hcn:c.words=a.n) (k u:Nat) (hk:k≤1) (hu:u≤c.space) (x:Option Addr) (cp:Nat) (f:Nat->Int)
  (hN:n+c.roots+2≤N) (hx:Reads w x c.roots f) (hxo:∀b off,x=some ⟨b,off,none⟩->b∉own s/\b<w.heap.size) (ho:∀b∈own s,b<w.heap.size):
  Calls Tryz.prog 214 #[ptr a.d,cfgV c,bkV k u (.slice x c.roots cp),.func (.func F) first cap] w (StoP now own J T G n (blkW c k u c.roots f) s w):=by
 have hs:=hc.small
 have hci:=c_in hc hcn
 obtain⟨q1,q2,q3,q4⟩:=places hc
 have hai:(c.act:Int)≤823:=by have:=vP hs;omega
 have hri:(c.roots:Int)≤16:=by have:=hc.2.1;omega
 have hki:(k:Int)≤1:=by omega
 have hui:(u:Int)≤4096:=by have:=hs.2.2;omega
 have hin:Hid (c.act+2+c.roots≤a.n):=by rw[<-hcn];exact q2
 have HJ:=hid hJ
 have HO:=hid ho
 have HX:=hid hx
 have HXO:=hid hxo
 have HNN:=hid hN
 clear q1 q2 q3 q4 hci hJ ho hx hxo hc hcn hk hu hN
 go_enter Tryz.func214,Tryz.ntmps214
 go_upto_region 1 with fail
 have hC0:=(At.new w (cfgO c)).alloc (bkO k u (.slice x c.roots cp))
 have hB0:=At.new (w.alloc (cfgO c)) (bkO k u (.slice x c.roots cp))
 have K0:=((xe.refl [] w).alloc (cfgO c)).alloc (bkO k u (.slice x c.roots cp))
 rw[show(w.alloc (cfgO c)).heap.size=w.heap.size+1 by simp]at hB0
 obtain⟨w0,hw0⟩:∃w0,w0=(w.alloc (cfgO c)).alloc (bkO k u (.slice x c.roots cp)):=⟨_,rfl⟩
 rw[<-hw0]at hB0 hC0 K0⊢
 clear hw0
 have HJ0:=hid (hF.keep _ _ _ _ HJ.out K0)
 have HX0:=hid (HX.out.keep K0 (by simp))
 have HNC:Hid (w.heap.size∉own s/\w.heap.size+1∉own s):=⟨fun h=>by have:=HO.out _ h;omega,fun h=>by have:=HO.out _ h;omega⟩
 have hinv:=hF.inv
 have HCB:Hid (∀w',xe (own s) w0 w'->(w'.cell? ⟨w.heap.size,0,none⟩=some (.int .i64 c.log)/\w'.cell? ⟨w.heap.size,1,none⟩=some (.int .i64 c.roots)/\w'.cell? ⟨w.heap.size,2,none⟩=some (.int .i64 c.space)/\w'.cell? ⟨w.heap.size+1,0,none⟩=some (.int .i64 k)/\w'.cell? ⟨w.heap.size+1,1,none⟩=some (.int .i64 u)/\w'.cell? ⟨w.heap.size+1,2,none⟩=some (.slice x c.roots cp))):=fun w' hk=>by
  have h1:=hk.at hC0 HNC.out.1
  have h2:=hk.at hB0 HNC.out.2
  exact⟨h1.cell 0 rfl,h1.cell 1 rfl,h1.cell 2 rfl,h2.cell 0 rfl,h2.cell 1 rfl,h2.cell 2 rfl⟩
 have HPU:Hid (∀(m:Nat) (s1:σ) (wx w':World) (i:Nat) (z v:Int),m<N->J m s1 wx->xe [] wx w'->i<a.n->z=(i:Int)->Calls Tryz.prog 240 #[ptr a.d,.int .i64 z,.int .u64 v,.func (.func F) first cap] w' (StoP now own J T G m [(i,v)] s1 w')):=fun m s1 wx w' i z v hm hj hk hi hz=>by
  subst hz
  exact xdK hF m s1 w' hm (hF.keep _ _ _ _ hj hk) i hi v
 clear hC0 hB0
 have EK:=hid (show IntKind.u64.wrap (k:Int)=(k:Int)from IntWalk.u64_in _ (by omega))
 have EU:=hid (show IntKind.u64.wrap (u:Int)=(u:Int)from IntWalk.u64_in _ (by omega))
 have kk:xe [] w0 w0.drew:=(xe.refl _ _).drew
 go_region_held2 (fun w'=>(w'.cell? ⟨w.heap.size,0,none⟩=some (.int .i64 c.log)∧w'.cell? ⟨w.heap.size,1,none⟩=some (.int .i64 c.roots)∧w'.cell? ⟨w.heap.size,2,none⟩=some (.int .i64 c.space)∧w'.cell? ⟨w.heap.size+1,0,none⟩=some (.int .i64 k)∧w'.cell? ⟨w.heap.size+1,1,none⟩=some (.int .i64 u)∧w'.cell? ⟨w.heap.size+1,2,none⟩=some (.slice x c.roots cp)))
  (first|exact HCB.out _ ((kk.mono (by simp)).trans hk1)|exact HCB.out _ (kk.mono (by simp)))
  (first
    |(go_at_call 135;refine(xQ _ c hs).mono ?_;rintro e w' ⟨rfl,hk1⟩;have kk:=kk.trans hk1;clear hk1)
    |(go_at_call 240;rw[EK.out];refine(HPU.out n s _ _ c.act _ _ (by have:=HNN.out;omega) HJ0.out kk (by have:=hin.out;omega) rfl).mono ?_;rintro e w1 (⟨c1,s1,rfl,ht1,hj1,hk1,ho1⟩|⟨rfl,hg1⟩);rotate_left;exact⟨rfl,.inr ⟨rfl,(hg1.left _)⟩⟩))
 rename_i hHd
 clear hHd
 have R1:xe (own s) w0 w1:=(kk.mono (by simp)).trans hk1
 have HO1:Hid (∀b∈own s1,b∈own s\/w0.heap.size≤b):=fun b hb=>(ho1 b hb).imp id fun h=>Nat.le_trans kk.size h
 have HT1:=hid ht1
 have HJ1:=hid hj1
 have HR1:=hid R1
 have HRS:Hid (∃R,blkW c k u c.roots f= [(c.act,(k:Int))]++R):=⟨_,rfl⟩
 clear ht1 hj1 hk1 ho1 R1 kk
 by_cases hc1:c1=0
 case neg=>
  have t1:(c1==0)=false:=by rw[beq_eq_false_iff_ne];exact hc1
  have t2:(c1 != 0)=true:=by simp[bne,t1]
  have HC1:=hid hc1
  clear hc1
  go_wp2_with fail
  go_ret
  obtain⟨R,hR⟩:=HRS.out
  rw[hR]
  exact ZT hF K0 HT1.out HJ1.out HR1.out HO1.out (.inr HC1.out)
 subst hc1
 clear HRS
 go_upto_region 4 with fail
 have kk:xe [] w1 w1.drew:=(xe.refl _ _).drew
 go_region_held2 (fun w'=>(w'.cell? ⟨w.heap.size,0,none⟩=some (.int .i64 c.log)∧w'.cell? ⟨w.heap.size,1,none⟩=some (.int .i64 c.roots)∧w'.cell? ⟨w.heap.size,2,none⟩=some (.int .i64 c.space)∧w'.cell? ⟨w.heap.size+1,0,none⟩=some (.int .i64 k)∧w'.cell? ⟨w.heap.size+1,1,none⟩=some (.int .i64 u)∧w'.cell? ⟨w.heap.size+1,2,none⟩=some (.slice x c.roots cp)))
  (first|exact HCB.out _ (VM HT1.out HR1.out HO1.out kk ht2 hk2 ho2).2.1|exact HCB.out _ (HR1.out.trans (kk.mono (by simp))))
  (first
    |(go_at_call 158;refine(X9 _ c hs).mono ?_;rintro e w' ⟨rfl,hk1⟩;have kk:=kk.trans hk1;clear hk1)
    |(go_at_call 240;rw[EU.out];refine(HPU.out (n+1) s1 _ _ (c.act+1) _ _ (by have:=HNN.out;omega) HJ1.out kk (by have:=hin.out;omega) (by simp)).mono ?_;rintro e w2 (⟨c2,s2,rfl,ht2,hj2,hk2,ho2⟩|⟨rfl,hg2⟩);rotate_left;exact⟨rfl,.inr ⟨rfl,(show WrG now T G ([(c.act,(k:Int))]++([(c.act+1,(u:Int))]++_)) s _ from WrG.app HT1.out (hg2.left _))⟩⟩))
 rename_i hHd
 clear hHd
 obtain⟨x1,x2,x3⟩:=VM HT1.out HR1.out HO1.out kk ht2 hk2 ho2
 have HT2:=hid x1
 have HR2:=hid x2
 have HO2:=hid x3
 have HJ2:=hid hj2
 have HRS:Hid (∃R,blkW c k u c.roots f=([(c.act,(k:Int))]++ [(c.act+1,(u:Int))])++R):=⟨_,rfl⟩
 clear x1 x2 x3 ht2 hj2 hk2 ho2 kk HT1 HR1 HO1 HJ1
 by_cases hc2:c2=0
 case neg=>
  have t1:(c2==0)=false:=by rw[beq_eq_false_iff_ne];exact hc2
  have t2:(c2 != 0)=true:=by simp[bne,t1]
  have HC2:=hid hc2
  clear hc2
  go_wp2_with fail
  go_ret
  obtain⟨R,hR⟩:=HRS.out
  rw[hR]
  exact ZT hF K0 HT2.out HJ2.out HR2.out HO2.out (.inr HC2.out)
 subst hc2
 clear HRS
 obtain⟨z1,z2,z3,z4,z5,z6⟩:=HCB.out _ HR2.out
 go_wp2_with fail
 clear z1 z2 z3 z4 z5 z6
 go_loopg [39] c.roots (fun r sl wr=>∃m:Nat,m+r=c.roots∧sl=.int .i64 m∧StoR now own J T n (blkW c k u m f) s w0 wr)
 case atStart=>
  refine⟨0,by omega,rfl,s2,HT2.out,?_,HR2.out,HO2.out⟩
  exact HJ2.out
 case round=>
  obtain⟨m,hm,rfl,s3,ht3,hj3,hr3,ho3⟩:=hrel
  have HT3:=hid ht3
  have HJ3:=hid hj3
  have HR3:=hid hr3
  have HO3:=hid ho3
  clear ht3 hj3 hr3 ho3
  by_cases hlt:m<c.roots
  ·obtain⟨b,off,rfl,hb,hcl⟩:∃b off,x=some ⟨b,off,none⟩/\b<w0.heap.size/\∀i,i<c.roots->w0.cell? ⟨b,off+i,none⟩=some (.int .u64 (f i)):=by
    rcases HX0.out with h|h
    ·omega
    ·exact h
   obtain⟨z1,z2,z3,z4,z5,z6⟩:=HCB.out _ HR3.out
   have d0:wr.cell? ⟨b,off+m,none⟩=some (.int .u64 (f m)):=by
    rw[HR3.out.cell hb (HXO.out b off rfl).1]
    exact hcl m hlt
   have hmi:(m:Int)<(c.roots:Int):=by omega
   have hmb:(m:Int)≤16:=by omega
   have HM:=hid hm
   have HLT:=hid hlt
   obtain⟨fm,hfm⟩:∃fm,fm=f m:=⟨_,rfl⟩
   rw[<-hfm]at d0
   have HFM:=hid hfm
   clear hm hcl hb hfm
   go_wp2_with fail
   refine(wR _ c hs m (by omega)).mono ?_
   rintro e w4 ⟨rfl,hk4⟩
   have K4:=hk4
   clear hk4
   go_wp2_with fail
   refine(HPU.out (n+(blkW c k u m f).length) s3 _ _ (c.root m) _ _ (by have:=HNN.out;rw[Yq];omega) HJ3.out K4 (by have:=hin.out;unfold Cfg.root;omega) rfl).mono ?_
   rintro e w5 (⟨c5,s5,rfl,ht5,hj5,hk5,ho5⟩|⟨rfl,hg5⟩)
   ·obtain⟨x1,x2,x3⟩:=VM HT3.out HR3.out HO3.out K4 ht5 hk5 ho5
    rw[HFM.out,<-Y6]at x1
    have HT5:=hid x1
    have HR5:=hid x2
    have HO5:=hid x3
    have HJ5:Hid (J (n+(blkW c k u (m+1) f).length) s5 w5):=by
     show J _ _ _
     rw[Y6,List.length_append,<-Nat.add_assoc];exact hj5
    clear x1 x2 x3 ht5 hj5 hk5 ho5 K4 z1 z2 z3 z4 z5 z6 d0
    by_cases hc5:c5=0
    ·subst hc5
     go_wp2_with fail
     go_roundg (c.roots-(m+1))
     case measure=>(have:=HM.out;omega)
     case rel=>exact⟨m+1,by have:=HM.out;omega,by go_num,s5,HT5.out,HJ5.out,HR5.out,HO5.out⟩
    ·have t1:(c5==0)=false:=by rw[beq_eq_false_iff_ne];exact hc5
     have t2:(c5 != 0)=true:=by simp[bne,t1]
     have HC5:=hid hc5
     clear hc5
     go_wp2_with fail
     go_ret
     obtain⟨R,hR⟩:=ZI c k u (show m+1≤c.roots from HLT.out) f
     rw[hR]
     exact ZT hF K0 HT5.out HJ5.out HR5.out HO5.out (.inr HC5.out)
   ·go_wp2_with fail
    obtain⟨R,hR⟩:=ZI c k u (show m+1≤c.roots from HLT.out) f
    refine⟨rfl,.inr ⟨rfl,?_⟩⟩
    rw[hR,Y6,List.append_assoc]
    refine WrG.app HT3.out (WrG.left _ ?_)
    rw[<-HFM.out]
    exact hg5
  ·have hme:m=c.roots:=by omega
   subst hme
   clear hlt hm
   go_wp2_with fail
   go_ret
   have:=ZT (R:=[]) hF K0 HT3.out HJ3.out HR3.out HO3.out (.inl rfl)
   rwa[List.append_nil]at this
end
open Go.RowKit Go.OpenShut
def xfm (p:Nat) (a:DA) (b:Int) (n:Nat) (S:DS) (w:World):Prop:=∃u,Pw w p a (-1) u S/\u≤b+(n:Int)
def xbC (S:DS) (i:Nat) (v:Int) (code:Int) (S':DS):Prop:=code=0/\S'=xh S [.st i v]
theorem vT (p:Nat) (a:DA) (b:Int) (hb:b≤1000000000000):
  wL 145 #[ptr a.d] #[] a (fun S=>S) (fun _=>[p,a.s,a.k,a.m]) 1000000 (xfm p a b) xbC (fun _ _ _ _=>False) where
 inv:=fun w i v=>by simp[go_sem]
 dev:=fun n S w ⟨u,h,_⟩=>⟨p,h.dev⟩
 keep:=fun n S w w' ⟨u,h,hu⟩ hk=>⟨u,h.keep0 hk,hu⟩
 more:=fun n S w ⟨u,h,hu⟩=>⟨u,h,by omega⟩
 call:=fun n S w i v hn ⟨u,h,hu⟩ hi=>by
  refine(xM w p a (-1) u S i v h hi (by omega)).mono ?_
  intro e w' hr
  obtain⟨rfl,h2,hk⟩:=hr.free h.lo
  exact .inl ⟨0,_,rfl,⟨rfl,rfl⟩,⟨_,h2,by simp;omega⟩,hk,fun b hb=>.inl hb⟩
theorem OwnU.rd {w:World} {B:Nat} {x:Option Addr} {cp n:Nat} {f:Nat->Int} (h:OwnU w B x cp n f):Reads w x n f:=by
 rcases h.form with⟨_,h⟩|⟨g,cur,rfl,_,h2,h3⟩
 ·exact .inl h
 ·exact .inr ⟨g,0,rfl,h2.lt,fun i hi=>by rw[Nat.zero_add];exact h2.cell i (h3 i hi)⟩
theorem xbp (c:Cfg) (k u:Int) (n:Nat) (f:Nat->Int):(blkW c k u n f).Pairwise (fun x y=>x.1≠y.1):=by
 unfold blkW
 rw[List.pairwise_cons,List.pairwise_cons,List.pairwise_map]
 refine⟨fun x hx=>?_,fun x hx=>?_,?_⟩
 ·rcases List.mem_cons.1 hx with rfl|hx
  ·simp
  ·obtain⟨i,_,rfl⟩:=List.mem_map.1 hx
   show c.act≠c.root i
   unfold Cfg.root;omega
 ·obtain⟨i,_,rfl⟩:=List.mem_map.1 hx
  show c.act+1≠c.root i
  unfold Cfg.root;omega
 ·refine List.Pairwise.imp ?_ List.nodup_range
  intro i j hij
  show c.root i≠c.root j
  unfold Cfg.root;omega
open Go.RowKit Go.OpenShut
abbrev xdz (f t:Int):Value:=.agg #[.int .i64 f,.int .i64 t]
theorem xu {c:Cfg} (k:Nat) (hk:k≤1):c.frm k+c.space≤c.words:=by
 have h2:=(xD c.space).1
 have h3:c.words=up8 (c.root c.roots)+2*up8 c.space:=rfl
 have h4:c.frm k=up8 (c.root c.roots)+k*up8 c.space:=rfl
 have h5:k*up8 c.space≤1*up8 c.space:=Nat.mul_le_mul_right _ hk
 omega
theorem xK {c:Cfg} (k:Nat):c.act+2+c.roots≤c.frm k:=by
 have h2:=(xD (c.root c.roots)).1
 have h4:c.frm k=up8 (c.root c.roots)+k*up8 c.space:=rfl
 have h5:c.root c.roots=c.act+2+c.roots:=rfl
 omega
theorem xa4 (w:World) (c:Cfg) (hc:c.Small) (k:Nat) (hk:k≤1) (u:Nat) (hu:u≤4096) (rs:Value):
  Calls Tryz.prog 89 #[cfgV c,bkV k u rs] w fun e w'=>e=.returned (xdz ((c.frm k:Int)+u) ((c.frm k:Int)+c.space))/\xe [] w w':=by
 have hsp:(c.space:Int)≤4096:=by have:=hc.2.2;omega
 have hui:(u:Int)≤4096:=by omega
 have hf:(c.frm k:Int)≤15000:=by have:=xW hc (show k≤2 by omega);omega
 have C1:=hid (fun(w:World) (i:Int) (hi:-100000≤i/\i≤100000)=>yM w c hc k hk u rs i hi)
 obtain⟨f,hfe⟩:∃f,f=c.frm k:=⟨_,rfl⟩
 rw[<-hfe]at hf C1⊢
 clear hfe
 go_enter Tryz.func89,Tryz.ntmps89
 go_upto_region 1 with fail
 have hC0:=((At.new w (cfgO c)).alloc (bkO k u rs)).alloc (.cells #[.int .i64 0,.int .i64 0] 113)
 have hB0:=(At.new (w.alloc (cfgO c)) (bkO k u rs)).alloc (.cells #[.int .i64 0,.int .i64 0] 113)
 have hS0:=At.new ((w.alloc (cfgO c)).alloc (bkO k u rs)) (.cells #[.int .i64 0,.int .i64 0] 113)
 have K0:=(((xe.refl [] w).alloc (cfgO c)).alloc (bkO k u rs)).alloc (.cells #[.int .i64 0,.int .i64 0] 113)
 rw[show(w.alloc (cfgO c)).heap.size=w.heap.size+1 by simp]at hB0
 rw[show((w.alloc (cfgO c)).alloc (bkO k u rs)).heap.size=w.heap.size+2 by simp]at hS0
 obtain⟨w0,hw0⟩:∃w0,w0=((w.alloc (cfgO c)).alloc (bkO k u rs)).alloc (.cells #[.int .i64 0,.int .i64 0] 113):=⟨_,rfl⟩
 have hz0:w0.heap.size=w.heap.size+3:=by rw[hw0];simp
 rw[<-hw0]at hC0 hB0 hS0 K0⊢
 clear hw0
 have HC:Hid (∀w',xe [w.heap.size+2] w0 w'->(w'.cell? ⟨w.heap.size,0,none⟩=some (.int .i64 c.log)/\w'.cell? ⟨w.heap.size,1,none⟩=some (.int .i64 c.roots)/\w'.cell? ⟨w.heap.size,2,none⟩=some (.int .i64 c.space)/\w'.cell? ⟨w.heap.size+1,0,none⟩=some (.int .i64 k)/\w'.cell? ⟨w.heap.size+1,1,none⟩=some (.int .i64 u)/\w'.cell? ⟨w.heap.size+1,2,none⟩=some rs)):=
  fun w' hk=>⟨(hk.at hC0 (by simp)).cell 0 rfl,(hk.at hC0 (by simp)).cell 1 rfl,(hk.at hC0 (by simp)).cell 2 rfl,(hk.at hB0 (by simp)).cell 0 rfl,(hk.at hB0 (by simp)).cell 1 rfl,(hk.at hB0 (by simp)).cell 2 rfl⟩
 have kk:xe [] w0 w0.drew:=(xe.refl _ _).drew
 go_region_held3 (fun w'=>w'.cell? ⟨w.heap.size,0,none⟩=some (.int .i64 c.log)∧w'.cell? ⟨w.heap.size,1,none⟩=some (.int .i64 c.roots)∧w'.cell? ⟨w.heap.size,2,none⟩=some (.int .i64 c.space)∧w'.cell? ⟨w.heap.size+1,0,none⟩=some (.int .i64 k)∧w'.cell? ⟨w.heap.size+1,1,none⟩=some (.int .i64 u)∧w'.cell? ⟨w.heap.size+1,2,none⟩=some rs)
  (first|exact HC.out _ (kk.mono (by simp))|exact HC.out _ (((kk.mono (by simp)).set (.inl (by simp)) _).set (.inl (by simp)) _))
  (first
    |(go_at_call 156;refine(C1.out _ _ (by omega)).mono ?_;rintro e w' ⟨rfl,hk1⟩;have kk:=kk.trans hk1;clear hk1;have hSp:=kk.at hS0 (by simp);have y0:=hSp.cell 0 rfl;have y1:=hSp.cell 1 rfl;have f0:=hSp.free 0;have f1:=hSp.free 1))
 rename_i hHd
 clear hHd
 have hF:=((kk.at hS0 (by simp)).set 0 (.int .i64 ((f:Int)+u))).set 1 (.int .i64 ((f:Int)+c.space))
 have x0:=hF.cell 0 rfl
 have x1:=hF.cell 1 rfl
 have KE:xe [] w ((w'.setCell ⟨w.heap.size+2,0,none⟩ (.int .i64 ((f:Int)+u))).setCell ⟨w.heap.size+2,1,none⟩ (.int .i64 ((f:Int)+c.space))):=((K0.trans kk).set (.inr (by simp)) _).set (.inr (by simp)) _
 clear y0 y1 f0 f1 hF hSp hS0 hB0 hC0 HC
 go_wp2_with fail
 refine bodyPost_ret (v:=xdz ((f:Int)+u) ((f:Int)+c.space)) (by simp[results,Tryz.results89,go_sem,x0,x1]) rfl ?_
 exact⟨rfl,KE⟩
section
variable {F:Nat} {first cap:Array Value} {a:DA} {σ:Type} {now:σ->DS} {own:σ->List Nat} {N:Nat} {J:Nat->σ->World->Prop} {T:σ->Nat->Int->Int->σ->Prop} {G:σ->Nat->Int->World->Prop}
def SqT (T:σ->Nat->Int->Int->σ->Prop):List (Nat×Int)->σ->Int->σ->Prop
 | [],s,code,s'=>code=0/\s'=s
 |(i,v)::l,s,code,s'=>∃c1 s1,T s i v c1 s1/\((c1≠0/\code=c1/\s'=s1)\/(c1=0/\SqT T l s1 code s'))
def SqG (T:σ->Nat->Int->Int->σ->Prop) (G:σ->Nat->Int->World->Prop):List (Nat×Int)->σ->World->Prop
 | [],_,_=>False
 |(i,v)::l,s,w=>G s i v w\/∃s1,T s i v 0 s1/\SqG T G l s1 w
theorem SqT.app:∀ {A B:List (Nat×Int)} {s s1 s2:σ} {code:Int},SqT T A s 0 s1->SqT T B s1 code s2->SqT T (A++B) s code s2
 | [],_,_,_,_,_,h,k=>by obtain⟨_,rfl⟩:=h;exact k
 |(i,v)::A,B,s,s1,s2,code,h,k=>by
  obtain⟨c1,t1,h1,⟨h2,h3,_⟩|⟨h2,h3⟩⟩:=h
  ·exact absurd h3.symm h2
  ·exact⟨c1,t1,h1,.inr ⟨h2,h3.app k⟩⟩
theorem SqG.app:∀ {A B:List (Nat×Int)} {s s1:σ} {w:World},SqT T A s 0 s1->SqG T G B s1 w->SqG T G (A++B) s w
 | [],_,_,_,_,h,k=>by obtain⟨_,rfl⟩:=h;exact k
 |(i,v)::A,B,s,s1,w,h,k=>by
  obtain⟨c1,t1,h1,⟨h2,h3,_⟩|⟨h2,h3⟩⟩:=h
  ·exact absurd h3.symm h2
  ·subst h2
   exact .inr ⟨t1,h1,SqG.app h3 k⟩
theorem SqG.left:∀ {A:List (Nat×Int)} {s:σ} {w:World} (B:List (Nat×Int)),SqG T G A s w->SqG T G (A++B) s w
 | [],_,_,_,h=>h.elim
 |(i,v)::A,s,w,B,h=>by
  rcases h with h|⟨s1,h1,h2⟩
  ·exact .inl h
  ·exact .inr ⟨s1,h1,h2.left B⟩
theorem SqT.left:∀ {A:List (Nat×Int)} {s s1:σ} {code:Int} (B:List (Nat×Int)),code≠0->SqT T A s code s1->SqT T (A++B) s code s1
 | [],_,_,_,_,h0,h=>absurd h.1 h0
 |(i,v)::A,s,s1,code,B,h0,h=>by
  obtain⟨c1,t1,h1,h2|⟨h2,h3⟩⟩:=h
  ·exact⟨c1,t1,h1,.inl h2⟩
  ·exact⟨c1,t1,h1,.inr ⟨h2,h3.left B h0⟩⟩
def SqP (own:σ->List Nat) (J:Nat->σ->World->Prop) (T:σ->Nat->Int->Int->σ->Prop) (G:σ->Nat->Int->World->Prop) (n:Nat) (l:List (Nat×Int)) (s:σ) (w:World) (e:Ending) (w':World):Prop:=
 (∃code s',e=.returned (.int .i64 code)/\SqT T l s code s'/\J (n+l.length) s' w'/\xe (own s) w w'/\∀b∈own s',b∈own s\/w.heap.size≤b)\/
 (e=.panicked [{ v:=xP,recovered:=false }]/\SqG T G l s w')
theorem Jm (hF:wL F first cap a now own N J T G) (n:Nat) (s:σ) (w:World) (hn:n<N) (hJ:J n s w) (i:Nat) (hi:i<a.n) (v:Int):
  Calls Tryz.prog F (first++(#[.int .i64 i,.int .u64 v]++cap)) w (SqP own J T G n [(i,v)] s w):=by
 refine(hF.call n s w i v hn hJ hi).mono ?_
 rintro e w' (⟨code,s',rfl,h1,h2,h3,h4⟩|⟨rfl,h1⟩)
 ·refine .inl ⟨code,s',rfl,⟨code,s',h1,?_⟩,h2,h3,h4⟩
  by_cases hc:code=0
  ·exact .inr ⟨hc,hc,rfl⟩
  ·exact .inl ⟨hc,rfl,rfl⟩
 ·exact .inr ⟨rfl,.inl h1⟩
def SqR (own:σ->List Nat) (J:Nat->σ->World->Prop) (T:σ->Nat->Int->Int->σ->Prop) (n:Nat) (l:List (Nat×Int)) (s:σ) (w:World) (w':World):Prop:=
 ∃s',SqT T l s 0 s'/\J (n+l.length) s' w'/\xe (own s) w w'/\∀b∈own s',b∈own s\/w.heap.size≤b
theorem xc5 {l l2:List (Nat×Int)} {s s1 s2:σ} {w0 wx w2 w3:World} {code:Int} (h1:SqT T l s 0 s1) (hk:xe (own s) w0 wx) (ho:∀b∈own s1,b∈own s\/w0.heap.size≤b) (hkk:xe [] wx w2)
  (h2:SqT T l2 s1 code s2) (hk2:xe (own s1) w2 w3) (ho2:∀b∈own s2,b∈own s1\/w2.heap.size≤b):
  SqT T (l++l2) s code s2/\xe (own s) w0 w3/\∀b∈own s2,b∈own s\/w0.heap.size≤b:=by
 have hk3:=hk.trans (hkk.mono (by simp))
 refine⟨h1.app h2,hk3.new hk2 ho,fun b hb=>?_⟩
 rcases ho2 b hb with h|h
 ·exact ho b h
 ·exact .inr (Nat.le_trans hk3.size h)
theorem WF (hF:wL F first cap a now own N J T G) {n:Nat} {l R:List (Nat×Int)} {s s2:σ} {w w0 w3:World} {code:Int} (hw:xe [] w w0) (h1:SqT T l s code s2) (hJ:J (n+l.length) s2 w3) (hk:xe (own s) w0 w3) (ho:∀b∈own s2,b∈own s\/w0.heap.size≤b) (hc:R= []\/code≠0):
  SqT T (l++R) s code s2/\J (n+(l++R).length) s2 w3/\xe (own s) w w3/\∀b∈own s2,b∈own s\/w.heap.size≤b:=by
 refine⟨?_,by rw[List.length_append,<-Nat.add_assoc];exact hF.mores hJ _,(hw.mono (by simp)).trans hk,fun b hb=>?_⟩
 ·rcases hc with rfl|hc
  ·rwa[List.append_nil]
  ·exact h1.left R hc
 ·rcases ho b hb with h|h
  ·exact .inl h
  ·exact .inr (Nat.le_trans hw.size h)
def layW (p:Nat) (v:Int) (m:Nat):List (Nat×Int):=(p,v)::(List.range m).map fun i=>(p+1+i,0)
theorem JN (p:Nat) (v:Int) (m:Nat):(layW p v m).length=m+1:=by simp[layW]
theorem YP (p:Nat) (v:Int) (m:Nat):layW p v (m+1)=layW p v m++ [(p+1+m,0)]:=by simp[layW,List.range_succ]
theorem XN (p:Nat) (v:Int) {m n:Nat} (h:m≤n):∃R,layW p v n=layW p v m++R:=by
 refine⟨(layW p v n).drop (m+1),?_⟩
 have e:layW p v m=(layW p v n).take (m+1):=by
  simp only[layW,List.take_succ_cons]
  rw[<-List.map_take,List.take_range,Nat.min_eq_left h]
 rw[e,List.take_append_drop]
theorem xdU (hF:wL F first cap a now own N J T G) (n:Nat) (s:σ) (w:World) (hJ:J n s w) (p nw r:Nat) (hnw:nw≤64) (hr:r≤nw) (hp:p+1+nw≤a.n) (hpb:p≤20000) (hN:n+nw+1≤N) (hlt:∀n s w,J n s w->∀b∈own s,b<w.heap.size):
  Calls Tryz.prog 159 #[.int .i64 p,hdV nw r,.func (.func F) first cap] w (SqP own J T G n (layW p (hdPk nw r) nw) s w):=by
 have hpi:(p:Int)≤20000:=by omega
 have hnwi:(nw:Int)≤64:=by omega
 have HP:=hid (fun w=>JU w nw r hnw hr)
 obtain⟨pk,hpk⟩:∃pk:Int,pk=((hdPk nw r:Nat):Int):=⟨_,rfl⟩
 rw[<-hpk]at HP⊢
 have HJ:=hid hJ
 have HO:=hid (hlt n s w hJ)
 have HNN:=hid hN
 have hin:=hid hp
 clear hJ hlt hpk hN hp hnw hr
 go_enter Tryz.func159,Tryz.ntmps159
 go_upto_region 1 with fail
 have hB0:=At.new w (hdO nw r)
 have K0:=(xe.refl [] w).alloc (hdO nw r)
 obtain⟨w0,hw0⟩:∃w0,w0=w.alloc (hdO nw r):=⟨_,rfl⟩
 rw[<-hw0]at hB0 K0⊢
 clear hw0
 have HJ0:=hid (hF.keep _ _ _ _ HJ.out K0)
 have HNC:Hid (w.heap.size∉own s):=fun h=>by have:=HO.out _ h;omega
 have hinv:=hF.inv
 have HCB:Hid (∀w',xe (own s) w0 w'->(w'.cell? ⟨w.heap.size,0,none⟩=some (.int .i64 nw)/\w'.cell? ⟨w.heap.size,1,none⟩=some (.int .i64 r))):=fun w' hk=>by
  have h1:=hk.at hB0 HNC.out
  exact⟨h1.cell 0 rfl,h1.cell 1 rfl⟩
 have HPU:Hid (∀(m:Nat) (s1:σ) (wx w':World) (i:Nat) (z v:Int),m<N->J m s1 wx->xe [] wx w'->i<a.n->z=(i:Int)->Calls Tryz.prog F (first++(#[.int .i64 z,.int .u64 v]++cap)) w' (SqP own J T G m [(i,v)] s1 w')):=fun m s1 wx w' i z v hm hj hk hi hz=>by
  subst hz
  exact Jm hF m s1 w' hm (hF.keep _ _ _ _ hj hk) i hi v
 clear hB0
 obtain⟨z1,z2⟩:=HCB.out _ (xe.refl _ _)
 go_wp2_with fail
 refine(HP.out _).mono ?_
 rintro e w1 ⟨rfl,hk1⟩
 clear z1 z2
 go_wp2_with fail
 refine(HPU.out n s w0 w1 p _ _ (by have:=HNN.out;omega) HJ0.out hk1 (by have:=hin.out;omega) rfl).mono ?_
 rintro e w2 (⟨c1,s1,rfl,ht1,hj1,hk2,ho1⟩|⟨rfl,hg1⟩)
 rotate_left
 ·go_wp2_with fail
  refine⟨rfl,.inr ⟨rfl,?_⟩⟩
  exact(hg1.left (T:=T) (G:=G) (A:=[(p,pk)]) _)
 have HT1:=hid ht1
 have HJ1:=hid hj1
 have HR1:Hid (xe (own s) w0 w2):=(hk1.mono (by simp)).trans hk2
 have HO1:Hid (∀b∈own s1,b∈own s\/w0.heap.size≤b):=fun b hb=>(ho1 b hb).imp id fun h=>Nat.le_trans hk1.size h
 clear ht1 hj1 hk1 hk2 ho1
 by_cases hc1:c1=0
 case neg=>
  have t1:(c1==0)=false:=by rw[beq_eq_false_iff_ne];exact hc1
  have t2:(c1 != 0)=true:=by simp[bne,t1]
  have HC1:=hid hc1
  clear hc1
  go_wp2_with fail
  go_ret
  obtain⟨R,hR⟩:=XN p pk (Nat.zero_le nw)
  rw[hR]
  exact .inl ⟨_,_,rfl,WF hF K0 HT1.out HJ1.out HR1.out HO1.out (.inr HC1.out)⟩
 subst hc1
 obtain⟨z1,z2⟩:=HCB.out _ HR1.out
 go_wp2_with fail
 clear z1 z2
 go_loopg [20] nw (fun r sl wr=>∃m:Nat,m+r=nw∧sl=.int .i64 m∧SqR own J T n (layW p pk m) s w0 wr)
 case atStart=>exact⟨0,by omega,rfl,s1,HT1.out,HJ1.out,HR1.out,HO1.out⟩
 case round=>
  obtain⟨m,hm,rfl,s3,ht3,hj3,hr3,ho3⟩:=hrel
  have HT3:=hid ht3
  have HJ3:=hid hj3
  have HR3:=hid hr3
  have HO3:=hid ho3
  clear ht3 hj3 hr3 ho3
  by_cases hlt:m<nw
  ·have hmi:(m:Int)<(nw:Int):=by omega
   have hmb:(m:Int)≤64:=by omega
   have HM:=hid hm
   have HLT:=hid hlt
   clear hm hlt
   go_wp2_with fail
   refine(HPU.out (n+(layW p pk m).length) s3 wr wr (p+1+m) _ _ (by have:=HNN.out;have:=HLT.out;rw[JN];omega) HJ3.out (xe.refl _ _) (by have:=hin.out;have:=HLT.out;omega) (by omega)).mono ?_
   rintro e w5 (⟨c5,s5,rfl,ht5,hj5,hk5,ho5⟩|⟨rfl,hg5⟩)
   ·obtain⟨x1,x2,x3⟩:=xc5 HT3.out HR3.out HO3.out (xe.refl _ _) ht5 hk5 ho5
    rw[<-YP]at x1
    have HT5:=hid x1
    have HR5:=hid x2
    have HO5:=hid x3
    have HJ5:Hid (J (n+(layW p pk (m+1)).length) s5 w5):=by
     show J _ _ _
     rw[YP,List.length_append,<-Nat.add_assoc];exact hj5
    clear x1 x2 x3 ht5 hj5 hk5 ho5
    by_cases hc5:c5=0
    ·subst hc5
     go_wp2_with fail
     go_roundg (nw-(m+1))
     case measure=>(have:=HM.out;omega)
     case rel=>exact⟨m+1,by have:=HM.out;have:=HLT.out;omega,by go_num,s5,HT5.out,HJ5.out,HR5.out,HO5.out⟩
    ·have t1:(c5==0)=false:=by rw[beq_eq_false_iff_ne];exact hc5
     have t2:(c5 != 0)=true:=by simp[bne,t1]
     have HC5:=hid hc5
     clear hc5
     go_wp2_with fail
     go_ret
     obtain⟨R,hR⟩:=XN p pk (show m+1≤nw from HLT.out)
     rw[hR]
     exact .inl ⟨_,_,rfl,WF hF K0 HT5.out HJ5.out HR5.out HO5.out (.inr HC5.out)⟩
   ·go_wp2_with fail
    obtain⟨R,hR⟩:=XN p pk (show m+1≤nw from HLT.out)
    refine⟨rfl,.inr ⟨rfl,?_⟩⟩
    rw[hR,YP,List.append_assoc]
    exact SqG.app HT3.out (SqG.left _ hg5)
  ·have hme:m=nw:=by omega
   subst hme
   clear hlt hm
   go_wp2_with fail
   go_ret
   have:=WF (R:=[]) hF K0 HT3.out HJ3.out HR3.out HO3.out (.inl rfl)
   rw[List.append_nil]at this
   exact .inl ⟨_,_,rfl,this⟩
def alcW (c:Cfg) (k u nw r:Nat):List (Nat×Int):=(c.act+1,((u+(nw+1):Nat):Int))::layW (c.frm k+u) (hdPk nw r) nw
theorem J9 (c:Cfg) (k u nw r:Nat):(alcW c k u nw r).length=nw+2:=by simp[alcW,JN]
def AlcP (own:σ->List Nat) (J:Nat->σ->World->Prop) (T:σ->Nat->Int->Int->σ->Prop) (G:σ->Nat->Int->World->Prop) (n p:Nat) (l:List (Nat×Int)) (s:σ) (w:World) (e:Ending) (w':World):Prop:=
 (∃code s',e=.returned (.tuple #[.int .i64 (if code=0 then(p:Int)else 0),.int .i64 code])/\SqT T l s code s'/\J (n+l.length) s' w'/\xe (own s) w w'/\∀b∈own s',b∈own s\/w.heap.size≤b)\/
 (e=.panicked [{ v:=xP,recovered:=false }]/\SqG T G l s w')
def AlP (now:σ->DS) (own:σ->List Nat) (J:Nat->σ->World->Prop) (T:σ->Nat->Int->Int->σ->Prop) (G:σ->Nat->Int->World->Prop) (n:Nat) (c:Cfg) (nw r:Nat) (s:σ) (w:World) (e:Ending) (w':World):Prop:=
 ((1<(now s).now c.act\/(c.space:Int)<(now s).now (c.act+1))/\e=.returned (.tuple #[.int .i64 0,.int .i64 10])/\xe [] w w')\/
 (∃k u:Nat,k≤1/\u≤c.space/\(now s).now c.act=(k:Int)/\(now s).now (c.act+1)=(u:Int)/\
   ((c.space<u+(nw+1)/\e=.returned (.tuple #[.int .i64 0,.int .i64 4])/\xe [] w w')\/
    (u+(nw+1)≤c.space/\AlcP own J T G n (c.frm k+u) (alcW c k u nw r) s w e w')))
theorem Qo (w:World) (d:Nat) (c:Cfg) (nw r:Int) (h:hdB nw r=false) (fv:Value):
  Calls Tryz.prog 90 #[ptr d,cfgV c,hdV nw r,fv] w fun e w'=>e=.returned (.tuple #[.int .i64 0,.int .i64 5])/\xe [] w w':=by
 have HE:Hid (hdE nw r=5):=by show _=_;simp[hdE,h]
 clear h
 go_enter Tryz.func90,Tryz.ntmps90
 go_upto_region 1 with fail
 have K0:=((xe.refl [] w).alloc (cfgO c)).alloc (hdO nw r)
 have hH:=At.new (w.alloc (cfgO c)) (hdO nw r)
 rw[show(w.alloc (cfgO c)).heap.size=w.heap.size+1 by simp]at hH
 obtain⟨w0,hw0⟩:∃w0,w0=(w.alloc (cfgO c)).alloc (hdO nw r):=⟨_,rfl⟩
 rw[<-hw0]at hH K0⊢
 clear hw0
 have h0:=hH.cell 0 rfl
 have h1:=hH.cell 1 rfl
 go_wp2_with fail
 refine(vG _ nw r).mono ?_
 rintro e w1 ⟨rfl,hk1⟩
 rw[HE.out]
 clear h0 h1
 go_wp2_with fail
 go_ret2
 exact⟨rfl,K0.trans hk1⟩
theorem VB (hF:wL F first cap a now own N J T G) (n:Nat) (s:σ) (w:World) (hJ:J n s w) (c:Cfg) (hc:c.Ok) (hcn:c.words=a.n) (nw r:Nat) (hnw:nw≤64) (hr:r≤nw) (hN:n+nw+2≤N)
  (h1:0≤(now s).now c.act) (h2:0≤(now s).now (c.act+1)) (hlt:∀n s w,J n s w->∀b∈own s,b<w.heap.size):
  Calls Tryz.prog 90 #[ptr a.d,cfgV c,hdV nw r,.func (.func F) first cap] w (AlP now own J T G n c nw r s w):=by
 have hs:=hc.small
 have hai:(c.act:Int)≤823:=by have:=vP hs;omega
 have hsp:(c.space:Int)≤4096:=by have:=hs.2.2;omega
 have hnwi:(nw:Int)≤64:=by omega
 have HE:Hid (hdE nw r=0):=xcw (by omega)
 obtain⟨p,hD⟩:=hF.dev n s w hJ
 have hK0:xe [] w ((w.alloc (cfgO c)).alloc (hdO nw r)):=((xe.refl [] w).alloc (cfgO c)).alloc (hdO nw r)
 have HO:=hid hc
 have HN:=hid hcn
 have HJ:=hid hJ
 have HOW:=hid (hlt n s w hJ)
 have HLT:=hid hlt
 have HNN:=hid hN
 have H12:=hid (And.intro h1 h2)
 have HW:=hid (And.intro hnw hr)
 have hact:Hid (c.act+2≤a.n):=by
  have:=@xK c 1
  have:=@xu c 1 (Nat.le_refl _)
  show _≤_;omega
 clear hc hcn hJ hlt hN h1 h2 hnw hr
 go_enter Tryz.func90,Tryz.ntmps90
 go_upto_region 1 with fail
 have hC0:=(At.new w (cfgO c)).alloc (hdO nw r)
 have hH0:=At.new (w.alloc (cfgO c)) (hdO nw r)
 rw[show(w.alloc (cfgO c)).heap.size=w.heap.size+1 by simp]at hH0
 have hz0:w.heap.size+2=((w.alloc (cfgO c)).alloc (hdO nw r)).heap.size:=by simp
 obtain⟨w0,hw0⟩:∃w0,w0=(w.alloc (cfgO c)).alloc (hdO nw r):=⟨_,rfl⟩
 rw[<-hw0]at hC0 hH0 hK0 hz0⊢
 clear hw0
 have HZ0:=hid hz0
 clear hz0
 have h0:=hH0.cell 0 rfl
 have h1:=hH0.cell 1 rfl
 go_wp2_with fail
 refine(vG _ nw r).mono ?_
 rintro e w1 ⟨rfl,hk1⟩
 rw[HE.out]
 have hC1:=hk1.at hC0 (by simp)
 have hH1:=hk1.at hH0 (by simp)
 have K1:=hK0.trans hk1
 have HZ1:=hid (Nat.le_trans (Nat.le_of_eq HZ0.out) hk1.size)
 clear h0 h1 hC0 hH0 hk1 hK0 HZ0
 have c0:=hC1.cell 0 rfl
 have c1:=hC1.cell 1 rfl
 have c2:=hC1.cell 2 rfl
 go_wp2_with fail
 refine(zI w1 p a (now s) c (hD.keep K1 (by simp) (by simp) (by simp) (by simp)) HO.out HN.out H12.out.1 H12.out.2).mono ?_
 rintro e w2 (⟨h9,rfl,hk2⟩|⟨k,u,x,cp,hk,hu,hA,hU,rfl,hOx,hk2⟩)
 ·have H9:=hid h9
  clear h9 c0 c1 c2
  go_wp2_with fail
  go_ret2
  exact .inl ⟨H9.out,rfl,(K1.trans hk2).alloc _⟩
 have hC2:=hk2.at hC1 (by simp)
 have hH2:=hk2.at hH1 (by simp)
 have HZ2:=hid (Nat.le_trans HZ1.out hk2.size)
 have K2:=K1.trans hk2
 have HAU:=hid (And.intro hA hU)
 have HKU:=hid (And.intro hk hu)
 have hui:(u:Int)≤4096:=by omega
 clear c0 c1 c2 hC1 hH1 hk2 hA hU K1 HZ1 hOx
 go_upto_region 7 with fail
 have hC3:=hC2.alloc (bkO k u (.slice x c.roots cp))
 have hH3:=hH2.alloc (bkO k u (.slice x c.roots cp))
 have hB3:=At.new w2 (bkO k u (.slice x c.roots cp))
 have K3:=K2.alloc (bkO k u (.slice x c.roots cp))
 have hz3:(w2.alloc (bkO k u (.slice x c.roots cp))).heap.size=w2.heap.size+1:=by simp
 obtain⟨bb,hbb⟩:∃bb,bb=w2.heap.size:=⟨_,rfl⟩
 obtain⟨w3,hw3⟩:∃w3,w3=w2.alloc (bkO k u (.slice x c.roots cp)):=⟨_,rfl⟩
 have HZB:Hid (w.heap.size+2≤bb):=by rw[hbb];exact HZ2.out
 rw[<-hw3]at hC3 hH3 hB3 K3 hz3⊢
 rw[<-hbb]at hB3 hz3⊢
 clear hw3 hbb hC2 hH2 K2 HZ2 hz3
 have HNC:Hid (w.heap.size∉own s/\w.heap.size+1∉own s/\bb∉own s):=⟨fun h=>by have:=HOW.out _ h;omega,fun h=>by have:=HOW.out _ h;omega,fun h=>by have:=HOW.out _ h;have:=HZB.out;omega⟩
 have HCB:Hid (∀w',xe (own s) w3 w'->(w'.cell? ⟨w.heap.size,0,none⟩=some (.int .i64 c.log)/\w'.cell? ⟨w.heap.size,1,none⟩=some (.int .i64 c.roots)/\w'.cell? ⟨w.heap.size,2,none⟩=some (.int .i64 c.space)/\w'.cell? ⟨w.heap.size+1,0,none⟩=some (.int .i64 nw)/\w'.cell? ⟨w.heap.size+1,1,none⟩=some (.int .i64 r)/\w'.cell? ⟨bb,0,none⟩=some (.int .i64 k)/\w'.cell? ⟨bb,1,none⟩=some (.int .i64 u)/\w'.cell? ⟨bb,2,none⟩=some (.slice x c.roots cp))):=fun w' hk=>by
  have e1:=hk.at hC3 HNC.out.1
  have e2:=hk.at hH3 HNC.out.2.1
  have e3:=hk.at hB3 HNC.out.2.2
  exact⟨e1.cell 0 rfl,e1.cell 1 rfl,e1.cell 2 rfl,e2.cell 0 rfl,e2.cell 1 rfl,e3.cell 0 rfl,e3.cell 1 rfl,e3.cell 2 rfl⟩
 have HSZ:=hid (fun(w:World)=>wH w nw r (by omega))
 have E1:=hid (show IntKind.i64.wrap ((c.space:Int)-(u:Int))=(c.space:Int)-(u:Int)from IntWalk.i64_in _ (by omega))
 clear hC3 hH3 hB3
 have e1:=E1.out
 have kk:xe [] w3 w3.drew:=(xe.refl _ _).drew
 go_region_held3 (fun w'=>(w'.cell? ⟨w.heap.size,0,none⟩=some (.int .i64 c.log)∧w'.cell? ⟨w.heap.size,1,none⟩=some (.int .i64 c.roots)∧w'.cell? ⟨w.heap.size,2,none⟩=some (.int .i64 c.space)∧w'.cell? ⟨w.heap.size+1,0,none⟩=some (.int .i64 nw)∧w'.cell? ⟨w.heap.size+1,1,none⟩=some (.int .i64 r)∧w'.cell? ⟨bb,0,none⟩=some (.int .i64 k)∧w'.cell? ⟨bb,1,none⟩=some (.int .i64 u)∧w'.cell? ⟨bb,2,none⟩=some (.slice x c.roots cp)))
  (exact HCB.out _ (kk.mono (by simp)))
  (first
    |(go_at_call 151;refine(HSZ.out _).mono ?_;rintro e w' ⟨rfl,hk1⟩;have kk:=kk.trans hk1;clear hk1))
 rename_i hHd
 clear hHd
 by_cases g:c.space<u+(nw+1)
 ·have t1:decide ((c.space:Int)-(u:Int)<(nw:Int)+1)=true:=decide_eq_true (by omega)
  have t3:(c.space:Int)-(u:Int)<(nw:Int)+1:=by omega
  have HG:=hid g
  clear g
  go_wp2_with fail
  go_ret2
  exact .inr ⟨k,u,HKU.out.1,HKU.out.2,HAU.out.1,HAU.out.2,.inl ⟨HG.out,rfl,K3.trans kk⟩⟩
 have t1:decide ((c.space:Int)-(u:Int)<(nw:Int)+1)=false:=decide_eq_false (by omega)
 have t3:(nw:Int)+1≤(c.space:Int)-(u:Int):=by omega
 have HG:=hid (show u+(nw+1)≤c.space by omega)
 clear g e1
 obtain⟨z1,z2,z3,z4,z5,z6,z7,z8⟩:=HCB.out _ (kk.mono (by simp))
 obtain⟨fp,hfp⟩:∃fp,fp=c.frm k:=⟨_,rfl⟩
 have HPL:=hid (fun w=>yM w c hs k HKU.out.1 u (.slice x c.roots cp) u (by omega))
 have hfi:fp+c.space≤a.n:=by rw[hfp,<-HN.out];exact xu k HKU.out.1
 have hf15:fp≤15000:=by rw[hfp];exact xW hs (by have:=HKU.out.1;omega)
 rw[<-hfp]at HPL
 have HFP:=hid hfp
 have HFI:=hid (And.intro hfi hf15)
 have hfb:(fp:Int)≤15000:=by omega
 clear hfp hfi hf15
 go_wp2_with fail
 refine(HPL.out _).mono ?_
 rintro e w4 ⟨rfl,hk4⟩
 have k4:=kk.trans hk4
 clear kk hk4 z1 z2 z3 z4 z5 z6 z7 z8 t1
 go_upto_region 10 with fail
 obtain⟨uv,huv⟩:∃uv:Int,uv=((u+(nw+1):Nat):Int):=⟨_,rfl⟩
 have EU:=hid (show IntKind.u64.wrap ((u:Int)+((nw:Int)+1))=uv by rw[huv,IntWalk.u64_in _ (by omega)];simp)
 have HAL:Hid (alcW c k u nw r= [(c.act+1,uv)]++layW (fp+u) (hdPk nw r) nw):=by show _=_;rw[huv,HFP.out];rfl
 clear huv
 have EV:=hid (show IntKind.i64.wrap ((u:Int)+((nw:Int)+1))=(u:Int)+((nw:Int)+1)from IntWalk.i64_in _ (by omega))
 have EW:=hid (show wrap64 ((u:Int)+((nw:Int)+1))=(u:Int)+((nw:Int)+1)from IntWalk.wrap64_in _ (by omega))
 have HJ4:=hid (hF.keep _ _ _ _ HJ.out (K3.trans k4))
 have hinv:=hF.inv
 have HPU:Hid (∀(m:Nat) (s1:σ) (wx w':World) (i:Nat) (z v:Int),m<N->J m s1 wx->xe [] wx w'->i<a.n->z=(i:Int)->Calls Tryz.prog F (first++(#[.int .i64 z,.int .u64 v]++cap)) w' (SqP own J T G m [(i,v)] s1 w')):=fun m s1 wx w' i z v hm hj hk hi hz=>by
  subst hz
  exact Jm hF m s1 w' hm (hF.keep _ _ _ _ hj hk) i hi v
 have HC4:Hid (∀w',xe (own s) w4 w'->(w'.cell? ⟨w.heap.size,0,none⟩=some (.int .i64 c.log)/\w'.cell? ⟨w.heap.size,1,none⟩=some (.int .i64 c.roots)/\w'.cell? ⟨w.heap.size,2,none⟩=some (.int .i64 c.space)/\w'.cell? ⟨w.heap.size+1,0,none⟩=some (.int .i64 nw)/\w'.cell? ⟨w.heap.size+1,1,none⟩=some (.int .i64 r)/\w'.cell? ⟨bb,0,none⟩=some (.int .i64 k)/\w'.cell? ⟨bb,1,none⟩=some (.int .i64 u)/\w'.cell? ⟨bb,2,none⟩=some (.slice x c.roots cp))):=fun w' hk=>HCB.out _ ((k4.mono (by simp)).trans hk)
 have e2:=EV.out
 have kk:xe [] w4 w4.drew:=(xe.refl _ _).drew
 go_region_held2 (fun w'=>(w'.cell? ⟨w.heap.size,0,none⟩=some (.int .i64 c.log)∧w'.cell? ⟨w.heap.size,1,none⟩=some (.int .i64 c.roots)∧w'.cell? ⟨w.heap.size,2,none⟩=some (.int .i64 c.space)∧w'.cell? ⟨w.heap.size+1,0,none⟩=some (.int .i64 nw)∧w'.cell? ⟨w.heap.size+1,1,none⟩=some (.int .i64 r)∧w'.cell? ⟨bb,0,none⟩=some (.int .i64 k)∧w'.cell? ⟨bb,1,none⟩=some (.int .i64 u)∧w'.cell? ⟨bb,2,none⟩=some (.slice x c.roots cp)))
  (first|exact HC4.out _ ((kk.mono (by simp)).trans hk1)|exact HC4.out _ (kk.mono (by simp)))
  (first
    |(go_at_call 158;refine(X9 _ c hs).mono ?_;rintro e w' ⟨rfl,hk9⟩;have kk:=kk.trans hk9;clear hk9)
    |(go_at_call 151;refine(HSZ.out _).mono ?_;rintro e w' ⟨rfl,hk9⟩;have kk:=kk.trans hk9;clear hk9)
    |(rw[EU.out];refine(HPU.out n s w4 _ (c.act+1) _ _ (by have:=HNN.out;omega) HJ4.out kk (by have:=hact.out;omega) (by simp)).mono ?_;rintro e w5 (⟨c1,s1,rfl,ht1,hj1,hk1,ho1⟩|⟨rfl,hg1⟩);rotate_left;exact⟨rfl,.inr ⟨k,u,HKU.out.1,HKU.out.2,HAU.out.1,HAU.out.2,.inr ⟨HG.out,.inr ⟨rfl,by rw[HAL.out];exact hg1.left _⟩⟩⟩⟩))
 rename_i hHd
 clear hHd e2 t3
 have R1:xe (own s) w4 w5:=(kk.mono (by simp)).trans hk1
 have HO1:Hid (∀b∈own s1,b∈own s\/w4.heap.size≤b):=fun b hb=>(ho1 b hb).imp id fun h=>Nat.le_trans kk.size h
 have HT1:=hid ht1
 have HJ1:=hid hj1
 have HR1:=hid R1
 have K4:=K3.trans k4
 clear ht1 hj1 hk1 ho1 R1 kk
 by_cases hc1:c1=0
 case neg=>
  have t1:(c1==0)=false:=by rw[beq_eq_false_iff_ne];exact hc1
  have t2:(c1 != 0)=true:=by simp[bne,t1]
  have HC1:=hid hc1
  clear hc1
  go_wp2_with fail
  go_ret2
  refine .inr ⟨k,u,HKU.out.1,HKU.out.2,HAU.out.1,HAU.out.2,.inr ⟨HG.out,.inl ⟨c1,s1,by rw[if_neg HC1.out];rfl,?_⟩⟩⟩
  rw[HAL.out]
  exact WF hF K4 HT1.out HJ1.out HR1.out HO1.out (.inr HC1.out)
 subst hc1
 obtain⟨z1,z2,z3,z4,z5,z6,z7,z8⟩:=HC4.out _ HR1.out
 have HLY:Hid (∀z:Int,z=((fp+u:Nat):Int)->Calls Tryz.prog 159 #[.int .i64 z,hdV nw r,.func (.func F) first cap] w5 (SqP own J T G (n+1) (layW (fp+u) (hdPk nw r) nw) s1 w5)):=fun z hz=>by
  subst hz
  have:=HFI.out
  have:=HG.out
  exact xdU hF (n+1) s1 w5 HJ1.out (fp+u) nw r HW.out.1 HW.out.2 (by omega) (by omega) (by have:=HNN.out;omega) HLT.out
 go_wp2_with fail
 refine(HLY.out _ (by simp)).mono ?_
 rintro e w6 (⟨c2,s2,rfl,ht2,hj2,hk2,ho2⟩|⟨rfl,hg2⟩)
 rotate_left
 ·go_wp2_with fail
  refine⟨rfl,.inr ⟨k,u,HKU.out.1,HKU.out.2,HAU.out.1,HAU.out.2,.inr ⟨HG.out,.inr ⟨rfl,?_⟩⟩⟩⟩
  rw[HAL.out]
  exact SqG.app HT1.out hg2
 obtain⟨x1,x2,x3⟩:=xc5 HT1.out HR1.out HO1.out (xe.refl _ _) ht2 hk2 ho2
 have HT2:=hid x1
 have HR2:=hid x2
 have HO2:=hid x3
 have HJ2:Hid (J (n+([(c.act+1,uv)]++layW (fp+u) (hdPk nw r) nw).length) s2 w6):=by
  show J _ _ _
  rw[List.length_append,<-Nat.add_assoc];exact hj2
 clear x1 x2 x3 ht2 hj2 hk2 ho2 z1 z2 z3 z4 z5 z6 z7 z8 HLY
 have HEN:Hid (SqT T (alcW c k u nw r) s c2 s2/\J (n+(alcW c k u nw r).length) s2 w6/\xe (own s) w w6/\∀b∈own s2,b∈own s\/w.heap.size≤b):=by
  rw[HAL.out]
  have:=WF (R:=[]) hF K4 HT2.out HJ2.out HR2.out HO2.out (.inl rfl)
  rw[List.append_nil]at this
  exact this
 by_cases hc2:c2=0
 ·subst hc2
  go_wp2_with fail
  go_ret2
  exact .inr ⟨k,u,HKU.out.1,HKU.out.2,HAU.out.1,HAU.out.2,.inr ⟨HG.out,.inl ⟨0,s2,by rw[if_pos rfl,HFP.out];simp,HEN.out⟩⟩⟩
 ·have t1:(c2==0)=false:=by rw[beq_eq_false_iff_ne];exact hc2
  have t2:(c2 != 0)=true:=by simp[bne,t1]
  have HC2:=hid hc2
  clear hc2
  go_wp2_with fail
  go_ret2
  exact .inr ⟨k,u,HKU.out.1,HKU.out.2,HAU.out.1,HAU.out.2,.inr ⟨HG.out,.inl ⟨c2,s2,by rw[if_neg HC2.out];rfl,HEN.out⟩⟩⟩
end
open Go.RowKit Go.OpenShut
theorem QP:∀ {l:List (Nat×Int)} {S S':DS} {code:Int},SqT xbC l S code S'->l.Pairwise (fun x y=>x.1≠y.1)->
  code=0/\S'.kept=S.kept/\(∀x∈l,S'.now x.1=x.2)/\∀j,(∀x∈l,x.1≠j)->S'.now j=S.now j
 | [],S,S',code,h,_=>by obtain⟨rfl,rfl⟩:=h;exact⟨rfl,rfl,by simp,fun _ _=>rfl⟩
 |(i,v)::l,S,S',code,h,hp=>by
  obtain⟨c1,S1,⟨e2,rfl⟩,h2⟩:=h
  rw[List.pairwise_cons]at hp
  have h4:(xh S [.st i v]).now i=v:=by
   show(if i=i then v else S.now i)=v
   rw[if_pos rfl]
  have h5:∀j,i≠j->(xh S [.st i v]).now j=S.now j:=fun j hj=>by
   show(if j=i then v else S.now j)=S.now j
   rw[if_neg (fun e=>hj e.symm)]
  rcases h2 with⟨h6,_⟩|⟨_,h6⟩
  ·exact absurd e2 h6
  ·obtain⟨rfl,hk,h7,h8⟩:=QP h6 hp.2
   refine⟨rfl,hk,fun x hx=>?_,fun j hj=>?_⟩
   ·rcases List.mem_cons.1 hx with rfl|hx
    ·exact(h8 i (fun y hy=>(hp.1 y hy).symm)).trans h4
    ·exact h7 x hx
   ·rw[h8 j (fun y hy=>hj y (List.mem_cons_of_mem _ hy)),h5 j (hj (i,v) List.mem_cons_self)]
theorem xc6 {j:Nat} :∀ {l:List (Nat×Int)} {S S':DS} {code:Int},SqT xbC l S code S'->(∀x∈l,x.1≠j)->Pre S S' j
 | [],S,S',code,h,_=>by obtain⟨_,rfl⟩:=h;exact Pre.refl _ _
 |(i,v)::l,S,S',code,h,hx=>by
  obtain⟨c1,S1,⟨e2,rfl⟩,h2⟩:=h
  have h4:Pre S (xh S [.st i v]) j:=xy fun y hy=>by
   rw[List.mem_singleton]at hy
   subst hy
   exact fun e=>hx (i,v) List.mem_cons_self e
  rcases h2 with⟨h6,_⟩|⟨_,h6⟩
  ·exact absurd e2 h6
  ·exact h4.trans (xc6 h6 fun x hx'=>hx x (List.mem_cons_of_mem _ hx'))
theorem xez:∀ {l:List (Nat×Int)} {S S':DS} {code:Int},SqT xbC l S code S'->S'.is=S.is
 | [],S,S',code,h=>by obtain⟨_,rfl⟩:=h;rfl
 |(i,v)::l,S,S',code,h=>by
  obtain⟨c1,S1,⟨e2,rfl⟩,h2⟩:=h
  rcases h2 with⟨h6,_⟩|⟨_,h6⟩
  ·exact absurd e2 h6
  ·exact(xez h6).trans rfl
theorem Je {σ:Type} {T:σ->Nat->Int->Int->σ->Prop} :∀ {l:List (Nat×Int)} {S:σ} {w:World},¬SqG T (fun _ _ _ _=>False) l S w
 | [],_,_,h=>h
 |(i,v)::l,S,w,h=>by
  rcases h with h|⟨s1,_,h⟩
  ·exact h
  ·exact Je h
def AlcF (c:Cfg) (k u nw r:Nat) (f g:Nat->Int):Prop:=
 g (c.act+1)=((u+(nw+1):Nat):Int)/\g (c.frm k+u)=((hdPk nw r:Nat):Int)/\(∀i,i<nw->g (c.frm k+u+1+i)=0)/\∀j,j≠c.act+1->(j<c.frm k+u\/c.frm k+u+nw<j)->g j=f j
theorem yP {p:Nat} {v:Int} {m:Nat} {x:Nat×Int} :x∈layW p v m↔x=(p,v)\/∃i,i<m/\x=(p+1+i,0):=by
 unfold layW
 rw[List.mem_cons,List.mem_map]
 constructor
 ·rintro(h|⟨i,hi,h⟩)
  ·exact .inl h
  ·exact .inr ⟨i,List.mem_range.1 hi,h.symm⟩
 ·rintro(h|⟨i,hi,h⟩)
  ·exact .inl h
  ·exact .inr ⟨i,List.mem_range.2 hi,h.symm⟩
theorem Vd (p:Nat) (v:Int) (m:Nat):(layW p v m).Pairwise (fun x y=>x.1≠y.1):=by
 unfold layW
 rw[List.pairwise_cons,List.pairwise_map]
 refine⟨fun x hx=>?_,?_⟩
 ·obtain⟨i,_,rfl⟩:=List.mem_map.1 hx
  show p≠p+1+i
  omega
 ·refine List.Pairwise.imp ?_ List.nodup_range
  intro i j hij
  show p+1+i≠p+1+j
  omega
theorem xbz (c:Cfg) (k u nw r:Nat):(alcW c k u nw r).Pairwise (fun x y=>x.1≠y.1):=by
 unfold alcW
 rw[List.pairwise_cons]
 refine⟨fun x hx=>?_,Vd _ _ _⟩
 have:=@xK c k
 show c.act+1≠x.1
 rcases yP.1 hx with rfl|⟨i,_,rfl⟩
 ·show c.act+1≠c.frm k+u;omega
 ·show c.act+1≠c.frm k+u+1+i;omega
theorem xcW {c:Cfg} {k u nw r:Nat} {S S':DS} {code:Int} (h:SqT xbC (alcW c k u nw r) S code S'):code=0/\(S'.kept=S.kept/\(∀j,j<c.act->Pre S S' j)/\S'.is=S.is)/\AlcF c k u nw r S.now S'.now:=by
 obtain⟨h1,h0,h2,h3⟩:=QP h (xbz c k u nw r)
 refine⟨h1,⟨h0,fun j hj=>xc6 h fun x hx=>?_,xez h⟩,h2 (c.act+1,_) (by simp[alcW]),h2 (c.frm k+u,_) ?_,fun i hi=>h2 (c.frm k+u+1+i,0) ?_,fun j hj hk=>h3 j ?_⟩
 ·have hfr:=@xK c k
  rcases List.mem_cons.1 hx with rfl|hx
  ·show c.act+1≠j;omega
  ·rcases yP.1 hx with rfl|⟨i,hi,rfl⟩
   ·show c.frm k+u≠j;omega
   ·show c.frm k+u+1+i≠j;omega
 ·exact List.mem_cons_of_mem _ (yP.2 (.inl rfl))
 ·exact List.mem_cons_of_mem _ (yP.2 (.inr ⟨i,hi,rfl⟩))
 ·intro x hx
  rcases List.mem_cons.1 hx with rfl|hx
  ·exact fun e=>hj e.symm
  ·rcases yP.1 hx with rfl|⟨i,hi,rfl⟩
   ·show c.frm k+u≠j;omega
   ·show c.frm k+u+1+i≠j;omega
def xfd (p:Nat) (a:DA) (u:Int) (S:DS) (c:Cfg) (k us nw r:Nat) (w:World) (e:Ending) (w':World):Prop:=
 (c.space<us+(nw+1)/\e=.returned (.tuple #[.int .i64 0,.int .i64 4])/\xe [] w w')\/
 (us+(nw+1)≤c.space/\e=.returned (.tuple #[.int .i64 ((c.frm k+us:Nat):Int),.int .i64 0])/\∃u' S',Pw w' p a (-1) u' S'/\u'≤u+((nw+2:Nat):Int)/\(S'.kept=S.kept/\(∀j,j<c.act->Pre S S' j)/\S'.is=S.is)/\AlcF c k us nw r S.now S'.now/\xe [p,a.s,a.k,a.m] w w')
theorem vW (w:World) (p:Nat) (a:DA) (u:Int) (S:DS) (c:Cfg) (h:Pw w p a (-1) u S) (hc:c.Ok) (hcn:c.words=a.n) (hb:u≤1000000000000) (k us:Nat) (hk:k≤1) (hus:us≤c.space) (h1:S.now c.act=(k:Int)) (h2:S.now (c.act+1)=(us:Int)) (nw r:Nat) (hnw:nw≤64) (hr:r≤nw):
  Calls Tryz.prog 90 #[ptr a.d,cfgV c,hdV nw r,.func (.func 145) #[ptr a.d] #[]] w (xfd p a u S c k us nw r w):=by
 refine(VB (vT p a u hb) 0 S w ⟨u,h,by simp⟩ c hc hcn nw r hnw hr (by omega) (by rw[h1];omega) (by rw[h2];omega) ?_).mono ?_
 ·rintro n s w ⟨u,hp,_⟩ b hb
  simp only[List.mem_cons,List.not_mem_nil,or_false]at hb
  rcases hb with rfl|rfl|rfl|rfl
  ·exact hp.pow.lt
  ·exact hp.dev.now.lt
  ·exact hp.dev.kept.lt
  ·exact hp.dev.map.lt
 ·rintro e w' (⟨h9,_,_⟩|⟨k1,u1,_,_,e1,e2,⟨g1,rfl,hk⟩|⟨g1,⟨code,S',rfl,hq,⟨u',hp,hu'⟩,hk,_⟩|⟨_,hg⟩⟩⟩)
  ·rw[h1,h2]at h9;omega
  ·rw[h1]at e1
   rw[h2]at e2
   obtain rfl:us=u1:=by omega
   exact .inl ⟨g1,rfl,hk⟩
  ·rw[h1]at e1
   rw[h2]at e2
   obtain rfl:us=u1:=by omega
   obtain rfl:k=k1:=by omega
   obtain⟨rfl,hkp,hA⟩:=xcW hq
   exact .inr ⟨g1,by rw[if_pos rfl],u',S',hp,by rw[J9]at hu';simpa using hu',hkp,hA,hk⟩
  ·exact absurd hg Je
open Go.RowKit Go.OpenShut
abbrev obV (n r z:Int):Value:=.agg #[.int .i64 n,.int .i64 r,.int .i64 z]
abbrev obO (n r z:Int):Obj:=.cells #[.int .i64 n,.int .i64 r,.int .i64 z] 151
def fldE (n r i:Int) (b:Bool):Int:=if i<0\/n≤i then 1 else if decide (i<r)=b then 0 else 5
theorem JW {n r i:Int} {b:Bool} (h:i<0\/n≤i):fldE n r i b=1:=by simp[fldE,h]
theorem vg {n r i:Int} {b:Bool} (h0:0≤i) (h1:i<n) (h2:decide (i<r)=b):fldE n r i b=0:=by
 have:¬(i<0\/n≤i):=by omega
 simp[fldE,this,h2]
theorem xa8 {n r i:Int} {b:Bool} (h0:0≤i) (h1:i<n) (h2:decide (i<r)≠b):fldE n r i b=5:=by
 have:¬(i<0\/n≤i):=by omega
 simp[fldE,this,h2]
theorem zV {n r i:Int} {b:Bool} (h:fldE n r i b=0):0≤i/\i<n/\decide (i<r)=b:=by
 unfold fldE at h
 by_cases h1:i<0\/n≤i
 ·rw[if_pos h1]at h;exact absurd h (by decide)
 ·rw[if_neg h1]at h
  by_cases h2:decide (i<r)=b
  ·exact⟨by omega,by omega,h2⟩
  ·rw[if_neg h2]at h;exact absurd h (by decide)
theorem Yp (w:World) (n r z i:Int) (b:Bool):
  Calls Tryz.prog 175 #[obV n r z,.int .i64 i,.bool b] w fun e w'=>e=.returned (.int .i64 (fldE n r i b))/\xe [] w w':=by
 by_cases h0:i<0
 ·have H:=hid (JW (b:=b) (r:=r) (.inl h0:i<0\/n≤i))
  have t0:decide (i<0)=true:=decide_eq_true h0
  go_enter Tryz.func175,Tryz.ntmps175
  go_wp2_with fail
  go_ret
  exact⟨by rw[H.out];rfl,(xe.refl _ _).alloc _⟩
 have t0:decide (i<0)=false:=decide_eq_false h0
 have hi0:0≤i:=by omega
 by_cases h1:n≤i
 ·have H:=hid (JW (b:=b) (r:=r) (.inr h1:i<0\/n≤i))
  have t1:decide (n≤i)=true:=decide_eq_true h1
  have t1':decide (i≥n)=true:=decide_eq_true h1
  clear h0
  go_enter Tryz.func175,Tryz.ntmps175
  go_wp2_with fail
  go_ret
  exact⟨by rw[H.out];rfl,(xe.refl _ _).alloc _⟩
 have t1:decide (n≤i)=false:=decide_eq_false h1
 have t1':decide (i≥n)=false:=decide_eq_false h1
 have hin:i<n:=by omega
 by_cases h2:decide (i<r)=b
 ·have H:=hid (vg hi0 hin h2)
  have t2:(decide (i<r) != b)=false:=by simp[h2]
  have t2':(decide (i<r)==b)=true:=by simp[h2]
  have HB:=hid h2
  clear h0 h1 h2
  go_enter Tryz.func175,Tryz.ntmps175
  go_wp2_with fail
  go_ret
  exact⟨by rw[H.out];rfl,(xe.refl _ _).alloc _⟩
 ·have H:=hid (xa8 hi0 hin h2)
  have t2':(decide (i<r)==b)=false:=by simpa using h2
  have t2:(decide (i<r) != b)=true:=by simp[bne,t2']
  clear h0 h1 h2
  go_enter Tryz.func175,Tryz.ntmps175
  go_wp2_with fail
  go_ret
  exact⟨by rw[H.out];rfl,(xe.refl _ _).alloc _⟩
theorem Xa (w:World) (n r z i:Int) (hz:0≤z/\z≤17592186044416) (hi:0≤i/\i≤100000):
  Calls Tryz.prog 176 #[obV n r z,.int .i64 i] w fun e w'=>e=.returned (.int .i64 (z+1+i))/\xe [] w w':=by
 go_enter Tryz.func176,Tryz.ntmps176
 go_wp2_with fail
 go_ret
 exact⟨rfl,(xe.refl _ _).alloc _⟩
def rdW (S:DS) (z i e0:Int):Int:=if e0=0 then S.now (z+1+i).toNat else 0
def rfW (S:DS) (z i e0:Int):Int:=if e0=0 then asInt (S.now (z+1+i).toNat)else 0
theorem xc7 {S:DS} {z i e0:Int} (h:e0≠0):rdW S z i e0=0:=by simp[rdW,h]
theorem xeD {S:DS} {z i e0:Int} (h:e0≠0):rfW S z i e0=0:=by simp[rfW,h]
theorem Z5 (w:World) (p:Nat) (a:DA) (S:DS) (h:Dev w p a S) (n r z i:Int) (hn:n≤64) (hz:0≤z/\z+n<a.n):
  Calls Tryz.prog 110 #[obV n r z,ptr a.d,.int .i64 i] w fun e w'=>e=.returned (.tuple #[.int .u64 (rdW S z i (fldE n r i false)),.int .i64 (fldE n r i false)])/\xe [] w w':=by
 have HF:=hid (fun w=>Yp w n r z i false)
 have hob:=At.new w (obO n r z)
 by_cases hf:fldE n r i false=0
 ·obtain⟨h0,h1,h2⟩:=zV hf
  have hfew:=h.few
  have hn8:=a.n8
  have HW:=hid (fun w=>Xa w n r z i (by omega) (by omega))
  have E:=hid (show rdW S z i (fldE n r i false)=S.now (z+1+i).toNat by simp[rdW,hf])
  have HL:=hid (fun(w':World) (hk:xe [] w w')=>Ym w' p a S (z+1+i) (h.keep hk (by simp) (by simp) (by simp) (by simp)) (by omega))
  have HE:=hid hf
  clear hf h0 h1 h2 hfew hn8 hz hn
  go_enter Tryz.func110,Tryz.ntmps110
  go_wp2_with fail
  refine(HF.out _).mono ?_
  rintro e w1 ⟨rfl,hk1⟩
  rw[HE.out]
  have ho1:=hk1.at hob (by simp)
  have K1:=((xe.refl [] w).alloc (obO n r z)).trans hk1
  have c0:=ho1.cell 0 rfl
  have c1:=ho1.cell 1 rfl
  have c2:=ho1.cell 2 rfl
  go_wp2_with fail
  refine(HW.out _).mono ?_
  rintro e w2 ⟨rfl,hk2⟩
  go_wp2_with fail
  refine(HL.out _ (K1.trans hk2)).mono ?_
  rintro e w3 ⟨rfl,rfl⟩
  go_wp2_with fail
  go_ret2
  exact⟨by rw[<-HE.out,E.out];rfl,K1.trans hk2⟩
 ·have E:=hid (xc7 (S:=S) (z:=z) (i:=i) hf)
  obtain⟨e0,he0⟩:∃e0,e0=fldE n r i false:=⟨_,rfl⟩
  rw[<-he0]at HF E hf⊢
  have t1:(e0==0)=false:=by rw[beq_eq_false_iff_ne];exact hf
  have t2:(e0 != 0)=true:=by simp[bne,t1]
  clear he0 hf
  go_enter Tryz.func110,Tryz.ntmps110
  go_wp2_with fail
  refine(HF.out _).mono ?_
  rintro e w1 ⟨rfl,hk1⟩
  go_wp2_with fail
  go_ret2
  exact⟨by rw[E.out];rfl,((xe.refl [] w).alloc (obO n r z)).trans hk1⟩
theorem xal (w:World) (p:Nat) (a:DA) (S:DS) (h:Dev w p a S) (n r z i:Int) (hn:n≤64) (hz:0≤z/\z+n<a.n):
  Calls Tryz.prog 106 #[obV n r z,ptr a.d,.int .i64 i] w fun e w'=>e=.returned (.tuple #[.int .i64 (rfW S z i (fldE n r i true)),.int .i64 (fldE n r i true)])/\xe [] w w':=by
 have HF:=hid (fun w=>Yp w n r z i true)
 have hob:=At.new w (obO n r z)
 by_cases hf:fldE n r i true=0
 ·obtain⟨h0,h1,h2⟩:=zV hf
  have hfew:=h.few
  have hn8:=a.n8
  have HW:=hid (fun w=>Xa w n r z i (by omega) (by omega))
  have E:=hid (show rfW S z i (fldE n r i true)=wrap64 (S.now (z+1+i).toNat) by simp[rfW,hf,asInt])
  have HL:=hid (fun(w':World) (hk:xe [] w w')=>Ym w' p a S (z+1+i) (h.keep hk (by simp) (by simp) (by simp) (by simp)) (by omega))
  have HE:=hid hf
  clear hf h0 h1 h2 hfew hn8 hz hn
  go_enter Tryz.func106,Tryz.ntmps106
  go_wp2_with fail
  refine(HF.out _).mono ?_
  rintro e w1 ⟨rfl,hk1⟩
  rw[HE.out]
  have ho1:=hk1.at hob (by simp)
  have K1:=((xe.refl [] w).alloc (obO n r z)).trans hk1
  have c0:=ho1.cell 0 rfl
  have c1:=ho1.cell 1 rfl
  have c2:=ho1.cell 2 rfl
  go_wp2_with fail
  refine(HW.out _).mono ?_
  rintro e w2 ⟨rfl,hk2⟩
  go_wp2_with fail
  refine(HL.out _ (K1.trans hk2)).mono ?_
  rintro e w3 ⟨rfl,rfl⟩
  go_wp2_with fail
  go_ret2
  exact⟨by rw[<-HE.out,E.out];rfl,K1.trans hk2⟩
 ·have E:=hid (xeD (S:=S) (z:=z) (i:=i) hf)
  obtain⟨e0,he0⟩:∃e0,e0=fldE n r i true:=⟨_,rfl⟩
  rw[<-he0]at HF E hf⊢
  have t1:(e0==0)=false:=by rw[beq_eq_false_iff_ne];exact hf
  have t2:(e0 != 0)=true:=by simp[bne,t1]
  clear he0 hf
  go_enter Tryz.func106,Tryz.ntmps106
  go_wp2_with fail
  refine(HF.out _).mono ?_
  rintro e w1 ⟨rfl,hk1⟩
  go_wp2_with fail
  go_ret2
  exact⟨by rw[E.out];rfl,((xe.refl [] w).alloc (obO n r z)).trans hk1⟩
def WrE (R:World->Int->World->Prop) (G:World->World->Prop) (e0:Int) (w:World) (e:Ending) (w':World):Prop:=
 (e0≠0/\e=.returned (.int .i64 e0)/\xe [] w w')\/
 (e0=0/\∃w1,xe [] w w1/\((∃code,e=.returned (.int .i64 code)/\R w1 code w')\/(e=.panicked [{ v:=xP,recovered:=false }]/\G w1 w')))
section
variable {F:Nat} {first cap:Array Value}
theorem WS (w:World) (n r z i v:Int) (R:World->Int->World->Prop) (G:World->World->Prop) (hn:n≤64) (hz:0≤z/\z≤17592186044416)
  (hinv:∀(w:World) (i v:Int),(callFunc F (first++(#[.int .i64 i,.int .u64 v]++cap))).run Tryz.prog w=.ok (.enter F (first++(#[.int .i64 i,.int .u64 v]++cap))) w)
  (hS:0≤i->i<n->∀w1,xe [] w w1->Calls Tryz.prog F (first++(#[.int .i64 (z+1+i),.int .u64 v]++cap)) w1 fun e w'=>(∃code,e=.returned (.int .i64 code)/\R w1 code w')\/(e=.panicked [{ v:=xP,recovered:=false }]/\G w1 w')):
  Calls Tryz.prog 109 #[obV n r z,.int .i64 i,.int .u64 v,.func (.func F) first cap] w (WrE R G (fldE n r i false) w):=by
 have HF:=hid (fun w=>Yp w n r z i false)
 have hob:=At.new w (obO n r z)
 by_cases hf:fldE n r i false=0
 ·obtain⟨h0,h1,h2⟩:=zV hf
  have HW:=hid (fun w=>Xa w n r z i (by omega) (by omega))
  have HS:=hid (hS h0 h1)
  have HE:=hid hf
  clear hf h0 h1 h2 hz hn hS
  go_enter Tryz.func109,Tryz.ntmps109
  go_wp2_with fail
  refine(HF.out _).mono ?_
  rintro e w1 ⟨rfl,hk1⟩
  rw[HE.out]
  have ho1:=hk1.at hob (by simp)
  have K1:=((xe.refl [] w).alloc (obO n r z)).trans hk1
  have c0:=ho1.cell 0 rfl
  have c1:=ho1.cell 1 rfl
  have c2:=ho1.cell 2 rfl
  go_wp2_with fail
  refine(HW.out _).mono ?_
  rintro e w2 ⟨rfl,hk2⟩
  go_wp2_with fail
  refine(HS.out _ (K1.trans hk2)).mono ?_
  rintro e w3 (⟨code,rfl,h3⟩|⟨rfl,h3⟩)
  ·go_wp2_with fail
   go_ret
   exact .inr ⟨HE.out,w2,K1.trans hk2,.inl ⟨code,rfl,h3⟩⟩
  ·go_wp2_with fail
   exact⟨rfl,.inr ⟨HE.out,w2,K1.trans hk2,.inr ⟨rfl,h3⟩⟩⟩
 ·obtain⟨e0,he0⟩:∃e0,e0=fldE n r i false:=⟨_,rfl⟩
  rw[<-he0]at HF hf⊢
  have t1:(e0==0)=false:=by rw[beq_eq_false_iff_ne];exact hf
  have t2:(e0 != 0)=true:=by simp[bne,t1]
  have HE:=hid hf
  clear he0 hf hS
  go_enter Tryz.func109,Tryz.ntmps109
  go_wp2_with fail
  refine(HF.out _).mono ?_
  rintro e w1 ⟨rfl,hk1⟩
  go_wp2_with fail
  go_ret
  exact .inl ⟨HE.out,rfl,((xe.refl [] w).alloc (obO n r z)).trans hk1⟩
theorem YH (w:World) (n r z i t:Int) (R:World->Int->World->Prop) (G:World->World->Prop) (hn:n≤64) (hz:0≤z/\z≤17592186044416)
  (hinv:∀(w:World) (i v:Int),(callFunc F (first++(#[.int .i64 i,.int .u64 v]++cap))).run Tryz.prog w=.ok (.enter F (first++(#[.int .i64 i,.int .u64 v]++cap))) w)
  (hS:0≤i->i<n->∀w1,xe [] w w1->Calls Tryz.prog F (first++(#[.int .i64 (z+1+i),.int .u64 (IntKind.u64.wrap t)]++cap)) w1 fun e w'=>(∃code,e=.returned (.int .i64 code)/\R w1 code w')\/(e=.panicked [{ v:=xP,recovered:=false }]/\G w1 w')):
  Calls Tryz.prog 103 #[obV n r z,.int .i64 i,.int .i64 t,.func (.func F) first cap] w (WrE R G (fldE n r i true) w):=by
 have HF:=hid (fun w=>Yp w n r z i true)
 have hob:=At.new w (obO n r z)
 obtain⟨v,hv⟩:∃v,IntKind.u64.wrap t=v:=⟨_,rfl⟩
 rw[hv]at hS
 by_cases hf:fldE n r i true=0
 ·obtain⟨h0,h1,h2⟩:=zV hf
  have HW:=hid (fun w=>Xa w n r z i (by omega) (by omega))
  have HS:=hid (hS h0 h1)
  have HE:=hid hf
  clear hf h0 h1 h2 hz hn hS
  go_enter Tryz.func103,Tryz.ntmps103
  go_wp2_with fail
  refine(HF.out _).mono ?_
  rintro e w1 ⟨rfl,hk1⟩
  rw[HE.out]
  have ho1:=hk1.at hob (by simp)
  have K1:=((xe.refl [] w).alloc (obO n r z)).trans hk1
  have c0:=ho1.cell 0 rfl
  have c1:=ho1.cell 1 rfl
  have c2:=ho1.cell 2 rfl
  go_wp2_with fail
  refine(HW.out _).mono ?_
  rintro e w2 ⟨rfl,hk2⟩
  go_wp2_with fail
  refine(HS.out _ (K1.trans hk2)).mono ?_
  rintro e w3 (⟨code,rfl,h3⟩|⟨rfl,h3⟩)
  ·go_wp2_with fail
   go_ret
   exact .inr ⟨HE.out,w2,K1.trans hk2,.inl ⟨code,rfl,h3⟩⟩
  ·go_wp2_with fail
   exact⟨rfl,.inr ⟨HE.out,w2,K1.trans hk2,.inr ⟨rfl,h3⟩⟩⟩
 ·obtain⟨e0,he0⟩:∃e0,e0=fldE n r i true:=⟨_,rfl⟩
  rw[<-he0]at HF hf⊢
  have t1:(e0==0)=false:=by rw[beq_eq_false_iff_ne];exact hf
  have t2:(e0 != 0)=true:=by simp[bne,t1]
  have HE:=hid hf
  clear he0 hf hS hv
  go_enter Tryz.func103,Tryz.ntmps103
  go_wp2_with fail
  refine(HF.out _).mono ?_
  rintro e w1 ⟨rfl,hk1⟩
  go_wp2_with fail
  go_ret
  exact .inl ⟨HE.out,rfl,((xe.refl [] w).alloc (obO n r z)).trans hk1⟩
end
def OfP (S:DS) (c:Cfg) (k u:Nat) (z:Int) (w:World) (e:Ending) (w':World):Prop:=
 (¬((c.frm k:Int)≤z/\z<(c.frm k:Int)+(u:Int))/\e=.returned (.tuple #[obV 0 0 0,.int .i64 6])/\xe [] w w')\/
 (∃j x:Nat,z=(j:Int)/\c.frm k≤j/\j<c.frm k+u/\S.now j=(x:Int)/\x<18446744073709551616/\
   ((¬(isHd x=true/\j+(hdN x+1)≤c.frm k+u)/\e=.returned (.tuple #[obV 0 0 0,.int .i64 8])/\xe [] w w')\/
    (isHd x=true/\j+(hdN x+1)≤c.frm k+u/\e=.returned (.tuple #[obV (hdN x) (hdR x) j,.int .i64 0])/\xe [] w w')))
theorem xdq {x:Nat} (h:isHd x=true):unV x=.tuple #[hdV (hdN x) (hdR x),.bool true]:=by simp[unV,h]
theorem xex {x:Nat} (h:isHd x=false):unV x=.tuple #[hdV 0 0,.bool false]:=by simp[unV,h]
theorem xdO (w:World) (p:Nat) (a:DA) (S:DS) (h:Dev w p a S) (c:Cfg) (hc:c.Ok) (hcn:c.words=a.n) (k:Nat) (hk:k≤1) (u:Nat) (hu:u≤c.space) (rs:Value) (z:Int) (hz:-9223372036854775808≤z/\z<9223372036854775808)
  (hx:∀j:Nat,z=(j:Int)->c.frm k≤j->j<c.frm k+u->∃x:Nat,S.now j=(x:Int)/\x<18446744073709551616):
  Calls Tryz.prog 174 #[ptr a.d,cfgV c,bkV k u rs,.int .i64 z] w (OfP S c k u z w):=by
 have hs:=hc.small
 have hub:u≤4096:=by have:=hs.2.2;omega
 have hfb:c.frm k≤15000:=xW hs (by omega)
 have hfa:c.frm k+c.space≤a.n:=by rw[<-hcn];exact xu k hk
 obtain⟨q,hq⟩:∃q,q=IntKind.u64.wrap z:=⟨_,rfl⟩
 have hq0:0≤q/\q<18446744073709551616:=by
  rw[hq]
  by_cases h0:0≤z
  ·rw[IntWalk.u64_in _ (by omega)];omega
  ·have:IntKind.u64.wrap z=z+18446744073709551616:=by
    show z%18446744073709551616=_
    omega
   omega
 have hqz:hasW c k u q=decide ((c.frm k:Int)≤z/\z<(c.frm k:Int)+(u:Int)):=by
  unfold hasW
  rw[hq]
  by_cases h0:0≤z
  ·rw[IntWalk.u64_in _ (by omega)]
  ·have e:IntKind.u64.wrap z=z+18446744073709551616:=by
    show z%18446744073709551616=_
    omega
   rw[e,decide_eq_decide]
   omega
 have HH:=hid (fun w=>xd3 w c hs k hk u hub rs q hq0)
 have HQ:=hid hq
 have K0:=(((xe.refl [] w).alloc (cfgO c)).alloc (bkO k u rs)).alloc (obO 0 0 0)
 have hC0:=((At.new w (cfgO c)).alloc (bkO k u rs)).alloc (obO 0 0 0)
 have hB0:=(At.new (w.alloc (cfgO c)) (bkO k u rs)).alloc (obO 0 0 0)
 have hO0:=At.new ((w.alloc (cfgO c)).alloc (bkO k u rs)) (obO 0 0 0)
 rw[show(w.alloc (cfgO c)).heap.size=w.heap.size+1 by simp]at hB0
 rw[show((w.alloc (cfgO c)).alloc (bkO k u rs)).heap.size=w.heap.size+2 by simp]at hO0
 obtain⟨w0,hw0⟩:∃w0,w0=((w.alloc (cfgO c)).alloc (bkO k u rs)).alloc (obO 0 0 0):=⟨_,rfl⟩
 have hz0:w0.heap.size=w.heap.size+3:=by rw[hw0];simp
 by_cases hhas:(c.frm k:Int)≤z/\z<(c.frm k:Int)+(u:Int)
 case neg=>
  have E:=hid (hqz.trans (decide_eq_false hhas))
  have HN:=hid hhas
  clear hhas hqz hq hq0
  go_enter Tryz.func174,Tryz.ntmps174
  go_upto_region 1 with fail
  rw[<-hw0]at hC0 hB0 hO0 K0⊢
  clear hw0
  have c0:=hC0.cell 0 rfl
  have c1:=hC0.cell 1 rfl
  have c2:=hC0.cell 2 rfl
  have b0:=hB0.cell 0 rfl
  have b1:=hB0.cell 1 rfl
  have b2:=hB0.cell 2 rfl
  go_wp2_with fail
  rw[<-HQ.out]
  refine(HH.out _).mono ?_
  rintro e w1 ⟨rfl,hk1⟩
  rw[E.out]
  have hO1:=hk1.at hO0 (by simp)
  have f0:=hO1.free 0
  have f1:=hO1.free 1
  have f2:=hO1.free 2
  have x0:=hO1.cell 0 rfl
  have x1:=hO1.cell 1 rfl
  have x2:=hO1.cell 2 rfl
  clear c0 c1 c2 b0 b1 b2
  go_wp2_with fail
  have hF:=((hO1.set 0 (.int .i64 0)).set 1 (.int .i64 0)).set 2 (.int .i64 0)
  have y0:=hF.cell 0 rfl
  have y1:=hF.cell 1 rfl
  have y2:=hF.cell 2 rfl
  refine bodyPost_ret (v:=.tuple #[obV 0 0 0,.int .i64 6]) (by simp[results,Tryz.results174,go_sem,y0,y1,y2]) rfl ?_
  exact .inl ⟨HN.out,rfl,(((K0.trans hk1).set (.inr (by show _≤_+1+1;omega)) _).set (.inr (by show _≤_+1+1;omega)) _).set (.inr (by show _≤_+1+1;omega)) _⟩
 case pos=>
  have E0:=hqz.trans (decide_eq_true hhas)
  obtain⟨j,rfl⟩:∃j:Nat,z=(j:Int):=⟨z.toNat,by omega⟩
  have hqj:q=(j:Int):=by rw[hq];exact IntWalk.u64_in _ (by omega)
  rw[hqj]at HH E0
  have E:=hid E0
  clear HQ hqj E0
  have hj1:c.frm k≤j:=by omega
  have hj2:j<c.frm k+u:=by omega
  obtain⟨x,hxe,hxb⟩:=hx j rfl hj1 hj2
  have HJ:=hid (And.intro hj1 (And.intro hj2 (And.intro hxe hxb)))
  have HL:=hid (fun(w':World) (hk:xe [] w w')=>XM w' p a S j x (h.keep hk (by simp) (by simp) (by simp) (by simp)) (by omega) hxe)
  have HU:=hid (fun w=>Zy w x hxb)
  obtain⟨f,hf⟩:∃f,f=c.frm k:=⟨_,rfl⟩
  have HPL:=hid (fun w=>yM w c hs k hk u rs u (by omega))
  rw[<-hf]at HPL
  have hfi:(f:Int)≤15000:=by omega
  have hui:(u:Int)≤4096:=by omega
  have hji:(j:Int)≤20000:=by omega
  have HFE:=hid hf
  clear hhas hqz hq hq0 hxe hxb hj1 hj2 hx hf hfb hfa hub hz
  go_enter Tryz.func174,Tryz.ntmps174
  go_upto_region 1 with fail
  rw[<-hw0]at hC0 hB0 hO0 K0⊢
  clear hw0
  have c0:=hC0.cell 0 rfl
  have c1:=hC0.cell 1 rfl
  have c2:=hC0.cell 2 rfl
  have b0:=hB0.cell 0 rfl
  have b1:=hB0.cell 1 rfl
  have b2:=hB0.cell 2 rfl
  go_wp2_with fail
  refine(HH.out _).mono ?_
  rintro e w1 ⟨rfl,hk1⟩
  rw[E.out]
  clear c0 c1 c2 b0 b1 b2
  go_wp2_with fail
  refine(HL.out _ (K0.trans hk1)).mono ?_
  rintro e w2 ⟨rfl,rfl⟩
  go_wp2_with fail
  refine(HU.out _).mono ?_
  rintro e w2 ⟨rfl,hk2⟩
  have k2:=hk1.trans hk2
  have hC2:=k2.at hC0 (by simp)
  have hB2:=k2.at hB0 (by simp)
  have hO2:=k2.at hO0 (by simp)
  have K2:=K0.trans k2
  have hz2:w.heap.size+3≤w2.heap.size:=hz0▸k2.size
  clear hk1 hk2 k2 hC0 hB0 hO0 K0 hz0
  cases hi:isHd x with
  |false=>
   rw[xex hi]
   have HI:=hid hi
   clear hi
   have hC3:=hC2.alloc (hdO 0 0)
   have hO3:=hO2.alloc (hdO 0 0)
   have K3:=K2.alloc (hdO 0 0)
   have f0:=hO3.free 0
   have f1:=hO3.free 1
   have f2:=hO3.free 2
   have x0:=hO3.cell 0 rfl
   have x1:=hO3.cell 1 rfl
   have x2:=hO3.cell 2 rfl
   go_upto_region 4 with fail
   go_region
   go_wp2_with fail
   have hF:=((hO3.set 0 (.int .i64 0)).set 1 (.int .i64 0)).set 2 (.int .i64 0)
   have y0:=hF.cell 0 rfl
   have y1:=hF.cell 1 rfl
   have y2:=hF.cell 2 rfl
   refine bodyPost_ret (v:=.tuple #[obV 0 0 0,.int .i64 8]) (by simp[results,Tryz.results174,go_sem,y0,y1,y2]) rfl ?_
   refine .inr ⟨j,x,rfl,HJ.out.1,HJ.out.2.1,HJ.out.2.2.1,HJ.out.2.2.2,.inl ⟨fun h=>?_,rfl,(((K3.set (.inr (by show _≤_+1+1;omega)) _).set (.inr (by show _≤_+1+1;omega)) _).set (.inr (by show _≤_+1+1;omega)) _).drew⟩⟩
   rw[HI.out]at h
   exact absurd h.1 (by decide)
  |true=>
   rw[xdq hi]
   have hb:=(yu hi).2
   obtain⟨n,hn⟩:∃n,n=hdN x:=⟨_,rfl⟩
   obtain⟨r,hr⟩:∃r,r=hdR x:=⟨_,rfl⟩
   rw[<-hn,<-hr]at hb⊢
   have HI:=hid hi
   have HNR:=hid (And.intro hn hr)
   clear hi hn hr
   have hni:(n:Int)≤64:=by omega
   have hri:(r:Int)≤64:=by omega
   have HSZ:=hid (fun(w:World)=>wH w n r (by omega))
   clear hb
   go_upto_region 4 with fail
   have hC3:=hC2.alloc (hdO n r)
   have hB3:=hB2.alloc (hdO n r)
   have hO3:=hO2.alloc (hdO n r)
   have hH3:=At.new w2 (hdO n r)
   have K3:=K2.alloc (hdO n r)
   obtain⟨hb,hhb⟩:∃hb,hb=w2.heap.size:=⟨_,rfl⟩
   obtain⟨w3,hw3⟩:∃w3,w3=w2.alloc (hdO n r):=⟨_,rfl⟩
   rw[<-hw3]at hC3 hB3 hO3 hH3 K3⊢
   rw[<-hhb]at hH3 hz2⊢
   clear hw3 hhb hC2 hB2 hO2 K2
   have HC:Hid (∀w',xe [] w3 w'->(w'.cell? ⟨w.heap.size,0,none⟩=some (.int .i64 c.log)/\w'.cell? ⟨w.heap.size,1,none⟩=some (.int .i64 c.roots)/\w'.cell? ⟨w.heap.size,2,none⟩=some (.int .i64 c.space)/\w'.cell? ⟨w.heap.size+1,0,none⟩=some (.int .i64 k)/\w'.cell? ⟨w.heap.size+1,1,none⟩=some (.int .i64 u)/\w'.cell? ⟨w.heap.size+1,2,none⟩=some rs/\w'.cell? ⟨hb,0,none⟩=some (.int .i64 n)/\w'.cell? ⟨hb,1,none⟩=some (.int .i64 r))):=fun w' hk=>by
    have e1:=hk.at hC3 (by simp)
    have e2:=hk.at hB3 (by simp)
    have e3:=hk.at hH3 (by simp)
    exact⟨e1.cell 0 rfl,e1.cell 1 rfl,e1.cell 2 rfl,e2.cell 0 rfl,e2.cell 1 rfl,e2.cell 2 rfl,e3.cell 0 rfl,e3.cell 1 rfl⟩
   have ew:IntKind.i64.wrap ((j:Int)+((n:Int)+1))=(j:Int)+((n:Int)+1):=IntWalk.i64_in _ (by omega)
   clear hC3 hB3
   have kk:xe [] w3 w3.drew:=(xe.refl _ _).drew
   go_region_held3 (fun w'=>(w'.cell? ⟨w.heap.size,0,none⟩=some (.int .i64 c.log)∧w'.cell? ⟨w.heap.size,1,none⟩=some (.int .i64 c.roots)∧w'.cell? ⟨w.heap.size,2,none⟩=some (.int .i64 c.space)∧w'.cell? ⟨w.heap.size+1,0,none⟩=some (.int .i64 k)∧w'.cell? ⟨w.heap.size+1,1,none⟩=some (.int .i64 u)∧w'.cell? ⟨w.heap.size+1,2,none⟩=some rs∧w'.cell? ⟨hb,0,none⟩=some (.int .i64 n)∧w'.cell? ⟨hb,1,none⟩=some (.int .i64 r)))
    (exact HC.out _ kk)
    (first
      |(go_at_call 151;refine(HSZ.out _).mono ?_;rintro e w' ⟨rfl,hk9⟩;have kk:=kk.trans hk9;clear hk9)
      |(go_at_call 156;refine(HPL.out _).mono ?_;rintro e w' ⟨rfl,hk9⟩;have kk:=kk.trans hk9;clear hk9))
   rename_i hHd
   clear hHd
   have hO4:=kk.at hO3 (by simp)
   have hH4:=kk.at hH3 (by simp)
   have K4:=K3.trans kk
   have f0:=hO4.free 0
   have f1:=hO4.free 1
   have f2:=hO4.free 2
   have x0:=hO4.cell 0 rfl
   have x1:=hO4.cell 1 rfl
   have x2:=hO4.cell 2 rfl
   have m0:=hH4.cell 0 rfl
   have m1:=hH4.cell 1 rfl
   by_cases hg:f+u<j+(n+1)
   ·have t1:decide ((f:Int)+(u:Int)<(j:Int)+((n:Int)+1))=true:=decide_eq_true (by omega)
    have t2:(f:Int)+(u:Int)<(j:Int)+((n:Int)+1):=by omega
    have HG:=hid hg
    clear hg
    go_wp2_with fail
    have hF:=((hO4.set 0 (.int .i64 0)).set 1 (.int .i64 0)).set 2 (.int .i64 0)
    have y0:=hF.cell 0 rfl
    have y1:=hF.cell 1 rfl
    have y2:=hF.cell 2 rfl
    refine bodyPost_ret (v:=.tuple #[obV 0 0 0,.int .i64 8]) (by simp[results,Tryz.results174,go_sem,y0,y1,y2]) rfl ?_
    refine .inr ⟨j,x,rfl,HJ.out.1,HJ.out.2.1,HJ.out.2.2.1,HJ.out.2.2.2,.inl ⟨fun h=>?_,rfl,((K4.set (.inr (by show _≤_+1+1;omega)) _).set (.inr (by show _≤_+1+1;omega)) _).set (.inr (by show _≤_+1+1;omega)) _⟩⟩
    have:=HG.out
    rw[<-HFE.out,<-HNR.out.1]at h
    omega
   ·have t1:decide ((f:Int)+(u:Int)<(j:Int)+((n:Int)+1))=false:=decide_eq_false (by omega)
    have t2:(j:Int)+((n:Int)+1)≤(f:Int)+(u:Int):=by omega
    have HG:=hid hg
    clear hg
    go_wp2_with fail
    have hF:=((hO4.set 0 (.int .i64 n)).set 1 (.int .i64 r)).set 2 (.int .i64 j)
    have y0:=hF.cell 0 rfl
    have y1:=hF.cell 1 rfl
    have y2:=hF.cell 2 rfl
    refine bodyPost_ret (v:=.tuple #[obV n r j,.int .i64 0]) (by simp[results,Tryz.results174,go_sem,y0,y1,y2]) rfl ?_
    refine .inr ⟨j,x,rfl,HJ.out.1,HJ.out.2.1,HJ.out.2.2.1,HJ.out.2.2.2,.inr ⟨HI.out,?_,by rw[HNR.out.1,HNR.out.2],((K4.set (.inr (by show _≤_+1+1;omega)) _).set (.inr (by show _≤_+1+1;omega)) _).set (.inr (by show _≤_+1+1;omega)) _⟩⟩
    have:=HG.out
    rw[<-HFE.out,<-HNR.out.1]
    omega
def OfD (S:DS) (c:Cfg) (k u:Nat) (z n r zz code:Int):Prop:=
 (¬((c.frm k:Int)≤z/\z<(c.frm k:Int)+(u:Int))/\n=0/\r=0/\zz=0/\code=6)\/
 (∃j x:Nat,z=(j:Int)/\c.frm k≤j/\j<c.frm k+u/\S.now j=(x:Int)/\x<18446744073709551616/\
   ((¬(isHd x=true/\j+(hdN x+1)≤c.frm k+u)/\n=0/\r=0/\zz=0/\code=8)\/
    (isHd x=true/\j+(hdN x+1)≤c.frm k+u/\n=(hdN x:Nat)/\r=(hdR x:Nat)/\zz=z/\code=0)))
theorem xeK (w:World) (p:Nat) (a:DA) (S:DS) (h:Dev w p a S) (c:Cfg) (hc:c.Ok) (hcn:c.words=a.n) (k:Nat) (hk:k≤1) (u:Nat) (hu:u≤c.space) (rs:Value) (z:Int) (hz:-9223372036854775808≤z/\z<9223372036854775808)
  (hx:∀j:Nat,z=(j:Int)->c.frm k≤j->j<c.frm k+u->∃x:Nat,S.now j=(x:Int)/\x<18446744073709551616):
  Calls Tryz.prog 174 #[ptr a.d,cfgV c,bkV k u rs,.int .i64 z] w fun e w'=>∃n r zz code,e=.returned (.tuple #[obV n r zz,.int .i64 code])/\xe [] w w'/\Hid (OfD S c k u z n r zz code):=by
 refine(xdO w p a S h c hc hcn k hk u hu rs z hz hx).mono ?_
 rintro e w' (⟨h1,rfl,hk'⟩|⟨j,x,h0,h1,h2,h3,h4,⟨h5,rfl,hk'⟩|⟨h5,h6,rfl,hk'⟩⟩)
 ·exact⟨0,0,0,6,rfl,hk',.inl ⟨h1,rfl,rfl,rfl,rfl⟩⟩
 ·exact⟨0,0,0,8,rfl,hk',.inr ⟨j,x,h0,h1,h2,h3,h4,.inl ⟨h5,rfl,rfl,rfl,rfl⟩⟩⟩
 ·exact⟨_,_,z,0,by rw[h0],hk',.inr ⟨j,x,h0,h1,h2,h3,h4,.inr ⟨h5,h6,rfl,rfl,rfl,rfl⟩⟩⟩
theorem xaU {n r:Nat} (hn:n≤64) (hr:r≤n):hdPk n r<18446744073709551616:=by unfold hdPk;omega
theorem jg (w:World) (p:Nat) (a:DA) (S:DS) (h:Dev w p a S) (c:Cfg) (hc:c.Ok) (hcn:c.words=a.n) (k:Nat) (hk:k≤1) (u:Nat) (hu:u≤c.space) (rs:Value) (P n r:Nat) (hw:S.now (c.frm k+P)=((hdPk n r:Nat):Int)) (hn:n≤64) (hr:r≤n) (hP:P+1+n≤u) (z:Int) (hz:z=((c.frm k+P:Nat):Int)):
  Calls Tryz.prog 174 #[ptr a.d,cfgV c,bkV k u rs,.int .i64 z] w fun e w'=>e=.returned (.tuple #[obV n r z,.int .i64 0])/\xe [] w w':=by
 have hf:=xW hc.small (show k≤2 by omega)
 have hs:=hc.small.2.2
 refine(xdO w p a S h c hc hcn k hk u hu rs z (by omega) (fun j hj _ _=>?_)).mono ?_
 ·obtain rfl:c.frm k+P=j:=by omega
  exact⟨_,hw,xaU hn hr⟩
 ·rintro e w' (⟨h1,_⟩|⟨j,x,h0,_,_,hx,hxb,hd⟩)
  ·exact absurd ⟨by omega,by omega⟩ h1
  ·obtain rfl:c.frm k+P=j:=by omega
   rw[hw]at hx
   obtain rfl:hdPk n r=x:=by omega
   rw[XZ n r hn,YW n r hn hr]at hd
   rcases hd with⟨h1,_⟩|⟨_,_,rfl,hk'⟩
   ·exact absurd ⟨vF n r hn hr,by omega⟩ h1
   ·exact⟨by rw[h0],hk'⟩
theorem Zj (w:World) (p:Nat) (a:DA) (u:Int) (S:DS) (h:Pw w p a (-1) u S) (hb:u≤1000000000000) (z v:Int) (hz:0≤z/\z<a.n):
  Calls Tryz.prog 145 #[ptr a.d,.int .i64 z,.int .u64 v] w fun e w'=>e=.returned (.int .i64 0)/\Hid (Pw w' p a (-1) (u+1) (xh S [.st z.toNat v])/\xe [p,a.s,a.k,a.m] w w'):=by
 obtain⟨j,rfl⟩:∃j:Nat,z=(j:Int):=⟨z.toNat,by omega⟩
 refine(xM w p a (-1) u S j v h (by omega) (by omega)).mono ?_
 intro e w' hr
 obtain⟨rfl,h1,h2⟩:=hr.free h.lo
 rw[Int.toNat_natCast]
 exact⟨rfl,by simpa using h1,h2⟩
def setS (S:DS) (z i v e0:Int):DS:=if e0=0 then xh S [.st (z+1+i).toNat v]else S
theorem QR {S:DS} {z i v e0:Int} (h:e0≠0):setS S z i v e0=S:=by simp[setS,h]
theorem ZW {S:DS} {z i v:Int} (j:Nat):(setS S z i v 0).now j=if j=(z+1+i).toNat then v else S.now j:=by
 unfold setS
 rw[if_pos rfl]
 rfl
def WrF (p:Nat) (a:DA) (u:Int) (S:DS) (z i v e0:Int) (w:World) (e:Ending) (w':World):Prop:=
 e=.returned (.int .i64 e0)/\Hid (∃u',Pw w' p a (-1) u' (setS S z i v e0)/\u'≤u+1/\xe [p,a.s,a.k,a.m] w w')
theorem jY (w:World) (p:Nat) (a:DA) (u:Int) (S:DS) (h:Pw w p a (-1) u S) (hb:u≤1000000000000) (z v:Int) (hz:0≤z/\z<a.n):
  Calls Tryz.prog 145 (#[ptr a.d]++(#[.int .i64 z,.int .u64 v]++#[])) w fun e w'=>
   (∃code,e=.returned (.int .i64 code)/\code=0/\Pw w' p a (-1) (u+1) (xh S [.st z.toNat v])/\xe [p,a.s,a.k,a.m] w w')\/(e=.panicked [{ v:=xP,recovered:=false }]/\False):=by
 obtain⟨j,rfl⟩:∃j:Nat,z=(j:Int):=⟨z.toNat,by omega⟩
 refine(xM w p a (-1) u S j v h (by omega) (by omega)).mono ?_
 intro e w' hr
 obtain⟨rfl,h1,h2⟩:=hr.free h.lo
 rw[Int.toNat_natCast]
 exact .inl ⟨0,rfl,rfl,by simpa using h1,h2⟩
theorem je (w:World) (p:Nat) (a:DA) (u:Int) (S:DS) (h:Pw w p a (-1) u S) (hb:u≤1000000000000) (n r z i v:Int) (hn:0≤n/\n≤64) (hz:0≤z/\z+n<a.n):
  Calls Tryz.prog 109 #[obV n r z,.int .i64 i,.int .u64 v,.func (.func 145) #[ptr a.d] #[]] w (WrF p a u S z i v (fldE n r i false) w):=by
 have hfew:=h.dev.few
 have hn8:=a.n8
 refine(WS (F:=145) (first:=#[ptr a.d]) (cap:=#[]) w n r z i v (fun w1 code w'=>code=0/\Pw w' p a (-1) (u+1) (xh S [.st (z+1+i).toNat v])/\xe [p,a.s,a.k,a.m] w1 w') (fun _ _=>False) hn.2 ⟨hz.1,by omega⟩ (vT p a u hb).inv (fun h1 h2 w1 hk=>jY w1 p a u S (h.keep0 hk) hb (z+1+i) v (by omega))).mono ?_
 rintro e w' (⟨h3,rfl,hk⟩|⟨h3,w1,hk,⟨code,rfl,rfl,hP,hk1⟩|⟨_,h4⟩⟩)
 ·refine⟨rfl,u,?_,by omega,hk.mono (by simp)⟩
  rw[QR h3]
  exact h.keep0 hk
 ·refine⟨by rw[h3],u+1,?_,by omega,(hk.mono (by simp)).trans hk1⟩
  rw[h3]
  unfold setS
  rw[if_pos rfl]
  exact hP
 ·exact h4.elim
theorem jf (w:World) (p:Nat) (a:DA) (u:Int) (S:DS) (h:Pw w p a (-1) u S) (hb:u≤1000000000000) (n r z i t v:Int) (hv:IntKind.u64.wrap t=v) (hn:0≤n/\n≤64) (hz:0≤z/\z+n<a.n):
  Calls Tryz.prog 103 #[obV n r z,.int .i64 i,.int .i64 t,.func (.func 145) #[ptr a.d] #[]] w (WrF p a u S z i v (fldE n r i true) w):=by
 have hfew:=h.dev.few
 have hn8:=a.n8
 refine(YH (F:=145) (first:=#[ptr a.d]) (cap:=#[]) w n r z i t (fun w1 code w'=>code=0/\Pw w' p a (-1) (u+1) (xh S [.st (z+1+i).toNat v])/\xe [p,a.s,a.k,a.m] w1 w') (fun _ _=>False) hn.2 ⟨hz.1,by omega⟩ (vT p a u hb).inv (fun h1 h2 w1 hk=>by rw[hv];exact jY w1 p a u S (h.keep0 hk) hb (z+1+i) v (by omega))).mono ?_
 rintro e w' (⟨h3,rfl,hk⟩|⟨h3,w1,hk,⟨code,rfl,rfl,hP,hk1⟩|⟨_,h4⟩⟩)
 ·refine⟨rfl,u,?_,by omega,hk.mono (by simp)⟩
  rw[QR h3]
  exact h.keep0 hk
 ·refine⟨by rw[h3],u+1,?_,by omega,(hk.mono (by simp)).trans hk1⟩
  rw[h3]
  unfold setS
  rw[if_pos rfl]
  exact hP
 ·exact h4.elim
theorem Xk (w:World) (n r z:Int) (d:Nat):
  Calls Tryz.prog 141 #[obV n r z,ptr d] w fun e w'=>e=.returned (.func (.func 195) #[] #[ptr w.heap.size,ptr (w.heap.size+1)])/\(w.alloc (obO n r z)).alloc (.cells #[ptr d] 28)=w':=by
 go_enter Tryz.func141,Tryz.ntmps141
 go_wp2_with fail
 go_ret
 exact⟨rfl,rfl⟩
end Go.Proofs.YtcdhklgahepcaaaGreat
