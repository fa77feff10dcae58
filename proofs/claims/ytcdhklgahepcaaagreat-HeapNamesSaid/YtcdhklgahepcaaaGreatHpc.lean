import Derived.Test.YtcdhklgahepcaaaGreatHpg
import Derived.Test.YtcdhklgahepcaaaGreatFlp
import Derived.Test.YtcdhklgahepcaaaGreatTbm
import Derived.Test.YtcdhklgahepcaaaGreatAwk13
import Derived.Test.YtcdhklgahepcaaaGreatCct
import Derived.BigQuiet
set_option maxHeartbeats 4000000
set_option maxRecDepth 100000
namespace Go.Proofs.YtcdhklgahepcaaaGreat
open Go.RowKit Go.OpenShut
abbrev hpO (d:Nat) (c:Cfg) (q t:Nat) (cv:Value):Obj:=.cells #[ptr d,.int .i64 c.log,.int .i64 c.roots,.int .i64 c.space,ptr q,ptr t,cv] 125
def HpCl (hb d:Nat) (c:Cfg) (q t:Nat) (w:World):Prop:=
 w.cell? ⟨hb,0,none⟩=some (ptr d)/\w.cell? ⟨hb,1,none⟩=some (.int .i64 c.log)/\w.cell? ⟨hb,2,none⟩=some (.int .i64 c.roots)/\w.cell? ⟨hb,3,none⟩=some (.int .i64 c.space)/\w.cell? ⟨hb,4,none⟩=some (ptr q)/\w.cell? ⟨hb,5,none⟩=some (ptr t)
theorem yj {w w':World} {hb d:Nat} {c:Cfg} {q t:Nat} {cv:Value} (h:At w hb (hpO d c q t cv)) {T:List Nat} (hk:xe T w w') (hT:hb∉T):HpCl hb d c q t w':=by
 have h1:=hk.at h hT
 exact⟨h1.cell 0 rfl,h1.cell 1 rfl,h1.cell 2 rfl,h1.cell 3 rfl,h1.cell 4 rfl,h1.cell 5 rfl⟩
theorem zA {w w':World} {hb d:Nat} {c:Cfg} {q t:Nat} {cv:Value} (h:At w hb (hpO d c q t cv)) {T:List Nat} (hk:xe T w w') (hT:hb∉T):
  w'.cell? ⟨hb,0,none⟩=some (ptr d)/\w'.cell? ⟨hb,1,none⟩=some (.int .i64 c.log)/\w'.cell? ⟨hb,2,none⟩=some (.int .i64 c.roots)/\w'.cell? ⟨hb,3,none⟩=some (.int .i64 c.space):=by
 obtain⟨h0,h1,h2,h3,_⟩:=yj h hk hT
 exact⟨h0,h1,h2,h3⟩
def BlkP (c:Cfg) (k us:Nat) (rs:List Nat) (w:World) (e:Ending) (w':World):Prop:=
 ∃x cp,e=.returned (.tuple #[bkV (k:Nat) (us:Nat) (.slice x c.roots cp),.int .i64 0])/\OwnU w' w.heap.size x cp c.roots (fun j=>((rs.getD j 0:Nat):Int))/\xe [] w w'
theorem xcQ (w:World) (p:Nat) (a:DA) {S:DS} {c:Cfg} {k us:Nat} {rs:List Nat} {os:List (Nat×Nat)} (hD:Dev w p a S) (hH:HepS S c a.n k us rs os) (hc:c.Ok) (hn:c.words=a.n):
  Calls Tryz.prog 149 #[ptr a.d,cfgV c] w (BlkP c k us rs w):=by
 refine(zI w p a S c hD hc hn (by rw[hH.act];omega) (by rw[hH.used];omega)).mono ?_
 rintro e w1 (⟨h9,rfl,hk9⟩|⟨k1,u1,x,cp,hk1,hu1,hA1,hU1,rfl,hO1,hk01⟩)
 ·rw[hH.act,hH.used]at h9
  have:=hH.us
  have:=hH.k1
  omega
 ·obtain rfl:k1=k:=by have:=hH.act;omega
  obtain rfl:u1=us:=by have:=hH.used;omega
  exact⟨x,cp,rfl,hO1.eq fun j hj=>hH.root j hj,hk01⟩
theorem Xv (w:World) (hb:Nat) (p:Nat) (a:DA) {S:DS} {c:Cfg} {q t:Nat} {cv:Value} {k us:Nat} {rs:List Nat} {os:List (Nat×Nat)} (hB:At w hb (hpO a.d c q t cv)) (hD:Dev w p a S) (hH:HepS S c a.n k us rs os) (hc:c.Ok) (hn:c.words=a.n):
  Calls Tryz.prog 79 #[ptr hb] w (BlkP c k us rs w):=by
 have HR:=hid (fun(w':World) (hk:xe [] w w')=>xcQ w' p a (hD.keep hk (by simp) (by simp) (by simp) (by simp)) hH hc hn)
 have HS:=hid (fun(w':World) (hk:xe [] w w')=>zA hB hk (by simp))
 have HBL:=hB.lt
 clear hB hD hH hc hn
 go_enter Tryz.func79,Tryz.ntmps79
 go_upto_region 1 with fail
 have hX:=At.new w (bkO 0 0 (.slice none 0 0))
 have kk:=(xe.refl [] w).alloc (bkO 0 0 (.slice none 0 0))
 obtain⟨rb,hrb⟩:∃q,q=w.heap.size:=⟨_,rfl⟩
 obtain⟨w1,hw1⟩:∃w1,w1=w.alloc (bkO 0 0 (.slice none 0 0)):=⟨_,rfl⟩
 first|rw[<-hrb]|skip
 rw[<-hrb]at hX
 rw[<-hw1]at hX kk⊢
 have HZ1:Hid (w.heap.size≤rb):=Nat.le_of_eq hrb.symm
 have HX:=hid (fun(w':World) (hk:xe [] w1 w')=>hk.at hX (by simp))
 have HK1:=hid kk
 have kk1:=(xe.refl [] w1).drew
 clear hw1 hrb hX kk
 go_region_held3 (fun w'=>w'.cell? ⟨hb,0,none⟩=some (ptr a.d)∧w'.cell? ⟨hb,1,none⟩=some (.int .i64 c.log)∧w'.cell? ⟨hb,2,none⟩=some (.int .i64 c.roots)∧w'.cell? ⟨hb,3,none⟩=some (.int .i64 c.space))
  (exact HS.out _ (by repeat (first|exact HK1.out.trans kk1|refine xe.set ?_ (.inr HZ1.out) _)))
  (first|(go_at_call 149;refine(HR.out _ (HK1.out.trans kk1)).mono ?_;rintro e w2 ⟨x,cp,rfl,hO,hk2⟩;have kk1:=kk1.trans hk2;have hX2:=HX.out w2 kk1;have y0:=hX2.cell 0 rfl;have y1:=hX2.cell 1 rfl;have y2:=hX2.cell 2 rfl;have f0:=hX2.free 0;have f1:=hX2.free 1;have f2:=hX2.free 2))
 rename_i hHd
 clear hHd
 have hF:=((hX2.set 0 (.int .i64 (k:Nat))).set 1 (.int .i64 (us:Nat))).set 2 (.slice x c.roots cp)
 have x0:=hF.cell 0 rfl
 have x1:=hF.cell 1 rfl
 have x2:=hF.cell 2 rfl
 have KE:xe [] w (((w2.setCell ⟨rb,0,none⟩ (.int .i64 (k:Nat))).setCell ⟨rb,1,none⟩ (.int .i64 (us:Nat))).setCell ⟨rb,2,none⟩ (.slice x c.roots cp)):=(((HK1.out.trans kk1).set (.inr HZ1.out) _).set (.inr HZ1.out) _).set (.inr HZ1.out) _
 have hO2:OwnU (((w2.setCell ⟨rb,0,none⟩ (.int .i64 (k:Nat))).setCell ⟨rb,1,none⟩ (.int .i64 (us:Nat))).setCell ⟨rb,2,none⟩ (.slice x c.roots cp)) w.heap.size x cp c.roots (fun j=>((rs.getD j 0:Nat):Int)):=by
  refine(hO.low (Nat.le_trans HK1.out.size (xe.refl [] w1).drew.size)).keep (T:=[rb]) ((((xe.refl _ w2).set (.inl (by simp)) _).set (.inl (by simp)) _).set (.inl (by simp)) _) fun b hb' h=>?_
  have h1:=(hO.ge b hb').1
  have h2:=(HX.out w1 (xe.refl _ _)).lt
  have h3:w1.heap.size≤w1.drew.heap.size:=(xe.refl [] w1).drew.size
  simp at h
  omega
 have HE:=hid (And.intro hO2 KE)
 clear y0 y1 y2 f0 f1 f2 hF hX2 hO hk2 kk1 hO2 KE
 go_wp2_with fail
 refine bodyPost_ret (v:=.tuple #[bkV (k:Nat) (us:Nat) (.slice x c.roots cp),.int .i64 0]) (by simp[results,Tryz.results79,go_sem,x0,x1,x2]) rfl ?_
 exact⟨x,cp,rfl,HE.out⟩
def numA (g:Nat->Nat) (z:Int):Nat:=if 0≤z then g z.toNat else 0
def plE (g:Nat->Nat) (z:Int):Int:=if z=0\/numA g z≠0 then 0 else 6
theorem jD (w:World) (x:Tb) (m:Nat) (g:Nat->Nat) (z:Int) (h:TabW w x m g):
  Calls Tryz.prog 170 #[ptr x.t,.int .i64 z] w fun e w'=>e=.returned (.tuple #[.int .i64 (numA g z:Nat),.bool (decide (numA g z≠0))])/\w'=w:=by
 refine(xaN w x m g z h).mono ?_
 rintro e w' ⟨rfl,rfl⟩
 refine⟨?_,rfl⟩
 unfold numA
 by_cases hz:0≤z<;>simp[hz]
theorem xap {w:World} {x:Tb} {m:Nat} {g:Nat->Nat} (hT:TabW w x m g):numA g 0=0:=by
 unfold numA
 rw[if_pos (by omega)]
 rcases Nat.eq_zero_or_pos (g 0)with h|h
 ·exact h
 ·have:=(hT.bd 0 (by omega)).1
  omega
theorem xdf (w:World) (hb d:Nat) (c:Cfg) (q:Nat) (x:Tb) (cv:Value) (m:Nat) (g:Nat->Nat) (z:Int) (hB:At w hb (hpO d c q x.t cv)) (hT:TabW w x m g):
  Calls Tryz.prog 102 #[ptr hb,.int .i64 z] w fun e w'=>e=.returned (.tuple #[.int .i64 (numA g z:Nat),.int .i64 (plE g z)])/\w'=w:=by
 have hg0:=xap hT
 have c5:=hB.cell 5 rfl
 have HP:=hid (jD w x m g z hT)
 clear hB hT
 go_enter Tryz.func102,Tryz.ntmps102
 by_cases hz:z=0
 ·subst hz
  have HC:Hid (plE g 0=0):=if_pos (.inl rfl)
  rw[hg0]
  clear HP hg0
  go_wp2_with fail
  go_ret2
  exact⟨by rw[HC.out];rfl,rfl⟩
 have t1:(z==0)=false:=by rw[beq_eq_false_iff_ne];exact hz
 have HC:Hid (numA g z=0->plE g z=6):=fun h=>if_neg fun h'=>h'.elim hz fun h'=>h' h
 have HC2:Hid (numA g z≠0->plE g z=0):=fun h=>if_pos (.inr h)
 obtain⟨v,hv⟩:∃v,v=numA g z:=⟨_,rfl⟩
 rw[<-hv]at HP HC HC2⊢
 clear hg0 hv
 go_wp2_with fail
 refine HP.out.mono ?_
 rintro e w' ⟨rfl,rfl⟩
 by_cases h0:v=0
 ·have HCA:=hid (HC.out h0)
  clear HC
  subst h0
  have e1:decide ((0:Nat)≠0)=false:=rfl
  clear HC2
  go_wp2_with fail
  go_ret2
  exact⟨by rw[HCA.out];rfl,rfl⟩
 ·have HCB:=hid (HC2.out h0)
  clear HC2
  have e1:decide (v≠0)=true:=decide_eq_true h0
  clear HC
  go_wp2_with fail
  go_ret2
  exact⟨by rw[HCB.out];rfl,rfl⟩
def hasR (c:Cfg) (i:Int):Bool:=decide (0≤i)&&decide (i<(c.roots:Int))
theorem xaS (w:World) (hb d:Nat) (c:Cfg) (q t:Nat) (cv:Value) (i:Int) (hB:At w hb (hpO d c q t cv)):
  Calls Tryz.prog 104 #[ptr hb,.int .i64 i] w fun e w'=>e=.returned (.bool (hasR c i))/\w'=w:=by
 have c2:=hB.cell 2 rfl
 clear hB
 go_enter Tryz.func104,Tryz.ntmps104
 by_cases h1:0≤i
 ·have t1:decide (0≤i)=true:=decide_eq_true h1
  by_cases h2:i<(c.roots:Int)
  ·have t2:decide (i<(c.roots:Int))=true:=decide_eq_true h2
   have HC:Hid (hasR c i=true):=by show _=_;unfold hasR;rw[t1,t2];rfl
   go_wp2_with fail
   go_ret
   exact⟨by rw[HC.out];rfl,rfl⟩
  ·have t2:decide (i<(c.roots:Int))=false:=decide_eq_false h2
   have HC:Hid (hasR c i=false):=by show _=_;unfold hasR;rw[t1,t2];rfl
   go_wp2_with fail
   go_ret
   exact⟨by rw[HC.out];rfl,rfl⟩
 ·have t1:decide (0≤i)=false:=decide_eq_false h1
  have HC:Hid (hasR c i=false):=by show _=_;unfold hasR;rw[t1];rfl
  go_wp2_with fail
  go_ret
  exact⟨by rw[HC.out];rfl,rfl⟩
def drE (g:Nat->Nat) (z:Int):Int:=if numA g z=0 then 6 else 0
def drG (g:Nat->Nat) (z:Int):Nat->Nat:=if 0≤z then upd g z.toNat 0 else g
theorem xaT (w:World) (hb d:Nat) (c:Cfg) (q:Nat) (x:Tb) (cv:Value) (m:Nat) (g:Nat->Nat) (z:Int) (hB:At w hb (hpO d c q x.t cv)) (hT:TabW w x m g):
  Calls Tryz.prog 42 #[ptr hb,.int .i64 z] w fun e w'=>e=.returned (.int .i64 (drE g z))/\TabW w' x m (drG g z)/\xe x.bl w w':=by
 have c5:=hB.cell 5 rfl
 have HP:=hid (xcv w x m g z hT)
 have hq:decide (0≤z/\g z.toNat≠0)=decide (numA g z≠0):=by
  unfold numA
  by_cases h:0≤z<;>simp[h]
 rw[hq]at HP
 clear hB hT hq
 go_enter Tryz.func42,Tryz.ntmps42
 go_wp2_with fail
 refine HP.out.mono ?_
 rintro e w' ⟨rfl,h1,h2⟩
 have HE:Hid (TabW w' x m (drG g z)/\xe x.bl w w'):=⟨h1,h2.mono (by simp;omega)⟩
 clear h1 h2
 by_cases h0:numA g z=0
 ·have e1:decide (numA g z≠0)=false:=decide_eq_false (fun h=>h h0)
  have HZ:Hid (drE g z=6):=if_pos h0
  rw[e1]
  clear h0
  go_wp2_with fail
  go_ret
  exact⟨by rw[HZ.out];rfl,HE.out⟩
 ·have e1:decide (numA g z≠0)=true:=decide_eq_true h0
  have HZ:Hid (drE g z=0):=if_neg h0
  rw[e1]
  clear h0
  go_wp2_with fail
  go_ret
  exact⟨by rw[HZ.out];rfl,HE.out⟩
def HobP (c:Cfg) (k:Nat) (os:List (Nat×Nat)) (g:Nat->Nat) (z:Int) (w:World) (e:Ending) (w':World):Prop:=
 ((numA g z=0/\e=.returned (.tuple #[obV 0 0 0,.int .i64 6]))\/∃i,i<os.length/\numA g z=c.frm k+posL os i/\e=.returned (.tuple #[obV (nL os i:Nat) (rL os i:Nat) ((c.frm k+posL os i:Nat):Int),.int .i64 0]))/\xe [] w w'
theorem vE {g:Nat->Nat} {z:Int} (h:numA g z≠0):0≤z/\g z.toNat=numA g z:=by
 unfold numA at h⊢
 by_cases hz:0≤z
 ·rw[if_pos hz];exact⟨hz,rfl⟩
 ·rw[if_neg hz]at h;exact absurd rfl h
theorem YT (w:World) (hb:Nat) (p:Nat) (a:DA) {S:DS} {c:Cfg} {q:Nat} {x:Tb} {cv:Value} {k us:Nat} {rs:List Nat} {os:List (Nat×Nat)} {m:Nat} {g:Nat->Nat} (z:Int)
  (hB:At w hb (hpO a.d c q x.t cv)) (hD:Dev w p a S) (hH:HepS S c a.n k us rs os) (hc:c.Ok) (hn:c.words=a.n) (hT:TabW w x m g) (hg:∀n,g n≠0->Stt c k os (g n)):
  Calls Tryz.prog 101 #[ptr hb,.int .i64 z] w (HobP c k os g z w):=by
 have HPL:=hid (fun(w':World) (hk:xe [] w w')=>jD w' x m g z (hT.keep hk (by simp)))
 have HBK:=hid (fun(w':World) (hk:xe [] w w')=>Xv w' hb p a (hk.at hB (by simp)) (hD.keep hk (by simp) (by simp) (by simp) (by simp)) hH hc hn)
 have HOF:=hid (fun(w':World) (hk:xe [] w w') (rv:Value) (i:Nat) (hi:i<os.length)=>Jz (hD.keep hk (by simp) (by simp) (by simp) (by simp)) hc hn hH.k1 hH.chn rv hi _ rfl)
 have HS:=hid (fun(w':World) (hk:xe [] w w')=>zA hB hk (by simp))
 have HG:Hid (numA g z≠0->∃i,i<os.length/\numA g z=c.frm k+posL os i):=fun h=>by
  have h1:=vE h
  rw[<-h1.2]at h⊢
  exact hg _ h
 have H5:=hid (fun(w':World) (hk:xe [] w w')=>(yj hB hk (by simp)).2.2.2.2.2)
 clear hB hD hH hc hn hT hg
 go_enter Tryz.func101,Tryz.ntmps101
 go_upto_region 1 with fail
 have hX:=At.new w (obO 0 0 0)
 have kk:=(xe.refl [] w).alloc (obO 0 0 0)
 obtain⟨rb,hrb⟩:∃q,q=w.heap.size:=⟨_,rfl⟩
 obtain⟨w1,hw1⟩:∃w1,w1=w.alloc (obO 0 0 0):=⟨_,rfl⟩
 first|rw[<-hrb]|skip
 rw[<-hrb]at hX
 rw[<-hw1]at hX kk⊢
 have HZ1:Hid (w.heap.size≤rb):=Nat.le_of_eq hrb.symm
 have HX:=hid hX
 have HK1:=hid kk
 clear hw1 hrb hX kk
 have c5:=H5.out w1 HK1.out
 have hPL:=HPL.out w1 HK1.out
 obtain⟨v,hv⟩:∃v,v=numA g z:=⟨_,rfl⟩
 have HV:=hid hv
 rw[<-hv]at hPL HG
 have HPL1:=hid hPL
 clear hv hPL
 go_wp2_with fail
 refine HPL1.out.mono ?_
 rintro e w' ⟨rfl,rfl⟩
 clear HPL1
 have f0:=HX.out.free 0
 have f1:=HX.out.free 1
 have f2:=HX.out.free 2
 by_cases h0:v=0
 ·subst h0
  have e1:decide ((0:Nat)≠0)=false:=rfl
  have y0:=HX.out.cell 0 rfl
  have y1:=HX.out.cell 1 rfl
  have y2:=HX.out.cell 2 rfl
  have hF:=((HX.out.set 0 (.int .i64 0)).set 1 (.int .i64 0)).set 2 (.int .i64 0)
  have x0:=hF.cell 0 rfl
  have x1:=hF.cell 1 rfl
  have x2:=hF.cell 2 rfl
  have HE:Hid (xe [] w (((w'.setCell ⟨rb,0,none⟩ (.int .i64 0)).setCell ⟨rb,1,none⟩ (.int .i64 0)).setCell ⟨rb,2,none⟩ (.int .i64 0))):=((HK1.out.set (.inr HZ1.out) _).set (.inr HZ1.out) _).set (.inr HZ1.out) _
  clear hF
  go_wp2_with fail
  refine bodyPost_ret (v:=.tuple #[obV 0 0 0,.int .i64 6]) (by simp[results,Tryz.results101,go_sem,x0,x1,x2]) rfl ?_
  exact⟨.inl ⟨HV.out.symm,rfl⟩,HE.out⟩
 ·have e1:decide (v≠0)=true:=decide_eq_true h0
  obtain⟨i,hi,hvi⟩:=HG.out h0
  have HBK1:=hid (HBK.out w' HK1.out)
  have HI:=hid (And.intro hi hvi)
  clear hi hvi HG f0 f1 f2
  go_wp2_with fail
  refine HBK1.out.mono ?_
  rintro e w2 ⟨xs,cp,rfl,_,hk2⟩
  have HK12:=hid hk2
  clear hk2 HBK1
  go_upto_region 5 with fail
  have hB3:=At.new w2 (bkO (k:Nat) (us:Nat) (.slice xs c.roots cp))
  have k23:=(xe.refl [] w2).alloc (bkO (k:Nat) (us:Nat) (.slice xs c.roots cp))
  obtain⟨bb,hbb⟩:∃q,q=w2.heap.size:=⟨_,rfl⟩
  obtain⟨w3,hw3⟩:∃w3,w3=w2.alloc (bkO (k:Nat) (us:Nat) (.slice xs c.roots cp)):=⟨_,rfl⟩
  first|rw[<-hbb]|skip
  rw[<-hbb]at hB3
  rw[<-hw3]at hB3 k23⊢
  have HK3:=hid (HK12.out.trans k23)
  have HC:Hid (∀w'',xe [rb] w3 w''->rb≠bb->(w''.cell? ⟨hb,0,none⟩=some (ptr a.d)/\w''.cell? ⟨hb,1,none⟩=some (.int .i64 c.log)/\w''.cell? ⟨hb,2,none⟩=some (.int .i64 c.roots)/\w''.cell? ⟨hb,3,none⟩=some (.int .i64 c.space))/\w''.cell? ⟨bb,0,none⟩=some (.int .i64 (k:Nat))/\w''.cell? ⟨bb,1,none⟩=some (.int .i64 (us:Nat))/\w''.cell? ⟨bb,2,none⟩=some (.slice xs c.roots cp)):=fun w'' hk hne=>by
   have h1:=hk.at hB3 (by simpa using fun h=>hne h.symm)
   refine⟨HS.out w'' (((HK1.out.trans HK12.out).trans k23).new hk fun b hb=>.inr ?_),h1.cell 0 rfl,h1.cell 1 rfl,h1.cell 2 rfl⟩
   have:=HZ1.out
   simp at hb
   omega
  have HNE:Hid (rb≠bb):=by
   have h1:=HX.out.lt
   have h2:=HK12.out.size
   show _≠_
   omega
  have hOF:=HOF.out
  have HX3:=hid (fun(w'':World) (hk:xe [] w3 w'')=>hk.at (HK3.out.at HX.out (by simp)) (by simp))
  clear hw3 hbb hB3 k23 hOF
  have HOF3:=hid (fun(w'':World) (hk:xe [] w3 w'')=>HOF.out w'' (HK1.out.trans (HK3.out.trans hk)) (.slice xs c.roots cp) i HI.out.1)
  rw[<-HI.out.2]at HOF3
  have hOB:Hid (obV (nL os i:Nat) (rL os i:Nat) ((c.frm k+posL os i:Nat):Int)=obV (nL os i:Nat) (rL os i:Nat) (v:Int)):=by show _=_;rw[HI.out.2]
  obtain⟨N,hN⟩:∃N,N=nL os i:=⟨_,rfl⟩
  obtain⟨R,hR⟩:∃R,R=rL os i:=⟨_,rfl⟩
  rw[<-hN,<-hR]at HOF3
  have HNR:=hid (And.intro hN hR)
  clear hN hR
  have kk:xe [rb] w3 w3.drew:=(xe.refl _ _).drew
  have kq:xe [] w3 w3.drew:=(xe.refl _ _).drew
  go_region_held3 (fun w'=>(w'.cell? ⟨hb,0,none⟩=some (ptr a.d)∧w'.cell? ⟨hb,1,none⟩=some (.int .i64 c.log)∧w'.cell? ⟨hb,2,none⟩=some (.int .i64 c.roots)∧w'.cell? ⟨hb,3,none⟩=some (.int .i64 c.space))∧w'.cell? ⟨bb,0,none⟩=some (.int .i64 (k:Nat))∧w'.cell? ⟨bb,1,none⟩=some (.int .i64 (us:Nat))∧w'.cell? ⟨bb,2,none⟩=some (.slice xs c.roots cp))
   (exact HC.out _ (by repeat (first|exact kk|refine xe.set ?_ (.inl (by simp)) _)) HNE.out)
   (first|(go_at_call 174;refine(HOF3.out _ kq).mono ?_;rintro e w4 ⟨rfl,hk4⟩;have kk:=kk.trans (hk4.mono (by simp));have kq:=kq.trans hk4;have hX4:=HX3.out w4 kq;have y0:=hX4.cell 0 rfl;have y1:=hX4.cell 1 rfl;have y2:=hX4.cell 2 rfl;have f0:=hX4.free 0;have f1:=hX4.free 1;have f2:=hX4.free 2))
  rename_i hHd
  clear hHd
  have hF:=((hX4.set 0 (.int .i64 (N:Nat))).set 1 (.int .i64 (R:Nat))).set 2 (.int .i64 (v:Nat))
  have x0:=hF.cell 0 rfl
  have x1:=hF.cell 1 rfl
  have x2:=hF.cell 2 rfl
  have HE:Hid (xe [] w (((w4.setCell ⟨rb,0,none⟩ (.int .i64 (N:Nat))).setCell ⟨rb,1,none⟩ (.int .i64 (R:Nat))).setCell ⟨rb,2,none⟩ (.int .i64 (v:Nat)))):=(((HK1.out.trans (HK3.out.trans kq)).set (.inr HZ1.out) _).set (.inr HZ1.out) _).set (.inr HZ1.out) _
  clear y0 y1 y2 f0 f1 f2 hF hX4 hk4 kk kq
  go_wp2_with fail
  refine bodyPost_ret (v:=.tuple #[obV (N:Nat) (R:Nat) (v:Nat),.int .i64 0]) (by simp[results,Tryz.results101,go_sem,x0,x1,x2]) rfl ?_
  refine⟨.inr ⟨i,HI.out.1,by rw[<-HV.out];exact HI.out.2,?_⟩,HE.out⟩
  rw[hOB.out,HNR.out.1,HNR.out.2]
section
variable {p:Nat} {a:DA} {S:DS} {c:Cfg} {q:Nat} {x:Tb} {cv:Value} {k us:Nat} {rs:List Nat} {os:List (Nat×Nat)} {m:Nat} {g:Nat->Nat}
theorem xct (w:World) (hb:Nat) (z:Int) (hB:At w hb (hpO a.d c q x.t cv)) (hD:Dev w p a S) (hH:HepS S c a.n k us rs os) (hc:c.Ok) (hn:c.words=a.n) (hT:TabW w x m g) (hg:∀n,g n≠0->Stt c k os (g n)):
  Calls Tryz.prog 37 #[ptr hb,.int .i64 z] w fun e w'=>((numA g z=0/\e=.returned (.tuple #[hdV 0 0,.int .i64 6]))\/∃i,i<os.length/\numA g z=c.frm k+posL os i/\e=.returned (.tuple #[hdV (nL os i:Nat) (rL os i:Nat),.int .i64 0]))/\xe [] w w':=by
 have HOB:=hid (fun(w':World) (hk:xe [] w w')=>YT w' hb p a z (hk.at hB (by simp)) (hD.keep hk (by simp) (by simp) (by simp) (by simp)) hH hc hn (hT.keep hk (by simp)) hg)
 clear hB hD hH hc hn hT hg
 go_enter Tryz.func37,Tryz.ntmps37
 go_upto_region 1 with fail
 have hX:=At.new w (.cells #[.int .i64 0,.int .i64 0] 67)
 have kk:=(xe.refl [] w).alloc (.cells #[.int .i64 0,.int .i64 0] 67)
 obtain⟨rb,hrb⟩:∃q,q=w.heap.size:=⟨_,rfl⟩
 obtain⟨w1,hw1⟩:∃w1,w1=w.alloc (.cells #[.int .i64 0,.int .i64 0] 67):=⟨_,rfl⟩
 first|rw[<-hrb]|skip
 rw[<-hrb]at hX
 rw[<-hw1]at hX kk⊢
 have HZ1:Hid (w.heap.size≤rb):=Nat.le_of_eq hrb.symm
 have HX:=hid hX
 have HK1:=hid kk
 clear hw1 hrb hX kk
 have HO1:=hid (HOB.out w1 HK1.out)
 go_wp2_with fail
 refine HO1.out.mono ?_
 rintro e w2 ⟨ho,hk2⟩
 obtain⟨N,R,Z,code,rfl,hcase⟩:∃N R Z code:Int,e=.returned (.tuple #[obV N R Z,.int .i64 code])/\((numA g z=0/\N=0/\R=0/\code=6)\/∃i,i<os.length/\numA g z=c.frm k+posL os i/\N=(nL os i:Nat)/\R=(rL os i:Nat)/\code=0):=by
  rcases ho with⟨h1,rfl⟩|⟨i,h1,h2,rfl⟩
  ·exact⟨_,_,_,_,rfl,.inl ⟨h1,rfl,rfl,rfl⟩⟩
  ·exact⟨_,_,_,_,rfl,.inr ⟨i,h1,h2,rfl,rfl,rfl⟩⟩
 have HCS:=hid hcase
 have hX2:=hk2.at HX.out (by simp)
 have HK2:=hid (HK1.out.trans hk2)
 have f0:=(hX2.alloc (obO N R Z)).free 0
 have f1:=(hX2.alloc (obO N R Z)).free 1
 have y0:=(hX2.alloc (obO N R Z)).cell 0 rfl
 have y1:=(hX2.alloc (obO N R Z)).cell 1 rfl
 have hF:=((hX2.alloc (obO N R Z)).set 0 (.int .i64 N)).set 1 (.int .i64 R)
 have x0:=hF.cell 0 rfl
 have x1:=hF.cell 1 rfl
 have HE:Hid (xe [] w (((w2.alloc (obO N R Z)).setCell ⟨rb,0,none⟩ (.int .i64 N)).setCell ⟨rb,1,none⟩ (.int .i64 R))):=((HK2.out.alloc _).set (.inr HZ1.out) _).set (.inr HZ1.out) _
 clear hF hk2 ho hcase hX2
 go_wp2_with fail
 refine bodyPost_ret (v:=.tuple #[hdV N R,.int .i64 code]) (by simp[results,Tryz.results37,go_sem,x0,x1]) rfl ?_
 refine⟨?_,HE.out⟩
 rcases HCS.out with⟨h1,rfl,rfl,rfl⟩|⟨i,h1,h2,rfl,rfl,rfl⟩
 ·exact .inl ⟨h1,rfl⟩
 ·exact .inr ⟨i,h1,h2,rfl⟩
def HrdP (S:DS) (c:Cfg) (k:Nat) (os:List (Nat×Nat)) (g:Nat->Nat) (z i:Int) (v code:Int):Prop:=
 (numA g z=0/\v=0/\code=6)\/∃t,t<os.length/\numA g z=c.frm k+posL os t/\code=fldE (nL os t:Nat) (rL os t:Nat) i false/\v=rdW S ((c.frm k+posL os t:Nat):Int) i code
theorem xcs (w:World) (hb:Nat) (z i:Int) (hB:At w hb (hpO a.d c q x.t cv)) (hD:Dev w p a S) (hH:HepS S c a.n k us rs os) (hc:c.Ok) (hn:c.words=a.n) (hT:TabW w x m g) (hg:∀n,g n≠0->Stt c k os (g n)):
  Calls Tryz.prog 45 #[ptr hb,.int .i64 z,.int .i64 i] w fun e w'=>∃v code,e=.returned (.tuple #[.int .u64 v,.int .i64 code])/\HrdP S c k os g z i v code/\xe [] w w':=by
 have HOB:=hid (YT w hb p a z hB hD hH hc hn hT hg)
 have HRD:=hid (fun(w':World) (hk:xe [] w w') (t:Nat) (ht:t<os.length)=>Z5 w' p a S (hD.keep hk (by simp) (by simp) (by simp) (by simp)) (nL os t:Nat) (rL os t:Nat) ((c.frm k+posL os t:Nat):Int) i (by have:=(hH.chn.head t _ (zU ht)).1;simp at this;omega) (by
  have h1:=xE ht
  have h2:=hH.chn.le
  have h3:=hH.us
  have h4:=xu (c:=c) k hH.k1
  omega))
 have HS:=hid (fun(w':World) (hk:xe [] w w')=>(zA hB hk (by simp)).1)
 clear hB hD hH hc hn hT hg
 go_enter Tryz.func45,Tryz.ntmps45
 go_wp2_with fail
 refine HOB.out.mono ?_
 rintro e w1 ⟨⟨h0,rfl⟩|⟨t,ht,hz,rfl⟩,hk1⟩
 ·have HE:Hid (HrdP S c k os g z i 0 6/\xe [] w (w1.alloc (obO 0 0 0))):=⟨.inl ⟨h0,rfl,rfl⟩,hk1.alloc _⟩
  clear h0 hk1
  go_wp2_with fail
  go_ret2
  exact⟨_,_,rfl,HE.out⟩
 ·have HT:=hid (And.intro ht hz)
  have HK1:=hid hk1
  have HRT:=hid (fun w' hk=>HRD.out w' hk t ht)
  obtain⟨Z,hZ⟩:∃Z:Int,Z=((c.frm k+posL os t:Nat):Int):=⟨_,rfl⟩
  obtain⟨N,hN⟩:∃N:Int,N=(nL os t:Nat):=⟨_,rfl⟩
  obtain⟨R,hR⟩:∃R:Int,R=(rL os t:Nat):=⟨_,rfl⟩
  rw[<-hZ,<-hN,<-hR]at HRT⊢
  have HNR:=hid (And.intro hZ (And.intro hN hR))
  clear hZ hN hR ht hz hk1 HOB HRD
  go_upto_region 4 with fail
  have hB2:=At.new w1 (obO N R Z)
  have k12:=(xe.refl [] w1).alloc (obO N R Z)
  obtain⟨bb,hbb⟩:∃q,q=w1.heap.size:=⟨_,rfl⟩
  obtain⟨w2,hw2⟩:∃w2,w2=w1.alloc (obO N R Z):=⟨_,rfl⟩
  first|rw[<-hbb]|skip
  rw[<-hbb]at hB2
  rw[<-hw2]at hB2 k12⊢
  have HK2:=hid (HK1.out.trans k12)
  have HC:Hid (∀w',xe [] w2 w'->w'.cell? ⟨hb,0,none⟩=some (ptr a.d)/\w'.cell? ⟨bb,0,none⟩=some (.int .i64 N)/\w'.cell? ⟨bb,1,none⟩=some (.int .i64 R)/\w'.cell? ⟨bb,2,none⟩=some (.int .i64 Z)):=fun w' hk=>by
   have h1:=hk.at hB2 (by simp)
   exact⟨HS.out w' (HK2.out.trans hk),h1.cell 0 rfl,h1.cell 1 rfl,h1.cell 2 rfl⟩
  clear hw2 hbb hB2 k12
  have kk:xe [] w2 w2.drew:=(xe.refl _ _).drew
  go_region_held3 (fun w'=>w'.cell? ⟨hb,0,none⟩=some (ptr a.d)∧w'.cell? ⟨bb,0,none⟩=some (.int .i64 N)∧w'.cell? ⟨bb,1,none⟩=some (.int .i64 R)∧w'.cell? ⟨bb,2,none⟩=some (.int .i64 Z))
   (exact HC.out _ kk)
   (first|(go_at_call 110;refine(HRT.out _ (HK2.out.trans kk)).mono ?_;rintro e w4 ⟨rfl,hk4⟩;have kk:=kk.trans hk4))
  rename_i hHd
  clear hHd
  have HE:=hid (HK2.out.trans kk)
  clear hk4 kk
  go_wp2_with fail
  go_ret2
  refine⟨_,_,rfl,.inr ⟨t,HT.out.1,HT.out.2,?_,?_⟩,HE.out⟩
  ·rw[HNR.out.2.1,HNR.out.2.2]
  ·rw[HNR.out.1]
end
open Go.RowKit Go.OpenShut
theorem Qt (v:Nat) (h:v≤15000):IntKind.i64.wrap (v:Int)=(v:Int):=IntWalk.i64_in _ (by omega)
theorem vY (v:Nat) (h:v≤15000):IntKind.u64.wrap (v:Int)=(v:Int):=IntWalk.u64_in _ (by omega)
def TkP (m:Nat) (g:Nat->Nat) (p t m1:Nat) (g1:Nat->Nat):Prop:=
 (p=0/\t=0/\m1=m/\g1=g)\/(p≠0/\g1 t=p/\((m1=m/\g1=g)\/(t=m+1/\m1=m+1/\g1=upd g (m+1) p/\∀i,g i≠p)))
theorem xde (w:World) (x:Tb) (m:Nat) (g:Nat->Nat) (p:Nat) (h:TabW w x m g) (hp4:p<4000) (hm:m<1000):
  Calls Tryz.prog 92 #[ptr x.t,.int .i64 (p:Nat)] w fun e w'=>∃(t m1:Nat) (g1:Nat->Nat),e=.returned (.int .i64 (t:Nat))/\TabW w' x m1 g1/\TkP m g p t m1 g1/\xe x.bl w w':=by
 by_cases hp:p=0
 ·subst hp
  refine(Zz w x.t).mono ?_
  rintro e w' ⟨rfl,rfl⟩
  exact⟨0,m,g,rfl,h,.inl ⟨rfl,rfl,rfl,rfl⟩,xe.refl _ _⟩
 by_cases hg:∃n,g n=p
 ·obtain⟨n,hn⟩:=hg
  refine(Vh w x m g n p h hn hp).mono ?_
  rintro e w' ⟨rfl,rfl⟩
  exact⟨n,m,g,rfl,h,.inr ⟨hp,hn,.inl ⟨rfl,rfl⟩⟩,xe.refl _ _⟩
 ·have hn:∀i,g i≠p:=fun i e=>hg ⟨i,e⟩
  refine(Xu w x m g p h hn hp hp4 hm).mono ?_
  rintro e w' ⟨rfl,h1,h2⟩
  exact⟨m+1,m+1,upd g (m+1) p,rfl,h1,.inr ⟨hp,Xb _ _ _,.inr ⟨rfl,rfl,rfl,hn⟩⟩,h2⟩
section
variable {p:Nat} {a:DA} {S:DS} {c:Cfg} {q:Nat} {x:Tb} {cv:Value} {k us:Nat} {rs:List Nat} {os:List (Nat×Nat)} {m:Nat} {g:Nat->Nat}
theorem xbZ (hH:HepS S c a.n k us rs os) (hc:c.Ok) (hn:c.words=a.n) {t:Nat} (ht:t<os.length) {i:Int} (h0:fldE (nL os t:Nat) (rL os t:Nat) i true=0):
  ∃j v:Nat,i=(j:Int)/\j<rL os t/\S.now (c.frm k+posL os t+1+j)=(v:Int)/\(v=0\/Stt c k os v)/\v<a.n/\rfW S ((c.frm k+posL os t:Nat):Int) i 0=(v:Int):=by
 obtain⟨h1,h2,h3⟩:=zV h0
 obtain⟨j,rfl⟩:∃j:Nat,i=(j:Int):=⟨i.toNat,by omega⟩
 have hj:j<rL os t:=by simpa using h3
 obtain⟨v,h4,h5⟩:=hH.name_ok ht hj
 have hv:v<a.n:=by
  rcases h5 with rfl|h5
  ·have h6:=(c_in hc hn).1
   omega
  ·have h6:=h5.lt hH
   have h7:=hH.us
   have h8:=xu (c:=c) k hH.k1
   omega
 have hn5:a.n≤15000:=(c_in hc hn).2.2.2.2
 refine⟨j,v,rfl,hj,h4,h5,hv,?_⟩
 unfold rfW
 rw[if_pos rfl,show(((c.frm k+posL os t:Nat):Int)+1+(j:Int)).toNat=c.frm k+posL os t+1+j by omega,h4]
 exact zk v (by omega)
def RfP (S:DS) (c:Cfg) (k:Nat) (os:List (Nat×Nat)) (x:Tb) (m:Nat) (g:Nat->Nat) (z i:Int) (w:World) (e:Ending) (w':World):Prop:=
 ∃(t m1:Nat) (g1:Nat->Nat) (code:Int),e=.returned (.tuple #[.int .i64 (t:Nat),.int .i64 code])/\TabW w' x m1 g1/\xe x.bl w w'/\
  ((numA g z=0/\t=0/\m1=m/\g1=g/\code=6)\/∃s,s<os.length/\numA g z=c.frm k+posL os s/\code=fldE (nL os s:Nat) (rL os s:Nat) i true/\
    ((code≠0/\t=0/\m1=m/\g1=g)\/(code=0/\∃j v:Nat,i=(j:Int)/\j<rL os s/\S.now (c.frm k+posL os s+1+j)=(v:Int)/\TkP m g v t m1 g1)))
theorem xdW (w:World) (hb:Nat) (z i:Int) (hB:At w hb (hpO a.d c q x.t cv)) (hD:Dev w p a S) (hH:HepS S c a.n k us rs os) (hc:c.Ok) (hn:c.words=a.n) (hT:TabW w x m g) (hg:∀n,g n≠0->Stt c k os (g n)) (hn4:a.n≤4000) (hm:m<1000):
  Calls Tryz.prog 40 #[ptr hb,.int .i64 z,.int .i64 i] w (RfP S c k os x m g z i w):=by
 have HOB:=hid (YT w hb p a z hB hD hH hc hn hT hg)
 have HRD:=hid (fun(w':World) (hk:xe [] w w') (t:Nat) (ht:t<os.length)=>xal w' p a S (hD.keep hk (by simp) (by simp) (by simp) (by simp)) (nL os t:Nat) (rL os t:Nat) ((c.frm k+posL os t:Nat):Int) i (by have:=(hH.chn.head t _ (zU ht)).1;simp at this;omega) (by
  have h1:=xE ht
  have h2:=hH.chn.le
  have h3:=hH.us
  have h4:=xu (c:=c) k hH.k1
  omega))
 have HNM:=hid (fun(t:Nat) (ht:t<os.length) (h0:fldE (nL os t:Nat) (rL os t:Nat) i true=0)=>xbZ hH hc hn ht h0)
 have HS:=hid (fun(w':World) (hk:xe [] w w')=>And.intro (zA hB hk (by simp)).1 (yj hB hk (by simp)).2.2.2.2.2)
 have HTK:=hid (fun(w':World) (hk:xe [] w w') (v:Nat) (hv:v<a.n)=>xde w' x m g v (hT.keep hk (by simp)) (by omega) hm)
 have HTB:=hid hT
 clear hB hD hH hc hn hT hg hn4 hm
 go_enter Tryz.func40,Tryz.ntmps40
 go_wp2_with fail
 refine HOB.out.mono ?_
 rintro e w1 ⟨⟨h0,rfl⟩|⟨t,ht,hz,rfl⟩,hk1⟩
 ·have HE:Hid (TabW (w1.alloc (obO 0 0 0)) x m g/\xe x.bl w (w1.alloc (obO 0 0 0))/\numA g z=0):=⟨HTB.out.keep (hk1.alloc _) (by simp),(hk1.alloc _).mono (by simp),h0⟩
  clear h0 hk1
  go_wp2_with fail
  go_ret2
  exact⟨0,m,g,6,rfl,HE.out.1,HE.out.2.1,.inl ⟨HE.out.2.2,rfl,rfl,rfl,rfl⟩⟩
 ·have HT:=hid (And.intro ht hz)
  have HK1:=hid hk1
  have HRT:=hid (fun w' hk=>HRD.out w' hk t ht)
  have HNT:=hid (HNM.out t ht)
  obtain⟨Z,hZ⟩:∃Z:Int,Z=((c.frm k+posL os t:Nat):Int):=⟨_,rfl⟩
  obtain⟨N,hN⟩:∃N:Int,N=(nL os t:Nat):=⟨_,rfl⟩
  obtain⟨R,hR⟩:∃R:Int,R=(rL os t:Nat):=⟨_,rfl⟩
  rw[<-hZ,<-hN,<-hR]at HRT⊢
  rw[<-hN,<-hR,<-hZ]at HNT
  have HNR:=hid (And.intro hZ (And.intro hN hR))
  obtain⟨code,hcode⟩:∃code,code=fldE N R i true:=⟨_,rfl⟩
  rw[<-hcode]at HRT HNT
  have HCD:=hid hcode
  clear hZ hN hR ht hz hk1 HOB HRD HNM hcode
  go_upto_region 4 with fail
  have hB2:=At.new w1 (obO N R Z)
  have k12:=(xe.refl [] w1).alloc (obO N R Z)
  obtain⟨bb,hbb⟩:∃q,q=w1.heap.size:=⟨_,rfl⟩
  obtain⟨w2,hw2⟩:∃w2,w2=w1.alloc (obO N R Z):=⟨_,rfl⟩
  first|rw[<-hbb]|skip
  rw[<-hbb]at hB2
  rw[<-hw2]at hB2 k12⊢
  have HK2:=hid (HK1.out.trans k12)
  have HC:Hid (∀w',xe [] w2 w'->w'.cell? ⟨hb,0,none⟩=some (ptr a.d)/\w'.cell? ⟨bb,0,none⟩=some (.int .i64 N)/\w'.cell? ⟨bb,1,none⟩=some (.int .i64 R)/\w'.cell? ⟨bb,2,none⟩=some (.int .i64 Z)):=fun w' hk=>by
   have h1:=hk.at hB2 (by simp)
   exact⟨(HS.out w' (HK2.out.trans hk)).1,h1.cell 0 rfl,h1.cell 1 rfl,h1.cell 2 rfl⟩
  clear hw2 hbb hB2 k12
  have kk:xe [] w2 w2.drew:=(xe.refl _ _).drew
  go_region_held3 (fun w'=>w'.cell? ⟨hb,0,none⟩=some (ptr a.d)∧w'.cell? ⟨bb,0,none⟩=some (.int .i64 N)∧w'.cell? ⟨bb,1,none⟩=some (.int .i64 R)∧w'.cell? ⟨bb,2,none⟩=some (.int .i64 Z))
   (exact HC.out _ kk)
   (first|(go_at_call 106;refine(HRT.out _ (HK2.out.trans kk)).mono ?_;rintro e w4 ⟨rfl,hk4⟩;have kk:=kk.trans hk4))
  rename_i hHd
  clear hHd
  have HE:=hid (HK2.out.trans kk)
  clear hk4 kk HRT
  by_cases h0:code=0
  ·obtain⟨j,v,hij,hj,hS,_,hv,hr⟩:=HNT.out h0
   subst h0
   have HJV:=hid (And.intro hij (And.intro hj hS))
   have HT4:=hid (HTK.out w4 HE.out v hv)
   have c5:=(HS.out w4 HE.out).2
   rw[hr]
   clear hij hj hS hv hr HNT HTK
   go_wp2_with fail
   refine HT4.out.mono ?_
   rintro e w5 ⟨t1,m1,g1,rfl,h1,h2,h3⟩
   have HF:=hid (And.intro h1 (And.intro h2 (HE.out.mono (S':=x.bl) (by simp) |>.trans h3)))
   clear h1 h2 h3
   go_wp2_with fail
   go_ret2
   refine⟨t1,m1,g1,0,rfl,HF.out.1,HF.out.2.2,.inr ⟨t,HT.out.1,HT.out.2,?_,.inr ⟨rfl,j,v,HJV.out.1,HJV.out.2.1,HJV.out.2.2,HF.out.2.1⟩⟩⟩
   rw[<-HNR.out.2.1,<-HNR.out.2.2]
   exact HCD.out
  ·have t1:(code==0)=false:=by rw[beq_eq_false_iff_ne];exact h0
   have HF:=hid (And.intro (HTB.out.keep HE.out (by simp)) (And.intro (HE.out.mono (S':=x.bl) (by simp)) h0))
   clear HNT HTK
   go_wp2_with fail
   go_ret2
   refine⟨0,m,g,code,rfl,HF.out.1,HF.out.2.1,.inr ⟨t,HT.out.1,HT.out.2,?_,.inl ⟨HF.out.2.2,rfl,rfl,rfl⟩⟩⟩
   rw[<-HNR.out.2.1,<-HNR.out.2.2]
   exact HCD.out
def RtP (c:Cfg) (rs:List Nat) (x:Tb) (m:Nat) (g:Nat->Nat) (i:Int) (w:World) (e:Ending) (w':World):Prop:=
 ∃(t m1:Nat) (g1:Nat->Nat) (code:Int),e=.returned (.tuple #[.int .i64 (t:Nat),.int .i64 code])/\TabW w' x m1 g1/\xe x.bl w w'/\
  ((hasR c i=false/\t=0/\m1=m/\g1=g/\code=1)\/(code=0/\∃j:Nat,i=(j:Int)/\j<c.roots/\TkP m g (rs.getD j 0) t m1 g1))
theorem xcr (w:World) (hb:Nat) (i:Int) (hB:At w hb (hpO a.d c q x.t cv)) (hx:hb∉x.bl) (hD:Dev w p a S) (hH:HepS S c a.n k us rs os) (hc:c.Ok) (hn:c.words=a.n) (hT:TabW w x m g) (hn4:a.n≤4000) (hm:m<1000):
  Calls Tryz.prog 41 #[ptr hb,.int .i64 i] w (RtP c rs x m g i w):=by
 have HHS:=hid (xaS w hb a.d c q x.t cv i hB)
 have HS:=hid (fun(w':World) (hk:xe [] w w')=>And.intro (zA hB hk (by simp)) (yj hB hk (by simp)).2.2.2.2.2)
 have HTB:=hid hT
 by_cases hi:0≤i/\i<(c.roots:Int)
 case neg=>
  have hh:hasR c i=false:=by
   unfold hasR
   by_cases h1:0≤i
   ·rw[decide_eq_true h1,decide_eq_false (fun h=>hi ⟨h1,h⟩)];rfl
   ·rw[decide_eq_false h1];rfl
  have HH:=hid hh
  rw[hh]at HHS
  clear hB hD hH hc hn hT hn4 hm hi hh
  go_enter Tryz.func41,Tryz.ntmps41
  go_wp2_with fail
  refine HHS.out.mono ?_
  rintro e w1 ⟨rfl,rfl⟩
  go_wp2_with fail
  go_ret2
  exact⟨0,m,g,1,rfl,HTB.out,xe.refl _ _,.inl ⟨HH.out,rfl,rfl,rfl,rfl⟩⟩
 obtain⟨j,rfl⟩:∃j:Nat,i=(j:Int):=⟨i.toNat,by omega⟩
 have hj:j<c.roots:=by omega
 have hh:hasR c j=true:=by
  unfold hasR
  rw[decide_eq_true hi.1,decide_eq_true hi.2];rfl
 rw[hh]at HHS
 obtain⟨v,hv⟩:∃v,v=rs.getD j 0:=⟨_,rfl⟩
 have hvn:v<a.n:=by
  rw[hv]
  rcases hH.root_ok hj with h5|h5
  ·have h6:=(c_in hc hn).1
   omega
  ·have h6:=h5.lt hH
   have h7:=hH.us
   have h8:=xu (c:=c) k hH.k1
   omega
 have hS:S.now (c.root j)=(v:Int):=by rw[hv];exact hH.root j hj
 have HRO:=hid (fun(w':World)=>wR w' c hc.small j (by have:=hc.2.1;omega))
 have HLD:=hid (fun(w':World) (hk:xe [] w w')=>Ym w' p a S (c.root j:Nat) (hD.keep hk (by simp) (by simp) (by simp) (by simp)) (by
  have h1:=xH c
  have h2:=xu (c:=c) 0 (by omega)
  unfold Cfg.root at*
  omega))
 obtain⟨rj,hrj⟩:∃rj:Nat,rj=c.root j:=⟨_,rfl⟩
 rw[<-hrj]at HRO HLD hS
 have HTK:=hid (fun(w':World) (hk:xe [] w w')=>xde w' x m g v (hT.keep hk (by simp)) (by omega) hm)
 have hvb:(v:Int)≤15000:=by have:=(c_in hc hn).2.2.2.2;omega
 have HE0:=hid (And.intro hj hv)
 have HCL:Hid (∀w',xe x.bl w w'->w'.cell? ⟨hb,0,none⟩=some (ptr a.d)/\w'.cell? ⟨hb,1,none⟩=some (.int .i64 c.log)/\w'.cell? ⟨hb,2,none⟩=some (.int .i64 c.roots)/\w'.cell? ⟨hb,3,none⟩=some (.int .i64 c.space)/\w'.cell? ⟨hb,5,none⟩=some (ptr x.t)):=fun w' hk=>by
  obtain⟨h0,h1,h2,h3⟩:=zA hB hk hx
  exact⟨h0,h1,h2,h3,(yj hB hk hx).2.2.2.2.2⟩
 have hvs:S.now rj=(v:Int):=hS
 have HVS:=hid hvs
 have hv5:v≤15000:=by omega
 have ew:=Qt v hv5
 clear hB hD hH hc hn hT hn4 hm hi hh hS hvs hrj hj hv hvn HS hv5
 go_enter Tryz.func41,Tryz.ntmps41
 go_wp2_with fail
 refine HHS.out.mono ?_
 rintro e w1 ⟨rfl,rfl⟩
 go_upto_region 3 with fail
 have kk:xe [] w1 w1.drew:=(xe.refl _ _).drew
 have kx:xe x.bl w1 w1.drew:=(xe.refl _ _).drew
 go_region_held3 (fun w'=>w'.cell? ⟨hb,0,none⟩=some (ptr a.d)∧w'.cell? ⟨hb,1,none⟩=some (.int .i64 c.log)∧w'.cell? ⟨hb,2,none⟩=some (.int .i64 c.roots)∧w'.cell? ⟨hb,3,none⟩=some (.int .i64 c.space)∧w'.cell? ⟨hb,5,none⟩=some (ptr x.t))
  (exact HCL.out _ kx)
  (first
    |(go_at_call 92;refine(HTK.out _ kk).mono ?_;rintro e w4 ⟨t1,m1,g1,rfl,h1,h2,h3⟩;have kx:=kx.trans h3)
    |(go_at_call 107;refine(HLD.out _ kk).mono ?_;rintro e w3 ⟨rfl,rfl⟩;simp only[Int.toNat_natCast,HVS.out])
    |(go_at_call 105;refine(HRO.out _).mono ?_;rintro e w2 ⟨rfl,hk2⟩;have kk:=kk.trans hk2;have kx:=kx.trans (hk2.mono (by simp))))
 rename_i hHd
 clear hHd
 have HE:=hid (And.intro h1 (And.intro h2 kx))
 clear h1 h2 h3 kx kk hk2
 go_wp2_with fail
 go_ret2
 exact⟨t1,m1,g1,0,rfl,HE.out.1,HE.out.2.2,.inr ⟨rfl,j,rfl,HE0.out.1,by rw[<-HE0.out.2];exact HE.out.2.1⟩⟩
end
open Go.RowKit Go.OpenShut
def plcL (m:Nat) (g:Nat->Nat):List Nat:=(numL m g).map g
theorem Yk (m:Nat) (g:Nat->Nat):(plcL m g).length=(numL m g).length:=by simp[plcL]
section
variable {p:Nat} {a:DA} {S:DS} {c:Cfg} {q:Nat} {x:Tb} {cv:Value} {k us:Nat} {rs:List Nat} {os:List (Nat×Nat)} {m:Nat} {g:Nat->Nat}
theorem xaY (w:World) (hb:Nat) (t:Nat) (hB:At w hb (hpO a.d c q t cv)) (hD:Dev w p a S) (hH:HepS S c a.n k us rs os) (hc:c.Ok) (hn:c.words=a.n):
  Calls Tryz.prog 21 #[ptr hb] w fun e w'=>e=.returned (.int .i64 0)/\xe [] w w':=by
 have HCK:=hid (fun(w':World) (hk:xe [] w w')=>Y4 w' p a S c (hD.keep hk (by simp) (by simp) (by simp) (by simp)) hc hn k us os false hH.k1 hH.act hH.used hH.chn hH.wd)
 rw[hH.ok]at HCK
 have HS:=hid (fun(w':World) (hk:xe [] w w')=>zA hB hk (by simp))
 clear hB hD hH hc hn
 go_enter Tryz.func21,Tryz.ntmps21
 go_upto_region 1 with fail
 have kk:xe [] w w.drew:=(xe.refl _ _).drew
 go_region_held3 (fun w'=>w'.cell? ⟨hb,0,none⟩=some (ptr a.d)∧w'.cell? ⟨hb,1,none⟩=some (.int .i64 c.log)∧w'.cell? ⟨hb,2,none⟩=some (.int .i64 c.roots)∧w'.cell? ⟨hb,3,none⟩=some (.int .i64 c.space))
  (exact HS.out _ kk)
  (first|(go_at_call 74;refine(HCK.out _ kk).mono ?_;rintro e w2 ⟨rfl,hk2⟩;have kk:=kk.trans hk2))
 rename_i hHd
 clear hHd
 have HE:=hid kk
 clear hk2 kk
 go_wp2_with fail
 go_ret
 exact⟨rfl,HE.out⟩
theorem XP (w:World) (hb d:Nat) (hB:At w hb (hpO d c q x.t cv)) (hT:TabW w x m g):
  Calls Tryz.prog 97 #[ptr hb] w fun e w'=>∃y cy,e=.returned (.slice y (numL m g).length cy)/\OwnU w' w.heap.size y cy (numL m g).length (fun j=>(((plcL m g).getD j 0:Nat):Int))/\xe [] w w':=by
 have c5:=hB.cell 5 rfl
 have HNB:=hid (YU w x m g hT)
 have HPL:=hid (fun(w':World) (z:Int) (hk:xe [] w w')=>jD w' x m g z (hT.keep hk (by simp)))
 have H5:=hid (fun(w':World) (hk:xe [] w w')=>(yj hB hk (by simp)).2.2.2.2.2)
 have hNm:(numL m g).length≤1001:=by have h1:=Xl m g;have h2:=hT.le;omega
 have hO0:OwnU w w.heap.size none 0 0 (fun j=>(((plcL m g).getD j 0:Nat):Int)):=⟨rfl,.inl ⟨rfl,rfl⟩⟩
 have HO0:=hid hO0
 have HN4:Hid (∀n,g n<4000):=fun n=>by
  rcases Nat.eq_zero_or_pos (g n)with h|h
  ·omega
  ·exact(hT.bd n (by omega)).2.2
 obtain⟨L,hL⟩:∃L,L=numL m g:=⟨_,rfl⟩
 have hP:∀i,i<L.length->(plcL m g).getD i 0=g (L.getD i 0):=fun i hi=>by
  unfold plcL
  rw[<-hL,List.getD_eq_getElem?_getD,List.getD_eq_getElem?_getD,List.getElem?_map,List.getElem?_eq_getElem hi]
  rfl
 have HP:=hid hP
 rw[<-hL]at HNB hNm⊢
 obtain⟨N,hN⟩:∃N,N=L.length:=⟨_,rfl⟩
 rw[<-hN]at HNB hNm⊢
 have HNL:=hid hN
 have hNi:(N:Int)≤1001:=by omega
 clear hB hT hO0 hP hL hN hNm
 go_enter Tryz.func97,Tryz.ntmps97
 go_wp2_with fail
 refine HNB.out.mono ?_
 rintro e w1 ⟨y1,cy1,rfl,hO1,hk1⟩
 have HO1:=hid hO1
 have HK1:=hid hk1
 clear hO1 hk1 HNB c5
 go_wp2_with fail
 go_loopg [3,5,6,7,14] N (fun r s3 s5 s6 s7 s14 wr=>∃i y cy,i+r=N∧s3=.slice y i cy∧s14=.int .i64 (i:Nat)∧OwnU wr w1.heap.size y cy i (fun j=>(((plcL m g).getD j 0:Nat):Int))∧xe [] w1 wr)
 case atStart=>exact⟨0,none,0,by omega,rfl,rfl,⟨rfl,.inl ⟨rfl,rfl⟩⟩,xe.refl _ _⟩
 case round=>
  obtain⟨i,y,cy,hi,rfl,rfl,hO,hK⟩:=hrel
  have HO:=hid hO
  have HK:=hid hK
  have HI:=hid hi
  by_cases hlt:i<N
  ·have hlti:(i:Int)<(N:Int):=by omega
   obtain⟨rb,rfl,hr1,hr2,hr3⟩:=HO1.out.cell (by omega)
   obtain⟨z,hz⟩:∃z:Nat,z=L.getD i 0:=⟨_,rfl⟩
   have d0:wr.cell? ⟨rb,i,none⟩=some (.int .i64 (z:Nat)):=by
    rw[hz,<-hr3 i hlt]
    exact hK.cell (p:=⟨rb,i,none⟩) hr2 (by simp)
   have c5:=H5.out wr (HK1.out.trans hK)
   have hpl:=HPL.out wr (z:Nat) (HK1.out.trans hK)
   have hv:numA g (z:Nat)=(plcL m g).getD i 0:=by
    rw[HP.out i (by rw[<-HNL.out];exact hlt),<-hz]
    unfold numA
    rw[if_pos (by omega),Int.toNat_natCast]
   obtain⟨v,hve⟩:∃v:Nat,v=(plcL m g).getD i 0:=⟨_,rfl⟩
   have hv4:v<4000:=by
    rw[hve,HP.out i (by rw[<-HNL.out];exact hlt)]
    exact HN4.out _
   rw[hv,<-hve]at hpl
   have HPZ:=hid hpl
   have HVE:=hid hve
   have hv5:v≤15000:=by omega
   have ew:=vY v hv5
   clear hO hK hi hr1 hr2 hr3 hz hpl hv hve hv4 hv5
   go_wp2_with fail
   refine HPZ.out.mono ?_
   rintro e w2 ⟨rfl,rfl⟩
   have HLT:=hid hlt
   clear d0 c5 hlt
   go_wp2_with (at_builtin;refine xbu rfl _ _ rfl w1.heap.size y cy i _ rfl (HO.out.keep (xe.alloc (xe.refl [] w2) _) (by simp)) w2.heap.size 1 v rfl ((At.new w2 _).cell 0 rfl) (by have:=HI.out;omega) (by have h1:=HK.out.size;rw[World.size_alloc];omega) ?_;intro g' cap' w5 ho5 hk5 hg5;have HO5:=hid ho5;have HK5:=hid hk5;clear ho5 hk5 hg5)
   have hh1:=HI.out
   have hh2:=HLT.out
   go_roundg (N-(i+1))
   case measure=>omega
   case rel=>
    refine⟨i+1,_,_,by omega,rfl,by go_num,HO5.out.eq fun j hj=>?_,(HK.out.trans (xe.alloc (xe.refl [] w2) _)).new HK5.out fun b hb=>.inr (HO.out.ge b hb).1⟩
    unfold put
    split
    ·rename_i h;rw[h,<-HVE.out]
    ·rfl
  ·have hie:N=i:=by omega
   subst hie
   have HE:Hid (OwnU wr w.heap.size y cy N (fun j=>(((plcL m g).getD j 0:Nat):Int))/\xe [] w wr):=⟨hO.low HK1.out.size,HK1.out.trans hK⟩
   clear hO hK hi hlt
   go_wp2_with fail
   go_ret
   exact⟨y,cy,rfl,HE.out⟩
theorem xaP (w:World) (hb d:Nat) (xs:Option Addr) (cp B:Nat) (hB:At w hb (hpO d c q x.t cv)) (hT:TabW w x m g) (hrl:rs.length=c.roots) (hr1:1≤c.roots/\c.roots≤16) (hm:m≤900) (hO:OwnU w B xs cp c.roots (fun j=>((rs.getD j 0:Nat):Int))):
  Calls Tryz.prog 81 #[ptr hb,bkV (k:Nat) (us:Nat) (.slice xs c.roots cp)] w fun e w'=>∃y cy,e=.returned (.slice y (c.roots+(numL m g).length:Nat) cy)/\OwnU w' w.heap.size y cy (c.roots+(numL m g).length) (fun j=>(((rs++plcL m g).getD j 0:Nat):Int))/\xe [] w w':=by
 have HPC:=hid (fun(w':World) (hk:xe [] w w')=>XP w' hb d (hk.at hB (by simp)) (hT.keep hk (by simp)))
 have hM:(numL m g).length≤901:=by have h1:=Xl m g;omega
 obtain⟨M,hMe⟩:∃M,M=(numL m g).length:=⟨_,rfl⟩
 rw[<-hMe]at HPC hM⊢
 have HM:=hid (And.intro hM hr1)
 have HRL:=hid hrl
 have HO:=hid hO
 clear hB hT hrl hM hr1 hm hO hMe
 go_enter Tryz.func81,Tryz.ntmps81
 go_upto_region 1 with fail
 have hX:=At.new w (bkO (k:Nat) (us:Nat) (.slice xs c.roots cp))
 have k1:=(xe.refl [] w).alloc (bkO (k:Nat) (us:Nat) (.slice xs c.roots cp))
 obtain⟨bb,hbb⟩:∃q,q=w.heap.size:=⟨_,rfl⟩
 obtain⟨w1,hw1⟩:∃w1,w1=w.alloc (bkO (k:Nat) (us:Nat) (.slice xs c.roots cp)):=⟨_,rfl⟩
 first|rw[<-hbb]|skip
 rw[<-hbb]at hX
 rw[<-hw1]at hX k1⊢
 have HK1:=hid k1
 have HX:=hid (fun(w':World) (hk:xe [] w1 w')=>(hk.at hX (by simp)).cell 2 rfl)
 have HO1:=hid (fun(w':World) (hk:xe [] w1 w')=>HO.out.keep (k1.trans hk) (by simp))
 clear hX k1 hbb hw1
 have HCC:Hid (∀(w':World) (b:Nat) (y:Option Addr) (cy B2:Nat),xe [] w1 w'->At w' b (.cells #[.slice xs c.roots cp,.slice y M cy] 60)->OwnU w' B2 y cy M (fun j=>(((plcL m g).getD j 0:Nat):Int))->Calls Tryz.prog 152 #[.slice (some ⟨b,0,none⟩) 2 2] w' fun e w''=>∃x' c',e=.returned (.slice x' (c.roots+M) c')/\OwnU w'' w'.heap.size x' c' (c.roots+M) (fun j=>(((rs++plcL m g).getD j 0:Nat):Int))/\xe [] w' w''):=fun w' b y cy B2 hk hA hy=>by
  refine(Y2 w' b xs y c.roots M cp cy B B2 _ _ hA (HO1.out w' hk) hy HM.out.2.1 (by have:=HM.out;omega)).mono ?_
  rintro e w'' ⟨x',c',rfl,h1,h2⟩
  refine⟨x',c',rfl,h1.eq fun j hj=>?_,h2⟩
  by_cases h:j<c.roots
  ·rw[if_pos h,List.getD_eq_getElem?_getD,List.getD_eq_getElem?_getD,List.getElem?_append_left (by rw[HRL.out];exact h)]
  ·rw[if_neg h,List.getD_eq_getElem?_getD,List.getD_eq_getElem?_getD,List.getElem?_append_right (by rw[HRL.out];omega),HRL.out]
 have kk:xe [] w1 w1.drew:=(xe.refl _ _).drew
 go_region_held3 (fun w'=>w'.cell? ⟨bb,2,none⟩=some (.slice xs c.roots cp))
  (first|exact HX.out _ kk|exact HX.out _ (kk.alloc _)|exact HX.out _ ((kk.alloc _).trans hk4))
  (first
    |(go_at_call 152;refine(HCC.out _ _ _ _ _ (kk.alloc _) (At.new _ _) (hO2.keep (xe.alloc (xe.refl [] _) _) (by simp))).mono ?_;rintro e w4 ⟨x4,c4,rfl,hO4,hk4⟩)
    |(go_at_call 97;refine(HPC.out _ (HK1.out.trans kk)).mono ?_;rintro e w2 ⟨y2,cy2,rfl,hO2,hk2⟩;have kk:=kk.trans hk2))
 rename_i hHd
 clear hHd
 have HE:Hid (OwnU w4 w.heap.size x4 c4 (c.roots+M) (fun j=>(((rs++plcL m g).getD j 0:Nat):Int))/\xe [] w w4):=⟨hO4.low (HK1.out.trans (kk.alloc _)).size,HK1.out.trans ((kk.alloc _).trans hk4)⟩
 have ec:((c.roots:Int)+(M:Int))=((c.roots+M:Nat):Int):=by omega
 clear hO4 hk4 kk hO2 hk2
 go_wp2_with fail
 go_ret
 exact⟨x4,c4,rfl,HE.out⟩
def StaV (us rd h m:Nat) (o:Bool):Value:=.agg #[.int .i64 (us:Nat),.int .i64 (rd:Nat),.int .i64 (h:Nat),.int .i64 (m:Nat),.bool o]
theorem xaH (w:World) (hb:Nat) (mr:Nat) (op:Bool) (lb:Nat) (hB:At w hb (hpO a.d c q x.t cv)) (hD:Dev w p a S) (hH:HepS S c a.n k us rs os) (hc:c.Ok) (hn:c.words=a.n) (hT:TabW w x m g) (hm:m≤900)
  (hq:w.cell? ⟨q,0,none⟩=some (ptr lb)/\q<w.heap.size) (hLN:∀w',xe [] w w'->Calls Tryz.prog 83 #[ptr lb] w' fun e w''=>e=.returned (.int .i64 (mr:Nat))/\w'=w'')
  (hOP:∀w',xe [] w w'->Calls Tryz.prog 84 #[ptr q] w' fun e w''=>e=.returned (.bool op)/\w'=w''):
  Calls Tryz.prog 22 #[ptr hb] w fun e w'=>e=.returned (StaV us (szF S (rcF S c k us (rs++plcL m g))) (numL m g).length mr op)/\xe [] w w':=by
 have HBK:=hid (fun(w':World) (hk:xe [] w w')=>Xv w' hb p a (hk.at hB (by simp)) (hD.keep hk (by simp) (by simp) (by simp) (by simp)) hH hc hn)
 have HNU:=hid (fun(w':World) (hk:xe [] w w')=>YU w' x m g (hT.keep hk (by simp)))
 have HNM:=hid (fun(w':World) (hk:xe [] w w') (xs:Option Addr) (cp B:Nat) (hO:OwnU w' B xs cp c.roots (fun j=>((rs.getD j 0:Nat):Int)))=>xaP (k:=k) (us:=us) w' hb a.d xs cp B (hk.at hB (by simp)) (hT.keep hk (by simp)) hH.rl ⟨hc.1,hc.2.1⟩ hm hO)
 have hM:c.roots+(numL m g).length≤1000:=by have h1:=Xl m g;have h2:=hc.2.1;omega
 have hws:wsN (c.roots+(numL m g).length) (fun j=>(((rs++plcL m g).getD j 0:Nat):Int))=rs++plcL m g:=by
  have hl:(rs++plcL m g).length=c.roots+(numL m g).length:=by rw[List.length_append,Yk,hH.rl]
  apply List.ext_getElem?
  intro i
  by_cases hi:i<c.roots+(numL m g).length
  ·rw[wsN,List.getElem?_map,List.getElem?_range hi,List.getElem?_eq_getElem (by omega)]
   simp[List.getD_eq_getElem?_getD,List.getElem?_eq_getElem (show i<(rs++plcL m g).length by omega)]
  ·rw[List.getElem?_eq_none (by rw[XC];omega),List.getElem?_eq_none (by omega)]
 have hwb:∀v∈rs++plcL m g,v<18446744073709551616:=fun v hv=>by
  rcases List.mem_append.1 hv with h|h
  ·have:=hH.rb v h;omega
  ·obtain⟨n,hn1,rfl⟩:=List.mem_map.1 h
   rcases Nat.eq_zero_or_pos (g n)with h0|h0
   ·omega
   ·have:=(hT.bd n (by omega)).2.2;omega
 have HSZ:=hid (fun(w':World) (hk:xe [] w w') (rv:Value) (y:Option Addr) (cy:Nat) (hr:Reads w' y (c.roots+(numL m g).length) (fun j=>(((rs++plcL m g).getD j 0:Nat):Int)))=>WG w' p a S c (hD.keep hk (by simp) (by simp) (by simp) (by simp)) hc hn k hH.k1 us hH.us rv hH.wd.2 y _ cy _ hr hM (fun i hi=>⟨_,rfl,by
  have hl:(rs++plcL m g).length=c.roots+(numL m g).length:=by rw[List.length_append,Yk,hH.rl]
  rw[List.getD_eq_getElem?_getD,List.getElem?_eq_getElem (by omega)]
  exact hwb _ (List.getElem_mem _)⟩))
 rw[hws]at HSZ
 obtain⟨U,hU⟩:∃U,U=szF S (rcF S c k us (rs++plcL m g)):=⟨_,rfl⟩
 obtain⟨M,hMe⟩:∃M,M=(numL m g).length:=⟨_,rfl⟩
 rw[<-hU,<-hMe]at HSZ⊢
 rw[<-hMe]at HNU HNM
 have HC0:=hid (fun(w':World) (hk:xe [] w w')=>And.intro (yj hB hk (by simp)) (And.intro ((hk.cell (p:=⟨q,0,none⟩) hq.2 (by simp)).trans hq.1) (xe.refl [] w')))
 unfold HpCl at HC0
 have HLN:=hid hLN
 have HOP:=hid hOP
 clear hB hD hH hc hn hT hm hq hM hws hwb hLN hOP hU hMe
 go_enter Tryz.func22,Tryz.ntmps22
 go_upto_region 1 with fail
 have hX:=At.new w (.cells #[.int .i64 0,.int .i64 0,.int .i64 0,.int .i64 0,.bool false] 56)
 have kk:=(xe.refl [] w).alloc (.cells #[.int .i64 0,.int .i64 0,.int .i64 0,.int .i64 0,.bool false] 56)
 obtain⟨rb,hrb⟩:∃q,q=w.heap.size:=⟨_,rfl⟩
 obtain⟨w1,hw1⟩:∃w1,w1=w.alloc (.cells #[.int .i64 0,.int .i64 0,.int .i64 0,.int .i64 0,.bool false] 56):=⟨_,rfl⟩
 first|rw[<-hrb]|skip
 rw[<-hrb]at hX
 rw[<-hw1]at hX kk⊢
 have HZ1:Hid (w.heap.size≤rb):=Nat.le_of_eq hrb.symm
 have HX:=hid (fun(w':World) (hk:xe [] w1 w')=>hk.at hX (by simp))
 have HK1:=hid kk
 clear hw1 hrb hX kk
 have HB1:=hid (HBK.out w1 HK1.out)
 go_wp2_with fail
 refine HB1.out.mono ?_
 rintro e w2 ⟨xs,cp,rfl,hO2,hk2⟩
 have HO2:=hid hO2
 have HK2:=hid hk2
 clear hO2 hk2 HB1 HBK
 go_upto_region 2 with fail
 have hB3:=At.new w2 (bkO (k:Nat) (us:Nat) (.slice xs c.roots cp))
 have k23:=(xe.refl [] w2).alloc (bkO (k:Nat) (us:Nat) (.slice xs c.roots cp))
 obtain⟨bb,hbb⟩:∃q,q=w2.heap.size:=⟨_,rfl⟩
 obtain⟨w3,hw3⟩:∃w3,w3=w2.alloc (bkO (k:Nat) (us:Nat) (.slice xs c.roots cp)):=⟨_,rfl⟩
 first|rw[<-hbb]|skip
 rw[<-hbb]at hB3
 rw[<-hw3]at hB3 k23⊢
 have HK13:=hid (HK2.out.trans k23)
 have HK3:=hid (HK1.out.trans HK13.out)
 have HNE:Hid (rb<bb):=by have h1:=(HX.out w1 (xe.refl _ _)).lt;have h2:=HK2.out.size;show _<_;omega
 have HO3:=hid (fun(w':World) (hk:xe [] w3 w')=>HO2.out.keep (k23.trans hk) (by simp))
 have HC:Hid (∀w',xe [rb] w3 w'->((w'.cell? ⟨hb,0,none⟩=some (ptr a.d)/\w'.cell? ⟨hb,1,none⟩=some (.int .i64 c.log)/\w'.cell? ⟨hb,2,none⟩=some (.int .i64 c.roots)/\w'.cell? ⟨hb,3,none⟩=some (.int .i64 c.space)/\w'.cell? ⟨hb,4,none⟩=some (ptr q)/\w'.cell? ⟨hb,5,none⟩=some (ptr x.t))/\w'.cell? ⟨q,0,none⟩=some (ptr lb)/\xe [] w' w')/\w'.cell? ⟨bb,0,none⟩=some (.int .i64 (k:Nat))/\w'.cell? ⟨bb,1,none⟩=some (.int .i64 (us:Nat))/\w'.cell? ⟨bb,2,none⟩=some (.slice xs c.roots cp)):=fun w' hk=>by
  have h1:=hk.at hB3 (by have:=HNE.out;simp;omega)
  refine⟨HC0.out w' (HK3.out.new hk fun b hb=>.inr ?_),h1.cell 0 rfl,h1.cell 1 rfl,h1.cell 2 rfl⟩
  have:=HZ1.out
  simp at hb
  omega
 have HX3:=hid (fun(w':World) (hk:xe [] w3 w')=>HX.out w' (HK13.out.trans hk))
 clear hw3 hbb hB3 k23 HC0 HX HO2
 have kk:xe [] w3 w3.drew:=(xe.refl _ _).drew
 have ez:IntKind.i64.wrap (M:Int)=(M:Int)\/True:=.inr trivial
 clear ez
 go_region_held3 (fun w'=>((w'.cell? ⟨hb,0,none⟩=some (ptr a.d)∧w'.cell? ⟨hb,1,none⟩=some (.int .i64 c.log)∧w'.cell? ⟨hb,2,none⟩=some (.int .i64 c.roots)∧w'.cell? ⟨hb,3,none⟩=some (.int .i64 c.space)∧w'.cell? ⟨hb,4,none⟩=some (ptr q)∧w'.cell? ⟨hb,5,none⟩=some (ptr x.t))∧w'.cell? ⟨q,0,none⟩=some (ptr lb)∧xe [] w' w')∧w'.cell? ⟨bb,0,none⟩=some (.int .i64 (k:Nat))∧w'.cell? ⟨bb,1,none⟩=some (.int .i64 (us:Nat))∧w'.cell? ⟨bb,2,none⟩=some (.slice xs c.roots cp))
  (exact HC.out _ (by repeat (first|exact kk.mono (by simp)|refine xe.set ?_ (.inl (by simp)) _)))
  (first
    |(go_at_call 80;refine(HSZ.out _ (HK3.out.trans kk) _ _ _ hO4.rd).mono ?_;rintro e w5 ⟨rfl,hk5⟩;have kk:=kk.trans hk5)
    |(go_at_call 81;refine(HNM.out _ (HK3.out.trans kk) _ _ _ (HO3.out _ kk)).mono ?_;rintro e w4 ⟨y4,cy4,rfl,hO4,hk4⟩;have kk:=kk.trans hk4)
    |(go_at_call 82;refine(HNU.out _ (HK3.out.trans kk)).mono ?_;rintro e w6 ⟨y6,cy6,rfl,hO6,hk6⟩;have kk:=kk.trans hk6)
    |(go_at_call 83;refine(HLN.out _ (HK3.out.trans kk)).mono ?_;rintro e w7 ⟨rfl,rfl⟩)
    |(go_at_call 84;refine(HOP.out _ (HK3.out.trans kk)).mono ?_;rintro e w8 ⟨rfl,rfl⟩;have hX4:=HX3.out _ kk;have y0:=hX4.cell 0 rfl;have y1:=hX4.cell 1 rfl;have y2:=hX4.cell 2 rfl;have y3:=hX4.cell 3 rfl;have y4:=hX4.cell 4 rfl;have f0:=hX4.free 0;have f1:=hX4.free 1;have f2:=hX4.free 2;have f3:=hX4.free 3;have f4:=hX4.free 4))
 rename_i hHd
 clear hHd
 have hF:=((((hX4.set 0 (.int .i64 (us:Nat))).set 1 (.int .i64 (U:Nat))).set 2 (.int .i64 (M:Nat))).set 3 (.int .i64 (mr:Nat))).set 4 (.bool op)
 have x0:=hF.cell 0 rfl
 have x1:=hF.cell 1 rfl
 have x2:=hF.cell 2 rfl
 have x3:=hF.cell 3 rfl
 have x4:=hF.cell 4 rfl
 have HE:=hid ((((((HK3.out.trans kk).set (.inr HZ1.out) (.int .i64 (us:Nat)) (p:=⟨rb,0,none⟩)).set (.inr HZ1.out) (.int .i64 (U:Nat)) (p:=⟨rb,1,none⟩)).set (.inr HZ1.out) (.int .i64 (M:Nat)) (p:=⟨rb,2,none⟩)).set (.inr HZ1.out) (.int .i64 (mr:Nat)) (p:=⟨rb,3,none⟩)).set (.inr HZ1.out) (.bool op) (p:=⟨rb,4,none⟩))
 clear y0 y1 y2 y3 y4 f0 f1 f2 f3 f4 hF hX4 hk4 hk5 hk6 hO4 hO6 kk
 go_wp2_with fail
 refine bodyPost_ret (v:=StaV us U M mr op) (by simp[results,Tryz.results22,go_sem,x0,x1,x2,x3,x4,StaV]) rfl ?_
 exact⟨rfl,HE.out⟩
end
end Go.Proofs.YtcdhklgahepcaaaGreat
