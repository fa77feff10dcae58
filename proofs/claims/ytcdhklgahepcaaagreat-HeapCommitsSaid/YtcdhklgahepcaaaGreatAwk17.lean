import Derived.Test.YtcdhklgahepcaaaGreatHpn
import Derived.BigQuiet
import Derived.Deep.RegionHeld3
import Derived.Test.YtcdhklgahepcaaaGreatTbm
import Derived.Test.YtcdhklgahepcaaaGreatAwk15
set_option maxHeartbeats 2000000
set_option maxRecDepth 100000
namespace Go.Proofs.YtcdhklgahepcaaaGreat
open Go.RowKit Go.OpenShut
abbrev mdO (c:Cfg) (rt:Value) (u:Int) (ha:Value) (o:Bool) (sn fr un:Value) (l t:Int):Obj:=.cells #[.int .i64 c.log,.int .i64 c.roots,.int .i64 c.space,rt,.int .i64 u,ha,.bool o,sn,fr,un,.int .i64 l,.int .i64 t] 40
abbrev nilS:Value:=.slice none 0 0
structure Md0 (c:Cfg) (mb rb:Nat) (w:World):Prop where
 md:At w mb (mdO c (.slice (some ⟨rb,0,none⟩) c.roots c.roots) 0 nilS false nilS nilS nilS (-1) 0)
 rt:At w rb (.cells (rowOf id c.roots fun _=>.pointer none) 90)
theorem Md0.keep {c:Cfg} {mb rb:Nat} {w w':World} {T:List Nat} (h:Md0 c mb rb w) (hk:xe T w w') (h1:mb∉T) (h2:rb∉T):Md0 c mb rb w':=⟨hk.at h.md h1,hk.at h.rt h2⟩
theorem xdS (w:World) (c:Cfg) (hc:c.Ok):
  Calls Tryz.prog 50 #[cfgV c] w fun e w'=>∃mb rb,e=.returned (ptr mb)/\Md0 c mb rb w'/\w.heap.size≤mb/\w.heap.size≤rb/\xe [] w w':=by
 have hr:=hc.2.1
 have hri:(c.roots:Int)≤1000:=by omega
 have hmk:=zu (P:=Tryz.prog) 33 90 (.pointer none) 8 Tryz.underlying33 (by kernel_rfl) rfl c.roots (by omega) (by omega)
 have hB:=At.new w (cfgO c)
 have K0:=(xe.refl [] w).alloc (cfgO c)
 go_enter Tryz.func50,Tryz.ntmps50
 go_upto_region 1 with fail
 obtain⟨w0,hw0⟩:∃w0,w0=w.alloc (cfgO c):=⟨_,rfl⟩
 obtain⟨bc,hbc⟩:∃bc,bc=w.heap.size:=⟨_,rfl⟩
 rw[<-hw0]at hB K0⊢
 rw[<-hbc]at hB⊢
 have HS:Hid (∀w',xe [] w0 w'->(w'.cell? ⟨bc,0,none⟩=some (.int .i64 c.log)/\w'.cell? ⟨bc,1,none⟩=some (.int .i64 c.roots)/\w'.cell? ⟨bc,2,none⟩=some (.int .i64 c.space))):=fun w' hk=>⟨(hk.at hB (by simp)).cell 0 rfl,(hk.at hB (by simp)).cell 1 rfl,(hk.at hB (by simp)).cell 2 rfl⟩
 have HK0:=hid K0
 have kk:xe [] w0 w0.drew:=(xe.refl _ _).drew
 clear hw0 hbc hB K0 hc hr
 go_region_held2 (fun w'=>w'.cell? ⟨bc,0,none⟩=some (.int .i64 c.log)∧w'.cell? ⟨bc,1,none⟩=some (.int .i64 c.roots)∧w'.cell? ⟨bc,2,none⟩=some (.int .i64 c.space))
  (exact HS.out _ (by repeat first|exact kk|apply xe.drew|apply xe.alloc|exact xe.refl _ _))
  (fail)
 rename_i hHd
 clear hHd
 have HE:Hid (∀w',w'=((w0.alloc (.cells (rowOf id c.roots fun _=>Value.pointer none) 90)).alloc (mdO c (.slice (some ⟨w0.heap.size,0,none⟩) c.roots c.roots) 0 nilS false nilS nilS nilS (-1) 0)).drew->∃mb rb,Value.pointer (some ⟨w0.heap.size+1,0,none⟩)=ptr mb/\Md0 c mb rb w'/\w.heap.size≤mb/\w.heap.size≤rb/\xe [] w w'):=by
  rintro w' rfl
  have h1:=At.new w0 (.cells (rowOf id c.roots fun _=>Value.pointer none) 90)
  have h2:=At.new (w0.alloc (.cells (rowOf id c.roots fun _=>Value.pointer none) 90)) (mdO c (.slice (some ⟨w0.heap.size,0,none⟩) c.roots c.roots) 0 nilS false nilS nilS nilS (-1) 0)
  simp only[World.size_alloc]at h2
  have hz:=HK0.out.size
  exact⟨w0.heap.size+1,w0.heap.size,rfl,⟨(xe.refl [] _).drew.at h2 (by simp),(((xe.refl [] _).alloc _).drew).at h1 (by simp)⟩,by omega,hz,((HK0.out.alloc _).alloc _).drew⟩
 obtain⟨w',hw'⟩:∃w',w'=((w0.alloc (.cells (rowOf id c.roots fun _=>Value.pointer none) 90)).alloc (mdO c (.slice (some ⟨w0.heap.size,0,none⟩) c.roots c.roots) 0 nilS false nilS nilS nilS (-1) 0)).drew:=⟨_,rfl⟩
 rw[<-hw']
 have HE2:=hid (HE.out w' hw')
 clear hw' HE kk hmk
 go_wp2_with fail
 go_ret
 obtain⟨mb,rb,e1,e2⟩:=HE2.out
 refine⟨mb,rb,?_,e2⟩
 exact congrArg Ending.returned e1
theorem QY (w:World) (ob:Nat):Calls Tryz.prog 173 #[.pointer none,ptr ob] w fun e w'=>e=.returned (.tuple #[])/\w=w':=by
 go_enter Tryz.func173,Tryz.ntmps173
 go_wp2_with fail
 go_end0
 exact⟨rfl,rfl⟩
theorem VZ (w:World) (c:Cfg) (mb rb:Nat) (h:Md0 c mb rb w) (hr:c.roots≤16):
  Calls Tryz.prog 99 #[ptr mb] w fun e w'=>e=.returned nilS/\xe [] w w':=by
 have hri:(c.roots:Int)≤16:=by omega
 have hO:=At.new w (.cells #[nilS] 33)
 have K0:=(xe.refl [] w).alloc (.cells #[nilS] 33)
 have h0:=h.keep K0 (by simp) (by simp)
 have HS:=hid (fun(w':World) ob=>QY w' ob)
 go_enter Tryz.func99,Tryz.ntmps99
 go_upto_region 2 with fail
 obtain⟨w0,hw0⟩:∃w0,w0=w.alloc (.cells #[nilS] 33):=⟨_,rfl⟩
 obtain⟨ob,hob⟩:∃ob,ob=w.heap.size:=⟨_,rfl⟩
 rw[<-hw0]at hO K0 h0⊢
 rw[<-hob]at hO⊢
 have o0:=hO.cell 0 rfl
 have m3:=h0.md.cell 3 rfl
 have m5:=h0.md.cell 5 rfl
 have HRT:=hid h0.rt
 have HK0:=hid K0
 have HR:=hid hr
 clear hw0 hob hO K0 h0 h hr
 go_wp2_with fail
 go_loopg [18] c.roots (fun r s wr=>∃i:Nat,i+r=c.roots∧s=.int .i64 (i:Nat)∧w0=wr)
 case atStart=>exact⟨0,by omega,rfl,rfl⟩
 case round=>
  obtain⟨i,hi,rfl,rfl⟩:=hrel
  have hii:(i:Int)≤16:=by omega
  by_cases hlt:i<c.roots
  ·have t0:decide (i<c.roots)=true:=by rw[decide_eq_true_eq];exact hlt
   have t1:decide ((i:Int)<(c.roots:Int))=true:=by rw[decide_eq_true_eq];omega
   have hlti:(i:Int)<(c.roots:Int):=by omega
   have ci:=HRT.out.cell i (zw (c:=id) (f:=fun _=>Value.pointer none) hlt)
   go_wp2_with fail
   refine(HS.out _ ob).mono ?_
   rintro e w1 ⟨rfl,rfl⟩
   go_wp2_with fail
   go_roundg (c.roots-(i+1))
   case measure=>omega
   case rel=>exact⟨i+1,by omega,by go_num,rfl⟩
  ·have t0:decide (i<c.roots)=false:=by rw[decide_eq_false_iff_not];exact hlt
   have t1:decide ((i:Int)<(c.roots:Int))=false:=by rw[decide_eq_false_iff_not];omega
   have hi2:i=c.roots:=by omega
   go_wp2_with fail
   go_loopg [31] 0 (fun r s wr=>s=.int .i64 0∧w0=wr)
   case atStart=>exact⟨rfl,rfl⟩
   case round=>
    obtain⟨rfl,rfl⟩:=hrel
    go_wp2_with fail
    go_loopg [9] 0 (fun r s wr=>s=.int .i64 0∧w0=wr)
    case atStart=>exact⟨rfl,rfl⟩
    case round=>
     obtain⟨rfl,rfl⟩:=hrel
     go_wp2_with fail
     go_ret
     exact⟨rfl,HK0.out⟩
theorem xau (w:World) (c:Cfg) (mb rb:Nat) (h:Md0 c mb rb w) (hr:c.roots≤16):
  Calls Tryz.prog 36 #[ptr mb] w fun e w'=>e=.returned (.int .i64 0)/\xe [] w w':=by
 have HR:=hid (VZ w c mb rb h hr)
 go_enter Tryz.func36,Tryz.ntmps36
 go_wp2_with fail
 refine HR.out.mono ?_
 rintro e w1 ⟨rfl,k1⟩
 go_wp2_with fail
 go_loopg [3,9] 0 (fun r s3 s wr=>s3=.int .i64 0∧s=.int .i64 0∧w1=wr)
 case atStart=>exact⟨rfl,rfl,rfl⟩
 case round=>
  obtain⟨rfl,rfl,rfl⟩:=hrel
  go_wp2_with fail
  go_ret
  exact⟨rfl,k1⟩
theorem xaw (w:World) (c:Cfg) (mb rb:Nat) (h:Md0 c mb rb w):
  Calls Tryz.prog 112 #[ptr mb] w fun e w'=>e=.returned (.int .i64 0)/\w=w':=by
 have m5:=h.md.cell 5 rfl
 clear h
 go_enter Tryz.func112,Tryz.ntmps112
 go_wp2_with fail
 go_loopg [3,11] 0 (fun r s3 s wr=>s3=.int .i64 0∧s=.int .i64 0∧w=wr)
 case atStart=>exact⟨rfl,rfl,rfl⟩
 case round=>
  obtain⟨rfl,rfl,rfl⟩:=hrel
  go_wp2_with fail
  go_ret
  exact⟨rfl,rfl⟩
theorem xeT (w:World) (c:Cfg) (mb rb hb:Nat) (h:Md0 c mb rb w) (hr:c.roots≤16)
  (hS:Calls Tryz.prog 22 #[ptr hb] w fun e w'=>e=.returned (.agg #[.int .i64 0,.int .i64 0,.int .i64 0,.int .i64 0,.bool false])/\xe [] w w')
  (hC:∀w',xe [] w w'->Calls Tryz.prog 21 #[ptr hb] w' fun e w''=>e=.returned (.int .i64 0)/\xe [] w' w''):
  Calls Tryz.prog 47 #[ptr mb,ptr hb] w fun e w'=>e=.returned (.bool true)/\xe [] w w':=by
 have HS:=hid hS
 have HC:=hid hC
 have HM:=hid (fun w' (hk:xe [] w w')=>h.keep hk (by simp) (by simp))
 have HSZ:=hid (fun w' (hk:xe [] w w')=>xau w' c mb rb (h.keep hk (by simp) (by simp)) hr)
 have HLV:=hid (fun w' (hk:xe [] w w')=>xaw w' c mb rb (h.keep hk (by simp) (by simp)))
 clear hS hC h hr
 go_enter Tryz.func47,Tryz.ntmps47
 go_wp2_with fail
 refine HS.out.mono ?_
 rintro e w1 ⟨rfl,k1⟩
 have HK1:=hid k1
 clear k1
 go_upto_region 2 with fail
 have hX:=At.new w1 (.cells #[.int .i64 0,.int .i64 0,.int .i64 0,.int .i64 0,.bool false] 56)
 have k2:=(xe.refl [] w1).alloc (.cells #[.int .i64 0,.int .i64 0,.int .i64 0,.int .i64 0,.bool false] 56)
 obtain⟨sb,hsb⟩:∃sb,sb=w1.heap.size:=⟨_,rfl⟩
 obtain⟨w2,hw2⟩:∃w2,w2=w1.alloc (.cells #[.int .i64 0,.int .i64 0,.int .i64 0,.int .i64 0,.bool false] 56):=⟨_,rfl⟩
 rw[<-hsb]at hX⊢
 rw[<-hw2]at hX k2⊢
 have HK2:=hid (HK1.out.trans k2)
 have HF:Hid (∀w',xe [] w2 w'->w'.cell? ⟨sb,0,none⟩=some (.int .i64 0)/\w'.cell? ⟨sb,1,none⟩=some (.int .i64 0)/\w'.cell? ⟨sb,2,none⟩=some (.int .i64 0)/\w'.cell? ⟨sb,3,none⟩=some (.int .i64 0)/\w'.cell? ⟨sb,4,none⟩=some (.bool false)/\
   w'.cell? ⟨mb,4,none⟩=some (.int .i64 0)/\w'.cell? ⟨mb,7,none⟩=some (.slice none 0 0)/\w'.cell? ⟨mb,6,none⟩=some (.bool false)):=fun w' hk=>by
  have h1:=hk.at hX (by simp)
  have h2:=(HM.out w' (HK2.out.trans hk)).md
  exact⟨h1.cell 0 rfl,h1.cell 1 rfl,h1.cell 2 rfl,h1.cell 3 rfl,h1.cell 4 rfl,h2.cell 4 rfl,h2.cell 7 rfl,h2.cell 6 rfl⟩
 clear hsb hw2 hX k2 HK1 HS HM
 have kk:xe [] w2 w2.drew:=(xe.refl _ _).drew
 go_region_held3 (fun w'=>w'.cell? ⟨sb,0,none⟩=some (.int .i64 0)∧w'.cell? ⟨sb,1,none⟩=some (.int .i64 0)∧w'.cell? ⟨sb,2,none⟩=some (.int .i64 0)∧w'.cell? ⟨sb,3,none⟩=some (.int .i64 0)∧w'.cell? ⟨sb,4,none⟩=some (.bool false)∧
   w'.cell? ⟨mb,4,none⟩=some (.int .i64 0)/\w'.cell? ⟨mb,7,none⟩=some (.slice none 0 0)/\w'.cell? ⟨mb,6,none⟩=some (.bool false))
  (exact HF.out _ kk)
  (first
    |(go_at_call 36;refine(HSZ.out _ (HK2.out.trans kk)).mono ?_;rintro e w3 ⟨rfl,k3⟩;have kk:=kk.trans k3)
    |(go_at_call 112;refine(HLV.out _ (HK2.out.trans kk)).mono ?_;rintro e w4 ⟨rfl,rfl⟩)
    |(go_at_call 21;refine(HC.out _ (HK2.out.trans kk)).mono ?_;rintro e w5 ⟨rfl,k5⟩;have kk:=kk.trans k5))
 all_goals
  have HE:=hid (HK2.out.trans kk)
  go_wp2_with fail
  go_ret
  exact⟨rfl,HE.out⟩
open Go.RowKit Go.OpenShut
theorem jK (w:World):Calls Tryz.prog 46 #[] w fun e w'=>e=.returned (.bool true)/\Below w.heap.size w w':=by
 go_enter Tryz.func46,Tryz.ntmps46
 go_wp2_with fail
 refine(jL _).mono ?_
 rintro e w1 ⟨rfl,hb1⟩
 have K1:xe [] w w1:=Go.Proofs.YtcdhklgahepcaaaGreat.Below.keeps hb1 []
 clear hb1
 go_wp2_with fail
 refine(xaO w1).mono ?_
 rintro e w2 ⟨x,rfl,h2,hk2,hx⟩
 have HX:Hid (∀b∈x.bl,b∉[]/\w.heap.size≤b):=fun b hb=>⟨by simp,Nat.le_trans K1.size (hx b hb)⟩
 have K2:=K1.trans hk2
 have c5:=hid (Xu w2 x 0 _ 5 h2 (fun _=>by simp) (by omega) (by omega) (by omega))
 rw[show((5:Nat):Int)=5 from rfl,show((0+1:Nat):Int)=1 from rfl]at c5
 clear hx hk2 h2 K1
 go_wp2_with fail
 refine c5.out.mono ?_
 rintro e w3 ⟨rfl,h3,hk3⟩
 have K3:=K2.new hk3 (fun b hb=>.inr (HX.out b hb).2)
 have hg6:∀i,upd (fun _=>0) (0+1) 5 i≠6:=fun i=>by unfold upd;split<;>simp
 have c6:=hid (Xu w3 x 1 _ 6 h3 hg6 (by omega) (by omega) (by omega))
 rw[show((6:Nat):Int)=6 from rfl,show((1+1:Nat):Int)=2 from rfl]at c6
 clear hk3 h3 K2 c5 hg6
 go_wp2_with fail
 refine c6.out.mono ?_
 rintro e w4 ⟨rfl,h4,hk4⟩
 have K4:=K3.new hk4 (fun b hb=>.inr (HX.out b hb).2)
 have c7:=hid (Vh w4 x 2 _ 1 5 h4 (by unfold upd;rfl) (by omega))
 rw[show((5:Nat):Int)=5 from rfl,show((1:Nat):Int)=1 from rfl]at c7
 clear hk4 h4 K3 c6
 go_wp2_with fail
 refine c7.out.mono ?_
 rintro e w5 ⟨rfl,rfl⟩
 clear c7
 go_wp2_with fail
 refine(Zz _ x.t).mono ?_
 rintro e w6 ⟨rfl,rfl⟩
 go_wp2_with fail
 go_ret
 exact⟨rfl,K4.below (Nat.le_refl _) (by simp)⟩
open Go.RowKit Go.OpenShut
theorem HepS.fresh {D:Nat->Int} {c:Cfg} {n:Nat} (hW:X5 c D):HepS (dsN D) c n 0 0 (List.replicate c.roots 0) []:=by
 obtain⟨_,_,_,_,_,_,h⟩:=hW
 have h5:=xH c
 have hr:∀j,j<c.roots->(dsN D).now (c.root j)=0:=fun j hj=>h _ (by unfold Cfg.root;omega) (by unfold Cfg.root;omega)
 refine⟨h _ (Nat.le_refl _) (by omega),h _ (by omega) (by omega),List.length_replicate,fun j hj=>?_,fun v hv=>?_,by omega,⟨fun i hi=>⟨0,hr i hi,by omega⟩,fun j a b=>by omega⟩,⟨by omega,fun i x hx=>by simp at hx,fun _=>rfl,fun h=>by cases h⟩,ZD (fun j hj=>?_) fun i hi=>by simp at hi⟩
 ·rw[hr j hj]
  simp[List.getD,hj]
 ·rw[List.eq_of_mem_replicate hv]
  omega
 ·rw[hr j hj,xV]
  exact .inl rfl
structure Opd (c:Cfg) (H:HpC) (V:HpV) (mb rb:Nat) (w w':World):Prop where
 hc:H.c=c
 h:HpW H (-1) V w'
 v:V.st=.shut/\V.k=0/\V.us=0/\V.rs=List.replicate c.roots 0/\V.os= []/\V.m=0/\V.g=(fun _=>0)/\V.cv=.pointer none
 u:V.u≤200000/\V.r≤1
 fix:∀j,j<H.a.n->Fix V.S j (V.S.now j)
 md:Md0 c mb rb w'
 own:∀b∈H.a.d::H.bl,w.heap.size≤b
 ap:∀b∈[mb,rb],w.heap.size≤b/\b∉H.a.d::H.bl
 keep:xe [] w w'
theorem xeP (l r s:Nat):(mk3 l r s).words≤4000:=by
 have h1:=xD (16+4*(mk3 l r s).log)
 have h2:=xD ((mk3 l r s).root (mk3 l r s).roots)
 have h3:=xD (mk3 l r s).space
 have e1:(mk3 l r s).act=up8 (16+4*(mk3 l r s).log):=rfl
 have e2:(mk3 l r s).words=up8 ((mk3 l r s).root (mk3 l r s).roots)+2*up8 (mk3 l r s).space:=rfl
 have e3:(mk3 l r s).root (mk3 l r s).roots=(mk3 l r s).act+2+(mk3 l r s).roots:=rfl
 have e4:(mk3 l r s).log≤30:=by unfold mk3;simp only;omega
 have e5:(mk3 l r s).roots≤6:=by unfold mk3;simp only;omega
 have e6:(mk3 l r s).space≤100:=by unfold mk3;simp only;omega
 omega
theorem vS (w:World) (l r s:Nat) (hl:l≤65535) (hr:r≤65535) (hs:s≤65535) (x:Option Addr) (n cp:Nat) (f:Nat->Int) (hx:Reads w x n f) (hn:n≤30):
  Calls Tryz.prog 10 #[c3V l r s,.slice x n cp] w fun e w'=>∃H V mb rb,e=.returned (.tuple #[ptr H.a.d,ptr H.hb,ptr mb])/\Opd (mk3 l r s) H V mb rb w w':=by
 have hok:=XW l r s
 have hn4:=xeP l r s
 have HMK:=hid (fun w':World=>JM w' l r s hl hr hs)
 obtain⟨c,hc⟩:∃c,c=mk3 l r s:=⟨_,rfl⟩
 rw[<-hc]at hok hn4 HMK⊢
 have HFM:=hid (fun(w':World) (hk:xe [] w w')=>X0 w' c hok x n cp f (hx.keep hk (by simp)) hn)
 have HOP:=hid (fun(w':World) (p:Nat) (a:DA) (u:Int) (S:DS) (h:Pw w' p a (-1) u S) (hn:c.words=a.n) (hu:u≤100000) (hW:X5 c S.now) (hkp:∀j,j<a.n->S.kept j=S.now j) (his:∀k,S.is k=false)=>by
  have hci:=c_in hok hn
  have hf:∀j,j<a.n->Fix S j (S.now j):=fun j hj=>⟨rfl,hkp j hj,fun e=>by rw[his]at e;cases e⟩
  have hs:SupS c S:=by
   refine⟨?_,?_,?_,?_⟩
   ·have:=hf 0 (by omega);rwa[hW.1]at this
   ·have:=hf 1 (by omega);rwa[hW.2.1]at this
   ·have:=hf 2 (by omega);rwa[hW.2.2.1]at this
   ·have:=hf 3 (by omega);rwa[hW.2.2.2.1]at this
  exact JV w' p a u S c h hok hn (by omega) hs (LI.fresh (fun _=>0) (fun _=>0) hok hn hW hkp his) (by omega) (HepS.fresh hW) (by omega))
 have HMN:=hid (fun w':World=>xdS w' c hok)
 have hB:=At.new w (c3O l r s)
 have K0:=(xe.refl [] w).alloc (c3O l r s)
 clear hc hl hr hs hx hn hok hn4
 go_enter Tryz.func10,Tryz.ntmps10
 go_upto_region 1 with fail
 obtain⟨w0,hw0⟩:∃w0,w0=w.alloc (c3O l r s):=⟨_,rfl⟩
 obtain⟨xb,hxb⟩:∃xb,xb=w.heap.size:=⟨_,rfl⟩
 rw[<-hw0]at hB K0⊢
 rw[<-hxb]at hB⊢
 have HK0:=hid K0
 have x0:=hB.cell 0 rfl
 have x1:=hB.cell 1 rfl
 have x2:=hB.cell 2 rfl
 clear hw0 hxb hB K0
 go_wp2_with fail
 refine(HMK.out w0).mono ?_
 rintro e w1 ⟨rfl,k1⟩
 have HK1:=hid (HK0.out.trans k1)
 clear k1 x0 x1 x2
 go_upto_region 2 with fail
 have hB:=At.new w1 (cfgO c)
 have K2:=HK1.out.alloc (cfgO c)
 obtain⟨w2,hw2⟩:∃w2,w2=w1.alloc (cfgO c):=⟨_,rfl⟩
 obtain⟨bc,hbc⟩:∃bc,bc=w1.heap.size:=⟨_,rfl⟩
 rw[<-hw2]at hB K2⊢
 rw[<-hbc]at hB⊢
 have HB:=hid hB
 have HK2:=hid K2
 have b0:=hB.cell 0 rfl
 have b1:=hB.cell 1 rfl
 have b2:=hB.cell 2 rfl
 have HFM2:=hid (HFM.out w2 K2)
 clear hw2 hbc hB K2
 go_wp2_with fail
 refine HFM2.out.mono ?_
 rintro e w3 ⟨p,a,u,S,rfl,hn,hP,hu,hW,hkp,his,⟨d1,d2,d3,d4,d5⟩,k3⟩
 have HO3:=hid (HOP.out w3 p a u S hP hn hu hW hkp his)
 have HD:=hid (And.intro d1 (And.intro d2 (And.intro d3 (And.intro d4 d5))))
 have HK3:=hid k3
 have HU:=hid hu
 have HLT:Hid (∀b∈[p,a.s,a.k,a.m,a.d],b<w3.heap.size):=fun b hb=>by
  simp only[List.mem_cons,List.not_mem_nil,or_false]at hb
  rcases hb with rfl|rfl|rfl|rfl|rfl
  ·exact hP.pow.lt
  ·exact hP.dev.now.lt
  ·exact hP.dev.kept.lt
  ·exact hP.dev.map.lt
  ·exact hP.dev.dev.lt
 clear hn hP hu hW hkp his d1 d2 d3 d4 d5 k3 b0 b1 b2
 go_wp2_with fail
 refine HO3.out.mono ?_
 rintro e w4 ⟨H,V,rfl,hO⟩
 have HHO:=hid hO
 have hB4:=hO.keep.at (HK3.out.at HB.out (by simp)) (by
  have h1:=HD.out
  have h2:=HB.out.lt
  simp only[List.mem_cons,List.not_mem_nil,or_false]
  omega)
 have b0:=hB4.cell 0 rfl
 have b1:=hB4.cell 1 rfl
 have b2:=hB4.cell 2 rfl
 clear hO hB4
 go_wp2_with fail
 refine(HMN.out w4).mono ?_
 rintro e w5 ⟨mb,rb,rfl,hM,m1,m2,k5⟩
 have hE:Opd c H V mb rb w w5:=by
  have hO:=HHO.out
  obtain⟨e1,e2,e3⟩:=hO.hp
  have hz3:=HK3.out.size
  have hz2:=HK2.out.size
  have hz4:=hO.keep.size
  have hd:=HD.out
  have hu:=HU.out
  have hlt:=hO.h.lt
  have h2:=hO.u
  have h3:=hO.r
  have hown:∀b∈H.a.d::H.bl,w.heap.size≤b:=fun b hb=>by
   unfold HpC.bl Sc.bl at hb
   rw[e1,e2]at hb
   simp only[List.mem_cons,List.mem_append,List.not_mem_nil,or_false]at hb
   have o1:=hO.own H.hb (by simp)
   have o2:=hO.own H.x.t (by simp)
   have o3:=hO.own H.x.p (by simp)
   have o4:=hO.own H.x.n (by simp)
   have o5:=hO.own H.q.b (by simp)
   have o6:=hO.own H.q.lb (by simp)
   have o7:=hO.own H.q.rb (by simp)
   have o8:=hO.own H.q.ub (by simp)
   omega
  refine⟨e3,hO.h.keep0 k5,hO.v,⟨by omega,by omega⟩,fun j hj=>hO.fix j (by rw[<-e2];exact hj),hM,hown,fun b hb=>?_,((HK2.out.trans HK3.out).new hO.keep fun b hb=>.inr ?_).trans k5⟩
  ·simp only[List.mem_cons,List.not_mem_nil,or_false]at hb
   have hb4:w4.heap.size≤b:=by rcases hb with rfl|rfl<;>assumption
   exact⟨by omega,fun h=>by have:=hlt b h;omega⟩
  ·simp only[List.mem_cons,List.not_mem_nil,or_false]at hb
   rcases hb with rfl|rfl|rfl|rfl<;>omega
 have HE:=hid hE
 clear hM m1 m2 k5 hE b0 b1 b2
 go_wp2_with fail
 refine bodyPost_ret (v:=.tuple #[ptr a.d,ptr H.hb,ptr mb]) (by simp[results,Tryz.results10,go_sem]) rfl ?_
 refine⟨H,V,mb,rb,?_,HE.out⟩
 rw[HHO.out.hp.2.1]
theorem Opd.stats {c:Cfg} {H:HpC} {V:HpV} {mb rb:Nat} {w w':World} (h:Opd c H V mb rb w w'):
  Calls Tryz.prog 22 #[ptr H.hb] w' fun e w''=>e=.returned (.agg #[.int .i64 0,.int .i64 0,.int .i64 0,.int .i64 0,.bool false])/\xe [] w' w'':=by
 obtain⟨v1,v2,v3,v4,v5,v6,v7,v8⟩:=h.v
 have h1:=xaI h.h (by omega)
 have h3:szF V.S (rcF V.S H.c V.k V.us (V.rs++plcL V.m V.g))=0:=by
  have h4:rcF V.S H.c V.k V.us (V.rs++plcL V.m V.g)= []:=List.eq_nil_of_length_eq_zero (by
   have:(rcF V.S H.c V.k V.us (V.rs++plcL V.m V.g)).length≤V.us:=vQ V.us
   omega)
  rw[h4]
  rfl
 rw[h3,v1,v3,v6,v7]at h1
 exact h1
theorem xa7 (w:World) (a b c d:Int) (o:Bool):(Instr.field 56 (.agg #[.int .i64 a,.int .i64 b,.int .i64 c,.int .i64 d,.bool o]) 0).run Tryz.prog w=.ok (.int .i64 a) w:=by kernel_rfl
theorem Y7 (w:World):Calls Tryz.prog 9 #[] w fun e w'=>e=.returned (.bool true)/\Below w.heap.size w w':=by
 have HOPN:=hid (fun w':World=>vS w' 0 0 40 (by omega) (by omega) (by omega) none 0 0 (fun _=>0) (.inl rfl) (by omega))
 go_enter Tryz.func9,Tryz.ntmps9
 go_wp2_with fail
 refine(jK _).mono ?_
 rintro e w1 ⟨rfl,hb1⟩
 have K1:xe [] w w1:=Go.Proofs.YtcdhklgahepcaaaGreat.Below.keeps hb1 []
 clear hb1
 go_wp2_with fail
 refine(HOPN.out w1).mono ?_
 rintro e w2 ⟨H,V,mb,rb,rfl,hO⟩
 have hO2:=hO.h
 obtain⟨v1,v2,v3,v4,v5,v6,v7,v8⟩:=hO.v
 obtain⟨u1,u2⟩:=hO.u
 have HC:Hid (H.c.roots=1/\H.c.log=3/\H.c.space=48):=by rw[hO.hc];exact⟨rfl,rfl,rfl⟩
 have HI:=hid (xeT w2 (mk3 0 0 40) mb rb H.hb hO.md (by decide) hO.stats fun w' hk=>xe0 (hO2.keep0 hk))
 have HOW:=hid hO.own
 have K2:=K1.trans hO.keep
 have HZ:=hid K1.size
 have HBG:=hid (fun(w':World) (hk:xe [] w2 w')=>Wn (hO2.keep0 hk) v1 (by omega) (by omega) (by omega) v3)
 have HV:=hid (And.intro v2 (And.intro v3 (And.intro v4 (And.intro v5 (And.intro v6 (And.intro v7 (And.intro u1 u2)))))))
 clear hO hO2 v1 v2 v3 v4 v5 v6 v7 v8 u1 u2 HOPN K1
 go_wp2_with fail
 refine HI.out.mono ?_
 rintro e w3 ⟨rfl,k3⟩
 have HB3:=hid (HBG.out w3 k3)
 have K3:=K2.trans k3
 have HK3:=hid k3
 clear HI HBG k3 K2
 go_wp2_with fail
 refine HB3.out.mono ?_
 rintro e w4 ⟨rfl,V1,pl1,D1,h1,c1,r1,n1,s1,k4⟩
 obtain⟨⟨e1,e2,e3,e4,e5,e6⟩,e7⟩:=c1
 obtain⟨v2,v3,v4,v5,v6,v7,u1,u2⟩:=HV.out
 rw[v2]at e1
 rw[v3]at e2
 rw[v5]at e3
 rw[v6]at e4
 rw[v7]at e5
 have HA:=hid (Yn h1 s1 (by omega) (by omega) (by omega) 2 1 (by omega) (by omega) (by have:=HC.out;omega) (by have:=HC.out;omega))
 rw[e4]at HA
 have HOS:=hid (fun b hb=>(HOW.out b hb))
 have K4:=K3.new k4 fun b hb=>.inr (Nat.le_trans HZ.out (HOW.out b (List.mem_cons_of_mem _ hb)))
 have HV1:=hid (And.intro e1 (And.intro e2 (And.intro e3 (And.intro e5 (show V1.u≤203000/\V1.r≤1 by omega)))))
 clear e1 e2 e3 e4 e5 e6 e7 v2 v3 v4 v5 v6 v7 u1 u2 HV HB3 k4 K3 n1 r1 HK3 h1
 go_wp2_with fail
 refine HA.out.mono ?_
 rintro e w5 ⟨rfl,V2,m2,pl2,h2,⟨e1,e2,e3,e4,e5,e6,e7⟩,u2,n2,s2,a2,k5⟩
 obtain⟨v1,v2,v3,v4,v5,v6⟩:=HV1.out
 rw[v1]at e1 e6
 rw[v2]at e2 e6
 rw[v3]at e4
 rw[v4]at e6
 have hz:numA V2.g 1=H.c.frm V2.k+posL V2.os 0:=by rw[e6,e1,e4];rfl
 have hn:nL V2.os 0=2/\rL V2.os 0=1:=by rw[e4];exact⟨rfl,rfl⟩
 have HW:=hid (xaG h2 s2 (by omega) (by omega) (z:=1) (t:=0) (j:=1) (y:=7) (by rw[e4];decide) hz (by omega) (by omega) (by omega))
 rw[show((1:Nat):Int)=1 from rfl,show((7:Nat):Int)=7 from rfl]at HW
 have K5:=K4.new k5 fun b hb=>.inr (Nat.le_trans HZ.out (HOW.out b (List.mem_cons_of_mem _ hb)))
 have HV2:=hid (show V2.us=3/\V2.u≤503000/\V2.r≤1/\V2.m≤1/\V2.st=.opn m2 pl2 D1 0 V.rs V.os from⟨by rw[e2],by omega,by omega,by omega,s2⟩)
 clear e1 e2 e3 e4 e5 e6 e7 v1 v2 v3 v4 v5 v6 u2 n2 a2 k5 K4 HA HV1 h2 hz hn s1 s2
 go_wp2_with fail
 refine HW.out.mono ?_
 rintro e w6 ⟨rfl,V3,h3,⟨⟨e1,e2,e3,e4,e5,e6⟩,e7⟩,r3,s3,n3,k6⟩
 obtain⟨v1,v2,v3,v4,v5⟩:=HV2.out
 have HCM:=hid (Wm h3 (s3.trans v5) (by omega))
 have HV3:=hid (show V3.us=3/\V3.m≤1 by omega)
 have K6:=K5.new k6 fun b hb=>.inr (Nat.le_trans HZ.out (HOW.out b (List.mem_cons_of_mem _ hb)))
 clear e1 e2 e3 e4 e5 e6 e7 v1 v2 v3 v4 v5 r3 s3 n3 k6 K5 HV2 h3 HW
 go_wp2_with fail
 refine HCM.out.mono ?_
 rintro e w7 ⟨rfl,V4,h4,⟨e1,e2,e3,e4,e5,e6⟩,s4,n4,u4,r4,k7⟩
 obtain⟨v1,v2⟩:=HV3.out
 have HST:=hid (xaI h4 (by omega))
 rw[e2,v1]at HST
 have K7:=K6.new k7 fun b hb=>.inr (Nat.le_trans HZ.out (HOW.out b (List.mem_cons_of_mem _ hb)))
 obtain⟨sa,hsa⟩:∃sa:Int,sa=(szF V4.S (rcF V4.S H.c V4.k 3 (V4.rs++plcL V4.m V4.g)):Nat):=⟨_,rfl⟩
 obtain⟨sc,hsc⟩:∃sc:Int,sc=((numL V4.m V4.g).length:Nat):=⟨_,rfl⟩
 unfold StaV at HST
 rw[<-hsa,<-hsc,show((3:Nat):Int)=3 from rfl]at HST
 clear e1 e2 e3 e4 e5 e6 v1 v2 s4 n4 u4 r4 k7 K6 HV3 h4 HCM hsa hsc
 go_wp2_with fail
 refine HST.out.mono ?_
 rintro e w8 ⟨rfl,k8⟩
 have HE:=hid ((K7.trans k8).below (Nat.le_refl _) (by simp))
 clear k8 K7
 have hf0:=xa7
 go_wp2_with fail
 go_ret
 exact⟨rfl,HE.out⟩
end Go.Proofs.YtcdhklgahepcaaaGreat
