import Derived.Test.YtcdhklgahepcaaaGreatAwk10
import Derived.Test.YtcdhklgahepcaaaGreatLkd
import Derived.Test.YtcdhklgahepcaaaGreatLen
set_option maxHeartbeats 4000000
set_option maxRecDepth 100000
namespace Go.Proofs.YtcdhklgahepcaaaGreat
open Go.RowKit Go.OpenShut
theorem VR (w:World) (d:Nat) (f:Fn) (l1 l2:Array Value):(Op.equalIn (d+1) 190 (.func f l1 l2) .nilFunc).run Tryz.prog w=.ok false w:=by
 simp[Op.equalIn,run_underlying Tryz.underlying190]
theorem qy (w:World) (f:Fn) (l1 l2:Array Value):(binOp .eql 190 (.func f l1 l2) .nilFunc).run Tryz.prog w=.ok (.bool false) w:=by
 have h:(Op.equal 190 (.func f l1 l2) .nilFunc).run Tryz.prog w=.ok false w:=VR w 9999 f l1 l2
 simp[binOp,h]
theorem xcK (w:World) (n r z:Int):(Instr.field 151 (obV n r z) 0).run Tryz.prog w=.ok (hdV n r) w:=by kernel_rfl
theorem xcL (w:World) (n r:Int):(Instr.field 67 (hdV n r) 0).run Tryz.prog w=.ok (.int .i64 n) w:=by kernel_rfl
theorem jP (w:World):Calls Tryz.prog 250 #[] w fun e w'=>e=.returned (.bool true)/\Below w.heap.size w w':=by
 go_enter Tryz.func250,Tryz.ntmps250
 go_wp2_with fail
 refine(jQ _).mono ?_
 rintro e w1 ⟨rfl,hb1⟩
 have K1:xe [] w w1:=Go.Proofs.YtcdhklgahepcaaaGreat.Below.keeps hb1 []
 clear hb1
 have hos:[(1,0)]=zW (mk3 0 0 40).space (hdsL (fun _=>0) (fun _=>1) 1):=by decide
 have hok:=XW 0 0 40
 obtain⟨c,hc⟩:∃c,c=mk3 0 0 40:=⟨_,rfl⟩
 rw[<-hc]at hos hok
 have HO:=hid hok
 have HC:=hid hc
 have HOS:=hid hos
 clear hok hc hos
 go_wp2_with fail
 have hH2:=At.new w1 (.cells #[.int .u8 0,.int .u8 1] 226)
 have hy:vt (w1.alloc (.cells #[.int .u8 0,.int .u8 1] 226)) (some ⟨w1.heap.size,0,none⟩) 1 (fun _=>0) (fun _=>1):=
  .inr ⟨w1.heap.size,0,rfl,hH2.lt,fun i hi=>by
   obtain rfl:i=0:=by omega
   exact⟨hH2.cell 0 rfl,hH2.cell 1 rfl,by decide,by decide⟩⟩
 have K2:=K1.alloc (.cells #[.int .u8 0,.int .u8 1] 226)
 refine(Xo _ 0 0 40 (by omega) (by omega) (by omega) _ 1 1 (fun _=>0) (fun _=>1) hy (by omega) none 0 0 (fun _=>0) (.inl rfl) (by omega) 0 (by omega) c HC.out [(1,0)] HOS.out).mono ?_
 rintro e w3 ⟨p,a,u,S,x,cp,y,cy,B,rfl,hn,hP,hub,hL,hU,hI,hb,hB,hk3⟩
 have K3:=K2.trans hk3
 have hl1:([(1,0)]:List (Nat×Nat)).length=1:=rfl
 rw[hl1]at hI⊢
 obtain⟨g,rfl,hgB,hgl,hgc⟩:=hI.cell (by omega)
 obtain⟨zz,hzz⟩:∃zz,zz=c.frm 0+posL [(1,0)] 0:=⟨_,rfl⟩
 have hg0:w3.cell? ⟨g,0,none⟩=some (.int .i64 (zz:Nat)):=by rw[hzz];exact hgc 0 (by omega)
 have HZZ:=hid hzz
 have hch:=hL.chain
 have hUl:(lenL [(1,0)]:Nat)=2:=rfl
 rw[hUl]at hch⊢
 have HCH:=hid hch
 have HP:=hid hP
 have HN:=hid hn
 clear hy hH2 K1 K2 hk3 hb hB hI hgc hL hU hch hP hn hzz hub
 go_wp2_with fail
 obtain⟨cb,hcb⟩:∃cb,cb=w3.heap.size:=⟨_,rfl⟩
 obtain⟨w4,hw4⟩:∃w4,w4=(w3.alloc (cfgO c)).alloc (bkO 0 2 (.slice x c.roots cp)):=⟨_,rfl⟩
 have hC4:At w4 cb (cfgO c):=by rw[hw4,hcb];exact(At.new w3 _).alloc _
 have hB4:At w4 (cb+1) (bkO 0 2 (.slice x c.roots cp)):=by
  have:=At.new (w3.alloc (cfgO c)) (bkO 0 2 (.slice x c.roots cp))
  rw[World.size_alloc]at this
  rw[hw4,hcb];exact this
 have k34:xe [] w3 w4:=by rw[hw4];exact((xe.refl [] w3).alloc _).alloc _
 rw[<-hw4,<-hcb]
 clear hw4 hcb
 refine(XH w4 a.d c 0 2 (.slice x c.roots cp)).mono ?_
 rintro e w5 ⟨rfl,_,_,_,k45,_⟩
 have hfn:=fun w=>qy w (.func 194) #[] #[ptr (w4.heap.size+2),ptr (w4.heap.size+1),ptr w4.heap.size]
 have hC5:=k45.at hC4 (by simp)
 have hB5:=k45.at hB4 (by simp)
 have k35:=k34.trans k45
 have hg5:w5.cell? ⟨g,0,none⟩=some (.int .i64 (zz:Nat)):=by rw[k35.cell hgl (by simp)];exact hg0
 have c0:=hC5.cell 0 rfl
 have c1:=hC5.cell 1 rfl
 have c2:=hC5.cell 2 rfl
 have b0:=hB5.cell 0 rfl
 have b1:=hB5.cell 1 rfl
 have b2:=hB5.cell 2 rfl
 have HD5:=hid (HP.out.keep0 k35).dev
 have HK5:=hid (K3.trans k35)
 have hgl5:g<w5.heap.size:=Nat.lt_of_lt_of_le hgl k35.size
 clear hC4 hB4 k34 k45 hC5 hB5 k35 hg0 hgl K3
 go_wp2_with fail
 refine(WC w5 p a S c 0 2 [(1,0)] false HD5.out HO.out HN.out (by omega) HCH.out (.slice x c.roots cp)).mono ?_
 rintro e w6 ⟨mb,rfl,hI6,_,k56⟩
 have g6:w6.cell? ⟨g,0,none⟩=some (.int .i64 (zz:Nat)):=by rw[k56.cell hgl5 (by simp)];exact hg5
 have hln:∀w',xe [] w6 w'->(Builtin.len_ #[183] 3 #[.map (some mb)]).run Tryz.prog w'=.ok (.int .i64 1) w':=fun w' hk=>xdy (hI6.keep hk (by simp))
 have hlk:∀w',xe [] w6 w'->(Instr.lookup 183 (.map (some mb)) (.int .i64 (zz:Nat)) false).run Tryz.prog w'=.ok (obV 1 0 (zz:Nat)) w':=fun w' hk=>
  Zm (hI6.keep hk (by simp)) (i:=0) (by decide) _ (by rw[HZZ.out]) false
 have l0:=hln w6 (xe.refl _ _)
 have f1:=fun w=>xcK w 1 0 zz
 have f2:=fun w=>xcL w 1 0
 have l1:=hlk w6 (xe.refl _ _)
 have HK6:=hid (HK5.out.trans k56)
 clear c0 c1 c2 b0 b1 b2 hg5 hfn hln hlk k56 hgl5 hI6
 go_wp2_with fail
 go_ret
 exact⟨rfl,HK6.out.below (Nat.le_refl _) (by simp)⟩
end Go.Proofs.YtcdhklgahepcaaaGreat
