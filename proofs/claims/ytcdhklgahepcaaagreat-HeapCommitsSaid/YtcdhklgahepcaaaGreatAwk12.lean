import Derived.Test.YtcdhklgahepcaaaGreatAwk11
import Derived.Test.YtcdhklgahepcaaaGreatChk
set_option maxHeartbeats 4000000
set_option maxRecDepth 100000
namespace Go.Proofs.YtcdhklgahepcaaaGreat
open Go.RowKit Go.OpenShut
theorem jG {i:Nat} (h:i<exC.roots):i=0:=by
 have h:i<1:=h
 omega
theorem jO (w:World):Calls Tryz.prog 241 #[] w fun e w'=>e=.returned (.bool true)/\Below w.heap.size w w':=by
 go_enter Tryz.func241,Tryz.ntmps241
 go_wp2_with fail
 refine(jP _).mono ?_
 rintro e w1 ⟨rfl,hb1⟩
 have K1:xe [] w w1:=Go.Proofs.YtcdhklgahepcaaaGreat.Below.keeps hb1 []
 clear hb1
 go_wp2_with fail
 have hC2:At (w1.alloc (.cells #[.int .i64 3,.int .i64 1,.int .i64 8] 36)) w1.heap.size (cfgO exC):=At.new w1 (cfgO exC)
 have K2:=K1.alloc (.cells #[.int .i64 3,.int .i64 1,.int .i64 8] 36)
 have hz2:w.heap.size≤w1.heap.size:=K1.size
 refine(yt _ exC xX none 0 0 (fun _=>0) (.inl rfl) (by omega)).mono ?_
 rintro e w3 ⟨p,a,u,S,⟨rfl,hn,hP3,hu,hW,hkp,his,⟨b1,b2,b3,b4,b5⟩,hk3⟩,hold⟩
 have hC3:=hk3.at hC2 (by simp)
 have K3:=K2.trans hk3
 have HN:=hid hn
 obtain⟨_,HL⟩:=hW
 have hz32:S.now exC.act=0:=vX.blk HL 0 (by decide)
 have hz33:S.now (exC.act+1)=0:=vX.blk HL 1 (by decide)
 have hz34:S.now (exC.root 0)=0:=vX.blk HL 2 (by decide)
 have hz35:∀j,exC.frm 0≤j->j<exC.frm 0+8->S.now j=0:=fun j h1 h2=>by
  have h3:exC.frm 0+8≤a.n:=by rw[<-hn];decide
  have h4:exC.root exC.roots≤exC.frm 0:=by decide
  rw[hold j (by omega) (by omega)]
  rfl
 have HZ:=hid (And.intro hz32 (And.intro hz33 (And.intro hz34 hz35)))
 have HP3:=hid hP3
 have HU:=hid hu
 simp only[World.size_alloc]at b1 b2 b3 b4 b5
 have HB:=hid (And.intro b1 (And.intro b2 (And.intro b3 (And.intro b4 b5))))
 clear hn hkp his hC2 hk3 K2 K1 hold HL hz32 hz33 hz34 hz35 b1 b2 b3 b4 b5 hP3 hu
 obtain⟨cb,hcb⟩:∃cb,cb=w1.heap.size:=⟨_,rfl⟩
 rw[<-hcb]at hC3 hz2 HB⊢
 have HC3:=hid hC3
 have HK3:=hid K3
 have HZ2:=hid hz2
 have hkc:∀S':DS,S'.now exC.act=0->S'.now (exC.act+1)=0->Chn S' exC 0 0 [] false:=fun S' _ _=>⟨by decide,fun i x h=>by simp at h,fun _=>rfl,fun h=>Bool.noConfusion h⟩
 have HCH:=hid (hkc S HZ.out.1 HZ.out.2.1)
 have HWU:Hid (WdU S exC 0):=⟨fun i hi=>⟨0,by rw[jG hi,HZ.out.2.2.1];rfl,by omega⟩,fun j h1 h2=>⟨0,by rw[HZ.out.2.2.2 j h1 h2];rfl,by omega⟩⟩
 have HV:Hid (ckC S exC 0 [] false=0):=by
  show _=_
  have h1:okR S exC 0 []=true:=wW.2 fun j hj=>by
   rw[jG hj]
   exact xV.2 (.inl HZ.out.2.2.1)
  have h2:okN S exC 0 []=true:=zQ.2 fun i hi=>absurd hi (by simp)
  unfold ckC
  rw[h1,h2]
  rfl
 clear hcb hC3 K3 hz2 hkc
 have c0:w3.cell? ⟨cb,0,none⟩=some (.int .i64 3):=HC3.out.cell 0 rfl
 have c1:w3.cell? ⟨cb,1,none⟩=some (.int .i64 1):=HC3.out.cell 1 rfl
 have c2:w3.cell? ⟨cb,2,none⟩=some (.int .i64 8):=HC3.out.cell 2 rfl
 go_wp2_with fail
 refine(ZE w3 p a S exC HP3.out.dev xX HN.out 0 0 [] false (by omega) HZ.out.1 HZ.out.2.1 HCH.out HWU.out).mono ?_
 rintro e w4 ⟨rfl,k34⟩
 rw[HV.out]
 have HC4:=hid (k34.at HC3.out (by simp))
 have HP4:=hid (HP3.out.keep0 k34)
 have HK4:=hid (HK3.out.trans k34)
 clear c0 c1 c2 k34
 have c0:w4.cell? ⟨cb,0,none⟩=some (.int .i64 3):=HC4.out.cell 0 rfl
 have c1:w4.cell? ⟨cb,1,none⟩=some (.int .i64 1):=HC4.out.cell 1 rfl
 have c2:w4.cell? ⟨cb,2,none⟩=some (.int .i64 8):=HC4.out.cell 2 rfl
 go_wp2_with fail
 refine(wR w4 exC xX.small 0 (by omega)).mono ?_
 rintro e w5 ⟨rfl,k45⟩
 have HC5:=hid (k45.at HC4.out (by simp))
 have HP5:=hid (HP4.out.keep0 k45)
 have HK5:=hid (HK4.out.trans k45)
 clear c0 c1 c2 k45
 have hra:((exC.root 0:Nat):Int)<a.n:=by
  have h3:exC.root 0<exC.words:=by decide
  have h4:=HN.out
  omega
 have HRA:=hid hra
 obtain⟨ra,hra2⟩:∃ra,ra=exC.root 0:=⟨_,rfl⟩
 rw[<-hra2]
 have HRE:=hid hra2
 clear hra hra2
 go_wp2_with fail
 refine(Zj w5 p a u S HP5.out (by have:=HU.out;omega) (ra:Nat) 5 ⟨by omega,by rw[HRE.out];exact HRA.out⟩).mono ?_
 rintro e w6 ⟨rfl,hX⟩
 obtain⟨hP6,k56⟩:=hX.out
 obtain⟨S6,hS6⟩:∃S6,S6=xh S [.st ((ra:Nat):Int).toNat 5]:=⟨_,rfl⟩
 have hn6:∀j,S6.now j=if j=exC.root 0 then 5 else S.now j:=fun j=>by
  rw[hS6,HRE.out,Int.toNat_natCast]
  rfl
 rw[<-hS6]at hP6
 have e1:exC.act≠exC.root 0:=by decide
 have e2:exC.act+1≠exC.root 0:=by decide
 have e3:exC.root 0<exC.frm 0:=by decide
 have h61:S6.now exC.act=0:=by rw[hn6,if_neg e1];exact HZ.out.1
 have h62:S6.now (exC.act+1)=0:=by rw[hn6,if_neg e2];exact HZ.out.2.1
 have HCH6:Hid (Chn S6 exC 0 0 [] false):=⟨by decide,fun i x h=>by simp at h,fun _=>rfl,fun h=>Bool.noConfusion h⟩
 have HWU6:Hid (WdU S6 exC 0):=⟨fun i hi=>⟨5,by rw[jG hi,hn6,if_pos rfl];rfl,by omega⟩,fun j h1 h2=>⟨0,by rw[hn6,if_neg (by omega),HZ.out.2.2.2 j h1 h2];rfl,by omega⟩⟩
 have HV6:Hid (ckC S6 exC 0 [] false=9):=by
  have h1:okR S6 exC 0 []=false:=by
   rw[Bool.eq_false_iff]
   intro h
   have h2:=wW.1 h 0 (by decide)
   rw[hn6,if_pos rfl]at h2
   rcases xV.1 h2 with h3|⟨i,hi,_⟩
   ·exact absurd h3 (by decide)
   ·exact absurd hi (by simp)
  show _=_
  unfold ckC
  rw[h1]
  rfl
 have HP6:=hid hP6
 have H61:=hid (And.intro h61 h62)
 have hb:=HB.out
 have HC6:=hid (k56.at HC5.out (by simp;omega))
 have HK6:Hid (xe [] w w6):=HK5.out.new k56 (fun b hb2=>.inr (by have:=HZ2.out;simp at hb2;omega))
 clear hX hP6 k56 hS6 hn6 e1 e2 e3 h61 h62 hb
 have c0:w6.cell? ⟨cb,0,none⟩=some (.int .i64 3):=HC6.out.cell 0 rfl
 have c1:w6.cell? ⟨cb,1,none⟩=some (.int .i64 1):=HC6.out.cell 1 rfl
 have c2:w6.cell? ⟨cb,2,none⟩=some (.int .i64 8):=HC6.out.cell 2 rfl
 go_wp2_with fail
 refine(ZE w6 p a S6 exC HP6.out.dev xX HN.out 0 0 [] false (by omega) H61.out.1 H61.out.2 HCH6.out HWU6.out).mono ?_
 rintro e w7 ⟨rfl,k67⟩
 rw[HV6.out]
 go_wp2_with fail
 go_ret
 exact⟨rfl,(HK6.out.trans k67).below (Nat.le_refl _) (by simp)⟩
end Go.Proofs.YtcdhklgahepcaaaGreat
