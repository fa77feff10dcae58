import Derived.Test.YtcdhklgahepcaaaGreatAwk10
import Derived.Test.YtcdhklgahepcaaaGreatRnd
import Derived.Test.YtcdhklgahepcaaaGreatKeysM
set_option maxHeartbeats 4000000
set_option maxRecDepth 100000
namespace Go.Proofs.YtcdhklgahepcaaaGreat
open Go.RowKit Go.OpenShut
structure Chn (S:DS) (c:Cfg) (k u:Nat) (l:List (Nat×Nat)) (er:Bool):Prop where
 fits:u≤c.space
 head:∀i x,l[i]? =some x->x.1≤64/\x.2≤x.1/\S.now (c.frm k+posL l i)=((hdPk x.1 x.2:Nat):Int)
 done:er=false->lenL l=u
 bad:er=true->lenL l<u/\∃x:Nat,S.now (c.frm k+lenL l)=(x:Int)/\x<18446744073709551616/\¬(isHd x=true/\lenL l+(hdN x+1)≤u)
theorem Chn.le {S:DS} {c:Cfg} {k u:Nat} {l:List (Nat×Nat)} {er:Bool} (h:Chn S c k u l er):lenL l≤u:=by
 cases er with
 |false=>exact Nat.le_of_eq (h.done rfl)
 |true=>exact Nat.le_of_lt (h.bad rfl).1
def nL (l:List (Nat×Nat)) (i:Nat):Nat:=(l.getD i (0,0)).1
def rL (l:List (Nat×Nat)) (i:Nat):Nat:=(l.getD i (0,0)).2
theorem zU {l:List (Nat×Nat)} {i:Nat} (h:i<l.length):l[i]? =some (nL l i,rL l i):=by
 unfold nL rL
 rw[List.getD_eq_getElem?_getD,List.getElem?_eq_getElem h]
 rfl
theorem Va {l:List (Nat×Nat)} {i:Nat} (h:l.length≤i):nL l i=0/\rL l i=0:=by
 unfold nL rL
 rw[List.getD_eq_getElem?_getD,List.getElem?_eq_none h]
 exact⟨rfl,rfl⟩
theorem zT {l:List (Nat×Nat)} {i:Nat} (h:i<l.length):posL l (i+1)=posL l i+1+nL l i:=by
 have h1:=Jq h
 have h2:=zU h
 rw[List.getElem?_eq_getElem h]at h2
 injection h2 with h2
 rw[h1,h2]
theorem xE {l:List (Nat×Nat)} {i:Nat} (h:i<l.length):posL l i+1+nL l i≤lenL l:=by
 have h1:=zT h
 have h2:=vC (os:=l) (i:=i+1) (j:=l.length) (by omega) (Nat.le_refl _)
 rw[zq]at h2
 omega
theorem ZZ {l:List (Nat×Nat)} {i j:Nat} (h:i<j) (hj:j≤l.length):posL l i<posL l j:=by
 have h1:=zT (l:=l) (i:=i) (by omega)
 have h2:=vC (os:=l) (i:=i+1) (j:=j) (by omega) hj
 omega
theorem zL {l:List (Nat×Nat)} {i j:Nat} (hi:i≤l.length) (hj:j≤l.length) (h:posL l i=posL l j):i=j:=by
 rcases Nat.lt_trichotomy i j with h1|h1|h1
 ·have:=ZZ h1 hj;omega
 ·exact h1
 ·have:=ZZ h1 hi;omega
theorem Jz {w:World} {p:Nat} {a:DA} {S:DS} (hD:Dev w p a S) {c:Cfg} (hc:c.Ok) (hcn:c.words=a.n) {k:Nat} (hk:k≤1) {u:Nat} {l:List (Nat×Nat)} {er:Bool} (h:Chn S c k u l er) (rs:Value) {i:Nat} (hi:i<l.length) (z:Int) (hz:z=((c.frm k+posL l i:Nat):Int)):
  Calls Tryz.prog 174 #[ptr a.d,cfgV c,bkV k u rs,.int .i64 z] w fun e w'=>e=.returned (.tuple #[obV (nL l i:Nat) (rL l i:Nat) z,.int .i64 0])/\xe [] w w':=by
 obtain⟨h1,h2,h3⟩:=h.head i _ (zU hi)
 exact jg w p a S hD c hc hcn k hk u h.fits rs (posL l i) _ _ h3 h1 h2 (by have:=xE hi;have:=h.le;omega) z hz
theorem WU {w:World} {p:Nat} {a:DA} {S:DS} (hD:Dev w p a S) {c:Cfg} (hc:c.Ok) (hcn:c.words=a.n) {k:Nat} (hk:k≤1) {u:Nat} {l:List (Nat×Nat)} (h:Chn S c k u l true) (rs:Value) (z:Int) (hz:z=((c.frm k+lenL l:Nat):Int)):
  Calls Tryz.prog 174 #[ptr a.d,cfgV c,bkV k u rs,.int .i64 z] w fun e w'=>e=.returned (.tuple #[obV 0 0 0,.int .i64 8])/\xe [] w w':=by
 obtain⟨h1,x,h2,h3,h4⟩:=h.bad rfl
 have hf:=xW hc.small (show k≤2 by omega)
 have hs:=hc.small.2.2
 have hu:=h.fits
 refine(xdO w p a S hD c hc hcn k hk u hu rs z (by omega) (fun j hj _ _=>?_)).mono ?_
 ·obtain rfl:c.frm k+lenL l=j:=by omega
  exact⟨x,h2,h3⟩
 ·rintro e w' (⟨h5,_⟩|⟨j,y,h0,_,_,hx,hxb,hd⟩)
  ·exact absurd ⟨by omega,by omega⟩ h5
  ·obtain rfl:c.frm k+lenL l=j:=by omega
   rw[h2]at hx
   obtain rfl:x=y:=by omega
   rcases hd with⟨_,rfl,hk'⟩|⟨h5,h6,_,_⟩
   ·exact⟨rfl,hk'⟩
   ·exact absurd ⟨h5,by omega⟩ h4
def ObjF (Bb Bc Bd:Nat) (a:DA) (c:Cfg) (k u:Nat) (l:List (Nat×Nat)) (er:Bool) (W:World):Prop:=
 At W Bb (bkO k u (.slice none 0 0))/\At W Bc (cfgO c)/\At W Bd (.cells #[ptr a.d] 28)/\∃p S,Dev W p a S/\Chn S c k u l er
def objM (l:List (Nat×Nat)) (er:Bool):Nat:=l.length+(if er then 1 else 0)
def objA (c:Cfg) (k:Nat) (l:List (Nat×Nat)) (i:Nat):Array Value:=#[obV (nL l i:Nat) (rL l i:Nat) ((c.frm k+posL l i:Nat):Int),.int .i64 (if i<l.length then 0 else 8)]
theorem ObjF.place {Bb Bc Bd:Nat} {a:DA} {c:Cfg} {k u:Nat} {l:List (Nat×Nat)} {er:Bool} {W:World} (h:ObjF Bb Bc Bd a c k u l er W) (hc:c.Ok) (hk:k≤1) (i:Int) (z:Nat) (hi:0≤i/\i≤u) (hz:(z:Int)=c.frm k+i):
  Calls Tryz.prog 156 #[bkV k u (.slice none 0 0),cfgV c,.int .i64 i] W fun e w'=>e=.returned (.int .i64 (z:Nat))/\xe [] W w':=by
 obtain⟨_,_,_,p,S,_,h5⟩:=h
 have:=h5.fits
 have hs:=hc.small.2.2
 refine(yM W c hc.small k hk u (.slice none 0 0) i (by omega)).mono ?_
 rintro e w' ⟨rfl,hk'⟩
 exact⟨by rw[hz],hk'⟩
theorem ObjF.of {Bb Bc Bd:Nat} {a:DA} {c:Cfg} {k u:Nat} {l:List (Nat×Nat)} {er:Bool} {W:World} (h:ObjF Bb Bc Bd a c k u l er W) (hc:c.Ok) (hcn:c.words=a.n) (hk:k≤1) (i z:Nat) (hz:z=c.frm k+posL l i) (hi:i<l.length):
  Calls Tryz.prog 174 #[ptr a.d,cfgV c,bkV k u (.slice none 0 0),.int .i64 (z:Nat)] W fun e w'=>e=.returned (.tuple #[obV (nL l i:Nat) (rL l i:Nat) (z:Nat),.int .i64 0])/\xe [] W w':=by
 obtain⟨_,_,_,p,S,h4,h5⟩:=h
 exact Jz h4 hc hcn hk h5 _ hi _ (by rw[hz])
theorem ObjF.of_bad {Bb Bc Bd:Nat} {a:DA} {c:Cfg} {k u:Nat} {l:List (Nat×Nat)} {W:World} (h:ObjF Bb Bc Bd a c k u l true W) (hc:c.Ok) (hcn:c.words=a.n) (hk:k≤1) (z:Nat) (hz:z=c.frm k+lenL l):
  Calls Tryz.prog 174 #[ptr a.d,cfgV c,bkV k u (.slice none 0 0),.int .i64 (z:Nat)] W fun e w'=>e=.returned (.tuple #[obV 0 0 0,.int .i64 8])/\xe [] W w':=by
 obtain⟨_,_,_,p,S,h4,h5⟩:=h
 exact WU h4 hc hcn hk h5 _ _ (by rw[hz])
theorem XH (w:World) (d:Nat) (c:Cfg) (k u:Int) (rs:Value):
  Calls Tryz.prog 140 #[ptr d,cfgV c,bkV k u rs] w fun e w'=>e=.returned (.func (.func 194) #[] #[ptr (w.heap.size+2),ptr (w.heap.size+1),ptr w.heap.size])/\
   At w' w.heap.size (.cells #[ptr d] 28)/\At w' (w.heap.size+1) (cfgO c)/\At w' (w.heap.size+2) (bkO k u (.slice none 0 0))/\xe [] w w'/\w'.heap.size=w.heap.size+3:=by
 go_enter Tryz.func140,Tryz.ntmps140
 go_upto_region 1 with fail
 have hD:=((At.new w (.cells #[ptr d] 28)).alloc (cfgO c)).alloc (bkO k u rs)
 have hC:=(At.new (w.alloc (.cells #[ptr d] 28)) (cfgO c)).alloc (bkO k u rs)
 have hB:=At.new ((w.alloc (.cells #[ptr d] 28)).alloc (cfgO c)) (bkO k u rs)
 have K:=(((xe.refl [] w).alloc (.cells #[ptr d] 28)).alloc (cfgO c)).alloc (bkO k u rs)
 rw[show(w.alloc (.cells #[ptr d] 28)).heap.size=w.heap.size+1 by simp]at hC
 rw[show((w.alloc (.cells #[ptr d] 28)).alloc (cfgO c)).heap.size=w.heap.size+2 by simp]at hB
 obtain⟨w0,hw0⟩:∃w0,w0=((w.alloc (.cells #[ptr d] 28)).alloc (cfgO c)).alloc (bkO k u rs):=⟨_,rfl⟩
 have hz:w0.heap.size=w.heap.size+3:=by rw[hw0];simp
 rw[<-hw0]at hD hC hB K
 first|rw[<-hw0]|skip
 clear hw0
 have f2:=hB.free 2
 have b2:=hB.cell 2 rfl
 go_wp2_with fail
 go_ret
 exact⟨rfl,hD.set_ne (a:=⟨w.heap.size+2,2,none⟩) (by simp) _,hC.set_ne (a:=⟨w.heap.size+2,2,none⟩) (by simp) _,hB.set 2 _,K.set (.inr (by show w.heap.size≤w.heap.size+2;omega)) _,by simpa[World.setCell]using hz⟩
theorem WV (Bb Bc Bd:Nat) (a:DA) (c:Cfg) (k u:Nat) (l:List (Nat×Nat)) (er:Bool) (hc:c.Ok) (hcn:c.words=a.n) (hk:k≤1):
  Iter Tryz.prog 194 #[ptr Bb,ptr Bc,ptr Bd] (objM l er) (objA c k l) (ObjF Bb Bc Bd a c k u l er):=by
 intro y J Jx W hJF hJK hY h0
 have hmix:Tryz.prog.follows .mixedOrders=true:=by kernel_rfl
 have hF0:=hJF 0 W h0
 have hfr:=xW hc.small (show k≤2 by omega)
 have hsp:=hc.small.2.2
 obtain⟨_,_,_,_,_,_,hch⟩:=hF0
 have hle:=hch.le
 have hfit:=hch.fits
 have HC:=hid (And.intro hc (And.intro hcn hk))
 have HJF:=hid hJF
 have HJK:=hid hJK
 have HY:=hid hY
 have HF0:=hid (hJF 0 W h0)
 have HB:=hid (And.intro hfr (And.intro hsp (And.intro hle hfit)))
 have HCH:Hid ((er=false->lenL l=u)/\(er=true->lenL l<u)):=⟨hch.done,fun h=>(hch.bad h).1⟩
 obtain⟨z0,hz0⟩:∃z0,z0=c.frm k:=⟨_,rfl⟩
 obtain⟨ze,hze⟩:∃ze,ze=c.frm k+u:=⟨_,rfl⟩
 have HZ0:=hid hz0
 have HZE:=hid hze
 have c0:=HF0.out.1.cell 0 rfl
 have c1:=HF0.out.1.cell 1 rfl
 have c2:=HF0.out.1.cell 2 rfl
 have g0:=HF0.out.2.1.cell 0 rfl
 have g1:=HF0.out.2.1.cell 1 rfl
 have g2:=HF0.out.2.1.cell 2 rfl
 have HJ0:=hid h0
 clear hc hcn hk hJF hJK hY hfr hsp hch hle hfit hz0 hze h0
 refine callsIn_of_wp Tryz.func194 rfl trivial ?_ rfl
 simp only[Tryz.ntmps194,List.size_toArray,List.length_cons,List.length_nil,Nat.reduceAdd,Nat.reduceSub,Array.replicate_succ,Array.replicate_zero,List.push_toArray,List.append_toArray,List.nil_append,List.cons_append]
 gi_wp2_with fail
 refine⟨trivial,?_⟩
 refine(callsIn_wide.2 (HF0.out.place HC.out.1 HC.out.2.2 0 z0 (by omega) (by have:=HZ0.out;omega))).mono ?_
 rintro e W1 ⟨rfl,hk1⟩
 have HJ1:=hid (HJK.out 0 _ _ HJ0.out hk1)
 clear c0 c1 c2 g0 g1 g2 hk1
 gi_wp2_with fail
 gi_loopg [5] l.length (fun rr s wr=>∃i zi:Nat,i+rr=l.length/\zi=c.frm k+posL l i/\s=.int .i64 zi/\J i wr)
 case atStart=>exact⟨0,z0,by omega,by rw[HZ0.out,show posL l 0=0 from rfl,Nat.add_zero],rfl,HJ1.out⟩
 case round=>
  obtain⟨i,zi,hi,hzi,rfl,hJ⟩:=hrel
  have hF:=HJF.out i _ hJ
  have c0:=hF.1.cell 0 rfl
  have c1:=hF.1.cell 1 rfl
  have c2:=hF.1.cell 2 rfl
  have g0:=hF.2.1.cell 0 rfl
  have g1:=hF.2.1.cell 1 rfl
  have g2:=hF.2.1.cell 2 rfl
  have hpm:=vC (os:=l) (i:=i) (j:=l.length) (by omega) (Nat.le_refl _)
  rw[zq]at hpm
  have hzb:(zi:Int)≤20000:=by have:=HB.out;omega
  have HJi:=hid hJ
  have HF:=hid hF
  have HII:=hid (And.intro hi (And.intro hzi hpm))
  clear hJ hi hzi hpm hF
  gi_wp2_with fail
  refine⟨trivial,?_⟩
  refine(callsIn_wide.2 (HF.out.place HC.out.1 HC.out.2.2 u ze (by omega) (by have:=HZE.out;omega))).mono ?_
  rintro e W2 ⟨rfl,hk2⟩
  have HJ2:=hid (HJK.out i _ _ HJi.out hk2)
  clear c0 c1 c2 g0 g1 g2 hk2
  by_cases hlt:zi<ze
  ·have t1:decide ((zi:Int)<(ze:Int))=true:=decide_eq_true (by omega)
   have t2:(zi:Int)<(ze:Int):=by omega
   have hF:=HJF.out i _ HJ2.out
   have c0:=hF.1.cell 0 rfl
   have c1:=hF.1.cell 1 rfl
   have c2:=hF.1.cell 2 rfl
   have g0:=hF.2.1.cell 0 rfl
   have g1:=hF.2.1.cell 1 rfl
   have g2:=hF.2.1.cell 2 rfl
   have d0:=hF.2.2.1.cell 0 rfl
   have HF2:=hid hF
   by_cases hil:i<l.length
   ·have HOF:=hid (fun z hz=>HF2.out.of HC.out.1 HC.out.2.1 HC.out.2.2 i z hz hil)
    have HIL:=hid hil
    clear hF hlt hil
    gi_wp2_with fail
    refine⟨trivial,?_⟩
    refine(callsIn_wide.2 (HOF.out zi HII.out.2.1)).mono ?_
    rintro e W3 ⟨rfl,hk3⟩
    have hJ3:=HJK.out i _ _ HJ2.out hk3
    clear c0 c1 c2 g0 g1 g2 d0 hk3
    obtain⟨nn,hnn⟩:∃nn,nn=nL l i:=⟨_,rfl⟩
    obtain⟨rr,hrr⟩:∃rr,rr=rL l i:=⟨_,rfl⟩
    obtain⟨fn,tmps,assign,body,hy,hR⟩:=HY.out i W3 _ (by unfold objM;have:=HIL.out;omega) hJ3 ((xe.refl [] W3).alloc (obO (nn:Nat) (rr:Nat) zi))
    rw[show objA c k l i=#[obV (nn:Nat) (rr:Nat) zi,.int .i64 0] by unfold objA;rw[if_pos HIL.out,<-HII.out.2.1,hnn,hrr]]at hy
    rw[<-hnn,<-hrr]
    have hn64:nn≤64:=by
     obtain⟨_,_,_,_,_,_,hch⟩:=HF2.out
     rw[hnn]
     exact(hch.head i _ (zU HIL.out)).1
    have hA3:=At.new W3 (obO (nn:Nat) (rr:Nat) zi)
    have HA3:=hid hA3
    have HZN:Hid (zi+(nn+1)=c.frm k+posL l (i+1)):=by
     show _=_
     rw[zT HIL.out,HII.out.2.1,hnn]
     omega
    clear hnn hrr hA3 hJ3
    gi_wp2_with fail
    refine hR.mono ?_
    rintro e W4 ⟨⟨rfl,hJ4⟩|⟨rfl,hx4⟩,T,hkT,hT⟩
    ·have hA4:=hkT.at HA3.out (fun h=>by have:=hT _ h;omega)
     have HJ4:=hid hJ4
     have o0:=hA4.cell 0 rfl
     have o1:=hA4.cell 1 rfl
     have hni:(nn:Int)≤64:=by omega
     clear hJ4 hkT hT hA4 hy hR
     gi_wp2_with fail
     refine⟨trivial,?_⟩
     refine(callsIn_wide.2 (wH W4 nn rr (by omega))).mono ?_
     rintro e W5 ⟨rfl,hk5⟩
     have HJ5:=hid (HJK.out _ _ _ HJ4.out hk5)
     clear o0 o1 hk5
     gi_wp2_with fail
     gi_roundg (l.length-(i+1))
     case measure=>(have:=HII.out;have:=HIL.out;omega)
     case rel=>exact⟨i+1,zi+(nn+1),by have:=HII.out;have:=HIL.out;omega,HZN.out,by go_num,HJ5.out⟩
    ·have HX4:=hid hx4
     clear hx4 hkT hT hy hR
     gi_wp2
     exact bodyPost_ret (v:=.tuple #[]) (by simp[results,Tryz.results194,go_sem]) rfl ⟨rfl,.inr HX4.out⟩
   ·have hie:i=l.length:=by have:=HII.out.1;omega
    subst hie
    have her:er=true:=by
     cases er with
     |true=>rfl
     |false=>
      have h1:=HCH.out.1 rfl
      have h2:=HII.out.2.1
      rw[zq]at h2
      have:=HZE.out
      omega
    subst her
    have HOF:=hid (fun z hz=>HF2.out.of_bad HC.out.1 HC.out.2.1 HC.out.2.2 z hz)
    clear hF hlt hil
    gi_wp2_with fail
    refine⟨trivial,?_⟩
    refine(callsIn_wide.2 (HOF.out zi (by have:=HII.out.2.1;rwa[zq]at this))).mono ?_
    rintro e W3 ⟨rfl,hk3⟩
    have hJ3:=HJK.out _ _ _ HJ2.out hk3
    clear c0 c1 c2 g0 g1 g2 d0 hk3
    obtain⟨fn,tmps,assign,body,hy,hR⟩:=HY.out l.length W3 _ (by unfold objM;simp) hJ3 ((xe.refl [] W3).alloc (obO 0 0 0))
    rw[show objA c k l l.length=#[obV 0 0 zi,.int .i64 8] by unfold objA;rw[if_neg (by omega),(Va (Nat.le_refl _)).1,(Va (Nat.le_refl _)).2,<-HII.out.2.1];rfl]at hy
    clear hJ3
    gi_wp2_with fail
    refine hR.mono ?_
    rintro e W4 ⟨⟨rfl,hJ4⟩|⟨rfl,hx4⟩,T,hkT,hT⟩
    ·have HJ4:=hid hJ4
     clear hJ4 hkT hT hy hR
     gi_wp2
     exact bodyPost_ret (v:=.tuple #[]) (by simp[results,Tryz.results194,go_sem]) rfl ⟨rfl,.inl HJ4.out⟩
    ·have HX4:=hid hx4
     clear hx4 hkT hT hy hR
     gi_wp2
     exact bodyPost_ret (v:=.tuple #[]) (by simp[results,Tryz.results194,go_sem]) rfl ⟨rfl,.inr HX4.out⟩
  ·have hiu:i=l.length/\er=false:=by
    have h1:=HII.out
    have h2:=HZE.out
    have h3:=HB.out
    by_cases hil:i<l.length
    ·have:=xE hil
     omega
    ·have hie:i=l.length:=by omega
     refine⟨hie,?_⟩
     cases er with
     |false=>rfl
     |true=>
      have h4:=HCH.out.2 rfl
      rw[hie,zq]at h1
      omega
   obtain⟨rfl,rfl⟩:=hiu
   have t1:decide ((zi:Int)<(ze:Int))=false:=decide_eq_false (by omega)
   have t2:(ze:Int)≤(zi:Int):=by omega
   clear hlt
   gi_wp2
   go_end0
   exact⟨rfl,.inl HJ2.out⟩
open Go.RowKit Go.OpenShut
def stD (c:Cfg) (k:Nat) (l:List (Nat×Nat)) (i:Nat) (z:Int):Option Value:=
 ((List.range i).find? fun j=>decide (z=((c.frm k+posL l j:Nat):Int))).map fun j=>obV (nL l j:Nat) (rL l j:Nat) z
theorem Ja (c:Cfg) (k:Nat) (l:List (Nat×Nat)):stD c k l 0=fun _=>none:=rfl
theorem ZU (c:Cfg) (k:Nat) (l:List (Nat×Nat)) (i:Nat) (hi:i<l.length) (z:Int):
  stD c k l (i+1) z=if z=((c.frm k+posL l i:Nat):Int)then some (obV (nL l i:Nat) (rL l i:Nat) ((c.frm k+posL l i:Nat):Int))else stD c k l i z:=by
 unfold stD
 rw[List.range_succ,List.find?_append]
 by_cases h:z=((c.frm k+posL l i:Nat):Int)
 ·rw[if_pos h]
  have hn:(List.range i).find? (fun j=>decide (z=((c.frm k+posL l j:Nat):Int)))=none:=by
   rw[List.find?_eq_none]
   intro j hj
   have hj:=List.mem_range.1 hj
   have:=ZZ (l:=l) hj (by omega)
   simp only[decide_eq_true_eq]
   omega
  rw[hn,List.find?_cons_of_pos (by simpa using h)]
  simp[h]
 ·rw[if_neg h,List.find?_cons_of_neg (by simpa using h)]
  simp
theorem xc4 {c:Cfg} {k:Nat} {l:List (Nat×Nat)} {i m:Nat} (hi:i<m) (hm:m≤l.length):stD c k l m ((c.frm k+posL l i:Nat):Int)=some (obV (nL l i:Nat) (rL l i:Nat) ((c.frm k+posL l i:Nat):Int)):=by
 induction m with
 |zero=>omega
 |succ m ih=>
  rw[ZU _ _ _ _ (by omega)]
  by_cases he:i=m
  ·subst he;rw[if_pos rfl]
  ·have:=ZZ (l:=l) (i:=i) (j:=m) (by omega) (by omega)
   rw[if_neg (by omega)]
   exact ih (by omega) (by omega)
theorem Jb {c:Cfg} {k:Nat} {l:List (Nat×Nat)} {m:Nat} (hm:m≤l.length) {z:Int} {v:Value} (h:stD c k l m z=some v):∃i,i<m/\z=((c.frm k+posL l i:Nat):Int)/\v=obV (nL l i:Nat) (rL l i:Nat) z:=by
 induction m with
 |zero=>exact absurd h (by rw[Ja];simp)
 |succ m ih=>
  rw[ZU _ _ _ _ (by omega)]at h
  by_cases he:z=((c.frm k+posL l m:Nat):Int)
  ·rw[if_pos he]at h
   injection h with h
   exact⟨m,by omega,he,by rw[<-h,he]⟩
  ·rw[if_neg he]at h
   obtain⟨i,h1,h2,h3⟩:=ih (by omega) h
   exact⟨i,by omega,h2,h3⟩
def StP (c:Cfg) (k:Nat) (l:List (Nat×Nat)) (er:Bool) (w:World) (e:Ending) (w':World):Prop:=
 ∃mb,e=.returned (.tuple #[.map (some mb),.int .i64 (if er then 8 else 0)])/\IMap w' mb (stD c k l l.length)/\w.heap.size≤mb/\xe [] w w'
theorem WC (w:World) (p:Nat) (a:DA) (S:DS) (c:Cfg) (k u:Nat) (l:List (Nat×Nat)) (er:Bool) (hD:Dev w p a S) (hc:c.Ok) (hcn:c.words=a.n) (hk:k≤1) (hch:Chn S c k u l er) (rs:Value):
  Calls Tryz.prog 137 #[ptr a.d,cfgV c,bkV k u rs] w (StP c k l er w):=by
 have hmix:Tryz.prog.follows .mixedOrders=true:=by kernel_rfl
 refine xZ Tryz.func137 rfl (.of_wp ?_)
 simp only[Tryz.ntmps137,List.size_toArray,List.length_cons,List.length_nil,Nat.reduceAdd,Nat.reduceSub,Array.replicate_succ,Array.replicate_zero,List.push_toArray,List.append_toArray,List.nil_append,List.cons_append]
 have hmk:=@run_makeMap Tryz.prog
 go_upto_region 1 with fail
 have hD1:=((((hD.keep ((xe.refl [] w).alloc (cfgO c)) (by simp) (by simp) (by simp) (by simp)).keep ((xe.refl [] _).alloc (bkO k u rs)) (by simp) (by simp) (by simp) (by simp)).keep ((xe.refl [] _).alloc (.cells #[.map none] 183)) (by simp) (by simp) (by simp) (by simp)).keep ((xe.refl [] _).alloc (.cells #[.int .i64 0] 51)) (by simp) (by simp) (by simp) (by simp))
 have K1:=((((xe.refl [] w).alloc (cfgO c)).alloc (bkO k u rs)).alloc (.cells #[.map none] 183)).alloc (.cells #[.int .i64 0] 51)
 have hC1:=(((At.new w (cfgO c)).alloc (bkO k u rs)).alloc (.cells #[.map none] 183)).alloc (.cells #[.int .i64 0] 51)
 have hB1:=((At.new (w.alloc (cfgO c)) (bkO k u rs)).alloc (.cells #[.map none] 183)).alloc (.cells #[.int .i64 0] 51)
 have hM1:=(At.new ((w.alloc (cfgO c)).alloc (bkO k u rs)) (.cells #[.map none] 183)).alloc (.cells #[.int .i64 0] 51)
 have hE1:=At.new (((w.alloc (cfgO c)).alloc (bkO k u rs)).alloc (.cells #[.map none] 183)) (.cells #[.int .i64 0] 51)
 simp only[World.size_alloc]at hB1 hM1 hE1
 obtain⟨w1,hw1⟩:∃w1,w1=(((w.alloc (cfgO c)).alloc (bkO k u rs)).alloc (.cells #[.map none] 183)).alloc (.cells #[.int .i64 0] 51):=⟨_,rfl⟩
 have hz1:w1.heap.size=w.heap.size+4:=by rw[hw1];simp
 rw[<-hw1]at hD1 K1 hC1 hB1 hM1 hE1
 first|rw[<-hw1]|skip
 obtain⟨q0,hq0⟩:∃q,q=w.heap.size:=⟨_,rfl⟩
 obtain⟨q1,hq1⟩:∃q,q=w.heap.size+1:=⟨_,rfl⟩
 obtain⟨q2,hq2⟩:∃q,q=w.heap.size+1+1:=⟨_,rfl⟩
 obtain⟨q3,hq3⟩:∃q,q=w.heap.size+1+1+1:=⟨_,rfl⟩
 rw[<-hq3,<-hq2,<-hq1,<-hq0]
 rw[<-hq0]at hC1
 rw[<-hq1]at hB1
 rw[<-hq2]at hM1
 rw[<-hq3]at hE1
 have HQ:Hid (q0=w.heap.size/\q1=q0+1/\q2=q0+2/\q3=q0+3/\w1.heap.size=q0+4):=⟨by omega,by omega,by omega,by omega,by omega⟩
 have HDL0:Hid (a.d<q0/\a.s<q0/\a.k<q0/\a.m<q0):=by
  have h1:=hD.dev.lt
  have h2:=hD.now.lt
  have h3:=hD.kept.lt
  have h4:=hD.map.lt
  exact⟨by omega,by omega,by omega,by omega⟩
 clear hw1 hD hz1 hq0 hq1 hq2 hq3
 have HCH:=hid hch
 have HC:=hid (And.intro hc (And.intro hcn hk))
 clear hc hcn hk hch
 go_upto_region 2 with fail
 have hI2:=(IMap.made w1).keep ((xe.refl [] _).alloc (.cells #[.map (some w1.heap.size)] 183)) (by simp)
 have hS2:=At.new (w1.alloc (.map #[] 0)) (.cells #[.map (some w1.heap.size)] 183)
 simp only[World.size_alloc]at hS2
 have k12:=((xe.refl [] w1).alloc (.map #[] 0)).alloc (.cells #[.map (some w1.heap.size)] 183)
 obtain⟨mb,hmb⟩:∃mb,mb=w1.heap.size:=⟨_,rfl⟩
 obtain⟨sb,hsb⟩:∃sb,sb=w1.heap.size+1:=⟨_,rfl⟩
 obtain⟨w2,hw2⟩:∃w2,w2=(w1.alloc (.map #[] 0)).alloc (.cells #[.map (some w1.heap.size)] 183):=⟨_,rfl⟩
 have hz2:w2.heap.size=mb+2:=by rw[hw2,hmb];simp
 rw[<-hw2,<-hmb]at hI2
 rw[<-hsb]at hS2⊢
 rw[<-hw2,<-hmb]at hS2
 rw[<-hw2]at k12
 first|rw[<-hw2]|skip
 rw[<-hmb]
 have hD2:=hD1.keep k12 (by simp) (by simp) (by simp) (by simp)
 have hC2:=k12.at hC1 (by simp)
 have hB2:=k12.at hB1 (by simp)
 have hM2:=k12.at hM1 (by simp)
 have hE2:=k12.at hE1 (by simp)
 have K2:=K1.trans k12
 have HN2:Hid (mb=q0+4/\sb=q0+5/\w2.heap.size=q0+6):=by
  have:=HQ.out
  exact⟨by omega,by omega,by omega⟩
 clear hw2 hmb hsb hz2 k12 hD1 hC1 hB1 hM1 hE1 K1
 have c0:=hC2.cell 0 rfl
 have c1:=hC2.cell 1 rfl
 have c2:=hC2.cell 2 rfl
 have b0:=hB2.cell 0 rfl
 have b1:=hB2.cell 1 rfl
 have b2:=hB2.cell 2 rfl
 go_wp2_with fail
 refine(XH w2 a.d c k u rs).mono ?_
 rintro e w3 ⟨rfl,hx0,hx1,hx2,k23,hz3⟩
 have hD3:=hD2.keep k23 (by simp) (by simp) (by simp) (by simp)
 have hM3:=k23.at hM2 (by simp)
 have hE3:=k23.at hE2 (by simp)
 have hS3:=k23.at hS2 (by simp)
 have hI3:=hI2.keep k23 (by simp)
 have K3:=K2.trans k23
 have HO3:Hid (ObjF (w2.heap.size+2) (w2.heap.size+1) w2.heap.size a c k u l er w3):=⟨hx2,hx1,hx0,p,S,hD3,HCH.out⟩
 have HN3:Hid (w3.heap.size=q0+9):=by
  have:=HN2.out
  show _=_
  omega
 clear c0 c1 c2 b0 b1 b2 hx0 hx1 hx2 hC2 hB2 hM2 hE2 hS2 hI2 K2 hD2 k23 hz3
 go_wp2_with fail
 have HDL:Hid (a.d<q0/\a.s<q0/\a.k<q0/\a.m<q0):=HDL0
 have HM3:=hid hM3
 have HE3:=hid hE3
 have HS3:=hid hS3
 have HI3:=hid hI3
 have HK3:=hid K3
 have HX3:=hid (And.intro HN2.out HN3.out)
 clear hM3 hE3 hS3 hI3 K3 hD3 HDL0
 refine vZ (gf:=194) (lb:=#[ptr (w2.heap.size+2),ptr (w2.heap.size+1),ptr w2.heap.size]) rfl (enters_of Tryz.func194 (by kernel_rfl) rfl) (fun fn=>?_)
 refine' (Vg (WV _ _ _ a c k u l er HC.out.1 HC.out.2.1 HC.out.2.2) fn w3 _ _ _ _
  (fun i W=>i≤l.length/\IMap W mb (stD c k l i)/\xe [mb] w3 W)
  (fun W=>er=true/\At W q2 (.cells #[.map (some mb)] 183)/\At W q3 (.cells #[.int .i64 8] 51)/\IMap W mb (stD c k l l.length)/\xe [mb,q2,q3] w3 W)
  .ret .ret (.inl ⟨rfl,rfl⟩) (fun _=>rfl) ?fct ?keep ?keepx ?round ?start).mono ?after
 case fct=>
  rintro i W ⟨_,_,hk⟩
  obtain⟨h1,h2,h3,p',S',h4,h5⟩:=HO3.out
  have hx:=HX3.out
  have hd:=HDL.out
  exact⟨hk.at h1 (by simp;omega),hk.at h2 (by simp;omega),hk.at h3 (by simp;omega),p',S',h4.keep hk (by simp;omega) (by simp;omega) (by simp;omega) (by simp;omega),h5⟩
 case keep=>
  rintro i W W' ⟨h1,h2,hk⟩ hk'
  have hx:=HX3.out
  exact⟨h1,h2.keep hk' (by simp;omega),hk.new hk' (by simp)⟩
 case keepx=>
  rintro W W' ⟨h1,h2,h3,h4,hk⟩ hk'
  have hx:=HX3.out
  have hq:=HQ.out
  exact⟨h1,hk'.at h2 (by simp;omega),hk'.at h3 (by simp;omega),h4.keep hk' (by simp;omega),hk.new hk' (by simp)⟩
 case start=>exact⟨Nat.zero_le _,by rw[Ja];exact HI3.out,xe.refl _ _⟩
 case round=>
  rintro l' i W0 W him ⟨_,_,hk0⟩ k0 ⟨hil,hI,hK⟩ hsz
  by_cases hlt:i<l.length
  ·rw[show objA c k l i=#[obV (nL l i:Nat) (rL l i:Nat) ((c.frm k+posL l i:Nat):Int),.int .i64 0] by unfold objA;rw[if_pos hlt]]
   obtain⟨nn,hnn⟩:∃nn,nn=nL l i:=⟨_,rfl⟩
   obtain⟨rr,hrr⟩:∃rr,rr=rL l i:=⟨_,rfl⟩
   obtain⟨zi,hzi⟩:∃zi,zi=c.frm k+posL l i:=⟨_,rfl⟩
   rw[<-hnn,<-hrr,<-hzi]
   have HNN:=hid (And.intro hnn (And.intro hrr hzi))
   have HLT:=hid hlt
   have HI0:=hid hI
   have HKW:=hid hK
   clear hnn hrr hzi hlt hI hK
   have hsem:=@Oper.semAt_some
   gi_wp2_with fail
   refine⟨(xe.refl [] W).alloc _,fun W₂ k2 hz2=>?_⟩
   have hx:=HX3.out
   have hm0:mb<W0.heap.size:=by have:=hk0.size;omega
   have hWz:W0.heap.size≤W.heap.size:=k0.size
   have hA2:=k2.at (At.new W (obO (nn:Nat) (rr:Nat) zi)) (by simp;omega)
   have kW2:xe [w3.heap.size+1] W W₂:=((xe.refl _ W).alloc _).trans k2
   have hS2:=kW2.at (HKW.out.at HS3.out (by simp;omega)) (by simp;omega)
   have hI2:=HI0.out.keep kW2 (by simp;omega)
   obtain⟨W',hrun,hI',hk'⟩:=hI2.update (P:=Tryz.prog) Tryz.underlying183 Tryz.underlying3 (zi:Int) (obV (nn:Nat) (rr:Nat) zi)
   have HI':=hid hI'
   have HK':=hid (show xe [mb] w3 W' from(HKW.out.new kW2 (by simp)).trans hk')
   have HT':=hid hk'
   have HM0:=hid hm0
   have o0:=hA2.cell 0 rfl
   have o1:=hA2.cell 1 rfl
   have o2:=hA2.cell 2 rfl
   have s0:=hS2.cell 0 rfl
   clear hI' hk' hI2 hA2 hS2 kW2 k2 hz2 hm0 hWz hx
   gi_wp2_with fail
   refine⟨⟨HLT.out,HI'.out.congr fun z=>?_,HK'.out⟩,[mb],HT'.out,?_,?_,fun b hb=>.inl ?_⟩
   ·rw[ZU _ _ _ _ HLT.out,HNN.out.1,HNN.out.2.1,HNN.out.2.2]
   ·have:=HX3.out;simp;omega
   ·have:=HX3.out;simp;omega
   ·obtain rfl:=List.mem_singleton.1 hb
    exact HM0.out
  ·have hie:i=l.length:=by omega
   subst hie
   have her:er=true:=by
    cases er with
    |true=>rfl
    |false=>unfold objM at him;simp at him
   rw[show objA c k l l.length=#[obV 0 0 ((c.frm k+posL l l.length:Nat):Int),.int .i64 8] by unfold objA;rw[if_neg (by omega),(Va (Nat.le_refl _)).1,(Va (Nat.le_refl _)).2];rfl]
   obtain⟨zi,hzi⟩:∃zi,zi=c.frm k+posL l l.length:=⟨_,rfl⟩
   rw[<-hzi]
   have HI0:=hid hI
   have HKW:=hid hK
   clear hzi hlt hil him hI hK
   have hsem:=@Oper.semAt_some
   gi_wp2_with fail
   refine⟨(xe.refl [] W).alloc _,fun W₂ k2 hz2=>?_⟩
   have hx:=HX3.out
   have hq:=HQ.out
   have hm0:mb<W0.heap.size/\q2<W0.heap.size/\q3<W0.heap.size:=by have:=hk0.size;omega
   have hWz:W0.heap.size≤W.heap.size:=k0.size
   have kW2:xe [w3.heap.size+1] W W₂:=((xe.refl _ W).alloc _).trans k2
   have hS2:=kW2.at (HKW.out.at HS3.out (by simp;omega)) (by simp;omega)
   have hM2:=kW2.at (HKW.out.at HM3.out (by simp;omega)) (by simp;omega)
   have hE2:=kW2.at (HKW.out.at HE3.out (by simp;omega)) (by simp;omega)
   have hI2:=HI0.out.keep kW2 (by simp;omega)
   have HK2:=hid (show xe [mb] w3 W₂ from HKW.out.new kW2 (by simp))
   have s0:=hS2.cell 0 rfl
   have m0:=hM2.cell 0 rfl
   have mf:=hM2.free 0
   have e0:=hE2.cell 0 rfl
   have ef:=hE2.free 0
   have hne:q2≠q3:=by omega
   have HM2:=hid hM2
   have HE2:=hid hE2
   have HI2:=hid hI2
   have HM0:=hid hm0
   clear kW2 k2 hz2 hm0 hWz hx hq hS2 hM2 hE2 hI2
   gi_wp2_with fail
   refine⟨⟨?_,?_,?_,?_⟩,[q2,q3],((xe.refl _ W₂).set (p:=⟨q2,0,none⟩) (.inl (by simp)) _).set (p:=⟨q3,0,none⟩) (.inl (by simp)) _,?_,?_,fun b hb=>.inl ?_⟩
   ·exact(HM2.out.set 0 (.map (some mb))).set_ne (a:=⟨q3,0,none⟩) hne _
   ·exact(HE2.out.set_ne (a:=⟨q2,0,none⟩) hne.symm _).set 0 (.int .i64 8)
   ·exact HI2.out.keep (((xe.refl [q2,q3] W₂).set (p:=⟨q2,0,none⟩) (.inl (by simp)) _).set (p:=⟨q3,0,none⟩) (.inl (by simp)) _) (by have:=HX3.out;have:=HQ.out;simp;omega)
   ·exact((HK2.out.mono (by intro x _ h;rw[List.mem_singleton.1 h];simp)).set (p:=⟨q2,0,none⟩) (.inl (by simp)) _).set (p:=⟨q3,0,none⟩) (.inl (by simp)) _
   ·have:=HX3.out;have:=HQ.out;simp;omega
   ·have:=HX3.out;have:=HQ.out;simp;omega
   ·have:=HM0.out
    simp at hb
    rcases hb with rfl|rfl<;>omega
 case after=>
  intro e w4 hr
  cases e with
  |panicked _=>exact hr
  |outgrown=>exact hr
  |returned v=>
   rcases hr with⟨w5,hend,⟨hil,hI,hK⟩,hDf⟩|⟨w5,hend,⟨her,hM,hE,hI,hK⟩,hDf⟩
   ·have her:er=false:=by
     cases er with
     |false=>rfl
     |true=>unfold objM at hil;simp only[if_true]at hil;omega
    refine .inl ⟨w5,hend,?_⟩
    have hx:=HX3.out
    have hq:=HQ.out
    have hm5:=hK.at HM3.out (by simp;omega)
    have he5:=hK.at HE3.out (by simp;omega)
    have hs5:=hK.at HS3.out (by simp;omega)
    have K5:xe [] w w5:=HK3.out.new hK (fun b hb=>.inr (by have:=List.mem_singleton.1 hb;omega))
    have s0:=hs5.cell 0 rfl
    have m0:=hm5.cell 0 rfl
    have mf:=hm5.free 0
    have e0:=he5.cell 0 rfl
    have ef:=he5.free 0
    have hne:q2≠q3:=by omega
    have hmm:=(hm5.set 0 (.map (some mb))).set_ne (a:=⟨q3,0,none⟩) hne (.int .i64 0)
    have hee:=(he5.set_ne (a:=⟨q2,0,none⟩) hne.symm (.map (some mb))).set 0 (.int .i64 0)
    have hdd:=(hDf.set_ne (a:=⟨q2,0,none⟩) (by show w3.heap.size≠q2;omega) (.map (some mb))).set_ne (a:=⟨q3,0,none⟩) (by show w3.heap.size≠q3;omega) (.int .i64 0)
    have kk:xe [q2,q3] w5 ((w5.setCell ⟨q2,0,none⟩ (.map (some mb))).setCell ⟨q3,0,none⟩ (.int .i64 0)):=((xe.refl _ w5).set (p:=⟨q2,0,none⟩) (.inl (by simp)) _).set (p:=⟨q3,0,none⟩) (.inl (by simp)) _
    have hii:=hI.keep kk (by simp;omega)
    have K6:=K5.new kk (fun b hb=>.inr (by simp at hb;rcases hb with rfl|rfl<;>omega))
    obtain⟨w6,hw6⟩:∃w6,w6=(w5.setCell ⟨q2,0,none⟩ (.map (some mb))).setCell ⟨q3,0,none⟩ (.int .i64 0):=⟨_,rfl⟩
    rw[<-hw6]at hmm hee hdd hii K6
    have HW6:=hid hw6
    have HMM:=hid hmm
    have HEE:=hid hee
    have HDD:=hid hdd
    have HII:=hid hii
    have HK6:=hid K6
    clear hw6 hmm hee hdd hii K6 kk hx hq hm5 he5 hs5 K5 hI hK hDf hend hil
    simp only[Exit.inBlock,Exit.then]
    go_wp2_with fail
    rw[<-HW6.out]
    refine⟨by simp,.inl ⟨_,_,rfl,run_takeDeferred HDD.out,?_⟩⟩
    have hx:=HX3.out
    have hq:=HQ.out
    have kd:xe [w3.heap.size] w6 (w6.putObj w3.heap.size (.deferred none)):=(xe.refl _ _).put (.inl (by simp)) _
    have f1:(w6.putObj w3.heap.size (.deferred none)).cell? ⟨q2,0,none⟩=some (.map (some mb)):=(kd.at HMM.out (by simp;omega)).cell 0 rfl
    have f2:(w6.putObj w3.heap.size (.deferred none)).cell? ⟨q3,0,none⟩=some (.int .i64 0):=(kd.at HEE.out (by simp;omega)).cell 0 rfl
    refine⟨.tuple #[.map (some mb),.int .i64 0],?_,mb,?_,?_,by omega,HK6.out.new kd (fun b hb=>.inr (by have:=List.mem_singleton.1 hb;omega))⟩
    ·simp[results,Tryz.results137,go_sem,f1,f2]
    ·rw[her];rfl
    ·have:=HII.out.keep kd (by simp;omega)
     rw[her]at this
     exact this
   ·refine .inr ⟨.ret,w5,hend,?_⟩
    have hx:=HX3.out
    have hq:=HQ.out
    have K5:xe [] w w5:=HK3.out.new hK (fun b hb=>.inr (by simp at hb;rcases hb with rfl|rfl|rfl<;>omega))
    go_wp2_with fail
    refine⟨by simp,.inl ⟨_,_,rfl,run_takeDeferred hDf,?_⟩⟩
    have kd:xe [w3.heap.size] w5 (w5.putObj w3.heap.size (.deferred none)):=(xe.refl _ _).put (.inl (by simp)) _
    have f1:(w5.putObj w3.heap.size (.deferred none)).cell? ⟨q2,0,none⟩=some (.map (some mb)):=(kd.at hM (by simp;omega)).cell 0 rfl
    have f2:(w5.putObj w3.heap.size (.deferred none)).cell? ⟨q3,0,none⟩=some (.int .i64 8):=(kd.at hE (by simp;omega)).cell 0 rfl
    refine⟨.tuple #[.map (some mb),.int .i64 8],?_,mb,?_,hI.keep kd (by simp;omega),by omega,K5.new kd (fun b hb=>.inr (by have:=List.mem_singleton.1 hb;omega))⟩
    ·simp[results,Tryz.results137,go_sem,f1,f2]
    ·rw[her];rfl
open Go.RowKit Go.OpenShut Go.MapKept
theorem IMap.lenN {P:Program} {w:World} {b m:Nat} {E:Int->Option Value} {pl:Nat->Nat} (h:IMap w b E) (hk:∀k,k<m->(E (pl k)).isSome=true) (ho:∀z v,E z=some v->∃k,k<m/\z=(pl k:Int)) (hi:∀j k,j<m->k<m->pl j=pl k->j=k)
  {t kt et:TypeId} (ht:P.underlying t=some (.map kt et)) (ty:TypeId):(Builtin.len_ #[t] ty #[.map (some b)]).run P w=.ok (.int .i64 (m:Int)) w:=by
 obtain⟨es,clock,hb,hE⟩:=h
 have hkey:∀x∈es.toList,x.key=.int .i64 (keyI x.key)/\(E (keyI x.key)).isSome=true:=fun x hx=>by
  obtain⟨k,h1,h2⟩:=hE.reads x hx
  rw[h1]
  exact⟨rfl,by show(E k).isSome=true;rw[h2];rfl⟩
 have hnd:(es.toList.map fun x=>keyI x.key).Nodup:=by
  have h1:=hE.st.2.2
  refine List.pairwise_map.2 ((List.pairwise_map.1 h1).imp_of_mem ?_)
  intro x y hx hy hne he
  apply hne
  rw[(hkey x hx).1,(hkey y hy).1,he]
 have hnd2:((List.range m).map fun k=>((pl k:Nat):Int)).Nodup:=by
  refine List.pairwise_map.2 (List.nodup_range.imp_of_mem ?_)
  intro x y hx hy hne he
  exact hne (hi x y (List.mem_range.1 hx) (List.mem_range.1 hy) (by omega))
 have hp:(es.toList.map fun x=>keyI x.key).Perm ((List.range m).map fun k=>((pl k:Nat):Int)):=by
  refine(List.perm_ext_iff_of_nodup hnd hnd2).2 fun z=>?_
  constructor
  ·intro hz
   obtain⟨x,hx,rfl⟩:=List.mem_map.1 hz
   obtain⟨v,hv⟩:=Option.isSome_iff_exists.1 (hkey x hx).2
   obtain⟨k,h1,h2⟩:=ho _ v hv
   exact List.mem_map.2 ⟨k,List.mem_range.2 h1,h2.symm⟩
  ·intro hz
   obtain⟨k,hk1,rfl⟩:=List.mem_map.1 hz
   obtain⟨v,hv⟩:=Option.isSome_iff_exists.1 (hk k (List.mem_range.1 hk1))
   obtain⟨x,hx,hxk⟩:=hE.has _ v hv
   exact List.mem_map.2 ⟨x,hx,by rw[hxk];rfl⟩
 have e1:es.size=m:=by have:=hp.length_eq;simpa using this
 rw[<-e1]
 simp[Builtin.len_,run_underlying ht,MapKept.run_getObj_map hb,goInt,Result.andThen]
theorem xdy {w:World} {mb:Nat} {c:Cfg} {k:Nat} {l:List (Nat×Nat)} (h:IMap w mb (stD c k l l.length)):
  (Builtin.len_ #[183] 3 #[.map (some mb)]).run Tryz.prog w=.ok (.int .i64 (l.length:Int)) w:=
 h.lenN (m:=l.length) (pl:=fun i=>c.frm k+posL l i) (fun i hi=>by rw[xc4 hi (Nat.le_refl _)];rfl) (fun z v hv=>by obtain⟨i,h1,h2,_⟩:=Jb (Nat.le_refl _) hv;exact⟨i,h1,h2⟩)
  (fun i j hi hj e=>zL (Nat.le_of_lt hi) (Nat.le_of_lt hj) (by have:c.frm k+posL l i=c.frm k+posL l j:=e;omega)) Tryz.underlying183 _
theorem xet (w:World):(zeroValue 151).run Tryz.prog w=.ok (obV 0 0 0) w:=by kernel_rfl
theorem Zm {w:World} {mb:Nat} {c:Cfg} {k:Nat} {l:List (Nat×Nat)} (h:IMap w mb (stD c k l l.length)) {i:Nat} (hi:i<l.length) (z:Int) (hz:z=((c.frm k+posL l i:Nat):Int)) (b:Bool):
  (Instr.lookup 183 (.map (some mb)) (.int .i64 z) b).run Tryz.prog w=.ok (if b then .tuple #[obV (nL l i:Nat) (rL l i:Nat) z,.bool true]else obV (nL l i:Nat) (rL l i:Nat) z) w:=by
 rw[h.lookup Tryz.underlying183 Tryz.underlying3 (xet w) z b,hz,xc4 hi (Nat.le_refl _)]
 rfl
theorem qi {w:World} {mb:Nat} {c:Cfg} {k:Nat} {l:List (Nat×Nat)} (h:IMap w mb (stD c k l l.length)) (z:Int) (hz:∀i,i<l.length->z≠((c.frm k+posL l i:Nat):Int)) (b:Bool):
  (Instr.lookup 183 (.map (some mb)) (.int .i64 z) b).run Tryz.prog w=.ok (if b then .tuple #[obV 0 0 0,.bool false]else obV 0 0 0) w:=by
 have hn:stD c k l l.length z=none:=by
  cases hd:stD c k l l.length z with
  |none=>rfl
  |some v=>
   obtain⟨i,h1,h2,_⟩:=Jb (Nat.le_refl _) hd
   exact absurd h2 (hz i h1)
 rw[h.lookup Tryz.underlying183 Tryz.underlying3 (xet w) z b,hn]
 rfl
end Go.Proofs.YtcdhklgahepcaaaGreat
