import Derived.Test.YtcdhklgahepcaaaGreatObj
import Derived.Test.YtcdhklgahepcaaaGreatRnd
import Derived.Test.YtcdhklgahepcaaaGreatLaw6
set_option maxHeartbeats 4000000
set_option maxRecDepth 100000
namespace Go.Proofs.YtcdhklgahepcaaaGreat
open Go.RowKit Go.OpenShut
structure VE (Bo Bd:Nat) (a:DA) (n r z:Nat) (f:Nat->Int) (J:Nat->World->Prop):Prop where
 box:∀k W,J k W->At W Bo (obO n r z)/\At W Bd (.cells #[ptr a.d] 28)
 dev:∀k W,J k W->∃p S,Dev W p a S/\∀i,k≤i->i<r->rfW S z i 0=f i
 keep:∀k W W',J k W->xe [] W W'->J k W'
 skip:∀k W,J k W->k<r->f k=0->J (k+1) W
 few:r≤n/\n≤64/\z+n<a.n
theorem VE.len {Bo Bd:Nat} {a:DA} {n r z:Nat} {f:Nat->Int} {J:Nat->World->Prop} (h:VE Bo Bd a n r z f J) (k:Nat) (W:World) (hJ:J k W):
  Calls Tryz.prog 69 #[ptr a.d] W fun e w'=>e=.returned (.int .i64 a.n)/\W=w':=by
 obtain⟨p,S,hD,_⟩:=h.dev k W hJ
 exact zh W p a S hD
theorem VE.ref {Bo Bd:Nat} {a:DA} {n r z:Nat} {f:Nat->Int} {J:Nat->World->Prop} (h:VE Bo Bd a n r z f J) (k:Nat) (hk:k<r) (W:World) (hJ:J k W):
  Calls Tryz.prog 106 #[obV n r z,ptr a.d,.int .i64 k] W fun e w'=>e=.returned (.tuple #[.int .i64 (f k),.int .i64 0])/\xe [] W w':=by
 obtain⟨p,S,hD,hf⟩:=h.dev k W hJ
 obtain⟨h1,h2,h3⟩:=h.few
 have:=xal W p a S hD n r z k (by omega) (by omega)
 rw[show fldE n r k true=0 from vg (by omega) (by omega) (by simp;omega),hf k (Nat.le_refl k) hk]at this
 exact this
def xe9 (J:Nat->World->Prop) (Jx:World->Prop) (r:Nat) (e:Ending) (w':World):Prop:=e=.returned (.tuple #[])/\(J r w'\/Jx w')
def xbB (J:Nat->World->Prop) (Jx:World->Prop) (k:Nat) (e:Ending) (w':World):Prop:=
 (e=.returned (.bool true)/\J (k+1) w')\/(e=.returned (.bool false)/\Jx w')
theorem xch (l Bo Bd:Nat) (a:DA) (n r z:Nat) (f:Nat->Int) (J:Nat->World->Prop) (Jx:World->Prop) (h:VE Bo Bd a n r z f J)
  (hY:∀k W,k<r->f k≠0->J k W->YieldAt Fence.wide 3 Tryz.prog l #[.int .i64 (k:Nat),.int .i64 (f k)] W (xbB J Jx k)) (W:World) (h0:J 0 W):
  CallsIn Fence.wide 4 Tryz.prog 195 #[.func (.yield l) #[] #[],ptr Bo,ptr Bd] W (xe9 J Jx r):=by
 have hmix:Tryz.prog.follows .mixedOrders=true:=by kernel_rfl
 obtain⟨hn1,hn2,hn3⟩:=h.few
 have hJd:=h.keep 0 _ _ h0 ((xe.refl [] W).drew)
 obtain⟨hA,hB⟩:=h.box 0 _ hJd
 have c0:=hA.cell 0 rfl
 have c1:=hA.cell 1 rfl
 have c2:=hA.cell 2 rfl
 have b0:=hB.cell 0 rfl
 have hri:(r:Int)≤64:=by omega
 have t1:(r:Int)≤(a.n:Int):=by omega
 have t2:decide ((r:Int)≤(a.n:Int))=true:=decide_eq_true (by omega)
 have t3:decide ((a.n:Int)<(r:Int))=false:=decide_eq_false (by omega)
 have H:=hid h
 have HY:=hid hY
 have HJ0:=hid h0
 have HJD:=hid hJd
 clear hY h h0 hA hB hJd
 refine callsIn_of_wp Tryz.func195 rfl trivial ?_ rfl
 simp only[Tryz.ntmps195,List.size_toArray,List.length_cons,List.length_nil,Nat.reduceAdd,Nat.reduceSub,Array.replicate_succ,Array.replicate_zero,List.push_toArray,List.append_toArray,List.nil_append,List.cons_append]
 gi_wp2
 gi_region_with_o (first
  |(refine⟨trivial,?_⟩;gi_at_call 69;refine(callsIn_wide.2 (H.out.len 0 _ HJD.out)).mono ?_;rintro e W2 ⟨rfl,rfl⟩))
 all_goals
  rw[show(if a.n<r then(a.n:Int)else(r:Int))=(r:Int)from if_neg (by omega)]
  clear c0 c1 c2 b0 t1 t2 t3 hn1 hn2 hn3
  gi_wp2
  gi_loopg [13] r (fun rr s wr=>∃k:Nat,k+rr=r/\s=.int .i64 k/\J k wr)
  case atStart=>exact⟨0,by omega,rfl,HJD.out⟩
  case round=>
   obtain⟨k,hk,rfl,hJ⟩:=hrel
   by_cases hlt:k<r
   ·obtain⟨hA,hB⟩:=H.out.box k _ hJ
    have c0:=hA.cell 0 rfl
    have c1:=hA.cell 1 rfl
    have c2:=hA.cell 2 rfl
    have b0:=hB.cell 0 rfl
    have hki:(k:Int)<(r:Int):=by omega
    have HRF:=hid (H.out.ref k hlt wr hJ)
    have HK:=hid (And.intro hk hlt)
    have HJ:=hid hJ
    obtain⟨v,hv⟩:∃v,v=f k:=⟨_,rfl⟩
    rw[<-hv]at HRF
    have HV:=hid hv
    clear hk hlt hJ hA hB hv
    gi_wp2_with fail
    refine⟨trivial,?_⟩
    refine(callsIn_wide.2 HRF.out).mono ?_
    rintro e W1 ⟨rfl,hk1⟩
    have HJ1:=hid (H.out.keep k _ _ HJ.out hk1)
    clear c0 c1 c2 b0 hk1
    by_cases hv0:v=0
    ·have t1:(v != 0)=false:=by simp[hv0]
     have t2:(v==0)=true:=by simp[hv0]
     have HJ2:=hid (H.out.skip k _ HJ1.out HK.out.2 (by rw[<-HV.out];exact hv0))
     clear hv0
     gi_wp2_with fail
     refine⟨(fun _ h=>nomatch h),?_⟩
     gi_wp2
     gi_roundg (r-(k+1))
     case measure=>(have:=HK.out;omega)
     case rel=>exact⟨k+1,by have:=HK.out;omega,by go_num,HJ2.out⟩
    ·have t2:(v==0)=false:=by rw[beq_eq_false_iff_ne];exact hv0
     have t1:(v != 0)=true:=by simp[bne,t2]
     obtain⟨fn,tmps,assign,body,hy,hR⟩:=HY.out k W1 HK.out.2 (by rw[<-HV.out];exact hv0) HJ1.out
     rw[<-HV.out]at hy
     clear hv0
     gi_wp2_with fail
     refine hR.mono ?_
     rintro e W4 (⟨rfl,hJ4⟩|⟨rfl,hx4⟩)
     ·have HJ4:=hid hJ4
      clear hJ4
      gi_wp2
      gi_roundg (r-(k+1))
      case measure=>(have:=HK.out;omega)
      case rel=>exact⟨k+1,by have:=HK.out;omega,by go_num,HJ4.out⟩
     ·have HX4:=hid hx4
      clear hx4
      gi_wp2
      exact bodyPost_ret (v:=.tuple #[]) (by simp[results,Tryz.results195,go_sem]) rfl ⟨rfl,.inr HX4.out⟩
   ·have hkr:k=r:=by omega
    subst hkr
    have HJ:=hid hJ
    clear hk hlt hJ
    gi_wp2
    go_end0
    exact⟨rfl,.inl HJ.out⟩
section
variable {P:Program} {f:FuncId} {Q:Exit->Act->World->Prop} {a:Act} {w:World}
end
open Go.RowKit Go.OpenShut
def nzL (f:Nat->Int) (k:Nat):List Nat:=(List.range k).filter fun i=>decide (f i≠0)
def nzC (f:Nat->Int) (k:Nat):Nat:=(nzL f k).length
theorem jh {f:Nat->Int} {k:Nat} (h:f k≠0):nzL f (k+1)=nzL f k++ [k]:=by
 unfold nzL
 rw[List.range_succ,List.filter_append]
 simp[h]
theorem xda {f:Nat->Int} {k:Nat} (h:f k=0):nzL f (k+1)=nzL f k:=by
 unfold nzL
 rw[List.range_succ,List.filter_append]
 simp[h]
theorem XJ {f:Nat->Int} {k:Nat} (h:f k≠0):nzC f (k+1)=nzC f k+1:=by
 unfold nzC
 rw[jh h]
 simp
theorem JB {f:Nat->Int} {k:Nat} (h:f k=0):nzC f (k+1)=nzC f k:=by
 unfold nzC
 rw[xda h]
theorem XI {f:Nat->Int} {k:Nat} :∀ {r:Nat},k<r->f k≠0->(nzL f r)[nzC f k]? =some k
 |0,h,_=>absurd h (by omega)
 |r+1,h,hf=>by
  by_cases hk:k=r
  ·subst hk
   rw[jh hf,show nzC f k=(nzL f k).length from rfl,List.getElem?_append_right (Nat.le_refl _)]
   simp
  ·have ih:=XI (r:=r) (by omega) hf
   by_cases hr:f r=0
   ·rw[xda hr];exact ih
   ·rw[jh hr,List.getElem?_append_left (List.getElem?_eq_some_iff.1 ih).1]
    exact ih
theorem ji {f:Nat->Int} {r j:Nat} (h:j<nzC f r):∃i,i<r/\f i≠0/\nzC f i=j:=by
 induction r with
 |zero=>exact absurd h (by simp[nzC,nzL])
 |succ r ih=>
  by_cases hf:f r=0
  ·rw[JB hf]at h
   obtain⟨i,h1,h2,h3⟩:=ih h
   exact⟨i,by omega,h2,h3⟩
  ·rw[XJ hf]at h
   by_cases hj:j=nzC f r
   ·exact⟨r,by omega,hf,hj.symm⟩
   ·obtain⟨i,h1,h2,h3⟩:=ih (by omega)
    exact⟨i,by omega,h2,h3⟩
theorem JC {f:Nat->Int} {k r:Nat} (h:k<r) (hf:f k≠0):nzC f k<nzC f r:=
 (List.getElem?_eq_some_iff.1 (XI h hf)).1
def namA (f:Nat->Int) (r j:Nat):Array Value:=#[.int .i64 ((nzL f r).getD j 0:Nat),.int .i64 (f ((nzL f r).getD j 0))]
theorem YM {f:Nat->Int} {r k:Nat} (h:k<r) (hf:f k≠0):namA f r (nzC f k)=#[.int .i64 (k:Nat),.int .i64 (f k)]:=by
 unfold namA
 rw[List.getD_eq_getElem?_getD,XI h hf]
 rfl
def NamF (Bo Bd:Nat) (a:DA) (n r z:Nat) (f:Nat->Int) (W:World):Prop:=
 (At W Bo (obO n r z)/\At W Bd (.cells #[ptr a.d] 28))/\∃p S,Dev W p a S/\∀i,i<r->rfW S z i 0=f i
theorem WW {f:Nat->Int} {k r:Nat} (h:k≤r):nzC f k≤nzC f r:=by
 induction r with
 |zero=>
  obtain rfl:k=0:=by omega
  exact Nat.le_refl _
 |succ r ih=>
  by_cases hk:k=r+1
  ·rw[hk];exact Nat.le_refl _
  ·have:=ih (by omega)
   by_cases hf:f r=0
   ·rw[JB hf];exact this
   ·rw[XJ hf];omega
def xep (Bo Bd:Nat) (a:DA) (n r z:Nat) (f:Nat->Int) (m:Nat) (W:World):Prop:=
 (At W Bo (obO n r z)/\At W Bd (.cells #[ptr a.d] 28))/\∃p S,Dev W p a S/\∀i,m≤nzC f i->i<r->rfW S z i 0=f i
theorem jl (Bo Bd:Nat) (a:DA) (n r z:Nat) (f:Nat->Int) (hfew:r≤n/\n≤64/\z+n<a.n):
  xeq Tryz.prog 195 #[ptr Bo,ptr Bd] (nzC f r) (namA f r) (xep Bo Bd a n r z f):=by
 intro l J Jx W hF hK hY h0
 have H:VE Bo Bd a n r z f (fun k W=>J (nzC f k) W):= {
  box:=fun k W h=>(hF _ W h).1
  dev:=fun k W h=>by obtain⟨p,S,h1,h2⟩:=(hF _ W h).2;exact⟨p,S,h1,fun i hk hi=>h2 i (WW hk) hi⟩
  keep:=fun k W W' h hk=>hK _ _ _ h hk
  skip:=fun k W h _ hf=>by rw[JB hf];exact h
  few:=hfew }
 refine(xch l Bo Bd a n r z f _ Jx H ?_ W h0).mono ?_
 ·intro k W hk hf hJ
  have h1:=hY (nzC f k) W W (JC hk hf) hJ (xe.refl _ _)
  rw[YM hk hf]at h1
  refine YieldAt.mono h1 ?_
  rintro e w' ⟨⟨rfl,h⟩|⟨rfl,h⟩,_⟩
  ·exact .inl ⟨rfl,by show J (nzC f (k+1)) w';rw[XJ hf];exact h⟩
  ·exact .inr ⟨rfl,h⟩
 ·rintro e w' ⟨rfl,h⟩
  exact⟨rfl,h⟩
theorem Zw (Bo Bd:Nat) (a:DA) (n r z:Nat) (f:Nat->Int) (hfew:r≤n/\n≤64/\z+n<a.n):
  Iter Tryz.prog 195 #[ptr Bo,ptr Bd] (nzC f r) (namA f r) (NamF Bo Bd a n r z f):=by
 intro l J Jx W hF hK hY h0
 exact jl Bo Bd a n r z f hfew l J Jx W (fun k W h=>⟨(hF k W h).1,by obtain⟨p,S,h1,h2⟩:=(hF k W h).2;exact⟨p,S,h1,fun i _ hi=>h2 i hi⟩⟩) hK hY h0
end Go.Proofs.YtcdhklgahepcaaaGreat
