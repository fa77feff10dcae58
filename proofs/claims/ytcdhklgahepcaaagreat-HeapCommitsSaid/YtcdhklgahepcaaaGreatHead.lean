import Derived.Test.YtcdhklgahepcaaaGreatSl
import Derived.RegionTactic
import Derived.ChangeAlike
import Derived.BigRegion
import Derived.Deep.DeepCutAuto
import Derived.Test.YtcdhklgahepcaaaGreatArgs
import Derived.IntWalk
import Derived.OpenShut
import Derived.Laws.BitsAllLaws
set_option maxHeartbeats 1000000
set_option maxRecDepth 100000
namespace Go.Proofs.YtcdhklgahepcaaaGreat
open Go.RowKit
theorem At.newk {w:World} {k:Nat} {o:Obj} (hk:k=w.heap.size):At (w.alloc o) k o:=by subst hk;exact At.new _ _
theorem WM (n:Nat) (f:Nat->Int):rowOf id n (fun i=>Value.int .u64 (f i))=u64s n f:=rfl
def Made (w:World) (p L:Nat) (s6:Value) (wx:World):Prop:=
 ∃a:DA,s6=ptr a.d/\a.L=L/\Dev wx p a { now:=fun _=>0,kept:=fun _=>0,tok:=fun _=>0,is:=fun _=>false } /\w.heap.size≤a.d/\w.heap.size≤a.s/\w.heap.size≤a.k/\w.heap.size≤a.m/\xe [] w wx
theorem made {w wx:World} {p L N d s k m:Nat} (hd:At wx d (.cells #[ptr p,.slice (some ⟨s,0,none⟩) N N,.slice (some ⟨k,0,none⟩) N N,.map (some m)] 98)) (hN:N=8*L) (hL:L≤2199023255552)
  (hs:At wx s (.cells (u64s N fun _=>0) 26)) (hk:At wx k (.cells (u64s N fun _=>0) 26)) (hm:At wx m (.map #[] 0)) (hK:xe [] w wx) (hp:p<w.heap.size)
  (b:w.heap.size≤d/\w.heap.size≤s/\w.heap.size≤k/\w.heap.size≤m/\d≠s/\d≠k/\d≠m/\s≠k/\s≠m/\k≠m):Made w p L (ptr d) wx:=by
 obtain⟨b1,b2,b3,b4,b5,b6,b7,b8,b9,b10⟩:=b
 subst hN
 refine⟨⟨d,s,k,m,L⟩,rfl,rfl,⟨hd,hs,hk,⟨#[],0,hm,?_⟩,(fun _ hq=>by cases hq),hL,b5,b6,b7,b8,b9,b10,by show p≠d;omega,by show p≠s;omega,by show p≠k;omega,by show p≠m;omega⟩,b1,b2,b3,b4,hK⟩
 have e:lines (fun _=>0) (fun _=>false)=fun _=>none:=by funext k;simp[lines]
 rw[e]
 exact Ents.empty 0
theorem xbd (w:World) (p:Nat) (x:Option Addr) (n c L:Nat) (f:Nat->Int) (hr:Reads w x n f) (hL:L=(n+7)/8) (hn:n≤17592186044416) (hp:p<w.heap.size):
  Calls Tryz.prog 142 #[ptr p,.slice x n c] w fun e w'=>∃a:DA,e=.returned (ptr a.d)/\a.L=L/\Dev w' p a { now:=fun i=>if i<n then f i else 0,kept:=fun i=>if i<n then f i else 0,tok:=fun _=>0,is:=fun _=>false } /\
   w.heap.size≤a.d/\w.heap.size≤a.s/\w.heap.size≤a.k/\w.heap.size≤a.m/\xe [] w w':=by
 obtain⟨N,hN⟩:∃N,N=8*L:=⟨_,rfl⟩
 have hmk:=zu (P:=Tryz.prog) 60 26 (.int .u64 0) 8 Tryz.underlying60 (by kernel_rfl) rfl N (by omega) (by omega)
 have e1:((n:Int)+8-1)/8*8=(N:Int):=by omega
 have hLb:L≤2199023255552:=by omega
 have HN:=hid hN
 have hmm:=@run_makeMap Tryz.prog
 have hb:(n:Int)≤17592186044416:=by omega
 have HL:=hid hL
 clear hL hN
 go_enter Tryz.func142,Tryz.ntmps142
 go_upto_region 2 with fail
 go_cut [6]from 13 (fun s6 wx=>Made w p L s6 wx)
 case first=>
  go_region
  all_goals
   go_wp2_with fail
   go_meet
   refine made (N:=N) ((At.newk ?_).drew) HN.out hLb ?_ ?_ ?_ ?_ hp ?_
   ·simp
   ·(first|(refine((At.newk ?_).alloc _).drew;simp;done)|(refine(((At.newk ?_).alloc _).alloc _).drew;simp;done)|(refine((((At.newk ?_).alloc _).alloc _).alloc _).drew;simp;done)|(refine((((At.newk ?_).alloc _).alloc _).alloc _).drew;rfl))
   ·(first|(refine((At.newk ?_).alloc _).drew;simp;done)|(refine(((At.newk ?_).alloc _).alloc _).drew;simp;done)|(refine((((At.newk ?_).alloc _).alloc _).alloc _).drew;simp;done)|(refine((((At.newk ?_).alloc _).alloc _).alloc _).drew;rfl))
   ·(first|(refine((At.newk ?_).alloc _).drew;simp;done)|(refine(((At.newk ?_).alloc _).alloc _).drew;simp;done)|(refine((((At.newk ?_).alloc _).alloc _).alloc _).drew;simp;done)|(refine((((At.newk ?_).alloc _).alloc _).alloc _).drew;rfl))
   ·exact((((((xe.refl [] w).alloc _).alloc _).alloc _).alloc _).drew)
   ·omega
 case rest=>
  clear hmk hmm e1
  obtain⟨a,rfl,haL,hD,b1,b2,b3,b4,hK⟩:=hcut
  have HAL:=hid haL
  clear haL
  have haN:Hid (a.n=N):=by have h1:=HN.out;have h2:=HAL.out;have h3:=a.n8;show a.n=N;omega
  have hr1:=hr.keep hK (by simp)
  have c1:=hD.dev.cell 1 rfl
  have hnN:n≤a.n:=by have h1:=HAL.out;have h2:=HL.out;have h3:=a.n8;omega
  go_upto_region 4 with(refine xbg rfl _ _ rfl a.s 0 a.n a.n x n c rfl rfl a.n _ f _ hD.now hr1 n (by omega) (by omega) ?_;intro w2 hs2 hk2;have hd2:=hk2.at hD.dev (by simpa using hD.ds);have hkk2:=hk2.at hD.kept (by simpa using hD.sk.symm);have hm2:=hD.map.keep hk2 (by simpa using hD.sm.symm);have c2:=hd2.cell 2 rfl)
  have hr2:Reads w2 x n f:=hr.keep (hK.new hk2 (by simpa using b2)) (by simp)
  go_wp2_with (refine xbg rfl _ _ rfl a.k 0 a.n a.n x n c rfl rfl a.n _ f _ hkk2 hr2 n (by omega) (by omega) ?_;intro w3 hs3 hk3)
  go_ret
  refine⟨a,rfl,HAL.out,?_,b1,b2,b3,b4,(hK.new hk2 (by simpa using b2)).new hk3 (by simpa using b3)⟩
  have e:u64s a.n (over (fun _=>0) f 0 0 n)=u64s a.n fun i=>if i<n then f i else 0:=yG fun i hi=>by simp[over]
  exact { hD with
   dev:=hk3.at hd2 (by simpa using hD.dk)
   now:=by have:=hk3.at hs2 (by simpa using hD.sk);rwa[e]at this
   kept:=by rwa[e]at hs3
   map:=hm2.keep hk3 (by simpa using hD.km.symm) }
open Go.RowKit
def LNew (w:World) (L n:Nat) (f:Nat->Int) (e:Ending) (w':World):Prop:=
 ∃p a,e=.returned (ptr a.d)/\a.L=L/\Dev w' p a { now:=fun i=>if i<n then f i else 0,kept:=fun i=>if i<n then f i else 0,tok:=fun _=>0,is:=fun _=>false } /\At w' p (powO (-1) 0)/\
  (w.heap.size≤a.d/\w.heap.size≤a.s/\w.heap.size≤a.k/\w.heap.size≤a.m/\w.heap.size≤p)/\xe [] w w'
theorem jr (w:World) (x:Option Addr) (n c L:Nat) (f:Nat->Int) (hr:Reads w x n f) (hL:L=(n+7)/8) (hn:n≤17592186044416):
  Calls Tryz.prog 114 #[.slice x n c] w (LNew w L n f):=by
 have HL:=hid hL
 clear hL
 go_enter Tryz.func114,Tryz.ntmps114
 go_wp2_with fail
 refine(xas _ _).mono ?_
 rintro e w1 ⟨rfl,hA1,hs1,hK1⟩
 go_wp2_with fail
 refine(xbd w1 w.heap.size x n c L f (hr.keep hK1 (by simp)) HL.out hn hA1.lt).mono ?_
 rintro e w2 ⟨a,rfl,haL,hD,b1,b2,b3,b4,hK2⟩
 have HAL:=hid haL
 have HS:=hid hs1
 clear haL hs1
 go_wp2
 go_ret
 have hs:=HS.out
 exact⟨w.heap.size,a,rfl,HAL.out,hD,hK2.at hA1 (by simp),⟨by omega,by omega,by omega,by omega,Nat.le_refl _⟩,hK1.trans hK2⟩
def chV (bits:Int) (i:Nat):Int:=Go.bits BinOp.and IntKind.u64 (bits/2 ^ (2*(i%32))) 3%256
theorem xef (bits:Int) (i:Nat):0≤chV bits i/\chV bits i≤255:=by unfold chV;omega
theorem xbm (w:World) (bits:Int) (i:Nat) (hi:i≤17592186044416):
  Calls Tryz.prog 19 #[.int .u64 bits,.int .i64 i] w fun e w'=>e=.returned (.int .u8 (chV bits i))/\w=w':=by
 have hib:(i:Int)≤17592186044416:=by omega
 go_enter Tryz.func19,Tryz.ntmps19
 go_wp2
 go_ret
 exact⟨rfl,rfl⟩
abbrev VI (v:Int):Obj:=.cells #[.int .u64 v] 26
theorem qK (w:World) (i:Nat):Calls Tryz.prog 262 #[.int .i64 i] w fun e w'=>e=.returned (.int .u8 0)/\w=w':=by
 go_enter Tryz.func262,Tryz.ntmps262
 go_wp2
 go_ret
 exact⟨rfl,rfl⟩
theorem YQ (n:Nat):Wv 262 #[] n (fun _=>0) [] [] (fun _ _=>True) where
 inv:=fun w i=>by simp[go_sem]
 call:=fun i w _ _=>by simpa using (qK w i).mono fun e w' ⟨he,hw⟩=>⟨he,by rw[<-hw];exact xe.refl _ _⟩
 keep:=fun _ _ _ _ _ _ _=>trivial
 low:=fun _=>by omega
theorem Y1 (w:World) (p:Nat) (a:DA) (S:DS) (h:Dev w p a S) (F:Nat) (cap:Array Value) (c:Nat->Int) (R:List Nat) (J:Nat->World->Prop) (hF:Wv F cap a.n c [] R J) (hJ:J 0 w)
  (hR:a.s∉R/\a.k∉R/\a.m∉R) (hRl:∀k∈R,k<w.heap.size):
  Calls Tryz.prog 17 #[ptr a.d,.func (.func F) #[] cap] w fun e w'=>
   e=.returned (.tuple #[])/\Dev w' p a { now:=fun i=>leftV S i (c i%3),kept:=fun i=>leftV S i (c i%3),tok:=S.tok,is:=fun _=>false } /\J a.n w'/\xe [a.s,a.k,a.m] w w':=
 xcN w p a S h F cap c [] R J hF hJ (by simp) hR hRl (by simp)
theorem Q8 {w:World} {b:Nat} {v:Int} {T:TypeId} {fz:Nat×Nat} (h:At w b (.cells #[.int .u64 v] T fz)):Reads w (some ⟨b,0,none⟩) 1 (fun _=>v):=
 .inr ⟨b,0,rfl,h.lt,fun i hi=>by obtain rfl:i=0:=by omega
                                 exact h.cell 0 rfl⟩
theorem qJ (w:World):Calls Tryz.prog 260 #[] w fun e w'=>e=.returned (.bool true)/\Below w.heap.size w w':=by
 go_enter Tryz.func260,Tryz.ntmps260
 go_wp2_with fail
 refine(xbs _).mono ?_
 rintro e w1 ⟨rfl,hb1⟩
 go_wp2_with fail
 have hs1:At (w1.alloc (.cells #[.int .u64 1] 26)) w1.heap.size (VI 1):=At.new _ _
 refine(jr _ _ 1 1 1 (fun _=>1) (Q8 hs1) rfl (by omega)).mono ?_
 rintro e w2 ⟨p,a,rfl,haL,hD2,hp2,⟨b1,b2,b3,b4,b5⟩,hK2⟩
 have haN:a.n=8:=by have:=a.n8;omega
 have HAN:=hid haN
 clear haL haN
 have hK02:xe [] w w2:=((Go.Proofs.YtcdhklgahepcaaaGreat.Below.keeps hb1 []).alloc _).trans hK2
 go_wp2_with fail
 refine(jX w2 p a _ (-1) 0 0 5 hD2 hp2 (by rw[HAN.out];omega) (by omega) (by omega) (.inl (by omega))).mono ?_
 rintro e w3 ⟨rfl,hD3,hp3,hK3⟩
 have hK03:xe [] w w3:=hK02.new hK3 (by have:=hb1.size;simp at b2 b5;simp;omega)
 go_wp2_with fail
 refine(XM w3 p a _ 0 5 hD3 (by rw[HAN.out];omega) (by simp[put])).mono ?_
 rintro e w4 ⟨rfl,rfl⟩
 go_wp2_with fail
 refine(Y1 w3 p a _ hD3 _ #[] (fun _=>0) [] (fun _ _=>True) (YQ a.n) trivial (by simp) (by simp)).mono ?_
 rintro e w5 ⟨rfl,hD5,_,hK5⟩
 have hK05:xe [] w w5:=hK03.new hK5 (by have:=hb1.size;simp at b2 b3 b4;simp;omega)
 go_wp2_with fail
 refine(XM w5 p a _ 0 1 hD5 (by rw[HAN.out];omega) (by simp[leftV])).mono ?_
 rintro e w6 ⟨rfl,rfl⟩
 go_wp2_with fail
 refine(zh w5 p a _ hD5).mono ?_
 rintro e w6 ⟨rfl,rfl⟩
 have hn:=HAN.out
 have e8:(a.n:Int)=8:=by omega
 clear hn
 go_wp2
 go_ret
 exact⟨rfl,hK05.below (Nat.le_refl _) (by simp)⟩
open Go.RowKit Go.OpenShut
def up8 (n:Nat):Nat:=(n+7)/8*8
theorem xD (n:Nat):n≤up8 n/\up8 n≤n+7/\up8 n%8=0:=by unfold up8;omega
structure Cfg where
 log:Nat
 roots:Nat
 space:Nat
namespace Cfg
def act (c:Cfg):Nat:=up8 (16+4*c.log)
def root (c:Cfg) (i:Nat):Nat:=c.act+2+i
def frm (c:Cfg) (k:Nat):Nat:=up8 (c.root c.roots)+k*up8 c.space
def words (c:Cfg):Nat:=c.frm 2
def Ok (c:Cfg):Prop:=1≤c.roots/\c.roots≤16/\c.roots+2≤c.log/\c.log≤200/\8≤c.space/\c.space≤4096
def Small (c:Cfg):Prop:=c.roots≤16/\c.log≤200/\c.space≤4096
theorem Ok.small {c:Cfg} (h:c.Ok):c.Small:=⟨h.2.1,h.2.2.2.1,h.2.2.2.2.2⟩
end Cfg
abbrev cfgI (l r s:Int):Value:=.agg #[.int .i64 l,.int .i64 r,.int .i64 s]
abbrev cfgV (c:Cfg):Value:=cfgI (c.log:Int) (c.roots:Int) (c.space:Int)
theorem yJ (w:World) (n l h:Int):
  Calls Tryz.prog 224 #[.int .i64 n,.int .i64 l,.int .i64 h] w fun e w'=>e=.returned (.bool (decide (l≤n)&&decide (n≤h)))/\w=w':=by
 go_enter Tryz.func224,Tryz.ntmps224
 go_wp2
 all_goals
  go_ret
  simp_all
  try omega
def cfgB (l r s:Int):Bool:=(decide (1≤r)&&decide (r≤16))&&((decide (r+2≤l)&&decide (l≤200))&&(decide (8≤s)&&decide (s≤4096)))
def chkE (l r s:Int):Int:=if cfgB l r s then 0 else 1
theorem Vw (w:World) (l r s:Int):
  Calls Tryz.prog 188 #[cfgI l r s] w fun e w'=>e=.returned (.int .i64 (chkE l r s))/\xe [] w w':=by
 by_cases h1:(decide (1≤r)&&decide (r≤16))=true
 ·have hr:1≤r/\r≤16:=by simpa using h1
  by_cases h2:(decide (r+2≤l)&&decide (l≤200))=true
  ·by_cases h3:(decide (8≤s)&&decide (s≤4096))=true
   ·have hv:chkE l r s=0:=by simp[chkE,cfgB,h1,h2,h3]
    have H:=hid hv
    have H1:=hid h1;have H2:=hid h2;have H3:=hid h3
    clear hv h1 h2 h3
    go_enter Tryz.func188,Tryz.ntmps188
    go_wp2_with fail
    refine(yJ _ r 1 16).mono ?_
    rintro e w1 ⟨rfl,rfl⟩
    rw[H1.out]
    go_wp2_with fail
    refine(yJ _ l (r+2) 200).mono ?_
    rintro e w1 ⟨rfl,rfl⟩
    rw[H2.out]
    go_wp2_with fail
    refine(yJ _ s 8 4096).mono ?_
    rintro e w1 ⟨rfl,rfl⟩
    rw[H3.out]
    go_wp2_with fail
    go_ret
    exact⟨by rw[H.out];rfl,(xe.refl _ _).alloc _⟩
   ·have hv:chkE l r s=1:=by simp only[chkE,cfgB,h1,h2,Bool.eq_false_iff.mpr h3];rfl
    have H:=hid hv
    have H1:=hid h1;have H2:=hid h2;have H3:=hid (Bool.eq_false_iff.mpr h3)
    clear hv h1 h2 h3
    go_enter Tryz.func188,Tryz.ntmps188
    go_wp2_with fail
    refine(yJ _ r 1 16).mono ?_
    rintro e w1 ⟨rfl,rfl⟩
    rw[H1.out]
    go_wp2_with fail
    refine(yJ _ l (r+2) 200).mono ?_
    rintro e w1 ⟨rfl,rfl⟩
    rw[H2.out]
    go_wp2_with fail
    refine(yJ _ s 8 4096).mono ?_
    rintro e w1 ⟨rfl,rfl⟩
    rw[H3.out]
    go_wp2_with fail
    go_ret
    exact⟨by rw[H.out];rfl,(xe.refl _ _).alloc _⟩
  ·have hv:chkE l r s=1:=by simp only[chkE,cfgB,h1,Bool.eq_false_iff.mpr h2];rfl
   have H:=hid hv
   have H1:=hid h1;have H2:=hid (Bool.eq_false_iff.mpr h2)
   clear hv h1 h2
   go_enter Tryz.func188,Tryz.ntmps188
   go_wp2_with fail
   refine(yJ _ r 1 16).mono ?_
   rintro e w1 ⟨rfl,rfl⟩
   rw[H1.out]
   go_wp2_with fail
   refine(yJ _ l (r+2) 200).mono ?_
   rintro e w1 ⟨rfl,rfl⟩
   rw[H2.out]
   go_wp2_with fail
   go_ret
   exact⟨by rw[H.out];rfl,(xe.refl _ _).alloc _⟩
 ·have hv:chkE l r s=1:=by simp only[chkE,cfgB,Bool.eq_false_iff.mpr h1];rfl
  have H:=hid hv
  have H1:=hid (Bool.eq_false_iff.mpr h1)
  clear hv h1
  go_enter Tryz.func188,Tryz.ntmps188
  go_wp2_with fail
  refine(yJ _ r 1 16).mono ?_
  rintro e w1 ⟨rfl,rfl⟩
  rw[H1.out]
  go_wp2_with fail
  go_ret
  exact⟨by rw[H.out];rfl,(xe.refl _ _).alloc _⟩
theorem ZP (w:World) (n:Nat) (h:n≤100000):
  Calls Tryz.prog 191 #[.int .i64 n] w fun e w'=>e=.returned (.int .i64 (up8 n:Nat))/\w=w':=by
 have hb:(n:Int)≤100000:=by omega
 have H:Hid (((n:Int)+8-1)/8*8=(up8 n:Nat)):=by show _=_;unfold up8;omega
 go_enter Tryz.func191,Tryz.ntmps191
 go_wp2
 go_ret
 exact⟨by rw[H.out];rfl,rfl⟩
theorem wS (w:World) (l r s:Int) (i:Nat) (h:i≤10000):
  Calls Tryz.prog 192 #[cfgI l r s,.int .i64 i] w fun e w'=>e=.returned (.int .i64 (16+4*i:Nat))/\xe [] w w':=by
 have hb:(i:Int)≤10000:=by omega
 have H:Hid ((16:Int)+4*(i:Int)=((16+4*i:Nat):Int)):=by show _=_;omega
 go_enter Tryz.func192,Tryz.ntmps192
 go_wp2
 go_ret
 exact⟨by rw[H.out];rfl,(xe.refl _ _).alloc _⟩
theorem xQ (w:World) (c:Cfg) (h:c.Small):
  Calls Tryz.prog 135 #[cfgV c] w fun e w'=>e=.returned (.int .i64 c.act)/\xe [] w w':=by
 obtain⟨h1,h2,h3⟩:=h
 go_enter Tryz.func135,Tryz.ntmps135
 go_wp2_with fail
 refine(wS _ _ _ _ c.log (by omega)).mono ?_
 rintro e w1 ⟨rfl,hK1⟩
 go_wp2_with fail
 refine(ZP _ (16+4*c.log) (by omega)).mono ?_
 rintro e w2 ⟨rfl,rfl⟩
 go_wp2_with fail
 go_ret
 exact⟨rfl,((xe.refl _ _).alloc _).trans hK1⟩
theorem vP {c:Cfg} (h:c.Small):c.act≤823:=by
 have:=(xD (16+4*c.log)).2.1
 obtain⟨h1,h2,h3⟩:=h
 unfold Cfg.act
 omega
theorem X9 (w:World) (c:Cfg) (h:c.Small):
  Calls Tryz.prog 158 #[cfgV c] w fun e w'=>e=.returned (.int .i64 (c.act+1:Nat))/\xe [] w w':=by
 have ha:=vP h
 have hi:(c.act:Int)≤823:=by omega
 go_enter Tryz.func158,Tryz.ntmps158
 go_wp2_with fail
 refine(xQ _ c h).mono ?_
 rintro e w1 ⟨rfl,hK1⟩
 go_wp2_with fail
 go_ret
 exact⟨by simp,((xe.refl _ _).alloc _).trans hK1⟩
theorem wR (w:World) (c:Cfg) (h:c.Small) (i:Nat) (hi:i≤10000):
  Calls Tryz.prog 105 #[cfgV c,.int .i64 i] w fun e w'=>e=.returned (.int .i64 (c.root i))/\xe [] w w':=by
 have ha:=vP h
 have hib:(i:Int)≤10000:=by omega
 have hab:(c.act:Int)≤823:=by omega
 have H:Hid ((c.act:Int)+2+(i:Int)=((c.root i:Nat):Int)):=by show _=_;unfold Cfg.root;omega
 go_enter Tryz.func105,Tryz.ntmps105
 go_wp2_with fail
 refine(xQ _ c h).mono ?_
 rintro e w1 ⟨rfl,hK1⟩
 go_wp2_with fail
 go_ret
 exact⟨by rw[H.out];rfl,((xe.refl _ _).alloc _).trans hK1⟩
theorem YZ (w:World) (c:Cfg) (h:c.Small) (k:Nat) (hk:k≤100):
  Calls Tryz.prog 180 #[cfgV c,.int .i64 k] w fun e w'=>e=.returned (.int .i64 (c.frm k))/\xe [] w w':=by
 have ha:=vP h
 have h0:=h
 obtain⟨h1,h2,h3⟩:=h
 have hr:c.root c.roots≤1000:=by unfold Cfg.root;omega
 have e1:=(xD (c.root c.roots)).2.1
 have e2:=(xD c.space).2.1
 have hm:k*up8 c.space≤100*4103:=Nat.mul_le_mul hk (by omega)
 have hmi:(k:Int)*(up8 c.space:Nat)≤410300:=by
  have:((k*up8 c.space:Nat):Int)≤410300:=by omega
  simpa using this
 have hm0:0≤(k:Int)*(up8 c.space:Nat):=Int.mul_nonneg (by omega) (by omega)
 have hu:((up8 (c.root c.roots):Nat):Int)≤1010:=by omega
 have H:Hid (IntKind.i64.wrap (((up8 (c.root c.roots):Nat):Int)+IntKind.i64.wrap ((k:Int)*(up8 c.space:Nat)))=((c.frm k:Nat):Int)):=by
  show _=_
  rw[IntWalk.i64_in ((k:Int)*(up8 c.space:Nat)) (by omega),IntWalk.i64_in _ (by omega)]
  unfold Cfg.frm;simp
 have C1:=hid (fun w=>wR w c h0 c.roots (by omega))
 have C2:=hid (fun w=>ZP w (c.root c.roots) (by omega))
 have C3:=hid (fun w=>ZP w c.space (by omega))
 have H0:=hid h0
 clear h0 ha h1 h2 h3 hr e1 e2 hm hk
 go_enter Tryz.func180,Tryz.ntmps180
 go_upto_region 1 with fail
 have hb:=At.new w (.cells #[.int .i64 c.log,.int .i64 c.roots,.int .i64 c.space] 36)
 have hK:=(xe.refl [] w).alloc (.cells #[.int .i64 c.log,.int .i64 c.roots,.int .i64 c.space] 36)
 obtain⟨w0,hw0⟩:∃w0,w0=w.alloc (.cells #[.int .i64 c.log,.int .i64 c.roots,.int .i64 c.space] 36):=⟨_,rfl⟩
 rw[<-hw0]at hb hK⊢
 clear hw0
 obtain⟨b,hbb⟩:∃b,b=w.heap.size:=⟨_,rfl⟩
 rw[<-hbb]at hb⊢
 clear hbb
 have HS:Hid (∀w',xe [] w0 w'->(w'.cell? ⟨b,0,none⟩=some (.int .i64 c.log)/\w'.cell? ⟨b,1,none⟩=some (.int .i64 c.roots)/\w'.cell? ⟨b,2,none⟩=some (.int .i64 c.space)/\xe [] w0 w')):=fun w' hk=>⟨(hk.at hb (by simp)).cell 0 rfl,(hk.at hb (by simp)).cell 1 rfl,(hk.at hb (by simp)).cell 2 rfl,hk⟩
 have k0:xe [] w0 w0.drew:=(xe.refl _ _).drew
 go_region_held3 (fun w'=>w'.cell? ⟨b,0,none⟩=some (.int .i64 c.log)∧w'.cell? ⟨b,1,none⟩=some (.int .i64 c.roots)∧w'.cell? ⟨b,2,none⟩=some (.int .i64 c.space)∧xe [] w0 w')
  (first|exact HS.out _ k0|exact HS.out _ k1)
  (first|(go_at_call 105;refine(C1.out _).mono ?_;rintro e w1 ⟨rfl,hk1⟩;have k1:=k0.trans hk1)
        |(go_at_call 191;refine(C2.out _).mono ?_;rintro e w' ⟨rfl,rfl⟩)
        |(go_at_call 191;refine(C3.out _).mono ?_;rintro e w' ⟨rfl,rfl⟩))
 go_wp2
 go_ret
 exact⟨by rw[H.out];rfl,hK.trans k1⟩
theorem Xx (w:World) (c:Cfg) (h:c.Small):
  Calls Tryz.prog 113 #[cfgV c] w fun e w'=>e=.returned (.int .i64 c.words)/\xe [] w w':=by
 go_enter Tryz.func113,Tryz.ntmps113
 go_wp2_with fail
 refine(YZ _ c h 2 (by omega)).mono ?_
 rintro e w1 ⟨rfl,hK1⟩
 go_wp2_with fail
 go_ret
 exact⟨rfl,((xe.refl _ _).alloc _).trans hK1⟩
abbrev c3V (l r s:Int):Value:=.agg #[.int .u16 l,.int .u16 r,.int .u16 s]
def mk3 (l r s:Nat):Cfg:=⟨1+r%6+2+l%12,1+r%6,8+s%90⟩
theorem XW (l r s:Nat):(mk3 l r s).Ok:=by unfold mk3 Cfg.Ok;simp only;omega
theorem XT {l:Int} (h:(Lit.int .u16 l).wf=true):∃n:Nat,(n:Int)=l/\n≤65535:=by
 have:=bounds_u16 h
 exact⟨l.toNat,by omega,by omega⟩
abbrev c3O (l r s:Int):Obj:=.cells #[.int .u16 l,.int .u16 r,.int .u16 s] 24
abbrev cfgO (c:Cfg):Obj:=.cells #[.int .i64 c.log,.int .i64 c.roots,.int .i64 c.space] 36
theorem xcj (w:World) (l r s:Nat) (hl:l≤65535) (hr:r≤65535) (hs:s≤65535):
  Calls Tryz.prog 48 #[c3V l r s] w fun e w'=>e=.returned (cfgV (mk3 l r s))/\(w.alloc (c3O l r s)).alloc (cfgO (mk3 l r s))=w':=by
 have hl':(l:Int)≤65535:=by omega
 have hr':(r:Int)≤65535:=by omega
 have hs':(s:Int)≤65535:=by omega
 go_enter Tryz.func48,Tryz.ntmps48
 go_wp2
 refine bodyPost_ret (v:=cfgV (mk3 l r s)) ?_ rfl ?_
 ·simp[results,Tryz.results48,go_sem,mk3]
 ·have e1:((mk3 l r s).log:Int)=1+(r:Int)%6+2+(l:Int)%12:=by simp[mk3]
  have e2:((mk3 l r s).roots:Int)=1+(r:Int)%6:=by simp[mk3]
  have e3:((mk3 l r s).space:Int)=8+(s:Int)%90:=by simp[mk3]
  exact⟨rfl,by simp only[cfgO,e1,e2,e3]⟩
theorem JM (w:World) (l r s:Nat) (hl:l≤65535) (hr:r≤65535) (hs:s≤65535):
  Calls Tryz.prog 48 #[c3V l r s] w fun e w'=>e=.returned (cfgV (mk3 l r s))/\xe [] w w':=by
 refine(xcj w l r s hl hr hs).mono ?_
 rintro e w' ⟨rfl,rfl⟩
 exact⟨rfl,((xe.refl _ _).alloc _).alloc _⟩
theorem xe3 {c:Cfg} (h:c.Ok):chkE c.log c.roots c.space=0:=by
 obtain⟨h1,h2,h3,h4,h5,h6⟩:=h
 have:cfgB c.log c.roots c.space=true:=by simp[cfgB];omega
 simp[chkE,this]
theorem J6 (w:World) (c:Cfg) (h:c.Ok):
  Calls Tryz.prog 188 #[cfgV c] w fun e w'=>e=.returned (.int .i64 0)/\xe [] w w':=by
 have:=Vw w c.log c.roots c.space
 rwa[xe3 h]at this
abbrev exC:Cfg:=⟨3,1,8⟩
theorem Qj (w:World):Calls Tryz.prog 259 #[] w fun e w'=>e=.returned (.bool true)/\Below w.heap.size w w':=by
 have hok:exC.Ok:=by unfold Cfg.Ok exC;decide
 have C1:=hid (fun w=>J6 w exC hok)
 have C2:=hid (fun w=>xQ w exC hok.small)
 have C3:=hid (fun w=>YZ w exC hok.small 0 (by omega))
 have C4:=hid (fun w=>Xx w exC hok.small)
 go_enter Tryz.func259,Tryz.ntmps259
 go_wp2_with fail
 refine(qJ _).mono ?_
 rintro e w1 ⟨rfl,hb1⟩
 have K1:xe [] w w1:=Go.Proofs.YtcdhklgahepcaaaGreat.Below.keeps hb1 []
 clear hb1
 go_wp2_with fail
 have hb:=At.new w1 (.cells #[.int .i64 3,.int .i64 1,.int .i64 8] 36)
 have K1':=K1.alloc (.cells #[.int .i64 3,.int .i64 1,.int .i64 8] 36)
 have z1:w1.heap.size<(w1.alloc (.cells #[.int .i64 3,.int .i64 1,.int .i64 8] 36)).heap.size:=by simp
 refine(C1.out _).mono ?_
 rintro e w2 ⟨rfl,hK2⟩
 have hb2:=hK2.at hb (by simp)
 have K2:=K1'.trans hK2
 have c20:=hb2.cell 0 rfl
 have c21:=hb2.cell 1 rfl
 have c22:=hb2.cell 2 rfl
 go_wp2_with fail
 refine(C2.out _).mono ?_
 rintro e w3 ⟨rfl,hK3⟩
 have hb3:=hK3.at hb2 (by simp)
 have K3:=K2.trans hK3
 have c30:=hb3.cell 0 rfl
 have c31:=hb3.cell 1 rfl
 have c32:=hb3.cell 2 rfl
 go_wp2_with fail
 refine(C3.out _).mono ?_
 rintro e w4 ⟨rfl,hK4⟩
 have hb4:=hK4.at hb3 (by simp)
 have K4:=K3.trans hK4
 have c40:=hb4.cell 0 rfl
 have c41:=hb4.cell 1 rfl
 have c42:=hb4.cell 2 rfl
 go_wp2_with fail
 refine(C4.out _).mono ?_
 rintro e w5 ⟨rfl,hK5⟩
 have hb5:=hK5.at hb4 (by simp)
 have K5:=K4.trans hK5
 have c50:=hb5.cell 0 rfl
 have c51:=hb5.cell 1 rfl
 have c52:=hb5.cell 2 rfl
 go_wp2_with fail
 go_ret
 exact⟨rfl,K5.below (Nat.le_refl _) (by simp)⟩
open Go.RowKit Go.OpenShut
abbrev hdV (n r:Int):Value:=.agg #[.int .i64 n,.int .i64 r]
abbrev hdO (n r:Int):Obj:=.cells #[.int .i64 n,.int .i64 r] 67
def hdB (n r:Int):Bool:=(decide (0≤n)&&decide (n≤64))&&(decide (0≤r)&&decide (r≤n))
def hdE (n r:Int):Int:=if hdB n r then 0 else 5
theorem xcw {n r:Int} (h:0≤n/\n≤64/\0≤r/\r≤n):hdE n r=0:=by
 have:hdB n r=true:=by simp[hdB];omega
 simp[hdE,this]
theorem vG (w:World) (n r:Int):
  Calls Tryz.prog 157 #[hdV n r] w fun e w'=>e=.returned (.int .i64 (hdE n r))/\xe [] w w':=by
 go_enter Tryz.func157,Tryz.ntmps157
 go_wp2
 all_goals
  go_ret
  refine⟨?_,(xe.refl _ _).alloc _⟩
  first
   |(have H:hdB n r=true:=by simp[hdB];omega
     simp[hdE,H]
     done)
   |(have H:hdB n r=false:=by
      rw[Bool.eq_false_iff]
      simp[hdB]
      omega
     simp[hdE,H]
     done)
theorem wH (w:World) (n r:Int) (hn:-1000≤n/\n≤1000):
  Calls Tryz.prog 151 #[hdV n r] w fun e w'=>e=.returned (.int .i64 (n+1))/\xe [] w w':=by
 go_enter Tryz.func151,Tryz.ntmps151
 go_wp2
 go_ret
 exact⟨rfl,(xe.refl _ _).alloc _⟩
def hdPk (n r:Nat):Nat:=12754194144713244672+r*4294967296+n
theorem xdY (n r:Nat) (hn:n≤64) (hr:r≤n):bits .or .u64 (bits .or .u64 12754194144713244672 ((r:Int)*4294967296)) (n:Int)=(hdPk n r:Nat):=by
 have e1:((r:Int)*4294967296)=((r*4294967296:Nat):Int):=by omega
 have j1:12754194144713244672 ||| r*4294967296=12754194144713244672+r*4294967296:=nat_join 56 _ _ (by decide) (by omega)
 have j2:(12754194144713244672+r*4294967296) ||| n=12754194144713244672+r*4294967296+n:=nat_join 32 _ _ (by omega) (by omega)
 rw[e1,show(12754194144713244672:Int)=((12754194144713244672:Nat):Int)from rfl,u64_or_nat _ _ (by omega) (by omega),j1,u64_or_nat _ _ (by omega) (by omega),j2]
 rfl
theorem JU (w:World) (n r:Nat) (hn:n≤64) (hr:r≤n):
  Calls Tryz.prog 208 #[hdV n r] w fun e w'=>e=.returned (.int .u64 (hdPk n r))/\xe [] w w':=by
 have H:=hid (xdY n r hn hr)
 go_enter Tryz.func208,Tryz.ntmps208
 go_wp2
 go_ret
 exact⟨by rw[H.out];rfl,(xe.refl _ _).alloc _⟩
def hdN (x:Nat):Nat:=x%4294967296
def hdR (x:Nat):Nat:=x/4294967296%16777216
def isHd (x:Nat):Bool:=x/72057594037927936==177&&(decide (hdN x≤64)&&decide (hdR x≤hdN x))
theorem yu {x:Nat} (h:isHd x=true):x=hdPk (hdN x) (hdR x)/\hdN x≤64/\hdR x≤hdN x:=by
 simp[isHd]at h
 refine⟨?_,h.2.1,h.2.2⟩
 unfold hdPk hdN hdR
 omega
theorem XZ (n r:Nat) (hn:n≤64):hdN (hdPk n r)=n:=by unfold hdN hdPk;omega
theorem YW (n r:Nat) (hn:n≤64) (hr:r≤n):hdR (hdPk n r)=r:=by unfold hdR hdPk;omega
theorem vF (n r:Nat) (hn:n≤64) (hr:r≤n):isHd (hdPk n r)=true:=by
 simp only[isHd,XZ n r hn,YW n r hn hr]
 simp[hn,hr]
 unfold hdPk;omega
theorem xek (x:Nat) (hx:x<18446744073709551616):x ^^^ 12754194144713244672<18446744073709551616:=
 Nat.xor_lt_two_pow (n:=64) hx (by decide)
theorem xcR (x:Nat):(x ^^^ 12754194144713244672)%4294967296=hdN x:=by
 have h:(x ^^^ 12754194144713244672)%2 ^ 32=(x%2 ^ 32) ^^^ (12754194144713244672%2 ^ 32):=Nat.xor_mod_two_pow
 have e:12754194144713244672%2 ^ 32=0:=by decide
 rw[e,Nat.xor_zero]at h
 exact h
theorem xbr (x:Nat):(x ^^^ 12754194144713244672)/4294967296=(x/72057594037927936 ^^^ 177)*16777216+hdR x:=by
 have h:(x ^^^ 12754194144713244672)/2 ^ 32=(x/2 ^ 32) ^^^ (12754194144713244672/2 ^ 32):=Nat.xor_div_two_pow
 have e:12754194144713244672/2 ^ 32=2969567232:=by decide
 rw[e]at h
 have h1:(x/2 ^ 32 ^^^ 2969567232)%2 ^ 24=(x/2 ^ 32%2 ^ 24) ^^^ (2969567232%2 ^ 24):=Nat.xor_mod_two_pow
 have h2:(x/2 ^ 32 ^^^ 2969567232)/2 ^ 24=(x/2 ^ 32/2 ^ 24) ^^^ (2969567232/2 ^ 24):=Nat.xor_div_two_pow
 have e1:2969567232%2 ^ 24=0:=by decide
 have e2:2969567232/2 ^ 24=177:=by decide
 rw[e1,Nat.xor_zero]at h1
 rw[e2,Nat.div_div_eq_div_mul]at h2
 have h3:=Nat.div_add_mod (x/2 ^ 32 ^^^ 2969567232) (2 ^ 24)
 rw[h1,h2]at h3
 show(x ^^^ 12754194144713244672)/2 ^ 32=_
 rw[h,<-h3]
 unfold hdR
 have:2 ^ 32*2 ^ 24=72057594037927936:=by decide
 rw[this]
 omega
theorem xcS (x:Nat):hdB (hdN x:Nat) ((x/72057594037927936 ^^^ 177)*16777216+hdR x:Nat)=isHd x:=by
 have hr:hdR x<16777216:=Nat.mod_lt _ (by decide)
 by_cases h:x/72057594037927936=177
 ·simp only[h,Nat.xor_self,Nat.zero_mul,Nat.zero_add,isHd,hdB]
  rw[Bool.eq_iff_iff]
  simp
  omega
 ·have hz:x/72057594037927936 ^^^ 177≠0:=by
   intro h0
   apply h
   have:=congrArg (· ^^^ 177) h0
   simpa[Nat.xor_assoc]using this
  have h1:isHd x=false:=by simp[isHd,h]
  rw[h1,Bool.eq_false_iff]
  generalize x/72057594037927936 ^^^ 177=q at hz
  simp[hdB]
  omega
def unV (x:Nat):Value:=if isHd x then .tuple #[hdV (hdN x) (hdR x),.bool true]else .tuple #[hdV 0 0,.bool false]
theorem Zy (w:World) (x:Nat) (hx:x<18446744073709551616):
  Calls Tryz.prog 216 #[.int .u64 x] w fun e w'=>e=.returned (unV x)/\xe [] w w':=by
 have X:=hid (show bits .xor .u64 (x:Int) 12754194144713244672=((x ^^^ 12754194144713244672:Nat):Int)from u64_xor_nat x 12754194144713244672 hx (by decide))
 have e1:=xcR x
 have e2:=xbr x
 have e3:=xek x hx
 have hB:=xcS x
 generalize hq:x ^^^ 12754194144713244672=q at e1 e2 e3 X
 have L:Hid ((q:Int)%4294967296=(hdN x:Nat)):=by show _=_;omega
 have M:Hid (wrap64 ((q:Int)/4294967296)=(((x/72057594037927936 ^^^ 177)*16777216+hdR x:Nat):Int)):=by
  show _=_
  rw[IntWalk.wrap64_in _ (by omega),<-e2]
  simp
 clear hq e1 e2
 have hyR:isHd x=true->(x/72057594037927936 ^^^ 177)*16777216+hdR x=hdR x:=by
  intro h
  simp[isHd]at h
  simp[h.1]
 generalize (x/72057594037927936 ^^^ 177)*16777216+hdR x=y at M hB hyR
 cases hi:isHd x
 ·rw[hi]at hB
  have hE:Hid (hdE (hdN x:Nat) (y:Nat)=5):=by show _=_;simp[hdE,hB]
  have hV:Hid (unV x=.tuple #[hdV 0 0,.bool false]):=by show _=_;simp[unV,hi]
  clear hi hB hyR
  go_enter Tryz.func216,Tryz.ntmps216
  go_wp2_with fail
  rw[X.out,L.out,M.out]
  refine(vG _ _ _).mono ?_
  rintro e w1 ⟨rfl,hK⟩
  rw[hE.out]
  have b0:=hK.at ((At.new w (hdO 0 0)).alloc (hdO (hdN x) y)) (by simp)
  have b1:=hK.at (At.new (w.alloc (hdO 0 0)) (hdO (hdN x) y)) (by simp)
  have K:=(((xe.refl [] w).alloc (hdO 0 0)).alloc (hdO (hdN x) y)).trans hK
  rw[show(w.alloc (hdO 0 0)).heap.size=w.heap.size+1 by simp]at b1
  clear hK
  have c00:=b0.cell 0 rfl
  have c01:=b0.cell 1 rfl
  have f00:=b0.free 0
  have f01:=b0.free 1
  have c10:=b1.cell 0 rfl
  have c11:=b1.cell 1 rfl
  go_wp2_with fail
  have d1:=((b0.set 0 (.int .i64 0)).set 1 (.int .i64 0)).cell 0 rfl
  have d2:=((b0.set 0 (.int .i64 0)).set 1 (.int .i64 0)).cell 1 rfl
  refine bodyPost_ret (v:=.tuple #[hdV 0 0,.bool false]) ?_ rfl ?_
  ·simp[results,Tryz.results216,go_sem,d1,d2]
  ·exact⟨by rw[hV.out],(K.set (.inr (by simp)) _).set (.inr (by simp)) _⟩
 ·rw[hi]at hB
  have hE:Hid (hdE (hdN x:Nat) (y:Nat)=0):=by show _=_;simp[hdE,hB]
  have hy:Hid (((y:Nat):Int)=(hdR x:Nat)):=by
   show _=_
   rw[hyR hi]
  have hV:Hid (unV x=.tuple #[hdV (hdN x) (hdR x),.bool true]):=by show _=_;simp[unV,hi]
  clear hi hB hyR
  go_enter Tryz.func216,Tryz.ntmps216
  go_wp2_with fail
  rw[X.out,L.out,M.out,hy.out]
  refine(vG _ _ _).mono ?_
  rintro e w1 ⟨rfl,hK⟩
  rw[<-hy.out,hE.out,hy.out]
  have b0:=hK.at ((At.new w (hdO 0 0)).alloc (hdO (hdN x) (hdR x))) (by simp)
  have b1:=hK.at (At.new (w.alloc (hdO 0 0)) (hdO (hdN x) (hdR x))) (by simp)
  have K:=(((xe.refl [] w).alloc (hdO 0 0)).alloc (hdO (hdN x) (hdR x))).trans hK
  rw[show(w.alloc (hdO 0 0)).heap.size=w.heap.size+1 by simp]at b1
  clear hK
  have c00:=b0.cell 0 rfl
  have c01:=b0.cell 1 rfl
  have f00:=b0.free 0
  have f01:=b0.free 1
  have c10:=b1.cell 0 rfl
  have c11:=b1.cell 1 rfl
  go_wp2_with fail
  have d1:=((b0.set 0 (.int .i64 (hdN x))).set 1 (.int .i64 (hdR x))).cell 0 rfl
  have d2:=((b0.set 0 (.int .i64 (hdN x))).set 1 (.int .i64 (hdR x))).cell 1 rfl
  refine bodyPost_ret (v:=.tuple #[hdV (hdN x) (hdR x),.bool true]) ?_ rfl ?_
  ·simp[results,Tryz.results216,go_sem,d1,d2]
  ·exact⟨by rw[hV.out],(K.set (.inr (by simp)) _).set (.inr (by simp)) _⟩
theorem qQ (w:World) (n r:Nat) (hn:n≤64) (hr:r≤n):
  Calls Tryz.prog 216 #[.int .u64 (hdPk n r)] w fun e w'=>e=.returned (.tuple #[hdV n r,.bool true])/\xe [] w w':=by
 refine(Zy w (hdPk n r) (by unfold hdPk;omega)).mono ?_
 rintro e w' ⟨rfl,hk⟩
 refine⟨?_,hk⟩
 simp only[unV,vF n r hn hr,XZ n r hn,YW n r hn hr,if_true]
theorem Qi (w:World):Calls Tryz.prog 258 #[] w fun e w'=>e=.returned (.bool true)/\Below w.heap.size w w':=by
 go_enter Tryz.func258,Tryz.ntmps258
 go_wp2_with fail
 refine(Qj _).mono ?_
 rintro e w1 ⟨rfl,hb1⟩
 have K1:xe [] w w1:=Go.Proofs.YtcdhklgahepcaaaGreat.Below.keeps hb1 []
 clear hb1
 go_wp2_with fail
 refine(qQ _ 3 1 (by omega) (by omega)).mono ?_
 rintro e w2 ⟨rfl,hK2⟩
 go_wp2_with fail
 refine(wH _ 3 1 (by omega)).mono ?_
 rintro e w3 ⟨rfl,hK3⟩
 have a2:=hK3.at (At.new w2 (hdO 3 1)) (by simp)
 have K3:=((K1.trans hK2).alloc (hdO 3 1)).trans hK3
 clear K1 hK2 hK3
 have c20:=a2.cell 0 rfl
 have c21:=a2.cell 1 rfl
 go_wp2_with fail
 refine(JU _ 3 1 (by omega) (by omega)).mono ?_
 rintro e w4 ⟨rfl,hK4⟩
 have hv:Hid (((hdPk 3 1:Nat):Int)=12754194149008211971):=by show _=_;simp[hdPk]
 rw[hv.out]
 go_wp2_with fail
 go_ret
 exact⟨rfl,(K3.trans hK4).below (Nat.le_refl _) (by simp)⟩
end Go.Proofs.YtcdhklgahepcaaaGreat
