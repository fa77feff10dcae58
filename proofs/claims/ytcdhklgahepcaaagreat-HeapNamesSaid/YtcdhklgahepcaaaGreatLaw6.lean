import Derived.Test.YtcdhklgahepcaaaGreatLaw5
import Derived.Laws.BitsAllLaws
import Derived.RangeFuncBound
import Derived.RangeFuncCalls
import Derived.RangeFuncLeaves
import Derived.Shelf.RegionOpen
import Derived.OwnWalkIn
import Derived.TacticsInMore
import Derived.Sort.LoopGhostIn
set_option maxHeartbeats 4000000
set_option maxRecDepth 100000
namespace Go.Proofs.YtcdhklgahepcaaaGreat
open Go.RowKit Go.OpenShut
abbrev logO (d:Nat) (c:Cfg) (cnt:Nat) (st:Bool):Obj:=.cells #[ptr d,.int .i64 c.log,.int .i64 c.roots,.int .i64 c.space,.int .i64 cnt,.bool st] 181
structure LW (w:World) (p:Nat) (a:DA) (l u:Int) (S:DS) (lb:Nat) (c:Cfg) (cnt:Nat) (st:Bool):Prop where
 pw:Pw w p a l u S
 log:At w lb (logO a.d c cnt st)
theorem xY {w:World} {b b':Nat} {x y:Array Value} {T U:TypeId} {f g:Nat×Nat} (h:At w b (.cells x T f)) (h':At w b' (.cells y U g)) (hT:T≠U):b≠b':=by
 rintro rfl
 have:=h.inj h'
 injection this with _ h2 _
 exact hT h2
theorem LW.ne {w:World} {p:Nat} {a:DA} {l u:Int} {S:DS} {lb:Nat} {c:Cfg} {cnt:Nat} {st:Bool} (h:LW w p a l u S lb c cnt st):lb≠p/\lb≠a.d/\lb≠a.s/\lb≠a.k/\lb≠a.m:=by
 refine⟨xY h.log h.pw.pow (by decide),xY h.log h.pw.dev.dev (by decide),xY h.log h.pw.dev.now (by decide),xY h.log h.pw.dev.kept (by decide),?_⟩
 rintro rfl
 obtain⟨x,y,hm,_⟩:=h.pw.dev.map
 have:=h.log.inj hm
 cases this
theorem LW.keep {w w':World} {p:Nat} {a:DA} {l u:Int} {S:DS} {lb:Nat} {c:Cfg} {cnt:Nat} {st:Bool} {T:List Nat} (h:LW w p a l u S lb c cnt st) (hk:xe T w w') (hp:p∉T) (hd:a.d∉T) (hs:a.s∉T) (hkk:a.k∉T) (hm:a.m∉T) (hl:lb∉T):LW w' p a l u S lb c cnt st:=
 ⟨h.pw.keep hk hp hd hs hkk hm,hk.at h.log hl⟩
theorem LW.keep0 {w w':World} {p:Nat} {a:DA} {l u:Int} {S:DS} {lb:Nat} {c:Cfg} {cnt:Nat} {st:Bool} (h:LW w p a l u S lb c cnt st) (hk:xe [] w w'):LW w' p a l u S lb c cnt st:=
 ⟨h.pw.keep0 hk,hk.at h.log (by simp)⟩
theorem LW.next {w w':World} {p:Nat} {a:DA} {l u u':Int} {S S':DS} {lb:Nat} {c:Cfg} {cnt:Nat} {st:Bool} (h:LW w p a l u S lb c cnt st) (h':Pw w' p a l u' S') (hk:xe [p,a.s,a.k,a.m] w w'):LW w' p a l u' S' lb c cnt st:=by
 obtain⟨n1,n2,n3,n4,n5⟩:=h.ne
 exact⟨h',hk.at h.log (by simp;exact⟨n1,n3,n4,n5⟩)⟩
theorem LW.set {w:World} {p:Nat} {a:DA} {l u:Int} {S:DS} {lb:Nat} {c:Cfg} {cnt:Nat} {st:Bool} (h:LW w p a l u S lb c cnt st) (i:Nat) (v:Value) {cnt':Nat} {st':Bool}
  (e:(logO a.d c cnt st)=(logO a.d c cnt st)->((#[ptr a.d,.int .i64 c.log,.int .i64 c.roots,.int .i64 c.space,.int .i64 cnt,.bool st]:Array Value).setIfInBounds i v=#[ptr a.d,.int .i64 c.log,.int .i64 c.roots,.int .i64 c.space,.int .i64 cnt',.bool st'])):
  LW (w.setCell ⟨lb,i,none⟩ v) p a l u S lb c cnt' st':=by
 obtain⟨n1,n2,n3,n4,n5⟩:=h.ne
 refine⟨h.pw.keep (T:=[lb]) ((xe.refl _ _).set (.inl (by simp)) _) (by simpa using n1.symm) (by simpa using n2.symm) (by simpa using n3.symm) (by simpa using n4.symm) (by simpa using n5.symm),?_⟩
 have:=h.log.set i v
 rwa[e rfl]at this
def epN (x:Nat):Nat:=x%4294967296
def stN (e i:Nat):Nat:=e*4294967296+(i+1)
theorem xdh (x:Nat):epN x<4294967296:=Nat.mod_lt _ (by omega)
theorem xe2 (x:Nat) (hx:x<18446744073709551616):bits .and .u64 (x:Int) 4294967295=(epN x:Nat):=by
 rw[show(4294967295:Int)=((4294967295:Nat):Int)from rfl,u64_and_nat _ _ hx (by omega)]
 congr 1
 exact Nat.and_two_pow_sub_one_eq_mod x 32
theorem JY (w:World) (x:Nat) (hx:x<18446744073709551616):
  Calls Tryz.prog 199 #[.int .u64 x] w fun e w'=>e=.returned (.int .u64 (epN x))/\w=w':=by
 have H:=hid (xe2 x hx)
 go_enter Tryz.func199,Tryz.ntmps199
 go_wp2
 go_ret
 exact⟨by rw[H.out];rfl,rfl⟩
section
variable {w:World} {p:Nat} {a:DA} {l u:Int} {S:DS} {lb:Nat} {c:Cfg} {cnt:Nat} {st:Bool}
theorem jv (h:LW w p a l u S lb c cnt st):
  Calls Tryz.prog 83 #[ptr lb] w fun e w'=>e=.returned (.int .i64 cnt)/\w=w':=by
 have c4:=h.log.cell 4 rfl
 go_enter Tryz.func83,Tryz.ntmps83
 go_wp2
 go_ret
 exact⟨rfl,rfl⟩
theorem vo (h:LW w p a l u S lb c cnt st) (x:Nat) (hx:x<18446744073709551616) (h8:S.now 8=x) (hn:8<a.n):
  Calls Tryz.prog 200 #[ptr lb] w fun e w'=>e=.returned (.int .u64 (epN x))/\w=w':=by
 have c0:=h.log.cell 0 rfl
 have HL:=hid (XM w p a S 8 x h.pw.dev hn h8)
 have HE:=hid (JY w x hx)
 clear h8
 go_enter Tryz.func200,Tryz.ntmps200
 go_wp2_with fail
 refine HL.out.mono ?_
 rintro e w1 ⟨rfl,rfl⟩
 go_wp2_with fail
 refine HE.out.mono ?_
 rintro e w1 ⟨rfl,rfl⟩
 go_wp2_with fail
 go_ret
 exact⟨rfl,rfl⟩
theorem xff (e i:Nat) (he:e<4294967296) (hi:i<1000000):bits .or .u64 ((e:Int)*4294967296) ((i:Int)+1)=(stN e i:Nat):=by
 have j:e*4294967296 ||| (i+1)=e*4294967296+(i+1):=nat_join 32 _ _ (by omega) (by omega)
 rw[show((e:Int)*4294967296)=((e*4294967296:Nat):Int) by omega,show((i:Int)+1)=((i+1:Nat):Int) by omega,u64_or_nat _ _ (by omega) (by omega),j]
 rfl
theorem jZ (h:LW w p a l u S lb c cnt st) (x:Nat) (hx:x<18446744073709551616) (h8:S.now 8=x) (hn:8<a.n) (i:Nat) (hi:i<100000):
  Calls Tryz.prog 225 #[ptr lb,.int .i64 i] w fun e w'=>e=.returned (.int .u64 (stN (epN x) i))/\w=w':=by
 have HE:=hid (vo h x hx h8 hn)
 have he:=xdh x
 have H:=hid (xff (epN x) i he (by omega))
 have heb:(epN x:Int)<4294967296:=by omega
 have hib:(i:Int)<100000:=by omega
 clear h8
 go_enter Tryz.func225,Tryz.ntmps225
 go_wp2_with fail
 refine HE.out.mono ?_
 rintro e w1 ⟨rfl,rfl⟩
 go_wp2_with fail
 go_ret
 exact⟨by rw[<-H.out];rfl,rfl⟩
theorem xck (w:World) (p:Nat) (a:DA) (S:DS) (h:Dev w p a S) (z:Int) (k:Nat) (hz:z=k) (hk:k<a.n):
  Calls Tryz.prog 107 #[ptr a.d,.int .i64 z] w fun e w'=>e=.returned (.int .u64 (S.now k))/\w=w':=by
 subst hz
 exact zn w p a S k h hk
theorem VH (h:LW w p a l u S lb c cnt st) (i j:Nat) (hi:i≤10000) (hj:j≤3) (hn:16+4*i+j<a.n):
  Calls Tryz.prog 190 #[ptr lb,.int .i64 i,.int .i64 j] w fun e w'=>e=.returned (.int .u64 (S.now (16+4*i+j)))/\xe [] w w':=by
 have hib:(i:Int)≤10000:=by omega
 have hjb:(j:Int)≤3:=by omega
 have HS:Hid (∀w',xe [] w w'->(w'.cell? ⟨lb,0,none⟩=some (ptr a.d)/\w'.cell? ⟨lb,1,none⟩=some (.int .i64 c.log)/\w'.cell? ⟨lb,2,none⟩=some (.int .i64 c.roots)/\w'.cell? ⟨lb,3,none⟩=some (.int .i64 c.space)/\xe [] w w')):=fun w' hk=>⟨(hk.at h.log (by simp)).cell 0 rfl,(hk.at h.log (by simp)).cell 1 rfl,(hk.at h.log (by simp)).cell 2 rfl,(hk.at h.log (by simp)).cell 3 rfl,hk⟩
 have k0:xe [] w w.drew:=(xe.refl _ _).drew
 have C1:=hid (fun w'=>wS w' c.log c.roots c.space i hi)
 have LD:=hid (fun(w':World) (hk:xe [] w w') (z:Int) (hz:z=((16+4*i+j:Nat):Int))=>xck w' p a S (h.pw.keep0 hk).dev z (16+4*i+j) hz hn)
 have HW:Hid (IntKind.i64.wrap (((16+4*i:Nat):Int)+(j:Int))=((16+4*i+j:Nat):Int)):=by
  show _=_
  rw[IntWalk.i64_in _ (by omega)]
  omega
 go_enter Tryz.func190,Tryz.ntmps190
 go_upto_region 1 with fail
 go_region_held3 (fun w'=>w'.cell? ⟨lb,0,none⟩=some (ptr a.d)∧w'.cell? ⟨lb,1,none⟩=some (.int .i64 c.log)∧w'.cell? ⟨lb,2,none⟩=some (.int .i64 c.roots)∧w'.cell? ⟨lb,3,none⟩=some (.int .i64 c.space)∧xe [] w w')
  (first|exact HS.out _ k0|exact HS.out _ k1)
  (first|(go_at_call 192;refine(C1.out _).mono ?_;rintro e w1 ⟨rfl,hk1⟩;have k1:=k0.trans hk1)
        |(go_at_call 107;refine(LD.out _ (by assumption) _ (by first|exact HW.out|omega)).mono ?_;rintro e w2 ⟨rfl,rfl⟩))
 go_wp2
 go_ret
 exact⟨rfl,k1⟩
end
theorem xcT (n:Nat) (h:n<9223372036854775808):asInt (n:Int)=(n:Int):=IntWalk.wrap64_in _ (by omega)
section
variable {w:World} {p:Nat} {a:DA} {l u:Int} {S:DS} {lb:Nat} {c:Cfg} {cnt:Nat} {st:Bool}
theorem Jr (h:LW w p a l u S lb c cnt st) (i:Nat) (hi:i≤10000) (hn:17+4*i<a.n):
  Calls Tryz.prog 134 #[ptr lb,.int .i64 i] w fun e w'=>e=.returned (.int .i64 (asInt (S.now (17+4*i))))/\xe [] w w':=by
 have HW:=hid (VH h i 1 hi (by omega) (by omega))
 go_enter Tryz.func134,Tryz.ntmps134
 go_wp2_with fail
 refine HW.out.mono ?_
 rintro e w1 ⟨rfl,hk⟩
 go_wp2_with fail
 go_ret
 exact⟨by rw[show 17+4*i=16+4*i+1 by omega];rfl,hk⟩
def XQ (f:Nat->Int) (e i:Nat):Bool:=f (16+4*i)==((stN e i:Nat):Int)
theorem Zk (h:LW w p a l u S lb c cnt st) (x:Nat) (hx:x<18446744073709551616) (h8:S.now 8=x) (i:Nat) (hi:i≤10000) (hn:16+4*i<a.n):
  Calls Tryz.prog 189 #[ptr lb,.int .i64 i] w fun e w'=>e=.returned (.bool (XQ S.now (epN x) i))/\xe [] w w':=by
 have HW:=hid (VH h i 0 hi (by omega) (by omega))
 have HT:=hid (fun(w':World) (hk:xe [] w w')=>jZ (h.keep0 hk) x hx h8 (by omega) i (by omega))
 clear h8
 go_enter Tryz.func189,Tryz.ntmps189
 go_wp2_with fail
 refine HW.out.mono ?_
 rintro e w1 ⟨rfl,hk⟩
 have HT1:=hid (HT.out w1 hk)
 go_wp2_with fail
 refine HT1.out.mono ?_
 rintro e w2 ⟨rfl,rfl⟩
 go_wp2_with fail
 go_ret
 exact⟨rfl,hk⟩
end
def RanL (p:Nat) (a:DA) (l u:Int) (S:DS) (lb:Nat) (c:Cfg) (cnt:Nat) (st:Bool) (cs:List Cmd) (v:Value) (w:World) (e:Ending) (w':World):Prop:=
 (e=.returned v/\LW w' p a l (u+(cs.length:Int)) (xh S cs) lb c cnt st/\xe [p,a.s,a.k,a.m,lb] w w')\/
 (e=.panicked [{ v:=xP,recovered:=false }]/\(∃S',Cut l u S cs S'/\Pw w' p a l l S')/\xe [p,a.s,a.k,a.m,lb] w w')
theorem yC {p:Nat} {a:DA} {l u u':Int} {S S':DS} {lb:Nat} {c:Cfg} {cnt:Nat} {st:Bool} {cs:List Cmd} {v:Value} {w w':World} (h:LW w' p a l u' S' lb c cnt st) (hu:u'=u+(cs.length:Int)) (hS:S'=xh S cs) (hk:xe [p,a.s,a.k,a.m,lb] w w'):
  RanL p a l u S lb c cnt st cs v w (.returned v) w':=by
 subst hu hS
 exact .inl ⟨rfl,h,hk⟩
theorem xF {p:Nat} {a:DA} {l u:Int} {S S':DS} {lb:Nat} {c:Cfg} {cnt:Nat} {st:Bool} {cs:List Cmd} {v:Value} {w w':World} (h:Pw w' p a l l S') (hc:Cut l u S cs S') (hk:xe [p,a.s,a.k,a.m,lb] w w'):
  RanL p a l u S lb c cnt st cs v w (.panicked [{ v:=xP,recovered:=false }]) w':=
 .inr ⟨rfl,⟨S',hc,h⟩,hk⟩
theorem xe.lg {p:Nat} {a:DA} {lb:Nat} {w w':World} (h:xe [p,a.s,a.k,a.m] w w'):xe [p,a.s,a.k,a.m,lb] w w':=h.mono (by simp;omega)
theorem RanL.free {p:Nat} {a:DA} {u:Int} {S:DS} {lb:Nat} {c:Cfg} {cnt:Nat} {st:Bool} {cs:List Cmd} {v:Value} {w w':World} {e:Ending} (h:RanL p a (-1) u S lb c cnt st cs v w e w') (hu:0≤u):
  e=.returned v/\LW w' p a (-1) (u+(cs.length:Int)) (xh S cs) lb c cnt st/\xe [p,a.s,a.k,a.m,lb] w w':=by
 rcases h with h|⟨_,⟨_,⟨_,_,_,_,_,hl⟩,_⟩,_⟩
 ·exact h
 ·omega
section
variable {w:World} {p:Nat} {a:DA} {l u:Int} {S:DS} {lb:Nat} {c:Cfg} {cnt:Nat} {st:Bool}
theorem yU (h:LW w p a l u S lb c cnt st) (i:Nat) (v:Int) (hi:i<a.n) (hb:u<4611686018427387904):
  Calls Tryz.prog 198 #[ptr lb,.int .i64 i,.int .u64 v] w (RanL p a l u S lb c cnt false [.st i v] (.tuple #[]) w):=by
 have f5:=h.log.free 5
 have c5:=h.log.cell 5 rfl
 have h1:=h.set 5 (.bool false) (cnt':=cnt) (st':=false) (fun _=>rfl)
 have K1:xe [p,a.s,a.k,a.m,lb] w (w.setCell ⟨lb,5,none⟩ (.bool false)):=(xe.refl _ _).set (.inl (by simp)) _
 have HS:=hid (xM _ p a l u S i v h1.pw hi hb)
 have c0:=h1.log.cell 0 rfl
 have c0':=h.log.cell 0 rfl
 go_enter Tryz.func198,Tryz.ntmps198
 go_wp2_with fail
 refine HS.out.mono ?_
 rintro e w2 (⟨rfl,h2,k2⟩|⟨rfl,⟨S',c2,h2⟩,k2⟩)
 ·have h3:=h1.next h2 k2
  go_wp2_with fail
  go_end0
  exact yC h3 rfl rfl (K1.trans k2.lg)
 ·exact⟨rfl,xF h2 c2 (K1.trans k2.lg)⟩
def kpL (i:Nat):List Cmd:=[.fl i,.fe]
theorem wY (h:LW w p a l u S lb c cnt st) (i:Nat) (hi:i<a.n) (hb:u<4611686018427380000):
  Calls Tryz.prog 201 #[ptr lb,.int .i64 i] w (RanL p a l u S lb c cnt true (kpL i) (.tuple #[]) w):=by
 have h0:=h.pw.lo
 have c0:=h.log.cell 0 rfl
 have HS:=hid (yz _ p a l u S i h.pw hi (by omega))
 go_enter Tryz.func201,Tryz.ntmps201
 go_wp2_with fail
 refine HS.out.mono ?_
 rintro e w2 (⟨rfl,h2,k2⟩|⟨rfl,⟨S',c2,h2⟩,k2⟩)
 rotate_left
 ·exact⟨rfl,xF h2 (c2.left [.fe]) k2.lg⟩
 have l2:=h.next h2 k2
 have c0:=l2.log.cell 0 rfl
 go_wp2_with fail
 refine(yR _ p a l _ _ h2 (by simp;omega)).mono ?_
 rintro e w3 (⟨rfl,h3,k3⟩|⟨rfl,⟨S',c3,h3⟩,k3⟩)
 rotate_left
 ·exact⟨rfl,xF h3 (Cut.right (A:=[.fl i]) c3 rfl rfl) (k2.trans k3).lg⟩
 have l3:=l2.next h3 k3
 have c5:=l3.log.cell 5 rfl
 have f5:=l3.log.free 5
 go_wp2_with fail
 go_end0
 exact yC (l3.set 5 (.bool true) (cnt':=cnt) (st':=true) (fun _=>rfl)) (by simp[kpL];omega) rfl ((k2.trans k3).lg.set (.inl (by simp)) _)
end
def setF:Nat->Cmd:=fun k=>.fl (8*(k+1))
def setL (c:Cfg):List Cmd:=rowL setF (c.act/8-1)++ [.fe]
def sL (c:Cfg) (st:Bool):List Cmd:=if st then []else setL c
theorem act8 (c:Cfg):c.act=8*(c.act/8):=by
 have:=(xD (16+4*c.log)).2.2
 have e:c.act=up8 (16+4*c.log):=rfl
 omega
theorem Jg (c:Cfg):(setL c).length=c.act/8-1+1:=by simp[setL,xU]
theorem Zr {c:Cfg} (h:c.Small) (st:Bool):(sL c st).length≤103:=by
 have:=vP h
 unfold sL
 cases st
 ·simp only[Bool.false_eq_true,if_false,Jg];omega
 ·simp
section
variable {w:World} {p:Nat} {a:DA} {l u:Int} {S:DS} {lb:Nat} {c:Cfg} {cnt:Nat} {st:Bool}
theorem WI (h:LW w p a l u S lb c cnt false) (hs:c.Small) (hn:c.act≤a.n) (hb:u<4611686018427380000):
  Calls Tryz.prog 143 #[ptr lb] w (RanL p a l u S lb c cnt true (setL c) (.tuple #[]) w):=by
 have h0:=h.pw.lo
 have c5:=h.log.cell 5 rfl
 have ha:=vP hs
 have h16:16≤c.act:=by have:=(xD (16+4*c.log)).1;have e:c.act=up8 (16+4*c.log):=rfl;omega
 have hai:(c.act:Int)≤823:=by omega
 have A8:=hid (act8 c)
 have HS:=hid hs
 obtain⟨N,hN⟩:∃N,N=c.act/8-1:=⟨_,rfl⟩
 have HN:=hid hN
 have hNb:N≤102:=by omega
 clear hN hs
 go_enter Tryz.func143,Tryz.ntmps143
 go_wp2_with fail
 clear c5
 go_loopg [2] N (fun r s wr=>∃i q:Nat,i+r=N∧q=8*(i+1)∧s=.int .i64 (q:Int)∧LW wr p a l (u+(i:Int)) (xh S (rowL setF i)) lb c cnt false∧xe [p,a.s,a.k,a.m] w wr)
 case atStart=>exact⟨0,8,by omega,rfl,rfl,by simpa[y7,yS]using h,xe.refl _ _⟩
 case round=>
  obtain⟨i,q,hi,hq,rfl,hP,hK⟩:=hrel
  have hq1:(q:Int)≤16000:=by omega
  have c0:=hP.log.cell 0 rfl
  have c1:=hP.log.cell 1 rfl
  have c2:=hP.log.cell 2 rfl
  have c3:=hP.log.cell 3 rfl
  by_cases hlt:i<N
  ·have hqn:q<c.act:=by have:=A8.out;have:=HN.out;omega
   have t0:decide (q<c.act)=true:=by rw[decide_eq_true_eq];exact hqn
   have t1:decide ((q:Int)<(c.act:Int))=true:=by rw[decide_eq_true_eq];omega
   have HQ:=hid hq
   clear hq
   go_wp2_with fail
   refine(xQ _ c HS.out).mono ?_
   rintro e w1 ⟨rfl,hk1⟩
   have hP1:=hP.keep0 hk1
   clear c0 c1 c2 c3
   have c0:=hP1.log.cell 0 rfl
   go_wp2_with fail
   refine(yz w1 p a l _ _ q hP1.pw (by omega) (by omega)).mono ?_
   rintro e w2 (⟨rfl,h2,k2⟩|⟨rfl,⟨S',d2,h2⟩,k2⟩)
   ·go_wp2_with fail
    go_roundg (N-(i+1))
    case measure=>omega
    case rel=>
     refine⟨i+1,q+8,by omega,by have:=HQ.out;omega,by go_num,?_,(hK.trans (hk1.mono (by simp))).trans k2⟩
     refine hP1.next ?_ k2
     have h3:=h2
     rw[<-xg,HQ.out]at h3
     have e:rowL setF (i+1)=rowL setF i++ [Cmd.fl (8*(i+1))]:=yK _ _
     rw[e]
     simpa[Int.add_assoc]using h3
   ·refine⟨rfl,xF h2 ?_ ((hK.trans (hk1.mono (by simp))).trans k2).lg⟩
    rw[HQ.out]at d2
    have:=(Cut.row (f:=setF) d2 hlt).left [Cmd.fe]
    rw[HN.out]at this
    exact this
  ·have hiL:i=N:=by omega
   subst hiL
   have hqn:q=c.act:=by have:=A8.out;have:=HN.out;omega
   have t0:decide (q<c.act)=false:=by rw[decide_eq_false_iff_not];omega
   have t1:decide ((q:Int)<(c.act:Int))=false:=by rw[decide_eq_false_iff_not];omega
   clear hqn hq hi
   go_wp2_with fail
   refine(xQ _ c HS.out).mono ?_
   rintro e w1 ⟨rfl,hk1⟩
   have hP1:=hP.keep0 hk1
   clear c0 c1 c2 c3
   have c0:=hP1.log.cell 0 rfl
   go_wp2_with fail
   refine(yR w1 p a l _ _ hP1.pw (by omega)).mono ?_
   rintro e w2 (⟨rfl,h2,k2⟩|⟨rfl,⟨S',d2,h2⟩,k2⟩)
   ·have l2:=hP1.next h2 k2
    have c5:=l2.log.cell 5 rfl
    have f5:=l2.log.free 5
    go_wp2_with fail
    go_end0
    refine yC (l2.set 5 (.bool true) (cnt':=cnt) (st':=true) (fun _=>rfl)) ?_ ?_ (((hK.trans (hk1.mono (by simp))).trans k2).lg.set (.inl (by simp)) _)
    ·rw[Jg,<-HN.out];simp;omega
    ·rw[setL,xg,<-HN.out]
   ·refine⟨rfl,xF h2 ?_ ((hK.trans (hk1.mono (by simp))).trans k2).lg⟩
    have:=Cut.right (A:=rowL setF i) (B:=[Cmd.fe]) d2 (by rw[xU]) rfl
    rw[HN.out]at this
    exact this
theorem VP (h:LW w p a l u S lb c cnt true):
  Calls Tryz.prog 143 #[ptr lb] w (RanL p a l u S lb c cnt true [] (.tuple #[]) w):=by
 have c5:=h.log.cell 5 rfl
 go_enter Tryz.func143,Tryz.ntmps143
 go_wp2_with fail
 go_end0
 exact yC h (by simp) rfl (xe.refl _ _)
theorem XG (h:LW w p a l u S lb c cnt st) (hs:c.Small) (hn:c.act≤a.n) (hb:u<4611686018427380000):
  Calls Tryz.prog 143 #[ptr lb] w (RanL p a l u S lb c cnt true (sL c st) (.tuple #[]) w):=by
 cases st
 ·exact WI h hs hn hb
 ·exact VP h
end
def clrL (i:Nat):List Cmd:=.st (16+4*i) 0::kpL (16+4*i)
def filL (i:Nat) (pl was:Int):List Cmd:=.st (16+4*i+1) pl:: .st (16+4*i+2) was::kpL (16+4*i)
def seaL (i e:Nat):List Cmd:=.st (16+4*i) (stN e i:Nat)::kpL (16+4*i)
def gL (g:Bool) (i:Nat):List Cmd:=if g then clrL i else []
theorem xe1 (g:Bool) (i:Nat):(gL g i).length≤3:=by unfold gL;cases g<;>simp[clrL,kpL]
theorem xcJ (i:Nat) (pl was:Int):(filL i pl was).length=4:=rfl
section
variable {w:World} {p:Nat} {a:DA} {l u:Int} {S:DS} {lb:Nat} {c:Cfg} {cnt:Nat} {st:Bool}
theorem LW.cells (h:LW w p a l u S lb c cnt st):Hid (∀w',xe [] w w'->(w'.cell? ⟨lb,0,none⟩=some (ptr a.d)/\w'.cell? ⟨lb,1,none⟩=some (.int .i64 c.log)/\w'.cell? ⟨lb,2,none⟩=some (.int .i64 c.roots)/\w'.cell? ⟨lb,3,none⟩=some (.int .i64 c.space)/\w'.cell? ⟨lb,4,none⟩=some (.int .i64 cnt)/\w'.cell? ⟨lb,5,none⟩=some (.bool st)/\xe [] w w')):=
 fun _ hk=>⟨(hk.at h.log (by simp)).cell 0 rfl,(hk.at h.log (by simp)).cell 1 rfl,(hk.at h.log (by simp)).cell 2 rfl,(hk.at h.log (by simp)).cell 3 rfl,(hk.at h.log (by simp)).cell 4 rfl,(hk.at h.log (by simp)).cell 5 rfl,hk⟩
theorem xcI (h:LW w p a l u S lb c cnt st) (x:Nat) (hx:x<18446744073709551616) (h8:S.now 8=x) (hc:cnt≤10000) (hn:16+4*cnt+3<a.n) (i:Nat) (was:Int) (hi:i<18446744073709551616) (g:Bool) (hg:XQ S.now (epN x) cnt=g) (hb:u<4611686018427370000):
  Calls Tryz.prog 238 #[ptr lb,.int .i64 i,.int .u64 was] w (RanL p a l u S lb c cnt true (gL g cnt++filL cnt i was) (.tuple #[]) w):=by
 have h0:=h.pw.lo
 have hcb:(cnt:Int)≤10000:=by omega
 have hib:(i:Int)<18446744073709551616:=by omega
 have HC:=h.cells
 have k0:xe [] w w.drew:=(xe.refl _ _).drew
 have C1:=hid (fun w'=>wS w' c.log c.roots c.space cnt hc)
 have HG:=hid (fun(w':World) (hk:xe [] w w')=>Zk (h.keep0 hk) x hx h8 cnt hc (by omega))
 rw[hg]at HG
 clear hg h8
 go_enter Tryz.func238,Tryz.ntmps238
 go_upto_region 0 with fail
 go_region_held3 (fun w'=>w'.cell? ⟨lb,0,none⟩=some (ptr a.d)∧w'.cell? ⟨lb,1,none⟩=some (.int .i64 c.log)∧w'.cell? ⟨lb,2,none⟩=some (.int .i64 c.roots)∧w'.cell? ⟨lb,3,none⟩=some (.int .i64 c.space)∧w'.cell? ⟨lb,4,none⟩=some (.int .i64 cnt)∧w'.cell? ⟨lb,5,none⟩=some (.bool st)∧xe [] w w')
  (first|exact HC.out _ k0|exact HC.out _ k1)
  (first|(go_at_call 192;refine(C1.out _).mono ?_;rintro e w1 ⟨rfl,hk1⟩;have k1:=k0.trans hk1))
 have hP1:=h.keep0 k1
 have HG1:=hid (HG.out w1 k1)
 have K1:=(k1.mono (by simp):xe [p,a.s,a.k,a.m,lb] w w1)
 have c4:=hP1.log.cell 4 rfl
 clear HC C1 HG hk1 k0
 cases g
 ·go_wp2_with fail
  refine HG1.out.mono ?_
  rintro e w2 ⟨rfl,hk2⟩
  have hP2:=hP1.keep0 hk2
  have K2:=K1.trans (hk2.mono (by simp))
  clear c4
  go_wp2_with fail
  refine(yU hP2 (16+4*cnt+1) i (by omega) (by omega)).mono ?_
  rintro e w3 (⟨rfl,h3,k3⟩|⟨rfl,⟨S',d3,h3⟩,k3⟩)
  rotate_left
  ·exact⟨rfl,xF h3 (d3.left (.st (16+4*cnt+2) was::kpL (16+4*cnt))) (K2.trans k3)⟩
  go_wp2_with fail
  refine(yU h3 (16+4*cnt+2) was (by omega) (by simp;omega)).mono ?_
  rintro e w4 (⟨rfl,h4,k4⟩|⟨rfl,⟨S',d4,h4⟩,k4⟩)
  rotate_left
  ·exact⟨rfl,xF h4 (Cut.right (A:=[.st (16+4*cnt+1) i]) (d4.left (kpL (16+4*cnt))) rfl rfl) ((K2.trans k3).trans k4)⟩
  go_wp2_with fail
  refine(wY h4 (16+4*cnt) (by omega) (by simp;omega)).mono ?_
  rintro e w5 (⟨rfl,h5,k5⟩|⟨rfl,⟨S',d5,h5⟩,k5⟩)
  rotate_left
  ·exact⟨rfl,xF h5 (Cut.right (A:=[.st (16+4*cnt+1) i]) (Cut.right (A:=[.st (16+4*cnt+2) was]) d5 rfl rfl) rfl rfl) (((K2.trans k3).trans k4).trans k5)⟩
  go_wp2_with fail
  go_end0
  exact yC h5 (by simp[gL,filL,kpL];omega) rfl (((K2.trans k3).trans k4).trans k5)
 ·go_wp2_with fail
  refine HG1.out.mono ?_
  rintro e w2 ⟨rfl,hk2⟩
  have hP2:=hP1.keep0 hk2
  have K2:=K1.trans (hk2.mono (by simp))
  clear c4
  go_wp2_with fail
  refine(yU hP2 (16+4*cnt) 0 (by omega) (by omega)).mono ?_
  rintro e w6 (⟨rfl,h6,k6⟩|⟨rfl,⟨S',d6,h6⟩,k6⟩)
  rotate_left
  ·exact⟨rfl,xF h6 (d6.left (kpL (16+4*cnt)++filL cnt i was)) (K2.trans k6)⟩
  go_wp2_with fail
  refine(wY h6 (16+4*cnt) (by omega) (by simp;omega)).mono ?_
  rintro e w7 (⟨rfl,h7,k7⟩|⟨rfl,⟨S',d7,h7⟩,k7⟩)
  rotate_left
  ·exact⟨rfl,xF h7 ((Cut.right (A:=[.st (16+4*cnt) 0]) d7 rfl rfl).left (filL cnt i was)) ((K2.trans k6).trans k7)⟩
  have K7:=(K2.trans k6).trans k7
  have l7:(clrL cnt).length=3:=rfl
  have HL7:=hid l7
  clear k6 k7 K2 l7
  go_wp2_with fail
  refine(yU h7 (16+4*cnt+1) i (by omega) (by simp[kpL];omega)).mono ?_
  rintro e w3 (⟨rfl,h3,k3⟩|⟨rfl,⟨S',d3,h3⟩,k3⟩)
  rotate_left
  ·exact⟨rfl,xF h3 (Cut.right (A:=clrL cnt) (d3.left (.st (16+4*cnt+2) was::kpL (16+4*cnt))) (by simp[clrL,kpL];omega) rfl) (K7.trans k3)⟩
  go_wp2_with fail
  refine(yU h3 (16+4*cnt+2) was (by omega) (by simp[kpL];omega)).mono ?_
  rintro e w4 (⟨rfl,h4,k4⟩|⟨rfl,⟨S',d4,h4⟩,k4⟩)
  rotate_left
  ·exact⟨rfl,xF h4 (Cut.right (A:=clrL cnt) (Cut.right (A:=[.st (16+4*cnt+1) i]) (d4.left (kpL (16+4*cnt))) rfl rfl) (by simp[clrL,kpL];omega) rfl) ((K7.trans k3).trans k4)⟩
  go_wp2_with fail
  refine(wY h4 (16+4*cnt) (by omega) (by simp[kpL];omega)).mono ?_
  rintro e w5 (⟨rfl,h5,k5⟩|⟨rfl,⟨S',d5,h5⟩,k5⟩)
  rotate_left
  ·exact⟨rfl,xF h5 (Cut.right (A:=clrL cnt) (Cut.right (A:=[.st (16+4*cnt+1) i]) (Cut.right (A:=[.st (16+4*cnt+2) was]) d5 rfl rfl) rfl rfl) (by simp[clrL,kpL];omega) rfl) (((K7.trans k3).trans k4).trans k5)⟩
  go_wp2_with fail
  go_end0
  exact yC h5 (by simp[gL,filL,clrL,kpL];omega) rfl (((K7.trans k3).trans k4).trans k5)
theorem xbU (h:LW w p a l u S lb c cnt st) (x:Nat) (hx:x<18446744073709551616) (h8:S.now 8=x) (hc:cnt<10000) (hn:16+4*cnt+3<a.n) (hb:u<4611686018427370000):
  Calls Tryz.prog 239 #[ptr lb] w (RanL p a l u S lb c (cnt+1) true (seaL cnt (epN x)) (.tuple #[]) w):=by
 have h0:=h.pw.lo
 have hcb:(cnt:Int)<10000:=by omega
 have HC:=h.cells
 have k0:xe [] w w.drew:=(xe.refl _ _).drew
 have C1:=hid (fun w'=>wS w' c.log c.roots c.space cnt (by omega))
 have HT:=hid (fun(w':World) (hk:xe [] w w')=>jZ (h.keep0 hk) x hx h8 (by omega) cnt (by omega))
 clear h8
 go_enter Tryz.func239,Tryz.ntmps239
 go_upto_region 0 with fail
 go_region_held3 (fun w'=>w'.cell? ⟨lb,0,none⟩=some (ptr a.d)∧w'.cell? ⟨lb,1,none⟩=some (.int .i64 c.log)∧w'.cell? ⟨lb,2,none⟩=some (.int .i64 c.roots)∧w'.cell? ⟨lb,3,none⟩=some (.int .i64 c.space)∧w'.cell? ⟨lb,4,none⟩=some (.int .i64 cnt)∧w'.cell? ⟨lb,5,none⟩=some (.bool st)∧xe [] w w')
  (first|exact HC.out _ k0|exact HC.out _ k1)
  (first|(go_at_call 192;refine(C1.out _).mono ?_;rintro e w1 ⟨rfl,hk1⟩;have k1:=k0.trans hk1))
 have hP1:=h.keep0 k1
 have HT1:=hid (HT.out w1 k1)
 have K1:=(k1.mono (by simp):xe [p,a.s,a.k,a.m,lb] w w1)
 have c4:=hP1.log.cell 4 rfl
 clear HC C1 HT hk1 k0
 go_wp2_with fail
 refine HT1.out.mono ?_
 rintro e w2 ⟨rfl,rfl⟩
 clear c4
 go_wp2_with fail
 refine(yU hP1 (16+4*cnt) (stN (epN x) cnt:Nat) (by omega) (by omega)).mono ?_
 rintro e w3 (⟨rfl,h3,k3⟩|⟨rfl,⟨S',d3,h3⟩,k3⟩)
 rotate_left
 ·exact⟨rfl,xF h3 (d3.left (kpL (16+4*cnt))) (K1.trans k3)⟩
 have c4:=h3.log.cell 4 rfl
 have f4:=h3.log.free 4
 have h4:=h3.set 4 (.int .i64 ((cnt:Int)+1)) (cnt':=cnt+1) (st':=false) (fun _=>by simp)
 have K4:=(K1.trans k3).set (p:=⟨lb,4,none⟩) (.inl (by simp)) (.int .i64 ((cnt:Int)+1))
 clear h3 k3 K1
 go_wp2_with fail
 refine(wY h4 (16+4*cnt) (by omega) (by simp;omega)).mono ?_
 rintro e w5 (⟨rfl,h5,k5⟩|⟨rfl,⟨S',d5,h5⟩,k5⟩)
 rotate_left
 ·exact⟨rfl,xF h5 (Cut.right (A:=[.st (16+4*cnt) (stN (epN x) cnt:Nat)]) d5 rfl rfl) (K4.trans k5)⟩
 go_wp2_with fail
 go_end0
 exact yC h5 (by simp[seaL,kpL];omega) rfl (K4.trans k5)
end
def appL (c:Cfg) (st g:Bool) (cnt e i:Nat) (was:Int):List Cmd:=sL c st++((gL g cnt++filL cnt i was)++seaL cnt e)
theorem Zs (S:DS):∀n,(xh S (rowL setF n)).now=S.now
 |0=>rfl
 |n+1=>by rw[yK,xg];exact Zs S n
theorem QV (c:Cfg) (st:Bool) (S:DS):(xh S (sL c st)).now=S.now:=by
 cases st
 ·show(xh S (setL c)).now=S.now
  rw[setL,xg]
  exact Zs S _
 ·rfl
section
variable {w:World} {p:Nat} {a:DA} {l u:Int} {S:DS} {lb:Nat} {c:Cfg} {cnt:Nat} {st:Bool}
theorem jS (h:LW w p a l u S lb c cnt st) (i:Nat) (hi:i<a.n) (hc:cnt=c.log):
  Calls Tryz.prog 211 #[ptr lb,.int .i64 i] w fun e w'=>e=.returned (.int .i64 3)/\xe [] w w':=by
 subst hc
 have c0:=h.log.cell 0 rfl
 have c1:=h.log.cell 1 rfl
 have c4:=h.log.cell 4 rfl
 have HL:=hid (zh w p a S h.pw.dev)
 have t0:decide ((i:Int)<0)=false:=by rw[decide_eq_false_iff_not];omega
 have t1:decide ((a.n:Int)≤(i:Int))=false:=by rw[decide_eq_false_iff_not];omega
 have t2:decide (a.n≤i)=false:=by rw[decide_eq_false_iff_not];omega
 clear hi
 go_enter Tryz.func211,Tryz.ntmps211
 go_wp2_with fail
 refine HL.out.mono ?_
 rintro e w1 ⟨rfl,rfl⟩
 go_upto_region 3 with fail
 go_region
 go_wp2_with fail
 go_ret
 exact⟨rfl,(xe.refl _ _).drew⟩
theorem Qm (h:LW w p a l u S lb c cnt st) (hs:c.Small) (x:Nat) (hx:x<18446744073709551616) (h8:S.now 8=x) (hc:cnt<c.log) (hn:c.act≤a.n) (i:Nat) (hi:i<a.n) (g:Bool) (hg:XQ S.now (epN x) cnt=g) (hb:u<4611686018427360000):
  Calls Tryz.prog 211 #[ptr lb,.int .i64 i] w (RanL p a l u S lb c (cnt+1) true (appL c st g cnt (epN x) i (S.now i)) (.int .i64 0) w):=by
 have h0:=h.pw.lo
 have c0:=h.log.cell 0 rfl
 have c1:=h.log.cell 1 rfl
 have c4:=h.log.cell 4 rfl
 have hl200:=hs.2.1
 have hact:16+4*c.log≤c.act:=(xD (16+4*c.log)).1
 have hsl:=Zr hs st
 have hgl:=xe1 g cnt
 have hfew:=h.pw.dev.few
 have hn8:=a.n8
 have hne:((cnt:Int)==(c.log:Int))=false:=by rw[beq_eq_false_iff_ne];omega
 have HL:=hid (zh w p a S h.pw.dev)
 have t0:decide ((i:Int)<0)=false:=by rw[decide_eq_false_iff_not];omega
 have t1:decide ((a.n:Int)≤(i:Int))=false:=by rw[decide_eq_false_iff_not];omega
 have t2:decide (a.n≤i)=false:=by rw[decide_eq_false_iff_not];omega
 have B1:=hid (show cnt≤10000/\cnt<10000/\16+4*cnt+3<a.n/\i<18446744073709551616 by omega)
 have H8:=hid h8
 have HG:=hid hg
 clear h8 hg hl200 hact hfew hn8
 go_enter Tryz.func211,Tryz.ntmps211
 go_wp2_with fail
 refine HL.out.mono ?_
 rintro e w1 ⟨rfl,rfl⟩
 go_upto_region 3 with fail
 go_region
 have hw:=h.keep0 ((xe.refl [] w).drew)
 have K0:xe [p,a.s,a.k,a.m,lb] w w.drew:=(xe.refl _ _).drew
 obtain⟨w0,hw0⟩:∃w0,w0=w.drew:=⟨_,rfl⟩
 rw[<-hw0]at hw K0⊢
 clear hw0 c0 c1 c4 HL
 have c0:=hw.log.cell 0 rfl
 go_wp2_with fail
 refine(zn w0 p a S i hw.pw.dev hi).mono ?_
 rintro e w1 ⟨rfl,rfl⟩
 clear c0
 go_wp2_with fail
 refine(XG hw hs hn (by omega)).mono ?_
 rintro e w2 (⟨rfl,h2,k2⟩|⟨rfl,⟨S',d2,h2⟩,k2⟩)
 rotate_left
 ·exact⟨rfl,xF h2 (d2.left _) (K0.trans k2)⟩
 have e2:=QV c st S
 go_wp2_with fail
 refine(xcI h2 x hx (by rw[e2];exact H8.out) B1.out.1 B1.out.2.2.1 i (S.now i) B1.out.2.2.2 g (by rw[e2];exact HG.out) (by omega)).mono ?_
 rintro e w3 (⟨rfl,h3,k3⟩|⟨rfl,⟨S',d3,h3⟩,k3⟩)
 rotate_left
 ·exact⟨rfl,xF h3 (Cut.right (A:=sL c st) (d3.left _) rfl rfl) ((K0.trans k2).trans k3)⟩
 have e3:(xh (xh S (sL c st)) (gL g cnt++filL cnt i (S.now i))).now 8=x:=by
  rw[xJ]
  ·rw[e2];exact H8.out
  ·intro y hy
   simp only[List.mem_append]at hy
   rcases hy with hy|hy
   ·cases g
    ·simp[gL]at hy
    ·simp[gL,clrL,kpL]at hy
     rcases hy with rfl|rfl|rfl
     ·show 16+4*cnt≠8;omega
     ·trivial
     ·trivial
   ·simp[filL,kpL]at hy
    rcases hy with rfl|rfl|rfl|rfl
    ·show 16+4*cnt+1≠8;omega
    ·show 16+4*cnt+2≠8;omega
    ·trivial
    ·trivial
 go_wp2_with fail
 refine(xbU h3 x hx e3 B1.out.2.1 B1.out.2.2.1 (by simp[xcJ];omega)).mono ?_
 rintro e w4 (⟨rfl,h4,k4⟩|⟨rfl,⟨S',d4,h4⟩,k4⟩)
 rotate_left
 ·exact⟨rfl,xF h4 (Cut.right (A:=sL c st) (Cut.right (A:=gL g cnt++filL cnt i (S.now i)) d4 rfl rfl) rfl rfl) (((K0.trans k2).trans k3).trans k4)⟩
 go_wp2_with fail
 go_ret
 refine yC h4 ?_ ?_ (((K0.trans k2).trans k3).trans k4)
 ·unfold appL;simp only[List.length_append];omega
 ·unfold appL;simp only[xg]
end
def xe8 (p:Nat) (a:DA) (l u:Int) (S:DS) (c:Cfg) (x:Nat) (w:World) (e:Ending) (w':World):Prop:=
 ∃lb m,e=.returned (ptr lb)/\w.heap.size≤lb/\LW w' p a l u S lb c m false/\xe [] w w'/\m≤c.log/\(∀i,i<m->XQ S.now (epN x) i=true)/\(m<c.log->XQ S.now (epN x) m=false)
section
variable {w:World} {p:Nat} {a:DA} {l u:Int} {S:DS} {lb:Nat} {c:Cfg} {cnt:Nat} {st:Bool}
theorem xdN (w:World) (p:Nat) (a:DA) (l u:Int) (S:DS) (c:Cfg) (h:Pw w p a l u S) (hs:c.Small) (x:Nat) (hx:x<18446744073709551616) (h8:S.now 8=x) (hn:c.act<a.n):
  Calls Tryz.prog 132 #[ptr a.d,cfgV c] w (xe8 p a l u S c x w):=by
 have hl200:=hs.2.1
 have hact:16+4*c.log≤c.act:=(xD (16+4*c.log)).1
 have HA:=hid (show 16+4*c.log<a.n/\c.log≤200 by omega)
 have H8:=hid h8
 have hlb:(c.log:Int)≤200:=by omega
 clear h8 hl200 hact hn
 go_enter Tryz.func132,Tryz.ntmps132
 go_wp2_with fail
 go_loopg [] c.log (fun r wr=>∃i:Nat,i+r=c.log∧LW wr p a l u S (w.heap.size+1) c i false∧At wr w.heap.size (cfgO c)∧xe [w.heap.size+1] w wr∧∀j,j<i→XQ S.now (epN x) j=true)
 case atStart=>
  have hB0:=(At.new w (cfgO c)).alloc (logO a.d c 0 false)
  have hL0:=At.new (w.alloc (cfgO c)) (logO a.d c 0 false)
  have K0:=((xe.refl [w.heap.size+1] w).alloc (cfgO c)).alloc (logO a.d c 0 false)
  have hP0:=h.keep0 (((xe.refl [] w).alloc (cfgO c)).alloc (logO a.d c 0 false))
  rw[show(w.alloc (cfgO c)).heap.size=w.heap.size+1 by simp]at hL0
  exact⟨0,by omega,⟨hP0,hL0⟩,hB0,K0,fun j hj=>by omega⟩
 case round=>
  obtain⟨i,hi,hL,hB,hK,hg⟩:=hrel
  have hii:(i:Int)≤200:=by omega
  have hHG:=hid hg
  clear hg
  by_cases hlt:i<c.log
  ·have t0:decide (i<c.log)=true:=by rw[decide_eq_true_eq];exact hlt
   have t1:decide ((i:Int)<(c.log:Int))=true:=by rw[decide_eq_true_eq];omega
   have k0:xe [] wr wr.drew:=(xe.refl _ _).drew
   have HS:Hid (∀w',xe [] wr w'->(w'.cell? ⟨w.heap.size+1,4,none⟩=some (.int .i64 i)/\w'.cell? ⟨w.heap.size,0,none⟩=some (.int .i64 c.log)/\xe [] wr w')):=fun w' hk=>⟨(hk.at hL.log (by simp)).cell 4 rfl,(hk.at hB (by simp)).cell 0 rfl,hk⟩
   have HG:=hid (fun(w':World) (hk:xe [] wr w')=>Zk (hL.keep0 hk) x hx H8.out i (by omega) (by have:=HA.out;omega))
   cases hgb:XQ S.now (epN x) i
   ·rw[hgb]at HG
    have HGB:=hid hgb
    clear hgb
    go_upto_region 2 with fail
    go_region_held3 (fun w'=>w'.cell? ⟨w.heap.size+1,4,none⟩=some (.int .i64 i)∧w'.cell? ⟨w.heap.size,0,none⟩=some (.int .i64 c.log)∧xe [] wr w')
     (first|exact HS.out _ k0|exact HS.out _ k1)
     (first|(go_at_call 189;refine(HG.out _ (by assumption)).mono ?_;rintro e w1 ⟨rfl,hk1⟩;have k1:=k0.trans hk1))
    go_wp2_with fail
    go_ret
    exact⟨w.heap.size+1,i,rfl,by omega,hL.keep0 k1,(hK.trans (k1.mono (by simp))).mono (by intro k hk hm;simp at hm;omega),by omega,hHG.out,fun _=>HGB.out⟩
   ·rw[hgb]at HG
    have HGB:=hid hgb
    clear hgb
    go_upto_region 2 with fail
    go_region_held3 (fun w'=>w'.cell? ⟨w.heap.size+1,4,none⟩=some (.int .i64 i)∧w'.cell? ⟨w.heap.size,0,none⟩=some (.int .i64 c.log)∧xe [] wr w')
     (first|exact HS.out _ k0|exact HS.out _ k1)
     (first|(go_at_call 189;refine(HG.out _ (by assumption)).mono ?_;rintro e w1 ⟨rfl,hk1⟩;have k1:=k0.trans hk1))
    have hL1:=hL.keep0 k1
    have hB1:=k1.at hB (by simp)
    have c4:=hL1.log.cell 4 rfl
    have f4:=hL1.log.free 4
    go_wp2_with fail
    go_roundg (c.log-(i+1))
    case measure=>omega
    case rel=>
     have h2:=hL1.set 4 (.int .i64 ((i:Int)+1)) (cnt':=i+1) (st':=false) (fun _=>by simp)
     refine⟨i+1,by omega,h2,hB1.set_ne (by simp) _,(hK.trans (k1.mono (by simp))).set (.inl (by simp)) _,fun j hj=>?_⟩
     by_cases hji:j=i
     ·subst hji;exact HGB.out
     ·exact hHG.out j (by omega)
  ·have hil:i=c.log:=by omega
   have t0:decide (i<c.log)=false:=by rw[decide_eq_false_iff_not];omega
   have t1:decide ((i:Int)<(c.log:Int))=false:=by rw[decide_eq_false_iff_not];omega
   have c4:=hL.log.cell 4 rfl
   have c5:=hB.cell 0 rfl
   have HIL:=hid hil
   clear hil
   go_upto_region 2 with fail
   go_region
   go_wp2_with fail
   go_ret
   have k1:xe [] wr wr.drew:=(xe.refl _ _).drew
   exact⟨w.heap.size+1,i,rfl,by omega,hL.keep0 k1,(hK.trans (k1.mono (by simp))).mono (by intro k hk hm;simp at hm;omega),by have:=HIL.out;omega,hHG.out,fun hl=>absurd hl hlt⟩
theorem qg (h:LW w p a l u S lb c 0 st):
  Calls Tryz.prog 148 #[ptr lb] w (RanL p a l u S lb c 0 st [] (.tuple #[]) w):=by
 have c4:=h.log.cell 4 rfl
 go_enter Tryz.func148,Tryz.ntmps148
 go_wp2_with fail
 go_end0
 exact yC h (by simp) rfl (xe.refl _ _)
def truL (c:Cfg) (st:Bool) (e:Nat):List Cmd:=sL c st++(.st 8 (epN (e+1):Nat)::kpL 8)
theorem Wz (h:LW w p a l u S lb c cnt st) (hs:c.Small) (x:Nat) (hx:x<18446744073709551616) (h8:S.now 8=x) (hc:0<cnt) (hn:c.act≤a.n) (hn8:8<a.n) (hb:u<4611686018427360000):
  Calls Tryz.prog 148 #[ptr lb] w (RanL p a l u S lb c 0 true (truL c st (epN x)) (.tuple #[]) w):=by
 have h0:=h.pw.lo
 have c4:=h.log.cell 4 rfl
 have hsl:=Zr hs st
 have hne:((cnt:Int)==0)=false:=by rw[beq_eq_false_iff_ne];omega
 have H8:=hid h8
 have he:=xdh x
 have heb:(epN x:Int)<4294967296:=by omega
 clear h8
 go_enter Tryz.func148,Tryz.ntmps148
 go_wp2_with fail
 refine(XG h hs hn (by omega)).mono ?_
 rintro e w2 (⟨rfl,h2,k2⟩|⟨rfl,⟨S',d2,h2⟩,k2⟩)
 rotate_left
 ·exact⟨rfl,xF h2 (d2.left _) k2⟩
 have e2:(xh S (sL c st)).now 8=x:=by rw[QV];exact H8.out
 clear c4
 go_wp2_with fail
 refine(vo h2 x hx e2 hn8).mono ?_
 rintro e w3 ⟨rfl,rfl⟩
 go_wp2_with fail
 refine(JY _ (epN x+1) (by omega)).mono ?_
 rintro e w3 ⟨rfl,rfl⟩
 go_wp2_with fail
 refine(yU h2 8 (epN (epN x+1):Nat) hn8 (by omega)).mono ?_
 rintro e w3 (⟨rfl,h3,k3⟩|⟨rfl,⟨S',d3,h3⟩,k3⟩)
 rotate_left
 ·exact⟨rfl,xF h3 (Cut.right (A:=sL c st) (d3.left (kpL 8)) rfl rfl) (k2.trans k3)⟩
 have c4:=h3.log.cell 4 rfl
 have f4:=h3.log.free 4
 have h4:=h3.set 4 (.int .i64 0) (cnt':=0) (st':=false) (fun _=>by simp)
 have K4:=(k2.trans k3).set (p:=⟨lb,4,none⟩) (.inl (by simp)) (.int .i64 0)
 clear h3 k3 k2
 go_wp2_with fail
 refine(wY h4 8 hn8 (by simp;omega)).mono ?_
 rintro e w5 (⟨rfl,h5,k5⟩|⟨rfl,⟨S',d5,h5⟩,k5⟩)
 rotate_left
 ·exact⟨rfl,xF h5 (Cut.right (A:=sL c st) (Cut.right (A:=[.st 8 (epN (epN x+1):Nat)]) d5 rfl rfl) rfl rfl) (K4.trans k5)⟩
 go_wp2_with fail
 go_end0
 refine yC h5 ?_ ?_ (K4.trans k5)
 ·unfold truL;simp[kpL];omega
 ·unfold truL;rw[xg];rfl
end
def okP (f:Nat->Int) (c:Cfg) (n i:Nat):Prop:=(c.act:Int)≤asInt (f (17+4*i))/\asInt (f (17+4*i))<(n:Int)
def jT (f:Nat->Int) (c:Cfg) (n cnt:Nat) (r:Int):Prop:=(r= -1/\∀i,i<cnt->okP f c n i)\/(∃i:Nat,i<cnt/\r=i/\¬okP f c n i/\∀j,j<i->okP f c n j)
section
variable {w:World} {p:Nat} {a:DA} {l u:Int} {S:DS} {lb:Nat} {c:Cfg} {cnt:Nat} {st:Bool}
theorem xd6 (h:LW w p a l u S lb c cnt st) (hs:c.Small) (hc:cnt≤c.log) (hn:c.act<a.n):
  Calls Tryz.prog 73 #[ptr lb] w fun e w'=>∃r:Int,e=.returned (.int .i64 r)/\xe [] w w'/\jT S.now c a.n cnt r:=by
 have c4:=h.log.cell 4 rfl
 have hl200:=hs.2.1
 have hact:16+4*c.log≤c.act:=(xD (16+4*c.log)).1
 have HA:=hid (show 16+4*c.log<a.n/\c.log≤200 by omega)
 have hcb:(cnt:Int)≤200:=by omega
 have HS:=hid hs
 have HC:=hid hc
 clear hl200 hact hn hs hc
 go_enter Tryz.func73,Tryz.ntmps73
 go_wp2_with fail
 clear c4
 go_loopg [9] cnt (fun r s wr=>∃i:Nat,i+r=cnt∧s=.int .i64 i∧xe [] w wr∧∀j,j<i→okP S.now c a.n j)
 case atStart=>exact⟨0,by omega,rfl,xe.refl _ _,fun j hj=>by omega⟩
 case round=>
  obtain⟨i,hi,rfl,hK,hg⟩:=hrel
  have hG:=hid hg
  clear hg
  have hL:=h.keep0 hK
  by_cases hlt:i<cnt
  ·have c1:=hL.log.cell 1 rfl
   have c2:=hL.log.cell 2 rfl
   have c3:=hL.log.cell 3 rfl
   go_wp2_with fail
   refine(Jr hL i (by have:=HC.out;have:=HA.out;omega) (by have:=HC.out;have:=HA.out;omega)).mono ?_
   rintro e w1 ⟨rfl,hk1⟩
   have hL1:=hL.keep0 hk1
   have K1:=hK.trans hk1
   clear c1 c2 c3
   have c0:=hL1.log.cell 0 rfl
   have c1:=hL1.log.cell 1 rfl
   have c2:=hL1.log.cell 2 rfl
   have c3:=hL1.log.cell 3 rfl
   obtain⟨z,hz⟩:∃z,z=asInt (S.now (17+4*i)):=⟨_,rfl⟩
   rw[<-hz]
   have HZ:=hid hz
   clear hz
   go_wp2_with fail
   refine(xQ _ c HS.out).mono ?_
   rintro e w2 ⟨rfl,hk2⟩
   have hL2:=hL1.keep0 hk2
   have K2:=K1.trans hk2
   clear c0 c1 c2 c3
   have c0:=hL2.log.cell 0 rfl
   by_cases h1:z<(c.act:Int)
   ·have t0:decide (z<(c.act:Int))=true:=by rw[decide_eq_true_eq];exact h1
    go_wp2_with fail
    go_ret
    refine⟨i,rfl,K2,.inr ⟨i,hlt,rfl,?_,hG.out⟩⟩
    rintro⟨h2,_⟩
    rw[<-HZ.out]at h2
    omega
   ·have t0:decide (z<(c.act:Int))=false:=by rw[decide_eq_false_iff_not];exact h1
    by_cases h2:(a.n:Int)≤z
    ·have t1:decide ((a.n:Int)≤z)=true:=by rw[decide_eq_true_eq];exact h2
     have HH2:=hid h2
     clear h1 h2
     go_wp2_with fail
     refine(zh w2 p a S hL2.pw.dev).mono ?_
     rintro e w3 ⟨rfl,rfl⟩
     go_wp2_with fail
     go_ret
     refine⟨i,rfl,K2,.inr ⟨i,hlt,rfl,?_,hG.out⟩⟩
     rintro⟨_,h3⟩
     rw[<-HZ.out]at h3
     have:=HH2.out
     omega
    ·have t1:decide ((a.n:Int)≤z)=false:=by rw[decide_eq_false_iff_not];exact h2
     have HH:=hid (And.intro h1 h2)
     clear h1 h2
     go_wp2_with fail
     refine(zh w2 p a S hL2.pw.dev).mono ?_
     rintro e w3 ⟨rfl,rfl⟩
     go_wp2_with fail
     go_roundg (cnt-(i+1))
     case measure=>omega
     case rel=>
      refine⟨i+1,by omega,by go_num,K2,fun j hj=>?_⟩
      by_cases hji:j=i
      ·subst hji
       unfold okP
       rw[<-HZ.out]
       have:=HH.out
       omega
      ·exact hG.out j (by omega)
  ·have hil:i=cnt:=by omega
   subst hil
   go_wp2_with fail
   go_ret
   exact⟨-1,rfl,hK,.inl ⟨rfl,hG.out⟩⟩
abbrev boxO (lb:Nat):Obj:=.cells #[ptr lb] 111
theorem Zu (w:World) (lb:Nat):
  Calls Tryz.prog 144 #[ptr lb] w fun e w'=>e=.returned (.func (.func 196) #[] #[ptr w.heap.size])/\w.alloc (boxO lb)=w':=by
 go_enter Tryz.func144,Tryz.ntmps144
 go_wp2
 go_ret
 exact⟨rfl,rfl⟩
end
open Go.RowKit Go.OpenShut
structure ZM (Bx lb m:Nat) (pl wd:Nat->Int) (J:Nat->World->Prop):Prop where
 box:∀k W,J k W->At W Bx (boxO lb)
 log:∀k W,J k W->∃(p:Nat) (a:DA) (l u:Int) (S:DS) (c:Cfg) (st:Bool),LW W p a l u S lb c m st/\(∀i,i<m->asInt (S.now (17+4*i))=pl i/\S.now (18+4*i)=wd i)/\16+4*m≤a.n
 keep:∀k W W',J k W->xe [] W W'->J k W'
 few:m≤1000
theorem ZM.place {Bx lb m:Nat} {pl wd:Nat->Int} {J:Nat->World->Prop} (h:ZM Bx lb m pl wd J) (k i:Nat) (hi:i<m) (z:Int) (hz:z=i) (W:World) (hJ:J k W):
  Calls Tryz.prog 134 #[ptr lb,.int .i64 z] W fun e w'=>e=.returned (.int .i64 (pl i))/\xe [] W w':=by
 subst hz
 obtain⟨p,a,l,u,S,c,st,hL,hv,hn⟩:=h.log k W hJ
 have hf:=h.few
 refine(Jr hL i (by omega) (by omega)).mono ?_
 rintro e w' ⟨rfl,hk⟩
 exact⟨by rw[(hv i hi).1],hk⟩
theorem ZM.word {Bx lb m:Nat} {pl wd:Nat->Int} {J:Nat->World->Prop} (h:ZM Bx lb m pl wd J) (k i:Nat) (hi:i<m) (z:Int) (hz:z=i) (W:World) (hJ:J k W):
  Calls Tryz.prog 190 #[ptr lb,.int .i64 z,.int .i64 2] W fun e w'=>e=.returned (.int .u64 (wd i))/\xe [] W w':=by
 subst hz
 obtain⟨p,a,l,u,S,c,st,hL,hv,hn⟩:=h.log k W hJ
 have hf:=h.few
 refine(VH hL i 2 (by omega) (by omega) (by omega)).mono ?_
 rintro e w' ⟨rfl,hk⟩
 refine⟨?_,hk⟩
 rw[<-(hv i hi).2,show 16+4*i+2=18+4*i by omega]
def xeo (J:Nat->World->Prop) (Jx:World->Prop) (m:Nat) (e:Ending) (w':World):Prop:=
 (e=.returned (.tuple #[])/\J m w')\/(e=.panicked [{ v:=xP,recovered:=false }]/\Jx w')
def xcY (J:Nat->World->Prop) (Jx:World->Prop) (k:Nat) (e:Ending) (w':World):Prop:=
 (e=.returned (.bool true)/\J (k+1) w')\/(e=.panicked [{ v:=xP,recovered:=false }]/\Jx w')
theorem xdE (l Bx lb m:Nat) (pl wd:Nat->Int) (J:Nat->World->Prop) (Jx:World->Prop) (h:ZM Bx lb m pl wd J)
  (hY:∀k i W,k<m->i=m-1-k->J k W->YieldAt Fence.wide 3 Tryz.prog l #[.int .i64 (pl i),.int .u64 (wd i)] W (xcY J Jx k)) (W:World) (h0:J 0 W):
  CallsIn Fence.wide 4 Tryz.prog 196 #[.func (.yield l) #[] #[],ptr Bx] W (xeo J Jx m):=by
 have hmix:Tryz.prog.follows .mixedOrders=true:=by kernel_rfl
 have c0:=(h.box 0 W h0).cell 0 rfl
 obtain⟨p,a,l',u,S,c,st,hL,_,_⟩:=h.log 0 W h0
 have c4:=hL.log.cell 4 rfl
 have hf:=h.few
 have hmi:(m:Int)≤1000:=by omega
 have H:=hid h
 have HY:=hid hY
 clear hL hY h hf
 refine callsIn_of_wp Tryz.func196 rfl trivial ?_ rfl
 simp only[Tryz.ntmps196,List.size_toArray,List.length_cons,List.length_nil,Nat.reduceAdd,Nat.reduceSub,Array.replicate_succ,Array.replicate_zero,List.push_toArray,List.append_toArray,List.nil_append,List.cons_append]
 gi_wp2
 clear c0 c4
 gi_loopg [3] m (fun r s wr=>∃k:Nat,∃z:Int,k+r=m/\z=(m:Int)-1-k/\s=.int .i64 z/\J k wr)
 case atStart=>exact⟨0,(m:Int)-1,by omega,by omega,rfl,h0⟩
 case round=>
  obtain⟨k,z,hk,hz,rfl,hJ⟩:=hrel
  by_cases hlt:k<m
  ·obtain⟨i,hi⟩:∃i,i=m-1-k:=⟨_,rfl⟩
   have hzi:z=(i:Int):=by omega
   have him:i<m:=by omega
   have hz0:decide (0≤z)=true:=by rw[decide_eq_true_eq];omega
   have hz1:z≤1000:=by omega
   have hz2:0≤z:=by omega
   have HP:=hid (H.out.place k i him z hzi)
   have HW:=hid (H.out.word k i him z hzi)
   have hJd:=H.out.keep k _ _ hJ ((xe.refl [] wr).drew)
   have cd:=(H.out.box k _ hJd).cell 0 rfl
   have HZ:=hid (And.intro hz (And.intro hk hi))
   clear hz hk hi hzi
   gi_wp2
   gi_region_with_o (first
    |(refine⟨trivial,?_⟩;gi_at_call 134;refine(callsIn_wide.2 (HP.out _ (by assumption))).mono ?_;rintro e W2 ⟨rfl,hk2⟩;have hJ2:=H.out.keep _ _ _ (by assumption) hk2;have cd2:=(H.out.box _ _ hJ2).cell 0 rfl;clear hk2)
    |(refine⟨trivial,?_⟩;gi_at_call 190;refine(callsIn_wide.2 (HW.out _ (by assumption))).mono ?_;rintro e W3 ⟨rfl,hk3⟩;have hJ3:=H.out.keep _ _ _ (by assumption) hk3;clear hk3;obtain⟨fn,tmps,assign,body,hy,hR⟩:=HY.out k i _ hlt HZ.out.2.2 hJ3)
    |(refine hR.mono ?_;rintro e W4 (⟨rfl,hJ4⟩|⟨rfl,hx4⟩);rotate_left;exact⟨rfl,.inr ⟨rfl,hx4⟩⟩))
   all_goals
    gi_wp2
    gi_roundg (m-(k+1))
    case measure=>have:=HZ.out;omega
    case rel=>exact⟨k+1,z-1,by have:=HZ.out;omega,by have:=HZ.out;omega,rfl,hJ4⟩
  ·have hkm:k=m:=by omega
   have hz0:decide (0≤z)=false:=by rw[decide_eq_false_iff_not];omega
   have hzb:z<0:=by omega
   clear hz
   gi_wp2
   go_end0
   exact .inl ⟨rfl,by rw[<-hkm];exact hJ⟩
def xeC (P:Program) (l:Nat) (R:Ending->World->Prop):Exit->Act->World->Prop
 | .normal,_,w=>∃v w',(Instr.endRound l none).run P w=.ok v w'/\R (.returned v) w'
 | .panic chain,a,w=>a.defers= []/\R (.panicked chain) w
 |_,_,_=>False
section
variable {P:Program} {n:Nat}
theorem Q0 {l:Nat} {f:FuncId} {tmps:Array Value} {assign body:Code} {w:World} {R:Ending->World->Prop} (hf:(∃fn,P.funcs[f]? =some fn)\/∀ch w,¬R (.panicked ch) w)
  (h:assign.wpIn (Fence.wide.inRound l) n P (Exit.then (fun a₁ w₁=>∃w₂,(Instr.beginRound l).run P w₁=.ok () w₂/\body.wpIn (Fence.wide.inRound l) n P (xeC P l R) a₁ w₂) (fun _ _ _=>False)) { tmps:=tmps,defers:=[] } w):
  RoundIn Fence.wide n P l f tmps assign body w R:=by
 refine⟨trivial,fun c cs hr=>?_⟩
 let b:Frame:= { (default:Frame)with fn:=f,kind:=.normal,roundOf:=some l }
 have hb0:Frame.round l f tmps assign body .normal=b.atR { tmps:=tmps,defers:=[] } [.code assign,.beginRound,.code body]:=by
  simp[Frame.round,Frame.atR,b]
 obtain⟨e,a₁,w₁,hq,harr⟩:=h b [.beginRound,.code body] (c::cs) rfl trivial (room_wide _)
 rw[<-hb0]at harr
 cases e with
 |normal=>
  obtain⟨w₂,hbr,hbody⟩:=hq
  have s1:StepsIn (Machine.fenced P (Fence.wide.inRound l)) P (lone (b.atR a₁ [.beginRound,.code body]) (c::cs) w₁) (lone (b.atR a₁ [.code body]) (c::cs) w₂):=.one (fenced_wide _ _) (stepR_beginRound rfl hbr)
  obtain⟨e₂,a₂,w₃,hq₂,harr₂⟩:=hbody b [] (c::cs) rfl trivial (room_wide _)
  cases e₂ with
  |normal=>
   obtain⟨v,w₄,hend,hR⟩:=hq₂
   exact⟨.returned v,w₄,hR,(StepsIn.trans harr s1).trans (StepsIn.trans harr₂ (.one (fenced_wide _ _) (stepR_round_end rfl rfl hend)))⟩
  |panic chain=>
   obtain⟨hd,hR⟩:=hq₂
   obtain⟨todo,hs⟩:=harr₂
   replace hf:=hf.resolve_right fun hn=>hn _ _ hR
   refine⟨.panicked chain,w₃,hR,(StepsIn.trans harr s1).trans (StepsIn.trans hs (.one (fenced_wide _ _) (step_leave_panicked ⟨rfl,?_,hf⟩)))⟩
   simpa[Frame.atR]using hd
  |ret=>exact hq₂.elim
  |exit id=>exact hq₂.elim
  |goto t=>exact hq₂.elim
  |outgrown=>exact hq₂.elim
 |exit id=>exact hq.elim
 |goto t=>exact hq.elim
 |ret=>exact hq.elim
 |panic chain=>exact hq.elim
 |outgrown=>exact hq.elim
def WpAt (f:FuncId) (P:Program) (c:Code) (Q:Exit->Act->World->Prop) (a:Act) (w:World):Prop:=
 ∀(b:Frame) (k:List Item) (cs:List Frame),b.fn=f->b.roundOf=none->∃e a' w',Q e a' w'/\ArrivesIn (Machine.fenced P Fence.wide) P (lone (b.atR a (.code c::k)) cs w) b k cs e a' w'
variable {f:FuncId} {Q:Exit->Act->World->Prop} {a:Act} {w:World}
theorem WpAt.of_wp {c:Code} (h:c.wp P Q a w):WpAt f P c Q a w:=
 fun b k cs _ hro=>(wpIn_wide (n:=4)).2 h b k cs hro trivial (room_wide _)
theorem WpAt.seq {x y:Code} (h:WpAt f P x (Exit.then (WpAt f P y Q) Q) a w):WpAt f P (Code.seq x y) Q a w:=by
 intro b k cs hf hro
 have one:StepsIn (Machine.fenced P Fence.wide) P (lone (b.atR a (.code (.seq x y)::k)) cs w) (lone (b.atR a (.code x:: .code y::k)) cs w):=.one (fenced_wide _ _) stepR_seq
 obtain⟨e,a₁,w₁,hq,harr⟩:=h b (.code y::k) cs hf hro
 by_cases he:e=.normal
 ·subst he
  obtain⟨e₂,a₂,w₂,hq₂,harr₂⟩:=hq b k cs hf hro
  exact⟨e₂,a₂,w₂,hq₂,.of_steps (StepsIn.trans one harr) harr₂⟩
 ·have hq':Q e a₁ w₁:=by cases e<;>first|exact hq|exact absurd rfl he
  exact⟨e,a₁,w₁,hq',.of_steps one (.pass (x:=.code y) rfl (fun _ _=>.inl he) harr)⟩
theorem WpAt.block {id:Nat} {c:Code} (h:WpAt f P c (fun e a' w'=>(e=.normal\/∃ch,e=.panic ch)/\Q e a' w') a w):WpAt f P (Code.block id c) Q a w:=by
 intro b k cs hf hro
 have one:StepsIn (Machine.fenced P Fence.wide) P (lone (b.atR a (.code (.block id c)::k)) cs w) (lone (b.atR a (.code c:: .inBlock id::k)) cs w):=.one (fenced_wide _ _) stepR_block
 obtain⟨e,a₁,w₁,⟨he,hq⟩,harr⟩:=h b (.inBlock id::k) cs hf hro
 rcases he with rfl|⟨ch,rfl⟩
 ·exact⟨.normal,a₁,w₁,hq,StepsIn.trans one (StepsIn.trans harr (.one (fenced_wide _ _) stepR_inBlock))⟩
 ·exact⟨.panic ch,a₁,w₁,hq,.of_steps one harr⟩
theorem WpAt.range {g:Operand} {ps:Array Tmp} {assign body:Code} {gf:FuncId} {lb:Array Value} (hg:a.eval g=.func (.func gf) #[] lb) (eg:∀args w,(callFunc gf args).run P w=.ok (.enter gf args) w)
  (h:CallsIn Fence.wide 4 P gf (#[.func (.yield (w.heap.size+1)) #[] #[]]++lb) ((w.alloc (.deferred (some []))).alloc (.loop { state:=.ready,pending:=none,fn:=f,tmps:=a.tmps,params:=ps,assign,body,defers:=w.heap.size }))
    fun e w₃=>match e with
     | .returned _=>∃w₄,(Instr.endLoop (w.heap.size+1)).run P w₃=.ok none w₄/\Q .normal { a with defers:= { target:=.collected w.heap.size,args:=#[] } ::a.defers } w₄
     | .panicked chain=>Q (.panic chain) { a with defers:= { target:=.collected w.heap.size,args:=#[] } ::a.defers } w₃
     | .outgrown=>False):
  WpAt f P (Code.rangeFunc g ps assign body) Q a w:=by
 intro b k cs hf hro
 have he:=run_enterLoop_outer (P:=P) (w:=w) b.fn a.tmps ps assign body
 rw[hf]at he
 have he':(Instr.enterLoop b.fn a.tmps ps assign body b.roundOf).run P w=.ok (w.heap.size+1,[{ target:=.collected w.heap.size,args:=#[] }]) ((w.alloc (.deferred (some []))).alloc (.loop { state:=.ready,pending:=none,fn:=f,tmps:=a.tmps,params:=ps,assign,body,defers:=w.heap.size })):=by
  rw[hro,hf];exact he
 obtain⟨W1,hW1⟩:∃W1,W1=(w.alloc (.deferred (some []))).alloc (.loop { state:=.ready,pending:=none,fn:=f,tmps:=a.tmps,params:=ps,assign,body,defers:=w.heap.size }):=⟨_,rfl⟩
 rw[<-hW1]at he' h
 have hres:(resolve a.eval (rangeCall g (w.heap.size+1)) 0).run P W1=.ok { target:=.fn (.func gf) lb,args:=#[.func (.yield (w.heap.size+1)) #[] #[]] } W1:=by
  simp only[resolve,hg]
  simp[go_sem]
 have hinv:(invoke (.fn (.func gf) lb) #[.func (.yield (w.heap.size+1)) #[] #[]]).run P W1=.ok (.enter gf (#[.func (.yield (w.heap.size+1)) #[] #[]]++lb)) W1:=by
  simp[invoke,go_sem,eg]
 have henter:=stepR_rangeFunc (P:=P) (b:=b) (a:=a) (k:=k) (cs:=cs) (w:=w) he' hres hinv
 obtain⟨e,w₃,fr,hR,hsteps,hfn,hleave⟩:=h.2 (b.atR { a with defers:= { target:=.collected w.heap.size,args:=#[] } ::a.defers } (.inRangeFunc (w.heap.size+1)::k)::cs) (room_wide _)
 cases e with
 |outgrown=>exact hR.elim
 |returned v=>
  obtain⟨w₄,hend,hj⟩:=hR
  refine⟨.normal,_,w₄,hj,.head (fenced_wide _ _) henter (StepsIn.trans hsteps (.head (fenced_wide _ _) (step_leave_returned hleave) ?_))⟩
  rw[finish_atR_inRangeFunc]
  exact .one (fenced_wide _ _) (stepR_endRangeFunc hend)
 |panicked chain=>
  refine⟨.panic chain,_,w₃,hR,.inRangeFunc (w.heap.size+1)::k,.head (fenced_wide _ _) henter (StepsIn.trans hsteps (.one (fenced_wide _ _) ?_))⟩
  rw[<-Frame.raise_atR];exact step_leave_panicked hleave
theorem xZ {fn:Func} {c:Code} {args:Array Value} {R:Ending->World->Prop} (hf:P.funcs[f]? =some fn) (hb:fn.body=some c)
  (h:WpAt f P c (bodyPostM Fence.wide 4 P fn R) { tmps:=args++Array.replicate (fn.ntmps-args.size) undef,defers:=[] } w):Calls P f args w R:=by
 refine(callsIn_wide (n:=4)).1 ⟨trivial,fun cs _=>?_⟩
 let b:Frame:= { (default:Frame)with fn:=f,kind:=.normal,roundOf:=none }
 have henter:Frame.enter P f args .normal=b.atR { tmps:=args++Array.replicate (fn.ntmps-args.size) undef,defers:=[] } [.code c]:=by
  simp[Frame.enter,Frame.atR,hf,hb,b]
 obtain⟨e,a',w',hq,harr⟩:=h b [] cs rfl rfl
 rw[<-henter]at harr
 cases e with
 |normal=>
  obtain⟨e',w'',fr',hR,hs,hfn,hl⟩:=leaves_stepsInM a'.defers .returning w' { b.atR a' []with mode:=.returning } cs rfl rfl rfl hf rfl trivial (room_wide _) hq
  exact⟨e',w'',fr',hR,ComesIn.of_steps (StepsIn.trans harr (.one (fenced_wide _ _) (stepR_end rfl))) hs,hfn,hl⟩
 |ret=>
  obtain⟨todo,hs₀⟩:=harr.1 rfl
  obtain⟨e',w'',fr',hR,hs,hfn,hl⟩:=leaves_stepsInM a'.defers .returning w' { b.atR a' todo with mode:=.returning } cs rfl rfl rfl hf rfl trivial (room_wide _) hq
  exact⟨e',w'',fr',hR,ComesIn.of_steps hs₀ hs,hfn,hl⟩
 |panic chain=>
  obtain⟨todo,hs₀⟩:=harr
  obtain⟨e',w'',fr',hR,hs,hfn,hl⟩:=leaves_stepsInM a'.defers (.panicking chain) w' { b.atR a' todo with mode:=.panicking chain } cs rfl rfl rfl hf rfl trivial (room_wide _) hq
  exact⟨e',w'',fr',hR,ComesIn.of_steps hs₀ hs,hfn,hl⟩
 |exit id=>exact hq.elim
 |goto l=>exact hq.elim
 |outgrown=>exact⟨.outgrown,w',b,hq,harr.resolve_left (by simp[b]),rfl,trivial⟩
end
theorem At.put_same {w:World} {r:Nat} {o:Obj} (o':Obj) (h:At w r o):At (w.putObj r o') r o':=World.putObj_heap_same h.lt
theorem xe.put {T:List Nat} {a b:World} (h:xe T a b) {r:Nat} (hr:r∈T\/a.heap.size≤r) (o:Obj):xe T a (b.putObj r o):=
 ⟨h.os,h.tape,h.output,by rw[World.putObj_size];exact h.size,fun k hk hs=>by
  rw[World.putObj_heap_other (by rintro rfl;rcases hr with hr|hr;exact hs hr;omega)]
  exact h.block k hk hs⟩
theorem Q7 (f:FuncId) (w:World) (tmps:Array Value) (ps:Array Tmp) (assign body:Code) (Bx lb m:Nat) (pl wd:Nat->Int) (I:Nat->World->Prop) (Ix:World->Prop) (T:List Nat) (a₁:Nat->Act) (hT:∀b∈T,b<w.heap.size) (hps:ps.size=2)
  (hf:(∃fn,Tryz.prog.funcs[f]? =some fn)\/∀w,¬Ix w)
  (hbox:∀k W,I k W->At W Bx (boxO lb))
  (hlog:∀k W,I k W->∃(p:Nat) (a:DA) (l u:Int) (S:DS) (c:Cfg) (st:Bool),LW W p a l u S lb c m st/\(∀i,i<m->asInt (S.now (17+4*i))=pl i/\S.now (18+4*i)=wd i)/\16+4*m≤a.n) (hm:m≤1000)
  (hI:∀k W W' T',I k W->xe T' W W'->(∀b∈T',w.heap.size≤b)->I k W')
  (hassign:∀(l i:Nat) (W:World) (K:Act->World->Prop),K (a₁ i) W->assign.wpIn (Fence.wide.inRound l) 3 Tryz.prog (Exit.then K (fun _ _ _=>False)) { tmps:=(ps.zip #[.int .i64 (pl i),.int .u64 (wd i)]).foldl (fun t (p,v)=>t.setIfInBounds p v) tmps,defers:=[] } W)
  (hbody:∀(l k i:Nat) (W:World),k<m->i=m-1-k->I k W->body.wpIn (Fence.wide.inRound l) 3 Tryz.prog (fun e a' W'=>(e=.normal/\I (k+1) W'/\xe T W W')\/(e=.panic [{ v:=xP,recovered:=false }]/\a'.defers= []/\Ix W'/\xe T W W')) (a₁ i) W)
  (h0:I 0 w):
  CallsIn Fence.wide 4 Tryz.prog 196 (#[.func (.yield (w.heap.size+1)) #[] #[]]++#[ptr Bx]) ((w.alloc (.deferred (some []))).alloc (.loop { state:=.ready,pending:=none,fn:=f,tmps,params:=ps,assign,body,defers:=w.heap.size }))
   fun e w₃=>match e with
    | .returned _=>∃w₄,(Instr.endLoop (w.heap.size+1)).run Tryz.prog w₃=.ok none w₄/\I m w₄/\At w₄ w.heap.size (.deferred (some []))
    | .panicked chain=>chain= [{ v:=xP,recovered:=false }]/\Ix w₃/\At w₃ w.heap.size (.deferred (some []))
    | .outgrown=>False:=by
 obtain⟨rec,hrec⟩:∃rec:LoopState->Loop,rec=fun st=> { state:=st,pending:=none,fn:=f,tmps,params:=ps,assign,body,defers:=w.heap.size } :=⟨_,rfl⟩
 obtain⟨W1,hW1⟩:∃W1,W1=(w.alloc (.deferred (some []))).alloc (.loop (rec .ready)):=⟨_,rfl⟩
 have hL1:At W1 (w.heap.size+1) (.loop (rec .ready)):=by
  rw[hW1]
  have:=At.new (w.alloc (.deferred (some []))) (.loop (rec .ready))
  rwa[World.size_alloc]at this
 have hD1:At W1 w.heap.size (.deferred (some [])):=by rw[hW1];exact(At.new w _).alloc _
 have hI1:I 0 W1:=hI 0 w W1 [] h0 (by rw[hW1];exact((xe.refl [] w).alloc _).alloc _) (by simp)
 rw[show(w.alloc (.deferred (some []))).alloc (.loop { state:=.ready,pending:=none,fn:=f,tmps,params:=ps,assign,body,defers:=w.heap.size })=W1 by rw[hW1,hrec]]
 have H:ZM Bx lb m pl wd (fun k W=>I k W/\At W (w.heap.size+1) (.loop (rec .ready))/\At W w.heap.size (.deferred (some []))):= {
  box:=fun k W h=>hbox k W h.1
  log:=fun k W h=>hlog k W h.1
  keep:=fun k W W' h hk=>⟨hI k W W' [] h.1 hk (by simp),hk.at h.2.1 (by simp),hk.at h.2.2 (by simp)⟩
  few:=hm }
 refine(xdE (w.heap.size+1) Bx lb m pl wd _ (fun W=>Ix W/\At W w.heap.size (.deferred (some []))) H ?_ W1 ⟨hI1,hL1,hD1⟩).mono ?_
 ·rintro k i W hk hi ⟨hIk,hL,hD⟩
  have hlt:=hL.lt
  have hy:=run_yield (P:=Tryz.prog) (args:=#[.int .i64 (pl i),.int .u64 (wd i)]) hL (by rw[hrec];exact hps.symm)
  rw[hrec]at hy
  refine⟨f,_,assign,body,hy,Q0 ?_ (hassign _ i W _ ⟨_,run_beginRound hL (by rw[hrec]),?_⟩)⟩
  ·rcases hf with hf|hf
   ·exact .inl hf
   ·refine .inr fun ch w' hr=>?_
    rcases hr with⟨h,_⟩|⟨_,h,_⟩
    ·cases h
    ·exact hf _ h
  ·have kb:xe [w.heap.size+1] W (W.putObj (w.heap.size+1) (.loop { rec .ready with state:=.busy })):=(xe.refl _ _).put (.inl (by simp)) _
   have hLb:=hL.put_same (.loop { rec .ready with state:=.busy })
   have hDb:=kb.at hD (by simp)
   have hIb:=hI k W _ _ hIk kb (by simp)
   refine wpIn_mono (hbody _ k i _ hk hi hIb) ?_
   rintro e a' W' (⟨rfl,hI',hk'⟩|⟨rfl,hd',hx',hk'⟩)
   ·have hLx:=hk'.at hLb (fun hm=>by have:=hT _ hm;omega)
    have hDx:=hk'.at hDb (fun hm=>by have:=hT _ hm;omega)
    have hr:=run_endRound (P:=Tryz.prog) none hLx
    rw[hrec]at hr
    refine⟨_,_,hr,.inl ⟨rfl,?_,?_,?_⟩⟩
    ·exact hI (k+1) W' _ [w.heap.size+1] hI' ((xe.refl _ _).put (.inl (by simp)) _) (by simp)
    ·rw[hrec];exact hLx.put_same _
    ·exact((xe.refl [w.heap.size+1] W').put (.inl (by simp)) _).at hDx (by simp)
   ·exact⟨hd',.inr ⟨rfl,hx',hk'.at hDb (fun hm=>by have:=hT _ hm;omega)⟩⟩
 ·rintro e W2 (⟨rfl,hI2,hL2,hD2⟩|⟨rfl,hx2,hD2⟩)
  ·have hr:=run_endLoop (P:=Tryz.prog) hL2 (by rw[hrec];simp)
   rw[hrec]at hr
   refine⟨_,hr,?_,?_⟩
   ·exact hI m W2 _ [w.heap.size+1] hI2 ((xe.refl _ _).put (.inl (by simp)) _) (by simp)
   ·exact((xe.refl [w.heap.size+1] W2).put (.inl (by simp)) _).at hD2 (by simp)
  ·exact⟨rfl,hx2,hD2⟩
theorem WpAt.seq_k {P:Program} {f:FuncId} {Q:Exit->Act->World->Prop} {a:Act} {w:World} {x y:Code} (h:∀K:Act->World->Prop,(∀a w,WpAt f P y Q a w->K a w)->x.wp P (Exit.then K Q) a w):WpAt f P (Code.seq x y) Q a w:=
 WpAt.seq (.of_wp (h _ fun _ _ h=>h))
def undP (pl:Nat->Nat) (wd:Nat->Int) (m k:Nat):List Cmd:=(List.range k).flatMap fun j=>[.st (pl (m-1-j)) (wd (m-1-j)),.fl (pl (m-1-j))]
theorem QB (pl:Nat->Nat) (wd:Nat->Int) (m:Nat):undP pl wd m 0= []:=rfl
theorem wP (pl:Nat->Nat) (wd:Nat->Int) (m k:Nat):undP pl wd m (k+1)=undP pl wd m k++ [.st (pl (m-1-k)) (wd (m-1-k)),.fl (pl (m-1-k))]:=by
 simp[undP,List.range_succ]
theorem Ya (pl:Nat->Nat) (wd:Nat->Int) (m:Nat):∀k,(undP pl wd m k).length=2*k
 |0=>rfl
 |k+1=>by rw[wP,List.length_append,Ya pl wd m k];simp;omega
theorem qf (pl:Nat->Nat) (wd:Nat->Int) (m:Nat) {k n:Nat} (h:k≤n):∃R,undP pl wd m n=undP pl wd m k++R:=by
 induction n with
 |zero=>obtain rfl:k=0:=by omega
        exact⟨[],by simp⟩
 |succ n ih=>
  rcases Nat.lt_or_ge k (n+1)with h1|h1
  ·obtain⟨R,hR⟩:=ih (by omega)
   exact⟨R++ [.st (pl (m-1-n)) (wd (m-1-n)),.fl (pl (m-1-n))],by rw[wP,hR,List.append_assoc]⟩
  ·obtain rfl:k=n+1:=by omega
   exact⟨[],by simp⟩
theorem Xc {pl:Nat->Nat} {wd:Nat->Int} {m k:Nat} (hk:k≤m) {y:Cmd} (h:y∈undP pl wd m k):∃i,i<m/\(y=.st (pl i) (wd i)\/y=.fl (pl i)):=by
 simp only[undP,List.mem_flatMap,List.mem_range,List.mem_cons,List.not_mem_nil,or_false]at h
 obtain⟨j,hj,h⟩:=h
 exact⟨m-1-j,by omega,h⟩
def undL (c:Cfg) (st:Bool) (pl:Nat->Nat) (wd:Nat->Int) (m e:Nat):List Cmd:=sL c st++(undP pl wd m m++([Cmd.fe]++truL c true e))
theorem QA {l u:Int} {S S':DS} {c:Cfg} {st:Bool} {pl:Nat->Nat} {wd:Nat->Int} {m k e:Nat} (hk:k<m)
  (h:Cut l (u+((sL c st).length:Int)+((undP pl wd m k).length:Int)) (xh (xh S (sL c st)) (undP pl wd m k)) [.st (pl (m-1-k)) (wd (m-1-k)),.fl (pl (m-1-k))] S'):Cut l u S (undL c st pl wd m e) S':=by
 obtain⟨R,hR⟩:=qf pl wd m (show k+1≤m from hk)
 have h1:=Cut.left (Cut.right (A:=undP pl wd m k) (Cut.left h R) rfl rfl) ([Cmd.fe]++truL c true e)
 have e1:undP pl wd m m=undP pl wd m k++([.st (pl (m-1-k)) (wd (m-1-k)),.fl (pl (m-1-k))]++R):=by rw[hR,wP,List.append_assoc]
 rw[<-e1]at h1
 exact Cut.right (A:=sL c st) h1 rfl rfl
section
variable {w:World} {p:Nat} {a:DA} {l u:Int} {S:DS} {lb:Nat} {c:Cfg} {cnt:Nat} {st:Bool}
theorem Qy (h:LW w p a l u S lb c 0 st):
  Calls Tryz.prog 76 #[ptr lb] w (RanL p a l u S lb c 0 st [] (.tuple #[]) w):=by
 have hn:=h.keep0 ((xe.refl [] w).alloc (boxO lb))
 have K0:xe [p,a.s,a.k,a.m,lb] w (w.alloc (boxO lb)):=(xe.refl _ _).alloc _
 have c4:=hn.log.cell 4 rfl
 refine xZ Tryz.func76 rfl ?_
 simp only[Tryz.ntmps76,List.size_toArray,List.length_cons,List.length_nil,Nat.reduceAdd,Nat.reduceSub,Array.replicate_succ,Array.replicate_zero,List.push_toArray,List.append_toArray,List.nil_append,List.cons_append]
 refine WpAt.seq_k fun K hK=>?_
 go_wp2_with fail
 refine WpAt.seq_k fun K hK=>?_
 go_wp2_with fail
 refine⟨.tuple #[],?_,yC hn (by simp) rfl K0⟩
 simp[results,Tryz.results76,go_sem]
theorem xbH (h:LW w p a l u S lb c cnt st) (hs:c.Small) (x:Nat) (hx:x<18446744073709551616) (h8:S.now 8=x) (hc:0<cnt) (hcl:cnt≤c.log) (hn:c.act<a.n) (hb:u<4611686018427350000)
  (pl:Nat->Nat) (wd:Nat->Int) (hr:∀i,i<cnt->S.now (17+4*i)=(pl i:Int)/\S.now (18+4*i)=wd i/\c.act≤pl i/\pl i<a.n):
  Calls Tryz.prog 76 #[ptr lb] w (RanL p a l u S lb c 0 true (undL c st pl wd cnt (epN x)) (.tuple #[]) w):=by
 have h0:=h.pw.lo
 have hl200:=hs.2.1
 have hact:16+4*c.log≤c.act:=(xD (16+4*c.log)).1
 have hsl:=Zr hs st
 have hfew:=h.pw.dev.few
 have hn8:=a.n8
 have hne:((cnt:Int)==0)=false:=by rw[beq_eq_false_iff_ne];omega
 have HB:=hid (show 16+4*cnt≤a.n/\cnt≤1000/\c.act≤a.n/\8<a.n/\cnt≤200 by omega)
 have HA:=hid (show 16+4*cnt≤c.act/\a.n≤17592186044416 by omega)
 have H8:=hid h8
 have HR:=hid hr
 have hn1:=h.keep0 ((xe.refl [] w).alloc (boxO lb))
 have K1:xe [p,a.s,a.k,a.m,lb] w (w.alloc (boxO lb)):=(xe.refl _ _).alloc _
 have hB1:=At.new w (boxO lb)
 have hz1:(w.alloc (boxO lb)).heap.size=w.heap.size+1:=by simp
 have c4:=hn1.log.cell 4 rfl
 have b0:=hB1.cell 0 rfl
 clear h8 hr hl200 hact hfew hn8 hc hcl hn
 refine xZ Tryz.func76 rfl ?_
 simp only[Tryz.ntmps76,List.size_toArray,List.length_cons,List.length_nil,Nat.reduceAdd,Nat.reduceSub,Array.replicate_succ,Array.replicate_zero,List.push_toArray,List.append_toArray,List.nil_append,List.cons_append]
 refine WpAt.seq_k fun K hK=>?_
 go_wp2_with fail
 refine WpAt.seq_k fun K hK=>?_
 go_wp2_with fail
 clear c4
 obtain⟨wa,hwa⟩:∃wa,wa=w.alloc (boxO lb):=⟨_,rfl⟩
 obtain⟨bu,hbu⟩:∃bu,bu=w.heap.size:=⟨_,rfl⟩
 first|rw[<-hwa]at hn1 K1 hB1 hz1 b0⊢|skip
 rw[<-hbu]at hB1 hz1 b0⊢
 have HBU:=hid hbu
 clear hwa hbu
 refine WpAt.seq_k fun K hK=>?_
 go_wp2_with fail
 refine(XG hn1 hs HB.out.2.2.1 (by omega)).mono ?_
 rintro e w2 (⟨rfl,h2,k2⟩|⟨rfl,⟨S',d2,h2⟩,k2⟩)
 rotate_left
 ·exact xF h2 (d2.left _) (K1.trans k2)
 have l1:=h.pw.pow.lt
 have l2:=h.pw.dev.dev.lt
 have l3:=h.pw.dev.now.lt
 have l4:=h.pw.dev.kept.lt
 have l5:=h.pw.dev.map.lt
 have l6:=h.log.lt
 have lz:w.heap.size≤w2.heap.size:=Nat.le_trans K1.size k2.size
 have hB2:=k2.at hB1 (by have:=HBU.out;simp;omega)
 have K2:=K1.trans k2
 have e2:=QV c st S
 obtain⟨S2,hS2⟩:∃S2,S2=xh S (sL c st):=⟨_,rfl⟩
 rw[<-hS2]at h2 e2
 have HS2:=hid hS2
 clear hS2 b0 hB1 K1 k2 hn1
 have b0:=hB2.cell 0 rfl
 go_wp2_with fail
 refine WpAt.seq ?_
 refine WpAt.seq_k fun K hK=>?_
 go_wp2_with fail
 refine(Zu w2 lb).mono ?_
 rintro e w3 ⟨rfl,rfl⟩
 go_wp2_with fail
 clear b0
 have h3:=h2.keep0 ((xe.refl [] w2).alloc (boxO lb))
 have hB3:=hB2.alloc (boxO lb)
 have hX3:=At.new w2 (boxO lb)
 have K3:=K2.alloc (boxO lb)
 have hz3:(w2.alloc (boxO lb)).heap.size=w2.heap.size+1:=by simp
 obtain⟨bx,hbx⟩:∃bx,bx=w2.heap.size:=⟨_,rfl⟩
 obtain⟨w3,hw3⟩:∃w3,w3=w2.alloc (boxO lb):=⟨_,rfl⟩
 rw[<-hw3]at h3 hB3 hX3 K3 hz3
 rw[<-hbx]at hX3 hz3
 first|rw[<-hw3,<-hbx]|(rw[<-hw3])|skip
 refine WpAt.block ?_
 have lz3:w.heap.size≤w3.heap.size:=K3.size
 have hlow:p<w3.heap.size/\a.d<w3.heap.size/\a.s<w3.heap.size/\a.k<w3.heap.size/\a.m<w3.heap.size/\lb<w3.heap.size/\bu<w3.heap.size/\bx<w3.heap.size:=⟨by omega,by omega,by omega,by omega,by omega,by omega,hB3.lt,hX3.lt⟩
 have hsubt:∀b∈[p,a.s,a.k,a.m],b<w3.heap.size:=by
  intro b hb'
  simp at hb'
  omega
 obtain⟨n1,n2,n3,n4,n5⟩:=h3.ne
 have hbuT:bu∉[p,a.s,a.k,a.m]:=by have:=HBU.out;simp;omega
 have hbxT:bx∉[p,a.s,a.k,a.m]:=by have:=HBU.out;simp;omega
 have hlbT:lb∉[p,a.s,a.k,a.m]:=by simp;exact⟨n1,n3,n4,n5⟩
 clear hw3 hbx
 refine WpAt.range (gf:=196) (lb:=#[ptr bx]) rfl (enters_of Tryz.func196 (by kernel_rfl) rfl) ?_
 refine(Q7 _ w3 _ _ _ _ bx lb cnt (fun i=>(pl i:Int)) wd
  (fun k W=>LW W p a l (u+((sL c st).length:Int)+((undP pl wd cnt k).length:Int)) (xh S2 (undP pl wd cnt k)) lb c cnt true/\At W bu (boxO lb)/\At W bx (boxO lb)/\xe [p,a.s,a.k,a.m,lb] w W/\k≤cnt)
  (fun W=>∃S',Cut l u S (undL c st pl wd cnt (epN x)) S'/\Pw W p a l l S'/\xe [p,a.s,a.k,a.m,lb] w W)
  [p,a.s,a.k,a.m]
  (fun i=> { tmps:=#[ptr lb,ptr bu,.int .i64 (pl i),.int .u64 (wd i),ptr lb,.pointer (some { block:=lb,off:=0 }),.pointer (some { block:=lb,off:=4 }),.int .i64 cnt,.bool false,ptr lb,.tuple #[],ptr lb,.func (.func 196) #[] #[ptr bx],.int .i64 (pl i),.int .u64 (wd i),undef,undef,undef,undef,undef,undef,undef,undef,undef,undef,undef,undef,undef,undef,undef,undef,undef,undef,undef,undef],defers:=[] })
  hsubt rfl (.inl ⟨_,Tryz.func76⟩) ?box ?log HB.out.2.1 ?keep ?assign ?body ?start).mono ?after
 case box=>exact fun k W h=>h.2.2.1
 case log=>
  rintro k W ⟨hL,_,_,_,hkc⟩
  refine⟨p,a,l,_,_,c,true,hL,fun i hi=>?_,HB.out.1⟩
  obtain⟨r1,r2,r3,r4⟩:=HR.out i hi
  have hA:=HA.out
  have hoff:∀j,j<c.act->(xh S2 (undP pl wd cnt k)).now j=S.now j:=by
   intro j hj
   rw[xJ,e2]
   intro y hy
   obtain⟨i',hi',rfl|rfl⟩:=Xc hkc hy
   ·have:=(HR.out i' hi').2.2.1
    show pl i'≠j
    omega
   ·trivial
  rw[hoff _ (by omega),hoff _ (by omega),r1,r2]
  exact⟨xcT _ (by omega),rfl⟩
 case keep=>
  rintro k W W' T' ⟨hL,hb1,hb2,hk,hkc⟩ hk' hT'
  have nT:∀b,b<w3.heap.size->b∉T':=fun b hb hm=>by have:=hT' b hm;omega
  exact⟨hL.keep hk' (nT _ hlow.1) (nT _ hlow.2.1) (nT _ hlow.2.2.1) (nT _ hlow.2.2.2.1) (nT _ hlow.2.2.2.2.1) (nT _ hlow.2.2.2.2.2.1),hk'.at hb1 (nT _ hlow.2.2.2.2.2.2.1),hk'.at hb2 (nT _ hlow.2.2.2.2.2.2.2),hk.new hk' fun b hb=>.inr (by have:=hT' b hb;omega),hkc⟩
 case assign=>
  intro l i W K hK
  have hsem:=@Oper.semAt_some
  gi_wp2
  exact hK
 case body=>
  rintro l' k i W hk hi ⟨hL,hb1,hb2,hK,hkc⟩
  have HI:=hid hi
  clear hi
  have hi:i<cnt:=by have:=HI.out;omega
  obtain⟨r1,r2,r3,r4⟩:=HR.out i hi
  have hul:=Ya pl wd cnt k
  have hsl':=hsl
  have hcb:=HB.out.2.2.2.2
  have b0:=hb1.cell 0 rfl
  have c0:=hL.log.cell 0 rfl
  have HS:=hid (xM W p a l _ _ (pl i) (wd i) hL.pw r4 (by omega))
  have HU:=hid hul
  clear r1 r2 r3 hsl' hcb hul hkc
  have hsem:=@Oper.semAt_some
  gi_wp2_with fail
  refine⟨trivial,?_⟩
  refine(CallsIn.inRound l' (callsIn_wide.2 HS.out)).mono ?_
  rintro e W1 (⟨rfl,hP1,hk1⟩|⟨rfl,⟨S',d1,hP1⟩,hk1⟩)
  rotate_left
  ·refine .inr ⟨rfl,rfl,⟨S',QA hk ?_,hP1,hK.trans hk1.lg⟩,hk1⟩
   rw[<-HS2.out,<-HI.out]
   exact d1.left [.fl (pl i)]
  have hL1:=hL.next hP1 hk1
  have hb11:=hk1.at hb1 hbuT
  have hb21:=hk1.at hb2 hbxT
  clear b0 c0 HS
  have b0:=hb11.cell 0 rfl
  have c0:=hL1.log.cell 0 rfl
  have hub:=HU.out
  have hcb:=HB.out.2.2.2.2
  have HS:=hid (yz W1 p a l _ _ (pl i) hP1 r4 (by simp;omega))
  clear hub hcb
  gi_wp2_with fail
  refine⟨trivial,?_⟩
  refine(CallsIn.inRound l' (callsIn_wide.2 HS.out)).mono ?_
  rintro e W2 (⟨rfl,hP2,hk2⟩|⟨rfl,⟨S',d2,hP2⟩,hk2⟩)
  rotate_left
  ·refine .inr ⟨rfl,rfl,⟨S',QA hk ?_,hP2,(hK.trans hk1.lg).trans hk2.lg⟩,hk1.trans hk2⟩
   rw[<-HS2.out,<-HI.out]
   exact Cut.right (A:=[.st (pl i) (wd i)]) d2 rfl rfl
  have hL2:=hL1.next hP2 hk2
  have hb12:=hk2.at hb11 hbuT
  have hb22:=hk2.at hb21 hbxT
  gi_wp2_with fail
  refine⟨⟨?_,(hK.trans hk1.lg).trans hk2.lg,hk⟩,hk1.trans hk2⟩
  rw[wP,<-HI.out,xg,List.length_append]
  have e1:u+((sL c st).length:Int)+(((undP pl wd cnt k).length+ [Cmd.st (pl i) (wd i),.fl (pl i)].length:Nat):Int)=u+((sL c st).length:Int)+((undP pl wd cnt k).length:Int)+(([.st (pl i) (wd i)]:List Cmd).length:Int)+(([.fl (pl i)]:List Cmd).length:Int):=by simp;omega
  rw[e1]
  exact hL2
 case start=>exact⟨by simpa[QB,yS]using h3,hB3,hX3,K3,Nat.zero_le _⟩
 case after=>
  intro e W hr
  cases e with
  |outgrown=>exact hr.elim
  |panicked ch=>
   obtain⟨rfl,⟨S',d1,hP1,hk1⟩,hD⟩:=hr
   refine⟨.inr ⟨_,rfl⟩,?_⟩
   have kd:xe [w3.heap.size] W (W.putObj w3.heap.size (.deferred none)):=(xe.refl _ _).put (.inl (by simp)) _
   refine⟨by simp,.inl ⟨_,_,rfl,run_takeDeferred hD,?_⟩⟩
   exact xF (hP1.keep kd (by simp;omega) (by simp;omega) (by simp;omega) (by simp;omega) (by simp;omega)) d1 (hk1.new kd (by simp;omega))
  |returned v=>
   obtain⟨w4,hend,⟨hL,hb1,hb2,hK,_⟩,hD⟩:=hr
   refine⟨w4,hend,.inl rfl,?_⟩
   have hub:=Ya pl wd cnt cnt
   have hcb:=HB.out.2.2.2.2
   have E8:(xh S2 (undP pl wd cnt cnt)).now 8=x:=by
    rw[xJ,e2]
    ·exact H8.out
    ·intro y hy
     obtain⟨i',hi',rfl|rfl⟩:=Xc (Nat.le_refl _) hy
     ·have:=(HR.out i' hi').2.2.1
      have hA:=HA.out
      show pl i'≠8
      omega
     ·trivial
   have hb3:u+((sL c st).length:Int)+((undP pl wd cnt cnt).length:Int)<4611686018427359000:=by omega
   have HE8:=hid E8
   rw[hz3]at hD
   have hDT:bx+1∉[p,a.s,a.k,a.m]:=by simp;omega
   have hDT2:bx+1∉[p,a.s,a.k,a.m,lb]:=by simp;omega
   have hnt:∀b,b∈[p,a.d,a.s,a.k,a.m,lb]->b∉[bx+1]:=by simp;omega
   have hwb:w.heap.size≤bx+1:=by omega
   have HS:=hid (yR w4 p a l _ _ hL.pw (by omega))
   clear hub hcb E8
   have b0:=hb1.cell 0 rfl
   have c0:=hL.log.cell 0 rfl
   refine WpAt.of_wp ?_
   go_wp2_with fail
   refine HS.out.mono ?_
   rintro e W1 (⟨rfl,hP1,hk1⟩|⟨rfl,⟨S',d1,hP1⟩,hk1⟩)
   rotate_left
   ·have hD1:=hk1.at hD hDT
    have kd:xe [bx+1] W1 (W1.putObj (bx+1) (.deferred none)):=(xe.refl _ _).put (.inl (by simp)) _
    refine⟨by simp,.inl ⟨_,_,rfl,run_takeDeferred hD1,?_⟩⟩
    exact xF (hP1.keep kd (hnt _ (by simp)) (hnt _ (by simp)) (hnt _ (by simp)) (hnt _ (by simp)) (hnt _ (by simp))) (Cut.right (A:=sL c st) (Cut.right (A:=undP pl wd cnt cnt) (d1.left _) rfl rfl) rfl HS2.out) ((hK.trans hk1.lg).new kd (by simp;omega))
   have hD1:=hk1.at hD hDT
   have hL1:=hL.next hP1 hk1
   have hb11:=hk1.at hb1 hbuT
   have K1:=hK.trans hk1.lg
   clear b0 c0 HS hK hk1 hP1
   have b0:=hb11.cell 0 rfl
   have hcp:=HB.out
   go_wp2_with fail
   refine(Wz hL1 hs x hx HE8.out (by have:=hne;rw[beq_eq_false_iff_ne]at this;omega) hcp.2.2.1 hcp.2.2.2.1 (by simp;omega)).mono ?_
   rintro e W2 (⟨rfl,hL2,hk2⟩|⟨rfl,⟨S',d2,hP2⟩,hk2⟩)
   rotate_left
   ·have hD2:=hk2.at hD1 hDT2
    have kd:xe [bx+1] W2 (W2.putObj (bx+1) (.deferred none)):=(xe.refl _ _).put (.inl (by simp)) _
    refine⟨by simp,.inl ⟨_,_,rfl,run_takeDeferred hD2,?_⟩⟩
    exact xF (hP2.keep kd (hnt _ (by simp)) (hnt _ (by simp)) (hnt _ (by simp)) (hnt _ (by simp)) (hnt _ (by simp))) (Cut.right (A:=sL c st) (Cut.right (A:=undP pl wd cnt cnt) (Cut.right (A:=[Cmd.fe]) d2 rfl rfl) rfl rfl) rfl HS2.out) ((K1.trans hk2).new kd (by simp;omega))
   have hD2:=hk2.at hD1 hDT2
   have K2:=K1.trans hk2
   clear hk2 K1 b0
   go_wp2_with fail
   have kd:xe [bx+1] W2 (W2.putObj (bx+1) (.deferred none)):=(xe.refl _ _).put (.inl (by simp)) _
   refine⟨by simp,.inl ⟨_,_,rfl,run_takeDeferred hD2,?_⟩⟩
   refine⟨.tuple #[],?_,?_⟩
   ·simp[results,Tryz.results76,go_sem]
   ·refine yC (hL2.keep kd (hnt _ (by simp)) (hnt _ (by simp)) (hnt _ (by simp)) (hnt _ (by simp)) (hnt _ (by simp)) (hnt _ (by simp))) ?_ ?_ (K2.new kd (by simp;omega))
    ·unfold undL
     simp only[List.length_append,List.length_cons,List.length_nil]
     omega
    ·unfold undL
     rw[xg,xg,xg,<-HS2.out]
end
open Go.RowKit
def All (S:DS) (j:Nat) (q:Int->Prop):Prop:=q (S.now j)/\q (S.kept j)/\(S.is (j/8)=true->q (S.tok j))
theorem All.left {S:DS} {j:Nat} {q:Int->Prop} (h:All S j q) (x:Int):q (leftV S j x):=by
 rcases qI S j x with e|e|⟨e,e2⟩
 ·rw[e];exact h.1
 ·rw[e];exact h.2.1
 ·rw[e2];exact h.2.2 e
theorem All.mono {S:DS} {j:Nat} {q q':Int->Prop} (h:All S j q) (hq:∀x,q x->q' x):All S j q':=⟨hq _ h.1,hq _ h.2.1,fun e=>hq _ (h.2.2 e)⟩
abbrev Fix (S:DS) (j:Nat) (v:Int):Prop:=All S j fun x=>x=v
def Cmd.Sto (j:Nat) (q:Int->Prop):Cmd->Prop
 | .st i v=>i=j->q v
 |_=>True
theorem All.exec {S:DS} {j:Nat} {q:Int->Prop} {c:Cmd} (h:All S j q) (hc:c.Sto j q):All (exec S c) j q:=by
 obtain⟨h1,h2,h3⟩:=h
 cases c with
 |st i v=>
  refine⟨?_,h2,h3⟩
  show q (put S.now i v j)
  unfold put
  by_cases e:j=i
  ·rw[if_pos e];exact hc e.symm
  ·rw[if_neg e];exact h1
 |fl i=>
  refine⟨h1,h2,fun he=>?_⟩
  show q (if j/8=i/8 then S.now j else S.tok j)
  by_cases e:j/8=i/8
  ·rw[if_pos e];exact h1
  ·rw[if_neg e]
   apply h3
   have:put S.is (i/8) true (j/8)=true:=he
   rwa[xI _ _ e]at this
 |fe=>
  refine⟨h1,?_,fun he=>by cases he⟩
  show q (if S.is (j/8)=true then S.tok j else S.kept j)
  by_cases e:S.is (j/8)=true
  ·rw[if_pos e];exact h3 e
  ·rw[if_neg e];exact h2
theorem All.xh {j:Nat} {q:Int->Prop} :∀(cs:List Cmd) {S:DS},All S j q->(∀c∈cs,c.Sto j q)->All (xh S cs) j q
 | [],_,h,_=>h
 |c::cs,S,h,hc=>by
  rw[yV]
  exact All.xh cs (h.exec (hc c List.mem_cons_self)) (fun x hx=>hc x (List.mem_cons_of_mem _ hx))
theorem All.cut {l u:Int} {S S':DS} {cs:List Cmd} {j:Nat} {q:Int->Prop} (h:All S j q) (hc:∀c∈cs,c.Sto j q) (hcut:Cut l u S cs S'):All S' j q:=by
 obtain⟨pre,c,post,rfl,rfl,_⟩:=hcut
 exact h.xh pre fun x hx=>hc x (List.mem_append_left _ hx)
def Pre (S S':DS) (j:Nat):Prop:=∀q:Int->Prop,All S j q->All S' j q
theorem Pre.refl (S:DS) (j:Nat):Pre S S j:=fun _ h=>h
theorem Pre.trans {S S' S'':DS} {j:Nat} (h:Pre S S' j) (h':Pre S' S'' j):Pre S S'' j:=fun q hq=>h' q (h q hq)
theorem Off.sto {c:Cmd} {j:Nat} (h:c.Off j) (q:Int->Prop):c.Sto j q:=by
 cases c with
 |st i v=>exact fun e=>absurd e h
 |fl i=>trivial
 |fe=>trivial
theorem xy {S:DS} {cs:List Cmd} {j:Nat} (h:∀c∈cs,c.Off j):Pre S (xh S cs) j:=fun _ hq=>hq.xh cs fun c hc=>Off.sto (h c hc) _
theorem yD {l u:Int} {S S':DS} {cs:List Cmd} {j:Nat} (h:∀c∈cs,c.Off j) (hcut:Cut l u S cs S'):Pre S S' j:=fun _ hq=>hq.cut (fun c hc=>Off.sto (h c hc) _) hcut
def xz (S:DS) (ch:Nat->Int):DS:= { now:=fun i=>leftV S i (ch i),kept:=fun i=>leftV S i (ch i),tok:=S.tok,is:=fun _=>false }
theorem yF {S:DS} {ch:Nat->Int} {j:Nat} {q:Int->Prop} :All (xz S ch) j q↔q (leftV S j (ch j)):=⟨fun h=>h.1,fun h=>⟨h,h,fun e=>by cases e⟩⟩
theorem xL (S:DS) (ch:Nat->Int) (j:Nat):Pre S (xz S ch) j:=fun _ h=>yF.2 (h.left _)
theorem JQ (S:DS) (i j:Nat) (h:j/8=i/8):Fix (xh S (kpL i)) j (S.now j):=by
 refine⟨rfl,?_,fun e=>by cases e⟩
 show(if put S.is (i/8) true (j/8)=true then(if j/8=i/8 then S.now j else S.tok j)else S.kept j)=S.now j
 rw[h,xO,if_pos rfl,if_pos rfl]
def eN (e0 r:Nat):Nat:=(e0+r)%4294967296
theorem jH (e0 r:Nat):eN e0 r<4294967296:=Nat.mod_lt _ (by omega)
theorem ZB (e0 r:Nat):epN (eN e0 r)=eN e0 r:=Nat.mod_eq_of_lt (jH e0 r)
theorem xbc (e0 r:Nat):epN (eN e0 r+1)=eN e0 (r+1):=by unfold epN eN;omega
theorem xfk (e0:Nat) {r r':Nat} (h:r'<r) (hr:r<4294967296):eN e0 r≠eN e0 r':=by unfold eN;omega
theorem xey {e e' i:Nat} (h:e≠e'):stN e i≠stN e' i:=by unfold stN;omega
def Old (e0 r i:Nat) (x:Int):Prop:=x=0\/∃r',r'<r/\x=(stN (eN e0 r') i:Nat)
theorem Old.ne {e0 r i:Nat} {x:Int} (h:Old e0 r i x) (hr:r<4294967296):x≠(stN (eN e0 r) i:Nat):=by
 rcases h with rfl|⟨r',h1,rfl⟩
 ·unfold stN;omega
 ·have:=xey (i:=i) (xfk e0 h1 hr)
  omega
theorem Old.more {e0 r i:Nat} {x:Int} (h:Old e0 r i x):Old e0 (r+1) i x:=by
 rcases h with h|⟨r',h1,h2⟩
 ·exact .inl h
 ·exact .inr ⟨r',by omega,h2⟩
structure LR (c:Cfg) (n e0 r m:Nat) (pl:Nat->Nat) (wd:Nat->Int) (S:DS):Prop where
 ep:Fix S 8 (eN e0 r:Nat)
 recs:∀i,i<m->Fix S (16+4*i) (stN (eN e0 r) i:Nat)/\Fix S (16+4*i+1) (pl i:Nat)/\Fix S (16+4*i+2) (wd i)/\c.act≤pl i/\pl i<n
 old:∀i,m≤i->i<c.log->All S (16+4*i) (Old e0 r i)
 le:m≤c.log
theorem LR.pre {c:Cfg} {n e0 r m:Nat} {pl:Nat->Nat} {wd:Nat->Int} {S S':DS} (h:LR c n e0 r m pl wd S) (h8:Pre S S' 8) (hr:∀i,i<m->Pre S S' (16+4*i)/\Pre S S' (16+4*i+1)/\Pre S S' (16+4*i+2))
  (ho:∀i,m≤i->i<c.log->Pre S S' (16+4*i)):LR c n e0 r m pl wd S':=
 ⟨h8 _ h.ep,fun i hi=>⟨(hr i hi).1 _ (h.recs i hi).1,(hr i hi).2.1 _ (h.recs i hi).2.1,(hr i hi).2.2 _ (h.recs i hi).2.2.1,(h.recs i hi).2.2.2⟩,fun i h1 h2=>ho i h1 h2 _ (h.old i h1 h2),h.le⟩
theorem LR.grow {c:Cfg} {n e0 r m:Nat} {pl:Nat->Nat} {wd:Nat->Int} {S S':DS} (h:LR c n e0 r m pl wd S) (hm:m<c.log) (hp:∀j,j≠16+4*m->j≠16+4*m+1->j≠16+4*m+2->j<c.act->Pre S S' j)
  {i:Nat} {v:Int} (h1:Fix S' (16+4*m) (stN (eN e0 r) m:Nat)) (h2:Fix S' (16+4*m+1) (i:Nat)) (h3:Fix S' (16+4*m+2) v) (hi:c.act≤i/\i<n):LR c n e0 r (m+1) (put pl m i) (put wd m v) S':=by
 have hact:16+4*c.log≤c.act:=(xD (16+4*c.log)).1
 refine⟨hp 8 (by omega) (by omega) (by omega) (by omega) _ h.ep,fun k hk=>?_,fun k hk1 hk2=>hp _ (by omega) (by omega) (by omega) (by omega) _ (h.old k (by omega) hk2),hm⟩
 by_cases hkm:k=m
 ·subst hkm
  rw[xO,xO]
  exact⟨h1,h2,h3,hi⟩
 ·rw[xI _ _ hkm,xI _ _ hkm]
  obtain⟨a1,a2,a3,a4⟩:=h.recs k (by omega)
  exact⟨hp _ (by omega) (by omega) (by omega) (by omega) _ a1,hp _ (by omega) (by omega) (by omega) (by omega) _ a2,hp _ (by omega) (by omega) (by omega) (by omega) _ a3,a4⟩
theorem LR.next {c:Cfg} {n e0 r m:Nat} {pl:Nat->Nat} {wd:Nat->Int} {S S':DS} (h:LR c n e0 r m pl wd S) (hp:∀j,16≤j->j<c.act->Pre S S' j) (h8:Fix S' 8 (eN e0 (r+1):Nat)) (pl':Nat->Nat) (wd':Nat->Int):LR c n e0 (r+1) 0 pl' wd' S':=by
 have hact:16+4*c.log≤c.act:=(xD (16+4*c.log)).1
 refine⟨h8,fun _ hi=>absurd hi (Nat.not_lt_zero _),fun i _ hi=>hp _ (by omega) (by omega) _ ?_,Nat.zero_le _⟩
 rcases Nat.lt_or_ge i m with h1|h1
 ·exact(h.recs i h1).1.mono fun x hx=>.inr ⟨r,by omega,hx⟩
 ·exact(h.old i h1 hi).mono fun x hx=>hx.more
theorem LR.good {c:Cfg} {n e0 r m:Nat} {pl:Nat->Nat} {wd:Nat->Int} {S:DS} (h:LR c n e0 r m pl wd S) (i:Nat) (hi:i<m):XQ S.now (epN (eN e0 r)) i=true:=by
 rw[ZB]
 unfold XQ
 rw[beq_iff_eq]
 exact(h.recs i hi).1.1
theorem LR.bad {c:Cfg} {n e0 r m:Nat} {pl:Nat->Nat} {wd:Nat->Int} {S:DS} (h:LR c n e0 r m pl wd S) (hr:r<4294967296) (hm:m<c.log):XQ S.now (epN (eN e0 r)) m=false:=by
 rw[ZB]
 unfold XQ
 rw[beq_eq_false_iff_ne]
 exact(h.old m (Nat.le_refl _) hm).1.ne hr
theorem LR.count {c:Cfg} {n e0 r m k:Nat} {pl:Nat->Nat} {wd:Nat->Int} {S:DS} (h:LR c n e0 r m pl wd S) (hr:r<4294967296) (hk:k≤c.log) (h1:∀i,i<k->XQ S.now (epN (eN e0 r)) i=true) (h2:k<c.log->XQ S.now (epN (eN e0 r)) k=false):k=m:=by
 rcases Nat.lt_trichotomy k m with hlt|rfl|hgt
 ·have:=h2 (by have:=h.le;omega)
  rw[h.good k hlt]at this
  cases this
 ·rfl
 ·have:=h1 m hgt
  rw[h.bad hr (by omega)]at this
  cases this
def Und (m:Nat) (pl:Nat->Nat) (wd:Nat->Int) (D:Nat->Int) (S:DS) (j:Nat):Prop:=
 (∃i,i<m/\pl i=j/\wd i=D j/\∀i',i'<i->pl i'≠j)\/((∀i,i<m->pl i≠j)/\Fix S j (D j))
def UD (c:Cfg) (n m:Nat) (pl:Nat->Nat) (wd:Nat->Int) (D:Nat->Int) (S:DS):Prop:=∀j,c.act≤j->j<n->Und m pl wd D S j
theorem UD.pre {c:Cfg} {n m:Nat} {pl:Nat->Nat} {wd:Nat->Int} {D:Nat->Int} {S S':DS} (h:UD c n m pl wd D S) (hp:∀j,c.act≤j->j<n->(∀i,i<m->pl i≠j)->Pre S S' j):UD c n m pl wd D S':=fun j h1 h2=>by
 rcases h j h1 h2 with h3|⟨h3,h4⟩
 ·exact .inl h3
 ·exact .inr ⟨h3,hp j h1 h2 h3 _ h4⟩
theorem UD.grow {c:Cfg} {n m:Nat} {pl:Nat->Nat} {wd:Nat->Int} {D:Nat->Int} {S S':DS} (h:UD c n m pl wd D S) (hp:∀j,c.act≤j->j<n->Pre S S' j) (i:Nat) (hi:c.act≤i/\i<n):UD c n (m+1) (put pl m i) (put wd m (S.now i)) D S':=fun j h1 h2=>by
 rcases h j h1 h2 with⟨k,hk,h3,h4,h5⟩|⟨h3,h4⟩
 ·exact .inl ⟨k,by omega,by rw[xI _ _ (by omega)];exact h3,by rw[xI _ _ (by omega)];exact h4,fun i' hi'=>by rw[xI _ _ (by omega)];exact h5 i' hi'⟩
 ·by_cases hji:j=i
  ·subst hji
   exact .inl ⟨m,by omega,xO _ _ _,by rw[xO];exact h4.1,fun i' hi'=>by rw[xI _ _ (by omega)];exact h3 i' hi'⟩
  ·refine .inr ⟨fun k hk=>?_,hp j h1 h2 _ h4⟩
   by_cases hkm:k=m
   ·subst hkm;rw[xO];exact fun e=>hji e.symm
   ·rw[xI _ _ hkm];exact h3 k (by omega)
theorem zZ {c:Cfg} {st:Bool} {y:Cmd} (h:y∈sL c st) (j:Nat):y.Off j:=by
 cases st
 ·simp only[sL,Bool.false_eq_true,if_false,setL,List.mem_append,List.mem_singleton]at h
  rcases h with h|rfl
  ·obtain⟨i,_,rfl⟩:=yO h
   trivial
  ·trivial
 ·simp[sL]at h
theorem JX {m:Nat} {i v:Int} {y:Cmd} (h:y∈filL m i v) {j:Nat} (h1:j≠16+4*m+1) (h2:j≠16+4*m+2):y.Off j:=by
 simp only[filL,kpL,List.mem_cons,List.not_mem_nil,or_false]at h
 rcases h with rfl|rfl|rfl|rfl
 ·exact fun e=>h1 e.symm
 ·exact fun e=>h2 e.symm
 ·trivial
 ·trivial
theorem Yg {m e:Nat} {y:Cmd} (h:y∈seaL m e) {j:Nat} (h1:j≠16+4*m):y.Off j:=by
 simp only[seaL,kpL,List.mem_cons,List.not_mem_nil,or_false]at h
 rcases h with rfl|rfl|rfl
 ·exact fun e=>h1 e.symm
 ·trivial
 ·trivial
theorem xbN {v:Int} {y:Cmd} (h:y∈Cmd.st 8 v::kpL 8) {j:Nat} (h1:j≠8):y.Off j:=by
 simp only[kpL,List.mem_cons,List.not_mem_nil,or_false]at h
 rcases h with rfl|rfl|rfl
 ·exact fun e=>h1 e.symm
 ·trivial
 ·trivial
theorem zH {c:Cfg} {st:Bool} {e:Nat} {y:Cmd} (h:y∈truL c st e) {j:Nat} (h1:j≠8):y.Off j:=by
 rcases List.mem_append.1 h with h|h
 ·exact zZ h j
 ·exact xbN h h1
theorem Yr {c:Cfg} {st:Bool} {m e i:Nat} {v:Int} {y:Cmd} (h:y∈appL c st false m e i v) {j:Nat} (h0:j≠16+4*m) (h1:j≠16+4*m+1) (h2:j≠16+4*m+2):y.Off j:=by
 simp only[appL,gL,Bool.false_eq_true,if_false,List.nil_append,List.mem_append]at h
 rcases h with h|h|h
 ·exact zZ h j
 ·exact JX h h1 h2
 ·exact Yg h h0
theorem xbb (S:DS) (m:Nat) (i v:Int):Fix (xh S (filL m i v)) (16+4*m+1) i/\Fix (xh S (filL m i v)) (16+4*m+2) v:=by
 have e:filL m i v= [Cmd.st (16+4*m+1) i,.st (16+4*m+2) v]++kpL (16+4*m):=rfl
 rw[e,xg]
 obtain⟨T,hT⟩:∃T,T=xh S [Cmd.st (16+4*m+1) i,.st (16+4*m+2) v]:=⟨_,rfl⟩
 have h1:T.now (16+4*m+1)=i:=by
  rw[hT]
  show put (put S.now (16+4*m+1) i) (16+4*m+2) v (16+4*m+1)=i
  rw[xI _ _ (by omega),xO]
 have h2:T.now (16+4*m+2)=v:=by
  rw[hT]
  show put (put S.now (16+4*m+1) i) (16+4*m+2) v (16+4*m+2)=v
  rw[xO]
 rw[<-hT]
 have k1:=JQ T (16+4*m) (16+4*m+1) (by omega)
 have k2:=JQ T (16+4*m) (16+4*m+2) (by omega)
 rw[h1]at k1
 rw[h2]at k2
 exact⟨k1,k2⟩
theorem xdB (S:DS) (m e:Nat):Fix (xh S (seaL m e)) (16+4*m) (stN e m:Nat):=by
 have e1:seaL m e= [Cmd.st (16+4*m) (stN e m:Nat)]++kpL (16+4*m):=rfl
 rw[e1,xg]
 have k:=JQ (xh S [Cmd.st (16+4*m) (stN e m:Nat)]) (16+4*m) (16+4*m) rfl
 have h1:(xh S [Cmd.st (16+4*m) (stN e m:Nat)]).now (16+4*m)=(stN e m:Nat):=xO _ _ _
 rw[h1]at k
 exact k
section
variable {c:Cfg} {n e0 r m:Nat} {pl:Nat->Nat} {wd:Nat->Int} {D:Nat->Int} {S S':DS} {l u:Int} {st:Bool}
theorem Wp {e i:Nat} {v:Int} {j:Nat} (h0:j≠16+4*m) (h1:j≠16+4*m+1) (h2:j≠16+4*m+2):Pre S (xh S (appL c st false m e i v)) j/\(xh S (appL c st false m e i v)).now j=S.now j:=
 ⟨xy fun _ hy=>Yr hy h0 h1 h2,xJ _ _ fun _ hy=>Yr hy h0 h1 h2⟩
theorem Qn (e i:Nat) (v:Int):Fix (xh S (appL c st false m e i v)) (16+4*m) (stN e m:Nat)/\Fix (xh S (appL c st false m e i v)) (16+4*m+1) i/\Fix (xh S (appL c st false m e i v)) (16+4*m+2) v:=by
 have e1:appL c st false m e i v=(sL c st++filL m i v)++seaL m e:=by simp[appL,gL]
 rw[e1,xg,xg]
 have f:=xbb (xh S (sL c st)) m i v
 refine⟨xdB _ _ _,?_,?_⟩
 ·exact xy (fun _ hy=>Yg hy (by omega)) _ f.1
 ·exact xy (fun _ hy=>Yg hy (by omega)) _ f.2
theorem Wq (h:LR c n e0 r m pl wd S) (hm:m<c.log) (i:Nat) (v:Int) (hi:c.act≤i/\i<n):
  LR c n e0 r (m+1) (put pl m i) (put wd m v) (xh S (appL c st false m (eN e0 r) i v)):=by
 obtain⟨f1,f2,f3⟩:=Qn (c:=c) (m:=m) (S:=S) (st:=st) (eN e0 r) i v
 exact h.grow hm (fun j h0 h1 h2 _=>(Wp h0 h1 h2).1) f1 f2 f3 hi
def LI (c:Cfg) (n e0 r m:Nat) (pl:Nat->Nat) (wd:Nat->Int) (D:Nat->Int) (S:DS):Prop:=LR c n e0 r m pl wd S/\UD c n m pl wd D S
theorem LI.pre (h:LI c n e0 r m pl wd D S) (h0:∀j,j<c.act->Pre S S' j) (hp:∀j,c.act≤j->j<n->(∀i,i<m->pl i≠j)->Pre S S' j):LI c n e0 r m pl wd D S':=by
 have hact:16+4*c.log≤c.act:=(xD (16+4*c.log)).1
 have hle:=h.1.le
 exact⟨h.1.pre (h0 8 (by omega)) (fun i hi=>⟨h0 _ (by omega),h0 _ (by omega),h0 _ (by omega)⟩) (fun i _ hi=>h0 _ (by omega)),h.2.pre hp⟩
theorem xel (h:LI c n e0 r m pl wd D S) (hm:m<c.log) (i:Nat) (hi:c.act≤i/\i<n) (hc:Cut l u S (appL c st false m (eN e0 r) i (S.now i)) S') (ch:Nat->Int):
  LI c n e0 r m pl wd D (xz S' ch)\/LI c n e0 r (m+1) (put pl m i) (put wd m (S.now i)) D (xz S' ch):=by
 have hact:16+4*c.log≤c.act:=(xD (16+4*c.log)).1
 have e1:appL c st false m (eN e0 r) i (S.now i)=(sL c st++filL m i (S.now i))++seaL m (eN e0 r):=by simp[appL,gL]
 rw[e1]at hc
 have off1:∀j,j≠16+4*m+1->j≠16+4*m+2->∀y∈sL c st++filL m i (S.now i),y.Off j:=fun j h1 h2 y hy=>by
  rcases List.mem_append.1 hy with hy|hy
  ·exact zZ hy j
  ·exact JX hy h1 h2
 rcases hc.parts with hc|hc
 ·left
  have hp:∀j,j≠16+4*m+1->j≠16+4*m+2->Pre S (xz S' ch) j:=fun j h1 h2=>(yD (off1 j h1 h2) hc).trans (xL _ _ _)
  exact⟨h.1.pre (hp 8 (by omega) (by omega)) (fun k hk=>⟨hp _ (by omega) (by omega),hp _ (by omega) (by omega),hp _ (by omega) (by omega)⟩) (fun k _ hk=>hp _ (by omega) (by omega)),h.2.pre fun j h1 _ _=>hp _ (by omega) (by omega)⟩
 ·obtain⟨T,hT⟩:∃T,T=xh S (sL c st++filL m i (S.now i)):=⟨_,rfl⟩
  rw[<-hT]at hc
  have f:Fix T (16+4*m+1) i/\Fix T (16+4*m+2) (S.now i):=by rw[hT,xg];exact xbb _ _ _ _
  have hp1:∀j,j≠16+4*m+1->j≠16+4*m+2->Pre S T j:=fun j h1 h2=>by rw[hT];exact xy (off1 j h1 h2)
  have hp2:∀j,j≠16+4*m->Pre T (xz S' ch) j:=fun j h1=>(yD (fun y hy=>Yg hy h1) hc).trans (xL _ _ _)
  have hp:∀j,j≠16+4*m->j≠16+4*m+1->j≠16+4*m+2->Pre S (xz S' ch) j:=fun j h0 h1 h2=>(hp1 j h1 h2).trans (hp2 j h0)
  have ho:All T (16+4*m) (Old e0 r m):=hp1 _ (by omega) (by omega) _ (h.1.old m (Nat.le_refl _) hm)
  have ha:All S' (16+4*m) (fun x=>x=(stN (eN e0 r) m:Nat)\/Old e0 r m x):=by
   refine(ho.mono fun x hx=>.inr hx).cut (fun y hy=>?_) hc
   simp only[seaL,kpL,List.mem_cons,List.not_mem_nil,or_false]at hy
   rcases hy with rfl|rfl|rfl
   ·exact fun _=>.inl rfl
   ·trivial
   ·trivial
  rcases ha.left (ch (16+4*m))with e|e
  ·exact .inr ⟨h.1.grow hm (fun j h0 h1 h2 _=>hp j h0 h1 h2) (yF.2 e) (hp2 _ (by omega) _ f.1) (hp2 _ (by omega) _ f.2) hi,h.2.grow (fun j h1 _=>hp j (by omega) (by omega) (by omega)) i hi⟩
  ·left
   refine⟨⟨hp 8 (by omega) (by omega) (by omega) _ h.1.ep,fun k hk=>?_,fun k h1 h2=>?_,h.1.le⟩,h.2.pre fun j h1 _ _=>hp j (by omega) (by omega) (by omega)⟩
   ·obtain⟨a1,a2,a3,a4⟩:=h.1.recs k hk
    exact⟨hp _ (by omega) (by omega) (by omega) _ a1,hp _ (by omega) (by omega) (by omega) _ a2,hp _ (by omega) (by omega) (by omega) _ a3,a4⟩
   ·by_cases hkm:k=m
    ·subst hkm;exact yF.2 e
    ·exact hp _ (by omega) (by omega) (by omega) _ (h.1.old k h1 h2)
theorem XD (pl:Nat->Nat) (wd:Nat->Int) (m:Nat) (S:DS):∀k,k≤m->∀j,(∃i,m-k≤i/\i<m/\pl i=j)->
  ∃i,m-k≤i/\i<m/\pl i=j/\(∀i',m-k≤i'->i'<i->pl i'≠j)/\(xh S (undP pl wd m k)).now j=wd i/\(xh S (undP pl wd m k)).is (j/8)=true/\(xh S (undP pl wd m k)).tok j=wd i
 |0,_,j,⟨i,h1,h2,_⟩=>by omega
 |k+1,hk,j,⟨i,h1,h2,h3⟩=>by
  have ih:=XD pl wd m S k (by omega) j
  rw[wP,xg]
  generalize xh S (undP pl wd m k)=T at ih⊢
  obtain⟨i0,hi0⟩:∃i0,i0=m-1-k:=⟨_,rfl⟩
  rw[<-hi0]
  by_cases hj:j=pl i0
  ·subst hj
   refine⟨i0,by omega,by omega,rfl,fun i' h4 h5=>by omega,?_,?_,?_⟩
   ·exact xO T.now _ _
   ·exact xO T.is _ _
   ·show(if pl i0/8=pl i0/8 then put T.now (pl i0) (wd i0) (pl i0)else T.tok (pl i0))=wd i0
    rw[if_pos rfl,xO]
  ·have hne:i≠i0:=by rintro rfl;exact hj h3.symm
   obtain⟨i1,a1,a2,a3,a4,a5,a6,a7⟩:=ih ⟨i,by omega,h2,h3⟩
   refine⟨i1,by omega,a2,a3,fun i' h4 h5=>?_,?_,?_,?_⟩
   ·by_cases hi':i'=i0
    ·subst hi';exact fun e=>hj e.symm
    ·exact a4 i' (by omega) h5
   ·exact(xI T.now _ hj).trans a5
   ·show put T.is (pl i0/8) true (j/8)=true
    unfold put
    by_cases e:j/8=pl i0/8
    ·rw[if_pos e]
    ·rw[if_neg e];exact a6
   ·show(if j/8=pl i0/8 then put T.now (pl i0) (wd i0) j else T.tok j)=wd i1
    by_cases e:j/8=pl i0/8
    ·rw[if_pos e,xI _ _ hj];exact a5
    ·rw[if_neg e];exact a7
theorem xbK (h:UD c n m pl wd D S):∀j,c.act≤j->j<n->Fix (xh (xh S (undP pl wd m m)) [.fe]) j (D j):=by
 intro j h1 h2
 rcases h j h1 h2 with⟨i,hi,h3,h4,h5⟩|⟨h3,h4⟩
 ·obtain⟨i1,a1,a2,a3,a4,a5,a6,a7⟩:=XD pl wd m S m (Nat.le_refl _) j ⟨i,by omega,hi,h3⟩
  have:i1=i:=by
   rcases Nat.lt_trichotomy i1 i with hl|he|hg
   ·exact absurd a3 (h5 i1 hl)
   ·exact he
   ·exact absurd h3 (a4 i (by omega) hg)
  subst this
  rw[h4]at a5 a7
  refine⟨a5,?_,fun e=>by cases e⟩
  show(if(xh S (undP pl wd m m)).is (j/8)=true then(xh S (undP pl wd m m)).tok j else(xh S (undP pl wd m m)).kept j)=D j
  rw[if_pos a6,a7]
 ·refine xy (fun y hy=>?_) _ (xy (fun y hy=>?_) _ h4)
  ·simp at hy;subst hy;trivial
  ·obtain⟨i',hi',rfl|rfl⟩:=Xc (Nat.le_refl _) hy
   ·exact h3 i' hi'
   ·trivial
theorem ZR (h:LR c n e0 r m pl wd S) (pl':Nat->Nat) (wd':Nat->Int):LR c n e0 (r+1) 0 pl' wd' (xh S (truL c st (eN e0 r))):=by
 refine h.next (fun j h1 _=>xy fun y hy=>zH hy (by omega)) ?_ _ _
 have e1:truL c st (eN e0 r)=(sL c st++ [Cmd.st 8 (epN (eN e0 r+1):Nat)])++kpL 8:=by simp[truL]
 rw[e1,xg,xg]
 have k:=JQ (xh (xh S (sL c st)) [Cmd.st 8 (epN (eN e0 r+1):Nat)]) 8 8 rfl
 have h1:(xh (xh S (sL c st)) [Cmd.st 8 (epN (eN e0 r+1):Nat)]).now 8=(epN (eN e0 r+1):Nat):=Jy _ _ _
 rw[h1]at k
 rw[xbc]at k⊢
 exact k
theorem xdr (h:LR c n e0 r m pl wd S) (hc:Cut l u S (truL c st (eN e0 r)) S') (ch:Nat->Int) (pl':Nat->Nat) (wd':Nat->Int):LR c n e0 r m pl wd (xz S' ch)\/LR c n e0 (r+1) 0 pl' wd' (xz S' ch):=by
 have hact:16+4*c.log≤c.act:=(xD (16+4*c.log)).1
 have hle:=h.le
 have hp:∀j,j≠8->Pre S (xz S' ch) j:=fun j hj=>(yD (fun y hy=>zH hy hj) hc).trans (xL _ _ _)
 have ha:All S' 8 (fun x=>x=(eN e0 r:Nat)\/x=(eN e0 (r+1):Nat)):=by
  refine(h.ep.mono fun x hx=>.inl hx).cut (fun y hy=>?_) hc
  rcases List.mem_append.1 hy with hy|hy
  ·exact Off.sto (zZ hy 8) _
  ·simp only[kpL,List.mem_cons,List.not_mem_nil,or_false]at hy
   rcases hy with rfl|rfl|rfl
   ·exact fun _=>.inr (by rw[xbc])
   ·trivial
   ·trivial
 rcases ha.left (ch 8)with e|e
 ·left
  refine⟨yF.2 e,fun i hi=>?_,fun i h1 h2=>hp _ (by omega) _ (h.old i h1 h2),h.le⟩
  obtain⟨a1,a2,a3,a4⟩:=h.recs i hi
  exact⟨hp _ (by omega) _ a1,hp _ (by omega) _ a2,hp _ (by omega) _ a3,a4⟩
 ·exact .inr (h.next (fun j h1 _=>hp j (by omega)) (yF.2 e) _ _)
theorem xdp (h:LI c n e0 r m pl wd D S) (hp:∀j,(∀i,i<m->pl i≠j)->Pre S S' j):LI c n e0 r m pl wd D S':=
 h.pre (fun j hj=>hp j fun i hi e=>by have:=(h.1.recs i hi).2.2.2.1;omega) (fun j _ _ h3=>hp j h3)
theorem ZQ {y:Cmd} (hy:y∈sL c st++(undP pl wd m m++ [Cmd.fe])) {j:Nat} (hj:∀i,i<m->pl i≠j):y.Off j:=by
 simp only[List.mem_append,List.mem_singleton]at hy
 rcases hy with hy|hy|rfl
 ·exact zZ hy j
 ·obtain⟨i',hi',rfl|rfl⟩:=Xc (Nat.le_refl _) hy
  ·exact hj i' hi'
  ·trivial
 ·trivial
theorem vw (e:Nat):undL c st pl wd m e=(sL c st++(undP pl wd m m++ [Cmd.fe]))++truL c true e:=by simp[undL]
theorem xbL (h:LI c n e0 r m pl wd D S):LI c n e0 r m pl wd D (xh S (sL c st++(undP pl wd m m++ [Cmd.fe])))/\∀j,c.act≤j->j<n->Fix (xh S (sL c st++(undP pl wd m m++ [Cmd.fe]))) j (D j):=by
 refine⟨xdp h fun j hj=>xy fun y hy=>ZQ hy hj,?_⟩
 rw[xg,xg]
 refine xbK ?_
 exact h.2.pre fun j _ _ _=>xy fun y hy=>zZ hy j
theorem xbJ (h:LI c n e0 r m pl wd D S) (pl':Nat->Nat) (wd':Nat->Int):
  LR c n e0 (r+1) 0 pl' wd' (xh S (undL c st pl wd m (eN e0 r)))/\∀j,c.act≤j->j<n->Fix (xh S (undL c st pl wd m (eN e0 r))) j (D j):=by
 have hact:16+4*c.log≤c.act:=(xD (16+4*c.log)).1
 rw[vw,xg]
 obtain⟨h1,h2⟩:=xbL (st:=st) h
 exact⟨ZR h1.1 _ _,fun j a b=>xy (fun y hy=>zH hy (by omega)) _ (h2 j a b)⟩
theorem LI.none (h:LR c n e0 r 0 pl wd S) (hd:∀j,c.act≤j->j<n->Fix S j (D j)):LI c n e0 r 0 pl wd D S:=⟨h,fun j a b=>.inr ⟨fun _ hi=>absurd hi (Nat.not_lt_zero _),hd j a b⟩⟩
theorem LI.clean (h:LI c n e0 r 0 pl wd D S):∀j,c.act≤j->j<n->Fix S j (D j):=fun j a b=>by
 rcases h.2 j a b with⟨i,hi,_⟩|⟨_,h⟩
 ·exact absurd hi (Nat.not_lt_zero _)
 ·exact h
theorem LI.crash (h:LI c n e0 r m pl wd D S) (ch:Nat->Int):LI c n e0 r m pl wd D (xz S ch):=h.pre (fun _ _=>xL _ _ _) fun _ _ _ _=>xL _ _ _
end
theorem LI.fresh {c:Cfg} {n:Nat} {S:DS} (pl:Nat->Nat) (wd:Nat->Int) (hc:c.Ok) (hn:c.words=n) (hW:X5 c S.now) (hk:∀j,j<n->S.kept j=S.now j) (hi:∀k,S.is k=false):LI c n 1 0 0 pl wd S.now S:=by
 obtain⟨p1,p2,p3,p4⟩:=places hc
 have hf:∀j,j<n->Fix S j (S.now j):=fun j hj=>⟨rfl,hk j hj,fun e=>by rw[hi]at e;cases e⟩
 refine LI.none ⟨?_,fun _ hi=>absurd hi (Nat.not_lt_zero _),fun i _ h2=>?_,Nat.zero_le _⟩ fun j _ hj=>hf j hj
 ·have:=hf 8 (by omega)
  rw[hW.2.2.2.2.1]at this
  exact this
 ·have:=hf (16+4*i) (by omega)
  rw[hW.2.2.2.2.2.1 i h2]at this
  exact this.mono fun x hx=>.inl hx
open Go.RowKit Go.OpenShut
section
variable {w:World} {p:Nat} {a:DA} {l u:Int} {S:DS} {lb:Nat} {c:Cfg} {e0 r m:Nat} {st:Bool} {pl:Nat->Nat} {wd:Nat->Int} {D:Nat->Int}
theorem c_in (hc:c.Ok) (hn:c.words=a.n):c.act<a.n/\8<a.n/\16+4*c.log≤c.act/\c.log≤200/\a.n≤15000:=by
 obtain⟨p1,p2,p3,p4⟩:=places hc
 have hw:=vv hc
 have:=hc.2.2.2.1
 omega
theorem Z6 (h:Pw w p a l u S) (hc:c.Ok) (hn:c.words=a.n) (hL:LR c a.n e0 r m pl wd S) (hr:r<4294967296):
  Calls Tryz.prog 132 #[ptr a.d,cfgV c] w fun e w'=>∃lb,e=.returned (ptr lb)/\w.heap.size≤lb/\LW w' p a l u S lb c m false/\xe [] w w':=by
 have hci:=c_in hc hn
 refine(xdN w p a l u S c h hc.small (eN e0 r) (by have:=jH e0 r;omega) hL.ep.1 hci.1).mono ?_
 rintro e w' ⟨lb,k,rfl,hlb,hW,hk,h1,h2,h3⟩
 obtain rfl:=hL.count hr h1 h2 h3
 exact⟨lb,rfl,hlb,hW,hk⟩
theorem Vz (h:LW w p a l u S lb c m st) (hc:c.Ok) (hn:c.words=a.n) (hL:LR c a.n e0 r m pl wd S) (hr:r<4294967296) (hm:m<c.log) (i:Nat) (hi:i<a.n) (hb:u<4611686018427340000):
  Calls Tryz.prog 211 #[ptr lb,.int .i64 i] w (RanL p a l u S lb c (m+1) true (appL c st false m (eN e0 r) i (S.now i)) (.int .i64 0) w):=by
 have hci:=c_in hc hn
 have:=Qm h hc.small (eN e0 r) (by have:=jH e0 r;omega) hL.ep.1 hm (by omega) i hi false (hL.bad hr hm) (by omega)
 rwa[ZB]at this
theorem Ws (hc:c.Ok) (e i:Nat) (v:Int):(appL c st false m e i v).length≤110:=by
 have:=Zr hc.small st
 simp[appL,gL,filL,seaL,kpL]
 omega
def undS (c:Cfg) (st:Bool) (pl:Nat->Nat) (wd:Nat->Int) (m e:Nat):List Cmd:=if m=0 then []else undL c st pl wd m e
def stS (m:Nat) (st:Bool):Bool:=if m=0 then st else true
def rS (m r:Nat):Nat:=if m=0 then r else r+1
theorem jU (hc:c.Ok) (hm:m≤c.log) (e:Nat):(undS c st pl wd m e).length≤600:=by
 have h1:=Zr hc.small st
 have h2:=hc.2.2.2.1
 have h3:=Ya pl wd m m
 unfold undS
 by_cases h0:m=0
 ·rw[if_pos h0];simp
 ·rw[if_neg h0]
  simp[undL,truL,kpL,sL,h3]at h1⊢
  omega
theorem VK (h:LW w p a l u S lb c m st) (hc:c.Ok) (hn:c.words=a.n) (hL:LR c a.n e0 r m pl wd S) (hb:u<4611686018427340000):
  Calls Tryz.prog 76 #[ptr lb] w (RanL p a l u S lb c 0 (stS m st) (undS c st pl wd m (eN e0 r)) (.tuple #[]) w):=by
 have hci:=c_in hc hn
 unfold undS stS
 by_cases h0:m=0
 ·subst h0
  rw[if_pos rfl,if_pos rfl]
  exact Qy h
 ·rw[if_neg h0,if_neg h0]
  have:=xbH h hc.small (eN e0 r) (by have:=jH e0 r;omega) hL.ep.1 (by omega) hL.le hci.1 (by omega) pl wd (fun i hi=>?_)
  ·rwa[ZB]at this
  ·obtain⟨_,a2,a3,a4,a5⟩:=hL.recs i hi
   refine⟨?_,?_,a4,a5⟩
   ·rw[show 17+4*i=16+4*i+1 by omega];exact a2.1
   ·rw[show 18+4*i=16+4*i+2 by omega];exact a3.1
theorem Ww {n:Nat} (h:LI c n e0 r m pl wd D S):LI c n e0 (rS m r) 0 pl wd D (xh S (undS c st pl wd m (eN e0 r))):=by
 unfold undS rS
 by_cases h0:m=0
 ·subst h0
  rw[if_pos rfl,if_pos rfl]
  exact h
 ·rw[if_neg h0,if_neg h0]
  obtain⟨h1,h2⟩:=xbJ (st:=st) h pl wd
  exact LI.none h1 h2
theorem xbM (h:LW w p a l u S lb c m st) (hc:c.Ok) (hn:c.words=a.n) (hL:LR c a.n e0 r m pl wd S) (hb:u<4611686018427340000):
  Calls Tryz.prog 148 #[ptr lb] w (RanL p a l u S lb c 0 (stS m st) (if m=0 then []else truL c st (eN e0 r)) (.tuple #[]) w):=by
 have hci:=c_in hc hn
 unfold stS
 by_cases h0:m=0
 ·subst h0
  rw[if_pos rfl,if_pos rfl]
  exact qg h
 ·rw[if_neg h0,if_neg h0]
  have:=Wz h hc.small (eN e0 r) (by have:=jH e0 r;omega) hL.ep.1 (by omega) (by omega) hci.2.1 (by omega)
  rwa[ZB]at this
end
theorem WL (b:Nat) (w:World):(binOp .eql 197 (.func (.func 196) #[] #[ptr b]) .nilFunc).run Tryz.prog w=.ok (.bool false) w:=by
 kernel_rfl
theorem Qg (w:World):Calls Tryz.prog 256 #[] w fun e w'=>e=.returned (.bool true)/\Below w.heap.size w w':=by
 go_enter Tryz.func256,Tryz.ntmps256
 go_wp2_with fail
 refine(Qh _).mono ?_
 rintro e w1 ⟨rfl,hb1⟩
 have K1:xe [] w w1:=Go.Proofs.YtcdhklgahepcaaaGreat.Below.keeps hb1 []
 clear hb1
 go_wp2_with fail
 have hC2:At (w1.alloc (.cells #[.int .i64 3,.int .i64 1,.int .i64 8] 36)) w1.heap.size (cfgO exC):=At.new w1 (cfgO exC)
 have K2:=K1.alloc (.cells #[.int .i64 3,.int .i64 1,.int .i64 8] 36)
 have hz2:w.heap.size≤w1.heap.size:=K1.size
 refine(X0 _ exC xX none 0 0 (fun _=>0) (.inl rfl) (by omega)).mono ?_
 rintro e w3 ⟨p,a,u,S,rfl,hn,hP3,hu,hW,hkp,his,⟨b1,b2,b3,b4,b5⟩,hk3⟩
 simp only[World.size_alloc]at b1 b2 b3 b4 b5
 have hC3:=hk3.at hC2 (by simp)
 have K3:=K2.trans hk3
 have hLI:=LI.fresh (fun _=>0) (fun _=>0) xX hn hW hkp his
 have hn56:a.n=56:=by rw[<-hn,vk]
 have HN:=hid hn
 have HLI:=hid hLI
 have HN56:=hid hn56
 clear hn hn56 hLI hW hkp his hC2 hk3 K2 K1
 have c0:w3.cell? ⟨w1.heap.size,0,none⟩=some (.int .i64 3):=hC3.cell 0 rfl
 have c1:w3.cell? ⟨w1.heap.size,1,none⟩=some (.int .i64 1):=hC3.cell 1 rfl
 have c2:w3.cell? ⟨w1.heap.size,2,none⟩=some (.int .i64 8):=hC3.cell 2 rfl
 go_wp2_with fail
 refine(Z6 hP3 xX HN.out HLI.out.1 (by omega)).mono ?_
 rintro e w4 ⟨lb,rfl,hlb,hL4,hk4⟩
 have hC4:=hk4.at hC3 (by simp)
 have K4:=K3.trans hk4
 have hz3:=K3.size
 clear c0 c1 c2 hC3 K3 hk4 hP3
 go_wp2_with fail
 refine(Vz hL4 xX HN.out HLI.out.1 (by omega) (by decide) 40 (by have:=HN56.out;omega) (by omega)).mono ?_
 intro e w5 hr5
 obtain⟨rfl,hL5,hk5⟩:=hr5.free hL4.pw.lo
 clear hr5
 have HL5:=hid (Wq (st:=false) HLI.out.1 (by decide) 40 (S.now 40) (by have:=HN56.out;exact⟨by decide,by omega⟩))
 have hC5:=hk5.at hC4 (by
  have h1:=hC4.lt
  have n1:=hL4.pw.dev
  have q1:w1.heap.size≠p:=xY hC4 hL4.pw.pow (by decide)
  have q2:w1.heap.size≠a.s:=xY hC4 n1.now (by decide)
  have q3:w1.heap.size≠a.k:=xY hC4 n1.kept (by decide)
  have q4:w1.heap.size≠a.m:=by omega
  have q5:w1.heap.size≠lb:=xY hC4 hL4.log (by decide)
  simp only[List.mem_cons,List.not_mem_nil,or_false,not_or]
  exact⟨q1,q2,q3,q4,q5⟩)
 have K5:xe [] w w5:=K4.new hk5 (by simp;omega)
 clear hC4 K4 hk5
 go_wp2_with fail
 refine(Zu w5 lb).mono ?_
 rintro e w6 ⟨rfl,rfl⟩
 have hnf:=WL w5.heap.size
 have hL6:=hL5.keep0 ((xe.refl [] w5).alloc (boxO lb))
 have hC6:=hC5.alloc (boxO lb)
 have K6:=K5.alloc (boxO lb)
 have c0:(w5.alloc (boxO lb)).cell? ⟨w1.heap.size,0,none⟩=some (.int .i64 3):=hC6.cell 0 rfl
 have c1:(w5.alloc (boxO lb)).cell? ⟨w1.heap.size,1,none⟩=some (.int .i64 1):=hC6.cell 1 rfl
 have c2:(w5.alloc (boxO lb)).cell? ⟨w1.heap.size,2,none⟩=some (.int .i64 8):=hC6.cell 2 rfl
 have hz5:=K6.size
 go_wp2_with fail
 clear hnf
 refine(Z6 hL6.pw xX HN.out HL5.out (by omega)).mono ?_
 rintro e w7 ⟨lb2,rfl,hlb2,hL7,hk7⟩
 have K7:=K6.trans hk7
 clear c0 c1 c2
 go_wp2_with fail
 refine(jv hL7).mono ?_
 rintro e w8 ⟨rfl,rfl⟩
 go_wp2_with fail
 refine(vo hL7 1 (by omega) HL5.out.ep.1 (by have:=HN56.out;omega)).mono ?_
 rintro e w8 ⟨rfl,rfl⟩
 have e1:Hid (epN 1=1):=by show _=_;decide
 rw[e1.out]
 go_wp2_with fail
 go_ret
 exact⟨rfl,K7.below (Nat.le_refl _) (by simp)⟩
end Go.Proofs.YtcdhklgahepcaaaGreat
