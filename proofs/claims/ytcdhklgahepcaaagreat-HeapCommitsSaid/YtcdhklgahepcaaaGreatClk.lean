import Derived.Test.YtcdhklgahepcaaaGreatClb
import Derived.BigQuiet
import Derived.Deep.RegionHeld3
import Derived.Test.YtcdhklgahepcaaaGreatNam
import Derived.Test.YtcdhklgahepcaaaGreatAwk13
namespace Go.Proofs.YtcdhklgahepcaaaGreat
open Go.RowKit Go.OpenShut
def CpW (X TO:Nat) (S S2:DS) (j:Nat):Prop:=∀q,S2.now q=if TO≤q/\q<TO+j then S.now (X+(q-TO))else S.now q
theorem CpW.next {X TO:Nat} {S S2:DS} {j:Nat} (h:CpW X TO S S2 j):CpW X TO S (xh S2 [.st (TO+j) (S.now (X+j))]) (j+1):=fun q=>by
 show put S2.now (TO+j) (S.now (X+j)) q=_
 unfold put
 by_cases hq:q=TO+j
 ·rw[if_pos hq,if_pos (by omega),hq,show TO+j-TO=j by omega]
 ·rw[if_neg hq,h q]
  by_cases h1:TO≤q/\q<TO+j
  ·rw[if_pos h1,if_pos (by omega)]
  ·rw[if_neg h1,if_neg (by omega)]
theorem qend {P:CP} {U:Nat} {wB wa w9:World} {x B ql:Nat} {yr yl yq y9:Option Addr} {cr nl cl mb cap9:Nat} {dn:Bool} {Q:List (Nat×Nat×Nat)} {s:Value} (hx:x∉blkL yq) (hxB:x<B) (hb:At w9 x (.cells #[ptr P.a.d,.int .i64 P.c.log,.int .i64 P.c.roots,.int .i64 P.c.space,.int .i64 (P.k:Nat),.int .i64 (P.us:Nat),.slice yr P.rs.length cr,.int .i64 ((1-P.k:Nat):Int),.int .i64 (U:Nat),.slice none 0 0,.slice yl nl cl,.map (some mb),s,.bool dn] 214))
  (hQ:QueB w9 B y9 cap9 Q) (hk:xe (x::blkL yq) wB w9) (hg:blkL y9=blkL yq\/∀g∈blkL y9,wa.heap.size≤g) (ha:xe [] wB wa) (hBW:B≤wB.heap.size):
  ∃(y:Option Addr) (cap:Nat),At (w9.setCell ⟨x,12,none⟩ (.slice y9 (ql+1) cap9)) x (colO P U yr cr yl nl cl mb y (ql+1) cap dn)/\QueB (w9.setCell ⟨x,12,none⟩ (.slice y9 (ql+1) cap9)) B y cap Q/\
   xe (x::blkL yq) wB (w9.setCell ⟨x,12,none⟩ (.slice y9 (ql+1) cap9))/\(blkL y=blkL yq\/∀g∈blkL y,wB.heap.size≤g):=by
 have hg2:blkL y9=blkL yq\/∀g∈blkL y9,wB.heap.size≤g:=by
  rcases hg with h|h
  ·exact .inl h
  ·exact .inr fun g hgg=>Nat.le_trans ha.size (h g hgg)
 refine⟨y9,cap9,hb.set 12 _,hQ.keep ((xe.refl [x] w9).set (p:=⟨x,12,none⟩) (.inl (by simp)) _) (fun b hbq h=>?_),hk.set (p:=⟨x,12,none⟩) (.inl (by simp)) _,hg2⟩
 obtain rfl:=List.mem_singleton.1 h
 rcases hg2 with h|h
 ·rw[h]at hbq;exact hx hbq
 ·have:=h _ hbq;omega
open Go.RowKit Go.OpenShut
def wO (P:CP) (out:List Nat) (v:Nat):Nat:=if v∈out then wtC P.S P.c P.k P.LS v else 0
theorem XV {w:World} {mb:Nat} {P:CP} {out:List Nat} (h:IMap w mb (Zc P.S P.c P.k P.LS out)) (v:Nat) (b:Bool):
  (Instr.lookup 199 (.map (some mb)) (.int .i64 (v:Int)) b).run Tryz.prog w=.ok (if b then .tuple #[.int .i64 (wO P out v:Nat),.bool (decide (v∈out))]else .int .i64 (wO P out v:Nat)) w:=by
 have hz:(zeroValue 3).run Tryz.prog w=.ok (.int .i64 0) w:=by kernel_rfl
 rw[h.lookup Tryz.underlying199 Tryz.underlying3 hz (v:Int) b]
 unfold Zc wO
 by_cases hv:v∈out
 ·have h0:0≤(v:Int)/\(v:Int).toNat∈out:=⟨by omega,by simpa using hv⟩
  rw[if_pos h0,if_pos hv,Int.toNat_natCast]
  cases b<;>simp[hv]
 ·have h0:¬(0≤(v:Int)/\(v:Int).toNat∈out):=fun h=>hv (by simpa using h.2)
  rw[if_neg h0,if_neg hv]
  cases b<;>simp[hv]
theorem Vb {w:World} {mb:Nat} {P:CP} {out:List Nat} (h:IMap w mb (Zc P.S P.c P.k P.LS out)) (v z:Nat) (b:Bool) (hz:z=wO P out v) (hb:b=decide (v∈out)):
  (Instr.lookup 199 (.map (some mb)) (.int .i64 (v:Int)) true).run Tryz.prog w=.ok (.tuple #[.int .i64 (z:Nat),.bool b]) w:=by
 rw[XV h,hz,hb]
 rfl
open Go.RowKit Go.OpenShut
structure LokS (P:CP) (x mb B:Nat) (yr yl yq:Option Addr) (out:List Nat) (n Y bx bo Bo Bd D nn rr PL:Nat):Prop where
 ok:P.Ok
 ap:Apart P (clT x mb yr yl yq)
 own:∀b∈clT x mb yr yl yq,b<bx
 dev:∀b∈[P.p,P.a.d,P.a.s,P.a.k,P.a.m],b<bx
 xo:bx<bo
 oo:bo<Bo
 od:Bo<Bd
 dd:Bd<D
 hY:out[n]? =some Y
 hnn:nn=hdN (P.S.now Y).toNat
 hrr:rr=hdR (P.S.now Y).toNat
 pl:PL=wtC P.S P.c P.k P.LS Y
 pre:P.Pre (seeL P.S P.c P.k P.us out (nmW P.S Y))
 pr0:P.Pre out
section
variable {P:CP} {x mb B:Nat} {yr:Option Addr} {cr:Nat} {yl:Option Addr} {cl:Nat} {yq:Option Addr} {out:List Nat} {i n:Nat} {dn:Bool} {u:Int} {Y bx bo Bo Bd D nn rr PL:Nat} {w0 W W':World} {t:Nat}
theorem LokS.at (h:LokS P x mb B yr yl yq out n Y bx bo Bo Bd D nn rr PL):P.Pre (seeL P.S P.c P.k P.us out ((nmW P.S Y).take t))/\(seeL P.S P.c P.k P.us out ((nmW P.S Y).take t))[n]? =some Y:=by
 refine⟨P.see_pre _ ((nmW P.S Y).drop t) ?_,Jl _ h.hY⟩
 rw[List.take_append_drop]
 exact h.pre
theorem LokS.len (h:LokS P x mb B yr yl yq out n Y bx bo Bo Bd D nn rr PL):n<(seeL P.S P.c P.k P.us out ((nmW P.S Y).take t)).length:=(List.getElem?_eq_some_iff.1 h.at.2).1
theorem LokS.few (h:LokS P x mb B yr yl yq out n Y bx bo Bo Bd D nn rr PL):rr≤nn/\nn≤64/\PL+nn<P.a.n/\PL≤30000:=by
 have hYL:P.LS[n]? =some Y:=h.pr0.get h.hY
 obtain⟨_,_,h3,_⟩:=yN (P.obs (List.mem_of_getElem? hYL))
 have h4:=yu h3
 have h5:=zP (S:=P.S) (c:=P.c) (k:=P.k) hYL
 have h6:=h.ok.rdy.sz
 have h6:szF P.S P.LS≤P.c.space:=h6
 have h7:=xu (c:=P.c) (1-P.k) (by omega)
 have h8:=h.ok.n
 have h9:=xW h.ok.c.small (show 1-P.k≤2 by omega)
 have h10:=h.ok.c.small.2.2
 have h11:=h.pl
 rw[yT P.nd hYL]at h11
 have h12:=h.hnn
 have h13:=h.hrr
 omega
theorem LokS.nm (h:LokS P x mb B yr yl yq out n Y bx bo Bo Bd D nn rr PL) (ht:t<rr):∃v:Nat,P.S.now (Y+1+t)=(v:Int)/\(v=0\/v∈P.LS)/\v<100000:=by
 have hYL:P.LS[n]? =some Y:=h.pr0.get h.hY
 obtain⟨h1,h2,h3,h4,_⟩:=yN (P.obs (List.mem_of_getElem? hYL))
 have h5:=yu h3
 have h12:=h.hrr
 obtain⟨v,hv,hvb⟩:=h.ok.rdy.wd (Y+1+t) (by omega) (by omega)
 have h6:=h.ok.rdy.nm Y (List.mem_of_getElem? hYL) v (List.mem_map.2 ⟨t,List.mem_range.2 (by omega),by rw[hv,Int.toNat_natCast]⟩)
 refine⟨v,hv,h6,?_⟩
 rcases h6 with h6|h6
 ·omega
 ·obtain⟨g1,g2,_⟩:=yN (zJ h6)
  have h9:=xW h.ok.c.small (show P.k≤2 by have:=h.ok.k;omega)
  have h10:=h.ok.c.small.2.2
  have h11:=h.ok.us
  omega
theorem LokS.take (h:LokS P x mb B yr yl yq out n Y bx bo Bo Bd D nn rr PL) (ht:t<rr) {v:Nat} (hv:P.S.now (Y+1+t)=(v:Int)):seeL P.S P.c P.k P.us out ((nmW P.S Y).take (t+1))=seeW P.S P.c P.k P.us (seeL P.S P.c P.k P.us out ((nmW P.S Y).take t)) v:=by
 rw[xcf (by rw[<-h.hrr];exact ht),Xh,hv,Int.toNat_natCast]
end
theorem JA {f:Nat->Int} {s t:Nat} (h:nzC f s=nzC f t) {j:Nat} (h1:s≤j) (h2:j<t):f j=0:=by
 refine Classical.byContradiction fun hf=>?_
 have h3:=WW (f:=f) h1
 have h4:=WW (f:=f) (show j+1≤t by omega)
 rw[XJ hf]at h4
 omega
theorem xao {f:Nat->Int} {s t:Nat} (h:nzC f s=nzC f t) (hf:f t≠0):s≤t:=by
 refine Classical.byContradiction fun hc=>?_
 have:=JC (f:=f) (show t<s by omega) hf
 omega
section
variable {P:CP} {x mb B:Nat} {yr:Option Addr} {cr:Nat} {yl:Option Addr} {cl:Nat} {yq:Option Addr} {out:List Nat} {i n:Nat} {dn:Bool} {u:Int} {Y bx bo Bo Bd D nn rr PL:Nat} {w0 W W':World} {t:Nat}
end
end Go.Proofs.YtcdhklgahepcaaaGreat
