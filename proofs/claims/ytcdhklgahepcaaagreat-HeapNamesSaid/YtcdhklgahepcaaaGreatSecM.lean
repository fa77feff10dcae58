import Derived.Test.YtcdhklgahepcaaaGreatKeysM
import Derived.Test.YtcdhklgahepcaaaGreatLaw6
set_option maxHeartbeats 4000000
set_option maxRecDepth 100000
namespace Go.Proofs.YtcdhklgahepcaaaGreat
open Go.RowKit Go.OpenShut
structure Sc where
 b:Nat
 lb:Nat
 rb:Nat
 ub:Nat
abbrev spV (f t:Int):Value:=.agg #[.int .i64 f,.int .i64 t]
abbrev spO (f t:Int):Obj:=.cells #[.int .i64 f,.int .i64 t] 113
abbrev secO (d:Nat) (s:Sc) (c:Cfg) (op:Bool) (f t:Int):Obj:=.cells #[ptr s.lb,ptr d,.int .i64 c.log,.int .i64 c.roots,.int .i64 c.space,.bool op,.int .i64 f,.int .i64 t,.map (some s.rb),.map (some s.ub)] 117
structure SW (w:World) (p:Nat) (a:DA) (l u:Int) (S:DS) (s:Sc) (c:Cfg) (cnt:Nat) (st:Bool) (op:Bool) (f t:Int) (R U:Int->Option Value):Prop where
 lw:LW w p a l u S s.lb c cnt st
 sec:At w s.b (secO a.d s c op f t)
 rm:IMap w s.rb R
 um:IMap w s.ub U
 ru:s.rb≠s.ub
 ra:s.rb≠a.m
 ua:s.ub≠a.m
theorem yQ {w:World} {b b':Nat} {x:Array Value} {T:TypeId} {fz:Nat×Nat} {D:Int->Option Value} (h:At w b (.cells x T fz)) (h':IMap w b' D):b≠b':=by
 rintro rfl
 obtain⟨es,ck,hm,_⟩:=h'
 have:=h.inj hm
 cases this
def Sc.bl (s:Sc) (p:Nat) (a:DA):List Nat:=[p,a.s,a.k,a.m,s.lb,s.b,s.rb,s.ub]
section
variable {w w':World} {p:Nat} {a:DA} {l u:Int} {S S':DS} {s:Sc} {c:Cfg} {cnt:Nat} {st:Bool} {op:Bool} {f t:Int} {R U:Int->Option Value}
theorem SW.ne (h:SW w p a l u S s c cnt st op f t R U):s.b∉[p,a.s,a.k,a.m,s.lb,s.rb,s.ub]/\s.rb∉[p,a.s,a.k,a.m,s.lb,s.b,s.ub]/\s.ub∉[p,a.s,a.k,a.m,s.lb,s.b,s.rb]/\s.b≠a.d/\s.rb≠a.d/\s.ub≠a.d:=by
 have d:=h.lw.pw.dev
 have n1:s.b≠p:=xY h.sec h.lw.pw.pow (by decide)
 have n2:s.b≠a.s:=xY h.sec d.now (by decide)
 have n3:s.b≠a.k:=xY h.sec d.kept (by decide)
 have n4:s.b≠a.m:=yQ h.sec d.map
 have n5:s.b≠s.lb:=xY h.sec h.lw.log (by decide)
 have n6:s.b≠a.d:=xY h.sec d.dev (by decide)
 have n7:s.b≠s.rb:=yQ h.sec h.rm
 have n8:s.b≠s.ub:=yQ h.sec h.um
 have r1:p≠s.rb:=yQ h.lw.pw.pow h.rm
 have r2:a.s≠s.rb:=yQ d.now h.rm
 have r3:a.k≠s.rb:=yQ d.kept h.rm
 have r5:s.lb≠s.rb:=yQ h.lw.log h.rm
 have r6:a.d≠s.rb:=yQ d.dev h.rm
 have u1:p≠s.ub:=yQ h.lw.pw.pow h.um
 have u2:a.s≠s.ub:=yQ d.now h.um
 have u3:a.k≠s.ub:=yQ d.kept h.um
 have u5:s.lb≠s.ub:=yQ h.lw.log h.um
 have u6:a.d≠s.ub:=yQ d.dev h.um
 have x1:=h.ru
 have x2:=h.ra
 have x3:=h.ua
 simp only[List.mem_cons,List.not_mem_nil,or_false,not_or]
 exact⟨⟨n1,n2,n3,n4,n5,n7,n8⟩,⟨r1.symm,r2.symm,r3.symm,x2,r5.symm,n7.symm,x1⟩,⟨u1.symm,u2.symm,u3.symm,x3,u5.symm,n8.symm,x1.symm⟩,n6,r6.symm,u6.symm⟩
theorem SW.keep0 (h:SW w p a l u S s c cnt st op f t R U) (hk:xe [] w w'):SW w' p a l u S s c cnt st op f t R U:=
 ⟨h.lw.keep0 hk,hk.at h.sec (by simp),h.rm.keep hk (by simp),h.um.keep hk (by simp),h.ru,h.ra,h.ua⟩
theorem SW.keep {T:List Nat} (h:SW w p a l u S s c cnt st op f t R U) (hk:xe T w w') (hT:∀b∈s.bl p a,b∉T) (hd:a.d∉T):SW w' p a l u S s c cnt st op f t R U:=by
 unfold Sc.bl at hT
 exact⟨h.lw.keep hk (hT _ (by simp)) hd (hT _ (by simp)) (hT _ (by simp)) (hT _ (by simp)) (hT _ (by simp)),hk.at h.sec (hT _ (by simp)),h.rm.keep hk (hT _ (by simp)),h.um.keep hk (hT _ (by simp)),h.ru,h.ra,h.ua⟩
theorem SW.log {cnt':Nat} {st':Bool} {u':Int} (h:SW w p a l u S s c cnt st op f t R U) (h':LW w' p a l u' S' s.lb c cnt' st') (hk:xe [p,a.s,a.k,a.m,s.lb] w w'):SW w' p a l u' S' s c cnt' st' op f t R U:=by
 obtain⟨n1,n2,n3,_⟩:=h.ne
 exact⟨h',hk.at h.sec fun hm=>n1 (by simp only[List.mem_cons,List.not_mem_nil,or_false]at hm⊢;rcases hm with e|e|e|e|e<;>simp[e]),h.rm.keep hk fun hm=>n2 (by simp only[List.mem_cons,List.not_mem_nil,or_false]at hm⊢;rcases hm with e|e|e|e|e<;>simp[e]),h.um.keep hk fun hm=>n3 (by simp only[List.mem_cons,List.not_mem_nil,or_false]at hm⊢;rcases hm with e|e|e|e|e<;>simp[e]),h.ru,h.ra,h.ua⟩
theorem SW.next {u':Int} (h:SW w p a l u S s c cnt st op f t R U) (h':Pw w' p a l u' S') (hk:xe [p,a.s,a.k,a.m] w w'):SW w' p a l u' S' s c cnt st op f t R U:=h.log (h.lw.next h' hk) hk.lg
theorem SW.set (h:SW w p a l u S s c cnt st op f t R U) (i:Nat) (v:Value) {op':Bool} {f' t':Int}
  (e:(#[ptr s.lb,ptr a.d,.int .i64 c.log,.int .i64 c.roots,.int .i64 c.space,.bool op,.int .i64 f,.int .i64 t,.map (some s.rb),.map (some s.ub)]:Array Value).setIfInBounds i v=#[ptr s.lb,ptr a.d,.int .i64 c.log,.int .i64 c.roots,.int .i64 c.space,.bool op',.int .i64 f',.int .i64 t',.map (some s.rb),.map (some s.ub)]):
  SW (w.setCell ⟨s.b,i,none⟩ v) p a l u S s c cnt st op' f' t' R U:=by
 obtain⟨n1,_,_,n4,_⟩:=h.ne
 simp only[List.mem_cons,List.not_mem_nil,or_false,not_or]at n1
 have kk:xe [s.b] w (w.setCell ⟨s.b,i,none⟩ v):=(xe.refl _ _).set (.inl (by simp)) _
 have:=h.sec.set i v
 rw[e]at this
 exact⟨h.lw.keep kk (by simp;omega) (by simp;omega) (by simp;omega) (by simp;omega) (by simp;omega) (by simp;omega),this,h.rm.keep kk (by simp;omega),h.um.keep kk (by simp;omega),h.ru,h.ra,h.ua⟩
theorem SW.setR {R':Int->Option Value} (h:SW w p a l u S s c cnt st op f t R U) (hm:IMap w' s.rb R') (hk:xe [s.rb] w w'):SW w' p a l u S s c cnt st op f t R' U:=by
 obtain⟨_,n2,_,_,n5,_⟩:=h.ne
 simp only[List.mem_cons,List.not_mem_nil,or_false,not_or]at n2
 have x:=h.ru
 exact⟨h.lw.keep hk (by simp;omega) (by simp;omega) (by simp;omega) (by simp;omega) (by simp;omega) (by simp;omega),hk.at h.sec (by simp;omega),hm,h.um.keep hk (by simp;omega),h.ru,h.ra,h.ua⟩
theorem SW.setU {U':Int->Option Value} (h:SW w p a l u S s c cnt st op f t R U) (hm:IMap w' s.ub U') (hk:xe [s.ub] w w'):SW w' p a l u S s c cnt st op f t R U':=by
 obtain⟨_,_,n3,_,_,n6⟩:=h.ne
 simp only[List.mem_cons,List.not_mem_nil,or_false,not_or]at n3
 have x:=h.ru
 exact⟨h.lw.keep hk (by simp;omega) (by simp;omega) (by simp;omega) (by simp;omega) (by simp;omega) (by simp;omega),hk.at h.sec (by simp;omega),h.rm.keep hk (by simp;omega),hm,h.ru,h.ra,h.ua⟩
end
def RanS (p:Nat) (a:DA) (l u:Int) (S:DS) (s:Sc) (c:Cfg) (cnt:Nat) (st:Bool) (op:Bool) (f t:Int) (R U:Int->Option Value) (cs:List Cmd) (v:Value) (w:World) (e:Ending) (w':World):Prop:=
 (e=.returned v/\SW w' p a l (u+(cs.length:Int)) (xh S cs) s c cnt st op f t R U/\xe (s.bl p a) w w')\/
 (e=.panicked [{ v:=xP,recovered:=false }]/\(∃S',Cut l u S cs S'/\Pw w' p a l l S')/\xe (s.bl p a) w w')
theorem xe.lgs {p:Nat} {a:DA} {s:Sc} {w w':World} (h:xe [p,a.s,a.k,a.m,s.lb] w w'):xe (s.bl p a) w w':=h.mono (by unfold Sc.bl;intro k _ hk;simp at hk⊢;omega)
theorem xe.dvs {p:Nat} {a:DA} {s:Sc} {w w':World} (h:xe [p,a.s,a.k,a.m] w w'):xe (s.bl p a) w w':=h.lg.lgs
theorem xe.nos {p:Nat} {a:DA} {s:Sc} {w w':World} (h:xe [] w w'):xe (s.bl p a) w w':=h.mono (by simp)
theorem xe.ups {p:Nat} {a:DA} {s:Sc} {w w':World} (h:xe [s.ub] w w'):xe (s.bl p a) w w':=h.mono (by unfold Sc.bl;intro k _ hk;simp at hk⊢;omega)
theorem xe.rps {p:Nat} {a:DA} {s:Sc} {w w':World} (h:xe [s.rb] w w'):xe (s.bl p a) w w':=h.mono (by unfold Sc.bl;intro k _ hk;simp at hk⊢;omega)
section
variable {w w':World} {p:Nat} {a:DA} {l u u':Int} {S S':DS} {s:Sc} {c:Cfg} {cnt:Nat} {st:Bool} {op:Bool} {f t:Int} {R U:Int->Option Value} {cs:List Cmd} {v:Value} {e:Ending}
theorem wu (h:SW w' p a l u' S' s c cnt st op f t R U) (hu:u'=u+(cs.length:Int)) (hS:S'=xh S cs) (hk:xe (s.bl p a) w w'):RanS p a l u S s c cnt st op f t R U cs v w (.returned v) w':=by
 subst hu hS
 exact .inl ⟨rfl,h,hk⟩
theorem yB (h:Pw w' p a l l S') (hc:Cut l u S cs S') (hk:xe (s.bl p a) w w'):RanS p a l u S s c cnt st op f t R U cs v w (.panicked [{ v:=xP,recovered:=false }]) w':=
 .inr ⟨rfl,⟨S',hc,h⟩,hk⟩
theorem RanS.free (h:RanS p a (-1) u S s c cnt st op f t R U cs v w e w') (hu:0≤u):e=.returned v/\SW w' p a (-1) (u+(cs.length:Int)) (xh S cs) s c cnt st op f t R U/\xe (s.bl p a) w w':=by
 rcases h with h|⟨_,⟨_,⟨_,_,_,_,_,hl⟩,_⟩,_⟩
 ·exact h
 ·omega
end
abbrev xev:Value:=.agg #[]
def mkU (U:Int->Option Value) (i:Nat):Int->Option Value:=fun z=>if z=((i/8:Nat):Int)then some xev else U z
theorem xeO (U:Int->Option Value) (i:Nat):mkU U i=fun z=>if z=((i/8:Nat):Int)then some xev else U z:=rfl
section
variable {w w':World} {p:Nat} {a:DA} {l u u':Int} {S S':DS} {s:Sc} {c:Cfg} {cnt:Nat} {st:Bool} {op:Bool} {f t:Int} {R U:Int->Option Value} {cs:List Cmd} {v:Value} {e:Ending}
theorem jo (h:SW w p a l u S s c cnt st op f t R U) (i:Nat) (hi:i≤100000):
  Calls Tryz.prog 133 #[ptr s.b,.int .i64 i] w fun e w'=>e=.returned (.tuple #[])/\SW w' p a l u S s c cnt st op f t R (mkU U i)/\xe [s.ub] w w':=by
 have c9:=h.sec.cell 9 rfl
 have hib:(i:Int)≤100000:=by omega
 rw[xeO]
 obtain⟨k,hk⟩:∃k,k=i/8:=⟨_,rfl⟩
 have e8:(i:Int)/8=(k:Int):=by omega
 rw[<-hk]
 clear hk
 go_enter Tryz.func133,Tryz.ntmps133
 go_wp2_with (at_mapUpdate;refine zl rfl _ _ _ _ rfl 3 101 Tryz.underlying115 Tryz.underlying3 s.ub _ rfl h.um (k:Int) _ rfl rfl ?_;intro w1 hm1 hk1)
 go_end0
 exact⟨rfl,h.setU hm1 hk1,hk1⟩
theorem Yd (h:SW w p a l u S s c cnt st op f t R U):
  Calls Tryz.prog 84 #[ptr s.b] w fun e w'=>e=.returned (.bool op)/\w=w':=by
 have c5:=h.sec.cell 5 rfl
 go_enter Tryz.func84,Tryz.ntmps84
 go_wp2
 go_ret
 exact⟨rfl,rfl⟩
def xA (f t i:Int):Bool:=decide (f≤i)&&decide (i<t)
theorem ZV (w:World) (f t i:Int):
  Calls Tryz.prog 209 #[spV f t,.int .i64 i] w fun e w'=>e=.returned (.bool (xA f t i))/\w.alloc (spO f t)=w':=by
 unfold xA
 by_cases h1:f≤i
 ·have t1:decide (f≤i)=true:=by rw[decide_eq_true_eq];exact h1
  rw[t1]
  have hH:=hid h1
  clear h1
  go_enter Tryz.func209,Tryz.ntmps209
  go_wp2
  go_ret
  simp
 ·have t1:decide (f≤i)=false:=by rw[decide_eq_false_iff_not];exact h1
  rw[t1]
  have hH:=hid h1
  clear h1
  go_enter Tryz.func209,Tryz.ntmps209
  go_wp2
  go_ret
  simp
end
open Go.RowKit Go.OpenShut
def flK (ss:List Int) (j:Nat):Cmd:=.fl (8*(ss.getD j 0).toNat)
def kpC (ss:List Int):List Cmd:=[.fl 8]++(rowL (flK ss) ss.length++ [.fe])
theorem YR (ss:List Int):(kpC ss).length=ss.length+2:=by simp[kpC,xU]
def UIn (U:Int->Option Value) (n:Nat):Prop:=∀k v,U k=some v->0≤k/\8*k<(n:Int)
theorem UIn.none (n:Nat):UIn (fun _=>none) n:=fun _ _ h=>by cases h
theorem UIn.mark {U:Int->Option Value} {n:Nat} (h:UIn U n) {i:Nat} (hi:i<n):UIn (mkU U i) n:=fun k v hk=>by
 unfold mkU at hk
 split at hk
 ·omega
 ·exact h k v hk
theorem UIn.few {U:Int->Option Value} {n:Nat} (h:UIn U n) (hn:n≤15000) {ss:List Int} (hK:KeysOf U ss):ss.length≤1875:=
 hK.len 1875 fun k v hk=>by have:=h k v hk;omega
section
variable {w w':World} {p:Nat} {a:DA} {l u u':Int} {S S':DS} {s:Sc} {c:Cfg} {cnt:Nat} {st:Bool} {op:Bool} {f t:Int} {R U:Int->Option Value} {cs:List Cmd} {v:Value} {e:Ending}
theorem Yu (h:SW w p a l u S s c cnt st op f t R U) (hU:UIn U a.n) (hn8:8<a.n) (hn:a.n≤15000) (hb:u<4611686018427360000):
  Calls Tryz.prog 154 #[ptr s.b] w fun e w'=>∃ss,KeysOf U ss/\RanS p a l u S s c cnt st op f t R (fun _=>none) (kpC ss) (.tuple #[]) w e w':=by
 have h0:=h.lw.pw.lo
 have c1:=h.sec.cell 1 rfl
 have HS:=hid (yz _ p a l u S 8 h.lw.pw hn8 (by omega))
 have HU:=hid hU
 have hK0:∃ss,KeysOf U ss:=by
  obtain⟨D0,_,_,hP⟩:=h.um.owns (P:=Tryz.prog) (fun k v hk=>by have:=hU k v hk;omega) 3 Tryz.underlying3
  exact⟨_,hP _ (List.Perm.refl _)⟩
 clear hU
 go_enter Tryz.func154,Tryz.ntmps154
 go_wp2_with fail
 refine HS.out.mono ?_
 rintro e w2 (⟨rfl,h2,k2⟩|⟨rfl,⟨S',d2,h2⟩,k2⟩)
 rotate_left
 ·obtain⟨ss,hss⟩:=hK0
  exact⟨rfl,ss,hss,yB h2 (d2.left _) k2.dvs⟩
 clear hK0 HS c1
 have l2:=h.next h2 k2
 have K2:xe (s.bl p a) w w2:=k2.dvs
 obtain⟨S2,hS2⟩:∃S2,S2=xh S [.fl 8]:=⟨_,rfl⟩
 obtain⟨u2,hu2⟩:∃u2,u2=u+(([.fl 8]:List Cmd).length:Int):=⟨_,rfl⟩
 rw[<-hS2,<-hu2]at l2
 have HS2:=hid hS2
 have HU2:=hid hu2
 have hub:u2<4611686018427361000:=by simp at hu2;omega
 clear hS2 hu2 h2 k2
 have c9:=l2.sec.cell 9 rfl
 go_wp2_with fail
 refine(mkeys_at w2 s.ub).mono ?_
 rintro e w3 ⟨rfl,rfl⟩
 have l3:=l2.keep0 ((xe.refl [] w2).alloc (mboxO s.ub))
 have hX3:=At.new w2 (mboxO s.ub)
 have K3:xe (s.bl p a) w (w2.alloc (mboxO s.ub)):=K2.alloc _
 clear c9
 go_wp2_with fail
 refine(sorted_at _ s.ub w2.heap.size U l3.um hX3 (fun k v hk=>by have:=HU.out k v hk;omega)).mono ?_
 rintro e w4 ⟨y,ss,cap,rfl,hK,hR,hY,hk4⟩
 have l4:=l3.keep0 hk4
 have K4:xe (s.bl p a) w w4:=K3.trans hk4.nos
 have hfew:=HU.out.few hn hK
 have HK:=hid hK
 have HR:=hid hR
 obtain⟨n,hnn⟩:∃n,n=ss.length:=⟨_,rfl⟩
 have hlt4:∀b∈s.bl p a,b<w2.heap.size:=by
  unfold Sc.bl
  intro b hb
  simp only[List.mem_cons,List.not_mem_nil,or_false]at hb
  rcases hb with rfl|rfl|rfl|rfl|rfl|rfl|rfl|rfl
  ·exact l2.lw.pw.pow.lt
  ·exact l2.lw.pw.dev.now.lt
  ·exact l2.lw.pw.dev.kept.lt
  ·exact l2.lw.pw.dev.map.lt
  ·exact l2.lw.log.lt
  ·exact l2.sec.lt
  ·exact l2.rm.lt
  ·exact l2.um.lt
 have HNB:∀b,w2.heap.size≤b->b∉[p,a.s,a.k,a.m]:=fun b hb hm=>by
  have:=hlt4 b (by unfold Sc.bl;simp only[List.mem_cons,List.not_mem_nil,or_false]at hm⊢;rcases hm with e|e|e|e<;>simp[e])
  omega
 rw[<-hnn]at HR hfew⊢
 have HNN:=hid hnn
 have HBY:∀b off,y=some ⟨b,off,none⟩->w2.heap.size≤b:=fun b off e=>by have:=hY b off e;simp at this;omega
 have hni:(n:Int)≤1875:=by omega
 clear hK hR hnn K2 K3 l2 l3 hX3 h hY hlt4
 go_wp2_with fail
 go_loopg [16] n (fun r sl wr=>∃i:Nat,i+r=n∧sl=.int .i64 i∧SW wr p a l (u2+(i:Int)) (xh S2 (rowL (flK ss) i)) s c cnt st op f t R U∧xe [p,a.s,a.k,a.m] w4 wr)
 case atStart=>exact⟨0,by omega,rfl,by simpa[y7,yS]using l4,xe.refl _ _⟩
 case round=>
  obtain⟨i,hi,rfl,hL,hk⟩:=hrel
  have hii:(i:Int)≤1875:=by omega
  by_cases hlt:i<n
  ·obtain⟨b,off,rfl,hbl,hcl⟩:∃b off,y=some ⟨b,off,none⟩/\b<w4.heap.size/\∀i,i<n->w4.cell? ⟨b,off+i,none⟩=some (.int .i64 (ss.getD i 0)):=by
    rcases HR.out with h|h
    ·omega
    ·exact h
   have hcli:=hcl i hlt
   clear hcl
   obtain⟨z,hz⟩:∃z,z=ss.getD i 0:=⟨_,rfl⟩
   have hzU:0≤z/\8*z<(a.n:Int):=by
    have hm:z∈ss:=by
     rw[hz,List.getD_eq_getElem?_getD,List.getElem?_eq_getElem (by have:=HNN.out;omega)]
     exact List.getElem_mem _
    obtain⟨v,hv⟩:=Option.isSome_iff_exists.1 ((HK.out.2 z).1 hm)
    exact HU.out z v hv
   obtain⟨k,rfl⟩:∃k:Nat,(k:Int)=z:=⟨z.toNat,by omega⟩
   obtain⟨q,hq⟩:∃q,q=8*k:=⟨_,rfl⟩
   have e9:IntKind.i64.wrap ((k:Int)*8)=(q:Int):=by rw[IntWalk.i64_in _ (by omega)];omega
   have hqn:q<a.n:=by omega
   have hnb:b∉[p,a.s,a.k,a.m]:=HNB b (HBY b off rfl)
   have d0:=(hk.cell (p:=⟨b,off+i,none⟩) hbl hnb).trans hcli
   rw[<-hz]at d0
   have c1:=hL.sec.cell 1 rfl
   have HFL:Hid (flK ss i=.fl q):=by show Cmd.fl _=_;rw[<-hz,hq];rfl
   have HQ:=hid hq
   have b1:(i:Int)<(n:Int):=by omega
   have b2:(0:Int)≤(i:Int):=by omega
   clear hz hq hzU hcli
   go_wp2_with fail
   refine(yz wr p a l _ _ q hL.lw.pw hqn (by omega)).mono ?_
   rintro e w5 (⟨rfl,h5,k5⟩|⟨rfl,⟨S',d5,h5⟩,k5⟩)
   rotate_left
   ·rw[<-HFL.out]at d5
    exact⟨rfl,ss,HK.out,yB h5 (Cut.right (A:=[.fl 8]) ((d5.row (by have:=HNN.out;omega)).left [.fe]) HU2.out HS2.out) ((K4.trans hk.dvs).trans k5.dvs)⟩
   rw[<-HFL.out]at h5
   go_wp2_with fail
   go_roundg (n-(i+1))
   case measure=>omega
   case rel=>exact⟨i+1,by omega,by go_num,hL.next h5.row k5,hk.trans k5⟩
  ·have hin:i=n:=by omega
   subst hin
   have c1:=hL.sec.cell 1 rfl
   go_wp2_with fail
   refine(yR wr p a l _ _ hL.lw.pw (by omega)).mono ?_
   rintro e w5 (⟨rfl,h5,k5⟩|⟨rfl,⟨S',d5,h5⟩,k5⟩)
   rotate_left
   ·exact⟨rfl,ss,HK.out,yB h5 (Cut.right (A:=[.fl 8]) (Cut.right (A:=rowL (flK ss) ss.length) d5 (by rw[xU,<-HNN.out]) (by rw[<-HNN.out])) HU2.out HS2.out) ((K4.trans hk.dvs).trans k5.dvs)⟩
   have l5:=hL.next h5 k5
   have K5:=(K4.trans hk.dvs).trans k5.dvs
   have c9:=l5.sec.cell 9 rfl
   clear c1
   go_wp2_with (refine yn rfl _ _ rfl 3 101 Tryz.underlying115 s.ub _ rfl l5.um ?_;intro w6 hm6 hk6)
   go_end0
   refine⟨ss,HK.out,wu (l5.setU hm6 hk6) ?_ ?_ (K5.trans hk6.ups)⟩
   ·rw[HU2.out,YR,HNN.out];simp;omega
   ·unfold kpC;rw[xg,xg,<-HS2.out,<-HNN.out]
def RecI (R:Int->Option Value) (m:Nat) (pl:Nat->Nat) (e:Nat):Prop:=
 (∀i,i<m->R (pl i:Nat)=some (.int .u64 e))/\∀z,(∀i,i<m->((pl i:Nat):Int)≠z)->R z=none
theorem RecI.none (pl:Nat->Nat) (e:Nat):RecI (fun _=>none) 0 pl e:=⟨fun _ h=>absurd h (Nat.not_lt_zero _),fun _ _=>rfl⟩
theorem RecI.grow {R:Int->Option Value} {m:Nat} {pl:Nat->Nat} {e:Nat} (h:RecI R m pl e) (i:Nat):RecI (fun z=>if z=(i:Int)then some (.int .u64 e)else R z) (m+1) (put pl m i) e:=by
 refine⟨fun k hk=>?_,fun z hz=>?_⟩
 ·by_cases hkm:k=m
  ·subst hkm;rw[xO];exact if_pos rfl
  ·rw[xI _ _ hkm]
   show(if((pl k:Nat):Int)=(i:Int)then _ else _)=_
   split
   ·rfl
   ·exact h.1 k (by omega)
 ·have h1:=hz m (by omega)
  rw[xO]at h1
  show(if z=(i:Int)then _ else _)=_
  rw[if_neg (fun e=>h1 e.symm)]
  refine h.2 z fun k hk=>?_
  have:=hz k (by omega)
  rwa[xI _ _ (by omega)]at this
theorem xcz (h:SW w p a l u S s c cnt st op f t R U) (x:Nat) (hx:x<4294967296) (h8:S.now 8=x) (hn8:8<a.n) (i:Int) (hr:R i=some (.int .u64 x)):
  Calls Tryz.prog 210 #[ptr s.b,.int .i64 i] w fun e w'=>e=.returned (.bool true)/\w=w':=by
 have c8:=h.sec.cell 8 rfl
 have c0:=h.sec.cell 0 rfl
 have HE:=hid (vo h.lw x (by omega) h8 hn8)
 have hep:epN x=x:=Nat.mod_eq_of_lt hx
 rw[hep]at HE
 clear h8 hep
 go_enter Tryz.func210,Tryz.ntmps210
 go_wp2_with (at_lookup;refine yI rfl _ _ _ rfl 3 26 Tryz.underlying114 Tryz.underlying3 (.int .u64 0) (by kernel_rfl) s.rb _ rfl h.rm i rfl _ hr ?_)
 refine HE.out.mono ?_
 rintro e w1 ⟨rfl,rfl⟩
 go_wp2_with fail
 go_ret
 exact⟨rfl,rfl⟩
theorem xa0 (h:SW w p a l u S s c cnt st op f t R U) (i:Int) (hr:R i=none):
  Calls Tryz.prog 210 #[ptr s.b,.int .i64 i] w fun e w'=>e=.returned (.bool false)/\w=w':=by
 have c8:=h.sec.cell 8 rfl
 have c0:=h.sec.cell 0 rfl
 go_enter Tryz.func210,Tryz.ntmps210
 go_wp2_with (at_lookup;refine yA rfl _ _ _ rfl 3 26 Tryz.underlying114 Tryz.underlying3 (.int .u64 0) (by kernel_rfl) s.rb _ rfl h.rm i rfl hr ?_)
 go_ret
 exact⟨rfl,rfl⟩
end
open Go.RowKit Go.OpenShut
section
variable {w w':World} {p:Nat} {a:DA} {l u u':Int} {S S':DS} {s:Sc} {c:Cfg} {m e0 r:Nat} {st:Bool} {op:Bool} {f t:Int} {R U:Int->Option Value} {pl:Nat->Nat} {wd:Nat->Int} {cs:List Cmd} {v:Value} {e:Ending}
theorem WN (h:SW w p a l u S s c m st op f t R U) (i:Int) (hf:xA f t i=true):
  Calls Tryz.prog 160 #[ptr s.b,.int .i64 i] w fun e w'=>e=.returned (.int .i64 0)/\xe [] w w':=by
 have c6:=h.sec.cell 6 rfl
 have c7:=h.sec.cell 7 rfl
 have HF:=hid (ZV w f t i)
 rw[hf]at HF
 clear hf
 go_enter Tryz.func160,Tryz.ntmps160
 go_wp2_with fail
 refine HF.out.mono ?_
 rintro e w1 ⟨rfl,rfl⟩
 go_wp2_with fail
 go_ret
 exact⟨rfl,(xe.refl _ _).alloc _⟩
theorem qB (h:SW w p a l u S s c m st op f t R U) (x:Nat) (hx:x<4294967296) (h8:S.now 8=x) (hn8:8<a.n) (i:Int) (hf:xA f t i=false) (hr:R i=some (.int .u64 x)):
  Calls Tryz.prog 160 #[ptr s.b,.int .i64 i] w fun e w'=>e=.returned (.int .i64 0)/\xe [] w w':=by
 have c6:=h.sec.cell 6 rfl
 have c7:=h.sec.cell 7 rfl
 have HF:=hid (ZV w f t i)
 have HH:=hid (xcz (h.keep0 ((xe.refl [] w).alloc (spO f t))) x hx h8 hn8 i hr)
 rw[hf]at HF
 clear hf h8 hr
 go_enter Tryz.func160,Tryz.ntmps160
 go_wp2_with fail
 refine HF.out.mono ?_
 rintro e w1 ⟨rfl,rfl⟩
 go_wp2_with fail
 refine HH.out.mono ?_
 rintro e w1 ⟨rfl,rfl⟩
 go_wp2_with fail
 go_ret
 exact⟨rfl,(xe.refl _ _).alloc _⟩
theorem VX (h:SW w p a l u S s c m st op f t R U) (i:Nat) (hi:i<a.n) (hf:xA f t i=false) (hr:R (i:Int)=none) (hm:m=c.log):
  Calls Tryz.prog 160 #[ptr s.b,.int .i64 i] w fun e w'=>e=.returned (.int .i64 3)/\xe [] w w':=by
 have c6:=h.sec.cell 6 rfl
 have c7:=h.sec.cell 7 rfl
 have HF:=hid (ZV w f t i)
 have h1:=h.keep0 ((xe.refl [] w).alloc (spO f t))
 have HH:=hid (xa0 h1 i hr)
 have HA:=hid (jS h1.lw i hi hm)
 have d0:=h1.sec.cell 0 rfl
 rw[hf]at HF
 clear hf hr hm
 go_enter Tryz.func160,Tryz.ntmps160
 go_wp2_with fail
 refine HF.out.mono ?_
 rintro e w1 ⟨rfl,rfl⟩
 go_wp2_with fail
 refine HH.out.mono ?_
 rintro e w1 ⟨rfl,rfl⟩
 go_wp2_with fail
 refine HA.out.mono ?_
 rintro e w2 ⟨rfl,hk2⟩
 go_wp2_with fail
 go_ret
 exact⟨rfl,((xe.refl _ _).alloc _).trans hk2⟩
theorem qA (h:SW w p a l u S s c m st op f t R U) (hc:c.Ok) (hn:c.words=a.n) (hL:LR c a.n e0 r m pl wd S) (hrb:r<4294967296) (i:Nat) (hi:c.act≤i/\i<a.n) (hf:xA f t i=false) (hr:R (i:Int)=none) (hm:m<c.log) (hb:u<4611686018427340000):
  Calls Tryz.prog 160 #[ptr s.b,.int .i64 i] w (RanS p a l u S s c (m+1) true op f t (fun z=>if z=(i:Int)then some (.int .u64 (eN e0 r:Nat))else R z) U (appL c st false m (eN e0 r) i (S.now i)) (.int .i64 0) w):=by
 have c6:=h.sec.cell 6 rfl
 have c7:=h.sec.cell 7 rfl
 have HF:=hid (ZV w f t i)
 have K1:=(xe.refl [] w).alloc (spO f t)
 have h1:=h.keep0 K1
 have HH:=hid (xa0 h1 i hr)
 have HA:=hid (Vz h1.lw hc hn hL hrb hm i hi.2 hb)
 have d0:=h1.sec.cell 0 rfl
 have HL:=hid (Wq (st:=st) hL hm i (S.now i) hi)
 have hci:=hid (c_in hc hn)
 rw[hf]at HF
 clear hf hr hm hL hi
 go_enter Tryz.func160,Tryz.ntmps160
 go_wp2_with fail
 refine HF.out.mono ?_
 rintro e w1 ⟨rfl,rfl⟩
 go_wp2_with fail
 refine HH.out.mono ?_
 rintro e w1 ⟨rfl,rfl⟩
 go_wp2_with fail
 refine HA.out.mono ?_
 rintro e w2 (⟨rfl,h2,k2⟩|⟨rfl,⟨S',d2,h2⟩,k2⟩)
 rotate_left
 ·exact⟨rfl,yB h2 d2 (K1.nos.trans k2.lgs)⟩
 have l2:=h1.log h2 k2
 have K2:xe (s.bl p a) w w2:=K1.nos.trans k2.lgs
 clear d0 c6 c7 h1 k2 K1 HH HA HF h2
 obtain⟨S2,hS2⟩:∃S2,S2=xh S (appL c st false m (eN e0 r) i (S.now i)):=⟨_,rfl⟩
 obtain⟨u2,hu2⟩:∃u2,u2=u+((appL c st false m (eN e0 r) i (S.now i)).length:Int):=⟨_,rfl⟩
 rw[<-hS2,<-hu2]at l2
 rw[<-hS2]at HL
 have HS2:=hid hS2
 have HU2:=hid hu2
 clear hS2 hu2
 have hep:epN (eN e0 r)=eN e0 r:=ZB e0 r
 have HE:=hid (fun(w':World) (hk:xe [] w2 w')=>vo (l2.keep0 hk).lw (eN e0 r) (by have:=jH e0 r;omega) HL.out.ep.1 hci.out.2.1)
 rw[hep]at HE
 clear hep
 obtain⟨w3,hrun,hm3,hk3⟩:=(l2.keep0 (xe.refl [] w2).drew).rm.update (P:=Tryz.prog) (t:=114) Tryz.underlying114 Tryz.underlying3 (i:Int) (.int .u64 (eN e0 r:Nat))
 have kk:xe [] w2 w2.drew:=(xe.refl _ _).drew
 have HS:Hid (∀w',SW w' p a l u2 S2 s c (m+1) true op f t R U->(w'.cell? ⟨s.b,0,none⟩=some (ptr s.lb)/\w'.cell? ⟨s.b,8,none⟩=some (.map (some s.rb)))):=fun w' h=>⟨h.sec.cell 0 rfl,h.sec.cell 8 rfl⟩
 have l3:=(l2.keep0 (xe.refl [] w2).drew).setR hm3 hk3
 have HS3:Hid (w3.cell? ⟨s.b,0,none⟩=some (ptr s.lb)/\w3.cell? ⟨s.b,8,none⟩=some (.map (some s.rb))):=⟨l3.sec.cell 0 rfl,l3.sec.cell 8 rfl⟩
 go_upto_region 6 with fail
 go_region_held3 (fun w'=>w'.cell? ⟨s.b,0,none⟩=some (ptr s.lb)∧w'.cell? ⟨s.b,8,none⟩=some (.map (some s.rb)))
  (first|exact HS.out _ (l2.keep0 kk)|exact HS3.out)
  (first|(go_at_call 200;refine(HE.out _ kk).mono ?_;rintro e w' ⟨rfl,rfl⟩))
 go_wp2_with fail
 go_ret
 exact wu l3 HU2.out HS2.out ((K2.trans (kk.nos)).trans hk3.rps)
end
open Go.RowKit Go.OpenShut
section
variable {w w':World} {p:Nat} {a:DA} {l u u':Int} {S S':DS} {s:Sc} {c:Cfg} {m e0 r:Nat} {st:Bool} {op:Bool} {f t f' t':Int} {R U:Int->Option Value} {pl:Nat->Nat} {wd:Nat->Int} {cs:List Cmd} {v:Value} {e:Ending}
theorem xbj (h:SW w p a l u S s c m st false f t R U):
  Calls Tryz.prog 86 #[ptr s.b] w fun e w'=>e=.returned (.int .i64 2)/\w=w':=by
 have c5:=h.sec.cell 5 rfl
 go_enter Tryz.func86,Tryz.ntmps86
 go_wp2_with fail
 go_ret
 exact⟨rfl,rfl⟩
theorem qj (h:SW w p a l u S s c m st true f t R U) (hs:c.Small) (i v:Int) (hi:i<(c.act:Int)\/(a.n:Int)≤i):
  Calls Tryz.prog 91 #[ptr s.b,.int .i64 i,.int .u64 v] w fun e w'=>e=.returned (.int .i64 1)/\xe [] w w':=by
 have c1:=h.sec.cell 1 rfl
 have c2:=h.sec.cell 2 rfl
 have c3:=h.sec.cell 3 rfl
 have c4:=h.sec.cell 4 rfl
 have c5:=h.sec.cell 5 rfl
 by_cases h1:i<(c.act:Int)
 ·have t1:decide (i<(c.act:Int))=true:=by rw[decide_eq_true_eq];exact h1
  clear hi h1
  go_enter Tryz.func91,Tryz.ntmps91
  go_wp2_with fail
  refine(xQ w c hs).mono ?_
  rintro e w1 ⟨rfl,hk1⟩
  go_wp2_with fail
  go_ret
  exact⟨rfl,hk1⟩
 ·have t1:decide (i<(c.act:Int))=false:=by rw[decide_eq_false_iff_not];exact h1
  have t2:decide ((a.n:Int)≤i)=true:=by rw[decide_eq_true_eq];omega
  clear hi h1
  go_enter Tryz.func91,Tryz.ntmps91
  go_wp2_with fail
  refine(xQ w c hs).mono ?_
  rintro e w1 ⟨rfl,hk1⟩
  have l1:=h.keep0 hk1
  clear c1 c2 c3 c4 c5
  have c1:=l1.sec.cell 1 rfl
  go_wp2_with fail
  refine(zh w1 p a S l1.lw.pw.dev).mono ?_
  rintro e w2 ⟨rfl,rfl⟩
  go_wp2_with fail
  go_ret
  exact⟨rfl,hk1⟩
theorem VN (h:SW w p a l u S s c m st true f t R U) (hs:c.Small) (i:Nat) (v:Int) (hi:c.act≤i/\i<a.n) (hf:xA f t i=false) (hr:R (i:Int)=none) (hm:m=c.log):
  Calls Tryz.prog 91 #[ptr s.b,.int .i64 i,.int .u64 v] w fun e w'=>e=.returned (.int .i64 3)/\xe [] w w':=by
 have c1:=h.sec.cell 1 rfl
 have c2:=h.sec.cell 2 rfl
 have c3:=h.sec.cell 3 rfl
 have c4:=h.sec.cell 4 rfl
 have c5:=h.sec.cell 5 rfl
 have t1:decide ((i:Int)<(c.act:Int))=false:=by rw[decide_eq_false_iff_not];omega
 have t2:decide ((a.n:Int)≤(i:Int))=false:=by rw[decide_eq_false_iff_not];omega
 have t3:decide (i<c.act)=false:=by rw[decide_eq_false_iff_not];omega
 have t4:decide (a.n≤i)=false:=by rw[decide_eq_false_iff_not];omega
 have HR:=hid (fun(w':World) (hk:xe [] w w')=>VX (h.keep0 hk) i hi.2 hf hr hm)
 clear hi hf hr hm
 go_enter Tryz.func91,Tryz.ntmps91
 go_wp2_with fail
 refine(xQ w c hs).mono ?_
 rintro e w1 ⟨rfl,hk1⟩
 have l1:=h.keep0 hk1
 clear c1 c2 c3 c4 c5
 have c1:=l1.sec.cell 1 rfl
 go_wp2_with fail
 refine(zh w1 p a S l1.lw.pw.dev).mono ?_
 rintro e w2 ⟨rfl,rfl⟩
 go_wp2_with fail
 refine(HR.out _ hk1).mono ?_
 rintro e w2 ⟨rfl,hk2⟩
 go_wp2_with fail
 go_ret
 exact⟨rfl,hk1.trans hk2⟩
theorem qm (h:SW w p a l u S s c m st true f t R U) (hs:c.Small) (x:Nat) (hx:x<4294967296) (h8:S.now 8=x) (hn8:8<a.n) (hn:a.n≤15000) (i:Nat) (v:Int) (hi:c.act≤i/\i<a.n) (hr:xA f t i=true\/xA f t i=false/\R (i:Int)=some (.int .u64 x)) (hb:u<4611686018427340000):
  Calls Tryz.prog 91 #[ptr s.b,.int .i64 i,.int .u64 v] w (RanS p a l u S s c m st true f t R (mkU U i) [.st i v] (.int .i64 0) w):=by
 have c1:=h.sec.cell 1 rfl
 have c2:=h.sec.cell 2 rfl
 have c3:=h.sec.cell 3 rfl
 have c4:=h.sec.cell 4 rfl
 have c5:=h.sec.cell 5 rfl
 have t1:decide ((i:Int)<(c.act:Int))=false:=by rw[decide_eq_false_iff_not];omega
 have t2:decide ((a.n:Int)≤(i:Int))=false:=by rw[decide_eq_false_iff_not];omega
 have t3:decide (i<c.act)=false:=by rw[decide_eq_false_iff_not];omega
 have t4:decide (a.n≤i)=false:=by rw[decide_eq_false_iff_not];omega
 have HI:=hid hi
 have HR:Hid (∀w',xe [] w w'->Calls Tryz.prog 160 #[ptr s.b,.int .i64 i] w' fun e w''=>e=.returned (.int .i64 0)/\xe [] w' w''):=fun w' hk=>by
  rcases hr with hf|⟨hf,hr⟩
  ·exact WN (h.keep0 hk) i hf
  ·exact qB (h.keep0 hk) x hx h8 hn8 i hf hr
 clear hi hr h8
 go_enter Tryz.func91,Tryz.ntmps91
 go_wp2_with fail
 refine(xQ w c hs).mono ?_
 rintro e w1 ⟨rfl,hk1⟩
 have l1:=h.keep0 hk1
 clear c1 c2 c3 c4 c5
 have c1:=l1.sec.cell 1 rfl
 go_wp2_with fail
 refine(zh w1 p a S l1.lw.pw.dev).mono ?_
 rintro e w2 ⟨rfl,rfl⟩
 go_wp2_with fail
 refine(HR.out _ hk1).mono ?_
 rintro e w2 ⟨rfl,hk2⟩
 have l2:=l1.keep0 hk2
 clear c1 HR
 go_wp2_with fail
 refine(jo l2 i (by have:=HI.out;omega)).mono ?_
 rintro e w3 ⟨rfl,l3,hk3⟩
 have K3:xe (s.bl p a) w w3:=(hk1.trans hk2).nos.trans hk3.ups
 have c1:=l3.sec.cell 1 rfl
 go_wp2_with fail
 refine(xM w3 p a l u S i v l3.lw.pw HI.out.2 (by omega)).mono ?_
 rintro e w4 (⟨rfl,h4,k4⟩|⟨rfl,⟨S',d4,h4⟩,k4⟩)
 rotate_left
 ·exact⟨rfl,yB h4 d4 (K3.trans k4.dvs)⟩
 go_wp2_with fail
 go_ret
 exact wu (l3.next h4 k4) rfl rfl (K3.trans k4.dvs)
theorem Zo (h:SW w p a l u S s c m st true f t R U) (hc:c.Ok) (hn:c.words=a.n) (hL:LR c a.n e0 r m pl wd S) (hrb:r<4294967296) (i:Nat) (v:Int) (hi:c.act≤i/\i<a.n) (hf:xA f t i=false) (hr:R (i:Int)=none) (hm:m<c.log) (hb:u<4611686018427330000):
  Calls Tryz.prog 91 #[ptr s.b,.int .i64 i,.int .u64 v] w (RanS p a l u S s c (m+1) true true f t (fun z=>if z=(i:Int)then some (.int .u64 (eN e0 r:Nat))else R z) (mkU U i) (appL c st false m (eN e0 r) i (S.now i)++ [.st i v]) (.int .i64 0) w):=by
 have c1:=h.sec.cell 1 rfl
 have c2:=h.sec.cell 2 rfl
 have c3:=h.sec.cell 3 rfl
 have c4:=h.sec.cell 4 rfl
 have c5:=h.sec.cell 5 rfl
 have hci:=c_in hc hn
 have hlen:=Ws (st:=st) (m:=m) hc (eN e0 r) i (S.now i)
 have t1:decide ((i:Int)<(c.act:Int))=false:=by rw[decide_eq_false_iff_not];omega
 have t2:decide ((a.n:Int)≤(i:Int))=false:=by rw[decide_eq_false_iff_not];omega
 have t3:decide (i<c.act)=false:=by rw[decide_eq_false_iff_not];omega
 have t4:decide (a.n≤i)=false:=by rw[decide_eq_false_iff_not];omega
 have HI:=hid (show i<a.n/\i≤100000 by omega)
 have HR:=hid (fun(w':World) (hk:xe [] w w')=>qA (h.keep0 hk) hc hn hL hrb i hi hf hr hm (by omega))
 have HL:=hid hlen
 have hub:=hid hb
 have hs:=hc.small
 clear hi hf hr hm hL hci hlen hn hc
 go_enter Tryz.func91,Tryz.ntmps91
 go_wp2_with fail
 refine(xQ w c hs).mono ?_
 rintro e w1 ⟨rfl,hk1⟩
 have l1:=h.keep0 hk1
 clear c1 c2 c3 c4 c5
 have c1:=l1.sec.cell 1 rfl
 go_wp2_with fail
 refine(zh w1 p a S l1.lw.pw.dev).mono ?_
 rintro e w2 ⟨rfl,rfl⟩
 go_wp2_with fail
 refine(HR.out _ hk1).mono ?_
 rintro e w2 (⟨rfl,l2,k2⟩|⟨rfl,⟨S',d2,h2⟩,k2⟩)
 rotate_left
 ·exact⟨rfl,yB h2 (d2.left _) (hk1.nos.trans k2)⟩
 have K2:xe (s.bl p a) w w2:=hk1.nos.trans k2
 clear c1 HR k2
 go_wp2_with fail
 refine(jo l2 i HI.out.2).mono ?_
 rintro e w3 ⟨rfl,l3,hk3⟩
 have K3:xe (s.bl p a) w w3:=K2.trans hk3.ups
 have c1:=l3.sec.cell 1 rfl
 go_wp2_with fail
 refine(xM w3 p a l _ _ i v l3.lw.pw HI.out.1 (by have:=HL.out;have:=hub.out;omega)).mono ?_
 rintro e w4 (⟨rfl,h4,k4⟩|⟨rfl,⟨S',d4,h4⟩,k4⟩)
 rotate_left
 ·exact⟨rfl,yB h4 (Cut.right d4 rfl rfl) (K3.trans k4.dvs)⟩
 go_wp2_with fail
 go_ret
 exact wu (l3.next h4 k4) (by simp;omega) (by rw[xg]) (K3.trans k4.dvs)
end
open Go.RowKit Go.OpenShut
section
variable {w w':World} {p:Nat} {a:DA} {l u u':Int} {S S':DS} {s:Sc} {c:Cfg} {m e0 r:Nat} {st:Bool} {op:Bool} {f t f' t':Int} {R U:Int->Option Value} {pl:Nat->Nat} {wd:Nat->Int} {cs:List Cmd} {v:Value} {e:Ending}
theorem Vx (h:SW w p a l u S s c m st false f t R U) (hU:UIn U a.n) (hn8:8<a.n) (hn:a.n≤15000) (hb:u<4611686018427350000):
  Calls Tryz.prog 88 #[ptr s.b,spV f' t'] w fun e w'=>∃ss,KeysOf U ss/\RanS p a l u S s c m st true f' t' (fun _=>none) (fun _=>none) (kpC ss) (.int .i64 0) w e w':=by
 have K1:=(xe.refl [] w).alloc (spO f' t')
 have h1:=h.keep0 K1
 have c5:=h1.sec.cell 5 rfl
 have hB:=At.new w (spO f' t')
 have hBn:w.heap.size∉s.bl p a:=by
  unfold Sc.bl
  have q1:=h.lw.pw.pow.lt
  have q2:=h.lw.pw.dev.now.lt
  have q3:=h.lw.pw.dev.kept.lt
  have q4:=h.lw.pw.dev.map.lt
  have q5:=h.lw.log.lt
  have q6:=h.sec.lt
  have q7:=h.rm.lt
  have q8:=h.um.lt
  simp only[List.mem_cons,List.not_mem_nil,or_false,not_or]
  exact⟨by omega,by omega,by omega,by omega,by omega,by omega,by omega,by omega⟩
 go_enter Tryz.func88,Tryz.ntmps88
 go_wp2_with fail
 refine(Yu h1 hU hn8 hn (by omega)).mono ?_
 rintro e w2 ⟨ss,hss,⟨rfl,l2,k2⟩|⟨rfl,⟨S',d2,h2⟩,k2⟩⟩
 rotate_left
 ·exact⟨rfl,ss,hss,yB h2 d2 (K1.nos.trans k2)⟩
 have hB2:=k2.at hB hBn
 have K2:xe (s.bl p a) w w2:=K1.nos.trans k2
 have HSS:=hid hss
 clear c5 hss k2 hB h1
 have c8:=l2.sec.cell 8 rfl
 go_wp2_with (refine yn rfl _ _ rfl 3 26 Tryz.underlying114 s.rb _ rfl l2.rm ?_;intro w3 hm3 hk3;have l3:=l2.setR hm3 hk3;have hB3:=hk3.at hB2 (fun hm=>hBn (by unfold Sc.bl;simp only[List.mem_cons,List.not_mem_nil,or_false]at hm⊢;simp[hm]));have K3:xe (s.bl p a) w w3:=K2.trans hk3.rps;have b0:=hB3.cell 0 rfl;have b1:=hB3.cell 1 rfl;have f6:=l3.sec.free 6;have f7:=l3.sec.free 7;have c6:=l3.sec.cell 6 rfl;have c7:=l3.sec.cell 7 rfl;have f5:=l3.sec.free 5;have c5:=l3.sec.cell 5 rfl)
 go_ret
 have l6:=((l3.set 6 (.int .i64 f') (op':=false) (f':=f') (t':=t) (by simp)).set 7 (.int .i64 t') (op':=false) (f':=f') (t':=t') (by simp)).set 5 (.bool true) (op':=true) (f':=f') (t':=t') (by simp)
 have hb:s.b∈s.bl p a:=by unfold Sc.bl;simp
 exact⟨ss,HSS.out,wu l6 rfl rfl (((K3.set (.inl hb) _).set (.inl hb) _).set (.inl hb) _)⟩
theorem xR {ss:List Int} {y:Cmd} (h:y∈kpC ss) (j:Nat):y.Off j:=by
 unfold kpC at h
 simp only[List.mem_append,List.mem_singleton]at h
 rcases h with rfl|h|rfl
 ·trivial
 ·obtain⟨i,_,rfl⟩:=yO h
  trivial
 ·trivial
theorem LR.kp {n:Nat} (h:LR c n e0 r m pl wd S) (ss:List Int):LR c n e0 r m pl wd (xh S (kpC ss)):=
 h.pre (xy fun _ hy=>xR hy _) (fun _ _=>⟨xy fun _ hy=>xR hy _,xy fun _ hy=>xR hy _,xy fun _ hy=>xR hy _⟩) fun _ _ _=>xy fun _ hy=>xR hy _
def truS (c:Cfg) (st:Bool) (m e:Nat):List Cmd:=if m=0 then []else truL c st e
theorem qZ (h:SW w p a l u S s c m st true f t R U) (hU:UIn U a.n) (hc:c.Ok) (hn:c.words=a.n) (hL:LR c a.n e0 r m pl wd S) (hb:u<4611686018427330000):
  Calls Tryz.prog 86 #[ptr s.b] w fun e w'=>∃ss,KeysOf U ss/\RanS p a l u S s c 0 (stS m st) false f t R (fun _=>none) (kpC ss++truS c st m (eN e0 r)) (.int .i64 0) w e w':=by
 have c5:=h.sec.cell 5 rfl
 have hci:=c_in hc hn
 have hK:=hid (Yu h hU hci.2.1 hci.2.2.2.2 (by omega))
 have hfew:=hid (fun ss (hss:KeysOf U ss)=>hU.few hci.2.2.2.2 hss)
 clear hci hU
 go_enter Tryz.func86,Tryz.ntmps86
 go_wp2_with fail
 refine hK.out.mono ?_
 rintro e w2 ⟨ss,hss,⟨rfl,l2,k2⟩|⟨rfl,⟨S',d2,h2⟩,k2⟩⟩
 rotate_left
 ·exact⟨rfl,ss,hss,yB h2 (d2.left _) k2⟩
 have hf:=hfew.out ss hss
 have HSS:=hid hss
 have HT:=hid (xbM l2.lw hc hn (hL.kp ss) (by rw[YR];omega))
 have c0:=l2.sec.cell 0 rfl
 clear c5 hK hfew hss hf
 go_wp2_with fail
 refine HT.out.mono ?_
 rintro e w3 (⟨rfl,h3,k3⟩|⟨rfl,⟨S',d3,h3⟩,k3⟩)
 rotate_left
 ·exact⟨rfl,ss,HSS.out,yB h3 (Cut.right d3 rfl rfl) (k2.trans k3.lgs)⟩
 have l3:=l2.log h3 k3
 have f5:=l3.sec.free 5
 have c5:=l3.sec.cell 5 rfl
 clear c0 HT
 go_wp2_with fail
 go_ret
 have hb:s.b∈s.bl p a:=by unfold Sc.bl;simp
 refine⟨ss,HSS.out,wu (l3.set 5 (.bool false) (op':=false) (f':=f) (t':=t) (by simp)) ?_ ?_ ((k2.trans k3.lgs).set (.inl hb) _)⟩
 ·unfold truS;simp only[List.length_append];omega
 ·unfold truS;rw[xg]
theorem xbA (h:SW w p a l u S s c m st true f t R U) (hU:UIn U a.n) (hc:c.Ok) (hn:c.words=a.n) (hL:LR c a.n e0 r m pl wd S) (hb:u<4611686018427330000):
  Calls Tryz.prog 116 #[ptr s.b] w fun e w'=>∃ss,KeysOf U ss/\RanS p a l u S s c 0 (stS m st) false f t R (fun _=>none) (undS c st pl wd m (eN e0 r)++kpC ss) (.int .i64 0) w e w':=by
 have c5:=h.sec.cell 5 rfl
 have c0:=h.sec.cell 0 rfl
 have hci:=hid (c_in hc hn)
 have HU:=hid (VK h.lw hc hn hL (by omega))
 have hlen:=hid (jU (st:=st) (pl:=pl) (wd:=wd) hc hL.le (eN e0 r))
 have hK0:∃ss,KeysOf U ss:=by
  obtain⟨D0,_,_,hP⟩:=h.um.owns (P:=Tryz.prog) (fun k v hk=>by have:=hU k v hk;have:=hci.out;omega) 3 Tryz.underlying3
  exact⟨_,hP _ (List.Perm.refl _)⟩
 have HUI:=hid hU
 clear hU
 go_enter Tryz.func116,Tryz.ntmps116
 go_wp2_with fail
 refine HU.out.mono ?_
 rintro e w2 (⟨rfl,h2,k2⟩|⟨rfl,⟨S',d2,h2⟩,k2⟩)
 rotate_left
 ·obtain⟨ss,hss⟩:=hK0
  exact⟨rfl,ss,hss,yB h2 (d2.left _) k2.lgs⟩
 have l2:=h.log h2 k2
 clear c0 c5 hK0 HU
 go_wp2_with fail
 refine(Yu l2 HUI.out hci.out.2.1 hci.out.2.2.2.2 (by have:=hlen.out;omega)).mono ?_
 rintro e w3 ⟨ss,hss,⟨rfl,l3,k3⟩|⟨rfl,⟨S',d3,h3⟩,k3⟩⟩
 rotate_left
 ·exact⟨rfl,ss,hss,yB h3 (Cut.right d3 rfl rfl) (k2.lgs.trans k3)⟩
 have f5:=l3.sec.free 5
 have c5:=l3.sec.cell 5 rfl
 have HSS:=hid hss
 clear hss
 go_wp2_with fail
 go_ret
 have hb:s.b∈s.bl p a:=by unfold Sc.bl;simp
 refine⟨ss,HSS.out,wu (l3.set 5 (.bool false) (op':=false) (f':=f) (t':=t) (by simp)) ?_ ?_ ((k2.lgs.trans k3).set (.inl hb) _)⟩
 ·simp only[List.length_append];omega
 ·rw[xg]
end
open Go.RowKit Go.OpenShut
theorem SW.make {w:World} {p:Nat} {a:DA} {l u:Int} {S:DS} {lb rb ub:Nat} {c:Cfg} {m:Nat} {st:Bool} {R U:Int->Option Value} (h:LW w p a l u S lb c m st) (hr:IMap w rb R) (hu:IMap w ub U) (ru:rb≠ub) (ra:rb≠a.m) (ua:ub≠a.m):
  SW (w.alloc (secO a.d ⟨w.heap.size,lb,rb,ub⟩ c false 0 0)) p a l u S ⟨w.heap.size,lb,rb,ub⟩ c m st false 0 0 R U:=
 ⟨h.keep0 ((xe.refl [] w).alloc _),At.new _ _,hr.keep ((xe.refl [] w).alloc _) (by simp),hu.keep ((xe.refl [] w).alloc _) (by simp),ru,ra,ua⟩
def New0 (w:World) (p:Nat) (a:DA) (l u:Int) (S:DS) (c:Cfg) (m:Nat) (v:Value) (w':World):Prop:=
 ∃s:Sc,v=ptr s.b/\SW w' p a l u S s c m false false 0 0 (fun _=>none) (fun _=>none)/\xe [] w w'/\w.heap.size≤s.b/\w.heap.size≤s.lb/\w.heap.size≤s.rb/\w.heap.size≤s.ub
abbrev mapO:Obj:=.map #[] 0
theorem im1 (w:World):IMap ((w.alloc mapO).alloc mapO) w.heap.size (fun _=>none):=(IMap.made w).keep ((xe.refl [] (w.alloc mapO)).alloc _) (by simp)
theorem im2 (w:World):IMap ((w.alloc mapO).alloc mapO) (w.heap.size+1) (fun _=>none):=by
 have:=IMap.made (w.alloc mapO)
 rwa[show(w.alloc mapO).heap.size=w.heap.size+1 by simp]at this
theorem XL {w w3:World} {p:Nat} {a:DA} {l u:Int} {S:DS} {b lb rb ub:Nat} {c:Cfg} {m:Nat} (hL:LW w3 p a l u S lb c m false) (K:xe [] w w3) (hr:IMap w3 rb (fun _=>none)) (hu:IMap w3 ub (fun _=>none)) (ham:a.m<w.heap.size) (hb:b=w3.heap.size) (hs:w.heap.size≤lb/\w.heap.size≤rb/\w.heap.size≤ub/\rb≠ub):
  New0 w p a l u S c m (ptr b) (w3.alloc (secO a.d ⟨b,lb,rb,ub⟩ c false 0 0)):=by
 subst hb
 exact⟨⟨w3.heap.size,lb,rb,ub⟩,rfl,SW.make hL hr hu hs.2.2.2 (by omega) (by omega),K.alloc _,K.size,hs.1,hs.2.1,hs.2.2.1⟩
section
variable {w w':World} {p:Nat} {a:DA} {l u u':Int} {S S':DS} {s:Sc} {c:Cfg} {m e0 r:Nat} {st:Bool} {op:Bool} {f t f' t':Int} {R U:Int->Option Value} {pl:Nat->Nat} {wd:Nat->Int} {cs:List Cmd} {v:Value} {e:Ending}
theorem VO (h:Pw w p a l u S) (hc:c.Ok) (hn:c.words=a.n) (hL:LR c a.n e0 r m pl wd S) (hr:r<4294967296):
  Calls Tryz.prog 72 #[ptr a.d,cfgV c] w fun e w'=>∃s U,e=.returned (ptr s.b)/\SW w' p a l u S s c m false false 0 0 (fun _=>none) U/\UIn U a.n/\xe [] w w'/\w.heap.size≤s.b/\w.heap.size≤s.lb/\w.heap.size≤s.rb/\w.heap.size≤s.ub:=by
 have hci:=c_in hc hn
 have ham:a.m<w.heap.size:=h.dev.map.lt
 have HO:=hid (fun(w':World) (hk:xe [] w w')=>Z6 (h.keep0 hk) hc hn hL hr)
 have hB:=At.new w (cfgO c)
 have K0:=(xe.refl [] w).alloc (cfgO c)
 have hmm:=@run_makeMap Tryz.prog
 clear hL hc
 go_enter Tryz.func72,Tryz.ntmps72
 go_upto_region 1 with fail
 obtain⟨w0,hw0⟩:∃w0,w0=w.alloc (cfgO c):=⟨_,rfl⟩
 obtain⟨bc,hbc⟩:∃bc,bc=w.heap.size:=⟨_,rfl⟩
 have hz0:w.heap.size≤w0.heap.size:=by rw[hw0];simp
 rw[<-hw0]at hB K0⊢
 rw[<-hbc]at hB ham hz0⊢
 have HBC:=hid hbc
 clear hw0 hbc
 have HS:Hid (∀w',xe [] w0 w'->(w'.cell? ⟨bc,0,none⟩=some (.int .i64 c.log)/\w'.cell? ⟨bc,1,none⟩=some (.int .i64 c.roots)/\w'.cell? ⟨bc,2,none⟩=some (.int .i64 c.space))):=fun w' hk=>⟨(hk.at hB (by simp)).cell 0 rfl,(hk.at hB (by simp)).cell 1 rfl,(hk.at hB (by simp)).cell 2 rfl⟩
 have kk:xe [] w0 w0.drew:=(xe.refl _ _).drew
 go_cut [5]from 7 to 15 (fun s5 wx=>New0 w p a l u S c m s5 wx)
 case first=>
  go_region_held3 (fun w'=>w'.cell? ⟨bc,0,none⟩=some (.int .i64 c.log)∧w'.cell? ⟨bc,1,none⟩=some (.int .i64 c.roots)∧w'.cell? ⟨bc,2,none⟩=some (.int .i64 c.space))
   (exact HS.out _ (by repeat first|exact kk|apply xe.drew|apply xe.alloc|exact xe.refl _ _))
   (first|(go_at_call 132;refine(HO.out _ (K0.trans (by repeat first|exact kk|apply xe.drew|apply xe.alloc|exact xe.refl _ _))).mono ?_;rintro e w' ⟨lb,rfl,hlb,hLW,hk4⟩;have kk:xe [] w0 w':=xe.trans (by repeat first|exact kk|apply xe.drew|apply xe.alloc|exact xe.refl _ _) hk4))
  all_goals
   have hzk:=kk.size
   have hz4:=hk4.size
   have HB2:=HBC.out
   rw[HB2]at ham hz0
   simp at hlb hz4
   go_wp2_with fail
   go_meet
  ·refine XL (hLW.keep0 (by repeat first|exact kk|exact hk4|exact xe.trans (xe.drew (xe.refl _ _)) hk4|apply xe.drew|apply xe.alloc|exact xe.refl _ _)) (K0.trans (by repeat first|exact kk|exact hk4|exact xe.trans (xe.drew (xe.refl _ _)) hk4|apply xe.drew|apply xe.alloc|exact xe.refl _ _)) (im1 _) (im2 _) ham (by simp) (by simp;omega)
  ·refine XL (hLW.keep0 (by repeat first|exact kk|exact hk4|exact xe.trans (xe.drew (xe.refl _ _)) hk4|apply xe.drew|apply xe.alloc|exact xe.refl _ _)) (K0.trans (by repeat first|exact kk|exact hk4|exact xe.trans (xe.drew (xe.refl _ _)) hk4|apply xe.drew|apply xe.alloc|exact xe.refl _ _)) (im2 _) (im1 _) ham (by simp) (by simp;omega)
  ·refine XL (hLW.keep0 (by repeat first|exact kk|exact hk4|exact xe.trans (xe.drew (xe.refl _ _)) hk4|apply xe.drew|apply xe.alloc|exact xe.refl _ _)) (K0.trans (by repeat first|exact kk|exact hk4|exact xe.trans (xe.drew (xe.refl _ _)) hk4|apply xe.drew|apply xe.alloc|exact xe.refl _ _)) ((IMap.made w0).keep (S:=[]) (w':=_) (by repeat first|exact kk|exact hk4|exact xe.trans (xe.drew (xe.refl _ _)) hk4|apply xe.drew|apply xe.alloc|exact xe.refl _ _) (by simp)) (IMap.made _) ham (by simp) (by simp;omega)
  ·refine XL (hLW.keep0 (by repeat first|exact kk|exact hk4|exact xe.trans (xe.drew (xe.refl _ _)) hk4|apply xe.drew|apply xe.alloc|exact xe.refl _ _)) (K0.trans (by repeat first|exact kk|exact hk4|exact xe.trans (xe.drew (xe.refl _ _)) hk4|apply xe.drew|apply xe.alloc|exact xe.refl _ _)) ((im1 w0).keep (S:=[]) (by repeat first|exact kk|exact hk4|exact xe.trans (xe.drew (xe.refl _ _)) hk4|apply xe.drew|apply xe.alloc|exact xe.refl _ _) (by simp)) ((im2 w0).keep (S:=[]) (by repeat first|exact kk|exact hk4|exact xe.trans (xe.drew (xe.refl _ _)) hk4|apply xe.drew|apply xe.alloc|exact xe.refl _ _) (by simp)) ham (by simp) (by simp;omega)
  ·refine XL (hLW.keep0 (by repeat first|exact kk|exact hk4|exact xe.trans (xe.drew (xe.refl _ _)) hk4|apply xe.drew|apply xe.alloc|exact xe.refl _ _)) (K0.trans (by repeat first|exact kk|exact hk4|exact xe.trans (xe.drew (xe.refl _ _)) hk4|apply xe.drew|apply xe.alloc|exact xe.refl _ _)) (IMap.made _) ((IMap.made w0).keep (S:=[]) (by repeat first|exact kk|exact hk4|exact xe.trans (xe.drew (xe.refl _ _)) hk4|apply xe.drew|apply xe.alloc|exact xe.refl _ _) (by simp)) ham (by simp) (by simp;omega)
  ·refine XL (hLW.keep0 (by repeat first|exact kk|exact hk4|exact xe.trans (xe.drew (xe.refl _ _)) hk4|apply xe.drew|apply xe.alloc|exact xe.refl _ _)) (K0.trans (by repeat first|exact kk|exact hk4|exact xe.trans (xe.drew (xe.refl _ _)) hk4|apply xe.drew|apply xe.alloc|exact xe.refl _ _)) ((im2 w0).keep (S:=[]) (by repeat first|exact kk|exact hk4|exact xe.trans (xe.drew (xe.refl _ _)) hk4|apply xe.drew|apply xe.alloc|exact xe.refl _ _) (by simp)) ((im1 w0).keep (S:=[]) (by repeat first|exact kk|exact hk4|exact xe.trans (xe.drew (xe.refl _ _)) hk4|apply xe.drew|apply xe.alloc|exact xe.refl _ _) (by simp)) ham (by simp) (by simp;omega)
 case rest=>
  obtain⟨s,rfl,h0,k0,n1,n2,n3,n4⟩:=hcut
  have hN:=hid (show w.heap.size≤s.b/\w.heap.size≤s.lb/\w.heap.size≤s.rb/\w.heap.size≤s.ub from⟨n1,n2,n3,n4⟩)
  have hA:=hid hci
  have hnb:(a.n:Int)≤15000:=by omega
  clear HO hmm HS hB K0 kk n1 n2 n3 n4 HBC hz0 ham hci
  go_wp2_with fail
  go_loopg [6] (a.n-8) (fun r sl wr=>∃(i:Nat) (U:Int→Option Value),r=a.n-i∧i≤20000∧sl=.int .i64 i∧SW wr p a l u S s c m false false 0 0 (fun _=>none) U∧UIn U a.n∧xe [s.ub] wc wr)
  case atStart=>exact⟨8,_,rfl,by omega,rfl,h0,UIn.none _,xe.refl _ _⟩
  case round=>
   obtain⟨i,U,hi,hi2,rfl,hL,hU,hk⟩:=hrel
   have hib:(i:Int)≤20000:=by omega
   have HU:=hid hU
   clear hU
   go_wp2_with fail
   refine(zh wr p a S hL.lw.pw.dev).mono ?_
   rintro e w2 ⟨rfl,rfl⟩
   by_cases hlt:i<a.n
   ·have t1:decide ((i:Int)<(a.n:Int))=true:=by rw[decide_eq_true_eq];omega
    have t2:decide (i<a.n)=true:=by rw[decide_eq_true_eq];omega
    have HI:=hid (And.intro hi hlt)
    clear hi hlt
    go_wp2_with fail
    refine(jo hL i (by omega)).mono ?_
    rintro e w3 ⟨rfl,hL3,hk3⟩
    have hli:=HI.out.2
    have h15:a.n≤15000:=by omega
    go_wp2_with fail
    go_roundg (a.n-(i+8))
    case measure=>have:=HI.out;omega
    case rel=>exact⟨i+8,_,rfl,by omega,by go_num,hL3,HU.out.mark hli,hk.trans hk3⟩
   ·have t1:decide ((i:Int)<(a.n:Int))=false:=by rw[decide_eq_false_iff_not];omega
    have t2:decide (i<a.n)=false:=by rw[decide_eq_false_iff_not];omega
    clear hlt hi
    go_wp2_with fail
    go_ret
    have hn2:=hN.out
    exact⟨s,U,rfl,hL,HU.out,k0.new hk (by simp;omega),hn2.1,hn2.2.1,hn2.2.2.1,hn2.2.2.2⟩
end
open Go.RowKit Go.OpenShut
theorem SW.lts {w:World} {p:Nat} {a:DA} {l u:Int} {S:DS} {s:Sc} {c:Cfg} {cnt:Nat} {st op:Bool} {f t:Int} {R U:Int->Option Value} (h:SW w p a l u S s c cnt st op f t R U):∀b∈a.d::s.bl p a,b<w.heap.size:=by
 unfold Sc.bl
 intro b hb
 simp only[List.mem_cons,List.not_mem_nil,or_false]at hb
 rcases hb with rfl|rfl|rfl|rfl|rfl|rfl|rfl|rfl|rfl
 ·exact h.lw.pw.dev.dev.lt
 ·exact h.lw.pw.pow.lt
 ·exact h.lw.pw.dev.now.lt
 ·exact h.lw.pw.dev.kept.lt
 ·exact h.lw.pw.dev.map.lt
 ·exact h.lw.log.lt
 ·exact h.sec.lt
 ·exact h.rm.lt
 ·exact h.um.lt
open Go.RowKit
theorem Vo {S:DS} {j:Nat} {v:Int} (h:Fix S j v) (ss:List Int):Fix (xh S (kpC ss)) j v:=xy (fun _ hy=>xR hy j) _ h
theorem Wi (S:DS) (ss:List Int) (j:Nat):(xh S (kpC ss)).now j=S.now j:=xJ _ _ fun _ hy=>xR hy j
def Cmd.isFl:Cmd->Prop
 | .fl _=>True
 |_=>False
theorem xa5 {j:Nat} :∀(cs:List Cmd) (S:DS),(∀y∈cs,y.isFl)->((∃i,Cmd.fl i∈cs/\i/8=j/8)\/(S.is (j/8)=true/\S.tok j=S.now j))->(xh S cs).now=S.now/\(xh S cs).is (j/8)=true/\(xh S cs).tok j=S.now j
 | [],S,_,h=>by
  rcases h with⟨i,hi,_⟩|⟨h1,h2⟩
  ·cases hi
  ·exact⟨rfl,h1,h2⟩
 |y::cs,S,hy,h=>by
  have hy0:=hy y List.mem_cons_self
  cases y with
  |st i v=>exact hy0.elim
  |fe=>exact hy0.elim
  |fl i=>
   rw[yV]
   have ih:=xa5 (j:=j) cs (exec S (.fl i)) (fun y h=>hy y (List.mem_cons_of_mem _ h)) (by
    by_cases hij:j/8=i/8
    ·right
     refine⟨?_,?_⟩
     ·show put S.is (i/8) true (j/8)=true
      rw[hij,xO]
     ·show(if j/8=i/8 then S.now j else S.tok j)=S.now j
      rw[if_pos hij]
    ·rcases h with⟨k,hk,hkj⟩|⟨h1,h2⟩
     ·rcases List.mem_cons.1 hk with e|hk
      ·cases e;exact absurd hkj.symm hij
      ·exact .inl ⟨k,hk,hkj⟩
     ·right
      refine⟨?_,?_⟩
      ·show put S.is (i/8) true (j/8)=true
       rw[xI _ _ hij];exact h1
      ·show(if j/8=i/8 then S.now j else S.tok j)=S.now j
       rw[if_neg hij];exact h2)
   exact ih
theorem jw {S:DS} {ss:List Int} {j:Nat} (h:((j/8:Nat):Int)∈ss):Fix (xh S (kpC ss)) j (S.now j):=by
 have e:kpC ss=([Cmd.fl 8]++rowL (flK ss) ss.length)++ [.fe]:=by simp[kpC]
 obtain⟨h1,h2,h3⟩:=xa5 (j:=j) ([Cmd.fl 8]++rowL (flK ss) ss.length) S (fun y hy=>by
  rcases List.mem_append.1 hy with hy|hy
  ·rw[List.mem_singleton]at hy;subst hy;trivial
  ·obtain⟨i,_,rfl⟩:=yO hy;trivial) (by
  obtain⟨i,hi⟩:=List.mem_iff_getElem?.1 h
  have hil:i<ss.length:=by
   rcases Nat.lt_or_ge i ss.length with h1|h1
   ·exact h1
   ·rw[List.getElem?_eq_none h1]at hi;cases hi
  refine .inl ⟨8*(j/8),List.mem_append_right _ ?_,by omega⟩
  unfold rowL
  rw[List.mem_map]
  refine⟨i,List.mem_range.2 hil,?_⟩
  show Cmd.fl (8*(ss.getD i 0).toNat)=_
  rw[List.getD_eq_getElem?_getD,hi]
  rfl)
 rw[e,xg]
 obtain⟨T,hT⟩:∃T,T=xh S ([Cmd.fl 8]++rowL (flK ss) ss.length):=⟨_,rfl⟩
 rw[<-hT]at h1 h2 h3⊢
 refine⟨by show T.now j=_;rw[h1],?_,fun e=>by cases e⟩
 show(if T.is (j/8)=true then T.tok j else T.kept j)=S.now j
 rw[if_pos h2,h3]
structure Wu (c:Cfg) (n e0 r:Nat) (pl:Nat->Nat) (wd:Nat->Int) (U:Int->Option Value) (S:DS):Prop where
 lr:LR c n e0 r 0 pl wd S
 cl:∀j,c.act≤j->j<n->Fix S j (S.now j)
 uin:UIn U n
structure XA (c:Cfg) (n e0 r m:Nat) (pl:Nat->Nat) (wd:Nat->Int) (D:Nat->Int) (f t:Int) (R U:Int->Option Value) (S:DS):Prop where
 lr:LR c n e0 r m pl wd S
 un:∀j,c.act≤j->j<n->xA f t j=false->Und m pl wd D S j
 ri:RecI R m pl (eN e0 r)
 inj:∀i k,i<m->k<m->pl i=pl k->i=k
 nf:∀i,i<m->xA f t (pl i:Nat)=false
 cl:∀j,c.act≤j->j<n->U ((j/8:Nat):Int)=none->Fix S j (S.now j)
 uin:UIn U n
section
variable {c:Cfg} {n e0 r m:Nat} {pl:Nat->Nat} {wd:Nat->Int} {D:Nat->Int} {f t:Int} {R U:Int->Option Value} {S S':DS} {l u:Int} {st:Bool} {ss:List Int}
theorem Wu.begin (h:Wu c n e0 r pl wd U S) (f t:Int) (ss:List Int):XA c n e0 r 0 pl wd S.now f t (fun _=>none) (fun _=>none) (xh S (kpC ss)) where
 lr:=h.lr.kp ss
 un:=fun j h1 h2 _=>.inr ⟨fun _ hi=>absurd hi (Nat.not_lt_zero _),Vo (h.cl j h1 h2) ss⟩
 ri:=RecI.none pl _
 inj:=fun _ _ hi=>absurd hi (Nat.not_lt_zero _)
 nf:=fun _ hi=>absurd hi (Nat.not_lt_zero _)
 cl:=fun j h1 h2 _=>by rw[Wi];exact Vo (h.cl j h1 h2) ss
 uin:=UIn.none n
theorem Zl (S:DS) (i:Nat) (v:Int) (j:Nat):(xh S [.st i v]).now j=if j=i then v else S.now j:=rfl
theorem Yt {S:DS} {i j:Nat} {v:Int} (h:j≠i):Pre S (xh S [.st i v]) j:=xy fun y hy=>by
 rw[List.mem_singleton]at hy
 subst hy
 exact fun e=>h e.symm
theorem Z9 {U:Int->Option Value} {i j:Nat} (h:mkU U i ((j/8:Nat):Int)=none):j/8≠i/8/\U ((j/8:Nat):Int)=none:=by
 unfold mkU at h
 split at h
 ·cases h
 ·rename_i h1
  exact⟨fun e=>h1 (by rw[e]),h⟩
theorem LR.sto (h:LR c n e0 r m pl wd S) {i:Nat} (v:Int) (hi:c.act≤i):LR c n e0 r m pl wd (xh S [.st i v]):=by
 have hact:16+4*c.log≤c.act:=(xD (16+4*c.log)).1
 have hle:=h.le
 exact h.pre (Yt (by omega)) (fun k hk=>⟨Yt (by omega),Yt (by omega),Yt (by omega)⟩) fun k _ hk=>Yt (by omega)
theorem XA.store (h:XA c n e0 r m pl wd D f t R U S) {i:Nat} (v:Int) (hi:c.act≤i/\i<n) (hr:xA f t i=true\/∃k,k<m/\pl k=i):XA c n e0 r m pl wd D f t R (mkU U i) (xh S [.st i v]) where
 lr:=h.lr.sto v hi.1
 un:=fun j h1 h2 h3=>by
  rcases h.un j h1 h2 h3 with h4|⟨h4,h5⟩
  ·exact .inl h4
  ·refine .inr ⟨h4,Yt (fun e=>?_) _ h5⟩
   subst e
   rcases hr with hr|⟨k,hk,hkj⟩
   ·rw[h3]at hr;cases hr
   ·exact h4 k hk hkj
 ri:=h.ri
 inj:=h.inj
 nf:=h.nf
 cl:=fun j h1 h2 h3=>by
  obtain⟨h4,h5⟩:=Z9 h3
  have hne:j≠i:=fun e=>h4 (by rw[e])
  rw[Zl,if_neg hne]
  exact Yt hne _ (h.cl j h1 h2 h5)
 uin:=h.uin.mark hi.2
theorem XA.new (h:XA c n e0 r m pl wd D f t R U S) {i:Nat} (hi:c.act≤i/\i<n) (hm:m<c.log) (hf:xA f t i=false) (hn:∀k,k<m->pl k≠i):
  XA c n e0 r (m+1) (put pl m i) (put wd m (S.now i)) D f t (fun z=>if z=(i:Int)then some (.int .u64 (eN e0 r:Nat))else R z) U (xh S (appL c st false m (eN e0 r) i (S.now i))):=by
 have hact:16+4*c.log≤c.act:=(xD (16+4*c.log)).1
 have hp:∀j,c.act≤j->Pre S (xh S (appL c st false m (eN e0 r) i (S.now i))) j/\(xh S (appL c st false m (eN e0 r) i (S.now i))).now j=S.now j:=fun j hj=>Wp (by omega) (by omega) (by omega)
 refine⟨Wq h.lr hm i (S.now i) hi,fun j h1 h2 h3=>?_,h.ri.grow i,fun a b ha hb hab=>?_,fun a ha=>?_,fun j h1 h2 h3=>?_,h.uin⟩
 ·rcases h.un j h1 h2 h3 with⟨k,hk,h4,h5,h6⟩|⟨h4,h5⟩
  ·exact .inl ⟨k,by omega,by rw[xI _ _ (by omega)];exact h4,by rw[xI _ _ (by omega)];exact h5,fun i' hi'=>by rw[xI _ _ (by omega)];exact h6 i' hi'⟩
  ·by_cases hji:j=i
   ·subst hji
    exact .inl ⟨m,by omega,xO _ _ _,by rw[xO];exact h5.1,fun i' hi'=>by rw[xI _ _ (by omega)];exact h4 i' hi'⟩
   ·refine .inr ⟨fun k hk=>?_,(hp j h1).1 _ h5⟩
    by_cases hkm:k=m
    ·subst hkm;rw[xO];exact fun e=>hji e.symm
    ·rw[xI _ _ hkm];exact h4 k (by omega)
 ·by_cases ham:a=m
  ·by_cases hbm:b=m
   ·omega
   ·subst ham
    rw[xO,xI _ _ hbm]at hab
    exact absurd hab.symm (hn b (by omega))
  ·by_cases hbm:b=m
   ·subst hbm
    rw[xO,xI _ _ ham]at hab
    exact absurd hab (hn a (by omega))
   ·rw[xI _ _ ham,xI _ _ hbm]at hab
    exact h.inj a b (by omega) (by omega) hab
 ·by_cases ham:a=m
  ·subst ham;rw[xO];exact hf
  ·rw[xI _ _ ham];exact h.nf a (by omega)
 ·rw[(hp j h1).2]
  exact(hp j h1).1 _ (h.cl j h1 h2 h3)
theorem XA.kept (h:XA c n e0 r m pl wd D f t R U S) (hK:KeysOf U ss):∀j,c.act≤j->j<n->Fix (xh S (kpC ss)) j (S.now j):=fun j h1 h2=>by
 cases hu:U ((j/8:Nat):Int)with
 |none=>exact Vo (h.cl j h1 h2 hu) ss
 |some v=>exact jw ((hK.2 _).2 (by rw[hu];rfl))
theorem Yc {e:Nat} {y:Cmd} (h:y∈truS c st m e) {j:Nat} (hj:j≠8):y.Off j:=by
 unfold truS at h
 split at h
 ·cases h
 ·exact zH h hj
theorem QD (h:LR c n e0 r m pl wd S):LR c n e0 (rS m r) 0 pl wd (xh S (truS c st m (eN e0 r))):=by
 unfold truS rS
 by_cases h0:m=0
 ·subst h0
  rw[if_pos rfl,if_pos rfl]
  exact h
 ·rw[if_neg h0,if_neg h0]
  exact ZR h pl wd
theorem XA.commit (h:XA c n e0 r m pl wd D f t R U S) (hK:KeysOf U ss):Wu c n e0 (rS m r) pl wd (fun _=>none) (xh S (kpC ss++truS c st m (eN e0 r)))/\∀j,c.act≤j->j<n->Fix (xh S (kpC ss++truS c st m (eN e0 r))) j (S.now j):=by
 have hact:16+4*c.log≤c.act:=(xD (16+4*c.log)).1
 have hF:∀j,c.act≤j->j<n->Fix (xh S (kpC ss++truS c st m (eN e0 r))) j (S.now j):=fun j h1 h2=>by
  rw[xg]
  exact xy (fun y hy=>Yc hy (by omega)) _ (h.kept hK j h1 h2)
 refine⟨⟨?_,fun j h1 h2=>?_,UIn.none n⟩,hF⟩
 ·rw[xg]
  exact QD (h.lr.kp ss)
 ·rw[(hF j h1 h2).1]
  exact hF j h1 h2
theorem QC {j:Nat} (h:Und m pl wd D S j):Fix (xh (xh S (undP pl wd m m)) [.fe]) j (D j):=by
 rcases h with⟨i,hi,h3,h4,h5⟩|⟨h3,h4⟩
 ·obtain⟨i1,a1,a2,a3,a4,a5,a6,a7⟩:=XD pl wd m S m (Nat.le_refl _) j ⟨i,by omega,hi,h3⟩
  have:i1=i:=by
   rcases Nat.lt_trichotomy i1 i with hl|he|hg
   ·exact absurd a3 (h5 i1 hl)
   ·exact he
   ·exact absurd h3 (a4 i (by omega) hg)
  subst this
  rw[h4]at a5 a7
  refine⟨a5,?_,fun e=>by cases e⟩
  show(if(xh S (undP pl wd m m)).is (j/8)=true then(xh S (undP pl wd m m)).tok j else(xh S (undP pl wd m m)).kept j)=D j
  rw[if_pos a6,a7]
 ·refine xy (fun y hy=>?_) _ (xy (fun y hy=>?_) _ h4)
  ·simp at hy;subst hy;trivial
  ·obtain⟨i',hi',rfl|rfl⟩:=Xc (Nat.le_refl _) hy
   ·exact h3 i' hi'
   ·trivial
theorem Und.pre {j:Nat} (h:Und m pl wd D S j) (hp:(∀i,i<m->pl i≠j)->Pre S S' j):Und m pl wd D S' j:=by
 rcases h with h|⟨h1,h2⟩
 ·exact .inl h
 ·exact .inr ⟨h1,hp h1 _ h2⟩
theorem xbI {j:Nat} (h:Und m pl wd D S j) (hj:j≠8) (e:Nat):Fix (xh S (undL c st pl wd m e)) j (D j):=by
 rw[vw,xg,xg,xg]
 refine xy (fun y hy=>zH hy hj) _ (QC (h.pre fun _=>xy fun y hy=>zZ hy j))
theorem Qz {j:Nat} (h:∀i,i<m->pl i≠j) (hj:j≠8) (e:Nat):∀y∈undL c st pl wd m e,y.Off j:=fun y hy=>by
 rw[vw]at hy
 rcases List.mem_append.1 hy with hy|hy
 ·exact ZQ hy h
 ·exact zH hy hj
theorem xew (h:LR c n e0 r m pl wd S):LR c n e0 (r+1) 0 pl wd (xh S (undL c st pl wd m (eN e0 r))):=by
 have hact:16+4*c.log≤c.act:=(xD (16+4*c.log)).1
 have hle:=h.le
 rw[vw,xg]
 have hp:∀j,j<c.act->Pre S (xh S (sL c st++(undP pl wd m m++ [Cmd.fe]))) j:=fun j hj=>xy fun y hy=>ZQ hy fun i hi e=>by have:=(h.recs i hi).2.2.2.1;omega
 exact ZR (h.pre (hp 8 (by omega)) (fun i hi=>⟨hp _ (by omega),hp _ (by omega),hp _ (by omega)⟩) fun i _ hi=>hp _ (by omega)) pl wd
theorem XA.abort (h:XA c n e0 r m pl wd D f t R U S) (hK:KeysOf U ss):Wu c n e0 (rS m r) pl wd (fun _=>none) (xh S (undS c st pl wd m (eN e0 r)++kpC ss))/\
  ∀j,c.act≤j->j<n->(xh S (undS c st pl wd m (eN e0 r)++kpC ss)).now j=if xA f t j=true then S.now j else D j:=by
 have hact:16+4*c.log≤c.act:=(xD (16+4*c.log)).1
 have hnf:∀j,xA f t (j:Nat)=true->∀i,i<m->pl i≠j:=fun j hj i hi e=>by
  have:=h.nf i hi
  rw[e,hj]at this
  cases this
 have hlr:LR c n e0 (rS m r) 0 pl wd (xh S (undS c st pl wd m (eN e0 r))):=by
  unfold undS rS
  by_cases h0:m=0
  ·subst h0
   rw[if_pos rfl,if_pos rfl]
   exact h.lr
  ·rw[if_neg h0,if_neg h0]
   exact xew h.lr
 have hun:∀j,c.act≤j->j<n->xA f t j=false->Fix (xh S (undS c st pl wd m (eN e0 r))) j (D j):=fun j h1 h2 h3=>by
  have hu:=h.un j h1 h2 h3
  unfold undS
  by_cases h0:m=0
  ·subst h0
   rw[if_pos rfl]
   rcases hu with⟨i,hi,_⟩|⟨_,h4⟩
   ·exact absurd hi (Nat.not_lt_zero _)
   ·exact h4
  ·rw[if_neg h0]
   exact xbI hu (by omega) _
 have hoff:∀j,c.act≤j->xA f t j=true->∀y∈undS c st pl wd m (eN e0 r),y.Off j:=fun j h1 h3 y hy=>by
  unfold undS at hy
  split at hy
  ·cases hy
  ·exact Qz (hnf j h3) (by omega) _ y hy
 have hnow:∀j,c.act≤j->j<n->(xh S (undS c st pl wd m (eN e0 r)++kpC ss)).now j=if xA f t j=true then S.now j else D j:=fun j h1 h2=>by
  rw[xg,Wi]
  cases h3:xA f t (j:Nat)with
  |true=>rw[if_pos rfl];exact xJ _ _ (hoff j h1 h3)
  |false=>rw[if_neg (by simp)];exact(hun j h1 h2 h3).1
 refine⟨⟨?_,fun j h1 h2=>?_,UIn.none n⟩,hnow⟩
 ·rw[xg]
  exact hlr.kp ss
 ·rw[xg,Wi]
  cases h3:xA f t (j:Nat)with
  |false=>
   have:=hun j h1 h2 h3
   rw[this.1]
   exact Vo this ss
  |true=>
   cases hu:U ((j/8:Nat):Int)with
   |none=>
    rw[xJ _ _ (hoff j h1 h3)]
    exact Vo (xy (hoff j h1 h3) _ (h.cl j h1 h2 hu)) ss
   |some v=>exact jw ((hK.2 _).2 (by rw[hu];rfl))
end
end Go.Proofs.YtcdhklgahepcaaaGreat
