import Derived.Test.YtcdhklgahepcaaaGreatAwk
import Derived.IntWalk
import Derived.Test.YtcdhklgahepcaaaGreatMaps
import Derived.Laws.CopyOwn
import Derived.StillTailTactics
import Derived.Deep.RegionHeld3
import Derived.Laws.MakeOwn
import Derived.Maps.AppendAt
set_option maxHeartbeats 1000000
set_option maxRecDepth 100000
namespace Go.Proofs.YtcdhklgahepcaaaGreat
open Go.RowKit
def u64s (n:Nat) (f:Nat->Int):Array Value:=Array.ofFn (n:=n) fun i=>.int .u64 (f i)
theorem yx (n:Nat) (f:Nat->Int):(u64s n f).size=n:=by simp[u64s]
theorem xG {n:Nat} {f:Nat->Int} {i:Nat} (h:i<n):(u64s n f)[i]? =some (.int .u64 (f i)):=by
 simp[u64s,h]
theorem Yb {n:Nat} {a:Array Value} {f:Nat->Int} (hs:a.size=n) (h:∀i,i<n->a[i]? =some (.int .u64 (f i))):a=u64s n f:=by
 apply Array.ext_getElem?
 intro i
 by_cases hi:i<n
 ·rw[h i hi,xG hi]
 ·rw[Array.getElem?_eq_none (by omega),Array.getElem?_eq_none (by rw[yx];omega)]
def put {α:Type} (f:Nat->α) (i:Nat) (v:α):Nat->α:=fun j=>if j=i then v else f j
theorem jV (n:Nat) (f:Nat->Int) (i:Nat) (v:Int):(u64s n f).setIfInBounds i (.int .u64 v)=u64s n (put f i v):=by
 refine Yb (by simp[yx]) fun j hj=>?_
 rw[Array.getElem?_setIfInBounds]
 by_cases h:i=j
 ·subst h
  simp[yx,hj,put]
 ·rw[if_neg h,xG hj]
  simp[put,Ne.symm h]
theorem yG {n:Nat} {f g:Nat->Int} (h:∀i,i<n->f i=g i):u64s n f=u64s n g:=
 Yb (yx _ _) fun i hi=>by rw[xG hi,h i hi]
def over (f g:Nat->Int) (off soff n:Nat):Nat->Int:=fun i=>if off≤i/\i<off+n then g (soff+(i-off))else f i
theorem Wy {N off soff n:Nat} {f g:Nat->Int} (h:off+n≤N):
  ((u64s N f).toList.take off++((List.range n).map fun j=>Value.int .u64 (g (soff+j)))++(u64s N f).toList.drop (off+((List.range n).map fun j=>Value.int .u64 (g (soff+j))).length)).toArray=u64s N (over f g off soff n):=by
 refine Yb (by simp[yx];omega) fun i hi=>?_
 have hl:((u64s N f).toList.take off).length=off:=by simp[yx];omega
 simp only[List.getElem?_toArray,List.length_map,List.length_range]
 by_cases h1:i<off
 ·rw[List.append_assoc,List.getElem?_append_left (by omega),List.getElem?_take_of_lt h1,Array.getElem?_toList,xG hi]
  simp[over,show¬off≤i by omega]
 ·by_cases h2:i<off+n
  ·rw[List.append_assoc,List.getElem?_append_right (by omega),hl,List.getElem?_append_left (by simp;omega)]
   simp[over,h2,show off≤i by omega,show i-off<n by omega]
  ·rw[List.getElem?_append_right (by simp[yx];omega),List.getElem?_drop,Array.getElem?_toList]
   rw[show off+n+(i-((u64s N f).toList.take off++(List.range n).map fun j=>Value.int .u64 (g (soff+j))).length)=i from by simp[yx];omega,xG hi]
   simp[over,show¬i<off+n by omega]
theorem Zb {P:Program} {w:World} {ops:Array Oper} {rest:List Oper} {o:Oper} {a:Act} {Q:Exit->Act->World->Prop} (hgd:o.guard=none) (d s:Operand) (dT sT:TypeId)
  (ho:o.op=.call { callee:=.builtin .copy,args:=#[d,s],argTypes:=#[dT,sT] }) (elem:TypeId) (hu:P.underlying dT=some (.slice elem)) (hsz:(P.info? elem).map (·.size)=some 1)
  (g off dLen dCap b soff sLen sCap:Nat) (hd:a.eval d=.slice (some ⟨g,off,none⟩) dLen dCap) (hs:a.eval s=.slice (some ⟨b,soff,none⟩) sLen sCap)
  (N M:Nat) (f f2:Nat->Int) (T T2:TypeId) (fz:Nat×Nat) (hg:At w g (.cells (u64s N f) T (0,0))) (hb:At w b (.cells (u64s M f2) T2 fz)) (n:Nat) (hn:n=min sLen dLen) (hfit:off+n≤N) (hsrc:soff+n≤M)
  (hK:∀w',At w' g (.cells (u64s N (over f f2 off soff n)) T (0,0))->xe [g] w w'->wpList P ops Q rest (a.put o.dst (.int .i64 n)) w'):
  wpList P ops Q (o::rest) a w:=by
 have e:=Wy (soff:=soff) (f:=f) (g:=f2) hfit
 refine wpList_copy_own hgd d s dT sT ho elem hu hsz g off dLen dCap ⟨b,soff,none⟩ sLen sCap hd hs (u64s N f) T hg ((List.range n).map fun j=>Value.int .u64 (f2 (soff+j))) (by simpa using hn) ?_ (by simp[yx];omega) (by simp[Value.oneCell']) ?_
 ·intro j v hj
  obtain⟨hj1,rfl⟩:=List.getElem?_eq_some_iff.1 hj
  have hj2:j<n:=by simpa using hj1
  rw[List.getElem_map,List.getElem_range]
  have e2:(⟨b,soff,none⟩:Addr).add j=⟨b,soff+j,none⟩:=by unfold Addr.add;split<;>simp_all
  rw[e2]
  exact hb.cell (soff+j) (xG (by omega))
 ·rw[<-List.append_assoc,e]
  have hk:xe [g] w (w.setRow g (u64s N (over f f2 off soff n))):=by
   refine⟨rfl,rfl,rfl,by simp[World.setRow],fun k _ hk=>setRow_other w g k _ (by simpa using hk)⟩
  have hh:At (w.setRow g (u64s N (over f f2 off soff n))) g (.cells (u64s N (over f f2 off soff n)) T (0,0)):=setRow_heap w g _ _ T _ hg
  have:=hK _ hh hk
  simpa[goInt]using this
theorem xbh {w:World} {ops:Array Oper} {rest:List Oper} {o:Oper} {a:Act} {Q:Exit->Act->World->Prop} (hgd:o.guard=none) (d s:Operand)
  (ho:o.op=.call { callee:=.builtin .copy,args:=#[d,s],argTypes:=#[60,60] })
  (g off dLen dCap b soff sLen sCap:Nat) (hd:a.eval d=.slice (some ⟨g,off,none⟩) dLen dCap) (hs:a.eval s=.slice (some ⟨b,soff,none⟩) sLen sCap)
  (N M:Nat) (f f2:Nat->Int) (T T2:TypeId) (fz:Nat×Nat) (hg:At w g (.cells (u64s N f) T (0,0))) (hb:At w b (.cells (u64s M f2) T2 fz)) (n:Nat) (hn:n=min sLen dLen) (hfit:off+n≤N) (hsrc:soff+n≤M)
  (hK:∀w',At w' g (.cells (u64s N (over f f2 off soff n)) T (0,0))->xe [g] w w'->wpList Tryz.prog ops Q rest (a.put o.dst (.int .i64 n)) w'):
  wpList Tryz.prog ops Q (o::rest) a w:=
 Zb hgd d s _ _ ho 26 Tryz.underlying60 (by kernel_rfl) g off dLen dCap b soff sLen sCap hd hs N M f f2 T T2 fz hg hb n hn hfit hsrc hK
theorem yY {P:Program} {id:Nat} {Q:Exit->Act->World->Prop} {a:Act} {w:World} {l:List Oper} (n:Nat) (hm:P.follows .mixedOrders=true) (hB:Region.lexTailB .any l.toArray n=true)
  (h:∀w2,xe [] w w2->Hid (w2.heap.size=w.heap.size)->wpStill P l.toArray w2 (fun a'=>wpList P l.toArray Q (l.drop n) a' w2) (l.take n) a):(Code.region id l.toArray true).wp P Q a w:=
 wp_region_still_tail n hm hB (h _ ((xe.refl _ _).drew) (hid rfl))
structure DA where
 d:Nat
 s:Nat
 k:Nat
 m:Nat
 L:Nat
def DA.n (a:DA):Nat:=8*a.L
theorem DA.n8 (a:DA):a.n=8*a.L:=rfl
structure DS where
 now:Nat->Int
 kept:Nat->Int
 tok:Nat->Int
 is:Nat->Bool
def X7 (f:Nat->Int) (k:Nat):Value:=
 .agg #[.int .u64 (f (8*k)),.int .u64 (f (8*k+1)),.int .u64 (f (8*k+2)),.int .u64 (f (8*k+3)),.int .u64 (f (8*k+4)),.int .u64 (f (8*k+5)),.int .u64 (f (8*k+6)),.int .u64 (f (8*k+7))]
theorem YN (f:Nat->Int) (k:Nat):(X7 f k).cells=u64s 8 fun j=>f (8*k+j):=
 Yb rfl fun i hi=>by
  match i,hi with
  |0,_=>rfl
  |1,_=>rfl
  |2,_=>rfl
  |3,_=>rfl
  |4,_=>rfl
  |5,_=>rfl
  |6,_=>rfl
  |7,_=>rfl
def lines (tok:Nat->Int) (is:Nat->Bool) (k:Int):Option Value:=if 0≤k/\is k.toNat=true then some (X7 tok k.toNat)else none
abbrev devO (p:Nat) (a:DA):Obj:=.cells #[ptr p,.slice (some ⟨a.s,0,none⟩) a.n a.n,.slice (some ⟨a.k,0,none⟩) a.n a.n,.map (some a.m)] 98
structure Dev (w:World) (p:Nat) (a:DA) (S:DS):Prop where
 dev:At w a.d (devO p a)
 now:At w a.s (.cells (u64s a.n S.now) 26)
 kept:At w a.k (.cells (u64s a.n S.kept) 26)
 map:IMap w a.m (lines S.tok S.is)
 line:∀k,S.is k=true->k<a.L
 few:a.L≤2199023255552
 ds:a.d≠a.s
 dk:a.d≠a.k
 dm:a.d≠a.m
 sk:a.s≠a.k
 sm:a.s≠a.m
 km:a.k≠a.m
 pd:p≠a.d
 ps:p≠a.s
 pk:p≠a.k
 pm:p≠a.m
theorem Dev.keep {w w':World} {p:Nat} {a:DA} {S:DS} {T:List Nat} (h:Dev w p a S) (hk:xe T w w') (hd:a.d∉T) (hs:a.s∉T) (hkk:a.k∉T) (hm:a.m∉T):Dev w' p a S:=
 { h with
  dev:=hk.at h.dev hd
  now:=hk.at h.now hs
  kept:=hk.at h.kept hkk
  map:=h.map.keep hk hm }
theorem Dev.fresh {w:World} {p:Nat} {a:DA} {S:DS} (h:Dev w p a S) {g:Nat} (hg:w.heap.size≤g):a.d≠g/\a.s≠g/\a.k≠g/\a.m≠g:=by
 have h1:=h.dev.lt
 have h2:=h.now.lt
 have h3:=h.kept.lt
 have h4:=h.map.lt
 omega
theorem xaC (tok now:Nat->Int) (is:Nat->Bool) (k:Nat) (z:Int):
  (if z=(k:Int)then some (X7 now k)else lines tok is z)=lines (fun j=>if j/8=k then now j else tok j) (put is k true) z:=by
 by_cases hz:z=k
 ·subst hz
  rw[if_pos rfl]
  unfold lines
  rw[if_pos (by simp[put])]
  simp[X7,show 8*k/8=k by omega,show(8*k+1)/8=k by omega,show(8*k+2)/8=k by omega,show(8*k+3)/8=k by omega,show(8*k+4)/8=k by omega,
   show(8*k+5)/8=k by omega,show(8*k+6)/8=k by omega,show(8*k+7)/8=k by omega]
 ·rw[if_neg hz]
  unfold lines
  by_cases h0:0≤z
  ·have hk:z.toNat≠k:=by omega
   have e:put is k true z.toNat=is z.toNat:=by simp[put,hk]
   rw[e]
   by_cases hi:is z.toNat=true
   ·rw[if_pos ⟨h0,hi⟩,if_pos ⟨h0,hi⟩]
    obtain⟨n,hn⟩:∃n,n=z.toNat:=⟨_,rfl⟩
    rw[<-hn]at hk⊢
    simp[X7,show 8*n/8=n by omega,show(8*n+1)/8=n by omega,show(8*n+2)/8=n by omega,show(8*n+3)/8=n by omega,show(8*n+4)/8=n by omega,
     show(8*n+5)/8=n by omega,show(8*n+6)/8=n by omega,show(8*n+7)/8=n by omega,hk]
   ·rw[if_neg (fun h=>hi h.2),if_neg (fun h=>hi h.2)]
  ·rw[if_neg (fun h=>h0 h.1),if_neg (fun h=>h0 h.1)]
theorem zh (w:World) (p:Nat) (a:DA) (S:DS) (h:Dev w p a S):
  Calls Tryz.prog 69 #[ptr a.d] w fun e w'=>e=.returned (.int .i64 a.n)/\w=w':=by
 have c1:=h.dev.cell 1 rfl
 go_enter Tryz.func69,Tryz.ntmps69
 go_wp2
 go_ret
 exact⟨rfl,rfl⟩
def hasB (i:Int) (n:Nat):Bool:=decide (0≤i/\i<n)
theorem Vm (w:World) (p:Nat) (a:DA) (S:DS) (i:Int) (h:Dev w p a S):
  Calls Tryz.prog 177 #[ptr a.d,.int .i64 i] w fun e w'=>e=.returned (.bool (hasB i a.n))/\w=w':=by
 have c1:=h.dev.cell 1 rfl
 by_cases h0:0≤i
 ·have h1:decide (0≤i)=true:=by simpa using h0
  go_enter Tryz.func177,Tryz.ntmps177
  go_wp2
  go_ret
  refine⟨?_,rfl⟩
  simp[hasB,h0]
 ·have h1:decide (0≤i)=false:=by simpa using h0
  go_enter Tryz.func177,Tryz.ntmps177
  go_wp2
  go_ret
  refine⟨?_,rfl⟩
  simp[hasB]
  omega
theorem YY {i n:Nat} (h:i<n):hasB i n=true:=by simp[hasB,h]
theorem zn (w:World) (p:Nat) (a:DA) (S:DS) (i:Nat) (h:Dev w p a S) (hi:i<a.n):
  Calls Tryz.prog 107 #[ptr a.d,.int .i64 i] w fun e w'=>e=.returned (.int .u64 (S.now i))/\w=w':=by
 have c1:=h.dev.cell 1 rfl
 have c2:=h.now.cell i (xG hi)
 have hb:=Vm w p a S i h
 rw[YY hi]at hb
 have HB:=hid hb
 have hn:=h.few
 clear hb
 go_enter Tryz.func107,Tryz.ntmps107
 go_wp2_with fail
 refine HB.out.mono ?_
 rintro e w1 ⟨rfl,rfl⟩
 go_wp2
 go_ret
 exact⟨rfl,rfl⟩
theorem XM (w:World) (p:Nat) (a:DA) (S:DS) (i:Nat) (v:Int) (h:Dev w p a S) (hi:i<a.n) (hv:S.now i=v):
  Calls Tryz.prog 107 #[ptr a.d,.int .i64 i] w fun e w'=>e=.returned (.int .u64 v)/\w=w':=by
 rw[<-hv]
 exact zn w p a S i h hi
abbrev VC (l u:Int):Prop:=l<0\/u<l
theorem Dev.set_now {w:World} {p:Nat} {a:DA} {S:DS} (h:Dev w p a S) (i:Nat) (v:Int):Dev (w.setCell ⟨a.s,i,none⟩ (.int .u64 v)) p a { S with now:=put S.now i v } :=
 { h with
  dev:=h.dev.set_ne h.ds _
  now:=by have:=h.now.set i (.int .u64 v);rwa[jV]at this
  kept:=h.kept.set_ne h.sk.symm _
  map:=h.map.keep ((xe.refl [a.s] w).set (.inl (by simp)) _) (by simpa using h.sm.symm) }
theorem jX (w:World) (p:Nat) (a:DA) (S:DS) (l u:Int) (i:Nat) (v:Int) (h:Dev w p a S) (hp:At w p (powO l u)) (hi:i<a.n) (hu0:0≤u) (hu1:u<9223372036854775807) (hst:VC l u):
  Calls Tryz.prog 145 #[ptr a.d,.int .i64 i,.int .u64 v] w fun e w'=>
   e=.returned (.int .i64 0)/\Dev w' p a { S with now:=put S.now i v } /\At w' p (powO l (u+1))/\xe [p,a.s] w w':=by
 have c0:=h.dev.cell 0 rfl
 have hb:=Vm w p a S i h
 rw[YY hi]at hb
 have HB:=hid hb
 have HT:=hid (vz p l u w hp hu0 hu1 hst)
 have hn:=h.few
 clear hb hst
 go_enter Tryz.func145,Tryz.ntmps145
 go_wp2_with fail
 refine HB.out.mono ?_
 rintro e w1 ⟨rfl,rfl⟩
 go_wp2_with fail
 refine HT.out.mono ?_
 rintro e w1 ⟨rfl,hp1,hk1⟩
 have h1:=h.keep hk1 (by simp[h.pd.symm]) (by simp[h.ps.symm]) (by simp[h.pk.symm]) (by simp[h.pm.symm])
 have c1:=h1.dev.cell 1 rfl
 have c2:=h1.now.cell i (xG hi)
 have c3:=h1.now.free i
 go_wp2
 go_ret
 exact⟨rfl,h1.set_now i v,hp1.set_ne h.ps _,(hk1.mono (by simp+contextual)).set (.inl (by simp)) _⟩
theorem qh (w:World) (p:Nat) (a:DA) (S:DS) (u:Int) (i:Nat) (v:Int) (h:Dev w p a S) (hp:At w p (powO u u)) (hi:i<a.n) (hu0:0≤u) (hu1:u<9223372036854775807):
  Calls Tryz.prog 145 #[ptr a.d,.int .i64 i,.int .u64 v] w fun e w'=>
   e=.panicked [{ v:=xP,recovered:=false }]/\Dev w' p a S/\At w' p (powO u u)/\xe [] w w':=by
 have c0:=h.dev.cell 0 rfl
 have hb:=Vm w p a S i h
 rw[YY hi]at hb
 have HB:=hid hb
 have HT:=hid (Xd p u u w hp hu0 hu1 hu0 rfl)
 have hn:=h.few
 clear hb
 go_enter Tryz.func145,Tryz.ntmps145
 go_wp2_with fail
 refine HB.out.mono ?_
 rintro e w1 ⟨rfl,rfl⟩
 go_wp2_with fail
 refine HT.out.mono ?_
 rintro e w1 ⟨rfl,hp1,hk1⟩
 exact⟨rfl,rfl,h.keep hk1 (by simp) (by simp) (by simp) (by simp),hp1,hk1⟩
theorem xcE (w:World) (p:Nat) (a:DA) (S:DS) (l u:Int) (i:Nat) (h:Dev w p a S) (hp:At w p (powO l u)) (hi:i<a.n) (hu0:0≤u) (hu1:u<9223372036854775807) (hst:VC l u):
  Calls Tryz.prog 146 #[ptr a.d,.int .i64 i] w fun e w'=>
   e=.returned (.int .i64 0)/\Dev w' p a { S with tok:=fun j=>if j/8=i/8 then S.now j else S.tok j,is:=put S.is (i/8) true } /\At w' p (powO l (u+1))/\xe [p,a.m] w w':=by
 have c0:=h.dev.cell 0 rfl
 have hb:=Vm w p a S i h
 rw[YY hi]at hb
 have HB:=hid hb
 have HT:=hid (vz p l u w hp hu0 hu1 hst)
 have hn:=h.few
 clear hb hst
 obtain⟨k,hk⟩:∃k,k=i/8:=⟨_,rfl⟩
 have HK:=hid hk
 have e8:(i:Int)/8=(k:Int):=by omega
 have hib:(i:Int)≤9007199254740992:=by have:=a.n8;omega
 have hkb:k≤1125899906842624:=by omega
 obtain⟨q,hq⟩:∃q,q=8*k:=⟨_,rfl⟩
 have e9:IntKind.i64.wrap ((k:Int)*8)=(q:Int):=by rw[IntWalk.i64_in _ (by omega)];omega
 have hq1:(q:Int)<(a.n:Int):=by have:=a.n8;omega
 have hq2:q<a.n:=by omega
 have hq3:¬a.n=q:=by omega
 have hq4:(0:Int)≤(q:Int):=by omega
 have hq5:(q:Int)≤(a.n:Int):=by omega
 have HQ:=hid hq
 clear hk hq
 go_enter Tryz.func146,Tryz.ntmps146
 go_wp2_with fail
 refine HB.out.mono ?_
 rintro e w1 ⟨rfl,rfl⟩
 go_wp2_with fail
 refine HT.out.mono ?_
 rintro e w1 ⟨rfl,hp1,hk1⟩
 have h1:=h.keep hk1 (by simp[h.pd.symm]) (by simp[h.ps.symm]) (by simp[h.pk.symm]) (by simp[h.pm.symm])
 have c1:=h1.dev.cell 1 rfl
 have c3:=h1.dev.cell 3 rfl
 have c2:=h1.now.cell i (xG hi)
 go_wp2
 have h1b:Dev (w1.alloc (.cells #[.int .u64 0,.int .u64 0,.int .u64 0,.int .u64 0,.int .u64 0,.int .u64 0,.int .u64 0,.int .u64 0] 172)) p a S:=h1.keep ((xe.refl [] _).alloc _) (by simp) (by simp) (by simp) (by simp)
 have hL:=At.new w1 (.cells #[.int .u64 0,.int .u64 0,.int .u64 0,.int .u64 0,.int .u64 0,.int .u64 0,.int .u64 0,.int .u64 0] 172)
 refine yY 8 (by kernel_rfl) (by kernel_rfl) ?_
 intro w2 hk2 hz2
 simp only[List.take_succ_cons,List.take_zero,List.drop_succ_cons,List.drop_zero]
 have h2:=h1b.keep hk2 (by simp) (by simp) (by simp) (by simp)
 have c1:=h2.dev.cell 1 rfl
 repeat still_step
 refine wpStill_nil ?_
 have hL2:=hk2.at hL (by simp)
 refine xbh rfl _ _ rfl w1.heap.size 0 8 8 a.s q (a.n-q) (a.n-q) rfl rfl 8 a.n (fun _=>0) S.now _ _ _ hL2 h2.now 8 (by have:=HQ.out;have:=HK.out;have:=a.n8;omega) (by omega) (by have:=HQ.out;have:=HK.out;have:=a.n8;omega) ?_
 intro w3 hL3 hk3
 obtain⟨f1,f2,f3,f4⟩:=h1.fresh (Nat.le_refl _)
 have h3:=h2.keep hk3 (by simpa using f1) (by simpa using f2) (by simpa using f3) (by simpa using f4)
 clear f1 f2 f3 f4
 have c3:=h3.dev.cell 3 rfl
 go_wp2_with fail
 refine yY 6 (by kernel_rfl) (by kernel_rfl) ?_
 intro w4 hk4 hz4
 simp only[List.take_succ_cons,List.take_zero,List.drop_succ_cons,List.drop_zero]
 have h4:=h3.keep hk4 (by simp) (by simp) (by simp) (by simp)
 have hL4:=hk4.at hL3 (by simp)
 have c3:=h4.dev.cell 3 rfl
 have d0:=hL4.cell 0 (xG (by omega))
 have d1:=hL4.cell 1 (xG (by omega))
 have d2:=hL4.cell 2 (xG (by omega))
 have d3:=hL4.cell 3 (xG (by omega))
 have d4:=hL4.cell 4 (xG (by omega))
 have d5:=hL4.cell 5 (xG (by omega))
 have d6:=hL4.cell 6 (xG (by omega))
 have d7:=hL4.cell 7 (xG (by omega))
 repeat still_step
 refine wpStill_nil ?_
 refine zl rfl _ _ _ _ rfl 3 172 Tryz.underlying96 Tryz.underlying3 a.m _ rfl h4.map k _ rfl rfl ?_
 intro w5 hM5 hk5
 have e:∀j,j<8->over (fun _=>0) S.now 0 q 8 j=S.now (8*k+j):=by
  intro j hj
  have:=HQ.out
  simp[over,hj,this]
 rw[e 0 (by omega),e 1 (by omega),e 2 (by omega),e 3 (by omega),e 4 (by omega),e 5 (by omega),e 6 (by omega),e 7 (by omega)]at hM5
 have hM6:=hM5.congr (xaC S.tok S.now S.is k)
 have HM6:=hid hM6
 clear hM5 hM6 e d0 d1 d2 d3 d4 d5 d6 d7 hL4 c3 e8 e9 hq3
 go_wp2
 go_ret
 have hK:=HK.out
 subst hK
 have hp5:At w5 p (powO l (u+1)):=by
  have q1:=hk2.at (hp1.alloc (.cells #[.int .u64 0,.int .u64 0,.int .u64 0,.int .u64 0,.int .u64 0,.int .u64 0,.int .u64 0,.int .u64 0] 172)) (by simp)
  have q2:=hk3.at q1 (by have:=hp1.lt;simp;omega)
  exact hk5.at (hk4.at q2 (by simp)) (by simpa using h.pm)
 have hk:xe [p,a.m] w w5:=by
  exact((((((hk1.mono (S':=[p,a.m]) (by simp+contextual)).alloc _).new hk2 (by simp)).new hk3 (by have:=hk1.size;simp;omega)).new hk4 (by simp)).new hk5 (by simp))
 refine⟨rfl,?_,hp5,hk⟩
 exact { h with
  dev:=hk5.at h4.dev (by simpa using h.dm)
  now:=hk5.at h4.now (by simpa using h.sm)
  kept:=hk5.at h4.kept (by simpa using h.km)
  map:=HM6.out
  line:=fun k hk=>by
   by_cases hkk:k=i/8
   ·have:=a.n8;omega
   ·exact h.line k (by simpa[put,hkk]using hk) }
theorem qW (w:World) (p:Nat) (a:DA) (S:DS) (u:Int) (i:Nat) (h:Dev w p a S) (hp:At w p (powO u u)) (hi:i<a.n) (hu0:0≤u) (hu1:u<9223372036854775807):
  Calls Tryz.prog 146 #[ptr a.d,.int .i64 i] w fun e w'=>
   e=.panicked [{ v:=xP,recovered:=false }]/\Dev w' p a S/\At w' p (powO u u)/\xe [] w w':=by
 have c0:=h.dev.cell 0 rfl
 have hb:=Vm w p a S i h
 rw[YY hi]at hb
 have HB:=hid hb
 have HT:=hid (Xd p u u w hp hu0 hu1 hu0 rfl)
 have hn:=h.few
 clear hb
 go_enter Tryz.func146,Tryz.ntmps146
 go_wp2_with fail
 refine HB.out.mono ?_
 rintro e w1 ⟨rfl,rfl⟩
 go_wp2_with fail
 refine HT.out.mono ?_
 rintro e w1 ⟨rfl,hp1,hk1⟩
 exact⟨rfl,rfl,h.keep hk1 (by simp) (by simp) (by simp) (by simp),hp1,hk1⟩
theorem qY (w:World) (p:Nat) (a:DA) (S:DS) (u:Int) (h:Dev w p a S) (hp:At w p (powO u u)) (hu0:0≤u) (hu1:u<9223372036854775807):
  Calls Tryz.prog 147 #[ptr a.d] w fun e w'=>
   e=.panicked [{ v:=xP,recovered:=false }]/\Dev w' p a S/\At w' p (powO u u)/\xe [] w w':=by
 have c0:=h.dev.cell 0 rfl
 have HT:=hid (Xd p u u w hp hu0 hu1 hu0 rfl)
 go_enter Tryz.func147,Tryz.ntmps147
 go_wp2_with fail
 refine HT.out.mono ?_
 rintro e w1 ⟨rfl,hp1,hk1⟩
 exact⟨rfl,rfl,h.keep hk1 (by simp) (by simp) (by simp) (by simp),hp1,hk1⟩
theorem xcM (w:World) (p:Nat) (a:DA) (S:DS) (l u:Int) (h:Dev w p a S) (hp:At w p (powO l u)) (hu0:0≤u) (hu1:u<9223372036854775807) (hst:VC l u):
  Calls Tryz.prog 147 #[ptr a.d] w fun e w'=>
   e=.returned (.tuple #[])/\Dev w' p a { S with kept:=fun i=>if S.is (i/8)=true then S.tok i else S.kept i,is:=fun _=>false } /\At w' p (powO l (u+1))/\xe [p,a.k,a.m] w w':=by
 have c0:=h.dev.cell 0 rfl
 have HT:=hid (vz p l u w hp hu0 hu1 hst)
 have hn:=h.few
 clear hst
 go_enter Tryz.func147,Tryz.ntmps147
 go_wp2_with fail
 refine HT.out.mono ?_
 rintro e w1 ⟨rfl,hp1,hk1⟩
 have h1:=h.keep hk1 (by simp[h.pd.symm]) (by simp[h.ps.symm]) (by simp[h.pk.symm]) (by simp[h.pm.symm])
 have c3:=h1.dev.cell 3 rfl
 go_wp2_with (at_range;refine wN rfl _ _ rfl 3 172 Tryz.underlying96 a.m _ rfl h1.map ?_;intro w2 cnt hr2 hk2 hz2)
 go_frame
 have h2:=h1.keep hk2 (by simp) (by simp) (by simp) (by simp)
 have hp2:=hk2.at hp1 (by simp)
 obtain⟨f1,f2,f3,f4⟩:=h1.fresh (Nat.le_refl _)
 have F1:=hid f1
 have F2:=hid f2
 have F3:=hid f3
 have F4:=hid f4
 have FP:Hid (p≠w1.heap.size):=by have:=hp1.lt;show p≠_;omega
 clear f1 f2 f3 f4 c3
 go_loopg [2] cnt (fun r _ wr=>∃left:Int→Bool,zM wr w1.heap.size a.m (lines S.tok S.is) left r∧
  At wr a.k (.cells (u64s a.n fun i=>if S.is (i/8)=true/\left ((i/8:Nat):Int)=false then S.tok i else S.kept i) 26)/\xe [a.k,w1.heap.size] w2 wr)
 case atStart=>
  refine⟨_,hr2,?_,xe.refl _ _⟩
  have e:u64s a.n (fun i=>if S.is (i/8)=true/\(lines S.tok S.is ((i/8:Nat):Int)).isSome=false then S.tok i else S.kept i)=u64s a.n S.kept:=by
   refine yG fun i _=>?_
   rw[if_neg]
   rintro⟨hi,hl⟩
   unfold lines at hl
   rw[if_pos ⟨by omega,by rw[Int.toNat_natCast];exact hi⟩]at hl
   cases hl
  rw[e]
  exact h2.kept
 case round=>
  obtain⟨left,hR,hA,hK⟩:=hrel
  have hd:=hK.at h2.dev (by simp[h.dk,F1.out])
  have c0:=hd.cell 0 rfl
  have c3:=hd.cell 3 rfl
  go_wp2_with (at_next;refine vK rfl _ rfl w1.heap.size a.m _ left gk rfl hR F4.out.symm ?_ ?_)
  ·intro hr0 hl
   have HL:=hid hl
   clear hl
   go_wp2_with (refine yn rfl _ _ rfl 3 172 Tryz.underlying96 a.m _ rfl hR.map ?_;intro w3 hm3 hk3)
   go_end0
   have hk':xe [p,a.k,a.m] w w3:=by
    refine((((hk1.mono (S':=[p,a.k,a.m]) (by simp+contextual)).new hk2 (by simp)).new hK ?_).new hk3 (by simp))
    have:=hk1.size
    simp
    omega
   refine⟨rfl,?_,?_,hk'⟩
   ·exact { h with
     dev:=hk3.at hd (by simpa using h.dm)
     now:=hk3.at (hK.at h2.now (by simp[h.sk,F2.out])) (by simpa using h.sm)
     kept:=by
      have:=hk3.at hA (by simpa using h.km)
      have e:u64s a.n (fun i=>if S.is (i/8)=true/\left ((i/8:Nat):Int)=false then S.tok i else S.kept i)=u64s a.n (fun i=>if S.is (i/8)=true then S.tok i else S.kept i):=
       yG fun i _=>by simp[HL.out]
      rwa[e]at this
     map:=hm3.congr fun k=>by simp[lines]
     line:=fun k hk=>by cases hk }
   ·exact hk3.at (hK.at hp2 (by simp[h.pk,FP.out])) (by simpa using h.pm)
  ·intro k v w3 cnt' hlk hD hlt hR3 hk3 hen
   obtain⟨kk,rfl,hik,hv⟩:∃kk:Nat,k=kk/\S.is kk=true/\v=X7 S.tok kk:=by
    unfold lines at hD
    split at hD
    ·rename_i hc
     refine⟨k.toNat,by omega,hc.2,?_⟩
     exact(Option.some.inj hD).symm
    ·cases hD
   unfold X7 at hv
   subst hv
   have hkL:=h.line kk hik
   have hd3:=hk3.at hd (by simpa using F1.out)
   have hA3:=hk3.at hA (by simpa using F3.out)
   go_wp2_with fail
   have hL:=At.new w3 (.cells (X7 S.tok kk).cells 172)
   rw[YN]at hL
   have HR3:=hid hR3
   have HLK:=hid hlk
   clear hen hD hR3 hlk
   obtain⟨q,hq⟩:∃q,q=8*kk:=⟨_,rfl⟩
   have e9:IntKind.i64.wrap ((kk:Int)*8)=(q:Int):=by rw[IntWalk.i64_in _ (by omega)];omega
   have hq1:(q:Int)<(a.n:Int):=by have:=a.n8;omega
   have hq3:¬a.n=q:=by omega
   have hq4:(0:Int)≤(q:Int):=by omega
   have hq5:(q:Int)≤(a.n:Int):=by omega
   have HQ:=hid hq
   clear hq
   refine yY 8 (by kernel_rfl) (by kernel_rfl) ?_
   intro w4 hk4 hz4
   simp only[List.take_succ_cons,List.take_zero,List.drop_succ_cons,List.drop_zero]
   have hL4:=hk4.at hL (by simp)
   have hd4:=hk4.at (hd3.alloc _) (by simp)
   have hA4:=hk4.at (hA3.alloc _) (by simp)
   have hR4:=HR3.out.keep (((xe.refl [] w3).alloc _).trans hk4) (by simp) (by simp)
   have c2:=hd4.cell 2 rfl
   repeat still_step
   refine wpStill_nil ?_
   refine xbh rfl _ _ rfl a.k q (a.n-q) (a.n-q) w3.heap.size 0 8 8 rfl rfl a.n 8 _ _ _ _ _ hA4 hL4 8 (by have:=HQ.out;have:=a.n8;omega) (by have:=HQ.out;have:=a.n8;omega) (by omega) ?_
   intro w5 hA5 hk5
   have hR5:=hR4.keep hk5 (by simpa using h.km.symm) (by simpa using F3.out.symm)
   have hk53:xe [a.k,w1.heap.size] w2 w5:=(((hK.new hk3 (by simp)).alloc _).new hk4 (by simp)).new hk5 (by simp)
   clear e9 hq3 c2 c3 c0
   go_wp2_with fail
   go_roundg cnt'
   case measure=>exact hlt
   case rel=>
    refine⟨_,hR5,?_,hk53⟩
    have e:u64s a.n (over (fun i=>if S.is (i/8)=true/\left ((i/8:Nat):Int)=false then S.tok i else S.kept i) (fun j=>S.tok (8*kk+j)) q 0 8)=
      u64s a.n (fun i=>if S.is (i/8)=true/\(left ((i/8:Nat):Int)&& !decide (((i/8:Nat):Int)=(kk:Int)))=false then S.tok i else S.kept i):=by
     refine yG fun i hi=>?_
     have hq:=HQ.out
     subst hq
     unfold over
     by_cases hik2:i/8=kk
     ·rw[if_pos (by omega),hik2,hik,if_pos (by simp)]
      show S.tok (8*kk+(0+(i-8*kk)))=S.tok i
      rw[show 8*kk+(0+(i-8*kk))=i by omega]
     ·rw[if_neg (by omega)]
      have:decide (((i/8:Nat):Int)=(kk:Int))=false:=by rw[decide_eq_false_iff_not];omega
      rw[this,Bool.not_false,Bool.and_true]
    rw[<-e]
    exact hA5
open Go.RowKit
def rowOf {α:Type} (c:α->Value) (n:Nat) (f:Nat->α):Array Value:=Array.ofFn (n:=n) fun i=>c (f i)
section
variable {α:Type} {c:α->Value}
theorem zS (n:Nat) (f:Nat->α):(rowOf c n f).size=n:=by simp[rowOf]
theorem zw {n:Nat} {f:Nat->α} {i:Nat} (h:i<n):(rowOf c n f)[i]? =some (c (f i)):=by simp[rowOf,h]
theorem Xi {n:Nat} {a:Array Value} {f:Nat->α} (hs:a.size=n) (h:∀i,i<n->a[i]? =some (c (f i))):a=rowOf c n f:=by
 apply Array.ext_getElem?
 intro i
 by_cases hi:i<n
 ·rw[h i hi,zw hi]
 ·rw[Array.getElem?_eq_none (by omega),Array.getElem?_eq_none (by rw[zS];omega)]
theorem VU {n:Nat} {f g:Nat->α} (h:∀i,i<n->f i=g i):rowOf c n f=rowOf c n g:=
 Xi (zS _ _) fun i hi=>by rw[zw hi,h i hi]
theorem QZ (n:Nat) (f:Nat->α) (i:Nat) (v:α):(rowOf c n f).setIfInBounds i (c v)=rowOf c n (put f i v):=by
 refine Xi (by simp[zS]) fun j hj=>?_
 rw[Array.getElem?_setIfInBounds]
 by_cases h:i=j
 ·subst h
  simp[zS,hj,put]
 ·rw[if_neg h,zw hj]
  simp[put,Ne.symm h]
end
theorem zu {P:Program} (t e:TypeId) (z:Value) (b:Nat) (ht:P.underlying t=some (.slice e)) (hi:(P.info? e).map (fun i=>(i.zero,i.size,i.bytes))=some (some z,1,b)) (hz1:z.cells=#[z]) (n:Nat)
  (hb:b*n≤281474976710656) (hn:n≤9223372036854775807) (w:World):
  (Instr.makeSlice t (.int .i64 n) (.int .i64 n)).run P w=.ok (.slice (some ⟨w.heap.size,0,none⟩) n n) (w.alloc (.cells (rowOf id n fun _=>z) e)):=by
 obtain⟨i,hi1,hi2⟩:=Option.map_eq_some_iff.1 hi
 simp only[Prod.mk.injEq]at hi2
 obtain⟨hz,hs,rfl⟩:=hi2
 have hb':(i.bytes:Int)*(n:Int)≤281474976710656:=by
  have h:((i.bytes*n:Nat):Int)≤281474976710656:=by omega
  rwa[Int.natCast_mul]at h
 have h:=run_make (P:=P) w t e i z ht hi1 hz .i64 .i64 n n (by omega) (by omega) hb' (by omega)
 rw[h,hz1,hs]
 simp only[Int.toNat_natCast,Nat.mul_one]
 congr 3
 refine Xi (c:=id) (size_madeCells _ _) fun j hj=>?_
 simp[madeCells,hj,Nat.mod_one]
def leftV (S:DS) (i:Nat) (c:Int):Int:=
 if c=1 then(if S.is (i/8)=true then S.tok i else S.kept i)else if c=2 then S.now i else S.kept i
theorem xcl (w:World) (p:Nat) (a:DA) (S:DS) (i:Nat) (h:Dev w p a S) (hi:i<a.n):
  Calls Tryz.prog 70 #[ptr a.d,.int .i64 i,.int .u8 2] w fun e w'=>e=.returned (.int .u64 (S.now i))/\w=w':=by
 have c1:=h.dev.cell 1 rfl
 have d1:=h.now.cell i (xG hi)
 have hib:(i:Int)<(a.n:Int):=by omega
 go_enter Tryz.func70,Tryz.ntmps70
 go_wp2
 go_ret
 exact⟨rfl,rfl⟩
theorem xaD (w:World) (p:Nat) (a:DA) (S:DS) (i:Nat) (h:Dev w p a S) (hi:i<a.n):
  Calls Tryz.prog 70 #[ptr a.d,.int .i64 i,.int .u8 0] w fun e w'=>e=.returned (.int .u64 (S.kept i))/\w=w':=by
 have c2:=h.dev.cell 2 rfl
 have d2:=h.kept.cell i (xG hi)
 have hib:(i:Int)<(a.n:Int):=by omega
 go_enter Tryz.func70,Tryz.ntmps70
 go_wp2
 go_ret
 exact⟨rfl,rfl⟩
theorem xcm (w:World) (p:Nat) (a:DA) (S:DS) (i:Nat) (h:Dev w p a S) (hi:i<a.n):
  Calls Tryz.prog 70 #[ptr a.d,.int .i64 i,.int .u8 1] w fun e w'=>e=.returned (.int .u64 (if S.is (i/8)=true then S.tok i else S.kept i))/\xe [] w w':=by
 have c2:=h.dev.cell 2 rfl
 have c3:=h.dev.cell 3 rfl
 have d2:=h.kept.cell i (xG hi)
 have hib:(i:Int)<(a.n:Int):=by omega
 have hn:=h.few
 have hbb:(i:Int)≤9007199254740992:=by have:=a.n8;omega
 obtain⟨k,hk⟩:∃k,k=i/8:=⟨_,rfl⟩
 have e8:(i:Int)/8=(k:Int):=by omega
 have HK:=hid hk
 clear hk
 by_cases hs:S.is k=true
 ·have hD:lines S.tok S.is (k:Int)=some (X7 S.tok k):=by
   unfold lines
   rw[if_pos ⟨by omega,by rw[Int.toNat_natCast];exact hs⟩,Int.toNat_natCast]
  have hj:(X7 S.tok k).cells[i%8]? =some (.int .u64 (S.tok i)):=by
   have:=HK.out
   rw[YN,xG (by omega),show 8*k+i%8=i by omega]
  unfold X7 at hD hj
  simp only[Value.cells]at hj
  have hj2:=hj
  rw[List.getElem?_toArray]at hj2
  have hjb:i%8<8:=by omega
  have e9:(i:Int)%8=((i%8:Nat):Int):=by omega
  obtain⟨j,hj0⟩:∃j,j=i%8:=⟨_,rfl⟩
  rw[<-hj0]at hj hj2 hjb e9
  rw[if_pos (by rw[<-HK.out];exact hs)]
  have HJ:=hid hj0
  clear hj0
  go_enter Tryz.func70,Tryz.ntmps70
  go_wp2_with (at_lookup;refine yI rfl _ _ _ rfl 3 172 Tryz.underlying96 Tryz.underlying3 (X7 (fun _=>0) 0) (by kernel_rfl) a.m _ rfl h.map _ rfl _ hD ?_)
  go_ret
  refine⟨congrArg Ending.returned ?_,(xe.refl _ _).alloc _⟩
  exact(List.getElem?_eq_some_iff.1 hj2).2
 ·have hD:lines S.tok S.is (k:Int)=none:=by
   unfold lines
   rw[if_neg]
   rintro⟨_,h2⟩
   rw[Int.toNat_natCast]at h2
   exact hs h2
  rw[if_neg (by rw[<-HK.out];exact hs)]
  have l1:=h.dev.lt
  have l2:=h.kept.lt
  go_enter Tryz.func70,Tryz.ntmps70
  go_wp2_with (at_lookup;refine yA rfl _ _ _ rfl 3 172 Tryz.underlying96 Tryz.underlying3 (.agg #[.int .u64 0,.int .u64 0,.int .u64 0,.int .u64 0,.int .u64 0,.int .u64 0,.int .u64 0,.int .u64 0]) (by kernel_rfl) a.m _ rfl h.map _ rfl hD ?_)
  go_ret
  exact⟨rfl,(xe.refl _ _).alloc _⟩
theorem left_at (w:World) (p:Nat) (a:DA) (S:DS) (i:Nat) (c:Int) (h:Dev w p a S) (hi:i<a.n) (h0:0≤c) (h3:c<3):
  Calls Tryz.prog 70 #[ptr a.d,.int .i64 i,.int .u8 c] w fun e w'=>e=.returned (.int .u64 (leftV S i c))/\xe [] w w':=by
 rcases(by omega:c=0\/c=1\/c=2)with rfl|rfl|rfl
 ·exact(xaD w p a S i h hi).mono fun e w' ⟨he,hw⟩=>⟨he,by rw[<-hw];exact xe.refl _ _⟩
 ·exact(xcm w p a S i h hi).mono fun e w' ⟨he,hw⟩=>⟨he,hw⟩
 ·exact(xcl w p a S i h hi).mono fun e w' ⟨he,hw⟩=>⟨he,by rw[<-hw];exact xe.refl _ _⟩
structure Wv (F:Nat) (cap:Array Value) (n:Nat) (c:Nat->Int) (T R:List Nat) (J:Nat->World->Prop):Prop where
 inv:∀(w:World) (i:Int),(callFunc F (#[.int .i64 i]++cap)).run Tryz.prog w=.ok (.enter F (#[.int .i64 i]++cap)) w
 call:∀(i:Nat) w,i<n->J i w->Calls Tryz.prog F (#[.int .i64 i]++cap) w fun e w'=>e=.returned (.int .u8 (c i))/\J (i+1) w'/\xe T w w'
 keep:∀i w w' S,J i w->xe S w w'->(∀k∈R,k∉S)->J i w'
 low:∀i,0≤c i/\c i≤255
theorem xcN (w:World) (p:Nat) (a:DA) (S:DS) (h:Dev w p a S) (F:Nat) (cap:Array Value) (c:Nat->Int) (T R:List Nat) (J:Nat->World->Prop) (hF:Wv F cap a.n c T R J) (hJ:J 0 w)
  (hT:a.d∉T/\a.s∉T/\a.k∉T/\a.m∉T) (hR:a.s∉R/\a.k∉R/\a.m∉R) (hRl:∀k∈R,k<w.heap.size) (hTl:∀k∈T,k<w.heap.size):
  Calls Tryz.prog 17 #[ptr a.d,.func (.func F) #[] cap] w fun e w'=>
   e=.returned (.tuple #[])/\Dev w' p a { now:=fun i=>leftV S i (c i%3),kept:=fun i=>leftV S i (c i%3),tok:=S.tok,is:=fun _=>false } /\J a.n w'/\xe (a.s::a.k::a.m::T) w w':=by
 have HL:=hid (zh w p a S h)
 have hinv:=hF.inv
 have hn:=h.few
 have hnb:a.n≤17592186044416:=by have:=a.n8;omega
 have hmk:=zu (P:=Tryz.prog) 105 5 (.int .u8 0) 1 Tryz.underlying105 (by kernel_rfl) rfl a.n (by omega) (by omega)
 go_enter Tryz.func17,Tryz.ntmps17
 go_wp2_with fail
 refine HL.out.mono ?_
 rintro e w1 ⟨rfl,rfl⟩
 go_wp2_with fail
 have hC:=At.new w (.cells (rowOf id a.n fun _=>.int .u8 0) 5)
 have HMK:=hid hmk
 clear hmk
 have hTn:w.heap.size∉T:=fun hm=>by have:=hTl _ hm;omega
 have HTn:=hid hTn
 have HRl:=hid hRl
 have HT:=hid hT
 have HR:=hid hR
 clear hTn hRl hTl hT hR
 go_loopg [13] a.n (fun r s wr=>∃i:Nat,i+r=a.n∧s=.int .i64 i∧J i wr∧At wr w.heap.size (.cells (rowOf (Value.int .u8) a.n fun j=>if j<i then c j%3 else 0) 5)∧xe (w.heap.size::T) (w.alloc (.cells (rowOf id a.n fun _=>.int .u8 0) 5)) wr)
 case atStart=>
  refine⟨0,by omega,rfl,hF.keep _ _ _ [] hJ ((xe.refl _ _).alloc _) (by simp),?_,xe.refl _ _⟩
  have e:rowOf id a.n (fun _=>Value.int .u8 0)=rowOf (Value.int .u8) a.n fun j=>if j<0 then c j%3 else 0:=
   Xi (zS _ _) fun j hj=>by rw[zw hj];simp
  rw[<-e]
  exact hC
 case round=>
  obtain⟨i,hi,rfl,hj,hA,hK⟩:=hrel
  by_cases hlt:i<a.n
  ·have HC:=hid (hF.call i wr hlt hj)
   have hlow:=hF.low i
   go_wp2_with fail
   refine HC.out.mono ?_
   rintro e w1 ⟨rfl,hj1,hk1⟩
   have hA1:=hk1.at hA HTn.out
   have c1:=hA1.cell i (zw hlt)
   have c2:=hA1.free i
   go_wp2
   go_roundg (a.n-(i+1))
   case measure=>omega
   case rel=>
    have hA2:=hA1.set i (.int .u8 (c i%3))
    rw[QZ]at hA2
    have e:rowOf (Value.int .u8) a.n (put (fun j=>if j<i then c j%3 else 0) i (c i%3))=rowOf (Value.int .u8) a.n fun j=>if j<i+1 then c j%3 else 0:=
     VU fun j hj=>by
      unfold put
      by_cases h1:j=i
      ·subst h1;simp
      ·by_cases h2:j<i
       ·simp[h1,h2,show j<i+1 by omega]
       ·simp[h1,h2,show¬j<i+1 by omega]
    rw[e]at hA2
    have hk2:xe [w.heap.size] w1 (w1.setCell ⟨w.heap.size,i,none⟩ (.int .u8 (c i%3))):=(xe.refl _ _).set (.inl (by simp)) _
    exact⟨i+1,by omega,by go_num,hF.keep _ _ _ _ hj1 hk2 (fun k hk=>by have:=HRl.out k hk;simp;omega),hA2,(hK.trans (hk1.mono (by simp+contextual))).trans (hk2.mono (by simp+contextual))⟩
  ·have hin:i=a.n:=by omega
   subst hin
   obtain⟨f1,f2,f3,f4⟩:=h.fresh (Nat.le_refl _)
   have hr:Dev wr p a S:=(h.keep ((xe.refl [] w).alloc (.cells (rowOf id a.n fun _=>.int .u8 0) 5)) (by simp) (by simp) (by simp) (by simp)).keep hK
    (by simp[f1,HT.out.1]) (by simp[f2,HT.out.2.1]) (by simp[f3,HT.out.2.2.1]) (by simp[f4,HT.out.2.2.2])
   have F1:=hid f1
   have F2:=hid f2
   have F3:=hid f3
   have F4:=hid f4
   clear f1 f2 f3 f4 hlt
   go_wp2
   go_loopg [26] a.n (fun r s w2=>∃i:Nat,i+r=a.n∧s=.int .i64 i∧Dev w2 p a { S with now:=fun j=>if j<i then leftV S j (c j%3)else S.now j } ∧xe [a.s] wr w2)
   case atStart=>
    exact⟨0,by omega,rfl,by simpa using hr,xe.refl _ _⟩
   case round=>
    obtain⟨i,hi2,rfl,hD,hK2⟩:=hrel
    have hA2:=hK2.at hA (by simpa using F2.out.symm)
    by_cases hlt:i<a.n
    ·have hlow:=hF.low i
     have c0:=hA2.cell i (zw hlt)
     rw[if_pos hlt]at c0
     go_wp2_with fail
     have hDd:=hD.keep ((xe.refl [] wr).drew) (by simp) (by simp) (by simp) (by simp)
     have HLf:=hid (left_at wr.drew p a _ i (c i%3) hDd hlt (by omega) (by omega))
     have c1:=hDd.dev.cell 1 rfl
     go_region_held3 (fun w'=>w'.cell? ⟨a.d,1,none⟩=some (.slice (some ⟨a.s,0,none⟩) a.n a.n)) (first|exact c1|exact hd3.cell 1 rfl|exact(hd3.set_ne h.ds _).cell 1 rfl)
      (first|(go_at_call 70;refine HLf.out.mono ?_;rintro e w3 ⟨rfl,hk3⟩;have hd3:=hk3.at hDd.dev (by simp);have hs3:=hk3.at hDd.now (by simp);have c3:=hs3.cell i (xG hlt);have c4:=hs3.free i))
     clear c0 c1 c3 c4
     go_wp2
     go_roundg (a.n-(i+1))
     case measure=>omega
     case rel=>
      have h3:=(hDd.keep hk3 (by simp) (by simp) (by simp) (by simp)).set_now i (leftV { S with now:=fun j=>if j<i then leftV S j (c j%3)else S.now j } i (c i%3))
      have e:put (fun j=>if j<i then leftV S j (c j%3)else S.now j) i (leftV { S with now:=fun j=>if j<i then leftV S j (c j%3)else S.now j } i (c i%3))=fun j=>if j<i+1 then leftV S j (c j%3)else S.now j:=by
       funext j
       unfold put
       by_cases h1:j=i
       ·subst h1;simp[leftV]
       ·by_cases h2:j<i
        ·simp[h1,h2,show j<i+1 by omega]
        ·simp[h1,h2,show¬j<i+1 by omega]
      rw[e]at h3
      exact⟨i+1,by omega,by go_num,h3,((hK2.drew).trans (hk3.mono (by simp))).set (.inl (by simp)) _⟩
    ·have hin:i=a.n:=by omega
     subst hin
     clear hlt hi2
     go_wp2_with fail
     refine yY 8 (by kernel_rfl) (by kernel_rfl) ?_
     intro w4 hk4 hz4
     simp only[List.take_succ_cons,List.take_zero,List.drop_succ_cons,List.drop_zero]
     have h4:=hD.keep hk4 (by simp) (by simp) (by simp) (by simp)
     have c1:=h4.dev.cell 1 rfl
     have c2:=h4.dev.cell 2 rfl
     repeat still_step
     refine wpStill_nil ?_
     refine xbh rfl _ _ rfl a.k 0 a.n a.n a.s 0 a.n a.n rfl rfl a.n a.n _ _ _ _ _ h4.kept h4.now a.n (by omega) (by omega) (by omega) ?_
     intro w5 hk5A hk5
     have hd5:=hk5.at h4.dev (by simpa using h.dk)
     have hs5:=hk5.at h4.now (by simpa using h.sk)
     have hm5:=h4.map.keep hk5 (by simpa using h.km.symm)
     have c3:=hd5.cell 3 rfl
     go_wp2_with (refine yn rfl _ _ rfl 3 172 Tryz.underlying96 a.m _ rfl hm5 ?_;intro w6 hm6 hk6)
     go_end0
     have hkA:=(((hK2.mono (S':=[a.s,a.k,a.m]) (by simp+contextual)).new hk4 (by simp)).new hk5 (by simp)).new hk6 (by simp)
     have hjf:=hF.keep _ _ _ _ hj hkA (fun k hk=>by
      have:=HR.out
      simp only[List.mem_cons,List.not_mem_nil,or_false,not_or]
      exact⟨fun e=>this.1 (e▸hk),fun e=>this.2.1 (e▸hk),fun e=>this.2.2 (e▸hk)⟩)
     refine⟨rfl,?_,hjf,?_⟩
     ·exact { h with
       dev:=hk6.at hd5 (by simpa using h.dm)
       now:=by
        have:=hk6.at hs5 (by simpa using h.sm)
        have e:u64s a.n (fun j=>if j<a.n then leftV S j (c j%3)else S.now j)=u64s a.n fun j=>leftV S j (c j%3):=yG fun j hj=>by simp[hj]
        rwa[e]at this
       kept:=by
        have:=hk6.at hk5A (by simpa using h.km)
        have e:u64s a.n (over S.kept (fun j=>if j<a.n then leftV S j (c j%3)else S.now j) 0 0 a.n)=u64s a.n fun j=>leftV S j (c j%3):=yG fun j hj=>by simp[over,hj]
        rwa[e]at this
       map:=hm6.congr fun k=>by simp[lines]
       line:=fun k hk=>by cases hk }
     ·have k1:xe (a.s::a.k::a.m::T) w (w.alloc (.cells (rowOf id a.n fun _=>.int .u8 0) 5)):=(xe.refl _ _).alloc _
      exact(k1.new hK (by simp+contextual)).new hkA (by simp+contextual)
open Go.RowKit
def Reads (w:World) (a:Option Addr) (n:Nat) (f:Nat->Int):Prop:=
 n=0\/∃b off,a=some ⟨b,off,none⟩/\b<w.heap.size/\∀i,i<n->w.cell? ⟨b,off+i,none⟩=some (.int .u64 (f i))
theorem Reads.of_at0 {w:World} {b n N:Nat} {f:Nat->Int} {T:TypeId} {fz:Nat×Nat} (h:At w b (.cells (u64s N f) T fz)) (hn:n≤N):Reads w (some ⟨b,0,none⟩) n f:=
 .inr ⟨b,0,rfl,h.lt,fun i hi=>by rw[Nat.zero_add];exact h.cell i (xG (by omega))⟩
theorem xe.cell {S:List Nat} {a b:World} (h:xe S a b) {p:Addr} (hp:p.block<a.heap.size) (hs:p.block∉S):b.cell? p=a.cell? p:=
 World.cell?_of_block (h.block _ hp hs)
theorem Reads.keep {w w':World} {a:Option Addr} {n:Nat} {f:Nat->Int} {S:List Nat} (h:Reads w a n f) (hk:xe S w w') (hs:∀b off,a=some ⟨b,off,none⟩->b∉S):Reads w' a n f:=by
 rcases h with h|⟨b,off,rfl,hb,hc⟩
 ·exact .inl h
 ·exact .inr ⟨b,off,rfl,Nat.lt_of_lt_of_le hb hk.size,fun i hi=>by rw[hk.cell hb (hs b off rfl)];exact hc i hi⟩
theorem xak (f g:Nat->Int) (off soff:Nat):over f g off soff 0=f:=by
 funext i
 unfold over
 rw[if_neg (by omega)]
theorem xbg {w:World} {ops:Array Oper} {rest:List Oper} {o:Oper} {a:Act} {Q:Exit->Act->World->Prop} (hgd:o.guard=none) (d s:Operand)
  (ho:o.op=.call { callee:=.builtin .copy,args:=#[d,s],argTypes:=#[60,60] })
  (g off dLen dCap:Nat) (sp:Option Addr) (sLen sCap:Nat) (hd:a.eval d=.slice (some ⟨g,off,none⟩) dLen dCap) (hs:a.eval s=.slice sp sLen sCap)
  (N:Nat) (f f2:Nat->Int) (T:TypeId) (hg:At w g (.cells (u64s N f) T (0,0))) (hr:Reads w sp sLen f2) (n:Nat) (hn:n=min sLen dLen) (hfit:off+n≤N)
  (hK:∀w',At w' g (.cells (u64s N (over f f2 off 0 n)) T (0,0))->xe [g] w w'->wpList Tryz.prog ops Q rest (a.put o.dst (.int .i64 n)) w'):
  wpList Tryz.prog ops Q (o::rest) a w:=by
 by_cases h0:n=0
 ·subst h0
  refine wpList_copy_nothing hgd d s _ _ ho 26 Tryz.underlying60 (by kernel_rfl) _ _ _ _ _ _ hd hs hn.symm ?_
  have:=hK w (by rw[xak];exact hg) (xe.refl _ _)
  simpa[goInt]using this
 ·have hpos:0<sLen/\n≤sLen:=by omega
  rcases hr with hr|⟨b,soff,rfl,hb,hc⟩
  ·omega
  ·have e:=Wy (soff:=0) (f:=f) (g:=f2) hfit
   simp only[Nat.zero_add]at e
   refine wpList_copy_own hgd d s _ _ ho 26 Tryz.underlying60 (by kernel_rfl) g off dLen dCap ⟨b,soff,none⟩ sLen sCap hd hs (u64s N f) T hg ((List.range n).map fun j=>Value.int .u64 (f2 j)) (by simpa using hn) ?_ (by simp[yx];omega) (by simp[Value.oneCell']) ?_
   ·intro j v hj
    obtain⟨hj1,rfl⟩:=List.getElem?_eq_some_iff.1 hj
    have hj2:j<n:=by simpa using hj1
    rw[List.getElem_map,List.getElem_range]
    have e2:(⟨b,soff,none⟩:Addr).add j=⟨b,soff+j,none⟩:=by unfold Addr.add;split<;>simp_all
    rw[e2]
    exact hc j (by omega)
   ·rw[<-List.append_assoc,e]
    have hk:xe [g] w (w.setRow g (u64s N (over f f2 off 0 n))):=by
     refine⟨rfl,rfl,rfl,by simp[World.setRow],fun k _ hk=>setRow_other w g k _ (by simpa using hk)⟩
    have hh:At (w.setRow g (u64s N (over f f2 off 0 n))) g (.cells (u64s N (over f f2 off 0 n)) T (0,0)):=setRow_heap w g _ _ T _ hg
    have:=hK _ hh hk
    simpa[goInt]using this
def Own (w:World) (B:Nat) (v:Value) (n:Nat) (f:Nat->Int):Prop:=
 ∃g cap cur,v=.slice (some ⟨g,0,none⟩) n cap/\B≤g/\At w g (.cells cur 26 (0,0))/\n≤cap/\cap≤maxLen/\cur.size=cap/\∀i,i<n->cur[i]? =some (.int .u64 (f i))
theorem Own.row {w:World} {B n:Nat} {v:Value} {f:Nat->Int} (h:Own w B v n f):w.ownsRow B 26 1 v n ((List.range n).map fun i=>.int .u64 (f i)):=by
 obtain⟨g,cap,cur,rfl,hB,hg,h1,h2,h3,h4⟩:=h
 refine⟨by simp,.inr ⟨g,cap,cur,rfl,hB,hg,h1,h2,by omega,?_⟩⟩
 rw[Nat.mul_one]
 apply List.ext_getElem?
 intro i
 by_cases hi:i<n
 ·rw[List.getElem?_take_of_lt hi,Array.getElem?_toList,h4 i hi]
  simp[hi]
 ·rw[List.getElem?_eq_none (by simp;omega),List.getElem?_eq_none (by simp;omega)]
theorem Own.of_row {w:World} {B n:Nat} {v:Value} {f:Nat->Int} (h:w.ownsRow B 26 1 v n ((List.range n).map fun i=>.int .u64 (f i))) (hv:v≠.slice none 0 0):Own w B v n f:=by
 obtain⟨_,⟨rfl,_⟩|⟨g,cap,cur,rfl,hB,hg,h1,h2,h3,h4⟩⟩:=h
 ·exact absurd rfl hv
 ·refine⟨g,cap,cur,rfl,hB,hg,h1,h2,by omega,fun i hi=>?_⟩
  have e:(cur.toList.take (n*1))[i]? =((List.range n).map fun i=>Value.int .u64 (f i))[i]? :=by rw[h4]
  rw[List.getElem?_take_of_lt (by omega),Array.getElem?_toList]at e
  rw[e]
  simp[hi]
theorem xcU {w:World} {ops:Array Oper} {rest:List Oper} {o:Oper} {a:Act} {Q:Exit->Act->World->Prop} (hgd:o.guard=none) (s x:Operand)
  (ho:o.op=.call { callee:=.builtin .append,args:=#[s,x],argTypes:=#[60,60] })
  (B:Nat) (v:Value) (n:Nat) (f:Nat->Int) (hs:a.eval s=v) (hown:Own w B v n f) (ad:Addr) (m c:Nat) (g:Nat->Int) (hx:a.eval x=.slice (some ad) m c) (hr:Reads w (some ad) m g)
  (hb:n+m≤17592186044416) (hB:B≤w.heap.size)
  (hK:∀v' w',Own w' B v' (n+m) (fun i=>if i<n then f i else g (i-n))->xe (match v.ownBlock with|some k=>[k]|none=>[]) w w'->wpList Tryz.prog ops Q rest (a.put o.dst v') w'):wpList Tryz.prog ops Q (o::rest) a w:=by
 refine wpList_plain hgd fun K' hK'=>?_
 have hi:∃i,Tryz.prog.info? 26=some i/\(i.zero,i.size,i.bytes)=(some (.int .u64 0),1,8):=by
  have h:(Tryz.prog.info? 26).map (fun i=>(i.zero,i.size,i.bytes))=some (some (.int .u64 0),1,8):=by kernel_rfl
  exact Option.map_eq_some_iff.1 h
 obtain⟨i,hi1,hi2⟩:=hi
 simp only[Prod.mk.injEq]at hi2
 obtain⟨hz,hsz,hby⟩:=hi2
 obtain⟨v',w',hrun,h1,h2,h3,_⟩:=run_append_own_at (P:=Tryz.prog) w B 60 o.type 26 i (.int .u64 0) 1 8 Tryz.underlying60 hi1 hz hsz hby rfl (by omega) v n _ hown.row ad m c
  ((List.range m).map fun i=>.int .u64 (g i)) (by simp) (by
    intro j u hj
    rcases hr with h0|⟨b,off,he,hb,hc⟩
    ·subst h0;simp at hj
    ·obtain⟨hj1,rfl⟩:=List.getElem?_eq_some_iff.1 hj
     have hj2:j<m:=by simpa using hj1
     cases he
     have e2:(⟨b,off,none⟩:Addr).add j=⟨b,off+j,none⟩:=by unfold Addr.add;split<;>simp_all
     rw[List.getElem_map,List.getElem_range,e2]
     exact hc j hj2) (by simp[Value.oneCell']) (by unfold maxLen;omega) (by omega) hB
 have hv:v≠.slice none 0 0:=by obtain⟨g,cap,cur,rfl,_⟩:=hown;simp
 unfold Oper.wp
 simp[execOp,ho,resolve,invoke,builtin,hs,hx,hrun,Result.andThen]
 refine hK' _ _ (hK v' w' (Own.of_row ?_ (fun h=>hv (h3.1 h).1)) ?_)
 ·have e:((List.range n).map fun i=>Value.int .u64 (f i))++((List.range m).map fun i=>Value.int .u64 (g i))=(List.range (n+m)).map fun i=>Value.int .u64 (if i<n then f i else g (i-n)):=by
   apply List.ext_getElem?
   intro j
   by_cases hj:j<n
   ·rw[List.getElem?_append_left (by simpa using hj)]
    simp[hj,show j<n+m by omega]
   ·rw[List.getElem?_append_right (by simp;omega)]
    by_cases hj2:j<n+m
    ·simp[hj,hj2,show j-n<m by omega]
    ·simp[hj2,show¬j-n<m by omega]
  rw[<-e]
  exact h1
 ·refine⟨h2.os,h2.tape,h2.output,h2.size,fun k hk hn=>h2.block k hk fun e=>hn ?_⟩
  rw[<-e]
  simp
theorem zo (a:Option Addr) (n c:Nat) (w:World):(binOp .eql 60 (.slice a n c) (.slice none 0 0)).run Tryz.prog w=.ok (.bool a.isNone) w:=by
 have h:=run_equal_slice_nil (P:=Tryz.prog) (w:=w) 60 26 a n c Tryz.underlying60
 simp[binOp,h,Result.andThen]
def xdm (w:World) (n:Nat) (f:Nat->Int) (e:Ending) (w':World):Prop:=∃v,e=.returned v/\Own w' w.heap.size v n f/\xe [] w w'
theorem Wo (w:World) (x:Addr) (n c:Nat) (f:Nat->Int) (h:Reads w (some x) n f) (hn:n≤17592186044416):
  Calls Tryz.prog 52 #[.slice (some x) n c] w (xdm w n f):=by
 have hnil:=zo (some x) n c
 go_enter Tryz.func52,Tryz.ntmps52
 go_wp2_with (at_builtin;refine xcU rfl _ _ rfl w.heap.size _ 0 f rfl ⟨w.heap.size,0,#[],rfl,Nat.le_refl _,At.new _ _,Nat.le_refl _,by unfold maxLen;omega,rfl,fun i hi=>by omega⟩ x n c f rfl (h.keep ((xe.refl [] w).alloc _) (by simp)) (by omega) (by simp) ?_;intro v w1 hv hk)
 change xe [w.heap.size] _ _ at hk
 have hv2:Own w1 w.heap.size v n f:=by simpa using hv
 have HV:=hid hv2
 clear hv hv2
 go_ret
 exact⟨v,rfl,HV.out,((xe.refl [] w).alloc _).new hk (by simp)⟩
theorem Own.reads {w:World} {B n:Nat} {v:Value} {f:Nat->Int} (h:Own w B v n f):∃g cap,v=.slice (some ⟨g,0,none⟩) n cap/\B≤g/\g<w.heap.size/\n≤cap/\Reads w (some ⟨g,0,none⟩) n f:=by
 obtain⟨g,cap,cur,rfl,hB,hg,h1,h2,h3,h4⟩:=h
 exact⟨g,cap,rfl,hB,hg.lt,h1,.inr ⟨g,0,rfl,hg.lt,fun i hi=>by rw[Nat.zero_add];exact hg.cell i (h4 i hi)⟩⟩
theorem xbF (w:World) (p:Nat) (a:DA) (S:DS) (h:Dev w p a S):
  Calls Tryz.prog 26 #[ptr a.d] w (xdm w a.n S.now):=by
 have c1:=h.dev.cell 1 rfl
 have HC:=hid (Wo w ⟨a.s,0,none⟩ a.n a.n S.now (Reads.of_at0 h.now (Nat.le_refl _)) (by have:=h.few;have:=a.n8;omega))
 go_enter Tryz.func26,Tryz.ntmps26
 go_wp2_with fail
 refine HC.out.mono ?_
 rintro e w1 ⟨v,rfl,hv,hk⟩
 have HV:=hid hv
 clear hv
 go_wp2
 go_ret
 exact⟨v,rfl,HV.out,hk⟩
end Go.Proofs.YtcdhklgahepcaaaGreat
