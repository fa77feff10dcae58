import Derived.Test.YtcdhklgahepcaaaGreatRows
import Derived.WalkKit
import Derived.WalkSpells
import Derived.WalkLawsBesides
import Derived.Deep.QuietTactic
import Derived.BigQuiet
import Derived.Recover
import Derived.Defers
import Derived.Deep.LoopGhost
import Derived.Deep.DeepMust
set_option maxHeartbeats 400000
namespace Go.Proofs.YtcdhklgahepcaaaGreat
open Go.RowKit
theorem gA {α:Type}{l:List α}{i:Nat}:l.toArray[i]?=l[i]?:=List.getElem?_toArray
theorem gB {α:Type}{a:α}{l:List α}{i:Nat}:(a::l)[i+1]?=l[i]?:=List.getElem?_cons_succ
theorem gC {α:Type}{a:α}{l:List α}:(a::l)[0]?=some a:=List.getElem?_cons_zero
theorem sA {α:Type}{l:List α}{i:Nat}{a:α}:l.toArray.setIfInBounds i a=(l.set i a).toArray:=List.setIfInBounds_toArray ..
theorem sB {α:Type}{x y:α}{l:List α}:(x::l).set 0 y=y::l:=List.set_cons_zero
theorem sC {α:Type}{x y:α}{l:List α}{i:Nat}:(x::l).set (i+1) y=x::l.set i y:=List.set_cons_succ
theorem hid {p:Prop} (h:p):Hid p:=h
def At (w:World) (b:Nat) (o:Obj):Prop:=w.heap[b]? =some o
theorem At.lt {w:World} {b:Nat} {o:Obj} (h:At w b o):b<w.heap.size:=by
 unfold At at h
 rcases Nat.lt_or_ge b w.heap.size with h1|h1
 ·exact h1
 ·rw[Array.getElem?_eq_none h1]at h;cases h
theorem At.cell {w:World} {b:Nat} {cs:Array Value} {T:TypeId} {fz:Nat×Nat} (h:At w b (.cells cs T fz)) (i:Nat) {v:Value} (hv:cs[i]? =some v):
  w.cell? ⟨b,i,none⟩=some v:=by
 unfold At at h
 simp[World.cell?,h,hv]
theorem At.free {w:World} {b:Nat} {cs:Array Value} {T:TypeId} (h:At w b (.cells cs T (0,0))) (i:Nat):w.frozen? ⟨b,i,none⟩=false:=by
 unfold At at h
 simp[World.frozen?,h]
theorem At.alloc {w:World} {b:Nat} {o:Obj} (h:At w b o) (o':Obj):At (w.alloc o') b o:=
 (Below.heap_alloc w o' b h.lt).trans h
theorem At.new (w:World) (o:Obj):At (w.alloc o) w.heap.size o:=by
 show(w.heap.push o)[w.heap.size]? =some o
 simp
theorem At.drewN {w:World} {b:Nat} {o:Obj} (h:At w b o) (n:Nat):At (w.drewN n) b o:=by
 have e:(w.drewN n).heap=w.heap:=by simp
 unfold At at h⊢
 rw[e];exact h
theorem At.drew {w:World} {b:Nat} {o:Obj} (h:At w b o):At w.drew b o:=h
theorem At.set {w:World} {b:Nat} {cs:Array Value} {T:TypeId} {fz:Nat×Nat} (h:At w b (.cells cs T fz)) (i:Nat) (v:Value):
  At (w.setCell ⟨b,i,none⟩ v) b (.cells (cs.setIfInBounds i v) T fz):=by
 unfold At at h⊢
 simp only[World.setCell,Array.getElem?_modify,if_true,h,Option.map_some]
 simp
theorem At.set_ne {w:World} {b:Nat} {o:Obj} (h:At w b o) {a:Addr} (ha:b≠a.block) (v:Value):At (w.setCell a v) b o:=
 (Below.heap_setCell w a v b ha).trans h
theorem At.inj {w:World} {b:Nat} {o o':Obj} (h:At w b o) (h':At w b o'):o=o':=by
 unfold At at h h'
 rw[h]at h'
 exact Option.some.inj h'
structure xe (S:List Nat) (w w':World):Prop where
 os:w'.os=w.os
 tape:w'.tape=w.tape
 output:w'.output=w.output
 size:w.heap.size≤w'.heap.size
 block:∀k,k<w.heap.size->k∉S->w'.heap[k]? =w.heap[k]?
theorem xe.refl (S:List Nat) (w:World):xe S w w:=⟨rfl,rfl,rfl,Nat.le_refl _,fun _ _ _=>rfl⟩
theorem xe.trans {S:List Nat} {a b c:World} (h:xe S a b) (k:xe S b c):xe S a c:=
 ⟨k.os.trans h.os,k.tape.trans h.tape,k.output.trans h.output,Nat.le_trans h.size k.size,
  fun i hi hs=>(k.block i (Nat.lt_of_lt_of_le hi h.size) hs).trans (h.block i hi hs)⟩
theorem xe.mono {S S':List Nat} {a b:World} (h:xe S a b) (hs:∀k,k<a.heap.size->k∈S->k∈S'):xe S' a b:=
 ⟨h.os,h.tape,h.output,h.size,fun i hi hn=>h.block i hi fun hm=>hn (hs i hi hm)⟩
theorem xe.new {S T:List Nat} {a b c:World} (h:xe S a b) (k:xe T b c) (hT:∀x∈T,x∈S\/a.heap.size≤x):xe S a c:=
 ⟨k.os.trans h.os,k.tape.trans h.tape,k.output.trans h.output,Nat.le_trans h.size k.size,
  fun i hi hs=>(k.block i (Nat.lt_of_lt_of_le hi h.size) fun hm=>by rcases hT i hm with h1|h1;exact hs h1;omega).trans (h.block i hi hs)⟩
theorem xe.alloc {S:List Nat} {a b:World} (h:xe S a b) (o:Obj):xe S a (b.alloc o):=
 h.trans ⟨rfl,rfl,rfl,by simp,fun k hk _=>Below.heap_alloc _ _ _ hk⟩
theorem xe.set {S:List Nat} {a b:World} (h:xe S a b) {p:Addr} (hp:p.block∈S\/a.heap.size≤p.block) (v:Value):xe S a (b.setCell p v):=
 ⟨h.os,h.tape,h.output,by simpa[World.setCell]using h.size,fun k hk hs=>by
  rw[Below.heap_setCell _ _ _ _ (by rintro rfl;rcases hp with hp|hp;exact hs hp;omega)]
  exact h.block k hk hs⟩
theorem xe.drewN {S:List Nat} {a b:World} (h:xe S a b) (n:Nat):xe S a (b.drewN n):=
 h.trans ⟨rfl,rfl,rfl,Nat.le_refl _,fun _ _ _=>rfl⟩
theorem xe.drew {S:List Nat} {a b:World} (h:xe S a b):xe S a b.drew:=
 h.trans ⟨rfl,rfl,rfl,Nat.le_refl _,fun _ _ _=>rfl⟩
theorem xe.at {S:List Nat} {a b:World} (h:xe S a b) {k:Nat} {o:Obj} (hk:At a k o) (hs:k∉S):At b k o:=
 (h.block k hk.lt hs).trans hk
theorem xe.below {S:List Nat} {a b:World} (h:xe S a b) {B:Nat} (hB:B≤a.heap.size) (hs:∀k,k∈S->B≤k):Below B a b:=
 ⟨h.os,h.tape,h.output,h.size,fun k hk=>h.block k (Nat.lt_of_lt_of_le hk hB) fun hm=>absurd (hs k hm) (by omega)⟩
theorem Below.keeps {a b:World} (h:Below a.heap.size a b) (S:List Nat):xe S a b:=
 ⟨h.os,h.tape,h.output,h.size,fun k hk _=>h.block k hk⟩
open Go.RowKit
theorem xdQ (l:Int) (w:World):
  Calls Tryz.prog 13 #[.int .i64 l] w fun e w'=>e=.returned (.pointer (some ⟨w.heap.size,0,none⟩))/\w.alloc (.cells #[.int .i64 l,.int .i64 0] 100)=w':=by
 go_enter Tryz.func13,Tryz.ntmps13
 go_wp2
 go_ret
 exact⟨rfl,rfl⟩
theorem xbG (b:Nat) (u:Int) (w:World) (hu:w.cell? ⟨b,1,none⟩=some (.int .i64 u)):
  Calls Tryz.prog 264 #[.pointer (some ⟨b,0,none⟩)] w fun e w'=>e=.returned (.int .i64 u)/\w=w':=by
 go_enter Tryz.func264,Tryz.ntmps264
 go_wp2
 go_ret
 exact⟨rfl,rfl⟩
def xP:Value:=.iface 102 (.agg #[])
def vN (l u:Int):Bool:=decide (l<0)||decide (u≠l)
def Wt (b:Nat) (l u:Int) (w:World) (e:Ending) (w':World):Prop:=
 if vN l u=true then e=.returned (.tuple #[])/\∃n,(w.drewN n).setCell ⟨b,1,none⟩ (.int .i64 (u+1))=w'
 else e=.panicked [{ v:=xP,recovered:=false }]/\∃n,w.drewN n=w'
theorem QG (b:Nat) (l u:Int) (w:World) (hl:w.cell? ⟨b,0,none⟩=some (.int .i64 l)) (hu:w.cell? ⟨b,1,none⟩=some (.int .i64 u))
  (hz:w.frozen? ⟨b,1,none⟩=false) (h0:decide (0≤l)=false) (hu0:0≤u) (hu1:u<9223372036854775807):
  Calls Tryz.prog 197 #[.pointer (some ⟨b,0,none⟩)] w fun e w'=>e=.returned (.tuple #[])/\∃n,(w.drewN n).setCell ⟨b,1,none⟩ (.int .i64 (u+1))=w':=by
 go_enter Tryz.func197,Tryz.ntmps197
 go_wp2
 go_quiet (fail)
 go_wp2
 go_end0
 exact⟨rfl,nq,rfl⟩
theorem QE (b:Nat) (l u:Int) (w:World) (hl:w.cell? ⟨b,0,none⟩=some (.int .i64 l)) (hu:w.cell? ⟨b,1,none⟩=some (.int .i64 u))
  (hz:w.frozen? ⟨b,1,none⟩=false) (h0:decide (0≤l)=true) (h1:(u==l)=false) (hu0:0≤u) (hu1:u<9223372036854775807):
  Calls Tryz.prog 197 #[.pointer (some ⟨b,0,none⟩)] w fun e w'=>e=.returned (.tuple #[])/\∃n,(w.drewN n).setCell ⟨b,1,none⟩ (.int .i64 (u+1))=w':=by
 go_enter Tryz.func197,Tryz.ntmps197
 go_wp2
 go_quiet (fail)
 go_wp2
 go_end0
 exact⟨rfl,nq,rfl⟩
theorem QF (b:Nat) (l:Int) (w:World) (hl:w.cell? ⟨b,0,none⟩=some (.int .i64 l)) (hu:w.cell? ⟨b,1,none⟩=some (.int .i64 l))
  (h0:decide (0≤l)=true):
  Calls Tryz.prog 197 #[.pointer (some ⟨b,0,none⟩)] w fun e w'=>e=.panicked [{ v:=xP,recovered:=false }]/\∃n,w.drewN n=w':=by
 go_enter Tryz.func197,Tryz.ntmps197
 go_wp2
 go_quiet (fail)
 go_wp2
 exact⟨rfl,rfl,nq,rfl⟩
theorem xbO (b:Nat) (l u:Int) (w:World) (hl:w.cell? ⟨b,0,none⟩=some (.int .i64 l)) (hu:w.cell? ⟨b,1,none⟩=some (.int .i64 u))
  (hz:w.frozen? ⟨b,1,none⟩=false) (hu0:0≤u) (hu1:u<9223372036854775807):
  Calls Tryz.prog 197 #[.pointer (some ⟨b,0,none⟩)] w (Wt b l u w):=by
 unfold Wt
 by_cases h0:l<0
 ·have hs:vN l u=true:=by simp[vN,h0]
  simp only[hs,if_true]
  exact QG b l u w hl hu hz (by simp;omega) hu0 hu1
 ·by_cases h1:u=l
  ·subst h1
   have hs:vN u u=false:=by simp[vN];omega
   simp only[hs,Bool.false_eq_true,if_false]
   exact QF b u w hl hu (by simp;omega)
  ·have hs:vN l u=true:=by simp[vN,h1]
   simp only[hs,if_true]
   exact QE b l u w hl hu hz (by simp;omega) (by simpa using h1) hu0 hu1
theorem Qb (w:World):
  CallsD Tryz.prog 53 #[] .returning w fun e u' w'=>e=.returned (.tuple #[])/\u'=.returning/\w=w':=by
 refine callsD_of_wpS Tryz.func53 rfl fun c₀ cs hu=>?_
 apply wpS_seq
 apply wpS_region
 simp[wpOpsS,go_sem,recoverD,hu,Tryz.ntmps53,Exit.thenS]
 refine wpS_of_wp ?_
 go_wp2
 cases c₀
 simp_all [bodyPostS,results,Tryz.results53]
theorem jR (w:World):(Instr.typeAssert (.iface 102 (.agg #[])) 20 102 true).run Tryz.prog w=.ok (.tuple #[.agg #[],.bool true]) w:=by kernel_rfl
theorem Qc (older:List PanicEntry) (w:World):
  CallsD Tryz.prog 53 #[] (.panicking ({ v:=xP,recovered:=false } ::older)) w fun e u' w'=>
   e=.returned (.tuple #[])/\u'=.panicking ({ v:=xP,recovered:=true } ::older)/\w.alloc (.cells #[] 102)=w':=by
 have ha:=jR
 refine callsD_of_wpS Tryz.func53 rfl fun c₀ cs hu=>?_
 apply wpS_seq
 apply wpS_region
 simp[wpOpsS,go_sem,recoverD,hu,Tryz.ntmps53,Exit.thenS,xP]
 refine wpS_of_wp ?_
 go_wp2
 cases c₀
 simp_all [bodyPostS,results,Tryz.results53]
theorem xbV (F:Nat) (first cap:Array Value) (w:World) (A B:World->Prop)
  (hinv:∀w,(callFunc F (first++cap)).run Tryz.prog w=.ok (.enter F (first++cap)) w)
  (h:Calls Tryz.prog F (first++cap) w fun e w'=>(e=.returned (.tuple #[])/\A w')\/(e=.panicked [{ v:=xP,recovered:=false }]/\B w')):
  Calls Tryz.prog 14 #[.func (.func F) first cap] w fun e w'=>(e=.returned (.bool true)/\A w')\/(e=.returned (.bool false)/\∃w1,B w1/\w1.alloc (.cells #[] 102)=w'):=by
 go_enter_defers Tryz.func14,Tryz.ntmps14
 go_wp2
 refine h.mono ?_
 rintro e w1 (⟨rfl,ha⟩|⟨rfl,hb⟩)
 ·go_wp2
  refine leaves_cons (f:=53) (args:=#[]) (by simp) (by simp[go_sem]) ?_
  refine(Qb _).mono ?_
  rintro e u' w'' ⟨rfl,rfl,rfl⟩
  simp[Leaves,settle,results,Tryz.results14,go_sem,ha]
 ·go_wp2
  refine leaves_cons (f:=53) (args:=#[]) (by simp) (by simp[go_sem]) ?_
  refine(Qc [] _).mono ?_
  rintro e u' w'' ⟨rfl,rfl,rfl⟩
  simp[Leaves,settle,results,Tryz.results14,go_sem]
  exact⟨w1,hb,rfl⟩
theorem VT (F:Nat) (cap:Array Value) (w:World) (A B:World->Prop)
  (hinv:∀w,(callFunc F cap).run Tryz.prog w=.ok (.enter F cap) w)
  (h:Calls Tryz.prog F cap w fun e w'=>(e=.returned (.tuple #[])/\A w')\/(e=.panicked [{ v:=xP,recovered:=false }]/\B w')):
  Calls Tryz.prog 14 #[.func (.func F) #[] cap] w fun e w'=>(e=.returned (.bool true)/\A w')\/(e=.returned (.bool false)/\∃w1,B w1/\w1.alloc (.cells #[] 102)=w'):=by
 have e:(#[]:Array Value)++cap=cap:=by simp
 exact xbV F #[] cap w A B (by rw[e];exact hinv) (by rw[e];exact h)
abbrev powO (l u:Int):Obj:=.cells #[.int .i64 l,.int .i64 u] 100
theorem xas (l:Int) (w:World):
  Calls Tryz.prog 13 #[.int .i64 l] w fun e w'=>e=.returned (.pointer (some ⟨w.heap.size,0,none⟩))/\At w' w.heap.size (powO l 0)/\w'.heap.size=w.heap.size+1/\xe [] w w':=by
 refine(xdQ l w).mono ?_
 rintro e w' ⟨rfl,rfl⟩
 exact⟨rfl,At.new _ _,by simp,(xe.refl _ _).alloc _⟩
theorem xdo (b:Nat) (l u:Int) (w:World) (h:At w b (powO l u)):
  Calls Tryz.prog 264 #[.pointer (some ⟨b,0,none⟩)] w fun e w'=>e=.returned (.int .i64 u)/\w=w':=
 xbG b u w (h.cell 1 rfl)
def qa (b:Nat) (l u:Int) (w:World) (e:Ending) (w':World):Prop:=
 if vN l u=true then e=.returned (.tuple #[])/\At w' b (powO l (u+1))/\xe [b] w w'
 else e=.panicked [{ v:=xP,recovered:=false }]/\At w' b (powO l u)/\xe [] w w'
theorem QH (b:Nat) (l u:Int) (w:World) (h:At w b (powO l u)) (hu0:0≤u) (hu1:u<9223372036854775807):
  Calls Tryz.prog 197 #[.pointer (some ⟨b,0,none⟩)] w (qa b l u w):=by
 refine(xbO b l u w (h.cell 0 rfl) (h.cell 1 rfl) (h.free 1) hu0 hu1).mono ?_
 intro e w' ht
 unfold Wt at ht
 unfold qa
 split at ht
 ·rename_i hs
  obtain⟨rfl,n,rfl⟩:=ht
  rw[if_pos hs]
  exact⟨rfl,(h.drewN n).set 1 _,((xe.refl _ _).drewN n).set (.inl (by simp)) _⟩
 ·rename_i hs
  obtain⟨rfl,n,rfl⟩:=ht
  rw[if_neg hs]
  exact⟨rfl,h.drewN n,(xe.refl _ _).drewN n⟩
open Go.RowKit
def more (l u:Int) (k:Nat):Nat:=if l<0 then k else min k (l-u).toNat
def xe6 (m:Nat) (l u:Int) (k:Nat) (w:World) (e:Ending) (w':World):Prop:=
 (e=if more l u k=k then .returned (.tuple #[])else .panicked [{ v:=xP,recovered:=false }])/\At w' m (powO l (u+more l u k))/\xe [m] w w'
abbrev ptr (b:Nat):Value:=.pointer (some ⟨b,0,none⟩)
theorem vz (b:Nat) (l u:Int) (w:World) (h:At w b (powO l u)) (hu0:0≤u) (hu1:u<9223372036854775807) (hs:l<0\/u<l):
  Calls Tryz.prog 197 #[ptr b] w fun e w'=>e=.returned (.tuple #[])/\At w' b (powO l (u+1))/\xe [b] w w':=by
 refine(QH b l u w h hu0 hu1).mono ?_
 intro e w' ht
 unfold qa at ht
 rw[if_pos (by simp[vN];omega)]at ht
 exact ht
theorem Xd (b:Nat) (l u:Int) (w:World) (h:At w b (powO l u)) (hu0:0≤u) (hu1:u<9223372036854775807) (_h0:0≤l) (hs:u=l):
  Calls Tryz.prog 197 #[ptr b] w fun e w'=>e=.panicked [{ v:=xP,recovered:=false }]/\At w' b (powO l u)/\xe [] w w':=by
 refine(QH b l u w h hu0 hu1).mono ?_
 intro e w' ht
 unfold qa at ht
 rw[if_neg (by simp[vN];omega)]at ht
 exact ht
theorem xeB (F:Nat) (cap:Array Value) (w:World) (m:Nat) (l u:Int) (k:Nat) (hinv:∀w,(callFunc F cap).run Tryz.prog w=.ok (.enter F cap) w)
  (h:Calls Tryz.prog F cap w (xe6 m l u k w)):
  Calls Tryz.prog 14 #[.func (.func F) #[] cap] w fun e w'=>e=.returned (.bool (decide (more l u k=k)))/\At w' m (powO l (u+more l u k))/\xe [m] w w':=by
 by_cases hk:more l u k=k
 ·refine(VT F cap w (fun w'=>At w' m (powO l (u+more l u k))/\xe [m] w w') (fun _=>False) hinv (h.mono ?_)).mono ?_
  ·rintro e w' ⟨he,ha,hkp⟩
   rw[if_pos hk]at he
   exact .inl ⟨he,ha,hkp⟩
  ·rintro e w' (⟨he,ha,hkp⟩|⟨_,_,hf,_⟩)
   ·exact⟨by rw[he];simp[hk],ha,hkp⟩
   ·exact hf.elim
 ·refine(VT F cap w (fun _=>False) (fun w'=>At w' m (powO l (u+more l u k))/\xe [m] w w') hinv (h.mono ?_)).mono ?_
  ·rintro e w' ⟨he,ha,hkp⟩
   rw[if_neg hk]at he
   exact .inr ⟨he,ha,hkp⟩
  ·rintro e w' (⟨_,hf⟩|⟨he,w1,⟨ha,hkp⟩,rfl⟩)
   ·exact hf.elim
   ·exact⟨by rw[he];simp[hk],ha.alloc _,hkp.alloc _⟩
theorem Ql (pb m:Nat) (w:World) (hpb:At w pb (.cells #[ptr m] 42)) (hm:At w m (powO 1 0)) (hs:pb≠m):
  Calls Tryz.prog 263 #[ptr pb] w (xe6 m 1 0 2 w):=by
 have c1:=hpb.cell 0 rfl
 have T1:=hid (vz m 1 0 w hm (by omega) (by omega) (by omega))
 go_enter Tryz.func263,Tryz.ntmps263
 go_wp2_with fail
 refine T1.out.mono ?_
 rintro e w1 ⟨rfl,hA1,hK1⟩
 have c2:=(hK1.at hpb (by simpa using hs)).cell 0 rfl
 have T2:=hid (Xd m 1 1 w1 hA1 (by omega) (by omega) (by omega) rfl)
 go_wp2_with fail
 refine T2.out.mono ?_
 rintro e w2 ⟨rfl,hA2,hK2⟩
 exact⟨rfl,rfl,hA2,hK1.trans (hK2.mono (by simp))⟩
theorem Qk (w:World):Calls Tryz.prog 265 #[] w fun e w'=>e=.returned (.tuple #[])/\w=w':=by
 go_enter Tryz.func265,Tryz.ntmps265
 go_wp2
 go_end0
 exact⟨rfl,rfl⟩
theorem xbs (w:World):Calls Tryz.prog 261 #[] w fun e w'=>e=.returned (.bool true)/\Below w.heap.size w w':=by
 go_enter Tryz.func261,Tryz.ntmps261
 go_wp2_with fail
 refine(xas _ _).mono ?_
 rintro e w1 ⟨rfl,hA1,hs1,hK1⟩
 go_wp2_with fail
 have hp1:=At.new w1 (.cells #[ptr w.heap.size] 42)
 rw[hs1]at hp1
 refine(xeB 263 _ _ w.heap.size 1 0 2 (fun _=>by simp[go_sem]) (Ql _ _ _ hp1 (hA1.alloc _) (by omega))).mono ?_
 rintro e w2 ⟨rfl,hA2,hK2⟩
 have hp2:=hK2.at hp1 (by simp)
 have c2:=hp2.cell 0 rfl
 have hdd:decide (more 1 0 2=2)=false:=rfl
 have hmm:more 1 0 2=1:=rfl
 go_wp2_with fail
 refine(xdo _ _ _ _ hA2).mono ?_
 rintro e w3 ⟨rfl,rfl⟩
 go_wp2_with fail
 refine(VT 265 _ _ (fun w'=>w2=w') (fun _=>False) (fun _=>by simp[go_sem]) ((Qk _).mono fun e w' h=>.inl h)).mono ?_
 rintro e w3 (⟨rfl,rfl⟩|⟨_,_,h,_⟩)
 ·go_wp2
  go_ret
  exact⟨rfl,(((hK1.alloc _).mono (S':=[w.heap.size]) (by simp)).trans hK2).below (Nat.le_refl _) (by simp)⟩
 ·exact h.elim
end Go.Proofs.YtcdhklgahepcaaaGreat
