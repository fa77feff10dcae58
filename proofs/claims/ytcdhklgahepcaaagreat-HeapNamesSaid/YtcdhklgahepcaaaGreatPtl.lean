import Derived.Test.YtcdhklgahepcaaaGreatClb
import Derived.Test.YtcdhklgahepcaaaGreatNap
namespace Go.Proofs.YtcdhklgahepcaaaGreat
open Go.RowKit Go.OpenShut
def Zon (P:CP) (S S':DS):Prop:=∀j,¬(P.c.frm (1-P.k)≤j/\j<P.c.frm (1-P.k)+szF P.S P.LS)->S'.now j=S.now j/\∀q:Int->Prop,All S j q->All S' j q
theorem Zon.refl (P:CP) (S:DS):Zon P S S:=fun _ _=>⟨rfl,fun _ h=>h⟩
theorem Zon.trans {P:CP} {S T U:DS} (h:Zon P S T) (g:Zon P T U):Zon P S U:=fun j hj=>⟨(g j hj).1.trans (h j hj).1,fun q hq=>(g j hj).2 q ((h j hj).2 q hq)⟩
theorem Zon.st {P:CP} {S T:DS} (h:Zon P S T) {i:Nat} (hi:P.c.frm (1-P.k)≤i/\i<P.c.frm (1-P.k)+szF P.S P.LS) (v:Int):Zon P S (xh T [.st i v]):=fun j hj=>by
 have hne:j≠i:=fun e=>hj (e▸hi)
 refine⟨?_,fun q hq=>((h j hj).2 q hq).exec (c:=.st i v) (fun e=>absurd e (by first|exact hne|exact hne.symm))⟩
 show put T.now i v j=_
 unfold put
 rw[if_neg hne]
 exact(h j hj).1
theorem Zon.fl {P:CP} {S T:DS} (h:Zon P S T) (i:Nat):Zon P S (xh T [.fl i]):=fun j hj=>⟨(h j hj).1,fun q hq=>((h j hj).2 q hq).exec (c:=.fl i) trivial⟩
theorem Zon.fe {P:CP} {S T:DS} (h:Zon P S T):Zon P S (xh T [.fe]):=fun j hj=>⟨(h j hj).1,fun q hq=>((h j hj).2 q hq).exec (c:=.fe) trivial⟩
def CutC (P:CP) (l:Int) (T:List Nat) (S:DS) (w:World) (e:Ending) (w':World):Prop:=
 e=.panicked [{ v:=xP,recovered:=false }]/\∃S',Pw w' P.p P.a l l S'/\Zon P S S'/\xe (T++ [P.p,P.a.s,P.a.k,P.a.m]) w w'
def OneP (p:Nat) (a:DA) (l u:Int) (S:DS) (c:Cmd) (v:Value) (w:World) (e:Ending) (w':World):Prop:=
 (e=.returned v/\Hid (Pw w' p a l (u+1) (xh S [c])/\xe [p,a.s,a.k,a.m] w w'))\/(e=.panicked [{ v:=xP,recovered:=false }]/\Hid (Pw w' p a l l S/\xe [p,a.s,a.k,a.m] w w'))
theorem Ran.one {p:Nat} {a:DA} {l u:Int} {S:DS} {c:Cmd} {v:Value} {w w':World} {e:Ending} (h:Ran p a l u S [c] v w e w'):OneP p a l u S c v w e w':=by
 rcases h with⟨rfl,h1,h2⟩|⟨rfl,⟨S',⟨pre,c',post,hp,h3,h4⟩,h1⟩,h2⟩
 ·exact .inl ⟨rfl,by simpa using h1,h2⟩
 ·refine .inr ⟨rfl,?_,h2⟩
  cases pre with
  |nil=>rw[h3]at h1;exact h1
  |cons x pre=>simp at hp
theorem QL (w:World) (p:Nat) (a:DA) (l u:Int) (S:DS) (h:Pw w p a l u S) (hb:u≤1000000000000) (z v:Int) (hz:0≤z/\z<a.n):
  Calls Tryz.prog 145 #[ptr a.d,.int .i64 z,.int .u64 v] w (OneP p a l u S (.st z.toNat v) (.int .i64 0) w):=by
 obtain⟨j,rfl⟩:∃j:Nat,z=(j:Int):=⟨z.toNat,by omega⟩
 refine(xM w p a l u S j v h (by omega) (by omega)).mono fun e w' hr=>?_
 rw[Int.toNat_natCast]
 exact hr.one
theorem xea (w:World) (p:Nat) (a:DA) (l u:Int) (S:DS) (h:Pw w p a l u S) (hb:u≤1000000000000) (i:Nat) (hi:i<a.n):
  Calls Tryz.prog 146 #[ptr a.d,.int .i64 i] w (OneP p a l u S (.fl i) (.int .i64 0) w):=
 (yz w p a l u S i h hi (by omega)).mono fun e w' hr=>hr.one
theorem xec (w:World) (p:Nat) (a:DA) (l u:Int) (S:DS) (h:Pw w p a l u S) (hb:u≤1000000000000):
  Calls Tryz.prog 147 #[ptr a.d] w (OneP p a l u S .fe (.tuple #[]) w):=
 (yR w p a l u S h (by omega)).mono fun e w' hr=>hr.one
open Go.RowKit Go.OpenShut
section
variable {P:Program} {ops:Array Oper} {l n:Nat}
def Zi (Q:Exit->Act->World->Prop):Exit->Act->World->Prop
 | .outgrown,_,_=>False
 |e,a,w=>Q e a w
theorem Zi.normal {Q:Exit->Act->World->Prop} {a:Act} {w:World} (h:Q .normal a w):Zi Q .normal a w:=h
theorem Zi.imp {Q:Exit->Act->World->Prop} :∀(e:Exit) (a:Act) (w:World),Zi Q e a w->Q e a w:=fun e a w h=>by
 cases e<;>first|exact h|exact(h:False).elim
theorem Zi.in {Q:Exit->Act->World->Prop} :¬LetsOut (Zi Q):=fun⟨_,_,h⟩=>h
theorem VV {id:Nat} {Q:Exit->Act->World->Prop} {S:World->Prop} {a:Act} {w:World} (hd:ndB ops=true) (hm:P.follows .mixedOrders=true) (hS:S w.drew)
  (h:S w.drew→wpAnyH P .any ops (Zi Q) S ops.size (Array.replicate ops.size false) a w.drew):(Code.region id ops true).wpIn (Fence.wide.inRound l) n P Q a w:=
 wpIn_mono (wpIn_region_any hm (vL hd Zi.in _ _ _ _ (wpAny_of_held _ _ _ _ (h hS)))) Zi.imp
end
theorem xcb (w:World) (p:Nat) (a:DA) (l u:Int) (S:DS) (h:Pw w p a l u S) (hb:u≤1000000000000) (n r z i t v:Int) (hv:IntKind.u64.wrap t=v) (hn:0≤n/\n≤64) (hz:0≤z/\z+n<a.n) (hf:fldE n r i true=0):
  Calls Tryz.prog 103 #[obV n r z,.int .i64 i,.int .i64 t,.func (.func 145) #[ptr a.d] #[]] w (OneP p a l u S (.st (z+1+i).toNat v) (.int .i64 0) w):=by
 have hfew:=h.dev.few
 have hn8:=a.n8
 refine(YH (F:=145) (first:=#[ptr a.d]) (cap:=#[]) w n r z i t (fun w1 code w'=>code=0∧Pw w' p a l (u+1) (xh S [.st (z+1+i).toNat v])∧xe [p,a.s,a.k,a.m] w1 w') (fun w1 w'=>Pw w' p a l l S∧xe [p,a.s,a.k,a.m] w1 w') hn.2 ⟨hz.1,by omega⟩ (fun w i v=>by simp[go_sem]) (fun h1 h2 w1 hk=>?_)).mono ?_
 ·rw[hv]
  refine(QL w1 p a l u S (h.keep0 hk) hb (z+1+i) v (by omega)).mono ?_
  rintro e w' (⟨rfl,h3⟩|⟨rfl,h3⟩)
  ·exact .inl ⟨0,rfl,rfl,h3.out.1,h3.out.2⟩
  ·exact .inr ⟨rfl,h3.out⟩
 rintro e w' (⟨h3,rfl,hk⟩|⟨h3,w1,hk,⟨code,rfl,rfl,hP,hk1⟩|⟨rfl,h4,hk1⟩⟩)
 ·exact absurd hf h3
 ·exact .inl ⟨rfl,hP,(hk.mono (by simp)).trans hk1⟩
 ·exact .inr ⟨rfl,h4,(hk.mono (by simp)).trans hk1⟩
end Go.Proofs.YtcdhklgahepcaaaGreat
