import Derived.Test.YtcdhklgahepcaaaGreatTel
import Derived.LoopN
import Derived.BigQuiet
import Derived.Test.YtcdhklgahepcaaaGreatAwk12
import Derived.Deep.RegionHeld3
set_option maxHeartbeats 4000000
set_option maxRecDepth 100000
namespace Go.Proofs.YtcdhklgahepcaaaGreat
open Go.RowKit Go.OpenShut
def FrmP (S:DS) (c:Cfg) (k u:Nat) (ws:List Nat) (a:DA) (w:World) (e:Ending) (w':World):Prop:=
 ∃gf lb Fct,e=.returned (.func (.func gf) #[] lb)/\(∀args w,(callFunc gf args).run Tryz.prog w=.ok (.enter gf args) w)/\
  xc0 Tryz.prog gf lb (rcF S c k u ws).length (rcA S (rcF S c k u ws)) Fct/\
  (∀T W,xe T w' W->(∀b∈T,(b<w.heap.size/\b≠a.d/\b≠a.s/\b≠a.k/\b≠a.m)\/w'.heap.size≤b)->Fct W)/\xe [] w w'
structure FrF (a:DA) (c:Cfg) (k u:Nat) (bd bc bb bx:Nat) (S:DS) (x:Option Addr) (n cp:Nat) (f:Nat->Int) (W:World):Prop where
 bs:FrB a c k u bd bc bb S W
 xb:At W bx (.cells #[.slice x n cp] 60)
 xr:Reads W x n f
theorem WJ {S:DS} {c:Cfg} {k u:Nat} {out ws:List Nat} {i v:Nat} (hi:ws[i]? =some v) (ho:(obW S c k u v).isSome=true) (hn:v∉seeL S c k u out (ws.take i)):(seeL S c k u out ws)[(seeL S c k u out (ws.take i)).length]? =some v:=by
 have e:ws=ws.take i++ [v]++ws.drop (i+1):=by
  have e2:ws.take (i+1)=ws.take i++ [v]:=by rw[List.take_add_one,hi];rfl
  rw[<-e2,List.take_append_drop]
 obtain⟨L,hL⟩:∃L,L=seeL S c k u out (ws.take i):=⟨_,rfl⟩
 have e3:seeL S c k u out ws=seeL S c k u (L++ [v]) (ws.drop (i+1)):=by
  have h1:seeL S c k u out ws=seeL S c k u out (ws.take i++ [v]++ws.drop (i+1)):=by rw[<-e]
  rw[h1,Yf,Xh,<-hL,wh ho (by rw[hL];exact hn)]
 obtain⟨t,ht⟩:=Xg (S:=S) (c:=c) (k:=k) (u:=u) (ws.drop (i+1)) (L++ [v])
 rw[e3,ht,<-hL,List.append_assoc,List.getElem?_append_right (Nat.le_refl _)]
 simp
theorem QU {S:DS} {c:Cfg} {k u:Nat} {ws:List Nat} {i v:Nat} (hi:ws[i]? =some v) (ho:(obW S c k u v).isSome=true) (hn:v∉seeL S c k u [] (ws.take i)):(rcF S c k u ws)[(seeL S c k u [] (ws.take i)).length]? =some v:=
 YC (i:=0) (WJ hi ho hn)
theorem Yw {S:DS} {c:Cfg} {k u:Nat} (g:Nat->Nat) (p:Nat->Bool):∀(l out:List Nat),(∀i∈l,p i=false->(obW S c k u (g i)).isSome=false)->seeL S c k u out ((l.filter p).map g)=seeL S c k u out (l.map g)
 | [],_,_=>rfl
 |i::l,out,h=>by
  cases hp:p i with
  |true=>
   rw[List.filter_cons_of_pos hp,List.map_cons,List.map_cons,yo,yo]
   exact Yw g p l _ fun j hj=>h j (by simp[hj])
  |false=>
   rw[List.filter_cons_of_neg (by simp[hp]),List.map_cons,yo,yZ (h i (by simp) hp)]
   exact Yw g p l _ fun j hj=>h j (by simp[hj])
theorem Xy (v:Nat) (h:v<18446744073709551616):(-9223372036854775808≤asInt (v:Int)/\asInt (v:Int)<9223372036854775808)/\(asInt (v:Int)=(v:Int)\/asInt (v:Int)<0/\9223372036854775808≤v):=by
 unfold asInt wrap64
 omega
theorem xad {S:DS} {c:Cfg} {k u:Nat} {ws:List Nat} {j X rr:Nat} {G:Nat->Int} (hX:(rcW S c k u ws j)[j]? =some X) (hr:rr=hdR (S.now X).toNat)
  (hx:∀t,t<rr->∃x:Nat,S.now (X+1+t)=(x:Int)/\x<18446744073709551616) (hG:∀t,t<rr->G t=asInt (S.now (X+1+t))):
  seeL S c k u (rcW S c k u ws j) ((nzL G rr).map fun t=>(S.now (X+1+t)).toNat)=rcW S c k u ws (j+1):=by
 rw[yg hX]
 unfold nmW nzL
 rw[<-hr]
 refine Yw _ _ _ _ fun t ht hp=>?_
 have ht:=List.mem_range.1 ht
 have h1:G t=0:=by simpa using hp
 rw[hG t ht]at h1
 obtain⟨v,hv,hvb⟩:=hx t ht
 have h4:=(Xy v hvb).2
 rw[hv]at h1⊢
 rw[h1]at h4
 clear hvb hG hx hp
 have h5:v=0:=by
  rcases h4 with h4|⟨h4,_⟩
  ·omega
  ·exact absurd h4 (by decide)
 subst h5
 rw[Int.toNat_natCast,Bool.eq_false_iff]
 intro h2
 have h3:=YJ h2
 have h6:=xK (c:=c) k
 omega
open Go.RowKit Go.OpenShut
abbrev QI (bd bc bb B:Nat):Obj:=.cells #[.func (.func 203) #[] #[ptr bd,ptr bc,ptr bb,ptr (B+3),ptr (B+1),ptr B]] 155
theorem qG (w:World) (n r z:Int) (d:Nat):
  Calls Tryz.prog 141 #[obV n r z,ptr d] w fun e w'=>∃Bo Bd,e=.returned (.func (.func 195) #[] #[ptr Bo,ptr Bd])/\At w' Bo (obO n r z)/\At w' Bd (.cells #[ptr d] 28)/\w.heap.size≤Bo/\w.heap.size≤Bd/\xe [] w w':=by
 refine(Xk w n r z d).mono ?_
 rintro e w' ⟨rfl,rfl⟩
 refine⟨_,_,rfl,(At.new w _).alloc _,?_,Nat.le_refl _,by omega,((xe.refl [] w).alloc _).alloc _⟩
 have:=At.new (w.alloc (obO n r z)) (.cells #[ptr d] 28)
 rwa[World.size_alloc]at this
def FrI (J:Nat->List Nat->World->Prop) (S:DS) (l bd bc bb B:Nat) (out O:List Nat) (x:Option Addr) (cp:Nat) (W:World):Prop:=
 TlI J S (.func (.yield l) #[] #[]) B out O x cp W/\At W (B+4) (QI bd bc bb B)
theorem FrI.off {J:Nat->List Nat->World->Prop} {S:DS} {l bd bc bb B:Nat} {out O:List Nat} {x:Option Addr} {cp:Nat} {W:World} (h:FrI J S l bd bc bb B out O x cp W) {T:List Nat} (hT:∀b∈T,b∉O\/b=B+1\/b=B+2\/b∈blkL x):B+4∉T:=fun hm=>by
 rcases hT _ hm with h1|h1|h1|h1
 ·exact h1 (h.1.own 4 (by omega))
 ·omega
 ·omega
 ·have:=(h.1.ob.ge _ h1).1
  omega
structure NmS (B D0 D Bo Bd:Nat) (bs O3:List Nat):Prop where
 low:B+4<D0/\D0≤D
 o:D0≤Bo/\Bo<D/\Bo∈O3
 d:D0≤Bd/\Bd<D/\Bd∈O3
 bs:∀b∈bs,b<D0/\b∈O3
structure NmI (J:Nat->List Nat->World->Prop) (S:DS) (l bd bc bb B:Nat) (a:DA) (nn rr X Bo Bd:Nat) (bs O3:List Nat) (D0 D:Nat) (out O:List Nat) (x:Option Addr) (cp:Nat) (W:World):Prop where
 i:FrI J S l bd bc bb B out O x cp W
 sub:∀b∈O3,b∈O
 rec':∀b,D≤b->b<D+2->b<W.heap.size->b∈O
 row:∀b∈blkL x,b<D0\/D+2≤b
 bo:At W Bo (obO (nn:Nat) (rr:Nat) (X:Nat))
 bd:At W Bd (.cells #[ptr a.d] 28)
 bs:∀b∈bs,At W b (.deferred (some []))
def NmX (Jx:List Nat->World->Prop) (bs O3:List Nat) (D:Nat) (O:List Nat) (W:World):Prop:=
 Jx O W/\(∀b∈O3,b∈O)/\(∀b,D≤b->b<D+2->b<W.heap.size->b∈O)/\∀b∈bs,At W b (.deferred (some []))
theorem NmI.keep {J:Nat->List Nat->World->Prop} {S:DS} {l bd bc bb B:Nat} {a:DA} {nn rr X Bo Bd:Nat} {bs O3:List Nat} {D0 D:Nat} {out O:List Nat} {x:Option Addr} {cp:Nat} {W W':World} {T:List Nat} (hJ:∀k,Bears (J k)) (hS:NmS B D0 D Bo Bd bs O3)
  (h:NmI J S l bd bc bb B a nn rr X Bo Bd bs O3 D0 D out O x cp W) (hk:xe T W W') (hT:∀b∈T,b<W.heap.size->b=D+1):NmI J S l bd bc bb B a nn rr X Bo Bd bs O3 D0 D out (O++rngW W W') x cp W':=by
 have hl:=hS.low
 have off:∀b,b<W.heap.size->b≠D+1->b∉T:=fun b h1 h2 h3=>h2 (hT b h3 h1)
 refine⟨⟨h.i.1.keep hJ hk fun b hb hlt=>?_,hk.at h.i.2 (off _ h.i.2.lt (by omega))⟩,fun b hb=>List.mem_append_left _ (h.sub b hb),fun b h1 h2 h3=>?_,h.row,hk.at h.bo (off _ h.bo.lt (by have:=hS.o;omega)),hk.at h.bd (off _ h.bd.lt (by have:=hS.d;omega)),fun b hb=>hk.at (h.bs b hb) (off _ (h.bs b hb).lt (by have:=(hS.bs b hb).1;omega))⟩
 ·obtain rfl:=hT b hb hlt
  refine⟨h.rec' _ (by omega) (by omega) hlt,by omega,fun hr=>?_⟩
  have:=h.row _ hr
  omega
 ·by_cases hw:b<W.heap.size
  ·exact List.mem_append_left _ (h.rec' b h1 h2 hw)
  ·exact List.mem_append_right _ (yh.2 ⟨by omega,h3⟩)
theorem NmX.keep {Jx:List Nat->World->Prop} {B D0 D Bo Bd:Nat} {bs O3 O:List Nat} {W W':World} {T:List Nat} (hX:Bears Jx) (hS:NmS B D0 D Bo Bd bs O3) (h:NmX Jx bs O3 D O W) (hk:xe T W W') (hT:∀b∈T,b<W.heap.size->b=D+1):NmX Jx bs O3 D (O++rngW W W') W':=by
 obtain⟨h1,h2,h3,h4⟩:=h
 have hl:=hS.low
 refine⟨hX _ _ W W' h1 (hk.mono fun b hlt hb=>?_) (fun b hb=>?_),fun b hb=>List.mem_append_left _ (h2 b hb),fun b g1 g2 g3=>?_,fun b hb=>hk.at (h4 b hb) fun hm=>?_⟩
 ·obtain rfl:=hT b hb hlt
  exact h3 _ (by omega) (by omega) hlt
 ·rcases List.mem_append.1 hb with hb|hb
  ·exact .inl hb
  ·exact .inr (yh.1 hb).1
 ·by_cases hw:b<W.heap.size
  ·exact List.mem_append_left _ (h3 b g1 g2 hw)
  ·exact List.mem_append_right _ (yh.2 ⟨by omega,g3⟩)
 ·have:=hT b hm (h4 b hb).lt
  have:=(hS.bs b hb).1
  omega
theorem NmI.tell {J:Nat->List Nat->World->Prop} {Jx:List Nat->World->Prop} {S:DS} {l bd bc bb B:Nat} {a:DA} {nn rr X Bo Bd:Nat} {bs O3:List Nat} {D0 D:Nat} {out O out':List Nat} {x:Option Addr} {cp:Nat} {W W':World} {e:Ending} (hS:NmS B D0 D Bo Bd bs O3)
  (h:NmI J S l bd bc bb B a nn rr X Bo Bd bs O3 D0 D out O x cp W) (hD:D+2≤W.heap.size) (hT:xcX J Jx S (.func (.yield l) #[] #[]) B O x W out' e W'):
  ((e=.returned (.bool true)/\∃O' x' cp',NmI J S l bd bc bb B a nn rr X Bo Bd bs O3 D0 D out' O' x' cp' W')\/(e=.returned (.bool false)/\∃O',NmX Jx bs O3 D O' W'))/\
    ∃T,xe T W W'/\D∉T/\D+1∉T/\∀b∈T,b∉O\/b=B+1\/b=B+2\/b∈blkL x:=by
 obtain⟨O',hO,⟨T,hkT,hT⟩,hE⟩:=hT
 have hl:=hS.low
 have off:∀b,b∈O->B+4<b->b∉blkL x->b∉T:=fun b h1 h2 h3 h4=>by
  rcases hT b h4 with h5|h5|h5|h5
  ·exact h5 h1
  ·omega
  ·omega
  ·exact h3 h5
 have hDr:∀b,D≤b->b<D+2->b∉T:=fun b h1 h2=>off b (h.rec' b h1 h2 (by omega)) (by omega) fun hr=>by have:=h.row b hr;omega
 have hBs:∀b∈bs,At W' b (.deferred (some [])):=fun b hb=>hkT.at (h.bs b hb) fun hm=>by
  have hbO:=h.sub b (hS.bs b hb).2
  have hA:=h.bs b hb
  rcases hT b hm with h5|h5|h5|h5
  ·exact h5 hbO
  ·rw[h5]at hA
   exact Obj.noConfusion (hA.inj h.i.1.tb)
  ·rw[h5]at hA
   obtain⟨_,_,hm,_⟩:=h.i.1.mp
   exact Obj.noConfusion (hA.inj hm)
  ·rcases h.i.1.ob.form with⟨rfl,_⟩|⟨g,cur,rfl,_,hg,_⟩
   ·simp[blkL]at h5
   ·have h6:b=g:=by simpa[blkL]using h5
    rw[h6]at hA
    exact Obj.noConfusion (hA.inj hg)
 refine⟨?_,T,hkT,hDr D (by omega) (by omega),hDr (D+1) (by omega) (by omega),hT⟩
 rcases hE with⟨rfl,x',cp',hI,hr⟩|⟨rfl,hx⟩
 ·refine .inl ⟨rfl,O',x',cp',⟨hI,hkT.at h.i.2 (h.i.off hT)⟩,fun b hb=>hO b (h.sub b hb),fun b h1 h2 h3=>hO b (h.rec' b h1 h2 (by omega)),fun b hb=>?_,hkT.at h.bo (off _ (h.sub _ hS.o.2.2) (by have:=hS.o;omega) fun hr=>by have:=h.row _ hr;have:=hS.o;omega),
   hkT.at h.bd (off _ (h.sub _ hS.d.2.2) (by have:=hS.d;omega) fun hr=>by have:=h.row _ hr;have:=hS.d;omega),hBs⟩
  rcases hr b hb with h1|h1
  ·exact h.row b h1
  ·exact .inr (by omega)
 ·exact .inr ⟨rfl,O',hx,fun b hb=>hO b (h.sub b hb),fun b h1 h2 h3=>hO b (h.rec' b h1 h2 (by omega)),hBs⟩
open Go.RowKit Go.OpenShut
theorem qU (a:DA) (S:DS) (c:Cfg) (hc:c.Ok) (hcn:c.words=a.n) (k:Nat) (hk:k≤1) (u:Nat) (hu:u≤c.space)
  (hx:∀j:Nat,c.frm k≤j->j<c.frm k+u->∃x:Nat,S.now j=(x:Int)/\x<18446744073709551616)
  (bd bc bb bx:Nat) (x:Option Addr) (n cp:Nat) (f:Nat->Int) (hn:n≤1000) (hf:∀i,i<n->∃v:Nat,f i=(v:Int)/\v<18446744073709551616):
  xc0 Tryz.prog 202 #[ptr bd,ptr bc,ptr bb,ptr bx] (rcF S c k u (wsN n f)).length (rcA S (rcF S c k u (wsN n f))) (FrF a c k u bd bc bb bx S x n cp f):=by
 intro l J Jx W hF hJ hX hY h0
 have hsp:=hc.small.2.2
 have hfr:=xW hc.small (show k≤2 by omega)
 obtain⟨LS,hLS⟩:∃LS,LS=rcF S c k u (wsN n f):=⟨_,rfl⟩
 rw[<-hLS]at hY⊢
 have HT:=hid (fun out O x' cp' W1 h hol z v hz hzv hnext=>xds a S c hc hcn k hk u hu hx l J Jx LS bd bc bb W.heap.size (fun k' O W h=>(hF k' O W h).bs) hJ hY out O x' cp' W1 h hol z v hz hzv hnext)
 have HHF:=hid hF
 have HHJ:=hid hJ
 have HHX:=hid hX
 have HLS:=hid hLS
 have HFF:=hid hf
 have HSP:=hid (And.intro hfr (And.intro hu hsp))
 have HAN:Hid (c.frm k+c.space≤a.n):=by show _≤_;rw[<-hcn];exact xu k hk
 have HXS:=hid hx
 have H0:=hid h0
 clear hF hJ hX hY hLS hf hfr hsp hu hx hc h0 hk hcn
 refine callsIn_wide.2 (xZ Tryz.func202 rfl (.of_wp ?_))
 simp only[Tryz.ntmps202,List.size_toArray,List.length_cons,List.length_nil,Nat.reduceAdd,Nat.reduceSub,Array.replicate_succ,Array.replicate_zero,List.push_toArray,List.append_toArray,List.nil_append,List.cons_append]
 have hmk:=fun w:World=>run_makeMap (P:=Tryz.prog) (w:=w) 115
 go_upto_region 4 with fail
 obtain⟨B,hB⟩:∃B,B=W.heap.size:=⟨_,rfl⟩
 rw[<-hB]at HT⊢
 simp only[Nat.add_assoc,Nat.reduceAdd]
 have f1:=At.new W (.cells #[.func (.yield l) #[] #[]] 244)
 have f2:=At.new (W.alloc (.cells #[.func (.yield l) #[] #[]] 244)) (.cells #[.slice none 0 0] 212)
 have f3:=IMap.made ((W.alloc (.cells #[.func (.yield l) #[] #[]] 244)).alloc (.cells #[.slice none 0 0] 212))
 have f4:=At.new (((W.alloc (.cells #[.func (.yield l) #[] #[]] 244)).alloc (.cells #[.slice none 0 0] 212)).alloc (.map #[] 0)) (.cells #[.map (some (B+2))] 115)
 obtain⟨W3,hW3⟩:∃w,w=((((W.alloc (.cells #[.func (.yield l) #[] #[]] 244)).alloc (.cells #[.slice none 0 0] 212)).alloc (.map #[] 0)).alloc (.cells #[.map (some (B+2))] 115)):=⟨_,rfl⟩
 have f5:=At.new W3 (QI bd bc bb B)
 have k4:xe [] W (W3.alloc (QI bd bc bb B)):=by rw[hW3];exact(((((xe.refl [] W).alloc _).alloc _).alloc _).alloc _).alloc _
 have hz4:(W3.alloc (QI bd bc bb B)).heap.size=B+5:=by rw[hW3,hB];simp
 have g1:=(((f1.alloc (.cells #[.slice none 0 0] 212)).alloc (.map #[] 0)).alloc (.cells #[.map (some (B+2))] 115))
 have g2:=((f2.alloc (.map #[] 0)).alloc (.cells #[.map (some (B+2))] 115))
 have g3:=f3.keep ((xe.refl [] _).alloc (.cells #[.map (some (B+2))] 115)) (by simp)
 have hz3:W3.heap.size=B+4:=by rw[hW3,hB];simp
 rw[<-hW3]at g1 g2 g3 f4⊢
 simp only[World.size_alloc,<-hB,Nat.add_assoc,Nat.reduceAdd]at g1 g2 g3 f4
 rw[hz3]at f5
 obtain⟨W4,hW4⟩:∃w,w=W3.alloc (QI bd bc bb B):=⟨_,rfl⟩
 have k34:xe [] W3 W4:=by rw[hW4];exact(xe.refl [] W3).alloc _
 rw[<-hW4]at f5 k4 hz4⊢
 have hTl:TlI J S (.func (.yield l) #[] #[]) B [] (rngW W W4) none 0 W4:=
  ⟨HHJ.out 0 [] _ W W4 H0.out k4 (fun b hb=>.inr (yh.1 hb).1),fun b hb=>(yh.1 hb).2,fun j hj=>yh.2 (by omega),by simp[blkL],
   k34.at g1 (by simp),k34.at g2 (by simp),(g3.keep k34 (by simp)).congr fun z=>by simp[Yv],k34.at f4 (by simp),xca _ _ _⟩
 have hFr:=HHF.out _ _ _ hTl.j
 have x0:=hFr.xb.cell 0 rfl
 have HTl:=hid hTl
 have HF5:=hid f5
 have HBW:=hid hB
 clear f1 f2 f3 f4 f5 g1 g2 g3 hz3 k34 hW4 hW3 k4 hz4 hTl hFr hmk hB
 go_wp2_with fail
 go_loopg [18] n (fun rr s18 wr=>∃(i:Nat) (O:List Nat) (x':Option Addr) (cp':Nat),i+rr=n∧s18=.int .i64 i∧FrI J S l bd bc bb B (seeL S c k u [] ((wsN n f).take i)) O x' cp' wr)
 case atStart=>exact⟨0,_,_,_,by omega,rfl,HTl.out,HF5.out⟩
 case round=>
  obtain⟨i,O,x',cp',hi,rfl,hI⟩:=hrel
  have hFr:=HHF.out _ _ _ hI.1.j
  have HI:=hid hI
  by_cases hin:i<n
  ·obtain⟨bw,off,rfl,hbw,hcl⟩:=hFr.xr.resolve_left (by omega)
   obtain⟨v,hv,hvb⟩:=HFF.out i hin
   have d0:=hcl i hin
   rw[hv]at d0
   have a0:wr.cell? ⟨B+4,0,none⟩=some (.func (.func 203) #[] #[ptr bd,ptr bc,ptr bb,ptr (B+3),ptr (B+1),ptr B]):=hI.2.cell 0 rfl
   obtain⟨z,hz⟩:∃z,z=asInt (v:Int):=⟨_,rfl⟩
   obtain⟨hz1,hz2⟩:=Xy v hvb
   rw[<-hz]at hz1 hz2
   have e1:IntKind.i64.wrap (v:Int)=z:=by rw[hz];exact IntWalk.i64_left _
   have hws:(wsN n f)[i]? =some v:=by simp[wsN,hin,hv]
   have hol:(seeL S c k u [] ((wsN n f).take i)).length≤5000:=by
    have:=Jj (S:=S) (c:=c) (k:=k) (u:=u) ((wsN n f).take i) (out:=[]) List.nodup_nil (by simp)
    have:=HSP.out
    omega
   have hnx:(obW S c k u v).isSome=true->v∉seeL S c k u [] ((wsN n f).take i)->LS[(seeL S c k u [] ((wsN n f).take i)).length]? =some v:=fun h1 h2=>by rw[HLS.out];exact QU hws h1 h2
   have HC:=hid (HT.out _ O x' cp' wr hI.1 hol z v hz1 hz2 hnx)
   have HE:Hid (seeW S c k u (seeL S c k u [] ((wsN n f).take i)) v=seeL S c k u [] ((wsN n f).take (i+1))):=by
    show _=_
    rw[List.take_add_one,hws,<-Xh]
    rfl
   have hii:(i:Int)<(n:Int):=by omega
   have HIN:=hid (And.intro hi hin)
   clear hz hz1 hz2 hws hol hnx hv hvb hcl hbw hI hFr hi hin
   go_wp2_with fail
   refine HC.out.mono ?_
   rintro e w5 ⟨O',hOO,⟨T,hkT,hT⟩,⟨rfl,x2,cp2,hT2,hbx⟩|⟨rfl,hJx⟩⟩
   ·have HE2:Hid (FrI J S l bd bc bb B (seeL S c k u [] ((wsN n f).take (i+1))) O' x2 cp2 w5):=⟨by rw[<-HE.out];exact hT2,hkT.at HI.out.2 (HI.out.off hT)⟩
    clear d0 a0 e1 hOO hkT hT hT2 hbx
    go_wp2_with fail
    go_roundg (n-(i+1))
    case measure=>(have:=HIN.out;omega)
    case rel=>exact⟨i+1,O',x2,cp2,by have:=HIN.out;omega,by go_num,HE2.out⟩
   ·have HX:=hid hJx
    clear d0 a0 e1 hOO hkT hT hJx
    go_wp2_with fail
    refine wC [] w5 List.nodup_nil (by simp) fun w6 k6=>?_
    exact⟨.tuple #[],by simp[results,Tryz.results202,go_sem],rfl,O',.inr (HHX.out _ _ _ _ HX.out (k6.mono (by simp)) (fun b hb=>.inl hb))⟩
  ·have hie:i=n:=by omega
   subst hie
   clear hi hin hI hFr
   go_wp2_with fail
   rw[show(wsN i f).take i=wsN i f from List.take_of_length_le (by rw[XC];exact Nat.le_refl _)]at HI
   clear x0
   refine VG (fun N act w=>∃(j:Nat) (bs:List Nat) (O:List Nat) (x':Option Addr) (cp':Nat) (s12 s13 s28 s29 s30 s31 s32 s33 s34 s35 s36 s37 s38 s39 s40 s41 s42 s43 s44 s45:Value),
    act= { tmps:=#[.func (.yield l) #[] #[],ptr bd,ptr bc,ptr bb,ptr bx,.pointer (some ⟨B,0,none⟩),.pointer (some ⟨B+1,0,none⟩),.pointer (some ⟨B+3,0,none⟩),.pointer (some ⟨B+4,0,none⟩),undef,
     u10,.int .i64 j,s12,s13,.map (some (B+2)),.func (.func 203) #[] #[ptr bd,ptr bc,ptr bb,.pointer (some ⟨B+3,0,none⟩),.pointer (some ⟨B+1,0,none⟩),.pointer (some ⟨B,0,none⟩)],
     .slice x i cp,.int .i64 i,.int .i64 i,.bool false,u20,u21,u22,u23,u24,u25,u26,u27,s28,s29,s30,s31,s32,s33,s34,s35,s36,s37,s38,s39,s40,s41,s42,s43,s44,s45],defers:=mkD bs } /\
    j+N=u+1/\bs.Nodup/\(∀b∈bs,b∈O/\At w b (.deferred (some [])))/\FrI J S l bd bc bb B (rcW S c k u (wsN i f) j) O x' cp' w) (u+1)
    ⟨0,[],O,x',cp',_,_,_,_,_,_,_,_,_,_,_,_,_,_,_,_,_,_,_,_,rfl,by omega,List.nodup_nil,by simp,HI.out⟩ ?_
   clear HI HTl HF5
   rintro N act w ⟨j,bs,O,x',cp',s12,s13,s28,s29,s30,s31,s32,s33,s34,s35,s36,s37,s38,s39,s40,s41,s42,s43,s44,s45,rfl,hjN,hnd,hbs,hI⟩ K hK
   have hlen:(rcW S c k u (wsN i f) j).length≤u:=vQ j
   have hlu:(u:Int)≤4096:=by have:=HSP.out;omega
   have hobs:∀y∈rcW S c k u (wsN i f) j,(obW S c k u y).isSome=true:=fun y hy=>YB j y hy
   have hfin:(rcW S c k u (wsN i f) j).length≤j->rcW S c k u (wsN i f) j=LS:=fun h=>by rw[HLS.out];exact zO h
   obtain⟨out,hout⟩:∃out,out=rcW S c k u (wsN i f) j:=⟨_,rfl⟩
   rw[<-hout]at hlen hobs hfin hI
   have HOUT:=hid hout
   obtain⟨M,hM⟩:∃M,M=out.length:=⟨_,rfl⟩
   have t0:w.cell? ⟨B+1,0,none⟩=some (.slice x' M cp'):=by rw[hM];exact hI.1.tb.cell 0 rfl
   rw[<-hM]at hlen hfin
   have HI:=hid hI
   have HBS:=hid hbs
   have HND:=hid hnd
   have HM:=hid hM
   have HJN:=hid hjN
   have HKK:=hid hK
   have hMi:(M:Int)≤4096:=by omega
   have HLE:=hid hlen
   clear hout hM hI hbs hnd hjN hK hlu
   by_cases hjl:j<M
   case neg=>
    have t1:decide ((j:Int)<(M:Int))=false:=decide_eq_false (by omega)
    have HFIN:=hid (hfin (by omega))
    have t2:¬(j:Int)<(M:Int):=by omega
    clear hfin hlen hobs hjl
    go_wp2_with fail
    refine wC bs w HND.out (fun b hb=>(HBS.out b hb).2) fun w6 k6=>?_
    refine⟨.tuple #[],by simp[results,Tryz.results202,go_sem],rfl,O,.inl ?_⟩
    rw[<-HFIN.out]
    exact HHJ.out _ O O w w6 HI.out.1.j (k6.mono (fun b _ hb=>(HBS.out b hb).1)) (fun b hb=>.inl hb)
   obtain⟨X,hX⟩:∃X,out[j]? =some X:=⟨_,List.getElem?_eq_getElem (by have:=HM.out;omega)⟩
   obtain⟨⟨nn,rr⟩,hob⟩:=Option.isSome_iff_exists.1 (hobs X (List.mem_of_getElem? hX))
   obtain⟨x1,x2,x3,x4,x5,x6⟩:=zt hob
   have t1:decide ((j:Int)<(M:Int))=true:=decide_eq_true (by omega)
   have hji:(j:Int)<(M:Int):=by omega
   have HJM:=hid hjl
   have hFr:=HHF.out _ _ _ HI.out.1.j
   have d0:w.cell? ⟨bd,0,none⟩=some (ptr a.d):=hFr.bs.d.cell 0 rfl
   obtain⟨g,cur,rfl,hg1,hg2,hg3⟩:=HI.out.1.ob.form.resolve_left (by have:=HM.out;omega)
   obtain⟨e0,e1,e2⟩:=hg3 j X hX
   rw[<-x3]at e0
   rw[<-x4]at e1
   have q0:=hg2.cell _ e0
   have q1:=hg2.cell _ e1
   have q2:=hg2.cell _ e2
   have HX:=hid hX
   have HXX:=hid (And.intro x1 (And.intro x2 (And.intro x5 x6)))
   have HNR:=hid (And.intro x3 x4)
   have hnni:(nn:Int)≤64:=by omega
   have hXi:(X:Int)≤30000:=by have:=HSP.out;omega
   have HCZ:=hid (fun(w':World) (kk:xe [] w w')=>show w'.cell? ⟨B+1,0,none⟩=some (.slice (some ⟨g,0,none⟩) M cp')/\w'.cell? ⟨g,j*3,none⟩=some (.int .i64 (nn:Nat))/\w'.cell? ⟨g,j*3+1,none⟩=some (.int .i64 (rr:Nat))/\w'.cell? ⟨g,j*3+2,none⟩=some (.int .i64 (X:Nat))/\w'.cell? ⟨bd,0,none⟩=some (ptr a.d)from
    ⟨(kk.cell (HI.out.1.tb.lt) (by simp)).trans t0,(kk.cell hg2.lt (by simp)).trans q0,(kk.cell hg2.lt (by simp)).trans q1,(kk.cell hg2.lt (by simp)).trans q2,(kk.cell hFr.bs.d.lt (by simp)).trans d0⟩)
   clear hX hob x1 x2 x3 x4 x5 x6 hfin hlen hobs hg1 hg2 hg3 e0 e1 e2 hFr
   have kk:xe [] w w.drew:=(xe.refl [] w).drew
   go_upto_region 12 with fail
   go_region_held3 (fun w'=>w'.cell? ⟨B+1,0,none⟩=some (.slice (some ⟨g,0,none⟩) M cp')∧w'.cell? ⟨g,j*3,none⟩=some (.int .i64 (nn:Nat))∧w'.cell? ⟨g,j*3+1,none⟩=some (.int .i64 (rr:Nat))∧w'.cell? ⟨g,j*3+2,none⟩=some (.int .i64 (X:Nat))∧w'.cell? ⟨bd,0,none⟩=some (ptr a.d))
     (exact HCZ.out _ kk)
     (first
       |(go_at_call 141;refine(qG _ _ _ _ _).mono ?_;rintro e w' ⟨Bo,Bd,rfl,hBo,hBd,hBo2,hBd2,hk9⟩;have hk8:=kk;have kk:=kk.trans hk9;clear hk9))
   all_goals
    rename_i hHd
    clear hHd
    have hlow:∀b∈blkL (some (⟨g,0,none⟩:Addr)),b<w.heap.size:=fun b hb=>(HI.out.1.ob.ge b hb).2
    have h13:=HI.out.1.keep HHJ.out kk (by simp)
    have hb4:B+4<w.heap.size:=HI.out.2.lt
    have HI13:Hid (FrI J S l bd bc bb B out (O++rngW w w') (some ⟨g,0,none⟩) cp' w'):=⟨h13,kk.at HI.out.2 (by simp)⟩
    have HBD:Hid (At w' Bo (obO (nn:Nat) (rr:Nat) (X:Nat))/\At w' Bd (.cells #[ptr a.d] 28)/\w.heap.size≤Bo/\w.heap.size≤Bd/\B+4<w.heap.size/\w.heap.size≤w'.heap.size):=⟨hBo,hBd,hBo2,hBd2,hb4,kk.size⟩
    have HBS3:Hid (∀b∈bs,b∈O++rngW w w'/\At w' b (.deferred (some []))/\b<w.heap.size):=fun b hb=>⟨List.mem_append_left _ (HBS.out b hb).1,kk.at (HBS.out b hb).2 (by simp),(HBS.out b hb).2.lt⟩
    have HLOW:=hid hlow
    obtain⟨O3,hO3⟩:∃O3,O3=O++rngW w w':=⟨_,rfl⟩
    have hBO3:Bo∈O3/\Bd∈O3:=by rw[hO3];exact⟨List.mem_append_right _ (yh.2 ⟨hBo2,hBo.lt⟩),List.mem_append_right _ (yh.2 ⟨hBd2,hBd.lt⟩)⟩
    rw[<-hO3]at HI13 HBS3
    have HBO:=hid hBO3
    obtain⟨G,hG⟩:∃G:Nat->Int,∀t,G t=asInt (S.now (X+1+t)):=⟨_,fun _=>rfl⟩
    obtain⟨nl,hnl⟩:∃nl,nl=(nzL G rr).map fun t=>(S.now (X+1+t)).toNat:=⟨_,rfl⟩
    have HG:=hid hG
    have HNL:=hid hnl
    have HRC:Hid (seeL S c k u out nl=rcW S c k u (wsN i f) (j+1)):=by
     show _=_
     have hX2:=HX.out
     rw[HOUT.out]at hX2
     rw[hnl,HOUT.out]
     exact xad hX2 HNR.out.2 (fun t ht=>HXS.out (X+1+t) (by have:=HXX.out;omega) (by have:=HXX.out;omega)) (fun t _=>HG.out t)
    have HRF:Hid (∀t,rfW S X t 0=asInt (S.now (X+1+t).toNat)):=fun t=>by
     unfold rfW
     rw[if_pos rfl]
    clear hjl hBo hBd hBo2 hBd2 hb4 hlow h13 hO3 hBO3 hG hnl t0 q0 q1 q2 d0 t1 hk8
    go_wp2_with fail
    obtain⟨D,hD⟩:∃D,D=w'.heap.size:=⟨_,rfl⟩
    have HS:Hid (NmS B w.heap.size D Bo Bd bs O3):=by
     have h1:=HBD.out
     exact⟨⟨h1.2.2.2.2.1,by rw[hD];exact h1.2.2.2.2.2⟩,⟨h1.2.2.1,by rw[hD];exact h1.1.lt,HBO.out.1⟩,⟨h1.2.2.2.1,by rw[hD];exact h1.2.1.lt,HBO.out.2⟩,fun b hb=>⟨(HBS3.out b hb).2.2,(HBS3.out b hb).1⟩⟩
    refine vZ (gf:=195) (lb:=#[ptr Bo,ptr Bd]) rfl (enters_of Tryz.func195 (by kernel_rfl) rfl) (fun fn=>?_)
    refine' (Vg (Zw Bo Bd a nn rr X G ⟨HXX.out.2.2.2,HXX.out.2.2.1,by have:=HAN.out;have:=HXX.out;have:=HSP.out;omega⟩) fn w' _ _ _ _
     (fun m W=>∃O' x2 cp2,NmI J S l bd bc bb B a nn rr X Bo Bd bs O3 w.heap.size D (seeL S c k u out (nl.take m)) O' x2 cp2 W)
     (fun W=>∃O',NmX Jx bs O3 D O' W)
     .ret .ret (.inl ⟨rfl,rfl⟩) (fun _=>rfl) ?fct ?keep ?keepx ?round ?start).mono ?after
    case fct=>
     rintro m W ⟨O',x2,cp2,h⟩
     obtain⟨p,hp⟩:=(HHF.out _ _ _ h.i.1.j).bs.dev
     refine⟨⟨h.bo,h.bd⟩,p,S,hp,fun t _=>?_⟩
     rw[HRF.out,HG.out,show((X:Int)+1+(t:Int)).toNat=X+1+t by omega]
    case keep=>
     rintro m W W' ⟨O',x2,cp2,h⟩ hk'
     exact⟨_,x2,cp2,h.keep HHJ.out HS.out hk' fun b hb _=>by rw[hD];exact List.mem_singleton.1 hb⟩
    case keepx=>
     rintro W W' ⟨O',h⟩ hk'
     exact⟨_,h.keep HHX.out HS.out hk' fun b hb _=>by rw[hD];exact List.mem_singleton.1 hb⟩
    case start=>
     refine⟨O3,some ⟨g,0,none⟩,cp',HI13.out,fun b hb=>hb,fun b h1 _ h3=>by omega,fun b hb=>.inl (HLOW.out b hb),HBD.out.1,HBD.out.2.1,fun b hb=>(HBS3.out b hb).2.1⟩
    case round=>
     rintro l' m W0 W hm ⟨O',x2,cp2,hI0⟩ kv0 _ hsz
     obtain⟨t,htr,htn,htm⟩:=ji hm
     rw[<-htm,YM htr htn]
     obtain⟨v,hv,hvb⟩:=HXS.out (X+1+t) (by have:=HXX.out;omega) (by have:=HXX.out;omega)
     obtain⟨z,hz⟩:∃z,z=G t:=⟨_,rfl⟩
     have hze:z=asInt (v:Int):=by rw[hz,HG.out,hv]
     obtain⟨hz1,hz2⟩:=Xy v hvb
     rw[<-hze]at hz1 hz2
     rw[<-hz]
     have hnl:nl[nzC G t]? =some v:=by
      rw[HNL.out,List.getElem?_map,XI htr htn]
      show some ((S.now (X+1+t)).toNat)=_
      rw[hv,Int.toNat_natCast]
     rw[<-htm]at hI0
     obtain⟨m',hm'⟩:∃m',m'=nzC G t:=⟨_,rfl⟩
     rw[<-hm']at hI0 hnl⊢
     have HE:Hid (seeW S c k u (seeL S c k u out (nl.take m')) v=seeL S c k u out (nl.take (m'+1))):=by
      show _=_
      rw[List.take_add_one,hnl,<-Xh]
      rfl
     have hol:(seeL S c k u out (nl.take m')).length≤5000:=by
      have h1:=Jj (S:=S) (c:=c) (k:=k) (u:=u) (nl.take m') (out:=out) (by rw[HOUT.out];exact wT j) (by rw[HOUT.out];exact fun y hy=>YB j y hy)
      have h2:=HSP.out
      clear hvb hz2 hz1 hze
      omega
     have hnx:(obW S c k u v).isSome=true->v∉seeL S c k u out (nl.take m')->LS[(seeL S c k u out (nl.take m')).length]? =some v:=fun h1 h2=>by
      have h3:=WJ hnl h1 h2
      rw[HRC.out]at h3
      rw[HLS.out]
      exact YC h3
     have HTV:=hid (fun V h=>HT.out (seeL S c k u out (nl.take m')) (O'++rngW W0 V) x2 cp2 V h hol z v hz1 hz2 hnx)
     have HI0:=hid hI0
     have HKV:=hid kv0
     have HSZ:=hid hsz
     clear htr htn htm hv hvb hz hze hz1 hz2 hnl hm' hol hnx hm hI0 kv0 hsz
     have hsem:=@Oper.semAt_some
     gi_wp2_with fail
     refine⟨xe.refl _ _,fun V₂ k2 hz2=>?_⟩
     have K02:xe [w'.heap.size+1] W0 V₂:=(HKV.out.mono (by simp)).trans k2
     have hI2:=HI0.out.keep HHJ.out HS.out K02 (fun b hb _=>by rw[hD];exact List.mem_singleton.1 hb)
     have a0:V₂.cell? ⟨B+4,0,none⟩=some (.func (.func 203) #[] #[ptr bd,ptr bc,ptr bb,ptr (B+3),ptr (B+1),ptr B]):=hI2.i.2.cell 0 rfl
     have HC:=hid (HTV.out V₂ hI2.i.1)
     have HI2:=hid hI2
     have HD2:Hid (D+2≤V₂.heap.size/\W0.heap.size≤W.heap.size/\W.heap.size=V₂.heap.size):=⟨by have:=K02.size;have:=HSZ.out;omega,HKV.out.size,hz2.symm⟩
     clear K02 hI2 k2 hz2
     gi_wp2_with fail
     refine⟨trivial,?_⟩
     refine(callsIn_wide.2 HC.out).mono ?_
     intro e V3 hTE
     obtain⟨hE,T,hkT,hT1,hT2,hT3⟩:=HI2.out.tell HS.out HD2.out.1 hTE
     rw[HE.out]at hE
     have HTT:Hid (xe T V₂ V3/\w'.heap.size∉T/\w'.heap.size+1∉T/\∀b∈T,b<W0.heap.size\/W.heap.size≤b):=by
      refine⟨hkT,by rw[<-hD];exact hT1,by rw[<-hD];exact hT2,fun b hb=>?_⟩
      have h0:=HD2.out
      have hB4:=HI0.out.i.2.lt
      rcases hT3 b hb with h1|h1|h1|h1
      ·by_cases h2:b<W0.heap.size
       ·exact .inl h2
       ·by_cases h3:b<V₂.heap.size
        ·exact absurd (List.mem_append_right _ (yh.2 ⟨by omega,h3⟩)) h1
        ·exact .inr (by omega)
      ·exact .inl (by omega)
      ·exact .inl (by omega)
      ·exact .inl (HI0.out.i.1.ob.ge b h1).2
     rcases hE with⟨rfl,hI3⟩|⟨rfl,hX3⟩
     ·have HI3:=hid hI3
      rw[hD]at HI3
      clear hTE hkT hT1 hT2 hT3 hI3 a0
      gi_wp2_with fail
      exact⟨HI3.out,T,HTT.out⟩
     ·have HX3:=hid hX3
      rw[hD]at HX3
      clear hTE hkT hT1 hT2 hT3 hX3 a0
      gi_wp2_with fail
      exact⟨HX3.out,T,HTT.out⟩
    case after=>
     intro e w9 hr
     cases e with
     |panicked _=>exact hr
     |outgrown=>exact hr
     |returned ve=>
      rcases hr with⟨w10,hend,⟨O',x2,cp2,hI⟩,hDf⟩|⟨w10,hend,⟨O',hX⟩,hDf⟩
      case inl=>
       refine .inl ⟨w10,hend,?_⟩
       have hnlen:nl.length=nzC G rr:=by rw[HNL.out,List.length_map];rfl
       rw[List.take_of_length_le (by rw[hnlen];exact Nat.le_refl _),HRC.out]at hI
       have HI:=hid hI
       have HDF:=hid hDf
       clear hend hnlen hI hDf
       simp only[Exit.inBlock,Exit.then]
       go_wp2_with fail
       have hjm:=HJM.out
       have hN:1≤N:=by have:=HJN.out;have:=HLE.out;omega
       have hlow:=HS.out.low
       refine HKK.out (N-1) _ _ (by omega) ⟨j+1,D::bs,O',x2,cp2,_,_,_,_,_,_,_,_,_,_,_,_,_,_,_,_,_,_,_,_,(by rw[JK,hD];rfl),by have:=HJN.out;omega,List.nodup_cons.2 ⟨fun h=>by have:=(HS.out.bs D h).1;omega,HND.out⟩,fun b hb=>?_,HI.out.i⟩
       rcases List.mem_cons.1 hb with rfl|hb
       ·exact⟨HI.out.rec' b (Nat.le_refl _) (by omega) (by rw[hD];exact HDF.out.lt),by rw[hD];exact HDF.out⟩
       ·exact⟨HI.out.sub b (HS.out.bs b hb).2,HI.out.bs b hb⟩
      case inr=>
       refine .inr ⟨_,w10,hend,?_⟩
       have HX:=hid hX
       have HDF:=hid hDf
       clear hend hX hDf
       go_wp2_with fail
       have hlow:=HS.out.low
       rw[<-hD]at HDF⊢
       refine wC (D::bs) w10 (List.nodup_cons.2 ⟨fun h=>by have:=(HS.out.bs D h).1;omega,HND.out⟩) (fun b hb=>?_) fun w11 k11=>?_
       ·rcases List.mem_cons.1 hb with rfl|hb
        ·exact HDF.out
        ·exact HX.out.2.2.2 b hb
       ·refine⟨.tuple #[],by simp[results,Tryz.results202,go_sem],rfl,O',.inr (HHX.out O' O' w10 w11 HX.out.1 (k11.mono fun b hlt hb=>?_) (fun b hb=>.inl hb))⟩
        rcases List.mem_cons.1 hb with rfl|hb
        ·exact HX.out.2.2.1 b (Nat.le_refl _) (by omega) hlt
        ·exact HX.out.2.1 b (HS.out.bs b hb).2
open Go.RowKit Go.OpenShut
theorem xbl (w:World) (x:Option Addr) (n c:Nat) (f:Nat->Int) (h:Reads w x n f) (hn:n≤17592186044416):
  Calls Tryz.prog 52 #[.slice x n c] w fun e w'=>∃x' c',e=.returned (.slice x' n c')/\Reads w' x' n f/\(∀b∈blkL x',w.heap.size≤b/\b<w'.heap.size)/\xe [] w w':=by
 cases x with
 |some x=>
  refine(Wo w x n c f h hn).mono ?_
  rintro e w' ⟨v,rfl,hv,hk⟩
  obtain⟨g,cap,rfl,h1,h2,_,h3⟩:=hv.reads
  exact⟨_,cap,rfl,h3,by simp[blkL];exact⟨h1,h2⟩,hk⟩
 |none=>
  have hn0:n=0:=by
   rcases h with h|⟨b,off,h,_⟩
   ·exact h
   ·exact absurd h (by simp)
  subst hn0
  have hnil:=zo none 0 c
  clear h hn
  go_enter Tryz.func52,Tryz.ntmps52
  go_wp2_with fail
  go_ret
  exact⟨none,0,rfl,.inl rfl,by simp[blkL],xe.refl _ _⟩
theorem Vn (w:World) (p:Nat) (a:DA) (S:DS) (c:Cfg) (hD:Dev w p a S) (hc:c.Ok) (hcn:c.words=a.n) (k:Nat) (hk:k≤1) (u:Nat) (hu:u≤c.space) (rs:Value)
  (hx:∀j:Nat,c.frm k≤j->j<c.frm k+u->∃x:Nat,S.now j=(x:Int)/\x<18446744073709551616)
  (x:Option Addr) (n cp:Nat) (f:Nat->Int) (hr:Reads w x n f) (hn:n≤1000) (hf:∀i,i<n->∃v:Nat,f i=(v:Int)/\v<18446744073709551616):
  Calls Tryz.prog 150 #[ptr a.d,cfgV c,bkV k u rs,.slice x n cp] w (FrmP S c k u (wsN n f) a w):=by
 have HIT:=hid (fun bd bc bb bx x' cp'=>qU a S c hc hcn k hk u hu hx bd bc bb bx x' n cp' f hn hf)
 have HDL:Hid (a.d<w.heap.size/\a.s<w.heap.size/\a.k<w.heap.size/\a.m<w.heap.size):=⟨hD.dev.lt,hD.now.lt,hD.kept.lt,hD.map.lt⟩
 have HD:=hid hD
 have HR:=hid hr
 have hn2:n≤17592186044416:=by omega
 clear hD hc hcn hk hu hx hr hn hf
 go_enter Tryz.func150,Tryz.ntmps150
 go_upto_region 1 with fail
 have f1:=At.new w (.cells #[ptr a.d] 28)
 have f2:=At.new (w.alloc (.cells #[ptr a.d] 28)) (cfgO c)
 have f3:=At.new ((w.alloc (.cells #[ptr a.d] 28)).alloc (cfgO c)) (bkO k u rs)
 have f4:=At.new (((w.alloc (.cells #[ptr a.d] 28)).alloc (cfgO c)).alloc (bkO k u rs)) (.cells #[.slice x n cp] 60)
 have k1:xe [] w ((((w.alloc (.cells #[ptr a.d] 28)).alloc (cfgO c)).alloc (bkO k u rs)).alloc (.cells #[.slice x n cp] 60)):=((((xe.refl [] w).alloc _).alloc _).alloc _).alloc _
 have g1:=((f1.alloc (cfgO c)).alloc (bkO k u rs)).alloc (.cells #[.slice x n cp] 60)
 have g2:=(f2.alloc (bkO k u rs)).alloc (.cells #[.slice x n cp] 60)
 have g3:=f3.alloc (.cells #[.slice x n cp] 60)
 obtain⟨B,hB⟩:∃B,B=w.heap.size:=⟨_,rfl⟩
 simp only[World.size_alloc,<-hB,Nat.add_assoc,Nat.reduceAdd]at g1 g2 g3 f4
 obtain⟨w1,hw1⟩:∃w1,w1=((((w.alloc (.cells #[ptr a.d] 28)).alloc (cfgO c)).alloc (bkO k u rs)).alloc (.cells #[.slice x n cp] 60)):=⟨_,rfl⟩
 have hz1:w1.heap.size=B+4:=by rw[hw1,hB];simp
 rw[<-hw1]at g1 g2 g3 f4 k1
 first|rw[<-hw1]|skip
 rw[<-hB]
 simp only[Nat.add_assoc,Nat.reduceAdd]
 clear f1 f2 f3 hw1
 have x0:=f4.cell 0 rfl
 have xf:=f4.free 0
 have HCL:=hid (xbl w1 x n cp f (HR.out.keep k1 (by simp)) hn2)
 have HG:=hid (And.intro g1 (And.intro g2 (And.intro g3 f4)))
 have HK1:=hid k1
 have HBQ:=hid (And.intro hB hz1)
 clear g1 g2 g3 f4 k1 hn2 hB hz1
 go_wp2_with fail
 refine HCL.out.mono ?_
 rintro e w2 ⟨x',c',rfl,hr2,hx2,hk2⟩
 have hX2:=hk2.at HG.out.2.2.2 (by simp)
 have hB2:=hk2.at HG.out.2.2.1 (by simp)
 have x2:=hX2.cell 0 rfl
 have x2f:=hX2.free 0
 have b2:=hB2.cell 2 rfl
 have b2f:=hB2.free 2
 have HE2:=hid (And.intro hr2 (And.intro hx2 hk2))
 have HA2:=hid (And.intro hX2 hB2)
 clear x0 xf hr2 hx2 hk2 hX2 hB2
 go_wp2_with fail
 go_ret
 have hX3:=(HA2.out.1.set 0 (.slice x' n c')).set_ne (a:=⟨B+2,2,none⟩) (by simp) (.slice none 0 0)
 have hB3:=(HA2.out.2.set_ne (a:=⟨B+3,0,none⟩) (by simp) (.slice x' n c')).set 2 (.slice none 0 0)
 have k3:=(((xe.refl [B+3,B+2] w2).set (p:=⟨B+3,0,none⟩) (.inl (by simp)) (.slice x' n c'))).set (p:=⟨B+2,2,none⟩) (.inl (by simp)) (.slice none 0 0)
 obtain⟨w3,hw3⟩:∃w3,w3=(w2.setCell ⟨B+3,0,none⟩ (.slice x' n c')).setCell ⟨B+2,2,none⟩ (.slice none 0 0):=⟨_,rfl⟩
 rw[<-hw3]at hX3 hB3 k3⊢
 obtain⟨hB,hz1⟩:=HBQ.out
 have K2:=HK1.out.trans HE2.out.2.2
 have K3:xe [] w w3:=K2.new k3 (fun b hb=>.inr (by simp at hb;omega))
 have hz2:=HE2.out.2.2.size
 have hd3:=k3.at (HE2.out.2.2.at HG.out.1 (by simp)) (by simp)
 have hc3:=k3.at (HE2.out.2.2.at HG.out.2.1 (by simp)) (by simp)
 have hr3:=HE2.out.1.keep k3 (fun b off hb=>by have h1:=(HE2.out.2.1 b (by rw[hb];simp[blkL])).1;simp;omega)
 have hz3:=k3.size
 refine⟨202,_,FrF a c k u B (B+1) (B+2) (B+3) S x' n c' f,rfl,enters_of Tryz.func202 (by kernel_rfl) rfl,HIT.out B (B+1) (B+2) (B+3) x' c',fun T W hk hT=>?_,K3⟩
 have hD:=HDL.out
 have off:∀b,b<w3.heap.size->w.heap.size≤b->b∉T:=fun b h1 h2 h3=>by
  rcases hT b h3 with h4|h4
  ·omega
  ·omega
 have offD:∀b,b=a.d\/b=a.s\/b=a.k\/b=a.m->b∉T:=fun b h1 h3=>by
  rcases hT b h3 with h4|h4
  ·omega
  ·have:=K3.size
   omega
 refine⟨⟨hk.at hd3 (off B (by omega) (by omega)),hk.at hc3 (off (B+1) (by omega) (by omega)),hk.at hB3 (off (B+2) (by omega) (by omega)),p,(HD.out.keep K3 (by simp) (by simp) (by simp) (by simp)).keep hk (offD _ (by simp)) (offD _ (by simp)) (offD _ (by simp)) (offD _ (by simp))⟩,hk.at hX3 (off (B+3) (by omega) (by omega)),hr3.keep hk (fun b o hb=>?_)⟩
 have h1:=HE2.out.2.1 b (by rw[hb];simp[blkL])
 exact off b (by omega) (by omega)
open Go.RowKit Go.OpenShut
theorem WG (w:World) (p:Nat) (a:DA) (S:DS) (c:Cfg) (hD:Dev w p a S) (hc:c.Ok) (hcn:c.words=a.n) (k:Nat) (hk:k≤1) (u:Nat) (hu:u≤c.space) (rs:Value)
  (hx:∀j:Nat,c.frm k≤j->j<c.frm k+u->∃x:Nat,S.now j=(x:Int)/\x<18446744073709551616)
  (x:Option Addr) (n cp:Nat) (f:Nat->Int) (hr:Reads w x n f) (hn:n≤1000) (hf:∀i,i<n->∃v:Nat,f i=(v:Int)/\v<18446744073709551616):
  Calls Tryz.prog 80 #[ptr a.d,cfgV c,bkV k u rs,.slice x n cp] w fun e w'=>e=.returned (.int .i64 (szF S (rcF S c k u (wsN n f)):Nat))/\xe [] w w':=by
 have hmix:Tryz.prog.follows .mixedOrders=true:=by kernel_rfl
 have hsp:=hc.small.2.2
 have hfr:=xW hc.small (show k≤2 by omega)
 have HFR:=hid (fun(w':World) (hk':xe [] w w')=>Vn w' p a S c (hD.keep hk' (by simp) (by simp) (by simp) (by simp)) hc hcn k hk u hu rs hx x n cp f (hr.keep hk' (by simp)) hn hf)
 have HDL:Hid (a.d<w.heap.size/\a.s<w.heap.size/\a.k<w.heap.size/\a.m<w.heap.size):=⟨hD.dev.lt,hD.now.lt,hD.kept.lt,hD.map.lt⟩
 obtain⟨LS,hLS⟩:∃LS,LS=rcF S c k u (wsN n f):=⟨_,rfl⟩
 have HLS:=hid hLS
 have hlen:LS.length≤4096:=by
  have:=jb (S:=S) (c:=c) (k:=k) (u:=u) (ws:=wsN n f)
  rw[<-hLS]at this
  omega
 have HLN:=hid hlen
 clear hD hc hcn hx hr hf hsp hfr hLS hlen
 refine xZ Tryz.func80 rfl (.of_wp ?_)
 simp only[Tryz.ntmps80,List.size_toArray,List.length_cons,List.length_nil,Nat.reduceAdd,Nat.reduceSub,Array.replicate_succ,Array.replicate_zero,List.push_toArray,List.append_toArray,List.nil_append,List.cons_append]
 go_upto_region 2 with fail
 have hC0:=((At.new w (cfgO c)).alloc (bkO k u rs)).alloc (.cells #[.int .i64 0] 3)
 have hB0:=(At.new (w.alloc (cfgO c)) (bkO k u rs)).alloc (.cells #[.int .i64 0] 3)
 have hZ0:=At.new ((w.alloc (cfgO c)).alloc (bkO k u rs)) (.cells #[.int .i64 0] 3)
 have K0:=(((xe.refl [] w).alloc (cfgO c)).alloc (bkO k u rs)).alloc (.cells #[.int .i64 0] 3)
 simp only[World.size_alloc]at hB0 hZ0
 obtain⟨w0,hw0⟩:∃w0,w0=((w.alloc (cfgO c)).alloc (bkO k u rs)).alloc (.cells #[.int .i64 0] 3):=⟨_,rfl⟩
 have hz0:w0.heap.size=w.heap.size+3:=by rw[hw0];simp
 rw[<-hw0]at hC0 hB0 hZ0 K0
 first|rw[<-hw0]|skip
 obtain⟨q0,hq0⟩:∃q,q=w.heap.size:=⟨_,rfl⟩
 obtain⟨q1,hq1⟩:∃q,q=w.heap.size+1:=⟨_,rfl⟩
 obtain⟨zb,hzb⟩:∃q,q=w.heap.size+1+1:=⟨_,rfl⟩
 rw[<-hzb,<-hq1,<-hq0]
 rw[<-hq0]at hC0
 rw[<-hq1]at hB0
 rw[<-hzb]at hZ0
 have HQ:Hid (q0=w.heap.size/\q1=q0+1/\zb=q0+2/\w0.heap.size=q0+3):=⟨hq0,by omega,by omega,by omega⟩
 have c0:=hC0.cell 0 rfl
 have c1:=hC0.cell 1 rfl
 have c2:=hC0.cell 2 rfl
 have b0:=hB0.cell 0 rfl
 have b1:=hB0.cell 1 rfl
 have b2:=hB0.cell 2 rfl
 have HZ0:=hid hZ0
 have HK0:=hid K0
 clear hw0 hz0 hq0 hq1 hzb hC0 hB0 hZ0 K0
 go_wp2_with fail
 refine(HFR.out w0 HK0.out).mono ?_
 rintro e w1 ⟨gf,lb,Fct,rfl,hent,hit,hfct,k01⟩
 rw[<-HLS.out]at hit
 have HENT:=hid hent
 have HIT:=hid hit
 have HFC:=hid hfct
 have HZ1:=hid (k01.at HZ0.out (by simp))
 have HK1:=hid (HK0.out.trans k01)
 have HS1:Hid (zb<w0.heap.size/\w0.heap.size≤w1.heap.size):=⟨by have:=HQ.out;omega,k01.size⟩
 clear hent hit hfct k01 c0 c1 c2 b0 b1 b2
 go_wp2_with fail
 refine vZ (gf:=gf) (lb:=lb) rfl HENT.out (fun fn=>?_)
 refine' (qM HIT.out fn w1 _ _ _ _
  (fun i W=>i≤LS.length/\At W zb (.cells #[.int .i64 (szF S (LS.take i):Nat)] 3)/\xe [zb] w1 W)
  (fun W=>False)
  .ret .ret (.inl ⟨rfl,rfl⟩) (fun _=>rfl) ?fct ?keep ?keepx ?round ?start).mono ?after
 case fct=>
  rintro i W ⟨_,_,hk⟩
  refine HFC.out [zb] W hk fun b hb=>.inl ?_
  obtain rfl:=List.mem_singleton.1 hb
  have h1:=HQ.out
  have h2:=HDL.out
  exact⟨HS1.out.1,by omega,by omega,by omega,by omega⟩
 case keep=>
  rintro i W W' T ⟨h1,h2,hk⟩ hk' hT
  have h3:=HS1.out
  exact⟨h1,hk'.at h2 (fun h=>by have:=hT _ h;omega),hk.new hk' (fun b hb=>.inr (hT b hb))⟩
 case keepx=>
  rintro W W' T h _ _
  exact h
 case start=>exact⟨Nat.zero_le _,HZ1.out,xe.refl _ _⟩
 case round=>
  rintro i W him ⟨hil,hZ,hK⟩ hsz
  have hlt:i<LS.length:=him
  obtain⟨X,hX⟩:∃X,X=LS.getD i 0:=⟨_,rfl⟩
  have hXg:LS[i]? =some X:=by
   rw[hX,List.getD_eq_getElem?_getD,List.getElem?_eq_getElem hlt]
   rfl
  have hXo:(obW S c k u X).isSome=true:=zJ (ws:=wsN n f) (by rw[<-HLS.out];exact List.mem_of_getElem? hXg)
  obtain⟨⟨n',r'⟩,hnr⟩:=Option.isSome_iff_exists.1 hXo
  obtain⟨x1,x2,x3,x4,x5',x6⟩:=zt hnr
  obtain⟨nn,hnn⟩:∃nn,nn=hdN (S.now X).toNat:=⟨_,rfl⟩
  obtain⟨rr,hrr⟩:∃rr,rr=hdR (S.now X).toNat:=⟨_,rfl⟩
  have hni:(nn:Int)≤64:=by omega
  rw[show rcA S LS i=#[obV (nn:Nat) (rr:Nat) (X:Nat)] by unfold rcA;rw[<-hX,<-hnn,<-hrr]]
  obtain⟨zs,hzs⟩:∃zs,zs=szF S (LS.take i):=⟨_,rfl⟩
  rw[<-hzs]at hZ
  have HZS:Hid (szF S (LS.take (i+1))=zs+(nn+1)):=by
   show _=_
   rw[List.take_add_one,hXg,zY,<-hzs]
   show _+szF S [X]=_
   rw[xC,<-hnn]
   rfl
  have hzi:(zs:Int)≤1000000:=by
   have h1:=QJ S (LS.take i) (fun x hx=>by
    have h2:=zJ (ws:=wsN n f) (by rw[<-HLS.out];exact List.mem_of_mem_take hx)
    obtain⟨⟨n2,r2⟩,h3⟩:=Option.isSome_iff_exists.1 h2
    obtain⟨_,_,h4,_,h5,_⟩:=zt h3
    rw[<-h4]
    exact h5)
   have h2:(LS.take i).length≤LS.length:=by rw[List.length_take];exact Nat.min_le_right _ _
   have:=HLN.out
   omega
  have HLT:=hid hlt
  have HKW:=hid hK
  have HZW:=hid hZ
  have HSZ2:=hid (fun w=>wH w nn rr (by omega))
  clear hlt hX hXg hXo hnr x1 x2 x3 x4 x5' x6 hnn hrr hzs hK hZ him hil
  have hsem:=@Oper.semAt_some
  gi_wp2_with fail
  refine⟨(xe.refl [] W).alloc _,fun W₂ k2 hz2 _=>?_⟩
  have hW0:w1.heap.size+2≤W.heap.size:=hsz
  have hs1:=HS1.out
  have hO2:=k2.at (At.new W (obO (nn:Nat) (rr:Nat) (X:Nat))) (by simp;omega)
  have kW2:xe [w1.heap.size+1] W W₂:=((xe.refl _ W).alloc _).trans k2
  have hZ2:=kW2.at HZW.out (by simp;omega)
  have hKN:Hid (xe [zb] w1 W₂):=HKW.out.new kW2 (by simp)
  have HWZ:=hid hW0
  have o0:=hO2.cell 0 rfl
  have o1:=hO2.cell 1 rfl
  have z0:=hZ2.cell 0 rfl
  have HZ2:=hid hZ2
  have HZ3D:=hid hZ2.drew
  have e1:IntKind.i64.wrap ((zs:Int)+((nn:Int)+1))=(zs:Int)+((nn:Int)+1):=IntWalk.i64_in _ (by omega)
  clear hW0 hs1 hO2 kW2 hZ2 k2 hz2 hsz
  gi_wp2_with fail
  gi_region_with_o (first
   |(refine⟨trivial,?_⟩;gi_at_call 151;refine(callsIn_wide.2 (HSZ2.out _)).mono ?_;rintro e W4 ⟨rfl,hk4⟩;have hA4:=hk4.at HZ3D.out (by simp);have a4:=hA4.cell 0 rfl;have af4:=hA4.free 0))
  all_goals
   have hZ4:=hA4.set 0 (.int .i64 ((zs:Int)+((nn:Int)+1)))
   have kE:xe [zb] W₂ (W4.setCell ⟨zb,0,none⟩ (.int .i64 ((zs:Int)+((nn:Int)+1)))):=(((xe.refl [zb] W₂).drew).trans (hk4.mono (by simp))).set (p:=⟨zb,0,none⟩) (.inl (by simp)) _
   have HE:=hid (And.intro hZ4 kE)
   clear hZ4 kE hA4 a4 af4 hk4 o0 o1 z0
   gi_wp2_with fail
   have hs1:=HS1.out
   have hw0:=HWZ.out
   refine⟨⟨HLT.out,by rw[HZS.out];simpa using HE.out.1,hKN.out.trans HE.out.2⟩,[zb],HE.out.2,fun b hb=>.inl ?_⟩
   obtain rfl:=List.mem_singleton.1 hb
   omega
 case after=>
  intro e w9 hr
  cases e with
  |panicked _=>exact hr
  |outgrown=>exact hr
  |returned v=>
   rcases hr with⟨w10,hend,⟨_,hZ,hK⟩,hDf⟩|⟨w10,hend,h,hDf⟩
   case inr=>exact h.elim
   refine .inl ⟨w10,hend,?_⟩
   rw[List.take_of_length_le (Nat.le_refl _)]at hZ
   obtain⟨sz,hsz⟩:∃sz,sz=szF S LS:=⟨_,rfl⟩
   rw[<-hsz]at hZ
   have HSZ:=hid hsz
   have z0:=hZ.cell 0 rfl
   have K10:xe [] w w10:=HK1.out.new hK (fun b hb=>.inr (by have:=HQ.out;obtain rfl:=List.mem_singleton.1 hb;omega))
   have HK10:=hid K10
   have HDF:=hid hDf
   clear hsz hZ hK K10 hDf hend
   simp only[Exit.inBlock,Exit.then]
   go_wp2_with fail
   refine⟨by simp,.inl ⟨_,_,rfl,run_takeDeferred HDF.out,?_⟩⟩
   have kd:xe [w1.heap.size] w10 (w10.putObj w1.heap.size (.deferred none)):=(xe.refl _ _).put (.inl (by simp)) _
   refine⟨.int .i64 (sz:Nat),?_,by rw[<-HLS.out,HSZ.out],HK10.out.new kd (fun b hb=>.inr (by obtain rfl:=List.mem_singleton.1 hb;exact HK1.out.size))⟩
   simp[results,Tryz.results80,go_sem]
open Go.RowKit Go.OpenShut
theorem VQ (w:World) (d:Nat) (f:Fn) (l1 l2:Array Value):(Op.equalIn (d+1) 203 (.func f l1 l2) .nilFunc).run Tryz.prog w=.ok false w:=by
 simp[Op.equalIn,run_underlying Tryz.underlying203]
theorem qx (w:World) (f:Fn) (l1 l2:Array Value):(binOp .eql 203 (.func f l1 l2) .nilFunc).run Tryz.prog w=.ok (.bool false) w:=by
 have h:(Op.equal 203 (.func f l1 l2) .nilFunc).run Tryz.prog w=.ok false w:=VQ w 9999 f l1 l2
 simp[binOp,h]
theorem xb5 (S:DS) (c:Cfg) (k u:Nat):rcF S c k u []= []:=(zO (S:=S) (c:=c) (k:=k) (u:=u) (ws:=[]) (i:=0) (Nat.le_refl _)).symm
theorem xaf {S:DS} {c:Cfg} {k u z n:Nat} (h:obW S c k u z=some (n,0)):rcF S c k u [z]= [z]/\szF S (rcF S c k u [z])=n+1:=by
 obtain⟨_,_,h3,h4,_,_⟩:=zt h
 have h0:rcW S c k u [z] 0= [z]:=by
  show seeW S c k u [] z=_
  rw[wh (by rw[h];rfl) (by simp)]
  rfl
 have h1:rcW S c k u [z] 1= [z]:=by
  rw[yg (by rw[h0];rfl:(rcW S c k u [z] 0)[0]? =some z),h0]
  unfold nmW
  rw[<-h4]
  rfl
 have h2:rcF S c k u [z]= [z]:=by
  rw[<-zO (i:=1) (by rw[h1];exact Nat.le_refl _),h1]
 refine⟨h2,?_⟩
 rw[h2,xC,<-h3]
 rfl
theorem jN (w:World):Calls Tryz.prog 217 #[] w fun e w'=>e=.returned (.bool true)/\Below w.heap.size w w':=by
 go_enter Tryz.func217,Tryz.ntmps217
 go_wp2_with fail
 refine(jO _).mono ?_
 rintro e w1 ⟨rfl,hb1⟩
 have K1:xe [] w w1:=Go.Proofs.YtcdhklgahepcaaaGreat.Below.keeps hb1 []
 clear hb1
 have hos:[(1,0),(2,0)]=zW (mk3 0 0 40).space (hdsL (fun _=>0) (fun i=>i+1) 2):=by decide
 have hok:=XW 0 0 40
 obtain⟨c,hc⟩:∃c,c=mk3 0 0 40:=⟨_,rfl⟩
 rw[<-hc]at hos hok
 have HO:=hid hok
 have HC:=hid hc
 have HOS:=hid hos
 clear hok hc hos
 go_wp2_with fail
 have hH2:=At.new w1 (.cells #[.int .u8 0,.int .u8 1,.int .u8 0,.int .u8 2] 226)
 have hy:vt (w1.alloc (.cells #[.int .u8 0,.int .u8 1,.int .u8 0,.int .u8 2] 226)) (some ⟨w1.heap.size,0,none⟩) 2 (fun _=>0) (fun i=>i+1):=
  .inr ⟨w1.heap.size,0,rfl,hH2.lt,fun i hi=>by
   have h2:i=0\/i=1:=by omega
   rcases h2 with rfl|rfl
   ·exact⟨hH2.cell 0 rfl,hH2.cell 1 rfl,by decide,by decide⟩
   ·exact⟨hH2.cell 2 rfl,hH2.cell 3 rfl,by decide,by decide⟩⟩
 have K2:=K1.alloc (.cells #[.int .u8 0,.int .u8 1,.int .u8 0,.int .u8 2] 226)
 refine(Xo _ 0 0 40 (by omega) (by omega) (by omega) _ 2 2 (fun _=>0) (fun i=>i+1) hy (by omega) none 0 0 (fun _=>0) (.inl rfl) (by omega) 0 (by omega) c HC.out [(1,0),(2,0)] HOS.out).mono ?_
 rintro e w3 ⟨p,a,u,S,x,cp,y,cy,B,rfl,hn,hP,hub,hL,hU,hI,hb,hB,hk3⟩
 have K3:=K2.trans hk3
 have hl1:([(1,0),(2,0)]:List (Nat×Nat)).length=2:=rfl
 have hob1:=hL.ob (i:=1) (by decide)
 have hsp:=HO.out.small.2.2
 have hfr:=xW HO.out.small (show 0≤2 by omega)
 have hwd:=hL.wd hsp (xaB c _ (fun _=>0) 0 0 (by have:lenL [(1,0),(2,0)]=5:=rfl;omega))
 rw[hl1]at hI⊢
 obtain⟨g,rfl,hgB,hgl,hgc⟩:=hI.cell (by omega)
 obtain⟨zz,hzz⟩:∃zz,zz=c.frm 0+posL [(1,0),(2,0)] 1:=⟨_,rfl⟩
 have hg1:w3.cell? ⟨g,1,none⟩=some (.int .i64 (zz:Nat)):=by rw[hzz];exact hgc 1 (by omega)
 rw[<-hzz]at hob1
 have hUl:(lenL [(1,0),(2,0)]:Nat)=5:=rfl
 rw[hUl]at hob1⊢
 have HOB:=hid (show obW S c 0 5 zz=some (2,0)from hob1)
 have HX:Hid (∀j:Nat,c.frm 0≤j->j<c.frm 0+5->∃x:Nat,S.now j=(x:Int)/\x<18446744073709551616):=fun j h1 h2=>hwd.sp j h1 (by have h3:=xu (c:=c) 0 (by omega);have h4:=hL.fits;omega)
 have hzi:(zz:Int)≤100000:=by rw[hzz];have:posL [(1,0),(2,0)] 1=2:=rfl;omega
 have HFI:Hid (5≤c.space):=by have:=hL.fits;rw[hUl]at this;exact this
 have HP:=hid hP
 have HN:=hid hn
 have HK3:=hid K3
 clear hy hH2 K1 K2 hk3 hb hB hI hgc hL hU hP hn hub hzz hsp hfr hwd hob1 K3
 go_wp2_with fail
 obtain⟨cb,hcb⟩:∃cb,cb=w3.heap.size:=⟨_,rfl⟩
 obtain⟨w4,hw4⟩:∃w4,w4=(w3.alloc (cfgO c)).alloc (bkO 0 5 (.slice x c.roots cp)):=⟨_,rfl⟩
 have hC4:At w4 cb (cfgO c):=by rw[hw4,hcb];exact(At.new w3 _).alloc _
 have hB4:At w4 (cb+1) (bkO 0 5 (.slice x c.roots cp)):=by
  have:=At.new (w3.alloc (cfgO c)) (bkO 0 5 (.slice x c.roots cp))
  rw[World.size_alloc]at this
  rw[hw4,hcb];exact this
 have k34:xe [] w3 w4:=by rw[hw4];exact((xe.refl [] w3).alloc _).alloc _
 rw[<-hw4,<-hcb]
 clear hw4 hcb
 refine(Vn w4 p a S c (HP.out.dev.keep k34 (by simp) (by simp) (by simp) (by simp)) HO.out HN.out 0 (by omega) 5 HFI.out (.slice x c.roots cp) HX.out none 0 0 (fun _=>0) (.inl rfl) (by omega) (fun i hi=>by omega)).mono ?_
 rintro e w5 ⟨gf,lb,Fct,rfl,_,_,_,k45⟩
 have hfn:=fun w=>qx w (.func gf) #[] lb
 have k35:=k34.trans k45
 have hC5:=k45.at hC4 (by simp)
 have hB5:=k45.at hB4 (by simp)
 have hD5:=HP.out.dev.keep k35 (by simp) (by simp) (by simp) (by simp)
 have HSZ:Hid (∀W,xe [] w5 W->∀(y:Option Addr) (n cq:Nat),(n=0\/n=1/\∃b,y=some ⟨b,0,none⟩/\b<W.heap.size/\W.cell? ⟨b,0,none⟩=some (.int .u64 (zz:Nat)))->
   Calls Tryz.prog 80 #[ptr a.d,cfgV c,bkV 0 5 (.slice x c.roots cp),.slice y n cq] W fun e w'=>e=.returned (.int .i64 (if n=0 then 0 else 3))/\xe [] W w'):=by
  intro W hk y n cq hq
  have hDW:=hD5.keep hk (by simp) (by simp) (by simp) (by simp)
  have hr:Reads W y n (fun _=>(zz:Int)):=by
   rcases hq with h|⟨rfl,b,rfl,hb,hcl⟩
   ·exact .inl h
   ·exact .inr ⟨b,0,rfl,hb,fun i hi=>by obtain rfl:i=0:=by omega
                                        exact hcl⟩
  refine(WG W p a S c hDW HO.out HN.out 0 (by omega) 5 HFI.out (.slice x c.roots cp) HX.out y n cq (fun _=>(zz:Int)) hr (by omega) (fun i hi=>⟨zz,rfl,by omega⟩)).mono ?_
  rintro e w' ⟨rfl,hk'⟩
  refine⟨?_,hk'⟩
  rcases hq with rfl|⟨rfl,_⟩
  ·rw[show wsN 0 (fun _=>(zz:Int))= []from rfl,xb5]
   rfl
  ·rw[show wsN 1 (fun _=>(zz:Int))= [zz] by simp[wsN],(xaf HOB.out).2]
   rfl
 have g5:w5.cell? ⟨g,1,none⟩=some (.int .i64 (zz:Nat)):=(k35.cell hgl (by simp)).trans hg1
 have hcz:zz<18446744073709551616:=by omega
 have e1:IntKind.u64.wrap (zz:Int)=(zz:Int):=IntWalk.u64_in _ (by omega)
 have HCZ:=hid (fun(w':World) (kk:xe [] w5 w')=>show w'.cell? ⟨cb,0,none⟩=some (.int .i64 c.log)/\w'.cell? ⟨cb,1,none⟩=some (.int .i64 c.roots)/\w'.cell? ⟨cb,2,none⟩=some (.int .i64 c.space)/\w'.cell? ⟨cb+1,0,none⟩=some (.int .i64 0)/\w'.cell? ⟨cb+1,1,none⟩=some (.int .i64 5)/\w'.cell? ⟨cb+1,2,none⟩=some (.slice x c.roots cp)/\w'.cell? ⟨g,1,none⟩=some (.int .i64 (zz:Nat))from
  ⟨(kk.at hC5 (by simp)).cell 0 rfl,(kk.at hC5 (by simp)).cell 1 rfl,(kk.at hC5 (by simp)).cell 2 rfl,(kk.at hB5 (by simp)).cell 0 rfl,(kk.at hB5 (by simp)).cell 1 rfl,(kk.at hB5 (by simp)).cell 2 rfl,(kk.cell (Nat.lt_of_lt_of_le hgl k35.size) (by simp)).trans g5⟩)
 have c0:=hC4.cell 0 rfl
 have HK5:=hid (HK3.out.trans k35)
 have c0:=hC5.cell 0 rfl
 clear hC4 hB4 k34 k45 hC5 hB5 k35 hD5 hgl hg1 hcz
 go_upto_region 6 with fail
 have kk:xe [] w5 w5.drew:=(xe.refl [] w5).drew
 go_region_held3 (fun w'=>w'.cell? ⟨cb,0,none⟩=some (.int .i64 c.log)∧w'.cell? ⟨cb,1,none⟩=some (.int .i64 c.roots)∧w'.cell? ⟨cb,2,none⟩=some (.int .i64 c.space)∧w'.cell? ⟨cb+1,0,none⟩=some (.int .i64 0)∧w'.cell? ⟨cb+1,1,none⟩=some (.int .i64 5)∧w'.cell? ⟨cb+1,2,none⟩=some (.slice x c.roots cp)∧w'.cell? ⟨g,1,none⟩=some (.int .i64 (zz:Nat)))
  (first|exact HCZ.out _ kk|exact HCZ.out _ (kk.alloc _))
  (first
    |(go_at_call 80;refine(HSZ.out _ (by first|exact kk|exact kk.alloc _) _ _ _ (by first|exact .inl rfl|exact .inr ⟨rfl,_,rfl,(At.new _ _).lt,(At.new _ _).cell 0 rfl⟩)).mono ?_;rintro e w' ⟨rfl,hk9⟩;have kk:=(by first|exact kk.trans hk9|exact(kk.alloc _).trans hk9:xe [] w5 w');clear hk9))
 all_goals
  rename_i hHd
  clear hHd
  go_wp2_with fail
  go_ret
  exact⟨rfl,(HK5.out.trans kk).below (Nat.le_refl _) (by simp)⟩
end Go.Proofs.YtcdhklgahepcaaaGreat
