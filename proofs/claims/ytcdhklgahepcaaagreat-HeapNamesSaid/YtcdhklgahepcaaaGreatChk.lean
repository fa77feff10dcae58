import Derived.Test.YtcdhklgahepcaaaGreatNam
import Derived.Test.YtcdhklgahepcaaaGreatLkd
import Derived.WalkMore
import Derived.Laws.EntriesVeiled
set_option maxHeartbeats 4000000
set_option maxRecDepth 100000
namespace Go.Proofs.YtcdhklgahepcaaaGreat
open Go.RowKit Go.OpenShut
def okW (c:Cfg) (k:Nat) (l:List (Nat×Nat)) (v:Int):Bool:=(v==0)||(List.range l.length).any fun i=>v==((c.frm k+posL l i:Nat):Int)
def okR (S:DS) (c:Cfg) (k:Nat) (l:List (Nat×Nat)):Bool:=(List.range c.roots).all fun j=>okW c k l (S.now (c.root j))
def okN (S:DS) (c:Cfg) (k:Nat) (l:List (Nat×Nat)):Bool:=(List.range l.length).all fun i=>(List.range (rL l i)).all fun j=>okW c k l (S.now (c.frm k+posL l i+1+j))
def ckC (S:DS) (c:Cfg) (k:Nat) (l:List (Nat×Nat)) (er:Bool):Int:=if er then 8 else if okR S c k l&&okN S c k l then 0 else 9
theorem xV {c:Cfg} {k:Nat} {l:List (Nat×Nat)} {v:Int} :okW c k l v=true↔v=0\/∃i,i<l.length/\v=((c.frm k+posL l i:Nat):Int):=by
 simp[okW]
theorem wW {S:DS} {c:Cfg} {k:Nat} {l:List (Nat×Nat)} :okR S c k l=true↔∀j,j<c.roots->okW c k l (S.now (c.root j))=true:=by
 simp[okR]
theorem zQ {S:DS} {c:Cfg} {k:Nat} {l:List (Nat×Nat)} :okN S c k l=true↔∀i,i<l.length->∀j,j<rL l i->okW c k l (S.now (c.frm k+posL l i+1+j))=true:=by
 simp[okN]
def WdU (S:DS) (c:Cfg) (k:Nat):Prop:=
 (∀i,i<c.roots->∃v:Nat,S.now (c.root i)=(v:Int)/\v<18446744073709551616)/\∀j,c.frm k≤j->j<c.frm k+c.space->∃v:Nat,S.now j=(v:Int)/\v<18446744073709551616
def WdV (S:DS) (c:Cfg) (k u:Nat):Prop:=
 (∀i,i<c.roots->∃v:Nat,S.now (c.root i)=(v:Int)/\v<18446744073709551616)/\∀j,c.frm k≤j->j<c.frm k+u->∃v:Nat,S.now j=(v:Int)/\v<18446744073709551616
theorem WdU.v {S:DS} {c:Cfg} {k u:Nat} (h:WdU S c k) (hu:u≤c.space):WdV S c k u:=⟨h.1,fun j a b=>h.2 j a (by omega)⟩
theorem xbR {w:World} {mb:Nat} {c:Cfg} {k:Nat} {l:List (Nat×Nat)} (h:IMap w mb (stD c k l l.length)) (hb:∀i,i<l.length->c.frm k+posL l i≤100000) (v:Nat) (hv:v<18446744073709551616) (z:Int) (hz:z=IntKind.i64.wrap (v:Int)):
  ∃(n r q:Int) (b:Bool),(Instr.lookup 183 (.map (some mb)) (.int .i64 z) true).run Tryz.prog w=.ok (.tuple #[obV n r q,.bool b]) w/\okW c k l v=(decide (v=0)||b):=by
 have hz2:(v<9223372036854775808/\z=(v:Int))\/(9223372036854775808≤v/\z<0):=by
  rw[hz]
  rw[IntKind.wrap_i64]
  omega
 by_cases hm:∃i,i<l.length/\v=c.frm k+posL l i
 ·obtain⟨i,hi,he⟩:=hm
  have:=hb i hi
  refine⟨_,_,_,true,Zm h hi z (by omega) true,?_⟩
  rw[Bool.or_true]
  exact xV.2 (.inr ⟨i,hi,by omega⟩)
 ·refine⟨_,_,_,false,qi h z (fun i hi he=>hm ⟨i,hi,by have:=hb i hi;omega⟩) true,?_⟩
  rw[Bool.or_false]
  by_cases h0:v=0
  ·subst h0
   rw[decide_eq_true rfl]
   exact xV.2 (.inl rfl)
  ·rw[decide_eq_false h0,Bool.eq_false_iff]
   intro hw
   rcases xV.1 hw with hw|⟨i,hi,he⟩
   ·omega
   ·exact hm ⟨i,hi,by omega⟩
theorem Vy (w:World) (sb mb:Nat) (c:Cfg) (k:Nat) (l:List (Nat×Nat)) (hs:At w sb (.cells #[.map (some mb)] 183)) (hI:IMap w mb (stD c k l l.length)) (hb:∀i,i<l.length->c.frm k+posL l i≤100000) (v:Nat) (hv:v<18446744073709551616):
  Calls Tryz.prog 138 #[.int .u64 v,ptr sb] w fun e w'=>e=.returned (.bool (!okW c k l v))/\xe [] w w':=by
 obtain⟨z,hz⟩:∃z,IntKind.i64.wrap (v:Int)=z:=⟨_,rfl⟩
 obtain⟨n,r,q,b,hl,ho⟩:=xbR hI hb v hv z hz.symm
 have HO:=hid ho
 have s0:=hs.cell 0 rfl
 have hvi:(v:Int)<18446744073709551616:=by omega
 clear ho hs hI hb
 go_enter Tryz.func138,Tryz.ntmps138
 by_cases h0:v=0
 ·have t1:((v:Int) != 0)=false:=by subst h0;rfl
  have HV:Hid (okW c k l v=true):=by show _=_;rw[HO.out,decide_eq_true h0];rfl
  clear h0
  go_wp2_with fail
  go_ret
  exact⟨by rw[HV.out];rfl,(xe.refl _ _).alloc _⟩
 ·have t1:((v:Int) != 0)=true:=by rw[bne_iff_ne];omega
  have HV:Hid (okW c k l v=b):=by show _=_;rw[HO.out,decide_eq_false h0];rfl
  clear h0
  go_wp2_with fail
  go_ret
  exact⟨by rw[HV.out];rfl,(xe.refl _ _).alloc _⟩
theorem xaE (w:World) (sb mb:Nat) (c:Cfg) (k:Nat) (l:List (Nat×Nat)) (hs:At w sb (.cells #[.map (some mb)] 183)) (hI:IMap w mb (stD c k l l.length)) (hb:∀i,i<l.length->c.frm k+posL l i≤100000)
  (x:Option Addr) (n cp B:Nat) (f:Nat->Int) (h:OwnU w B x cp n f) (hn:n≤1000) (hf:∀i,i<n->∃v:Nat,f i=(v:Int)/\v<18446744073709551616):
  Calls Tryz.prog 193 #[.slice x n cp,.func (.func 138) #[] #[ptr sb]] w fun e w'=>((∃j:Nat,j<n/\okW c k l (f j)=false/\e=.returned (.int .i64 j))\/((∀j,j<n->okW c k l (f j)=true)/\e=.returned (.int .i64 (-1))))/\xe [] w w':=by
 have hni:(n:Int)≤1000:=by omega
 have HF:=hid h.form
 have HV:=hid hf
 have HA:=hid (fun(w':World) (hk:xe [] w w') (v:Nat) (hv:v<18446744073709551616)=>Vy w' sb mb c k l (hk.at hs (by simp)) (hI.keep hk (by simp)) hb v hv)
 clear h hf hs hI hb
 go_enter Tryz.func193,Tryz.ntmps193
 go_wp2_with fail
 go_loopg [8] n (fun r sl wr=>∃j:Nat,j+r=n∧sl=.int .i64 j∧xe [] w wr∧∀i,i<j→okW c k l (f i)=true)
 case atStart=>exact⟨0,by omega,rfl,xe.refl _ _,fun j hj=>by omega⟩
 case round=>
  obtain⟨j,hj,rfl,hK,hno⟩:=hrel
  have HNO:=hid hno
  have HK:=hid hK
  clear hno hK
  by_cases hlt:j<n
  ·obtain⟨g,cur,rfl,hg,hA,hcur⟩:∃g cur,x=some ⟨g,0,none⟩/\B≤g/\At w g (.cells cur 26)/\∀i,i<n->cur[i]? =some (.int .u64 (f i)):=by
    rcases HF.out with⟨_,h⟩|h
    ·omega
    ·exact h
   obtain⟨v,hv,hvb⟩:=HV.out j hlt
   have d0:wr.cell? ⟨g,j,none⟩=some (.int .u64 (v:Nat)):=by rw[<-hv];exact(HK.out.at hA (by simp)).cell j (hcur j hlt)
   have hji:(j:Int)≤1000:=by omega
   have HVJ:=hid (And.intro hv hlt)
   have HVB:=hid hvb
   clear hv hcur hA hvb
   go_wp2_with fail
   refine(HA.out wr HK.out v HVB.out).mono ?_
   rintro e w1 ⟨rfl,hk1⟩
   have HK1:=hid (HK.out.trans hk1)
   clear hk1 d0
   obtain⟨b,hb⟩:∃b,b=okW c k l v:=⟨_,rfl⟩
   rw[<-hb]
   have HB:=hid hb
   clear hb
   cases b
   ·go_wp2_with fail
    go_ret
    exact⟨.inl ⟨j,HVJ.out.2,by rw[HVJ.out.1];exact HB.out.symm,rfl⟩,HK1.out⟩
   ·go_wp2_with fail
    go_roundg (n-(j+1))
    case measure=>omega
    case rel=>exact⟨j+1,by omega,by go_num,HK1.out,fun i hi=>by
     by_cases hij:i=j
     ·subst hij;rw[HVJ.out.1];exact HB.out.symm
     ·exact HNO.out i (by omega)⟩
  ·have hkn:j=n:=by omega
   subst hkn
   go_wp2_with fail
   go_ret
   exact⟨.inr ⟨HNO.out,rfl⟩,HK.out⟩
theorem Vs (w:World) (sb mb:Nat) (c:Cfg) (k:Nat) (l:List (Nat×Nat)) (hs:At w sb (.cells #[.map (some mb)] 183)) (hI:IMap w mb (stD c k l l.length)) (hb:∀i,i<l.length->c.frm k+posL l i≤100000)
  (x:Option Addr) (n cp B:Nat) (f:Nat->Int) (h:OwnU w B x cp n f) (hn:n≤1000) (hf:∀i,i<n->∃v:Nat,f i=(v:Int)/\v<18446744073709551616):
  Calls Tryz.prog 139 #[.slice x n cp,.func (.func 138) #[] #[ptr sb]] w fun e w'=>e=.returned (.bool (!((List.range n).all fun j=>okW c k l (f j))))/\xe [] w w':=by
 have HI:=hid (xaE w sb mb c k l hs hI hb x n cp B f h hn hf)
 clear hs hI hb h hf
 go_enter Tryz.func139,Tryz.ntmps139
 go_wp2_with fail
 refine HI.out.mono ?_
 rintro e w1 ⟨⟨j,hj,hb,rfl⟩|⟨hall,rfl⟩,hk⟩
 ·have hE:Hid (((List.range n).all fun j=>okW c k l (f j))=false):=by
   show _=_
   rw[List.all_eq_false]
   exact⟨j,List.mem_range.2 hj,by rw[hb];simp⟩
  have hj0:(0:Int)≤(j:Int):=by omega
  clear hb
  go_wp2_with fail
  go_ret
  exact⟨by rw[hE.out];simp,hk⟩
 ·have hE:Hid (((List.range n).all fun j=>okW c k l (f j))=true):=by
   show _=_
   rw[List.all_eq_true]
   exact fun j hj=>hall j (List.mem_range.1 hj)
  clear hall
  go_wp2_with fail
  go_ret
  exact⟨by rw[hE.out];simp,hk⟩
theorem xaa (w:World) (p:Nat) (a:DA) (S:DS) (c:Cfg) (h:Dev w p a S) (hc:c.Ok) (hn:c.words=a.n) (h1:0≤S.now c.act) (h2:0≤S.now (c.act+1)):
  Calls Tryz.prog 136 #[ptr a.d,cfgV c] w (xe7 S c w):=by
 have hrn:c.roots≤a.n:=by
  have:=(places hc).2.1
  omega
 have hri:(c.roots:Int)≤(a.n:Int):=by omega
 have hr2:(c.roots:Int)≤16:=by have:=hc.2.1;omega
 have t1:¬a.n<c.roots:=by omega
 have t2:decide ((a.n:Int)<(c.roots:Int))=false:=decide_eq_false (by omega)
 have t3:decide ((c.roots:Int)≤(a.n:Int))=true:=decide_eq_true (by omega)
 have HO:=hid (And.intro hc (And.intro hn (And.intro h1 h2)))
 clear hc hn h1 h2
 go_enter Tryz.func136,Tryz.ntmps136
 go_upto_region 1 with fail
 have hC0:=(At.new w (cfgO c)).alloc (bkO 0 0 (.slice none 0 0))
 have hB0:=At.new (w.alloc (cfgO c)) (bkO 0 0 (.slice none 0 0))
 have K0:=((xe.refl [] w).alloc (cfgO c)).alloc (bkO 0 0 (.slice none 0 0))
 rw[show(w.alloc (cfgO c)).heap.size=w.heap.size+1 by simp]at hB0
 obtain⟨w0,hw0⟩:∃w0,w0=(w.alloc (cfgO c)).alloc (bkO 0 0 (.slice none 0 0)):=⟨_,rfl⟩
 have D0:=h.keep K0 (by simp) (by simp) (by simp) (by simp)
 have hz0:w0.heap.size=w.heap.size+2:=by rw[hw0];simp
 rw[<-hw0]at hB0 hC0 K0 D0⊢
 have h0:=h.fresh (Nat.le_refl _)
 clear hw0 h
 have HL:=hid (fun(w':World) (hk:xe [] w0 w')=>zh w' p a S (D0.keep hk (by simp) (by simp) (by simp) (by simp)))
 have c1:=hC0.cell 1 rfl
 have f1:=hC0.free 1
 have hX:Hid (∀wx,xe [] w0 wx->At (wx.setCell ⟨w.heap.size,1,none⟩ (.int .i64 (c.roots:Nat))) w.heap.size (cfgO c)/\xe [w.heap.size] w0 (wx.setCell ⟨w.heap.size,1,none⟩ (.int .i64 (c.roots:Nat)))):=fun wx hk=>
  ⟨by simpa using (hk.at hC0 (by simp)).set 1 (.int .i64 (c.roots:Nat)),(hk.mono (by simp)).set (.inl (by simp)) _⟩
 go_cut []from 6 to 11 (fun wx=>At wx w.heap.size (cfgO c)∧xe [w.heap.size] w0 wx)
 case first=>
  have kk:xe [] w0 w0.drew:=(xe.refl _ _).drew
  go_region_with (first
   |(go_at_call 69;refine(HL.out _ (by first|exact kk)).mono ?_;rintro e w' ⟨rfl,rfl⟩))
  all_goals
   rw[show min (c.roots:Int) (a.n:Int)=(c.roots:Nat)from Int.min_eq_left hri]
   go_wp2_with fail
   go_meet
   exact⟨(hX.out w0 (xe.refl _ _)).1.drew,(hX.out w0 (xe.refl _ _)).2.drew⟩
 case rest=>
  obtain⟨hC1,kx⟩:=hcut
  have hne:=h0
  obtain⟨n1,n2,n3,n4⟩:=hne
  have D1:=D0.keep kx (by simpa using n1) (by simpa using n2) (by simpa using n3) (by simpa using n4)
  have hB1:=kx.at hB0 (by simp)
  have K1:xe [] w wc:=K0.new kx (fun b hb=>.inr (by have:=List.mem_singleton.1 hb;omega))
  have c0:=hC1.cell 0 rfl
  have c1:=hC1.cell 1 rfl
  have c2:=hC1.cell 2 rfl
  have hbl:w.heap.size+1<wc.heap.size:=hB1.lt
  have HB1:=hid hB1
  have HK1:=hid K1
  have HD1:=hid D1
  have HBL:=hid hbl
  clear hC1 kx n1 n2 n3 n4 D1 D0 hB0 hB1 K1 K0 HL hX hbl hC0 f1 hz0 h0
  go_wp2_with fail
  refine(zI wc p a S c HD1.out HO.out.1 HO.out.2.1 HO.out.2.2.1 HO.out.2.2.2).mono ?_
  rintro e w2 (⟨hor,rfl,hk2⟩|⟨k,u,x,cp,hk1,hu1,e1,e2,rfl,hU,hk2⟩)
  ·have hB2:=hk2.at HB1.out (by simp)
   have HOR:=hid hor
   have HK2:=hid (HK1.out.trans hk2)
   have f0:=hB2.free 0
   have f1:=hB2.free 1
   have f2:=hB2.free 2
   have b0:=hB2.cell 0 rfl
   have b1:=hB2.cell 1 rfl
   have b2:=hB2.cell 2 rfl
   have HB2:=hid hB2
   clear hor hk2 c0 c1 c2 hB2
   go_wp2_with fail
   have hF:=((HB2.out.set 0 (.int .i64 0)).set 1 (.int .i64 0)).set 2 (.slice none 0 0)
   have x0:=hF.cell 0 rfl
   have x1:=hF.cell 1 rfl
   have x2:=hF.cell 2 rfl
   refine bodyPost_ret (v:=.tuple #[bkV 0 0 (.slice none 0 0),.int .i64 10]) (by simp[results,Tryz.results136,go_sem,x0,x1,x2]) rfl ?_
   exact .inl ⟨HOR.out,rfl,((HK2.out.set (.inr (by simp)) _).set (.inr (by simp)) _).set (.inr (by simp)) _⟩
  ·have hB2:=hk2.at HB1.out (by simp)
   have HOR:=hid (And.intro hk1 (And.intro hu1 (And.intro e1 e2)))
   have HK2:=hid (HK1.out.trans hk2)
   have HU:=hid hU
   have f0:=hB2.free 0
   have f1:=hB2.free 1
   have f2:=hB2.free 2
   have b0:=hB2.cell 0 rfl
   have b1:=hB2.cell 1 rfl
   have b2:=hB2.cell 2 rfl
   have HB2:=hid hB2
   clear hk1 hu1 e1 e2 hk2 c0 c1 c2 hB2 hU
   go_wp2_with fail
   have hF:=((HB2.out.set 0 (.int .i64 k)).set 1 (.int .i64 u)).set 2 (.slice x c.roots cp)
   have x0:=hF.cell 0 rfl
   have x1:=hF.cell 1 rfl
   have x2:=hF.cell 2 rfl
   refine bodyPost_ret (v:=.tuple #[bkV k u (.slice x c.roots cp),.int .i64 0]) (by simp[results,Tryz.results136,go_sem,x0,x1,x2]) rfl ?_
   have kf:xe [w.heap.size+1] w2 (((w2.setCell ⟨w.heap.size+1,0,none⟩ (.int .i64 k)).setCell ⟨w.heap.size+1,1,none⟩ (.int .i64 u)).setCell ⟨w.heap.size+1,2,none⟩ (.slice x c.roots cp)):=
    (((xe.refl _ w2).set (.inl (by simp)) _).set (.inl (by simp)) _).set (.inl (by simp)) _
   refine .inr ⟨k,u,x,cp,HOR.out.1,HOR.out.2.1,HOR.out.2.2.1,HOR.out.2.2.2,rfl,(HU.out.keep kf (fun b hb h=>?_)).low (Nat.le_of_lt (Nat.lt_of_le_of_lt (Nat.le_add_right _ 1) HBL.out)),HK2.out.new kf (fun b hb=>.inr (by have:=List.mem_singleton.1 hb;omega))⟩
   have h1:=(HU.out.ge b hb).1
   have h2:=List.mem_singleton.1 h
   have h3:=HBL.out
   omega
open Go.RowKit Go.OpenShut
theorem ZJ (v:Nat) (hv:v<18446744073709551616):IntKind.u64.wrap (asInt (v:Int))=(v:Int)/\(v=0↔asInt (v:Int)=0):=by
 rw[IntKind.wrap_u64]
 unfold asInt wrap64
 constructor
 ·omega
 ·omega
theorem Y4 (w:World) (p:Nat) (a:DA) (S:DS) (c:Cfg) (hD:Dev w p a S) (hc:c.Ok) (hcn:c.words=a.n) (k u:Nat) (l:List (Nat×Nat)) (er:Bool) (hk:k≤1) (ha:S.now c.act=(k:Int)) (hu:S.now (c.act+1)=(u:Int)) (hch:Chn S c k u l er)
  (hw:WdV S c k u):
  Calls Tryz.prog 74 #[ptr a.d,cfgV c] w fun e w'=>e=.returned (.int .i64 (ckC S c k l er))/\xe [] w w':=by
 have hmix:Tryz.prog.follows .mixedOrders=true:=by kernel_rfl
 have hfit:=hch.fits
 have hle:=hch.le
 have hfr:=xW hc.small (show k≤2 by omega)
 have hsp:=hc.small.2.2
 have hki:(k:Int)≤1:=by omega
 have hui:(u:Int)≤4096:=by omega
 have HPB:Hid (∀i,i<l.length->c.frm k+posL l i≤100000):=fun i hi=>by
  have:=xE hi
  omega
 have HRW:Hid (∀i,i<c.roots->∃v:Nat,S.now (c.root i)=(v:Int)/\v<18446744073709551616):=hw.1
 have hr16:c.roots≤1000:=by have:=hc.2.1;omega
 have HC:=hid (And.intro hc (And.intro hcn hk))
 have HW:=hid hw.2
 have HCH:=hid hch
 have HAU:=hid (And.intro ha hu)
 have HD0:=hid hD
 have HRD:=hid (fun(w':World) (hk':xe [] w w')=>xaa w' p a S c (hD.keep hk' (by simp) (by simp) (by simp) (by simp)) hc hcn (by rw[ha];omega) (by rw[hu];omega))
 have hdl:=hD.dev.lt
 have HDL:Hid (a.d<w.heap.size/\a.s<w.heap.size/\a.k<w.heap.size/\a.m<w.heap.size):=⟨hD.dev.lt,hD.now.lt,hD.kept.lt,hD.map.lt⟩
 clear hfit hle hfr hsp hc hcn hk hw hch ha hu hD hdl
 refine xZ Tryz.func74 rfl (.of_wp ?_)
 simp only[Tryz.ntmps74,List.size_toArray,List.length_cons,List.length_nil,Nat.reduceAdd,Nat.reduceSub,Array.replicate_succ,Array.replicate_zero,List.push_toArray,List.append_toArray,List.nil_append,List.cons_append]
 go_upto_region 1 with fail
 have hA0:=(At.new w (.cells #[ptr a.d] 28)).alloc (cfgO c)
 have hC0:=At.new (w.alloc (.cells #[ptr a.d] 28)) (cfgO c)
 have K0:=((xe.refl [] w).alloc (.cells #[ptr a.d] 28)).alloc (cfgO c)
 simp only[World.size_alloc]at hC0
 obtain⟨w0,hw0⟩:∃w0,w0=(w.alloc (.cells #[ptr a.d] 28)).alloc (cfgO c):=⟨_,rfl⟩
 have hz0:w0.heap.size=w.heap.size+2:=by rw[hw0];simp
 rw[<-hw0]at hA0 hC0 K0
 first|rw[<-hw0]|skip
 clear hw0
 obtain⟨q0,hq0⟩:∃q,q=w.heap.size:=⟨_,rfl⟩
 obtain⟨q1,hq1⟩:∃q,q=w.heap.size+1:=⟨_,rfl⟩
 rw[<-hq1,<-hq0]
 rw[<-hq0]at hA0
 rw[<-hq1]at hC0
 have HQ0:Hid (q0=w.heap.size/\q1=q0+1/\w0.heap.size=q0+2):=⟨hq0,by omega,by omega⟩
 clear hq0 hq1 hz0
 have a0:=hA0.cell 0 rfl
 have c0:=hC0.cell 0 rfl
 have c1:=hC0.cell 1 rfl
 have c2:=hC0.cell 2 rfl
 apply wp_scope_straight
 go_wp2_with fail
 refine(HRD.out w0 K0).mono ?_
 rintro e w1 (⟨hor,_,_⟩|⟨k',u',x,cp,hk1,hu1,e1,e2,rfl,hU,k01⟩)
 ·have h1:=HAU.out.1
  have h2:=HAU.out.2
  have h3:=HCH.out.fits
  have h4:=HC.out.2.2
  omega
 obtain rfl:k=k':=by have:=HAU.out.1;omega
 obtain rfl:u=u':=by have:=HAU.out.2;omega
 clear hk1 hu1 e1 e2
 have K1:=K0.trans k01
 have hA1:=k01.at hA0 (by simp)
 have hC1:=k01.at hC0 (by simp)
 have HZ1:Hid (q0+2≤w1.heap.size):=by show _≤_;have:=k01.size;have:=HQ0.out;omega
 have a0:=hA1.cell 0 rfl
 have c0:=hC1.cell 0 rfl
 have c1:=hC1.cell 1 rfl
 have c2:=hC1.cell 2 rfl
 clear hA0 hC0 K0 k01
 go_upto_region 2 with fail
 have hA2:=(hA1.alloc (bkO k u (.slice x c.roots cp))).alloc (.cells #[.int .i64 0] 51)
 have hC2:=(hC1.alloc (bkO k u (.slice x c.roots cp))).alloc (.cells #[.int .i64 0] 51)
 have hB2:=(At.new w1 (bkO k u (.slice x c.roots cp))).alloc (.cells #[.int .i64 0] 51)
 have hE2:=At.new (w1.alloc (bkO k u (.slice x c.roots cp))) (.cells #[.int .i64 0] 51)
 have k12:=((xe.refl [] w1).alloc (bkO k u (.slice x c.roots cp))).alloc (.cells #[.int .i64 0] 51)
 simp only[World.size_alloc]at hE2
 obtain⟨w2,hw2⟩:∃w2,w2=(w1.alloc (bkO k u (.slice x c.roots cp))).alloc (.cells #[.int .i64 0] 51):=⟨_,rfl⟩
 have hz2:w2.heap.size=w1.heap.size+2:=by rw[hw2];simp
 obtain⟨q2,hq2⟩:∃q,q=w1.heap.size:=⟨_,rfl⟩
 obtain⟨q3,hq3⟩:∃q,q=w1.heap.size+1:=⟨_,rfl⟩
 rw[<-hw2]at hA2 hC2 hB2 hE2 k12
 first|rw[<-hw2]|skip
 rw[<-hq3,<-hq2]
 rw[<-hq2]at hB2
 rw[<-hq3]at hE2
 have HQ2:Hid (q0+2≤q2/\q3=q2+1/\w2.heap.size=q2+2):=⟨by have:=HZ1.out;omega,by omega,by omega⟩
 have HXB:Hid (∀b∈blkL x,b<q2):=fun b hb=>by have:=(hU.ge b hb).2;omega
 have hU2:=hU.keep k12 (by simp)
 have K2:=K1.trans k12
 clear hw2 hq2 hq3 hz2 a0 c0 c1 c2 hA1 hC1 hU K1 k12
 have a0:=hA2.cell 0 rfl
 have c0:=hC2.cell 0 rfl
 have c1:=hC2.cell 1 rfl
 have c2:=hC2.cell 2 rfl
 have b0:=hB2.cell 0 rfl
 have b1:=hB2.cell 1 rfl
 have b2:=hB2.cell 2 rfl
 have e0:=hE2.cell 0 rfl
 have HA2:=hid hA2
 have HC2:=hid hC2
 have HB2:=hid hB2
 have HE2:=hid hE2
 have HU2:=hid hU2
 have HK2:=hid K2
 clear hA2 hC2 hB2 hE2 hU2 K2
 go_wp2_with fail
 have hD2:=HD0.out.keep HK2.out (by simp) (by simp) (by simp) (by simp)
 refine(WC w2 p a S c k u l er hD2 HC.out.1 HC.out.2.1 HC.out.2.2 HCH.out (.slice x c.roots cp)).mono ?_
 rintro e w3 ⟨mb,rfl,hI3,hmb,k23⟩
 have hA3:=k23.at HA2.out (by simp)
 have hC3:=k23.at HC2.out (by simp)
 have hB3:=k23.at HB2.out (by simp)
 have hE3:=k23.at HE2.out (by simp)
 have HU3:=hid (HU2.out.keep k23 (by simp))
 have HK3:=hid (HK2.out.trans k23)
 have HZ3:Hid (q2+2≤w3.heap.size/\mb<w3.heap.size/\q2+2≤mb):=⟨by have:=HQ2.out;have:=k23.size;omega,hI3.lt,by have:=HQ2.out;omega⟩
 have HI3:=hid hI3
 clear a0 c0 c1 c2 b0 b1 b2 e0 HA2 HC2 HB2 HE2 HU2 HK2 hD2 k23 hmb hI3
 have a0:=hA3.cell 0 rfl
 have c0:=hC3.cell 0 rfl
 have c1:=hC3.cell 1 rfl
 have c2:=hC3.cell 2 rfl
 have b0:=hB3.cell 0 rfl
 have b1:=hB3.cell 1 rfl
 have b2:=hB3.cell 2 rfl
 have e0:=(hE3.alloc (.cells #[.map (some mb)] 183)).cell 0 rfl
 have ef:=(hE3.alloc (.cells #[.map (some mb)] 183)).free 0
 go_upto_region 5 with fail
 obtain⟨ee,hee⟩:∃ee:Int,ee=if er=true then 8 else 0:=⟨_,rfl⟩
 rw[<-hee]
 have hA4:=(hA3.alloc (.cells #[.map (some mb)] 183)).set_ne (a:=⟨q3,0,none⟩) (by have:=HQ2.out;have:=HQ0.out;show q0≠q3;omega) (.int .i64 ee)
 have hC4:=(hC3.alloc (.cells #[.map (some mb)] 183)).set_ne (a:=⟨q3,0,none⟩) (by have:=HQ2.out;have:=HQ0.out;show q1≠q3;omega) (.int .i64 ee)
 have hB4:=(hB3.alloc (.cells #[.map (some mb)] 183)).set_ne (a:=⟨q3,0,none⟩) (by have:=HQ2.out;have:=HQ0.out;show q2≠q3;omega) (.int .i64 ee)
 have hE4:At ((w3.alloc (.cells #[.map (some mb)] 183)).setCell ⟨q3,0,none⟩ (.int .i64 ee)) q3 (.cells #[.int .i64 ee] 51):=(hE3.alloc (.cells #[.map (some mb)] 183)).set 0 (.int .i64 ee)
 have hS4:=(At.new w3 (.cells #[.map (some mb)] 183)).set_ne (a:=⟨q3,0,none⟩) (by have:=HQ2.out;have:=HZ3.out;show w3.heap.size≠q3;omega) (.int .i64 ee)
 have k34:xe [q3] w3 ((w3.alloc (.cells #[.map (some mb)] 183)).setCell ⟨q3,0,none⟩ (.int .i64 ee)):=((xe.refl [q3] w3).alloc _).set (p:=⟨q3,0,none⟩) (.inl (by simp)) _
 obtain⟨w4,hw4⟩:∃w4,w4=(w3.alloc (.cells #[.map (some mb)] 183)).setCell ⟨q3,0,none⟩ (.int .i64 ee):=⟨_,rfl⟩
 have hz4:w4.heap.size=w3.heap.size+1:=by rw[hw4];simp[World.setCell]
 obtain⟨q4,hq4⟩:∃q,q=w3.heap.size:=⟨_,rfl⟩
 rw[<-hw4]at hA4 hC4 hB4 hE4 hS4 k34
 first|rw[<-hw4]|skip
 rw[<-hq4]
 rw[<-hq4]at hS4
 have HQ4:Hid (q3<q4/\mb<q4/\w4.heap.size=q4+1/\q3<mb):=⟨by have:=HQ2.out;have:=HZ3.out;omega,by have:=HZ3.out;omega,by omega,by have:=HQ2.out;have:=HZ3.out;omega⟩
 have hqb:=HQ0.out
 have hqb2:=HQ2.out
 have HU4:=hid (HU3.out.keep k34 (fun b hb h=>by have:=HXB.out b hb;have:=List.mem_singleton.1 h;omega))
 have HK4:Hid (xe [] w w4):=HK3.out.new k34 (fun b hb=>.inr (by have:=List.mem_singleton.1 hb;omega))
 have hI4:=HI3.out.keep k34 (by have:=HZ3.out;simp;omega)
 have HI4:=hid hI4
 have HA4:=hid hA4
 have HC4:=hid hC4
 have HB4:=hid hB4
 have HE4:=hid hE4
 have HS4:=hid hS4
 clear hw4 hz4 hq4 hA3 hC3 hB3 hE3 HU3 HK3 HI3 hI4 hA4 hC4 hB4 hS4 k34 hqb hqb2 a0 c0 c1 c2 b0 b1 b2 e0 ef HZ3
 have e0:=hE4.cell 0 rfl
 cases er with
 |true=>
  obtain rfl:ee=8:=by simpa using hee
  clear hee hE4
  go_wp2_with fail
  refine⟨.int .i64 8,?_,rfl,HK4.out⟩
  simp[results,Tryz.results74,go_sem]
 |false=>
 obtain rfl:ee=0:=by simpa using hee
 clear hee hE4
 go_upto_region 8 with fail
 have k45:=(xe.refl [] w4).alloc (.cells #[.func (.func 138) #[] #[ptr q4]] 187)
 have hF5:=At.new w4 (.cells #[.func (.func 138) #[] #[ptr q4]] 187)
 obtain⟨w5,hw5⟩:∃w5,w5=w4.alloc (.cells #[.func (.func 138) #[] #[ptr q4]] 187):=⟨_,rfl⟩
 have hz5:w5.heap.size=w4.heap.size+1:=by rw[hw5];simp
 obtain⟨q5,hq5⟩:∃q,q=w4.heap.size:=⟨_,rfl⟩
 rw[<-hw5]at k45 hF5
 first|rw[<-hw5]|skip
 rw[<-hq5]
 rw[<-hq5]at hF5
 have HQ5:Hid (q5=q4+1/\w5.heap.size=q5+1):=⟨by have:=HQ4.out;omega,by omega⟩
 have HA5:=hid (k45.at HA4.out (by simp))
 have HC5:=hid (k45.at HC4.out (by simp))
 have HB5:=hid (k45.at HB4.out (by simp))
 have HE5:=hid (k45.at HE4.out (by simp))
 have HS5:=hid (k45.at HS4.out (by simp))
 have HF5:=hid hF5
 have HU5:=hid (HU4.out.keep k45 (by simp))
 have HI5:=hid (HI4.out.keep k45 (by simp))
 have HK5:=hid (HK4.out.trans k45)
 clear hw5 hz5 hq5 HA4 HC4 HB4 HE4 HS4 hF5 HU4 HI4 HK4 k45 e0
 have b2:=HB5.out.cell 2 rfl
 have s0:=HF5.out.cell 0 rfl
 go_wp2_with fail
 refine(Vs w5 q4 mb c k l HS5.out HI5.out HPB.out x c.roots cp _ _ HU5.out hr16 HRW.out).mono ?_
 rintro e w6 ⟨rfl,k56⟩
 have HOR:Hid ((!((List.range c.roots).all fun j=>okW c k l (S.now (c.root j))))= !okR S c k l):=rfl
 rw[HOR.out]
 have hA6:=k56.at HA5.out (by simp)
 have hC6:=k56.at HC5.out (by simp)
 have hB6:=k56.at HB5.out (by simp)
 have HE6:=hid (k56.at HE5.out (by simp))
 have HS6:=hid (k56.at HS5.out (by simp))
 have HF6:=hid (k56.at HF5.out (by simp))
 have HI6:=hid (HI5.out.keep k56 (by simp))
 have HK6:=hid (HK5.out.trans k56)
 have HZ6:Hid (q5+1≤w6.heap.size):=by show _≤_;have:=k56.size;have:=HQ5.out;omega
 obtain⟨bR,hbR⟩:∃b,b=okR S c k l:=⟨_,rfl⟩
 rw[<-hbR]
 have HBR:=hid hbR
 clear HA5 HC5 HB5 HE5 HS5 HF5 HI5 HK5 HU5 k56 b2 s0 hbR HOR
 cases bR with
 |false=>
  have HV:Hid (ckC S c k l false=9):=by
   show _=_
   unfold ckC
   rw[<-HBR.out]
   rfl
  go_wp2_with fail
  refine⟨.int .i64 9,?_,by rw[HV.out],HK6.out⟩
  simp[results,Tryz.results74,go_sem]
 |true=>
 have a0:=hA6.cell 0 rfl
 have c0:=hC6.cell 0 rfl
 have c1:=hC6.cell 1 rfl
 have c2:=hC6.cell 2 rfl
 have b0:=hB6.cell 0 rfl
 have b1:=hB6.cell 1 rfl
 have b2:=hB6.cell 2 rfl
 have HA6:=hid hA6
 have HC6:=hid hC6
 clear hA6 hC6 hB6
 go_wp2_with fail
 go_step3
 go_wp2_with fail
 refine(XH w6 a.d c k u (.slice x c.roots cp)).mono ?_
 rintro e w7 ⟨rfl,hx0,hx1,hx2,k67,hz7⟩
 have hD7:=(HD0.out.keep HK6.out (by simp) (by simp) (by simp) (by simp)).keep k67 (by simp) (by simp) (by simp) (by simp)
 have HO7:Hid (ObjF (w6.heap.size+2) (w6.heap.size+1) w6.heap.size a c k u l false w7):=⟨hx2,hx1,hx0,p,S,hD7,HCH.out⟩
 have HA7:=hid (k67.at HA6.out (by simp))
 have HE7:=hid (k67.at HE6.out (by simp))
 have HS7:=hid (k67.at HS6.out (by simp))
 have HF7:=hid (k67.at HF6.out (by simp))
 have HI7:=hid (HI6.out.keep k67 (by simp))
 have HK7:=hid (HK6.out.trans k67)
 have HZ7:Hid (q5+4≤w6.heap.size+3/\w7.heap.size=w6.heap.size+3):=⟨by have:=HZ6.out;omega,hz7⟩
 have HDQ:Hid (a.d<q0/\a.s<q0/\a.k<q0/\a.m<q0):=by
  have h1:=HDL.out
  have h2:=HQ0.out
  exact⟨by omega,by omega,by omega,by omega⟩
 have HQS:Hid (q1=q0+1/\q0+2≤q2/\q3=q2+1/\q3<q4/\mb<q4/\q5=q4+1/\q5<w7.heap.size/\mb≠q3/\w.heap.size≤q3):=by
  have h1:=HQ0.out
  have h2:=HQ2.out
  have h3:=HQ4.out
  have h4:=HQ5.out
  have h5:=HZ7.out
  show _/\_
  omega
 have HD7:=hid hD7
 clear hx0 hx1 hx2 hD7 HA6 HC6 HE6 HS6 HF6 HI6 HK6 k67 hz7 a0 c0 c1 c2 b0 b1 b2
 go_wp2_with fail
 refine vZ (gf:=194) (lb:=#[ptr (w6.heap.size+2),ptr (w6.heap.size+1),ptr w6.heap.size]) rfl (enters_of Tryz.func194 (by kernel_rfl) rfl) (fun fn=>?_)
 refine' (qN (WV _ _ _ a c k u l false HC.out.1 HC.out.2.1 HC.out.2.2) fn w7 _ _ _ _
  (fun i W=>i≤l.length/\(∀i',i'<i->∀j,j<rL l i'->okW c k l (S.now (c.frm k+posL l i'+1+j))=true)/\xe [] w7 W)
  (fun W=>okN S c k l=false/\At W q3 (.cells #[.int .i64 9] 51)/\xe [q3] w7 W)
  (.exit 0) (.exit 0) (.inr ⟨0,rfl,rfl⟩) (fun _=>rfl) ?fct ?keep ?keepx ?round ?start).mono ?after
 case fct=>
  rintro i W ⟨_,_,hk⟩
  obtain⟨h1,h2,h3,p',S',h4,h5⟩:=HO7.out
  exact⟨hk.at h1 (by simp),hk.at h2 (by simp),hk.at h3 (by simp),p',S',h4.keep hk (by simp) (by simp) (by simp) (by simp),h5⟩
 case keep=>
  rintro i W W' ⟨h1,h2,hk⟩ hk'
  exact⟨h1,h2,hk.new hk' (by simp)⟩
 case keepx=>
  rintro W W' ⟨h1,h2,hk⟩ hk'
  have hq:=HQS.out
  exact⟨h1,hk'.at h2 (by simp;omega),hk.new hk' (by simp)⟩
 case start=>exact⟨Nat.zero_le _,fun i' h=>absurd h (by omega),xe.refl _ _⟩
 case round=>
  rintro i W0 W him ⟨_,_,hk0⟩ k0 ⟨hil,hok,hK⟩ hsz
  have hlt:i<l.length:=by unfold objM at him;simpa using him
  rw[show objA c k l i=#[obV (nL l i:Nat) (rL l i:Nat) ((c.frm k+posL l i:Nat):Int),.int .i64 0] by unfold objA;rw[if_pos hlt]]
  obtain⟨hn64,hrn,_⟩:=HCH.out.head i _ (zU hlt)
  have hn64:nL l i≤64:=hn64
  have hrn:rL l i≤nL l i:=hrn
  have hzs:c.frm k+posL l i+nL l i<c.frm k+u:=by
   have h1:=xE hlt
   have h2:=HCH.out.le
   have h3:=HCH.out.fits
   omega
  have hza:c.frm k+posL l i+nL l i<a.n:=by
   have h1:=xE hlt
   have h2:=HCH.out.le
   have h3:=HCH.out.fits
   have h4:=xu (c:=c) k (by have:=HC.out.2.2;omega)
   have h5:=HC.out.2.1
   omega
  have HOK:=hid hok
  obtain⟨nn,hnn⟩:∃nn,nn=nL l i:=⟨_,rfl⟩
  obtain⟨rr,hrr⟩:∃rr,rr=rL l i:=⟨_,rfl⟩
  obtain⟨zi,hzi⟩:∃zi,zi=c.frm k+posL l i:=⟨_,rfl⟩
  rw[<-hnn,<-hrr,<-hzi]
  rw[<-hzi,<-hnn]at hza
  have hzs:c.frm k≤zi/\zi+nn<c.frm k+u:=by omega
  rw[<-hrr,<-hnn]at hrn
  rw[<-hnn]at hn64
  have HNN:=hid (And.intro hnn (And.intro hrr (And.intro hzi (And.intro hrn (And.intro hn64 (And.intro hza hzs))))))
  have HLT:=hid hlt
  have HKW:=hid hK
  have HSZ:=hid hsz
  have HK0:=hid (And.intro hk0 k0)
  clear hnn hrr hzi hlt him hil hok hK hn64 hrn hza hzs hsz hk0 k0
  have hsem:=@Oper.semAt_some
  gi_wp2_with fail
  refine⟨(xe.refl [] W).alloc _,fun W₂ k2 hz2 hr0=>?_⟩
  have hq:=HQS.out
  have hs7:=HZ7.out
  have hW0:w7.heap.size+2≤W0.heap.size:=HSZ.out
  have hWz:W0.heap.size≤W.heap.size:=HK0.out.2.size
  have kW2:xe [w7.heap.size+1] W W₂:=((xe.refl _ W).alloc _).trans k2
  have K72:xe [] w7 W₂:=HKW.out.new kW2 (by simp)
  have hO2:=k2.at (At.new W (obO (nn:Nat) (rr:Nat) zi)) (by simp;omega)
  have hA2:=K72.at HA7.out (by simp)
  have o0:=hO2.cell 0 rfl
  have o1:=hO2.cell 1 rfl
  have o2:=hO2.cell 2 rfl
  have a0:=hA2.cell 0 rfl
  have hsz2:W.heap.size<W₂.heap.size:=by have:=hO2.lt;omega
  have HK72:=hid K72
  have HR0:=hid hr0
  have HWZ:=hid (And.intro hW0 (And.intro hWz hsz2))
  clear hq hs7 hW0 hWz kW2 K72 hO2 hA2 hsz2 k2 hz2 hr0
  gi_wp2_with fail
  refine⟨trivial,?_⟩
  refine(callsIn_wide.2 (Xk W₂ (nn:Nat) (rr:Nat) zi a.d)).mono ?_
  rintro e W3 ⟨rfl,hW3⟩
  have hN3:=(At.new W₂ (obO (nn:Nat) (rr:Nat) zi)).alloc (.cells #[ptr a.d] 28)
  have hM3:=At.new (W₂.alloc (obO (nn:Nat) (rr:Nat) zi)) (.cells #[ptr a.d] 28)
  have k23:=((xe.refl [] W₂).alloc (obO (nn:Nat) (rr:Nat) zi)).alloc (.cells #[ptr a.d] 28)
  simp only[World.size_alloc]at hM3
  rw[hW3]at hN3 hM3 k23
  have hz3:W3.heap.size=W₂.heap.size+2:=by rw[<-hW3];simp
  have HK73:=hid (HK72.out.trans k23)
  have HM3:=hid (And.intro hN3 hM3)
  have HK23:=hid k23
  have hL3:ZN W3 (w7.heap.size+1):=by
   obtain⟨r,hr⟩:=HR0.out
   exact⟨r,k23.at hr (by simp)⟩
  have HL3:=hid hL3
  have hz3b:W.heap.size<W3.heap.size:=by have:=HWZ.out;omega
  have HZ3:=hid (And.intro hz3 hz3b)
  obtain⟨G,hG⟩:∃G:Nat->Int,∀j,G j=asInt (S.now (zi+1+j)):=⟨_,fun _=>rfl⟩
  have HG:=hid hG
  have HFC:Hid (∀W',xe [] w7 W'->∃p S',Dev W' p a S'/\∀j,j<rr->rfW S' zi j 0=G j):=fun W' hk=>by
   refine⟨p,S,HD7.out.keep hk (by simp) (by simp) (by simp) (by simp),fun j _=>?_⟩
   unfold rfW
   rw[if_pos rfl,HG.out,show((zi:Int)+1+(j:Int)).toNat=zi+1+j by omega]
  clear hG hW3 hN3 hM3 k23 hL3 hz3 hz3b o0 o1 o2 a0
  gi_wp2_with fail
  refine xdV (Zw W₂.heap.size (W₂.heap.size+1) a nn rr zi G ⟨HNN.out.2.2.2.1,HNN.out.2.2.2.2.1,HNN.out.2.2.2.2.2.1⟩) HL3.out rfl (enters_of Tryz.func195 (by kernel_rfl) rfl)
   (fun m W'=>(∀j,j<rr->G j≠0->nzC G j<m->okW c k l (S.now (zi+1+j))=true)/\xe [] W3 W')
   (fun W'=>(∃j,j<rr/\okW c k l (S.now (zi+1+j))=false)/\At W' q3 (.cells #[.int .i64 9] 51)/\xe [q3] W3 W')
   (.exit 0) (.exit 0) (.inr ⟨0,rfl,rfl⟩) (fun _=>rfl) ?_ ?_ ?_ ?_ ?_ ?_ ?_
  ·rintro m W' ⟨_,hk⟩
   obtain⟨p',S',h1,h2⟩:=HFC.out W' (HK73.out.trans hk)
   exact⟨⟨hk.at HM3.out.1 (by simp),hk.at HM3.out.2 (by simp)⟩,p',S',h1,h2⟩
  ·rintro m W' W'' ⟨h1,hk⟩ hk'
   exact⟨h1,hk.new hk' (by simp)⟩
  ·rintro W' W'' ⟨h1,h2,hk⟩ hk'
   have:=HZ3.out
   have:=HWZ.out
   have:=HQS.out
   exact⟨h1,hk'.at h2 (by simp;omega),hk.new hk' (by simp)⟩
  ·rintro m V0 V hm ⟨_,hkv0⟩ kv0 ⟨hgo,hkv⟩ hvz
   obtain⟨j,hj,hjn,hjm⟩:=ji hm
   rw[<-hjm,YM hj hjn]
   have HGO:=hid hgo
   obtain⟨v,hv,hvb⟩:=HW.out (zi+1+j) (by have:=HNN.out;omega) (by have:=HNN.out;omega)
   obtain⟨f,hf⟩:∃f,f=G j:=⟨_,rfl⟩
   have hfe:f=asInt (v:Int):=by rw[hf,HG.out,hv]
   have hfv:IntKind.u64.wrap f=(v:Int):=by rw[hfe];exact(ZJ v hvb).1
   have HV:=hid (And.intro hv (And.intro hf hvb))
   have HJ:=hid (And.intro hj (And.intro hjn hjm))
   have HVZ:=hid (And.intro hkv0 (And.intro kv0 (And.intro hkv hvz)))
   rw[<-hf]
   clear hgo hj hjn hjm hv hvb hf hfe hkv0 kv0 hkv hvz hm
   gi_wp2_with fail
   refine⟨xe.refl _ _,fun V₂ k2 hz2 hr2=>?_⟩
   have hq:=HQS.out
   have hwz:=HWZ.out
   have hz3:=HZ3.out
   have K32:xe [] W3 V₂:=HVZ.out.2.2.1.new k2 (by simp)
   have K72:=HK73.out.trans K32
   have s0:=(K72.at HF7.out (by simp)).cell 0 rfl
   have hE2:=K72.at HE7.out (by simp)
   have HAS:=hid (Vy V₂ q4 mb c k l (K72.at HS7.out (by simp)) (HI7.out.keep K72 (by simp)) HPB.out v HV.out.2.2)
   have HE2:=hid hE2
   have HK32:=hid K32
   clear hq hwz hz3 K32 K72 hE2 k2 hz2 hr2
   gi_wp2_with fail
   refine⟨trivial,?_⟩
   refine(callsIn_wide.2 HAS.out).mono ?_
   rintro e V3 ⟨rfl,k3⟩
   have HK33:=hid (HK32.out.trans k3)
   have HK3:=hid k3
   have hE3:=k3.at HE2.out (by simp)
   obtain⟨bv,hbv⟩:∃b,b=okW c k l v:=⟨_,rfl⟩
   rw[<-hbv]
   have HBV:=hid hbv
   clear hbv k3 s0
   cases bv with
   |true=>
    clear hE3
    gi_wp2_with fail
    refine⟨⟨fun j1 g1 g2 g3=>?_,HK33.out⟩,[],HK3.out,by simp,by simp⟩
    by_cases g4:nzC G j1<nzC G j
    ·exact HGO.out j1 g1 g2 (by rw[<-HJ.out.2.2];exact g4)
    ·have e1:=XI g1 g2
     have e2:=XI HJ.out.1 HJ.out.2.1
     rw[show nzC G j1=nzC G j by omega,e2]at e1
     injection e1 with e1
     rw[<-e1,HV.out.1]
     exact HBV.out.symm
   |false=>
    have e0:=hE3.cell 0 rfl
    have ef:=hE3.free 0
    have HE3:=hid hE3
    clear hE3
    gi_wp2_with fail
    have hq:=HQS.out
    have hz:=HZ3.out
    have hwz:=HWZ.out
    have hv0:=HVZ.out.2.2.2
    have hz7:=HZ7.out
    refine⟨⟨⟨j,HJ.out.1,by rw[HV.out.1];exact HBV.out.symm⟩,by simpa using HE3.out.set 0 (.int .i64 9),(HK33.out.mono (by simp)).set (p:=⟨q3,0,none⟩) (.inl (by simp)) _⟩,[q3],(HK3.out.mono (by simp)).set (p:=⟨q3,0,none⟩) (.inl (by simp)) _,by simp;omega,fun b hb=>.inl ?_⟩
    obtain rfl:=List.mem_singleton.1 hb
    omega
  ·exact⟨fun j _ _ h=>absurd h (by omega),xe.refl _ _⟩
  ·rintro W' ⟨hgo,hk⟩
   have HGO:=hid hgo
   have HK:=hid hk
   clear hgo hk
   simp only[Exit.inBlock]
   gi_wp2_with fail
   have hz7:=HZ7.out
   refine⟨⟨HLT.out,fun i' hi' j hj=>?_,(HK73.out.trans HK.out)⟩,[],(HK23.out.trans HK.out),by simp,by simp,by simp⟩
   by_cases hii:i'=i
   ·subst hii
    rw[<-HNN.out.2.2.1]
    rw[<-HNN.out.2.1]at hj
    by_cases hg:G j=0
    ·rw[HG.out]at hg
     obtain⟨v,hv,hvb⟩:=HW.out (zi+1+j) (by have:=HNN.out;omega) (by have:=HNN.out;omega)
     rw[hv]at hg⊢
     exact xV.2 (.inl (by have:=(ZJ v hvb).2.2 hg;omega))
    ·exact HGO.out j hj hg (JC hj hg)
   ·exact HOK.out i' (by omega) j hj
  ·rintro W' ⟨hbad,he,hk⟩
   have HB:=hid hbad
   have HE:=hid he
   have HK:=hid hk
   clear hbad he hk
   simp only[Exit.inBlock]
   gi_wp2_with fail
   have hq:=HQS.out
   have hwz:=HWZ.out
   have hz7:=HZ7.out
   refine⟨⟨?_,HE.out,(HK73.out.mono (by simp)).trans HK.out⟩,[q3],(HK23.out.mono (by simp)).trans HK.out,?_,?_,fun b hb=>.inl ?_⟩
   ·obtain⟨j,hj,hb⟩:=HB.out
    rw[Bool.eq_false_iff]
    intro hn
    have:=zQ.1 hn i HLT.out j (by rw[<-HNN.out.2.1];exact hj)
    rw[<-HNN.out.2.2.1,hb]at this
    exact Bool.noConfusion this
   ·simp;omega
   ·simp;omega
   ·obtain rfl:=List.mem_singleton.1 hb
    omega
 case after=>
  intro e w8 hr
  cases e with
  |panicked _=>exact hr
  |outgrown=>exact hr
  |returned v=>
   have hq:=HQS.out
   rcases hr with⟨w9,hend,⟨hil,hgo,hK⟩,hDf⟩|⟨w9,hend,⟨hno,hE,hK⟩,hDf⟩
   ·refine .inl ⟨w9,hend,?_⟩
    have HV:Hid (ckC S c k l false=0):=by
     have h1:okN S c k l=true:=zQ.2 fun i hi j hj=>hgo i (by unfold objM;simpa using hi) j hj
     show _=_
     unfold ckC
     rw[<-HBR.out,h1]
     rfl
    have hE9:=hK.at HE7.out (by simp)
    have HK9:=hid (HK7.out.trans hK)
    have HDF:=hid hDf
    have e0:=hE9.cell 0 rfl
    clear hgo hil hK hDf hE9 hend hq
    simp only[Exit.inBlock,Exit.then]
    go_wp2_with fail
    rw[Exit.noGoto_ret]
    go_wp2_with fail
    refine⟨by simp,.inl ⟨_,_,rfl,run_takeDeferred HDF.out,?_⟩⟩
    have kd:xe [w7.heap.size] w9 (w9.putObj w7.heap.size (.deferred none)):=(xe.refl _ _).put (.inl (by simp)) _
    refine⟨.int .i64 0,?_,by rw[HV.out],HK9.out.new kd (fun b hb=>.inr (by obtain rfl:=List.mem_singleton.1 hb;exact HK7.out.size))⟩
    simp[results,Tryz.results74,go_sem]
   ·refine .inr ⟨.exit 0,w9,hend,?_⟩
    have HV:Hid (ckC S c k l false=9):=by
     show _=_
     unfold ckC
     rw[<-HBR.out,hno]
     rfl
    have HK9:Hid (xe [] w w9):=HK7.out.new hK (fun b hb=>.inr (by have:=List.mem_singleton.1 hb;omega))
    have HDF:=hid hDf
    have e0:=hE.cell 0 rfl
    clear hno hE hK hDf hend hq
    go_wp2_with fail
    rw[Exit.noGoto_ret]
    go_wp2_with fail
    refine⟨by simp,.inl ⟨_,_,rfl,run_takeDeferred HDF.out,?_⟩⟩
    have kd:xe [w7.heap.size] w9 (w9.putObj w7.heap.size (.deferred none)):=(xe.refl _ _).put (.inl (by simp)) _
    refine⟨.int .i64 9,?_,by rw[HV.out],HK9.out.new kd (fun b hb=>.inr (by obtain rfl:=List.mem_singleton.1 hb;exact HK7.out.size))⟩
    simp[results,Tryz.results74,go_sem]
theorem ZE (w:World) (p:Nat) (a:DA) (S:DS) (c:Cfg) (hD:Dev w p a S) (hc:c.Ok) (hcn:c.words=a.n) (k u:Nat) (l:List (Nat×Nat)) (er:Bool) (hk:k≤1) (ha:S.now c.act=(k:Int)) (hu:S.now (c.act+1)=(u:Int)) (hch:Chn S c k u l er)
  (hw:WdU S c k):
  Calls Tryz.prog 74 #[ptr a.d,cfgV c] w fun e w'=>e=.returned (.int .i64 (ckC S c k l er))/\xe [] w w':=Y4 w p a S c hD hc hcn k u l er hk ha hu hch (hw.v hch.fits)
open Go.RowKit Go.OpenShut
theorem WP:∀(os:List (Nat×Nat)) (i:Nat),i<lenL os->∃i' t,i'<os.length/\t≤nL os i'/\i=posL os i'+t
 | [],i,h=>absurd h (by simp[lenL])
 |x::l,i,h=>by
  rw[Xq]at h
  by_cases hi:i≤x.1
  ·exact⟨0,i,by simp,hi,by rw[YF];omega⟩
  ·obtain⟨i',t,h1,h2,h3⟩:=WP l (i-(x.1+1)) (by omega)
   exact⟨i'+1,t,by simpa using h1,h2,by rw[YG];omega⟩
structure WdA (S:DS) (c:Cfg) (n:Nat):Prop where
 blk:∀j,c.act≤j->j<c.root c.roots->∃v:Nat,S.now j=(v:Int)/\v<18446744073709551616
 sp:∀j,c.frm 0≤j->j<n->∃v:Nat,S.now j=(v:Int)/\v<18446744073709551616
theorem xH (c:Cfg):c.root c.roots=c.act+2+c.roots/\c.root c.roots≤c.frm 0:=by
 have:=@xK c 0
 unfold Cfg.root
 omega
theorem LnkS.wd {c:Cfg} {n:Nat} {os:List (Nat×Nat)} {g:Nat->Int} {S:DS} (h:LnkS c n os g S) (hs:c.space≤4096) (hg:∀q,∃v:Nat,g q=(v:Int)/\v<18446744073709551616):WdA S c n:=by
 have hre:=xH c
 refine⟨fun j h1 h2=>?_,fun j h1 h2=>?_⟩
 ·by_cases h3:j=c.act
  ·exact⟨0,by rw[h3];exact h.act,by omega⟩
  ·by_cases h4:j=c.act+1
   ·exact⟨lenL os,by rw[h4];exact h.used,by have:=h.fits;omega⟩
   ·obtain⟨v,hv,hb⟩:=hg (refL os+(j-(c.act+2)))
    refine⟨v,?_,hb⟩
    have:=h.root (j-(c.act+2)) (by omega)
    rw[hv]at this
    rw[<-this]
    congr 1
    unfold Cfg.root
    omega
 ·by_cases h3:lenL os≤j-c.frm 0
  ·have:=h.rest (j-c.frm 0) h3 (by omega)
   rw[show c.frm 0+(j-c.frm 0)=j by omega]at this
   exact⟨0,by rw[this];rfl,by omega⟩
  ·obtain⟨i,t,hi,ht,he⟩:=WP os (j-c.frm 0) (by omega)
   have hf:=wJ h.few i
   cases t with
   |zero=>
    have:=h.head i hi
    rw[show c.frm 0+posL os i=j by omega]at this
    exact⟨_,this,by unfold hdPk;omega⟩
   |succ t=>
    by_cases hr:t<rL os i
    ·have:=h.name i t hi hr
     rw[show c.frm 0+posL os i+1+t=j by omega]at this
     obtain⟨v,hv,hb⟩:=hg (refB os i+t)
     exact⟨v,by rw[this,hv],hb⟩
    ·have:=h.num i t hi (by omega) (by omega)
     rw[show c.frm 0+posL os i+1+t=j by omega]at this
     exact⟨0,by rw[this];rfl,by omega⟩
theorem WdA.at {S:DS} {c:Cfg} {n k:Nat} (h:WdA S c n) (hn:c.words=n) (hk:k≤1):WdU S c k:=by
 have h1:=xu (c:=c) k (by omega)
 have hre:=xH c
 refine⟨fun i hi=>h.blk _ ?_ ?_,fun j h2 h3=>h.sp j ?_ (by omega)⟩
 ·unfold Cfg.root;omega
 ·unfold Cfg.root;omega
 ·have:c.frm 0≤c.frm k:=by unfold Cfg.frm;omega
  omega
theorem xcP {S S':DS} {c:Cfg} {k:Nat} {l:List (Nat×Nat)} {er:Bool} (hr:∀j,j<c.roots->S'.now (c.root j)=S.now (c.root j)) (hn:∀i,i<l.length->∀j,j<rL l i->S'.now (c.frm k+posL l i+1+j)=S.now (c.frm k+posL l i+1+j)):
  ckC S' c k l er=ckC S c k l er:=by
 have h1:okR S' c k l=okR S c k l:=by
  rw[Bool.eq_iff_iff,wW,wW]
  exact⟨fun h j hj=>by rw[<-hr j hj];exact h j hj,fun h j hj=>by rw[hr j hj];exact h j hj⟩
 have h2:okN S' c k l=okN S c k l:=by
  rw[Bool.eq_iff_iff,zQ,zQ]
  exact⟨fun h i hi j hj=>by rw[<-hn i hi j hj];exact h i hi j hj,fun h i hi j hj=>by rw[hn i hi j hj];exact h i hi j hj⟩
 unfold ckC
 rw[h1,h2]
theorem ZD {S:DS} {c:Cfg} {k:Nat} {l:List (Nat×Nat)} (hr:∀j,j<c.roots->okW c k l (S.now (c.root j))=true) (hn:∀i,i<l.length->∀j,j<rL l i->okW c k l (S.now (c.frm k+posL l i+1+j))=true):ckC S c k l false=0:=by
 have h1:okR S c k l=true:=wW.2 hr
 have h2:okN S c k l=true:=zQ.2 hn
 unfold ckC
 rw[h1,h2]
 rfl
theorem xaB (c:Cfg) (os:List (Nat×Nat)) (G:Nat->Nat) (m wr:Nat) (hos:c.frm 0+lenL os≤1000000) (q:Nat):∃v:Nat,lnkG c os G m wr q=(v:Int)/\v<18446744073709551616:=by
 refine⟨_,rfl,?_⟩
 unfold nxV
 split
 ·rename_i h
  have h1:G q%os.length<os.length:=Nat.mod_lt _ h.2.1
  have h2:=xE h1
  dsimp only
  split<;>omega
 ·omega
theorem We (c:Cfg) (os:List (Nat×Nat)) (G:Nat->Nat) (m:Nat) (q:Nat):okW c 0 os (lnkG c os G m 0 q)=true:=by
 rw[xV]
 unfold lnkG nxV
 split
 ·rename_i h
  exact .inr ⟨G q%os.length,Nat.mod_lt _ h.2.1,by simp⟩
 ·exact .inl rfl
theorem Chn.same {S S':DS} {c:Cfg} {k u:Nat} {l:List (Nat×Nat)} {er:Bool} (h:Chn S c k u l er) (he:∀j,j<u->S'.now (c.frm k+j)=S.now (c.frm k+j)):Chn S' c k u l er:=by
 refine⟨h.fits,fun i x hx=>?_,h.done,fun hb=>?_⟩
 ·obtain⟨h1,h2,h3⟩:=h.head i x hx
  obtain⟨hi,_⟩:=List.getElem?_eq_some_iff.1 hx
  have h4:=xE hi
  have h5:=h.le
  exact⟨h1,h2,by rw[he _ (by omega)];exact h3⟩
 ·obtain⟨h1,x,h2,h3,h4⟩:=h.bad hb
  exact⟨h1,x,by rw[he _ h1];exact h2,h3,h4⟩
theorem xbu {ops:Array Oper} {rest:List Oper} {o:Oper} {a:Act} {w:World} {Q:Exit->Act->World->Prop} (hgd:o.guard=none) (s x:Operand)
  (ho:o.op=.call { callee:=.builtin .append,args:=#[s,x],argTypes:=#[60,60] })
  (B:Nat) (xx:Option Addr) (cp n:Nat) (f:Nat->Int) (hs:a.eval s=.slice xx n cp) (hown:OwnU w B xx cp n f) (b c:Nat) (v:Int) (hx:a.eval x=.slice (some ⟨b,0,none⟩) 1 c) (hc:w.cell? ⟨b,0,none⟩=some (.int .u64 v))
  (hn:n≤100000) (hB:B≤w.heap.size)
  (h:∀g cap w',OwnU w' B (some ⟨g,0,none⟩) cap (n+1) (put f n v)->xe (blkL xx) w w'->(blkL xx= [g]\/w.heap.size≤g)->wpList Tryz.prog ops Q rest (a.put o.dst (.slice (some ⟨g,0,none⟩) (n+1) cap)) w'):
  wpList Tryz.prog ops Q (o::rest) a w:=by
 have hi:∃i,Tryz.prog.info? 26=some i/\(i.zero,i.size,i.bytes)=(some (.int .u64 0),1,8):=by
  have h:(Tryz.prog.info? 26).map (fun i=>(i.zero,i.size,i.bytes))=some (some (.int .u64 0),1,8):=by kernel_rfl
  exact Option.map_eq_some_iff.1 h
 obtain⟨ti,hi1,hi2⟩:=hi
 simp only[Prod.mk.injEq]at hi2
 obtain⟨hz,hsz,hby⟩:=hi2
 refine wpList_append_own_at w hgd s x 60 ho B 26 ti (.int .u64 0) 1 8 Tryz.underlying60 hi1 hz hsz hby rfl (by omega) _ n _ hs hown ⟨b,0,none⟩ 1 c [.int .u64 v] hx rfl (fun j u hj=>?_) (by simp[Value.oneCell']) (by unfold maxLen;omega) (by omega) hB ?_
 ·cases j with
  |zero=>simp at hj;subst hj;exact hc
  |succ j=>simp at hj
 ·intro v' w' h1 h2 h3 h4
  have hne:v'≠.slice none 0 0:=fun e=>by have:=(h3.1 e).2;omega
  have h1':=h1
  obtain⟨_,⟨rfl,_⟩|⟨g,cap,cur,rfl,hB',hg,h5⟩⟩:=h1'
  ·exact absurd rfl hne
  ·rw[YE]at h1
   refine h g cap w' h1 (xS h2) ?_
   rcases h4 with h4|h4
   ·left
    cases xx with
    |none=>simp[Value.ownBlock]at h4
    |some a=>simp[Value.ownBlock]at h4;simp[blkL];exact h4.symm
   ·right
    simp[Value.ownBlock]at h4;omega
end Go.Proofs.YtcdhklgahepcaaaGreat
