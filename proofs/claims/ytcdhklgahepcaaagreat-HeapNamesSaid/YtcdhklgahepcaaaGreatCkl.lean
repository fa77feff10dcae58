import Derived.Test.YtcdhklgahepcaaaGreatClk
import Derived.Test.YtcdhklgahepcaaaGreatCkp
set_option maxHeartbeats 4000000
set_option maxRecDepth 100000
namespace Go.Proofs.YtcdhklgahepcaaaGreat
open Go.RowKit Go.OpenShut
section
variable {P:CP} {w:World} {x mb B:Nat} {yr:Option Addr} {cr:Nat} {yl:Option Addr} {cl:Nat} {yq:Option Addr} {cq:Nat} {out:List Nat} {i n:Nat} {dn:Bool}
theorem ClB.turn (h:ClB P w x mb B yr cr yl cl yq cq out i n dn) {w':World} (hk:xe [x] w w') {yl':Option Addr} {cl':Nat} {yq':Option Addr} {cq' i' n':Nat} {dn':Bool}
  (hb:At w' x (colO P (szF P.S out) yr cr yl' (P.ws.length-i') cl' mb yq' (out.length-n') cq' dn'))
  (hl:Reads w' yl' (P.ws.length-i') (fun j=>((P.ws.getD (i'+j) 0:Nat):Int))) (hlc:P.ws.length-i'≤cl') (hlb:blkL yl'=blkL yl) (hq:QueB w' B yq' cq' (quL P out n')):ClB P w' x mb B yr cr yl' cl' yq' cq' out i' n' dn':=by
 refine⟨hb,h.mp.keep hk (by simp;exact fun e=>h.xm e.symm),yc h.rd hk fun b hb=>by have:=(h.rn b hb).1;simpa using this,hl,hlc,hq,Nat.le_trans h.lt hk.size,h.xB,h.mB,h.rB,?_,h.xm,h.rn,?_⟩
 ·rw[hlb];exact h.lB
 ·rw[hlb];exact h.ln
theorem ClB.xq (h:ClB P w x mb B yr cr yl cl yq cq out i n dn):x∉blkL yq:=fun hm=>by
 have h1:=(h.qu.ge x hm).1
 have h2:=h.xB
 omega
theorem ClB.popW {g off m:Nat} (h:ClB P w x mb B yr cr (some ⟨g,off,none⟩) cl yq cq out i n dn) (hm:P.ws.length-i=m+1) {y1:Option Addr} (hy:y1=if cl=1 then some ⟨g,off,none⟩else some ⟨g,off+1,none⟩):
  ClB P (w.setCell ⟨x,10,none⟩ (.slice y1 m (cl-1))) x mb B yr cr y1 (cl-1) yq cq out (i+1) n dn:=by
 have hk:=(xe.refl [x] w).set (p:=⟨x,10,none⟩) (.inl (by simp)) (.slice y1 m (cl-1))
 have hb:=h.box
 rw[hm]at hb
 have hlc:=h.lc
 have hm1:P.ws.length-(i+1)=m:=by omega
 refine h.turn hk (by rw[hm1];exact hb.set 10 _) ?_ (by omega) (by rw[hy];split<;>simp[blkL]) (h.qu.keep hk fun b hbq hx=>?_)
 ·rw[hm1]
  have hl:=yc h.lf hk fun b hb hx=>(h.ln b hb).1 (by simpa using hx)
  rcases hl with h0|⟨b,o,h1,h2,h3⟩
  ·omega
  ·injection h1 with h1
   injection h1 with h4 h5
   subst h4
   subst h5
   by_cases hc:cl=1
   ·left;omega
   ·refine .inr ⟨g,off+1,by rw[hy,if_neg hc],h2,fun j hj=>?_⟩
    have:=h3 (j+1) (by omega)
    show _=some (Value.int .u64 ((P.ws.getD (i+1+j) 0:Nat):Int))
    rw[show off+1+j=off+(j+1) by omega,show i+1+j=i+(j+1) by omega]
    exact this
 ·obtain rfl:=List.mem_singleton.1 hx
  exact h.xq hbq
theorem ClB.popQ {g off ql:Nat} {Y:Nat} (h:ClB P w x mb B yr cr yl cl (some ⟨g,off,none⟩) cq out i n dn) (hY:out[n]? =some Y) (hq:out.length-n=ql+1) {y1:Option Addr} (hy:y1=if cq=1 then some ⟨g,off,none⟩else some ⟨g,off+3,none⟩):
  ClB P (w.setCell ⟨x,12,none⟩ (.slice y1 ql (cq-1))) x mb B yr cr yl cl y1 (cq-1) out i (n+1) dn/\blkL y1= [g]:=by
 have hk:=(xe.refl [x] w).set (p:=⟨x,12,none⟩) (.inl (by simp)) (.slice y1 ql (cq-1))
 have hb:=h.box
 rw[hq]at hb
 have hq1:out.length-(n+1)=ql:=by omega
 have hbl:blkL y1= [g]:=by rw[hy];split<;>simp[blkL]
 refine⟨h.turn hk (by rw[hq1];exact hb.set 12 _) (yc h.lf hk fun b hb hx=>(h.ln b hb).1 (by simpa using hx)) h.lc rfl ?_,hbl⟩
 have hqu:=h.qu
 rw[ZY P hY]at hqu
 obtain⟨g',off',h1,_,_,_,_,_,h2⟩:=hqu.front
 injection h1 with h1
 injection h1 with h3 h4
 subst h3
 subst h4
 rw[<-hy]at h2
 refine h2.keep hk fun b hbq hx=>?_
 obtain rfl:=List.mem_singleton.1 hx
 rw[hbl]at hbq
 exact h.xq (by simpa[blkL]using hbq)
theorem ClB.dones (h:ClB P w x mb B yr cr yl cl yq cq out i n false):ClB P (w.setCell ⟨x,13,none⟩ (.bool true)) x mb B yr cr yl cl yq cq out i n true:=by
 have hk:=(xe.refl [x] w).set (p:=⟨x,13,none⟩) (.inl (by simp)) (.bool true)
 refine h.turn hk (h.box.set 13 _) (yc h.lf hk fun b hb hx=>(h.ln b hb).1 (by simpa using hx)) h.lc rfl (h.qu.keep hk fun b hbq hx=>?_)
 obtain rfl:=List.mem_singleton.1 hx
 exact h.xq hbq
end
theorem CpJ.now {S S' S'':DS} {c:Cfg} {k u n I:Nat} {LS:List Nat} (h:CpJ S S' c k u LS n I) (hn:S''.now=S'.now):CpJ S S'' c k u LS n I:=
 ⟨h.nd,h.ob,by rw[hn];exact h.head,by rw[hn];exact h.name,by rw[hn];exact h.raw,h.seen,by rw[hn];exact h.num,by rw[hn];exact h.rest⟩
theorem xbQ (P:CP) (w:World) (x mb B:Nat) (yr:Option Addr) (cr:Nat) (yl:Option Addr) (cl:Nat) (yq:Option Addr) (cq:Nat) (out:List Nat) (i n:Nat) (hC:ClB P w x mb B yr cr yl cl yq cq out i n true):
  Calls Tryz.prog 94 #[ptr x] w fun e w'=>e=.returned (.bool true)/\w=w':=by
 have x13:=hC.box.cell 13 rfl
 clear hC
 go_enter Tryz.func94,Tryz.ntmps94
 go_wp2_with fail
 go_ret
 exact⟨rfl,rfl⟩
open Go.RowKit Go.OpenShut
theorem xfe {P:CP} {out:List Nat} (h:P.Pre out) (v:Nat):wO P out v=wtC P.S P.c P.k out v:=by
 unfold wO
 by_cases hv:v∈out
 ·rw[if_pos hv,h.wt hv]
 ·rw[if_neg hv,wM hv]
theorem xc1 {P:CP} (hP:P.Ok) {out:List Nat} (h:P.Pre out) (v:Nat):wtC P.S P.c P.k out v≤100000:=by
 by_cases hv:v∈out
 ·have h1:=yE hv
  have h2:=zP (S:=P.S) (c:=P.c) (k:=P.k) h1
  have h6:szF P.S P.LS≤P.c.space:=hP.rdy.sz
  have h7:=h.sz
  have h9:=xW hP.c.small (show 1-P.k≤2 by omega)
  have h10:=hP.c.small.2.2
  rw[yT h.nd h1]
  omega
 ·rw[wM hv];omega
theorem J2 (P:CP) (w:World) (x mb B:Nat) (yr:Option Addr) (cr:Nat) (yl:Option Addr) (cl:Nat) (yq:Option Addr) (cq:Nat) (out:List Nat) (i n:Nat) (dn:Bool) (hC:ClB P w x mb B yr cr yl cl yq cq out i n dn) (hpre:P.Pre out) (v:Nat) (hv:v<9223372036854775808):
  Calls Tryz.prog 172 #[ptr x,.int .u64 (v:Nat)] w fun e w'=>e=.returned (.int .i64 (wtC P.S P.c P.k out v:Nat))/\w=w':=by
 obtain⟨z,hz⟩:∃z,z=wtC P.S P.c P.k out v:=⟨_,rfl⟩
 have hlk:(Instr.lookup 199 (.map (some mb)) (.int .i64 (v:Int)) false).run Tryz.prog w=.ok (.int .i64 (z:Nat)) w:=by
  rw[XV hC.mp,xfe hpre,hz]
  rfl
 have x11:=hC.box.cell 11 rfl
 have e1:IntKind.i64.wrap (v:Int)=(v:Int):=IntWalk.i64_in _ (by omega)
 rw[<-hz]
 clear hC hpre hv hz
 go_enter Tryz.func172,Tryz.ntmps172
 go_wp2_with fail
 go_ret
 exact⟨rfl,rfl⟩
theorem xbn (P:CP) (hP:P.Ok) (w:World) (x mb B:Nat) (yr:Option Addr) (cr:Nat) (yl:Option Addr) (cl:Nat) (yq:Option Addr) (cq:Nat) (out:List Nat) (i n:Nat) (dn:Bool) (hC:ClB P w x mb B yr cr yl cl yq cq out i n dn) (hpre:P.Pre out):
  Calls Tryz.prog 213 #[ptr x] w fun e w'=>∃y cy,e=.returned (bkV ((1-P.k:Nat):Int) (szF P.S out:Nat) (.slice y P.rs.length cy))/\
   OwnU w' w.heap.size y cy P.rs.length (fun j=>((wtC P.S P.c P.k out (P.rs.getD j 0):Nat):Int))/\xe [] w w':=by
 have hrs:=hP.rs
 have hrl:P.rs.length≤16:=by rw[hP.root];exact hP.c.2.1
 obtain⟨U,hU⟩:∃U,U=szF P.S out:=⟨_,rfl⟩
 have hbox:=hC.box
 rw[<-hU]at hbox⊢
 have hxw:=hbox.lt
 have hrd:=hC.rd
 have hRi:(P.rs.length:Int)≤16:=by omega
 obtain⟨f,hf⟩:∃f:Nat->Int,f=fun j=>((wtC P.S P.c P.k out (P.rs.getD j 0):Nat):Int):=⟨_,rfl⟩
 rw[<-hf]
 have HRV:Hid (∀j,j<P.rs.length->P.rs.getD j 0<9223372036854775808):=fun j hj=>by
  rw[List.getD_eq_getElem?_getD,List.getElem?_eq_getElem hj]
  exact hrs _ (List.getElem_mem hj)
 have HF:Hid (∀j,∃t:Nat,f j=(t:Int)/\t≤100000/\t=wtC P.S P.c P.k out (P.rs.getD j 0)):=fun j=>by
  rw[hf]
  exact⟨_,rfl,xc1 hP hpre _,rfl⟩
 have HC:=hid hC
 have HPRE:=hid hpre
 have HBX0:=hid hbox
 have HRD:=hid hrd
 have x3:=hbox.cell 7 rfl
 have x4:=hbox.cell 8 rfl
 have x5:=hbox.cell 9 rfl
 have x6:=hbox.cell 6 rfl
 clear hrs hrl hU hbox hrd hC hpre hP hf
 go_enter Tryz.func213,Tryz.ntmps213
 go_upto_region 2 with fail
 have hR0:=(At.new w (bkO 0 0 (.slice none 0 0))).alloc (bkO ((1-P.k:Nat):Int) (U:Nat) (.slice none 0 0))
 have hB0:=At.new (w.alloc (bkO 0 0 (.slice none 0 0))) (bkO ((1-P.k:Nat):Int) (U:Nat) (.slice none 0 0))
 have k0:=((xe.refl [] w).alloc (bkO 0 0 (.slice none 0 0))).alloc (bkO ((1-P.k:Nat):Int) (U:Nat) (.slice none 0 0))
 simp only[World.size_alloc]at hB0
 obtain⟨rb,hrb⟩:∃q,q=w.heap.size:=⟨_,rfl⟩
 obtain⟨bb,hbb⟩:∃q,q=w.heap.size+1:=⟨_,rfl⟩
 obtain⟨w1,hw1⟩:∃w1,w1=(w.alloc (bkO 0 0 (.slice none 0 0))).alloc (bkO ((1-P.k:Nat):Int) (U:Nat) (.slice none 0 0)):=⟨_,rfl⟩
 have hz1:w1.heap.size=w.heap.size+2:=by rw[hw1];simp
 rw[<-hw1]at hR0 hB0 k0
 first|rw[<-hw1]|skip
 rw[<-hbb,<-hrb]
 rw[<-hrb]at hR0
 rw[<-hbb]at hB0
 have HQ:Hid (rb=w.heap.size/\bb=rb+1/\w1.heap.size=rb+2/\x<rb):=⟨hrb,by omega,by omega,by omega⟩
 have HR1:=hid hR0
 have HB1:=hid hB0
 have HK1:=hid k0
 have y6:=(k0.at HBX0.out (by simp)).cell 6 rfl
 clear hw1 hrb hbb hz1 hR0 hB0 k0 x3 x4 x5 x6 hxw
 go_wp2_with fail
 go_loopg [16] P.rs.length (fun rr s16 wr=>∃m,m+rr=P.rs.length∧s16=.int .i64 (m:Nat)∧RowB bb ((1-P.k:Nat):Int) (U:Nat) m f w1 wr)
 case atStart=>exact⟨0,by omega,rfl,none,0,HB1.out,Jv _ _ _,xe.refl _ _⟩
 case round=>
  obtain⟨m,hm,rfl,xr,cpr,hBr,hOr,hKr⟩:=hrel
  by_cases hlt:m<P.rs.length
  ·obtain⟨gr,offr,hye,hgl,hgc⟩:∃g off,yr=some ⟨g,off,none⟩/\g<w.heap.size/\∀j,j<P.rs.length->w.cell? ⟨g,off+j,none⟩=some (.int .u64 ((P.rs.getD j 0:Nat):Int)):=by
    rcases HRD.out with h|⟨b,o,h1,h2,h3⟩
    ·omega
    ·exact⟨b,o,h1,h2,h3⟩
   subst hye
   have hmi:(m:Int)<(P.rs.length:Int):=by omega
   obtain⟨v,hv⟩:∃v,v=P.rs.getD m 0:=⟨_,rfl⟩
   have hq:=HQ.out
   have K:xe [bb] w wr:=(HK1.out.mono (by simp)).trans hKr
   have d0:wr.cell? ⟨gr,offr+m,none⟩=some (.int .u64 (v:Nat)):=by rw[K.cell hgl (by simp;omega),hv];exact hgc m hlt
   obtain⟨t,ht,htb,hte⟩:=HF.out m
   rw[<-hv]at hte
   have hvb:=HRV.out m hlt
   rw[<-hv]at hvb
   have HWN:Hid (∀w',xe [] wr w'->Calls Tryz.prog 172 #[ptr x,.int .u64 (v:Nat)] w' fun e w''=>e=.returned (.int .i64 (t:Nat))/\w'=w''):=fun w' hk=>by
    have hb0:bb∉clT x mb (some ⟨gr,offr,none⟩) yl yq:=fun h=>by have:=HC.out.below _ h;omega
    have:=J2 P w' x mb B _ cr yl cl yq cq out i n dn ((HC.out.keep K (fun b hb h=>by obtain rfl:=List.mem_singleton.1 h;exact hb0 hb)).keep hk (by simp)) HPRE.out v hvb
    rwa[<-hte]at this
   have e1:IntKind.u64.wrap (t:Int)=(t:Int):=IntWalk.u64_in _ (by omega)
   have HRB:Hid (∀b∈blkL xr,w1.heap.size≤b):=fun b hb=>by have h1:=(hOr.ge b hb).1;omega
   have HM:=hid (And.intro hm (And.intro hlt (And.intro ht hKr)))
   have HBR:=hid hBr
   have HOR:=hid hOr
   have hm1:m≤1000:=by omega
   clear hm hlt hv hq K hgl hgc ht hte hKr hvb htb hBr hOr
   go_upto_region 5 with fail
   have kk:xe [] wr wr.drew:=(xe.refl _ _).drew
   have kA:xe [] wr ((wr.alloc (.cells #[.int .u64 (t:Nat)] 26)).drew):=((xe.refl _ _).alloc _).drew
   have k2:xe [] wr (wr.drew.alloc (.cells #[.int .u64 (t:Nat)] 26)):=kk.alloc _
   have z0:=HBR.out.cell 2 rfl
   have z1:=(HBR.out.alloc (.cells #[.int .u64 (t:Nat)] 26)).cell 2 rfl
   have HA2:=hid (k2.at HBR.out (by simp))
   have HO2:=hid (HOR.out.keep k2 (by simp))
   have hcU:World.cell? (wr.drew.alloc (.cells #[.int .u64 (t:Nat)] 26)) ⟨wr.heap.size,0,none⟩=some (.int .u64 (t:Nat)):=(At.new wr.drew (.cells #[.int .u64 (t:Nat)] 26)).cell 0 rfl
   have HBX:Hid (bb∉blkL xr):=fun h=>by have:=HRB.out _ h;have:=HQ.out;omega
   have hB2:bb+1≤(wr.drew.alloc (.cells #[.int .u64 (t:Nat)] 26)).heap.size:=Nat.le_trans (by have:=HQ.out;omega) (Nat.le_trans HM.out.2.2.2.size k2.size)
   have HBQ:Hid (bb+1≤w1.heap.size):=by have:=HQ.out;show _≤_;omega
   have HK2:Hid (xe [bb] w1 (wr.drew.alloc (.cells #[.int .u64 (t:Nat)] 26))):=HM.out.2.2.2.trans (k2.mono (by simp))
   clear k2 d0
   refine wp_region_noPanic ?_
   refine wp_region_held_drew (S:=fun _=>True) (by kernel_rfl) ?_ (fun hHeld0=>?_)
   ·(try dsimp only);(first|done|exact True.intro)
   refine' wpAnyH_take (i:=0) (oi:=_) (v:=_) ?hi1 (by kernel_rfl) (by kernel_rfl) (by kernel_rfl) (fun _ _ _ h=>h) (Or.inl ⟨?hw1,?hy1⟩) hHeld0 ?rest1
   case hi1=>(simp only[gA,gC];rfl)
   case hw1=>rfl
   case hy1=>(intro w hSw;(try dsimp only at hSw);go_simp;try (with_reducible rfl))
   (try simp only[Act.put,sA,sB,sC])
   refine' wpAnyH_take (i:=2) (oi:=_) (v:=_) ?hi2 (by kernel_rfl) (by kernel_rfl) (by kernel_rfl) (fun _ _ _ h=>h) (Or.inl ⟨?hw2,?hy2⟩) hHeld0 ?rest2
   case hi2=>(simp only[gA,gB,gC];rfl)
   case hw2=>rfl
   case hy2=>(intro w hSw;(try dsimp only at hSw);go_simp;try (with_reducible rfl))
   (try simp only[Act.put,sA,sB,sC])
   refine' wpAnyH_take (i:=3) (oi:=_) (v:=_) ?hi3 (by kernel_rfl) (by kernel_rfl) (by kernel_rfl) (fun _ _ _ h=>h) (Or.inl ⟨?hw3,?hy3⟩) hHeld0 ?rest3
   case hi3=>(simp only[gA,gB,gC];rfl)
   case hw3=>rfl
   case hy3=>(intro w hSw;(try dsimp only at hSw);go_simp;try (with_reducible rfl))
   (try simp only[Act.put,sA,sB,sC])
   refine wpAnyH_ready (rs:=[1,4]) (by kernel_rfl) (by simp) ?_
   refine' AllReadyH.cons (o:=_) ?ho5 (fun K hK=>?step5) ?more5
   case ho5=>(simp only[gA,gB,gC];rfl)
   case step5=>
    go_simp
    refine hK.out _ _ ?_ (fun hHeld1=>?_)
    ·(try dsimp only);(first|done|exact True.intro)
    clear hK K hHeld0
    (try simp only[Act.put,sA,sB,sC])
    refine wpAnyH_ready (rs:=[4]) (by kernel_rfl) (by simp) ?_
    refine' AllReadyH.cons (o:=_) ?ho7 (fun K hK=>?step7) ?more7
    case ho7=>(simp only[gA,gB,gC];rfl)
    case step7=>
     go_simp
     (go_at_call 172;first|(refine(HWN.out _ kk).mono ?_;rintro e w2 ⟨rfl,rfl⟩)|(refine(HWN.out _ kA).mono ?_;rintro e w2 ⟨rfl,rfl⟩))
     (try go_wp2_with fail)
     refine hK.out _ _ ?_ (fun hHeld2=>?_)
     ·(try dsimp only);(first|done|exact True.intro)
     clear hK K hHeld1
     (try simp only[Act.put,sA,sB,sC])
     refine' wpAnyH_take (i:=5) (oi:=_) (v:=_) ?hi8 (by kernel_rfl) (by kernel_rfl) (by kernel_rfl) (fun _ _ _ h=>h) (Or.inl ⟨?hw8,?hy8⟩) hHeld2 ?rest8
     case hi8=>(simp only[gA,gB,gC];rfl)
     case hw8=>rfl
     case hy8=>(intro w hSw;(try dsimp only at hSw);go_simp;try (with_reducible rfl))
     (try simp only[Act.put,sA,sB,sC])
     refine wpAnyH_ready (rs:=[6]) (by kernel_rfl) (by simp) ?_
     refine' AllReadyH.cons (o:=_) ?ho10 (fun K hK=>?step10) ?more10
     case ho10=>(simp only[gA,gB,gC];rfl)
     case step10=>
      go_simp
      refine hK.out _ _ ?_ (fun hHeld3=>?_)
      ·(try dsimp only);(first|done|exact True.intro)
      clear hK K hHeld2
      (try simp only[Act.put,sA,sB,sC])
      refine wpAnyH_ready (rs:=[7]) (by kernel_rfl) (by simp) ?_
      refine' AllReadyH.cons (o:=_) ?ho12 (fun K hK=>?step12) ?more12
      case ho12=>(simp only[gA,gB,gC];rfl)
      case step12=>
       (refine Xz rfl _ _ rfl (bb+1) xr cpr m _ rfl HO2.out _ _ t rfl hcU hm1 hB2 ?_;intro gg cap2 w3 hO3 hk3 hg3;have HO3:=hid hO3;have HK3:=hid hk3;have hA3:=hk3.at HA2.out HBX.out;have z2:=hA3.cell 2 rfl;have zf:=hA3.free 2;clear hO3 hk3 hg3 hA3)
       refine hK.out _ _ ?_ (fun hHeld4=>?_)
       ·(try dsimp only);(first|done|exact True.intro)
       clear hK K hHeld3
       (try simp only[Act.put,sA,sB,sC])
       refine' wpAnyH_take (i:=8) (oi:=_) (v:=_) ?hi13 (by kernel_rfl) (by kernel_rfl) (by kernel_rfl) (fun _ _ _ h=>h) (Or.inl ⟨?hw13,?hy13⟩) hHeld4 ?rest13
       case hi13=>(simp only[gA,gB,gC];rfl)
       case hw13=>rfl
       case hy13=>(intro w hSw;(try dsimp only at hSw);go_simp;try (with_reducible rfl))
       (try simp only[Act.put,sA,sB,sC])
       refine wpAnyH_ready (rs:=[9]) (by kernel_rfl) (by simp) ?_
       refine' AllReadyH.cons (o:=_) ?ho15 (fun K hK=>?step15) ?more15
       case ho15=>(simp only[gA,gB,gC];rfl)
       case step15=>
        go_simp
        refine hK.out _ _ ?_ (fun hHeld5=>?_)
        ·(try dsimp only);(first|done|exact True.intro)
        clear hK K hHeld4
        (try simp only[Act.put,sA,sB,sC])
        refine wpAnyH_done (by kernel_rfl) ?_ _
        refine NoPanic.normal ?_
        have HEN:=hid (Yi HBQ.out HA2.out HK2.out HO2.out HO3.out HM.out.2.2.1.symm HK3.out HRB.out)
        clear z2 zf
        go_wp2_with fail
        go_roundg (P.rs.length-(m+1))
        case measure=>(have:=HM.out;omega)
        case rel=>exact⟨m+1,by have:=HM.out;omega,by go_num,HEN.out⟩
       exact AllReadyH.nil
      exact AllReadyH.nil
     exact AllReadyH.nil
    exact AllReadyH.nil
   refine' AllReadyH.cons (o:=_) ?ho16 (fun K hK=>?step16) ?more16
   case ho16=>(simp only[gA,gB,gC];rfl)
   case step16=>
    go_simp
    (go_at_call 172;first|(refine(HWN.out _ kk).mono ?_;rintro e w2 ⟨rfl,rfl⟩)|(refine(HWN.out _ kA).mono ?_;rintro e w2 ⟨rfl,rfl⟩))
    (try go_wp2_with fail)
    refine hK.out _ _ ?_ (fun hHeld1=>?_)
    ·(try dsimp only);(first|done|exact True.intro)
    clear hK K hHeld0
    (try simp only[Act.put,sA,sB,sC])
    refine' wpAnyH_take (i:=5) (oi:=_) (v:=_) ?hi17 (by kernel_rfl) (by kernel_rfl) (by kernel_rfl) (fun _ _ _ h=>h) (Or.inl ⟨?hw17,?hy17⟩) hHeld1 ?rest17
    case hi17=>(simp only[gA,gB,gC];rfl)
    case hw17=>rfl
    case hy17=>(intro w hSw;(try dsimp only at hSw);go_simp;try (with_reducible rfl))
    (try simp only[Act.put,sA,sB,sC])
    refine wpAnyH_ready (rs:=[1,6]) (by kernel_rfl) (by simp) ?_
    refine' AllReadyH.cons (o:=_) ?ho19 (fun K hK=>?step19) ?more19
    case ho19=>(simp only[gA,gB,gC];rfl)
    case step19=>
     go_simp
     refine hK.out _ _ ?_ (fun hHeld2=>?_)
     ·(try dsimp only);(first|done|exact True.intro)
     clear hK K hHeld1
     (try simp only[Act.put,sA,sB,sC])
     refine wpAnyH_ready (rs:=[6]) (by kernel_rfl) (by simp) ?_
     refine' AllReadyH.cons (o:=_) ?ho21 (fun K hK=>?step21) ?more21
     case ho21=>(simp only[gA,gB,gC];rfl)
     case step21=>
      go_simp
      refine hK.out _ _ ?_ (fun hHeld3=>?_)
      ·(try dsimp only);(first|done|exact True.intro)
      clear hK K hHeld2
      (try simp only[Act.put,sA,sB,sC])
      refine wpAnyH_ready (rs:=[7]) (by kernel_rfl) (by simp) ?_
      refine' AllReadyH.cons (o:=_) ?ho23 (fun K hK=>?step23) ?more23
      case ho23=>(simp only[gA,gB,gC];rfl)
      case step23=>
       (refine Xz rfl _ _ rfl (bb+1) xr cpr m _ rfl HO2.out _ _ t rfl hcU hm1 hB2 ?_;intro gg cap2 w3 hO3 hk3 hg3;have HO3:=hid hO3;have HK3:=hid hk3;have hA3:=hk3.at HA2.out HBX.out;have z2:=hA3.cell 2 rfl;have zf:=hA3.free 2;clear hO3 hk3 hg3 hA3)
       refine hK.out _ _ ?_ (fun hHeld4=>?_)
       ·(try dsimp only);(first|done|exact True.intro)
       clear hK K hHeld3
       (try simp only[Act.put,sA,sB,sC])
       refine' wpAnyH_take (i:=8) (oi:=_) (v:=_) ?hi24 (by kernel_rfl) (by kernel_rfl) (by kernel_rfl) (fun _ _ _ h=>h) (Or.inl ⟨?hw24,?hy24⟩) hHeld4 ?rest24
       case hi24=>(simp only[gA,gB,gC];rfl)
       case hw24=>rfl
       case hy24=>(intro w hSw;(try dsimp only at hSw);go_simp;try (with_reducible rfl))
       (try simp only[Act.put,sA,sB,sC])
       refine wpAnyH_ready (rs:=[9]) (by kernel_rfl) (by simp) ?_
       refine' AllReadyH.cons (o:=_) ?ho26 (fun K hK=>?step26) ?more26
       case ho26=>(simp only[gA,gB,gC];rfl)
       case step26=>
        go_simp
        refine hK.out _ _ ?_ (fun hHeld5=>?_)
        ·(try dsimp only);(first|done|exact True.intro)
        clear hK K hHeld4
        (try simp only[Act.put,sA,sB,sC])
        refine wpAnyH_done (by kernel_rfl) ?_ _
        refine NoPanic.normal ?_
        have HEN:=hid (Yi HBQ.out HA2.out HK2.out HO2.out HO3.out HM.out.2.2.1.symm HK3.out HRB.out)
        clear z2 zf
        go_wp2_with fail
        go_roundg (P.rs.length-(m+1))
        case measure=>(have:=HM.out;omega)
        case rel=>exact⟨m+1,by have:=HM.out;omega,by go_num,HEN.out⟩
       exact AllReadyH.nil
      exact AllReadyH.nil
     exact AllReadyH.nil
    refine' AllReadyH.cons (o:=_) ?ho27 (fun K hK=>?step27) ?more27
    case ho27=>(simp only[gA,gB,gC];rfl)
    case step27=>
     go_simp
     refine hK.out _ _ ?_ (fun hHeld2=>?_)
     ·(try dsimp only);(first|done|exact True.intro)
     clear hK K hHeld1
     (try simp only[Act.put,sA,sB,sC])
     refine wpAnyH_ready (rs:=[1]) (by kernel_rfl) (by simp) ?_
     refine' AllReadyH.cons (o:=_) ?ho29 (fun K hK=>?step29) ?more29
     case ho29=>(simp only[gA,gB,gC];rfl)
     case step29=>
      go_simp
      refine hK.out _ _ ?_ (fun hHeld3=>?_)
      ·(try dsimp only);(first|done|exact True.intro)
      clear hK K hHeld2
      (try simp only[Act.put,sA,sB,sC])
      refine wpAnyH_ready (rs:=[7]) (by kernel_rfl) (by simp) ?_
      refine' AllReadyH.cons (o:=_) ?ho31 (fun K hK=>?step31) ?more31
      case ho31=>(simp only[gA,gB,gC];rfl)
      case step31=>
       (refine Xz rfl _ _ rfl (bb+1) xr cpr m _ rfl HO2.out _ _ t rfl hcU hm1 hB2 ?_;intro gg cap2 w3 hO3 hk3 hg3;have HO3:=hid hO3;have HK3:=hid hk3;have hA3:=hk3.at HA2.out HBX.out;have z2:=hA3.cell 2 rfl;have zf:=hA3.free 2;clear hO3 hk3 hg3 hA3)
       refine hK.out _ _ ?_ (fun hHeld4=>?_)
       ·(try dsimp only);(first|done|exact True.intro)
       clear hK K hHeld3
       (try simp only[Act.put,sA,sB,sC])
       refine' wpAnyH_take (i:=8) (oi:=_) (v:=_) ?hi32 (by kernel_rfl) (by kernel_rfl) (by kernel_rfl) (fun _ _ _ h=>h) (Or.inl ⟨?hw32,?hy32⟩) hHeld4 ?rest32
       case hi32=>(simp only[gA,gB,gC];rfl)
       case hw32=>rfl
       case hy32=>(intro w hSw;(try dsimp only at hSw);go_simp;try (with_reducible rfl))
       (try simp only[Act.put,sA,sB,sC])
       refine wpAnyH_ready (rs:=[9]) (by kernel_rfl) (by simp) ?_
       refine' AllReadyH.cons (o:=_) ?ho34 (fun K hK=>?step34) ?more34
       case ho34=>(simp only[gA,gB,gC];rfl)
       case step34=>
        go_simp
        refine hK.out _ _ ?_ (fun hHeld5=>?_)
        ·(try dsimp only);(first|done|exact True.intro)
        clear hK K hHeld4
        (try simp only[Act.put,sA,sB,sC])
        refine wpAnyH_done (by kernel_rfl) ?_ _
        refine NoPanic.normal ?_
        have HEN:=hid (Yi HBQ.out HA2.out HK2.out HO2.out HO3.out HM.out.2.2.1.symm HK3.out HRB.out)
        clear z2 zf
        go_wp2_with fail
        go_roundg (P.rs.length-(m+1))
        case measure=>(have:=HM.out;omega)
        case rel=>exact⟨m+1,by have:=HM.out;omega,by go_num,HEN.out⟩
       exact AllReadyH.nil
      exact AllReadyH.nil
     exact AllReadyH.nil
    exact AllReadyH.nil
   exact AllReadyH.nil
  ·have hme:m=P.rs.length:=by omega
   have hme2:P.rs.length≤m:=by omega
   subst hme
   have hBR:=hBr
   have hq:=HQ.out
   have hRR:=hKr.at HR1.out (by simp;omega)
   have b0:=hBr.cell 0 rfl
   have b1:=hBr.cell 1 rfl
   have b2:=hBr.cell 2 rfl
   have r0:=hRR.cell 0 rfl
   have r1:=hRR.cell 1 rfl
   have r2:=hRR.cell 2 rfl
   have f0:=hRR.free 0
   have f1:=hRR.free 1
   have f2:=hRR.free 2
   have HOR:=hid hOr
   have HKR:=hid hKr
   have HRR:=hid hRR
   clear hm hlt hq hBr hOr hKr hRR hBR
   go_wp2_with fail
   have hF:=((HRR.out.set 0 (.int .i64 ((1-P.k:Nat):Int))).set 1 (.int .i64 (U:Nat))).set 2 (.slice xr P.rs.length cpr)
   have z0:=hF.cell 0 rfl
   have z1:=hF.cell 1 rfl
   have z2:=hF.cell 2 rfl
   have kF:xe [rb] wr (((wr.setCell ⟨rb,0,none⟩ (.int .i64 ((1-P.k:Nat):Int))).setCell ⟨rb,1,none⟩ (.int .i64 (U:Nat))).setCell ⟨rb,2,none⟩ (.slice xr P.rs.length cpr)):=(((xe.refl [rb] wr).set (p:=⟨rb,0,none⟩) (.inl (by simp)) _).set (p:=⟨rb,1,none⟩) (.inl (by simp)) _).set (p:=⟨rb,2,none⟩) (.inl (by simp)) _
   refine bodyPost_ret (v:=bkV ((1-P.k:Nat):Int) (U:Nat) (.slice xr P.rs.length cpr)) (by simp[results,Tryz.results213,go_sem,z0,z1,z2]) rfl ?_
   have hq:=HQ.out
   refine⟨xr,cpr,rfl,(HOR.out.low (by omega)).keep kF (fun b hb h=>?_),((HK1.out.new HKR.out (fun b hb=>.inr (by obtain rfl:=List.mem_singleton.1 hb;omega))).new kF (fun b hb=>.inr (by obtain rfl:=List.mem_singleton.1 hb;omega)))⟩
   have h1:=(HOR.out.ge b hb).1
   obtain rfl:=List.mem_singleton.1 h
   omega
theorem Vv (w:World) (x:Option Addr) (n c:Nat) (f:Nat->Int) (h:Reads w x n f) (hn:n≤17592186044416):
  Calls Tryz.prog 52 #[.slice x n c] w fun e w'=>∃x' c',e=.returned (.slice x' n c')/\Reads w' x' n f/\(∀b∈blkL x',w.heap.size≤b/\b<w'.heap.size)/\n≤c'/\xe [] w w':=by
 cases x with
 |some x=>
  refine(Wo w x n c f h hn).mono ?_
  rintro e w' ⟨v,rfl,hv,hk⟩
  obtain⟨g,cap,rfl,h1,h2,h4,h3⟩:=hv.reads
  exact⟨_,cap,rfl,h3,by simp[blkL];exact⟨h1,h2⟩,h4,hk⟩
 |none=>
  have hn0:n=0:=by
   rcases h with h|⟨b,off,h,_⟩
   ·exact h
   ·exact absurd h (by simp)
  subst hn0
  have hnil:=zo none 0 c
  clear h hn
  go_enter Tryz.func52,Tryz.ntmps52
  go_wp2_with fail
  go_ret
  exact⟨none,0,rfl,.inl rfl,by simp[blkL],Nat.le_refl _,xe.refl _ _⟩
def NewP (P:CP) (w:World) (e:Ending) (w':World):Prop:=
 ∃x mb B yr cr yl cl,e=.returned (ptr x)/\ClB P w' x mb B yr cr yl cl none 0 [] 0 0 false/\(∀b∈clT x mb yr yl none,w.heap.size≤b)/\xe [] w w'
theorem xdb {P:CP} {w w3 w8:World} {mb:Nat} {yr:Option Addr} {cr:Nat} {yl:Option Addr} {cl:Nat} (K03:xe [] w w3) (k8:xe [] w3 w8) (hm:IMap w8 mb (fun _=>none)) (hmb:w3.heap.size≤mb)
  (hr:Reads w3 yr P.rs.length (fun j=>((P.rs.getD j 0:Nat):Int))) (hrb:∀b∈blkL yr,w.heap.size≤b/\b<w3.heap.size)
  (hl:Reads w8 yl P.ws.length (fun j=>((P.ws.getD j 0:Nat):Int))) (hlb:∀b∈blkL yl,w3.heap.size≤b/\b<w8.heap.size/\b≠mb) (hlc:P.ws.length≤cl):
  NewP P w (.returned (ptr w8.heap.size)) (w8.alloc (colO P 0 yr cr yl P.ws.length cl mb none 0 0 false)):=by
 have hk:=(xe.refl [] w8).alloc (colO P 0 yr cr yl P.ws.length cl mb none 0 0 false)
 have hmlt:=hm.lt
 have h03:=K03.size
 have h38:=k8.size
 refine⟨w8.heap.size,mb,w8.heap.size+1,yr,cr,yl,cl,rfl,⟨At.new w8 _,(hm.keep hk (by simp)).congr fun z=>by simp[Zc],(yc hr k8 (by simp)).keep hk (by simp),?_,hlc,xb7 _ _,by simp,by omega,by omega,fun b hb=>by have:=hrb b hb;omega,fun b hb=>by have:=hlb b hb;omega,by omega,fun b hb=>by have:=hrb b hb;omega,fun b hb=>⟨by have:=hlb b hb;omega,(hlb b hb).2.2⟩⟩,fun b hb=>?_,(K03.trans k8).trans hk⟩
 ·have h:=hl.keep hk (by simp)
  have e:(fun j=>((P.ws.getD (0+j) 0:Nat):Int))=fun j=>((P.ws.getD j 0:Nat):Int):=by funext j;rw[Nat.zero_add]
  rw[e]
  exact h
 ·rcases xk.1 hb with h|h|h|h|h
  ·omega
  ·omega
  ·exact(hrb b h).1
  ·have:=hlb b h;omega
  ·simp[blkL]at h
theorem xed (P:CP) (hP:P.Ok) (w:World) (yr:Option Addr) (cr:Nat) (hr:Reads w yr P.rs.length (fun j=>((P.rs.getD j 0:Nat):Int))) (yw:Option Addr) (cw:Nat) (hw:Reads w yw P.ws.length (fun j=>((P.ws.getD j 0:Nat):Int))):
  Calls Tryz.prog 93 #[ptr P.a.d,cfgV P.c,bkV P.k P.us (.slice yr P.rs.length cr),.slice yw P.ws.length cw] w (NewP P w):=by
 have hk1:=hP.k
 have hfew:=hP.few
 have hrl:P.rs.length≤16:=by rw[hP.root];exact hP.c.2.1
 have e1:IntKind.i64.wrap (1-(P.k:Int))=((1-P.k:Nat):Int):=by
  rw[show(1:Int)-(P.k:Int)=((1-P.k:Nat):Int) by omega]
  exact IntWalk.i64_in _ (by omega)
 have HR:=hid hr
 have HW:=hid hw
 have HC1:=hid (fun(w':World) (hk:xe [] w w')=>Vv w' yr P.rs.length cr _ (hr.keep hk (by simp)) (by omega))
 have HN:=hid (And.intro hfew hrl)
 clear hP hr hw hk1 hfew hrl
 have hmk:=fun w:World=>run_makeMap (P:=Tryz.prog) (w:=w) 199
 go_enter Tryz.func93,Tryz.ntmps93
 go_upto_region 2 with fail
 have hC0:=((At.new w (cfgO P.c)).alloc (bkO P.k P.us (.slice yr P.rs.length cr))).alloc (bkO ((1-P.k:Nat):Int) 0 (.slice none 0 0))
 have hB0:=(At.new (w.alloc (cfgO P.c)) (bkO P.k P.us (.slice yr P.rs.length cr))).alloc (bkO ((1-P.k:Nat):Int) 0 (.slice none 0 0))
 have hT0:=At.new ((w.alloc (cfgO P.c)).alloc (bkO P.k P.us (.slice yr P.rs.length cr))) (bkO ((1-P.k:Nat):Int) 0 (.slice none 0 0))
 have k0:=(((xe.refl [] w).alloc (cfgO P.c)).alloc (bkO P.k P.us (.slice yr P.rs.length cr))).alloc (bkO ((1-P.k:Nat):Int) 0 (.slice none 0 0))
 simp only[World.size_alloc]at hB0 hT0
 obtain⟨cb,hcb⟩:∃q,q=w.heap.size:=⟨_,rfl⟩
 obtain⟨bb,hbb⟩:∃q,q=w.heap.size+1:=⟨_,rfl⟩
 obtain⟨tb,htb⟩:∃q,q=w.heap.size+1+1:=⟨_,rfl⟩
 obtain⟨w1,hw1⟩:∃w1,w1=((w.alloc (cfgO P.c)).alloc (bkO P.k P.us (.slice yr P.rs.length cr))).alloc (bkO ((1-P.k:Nat):Int) 0 (.slice none 0 0)):=⟨_,rfl⟩
 have hz1:w1.heap.size=w.heap.size+3:=by rw[hw1];simp
 rw[<-hw1]at hC0 hB0 hT0 k0
 first|rw[<-hw1]|skip
 rw[<-htb,<-hbb,<-hcb]
 rw[<-hcb]at hC0
 rw[<-hbb]at hB0
 rw[<-htb]at hT0
 have HQ:Hid (cb=w.heap.size/\bb=cb+1/\tb=cb+2/\w1.heap.size=cb+3):=⟨hcb,by omega,by omega,by omega⟩
 have b2:=hB0.cell 2 rfl
 have HB1:=hid hB0
 have HT1:=hid hT0
 have HC5:=hid hC0
 have HK1:=hid k0
 clear hw1 hcb hbb htb hz1 hC0 hB0 hT0 k0 e1
 go_wp2_with fail
 refine(HC1.out _ HK1.out).mono ?_
 rintro e w2 ⟨y2,c2,rfl,hr2,hb2,hc2,hk2⟩
 have hB2:=hk2.at HB1.out (by simp)
 have z2:=hB2.cell 2 rfl
 have f2:=hB2.free 2
 have HB2:=hid hB2
 have HR2:=hid (And.intro hr2 (And.intro hb2 hk2))
 clear b2 hB2 hr2 hb2 hc2 hk2
 go_upto_region 3 with fail
 have hB3:=HB2.out.set 2 (.slice y2 P.rs.length c2)
 have k3:=(xe.refl [bb] w2).set (p:=⟨bb,2,none⟩) (.inl (by simp)) (.slice y2 P.rs.length c2)
 obtain⟨w3,hw3⟩:∃w3,w3=w2.setCell ⟨bb,2,none⟩ (.slice y2 P.rs.length c2):=⟨_,rfl⟩
 rw[<-hw3]at hB3 k3
 first|rw[<-hw3]|skip
 clear hw3 z2 f2
 have hq:=HQ.out
 have HB3:=hid hB3
 have HC3:=hid (k3.at (HR2.out.2.2.at HC5.out (by simp)) (by simp;omega))
 have HT3:=hid (k3.at (HR2.out.2.2.at HT1.out (by simp)) (by simp;omega))
 have HK3:Hid (xe [] w w3):=(HK1.out.trans HR2.out.2.2).new k3 (fun b hb=>.inr (by obtain rfl:=List.mem_singleton.1 hb;omega))
 have HR3:Hid (Reads w3 y2 P.rs.length (fun j=>((P.rs.getD j 0:Nat):Int))/\∀b∈blkL y2,w.heap.size≤b/\b<w3.heap.size):=by
  have h1:=HK1.out.size
  have h2:=k3.size
  refine⟨yc HR2.out.1 k3 fun b hb h=>?_,fun b hb=>?_⟩
  ·have:=(HR2.out.2.1 b hb).1
   obtain rfl:=List.mem_singleton.1 h
   omega
  ·have:=HR2.out.2.1 b hb
   omega
 clear hB3 k3 hq
 have HC2:=hid (fun(w':World) (hk:xe [] w3 w')=>Vv w' yw P.ws.length cw _ ((HW.out.keep HK3.out (by simp)).keep hk (by simp)) (by have:=HN.out;omega))
 have kk:xe [] w3 w3.drew:=(xe.refl _ _).drew
 have kM:xe [] w3 (w3.drew.alloc (.map #[] 0)):=kk.alloc _
 have HF:Hid (∀w',xe [] w3 w'->(w'.cell? ⟨cb,0,none⟩=some (.int .i64 P.c.log)/\w'.cell? ⟨cb,1,none⟩=some (.int .i64 P.c.roots)/\w'.cell? ⟨cb,2,none⟩=some (.int .i64 P.c.space)/\w'.cell? ⟨bb,0,none⟩=some (.int .i64 (P.k:Nat))/\w'.cell? ⟨bb,1,none⟩=some (.int .i64 (P.us:Nat))/\w'.cell? ⟨bb,2,none⟩=some (.slice y2 P.rs.length c2)/\w'.cell? ⟨tb,0,none⟩=some (.int .i64 ((1-P.k:Nat):Int))/\w'.cell? ⟨tb,1,none⟩=some (.int .i64 0)/\w'.cell? ⟨tb,2,none⟩=some (.slice none 0 0))):=fun w' hk=>by
  have g1:=hk.at HC3.out (by simp)
  have g2:=hk.at HB3.out (by simp)
  have g3:=hk.at HT3.out (by simp)
  exact⟨g1.cell 0 rfl,g1.cell 1 rfl,g1.cell 2 rfl,g2.cell 0 rfl,g2.cell 1 rfl,g2.cell 2 rfl,g3.cell 0 rfl,g3.cell 1 rfl,g3.cell 2 rfl⟩
 refine wp_region_noPanic ?_
 refine wp_region_held_drew (S:=fun w'=>w'.cell? ⟨cb,0,none⟩=some (.int .i64 P.c.log)/\w'.cell? ⟨cb,1,none⟩=some (.int .i64 P.c.roots)/\w'.cell? ⟨cb,2,none⟩=some (.int .i64 P.c.space)/\w'.cell? ⟨bb,0,none⟩=some (.int .i64 (P.k:Nat))/\w'.cell? ⟨bb,1,none⟩=some (.int .i64 (P.us:Nat))/\w'.cell? ⟨bb,2,none⟩=some (.slice y2 P.rs.length c2)/\w'.cell? ⟨tb,0,none⟩=some (.int .i64 ((1-P.k:Nat):Int))/\w'.cell? ⟨tb,1,none⟩=some (.int .i64 0)/\w'.cell? ⟨tb,2,none⟩=some (.slice none 0 0)) (by kernel_rfl) ?_ (fun hHeld0=>?_)
 ·(try dsimp only);(first|exact HF.out _ kk|exact HF.out _ kM|exact HF.out _ kS|exact HF.out _ k8|exact HF.out _ (k8.alloc _))
 refine' wpAnyH_take (i:=0) (oi:=_) (v:=_) ?hi35 (by kernel_rfl) (by kernel_rfl) (by kernel_rfl) (fun _ _ _ h=>h) (Or.inl ⟨?hw35,?hy35⟩) hHeld0 ?rest35
 case hi35=>(simp only[gA,gC];rfl)
 case hw35=>rfl
 case hy35=>(intro w hSw;(try dsimp only at hSw);go_simp;try (with_reducible rfl))
 (try simp only[Act.put,sA,sB,sC])
 refine' wpAnyH_take (i:=1) (oi:=_) (v:=_) ?hi36 (by kernel_rfl) (by kernel_rfl) (by kernel_rfl) (fun _ _ _ h=>h) (Or.inl ⟨?hw36,?hy36⟩) hHeld0 ?rest36
 case hi36=>(simp only[gA,gB,gC];rfl)
 case hw36=>rfl
 case hy36=>(intro w hSw;(try dsimp only at hSw);go_simp;try (with_reducible rfl))
 (try simp only[Act.put,sA,sB,sC])
 refine' wpAnyH_take (i:=2) (oi:=_) (v:=_) ?hi37 (by kernel_rfl) (by kernel_rfl) (by kernel_rfl) (fun _ _ _ h=>h) (Or.inl ⟨?hw37,?hy37⟩) hHeld0 ?rest37
 case hi37=>(simp only[gA,gB,gC];rfl)
 case hw37=>rfl
 case hy37=>(intro w hSw;(try dsimp only at hSw);go_simp;try (with_reducible rfl))
 (try simp only[Act.put,sA,sB,sC])
 refine' wpAnyH_take (i:=3) (oi:=_) (v:=_) ?hi38 (by kernel_rfl) (by kernel_rfl) (by kernel_rfl) (fun _ _ _ h=>h) (Or.inl ⟨?hw38,?hy38⟩) hHeld0 ?rest38
 case hi38=>(simp only[gA,gB,gC];rfl)
 case hw38=>rfl
 case hy38=>(intro w hSw;(try dsimp only at hSw);go_simp;try (with_reducible rfl))
 (try simp only[Act.put,sA,sB,sC])
 refine' wpAnyH_take (i:=4) (oi:=_) (v:=_) ?hi39 (by kernel_rfl) (by kernel_rfl) (by kernel_rfl) (fun _ _ _ h=>h) (Or.inl ⟨?hw39,?hy39⟩) hHeld0 ?rest39
 case hi39=>(simp only[gA,gB,gC];rfl)
 case hw39=>rfl
 case hy39=>(intro w hSw;(try dsimp only at hSw);go_simp;try (with_reducible rfl))
 (try simp only[Act.put,sA,sB,sC])
 refine wpAnyH_ready (rs:=[5,6]) (by kernel_rfl) (by simp) ?_
 refine' AllReadyH.cons (o:=_) ?ho41 (fun K hK=>?step41) ?more41
 case ho41=>(simp only[gA,gB,gC];rfl)
 case step41=>
  go_simp
  (go_at_call 52;first|(refine(HC2.out _ kk).mono ?_;rintro e w5 ⟨yl,cl,rfl,hl5,hlb5,hlc5,hk5⟩;have HM8:=hid (IMap.made w5);have k8:xe [] w3 (w5.alloc (.map #[] 0)):=(kk.trans hk5).alloc _;have hl8:=hl5.keep ((xe.refl [] w5).alloc (.map #[] 0)) (by simp);have kS:xe [] w3 w5:=kk.trans hk5;have hmb:w3.heap.size≤w5.heap.size:=kS.size;have hlb8:∀b∈blkL yl,w3.heap.size≤b∧b<(w5.alloc (.map #[] 0)).heap.size∧b≠w5.heap.size:=(fun b hb=>(by have h1:=hlb5 b hb;have h2:=kk.size;have h3:w3.drew.heap.size=w3.heap.size:=rfl;simp only[World.size_alloc];omega)))|(refine(HC2.out _ kM).mono ?_;rintro e w5 ⟨yl,cl,rfl,hl5,hlb5,hlc5,hk5⟩;have HM8:=hid ((IMap.made w3.drew).keep hk5 (by simp));have k8:xe [] w3 w5:=kM.trans hk5;have hl8:=hl5;have kS:xe [] w3 w5:=kM.trans hk5;have hmb:w3.heap.size≤w3.drew.heap.size:=Nat.le_refl _;have hlb8:∀b∈blkL yl,w3.heap.size≤b∧b<w5.heap.size∧b≠w3.drew.heap.size:=(fun b hb=>(by have h1:=hlb5 b hb;have h3:w3.drew.heap.size=w3.heap.size:=rfl;simp only[World.size_alloc]at h1;omega))))
  (try go_wp2_with fail)
  refine hK.out _ _ ?_ (fun hHeld1=>?_)
  ·(try dsimp only);(first|exact HF.out _ kk|exact HF.out _ kM|exact HF.out _ kS|exact HF.out _ k8|exact HF.out _ (k8.alloc _))
  clear hK K hHeld0
  (try simp only[Act.put,sA,sB,sC])
  refine wpAnyH_ready (rs:=[6]) (by kernel_rfl) (by simp) ?_
  refine' AllReadyH.cons (o:=_) ?ho43 (fun K hK=>?step43) ?more43
  case ho43=>(simp only[gA,gB,gC];rfl)
  case step43=>
   go_simp
   refine hK.out _ _ ?_ (fun hHeld2=>?_)
   ·(try dsimp only);(first|exact HF.out _ kk|exact HF.out _ kM|exact HF.out _ kS|exact HF.out _ k8|exact HF.out _ (k8.alloc _))
   clear hK K hHeld1
   (try simp only[Act.put,sA,sB,sC])
   refine' wpAnyH_take (i:=7) (oi:=_) (v:=_) ?hi44 (by kernel_rfl) (by kernel_rfl) (by kernel_rfl) (fun _ _ _ h=>h) (Or.inl ⟨?hw44,?hy44⟩) hHeld2 ?rest44
   case hi44=>(simp only[gA,gB,gC];rfl)
   case hw44=>rfl
   case hy44=>(intro w hSw;(try dsimp only at hSw);go_simp;try (with_reducible rfl))
   (try simp only[Act.put,sA,sB,sC])
   refine wpAnyH_ready (rs:=[8]) (by kernel_rfl) (by simp) ?_
   refine' AllReadyH.cons (o:=_) ?ho46 (fun K hK=>?step46) ?more46
   case ho46=>(simp only[gA,gB,gC];rfl)
   case step46=>
    go_simp
    refine hK.out _ _ ?_ (fun hHeld3=>?_)
    ·(try dsimp only);(first|exact HF.out _ kk|exact HF.out _ kM|exact HF.out _ kS|exact HF.out _ k8|exact HF.out _ (k8.alloc _))
    clear hK K hHeld2
    (try simp only[Act.put,sA,sB,sC])
    refine' wpAnyH_take (i:=9) (oi:=_) (v:=_) ?hi47 (by kernel_rfl) (by kernel_rfl) (by kernel_rfl) (fun _ _ _ h=>h) (Or.inl ⟨?hw47,?hy47⟩) hHeld3 ?rest47
    case hi47=>(simp only[gA,gB,gC];rfl)
    case hw47=>rfl
    case hy47=>(intro w hSw;(try dsimp only at hSw);go_simp;try (with_reducible rfl))
    (try simp only[Act.put,sA,sB,sC])
    refine wpAnyH_done (by kernel_rfl) ?_ _
    refine NoPanic.normal ?_
    have HEN:=hid (xdb (cr:=c2) HK3.out k8 HM8.out hmb HR3.out.1 HR3.out.2 hl8 hlb8 hlc5)
    clear hl5 hlb5 hlc5 hk5 k8 hl8 kS hmb hlb8
    go_wp2_with fail
    go_ret
    first|exact HEN.out|(have h:=HEN.out;rw[World.size_alloc]at h;exact h)
   exact AllReadyH.nil
  exact AllReadyH.nil
 refine' AllReadyH.cons (o:=_) ?ho48 (fun K hK=>?step48) ?more48
 case ho48=>(simp only[gA,gB,gC];rfl)
 case step48=>
  go_simp
  refine hK.out _ _ ?_ (fun hHeld1=>?_)
  ·(try dsimp only);(first|exact HF.out _ kk|exact HF.out _ kM|exact HF.out _ kS|exact HF.out _ k8|exact HF.out _ (k8.alloc _))
  clear hK K hHeld0
  (try simp only[Act.put,sA,sB,sC])
  refine wpAnyH_ready (rs:=[5]) (by kernel_rfl) (by simp) ?_
  refine' AllReadyH.cons (o:=_) ?ho50 (fun K hK=>?step50) ?more50
  case ho50=>(simp only[gA,gB,gC];rfl)
  case step50=>
   go_simp
   (go_at_call 52;first|(refine(HC2.out _ kk).mono ?_;rintro e w5 ⟨yl,cl,rfl,hl5,hlb5,hlc5,hk5⟩;have HM8:=hid (IMap.made w5);have k8:xe [] w3 (w5.alloc (.map #[] 0)):=(kk.trans hk5).alloc _;have hl8:=hl5.keep ((xe.refl [] w5).alloc (.map #[] 0)) (by simp);have kS:xe [] w3 w5:=kk.trans hk5;have hmb:w3.heap.size≤w5.heap.size:=kS.size;have hlb8:∀b∈blkL yl,w3.heap.size≤b∧b<(w5.alloc (.map #[] 0)).heap.size∧b≠w5.heap.size:=(fun b hb=>(by have h1:=hlb5 b hb;have h2:=kk.size;have h3:w3.drew.heap.size=w3.heap.size:=rfl;simp only[World.size_alloc];omega)))|(refine(HC2.out _ kM).mono ?_;rintro e w5 ⟨yl,cl,rfl,hl5,hlb5,hlc5,hk5⟩;have HM8:=hid ((IMap.made w3.drew).keep hk5 (by simp));have k8:xe [] w3 w5:=kM.trans hk5;have hl8:=hl5;have kS:xe [] w3 w5:=kM.trans hk5;have hmb:w3.heap.size≤w3.drew.heap.size:=Nat.le_refl _;have hlb8:∀b∈blkL yl,w3.heap.size≤b∧b<w5.heap.size∧b≠w3.drew.heap.size:=(fun b hb=>(by have h1:=hlb5 b hb;have h3:w3.drew.heap.size=w3.heap.size:=rfl;simp only[World.size_alloc]at h1;omega))))
   (try go_wp2_with fail)
   refine hK.out _ _ ?_ (fun hHeld2=>?_)
   ·(try dsimp only);(first|exact HF.out _ kk|exact HF.out _ kM|exact HF.out _ kS|exact HF.out _ k8|exact HF.out _ (k8.alloc _))
   clear hK K hHeld1
   (try simp only[Act.put,sA,sB,sC])
   refine' wpAnyH_take (i:=7) (oi:=_) (v:=_) ?hi51 (by kernel_rfl) (by kernel_rfl) (by kernel_rfl) (fun _ _ _ h=>h) (Or.inl ⟨?hw51,?hy51⟩) hHeld2 ?rest51
   case hi51=>(simp only[gA,gB,gC];rfl)
   case hw51=>rfl
   case hy51=>(intro w hSw;(try dsimp only at hSw);go_simp;try (with_reducible rfl))
   (try simp only[Act.put,sA,sB,sC])
   refine wpAnyH_ready (rs:=[8]) (by kernel_rfl) (by simp) ?_
   refine' AllReadyH.cons (o:=_) ?ho53 (fun K hK=>?step53) ?more53
   case ho53=>(simp only[gA,gB,gC];rfl)
   case step53=>
    go_simp
    refine hK.out _ _ ?_ (fun hHeld3=>?_)
    ·(try dsimp only);(first|exact HF.out _ kk|exact HF.out _ kM|exact HF.out _ kS|exact HF.out _ k8|exact HF.out _ (k8.alloc _))
    clear hK K hHeld2
    (try simp only[Act.put,sA,sB,sC])
    refine' wpAnyH_take (i:=9) (oi:=_) (v:=_) ?hi54 (by kernel_rfl) (by kernel_rfl) (by kernel_rfl) (fun _ _ _ h=>h) (Or.inl ⟨?hw54,?hy54⟩) hHeld3 ?rest54
    case hi54=>(simp only[gA,gB,gC];rfl)
    case hw54=>rfl
    case hy54=>(intro w hSw;(try dsimp only at hSw);go_simp;try (with_reducible rfl))
    (try simp only[Act.put,sA,sB,sC])
    refine wpAnyH_done (by kernel_rfl) ?_ _
    refine NoPanic.normal ?_
    have HEN:=hid (xdb (cr:=c2) HK3.out k8 HM8.out hmb HR3.out.1 HR3.out.2 hl8 hlb8 hlc5)
    clear hl5 hlb5 hlc5 hk5 k8 hl8 kS hmb hlb8
    go_wp2_with fail
    go_ret
    first|exact HEN.out|(have h:=HEN.out;rw[World.size_alloc]at h;exact h)
   exact AllReadyH.nil
  exact AllReadyH.nil
 exact AllReadyH.nil
end Go.Proofs.YtcdhklgahepcaaaGreat
