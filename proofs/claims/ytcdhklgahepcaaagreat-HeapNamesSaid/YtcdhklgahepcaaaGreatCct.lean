import Derived.Test.YtcdhklgahepcaaaGreatApp
import Derived.Lib.AppendZeros
set_option maxHeartbeats 4000000
set_option maxRecDepth 100000
namespace Go.Proofs.YtcdhklgahepcaaaGreat
open Go.RowKit Go.OpenShut
theorem xbt {ops:Array Oper} {rest:List Oper} {o:Oper} {a:Act} {w w':World} {v:Value} {Q:Exit->Act->World->Prop} (hgd:o.guard=none) (s x:Operand) (ty:TypeId) (hty:o.type=ty)
  (ho:o.op=.call { callee:=.builtin .append,args:=#[s,x],argTypes:=#[60,3] })
  (sv xv:Value) (hs:a.eval s=sv) (hx:a.eval x=xv) (hrun:(Builtin.append_ #[60,3] ty #[sv,xv]).run Tryz.prog w=.ok v w')
  (h:wpList Tryz.prog ops Q rest (a.put o.dst v) w'):
  wpList Tryz.prog ops Q (o::rest) a w:=by
 refine wpList_plain hgd fun K' hK'=>?_
 unfold Oper.wp
 subst hty
 simp[execOp,ho,resolve,invoke,builtin,hs,hx,hrun,Result.andThen]
 exact hK' _ _ h
theorem xa2 (w:World) (n:Nat) (h1:1≤n) (h2:n≤100000) (f:Nat->Int):
  Calls Tryz.prog 204 #[.slice none 0 0,.int .i64 n] w fun e w'=>∃g cap,e=.returned (.slice (some ⟨g,0,none⟩) 0 cap)/\OwnU w' w.heap.size (some ⟨g,0,none⟩) cap 0 f/\xe [] w w':=by
 have hi:∃i,Tryz.prog.info? 26=some i/\(i.zero,i.size,i.bytes)=(some (.int .u64 0),1,8):=by
  have h:(Tryz.prog.info? 26).map (fun i=>(i.zero,i.size,i.bytes))=some (some (.int .u64 0),1,8):=by kernel_rfl
  exact Option.map_eq_some_iff.1 h
 obtain⟨i,hi1,hi2⟩:=hi
 simp only[Prod.mk.injEq]at hi2
 obtain⟨hz,hsz,hby⟩:=hi2
 have hap:=Lib.run_append_nil_zeros (P:=Tryz.prog) w 60 3 60 26 i (.int .u64 0) .i64 .i64 Tryz.underlying60 Tryz.underlying3 hi1 hz n (by omega) (by omega) (by omega) (by rw[hby];omega)
 have hcg:=grownCap_ge w n 0 26
 have hcm:=grownCap_le_maxLen w n 0 26 (by unfold maxLen;omega)
 obtain⟨cap,hcap⟩:∃cap,cap=grownCap w n 0 26:=⟨_,rfl⟩
 rw[<-hcap]at hap hcg hcm
 obtain⟨cs,hcs⟩:∃cs,cs=Builtin.zeroCells (Value.int .u64 0).cells n++Builtin.zeroCells (Value.int .u64 0).cells (cap-n):=⟨_,rfl⟩
 have hcz:cs.size=cap*1:=by
  rw[hcs,Array.size_append,size_zeroCells,size_zeroCells]
  show n*1+(cap-n)*1=cap*1
  omega
 rw[<-hcs]at hap
 obtain⟨w2,hw2⟩:∃w2,w2=w.drew.alloc (.cells cs 26):=⟨_,rfl⟩
 rw[<-hw2]at hap
 have HO:Hid (OwnU w2 w.heap.size (some ⟨w.heap.size,0,none⟩) cap 0 f/\xe [] w w2):=by
  rw[hw2]
  exact⟨⟨by simp,.inr ⟨_,cap,cs,rfl,Nat.le_refl _,At.new w.drew (.cells cs 26),by omega,hcm,hcz,by simp⟩⟩,(xe.refl [] w).drew.alloc _⟩
 have hnn:(n:Int)≤100000:=by omega
 have hn1:(1:Int)≤(n:Int):=by omega
 have hnil:=zo none 0 0
 have hcmi:(cap:Int)≤9223372036854775807:=by unfold maxLen at hcm;omega
 have HAP:=hid hap
 clear hap h1 h2 hi1 hz hsz hby hcs hcap hw2 hcg hcm hcz
 go_enter Tryz.func204,Tryz.ntmps204
 go_wp2_with (at_builtin;refine xbt rfl _ _ 60 rfl rfl (.slice none 0 0) (.int .i64 (n:Nat)) rfl rfl HAP.out ?_)
 go_ret
 exact⟨_,_,rfl,HO.out⟩
theorem Y2 (w:World) (b:Nat) (x y:Option Addr) (n m cx cy B B2:Nat) (f g:Nat->Int) (hb:At w b (.cells #[.slice x n cx,.slice y m cy] 60)) (hx:OwnU w B x cx n f) (hy:OwnU w B2 y cy m g) (hn:1≤n) (hnm:n+m≤1000):
  Calls Tryz.prog 152 #[.slice (some ⟨b,0,none⟩) 2 2] w fun e w'=>∃x' c',e=.returned (.slice x' (n+m) c')/\OwnU w' w.heap.size x' c' (n+m) (fun i=>if i<n then f i else g (i-n))/\xe [] w w':=by
 have HB:=hid hb
 have HX:=hid hx
 have HY:=hid hy
 have hni:(n:Int)≤1000:=by omega
 have hmi:(m:Int)≤1000:=by omega
 have hnm1:(n:Int)+(m:Int)≤1000:=by omega
 have c0:=hb.cell 0 rfl
 have c1:=hb.cell 1 rfl
 have HGR:=hid (xa2 w (n+m) (by omega) (by omega) (fun _=>0))
 have HNM:=hid (And.intro hn hnm)
 clear hb hx hy hn hnm
 go_enter Tryz.func152,Tryz.ntmps152
 go_wp2_with fail
 go_loopg [3,11] 2 (fun rr s3 s11 wr=>wr=w∧((rr=2∧s3=.int .i64 0∧s11=.int .i64 0)∨(rr=1∧s3=.int .i64 (n:Nat)∧s11=.int .i64 1)∨(rr=0∧s3=.int .i64 ((n+m:Nat):Int)∧s11=.int .i64 2)))
 case atStart=>exact⟨rfl,.inl ⟨rfl,rfl,rfl⟩⟩
 case round=>
  obtain⟨rfl,⟨rfl,rfl,rfl⟩|⟨rfl,rfl,rfl⟩|⟨rfl,rfl,rfl⟩⟩:=hrel
  ·go_wp2_with fail
   go_roundg 1
   case measure=>omega
   case rel=>exact⟨rfl,.inr (.inl ⟨rfl,by go_num,rfl⟩)⟩
  ·go_wp2_with fail
   go_roundg 0
   case measure=>omega
   case rel=>exact⟨rfl,.inr (.inr ⟨rfl,by go_num,rfl⟩)⟩
  ·rw[show((n+m:Nat):Int)=(n:Int)+(m:Int) by omega]at HGR
   go_wp2_with fail
   refine HGR.out.mono ?_
   rintro e w3 ⟨gb,cap,rfl,hO,hk⟩
   have d0:=(hk.at HB.out (by simp)).cell 0 rfl
   have d1:=(hk.at HB.out (by simp)).cell 1 rfl
   have HO:=hid hO
   have HK:=hid hk
   have HX3:=hid (HX.out.keep hk (by simp))
   have HY3:=hid (HY.out.keep hk (by simp))
   have HB3:=hid (hk.at HB.out (by simp))
   have hsz:wr.heap.size≤w3.heap.size:=hk.size
   have HSZ:=hid hsz
   have HBB:Hid (b<wr.heap.size/\∀k∈blkL y,k<wr.heap.size):=⟨HB.out.lt,fun k hk'=>(HY.out.ge k hk').2⟩
   obtain⟨W0,hW0⟩:∃W0,W0=wr:=⟨_,rfl⟩
   subst hW0
   clear hO hk hsz c0 c1 d0 d1
   go_wp2_with fail
   go_loopg [6,27] 2 (fun rr s6 s27 wr=>xe [] W0 wr∧((rr=2∧s6=.slice (some ⟨gb,0,none⟩) 0 cap∧s27=.int .i64 0∧OwnU wr W0.heap.size (some ⟨gb,0,none⟩) cap 0 (fun _=>0))∨(rr=1∧s27=.int .i64 1∧∃x' c',s6=.slice x' n c'∧OwnU wr W0.heap.size x' c' n f)∨(rr=0∧s27=.int .i64 2∧∃x' c',s6=.slice x' (n+m:Nat) c'∧OwnU wr W0.heap.size x' c' (n+m) (fun i=>if i<n then f i else g (i-n)))))
   case atStart=>exact⟨HK.out,.inl ⟨rfl,rfl,rfl,HO.out⟩⟩
   case round=>
    obtain⟨hk,⟨rfl,rfl,rfl,hO⟩|⟨rfl,rfl,x',c',rfl,hO⟩|⟨rfl,rfl,x',c',rfl,hO⟩⟩:=hrel
    ·have d0:=(hk.at HB.out (by simp)).cell 0 rfl
     have HOO:=hid hO
     have HXX:=hid (HX.out.keep hk (by simp))
     have HKK:=hid hk
     have hsz:W0.heap.size≤wr.heap.size:=hk.size
     have h0n:0+n≤100000:=by omega
     clear hO hk
     go_wp2_with (at_builtin;refine ZK rfl _ _ rfl W0.heap.size B (some ⟨gb,0,none⟩) x cap 0 cx n (fun _=>0) f rfl rfl HOO.out HXX.out h0n hsz ?_;intro xw cw w7 hO7 hk7 hx7)
     have HE:Hid (xe [] W0 w7/\OwnU w7 W0.heap.size xw cw n f):=by
      refine⟨HKK.out.new hk7 fun b hb=>.inr (HOO.out.ge b hb).1,?_⟩
      rw[Nat.zero_add]at hO7
      exact hO7.eq fun i hi=>by rw[if_neg (by omega),Nat.sub_zero]
     clear hO7 hk7 hx7 d0
     go_roundg 1
     case measure=>omega
     case rel=>exact⟨HE.out.1,.inr (.inl ⟨rfl,rfl,xw,cw,by first|rfl|simp,HE.out.2⟩)⟩
    ·have d1:=(hk.at HB.out (by simp)).cell 1 rfl
     have HOO:=hid hO
     have HYY:=hid (HY.out.keep hk (by simp))
     have HKK:=hid hk
     have hsz:W0.heap.size≤wr.heap.size:=hk.size
     have h0n:n+m≤100000:=by omega
     clear hO hk
     go_wp2_with (at_builtin;refine ZK rfl _ _ rfl W0.heap.size B2 x' y c' n cy m f g rfl rfl HOO.out HYY.out h0n hsz ?_;intro xw cw w7 hO7 hk7 hx7)
     have HE:Hid (xe [] W0 w7/\OwnU w7 W0.heap.size xw cw (n+m) (fun i=>if i<n then f i else g (i-n))):=⟨HKK.out.new hk7 fun b hb=>.inr (HOO.out.ge b hb).1,hO7⟩
     clear hO7 hk7 hx7 d1
     go_roundg 0
     case measure=>omega
     case rel=>exact⟨HE.out.1,.inr (.inr ⟨rfl,rfl,xw,cw,by first|rfl|simp,HE.out.2⟩)⟩
    ·have HE:=hid (And.intro hk hO)
     clear hk hO
     go_wp2_with fail
     go_ret
     exact⟨x',c',rfl,HE.out.2,HE.out.1⟩
end Go.Proofs.YtcdhklgahepcaaaGreat
