import Derived.Test.YtcdhklgahepcaaaGreatMaps
import Derived.Maps.AppendAt
import Derived.Test.YtcdhklgahepcaaaGreatAwk14
import Derived.Test.YtcdhklgahepcaaaGreatTel
namespace Go.Proofs.YtcdhklgahepcaaaGreat
open Go.RowKit
def QueP (w:World) (base:Nat) (e:TypeId) (size:Nat) (v:Value) (n:Nat) (xs:List Value):Prop:=
 xs.length=n*size/\((v=.slice none 0 0/\n=0)\/∃g off cap cur,v=.slice (some ⟨g,off,none⟩) n cap/\base≤g/\At w g (.cells cur e)/\n≤cap/\cap≤maxLen/\off+cap*size≤cur.size/\(cur.toList.drop off).take (n*size)=xs)
section
variable {w:World} {base:Nat} {e:TypeId} {size:Nat} {v:Value} {n:Nat} {xs:List Value}
theorem xb6 (w:World) (base:Nat) (e:TypeId) (size:Nat):QueP w base e size (.slice none 0 0) 0 []:=⟨by simp,.inl ⟨rfl,rfl⟩⟩
theorem QueP.form (h:QueP w base e size v n xs) (hn:0<n):∃g off cap,v=.slice (some ⟨g,off,none⟩) n cap/\base≤g/\g<w.heap.size/\n≤cap/\cap≤maxLen/\∀j u,xs[j]? =some u->w.cell? ⟨g,off+j,none⟩=some u:=by
 obtain⟨h1,⟨_,h2⟩|⟨g,off,cap,cur,rfl,h3,h4,h5,h6,h7,h8⟩⟩:=h
 ·omega
 ·refine⟨g,off,cap,rfl,h3,h4.lt,h5,h6,fun j u hj=>h4.cell (off+j) ?_⟩
  obtain⟨hlt,_⟩:=List.getElem?_eq_some_iff.1 hj
  rw[<-h8,List.getElem?_take_of_lt (by omega),List.getElem?_drop,Array.getElem?_toList]at hj
  exact hj
theorem QueP.keep {w':World} {T:List Nat} (h:QueP w base e size v n xs) (hk:xe T w w') (hT:∀b,v.ownBlock=some b->b∉T):QueP w' base e size v n xs:=by
 obtain⟨h1,h2|⟨g,off,cap,cur,rfl,h3,h4,h5⟩⟩:=h
 ·exact⟨h1,.inl h2⟩
 ·exact⟨h1,.inr ⟨g,off,cap,cur,rfl,h3,hk.at h4 (hT g rfl),h5⟩⟩
theorem QueP.ge (h:QueP w base e size v n xs) {b:Nat} (hb:v.ownBlock=some b):base≤b/\b<w.heap.size:=by
 obtain⟨h1,⟨rfl,h2⟩|⟨g,off,cap,cur,rfl,h3,h4,h5⟩⟩:=h
 ·simp[Value.ownBlock]at hb
 ·have:g=b:=by simpa[Value.ownBlock]using hb
  subst this
  exact⟨h3,h4.lt⟩
theorem QueP.tail {g off cap:Nat} {ys:List Value} (h:QueP w base e size (.slice (some ⟨g,off,none⟩) (n+1) cap) (n+1) (ys++xs)) (hy:ys.length=size):
  QueP w base e size (.slice (if cap=1 then some ⟨g,off,none⟩else some ⟨g,off+size,none⟩) n (cap-1)) n xs:=by
 obtain⟨h1,⟨h2,_⟩|⟨g',off',cap',cur,h2,h3,h4,h5,h6,h7,h8⟩⟩:=h
 ·cases h2
 ·cases h2
  have hl:xs.length=n*size:=by rw[List.length_append,hy,Nat.succ_mul]at h1;omega
  refine⟨hl,.inr ?_⟩
  by_cases hc:cap=1
  ·rw[if_pos hc]
   have hn:n=0:=by omega
   subst hn
   have hx:xs= []:=List.eq_nil_of_length_eq_zero (by omega)
   subst hx
   exact⟨g,off,cap-1,cur,rfl,h3,h4,by omega,by omega,by have:(cap-1)*size≤cap*size:=Nat.mul_le_mul_right _ (by omega);omega,by simp⟩
  ·rw[if_neg hc]
   refine⟨g,off+size,cap-1,cur,rfl,h3,h4,by omega,by omega,?_,?_⟩
   ·have:cap*size=(cap-1)*size+size:=by
     obtain⟨d,rfl⟩:∃d,cap=d+1:=⟨cap-1,by omega⟩
     rw[Nat.add_sub_cancel,Nat.succ_mul]
    omega
   ·have h9:((cur.toList.drop off).take ((n+1)*size)).drop size=xs:=by rw[h8,<-hy,List.drop_left]
    rw[List.drop_take,List.drop_drop]at h9
    rw[<-h9]
    congr 1
    rw[Nat.succ_mul]
    omega
end
section
variable {P:Program}
theorem Zd (w:World) (base:Nat) (t ty e:TypeId) (i:TypeInfo) (z:Value) (size bytes:Nat) (ht:P.underlying t=some (.slice e)) (hi:P.info? e=some i) (hz:i.zero=some z)
  (hsize:i.size=size) (hby:i.bytes=bytes) (hzs:z.cells.size=size) (hsz:0<size)
  (v:Value) (n:Nat) (xs:List Value) (hown:QueP w base e size v n xs)
  (a:Addr) (m c:Nat) (news:List Value) (hl:news.length=m*size) (hnews:∀j u,news[j]? =some u->w.cell? (a.add j)=some u) (h1:∀u∈news,u.oneCell'=true)
  (h63:n+m≤maxLen) (hbytes:(n+m)*bytes≤140737488355328) (hbase:base≤w.heap.size):
  ∃v' w',(Builtin.append_ #[t,t] ty #[v,.slice (some a) m c]).run P w=.ok v' w'/\QueP w' base e size v' (n+m) (xs++news)/\w.grownBy w' v.ownBlock/\(v'.ownBlock=v.ownBlock\/v'.ownBlock=some w.heap.size):=by
 subst hsize
 subst hby
 have hlen:(xs++news).length=(n+m)*i.size:=by rw[List.length_append,hown.1,hl,Nat.add_mul]
 obtain⟨hx0,⟨rfl,rfl⟩|⟨g,off,cap,cur,rfl,hbg,hg,hnc,hcm,hcs,htake⟩⟩:=hown
 ·have hx:xs= []:=List.eq_nil_of_length_eq_zero (by simpa using hx0)
  subst hx
  obtain⟨v',w',hr,h2,h3,h4,h5⟩:=run_append_own_at (P:=P) w base t ty e i z i.size i.bytes ht hi hz rfl rfl hzs hsz (.slice none 0 0) 0 [] (World.ownsRow_nil w base e i.size) a m c news hl hnews h1 h63 hbytes hbase
  refine⟨v',w',hr,?_,h3,h5⟩
  obtain⟨k1,⟨k2,k3⟩|⟨g,cap,cur,rfl,k4,k5,k6,k7,k8,k9⟩⟩:=h2
  ·exact⟨k1,.inl ⟨k2,k3⟩⟩
  ·exact⟨k1,.inr ⟨g,0,cap,cur,rfl,k4,k5,k6,k7,by omega,by simpa using k9⟩⟩
 ·by_cases hroom:n+m≤cap
  ·have hfit:off+n*i.size+news.length≤cur.size:=by
    have h2:(n+m)*i.size≤cap*i.size:=Nat.mul_le_mul_right _ hroom
    rw[Nat.add_mul]at h2
    rw[hl]
    omega
   have hf:=run_firstCells_some (P:=P) w i.size m a m c news hl hnews
   have hst:=run_storeCells_at P g (off+n*i.size) e news 0 cur w hg (by simpa using hfit) h1
   simp only[Nat.add_zero]at hst
   refine⟨.slice (some ⟨g,off,none⟩) (n+m) cap,w.setRow g (cur.toList.take (off+n*i.size)++news++cur.toList.drop (off+n*i.size+news.length)).toArray,?_,⟨hlen,.inr ⟨g,off,cap,_,rfl,hbg,setRow_heap w g cur _ e _ hg,hroom,hcm,?_,?_⟩⟩,⟨rfl,rfl,rfl,by simp,fun k _ hk=>setRow_other w g k _ (fun e=>hk (by simp[Value.ownBlock,e]))⟩,Or.inl rfl⟩
   ·simp[Builtin.append_,run_underlying ht,sizeOf,typeInfo,hi,Builtin.lenOf,hroom,hf,Addr.add_lit,hst]
   ·simp only[List.size_toArray,List.length_append,List.length_take,List.length_drop,Array.length_toList]
    omega
   ·have e1:(cur.toList.take (off+n*i.size)).drop off=xs:=by rw[List.drop_take,<-htake];congr 1;omega
    show((cur.toList.take (off+n*i.size)++news++cur.toList.drop (off+n*i.size+news.length)).drop off).take ((n+m)*i.size)=xs++news
    have e2:(cur.toList.take (off+n*i.size)).length=off+n*i.size:=by rw[List.length_take,Array.length_toList];omega
    rw[List.append_assoc,List.drop_append_of_le_length (by omega),e1,<-List.append_assoc,<-hlen,List.take_left]
  ·have holds:∀j u,xs[j]? =some u->w.cell? ((⟨g,off,none⟩:Addr).add j)=some u:=fun j u hj=>by
    have hq:QueP w base e i.size (.slice (some ⟨g,off,none⟩) n cap) n xs:=⟨hx0,.inr ⟨g,off,cap,cur,rfl,hbg,hg,hnc,hcm,hcs,htake⟩⟩
    by_cases hn:0<n
    ·obtain⟨g',off',cap',hv,_,_,_,_,hc⟩:=hq.form hn
     cases hv
     rw[Addr.add_lit]
     exact hc j u hj
    ·have:xs= []:=List.eq_nil_of_length_eq_zero (by rw[hx0];simp[show n=0 by omega])
     subst this
     simp at hj
   have hr:=run_append_grow (P:=P) w t ty e i z ht hi hz ⟨g,off,none⟩ n cap xs hx0 holds a m c news hl hnews (by omega) (by simp only[maxLen]at h63;omega) (growslice_fits (by omega) hbytes)
   have hge:=grownCap_ge w (n+m) cap e
   have hcm2:grownCap w (n+m) cap e≤maxLen:=grownCap_le_maxLen w (n+m) cap e h63
   refine⟨_,_,hr,⟨hlen,.inr ⟨w.heap.size,0,grownCap w (n+m) cap e,_,rfl,hbase,heap_alloc_new w.drew _,hge,hcm2,?_,?_⟩⟩,⟨rfl,rfl,rfl,by simp,fun k hk _=>Below.heap_alloc w.drew _ k hk⟩,Or.inr rfl⟩
   ·simp only[Array.size_append,List.size_toArray,size_zeroCells,hzs,hx0,hl,Nat.zero_add]
    rw[<-Nat.add_mul,<-Nat.add_mul]
    exact Nat.mul_le_mul_right _ (by omega)
   ·simp only[Array.toList_append,List.append_assoc,List.drop_zero]
    rw[<-List.append_assoc,<-hlen]
    exact List.take_left
end
open Go.RowKit Go.OpenShut
def ob3 (p:Nat×Nat×Nat):List Value:=[.int .i64 (p.1:Nat),.int .i64 (p.2.1:Nat),.int .i64 (p.2.2:Nat)]
def oC (Q:List (Nat×Nat×Nat)):List Value:=Q.flatMap ob3
theorem xeL (Q:List (Nat×Nat×Nat)) (x:Nat×Nat×Nat):oC Q++ob3 x=oC (Q++ [x]):=by simp[oC]
def QueB (w:World) (B:Nat) (y:Option Addr) (cp:Nat) (Q:List (Nat×Nat×Nat)):Prop:=QueP w B 151 3 (.slice y Q.length cp) Q.length (oC Q)
theorem xb7 (w:World) (B:Nat):QueB w B none 0 []:=xb6 w B _ _
theorem QueB.keep {w w':World} {B:Nat} {y:Option Addr} {cp:Nat} {Q:List (Nat×Nat×Nat)} {T:List Nat} (h:QueB w B y cp Q) (hk:xe T w w') (hT:∀b∈blkL y,b∉T):QueB w' B y cp Q:=
 QueP.keep h hk fun b hb=>hT b (by
  cases y with
  |none=>simp[Value.ownBlock]at hb
  |some a=>simp[Value.ownBlock]at hb;simp[blkL,hb])
theorem QueB.ge {w:World} {B:Nat} {y:Option Addr} {cp:Nat} {Q:List (Nat×Nat×Nat)} (h:QueB w B y cp Q):∀b∈blkL y,B≤b/\b<w.heap.size:=fun b hb=>QueP.ge h (by
 cases y with
 |none=>simp[blkL]at hb
 |some a=>simp[blkL]at hb;simp[Value.ownBlock,hb])
theorem QueB.front {w:World} {B:Nat} {y:Option Addr} {cp:Nat} {x:Nat×Nat×Nat} {Q:List (Nat×Nat×Nat)} (h:QueB w B y cp (x::Q)):
  ∃g off,y=some ⟨g,off,none⟩/\w.cell? ⟨g,off,none⟩=some (.int .i64 (x.1:Nat))/\w.cell? ⟨g,off+1,none⟩=some (.int .i64 (x.2.1:Nat))/\w.cell? ⟨g,off+2,none⟩=some (.int .i64 (x.2.2:Nat))/\Q.length+1≤cp/\cp≤maxLen/\
   QueB w B (if cp=1 then some ⟨g,off,none⟩else some ⟨g,off+3,none⟩) (cp-1) Q:=by
 obtain⟨g,off,cap,hv,h1,h2,h3,h4,h5⟩:=QueP.form h (by simp)
 injection hv with hv1 _ hv2
 subst hv1
 subst hv2
 refine⟨g,off,rfl,by simpa using h5 0 (.int .i64 (x.1:Nat)) rfl,h5 1 (.int .i64 (x.2.1:Nat)) rfl,h5 2 (.int .i64 (x.2.2:Nat)) rfl,by simpa using h3,h4,?_⟩
 exact QueP.tail (ys:=ob3 x) h rfl
theorem QX (w:World) (g off n cap:Nat):(Instr.slice 212 (.slice (some ⟨g,off,none⟩) (n+1) cap) (some (.int .i64 1)) none none).run Tryz.prog w=.ok (.slice (if cap=1 then some ⟨g,off,none⟩else some ⟨g,off+3,none⟩) n (cap-1)) w:=by
 have hi:∃i,Tryz.prog.info? 151=some i/\i.size=3:=by
  have h:(Tryz.prog.info? 151).map (fun i=>i.size)=some 3:=by kernel_rfl
  exact Option.map_eq_some_iff.1 h
 obtain⟨ti,hi1,hi2⟩:=hi
 simp[Instr.slice,run_underlying Tryz.underlying212,Instr.sliceBounds,sizeOf,typeInfo,hi1,hi2,go_sem]
 intro h
 omega
theorem QW (w:World) (g off n cap:Nat):(Instr.slice 60 (.slice (some ⟨g,off,none⟩) (n+1) cap) (some (.int .i64 1)) none none).run Tryz.prog w=.ok (.slice (if cap=1 then some ⟨g,off,none⟩else some ⟨g,off+1,none⟩) n (cap-1)) w:=by
 have hi:∃i,Tryz.prog.info? 26=some i/\i.size=1:=by
  have h:(Tryz.prog.info? 26).map (fun i=>i.size)=some 1:=by kernel_rfl
  exact Option.map_eq_some_iff.1 h
 obtain⟨ti,hi1,hi2⟩:=hi
 simp[Instr.slice,run_underlying Tryz.underlying60,Instr.sliceBounds,sizeOf,typeInfo,hi1,hi2,go_sem]
 intro h
 omega
theorem xcV {w:World} {B:Nat} {xx:Option Addr} {cp:Nat} {L:List (Nat×Nat×Nat)} (hown:QueB w B xx cp L) {b:Nat} {x:Nat×Nat×Nat} (c:Nat)
  (hc:w.cell? ⟨b,0,none⟩=some (.int .i64 (x.1:Nat))) (hc2:w.cell? ⟨b,1,none⟩=some (.int .i64 (x.2.1:Nat))) (hc3:w.cell? ⟨b,2,none⟩=some (.int .i64 (x.2.2:Nat))) (hn:L.length≤1000000) (hB:B≤w.heap.size) (ty:TypeId):
  ∃xx' cap w',(Builtin.append_ #[212,212] ty #[.slice xx L.length cp,.slice (some ⟨b,0,none⟩) 1 c]).run Tryz.prog w=.ok (.slice xx' (L.length+1) cap) w'/\
   QueB w' B xx' cap (L++ [x])/\xe (blkL xx) w w'/\(blkL xx'=blkL xx\/∀g∈blkL xx',w.heap.size≤g):=by
 have hi:∃i,Tryz.prog.info? 151=some i/\(i.zero,i.size,i.bytes)=(some (obV 0 0 0),3,24):=by
  have h:(Tryz.prog.info? 151).map (fun i=>(i.zero,i.size,i.bytes))=some (some (obV 0 0 0),3,24):=by kernel_rfl
  exact Option.map_eq_some_iff.1 h
 obtain⟨ti,hi1,hi2⟩:=hi
 simp only[Prod.mk.injEq]at hi2
 obtain⟨hz,hsz,hby⟩:=hi2
 obtain⟨v',w',hr,h2,h3,h4⟩:=Zd (P:=Tryz.prog) w B 212 ty 151 ti _ 3 24 Tryz.underlying212 hi1 hz hsz hby rfl (by omega) _ _ _ hown ⟨b,0,none⟩ 1 c (ob3 x) rfl (fun j u hj=>by
   match j,hj with
   |0,hj=>simp[ob3]at hj;subst hj;exact hc
   |1,hj=>simp[ob3]at hj;subst hj;exact hc2
   |2,hj=>simp[ob3]at hj;subst hj;exact hc3
   |j+3,hj=>simp[ob3]at hj) (by simp[ob3,Value.oneCell']) (by unfold maxLen;omega) (by omega) hB
 rw[xeL]at h2
 obtain⟨xx',cap,rfl⟩:∃xx' cap,v'=.slice xx' (L.length+1) cap:=by
  obtain⟨_,⟨_,h5⟩|⟨g,off,cap,cur,rfl,_⟩⟩:=h2
  ·omega
  ·exact⟨_,_,rfl⟩
 have h5:QueB w' B xx' cap (L++ [x]):=by
  unfold QueB
  rw[List.length_append]
  exact h2
 refine⟨xx',cap,w',hr,h5,xS h3,?_⟩
 have hb:∀(q:Option Addr) (m k:Nat),(Value.slice q m k).ownBlock=(blkL q)[0]? /\(blkL q).length≤1:=fun q m k=>by cases q<;>simp[Value.ownBlock,blkL]
 rw[(hb _ _ _).1,(hb _ _ _).1]at h4
 have l1:=(hb xx 0 0).2
 have l2:=(hb xx' 0 0).2
 rcases h4 with h4|h4
 ·left
  refine List.ext_getElem? fun i=>?_
  cases i with
  |zero=>exact h4
  |succ i=>rw[List.getElem?_eq_none (by omega),List.getElem?_eq_none (by omega)]
 ·right
  intro g hg
  obtain⟨i,hi⟩:=List.getElem?_of_mem hg
  obtain rfl:i=0:=by have:=(List.getElem?_eq_some_iff.1 hi).1;omega
  rw[h4]at hi
  have:=Option.some.inj hi
  omega
theorem VA {ops:Array Oper} {o:Oper} {a:Act} {w:World} {K:Act->World->Prop} {Q:Exit->Act->World->Prop} {E:Prop} (hgd:o.guard=none) (s xo:Operand)
  (ho:o.op=.call { callee:=.builtin .append,args:=#[s,xo],argTypes:=#[212,212] })
  (B:Nat) (xx:Option Addr) (cp n:Nat) (L:List (Nat×Nat×Nat)) (hn0:n=L.length) (hs:a.eval s=.slice xx n cp) (hown:QueB w B xx cp L) (b c:Nat) (x:Nat×Nat×Nat) (hx:a.eval xo=.slice (some ⟨b,0,none⟩) 1 c)
  (hc:w.cell? ⟨b,0,none⟩=some (.int .i64 (x.1:Nat))) (hc2:w.cell? ⟨b,1,none⟩=some (.int .i64 (x.2.1:Nat))) (hc3:w.cell? ⟨b,2,none⟩=some (.int .i64 (x.2.2:Nat))) (hn:n≤1000000) (hB:B≤w.heap.size)
  (h:∀xx' cap w',QueB w' B xx' cap (L++ [x])->xe (blkL xx) w w'->(blkL xx'=blkL xx\/∀g∈blkL xx',w.heap.size≤g)->K (a.put o.dst (.slice xx' (n+1) cap)) w'):
  if Region.wanted o (yielded ops a.tmps)=true then Oper.wp Tryz.prog o a w K Q else E:=by
 subst hn0
 have hw:Region.wanted o (yielded ops a.tmps)=true:=by simp[Region.wanted,hgd]
 rw[if_pos hw]
 obtain⟨xx',cap,w',hr,h1,h2,h3⟩:=xcV hown c hc hc2 hc3 hn hB o.type
 unfold Oper.wp
 simp[execOp,ho,resolve,invoke,builtin,hs,hx,hr,Result.andThen]
 exact h xx' cap w' h1 h2 h3
def Zc (S:DS) (c:Cfg) (k:Nat) (LS out:List Nat) (z:Int):Option Value:=if 0≤z/\z.toNat∈out then some (.int .i64 (wtC S c k LS z.toNat:Nat))else none
theorem Qx (S:DS) (c:Cfg) (k:Nat) (LS out:List Nat) (x:Nat):(fun z:Int=>if z=(x:Int)then some (.int .i64 (wtC S c k LS x:Nat))else Zc S c k LS out z)=Zc S c k LS (out++ [x]):=by
 funext z
 unfold Zc
 by_cases h:z=(x:Int)
 ·subst h
  rw[if_pos rfl,if_pos ⟨by omega,by simp⟩,Int.toNat_natCast]
 ·rw[if_neg h]
  by_cases h1:0≤z/\z.toNat∈out
  ·rw[if_pos h1,if_pos ⟨h1.1,List.mem_append_left _ h1.2⟩]
  ·rw[if_neg h1,if_neg]
   rintro⟨h2,h3⟩
   rcases List.mem_append.1 h3 with h3|h3
   ·exact h1 ⟨h2,h3⟩
   ·have:=List.mem_singleton.1 h3
    omega
open Go.RowKit Go.OpenShut
def quO (P:CP) (x:Nat):Nat×Nat×Nat:=(hdN (P.S.now x).toNat,hdR (P.S.now x).toNat,wtC P.S P.c P.k P.LS x)
def quL (P:CP) (out:List Nat) (n:Nat):List (Nat×Nat×Nat):=(out.drop n).map (quO P)
theorem xdI (P:CP) (out:List Nat) (n:Nat):(quL P out n).length=out.length-n:=by simp[quL]
theorem xdJ (P:CP) {out:List Nat} {n:Nat} (h:n≤out.length) (x:Nat):quL P (out++ [x]) n=quL P out n++ [quO P x]:=by
 unfold quL
 rw[List.drop_append_of_le_length h,List.map_append]
 rfl
theorem ZY (P:CP) {out:List Nat} {n x:Nat} (h:out[n]? =some x):quL P out n=quO P x::quL P out (n+1):=by
 obtain⟨h1,h2⟩:=List.getElem?_eq_some_iff.1 h
 unfold quL
 rw[List.drop_eq_getElem_cons h1,h2]
 rfl
abbrev colO (P:CP) (u:Nat) (yr:Option Addr) (cr:Nat) (yl:Option Addr) (nl cl mb:Nat) (yq:Option Addr) (nq cq:Nat) (dn:Bool):Obj:=
 .cells #[ptr P.a.d,.int .i64 P.c.log,.int .i64 P.c.roots,.int .i64 P.c.space,.int .i64 (P.k:Nat),.int .i64 (P.us:Nat),.slice yr P.rs.length cr,.int .i64 ((1-P.k:Nat):Int),.int .i64 (u:Nat),.slice none 0 0,.slice yl nl cl,.map (some mb),.slice yq nq cq,.bool dn] 214
structure ClB (P:CP) (w:World) (x mb B:Nat) (yr:Option Addr) (cr:Nat) (yl:Option Addr) (cl:Nat) (yq:Option Addr) (cq:Nat) (out:List Nat) (i n:Nat) (dn:Bool):Prop where
 box:At w x (colO P (szF P.S out) yr cr yl (P.ws.length-i) cl mb yq (out.length-n) cq dn)
 mp:IMap w mb (Zc P.S P.c P.k P.LS out)
 rd:Reads w yr P.rs.length (fun j=>((P.rs.getD j 0:Nat):Int))
 lf:Reads w yl (P.ws.length-i) (fun j=>((P.ws.getD (i+j) 0:Nat):Int))
 lc:P.ws.length-i≤cl
 qu:QueB w B yq cq (quL P out n)
 lt:B≤w.heap.size
 xB:x<B
 mB:mb<B
 rB:∀b∈blkL yr,b<B
 lB:∀b∈blkL yl,b<B
 xm:x≠mb
 rn:∀b∈blkL yr,b≠x/\b≠mb
 ln:∀b∈blkL yl,b≠x/\b≠mb
def clT (x mb:Nat) (yr yl yq:Option Addr):List Nat:=x::mb::(blkL yr++(blkL yl++blkL yq))
theorem xk {x mb:Nat} {yr yl yq:Option Addr} {b:Nat} :b∈clT x mb yr yl yq↔b=x\/b=mb\/b∈blkL yr\/b∈blkL yl\/b∈blkL yq:=by
 simp[clT]
section
variable {P:CP} {w w':World} {x mb B:Nat} {yr:Option Addr} {cr:Nat} {yl:Option Addr} {cl:Nat} {yq:Option Addr} {cq:Nat} {out:List Nat} {i n:Nat} {dn:Bool}
theorem yc {w w':World} {y:Option Addr} {n:Nat} {f:Nat->Int} {R:List Nat} (h:Reads w y n f) (hk:xe R w w') (hR:∀b∈blkL y,b∉R):Reads w' y n f:=
 h.keep hk fun b off hb=>hR b (by rw[hb];simp[blkL])
theorem ClB.keep {R:List Nat} (h:ClB P w x mb B yr cr yl cl yq cq out i n dn) (hk:xe R w w') (hR:∀b∈clT x mb yr yl yq,b∉R):ClB P w' x mb B yr cr yl cl yq cq out i n dn:=by
 have h1:∀b,b=x\/b=mb\/b∈blkL yr\/b∈blkL yl\/b∈blkL yq->b∉R:=fun b hb=>hR b (xk.2 hb)
 exact⟨hk.at h.box (h1 x (.inl rfl)),h.mp.keep hk (h1 mb (.inr (.inl rfl))),yc h.rd hk fun b hb=>h1 b (.inr (.inr (.inl hb))),yc h.lf hk fun b hb=>h1 b (.inr (.inr (.inr (.inl hb)))),h.lc,
  h.qu.keep hk fun b hb=>h1 b (.inr (.inr (.inr (.inr hb)))),Nat.le_trans h.lt hk.size,h.xB,h.mB,h.rB,h.lB,h.xm,h.rn,h.ln⟩
theorem ClB.below (h:ClB P w x mb B yr cr yl cl yq cq out i n dn):∀b∈clT x mb yr yl yq,b<w.heap.size:=by
 intro b hb
 have h0:=h.lt
 rcases xk.1 hb with rfl|rfl|h1|h1|h1
 ·have:=h.xB;omega
 ·have:=h.mB;omega
 ·have:=h.rB b h1;omega
 ·have:=h.lB b h1;omega
 ·exact(h.qu.ge b h1).2
end
def Apart (P:CP) (T:List Nat):Prop:=∀b∈T,b∉[P.p,P.a.d,P.a.s,P.a.k,P.a.m]
def ColC (P:CP) (w:World) (x:Nat) (T:List Nat) (i:Nat):Prop:=
 P.Ok/\∃mb B yr cr yl cl yq cq,ClB P w x mb B yr cr yl cl yq cq (P.cs i) (min i P.ws.length) (min (i-P.ws.length) P.LS.length) (decide (i=P.N))/\T=clT x mb yr yl yq
end Go.Proofs.YtcdhklgahepcaaaGreat
