import Derived.Test.YtcdhklgahepcaaaGreatSupM
import Derived.Test.YtcdhklgahepcaaaGreatHead
import Derived.Deep.QuietTactic
import Derived.BigQuiet
set_option maxHeartbeats 2000000
set_option maxRecDepth 100000
namespace Go.Proofs.YtcdhklgahepcaaaGreat
open Go.RowKit Go.OpenShut
def Fmtd (c:Cfg) (w:World) (e:Ending) (w':World):Prop:=
 ∃p a u S,e=.returned (.tuple #[ptr a.d,.bool true])/\c.words=a.n/\Pw w' p a (-1) u S/\u≤100000/\X5 c S.now/\(∀j,j<a.n->S.kept j=S.now j)/\(∀k,S.is k=false)/\
  (w.heap.size≤a.d/\w.heap.size≤a.s/\w.heap.size≤a.k/\w.heap.size≤a.m/\w.heap.size≤p)/\xe [] w w'
def oldF (n:Nat) (f:Nat->Int) (i:Nat):Int:=if n=0 then 0 else f (i%n)
theorem xce {n:Nat} (f:Nat->Int) (i:Nat) (h:n≠0):oldF n f i=f (i%n):=by unfold oldF;rw[if_neg h]
def xfn (c:Cfg) (n:Nat) (f:Nat->Int) (w:World) (e:Ending) (w':World):Prop:=
 ∃p a u S,(e=.returned (.tuple #[ptr a.d,.bool true])/\c.words=a.n/\Pw w' p a (-1) u S/\u≤100000/\X5 c S.now/\(∀j,j<a.n->S.kept j=S.now j)/\(∀k,S.is k=false)/\
  (w.heap.size≤a.d/\w.heap.size≤a.s/\w.heap.size≤a.k/\w.heap.size≤a.m/\w.heap.size≤p)/\xe [] w w')/\∀j,c.root c.roots≤j->j<a.n->S.now j=oldF n f j
theorem yt (w:World) (c:Cfg) (hc:c.Ok) (x:Option Addr) (n cp:Nat) (f:Nat->Int) (hr:Reads w x n f) (hn:n≤30):
  Calls Tryz.prog 49 #[cfgV c,.slice x n cp] w (xfn c n f w):=by
 have hw:=vv hc
 have hs:=hc.small
 have hmk:=zu (P:=Tryz.prog) 60 26 (.int .u64 0) 8 Tryz.underlying60 (by kernel_rfl) rfl c.words (by omega) (by omega)
 have HC:=hid hc
 have HR:=hid hr
 have hwi:(c.words:Int)≤15000:=by omega
 have hni:(n:Int)≤30:=by omega
 clear hc hr
 go_enter Tryz.func49,Tryz.ntmps49
 go_wp2_with fail
 have hB0:=At.new w (cfgO c)
 have K0:=(xe.refl [] w).alloc (cfgO c)
 refine(Xx _ c hs).mono ?_
 rintro e w1 ⟨rfl,hk1⟩
 have hB1:=hk1.at hB0 (by simp)
 have K1:=K0.trans hk1
 clear hB0 K0 hk1
 go_wp2_with fail
 have hA:=At.new w1 (.cells (rowOf id c.words fun _=>.int .u64 0) 26)
 rw[WM c.words (fun _=>0)]at hA
 have hB2:=hB1.alloc (.cells (rowOf id c.words fun _=>.int .u64 0) 26)
 have K2:=K1.alloc (.cells (rowOf id c.words fun _=>.int .u64 0) 26)
 have hlt1:=hB1.lt
 have hgb:w.heap.size≤w1.heap.size:=K1.size
 rw[WM c.words (fun _=>0)]at hB2 K2⊢
 obtain⟨w2,hw2⟩:∃w2,w2=w1.alloc (.cells (u64s c.words fun _=>0) 26):=⟨_,rfl⟩
 obtain⟨g,hg⟩:∃g,g=w1.heap.size:=⟨_,rfl⟩
 rw[<-hw2]at hA hB2 K2⊢
 rw[<-hg]at hA hlt1 hgb⊢
 clear hw2 hg hmk hB1 K1
 go_loopg [14] c.words (fun r s wr=>∃i:Nat,i+r=c.words∧s=.int .i64 i∧At wr g (.cells (u64s c.words fun j=>if j<i then oldF n f j else 0) 26)∧xe [g] w2 wr)
 case atStart=>
  exact⟨0,by omega,rfl,by simpa using hA,xe.refl _ _⟩
 case round=>
  obtain⟨i,hi,rfl,hAi,hK⟩:=hrel
  by_cases hlt:i<c.words
  ·by_cases h0:n=0
   ·have t0:decide (0<n)=false:=by rw[decide_eq_false_iff_not];omega
    have t1:decide (0<(n:Int))=false:=by rw[decide_eq_false_iff_not];omega
    have H0:=hid h0
    clear h0
    go_wp2_with fail
    go_roundg (c.words-(i+1))
    case measure=>omega
    case rel=>
     refine⟨i+1,by omega,by go_num,?_,hK⟩
     have e:u64s c.words (fun j=>if j<i+1 then oldF n f j else 0)=u64s c.words (fun j=>if j<i then oldF n f j else 0):=yG fun j _=>by simp[oldF,H0.out]
     rw[e]
     exact hAi
   ·have t0:decide (0<n)=true:=by rw[decide_eq_true_eq];omega
    have t1:decide (0<(n:Int))=true:=by rw[decide_eq_true_eq];omega
    obtain⟨b,off,rfl,hbl,hcl⟩:∃b off,x=some ⟨b,off,none⟩/\b<w.heap.size/\∀i,i<n->w.cell? ⟨b,off+i,none⟩=some (.int .u64 (f i)):=by
     rcases HR.out with h|h
     ·exact absurd h h0
     ·exact h
    obtain⟨j,hj⟩:∃j,j=i%n:=⟨_,rfl⟩
    have hjn:j<n:=by rw[hj];exact Nat.mod_lt _ (by omega)
    have ej:(i:Int)%(n:Int)=(j:Int):=by omega
    have KW:xe [] w wr:=K2.new hK (by simpa using hgb)
    have c3:=(KW.cell (p:=⟨b,off+j,none⟩) hbl (by simp)).trans (hcl j hjn)
    have c4:=hAi.cell i (xG hlt)
    have c5:=hAi.free i
    have HJ:=hid hj
    clear hj hcl
    go_wp2_with fail
    go_roundg (c.words-(i+1))
    case measure=>omega
    case rel=>
     have h6:=hAi.set i (.int .u64 (f j))
     rw[jV]at h6
     have e:u64s c.words (put (fun j=>if j<i then oldF n f j else 0) i (f j))=u64s c.words (fun j=>if j<i+1 then oldF n f j else 0):=yG fun k _=>by
      unfold put
      by_cases h1:k=i
      ·subst h1
       simp[xce f k h0,HJ.out]
      ·by_cases h2:k<i
       ·simp[h1,h2,show k<i+1 by omega]
       ·simp[h1,h2,show¬k<i+1 by omega]
     rw[e]at h6
     exact⟨i+1,by omega,by go_num,h6,hK.set (.inl (by simp)) _⟩
  ·have hil:i=c.words:=by omega
   subst hil
   have hB3:=hK.at hB2 (by simp;omega)
   have K3:xe [] w wr:=K2.new hK (by simpa using hgb)
   clear hi hlt
   go_wp2_with fail
   refine(jr wr (some ⟨g,0,none⟩) c.words c.words (c.words/8) _ (Reads.of_at0 hAi (Nat.le_refl _)) (by omega) (by omega)).mono ?_
   rintro e w4 ⟨p,a,rfl,haL,hD4,hp4,⟨b1,b2,b3,b4,b5⟩,hk4⟩
   have K4:=K3.trans hk4
   have z4:=K3.size
   have hB4:=hk4.at hB3 (by simp)
   have haN:c.words=a.n:=by have:=a.n8;omega
   have HN:=hid haN
   have HL:=hid haL
   have c0:=hB4.cell 0 rfl
   have c1:=hB4.cell 1 rfl
   have c2:=hB4.cell 2 rfl
   have hP4:Pw w4 p a (-1) 0 _:=⟨hD4,hp4,by omega,.inl (by omega)⟩
   clear haN haL hD4 hp4 hk4 hB3 K3
   go_wp2_with fail
   refine(ZA w4 p a (-1) 0 _ c hP4 HC.out HN.out (by omega)).mono ?_
   rintro e w5 (⟨rfl,h5,k5⟩|⟨rfl,⟨S',⟨_,_,_,_,_,hl⟩,_⟩,_⟩)
   ·clear c0 c1 c2
    go_wp2_with fail
    go_ret2
    refine⟨p,a,_,_,⟨rfl,HN.out,h5,?_,(Yo _ HC.out).1,fun j hj=>(Yo _ HC.out).2.1 j (by have:=a.n8;omega),(Yo _ HC.out).2.2,⟨by omega,by omega,by omega,by omega,by omega⟩,K4.new k5 (by simp;omega)⟩,fun j hj hjn=>?_⟩
    rotate_left
    ·rw[xJ _ _ fun y hy=>xcC HC.out hj hy]
     have hjw:j<c.words:=by have:=HN.out;omega
     show(if j<c.words then if j<c.words then oldF n f j else 0 else 0)=oldF n f j
     rw[if_pos hjw,if_pos hjw]
    rw[xcD]
    obtain⟨o1,o2,o3,o4,o5,o6⟩:=HC.out
    have:=a.n8
    have:=HN.out
    omega
   ·omega
theorem X0 (w:World) (c:Cfg) (hc:c.Ok) (x:Option Addr) (n cp:Nat) (f:Nat->Int) (hr:Reads w x n f) (hn:n≤30):
  Calls Tryz.prog 49 #[cfgV c,.slice x n cp] w (Fmtd c w):=
 (yt w c hc x n cp f hr hn).mono fun _ _ ⟨p,a,u,S,h,_⟩=>⟨p,a,u,S,h⟩
theorem zk (n:Nat) (h:n≤100000):asInt (n:Int)=(n:Int):=IntWalk.wrap64_in _ (by omega)
theorem ja {S:DS} {c:Cfg} {n:Nat} (hc:c.Ok) (hn:c.words=n) (h:X5 c S.now):ZX S n=rdV c.log c.roots c.space 0:=by
 obtain⟨_,h1,h2,h3,_⟩:=h
 have o:=hc
 obtain⟨o1,o2,o3,o4,o5,o6⟩:=o
 have e:Vp (c.log:Int) (c.roots:Int) (c.space:Int) n=true:=by
  have h1:cfgB (c.log:Int) (c.roots:Int) (c.space:Int)=true:=by simp[cfgB];omega
  unfold Vp
  rw[h1]
  simpa using hn
 unfold ZX
 rw[h1,h2,h3,zk _ (by omega),zk _ (by omega),zk _ (by omega),e,if_pos rfl]
theorem qC (w:World) (p:Nat) (a:DA) (S:DS) (c:Cfg) (h:Dev w p a S) (hc:c.Ok) (hn:c.words=a.n) (hW:X5 c S.now):
  Calls Tryz.prog 71 #[ptr a.d] w fun e w'=>e=.returned (rdV c.log c.roots c.space 0)/\xe [] w w':=by
 have:=Q9 w p a S h (by have:=(vv hc).1;omega) hW.1
 rwa[ja hc hn hW]at this
theorem jF (w:World) (p:Nat) (a:DA) (u:Int) (S:DS) (c:Cfg) (h:Pw w p a (-1) u S) (hc:c.Ok) (hn:c.words=a.n) (hb:u<4611686018427300000):
  Calls Tryz.prog 115 #[ptr a.d,cfgV c] w fun e w'=>e=.returned (.int .i64 0)/\Pw w' p a (-1) (u+((fmtL c a.L).length:Int)) (xh S (fmtL c a.L))/\xe [p,a.s,a.k,a.m] w w':=
 (ZA w p a (-1) u S c h hc hn hb).mono fun _ _ hr=>hr.free h.lo
theorem xX:exC.Ok:=by unfold Cfg.Ok exC;decide
theorem vk:exC.words=56:=by decide
theorem xeQ (w:World):(Instr.makeSlice 60 (.int .i64 56) (.int .i64 56)).run Tryz.prog w=.ok (.slice (some ⟨w.heap.size,0,none⟩) 56 56) (w.alloc (.cells (u64s 56 fun _=>0) 26)):=
 zu (P:=Tryz.prog) 60 26 (.int .u64 0) 8 Tryz.underlying60 (by kernel_rfl) rfl 56 (by omega) (by omega) w
theorem Qh (w:World):Calls Tryz.prog 257 #[] w fun e w'=>e=.returned (.bool true)/\Below w.heap.size w w':=by
 have hmk:=xeQ
 go_enter Tryz.func257,Tryz.ntmps257
 go_wp2_with fail
 refine(Qi _).mono ?_
 rintro e w1 ⟨rfl,hb1⟩
 have K1:xe [] w w1:=Go.Proofs.YtcdhklgahepcaaaGreat.Below.keeps hb1 []
 clear hb1
 go_wp2_with fail
 have hA:=At.new w1 (.cells (u64s 56 fun _=>0) 26)
 have K2:=K1.alloc (.cells (u64s 56 fun _=>0) 26)
 clear hmk
 refine(jr _ (some ⟨w1.heap.size,0,none⟩) 56 56 7 _ (Reads.of_at0 hA (Nat.le_refl _)) rfl (by omega)).mono ?_
 rintro e w4 ⟨p,a,rfl,haL,hD4,hp4,⟨b1,b2,b3,b4,b5⟩,hk4⟩
 have K4:=K2.trans hk4
 have z4:w.heap.size≤w1.heap.size:=K1.size
 simp only[World.size_alloc]at b1 b2 b3 b4 b5
 have haN:exC.words=a.n:=by rw[vk,a.n8,haL]
 have hP4:Pw w4 p a (-1) 0 _:=⟨hD4,hp4,by omega,.inl (by omega)⟩
 have haN8:8≤a.n:=by rw[<-haN,vk];omega
 have HN:=hid haN
 clear haN haL hD4 hp4 hk4 hA
 go_wp2_with fail
 refine(qD w4 p a _ hP4.dev (by omega) (by simp[XX])).mono ?_
 rintro e w5 ⟨rfl,hk5⟩
 have hP5:=hP4.keep0 hk5
 have K5:=K4.trans hk5
 go_wp2_with fail
 have hP6:=hP5.keep0 ((xe.refl [] w5).alloc (.cells #[.int .i64 0,.int .i64 0,.int .i64 0] 36))
 have K6:=K5.alloc (.cells #[.int .i64 0,.int .i64 0,.int .i64 0] 36)
 refine(jF _ p a 0 _ exC hP6 xX HN.out (by omega)).mono ?_
 rintro e w7 ⟨rfl,hP7,hk7⟩
 have K7:xe [] w w7:=K6.new hk7 (by simp;omega)
 go_wp2_with fail
 refine(qC w7 p a _ exC hP7.dev xX HN.out (Yo _ xX).1).mono ?_
 rintro e w8 ⟨rfl,hk8⟩
 have K8:=K7.trans hk8
 go_wp2_with fail
 refine(Xx _ exC xX.small).mono ?_
 rintro e w9 ⟨rfl,hk9⟩
 have hew:Hid ((exC.words:Int)=56):=by show _=_;rw[vk];rfl
 rw[hew.out]
 go_wp2_with fail
 go_ret
 exact⟨rfl,((K8.alloc _).trans hk9).below (Nat.le_refl _) (by simp)⟩
end Go.Proofs.YtcdhklgahepcaaaGreat
