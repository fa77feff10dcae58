import Derived.Test.YtcdhklgahepcaaaGreatHpn
import Derived.Test.YtcdhklgahepcaaaGreatAwk17
namespace Go.Proofs.YtcdhklgahepcaaaGreat
open Go.RowKit Go.OpenShut
set_option maxHeartbeats 400000 in
theorem YV (w:World) (b:Nat) (bits:Int) (i:Nat) (h:At w b (VI bits)) (hi:i≤17592186044416):
  Calls Tryz.prog 44 #[.int .i64 i,ptr b] w fun e w'=>e=.returned (.int .u8 (chV bits i))/\w=w':=by
 have c1:=h.cell 0 rfl
 go_enter Tryz.func44,Tryz.ntmps44
 go_wp2_with fail
 refine(xbm w bits i hi).mono ?_
 rintro e w1 ⟨rfl,rfl⟩
 go_wp2
 go_ret
 exact⟨rfl,rfl⟩
theorem vJ (b:Nat) (bits:Int) (n:Nat) (hn:n≤17592186044416):
  Wv 44 #[ptr b] n (chV bits) [] [b] (fun _ w=>At w b (VI bits)) where
 inv:=fun w i=>by simp[go_sem]
 call:=fun i w hi h=>(YV w b bits i h (by omega)).mono fun e w' ⟨he,hw⟩=>⟨he,by rw[<-hw];exact h,by rw[<-hw];exact xe.refl _ _⟩
 keep:=fun _ w w' S h hk hs=>hk.at h (hs b (by simp))
 low:=xef bits
section
variable {H:HpC} {V:HpV} {w w':World}
theorem HpW.reopen (h:HpW H (-1) V w) (hst:V.st=.shut) (hu:V.u≤1000000000000) (hr:V.r<4294967290) (ch:Nat->Int) (hD:Dev w' H.p H.a (xz V.S ch)) (hk:xe [H.a.s,H.a.k,H.a.m] w w'):
  Calls Tryz.prog 20 #[ptr H.a.d] w' fun e w''=>∃H2 V2,e=.returned (.tuple #[ptr H2.hb,.int .i64 0])/\OpnW H.p H.a H.c (xz V.S ch).now V.k V.us V.rs V.os V.u V.r w' H2 V2 w'':=by
 obtain⟨h1,⟨pl,wd,h2⟩,h3,_⟩:=h.crash hst ch
 have hpw:=h.pw
 have n1:H.p≠H.a.s:=xY hpw.pow hpw.dev.now (by decide)
 have n2:H.p≠H.a.k:=xY hpw.pow hpw.dev.kept (by decide)
 have n3:H.p≠H.a.m:=yQ hpw.pow hpw.dev.map
 exact JV w' H.p H.a V.u (xz V.S ch) H.c ⟨hD,hk.at hpw.pow (by simp;exact⟨n1,n2,n3⟩),hpw.lo,.inl (by omega)⟩ h.ok h.n h.n4 h1 h2 hr h3 hu
theorem xdX (h:HpW H (-1) V w) {z:Int} {t j y:Nat} (ht:t<V.os.length) (hz:numA V.g z=H.c.frm V.k+posL V.os t) (h1:rL V.os t≤j) (h2:j<nL V.os t) (hy:V.S.now (H.c.frm V.k+posL V.os t+1+j)=(y:Int)):
  Calls Tryz.prog 45 #[ptr H.hb,.int .i64 z,.int .i64 (j:Nat)] w fun e w'=>e=.returned (.tuple #[.int .u64 (y:Nat),.int .i64 0])/\xe [] w w':=by
 refine(xcs w H.hb z j h.ob h.pw.dev h.hep h.ok h.n h.tab h.hs).mono ?_
 have hf:=h.fits ht
 rintro e w' ⟨v,code,rfl,⟨h3,_⟩|⟨s,hs,h3,rfl,rfl⟩,hk⟩
 ·omega
 ·obtain rfl:s=t:=zL (Nat.le_of_lt hs) (Nat.le_of_lt ht) (by omega)
  have h0:fldE (nL V.os s:Nat) (rL V.os s:Nat) (j:Nat) false=0:=vg (by omega) (by omega) (by rw[decide_eq_false_iff_not];omega)
  rw[h0]
  unfold rdW
  rw[if_pos rfl,show(((H.c.frm V.k+posL V.os s:Nat):Int)+1+(j:Nat)).toNat=H.c.frm V.k+posL V.os s+1+j by omega,hy]
  exact⟨rfl,hk⟩
end
structure CmI (H:HpC) (m:Nat) (G:Nat->Nat) (i:Nat) (z:Int) (q:Nat) (V:HpV):Prop where
 k:V.k=0
 us:V.us=m+1
 os:V.os= [(m,0)]
 g:numA V.g 1=H.c.frm 0
 m:V.m=1
 rt:V.rs.getD 0 0=H.c.frm 0
 u:V.u≤z
 r:V.r≤q
 now:∀j,j<i->V.S.now (H.c.frm 0+1+j)=((G j:Nat):Int)
section
variable {H:HpC} {V:HpV} {w w':World} {m i q:Nat} {z:Int} {G:Nat->Nat}
theorem CmI.pos (h:CmI H m G i z q V):posL V.os 0=0/\nL V.os 0=m/\rL V.os 0=0/\0<V.os.length:=by rw[h.os];exact⟨rfl,rfl,rfl,Nat.zero_lt_one⟩
theorem CmI.write (hI:CmI H m G i z q V) (hz:z≤400000000000) (hq:q<4294967290) (h:HpW H (-1) V w) {m3:Nat} {pl:Nat->Nat} {D:Nat->Int} {rs0:List Nat} {os0:List (Nat×Nat)} (hst:V.st=.opn m3 pl D 0 rs0 os0) (hi:i<m) (hg:G i<18446744073709551616):
  Calls Tryz.prog 43 #[ptr H.hb,.int .i64 1,.int .i64 (i:Nat),.int .u64 (G i:Nat)] w fun e w'=>e=.returned (.int .i64 0)/\∃V',HpW H (-1) V' w'/\CmI H m G (i+1) (z+3000) q V'/\V'.st=V.st/\xe H.bl w w':=by
 obtain⟨p1,p2,p3,p4⟩:=hI.pos
 have hu:=hI.u
 have hr:=hI.r
 have hf:=h.fits p4
 rw[p1,hI.k,p2]at hf
 refine(xaG h hst (by omega) (by omega) (z:=1) (t:=0) (j:=i) (y:=G i) p4 (by rw[hI.g,hI.k,p1];rfl) (by omega) (by omega) hg).mono ?_
 rintro e w' ⟨rfl,V',h',⟨⟨e1,e2,e3,e4,e5,e6⟩,e7⟩,e8,e9,hn,hk⟩
 refine⟨rfl,V',h',⟨e1.trans hI.k,e2.trans hI.us,e3.trans hI.os,by rw[e5];exact hI.g,e4.trans hI.m,by rw[e8];exact hI.rt,by omega,by omega,fun j hj=>?_⟩,e9,hk⟩
 rw[hn _ (by omega) (by omega),hI.k,p1]
 by_cases hji:j=i
 ·subst hji
  rw[if_pos (by omega)]
 ·rw[if_neg (by omega)]
  exact hI.now j (by omega)
theorem CmI.commit (hI:CmI H m G i z q V) (h:HpW H (-1) V w) {m3:Nat} {pl:Nat->Nat} {D:Nat->Int} {rs0:List Nat} {os0:List (Nat×Nat)} (hst:V.st=.opn m3 pl D 0 rs0 os0) (hz:z≤400000000000) (hi:i≤m):
  Calls Tryz.prog 30 #[ptr H.hb] w fun e w'=>e=.returned (.int .i64 0)/\∃V',HpW H (-1) V' w'/\CmI H m G i (z+3000) (q+1) V'/\V'.st=.shut/\xe H.bl w w':=by
 obtain⟨p1,p2,p3,p4⟩:=hI.pos
 have hu:=hI.u
 have hr:=hI.r
 have hf:=h.fits p4
 rw[p1,hI.k,p2]at hf
 refine(Wm h hst (by omega)).mono ?_
 rintro e w' ⟨rfl,V',h',⟨e1,e2,e3,e4,e5,e6⟩,e7,hn,e8,e9,hk⟩
 exact⟨rfl,V',h',⟨e1.trans hI.k,e2.trans hI.us,e4.trans hI.os,by rw[e6];exact hI.g,e5.trans hI.m,by rw[e3];exact hI.rt,by omega,by omega,fun j hj=>by rw[hn _ (by omega) (by omega)];exact hI.now j hj⟩,e7,hk⟩
theorem OpnW.own2 {p:Nat} {a:DA} {c:Cfg} {K:Nat->Int} {k us:Nat} {rs:List Nat} {os:List (Nat×Nat)} {u:Int} {r:Nat} {H:HpC} {V:HpV} {B:Nat} (h:OpnW p a c K k us rs os u r w H V w') (hw:B≤w.heap.size) (hb:∀b∈[p,a.s,a.k,a.m],B≤b):∀b∈H.bl,B≤b:=fun b hb'=>by
 obtain⟨e1,e2,e3⟩:=h.hp
 have o1:=h.own H.hb (by simp)
 have o2:=h.own H.x.t (by simp)
 have o3:=h.own H.x.p (by simp)
 have o4:=h.own H.x.n (by simp)
 have o5:=h.own H.q.b (by simp)
 have o6:=h.own H.q.lb (by simp)
 have o7:=h.own H.q.rb (by simp)
 have o8:=h.own H.q.ub (by simp)
 have b1:=hb p (by simp)
 have b2:=hb a.s (by simp)
 have b3:=hb a.k (by simp)
 have b4:=hb a.m (by simp)
 unfold HpC.bl Sc.bl at hb'
 rw[e1,e2]at hb'
 simp only[List.mem_cons,List.mem_append,List.not_mem_nil,or_false]at hb'
 omega
theorem CmI.back (hI:CmI H m G m z q V) (h:HpW H (-1) V w) (hst:V.st=.shut) (ch:Nat->Int) {u:Int} {r:Nat} {H2:HpC} {V2:HpV} {w1 w2:World} (hO:OpnW H.p H.a H.c (xz V.S ch).now V.k V.us V.rs V.os u r w1 H2 V2 w2):
  V2.us=m+1/\V2.m=0/\V2.g=(fun _=>0)/\V2.rs.getD 0 0=H2.c.frm 0/\V2.k=0/\V2.os= [(m,0)]/\∀j,j<m->V2.S.now (H2.c.frm 0+1+j)=((G j:Nat):Int):=by
 obtain⟨p1,p2,p3,p4⟩:=hI.pos
 have hf:=h.fits p4
 rw[p1,hI.k,p2]at hf
 have hc:=(h.crash hst ch).2.2.2
 obtain⟨v1,v2,v3,v4,v5,v6,v7,v8⟩:=hO.v
 refine⟨v3.trans hI.us,v6,v7,by rw[v4,hO.hp.2.2];exact hI.rt,v2.trans hI.k,v5.trans hI.os,fun j hj=>?_⟩
 rw[hO.hp.2.2,hO.now _ (by omega) (by omega),hc _ (by omega) (by omega) (ZL.2 (.inr (by rw[hI.k,hI.us];omega)))]
 exact hI.now j hj
end
end Go.Proofs.YtcdhklgahepcaaaGreat
