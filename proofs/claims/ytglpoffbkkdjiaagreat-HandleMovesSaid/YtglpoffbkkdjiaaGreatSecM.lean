import Derived.Test.YtglpoffbkkdjiaaGreatKeysM
import Derived.Test.YtglpoffbkkdjiaaGreatLaw6
namespace Go.Proofs.YtglpoffbkkdjiaaGreat
open Go.RowKit Go.OpenShut
structure Sc where
 b:Nat
 lb:Nat
 rb:Nat
 ub:Nat
abbrev spV (f t:Int):Value:=.agg #[.int .i64 f, .int .i64 t]
abbrev spO (f t:Int):Obj:=.cells #[.int .i64 f, .int .i64 t] 71
abbrev secO (d:Nat) (s:Sc) (c:Cfg) (op:Bool) (f t:Int):Obj:=.cells #[ptr s.lb,ptr d, .int .i64 c.log, .int .i64 c.roots, .int .i64 c.space, .bool op, .int .i64 f, .int .i64 t, .map (some s.rb), .map (some s.ub)] 75
structure SW (w:World) (p:Nat) (a:DA) (l u:Int) (S:DS) (s:Sc) (c:Cfg) (cnt:Nat) (st:Bool) (op:Bool) (f t:Int) (R U:Int → Option Value):Prop where
 lw:LW w p a l u S s.lb c cnt st
 sec:At w s.b (secO a.d s c op f t)
 rm:IMap w s.rb R
 um:IMap w s.ub U
 ru:s.rb ≠ s.ub
 ra:s.rb ≠ a.m
 ua:s.ub ≠ a.m
theorem imap_ne {w:World} {b b':Nat} {x:Array Value} {T:TypeId} {fz:Nat × Nat} {D:Int → Option Value} (h:At w b (.cells x T fz)) (h':IMap w b' D):b ≠ b':=by
 rintro rfl
 obtain ⟨es,ck,hm,_⟩:=h'
 have:=h.inj hm
 cases this
def Sc.bl (s:Sc) (p:Nat) (a:DA):List Nat:=[p,a.s,a.k,a.m,s.lb,s.b,s.rb,s.ub]
section
variable {w w':World} {p:Nat} {a:DA} {l u:Int} {S S':DS} {s:Sc} {c:Cfg} {cnt:Nat} {st:Bool} {op:Bool} {f t:Int} {R U:Int → Option Value}
theorem SW.ne (h:SW w p a l u S s c cnt st op f t R U):s.b ∉ [p,a.s,a.k,a.m,s.lb,s.rb,s.ub] ∧ s.rb ∉ [p,a.s,a.k,a.m,s.lb,s.b,s.ub] ∧ s.ub ∉ [p,a.s,a.k,a.m,s.lb,s.b,s.rb] ∧ s.b ≠ a.d ∧ s.rb ≠ a.d ∧ s.ub ≠ a.d:=by
 have d:=h.lw.pw.dev
 have n1:s.b ≠ p:=cells_ne h.sec h.lw.pw.pow (by decide)
 have n2:s.b ≠ a.s:=cells_ne h.sec d.now (by decide)
 have n3:s.b ≠ a.k:=cells_ne h.sec d.kept (by decide)
 have n4:s.b ≠ a.m:=imap_ne h.sec d.map
 have n5:s.b ≠ s.lb:=cells_ne h.sec h.lw.log (by decide)
 have n6:s.b ≠ a.d:=cells_ne h.sec d.dev (by decide)
 have n7:s.b ≠ s.rb:=imap_ne h.sec h.rm
 have n8:s.b ≠ s.ub:=imap_ne h.sec h.um
 have r1:p ≠ s.rb:=imap_ne h.lw.pw.pow h.rm
 have r2:a.s ≠ s.rb:=imap_ne d.now h.rm
 have r3:a.k ≠ s.rb:=imap_ne d.kept h.rm
 have r5:s.lb ≠ s.rb:=imap_ne h.lw.log h.rm
 have r6:a.d ≠ s.rb:=imap_ne d.dev h.rm
 have u1:p ≠ s.ub:=imap_ne h.lw.pw.pow h.um
 have u2:a.s ≠ s.ub:=imap_ne d.now h.um
 have u3:a.k ≠ s.ub:=imap_ne d.kept h.um
 have u5:s.lb ≠ s.ub:=imap_ne h.lw.log h.um
 have u6:a.d ≠ s.ub:=imap_ne d.dev h.um
 have x1:=h.ru
 have x2:=h.ra
 have x3:=h.ua
 simp only [List.mem_cons,List.not_mem_nil,or_false,not_or]
 exact ⟨⟨n1,n2,n3,n4,n5,n7,n8⟩,⟨r1.symm,r2.symm,r3.symm,x2,r5.symm,n7.symm,x1⟩,⟨u1.symm,u2.symm,u3.symm,x3,u5.symm,n8.symm,x1.symm⟩,n6,r6.symm,u6.symm⟩
theorem SW.keep0 (h:SW w p a l u S s c cnt st op f t R U) (hk:Keeps [] w w'):SW w' p a l u S s c cnt st op f t R U :=
 ⟨h.lw.keep0 hk,hk.at h.sec (by simp),h.rm.keep hk (by simp),h.um.keep hk (by simp),h.ru,h.ra,h.ua⟩
theorem SW.log {cnt':Nat} {st':Bool} {u':Int} (h:SW w p a l u S s c cnt st op f t R U) (h':LW w' p a l u' S' s.lb c cnt' st') (hk:Keeps [p,a.s,a.k,a.m,s.lb] w w'):SW w' p a l u' S' s c cnt' st' op f t R U:=by
 obtain ⟨n1,n2,n3,_⟩:=h.ne
 exact ⟨h',hk.at h.sec fun hm => n1 (by simp only [List.mem_cons,List.not_mem_nil,or_false] at hm ⊢; rcases hm with e | e | e | e | e <;> simp [e]),h.rm.keep hk fun hm => n2 (by simp only [List.mem_cons,List.not_mem_nil,or_false] at hm ⊢; rcases hm with e | e | e | e | e <;> simp [e]),h.um.keep hk fun hm => n3 (by simp only [List.mem_cons,List.not_mem_nil,or_false] at hm ⊢; rcases hm with e | e | e | e | e <;> simp [e]),h.ru,h.ra,h.ua⟩
theorem SW.next {u':Int} (h:SW w p a l u S s c cnt st op f t R U) (h':Pw w' p a l u' S') (hk:Keeps [p,a.s,a.k,a.m] w w'):SW w' p a l u' S' s c cnt st op f t R U:=h.log (h.lw.next h' hk) hk.lg
theorem SW.set (h:SW w p a l u S s c cnt st op f t R U) (i:Nat) (v:Value) {op':Bool} {f' t':Int}
  (e:(#[ptr s.lb,ptr a.d, .int .i64 c.log, .int .i64 c.roots, .int .i64 c.space, .bool op, .int .i64 f, .int .i64 t, .map (some s.rb), .map (some s.ub)]:Array Value).setIfInBounds i v = #[ptr s.lb,ptr a.d, .int .i64 c.log, .int .i64 c.roots, .int .i64 c.space, .bool op', .int .i64 f', .int .i64 t', .map (some s.rb), .map (some s.ub)]) :
  SW (w.setCell ⟨s.b,i,none⟩ v) p a l u S s c cnt st op' f' t' R U:=by
 obtain ⟨n1,_,_,n4,_⟩:=h.ne
 simp only [List.mem_cons,List.not_mem_nil,or_false,not_or] at n1
 have kk:Keeps [s.b] w (w.setCell ⟨s.b,i,none⟩ v):=(Keeps.refl _ _).set (.inl (by simp)) _
 have:=h.sec.set i v
 rw [e] at this
 exact ⟨h.lw.keep kk (by simp; omega) (by simp; omega) (by simp; omega) (by simp; omega) (by simp; omega) (by simp; omega),this,h.rm.keep kk (by simp; omega),h.um.keep kk (by simp; omega),h.ru,h.ra,h.ua⟩
theorem SW.setR {R':Int → Option Value} (h:SW w p a l u S s c cnt st op f t R U) (hm:IMap w' s.rb R') (hk:Keeps [s.rb] w w'):SW w' p a l u S s c cnt st op f t R' U:=by
 obtain ⟨_,n2,_,_,n5,_⟩:=h.ne
 simp only [List.mem_cons,List.not_mem_nil,or_false,not_or] at n2
 have x:=h.ru
 exact ⟨h.lw.keep hk (by simp; omega) (by simp; omega) (by simp; omega) (by simp; omega) (by simp; omega) (by simp; omega),hk.at h.sec (by simp; omega),hm,h.um.keep hk (by simp; omega),h.ru,h.ra,h.ua⟩
theorem SW.setU {U':Int → Option Value} (h:SW w p a l u S s c cnt st op f t R U) (hm:IMap w' s.ub U') (hk:Keeps [s.ub] w w'):SW w' p a l u S s c cnt st op f t R U':=by
 obtain ⟨_,_,n3,_,_,n6⟩:=h.ne
 simp only [List.mem_cons,List.not_mem_nil,or_false,not_or] at n3
 have x:=h.ru
 exact ⟨h.lw.keep hk (by simp; omega) (by simp; omega) (by simp; omega) (by simp; omega) (by simp; omega) (by simp; omega),hk.at h.sec (by simp; omega),h.rm.keep hk (by simp; omega),hm,h.ru,h.ra,h.ua⟩
end
def RanS (p:Nat) (a:DA) (l u:Int) (S:DS) (s:Sc) (c:Cfg) (cnt:Nat) (st:Bool) (op:Bool) (f t:Int) (R U:Int → Option Value) (cs:List Cmd) (v:Value) (w:World) (e:Ending) (w':World):Prop :=
 (e = .returned v ∧ SW w' p a l (u + (cs.length:Int)) (execs S cs) s c cnt st op f t R U ∧ Keeps (s.bl p a) w w') ∨
 (e = .panicked [{ v:=goneV,recovered:=false }] ∧ (∃ S',Cut l u S cs S' ∧ Pw w' p a l l S') ∧ Keeps (s.bl p a) w w')
theorem Keeps.lgs {p:Nat} {a:DA} {s:Sc} {w w':World} (h:Keeps [p,a.s,a.k,a.m,s.lb] w w'):Keeps (s.bl p a) w w':=h.mono (by unfold Sc.bl; intro k _ hk; simp at hk ⊢; omega)
theorem Keeps.dvs {p:Nat} {a:DA} {s:Sc} {w w':World} (h:Keeps [p,a.s,a.k,a.m] w w'):Keeps (s.bl p a) w w':=h.lg.lgs
theorem Keeps.nos {p:Nat} {a:DA} {s:Sc} {w w':World} (h:Keeps [] w w'):Keeps (s.bl p a) w w':=h.mono (by simp)
theorem Keeps.ups {p:Nat} {a:DA} {s:Sc} {w w':World} (h:Keeps [s.ub] w w'):Keeps (s.bl p a) w w':=h.mono (by unfold Sc.bl; intro k _ hk; simp at hk ⊢; omega)
theorem Keeps.rps {p:Nat} {a:DA} {s:Sc} {w w':World} (h:Keeps [s.rb] w w'):Keeps (s.bl p a) w w':=h.mono (by unfold Sc.bl; intro k _ hk; simp at hk ⊢; omega)
section
variable {w w':World} {p:Nat} {a:DA} {l u u':Int} {S S':DS} {s:Sc} {c:Cfg} {cnt:Nat} {st:Bool} {op:Bool} {f t:Int} {R U:Int → Option Value} {cs:List Cmd} {v:Value} {e:Ending}
theorem ranS_end (h:SW w' p a l u' S' s c cnt st op f t R U) (hu:u' = u + (cs.length:Int)) (hS:S' = execs S cs) (hk:Keeps (s.bl p a) w w'):RanS p a l u S s c cnt st op f t R U cs v w (.returned v) w':=by
 subst hu hS
 exact .inl ⟨rfl,h,hk⟩
theorem ranS_cut (h:Pw w' p a l l S') (hc:Cut l u S cs S') (hk:Keeps (s.bl p a) w w'):RanS p a l u S s c cnt st op f t R U cs v w (.panicked [{ v:=goneV,recovered:=false }]) w' :=
 .inr ⟨rfl,⟨S',hc,h⟩,hk⟩
theorem RanS.free (h:RanS p a (-1) u S s c cnt st op f t R U cs v w e w') (hu:0 ≤ u):e = .returned v ∧ SW w' p a (-1) (u + (cs.length:Int)) (execs S cs) s c cnt st op f t R U ∧ Keeps (s.bl p a) w w':=by
 rcases h with h | ⟨_,⟨_,⟨_,_,_,_,_,hl⟩,_⟩,_⟩
 ·exact h
 ·omega
end
abbrev unitV:Value:=.agg #[]
def mkU (U:Int → Option Value) (i:Nat):Int → Option Value:=fun z => if z = ((i / 8:Nat):Int) then some unitV else U z
theorem mkU_eq (U:Int → Option Value) (i:Nat):mkU U i = fun z => if z = ((i / 8:Nat):Int) then some unitV else U z:=rfl
section
variable {w w':World} {p:Nat} {a:DA} {l u u':Int} {S S':DS} {s:Sc} {c:Cfg} {cnt:Nat} {st:Bool} {op:Bool} {f t:Int} {R U:Int → Option Value} {cs:List Cmd} {v:Value} {e:Ending}
set_option maxHeartbeats 1000000 in
theorem mark_at (h:SW w p a l u S s c cnt st op f t R U) (i:Nat) (hi:i ≤ 100000) :
  Calls Tryz.prog 51 #[ptr s.b, .int .i64 i] w fun e w' => e = .returned (.tuple #[]) ∧ SW w' p a l u S s c cnt st op f t R (mkU U i) ∧ Keeps [s.ub] w w':=by
 have c9:=h.sec.cell 9 rfl
 have hib:(i:Int) ≤ 100000:=by omega
 rw [mkU_eq]
 obtain ⟨k,hk⟩:∃ k,k = i / 8:=⟨_,rfl⟩
 have e8:(i:Int) / 8 = (k:Int):=by omega
 rw [← hk]
 clear hk
 go_enter Tryz.func51,Tryz.ntmps51
 go_wp2_with (at_mapUpdate; refine wpList_update_at rfl _ _ _ _ rfl 3 146 Tryz.underlying73 Tryz.underlying3 s.ub _ rfl h.um (k:Int) _ rfl rfl ?_; intro w1 hm1 hk1)
 go_end0
 exact ⟨rfl,h.setU hm1 hk1,hk1⟩
set_option maxHeartbeats 400000 in
theorem sopen_at (h:SW w p a l u S s c cnt st op f t R U) :
  Calls Tryz.prog 52 #[ptr s.b] w fun e w' => e = .returned (.bool op) ∧ w = w':=by
 have c5:=h.sec.cell 5 rfl
 go_enter Tryz.func52,Tryz.ntmps52
 go_wp2
 go_ret
 exact ⟨rfl,rfl⟩
def freshB (f t i:Int):Bool:=decide (f ≤ i) && decide (i < t)
set_option maxHeartbeats 1000000 in
theorem shas_at (w:World) (f t i:Int) :
  Calls Tryz.prog 147 #[spV f t, .int .i64 i] w fun e w' => e = .returned (.bool (freshB f t i)) ∧ w.alloc (spO f t) = w':=by
 unfold freshB
 by_cases h1:f ≤ i
 ·have t1:decide (f ≤ i) = true:=by rw [decide_eq_true_eq]; exact h1
  rw [t1]
  have hH:=hid h1
  clear h1
  go_enter Tryz.func147,Tryz.ntmps147
  go_wp2
  go_ret
  simp
 ·have t1:decide (f ≤ i) = false:=by rw [decide_eq_false_iff_not]; exact h1
  rw [t1]
  have hH:=hid h1
  clear h1
  go_enter Tryz.func147,Tryz.ntmps147
  go_wp2
  go_ret
  simp
end
end Go.Proofs.YtglpoffbkkdjiaaGreat
namespace Go.Proofs.YtglpoffbkkdjiaaGreat
open Go.RowKit Go.OpenShut
def flK (ss:List Int) (j:Nat):Cmd:=.fl (8 * (ss.getD j 0).toNat)
def kpC (ss:List Int):List Cmd:=[.fl 8] ++ (rowL (flK ss) ss.length ++ [.fe])
theorem kpC_len (ss:List Int):(kpC ss).length = ss.length + 2:=by simp [kpC,rowL_len]
def UIn (U:Int → Option Value) (n:Nat):Prop:=∀ k v,U k = some v → 0 ≤ k ∧ 8 * k < (n:Int)
theorem UIn.none (n:Nat):UIn (fun _ => none) n:=fun _ _ h => by cases h
theorem UIn.mark {U:Int → Option Value} {n:Nat} (h:UIn U n) {i:Nat} (hi:i < n):UIn (mkU U i) n:=fun k v hk => by
 unfold mkU at hk
 split at hk
 ·omega
 ·exact h k v hk
theorem UIn.few {U:Int → Option Value} {n:Nat} (h:UIn U n) (hn:n ≤ 15000) {ss:List Int} (hK:KeysOf U ss):ss.length ≤ 1875 :=
 hK.len 1875 fun k v hk => by have:=h k v hk; omega
section
variable {w w':World} {p:Nat} {a:DA} {l u u':Int} {S S':DS} {s:Sc} {c:Cfg} {cnt:Nat} {st:Bool} {op:Bool} {f t:Int} {R U:Int → Option Value} {cs:List Cmd} {v:Value} {e:Ending}
set_option maxRecDepth 100000 in
set_option maxHeartbeats 2000000 in
theorem skeep_ran (h:SW w p a l u S s c cnt st op f t R U) (hU:UIn U a.n) (hn8:8 < a.n) (hn:a.n ≤ 15000) (hb:u < 4611686018427360000) :
  Calls Tryz.prog 127 #[ptr s.b] w fun e w' => ∃ ss,KeysOf U ss ∧ RanS p a l u S s c cnt st op f t R (fun _ => none) (kpC ss) (.tuple #[]) w e w':=by
 have h0:=h.lw.pw.lo
 have c1:=h.sec.cell 1 rfl
 have HS:=hid (flush_ran _ p a l u S 8 h.lw.pw hn8 (by omega))
 have HU:=hid hU
 have hK0:∃ ss,KeysOf U ss:=by
  obtain ⟨D0,_,_,hP⟩:=h.um.owns (P:=Tryz.prog) (fun k v hk => by have:=hU k v hk; omega) 3 Tryz.underlying3
  exact ⟨_,hP _ (List.Perm.refl _)⟩
 clear hU
 go_enter Tryz.func127,Tryz.ntmps127
 go_wp2_with fail
 refine HS.out.mono ?_
 rintro e w2 (⟨rfl,h2,k2⟩ | ⟨rfl,⟨S',d2,h2⟩,k2⟩)
 rotate_left
 ·obtain ⟨ss,hss⟩:=hK0
  exact ⟨rfl,ss,hss,ranS_cut h2 (d2.left _) k2.dvs⟩
 clear hK0 HS c1
 have l2:=h.next h2 k2
 have K2:Keeps (s.bl p a) w w2:=k2.dvs
 obtain ⟨S2,hS2⟩:∃ S2,S2 = execs S [.fl 8]:=⟨_,rfl⟩
 obtain ⟨u2,hu2⟩:∃ u2,u2 = u + (([.fl 8]:List Cmd).length:Int):=⟨_,rfl⟩
 rw [← hS2, ← hu2] at l2
 have HS2:=hid hS2
 have HU2:=hid hu2
 have hub:u2 < 4611686018427361000:=by simp at hu2; omega
 clear hS2 hu2 h2 k2
 have c9:=l2.sec.cell 9 rfl
 go_wp2_with fail
 refine (mkeys_at w2 s.ub).mono ?_
 rintro e w3 ⟨rfl,rfl⟩
 have l3:=l2.keep0 ((Keeps.refl [] w2).alloc (mboxO s.ub))
 have hX3:=At.new w2 (mboxO s.ub)
 have K3:Keeps (s.bl p a) w (w2.alloc (mboxO s.ub)):=K2.alloc _
 clear c9
 go_wp2_with fail
 refine (sorted_at _ s.ub w2.heap.size U l3.um hX3 (fun k v hk => by have:=HU.out k v hk; omega)).mono ?_
 rintro e w4 ⟨y,ss,cap,rfl,hK,hR,hY,hk4⟩
 have l4:=l3.keep0 hk4
 have K4:Keeps (s.bl p a) w w4:=K3.trans hk4.nos
 have hfew:=HU.out.few hn hK
 have HK:=hid hK
 have HR:=hid hR
 obtain ⟨n,hnn⟩:∃ n,n = ss.length:=⟨_,rfl⟩
 have hlt4:∀ b ∈ s.bl p a,b < w2.heap.size:=by
  unfold Sc.bl
  intro b hb
  simp only [List.mem_cons,List.not_mem_nil,or_false] at hb
  rcases hb with rfl | rfl | rfl | rfl | rfl | rfl | rfl | rfl
  ·exact l2.lw.pw.pow.lt
  ·exact l2.lw.pw.dev.now.lt
  ·exact l2.lw.pw.dev.kept.lt
  ·exact l2.lw.pw.dev.map.lt
  ·exact l2.lw.log.lt
  ·exact l2.sec.lt
  ·exact l2.rm.lt
  ·exact l2.um.lt
 have HNB:∀ b,w2.heap.size ≤ b → b ∉ [p,a.s,a.k,a.m]:=fun b hb hm => by
  have:=hlt4 b (by unfold Sc.bl; simp only [List.mem_cons,List.not_mem_nil,or_false] at hm ⊢; rcases hm with e | e | e | e <;> simp [e])
  omega
 rw [← hnn] at HR hfew ⊢
 have HNN:=hid hnn
 have HBY:∀ b off,y = some ⟨b,off,none⟩ → w2.heap.size ≤ b:=fun b off e => by have:=hY b off e; simp at this; omega
 have hni:(n:Int) ≤ 1875:=by omega
 clear hK hR hnn K2 K3 l2 l3 hX3 h hY hlt4
 go_wp2_with fail
 go_loopg [16] n (fun r sl wr => ∃ i:Nat,i + r = n ∧ sl = .int .i64 i ∧ SW wr p a l (u2 + (i:Int)) (execs S2 (rowL (flK ss) i)) s c cnt st op f t R U ∧ Keeps [p,a.s,a.k,a.m] w4 wr)
 case atStart => exact ⟨0,by omega,rfl,by simpa [rowL_zero,execs_nil] using l4,Keeps.refl _ _⟩
 case round =>
  obtain ⟨i,hi,rfl,hL,hk⟩:=hrel
  have hii:(i:Int) ≤ 1875:=by omega
  by_cases hlt:i < n
  ·obtain ⟨b,off,rfl,hbl,hcl⟩:∃ b off,y = some ⟨b,off,none⟩ ∧ b < w4.heap.size ∧ ∀ i,i < n → w4.cell? ⟨b,off + i,none⟩ = some (.int .i64 (ss.getD i 0)):=by
    rcases HR.out with h | h
    ·omega
    ·exact h
   have hcli:=hcl i hlt
   clear hcl
   obtain ⟨z,hz⟩:∃ z,z = ss.getD i 0:=⟨_,rfl⟩
   have hzU:0 ≤ z ∧ 8 * z < (a.n:Int):=by
    have hm:z ∈ ss:=by
     rw [hz,List.getD_eq_getElem?_getD,List.getElem?_eq_getElem (by have:=HNN.out; omega)]
     exact List.getElem_mem _
    obtain ⟨v,hv⟩:=Option.isSome_iff_exists.1 ((HK.out.2 z).1 hm)
    exact HU.out z v hv
   obtain ⟨k,rfl⟩:∃ k:Nat,(k:Int) = z:=⟨z.toNat,by omega⟩
   obtain ⟨q,hq⟩:∃ q,q = 8 * k:=⟨_,rfl⟩
   have e9:IntKind.i64.wrap ((k:Int) * 8) = (q:Int):=by rw [IntWalk.i64_in _ (by omega)]; omega
   have hqn:q < a.n:=by omega
   have hnb:b ∉ [p,a.s,a.k,a.m]:=HNB b (HBY b off rfl)
   have d0:=(hk.cell (p:=⟨b,off + i,none⟩) hbl hnb).trans hcli
   rw [← hz] at d0
   have c1:=hL.sec.cell 1 rfl
   have HFL:Hid (flK ss i = .fl q):=by show Cmd.fl _ = _; rw [← hz,hq]; rfl
   have HQ:=hid hq
   have b1:(i:Int) < (n:Int):=by omega
   have b2:(0:Int) ≤ (i:Int):=by omega
   clear hz hq hzU hcli
   go_wp2_with fail
   refine (flush_ran wr p a l _ _ q hL.lw.pw hqn (by omega)).mono ?_
   rintro e w5 (⟨rfl,h5,k5⟩ | ⟨rfl,⟨S',d5,h5⟩,k5⟩)
   rotate_left
   ·rw [← HFL.out] at d5
    exact ⟨rfl,ss,HK.out,ranS_cut h5 (Cut.right (A:=[.fl 8]) ((d5.row (by have:=HNN.out; omega)).left [.fe]) HU2.out HS2.out) ((K4.trans hk.dvs).trans k5.dvs)⟩
   rw [← HFL.out] at h5
   go_wp2_with fail
   go_roundg (n - (i + 1))
   case measure => omega
   case rel => exact ⟨i + 1,by omega,by go_num,hL.next h5.row k5,hk.trans k5⟩
  ·have hin:i = n:=by omega
   subst hin
   have c1:=hL.sec.cell 1 rfl
   go_wp2_with fail
   refine (fence_ran wr p a l _ _ hL.lw.pw (by omega)).mono ?_
   rintro e w5 (⟨rfl,h5,k5⟩ | ⟨rfl,⟨S',d5,h5⟩,k5⟩)
   rotate_left
   ·exact ⟨rfl,ss,HK.out,ranS_cut h5 (Cut.right (A:=[.fl 8]) (Cut.right (A:=rowL (flK ss) ss.length) d5 (by rw [rowL_len, ← HNN.out]) (by rw [← HNN.out])) HU2.out HS2.out) ((K4.trans hk.dvs).trans k5.dvs)⟩
   have l5:=hL.next h5 k5
   have K5:=(K4.trans hk.dvs).trans k5.dvs
   have c9:=l5.sec.cell 9 rfl
   clear c1
   go_wp2_with (refine wpList_clear_at rfl _ _ rfl 3 146 Tryz.underlying73 s.ub _ rfl l5.um ?_; intro w6 hm6 hk6)
   go_end0
   refine ⟨ss,HK.out,ranS_end (l5.setU hm6 hk6) ?_ ?_ (K5.trans hk6.ups)⟩
   ·rw [HU2.out,kpC_len,HNN.out]; simp; omega
   ·unfold kpC; rw [execs_append,execs_append, ← HS2.out, ← HNN.out]
def RecI (R:Int → Option Value) (m:Nat) (pl:Nat → Nat) (e:Nat):Prop :=
 (∀ i,i < m → R (pl i:Nat) = some (.int .u64 e)) ∧ ∀ z,(∀ i,i < m → ((pl i:Nat):Int) ≠ z) → R z = none
theorem RecI.none (pl:Nat → Nat) (e:Nat):RecI (fun _ => none) 0 pl e:=⟨fun _ h => absurd h (Nat.not_lt_zero _),fun _ _ => rfl⟩
theorem RecI.grow {R:Int → Option Value} {m:Nat} {pl:Nat → Nat} {e:Nat} (h:RecI R m pl e) (i:Nat):RecI (fun z => if z = (i:Int) then some (.int .u64 e) else R z) (m + 1) (put pl m i) e:=by
 refine ⟨fun k hk => ?_,fun z hz => ?_⟩
 ·by_cases hkm:k = m
  ·subst hkm; rw [put_on]; exact if_pos rfl
  ·rw [put_off _ _ hkm]
   show (if ((pl k:Nat):Int) = (i:Int) then _ else _) = _
   split
   ·rfl
   ·exact h.1 k (by omega)
 ·have h1:=hz m (by omega)
  rw [put_on] at h1
  show (if z = (i:Int) then _ else _) = _
  rw [if_neg (fun e => h1 e.symm)]
  refine h.2 z fun k hk => ?_
  have:=hz k (by omega)
  rwa [put_off _ _ (by omega)] at this
set_option maxRecDepth 100000 in
set_option maxHeartbeats 2000000 in
theorem hasR_yes (h:SW w p a l u S s c cnt st op f t R U) (x:Nat) (hx:x < 4294967296) (h8:S.now 8 = x) (hn8:8 < a.n) (i:Int) (hr:R i = some (.int .u64 x)) :
  Calls Tryz.prog 148 #[ptr s.b, .int .i64 i] w fun e w' => e = .returned (.bool true) ∧ w = w':=by
 have c8:=h.sec.cell 8 rfl
 have c0:=h.sec.cell 0 rfl
 have HE:=hid (epoch6_at h.lw x (by omega) h8 hn8)
 have hep:epN x = x:=Nat.mod_eq_of_lt hx
 rw [hep] at HE
 clear h8 hep
 go_enter Tryz.func148,Tryz.ntmps148
 go_wp2_with (at_lookup; refine wpList_found_at rfl _ _ _ rfl 3 80 Tryz.underlying72 Tryz.underlying3 (.int .u64 0) (by kernel_rfl) s.rb _ rfl h.rm i rfl _ hr ?_)
 refine HE.out.mono ?_
 rintro e w1 ⟨rfl,rfl⟩
 go_wp2_with fail
 go_ret
 exact ⟨rfl,rfl⟩
set_option maxRecDepth 100000 in
set_option maxHeartbeats 2000000 in
theorem hasR_no (h:SW w p a l u S s c cnt st op f t R U) (i:Int) (hr:R i = none) :
  Calls Tryz.prog 148 #[ptr s.b, .int .i64 i] w fun e w' => e = .returned (.bool false) ∧ w = w':=by
 have c8:=h.sec.cell 8 rfl
 have c0:=h.sec.cell 0 rfl
 go_enter Tryz.func148,Tryz.ntmps148
 go_wp2_with (at_lookup; refine wpList_missed_at rfl _ _ _ rfl 3 80 Tryz.underlying72 Tryz.underlying3 (.int .u64 0) (by kernel_rfl) s.rb _ rfl h.rm i rfl hr ?_)
 go_ret
 exact ⟨rfl,rfl⟩
end
end Go.Proofs.YtglpoffbkkdjiaaGreat
namespace Go.Proofs.YtglpoffbkkdjiaaGreat
open Go.RowKit Go.OpenShut
section
variable {w w':World} {p:Nat} {a:DA} {l u u':Int} {S S':DS} {s:Sc} {c:Cfg} {m e0 r:Nat} {st:Bool} {op:Bool} {f t:Int} {R U:Int → Option Value} {pl:Nat → Nat} {wd:Nat → Int} {cs:List Cmd} {v:Value} {e:Ending}
set_option maxRecDepth 100000 in
set_option maxHeartbeats 2000000 in
theorem record_fresh (h:SW w p a l u S s c m st op f t R U) (i:Int) (hf:freshB f t i = true) :
  Calls Tryz.prog 128 #[ptr s.b, .int .i64 i] w fun e w' => e = .returned (.int .i64 0) ∧ Keeps [] w w':=by
 have c6:=h.sec.cell 6 rfl
 have c7:=h.sec.cell 7 rfl
 have HF:=hid (shas_at w f t i)
 rw [hf] at HF
 clear hf
 go_enter Tryz.func128,Tryz.ntmps128
 go_wp2_with fail
 refine HF.out.mono ?_
 rintro e w1 ⟨rfl,rfl⟩
 go_wp2_with fail
 go_ret
 exact ⟨rfl,(Keeps.refl _ _).alloc _⟩
set_option maxRecDepth 100000 in
set_option maxHeartbeats 2000000 in
theorem record_has (h:SW w p a l u S s c m st op f t R U) (x:Nat) (hx:x < 4294967296) (h8:S.now 8 = x) (hn8:8 < a.n) (i:Int) (hf:freshB f t i = false) (hr:R i = some (.int .u64 x)) :
  Calls Tryz.prog 128 #[ptr s.b, .int .i64 i] w fun e w' => e = .returned (.int .i64 0) ∧ Keeps [] w w':=by
 have c6:=h.sec.cell 6 rfl
 have c7:=h.sec.cell 7 rfl
 have HF:=hid (shas_at w f t i)
 have HH:=hid (hasR_yes (h.keep0 ((Keeps.refl [] w).alloc (spO f t))) x hx h8 hn8 i hr)
 rw [hf] at HF
 clear hf h8 hr
 go_enter Tryz.func128,Tryz.ntmps128
 go_wp2_with fail
 refine HF.out.mono ?_
 rintro e w1 ⟨rfl,rfl⟩
 go_wp2_with fail
 refine HH.out.mono ?_
 rintro e w1 ⟨rfl,rfl⟩
 go_wp2_with fail
 go_ret
 exact ⟨rfl,(Keeps.refl _ _).alloc _⟩
set_option maxRecDepth 100000 in
set_option maxHeartbeats 2000000 in
theorem record_new (h:SW w p a l u S s c m st op f t R U) (hc:c.Ok) (hn:c.words = a.n) (hL:LR c a.n e0 r m pl wd S) (hrb:r < 4294967296) (i:Nat) (hi:c.act ≤ i ∧ i < a.n) (hf:freshB f t i = false) (hr:R (i:Int) = none) (hm:m < c.log) (hb:u < 4611686018427340000) :
  Calls Tryz.prog 128 #[ptr s.b, .int .i64 i] w (RanS p a l u S s c (m + 1) true op f t (fun z => if z = (i:Int) then some (.int .u64 (eN e0 r:Nat)) else R z) U (appL c st false m (eN e0 r) i (S.now i)) (.int .i64 0) w):=by
 have c6:=h.sec.cell 6 rfl
 have c7:=h.sec.cell 7 rfl
 have HF:=hid (shas_at w f t i)
 have K1:=(Keeps.refl [] w).alloc (spO f t)
 have h1:=h.keep0 K1
 have HH:=hid (hasR_no h1 i hr)
 have HA:=hid (append_li h1.lw hc hn hL hrb hm i hi.2 hb)
 have d0:=h1.sec.cell 0 rfl
 have HL:=hid (app_done (st:=st) hL hm i (S.now i) hi)
 have hci:=hid (c_in hc hn)
 rw [hf] at HF
 clear hf hr hm hL hi
 go_enter Tryz.func128,Tryz.ntmps128
 go_wp2_with fail
 refine HF.out.mono ?_
 rintro e w1 ⟨rfl,rfl⟩
 go_wp2_with fail
 refine HH.out.mono ?_
 rintro e w1 ⟨rfl,rfl⟩
 go_wp2_with fail
 refine HA.out.mono ?_
 rintro e w2 (⟨rfl,h2,k2⟩ | ⟨rfl,⟨S',d2,h2⟩,k2⟩)
 rotate_left
 ·exact ⟨rfl,ranS_cut h2 d2 (K1.nos.trans k2.lgs)⟩
 have l2:=h1.log h2 k2
 have K2:Keeps (s.bl p a) w w2:=K1.nos.trans k2.lgs
 clear d0 c6 c7 h1 k2 K1 HH HA HF h2
 obtain ⟨S2,hS2⟩:∃ S2,S2 = execs S (appL c st false m (eN e0 r) i (S.now i)):=⟨_,rfl⟩
 obtain ⟨u2,hu2⟩:∃ u2,u2 = u + ((appL c st false m (eN e0 r) i (S.now i)).length:Int):=⟨_,rfl⟩
 rw [← hS2, ← hu2] at l2
 rw [← hS2] at HL
 have HS2:=hid hS2
 have HU2:=hid hu2
 clear hS2 hu2
 have hep:epN (eN e0 r) = eN e0 r:=epN_eN e0 r
 have HE:=hid (fun (w':World) (hk:Keeps [] w2 w') => epoch6_at (l2.keep0 hk).lw (eN e0 r) (by have:=eN_lt e0 r; omega) HL.out.ep.1 hci.out.2.1)
 rw [hep] at HE
 clear hep
 obtain ⟨w3,hrun,hm3,hk3⟩:=(l2.keep0 (Keeps.refl [] w2).drew).rm.update (P:=Tryz.prog) (t:=72) Tryz.underlying72 Tryz.underlying3 (i:Int) (.int .u64 (eN e0 r:Nat))
 have kk:Keeps [] w2 w2.drew:=(Keeps.refl _ _).drew
 have HS:Hid (∀ w',SW w' p a l u2 S2 s c (m + 1) true op f t R U → (w'.cell? ⟨s.b,0,none⟩ = some (ptr s.lb) ∧ w'.cell? ⟨s.b,8,none⟩ = some (.map (some s.rb)))):=fun w' h => ⟨h.sec.cell 0 rfl,h.sec.cell 8 rfl⟩
 have l3:=(l2.keep0 (Keeps.refl [] w2).drew).setR hm3 hk3
 have HS3:Hid (w3.cell? ⟨s.b,0,none⟩ = some (ptr s.lb) ∧ w3.cell? ⟨s.b,8,none⟩ = some (.map (some s.rb))):=⟨l3.sec.cell 0 rfl,l3.sec.cell 8 rfl⟩
 go_upto_region 6 with fail
 go_region_held3 (fun w' => w'.cell? ⟨s.b,0,none⟩ = some (ptr s.lb) ∧ w'.cell? ⟨s.b,8,none⟩ = some (.map (some s.rb)))
  (first | exact HS.out _ (l2.keep0 kk) | exact HS3.out)
  (first | (go_at_call 145; refine (HE.out _ kk).mono ?_; rintro e w' ⟨rfl,rfl⟩))
 go_wp2_with fail
 go_ret
 exact ranS_end l3 HU2.out HS2.out ((K2.trans (kk.nos)).trans hk3.rps)
end
end Go.Proofs.YtglpoffbkkdjiaaGreat
namespace Go.Proofs.YtglpoffbkkdjiaaGreat
open Go.RowKit Go.OpenShut
section
variable {w w':World} {p:Nat} {a:DA} {l u u':Int} {S S':DS} {s:Sc} {c:Cfg} {m e0 r:Nat} {st:Bool} {op:Bool} {f t f' t':Int} {R U:Int → Option Value} {pl:Nat → Nat} {wd:Nat → Int} {cs:List Cmd} {v:Value} {e:Ending}
set_option maxRecDepth 100000 in
set_option maxHeartbeats 2000000 in
theorem sstore_out (h:SW w p a l u S s c m st true f t R U) (hs:c.Small) (i v:Int) (hi:i < (c.act:Int) ∨ (a.n:Int) ≤ i) :
  Calls Tryz.prog 104 #[ptr s.b, .int .i64 i, .int .u64 v] w fun e w' => e = .returned (.int .i64 1) ∧ Keeps [] w w':=by
 have c1:=h.sec.cell 1 rfl
 have c2:=h.sec.cell 2 rfl
 have c3:=h.sec.cell 3 rfl
 have c4:=h.sec.cell 4 rfl
 have c5:=h.sec.cell 5 rfl
 by_cases h1:i < (c.act:Int)
 ·have t1:decide (i < (c.act:Int)) = true:=by rw [decide_eq_true_eq]; exact h1
  clear hi h1
  go_enter Tryz.func104,Tryz.ntmps104
  go_wp2_with fail
  refine (active_at w c hs).mono ?_
  rintro e w1 ⟨rfl,hk1⟩
  go_wp2_with fail
  go_ret
  exact ⟨rfl,hk1⟩
 ·have t1:decide (i < (c.act:Int)) = false:=by rw [decide_eq_false_iff_not]; exact h1
  have t2:decide ((a.n:Int) ≤ i) = true:=by rw [decide_eq_true_eq]; omega
  clear hi h1
  go_enter Tryz.func104,Tryz.ntmps104
  go_wp2_with fail
  refine (active_at w c hs).mono ?_
  rintro e w1 ⟨rfl,hk1⟩
  have l1:=h.keep0 hk1
  clear c1 c2 c3 c4 c5
  have c1:=l1.sec.cell 1 rfl
  go_wp2_with fail
  refine (len_at w1 p a S l1.lw.pw.dev).mono ?_
  rintro e w2 ⟨rfl,rfl⟩
  go_wp2_with fail
  go_ret
  exact ⟨rfl,hk1⟩
set_option maxRecDepth 100000 in
set_option maxHeartbeats 2000000 in
theorem sstore_old (h:SW w p a l u S s c m st true f t R U) (hs:c.Small) (x:Nat) (hx:x < 4294967296) (h8:S.now 8 = x) (hn8:8 < a.n) (hn:a.n ≤ 15000) (i:Nat) (v:Int) (hi:c.act ≤ i ∧ i < a.n) (hr:freshB f t i = true ∨ freshB f t i = false ∧ R (i:Int) = some (.int .u64 x)) (hb:u < 4611686018427340000) :
  Calls Tryz.prog 104 #[ptr s.b, .int .i64 i, .int .u64 v] w (RanS p a l u S s c m st true f t R (mkU U i) [.st i v] (.int .i64 0) w):=by
 have c1:=h.sec.cell 1 rfl
 have c2:=h.sec.cell 2 rfl
 have c3:=h.sec.cell 3 rfl
 have c4:=h.sec.cell 4 rfl
 have c5:=h.sec.cell 5 rfl
 have t1:decide ((i:Int) < (c.act:Int)) = false:=by rw [decide_eq_false_iff_not]; omega
 have t2:decide ((a.n:Int) ≤ (i:Int)) = false:=by rw [decide_eq_false_iff_not]; omega
 have t3:decide (i < c.act) = false:=by rw [decide_eq_false_iff_not]; omega
 have t4:decide (a.n ≤ i) = false:=by rw [decide_eq_false_iff_not]; omega
 have HI:=hid hi
 have HR:Hid (∀ w',Keeps [] w w' → Calls Tryz.prog 128 #[ptr s.b, .int .i64 i] w' fun e w'' => e = .returned (.int .i64 0) ∧ Keeps [] w' w''):=fun w' hk => by
  rcases hr with hf | ⟨hf,hr⟩
  ·exact record_fresh (h.keep0 hk) i hf
  ·exact record_has (h.keep0 hk) x hx h8 hn8 i hf hr
 clear hi hr h8
 go_enter Tryz.func104,Tryz.ntmps104
 go_wp2_with fail
 refine (active_at w c hs).mono ?_
 rintro e w1 ⟨rfl,hk1⟩
 have l1:=h.keep0 hk1
 clear c1 c2 c3 c4 c5
 have c1:=l1.sec.cell 1 rfl
 go_wp2_with fail
 refine (len_at w1 p a S l1.lw.pw.dev).mono ?_
 rintro e w2 ⟨rfl,rfl⟩
 go_wp2_with fail
 refine (HR.out _ hk1).mono ?_
 rintro e w2 ⟨rfl,hk2⟩
 have l2:=l1.keep0 hk2
 clear c1 HR
 go_wp2_with fail
 refine (mark_at l2 i (by have:=HI.out; omega)).mono ?_
 rintro e w3 ⟨rfl,l3,hk3⟩
 have K3:Keeps (s.bl p a) w w3:=(hk1.trans hk2).nos.trans hk3.ups
 have c1:=l3.sec.cell 1 rfl
 go_wp2_with fail
 refine (store_ran w3 p a l u S i v l3.lw.pw HI.out.2 (by omega)).mono ?_
 rintro e w4 (⟨rfl,h4,k4⟩ | ⟨rfl,⟨S',d4,h4⟩,k4⟩)
 rotate_left
 ·exact ⟨rfl,ranS_cut h4 d4 (K3.trans k4.dvs)⟩
 go_wp2_with fail
 go_ret
 exact ranS_end (l3.next h4 k4) rfl rfl (K3.trans k4.dvs)
set_option maxRecDepth 100000 in
set_option maxHeartbeats 2000000 in
theorem sstore_new (h:SW w p a l u S s c m st true f t R U) (hc:c.Ok) (hn:c.words = a.n) (hL:LR c a.n e0 r m pl wd S) (hrb:r < 4294967296) (i:Nat) (v:Int) (hi:c.act ≤ i ∧ i < a.n) (hf:freshB f t i = false) (hr:R (i:Int) = none) (hm:m < c.log) (hb:u < 4611686018427330000) :
  Calls Tryz.prog 104 #[ptr s.b, .int .i64 i, .int .u64 v] w (RanS p a l u S s c (m + 1) true true f t (fun z => if z = (i:Int) then some (.int .u64 (eN e0 r:Nat)) else R z) (mkU U i) (appL c st false m (eN e0 r) i (S.now i) ++ [.st i v]) (.int .i64 0) w):=by
 have c1:=h.sec.cell 1 rfl
 have c2:=h.sec.cell 2 rfl
 have c3:=h.sec.cell 3 rfl
 have c4:=h.sec.cell 4 rfl
 have c5:=h.sec.cell 5 rfl
 have hci:=c_in hc hn
 have hlen:=appL_len (st:=st) (m:=m) hc (eN e0 r) i (S.now i)
 have t1:decide ((i:Int) < (c.act:Int)) = false:=by rw [decide_eq_false_iff_not]; omega
 have t2:decide ((a.n:Int) ≤ (i:Int)) = false:=by rw [decide_eq_false_iff_not]; omega
 have t3:decide (i < c.act) = false:=by rw [decide_eq_false_iff_not]; omega
 have t4:decide (a.n ≤ i) = false:=by rw [decide_eq_false_iff_not]; omega
 have HI:=hid (show i < a.n ∧ i ≤ 100000 by omega)
 have HR:=hid (fun (w':World) (hk:Keeps [] w w') => record_new (h.keep0 hk) hc hn hL hrb i hi hf hr hm (by omega))
 have HL:=hid hlen
 have hub:=hid hb
 have hs:=hc.small
 clear hi hf hr hm hL hci hlen hn hc
 go_enter Tryz.func104,Tryz.ntmps104
 go_wp2_with fail
 refine (active_at w c hs).mono ?_
 rintro e w1 ⟨rfl,hk1⟩
 have l1:=h.keep0 hk1
 clear c1 c2 c3 c4 c5
 have c1:=l1.sec.cell 1 rfl
 go_wp2_with fail
 refine (len_at w1 p a S l1.lw.pw.dev).mono ?_
 rintro e w2 ⟨rfl,rfl⟩
 go_wp2_with fail
 refine (HR.out _ hk1).mono ?_
 rintro e w2 (⟨rfl,l2,k2⟩ | ⟨rfl,⟨S',d2,h2⟩,k2⟩)
 rotate_left
 ·exact ⟨rfl,ranS_cut h2 (d2.left _) (hk1.nos.trans k2)⟩
 have K2:Keeps (s.bl p a) w w2:=hk1.nos.trans k2
 clear c1 HR k2
 go_wp2_with fail
 refine (mark_at l2 i HI.out.2).mono ?_
 rintro e w3 ⟨rfl,l3,hk3⟩
 have K3:Keeps (s.bl p a) w w3:=K2.trans hk3.ups
 have c1:=l3.sec.cell 1 rfl
 go_wp2_with fail
 refine (store_ran w3 p a l _ _ i v l3.lw.pw HI.out.1 (by have:=HL.out; have:=hub.out; omega)).mono ?_
 rintro e w4 (⟨rfl,h4,k4⟩ | ⟨rfl,⟨S',d4,h4⟩,k4⟩)
 rotate_left
 ·exact ⟨rfl,ranS_cut h4 (Cut.right d4 rfl rfl) (K3.trans k4.dvs)⟩
 go_wp2_with fail
 go_ret
 exact ranS_end (l3.next h4 k4) (by simp; omega) (by rw [execs_append]) (K3.trans k4.dvs)
end
end Go.Proofs.YtglpoffbkkdjiaaGreat
namespace Go.Proofs.YtglpoffbkkdjiaaGreat
open Go.RowKit Go.OpenShut
section
variable {w w':World} {p:Nat} {a:DA} {l u u':Int} {S S':DS} {s:Sc} {c:Cfg} {m e0 r:Nat} {st:Bool} {op:Bool} {f t f' t':Int} {R U:Int → Option Value} {pl:Nat → Nat} {wd:Nat → Int} {cs:List Cmd} {v:Value} {e:Ending}
set_option maxRecDepth 100000 in
set_option maxHeartbeats 2000000 in
theorem begin_ran (h:SW w p a l u S s c m st false f t R U) (hU:UIn U a.n) (hn8:8 < a.n) (hn:a.n ≤ 15000) (hb:u < 4611686018427350000) :
  Calls Tryz.prog 103 #[ptr s.b,spV f' t'] w fun e w' => ∃ ss,KeysOf U ss ∧ RanS p a l u S s c m st true f' t' (fun _ => none) (fun _ => none) (kpC ss) (.int .i64 0) w e w':=by
 have K1:=(Keeps.refl [] w).alloc (spO f' t')
 have h1:=h.keep0 K1
 have c5:=h1.sec.cell 5 rfl
 have hB:=At.new w (spO f' t')
 have hBn:w.heap.size ∉ s.bl p a:=by
  unfold Sc.bl
  have q1:=h.lw.pw.pow.lt
  have q2:=h.lw.pw.dev.now.lt
  have q3:=h.lw.pw.dev.kept.lt
  have q4:=h.lw.pw.dev.map.lt
  have q5:=h.lw.log.lt
  have q6:=h.sec.lt
  have q7:=h.rm.lt
  have q8:=h.um.lt
  simp only [List.mem_cons,List.not_mem_nil,or_false,not_or]
  exact ⟨by omega,by omega,by omega,by omega,by omega,by omega,by omega,by omega⟩
 go_enter Tryz.func103,Tryz.ntmps103
 go_wp2_with fail
 refine (skeep_ran h1 hU hn8 hn (by omega)).mono ?_
 rintro e w2 ⟨ss,hss,⟨rfl,l2,k2⟩ | ⟨rfl,⟨S',d2,h2⟩,k2⟩⟩
 rotate_left
 ·exact ⟨rfl,ss,hss,ranS_cut h2 d2 (K1.nos.trans k2)⟩
 have hB2:=k2.at hB hBn
 have K2:Keeps (s.bl p a) w w2:=K1.nos.trans k2
 have HSS:=hid hss
 clear c5 hss k2 hB h1
 have c8:=l2.sec.cell 8 rfl
 go_wp2_with (refine wpList_clear_at rfl _ _ rfl 3 80 Tryz.underlying72 s.rb _ rfl l2.rm ?_; intro w3 hm3 hk3; have l3:=l2.setR hm3 hk3; have hB3:=hk3.at hB2 (fun hm => hBn (by unfold Sc.bl; simp only [List.mem_cons,List.not_mem_nil,or_false] at hm ⊢; simp [hm])); have K3:Keeps (s.bl p a) w w3:=K2.trans hk3.rps; have b0:=hB3.cell 0 rfl; have b1:=hB3.cell 1 rfl; have f6:=l3.sec.free 6; have f7:=l3.sec.free 7; have c6:=l3.sec.cell 6 rfl; have c7:=l3.sec.cell 7 rfl; have f5:=l3.sec.free 5; have c5:=l3.sec.cell 5 rfl)
 go_ret
 have l6:=((l3.set 6 (.int .i64 f') (op':=false) (f':=f') (t':=t) (by simp)).set 7 (.int .i64 t') (op':=false) (f':=f') (t':=t') (by simp)).set 5 (.bool true) (op':=true) (f':=f') (t':=t') (by simp)
 have hb:s.b ∈ s.bl p a:=by unfold Sc.bl; simp
 exact ⟨ss,HSS.out,ranS_end l6 rfl rfl (((K3.set (.inl hb) _).set (.inl hb) _).set (.inl hb) _)⟩
theorem kpC_off {ss:List Int} {y:Cmd} (h:y ∈ kpC ss) (j:Nat):y.Off j:=by
 unfold kpC at h
 simp only [List.mem_append,List.mem_singleton] at h
 rcases h with rfl | h | rfl
 ·trivial
 ·obtain ⟨i,_,rfl⟩:=mem_rowL h
  trivial
 ·trivial
theorem LR.kp {n:Nat} (h:LR c n e0 r m pl wd S) (ss:List Int):LR c n e0 r m pl wd (execs S (kpC ss)) :=
 h.pre (pre_execs fun _ hy => kpC_off hy _) (fun _ _ => ⟨pre_execs fun _ hy => kpC_off hy _,pre_execs fun _ hy => kpC_off hy _,pre_execs fun _ hy => kpC_off hy _⟩) fun _ _ _ => pre_execs fun _ hy => kpC_off hy _
def truS (c:Cfg) (st:Bool) (m e:Nat):List Cmd:=if m = 0 then [] else truL c st e
set_option maxRecDepth 100000 in
set_option maxHeartbeats 2000000 in
theorem commit_ran (h:SW w p a l u S s c m st true f t R U) (hU:UIn U a.n) (hc:c.Ok) (hn:c.words = a.n) (hL:LR c a.n e0 r m pl wd S) (hb:u < 4611686018427330000) :
  Calls Tryz.prog 106 #[ptr s.b] w fun e w' => ∃ ss,KeysOf U ss ∧ RanS p a l u S s c 0 (stS m st) false f t R (fun _ => none) (kpC ss ++ truS c st m (eN e0 r)) (.int .i64 0) w e w':=by
 have c5:=h.sec.cell 5 rfl
 have hci:=c_in hc hn
 have hK:=hid (skeep_ran h hU hci.2.1 hci.2.2.2.2 (by omega))
 have hfew:=hid (fun ss (hss:KeysOf U ss) => hU.few hci.2.2.2.2 hss)
 clear hci hU
 go_enter Tryz.func106,Tryz.ntmps106
 go_wp2_with fail
 refine hK.out.mono ?_
 rintro e w2 ⟨ss,hss,⟨rfl,l2,k2⟩ | ⟨rfl,⟨S',d2,h2⟩,k2⟩⟩
 rotate_left
 ·exact ⟨rfl,ss,hss,ranS_cut h2 (d2.left _) k2⟩
 have hf:=hfew.out ss hss
 have HSS:=hid hss
 have HT:=hid (trunc_li l2.lw hc hn (hL.kp ss) (by rw [kpC_len]; omega))
 have c0:=l2.sec.cell 0 rfl
 clear c5 hK hfew hss hf
 go_wp2_with fail
 refine HT.out.mono ?_
 rintro e w3 (⟨rfl,h3,k3⟩ | ⟨rfl,⟨S',d3,h3⟩,k3⟩)
 rotate_left
 ·exact ⟨rfl,ss,HSS.out,ranS_cut h3 (Cut.right d3 rfl rfl) (k2.trans k3.lgs)⟩
 have l3:=l2.log h3 k3
 have f5:=l3.sec.free 5
 have c5:=l3.sec.cell 5 rfl
 clear c0 HT
 go_wp2_with fail
 go_ret
 have hb:s.b ∈ s.bl p a:=by unfold Sc.bl; simp
 refine ⟨ss,HSS.out,ranS_end (l3.set 5 (.bool false) (op':=false) (f':=f) (t':=t) (by simp)) ?_ ?_ ((k2.trans k3.lgs).set (.inl hb) _)⟩
 ·unfold truS; simp only [List.length_append]; omega
 ·unfold truS; rw [execs_append]
set_option maxRecDepth 100000 in
set_option maxHeartbeats 2000000 in
theorem abort_ran (h:SW w p a l u S s c m st true f t R U) (hU:UIn U a.n) (hc:c.Ok) (hn:c.words = a.n) (hL:LR c a.n e0 r m pl wd S) (hb:u < 4611686018427330000) :
  Calls Tryz.prog 105 #[ptr s.b] w fun e w' => ∃ ss,KeysOf U ss ∧ RanS p a l u S s c 0 (stS m st) false f t R (fun _ => none) (undS c st pl wd m (eN e0 r) ++ kpC ss) (.int .i64 0) w e w':=by
 have c5:=h.sec.cell 5 rfl
 have c0:=h.sec.cell 0 rfl
 have hci:=hid (c_in hc hn)
 have HU:=hid (undo_li h.lw hc hn hL (by omega))
 have hlen:=hid (undS_len (st:=st) (pl:=pl) (wd:=wd) hc hL.le (eN e0 r))
 have hK0:∃ ss,KeysOf U ss:=by
  obtain ⟨D0,_,_,hP⟩:=h.um.owns (P:=Tryz.prog) (fun k v hk => by have:=hU k v hk; have:=hci.out; omega) 3 Tryz.underlying3
  exact ⟨_,hP _ (List.Perm.refl _)⟩
 have HUI:=hid hU
 clear hU
 go_enter Tryz.func105,Tryz.ntmps105
 go_wp2_with fail
 refine HU.out.mono ?_
 rintro e w2 (⟨rfl,h2,k2⟩ | ⟨rfl,⟨S',d2,h2⟩,k2⟩)
 rotate_left
 ·obtain ⟨ss,hss⟩:=hK0
  exact ⟨rfl,ss,hss,ranS_cut h2 (d2.left _) k2.lgs⟩
 have l2:=h.log h2 k2
 clear c0 c5 hK0 HU
 go_wp2_with fail
 refine (skeep_ran l2 HUI.out hci.out.2.1 hci.out.2.2.2.2 (by have:=hlen.out; omega)).mono ?_
 rintro e w3 ⟨ss,hss,⟨rfl,l3,k3⟩ | ⟨rfl,⟨S',d3,h3⟩,k3⟩⟩
 rotate_left
 ·exact ⟨rfl,ss,hss,ranS_cut h3 (Cut.right d3 rfl rfl) (k2.lgs.trans k3)⟩
 have f5:=l3.sec.free 5
 have c5:=l3.sec.cell 5 rfl
 have HSS:=hid hss
 clear hss
 go_wp2_with fail
 go_ret
 have hb:s.b ∈ s.bl p a:=by unfold Sc.bl; simp
 refine ⟨ss,HSS.out,ranS_end (l3.set 5 (.bool false) (op':=false) (f':=f) (t':=t) (by simp)) ?_ ?_ ((k2.lgs.trans k3).set (.inl hb) _)⟩
 ·simp only [List.length_append]; omega
 ·rw [execs_append]
end
end Go.Proofs.YtglpoffbkkdjiaaGreat
namespace Go.Proofs.YtglpoffbkkdjiaaGreat
open Go.RowKit Go.OpenShut
theorem SW.make {w:World} {p:Nat} {a:DA} {l u:Int} {S:DS} {lb rb ub:Nat} {c:Cfg} {m:Nat} {st:Bool} {R U:Int → Option Value} (h:LW w p a l u S lb c m st) (hr:IMap w rb R) (hu:IMap w ub U) (ru:rb ≠ ub) (ra:rb ≠ a.m) (ua:ub ≠ a.m) :
  SW (w.alloc (secO a.d ⟨w.heap.size,lb,rb,ub⟩ c false 0 0)) p a l u S ⟨w.heap.size,lb,rb,ub⟩ c m st false 0 0 R U :=
 ⟨h.keep0 ((Keeps.refl [] w).alloc _),At.new _ _,hr.keep ((Keeps.refl [] w).alloc _) (by simp),hu.keep ((Keeps.refl [] w).alloc _) (by simp),ru,ra,ua⟩
def New0 (w:World) (p:Nat) (a:DA) (l u:Int) (S:DS) (c:Cfg) (m:Nat) (v:Value) (w':World):Prop :=
 ∃ s:Sc,v = ptr s.b ∧ SW w' p a l u S s c m false false 0 0 (fun _ => none) (fun _ => none) ∧ Keeps [] w w' ∧ w.heap.size ≤ s.b ∧ w.heap.size ≤ s.lb ∧ w.heap.size ≤ s.rb ∧ w.heap.size ≤ s.ub
abbrev mapO:Obj:=.map #[] 0
theorem im1 (w:World):IMap ((w.alloc mapO).alloc mapO) w.heap.size (fun _ => none):=(IMap.made w).keep ((Keeps.refl [] (w.alloc mapO)).alloc _) (by simp)
theorem im2 (w:World):IMap ((w.alloc mapO).alloc mapO) (w.heap.size + 1) (fun _ => none):=by
 have:=IMap.made (w.alloc mapO)
 rwa [show (w.alloc mapO).heap.size = w.heap.size + 1 by simp] at this
theorem new0_of {w w3:World} {p:Nat} {a:DA} {l u:Int} {S:DS} {b lb rb ub:Nat} {c:Cfg} {m:Nat} (hL:LW w3 p a l u S lb c m false) (K:Keeps [] w w3) (hr:IMap w3 rb (fun _ => none)) (hu:IMap w3 ub (fun _ => none)) (ham:a.m < w.heap.size) (hb:b = w3.heap.size) (hs:w.heap.size ≤ lb ∧ w.heap.size ≤ rb ∧ w.heap.size ≤ ub ∧ rb ≠ ub) :
  New0 w p a l u S c m (ptr b) (w3.alloc (secO a.d ⟨b,lb,rb,ub⟩ c false 0 0)):=by
 subst hb
 exact ⟨⟨w3.heap.size,lb,rb,ub⟩,rfl,SW.make hL hr hu hs.2.2.2 (by omega) (by omega),K.alloc _,K.size,hs.1,hs.2.1,hs.2.2.1⟩
section
variable {w w':World} {p:Nat} {a:DA} {l u u':Int} {S S':DS} {s:Sc} {c:Cfg} {m e0 r:Nat} {st:Bool} {op:Bool} {f t f' t':Int} {R U:Int → Option Value} {pl:Nat → Nat} {wd:Nat → Int} {cs:List Cmd} {v:Value} {e:Ending}
set_option maxRecDepth 100000 in
set_option maxHeartbeats 4000000 in
theorem snew_at (h:Pw w p a l u S) (hc:c.Ok) (hn:c.words = a.n) (hL:LR c a.n e0 r m pl wd S) (hr:r < 4294967296) :
  Calls Tryz.prog 29 #[ptr a.d,cfgV c] w fun e w' => ∃ s U,e = .returned (ptr s.b) ∧ SW w' p a l u S s c m false false 0 0 (fun _ => none) U ∧ UIn U a.n ∧ Keeps [] w w' ∧ w.heap.size ≤ s.b ∧ w.heap.size ≤ s.lb ∧ w.heap.size ≤ s.rb ∧ w.heap.size ≤ s.ub:=by
 have hci:=c_in hc hn
 have ham:a.m < w.heap.size:=h.dev.map.lt
 have HO:=hid (fun (w':World) (hk:Keeps [] w w') => open_li (h.keep0 hk) hc hn hL hr)
 have hB:=At.new w (cfgO c)
 have K0:=(Keeps.refl [] w).alloc (cfgO c)
 have hmm:=@run_makeMap Tryz.prog
 clear hL hc
 go_enter Tryz.func29,Tryz.ntmps29
 go_upto_region 1 with fail
 obtain ⟨w0,hw0⟩:∃ w0,w0 = w.alloc (cfgO c):=⟨_,rfl⟩
 obtain ⟨bc,hbc⟩:∃ bc,bc = w.heap.size:=⟨_,rfl⟩
 have hz0:w.heap.size ≤ w0.heap.size:=by rw [hw0]; simp
 rw [← hw0] at hB K0 ⊢
 rw [← hbc] at hB ham hz0 ⊢
 have HBC:=hid hbc
 clear hw0 hbc
 have HS:Hid (∀ w',Keeps [] w0 w' → (w'.cell? ⟨bc,0,none⟩ = some (.int .i64 c.log) ∧ w'.cell? ⟨bc,1,none⟩ = some (.int .i64 c.roots) ∧ w'.cell? ⟨bc,2,none⟩ = some (.int .i64 c.space))):=fun w' hk => ⟨(hk.at hB (by simp)).cell 0 rfl,(hk.at hB (by simp)).cell 1 rfl,(hk.at hB (by simp)).cell 2 rfl⟩
 have kk:Keeps [] w0 w0.drew:=(Keeps.refl _ _).drew
 go_cut [5] from 7 to 15 (fun s5 wx => New0 w p a l u S c m s5 wx)
 case first =>
  go_region_held3 (fun w' => w'.cell? ⟨bc,0,none⟩ = some (.int .i64 c.log) ∧ w'.cell? ⟨bc,1,none⟩ = some (.int .i64 c.roots) ∧ w'.cell? ⟨bc,2,none⟩ = some (.int .i64 c.space))
   (exact HS.out _ (by repeat first | exact kk | apply Keeps.drew | apply Keeps.alloc | exact Keeps.refl _ _))
   (first | (go_at_call 49; refine (HO.out _ (K0.trans (by repeat first | exact kk | apply Keeps.drew | apply Keeps.alloc | exact Keeps.refl _ _))).mono ?_; rintro e w' ⟨lb,rfl,hlb,hLW,hk4⟩; have kk:Keeps [] w0 w':=Keeps.trans (by repeat first | exact kk | apply Keeps.drew | apply Keeps.alloc | exact Keeps.refl _ _) hk4))
  all_goals
   have hzk:=kk.size
   have hz4:=hk4.size
   have HB2:=HBC.out
   rw [HB2] at ham hz0
   simp at hlb hz4
   go_wp2_with fail
   go_meet
  ·refine new0_of (hLW.keep0 (by repeat first | exact kk | exact hk4 | exact Keeps.trans (Keeps.drew (Keeps.refl _ _) ) hk4 | apply Keeps.drew | apply Keeps.alloc | exact Keeps.refl _ _)) (K0.trans (by repeat first | exact kk | exact hk4 | exact Keeps.trans (Keeps.drew (Keeps.refl _ _) ) hk4 | apply Keeps.drew | apply Keeps.alloc | exact Keeps.refl _ _)) (im1 _) (im2 _) ham (by simp) (by simp; omega)
  ·refine new0_of (hLW.keep0 (by repeat first | exact kk | exact hk4 | exact Keeps.trans (Keeps.drew (Keeps.refl _ _) ) hk4 | apply Keeps.drew | apply Keeps.alloc | exact Keeps.refl _ _)) (K0.trans (by repeat first | exact kk | exact hk4 | exact Keeps.trans (Keeps.drew (Keeps.refl _ _) ) hk4 | apply Keeps.drew | apply Keeps.alloc | exact Keeps.refl _ _)) (im2 _) (im1 _) ham (by simp) (by simp; omega)
  ·refine new0_of (hLW.keep0 (by repeat first | exact kk | exact hk4 | exact Keeps.trans (Keeps.drew (Keeps.refl _ _) ) hk4 | apply Keeps.drew | apply Keeps.alloc | exact Keeps.refl _ _)) (K0.trans (by repeat first | exact kk | exact hk4 | exact Keeps.trans (Keeps.drew (Keeps.refl _ _) ) hk4 | apply Keeps.drew | apply Keeps.alloc | exact Keeps.refl _ _)) ((IMap.made w0).keep (S:=[]) (w':=_) (by repeat first | exact kk | exact hk4 | exact Keeps.trans (Keeps.drew (Keeps.refl _ _) ) hk4 | apply Keeps.drew | apply Keeps.alloc | exact Keeps.refl _ _) (by simp)) (IMap.made _) ham (by simp) (by simp; omega)
  ·refine new0_of (hLW.keep0 (by repeat first | exact kk | exact hk4 | exact Keeps.trans (Keeps.drew (Keeps.refl _ _) ) hk4 | apply Keeps.drew | apply Keeps.alloc | exact Keeps.refl _ _)) (K0.trans (by repeat first | exact kk | exact hk4 | exact Keeps.trans (Keeps.drew (Keeps.refl _ _) ) hk4 | apply Keeps.drew | apply Keeps.alloc | exact Keeps.refl _ _)) ((im1 w0).keep (S:=[]) (by repeat first | exact kk | exact hk4 | exact Keeps.trans (Keeps.drew (Keeps.refl _ _) ) hk4 | apply Keeps.drew | apply Keeps.alloc | exact Keeps.refl _ _) (by simp)) ((im2 w0).keep (S:=[]) (by repeat first | exact kk | exact hk4 | exact Keeps.trans (Keeps.drew (Keeps.refl _ _) ) hk4 | apply Keeps.drew | apply Keeps.alloc | exact Keeps.refl _ _) (by simp)) ham (by simp) (by simp; omega)
  ·refine new0_of (hLW.keep0 (by repeat first | exact kk | exact hk4 | exact Keeps.trans (Keeps.drew (Keeps.refl _ _) ) hk4 | apply Keeps.drew | apply Keeps.alloc | exact Keeps.refl _ _)) (K0.trans (by repeat first | exact kk | exact hk4 | exact Keeps.trans (Keeps.drew (Keeps.refl _ _) ) hk4 | apply Keeps.drew | apply Keeps.alloc | exact Keeps.refl _ _)) (IMap.made _) ((IMap.made w0).keep (S:=[]) (by repeat first | exact kk | exact hk4 | exact Keeps.trans (Keeps.drew (Keeps.refl _ _) ) hk4 | apply Keeps.drew | apply Keeps.alloc | exact Keeps.refl _ _) (by simp)) ham (by simp) (by simp; omega)
  ·refine new0_of (hLW.keep0 (by repeat first | exact kk | exact hk4 | exact Keeps.trans (Keeps.drew (Keeps.refl _ _) ) hk4 | apply Keeps.drew | apply Keeps.alloc | exact Keeps.refl _ _)) (K0.trans (by repeat first | exact kk | exact hk4 | exact Keeps.trans (Keeps.drew (Keeps.refl _ _) ) hk4 | apply Keeps.drew | apply Keeps.alloc | exact Keeps.refl _ _)) ((im2 w0).keep (S:=[]) (by repeat first | exact kk | exact hk4 | exact Keeps.trans (Keeps.drew (Keeps.refl _ _) ) hk4 | apply Keeps.drew | apply Keeps.alloc | exact Keeps.refl _ _) (by simp)) ((im1 w0).keep (S:=[]) (by repeat first | exact kk | exact hk4 | exact Keeps.trans (Keeps.drew (Keeps.refl _ _) ) hk4 | apply Keeps.drew | apply Keeps.alloc | exact Keeps.refl _ _) (by simp)) ham (by simp) (by simp; omega)
 case rest =>
  obtain ⟨s,rfl,h0,k0,n1,n2,n3,n4⟩:=hcut
  have hN:=hid (show w.heap.size ≤ s.b ∧ w.heap.size ≤ s.lb ∧ w.heap.size ≤ s.rb ∧ w.heap.size ≤ s.ub from ⟨n1,n2,n3,n4⟩)
  have hA:=hid hci
  have hnb:(a.n:Int) ≤ 15000:=by omega
  clear HO hmm HS hB K0 kk n1 n2 n3 n4 HBC hz0 ham hci
  go_wp2_with fail
  go_loopg [6] (a.n - 8) (fun r sl wr => ∃ (i:Nat) (U:Int → Option Value),r = a.n - i ∧ i ≤ 20000 ∧ sl = .int .i64 i ∧ SW wr p a l u S s c m false false 0 0 (fun _ => none) U ∧ UIn U a.n ∧ Keeps [s.ub] wc wr)
  case atStart => exact ⟨8,_,rfl,by omega,rfl,h0,UIn.none _,Keeps.refl _ _⟩
  case round =>
   obtain ⟨i,U,hi,hi2,rfl,hL,hU,hk⟩:=hrel
   have hib:(i:Int) ≤ 20000:=by omega
   have HU:=hid hU
   clear hU
   go_wp2_with fail
   refine (len_at wr p a S hL.lw.pw.dev).mono ?_
   rintro e w2 ⟨rfl,rfl⟩
   by_cases hlt:i < a.n
   ·have t1:decide ((i:Int) < (a.n:Int)) = true:=by rw [decide_eq_true_eq]; omega
    have t2:decide (i < a.n) = true:=by rw [decide_eq_true_eq]; omega
    have HI:=hid (And.intro hi hlt)
    clear hi hlt
    go_wp2_with fail
    refine (mark_at hL i (by omega)).mono ?_
    rintro e w3 ⟨rfl,hL3,hk3⟩
    have hli:=HI.out.2
    have h15:a.n ≤ 15000:=by omega
    go_wp2_with fail
    go_roundg (a.n - (i + 8))
    case measure => have:=HI.out; omega
    case rel => exact ⟨i + 8,_,rfl,by omega,by go_num,hL3,HU.out.mark hli,hk.trans hk3⟩
   ·have t1:decide ((i:Int) < (a.n:Int)) = false:=by rw [decide_eq_false_iff_not]; omega
    have t2:decide (i < a.n) = false:=by rw [decide_eq_false_iff_not]; omega
    clear hlt hi
    go_wp2_with fail
    go_ret
    have hn2:=hN.out
    exact ⟨s,U,rfl,hL,HU.out,k0.new hk (by simp; omega),hn2.1,hn2.2.1,hn2.2.2.1,hn2.2.2.2⟩
end
end Go.Proofs.YtglpoffbkkdjiaaGreat
namespace Go.Proofs.YtglpoffbkkdjiaaGreat
open Go.RowKit Go.OpenShut
theorem SW.lts {w:World} {p:Nat} {a:DA} {l u:Int} {S:DS} {s:Sc} {c:Cfg} {cnt:Nat} {st op:Bool} {f t:Int} {R U:Int → Option Value} (h:SW w p a l u S s c cnt st op f t R U):∀ b ∈ a.d :: s.bl p a,b < w.heap.size:=by
 unfold Sc.bl
 intro b hb
 simp only [List.mem_cons,List.not_mem_nil,or_false] at hb
 rcases hb with rfl | rfl | rfl | rfl | rfl | rfl | rfl | rfl | rfl
 ·exact h.lw.pw.dev.dev.lt
 ·exact h.lw.pw.pow.lt
 ·exact h.lw.pw.dev.now.lt
 ·exact h.lw.pw.dev.kept.lt
 ·exact h.lw.pw.dev.map.lt
 ·exact h.lw.log.lt
 ·exact h.sec.lt
 ·exact h.rm.lt
 ·exact h.um.lt
end Go.Proofs.YtglpoffbkkdjiaaGreat
namespace Go.Proofs.YtglpoffbkkdjiaaGreat
open Go.RowKit
theorem fix_kp {S:DS} {j:Nat} {v:Int} (h:Fix S j v) (ss:List Int):Fix (execs S (kpC ss)) j v:=pre_execs (fun _ hy => kpC_off hy j) _ h
theorem kpC_now (S:DS) (ss:List Int) (j:Nat):(execs S (kpC ss)).now j = S.now j:=execs_now_off _ _ fun _ hy => kpC_off hy j
def Cmd.isFl:Cmd → Prop
 | .fl _ => True
 | _ => False
theorem flushed {j:Nat}:∀ (cs:List Cmd) (S:DS),(∀ y ∈ cs,y.isFl) → ((∃ i,Cmd.fl i ∈ cs ∧ i / 8 = j / 8) ∨ (S.is (j / 8) = true ∧ S.tok j = S.now j)) → (execs S cs).now = S.now ∧ (execs S cs).is (j / 8) = true ∧ (execs S cs).tok j = S.now j
 | [],S,_,h => by
  rcases h with ⟨i,hi,_⟩ | ⟨h1,h2⟩
  ·cases hi
  ·exact ⟨rfl,h1,h2⟩
 | y :: cs,S,hy,h => by
  have hy0:=hy y List.mem_cons_self
  cases y with
  | st i v => exact hy0.elim
  | fe => exact hy0.elim
  | fl i =>
   rw [execs_cons]
   have ih:=flushed (j:=j) cs (exec S (.fl i)) (fun y h => hy y (List.mem_cons_of_mem _ h)) (by
    by_cases hij:j / 8 = i / 8
    ·right
     refine ⟨?_, ?_⟩
     ·show put S.is (i / 8) true (j / 8) = true
      rw [hij,put_on]
     ·show (if j / 8 = i / 8 then S.now j else S.tok j) = S.now j
      rw [if_pos hij]
    ·rcases h with ⟨k,hk,hkj⟩ | ⟨h1,h2⟩
     ·rcases List.mem_cons.1 hk with e | hk
      ·cases e; exact absurd hkj.symm hij
      ·exact .inl ⟨k,hk,hkj⟩
     ·right
      refine ⟨?_, ?_⟩
      ·show put S.is (i / 8) true (j / 8) = true
       rw [put_off _ _ hij]; exact h1
      ·show (if j / 8 = i / 8 then S.now j else S.tok j) = S.now j
       rw [if_neg hij]; exact h2)
   exact ih
theorem kpC_fix {S:DS} {ss:List Int} {j:Nat} (h:((j / 8:Nat):Int) ∈ ss):Fix (execs S (kpC ss)) j (S.now j):=by
 have e:kpC ss = ([Cmd.fl 8] ++ rowL (flK ss) ss.length) ++ [.fe]:=by simp [kpC]
 obtain ⟨h1,h2,h3⟩:=flushed (j:=j) ([Cmd.fl 8] ++ rowL (flK ss) ss.length) S (fun y hy => by
  rcases List.mem_append.1 hy with hy | hy
  ·rw [List.mem_singleton] at hy; subst hy; trivial
  ·obtain ⟨i,_,rfl⟩:=mem_rowL hy; trivial) (by
  obtain ⟨i,hi⟩:=List.mem_iff_getElem?.1 h
  have hil:i < ss.length:=by
   rcases Nat.lt_or_ge i ss.length with h1 | h1
   ·exact h1
   ·rw [List.getElem?_eq_none h1] at hi; cases hi
  refine .inl ⟨8 * (j / 8),List.mem_append_right _ ?_,by omega⟩
  unfold rowL
  rw [List.mem_map]
  refine ⟨i,List.mem_range.2 hil, ?_⟩
  show Cmd.fl (8 * (ss.getD i 0).toNat) = _
  rw [List.getD_eq_getElem?_getD,hi]
  rfl)
 rw [e,execs_append]
 obtain ⟨T,hT⟩:∃ T,T = execs S ([Cmd.fl 8] ++ rowL (flK ss) ss.length):=⟨_,rfl⟩
 rw [← hT] at h1 h2 h3 ⊢
 refine ⟨by show T.now j = _; rw [h1], ?_,fun e => by cases e⟩
 show (if T.is (j / 8) = true then T.tok j else T.kept j) = S.now j
 rw [if_pos h2,h3]
structure SShut (c:Cfg) (n e0 r:Nat) (pl:Nat → Nat) (wd:Nat → Int) (U:Int → Option Value) (S:DS):Prop where
 lr:LR c n e0 r 0 pl wd S
 cl:∀ j,c.act ≤ j → j < n → Fix S j (S.now j)
 uin:UIn U n
structure SOpen (c:Cfg) (n e0 r m:Nat) (pl:Nat → Nat) (wd:Nat → Int) (D:Nat → Int) (f t:Int) (R U:Int → Option Value) (S:DS):Prop where
 lr:LR c n e0 r m pl wd S
 un:∀ j,c.act ≤ j → j < n → freshB f t j = false → Und m pl wd D S j
 ri:RecI R m pl (eN e0 r)
 inj:∀ i k,i < m → k < m → pl i = pl k → i = k
 nf:∀ i,i < m → freshB f t (pl i:Nat) = false
 cl:∀ j,c.act ≤ j → j < n → U ((j / 8:Nat):Int) = none → Fix S j (S.now j)
 uin:UIn U n
section
variable {c:Cfg} {n e0 r m:Nat} {pl:Nat → Nat} {wd:Nat → Int} {D:Nat → Int} {f t:Int} {R U:Int → Option Value} {S S':DS} {l u:Int} {st:Bool} {ss:List Int}
theorem SShut.begin (h:SShut c n e0 r pl wd U S) (f t:Int) (ss:List Int):SOpen c n e0 r 0 pl wd S.now f t (fun _ => none) (fun _ => none) (execs S (kpC ss)) where
 lr:=h.lr.kp ss
 un:=fun j h1 h2 _ => .inr ⟨fun _ hi => absurd hi (Nat.not_lt_zero _),fix_kp (h.cl j h1 h2) ss⟩
 ri:=RecI.none pl _
 inj:=fun _ _ hi => absurd hi (Nat.not_lt_zero _)
 nf:=fun _ hi => absurd hi (Nat.not_lt_zero _)
 cl:=fun j h1 h2 _ => by rw [kpC_now]; exact fix_kp (h.cl j h1 h2) ss
 uin:=UIn.none n
theorem st_now (S:DS) (i:Nat) (v:Int) (j:Nat):(execs S [.st i v]).now j = if j = i then v else S.now j:=rfl
theorem st_pre {S:DS} {i j:Nat} {v:Int} (h:j ≠ i):Pre S (execs S [.st i v]) j:=pre_execs fun y hy => by
 rw [List.mem_singleton] at hy
 subst hy
 exact fun e => h e.symm
theorem mkU_none {U:Int → Option Value} {i j:Nat} (h:mkU U i ((j / 8:Nat):Int) = none):j / 8 ≠ i / 8 ∧ U ((j / 8:Nat):Int) = none:=by
 unfold mkU at h
 split at h
 ·cases h
 ·rename_i h1
  exact ⟨fun e => h1 (by rw [e]),h⟩
theorem LR.sto (h:LR c n e0 r m pl wd S) {i:Nat} (v:Int) (hi:c.act ≤ i):LR c n e0 r m pl wd (execs S [.st i v]):=by
 have hact:16 + 4 * c.log ≤ c.act:=(up8_le (16 + 4 * c.log)).1
 have hle:=h.le
 exact h.pre (st_pre (by omega)) (fun k hk => ⟨st_pre (by omega),st_pre (by omega),st_pre (by omega)⟩) fun k _ hk => st_pre (by omega)
theorem SOpen.store (h:SOpen c n e0 r m pl wd D f t R U S) {i:Nat} (v:Int) (hi:c.act ≤ i ∧ i < n) (hr:freshB f t i = true ∨ ∃ k,k < m ∧ pl k = i):SOpen c n e0 r m pl wd D f t R (mkU U i) (execs S [.st i v]) where
 lr:=h.lr.sto v hi.1
 un:=fun j h1 h2 h3 => by
  rcases h.un j h1 h2 h3 with h4 | ⟨h4,h5⟩
  ·exact .inl h4
  ·refine .inr ⟨h4,st_pre (fun e => ?_) _ h5⟩
   subst e
   rcases hr with hr | ⟨k,hk,hkj⟩
   ·rw [h3] at hr; cases hr
   ·exact h4 k hk hkj
 ri:=h.ri
 inj:=h.inj
 nf:=h.nf
 cl:=fun j h1 h2 h3 => by
  obtain ⟨h4,h5⟩:=mkU_none h3
  have hne:j ≠ i:=fun e => h4 (by rw [e])
  rw [st_now,if_neg hne]
  exact st_pre hne _ (h.cl j h1 h2 h5)
 uin:=h.uin.mark hi.2
theorem SOpen.new (h:SOpen c n e0 r m pl wd D f t R U S) {i:Nat} (hi:c.act ≤ i ∧ i < n) (hm:m < c.log) (hf:freshB f t i = false) (hn:∀ k,k < m → pl k ≠ i) :
  SOpen c n e0 r (m + 1) (put pl m i) (put wd m (S.now i)) D f t (fun z => if z = (i:Int) then some (.int .u64 (eN e0 r:Nat)) else R z) U (execs S (appL c st false m (eN e0 r) i (S.now i))):=by
 have hact:16 + 4 * c.log ≤ c.act:=(up8_le (16 + 4 * c.log)).1
 have hp:∀ j,c.act ≤ j → Pre S (execs S (appL c st false m (eN e0 r) i (S.now i))) j ∧ (execs S (appL c st false m (eN e0 r) i (S.now i))).now j = S.now j:=fun j hj => app_pre (by omega) (by omega) (by omega)
 refine ⟨app_done h.lr hm i (S.now i) hi,fun j h1 h2 h3 => ?_,h.ri.grow i,fun a b ha hb hab => ?_,fun a ha => ?_,fun j h1 h2 h3 => ?_,h.uin⟩
 ·rcases h.un j h1 h2 h3 with ⟨k,hk,h4,h5,h6⟩ | ⟨h4,h5⟩
  ·exact .inl ⟨k,by omega,by rw [put_off _ _ (by omega)]; exact h4,by rw [put_off _ _ (by omega)]; exact h5,fun i' hi' => by rw [put_off _ _ (by omega)]; exact h6 i' hi'⟩
  ·by_cases hji:j = i
   ·subst hji
    exact .inl ⟨m,by omega,put_on _ _ _,by rw [put_on]; exact h5.1,fun i' hi' => by rw [put_off _ _ (by omega)]; exact h4 i' hi'⟩
   ·refine .inr ⟨fun k hk => ?_,(hp j h1).1 _ h5⟩
    by_cases hkm:k = m
    ·subst hkm; rw [put_on]; exact fun e => hji e.symm
    ·rw [put_off _ _ hkm]; exact h4 k (by omega)
 ·by_cases ham:a = m
  ·by_cases hbm:b = m
   ·omega
   ·subst ham
    rw [put_on,put_off _ _ hbm] at hab
    exact absurd hab.symm (hn b (by omega))
  ·by_cases hbm:b = m
   ·subst hbm
    rw [put_on,put_off _ _ ham] at hab
    exact absurd hab (hn a (by omega))
   ·rw [put_off _ _ ham,put_off _ _ hbm] at hab
    exact h.inj a b (by omega) (by omega) hab
 ·by_cases ham:a = m
  ·subst ham; rw [put_on]; exact hf
  ·rw [put_off _ _ ham]; exact h.nf a (by omega)
 ·rw [(hp j h1).2]
  exact (hp j h1).1 _ (h.cl j h1 h2 h3)
theorem SOpen.kept (h:SOpen c n e0 r m pl wd D f t R U S) (hK:KeysOf U ss):∀ j,c.act ≤ j → j < n → Fix (execs S (kpC ss)) j (S.now j):=fun j h1 h2 => by
 cases hu:U ((j / 8:Nat):Int) with
 | none => exact fix_kp (h.cl j h1 h2 hu) ss
 | some v => exact kpC_fix ((hK.2 _).2 (by rw [hu]; rfl))
theorem truS_off {e:Nat} {y:Cmd} (h:y ∈ truS c st m e) {j:Nat} (hj:j ≠ 8):y.Off j:=by
 unfold truS at h
 split at h
 ·cases h
 ·exact truL_off h hj
theorem truS_done (h:LR c n e0 r m pl wd S):LR c n e0 (rS m r) 0 pl wd (execs S (truS c st m (eN e0 r))):=by
 unfold truS rS
 by_cases h0:m = 0
 ·subst h0
  rw [if_pos rfl,if_pos rfl]
  exact h
 ·rw [if_neg h0,if_neg h0]
  exact tru_done h pl wd
theorem SOpen.commit (h:SOpen c n e0 r m pl wd D f t R U S) (hK:KeysOf U ss):SShut c n e0 (rS m r) pl wd (fun _ => none) (execs S (kpC ss ++ truS c st m (eN e0 r))) ∧ ∀ j,c.act ≤ j → j < n → Fix (execs S (kpC ss ++ truS c st m (eN e0 r))) j (S.now j):=by
 have hact:16 + 4 * c.log ≤ c.act:=(up8_le (16 + 4 * c.log)).1
 have hF:∀ j,c.act ≤ j → j < n → Fix (execs S (kpC ss ++ truS c st m (eN e0 r))) j (S.now j):=fun j h1 h2 => by
  rw [execs_append]
  exact pre_execs (fun y hy => truS_off hy (by omega)) _ (h.kept hK j h1 h2)
 refine ⟨⟨?_,fun j h1 h2 => ?_,UIn.none n⟩,hF⟩
 ·rw [execs_append]
  exact truS_done (h.lr.kp ss)
 ·rw [(hF j h1 h2).1]
  exact hF j h1 h2
theorem undP_fix1 {j:Nat} (h:Und m pl wd D S j):Fix (execs (execs S (undP pl wd m m)) [.fe]) j (D j):=by
 rcases h with ⟨i,hi,h3,h4,h5⟩ | ⟨h3,h4⟩
 ·obtain ⟨i1,a1,a2,a3,a4,a5,a6,a7⟩:=undP_words pl wd m S m (Nat.le_refl _) j ⟨i,by omega,hi,h3⟩
  have:i1 = i:=by
   rcases Nat.lt_trichotomy i1 i with hl | he | hg
   ·exact absurd a3 (h5 i1 hl)
   ·exact he
   ·exact absurd h3 (a4 i (by omega) hg)
  subst this
  rw [h4] at a5 a7
  refine ⟨a5, ?_,fun e => by cases e⟩
  show (if (execs S (undP pl wd m m)).is (j / 8) = true then (execs S (undP pl wd m m)).tok j else (execs S (undP pl wd m m)).kept j) = D j
  rw [if_pos a6,a7]
 ·refine pre_execs (fun y hy => ?_) _ (pre_execs (fun y hy => ?_) _ h4)
  ·simp at hy; subst hy; trivial
  ·obtain ⟨i',hi',rfl | rfl⟩:=undP_mem (Nat.le_refl _) hy
   ·exact h3 i' hi'
   ·trivial
theorem Und.pre {j:Nat} (h:Und m pl wd D S j) (hp:(∀ i,i < m → pl i ≠ j) → Pre S S' j):Und m pl wd D S' j:=by
 rcases h with h | ⟨h1,h2⟩
 ·exact .inl h
 ·exact .inr ⟨h1,hp h1 _ h2⟩
theorem und_word {j:Nat} (h:Und m pl wd D S j) (hj:j ≠ 8) (e:Nat):Fix (execs S (undL c st pl wd m e)) j (D j):=by
 rw [undL_parts,execs_append,execs_append,execs_append]
 refine pre_execs (fun y hy => truL_off hy hj) _ (undP_fix1 (h.pre fun _ => pre_execs fun y hy => setL_off hy j))
theorem und_off {j:Nat} (h:∀ i,i < m → pl i ≠ j) (hj:j ≠ 8) (e:Nat):∀ y ∈ undL c st pl wd m e,y.Off j:=fun y hy => by
 rw [undL_parts] at hy
 rcases List.mem_append.1 hy with hy | hy
 ·exact undA_off hy h
 ·exact truL_off hy hj
theorem und_lr (h:LR c n e0 r m pl wd S):LR c n e0 (r + 1) 0 pl wd (execs S (undL c st pl wd m (eN e0 r))):=by
 have hact:16 + 4 * c.log ≤ c.act:=(up8_le (16 + 4 * c.log)).1
 have hle:=h.le
 rw [undL_parts,execs_append]
 have hp:∀ j,j < c.act → Pre S (execs S (sL c st ++ (undP pl wd m m ++ [Cmd.fe]))) j:=fun j hj => pre_execs fun y hy => undA_off hy fun i hi e => by have:=(h.recs i hi).2.2.2.1; omega
 exact tru_done (h.pre (hp 8 (by omega)) (fun i hi => ⟨hp _ (by omega),hp _ (by omega),hp _ (by omega)⟩) fun i _ hi => hp _ (by omega)) pl wd
theorem SOpen.abort (h:SOpen c n e0 r m pl wd D f t R U S) (hK:KeysOf U ss):SShut c n e0 (rS m r) pl wd (fun _ => none) (execs S (undS c st pl wd m (eN e0 r) ++ kpC ss)) ∧
  ∀ j,c.act ≤ j → j < n → (execs S (undS c st pl wd m (eN e0 r) ++ kpC ss)).now j = if freshB f t j = true then S.now j else D j:=by
 have hact:16 + 4 * c.log ≤ c.act:=(up8_le (16 + 4 * c.log)).1
 have hnf:∀ j,freshB f t (j:Nat) = true → ∀ i,i < m → pl i ≠ j:=fun j hj i hi e => by
  have:=h.nf i hi
  rw [e,hj] at this
  cases this
 have hlr:LR c n e0 (rS m r) 0 pl wd (execs S (undS c st pl wd m (eN e0 r))):=by
  unfold undS rS
  by_cases h0:m = 0
  ·subst h0
   rw [if_pos rfl,if_pos rfl]
   exact h.lr
  ·rw [if_neg h0,if_neg h0]
   exact und_lr h.lr
 have hun:∀ j,c.act ≤ j → j < n → freshB f t j = false → Fix (execs S (undS c st pl wd m (eN e0 r))) j (D j):=fun j h1 h2 h3 => by
  have hu:=h.un j h1 h2 h3
  unfold undS
  by_cases h0:m = 0
  ·subst h0
   rw [if_pos rfl]
   rcases hu with ⟨i,hi,_⟩ | ⟨_,h4⟩
   ·exact absurd hi (Nat.not_lt_zero _)
   ·exact h4
  ·rw [if_neg h0]
   exact und_word hu (by omega) _
 have hoff:∀ j,c.act ≤ j → freshB f t j = true → ∀ y ∈ undS c st pl wd m (eN e0 r),y.Off j:=fun j h1 h3 y hy => by
  unfold undS at hy
  split at hy
  ·cases hy
  ·exact und_off (hnf j h3) (by omega) _ y hy
 have hnow:∀ j,c.act ≤ j → j < n → (execs S (undS c st pl wd m (eN e0 r) ++ kpC ss)).now j = if freshB f t j = true then S.now j else D j:=fun j h1 h2 => by
  rw [execs_append,kpC_now]
  cases h3:freshB f t (j:Nat) with
  | true => rw [if_pos rfl]; exact execs_now_off _ _ (hoff j h1 h3)
  | false => rw [if_neg (by simp)]; exact (hun j h1 h2 h3).1
 refine ⟨⟨?_,fun j h1 h2 => ?_,UIn.none n⟩,hnow⟩
 ·rw [execs_append]
  exact hlr.kp ss
 ·rw [execs_append,kpC_now]
  cases h3:freshB f t (j:Nat) with
  | false =>
   have:=hun j h1 h2 h3
   rw [this.1]
   exact fix_kp this ss
  | true =>
   cases hu:U ((j / 8:Nat):Int) with
   | none =>
    rw [execs_now_off _ _ (hoff j h1 h3)]
    exact fix_kp (pre_execs (hoff j h1 h3) _ (h.cl j h1 h2 hu)) ss
   | some v => exact kpC_fix ((hK.2 _).2 (by rw [hu]; rfl))
end
end Go.Proofs.YtglpoffbkkdjiaaGreat
