import Derived.Test.YtaidmbdkbjgojaaGreatAwk15
namespace Go.Proofs.YtaidmbdkbjgojaaGreat
open Go.RowKit Go.OpenShut
def flA (i:Nat):Cmd:=.fl i
theorem flA_off {n:Nat} {y:Cmd} (h:y ∈ rowL flA n ++ [Cmd.fe]) (j:Nat):y.Off j:=by
 rcases List.mem_append.1 h with h | h
 ·obtain ⟨i,_,rfl⟩:=mem_rowL h
  trivial
 ·rw [List.mem_singleton] at h
  subst h
  trivial
theorem flA_fix (S:DS) {n j:Nat} (hj:j < n):Fix (execs S (rowL flA n ++ [Cmd.fe])) j (S.now j):=by
 obtain ⟨h1,h2,h3⟩:=flushed (j:=j) (rowL flA n) S (fun y hy => by obtain ⟨i,_,rfl⟩:=mem_rowL hy; trivial) (.inl ⟨j,List.mem_map.2 ⟨j,List.mem_range.2 hj,rfl⟩,rfl⟩)
 rw [execs_append]
 obtain ⟨T,hT⟩:∃ T,T = execs S (rowL flA n):=⟨_,rfl⟩
 rw [← hT] at h1 h2 h3 ⊢
 refine ⟨by show T.now j = _; rw [h1], ?_,fun e => by cases e⟩
 show (if T.is (j / 8) = true then T.tok j else T.kept j) = S.now j
 rw [if_pos h2,h3]
theorem flA_now (S:DS) (n:Nat):(execs S (rowL flA n ++ [Cmd.fe])).now = S.now:=by
 funext j
 exact execs_now_off _ _ fun y hy => flA_off hy j
theorem hep_old {S T:DS} {c:Cfg} {n us:Nat} {rs:List Nat} {os:List (Nat × Nat)} (h:HepS S c n 0 us rs os) (hn:c.words = n) (he:∀ j,c.act ≤ j → j < n → ¬ Zn c 0 j → T.now j = S.now j) :
  T.now c.act = ((0:Nat):Int) ∧ T.now (c.act + 1) = ((us:Nat):Int) ∧ Chn T c 0 us os false ∧ ckC T c 0 os false = 0 ∧ WdU T c 0:=by
 have h1:=frm_space (c:=c) 0 (by omega)
 have h3:=frm_ge (c:=c) 0
 have h4:=h.us
 have h5:=root_end c
 have h6:=(up8_le c.space).1
 have hle:=h.chn.le
 have hz:∀ j,j < c.frm 0 + c.space → ¬ Zn c 0 j:=fun j hj hz => by
  have h7:c.frm 1 = c.frm 0 + up8 c.space:=by unfold Cfg.frm; omega
  have h8:c.frm (1 - 0) ≤ j:=hz.1
  have h9:c.frm (1 - 0) = c.frm 1:=rfl
  omega
 have he':∀ j,c.act ≤ j → j < c.frm 0 + c.space → T.now j = S.now j:=fun j a b => he j a (by omega) (hz j b)
 refine ⟨by rw [he' _ (by omega) (by omega)]; exact h.act,by rw [he' _ (by omega) (by omega)]; exact h.used,h.chn.same fun j hj => he' _ (by omega) (by omega), ?_, ?_⟩
 ·rw [ckC_same (fun j hj => he' _ (by unfold Cfg.root; omega) (by unfold Cfg.root; omega)) fun i hi j hj => ?_]
  ·exact h.ok
  ·obtain ⟨e1,e2,_⟩:=h.chn.head i _ (nL_in hi)
   have h7:=posN_end hi
   have e3:rL os i ≤ nL os i:=e2
   exact he' _ (by omega) (by omega)
 ·obtain ⟨g1,g2⟩:=h.wd.at hn (k:=0) (by omega)
  refine ⟨fun i hi => ?_,fun j a b => ?_⟩
  ·rw [he' _ (by unfold Cfg.root; omega) (by unfold Cfg.root; omega)]
   exact g1 i hi
  ·rw [he' _ (by omega) b]
   exact g2 j a b
theorem chn_ob {S:DS} {c:Cfg} {k u:Nat} {os:List (Nat × Nat)} (h:Chn S c k u os false) {i:Nat} (hi:i < os.length):(obW S c k u (c.frm k + posL os i)).isSome = true:=by
 obtain ⟨h1,h2,h3⟩:=h.head i _ (nL_in hi)
 have h4:=posN_end hi
 have h5:=h.done rfl
 have h6:nL os i ≤ 64:=h1
 have h7:rL os i ≤ nL os i:=h2
 have h3':S.now (c.frm k + posL os i) = ((hdPk (nL os i) (rL os i):Nat):Int):=h3
 unfold obW
 rw [h3',Int.toNat_natCast,hdN_pk _ _ h6,if_pos ⟨by omega,by omega,isHd_of_pk _ _ h6 h7,by omega⟩]
 rfl
theorem HepS.named {S:DS} {c:Cfg} {n k u:Nat} {rs:List Nat} {os:List (Nat × Nat)} (h:HepS S c n k u rs os) {v:Nat} (hv:v ∈ rs):v = 0 ∨ (obW S c k u v).isSome = true:=by
 obtain ⟨i,hi,rfl⟩:=List.mem_iff_getElem.1 hv
 have h1:okR S c k os = true:=by
  have h2:=h.ok
  unfold ckC at h2
  rw [if_neg (by simp)] at h2
  cases h3:okR S c k os with
  | true => rfl
  | false => rw [h3] at h2; simp at h2
 have h2:=okR_iff.1 h1 i (by rw [← h.rl]; exact hi)
 rw [h.root i (by rw [← h.rl]; exact hi),List.getD_eq_getElem?_getD,List.getElem?_eq_getElem hi] at h2
 rcases okW_iff.1 h2 with h3 | ⟨t,ht,h3⟩
 ·left
  have h4:((rs[i]:Nat):Int) = 0:=h3
  omega
 ·right
  have h4:((rs[i]:Nat):Int) = ((c.frm k + posL os t:Nat):Int):=h3
  have h5:rs[i] = c.frm k + posL os t:=by omega
  rw [h5]
  exact chn_ob h.chn ht
theorem SamI.fst {S0 S1 S2:DS} {c:Cfg} {k1 u1 k2 u2:Nat} {LS PS:List Nat} (h:SamI S1 S2 c k1 u1 k2 u2 LS PS) (hT:∀ j,c.frm k1 ≤ j → j < c.frm k1 + u1 → S0.now j = S1.now j):SamI S0 S2 c k1 u1 k2 u2 LS PS:=by
 refine ⟨h.len,h.nl,h.np,fun t x y hx hy => ?_⟩
 obtain ⟨n,r,g1,g2,g3,g4⟩:=h.ob t x y hx hy
 obtain ⟨q1,q2,q3,q4,q5,q6⟩:=obW_some g1
 refine ⟨n,r,by rw [ob_same hT]; exact g1,g2,fun i hi => ?_,fun i h1 h2 => ?_⟩
 ·rw [hT (x + 1 + i) (by omega) (by omega)]
  exact g3 i hi
 ·rw [hT (x + 1 + i) (by omega) (by omega)]
  exact g4 i h1 h2
structure FndS (T S1 So:DS) (c:Cfg) (us:Nat) (rs:List Nat) (kk uu:Nat) (ox:List (Nat × Nat)):Prop where
 k1:kk ≤ 1
 act:T.now c.act = (kk:Int)
 used:T.now (c.act + 1) = (uu:Int)
 fits:uu ≤ c.space
 chn:Chn T c kk uu ox false
 ok:ckC T c kk ox false = 0
 wd:WdU T c kk
 old:kk = 0 → ∀ j,c.act ≤ j → j < c.frm 1 → T.now j = S1.now j
 new:kk = 1 → ∃ LS PS,SamI So T c 0 us 1 uu LS PS ∧ LS.length ≤ 4096 ∧ (∀ i,i < c.roots → PairOk LS PS (rs.getD i 0) (T.now (c.root i)).toNat) ∧ ∀ i,i < c.roots → 0 ≤ T.now (c.root i)
theorem fnd15 {P:CP} {T S1 So:DS} {c:Cfg} {a:DA} {us:Nat} {rs:List Nat} {os:List (Nat × Nat)} {K:Nat → Int} (hn:c.words = a.n) (hH:HepS S1 c a.n 0 us rs os) (hP:P.Ok) (e2:P.a = a) (e3:P.S.now = S1.now) (e4:P.c = c) (e5:P.k = 0) (e6:P.us = us) (e7:P.ws = rs) (e8:P.rs = rs)
  (hSo:∀ j,j < a.n → So.now j = S1.now j) (hK:∀ j,c.act ≤ j → j < a.n → T.now j = K j)
  (h:(∀ j,c.act ≤ j → j < a.n → ¬ Zn c 0 j → K j = S1.now j) ∨ ∃ Sx,Cpd P.S Sx P.c P.k P.LS ∧ ∀ j,P.c.act ≤ j → j < P.a.n → K j = blkF P.c (1 - P.k) (szF P.S P.LS) (nwR P.S P.c P.k P.LS P.rs) Sx.now j) :
  ∃ kk uu ox,FndS T S1 So c us rs kk uu ox:=by
 have hf1:=frm_space (c:=c) 1 (by omega)
 have hf0:=frm_space (c:=c) 0 (by omega)
 rcases h with h | ⟨Sx,hcp,hB⟩
 ·obtain ⟨g1,g2,g3,g4,g5⟩:=hep_old (T:=T) hH hn fun j a b hz => (hK j a b).trans (h j a b hz)
  refine ⟨0,us,os,by omega,g1,g2,hH.us,g3,g4,g5,fun _ j a b => ?_,fun h => by omega⟩
  rw [hK j a (by omega)]
  refine h j a (by omega) fun hz => ?_
  have h8:c.frm (1 - 0) ≤ j:=hz.1
  have h9:c.frm (1 - 0) = c.frm 1:=rfl
  omega
 ·have hH2:HepS P.S P.c P.a.n P.k P.us P.rs os:=by
   rw [e2,e4,e5,e6,e8]
   exact hH.same hn fun j _ _ => congrFun e3 j
  obtain ⟨n1,n2,n3,n4,n5⟩:=clt_next (S':=T) hP hH2 hcp fun j a b => (hK j (by rw [← e4]; exact a) (by rw [← e2]; exact b)).trans (hB j a b)
  have hnr:=n1.root
  rw [e2,e4,e5,e8] at n1
  rw [e4,e5,e6] at n5
  rw [e4,e5,e8] at hnr
  refine ⟨1,szF P.S P.LS,_,by omega,n1.act,n1.used,n1.us,n1.chn,n1.ok,n1.wd.at hn (by omega),fun h => by omega,fun _ => ⟨P.LS,P.LS.map (wtC P.S c 0 P.LS), ?_, ?_,fun i hi => ?_,fun i hi => ?_⟩⟩
  ·refine n5.fst fun j g1 g2 => ?_
   have:=hH.us
   rw [hSo j (by omega),e3]
  ·have h1:=P.len
   have h2:=hP.us
   have h3:=hP.c.small.2.2
   omega
  ·rw [hnr i hi,Int.toNat_natCast]
   have hrl:=hH.rl
   have h1:(rs.map (wtC P.S c 0 P.LS)).getD i 0 = wtC P.S c 0 P.LS (rs.getD i 0):=by
    rw [List.getD_eq_getElem?_getD,List.getD_eq_getElem?_getD,List.getElem?_map,List.getElem?_eq_getElem (by omega)]
    rfl
   rw [h1]
   have h2:rs.getD i 0 ∈ rs:=by
    rw [List.getD_eq_getElem?_getD,List.getElem?_eq_getElem (by omega)]
    exact List.getElem_mem _
   refine pair_wt ?_
   rcases hH.named h2 with h3 | h3
   ·exact .inl h3
   ·right
    rw [← ob_same (T:=P.S) fun j _ _ => congrFun e3 j] at h3
    unfold CP.LS
    rw [e4,e5,e6,e7,mem_rcF]
    exact .here h2 h3
  ·rw [hnr i hi]
   exact Int.natCast_nonneg _
def EndC (p:Nat) (a:DA) (l:Int) (S:DS) (q:Sc) (c:Cfg) (us:Nat) (rs:List Nat) (w w':World):Prop :=
 ∃ (P:CP) (u':Int) (S':DS),P.Ok ∧ P.a = a ∧ P.S.now = S.now ∧ P.c = c ∧ P.k = 0 ∧ P.us = us ∧ P.ws = rs ∧ P.rs = rs ∧ Pw w' p a l u' S' ∧ u' ≤ 9000000000 ∧ Keeps (q.bl p a) w w' ∧
  ∀ ch:Nat → Int, ∃ r' m pl wd K,r' ≤ 2 ∧ LI c a.n 1 r' m pl wd K (crashed S' ch) ∧ ((∀ j,c.act ≤ j → j < a.n → ¬ Zn c 0 j → K j = S.now j) ∨ ∃ S1,Cpd P.S S1 P.c P.k P.LS ∧ ∀ j,P.c.act ≤ j → j < P.a.n → K j = blkF P.c (1 - P.k) (szF P.S P.LS) (nwR P.S P.c P.k P.LS P.rs) S1.now j)
theorem EndC.alloc {p:Nat} {a:DA} {l:Int} {S:DS} {q:Sc} {c:Cfg} {us:Nat} {rs:List Nat} {w w':World} (h:EndC p a l S q c us rs w w') (o:Obj):EndC p a l S q c us rs w (w'.alloc o):=by
 obtain ⟨P,u',S',h0,h1,h2,h3,h4,h5,h6,h7,h8,h9,h10,h11⟩:=h
 exact ⟨P,u',S',h0,h1,h2,h3,h4,h5,h6,h7,h8.keep0 ((Keeps.refl [] w').alloc o),h9,h10.alloc o,h11⟩
theorem endC_of {p:Nat} {a:DA} {l u:Int} {S:DS} {q:Sc} {c:Cfg} {us:Nat} {rs:List Nat} {w w':World} {e:Ending} (hu:u ≤ 1000000) (hl:l ≤ 1000) (hfix:∀ j,c.act ≤ j → j < a.n → Fix S j (S.now j)) (h:CltP p a l u S q c 0 0 us rs [] w e w') :
  (∃ x,e = .returned (.tuple #[ptr x, .int .i64 0]) ∧ EndC p a l S q c us rs w w') ∨ (e = .panicked [{ v:=goneV,recovered:=false }] ∧ EndC p a l S q c us rs w w'):=by
 obtain ⟨P,hP,e1,e2,e3,e4,e5,e6,e7,e8,hD | hX⟩:=h
 ·obtain ⟨x,T,u',S1,S',r',rfl,hC,hT,hcp,hG,hr',hB,hu',hk⟩:=hD
  refine .inl ⟨x,rfl,P,u',S',hP,e2,e3,e4,e5,e6,by rw [e7,List.append_nil],e8, ?_,by omega,by rw [← e1, ← e2]; exact hk,fun ch => ?_⟩
  ·rw [← e1, ← e2]; exact hG.pw
  ·obtain ⟨st,f,t,R,U,pl,wd,g1,g2⟩:=hG
   have g3:=g2.crash ch
   rw [e2,e4] at g3
   exact ⟨r',0,pl,wd,_,by omega,g3, .inr ⟨S1,hcp,hB⟩⟩
 ·obtain ⟨rfl,S',h1,h2,h3⟩:=hX
  refine .inr ⟨rfl,P,l,S',hP,e2,e3,e4,e5,e6,by rw [e7,List.append_nil],e8,by rw [← e1, ← e2]; exact h1,by omega,by rw [← e1, ← e2]; exact h2,fun ch => ?_⟩
  obtain ⟨r',m,pl,wd,K,g1,g2,g3⟩:=h3 (by rw [e4,e2]; exact hfix) ch
  rw [e2,e4] at g2
  refine ⟨r',m,pl,wd,K,by omega,g2, ?_⟩
  rcases g3 with g3 | g3
  ·left
   rw [e2,e4,e5] at g3
   exact g3
  ·exact .inr g3
set_option maxHeartbeats 1000000 in
theorem cut15_at (w:World) (p:Nat) (a:DA) (l u:Int) (S:DS) (q:Sc) (c:Cfg) (us:Nat) (rs:List Nat) (os:List (Nat × Nat)) (db cb sbx:Nat) (hd:At w db (.cells #[ptr a.d] 28)) (hcb:At w cb (cfgO c)) (hsb:At w sbx (.cells #[ptr q.b] 37))
  (hG:ShutL p a l u S q c 0 w) (hH:HepS S c a.n 0 us rs os) (hP:CP.Ok ⟨p,a,S,c,0,us,rs ++ [],rs⟩) (hu:u ≤ 1000000) (hl:l ≤ 1000) (hfix:∀ j,c.act ≤ j → j < a.n → Fix S j (S.now j)) :
  Calls Tryz.prog 33 #[ptr db,ptr cb,ptr sbx] w fun e w' => (e = .returned (.tuple #[]) ∧ EndC p a l S q c us rs w w') ∨ (e = .panicked [{ v:=goneV,recovered:=false }] ∧ EndC p a l S q c us rs w w'):=by
 have HCL:Hid (Calls Tryz.prog 18 #[ptr a.d,cfgV c,ptr q.b, .slice none 0 0] w (CltP p a l u S q c 0 0 us rs [] w)):=collect15_at w p a l u S q c 0 0 us rs [] os none 0 0 hG hH hP (ownU_nil _ _ _) (by simp [blkL]) (by omega) (by omega)
 have HF:=hid (And.intro hu (And.intro hl hfix))
 have d0:=hd.cell 0 rfl
 have c0:=hcb.cell 0 rfl
 have c1:=hcb.cell 1 rfl
 have c2:=hcb.cell 2 rfl
 have s0:=hsb.cell 0 rfl
 clear hd hcb hsb hG hH hP hu hl hfix
 go_enter Tryz.func33,Tryz.ntmps33
 go_wp2_with fail
 refine HCL.out.mono ?_
 intro e w' h
 rcases endC_of HF.out.1 HF.out.2.1 HF.out.2.2 h with ⟨x,rfl,h1⟩ | ⟨rfl,h1⟩
 ·have HE:=hid h1
  clear h h1 HCL d0 c0 c1 c2 s0
  go_wp2_with fail
  go_end0
  exact .inl ⟨rfl,HE.out⟩
 ·exact ⟨rfl, .inr ⟨rfl,h1⟩⟩
theorem shutL_power {w w':World} {p pn:Nat} {a:DA} {l l2 u:Int} {S:DS} {q:Sc} {c:Cfg} {r:Nat} (h:ShutL p a l u S q c r w) (hP:Pw w' pn a l2 0 S) (hk:Keeps [a.d] w w'):ShutL pn a l2 0 S q c r w':=by
 obtain ⟨st,f,t,R,U,pl,wd,h1,h2⟩:=h
 obtain ⟨n1,n2,n3,n4,n5,n6⟩:=h1.ne
 have hd:q.lb ≠ a.d:=h1.lw.ne.2.1
 exact ⟨st,f,t,R,U,pl,wd,⟨⟨hP,hk.at h1.lw.log (by simpa using hd)⟩,hk.at h1.sec (by simpa using n4),h1.rm.keep hk (by simpa using n5),h1.um.keep hk (by simpa using n6),h1.ru,h1.ra,h1.ua⟩,h2⟩
theorem Pw.broken {w w':World} {q:Nat} {a:DA} {l u:Int} {T:DS} {ch:Nat → Int} (h:Pw w q a l u T) (hD:Dev w' q a (Go.Proofs.YtaidmbdkbjgojaaGreat.crashed T ch)) (hk:Keeps [a.s,a.k,a.m] w w'):Pw w' q a l u (Go.Proofs.YtaidmbdkbjgojaaGreat.crashed T ch) :=
 ⟨hD,hk.at h.pow (by simp; have:=h.dev.ps; have:=h.dev.pk; have:=h.dev.pm; omega),h.lo,h.st⟩
set_option maxHeartbeats 400000 in
theorem flipCut2_at (w:World) (b:Nat) (bits:Int) (i:Nat) (h:At w b (wordO bits)) (hi:i ≤ 17592186044416) :
  Calls Tryz.prog 35 #[.int .i64 i,ptr b] w fun e w' => e = .returned (.int .u8 (chV bits i)) ∧ w = w':=by
 have c1:=h.cell 0 rfl
 go_enter Tryz.func35,Tryz.ntmps35
 go_wp2_with fail
 refine (choice_at w bits i hi).mono ?_
 rintro e w1 ⟨rfl,rfl⟩
 go_wp2
 go_ret
 exact ⟨rfl,rfl⟩
theorem flipCut2_chooser (b:Nat) (bits:Int) (n:Nat) (hn:n ≤ 17592186044416) :
  Chooser 35 #[ptr b] n (chV bits) [] [b] (fun _ w => At w b (wordO bits)) where
 inv:=fun w i => by simp [go_sem]
 call:=fun i w hi h => (flipCut2_at w b bits i h (by omega)).mono fun e w' ⟨he,hw⟩ => ⟨he,by rw [← hw]; exact h,by rw [← hw]; exact Keeps.refl _ _⟩
 keep:=fun _ w w' S h hk hs => hk.at h (hs b (by simp))
 low:=chV_low bits
theorem run_sub (w:World) (g n cap lo hi:Nat) (h1:lo ≤ hi) (h2:hi ≤ cap) (h3:lo < cap) (z:Int) (hz:z = (hi:Int)) :
  (Instr.slice 31 (.slice (some ⟨g,0,none⟩) n cap) (some (.int .i64 (lo:Int))) (some (.int .i64 z)) none).run Tryz.prog w = .ok (.slice (some ⟨g,lo,none⟩) (hi - lo) (cap - lo)) w:=by
 subst hz
 have hi':∃ i,Tryz.prog.info? 47 = some i ∧ i.size = 1:=by
  have h:(Tryz.prog.info? 47).map (fun i => i.size) = some 1:=by kernel_rfl
  exact Option.map_eq_some_iff.1 h
 obtain ⟨ti,hi1,hi2⟩:=hi'
 simp [Instr.slice,run_underlying Tryz.underlying31,Instr.sliceBounds,sizeOf,typeInfo,hi1,hi2,go_sem,h1,h2]
 try omega
theorem bl15 {w3 w5 w6 w9 pn:Nat} {a:DA} {q:Sc} (hd:a.d < w3 ∧ a.s < w3 ∧ a.k < w3 ∧ a.m < w3) (hq:w5 ≤ q.b ∧ w5 ≤ q.lb ∧ w5 ≤ q.rb ∧ w5 ≤ q.ub) (hq2:q.b < w6 ∧ q.lb < w6 ∧ q.rb < w6 ∧ q.ub < w6) (hp:w9 ≤ pn) {b:Nat} (h:b ∈ a.d :: q.bl pn a) :
  (b ∈ [a.d,a.s,a.k,a.m] ∧ b < w3) ∨ (w5 ≤ b ∧ b < w6) ∨ w9 ≤ b:=by
 obtain ⟨d1,d2,d3,d4⟩:=hd
 obtain ⟨e1,e2,e3,e4⟩:=hq
 obtain ⟨f1,f2,f3,f4⟩:=hq2
 unfold Sc.bl at h
 simp only [List.mem_cons,List.not_mem_nil,or_false] at h ⊢
 rcases h with rfl | rfl | rfl | rfl | rfl | rfl | rfl | rfl | rfl
 ·exact .inl ⟨.inl rfl,d1⟩
 ·exact .inr (.inr hp)
 ·exact .inl ⟨.inr (.inl rfl),d2⟩
 ·exact .inl ⟨.inr (.inr (.inl rfl)),d3⟩
 ·exact .inl ⟨.inr (.inr (.inr rfl)),d4⟩
 ·exact .inr (.inl ⟨e2,f2⟩)
 ·exact .inr (.inl ⟨e1,f1⟩)
 ·exact .inr (.inl ⟨e3,f3⟩)
 ·exact .inr (.inl ⟨e4,f4⟩)
theorem ap15 {w3 w4 w5 w6 w9:Nat} {a:DA} {b:Nat} (h34:w3 ≤ w4 ∧ w4 ≤ w5 ∧ w5 ≤ w6 ∧ w6 ≤ w9) (hb:(b < w3 ∧ b ∉ [a.d,a.s,a.k,a.m]) ∨ (w3 ≤ b ∧ b < w4) ∨ (w6 ≤ b ∧ b < w9)):¬ ((b ∈ [a.d,a.s,a.k,a.m] ∧ b < w3) ∨ (w5 ≤ b ∧ b < w6) ∨ w9 ≤ b):=by
 intro h
 rcases hb with ⟨h1,h2⟩ | h1 | h1
 ·rcases h with ⟨h3,_⟩ | h3 | h3
  ·exact h2 h3
  ·omega
  ·omega
 ·rcases h with ⟨_,h3⟩ | h3 | h3 <;> omega
 ·rcases h with ⟨_,h3⟩ | h3 | h3 <;> omega
end Go.Proofs.YtaidmbdkbjgojaaGreat
