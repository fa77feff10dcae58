import Derived.Test.YtglpoffbkkdjiaaGreatSecM
import Derived.Test.YtglpoffbkkdjiaaGreatObj
namespace Go.Proofs.YtglpoffbkkdjiaaGreat
open Go.RowKit
def OpenG (p:Nat) (a:DA) (l u:Int) (S:DS) (q:Sc) (c:Cfg) (m r:Nat) (pl:Nat → Nat) (D:Nat → Int) (f t:Int) (w:World):Prop :=
 ∃ st wd R U,SW w p a l u S q c m st true f t R U ∧ SOpen c a.n 1 r m pl wd D f t R U S
def ShutG (p:Nat) (a:DA) (l u:Int) (S:DS) (q:Sc) (c:Cfg) (r:Nat) (w:World):Prop :=
 ∃ st f t R U pl wd,SW w p a l u S q c 0 st false f t R U ∧ SShut c a.n 1 r pl wd U S
def LeftK (c:Cfg) (n r:Nat) (K1 K2:Nat → Int) (S':DS):Prop:=∀ ch:Nat → Int, ∃ r' m pl wd K,r' ≤ r + 1 ∧ (K = K1 ∨ K = K2) ∧ LI c n 1 r' m pl wd K (crashed S' ch)
def Gone (p:Nat) (a:DA) (l:Int) (c:Cfg) (r:Nat) (f t:Int) (K1 K2:Nat → Int) (bl:List Nat) (w:World) (e:Ending) (w':World):Prop :=
 e = .panicked [{ v:=goneV,recovered:=false }] ∧ (∃ S',Pw w' p a l l S' ∧ ((∀ j,j < a.n → freshB f t (j:Nat) = false) → LeftK c a.n r K1 K2 S')) ∧ Keeps bl w w'
section
variable {c:Cfg} {n r m:Nat} {pl:Nat → Nat} {wd:Nat → Int} {D:Nat → Int} {f t:Int} {R U:Int → Option Value} {S S':DS} {l u:Int} {st:Bool} {ss:List Int}
theorem SOpen.li (h:SOpen c n 1 r m pl wd D f t R U S) (hf:∀ j,j < n → freshB f t (j:Nat) = false):LI c n 1 r m pl wd D S:=⟨h.lr,fun j h1 h2 => h.un j h1 h2 (hf j h2)⟩
theorem SShut.cut_begin (h:SShut c n 1 r pl wd U S) (hc:Cut l u S (kpC ss) S') (K:Nat → Int):LeftK c n r S.now K S':=fun ch => by
 refine ⟨r,0,pl,wd,S.now,by omega, .inl rfl,LI.crash (LI.none ?_ fun j h1 h2 => pre_cut (fun _ hy => kpC_off hy _) hc _ (h.cl j h1 h2)) ch⟩
 exact h.lr.pre (pre_cut (fun _ hy => kpC_off hy _) hc) (fun _ _ => ⟨pre_cut (fun _ hy => kpC_off hy _) hc,pre_cut (fun _ hy => kpC_off hy _) hc,pre_cut (fun _ hy => kpC_off hy _) hc⟩) fun _ _ _ => pre_cut (fun _ hy => kpC_off hy _) hc
theorem li_kp (h:LI c n 1 r m pl wd D S) (hc:Cut l u S (kpC ss) S') (ch:Nat → Int):LI c n 1 r m pl wd D (crashed S' ch) :=
 LI.crash (h.pre (fun _ _ => pre_cut (fun _ hy => kpC_off hy _) hc) fun _ _ _ _ => pre_cut (fun _ hy => kpC_off hy _) hc) ch
theorem cut_st {i:Nat} {v:Int} (hc:Cut l u S [.st i v] S'):S' = S:=by
 obtain ⟨pre,x,post,h0,h1,_⟩:=hc
 cases pre with
 | nil => exact h1
 | cons y ys => simp at h0
theorem SOpen.cut_old (h:SOpen c n 1 r m pl wd D f t R U S) (hf:∀ j,j < n → freshB f t (j:Nat) = false) {i:Nat} {v:Int} (hc:Cut l u S [.st i v] S') (K:Nat → Int):LeftK c n r D K S':=fun ch => by
 rw [cut_st hc]
 exact ⟨r,m,pl,wd,D,by omega, .inl rfl,LI.crash (h.li hf) ch⟩
theorem SOpen.cut_new (h:SOpen c n 1 r m pl wd D f t R U S) (hf:∀ j,j < n → freshB f t (j:Nat) = false) {i:Nat} {v:Int} (hi:c.act ≤ i ∧ i < n) (hm:m < c.log) (hp:∀ k,k < m → pl k ≠ i) (hc:Cut l u S (appL c st false m (eN 1 r) i (S.now i) ++ [.st i v]) S') (K:Nat → Int):LeftK c n r D K S':=fun ch => by
 rcases hc.parts with hc | hc
 ·rcases app_cut (h.li hf) hm i hi hc ch with h1 | h1
  ·exact ⟨r,_,_,_,D,by omega, .inl rfl,h1⟩
  ·exact ⟨r,_,_,_,D,by omega, .inl rfl,h1⟩
 ·rw [cut_st hc]
  exact ⟨r,_,_,_,D,by omega, .inl rfl,LI.crash ((h.new (st:=st) hi hm (hf i hi.2) hp).li hf) ch⟩
theorem SOpen.cut_commit (h:SOpen c n 1 r m pl wd D f t R U S) (hf:∀ j,j < n → freshB f t (j:Nat) = false) (hK:KeysOf U ss) (hc:Cut l u S (kpC ss ++ truS c st m (eN 1 r)) S'):LeftK c n r D S.now S':=fun ch => by
 have hact:16 + 4 * c.log ≤ c.act:=(up8_le (16 + 4 * c.log)).1
 rcases hc.parts with hc | hc
 ·exact ⟨r,m,pl,wd,D,by omega, .inl rfl,li_kp (h.li hf) hc ch⟩
 ·have hkp:=h.kept hK
  have hli:LI c n 1 r m pl wd D (execs S (kpC ss)):=(h.li hf).pre (fun _ _ => pre_execs fun _ hy => kpC_off hy _) fun _ _ _ _ => pre_execs fun _ hy => kpC_off hy _
  obtain ⟨T,hT⟩:∃ T,T = execs S (kpC ss):=⟨_,rfl⟩
  rw [← hT] at hc hkp hli
  unfold truS at hc
  by_cases h0:m = 0
  ·rw [if_pos h0] at hc
   obtain ⟨pre,k,post,e,_,_⟩:=hc
   cases pre <;> simp at e
  ·rw [if_neg h0] at hc
   have hoff:∀ j,c.act ≤ j → Pre T (crashed S' ch) j:=fun j hj => (pre_cut (fun y hy => truL_off hy (by omega)) hc).trans (crashed_pre _ _ _)
   rcases tru_cut hli.1 hc ch pl wd with h1 | h1
   ·exact ⟨r,m,pl,wd,D,by omega, .inl rfl,h1,hli.2.pre fun j a _ _ => hoff j a⟩
   ·exact ⟨r + 1,0,pl,wd,S.now,by omega, .inr rfl,LI.none h1 fun j a b => hoff j a _ (hkp j a b)⟩
end
section
variable {w w':World} {p:Nat} {a:DA} {l u:Int} {S:DS} {q:Sc} {c:Cfg} {m r:Nat} {f t f' t':Int} {pl:Nat → Nat} {D:Nat → Int}
theorem OpenG.keep0 (h:OpenG p a l u S q c m r pl D f t w) (hk:Keeps [] w w'):OpenG p a l u S q c m r pl D f t w':=by
 obtain ⟨st,wd,R,U,h1,h2⟩:=h
 exact ⟨st,wd,R,U,h1.keep0 hk,h2⟩
theorem ShutG.keep0 (h:ShutG p a l u S q c r w) (hk:Keeps [] w w'):ShutG p a l u S q c r w':=by
 obtain ⟨st,f,t,R,U,pl,wd,h1,h2⟩:=h
 exact ⟨st,f,t,R,U,pl,wd,h1.keep0 hk,h2⟩
theorem OpenG.pw (h:OpenG p a l u S q c m r pl D f t w):Pw w p a l u S:=by
 obtain ⟨st,wd,R,U,h1,h2⟩:=h
 exact h1.lw.pw
theorem ShutG.pw (h:ShutG p a l u S q c r w):Pw w p a l u S:=by
 obtain ⟨st,f,t,R,U,pl,wd,h1,h2⟩:=h
 exact h1.lw.pw
theorem begin_g (h:ShutG p a l u S q c r w) (hc:c.Ok) (hn:c.words = a.n) (hb:u < 4000000000000) (f' t':Int) (K:Nat → Int) :
  Calls Tryz.prog 103 #[ptr q.b,spV f' t'] w fun e w' => (e = .returned (.int .i64 0) ∧ ∃ u' S' pl,OpenG p a l u' S' q c 0 r pl S.now f' t' w' ∧ (∀ j,S'.now j = S.now j) ∧ u' ≤ u + 3000 ∧ Keeps (q.bl p a) w w') ∨ Gone p a l c r f' t' S.now K (q.bl p a) w e w':=by
 obtain ⟨st,f,t,R,U,pl,wd,h1,h2⟩:=h
 have hci:=c_in hc hn
 refine (begin_ran h1 h2.uin hci.2.1 hci.2.2.2.2 (by omega)).mono ?_
 rintro e w' ⟨ss,hss,⟨rfl,h3,hk⟩ | ⟨rfl,⟨S',hcut,h3⟩,hk⟩⟩
 ·have:=h2.uin.few hci.2.2.2.2 hss
  exact .inl ⟨rfl,_,_,pl,⟨_,wd,_,_,h3,h2.begin f' t' ss⟩,fun j => kpC_now _ _ _,by rw [kpC_len]; omega,hk⟩
 ·exact .inr ⟨rfl,⟨S',h3,fun _ => h2.cut_begin hcut K⟩,hk⟩
theorem commit_g (h:OpenG p a l u S q c m r pl D f t w) (hc:c.Ok) (hn:c.words = a.n) (hb:u < 4000000000000) :
  Calls Tryz.prog 106 #[ptr q.b] w fun e w' => (e = .returned (.int .i64 0) ∧ ∃ u' S',ShutG p a l u' S' q c (rS m r) w' ∧ (∀ j,c.act ≤ j → j < a.n → S'.now j = S.now j) ∧ u' ≤ u + 3000 ∧ Keeps (q.bl p a) w w') ∨ Gone p a l c r f t D S.now (q.bl p a) w e w':=by
 obtain ⟨st,wd,R,U,h1,h2⟩:=h
 have hci:=c_in hc hn
 refine (commit_ran h1 h2.uin hc hn h2.lr (by omega)).mono ?_
 rintro e w' ⟨ss,hss,⟨rfl,h3,hk⟩ | ⟨rfl,⟨S',hcut,h3⟩,hk⟩⟩
 ·have:=h2.uin.few hci.2.2.2.2 hss
  have h4:=h2.commit (st:=st) hss
  have hl:=sL_len hc.small st
  refine .inl ⟨rfl,_,_,⟨_,_,_,_,_,_,_,h3,h4.1⟩,fun j h5 h6 => (h4.2 j h5 h6).1, ?_,hk⟩
  rw [List.length_append,kpC_len]
  have:(truS c st m (eN 1 r)).length ≤ 1000:=by
   unfold truS
   split
   ·simp
   ·simp [truL,kpL]; omega
  omega
 ·exact .inr ⟨rfl,⟨S',h3,fun hf => h2.cut_commit hf hss hcut⟩,hk⟩
theorem sstore_g_out (h:OpenG p a l u S q c m r pl D f t w) (hs:c.Small) (i v:Int) (hi:i < (c.act:Int) ∨ (a.n:Int) ≤ i):Calls Tryz.prog 104 #[ptr q.b, .int .i64 i, .int .u64 v] w fun e w' => e = .returned (.int .i64 1) ∧ Keeps [] w w':=by
 obtain ⟨st,wd,R,U,h1,h2⟩:=h
 exact sstore_out h1 hs i v hi
theorem sopen_g_no (h:ShutG p a l u S q c r w):Calls Tryz.prog 52 #[ptr q.b] w fun e w' => e = .returned (.bool false) ∧ w = w':=by
 obtain ⟨st,f,t,R,U,pl,wd,h1,h2⟩:=h
 exact sopen_at h1
def HasR (m:Nat) (pl:Nat → Nat) (i:Nat):Prop:=∃ k,k < m ∧ pl k = i
theorem sstore_g_old (h:OpenG p a l u S q c m r pl D f t w) (hc:c.Ok) (hn:c.words = a.n) (hb:u < 4000000000000) (i:Nat) (v:Int) (hi:c.act ≤ i ∧ i < a.n) (hp:freshB f t i = true ∨ HasR m pl i) (K:Nat → Int) :
  Calls Tryz.prog 104 #[ptr q.b, .int .i64 i, .int .u64 v] w fun e w' => (e = .returned (.int .i64 0) ∧ ∃ u' S',OpenG p a l u' S' q c m r pl D f t w' ∧ (∀ j,c.act ≤ j → j < a.n → S'.now j = if j = i then v else S.now j) ∧ u' ≤ u + 3000 ∧ Keeps (q.bl p a) w w') ∨ Gone p a l c r f t D K (q.bl p a) w e w':=by
 obtain ⟨st,wd,R,U,h1,h2⟩:=h
 have hci:=c_in hc hn
 refine (sstore_old h1 hc.small (eN 1 r) (eN_lt 1 r) h2.lr.ep.1 hci.2.1 hci.2.2.2.2 i v hi ?_ (by omega)).mono ?_
 ·cases hf:freshB f t (i:Nat) with
  | true => exact .inl rfl
  | false =>
   rcases hp with hp | ⟨k,hk,rfl⟩
   ·rw [hf] at hp; cases hp
   ·exact .inr ⟨rfl,h2.ri.1 k hk⟩
 ·rintro e w' (⟨rfl,h3,hk⟩ | ⟨rfl,⟨S',hcut,h3⟩,hk⟩)
  ·exact .inl ⟨rfl,_,_,⟨_,_,_,_,h3,h2.store v hi hp⟩,fun j _ _ => st_now _ _ _ _,by have:(([Cmd.st i v]:List Cmd).length:Int) = 1:=rfl; omega,hk⟩
  ·exact .inr ⟨rfl,⟨S',h3,fun hf => h2.cut_old hf hcut K⟩,hk⟩
theorem sstore_g_new (h:OpenG p a l u S q c m r pl D f t w) (hc:c.Ok) (hn:c.words = a.n) (hb:u < 4000000000000) (hrb:r < 4294967296) (i:Nat) (v:Int) (hi:c.act ≤ i ∧ i < a.n) (hf:freshB f t i = false) (hp:¬ HasR m pl i) (hm:m < c.log) (K:Nat → Int) :
  Calls Tryz.prog 104 #[ptr q.b, .int .i64 i, .int .u64 v] w fun e w' => (e = .returned (.int .i64 0) ∧ ∃ u' S',OpenG p a l u' S' q c (m + 1) r (put pl m i) D f t w' ∧ (∀ j,c.act ≤ j → j < a.n → S'.now j = if j = i then v else S.now j) ∧ u' ≤ u + 3000 ∧ Keeps (q.bl p a) w w') ∨ Gone p a l c r f t D K (q.bl p a) w e w':=by
 obtain ⟨st,wd,R,U,h1,h2⟩:=h
 have hci:=c_in hc hn
 have hact:16 + 4 * c.log ≤ c.act:=(up8_le (16 + 4 * c.log)).1
 have hpp:∀ k,k < m → pl k ≠ i:=fun k hk e => hp ⟨k,hk,e⟩
 refine (sstore_new h1 hc hn h2.lr hrb i v hi hf (h2.ri.2 _ fun k hk e => hp ⟨k,hk,by omega⟩) hm (by omega)).mono ?_
 rintro e w' (⟨rfl,h3,hk⟩ | ⟨rfl,⟨S',hcut,h3⟩,hk⟩)
 ·have h4:=(h2.new (st:=st) hi hm hf hpp).store v hi (.inr ⟨m,by omega,put_on _ _ _⟩)
  rw [← execs_append] at h4
  have hl:=appL_len (st:=st) (m:=m) hc (eN 1 r) i (S.now i)
  refine .inl ⟨rfl,_,_,⟨_,_,_,_,h3,h4⟩,fun j h5 _ => ?_, ?_,hk⟩
  ·rw [execs_append,st_now]
   split
   ·rfl
   ·exact (app_pre (by omega) (by omega) (by omega)).2
  ·rw [List.length_append]; simp; omega
 ·exact .inr ⟨rfl,⟨S',h3,fun hff => h2.cut_new hff hi hm hpp hcut K⟩,hk⟩
end
end Go.Proofs.YtglpoffbkkdjiaaGreat
namespace Go.Proofs.YtglpoffbkkdjiaaGreat
open Go.RowKit Go.OpenShut
structure ScS where
 u:Int
 S:DS
 m:Nat
 pl:Nat → Nat
def SecJ (p:Nat) (a:DA) (l:Int) (q:Sc) (c:Cfg) (r:Nat) (D:Nat → Int) (W0:World) (u0:Int) (n:Nat) (s:ScS) (w:World):Prop :=
 OpenG p a l s.u s.S q c s.m r s.pl D 0 0 w ∧ s.m ≤ n ∧ s.u ≤ u0 + 3000 * (n:Int) ∧ Keeps (q.bl p a) W0 w
def SecT (c:Cfg) (n:Nat) (s:ScS) (i:Nat) (v:Int) (code:Int) (s':ScS):Prop:=c.act ≤ i → code = 0 ∧ ∀ j,c.act ≤ j → j < n → s'.S.now j = if j = i then v else s.S.now j
def SecX (p:Nat) (a:DA) (l:Int) (q:Sc) (c:Cfg) (r:Nat) (D K:Nat → Int) (W0:World) (w:World):Prop:=(∃ S',Pw w p a l l S' ∧ LeftK c a.n r D K S') ∧ Keeps (q.bl p a) W0 w
theorem fresh_none (i:Int):freshB 0 0 i = false:=by
 unfold freshB
 rw [Bool.and_eq_false_iff]
 by_cases h:(0:Int) ≤ i
 ·right; exact decide_eq_false (by omega)
 ·left; exact decide_eq_false h
theorem sec_storer {p:Nat} {a:DA} {l:Int} {q:Sc} {c:Cfg} {r:Nat} (D K:Nat → Int) (W0:World) (u0:Int) (hc:c.Ok) (hn:c.words = a.n) (hr:r < 4294967296) (hu:u0 ≤ 3000000000000) :
  Storer 104 #[ptr q.b] #[] a (fun s:ScS => s.S) (fun _ => q.bl p a) c.log (SecJ p a l q c r D W0 u0) (SecT c a.n) (fun _ _ _ w => SecX p a l q c r D K W0 w) where
 inv:=fun w i v => by simp [go_sem]
 dev:=fun n s w h => ⟨p,h.1.pw.dev⟩
 keep:=fun n s w w' ⟨h1,h2,h3,h4⟩ hk => ⟨h1.keep0 hk,h2,h3,h4.trans (hk.mono (by simp))⟩
 more:=fun n s w ⟨h1,h2,h3,h4⟩ => ⟨h1,by omega,by omega,h4⟩
 call:=fun n s w i v hnn ⟨h1,h2,h3,h4⟩ hi => by
  have hl:=hc.2.2.2.1
  have hlo:=h1.pw.lo
  have gone:∀ {e:Ending} {w':World},Gone p a l c r 0 0 D K (q.bl p a) w e w' → e = .panicked [{ v:=goneV,recovered:=false }] ∧ SecX p a l q c r D K W0 w':=by
   rintro e w' ⟨rfl,⟨S',g1,g2⟩,g3⟩
   exact ⟨rfl,⟨S',g1,g2 fun j _ => fresh_none _⟩,h4.trans g3⟩
  by_cases hia:c.act ≤ i
  ·by_cases hp:HasR s.m s.pl i
   ·refine (sstore_g_old h1 hc hn (by omega) i v ⟨hia,hi⟩ (.inr hp) K).mono ?_
    rintro e w' (⟨rfl,u',S',g1,g2,g3,g4⟩ | h)
    ·exact .inl ⟨0,⟨u',S',s.m,s.pl⟩,rfl,fun _ => ⟨rfl,g2⟩,⟨g1,by show s.m ≤ n + 1; omega,by show u' ≤ _; omega,h4.trans g4⟩,g4,fun b hb => .inl hb⟩
    ·exact .inr (gone h)
   ·refine (sstore_g_new h1 hc hn (by omega) hr i v ⟨hia,hi⟩ (fresh_none _) hp (by omega) K).mono ?_
    rintro e w' (⟨rfl,u',S',g1,g2,g3,g4⟩ | h)
    ·exact .inl ⟨0,⟨u',S',s.m + 1,put s.pl s.m i⟩,rfl,fun _ => ⟨rfl,g2⟩,⟨g1,by show s.m + 1 ≤ n + 1; omega,by show u' ≤ _; omega,h4.trans g4⟩,g4,fun b hb => .inl hb⟩
    ·exact .inr (gone h)
  ·refine (sstore_g_out h1 hc.small i v (.inl (by omega))).mono ?_
   rintro e w' ⟨rfl,hk⟩
   exact .inl ⟨1,s,rfl,fun h => absurd h hia,⟨h1.keep0 hk,by omega,by omega,h4.trans (hk.mono (by simp))⟩,hk.mono (by simp),fun b hb => .inl hb⟩
theorem wr_sec {c:Cfg} {N:Nat}:∀ {l:List (Nat × Int)} {s s':ScS} {code:Int},WrT (fun s:ScS => s.S) (SecT c N) l s code s' → l.Pairwise (fun x y => x.1 ≠ y.1) → (∀ x ∈ l,c.act ≤ x.1 ∧ x.1 < N) →
  code = 0 ∧ (∀ x ∈ l,s'.S.now x.1 = x.2) ∧ ∀ j,c.act ≤ j → j < N → (∀ x ∈ l,x.1 ≠ j) → s'.S.now j = s.S.now j
 | [],s,s',code,h,_,_ => by obtain ⟨rfl,rfl⟩:=h; exact ⟨rfl,by simp,fun _ _ _ _ => rfl⟩
 | (i,v) :: l,s,s',code,h,hp,hz => by
  obtain ⟨c1,s1,h1,h2⟩:=h
  rw [List.pairwise_cons] at hp
  have hi:=hz (i,v) List.mem_cons_self
  have h3:c1 = 0 ∧ s1.S.now i = v ∧ ∀ j,c.act ≤ j → j < N → i ≠ j → s1.S.now j = s.S.now j:=by
   rcases h1 with ⟨e1,e2,rfl⟩ | ⟨_,e2⟩
   ·exact ⟨e2,e1,fun _ _ _ _ => rfl⟩
   ·obtain ⟨e3,e4⟩:=e2 hi.1
    refine ⟨e3, ?_,fun j a b hj => ?_⟩
    ·rw [e4 i hi.1 hi.2,if_pos rfl]
    ·rw [e4 j a b,if_neg (fun e => hj e.symm)]
  obtain ⟨rfl,h4,h5⟩:=h3
  rcases h2 with ⟨h6,_⟩ | ⟨_,h6⟩
  ·exact absurd rfl h6
  ·obtain ⟨rfl,h7,h8⟩:=wr_sec h6 hp.2 fun x hx => hz x (List.mem_cons_of_mem _ hx)
   refine ⟨rfl,fun x hx => ?_,fun j a b hj => ?_⟩
   ·rcases List.mem_cons.1 hx with rfl | hx
    ·exact (h8 i hi.1 hi.2 (fun y hy => (hp.1 y hy).symm)).trans h4
    ·exact h7 x hx
   ·rw [h8 j a b (fun y hy => hj y (List.mem_cons_of_mem _ hy)),h5 j a b (hj (i,v) List.mem_cons_self)]
theorem wrG_sec {now:ScS → DS} {T:ScS → Nat → Int → Int → ScS → Prop} {X:World → Prop}:∀ {l:List (Nat × Int)} {s:ScS} {w:World},WrG now T (fun _ _ _ w => X w) l s w → X w
 | [],_,_,h => h.elim
 | (i,v) :: l,s,w,h => by
  rcases h with ⟨_,h⟩ | ⟨s1,_,h⟩
  ·exact h
  ·exact wrG_sec h
end Go.Proofs.YtglpoffbkkdjiaaGreat
namespace Go.Proofs.YtglpoffbkkdjiaaGreat
open Go.RowKit Go.OpenShut
set_option maxHeartbeats 400000 in
theorem keep15_ran (w:World) (p:Nat) (a:DA) (l u:Int) (S:DS) (h:Pw w p a l u S) (hb:u < 4611686018427380000 ∧ a.L ≤ 2000) :
  Calls Tryz.prog 57 #[ptr a.d] w (Ran p a l u S (keepL a.L) (.tuple #[]) w):=by
 have h0:=h.lo
 have hn8:=a.n8
 have HN8:=hid hn8
 clear hn8
 go_enter Tryz.func57,Tryz.ntmps57
 go_wp2_with fail
 go_loopg [2] a.L (fun r s wr => ∃ i q:Nat,i + r = a.L ∧ q = 8 * i ∧ s = .int .i64 (q:Int) ∧ Pw wr p a l (u + (i:Int)) (execs S (rowL keepF i)) ∧ Keeps [p,a.s,a.k,a.m] w wr)
 case atStart => exact ⟨0,0,by omega,rfl,rfl,by simpa [rowL_zero,execs_nil] using h,Keeps.refl _ _⟩
 case round =>
  obtain ⟨i,q,hi,hq,rfl,hP,hK⟩:=hrel
  have HL:=hid (len_at wr p a _ hP.dev)
  have hq1:(q:Int) ≤ 16000:=by omega
  by_cases hlt:i < a.L
  ·have hqn:q < a.n:=by rw [HN8.out]; omega
   have t0:decide (q < a.n) = true:=by rw [decide_eq_true_eq]; exact hqn
   have t1:decide ((q:Int) < (a.n:Int)) = true:=by rw [decide_eq_true_eq]; omega
   have HF:=hid (flush_ran wr p a l _ _ q hP hqn (by omega))
   have HQ:=hid hq
   clear hq
   go_wp2_with fail
   refine HL.out.mono ?_
   rintro e w1 ⟨rfl,rfl⟩
   go_wp2_with fail
   refine HF.out.mono ?_
   rintro e w2 (⟨rfl,h2,k2⟩ | ⟨rfl,⟨S',c2,h2⟩,k2⟩)
   ·go_wp2_with fail
    go_roundg (a.L - (i + 1))
    case measure => omega
    case rel =>
     refine ⟨i + 1,q + 8,by omega,by have:=HQ.out; omega,by go_num, ?_,hK.trans k2⟩
     have h3:=h2
     rw [← execs_append,HQ.out] at h3
     have e:rowL keepF (i + 1) = rowL keepF i ++ [Cmd.fl (8 * i)]:=rowL_succ _ _
     rw [e]
     simpa [Int.add_assoc] using h3
   ·refine ⟨rfl,ran_cut h2 ?_ (hK.trans k2)⟩
    rw [HQ.out] at c2
    exact (Cut.row (f:=keepF) c2 hlt).left [Cmd.fe]
  ·have hiL:i = a.L:=by omega
   subst hiL
   have hqn:q = a.n:=by rw [HN8.out]; omega
   have t0:decide (q < a.n) = false:=by rw [decide_eq_false_iff_not]; omega
   have t1:decide ((q:Int) < (a.n:Int)) = false:=by rw [decide_eq_false_iff_not]; omega
   have HF:=hid (fence_ran wr p a l _ _ hP (by omega))
   clear hqn hq hi
   go_wp2_with fail
   refine HL.out.mono ?_
   rintro e w1 ⟨rfl,rfl⟩
   go_wp2_with fail
   refine HF.out.mono ?_
   rintro e w2 (⟨rfl,h2,k2⟩ | ⟨rfl,⟨S',c2,h2⟩,k2⟩)
   ·go_wp2_with fail
    go_end0
    refine ran_end h2 ?_ ?_ (hK.trans k2)
    ·rw [keepL_len]; simp; omega
    ·rw [keepL,execs_append]
   ·exact ⟨rfl,ran_cut h2 (Cut.right (A:=rowL keepF a.L) (B:=[Cmd.fe]) c2 (by rw [rowL_len]) rfl) (hK.trans k2)⟩
theorem keepL_off {L:Nat} {x:Cmd} (h:x ∈ keepL L) (j:Nat):x.Off j:=by
 rcases List.mem_append.1 h with h | h
 ·obtain ⟨i,_,rfl⟩:=mem_rowL h
  trivial
 ·rw [List.mem_singleton] at h
  subst h
  trivial
theorem keepL_now (S:DS) (L:Nat):(execs S (keepL L)).now = S.now:=(keep_kept S L).1
theorem keepL_fix (S:DS) (L:Nat) {j:Nat} (hj:j < 8 * L):Fix (execs S (keepL L)) j (S.now j):=by
 obtain ⟨h1,h2,h3⟩:=keep_kept S L
 exact ⟨congrFun h1 j,h2 j hj,fun e => by rw [h3] at e; cases e⟩
def CntJ15 (p:Nat) (a:DA) (S:DS) (rb:Nat) (n:Nat) (s:Nat) (w:World):Prop:=Dev w p a S ∧ At w rb (.cells #[.int .i64 (s:Nat)] 3) ∧ s ≤ n
def CntT15 (s:Nat) (_:Nat) (_:Int) (code:Int) (s':Nat):Prop:=code = 0 ∧ s' = s + 1
set_option maxHeartbeats 400000 in
theorem room1_at (w:World) (rb s:Nat) (h:At w rb (.cells #[.int .i64 (s:Nat)] 3)) (hs:s ≤ 1000) (i v:Int) :
  Calls Tryz.prog 97 #[.int .i64 i, .int .u64 v,ptr rb] w fun e w' => e = .returned (.int .i64 0) ∧ At w' rb (.cells #[.int .i64 ((s + 1:Nat):Int)] 3) ∧ Keeps [rb] w w':=by
 have c0:=h.cell 0 rfl
 have f0:=h.free 0
 have e1:IntKind.i64.wrap ((s:Int) + 1) = (s:Int) + 1:=IntWalk.i64_in _ (by omega)
 have HE:Hid (At (w.setCell ⟨rb,0,none⟩ (.int .i64 ((s:Int) + 1))) rb (.cells #[.int .i64 ((s + 1:Nat):Int)] 3) ∧ Keeps [rb] w (w.setCell ⟨rb,0,none⟩ (.int .i64 ((s:Int) + 1)))):=by
  refine ⟨?_,(Keeps.refl _ _).set (.inl (by simp)) _⟩
  have:=h.set 0 (.int .i64 ((s:Int) + 1))
  simpa using this
 clear h hs
 go_enter Tryz.func97,Tryz.ntmps97
 go_wp2_with fail
 go_ret
 exact ⟨rfl,HE.out⟩
theorem cnt15_storer (p:Nat) (a:DA) (S:DS) (rb:Nat) (hs:∀ b ∈ [a.d,a.s,a.k,a.m],b ≠ rb) :
  Storer 97 #[] #[ptr rb] a (fun _ => S) (fun _ => [rb]) 900 (CntJ15 p a S rb) CntT15 (fun _ _ _ _ => False) where
 inv:=fun w i v => by simp [go_sem]
 dev:=fun n s w h => ⟨p,h.1⟩
 keep:=fun n s w w' h hk => ⟨h.1.keep hk (by simp) (by simp) (by simp) (by simp),hk.at h.2.1 (by simp),h.2.2⟩
 more:=fun n s w h => ⟨h.1,h.2.1,Nat.le_succ_of_le h.2.2⟩
 call:=fun n s w i v hn ⟨h1,h2,h3⟩ hi => by
  refine (room1_at w rb s h2 (by omega) i v).mono ?_
  rintro e w' ⟨rfl,e1,e2⟩
  have hd:∀ b ∈ [a.d,a.s,a.k,a.m],b ∉ [rb]:=fun b hb hm => by
   have:=hs b hb
   simp at hm
   exact this hm
  exact .inl ⟨0,s + 1,rfl,⟨rfl,rfl⟩,⟨h1.keep e2 (hd _ (by simp)) (hd _ (by simp)) (hd _ (by simp)) (hd _ (by simp)),e1,by omega⟩,e2,fun b hb => .inl hb⟩
theorem wr_cnt {S:DS}:∀ {l:List (Nat × Int)} {s s':Nat} {code:Int},WrT (fun _:Nat => S) CntT15 l s code s' → code = 0 ∧ s' ≤ s + l.length
 | [],s,s',code,h => by obtain ⟨rfl,rfl⟩:=h; exact ⟨rfl,Nat.le_refl _⟩
 | (i,v) :: l,s,s',code,h => by
  obtain ⟨c1,s1,h1,h2⟩:=h
  have h3:c1 = 0 ∧ s1 ≤ s + 1:=by
   rcases h1 with ⟨_,e2,rfl⟩ | ⟨_,e2,rfl⟩
   ·exact ⟨e2,by omega⟩
   ·exact ⟨e2,by omega⟩
  rcases h2 with ⟨h6,_⟩ | ⟨_,h6⟩
  ·exact absurd h3.1 h6
  ·obtain ⟨rfl,h7⟩:=wr_cnt h6
   refine ⟨rfl, ?_⟩
   rw [List.length_cons]
   omega
theorem wrG_cnt {S:DS}:∀ {l:List (Nat × Int)} {s:Nat} {w:World}, ¬ WrG (fun _:Nat => S) CntT15 (fun _ _ _ _ => False) l s w
 | [],_,_,h => h
 | (i,v) :: l,s,w,h => by
  rcases h with ⟨_,h⟩ | ⟨s1,_,h⟩
  ·exact h
  ·exact wrG_cnt h
set_option maxRecDepth 100000 in
set_option maxHeartbeats 4000000 in
theorem room15_at (w:World) (p:Nat) (a:DA) (S:DS) (q:Sc) (c:Cfg) (f t:Int) (hD:Dev w p a S) (hS:At w q.b (secO a.d q c false f t))
  (hL:∀ w',Keeps [] w w' → Calls Tryz.prog 54 #[ptr q.lb] w' fun e w'' => e = .returned (.int .i64 (0:Nat)) ∧ w' = w'')
  (hc:c.Ok) (hcn:c.words = a.n) (k u:Nat) (hk:k ≤ 1) (hu:u ≤ c.space) (x:Option Addr) (cp:Nat) (fr:Nat → Int) (hx:Reads w x c.roots fr) (hxl:∀ b ∈ blkL x,b < w.heap.size) :
  Calls Tryz.prog 55 #[ptr a.d,cfgV c,ptr q.b,bkV k u (.slice x c.roots cp)] w fun e w' => e = .returned (.bool true) ∧ Keeps [] w w':=by
 have hlim:c.roots + 2 ≤ c.log ∧ c.log ≤ 200:=⟨hc.2.2.1,hc.2.2.2.1⟩
 have hlg:(c.log:Int) ≤ 200:=by omega
 have HD:=hid hD
 have HL:=hid hL
 have HC:=hid (And.intro hc (And.intro hcn (And.intro hk (And.intro hu (And.intro hx (And.intro hxl hlim))))))
 have HDL:Hid (∀ b ∈ [a.d,a.s,a.k,a.m],b < w.heap.size):=fun b hb => by
  have h1:=hD.dev.lt
  have h2:=hD.now.lt
  have h3:=hD.kept.lt
  have h4:=hD.map.lt
  simp only [List.mem_cons,List.not_mem_nil,or_false] at hb
  rcases hb with rfl | rfl | rfl | rfl <;> assumption
 clear hD hL hc hcn hk hu hx hxl hlim
 go_enter Tryz.func55,Tryz.ntmps55
 go_upto_region 1 with fail
 have hC0:=(At.new w (cfgO c)).alloc (bkO k u (.slice x c.roots cp))
 have hB0:=At.new (w.alloc (cfgO c)) (bkO k u (.slice x c.roots cp))
 have K0:=((Keeps.refl [] w).alloc (cfgO c)).alloc (bkO k u (.slice x c.roots cp))
 simp only [World.size_alloc] at hB0
 obtain ⟨cb,hcb⟩:∃ q,q = w.heap.size:=⟨_,rfl⟩
 obtain ⟨bb,hbb⟩:∃ q,q = w.heap.size + 1:=⟨_,rfl⟩
 obtain ⟨w0,hw0⟩:∃ w0,w0 = (w.alloc (cfgO c)).alloc (bkO k u (.slice x c.roots cp)):=⟨_,rfl⟩
 rw [← hbb, ← hcb]
 rw [← hbb] at hB0
 rw [← hcb] at hC0
 rw [← hw0] at hB0 hC0 K0 ⊢
 have HZ:Hid (w.heap.size ≤ cb ∧ w.heap.size ≤ bb):=⟨by omega,by omega⟩
 have HK0:=hid K0
 have HB0:=hid hB0
 have HC0:=hid hC0
 have s0:=(K0.at hS (by simp)).cell 0 rfl
 clear hw0 hS hbb hcb hB0 hC0 K0
 go_wp2_with fail
 refine (HL.out w0 HK0.out).mono ?_
 rintro e w1 ⟨rfl,rfl⟩
 clear s0
 go_upto_region 2 with fail
 have hR2:=At.new w0 (.cells #[.int .i64 0] 3)
 have k2:=(Keeps.refl [] w0).alloc (.cells #[.int .i64 0] 3)
 obtain ⟨rb,hrb⟩:∃ q,q = w0.heap.size:=⟨_,rfl⟩
 obtain ⟨w2,hw2⟩:∃ w2,w2 = w0.alloc (.cells #[.int .i64 0] 3):=⟨_,rfl⟩
 rw [← hrb]
 rw [← hrb] at hR2
 rw [← hw2] at hR2 k2 ⊢
 have hK2:=HK0.out.trans k2
 have hC2:=k2.at HC0.out (by simp)
 have hB2:=k2.at HB0.out (by simp)
 have hd2:∀ b ∈ [a.d,a.s,a.k,a.m],b ≠ rb:=fun b hb => by
  have h1:=HDL.out b hb
  have h2:=HK0.out.size
  omega
 have hrl:w.heap.size ≤ rb:=by rw [hrb]; exact HK0.out.size
 have hcr:cb ≠ rb ∧ bb ≠ rb:=by
  have h1:=HC0.out.lt
  have h2:=HB0.out.lt
  omega
 obtain ⟨g1,g2,g3,g4,g5,g6,g7,g8⟩:=HC.out
 have HWR:=hid (rwrite_at (cnt15_storer p a S rb hd2) 0 0 w2 ⟨HD.out.keep hK2 (by simp) (by simp) (by simp) (by simp),hR2,Nat.le_refl _⟩ c g1 g2 k u g3 g4 x cp fr (by omega) (g5.keep hK2 (by simp)) (fun b off hx => by
   subst hx
   have h1:=g6 b (by simp [blkL])
   have h2:=hK2.size
   exact ⟨by simp; omega,by omega⟩) (fun b hb => by rw [List.mem_singleton.1 hb]; exact hR2.lt))
 have c0:=hC2.cell 0 rfl
 have c1:=hC2.cell 1 rfl
 have c2:=hC2.cell 2 rfl
 have b0:=hB2.cell 0 rfl
 have b1:=hB2.cell 1 rfl
 have b2:=hB2.cell 2 rfl
 have HC2:=hid hC2
 have HKK:=hid hK2
 have HCR:=hid (And.intro hcr hrl)
 clear hw2 hrb hR2 k2 hK2 hC2 hB2 hd2 hrl hcr g1 g2 g3 g4 g5 g6 g7 g8
 go_wp2_with fail
 refine HWR.out.mono ?_
 rintro e w3 (⟨code,s',rfl,hT,hJ3,hk3,_⟩ | ⟨_,hg⟩)
 rotate_left
 ·exact absurd hg wrG_cnt
 obtain ⟨hcd,hsl⟩:=wr_cnt hT
 rw [blkW_len] at hsl
 have hR3:=hJ3.2.1.cell 0 rfl
 have hC3:=(hk3.at HC2.out (by simp; exact HCR.out.1.1)).cell 0 rfl
 have hlim:=HC.out.2.2.2.2.2.2
 have t1:decide ((s':Int) ≤ (c.log:Int)) = true:=decide_eq_true (by omega)
 have t2:decide (s' ≤ c.log) = true:=decide_eq_true (by omega)
 have HE:Hid (Keeps [] w w3):=HKK.out.new hk3 fun b hb => .inr (by rw [List.mem_singleton.1 hb]; exact HCR.out.2)
 clear hT hJ3 hk3 hcd c0 c1 c2 b0 b1 b2 hlim hsl
 go_wp2_with fail
 go_ret
 exact ⟨rfl,HE.out⟩
end Go.Proofs.YtglpoffbkkdjiaaGreat
namespace Go.Proofs.YtglpoffbkkdjiaaGreat
open Go.RowKit Go.OpenShut
def blkF (c:Cfg) (k u:Nat) (f old:Nat → Int) (j:Nat):Int:=if j = c.act then (k:Int) else if j = c.act + 1 then (u:Int) else if j < c.root c.roots then f (j - (c.act + 2)) else old j
def ShutL (p:Nat) (a:DA) (l u:Int) (S:DS) (q:Sc) (c:Cfg) (r:Nat) (w:World):Prop :=
 ∃ st f t R U pl wd,SW w p a l u S q c 0 st false f t R U ∧ LR c a.n 1 r 0 pl wd S ∧ UIn U a.n
section
variable {w w':World} {p:Nat} {a:DA} {l u u':Int} {S S':DS} {q:Sc} {c:Cfg} {m r:Nat}
theorem ShutG.shutL (h:ShutG p a l u S q c r w):ShutL p a l u S q c r w:=by
 obtain ⟨st,f,t,R,U,pl,wd,h1,h2⟩:=h
 exact ⟨st,f,t,R,U,pl,wd,h1,h2.lr,h2.uin⟩
theorem ShutL.pw (h:ShutL p a l u S q c r w):Pw w p a l u S:=by
 obtain ⟨st,f,t,R,U,pl,wd,h1,h2⟩:=h
 exact h1.lw.pw
theorem ShutL.keep0 (h:ShutL p a l u S q c r w) (hk:Keeps [] w w'):ShutL p a l u S q c r w':=by
 obtain ⟨st,f,t,R,U,pl,wd,h1,h2⟩:=h
 exact ⟨st,f,t,R,U,pl,wd,h1.keep0 hk,h2⟩
theorem ShutL.lts (h:ShutL p a l u S q c r w):∀ b ∈ a.d :: q.bl p a,b < w.heap.size:=by
 obtain ⟨st,f,t,R,U,pl,wd,h1,h2⟩:=h
 exact h1.lts
theorem ShutL.sopen (h:ShutL p a l u S q c r w):Calls Tryz.prog 52 #[ptr q.b] w fun e w' => e = .returned (.bool false) ∧ w = w':=by
 obtain ⟨st,f,t,R,U,pl,wd,h1,h2⟩:=h
 exact sopen_at h1
theorem ShutL.len (h:ShutL p a l u S q c r w):(∃ f t,At w q.b (secO a.d q c false f t)) ∧ Calls Tryz.prog 54 #[ptr q.lb] w fun e w' => e = .returned (.int .i64 (0:Nat)) ∧ w = w':=by
 obtain ⟨st,f,t,R,U,pl,wd,h1,h2⟩:=h
 exact ⟨⟨_,_,h1.sec⟩,len6_at h1.lw⟩
theorem ShutL.next {T:List Nat} (h:ShutL p a l u S q c r w) (hP:Pw w' p a l u' S') (hk:Keeps (T ++ [p,a.s,a.k,a.m]) w w') (hT:∀ b ∈ q.bl p a,b ∉ T) (hpre:∀ j,j < c.act → Pre S S' j):ShutL p a l u' S' q c r w':=by
 obtain ⟨st,f,t,R,U,pl,wd,h1,h2,h3⟩:=h
 obtain ⟨n1,n2,n3,n4,n5,n6⟩:=h1.ne
 obtain ⟨m1,m2,m3,m4,m5⟩:=h1.lw.ne
 have hact:16 + 4 * c.log ≤ c.act:=(up8_le (16 + 4 * c.log)).1
 have off:∀ b,b ∈ q.bl p a → b ∉ [p,a.s,a.k,a.m] → b ∉ T ++ [p,a.s,a.k,a.m]:=fun b h5 h6 h7 => by
  rcases List.mem_append.1 h7 with h | h
  ·exact hT b h5 h
  ·exact h6 h
 simp only [List.mem_cons,List.not_mem_nil,or_false,not_or] at n1 n2 n3
 refine ⟨st,f,t,R,U,pl,wd,⟨⟨hP,hk.at h1.lw.log (off _ (by simp [Sc.bl]) ?_)⟩,hk.at h1.sec (off _ (by simp [Sc.bl]) ?_),h1.rm.keep hk (off _ (by simp [Sc.bl]) ?_),h1.um.keep hk (off _ (by simp [Sc.bl]) ?_),h1.ru,h1.ra,h1.ua⟩,h2.pre (hpre 8 (by omega)) (fun i hi => absurd hi (Nat.not_lt_zero _)) (fun i _ hi => hpre _ (by omega)),h3⟩
 ·simp only [List.mem_cons,List.not_mem_nil,or_false,not_or]; exact ⟨m1,m3,m4,m5⟩
 ·simp only [List.mem_cons,List.not_mem_nil,or_false,not_or]; exact ⟨n1.1,n1.2.1,n1.2.2.1,n1.2.2.2.1⟩
 ·simp only [List.mem_cons,List.not_mem_nil,or_false,not_or]; exact ⟨n2.1,n2.2.1,n2.2.2.1,n2.2.2.2.1⟩
 ·simp only [List.mem_cons,List.not_mem_nil,or_false,not_or]; exact ⟨n3.1,n3.2.1,n3.2.2.1,n3.2.2.2.1⟩
theorem ShutL.shutG (h:ShutL p a l u S q c r w) (hcl:∀ j,c.act ≤ j → j < a.n → Fix S j (S.now j)):ShutG p a l u S q c r w:=by
 obtain ⟨st,f,t,R,U,pl,wd,h1,h2,h3⟩:=h
 exact ⟨st,f,t,R,U,pl,wd,h1,h2,hcl,h3⟩
end
theorem blkW_mem {c:Cfg} {k u:Int} {n:Nat} {f:Nat → Int} {x:Nat × Int} (h:x ∈ blkW c k u n f):x = (c.act,k) ∨ x = (c.act + 1,u) ∨ ∃ i,i < n ∧ x = (c.root i,f i):=by
 unfold blkW at h
 rcases List.mem_cons.1 h with h | h
 ·exact .inl h
 ·rcases List.mem_cons.1 h with h | h
  ·exact .inr (.inl h)
  ·obtain ⟨i,hi,h⟩:=List.mem_map.1 h
   exact .inr (.inr ⟨i,List.mem_range.1 hi,h.symm⟩)
theorem blk_sec {c:Cfg} {N k u:Nat} {f:Nat → Int} {s s':ScS} {code:Int} (hc:c.Ok) (hn:c.words = N) (h:WrT (fun s:ScS => s.S) (SecT c N) (blkW c k u c.roots f) s code s') :
  code = 0 ∧ ∀ j,c.act ≤ j → j < N → s'.S.now j = blkF c k u f s.S.now j:=by
 obtain ⟨q1,q2,q3,q4⟩:=places hc
 have hin:∀ x ∈ blkW c (k:Int) (u:Int) c.roots f,c.act ≤ x.1 ∧ x.1 < N:=fun x hx => by
  rcases blkW_mem hx with rfl | rfl | ⟨i,hi,rfl⟩
  ·show c.act ≤ c.act ∧ c.act < N; omega
  ·show c.act ≤ c.act + 1 ∧ c.act + 1 < N; omega
  ·show c.act ≤ c.root i ∧ c.root i < N
   unfold Cfg.root
   omega
 obtain ⟨h1,h2,h3⟩:=wr_sec h (blkW_dist c k u c.roots f) hin
 refine ⟨h1,fun j a b => ?_⟩
 unfold blkF
 by_cases e1:j = c.act
 ·rw [if_pos e1,e1]
  exact h2 (c.act,(k:Int)) (by simp [blkW])
 ·rw [if_neg e1]
  by_cases e2:j = c.act + 1
  ·rw [if_pos e2,e2]
   exact h2 (c.act + 1,(u:Int)) (by simp [blkW])
  ·rw [if_neg e2]
   by_cases e3:j < c.root c.roots
   ·rw [if_pos e3]
    have e4:j = c.root (j - (c.act + 2)):=by unfold Cfg.root; omega
    have h4:=h2 (c.root (j - (c.act + 2)),f (j - (c.act + 2))) (by
     unfold blkW
     refine List.mem_cons_of_mem _ (List.mem_cons_of_mem _ (List.mem_map.2 ⟨j - (c.act + 2),List.mem_range.2 ?_,rfl⟩))
     unfold Cfg.root at e3; omega)
    rw [← e4] at h4
    exact h4
   ·rw [if_neg e3]
    refine h3 j a b fun x hx => ?_
    rcases blkW_mem hx with rfl | rfl | ⟨i,hi,rfl⟩
    ·exact fun e => e1 e.symm
    ·exact fun e => e2 e.symm
    ·show c.root i ≠ j
     unfold Cfg.root at e3 ⊢
     omega
def FlpP (p:Nat) (a:DA) (l u:Int) (S:DS) (q:Sc) (c:Cfg) (r k U:Nat) (f:Nat → Int) (w:World) (e:Ending) (w':World):Prop :=
 (e = .returned (.int .i64 0) ∧ ∃ u' S' r',ShutG p a l u' S' q c r' w' ∧ r' ≤ r + 1 ∧ (∀ j,c.act ≤ j → j < a.n → S'.now j = blkF c k U f S.now j) ∧ u' ≤ u + 1000000 ∧ Keeps (q.bl p a) w w') ∨
 (e = .panicked [{ v:=goneV,recovered:=false }] ∧ ∃ S' K,Pw w' p a l l S' ∧ (∀ j,c.act ≤ j → j < a.n → K j = blkF c k U f S.now j) ∧ LeftK c a.n r S.now K S' ∧ Keeps (q.bl p a) w w')
theorem bl_new {q:Sc} {p:Nat} {a:DA} {l u:Int} {S:DS} {c:Cfg} {r:Nat} {w:World} (h:ShutG p a l u S q c r w):∀ b ∈ a.d :: q.bl p a,b < w.heap.size:=by
 obtain ⟨st,f,t,R,U,pl,wd,h1,h2⟩:=h
 exact h1.lts
set_option maxRecDepth 100000 in
set_option maxHeartbeats 4000000 in
theorem flip15_at (w:World) (p:Nat) (a:DA) (l u:Int) (S:DS) (q:Sc) (c:Cfg) (r k U x:Nat) (f:Nat → Int) (hG:ShutG p a l u S q c r w) (hc:c.Ok) (hcn:c.words = a.n) (hk1:k ≤ 1) (hU:U ≤ c.space) (hu:u ≤ 2000000000000) (hr:r < 4294967290)
  (hB:∀ w',Keeps [] w w' → Calls Tryz.prog 42 #[ptr x] w' fun e w'' => ∃ y cy,e = .returned (bkV (k:Nat) (U:Nat) (.slice y c.roots cy)) ∧ OwnU w'' w'.heap.size y cy c.roots f ∧ Keeps [] w' w'') :
  Calls Tryz.prog 59 #[ptr a.d,cfgV c,ptr q.b,ptr x] w (FlpP p a l u S q c r k U f w):=by
 have HG:=hid hG
 have HB:=hid hB
 have HC:=hid (And.intro hc (And.intro hcn (And.intro hk1 (And.intro hU (And.intro hu hr)))))
 have HLT:=hid (bl_new hG)
 clear hG hB hc hcn hk1 hU hu hr
 go_enter Tryz.func59,Tryz.ntmps59
 go_wp2_with fail
 have hC0:=At.new w (cfgO c)
 have K0:=(Keeps.refl [] w).alloc (cfgO c)
 obtain ⟨cb,hcb⟩:∃ q,q = w.heap.size:=⟨_,rfl⟩
 obtain ⟨w0,hw0⟩:∃ w0,w0 = w.alloc (cfgO c):=⟨_,rfl⟩
 rw [← hcb]
 rw [← hcb] at hC0
 rw [← hw0] at hC0 K0 ⊢
 have HK0:=hid K0
 have HC0:=hid hC0
 have HCB:Hid (∀ b ∈ a.d :: q.bl p a,b ≠ cb):=fun b hb => by have:=HLT.out b hb; omega
 clear hw0 hcb hC0 K0
 refine (HB.out w0 HK0.out).mono ?_
 rintro e w1 ⟨y,cy,rfl,hO1,hk1⟩
 have HO1:=hid hO1
 have HK1:=hid (HK0.out.trans hk1)
 have HC1:=hid (hk1.at HC0.out (by simp))
 have HYB:Hid (∀ b ∈ blkL y,b ∉ a.d :: q.bl p a):=fun b hb hm => by
  have h1:=(hO1.ge b hb).1
  have h2:=HLT.out b hm
  have h3:=HK0.out.size
  omega
 clear hO1 hk1
 go_upto_region 2 with fail
 have hB2:=At.new w1 (bkO (k:Nat) (U:Nat) (.slice y c.roots cy))
 have k12:=(Keeps.refl [] w1).alloc (bkO (k:Nat) (U:Nat) (.slice y c.roots cy))
 obtain ⟨bb,hbb⟩:∃ q,q = w1.heap.size:=⟨_,rfl⟩
 obtain ⟨w2,hw2⟩:∃ w2,w2 = w1.alloc (bkO (k:Nat) (U:Nat) (.slice y c.roots cy)):=⟨_,rfl⟩
 first | rw [← hbb] | skip
 rw [← hbb] at hB2
 rw [← hw2] at hB2 k12 ⊢
 have HK2:=hid (HK1.out.trans k12)
 have HBX:Hid (∀ b ∈ a.d :: q.bl p a,b ≠ bb):=fun b hb => by
  have h1:=HLT.out b hb
  have h2:=HK1.out.size
  omega
 have HC2:=hid (k12.at HC1.out (by simp))
 have HB2:=hid hB2
 have HO2:=hid (HO1.out.keep k12 (by simp))
 have HG2:=hid (HG.out.keep0 HK2.out)
 have HYL:Hid (∀ b ∈ blkL y,b < w2.heap.size):=fun b hb => (HO2.out.ge b hb).2
 clear hw2 hbb hB2 k12
 have HRM:=hid (room15_at w2 p a S q c _ _ HG2.out.pw.dev (ShutL.len (ShutG.shutL HG2.out)).1.choose_spec.choose_spec (fun w' hk => (ShutL.len ((ShutG.shutL HG2.out).keep0 hk)).2) HC.out.1 HC.out.2.1 k U HC.out.2.2.1 HC.out.2.2.2.1 y cy f HO2.out.rd HYL.out)
 have HBG:=hid (fun (w':World) (hk:Keeps [] w2 w') => begin_g (HG2.out.keep0 hk) HC.out.1 HC.out.2.1 (by have:=HC.out.2.2.2.2.1; omega) 0 0 (blkF c k U f S.now))
 have c0:=HC2.out.cell 0 rfl
 have c1:=HC2.out.cell 1 rfl
 have c2:=HC2.out.cell 2 rfl
 have b0:=HB2.out.cell 0 rfl
 have b1:=HB2.out.cell 1 rfl
 have b2:=HB2.out.cell 2 rfl
 go_wp2_with fail
 refine (sopen_g_no HG2.out).mono ?_
 rintro e w3 ⟨rfl,rfl⟩
 go_wp2_with fail
 refine HRM.out.mono ?_
 rintro e w3 ⟨rfl,hk3⟩
 have HK3:=hid hk3
 clear hk3 c0 c1 c2 b0 b1 b2
 go_wp2_with fail
 refine (HBG.out w3 HK3.out).mono ?_
 rintro e w4 (⟨rfl,u4,S4,pl4,hO4,hn4,hu4,hk4⟩ | ⟨rfl,⟨S4,hP4,hL4⟩,hk4⟩)
 rotate_left
 ·refine ⟨rfl, .inr ⟨rfl,S4,_,hP4,fun j _ _ => rfl,hL4 fun j _ => fresh_none _,((HK2.out.trans HK3.out).mono (by simp)).trans hk4⟩⟩
 have HK4:=hid hk4
 have HH4:=hid (And.intro hn4 hu4)
 have HYX:Hid (∀ b off,y = some ⟨b,off,none⟩ → b ∉ q.bl p a ∧ b < w4.heap.size):=fun b off hy => by
  have h1:=HYB.out b (by rw [hy]; simp [blkL])
  have h2:=HYL.out b (by rw [hy]; simp [blkL])
  have h3:=HK3.out.size
  have h4:=HK4.out.size
  exact ⟨fun h => h1 (List.mem_cons_of_mem _ h),by omega⟩
 have HLT4:Hid (∀ b ∈ q.bl p a,b < w4.heap.size):=fun b hb => by
  have h1:=HLT.out b (List.mem_cons_of_mem _ hb)
  have h2:=(HK2.out.trans HK3.out).size
  have h3:=HK4.out.size
  omega
 have HRD4:Hid (Reads w4 y c.roots f):=((HO2.out.keep HK3.out (by simp)).keep HK4.out (fun b hb h => HYB.out b hb (List.mem_cons_of_mem _ h))).rd
 have hu4b:u4 ≤ 3000000000000:=by have:=HC.out.2.2.2.2.1; omega
 have HWR:=hid (rwrite_at (sec_storer S.now (blkF c k U f S.now) w4 u4 HC.out.1 HC.out.2.1 (by have:=HC.out.2.2.2.2.2; omega) hu4b) 0 ⟨u4,S4,0,pl4⟩ w4 ⟨hO4,Nat.le_refl _,by show u4 ≤ _; omega,Keeps.refl _ _⟩ c HC.out.1 HC.out.2.1 k U HC.out.2.2.1 HC.out.2.2.2.1 y cy f (by have:=HC.out.1.2.2.1; omega) HRD4.out HYX.out HLT4.out)
 have HC4:=hid (hk4.at (HK3.out.at HC2.out (by simp)) (fun h => HCB.out cb (List.mem_cons_of_mem _ h) rfl))
 have HB4:=hid (hk4.at (HK3.out.at HB2.out (by simp)) (fun h => HBX.out bb (List.mem_cons_of_mem _ h) rfl))
 clear hO4 hn4 hu4 hk4 HRM HBG hu4b
 have c0:=HC4.out.cell 0 rfl
 have c1:=HC4.out.cell 1 rfl
 have c2:=HC4.out.cell 2 rfl
 have b0:=HB4.out.cell 0 rfl
 have b1:=HB4.out.cell 1 rfl
 have b2:=HB4.out.cell 2 rfl
 go_wp2_with fail
 refine HWR.out.mono ?_
 rintro e w5 (⟨code,s5,rfl,hT,hJ5,hk5,_⟩ | ⟨rfl,hg⟩)
 rotate_left
 ·obtain ⟨⟨S',g1,g2⟩,g3⟩:=wrG_sec hg
  exact ⟨rfl, .inr ⟨rfl,S',_,g1,fun j _ _ => rfl,g2,(((HK2.out.trans HK3.out).mono (by simp)).trans HK4.out).trans g3⟩⟩
 obtain ⟨rfl,hb5⟩:=blk_sec HC.out.1 HC.out.2.1 hT
 have hb5':∀ j,c.act ≤ j → j < a.n → s5.S.now j = blkF c k U f S.now j:=fun j h1 h2 => by
  rw [hb5 j h1 h2]
  unfold blkF
  show (if _ then _ else if _ then _ else if _ then _ else S4.now j) = _
  rw [HH4.out.1 j]
 obtain ⟨hO5,hm5,hu5,hK5⟩:=hJ5
 have hu5b:s5.u ≤ u + 700000:=by
  have h1:=HH4.out.2
  have h2:s5.u ≤ u4 + 3000 * ((0 + (blkW c k U c.roots f).length:Nat):Int):=hu5
  rw [blkW_len] at h2
  have h3:=HC.out.1.2.1
  omega
 have HCM:=hid (commit_g hO5 HC.out.1 HC.out.2.1 (by have:=HC.out.2.2.2.2.1; omega))
 have HE5:=hid (And.intro hb5' (And.intro hu5b hK5))
 clear hT hk5 hb5 hb5' hO5 hm5 hu5 hK5 hu5b HWR c0 c1 c2 b0 b1 b2
 go_wp2_with fail
 refine HCM.out.mono ?_
 rintro e w6 (⟨rfl,u6,S6,hG6,hn6,hu6,hk6⟩ | ⟨rfl,⟨S6,hP6,hL6⟩,hk6⟩)
 rotate_left
 ·refine ⟨rfl, .inr ⟨rfl,S6,_,hP6,HE5.out.1,hL6 fun j _ => fresh_none _,((((HK2.out.trans HK3.out).mono (by simp)).trans HK4.out).trans HE5.out.2.2).trans hk6⟩⟩
 have HE6:Hid (FlpP p a l u S q c r k U f w (.returned (.int .i64 0)) w6):=by
  refine .inl ⟨rfl,u6,S6,_,hG6, ?_,fun j h1 h2 => (hn6 j h1 h2).trans (HE5.out.1 j h1 h2),by have:=HE5.out.2.1; omega,((((HK2.out.trans HK3.out).mono (by simp)).trans HK4.out).trans HE5.out.2.2).trans hk6⟩
  unfold rS
  split <;> omega
 clear hG6 hn6 hu6 hk6 HCM
 go_wp2_with fail
 go_ret
 exact HE6.out
end Go.Proofs.YtglpoffbkkdjiaaGreat
