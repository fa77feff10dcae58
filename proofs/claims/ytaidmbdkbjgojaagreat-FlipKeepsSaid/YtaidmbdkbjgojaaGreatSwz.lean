import Derived.Test.YtaidmbdkbjgojaaGreatFlp
namespace Go.Proofs.YtaidmbdkbjgojaaGreat
open Go.RowKit Go.OpenShut
structure ZOpen (Z M:Nat → Prop) (c:Cfg) (n r m:Nat) (pl:Nat → Nat) (wd:Nat → Int) (R U:Int → Option Value) (S:DS):Prop where
 lr:LR c n 1 r m pl wd S
 ri:RecI R m pl (eN 1 r)
 cl:∀ j,c.act ≤ j → j < n → Z j → U ((j / 8:Nat):Int) = none → Fix S j (S.now j)
 mks:∀ j,M j → U ((j / 8:Nat):Int) ≠ none
 uin:UIn U n
def OpenZ (Z M:Nat → Prop) (p:Nat) (a:DA) (u:Int) (S:DS) (q:Sc) (c:Cfg) (m r:Nat) (pl:Nat → Nat) (w:World):Prop :=
 ∃ st wd R U,SW w p a (-1) u S q c m st true 0 0 R U ∧ ZOpen Z M c a.n r m pl wd R U S
section
variable {Z M:Nat → Prop} {w w':World} {p:Nat} {a:DA} {u:Int} {S:DS} {q:Sc} {c:Cfg} {m r:Nat} {pl:Nat → Nat}
theorem OpenZ.keep0 (h:OpenZ Z M p a u S q c m r pl w) (hk:Keeps [] w w'):OpenZ Z M p a u S q c m r pl w':=by
 obtain ⟨st,wd,R,U,h1,h2⟩:=h
 exact ⟨st,wd,R,U,h1.keep0 hk,h2⟩
theorem OpenZ.pw (h:OpenZ Z M p a u S q c m r pl w):Pw w p a (-1) u S:=by
 obtain ⟨st,wd,R,U,h1,h2⟩:=h
 exact h1.lw.pw
theorem OpenZ.lts (h:OpenZ Z M p a u S q c m r pl w):∀ b ∈ a.d :: q.bl p a,b < w.heap.size:=by
 obtain ⟨st,wd,R,U,h1,h2⟩:=h
 exact h1.lts
theorem zkept {wd:Nat → Int} {R U:Int → Option Value} {n:Nat} {ss:List Int} (h:ZOpen Z M c n r m pl wd R U S) (hK:KeysOf U ss):∀ j,c.act ≤ j → j < n → (Z j ∨ ∃ i,M i ∧ i / 8 = j / 8) → Fix (execs S (kpC ss)) j (S.now j):=fun j h1 h2 h3 => by
 cases hu:U ((j / 8:Nat):Int) with
 | none =>
  rcases h3 with h3 | ⟨i,h3,h4⟩
  ·exact fix_kp (h.cl j h1 h2 h3 hu) ss
  ·exact absurd hu (by rw [← h4]; exact h.mks i h3)
 | some v => exact kpC_fix ((hK.2 _).2 (by rw [hu]; rfl))
theorem begin_z (h:ShutL p a (-1) u S q c r w) (hZ:∀ j,c.act ≤ j → j < a.n → Z j → Fix S j (S.now j)) (hc:c.Ok) (hn:c.words = a.n) (hb:u < 4000000000000) :
  Calls Tryz.prog 25 #[ptr q.b,spV 0 0] w fun e w' => e = .returned (.int .i64 0) ∧ ∃ u' S' pl,OpenZ Z (fun _ => False) p a u' S' q c 0 r pl w' ∧ (∀ j,S'.now j = S.now j) ∧ u' ≤ u + 3000 ∧ Keeps (q.bl p a) w w':=by
 obtain ⟨st,f,t,R,U,pl,wd,h1,h2,h3⟩:=h
 have hci:=c_in hc hn
 have hlo:=h1.lw.pw.lo
 refine (begin_ran h1 h3 hci.2.1 hci.2.2.2.2 (by omega)).mono ?_
 rintro e w' ⟨ss,hss,hr⟩
 obtain ⟨rfl,h4,hk⟩:=hr.free hlo
 have:=h3.few hci.2.2.2.2 hss
 exact ⟨rfl,_,_,pl,⟨_,wd,_,_,h4,h2.kp ss,RecI.none pl _,fun j h5 h6 h7 _ => by rw [kpC_now]; exact fix_kp (hZ j h5 h6 h7) ss,fun _ h => h.elim,UIn.none _⟩,fun j => kpC_now _ _ _,by rw [kpC_len]; omega,hk⟩
theorem begin_z_no (h:OpenZ Z M p a u S q c m r pl w) (f' t':Int) :
  Calls Tryz.prog 25 #[ptr q.b,spV f' t'] w fun e w' => e = .returned (.int .i64 2) ∧ Keeps [] w w':=by
 obtain ⟨st,wd,R,U,h1,h2⟩:=h
 exact begin_no h1
theorem sopen_z (h:OpenZ Z M p a u S q c m r pl w):Calls Tryz.prog 19 #[ptr q.b] w fun e w' => e = .returned (.bool true) ∧ w = w':=by
 obtain ⟨st,wd,R,U,h1,h2⟩:=h
 exact sopen_at h1
theorem commit_z (h:OpenZ Z M p a u S q c m r pl w) (hc:c.Ok) (hn:c.words = a.n) (hb:u < 4000000000000) :
  Calls Tryz.prog 89 #[ptr q.b] w fun e w' => e = .returned (.int .i64 0) ∧ ∃ u' S',ShutL p a (-1) u' S' q c (rS m r) w' ∧ (∀ j,c.act ≤ j → j < a.n → S'.now j = S.now j) ∧
   (∀ j,c.act ≤ j → j < a.n → (Z j ∨ ∃ i,M i ∧ i / 8 = j / 8) → Fix S' j (S.now j)) ∧ u' ≤ u + 3000 ∧ Keeps (q.bl p a) w w':=by
 obtain ⟨st,wd,R,U,h1,h2⟩:=h
 have hci:=c_in hc hn
 have hlo:=h1.lw.pw.lo
 have hact:16 + 4 * c.log ≤ c.act:=(up8_le (16 + 4 * c.log)).1
 refine (commit_ran h1 h2.uin hc hn h2.lr (by omega)).mono ?_
 rintro e w' ⟨ss,hss,hr⟩
 obtain ⟨rfl,h4,hk⟩:=hr.free hlo
 have:=h2.uin.few hci.2.2.2.2 hss
 have hl:=sL_len hc.small st
 have hoff:∀ j,c.act ≤ j → ∀ y ∈ truS c st m (eN 1 r),y.Off j:=fun j hj y hy => truS_off hy (by omega)
 refine ⟨rfl,_,_,⟨_,_,_,_,_,pl,wd,h4, ?_,UIn.none _⟩,fun j h5 h6 => ?_,fun j h5 h6 h7 => ?_, ?_,hk⟩
 ·rw [execs_append]
  exact truS_done (h2.lr.kp ss)
 ·rw [execs_append,execs_now_off _ _ (hoff j h5),kpC_now]
 ·rw [execs_append]
  exact pre_execs (hoff j h5) _ (zkept h2 hss j h5 h6 h7)
 ·rw [List.length_append,kpC_len]
  have:(truS c st m (eN 1 r)).length ≤ 1000:=by
   unfold truS
   split
   ·simp
   ·simp [truL,kpL]; omega
  omega
theorem abort_z (h:OpenZ Z M p a u S q c 0 r pl w) (hc:c.Ok) (hn:c.words = a.n) (hb:u < 4000000000000) :
  Calls Tryz.prog 46 #[ptr q.b] w fun e w' => e = .returned (.int .i64 0) ∧ ∃ u' S',ShutL p a (-1) u' S' q c r w' ∧ (∀ j,S'.now j = S.now j) ∧
   (∀ j,c.act ≤ j → j < a.n → Z j → Fix S' j (S.now j)) ∧ u' ≤ u + 3000 ∧ Keeps (q.bl p a) w w':=by
 obtain ⟨st,wd,R,U,h1,h2⟩:=h
 have hci:=c_in hc hn
 have hlo:=h1.lw.pw.lo
 refine (abort_ran h1 h2.uin hc hn h2.lr (by omega)).mono ?_
 rintro e w' ⟨ss,hss,hr⟩
 obtain ⟨rfl,h4,hk⟩:=hr.free hlo
 have:=h2.uin.few hci.2.2.2.2 hss
 have e0:undS c st pl wd 0 (eN 1 r) = []:=if_pos rfl
 rw [e0,List.nil_append] at h4
 refine ⟨rfl,_,_,⟨_,_,_,_,_,pl,wd,h4,h2.lr.kp ss,UIn.none _⟩,fun j => kpC_now _ _ _,fun j h5 h6 h7 => zkept h2 hss j h5 h6 (.inl h7), ?_,hk⟩
 rw [kpC_len]; omega
theorem zstore {wd:Nat → Int} {R U:Int → Option Value} {n:Nat} (h:ZOpen Z M c n r m pl wd R U S) {i:Nat} (v:Int) (hi:c.act ≤ i ∧ i < n):ZOpen Z (fun j => M j ∨ j = i) c n r m pl wd R (mkU U i) (execs S [.st i v]) where
 lr:=h.lr.sto v hi.1
 ri:=h.ri
 cl:=fun j h1 h2 h0 h3 => by
  obtain ⟨h4,h5⟩:=mkU_none h3
  have hne:j ≠ i:=fun e => h4 (by rw [e])
  rw [st_now,if_neg hne]
  exact st_pre hne _ (h.cl j h1 h2 h0 h5)
 mks:=fun j h1 h2 => by
  obtain ⟨h4,h5⟩:=mkU_none h2
  rcases h1 with h1 | rfl
  ·exact h.mks j h1 h5
  ·exact h4 rfl
 uin:=h.uin.mark hi.2
theorem znew {wd:Nat → Int} {R U:Int → Option Value} {n:Nat} {st:Bool} (h:ZOpen Z M c n r m pl wd R U S) {i:Nat} (hi:c.act ≤ i ∧ i < n) (hm:m < c.log) :
  ZOpen Z M c n r (m + 1) (put pl m i) (put wd m (S.now i)) (fun z => if z = (i:Int) then some (.int .u64 (eN 1 r:Nat)) else R z) U (execs S (appL c st false m (eN 1 r) i (S.now i))):=by
 have hact:16 + 4 * c.log ≤ c.act:=(up8_le (16 + 4 * c.log)).1
 have hp:∀ j,c.act ≤ j → Pre S (execs S (appL c st false m (eN 1 r) i (S.now i))) j ∧ (execs S (appL c st false m (eN 1 r) i (S.now i))).now j = S.now j:=fun j hj => app_pre (by omega) (by omega) (by omega)
 refine ⟨app_done h.lr hm i (S.now i) hi,h.ri.grow i,fun j h1 h2 h0 h3 => ?_,h.mks,h.uin⟩
 rw [(hp j h1).2]
 exact (hp j h1).1 _ (h.cl j h1 h2 h0 h3)
theorem sstore_z (h:OpenZ Z M p a u S q c m r pl w) (hc:c.Ok) (hn:c.words = a.n) (hb:u < 4000000000000) (hrb:r < 4294967296) (i:Nat) (v:Int) (hi:c.act ≤ i ∧ i < a.n) (hm:m < c.log) :
  Calls Tryz.prog 88 #[ptr q.b, .int .i64 i, .int .u64 v] w fun e w' => e = .returned (.int .i64 0) ∧ ∃ u' S' m' pl',m' ≤ m + 1 ∧ OpenZ Z (fun j => M j ∨ j = i) p a u' S' q c m' r pl' w' ∧ (∀ j,c.act ≤ j → j < a.n → S'.now j = if j = i then v else S.now j) ∧ u' ≤ u + 3000 ∧ Keeps (q.bl p a) w w':=by
 obtain ⟨st,wd,R,U,h1,h2⟩:=h
 have hci:=c_in hc hn
 have hlo:=h1.lw.pw.lo
 have hact:16 + 4 * c.log ≤ c.act:=(up8_le (16 + 4 * c.log)).1
 by_cases hp:HasR m pl i
 ·refine (sstore_old h1 hc.small (eN 1 r) (eN_lt 1 r) h2.lr.ep.1 hci.2.1 hci.2.2.2.2 i v hi (.inr ⟨fresh_none _, ?_⟩) (by omega)).mono ?_
  ·obtain ⟨k,hk,rfl⟩:=hp
   exact h2.ri.1 k hk
  ·rintro e w' hr
   obtain ⟨rfl,h3,hk⟩:=hr.free hlo
   exact ⟨rfl,_,_,m,pl,by omega,⟨_,_,_,_,h3,zstore h2 v hi⟩,fun j _ _ => st_now _ _ _ _,by have:(([Cmd.st i v]:List Cmd).length:Int) = 1:=rfl; omega,hk⟩
 ·refine (sstore_new h1 hc hn h2.lr hrb i v hi (fresh_none _) (h2.ri.2 _ fun k hk e => hp ⟨k,hk,by omega⟩) hm (by omega)).mono ?_
  rintro e w' hr
  obtain ⟨rfl,h3,hk⟩:=hr.free hlo
  have h4:=zstore (znew (st:=st) h2 hi hm) v hi
  rw [← execs_append] at h4
  have hl:=appL_len (st:=st) (m:=m) hc (eN 1 r) i (S.now i)
  refine ⟨rfl,_,_,m + 1,put pl m i,by omega,⟨_,_,_,_,h3,h4⟩,fun j h5 _ => ?_, ?_,hk⟩
  ·rw [execs_append,st_now]
   split
   ·rfl
   ·exact (app_pre (by omega) (by omega) (by omega)).2
  ·rw [List.length_append]; simp; omega
theorem sstore_z_out (h:OpenZ Z M p a u S q c m r pl w) (hs:c.Small) (i v:Int) (hi:i < (c.act:Int) ∨ (a.n:Int) ≤ i):Calls Tryz.prog 88 #[ptr q.b, .int .i64 i, .int .u64 v] w fun e w' => e = .returned (.int .i64 1) ∧ Keeps [] w w':=by
 obtain ⟨st,wd,R,U,h1,h2⟩:=h
 exact sstore_out h1 hs i v hi
end
structure ScZ where
 u:Int
 S:DS
 m:Nat
 pl:Nat → Nat
 M:Nat → Prop
def SezJ (Z:Nat → Prop) (p:Nat) (a:DA) (q:Sc) (c:Cfg) (r:Nat) (W0:World) (u0:Int) (n:Nat) (s:ScZ) (w:World):Prop :=
 OpenZ Z s.M p a s.u s.S q c s.m r s.pl w ∧ s.m ≤ n ∧ s.u ≤ u0 + 3000 * (n:Int) ∧ Keeps (q.bl p a) W0 w
def SezT (c:Cfg) (n:Nat) (s:ScZ) (i:Nat) (v:Int) (code:Int) (s':ScZ):Prop:=c.act ≤ i → code = 0 ∧ (∀ j,c.act ≤ j → j < n → s'.S.now j = if j = i then v else s.S.now j) ∧ ∀ j,s.M j ∨ j = i → s'.M j
theorem sez_storer {p:Nat} {a:DA} {q:Sc} {c:Cfg} {r:Nat} (Z:Nat → Prop) (W0:World) (u0:Int) (hc:c.Ok) (hn:c.words = a.n) (hr:r < 4294967296) (hu:u0 ≤ 3000000000000) :
  Storer 88 #[ptr q.b] #[] a (fun s:ScZ => s.S) (fun _ => q.bl p a) c.log (SezJ Z p a q c r W0 u0) (SezT c a.n) (fun _ _ _ _ => False) where
 inv:=fun w i v => by simp [go_sem]
 dev:=fun n s w h => ⟨p,h.1.pw.dev⟩
 keep:=fun n s w w' ⟨h1,h2,h3,h4⟩ hk => ⟨h1.keep0 hk,h2,h3,h4.trans (hk.mono (by simp))⟩
 more:=fun n s w ⟨h1,h2,h3,h4⟩ => ⟨h1,by omega,by omega,h4⟩
 call:=fun n s w i v hnn ⟨h1,h2,h3,h4⟩ hi => by
  have hl:=hc.2.2.2.1
  have hlo:=h1.pw.lo
  by_cases hia:c.act ≤ i
  ·refine (sstore_z h1 hc hn (by omega) hr i v ⟨hia,hi⟩ (by omega)).mono ?_
   rintro e w' ⟨rfl,u',S',m',pl',hm',g1,g2,g3,g4⟩
   exact .inl ⟨0,⟨u',S',m',pl',_⟩,rfl,fun _ => ⟨rfl,g2,fun _ h => h⟩,⟨g1,by show m' ≤ n + 1; omega,by show u' ≤ _; omega,h4.trans g4⟩,g4,fun b hb => .inl hb⟩
  ·refine (sstore_z_out h1 hc.small i v (.inl (by omega))).mono ?_
   rintro e w' ⟨rfl,hk⟩
   exact .inl ⟨1,s,rfl,fun h => absurd h hia,⟨h1.keep0 hk,by omega,by omega,h4.trans (hk.mono (by simp))⟩,hk.mono (by simp),fun b hb => .inl hb⟩
theorem wr_sez {c:Cfg} {N:Nat}:∀ {l:List (Nat × Int)} {s s':ScZ} {code:Int},WrT (fun s:ScZ => s.S) (SezT c N) l s code s' → l.Pairwise (fun x y => x.1 ≠ y.1) → (∀ x ∈ l,c.act ≤ x.1 ∧ x.1 < N) →
  code = 0 ∧ (∀ x ∈ l,s'.S.now x.1 = x.2 ∧ (s.S.now x.1 = x.2 ∨ s'.M x.1)) ∧ (∀ j,c.act ≤ j → j < N → (∀ x ∈ l,x.1 ≠ j) → s'.S.now j = s.S.now j) ∧ ∀ j,s.M j → s'.M j
 | [],s,s',code,h,_,_ => by obtain ⟨rfl,rfl⟩:=h; exact ⟨rfl,by simp,fun _ _ _ _ => rfl,fun _ h => h⟩
 | (i,v) :: l,s,s',code,h,hp,hz => by
  obtain ⟨c1,s1,h1,h2⟩:=h
  rw [List.pairwise_cons] at hp
  have hi:=hz (i,v) List.mem_cons_self
  have h3:c1 = 0 ∧ (s1.S.now i = v ∧ (s.S.now i = v ∨ s1.M i)) ∧ (∀ j,c.act ≤ j → j < N → i ≠ j → s1.S.now j = s.S.now j) ∧ ∀ j,s.M j → s1.M j:=by
   rcases h1 with ⟨e1,e2,rfl⟩ | ⟨_,e2⟩
   ·exact ⟨e2,⟨e1, .inl e1⟩,fun _ _ _ _ => rfl,fun _ h => h⟩
   ·obtain ⟨e3,e4,e5⟩:=e2 hi.1
    refine ⟨e3,⟨?_, .inr (e5 i (.inr rfl))⟩,fun j a b hj => ?_,fun j h => e5 j (.inl h)⟩
    ·rw [e4 i hi.1 hi.2,if_pos rfl]
    ·rw [e4 j a b,if_neg (fun e => hj e.symm)]
  obtain ⟨rfl,h4,h5,h9⟩:=h3
  rcases h2 with ⟨h6,_⟩ | ⟨_,h6⟩
  ·exact absurd rfl h6
  ·obtain ⟨rfl,h7,h8,h10⟩:=wr_sez h6 hp.2 fun x hx => hz x (List.mem_cons_of_mem _ hx)
   refine ⟨rfl,fun x hx => ?_,fun j a b hj => ?_,fun j h => h10 j (h9 j h)⟩
   ·rcases List.mem_cons.1 hx with rfl | hx
    ·refine ⟨(h8 i hi.1 hi.2 (fun y hy => (hp.1 y hy).symm)).trans h4.1, ?_⟩
     rcases h4.2 with h | h
     ·exact .inl h
     ·exact .inr (h10 _ h)
    ·refine ⟨(h7 x hx).1, ?_⟩
     rcases (h7 x hx).2 with h | h
     ·refine .inl ?_
      rw [← h5 x.1 (hz x (List.mem_cons_of_mem _ hx)).1 (hz x (List.mem_cons_of_mem _ hx)).2 (hp.1 x hx)]
      exact h
     ·exact .inr h
   ·rw [h8 j a b (fun y hy => hj y (List.mem_cons_of_mem _ hy)),h5 j a b (hj (i,v) List.mem_cons_self)]
theorem wrG_no {σ:Type} {now:σ → DS} {T:σ → Nat → Int → Int → σ → Prop}:∀ {l:List (Nat × Int)} {s:σ} {w:World},WrG now T (fun _ _ _ _ => False) l s w → False
 | [],_,_,h => h.elim
 | (i,v) :: l,s,w,h => by
  rcases h with ⟨_,h⟩ | ⟨s1,_,h⟩
  ·exact h
  ·exact wrG_no h
end Go.Proofs.YtaidmbdkbjgojaaGreat
