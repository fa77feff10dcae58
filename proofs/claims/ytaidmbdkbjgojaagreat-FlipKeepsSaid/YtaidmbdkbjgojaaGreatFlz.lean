import Derived.Test.YtaidmbdkbjgojaaGreatSwz
namespace Go.Proofs.YtaidmbdkbjgojaaGreat
open Go.RowKit Go.OpenShut
theorem blk_sez {c:Cfg} {N k u:Nat} {f:Nat → Int} {s s':ScZ} {code:Int} (hc:c.Ok) (hn:c.words = N) (h:WrT (fun s:ScZ => s.S) (SezT c N) (blkW c k u c.roots f) s code s') :
  code = 0 ∧ ∀ j,c.act ≤ j → j < N → s'.S.now j = blkF c k u f s.S.now j ∧ (s.S.now j = blkF c k u f s.S.now j ∨ s'.M j):=by
 obtain ⟨q1,q2,q3,q4⟩:=places hc
 have hin:∀ x ∈ blkW c (k:Int) (u:Int) c.roots f,c.act ≤ x.1 ∧ x.1 < N:=fun x hx => by
  rcases blkW_mem hx with rfl | rfl | ⟨i,hi,rfl⟩
  ·show c.act ≤ c.act ∧ c.act < N; omega
  ·show c.act ≤ c.act + 1 ∧ c.act + 1 < N; omega
  ·show c.act ≤ c.root i ∧ c.root i < N
   unfold Cfg.root
   omega
 obtain ⟨h1,h2,h3,_⟩:=wr_sez h (blkW_dist c k u c.roots f) hin
 refine ⟨h1,fun j a b => ?_⟩
 unfold blkF
 by_cases e1:j = c.act
 ·rw [if_pos e1,e1]
  exact h2 (c.act,(k:Int)) (by simp [blkW])
 ·rw [if_neg e1]
  by_cases e2:j = c.act + 1
  ·rw [if_pos e2,e2]
   exact h2 (c.act + 1,(u:Int)) (by simp [blkW])
  ·rw [if_neg e2]
   by_cases e3:j < c.root c.roots
   ·rw [if_pos e3]
    have e4:j = c.root (j - (c.act + 2)):=by unfold Cfg.root; omega
    have h4:=h2 (c.root (j - (c.act + 2)),f (j - (c.act + 2))) (by
     unfold blkW
     refine List.mem_cons_of_mem _ (List.mem_cons_of_mem _ (List.mem_map.2 ⟨j - (c.act + 2),List.mem_range.2 ?_,rfl⟩))
     unfold Cfg.root at e3; omega)
    rw [← e4] at h4
    exact h4
   ·rw [if_neg e3]
    refine ⟨h3 j a b fun x hx => ?_, .inl rfl⟩
    rcases blkW_mem hx with rfl | rfl | ⟨i,hi,rfl⟩
    ·exact fun e => e1 e.symm
    ·exact fun e => e2 e.symm
    ·show c.root i ≠ j
     unfold Cfg.root at e3 ⊢
     omega
def FlzP (Z:Nat → Prop) (p:Nat) (a:DA) (u:Int) (S:DS) (q:Sc) (c:Cfg) (r k U:Nat) (f:Nat → Int) (w:World) (e:Ending) (w':World):Prop :=
 e = .returned (.int .i64 0) ∧ ∃ u' S' r',ShutL p a (-1) u' S' q c r' w' ∧ r' ≤ r + 1 ∧ (∀ j,c.act ≤ j → j < a.n → S'.now j = blkF c k U f S.now j) ∧
  (∀ j,c.act ≤ j → j < a.n → (Z j ∨ ∃ i,c.act ≤ i ∧ i < a.n ∧ i / 8 = j / 8 ∧ S.now i ≠ blkF c k U f S.now i) → Fix S' j (S'.now j)) ∧ u' ≤ u + 1000000 ∧ Keeps (q.bl p a) w w'
set_option maxRecDepth 100000 in
set_option maxHeartbeats 4000000 in
theorem flip15_z (Z:Nat → Prop) (w:World) (p:Nat) (a:DA) (u:Int) (S:DS) (q:Sc) (c:Cfg) (r k U x:Nat) (f:Nat → Int) (hG:ShutL p a (-1) u S q c r w) (hZ:∀ j,c.act ≤ j → j < a.n → Z j → Fix S j (S.now j)) (hc:c.Ok) (hcn:c.words = a.n) (hk1:k ≤ 1) (hU:U ≤ c.space) (hu:u ≤ 2000000000000) (hr:r < 4294967290)
  (hB:∀ w',Keeps [] w w' → Calls Tryz.prog 86 #[ptr x] w' fun e w'' => ∃ y cy,e = .returned (bkV (k:Nat) (U:Nat) (.slice y c.roots cy)) ∧ OwnU w'' w'.heap.size y cy c.roots f ∧ Keeps [] w' w'') :
  Calls Tryz.prog 45 #[ptr a.d,cfgV c,ptr q.b,ptr x] w (FlzP Z p a u S q c r k U f w):=by
 have HG:=hid hG
 have HB:=hid hB
 have HC:=hid (And.intro hc (And.intro hcn (And.intro hk1 (And.intro hU (And.intro hu hr)))))
 have HLT:=hid hG.lts
 have HZ:=hid hZ
 clear hZ hG hB hc hcn hk1 hU hu hr
 go_enter Tryz.func45,Tryz.ntmps45
 go_wp2_with fail
 have hC0:=At.new w (cfgO c)
 have K0:=(Keeps.refl [] w).alloc (cfgO c)
 obtain ⟨cb,hcb⟩:∃ q,q = w.heap.size:=⟨_,rfl⟩
 obtain ⟨w0,hw0⟩:∃ w0,w0 = w.alloc (cfgO c):=⟨_,rfl⟩
 rw [← hcb]
 rw [← hcb] at hC0
 rw [← hw0] at hC0 K0 ⊢
 have HK0:=hid K0
 have HC0:=hid hC0
 have HCB:Hid (∀ b ∈ a.d :: q.bl p a,b ≠ cb):=fun b hb => by have:=HLT.out b hb; omega
 clear hw0 hcb hC0 K0
 refine (HB.out w0 HK0.out).mono ?_
 rintro e w1 ⟨y,cy,rfl,hO1,hk1⟩
 have HO1:=hid hO1
 have HK1:=hid (HK0.out.trans hk1)
 have HC1:=hid (hk1.at HC0.out (by simp))
 have HYB:Hid (∀ b ∈ blkL y,b ∉ a.d :: q.bl p a):=fun b hb hm => by
  have h1:=(hO1.ge b hb).1
  have h2:=HLT.out b hm
  have h3:=HK0.out.size
  omega
 clear hO1 hk1
 go_upto_region 2 with fail
 have hB2:=At.new w1 (bkO (k:Nat) (U:Nat) (.slice y c.roots cy))
 have k12:=(Keeps.refl [] w1).alloc (bkO (k:Nat) (U:Nat) (.slice y c.roots cy))
 obtain ⟨bb,hbb⟩:∃ q,q = w1.heap.size:=⟨_,rfl⟩
 obtain ⟨w2,hw2⟩:∃ w2,w2 = w1.alloc (bkO (k:Nat) (U:Nat) (.slice y c.roots cy)):=⟨_,rfl⟩
 first | rw [← hbb] | skip
 rw [← hbb] at hB2
 rw [← hw2] at hB2 k12 ⊢
 have HK2:=hid (HK1.out.trans k12)
 have HBX:Hid (∀ b ∈ a.d :: q.bl p a,b ≠ bb):=fun b hb => by
  have h1:=HLT.out b hb
  have h2:=HK1.out.size
  omega
 have HC2:=hid (k12.at HC1.out (by simp))
 have HB2:=hid hB2
 have HO2:=hid (HO1.out.keep k12 (by simp))
 have HG2:=hid (HG.out.keep0 HK2.out)
 have HYL:Hid (∀ b ∈ blkL y,b < w2.heap.size):=fun b hb => (HO2.out.ge b hb).2
 clear hw2 hbb hB2 k12
 have HRM:=hid (room15_at w2 p a S q c _ _ HG2.out.pw.dev (ShutL.len HG2.out).1.choose_spec.choose_spec (fun w' hk => (ShutL.len (HG2.out.keep0 hk)).2) HC.out.1 HC.out.2.1 k U HC.out.2.2.1 HC.out.2.2.2.1 y cy f HO2.out.rd HYL.out)
 have HBG:=hid (fun (w':World) (hk:Keeps [] w2 w') => begin_z (HG2.out.keep0 hk) HZ.out HC.out.1 HC.out.2.1 (by have:=HC.out.2.2.2.2.1; omega))
 have c0:=HC2.out.cell 0 rfl
 have c1:=HC2.out.cell 1 rfl
 have c2:=HC2.out.cell 2 rfl
 have b0:=HB2.out.cell 0 rfl
 have b1:=HB2.out.cell 1 rfl
 have b2:=HB2.out.cell 2 rfl
 go_wp2_with fail
 refine HG2.out.sopen.mono ?_
 rintro e w3 ⟨rfl,rfl⟩
 go_wp2_with fail
 refine HRM.out.mono ?_
 rintro e w3 ⟨rfl,hk3⟩
 have HK3:=hid hk3
 clear hk3 c0 c1 c2 b0 b1 b2
 go_wp2_with fail
 refine (HBG.out w3 HK3.out).mono ?_
 rintro e w4 ⟨rfl,u4,S4,pl4,hO4,hn4,hu4,hk4⟩
 have HK4:=hid hk4
 have HH4:=hid (And.intro hn4 hu4)
 have HYX:Hid (∀ b off,y = some ⟨b,off,none⟩ → b ∉ q.bl p a ∧ b < w4.heap.size):=fun b off hy => by
  have h1:=HYB.out b (by rw [hy]; simp [blkL])
  have h2:=HYL.out b (by rw [hy]; simp [blkL])
  have h3:=HK3.out.size
  have h4:=HK4.out.size
  exact ⟨fun h => h1 (List.mem_cons_of_mem _ h),by omega⟩
 have HLT4:Hid (∀ b ∈ q.bl p a,b < w4.heap.size):=fun b hb => by
  have h1:=HLT.out b (List.mem_cons_of_mem _ hb)
  have h2:=(HK2.out.trans HK3.out).size
  have h3:=HK4.out.size
  omega
 have HRD4:Hid (Reads w4 y c.roots f):=((HO2.out.keep HK3.out (by simp)).keep HK4.out (fun b hb h => HYB.out b hb (List.mem_cons_of_mem _ h))).rd
 have hu4b:u4 ≤ 3000000000000:=by have:=HC.out.2.2.2.2.1; omega
 have HWR:=hid (rwrite_at (sez_storer Z w4 u4 HC.out.1 HC.out.2.1 (by have:=HC.out.2.2.2.2.2; omega) hu4b) 0 ⟨u4,S4,0,pl4,fun _ => False⟩ w4 ⟨hO4,Nat.le_refl _,by show u4 ≤ _; omega,Keeps.refl _ _⟩ c HC.out.1 HC.out.2.1 k U HC.out.2.2.1 HC.out.2.2.2.1 y cy f (by have:=HC.out.1.2.2.1; omega) HRD4.out HYX.out HLT4.out)
 have HC4:=hid (hk4.at (HK3.out.at HC2.out (by simp)) (fun h => HCB.out cb (List.mem_cons_of_mem _ h) rfl))
 have HB4:=hid (hk4.at (HK3.out.at HB2.out (by simp)) (fun h => HBX.out bb (List.mem_cons_of_mem _ h) rfl))
 clear hO4 hn4 hu4 hk4 HRM HBG hu4b
 have c0:=HC4.out.cell 0 rfl
 have c1:=HC4.out.cell 1 rfl
 have c2:=HC4.out.cell 2 rfl
 have b0:=HB4.out.cell 0 rfl
 have b1:=HB4.out.cell 1 rfl
 have b2:=HB4.out.cell 2 rfl
 go_wp2_with fail
 refine HWR.out.mono ?_
 rintro e w5 (⟨code,s5,rfl,hT,hJ5,hk5,_⟩ | ⟨rfl,hg⟩)
 rotate_left
 ·exact (wrG_no hg).elim
 obtain ⟨rfl,hb5⟩:=blk_sez HC.out.1 HC.out.2.1 hT
 have hbq:∀ j,blkF c k U f S4.now j = blkF c k U f S.now j:=fun j => by
  unfold blkF
  show (if _ then _ else if _ then _ else if _ then _ else S4.now j) = _
  rw [HH4.out.1 j]
 have hb5':∀ j,c.act ≤ j → j < a.n → s5.S.now j = blkF c k U f S.now j ∧ (S.now j = blkF c k U f S.now j ∨ s5.M j):=fun j h1 h2 => by
  have h3:=hb5 j h1 h2
  rw [show (⟨u4,S4,0,pl4,fun _ => False⟩:ScZ).S.now = S4.now from rfl,hbq j,HH4.out.1 j] at h3
  exact h3
 obtain ⟨hO5,hm5,hu5,hK5⟩:=hJ5
 have hu5b:s5.u ≤ u + 700000:=by
  have h1:=HH4.out.2
  have h2:s5.u ≤ u4 + 3000 * ((0 + (blkW c k U c.roots f).length:Nat):Int):=hu5
  rw [blkW_len] at h2
  have h3:=HC.out.1.2.1
  omega
 have HCM:=hid (commit_z hO5 HC.out.1 HC.out.2.1 (by have:=HC.out.2.2.2.2.1; omega))
 have HE5:=hid (And.intro hb5' (And.intro hu5b hK5))
 clear hT hk5 hb5 hbq hb5' hO5 hm5 hu5 hK5 hu5b HWR c0 c1 c2 b0 b1 b2
 go_wp2_with fail
 refine HCM.out.mono ?_
 rintro e w6 ⟨rfl,u6,S6,hG6,hn6,hf6,hu6,hk6⟩
 have HE6:Hid (FlzP Z p a u S q c r k U f w (.returned (.int .i64 0)) w6):=by
  refine ⟨rfl,u6,S6,_,hG6, ?_,fun j h1 h2 => (hn6 j h1 h2).trans (HE5.out.1 j h1 h2).1,fun j h1 h2 h3 => ?_,by have:=HE5.out.2.1; omega,((((HK2.out.trans HK3.out).mono (by simp)).trans HK4.out).trans HE5.out.2.2).trans hk6⟩
  ·unfold rS
   split <;> omega
  ·rw [hn6 j h1 h2]
   refine hf6 j h1 h2 ?_
   rcases h3 with h3 | ⟨i,h3,h4,h5,h6⟩
   ·exact .inl h3
   ·exact .inr ⟨i,(HE5.out.1 i h3 h4).2.resolve_left h6,h5⟩
 clear hG6 hn6 hf6 hu6 hk6 HCM
 go_wp2_with fail
 go_ret
 exact HE6.out
set_option maxRecDepth 100000 in
set_option maxHeartbeats 4000000 in
theorem flip15_openz (Z M:Nat → Prop) (w:World) (p:Nat) (a:DA) (u:Int) (S:DS) (q:Sc) (c:Cfg) (m r:Nat) (pl:Nat → Nat) (k U x:Nat) (f:Nat → Int) (hG:OpenZ Z M p a u S q c m r pl w)
  (hB:∀ w',Keeps [] w w' → Calls Tryz.prog 86 #[ptr x] w' fun e w'' => ∃ y cy,e = .returned (bkV (k:Nat) (U:Nat) (.slice y c.roots cy)) ∧ OwnU w'' w'.heap.size y cy c.roots f ∧ Keeps [] w' w'') :
  Calls Tryz.prog 45 #[ptr a.d,cfgV c,ptr q.b,ptr x] w fun e w' => e = .returned (.int .i64 2) ∧ Keeps [] w w':=by
 have HG:=hid hG
 have HB:=hid hB
 have HLT:=hid hG.lts
 clear hG hB
 go_enter Tryz.func45,Tryz.ntmps45
 go_wp2_with fail
 have hC0:=At.new w (cfgO c)
 have K0:=(Keeps.refl [] w).alloc (cfgO c)
 obtain ⟨cb,hcb⟩:∃ q,q = w.heap.size:=⟨_,rfl⟩
 obtain ⟨w0,hw0⟩:∃ w0,w0 = w.alloc (cfgO c):=⟨_,rfl⟩
 rw [← hcb]
 rw [← hcb] at hC0
 rw [← hw0] at hC0 K0 ⊢
 have HK0:=hid K0
 have HC0:=hid hC0
 have HCB:Hid (∀ b ∈ a.d :: q.bl p a,b ≠ cb):=fun b hb => by have:=HLT.out b hb; omega
 clear hw0 hcb hC0 K0
 refine (HB.out w0 HK0.out).mono ?_
 rintro e w1 ⟨y,cy,rfl,hO1,hk1⟩
 have HO1:=hid hO1
 have HK1:=hid (HK0.out.trans hk1)
 have HC1:=hid (hk1.at HC0.out (by simp))
 have HYB:Hid (∀ b ∈ blkL y,b ∉ a.d :: q.bl p a):=fun b hb hm => by
  have h1:=(hO1.ge b hb).1
  have h2:=HLT.out b hm
  have h3:=HK0.out.size
  omega
 clear hO1 hk1
 go_upto_region 2 with fail
 have hB2:=At.new w1 (bkO (k:Nat) (U:Nat) (.slice y c.roots cy))
 have k12:=(Keeps.refl [] w1).alloc (bkO (k:Nat) (U:Nat) (.slice y c.roots cy))
 obtain ⟨bb,hbb⟩:∃ q,q = w1.heap.size:=⟨_,rfl⟩
 obtain ⟨w2,hw2⟩:∃ w2,w2 = w1.alloc (bkO (k:Nat) (U:Nat) (.slice y c.roots cy)):=⟨_,rfl⟩
 first | rw [← hbb] | skip
 rw [← hbb] at hB2
 rw [← hw2] at hB2 k12 ⊢
 have HK2:=hid (HK1.out.trans k12)
 have HBX:Hid (∀ b ∈ a.d :: q.bl p a,b ≠ bb):=fun b hb => by
  have h1:=HLT.out b hb
  have h2:=HK1.out.size
  omega
 have HC2:=hid (k12.at HC1.out (by simp))
 have HB2:=hid hB2
 have HO2:=hid (HO1.out.keep k12 (by simp))
 have HG2:=hid (HG.out.keep0 HK2.out)
 have HYL:Hid (∀ b ∈ blkL y,b < w2.heap.size):=fun b hb => (HO2.out.ge b hb).2
 clear hw2 hbb hB2 k12
 have HBG:=hid (begin_z_no HG2.out 0 0)
 go_wp2_with fail
 refine (sopen_z HG2.out).mono ?_
 rintro e w3 ⟨rfl,rfl⟩
 go_wp2_with fail
 refine HBG.out.mono ?_
 rintro e w4 ⟨rfl,hk4⟩
 have HK4:=hid (HK2.out.trans hk4)
 clear hk4
 go_wp2_with fail
 go_ret
 exact ⟨rfl,HK4.out⟩
end Go.Proofs.YtaidmbdkbjgojaaGreat
