import Derived.Test.YtaidmbdkbjgojaaGreatKp15
import Derived.BigQuiet
import Derived.Deep.RegionHeld3
import Derived.Test.YtaidmbdkbjgojaaGreatSam
namespace Go.Proofs.YtaidmbdkbjgojaaGreat
open Go.RowKit Go.OpenShut
set_option maxRecDepth 100000 in
set_option maxHeartbeats 8000000 in
theorem fkeeps_small (l r s:Nat) (y0:Option Addr) (m cm:Nat) (R V:Nat → Nat) (y1:Option Addr) (mn cn:Nat) (G:Nat → Nat) (bits:Int) (W:World) (hl:l ≤ 65535) (hrr:r ≤ 65535) (hs:s ≤ 65535)
  (hy:ReadsH W y0 m R V) (hm:m ≤ 9223372036854775807) (hg:ReadsW W y1 mn G) (hmn:mn ≤ 9223372036854775807) :
  Calls Tryz.prog 6 #[c3V l r s, .slice y0 m cm, .slice y1 mn cn, .int .u64 bits] W fun e w' => e = .returned (.bool true) ∧ Below W.heap.size W w':=by
 have hmi:(m:Int) ≤ 9223372036854775807:=by omega
 have hmni:(mn:Int) ≤ 9223372036854775807:=by omega
 have HG:=hid hg
 have HY:=hid hy
 clear hg hy
 go_enter Tryz.func6,Tryz.ntmps6
 go_wp2_with fail
 have h_xb:=(At.new W (c3O l r s)).alloc (wordO bits)
 have h_sb:=At.new (W.alloc (c3O l r s)) (wordO bits)
 have K0:=((Keeps.refl [] W).alloc (c3O l r s)).alloc (wordO bits)
 simp only [World.size_alloc] at h_sb
 obtain ⟨xb,hq_xb⟩:∃ q,q = W.heap.size:=⟨_,rfl⟩
 obtain ⟨sb,hq_sb⟩:∃ q,q = W.heap.size + 1:=⟨_,rfl⟩
 rw [← hq_sb, ← hq_xb]
 rw [← hq_xb] at h_xb
 rw [← hq_sb] at h_sb
 have HSB:Hid (W.heap.size ≤ sb):=by show _ ≤ _; omega
 refine (awake15_any _).mono ?_
 rintro e w1 ⟨rfl,hb1⟩
 have k1:=Go.Proofs.YtaidmbdkbjgojaaGreat.Below.keeps hb1 []
 have K1:=K0.trans k1
 have g_xb:=k1.at h_xb (by simp)
 have g_sb:=k1.at h_sb (by simp)
 have HSB1:=hid g_sb
 clear g_sb h_sb hq_sb
 clear hb1 k1 K0 h_xb hq_xb
 have c0:w1.cell? ⟨xb,0,none⟩ = some (.int .u16 l):=g_xb.cell 0 rfl
 have c1:w1.cell? ⟨xb,1,none⟩ = some (.int .u16 r):=g_xb.cell 1 rfl
 have c2:w1.cell? ⟨xb,2,none⟩ = some (.int .u16 s):=g_xb.cell 2 rfl
 by_cases hm30:m ≤ 25
 case neg =>
  have g2:(25:Int) < (m:Int):=by omega
  have g3:decide ((25:Int) < (m:Int)) = true:=decide_eq_true g2
  go_wp2_with fail
  go_ret
  exact ⟨rfl,K1.below (Nat.le_refl _) (by simp)⟩
 have hm2:(m:Int) ≤ 25:=by omega
 have hm3:decide ((25:Int) < (m:Int)) = false:=decide_eq_false (by omega)
 clear hmi
 by_cases hn60:mn ≤ 60
 case neg =>
  have g2:(60:Int) < (mn:Int):=by omega
  have g3:decide ((60:Int) < (mn:Int)) = true:=decide_eq_true g2
  go_wp2_with fail
  go_ret
  exact ⟨rfl,K1.below (Nat.le_refl _) (by simp)⟩
 have h2_mn:(mn:Int) ≤ 60:=by omega
 have h3_mn:decide ((60:Int) < (mn:Int)) = false:=decide_eq_false (by omega)
 clear hmni
 have hok:=mk3_ok l r s
 obtain ⟨c,hc⟩:∃ c,c = mk3 l r s:=⟨_,rfl⟩
 rw [← hc] at hok
 obtain ⟨os,hos⟩:∃ os,os = fillL c.space (hdsL R V m):=⟨_,rfl⟩
 have HLI:=hid (linked_at w1 l r s hl hrr hs y0 m cm R V (HY.out.keep K1 (by simp)) (by omega) y1 mn cn G (HG.out.keep K1 (by simp)) (by omega) 0 (by omega) c hc os hos)
 clear hc
 go_wp2_with fail
 refine HLI.out.mono ?_
 rintro e w3 ⟨p,a,u,S,x,cp,y,cy,B,rfl,hn,hP,hub,hF,hU,hI,⟨b1,b2,b3,b4,b5⟩,hB,hk3⟩
 have K3:=K1.trans hk3
 have HO:=hid hok
 have HN:=hid hn
 obtain ⟨L,hL⟩:∃ L,L = os.length:=⟨_,rfl⟩
 have hLm:L ≤ m:=by rw [hL,hos]; exact fillL_len _ _ _ _
 have hLi:(L:Int) ≤ 30:=by omega
 have HL:=hid hL
 rw [← hL] at hI ⊢
 obtain ⟨us,hus⟩:∃ us,us = lenL os:=⟨_,rfl⟩
 have HUS:=hid hus
 rw [← hus]
 have husb:us ≤ c.space:=by rw [hus]; exact hF.fits
 have hsp:c.space ≤ 4096:=hok.small.2.2
 have husi:(us:Int) ≤ 4096:=by omega
 have hfr:=frm_le hok.small (show 0 ≤ 2 by omega)
 have hfs:c.frm 0 + c.space ≤ a.n:=by rw [← hn]; exact frm_space 0 (by omega)
 have HFS:=hid (And.intro husb (And.intro hsp (And.intro hfs hfr)))
 have HP:=hid hP
 have HI:=hid hI
 have HWB:Hid (∀ b ∈ [p,a.d,a.s,a.k,a.m],W.heap.size ≤ b ∧ b < w3.heap.size):=fun b hb' => by
  have h1:=K1.size
  have h2:=hP.pow.lt
  have h3:=hP.dev.dev.lt
  have h4:=hP.dev.now.lt
  have h5:=hP.dev.kept.lt
  have h6:=hP.dev.map.lt
  simp only [List.mem_cons,List.not_mem_nil,or_false] at hb'
  omega
 have HUB:=hid hub
 have HU:=hid hU
 have HK3:=hid K3
 have HSB3:=hid (hk3.at HSB1.out (by simp))
 have HSBD:Hid (sb ∉ [p,a.d,a.s,a.k,a.m]):=fun h => by
  have h1:=HSB1.out.lt
  simp only [List.mem_cons,List.not_mem_nil,or_false] at h
  omega
 have HFF:=hid hF
 have HIB:Hid (∀ b ∈ blkL y,b ∉ [p,a.d,a.s,a.k,a.m]):=fun b hb h => by
  have h1:=(HI.out.ge b hb).1
  simp only [List.mem_cons,List.not_mem_nil,or_false] at h
  omega
 have HXB:Hid (∀ b ∈ blkL x,b ∉ [p,a.d,a.s,a.k,a.m]):=fun b hb h => by
  have h1:=(HU.out.ge b hb).1
  simp only [List.mem_cons,List.not_mem_nil,or_false] at h
  omega
 have HL30:Hid (L ≤ 30):=by show _ ≤ _; omega
 obtain ⟨rs,hrs⟩:∃ rs:List Nat,rs = wsN c.roots fun j => lnkG c os G mn 0 (refL os + j):=⟨_,rfl⟩
 have hHp:HepS S c a.n 0 us rs os:=by
  have h:=hF.hep hok (n:=a.n)
  rw [← hrs, ← hus] at h
  exact h
 have HHP:=hid hHp
 have HOK:Hid (∀ ws:List Nat,(∀ v ∈ ws,v < 9223372036854775808) → ws.length ≤ 900 → CP.Ok ⟨p,a,S,c,0,us,rs ++ ws,rs⟩):=fun ws h1 h2 => by
  have h:=ok14 p HO.out HN.out HFF.out (nmdP_start S c os) (rs ++ ws) (fun v hv => by
   rcases List.mem_append.1 hv with h | h
   ·exact HHP.out.rb v h
   ·exact h1 v h) (by
   have h3:=HO.out.2.1
   have h4:=HHP.out.rl
   rw [List.length_append]
   omega)
  rw [← hrs, ← HUS.out] at h
  exact h
 have HRS:=hid hrs
 clear hm30 hn60 hm2 hm3 h2_mn h3_mn hos hL hLm hus husb hsp hfs hfr hF hP hub hI hU hB b1 b2 b3 b4 b5 hk3 K1 c0 c1 c2 HLI hok hn K3 g_xb hrs hHp
 go_upto_region 6 with fail
 have hC4:=(At.new w3 (cfgO c)).alloc (bkO 0 (us:Nat) (.slice x c.roots cp))
 have hB4:=At.new (w3.alloc (cfgO c)) (bkO 0 (us:Nat) (.slice x c.roots cp))
 have k34:=((Keeps.refl [] w3).alloc (cfgO c)).alloc (bkO 0 (us:Nat) (.slice x c.roots cp))
 simp only [World.size_alloc] at hB4
 obtain ⟨cb,hcb⟩:∃ q,q = w3.heap.size:=⟨_,rfl⟩
 obtain ⟨bb,hbb⟩:∃ q,q = w3.heap.size + 1:=⟨_,rfl⟩
 obtain ⟨w4,hw4⟩:∃ w4,w4 = (w3.alloc (cfgO c)).alloc (bkO 0 (us:Nat) (.slice x c.roots cp)):=⟨_,rfl⟩
 have hz4:w4.heap.size = w3.heap.size + 2:=by rw [hw4]; simp
 rw [← hw4] at hC4 hB4 k34
 first | rw [← hw4] | skip
 rw [← hbb, ← hcb]
 rw [← hcb] at hC4
 rw [← hbb] at hB4
 have HZ4:Hid (cb = w3.heap.size ∧ bb = cb + 1 ∧ w4.heap.size = cb + 2):=⟨by omega,by omega,by omega⟩
 have HP4:=hid (HP.out.keep0 k34)
 have HC4:=hid hC4
 have HB4:=hid hB4
 have HK4:=hid (HK3.out.trans k34)
 have HK34:=hid k34
 have HI4:=hid (HI.out.keep k34 (by simp))
 have HSB4:=hid (k34.at HSB3.out (by simp))
 clear hw4 hz4 hcb hbb hC4 hB4 k34
 have c0:=HC4.out.cell 0 rfl
 have c1:=HC4.out.cell 1 rfl
 have c2:=HC4.out.cell 2 rfl
 go_wp2_with fail
 refine (new15_at w4 p a u S c HP4.out HO.out HN.out HFF.out.log).mono ?_
 rintro e w5 ⟨q,rfl,hSh,k45,hq⟩
 have HSH:=hid hSh
 have HK45:=hid k45
 have HK5:=hid (HK4.out.trans k45)
 have HC5:=hid (k45.at HC4.out (by simp))
 have HB5:=hid (k45.at HB4.out (by simp))
 have HQ:=hid hq
 have HQD:Hid (∀ b ∈ a.d :: q.bl p a,W.heap.size ≤ b ∧ b ≠ cb ∧ b ≠ bb ∧ (b < w3.heap.size ∨ w4.heap.size ≤ b)):=fun b hb => by
  have h1:=HC4.out.lt
  have h2:=HB4.out.lt
  have h3:=HZ4.out
  have h4:=HK3.out.size
  unfold Sc.bl at hb
  simp only [List.mem_cons,List.not_mem_nil,or_false] at hb
  have h5:=HWB.out p (by simp)
  have h6:=HWB.out a.d (by simp)
  have h7:=HWB.out a.s (by simp)
  have h8:=HWB.out a.k (by simp)
  have h9:=HWB.out a.m (by simp)
  omega
 obtain ⟨fs,ts,hsec⟩:=hSh.len.1
 have s0:=hsec.cell 0 rfl
 clear hSh k45 hq c0 c1 c2 hsec
 go_upto_region 11 with fail
 clear s0
 have HSB5:=hid (HK45.out.at HSB4.out (by simp))
 have HXR:Hid (∀ w',Keeps [] w3 w' → OwnU w' B x cp c.roots (fun j => ((rs.getD j 0:Nat):Int))):=fun w' hk => (HU.out.keep hk (by simp)).eq fun j hj => by
  rw [← HFF.out.root j hj,HHP.out.root j hj]
 have HSBQ:Hid (∀ b ∈ a.d :: q.bl p a,b ≠ sb):=fun b hb => by
  have h1:=HSB3.out.lt
  have h2:=HQ.out
  have h3:=HK34.out.size
  have h4:=HSBD.out
  unfold Sc.bl at hb
  simp only [List.mem_cons,List.not_mem_nil,or_false,not_or] at hb h4
  omega
 have HNB:Hid (a.n ≤ 15000):=(c_in HO.out HN.out).2.2.2.2
 have hrl:rs.length = c.roots:=HHP.out.rl
 have hPok0:CP.Ok ⟨p,a,S,c,0,us,rs,rs⟩:=by
  have h:=HOK.out [] (by simp) (by simp)
  rw [List.append_nil] at h
  exact h
 obtain ⟨P,hPq⟩:∃ P:CP,P = ⟨p,a,S,c,0,us,rs,rs⟩:=⟨_,rfl⟩
 have hPok:P.Ok:=by rw [hPq]; exact hPok0
 have hPf:P.p = p ∧ P.a = a ∧ P.S = S ∧ P.c = c ∧ P.k = 0 ∧ P.us = us ∧ P.ws = rs ∧ P.rs = rs ∧ P.ws.length = c.roots ∧ P.rs.length = c.roots:=by
  rw [hPq]
  exact ⟨rfl,rfl,rfl,rfl,rfl,rfl,rfl,rfl,hrl,hrl⟩
 have HPF:=hid hPf
 have HPOK:=hid hPok
 clear hrl hPok0 hPq hPok hPf
 have hX5:=HXR.out w5 (HK34.out.trans HK45.out)
 have hnew:=colL_is.new P w5 HPOK.out (by rw [HPF.out.1,HPF.out.2.1,HPF.out.2.2.1]; exact HSH.out.pw.dev) x cp (by rw [HPF.out.2.2.2.2.2.2.2.2.2,HPF.out.2.2.2.2.2.2.2.1]; exact hX5.rd) x cp (by rw [HPF.out.2.2.2.2.2.2.2.2.1,HPF.out.2.2.2.2.2.2.1]; exact hX5.rd)
 rw [HPF.out.2.1,HPF.out.2.2.2.1,HPF.out.2.2.2.2.1,HPF.out.2.2.2.2.2.1,HPF.out.2.2.2.2.2.2.2.2.1,HPF.out.2.2.2.2.2.2.2.2.2] at hnew
 have HNW:Hid (Calls Tryz.prog 43 #[ptr a.d,cfgV c,bkV (0:Nat) us (.slice x c.roots cp), .slice x c.roots cp] w5 fun e w'' => ∃ xq T,e = .returned (ptr xq) ∧ ColC P w'' xq T 0 ∧ (∀ b ∈ T,w5.heap.size ≤ b) ∧ Keeps [] w5 w''):=hnew
 have c0:=HC5.out.cell 0 rfl
 have c1:=HC5.out.cell 1 rfl
 have c2:=HC5.out.cell 2 rfl
 have b0:=HB5.out.cell 0 rfl
 have b1:=HB5.out.cell 1 rfl
 have b2:=HB5.out.cell 2 rfl
 clear hnew hX5
 go_wp2_with fail
 refine HNW.out.mono ?_
 rintro e w6 ⟨yb,Ty,rfl,hCy,hTy,k56⟩
 have HK56:=hid k56
 have HTY:Hid (∀ b ∈ Ty,w5.heap.size ≤ b):=hTy
 have HLT5:=hid HSH.out.lts
 have HTN:Hid (∀ b ∈ Ty,b ∉ [P.p,P.a.d,P.a.s,P.a.k,P.a.m]):=fun b hb h => by
  have h1:=hTy b hb
  rw [HPF.out.1,HPF.out.2.1] at h
  have h4:=HLT5.out b (by unfold Sc.bl; simp only [List.mem_cons,List.not_mem_nil,or_false] at h ⊢; rcases h with h | h | h | h | h <;> simp [h])
  omega
 have HG6:=hid (HSH.out.keep0 k56)
 have hP6:Pw w6 P.p P.a (-1) u P.S:=by rw [HPF.out.1,HPF.out.2.1,HPF.out.2.2.1]; exact HG6.out.pw
 have HRN:=hid (col_run_l hCy hP6 (by have:=HUB.out; omega) P.at_start HTN.out (by unfold CP.N; omega))
 have HC6:=hid (k56.at HC5.out (by simp))
 have HB6:=hid (k56.at HB5.out (by simp))
 have HSB6:=hid (k56.at HSB5.out (by simp))
 clear hCy hTy k56 hP6 HNW c0 c1 c2 b0 b1 b2
 go_wp2_with fail
 refine HRN.out.mono ?_
 rintro e w8 (⟨T8,u8,S1,rfl,hC8,hP8,hZ8,hat8,hkp8,hu8,hT8,k68⟩ | ⟨rfl,S8,hP8,hZ8,k68⟩)
 rotate_left
 ·have:=hP8.lo
  omega
 have hsz:szF P.S P.LS ≤ c.space:=by rw [← HPF.out.2.2.2.1]; exact HPOK.out.rdy.sz
 have hcsN:P.cs P.N = P.LS:=P.cs_end (by unfold CP.N; omega)
 obtain ⟨U,hU⟩:∃ U,U = szF P.S P.LS:=⟨_,rfl⟩
 have hbk:=fun (T:List Nat) (w':World) (hk:Keeps T w8 w') (hT:∀ b ∈ T8,b ∉ T) => colL_is.block (colL_keep hC8 hk hT)
 rw [hcsN, ← hU,HPF.out.2.2.2.2.1,HPF.out.2.2.2.2.2.2.2.2.2,HPF.out.2.2.1,HPF.out.2.2.2.1,HPF.out.2.2.2.2.2.2.2.1] at hbk
 have HEQ:Hid (∀ j, ¬ (c.frm 1 ≤ j ∧ j < c.frm 1 + U) → S1.now j = S.now j ∧ ∀ q:Int → Prop,All S j q → All S1 j q):=fun j hj => by
  have h:=hZ8 j (by rw [HPF.out.2.2.2.1,HPF.out.2.2.2.2.1, ← hU]; exact hj)
  rw [HPF.out.2.2.1] at h
  exact h
 have HKP:Hid (∀ j,c.frm 1 ≤ j → j < c.frm 1 + U → Fix S1 j (S1.now j)):=fun j h1 h2 => hkp8 j (by rw [HPF.out.2.2.2.1,HPF.out.2.2.2.2.1]; exact h1) (by rw [HPF.out.2.2.2.1,HPF.out.2.2.2.2.1, ← hU]; exact h2)
 have hfa:c.act ≤ c.frm 1:=by have:=@frm_ge c 1; omega
 have hG8:ShutL p a (-1) u8 S1 q c 0 w8:=HG6.out.next (T:=Ty) (by rw [← HPF.out.1, ← HPF.out.2.1]; exact hP8) (by rw [← HPF.out.1, ← HPF.out.2.1]; exact k68) (fun b hb h => by
  have h3:=HTY.out b h
  have h4:=HLT5.out b (List.mem_cons_of_mem _ hb)
  omega) fun j hj => (HEQ.out j (fun h => by omega)).2
 have hk58:Keeps (q.bl p a) w5 w8:=((HK56.out.mono (by simp)).new k68 fun b hb => by
  rcases List.mem_append.1 hb with h | h
  ·exact .inr (HTY.out b h)
  ·left
   rw [HPF.out.1,HPF.out.2.1] at h
   unfold Sc.bl
   simp only [List.mem_cons,List.not_mem_nil,or_false] at h ⊢
   rcases h with h | h | h | h <;> simp [h])
 have HT8:Hid (∀ b ∈ T8,b ∉ q.bl p a):=fun b hb h => by
  have h4:=HLT5.out b (List.mem_cons_of_mem _ h)
  rcases hT8 b hb with h1 | h1
  ·have:=HTY.out b h1; omega
  ·have:=HK56.out.size; omega
 have HBK:Hid (∀ w',Keeps (q.bl p a) w8 w' → Calls Tryz.prog 86 #[ptr yb] w' fun e w'' => ∃ y cy,e = .returned (bkV (1:Nat) (U:Nat) (.slice y c.roots cy)) ∧ OwnU w'' w'.heap.size y cy c.roots (nwR S c 0 P.LS rs) ∧ Keeps [] w' w''):=fun w' hk => hbk _ w' hk HT8.out
 have HG8:=hid hG8
 have HK58:=hid hk58
 have HCP:=hid (CP.fin hat8)
 have HU8:Hid (u8 ≤ 2000000000):=by have h1:=HUB.out; show _ ≤ _; omega
 have HUU:=hid (And.intro hU hsz)
 have HLT8:=hid hG8.lts
 obtain ⟨Z,hZq⟩:∃ Z:Nat → Prop,Z = fun j => Fix S1 j (S1.now j):=⟨_,rfl⟩
 have HZ:Hid (∀ j,Z j → Fix S1 j (S1.now j)):=by rw [hZq]; exact fun _ h => h
 have HZ2:Hid (∀ j,Fix S1 j (S1.now j) → Z j):=by rw [hZq]; exact fun _ h => h
 have HC8:=hid (hk58.at HC5.out (fun h => (HQD.out cb (List.mem_cons_of_mem _ h)).2.1 rfl))
 have HSB8:=hid (hk58.at HSB5.out (fun h => HSBQ.out sb (List.mem_cons_of_mem _ h) rfl))
 clear hC8 hP8 hZ8 hat8 hkp8 hu8 hT8 k68 hsz hcsN hbk hG8 hk58 hU hfa hZq HRN
 have HBG:=hid (begin_z (Z:=Z) HG8.out (fun j _ _ h => HZ.out j h) HO.out HN.out (by have:=HU8.out; omega))
 go_wp2_with fail
 refine HBG.out.mono ?_
 rintro e w9 ⟨rfl,u9,S9,pl9,hO9,hn9,hu9,k89⟩
 have HG9:=hid hO9
 have HK89:=hid k89
 have H9:=hid (And.intro hn9 hu9)
 have HC9:=hid (k89.at HC8.out (fun h => (HQD.out cb (List.mem_cons_of_mem _ h)).2.1 rfl))
 have HF9:=hid (flip15_openz Z _ w9 p a u9 S9 q c 0 0 pl9 1 U yb (nwR S c 0 P.LS rs) hO9 (fun w' hk => HBK.out w' (k89.trans (hk.mono (by simp)))))
 clear hO9 hn9 hu9 k89 HBG
 have c0:=HC9.out.cell 0 rfl
 have c1:=HC9.out.cell 1 rfl
 have c2:=HC9.out.cell 2 rfl
 go_wp2_with fail
 refine HF9.out.mono ?_
 rintro e w10 ⟨rfl,k910⟩
 have HAB:=hid (abort_z (HG9.out.keep0 k910) HO.out HN.out (by have:=HU8.out; have:=H9.out.2; omega))
 have HK10:=hid k910
 have HC10:=hid (k910.at HC9.out (by simp))
 clear k910 c0 c1 c2 HF9
 go_wp2_with fail
 refine HAB.out.mono ?_
 rintro e w11 ⟨rfl,u11,S11,hG11,hn11,hz11,hu11,k1011⟩
 have HK11:Hid (Keeps (q.bl p a) w8 w11):=(HK89.out.trans (HK10.out.mono (by simp))).trans k1011
 have hn11':∀ j,S11.now j = S1.now j:=fun j => (hn11 j).trans (H9.out.1 j)
 have HN11:=hid hn11'
 have HC11:=hid (k1011.at HC10.out (fun h => (HQD.out cb (List.mem_cons_of_mem _ h)).2.1 rfl))
 have hu11b:u11 ≤ 2000010000:=by have h1:=HU8.out; have h2:=H9.out.2; omega
 have HFL:=hid (flip15_z Z w11 p a u11 S11 q c 0 1 U yb (nwR S c 0 P.LS rs) hG11 (fun j h1 h2 h3 => by rw [hn11 j]; exact hz11 j h1 h2 h3) HO.out HN.out (by omega) (by rw [HUU.out.1]; exact HUU.out.2) (by omega) (by omega) (fun w' hk => HBK.out w' (HK11.out.trans (hk.mono (by simp)))))
 have HU11:=hid hu11b
 clear hG11 hn11 hn11' hz11 hu11 hu11b k1011 HAB
 have c0:=HC11.out.cell 0 rfl
 have c1:=HC11.out.cell 1 rfl
 have c2:=HC11.out.cell 2 rfl
 go_wp2_with fail
 refine HFL.out.mono ?_
 rintro e w12 ⟨rfl,u12,S12,r12,hG12,hr12,hn12,hf12,hu12,k1112⟩
 have HNX:Hid (HepS S12 c a.n 1 U (rs.map (wtC S c 0 P.LS)) (hdL S P.LS) ∧ CP.Ok ⟨p,a,S12,c,1,U,rs.map (wtC S c 0 P.LS),rs.map (wtC S c 0 P.LS)⟩):=by
  obtain ⟨e1,e2,e3,e4,e5,e6,e7,e8,_⟩:=HPF.out
  have h:=clt_next (S1:=S1) (S':=S12) (os:=os) HPOK.out (by rw [e2,e3,e4,e5,e6,e8]; exact HHP.out) HCP.out (fun j h1 h2 => by
   rw [e4] at h1
   rw [e2] at h2
   rw [← HUU.out.1,e3,e4,e5,e8,hn12 j h1 h2]
   show blkF c 1 U _ S11.now j = blkF c 1 U _ S1.now j
   unfold blkF
   rw [HN11.out j])
  rw [← HUU.out.1,e1,e2,e3,e4,e5,e7,e8] at h
  exact ⟨h.1,h.2.1⟩
 have hf01:c.frm 0 + c.space ≤ c.frm 1:=by
  have h1:=(up8_le c.space).1
  have h2:c.frm 0 = up8 (c.root c.roots) + 0 * up8 c.space:=rfl
  have h3:c.frm 1 = up8 (c.root c.roots) + 1 * up8 c.space:=rfl
  omega
 have HFX:Hid (∀ j,((c.act ≤ j ∧ j < c.root c.roots) ∨ (c.frm 1 ≤ j ∧ j < c.frm 1 + c.space)) → Fix S12 j (S12.now j)):=by
  have hre:=root_end c
  have hf1:=frm_space (c:=c) 1 (by omega)
  have hcn:=HN.out
  rintro j (⟨h1,h2⟩ | ⟨h1,h2⟩)
  ·refine blk_kept (Z:=Z) HHP.out hcn HFF.out.log (fun j h1 h2 => ?_) (fun j h1 h2 h3 => ?_) hf12 j h1 h2
   ·rw [HN11.out j]
    exact (HEQ.out j (by omega)).1
   ·obtain ⟨g1,g2⟩:=HEQ.out j (by omega)
    refine HZ2.out j ?_
    rw [g1,h3.1]
    exact g2 _ h3
  ·have hfr0:=@frm_ge c 1
   refine hf12 j (by omega) (by omega) (.inl (HZ2.out j ?_))
   by_cases hz:c.frm 1 ≤ j ∧ j < c.frm 1 + U
   ·exact HKP.out j hz.1 hz.2
   ·obtain ⟨g1,g2⟩:=HEQ.out j hz
    have h3:S.now j = 0:=by
     have h4:=HFF.out.rest (j - c.frm 0) (by have:=HFF.out.fits; omega) (by omega)
     rw [show c.frm 0 + (j - c.frm 0) = j by omega] at h4
     exact h4
    rw [g1,h3]
    exact g2 _ (HFF.out.log.fix (by omega) (by omega) h3)
 have HG12:=hid hG12
 have HK12:Hid (Keeps (q.bl p a) w8 w12):=HK11.out.trans k1112
 have HE12:Hid (Keeps [] W w12):=by
  have h1:Keeps (q.bl p a) w5 w12:=HK58.out.trans HK12.out
  exact HK5.out.new h1 fun b hb => .inr (HQD.out b (List.mem_cons_of_mem _ hb)).1
 have HC12:=hid (k1112.at HC11.out (fun h => (HQD.out cb (List.mem_cons_of_mem _ h)).2.1 rfl))
 have HSB12:=hid (HK12.out.at HSB8.out (fun h => HSBQ.out sb (List.mem_cons_of_mem _ h) rfl))
 have HL12:=hid hG12.lts
 have HUi:Hid (U ≤ c.space):=HNX.out.1.us
 have hUi:(U:Int) ≤ 4096:=by have:=HUi.out; have:=HO.out.small.2.2; omega
 clear hG12 hr12 hn12 hf12 hu12 k1112 hf01 HFL c0 c1 c2
 have HRD:=hid (rread_at w12 p a S12 c HG12.out.pw.dev HO.out HN.out (by rw [HNX.out.1.act]; omega) (by rw [HNX.out.1.used]; omega))
 have c0:=HC12.out.cell 0 rfl
 have c1:=HC12.out.cell 1 rfl
 have c2:=HC12.out.cell 2 rfl
 have hri:(c.roots:Int) ≤ 16:=by have:=HO.out.2.1; omega
 go_wp2_with fail
 refine HRD.out.mono ?_
 rintro e w13 (⟨h9,rfl,hk9⟩ | ⟨k1,u1',x7,cp7,hk1,hu1,hA1,hU1',rfl,hO7,k1213⟩)
 ·rw [HNX.out.1.act,HNX.out.1.used] at h9
  have:=HNX.out.1.us
  omega
 obtain rfl:k1 = 1:=by have:=HNX.out.1.act; omega
 obtain rfl:u1' = U:=by have:=HNX.out.1.used; omega
 have HO13:=hid (hO7.eq (g:=fun j => (((rs.map (wtC S c 0 P.LS)).getD j 0:Nat):Int)) fun j hj => HNX.out.1.root j hj)
 have HK1213:=hid k1213
 clear hk1 hu1 hA1 hU1' hO7 k1213 c0 c1 c2 HRD
 go_upto_region 20 with fail
 have hX14:=At.new w13 (bkO 1 (u1':Nat) (.slice x7 c.roots cp7))
 have k14:=(Keeps.refl [] w13).alloc (bkO 1 (u1':Nat) (.slice x7 c.roots cp7))
 obtain ⟨nb,hnbq⟩:∃ nb,nb = w13.heap.size:=⟨_,rfl⟩
 obtain ⟨w14,hw14⟩:∃ w14,w14 = w13.alloc (bkO 1 (u1':Nat) (.slice x7 c.roots cp7)):=⟨_,rfl⟩
 rw [← hnbq]
 rw [← hnbq] at hX14
 rw [← hw14] at hX14 k14
 first | rw [← hw14] | skip
 have HX14:=hid hX14
 have HK1214:=hid (HK1213.out.trans k14)
 have HO14:=hid (HO13.out.keep k14 (by simp))
 have HNBW:Hid (w12.heap.size ≤ nb):=by show _ ≤ _; rw [hnbq]; exact HK1213.out.size
 clear hw14 hnbq hX14 k14
 have HWD:=hid (words_at w14 p a S12 (HG12.out.keep0 HK1214.out).pw.dev)
 go_wp2_with fail
 refine HWD.out.mono ?_
 rintro e w15 ⟨v15,rfl,hv15,k15⟩
 obtain ⟨g15,cap15,rfl,hg15,_,hcap15,hR15⟩:=hv15.reads
 have HR15:=hid hR15
 have HK1415:=hid k15
 clear hv15 hR15 hg15 hcap15 k15 HWD
 have hLL:a.L = (a.n + 7) / 8:=by have:=a.n8; omega
 have HLN:=hid (lnew_at w15 (some ⟨g15,0,none⟩) a.n cap15 a.L S12.now HR15.out hLL (by have:=HNB.out; omega))
 clear hLL
 go_wp2_with fail
 refine HLN.out.mono ?_
 rintro e w16 ⟨pe,ae,rfl,hae,hDe,hpe,hbe,k16⟩
 have haen:ae.n = a.n:=by rw [ae.n8,a.n8,hae]
 obtain ⟨So,hSo⟩:∃ So:DS,So = { now:=fun i => if i < a.n then S12.now i else 0,kept:=fun i => if i < a.n then S12.now i else 0,tok:=fun _ => 0,is:=fun _ => false }:=⟨_,rfl⟩
 rw [← hSo] at hDe
 have hSon:∀ j,j < a.n → So.now j = S12.now j:=fun j hj => by rw [hSo]; exact if_pos hj
 have HDE:=hid (And.intro hDe (And.intro haen (And.intro hSon hbe)))
 have HK1416:=hid (HK1415.out.trans k16)
 have HK1216:=hid (HK1214.out.trans HK1416.out)
 clear hae hDe hpe hbe k16 haen hSo hSon HLN
 have hsb16:=HK1216.out.at HSB12.out (by simp)
 have hd16:=(HG12.out.keep0 HK1216.out).pw.dev
 have HCR:=hid (crash_plain w16 p a S12 hd16 47 #[ptr sb] (chV bits) [sb] _ (flipKeeps1_chooser sb bits a.n (by have:=HNB.out; omega)) hsb16 (by
  have h1:=HSBQ.out a.s (by simp [Sc.bl])
  have h2:=HSBQ.out a.k (by simp [Sc.bl])
  have h3:=HSBQ.out a.m (by simp [Sc.bl])
  simp
  exact ⟨h1,h2,h3⟩) (by simp; exact hsb16.lt))
 clear hsb16 hd16
 go_wp2_with fail
 refine HCR.out.mono ?_
 rintro e w17 ⟨rfl,hD17,_,hk17⟩
 obtain ⟨T,hT⟩:∃ T,T = Go.Proofs.YtaidmbdkbjgojaaGreat.crashed S12 (fun i => chV bits i % 3):=⟨_,rfl⟩
 have hDT:Dev w17 p a T:=by rw [hT]; exact hD17
 have HTN:Hid (∀ j,((c.act ≤ j ∧ j < c.root c.roots) ∨ (c.frm 1 ≤ j ∧ j < c.frm 1 + c.space)) → T.now j = S12.now j):=fun j hj => by
  rw [hT]
  exact ((crashed_pre S12 _ j) _ (HFX.out j hj)).1
 have HTL:=hid (HNX.out.1.left HN.out HTN.out)
 have HDT:=hid hDT
 have HK17:=hid hk17
 have hlow:∀ b,w12.heap.size ≤ b → b ∉ [a.s,a.k,a.m]:=fun b hb h => by
  have h1:=HL12.out a.s (by simp [Sc.bl])
  have h2:=HL12.out a.k (by simp [Sc.bl])
  have h3:=HL12.out a.m (by simp [Sc.bl])
  simp only [List.mem_cons,List.not_mem_nil,or_false] at h
  omega
 have HLOW:=hid hlow
 have HC17:=hid (hk17.at (HK1216.out.at HC12.out (by simp)) (fun h => by
  have h1:=(HQD.out a.s (by simp [Sc.bl])).2.1
  have h2:=(HQD.out a.k (by simp [Sc.bl])).2.1
  have h3:=(HQD.out a.m (by simp [Sc.bl])).2.1
  simp only [List.mem_cons,List.not_mem_nil,or_false] at h
  omega))
 have HX17:=hid (hk17.at (HK1416.out.at HX14.out (by simp)) (hlow _ HNBW.out))
 have HO17:=hid ((HO14.out.keep HK1416.out (by simp)).keep hk17 (fun b hb => hlow b (HO14.out.ge b hb).1))
 have HW1215:Hid (w12.heap.size ≤ w15.heap.size):=(HK1214.out.trans HK1415.out).size
 have HDE17:Hid (Dev w17 pe ae So):=HDE.out.1.keep hk17 (hlow _ (by have:=HDE.out.2.2.2; have:=HW1215.out; omega)) (hlow _ (by have:=HDE.out.2.2.2; have:=HW1215.out; omega)) (hlow _ (by have:=HDE.out.2.2.2; have:=HW1215.out; omega)) (hlow _ (by have:=HDE.out.2.2.2; have:=HW1215.out; omega))
 have HE17:Hid (Keeps [] W w17):=(HE12.out.trans HK1216.out).new hk17 fun b hb => .inr (by
  have h1:=(HQD.out a.s (by simp [Sc.bl])).1
  have h2:=(HQD.out a.k (by simp [Sc.bl])).1
  have h3:=(HQD.out a.m (by simp [Sc.bl])).1
  simp only [List.mem_cons,List.not_mem_nil,or_false] at hb
  omega)
 clear hD17 hk17 hT hDT hlow HCR
 have HRD:=hid (rread_at w17 p a T c HDT.out HO.out HN.out (by rw [HTL.out.1]; omega) (by rw [HTL.out.2.1]; omega))
 have c0:=HC17.out.cell 0 rfl
 have c1:=HC17.out.cell 1 rfl
 have c2:=HC17.out.cell 2 rfl
 go_wp2_with fail
 refine HRD.out.mono ?_
 rintro e w18 (⟨h9,rfl,hk9⟩ | ⟨k1,u1,x8,cp8,hk1,hu1,hA1,hU1',rfl,hO8,k1718⟩)
 ·rw [HTL.out.1,HTL.out.2.1] at h9
  have:=HNX.out.1.us
  omega
 obtain rfl:k1 = 1:=by have:=HTL.out.1; omega
 obtain rfl:u1 = u1':=by have:=HTL.out.2.1; omega
 have HO18:=hid (hO8.eq (g:=fun j => (((rs.map (wtC S c 0 P.LS)).getD j 0:Nat):Int)) fun j hj => HTL.out.2.2.2.2.2 j hj)
 have HK1718:=hid k1718
 clear hk1 hu1 hA1 hU1' hO8 k1718 c0 c1 c2 HRD
 go_upto_region 23 with fail
 have hX19:=At.new w18 (bkO 1 (u1:Nat) (.slice x8 c.roots cp8))
 have k19:=(Keeps.refl [] w18).alloc (bkO 1 (u1:Nat) (.slice x8 c.roots cp8))
 obtain ⟨mb,hmbq⟩:∃ mb,mb = w18.heap.size:=⟨_,rfl⟩
 obtain ⟨w19,hw19⟩:∃ w19,w19 = w18.alloc (bkO 1 (u1:Nat) (.slice x8 c.roots cp8)):=⟨_,rfl⟩
 rw [← hmbq]
 rw [← hmbq] at hX19
 rw [← hw19] at hX19 k19
 first | rw [← hw19] | skip
 have HX19:=hid hX19
 have HK1719:=hid (HK1718.out.trans k19)
 have HO19:=hid (HO18.out.keep k19 (by simp))
 clear hw19 hmbq hX19 k19
 have HO719:=hid (HO17.out.keep HK1719.out (by simp))
 have HN19:=hid (HK1719.out.at HX17.out (by simp))
 have HC19:=hid (HK1719.out.at HC17.out (by simp))
 have HEQL:=hid (equal_true w19 x8 x7 c.roots cp8 cp7 _ _ HO19.out.rd HO719.out.rd (fun _ _ => rfl) (by omega))
 have HCHK:=hid (fun (w':World) (hk:Keeps [] w19 w') => show Calls Tryz.prog 23 #[ptr a.d,cfgV c] w' fun e w'' => e = .returned (.int .i64 0) ∧ Keeps [] w' w'' from by
  have h:=check12_at w' p a T c (HDT.out.keep (HK1719.out.trans hk) (by simp) (by simp) (by simp) (by simp)) HO.out HN.out 1 u1 _ false (by omega) HTL.out.1 HTL.out.2.1 HTL.out.2.2.1 HTL.out.2.2.2.1
  rw [HTL.out.2.2.2.2.1] at h
  exact h)
 have HSAM:=hid (fun (w':World) (hk:Keeps [] w19 w') => show Calls Tryz.prog 24 #[ptr ae.d,cfgV c,bkV (1:Nat) u1 (.slice x7 c.roots cp7), .slice x7 c.roots cp7,ptr a.d,bkV (1:Nat) u1 (.slice x8 c.roots cp8), .slice x8 c.roots cp8] w' fun e w'' => e = .returned (.bool true) ∧ Keeps [] w' w'' from by
  have hkk:=HK1719.out.trans hk
  have hf1:=frm_space (c:=c) 1 (by omega)
  have hcn:=HN.out
  have hus:=HUi.out
  have hrdy:RdyC S12 c 1 u1 (rs.map (wtC S c 0 P.LS)):=HNX.out.2.rdy
  have hsp:∀ j:Nat,c.frm 1 ≤ j → j < c.frm 1 + u1 → ∃ x:Nat,S12.now j = (x:Int) ∧ x < 18446744073709551616:=fun j h1 h2 => (HNX.out.1.wd.at HN.out (by omega)).2 j h1 (by omega)
  refine same14_at w' pe ae So (HDE17.out.keep hkk (by simp) (by simp) (by simp) (by simp)) p a T (HDT.out.keep hkk (by simp) (by simp) (by simp) (by simp)) c HO.out (by rw [HDE.out.2.1]; exact hcn) hcn 1 u1 1 u1 (by omega) (by omega) hus hus _ _
   (fun j h1 h2 => by rw [HDE.out.2.2.1 j (by omega)]; exact hsp j h1 h2) (fun j h1 h2 => by rw [HTN.out j (.inr ⟨h1,by omega⟩)]; exact hsp j h1 h2)
   _ _ (((SamI.refl hrdy).fst fun j h1 h2 => HDE.out.2.2.1 j (by omega)).snd fun j h1 h2 => HTN.out j (.inr ⟨h1,by omega⟩)) (by have h1:=@rcF_len S12 c 1 u1 (rs.map (wtC S c 0 P.LS)); have h2:=HO.out.small.2.2; omega)
   x7 c.roots cp7 (fun i => (rs.map (wtC S c 0 P.LS)).getD i 0) (fun i => (rs.map (wtC S c 0 P.LS)).getD i 0) ((HO719.out.keep hk (by simp)).rd) x8 cp8 ((HO19.out.keep hk (by simp)).rd) (by omega) fun i hi => ?_
  have hm:(rs.map (wtC S c 0 P.LS)).getD i 0 ∈ rs.map (wtC S c 0 P.LS):=by
   rw [List.getD_eq_getElem?_getD,List.getElem?_eq_getElem (by rw [HNX.out.1.rl]; exact hi)]
   exact List.getElem_mem _
  exact pair_self (rc_mem hm (HNX.out.1.named hm)))
 have n0:=HN19.out.cell 0 rfl
 have n1:=HN19.out.cell 1 rfl
 have n2:=HN19.out.cell 2 rfl
 have m0:=HX19.out.cell 0 rfl
 have m1:=HX19.out.cell 1 rfl
 have m2:=HX19.out.cell 2 rfl
 go_wp2_with fail
 refine HEQL.out.mono ?_
 rintro e w20 ⟨rfl,k20⟩
 have HK20:=hid k20
 have hC20:=k20.at HC19.out (by simp)
 have c0:=hC20.cell 0 rfl
 have c1:=hC20.cell 1 rfl
 have c2:=hC20.cell 2 rfl
 clear k20 n0 n1 n2 m0 m1 m2 hC20 HEQL
 go_wp2_with fail
 refine (HCHK.out w20 HK20.out).mono ?_
 rintro e w21 ⟨rfl,k21⟩
 have HK21:=hid (HK20.out.trans k21)
 have hC21:=HK21.out.at HC19.out (by simp)
 have hN21:=HK21.out.at HN19.out (by simp)
 have hM21:=HK21.out.at HX19.out (by simp)
 clear c0 c1 c2 k21 HCHK
 have c0:=hC21.cell 0 rfl
 have c1:=hC21.cell 1 rfl
 have c2:=hC21.cell 2 rfl
 have n0:=hN21.cell 0 rfl
 have n1:=hN21.cell 1 rfl
 have n2:=hN21.cell 2 rfl
 have m0:=hM21.cell 0 rfl
 have m1:=hM21.cell 1 rfl
 have m2:=hM21.cell 2 rfl
 clear hC21 hN21 hM21
 go_wp2_with fail
 refine (HSAM.out w21 HK21.out).mono ?_
 rintro e w22 ⟨rfl,k22⟩
 have HEN:=hid ((((HE17.out.trans HK1719.out).trans HK21.out).trans k22).below (Nat.le_refl _) (by simp))
 clear k22 c0 c1 c2 n0 n1 n2 m0 m1 m2
 go_wp2_with fail
 go_ret
 exact ⟨rfl,HEN.out⟩
theorem flipKeeps_walk (l r s:Int) (y:Option Addr) (m cm:Nat) (z:Nat → Nat → Int) (y1:Option Addr) (mn cn:Nat) (g:Nat → Int) (bits:Int) (W:World) (wl:(Lit.int .u16 l).wf = true) (wr:(Lit.int .u16 r).wf = true) (ws:(Lit.int .u16 s).wf = true)
  (R2:m * 2 = 0 ∨ ∃ b off,y = some ⟨b,off,none⟩ ∧ b < W.heap.size ∧ ∀ i j,i < m → j < 2 → W.cell? ⟨b,off + (i * 2 + j),none⟩ = some (.int ((fun j => if j = 0 then IntKind.u8 else IntKind.u8) j) (z i j)) ∧ (Lit.int ((fun j => if j = 0 then IntKind.u8 else IntKind.u8) j) (z i j)).wf = true) (hm:m ≤ maxLen)
  (R:ReadsV (Value.int .u16) W y1 mn g) (hg:∀ i,i < mn → (Lit.int .u16 (g i)).wf = true) (hmn:mn ≤ maxLen) (_:(Lit.int .u64 bits).wf = true) :
  Calls Tryz.prog 6 #[.agg #[.int .u16 l, .int .u16 r, .int .u16 s], .slice y m cm, .slice y1 mn cn, .int .u64 bits] W fun e w' => e = .returned (.bool true) ∧ Below W.heap.size W w':=by
 obtain ⟨l,rfl,hl⟩:=c3_open wl
 obtain ⟨r,rfl,hr⟩:=c3_open wr
 obtain ⟨s,rfl,hs⟩:=c3_open ws
 exact fkeeps_small l r s y m cm _ _ y1 mn cn _ bits W hl hr hs (readsH_of R2) (by unfold maxLen at hm; omega) (reads16_any R hg) (by unfold maxLen at hmn; omega)
end Go.Proofs.YtaidmbdkbjgojaaGreat
