import Derived.Test.YtaidmbdkbjgojaaGreatAwk15
import Derived.BigQuiet
import Derived.Deep.RegionHeld3
namespace Go.Proofs.YtaidmbdkbjgojaaGreat
open Go.RowKit Go.OpenShut
set_option maxRecDepth 100000 in
set_option maxHeartbeats 8000000 in
theorem ftwice_small (l r s:Nat) (y0:Option Addr) (m cm:Nat) (R V:Nat → Nat) (y1:Option Addr) (mn cn:Nat) (G:Nat → Nat) (W:World) (hl:l ≤ 65535) (hrr:r ≤ 65535) (hs:s ≤ 65535)
  (hy:ReadsH W y0 m R V) (hm:m ≤ 9223372036854775807) (hg:ReadsW W y1 mn G) (hmn:mn ≤ 9223372036854775807) :
  Calls Tryz.prog 5 #[c3V l r s, .slice y0 m cm, .slice y1 mn cn] W fun e w' => e = .returned (.bool true) ∧ Below W.heap.size W w':=by
 have hmi:(m:Int) ≤ 9223372036854775807:=by omega
 have hmni:(mn:Int) ≤ 9223372036854775807:=by omega
 have HG:=hid hg
 have HY:=hid hy
 clear hg hy
 go_enter Tryz.func5,Tryz.ntmps5
 go_wp2_with fail
 have h_xb:=At.new W (c3O l r s)
 have K0:=(Keeps.refl [] W).alloc (c3O l r s)
 obtain ⟨xb,hq_xb⟩:∃ q,q = W.heap.size:=⟨_,rfl⟩
 rw [← hq_xb]
 rw [← hq_xb] at h_xb
 refine (awake15_any _).mono ?_
 rintro e w1 ⟨rfl,hb1⟩
 have k1:=Go.Proofs.YtaidmbdkbjgojaaGreat.Below.keeps hb1 []
 have K1:=K0.trans k1
 have g_xb:=k1.at h_xb (by simp)
 clear hb1 k1 K0 h_xb hq_xb
 have c0:w1.cell? ⟨xb,0,none⟩ = some (.int .u16 l):=g_xb.cell 0 rfl
 have c1:w1.cell? ⟨xb,1,none⟩ = some (.int .u16 r):=g_xb.cell 1 rfl
 have c2:w1.cell? ⟨xb,2,none⟩ = some (.int .u16 s):=g_xb.cell 2 rfl
 by_cases hm30:m ≤ 25
 case neg =>
  have g2:(25:Int) < (m:Int):=by omega
  have g3:decide ((25:Int) < (m:Int)) = true:=decide_eq_true g2
  go_wp2_with fail
  go_ret
  exact ⟨rfl,K1.below (Nat.le_refl _) (by simp)⟩
 have hm2:(m:Int) ≤ 25:=by omega
 have hm3:decide ((25:Int) < (m:Int)) = false:=decide_eq_false (by omega)
 clear hmi
 by_cases hn60:mn ≤ 60
 case neg =>
  have g2:(60:Int) < (mn:Int):=by omega
  have g3:decide ((60:Int) < (mn:Int)) = true:=decide_eq_true g2
  go_wp2_with fail
  go_ret
  exact ⟨rfl,K1.below (Nat.le_refl _) (by simp)⟩
 have h2_mn:(mn:Int) ≤ 60:=by omega
 have h3_mn:decide ((60:Int) < (mn:Int)) = false:=decide_eq_false (by omega)
 clear hmni
 have hok:=mk3_ok l r s
 obtain ⟨c,hc⟩:∃ c,c = mk3 l r s:=⟨_,rfl⟩
 rw [← hc] at hok
 obtain ⟨os,hos⟩:∃ os,os = fillL c.space (hdsL R V m):=⟨_,rfl⟩
 have HLI:=hid (linked_at w1 l r s hl hrr hs y0 m cm R V (HY.out.keep K1 (by simp)) (by omega) y1 mn cn G (HG.out.keep K1 (by simp)) (by omega) 0 (by omega) c hc os hos)
 clear hc
 go_wp2_with fail
 refine HLI.out.mono ?_
 rintro e w3 ⟨p,a,u,S,x,cp,y,cy,B,rfl,hn,hP,hub,hF,hU,hI,⟨b1,b2,b3,b4,b5⟩,hB,hk3⟩
 have K3:=K1.trans hk3
 have HO:=hid hok
 have HN:=hid hn
 obtain ⟨L,hL⟩:∃ L,L = os.length:=⟨_,rfl⟩
 have hLm:L ≤ m:=by rw [hL,hos]; exact fillL_len _ _ _ _
 have hLi:(L:Int) ≤ 30:=by omega
 have HL:=hid hL
 rw [← hL] at hI ⊢
 obtain ⟨us,hus⟩:∃ us,us = lenL os:=⟨_,rfl⟩
 have HUS:=hid hus
 rw [← hus]
 have husb:us ≤ c.space:=by rw [hus]; exact hF.fits
 have hsp:c.space ≤ 4096:=hok.small.2.2
 have husi:(us:Int) ≤ 4096:=by omega
 have hfr:=frm_le hok.small (show 0 ≤ 2 by omega)
 have hfs:c.frm 0 + c.space ≤ a.n:=by rw [← hn]; exact frm_space 0 (by omega)
 have HFS:=hid (And.intro husb (And.intro hsp (And.intro hfs hfr)))
 have HP:=hid hP
 have HI:=hid hI
 have HWB:Hid (∀ b ∈ [p,a.d,a.s,a.k,a.m],W.heap.size ≤ b ∧ b < w3.heap.size):=fun b hb' => by
  have h1:=K1.size
  have h2:=hP.pow.lt
  have h3:=hP.dev.dev.lt
  have h4:=hP.dev.now.lt
  have h5:=hP.dev.kept.lt
  have h6:=hP.dev.map.lt
  simp only [List.mem_cons,List.not_mem_nil,or_false] at hb'
  omega
 have HUB:=hid hub
 have HU:=hid hU
 have HK3:=hid K3
 have HFF:=hid hF
 have HIB:Hid (∀ b ∈ blkL y,b ∉ [p,a.d,a.s,a.k,a.m]):=fun b hb h => by
  have h1:=(HI.out.ge b hb).1
  simp only [List.mem_cons,List.not_mem_nil,or_false] at h
  omega
 have HXB:Hid (∀ b ∈ blkL x,b ∉ [p,a.d,a.s,a.k,a.m]):=fun b hb h => by
  have h1:=(HU.out.ge b hb).1
  simp only [List.mem_cons,List.not_mem_nil,or_false] at h
  omega
 have HL30:Hid (L ≤ 30):=by show _ ≤ _; omega
 obtain ⟨rs,hrs⟩:∃ rs:List Nat,rs = wsN c.roots fun j => lnkG c os G mn 0 (refL os + j):=⟨_,rfl⟩
 have hHp:HepS S c a.n 0 us rs os:=by
  have h:=hF.hep hok (n:=a.n)
  rw [← hrs, ← hus] at h
  exact h
 have HHP:=hid hHp
 have HOK:Hid (∀ ws:List Nat,(∀ v ∈ ws,v < 9223372036854775808) → ws.length ≤ 900 → CP.Ok ⟨p,a,S,c,0,us,rs ++ ws,rs⟩):=fun ws h1 h2 => by
  have h:=ok14 p HO.out HN.out HFF.out (nmdP_start S c os) (rs ++ ws) (fun v hv => by
   rcases List.mem_append.1 hv with h | h
   ·exact HHP.out.rb v h
   ·exact h1 v h) (by
   have h3:=HO.out.2.1
   have h4:=HHP.out.rl
   rw [List.length_append]
   omega)
  rw [← hrs, ← HUS.out] at h
  exact h
 have HRS:=hid hrs
 clear hm30 hn60 hm2 hm3 h2_mn h3_mn hos hL hLm hus husb hsp hfs hfr hF hP hub hI hU hB b1 b2 b3 b4 b5 hk3 K1 c0 c1 c2 HLI hok hn K3 g_xb hrs hHp
 go_upto_region 6 with fail
 have hC4:=(At.new w3 (cfgO c)).alloc (bkO 0 (us:Nat) (.slice x c.roots cp))
 have hB4:=At.new (w3.alloc (cfgO c)) (bkO 0 (us:Nat) (.slice x c.roots cp))
 have k34:=((Keeps.refl [] w3).alloc (cfgO c)).alloc (bkO 0 (us:Nat) (.slice x c.roots cp))
 simp only [World.size_alloc] at hB4
 obtain ⟨cb,hcb⟩:∃ q,q = w3.heap.size:=⟨_,rfl⟩
 obtain ⟨bb,hbb⟩:∃ q,q = w3.heap.size + 1:=⟨_,rfl⟩
 obtain ⟨w4,hw4⟩:∃ w4,w4 = (w3.alloc (cfgO c)).alloc (bkO 0 (us:Nat) (.slice x c.roots cp)):=⟨_,rfl⟩
 have hz4:w4.heap.size = w3.heap.size + 2:=by rw [hw4]; simp
 rw [← hw4] at hC4 hB4 k34
 first | rw [← hw4] | skip
 rw [← hbb, ← hcb]
 rw [← hcb] at hC4
 rw [← hbb] at hB4
 have HZ4:Hid (cb = w3.heap.size ∧ bb = cb + 1 ∧ w4.heap.size = cb + 2):=⟨by omega,by omega,by omega⟩
 have HP4:=hid (HP.out.keep0 k34)
 have HC4:=hid hC4
 have HB4:=hid hB4
 have HK4:=hid (HK3.out.trans k34)
 have HK34:=hid k34
 have HI4:=hid (HI.out.keep k34 (by simp))
 clear hw4 hz4 hcb hbb hC4 hB4 k34
 have c0:=HC4.out.cell 0 rfl
 have c1:=HC4.out.cell 1 rfl
 have c2:=HC4.out.cell 2 rfl
 go_wp2_with fail
 refine (new15_at w4 p a u S c HP4.out HO.out HN.out HFF.out.log).mono ?_
 rintro e w5 ⟨q,rfl,hSh,k45,hq⟩
 have HSH:=hid hSh
 have HK45:=hid k45
 have HK5:=hid (HK4.out.trans k45)
 have HC5:=hid (k45.at HC4.out (by simp))
 have HB5:=hid (k45.at HB4.out (by simp))
 have HQ:=hid hq
 have HQD:Hid (∀ b ∈ a.d :: q.bl p a,W.heap.size ≤ b ∧ b ≠ cb ∧ b ≠ bb ∧ (b < w3.heap.size ∨ w4.heap.size ≤ b)):=fun b hb => by
  have h1:=HC4.out.lt
  have h2:=HB4.out.lt
  have h3:=HZ4.out
  have h4:=HK3.out.size
  unfold Sc.bl at hb
  simp only [List.mem_cons,List.not_mem_nil,or_false] at hb
  have h5:=HWB.out p (by simp)
  have h6:=HWB.out a.d (by simp)
  have h7:=HWB.out a.s (by simp)
  have h8:=HWB.out a.k (by simp)
  have h9:=HWB.out a.m (by simp)
  omega
 obtain ⟨fs,ts,hsec⟩:=hSh.len.1
 have s0:=hsec.cell 0 rfl
 clear hSh k45 hq c0 c1 c2 hsec
 go_upto_region 11 with fail
 clear s0
 obtain ⟨U1,hU1⟩:∃ U1,U1 = szF S (rcF S c 0 us (rs ++ [])):=⟨_,rfl⟩
 have hU1s:U1 ≤ us:=by
  rw [hU1,HUS.out]
  exact HFF.out.sz_le (lnkG_low c os G mn (by have:=HFS.out; have:=HUS.out; omega)) rcF_nodup fun x hx => rcF_ob hx
 have HU1:=hid hU1
 have HU1S:=hid hU1s
 have husi:(us:Int) ≤ 4096:=by have:=HFS.out; omega
 clear hU1 hU1s
 go_upto_region 12 with fail
 go_wp2_with fail
 go_loopg [12,51] 3 (fun rr s12 s51 wr => ∃ (k usd:Nat) (uk:Int) (Sk:DS) (rk:Nat) (rsk:List Nat) (osk:List (Nat × Nat)),k + rr = 3 ∧ s51 = .int .i64 (k:Nat) ∧ Hp p a q c (k % 2) usd rsk [] osk uk Sk rk wr ∧ szF Sk (rcF Sk c (k % 2) usd (rsk ++ [])) = U1 ∧
  ((k = 0 ∧ s12 = .int .i64 (-1)) ∨ (1 ≤ k ∧ s12 = .int .i64 (U1:Nat))) ∧ uk ≤ 300000 + 2000000000 * (k:Int) ∧ rk ≤ k ∧ Keeps (q.bl p a) w5 wr)
 case atStart => exact ⟨0,us,u,S,0,rs,os,by omega,rfl,⟨HSH.out,HHP.out,HOK.out [] (by simp) (by simp)⟩,HU1.out.symm, .inl ⟨rfl,rfl⟩,by have:=HUB.out; omega,Nat.le_refl _,Keeps.refl _ _⟩
 case round =>
  obtain ⟨k,usd,uk,Sk,rk,rsk,osk,hk3,rfl,hHk,hszk,hused,huk,hrk,hKk⟩:=hrel
  by_cases hlt:k < 3
  case neg =>
   obtain rfl:k = 3:=by omega
   have HE:Hid (Keeps [] W wr):=HK5.out.new hKk fun b hb => .inr (HQD.out b (List.mem_cons_of_mem _ hb)).1
   clear hHk hszk hused huk hrk hKk
   go_wp2_with fail
   go_ret
   exact ⟨rfl,HE.out.below (Nat.le_refl _) (by simp)⟩
  have HHK:=hid hHk
  have HR3:=hid hk3
  have HSZ:=hid hszk
  have HKK:=hid hKk
  have HUK:=hid (And.intro huk (And.intro hrk (And.intro hk3 hlt)))
  have HC6:=hid (hKk.at HC5.out (fun h => (HQD.out cb (List.mem_cons_of_mem _ h)).2.1 rfl))
  have HCL:Hid (Calls Tryz.prog 18 #[ptr a.d,cfgV c,ptr q.b, .slice none 0 0] wr (HpN p a q c (k % 2) usd rsk [] uk Sk rk wr)):=collect15_free wr p a uk Sk q c rk (k % 2) usd rsk [] osk none 0 0 hHk (ownU_nil _ _ _) (by simp [blkL]) (by omega) (by omega)
  have hki:(k:Int) < 3:=by omega
  clear hHk hszk hKk huk hrk hk3 hlt
  have c0:=HC6.out.cell 0 rfl
  have c1:=HC6.out.cell 1 rfl
  have c2:=HC6.out.cell 2 rfl
  go_wp2_with fail
  refine HCL.out.mono ?_
  rintro e w6 ⟨P,yb,T,u6,S6,r6,rfl,⟨_,q1,q2,q3,q4,q5,q6,q7,q8⟩,_,_,_,hH,hn1,hn2,_,hu6,hr6,hk6⟩
  have hLS:P.LS = rcF Sk c (k % 2) usd (rsk ++ []):=by
   unfold CP.LS
   rw [q4,q5,q6,q7]
   exact rcF_same fun j _ _ => congrFun q3 j
  have hU:szF P.S P.LS = U1:=by
   rw [hLS,szF_same (S:=Sk) (k:=k % 2) (u:=usd) (c:=c) (fun j _ _ => congrFun q3 j) _ fun x hx => rcF_ob hx]
   exact HSZ.out
  rw [hU] at hH hn1 hn2
  have HH6:=hid hH
  have HN6:Hid (szF S6 (rcF S6 c (1 - k % 2) U1 (rsk.map (wtC P.S c (k % 2) P.LS) ++ [])) = U1):=by
   show _ = _
   rw [List.append_nil]
   rw [List.append_nil] at hn1
   rw [hn1,hn2]
  have HU6:=hid (And.intro hu6 hr6)
  have HK6:=hid (HKK.out.trans hk6)
  have HR6:=hid (rread_at w6 p a S6 c hH.sh.pw.dev HO.out HN.out (by rw [hH.hp.act]; omega) (by rw [hH.hp.used]; omega))
  have HC7:=hid (hk6.at HC6.out (fun h => (HQD.out cb (List.mem_cons_of_mem _ h)).2.1 rfl))
  clear hLS hU hH hn1 hn2 hu6 hr6 hk6 q1 q2 q3 q4 q5 q6 q7 q8 HCL c0 c1 c2
  have c0:=HC7.out.cell 0 rfl
  have c1:=HC7.out.cell 1 rfl
  have c2:=HC7.out.cell 2 rfl
  go_wp2_with fail
  refine HR6.out.mono ?_
  rintro e w7 (⟨h9,rfl,hk9⟩ | ⟨k1,u1,x7,cp7,hk1,hu1,hA1,hU1,rfl,hO7,hk7⟩)
  ·rw [HH6.out.hp.act,HH6.out.hp.used] at h9
   have:=HH6.out.hp.us
   omega
  obtain rfl:k1 = 1 - k % 2:=by have:=HH6.out.hp.act; omega
  obtain rfl:u1 = U1:=by have:=HH6.out.hp.used; omega
  have HK7:=hid (HK6.out.trans (hk7.mono (by simp)))
  have HH7:=hid (HH6.out.keep0 hk7)
  clear hk1 hu1 hA1 hU1 hO7 hk7 c0 c1 c2
  go_upto_region 17 with fail
  have hX8:=At.new w7 (bkO ((1 - k % 2:Nat):Int) (u1:Nat) (.slice x7 c.roots cp7))
  have k78:=(Keeps.refl [] w7).alloc (bkO ((1 - k % 2:Nat):Int) (u1:Nat) (.slice x7 c.roots cp7))
  obtain ⟨nb,hnb⟩:∃ nb,nb = w7.heap.size:=⟨_,rfl⟩
  obtain ⟨w8,hw8⟩:∃ w8,w8 = w7.alloc (bkO ((1 - k % 2:Nat):Int) (u1:Nat) (.slice x7 c.roots cp7)):=⟨_,rfl⟩
  rw [← hnb]
  rw [← hnb] at hX8
  rw [← hw8] at hX8 k78 ⊢
  have HK8:=hid (HK7.out.trans (k78.mono (by simp)))
  have HH8:=hid (HH7.out.keep0 k78)
  have hB8:=HK8.out.at HB5.out (fun h => (HQD.out bb (List.mem_cons_of_mem _ h)).2.2.1 rfl)
  have n0:=hX8.cell 0 rfl
  have n1:=hX8.cell 1 rfl
  have b1:=hB8.cell 1 rfl
  have hui:(u1:Int) ≤ (us:Int):=by have:=HU1S.out; omega
  have t1:decide ((us:Int) < (u1:Int)) = false:=decide_eq_false (by omega)
  have t2:decide (us < u1) = false:=decide_eq_false (by omega)
  have t3:decide ((0:Int) ≤ (u1:Int)) = true:=decide_eq_true (by omega)
  have HEN:Hid (∀ k',k' = k + 1 → ∃ (usd:Nat) (uk:Int) (Sk:DS) (rk:Nat) (rsk:List Nat) (osk:List (Nat × Nat)),k' ≤ 3 ∧ Hp p a q c (k' % 2) usd rsk [] osk uk Sk rk w8 ∧ szF Sk (rcF Sk c (k' % 2) usd (rsk ++ [])) = u1 ∧ uk ≤ 300000 + 2000000000 * (k':Int) ∧ rk ≤ k' ∧ Keeps (q.bl p a) w5 w8):=by
   rintro k' rfl
   have h1:(k + 1) % 2 = 1 - k % 2:=by omega
   rw [h1]
   exact ⟨u1,u6,S6,r6,_,_,by have:=HUK.out; omega,HH8.out,HN6.out,by have:=HUK.out; have:=HU6.out; omega,by have:=HUK.out; have:=HU6.out; omega,HK8.out⟩
  clear hX8 k78 hw8 hnb hB8
  have hk012:k = 0 ∨ k = 1 ∨ k = 2:=by have:=HUK.out; omega
  clear HUK hki
  rcases hused with ⟨rfl,rfl⟩ | ⟨hk1,rfl⟩
  ·clear hk012
   go_wp2_with fail
   go_roundg 2
   case measure => (have:=HR3.out; omega)
   case rel =>
    obtain ⟨usd,uk,Sk,rk,rsk,osk,g0,g1,g2,g3,g4,g5⟩:=HEN.out 1 rfl
    exact ⟨1,usd,uk,Sk,rk,rsk,osk,by omega,by go_num,g1,g2, .inr ⟨Nat.le_refl _,rfl⟩,g3,g4,g5⟩
  ·rcases hk012 with rfl | rfl | rfl
   ·exact absurd hk1 (by omega)
   ·clear hk1
    go_wp2_with fail
    go_roundg 1
    case measure => (have:=HR3.out; omega)
    case rel =>
     obtain ⟨usd,uk,Sk,rk,rsk,osk,g0,g1,g2,g3,g4,g5⟩:=HEN.out 2 rfl
     exact ⟨2,usd,uk,Sk,rk,rsk,osk,by omega,by go_num,g1,g2, .inr ⟨by omega,rfl⟩,g3,g4,g5⟩
   ·clear hk1
    go_wp2_with fail
    go_roundg 0
    case measure => (have:=HR3.out; omega)
    case rel =>
     obtain ⟨usd,uk,Sk,rk,rsk,osk,g0,g1,g2,g3,g4,g5⟩:=HEN.out 3 rfl
     exact ⟨3,usd,uk,Sk,rk,rsk,osk,by omega,by go_num,g1,g2, .inr ⟨by omega,rfl⟩,g3,g4,g5⟩
theorem flipTwice_walk (l r s:Int) (y:Option Addr) (m cm:Nat) (z:Nat → Nat → Int) (y1:Option Addr) (mn cn:Nat) (g:Nat → Int) (W:World) (wl:(Lit.int .u16 l).wf = true) (wr:(Lit.int .u16 r).wf = true) (ws:(Lit.int .u16 s).wf = true)
  (R2:m * 2 = 0 ∨ ∃ b off,y = some ⟨b,off,none⟩ ∧ b < W.heap.size ∧ ∀ i j,i < m → j < 2 → W.cell? ⟨b,off + (i * 2 + j),none⟩ = some (.int ((fun j => if j = 0 then IntKind.u8 else IntKind.u8) j) (z i j)) ∧ (Lit.int ((fun j => if j = 0 then IntKind.u8 else IntKind.u8) j) (z i j)).wf = true) (hm:m ≤ maxLen)
  (R:ReadsV (Value.int .u16) W y1 mn g) (hg:∀ i,i < mn → (Lit.int .u16 (g i)).wf = true) (hmn:mn ≤ maxLen) :
  Calls Tryz.prog 5 #[.agg #[.int .u16 l, .int .u16 r, .int .u16 s], .slice y m cm, .slice y1 mn cn] W fun e w' => e = .returned (.bool true) ∧ Below W.heap.size W w':=by
 obtain ⟨l,rfl,hl⟩:=c3_open wl
 obtain ⟨r,rfl,hr⟩:=c3_open wr
 obtain ⟨s,rfl,hs⟩:=c3_open ws
 exact ftwice_small l r s y m cm _ _ y1 mn cn _ W hl hr hs (readsH_of R2) (by unfold maxLen at hm; omega) (reads16_any R hg) (by unfold maxLen at hmn; omega)
end Go.Proofs.YtaidmbdkbjgojaaGreat
