import Derived.Test.YtaidmbdkbjgojaaGreatCu15
import Derived.BigQuiet
import Derived.Deep.RegionHeld3
import Derived.Test.YtaidmbdkbjgojaaGreatSam
namespace Go.Proofs.YtaidmbdkbjgojaaGreat
open Go.RowKit Go.OpenShut
set_option maxRecDepth 100000 in
set_option maxHeartbeats 8000000 in
theorem fcut_small (l r s:Nat) (y0:Option Addr) (m cm:Nat) (R V:Nat → Nat) (y1:Option Addr) (mn cn:Nat) (G:Nat → Nat) (lim:Nat) (bits:Int) (W:World) (hl:l ≤ 65535) (hrr:r ≤ 65535) (hs:s ≤ 65535)
  (hy:ReadsH W y0 m R V) (hm:m ≤ 9223372036854775807) (hg:ReadsW W y1 mn G) (hmn:mn ≤ 9223372036854775807) (hlim:lim ≤ 65535) :
  Calls Tryz.prog 4 #[c3V l r s, .slice y0 m cm, .slice y1 mn cn, .int .u16 (lim:Nat), .int .u64 bits] W fun e w' => e = .returned (.bool true) ∧ Below W.heap.size W w':=by
 have hmi:(m:Int) ≤ 9223372036854775807:=by omega
 have hmni:(mn:Int) ≤ 9223372036854775807:=by omega
 have HG:=hid hg
 have HY:=hid hy
 clear hg hy
 have HLIM:=hid hlim
 have hlimi:(lim:Int) ≤ 65535:=by omega
 go_enter Tryz.func4,Tryz.ntmps4
 go_wp2_with fail
 have h_xb:=(At.new W (c3O l r s)).alloc (wordO bits)
 have h_sb:=At.new (W.alloc (c3O l r s)) (wordO bits)
 have K0:=((Keeps.refl [] W).alloc (c3O l r s)).alloc (wordO bits)
 simp only [World.size_alloc] at h_sb
 obtain ⟨xb,hq_xb⟩:∃ q,q = W.heap.size:=⟨_,rfl⟩
 obtain ⟨sb,hq_sb⟩:∃ q,q = W.heap.size + 1:=⟨_,rfl⟩
 rw [← hq_sb, ← hq_xb]
 rw [← hq_xb] at h_xb
 rw [← hq_sb] at h_sb
 have HSB:Hid (W.heap.size ≤ sb):=by show _ ≤ _; omega
 refine (awake15_any _).mono ?_
 rintro e w1 ⟨rfl,hb1⟩
 have k1:=Go.Proofs.YtaidmbdkbjgojaaGreat.Below.keeps hb1 []
 have K1:=K0.trans k1
 have g_xb:=k1.at h_xb (by simp)
 have g_sb:=k1.at h_sb (by simp)
 have HSB1:=hid g_sb
 clear g_sb h_sb hq_sb
 clear hb1 k1 K0 h_xb hq_xb
 have c0:w1.cell? ⟨xb,0,none⟩ = some (.int .u16 l):=g_xb.cell 0 rfl
 have c1:w1.cell? ⟨xb,1,none⟩ = some (.int .u16 r):=g_xb.cell 1 rfl
 have c2:w1.cell? ⟨xb,2,none⟩ = some (.int .u16 s):=g_xb.cell 2 rfl
 by_cases hm30:m ≤ 25
 case neg =>
  have g2:(25:Int) < (m:Int):=by omega
  have g3:decide ((25:Int) < (m:Int)) = true:=decide_eq_true g2
  go_wp2_with fail
  go_ret
  exact ⟨rfl,K1.below (Nat.le_refl _) (by simp)⟩
 have hm2:(m:Int) ≤ 25:=by omega
 have hm3:decide ((25:Int) < (m:Int)) = false:=decide_eq_false (by omega)
 clear hmi
 by_cases hn60:mn ≤ 60
 case neg =>
  have g2:(60:Int) < (mn:Int):=by omega
  have g3:decide ((60:Int) < (mn:Int)) = true:=decide_eq_true g2
  go_wp2_with fail
  go_ret
  exact ⟨rfl,K1.below (Nat.le_refl _) (by simp)⟩
 have h2_mn:(mn:Int) ≤ 60:=by omega
 have h3_mn:decide ((60:Int) < (mn:Int)) = false:=decide_eq_false (by omega)
 clear hmni
 have hok:=mk3_ok l r s
 obtain ⟨c,hc⟩:∃ c,c = mk3 l r s:=⟨_,rfl⟩
 rw [← hc] at hok
 obtain ⟨os,hos⟩:∃ os,os = fillL c.space (hdsL R V m):=⟨_,rfl⟩
 have HLI:=hid (linked_at w1 l r s hl hrr hs y0 m cm R V (HY.out.keep K1 (by simp)) (by omega) y1 mn cn G (HG.out.keep K1 (by simp)) (by omega) 0 (by omega) c hc os hos)
 clear hc
 go_wp2_with fail
 refine HLI.out.mono ?_
 rintro e w3 ⟨p,a,u,S,x,cp,y,cy,B,rfl,hn,hP,hub,hF,hU,hI,⟨b1,b2,b3,b4,b5⟩,hB,hk3⟩
 have K3:=K1.trans hk3
 have HO:=hid hok
 have HN:=hid hn
 obtain ⟨L,hL⟩:∃ L,L = os.length:=⟨_,rfl⟩
 have hLm:L ≤ m:=by rw [hL,hos]; exact fillL_len _ _ _ _
 have hLi:(L:Int) ≤ 30:=by omega
 have HL:=hid hL
 rw [← hL] at hI ⊢
 obtain ⟨us,hus⟩:∃ us,us = lenL os:=⟨_,rfl⟩
 have HUS:=hid hus
 rw [← hus]
 have husb:us ≤ c.space:=by rw [hus]; exact hF.fits
 have hsp:c.space ≤ 4096:=hok.small.2.2
 have husi:(us:Int) ≤ 4096:=by omega
 have hfr:=frm_le hok.small (show 0 ≤ 2 by omega)
 have hfs:c.frm 0 + c.space ≤ a.n:=by rw [← hn]; exact frm_space 0 (by omega)
 have HFS:=hid (And.intro husb (And.intro hsp (And.intro hfs hfr)))
 have HP:=hid hP
 have HI:=hid hI
 have HWB:Hid (∀ b ∈ [p,a.d,a.s,a.k,a.m],W.heap.size ≤ b ∧ b < w3.heap.size):=fun b hb' => by
  have h1:=K1.size
  have h2:=hP.pow.lt
  have h3:=hP.dev.dev.lt
  have h4:=hP.dev.now.lt
  have h5:=hP.dev.kept.lt
  have h6:=hP.dev.map.lt
  simp only [List.mem_cons,List.not_mem_nil,or_false] at hb'
  omega
 have HUB:=hid hub
 have HU:=hid hU
 have HK3:=hid K3
 have HSB3:=hid (hk3.at HSB1.out (by simp))
 have HSBD:Hid (sb ∉ [p,a.d,a.s,a.k,a.m]):=fun h => by
  have h1:=HSB1.out.lt
  simp only [List.mem_cons,List.not_mem_nil,or_false] at h
  omega
 have HFF:=hid hF
 have HIB:Hid (∀ b ∈ blkL y,b ∉ [p,a.d,a.s,a.k,a.m]):=fun b hb h => by
  have h1:=(HI.out.ge b hb).1
  simp only [List.mem_cons,List.not_mem_nil,or_false] at h
  omega
 have HXB:Hid (∀ b ∈ blkL x,b ∉ [p,a.d,a.s,a.k,a.m]):=fun b hb h => by
  have h1:=(HU.out.ge b hb).1
  simp only [List.mem_cons,List.not_mem_nil,or_false] at h
  omega
 have HL30:Hid (L ≤ 30):=by show _ ≤ _; omega
 obtain ⟨rs,hrs⟩:∃ rs:List Nat,rs = wsN c.roots fun j => lnkG c os G mn 0 (refL os + j):=⟨_,rfl⟩
 have hHp:HepS S c a.n 0 us rs os:=by
  have h:=hF.hep hok (n:=a.n)
  rw [← hrs, ← hus] at h
  exact h
 have HHP:=hid hHp
 have HOK:Hid (∀ ws:List Nat,(∀ v ∈ ws,v < 9223372036854775808) → ws.length ≤ 900 → CP.Ok ⟨p,a,S,c,0,us,rs ++ ws,rs⟩):=fun ws h1 h2 => by
  have h:=ok14 p HO.out HN.out HFF.out (nmdP_start S c os) (rs ++ ws) (fun v hv => by
   rcases List.mem_append.1 hv with h | h
   ·exact HHP.out.rb v h
   ·exact h1 v h) (by
   have h3:=HO.out.2.1
   have h4:=HHP.out.rl
   rw [List.length_append]
   omega)
  rw [← hrs, ← HUS.out] at h
  exact h
 have HRS:=hid hrs
 clear hm30 hn60 hm2 hm3 h2_mn h3_mn hos hL hLm hus husb hsp hfs hfr hF hP hub hI hU hB b1 b2 b3 b4 b5 hk3 K1 c0 c1 c2 HLI hok hn K3 g_xb hrs hHp
 go_upto_region 8 with fail
 have hD4:=((At.new w3 (.cells #[ptr a.d] 28)).alloc (cfgO c)).alloc (bkO 0 (us:Nat) (.slice x c.roots cp))
 have hC4:=(At.new (w3.alloc (.cells #[ptr a.d] 28)) (cfgO c)).alloc (bkO 0 (us:Nat) (.slice x c.roots cp))
 have hB4:=At.new ((w3.alloc (.cells #[ptr a.d] 28)).alloc (cfgO c)) (bkO 0 (us:Nat) (.slice x c.roots cp))
 have k34:=(((Keeps.refl [] w3).alloc (.cells #[ptr a.d] 28)).alloc (cfgO c)).alloc (bkO 0 (us:Nat) (.slice x c.roots cp))
 simp only [World.size_alloc] at hB4 hC4
 obtain ⟨db,hdb⟩:∃ q,q = w3.heap.size:=⟨_,rfl⟩
 obtain ⟨cb,hcb⟩:∃ q,q = w3.heap.size + 1:=⟨_,rfl⟩
 obtain ⟨bb,hbb⟩:∃ q,q = w3.heap.size + 1 + 1:=⟨_,rfl⟩
 obtain ⟨w4,hw4⟩:∃ w4,w4 = ((w3.alloc (.cells #[ptr a.d] 28)).alloc (cfgO c)).alloc (bkO 0 (us:Nat) (.slice x c.roots cp)):=⟨_,rfl⟩
 have hz4:w4.heap.size = w3.heap.size + 3:=by rw [hw4]; simp
 rw [← hw4] at hD4 hC4 hB4 k34
 first | rw [← hw4] | skip
 rw [← hbb, ← hcb, ← hdb]
 rw [← hdb] at hD4
 rw [← hcb] at hC4
 rw [← hbb] at hB4
 have HZ4:Hid (db = w3.heap.size ∧ cb = db + 1 ∧ bb = db + 2 ∧ w4.heap.size = db + 3):=⟨by omega,by omega,by omega,by omega⟩
 have HD4:=hid hD4
 clear hD4 hdb
 have HP4:=hid (HP.out.keep0 k34)
 have HC4:=hid hC4
 have HB4:=hid hB4
 have HK4:=hid (HK3.out.trans k34)
 have HK34:=hid k34
 have HI4:=hid (HI.out.keep k34 (by simp))
 have HSB4:=hid (k34.at HSB3.out (by simp))
 clear hw4 hz4 hcb hbb hC4 hB4 k34
 have hnb:a.n ≤ 15000:=(c_in HO.out HN.out).2.2.2.2
 have HNB:=hid hnb
 have hni:(a.n:Int) ≤ 15000:=by omega
 have d0:=HD4.out.cell 0 rfl
 have HLEN:=hid (len_at w4 p a S HP4.out.dev)
 clear hnb
 go_wp2_with fail
 refine HLEN.out.mono ?_
 rintro e w' ⟨rfl,rfl⟩
 clear d0 HLEN
 have HDD:Hid (db ∉ [p,a.s,a.k,a.m] ∧ cb ∉ [p,a.s,a.k,a.m] ∧ bb ∉ [p,a.s,a.k,a.m] ∧ sb ∉ [p,a.s,a.k,a.m]):=by
  have h5:=(HWB.out p (by simp)).2
  have h7:=(HWB.out a.s (by simp)).2
  have h8:=(HWB.out a.k (by simp)).2
  have h9:=(HWB.out a.m (by simp)).2
  have h1:=HZ4.out
  have h2:=HSBD.out
  show _ ∧ _
  simp only [List.mem_cons,List.not_mem_nil,or_false,not_or] at h2 ⊢
  omega
 go_wp2_with fail
 go_loopg [46] a.n (fun rr s46 wr => ∃ i:Nat,i + rr = a.n ∧ s46 = .int .i64 (i:Nat) ∧ Pw wr p a (-1) (u + (i:Int)) (execs S (rowL flA i)) ∧ Keeps [p,a.s,a.k,a.m] w4 wr)
 case atStart => exact ⟨0,by omega,rfl,by simpa [rowL_zero,execs_nil] using HP4.out,Keeps.refl _ _⟩
 case round =>
  obtain ⟨i,hi,rfl,hP5,hK5⟩:=hrel
  have d0:=(hK5.at HD4.out HDD.out.1).cell 0 rfl
  by_cases hlt:i < a.n
  ·have hii:(i:Int) < (a.n:Int):=by omega
   have HFL:=hid (flush_ran wr p a (-1) _ _ i hP5 hlt (by have:=HUB.out; omega))
   have HI5:=hid (And.intro hi hK5)
   have hlo:=hP5.lo
   clear hP5 hK5 hi hlt
   go_wp2_with fail
   refine HFL.out.mono ?_
   intro e w2 hr
   obtain ⟨rfl,h2,k2⟩:=hr.free hlo
   have HEN:Hid (Pw w2 p a (-1) (u + ((i + 1:Nat):Int)) (execs S (rowL flA (i + 1))) ∧ Keeps [p,a.s,a.k,a.m] w4 w2):=by
    refine ⟨?_,HI5.out.2.trans k2⟩
    rw [rowL_succ,execs_append]
    have e1:u + (i:Int) + (([Cmd.fl i]:List Cmd).length:Int) = u + ((i + 1:Nat):Int):=by simp; omega
    rw [e1] at h2
    exact h2
   clear hr h2 k2 hlo d0
   go_wp2_with fail
   go_roundg (a.n - (i + 1))
   case measure => (have:=HI5.out; omega)
   case rel => exact ⟨i + 1,by have:=HI5.out; omega,by go_num,HEN.out⟩
  ·have hie:a.n = i:=by omega
   subst hie
   have HFE:=hid (fence_ran wr p a (-1) _ _ hP5 (by have:=HUB.out; omega))
   have hlo:=hP5.lo
   have HK45:=hid hK5
   clear hP5 hK5 hi hlt
   go_wp2_with fail
   refine HFE.out.mono ?_
   intro e w5 hr
   obtain ⟨rfl,h2,k2⟩:=hr.free hlo
   obtain ⟨S1,hS1⟩:∃ S1,S1 = execs S (rowL flA a.n ++ [Cmd.fe]):=⟨_,rfl⟩
   have hP5:Pw w5 p a (-1) (u + (a.n:Int) + 1) S1:=by
    rw [hS1,execs_append]
    exact h2
   have hn1:S1.now = S.now:=by rw [hS1]; exact flA_now S a.n
   have hf1:∀ j,j < a.n → Fix S1 j (S1.now j):=fun j hj => by rw [hn1,hS1]; exact flA_fix S hj
   have hLR1:∃ pl wd,LR c a.n 1 0 0 pl wd S1:=by
    obtain ⟨pl,wd,h⟩:∃ pl wd,LR c a.n 1 0 0 pl wd S:=by first | exact HFF.out.log | exact HFF.out.log.1
    have hpre:∀ j,Pre S S1 j:=fun j => by rw [hS1]; exact pre_execs fun y hy => flA_off hy j
    exact ⟨pl,wd,h.pre (hpre 8) (fun i _ => absurd ‹_› (Nat.not_lt_zero _)) fun i _ _ => hpre _⟩
   obtain ⟨u1,hu1⟩:∃ u1,u1 = u + (a.n:Int) + 1:=⟨_,rfl⟩
   rw [← hu1] at hP5
   have hu1b:u1 ≤ 400000:=by have:=HUB.out; have:=HNB.out; omega
   have HP5:=hid hP5
   have H1:=hid (And.intro hn1 (And.intro hf1 (And.intro hLR1 hu1b)))
   have HK5:=hid (HK45.out.trans k2)
   have HD5:=hid (HK5.out.at HD4.out HDD.out.1)
   have HC5:=hid (HK5.out.at HC4.out HDD.out.2.1)
   have HB5:=hid (HK5.out.at HB4.out HDD.out.2.2.1)
   have HSB5:=hid (HK5.out.at HSB4.out HDD.out.2.2.2)
   clear hr h2 k2 hlo hS1 hP5 hn1 hf1 hLR1 hu1 hu1b HFE HK45 d0
   have d0:=HD5.out.cell 0 rfl
   have c0:=HC5.out.cell 0 rfl
   have c1:=HC5.out.cell 1 rfl
   have c2:=HC5.out.cell 2 rfl
   obtain ⟨pl0,wd0,hLR1⟩:=H1.out.2.2.1
   have HSN:=hid (snew_at HP5.out HO.out HN.out hLR1 (by omega))
   have HLR1:=hid hLR1
   clear hLR1
   go_wp2_with fail
   refine HSN.out.mono ?_
   rintro e w6 ⟨q,U,rfl,hsw,hUi,k56,hqs⟩
   have hSh:ShutL p a (-1) u1 S1 q c 0 w6:=⟨_,_,_,_,_,pl0,wd0,hsw,HLR1.out,hUi⟩
   have HSH:=hid hSh
   have HQ:=hid hqs
   have HK56:=hid k56
   clear hsw hUi hqs hSh k56 d0 c0 c1 c2 HSN
   go_upto_region 15 with fail
   have hS7:=At.new w6 (.cells #[ptr q.b] 37)
   have k67:=(Keeps.refl [] w6).alloc (.cells #[ptr q.b] 37)
   obtain ⟨sbx,hsbx⟩:∃ q,q = w6.heap.size:=⟨_,rfl⟩
   obtain ⟨w7,hw7⟩:∃ w7,w7 = w6.alloc (.cells #[ptr q.b] 37):=⟨_,rfl⟩
   rw [← hsbx]
   rw [← hsbx] at hS7
   first | rw [← hw7] | skip
   rw [← hw7] at hS7 k67
   have HS7:=hid hS7
   have HK57:=hid (HK56.out.trans k67)
   have HSX:Hid (w6.heap.size ≤ sbx):=Nat.le_of_eq hsbx.symm
   have HSH7:=hid (HSH.out.keep0 k67)
   obtain ⟨fs,ts,hsec⟩:=HSH7.out.len.1
   have q0:=hsec.cell 0 rfl
   have s0:=hS7.cell 0 rfl
   have d0:=(HK57.out.at HD5.out (by simp)).cell 0 rfl
   clear hsec hS7 k67 hsbx hw7
   have HWD:=hid (words_at w7 p a S1 HSH7.out.pw.dev)
   go_wp2_with fail
   refine HWD.out.mono ?_
   rintro e w8 ⟨v8,rfl,hv8,k78⟩
   obtain ⟨g8,cap8,rfl,hg8,_,hcap8,hR8⟩:=hv8.reads
   have HR8:=hid (And.intro hR8 (And.intro hg8 hcap8))
   have HK78:=hid k78
   clear hv8 hR8 hg8 hcap8 k78 q0 s0 d0 HWD
   have hLL:a.L = (a.n + 7) / 8:=by have:=a.n8; omega
   have HLN:=hid (lnew_at w8 (some ⟨g8,0,none⟩) a.n cap8 a.L S1.now HR8.out.1 hLL (by have:=HNB.out; omega))
   clear hLL
   go_wp2_with fail
   refine HLN.out.mono ?_
   rintro e w9 ⟨pe,ae,rfl,hae,hDe,hpe,hbe,k89⟩
   have haen:ae.n = a.n:=by rw [ae.n8,a.n8,hae]
   obtain ⟨So,hSo⟩:∃ So:DS,So = { now:=fun i => if i < a.n then S1.now i else 0,kept:=fun i => if i < a.n then S1.now i else 0,tok:=fun _ => 0,is:=fun _ => false }:=⟨_,rfl⟩
   rw [← hSo] at hDe
   have hSon:∀ j,j < a.n → So.now j = S1.now j:=fun j hj => by rw [hSo]; exact if_pos hj
   have HDE:=hid (And.intro hDe (And.intro haen (And.intro hSon hbe)))
   have HK79:=hid (HK78.out.trans k89)
   have HR9:=hid (HR8.out.1.keep k89 (by simp))
   clear hae hDe hpe hbe k89 haen hSo hSon HLN
   obtain ⟨z,hz⟩:∃ z:Int,(lim:Int) % 600 = z:=⟨_,rfl⟩
   have hzb:0 ≤ z ∧ z < 600:=by omega
   have hzt:(lim:Int).tmod 600 = z:=by rw [Int.tmod_eq_emod_of_nonneg (by omega)]; exact hz
   have ez:IntKind.u16.wrap z = z:=by rw [IntKind.wrap_u16]; omega
   have ez2:IntKind.i64.wrap z = z:=IntWalk.i64_in _ (by omega)
   have HZB:=hid hzb
   have HD9:=hid (HK79.out.at (HK57.out.at HD5.out (by simp)) (by simp))
   have HSH9:=hid (HSH7.out.keep0 HK79.out)
   have hdbd:db ≠ a.d:=by have h1:=(HWB.out a.d (by simp)).2; have h2:=HZ4.out; omega
   have HDC:=hid (fun (w':World) (hk:Keeps [a.d] w9 w') => (hk.at HD9.out (by simpa using hdbd)).cell 0 rfl)
   have HPOW:=hid (fun (w':World) (pn:Nat) (hk:Keeps [] w9 w') (hp:At w' pn (powO z 0)) => power_at w' p pn a (-1) u1 z S1 (HSH9.out.pw.keep0 hk) hp (.inr HZB.out.1))
   clear hzb
   go_upto_region 19 with fail
   have kk:Keeps [] w9 w9.drew:=(Keeps.refl [] w9).drew
   go_region_held3 (fun w' => w'.cell? ⟨db,0,none⟩ = some (ptr a.d))
    (first | exact HDC.out _ (kk.mono (by simp)) | exact HDC.out _ ((kk.mono (by simp)).trans hk11))
    (first
      | (go_at_call 30; refine (HPOW.out _ _ kk hpn).mono ?_; rintro e w11 ⟨rfl,hP11,hk11⟩)
      | (go_at_call 31; refine (new_at _ _).mono ?_; rintro e w10 ⟨rfl,hpn,hsz10,hk10⟩; have kk:=kk.trans hk10))
   rename_i hHd
   clear hHd
   have hpn:w9.heap.size ≤ w9.drew.heap.size:=Nat.le_refl _
   obtain ⟨pn,hpnq⟩:∃ pn,pn = w9.drew.heap.size:=⟨_,rfl⟩
   rw [← hpnq] at hP11
   have hpn9:w9.heap.size ≤ pn:=by rw [hpnq]; exact hpn
   have HPN:=hid hpn9
   have hK11:Keeps [a.d] w9 w11:=(kk.mono (by simp)).trans hk11
   have HK11:=hid hK11
   have hG11:ShutL pn a z 0 S1 q c 0 w11:=shutL_power HSH9.out hP11 hK11
   have hoff9:∀ b,b < w9.heap.size → b ≠ a.d → b ∉ a.d :: q.bl pn a ∨ True:=fun _ _ _ => .inr trivial
   have hne9:sb ∉ [a.d] ∧ cb ∉ [a.d] ∧ bb ∉ [a.d] ∧ sbx ∉ [a.d] ∧ g8 ∉ [a.d]:=by
    have h1:=(HWB.out a.d (by simp)).2
    have h2:=HZ4.out
    have h3:=HSBD.out
    have h4:=HSX.out
    have h5:=HR8.out.2.1
    have h6:=HK5.out.size
    have h7:=HK56.out.size
    have h8:=HK57.out.size
    simp only [List.mem_cons,List.not_mem_nil,or_false,not_or] at h3 ⊢
    omega
   have hC11:=hK11.at (HK79.out.at (HK57.out.at HC5.out (by simp)) (by simp)) hne9.2.1
   have hB11:=hK11.at (HK79.out.at (HK57.out.at HB5.out (by simp)) (by simp)) hne9.2.2.1
   have hb11:=hK11.at (HK79.out.at (HK57.out.at HSB5.out (by simp)) (by simp)) hne9.1
   have hs11:=hK11.at (HK79.out.at HS7.out (by simp)) hne9.2.2.2.1
   have hd11:=hK11.at HD9.out (by simpa using hdbd)
   have hR11:=HR9.out.keep hK11 (fun b off h => by cases h; exact hne9.2.2.2.2)
   have HRUN:=hid (run_any 33 #[ptr db,ptr cb,ptr sbx] w11 _ _ (fun _ => by simp [go_sem]) (cut15_at w11 pn a z 0 S1 q c us rs os db cb sbx hd11 hC11 hs11 hG11 (HHP.out.same HN.out fun j _ _ => congrFun H1.out.1 j) ((HOK.out [] (by simp) (by simp)).same (p:=pn) (T:=S1) rfl fun j _ => congrFun H1.out.1 j) (by omega) (by have:=HZB.out; omega) fun j _ hj => H1.out.2.1 j hj))
   have HX11:=hid (And.intro hC11 (And.intro hB11 (And.intro hb11 (And.intro hs11 (And.intro hd11 hR11)))))
   clear hG11 hC11 hB11 hb11 hs11 hd11 hR11 hP11 hK11 hk11 kk hk10 hsz10 hpnq hpn9 hpn hoff9
   go_wp2_with fail
   refine HRUN.out.mono ?_
   intro e w12 hrun
   have hend:∃ whole,e = .returned (.bool whole) ∧ EndC pn a z S1 q c us rs w11 w12:=by
    rcases hrun with ⟨rfl,h⟩ | ⟨rfl,wx,h,rfl⟩
    ·exact ⟨true,rfl,h⟩
    ·exact ⟨false,rfl,h.alloc _⟩
   obtain ⟨whole,rfl,P,u12,S12,hPk,e2,e3,e4,e5,e6,e7,e8,hP12,hu12,hk12,hLI⟩:=hend
   obtain ⟨r13,m13,pl,wd,K,hr13,hI13,hK13⟩:=hLI (fun i => chV bits i % 3)
   have hoff:∀ b,(b ∈ [db,cb,bb,sb,sbx,g8,ae.d,ae.s,ae.k,ae.m] ∨ b ∈ blkL x) → b ∉ a.d :: q.bl pn a:=by
    have g1:=(HWB.out a.d (by simp)).2
    have g2:=(HWB.out a.s (by simp)).2
    have g3:=(HWB.out a.k (by simp)).2
    have g4:=(HWB.out a.m (by simp)).2
    have h6:=HSH.out.lts
    have j1:=h6 q.b (by simp [Sc.bl])
    have j2:=h6 q.lb (by simp [Sc.bl])
    have j3:=h6 q.rb (by simp [Sc.bl])
    have j4:=h6 q.ub (by simp [Sc.bl])
    have hbl:=fun (b:Nat) (h:b ∈ a.d :: q.bl pn a) => bl15 (w3:=w3.heap.size) (w5:=w5.heap.size) (w6:=w6.heap.size) (w9:=w9.heap.size) ⟨g1,g2,g3,g4⟩ HQ.out ⟨j1,j2,j3,j4⟩ HPN.out h
    have h67:w6.heap.size ≤ w9.heap.size:=by
     have h1:=HSX.out
     have h2:=HS7.out.lt
     have h3:=HK79.out.size
     clear g1 g2 g3 g4 j1 j2 j3 j4
     omega
    have hord:w3.heap.size ≤ w4.heap.size ∧ w4.heap.size ≤ w5.heap.size ∧ w5.heap.size ≤ w6.heap.size ∧ w6.heap.size ≤ w9.heap.size:=⟨HK34.out.size,HK5.out.size,HK56.out.size,h67⟩
    intro b hb h
    refine ap15 (b:=b) (a:=a) hord ?_ (hbl b h)
    clear hbl h g1 g2 g3 g4 h6 j1 j2 j3 j4 h67
    have k5:=HZ4.out
    have k7:=HSX.out
    have k8:=HR8.out.2.1
    have k1:=HS7.out.lt
    have k2:=HK78.out.size
    have k3:=HK79.out.size
    obtain ⟨_,_,o3,o4⟩:=hord
    rcases hb with hb | hb
    ·simp only [List.mem_cons,List.not_mem_nil,or_false] at hb
     rcases hb with rfl | rfl | rfl | rfl | rfl | rfl | hb
     ·exact .inr (.inl (by omega))
     ·exact .inr (.inl (by omega))
     ·exact .inr (.inl (by omega))
     ·refine .inl ⟨HSB3.out.lt,fun h => HSBD.out ?_⟩
      simp only [List.mem_cons,List.not_mem_nil,or_false] at h ⊢
      rcases h with h | h | h | h <;> simp [h]
     ·exact .inr (.inr (by omega))
     ·refine .inr (.inr ⟨by omega, ?_⟩)
      rcases HR9.out with h | ⟨b',o',e1,e2,_⟩
      ·have:=(c_in HO.out HN.out).1; omega
      ·cases e1; exact e2
     ·have k4:=HDE.out.2.2.2
      have k6:=HDE.out.1.dev.lt
      have k9:=HDE.out.1.now.lt
      have l1:=HDE.out.1.kept.lt
      have l2:=HDE.out.1.map.lt
      refine .inr (.inr ?_)
      rcases hb with rfl | rfl | rfl | rfl
      ·exact ⟨by omega,k6⟩
      ·exact ⟨by omega,k9⟩
      ·exact ⟨by omega,l1⟩
      ·exact ⟨by omega,l2⟩
    ·refine .inl ⟨(HU.out.ge b hb).2,fun h => HXB.out b hb ?_⟩
     simp only [List.mem_cons,List.not_mem_nil,or_false] at h ⊢
     rcases h with h | h | h | h <;> simp [h]
   have HOFF:=hid hoff
   have hoq:∀ b,(b ∈ [db,cb,bb,sb,sbx,g8,ae.d,ae.s,ae.k,ae.m] ∨ b ∈ blkL x) → b ∉ q.bl pn a:=fun b hb h => hoff b hb (List.mem_cons_of_mem _ h)
   have ho4:∀ b,(b ∈ [db,cb,bb,sb,sbx,g8,ae.d,ae.s,ae.k,ae.m] ∨ b ∈ blkL x) → b ∉ [a.d,a.s,a.k,a.m]:=fun b hb h => hoff b hb (by unfold Sc.bl; simp only [List.mem_cons,List.not_mem_nil,or_false] at h ⊢; rcases h with h | h | h | h <;> simp [h])
   have HO4:=hid ho4
   have hX11:=HX11.out
   have hC12:=hk12.at hX11.1 (hoq _ (.inl (by simp)))
   have hB12:=hk12.at hX11.2.1 (hoq _ (.inl (by simp)))
   have hb12:=hk12.at hX11.2.2.1 (hoq _ (.inl (by simp)))
   have hd12:=hk12.at hX11.2.2.2.2.1 (hoq _ (.inl (by simp)))
   have hR12:=hX11.2.2.2.2.2.keep hk12 (fun b off h => by cases h; exact hoq _ (.inl (by simp)))
   have hDe12:Dev w12 pe ae So:=by
    have h1:=HDE.out.1.keep HK11.out (fun h => HOFF.out ae.d (.inl (by simp)) (by simp at h; simp [h])) (fun h => HOFF.out ae.s (.inl (by simp)) (by simp at h; simp [h])) (fun h => HOFF.out ae.k (.inl (by simp)) (by simp at h; simp [h])) (fun h => HOFF.out ae.m (.inl (by simp)) (by simp at h; simp [h]))
    exact h1.keep hk12 (hoq _ (.inl (by simp))) (hoq _ (.inl (by simp))) (hoq _ (.inl (by simp))) (hoq _ (.inl (by simp)))
   have hU12:OwnU w12 B x cp c.roots (fun j => lnkG c os G mn 0 (refL os + j)):=by
    have h1:=HU.out.keep HK34.out (by simp)
    have h2:=h1.keep HK5.out (fun b hb h => HXB.out b hb (by simp only [List.mem_cons,List.not_mem_nil,or_false] at h ⊢; rcases h with h | h | h | h <;> simp [h]))
    have h3:=((h2.keep HK57.out (by simp)).keep HK79.out (by simp)).keep HK11.out (fun b hb h => HOFF.out b (.inr hb) (by simp at h; simp [h]))
    exact h3.keep hk12 fun b hb => hoq b (.inr hb)
   have HX12:=hid (And.intro hC12 (And.intro hB12 (And.intro hd12 (And.intro hR12 (And.intro hDe12 hU12)))))
   have HW12:Hid (Keeps [] W w12):=by
    have h1:Keeps [] W w5:=HK4.out.new HK5.out fun b hb => .inr (HWB.out b (by simp only [List.mem_cons,List.not_mem_nil,or_false] at hb ⊢; rcases hb with h | h | h | h <;> simp [h])).1
    have h2:=((h1.trans HK57.out).trans HK79.out).new HK11.out fun b hb => .inr (by rw [List.mem_singleton.1 hb]; exact (HWB.out a.d (by simp)).1)
    refine h2.new hk12 fun b hb => .inr ?_
    have g1:=(HWB.out a.s (by simp)).1
    have g2:=(HWB.out a.k (by simp)).1
    have g3:=(HWB.out a.m (by simp)).1
    have g4:=HQ.out
    have g5:=HPN.out
    have g6:=(h1.trans HK57.out).trans HK79.out
    have g7:=g6.size
    have g8':=h1.size
    unfold Sc.bl at hb
    simp only [List.mem_cons,List.not_mem_nil,or_false] at hb
    omega
   have HCR:=hid (crash_plain w12 pn a S12 hP12.dev 35 #[ptr sb] (chV bits) [sb] _ (flipCut2_chooser sb bits a.n (by have:=HNB.out; omega)) hb12 (by
    have:=ho4 sb (.inl (by simp))
    simp at this ⊢
    omega) (by simp; exact hb12.lt))
   have HP12:=hid hP12
   have HI13:=hid hI13
   have HPF:=hid (And.intro hPk (And.intro e2 (And.intro e3 (And.intro e4 (And.intro e5 (And.intro e6 (And.intro e7 (And.intro e8 (And.intro hr13 hu12)))))))))
   clear hrun hLI hI13 hoff hoq ho4 hX11 hC12 hB12 hb12 hR12 hDe12 hU12 hP12 hk12 hPk e2 e3 e4 e5 e6 e7 e8 hr13 hu12 HRUN
   have d0:=hd12.cell 0 rfl
   clear hd12
   go_wp2_with fail
   refine HCR.out.mono ?_
   rintro e w13 ⟨rfl,hD13,_,hk13⟩
   have hP13:Pw w13 pn a z u12 (crashed S12 fun i => chV bits i % 3):=HP12.out.broken hD13 hk13
   have E13:Keeps [a.d,a.s,a.k,a.m] w12 w13:=hk13.mono (by intro k _ hk; simp at hk ⊢; omega)
   obtain ⟨S13,hS13⟩:∃ S',S' = crashed S12 fun i => chV bits i % 3:=⟨_,rfl⟩
   rw [← hS13] at hP13 HI13
   have HE13:=hid E13
   have HD13:=hid (E13.at HX12.out.2.2.1 (HO4.out _ (.inl (by simp))))
   have HDC3:=hid (fun (w':World) (hk:Keeps [a.d] w13 w') => (hk.at HD13.out (by have:=HO4.out db (.inl (by simp)); simp at this ⊢; omega)).cell 0 rfl)
   have HPO3:=hid (fun (w':World) (qn:Nat) (hk:Keeps [] w13 w') (hp:At w' qn (powO (-1) 0)) => power_at w' pn qn a z u12 (-1) S13 (hP13.keep0 hk) hp (.inl (by omega)))
   clear hD13 hk13 hP13 hS13 d0 E13
   go_upto_region 22 with fail
   have kk:Keeps [] w13 w13.drew:=(Keeps.refl [] w13).drew
   go_region_held3 (fun w' => w'.cell? ⟨db,0,none⟩ = some (ptr a.d))
    (first | exact HDC3.out _ (kk.mono (by simp)) | exact HDC3.out _ ((kk.mono (by simp)).trans hk15))
    (first
      | (go_at_call 30; refine (HPO3.out _ _ kk hpn).mono ?_; rintro e w15 ⟨rfl,hP15,hk15⟩)
      | (go_at_call 31; refine (new_at _ _).mono ?_; rintro e w14 ⟨rfl,hpn,hsz14,hk14⟩; have kk:=kk.trans hk14))
   rename_i hHd
   clear hHd
   obtain ⟨qn,hqn⟩:∃ qn,qn = w13.drew.heap.size:=⟨_,rfl⟩
   rw [← hqn] at hP15
   have hqn12:w12.heap.size ≤ qn:=by rw [hqn]; exact HE13.out.size
   have E15:Keeps [a.d,a.s,a.k,a.m] w12 w15:=(HE13.out.trans (kk.mono (by simp))).trans (hk15.mono (by intro k _ hk; simp at hk ⊢; omega))
   have hC15:=E15.at HX12.out.1 (HO4.out _ (.inl (by simp)))
   have hD15:=E15.at HX12.out.2.2.1 (HO4.out _ (.inl (by simp)))
   have HOP:=hid (open_li hP15 HO.out HN.out HI13.out.1 (by have:=HPF.out.2.2.2.2.2.2.2.2; omega))
   have HE15:=hid E15
   have HQN:=hid hqn12
   have d0:=hD15.cell 0 rfl
   have c0:=hC15.cell 0 rfl
   have c1:=hC15.cell 1 rfl
   have c2:=hC15.cell 2 rfl
   clear hP15 hk15 hpn hsz14 hk14 kk hqn hqn12 E15 hC15 hD15 HDC3 HPO3
   go_wp2_with fail
   refine HOP.out.mono ?_
   rintro e w16 ⟨lb2,rfl,hlb2,hL16,hk16⟩
   have HM13:=hid HI13.out.1.le
   have HGD:=hid (good_at hL16 HO.out.small HM13.out (c_in HO.out HN.out).1)
   have HL16:=hid hL16
   have HE16:=hid (HE15.out.trans (hk16.mono (by simp)))
   have HLB2:Hid (w12.heap.size ≤ lb2):=Nat.le_trans HE15.out.size hlb2
   clear hlb2 hL16 hk16 d0 c0 c1 c2 HOP
   go_wp2_with fail
   refine HGD.out.mono ?_
   rintro e w17 ⟨rb,rfl,hk17,hga⟩
   obtain rfl:rb = -1:=HI13.out.1.good_ans (by have:=HNB.out; omega) hga
   have HL17:=hid (HL16.out.keep0 hk17)
   have HE17:=hid (HE16.out.trans (hk17.mono (by simp)))
   have HUN:=hid (undo_li HL17.out HO.out HN.out HI13.out.1 (by have:=HPF.out; omega))
   clear hga hk17 HGD
   go_wp2_with fail
   refine HUN.out.mono ?_
   intro e w18 hr18
   obtain ⟨rfl,hL18,hk18⟩:=hr18.free HL17.out.pw.lo
   have hcl:=(undS_done (st:=false) HI13.out).clean
   obtain ⟨T,hT⟩:∃ T,T = execs S13 (undS c false pl wd m13 (eN 1 r13)):=⟨_,rfl⟩
   rw [← hT] at hL18 hcl
   have hDT:=hL18.pw.dev
   have hE18:Keeps [a.d,a.s,a.k,a.m] w12 w18:=HE17.out.new hk18 (by have:=HQN.out; have:=HLB2.out; simp; omega)
   obtain ⟨kk,uu,ox,hF18⟩:=fnd15 (T:=T) (S1:=S1) (So:=So) (os:=os) HN.out (HHP.out.same HN.out fun j _ _ => congrFun H1.out.1 j) HPF.out.1 HPF.out.2.1 HPF.out.2.2.1 HPF.out.2.2.2.1 HPF.out.2.2.2.2.1 HPF.out.2.2.2.2.2.1 HPF.out.2.2.2.2.2.2.1 HPF.out.2.2.2.2.2.2.2.1 HDE.out.2.2.1 (fun j h1 h2 => (hcl j h1 h2).1) hK13
   have HFN:=hid hF18
   have HDT:=hid hDT
   have HE18:=hid hE18
   have HC18:=hid (hE18.at HX12.out.1 (HO4.out _ (.inl (by simp))))
   have HB18:=hid (hE18.at HX12.out.2.1 (HO4.out _ (.inl (by simp))))
   have HD18:=hid (hE18.at HX12.out.2.2.1 (HO4.out _ (.inl (by simp))))
   clear hr18 hL18 hk18 hcl hT hDT hE18 hF18 hK13 HUN HI13
   have HRD:=hid (rread_at w18 qn a T c HDT.out HO.out HN.out (by rw [HFN.out.act]; omega) (by rw [HFN.out.used]; omega))
   have d0:=HD18.out.cell 0 rfl
   have c0:=HC18.out.cell 0 rfl
   have c1:=HC18.out.cell 1 rfl
   have c2:=HC18.out.cell 2 rfl
   go_wp2_with fail
   refine HRD.out.mono ?_
   rintro e w19 (⟨h9,rfl,hk9⟩ | ⟨k1,u1',x7,cp7,hk1,hu1,hA1,hU1,rfl,hO7,hk19⟩)
   ·rw [HFN.out.act,HFN.out.used] at h9
    have:=HFN.out.fits
    have:=HFN.out.k1
    omega
   obtain rfl:k1 = kk:=by have:=HFN.out.act; omega
   obtain rfl:u1' = uu:=by have:=HFN.out.used; omega
   have HO19:=hid hO7
   have HK19:=hid hk19
   clear hk1 hu1 hA1 hU1 hO7 hk19 d0 c0 c1 c2 HRD
   go_upto_region 28 with fail
   have hX20:=At.new w19 (bkO (k1:Nat) (u1':Nat) (.slice x7 c.roots cp7))
   have k20:=(Keeps.refl [] w19).alloc (bkO (k1:Nat) (u1':Nat) (.slice x7 c.roots cp7))
   obtain ⟨nb,hnbq⟩:∃ nb,nb = w19.heap.size:=⟨_,rfl⟩
   obtain ⟨w20,hw20⟩:∃ w20,w20 = w19.alloc (bkO (k1:Nat) (u1':Nat) (.slice x7 c.roots cp7)):=⟨_,rfl⟩
   rw [← hnbq]
   rw [← hnbq] at hX20
   rw [← hw20] at hX20 k20 ⊢
   have HX20:=hid hX20
   have HK20:=hid (HK19.out.trans k20)
   have HK1920:=hid k20
   clear hw20 hnbq hX20 k20
   have HDT20:=hid (HDT.out.keep HK20.out (by simp) (by simp) (by simp) (by simp))
   have HCK:=hid (check12_at w20 qn a T c HDT20.out HO.out HN.out k1 u1' ox false HFN.out.k1 HFN.out.act HFN.out.used HFN.out.chn HFN.out.wd)
   rw [HFN.out.ok] at HCK
   have HCW:Hid (∀ w',Calls Tryz.prog 40 #[cfgV c] w' fun e w'' => e = .returned (.int .i64 (a.n:Nat)) ∧ Keeps [] w' w''):=fun w' => by
    have:=cwords_at w' c HO.out.small
    rwa [HN.out] at this
   have HC20:=hid (HK20.out.at HC18.out (by simp))
   have HD20:=hid (HK20.out.at HD18.out (by simp))
   have d0:=HD20.out.cell 0 rfl
   have c0:=HC20.out.cell 0 rfl
   have c1:=HC20.out.cell 1 rfl
   have c2:=HC20.out.cell 2 rfl
   go_wp2_with fail
   refine HCK.out.mono ?_
   rintro e w21 ⟨rfl,hk21⟩
   have HK21:=hid (HK20.out.trans hk21)
   have HK2021:=hid hk21
   have HC21:=hid (hk21.at HC20.out (by simp))
   clear hk21 c0 c1 c2 d0 HCK
   have c0:=HC21.out.cell 0 rfl
   have c1:=HC21.out.cell 1 rfl
   have c2:=HC21.out.cell 2 rfl
   go_wp2_with fail
   refine (HCW.out _).mono ?_
   rintro e w22 ⟨rfl,hk22⟩
   have HK22:=hid (HK21.out.trans hk22)
   have HK2022:=hid (HK2021.out.trans hk22)
   have hX22:=HK2022.out.at HX20.out (by simp)
   have hB22:=HK22.out.at HB18.out (by simp)
   have n0:=hX22.cell 0 rfl
   have b0:=hB22.cell 0 rfl
   have HXB22:=hid (And.intro hX22 hB22)
   clear hk22 c0 c1 c2 hX22 hB22
   have hk01:k1 = 0 ∨ k1 = 1:=by have:=HFN.out.k1; omega
   have HWE:Hid (Keeps [] W w22):=(HW12.out.new HE18.out fun b hb => .inr (HWB.out b (by simp only [List.mem_cons,List.not_mem_nil,or_false] at hb ⊢; rcases hb with h | h | h | h <;> simp [h])).1).trans HK22.out
   rcases hk01 with rfl | rfl
   ·have HD22:=hid (HK22.out.at HD18.out (by simp))
    have HC22:=hid (HK22.out.at HC18.out (by simp))
    have HDT22:=hid (HDT.out.keep HK22.out (by simp) (by simp) (by simp) (by simp))
    have HWD3:=hid (words_at w22 qn a T HDT22.out)
    have d0:=HD22.out.cell 0 rfl
    go_wp2_with fail
    refine HWD3.out.mono ?_
    rintro e w23 ⟨v23,rfl,hv23,k23⟩
    obtain ⟨g23,cap23,rfl,hg23,_,hcap23,hR23⟩:=hv23.reads
    have HR23:=hid hR23
    have HR8b:=hid ((HX12.out.2.2.2.1.keep HE18.out (fun b off h => by cases h; exact HO4.out _ (.inl (by simp)))).keep (HK22.out.trans k23) (by simp))
    have HK23:=hid k23
    have hc8:=HR8.out.2.2
    have ha1:=(places HO.out).1
    have haf:c.act ≤ c.frm 1:=by have:=@frm_ge c 1; omega
    have hfn:c.frm 1 + c.space ≤ a.n:=by rw [← HN.out]; exact frm_space 1 (by omega)
    have hsp8:8 ≤ c.space:=HO.out.2.2.2.2.1
    have hFi:=frm_le HO.out.small (show 1 ≤ 2 by omega)
    have HACT:Hid (∀ w',Calls Tryz.prog 41 #[cfgV c] w' fun e w'' => e = .returned (.int .i64 (c.act:Nat)) ∧ Keeps [] w' w''):=fun w' => active_at w' c HO.out.small
    obtain ⟨F1,hF1q⟩:∃ F1,F1 = c.frm 1:=⟨_,rfl⟩
    obtain ⟨A1,hA1q⟩:∃ A1,A1 = c.act:=⟨_,rfl⟩
    have HFR:Hid (∀ w',Calls Tryz.prog 42 #[cfgV c, .int .i64 1] w' fun e w'' => e = .returned (.int .i64 (F1:Nat)) ∧ Keeps [] w' w''):=fun w' => by
     rw [hF1q]
     exact from_at w' c HO.out.small 1 (by omega)
    rw [← hA1q] at HACT
    have HOLD:Hid (∀ j,A1 ≤ j → j < F1 → T.now j = S1.now j):=by rw [hA1q,hF1q]; exact HFN.out.old rfl
    rw [← hF1q] at haf hfn hFi
    rw [← hA1q] at haf
    have hs1:=fun w => run_sub w g23 a.n cap23 A1 F1 haf (by omega) (by omega) (F1:Int) rfl
    have hs2:=fun w => run_sub w g8 a.n cap8 A1 F1 haf (by omega) (by omega) (F1:Int) rfl
    have HSUB:Hid (∀ w',Keeps [] w23 w' → Reads w' (some ⟨g23,A1,none⟩) (F1 - A1) (fun i => T.now (A1 + i)) ∧ Reads w' (some ⟨g8,A1,none⟩) (F1 - A1) (fun i => S1.now (A1 + i))):=fun w' hk => by
     refine ⟨?_, ?_⟩
     ·rcases HR23.out.keep hk (by simp) with h | ⟨b,o,h1,h2,h3⟩
      ·omega
      ·cases h1
       refine .inr ⟨g23,A1,rfl,h2,fun i hi => ?_⟩
       have h4:=h3 (A1 + i) (by omega)
       rw [Nat.zero_add] at h4
       exact h4
     ·rcases HR8b.out.keep hk (by simp) with h | ⟨b,o,h1,h2,h3⟩
      ·omega
      ·cases h1
       refine .inr ⟨g8,A1,rfl,h2,fun i hi => ?_⟩
       have h4:=h3 (A1 + i) (by omega)
       rw [Nat.zero_add] at h4
       exact h4
    have HCC:=hid (fun (w':World) (hk:Keeps [] w23 w') => show w'.cell? ⟨cb,0,none⟩ = some (.int .i64 c.log) ∧ w'.cell? ⟨cb,1,none⟩ = some (.int .i64 c.roots) ∧ w'.cell? ⟨cb,2,none⟩ = some (.int .i64 c.space) from by
     have h3:=(HK23.out.trans hk).at HC22.out (by simp)
     exact ⟨h3.cell 0 rfl,h3.cell 1 rfl,h3.cell 2 rfl⟩)
    have hAi:(A1:Int) ≤ 20000:=by omega
    have hFii:(F1:Int) ≤ 20000:=by omega
    have HU2:Hid (F1 - A1 ≤ 35184372088832):=by show _ ≤ _; omega
    have HEQ2:Hid (∀ i,i < F1 - A1 → T.now (A1 + i) = S1.now (A1 + i)):=fun i hi => HOLD.out _ (by omega) (by omega)
    have HWE3:=hid (HWE.out.trans k23)
    clear hv23 hR23 k23 hcap23 hg23 hc8 ha1 haf hfn hsp8 hFi hF1q hA1q d0 n0 b0
    go_upto_region 32 with fail
    have kk:Keeps [] w23 w23.drew:=(Keeps.refl _ _).drew
    go_region_held3 (fun w' => w'.cell? ⟨cb,0,none⟩ = some (.int .i64 c.log) ∧ w'.cell? ⟨cb,1,none⟩ = some (.int .i64 c.roots) ∧ w'.cell? ⟨cb,2,none⟩ = some (.int .i64 c.space))
     (exact HCC.out _ kk)
     (first
       | (go_at_call 42; refine (HFR.out _).mono ?_; rintro e w' ⟨rfl,hk9⟩; have kk:=kk.trans hk9; clear hk9)
       | (go_at_call 41; refine (HACT.out _).mono ?_; rintro e w' ⟨rfl,hk9⟩; have kk:=kk.trans hk9; clear hk9)
       | (go_at_call 40; refine (HCW.out _).mono ?_; rintro e w' ⟨rfl,hk9⟩; have kk:=kk.trans hk9; clear hk9)
       | (go_at_call 26; refine (equal_true _ _ _ (F1 - A1) _ _ _ _ (HSUB.out _ kk).1 (HSUB.out _ kk).2 HEQ2.out HU2.out).mono ?_; rintro e w' ⟨rfl,hk9⟩; have kk:=kk.trans hk9; clear hk9))
    all_goals
     rename_i hHd
     clear hHd
     have HEN:=hid ((HWE3.out.trans kk).below (Nat.le_refl _) (by simp))
     clear kk
     go_wp2_with fail
     go_ret
     exact ⟨rfl,HEN.out⟩
   ·obtain ⟨LS,PS,hSam,hLS,hpr,hpos⟩:=HFN.out.new rfl
    have hrl:rs.length = c.roots:=HHP.out.rl
    have HD22:=hid (HK22.out.at HD18.out (by simp))
    have HC22:=hid (HK22.out.at HC18.out (by simp))
    have hDe22:=((HX12.out.2.2.2.2.1.keep HE18.out (HO4.out _ (.inl (by simp))) (HO4.out _ (.inl (by simp))) (HO4.out _ (.inl (by simp))) (HO4.out _ (.inl (by simp)))).keep HK22.out (by simp) (by simp) (by simp) (by simp))
    have hU22:=((HX12.out.2.2.2.2.2.keep HE18.out (fun b hb => HO4.out b (.inr hb))).keep HK22.out (by simp)).eq (g:=fun i => ((rs.getD i 0:Nat):Int)) fun j hj => by
     rw [← HFF.out.root j hj,HHP.out.root j hj]
    have hO22:=(HO19.out.keep (HK1920.out.trans HK2022.out) (by simp)).eq (g:=fun i => (((T.now (c.root i)).toNat:Nat):Int)) fun j hj => by
     have:=hpos j hj
     show T.now (c.root j) = (((T.now (c.root j)).toNat:Nat):Int)
     omega
    have HSM:=hid (same14_at w22 pe ae So hDe22 qn a T (HDT.out.keep HK22.out (by simp) (by simp) (by simp) (by simp)) c HO.out (by rw [HDE.out.2.1]; exact HN.out) HN.out 0 us 1 u1' (by omega) (by omega) HHP.out.us HFN.out.fits (.slice x c.roots cp) (.slice x7 c.roots cp7)
     (fun j h1 h2 => by
       have h3:=HHP.out.us
       have h4:=frm_space (c:=c) 0 (by omega)
       have h5:=HN.out
       rw [HDE.out.2.2.1 j (by omega),H1.out.1]
       exact HHP.out.wd.sp j h1 (by omega)) (fun j h1 h2 => HFN.out.wd.2 j h1 (by have:=HFN.out.fits; omega)) LS PS hSam hLS x c.roots cp (fun i => rs.getD i 0) (fun i => (T.now (c.root i)).toNat) hU22.rd x7 cp7 hO22.rd (by have:=HO.out.2.1; omega) hpr)
    clear hSam hLS hpr hpos hDe22 hU22 hO22 hrl n0 b0
    have d0:=HD22.out.cell 0 rfl
    have c0:=HC22.out.cell 0 rfl
    have c1:=HC22.out.cell 1 rfl
    have c2:=HC22.out.cell 2 rfl
    have n0:=HXB22.out.1.cell 0 rfl
    have n1:=HXB22.out.1.cell 1 rfl
    have n2:=HXB22.out.1.cell 2 rfl
    have b0:=HXB22.out.2.cell 0 rfl
    have b1:=HXB22.out.2.cell 1 rfl
    have b2:=HXB22.out.2.cell 2 rfl
    go_wp2_with fail
    refine HSM.out.mono ?_
    rintro e w23 ⟨rfl,hk23⟩
    have HEN:=hid ((HWE.out.trans hk23).below (Nat.le_refl _) (by simp))
    clear hk23
    go_wp2_with fail
    go_ret
    exact ⟨rfl,HEN.out⟩
theorem flipCut_walk (l r s:Int) (y:Option Addr) (m cm:Nat) (z:Nat → Nat → Int) (y1:Option Addr) (mn cn:Nat) (g:Nat → Int) (lim:Int) (bits:Int) (W:World) (wl:(Lit.int .u16 l).wf = true) (wr:(Lit.int .u16 r).wf = true) (ws:(Lit.int .u16 s).wf = true)
  (R2:m * 2 = 0 ∨ ∃ b off,y = some ⟨b,off,none⟩ ∧ b < W.heap.size ∧ ∀ i j,i < m → j < 2 → W.cell? ⟨b,off + (i * 2 + j),none⟩ = some (.int ((fun j => if j = 0 then IntKind.u8 else IntKind.u8) j) (z i j)) ∧ (Lit.int ((fun j => if j = 0 then IntKind.u8 else IntKind.u8) j) (z i j)).wf = true) (hm:m ≤ maxLen)
  (R:ReadsV (Value.int .u16) W y1 mn g) (hg:∀ i,i < mn → (Lit.int .u16 (g i)).wf = true) (hmn:mn ≤ maxLen) (wlim:(Lit.int .u16 lim).wf = true) (_:(Lit.int .u64 bits).wf = true) :
  Calls Tryz.prog 4 #[.agg #[.int .u16 l, .int .u16 r, .int .u16 s], .slice y m cm, .slice y1 mn cn, .int .u16 lim, .int .u64 bits] W fun e w' => e = .returned (.bool true) ∧ Below W.heap.size W w':=by
 obtain ⟨l,rfl,hl⟩:=c3_open wl
 obtain ⟨r,rfl,hr⟩:=c3_open wr
 obtain ⟨s,rfl,hs⟩:=c3_open ws
 have hbl:=bounds_u16 wlim
 obtain ⟨lim,rfl⟩:∃ k:Nat,(k:Int) = lim:=⟨lim.toNat,by omega⟩
 exact fcut_small l r s y m cm _ _ y1 mn cn _ lim bits W hl hr hs (readsH_of R2) (by unfold maxLen at hm; omega) (reads16_any R hg) (by unfold maxLen at hmn; omega) (by omega)
end Go.Proofs.YtaidmbdkbjgojaaGreat
