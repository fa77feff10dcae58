import Derived.Test.YtaidmbdkbjgojaaGreatCo15
import Derived.BigQuiet
import Derived.Deep.RegionHeld3
import Derived.Test.YtaidmbdkbjgojaaGreatSam
import Derived.Deep.RegionLaw
namespace Go.Proofs.YtaidmbdkbjgojaaGreat
open Go.RowKit Go.OpenShut
set_option maxRecDepth 100000 in
set_option maxHeartbeats 8000000 in
theorem fcoll_small (l r s:Nat) (y0:Option Addr) (m cm:Nat) (R V:Nat → Nat) (y1:Option Addr) (mn cn:Nat) (G:Nat → Nat) (y2:Option Addr) (mf cf:Nat) (H:Nat → Nat) (tm:Nat) (W:World) (hl:l ≤ 65535) (hrr:r ≤ 65535) (hs:s ≤ 65535)
  (hy:ReadsH W y0 m R V) (hm:m ≤ 9223372036854775807) (hg:ReadsW W y1 mn G) (hmn:mn ≤ 9223372036854775807) (hh:ReadsW W y2 mf H) (hmf:mf ≤ 9223372036854775807) (htm:tm ≤ 255) :
  Calls Tryz.prog 3 #[c3V l r s, .slice y0 m cm, .slice y1 mn cn, .slice y2 mf cf, .int .u8 (tm:Nat)] W fun e w' => e = .returned (.bool true) ∧ Below W.heap.size W w':=by
 have hmi:(m:Int) ≤ 9223372036854775807:=by omega
 have hmni:(mn:Int) ≤ 9223372036854775807:=by omega
 have HG:=hid hg
 have HY:=hid hy
 clear hg hy
 have hmfi:(mf:Int) ≤ 9223372036854775807:=by omega
 have HH:=hid hh
 clear hh
 have HTM:=hid htm
 have htmi:(tm:Int) ≤ 255:=by omega
 go_enter Tryz.func3,Tryz.ntmps3
 go_wp2_with fail
 have h_xb:=At.new W (c3O l r s)
 have K0:=(Keeps.refl [] W).alloc (c3O l r s)
 obtain ⟨xb,hq_xb⟩:∃ q,q = W.heap.size:=⟨_,rfl⟩
 rw [← hq_xb]
 rw [← hq_xb] at h_xb
 refine (awake15_any _).mono ?_
 rintro e w1 ⟨rfl,hb1⟩
 have k1:=Go.Proofs.YtaidmbdkbjgojaaGreat.Below.keeps hb1 []
 have K1:=K0.trans k1
 have g_xb:=k1.at h_xb (by simp)
 clear hb1 k1 K0 h_xb hq_xb
 have c0:w1.cell? ⟨xb,0,none⟩ = some (.int .u16 l):=g_xb.cell 0 rfl
 have c1:w1.cell? ⟨xb,1,none⟩ = some (.int .u16 r):=g_xb.cell 1 rfl
 have c2:w1.cell? ⟨xb,2,none⟩ = some (.int .u16 s):=g_xb.cell 2 rfl
 by_cases hm30:m ≤ 25
 case neg =>
  have g2:(25:Int) < (m:Int):=by omega
  have g3:decide ((25:Int) < (m:Int)) = true:=decide_eq_true g2
  go_wp2_with fail
  go_ret
  exact ⟨rfl,K1.below (Nat.le_refl _) (by simp)⟩
 have hm2:(m:Int) ≤ 25:=by omega
 have hm3:decide ((25:Int) < (m:Int)) = false:=decide_eq_false (by omega)
 clear hmi
 by_cases hn60:mn ≤ 60
 case neg =>
  have g2:(60:Int) < (mn:Int):=by omega
  have g3:decide ((60:Int) < (mn:Int)) = true:=decide_eq_true g2
  go_wp2_with fail
  go_ret
  exact ⟨rfl,K1.below (Nat.le_refl _) (by simp)⟩
 have h2_mn:(mn:Int) ≤ 60:=by omega
 have h3_mn:decide ((60:Int) < (mn:Int)) = false:=decide_eq_false (by omega)
 clear hmni
 by_cases hf10:mf ≤ 10
 case neg =>
  have g2:(10:Int) < (mf:Int):=by omega
  have g3:decide ((10:Int) < (mf:Int)) = true:=decide_eq_true g2
  go_wp2_with fail
  go_ret
  exact ⟨rfl,K1.below (Nat.le_refl _) (by simp)⟩
 have h2_mf:(mf:Int) ≤ 10:=by omega
 have h3_mf:decide ((10:Int) < (mf:Int)) = false:=decide_eq_false (by omega)
 clear hmfi
 have hok:=mk3_ok l r s
 obtain ⟨c,hc⟩:∃ c,c = mk3 l r s:=⟨_,rfl⟩
 rw [← hc] at hok
 obtain ⟨os,hos⟩:∃ os,os = fillL c.space (hdsL R V m):=⟨_,rfl⟩
 have HLI:=hid (linked_at w1 l r s hl hrr hs y0 m cm R V (HY.out.keep K1 (by simp)) (by omega) y1 mn cn G (HG.out.keep K1 (by simp)) (by omega) 0 (by omega) c hc os hos)
 clear hc
 go_wp2_with fail
 refine HLI.out.mono ?_
 rintro e w3 ⟨p,a,u,S,x,cp,y,cy,B,rfl,hn,hP,hub,hF,hU,hI,⟨b1,b2,b3,b4,b5⟩,hB,hk3⟩
 have K3:=K1.trans hk3
 have HO:=hid hok
 have HN:=hid hn
 obtain ⟨L,hL⟩:∃ L,L = os.length:=⟨_,rfl⟩
 have hLm:L ≤ m:=by rw [hL,hos]; exact fillL_len _ _ _ _
 have hLi:(L:Int) ≤ 30:=by omega
 have HL:=hid hL
 rw [← hL] at hI ⊢
 obtain ⟨us,hus⟩:∃ us,us = lenL os:=⟨_,rfl⟩
 have HUS:=hid hus
 rw [← hus]
 have husb:us ≤ c.space:=by rw [hus]; exact hF.fits
 have hsp:c.space ≤ 4096:=hok.small.2.2
 have husi:(us:Int) ≤ 4096:=by omega
 have hfr:=frm_le hok.small (show 0 ≤ 2 by omega)
 have hfs:c.frm 0 + c.space ≤ a.n:=by rw [← hn]; exact frm_space 0 (by omega)
 have HFS:=hid (And.intro husb (And.intro hsp (And.intro hfs hfr)))
 have HP:=hid hP
 have HI:=hid hI
 have HWB:Hid (∀ b ∈ [p,a.d,a.s,a.k,a.m],W.heap.size ≤ b ∧ b < w3.heap.size):=fun b hb' => by
  have h1:=K1.size
  have h2:=hP.pow.lt
  have h3:=hP.dev.dev.lt
  have h4:=hP.dev.now.lt
  have h5:=hP.dev.kept.lt
  have h6:=hP.dev.map.lt
  simp only [List.mem_cons,List.not_mem_nil,or_false] at hb'
  omega
 have HUB:=hid hub
 have HU:=hid hU
 have HK3:=hid K3
 have HH3:=hid (HH.out.keep K3 (by simp))
 have HFF:=hid hF
 have HIB:Hid (∀ b ∈ blkL y,b ∉ [p,a.d,a.s,a.k,a.m]):=fun b hb h => by
  have h1:=(HI.out.ge b hb).1
  simp only [List.mem_cons,List.not_mem_nil,or_false] at h
  omega
 have HXB:Hid (∀ b ∈ blkL x,b ∉ [p,a.d,a.s,a.k,a.m]):=fun b hb h => by
  have h1:=(HU.out.ge b hb).1
  simp only [List.mem_cons,List.not_mem_nil,or_false] at h
  omega
 have HL30:Hid (L ≤ 30):=by show _ ≤ _; omega
 obtain ⟨rs,hrs⟩:∃ rs:List Nat,rs = wsN c.roots fun j => lnkG c os G mn 0 (refL os + j):=⟨_,rfl⟩
 have hHp:HepS S c a.n 0 us rs os:=by
  have h:=hF.hep hok (n:=a.n)
  rw [← hrs, ← hus] at h
  exact h
 have HHP:=hid hHp
 have HOK:Hid (∀ ws:List Nat,(∀ v ∈ ws,v < 9223372036854775808) → ws.length ≤ 900 → CP.Ok ⟨p,a,S,c,0,us,rs ++ ws,rs⟩):=fun ws h1 h2 => by
  have h:=ok14 p HO.out HN.out HFF.out (nmdP_start S c os) (rs ++ ws) (fun v hv => by
   rcases List.mem_append.1 hv with h | h
   ·exact HHP.out.rb v h
   ·exact h1 v h) (by
   have h3:=HO.out.2.1
   have h4:=HHP.out.rl
   rw [List.length_append]
   omega)
  rw [← hrs, ← HUS.out] at h
  exact h
 have HRS:=hid hrs
 clear hm30 hn60 hm2 hm3 h2_mn h3_mn hos hL hLm hus husb hsp hfs hfr hF hP hub hI hU hB b1 b2 b3 b4 b5 hk3 K1 c0 c1 c2 HLI hok hn K3 g_xb hrs hHp h2_mf h3_mf
 go_upto_region 6 with fail
 have hC4:=(At.new w3 (cfgO c)).alloc (bkO 0 (us:Nat) (.slice x c.roots cp))
 have hB4:=At.new (w3.alloc (cfgO c)) (bkO 0 (us:Nat) (.slice x c.roots cp))
 have k34:=((Keeps.refl [] w3).alloc (cfgO c)).alloc (bkO 0 (us:Nat) (.slice x c.roots cp))
 simp only [World.size_alloc] at hB4
 obtain ⟨cb,hcb⟩:∃ q,q = w3.heap.size:=⟨_,rfl⟩
 obtain ⟨bb,hbb⟩:∃ q,q = w3.heap.size + 1:=⟨_,rfl⟩
 obtain ⟨w4,hw4⟩:∃ w4,w4 = (w3.alloc (cfgO c)).alloc (bkO 0 (us:Nat) (.slice x c.roots cp)):=⟨_,rfl⟩
 have hz4:w4.heap.size = w3.heap.size + 2:=by rw [hw4]; simp
 rw [← hw4] at hC4 hB4 k34
 first | rw [← hw4] | skip
 rw [← hbb, ← hcb]
 rw [← hcb] at hC4
 rw [← hbb] at hB4
 have HZ4:Hid (cb = w3.heap.size ∧ bb = cb + 1 ∧ w4.heap.size = cb + 2):=⟨by omega,by omega,by omega⟩
 have HP4:=hid (HP.out.keep0 k34)
 have HC4:=hid hC4
 have HB4:=hid hB4
 have HK4:=hid (HK3.out.trans k34)
 have HK34:=hid k34
 have HI4:=hid (HI.out.keep k34 (by simp))
 have HH4:=hid (HH3.out.keep k34 (by simp))
 have HMF:Hid (mf ≤ 10):=hf10
 clear hf10
 clear hw4 hz4 hcb hbb hC4 hB4 k34
 have c0:=HC4.out.cell 0 rfl
 have c1:=HC4.out.cell 1 rfl
 have c2:=HC4.out.cell 2 rfl
 go_wp2_with fail
 refine (new15_at w4 p a u S c HP4.out HO.out HN.out HFF.out.log).mono ?_
 rintro e w5 ⟨q,rfl,hSh,k45,hq⟩
 have HSH:=hid hSh
 have HK45:=hid k45
 have HK5:=hid (HK4.out.trans k45)
 have HC5:=hid (k45.at HC4.out (by simp))
 have HB5:=hid (k45.at HB4.out (by simp))
 have HQ:=hid hq
 have HQD:Hid (∀ b ∈ a.d :: q.bl p a,W.heap.size ≤ b ∧ b ≠ cb ∧ b ≠ bb ∧ (b < w3.heap.size ∨ w4.heap.size ≤ b)):=fun b hb => by
  have h1:=HC4.out.lt
  have h2:=HB4.out.lt
  have h3:=HZ4.out
  have h4:=HK3.out.size
  unfold Sc.bl at hb
  simp only [List.mem_cons,List.not_mem_nil,or_false] at hb
  have h5:=HWB.out p (by simp)
  have h6:=HWB.out a.d (by simp)
  have h7:=HWB.out a.s (by simp)
  have h8:=HWB.out a.k (by simp)
  have h9:=HWB.out a.m (by simp)
  omega
 obtain ⟨fs,ts,hsec⟩:=hSh.len.1
 have s0:=hsec.cell 0 rfl
 clear hSh k45 hq c0 c1 c2 hsec
 go_upto_region 11 with fail
 clear s0
 have HQL:Hid (∀ b ∈ q.bl p a,b ∈ [p,a.d,a.s,a.k,a.m] ∨ w4.heap.size ≤ b):=fun b hb => by
  have h1:=HQ.out
  unfold Sc.bl at hb
  simp only [List.mem_cons,List.not_mem_nil,or_false] at hb ⊢
  rcases hb with h | h | h | h | h | h | h | h
  ·exact .inl (.inl h)
  ·exact .inl (.inr (.inr (.inl h)))
  ·exact .inl (.inr (.inr (.inr (.inl h))))
  ·exact .inl (.inr (.inr (.inr (.inr h))))
  ·exact .inr (by omega)
  ·exact .inr (by omega)
  ·exact .inr (by omega)
  ·exact .inr (by omega)
 obtain ⟨f5,hf5⟩:∃ f5:Nat → Nat,f5 = pkV H (fun j => c.frm 0 + posL os j) L:=⟨_,rfl⟩
 have HPB:Hid (∀ j,j < L → c.frm 0 + posL os j ≤ 100000):=fun j hj => by
  have h1:=posN_end (l:=os) (i:=j) (by have:=HL.out; omega)
  have h2:=HUS.out
  have h3:=HFS.out
  omega
 have HF5:Hid (∀ i,i < mf → f5 i ≤ 100000):=fun i hi => by
  obtain ⟨b,off,_,_,hcl⟩:=HH4.out.resolve_left (by omega)
  rw [hf5]
  exact pkV_le (G:=H) (P:=fun j => c.frm 0 + posL os j) (n:=L) (i:=i) (hcl i hi).2 HPB.out
 have HPK:=hid (pick_at w5 y y2 L cy mf cf H (fun j => c.frm 0 + posL os j) (HH4.out.keep HK45.out (by simp)) (HI4.out.keep HK45.out (by simp)).reads HPB.out (by have:=HMF.out; omega) (by have:=HL30.out; omega))
 rw [show (fun i => ((pkV H (fun j => c.frm 0 + posL os j) L i:Nat):Int)) = fun i => ((f5 i:Nat):Int) by rw [hf5]] at HPK
 have hmfi:(mf:Int) ≤ 10:=by have:=HMF.out; omega
 have hLi:(L:Int) ≤ 30:=by have:=HL30.out; omega
 clear hf5
 go_wp2_with fail
 refine HPK.out.mono ?_
 rintro e w6 ⟨x6,cp6,rfl,hO6,k56⟩
 have HO6:=hid hO6
 have HK6:=hid k56
 have HI6:=hid ((HI4.out.keep HK45.out (by simp)).keep k56 (by simp))
 clear hO6 k56 HPK
 go_wp2_with fail
 go_loopg [16,77] mf (fun rr s16 s77 wr => ∃ (i:Nat) (xx:Option Addr) (cc:Nat),i + rr = mf ∧ s77 = .int .i64 (i:Nat) ∧ s16 = .slice xx (pkW f5 (fun j => c.frm 0 + posL os j) L i).length cc ∧ OwnU wr w6.heap.size xx cc (pkW f5 (fun j => c.frm 0 + posL os j) L i).length (fun j => (((pkW f5 (fun j => c.frm 0 + posL os j) L i).getD j 0:Nat):Int)) ∧ Keeps [] w6 wr)
 case atStart => exact ⟨0,none,0,by omega,rfl,rfl,ownU_nil _ _ _,Keeps.refl _ _⟩
 case round =>
  obtain ⟨i,xx,cc,hi,rfl,rfl,hO,hK⟩:=hrel
  obtain ⟨WL,hWL⟩:∃ WL,WL = pkW f5 (fun j => c.frm 0 + posL os j) L i:=⟨_,rfl⟩
  have hWl:WL.length ≤ i:=by rw [hWL]; exact pkW_len _ _ _ _
  rw [← hWL] at hO ⊢
  have hWi:(WL.length:Int) ≤ 10:=by omega
  by_cases hil:i < mf
  ·obtain ⟨gx,hxg,hgl,hgc⟩:∃ g,x6 = some ⟨g,0,none⟩ ∧ g < w6.heap.size ∧ ∀ j,j < mf → w6.cell? ⟨g,j,none⟩ = some (.int .u64 (f5 j:Nat)):=by
    rcases HO6.out.form with ⟨_,h⟩ | ⟨g,cur,h1,_,h2,h3⟩
    ·omega
    ·exact ⟨g,h1,h2.lt,fun j hj => h2.cell j (h3 j hj)⟩
   subst hxg
   obtain ⟨v,hv⟩:∃ v,v = f5 i:=⟨_,rfl⟩
   have hvb:v ≤ 100000:=by rw [hv]; exact HF5.out i hil
   have d0:wr.cell? ⟨gx,i,none⟩ = some (.int .u64 (v:Nat)):=by
    rw [hK.cell hgl (by simp),hgc i hil,hv]
   have e1:IntKind.i64.wrap (v:Int) = (v:Int):=IntWalk.i64_in _ (by omega)
   have HCO:=hid (containsI_at wr y L cy (fun j => c.frm 0 + posL os j) B v (HI6.out.keep hK (by simp)) (by have:=HL30.out; omega))
   obtain ⟨bb9,hbb9⟩:∃ b,b = inPl (fun j => c.frm 0 + posL os j) L v:=⟨_,rfl⟩
   have HCO2:Hid (Calls Tryz.prog 11 #[.slice y L cy, .int .i64 (v:Nat)] wr fun e w' => e = .returned (.bool bb9) ∧ wr = w'):=by rw [hbb9]; exact HCO.out
   have hii:(i:Int) < (mf:Int):=by omega
   have hWl5:WL.length ≤ 100000:=by omega
   have HII:=hid (And.intro hi (And.intro hil (And.intro hv (And.intro hbb9 (And.intro hWL hWl)))))
   have HOI:=hid (And.intro hO hK)
   clear hi hil hO hK hgl hgc hv hvb hbb9 hWL hWl HCO
   go_wp2_with fail
   refine HCO2.out.mono ?_
   rintro e w2 ⟨rfl,rfl⟩
   cases bb9 with
   | false =>
    have HE:Hid ((pkW f5 (fun j => c.frm 0 + posL os j) L (i + 1)) = WL):=by
     show _ = _
     rw [HII.out.2.2.2.2.1]
     exact pkW_no (by rw [← HII.out.2.2.1]; exact HII.out.2.2.2.1.symm)
    clear d0 e1 HCO2
    go_wp2_with fail
    go_roundg (mf - (i + 1))
    case measure => (have:=HII.out; omega)
    case rel => exact ⟨i + 1,xx,cc,by have:=HII.out; omega,by go_num,by rw [HE.out],by rw [HE.out]; exact HOI.out.1,HOI.out.2⟩
   | true =>
    have hcX:=(At.new wr (.cells #[.int .u64 (v:Nat)] 47)).cell 0 rfl
    have k3:=(Keeps.refl [] wr).alloc (.cells #[.int .u64 (v:Nat)] 47)
    have HOX:=hid (HOI.out.1.keep k3 (by simp))
    have hBX:w6.heap.size ≤ (wr.alloc (.cells #[.int .u64 (v:Nat)] 47)).heap.size:=Nat.le_trans HOI.out.2.size k3.size
    have HK3:=hid k3
    clear k3 d0 HCO2
    go_wp2_with (at_builtin; refine appU_many rfl _ _ rfl w6.heap.size xx cc WL.length _ rfl HOX.out _ _ (v:Nat) rfl hcX hWl5 hBX ?_; intro g9 cap9 w9' hO9' hk9' hg9')
    have HW1:Hid (pkW f5 (fun j => c.frm 0 + posL os j) L (i + 1) = WL ++ [v]):=by
     show _ = _
     rw [HII.out.2.2.2.2.1,HII.out.2.2.1]
     exact pkW_yes (by rw [← HII.out.2.2.1]; exact HII.out.2.2.2.1.symm)
    have HE:Hid (OwnU w9' w6.heap.size (some ⟨g9,0,none⟩) cap9 (WL.length + 1) (fun j => (((WL ++ [v]).getD j 0:Nat):Int)) ∧ Keeps [] w6 w9') :=
     ⟨hO9'.eq (fun j hj => by
      unfold put
      rw [getD_app2]
      by_cases hji:j = WL.length
      ·rw [if_pos hji,if_neg (by omega),hji,Nat.sub_self]
       rfl
      ·rw [if_neg hji,if_pos (by omega)]),(HOI.out.2.trans HK3.out).new hk9' (fun b hb => .inr (HOI.out.1.ge b hb).1)⟩
    have hlen:(WL ++ [v]).length = WL.length + 1:=by simp
    have HLE:=hid hlen
    clear hO9' hk9' hg9' hcX hBX e1 hlen
    go_roundg (mf - (i + 1))
    case measure => (have:=HII.out; omega)
    case rel => exact ⟨i + 1,some ⟨g9,0,none⟩,cap9,by have:=HII.out; omega,by go_num,by rw [HW1.out,HLE.out],by rw [HW1.out,HLE.out]; exact HE.out.1,HE.out.2⟩
  ·have hie:mf = i:=by omega
   subst hie
   obtain ⟨w7,hw7⟩:∃ w7,w7 = wr:=⟨_,rfl⟩
   subst hw7
   obtain ⟨M,hM⟩:∃ M,M = WL.length:=⟨_,rfl⟩
   rw [← hM] at hO hWi ⊢
   have hWin:∀ v ∈ WL, ∃ t,t < L ∧ v = c.frm 0 + posL os t:=fun v hv => by rw [hWL] at hv; exact pkW_in hv
   have hMb:M ≤ 10:=by have:=HMF.out; omega
   have HOW:=hid hO
   have HK57:=hid (HK6.out.trans hK)
   have HK67:=hid hK
   have HWL:=hid (And.intro hWin (And.intro hM hMb))
   clear hi hil hO hK hWL hWl hWin hM hMb
   have hri:(c.roots:Int) ≤ 16:=by have:=HO.out.2.1; omega
   have hrl:rs.length = c.roots:=HHP.out.rl
   have HRLL:=hid hrl
   have HXR:Hid (∀ w',Keeps [] w3 w' → OwnU w' B x cp c.roots (fun j => ((rs.getD j 0:Nat):Int))):=fun w' hk => (HU.out.keep hk (by simp)).eq fun j hj => by
    rw [← HFF.out.root j hj,HHP.out.root j hj]
   have HB7:=hid (HK57.out.at HB5.out (by simp))
   have HC7:=hid (HK57.out.at HC5.out (by simp))
   have b2:=HB7.out.cell 2 rfl
   have HCLN:=hid (cloneU_any w7 x c.roots cp _ (HXR.out w7 ((HK34.out.trans HK45.out).trans HK57.out)).rd (by omega))
   clear hrl
   go_wp2_with fail
   refine HCLN.out.mono ?_
   rintro e w8 ⟨xr,cxr,rfl,hO8,k78⟩
   have HO8:=hid hO8
   have HOW8:=hid (HOW.out.keep k78 (by simp))
   have HK78:=hid k78
   have hrm:c.roots + M ≤ 100000:=by omega
   have hB8:w7.heap.size ≤ w8.heap.size:=k78.size
   have HHB:=hid (And.intro hrm hB8)
   clear hO8 k78 hrm hB8 b2 HCLN
   go_upto_region 19 with (at_builtin; refine app2U_list rfl _ _ rfl w7.heap.size w6.heap.size xr xx cxr c.roots cc M _ _ rfl rfl HO8.out HOW8.out HHB.out.1 HHB.out.2 ?_; intro xf cf9 w9 hO9 hk9 hx9)
   have HFW:Hid ((rs ++ WL).length = c.roots + M ∧ ∀ v ∈ rs ++ WL,v < 9223372036854775808):=by
    refine ⟨by rw [List.length_append,HRLL.out,HWL.out.2.1],fun v hv => ?_⟩
    rcases List.mem_append.1 hv with h | h
    ·exact HHP.out.rb v h
    ·obtain ⟨t,ht,rfl⟩:=HWL.out.1 v h
     have:=HPB.out t ht
     omega
   have HO9:Hid (OwnU w9 w7.heap.size xf cf9 (c.roots + M) (fun j => (((rs ++ WL).getD j 0:Nat):Int))):=hO9.eq fun j hj => by
    rw [getD_app2,HRLL.out]
    by_cases h:j < c.roots
    ·rw [if_pos h,if_pos h]
    ·rw [if_neg h,if_neg h]
   have HK79:Hid (Keeps [] w7 w9):=HK78.out.new hk9 fun b hb => .inr (HO8.out.ge b hb).1
   have HOW9:Hid (OwnU w9 w6.heap.size xx cc M (fun j => ((WL.getD j 0:Nat):Int))):=HOW8.out.keep hk9 (fun b hb h => by
    have h1:=(HO8.out.ge b h).1
    have h2:=(HOW.out.ge b hb).2
    omega)
   have HXX:Hid (∀ b ∈ blkL xf,w7.heap.size ≤ b):=fun b hb => (HO9.out.ge b hb).1
   clear hO9 hk9 hx9 HO8 HOW8 HHB
   obtain ⟨LS,hLSq⟩:∃ LS,LS = rcF S c 0 us (rs ++ WL):=⟨_,rfl⟩
   have HX9:Hid (∀ j:Nat,c.frm 0 ≤ j → j < c.frm 0 + us → ∃ x:Nat,S.now j = (x:Int) ∧ x < 18446744073709551616):=fun j h1 h2 => HHP.out.wd.sp j h1 (by have:=HFS.out; omega)
   have hwsl:wsN (c.roots + M) (fun j => (((rs ++ WL).getD j 0:Nat):Int)) = rs ++ WL:=by rw [← HFW.out.1]; exact wsN_list _
   have HPW9:=hid (HP4.out.keep0 ((HK45.out.trans HK57.out).trans HK79.out))
   have HRE:=hid (reached13_at w9 p a S c HPW9.out.dev HO.out HN.out 0 (by omega) us HFS.out.1 (.slice x c.roots cp) HX9.out xf (c.roots + M) cf9 _ HO9.out.rd (by omega) (fun i hi => ⟨_,rfl,by
    have h1:(rs ++ WL).getD i 0 ∈ rs ++ WL:=by
     rw [List.getD_eq_getElem?_getD,List.getElem?_eq_getElem (by rw [HFW.out.1]; exact hi)]
     exact List.getElem_mem _
    have:=HFW.out.2 _ h1
    omega⟩))
   rw [hwsl, ← hLSq] at HRE
   obtain ⟨K,hKq⟩:∃ K,K = LS.length:=⟨_,rfl⟩
   rw [← hKq] at HRE
   have hKi:(K:Int) ≤ 4096:=by
    have h1:LS.length ≤ us:=by rw [hLSq]; exact rcF_len
    have:=HFS.out
    omega
   obtain ⟨U1,hU1⟩:∃ U1,U1 = szF S LS:=⟨_,rfl⟩
   have hU1b:U1 ≤ us:=by
    rw [hU1,hLSq,HUS.out]
    exact HFF.out.sz_le (lnkG_low c os G mn (by have:=HFS.out; have:=HUS.out; omega)) rcF_nodup fun x hx => by rw [← HUS.out] at hx; rw [← HUS.out]; exact rcF_ob hx
   have HLS:=hid (And.intro hLSq (And.intro hKq (And.intro hU1 hU1b)))
   have hMr:(M:Int) + (c.roots:Int) ≤ 30:=by omega
   have HC9:=hid (HK79.out.at HC7.out (by simp))
   have HB9:=hid (HK79.out.at HB7.out (by simp))
   have c0:=HC9.out.cell 0 rfl
   have c1:=HC9.out.cell 1 rfl
   have c2:=HC9.out.cell 2 rfl
   have b0:=HB9.out.cell 0 rfl
   have b1:=HB9.out.cell 1 rfl
   have b2:=HB9.out.cell 2 rfl
   clear hLSq hKq hU1 hU1b hwsl
   go_wp2_with fail
   refine HRE.out.mono ?_
   rintro e w10 ⟨xl,cpl,rfl,hOl,k910⟩
   have HOL:=hid hOl
   have HK910:=hid k910
   have HC10:=hid (k910.at HC9.out (by simp))
   have HB10:=hid (k910.at HB9.out (by simp))
   have HP10:=hid (HPW9.out.keep0 k910)
   clear hOl k910 c0 c1 c2 b0 b1 b2 HRE
   have HOF:Hid (∀ w',Keeps [] w10 w' → ∀ X n r:Nat,obW S c 0 us X = some (n,r) → Calls Tryz.prog 14 #[ptr a.d,cfgV c,bkV 0 us (.slice x c.roots cp), .int .i64 (X:Nat)] w' fun e w'' => e = .returned (.tuple #[obV (n:Nat) (r:Nat) (X:Nat), .int .i64 0]) ∧ Keeps [] w' w''):=fun w' hk X n r ho => by
    have h1:=(obW_some ho).2.1
    exact of_yes w' p a S (HP10.out.keep0 hk).dev c HO.out HN.out 0 (by omega) us HFS.out.1 _ X n r ho (by have:=HFS.out; omega) HX9.out
   go_wp2_with fail
   go_loopg [20,101] K (fun rr s20 s101 wr => ∃ i:Nat,i + rr = K ∧ s101 = .int .i64 (i:Nat) ∧ s20 = .int .i64 (szF S (LS.take i):Nat) ∧ Keeps [] w10 wr)
   case atStart => exact ⟨0,by omega,rfl,rfl,Keeps.refl _ _⟩
   case round =>
    obtain ⟨i,hi,rfl,rfl,hK⟩:=hrel
    by_cases hil:i < K
    ·obtain ⟨X,hX⟩:∃ X,X = LS.getD i 0:=⟨_,rfl⟩
     have hXg:LS[i]? = some X:=by
      rw [hX,List.getD_eq_getElem?_getD,List.getElem?_eq_getElem (by have:=HLS.out.2.1; omega)]
      rfl
     have hXo:(obW S c 0 us X).isSome = true:=rcF_ob (ws:=rs ++ WL) (by rw [← HLS.out.1]; exact List.mem_of_getElem? hXg)
     obtain ⟨⟨nn,rr'⟩,hnr⟩:=Option.isSome_iff_exists.1 hXo
     obtain ⟨x1,x2,x3,x4,x5,x6'⟩:=obW_some hnr
     have hni:(nn:Int) ≤ 64:=by omega
     obtain ⟨zs,hzs⟩:∃ zs,zs = szF S (LS.take i):=⟨_,rfl⟩
     have hZS:szF S (LS.take (i + 1)) = zs + (nn + 1):=by
      rw [szF_take hXg, ← hzs,x3]
     have hzi:(zs:Int) ≤ 4096:=by
      have h1:szF S (LS.take i) ≤ szF S (LS.take K):=szF_takes (by omega)
      rw [HLS.out.2.1,List.take_length] at h1
      have h2:=HLS.out.2.2
      have h3:=HFS.out
      omega
     rw [← hzs]
     obtain ⟨gw,hxl,hgl,hgc⟩:∃ g,xl = some ⟨g,0,none⟩ ∧ g < w10.heap.size ∧ ∀ j,j < K → w10.cell? ⟨g,j,none⟩ = some (.int .i64 (LS.getD j 0:Nat)):=by
      rcases HOL.out.form with ⟨_,h⟩ | ⟨g,cur,h1,_,h2,h3⟩
      ·omega
      ·exact ⟨g,h1,h2.lt,fun j hj => h2.cell j (h3 j hj)⟩
     subst hxl
     have d0:wr.cell? ⟨gw,i,none⟩ = some (.int .i64 (X:Nat)):=by
      rw [hK.cell hgl (by simp),hgc i hil,hX]
     have HOFi:=hid (HOF.out wr hK X nn rr' hnr)
     have HSZ:=hid (fun w => hsize_at w nn rr' (by omega))
     have HII:=hid (And.intro hi (And.intro hil hZS))
     have HKK:=hid hK
     have hii:(i:Int) < (K:Int):=by omega
     have hCr:=hK.at HC10.out (by simp)
     have hBr:=hK.at HB10.out (by simp)
     have c0:=hCr.cell 0 rfl
     have c1:=hCr.cell 1 rfl
     have c2:=hCr.cell 2 rfl
     have b0:=hBr.cell 0 rfl
     have b1:=hBr.cell 1 rfl
     have b2:=hBr.cell 2 rfl
     have e1:IntKind.i64.wrap ((zs:Int) + ((nn:Int) + 1)) = (zs:Int) + ((nn:Int) + 1):=IntWalk.i64_in _ (by omega)
     clear hi hil hK hX hXg hXo hnr x1 x2 x3 x4 x5 x6' hzs hZS hgl hgc hCr hBr
     go_wp2_with fail
     refine HOFi.out.mono ?_
     rintro e w2 ⟨rfl,k2⟩
     have hO2:=At.new w2 (obO (nn:Nat) (rr':Nat) (X:Nat))
     have o0:=hO2.cell 0 rfl
     have o1:=hO2.cell 1 rfl
     have k3:=k2.alloc (obO (nn:Nat) (rr':Nat) (X:Nat))
     have HK3:=hid k3
     clear hO2 k2 k3 d0 c0 c1 c2 b0 b1 b2
     go_wp2_with fail
     refine (HSZ.out _).mono ?_
     rintro e w3' ⟨rfl,k4⟩
     have HK5':=hid (HK3.out.trans k4)
     clear k4 o0 o1
     go_wp2_with fail
     go_roundg (K - (i + 1))
     case measure => (have:=HII.out; omega)
     case rel => exact ⟨i + 1,by have:=HII.out; omega,by go_num,by rw [HII.out.2.2]; go_num,HKK.out.trans HK5'.out⟩
    ·have hie:K = i:=by omega
     subst hie
     obtain ⟨w11,hw11⟩:∃ w11,w11 = wr:=⟨_,rfl⟩
     subst hw11
     have hz:szF S (LS.take K) = U1:=by
      rw [HLS.out.2.1,List.take_length, ← HLS.out.2.2.1]
     rw [hz]
     have HK1011:=hid hK
     clear hi hil hK hz
     have HWD:=hid (words_at w11 p a S (HP10.out.keep0 HK1011.out).dev)
     have hnb:a.n ≤ 15000:=(c_in HO.out HN.out).2.2.2.2
     have HNB:=hid hnb
     have hU1i:(U1:Int) ≤ 4096:=by have:=HLS.out.2.2; have:=HFS.out; omega
     clear hnb
     go_wp2_with fail
     refine HWD.out.mono ?_
     rintro e w12 ⟨v12,rfl,hv12,k12⟩
     obtain ⟨g12,cap12,rfl,hg12,_,hcap12,hR12⟩:=hv12.reads
     have HR12:=hid hR12
     have HK1012:=hid (HK1011.out.trans k12)
     clear hv12 hR12 hg12 hcap12 k12 HWD
     have hLL:a.L = (a.n + 7) / 8:=by have:=a.n8; omega
     have HLN:=hid (lnew_at w12 (some ⟨g12,0,none⟩) a.n cap12 a.L S.now HR12.out hLL (by have:=HNB.out; omega))
     clear hLL
     go_wp2_with fail
     refine HLN.out.mono ?_
     rintro e w13 ⟨pe,ae,rfl,hae,hDe,hpe,hbe,k13⟩
     have haen:ae.n = a.n:=by rw [ae.n8,a.n8,hae]
     obtain ⟨So,hSo⟩:∃ So:DS,So = { now:=fun i => if i < a.n then S.now i else 0,kept:=fun i => if i < a.n then S.now i else 0,tok:=fun _ => 0,is:=fun _ => false }:=⟨_,rfl⟩
     rw [← hSo] at hDe
     have hSon:∀ j,j < a.n → So.now j = S.now j:=fun j hj => by rw [hSo]; exact if_pos hj
     have HDE:=hid (And.intro hDe (And.intro haen (And.intro hSon hbe)))
     have HK1013:=hid (HK1012.out.trans k13)
     have HDW12:Hid (w5.heap.size ≤ w6.heap.size ∧ w6.heap.size ≤ w7.heap.size ∧ w7.heap.size ≤ w10.heap.size ∧ w10.heap.size ≤ w12.heap.size ∧ w12.heap.size ≤ w13.heap.size):=⟨HK6.out.size,HK67.out.size,(HK79.out.trans HK910.out).size,HK1012.out.size,k13.size⟩
     clear hae hDe hpe hbe k13 haen hSo hSon HLN
     have HK713:=hid ((HK79.out.trans HK910.out).trans HK1013.out)
     have HK513:=hid (HK57.out.trans HK713.out)
     have HOW13:=hid ((HOW9.out.keep HK910.out (by simp)).keep HK1013.out (by simp))
     have HOF13:=hid ((HO9.out.keep HK910.out (by simp)).keep HK1013.out (by simp))
     have HC13:=hid (HK1013.out.at HC10.out (by simp))
     have HB13:=hid (HK1013.out.at HB10.out (by simp))
     have HAP:Hid ((∀ b ∈ a.d :: q.bl p a,b ∉ blkL xx) ∧ cb ∉ q.bl p a ++ blkL xx ∧ bb ∉ q.bl p a ++ blkL xx ∧ (∀ b ∈ blkL xf,b ∉ q.bl p a ++ blkL xx) ∧ (∀ b ∈ blkL x,b ∉ q.bl p a ++ blkL xx) ∧ (∀ b ∈ [ae.d,ae.s,ae.k,ae.m],b ∉ q.bl p a ++ blkL xx)):=by
      have h0:=HSH.out.lts
      have h1:∀ b ∈ blkL xx,w6.heap.size ≤ b ∧ b < w7.heap.size:=fun b hb => HOW.out.ge b hb
      have h56:=HDW12.out
      have hql:∀ b ∈ a.d :: q.bl p a,b < w5.heap.size:=h0
      refine ⟨fun b hb h => ?_,fun h => ?_,fun h => ?_,fun b hb h => ?_,fun b hb h => ?_,fun b hb h => ?_⟩
      ·have:=h1 b h; have:=hql b hb; omega
      ·rcases List.mem_append.1 h with h | h
       ·exact (HQD.out cb (List.mem_cons_of_mem _ h)).2.1 rfl
       ·have:=h1 cb h; have:=HC5.out.lt; omega
      ·rcases List.mem_append.1 h with h | h
       ·exact (HQD.out bb (List.mem_cons_of_mem _ h)).2.2.1 rfl
       ·have:=h1 bb h; have:=HB5.out.lt; omega
      ·have h2:=HXX.out b hb
       rcases List.mem_append.1 h with h | h
       ·have:=hql b (List.mem_cons_of_mem _ h); omega
       ·have:=h1 b h; omega
      ·have h2:=(HU.out.ge b hb).2
       have h3:=HXB.out b hb
       rcases List.mem_append.1 h with h | h
       ·have h4:=HQD.out b (List.mem_cons_of_mem _ h)
        have h5:=HQL.out b h
        rcases h5 with h5 | h5
        ·exact h3 h5
        ·have:=HK34.out.size; omega
       ·have:=h1 b h; have:=HK34.out.size; have:=HK45.out.size; omega
      ·have h2:=HDE.out.2.2.2
       have h3:w12.heap.size ≤ b:=by
        simp only [List.mem_cons,List.not_mem_nil,or_false] at hb
        rcases hb with rfl | rfl | rfl | rfl <;> omega
       rcases List.mem_append.1 h with h | h
       ·have:=hql b (List.mem_cons_of_mem _ h); omega
       ·have:=h1 b h; omega
     obtain ⟨Q9,hQ9⟩:∃ Q9:Nat,Q9 = tm % 3:=⟨_,rfl⟩
     have hQb:Q9 ≤ 2:=by omega
     have hQi:(tm:Int) % 3 = (Q9:Int):=by omega
     have hQt:(tm:Int).tmod 3 = (Q9:Int):=by rw [Int.tmod_eq_emod_of_nonneg (by omega)]; exact hQi
     have ez:IntKind.u8.wrap (Q9:Int) = (Q9:Int):=by rw [IntKind.wrap_u8]; omega
     have ez2:IntKind.i64.wrap (Q9:Int) = (Q9:Int):=IntWalk.i64_in _ (by omega)
     have ez3:IntKind.i64.wrap (1 + (Q9:Int)) = 1 + (Q9:Int):=IntWalk.i64_in _ (by omega)
     have HQ9:Hid (Q9 ≤ 2):=hQb
     have hQbi:(Q9:Int) ≤ 2:=by omega
     clear hQ9 hQb
     have hrdy:RdyC S c 0 us (rs ++ WL):=(HOK.out WL (fun v hv => HFW.out.2 v (List.mem_append_right _ hv)) (by have:=HWL.out.2; omega)).rdy
     have hMM:WL.length = M:=HWL.out.2.1.symm
     have HST0:Hid (SamI So S c 0 us 0 us LS LS ∧ (∀ i,i < c.roots + M → PairOk LS LS ((rs ++ WL).getD i 0) ((rs ++ WL).getD i 0)) ∧ Hp p a q c 0 us rs WL os u S 0 w13):=by
      refine ⟨?_,fun i hi => ?_,(⟨HSH.out,HHP.out,HOK.out WL (fun v hv => HFW.out.2 v (List.mem_append_right _ hv)) (by have:=HWL.out.2; omega)⟩:Hp p a q c 0 us rs WL os u S 0 w5).keep0 HK513.out⟩
      ·rw [HLS.out.1]
       refine (SamI.refl hrdy).fst fun j h1 h2 => HDE.out.2.2.1 j ?_
       have:=HFS.out
       omega
      ·have hm:(rs ++ WL).getD i 0 ∈ rs ++ WL:=by
        rw [List.getD_eq_getElem?_getD,List.getElem?_eq_getElem (by rw [HFW.out.1]; exact hi)]
        exact List.getElem_mem _
       rw [HLS.out.1]
       refine pair_self (rc_mem hm ?_)
       rcases List.mem_append.1 hm with h | h
       ·exact HHP.out.named h
       ·obtain ⟨t,ht,he⟩:=HWL.out.1 _ h
        right
        rw [he]
        exact chn_ob HHP.out.chn (by have:=HL.out; omega)
     clear hrdy hMM
     go_wp2_with fail
     go_loopg [128] (1 + Q9) (fun rr s128 wr => ∃ (k usd:Nat) (uk:Int) (Sk:DS) (rk:Nat) (rsk wsk PSk:List Nat) (osk:List (Nat × Nat)),k + rr = 1 + Q9 ∧ s128 = .int .i64 (k:Nat) ∧ Hp p a q c (k % 2) usd rsk wsk osk uk Sk rk wr ∧ wsk.length = M ∧ OwnU wr w6.heap.size xx cc M (fun j => ((wsk.getD j 0:Nat):Int)) ∧
      (PSk = rcF Sk c (k % 2) usd (rsk ++ wsk) ∧ szF Sk PSk = U1 ∧ SamI So Sk c 0 us (k % 2) usd LS PSk ∧ (∀ i,i < c.roots + M → PairOk LS PSk ((rs ++ WL).getD i 0) ((rsk ++ wsk).getD i 0))) ∧ (k = 0 ∨ ShutG p a (-1) uk Sk q c rk wr) ∧ uk ≤ 300000 + 2000000000 * (k:Int) ∧ rk ≤ k ∧ Keeps (q.bl p a ++ blkL xx) w13 wr)
     case atStart => exact ⟨0,us,u,S,0,rs,WL,LS,os,by omega,rfl,HST0.out.2.2,HWL.out.2.1.symm,HOW13.out,⟨HLS.out.1,HLS.out.2.2.1.symm,HST0.out.1,HST0.out.2.1⟩, .inl rfl,by have:=HUB.out; omega,Nat.le_refl _,Keeps.refl _ _⟩
     case round =>
      obtain ⟨k,usd,uk,Sk,rk,rsk,wsk,PSk,osk,hkr,rfl,hHk,hwl,hOk,⟨hPS,hszk,hSam,hpr⟩,hGk,huk,hrk,hKk⟩:=hrel
      by_cases hlt:k < 1 + Q9
      case neg =>
       have hke:k = 1 + Q9:=by omega
       have hkc:¬ ((k:Int) < 1 + (Q9:Int)):=by omega
       have hkd:decide ((k:Int) < 1 + (Q9:Int)) = false:=decide_eq_false hkc
       have hukb:uk ≤ 7000000000:=by have:=HQ9.out; omega
       have HGK:=hid (show ShutG p a (-1) uk Sk q c rk wr from hGk.resolve_left (by omega))
       have HWDK:=hid (words_at wr p a Sk hHk.sh.pw.dev)
       have HCW0:=hid (hKk.at HC13.out HAP.out.2.1)
       have HENW:Hid (Keeps [] W wr):=(HK5.out.trans HK513.out).new hKk (fun b hb => .inr (by
        rcases List.mem_append.1 hb with h | h
        ·exact (HQD.out b (List.mem_cons_of_mem _ h)).1
        ·have h1:=(HOW.out.ge b h).1
         have h2:=HDW12.out
         have h3:=HK5.out.size
         omega))
       clear hkr hHk hwl hOk hPS hszk hSam hpr hGk huk hrk hKk hlt hke
       go_wp2_with fail
       refine HWDK.out.mono ?_
       rintro e w14 ⟨v14,rfl,hv14,k14⟩
       obtain ⟨g14,cap14,rfl,hg14,_,hcap14,hR14⟩:=hv14.reads
       have HR14:=hid hR14
       have HG14:=hid (HGK.out.keep0 k14)
       have HG14F:Hid (wr.heap.size ≤ g14):=hg14
       have HE14:=hid (HENW.out.trans k14)
       have HCW:=hid (k14.at HCW0.out (by simp))
       have HBG:=hid (begin_g (HGK.out.keep0 k14) HO.out HN.out (by omega) 0 0 (fun _ => 0))
       clear hv14 hR14 hg14 hcap14 k14 hkc hkd
       go_wp2_with fail
       refine HBG.out.mono ?_
       rintro e w15 (⟨rfl,u15,S15,pl15,hG15,hS15,_,hk15⟩ | hgone)
       case inr =>
        obtain ⟨_,⟨S',h1,_⟩,_⟩:=hgone
        have:=h1.lo
        omega
       have hR15:=HR14.out.keep hk15 (fun b off he h => by
        cases he
        have h1:=HGK.out.shutL.lts _ (List.mem_cons_of_mem _ h)
        have h2:=HG14F.out
        omega)
       have HR15:=hid hR15
       have HG15:=hid hG15
       have HS15:Hid (∀ i,i < a.n → S15.now i = Sk.now i):=fun i _ => hS15 i
       have HE15:Hid (Keeps [] W w15):=HE14.out.new hk15 (fun b hb => .inr (HQD.out b (List.mem_cons_of_mem _ hb)).1)
       have HC15:=hid (hk15.at HCW.out (fun h => HAP.out.2.1 (List.mem_append_left _ h)))
       clear hG15 hS15 hk15 hR15 HBG HR14
       have c0:=HC15.out.cell 0 rfl
       have c1:=HC15.out.cell 1 rfl
       have c2:=HC15.out.cell 2 rfl
       have HCO:=hid (collect15_open w15 p a _ _ S15 q c _ _ _ _ _ _ HG15.out (.slice none 0 0))
       go_wp2_with fail
       refine HCO.out.mono ?_
       rintro e w16 ⟨rfl,k16⟩
       have HK16:=hid k16
       have HW16:=hid (words_at w16 p a S15 (HG15.out.keep0 k16).pw.dev)
       clear c0 c1 c2 HCO k16
       go_wp2_with fail
       refine HW16.out.mono ?_
       rintro e w17 ⟨v17,rfl,hv17,k17⟩
       obtain ⟨g17,cap17,rfl,hg17,_,hcap17,hR17⟩:=hv17.reads
       have HEQ:=hid (equal_true w17 _ _ a.n cap17 cap14 _ _ hR17 ((HR15.out.keep HK16.out (by simp)).keep k17 (by simp)) HS15.out (by have:=HNB.out; omega))
       have HK17:=hid ((HE15.out.trans HK16.out).trans k17)
       clear hv17 hg17 hcap17 hR17 k17 HW16 HR15
       go_wp2_with fail
       refine HEQ.out.mono ?_
       rintro e w18 ⟨rfl,k18⟩
       have HEN:=hid ((HK17.out.trans k18).below (Nat.le_refl _) (by simp))
       clear k18
       go_wp2_with fail
       go_ret
       exact ⟨rfl,HEN.out⟩
      have hki:(k:Int) < 1 + (Q9:Int):=by omega
      have hk012:k = 0 ∨ k = 1 ∨ k = 2:=by have:=HQ9.out; omega
      have HR3:=hid hkr
      have HHK:=hid hHk
      have HOK2:=hid hOk
      have HKK:=hid hKk
      have HPSK:=hid (And.intro hPS (And.intro hszk (And.intro hSam (And.intro hpr hwl))))
      have HUK:=hid (And.intro huk hrk)
      have hcl:=collect15_free wr p a uk Sk q c rk (k % 2) usd rsk wsk osk xx cc w6.heap.size hHk (by rw [hwl]; exact hOk) (fun b hb h => HAP.out.1 b h hb) (by omega) (by omega)
      rw [hwl] at hcl
      have HCL:=hid hcl
      have HC14:=hid (hKk.at HC13.out HAP.out.2.1)
      have c0:=HC14.out.cell 0 rfl
      have c1:=HC14.out.cell 1 rfl
      have c2:=HC14.out.cell 2 rfl
      clear hkr hHk hwl hOk hPS hszk hSam hpr hGk huk hrk hKk hlt hcl
      go_wp2_with fail
      refine HCL.out.mono ?_
      rintro e w14 ⟨P,yb,T,u14,S14,r14,rfl,⟨hPk,q1,q2,q3,q4,q5,q6,q7,q8⟩,hC,hT,hG,hH,hn1,hn2,hn3,hu14,hr14,hk14⟩
      have hLS:P.LS = PSk:=by
       rw [HPSK.out.1]
       unfold CP.LS
       rw [q4,q5,q6,q7]
       exact rcF_same fun j _ _ => congrFun q3 j
      have hU:szF P.S P.LS = U1:=by
       rw [hLS,HPSK.out.1,szF_same (S:=Sk) (k:=k % 2) (u:=usd) (c:=c) (fun j _ _ => congrFun q3 j) _ fun x hx => rcF_ob hx, ← HPSK.out.1]
       exact HPSK.out.2.1
      rw [hU] at hH hn1 hn2 hn3
      rw [hLS] at hn1 hn2 hn3 hH
      have hcsN:P.cs P.N = P.LS:=P.cs_end (by unfold CP.N; omega)
      have hxw:∀ b ∈ blkL xx,b < wr.heap.size:=fun b hb => (HOK2.out.ge b hb).2
      have HWN:Hid (∀ w',Keeps (blkL xx) w14 w' → ∀ v:Nat,v < 9223372036854775808 → Calls Tryz.prog 21 #[ptr yb, .int .u64 v] w' fun e w'' => e = .returned (.int .i64 (wtC P.S c (k % 2) PSk v:Nat)) ∧ Keeps [] w' w''):=fun w' hk v hv => by
       have h:=colL_is.went (colL_keep hC hk (fun b hb h => by have:=hT b hb; have:=hxw b h; omega)) v hv
       rw [hcsN,hLS,q4,q5] at h
       exact h
      have HWT:Hid (∀ v,wtC P.S c (k % 2) PSk v ≤ 100000):=fun v => by
       have h:=wt_few hPk ⟨[],by rw [List.append_nil]⟩ v
       rw [hLS,q4,q5] at h
       exact h
      have HSM14:Hid (SamI So S14 c 0 us (1 - k % 2) U1 LS (PSk.map (wtC P.S c (k % 2) PSk)) ∧ ∀ i,i < c.roots + M → PairOk LS (PSk.map (wtC P.S c (k % 2) PSk)) ((rs ++ WL).getD i 0) ((rsk.map (wtC P.S c (k % 2) PSk) ++ wsk.map (wtC P.S c (k % 2) PSk)).getD i 0)):=by
       have hs2:SamI Sk S14 c (k % 2) usd (1 - k % 2) U1 PSk (PSk.map (wtC P.S c (k % 2) PSk)):=hn3.fst fun j _ _ => (congrFun q3 j).symm
       refine ⟨HPSK.out.2.2.1.trans hs2,fun i hi => ?_⟩
       have h1:=HPSK.out.2.2.2.1 i hi
       rw [← List.map_append,getD_map (by rw [List.length_append,HHK.out.hp.rl,HPSK.out.2.2.2.2]; exact hi)]
       refine PairOk.trans HPSK.out.2.2.1 hs2 h1 (pair_wt ?_)
       rcases h1 with ⟨_,h2⟩ | ⟨s,_,h2⟩
       ·exact .inl h2
       ·exact .inr (List.mem_of_getElem? h2)
      have HH14:=hid hH
      have HG14:=hid hG
      have HN14:Hid (PSk.map (wtC P.S c (k % 2) PSk) = rcF S14 c (1 - k % 2) U1 (rsk.map (wtC P.S c (k % 2) PSk) ++ wsk.map (wtC P.S c (k % 2) PSk)) ∧ szF S14 (PSk.map (wtC P.S c (k % 2) PSk)) = U1):=by
       rw [← List.map_append]
       exact ⟨hn1.symm,hn2⟩
      obtain ⟨wt,hwt⟩:∃ wt,wt = wtC P.S c (k % 2) PSk:=⟨_,rfl⟩
      rw [← hwt] at HWN HWT HSM14 HH14 HN14
      have HU14:=hid (And.intro hu14 hr14)
      have HK14:=hid (HKK.out.trans (hk14.mono (by intro k' _ hk'; exact List.mem_append_left _ hk')))
      have HO14:=hid (HOK2.out.keep hk14 (fun b hb h => HAP.out.1 b (List.mem_cons_of_mem _ h) hb))
      obtain ⟨fs,ts,hsec⟩:=hG.shutL.len.1
      have HLEN:=hid hG.shutL.len.2
      have q0:=hsec.cell 0 rfl
      clear hPk q1 q2 q3 q4 q5 q6 q7 q8 hC hT hG hH hn1 hn2 hn3 hu14 hr14 hk14 hLS hU hcsN hxw hwt hsec c0 c1 c2 HCL
      go_wp2_with fail
      refine (sopen_g_no HG14.out).mono ?_
      rintro e w' ⟨rfl,rfl⟩
      go_wp2_with fail
      refine HLEN.out.mono ?_
      rintro e w' ⟨rfl,rfl⟩
      clear q0 HLEN
      go_wp2_with fail
      go_loopg [159] M (fun rr s159 wx => ∃ i:Nat,i + rr = M ∧ s159 = .int .i64 (i:Nat) ∧ OwnU wx w6.heap.size xx cc M (fun j => ((if j < i then wt (wsk.getD j 0) else wsk.getD j 0:Nat):Int)) ∧ Keeps (blkL xx) w14 wx)
      case atStart => exact ⟨0,by omega,rfl,HO14.out.eq fun j _ => by rw [if_neg (by omega)],Keeps.refl _ _⟩
      case round =>
       obtain ⟨i,hi,rfl,hOi,hKi⟩:=hrel
       by_cases hil:i < M
       ·obtain ⟨gw,cur,hxg,_,hAt,hgc⟩:∃ g cur,xx = some ⟨g,0,none⟩ ∧ w6.heap.size ≤ g ∧ At wr g (.cells cur 47) ∧ ∀ j,j < M → cur[j]? = some (.int .u64 ((if j < i then wt (wsk.getD j 0) else wsk.getD j 0:Nat):Int)):=by
         rcases hOi.form with ⟨_,h⟩ | h
         ·omega
         ·exact h
        obtain ⟨v,hv⟩:∃ v,v = wsk.getD i 0:=⟨_,rfl⟩
        have hvb:v < 9223372036854775808:=by
         have h1:v ∈ wsk:=by
          rw [hv,List.getD_eq_getElem?_getD,List.getElem?_eq_getElem (by rw [HPSK.out.2.2.2.2]; exact hil)]
          exact List.getElem_mem _
         exact HHK.out.ok.ws v (List.mem_append_right _ h1)
        have d0:wr.cell? ⟨gw,i,none⟩ = some (.int .u64 (v:Nat)):=by
         refine hAt.cell i ?_
         rw [hgc i hil,if_neg (by omega),hv]
        have HWi:=hid (HWN.out wr hKi v hvb)
        obtain ⟨tv,htv⟩:∃ tv,tv = wt v:=⟨_,rfl⟩
        rw [← htv] at HWi
        have htb:tv ≤ 100000:=by rw [htv]; exact HWT.out v
        have e1:IntKind.u64.wrap (tv:Int) = (tv:Int):=IntWalk.u64_in _ (by omega)
        have hii:(i:Int) < (M:Int):=by omega
        have HII:=hid (And.intro hi (And.intro hil (And.intro hv htv)))
        subst hxg
        have HOi:=hid (And.intro hOi (And.intro hKi hAt))
        clear hi hil hOi hKi hAt hgc hv hvb htv htb
        go_wp2_with fail
        refine HWi.out.mono ?_
        rintro e w15 ⟨rfl,hk15⟩
        have hAt15:=hk15.at HOi.out.2.2 (by simp)
        have d1:=(hk15.cell (p:=⟨gw,i,none⟩) HOi.out.2.2.lt (by simp)).trans d0
        have f1:=hAt15.free i
        have HEN:Hid (OwnU (w15.setCell ⟨gw,i,none⟩ (.int .u64 (tv:Nat))) w6.heap.size (some ⟨gw,0,none⟩) cc M (fun j => ((if j < i + 1 then wt (wsk.getD j 0) else wsk.getD j 0:Nat):Int)) ∧ Keeps (blkL (some ⟨gw,0,none⟩)) w14 (w15.setCell ⟨gw,i,none⟩ (.int .u64 (tv:Nat)))):=by
         have h1:=HOi.out.1.keep hk15 (by simp)
         refine ⟨(h1.setW HII.out.2.1 (tv:Nat)).eq fun j hj => ?_, ?_⟩
         ·unfold put
          by_cases hji:j = i
          ·rw [if_pos hji,if_pos (by omega),HII.out.2.2.2,HII.out.2.2.1,hji]
          ·rw [if_neg hji]
           show ((if j < i then wt (wsk.getD j 0) else wsk.getD j 0:Nat):Int) = _
           by_cases h2:j < i
           ·rw [if_pos h2,if_pos (by omega)]
           ·rw [if_neg h2,if_neg (by omega)]
         ·have h2:=HOi.out.2.1
          exact (h2.trans (hk15.mono (by simp))).set (.inl (by simp [blkL])) _
        clear hk15 hAt15 d0
        go_wp2_with fail
        go_roundg (M - (i + 1))
        case measure => (have:=HII.out; omega)
        case rel => exact ⟨i + 1,by have:=HII.out; omega,by go_num,HEN.out⟩
       ·have hie:M = i:=by omega
        subst hie
        obtain ⟨w15,hw15⟩:∃ w15,w15 = wr:=⟨_,rfl⟩
        subst hw15
        have HH15:=hid (HH14.out.keepT hKi HAP.out.1)
        have HK15:=hid (HK14.out.trans (hKi.mono (fun k' _ hk' => List.mem_append_right _ hk')))
        have HO15:Hid (OwnU w15 w6.heap.size xx cc M (fun j => (((wsk.map wt).getD j 0:Nat):Int))):=hOi.eq fun j hj => by
         rw [if_pos hj,getD_map (by rw [HPSK.out.2.2.2.2]; exact hj)]
        have HG15:=hid (HG14.out.keep hKi HAP.out.1)
        clear hi hil hOi hKi HO14
        have HC15:=hid (HK15.out.at HC13.out HAP.out.2.1)
        have HB15:=hid (HK15.out.at HB13.out HAP.out.2.2.1)
        have HRD:=hid (rread_at w15 p a S14 c HH15.out.sh.pw.dev HO.out HN.out (by rw [HH15.out.hp.act]; omega) (by rw [HH15.out.hp.used]; omega))
        have c0:=HC15.out.cell 0 rfl
        have c1:=HC15.out.cell 1 rfl
        have c2:=HC15.out.cell 2 rfl
        go_wp2_with fail
        refine HRD.out.mono ?_
        rintro e w16 (⟨h9,rfl,hk9⟩ | ⟨k1,u1',x7,cp7,hk1,hu1,hA1,hU1',rfl,hO7,hk16⟩)
        ·rw [HH15.out.hp.act,HH15.out.hp.used] at h9
         have:=HH15.out.hp.us
         omega
        obtain rfl:k1 = 1 - k % 2:=by have:=HH15.out.hp.act; omega
        obtain rfl:u1' = U1:=by have:=HH15.out.hp.used; omega
        have HO16:=hid hO7
        have HK1516:=hid hk16
        clear hk1 hu1 hA1 hU1' hO7 hk16 c0 c1 c2 HRD
        go_upto_region 41 with fail
        have hX17:=At.new w16 (bkO ((1 - k % 2:Nat):Int) (u1':Nat) (.slice x7 c.roots cp7))
        have k17:=(Keeps.refl [] w16).alloc (bkO ((1 - k % 2:Nat):Int) (u1':Nat) (.slice x7 c.roots cp7))
        obtain ⟨nb,hnbq⟩:∃ nb,nb = w16.heap.size:=⟨_,rfl⟩
        obtain ⟨w17,hw17⟩:∃ w17,w17 = w16.alloc (bkO ((1 - k % 2:Nat):Int) (u1':Nat) (.slice x7 c.roots cp7)):=⟨_,rfl⟩
        rw [← hnbq]
        rw [← hnbq] at hX17
        rw [← hw17] at hX17 k17 ⊢
        have HX17:=hid hX17
        have HK1517:=hid (HK1516.out.trans k17)
        have HO17:=hid (HO16.out.keep k17 (by simp))
        clear hw17 hnbq hX17 k17
        have HH17:=hid (HH15.out.keep0 HK1517.out)
        have HC17:=hid (HK1517.out.at HC15.out (by simp))
        have HB17:=hid (HK1517.out.at HB15.out (by simp))
        have hck:=check12_at w17 p a S14 c HH17.out.sh.pw.dev HO.out HN.out (1 - k % 2) u1' _ false (by omega) HH17.out.hp.act HH17.out.hp.used HH17.out.hp.chn (HH17.out.hp.wd.at HN.out (by omega))
        rw [HH17.out.hp.ok] at hck
        have HCK:=hid hck
        clear hck
        obtain ⟨kn,hkn⟩:∃ kn,kn = 1 - k % 2:=⟨_,rfl⟩
        rw [← hkn] at HX17 HH17 HN14 HSM14
        have hkn1:kn ≤ 1:=by omega
        have HKN:=hid (And.intro hkn hkn1)
        have HOR17:Hid (OwnU w17 w15.heap.size x7 cp7 c.roots fun j => (((rsk.map wt).getD j 0:Nat):Int)):=HO17.out.eq fun j hj => HH17.out.hp.root j hj
        have e41a:IntKind.i64.wrap ((k:Int) + 1) = (k:Int) + 1:=IntWalk.i64_in _ (by omega)
        have e41c:((k:Int) + 1) % 2 = (kn:Int):=by omega
        have e41b:((k:Int) + 1).tmod 2 = (kn:Int):=by rw [Int.tmod_eq_emod_of_nonneg (by omega)]; exact e41c
        have e41d:IntKind.i64.wrap (kn:Int) = (kn:Int):=IntWalk.i64_in _ (by omega)
        have t1:((kn:Int) != (kn:Int)) = false:=by simp
        have t2:((u1':Int) != (u1':Int)) = false:=by simp
        clear hkn hkn1
        have n0:=HX17.out.cell 0 rfl
        have n1:=HX17.out.cell 1 rfl
        have c0:=HC17.out.cell 0 rfl
        have c1:=HC17.out.cell 1 rfl
        have c2:=HC17.out.cell 2 rfl
        go_wp2_with fail
        refine HCK.out.mono ?_
        rintro e w18 ⟨rfl,k18⟩
        have HK1718:=hid k18
        have HX18:=hid (k18.at HX17.out (by simp))
        clear k18 n0 n1 c0 c1 c2 e41a e41b e41c e41d t1 t2 HCK
        go_upto_region 43 with fail
        have HCEL:Hid (∀ w',Keeps [] w18 w' → (w'.cell? ⟨cb,0,none⟩ = some (.int .i64 c.log) ∧ w'.cell? ⟨cb,1,none⟩ = some (.int .i64 c.roots) ∧ w'.cell? ⟨cb,2,none⟩ = some (.int .i64 c.space) ∧
          w'.cell? ⟨bb,0,none⟩ = some (.int .i64 0) ∧ w'.cell? ⟨bb,1,none⟩ = some (.int .i64 (us:Nat)) ∧ w'.cell? ⟨bb,2,none⟩ = some (.slice x c.roots cp) ∧
          w'.cell? ⟨nb,0,none⟩ = some (.int .i64 (kn:Nat)) ∧ w'.cell? ⟨nb,1,none⟩ = some (.int .i64 (u1':Nat)) ∧ w'.cell? ⟨nb,2,none⟩ = some (.slice x7 c.roots cp7))):=fun w' hk => by
         have e3:=(HK1718.out.trans hk).at HC17.out (by simp)
         have e4:=(HK1718.out.trans hk).at HB17.out (by simp)
         have e5:=hk.at HX18.out (by simp)
         exact ⟨e3.cell 0 rfl,e3.cell 1 rfl,e3.cell 2 rfl,e4.cell 0 rfl,e4.cell 1 rfl,e4.cell 2 rfl,e5.cell 0 rfl,e5.cell 1 rfl,e5.cell 2 rfl⟩
        have HCLO:=hid (fun (w':World) (hk:Keeps [] w18 w') => cloneU_any w' x7 c.roots cp7 _ ((HOR17.out.keep HK1718.out (by simp)).keep hk (by simp)).rd (by omega))
        have HROW:=hid (fun (w':World) (hk:Keeps [] w18 w') => (HO15.out.keep HK1517.out (by simp)).keep (HK1718.out.trans hk) (by simp))
        have HLEN:Hid (c.roots + M ≤ 100000 ∧ c.roots + M ≤ 1000):=by show _ ∧ _; omega
        have HSAM:Hid (∀ (w':World) (B9:Nat) (x9:Option Addr) (cp9:Nat),Keeps [] w18 w' → OwnU w' B9 x9 cp9 (c.roots + M) (fun i => if i < c.roots then (((rsk.map wt).getD i 0:Nat):Int) else (((wsk.map wt).getD (i - c.roots) 0:Nat):Int)) →
          Calls Tryz.prog 24 #[ptr ae.d,cfgV c,bkV 0 us (.slice x c.roots cp), .slice xf (c.roots + M) cf9,ptr a.d,bkV kn u1' (.slice x7 c.roots cp7), .slice x9 (c.roots + M) cp9] w' fun e w'' => e = .returned (.bool true) ∧ Keeps [] w' w''):=fun w' B9 x9 cp9 hk hO9 => by
         have hkA:Keeps (q.bl p a ++ blkL xx) w13 w':=HK15.out.trans (((HK1517.out.trans HK1718.out).trans hk).mono (by simp))
         have hDn:=((HH17.out.keep0 HK1718.out).keep0 hk).sh.pw.dev
         have hDo:Dev w' pe ae So:=HDE.out.1.keep hkA (HAP.out.2.2.2.2.2 _ (by simp)) (HAP.out.2.2.2.2.2 _ (by simp)) (HAP.out.2.2.2.2.2 _ (by simp)) (HAP.out.2.2.2.2.2 _ (by simp))
         have hfr:=frm_le HO.out.small (show (0:Nat) ≤ 2 by omega)
         refine same14_at w' pe ae So hDo p a S14 hDn c HO.out (by rw [HDE.out.2.1]; exact HN.out) HN.out 0 us kn u1' (by omega) HKN.out.2 HFS.out.1 (by have:=HFS.out.1; have:=HLS.out.2.2.2; omega) _ _
          (fun j h1 h2 => ?_) (fun j h1 h2 => ?_) LS (PSk.map wt) HSM14.out.1 (by rw [← HLS.out.2.1]; omega) xf (c.roots + M) cf9 (fun i => (rs ++ WL).getD i 0) (fun i => (rsk.map wt ++ wsk.map wt).getD i 0)
          (HOF13.out.keep hkA HAP.out.2.2.2.1).rd x9 cp9 (hO9.eq fun i hi => ?_).rd HLEN.out.2 HSM14.out.2
         ·rw [HDE.out.2.2.1 j (by have:=HFS.out; have:=frm_space (c:=c) 0 (by omega); have:=HN.out; omega)]
          exact HX9.out j h1 h2
         ·exact HH17.out.hp.wd.sp j (Nat.le_trans (by rw [show c.frm 0 = up8 (c.root c.roots) from by show up8 _ + 0 * _ = _; omega]; exact Nat.le_add_right _ _) h1) (by have:=HFS.out; have:=HLS.out.2.2.2; have:=frm_space (c:=c) kn HKN.out.2; have:=HN.out; omega)
         ·show ((if i < c.roots then _ else _:Int)) = _
          rw [getD_app2,List.length_map,HHK.out.hp.rl]
          by_cases h:i < c.roots
          ·rw [if_pos h,if_pos h]
          ·rw [if_neg h,if_neg h]
        have kk:Keeps [] w18 w18.drew:=(Keeps.refl [] w18).drew
        go_region_held3 (fun w' => w'.cell? ⟨cb,0,none⟩ = some (.int .i64 c.log) ∧ w'.cell? ⟨cb,1,none⟩ = some (.int .i64 c.roots) ∧ w'.cell? ⟨cb,2,none⟩ = some (.int .i64 c.space) ∧
          w'.cell? ⟨bb,0,none⟩ = some (.int .i64 0) ∧ w'.cell? ⟨bb,1,none⟩ = some (.int .i64 (us:Nat)) ∧ w'.cell? ⟨bb,2,none⟩ = some (.slice x c.roots cp) ∧
          w'.cell? ⟨nb,0,none⟩ = some (.int .i64 (kn:Nat)) ∧ w'.cell? ⟨nb,1,none⟩ = some (.int .i64 (u1':Nat)) ∧ w'.cell? ⟨nb,2,none⟩ = some (.slice x7 c.roots cp7))
         (first | exact HCEL.out _ k10 | exact HCEL.out _ k9 | exact HCEL.out _ k8 | exact HCEL.out _ kk)
         (first
           | (go_at_call 12; refine (HCLO.out _ kk).mono ?_; rintro e w' ⟨x8,c8,rfl,hO8,hk8⟩; have k8:=kk.trans hk8)
           | (refine app2U_step rfl _ _ rfl w18.heap.size w6.heap.size x8 xx c8 c.roots cc M _ _ rfl rfl (hO8.low kk.size) (HROW.out _ k8) HLEN.out.1 k8.size ?_; intro x9 cp9 w9' hO9 hk9 hx9; have k9:Keeps [] w18 w9':=k8.new hk9 (fun b hb => .inr (Nat.le_trans kk.size (hO8.ge b hb).1)))
           | (go_at_call 24; refine (HSAM.out _ _ _ _ k9 hO9).mono ?_; rintro e w' ⟨rfl,hk10⟩; have k10:=k9.trans hk10))
        have HK18E:=hid ((HK1517.out.trans HK1718.out).trans k10)
        have HK18N:=hid (HK1718.out.trans k10)
        rename_i hHd
        clear hHd hO9 hk9 hx9 hO8 hk8 hk10 k8 k9 k10 kk
        have hkE:(1 - k % 2) = (k + 1) % 2:=by omega
        have HNEW:Hid (Hp p a q c ((k + 1) % 2) u1' (rsk.map wt) (wsk.map wt) (hdL P.S PSk) u14 S14 r14 w' ∧ (wsk.map wt).length = M ∧ OwnU w' w6.heap.size xx cc M (fun j => (((wsk.map wt).getD j 0:Nat):Int)) ∧
          (PSk.map wt = rcF S14 c ((k + 1) % 2) u1' (rsk.map wt ++ wsk.map wt) ∧ szF S14 (PSk.map wt) = u1' ∧ SamI So S14 c 0 us ((k + 1) % 2) u1' LS (PSk.map wt) ∧ (∀ i,i < c.roots + M → PairOk LS (PSk.map wt) ((rs ++ WL).getD i 0) ((rsk.map wt ++ wsk.map wt).getD i 0))) ∧
          (k + 1 = 0 ∨ ShutG p a (-1) u14 S14 q c r14 w') ∧ u14 ≤ 300000 + 2000000000 * ((k + 1:Nat):Int) ∧ r14 ≤ k + 1 ∧ Keeps (q.bl p a ++ blkL xx) w13 w'):=by
         have e:kn = (k + 1) % 2:=HKN.out.1.trans hkE
         have h1:=HH17.out.keep0 HK18N.out
         have h2:=HN14.out
         have h3:=HSM14.out
         rw [e] at h1 h2 h3
         exact ⟨h1,by rw [List.length_map]; exact HPSK.out.2.2.2.2,HO15.out.keep HK18E.out (by simp),⟨h2.1,h2.2,h3.1,h3.2⟩, .inr (HG15.out.keep0 HK18E.out),by have:=HU14.out; have:=HUK.out; omega,by have:=HU14.out; have:=HUK.out; omega,HK15.out.trans (HK18E.out.mono (by simp))⟩
        clear hkE
        go_wp2_with fail
        go_roundg (1 + Q9 - (k + 1))
        case measure => (have:=HR3.out; have:=HQ9.out; omega)
        case rel => exact ⟨k + 1,u1',u14,S14,r14,rsk.map wt,wsk.map wt,PSk.map wt,_,by have:=HR3.out; have:=HQ9.out; omega,by go_num,HNEW.out⟩
theorem flipCollects_walk (l r s:Int) (y:Option Addr) (m cm:Nat) (z:Nat → Nat → Int) (y1:Option Addr) (mn cn:Nat) (g:Nat → Int) (y2:Option Addr) (mf cf:Nat) (h:Nat → Int) (tm:Int) (W:World) (wl:(Lit.int .u16 l).wf = true) (wr:(Lit.int .u16 r).wf = true) (ws:(Lit.int .u16 s).wf = true)
  (R2:m * 2 = 0 ∨ ∃ b off,y = some ⟨b,off,none⟩ ∧ b < W.heap.size ∧ ∀ i j,i < m → j < 2 → W.cell? ⟨b,off + (i * 2 + j),none⟩ = some (.int ((fun j => if j = 0 then IntKind.u8 else IntKind.u8) j) (z i j)) ∧ (Lit.int ((fun j => if j = 0 then IntKind.u8 else IntKind.u8) j) (z i j)).wf = true) (hm:m ≤ maxLen)
  (R:ReadsV (Value.int .u16) W y1 mn g) (hg:∀ i,i < mn → (Lit.int .u16 (g i)).wf = true) (hmn:mn ≤ maxLen)
  (R3:ReadsV (Value.int .u16) W y2 mf h) (hh:∀ i,i < mf → (Lit.int .u16 (h i)).wf = true) (hmf:mf ≤ maxLen) (wtm:(Lit.int .u8 tm).wf = true) :
  Calls Tryz.prog 3 #[.agg #[.int .u16 l, .int .u16 r, .int .u16 s], .slice y m cm, .slice y1 mn cn, .slice y2 mf cf, .int .u8 tm] W fun e w' => e = .returned (.bool true) ∧ Below W.heap.size W w':=by
 obtain ⟨l,rfl,hl⟩:=c3_open wl
 obtain ⟨r,rfl,hr⟩:=c3_open wr
 obtain ⟨s,rfl,hs⟩:=c3_open ws
 obtain ⟨tm,rfl,htm⟩:=u8_open wtm
 exact fcoll_small l r s y m cm _ _ y1 mn cn _ y2 mf cf _ tm W hl hr hs (readsH_of R2) (by unfold maxLen at hm; omega) (reads16_any R hg) (by unfold maxLen at hmn; omega) (reads16_any R3 hh) (by unfold maxLen at hmf; omega) htm
end Go.Proofs.YtaidmbdkbjgojaaGreat
