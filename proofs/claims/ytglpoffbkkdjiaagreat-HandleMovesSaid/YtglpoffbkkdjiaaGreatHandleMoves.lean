import Derived.Test.YtglpoffbkkdjiaaGreatMov
namespace Go.Proofs.YtglpoffbkkdjiaaGreat
open Go.RowKit Go.OpenShut
set_option maxRecDepth 100000 in
set_option maxHeartbeats 1000000 in
theorem hmoves_great (y:Option Addr) (n cp:Nat) (W:World) (d q:Nat) (hn:40 < n) :
  Calls Tryz.prog 5 #[.slice y n cp, .int .u8 (d:Nat), .int .u8 (q:Nat)] W fun e w' => e = .returned (.bool true) ∧ Below W.heap.size W w':=by
 have hn2:(40:Int) < (n:Int):=by omega
 go_enter Tryz.func5,Tryz.ntmps5
 go_wp2_with fail
 refine (awake16_any _).mono ?_
 rintro e w1 ⟨rfl,hb1⟩
 have K1:Keeps [] W w1:=(((Keeps.refl [] W).alloc _).alloc _).trans (Go.Proofs.YtglpoffbkkdjiaaGreat.Below.keeps hb1 [])
 clear hb1
 go_wp2_with fail
 go_ret
 exact ⟨rfl,K1.below (Nat.le_refl _) (by simp)⟩
set_option maxRecDepth 100000 in
set_option maxHeartbeats 4000000 in
theorem hmoves_small (y:Option Addr) (n cp:Nat) (F:Nat → Nat) (W:World) (hR:ReadsB W y n F) (d q:Nat) (hd:d ≤ 255) (hq:q ≤ 255) (hn:n ≤ 40) :
  Calls Tryz.prog 5 #[.slice y n cp, .int .u8 (d:Nat), .int .u8 (q:Nat)] W fun e w' => e = .returned (.bool true) ∧ Below W.heap.size W w':=by
 have hmk:=fun w:World => run_makeMap (P:=Tryz.prog) (w:=w) 32
 have hn2:(n:Int) ≤ 40:=by omega
 have HR:=hid hR
 have hB0:=(At.new W (byO d)).alloc (byO q)
 have hG0:=At.new (W.alloc (byO d)) (byO q)
 have K0:=((Keeps.refl [] W).alloc (byO d)).alloc (byO q)
 simp only [World.size_alloc] at hG0
 obtain ⟨db,hdb⟩:∃ db,db = W.heap.size:=⟨_,rfl⟩
 obtain ⟨qb,hqb⟩:∃ qb,qb = W.heap.size + 1:=⟨_,rfl⟩
 obtain ⟨w0,hw0⟩:∃ w0,w0 = (W.alloc (byO d)).alloc (byO q):=⟨_,rfl⟩
 rw [← hw0] at hB0 hG0 K0
 rw [← hdb] at hB0
 rw [← hqb] at hG0
 have HDQ:Hid (W.heap.size ≤ db ∧ W.heap.size ≤ qb ∧ db ≠ qb):=⟨by omega,by omega,by omega⟩
 clear hR
 go_enter Tryz.func5,Tryz.ntmps5
 go_upto_region 1 with fail
 first | rw [← hw0] | skip
 rw [← hqb, ← hdb]
 clear hw0 hdb hqb
 go_wp2_with fail
 refine (awake16_any _).mono ?_
 rintro e w1 ⟨rfl,hb1⟩
 have k1:Keeps [] w0 w1:=Go.Proofs.YtglpoffbkkdjiaaGreat.Below.keeps hb1 []
 have hB1:=k1.at hB0 (by simp)
 have hG1:=k1.at hG0 (by simp)
 have K1:=K0.trans k1
 clear hb1 k1 hB0 hG0 K0
 go_wp2_with fail
 refine (hnew_at w1).mono ?_
 rintro e w2 ⟨x,rfl,hT2,hk2,hx⟩
 have hal:=Keeps.alloc (Keeps.refl [] w2) (.map #[] 0)
 have hT3:=hT2.keep hal (by simp)
 have hM3:=IMap.made w2
 have hB3:=(hk2.trans hal).at hB1 (by simp)
 have hG3:=(hk2.trans hal).at hG1 (by simp)
 have K3:=(K1.trans hk2).trans hal
 have HX:Hid (∀ b ∈ x.bl,W.heap.size ≤ b ∧ b ≠ w2.heap.size ∧ b ≠ db ∧ b ≠ qb):=fun b hb => ⟨Nat.le_trans K1.size (hx b hb),by have:=hT2.lt b hb; omega,by have:=hx b hb; have:=hB1.lt; omega,by have:=hx b hb; have:=hG1.lt; omega⟩
 have HSB:Hid (W.heap.size ≤ w2.heap.size ∧ w2.heap.size ≠ db ∧ w2.heap.size ≠ qb):=⟨(K1.trans hk2).size,by have:=hk2.size; have:=hB1.lt; omega,by have:=hk2.size; have:=hG1.lt; omega⟩
 obtain ⟨sb,hsb⟩:∃ sb,sb = w2.heap.size:=⟨_,rfl⟩
 obtain ⟨w3,hw3⟩:∃ w3,w3 = w2.alloc (.map #[] 0):=⟨_,rfl⟩
 go_upto_region 7 with fail
 rw [← hsb] at HX HSB hM3 ⊢
 rw [← hw3] at hT3 hM3 K3 hB3 hG3 ⊢
 have HT3:=hid hT3
 have HM3:=hid hM3
 have HK3:=hid K3
 have HB3:=hid hB3
 have HG3:=hid hG3
 clear hsb hw3 hT2 hk2 hx hal hT3 hM3 K1 K3 hmk hB1 hG1 hB3 hG3
 go_wp2_with fail
 go_loopg [10,29] n (fun r s10 s29 wr => ∃ (k m:Nat) (g:Nat → Nat),k + r = n ∧ s29 = .int .i64 k ∧ TabW wr x m g ∧ (∃ E,IMap wr sb E ∧ Pl g E) ∧ (∀ i,1 ≤ i → i ≤ m → g i ≠ 0) ∧ (∀ i,g i ≤ 256) ∧ m ≤ k ∧ Keeps (sb :: x.bl) w3 wr)
 case atStart => exact ⟨0,0,fun _ => 0,by omega,rfl,HT3.out,⟨_,HM3.out,pl_nil⟩,fun i h1 h2 => by omega,fun i => Nat.zero_le _,by omega,Keeps.refl _ _⟩
 case round =>
  obtain ⟨k,m,g,hk,rfl,hT,⟨E,hE,hPl⟩,hful,hle,hmk,hK⟩:=hrel
  have HT:=hid hT
  have HE:=hid hE
  have HPL:=hid hPl
  have HF:=hid hful
  have HLE:=hid hle
  have HK:=hid hK
  have HK0:Hid (Keeps [] W wr):=hid (HK3.out.new hK (fun b hb => .inr (by
   rcases List.mem_cons.1 hb with h | h
   ·rw [h]; exact HSB.out.1
   ·exact (HX.out b h).1)))
  clear hT hE hPl hful hK hle
  by_cases hlt:k < n
  ·have hlti:(k:Int) < (n:Int):=by omega
   obtain ⟨b,off,rfl,hb,hc⟩:=(HR.out.keep HK0.out (by simp)).1.resolve_left (by omega)
   have d0:=hc k hlt
   have hv:=HR.out.2 k
   obtain ⟨v,hve⟩:∃ v,v = F k:=⟨_,rfl⟩
   rw [← hve] at d0 hv
   have hvi:(v:Int) ≤ 255:=by omega
   have hpe:((1 + v:Nat):Int) = 1 + (v:Int):=by omega
   have HC:=hid (htake_any wr x m g (1 + v) HT.out (by omega) (by omega) (by omega))
   rw [hpe] at HC
   have HPE:=hid hpe
   clear hc hb hve hpe
   go_wp2_with fail
   refine HC.out.mono ?_
   rintro e w4 ⟨t,m1,g1,rfl,hT4,hgt,hor,hk4⟩
   have hM4:=HE.out.keep hk4 (fun h => (HX.out sb h).2.1 rfl)
   have HT4:=hid hT4
   have HK4:=hid hk4
   have HOR:=hid (And.intro hgt hor)
   clear hT4 hgt hor hk4 HC d0
   go_wp2_with (at_mapUpdate; refine wpList_update_at rfl _ _ _ _ rfl 3 3 Tryz.underlying32 Tryz.underlying3 sb _ rfl hM4 (1 + (v:Int)) (.int .i64 (t:Nat)) rfl rfl ?_; intro w5 hm5 hk5; have HM5:=hid hm5; have HK5:=hid hk5; clear hm5 hk5 hM4)
   go_roundg (n - (k + 1))
   case measure => omega
   case rel =>
    have hK5:Keeps (sb :: x.bl) w3 w5:=(HK.out.trans (HK4.out.mono fun b _ h => List.mem_cons_of_mem _ h)).trans (HK5.out.mono fun b _ h => by rw [List.mem_singleton.1 h]; exact List.mem_cons_self)
    have hT5:=HT4.out.keep HK5.out (fun b hb h => (HX.out b hb).2.1 (List.mem_singleton.1 h))
    obtain ⟨h1,⟨rfl,rfl⟩ | ⟨rfl,rfl,rfl,h2⟩⟩:=HOR.out
    ·refine ⟨k + 1,m1,g1,by omega,by go_num,hT5,⟨_,HM5.out, ?_⟩,HF.out,HLE.out,by omega,hK5⟩
     have h3:=HPL.out.same h1 (by omega)
     rw [HPE.out] at h3
     exact h3
    ·refine ⟨k + 1,m + 1,_,by omega,by go_num,hT5,⟨_,HM5.out, ?_⟩,fun i a1 a2 => ?_,fun i => ?_,by omega,hK5⟩
     ·have h3:=HPL.out.set (k:=m + 1) (v:=1 + v) (by omega) h2 (by
       by_cases hz:g (m + 1) = 0
       ·exact hz
       ·have:=(HT.out.bd _ hz).2.1; omega)
      rw [HPE.out] at h3
      exact h3
     ·by_cases him:i = m + 1
      ·rw [him,upd_on]; omega
      ·rw [upd_off him]; exact HF.out i a1 (by omega)
     ·unfold upd
      split
      ·omega
      ·exact HLE.out i
  ·obtain rfl:k = n:=by omega
   have hBr:=HK.out.at HB3.out (fun h => by
    rcases List.mem_cons.1 h with h | h
    ·exact HSB.out.2.1 h.symm
    ·exact (HX.out db h).2.2.1 rfl)
   have hGr:=HK.out.at HG3.out (fun h => by
    rcases List.mem_cons.1 h with h | h
    ·exact HSB.out.2.2 h.symm
    ·exact (HX.out qb h).2.2.2 rfl)
   have HL:=hid (numL_full HT.out.bd HF.out)
   have HC:=hid (hnumbers_at wr x m g HT.out)
   have hln:(numL m g).length = m:=by rw [HL.out,List.length_range']
   rw [hln] at HC
   have hmi:(m:Int) ≤ 40:=by omega
   have HBr:=hid hBr
   have HGr:=hid hGr
   clear hln hBr hGr HT3 HM3 HB3 HG3 HK HR hk hlt
   go_wp2_with fail
   refine HC.out.mono ?_
   rintro e w4 ⟨y4,cp4,rfl,hO4,hk4⟩
   have HT4:=hid (HT.out.keep hk4 (by simp))
   have HE4:=hid (HE.out.keep hk4 (by simp))
   have HB4:=hid (hk4.at HBr.out (by simp))
   have HG4:=hid (hk4.at HGr.out (by simp))
   have HK4:=hid (HK0.out.trans hk4)
   have HO4:=hid hO4
   have HLT:Hid (∀ b ∈ sb :: db :: qb :: x.bl,b < wr.heap.size):=hid (fun b hb => by
    simp only [List.mem_cons,List.not_mem_nil,or_false] at hb
    rcases hb with rfl | rfl | rfl | h
    ·exact HE.out.lt
    ·exact HBr.out.lt
    ·exact HGr.out.lt
    ·exact HT.out.lt b (by simp only [List.mem_cons,List.not_mem_nil,or_false]; exact h))
   have HDB:Hid (∀ b ∈ x.bl,b ∉ [db]):=hid (fun b hb h => (HX.out b hb).2.2.1 (List.mem_singleton.1 h))
   have HQB:Hid (∀ b ∈ x.bl,b ∉ [qb]):=hid (fun b hb h => (HX.out b hb).2.2.2 (List.mem_singleton.1 h))
   have HMV1:=hid (hmoved_at (mover1 db d hd) w4 x m g HT4.out HB4.out HDB.out (fun b hb => by rw [List.mem_singleton.1 hb]; exact HB4.out.lt) (fun i hi => by have:=HLE.out i; constructor <;> omega) (fun i j hi hj he _ => HT.out.uq (by omega) hi))
   clear hO4 hk4 HC HBr HGr
   go_wp2_with fail
   refine HMV1.out.mono ?_
   rintro e w5 ⟨rfl,hT5,⟨L5,hB5,_,_⟩,hk5⟩
   have hgd:∀ i,mvd (fun p => p + 1 + d) g i ≠ 0 → mvd (fun p => p + 1 + d) g i < 4000 ∧ 1 + d ≤ mvd (fun p => p + 1 + d) g i ∧ mvd (fun p => p + 1 + d) g i - 1 - d = g i:=fun i hi => by
    unfold mvd at hi ⊢
    by_cases h:g i = 0
    ·rw [if_pos h] at hi; exact absurd rfl hi
    ·rw [if_neg h]; have:=HLE.out i; dsimp only; omega
   have HMV2:=hid (hmoved_at (mover2 db d hd) w5 x m _ hT5 hB5 HDB.out (fun b hb => by rw [List.mem_singleton.1 hb]; exact hB5.lt) (fun i hi => ⟨⟨(hgd i hi).1,(hgd i hi).2.1⟩,by have:=hgd i hi; omega⟩) (fun i j hi hj he h0 => by
    have h1:=(hgd i hi).2.2
    have h2:=(hgd j hj).2.2
    exact HT.out.uq (by rw [← h1, ← h2]; exact he) (by rw [← h1]; exact h0)))
   have e5:∀ i,g i = mvd (fun p => p - 1 - d) (mvd (fun p => p + 1 + d) g) i:=fun i => by
    unfold mvd
    by_cases h:g i = 0
    ·simp [h]
    ·rw [if_neg h]; dsimp only; rw [if_neg (by omega)]; omega
   have HK5:=hid hk5
   have HE5:=hid e5
   clear hT5 hB5 hgd e5 hk5 HMV1
   go_wp2_with fail
   refine HMV2.out.mono ?_
   rintro e w6 ⟨rfl,hT6,⟨L6,hB6,_,_⟩,hk6⟩
   have hT6g:=hT6.congr HE5.out
   have hns:∀ b ∈ x.p :: x.n :: [db],b < wr.heap.size ∧ b ≠ sb ∧ b ≠ qb ∧ W.heap.size ≤ b:=fun b hb => by
    simp only [List.mem_cons,List.not_mem_nil,or_false] at hb
    rcases hb with h | h | h
    ·have h1:=HX.out x.p (by simp); have h2:=HLT.out x.p (by simp); rw [h]; exact ⟨h2,h1.2.1,h1.2.2.2,h1.1⟩
    ·have h1:=HX.out x.n (by simp); have h2:=HLT.out x.n (by simp); rw [h]; exact ⟨h2,h1.2.1,h1.2.2.2,h1.1⟩
    ·have h1:=HSB.out; have h2:=HLT.out db (by simp); have h3:=HDQ.out; rw [h]; exact ⟨h2,fun e => h1.2.1 e.symm,h3.2.2,h3.1⟩
   have hk46:=HK5.out.trans hk6
   have hO6:=HO4.out.keep hk46 (fun b hb h => by have h1:=(HO4.out.ge b hb).1; have h2:=(hns b h).1; omega)
   have hE6:=HE4.out.keep hk46 (fun h => (hns sb h).2.1 rfl)
   have HG6:=hid (hk46.at HG4.out (fun h => (hns qb h).2.2.1 rfl))
   have HK6:Hid (Keeps [] W w6):=hid (HK4.out.new hk46 (fun b hb => .inr (hns b hb).2.2.2))
   have HT6:=hid hT6g
   have HO6:=hid hO6
   have hEi:=hE6
   clear hT6 hT6g hk6 hns hk46 hO6 hB6 HMV2 HK5 HE5 HT4 HE4 HB4 HG4 HO4 HK4
   go_wp2_with (at_range; refine wpList_range_at rfl _ _ rfl 3 3 Tryz.underlying32 sb _ rfl hEi ?_; intro w20 cnt hr20 hk20 hz20)
   go_frame
   obtain ⟨ib,hib⟩:∃ ib,ib = w6.heap.size:=⟨_,rfl⟩
   rw [← hib] at hr20 ⊢
   have HIB:Hid (ib ≠ sb ∧ (∀ b ∈ x.bl,b ≠ ib) ∧ W.heap.size ≤ ib ∧ qb ≠ ib ∧ ∀ b ∈ blkL y4,b ≠ ib):=⟨by have:=hE6.lt; omega,fun b hb => by have:=HT6.out.lt b hb; omega,by have:=HK6.out.size; omega,by have:=HG6.out.lt; omega,fun b hb => by have:=(HO6.out.ge b hb).2; omega⟩
   have HT20:=hid (HT6.out.keep hk20 (by simp))
   have HG20:=hid (hk20.at HG6.out (by simp))
   have HO20:=hid (HO6.out.keep hk20 (by simp))
   have HK20:=hid (HK6.out.trans hk20)
   have HE20:=hid (hE6.keep hk20 (by simp))
   clear hEi hE6 hk20 hz20 hib HT6 HG6 HO6 HK6
   go_loopg [12,13,14,15] cnt (fun r _ _ _ _ wr => ∃ left,IRange wr ib sb E left r ∧ Keeps [ib] w20 wr)
   case atStart => exact ⟨_,hr20,Keeps.refl _ _⟩
   case round =>
    obtain ⟨left,hRr,hKr⟩:=hrel
    have hTr:=HT20.out.keep hKr (fun b hb h => HIB.out.2.1 b hb (List.mem_singleton.1 h))
    have HKr:=hid hKr
    have HTr:=hid hTr
    clear hKr hTr
    go_wp2_with (at_next; refine wpList_next_at rfl _ rfl ib sb _ left gk rfl hRr HIB.out.1 ?_ ?_)
    ·intro hr0 hl0
     have HER:=hid hRr.map
     have HKW:Hid (Keeps [] W wr):=hid (HK20.out.new HKr.out (fun b hb => .inr (by rw [List.mem_singleton.1 hb]; exact HIB.out.2.2.1)))
     have HGr:=hid (HKr.out.at HG20.out (fun h => HIB.out.2.2.2.1 (List.mem_singleton.1 h)))
     have HOr:=hid (HO20.out.keep HKr.out (fun b hb h => HIB.out.2.2.2.2 b hb (List.mem_singleton.1 h)))
     have HC:=hid (hnumbers_at wr x m g HTr.out)
     have hln:(numL m g).length = m:=by rw [HL.out,List.length_range']
     rw [hln] at HC
     clear hr0 hl0 hRr hln HK20 HKr HG20 HO20 HE20 HT20 hr20
     go_wp2_with fail
     refine HC.out.mono ?_
     rintro e w21 ⟨y5,cp5,rfl,hO5,hk21⟩
     have HEQ:=hid (equalI_at w21 _ _ y5 y4 m cp5 cp4 _ _ hO5 (HOr.out.keep hk21 (by simp)) (fun _ _ => rfl) (by omega))
     have HT21:=hid (HTr.out.keep hk21 (by simp))
     have HE21:=hid (HER.out.keep hk21 (by simp))
     have HG21:=hid (hk21.at HGr.out (by simp))
     have HK21:=hid (HKW.out.trans hk21)
     clear hO5 hk21 HC HTr HER HGr HOr HKW
     go_wp2_with fail
     refine HEQ.out.mono ?_
     rintro e w22 ⟨rfl,hk22⟩
     have hT22:=HT21.out.keep hk22 (by simp)
     have hG22:=hk22.at HG21.out (by simp)
     have HE22:=hid (HE21.out.keep hk22 (by simp))
     have HK22:=hid (HK21.out.trans hk22)
     have HMV3:=hid (hmoved_at (mover3 qb q hq) w22 x m g hT22 hG22 HQB.out (fun b hb => by rw [List.mem_singleton.1 hb]; exact hG22.lt) (fun i hi => by
      have:=HLE.out i
      refine ⟨by omega, ?_⟩
      split <;> omega) (fun i j hi hj he h0 => by
      by_cases h1:g i = 1 + q
      ·rw [if_pos h1] at h0; exact absurd rfl h0
      ·rw [if_neg h1] at he
       by_cases h2:g j = 1 + q
       ·rw [if_pos h2] at he; exact absurd he hi
       ·rw [if_neg h2] at he; exact HT.out.uq he hi))
     clear hT22 hG22 hk22 HEQ HT21 HE21 HG21 HK21
     go_wp2_with fail
     refine HMV3.out.mono ?_
     rintro e w23 ⟨rfl,hT23,⟨L7,hG23,_,_⟩,hk23⟩
     have hns:∀ b ∈ x.p :: x.n :: [qb],b ≠ sb ∧ W.heap.size ≤ b:=fun b hb => by
      simp only [List.mem_cons,List.not_mem_nil,or_false] at hb
      rcases hb with h | h | h
      ·have h1:=HX.out x.p (by simp); rw [h]; exact ⟨h1.2.1,h1.1⟩
      ·have h1:=HX.out x.n (by simp); rw [h]; exact ⟨h1.2.1,h1.1⟩
      ·have h1:=HSB.out; have h3:=HDQ.out; rw [h]; exact ⟨fun e => h1.2.2 e.symm,h3.2.1⟩
     have hE23:=HE22.out.keep hk23 (fun h => (hns sb h).1 rfl)
     have HK23:Hid (Keeps [] W w23):=hid (HK22.out.new hk23 (fun b hb => .inr (hns b hb).2))
     have q0:=hG23.cell 0 rfl
     have hqi:(q:Int) ≤ 255:=by omega
     have hqe:((1 + q:Nat):Int) = 1 + (q:Int):=by omega
     have HT23:=hid hT23
     have HG23:=hid hG23
     clear hns hk23 HMV3 HK22 HE22 hT23
     have hno:∀ i,mvd (fun p => if p = 1 + q then 0 else p) g i ≠ 1 + q:=fun i => by
      unfold mvd
      by_cases h:g i = 0
      ·rw [if_pos h]; omega
      ·rw [if_neg h]
       dsimp only
       by_cases h1:g i = 1 + q
       ·rw [if_pos h1]; omega
       ·rw [if_neg h1]; exact h1
     by_cases hex:∃ i,g i = 1 + q
     ·obtain ⟨i,hi⟩:=hex
      have hbd:=HT.out.bd i (by omega)
      have hRL:(Instr.lookup 32 (.map (some sb)) (.int .i64 (1 + (q:Int))) true).run Tryz.prog w23 = .ok (.tuple #[.int .i64 (i:Nat), .bool true]) w23:=by
       rw [← hqe,hE23.lookup Tryz.underlying32 Tryz.underlying3 (zeroI w23) (1 + q:Nat) true, ← hi,HPL.out.1 i (by omega)]
       rfl
      have HPC:=hid (hplace_at w23 x m _ (i:Nat) HT23.out)
      have e1:mvd (fun p => if p = 1 + q then 0 else p) g i = 0:=by
       unfold mvd
       rw [if_neg (by omega)]
       dsimp only
       rw [if_pos hi]
      rw [Int.toNat_natCast,if_pos (by omega),e1,decide_eq_false (by simp)] at HPC
      have HTK:=hid (htake_new w23 x m _ (1 + q) HT23.out hno (by omega) (by omega) (by omega))
      have hme:((m + 1:Nat):Int) = (m:Int) + 1:=by omega
      rw [hqe,hme] at HTK
      clear hi hbd e1 hqe hE23 hno hme
      go_wp2_with fail
      refine HPC.out.mono ?_
      rintro e w24 ⟨rfl,rfl⟩
      clear hRL HPC
      go_wp2_with fail
      refine HTK.out.mono ?_
      rintro e w25 ⟨rfl,hT25,hk25⟩
      have HK25:=hid (HK23.out.new hk25 (fun b hb => .inr (HX.out b hb).1))
      clear hT25 hk25 HTK
      go_wp2_with fail
      go_ret
      exact ⟨rfl,HK25.out.below (Nat.le_refl _) (by simp)⟩
     ·have hRL:(Instr.lookup 32 (.map (some sb)) (.int .i64 (1 + (q:Int))) true).run Tryz.prog w23 = .ok (.tuple #[.int .i64 0, .bool false]) w23:=by
       rw [← hqe,hE23.lookup Tryz.underlying32 Tryz.underlying3 (zeroI w23) (1 + q:Nat) true,HPL.out.none (fun i _ h => hex ⟨i,h⟩)]
       rfl
      have HPC:=hid (hplace_at w23 x m _ 0 HT23.out)
      have e1:mvd (fun p => if p = 1 + q then 0 else p) g 0 = 0:=by
       unfold mvd
       by_cases h:g 0 = 0
       ·rw [if_pos h]
       ·have:=HT.out.bd 0 h; omega
      rw [Int.toNat_zero,if_pos (by omega),e1,decide_eq_false (by simp)] at HPC
      clear e1 hqe hE23 hno hex
      go_wp2_with fail
      refine HPC.out.mono ?_
      rintro e w24 ⟨rfl,rfl⟩
      clear hRL HPC
      go_wp2_with fail
      go_ret
      exact ⟨rfl,HK23.out.below (Nat.le_refl _) (by simp)⟩
    ·intro kz v w21 cnt' hlk hD hlt' hR3 hk21 hen
     obtain ⟨i,p,hi0,hip,rfl,rfl⟩:∃ i p:Nat,p ≠ 0 ∧ g i = p ∧ kz = (p:Int) ∧ v = .int .i64 (i:Nat):=by
      obtain ⟨i,h1,h2⟩:=HPL.out.2 _ _ hD
      have h3:=HPL.out.1 i h1
      rw [← h2,hD] at h3
      injection h3 with h3
      exact ⟨i,g i,h1,rfl,h2,h3⟩
     have hT21:=HTr.out.keep hk21 (fun b hb h => HIB.out.2.1 b hb (List.mem_singleton.1 h))
     have HPC:=hid (hplace_at w21 x m g (i:Nat) hT21)
     rw [Int.toNat_natCast,if_pos (by omega),hip,decide_eq_true ⟨by omega,hi0⟩] at HPC
     have HTK:=hid (htake_had w21 x m g i p hT21 hip hi0)
     have HR3:=hid hR3
     have HK21:=hid (HKr.out.trans hk21)
     have HCN:=hid hlt'
     clear hlk hD hlt' hR3 hk21 hT21 hi0 hip hRr
     go_wp2_with fail
     refine HPC.out.mono ?_
     rintro e w24 ⟨rfl,rfl⟩
     clear HPC
     go_wp2_with fail
     refine HTK.out.mono ?_
     rintro e w25 ⟨rfl,rfl⟩
     clear HTK
     go_wp2_with fail
     go_roundg cnt'
     case measure => exact HCN.out
     case rel => exact ⟨_,HR3.out,HK21.out⟩
theorem handleMoves_walk (y:Option Addr) (n cp:Nat) (f:Nat → Int) (d q:Int) (W:World) (R:ReadsV (Value.int .u8) W y n f) (hw:∀ i,i < n → (Lit.int .u8 (f i)).wf = true) (_:n ≤ maxLen) (wd:(Lit.int .u8 d).wf = true) (wq:(Lit.int .u8 q).wf = true) :
  Calls Tryz.prog 5 #[.slice y n cp, .int .u8 d, .int .u8 q] W fun e w' => e = .returned (.bool true) ∧ Below W.heap.size W w':=by
 have hd:=bounds_u8 wd
 have hq:=bounds_u8 wq
 obtain ⟨d0,rfl⟩:∃ d0:Nat,d = (d0:Int):=⟨d.toNat,by omega⟩
 obtain ⟨q0,rfl⟩:∃ q0:Nat,q = (q0:Int):=⟨q.toNat,by omega⟩
 by_cases hn:40 < n
 ·exact hmoves_great y n cp W d0 q0 hn
 ·exact hmoves_small y n cp _ W (readsB_any R hw) d0 q0 (by omega) (by omega) (by omega)
end Go.Proofs.YtglpoffbkkdjiaaGreat
