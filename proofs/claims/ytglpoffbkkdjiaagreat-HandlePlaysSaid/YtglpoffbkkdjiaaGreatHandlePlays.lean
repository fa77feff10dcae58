import Derived.Test.YtglpoffbkkdjiaaGreatPly
import Derived.Deep.RegionHeld3
import Derived.Deep.DeepCutAuto
import Derived.Deep.CutBlock
namespace Go.Proofs.YtglpoffbkkdjiaaGreat
open Go.RowKit Go.OpenShut
set_option maxRecDepth 100000 in
set_option maxHeartbeats 1000000 in
theorem hplays_great (y:Option Addr) (n cp:Nat) (W:World) (hn:80 < n) :
  Calls Tryz.prog 3 #[.slice y n cp] W fun e w' => e = .returned (.bool true) ∧ Below W.heap.size W w':=by
 have hn2:(80:Int) < (n:Int):=by omega
 go_enter Tryz.func3,Tryz.ntmps3
 go_wp2_with fail
 refine (awake16_any _).mono ?_
 rintro e w1 ⟨rfl,hb1⟩
 go_wp2_with fail
 go_ret
 exact ⟨rfl,hb1⟩
theorem put_getD (L:List Nat) (v i:Nat):put (fun i => L.getD i 0) L.length v i = (L ++ [v]).getD i 0:=by
 by_cases h:i = L.length
 ·subst h; rw [put_on]; simp
 ·rw [put_off _ _ h]
  by_cases h2:i < L.length
  ·simp [List.getD_eq_getElem?_getD,List.getElem?_append_left h2]
  ·rw [List.getD_eq_getElem?_getD,List.getD_eq_getElem?_getD,List.getElem?_eq_none (by omega),List.getElem?_eq_none (by simp; omega)]
abbrev doO (a b c:Nat):Obj:=.cells #[.int .u8 (a:Nat), .int .u8 (b:Nat), .int .u8 (c:Nat)] 28
structure PlyI (W:World) (w:World) (x:Tb) (m:Nat) (g:Nat → Nat) (y:Option Addr) (cy:Nat) (G:Nat):Prop where
 tab:TabW w x m g
 row:OwnI w W.heap.size y cy m (fun i => g (i + 1))
 ge:∀ b ∈ x.bl,W.heap.size ≤ b ∧ b ∉ blkL y
 le:∀ i,g i ≤ G
 keep:Keeps [] W w
set_option maxRecDepth 100000 in
set_option maxHeartbeats 4000000 in
theorem hplays_small (y:Option Addr) (n cp:Nat) (R A B:Nat → Nat) (W:World) (hR:ReadsD W y n R A B) (hn:n ≤ 80) :
  Calls Tryz.prog 3 #[.slice y n cp] W fun e w' => e = .returned (.bool true) ∧ Below W.heap.size W w':=by
 have hn2:(n:Int) ≤ 80:=by omega
 have HR:=hid hR
 clear hR
 go_enter Tryz.func3,Tryz.ntmps3
 go_wp2_with fail
 refine (awake16_any _).mono ?_
 rintro e w1 ⟨rfl,hb1⟩
 have K1:Keeps [] W w1:=Go.Proofs.YtglpoffbkkdjiaaGreat.Below.keeps hb1 []
 clear hb1
 go_wp2_with fail
 refine (hnew_at w1).mono ?_
 rintro e w2 ⟨x,rfl,hT2,hk2,hx⟩
 have HI2:Hid (PlyI W w2 x 0 (fun _ => 0) none 0 11):=⟨hT2,ownI_nil _ _ _,fun b hb => ⟨Nat.le_trans K1.size (hx b hb),by simp [blkL]⟩,fun i => Nat.zero_le _,K1.trans hk2⟩
 clear hT2 hk2 hx K1
 go_wp2_with fail
 go_loopg [4,5,7,8,9,10,11,12,13,14,15,16,17,18,19,20,21,22,23,32] n (fun r s4 s5 s7 s8 s9 s10 s11 s12 s13 s14 s15 s16 s17 s18 s19 s20 s21 s22 s23 s32 wr => ∃ (k m:Nat) (g:Nat → Nat) (y:Option Addr) (cy:Nat),k + r = n ∧ s32 = .int .i64 k ∧ s4 = .int .i64 m ∧ s5 = .slice y m cy ∧ PlyI W wr x m g y cy (11 + 4 * k) ∧ m ≤ k)
 case atStart => exact ⟨0,0,fun _ => 0,none,0,by omega,rfl,rfl,rfl,HI2.out,by omega⟩
 case round =>
  obtain ⟨k,m,g,yy,cy,hk,rfl,rfl,rfl,hI,hmk⟩:=hrel
  have HI:=hid hI
  clear hI HI2
  by_cases hlt:k < n
  ·have hlti:(k:Int) < (n:Int):=by omega
   obtain ⟨b,off,rfl,hb,hc⟩:=(HR.out.keep HI.out.keep).resolve_left (by omega)
   obtain ⟨x0,x1,x2,hr0,hr1,hr2⟩:=hc k hlt
   obtain ⟨kd,hkd⟩:∃ kd,kd = R k:=⟨_,rfl⟩
   obtain ⟨sa,hsa⟩:∃ sa,sa = A k:=⟨_,rfl⟩
   obtain ⟨sc,hsc⟩:∃ sc,sc = B k:=⟨_,rfl⟩
   rw [← hkd] at x0 hr0
   rw [← hsa] at x1 hr1
   rw [← hsc] at x2 hr2
   have hkdi:(kd:Int) ≤ 255:=by omega
   have hsai:(sa:Int) ≤ 255:=by omega
   have hsci:(sc:Int) ≤ 255:=by omega
   have hmi:(m:Int) ≤ 80:=by omega
   clear hkd hsa hsc hb hc
   go_upto_region 11 with fail
   have hS4:=At.new wr (doO kd sa sc)
   have hk4:=Keeps.alloc (Keeps.refl [] wr) (doO kd sa sc)
   have hI4:PlyI W (wr.alloc (doO kd sa sc)) x m g yy cy (11 + 4 * k):=⟨HI.out.tab.keep hk4 (by simp),HI.out.row.keep hk4 (by simp),HI.out.ge,HI.out.le,HI.out.keep.trans hk4⟩
   have hlts:∀ b ∈ x.bl,b < wr.heap.size:=HI.out.tab.lt
   have hlty:∀ b ∈ blkL yy,b < wr.heap.size:=fun b hb => (HI.out.row.ge b hb).2
   have hsz:W.heap.size ≤ wr.heap.size:=HI.out.keep.size
   obtain ⟨eb,heb⟩:∃ eb,eb = wr.heap.size:=⟨_,rfl⟩
   obtain ⟨w4,hw4⟩:∃ w4,w4 = wr.alloc (doO kd sa sc):=⟨_,rfl⟩
   rw [← heb] at hS4 hlts hlty hsz ⊢
   rw [← hw4] at hS4 hI4 ⊢
   have HEB:Hid ((∀ b ∈ x.bl,b < eb) ∧ (∀ b ∈ blkL yy,b < eb) ∧ W.heap.size ≤ eb):=⟨hlts,hlty,hsz⟩
   have HI4:=hid hI4
   have HS4:=hid hS4
   have s0:=hS4.cell 0 rfl
   have s1:=hS4.cell 1 rfl
   have hHI:=HI
   clear hI4 hS4 hk4 hlts hlty hsz heb hw4 x0 x1 x2 HI hHI
   obtain ⟨p,hp⟩:∃ p,p = sa % 12:=⟨_,rfl⟩
   have ep:(sa:Int) % 12 = (p:Int):=by omega
   obtain ⟨kx,hkx⟩:∃ kx,kx = kd % 6:=⟨_,rfl⟩
   have ek:(kd:Int) % 6 = (kx:Int):=by omega
   have hp12:p < 12:=by omega
   have hk6:kx < 6:=by omega
   have hpi:(p:Int) ≤ 11:=by omega
   have HPK:=hid (And.intro hp12 (And.intro hk6 (And.intro hp hkx)))
   clear hp hkx
   go_upto_block 2 with fail
   rw [ep,ek]
   clear ep ek s0
   go_cut [4,5,9,10,11,12,13,14,15,16,17,18,19,20] from 43 to 189 (fun s4 s5 s9 s10 s11 s12 s13 s14 s15 s16 s17 s18 s19 s20 wx => ∃ (m1:Nat) (g1:Nat → Nat) (y1:Option Addr) (c1:Nat),s4 = .int .i64 m1 ∧ s5 = .slice y1 m1 c1 ∧ PlyI W wx x m1 g1 y1 c1 (15 + 4 * k) ∧ m1 ≤ k + 1)
   case first =>
    by_cases h3:kx = 3
    ·subst h3
     obtain ⟨nq,hnq⟩:∃ nq,nq = sa % (m + 3):=⟨_,rfl⟩
     have hm3:((m + 3:Nat):Int) = (m:Int) + 3:=by omega
     have e1:(sa:Int).tmod ((m:Int) + 3) = (nq:Int):=by rw [hnq, ← hm3]; exact (Int.ofNat_tmod sa (m + 3)).symm
     have e2:(sa:Int) % ((m:Int) + 3) = (nq:Int):=by rw [hnq, ← hm3]; exact (Int.natCast_emod sa (m + 3)).symm
     have hne:¬ ((m:Int) + 3 = 0):=by omega
     have hnl:nq < m + 3:=by rw [hnq]; exact Nat.mod_lt _ (by omega)
     have e3:IntKind.i64.wrap (nq:Int) = (nq:Int):=IntWalk.i64_in _ (by omega)
     clear hnq hm3
     go_upto_region 23 with fail
     obtain ⟨z,hz⟩:∃ z:Int,z = (nq:Int) - 1:=⟨_,rfl⟩
     rw [← hz]
     have hzl:z < 100:=by omega
     have hzg:-1 ≤ z:=by omega
     clear e1 e2 e3 hne hnl hz s1
     obtain ⟨bb,hbb⟩:∃ bb,bb = decide (0 ≤ z ∧ g z.toNat ≠ 0):=⟨_,rfl⟩
     have HBB:=hid hbb
     have hII:=HI4.out
     go_cut [10] from 72 to 86 (fun sX wx => sX = .bool bb ∧ wx = w4)
     case first =>
      by_cases hz1:1 ≤ z
      ·obtain ⟨j,rfl⟩:∃ j:Nat,z = (j:Int) + 1:=⟨(z - 1).toNat,by omega⟩
       have ej:((j:Int) + 1).toNat = j + 1:=by omega
       rw [ej] at hbb
       have hj0:(0:Int) ≤ (j:Int):=by omega
       by_cases hjm:j + 1 ≤ m
       ·have hji:(j:Int) + 1 ≤ (m:Int):=by omega
        have hji2:(j:Int) < (m:Int):=by omega
        obtain ⟨b2,cur,rfl,_,hA2,hcur⟩:∃ b cur,yy = some ⟨b,0,none⟩ ∧ W.heap.size ≤ b ∧ At w4 b (.cells cur 3) ∧ ∀ i,i < m → cur[i]? = some (.int .i64 (g (i + 1):Nat)):=by
         rcases hII.row.form with ⟨_,h⟩ | h
         ·omega
         ·exact h
        have d0:w4.cell? ⟨b2,j,none⟩ = some (.int .i64 (g (j + 1):Nat)):=hA2.cell j (hcur j (by omega))
        obtain ⟨v,hv⟩:∃ v,v = g (j + 1):=⟨_,rfl⟩
        rw [← hv] at d0 hbb
        clear hcur hA2 hv hII
        by_cases hv0:v = 0
        ·subst hv0
         have hbf:Hid (bb = false):=by show bb = false; rw [hbb]; simp
         clear hbb
         go_wp2_with fail
         go_meet
         exact ⟨by rw [hbf.out],rfl⟩
        ·have hbf:Hid (bb = true):=by show bb = true; rw [hbb]; exact decide_eq_true ⟨by omega,hv0⟩
         have hvi:¬ (v:Int) = 0:=by omega
         have hvb:((v:Int) == 0) = false:=by rw [beq_eq_false_iff_ne]; exact hvi
         clear hbb
         go_wp2_with fail
         go_meet
         exact ⟨by rw [hbf.out]; simp [hv0],rfl⟩
       ·have hji:¬ (j:Int) + 1 ≤ (m:Int):=by omega
        have hbf:Hid (bb = false):=by
         show bb = false
         rw [hbb]
         refine decide_eq_false fun h => ?_
         have:=hII.tab.bd _ h.2; omega
        clear hbb hII
        go_wp2_with fail
        go_meet
        exact ⟨by rw [hbf.out],rfl⟩
      ·have hbf:Hid (bb = false):=by
        show bb = false
        rw [hbb]
        refine decide_eq_false fun h => ?_
        have:=hII.tab.bd _ h.2; omega
       clear hbb hII
       go_wp2_with fail
       go_meet
       exact ⟨by rw [hbf.out],rfl⟩
     case rest =>
     obtain ⟨rfl,rfl⟩:=hcut
     rename World => w4
     clear hII hbb
     have HD:=hid (hdrop_at w4 x m g z HI4.out.tab)
     rw [← HBB.out] at HD
     go_wp2_with fail
     refine HD.out.mono ?_
     rintro e w5 ⟨rfl,hT5,hk5⟩
     have hxp:∀ b ∈ [x.p,x.n],b ∈ x.bl:=fun b hb => by simp only [List.mem_cons,List.not_mem_nil,or_false] at hb ⊢; exact .inr hb
     have hI5:OwnI w5 W.heap.size yy cy m (fun i => g (i + 1)):=HI4.out.row.keep hk5 (fun b hb h => (HI4.out.ge b (hxp b h)).2 hb)
     have HK5:Hid (Keeps [] W w5):=hid (HI4.out.keep.new hk5 (fun b hb => .inr (HI4.out.ge b (hxp b hb)).1))
     have HT5:=hid hT5
     have HI5:=hid hI5
     clear hT5 hk5 hI5 hxp HD
     cases bb with
     | false =>
      go_wp2_with fail
      go_meet
      have hg:∀ i,g i = (if 0 ≤ z then upd g z.toNat 0 else g) i:=fun i => by
       by_cases h0:0 ≤ z
       ·have h1:g z.toNat = 0:=by
         by_cases h2:g z.toNat = 0
         ·exact h2
         ·have:=HBB.out; rw [decide_eq_true ⟨h0,h2⟩] at this; cases this
        rw [if_pos h0,upd_same h1]
       ·rw [if_neg h0]
      exact ⟨m,g,yy,cy,rfl,rfl,⟨HT5.out.congr hg,HI5.out,HI4.out.ge,fun i => by have:=HI4.out.le i; omega,HK5.out⟩,by omega⟩
     | true =>
      have hz2:=of_decide_eq_true HBB.out.symm
      have hbz:=HI4.out.tab.bd _ hz2.2
      obtain ⟨j,rfl⟩:∃ j:Nat,z = (j:Int) + 1:=⟨(z - 1).toNat,by omega⟩
      have ej:((j:Int) + 1).toNat = j + 1:=by omega
      rw [ej] at hbz
      have hjm:(j:Int) < (m:Int):=by omega
      have hj0:(0:Int) ≤ (j:Int):=by omega
      obtain ⟨b2,cur,rfl,hb2,hA2,hcur⟩:∃ b cur,yy = some ⟨b,0,none⟩ ∧ W.heap.size ≤ b ∧ At w5 b (.cells cur 3) ∧ ∀ i,i < m → cur[i]? = some (.int .i64 (g (i + 1):Nat)):=by
       rcases HI5.out.form with ⟨_,h⟩ | h
       ·omega
       ·exact h
      have d0:w5.cell? ⟨b2,j,none⟩ = some (.int .i64 (g (j + 1):Nat)):=hA2.cell j (hcur j (by omega))
      have df:=hA2.free j
      have HZ:=hid (And.intro hb2 (And.intro hbz ej))
      clear hz2 hbz ej hcur hA2 hb2
      go_wp2_with fail
      go_meet
      have hk6:=(Keeps.refl [b2] w5).set (p:=⟨b2,j,none⟩) (.inl (by simp)) (.int .i64 0)
      have hnb:∀ b ∈ x.bl,b ∉ [b2]:=fun b hb h => (HI4.out.ge b hb).2 (by rw [List.mem_singleton.1 h]; simp [blkL])
      have hT6:=HT5.out.keep hk6 hnb
      have hrw:=HI5.out.set (i:=j) (by have:=HZ.out.2.1; omega) 0
      rw [if_pos (by omega),HZ.out.2.2] at hT6
      refine ⟨m,upd g (j + 1) 0,_,cy,rfl,rfl,⟨hT6,hrw.congr fun i hi => ?_,HI4.out.ge,fun i => ?_,HK5.out.new hk6 (fun b hb => .inr (by rw [List.mem_singleton.1 hb]; exact HZ.out.1))⟩,by omega⟩
      ·unfold upd
       by_cases h:i = j
       ·rw [if_pos h,if_pos (by omega)]
       ·rw [if_neg h,if_neg (by omega)]
      ·have:=HI4.out.le i
       unfold upd
       split <;> omega
    ·have t3:((kx:Int) == 3) = false:=by rw [beq_eq_false_iff_ne]; omega
     have u3:(kx == 3) = false:=by rw [beq_eq_false_iff_ne]; exact h3
     by_cases h4:kx = 4
     ·subst h4
      obtain ⟨nq,hnq⟩:∃ nq,nq = sa % (m + 3):=⟨_,rfl⟩
      have hm3:((m + 3:Nat):Int) = (m:Int) + 3:=by omega
      have e1:(sa:Int).tmod ((m:Int) + 3) = (nq:Int):=by rw [hnq, ← hm3]; exact (Int.ofNat_tmod sa (m + 3)).symm
      have e2:(sa:Int) % ((m:Int) + 3) = (nq:Int):=by rw [hnq, ← hm3]; exact (Int.natCast_emod sa (m + 3)).symm
      have hne:¬ ((m:Int) + 3 = 0):=by omega
      have hnl:nq < m + 3:=by rw [hnq]; exact Nat.mod_lt _ (by omega)
      have e3:IntKind.i64.wrap (nq:Int) = (nq:Int):=IntWalk.i64_in _ (by omega)
      clear hnq hm3
      go_upto_region 30 with fail
      obtain ⟨z,hz⟩:∃ z:Int,z = (nq:Int) - 1:=⟨_,rfl⟩
      rw [← hz]
      have hzl:z < 100:=by omega
      have hzg:-1 ≤ z:=by omega
      clear e1 e2 e3 hne hnl hz s1
      obtain ⟨bb,hbb⟩:∃ bb,bb = decide (0 ≤ z ∧ g z.toNat ≠ 0):=⟨_,rfl⟩
      obtain ⟨q0,hq0⟩:∃ q0,q0 = if 0 ≤ z then g z.toNat else 0:=⟨_,rfl⟩
      have HBB:=hid hbb
      have HQ0:=hid hq0
      have HPC:=hid (hplace_at w4 x m g z HI4.out.tab)
      rw [← hbb, ← hq0] at HPC
      clear hbb hq0
      go_wp2_with fail
      refine HPC.out.mono ?_
      rintro e w5 ⟨rfl,hw5⟩
      obtain rfl:w4 = w5:=hw5.symm
      clear hw5 HPC
      go_upto_region 31 with fail
      have hbb:=HBB.out
      have hII:=HI4.out
      go_cut [14] from 112 to 126 (fun sX wx => sX = .bool bb ∧ wx = w4)
      case first =>
       by_cases hz1:1 ≤ z
       ·obtain ⟨j,rfl⟩:∃ j:Nat,z = (j:Int) + 1:=⟨(z - 1).toNat,by omega⟩
        have ej:((j:Int) + 1).toNat = j + 1:=by omega
        rw [ej] at hbb
        have hj0:(0:Int) ≤ (j:Int):=by omega
        by_cases hjm:j + 1 ≤ m
        ·have hji:(j:Int) + 1 ≤ (m:Int):=by omega
         have hji2:(j:Int) < (m:Int):=by omega
         obtain ⟨b2,cur,rfl,_,hA2,hcur⟩:∃ b cur,yy = some ⟨b,0,none⟩ ∧ W.heap.size ≤ b ∧ At w4 b (.cells cur 3) ∧ ∀ i,i < m → cur[i]? = some (.int .i64 (g (i + 1):Nat)):=by
          rcases hII.row.form with ⟨_,h⟩ | h
          ·omega
          ·exact h
         have d0:w4.cell? ⟨b2,j,none⟩ = some (.int .i64 (g (j + 1):Nat)):=hA2.cell j (hcur j (by omega))
         obtain ⟨v,hv⟩:∃ v,v = g (j + 1):=⟨_,rfl⟩
         rw [← hv] at d0 hbb
         clear hcur hA2 hv hII
         by_cases hv0:v = 0
         ·subst hv0
          have hbf:Hid (bb = false):=by show bb = false; rw [hbb]; simp
          clear hbb
          go_wp2_with fail
          go_meet
          exact ⟨by rw [hbf.out],rfl⟩
         ·have hbf:Hid (bb = true):=by show bb = true; rw [hbb]; exact decide_eq_true ⟨by omega,hv0⟩
          have hvi:¬ (v:Int) = 0:=by omega
          have hvb:((v:Int) == 0) = false:=by rw [beq_eq_false_iff_ne]; exact hvi
          clear hbb
          go_wp2_with fail
          go_meet
          exact ⟨by rw [hbf.out]; simp [hv0],rfl⟩
        ·have hji:¬ (j:Int) + 1 ≤ (m:Int):=by omega
         have hbf:Hid (bb = false):=by
          show bb = false
          rw [hbb]
          refine decide_eq_false fun h => ?_
          have:=hII.tab.bd _ h.2; omega
         clear hbb hII
         go_wp2_with fail
         go_meet
         exact ⟨by rw [hbf.out],rfl⟩
       ·have hbf:Hid (bb = false):=by
         show bb = false
         rw [hbb]
         refine decide_eq_false fun h => ?_
         have:=hII.tab.bd _ h.2; omega
        clear hbb hII
        go_wp2_with fail
        go_meet
        exact ⟨by rw [hbf.out],rfl⟩
      case rest =>
      obtain ⟨rfl,rfl⟩:=hcut
      rename World => w4
      clear hII hbb
      have hfin:∃ (m1:Nat) (g1:Nat → Nat) (y1:Option Addr) (c1:Nat),Value.int .i64 m = .int .i64 m1 ∧ Value.slice yy m cy = .slice y1 m1 c1 ∧ PlyI W w4 x m1 g1 y1 c1 (15 + 4 * k) ∧ m1 ≤ k + 1:=by
       have h:=HI4.out
       exact ⟨m,g,yy,cy,rfl,rfl,⟨h.tab,h.row,h.ge,fun i => by have:=h.le i; omega,h.keep⟩,by omega⟩
      have HFIN:=hid hfin
      clear hfin
      cases bb with
      | false =>
       have hq:q0 = 0:=by
        by_cases h0:0 ≤ z
        ·by_cases h2:g z.toNat = 0
         ·rw [HQ0.out,if_pos h0,h2]
         ·have:=HBB.out; rw [decide_eq_true ⟨h0,h2⟩] at this; cases this
        ·rw [HQ0.out,if_neg h0]
       clear HQ0
       subst hq
       go_wp2_with fail
       go_meet
       exact HFIN.out
      | true =>
       have hz2:=of_decide_eq_true HBB.out.symm
       have hbz:=HI4.out.tab.bd _ hz2.2
       obtain ⟨j,rfl⟩:∃ j:Nat,z = (j:Int) + 1:=⟨(z - 1).toNat,by omega⟩
       have ej:((j:Int) + 1).toNat = j + 1:=by omega
       have hq:=HQ0.out
       rw [ej] at hbz hq
       rw [if_pos (by omega)] at hq
       have hjm:(j:Int) < (m:Int):=by omega
       have hj0:(0:Int) ≤ (j:Int):=by omega
       obtain ⟨b2,cur,rfl,hb2,hA2,hcur⟩:∃ b cur,yy = some ⟨b,0,none⟩ ∧ W.heap.size ≤ b ∧ At w4 b (.cells cur 3) ∧ ∀ i,i < m → cur[i]? = some (.int .i64 (g (i + 1):Nat)):=by
        rcases HI4.out.row.form with ⟨_,h⟩ | h
        ·omega
        ·exact h
       have d0:w4.cell? ⟨b2,j,none⟩ = some (.int .i64 (q0:Nat)):=by rw [hq]; exact hA2.cell j (hcur j (by omega))
       clear hz2 hbz ej hcur hA2 hb2 hq
       go_wp2_with fail
       go_meet
       exact HFIN.out
     ·have t4:((kx:Int) == 4) = false:=by rw [beq_eq_false_iff_ne]; omega
      have u4:(kx == 4) = false:=by rw [beq_eq_false_iff_ne]; exact h4
      by_cases h5:kx = 5
      ·subst h5
       obtain ⟨bv,hbv⟩:∃ bv,bv = sa % 5:=⟨_,rfl⟩
       have e5:(sa:Int) % 5 = (bv:Int):=by omega
       obtain ⟨gv,hgv⟩:∃ gv,gv = sc % 12:=⟨_,rfl⟩
       have e12:(sc:Int) % 12 = (gv:Int):=by omega
       have hbl:bv < 5:=by omega
       have hgl:gv < 12:=by omega
       have hbi:(bv:Int) < 5:=by omega
       have hgi:(gv:Int) < 12:=by omega
       have e5t:(sa:Int).tmod 5 = (bv:Int):=by rw [Int.tmod_eq_emod_of_nonneg (by omega)]; exact e5
       have e12t:(sc:Int).tmod 12 = (gv:Int):=by rw [Int.tmod_eq_emod_of_nonneg (by omega)]; exact e12
       have e5w:IntKind.i64.wrap (bv:Int) = (bv:Int):=IntWalk.i64_in _ (by omega)
       have e12w:IntKind.i64.wrap (gv:Int) = (gv:Int):=IntWalk.i64_in _ (by omega)
       clear hbv hgv s1
       go_upto_region 35 with fail
       have HSC:=hid (fun (w':World) (kk:Keeps [] w4 w') => show w'.cell? ⟨eb,1,none⟩ = some (.int .u8 (sa:Nat)) ∧ w'.cell? ⟨eb,2,none⟩ = some (.int .u8 (sc:Nat)) from ⟨(kk.at HS4.out (by simp)).cell 1 rfl,(kk.at HS4.out (by simp)).cell 2 rfl⟩)
       go_cut [15,16] from 152 to 159 (fun s15 s16 wx => ∃ bb gb:Nat,s15 = ptr bb ∧ s16 = ptr gb ∧ bb ≠ gb ∧ w4.heap.size ≤ bb ∧ w4.heap.size ≤ gb ∧ At wx bb (numO bv) ∧ At wx gb (numO gv) ∧ Keeps [] w4 wx)
       case first =>
        go_region_held3 (fun w' => w'.cell? ⟨eb,1,none⟩ = some (.int .u8 (sa:Nat)) ∧ w'.cell? ⟨eb,2,none⟩ = some (.int .u8 (sc:Nat))) (exact HSC.out _ (by repeat' (first | exact Keeps.refl [] w4 | refine Keeps.drew ?_ | refine Keeps.alloc ?_ _ | refine Keeps.set ?_ (.inr (by simp)) _))) (skip)
        all_goals
         go_wp2_with fail
         go_meet
         have n1:=(At.new w4 (numO bv)).alloc (numO gv)
         have n2:=At.new (w4.alloc (numO bv)) (numO gv)
         have n3:=(At.new w4 (numO gv)).alloc (numO bv)
         have n4:=At.new (w4.alloc (numO gv)) (numO bv)
         rw [World.size_alloc] at n2 n4
         first
          | exact ⟨w4.heap.size,w4.heap.size + 1,rfl,rfl,by omega,by omega,by omega,n1,n2,((((Keeps.refl [] w4).alloc _).alloc _).drew)⟩
          | exact ⟨w4.heap.size + 1,w4.heap.size,rfl,rfl,by omega,by omega,by omega,n4,n3,((((Keeps.refl [] w4).alloc _).alloc _).drew)⟩
       case rest =>
        obtain ⟨bb,gb,rfl,rfl,hbg,hb4,hg4,hB5,hG5,hk5⟩:=hcut
        have hmk:=fun w:World => run_makeMap (P:=Tryz.prog) (w:=w) 32
        have heb:eb < w4.heap.size:=HS4.out.lt
        have hM6:=(IMap.made wc).keep ((Keeps.refl [] _).alloc (askO wc.heap.size)) (by simp)
        have hA6:=At.new (wc.alloc (.map #[] 0)) (askO wc.heap.size)
        have hk6:=((Keeps.refl [] wc).alloc (.map #[] 0)).alloc (askO wc.heap.size)
        rw [World.size_alloc] at hA6
        obtain ⟨am,ham⟩:∃ am,am = wc.heap.size:=⟨_,rfl⟩
        obtain ⟨ab,hab⟩:∃ ab,ab = wc.heap.size + 1:=⟨_,rfl⟩
        obtain ⟨w6,hw6⟩:∃ w6,w6 = (wc.alloc (.map #[] 0)).alloc (askO wc.heap.size):=⟨_,rfl⟩
        go_upto_region 37 with fail
        first | rw [← hw6] | skip
        rw [← hab, ← ham]
        rw [← hw6] at hM6 hA6 hk6
        rw [← hab] at hA6
        rw [← ham] at hM6 hA6
        have hl5:w4.heap.size ≤ wc.heap.size:=hk5.size
        have hb5:=hB5.lt
        have hg5:=hG5.lt
        have HNB:Hid ((bb ≠ gb ∧ bb ≠ am ∧ bb ≠ ab ∧ gb ≠ am ∧ gb ≠ ab ∧ am ≠ ab) ∧ eb < bb ∧ eb < gb ∧ eb < am ∧ eb < ab):=⟨⟨hbg,by omega,by omega,by omega,by omega,by omega⟩,by omega,by omega,by omega,by omega⟩
        have hJ6:AskJ w6 ab gb bb am gv bv []:=⟨hA6,hk6.at hG5 (by simp),hk6.at hB5 (by simp),hM6.congr fun z => by unfold askD; rw [if_neg]; simp,by have:=HNB.out; omega⟩
        have hk46:=hk5.trans hk6
        have hT6:=HI4.out.tab.keep hk46 (by simp)
        have hO6:=HI4.out.row.keep hk46 (by simp)
        have HK6:=hid (HI4.out.keep.trans hk46)
        have hgk:∀ i,g i < 400:=fun i => by have:=HI4.out.le i; omega
        have HMV:=hid (hmoved_at (moverP ab gb bb am gv bv (by omega)) w6 x m g hT6 hJ6 (fun b hb h => by
         have h1:=HEB.out.1 b hb
         have h2:=HNB.out
         simp only [List.mem_cons,List.not_mem_nil,or_false] at h
         omega) (fun b h => by
         have h1:=hJ6.box.lt
         have h2:=hJ6.gone.lt
         have h3:=hJ6.by_.lt
         have h4:=hJ6.map.lt
         simp only [List.mem_cons,List.not_mem_nil,or_false] at h
         omega) (fun i hi => by
         have:=hgk i
         refine ⟨by omega, ?_⟩
         split <;> omega) (fun i j hi hj he h0 => by
         by_cases h1:g i = gv
         ·rw [if_pos h1] at h0; exact absurd rfl h0
         ·rw [if_neg h1] at he
          by_cases h2:g j = gv
          ·rw [if_pos h2] at he; omega
          ·rw [if_neg h2] at he; exact hT6.uq (by omega) hi))
        have HO6:=hid hO6
        have HGK:=hid hgk
        clear hab ham hw6 hM6 hA6 hk6 hl5 hb5 hg5 hJ6 hk46 hT6 hO6 hk5 hB5 hG5 hbg hb4 hg4 hmk heb hgk HSC
        go_wp2_with fail
        refine HMV.out.mono ?_
        rintro e w7 ⟨rfl,hT7,⟨L,hJ7,hLn,hLm⟩,hk7⟩
        have hap:∀ b ∈ blkL yy,b ∉ x.p :: x.n :: [ab,gb,bb,am]:=fun b hb h => by
         have h1:=HEB.out.2.1 b hb
         have h2:=HNB.out
         have h3:b ∉ x.bl:=fun h => (HI4.out.ge b h).2 hb
         simp only [List.mem_cons,List.not_mem_nil,or_false] at h h3
         omega
        have hge:∀ b ∈ x.p :: x.n :: [ab,gb,bb,am],W.heap.size ≤ b:=fun b h => by
         have h1:=HEB.out.2.2
         have h2:=HNB.out
         have h3:=(HI4.out.ge x.p (by simp)).1
         have h4:=(HI4.out.ge x.n (by simp)).1
         simp only [List.mem_cons,List.not_mem_nil,or_false] at h
         omega
        have HO7:=hid (HO6.out.keep hk7 hap)
        have HK7:=hid (HK6.out.new hk7 (fun b hb => .inr (hge b hb)))
        have HT7:=hid hT7
        have HJ7:=hid hJ7
        have HLM:=hid hLm
        clear hT7 hJ7 hLn hLm hk7 hap hge HMV HO6 HK6
        go_wp2_with fail
        go_loopg [18,19,166] m (fun r s18 s19 s166 wr => ∃ j:Nat,j + r = m ∧ s166 = .int .i64 j ∧ OwnI wr W.heap.size yy cy m (fun i => if i < j then mvd (fun p => if p = gv then 0 else p + bv) g (i + 1) else g (i + 1)) ∧ Keeps (blkL yy) w7 wr)
        case atStart => exact ⟨0,by omega,rfl,HO7.out.congr fun i _ => by rw [if_neg (by omega)],Keeps.refl _ _⟩
        case round =>
         obtain ⟨j,hj,rfl,hO,hK⟩:=hrel
         have HO:=hid hO
         have HK:=hid hK
         clear hO hK
         by_cases hlj:j < m
         ·have hji:(j:Int) < (m:Int):=by omega
          have hj0:(0:Int) ≤ (j:Int):=by omega
          obtain ⟨b2,cur,rfl,hb2,hA2,hcur⟩:∃ b cur,yy = some ⟨b,0,none⟩ ∧ W.heap.size ≤ b ∧ At wr b (.cells cur 3) ∧ ∀ i,i < m → cur[i]? = some (.int .i64 ((if i < j then mvd (fun p => if p = gv then 0 else p + bv) g (i + 1) else g (i + 1)):Nat)):=by
           rcases HO.out.form with ⟨_,h⟩ | h
           ·omega
           ·exact h
          have d0:wr.cell? ⟨b2,j,none⟩ = some (.int .i64 (g (j + 1):Nat)):=by
           have h:=hA2.cell j (hcur j hlj)
           rw [if_neg (by omega)] at h
           exact h
          have df:wr.frozen? ⟨b2,j,none⟩ = false:=hA2.free j
          have hnb:∀ b ∈ [ab,gb,bb,am],b ∉ blkL (some (⟨b2,0,none⟩:Addr)):=fun b h hb => by
           have h1:=HEB.out.2.1 b hb
           have h2:=HNB.out
           simp only [List.mem_cons,List.not_mem_nil,or_false] at h
           omega
          have hJr:AskJ wr ab gb bb am gv bv L:=⟨HK.out.at HJ7.out.box (hnb _ (by simp)),HK.out.at HJ7.out.gone (hnb _ (by simp)),HK.out.at HJ7.out.by_ (hnb _ (by simp)),HJ7.out.map.keep HK.out (hnb _ (by simp)),HJ7.out.ne⟩
          obtain ⟨q,hq⟩:∃ q,q = g (j + 1):=⟨_,rfl⟩
          rw [← hq] at d0
          have hq4:q < 400:=by rw [hq]; exact HGK.out _
          have hqi:(q:Int) < 400:=by omega
          have HQ:=hid (And.intro hq hb2)
          by_cases hq0:q = 0
          ·subst hq0
           clear hcur hA2 hnb hJr df hb2 hq
           go_wp2_with fail
           go_roundg (m - (j + 1))
           case measure => omega
           case rel =>
            refine ⟨j + 1,by omega,by go_num,HO.out.congr fun i hi => ?_,HK.out⟩
            by_cases hij:i = j
            ·subst hij
             rw [if_neg (by omega),if_pos (by omega)]
             unfold mvd
             rw [if_pos HQ.out.1.symm, ← HQ.out.1]
            ·by_cases h:i < j
             ·rw [if_pos h,if_pos (by omega)]
             ·rw [if_neg h,if_neg (by omega)]
          ·have hqn:¬ (q:Int) = 0:=by omega
           have c17:=hJr.box.cell 0 rfl
           have c16:(wr.setCell ⟨b2,j,none⟩ (.int .i64 ((q:Int) + (bv:Int)))).cell? ⟨gb,0,none⟩ = some (.int .i64 (gv:Nat)):=(hJr.gone.set_ne (a:=⟨b2,j,none⟩) (fun h => hnb gb (by simp) (by rw [h]; simp [blkL])) _).cell 0 rfl
           have c15:=hJr.by_.cell 0 rfl
           have hRL:(Instr.lookup 32 (.map (some am)) (.int .i64 (q:Nat)) false).run Tryz.prog wr = .ok (.int .i64 1) wr:=by
            rw [hJr.map.lookup Tryz.underlying32 Tryz.underlying3 (zeroI wr) (q:Nat) false]
            have e:askD L (q:Nat) = some (.int .i64 1):=if_pos ⟨by omega,by rw [Int.toNat_natCast]; exact (HLM.out q).2 ⟨j + 1,by omega,hq.symm⟩⟩
            rw [e]
            rfl
           have HA2:=hid hA2
           have hset:=fun v => HO.out.set (i:=j) hlj v
           have HST:=hid hset
           have hk1:=fun v:Value => (Keeps.refl [b2] wr).set (p:=⟨b2,j,none⟩) (.inl (by simp)) v
           have HK1:=hid hk1
           by_cases hqg:q = gv
           ·have hA3:=HA2.out.set j (.int .i64 ((q:Int) + (bv:Int)))
            have d3:(wr.setCell ⟨b2,j,none⟩ (.int .i64 ((q:Int) + (bv:Int)))).cell? ⟨b2,j,none⟩ = some (.int .i64 ((q:Int) + (bv:Int))):=hA3.cell j (by rw [Array.getElem?_setIfInBounds]; simp; exact (Array.getElem?_eq_some_iff.1 (hcur j hlj)).1)
            have df3:(wr.setCell ⟨b2,j,none⟩ (.int .i64 ((q:Int) + (bv:Int)))).frozen? ⟨b2,j,none⟩ = false:=hA3.free j
            have HK3:=hid ((Keeps.refl [b2] (wr.setCell ⟨b2,j,none⟩ (.int .i64 ((q:Int) + (bv:Int))))).set (p:=⟨b2,j,none⟩) (.inl (by simp)) (.int .i64 0))
            have e:((q + bv:Nat):Int) = (q:Int) + (bv:Int):=by omega
            have h1:=HST.out (q + bv)
            rw [e] at h1
            have HS3:=hid (h1.set (i:=j) hlj 0)
            subst hqg
            clear hcur hA2 hnb hJr hb2 hq hA3 hset hk1 h1 e
            go_wp2_with fail
            go_roundg (m - (j + 1))
            case measure => omega
            case rel =>
             refine ⟨j + 1,by omega,by go_num,HS3.out.congr fun i hi => ?_,(HK.out.trans (HK1.out _)).trans HK3.out⟩
             by_cases hij:i = j
             ·subst hij
              rw [if_pos rfl,if_pos (by omega)]
              unfold mvd
              rw [if_neg (by rw [← HQ.out.1]; exact hq0), ← HQ.out.1]
              dsimp only
              rw [if_pos rfl]
             ·rw [if_neg hij,if_neg hij]
              by_cases h:i < j
              ·rw [if_pos h,if_pos (by omega)]
              ·rw [if_neg h,if_neg (by omega)]
           ·have t1:((q:Int) == (gv:Int)) = false:=by rw [beq_eq_false_iff_ne]; omega
            have t2:(q == gv) = false:=by rw [beq_eq_false_iff_ne]; exact hqg
            have HQG:=hid hqg
            clear hcur hA2 hnb hJr hb2 hq hset hk1 hqg
            have h1:=HST.out (q + bv)
            have e:((q + bv:Nat):Int) = (q:Int) + (bv:Int):=by omega
            rw [e] at h1
            have HS3:=hid h1
            clear h1 e
            go_wp2_with fail
            go_roundg (m - (j + 1))
            case measure => omega
            case rel =>
             refine ⟨j + 1,by omega,by go_num,HS3.out.congr fun i hi => ?_,HK.out.trans (HK1.out _)⟩
             by_cases hij:i = j
             ·subst hij
              rw [if_pos rfl,if_pos (by omega)]
              unfold mvd
              rw [if_neg (by rw [← HQ.out.1]; exact hq0), ← HQ.out.1]
              dsimp only
              rw [if_neg HQG.out]
             ·rw [if_neg hij]
              by_cases h:i < j
              ·rw [if_pos h,if_pos (by omega)]
              ·rw [if_neg h,if_neg (by omega)]
         ·obtain rfl:j = m:=by omega
          go_wp2_with fail
          go_meet
          refine ⟨j,mvd (fun p => if p = gv then 0 else p + bv) g,yy,cy,rfl,rfl,⟨HT7.out.keep HK.out (fun b hb h => (HI4.out.ge b hb).2 h),HO.out.congr fun i hi => by rw [if_pos hi],HI4.out.ge,fun i => ?_,HK7.out.new HK.out (fun b hb => .inr (HI4.out.row.ge b hb).1)⟩,by omega⟩
          have:=HI4.out.le i
          unfold mvd
          split
          ·omega
          ·dsimp only
           split <;> omega
      ·have t5:((kx:Int) == 5) = false:=by rw [beq_eq_false_iff_ne]; omega
       have u5:(kx == 5) = false:=by rw [beq_eq_false_iff_ne]; exact h5
       have HIX:=hid (indexN_at w4 yy m cy _ W.heap.size p HI4.out.row (by omega))
       clear s1
       go_wp2_with fail
       refine HIX.out.mono ?_
       rintro e w5 ⟨hor,hw5⟩
       obtain rfl:w4 = w5:=hw5
       obtain ⟨z,rfl,hz1,hz2,hz3⟩:∃ z:Int,e = .returned (.int .i64 z) ∧ (∀ j:Nat,z = (j:Int) → j < m ∧ g (j + 1) = p) ∧ (z < 0 → z = -1 ∧ ∀ j,j < m → g (j + 1) ≠ p) ∧ (-1 ≤ z ∧ z < 100):=by
        rcases hor with ⟨j,h1,h2,rfl⟩ | ⟨h1,rfl⟩
        ·exact ⟨(j:Int),rfl,fun i hi => by obtain rfl:i = j:=by omega
                                           exact ⟨h1,h2⟩,fun h => by omega,by omega,by omega⟩
        ·exact ⟨-1,rfl,fun i hi => by omega,fun _ => ⟨rfl,h1⟩,by omega,by omega⟩
       have HZ:=hid (And.intro hz1 hz2)
       obtain ⟨hz4,hz5⟩:=hz3
       clear hor hz1 hz2 HIX
       by_cases hp0:p = 0
       ·subst hp0
        go_wp2_with fail
        refine (htake_zero w4 x.t).mono ?_
        rintro e w5 ⟨rfl,hw5⟩
        obtain rfl:w4 = w5:=hw5.symm
        clear hw5
        go_wp2_with fail
        go_meet
        have h:=HI4.out
        exact ⟨m,g,yy,cy,rfl,rfl,⟨h.tab,h.row,h.ge,fun i => by have:=h.le i; omega,h.keep⟩,by omega⟩
       ·have hpn:¬ (p:Int) = 0:=by omega
        by_cases hz0:0 ≤ z
        ·obtain ⟨j,rfl⟩:∃ j:Nat,z = (j:Int):=⟨z.toNat,by omega⟩
         obtain ⟨hjm,hjp⟩:=HZ.out.1 j rfl
         have hj1:¬ (j:Int) + 1 = 0:=by omega
         have HTK:=hid (htake_had w4 x m g (j + 1) p HI4.out.tab hjp hp0)
         have e1:((j + 1:Nat):Int) = (j:Int) + 1:=by omega
         rw [e1] at HTK
         clear hjp e1
         go_wp2_with fail
         refine HTK.out.mono ?_
         rintro e w5 ⟨rfl,hw5⟩
         obtain rfl:w4 = w5:=hw5.symm
         clear hw5 HTK
         go_wp2_with fail
         go_meet
         have h:=HI4.out
         exact ⟨m,g,yy,cy,rfl,rfl,⟨h.tab,h.row,h.ge,fun i => by have:=h.le i; omega,h.keep⟩,by omega⟩
        ·obtain ⟨rfl,hno⟩:=HZ.out.2 (by omega)
         have hno2:∀ i,g i ≠ p:=fun i hi => by
          have:=HI4.out.tab.bd i (by omega)
          exact hno (i - 1) (by omega) (by rw [show i - 1 + 1 = i by omega]; exact hi)
         have HNO:=hid hno2
         have hrow:=HI4.out.row.keep (Keeps.alloc (Keeps.refl [] w4) (.cells #[.int .i64 (p:Nat)] 3)) (fun _ _ => List.not_mem_nil)
         have hn5:m ≤ 100000:=by omega
         have hB5:W.heap.size ≤ (w4.alloc (.cells #[.int .i64 (p:Nat)] 3)).heap.size:=by have h1:=HI4.out.keep.size; rw [World.size_alloc]; omega
         have hcl:=(At.new w4 (.cells #[.int .i64 (p:Nat)] 3)).cell 0 rfl
         clear hno hno2 hz4 hz5 hz0
         go_wp2_with (at_builtin; refine appN_list rfl _ _ rfl W.heap.size yy cy m _ rfl hrow w4.heap.size 1 p rfl hcl hn5 hB5 ?_; intro g' cap' w5 ho5 hk5 hg5; have HO5:=hid ho5; have HK5:=hid hk5; have HG5:=hid hg5; clear ho5 hk5 hg5 hrow hcl hn5 hB5)
         have hk4:=Keeps.alloc (Keeps.refl [] w4) (.cells #[.int .i64 (p:Nat)] 3)
         have hT5:=(HI4.out.tab.keep hk4 (by simp)).keep HK5.out (fun b hb => (HI4.out.ge b hb).2)
         have HK45:Hid (Keeps [] W w5):=hid ((HI4.out.keep.trans hk4).new HK5.out (fun b hb => .inr (HI4.out.row.ge b hb).1))
         have HTK:=hid (htake_new w5 x m g p hT5 HNO.out hp0 (by omega) (by omega))
         have e1:((m + 1:Nat):Int) = (m:Int) + 1:=by omega
         rw [e1] at HTK
         have HE1:=hid e1
         have hge:∀ b ∈ x.bl,W.heap.size ≤ b ∧ b ∉ blkL (some (⟨g',0,none⟩:Addr)):=fun b hb => ⟨(HI4.out.ge b hb).1,fun h => by
          have h1:b = g':=by simpa [blkL] using h
          rcases HG5.out with h2 | h2
          ·exact (HI4.out.ge b hb).2 (by rw [h2,h1]; simp)
          ·have h3:=HI4.out.tab.lt b hb
           rw [World.size_alloc] at h2
           omega⟩
         have HGE:=hid hge
         clear hk4 hT5 e1 hge
         go_wp2_with fail
         refine HTK.out.mono ?_
         rintro e w6 ⟨rfl,hT6,hk6⟩
         have HT6:=hid hT6
         have HO6:=hid (HO5.out.keep hk6 (fun b hb h => (HGE.out b h).2 hb))
         have HK6:=hid (HK45.out.new hk6 (fun b hb => .inr (HGE.out b hb).1))
         clear hT6 hk6 HTK
         go_wp2_with fail
         go_meet
         refine ⟨m + 1,upd g (m + 1) p,_,cap',by rw [HE1.out],rfl,⟨HT6.out,HO6.out.congr fun i hi => ?_,HGE.out,fun i => ?_,HK6.out⟩,by omega⟩
         ·unfold put upd
          by_cases him:i = m
          ·rw [if_pos him,if_pos (by omega)]
          ·rw [if_neg him,if_neg (by omega)]
         ·have:=HI4.out.le i
          unfold upd
          split <;> omega
   case rest =>
    obtain ⟨m1,g1,y1,c1,rfl,rfl,hI5,hm1⟩:=hcut
    have HI5:=hid hI5
    have hm1i:(m1:Int) ≤ 81:=by omega
    clear hI5 s1 HI4 HS4 HEB
    go_wp2_with fail
    go_loopg [21,22,23,192] m1 (fun r s21 s22 s23 s192 wr => ∃ (j:Nat) (y3:Option Addr) (c3:Nat),j + r = m1 ∧ s192 = .int .i64 j ∧ s21 = .slice y3 (allL g1 j).length c3 ∧ OwnI wr wc.heap.size y3 c3 (allL g1 j).length (fun i => (allL g1 j).getD i 0) ∧ Keeps [] wc wr)
    case atStart => exact ⟨0,none,0,by omega,rfl,rfl,ownI_nil _ _ _,Keeps.refl _ _⟩
    case round =>
     obtain ⟨j,y3,c3,hj,rfl,rfl,hO,hK⟩:=hrel
     have HO:=hid hO
     have HK:=hid hK
     clear hO hK
     by_cases hlj:j < m1
     ·have hlji:(j:Int) < (m1:Int):=by omega
      have hO5:=HI5.out.row.keep HK.out (by simp)
      obtain ⟨b2,cur,rfl,_,hA2,hcur⟩:∃ b cur,y1 = some ⟨b,0,none⟩ ∧ W.heap.size ≤ b ∧ At wr b (.cells cur 3) ∧ ∀ i,i < m1 → cur[i]? = some (.int .i64 (g1 (i + 1):Nat)):=by
       rcases hO5.form with ⟨_,h⟩ | h
       ·omega
       ·exact h
      have d0:wr.cell? ⟨b2,j,none⟩ = some (.int .i64 (g1 (j + 1):Nat)):=hA2.cell j (hcur j hlj)
      have hal:=allL_next g1 j
      have hall:=allL_len g1 j
      obtain ⟨v,hv⟩:∃ v,v = g1 (j + 1):=⟨_,rfl⟩
      rw [← hv] at d0 hal
      have HAL:=hid hal
      have HALL:=hid hall
      clear hal hall hcur hA2 hO5 hv
      by_cases hv0:v = 0
      ·subst hv0
       go_wp2_with fail
       go_roundg (m1 - (j + 1))
       case measure => omega
       case rel =>
        have e:=HAL.out
        rw [if_pos trivial] at e
        exact ⟨j + 1,y3,c3,by omega,by go_num,by rw [e],by rw [e]; exact HO.out,HK.out⟩
      ·have hvi:¬ (v:Int) = 0:=by omega
       have hn5:(allL g1 j).length ≤ 100000:=by have:=HALL.out; omega
       have hB5:wc.heap.size ≤ (wr.alloc (.cells #[.int .i64 ((j:Int) + 1)] 3)).heap.size:=by have h1:=HK.out.size; rw [World.size_alloc]; omega
       go_wp2_with (at_builtin; refine appN_list rfl _ _ rfl wc.heap.size y3 c3 (allL g1 j).length _ rfl (HO.out.keep (Keeps.alloc (Keeps.refl [] wr) _) (fun _ _ => List.not_mem_nil)) wr.heap.size 1 (j + 1) rfl ((At.new wr _).cell 0 rfl) hn5 hB5 ?_; intro g' cap' w5 ho5 hk5 hg5; have HO5:=hid ho5; have HK5:=hid hk5; clear ho5 hk5 hg5)
       go_roundg (m1 - (j + 1))
       case measure => omega
       case rel =>
        have e:=HAL.out
        rw [if_neg hv0] at e
        refine ⟨j + 1,_,cap',by omega,by go_num,by rw [e,List.length_append]; rfl, ?_, ?_⟩
        ·rw [e,List.length_append]
         refine HO5.out.congr fun i hi => ?_
         rw [put_getD]
        ·exact (HK.out.trans (Keeps.alloc (Keeps.refl [] wr) _)).new HK5.out (fun b hb => .inr (HO.out.ge b hb).1)
     ·obtain rfl:j = m1:=by omega
      have hg0:g1 0 = 0:=by
       by_cases h:g1 0 = 0
       ·exact h
       ·have:=HI5.out.tab.bd 0 h; omega
      have HC:=hid (hnumbers_at wr x j g1 (HI5.out.tab.keep HK.out (by simp)))
      rw [← allL_all hg0] at HC
      have hall:=allL_len g1 j
      have HALL:=hid hall
      clear hg0 hall
      go_wp2_with fail
      refine HC.out.mono ?_
      rintro e w6 ⟨y6,c6,rfl,hO6,hk6⟩
      have HEQ:=hid (equalI_at w6 _ _ y6 y3 _ c6 c3 _ _ hO6 (HO.out.keep hk6 (by simp)) (fun _ _ => rfl) (by have:=HALL.out; omega))
      have HK6:=hid (HK.out.trans hk6)
      clear hO6 hk6 HC
      go_wp2_with fail
      refine HEQ.out.mono ?_
      rintro e w7 ⟨rfl,hk7⟩
      have HK7:=hid (HK6.out.trans hk7)
      clear hk7 HEQ HK6
      go_wp2_with fail
      go_roundg (n - (k + 1))
      case measure => omega
      case rel =>
       have h:=HI5.out
       exact ⟨k + 1,j,g1,y1,c1,by omega,by go_num,rfl,rfl,⟨h.tab.keep HK7.out (by simp),h.row.keep HK7.out (by simp),h.ge,fun i => by have:=h.le i; omega,h.keep.trans HK7.out⟩,by omega⟩
  ·obtain rfl:k = n:=by omega
   go_wp2_with fail
   go_ret
   exact ⟨rfl,HI.out.keep.below (Nat.le_refl _) (by simp)⟩
theorem handlePlays_walk (y:Option Addr) (n cp:Nat) (z:Nat → Nat → Int) (W:World)
  (R2:n * 3 = 0 ∨ ∃ b off,y = some ⟨b,off,none⟩ ∧ b < W.heap.size ∧ ∀ i j,i < n → j < 3 → W.cell? ⟨b,off + (i * 3 + j),none⟩ = some (.int ((fun j => if j = 0 then IntKind.u8 else if j = 1 then IntKind.u8 else IntKind.u8) j) (z i j)) ∧ (Lit.int ((fun j => if j = 0 then IntKind.u8 else if j = 1 then IntKind.u8 else IntKind.u8) j) (z i j)).wf = true) (_:n ≤ maxLen) :
  Calls Tryz.prog 3 #[.slice y n cp] W fun e w' => e = .returned (.bool true) ∧ Below W.heap.size W w':=by
 by_cases hn:80 < n
 ·exact hplays_great y n cp W hn
 ·exact hplays_small y n cp _ _ _ W (readsD_of R2) (by omega)
end Go.Proofs.YtglpoffbkkdjiaaGreat
