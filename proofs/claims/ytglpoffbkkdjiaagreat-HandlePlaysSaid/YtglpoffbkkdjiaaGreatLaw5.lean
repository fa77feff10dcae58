import Derived.Test.YtglpoffbkkdjiaaGreatSupM
import Derived.Test.YtglpoffbkkdjiaaGreatHead
import Derived.Deep.QuietTactic
import Derived.BigQuiet
namespace Go.Proofs.YtglpoffbkkdjiaaGreat
open Go.RowKit Go.OpenShut
def Fmtd (c:Cfg) (w:World) (e:Ending) (w':World):Prop :=
 ∃ p a u S,e = .returned (.tuple #[ptr a.d, .bool true]) ∧ c.words = a.n ∧ Pw w' p a (-1) u S ∧ u ≤ 100000 ∧ WholeF c S.now ∧ (∀ j,j < a.n → S.kept j = S.now j) ∧ (∀ k,S.is k = false) ∧
  (w.heap.size ≤ a.d ∧ w.heap.size ≤ a.s ∧ w.heap.size ≤ a.k ∧ w.heap.size ≤ a.m ∧ w.heap.size ≤ p) ∧ Keeps [] w w'
def oldF (n:Nat) (f:Nat → Int) (i:Nat):Int:=if n = 0 then 0 else f (i % n)
theorem oldF_pos {n:Nat} (f:Nat → Int) (i:Nat) (h:n ≠ 0):oldF n f i = f (i % n):=by unfold oldF; rw [if_neg h]
def Fmtd2 (c:Cfg) (n:Nat) (f:Nat → Int) (w:World) (e:Ending) (w':World):Prop :=
 ∃ p a u S,(e = .returned (.tuple #[ptr a.d, .bool true]) ∧ c.words = a.n ∧ Pw w' p a (-1) u S ∧ u ≤ 100000 ∧ WholeF c S.now ∧ (∀ j,j < a.n → S.kept j = S.now j) ∧ (∀ k,S.is k = false) ∧
  (w.heap.size ≤ a.d ∧ w.heap.size ≤ a.s ∧ w.heap.size ≤ a.k ∧ w.heap.size ≤ a.m ∧ w.heap.size ≤ p) ∧ Keeps [] w w') ∧ ∀ j,c.root c.roots ≤ j → j < a.n → S.now j = oldF n f j
set_option maxRecDepth 100000 in
set_option maxHeartbeats 2000000 in
theorem formatted2_at (w:World) (c:Cfg) (hc:c.Ok) (x:Option Addr) (n cp:Nat) (f:Nat → Int) (hr:Reads w x n f) (hn:n ≤ 30) :
  Calls Tryz.prog 83 #[cfgV c, .slice x n cp] w (Fmtd2 c n f w):=by
 have hw:=words_ge hc
 have hs:=hc.small
 have hmk:=run_make_at (P:=Tryz.prog) 56 80 (.int .u64 0) 8 Tryz.underlying56 (by kernel_rfl) rfl c.words (by omega) (by omega)
 have HC:=hid hc
 have HR:=hid hr
 have hwi:(c.words:Int) ≤ 15000:=by omega
 have hni:(n:Int) ≤ 30:=by omega
 clear hc hr
 go_enter Tryz.func83,Tryz.ntmps83
 go_wp2_with fail
 have hB0:=At.new w (cfgO c)
 have K0:=(Keeps.refl [] w).alloc (cfgO c)
 refine (cwords_at _ c hs).mono ?_
 rintro e w1 ⟨rfl,hk1⟩
 have hB1:=hk1.at hB0 (by simp)
 have K1:=K0.trans hk1
 clear hB0 K0 hk1
 go_wp2_with fail
 have hA:=At.new w1 (.cells (rowOf id c.words fun _ => .int .u64 0) 80)
 rw [rowOf_u64 c.words (fun _ => 0)] at hA
 have hB2:=hB1.alloc (.cells (rowOf id c.words fun _ => .int .u64 0) 80)
 have K2:=K1.alloc (.cells (rowOf id c.words fun _ => .int .u64 0) 80)
 have hlt1:=hB1.lt
 have hgb:w.heap.size ≤ w1.heap.size:=K1.size
 rw [rowOf_u64 c.words (fun _ => 0)] at hB2 K2 ⊢
 obtain ⟨w2,hw2⟩:∃ w2,w2 = w1.alloc (.cells (u64s c.words fun _ => 0) 80):=⟨_,rfl⟩
 obtain ⟨g,hg⟩:∃ g,g = w1.heap.size:=⟨_,rfl⟩
 rw [← hw2] at hA hB2 K2 ⊢
 rw [← hg] at hA hlt1 hgb ⊢
 clear hw2 hg hmk hB1 K1
 go_loopg [14] c.words (fun r s wr => ∃ i:Nat,i + r = c.words ∧ s = .int .i64 i ∧ At wr g (.cells (u64s c.words fun j => if j < i then oldF n f j else 0) 80) ∧ Keeps [g] w2 wr)
 case atStart =>
  exact ⟨0,by omega,rfl,by simpa using hA,Keeps.refl _ _⟩
 case round =>
  obtain ⟨i,hi,rfl,hAi,hK⟩:=hrel
  by_cases hlt:i < c.words
  ·by_cases h0:n = 0
   ·have t0:decide (0 < n) = false:=by rw [decide_eq_false_iff_not]; omega
    have t1:decide (0 < (n:Int)) = false:=by rw [decide_eq_false_iff_not]; omega
    have H0:=hid h0
    clear h0
    go_wp2_with fail
    go_roundg (c.words - (i + 1))
    case measure => omega
    case rel =>
     refine ⟨i + 1,by omega,by go_num, ?_,hK⟩
     have e:u64s c.words (fun j => if j < i + 1 then oldF n f j else 0) = u64s c.words (fun j => if j < i then oldF n f j else 0):=u64s_congr fun j _ => by simp [oldF,H0.out]
     rw [e]
     exact hAi
   ·have t0:decide (0 < n) = true:=by rw [decide_eq_true_eq]; omega
    have t1:decide (0 < (n:Int)) = true:=by rw [decide_eq_true_eq]; omega
    obtain ⟨b,off,rfl,hbl,hcl⟩:∃ b off,x = some ⟨b,off,none⟩ ∧ b < w.heap.size ∧ ∀ i,i < n → w.cell? ⟨b,off + i,none⟩ = some (.int .u64 (f i)):=by
     rcases HR.out with h | h
     ·exact absurd h h0
     ·exact h
    obtain ⟨j,hj⟩:∃ j,j = i % n:=⟨_,rfl⟩
    have hjn:j < n:=by rw [hj]; exact Nat.mod_lt _ (by omega)
    have ej:(i:Int) % (n:Int) = (j:Int):=by omega
    have KW:Keeps [] w wr:=K2.new hK (by simpa using hgb)
    have c3:=(KW.cell (p:=⟨b,off + j,none⟩) hbl (by simp)).trans (hcl j hjn)
    have c4:=hAi.cell i (u64s_get hlt)
    have c5:=hAi.free i
    have HJ:=hid hj
    clear hj hcl
    go_wp2_with fail
    go_roundg (c.words - (i + 1))
    case measure => omega
    case rel =>
     have h6:=hAi.set i (.int .u64 (f j))
     rw [u64s_set] at h6
     have e:u64s c.words (put (fun j => if j < i then oldF n f j else 0) i (f j)) = u64s c.words (fun j => if j < i + 1 then oldF n f j else 0):=u64s_congr fun k _ => by
      unfold put
      by_cases h1:k = i
      ·subst h1
       simp [oldF_pos f k h0,HJ.out]
      ·by_cases h2:k < i
       ·simp [h1,h2,show k < i + 1 by omega]
       ·simp [h1,h2,show ¬ k < i + 1 by omega]
     rw [e] at h6
     exact ⟨i + 1,by omega,by go_num,h6,hK.set (.inl (by simp)) _⟩
  ·have hil:i = c.words:=by omega
   subst hil
   have hB3:=hK.at hB2 (by simp; omega)
   have K3:Keeps [] w wr:=K2.new hK (by simpa using hgb)
   clear hi hlt
   go_wp2_with fail
   refine (lnew_at wr (some ⟨g,0,none⟩) c.words c.words (c.words / 8) _ (Reads.of_at0 hAi (Nat.le_refl _)) (by omega) (by omega)).mono ?_
   rintro e w4 ⟨p,a,rfl,haL,hD4,hp4,⟨b1,b2,b3,b4,b5⟩,hk4⟩
   have K4:=K3.trans hk4
   have z4:=K3.size
   have hB4:=hk4.at hB3 (by simp)
   have haN:c.words = a.n:=by have:=a.n8; omega
   have HN:=hid haN
   have HL:=hid haL
   have c0:=hB4.cell 0 rfl
   have c1:=hB4.cell 1 rfl
   have c2:=hB4.cell 2 rfl
   have hP4:Pw w4 p a (-1) 0 _:=⟨hD4,hp4,by omega, .inl (by omega)⟩
   clear haN haL hD4 hp4 hk4 hB3 K3
   go_wp2_with fail
   refine (format_ran w4 p a (-1) 0 _ c hP4 HC.out HN.out (by omega)).mono ?_
   rintro e w5 (⟨rfl,h5,k5⟩ | ⟨rfl,⟨S',⟨_,_,_,_,_,hl⟩,_⟩,_⟩)
   ·clear c0 c1 c2
    go_wp2_with fail
    go_ret2
    refine ⟨p,a,_,_,⟨rfl,HN.out,h5, ?_,(fmt_done _ HC.out).1,fun j hj => (fmt_done _ HC.out).2.1 j (by have:=a.n8; omega),(fmt_done _ HC.out).2.2,⟨by omega,by omega,by omega,by omega,by omega⟩,K4.new k5 (by simp; omega)⟩,fun j hj hjn => ?_⟩
    rotate_left
    ·rw [execs_now_off _ _ fun y hy => fmtL_off HC.out hj hy]
     have hjw:j < c.words:=by have:=HN.out; omega
     show (if j < c.words then if j < c.words then oldF n f j else 0 else 0) = oldF n f j
     rw [if_pos hjw,if_pos hjw]
    rw [fmtL_len]
    obtain ⟨o1,o2,o3,o4,o5,o6⟩:=HC.out
    have:=a.n8
    have:=HN.out
    omega
   ·omega
theorem formatted_at (w:World) (c:Cfg) (hc:c.Ok) (x:Option Addr) (n cp:Nat) (f:Nat → Int) (hr:Reads w x n f) (hn:n ≤ 30) :
  Calls Tryz.prog 83 #[cfgV c, .slice x n cp] w (Fmtd c w) :=
 (formatted2_at w c hc x n cp f hr hn).mono fun _ _ ⟨p,a,u,S,h,_⟩ => ⟨p,a,u,S,h⟩
theorem asInt_nat (n:Nat) (h:n ≤ 100000):asInt (n:Int) = (n:Int):=IntWalk.wrap64_in _ (by omega)
theorem rdAns_whole {S:DS} {c:Cfg} {n:Nat} (hc:c.Ok) (hn:c.words = n) (h:WholeF c S.now):rdAns S n = rdV c.log c.roots c.space 0:=by
 obtain ⟨_,h1,h2,h3,_⟩:=h
 have o:=hc
 obtain ⟨o1,o2,o3,o4,o5,o6⟩:=o
 have e:fitsB (c.log:Int) (c.roots:Int) (c.space:Int) n = true:=by
  have h1:cfgB (c.log:Int) (c.roots:Int) (c.space:Int) = true:=by simp [cfgB]; omega
  unfold fitsB
  rw [h1]
  simpa using hn
 unfold rdAns
 rw [h1,h2,h3,asInt_nat _ (by omega),asInt_nat _ (by omega),asInt_nat _ (by omega),e,if_pos rfl]
theorem read_whole (w:World) (p:Nat) (a:DA) (S:DS) (c:Cfg) (h:Dev w p a S) (hc:c.Ok) (hn:c.words = a.n) (hW:WholeF c S.now) :
  Calls Tryz.prog 173 #[ptr a.d] w fun e w' => e = .returned (rdV c.log c.roots c.space 0) ∧ Keeps [] w w':=by
 have:=read_on w p a S h (by have:=(words_ge hc).1; omega) hW.1
 rwa [rdAns_whole hc hn hW] at this
theorem format_free (w:World) (p:Nat) (a:DA) (u:Int) (S:DS) (c:Cfg) (h:Pw w p a (-1) u S) (hc:c.Ok) (hn:c.words = a.n) (hb:u < 4611686018427300000) :
  Calls Tryz.prog 121 #[ptr a.d,cfgV c] w fun e w' => e = .returned (.int .i64 0) ∧ Pw w' p a (-1) (u + ((fmtL c a.L).length:Int)) (execs S (fmtL c a.L)) ∧ Keeps [p,a.s,a.k,a.m] w w' :=
 (format_ran w p a (-1) u S c h hc hn hb).mono fun _ _ hr => hr.free h.lo
theorem exC_ok:exC.Ok:=by unfold Cfg.Ok exC; decide
theorem exC_words:exC.words = 56:=by decide
theorem make56 (w:World):(Instr.makeSlice 56 (.int .i64 56) (.int .i64 56)).run Tryz.prog w = .ok (.slice (some ⟨w.heap.size,0,none⟩) 56 56) (w.alloc (.cells (u64s 56 fun _ => 0) 80)) :=
 run_make_at (P:=Tryz.prog) 56 80 (.int .u64 0) 8 Tryz.underlying56 (by kernel_rfl) rfl 56 (by omega) (by omega) w
set_option maxRecDepth 100000 in
set_option maxHeartbeats 1000000 in
theorem awake5_any (w:World):Calls Tryz.prog 171 #[] w fun e w' => e = .returned (.bool true) ∧ Below w.heap.size w w':=by
 have hmk:=make56
 go_enter Tryz.func171,Tryz.ntmps171
 go_wp2_with fail
 refine (awake4_any _).mono ?_
 rintro e w1 ⟨rfl,hb1⟩
 have K1:Keeps [] w w1:=Go.Proofs.YtglpoffbkkdjiaaGreat.Below.keeps hb1 []
 clear hb1
 go_wp2_with fail
 have hA:=At.new w1 (.cells (u64s 56 fun _ => 0) 80)
 have K2:=K1.alloc (.cells (u64s 56 fun _ => 0) 80)
 clear hmk
 refine (lnew_at _ (some ⟨w1.heap.size,0,none⟩) 56 56 7 _ (Reads.of_at0 hA (Nat.le_refl _)) rfl (by omega)).mono ?_
 rintro e w4 ⟨p,a,rfl,haL,hD4,hp4,⟨b1,b2,b3,b4,b5⟩,hk4⟩
 have K4:=K2.trans hk4
 have z4:w.heap.size ≤ w1.heap.size:=K1.size
 simp only [World.size_alloc] at b1 b2 b3 b4 b5
 have haN:exC.words = a.n:=by rw [exC_words,a.n8,haL]
 have hP4:Pw w4 p a (-1) 0 _:=⟨hD4,hp4,by omega, .inl (by omega)⟩
 have haN8:8 ≤ a.n:=by rw [← haN,exC_words]; omega
 have HN:=hid haN
 clear haN haL hD4 hp4 hk4 hA
 go_wp2_with fail
 refine (read_magic w4 p a _ hP4.dev (by omega) (by simp [magicI])).mono ?_
 rintro e w5 ⟨rfl,hk5⟩
 have hP5:=hP4.keep0 hk5
 have K5:=K4.trans hk5
 go_wp2_with fail
 have hP6:=hP5.keep0 ((Keeps.refl [] w5).alloc (.cells #[.int .i64 0, .int .i64 0, .int .i64 0] 55))
 have K6:=K5.alloc (.cells #[.int .i64 0, .int .i64 0, .int .i64 0] 55)
 refine (format_free _ p a 0 _ exC hP6 exC_ok HN.out (by omega)).mono ?_
 rintro e w7 ⟨rfl,hP7,hk7⟩
 have K7:Keeps [] w w7:=K6.new hk7 (by simp; omega)
 go_wp2_with fail
 refine (read_whole w7 p a _ exC hP7.dev exC_ok HN.out (fmt_done _ exC_ok).1).mono ?_
 rintro e w8 ⟨rfl,hk8⟩
 have K8:=K7.trans hk8
 go_wp2_with fail
 refine (cwords_at _ exC exC_ok.small).mono ?_
 rintro e w9 ⟨rfl,hk9⟩
 have hew:Hid ((exC.words:Int) = 56):=by show _ = _; rw [exC_words]; rfl
 rw [hew.out]
 go_wp2_with fail
 go_ret
 exact ⟨rfl,((K8.alloc _).trans hk9).below (Nat.le_refl _) (by simp)⟩
end Go.Proofs.YtglpoffbkkdjiaaGreat
