import Derived.Test.YtglpoffbkkdjiaaGreatRob
import Derived.Test.YtglpoffbkkdjiaaGreatOwi
import Derived.Test.YtglpoffbkkdjiaaGreatNam
import Derived.Deep.AppendLies
namespace Go.Proofs.YtglpoffbkkdjiaaGreat
open Go.RowKit Go.OpenShut
def objC (S:DS) (x:Nat):List Value:=[.int .i64 (hdN (S.now x).toNat:Nat), .int .i64 (hdR (S.now x).toNat:Nat), .int .i64 (x:Nat)]
def cellsO (S:DS) (L:List Nat):List Value:=L.flatMap (objC S)
theorem cellsO_get (S:DS):∀ (L:List Nat) (i x:Nat),L[i]? = some x → (cellsO S L)[i * 3]? = some (.int .i64 (hdN (S.now x).toNat:Nat)) ∧ (cellsO S L)[i * 3 + 1]? = some (.int .i64 (hdR (S.now x).toNat:Nat)) ∧ (cellsO S L)[i * 3 + 2]? = some (.int .i64 (x:Nat))
 | [],i,x,h => by simp at h
 | y :: L,0,x,h => by
  simp at h; subst h
  exact ⟨rfl,rfl,rfl⟩
 | y :: L,i + 1,x,h => by
  have:=cellsO_get S L i x (by simpa using h)
  have e:∀ j,(cellsO S (y :: L))[3 + j]? = (cellsO S L)[j]?:=fun j => by
   show (objC S y ++ cellsO S L:List Value)[3 + j]? = _
   rw [List.getElem?_append_right (by simp [objC])]
   simp [objC]
  rw [show (i + 1) * 3 = 3 + i * 3 by omega,show 3 + i * 3 + 1 = 3 + (i * 3 + 1) by omega,show 3 + i * 3 + 2 = 3 + (i * 3 + 2) by omega,e,e,e]
  exact this
theorem cellsO_app (S:DS) (L:List Nat) (x:Nat):cellsO S L ++ objC S x = cellsO S (L ++ [x]):=by
 simp [cellsO]
def OwnO (S:DS) (w:World) (B:Nat) (x:Option Addr) (cp n:Nat) (L:List Nat):Prop :=
 L.length = n ∧ w.ownsRow B 95 3 (.slice x n cp) n (cellsO S L)
theorem ownO_nil (S:DS) (w:World) (B:Nat):OwnO S w B none 0 0 []:=⟨rfl,rfl, .inl ⟨rfl,rfl⟩⟩
theorem OwnO.form {S:DS} {w:World} {B:Nat} {x:Option Addr} {cp n:Nat} {L:List Nat} (h:OwnO S w B x cp n L) :
  (x = none ∧ n = 0) ∨ ∃ g cur,x = some ⟨g,0,none⟩ ∧ B ≤ g ∧ At w g (.cells cur 95) ∧
   ∀ i y,L[i]? = some y → cur[i * 3]? = some (.int .i64 (hdN (S.now y).toNat:Nat)) ∧ cur[i * 3 + 1]? = some (.int .i64 (hdR (S.now y).toNat:Nat)) ∧ cur[i * 3 + 2]? = some (.int .i64 (y:Nat)):=by
 obtain ⟨hl,_,⟨h1,h2⟩ | ⟨g,cap,cur,h1,h2,h3,_,_,h6,h7⟩⟩:=h
 ·injection h1 with h1; exact .inl ⟨h1,h2⟩
 ·injection h1 with h1
  refine .inr ⟨g,cur,h1,h2,h3,fun i y hy => ?_⟩
  obtain ⟨hi,_⟩:=List.getElem?_eq_some_iff.1 hy
  obtain ⟨e1,e2,e3⟩:=cellsO_get S L i y hy
  have key:∀ j v,j < n * 3 → (cellsO S L)[j]? = some v → cur[j]? = some v:=fun j v hj hv => by
   have k1:(cur.toList.take (n * 3))[j]? = (cellsO S L)[j]?:=by rw [h7]
   rw [List.getElem?_take_of_lt hj,Array.getElem?_toList,hv] at k1
   exact k1
  exact ⟨key _ _ (by omega) e1,key _ _ (by omega) e2,key _ _ (by omega) e3⟩
theorem OwnO.keep {S:DS} {w w':World} {B:Nat} {x:Option Addr} {cp n:Nat} {L:List Nat} {T:List Nat} (h:OwnO S w B x cp n L) (hk:Keeps T w w') (hT:∀ b ∈ blkL x,b ∉ T):OwnO S w' B x cp n L:=by
 obtain ⟨hl,h0,h1 | ⟨g,cap,cur,h1,h2,h3,h4⟩⟩:=h
 ·exact ⟨hl,h0, .inl h1⟩
 ·refine ⟨hl,h0, .inr ⟨g,cap,cur,h1,h2, ?_,h4⟩⟩
  injection h1 with h1
  exact hk.at (show At w g (.cells cur 95) from h3) (hT g (by rw [h1]; simp [blkL]))
theorem OwnO.ge {S:DS} {w:World} {B:Nat} {x:Option Addr} {cp n:Nat} {L:List Nat} (h:OwnO S w B x cp n L):∀ b ∈ blkL x,B ≤ b ∧ b < w.heap.size:=by
 rcases h.form with ⟨rfl,_⟩ | ⟨g,cur,rfl,h1,h2,_⟩
 ·simp [blkL]
 ·simp [blkL]; exact ⟨h1,h2.lt⟩
theorem appO_list {S:DS} {ops:Array Oper} {rest:List Oper} {o:Oper} {a:Act} {w:World} {Q:Exit → Act → World → Prop} (hgd:o.guard = none) (s x:Operand)
  (ho:o.op = .call { callee:=.builtin .append,args:=#[s,x],argTypes:=#[109,109] })
  (B:Nat) (xx:Option Addr) (cp n:Nat) (L:List Nat) (hs:a.eval s = .slice xx n cp) (hown:OwnO S w B xx cp n L) (b c y:Nat) (hx:a.eval x = .slice (some ⟨b,0,none⟩) 1 c)
  (hc:w.cell? ⟨b,0,none⟩ = some (.int .i64 (hdN (S.now y).toNat:Nat))) (hc2:w.cell? ⟨b,1,none⟩ = some (.int .i64 (hdR (S.now y).toNat:Nat))) (hc3:w.cell? ⟨b,2,none⟩ = some (.int .i64 (y:Nat)))
  (hn:n ≤ 100000) (hB:B ≤ w.heap.size)
  (h:∀ g cap w',OwnO S w' B (some ⟨g,0,none⟩) cap (n + 1) (L ++ [y]) → Keeps (blkL xx) w w' → (blkL xx = [g] ∨ w.heap.size ≤ g) → wpList Tryz.prog ops Q rest (a.put o.dst (.slice (some ⟨g,0,none⟩) (n + 1) cap)) w') :
  wpList Tryz.prog ops Q (o :: rest) a w:=by
 have hi:∃ i,Tryz.prog.info? 95 = some i ∧ (i.zero,i.size,i.bytes) = (some (obV 0 0 0),3,24):=by
  have h:(Tryz.prog.info? 95).map (fun i => (i.zero,i.size,i.bytes)) = some (some (obV 0 0 0),3,24):=by kernel_rfl
  exact Option.map_eq_some_iff.1 h
 obtain ⟨ti,hi1,hi2⟩:=hi
 simp only [Prod.mk.injEq] at hi2
 obtain ⟨hz,hsz,hby⟩:=hi2
 refine wpList_append_own_at w hgd s x 109 ho B 95 ti (obV 0 0 0) 3 24 Tryz.underlying109 hi1 hz hsz hby rfl (by omega) _ n _ hs hown.2 ⟨b,0,none⟩ 1 c (objC S y) hx rfl (fun j u hj => ?_) (by simp [objC,Value.oneCell']) (by unfold maxLen; omega) (by omega) hB ?_
 ·match j,hj with
  | 0,hj => simp [objC] at hj; subst hj; exact hc
  | 1,hj => simp [objC] at hj; subst hj; exact hc2
  | 2,hj => simp [objC] at hj; subst hj; exact hc3
  | j + 3,hj => simp [objC] at hj
 ·intro v' w' h1 h2 h3 h4
  have hne:v' ≠ .slice none 0 0:=fun e => by have:=(h3.1 e).2; omega
  have h1':=h1
  obtain ⟨_,⟨rfl,_⟩ | ⟨g,cap,cur,rfl,hB',hg,h5⟩⟩:=h1'
  ·exact absurd rfl hne
  ·rw [cellsO_app] at h1
   refine h g cap w' ⟨by simp [hown.1],h1⟩ (grown_keeps h2) ?_
   rcases h4 with h4 | h4
   ·left
    cases xx with
    | none => simp [Value.ownBlock] at h4
    | some a => simp [Value.ownBlock] at h4; simp [blkL]; exact h4.symm
   ·right
    simp [Value.ownBlock] at h4; omega
def seenD (L:List Nat) (z:Int):Option Value:=if 0 ≤ z ∧ z.toNat ∈ L then some (.agg #[]) else none
theorem seenD_app (L:List Nat) (x:Nat):(fun z:Int => if z = (x:Int) then some (.agg #[]) else seenD L z) = seenD (L ++ [x]):=by
 funext z
 unfold seenD
 by_cases h:z = (x:Int)
 ·subst h
  rw [if_pos rfl,if_pos ⟨by omega,by simp⟩]
 ·rw [if_neg h]
  by_cases h1:0 ≤ z ∧ z.toNat ∈ L
  ·rw [if_pos h1,if_pos ⟨h1.1,List.mem_append_left _ h1.2⟩]
  ·rw [if_neg h1,if_neg]
   rintro ⟨h2,h3⟩
   rcases List.mem_append.1 h3 with h3 | h3
   ·exact h1 ⟨h2,h3⟩
   ·have:=List.mem_singleton.1 h3
    omega
theorem zeroU (w:World):(zeroValue 146).run Tryz.prog w = .ok (.agg #[]) w:=by kernel_rfl
theorem seen_had {w:World} {mb:Nat} {L:List Nat} (h:IMap w mb (seenD L)) {z:Int} (hz:0 ≤ z ∧ z.toNat ∈ L):(Instr.lookup 73 (.map (some mb)) (.int .i64 z) true).run Tryz.prog w = .ok (.tuple #[.agg #[], .bool true]) w:=by
 rw [h.lookup Tryz.underlying73 Tryz.underlying3 (zeroU w) z true]
 unfold seenD
 rw [if_pos hz]
 rfl
theorem seen_none {w:World} {mb:Nat} {L:List Nat} (h:IMap w mb (seenD L)) {z:Int} (hz:¬ (0 ≤ z ∧ z.toNat ∈ L)):(Instr.lookup 73 (.map (some mb)) (.int .i64 z) true).run Tryz.prog w = .ok (.tuple #[.agg #[], .bool false]) w:=by
 rw [h.lookup Tryz.underlying73 Tryz.underlying3 (zeroU w) z true]
 unfold seenD
 rw [if_neg hz]
 rfl
theorem seen_any {w:World} {mb:Nat} {L:List Nat} (h:IMap w mb (seenD L)) (z:Int):∃ b:Bool,(b = true ↔ 0 ≤ z ∧ z.toNat ∈ L) ∧ (Instr.lookup 73 (.map (some mb)) (.int .i64 z) true).run Tryz.prog w = .ok (.tuple #[.agg #[], .bool b]) w:=by
 by_cases hz:0 ≤ z ∧ z.toNat ∈ L
 ·exact ⟨true,by simp [hz],seen_had h hz⟩
 ·exact ⟨false,by simpa using hz,seen_none h hz⟩
def rngW (w w':World):List Nat:=(List.range (w'.heap.size - w.heap.size)).map fun i => w.heap.size + i
theorem mem_rngW {w w':World} {b:Nat}:b ∈ rngW w w' ↔ w.heap.size ≤ b ∧ b < w'.heap.size:=by
 unfold rngW
 simp only [List.mem_map,List.mem_range]
 constructor
 ·rintro ⟨i,h1,rfl⟩
  omega
 ·rintro ⟨h1,h2⟩
  exact ⟨b - w.heap.size,by omega,by omega⟩
structure FrB (a:DA) (c:Cfg) (k u:Nat) (bd bc bb:Nat) (S:DS) (W:World):Prop where
 d:At W bd (.cells #[ptr a.d] 53)
 c:At W bc (cfgO c)
 b:At W bb (bkO k u (.slice none 0 0))
 dev:∃ p,Dev W p a S
structure TlI (J:Nat → List Nat → World → Prop) (S:DS) (y:Value) (B:Nat) (out O:List Nat) (x:Option Addr) (cp:Nat) (W:World):Prop where
 j:J out.length O W
 low:∀ b ∈ O,b < W.heap.size
 own:∀ j,j < 5 → B + j ∈ O
 row:∀ b ∈ blkL x,b ∈ O
 yb:At W B (.cells #[y] 162)
 tb:At W (B + 1) (.cells #[.slice x out.length cp] 109)
 mp:IMap W (B + 2) (seenD out)
 sb:At W (B + 3) (.cells #[.map (some (B + 2))] 73)
 ob:OwnO S W (B + 5) x cp out.length out
theorem TlI.keep {J:Nat → List Nat → World → Prop} {S:DS} {y:Value} {B:Nat} {out O:List Nat} {x:Option Addr} {cp:Nat} {W W':World} {T:List Nat} (hJ:∀ k,Bears (J k)) (h:TlI J S y B out O x cp W) (hk:Keeps T W W')
  (hT:∀ b ∈ T,b < W.heap.size → b ∈ O ∧ B + 4 ≤ b ∧ b ∉ blkL x):TlI J S y B out (O ++ rngW W W') x cp W':=by
 have hk2:Keeps O W W':=hk.mono fun b hb hT' => (hT b hT' hb).1
 have off:∀ b,b < W.heap.size → b < B + 4 → b ∉ T:=fun b h1 h2 h3 => by have:=(hT b h3 h1).2.1; omega
 have lo:∀ j,j < 5 → B + j < W.heap.size:=fun j hj => h.low _ (h.own j hj)
 refine ⟨hJ _ _ _ W W' h.j hk2 (fun b hb => ?_),fun b hb => ?_,fun j hj => List.mem_append_left _ (h.own j hj),fun b hb => List.mem_append_left _ (h.row b hb),
  hk.at h.yb (off _ (lo 0 (by omega)) (by omega)),hk.at h.tb (off _ (lo 1 (by omega)) (by omega)),h.mp.keep hk (off _ (lo 2 (by omega)) (by omega)),hk.at h.sb (off _ (lo 3 (by omega)) (by omega)),h.ob.keep hk fun b hb hT' => ?_⟩
 ·rcases List.mem_append.1 hb with hb | hb
  ·exact .inl hb
  ·exact .inr (mem_rngW.1 hb).1
 ·rcases List.mem_append.1 hb with hb | hb
  ·exact Nat.lt_of_lt_of_le (h.low b hb) hk.size
  ·exact (mem_rngW.1 hb).2
 ·exact (hT b hT' (h.low b (h.row b hb))).2.2 hb
def rcA (S:DS) (l:List Nat) (i:Nat):Array Value:=#[obV (hdN (S.now (l.getD i 0)).toNat:Nat) (hdR (S.now (l.getD i 0)).toNat:Nat) (l.getD i 0:Nat)]
theorem rcA_at {S:DS} {l:List Nat} {i v:Nat} (h:l[i]? = some v):rcA S l i = #[obV (hdN (S.now v).toNat:Nat) (hdR (S.now v).toNat:Nat) (v:Nat)]:=by
 unfold rcA
 rw [List.getD_eq_getElem?_getD,h]
 rfl
def TellE (J:Nat → List Nat → World → Prop) (Jx:List Nat → World → Prop) (S:DS) (y:Value) (B:Nat) (O:List Nat) (x:Option Addr) (W:World) (out':List Nat) (e:Ending) (w':World):Prop :=
 ∃ O',(∀ b ∈ O,b ∈ O') ∧ (∃ T,Keeps T W w' ∧ ∀ b ∈ T,b ∉ O ∨ b = B + 1 ∨ b = B + 2 ∨ b ∈ blkL x) ∧
  ((e = .returned (.bool true) ∧ ∃ x' cp',TlI J S y B out' O' x' cp' w' ∧ ∀ b ∈ blkL x',b ∈ blkL x ∨ W.heap.size ≤ b) ∨ (e = .returned (.bool false) ∧ Jx O' w'))
theorem TlI.told {J:Nat → List Nat → World → Prop} {Jx:List Nat → World → Prop} {S:DS} {y:Value} {B:Nat} {out O:List Nat} {x:Option Addr} {cp:Nat} {W W':World} (hJ:∀ k,Bears (J k)) (h:TlI J S y B out O x cp W) (hk:Keeps [] W W') {out':List Nat} (ho:out' = out) :
  TellE J Jx S y B O x W out' (.returned (.bool true)) W':=by
 subst ho
 exact ⟨_,fun b hb => List.mem_append_left _ hb,⟨[],hk,by simp⟩, .inl ⟨rfl,x,cp,h.keep hJ hk (by simp),fun b hb => .inl hb⟩⟩
theorem TlI.new {J:Nat → List Nat → World → Prop} {S:DS} {y:Value} {B:Nat} {out O:List Nat} {x:Option Addr} {cp:Nat} {W W':World} (hJ:∀ k,Bears (J k)) (h:TlI J S y B out O x cp W) (hk:Keeps ((B + 1) :: (B + 2) :: blkL x) W W') {X g cap:Nat}
  (hmp:IMap W' (B + 2) (seenD (out ++ [X]))) (htb:At W' (B + 1) (.cells #[.slice (some ⟨g,0,none⟩) (out.length + 1) cap] 109)) (hob:OwnO S W' (B + 5) (some ⟨g,0,none⟩) cap (out.length + 1) (out ++ [X]))
  (hg:blkL x = [g] ∨ W.heap.size ≤ g):TlI (fun _ => J out.length) S y B (out ++ [X]) (O ++ rngW W W') (some ⟨g,0,none⟩) cap W':=by
 have hx:∀ b ∈ blkL x,B + 5 ≤ b:=fun b hb => (h.ob.ge b hb).1
 have hko:Keeps O W W':=hk.mono fun b _ hb => by
  simp only [List.mem_cons] at hb
  rcases hb with rfl | rfl | hb
  ·exact h.own 1 (by omega)
  ·exact h.own 2 (by omega)
  ·exact h.row b hb
 have off:∀ j,(j = 0 ∨ j = 3) → B + j ∉ (B + 1) :: (B + 2) :: blkL x:=fun j hj hb => by
  simp only [List.mem_cons] at hb
  rcases hb with h1 | h1 | h1
  ·omega
  ·omega
  ·have:=hx _ h1; omega
 refine ⟨hJ _ _ _ W W' h.j hko (fun b hb => ?_),fun b hb => ?_,fun j hj => List.mem_append_left _ (h.own j hj),fun b hb => ?_,hk.at h.yb (off 0 (.inl rfl)),by rw [List.length_append]; exact htb,hmp,hk.at h.sb (off 3 (.inr rfl)),by rw [List.length_append]; exact hob⟩
 ·rcases List.mem_append.1 hb with hb | hb
  ·exact .inl hb
  ·exact .inr (mem_rngW.1 hb).1
 ·rcases List.mem_append.1 hb with hb | hb
  ·exact Nat.lt_of_lt_of_le (h.low b hb) hk.size
  ·exact (mem_rngW.1 hb).2
 ·have hb':=hob.ge b hb
  have hbg:b = g:=by simpa [blkL] using hb
  subst hbg
  rcases hg with hg | hg
  ·exact List.mem_append_left _ (h.row b (by rw [hg]; simp))
  ·exact List.mem_append_right _ (mem_rngW.2 ⟨hg,hb'.2⟩)
theorem TlI.done {J:Nat → List Nat → World → Prop} {Jx:List Nat → World → Prop} {S:DS} {y:Value} {B:Nat} {out O out':List Nat} {x:Option Addr} {W W7 W8:World} {X g cap:Nat} {e:Ending}
  (h7:TlI (fun _ => J out.length) S y B (out ++ [X]) (O ++ rngW W W7) (some ⟨g,0,none⟩) cap W7) (hk:Keeps ((B + 1) :: (B + 2) :: blkL x) W W7) (hg:blkL x = [g] ∨ W.heap.size ≤ g)
  (hr:RoundO J Jx out.length (O ++ rngW W W7) W7 e W8) (ho:out' = out ++ [X]):TellE J Jx S y B O x W out' e W8:=by
 subst ho
 obtain ⟨hr,T,hkT,hT⟩:=hr
 refine ⟨O ++ rngW W W7,fun b hb => List.mem_append_left _ hb,⟨((B + 1) :: (B + 2) :: blkL x) ++ T,(hk.mono fun b _ hb => List.mem_append_left _ hb).trans (hkT.mono fun b _ hb => List.mem_append_right _ hb),fun b hb => ?_⟩, ?_⟩
 ·rcases List.mem_append.1 hb with hb | hb
  ·simp only [List.mem_cons] at hb
   rcases hb with h | h | h
   ·exact .inr (.inl h)
   ·exact .inr (.inr (.inl h))
   ·exact .inr (.inr (.inr h))
  ·exact .inl fun h => hT b hb (List.mem_append_left _ h)
 ·rcases hr with ⟨rfl,hj⟩ | ⟨rfl,hj⟩
  ·refine .inl ⟨rfl,some ⟨g,0,none⟩,cap, ?_,fun b hb => ?_⟩
   ·have off:∀ j,j < 5 → B + j ∉ T:=fun j hj hb => hT _ hb (h7.own j hj)
    exact ⟨by rw [List.length_append]; exact hj,fun b hb => Nat.lt_of_lt_of_le (h7.low b hb) hkT.size,h7.own,h7.row,hkT.at h7.yb (off 0 (by omega)),hkT.at h7.tb (off 1 (by omega)),h7.mp.keep hkT (off 2 (by omega)),hkT.at h7.sb (off 3 (by omega)),
     h7.ob.keep hkT fun b hb h => hT b h (h7.row b hb)⟩
   ·have hbg:b = g:=by simpa [blkL] using hb
    subst hbg
    rcases hg with hg | hg
    ·exact .inl (by rw [hg]; simp)
    ·exact .inr hg
  ·exact .inr ⟨rfl,hj⟩
set_option maxRecDepth 100000 in
set_option maxHeartbeats 4000000 in
theorem tell_at (a:DA) (S:DS) (c:Cfg) (hc:c.Ok) (hcn:c.words = a.n) (k:Nat) (hk:k ≤ 1) (u:Nat) (hu:u ≤ c.space)
  (hx:∀ j:Nat,c.frm k ≤ j → j < c.frm k + u → ∃ x:Nat,S.now j = (x:Int) ∧ x < 18446744073709551616)
  (l:Nat) (J:Nat → List Nat → World → Prop) (Jx:List Nat → World → Prop) (LS:List Nat) (bd bc bb B:Nat)
  (hFB:∀ k' O W,J k' O W → FrB a c k u bd bc bb S W) (hJ:∀ k,Bears (J k))
  (hY:∀ k O W,k < LS.length → J k O W → (∀ b ∈ O,b < W.heap.size) → YieldAt Fence.wide 3 Tryz.prog l (rcA S LS k) W (RoundO J Jx k O W))
  (out O:List Nat) (x:Option Addr) (cp:Nat) (W:World) (h:TlI J S (.func (.yield l) #[] #[]) B out O x cp W) (hol:out.length ≤ 5000)
  (z:Int) (v:Nat) (hz:-9223372036854775808 ≤ z ∧ z < 9223372036854775808) (hzv:z = (v:Int) ∨ z < 0 ∧ 9223372036854775808 ≤ v)
  (hnext:(obW S c k u v).isSome = true → v ∉ out → LS[out.length]? = some v) :
  Calls Tryz.prog 116 #[.int .i64 z,ptr bd,ptr bc,ptr bb,ptr (B + 3),ptr (B + 1),ptr B] W (TellE J Jx S (.func (.yield l) #[] #[]) B O x W (seeW S c k u out v)):=by
 obtain ⟨hFd,hFc,hFb,p,hD⟩:=hFB _ _ _ h.j
 have hsp:=hc.small.2.2
 have hfr:=frm_le hc.small (show k ≤ 2 by omega)
 have HOF:=hid (of_ob W p a S hD c hc hcn k hk u hu (.slice none 0 0) z hz hx)
 have HH:=hid h
 have HZ:=hid (And.intro hz hzv)
 have HN:=hid hnext
 have HFR:=hid (And.intro hfr (And.intro hu hsp))
 have HOL:=hid hol
 have d0:=hFd.cell 0 rfl
 have c0:=hFc.cell 0 rfl
 have c1:=hFc.cell 1 rfl
 have c2:=hFc.cell 2 rfl
 have b0:=hFb.cell 0 rfl
 have b1:=hFb.cell 1 rfl
 have b2:=hFb.cell 2 rfl
 clear h hz hzv hnext hfr hu hsp hx hcn hc hD hFd hFc hFb hol
 go_enter Tryz.func116,Tryz.ntmps116
 go_wp2_with fail
 refine HOF.out.mono ?_
 rintro e w1 ⟨hO,hk1⟩
 have hs3:=hk1.at HH.out.sb (by simp)
 have hm3:=HH.out.mp.keep hk1 (by simp)
 clear d0 c0 c1 c2 b0 b1 b2
 rcases hO with ⟨X,n,r,hzX,hob,rfl⟩ | ⟨hno,code,hcode,rfl⟩
 case inr =>
  have hno2:(obW S c k u v).isSome = false:=by
   rcases HZ.out.2 with h1 | h1
   ·exact hno v h1
   ·rw [Bool.eq_false_iff]
    intro h2
    have:=obW_in h2
    have:=HFR.out
    omega
  have HSE:Hid (seeW S c k u out v = out):=seeW_none hno2
  have s0:(w1.alloc (obO 0 0 0)).cell? ⟨B + 3,0,none⟩ = some (.map (some (B + 2))):=(hs3.alloc (obO 0 0 0)).cell 0 rfl
  have hm4:=hm3.keep ((Keeps.refl [] w1).alloc (obO 0 0 0)) (by simp)
  obtain ⟨w4,hw4⟩:∃ w,w = w1.alloc (obO 0 0 0):=⟨_,rfl⟩
  have hk4:Keeps [] W w4:=by rw [hw4]; exact hk1.alloc _
  rw [← hw4] at s0 hm4
  obtain ⟨sn,_,hsn⟩:=seen_any hm4 z
  have t1:(code != 0) = true:=by simp [hcode]
  have HK4:=hid hk4
  clear hno hno2 hcode hs3 hm3 hm4 hk4
  go_upto_region 2 with fail
  first | rw [← hw4] | skip
  clear hw4
  go_wp2_with fail
  all_goals
   go_ret
   exact HH.out.told hJ (HK4.out.alloc _) HSE.out
 case inl =>
  subst hzX
  obtain ⟨x1,x2,x3,x4,x5,x6⟩:=obW_some hob
  have hXv:X = v:=by
   have h1:=HZ.out
   omega
  subst hXv
  have HOB:Hid ((obW S c k u X).isSome = true):=by show _ = _; rw [hob]; rfl
  have HNR:=hid (And.intro x3 x4)
  have hXi:(X:Int) ≤ 30000:=by have:=HFR.out; omega
  have s0:(w1.alloc (obO (n:Nat) (r:Nat) (X:Nat))).cell? ⟨B + 3,0,none⟩ = some (.map (some (B + 2))):=(hs3.alloc _).cell 0 rfl
  have hm4:=hm3.keep ((Keeps.refl [] w1).alloc (obO (n:Nat) (r:Nat) (X:Nat))) (by simp)
  have hO4:=At.new w1 (obO (n:Nat) (r:Nat) (X:Nat))
  have hs4:=hs3.alloc (obO (n:Nat) (r:Nat) (X:Nat))
  obtain ⟨w4,hw4⟩:∃ w,w = w1.alloc (obO (n:Nat) (r:Nat) (X:Nat)):=⟨_,rfl⟩
  have hk4:Keeps [] W w4:=by rw [hw4]; exact hk1.alloc _
  rw [← hw4] at s0 hm4 hO4 hs4
  obtain ⟨ob,hobq⟩:∃ q,q = w1.heap.size:=⟨_,rfl⟩
  rw [← hobq] at hO4
  have hobw:W.heap.size ≤ ob:=by rw [hobq]; exact hk1.size
  have HK4:=hid hk4
  by_cases hin:X ∈ out
  ·have HSE:Hid (seeW S c k u out X = out):=seeW_had hin
   have hsn:=seen_had hm4 (z:=(X:Int)) ⟨by omega,by simpa using hin⟩
   clear hob hs3 hm3 hm4 hk4 x1 x2 x3 x4 x5 x6 hin hO4 hs4
   go_upto_region 2 with fail
   first | rw [← hw4] | skip
   clear hw4
   go_wp2_with fail
   all_goals
    go_ret
    exact HH.out.told hJ (HK4.out.alloc _) HSE.out
  ·have HSE:Hid (seeW S c k u out X = out ++ [X]):=seeW_yes HOB.out hin
   have hsn:=seen_none hm4 (z:=(X:Int)) (by rintro ⟨_,h1⟩; exact hin (by simpa using h1))
   have HLS:Hid (LS[out.length]? = some X):=HN.out HOB.out hin
   have HO4:=hid hO4
   have HS4:=hid hs4
   have HM4:=hid hm4
   have HOW:=hid hobw
   clear hob hs3 hm3 hm4 hk4 x1 x2 x3 x4 x5 x6 hin hO4 hs4 hobw
   go_upto_region 2 with fail
   first | rw [← hw4] | skip
   first | rw [← hobq] | skip
   clear hw4 hobq
   go_upto_region 5 with fail
   obtain ⟨w5,hw5⟩:∃ w,w = w4.alloc (.cells #[] 146):=⟨_,rfl⟩
   have k45:Keeps [] w4 w5:=by rw [hw5]; exact (Keeps.refl _ _).alloc _
   rw [← hw5]
   have s5:w5.cell? ⟨B + 3,0,none⟩ = some (.map (some (B + 2))):=(k45.at HS4.out (by simp)).cell 0 rfl
   obtain ⟨w6,hrun,hM6,k56⟩:=(HM4.out.keep k45 (by simp)).update (P:=Tryz.prog) Tryz.underlying73 Tryz.underlying3 (X:Int) (.agg #[])
   rw [seenD_app] at hM6
   have hlow:∀ j,j < 5 → B + j < W.heap.size:=fun j hj => HH.out.low _ (HH.out.own j hj)
   have hrow:∀ b ∈ blkL x,B + 5 ≤ b ∧ b < W.heap.size:=fun b hb => HH.out.ob.ge b hb
   have K6:Keeps [B + 2] W w6:=((HK4.out.trans k45).mono (by simp)).trans k56
   have hT6:=K6.at HH.out.tb (by simp)
   have hY6:=K6.at HH.out.yb (by simp)
   have hO6:=k56.at (k45.at HO4.out (by simp)) (by have:=HOW.out; have:=hlow 2 (by omega); simp; omega)
   have hOO6:=HH.out.ob.keep K6 (fun b hb h => by have:=hrow b hb; have:=List.mem_singleton.1 h; omega)
   have HM6:=hid hM6
   have HK6:=hid K6
   have HLOW:=hid hlow
   have HROW:=hid hrow
   have HO6:=hid hO6
   have HOO6:=hid hOO6
   have HT6:=hid hT6
   clear hw5 hM6 k56 k45 hlow hrow K6 hT6 hY6 hO6 hOO6
   go_upto_region 6 with fail
   clear s0 s5 hsn hrun
   have t0:w6.cell? ⟨B + 1,0,none⟩ = some (.slice x out.length cp):=HT6.out.cell 0 rfl
   have o0:w6.cell? ⟨ob,0,none⟩ = some (.int .i64 (n:Nat)):=HO6.out.cell 0 rfl
   have o1:w6.cell? ⟨ob,1,none⟩ = some (.int .i64 (r:Nat)):=HO6.out.cell 1 rfl
   have o2:w6.cell? ⟨ob,2,none⟩ = some (.int .i64 (X:Nat)):=HO6.out.cell 2 rfl
   have hX6:=At.new w6 (obO (n:Nat) (r:Nat) (X:Nat))
   have x0:=hX6.cell 0 rfl
   have x1:=hX6.cell 1 rfl
   have x2:=hX6.cell 2 rfl
   have hOX:OwnO S (w6.alloc (obO (n:Nat) (r:Nat) (X:Nat))) (B + 5) x cp out.length out:=HOO6.out.keep ((Keeps.refl [] w6).alloc _) (by simp)
   have y0:(w6.alloc (obO (n:Nat) (r:Nat) (X:Nat))).cell? ⟨w6.heap.size,0,none⟩ = some (.int .i64 (hdN (S.now X).toNat:Nat)):=by rw [← HNR.out.1]; exact x0
   have y1:(w6.alloc (obO (n:Nat) (r:Nat) (X:Nat))).cell? ⟨w6.heap.size,1,none⟩ = some (.int .i64 (hdR (S.now X).toNat:Nat)):=by rw [← HNR.out.2]; exact x1
   have hB6:B + 5 ≤ (w6.alloc (obO (n:Nat) (r:Nat) (X:Nat))).heap.size:=by
    have:=HLOW.out 4 (by omega)
    have:=HK6.out.size
    simp only [World.size_alloc]
    omega
   have hol:out.length ≤ 100000:=by have:=HOL.out; omega
   have hBn:B + 1 ∉ blkL x:=fun h => by have:=(HROW.out _ h).1; omega
   have hT6a:=HT6.out.alloc (obO (n:Nat) (r:Nat) (X:Nat))
   go_upto_region 7 with (at_builtin; refine appO_list (S:=S) rfl _ _ rfl (B + 5) x cp out.length out rfl hOX _ _ X rfl y0 y1 x2 hol hB6 ?_; intro g cap w7 hO7 hk7 hg7; have hT7:=hk7.at hT6a hBn; have t7:=hT7.cell 0 rfl; have tf7:=hT7.free 0)
   have hTW:=hT7.set 0 (.slice (some ⟨g,0,none⟩) (out.length + 1) cap)
   have k78:=(Keeps.refl [B + 1] w7).set (p:=⟨B + 1,0,none⟩) (.inl (by simp)) (.slice (some ⟨g,0,none⟩) (out.length + 1) cap)
   obtain ⟨W8,hW8⟩:∃ w,w = w7.setCell ⟨B + 1,0,none⟩ (.slice (some ⟨g,0,none⟩) (out.length + 1) cap):=⟨_,rfl⟩
   rw [← hW8] at hTW k78 ⊢
   have k68:Keeps ((B + 1) :: blkL x) w6 W8:=((((Keeps.refl [] w6).alloc (obO (n:Nat) (r:Nat) (X:Nat))).mono (by simp)).trans (hk7.mono (by intro b _ hb; exact List.mem_cons_of_mem _ hb))).trans (k78.mono (by intro b _ hb; rw [List.mem_singleton.1 hb]; exact List.mem_cons_self))
   have KW:Keeps ((B + 1) :: (B + 2) :: blkL x) W W8:=(HK6.out.mono (by intro b _ hb; rw [List.mem_singleton.1 hb]; simp)).trans (k68.mono (by intro b _ hb; simp only [List.mem_cons] at hb ⊢; rcases hb with hb | hb; exact .inl hb; exact .inr (.inr hb)))
   have hx5:∀ b ∈ blkL x,b ≠ B + 2 ∧ b < W.heap.size:=fun b hb => by have:=HROW.out b hb; omega
   have hgW:blkL x = [g] ∨ W.heap.size ≤ g:=by
    rcases hg7 with h1 | h1
    ·exact .inl h1
    ·have:=HK6.out.size
     simp only [World.size_alloc] at h1
     exact .inr (by omega)
   have hgn:g ≠ B + 1:=by have:=(hO7.ge g (by simp [blkL])).1; omega
   have h7:=HH.out.new hJ KW (HM6.out.keep k68 (by intro h; rcases List.mem_cons.1 h with h | h; omega; exact (hx5 _ h).1 rfl)) hTW (hO7.keep k78 (by simp [blkL]; exact hgn)) hgW
   have hO8:=k68.at HO6.out (by intro h; have:=HOW.out; rcases List.mem_cons.1 h with h | h; (have:=HLOW.out 1 (by omega); omega); (have:=(hx5 _ h).2; omega))
   obtain ⟨fn,tmps,assign,body,hy,hR⟩:=hY out.length _ W8 (List.getElem?_eq_some_iff.1 HLS.out).1 h7.j h7.low
   rw [rcA_at HLS.out, ← HNR.out.1, ← HNR.out.2] at hy
   have y8:W8.cell? ⟨B,0,none⟩ = some (.func (.yield l) #[] #[]):=h7.yb.cell 0 rfl
   have p0:W8.cell? ⟨ob,0,none⟩ = some (.int .i64 (n:Nat)):=hO8.cell 0 rfl
   have p1:W8.cell? ⟨ob,1,none⟩ = some (.int .i64 (r:Nat)):=hO8.cell 1 rfl
   have p2:W8.cell? ⟨ob,2,none⟩ = some (.int .i64 (X:Nat)):=hO8.cell 2 rfl
   have H7:=hid h7
   have HKW:=hid KW
   have HGW:=hid hgW
   clear t0 o0 o1 o2 hX6 x0 x1 x2 hOX y0 y1 hB6 hol hBn hT6a hO7 hk7 hg7 hT7 t7 tf7 hTW k78 hW8 k68 KW hx5 hgW hgn h7 hO8
   refine (wpIn_wide (n:=4)).1 ?_
   gi_wp2_with fail
   refine hR.mono ?_
   intro e W9 hr9
   have HE:=hid (H7.out.done HKW.out HGW.out hr9 HSE.out)
   rcases hr9.1 with ⟨rfl,_⟩ | ⟨rfl,_⟩
   all_goals
    clear hr9
    gi_wp2
    go_wp2_with fail
    go_ret
    exact HE.out
end Go.Proofs.YtglpoffbkkdjiaaGreat
