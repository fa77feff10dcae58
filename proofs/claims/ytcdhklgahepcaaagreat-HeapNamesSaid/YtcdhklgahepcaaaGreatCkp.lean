import Derived.Test.YtcdhklgahepcaaaGreatClb
import Derived.BigQuiet
import Derived.Deep.RegionHeld3
namespace Go.Proofs.YtcdhklgahepcaaaGreat
open Go.RowKit Go.OpenShut
def FlP (F:Nat) (S S2:DS) (t:Nat):Prop:=S2.now=S.now/\∀j,F≤j->j<F+8*t->S2.is (j/8)=true/\S2.tok j=S.now j
theorem FlP.next {F:Nat} {S S2:DS} {t:Nat} (h:FlP F S S2 t) (hF:F%8=0):FlP F S (xh S2 [.fl (F+8*t)]) (t+1):=by
 refine⟨h.1,fun j h1 h2=>?_⟩
 show put S2.is ((F+8*t)/8) true (j/8)=true/\(if j/8=(F+8*t)/8 then S2.now j else S2.tok j)=S.now j
 by_cases hj:j/8=(F+8*t)/8
 ·rw[if_pos hj,hj,h.1]
  exact⟨by simp[put],rfl⟩
 ·rw[if_neg hj]
  obtain⟨h3,h4⟩:=h.2 j h1 (by omega)
  exact⟨by simp[put,hj,h3],h4⟩
theorem FlP.fence {F:Nat} {S S2:DS} {t:Nat} (h:FlP F S S2 t):(xh S2 [.fe]).now=S.now/\∀j,F≤j->j<F+8*t->Fix (xh S2 [.fe]) j (S.now j):=by
 refine⟨h.1,fun j h1 h2=>⟨by show S2.now j=S.now j;rw[h.1],?_,fun he=>by cases he⟩⟩
 obtain⟨h3,h4⟩:=h.2 j h1 h2
 show(if S2.is (j/8)=true then S2.tok j else S2.kept j)=S.now j
 rw[if_pos h3,h4]
end Go.Proofs.YtcdhklgahepcaaaGreat
