/-
  One step of the reference's, whatever it stands at.
-/
import Derived.Test.YtedbklipbfbmoaaDoorQSp
import Derived.Test.YtedbklipbfbmoaaDoorQFd
namespace Go.Proofs.YtedbklipbfbmoaaDoor
open Go.RowKit

theorem stepR_any {o : Nat → Nat × Nat} {x P : Nat} {b : Ps} {RS : B} {ka : Option Addr} {kn kc : Nat} (hx : x < 8) (hRS : RS.length ≤ 1000000) (hb : Bs b) (h4 : b.st ≠ 4) (w : World) (h : IsRf w o x P b RS ka kn kc) :
    Calls Tryd.prog 25 #[.pointer (some ⟨P, 0, none⟩)] w fun e w' => SOut w o x P b RS e w' := by
  have hl := hb.1
  rcases hb.2.1 with ⟨_, e⟩ | ⟨h3, h8, b0, b1, _, e⟩ | ⟨k1, k2, e⟩ | e | e
  · rw [hl] at e
    obtain rfl : b = pz 0 := e
    exact stepR_l hx hRS w h
  · rw [hl] at e
    generalize b.rq = q at h3 h8 b0 b1 e
    subst e
    exact stepR_pd hx hRS h3 b0 b1 hb w h
  · generalize b.past = k at k1 k2 e
    subst e
    exact stepR_pp hx hRS k1 k2 w h
  · subst e
    exact stepR_3 hx hRS w h
  · subst e
    exact absurd rfl h4
end Go.Proofs.YtedbklipbfbmoaaDoor
