/- What a law's proof has in common: arguments read behind the call as before where nothing below the old heap has turned; arguments of small shapes, opened. -/
import Derived.Test.YtcojomkpogikiaaGreatDoorQ00
namespace Go.Proofs.YtcojomkpogikiaaGreatDoor
open Go.ChangeShapes Go.WideShapes Go.ChangeAt Go.RowKit
end Go.Proofs.YtcojomkpogikiaaGreatDoor
namespace Go.Proofs.YtcojomkpogikiaaGreatDoor
open Go.ChangeShapes Go.WideShapes Go.ChangeAt Go.RowKit
section
variable {H : Type} (enc : TypeId × Value → H) (P : Program) (w : World)
variable {enc P w}
theorem rdg_elem {t e : TypeId} {k : Nat} {cs : List Value} (ht : P.underlying t = some (.array k e)) (h : Rdg enc P w t cs) (i n : Nat) (hi : i < k) (hc : P.cellsOf e = n) : Rdg enc P w e ((cs.drop (i * n)).take n) := by
  obtain ⟨fuel, d, p, h, hw⟩ := h
  obtain ⟨xs, m, _, hx, _, hl, hfl⟩ := DataW.trod_array ht h
  obtain ⟨rfl, _⟩ := Prod.mk.inj hx
  subst hc
  have hi' : i < xs.length := by omega
  refine ⟨m, xs[i].1, xs[i].2, by rw [hfl i hi, List.getElem?_eq_getElem hi'], fun k hk => hw k ?_⟩
  simp only [DataW.weights, ht]
  refine weights_mem_all (j := i) (d := xs[i].1) ?_ k hk
  rw [List.getElem?_map, List.getElem?_eq_getElem hi']; rfl
end
end Go.Proofs.YtcojomkpogikiaaGreatDoor
namespace Go.Proofs.YtcojomkpogikiaaGreatDoor
open Go.ChangeShapes Go.WideShapes Go.ChangeAt Go.RowKit
end Go.Proofs.YtcojomkpogikiaaGreatDoor
