/- Contract of chapter 6's reference: number. -/
import Derived.Test.YtohphejhlgnciaaTypesMore
import Derived.Test.YtohphejhlgnciaaPrimRef
namespace Go.Proofs.Ytohphejhlgnciaa
open Go.RowKit
set_option linter.unusedVariables false
def numberB (L : Nat → TypeV) (T : TypeV) (n : Int) : Bool := if T.kind = 9 then mayK 9 n else if (L T.tag.toNat).kind = 9 then decide (0 ≤ valueZ (L T.tag.toNat) n) else mayK (L T.tag.toNat).kind n
end Go.Proofs.Ytohphejhlgnciaa
namespace Go.Proofs.Ytohphejhlgnciaa
open Go.RowKit
set_option linter.unusedVariables false
def itmO (x : ItemV) : Obj := .cells #[.string x.name, .int .u64 x.num, .int .i64 x.type, .bool x.key, .bool x.rest] 38
/-- an item's own box, beside its type's -/
def ItB (g h : Nat) (T : TypeV) (x : ItemV) (w0 w : World) : Prop := w.heap[h]? = some (itmO x) ∧ BoxT g T w0 w
theorem ItB.keep {g h : Nat} {T : TypeV} {x : ItemV} {w0 w w1 : World} (hi : ItB g h T x w0 w) (hb : Below w.heap.size w w1) : ItB g h T x w0 w1 := ⟨(hb.block h (lt_of_block hi.1)).trans hi.1, hi.2.keep hb⟩
theorem ItB.drewN {g h : Nat} {T : TypeV} {x : ItemV} {w0 w : World} (hi : ItB g h T x w0 w) (m : Nat) : ItB g h T x w0 (w.drewN m) := hi.keep (drewN_below (Below.refl _ _) m)
theorem ItB.cells {g h : Nat} {T : TypeV} {x : ItemV} {w0 w : World} (hi : ItB g h T x w0 w) : w.cell? ⟨h, 0, none⟩ = some (.string x.name) ∧ w.cell? ⟨h, 1, none⟩ = some (.int .u64 x.num) ∧ w.cell? ⟨h, 2, none⟩ = some (.int .i64 x.type) ∧ w.cell? ⟨h, 3, none⟩ = some (.bool x.key) ∧ w.cell? ⟨h, 4, none⟩ = some (.bool x.rest) :=
  ⟨cell_at hi.1 rfl, cell_at hi.1 rfl, cell_at hi.1 rfl, cell_at hi.1 rfl, cell_at hi.1 rfl⟩
def nameEq (T : TypeV) (x : ItemV) (k : Nat) : Bool := (T.items k).name.toList == x.name.toList
def numEq (T : TypeV) (x : ItemV) (k : Nat) : Bool := (T.items k).num == x.num
def hasB (p : Nat → Bool) (n : Nat) : Bool := decide (firstN p n < n)
theorem hasB_next (p : Nat → Bool) (k : Nat) : hasB p (k + 1) = (hasB p k || p k) := by
  obtain ⟨h1, h2, h3⟩ := firstN_is p k
  unfold hasB
  by_cases c : firstN p k < k
  · rw [first_at h2 (by omega : firstN p k < k + 1) (h3 c), decide_eq_true c, decide_eq_true (by omega)]; rfl
  · have hn : ∀ i, i < k → p i = false := fun i hi => h2 i (by omega)
    rw [decide_eq_false c]
    cases hp : p k with
    | true => rw [first_at hn (Nat.lt_succ_self k) hp]; simp
    | false => rw [first_none (none_next hn hp)]; simp
theorem hasB_zero (p : Nat → Bool) : hasB p 0 = false := by unfold hasB; simp
theorem hasB_none {p : Nat → Bool} {n : Nat} (h : ∀ i, i < n → p i = false) : hasB p n = false := by unfold hasB; rw [first_none h]; simp
theorem hasB_some {p : Nat → Bool} {n k : Nat} (hk : k < n) (hp : p k = true) : hasB p n = true := by
  cases h : hasB p n with
  | true => rfl
  | false =>
    unfold hasB at h
    have h1 := firstN_is p n
    have h2 : ¬ firstN p n < n := by simpa using h
    rw [h1.2.1 k (by omega)] at hp; cases hp
def itemE (L : Nat → TypeV) (T : TypeV) (i : Nat) : Int :=
  if nameS (T.items i).name = false then 5 else if hasB (nameEq T (T.items i)) i then 6
  else if T.kind = 13 then (if (T.items i).key && !numK (L (T.items i).type.toNat).kind && (L (T.items i).type.toNat).kind != 10 then 17 else 0)
  else if (T.items i).rest then (if i + 1 < T.ilen then 14 else 0)
  else if numberB L T (T.items i).num = false then 7 else if hasB (numEq T (T.items i)) i then 6 else 0
end Go.Proofs.Ytohphejhlgnciaa
