/- Join: of the code and of the reference; tokens in memory. -/
import Derived.Test.YtbejpgoedenpmaaGreatDoorTokQuote
import Derived.Test.YtbejpgoedenpmaaGreatDoorTokBuild
namespace Go.Proofs.YtbejpgoedenpmaaGreatDoor
open Go.RowKit
set_option linter.unusedVariables false
/-- a token as it lies in memory -/
structure TkV where
  k : Int
  t : ByteArray
  n : Int
  a : Int
instance : Inhabited TkV := ⟨⟨0, ⟨#[]⟩, 0, 0⟩⟩
def TkAt (w : World) (ao : Option Addr) (i : Nat) (x : TkV) : Prop :=
  ∃ b off, ao = some ⟨b, off, none⟩ ∧ w.cell? ⟨b, off + i * 4, none⟩ = some (.int .i64 x.k) ∧ w.cell? ⟨b, off + i * 4 + 1, none⟩ = some (.string x.t) ∧ w.cell? ⟨b, off + i * 4 + 2, none⟩ = some (.int .u64 x.n) ∧ w.cell? ⟨b, off + i * 4 + 3, none⟩ = some (.int .i64 x.a)
theorem TkAt.held {w w1 : World} {ao : Option Addr} {i : Nat} {x : TkV} (h : TkAt w ao i x) (hb : Below w.heap.size w w1) : TkAt w1 ao i x := by
  obtain ⟨b, off, e, h0, h1, h2, h3⟩ := h
  exact ⟨b, off, e, keepL hb h0, keepL hb h1, keepL hb h2, keepL hb h3⟩
def txV (x : TkV) : List UInt8 := if x.k = 3 then quoteL x.t.data.toList else x.t.data.toList
/-- the first n tokens, joined -/
def joinF (L : Nat → TkV) : Nat → List UInt8
  | 0 => []
  | k + 1 => joinF L k ++ (if k = 0 then [] else [32]) ++ txV (L k)
theorem quoteL_le (s : ByteArray) : (quoteL s.data.toList).length ≤ 2 * s.size + 2 := by
  have h1 := dbl_le s.data.toList
  have h2 := (Lib.size_eq s).symm
  unfold quoteL
  simp only [List.length_cons, List.length_append, List.length_nil]
  omega
theorem txV_le (x : TkV) : (txV x).length ≤ 2 * x.t.size + 2 := by
  have h1 := quoteL_le x.t
  have h2 := (Lib.size_eq x.t).symm
  unfold txV
  split <;> omega
theorem joinF_le (L : Nat → TkV) (M n : Nat) (h : ∀ i, i < n → (L i).t.size ≤ M) : ∀ k, k ≤ n → (joinF L k).length ≤ k * (2 * M + 3)
  | 0, _ => Nat.zero_le _
  | k + 1, hk => by
    have h1 := joinF_le L M n h k (by omega)
    have h2 := txV_le (L k)
    have h3 := h k (by omega)
    have h4 : (if k = 0 then ([] : List UInt8) else [32]).length ≤ 1 := by split <;> simp
    rw [joinF, List.length_append, List.length_append, Nat.add_mul]
    omega
end Go.Proofs.YtbejpgoedenpmaaGreatDoor
