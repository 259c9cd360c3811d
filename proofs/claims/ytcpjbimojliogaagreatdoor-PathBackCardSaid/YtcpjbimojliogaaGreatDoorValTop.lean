/- A text between quotes, as package value writes it. -/
import Derived.Test.YtcpjbimojliogaaGreatDoorValNumber
namespace Go.Proofs.YtcpjbimojliogaaGreatDoor
open Go.RowKit
set_option linter.unusedVariables false
def hexS : ByteArray := ⟨#[48, 49, 50, 51, 52, 53, 54, 55, 56, 57, 97, 98, 99, 100, 101, 102]⟩
theorem quote_next (s : ByteArray) (j : Nat) (hj : j < s.size) : quoteL (s.data.toList.take (j + 1)) = quoteL (s.data.toList.take j) ++ quoteB (s[j]'hj) := by
  have hl : j < s.data.toList.length := by simpa using hj
  unfold quoteL
  rw [List.take_succ_eq_append_getElem hl, List.flatMap_append]
  simp
  rfl
theorem quote_le (s : ByteArray) (j : Nat) (hj : j ≤ s.size) : (quoteL (s.data.toList.take j)).length ≤ 3 * s.size := by
  have h := quoteL_len (s.data.toList.take j)
  rw [List.length_take] at h
  have : s.data.toList.length = s.size := by simp
  omega
theorem hex_fig : ∀ q : Fin 16, (#[48, 49, 50, 51, 52, 53, 54, 55, 56, 57, 97, 98, 99, 100, 101, 102] : Array UInt8)[q.val]'(by simp) = figB q.val := by decide
theorem hex_hi (c : Nat) (h : c < 256) (hq : c / 16 < (⟨#[48, 49, 50, 51, 52, 53, 54, 55, 56, 57, 97, 98, 99, 100, 101, 102]⟩ : ByteArray).size) : (⟨#[48, 49, 50, 51, 52, 53, 54, 55, 56, 57, 97, 98, 99, 100, 101, 102]⟩ : ByteArray)[c / 16]'hq = figB (c / 16) := hex_fig ⟨c / 16, by omega⟩
theorem hex_lo (c : Nat) (hq : c % 16 < (⟨#[48, 49, 50, 51, 52, 53, 54, 55, 56, 57, 97, 98, 99, 100, 101, 102]⟩ : ByteArray).size) : (⟨#[48, 49, 50, 51, 52, 53, 54, 55, 56, 57, 97, 98, 99, 100, 101, 102]⟩ : ByteArray)[c % 16]'hq = figB (c % 16) := hex_fig ⟨c % 16, by omega⟩
end Go.Proofs.YtcpjbimojliogaaGreatDoor
namespace Go.Proofs.YtcpjbimojliogaaGreatDoor
open Go.RowKit
set_option linter.unusedVariables false
abbrev agV (T : VT) : Value := .agg #[.int .i64 T.kind, .int .u64 T.num, .string T.text, .slice T.ia T.len T.cap]
theorem join_succ (s f : Nat → List UInt8) (j : Nat) : joinTo s f (j + 1) = joinTo s f j ++ (s j ++ f j) := rfl
end Go.Proofs.YtcpjbimojliogaaGreatDoor
namespace Go.Proofs.YtcpjbimojliogaaGreatDoor
open Go.RowKit
set_option linter.unusedVariables false
end Go.Proofs.YtcpjbimojliogaaGreatDoor
namespace Go.Proofs.YtcpjbimojliogaaGreatDoor
open Go.RowKit
set_option linter.unusedVariables false
/-- the table of powers stands, whatever is made from B on -/
def TabB (B : Nat) (w : World) : Prop := Lib.TabBelow Tryz.prog B w "internal/strconv.uint64pow10" .u64 Lib.pow10Tab
theorem TabB.on {B : Nat} {w w1 : World} (h : TabB B w) (hb : Below B w w1) : TabB B w1 := Lib.TabBelow.on h hb
theorem TabB.here {B : Nat} {w : World} (h : TabB B w) : Tab w := Lib.TabBelow.here h
theorem TabB.of {B : Nat} {w : World} (h : Tab w) (hB : w.heap.size ≤ B) : TabB B w := fun w' hb => (Lib.tabBelow_of_tabIs h) w' (hb.mono hB)
theorem textT_10 {T : VT} (h : T.kind = 10) : textT T = 39 :: (quoteL T.text.data.toList ++ [39]) := by
  rw [textT_eq]; unfold textOf; rw [if_pos h, ByteArray.toList_eq]
theorem textT_list {T : VT} (h : T.kind = 11 ∨ T.kind = 12) : textT T = 91 :: (joinTo commaS (fun i => textT (T.kid i)) T.len ++ [93]) := by
  rw [textT_eq]; unfold textOf; rw [if_neg (by omega), if_pos h]
theorem textT_struct {T : VT} (h : T.kind = 13) : textT T = 40 :: (joinTo commaS (fun i => textT (T.kid i)) T.len ++ [41]) := by
  rw [textT_eq]; unfold textOf; rw [if_neg (by omega), if_neg (by omega), if_pos h]
theorem textT_union {T : VT} (h : T.kind = 14) : textT T = 60 :: (Lib.decDigits T.num.toNat ++ (joinTo colonS (fun i => textT (T.kid i)) T.len ++ [62])) := by
  rw [textT_eq]; unfold textOf; rw [if_neg (by omega), if_neg (by omega), if_neg (by omega), if_pos h]
theorem textT_num {T : VT} (h0 : T.kind ≠ 10) (h1 : T.kind ≠ 11) (h2 : T.kind ≠ 12) (h3 : T.kind ≠ 13) (h4 : T.kind ≠ 14) : textT T = datL (datK T.kind T.num) := by
  rw [textT_eq]; unfold textOf; rw [if_neg h0, if_neg (by omega), if_neg h3, if_neg h4]
end Go.Proofs.YtcpjbimojliogaaGreatDoor
namespace Go.Proofs.YtcpjbimojliogaaGreatDoor
open Go.RowKit
set_option linter.unusedVariables false
theorem TabB.wide {B B' : Nat} {w : World} (h : TabB B w) (hB : B ≤ B') : TabB B' w := fun w' hb => h w' (hb.mono hB)
theorem CellsAt.below {w w' : World} {S : Nat → Prop} {ao : Option Addr} {i B : Nat} {T : VT} (h : CellsAt w S ao i T) (hb : Below B w w') (hS : ∀ b, S b → b < B) : CellsAt w' S ao i T :=
  h.held (fun _ s => s) hb.size (fun b s _ => hb.block b (hS b s))
theorem ValAt.old {w : World} {S : Nat → Prop} : ∀ T : VT, ValAt w S T → ValAt w (fun b => b < w.heap.size) T := by
  refine VT.ind fun T ih h => ?_
  obtain ⟨h1, h2⟩ := (valAt_iff T).1 h
  refine (valAt_iff T).2 ⟨h1, fun i hi => ⟨?_, ih i hi (h2 i hi).2⟩⟩
  obtain ⟨b, off, e, hs, hl, hc⟩ := (h2 i hi).1
  exact ⟨b, off, e, hl, hl, hc⟩
theorem dec_ne (n : Nat) : Lib.decDigits n ≠ [] := by
  intro h
  have := Lib.nDigits_pos n
  have h2 := Lib.decDigits_length n
  rw [h] at h2
  simp at h2; omega
theorem text_nonempty (T : VT) : textT T ≠ [] := by
  rw [textT_eq]
  unfold textOf
  split
  · simp
  · split
    · simp
    · split
      · simp
      · split
        · simp
        · unfold datL
          split
          · split <;> simp [trueL, falseL]
          · split
            · split
              · simp
              · exact dec_ne _
            · simp
end Go.Proofs.YtcpjbimojliogaaGreatDoor
