/- The bytes of a number, as a string of the model; how a slice of bytes turns into a string. -/
import Derived.Test.YtinmdkhafamibaaGreatRows
import Derived.Test.YtinmdkhafamibaaGreatPrimMath
import Derived.WalkKit
import Derived.WalkSmall
import Derived.Laws.BytesString
import Derived.Laws.BytesArg
import Derived.Laws.IdiomStrings
import Derived.Laws.BitsAllLaws
namespace Go.Proofs.YtinmdkhafamibaaGreat
open Go.RowKit
theorem below_quiet {w w' : World} (h : ∃ m, w' = w.drewN m) : Below w.heap.size w w' := by
  obtain ⟨m, rfl⟩ := h; exact below_drewN (Below.refl _ _) m
/-- the string of some bytes -/
def bytesOf (l : List Int) : ByteArray := ⟨(l.map fun x => UInt8.ofNat x.toNat).toArray⟩
/-- the bytes of a number, the lowest first -/
def putL : Nat → Int → List Int
  | 0, _ => []
  | k + 1, n => n % 256 :: putL k (n / 256)
def putS (n z : Int) : ByteArray := bytesOf (putL z.toNat n)
theorem bytesOf_foldl : ∀ (l : List Int) (r : ByteArray), l.foldl (fun r n => r.push (UInt8.ofNat n.toNat)) r = ⟨r.data ++ (bytesOf l).data⟩
  | [], r => by simp [bytesOf]
  | b :: l, r => by
    simp only [List.foldl_cons]
    rw [bytesOf_foldl l]
    simp [bytesOf, ByteArray.push]
theorem conv_bytes (w : World) (a : Addr) (cap : Nat) (xs : List Int) (hc : ∀ j (hj : j < xs.length), w.cell? (a.add j) = some (.int .u8 xs[j])) :
    (convert 62 9 (.slice (some a) xs.length cap)).run Tryz.prog w = .ok (.string (bytesOf xs)) w := by
  rw [run_convert_bytes_string w 62 9 5 (some a) xs.length cap Tryz.underlying62 Tryz.underlying5 Tryz.underlying9]
  have hl := run_loadCells_list (P := Tryz.prog) w a (xs.map (Value.int .u8)) (fun j v hj => by
    have hj' : j < xs.length := by
      have := (List.getElem?_eq_some_iff.1 hj).1
      simpa using this
    rw [hc j hj']
    simp [List.getElem?_eq_getElem hj'] at hj
    rw [← hj])
  simp only [List.length_map] at hl
  rw [run_bytesToString w a xs.length cap _ hl, bytesOf_foldl]
  have he0 : ByteArray.empty.data = #[] := rfl
  rw [he0]
  simp
theorem cell_new (w : World) (l : List Value) (t : TypeId) (f : Nat × Nat) (j : Nat) (hj : j < l.length) : (w.alloc (.cells l.toArray t f)).cell? ⟨w.heap.size, j, none⟩ = some l[j] := by
  have h : (w.alloc (.cells l.toArray t f)).heap[w.heap.size]? = some (.cells l.toArray t f) := by
    show (w.heap.push _)[w.heap.size]? = _
    simp
  unfold World.cell?
  rw [h]
  simp [hj]
theorem add0 (b j : Nat) : (Addr.add ⟨b, 0, none⟩ j) = ⟨b, j, none⟩ := by
  unfold Addr.add; split
  · subst_vars; rfl
  · simp
theorem conv1 (w : World) (x0 : Int) : (convert 62 9 (.slice (some ⟨w.heap.size, 0, none⟩) 1 1)).run Tryz.prog (w.alloc (.cells #[.int .u8 x0] 5)) = .ok (.string (bytesOf [x0])) (w.alloc (.cells #[.int .u8 x0] 5)) :=
  conv_bytes _ _ _ [x0] (fun j hj => by
    have h := cell_new w ([x0].map (Value.int .u8)) 5 (0, 0) j (by simpa using hj)
    rw [add0]; rw [List.getElem_map] at h; exact h)
theorem conv2 (w : World) (x0 x1 : Int) : (convert 62 9 (.slice (some ⟨w.heap.size, 0, none⟩) 2 2)).run Tryz.prog (w.alloc (.cells #[.int .u8 x0, .int .u8 x1] 5)) = .ok (.string (bytesOf [x0, x1])) (w.alloc (.cells #[.int .u8 x0, .int .u8 x1] 5)) :=
  conv_bytes _ _ _ [x0, x1] (fun j hj => by
    have h := cell_new w ([x0, x1].map (Value.int .u8)) 5 (0, 0) j (by simpa using hj)
    rw [add0]; rw [List.getElem_map] at h; exact h)
theorem conv4 (w : World) (x0 x1 x2 x3 : Int) : (convert 62 9 (.slice (some ⟨w.heap.size, 0, none⟩) 4 4)).run Tryz.prog (w.alloc (.cells #[.int .u8 x0, .int .u8 x1, .int .u8 x2, .int .u8 x3] 5)) = .ok (.string (bytesOf [x0, x1, x2, x3])) (w.alloc (.cells #[.int .u8 x0, .int .u8 x1, .int .u8 x2, .int .u8 x3] 5)) :=
  conv_bytes _ _ _ [x0, x1, x2, x3] (fun j hj => by
    have h := cell_new w ([x0, x1, x2, x3].map (Value.int .u8)) 5 (0, 0) j (by simpa using hj)
    rw [add0]; rw [List.getElem_map] at h; exact h)
theorem conv8 (w : World) (x0 x1 x2 x3 x4 x5 x6 x7 : Int) : (convert 62 9 (.slice (some ⟨w.heap.size, 0, none⟩) 8 8)).run Tryz.prog (w.alloc (.cells #[.int .u8 x0, .int .u8 x1, .int .u8 x2, .int .u8 x3, .int .u8 x4, .int .u8 x5, .int .u8 x6, .int .u8 x7] 5)) = .ok (.string (bytesOf [x0, x1, x2, x3, x4, x5, x6, x7])) (w.alloc (.cells #[.int .u8 x0, .int .u8 x1, .int .u8 x2, .int .u8 x3, .int .u8 x4, .int .u8 x5, .int .u8 x6, .int .u8 x7] 5)) :=
  conv_bytes _ _ _ [x0, x1, x2, x3, x4, x5, x6, x7] (fun j hj => by
    have h := cell_new w ([x0, x1, x2, x3, x4, x5, x6, x7].map (Value.int .u8)) 5 (0, 0) j (by simpa using hj)
    rw [add0]; rw [List.getElem_map] at h; exact h)
theorem mk1 (w : World) : (Instr.makeSlice 62 (.int .i64 1) (.int .i64 1)).run Tryz.prog w = .ok (.slice (some ⟨w.heap.size, 0, none⟩) 1 1) (w.alloc (.cells #[.int .u8 0] 5)) := by kernel_rfl
theorem mk2 (w : World) : (Instr.makeSlice 62 (.int .i64 2) (.int .i64 2)).run Tryz.prog w = .ok (.slice (some ⟨w.heap.size, 0, none⟩) 2 2) (w.alloc (.cells #[.int .u8 0, .int .u8 0] 5)) := by kernel_rfl
theorem mk4 (w : World) : (Instr.makeSlice 62 (.int .i64 4) (.int .i64 4)).run Tryz.prog w = .ok (.slice (some ⟨w.heap.size, 0, none⟩) 4 4) (w.alloc (.cells #[.int .u8 0, .int .u8 0, .int .u8 0, .int .u8 0] 5)) := by kernel_rfl
theorem mk8 (w : World) : (Instr.makeSlice 62 (.int .i64 8) (.int .i64 8)).run Tryz.prog w = .ok (.slice (some ⟨w.heap.size, 0, none⟩) 8 8) (w.alloc (.cells #[.int .u8 0, .int .u8 0, .int .u8 0, .int .u8 0, .int .u8 0, .int .u8 0, .int .u8 0, .int .u8 0] 5)) := by kernel_rfl
theorem putS1 (n : Int) : bytesOf [n % 256] = putS n 1 := by
  rfl
theorem putS2 (n : Int) : bytesOf [n % 256, n / 256 % 256] = putS n 2 := by
  rfl
theorem putS4 (n : Int) : bytesOf [n % 256, n / 256 % 256, n / 65536 % 256, n / 16777216 % 256] = putS n 4 := by
  have h2 : n / 65536 = n / 256 / 256 := by omega
  have h3 : n / 16777216 = n / 256 / 256 / 256 := by omega
  rw [h2, h3]
  rfl
theorem putS8 (n : Int) : bytesOf [n % 256, n / 256 % 256, n / 65536 % 256, n / 16777216 % 256, n / 4294967296 % 256, n / 1099511627776 % 256, n / 281474976710656 % 256, n / 72057594037927936 % 256] = putS n 8 := by
  have h2 : n / 65536 = n / 256 / 256 := by omega
  have h3 : n / 16777216 = n / 256 / 256 / 256 := by omega
  have h4 : n / 4294967296 = n / 256 / 256 / 256 / 256 := by omega
  have h5 : n / 1099511627776 = n / 256 / 256 / 256 / 256 / 256 := by omega
  have h6 : n / 281474976710656 = n / 256 / 256 / 256 / 256 / 256 / 256 := by omega
  have h7 : n / 72057594037927936 = n / 256 / 256 / 256 / 256 / 256 / 256 / 256 := by omega
  rw [h2, h3, h4, h5, h6, h7]
  rfl
/-- does the number fit its size? -/
def fits (n z : Int) : Bool := decide (n < pw z)
theorem fits_low {n z : Int} (hz : isSz z = true) (h : 0 ≤ n) : (lowZ n z != n) = !fits n z := by
  have hl : (lowZ n z = n) ↔ n < pw z := by
    unfold lowZ
    rcases isSz_cases hz with rfl | rfl | rfl | rfl
    · rw [pw1]; omega
    · rw [pw2]; omega
    · rw [pw4]; omega
    · rw [pw8]; omega
  unfold fits
  by_cases c : n < pw z
  · have e := hl.2 c; simp [e, c]
  · have e : lowZ n z ≠ n := fun h => c (hl.1 h)
    simp [e, c]
def putB (n z : Int) : ByteArray := if isSz z && fits n z then putS n z else ⟨#[]⟩
def putE (n z : Int) : Int := if isSz z then (if fits n z then 0 else 7) else 4
theorem put_no {n z : Int} (h : isSz z = false) : putB n z = ⟨#[]⟩ ∧ putE n z = 4 := by unfold putB putE; rw [h]; exact ⟨rfl, rfl⟩
theorem put_out {n z : Int} (h : isSz z = true) (k : fits n z = false) : putB n z = ⟨#[]⟩ ∧ putE n z = 7 := by unfold putB putE; rw [h, k]; exact ⟨rfl, rfl⟩
theorem put_in {n z : Int} (h : isSz z = true) (k : fits n z = true) : putB n z = putS n z ∧ putE n z = 0 := by unfold putB putE; rw [h, k]; exact ⟨rfl, rfl⟩
theorem ret_si {l : IntKind} {a b : ByteArray} {c d : Int} (h : a = b) (h' : c = d) : Ending.returned (.tuple #[.string a, .int l c]) = .returned (.tuple #[.string b, .int l d]) := by rw [h, h']
theorem bytesOf_append (a b : List Int) : bytesOf a ++ bytesOf b = bytesOf (a ++ b) := by
  apply ByteArray.ext; simp [bytesOf]
theorem putS8' (n : Int) (h0 : 0 ≤ n) (h1 : n ≤ 18446744073709551615) : bytesOf [n % 256, n / 256 % 256, n / 65536 % 256, n / 16777216 % 256, n / 4294967296 % 256, n / 1099511627776 % 256, n / 281474976710656 % 256, n / 72057594037927936] = putS n 8 := by
  rw [← putS8]
  have : n / 72057594037927936 % 256 = n / 72057594037927936 := by omega
  rw [this]
theorem refputE1 (n : Int) (_ : 0 ≤ n) (c : (n / 256 != 0) = true) : putB n 1 = ⟨#[]⟩ ∧ putE n 1 = 7 := by
  refine put_out rfl ?_
  unfold fits; rw [pw1]; simp at c; simp; omega
theorem refputB1 (n : Int) (_ : 0 ≤ n) (c : (n / 256 != 0) = false) : ({ data := #[] } : ByteArray) ++ bytesOf [n % 256] = putB n 1 ∧ putE n 1 = 0 := by
  have k : fits n 1 = true := by unfold fits; rw [pw1]; simp at c; simp; omega
  rw [(put_in rfl k).1, (put_in rfl k).2]
  refine ⟨?_, rfl⟩
  have e : (⟨#[]⟩ : ByteArray) = bytesOf [] := rfl
  rw [e]; simp only [bytesOf_append]; rfl
theorem refputE2 (n : Int) (_ : 0 ≤ n) (c : (n / 256 / 256 != 0) = true) : putB n 2 = ⟨#[]⟩ ∧ putE n 2 = 7 := by
  refine put_out rfl ?_
  unfold fits; rw [pw2]; simp at c; simp; omega
theorem refputB2 (n : Int) (_ : 0 ≤ n) (c : (n / 256 / 256 != 0) = false) : ({ data := #[] } : ByteArray) ++ bytesOf [n % 256] ++ bytesOf [n / 256 % 256] = putB n 2 ∧ putE n 2 = 0 := by
  have k : fits n 2 = true := by unfold fits; rw [pw2]; simp at c; simp; omega
  rw [(put_in rfl k).1, (put_in rfl k).2]
  refine ⟨?_, rfl⟩
  have e : (⟨#[]⟩ : ByteArray) = bytesOf [] := rfl
  rw [e]; simp only [bytesOf_append]; rfl
theorem refputE4 (n : Int) (_ : 0 ≤ n) (c : (n / 256 / 256 / 256 / 256 != 0) = true) : putB n 4 = ⟨#[]⟩ ∧ putE n 4 = 7 := by
  refine put_out rfl ?_
  unfold fits; rw [pw4]; simp at c; simp; omega
theorem refputB4 (n : Int) (_ : 0 ≤ n) (c : (n / 256 / 256 / 256 / 256 != 0) = false) : ({ data := #[] } : ByteArray) ++ bytesOf [n % 256] ++ bytesOf [n / 256 % 256] ++ bytesOf [n / 256 / 256 % 256] ++ bytesOf [n / 256 / 256 / 256 % 256] = putB n 4 ∧ putE n 4 = 0 := by
  have k : fits n 4 = true := by unfold fits; rw [pw4]; simp at c; simp; omega
  rw [(put_in rfl k).1, (put_in rfl k).2]
  refine ⟨?_, rfl⟩
  have e : (⟨#[]⟩ : ByteArray) = bytesOf [] := rfl
  rw [e]; simp only [bytesOf_append]; rfl
theorem refputE8 (n : Int) (_ : 0 ≤ n) (c : (n / 256 / 256 / 256 / 256 / 256 / 256 / 256 / 256 != 0) = true) : putB n 8 = ⟨#[]⟩ ∧ putE n 8 = 7 := by
  refine put_out rfl ?_
  unfold fits; rw [pw8]; simp at c; simp; omega
theorem refputB8 (n : Int) (_ : 0 ≤ n) (c : (n / 256 / 256 / 256 / 256 / 256 / 256 / 256 / 256 != 0) = false) : ({ data := #[] } : ByteArray) ++ bytesOf [n % 256] ++ bytesOf [n / 256 % 256] ++ bytesOf [n / 256 / 256 % 256] ++ bytesOf [n / 256 / 256 / 256 % 256] ++ bytesOf [n / 256 / 256 / 256 / 256 % 256] ++ bytesOf [n / 256 / 256 / 256 / 256 / 256 % 256] ++ bytesOf [n / 256 / 256 / 256 / 256 / 256 / 256 % 256] ++ bytesOf [n / 256 / 256 / 256 / 256 / 256 / 256 / 256 % 256] = putB n 8 ∧ putE n 8 = 0 := by
  have k : fits n 8 = true := by unfold fits; rw [pw8]; simp at c; simp; omega
  rw [(put_in rfl k).1, (put_in rfl k).2]
  refine ⟨?_, rfl⟩
  have e : (⟨#[]⟩ : ByteArray) = bytesOf [] := rfl
  rw [e]; simp only [bytesOf_append]; rfl
end Go.Proofs.YtinmdkhafamibaaGreat
namespace Go.Proofs.YtinmdkhafamibaaGreat
open Go.RowKit
def byteAt (s : ByteArray) (k : Nat) : Int := ((s.data.toList.getD k 0).toNat : Int)
theorem byteAt_get (s : ByteArray) (k : Nat) (h : k < s.size) : ((s[k].toNat : Nat) : Int) = byteAt s k := by
  unfold byteAt
  have h' : k < s.data.toList.length := by simpa using h
  rw [List.getD_eq_getElem?_getD, List.getElem?_eq_getElem h']
  rfl
theorem byteAt_range (s : ByteArray) (k : Nat) : 0 ≤ byteAt s k ∧ byteAt s k ≤ 255 := by
  unfold byteAt
  have := (s.data.toList.getD k 0).toNat_lt
  omega
/-- the number of some bytes, the lowest first -/
def takeL : List Int → Int
  | [] => 0
  | b :: r => b + 256 * takeL r
/-- m bytes from place k on -/
def sub (s : ByteArray) (k : Nat) : Nat → List Int
  | 0 => []
  | m + 1 => byteAt s k :: sub s (k + 1) m
def takeS (s : ByteArray) (k : Nat) (z : Int) : Int := takeL (sub s k z.toNat)
theorem or_join (a b c : Int) (j : Nat) (hc : c = ((2 ^ j : Nat) : Int)) (ha : 0 ≤ a ∧ a < c) (hb : 0 ≤ b) (hbc : b * c ≤ 18446744073709551615) (hcc : c ≤ 18446744073709551616) :
    bits .or .u64 a (b * c) = a + b * c := by
  have hc0 : 0 ≤ c := by omega
  have hm : 0 ≤ b * c := Int.mul_nonneg hb hc0
  rw [u64_or a (b * c) ha.1 (by omega) hm (by omega)]
  obtain ⟨x, rfl⟩ := Int.eq_ofNat_of_zero_le ha.1
  obtain ⟨y, rfl⟩ := Int.eq_ofNat_of_zero_le hb
  subst hc
  have e : (((y : Nat) : Int) * ((2 ^ j : Nat) : Int)).toNat = y * 2 ^ j := by rw [← Int.natCast_mul]; rfl
  have hx : x < 2 ^ j := by have := ha.2; omega
  rw [e, Int.toNat_natCast, Nat.or_comm, nat_join j (y * 2 ^ j) x (Nat.mul_mod_left _ _) hx, ← Int.natCast_mul, ← Int.natCast_add, Nat.add_comm]
theorem u64_byte (x : Nat) (h : x < 256) : IntKind.u64.wrap (x : Int) = x := IntWalk.u64_in _ (by omega)
theorem takes1 (x0 : Nat) (h0 : x0 < 256) :
    bits .or .u64 ((0 : Int)) (IntKind.u64.wrap (IntKind.u64.wrap ((x0 : Nat) : Int))) = takeL [((x0 : Nat) : Int)] := by
  rw [u64_byte x0 h0]
  rw [u64_byte x0 h0]
  have e0 : bits .or .u64 0 (x0 : Int) = (x0 : Int) := by have := or_join 0 x0 1 0 rfl (by omega) (by omega) (by omega) (by omega); simpa using this
  rw [e0]
  simp only [takeL]
  omega
theorem takes2 (x0 x1 : Nat) (h0 : x0 < 256) (h1 : x1 < 256) :
    bits .or .u64 (bits .or .u64 ((0 : Int)) (IntKind.u64.wrap (IntKind.u64.wrap ((x0 : Nat) : Int)))) (IntKind.u64.wrap ((IntKind.u64.wrap ((x1 : Nat) : Int)) * 256)) = takeL [((x0 : Nat) : Int), ((x1 : Nat) : Int)] := by
  rw [u64_byte x0 h0, u64_byte x1 h1]
  rw [u64_byte x0 h0]
  have e0 : bits .or .u64 0 (x0 : Int) = (x0 : Int) := by have := or_join 0 x0 1 0 rfl (by omega) (by omega) (by omega) (by omega); simpa using this
  rw [e0]
  have w1 : IntKind.u64.wrap ((x1 : Int) * 256) = (x1 : Int) * 256 := IntWalk.u64_in _ (by omega)
  have e1 := or_join ((x0 : Int)) x1 256 8 rfl (by omega) (by omega) (by omega) (by omega)
  rw [w1, e1]
  simp only [takeL]
  omega
theorem takes4 (x0 x1 x2 x3 : Nat) (h0 : x0 < 256) (h1 : x1 < 256) (h2 : x2 < 256) (h3 : x3 < 256) :
    bits .or .u64 (bits .or .u64 (bits .or .u64 (bits .or .u64 ((0 : Int)) (IntKind.u64.wrap (IntKind.u64.wrap ((x0 : Nat) : Int)))) (IntKind.u64.wrap ((IntKind.u64.wrap ((x1 : Nat) : Int)) * 256))) (IntKind.u64.wrap ((IntKind.u64.wrap ((x2 : Nat) : Int)) * 65536))) (IntKind.u64.wrap ((IntKind.u64.wrap ((x3 : Nat) : Int)) * 16777216)) = takeL [((x0 : Nat) : Int), ((x1 : Nat) : Int), ((x2 : Nat) : Int), ((x3 : Nat) : Int)] := by
  rw [u64_byte x0 h0, u64_byte x1 h1, u64_byte x2 h2, u64_byte x3 h3]
  rw [u64_byte x0 h0]
  have e0 : bits .or .u64 0 (x0 : Int) = (x0 : Int) := by have := or_join 0 x0 1 0 rfl (by omega) (by omega) (by omega) (by omega); simpa using this
  rw [e0]
  have w1 : IntKind.u64.wrap ((x1 : Int) * 256) = (x1 : Int) * 256 := IntWalk.u64_in _ (by omega)
  have e1 := or_join ((x0 : Int)) x1 256 8 rfl (by omega) (by omega) (by omega) (by omega)
  rw [w1, e1]
  have w2 : IntKind.u64.wrap ((x2 : Int) * 65536) = (x2 : Int) * 65536 := IntWalk.u64_in _ (by omega)
  have e2 := or_join ((x0 : Int) + (x1 : Int) * 256) x2 65536 16 rfl (by omega) (by omega) (by omega) (by omega)
  rw [w2, e2]
  have w3 : IntKind.u64.wrap ((x3 : Int) * 16777216) = (x3 : Int) * 16777216 := IntWalk.u64_in _ (by omega)
  have e3 := or_join ((x0 : Int) + (x1 : Int) * 256 + (x2 : Int) * 65536) x3 16777216 24 rfl (by omega) (by omega) (by omega) (by omega)
  rw [w3, e3]
  simp only [takeL]
  omega
theorem takes8 (x0 x1 x2 x3 x4 x5 x6 x7 : Nat) (h0 : x0 < 256) (h1 : x1 < 256) (h2 : x2 < 256) (h3 : x3 < 256) (h4 : x4 < 256) (h5 : x5 < 256) (h6 : x6 < 256) (h7 : x7 < 256) :
    bits .or .u64 (bits .or .u64 (bits .or .u64 (bits .or .u64 (bits .or .u64 (bits .or .u64 (bits .or .u64 (bits .or .u64 ((0 : Int)) (IntKind.u64.wrap (IntKind.u64.wrap ((x0 : Nat) : Int)))) (IntKind.u64.wrap ((IntKind.u64.wrap ((x1 : Nat) : Int)) * 256))) (IntKind.u64.wrap ((IntKind.u64.wrap ((x2 : Nat) : Int)) * 65536))) (IntKind.u64.wrap ((IntKind.u64.wrap ((x3 : Nat) : Int)) * 16777216))) (IntKind.u64.wrap ((IntKind.u64.wrap ((x4 : Nat) : Int)) * 4294967296))) (IntKind.u64.wrap ((IntKind.u64.wrap ((x5 : Nat) : Int)) * 1099511627776))) (IntKind.u64.wrap ((IntKind.u64.wrap ((x6 : Nat) : Int)) * 281474976710656))) (IntKind.u64.wrap ((IntKind.u64.wrap ((x7 : Nat) : Int)) * 72057594037927936)) = takeL [((x0 : Nat) : Int), ((x1 : Nat) : Int), ((x2 : Nat) : Int), ((x3 : Nat) : Int), ((x4 : Nat) : Int), ((x5 : Nat) : Int), ((x6 : Nat) : Int), ((x7 : Nat) : Int)] := by
  rw [u64_byte x0 h0, u64_byte x1 h1, u64_byte x2 h2, u64_byte x3 h3, u64_byte x4 h4, u64_byte x5 h5, u64_byte x6 h6, u64_byte x7 h7]
  rw [u64_byte x0 h0]
  have e0 : bits .or .u64 0 (x0 : Int) = (x0 : Int) := by have := or_join 0 x0 1 0 rfl (by omega) (by omega) (by omega) (by omega); simpa using this
  rw [e0]
  have w1 : IntKind.u64.wrap ((x1 : Int) * 256) = (x1 : Int) * 256 := IntWalk.u64_in _ (by omega)
  have e1 := or_join ((x0 : Int)) x1 256 8 rfl (by omega) (by omega) (by omega) (by omega)
  rw [w1, e1]
  have w2 : IntKind.u64.wrap ((x2 : Int) * 65536) = (x2 : Int) * 65536 := IntWalk.u64_in _ (by omega)
  have e2 := or_join ((x0 : Int) + (x1 : Int) * 256) x2 65536 16 rfl (by omega) (by omega) (by omega) (by omega)
  rw [w2, e2]
  have w3 : IntKind.u64.wrap ((x3 : Int) * 16777216) = (x3 : Int) * 16777216 := IntWalk.u64_in _ (by omega)
  have e3 := or_join ((x0 : Int) + (x1 : Int) * 256 + (x2 : Int) * 65536) x3 16777216 24 rfl (by omega) (by omega) (by omega) (by omega)
  rw [w3, e3]
  have w4 : IntKind.u64.wrap ((x4 : Int) * 4294967296) = (x4 : Int) * 4294967296 := IntWalk.u64_in _ (by omega)
  have e4 := or_join ((x0 : Int) + (x1 : Int) * 256 + (x2 : Int) * 65536 + (x3 : Int) * 16777216) x4 4294967296 32 rfl (by omega) (by omega) (by omega) (by omega)
  rw [w4, e4]
  have w5 : IntKind.u64.wrap ((x5 : Int) * 1099511627776) = (x5 : Int) * 1099511627776 := IntWalk.u64_in _ (by omega)
  have e5 := or_join ((x0 : Int) + (x1 : Int) * 256 + (x2 : Int) * 65536 + (x3 : Int) * 16777216 + (x4 : Int) * 4294967296) x5 1099511627776 40 rfl (by omega) (by omega) (by omega) (by omega)
  rw [w5, e5]
  have w6 : IntKind.u64.wrap ((x6 : Int) * 281474976710656) = (x6 : Int) * 281474976710656 := IntWalk.u64_in _ (by omega)
  have e6 := or_join ((x0 : Int) + (x1 : Int) * 256 + (x2 : Int) * 65536 + (x3 : Int) * 16777216 + (x4 : Int) * 4294967296 + (x5 : Int) * 1099511627776) x6 281474976710656 48 rfl (by omega) (by omega) (by omega) (by omega)
  rw [w6, e6]
  have w7 : IntKind.u64.wrap ((x7 : Int) * 72057594037927936) = (x7 : Int) * 72057594037927936 := IntWalk.u64_in _ (by omega)
  have e7 := or_join ((x0 : Int) + (x1 : Int) * 256 + (x2 : Int) * 65536 + (x3 : Int) * 16777216 + (x4 : Int) * 4294967296 + (x5 : Int) * 1099511627776 + (x6 : Int) * 281474976710656) x7 72057594037927936 56 rfl (by omega) (by omega) (by omega) (by omega)
  rw [w7, e7]
  simp only [takeL]
  omega
theorem takeW1 (s : ByteArray) (k : Nat) (h : k + 1 ≤ s.size) :
    bits .or .u64 ((0 : Int)) (IntKind.u64.wrap (IntKind.u64.wrap ((s[k].toNat : Nat) : Int))) = takeS s k 1 := by
  rw [takes1 _ (s[k].toNat_lt)]
  rw [byteAt_get s (k) (by omega)]
  rfl
theorem takeW2 (s : ByteArray) (k : Nat) (h : k + 2 ≤ s.size) :
    bits .or .u64 (bits .or .u64 ((0 : Int)) (IntKind.u64.wrap (IntKind.u64.wrap ((s[k].toNat : Nat) : Int)))) (IntKind.u64.wrap ((IntKind.u64.wrap ((s[k + 1].toNat : Nat) : Int)) * 256)) = takeS s k 2 := by
  rw [takes2 _ _ (s[k].toNat_lt) (s[k + 1].toNat_lt)]
  rw [byteAt_get s (k) (by omega), byteAt_get s (k + 1) (by omega)]
  rfl
theorem takeW4 (s : ByteArray) (k : Nat) (h : k + 4 ≤ s.size) :
    bits .or .u64 (bits .or .u64 (bits .or .u64 (bits .or .u64 ((0 : Int)) (IntKind.u64.wrap (IntKind.u64.wrap ((s[k].toNat : Nat) : Int)))) (IntKind.u64.wrap ((IntKind.u64.wrap ((s[k + 1].toNat : Nat) : Int)) * 256))) (IntKind.u64.wrap ((IntKind.u64.wrap ((s[k + 2].toNat : Nat) : Int)) * 65536))) (IntKind.u64.wrap ((IntKind.u64.wrap ((s[k + 3].toNat : Nat) : Int)) * 16777216)) = takeS s k 4 := by
  rw [takes4 _ _ _ _ (s[k].toNat_lt) (s[k + 1].toNat_lt) (s[k + 2].toNat_lt) (s[k + 3].toNat_lt)]
  rw [byteAt_get s (k) (by omega), byteAt_get s (k + 1) (by omega), byteAt_get s (k + 2) (by omega), byteAt_get s (k + 3) (by omega)]
  rfl
theorem takeW8 (s : ByteArray) (k : Nat) (h : k + 8 ≤ s.size) :
    bits .or .u64 (bits .or .u64 (bits .or .u64 (bits .or .u64 (bits .or .u64 (bits .or .u64 (bits .or .u64 (bits .or .u64 ((0 : Int)) (IntKind.u64.wrap (IntKind.u64.wrap ((s[k].toNat : Nat) : Int)))) (IntKind.u64.wrap ((IntKind.u64.wrap ((s[k + 1].toNat : Nat) : Int)) * 256))) (IntKind.u64.wrap ((IntKind.u64.wrap ((s[k + 2].toNat : Nat) : Int)) * 65536))) (IntKind.u64.wrap ((IntKind.u64.wrap ((s[k + 3].toNat : Nat) : Int)) * 16777216))) (IntKind.u64.wrap ((IntKind.u64.wrap ((s[k + 4].toNat : Nat) : Int)) * 4294967296))) (IntKind.u64.wrap ((IntKind.u64.wrap ((s[k + 5].toNat : Nat) : Int)) * 1099511627776))) (IntKind.u64.wrap ((IntKind.u64.wrap ((s[k + 6].toNat : Nat) : Int)) * 281474976710656))) (IntKind.u64.wrap ((IntKind.u64.wrap ((s[k + 7].toNat : Nat) : Int)) * 72057594037927936)) = takeS s k 8 := by
  rw [takes8 _ _ _ _ _ _ _ _ (s[k].toNat_lt) (s[k + 1].toNat_lt) (s[k + 2].toNat_lt) (s[k + 3].toNat_lt) (s[k + 4].toNat_lt) (s[k + 5].toNat_lt) (s[k + 6].toNat_lt) (s[k + 7].toNat_lt)]
  rw [byteAt_get s (k) (by omega), byteAt_get s (k + 1) (by omega), byteAt_get s (k + 2) (by omega), byteAt_get s (k + 3) (by omega), byteAt_get s (k + 4) (by omega), byteAt_get s (k + 5) (by omega), byteAt_get s (k + 6) (by omega), byteAt_get s (k + 7) (by omega)]
  rfl
def takeE (s : ByteArray) (a z : Int) : Int := if isSz z then (if decide (a < 0) || decide ((s.size : Int) < a) then 7 else if decide ((s.size : Int) - a < z) then 2 else 0) else 4
def takeN (s : ByteArray) (a z : Int) : Int := if takeE s a z = 0 then takeS s a.toNat z else 0
theorem take_no {s : ByteArray} {a z : Int} (h : isSz z = false) : takeE s a z = 4 ∧ takeN s a z = 0 := by
  have e : takeE s a z = 4 := by unfold takeE; rw [h]; rfl
  unfold takeN; rw [e]; exact ⟨rfl, rfl⟩
theorem take_out {s : ByteArray} {a z : Int} (h : isSz z = true) (k : a < 0 ∨ (s.size : Int) < a) : takeE s a z = 7 ∧ takeN s a z = 0 := by
  have e : takeE s a z = 7 := by unfold takeE; rw [h]; simp [k]
  unfold takeN; rw [e]; exact ⟨rfl, rfl⟩
theorem take_short {s : ByteArray} {a z : Int} (h : isSz z = true) (k : 0 ≤ a) (k' : a ≤ (s.size : Int)) (l : (s.size : Int) - a < z) : takeE s a z = 2 ∧ takeN s a z = 0 := by
  have n : ¬ (a < 0 ∨ (s.size : Int) < a) := by omega
  have e : takeE s a z = 2 := by unfold takeE; rw [h]; simp [n, l]
  unfold takeN; rw [e]; exact ⟨rfl, rfl⟩
theorem take_in {s : ByteArray} {k : Nat} {z : Int} (h : isSz z = true) (l : (k : Int) + z ≤ (s.size : Int)) : takeE s k z = 0 ∧ takeN s k z = takeS s k z := by
  have hz : 0 ≤ z := by rcases isSz_cases h with rfl | rfl | rfl | rfl <;> omega
  have n : ¬ ((k : Int) < 0 ∨ (s.size : Int) < k) := by omega
  have m : ¬ ((s.size : Int) - k < z) := by omega
  have e : takeE s k z = 0 := by unfold takeE; rw [h]; simp only [if_true, m, decide_false]; simp; omega
  unfold takeN; rw [e]; exact ⟨rfl, rfl⟩
theorem ref_one (b : Int) (hb : 0 ≤ b ∧ b ≤ 255) : IntKind.u64.wrap (IntKind.u64.wrap b) = b := by
  rw [IntWalk.u64_in b (by omega), IntWalk.u64_in b (by omega)]
theorem ref_step (v b : Int) (hv : 0 ≤ v ∧ v ≤ 72057594037927935) (hb : 0 ≤ b ∧ b ≤ 255) : IntKind.u64.wrap (IntKind.u64.wrap (v * 256) + IntKind.u64.wrap b) = v * 256 + b := by
  rw [IntWalk.u64_in b (by omega), IntWalk.u64_in (v * 256) (by omega), IntWalk.u64_in _ (by omega)]
theorem refW1 (x0 : Int) (h0 : 0 ≤ x0 ∧ x0 ≤ 255) :
    IntKind.u64.wrap (IntKind.u64.wrap x0) = takeL [x0] := by
  rw [ref_one x0 h0]
  simp only [takeL]
  omega
theorem refTakeW1 (s : ByteArray) (k : Nat) (h : k + 1 ≤ s.size) :
    IntKind.u64.wrap (IntKind.u64.wrap ((s[k].toNat : Nat) : Int)) = takeS s k 1 := by
  rw [byteAt_get s (k) (by omega), refW1 _ (byteAt_range _ _)]
  rfl
theorem refW2 (x0 x1 : Int) (h0 : 0 ≤ x0 ∧ x0 ≤ 255) (h1 : 0 ≤ x1 ∧ x1 ≤ 255) :
    IntKind.u64.wrap (IntKind.u64.wrap (IntKind.u64.wrap (IntKind.u64.wrap x1) * 256) + IntKind.u64.wrap x0) = takeL [x0, x1] := by
  rw [ref_one x1 h1, ref_step _ x0 (by omega) h0]
  simp only [takeL]
  omega
theorem refTakeW2 (s : ByteArray) (k : Nat) (h : k + 2 ≤ s.size) :
    IntKind.u64.wrap (IntKind.u64.wrap (IntKind.u64.wrap (IntKind.u64.wrap ((s[k + 1].toNat : Nat) : Int)) * 256) + IntKind.u64.wrap ((s[k].toNat : Nat) : Int)) = takeS s k 2 := by
  rw [byteAt_get s (k) (by omega), byteAt_get s (k + 1) (by omega), refW2 _ _ (byteAt_range _ _) (byteAt_range _ _)]
  rfl
theorem refW4 (x0 x1 x2 x3 : Int) (h0 : 0 ≤ x0 ∧ x0 ≤ 255) (h1 : 0 ≤ x1 ∧ x1 ≤ 255) (h2 : 0 ≤ x2 ∧ x2 ≤ 255) (h3 : 0 ≤ x3 ∧ x3 ≤ 255) :
    IntKind.u64.wrap (IntKind.u64.wrap (IntKind.u64.wrap (IntKind.u64.wrap (IntKind.u64.wrap (IntKind.u64.wrap (IntKind.u64.wrap (IntKind.u64.wrap x3) * 256) + IntKind.u64.wrap x2) * 256) + IntKind.u64.wrap x1) * 256) + IntKind.u64.wrap x0) = takeL [x0, x1, x2, x3] := by
  rw [ref_one x3 h3, ref_step _ x2 (by omega) h2, ref_step _ x1 (by omega) h1, ref_step _ x0 (by omega) h0]
  simp only [takeL]
  omega
theorem refTakeW4 (s : ByteArray) (k : Nat) (h : k + 4 ≤ s.size) :
    IntKind.u64.wrap (IntKind.u64.wrap (IntKind.u64.wrap (IntKind.u64.wrap (IntKind.u64.wrap (IntKind.u64.wrap (IntKind.u64.wrap (IntKind.u64.wrap ((s[k + 3].toNat : Nat) : Int)) * 256) + IntKind.u64.wrap ((s[k + 2].toNat : Nat) : Int)) * 256) + IntKind.u64.wrap ((s[k + 1].toNat : Nat) : Int)) * 256) + IntKind.u64.wrap ((s[k].toNat : Nat) : Int)) = takeS s k 4 := by
  rw [byteAt_get s (k) (by omega), byteAt_get s (k + 1) (by omega), byteAt_get s (k + 2) (by omega), byteAt_get s (k + 3) (by omega), refW4 _ _ _ _ (byteAt_range _ _) (byteAt_range _ _) (byteAt_range _ _) (byteAt_range _ _)]
  rfl
theorem refW8 (x0 x1 x2 x3 x4 x5 x6 x7 : Int) (h0 : 0 ≤ x0 ∧ x0 ≤ 255) (h1 : 0 ≤ x1 ∧ x1 ≤ 255) (h2 : 0 ≤ x2 ∧ x2 ≤ 255) (h3 : 0 ≤ x3 ∧ x3 ≤ 255) (h4 : 0 ≤ x4 ∧ x4 ≤ 255) (h5 : 0 ≤ x5 ∧ x5 ≤ 255) (h6 : 0 ≤ x6 ∧ x6 ≤ 255) (h7 : 0 ≤ x7 ∧ x7 ≤ 255) :
    IntKind.u64.wrap (IntKind.u64.wrap (IntKind.u64.wrap (IntKind.u64.wrap (IntKind.u64.wrap (IntKind.u64.wrap (IntKind.u64.wrap (IntKind.u64.wrap (IntKind.u64.wrap (IntKind.u64.wrap (IntKind.u64.wrap (IntKind.u64.wrap (IntKind.u64.wrap (IntKind.u64.wrap (IntKind.u64.wrap (IntKind.u64.wrap x7) * 256) + IntKind.u64.wrap x6) * 256) + IntKind.u64.wrap x5) * 256) + IntKind.u64.wrap x4) * 256) + IntKind.u64.wrap x3) * 256) + IntKind.u64.wrap x2) * 256) + IntKind.u64.wrap x1) * 256) + IntKind.u64.wrap x0) = takeL [x0, x1, x2, x3, x4, x5, x6, x7] := by
  rw [ref_one x7 h7, ref_step _ x6 (by omega) h6, ref_step _ x5 (by omega) h5, ref_step _ x4 (by omega) h4, ref_step _ x3 (by omega) h3, ref_step _ x2 (by omega) h2, ref_step _ x1 (by omega) h1, ref_step _ x0 (by omega) h0]
  simp only [takeL]
  omega
theorem refTakeW8 (s : ByteArray) (k : Nat) (h : k + 8 ≤ s.size) :
    IntKind.u64.wrap (IntKind.u64.wrap (IntKind.u64.wrap (IntKind.u64.wrap (IntKind.u64.wrap (IntKind.u64.wrap (IntKind.u64.wrap (IntKind.u64.wrap (IntKind.u64.wrap (IntKind.u64.wrap (IntKind.u64.wrap (IntKind.u64.wrap (IntKind.u64.wrap (IntKind.u64.wrap (IntKind.u64.wrap (IntKind.u64.wrap ((s[k + 7].toNat : Nat) : Int)) * 256) + IntKind.u64.wrap ((s[k + 6].toNat : Nat) : Int)) * 256) + IntKind.u64.wrap ((s[k + 5].toNat : Nat) : Int)) * 256) + IntKind.u64.wrap ((s[k + 4].toNat : Nat) : Int)) * 256) + IntKind.u64.wrap ((s[k + 3].toNat : Nat) : Int)) * 256) + IntKind.u64.wrap ((s[k + 2].toNat : Nat) : Int)) * 256) + IntKind.u64.wrap ((s[k + 1].toNat : Nat) : Int)) * 256) + IntKind.u64.wrap ((s[k].toNat : Nat) : Int)) = takeS s k 8 := by
  rw [byteAt_get s (k) (by omega), byteAt_get s (k + 1) (by omega), byteAt_get s (k + 2) (by omega), byteAt_get s (k + 3) (by omega), byteAt_get s (k + 4) (by omega), byteAt_get s (k + 5) (by omega), byteAt_get s (k + 6) (by omega), byteAt_get s (k + 7) (by omega), refW8 _ _ _ _ _ _ _ _ (byteAt_range _ _) (byteAt_range _ _) (byteAt_range _ _) (byteAt_range _ _) (byteAt_range _ _) (byteAt_range _ _) (byteAt_range _ _) (byteAt_range _ _)]
  rfl
end Go.Proofs.YtinmdkhafamibaaGreat
namespace Go.Proofs.YtinmdkhafamibaaGreat
open Go.RowKit
/-- the gap at a place for a size -/
def gapZ (a z : Int) : Int := if a < 0 then 0 else if isSz z then (z - a % z) % z else 0
theorem gapZ_neg {a z : Int} (h : a < 0) : gapZ a z = 0 := by unfold gapZ; rw [if_pos h]
theorem gapZ_no {a z : Int} (h : isSz z = false) : gapZ a z = 0 := by unfold gapZ; rw [h]; split <;> rfl
theorem gapZ_in {a z : Int} (h : 0 ≤ a) (hz : isSz z = true) : gapZ a z = (z - a % z) % z := by
  unfold gapZ; rw [if_neg (by omega), hz]; rfl
theorem gapZ_lt {a z : Int} (hz : isSz z = true) : 0 ≤ gapZ a z ∧ gapZ a z < z := by
  unfold gapZ; rw [hz]
  rcases isSz_cases hz with rfl | rfl | rfl | rfl <;> split <;> simp <;> omega
theorem gapZ_rng (a z : Int) : 0 ≤ gapZ a z ∧ gapZ a z ≤ 7 := by
  cases hz : isSz z with
  | false => rw [gapZ_no hz]; omega
  | true =>
    have := gapZ_lt (a := a) hz
    rcases isSz_cases hz with rfl | rfl | rfl | rfl <;> omega
theorem gapZ_mod {a z : Int} (h : 0 ≤ a) (hz : isSz z = true) : (a + gapZ a z) % z = 0 := by
  rw [gapZ_in h hz]
  rcases isSz_cases hz with rfl | rfl | rfl | rfl <;> omega
end Go.Proofs.YtinmdkhafamibaaGreat
