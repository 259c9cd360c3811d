/- Chapter 12's small functions of a text: digits, numbers, the step with which a text begins; for every text of at most a million bytes. -/
import Derived.Test.YtcpjbimojliogaaGreatDoorRangeWalk
import Derived.Test.YtcpjbimojliogaaGreatDoorNameCode
import Derived.Test.YtcpjbimojliogaaGreatDoorPrimSmall
import Derived.Test.YtcpjbimojliogaaGreatDoorTypesLawMath
import Derived.Test.YtcpjbimojliogaaGreatDoorShelf
import Derived.Test.YtcpjbimojliogaaGreatDoorRegionDeep
import Derived.BigGuardPart
import Derived.StillTailTactics
import Derived.Deep.RegionHeld3
import Derived.OwnWalk
namespace Go.Proofs.YtcpjbimojliogaaGreatDoor
open Go Go.RowKit

def isDg (c : Nat) : Bool := decide (48 ≤ c) && decide (c ≤ 57)
def numOk12 (s : ByteArray) : Bool :=
  if s.size = 1 then isDg (charAt s 0) else if s.size = 2 then isDg (charAt s 0) && isDg (charAt s 1) && decide (charAt s 0 ≠ 48) else false
def numV12 (s : ByteArray) : Int :=
  if s.size = 1 then (charAt s 0 : Int) - 48 else ((charAt s 0 : Int) - 48) * 10 + ((charAt s 1 : Int) - 48)

structure PieceV where
  elem : Bool
  n : Int
  name : ByteArray
def pieceV (x : PieceV) : Value := .agg #[.bool x.elem, .int .i64 x.n, .string x.name]
def piece0 : PieceV := ⟨false, 0, ⟨#[]⟩⟩

/-- where a bracket closes, in what is behind the first byte -/
def closeZ (s : ByteArray) : Int := Lib.indexByte (s.extract 1 s.size).data.toList 93
def digS (s : ByteArray) : ByteArray := (s.extract 1 s.size).extract 0 (closeZ s).toNat
def elemP (s : ByteArray) : PieceV × Nat :=
  if closeZ s < 0 then (piece0, 0) else if numOk12 (digS s) then (⟨true, numV12 (digS s), ⟨#[]⟩⟩, (digS s).size + 2) else (piece0, 0)
def itemR (s dot : ByteArray) : ByteArray := ⟨(Lib.trimPrefix s.data.toList dot.data.toList).toArray⟩
def itemP (s dot : ByteArray) : PieceV × Nat :=
  if Lib.hasPrefix s.data.toList dot.data.toList && decide (leadN (itemR s dot) ≠ 0) then (⟨false, 0, (itemR s dot).extract 0 (leadN (itemR s dot))⟩, dot.size + leadN (itemR s dot)) else (piece0, 0)
def dotS : ByteArray := ⟨#[46]⟩
def leadP (s : ByteArray) (first : Bool) : PieceV × Nat :=
  if charAt s 0 = 91 then elemP s else if first then itemP s ⟨#[]⟩ else itemP s dotS

theorem isDigit12_any (c : Nat) (hc : c < 256) (w : World) : Calls Tryz.prog 147 #[.int .u8 (c : Int)] w fun e w' => e = .returned (.bool (isDg c)) ∧ w' = w := by
  have hw : IntKind.u8.wrap (c : Int) = (c : Int) := IntWalk.u8_in _ (by omega)
  by_cases h1 : 48 ≤ c
  · by_cases h2 : c ≤ 57
    · have e : isDg c = true := by simp [isDg, h1, h2]
      have k1 : decide ((48 : Int) ≤ c) = true := by simp; omega
      have k2 : decide ((c : Int) ≤ 57) = true := by simp; omega
      rw [e]
      clear e
      go_enter Tryz.func147, Tryz.ntmps147
      go_wp2
      go_ret
      exact ⟨rfl, rfl⟩
    · have e : isDg c = false := by simp [isDg, h2]
      have k1 : decide ((48 : Int) ≤ c) = true := by simp; omega
      have k2 : decide ((c : Int) ≤ 57) = false := by simp; omega
      rw [e]
      clear e
      go_enter Tryz.func147, Tryz.ntmps147
      go_wp2
      go_ret
      exact ⟨rfl, rfl⟩
  · have e : isDg c = false := by simp [isDg, h1]
    have k1 : decide ((48 : Int) ≤ c) = false := by simp; omega
    rw [e]
    clear e
    go_enter Tryz.func147, Tryz.ntmps147
    go_wp2
    go_ret
    exact ⟨rfl, rfl⟩

theorem isNumber12_any (s : ByteArray) (w : World) : Calls Tryz.prog 121 #[.string s] w fun e w' => e = .returned (.bool (numOk12 s)) ∧ w' = w := by
  by_cases h1 : s.size = 1
  · have e : numOk12 s = isDg (charAt s 0) := by simp [numOk12, h1]
    have hg := charAt_get s 0 (by omega)
    have HD := Lib.hid (fun wx => isDigit12_any (charAt s 0) (charAt_lt s 0) wx)
    rw [hg] at HD e
    rw [e]
    clear e hg
    have k1 : ((s.size : Int) == 1) = true := by simp; omega
    have hx : ∀ wx : World, (Instr.index 9 (.string s) (.int .i64 0)).run Tryz.prog wx = .ok (.int .u8 (s[0]'(by omega)).toNat) wx := fun wx => by
      rw [run_index_string wx 9 s .i64 0 Tryz.underlying9, dif_pos ⟨by omega, by omega⟩]; rfl
    go_enter Tryz.func121, Tryz.ntmps121
    go_wp2_with (go_at_call 147; refine (HD.out _).mono ?_; rintro e w1 ⟨rfl, rfl⟩)
    go_ret
    exact ⟨rfl, rfl⟩
  · have k1 : ((s.size : Int) == 1) = false := by simp; omega
    by_cases h2 : s.size = 2
    · have e : numOk12 s = (isDg (charAt s 0) && isDg (charAt s 1) && decide (charAt s 0 ≠ 48)) := by simp [numOk12, h2]
      have k2 : ((s.size : Int) == 2) = true := by simp; omega
      have hg := charAt_get s 0 (by omega)
      have hg1 := charAt_get s 1 (by omega)
      have HD := Lib.hid (fun wx => isDigit12_any (charAt s 0) (charAt_lt s 0) wx)
      have HD1 := Lib.hid (fun wx => isDigit12_any (charAt s 1) (charAt_lt s 1) wx)
      have hx : ∀ wx : World, (Instr.index 9 (.string s) (.int .i64 0)).run Tryz.prog wx = .ok (.int .u8 (charAt s 0 : Nat)) wx := fun wx => by
        rw [run_index_string wx 9 s .i64 0 Tryz.underlying9, dif_pos ⟨by omega, by omega⟩, hg]; rfl
      have hx1 : ∀ wx : World, (Instr.index 9 (.string s) (.int .i64 1)).run Tryz.prog wx = .ok (.int .u8 (charAt s 1 : Nat)) wx := fun wx => by
        rw [run_index_string wx 9 s .i64 1 Tryz.underlying9, dif_pos ⟨by omega, by omega⟩, hg1]; rfl
      obtain ⟨c0, hc0⟩ : ∃ c, charAt s 0 = c := ⟨_, rfl⟩
      obtain ⟨c1, hc1⟩ : ∃ c, charAt s 1 = c := ⟨_, rfl⟩
      rw [hc0] at HD hx e
      rw [hc1] at HD1 hx1 e
      obtain ⟨q0, hq0⟩ : ∃ q, isDg c0 = q := ⟨_, rfl⟩
      obtain ⟨q1, hq1⟩ : ∃ q, isDg c1 = q := ⟨_, rfl⟩
      rw [hq0, hq1] at e
      rw [hq0] at HD
      rw [hq1] at HD1
      clear hg hg1 hc0 hc1
      obtain ⟨q2, hq2⟩ : ∃ q, (!((c0 : Int) == 48)) = q := ⟨_, rfl⟩
      have e2 : decide (c0 ≠ 48) = q2 := by rw [← hq2]; rw [Bool.eq_iff_iff]; simp; omega
      rw [e2] at e
      rw [e]
      clear e e2 hq0 hq1
      cases q0
      · go_enter Tryz.func121, Tryz.ntmps121
        go_wp2_with (go_at_call 147; refine (HD.out _).mono ?_; rintro e w1 ⟨rfl, rfl⟩)
        go_ret
        exact ⟨rfl, rfl⟩
      · cases q1
        · go_enter Tryz.func121, Tryz.ntmps121
          go_wp2_with (first | (go_at_call 147; (with_reducible refine (HD.out _).mono ?_); rintro e w1 ⟨rfl, rfl⟩) | (go_at_call 147; (with_reducible refine (HD1.out _).mono ?_); rintro e w1 ⟨rfl, rfl⟩))
          go_ret
          exact ⟨rfl, rfl⟩
        · go_enter Tryz.func121, Tryz.ntmps121
          go_wp2_with (first | (go_at_call 147; (with_reducible refine (HD.out _).mono ?_); rintro e w1 ⟨rfl, rfl⟩) | (go_at_call 147; (with_reducible refine (HD1.out _).mono ?_); rintro e w1 ⟨rfl, rfl⟩))
          go_ret
          exact ⟨(by simp; exact hq2), rfl⟩
    · have e : numOk12 s = false := by simp [numOk12, h1, h2]
      have k2 : ((s.size : Int) == 2) = false := by simp; omega
      rw [e]
      clear e
      go_enter Tryz.func121, Tryz.ntmps121
      go_wp2
      go_ret
      exact ⟨rfl, rfl⟩

/-- strings.Cut at a closing bracket -/
def cutV (s : ByteArray) (z : Int) : Value :=
  if z < 0 then .tuple #[.string s, .string ⟨#[]⟩, .bool false] else .tuple #[.string (s.extract 0 z.toNat), .string (s.extract (z.toNat + 1) s.size), .bool true]
theorem slcut12 (s : ByteArray) (hs : s.size ≤ 1000000) (z : Int) (hz : Lib.indexByte s.data.toList 93 = z) (w : World) : Calls Tryz.prog 146 #[.string s, .string ⟨#[93]⟩] w fun e w' =>
    e = .returned (cutV s z) ∧ Below w.heap.size w w' := by
  have HI := Lib.hid (fun wx => Tryz.stringslite_Index_one s 93 wx)
  rw [hz] at HI
  have hb0 := Below.refl w.heap.size w
  by_cases h : z < 0
  · rw [show cutV s z = .tuple #[.string s, .string ⟨#[]⟩, .bool false] from if_pos h]
    have hd : decide (0 ≤ z) = false := by simp; omega
    go_enter Tryz.func146, Tryz.ntmps146
    go_wp2_with (go_at_call 167; refine (HI.out _).mono ?_; rintro e w1 ⟨rfl, rfl⟩)
    go_ret3
    exact ⟨rfl, hb0⟩
  · rw [show cutV s z = .tuple #[.string (s.extract 0 z.toNat), .string (s.extract (z.toNat + 1) s.size), .bool true] from if_neg h]
    have hlt : z.toNat < s.size := by
      rcases Lib.indexByte_piece s 0 s.size 93 with h1 | ⟨o, h1, h2⟩
      · rw [show s.extract 0 s.size = s by simp] at h1; omega
      · rw [show s.extract 0 s.size = s by simp] at h1; omega
    obtain ⟨m, rfl⟩ : ∃ m : Nat, z = m := ⟨z.toNat, by omega⟩
    have hd : decide (0 ≤ (m : Int)) = true := by simp
    have hwr : IntKind.i64.wrap ((m : Int) + 1) = ((m + 1 : Nat) : Int) := by rw [IntWalk.i64_in _ (by omega)]; omega
    have hm : (m : Int).toNat = m := by omega
    rw [hm] at hlt ⊢
    have hsl : ∀ wx, (Instr.slice 9 (.string s) none (some (.int .i64 (m : Nat))) none).run Tryz.prog wx = .ok (.string (s.extract 0 m)) wx := fun wx => run_slice_string_h wx 9 s Tryz.underlying9 .i64 (m : Nat) (by omega) (by omega)
    have hsr : ∀ wx, (Instr.slice 9 (.string s) (some (.int .i64 ((m + 1 : Nat) : Int))) none none).run Tryz.prog wx = .ok (.string (s.extract (m + 1) s.size)) wx := fun wx => run_slice_string_l wx 9 s Tryz.underlying9 .i64 ((m + 1 : Nat) : Int) (by omega) (by omega)
    go_enter Tryz.func146, Tryz.ntmps146
    go_wp2_with (go_at_call 167; refine (HI.out _).mono ?_; rintro e w1 ⟨rfl, rfl⟩)
    go_quiet (fail)
    go_wp2
    go_ret3
    exact ⟨rfl, drewN_below hb0 _⟩

theorem cut12 (s : ByteArray) (hs : s.size ≤ 1000000) (z : Int) (hz : Lib.indexByte s.data.toList 93 = z) (w : World) : Calls Tryz.prog 120 #[.string s, .string ⟨#[93]⟩] w fun e w' => e = .returned (cutV s z) ∧ Below w.heap.size w w' := by
  have HC := Lib.hid (fun wx => slcut12 s hs z hz wx)
  clear hz
  by_cases h : z < 0
  · have e0 : cutV s z = .tuple #[.string s, .string ⟨#[]⟩, .bool false] := if_pos h
    rw [e0] at HC ⊢
    go_enter Tryz.func120, Tryz.ntmps120
    go_wp2_with (go_at_call 146; refine (HC.out _).mono ?_; rintro e w1 ⟨rfl, hb⟩)
    go_ret3
    exact ⟨rfl, hb⟩
  · have e0 : cutV s z = .tuple #[.string (s.extract 0 z.toNat), .string (s.extract (z.toNat + 1) s.size), .bool true] := if_neg h
    rw [e0] at HC ⊢
    go_enter Tryz.func120, Tryz.ntmps120
    go_wp2_with (go_at_call 146; refine (HC.out _).mono ?_; rintro e w1 ⟨rfl, hb⟩)
    go_ret3
    exact ⟨rfl, hb⟩

/-- a text of one or two digits, read as a number -/
theorem atoi12 (s : ByteArray) (hn : numOk12 s = true) : Lib.atoi s.data.toList = some (numV12 s) ∧ s.size ≤ 2 := by
  have dg : ∀ c, isDg c = true → 48 ≤ c ∧ c ≤ 57 := fun c h => by simpa [isDg] using h
  obtain ⟨l, hl⟩ : ∃ l, s.data.toList = l := ⟨_, rfl⟩
  have hz : s.size = l.length := by rw [← hl]; simp
  have hc : ∀ i, charAt s i = (l.getD i 0).toNat := fun i => by unfold charAt; rw [hl]
  have hv : ∀ a : UInt8, 48 ≤ a.toNat ∧ a.toNat ≤ 57 → Lib.digitVal a = some (a.toNat - 48) := fun a h => if_pos h
  rw [hl]
  unfold numOk12 at hn
  unfold numV12
  simp only [hc] at hn ⊢
  rw [hz] at hn ⊢
  match l, hn with
  | [a], hn =>
    have h := dg _ (by simpa using hn)
    have h1 : (a == 45) = false := by rw [beq_eq_false_iff_ne]; rintro rfl; exact absurd h.1 (by decide)
    have h2 : (a == 43) = false := by rw [beq_eq_false_iff_ne]; rintro rfl; exact absurd h.1 (by decide)
    refine ⟨?_, by simp⟩
    simp [Lib.atoi, h1, h2, Lib.decNat, Lib.decFrom, hv a h]
    omega
  | [a, b], hn =>
    have hh : (isDg a.toNat = true ∧ isDg b.toNat = true) ∧ a.toNat ≠ 48 := by simpa using hn
    have h := dg _ hh.1.1
    have h' := dg _ hh.1.2
    have h1 : (a == 45) = false := by rw [beq_eq_false_iff_ne]; rintro rfl; exact absurd h.1 (by decide)
    have h2 : (a == 43) = false := by rw [beq_eq_false_iff_ne]; rintro rfl; exact absurd h.1 (by decide)
    refine ⟨?_, by simp⟩
    simp [Lib.atoi, h1, h2, Lib.decNat, Lib.decFrom, hv a h, hv b h']
    omega
  | [], hn => simp at hn
  | a :: b :: c :: r, hn => simp at hn

/-- one box in memory through a callee -/
theorem heap_keep {w w1 : World} {b : Nat} {o : Obj} (h : w.heap[b]? = some o) (hb : Below w.heap.size w w1) : w1.heap[b]? = some o := by
  rw [hb.block b (Array.getElem?_eq_some_iff.1 h).1, h]
def pieceO : Obj := .cells #[.bool false, .int .i64 0, .string ⟨#[]⟩] 63
theorem itemR_size (s d : ByteArray) : (itemR s d).size ≤ s.size := by
  unfold itemR Lib.trimPrefix
  split
  · show (List.drop _ s.data.toList).toArray.size ≤ s.data.size
    simp
  · show s.data.toList.toArray.size ≤ s.data.size
    simp

theorem item12_any (s d : ByteArray) (hs : s.size ≤ 1000000) (hd : d.size ≤ 1) (w : World) : Calls Tryz.prog 84 #[.string s, .string d] w fun e w' => e = .returned (.tuple #[pieceV (itemP s d).1, .int .i64 ((itemP s d).2 : Nat)]) ∧ Below w.heap.size w w' := by
  have HC := Lib.hid (fun wx => Tryz.strings_CutPrefix s d wx)
  have hz := itemR_size s d
  obtain ⟨r, hr⟩ : ∃ r, itemR s d = r := ⟨_, rfl⟩
  obtain ⟨q, hq⟩ : ∃ q, Lib.hasPrefix s.data.toList d.data.toList = q := ⟨_, rfl⟩
  have e1 : itemP s d = if q && decide (leadN r ≠ 0) then (⟨false, 0, r.extract 0 (leadN r)⟩, d.size + leadN r) else (piece0, 0) := by unfold itemP; rw [hr, hq]
  rw [show (⟨(Lib.trimPrefix s.data.toList d.data.toList).toArray⟩ : ByteArray) = r from hr, hq] at HC
  rw [hr] at hz
  have hln := leadN_le r
  have HL := Lib.hid (fun wx => lead_any r (by omega) wx)
  obtain ⟨n, hn⟩ : ∃ n, leadN r = n := ⟨_, rfl⟩
  rw [hn] at HL hln e1
  have hb0 := (Below.refl w.heap.size w).alloc (Nat.le_refl _) pieceO
  have hq0 := alloc_at w pieceO
  unfold pieceO at hb0 hq0
  obtain ⟨k, hk⟩ : ∃ k, d.size = k := ⟨_, rfl⟩
  rw [hk] at e1 hd
  clear hr hq hn
  cases q
  · have e2 : itemP s d = (piece0, 0) := e1
    rw [e2]
    unfold pieceV piece0
    clear e1 e2
    go_enter Tryz.func84, Tryz.ntmps84
    go_wp2_with (first
      | (go_at_call 123; refine (HC.out _).mono ?_; rintro e w1 ⟨rfl, rfl⟩)
      | (go_at_call 124; refine (HL.out _).mono ?_; rintro e w1 ⟨rfl, hb⟩; have HB1 := Lib.hid (hb0.trans (hb.mono (by simp))); have HQ1 := Lib.hid (heap_keep hq0 hb); clear hb)
      | (refine wpList_store_rowTo rfl 63 _ _ rfl rfl w.heap.size #[.bool false, .int .i64 0, .string ⟨#[]⟩] rfl rfl _ _ HQ1.out (by kernel_rfl) (by kernel_rfl) (by kernel_rfl) ?_))
    refine bodyPost_ret (v := .tuple #[.agg #[.bool false, .int .i64 0, .string ⟨#[]⟩], .int .i64 0]) ?_ rfl ⟨rfl, below_setRow HB1.out (Nat.le_refl _) _⟩
    have hl := run_loadVar_row (P := Tryz.prog) _ w.heap.size _ 63 _ _ _ (setRow_heap _ _ _ #[.bool false, .int .i64 0, .string ⟨#[]⟩] _ _ HQ1.out) Tryz.underlying63 rfl (by kernel_rfl)
    simp [results, Tryz.results84, asAddr, hl]
  · by_cases h0 : n = 0
    · subst h0
      have e2 : itemP s d = (piece0, 0) := by rw [e1]; rfl
      rw [e2]
      unfold pieceV piece0
      clear e1 e2
      go_enter Tryz.func84, Tryz.ntmps84
      go_wp2_with (first
      | (go_at_call 123; refine (HC.out _).mono ?_; rintro e w1 ⟨rfl, rfl⟩)
      | (go_at_call 124; refine (HL.out _).mono ?_; rintro e w1 ⟨rfl, hb⟩; have HB1 := Lib.hid (hb0.trans (hb.mono (by simp))); have HQ1 := Lib.hid (heap_keep hq0 hb); clear hb)
      | (refine wpList_store_rowTo rfl 63 _ _ rfl rfl w.heap.size #[.bool false, .int .i64 0, .string ⟨#[]⟩] rfl rfl _ _ HQ1.out (by kernel_rfl) (by kernel_rfl) (by kernel_rfl) ?_))
      refine bodyPost_ret (v := .tuple #[.agg #[.bool false, .int .i64 0, .string ⟨#[]⟩], .int .i64 0]) ?_ rfl ⟨rfl, below_setRow HB1.out (Nat.le_refl _) _⟩
      have hl := run_loadVar_row (P := Tryz.prog) _ w.heap.size _ 63 _ _ _ (setRow_heap _ _ _ #[.bool false, .int .i64 0, .string ⟨#[]⟩] _ _ HQ1.out) Tryz.underlying63 rfl (by kernel_rfl)
      simp [results, Tryz.results84, asAddr, hl]
    · have e2 : itemP s d = (⟨false, 0, r.extract 0 n⟩, k + n) := by rw [e1, if_pos (by simp [h0])]
      rw [e2]
      unfold pieceV
      clear e1 e2
      have hn0 : ((n : Int) == 0) = false := by simp; omega
      have hwr : IntKind.i64.wrap ((k : Int) + n) = ((k + n : Nat) : Int) := by rw [IntWalk.i64_in _ (by omega)]; omega
      have hsl : ∀ wx, (Instr.slice 9 (.string r) none (some (.int .i64 (n : Nat))) none).run Tryz.prog wx = .ok (.string (r.extract 0 n)) wx := fun wx => run_slice_string_h wx 9 r Tryz.underlying9 .i64 (n : Nat) (by omega) (by omega)
      go_enter Tryz.func84, Tryz.ntmps84
      go_wp2_with (first
      | (go_at_call 123; refine (HC.out _).mono ?_; rintro e w1 ⟨rfl, rfl⟩)
      | (go_at_call 124; refine (HL.out _).mono ?_; rintro e w1 ⟨rfl, hb⟩; have HB1 := Lib.hid (hb0.trans (hb.mono (by simp))); have HQ1 := Lib.hid (heap_keep hq0 hb); clear hb)
      | (refine wpList_store_rowTo rfl 63 _ _ rfl rfl w.heap.size #[.bool false, .int .i64 0, .string (r.extract 0 n)] rfl rfl _ _ HQ1.out (by kernel_rfl) (by kernel_rfl) (by kernel_rfl) ?_))
      refine bodyPost_ret (v := .tuple #[.agg #[.bool false, .int .i64 0, .string (r.extract 0 n)], .int .i64 ((k + n : Nat) : Int)]) ?_ rfl ⟨rfl, below_setRow HB1.out (Nat.le_refl _) _⟩
      have hl := run_loadVar_row (P := Tryz.prog) _ w.heap.size _ 63 _ _ _ (setRow_heap _ _ _ #[.bool false, .int .i64 0, .string (r.extract 0 n)] _ _ HQ1.out) Tryz.underlying63 rfl (by kernel_rfl)
      simp [results, Tryz.results84, asAddr, hl]

theorem bytesWorld_below {w0 w : World} {t : TypeId} {s : ByteArray} {n : Nat} (h : Below n w0 w) (hn : n ≤ w.heap.size) : Below n w0 (Lib.bytesWorld w t s) := h.trans ((Lib.below_freeze ((Below.drew (Below.refl _ w)).alloc (Nat.le_refl _) _) (p := ⟨w.heap.size, _, none⟩) (Nat.le_refl _) 1).mono hn)
theorem element12_any (s : ByteArray) (hs : s.size ≤ 1000000) (h1 : 1 ≤ s.size) (w : World) : Calls Tryz.prog 83 #[.string s] w fun e w' => e = .returned (.tuple #[pieceV (elemP s).1, .int .i64 ((elemP s).2 : Nat)]) ∧ Below w.heap.size w w' := by
  have hsl : ∀ wx, (Instr.slice 9 (.string s) (some (.int .i64 1)) none none).run Tryz.prog wx = .ok (.string (s.extract 1 s.size)) wx := fun wx => run_slice_string_l wx 9 s Tryz.underlying9 .i64 1 (by omega) (by omega)
  have hxz : (s.extract 1 s.size).size ≤ 1000000 := by simp; omega
  obtain ⟨x, hx⟩ : ∃ x, s.extract 1 s.size = x := ⟨_, rfl⟩
  obtain ⟨z, hz⟩ : ∃ z, closeZ s = z := ⟨_, rfl⟩
  have hzz : Lib.indexByte x.data.toList 93 = z := by rw [← hx]; exact hz
  have hdz : (digS s) = x.extract 0 z.toNat := by unfold digS; rw [hx, hz]
  have e1 : elemP s = if z < 0 then (piece0, 0) else if numOk12 (x.extract 0 z.toNat) then (⟨true, numV12 (x.extract 0 z.toNat), ⟨#[]⟩⟩, (x.extract 0 z.toNat).size + 2) else (piece0, 0) := by unfold elemP; rw [hz, hdz]
  rw [hx] at hsl hxz
  have HC := Lib.hid (fun wx => cut12 x hxz z hzz wx)
  have hb0 := (Below.refl w.heap.size w).alloc (Nat.le_refl _) pieceO
  have hq0 := alloc_at w pieceO
  unfold pieceO at hb0 hq0
  clear hx hz hzz hdz
  by_cases h0 : z < 0
  · have e2 : elemP s = (piece0, 0) := by rw [e1, if_pos h0]
    rw [e2]
    rw [show cutV x z = .tuple #[.string x, .string ⟨#[]⟩, .bool false] from if_pos h0] at HC
    unfold pieceV piece0
    clear e1 e2
    go_enter Tryz.func83, Tryz.ntmps83
    go_wp2_with (first
      | (go_at_call 120; refine (HC.out _).mono ?_; rintro e w1 ⟨rfl, hb⟩; have HB1 := Lib.hid (hb0.trans (hb.mono (by simp))); have HQ1 := Lib.hid (heap_keep hq0 hb); clear hb)
      | (refine wpList_store_rowTo rfl 63 _ _ rfl rfl w.heap.size #[.bool false, .int .i64 0, .string ⟨#[]⟩] rfl rfl _ _ HQ1.out (by kernel_rfl) (by kernel_rfl) (by kernel_rfl) ?_))
    refine bodyPost_ret (v := .tuple #[.agg #[.bool false, .int .i64 0, .string ⟨#[]⟩], .int .i64 0]) ?_ rfl ⟨rfl, below_setRow HB1.out (Nat.le_refl _) _⟩
    have hl := run_loadVar_row (P := Tryz.prog) _ w.heap.size _ 63 _ _ _ (setRow_heap _ _ _ #[.bool false, .int .i64 0, .string ⟨#[]⟩] _ _ HQ1.out) Tryz.underlying63 rfl (by kernel_rfl)
    simp [results, Tryz.results83, asAddr, hl]
  · rw [show cutV x z = .tuple #[.string (x.extract 0 z.toNat), .string (x.extract (z.toNat + 1) x.size), .bool true] from if_neg h0] at HC
    rw [if_neg h0] at e1
    have hyz : (x.extract 0 z.toNat).size ≤ 1000000 := by simp; omega
    obtain ⟨y, hy⟩ : ∃ y, x.extract 0 z.toNat = y := ⟨_, rfl⟩
    obtain ⟨y2, hy2⟩ : ∃ y, x.extract (z.toNat + 1) x.size = y := ⟨_, rfl⟩
    rw [hy] at e1 HC hyz
    rw [hy2] at HC
    have HN := Lib.hid (fun wx => isNumber12_any y wx)
    clear hy hy2
    cases hk : numOk12 y
    · have e2 : elemP s = (piece0, 0) := by rw [e1, if_neg (by rw [hk]; decide)]
      rw [e2]
      rw [hk] at HN
      unfold pieceV piece0
      clear e1 e2
      go_enter Tryz.func83, Tryz.ntmps83
      go_wp2_with (first
      | (go_at_call 120; refine (HC.out _).mono ?_; rintro e w1 ⟨rfl, hb⟩; have HB1 := Lib.hid (hb0.trans (hb.mono (by simp))); have HQ1 := Lib.hid (heap_keep hq0 hb); clear hb)
      | (go_at_call 121; refine (HN.out _).mono ?_; rintro e w2 ⟨rfl, rfl⟩)
      | (refine wpList_store_rowTo rfl 63 _ _ rfl rfl w.heap.size #[.bool false, .int .i64 0, .string ⟨#[]⟩] rfl rfl _ _ HQ1.out (by kernel_rfl) (by kernel_rfl) (by kernel_rfl) ?_))
      refine bodyPost_ret (v := .tuple #[.agg #[.bool false, .int .i64 0, .string ⟨#[]⟩], .int .i64 0]) ?_ rfl ⟨rfl, below_setRow HB1.out (Nat.le_refl _) _⟩
      have hl := run_loadVar_row (P := Tryz.prog) _ w.heap.size _ 63 _ _ _ (setRow_heap _ _ _ #[.bool false, .int .i64 0, .string ⟨#[]⟩] _ _ HQ1.out) Tryz.underlying63 rfl (by kernel_rfl)
      simp [results, Tryz.results83, asAddr, hl]
    · have e2 : elemP s = (⟨true, numV12 y, ⟨#[]⟩⟩, y.size + 2) := by rw [e1, if_pos hk]
      obtain ⟨ha, hl2⟩ := atoi12 y hk
      have HA := Lib.hid (fun wx => Tryz.strconv_Atoi y (numV12 y) (by omega) ha wx)
      rw [e2]
      rw [hk] at HN
      unfold pieceV
      obtain ⟨nv, hnv⟩ : ∃ nv, numV12 y = nv := ⟨_, rfl⟩
      rw [hnv] at HA ⊢
      obtain ⟨k, hkz⟩ : ∃ k, y.size = k := ⟨_, rfl⟩
      rw [hkz] at hl2 ⊢
      have hwr : IntKind.i64.wrap ((k : Int) + 2) = ((k + 2 : Nat) : Int) := by rw [IntWalk.i64_in _ (by omega)]; omega
      clear e1 e2 ha hnv
      go_enter Tryz.func83, Tryz.ntmps83
      go_wp2_with (first
      | (go_at_call 120; refine (HC.out _).mono ?_; rintro e w1 ⟨rfl, hb⟩; have HB1 := Lib.hid (hb0.trans (hb.mono (by simp))); have HQ1 := Lib.hid (heap_keep hq0 hb); clear hb)
      | (go_at_call 121; refine (HN.out _).mono ?_; rintro e w2 ⟨rfl, rfl⟩)
      | (go_at_call 122; refine (HA.out _).mono ?_; rintro e w3 ⟨rfl, t, rfl⟩; have HB2 := Lib.hid (bytesWorld_below (t := 5) (s := t) HB1.out HB1.out.size); have HQ2 := Lib.hid (heap_keep HQ1.out (bytesWorld_below (t := 5) (s := t) (Below.refl _ _) (Nat.le_refl _))))
        | (refine wpList_store_rowTo rfl 63 _ _ rfl rfl w.heap.size #[.bool true, .int .i64 nv, .string ⟨#[]⟩] rfl rfl _ _ HQ2.out (by kernel_rfl) (by kernel_rfl) (by kernel_rfl) ?_))
      refine bodyPost_ret (v := .tuple #[.agg #[.bool true, .int .i64 nv, .string ⟨#[]⟩], .int .i64 ((k + 2 : Nat) : Int)]) ?_ rfl ⟨rfl, below_setRow HB2.out (Nat.le_refl _) _⟩
      have hl := run_loadVar_row (P := Tryz.prog) _ w.heap.size _ 63 _ _ _ (setRow_heap _ _ _ #[.bool true, .int .i64 nv, .string ⟨#[]⟩] _ _ HQ2.out) Tryz.underlying63 rfl (by kernel_rfl)
      simp [results, Tryz.results83, asAddr, hl]

theorem leading12_any (s : ByteArray) (first : Bool) (hs : s.size ≤ 1000000) (h1 : 1 ≤ s.size) (w : World) : Calls Tryz.prog 48 #[.string s, .bool first] w fun e w' => e = .returned (.tuple #[pieceV (leadP s first).1, .int .i64 ((leadP s first).2 : Nat)]) ∧ Below w.heap.size w w' := by
  have hg := charAt_get s 0 (by omega)
  have hb0 := (Below.refl w.heap.size w).alloc (Nat.le_refl _) pieceO
  have hq0 := alloc_at w pieceO
  unfold pieceO at hb0 hq0
  by_cases h0 : charAt s 0 = 91
  · have e1 : leadP s first = elemP s := if_pos h0
    have HC := Lib.hid (fun wx => element12_any s hs h1 wx)
    rw [e1]
    rw [hg] at h0
    have k1 : (((s[0]'(by omega)).toNat : Int) == 91) = true := by rw [h0]; rfl
    obtain ⟨X, hX⟩ : ∃ X, elemP s = X := ⟨_, rfl⟩
    rw [hX] at HC ⊢
    obtain ⟨⟨b, n, nm⟩, m⟩ := X
    clear hX
    unfold pieceV at HC ⊢
    clear e1 hg h0
    go_enter Tryz.func48, Tryz.ntmps48
    go_wp2_with (first
      | (go_at_call 83; refine (HC.out _).mono ?_; rintro e w1 ⟨rfl, hb⟩; have HB1 := Lib.hid (hb0.trans (hb.mono (by simp))); have HQ1 := Lib.hid (heap_keep hq0 hb); clear hb)
      | (refine wpList_store_rowTo rfl 63 _ _ rfl rfl w.heap.size #[.bool b, .int .i64 n, .string nm] rfl rfl _ _ HQ1.out (by kernel_rfl) (by kernel_rfl) (by kernel_rfl) ?_))
    refine bodyPost_ret (v := .tuple #[.agg #[.bool b, .int .i64 n, .string nm], .int .i64 (m : Nat)]) ?_ rfl ⟨rfl, below_setRow HB1.out (Nat.le_refl _) _⟩
    have hl := run_loadVar_row (P := Tryz.prog) _ w.heap.size _ 63 _ _ _ (setRow_heap _ _ _ #[.bool b, .int .i64 n, .string nm] _ _ HQ1.out) Tryz.underlying63 rfl (by kernel_rfl)
    simp [results, Tryz.results48, asAddr, hl]
  · have k0 : ¬ (s[0]'(by omega)).toNat = 91 := by rw [← hg]; exact h0
    have k1 : (((s[0]'(by omega)).toNat : Int) == 91) = false := by simp; omega
    cases first
    · have e1 : leadP s false = itemP s dotS := by unfold leadP; rw [if_neg h0]; rfl
      have HC := Lib.hid (fun wx => item12_any s dotS hs (by decide) wx)
      rw [e1]
      obtain ⟨X, hX⟩ : ∃ X, itemP s dotS = X := ⟨_, rfl⟩
      rw [hX] at HC ⊢
      obtain ⟨⟨b, n, nm⟩, m⟩ := X
      clear hX
      unfold pieceV at HC ⊢
      unfold dotS at HC
      clear e1 hg h0 k0
      go_enter Tryz.func48, Tryz.ntmps48
      go_wp2_with (first
        | (go_at_call 84; refine (HC.out _).mono ?_; rintro e w1 ⟨rfl, hb⟩; have HB1 := Lib.hid (hb0.trans (hb.mono (by simp))); have HQ1 := Lib.hid (heap_keep hq0 hb); clear hb)
        | (refine wpList_store_rowTo rfl 63 _ _ rfl rfl w.heap.size #[.bool b, .int .i64 n, .string nm] rfl rfl _ _ HQ1.out (by kernel_rfl) (by kernel_rfl) (by kernel_rfl) ?_))
      refine bodyPost_ret (v := .tuple #[.agg #[.bool b, .int .i64 n, .string nm], .int .i64 (m : Nat)]) ?_ rfl ⟨rfl, below_setRow HB1.out (Nat.le_refl _) _⟩
      have hl := run_loadVar_row (P := Tryz.prog) _ w.heap.size _ 63 _ _ _ (setRow_heap _ _ _ #[.bool b, .int .i64 n, .string nm] _ _ HQ1.out) Tryz.underlying63 rfl (by kernel_rfl)
      simp [results, Tryz.results48, asAddr, hl]
    · have e1 : leadP s true = itemP s ⟨#[]⟩ := by unfold leadP; rw [if_neg h0]; rfl
      have HC := Lib.hid (fun wx => item12_any s ⟨#[]⟩ hs (by decide) wx)
      rw [e1]
      obtain ⟨X, hX⟩ : ∃ X, itemP s ⟨#[]⟩ = X := ⟨_, rfl⟩
      rw [hX] at HC ⊢
      obtain ⟨⟨b, n, nm⟩, m⟩ := X
      clear hX
      unfold pieceV at HC ⊢
      clear e1 hg h0 k0
      go_enter Tryz.func48, Tryz.ntmps48
      go_wp2_with (first
        | (go_at_call 84; refine (HC.out _).mono ?_; rintro e w1 ⟨rfl, hb⟩; have HB1 := Lib.hid (hb0.trans (hb.mono (by simp))); have HQ1 := Lib.hid (heap_keep hq0 hb); clear hb)
        | (refine wpList_store_rowTo rfl 63 _ _ rfl rfl w.heap.size #[.bool b, .int .i64 n, .string nm] rfl rfl _ _ HQ1.out (by kernel_rfl) (by kernel_rfl) (by kernel_rfl) ?_))
      refine bodyPost_ret (v := .tuple #[.agg #[.bool b, .int .i64 n, .string nm], .int .i64 (m : Nat)]) ?_ rfl ⟨rfl, below_setRow HB1.out (Nat.le_refl _) _⟩
      have hl := run_loadVar_row (P := Tryz.prog) _ w.heap.size _ 63 _ _ _ (setRow_heap _ _ _ #[.bool b, .int .i64 n, .string nm] _ _ HQ1.out) Tryz.underlying63 rfl (by kernel_rfl)
      simp [results, Tryz.results48, asAddr, hl]
end Go.Proofs.YtcpjbimojliogaaGreatDoor
