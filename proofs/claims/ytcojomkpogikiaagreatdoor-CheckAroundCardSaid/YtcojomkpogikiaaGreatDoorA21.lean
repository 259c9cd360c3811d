/- Chapter 12's small functions of a text: digits, numbers, the step with which a text begins; for every text of at most a million bytes. -/
import Derived.StillTailTactics
import Derived.Test.YtcojomkpogikiaaGreatDoorA07
import Derived.Test.YtcojomkpogikiaaGreatDoorA11
import Derived.Test.YtcojomkpogikiaaGreatDoorA20
import Derived.Test.YtcojomkpogikiaaGreatDoorA24
namespace Go.Proofs.YtcojomkpogikiaaGreatDoor.Pa
open Go Go.RowKit
def isDg (c : Nat) : Bool := decide (48 ≤ c) && decide (c ≤ 57)
def numOk12 (s : ByteArray) : Bool :=
  if s.size = 1 then isDg (charAt s 0) else if s.size = 2 then isDg (charAt s 0) && isDg (charAt s 1) && decide (charAt s 0 ≠ 48) else false
def numV12 (s : ByteArray) : Int :=
  if s.size = 1 then (charAt s 0 : Int) - 48 else ((charAt s 0 : Int) - 48) * 10 + ((charAt s 1 : Int) - 48)
structure PieceV where
  elem : Bool
  n : Int
  name : ByteArray
def pieceV (x : PieceV) : Value := .agg #[.bool x.elem, .int .i64 x.n, .string x.name]
def piece0 : PieceV := ⟨false, 0, ⟨#[]⟩⟩
/-- where a bracket closes, in what is behind the first byte -/
def closeZ (s : ByteArray) : Int := Lib.indexByte (s.extract 1 s.size).data.toList 93
def digS (s : ByteArray) : ByteArray := (s.extract 1 s.size).extract 0 (closeZ s).toNat
def elemP (s : ByteArray) : PieceV × Nat :=
  if closeZ s < 0 then (piece0, 0) else if numOk12 (digS s) then (⟨true, numV12 (digS s), ⟨#[]⟩⟩, (digS s).size + 2) else (piece0, 0)
def itemR (s dot : ByteArray) : ByteArray := ⟨(Lib.trimPrefix s.data.toList dot.data.toList).toArray⟩
def itemP (s dot : ByteArray) : PieceV × Nat :=
  if Lib.hasPrefix s.data.toList dot.data.toList && decide (leadN (itemR s dot) ≠ 0) then (⟨false, 0, (itemR s dot).extract 0 (leadN (itemR s dot))⟩, dot.size + leadN (itemR s dot)) else (piece0, 0)
def dotS : ByteArray := ⟨#[46]⟩
def leadP (s : ByteArray) (first : Bool) : PieceV × Nat :=
  if charAt s 0 = 91 then elemP s else if first then itemP s ⟨#[]⟩ else itemP s dotS
theorem isDigit12_any (c : Nat) (hc : c < 256) (w : World) : Calls Tryz.prog 243 #[.int .u8 (c : Int)] w fun e w' => e = .returned (.bool (isDg c)) ∧ w' = w := by
  have hw : IntKind.u8.wrap (c : Int) = (c : Int) := IntWalk.u8_in _ (by omega)
  by_cases h1 : 48 ≤ c
  · by_cases h2 : c ≤ 57
    · have e : isDg c = true := by simp [isDg, h1, h2]
      have k1 : decide ((48 : Int) ≤ c) = true := by simp; omega
      have k2 : decide ((c : Int) ≤ 57) = true := by simp; omega
      rw [e]
      clear e
      go_enter Tryz.func243, Tryz.ntmps243
      go_wp2
      go_ret
      exact ⟨rfl, rfl⟩
    · have e : isDg c = false := by simp [isDg, h2]
      have k1 : decide ((48 : Int) ≤ c) = true := by simp; omega
      have k2 : decide ((c : Int) ≤ 57) = false := by simp; omega
      rw [e]
      clear e
      go_enter Tryz.func243, Tryz.ntmps243
      go_wp2
      go_ret
      exact ⟨rfl, rfl⟩
  · have e : isDg c = false := by simp [isDg, h1]
    have k1 : decide ((48 : Int) ≤ c) = false := by simp; omega
    rw [e]
    clear e
    go_enter Tryz.func243, Tryz.ntmps243
    go_wp2
    go_ret
    exact ⟨rfl, rfl⟩
theorem isNumber12_any (s : ByteArray) (w : World) : Calls Tryz.prog 226 #[.string s] w fun e w' => e = .returned (.bool (numOk12 s)) ∧ w' = w := by
  by_cases h1 : s.size = 1
  · have e : numOk12 s = isDg (charAt s 0) := by simp [numOk12, h1]
    have hg := charAt_get s 0 (by omega)
    have HD := Lib.hid (fun wx => isDigit12_any (charAt s 0) (charAt_lt s 0) wx)
    rw [hg] at HD e
    rw [e]
    clear e hg
    have k1 : ((s.size : Int) == 1) = true := by simp; omega
    have hx : ∀ wx : World, (Instr.index 9 (.string s) (.int .i64 0)).run Tryz.prog wx = .ok (.int .u8 (s[0]'(by omega)).toNat) wx := fun wx => by
      rw [run_index_string wx 9 s .i64 0 Tryz.underlying9, dif_pos ⟨by omega, by omega⟩]; rfl
    go_enter Tryz.func226, Tryz.ntmps226
    go_wp2_with (go_at_call 243; refine (HD.out _).mono ?_; rintro e w1 ⟨rfl, rfl⟩)
    go_ret
    exact ⟨rfl, rfl⟩
  · have k1 : ((s.size : Int) == 1) = false := by simp; omega
    by_cases h2 : s.size = 2
    · have e : numOk12 s = (isDg (charAt s 0) && isDg (charAt s 1) && decide (charAt s 0 ≠ 48)) := by simp [numOk12, h2]
      have k2 : ((s.size : Int) == 2) = true := by simp; omega
      have hg := charAt_get s 0 (by omega)
      have hg1 := charAt_get s 1 (by omega)
      have HD := Lib.hid (fun wx => isDigit12_any (charAt s 0) (charAt_lt s 0) wx)
      have HD1 := Lib.hid (fun wx => isDigit12_any (charAt s 1) (charAt_lt s 1) wx)
      have hx : ∀ wx : World, (Instr.index 9 (.string s) (.int .i64 0)).run Tryz.prog wx = .ok (.int .u8 (charAt s 0 : Nat)) wx := fun wx => by
        rw [run_index_string wx 9 s .i64 0 Tryz.underlying9, dif_pos ⟨by omega, by omega⟩, hg]; rfl
      have hx1 : ∀ wx : World, (Instr.index 9 (.string s) (.int .i64 1)).run Tryz.prog wx = .ok (.int .u8 (charAt s 1 : Nat)) wx := fun wx => by
        rw [run_index_string wx 9 s .i64 1 Tryz.underlying9, dif_pos ⟨by omega, by omega⟩, hg1]; rfl
      obtain ⟨c0, hc0⟩ : ∃ c, charAt s 0 = c := ⟨_, rfl⟩
      obtain ⟨c1, hc1⟩ : ∃ c, charAt s 1 = c := ⟨_, rfl⟩
      rw [hc0] at HD hx e
      rw [hc1] at HD1 hx1 e
      obtain ⟨q0, hq0⟩ : ∃ q, isDg c0 = q := ⟨_, rfl⟩
      obtain ⟨q1, hq1⟩ : ∃ q, isDg c1 = q := ⟨_, rfl⟩
      rw [hq0, hq1] at e
      rw [hq0] at HD
      rw [hq1] at HD1
      clear hg hg1 hc0 hc1
      obtain ⟨q2, hq2⟩ : ∃ q, (!((c0 : Int) == 48)) = q := ⟨_, rfl⟩
      have e2 : decide (c0 ≠ 48) = q2 := by rw [← hq2]; rw [Bool.eq_iff_iff]; simp; omega
      rw [e2] at e
      rw [e]
      clear e e2 hq0 hq1
      cases q0
      · go_enter Tryz.func226, Tryz.ntmps226
        go_wp2_with (go_at_call 243; refine (HD.out _).mono ?_; rintro e w1 ⟨rfl, rfl⟩)
        go_ret
        exact ⟨rfl, rfl⟩
      · cases q1
        · go_enter Tryz.func226, Tryz.ntmps226
          go_wp2_with (first | (go_at_call 243; (with_reducible refine (HD.out _).mono ?_); rintro e w1 ⟨rfl, rfl⟩) | (go_at_call 243; (with_reducible refine (HD1.out _).mono ?_); rintro e w1 ⟨rfl, rfl⟩))
          go_ret
          exact ⟨rfl, rfl⟩
        · go_enter Tryz.func226, Tryz.ntmps226
          go_wp2_with (first | (go_at_call 243; (with_reducible refine (HD.out _).mono ?_); rintro e w1 ⟨rfl, rfl⟩) | (go_at_call 243; (with_reducible refine (HD1.out _).mono ?_); rintro e w1 ⟨rfl, rfl⟩))
          go_ret
          exact ⟨(by simp; exact hq2), rfl⟩
    · have e : numOk12 s = false := by simp [numOk12, h1, h2]
      have k2 : ((s.size : Int) == 2) = false := by simp; omega
      rw [e]
      clear e
      go_enter Tryz.func226, Tryz.ntmps226
      go_wp2
      go_ret
      exact ⟨rfl, rfl⟩
/-- strings.Cut at a closing bracket -/
def cutV (s : ByteArray) (z : Int) : Value :=
  if z < 0 then .tuple #[.string s, .string ⟨#[]⟩, .bool false] else .tuple #[.string (s.extract 0 z.toNat), .string (s.extract (z.toNat + 1) s.size), .bool true]
theorem slcut12 (s : ByteArray) (hs : s.size ≤ 1000000) (z : Int) (hz : Lib.indexByte s.data.toList 93 = z) (w : World) : Calls Tryz.prog 242 #[.string s, .string ⟨#[93]⟩] w fun e w' =>
    e = .returned (cutV s z) ∧ Below w.heap.size w w' := by
  have HI := Lib.hid (fun wx => Tryz.stringslite_Index_one s 93 wx)
  rw [hz] at HI
  have hb0 := Below.refl w.heap.size w
  by_cases h : z < 0
  · rw [show cutV s z = .tuple #[.string s, .string ⟨#[]⟩, .bool false] from if_pos h]
    have hd : decide (0 ≤ z) = false := by simp; omega
    go_enter Tryz.func242, Tryz.ntmps242
    go_wp2_with (go_at_call 239; refine (HI.out _).mono ?_; rintro e w1 ⟨rfl, rfl⟩)
    go_ret3
    exact ⟨rfl, hb0⟩
  · rw [show cutV s z = .tuple #[.string (s.extract 0 z.toNat), .string (s.extract (z.toNat + 1) s.size), .bool true] from if_neg h]
    have hlt : z.toNat < s.size := by
      rcases Lib.indexByte_piece s 0 s.size 93 with h1 | ⟨o, h1, h2⟩
      · rw [show s.extract 0 s.size = s by simp] at h1; omega
      · rw [show s.extract 0 s.size = s by simp] at h1; omega
    obtain ⟨m, rfl⟩ : ∃ m : Nat, z = m := ⟨z.toNat, by omega⟩
    have hd : decide (0 ≤ (m : Int)) = true := by simp
    have hwr : IntKind.i64.wrap ((m : Int) + 1) = ((m + 1 : Nat) : Int) := by rw [IntWalk.i64_in _ (by omega)]; omega
    have hm : (m : Int).toNat = m := by omega
    rw [hm] at hlt ⊢
    have hsl : ∀ wx, (Instr.slice 9 (.string s) none (some (.int .i64 (m : Nat))) none).run Tryz.prog wx = .ok (.string (s.extract 0 m)) wx := fun wx => run_slice_string_h wx 9 s Tryz.underlying9 .i64 (m : Nat) (by omega) (by omega)
    have hsr : ∀ wx, (Instr.slice 9 (.string s) (some (.int .i64 ((m + 1 : Nat) : Int))) none none).run Tryz.prog wx = .ok (.string (s.extract (m + 1) s.size)) wx := fun wx => run_slice_string_l wx 9 s Tryz.underlying9 .i64 ((m + 1 : Nat) : Int) (by omega) (by omega)
    go_enter Tryz.func242, Tryz.ntmps242
    go_wp2_with (go_at_call 239; refine (HI.out _).mono ?_; rintro e w1 ⟨rfl, rfl⟩)
    go_quiet (fail)
    go_wp2
    go_ret3
    exact ⟨rfl, drewN_below hb0 _⟩
theorem cut12 (s : ByteArray) (hs : s.size ≤ 1000000) (z : Int) (hz : Lib.indexByte s.data.toList 93 = z) (w : World) : Calls Tryz.prog 225 #[.string s, .string ⟨#[93]⟩] w fun e w' => e = .returned (cutV s z) ∧ Below w.heap.size w w' := by
  have HC := Lib.hid (fun wx => slcut12 s hs z hz wx)
  clear hz
  by_cases h : z < 0
  · have e0 : cutV s z = .tuple #[.string s, .string ⟨#[]⟩, .bool false] := if_pos h
    rw [e0] at HC ⊢
    go_enter Tryz.func225, Tryz.ntmps225
    go_wp2_with (go_at_call 242; refine (HC.out _).mono ?_; rintro e w1 ⟨rfl, hb⟩)
    go_ret3
    exact ⟨rfl, hb⟩
  · have e0 : cutV s z = .tuple #[.string (s.extract 0 z.toNat), .string (s.extract (z.toNat + 1) s.size), .bool true] := if_neg h
    rw [e0] at HC ⊢
    go_enter Tryz.func225, Tryz.ntmps225
    go_wp2_with (go_at_call 242; refine (HC.out _).mono ?_; rintro e w1 ⟨rfl, hb⟩)
    go_ret3
    exact ⟨rfl, hb⟩
/-- a text of one or two digits, read as a number -/
theorem atoi12 (s : ByteArray) (hn : numOk12 s = true) : Lib.atoi s.data.toList = some (numV12 s) ∧ s.size ≤ 2 := by
  have dg : ∀ c, isDg c = true → 48 ≤ c ∧ c ≤ 57 := fun c h => by simpa [isDg] using h
  obtain ⟨l, hl⟩ : ∃ l, s.data.toList = l := ⟨_, rfl⟩
  have hz : s.size = l.length := by rw [← hl]; simp
  have hc : ∀ i, charAt s i = (l.getD i 0).toNat := fun i => by unfold charAt; rw [hl]
  have hv : ∀ a : UInt8, 48 ≤ a.toNat ∧ a.toNat ≤ 57 → Lib.digitVal a = some (a.toNat - 48) := fun a h => if_pos h
  rw [hl]
  unfold numOk12 at hn
  unfold numV12
  simp only [hc] at hn ⊢
  rw [hz] at hn ⊢
  match l, hn with
  | [a], hn =>
    have h := dg _ (by simpa using hn)
    have h1 : (a == 45) = false := by rw [beq_eq_false_iff_ne]; rintro rfl; exact absurd h.1 (by decide)
    have h2 : (a == 43) = false := by rw [beq_eq_false_iff_ne]; rintro rfl; exact absurd h.1 (by decide)
    refine ⟨?_, by simp⟩
    simp [Lib.atoi, h1, h2, Lib.decNat, Lib.decFrom, hv a h]
    omega
  | [a, b], hn =>
    have hh : (isDg a.toNat = true ∧ isDg b.toNat = true) ∧ a.toNat ≠ 48 := by simpa using hn
    have h := dg _ hh.1.1
    have h' := dg _ hh.1.2
    have h1 : (a == 45) = false := by rw [beq_eq_false_iff_ne]; rintro rfl; exact absurd h.1 (by decide)
    have h2 : (a == 43) = false := by rw [beq_eq_false_iff_ne]; rintro rfl; exact absurd h.1 (by decide)
    refine ⟨?_, by simp⟩
    simp [Lib.atoi, h1, h2, Lib.decNat, Lib.decFrom, hv a h, hv b h']
    omega
  | [], hn => simp at hn
  | a :: b :: c :: r, hn => simp at hn
/-- one box in memory through a callee -/
theorem heap_keep {w w1 : World} {b : Nat} {o : Obj} (h : w.heap[b]? = some o) (hb : Below w.heap.size w w1) : w1.heap[b]? = some o := by
  rw [hb.block b (Array.getElem?_eq_some_iff.1 h).1, h]
def pieceO : Obj := .cells #[.bool false, .int .i64 0, .string ⟨#[]⟩] 188
theorem itemR_size (s d : ByteArray) : (itemR s d).size ≤ s.size := by
  unfold itemR Lib.trimPrefix
  split
  · show (List.drop _ s.data.toList).toArray.size ≤ s.data.size
    simp
  · show s.data.toList.toArray.size ≤ s.data.size
    simp
theorem item12_any (s d : ByteArray) (hs : s.size ≤ 1000000) (hd : d.size ≤ 1) (w : World) : Calls Tryz.prog 204 #[.string s, .string d] w fun e w' => e = .returned (.tuple #[pieceV (itemP s d).1, .int .i64 ((itemP s d).2 : Nat)]) ∧ Below w.heap.size w w' := by
  have HC := Lib.hid (fun wx => Tryz.strings_CutPrefix s d wx)
  have hz := itemR_size s d
  obtain ⟨r, hr⟩ : ∃ r, itemR s d = r := ⟨_, rfl⟩
  obtain ⟨q, hq⟩ : ∃ q, Lib.hasPrefix s.data.toList d.data.toList = q := ⟨_, rfl⟩
  have e1 : itemP s d = if q && decide (leadN r ≠ 0) then (⟨false, 0, r.extract 0 (leadN r)⟩, d.size + leadN r) else (piece0, 0) := by unfold itemP; rw [hr, hq]
  rw [show (⟨(Lib.trimPrefix s.data.toList d.data.toList).toArray⟩ : ByteArray) = r from hr, hq] at HC
  rw [hr] at hz
  have hln := leadN_le r
  have HL := Lib.hid (fun wx => lead_any r (by omega) wx)
  obtain ⟨n, hn⟩ : ∃ n, leadN r = n := ⟨_, rfl⟩
  rw [hn] at HL hln e1
  have hb0 := (Below.refl w.heap.size w).alloc (Nat.le_refl _) pieceO
  have hq0 := alloc_at w pieceO
  unfold pieceO at hb0 hq0
  obtain ⟨k, hk⟩ : ∃ k, d.size = k := ⟨_, rfl⟩
  rw [hk] at e1 hd
  clear hr hq hn
  cases q
  · have e2 : itemP s d = (piece0, 0) := e1
    rw [e2]
    unfold pieceV piece0
    clear e1 e2
    go_enter Tryz.func204, Tryz.ntmps204
    go_wp2_with (first
      | (go_at_call 228; refine (HC.out _).mono ?_; rintro e w1 ⟨rfl, rfl⟩)
      | (go_at_call 147; refine (HL.out _).mono ?_; rintro e w1 ⟨rfl, hb⟩; have HB1 := Lib.hid (hb0.trans (hb.mono (by simp))); have HQ1 := Lib.hid (heap_keep hq0 hb); clear hb)
      | (refine wpList_store_rowTo rfl 188 _ _ rfl rfl w.heap.size #[.bool false, .int .i64 0, .string ⟨#[]⟩] rfl rfl _ _ HQ1.out (by kernel_rfl) (by kernel_rfl) (by kernel_rfl) ?_))
    refine bodyPost_ret (v := .tuple #[.agg #[.bool false, .int .i64 0, .string ⟨#[]⟩], .int .i64 0]) ?_ rfl ⟨rfl, below_setRow HB1.out (Nat.le_refl _) _⟩
    have hl := run_loadVar_row (P := Tryz.prog) _ w.heap.size _ 188 _ _ _ (setRow_heap _ _ _ #[.bool false, .int .i64 0, .string ⟨#[]⟩] _ _ HQ1.out) Tryz.underlying188 rfl (by kernel_rfl)
    simp [results, Tryz.results204, asAddr, hl]
  · by_cases h0 : n = 0
    · subst h0
      have e2 : itemP s d = (piece0, 0) := by rw [e1]; rfl
      rw [e2]
      unfold pieceV piece0
      clear e1 e2
      go_enter Tryz.func204, Tryz.ntmps204
      go_wp2_with (first
      | (go_at_call 228; refine (HC.out _).mono ?_; rintro e w1 ⟨rfl, rfl⟩)
      | (go_at_call 147; refine (HL.out _).mono ?_; rintro e w1 ⟨rfl, hb⟩; have HB1 := Lib.hid (hb0.trans (hb.mono (by simp))); have HQ1 := Lib.hid (heap_keep hq0 hb); clear hb)
      | (refine wpList_store_rowTo rfl 188 _ _ rfl rfl w.heap.size #[.bool false, .int .i64 0, .string ⟨#[]⟩] rfl rfl _ _ HQ1.out (by kernel_rfl) (by kernel_rfl) (by kernel_rfl) ?_))
      refine bodyPost_ret (v := .tuple #[.agg #[.bool false, .int .i64 0, .string ⟨#[]⟩], .int .i64 0]) ?_ rfl ⟨rfl, below_setRow HB1.out (Nat.le_refl _) _⟩
      have hl := run_loadVar_row (P := Tryz.prog) _ w.heap.size _ 188 _ _ _ (setRow_heap _ _ _ #[.bool false, .int .i64 0, .string ⟨#[]⟩] _ _ HQ1.out) Tryz.underlying188 rfl (by kernel_rfl)
      simp [results, Tryz.results204, asAddr, hl]
    · have e2 : itemP s d = (⟨false, 0, r.extract 0 n⟩, k + n) := by rw [e1, if_pos (by simp [h0])]
      rw [e2]
      unfold pieceV
      clear e1 e2
      have hn0 : ((n : Int) == 0) = false := by simp; omega
      have hwr : IntKind.i64.wrap ((k : Int) + n) = ((k + n : Nat) : Int) := by rw [IntWalk.i64_in _ (by omega)]; omega
      have hsl : ∀ wx, (Instr.slice 9 (.string r) none (some (.int .i64 (n : Nat))) none).run Tryz.prog wx = .ok (.string (r.extract 0 n)) wx := fun wx => run_slice_string_h wx 9 r Tryz.underlying9 .i64 (n : Nat) (by omega) (by omega)
      go_enter Tryz.func204, Tryz.ntmps204
      go_wp2_with (first
      | (go_at_call 228; refine (HC.out _).mono ?_; rintro e w1 ⟨rfl, rfl⟩)
      | (go_at_call 147; refine (HL.out _).mono ?_; rintro e w1 ⟨rfl, hb⟩; have HB1 := Lib.hid (hb0.trans (hb.mono (by simp))); have HQ1 := Lib.hid (heap_keep hq0 hb); clear hb)
      | (refine wpList_store_rowTo rfl 188 _ _ rfl rfl w.heap.size #[.bool false, .int .i64 0, .string (r.extract 0 n)] rfl rfl _ _ HQ1.out (by kernel_rfl) (by kernel_rfl) (by kernel_rfl) ?_))
      refine bodyPost_ret (v := .tuple #[.agg #[.bool false, .int .i64 0, .string (r.extract 0 n)], .int .i64 ((k + n : Nat) : Int)]) ?_ rfl ⟨rfl, below_setRow HB1.out (Nat.le_refl _) _⟩
      have hl := run_loadVar_row (P := Tryz.prog) _ w.heap.size _ 188 _ _ _ (setRow_heap _ _ _ #[.bool false, .int .i64 0, .string (r.extract 0 n)] _ _ HQ1.out) Tryz.underlying188 rfl (by kernel_rfl)
      simp [results, Tryz.results204, asAddr, hl]
theorem bytesWorld_below {w0 w : World} {t : TypeId} {s : ByteArray} {n : Nat} (h : Below n w0 w) (hn : n ≤ w.heap.size) : Below n w0 (Lib.bytesWorld w t s) := h.trans ((Lib.below_freeze ((Below.drew (Below.refl _ w)).alloc (Nat.le_refl _) _) (p := ⟨w.heap.size, _, none⟩) (Nat.le_refl _) 1).mono hn)
theorem element12_any (s : ByteArray) (hs : s.size ≤ 1000000) (h1 : 1 ≤ s.size) (w : World) : Calls Tryz.prog 203 #[.string s] w fun e w' => e = .returned (.tuple #[pieceV (elemP s).1, .int .i64 ((elemP s).2 : Nat)]) ∧ Below w.heap.size w w' := by
  have hsl : ∀ wx, (Instr.slice 9 (.string s) (some (.int .i64 1)) none none).run Tryz.prog wx = .ok (.string (s.extract 1 s.size)) wx := fun wx => run_slice_string_l wx 9 s Tryz.underlying9 .i64 1 (by omega) (by omega)
  have hxz : (s.extract 1 s.size).size ≤ 1000000 := by simp; omega
  obtain ⟨x, hx⟩ : ∃ x, s.extract 1 s.size = x := ⟨_, rfl⟩
  obtain ⟨z, hz⟩ : ∃ z, closeZ s = z := ⟨_, rfl⟩
  have hzz : Lib.indexByte x.data.toList 93 = z := by rw [← hx]; exact hz
  have hdz : (digS s) = x.extract 0 z.toNat := by unfold digS; rw [hx, hz]
  have e1 : elemP s = if z < 0 then (piece0, 0) else if numOk12 (x.extract 0 z.toNat) then (⟨true, numV12 (x.extract 0 z.toNat), ⟨#[]⟩⟩, (x.extract 0 z.toNat).size + 2) else (piece0, 0) := by unfold elemP; rw [hz, hdz]
  rw [hx] at hsl hxz
  have HC := Lib.hid (fun wx => cut12 x hxz z hzz wx)
  have hb0 := (Below.refl w.heap.size w).alloc (Nat.le_refl _) pieceO
  have hq0 := alloc_at w pieceO
  unfold pieceO at hb0 hq0
  clear hx hz hzz hdz
  by_cases h0 : z < 0
  · have e2 : elemP s = (piece0, 0) := by rw [e1, if_pos h0]
    rw [e2]
    rw [show cutV x z = .tuple #[.string x, .string ⟨#[]⟩, .bool false] from if_pos h0] at HC
    unfold pieceV piece0
    clear e1 e2
    go_enter Tryz.func203, Tryz.ntmps203
    go_wp2_with (first
      | (go_at_call 225; refine (HC.out _).mono ?_; rintro e w1 ⟨rfl, hb⟩; have HB1 := Lib.hid (hb0.trans (hb.mono (by simp))); have HQ1 := Lib.hid (heap_keep hq0 hb); clear hb)
      | (refine wpList_store_rowTo rfl 188 _ _ rfl rfl w.heap.size #[.bool false, .int .i64 0, .string ⟨#[]⟩] rfl rfl _ _ HQ1.out (by kernel_rfl) (by kernel_rfl) (by kernel_rfl) ?_))
    refine bodyPost_ret (v := .tuple #[.agg #[.bool false, .int .i64 0, .string ⟨#[]⟩], .int .i64 0]) ?_ rfl ⟨rfl, below_setRow HB1.out (Nat.le_refl _) _⟩
    have hl := run_loadVar_row (P := Tryz.prog) _ w.heap.size _ 188 _ _ _ (setRow_heap _ _ _ #[.bool false, .int .i64 0, .string ⟨#[]⟩] _ _ HQ1.out) Tryz.underlying188 rfl (by kernel_rfl)
    simp [results, Tryz.results203, asAddr, hl]
  · rw [show cutV x z = .tuple #[.string (x.extract 0 z.toNat), .string (x.extract (z.toNat + 1) x.size), .bool true] from if_neg h0] at HC
    rw [if_neg h0] at e1
    have hyz : (x.extract 0 z.toNat).size ≤ 1000000 := by simp; omega
    obtain ⟨y, hy⟩ : ∃ y, x.extract 0 z.toNat = y := ⟨_, rfl⟩
    obtain ⟨y2, hy2⟩ : ∃ y, x.extract (z.toNat + 1) x.size = y := ⟨_, rfl⟩
    rw [hy] at e1 HC hyz
    rw [hy2] at HC
    have HN := Lib.hid (fun wx => isNumber12_any y wx)
    clear hy hy2
    cases hk : numOk12 y
    · have e2 : elemP s = (piece0, 0) := by rw [e1, if_neg (by rw [hk]; decide)]
      rw [e2]
      rw [hk] at HN
      unfold pieceV piece0
      clear e1 e2
      go_enter Tryz.func203, Tryz.ntmps203
      go_wp2_with (first
      | (go_at_call 225; refine (HC.out _).mono ?_; rintro e w1 ⟨rfl, hb⟩; have HB1 := Lib.hid (hb0.trans (hb.mono (by simp))); have HQ1 := Lib.hid (heap_keep hq0 hb); clear hb)
      | (go_at_call 226; refine (HN.out _).mono ?_; rintro e w2 ⟨rfl, rfl⟩)
      | (refine wpList_store_rowTo rfl 188 _ _ rfl rfl w.heap.size #[.bool false, .int .i64 0, .string ⟨#[]⟩] rfl rfl _ _ HQ1.out (by kernel_rfl) (by kernel_rfl) (by kernel_rfl) ?_))
      refine bodyPost_ret (v := .tuple #[.agg #[.bool false, .int .i64 0, .string ⟨#[]⟩], .int .i64 0]) ?_ rfl ⟨rfl, below_setRow HB1.out (Nat.le_refl _) _⟩
      have hl := run_loadVar_row (P := Tryz.prog) _ w.heap.size _ 188 _ _ _ (setRow_heap _ _ _ #[.bool false, .int .i64 0, .string ⟨#[]⟩] _ _ HQ1.out) Tryz.underlying188 rfl (by kernel_rfl)
      simp [results, Tryz.results203, asAddr, hl]
    · have e2 : elemP s = (⟨true, numV12 y, ⟨#[]⟩⟩, y.size + 2) := by rw [e1, if_pos hk]
      obtain ⟨ha, hl2⟩ := atoi12 y hk
      have HA := Lib.hid (fun wx => Tryz.strconv_Atoi y (numV12 y) (by omega) ha wx)
      rw [e2]
      rw [hk] at HN
      unfold pieceV
      obtain ⟨nv, hnv⟩ : ∃ nv, numV12 y = nv := ⟨_, rfl⟩
      rw [hnv] at HA ⊢
      obtain ⟨k, hkz⟩ : ∃ k, y.size = k := ⟨_, rfl⟩
      rw [hkz] at hl2 ⊢
      have hwr : IntKind.i64.wrap ((k : Int) + 2) = ((k + 2 : Nat) : Int) := by rw [IntWalk.i64_in _ (by omega)]; omega
      clear e1 e2 ha hnv
      go_enter Tryz.func203, Tryz.ntmps203
      go_wp2_with (first
      | (go_at_call 225; refine (HC.out _).mono ?_; rintro e w1 ⟨rfl, hb⟩; have HB1 := Lib.hid (hb0.trans (hb.mono (by simp))); have HQ1 := Lib.hid (heap_keep hq0 hb); clear hb)
      | (go_at_call 226; refine (HN.out _).mono ?_; rintro e w2 ⟨rfl, rfl⟩)
      | (go_at_call 227; refine (HA.out _).mono ?_; rintro e w3 ⟨rfl, t, rfl⟩; have HB2 := Lib.hid (bytesWorld_below (t := 5) (s := t) HB1.out HB1.out.size); have HQ2 := Lib.hid (heap_keep HQ1.out (bytesWorld_below (t := 5) (s := t) (Below.refl _ _) (Nat.le_refl _))))
        | (refine wpList_store_rowTo rfl 188 _ _ rfl rfl w.heap.size #[.bool true, .int .i64 nv, .string ⟨#[]⟩] rfl rfl _ _ HQ2.out (by kernel_rfl) (by kernel_rfl) (by kernel_rfl) ?_))
      refine bodyPost_ret (v := .tuple #[.agg #[.bool true, .int .i64 nv, .string ⟨#[]⟩], .int .i64 ((k + 2 : Nat) : Int)]) ?_ rfl ⟨rfl, below_setRow HB2.out (Nat.le_refl _) _⟩
      have hl := run_loadVar_row (P := Tryz.prog) _ w.heap.size _ 188 _ _ _ (setRow_heap _ _ _ #[.bool true, .int .i64 nv, .string ⟨#[]⟩] _ _ HQ2.out) Tryz.underlying188 rfl (by kernel_rfl)
      simp [results, Tryz.results203, asAddr, hl]
theorem leading12_any (s : ByteArray) (first : Bool) (hs : s.size ≤ 1000000) (h1 : 1 ≤ s.size) (w : World) : Calls Tryz.prog 177 #[.string s, .bool first] w fun e w' => e = .returned (.tuple #[pieceV (leadP s first).1, .int .i64 ((leadP s first).2 : Nat)]) ∧ Below w.heap.size w w' := by
  have hg := charAt_get s 0 (by omega)
  have hb0 := (Below.refl w.heap.size w).alloc (Nat.le_refl _) pieceO
  have hq0 := alloc_at w pieceO
  unfold pieceO at hb0 hq0
  by_cases h0 : charAt s 0 = 91
  · have e1 : leadP s first = elemP s := if_pos h0
    have HC := Lib.hid (fun wx => element12_any s hs h1 wx)
    rw [e1]
    rw [hg] at h0
    have k1 : (((s[0]'(by omega)).toNat : Int) == 91) = true := by rw [h0]; rfl
    obtain ⟨X, hX⟩ : ∃ X, elemP s = X := ⟨_, rfl⟩
    rw [hX] at HC ⊢
    obtain ⟨⟨b, n, nm⟩, m⟩ := X
    clear hX
    unfold pieceV at HC ⊢
    clear e1 hg h0
    go_enter Tryz.func177, Tryz.ntmps177
    go_wp2_with (first
      | (go_at_call 203; refine (HC.out _).mono ?_; rintro e w1 ⟨rfl, hb⟩; have HB1 := Lib.hid (hb0.trans (hb.mono (by simp))); have HQ1 := Lib.hid (heap_keep hq0 hb); clear hb)
      | (refine wpList_store_rowTo rfl 188 _ _ rfl rfl w.heap.size #[.bool b, .int .i64 n, .string nm] rfl rfl _ _ HQ1.out (by kernel_rfl) (by kernel_rfl) (by kernel_rfl) ?_))
    refine bodyPost_ret (v := .tuple #[.agg #[.bool b, .int .i64 n, .string nm], .int .i64 (m : Nat)]) ?_ rfl ⟨rfl, below_setRow HB1.out (Nat.le_refl _) _⟩
    have hl := run_loadVar_row (P := Tryz.prog) _ w.heap.size _ 188 _ _ _ (setRow_heap _ _ _ #[.bool b, .int .i64 n, .string nm] _ _ HQ1.out) Tryz.underlying188 rfl (by kernel_rfl)
    simp [results, Tryz.results177, asAddr, hl]
  · have k0 : ¬ (s[0]'(by omega)).toNat = 91 := by rw [← hg]; exact h0
    have k1 : (((s[0]'(by omega)).toNat : Int) == 91) = false := by simp; omega
    cases first
    · have e1 : leadP s false = itemP s dotS := by unfold leadP; rw [if_neg h0]; rfl
      have HC := Lib.hid (fun wx => item12_any s dotS hs (by decide) wx)
      rw [e1]
      obtain ⟨X, hX⟩ : ∃ X, itemP s dotS = X := ⟨_, rfl⟩
      rw [hX] at HC ⊢
      obtain ⟨⟨b, n, nm⟩, m⟩ := X
      clear hX
      unfold pieceV at HC ⊢
      unfold dotS at HC
      clear e1 hg h0 k0
      go_enter Tryz.func177, Tryz.ntmps177
      go_wp2_with (first
        | (go_at_call 204; refine (HC.out _).mono ?_; rintro e w1 ⟨rfl, hb⟩; have HB1 := Lib.hid (hb0.trans (hb.mono (by simp))); have HQ1 := Lib.hid (heap_keep hq0 hb); clear hb)
        | (refine wpList_store_rowTo rfl 188 _ _ rfl rfl w.heap.size #[.bool b, .int .i64 n, .string nm] rfl rfl _ _ HQ1.out (by kernel_rfl) (by kernel_rfl) (by kernel_rfl) ?_))
      refine bodyPost_ret (v := .tuple #[.agg #[.bool b, .int .i64 n, .string nm], .int .i64 (m : Nat)]) ?_ rfl ⟨rfl, below_setRow HB1.out (Nat.le_refl _) _⟩
      have hl := run_loadVar_row (P := Tryz.prog) _ w.heap.size _ 188 _ _ _ (setRow_heap _ _ _ #[.bool b, .int .i64 n, .string nm] _ _ HQ1.out) Tryz.underlying188 rfl (by kernel_rfl)
      simp [results, Tryz.results177, asAddr, hl]
    · have e1 : leadP s true = itemP s ⟨#[]⟩ := by unfold leadP; rw [if_neg h0]; rfl
      have HC := Lib.hid (fun wx => item12_any s ⟨#[]⟩ hs (by decide) wx)
      rw [e1]
      obtain ⟨X, hX⟩ : ∃ X, itemP s ⟨#[]⟩ = X := ⟨_, rfl⟩
      rw [hX] at HC ⊢
      obtain ⟨⟨b, n, nm⟩, m⟩ := X
      clear hX
      unfold pieceV at HC ⊢
      clear e1 hg h0 k0
      go_enter Tryz.func177, Tryz.ntmps177
      go_wp2_with (first
        | (go_at_call 204; refine (HC.out _).mono ?_; rintro e w1 ⟨rfl, hb⟩; have HB1 := Lib.hid (hb0.trans (hb.mono (by simp))); have HQ1 := Lib.hid (heap_keep hq0 hb); clear hb)
        | (refine wpList_store_rowTo rfl 188 _ _ rfl rfl w.heap.size #[.bool b, .int .i64 n, .string nm] rfl rfl _ _ HQ1.out (by kernel_rfl) (by kernel_rfl) (by kernel_rfl) ?_))
      refine bodyPost_ret (v := .tuple #[.agg #[.bool b, .int .i64 n, .string nm], .int .i64 (m : Nat)]) ?_ rfl ⟨rfl, below_setRow HB1.out (Nat.le_refl _) _⟩
      have hl := run_loadVar_row (P := Tryz.prog) _ w.heap.size _ 188 _ _ _ (setRow_heap _ _ _ #[.bool b, .int .i64 n, .string nm] _ _ HQ1.out) Tryz.underlying188 rfl (by kernel_rfl)
      simp [results, Tryz.results177, asAddr, hl]
end Go.Proofs.YtcojomkpogikiaaGreatDoor.Pa
/- The steps of a text, passed on one by one: whatever is done with each. -/
namespace Go.Proofs.YtcojomkpogikiaaGreatDoor.Pa
open Go Go.RowKit Go.Shelf
attribute [local go_sem] Oper.semAt_some
def piecesF (s : ByteArray) : Nat → Nat → List (PieceV × Bool)
  | 0, _ => []
  | f + 1, a => if a < s.size then ((leadP (s.extract a s.size) (a == 0)).1, decide (0 < (leadP (s.extract a s.size) (a == 0)).2)) ::
      (if (leadP (s.extract a s.size) (a == 0)).2 = 0 then [] else piecesF s f (a + (leadP (s.extract a s.size) (a == 0)).2)) else []
theorem piecesF_more (s : ByteArray) : ∀ (f g a : Nat), s.size - a ≤ f → s.size - a ≤ g → piecesF s f a = piecesF s g a
  | 0, g, a, h, _ => by
    cases g with
    | zero => rfl
    | succ g => simp only [piecesF]; rw [if_neg (by omega)]
  | f + 1, 0, a, _, h => by simp only [piecesF]; rw [if_neg (by omega)]
  | f + 1, g + 1, a, h, h' => by
    simp only [piecesF]
    split
    · split
      · rfl
      · rename_i hn
        rw [piecesF_more s f g _ (by omega) (by omega)]
    · rfl
/-- the steps of a text from a place on -/
def piecesS (s : ByteArray) (a : Nat) : List (PieceV × Bool) := piecesF s (s.size - a) a
theorem piecesS_end {s : ByteArray} {a : Nat} (h : ¬ a < s.size) : piecesS s a = [] := by
  unfold piecesS
  rw [show s.size - a = 0 by omega]
  rfl
theorem piecesS_last {s : ByteArray} {a : Nat} {x : PieceV} (h : a < s.size) (hl : leadP (s.extract a s.size) (a == 0) = (x, 0)) : piecesS s a = [(x, false)] := by
  unfold piecesS
  obtain ⟨f, hf⟩ : ∃ f, s.size - a = f + 1 := ⟨s.size - a - 1, by omega⟩
  rw [hf]
  simp only [piecesF, hl]
  rw [if_pos h]
  rfl
theorem piecesS_next {s : ByteArray} {a n : Nat} {x : PieceV} (h : a < s.size) (hl : leadP (s.extract a s.size) (a == 0) = (x, n)) (hn : n ≠ 0) : piecesS s a = (x, true) :: piecesS s (a + n) := by
  unfold piecesS
  obtain ⟨f, hf⟩ : ∃ f, s.size - a = f + 1 := ⟨s.size - a - 1, by omega⟩
  rw [hf]
  simp only [piecesF, hl]
  rw [if_pos h, if_neg hn, piecesF_more s f (s.size - (a + n)) (a + n) (by omega) (by omega)]
  simp; omega
theorem leadP_le (s : ByteArray) (first : Bool) : (leadP s first).2 ≤ s.size + 2 := by
  have he : (elemP s).2 ≤ s.size + 2 := by
    unfold elemP
    split
    · simp
    · split
      · simp [digS]; omega
      · simp
  have hi : ∀ d : ByteArray, d.size ≤ 1 → (itemP s d).2 ≤ s.size + 2 := fun d hd => by
    unfold itemP
    have h1 := leadN_le (itemR s d)
    have h2 := itemR_size s d
    split
    · simp; omega
    · simp
  unfold leadP
  split
  · exact he
  · split
    · exact hi _ (by decide)
    · exact hi _ (by decide)
theorem grown_below12 {w w' : World} (h : Below w.heap.size w w') : w.grownBy w' none := ⟨h.os, h.tape, h.output, h.size, fun k hk _ => h.block k hk⟩
theorem pieces12_any (s : ByteArray) (w : World) : Calls Tryz.prog 132 #[.string s] w fun e w' =>
    e = .returned (.func (.func 176) #[] #[.pointer (some ⟨w.heap.size, 0, none⟩)]) ∧ w' = w.alloc (.cells #[.string s] 9) := by
  have hmf' := hmf
  go_enter Tryz.func132, Tryz.ntmps132
  go_wp2
  go_ret
  exact ⟨rfl, rfl⟩
set_option maxRecDepth 100000 in
set_option maxHeartbeats 2000000 in
theorem pieces12_run (l m Bn : Nat) (s : ByteArray) (hs : s.size ≤ 1000000) (J Jx : List (PieceV × Bool) → World → Prop) (W : World) (hm : m ≤ W.heap.size) (hJ : AbidesFrom W.heap.size J)
    (hY : ∀ pre x W, J pre W → pre.length < s.size → YieldAt Fence.wide 1 Tryz.prog l #[pieceV x.1, .bool x.2] W fun e W' =>
      (e = .returned (.bool true) ∧ J (pre ++ [x]) W' ∧ KpM m Bn (Bn + 1) W W') ∨ (e = .returned (.bool false) ∧ Jx (pre ++ [x]) W'))
    (hBn : W.cell? ⟨Bn, 0, none⟩ = some (.string s)) (h0 : J [] W) :
    CallsIn Fence.wide 2 Tryz.prog 176 #[.func (.yield l) #[] #[], .pointer (some ⟨Bn, 0, none⟩)] W fun e W' => (∃ v, e = .returned v) ∧
      ((∃ xs, xs = piecesS s 0 ∧ J xs W') ∨ (∃ pre, (∃ r, piecesS s 0 = pre ++ r) ∧ Jx pre W')) := by
  refine callsIn_of_wp Tryz.func176 rfl trivial ?_ rfl
  simp only [Tryz.ntmps176, List.size_toArray, List.length_cons, List.length_nil, Nat.reduceAdd, Nat.reduceSub, Array.replicate_succ, Array.replicate_zero, List.push_toArray, List.append_toArray, List.nil_append, List.cons_append]
  gi_wp2
  gi_loopw [3] (fun p wr => ∃ (pre : List (PieceV × Bool)) (k : Nat), p = .int .i64 (k : Nat) ∧ k ≤ 2000010 ∧ pre.length ≤ k ∧ piecesS s 0 = pre ++ piecesS s k ∧ J pre wr ∧ KpM m Bn (Bn + 1) W wr)
    (fun p _ => s.size - (intOf p).toNat)
  case atStart => exact ⟨[], 0, rfl, by omega, by simp, rfl, h0, KpM.refl _ _ _ _⟩
  case round =>
    obtain ⟨pre, k, rfl, hk, hpl, hx, hJs, hbl⟩ := hrel
    have hc := (World.cell?_of_block (a := ⟨Bn, 0, none⟩) (hbl.mid Bn (Nat.le_refl _) (Nat.lt_succ_self _))).trans hBn
    have hBl := World.block_lt_of_cell? W _ hBn
    simp only at hBl
    by_cases hlt : k < s.size
    · have hd : decide ((k : Int) < s.size) = true := by simp; omega
      have hsl : ∀ wx, (Instr.slice 9 (.string s) (some (.int .i64 (k : Nat))) none none).run Tryz.prog wx = .ok (.string (s.extract k s.size)) wx := fun wx => run_slice_string_l wx 9 s Tryz.underlying9 .i64 (k : Nat) (by omega) (by omega)
      have hzr : (s.extract k s.size).size ≤ 1000000 := by simp; omega
      have hz1 : 1 ≤ (s.extract k s.size).size := by simp; omega
      have hq : ((k : Int) == 0) = (k == 0) := by rw [Bool.eq_iff_iff]; simp
      have HC := Lib.hid (fun wx => leading12_any (s.extract k s.size) (k == 0) hzr hz1 wx)
      have hle := leadP_le (s.extract k s.size) (k == 0)
      obtain ⟨X, hX⟩ : ∃ X, leadP (s.extract k s.size) (k == 0) = X := ⟨_, rfl⟩
      rw [hX] at HC hle
      obtain ⟨⟨b, nn, nm⟩, m⟩ := X
      unfold pieceV at HC
      have HY := Lib.hid hY
      have HJA := Lib.hid hJ
      have e1 : m = 0 → piecesS s k = [(⟨b, nn, nm⟩, false)] := fun h => piecesS_last hlt (by rw [hX, h])
      have e2 : m ≠ 0 → piecesS s k = (⟨b, nn, nm⟩, true) :: piecesS s (k + m) := fun h => piecesS_next hlt hX h
      have HE3 := Lib.hid (show ∃ r, piecesS s k = (⟨b, nn, nm⟩, decide (0 < m)) :: r by
        by_cases h : m = 0
        · exact ⟨[], by rw [e1 h]; simp [h]⟩
        · exact ⟨_, by rw [e2 h, show decide (0 < m) = true by simp; omega]⟩)
      have HE1 := Lib.hid e1
      have HE2 := Lib.hid e2
      clear e1 e2 hX hY hJ
      gi_wp2_with (refine ⟨trivial, ?_⟩; gi_at_call 177; refine (inWide (HC.out _)).mono ?_; rintro e w1 ⟨rfl, hb⟩; have hb2 := hb.alloc hb.size (.cells #[.bool b, .int .i64 nn, .string nm] 188); obtain ⟨fn, tmps, assign, body, hy, hR⟩ := HY.out pre (⟨b, nn, nm⟩, decide (0 < m)) (w1.alloc (.cells #[.bool b, .int .i64 nn, .string nm] 188)) (HJA.out pre wr _ none hJs (grown_below12 hb2) (fun r h => by cases h)) (by omega); simp only [pieceV] at hy)
      refine hR.mono ?_
      rintro e W3 (⟨rfl, hJ3, hk3⟩ | ⟨rfl, hJx3⟩)
      · by_cases h0 : m = 0
        · have k0 : ((m : Int) == 0) = true := by simp; omega
          gi_wp2
          refine bodyPost_ret (results_none rfl _ _ _) rfl ?_
          have eb : decide (0 < m) = false := by simp [h0]
          rw [eb] at hJ3
          exact ⟨⟨_, rfl⟩, .inl ⟨_, rfl, by rw [hx, HE1.out h0]; exact hJ3⟩⟩
        · have k0 : ((m : Int) == 0) = false := by simp; omega
          have hwr : IntKind.i64.wrap ((k : Int) + m) = ((k + m : Nat) : Int) := by rw [IntWalk.i64_in _ (by omega)]; omega
          gi_wp2
          go_roundw
          case rel =>
            have h9 : m ≤ (s.extract k s.size).size + 2 := hle
            have h8 : decide (0 < m) = true := by simp; omega
            rw [h8] at hJ3
            exact ⟨pre ++ [(⟨b, nn, nm⟩, true)], k + m, rfl, by omega, by simp; omega, by rw [hx, HE2.out h0]; simp, hJ3, hbl.trans ((KpM.of_below hb2 (Nat.le_trans hm hbl.below.size) (Nat.le_trans hBl hbl.below.size)).trans hk3)⟩
          case measure => simp [intOf]; omega
      · gi_wp2
        refine bodyPost_ret (results_none rfl _ _ _) rfl ?_
        obtain ⟨r, hr⟩ := HE3.out
        exact ⟨⟨_, rfl⟩, .inr ⟨_, ⟨r, by rw [hx, hr]; simp⟩, hJx3⟩⟩
    · have hd : decide ((k : Int) < s.size) = false := by simp; omega
      gi_wp2
      go_end0
      exact ⟨⟨_, rfl⟩, .inl ⟨_, rfl, by rw [hx, piecesS_end hlt, List.append_nil]; exact hJs⟩⟩
theorem pieces12_stops (m Bn : Nat) (s : ByteArray) (hs : s.size ≤ 1000000) (w : World) (hm : m ≤ w.heap.size) (hBn : w.cell? ⟨Bn, 0, none⟩ = some (.string s)) :
    SeqStopsK Fence.wide 2 Tryz.prog 176 #[.pointer (some ⟨Bn, 0, none⟩)] (fun x : PieceV × Bool => #[pieceV x.1, .bool x.2]) (KpM m Bn (Bn + 1)) (fun xs => xs = piecesS s 0) (fun pre => ∃ r, piecesS s 0 = pre ++ r) s.size w :=
  fun l J Jx W hW hJ _ hY h0 => pieces12_run l m Bn s hs J Jx W (Nat.le_trans hm hW.size) hJ hY ((hW.cell (p := ⟨Bn, 0, none⟩) (World.block_lt_of_cell? w _ hBn)).trans hBn) h0
theorem empty_size (s : ByteArray) : s.toList.isEmpty = (s.size == 0) := by
  rw [ByteArray.toList_eq, Bool.eq_iff_iff, List.isEmpty_iff_length_eq_zero]
  simp
set_option maxRecDepth 100000 in
set_option maxHeartbeats 2000000 in
theorem hasForm12_any (s : ByteArray) (hs : s.size ≤ 1000000) (w : World) : Calls Tryz.prog 131 #[.string s] w fun e w' =>
    e = .returned (.bool ((piecesS s 0).all (·.2) && !(s.size == 0))) ∧ Below w.heap.size w w' := by
  have hpc := fun wx => pieces12_any s wx
  refine calls_of_marks Tryz.func131 rfl ?_
  simp only [Tryz.ntmps131, List.size_toArray, List.length_cons, List.length_nil, Nat.reduceAdd, Nat.reduceSub, Array.replicate_succ, Array.replicate_zero, List.push_toArray, List.append_toArray, List.nil_append, List.cons_append]
  go_wp2_with (go_at_call 132; refine (hpc _).mono ?_; rintro e w1 ⟨rfl, rfl⟩)
  have hb0 : Below w.heap.size w ((w.alloc (.cells #[.bool false] 4)).alloc (.cells #[.string s] 9)) := ((Below.refl _ w).alloc (Nat.le_refl _) _).alloc (by simp) _
  have hr0 : Boxed ((w.alloc (.cells #[.bool false] 4)).alloc (.cells #[.string s] 9)) w.heap.size 4 (.bool false) := (Boxed.new w _ _).alloc _
  have hc0 : ((w.alloc (.cells #[.bool false] 4)).alloc (.cells #[.string s] 9)).cell? ⟨w.heap.size + 1, 0, none⟩ = some (.string s) := by
    have := (Boxed.new (w.alloc (.cells #[.bool false] 4)) 9 (.string s)).cell
    rwa [World.size_alloc] at this
  have hz0 : ((w.alloc (.cells #[.bool false] 4)).alloc (.cells #[.string s] 9)).heap.size = w.heap.size + 2 := by simp
  obtain ⟨W0, hW0⟩ : ∃ W0, (w.alloc (.cells #[.bool false] 4)).alloc (.cells #[.string s] 9) = W0 := ⟨_, rfl⟩
  rw [hW0] at hb0 hr0 hc0 hz0 ⊢
  clear hW0
  refine wp_range (gf := 176) (lb := #[.pointer (some ⟨w.heap.size + 1, 0, none⟩)]) (w0 := W0) rfl (enters_of Tryz.func176 (by kernel_rfl) rfl)
    (pieces12_stops w.heap.size (w.heap.size + 1) s hs W0 (by omega) hc0) (fun h k => h.trans k) (KpM.putObj (by omega) (by omega)) (Below.refl _ _) (fun _ => rfl)
    (fun pre W => Boxed W w.heap.size 4 (.bool false) ∧ Below w.heap.size w W ∧ pre.all (·.2) = true)
    (fun pre W => Boxed W w.heap.size 4 (.bool false) ∧ Below w.heap.size w W ∧ pre.all (·.2) = false)
    (fun pre X Y h hst => ⟨hst.same _ _ h.1 (.inl rfl), hst.below h.2.1 (Nat.le_refl _) (by omega), h.2.2⟩)
    (fun pre X Y h hst => ⟨hst.same _ _ h.1 (.inl rfl), hst.below h.2.1 (Nat.le_refl _) (by omega), h.2.2⟩)
    ⟨hr0, hb0, rfl⟩ ?round ?done ?stop
  case round =>
    rintro l ⟨x, ok⟩ W K ⟨pre, hv, hB, ha⟩ hK
    gi_wp2
    refine hK _ _ (KeepsFrom.refl _ _) (KpM.refl _ _ _ _) (Stays.refl _ _) ?_
    rintro l2 pre2 W2 hst ⟨hv2, hB2, ha2⟩ hl
    have hc2 := hv2.cell
    have hf2 := hv2.frozen
    cases ok
    · gi_wp2
      exact ⟨(KeepsOthers.setCell _ _ _).from _, rfl, hv2.set _, hB2.setCell (p := ⟨w.heap.size, 0, none⟩) (Nat.le_refl _) _, by simp⟩
    · gi_wp2
      exact ⟨KeepsFrom.refl _ _, KpM.refl _ _ _ _, hv2, hB2, by simpa using ha2⟩
  case done =>
    rintro D xs W hD rfl ⟨hv, hB, ha⟩ hdk
    have hc2 := hv.cell
    have hf2 := hv.frozen
    go_wp2
    refine leavesM_mark (D := D) (setC_def hdk (by omega)) ⟨_, ?_, rfl, ?_⟩
    · have h1 := putD_cell (setC_def (b := w.heap.size) (v := .bool (!s.toList.isEmpty)) hdk (by omega)) (hv.set (.bool (!s.toList.isEmpty))).cell
      have e : ((piecesS s 0).all (·.2) && !(s.size == 0)) = !s.toList.isEmpty := by
        rw [ha, empty_size]; rfl
      rw [e]
      simp [results, Tryz.results131, asAddr, go_sem, h1]
    · exact putD_below (setC_def hdk (by omega)) (hB.setCell (p := ⟨w.heap.size, 0, none⟩) (Nat.le_refl _) _) (by omega)
  case stop =>
    rintro D pre W hD ⟨r, hr⟩ ⟨hv, hB, ha⟩ hdk
    refine leavesM_mark (D := D) hdk ⟨_, ?_, rfl, ?_⟩
    · have h1 := putD_cell hdk hv.cell
      rw [hr, List.all_append, ha]
      simp [results, Tryz.results131, asAddr, go_sem, h1]
    · exact putD_below hdk hB (by omega)
end Go.Proofs.YtcojomkpogikiaaGreatDoor.Pa
/- The steps of a path and the types along it: what kinds have them, where one leads. -/
namespace Go.Proofs.YtcojomkpogikiaaGreatDoor.Pa
open Go Go.RowKit
structure StepV where
  elem : Bool
  n : Int
instance : Inhabited StepV := ⟨⟨false, 0⟩⟩
def stepVal (s : StepV) : Value := .agg #[.bool s.elem, .int .i64 s.n]
def elK (k : Int) : Bool := k == 11 || k == 12
def itK (k : Int) : Bool := k == 13 || k == 14
/-- has a type that step, and where does it lead -/
def nextB (T : TypeV) (s : StepV) : Bool := decide (0 ≤ s.n) && (if s.elem then elK T.kind && decide (s.n < T.bound) else itK T.kind && decide (s.n < T.ilen))
def nextZ (T : TypeV) (s : StepV) : Int := if nextB T s then (if s.elem then T.of else (T.items s.n.toNat).type) else 0
theorem hasEl12_any (T : TypeV) (w : World) : Calls Tryz.prog 178 #[typV T] w fun e w' => e = .returned (.bool (elK T.kind)) ∧ Below w.heap.size w w' := by
  unfold typV
  have hb0 := (Below.refl w.heap.size w).alloc (Nat.le_refl _) (.cells #[.int .i64 T.kind, .string T.name, .int .i64 T.bound, .int .i64 T.of, .int .i64 T.tag, .slice T.ia T.ilen T.icap] 52)
  obtain ⟨q1, h1⟩ : ∃ q, (T.kind == 11) = q := ⟨_, rfl⟩
  obtain ⟨q2, h2⟩ : ∃ q, (T.kind == 12) = q := ⟨_, rfl⟩
  rw [show elK T.kind = (q1 || q2) by unfold elK; rw [h1, h2]]
  cases q1
  · go_enter Tryz.func178, Tryz.ntmps178
    go_wp2
    go_ret
    exact ⟨by simp, hb0⟩
  · go_enter Tryz.func178, Tryz.ntmps178
    go_wp2
    go_ret
    exact ⟨rfl, hb0⟩
theorem hasIt12_any (T : TypeV) (w : World) : Calls Tryz.prog 179 #[typV T] w fun e w' => e = .returned (.bool (itK T.kind)) ∧ Below w.heap.size w w' := by
  unfold typV
  have hb0 := (Below.refl w.heap.size w).alloc (Nat.le_refl _) (.cells #[.int .i64 T.kind, .string T.name, .int .i64 T.bound, .int .i64 T.of, .int .i64 T.tag, .slice T.ia T.ilen T.icap] 52)
  obtain ⟨q1, h1⟩ : ∃ q, (T.kind == 13) = q := ⟨_, rfl⟩
  obtain ⟨q2, h2⟩ : ∃ q, (T.kind == 14) = q := ⟨_, rfl⟩
  rw [show itK T.kind = (q1 || q2) by unfold itK; rw [h1, h2]]
  cases q1
  · go_enter Tryz.func179, Tryz.ntmps179
    go_wp2
    go_ret
    exact ⟨by simp, hb0⟩
  · go_enter Tryz.func179, Tryz.ntmps179
    go_wp2
    go_ret
    exact ⟨rfl, hb0⟩
set_option maxRecDepth 100000 in
set_option maxHeartbeats 1000000 in
theorem next12_any (T : TypeV) (s : StepV) (w : World) (HT : ItemsAt w T) : Calls Tryz.prog 134 #[typV T, stepVal s] w fun e w' => e = .returned (.tuple #[.int .i64 (nextZ T s), .bool (nextB T s)]) ∧ Below w.heap.size w w' := by
  have hE := Lib.hid (fun wx => hasEl12_any T wx)
  have hI := Lib.hid (fun wx => hasIt12_any T wx)
  have hn : nextB T s = (decide (0 ≤ s.n) && (if s.elem then elK T.kind && decide (s.n < T.bound) else itK T.kind && decide (s.n < T.ilen))) := rfl
  have hz : nextZ T s = if nextB T s then (if s.elem then T.of else (T.items s.n.toNat).type) else 0 := rfl
  obtain ⟨q1, h1⟩ : ∃ q, elK T.kind = q := ⟨_, rfl⟩
  obtain ⟨q2, h2⟩ : ∃ q, itK T.kind = q := ⟨_, rfl⟩
  obtain ⟨q3, h3⟩ : ∃ q, decide (s.n < T.bound) = q := ⟨_, rfl⟩
  obtain ⟨q4, h4⟩ : ∃ q, decide (s.n < (T.ilen : Int)) = q := ⟨_, rfl⟩
  obtain ⟨el, hel⟩ : ∃ q, s.elem = q := ⟨_, rfl⟩
  rw [h1, h2, h3, h4, hel] at hn
  rw [h1] at hE
  rw [h2] at hI
  rw [hel] at hz
  unfold typV at hE hI ⊢
  unfold stepVal
  rw [hel]
  have HB0 := Lib.hid (((Below.refl w.heap.size w).alloc (Nat.le_refl _) (.cells #[.int .i64 T.kind, .string T.name, .int .i64 T.bound, .int .i64 T.of, .int .i64 T.tag, .slice T.ia T.ilen T.icap] 52)).alloc (by simp) (.cells #[.bool el, .int .i64 s.n] 156))
  have HR0 := Lib.hid (heap_keep (alloc_at w (.cells #[.int .i64 T.kind, .string T.name, .int .i64 T.bound, .int .i64 T.of, .int .i64 T.tag, .slice T.ia T.ilen T.icap] 52)) ((Below.refl _ _).alloc (Nat.le_refl _) (.cells #[.bool el, .int .i64 s.n] 156)))
  have HR1 := Lib.hid (alloc_at (w.alloc (.cells #[.int .i64 T.kind, .string T.name, .int .i64 T.bound, .int .i64 T.of, .int .i64 T.tag, .slice T.ia T.ilen T.icap] 52)) (.cells #[.bool el, .int .i64 s.n] 156))
  rw [World.size_alloc] at HR1
  have hz0 : ((w.alloc (.cells #[.int .i64 T.kind, .string T.name, .int .i64 T.bound, .int .i64 T.of, .int .i64 T.tag, .slice T.ia T.ilen T.icap] 52)).alloc (.cells #[.bool el, .int .i64 s.n] 156)).heap.size = w.heap.size + 2 := by simp
  by_cases hs : s.n < 0
  · have k0 : decide (s.n < 0) = true := by simp [hs]
    have e1 : nextB T s = false := by rw [hn, decide_eq_false (by omega)]; rfl
    rw [hz, e1]
    clear hn hz e1 hE hI
    go_enter Tryz.func134, Tryz.ntmps134
    go_wp2
    go_ret2
    exact ⟨rfl, HB0.out⟩
  · have k0 : decide (s.n < 0) = false := by simp; omega
    rw [decide_eq_true (by omega : 0 ≤ s.n)] at hn
    cases el
    · cases q2
      · have e1 : nextB T s = false := hn
        rw [hz, e1]
        clear hn hz e1
        go_enter Tryz.func134, Tryz.ntmps134
        go_wp2_with (go_at_call 179; refine (hI.out _).mono ?_; rintro e w1 ⟨rfl, hb⟩; have r0 := heap_keep HR0.out hb; have r1 := heap_keep HR1.out hb; have c2 := cell_at (j := 2) r0 rfl; have c3 := cell_at (j := 3) r0 rfl; have c5 := cell_at (j := 5) r0 rfl; have s1 := cell_at (j := 1) r1 rfl; clear r0 r1)
        go_ret2
        exact ⟨rfl, HB0.out.trans (hb.mono (by omega))⟩
      · cases q4
        · have e1 : nextB T s = false := hn
          rw [hz, e1]
          clear hn hz e1
          go_enter Tryz.func134, Tryz.ntmps134
          go_wp2_with (go_at_call 179; refine (hI.out _).mono ?_; rintro e w1 ⟨rfl, hb⟩; have r0 := heap_keep HR0.out hb; have r1 := heap_keep HR1.out hb; have c2 := cell_at (j := 2) r0 rfl; have c3 := cell_at (j := 3) r0 rfl; have c5 := cell_at (j := 5) r0 rfl; have s1 := cell_at (j := 1) r1 rfl; clear r0 r1)
          go_ret2
          exact ⟨rfl, HB0.out.trans (hb.mono (by omega))⟩
        · have e1 : nextB T s = true := hn
          rw [hz, e1]
          obtain ⟨j, hj⟩ := Int.eq_ofNat_of_zero_le (by omega : 0 ≤ s.n)
          have hjl : j < T.ilen := by have := of_decide_eq_true h4; omega
          obtain ⟨b, off, hia, x0, x1, x2, x3, x4, wi⟩ := HT.2 j hjl
          have HJ := Lib.hid hj
          rw [hj] at HB0 HR0 HR1 hz0 h4 k0 ⊢
          rw [hia] at HB0 HR0 HR1 hz0 hI ⊢
          have HX := Lib.hid (keep6 HB0.out x2)
          rw [show ((j : Nat) : Int).toNat = j by omega]
          clear hn hz e1 x0 x1 x2 x3 x4 hj hia h3 hE HT hs
          go_enter Tryz.func134, Tryz.ntmps134
          go_wp2_with (go_at_call 179; refine (hI.out _).mono ?_; rintro e w1 ⟨rfl, hb⟩; have r0 := heap_keep HR0.out hb; have r1 := heap_keep HR1.out hb; have c2 := cell_at (j := 2) r0 rfl; have c3 := cell_at (j := 3) r0 rfl; have c5 := cell_at (j := 5) r0 rfl; have s0 := cell_at (j := 0) r1 rfl; have s1 := cell_at (j := 1) r1 rfl; clear r0 r1; have cx := keep6 hb HX.out)
          go_ret2
          exact ⟨rfl, HB0.out.trans (hb.mono (by omega))⟩
    · cases q1
      · have e1 : nextB T s = false := hn
        rw [hz, e1]
        clear hn hz e1
        go_enter Tryz.func134, Tryz.ntmps134
        go_wp2_with (go_at_call 178; refine (hE.out _).mono ?_; rintro e w1 ⟨rfl, hb⟩; have r0 := heap_keep HR0.out hb; have r1 := heap_keep HR1.out hb; have c2 := cell_at (j := 2) r0 rfl; have c3 := cell_at (j := 3) r0 rfl; have c5 := cell_at (j := 5) r0 rfl; have s0 := cell_at (j := 0) r1 rfl; have s1 := cell_at (j := 1) r1 rfl; clear r0 r1)
        go_ret2
        exact ⟨rfl, HB0.out.trans (hb.mono (by omega))⟩
      · cases q3
        · have e1 : nextB T s = false := hn
          rw [hz, e1]
          clear hn hz e1
          go_enter Tryz.func134, Tryz.ntmps134
          go_wp2_with (go_at_call 178; refine (hE.out _).mono ?_; rintro e w1 ⟨rfl, hb⟩; have r0 := heap_keep HR0.out hb; have r1 := heap_keep HR1.out hb; have c2 := cell_at (j := 2) r0 rfl; have c3 := cell_at (j := 3) r0 rfl; have c5 := cell_at (j := 5) r0 rfl; have s0 := cell_at (j := 0) r1 rfl; have s1 := cell_at (j := 1) r1 rfl; clear r0 r1)
          go_ret2
          exact ⟨rfl, HB0.out.trans (hb.mono (by omega))⟩
        · have e1 : nextB T s = true := hn
          rw [hz, e1]
          clear hn hz e1
          go_enter Tryz.func134, Tryz.ntmps134
          go_wp2_with (go_at_call 178; refine (hE.out _).mono ?_; rintro e w1 ⟨rfl, hb⟩; have r0 := heap_keep HR0.out hb; have r1 := heap_keep HR1.out hb; have c2 := cell_at (j := 2) r0 rfl; have c3 := cell_at (j := 3) r0 rfl; have c5 := cell_at (j := 5) r0 rfl; have s0 := cell_at (j := 0) r1 rfl; have s1 := cell_at (j := 1) r1 rfl; clear r0 r1)
          go_ret2
          exact ⟨rfl, HB0.out.trans (hb.mono (by omega))⟩
end Go.Proofs.YtcojomkpogikiaaGreatDoor.Pa
/- The steps of a path, passed on one by one with the types that they are steps of. -/
namespace Go.Proofs.YtcojomkpogikiaaGreatDoor.Pa
open Go Go.RowKit Go.Shelf
set_option linter.unusedVariables false
attribute [local go_sem] Oper.semAt_some
theorem has12_any (ao : Option Addr) (len cap : Nat) (L : Nat → TypeV) (t : Int) (hlen : len ≤ 1000000) (hcap : len ≤ cap) (w : World) (H : ∀ i, i < len → TypeAt w ao i (L i)) :
    Calls Tryz.prog 130 #[.slice ao len cap, .int .i64 t] w fun e w' => e = .returned (.bool (hasT L len t)) ∧ Below w.heap.size w w' := by
  by_cases ht : 0 ≤ t ∧ t < len
  · obtain ⟨h0, h1⟩ := ht
    have hT : hasT L len t = ((fErr (oneR L len) len == 0) && (fAt (oneR L len) len == 0)) := by unfold hasT inL; rw [decide_eq_true h0, decide_eq_true h1]; rfl
    rw [hT]
    have hc := check6_any ao len cap L hlen hcap w H
    rw [fault_same] at hc
    unfold faultV at hc
    obtain ⟨E, hE⟩ : ∃ E, fErr (oneR L len) len = E := ⟨_, rfl⟩
    obtain ⟨A, hA⟩ : ∃ A, fAt (oneR L len) len = A := ⟨_, rfl⟩
    rw [hE, hA] at hc ⊢
    have hfe := fun w => fault_zero9 E A w
    obtain ⟨q, hq⟩ : ∃ q, ((E == 0) && (A == 0)) = q := ⟨_, rfl⟩
    rw [hq] at hfe ⊢
    have HC := Lib.hid hc
    clear hc hE hA hT hq H
    go_enter Tryz.func130, Tryz.ntmps130
    go_wp2_with (go_at_call 20; refine HC.out.mono ?_; rintro e w1 ⟨rfl, hb1⟩; have HB1 := Lib.hid hb1; clear hb1)
    go_ret
    exact ⟨rfl, HB1.out⟩
  · have hT : hasT L len t = false := by unfold hasT; rw [inL_no ht]; rfl
    rw [hT]
    clear hT H
    by_cases h0 : 0 ≤ t
    · have h1 : ¬ t < len := fun h => ht ⟨h0, h⟩
      clear ht
      go_enter Tryz.func130, Tryz.ntmps130
      go_wp2
      go_ret
      exact ⟨rfl, Below.refl _ _⟩
    · clear ht
      go_enter Tryz.func130, Tryz.ntmps130
      go_wp2
      go_ret
      exact ⟨rfl, Below.refl _ _⟩
def nextN (L : Nat → TypeV) (t : Nat) (s : StepV) : Nat := (nextZ (L t) s).toNat
theorem next_part {L : Nat → TypeV} {len t : Nat} {s : StepV} (hv : ∀ i, i < len → OkT L i) (ht : t < len) : 0 ≤ nextZ (L t) s ∧ nextN L t s < len := by
  unfold nextN nextZ
  have ok := hv t ht
  split
  · rename_i hb
    unfold nextB at hb
    split
    · rename_i he
      rw [if_pos he] at hb
      simp only [elK, Bool.and_eq_true, Bool.or_eq_true, beq_iff_eq] at hb
      have := ok.of hb.2.1
      omega
    · rename_i he
      rw [if_neg he] at hb
      simp only [itK, Bool.and_eq_true, Bool.or_eq_true, beq_iff_eq, decide_eq_true_eq] at hb
      have := ok.items hb.2.1 s.n.toNat (by omega)
      omega
  · omega
end Go.Proofs.YtcojomkpogikiaaGreatDoor.Pa
/- Where a path leads. -/
namespace Go.Proofs.YtcojomkpogikiaaGreatDoor.Pa
open Go Go.RowKit Go.Shelf
set_option linter.unusedVariables false
attribute [local go_sem] Oper.semAt_some
theorem row_set {W : World} {b b' j : Nat} {v : Value} {o : Obj} (h : W.heap[b]? = some o) (hne : b ≠ b') : (W.setCell ⟨b', j, none⟩ v).heap[b]? = some o := (Below.heap_setCell W ⟨b', j, none⟩ v b hne).trans h
end Go.Proofs.YtcojomkpogikiaaGreatDoor.Pa
/- A step of a text, at a type: which step of the type it means, or why it means none. -/
namespace Go.Proofs.YtcojomkpogikiaaGreatDoor.Pa
open Go Go.RowKit
set_option linter.unusedVariables false
def pstE (L : Nat → TypeV) (len t : Nat) (x : PieceV) : Int :=
  if x.elem then (if elK (L t).kind then (if (L t).bound ≤ x.n then 7 else 0) else 4)
  else (if itK (L t).kind then (if itemL L len (t : Nat) x.name < 0 then 5 else 0) else 4)
def pstS (L : Nat → TypeV) (len t : Nat) (x : PieceV) : StepV :=
  if pstE L len t x = 0 then (if x.elem then ⟨true, x.n⟩ else ⟨false, itemL L len (t : Nat) x.name⟩) else ⟨false, 0⟩
set_option maxRecDepth 100000 in
set_option maxHeartbeats 2000000 in
theorem stepOf12_any (ao : Option Addr) (len cap : Nat) (L : Nat → TypeV) (hlen : len ≤ 1000000) (t : Nat) (ht : t < len) (x : PieceV) (w : World) (H : ∀ i, i < len → TypeAt w ao i (L i)) :
    Calls Tryz.prog 133 #[.slice ao len cap, .int .i64 (t : Nat), pieceV x] w fun e w' => e = .returned (.tuple #[stepVal (pstS L len t x), .int .i64 (pstE L len t x)]) ∧ Below w.heap.size w w' := by
  have hE := Lib.hid (fun wx => hasEl12_any (L t) wx)
  have hI := Lib.hid (fun wx => hasIt12_any (L t) wx)
  have HIT := Lib.hid (fun wx (hb : Below w.heap.size w wx) => item6_any ao len cap L (t : Nat) x.name (by omega) wx (hold H hb))
  have es : pstE L len t x = if x.elem then (if elK (L t).kind then (if (L t).bound ≤ x.n then 7 else 0) else 4) else (if itK (L t).kind then (if itemL L len (t : Nat) x.name < 0 then 5 else 0) else 4) := rfl
  have ss : pstS L len t x = if pstE L len t x = 0 then (if x.elem then ⟨true, x.n⟩ else ⟨false, itemL L len (t : Nat) x.name⟩) else ⟨false, 0⟩ := rfl
  obtain ⟨b, off, hao, x0, x1, x2, x3, x4, x5, wf, hit⟩ := H t ht
  have hbl : b < w.heap.size := World.block_lt_of_cell? w _ x0
  have hne : ¬ b = w.heap.size := by omega
  have hne1 : ¬ b = w.heap.size + 1 := by omega
  clear H
  subst hao
  obtain ⟨q1, h1⟩ : ∃ q, elK (L t).kind = q := ⟨_, rfl⟩
  obtain ⟨q2, h2⟩ : ∃ q, itK (L t).kind = q := ⟨_, rfl⟩
  obtain ⟨z, hz⟩ : ∃ z, itemL L len (t : Nat) x.name = z := ⟨_, rfl⟩
  obtain ⟨el, nn, nm⟩ := x
  simp only at es ss hz HIT
  rw [hz] at es ss HIT
  rw [h1] at hE es
  rw [h2] at hI es
  unfold typV at hE hI
  have HB0 := Lib.hid (((Below.refl w.heap.size w).alloc (Nat.le_refl _) (.cells #[.bool el, .int .i64 nn, .string nm] 188)).alloc (by simp) (.cells #[.bool false, .int .i64 0] 156))
  have HR0 := Lib.hid (heap_keep (alloc_at w (.cells #[.bool el, .int .i64 nn, .string nm] 188)) ((Below.refl _ _).alloc (Nat.le_refl _) (.cells #[.bool false, .int .i64 0] 156)))
  have HR1 := Lib.hid (alloc_at (w.alloc (.cells #[.bool el, .int .i64 nn, .string nm] 188)) (.cells #[.bool false, .int .i64 0] 156))
  rw [World.size_alloc] at HR1
  have hz0 : ((w.alloc (.cells #[.bool el, .int .i64 nn, .string nm] 188)).alloc (.cells #[.bool false, .int .i64 0] 156)).heap.size = w.heap.size + 2 := by simp
  unfold pieceV stepVal
  clear h1 h2 hz
  cases el
  · rw [if_neg (by decide)] at es
    cases q2
    · have e1 : pstE L len t ⟨false, nn, nm⟩ = 4 := es
      rw [ss, e1]
      rw [if_neg (by decide)]
      clear es ss e1 hE HIT
      go_enter Tryz.func133, Tryz.ntmps133
      go_wp2_with (first
        | (go_at_call 179; refine (hI.out _).mono ?_; rintro e w1 ⟨rfl, hb⟩; have r0 := heap_keep HR0.out hb; have HQ1 := Lib.hid (heap_keep HR1.out hb); have HB1 := Lib.hid (HB0.out.trans (hb.mono (by omega))); have d0 := cell_at (j := 0) (v := .bool false) r0 rfl; have d1 := cell_at (j := 1) (v := .int .i64 nn) r0 rfl; have d2 := cell_at (j := 2) (v := .string nm) r0 rfl; have y2 := keep6 HB1.out x2; have hz1 := hb.size; clear r0)
        | (refine wpList_store_rowTo rfl 156 _ _ rfl rfl (w.heap.size + 1) #[.bool false, .int .i64 0] rfl rfl _ _ HQ1.out (by kernel_rfl) (by kernel_rfl) (by kernel_rfl) ?_))
      refine bodyPost_ret (v := .tuple #[.agg #[.bool false, .int .i64 0], .int .i64 4]) ?_ rfl ⟨rfl, below_setRow HB1.out (by omega) _⟩
      have hl := run_loadVar_row (P := Tryz.prog) _ (w.heap.size + 1) _ 156 _ _ _ (setRow_heap _ _ _ #[.bool false, .int .i64 0] _ _ HQ1.out) Tryz.underlying156 rfl (by kernel_rfl)
      simp [results, Tryz.results133, asAddr, hl]
    · by_cases hzz : z < 0
      · have e1 : pstE L len t ⟨false, nn, nm⟩ = 5 := by rw [es, if_pos rfl, if_pos hzz]
        rw [ss, e1]
        rw [if_neg (by decide)]
        rw [show foundV z = .tuple #[.int .i64 0, .bool false] from by unfold foundV posZ okZ; simp; omega] at HIT
        clear es ss e1 hE
        go_enter Tryz.func133, Tryz.ntmps133
        go_wp2_with (first
          | (go_at_call 179; refine (hI.out _).mono ?_; rintro e w1 ⟨rfl, hb⟩; have r0 := heap_keep HR0.out hb; have HQ1 := Lib.hid (heap_keep HR1.out hb); have HB1 := Lib.hid (HB0.out.trans (hb.mono (by omega))); have d0 := cell_at (j := 0) (v := .bool false) r0 rfl; have d1 := cell_at (j := 1) (v := .int .i64 nn) r0 rfl; have d2 := cell_at (j := 2) (v := .string nm) r0 rfl; have y2 := keep6 HB1.out x2; have hz1 := hb.size; clear r0)
          | (refine wpList_store_rowTo rfl 156 _ _ rfl rfl (w.heap.size + 1) #[.bool false, .int .i64 0] rfl rfl _ _ HQ2.out (by kernel_rfl) (by kernel_rfl) (by kernel_rfl) ?_))
        go_quiet (fail)
        go_wp2_with (first
          | (go_at_call 94; refine (HIT.out _ (drewN_below HB1.out _)).mono ?_; rintro e w2 ⟨rfl, hb2⟩; have HB2 := Lib.hid ((drewN_below HB1.out _).trans (hb2.mono (drewN_below HB1.out _).size)); have HQ2 := Lib.hid (heap_keep (heap_keep HQ1.out (drewN_below (Below.refl _ _) _)) hb2))
          | (refine wpList_store_rowTo rfl 156 _ _ rfl rfl (w.heap.size + 1) #[.bool false, .int .i64 0] rfl rfl _ _ HQ2.out (by kernel_rfl) (by kernel_rfl) (by kernel_rfl) ?_))
        refine bodyPost_ret (v := .tuple #[.agg #[.bool false, .int .i64 0], .int .i64 5]) ?_ rfl ⟨rfl, below_setRow HB2.out (by omega) _⟩
        have hl := run_loadVar_row (P := Tryz.prog) _ (w.heap.size + 1) _ 156 _ _ _ (setRow_heap _ _ _ #[.bool false, .int .i64 0] _ _ HQ2.out) Tryz.underlying156 rfl (by kernel_rfl)
        simp [results, Tryz.results133, asAddr, hl]
      · have e1 : pstE L len t ⟨false, nn, nm⟩ = 0 := by rw [es, if_pos rfl, if_neg hzz]
        rw [ss, e1]
        rw [if_pos rfl, if_neg (by decide)]
        rw [show foundV z = .tuple #[.int .i64 z, .bool true] from by unfold foundV posZ okZ; simp; omega] at HIT
        clear es ss e1 hE
        go_enter Tryz.func133, Tryz.ntmps133
        go_wp2_with (first
          | (go_at_call 179; refine (hI.out _).mono ?_; rintro e w1 ⟨rfl, hb⟩; have r0 := heap_keep HR0.out hb; have HQ1 := Lib.hid (heap_keep HR1.out hb); have HB1 := Lib.hid (HB0.out.trans (hb.mono (by omega))); have d0 := cell_at (j := 0) (v := .bool false) r0 rfl; have d1 := cell_at (j := 1) (v := .int .i64 nn) r0 rfl; have d2 := cell_at (j := 2) (v := .string nm) r0 rfl; have y2 := keep6 HB1.out x2; have hz1 := hb.size; clear r0)
          | (refine wpList_store_rowTo rfl 156 _ _ rfl rfl (w.heap.size + 1) #[.bool false, .int .i64 0] rfl rfl _ _ HQ2.out (by kernel_rfl) (by kernel_rfl) (by kernel_rfl) ?_))
        go_quiet (fail)
        go_wp2_with (first
          | (go_at_call 94; refine (HIT.out _ (drewN_below HB1.out _)).mono ?_; rintro e w2 ⟨rfl, hb2⟩; have HB2 := Lib.hid ((drewN_below HB1.out _).trans (hb2.mono (drewN_below HB1.out _).size)); have HQ2 := Lib.hid (heap_keep (heap_keep HQ1.out (drewN_below (Below.refl _ _) _)) hb2))
          | (refine wpList_store_rowTo rfl 156 _ _ rfl rfl (w.heap.size + 1) #[.bool false, .int .i64 z] rfl rfl _ _ HQ2.out (by kernel_rfl) (by kernel_rfl) (by kernel_rfl) ?_))
        refine bodyPost_ret (v := .tuple #[.agg #[.bool false, .int .i64 z], .int .i64 0]) ?_ rfl ⟨rfl, below_setRow HB2.out (by omega) _⟩
        have hl := run_loadVar_row (P := Tryz.prog) _ (w.heap.size + 1) _ 156 _ _ _ (setRow_heap _ _ _ #[.bool false, .int .i64 z] _ _ HQ2.out) Tryz.underlying156 rfl (by kernel_rfl)
        simp [results, Tryz.results133, asAddr, hl]
  · rw [if_pos rfl] at es
    cases q1
    · have e1 : pstE L len t ⟨true, nn, nm⟩ = 4 := es
      rw [ss, e1]
      rw [if_neg (by decide)]
      clear es ss e1 hI HIT
      go_enter Tryz.func133, Tryz.ntmps133
      go_wp2_with (first
        | (go_at_call 178; refine (hE.out _).mono ?_; rintro e w1 ⟨rfl, hb⟩; have r0 := heap_keep HR0.out hb; have HQ1 := Lib.hid (heap_keep HR1.out hb); have HB1 := Lib.hid (HB0.out.trans (hb.mono (by omega))); have d0 := cell_at (j := 0) (v := .bool true) r0 rfl; have d1 := cell_at (j := 1) (v := .int .i64 nn) r0 rfl; have d2 := cell_at (j := 2) (v := .string nm) r0 rfl; have y2 := keep6 HB1.out x2; have hz1 := hb.size; clear r0)
        | (refine wpList_store_rowTo rfl 156 _ _ rfl rfl (w.heap.size + 1) #[.bool false, .int .i64 0] rfl rfl _ _ HQ1.out (by kernel_rfl) (by kernel_rfl) (by kernel_rfl) ?_))
      refine bodyPost_ret (v := .tuple #[.agg #[.bool false, .int .i64 0], .int .i64 4]) ?_ rfl ⟨rfl, below_setRow HB1.out (by omega) _⟩
      have hl := run_loadVar_row (P := Tryz.prog) _ (w.heap.size + 1) _ 156 _ _ _ (setRow_heap _ _ _ #[.bool false, .int .i64 0] _ _ HQ1.out) Tryz.underlying156 rfl (by kernel_rfl)
      simp [results, Tryz.results133, asAddr, hl]
    · by_cases hzz : (L t).bound ≤ nn
      · have e1 : pstE L len t ⟨true, nn, nm⟩ = 7 := by rw [es, if_pos rfl, if_pos hzz]
        have k7 : decide ((L t).bound ≤ nn) = true := decide_eq_true hzz
        rw [ss, e1]
        rw [if_neg (by decide)]
        clear es ss e1 hI HIT
        go_enter Tryz.func133, Tryz.ntmps133
        go_wp2_with (first
          | (go_at_call 178; refine (hE.out _).mono ?_; rintro e w1 ⟨rfl, hb⟩; have r0 := heap_keep HR0.out hb; have HQ1 := Lib.hid (heap_keep HR1.out hb); have HB1 := Lib.hid (HB0.out.trans (hb.mono (by omega))); have d0 := cell_at (j := 0) (v := .bool true) r0 rfl; have d1 := cell_at (j := 1) (v := .int .i64 nn) r0 rfl; have d2 := cell_at (j := 2) (v := .string nm) r0 rfl; have y2 := keep6 HB1.out x2; have hz1 := hb.size; clear r0)
          | (refine wpList_store_rowTo rfl 156 _ _ rfl rfl (w.heap.size + 1) #[.bool false, .int .i64 0] rfl rfl _ _ HQ1.out (by kernel_rfl) (by kernel_rfl) (by kernel_rfl) ?_))
        go_quiet (fail)
        have HQ2 := Lib.hid (fun m => heap_keep HQ1.out (drewN_below (Below.refl _ _) m))
        have HB2 := Lib.hid (fun m => drewN_below HB1.out m)
        go_wp2_with ((refine wpList_store_rowTo rfl 156 _ _ rfl rfl (w.heap.size + 1) #[.bool false, .int .i64 0] rfl rfl _ _ (HQ2.out _) (by kernel_rfl) (by kernel_rfl) (by kernel_rfl) ?_))
        refine bodyPost_ret (v := .tuple #[.agg #[.bool false, .int .i64 0], .int .i64 7]) ?_ rfl ⟨rfl, below_setRow (HB2.out _) (by omega) _⟩
        have hl := fun m => run_loadVar_row (P := Tryz.prog) _ (w.heap.size + 1) _ 156 _ _ _ (setRow_heap _ _ _ #[.bool false, .int .i64 0] _ _ (HQ2.out m)) Tryz.underlying156 rfl (by kernel_rfl)
        simp [results, Tryz.results133, asAddr, hl]
      · have e1 : pstE L len t ⟨true, nn, nm⟩ = 0 := by rw [es, if_pos rfl, if_neg hzz]
        have k7 : decide ((L t).bound ≤ nn) = false := decide_eq_false hzz
        rw [ss, e1]
        rw [if_pos rfl, if_pos rfl]
        clear es ss e1 hI HIT
        go_enter Tryz.func133, Tryz.ntmps133
        go_wp2_with (first
          | (go_at_call 178; refine (hE.out _).mono ?_; rintro e w1 ⟨rfl, hb⟩; have r0 := heap_keep HR0.out hb; have HQ1 := Lib.hid (heap_keep HR1.out hb); have HB1 := Lib.hid (HB0.out.trans (hb.mono (by omega))); have d0 := cell_at (j := 0) (v := .bool true) r0 rfl; have d1 := cell_at (j := 1) (v := .int .i64 nn) r0 rfl; have d2 := cell_at (j := 2) (v := .string nm) r0 rfl; have y2 := keep6 HB1.out x2; have hz1 := hb.size; clear r0)
          | (refine wpList_store_rowTo rfl 156 _ _ rfl rfl (w.heap.size + 1) #[.bool false, .int .i64 0] rfl rfl _ _ HQ1.out (by kernel_rfl) (by kernel_rfl) (by kernel_rfl) ?_))
        go_quiet (fail)
        have HQ2 := Lib.hid (fun m => heap_keep HQ1.out (drewN_below (Below.refl _ _) m))
        have HB2 := Lib.hid (fun m => drewN_below HB1.out m)
        go_wp2_with ((refine wpList_store_rowTo rfl 156 _ _ rfl rfl (w.heap.size + 1) #[.bool true, .int .i64 nn] rfl rfl _ _ (HQ2.out _) (by kernel_rfl) (by kernel_rfl) (by kernel_rfl) ?_))
        refine bodyPost_ret (v := .tuple #[.agg #[.bool true, .int .i64 nn], .int .i64 0]) ?_ rfl ⟨rfl, below_setRow (HB2.out _) (by omega) _⟩
        have hl := fun m => run_loadVar_row (P := Tryz.prog) _ (w.heap.size + 1) _ 156 _ _ _ (setRow_heap _ _ _ #[.bool true, .int .i64 nn] _ _ (HQ2.out m)) Tryz.underlying156 rfl (by kernel_rfl)
        simp [results, Tryz.results133, asAddr, hl]
end Go.Proofs.YtcojomkpogikiaaGreatDoor.Pa
