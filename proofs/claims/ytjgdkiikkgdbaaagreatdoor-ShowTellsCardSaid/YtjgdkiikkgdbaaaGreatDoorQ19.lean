/- The printer's paths: a number, an element, an item, a path; operands. -/
import Derived.WalkSmall
import Derived.Test.YtjgdkiikkgdbaaaGreatDoorQ17
import Derived.Test.YtjgdkiikkgdbaaaGreatDoorQ18
namespace Go.Proofs.YtjgdkiikkgdbaaaGreatDoor
open Go.RowKit
set_option linter.unusedVariables false
set_option linter.unusedSimpArgs false
theorem tokens16 (l : List UInt8) (hl : l.length ≤ 1000000000) (w : World) (hV : LibAt w) : Calls Tryz.prog 26 #[.string (bs l)] w (AnsTo w (tokA l)) := by
  by_cases h : l.length ≤ 256
  · exact tokens_any l h w hV
  · have e : tokA l = .bad 3 0 := by unfold tokA; rw [if_pos (by omega)]
    rw [e]
    exact tokens_long (bs l) (by rw [bs_size]; omega) (by rw [bs_size]; omega) w
theorem TA_ne : ∀ (f : Nat) (l : List UInt8) (a : Nat) (out R : List Tk), TA f l a out = .good R → R ≠ []
  | 0, l, a, out, R, h => by cases h
  | f + 1, [], a, out, R, h => by
    have h : out ++ [⟨6, [], 0, a⟩] = R := by injection h
    rw [← h]; simp
  | f + 1, c :: r, a, out, R, h => by
    rw [TA_step] at h
    by_cases hc : blk c = true
    · rw [if_pos hc] at h; exact TA_ne f _ _ _ _ h
    · rw [if_neg hc] at h
      cases hg : fstG (c :: r) with
      | err e b => rw [hg] at h; cases h
      | tok k s n len =>
        rw [hg] at h
        have h : (if out.length = 64 then Ans.bad 3 a else TA f ((c :: r).drop len) (a + len) (out ++ [⟨k, s, n, a⟩])) = .good R := h
        by_cases h64 : out.length = 64
        · rw [if_pos h64] at h; cases h
        · rw [if_neg h64] at h; exact TA_ne f _ _ _ _ h
set_option maxRecDepth 100000 in
set_option maxHeartbeats 2000000 in
theorem isNumber_any (l : List UInt8) (hl : l.length ≤ 1000000000) (w : World) (hV : LibAt w) : Calls Tryz.prog 83 #[.string (bs l)] w fun e w' => e = .returned (.bool (isNumC l)) ∧ Below w.heap.size w w' := by
  have HT := Lib.hid (tokens16 l hl w hV)
  rw [← isNum_eq]
  cases hA : tokA l with
  | bad e a =>
    have he := tokA_bad hA
    have z : (((e : Nat) : Int) == 0) = false := beq_eq_false_iff_ne.2 (by omega)
    rw [hA] at HT
    show Calls _ _ _ _ fun x w' => x = .returned (.bool false) ∧ _
    clear hA he hV
    go_enter Tryz.func83, Tryz.ntmps83
    go_wp2_with (go_at_call 26; refine (HT.out).mono ?_; rintro x w1 ⟨rfl, hb⟩; have HB1 := Lib.hid hb; clear hb)
    go_ret
    exact ⟨rfl, HB1.out.alloc HB1.out.size _⟩
  | good L =>
    have hne : L ≠ [] := by
      unfold tokA at hA
      split at hA
      · cases hA
      · exact TA_ne _ _ _ _ _ hA
    rw [hA] at HT
    clear hA hV
    cases L with
    | nil => exact absurd rfl hne
    | cons t R =>
    show Calls _ _ _ _ fun x w' => x = .returned (.bool (t.k == 2 && t.t == l)) ∧ _
    have e1 : (((t.k : Nat) : Int) == 2) = (t.k == 2) := by rw [Bool.eq_iff_iff]; simp; omega
    have e2 : ((bs t.t).toList == (bs l).toList) = (t.t == l) := by rw [ByteArray.toList_eq, ByteArray.toList_eq]; simp [bs]
    obtain ⟨b1, h1⟩ : ∃ b, (t.k == 2) = b := ⟨_, rfl⟩
    obtain ⟨b2, h2⟩ : ∃ b, (t.t == l) = b := ⟨_, rfl⟩
    rw [h1] at e1 ⊢
    rw [h2] at e2 ⊢
    clear h1 h2 hne
    have hat : ∀ (w1 : World) (x : Ending), AnsTo w (.good (t :: R)) x w1 → ∃ b off cap, x = .returned (.tuple #[.slice (some ⟨b, off, none⟩) (R.length + 1) cap, .agg #[.int .i64 0, .int .i64 0]]) ∧ w1.cell? ⟨b, off, none⟩ = some (.int .i64 ((t.k : Nat) : Int)) ∧ w1.cell? ⟨b, off + 1, none⟩ = some (.string (bs t.t)) ∧ Below w.heap.size w w1 := by
      rintro w1 x ⟨⟨ao, cap, rfl, hh, _⟩, hb⟩
      obtain ⟨b, off, rfl, x0, x1, _⟩ := hh 0 (by simp)
      have x0 : w1.cell? ⟨b, off + 0 * 4, none⟩ = some (.int .i64 ((t.k : Nat) : Int)) := x0
      have x1 : w1.cell? ⟨b, off + 0 * 4 + 1, none⟩ = some (.string (bs t.t)) := x1
      exact ⟨b, off, cap, rfl, by simpa using x0, by simpa using x1, hb⟩
    have hml : R.length + 1 ≥ 1 := by omega
    have HAT := Lib.hid hat
    clear hat
    cases b1
    all_goals cases b2
    all_goals
      go_enter Tryz.func83, Tryz.ntmps83
      go_wp2_with (go_at_call 26; refine (HT.out).mono ?_; intro x w1 hx; obtain ⟨b, off, cap, rfl, x0, x1, hb⟩ := HAT.out w1 x hx; have q0 : b < w1.heap.size := World.block_lt_of_cell? w1 _ x0; have q1 : ¬ b = w1.heap.size := (by omega); have HB1 := Lib.hid hb; clear hb hx)
      go_ret
      exact ⟨rfl, HB1.out.alloc HB1.out.size _⟩
theorem lead16 (l : List UInt8) (hl : l.length ≤ 1000000000) (w : World) : Calls Tryz.prog 85 #[.string (bs l)] w fun e w' => e = .returned (.int .i64 (wl l : Nat)) ∧ Below w.heap.size w w' := by
  have h := lead_any (bs l) (by rw [bs_size]; omega) w
  rwa [leadN_eq, bs_toList] at h
theorem word16 (l : List UInt8) (hl : l.length ≤ 1000000000) (w : World) : Calls Tryz.prog 86 #[.string (bs l)] w fun e w' => e = .returned (.bool (wordsL.contains l)) ∧ Below w.heap.size w w' :=
  word_any (bs l) (by rw [bs_size]; omega) w
theorem pre16 (l d : List UInt8) (w : World) : Calls Tryz.prog 116 #[.string (bs l), .string (bs d)] w fun e w' => e = .returned (.bool (d.isPrefixOf l)) ∧ w' = w := by
  have h := Tryz.stringslite_HasPrefix (bs l) (bs d) w
  rwa [bs_toList, bs_toList] at h
theorem cutpre0 (l d : List UInt8) (hd : d.length ≤ 1) (hl : l.length ≤ 1000000000) (w : World) : Calls Tryz.prog 118 #[.string (bs l), .string (bs d)] w fun e w' => e = .returned (.tuple #[.string (bs (if d.isPrefixOf l = true then l.drop d.length else l)), .bool (d.isPrefixOf l)]) ∧ w' = w := by
  have HP := Lib.hid (pre16 l d)
  have hsz : (bs d).size = d.length := bs_size d
  have hsl := fun h wx => sl_from l d.length h wx
  cases hq : d.isPrefixOf l with
  | false =>
    rw [hq] at HP
    rw [if_neg (by decide)]
    clear hq hsl
    go_enter Tryz.func118, Tryz.ntmps118
    go_wp2_with (go_at_call 116; refine (HP.out _).mono ?_; rintro e w1 ⟨rfl, rfl⟩)
    go_ret2
    exact ⟨rfl, rfl⟩
  | true =>
    have hle : d.length ≤ l.length := (List.isPrefixOf_iff_prefix.1 hq).length_le
    rw [hq] at HP
    rw [if_pos rfl]
    have hsl2 := hsl hle
    obtain ⟨r, hr⟩ : ∃ r, bs (l.drop d.length) = r := ⟨_, rfl⟩
    rw [hr] at hsl2 ⊢
    clear hq hsl hr hle
    go_enter Tryz.func118, Tryz.ntmps118
    go_wp2_with (go_at_call 116; refine (HP.out _).mono ?_; rintro e w1 ⟨rfl, rfl⟩)
    go_ret2
    exact ⟨rfl, rfl⟩
theorem cutpre (l d : List UInt8) (hd : d.length ≤ 1) (hl : l.length ≤ 1000000000) (w : World) : Calls Tryz.prog 84 #[.string (bs l), .string (bs d)] w fun e w' => e = .returned (.tuple #[.string (bs (if d.isPrefixOf l = true then l.drop d.length else l)), .bool (d.isPrefixOf l)]) ∧ w' = w := by
  have HP := Lib.hid (cutpre0 l d hd hl)
  generalize bs (if d.isPrefixOf l = true then l.drop d.length else l) = r at *
  generalize d.isPrefixOf l = q at *
  go_enter Tryz.func84, Tryz.ntmps84
  go_wp2_with (go_at_call 118; refine (HP.out _).mono ?_; rintro e w1 ⟨rfl, rfl⟩)
  go_ret2
  exact ⟨rfl, rfl⟩
def itmK (d l : List UInt8) : Nat := if d.isPrefixOf l = true ∧ nameC (l.drop d.length) ≠ 0 then d.length + nameC (l.drop d.length) else 0
theorem itmK_no {d l : List UInt8} (h : d.isPrefixOf l = false) : itmK d l = 0 := by unfold itmK; rw [h, if_neg (by rintro ⟨h2, _⟩; cases h2)]
theorem itmK_yes {d l : List UInt8} (h : d.isPrefixOf l = true) : itmK d l = if nameC (l.drop d.length) = 0 then 0 else d.length + nameC (l.drop d.length) := by
  unfold itmK
  by_cases h2 : nameC (l.drop d.length) = 0
  · rw [if_pos h2, if_neg (fun x => x.2 h2)]
  · rw [if_neg h2, if_pos ⟨h, h2⟩]
theorem itmK_eq (b : Bool) (l : List UInt8) : itmK (if b = true then [] else [46]) l = itmC b l := by
  cases b with
  | true =>
    show itmK [] l = nameC l
    rw [itmK_yes (by cases l <;> rfl)]
    show (if nameC l = 0 then 0 else 0 + nameC l) = nameC l
    by_cases h : nameC l = 0
    · rw [if_pos h, h]
    · rw [if_neg h, Nat.zero_add]
  | false =>
    show itmK [46] l = if l.headD 0 = 46 then (if nameC l.tail = 0 then 0 else nameC l.tail + 1) else 0
    cases l with
    | nil => rw [itmK_no rfl]; rfl
    | cons c r =>
      by_cases h46 : c = 46
      · subst h46
        rw [itmK_yes (by simp [List.isPrefixOf])]
        show (if nameC r = 0 then 0 else 1 + nameC r) = if nameC r = 0 then 0 else nameC r + 1
        rw [Nat.add_comm]
      · rw [itmK_no (by simp [List.isPrefixOf]; exact fun e => h46 e.symm), if_neg (show ¬ ((c :: r).headD 0 = 46) from h46)]
set_option maxRecDepth 100000 in
set_option maxHeartbeats 2000000 in
theorem itemD_any (d l : List UInt8) (hd : d.length ≤ 1) (hl : l.length ≤ 1000000000) (w : World) : Calls Tryz.prog 59 #[.string (bs l), .string (bs d)] w fun e w' => e = .returned (.int .i64 (itmK d l : Nat)) ∧ Below w.heap.size w w' := by
  have HC := Lib.hid (cutpre l d hd hl)
  have hsz : (bs d).size = d.length := bs_size d
  unfold itmK
  cases hq : d.isPrefixOf l with
  | false =>
    rw [hq, if_neg (by decide)] at HC
    rw [if_neg (by rintro ⟨h, _⟩; cases h)]
    have HL := Lib.hid (fun wx => lead16 l hl wx)
    generalize wl l = n at *
    clear hq
    go_enter Tryz.func59, Tryz.ntmps59
    go_wp2_with (first
      | (go_at_call 84; refine (HC.out _).mono ?_; rintro e w1 ⟨rfl, rfl⟩)
      | (go_at_call 85; refine (HL.out _).mono ?_; rintro e w1 ⟨rfl, hb⟩; have HB1 := Lib.hid hb; clear hb))
    go_ret
    exact ⟨rfl, HB1.out⟩
  | true =>
    rw [hq, if_pos rfl] at HC
    obtain ⟨r, hr⟩ : ∃ r, l.drop d.length = r := ⟨_, rfl⟩
    have hrl : r.length ≤ 1000000000 := by rw [← hr, List.length_drop]; omega
    rw [hr] at HC ⊢
    clear hr hq
    have HL := Lib.hid (fun wx => lead16 r hrl wx)
    have hwl := wl_le r
    have hsl := fun wx => sl_to r (wl r) hwl wx
    have HW := Lib.hid (fun wx => word16 (r.take (wl r)) (by rw [List.length_take]; omega) wx)
    unfold nameC
    obtain ⟨m, hm⟩ : ∃ m, wordsL.contains (r.take (wl r)) = m := ⟨_, rfl⟩
    rw [hm] at HW
    rw [hm]
    clear hm
    generalize hx : bs (r.take (wl r)) = x at hsl HW
    generalize wl r = n at *
    clear hx
    by_cases h0 : n = 0
    · subst h0
      rw [if_neg (by rintro ⟨_, h⟩; exact h (by rw [if_pos (.inl rfl)]))]
      go_enter Tryz.func59, Tryz.ntmps59
      go_wp2_with (first
        | (go_at_call 84; refine (HC.out _).mono ?_; rintro e w1 ⟨rfl, rfl⟩)
        | (go_at_call 85; refine (HL.out _).mono ?_; rintro e w1 ⟨rfl, hb⟩; have HB1 := Lib.hid hb; clear hb))
      go_ret
      exact ⟨rfl, HB1.out⟩
    · have hn0 : ((n : Int) == 0) = false := by rw [beq_eq_false_iff_ne]; omega
      have hwr : IntKind.i64.wrap ((d.length : Int) + n) = ((d.length + n : Nat) : Int) := by rw [IntWalk.i64_in _ (by omega)]; omega
      cases m with
      | true =>
        rw [if_neg (by rintro ⟨_, h⟩; exact h (by rw [if_pos (.inr rfl)]))]
        clear h0
        go_enter Tryz.func59, Tryz.ntmps59
        go_wp2_with (first
          | (go_at_call 84; refine (HC.out _).mono ?_; rintro e w1 ⟨rfl, rfl⟩)
          | (go_at_call 85; refine (HL.out _).mono ?_; rintro e w1 ⟨rfl, hb⟩; have HB1 := Lib.hid hb; clear hb)
          | (go_at_call 86; refine (HW.out _).mono ?_; rintro e w2 ⟨rfl, hb⟩; have HB2 := Lib.hid (bthN HB1.out hb); clear hb))
        go_ret
        exact ⟨rfl, HB2.out⟩
      | false =>
        have hv : (if n = 0 ∨ false = true then 0 else n) = n := if_neg (by rintro (h | h); (exact h0 h); (cases h))
        rw [if_pos ⟨rfl, by rw [hv]; exact h0⟩, hv]
        clear hv
        clear h0
        go_enter Tryz.func59, Tryz.ntmps59
        go_wp2_with (first
          | (go_at_call 84; refine (HC.out _).mono ?_; rintro e w1 ⟨rfl, rfl⟩)
          | (go_at_call 85; refine (HL.out _).mono ?_; rintro e w1 ⟨rfl, hb⟩; have HB1 := Lib.hid hb; clear hb)
          | (go_at_call 86; refine (HW.out _).mono ?_; rintro e w2 ⟨rfl, hb⟩; have HB2 := Lib.hid (bthN HB1.out hb); clear hb))
        go_ret
        exact ⟨rfl, HB2.out⟩
theorem item16 (b : Bool) (l : List UInt8) (hl : l.length ≤ 1000000000) (w : World) : Calls Tryz.prog 59 #[.string (bs l), .string (bs (if b = true then [] else [46]))] w fun e w' => e = .returned (.int .i64 (itmC b l : Nat)) ∧ Below w.heap.size w w' := by
  rw [← itmK_eq]
  exact itemD_any _ l (by cases b <;> decide) hl w
theorem cut16 (l : List UInt8) (hl : l.length ≤ 1000000000) (w : World) (hV : LibAt w) : Calls Tryz.prog 82 #[.string (bs l), .string ⟨#[93]⟩] w fun e w' => e = .returned (.tuple #[.string (bs (Lib.cut l [93]).1), .string (bs (Lib.cut l [93]).2.1), .bool (Lib.cut l [93]).2.2]) ∧ Below w.heap.size w w' := by
  obtain ⟨m, hm⟩ := hV.mx
  refine (Tryz.strings_Cut (bs l) ⟨#[93]⟩ m w (by rw [bs_size]; omega) hm).mono ?_
  rintro e w' ⟨rfl, n, rfl⟩
  refine ⟨?_, below_drewN (Below.refl _ _) n⟩
  rw [bs_toList]; rfl
set_option maxRecDepth 100000 in
set_option maxHeartbeats 2000000 in
theorem elem16 (l : List UInt8) (hl : l.length ≤ 1000000000) (w : World) (hV : LibAt w) : Calls Tryz.prog 58 #[.string (bs l)] w fun e w' => e = .returned (.int .i64 (elmC l : Nat)) ∧ Below w.heap.size w w' := by
  have HP : Hid (∀ wx, Calls Tryz.prog 81 #[.string (bs l), .string ⟨#[91]⟩] wx fun e w' => e = .returned (.bool (([91] : List UInt8).isPrefixOf l)) ∧ w' = wx) := Lib.hid (fun wx => by
    have h := Tryz.strings_HasPrefix (bs l) (bs [91]) wx
    rw [bs_toList, bs_toList] at h
    exact h)
  cases l with
  | nil =>
    have e : elmC [] = 0 := rfl
    rw [e]
    rw [show ([91] : List UInt8).isPrefixOf [] = false from rfl] at HP
    go_enter Tryz.func58, Tryz.ntmps58
    go_wp2_with (go_at_call 81; refine (HP.out _).mono ?_; rintro e w1 ⟨rfl, rfl⟩)
    go_ret
    exact ⟨rfl, Below.refl _ _⟩
  | cons c r =>
    by_cases h91 : c = 91
    · subst h91
      rw [elem_eq]
      rw [show ([91] : List UInt8).isPrefixOf (91 :: r) = true by simp [List.isPrefixOf]] at HP
      have hrl : r.length ≤ 1000000000 := by rw [List.length_cons] at hl; omega
      have hsl : ∀ wx, (Instr.slice 9 (.string (bs (91 :: r))) (some (.int .i64 1)) none none).run Tryz.prog wx = .ok (.string (bs r)) wx := fun wx => sl_from (91 :: r) 1 (by simp) wx
      have HC := Lib.hid (cut16 r hrl w hV)
      rw [cut_one] at HC
      unfold elemK
      obtain ⟨d, hd⟩ : ∃ d, r.takeWhile (fun x => x != 93) = d := ⟨_, rfl⟩
      rw [hd] at HC ⊢
      have hdl : d.length ≤ 1000000000 := by rw [← hd]; have := (tw_spec (fun x => x != 93) r).2.2; omega
      have HN := Lib.hid (fun wx (h : Below w.heap.size w wx) => isNumber_any d hdl wx (hV.held h))
      clear hd hV
      by_cases hcl : d.length = r.length
      · rw [if_pos hcl] at HC ⊢
        generalize bs (91 :: r) = s at *
        generalize bs r = rr at *
        clear hcl
        go_enter Tryz.func58, Tryz.ntmps58
        go_wp2_with (first
          | (go_at_call 81; refine (HP.out _).mono ?_; rintro e w1 ⟨rfl, rfl⟩)
          | (go_at_call 82; refine (HC.out).mono ?_; rintro e w1 ⟨rfl, hb⟩; have HB1 := Lib.hid hb; clear hb))
        go_ret
        exact ⟨rfl, HB1.out⟩
      · rw [if_neg hcl] at HC ⊢
        generalize bs (91 :: r) = s at *
        generalize bs r = rr at *
        dsimp only at HC
        generalize bs (r.drop (d.length + 1)) = r2 at *
        obtain ⟨m, hm⟩ : ∃ m, isNumC d = m := ⟨_, rfl⟩
        rw [hm] at HN ⊢
        have hsz : (bs d).size = d.length := bs_size d
        clear hcl hm
        cases m with
        | false =>
          rw [if_neg (by decide)]
          go_enter Tryz.func58, Tryz.ntmps58
          go_wp2_with (first
            | (go_at_call 81; refine (HP.out _).mono ?_; rintro e w1 ⟨rfl, rfl⟩)
            | (go_at_call 82; refine (HC.out).mono ?_; rintro e w1 ⟨rfl, hb⟩; have HB1 := Lib.hid hb; clear hb)
            | (go_at_call 83; refine (HN.out _ HB1.out).mono ?_; rintro e w2 ⟨rfl, hb⟩; have HB2 := Lib.hid (bthN HB1.out hb); clear hb))
          go_ret
          exact ⟨rfl, HB2.out⟩
        | true =>
          rw [if_pos rfl]
          have hwr : IntKind.i64.wrap ((d.length : Int) + 2) = ((d.length + 2 : Nat) : Int) := by rw [IntWalk.i64_in _ (by omega)]; omega
          go_enter Tryz.func58, Tryz.ntmps58
          go_wp2_with (first
            | (go_at_call 81; refine (HP.out _).mono ?_; rintro e w1 ⟨rfl, rfl⟩)
            | (go_at_call 82; refine (HC.out).mono ?_; rintro e w1 ⟨rfl, hb⟩; have HB1 := Lib.hid hb; clear hb)
            | (go_at_call 83; refine (HN.out _ HB1.out).mono ?_; rintro e w2 ⟨rfl, hb⟩; have HB2 := Lib.hid (bthN HB1.out hb); clear hb))
          go_ret
          exact ⟨rfl, HB2.out⟩
    · have e : elmC (c :: r) = 0 := by unfold elmC; rw [if_neg (by rintro ⟨h2, _⟩; exact h91 h2)]
      rw [e]
      rw [show ([91] : List UInt8).isPrefixOf (c :: r) = false by simp [List.isPrefixOf]; exact fun e => h91 e.symm] at HP
      go_enter Tryz.func58, Tryz.ntmps58
      go_wp2_with (go_at_call 81; refine (HP.out _).mono ?_; rintro e w1 ⟨rfl, rfl⟩)
      go_ret
      exact ⟨rfl, Below.refl _ _⟩
end Go.Proofs.YtjgdkiikkgdbaaaGreatDoor
/- The printer's paths: is a text a path? -/
namespace Go.Proofs.YtjgdkiikkgdbaaaGreatDoor
open Go.RowKit
set_option linter.unusedVariables false
set_option linter.unusedSimpArgs false
theorem max_i (a b : Nat) : max (a : Int) (b : Int) = ((max a b : Nat) : Int) := by omega
set_option maxRecDepth 100000 in
set_option maxHeartbeats 4000000 in
theorem isPath_any (l : List UInt8) (hl : l.length ≤ 1000000000) (w : World) (hV : LibAt w) : Calls Tryz.prog 38 #[.string (bs l)] w fun e w' => e = .returned (.bool (pthA l)) ∧ Below w.heap.size w w' := by
  have hsz : (bs l).size = l.length := bs_size l
  by_cases hne : l = []
  · subst hne
    show Calls _ _ _ _ fun e w' => e = .returned (.bool false) ∧ _
    have hsz : (bs []).size = 0 := bs_size []
    have hem0 : (bs []).toList.isEmpty = true := by rw [ByteArray.toList_eq]; rfl
    generalize bs [] = s at *
    go_enter Tryz.func38, Tryz.ntmps38
    go_wp2_with (fail)
    go_loopw [3, 4, 5] (fun d a _ wr => d = .string ⟨#[]⟩ ∧ a = .int .i64 0 ∧ wr = w) (fun _ _ _ _ => 0)
    case atStart => exact ⟨rfl, rfl, rfl⟩
    case round =>
      obtain ⟨rfl, rfl, rfl⟩ := hrel
      go_wp2_with (fail)
      go_ret
      exact ⟨rfl, Below.refl _ _⟩
  · obtain ⟨P, hP⟩ : ∃ P, pthA l = P := ⟨_, rfl⟩
    rw [hP]
    have H0 := Lib.hid (show pthB (l.length + 1) true (l.drop 0) = P from hP)
    have HE := Lib.hid (fun j (hj : j < l.length) wx (hb : Below w.heap.size w wx) => elem16 (l.drop j) (by rw [List.length_drop]; omega) wx (hV.held hb))
    have HI := Lib.hid (fun b j (hj : j < l.length) wx => item16 b (l.drop j) (by rw [List.length_drop]; omega) wx)
    have HST := Lib.hid (fun f b j (hj : j < l.length) => step_pth f b (l.drop j) (by intro e; have := congrArg List.length e; rw [List.length_drop] at this; simp at this; omega))
    have HLE := Lib.hid (fun b j => show stpC b (l.drop j) ≤ (l.drop j).length from Nat.max_le.2 ⟨elmC_le _, itmC_le b _⟩)
    have hemp : (bs l).toList.isEmpty = false := by
      rw [ByteArray.toList_eq]
      cases l with
      | nil => exact absurd rfl hne
      | cons c r => rfl
    have hlne : 0 < l.length := List.length_pos_iff.2 hne
    have HSL := Lib.hid (fun j (hj : j ≤ l.length) wx => sl_from l j hj wx)
    clear hP hV hne
    generalize hs : bs l = s at *
    have HN := Lib.hid hs
    clear hs
    go_enter Tryz.func38, Tryz.ntmps38
    go_wp2_with (fail)
    go_loopw [3, 4, 5] (fun d a _ wr => ∃ (b : Bool) (j f : Nat), j ≤ l.length ∧ a = .int .i64 j ∧ d = .string (bs (if b = true then [] else [46])) ∧ l.length - j ≤ f ∧ (b = true → j = 0) ∧ Hid (pthB (f + 1) b (l.drop j) = P) ∧ Hid (Below w.heap.size w wr)) (fun _ a _ _ => l.length - (intOf a).toNat)
    case atStart => exact ⟨true, 0, l.length, Nat.zero_le _, rfl, rfl, by omega, fun _ => rfl, H0, Lib.hid (Below.refl _ _)⟩
    case round =>
      obtain ⟨b, j, f, hj, rfl, rfl, hf, hbj, HP, HBr⟩ := hrel
      by_cases hlt : j < l.length
      · have hx := HST.out f b j hlt
        rw [HP.out] at hx
        have hle := HLE.out b j
        have hdl : (l.drop j).length = l.length - j := List.length_drop
        have HE2 := Lib.hid (HE.out j hlt)
        have HI2 := Lib.hid (HI.out b j hlt)
        have hsl := HSL.out j hj
        have hstp : stpC b (l.drop j) = max (elmC (l.drop j)) (itmC b (l.drop j)) := rfl
        have HD := Lib.hid (show ∀ n, (l.drop j).drop n = l.drop (j + n) from fun n => List.drop_drop)
        generalize elmC (l.drop j) = e1 at *
        generalize itmC b (l.drop j) = i1 at *
        generalize bs (l.drop j) = x at *
        generalize bs (if b = true then [] else [46]) = d at *
        generalize hn : stpC b (l.drop j) = n at *
        have hmx : max (e1 : Int) (i1 : Int) = (n : Int) := by rw [max_i, hstp]
        rw [hdl] at hle
        rw [HD.out] at hx
        have hji : (j : Int) < (l.length : Int) := by omega
        clear hn hdl hstp HP HST HE HI HLE
        by_cases h0 : n = 0
        · subst h0
          rw [if_pos rfl] at hx
          subst hx
          go_wp2_with (fail)
          go_region_held3 (fun w' => Hid (Below w.heap.size w w')) (first | exact HBr | exact Lib.hid HBr.out.drew | exact HB3 | exact HB4 | fail)
            (first
              | (go_at_call 58; refine (HE2.out _ (by first | exact HBr.out | exact HBr.out.drew | exact HB4.out)).mono ?_; rintro e w3 ⟨rfl, hb3⟩; have HB3 := Lib.hid (bthN (by first | exact HB4.out | exact HBr.out | exact HBr.out.drew) hb3))
              | (go_at_call 59; refine (HI2.out _).mono ?_; rintro e w4 ⟨rfl, hb4⟩; have HB4 := Lib.hid (bthN (by first | exact HB3.out | exact HBr.out | exact HBr.out.drew) hb4)))
          all_goals go_wp2_with (fail)
          all_goals go_ret
          all_goals exact ⟨rfl, by first | exact HB4.out | exact HB3.out⟩
        · rw [if_neg h0] at hx
          have hn0 : ((n : Int) == 0) = false := by rw [beq_eq_false_iff_ne]; omega
          have hwr : IntKind.i64.wrap ((j : Int) + n) = ((j + n : Nat) : Int) := by rw [IntWalk.i64_in _ (by omega)]; omega
          cases f with
          | zero => omega
          | succ g =>
          have HX := Lib.hid hx.symm
          clear hx
          go_wp2_with (fail)
          go_region_held3 (fun w' => Hid (Below w.heap.size w w')) (first | exact HBr | exact Lib.hid HBr.out.drew | exact HB3 | exact HB4 | fail)
            (first
              | (go_at_call 58; refine (HE2.out _ (by first | exact HBr.out | exact HBr.out.drew | exact HB4.out)).mono ?_; rintro e w3 ⟨rfl, hb3⟩; have HB3 := Lib.hid (bthN (by first | exact HB4.out | exact HBr.out | exact HBr.out.drew) hb3))
              | (go_at_call 59; refine (HI2.out _).mono ?_; rintro e w4 ⟨rfl, hb4⟩; have HB4 := Lib.hid (bthN (by first | exact HB3.out | exact HBr.out | exact HBr.out.drew) hb4)))
          all_goals go_wp2_with (fail)
          all_goals go_roundw
          case rel => exact ⟨false, j + n, g, by omega, rfl, rfl, by omega, (fun e => by cases e), HX, (by first | exact HB4 | exact HB3)⟩
          case measure => simp [intOf]; omega
      · obtain rfl : j = l.length := by omega
        have hb : b = false := by
          cases b with
          | false => rfl
          | true => have := hbj rfl; omega
        subst hb
        have hx := HP.out
        rw [List.drop_length, pth_end] at hx
        subst hx
        clear hlt
        go_wp2_with (fail)
        go_ret
        exact ⟨rfl, HBr.out⟩
end Go.Proofs.YtjgdkiikkgdbaaaGreatDoor
/- The printer's operands: may an operand be told? -/
namespace Go.Proofs.YtjgdkiikkgdbaaaGreatDoor
open Go.RowKit
set_option linter.unusedVariables false
set_option linter.unusedSimpArgs false
def IsOTo (k : Int) (s : ByteArray) (ng : Bool) (num : Int) (w : World) (b : Bool) : Prop := Calls Tryz.prog 21 #[.agg #[.int .i64 k, .string s, .bool ng, .int .u64 num]] w fun e w' => e = .returned (.bool b) ∧ Below w.heap.size w w'
theorem bel1 {w : World} {o : Obj} : Below w.heap.size w (w.alloc o) := (Below.refl _ _).alloc (Nat.le_refl _) _
theorem isO_1 (s : ByteArray) (ng : Bool) (num : Int) (w : World) (hV : LibAt w) (hl : s.size ≤ 1000000000) : IsOTo 1 s ng num w ((ng == false && num == 0) && pthA s.data.toList) := by
  have HP := Lib.hid (fun wx (hb : Below w.heap.size w wx) => isPath_any s.data.toList (by rw [Array.length_toList]; exact hl) wx (hV.held hb))
  rw [bs_data] at HP
  have hq := fun wx => opd_eq 1 s s ng false num 0 wx
  rw [show (s.toList == s.toList) = true from beq_self_eq_true _, Bool.true_and] at hq
  obtain ⟨q, hqq⟩ : ∃ q, (ng == false && num == 0) = q := ⟨_, rfl⟩
  obtain ⟨m, hm⟩ : ∃ m, pthA s.data.toList = m := ⟨_, rfl⟩
  rw [hqq] at hq ⊢
  rw [hm] at HP ⊢
  clear hqq hm hV
  unfold IsOTo
  cases q
  · go_enter Tryz.func21, Tryz.ntmps21
    go_wp2_with (fail)
    go_ret
    exact ⟨rfl, bel1⟩
  · go_enter Tryz.func21, Tryz.ntmps21
    go_wp2_with (go_at_call 38; refine (HP.out _ bel1).mono ?_; rintro e w1 ⟨rfl, hb⟩; have HB1 := Lib.hid (bthN bel1 hb); clear hb)
    go_ret
    exact ⟨rfl, HB1.out⟩
theorem isO_3 (s : ByteArray) (ng : Bool) (num : Int) (w : World) (hl : s.size ≤ 1000000000) : IsOTo 3 s ng num w ((ng == false && num == 0) && (s.data.toList.all fun x => !badB x)) := by
  have HP := Lib.hid (fun wx => isText_any s (by omega) wx)
  have hq := fun wx => opd_eq 3 s s ng false num 0 wx
  rw [show (s.toList == s.toList) = true from beq_self_eq_true _, Bool.true_and] at hq
  obtain ⟨q, hqq⟩ : ∃ q, (ng == false && num == 0) = q := ⟨_, rfl⟩
  obtain ⟨m, hm⟩ : ∃ m, (s.data.toList.all fun x => !badB x) = m := ⟨_, rfl⟩
  rw [hqq] at hq ⊢
  rw [hm] at HP ⊢
  clear hqq hm
  unfold IsOTo
  cases q
  · go_enter Tryz.func21, Tryz.ntmps21
    go_wp2_with (fail)
    go_ret
    exact ⟨rfl, bel1⟩
  · go_enter Tryz.func21, Tryz.ntmps21
    go_wp2_with (go_at_call 39; refine (HP.out _).mono ?_; rintro e w1 ⟨rfl, rfl⟩)
    go_ret
    exact ⟨rfl, bel1⟩
theorem isO_2 (s : ByteArray) (ng : Bool) (num : Int) (w : World) : IsOTo 2 s ng num w (s.toList == (⟨#[]⟩ : ByteArray).toList) := by
  have hq := fun wx => opd_eq 2 s ⟨#[]⟩ ng ng num num wx
  rw [show (ng == ng) = true from beq_self_eq_true _, show (num == num) = true from beq_self_eq_true _, Bool.true_and, Bool.and_true] at hq
  obtain ⟨q, hqq⟩ : ∃ q, (s.toList == (⟨#[]⟩ : ByteArray).toList) = q := ⟨_, rfl⟩
  rw [hqq] at hq ⊢
  clear hqq
  unfold IsOTo
  go_enter Tryz.func21, Tryz.ntmps21
  go_wp2_with (fail)
  go_ret
  exact ⟨rfl, bel1⟩
theorem isO_4 (s : ByteArray) (ng : Bool) (num : Int) (w : World) : IsOTo 4 s ng num w ((s.toList == (⟨#[]⟩ : ByteArray).toList && ng == false) && decide (num ≤ 1)) := by
  have hq := fun wx => opd_eq 4 s ⟨#[]⟩ ng false num num wx
  rw [show (num == num) = true from beq_self_eq_true _, Bool.and_true] at hq
  obtain ⟨q, hqq⟩ : ∃ q, (s.toList == (⟨#[]⟩ : ByteArray).toList && ng == false) = q := ⟨_, rfl⟩
  rw [hqq] at hq ⊢
  clear hqq
  unfold IsOTo
  cases q
  all_goals
    go_enter Tryz.func21, Tryz.ntmps21
    go_wp2_with (fail)
    go_ret
    exact ⟨rfl, bel1⟩
theorem isO_5 (s : ByteArray) (ng : Bool) (num : Int) (w : World) : IsOTo 5 s ng num w ((s.toList == (⟨#[]⟩ : ByteArray).toList && ng == false) && decide (num ≤ 9)) := by
  have hq := fun wx => opd_eq 5 s ⟨#[]⟩ ng false num num wx
  rw [show (num == num) = true from beq_self_eq_true _, Bool.and_true] at hq
  obtain ⟨q, hqq⟩ : ∃ q, (s.toList == (⟨#[]⟩ : ByteArray).toList && ng == false) = q := ⟨_, rfl⟩
  rw [hqq] at hq ⊢
  clear hqq
  unfold IsOTo
  cases q
  all_goals
    go_enter Tryz.func21, Tryz.ntmps21
    go_wp2_with (fail)
    go_ret
    exact ⟨rfl, bel1⟩
theorem isO_no (k : Int) (s : ByteArray) (ng : Bool) (num : Int) (w : World) (h : k < 1 ∨ 5 < k) : IsOTo k s ng num w false := by
  have z1 : (k == 1) = false := beq_eq_false_iff_ne.2 (by omega)
  have z2 : (k == 2) = false := beq_eq_false_iff_ne.2 (by omega)
  have z3 : (k == 3) = false := beq_eq_false_iff_ne.2 (by omega)
  have z4 : (k == 4) = false := beq_eq_false_iff_ne.2 (by omega)
  have z5 : (k == 5) = false := beq_eq_false_iff_ne.2 (by omega)
  clear h
  unfold IsOTo
  go_enter Tryz.func21, Tryz.ntmps21
  go_wp2_with (fail)
  go_ret
  exact ⟨rfl, bel1⟩
theorem isO_any (o : Opd) (ho : OpX o) (hl : o.text.size ≤ 1000000000) (w : World) (hV : LibAt w) : IsOTo o.kind o.text o.neg o.num w (mayOB o) := by
  obtain ⟨k, s, ng, num⟩ := o
  have hl : s.size ≤ 1000000000 := hl
  have key : ∀ b, mayOB ⟨k, s, ng, num⟩ = b → IsOTo k s ng num w b → IsOTo k s ng num w (mayOB ⟨k, s, ng, num⟩) := fun b e h => by rw [e]; exact h
  have hem : (s.toList == (⟨#[]⟩ : ByteArray).toList) = (s.data.toList == ([] : List UInt8)) := by rw [ByteArray.toList_eq, ByteArray.toList_eq]
  show IsOTo k s ng num w (mayOB ⟨k, s, ng, num⟩)
  by_cases h : k < 1 ∨ 5 < k
  · refine key false ?_ (isO_no k s ng num w h)
    unfold mayOB
    rw [if_pos]
    show (decide (k < 1) || decide (5 < k) || _ || _) = true
    rcases h with h | h
    · rw [decide_eq_true h]; rfl
    · rw [decide_eq_true h]; simp
  · have hk : k = 1 ∨ k = 2 ∨ k = 3 ∨ k = 4 ∨ k = 5 := by omega
    obtain ⟨t, ht⟩ : ∃ t, (s.data.toList == ([] : List UInt8)) = t := ⟨_, rfl⟩
    rcases hk with rfl | rfl | rfl | rfl | rfl
    · refine key _ ?_ (isO_1 s ng num w hV hl)
      cases ng <;> simp [mayOB]
    · refine key _ ?_ (isO_2 s ng num w)
      rw [hem, ht]
      unfold mayOB; dsimp only; rw [ht]
      cases ng <;> cases t <;> simp
    · refine key _ ?_ (isO_3 s ng num w hl)
      cases ng <;> simp [mayOB, Bool.and_comm]
    · refine key _ ?_ (isO_4 s ng num w)
      rw [hem, ht]
      have e : decide (num ≤ 1) = decide (num < 2) := by rw [Bool.eq_iff_iff]; simp; omega
      rw [e]
      unfold mayOB; dsimp only; rw [ht]
      cases ng <;> cases t <;> simp
    · refine key _ ?_ (isO_5 s ng num w)
      rw [hem, ht]
      have e : decide (num ≤ 9) = decide (num < 10) := by rw [Bool.eq_iff_iff]; simp; omega
      rw [e]
      unfold mayOB; dsimp only; rw [ht]
      cases ng <;> cases t <;> simp
end Go.Proofs.YtjgdkiikkgdbaaaGreatDoor
/- The text of a number's digits, as the reference writes it: chapter 8's own, parted off. -/
namespace Go.Proofs.YtjgdkiikkgdbaaaGreatDoor
open Go.RowKit
set_option linter.unusedVariables false
theorem shnDig : ∀ (k u : Nat), u < 10 ^ (k + 1) → Lib.nDigits u ≤ k + 1
  | 0, u, h => by rw [Lib.nDigits_small (by simpa using h)]; omega
  | k + 1, u, h => by
    by_cases c : u < 10
    · rw [Lib.nDigits_small c]; omega
    · rw [Lib.nDigits_big c]
      have := shnDig k (u / 10) (by rw [Nat.div_lt_iff_lt_mul (by decide)]; rw [Nat.pow_succ] at h; exact h)
      omega
theorem shdec_len (n : Nat) (h : n < 18446744073709551616) : (Lib.decDigits n).length ≤ 20 := by
  rw [Lib.decDigits_length]
  exact shnDig 19 n (Nat.lt_trans h (by decide))
end Go.Proofs.YtjgdkiikkgdbaaaGreatDoor
