/- The writer: join of one, two, three texts; number. -/
import Derived.Test.YtpclpghmahlieaaDoorValWrite
namespace Go.Proofs.YtpclpghmahlieaaDoor
open Go.RowKit
set_option linter.unusedVariables false
theorem WTo.from {l : List UInt8} {B b : Nat} {a w w' : World} {e : Ending} (h : WTo l B b w e w') (hb : Below B a w) (hk : Kept b a w) : WTo l B b a e w' := ⟨h.1, h.2.1, hb.trans h.2.2.1, hk.trans h.2.2.2⟩
theorem join_row (B b n : Nat) (S : Nat → ByteArray) (cs : Array Value) (l : List UInt8) (w : World) (hn : n ≤ 3) (h : TxtAt 41 B b l w) (hcs : ∀ j, j < n → cs[j]? = some (.string (S j))) (hlen : l.length + (flatTo S n).length ≤ 140737488355328) (hBw : B ≤ w.heap.size) :
    Calls Tryd.prog 27 #[.pointer (some ⟨b, 0, none⟩), .slice (some ⟨w.heap.size, 0, none⟩) n n] (w.alloc (.cells cs 9)) (WTo (l ++ flatTo S n) B b w) := by
  have hb := (Below.refl w.heap.size w).alloc (Nat.le_refl _) (.cells cs 9)
  refine (join_any B b w.heap.size n S l cs (w.alloc (.cells cs 9)) hn (h.next hb) (alloc_at w _) hcs (by have := h.lt; omega) hlen (by have := hb.size; omega)).mono ?_
  intro e w' hh
  exact WTo.from hh ((Below.refl B w).alloc hBw _) ((Lib.OthersKept.refl _ _ w).alloc _)
theorem join1 (B b g : Nat) (x : ByteArray) (l : List UInt8) (w : World) (h : TxtAt 41 B b l w) (hlen : l.length + x.size ≤ 140737488355328) (hBw : B ≤ w.heap.size) (hg : g = w.heap.size) :
    Calls Tryd.prog 27 #[.pointer (some ⟨b, 0, none⟩), .slice (some ⟨g, 0, none⟩) 1 1] (w.alloc (.cells #[.string x] 9)) (WTo (l ++ x.data.toList) B b w) := by
  subst hg
  have := join_row B b 1 (fun _ => x) #[.string x] l w (by omega) h (fun j hj => by obtain rfl : j = 0 := by omega
                                                                                    rfl) (by simpa [flatTo] using hlen) hBw
  simpa [flatTo] using this
theorem join2 (B b g : Nat) (x y : ByteArray) (l : List UInt8) (w : World) (h : TxtAt 41 B b l w) (hlen : l.length + (x.size + y.size) ≤ 140737488355328) (hBw : B ≤ w.heap.size) (hg : g = w.heap.size) :
    Calls Tryd.prog 27 #[.pointer (some ⟨b, 0, none⟩), .slice (some ⟨g, 0, none⟩) 2 2] (w.alloc (.cells #[.string x, .string y] 9)) (WTo (l ++ (x.data.toList ++ y.data.toList)) B b w) := by
  subst hg
  have := join_row B b 2 (fun j => if j = 0 then x else y) #[.string x, .string y] l w (by omega) h (fun j hj => by
    match j, hj with
    | 0, _ => rfl
    | 1, _ => rfl) (by simpa [flatTo] using hlen) hBw
  simpa [flatTo] using this
theorem join3 (B b g : Nat) (x y z : ByteArray) (l : List UInt8) (w : World) (h : TxtAt 41 B b l w) (hlen : l.length + (x.size + (y.size + z.size)) ≤ 140737488355328) (hBw : B ≤ w.heap.size) (hg : g = w.heap.size) :
    Calls Tryd.prog 27 #[.pointer (some ⟨b, 0, none⟩), .slice (some ⟨g, 0, none⟩) 3 3] (w.alloc (.cells #[.string x, .string y, .string z] 9)) (WTo (l ++ (x.data.toList ++ (y.data.toList ++ z.data.toList))) B b w) := by
  subst hg
  have := join_row B b 3 (fun j => if j = 0 then x else if j = 1 then y else z) #[.string x, .string y, .string z] l w (by omega) h (fun j hj => by
    match j, hj with
    | 0, _ => rfl
    | 1, _ => rfl
    | 2, _ => rfl) (by simp only [flatTo]; simp; omega) hBw
  simpa [flatTo, List.append_assoc] using this
set_option maxHeartbeats 2000000 in
theorem numberW_any (d : DatV) (B b : Nat) (l : List UInt8) (w : World) (h0 : 0 ≤ d.num) (h1 : d.num < 18446744073709551616) (h : TxtAt 41 B b l w) (htab : Tab w) (hlen : l.length ≤ 1099511627776) (hBw : B ≤ w.heap.size) :
    Calls Tryd.prog 31 #[.pointer (some ⟨b, 0, none⟩), .agg #[.int .i64 d.kind, .bool d.neg, .int .u64 d.num, .string d.text]] w (WTo (l ++ datL d) B b w) := by
  have hdl := dec_len d.num.toNat (by omega)
  have HB := Lib.hid ((Below.refl w.heap.size w).alloc (Nat.le_refl _) (.cells #[.int .i64 d.kind, .bool d.neg, .int .u64 d.num, .string d.text] 46))
  have HT := Lib.hid (h.next HB.out)
  have HD := Lib.hid (digits_any d.num h0 h1 _ (htab.next HB.out))
  have HS := Lib.hid (show B ≤ (w.alloc (.cells #[.int .i64 d.kind, .bool d.neg, .int .u64 d.num, .string d.text] 46)).heap.size by have := HB.out.size; omega)
  have HBB := Lib.hid (HB.out.mono hBw)
  have HKK := Lib.hid ((Lib.OthersKept.refl 5 (some b) w).alloc (.cells #[.int .i64 d.kind, .bool d.neg, .int .u64 d.num, .string d.text] 46))
  clear h htab
  by_cases k3 : d.kind = 3
  · have t3 : (d.kind == 3) = true := by simpa using k3
    cases hb : (d.num == 1) with
    | true =>
      have he : datL d = trueL := by unfold datL; rw [if_pos k3, if_pos (by simpa using hb)]
      rw [he]
      clear k3 he
      go_enter Tryd.func31, Tryd.ntmps31
      go_wp2_with (first
        | (go_at_call 43; refine (fmtBool_any _ _).mono ?_; rintro e w2 ⟨rfl, rfl⟩)
        | (go_at_call 27; refine (join1 B b _ _ l _ HT.out (by rw [show ((⟨trueL.toArray⟩ : ByteArray)).size = 4 from rfl]; omega) HS.out (by simp)).mono ?_; rintro e w3 ⟨rfl, ht3, hb3, hk3⟩))
      go_end0
      exact ⟨rfl, ht3, HBB.out.trans hb3, HKK.out.trans hk3⟩
    | false =>
      have he : datL d = falseL := by unfold datL; rw [if_pos k3, if_neg (by simpa using hb)]
      rw [he]
      clear k3 he
      go_enter Tryd.func31, Tryd.ntmps31
      go_wp2_with (first
        | (go_at_call 43; refine (fmtBool_any _ _).mono ?_; rintro e w2 ⟨rfl, rfl⟩)
        | (go_at_call 27; refine (join1 B b _ _ l _ HT.out (by rw [show ((⟨falseL.toArray⟩ : ByteArray)).size = 5 from rfl]; omega) HS.out (by simp)).mono ?_; rintro e w3 ⟨rfl, ht3, hb3, hk3⟩))
      go_end0
      exact ⟨rfl, ht3, HBB.out.trans hb3, HKK.out.trans hk3⟩
  · have t3 : (d.kind == 3) = false := by simpa using k3
    by_cases k1 : d.kind = 1
    · have t1 : (d.kind == 1) = true := by simpa using k1
      have hds : (⟨(Lib.decDigits d.num.toNat).toArray⟩ : ByteArray).size ≤ 20 := hdl
      cases hb : d.neg with
      | true =>
        have he : datL d = 45 :: Lib.decDigits d.num.toNat := by unfold datL; rw [if_neg k3, if_pos k1, if_pos hb]
        rw [he]
        rw [hb] at HB HT HD HS HBB HKK
        clear k3 k1 he hb
        go_enter Tryd.func31, Tryd.ntmps31
        go_wp2_with (first
          | (go_at_call 42; refine (HD.out).mono ?_; rintro e w2 ⟨rfl, hb2⟩)
          | (go_at_call 27; refine (join2 B b _ _ _ l w2 (HT.out.next hb2) (by rw [show ((⟨#[45]⟩ : ByteArray)).size = 1 from rfl]; omega) (by have := HS.out; have := hb2.size; omega) rfl).mono ?_; rintro e w3 ⟨rfl, ht3, hb3, hk3⟩))
        go_end0
        exact ⟨rfl, ht3, (HBB.out.trans (hb2.mono HS.out)).trans hb3, Lib.OthersKept.trans (Kept.next HKK.out hb2) hk3⟩
      | false =>
        have he : datL d = Lib.decDigits d.num.toNat := by unfold datL; rw [if_neg k3, if_pos k1, if_neg (by simp [hb])]
        rw [he]
        rw [hb] at HB HT HD HS HBB HKK
        clear k3 k1 he hb
        go_enter Tryd.func31, Tryd.ntmps31
        go_wp2_with (first
          | (go_at_call 42; refine (HD.out).mono ?_; rintro e w2 ⟨rfl, hb2⟩)
          | (go_at_call 27; refine (join1 B b _ _ l w2 (HT.out.next hb2) (by omega) (by have := HS.out; have := hb2.size; omega) rfl).mono ?_; rintro e w3 ⟨rfl, ht3, hb3, hk3⟩))
        go_end0
        exact ⟨rfl, ht3, (HBB.out.trans (hb2.mono HS.out)).trans hb3, Lib.OthersKept.trans (Kept.next HKK.out hb2) hk3⟩
    · have t1 : (d.kind == 1) = false := by simpa using k1
      have he : datL d = [63] := by unfold datL; rw [if_neg k3, if_neg k1]
      rw [he]
      clear k3 k1 he
      go_enter Tryd.func31, Tryd.ntmps31
      go_wp2_with (first
        | (go_at_call 27; refine (join1 B b _ _ l _ HT.out (by rw [show ((⟨#[63]⟩ : ByteArray)).size = 1 from rfl]; omega) HS.out (by simp)).mono ?_; rintro e w3 ⟨rfl, ht3, hb3, hk3⟩))
      go_end0
      exact ⟨rfl, ht3, HBB.out.trans hb3, HKK.out.trans hk3⟩
end Go.Proofs.YtpclpghmahlieaaDoor
