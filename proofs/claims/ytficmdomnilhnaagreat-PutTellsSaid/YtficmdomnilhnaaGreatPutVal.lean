/- What each encoding writes, and what the pen writes of a value: its row. -/
import Derived.Test.YtficmdomnilhnaaGreatPutPen
import Derived.StillTailTactics
namespace Go.Proofs.YtficmdomnilhnaaGreat
open Go.RowKit
set_option linter.unusedVariables false
/-- a value's box -/
def boxV (T : VT) : Obj := .cells #[.int .i64 T.kind, .int .u64 T.num, .string T.text, .slice T.ia T.len T.cap] 26
theorem eEnc (k : Int) : Enters (encN k) := by
  unfold encN
  split; · exact enters_of Tryz.func53 (by kernel_rfl) rfl
  split; · exact enters_of Tryz.func54 (by kernel_rfl) rfl
  split; · exact enters_of Tryz.func55 (by kernel_rfl) rfl
  split; · exact enters_of Tryz.func56 (by kernel_rfl) rfl
  split; · exact enters_of Tryz.func57 (by kernel_rfl) rfl
  exact enters_of Tryz.func58 (by kernel_rfl) rfl
/-- a box beside the pen's blocks stays -/
theorem box_now {P : Nat} {ao : Option Addr} {len cap : Nat} {bo : Option Nat} {v : Value} {a a' : Nat} {s s' : ByteArray} {w w1 : World} {o : Obj} (h : PenAt P ao len cap bo v a s w) (hn : PenNow P ao len cap bo v a' s' (w.alloc o) w1) : w1.heap[w.heap.size]? = some o := by
  obtain ⟨v', h1, h2, h3⟩ := hn
  exact h2.same (alloc_at w o) (fun hk => Nat.lt_irrefl _ (h.lt hk))
set_option maxHeartbeats 2000000 in
theorem cnum_any (P : Nat) (ao : Option Addr) (len cap : Nat) (bo : Option Nat) (v : Value) (a : Nat) (s : ByteArray) (t : Nat) (X : TypeV) (T : VT) (hlen : len ≤ 1000000) (ht : t < len) (hn : (Lit.int .u64 T.num).wf = true) (w : World) (h : PenAt P ao len cap bo v a s w) (HT : TypeAt w ao t X)
    (hr : RowOk bo s [.num (lowK X.kind T.num) (szK X.kind)] a) :
    Calls Tryz.prog 58 #[.pointer (some ⟨P, 0, none⟩), .int .i64 (t : Nat), .agg #[.int .i64 T.kind, .int .u64 T.num, .string T.text, .slice T.ia T.len T.cap]] w (PenTo P ao len cap bo v (numE (szK X.kind).toNat a) (bytP (.num (lowK X.kind T.num) (szK X.kind)) s) w) := by
  have HL := Lib.hid (fun w => low_any X.kind T.num hn w)
  have HS := Lib.hid (fun w => size_any X.kind w)
  obtain ⟨tb, toff, rfl, c0, _, _, _, _, _, wf, _⟩ := HT
  have HP := Lib.hid (h.step ((Below.refl w.heap.size w).alloc (Nat.le_refl _) (boxV T)))
  have HB := Lib.hid ((Below.refl w.heap.size w).alloc (Nat.le_refl _) (boxV T))
  have p0 : (w.alloc (boxV T)).cell? ⟨P, 0, none⟩ = some (.slice (some ⟨tb, toff, none⟩) len cap) := cell_at (j := 0) HP.out.1 rfl
  have c0 : (w.alloc (boxV T)).cell? ⟨tb, toff + t * 6, none⟩ = some (.int .i64 X.kind) := keep HB.out c0
  obtain ⟨k, hk⟩ : ∃ k, X.kind = k := ⟨_, rfl⟩
  rw [hk] at hr c0 HL HS ⊢
  have HC := Lib.hid (fun w h => pnum_any P (some ⟨tb, toff, none⟩) len cap bo v a s (lowK k T.num) (szK k) w h hr)
  obtain ⟨lo, hlo⟩ : ∃ lo, lowK k T.num = lo := ⟨_, rfl⟩
  obtain ⟨sz, hsz⟩ : ∃ sz, szK k = sz := ⟨_, rfl⟩
  rw [hlo] at HL HC ⊢
  rw [hsz] at HS HC ⊢
  unfold boxV at p0 c0 HP HB
  clear h hr hk hlo hsz hn wf
  go_enter Tryz.func58, Tryz.ntmps58
  go_wp2_with (first
    | (go_at_call 79; refine (HL.out _).mono ?_; rintro e w1 ⟨rfl, hb1⟩; have HB1 := Lib.hid hb1; clear hb1)
    | (go_at_call 80; refine (HS.out _).mono ?_; rintro e w2 ⟨rfl, hb2⟩; have HB2 := Lib.hid hb2; clear hb2)
    | (go_at_call 76; refine (HC.out _ ((HP.out.step HB1.out).step HB2.out)).mono ?_; rintro e w3 ⟨rfl, hn3⟩))
  go_returns
  exact ⟨rfl, ((hn3.from HB2.out).from HB1.out).from HB.out⟩
set_option maxHeartbeats 2000000 in
theorem etext_any (P : Nat) (ao : Option Addr) (len cap : Nat) (bo : Option Nat) (v : Value) (a : Nat) (s : ByteArray) (t : Nat) (T : VT) (hts : T.text.size ≤ 1000) (w : World) (h : PenAt P ao len cap bo v a s w)
    (hr : RowOk bo s [.num ((T.text.size : Nat) + 1) 4, .text (T.text ++ ⟨#[0]⟩)] a) :
    Calls Tryz.prog 53 #[.pointer (some ⟨P, 0, none⟩), .int .i64 (t : Nat), .agg #[.int .i64 T.kind, .int .u64 T.num, .string T.text, .slice T.ia T.len T.cap]] w (PenTo P ao len cap bo v (endR [.num ((T.text.size : Nat) + 1) 4, .text (T.text ++ ⟨#[0]⟩)] a) (bytR [.num ((T.text.size : Nat) + 1) 4, .text (T.text ++ ⟨#[0]⟩)] s) w) := by
  have r1 := RowOk.fst (r := [.num ((T.text.size : Nat) + 1) 4]) (q := [.text (T.text ++ ⟨#[0]⟩)]) hr
  have r2 := RowOk.snd (r := [.num ((T.text.size : Nat) + 1) 4]) (q := [.text (T.text ++ ⟨#[0]⟩)]) hr
  have HB := Lib.hid ((Below.refl w.heap.size w).alloc (Nat.le_refl _) (boxV T))
  have HC := Lib.hid (fun w h => pnum_any P ao len cap bo v a s ((T.text.size : Nat) + 1) 4 w h r1)
  have HD := Lib.hid (fun v w h => ptext_any P ao len cap bo v _ _ (T.text ++ ⟨#[0]⟩) w h (r2 : RowOk bo (bytP (.num ((T.text.size : Nat) + 1) 4) s) [.text (T.text ++ ⟨#[0]⟩)] (numE 4 a)))
  have HH := Lib.hid h
  have HP := Lib.hid (h.step HB.out)
  have hm : T.text.size ≤ maxLen := by unfold maxLen; omega
  have hu : IntKind.u64.wrap ((T.text.size : Nat) + 1) = (T.text.size : Nat) + 1 := IntWalk.u64_in _ (by omega)
  show Calls _ _ _ _ (PenTo P ao len cap bo v (numE 4 a + (T.text ++ ⟨#[0]⟩).size) (bytP (.num ((T.text.size : Nat) + 1) 4) s ++ (T.text ++ ⟨#[0]⟩)) w)
  unfold boxV at HP HB
  clear h hr r1 r2
  go_enter Tryz.func53, Tryz.ntmps53
  go_wp2_with (first
    | (go_at_call 76; refine (HC.out _ HP.out).mono ?_; rintro e w1 ⟨rfl, hn1⟩; have d2 : w1.cell? ⟨w.heap.size, 2, none⟩ = some (.string T.text) := cell_at (box_now HH.out hn1) rfl; obtain ⟨v1, q1, o1, f1⟩ := hn1; have Q1 := Lib.hid q1; have F1 := Lib.hid f1; clear q1 f1)
    | (go_at_call 77; refine (HD.out _ _ Q1.out).mono ?_; rintro e w2 ⟨rfl, hn2⟩))
  go_returns
  exact ⟨rfl, (PenNow.trans o1 F1.out hn2).from HB.out⟩
end Go.Proofs.YtficmdomnilhnaaGreat
