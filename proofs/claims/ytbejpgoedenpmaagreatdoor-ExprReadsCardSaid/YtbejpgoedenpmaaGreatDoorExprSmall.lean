/- The small functions of package expr: relation, isName, the classes' makers, at, skip. -/
import Derived.Test.YtbejpgoedenpmaaGreatDoorExprAt
namespace Go.Proofs.YtbejpgoedenpmaaGreatDoor
open Go.RowKit
set_option linter.unusedVariables false
theorem bs_sz (a : List UInt8) : (bs a).size = a.length := bs_size a
def RelTo (t : Tk) (w : World) : Prop := Calls Tryz.prog 67 #[tkA t] w fun e w' => e = .returned (.int .i64 (relT t : Nat)) ∧ Below w.heap.size w w'
theorem ret_i15 {a b : Int} (h : a = b) : Ending.returned (.int .i64 a) = .returned (.int .i64 b) := by rw [h]
theorem relation_any (t : Tk) (w : World) : RelTo t w := by
  unfold RelTo
  by_cases hk : t.k = 5
  · have hR : relT t = relN t.t := if_pos hk
    rw [hR]
    have e1 := bs_list t.t [61]
    have e2 := bs_list t.t [60, 62]
    have e3 := bs_list t.t [60]
    have e4 := bs_list t.t [60, 61]
    have e5 := bs_list t.t [62]
    have e6 := bs_list t.t [62, 61]
    unfold relN
    obtain ⟨q1, h1⟩ : ∃ q, (t.t == [61]) = q := ⟨_, rfl⟩
    obtain ⟨q2, h2⟩ : ∃ q, (t.t == [60, 62]) = q := ⟨_, rfl⟩
    obtain ⟨q3, h3⟩ : ∃ q, (t.t == [60]) = q := ⟨_, rfl⟩
    obtain ⟨q4, h4⟩ : ∃ q, (t.t == [60, 61]) = q := ⟨_, rfl⟩
    obtain ⟨q5, h5⟩ : ∃ q, (t.t == [62]) = q := ⟨_, rfl⟩
    obtain ⟨q6, h6⟩ : ∃ q, (t.t == [62, 61]) = q := ⟨_, rfl⟩
    rw [h1] at e1 ⊢; rw [h2] at e2 ⊢; rw [h3] at e3 ⊢; rw [h4] at e4 ⊢; rw [h5] at e5 ⊢; rw [h6] at e6 ⊢
    have k5 : (((t.k : Nat) : Int) != 5) = false := by rw [hk]; rfl
    clear h1 h2 h3 h4 h5 h6 hk hR
    cases q1
    · cases q2
      · cases q3
        · cases q4
          · cases q5
            · cases q6
              all_goals
                go_enter Tryz.func67, Tryz.ntmps67
                go_wp2
                go_ret
                exact ⟨rfl, (Below.refl _ _).alloc (Nat.le_refl _) _⟩
            · go_enter Tryz.func67, Tryz.ntmps67
              go_wp2
              go_ret
              exact ⟨rfl, (Below.refl _ _).alloc (Nat.le_refl _) _⟩
          · go_enter Tryz.func67, Tryz.ntmps67
            go_wp2
            go_ret
            exact ⟨rfl, (Below.refl _ _).alloc (Nat.le_refl _) _⟩
        · go_enter Tryz.func67, Tryz.ntmps67
          go_wp2
          go_ret
          exact ⟨rfl, (Below.refl _ _).alloc (Nat.le_refl _) _⟩
      · go_enter Tryz.func67, Tryz.ntmps67
        go_wp2
        go_ret
        exact ⟨rfl, (Below.refl _ _).alloc (Nat.le_refl _) _⟩
    · go_enter Tryz.func67, Tryz.ntmps67
      go_wp2
      go_ret
      exact ⟨rfl, (Below.refl _ _).alloc (Nat.le_refl _) _⟩
  · have hR : relT t = 0 := if_neg hk
    rw [hR]
    have k5 : (((t.k : Nat) : Int) != 5) = true := by simp; omega
    clear hR hk
    go_enter Tryz.func67, Tryz.ntmps67
    go_wp2
    go_ret
    exact ⟨rfl, (Below.refl _ _).alloc (Nat.le_refl _) _⟩
theorem isRel_any (t : Tk) (w : World) : Calls Tryz.prog 68 #[tkA t] w fun e w' => e = .returned (.bool (Cl.rl.test t)) ∧ Below w.heap.size w w' := by
  have HR := Lib.hid (fun wx => relation_any t wx)
  have hT : Cl.rl.test t = !(relT t == 0) := rfl
  rw [hT]
  unfold RelTo at HR
  obtain ⟨r, hr⟩ : ∃ r, relT t = r := ⟨_, rfl⟩
  rw [hr] at HR ⊢
  have he : (((r : Nat) : Int) != 0) = !(r == 0) := by rw [Bool.eq_iff_iff]; simp
  obtain ⟨q, hq⟩ : ∃ q, (!(r == 0)) = q := ⟨_, rfl⟩
  rw [hq] at he ⊢
  clear hq hr hT
  have HB0 := Lib.hid (show Below w.heap.size w (w.alloc (.cells #[.int .i64 (t.k : Nat), .string (bs t.t), .int .u64 (t.n : Nat), .int .i64 (t.a : Nat)] 51)) from (Below.refl _ _).alloc (Nat.le_refl _) _)
  go_enter Tryz.func68, Tryz.ntmps68
  go_wp2_with (go_at_call 67; refine (HR.out _).mono ?_; rintro e w1 ⟨rfl, hb1⟩; have HB1 := Lib.hid hb1; clear hb1)
  go_ret
  exact ⟨ret_b15 (by first | rfl | exact he | simp [*]), HB0.out.trans (HB1.out.mono HB0.out.size)⟩
theorem isName_any (t : Tk) (ht : t.t.length ≤ 1000) (w : World) : Calls Tryz.prog 97 #[tkA t] w fun e w' => e = .returned (.bool (Cl.nm.test t)) ∧ Below w.heap.size w w' := by
  have HW := Lib.hid (fun wx => word_any (bs t.t) (by rw [bs_size]; omega) wx)
  have hwS : wordS (bs t.t) = wordsL.contains t.t := rfl
  rw [hwS] at HW
  have hT : Cl.nm.test t = (t.k == 1 && !wordsL.contains t.t) := rfl
  rw [hT]
  have hk : (((t.k : Nat) : Int) == 1) = (t.k == 1) := by rw [Bool.eq_iff_iff]; simp; omega
  obtain ⟨p, hp⟩ : ∃ p, (t.k == 1) = p := ⟨_, rfl⟩
  obtain ⟨q, hq⟩ : ∃ q, wordsL.contains t.t = q := ⟨_, rfl⟩
  rw [hp] at hk ⊢
  rw [hq] at HW ⊢
  clear hp hq hT hwS ht
  have HB0 := Lib.hid (show Below w.heap.size w (w.alloc (.cells #[.int .i64 (t.k : Nat), .string (bs t.t), .int .u64 (t.n : Nat), .int .i64 (t.a : Nat)] 51)) from (Below.refl _ _).alloc (Nat.le_refl _) _)
  cases p
  · go_enter Tryz.func97, Tryz.ntmps97
    go_wp2
    go_ret
    exact ⟨rfl, HB0.out⟩
  · go_enter Tryz.func97, Tryz.ntmps97
    go_wp2_with (go_at_call 114; refine (HW.out _).mono ?_; rintro e w1 ⟨rfl, hb1⟩; have HB1 := Lib.hid (HB0.out.trans (hb1.mono HB0.out.size)); clear hb1)
    go_ret
    exact ⟨ret_b15 (by cases q <;> rfl), HB1.out⟩
/-- a class's function is entered, and tells -/
theorem eKind : Enters 29 := enters_of Tryz.func29 (by kernel_rfl) rfl
theorem eWord : Enters 62 := enters_of Tryz.func62 (by kernel_rfl) rfl
theorem eSign : Enters 63 := enters_of Tryz.func63 (by kernel_rfl) rfl
theorem eName : Enters 97 := enters_of Tryz.func97 (by kernel_rfl) rfl
theorem eRel : Enters 68 := enters_of Tryz.func68 (by kernel_rfl) rfl
theorem cl_tells {w : World} {c : Cl} {v : Value} (h : ClAt w c v) : ∃ (g : Nat) (lb : Array Value), v = .func (.func g) #[] lb ∧ Enters g ∧ ∀ (t : Tk), t.t.length ≤ 1000 → Calls Tryz.prog g (#[tkA t] ++ lb) w fun e w' => e = .returned (.bool (c.test t)) ∧ Below w.heap.size w w' := by
  cases c with
  | kd n => obtain ⟨b, e, hb⟩ := h; exact ⟨_, _, e, eKind, fun t _ => kind1_any t n b w hb⟩
  | wd s => obtain ⟨b, e, hb⟩ := h; exact ⟨_, _, e, eWord, fun t _ => word1_any t s b w hb⟩
  | sg s => obtain ⟨b, e, hb⟩ := h; exact ⟨_, _, e, eSign, fun t _ => sign1_any t s b w hb⟩
  | nm => exact ⟨_, _, h, eName, fun t ht => isName_any t ht w⟩
  | rl => exact ⟨_, _, h, eRel, fun t _ => isRel_any t w⟩
theorem hmf (fn : Fn) (first cap : Array Value) (w : World) : (Instr.makeFunc fn first cap).run Tryz.prog w = .ok (.func fn first cap) w := rfl
theorem kindF_any (n : Nat) (w : World) : Calls Tryz.prog 19 #[.int .i64 (n : Nat)] w fun e w' => ∃ g lb, e = .returned (.func (.func g) #[] lb) ∧ ClAt w' (.kd n) (.func (.func g) #[] lb) ∧ Below w.heap.size w w' := by
  have hmf' := hmf
  go_enter Tryz.func19, Tryz.ntmps19
  go_wp2
  go_ret
  exact ⟨_, _, rfl, ⟨_, rfl, alloc_at w _⟩, (Below.refl _ _).alloc (Nat.le_refl _) _⟩
theorem wordF_any (s : List UInt8) (X : ByteArray) (hX : X = bs s) (w : World) : Calls Tryz.prog 36 #[.string X] w fun e w' => ∃ g lb, e = .returned (.func (.func g) #[] lb) ∧ ClAt w' (.wd s) (.func (.func g) #[] lb) ∧ Below w.heap.size w w' := by
  subst hX
  have hmf' := hmf
  go_enter Tryz.func36, Tryz.ntmps36
  go_wp2
  go_ret
  exact ⟨_, _, rfl, ⟨_, rfl, alloc_at w _⟩, (Below.refl _ _).alloc (Nat.le_refl _) _⟩
theorem signF_any (s : List UInt8) (X : ByteArray) (hX : X = bs s) (w : World) : Calls Tryz.prog 37 #[.string X] w fun e w' => ∃ g lb, e = .returned (.func (.func g) #[] lb) ∧ ClAt w' (.sg s) (.func (.func g) #[] lb) ∧ Below w.heap.size w w' := by
  subst hX
  have hmf' := hmf
  go_enter Tryz.func37, Tryz.ntmps37
  go_wp2
  go_ret
  exact ⟨_, _, rfl, ⟨_, rfl, alloc_at w _⟩, (Below.refl _ _).alloc (Nat.le_refl _) _⟩
/-- tokens whose texts are short -/
def Short (l : List Tk) : Prop := ∀ t ∈ l, t.t.length ≤ 256
theorem Short.hd {l : List Tk} (h : Short l) : (hd l).t.length ≤ 256 := by
  cases l with
  | nil => show ([] : List UInt8).length ≤ 256; simp
  | cons c r => exact h c (by simp)
theorem Short.tail {l : List Tk} (h : Short l) : Short l.tail := fun t ht => h t (List.mem_of_mem_tail ht)
theorem at_any (bp tb : Nat) (l : List Tk) (c : Cl) (v : Value) (w : World) (hp : PAt w bp tb l) (hc : ClAt w c v) (h0 : 0 < l.length) (h99 : l.length ≤ 99) (hs : (hd l).t.length ≤ 256) :
    Calls Tryz.prog 18 #[.pointer (some ⟨bp, 0, none⟩), v] w fun e w' => e = .returned (.bool (c.test (hd l))) ∧ Below w.heap.size w w' := by
  obtain ⟨g, lb, rfl, eg, hcall⟩ := cl_tells hc
  obtain ⟨_, _, off, cap, hb, hcap, ht⟩ := hp
  have p0 : w.cell? ⟨bp, 0, none⟩ = some (.slice (some ⟨tb, off, none⟩) l.length cap) := cell_at hb rfl
  have hh := ht.head h0
  have t0 : w.cell? ⟨tb, off, none⟩ = some (.int .i64 ((hd l).k : Nat)) := hh 0 _ rfl
  have t1 : w.cell? ⟨tb, off + 1, none⟩ = some (.string (bs (hd l).t)) := hh 1 _ rfl
  have t2 : w.cell? ⟨tb, off + 2, none⟩ = some (.int .u64 ((hd l).n : Nat)) := hh 2 _ rfl
  have t3 : w.cell? ⟨tb, off + 3, none⟩ = some (.int .i64 ((hd l).a : Nat)) := hh 3 _ rfl
  have HC := Lib.hid (hcall (hd l) (by omega))
  obtain ⟨q, hq⟩ : ∃ q, c.test (hd l) = q := ⟨_, rfl⟩
  obtain ⟨n, hn⟩ : ∃ n, l.length = n := ⟨_, rfl⟩
  rw [hq] at HC ⊢
  rw [hn] at p0 h0 h99 hcap
  clear hcall hq hh ht hb hc hn
  unfold Enters at eg
  go_enter Tryz.func18, Tryz.ntmps18
  go_wp2_with (go_at_fn g; refine (HC.out).mono ?_; rintro e w2 ⟨rfl, hb2⟩; have HB2 := Lib.hid hb2; clear hb2)
  go_ret
  exact ⟨rfl, HB2.out⟩
theorem skip_no (bp tb : Nat) (l : List Tk) (c : Cl) (v : Value) (w : World) (hp : PAt w bp tb l) (hc : ClAt w c v) (h0 : 0 < l.length) (h99 : l.length ≤ 99) (hs : (hd l).t.length ≤ 256) (ht : c.test (hd l) = false) :
    Calls Tryz.prog 39 #[.pointer (some ⟨bp, 0, none⟩), v] w fun e w' => e = .returned (.bool false) ∧ Below w.heap.size w w' := by
  have HA := at_any bp tb l c v w hp hc h0 h99 hs
  rw [ht] at HA
  have HA' := Lib.hid HA
  clear HA ht hs hc hp
  go_enter Tryz.func39, Tryz.ntmps39
  go_wp2_with (go_at_call 18; refine (HA'.out).mono ?_; rintro e w2 ⟨rfl, hb2⟩; have HB2 := Lib.hid hb2; clear hb2)
  go_ret
  exact ⟨rfl, HB2.out⟩
theorem skip_yes (bp tb : Nat) (l : List Tk) (c : Cl) (v : Value) (w : World) (hp : PAt w bp tb l) (hc : ClAt w c v) (h0 : 1 < l.length) (h99 : l.length ≤ 99) (hs : (hd l).t.length ≤ 256) (ht : c.test (hd l) = true) :
    Calls Tryz.prog 39 #[.pointer (some ⟨bp, 0, none⟩), v] w fun e w' => e = .returned (.bool true) ∧ PAt w' bp tb l.tail ∧ Only (fun k => k = bp) w w' := by
  have HA := at_any bp tb l c v w hp hc (by omega) h99 hs
  rw [ht] at HA
  have HA' := Lib.hid HA
  clear HA ht hs hc
  have HX := Lib.hid (fun wx (hb : Below w.heap.size w wx) => hp.next hb)
  obtain ⟨hne, hlt, off, cap, hb, hcap, htk⟩ := hp
  have HT := Lib.hid (show ∀ wx, Below w.heap.size w wx → TksAt wx tb (off + 4) l.tail from fun wx hb => (htk.held (hb.block tb hlt)).tail)
  have HBx := Lib.hid (fun wx (hx : Below w.heap.size w wx) => rowKeep hx hb)
  have hn : l.tail.length = l.length - 1 := by simp
  have HN := Lib.hid hn
  have hne1 : ¬ (cap : Int) - 1 = 0 := by omega
  have hne2 : ¬ cap - 1 = 0 := by omega
  have hne3 : ¬ cap = 1 := by omega
  clear hn htk hb
  go_enter Tryz.func39, Tryz.ntmps39
  go_wp2_with (go_at_call 18; refine (HA'.out).mono ?_; rintro e w2 ⟨rfl, hb2⟩; have HB2 := Lib.hid hb2; have hbx := HBx.out w2 hb2; have p0 : w2.cell? ⟨bp, 0, none⟩ = some (.slice (some ⟨tb, off, none⟩) l.length cap) := cell_at hbx rfl; have f0 := free_at (j := 0) hbx; have HX2 := Lib.hid hbx; clear hbx hb2)
  go_ret
  refine ⟨rfl, ⟨hne, by have := HB2.out.size; simp; omega, off + 4, cap - 1, ?_, by rw [HN.out]; omega, ?_⟩, (Only.of_below (S := fun k => k = bp) HB2.out).setCell (p := ⟨bp, 0, none⟩) (.inl rfl) _⟩
  · rw [HN.out]; exact set_at (j := 0) HX2.out
  · exact (HT.out w2 HB2.out).held (set_other hne)
end Go.Proofs.YtbejpgoedenpmaaGreatDoor
