/- get: First and Get. -/
import Derived.Test.YtmnemddagcfjgaaGreatDoorGetCatch
namespace Go.Proofs.YtmnemddagcfjgaaGreatDoor
open Go.RowKit
set_option linter.unusedVariables false
def firstD (L : Nat → TypeV) (len : Nat) (t : Int) (b : ByteArray) : DR := if hasT L len t then decF L b (t.toNat + 1) t.toNat 0 else .bad 8
def leftD (b : ByteArray) : DR → DR
  | .bad x => .bad x
  | .ok V n => if n < b.size then .bad 1 else .ok V n
def getD (L : Nat → TypeV) (len : Nat) (t : Int) (b : ByteArray) : DR := if hasT L len t then (if 512 < b.size then .bad 3 else leftD b (decF L b (t.toNat + 1) t.toNat 0)) else .bad 8
/-- what First answers -/
def FirstRes (d : DR) (w : World) (e : Ending) (w' : World) : Prop :=
  match d with
  | .bad x => e = .returned (.tuple #[.agg #[.int .i64 0, .int .u64 0, .string ⟨#[]⟩, .slice none 0 0], .int .i64 0, .int .i64 x]) ∧ Below w.heap.size w w'
  | .ok V n => ∃ U : VT, e = .returned (.tuple #[.agg #[.int .i64 U.kind, .int .u64 U.num, .string U.text, .slice U.ia U.len U.cap], .int .i64 (n : Nat), .int .i64 0]) ∧ sameT V U = true ∧ ValAt w' (fun k => w.heap.size ≤ k) U ∧ Below w.heap.size w w'
def GetRes (d : DR) (w : World) (e : Ending) (w' : World) : Prop :=
  match d with
  | .bad x => e = .returned (.tuple #[.agg #[.int .i64 0, .int .u64 0, .string ⟨#[]⟩, .slice none 0 0], .int .i64 x]) ∧ Below w.heap.size w w'
  | .ok V n => ∃ U : VT, e = .returned (.tuple #[.agg #[.int .i64 U.kind, .int .u64 U.num, .string U.text, .slice U.ia U.len U.cap], .int .i64 0]) ∧ sameT V U = true ∧ ValAt w' (fun k => w.heap.size ≤ k) U ∧ Below w.heap.size w w'
theorem hmf11 : ∀ (fn : Fn) (first cap : Array Value) (w : World), (Instr.makeFunc fn first cap).run Tryz.prog w = .ok (.func fn first cap) w := fun _ _ _ _ => rfl
theorem two_at (w : World) (o1 o2 : Obj) : ((w.alloc o1).alloc o2).heap[w.heap.size]? = some o1 ∧ ((w.alloc o1).alloc o2).heap[w.heap.size + 1]? = some o2 ∧ ((w.alloc o1).alloc o2).heap.size = w.heap.size + 1 + 1 := by
  have e1 : ∀ (w : World) (o : Obj), (w.alloc o).heap.size = w.heap.size + 1 := fun w o => by simp
  refine ⟨alloc_old (alloc_at w o1), ?_, by simp only [e1]⟩
  have h := alloc_at (w.alloc o1) o2
  rwa [e1] at h
abbrev errO : Obj := .cells #[.int .i64 0] 29
abbrev intO : Obj := .cells #[.int .i64 0] 3
theorem three_at (w : World) (o1 o2 o3 : Obj) : (((w.alloc o1).alloc o2).alloc o3).heap[w.heap.size]? = some o1 ∧ (((w.alloc o1).alloc o2).alloc o3).heap[w.heap.size + 1]? = some o2 ∧ (((w.alloc o1).alloc o2).alloc o3).heap[w.heap.size + 1 + 1]? = some o3 ∧ (((w.alloc o1).alloc o2).alloc o3).heap.size = w.heap.size + 1 + 1 + 1 := by
  have e1 : ∀ (w : World) (o : Obj), (w.alloc o).heap.size = w.heap.size + 1 := fun w o => by simp
  refine ⟨alloc_old (alloc_old (alloc_at w o1)), ?_, ?_, by simp only [e1]⟩
  · have h := alloc_old (o := o3) (alloc_at (w.alloc o1) o2)
    rwa [e1] at h
  · have h := alloc_at ((w.alloc o1).alloc o2) o3
    rwa [e1, e1] at h
theorem RdAt.old {w0 w : World} {c a k : Nat} {b : ByteArray} {o : Obj} (h : RdAt w0 c b a w) (hk : w0.heap[k]? = some o) : w.heap[k]? = some o := (h.low.block k (lt_of_block hk)).trans hk
theorem drewN_at {W : World} {g : Nat} {o : Obj} (m : Nat) (h : W.heap[g]? = some o) : (W.drewN m).heap[g]? = some o := h
theorem only_row {S : Nat → Prop} {a w : World} (h : Only S a w) {g : Nat} (hg : S g ∨ a.heap.size ≤ g) (r : Array Value) : Only S a (w.setRow g r) :=
  ⟨h.os, h.tape, h.output, by simpa [World.setRow] using h.size, fun k hk hn => (setRow_other _ _ _ _ (fun e => by rcases hg with hg | hg; exact hn (e ▸ hg); omega)).trans (h.block k hk hn)⟩
theorem top_end {w w3 w'' : World} {gv ge N : Nat} {U : VT} (hv : ValAt w3 (fun k => N ≤ k) U) (ho : Only (fun k => k = gv ∨ k = ge) w3 w'') (h1 : gv < N) (h2 : ge < N) (hw : w.heap.size ≤ N) : ValAt w'' (fun k => w.heap.size ≤ k) U :=
  ValAt.held_of (fun k hk => by omega) ho.size (fun k hk hl => ho.block k hl (by omega)) _ hv
theorem top_end3 {w w3 w'' : World} {gv gn ge N : Nat} {U : VT} (hv : ValAt w3 (fun k => N ≤ k) U) (ho : Only (fun k => k = gv ∨ k = gn ∨ k = ge) w3 w'') (h1 : gv < N) (h0 : gn < N) (h2 : ge < N) (hw : w.heap.size ≤ N) : ValAt w'' (fun k => w.heap.size ≤ k) U :=
  ValAt.held_of (fun k hk => by omega) ho.size (fun k hk hl => ho.block k hl (by omega)) _ hv
theorem top_low {w W2 w4 : World} (h : Below w.heap.size w W2) (k : Below W2.heap.size W2 w4) {g : Nat} (hg : w.heap.size ≤ g) (r : Array Value) (m : Nat) : Below w.heap.size w ((w4.setRow g r).drewN m) := drewN_below (below_setRow (below_step8' h k) hg r) m
set_option maxRecDepth 100000 in
set_option maxHeartbeats 4000000 in
theorem get_no (ao : Option Addr) (len cap : Nat) (L : Nat → TypeV) (hlen : len ≤ 1000000) (hcap : len ≤ cap) (b : ByteArray) (hs : b.size ≤ 281474976710656) (w : World) (H : ∀ i, i < len → TypeAt w ao i (L i)) (t : Int) (hT : hasT L len t = false) :
    Calls Tryz.prog 8 #[.slice ao len cap, .int .i64 (t : Int), .string b] w (GetRes (.bad 8) w) := by
  have hmf := hmf11
  have HB := Lib.hid (((Below.refl w.heap.size w).alloc (Nat.le_refl _) (va11 0 0 ⟨#[]⟩ none 0 0)).alloc (by simp) errO)
  obtain ⟨g1, g2, g3⟩ := two_at w (va11 0 0 ⟨#[]⟩ none 0 0) errO
  have HG1 := Lib.hid g1
  have HG2 := Lib.hid g2
  have HSZ := Lib.hid g3
  have HNEW := Lib.hid (rnew_bad ao len cap L hlen hcap t b _ (hold H HB.out) hT)
  clear g1 g2 g3 H hT
  go_enter_defers Tryz.func8, Tryz.ntmps8
  go_upto_region 1 with (fail)
  generalize (w.alloc (va11 0 0 ⟨#[]⟩ none 0 0)).alloc errO = W2 at *
  go_wp2_with (go_at_call 19; refine (HNEW.out).mono ?_; rintro e w1 ⟨rfl, hb1⟩; have HB1 := Lib.hid (below_step8' HB.out hb1); have HV := Lib.hid (box_keep HG1.out hb1); have HE := Lib.hid (box_keep HG2.out hb1); clear hb1)
  refine leaves_cons (f := 18) (args := #[.pointer (some ⟨w.heap.size, 0, none⟩), .pointer (some ⟨w.heap.size + 1, 0, none⟩)]) (by simp) (by simp [go_sem]) ?_
  refine (catchGet_bad (w.heap.size) (w.heap.size + 1) (by omega) _ _ _ _ _ 8 [] _ HV.out HE.out).mono ?_
  rintro e u' w'' ⟨rfl, rfl, h1, h2, h3⟩
  have b0 := cell_at (j := 0) h1 rfl
  have b1 := cell_at (j := 1) h1 rfl
  have b2 := cell_at (j := 2) h1 rfl
  have b3 := cell_at (j := 3) h1 rfl
  have b5 := cell_at (j := 0) h2 rfl
  show Leaves _ _ _ _ [] .returning w''
  refine ⟨.tuple #[.agg #[.int .i64 0, .int .u64 0, .string ⟨#[]⟩, .slice none 0 0], .int .i64 8], ?_, rfl, Only.below_step HB1.out h3 (fun k hk => by rcases hk with rfl | rfl <;> omega) (Nat.le_refl _)⟩
  simp [results, Tryz.results8, asAddr, go_sem, b0, b1, b2, b3, b5]
set_option maxRecDepth 100000 in
set_option maxHeartbeats 4000000 in
theorem first_no (ao : Option Addr) (len cap : Nat) (L : Nat → TypeV) (hlen : len ≤ 1000000) (hcap : len ≤ cap) (b : ByteArray) (hs : b.size ≤ 281474976710656) (w : World) (H : ∀ i, i < len → TypeAt w ao i (L i)) (t : Int) (hT : hasT L len t = false) :
    Calls Tryz.prog 10 #[.slice ao len cap, .int .i64 (t : Int), .string b] w (FirstRes (.bad 8) w) := by
  have hmf := hmf11
  have HB := Lib.hid ((((Below.refl w.heap.size w).alloc (Nat.le_refl _) (va11 0 0 ⟨#[]⟩ none 0 0)).alloc (by simp) intO).alloc (by simp; omega) errO)
  obtain ⟨g1, gn1, g2, g3⟩ := three_at w (va11 0 0 ⟨#[]⟩ none 0 0) intO errO
  have HGN := Lib.hid gn1
  have HG1 := Lib.hid g1
  have HG2 := Lib.hid g2
  have HSZ := Lib.hid g3
  have HNEW := Lib.hid (rnew_bad ao len cap L hlen hcap t b _ (hold H HB.out) hT)
  clear g1 g2 g3 gn1 H hT
  go_enter_defers Tryz.func10, Tryz.ntmps10
  go_upto_region 1 with (fail)
  generalize ((w.alloc (va11 0 0 ⟨#[]⟩ none 0 0)).alloc intO).alloc errO = W2 at *
  go_wp2_with (go_at_call 19; refine (HNEW.out).mono ?_; rintro e w1 ⟨rfl, hb1⟩; have HB1 := Lib.hid (below_step8' HB.out hb1); have HV := Lib.hid (box_keep HG1.out hb1); have HE := Lib.hid (box_keep HG2.out hb1); have HN := Lib.hid (box_keep HGN.out hb1); clear hb1)
  refine leaves_cons (f := 24) (args := #[.pointer (some ⟨w.heap.size, 0, none⟩), .pointer (some ⟨w.heap.size + 1, 0, none⟩), .pointer (some ⟨w.heap.size + 1 + 1, 0, none⟩)]) (by simp) (by simp [go_sem]) ?_
  refine (catchFirst_bad (w.heap.size) (w.heap.size + 1) (w.heap.size + 1 + 1) (by omega) (by omega) (by omega) _ _ _ _ _ _ 8 [] _ HV.out HN.out HE.out).mono ?_
  rintro e u' w'' ⟨rfl, rfl, h1, hn1, h2, h3⟩
  have b0 := cell_at (j := 0) h1 rfl
  have b1 := cell_at (j := 1) h1 rfl
  have b2 := cell_at (j := 2) h1 rfl
  have b3 := cell_at (j := 3) h1 rfl
  have b5 := cell_at (j := 0) h2 rfl
  have b4 := cell_at (j := 0) hn1 rfl
  show Leaves _ _ _ _ [] .returning w''
  refine ⟨.tuple #[.agg #[.int .i64 0, .int .u64 0, .string ⟨#[]⟩, .slice none 0 0], .int .i64 0, .int .i64 8], ?_, rfl, Only.below_step HB1.out h3 (fun k hk => by rcases hk with rfl | rfl | rfl <;> omega) (Nat.le_refl _)⟩
  simp [results, Tryz.results10, asAddr, go_sem, b0, b1, b2, b3, b4, b5]
set_option maxRecDepth 100000 in
set_option maxHeartbeats 4000000 in
theorem get_long (ao : Option Addr) (len cap : Nat) (L : Nat → TypeV) (hlen : len ≤ 1000000) (hcap : len ≤ cap) (b : ByteArray) (hs : b.size ≤ 281474976710656) (w : World) (H : ∀ i, i < len → TypeAt w ao i (L i)) (t : Nat) (hT : hasT L len (t : Nat) = true) (hl : 512 < b.size) :
    Calls Tryz.prog 8 #[.slice ao len cap, .int .i64 (t : Int), .string b] w (GetRes (.bad 3) w) := by
  have hmf := hmf11
  have HB := Lib.hid (((Below.refl w.heap.size w).alloc (Nat.le_refl _) (va11 0 0 ⟨#[]⟩ none 0 0)).alloc (by simp) errO)
  obtain ⟨g1, g2, g3⟩ := two_at w (va11 0 0 ⟨#[]⟩ none 0 0) errO
  have HG1 := Lib.hid g1
  have HG2 := Lib.hid g2
  have HSZ := Lib.hid g3
  have HNEW := Lib.hid (rnew_ok ao len cap L hlen hcap (t : Nat) b _ (hold H HB.out) hT)
  have d0 : decide ((512 : Int) < (b.size : Nat)) = true := decide_eq_true (by omega)
  have hm : b.size ≤ maxLen := by unfold maxLen; omega
  have HS := Lib.hid hs
  clear g1 g2 g3 H hT
  go_enter_defers Tryz.func8, Tryz.ntmps8
  go_upto_region 1 with (fail)
  generalize (w.alloc (va11 0 0 ⟨#[]⟩ none 0 0)).alloc errO = W2 at *
  go_wp2_with (first
    | (go_at_call 19; refine (HNEW.out).mono ?_; rintro e w1 ⟨c, rfl, hr⟩; have HR := Lib.hid (hr.alloc (rdO ao len cap c)); have HQ := Lib.hid (alloc_at w1 (rdO ao len cap c)); have hcw := lt_of_block hr.cur; have hcu := hr.up; have hlw := hr.low.size; clear hr)
    | (go_at_call 20; refine (stopIf_bad _ _).mono ?_; rintro e w3 ⟨rfl, rfl⟩))
  have HV := Lib.hid (HR.out.old HG1.out)
  have HE := Lib.hid (HR.out.old HG2.out)
  refine leaves_cons (f := 18) (args := #[.pointer (some ⟨w.heap.size, 0, none⟩), .pointer (some ⟨w.heap.size + 1, 0, none⟩)]) (by simp) (by simp [go_sem]) ?_
  refine (catchGet_bad (w.heap.size) (w.heap.size + 1) (by omega) _ _ _ _ _ 3 [] _ HV.out HE.out).mono ?_
  rintro e u' w'' ⟨rfl, rfl, h1, h2, h3⟩
  have b0 := cell_at (j := 0) h1 rfl
  have b1 := cell_at (j := 1) h1 rfl
  have b2 := cell_at (j := 2) h1 rfl
  have b3 := cell_at (j := 3) h1 rfl
  have b5 := cell_at (j := 0) h2 rfl
  show Leaves _ _ _ _ [] .returning w''
  refine ⟨.tuple #[.agg #[.int .i64 0, .int .u64 0, .string ⟨#[]⟩, .slice none 0 0], .int .i64 3], ?_, rfl, Only.below_step (below_step8' HB.out HR.out.low) h3 (fun k hk => by rcases hk with rfl | rfl <;> omega) (Nat.le_refl _)⟩
  simp [results, Tryz.results8, asAddr, go_sem, b0, b1, b2, b3, b5]
set_option maxRecDepth 100000 in
set_option maxHeartbeats 4000000 in
theorem get_bad (ao : Option Addr) (len cap : Nat) (L : Nat → TypeV) (hlen : len ≤ 1000000) (hcap : len ≤ cap) (b : ByteArray) (hs : b.size ≤ 281474976710656) (w : World) (H : ∀ i, i < len → TypeAt w ao i (L i)) (t : Nat) (hT : hasT L len (t : Nat) = true) (hl : ¬ 512 < b.size) (d : DR) (hval : ∀ (w0 : World) (c : Nat), (∀ i, i < len → TypeAt w0 ao i (L i)) → ValC w0 c b ao len cap t (fun a => if a = 0 then d else decF L b (t + 1) t a)) (x : Int) (hd : d = .bad x) :
    Calls Tryz.prog 8 #[.slice ao len cap, .int .i64 (t : Int), .string b] w (GetRes (.bad x) w) := by
  have hmf := hmf11
  have HB := Lib.hid (((Below.refl w.heap.size w).alloc (Nat.le_refl _) (va11 0 0 ⟨#[]⟩ none 0 0)).alloc (by simp) errO)
  obtain ⟨g1, g2, g3⟩ := two_at w (va11 0 0 ⟨#[]⟩ none 0 0) errO
  have HG1 := Lib.hid g1
  have HG2 := Lib.hid g2
  have HSZ := Lib.hid g3
  have HNEW := Lib.hid (rnew_ok ao len cap L hlen hcap (t : Nat) b _ (hold H HB.out) hT)
  have hvl := fun c wx h' => hval _ c (hold H HB.out) wx 0 h'
  simp only [if_true] at hvl
  rw [hd] at hvl
  have HVAL := Lib.hid (show ∀ (c : Nat) (wx : World), RdAt _ c b 0 wx → Calls Tryz.prog 21 #[.agg #[.slice ao len cap, .pointer (some ⟨c, 0, none⟩)], .int .i64 (t : Nat)] wx (BadTo c x wx) from hvl)
  clear hvl
  have d0 : decide ((512 : Int) < (b.size : Nat)) = false := decide_eq_false (by omega)
  have hm : b.size ≤ maxLen := by unfold maxLen; omega
  clear g1 g2 g3 H hT hval
  go_enter_defers Tryz.func8, Tryz.ntmps8
  go_upto_region 1 with (fail)
  generalize (w.alloc (va11 0 0 ⟨#[]⟩ none 0 0)).alloc errO = W2 at *
  go_wp2_with (first
    | (go_at_call 19; refine (HNEW.out).mono ?_; rintro e w1 ⟨c, rfl, hr⟩; have HR := Lib.hid (hr.alloc (rdO ao len cap c)); have HQ := Lib.hid (alloc_at w1 (rdO ao len cap c)); have hcw := lt_of_block hr.cur; have hcu := hr.up; have hlw := hr.low.size; clear hr)
    | (go_at_call 20; refine (stopIf_ok _ _).mono ?_; rintro e w3 ⟨rfl, rfl⟩)
    | (go_at_call 21; refine (HVAL.out c _ HR.out).mono ?_; rintro e w4 ⟨rfl, ho⟩; have HB4 := Lib.hid (below_step8' HB.out (Only.below_step HR.out.low ho (fun k e => e ▸ HR.out.up) (Nat.le_refl _))); have HV := Lib.hid (only_at (HR.out.old HG1.out) (by have := lt_of_block HG1.out; omega) ho); have HE := Lib.hid (only_at (HR.out.old HG2.out) (by have := lt_of_block HG2.out; omega) ho); clear ho))
  refine leaves_cons (f := 18) (args := #[.pointer (some ⟨w.heap.size, 0, none⟩), .pointer (some ⟨w.heap.size + 1, 0, none⟩)]) (by simp) (by simp [go_sem]) ?_
  refine (catchGet_bad (w.heap.size) (w.heap.size + 1) (by omega) _ _ _ _ _ x [] _ HV.out HE.out).mono ?_
  rintro e u' w'' ⟨rfl, rfl, h1, h2, h3⟩
  have b0 := cell_at (j := 0) h1 rfl
  have b1 := cell_at (j := 1) h1 rfl
  have b2 := cell_at (j := 2) h1 rfl
  have b3 := cell_at (j := 3) h1 rfl
  have b5 := cell_at (j := 0) h2 rfl
  show Leaves _ _ _ _ [] .returning w''
  refine ⟨.tuple #[.agg #[.int .i64 0, .int .u64 0, .string ⟨#[]⟩, .slice none 0 0], .int .i64 x], ?_, rfl, Only.below_step HB4.out h3 (fun k hk => by rcases hk with rfl | rfl <;> omega) (Nat.le_refl _)⟩
  simp [results, Tryz.results8, asAddr, go_sem, b0, b1, b2, b3, b5]
set_option maxRecDepth 100000 in
set_option maxHeartbeats 4000000 in
theorem first_bad (ao : Option Addr) (len cap : Nat) (L : Nat → TypeV) (hlen : len ≤ 1000000) (hcap : len ≤ cap) (b : ByteArray) (hs : b.size ≤ 281474976710656) (w : World) (H : ∀ i, i < len → TypeAt w ao i (L i)) (t : Nat) (hT : hasT L len (t : Nat) = true) (d : DR) (hval : ∀ (w0 : World) (c : Nat), (∀ i, i < len → TypeAt w0 ao i (L i)) → ValC w0 c b ao len cap t (fun a => if a = 0 then d else decF L b (t + 1) t a)) (x : Int) (hd : d = .bad x) :
    Calls Tryz.prog 10 #[.slice ao len cap, .int .i64 (t : Int), .string b] w (FirstRes (.bad x) w) := by
  have hmf := hmf11
  have HB := Lib.hid ((((Below.refl w.heap.size w).alloc (Nat.le_refl _) (va11 0 0 ⟨#[]⟩ none 0 0)).alloc (by simp) intO).alloc (by simp; omega) errO)
  obtain ⟨g1, gn1, g2, g3⟩ := three_at w (va11 0 0 ⟨#[]⟩ none 0 0) intO errO
  have HGN := Lib.hid gn1
  have HG1 := Lib.hid g1
  have HG2 := Lib.hid g2
  have HSZ := Lib.hid g3
  have HNEW := Lib.hid (rnew_ok ao len cap L hlen hcap (t : Nat) b _ (hold H HB.out) hT)
  have hvl := fun c wx h' => hval _ c (hold H HB.out) wx 0 h'
  simp only [if_true] at hvl
  rw [hd] at hvl
  have HVAL := Lib.hid (show ∀ (c : Nat) (wx : World), RdAt _ c b 0 wx → Calls Tryz.prog 21 #[.agg #[.slice ao len cap, .pointer (some ⟨c, 0, none⟩)], .int .i64 (t : Nat)] wx (BadTo c x wx) from hvl)
  clear hvl
  have hm : b.size ≤ maxLen := by unfold maxLen; omega
  clear g1 g2 g3 gn1 H hT hval
  go_enter_defers Tryz.func10, Tryz.ntmps10
  go_upto_region 1 with (fail)
  generalize ((w.alloc (va11 0 0 ⟨#[]⟩ none 0 0)).alloc intO).alloc errO = W2 at *
  go_wp2_with (first
    | (go_at_call 19; refine (HNEW.out).mono ?_; rintro e w1 ⟨c, rfl, hr⟩; have HR := Lib.hid (hr.alloc (rdO ao len cap c)); have HQ := Lib.hid (alloc_at w1 (rdO ao len cap c)); have hcw := lt_of_block hr.cur; have hcu := hr.up; have hlw := hr.low.size; clear hr)
    | (go_at_call 21; refine (HVAL.out c _ HR.out).mono ?_; rintro e w4 ⟨rfl, ho⟩; have HB4 := Lib.hid (below_step8' HB.out (Only.below_step HR.out.low ho (fun k e => e ▸ HR.out.up) (Nat.le_refl _))); have HV := Lib.hid (only_at (HR.out.old HG1.out) (by have := lt_of_block HG1.out; omega) ho); have HE := Lib.hid (only_at (HR.out.old HG2.out) (by have := lt_of_block HG2.out; omega) ho); have HN := Lib.hid (only_at (HR.out.old HGN.out) (by have := lt_of_block HGN.out; omega) ho); clear ho))
  refine leaves_cons (f := 24) (args := #[.pointer (some ⟨w.heap.size, 0, none⟩), .pointer (some ⟨w.heap.size + 1, 0, none⟩), .pointer (some ⟨w.heap.size + 1 + 1, 0, none⟩)]) (by simp) (by simp [go_sem]) ?_
  refine (catchFirst_bad (w.heap.size) (w.heap.size + 1) (w.heap.size + 1 + 1) (by omega) (by omega) (by omega) _ _ _ _ _ _ x [] _ HV.out HN.out HE.out).mono ?_
  rintro e u' w'' ⟨rfl, rfl, h1, hn1, h2, h3⟩
  have b0 := cell_at (j := 0) h1 rfl
  have b1 := cell_at (j := 1) h1 rfl
  have b2 := cell_at (j := 2) h1 rfl
  have b3 := cell_at (j := 3) h1 rfl
  have b5 := cell_at (j := 0) h2 rfl
  have b4 := cell_at (j := 0) hn1 rfl
  show Leaves _ _ _ _ [] .returning w''
  refine ⟨.tuple #[.agg #[.int .i64 0, .int .u64 0, .string ⟨#[]⟩, .slice none 0 0], .int .i64 0, .int .i64 x], ?_, rfl, Only.below_step HB4.out h3 (fun k hk => by rcases hk with rfl | rfl | rfl <;> omega) (Nat.le_refl _)⟩
  simp [results, Tryz.results10, asAddr, go_sem, b0, b1, b2, b3, b4, b5]
set_option maxRecDepth 100000 in
set_option maxHeartbeats 4000000 in
theorem get_left (ao : Option Addr) (len cap : Nat) (L : Nat → TypeV) (hlen : len ≤ 1000000) (hcap : len ≤ cap) (b : ByteArray) (hs : b.size ≤ 281474976710656) (w : World) (H : ∀ i, i < len → TypeAt w ao i (L i)) (t : Nat) (hT : hasT L len (t : Nat) = true) (hl : ¬ 512 < b.size) (d : DR) (hval : ∀ (w0 : World) (c : Nat), (∀ i, i < len → TypeAt w0 ao i (L i)) → ValC w0 c b ao len cap t (fun a => if a = 0 then d else decF L b (t + 1) t a)) (V : VT) (n : Nat) (hd : d = .ok V n) (hnb : n < b.size) :
    Calls Tryz.prog 8 #[.slice ao len cap, .int .i64 (t : Int), .string b] w (GetRes (.bad 1) w) := by
  have hmf := hmf11
  have HB := Lib.hid (((Below.refl w.heap.size w).alloc (Nat.le_refl _) (va11 0 0 ⟨#[]⟩ none 0 0)).alloc (by simp) errO)
  obtain ⟨g1, g2, g3⟩ := two_at w (va11 0 0 ⟨#[]⟩ none 0 0) errO
  have HG1 := Lib.hid g1
  have HG2 := Lib.hid g2
  have HSZ := Lib.hid g3
  have HNEW := Lib.hid (rnew_ok ao len cap L hlen hcap (t : Nat) b _ (hold H HB.out) hT)
  have hvl := fun c wx h' => hval _ c (hold H HB.out) wx 0 h'
  simp only [if_true] at hvl
  rw [hd] at hvl
  have HVAL := Lib.hid (show ∀ (c : Nat) (wx : World), RdAt _ c b 0 wx → Calls Tryz.prog 21 #[.agg #[.slice ao len cap, .pointer (some ⟨c, 0, none⟩)], .int .i64 (t : Nat)] wx (ValTo _ c b n V wx) from hvl)
  clear hvl
  have d0 : decide ((512 : Int) < (b.size : Nat)) = false := decide_eq_false (by omega)
  have hm : b.size ≤ maxLen := by unfold maxLen; omega
  have HDN := Lib.hid (show dnE b (n : Nat) 0 = 1 by unfold dnE; rw [if_pos rfl, if_pos (by omega)])
  clear g1 g2 g3 H hT hval
  go_enter_defers Tryz.func8, Tryz.ntmps8
  go_upto_region 1 with (fail)
  generalize (w.alloc (va11 0 0 ⟨#[]⟩ none 0 0)).alloc errO = W2 at *
  go_wp2_with (first
    | (go_at_call 19; refine (HNEW.out).mono ?_; rintro e w1 ⟨c, rfl, hr⟩; have HR := Lib.hid (hr.alloc (rdO ao len cap c)); have HQ := Lib.hid (alloc_at w1 (rdO ao len cap c)); have hcw := lt_of_block hr.cur; have hcu := hr.up; have hlw := hr.low.size; clear hr)
    | (go_at_call 20; refine (stopIf_ok _ _).mono ?_; rintro e w3 ⟨rfl, rfl⟩)
    | (go_at_call 21; refine (HVAL.out c _ HR.out).mono ?_; rintro e w4 ⟨U, rfl, hU, hv, ho, hr4⟩; have HU := Lib.hid hU; have HVL := Lib.hid hv; have HO := Lib.hid ho; have HR4 := Lib.hid hr4; have HV := Lib.hid (HR4.out.old HG1.out); have HE := Lib.hid (HR4.out.old HG2.out); have hv1 := lt_of_block HG1.out; have he1 := lt_of_block HG2.out; have HQ4 := Lib.hid (setRow_heap _ _ _ #[.int .i64 U.kind, .int .u64 U.num, .string U.text, .slice U.ia U.len U.cap] _ _ HV.out); have HC4 := Lib.hid (show CurAt c b n 0 (w4.setRow (w.heap.size) #[.int .i64 U.kind, .int .u64 U.num, .string U.text, .slice U.ia U.len U.cap]) from (setRow_other _ _ _ _ (by omega)).trans HR4.out.cur); have HB4 := Lib.hid (show (w4.setRow (w.heap.size) #[.int .i64 U.kind, .int .u64 U.num, .string U.text, .slice U.ia U.len U.cap]).heap[w1.heap.size]? = some (rdO ao len cap c) from (setRow_other _ _ _ _ (by omega)).trans (only_at HQ.out (by omega) ho)); have HE4 := Lib.hid (show (w4.setRow (w.heap.size) #[.int .i64 U.kind, .int .u64 U.num, .string U.text, .slice U.ia U.len U.cap]).heap[w.heap.size + 1]? = some errO from (setRow_other _ _ _ _ (by omega)).trans HE.out); have z1 := cell_at (j := 1) HB4.out rfl; have y0 := cell_at (j := 0) HQ4.out rfl; have y1 := cell_at (j := 1) HQ4.out rfl; have y2 := cell_at (j := 2) HQ4.out rfl; have y3 := cell_at (j := 3) HQ4.out rfl; clear hU hv ho hr4)
    | (refine wpList_store_rowTo rfl 28 _ _ rfl rfl (w.heap.size) #[.int .i64 U.kind, .int .u64 U.num, .string U.text, .slice U.ia U.len U.cap] rfl rfl _ _ HV.out (by kernel_rfl) (by kernel_rfl) (by kernel_rfl) ?_)
    | (go_at_call 23; refine (done_any c b n 0 _ HC4.out).mono ?_; rintro e w5 ⟨rfl, m5, rfl⟩)
    | (go_at_call 22; refine (stopAt_bad _ (by rw [HDN.out]; decide) _).mono ?_; rintro e w6 ⟨rfl, rfl⟩))
  rw [HDN.out]
  refine leaves_cons (f := 18) (args := #[.pointer (some ⟨w.heap.size, 0, none⟩), .pointer (some ⟨w.heap.size + 1, 0, none⟩)]) (by simp) (by simp [go_sem]) ?_
  refine (catchGet_bad (w.heap.size) (w.heap.size + 1) (by omega) _ _ _ _ _ 1 [] _ (drewN_at m5 HQ4.out) (drewN_at m5 HE4.out)).mono ?_
  rintro e u' w'' ⟨rfl, rfl, h1, h2, h3⟩
  have b0 := cell_at (j := 0) h1 rfl
  have b1 := cell_at (j := 1) h1 rfl
  have b2 := cell_at (j := 2) h1 rfl
  have b3 := cell_at (j := 3) h1 rfl
  have b5 := cell_at (j := 0) h2 rfl
  show Leaves _ _ _ _ [] .returning w''
  refine ⟨.tuple #[.agg #[.int .i64 0, .int .u64 0, .string ⟨#[]⟩, .slice none 0 0], .int .i64 1], ?_, rfl, Only.below_step (top_low HB.out HR4.out.low (Nat.le_refl _) _ m5) h3 (fun k hk => by rcases hk with rfl | rfl <;> omega) (Nat.le_refl _)⟩
  simp [results, Tryz.results8, asAddr, go_sem, b0, b1, b2, b3, b5]
set_option maxRecDepth 100000 in
set_option maxHeartbeats 4000000 in
theorem get_ok (ao : Option Addr) (len cap : Nat) (L : Nat → TypeV) (hlen : len ≤ 1000000) (hcap : len ≤ cap) (b : ByteArray) (hs : b.size ≤ 281474976710656) (w : World) (H : ∀ i, i < len → TypeAt w ao i (L i)) (t : Nat) (hT : hasT L len (t : Nat) = true) (hl : ¬ 512 < b.size) (d : DR) (hval : ∀ (w0 : World) (c : Nat), (∀ i, i < len → TypeAt w0 ao i (L i)) → ValC w0 c b ao len cap t (fun a => if a = 0 then d else decF L b (t + 1) t a)) (V : VT) (n : Nat) (hd : d = .ok V n) (hnb : ¬ n < b.size) :
    Calls Tryz.prog 8 #[.slice ao len cap, .int .i64 (t : Int), .string b] w (GetRes (.ok V n) w) := by
  have hmf := hmf11
  have HB := Lib.hid (((Below.refl w.heap.size w).alloc (Nat.le_refl _) (va11 0 0 ⟨#[]⟩ none 0 0)).alloc (by simp) errO)
  obtain ⟨g1, g2, g3⟩ := two_at w (va11 0 0 ⟨#[]⟩ none 0 0) errO
  have HG1 := Lib.hid g1
  have HG2 := Lib.hid g2
  have HSZ := Lib.hid g3
  have HNEW := Lib.hid (rnew_ok ao len cap L hlen hcap (t : Nat) b _ (hold H HB.out) hT)
  have hvl := fun c wx h' => hval _ c (hold H HB.out) wx 0 h'
  simp only [if_true] at hvl
  rw [hd] at hvl
  have HVAL := Lib.hid (show ∀ (c : Nat) (wx : World), RdAt _ c b 0 wx → Calls Tryz.prog 21 #[.agg #[.slice ao len cap, .pointer (some ⟨c, 0, none⟩)], .int .i64 (t : Nat)] wx (ValTo _ c b n V wx) from hvl)
  clear hvl
  have d0 : decide ((512 : Int) < (b.size : Nat)) = false := decide_eq_false (by omega)
  have hm : b.size ≤ maxLen := by unfold maxLen; omega
  have HDN := Lib.hid (show dnE b (n : Nat) 0 = 0 by unfold dnE; rw [if_pos rfl, if_neg (by omega)])
  clear g1 g2 g3 H hT hval
  go_enter_defers Tryz.func8, Tryz.ntmps8
  go_upto_region 1 with (fail)
  generalize (w.alloc (va11 0 0 ⟨#[]⟩ none 0 0)).alloc errO = W2 at *
  go_wp2_with (first
    | (go_at_call 19; refine (HNEW.out).mono ?_; rintro e w1 ⟨c, rfl, hr⟩; have HR := Lib.hid (hr.alloc (rdO ao len cap c)); have HQ := Lib.hid (alloc_at w1 (rdO ao len cap c)); have hcw := lt_of_block hr.cur; have hcu := hr.up; have hlw := hr.low.size; clear hr)
    | (go_at_call 20; refine (stopIf_ok _ _).mono ?_; rintro e w3 ⟨rfl, rfl⟩)
    | (go_at_call 21; refine (HVAL.out c _ HR.out).mono ?_; rintro e w4 ⟨U, rfl, hU, hv, ho, hr4⟩; have HU := Lib.hid hU; have HVL := Lib.hid hv; have HO := Lib.hid ho; have HR4 := Lib.hid hr4; have HV := Lib.hid (HR4.out.old HG1.out); have HE := Lib.hid (HR4.out.old HG2.out); have hv1 := lt_of_block HG1.out; have he1 := lt_of_block HG2.out; have HQ4 := Lib.hid (setRow_heap _ _ _ #[.int .i64 U.kind, .int .u64 U.num, .string U.text, .slice U.ia U.len U.cap] _ _ HV.out); have HC4 := Lib.hid (show CurAt c b n 0 (w4.setRow (w.heap.size) #[.int .i64 U.kind, .int .u64 U.num, .string U.text, .slice U.ia U.len U.cap]) from (setRow_other _ _ _ _ (by omega)).trans HR4.out.cur); have HB4 := Lib.hid (show (w4.setRow (w.heap.size) #[.int .i64 U.kind, .int .u64 U.num, .string U.text, .slice U.ia U.len U.cap]).heap[w1.heap.size]? = some (rdO ao len cap c) from (setRow_other _ _ _ _ (by omega)).trans (only_at HQ.out (by omega) ho)); have HE4 := Lib.hid (show (w4.setRow (w.heap.size) #[.int .i64 U.kind, .int .u64 U.num, .string U.text, .slice U.ia U.len U.cap]).heap[w.heap.size + 1]? = some errO from (setRow_other _ _ _ _ (by omega)).trans HE.out); have z1 := cell_at (j := 1) HB4.out rfl; have y0 := cell_at (j := 0) HQ4.out rfl; have y1 := cell_at (j := 1) HQ4.out rfl; have y2 := cell_at (j := 2) HQ4.out rfl; have y3 := cell_at (j := 3) HQ4.out rfl; clear hU hv ho hr4)
    | (refine wpList_store_rowTo rfl 28 _ _ rfl rfl (w.heap.size) #[.int .i64 U.kind, .int .u64 U.num, .string U.text, .slice U.ia U.len U.cap] rfl rfl _ _ HV.out (by kernel_rfl) (by kernel_rfl) (by kernel_rfl) ?_)
    | (go_at_call 23; refine (done_any c b n 0 _ HC4.out).mono ?_; rintro e w5 ⟨rfl, m5, rfl⟩; rw [HDN.out])
    | (go_at_call 22; refine (stopAt_ok _).mono ?_; rintro e w6 ⟨rfl, rfl⟩)
    | (refine wpList_store_rowTo rfl 28 _ _ rfl rfl (w.heap.size) #[.int .i64 U.kind, .int .u64 U.num, .string U.text, .slice U.ia U.len U.cap] rfl rfl _ _ (drewN_at m5 HQ4.out) (by kernel_rfl) (by kernel_rfl) (by kernel_rfl) ?_; have HE7 := Lib.hid (show (((w4.setRow (w.heap.size) #[.int .i64 U.kind, .int .u64 U.num, .string U.text, .slice U.ia U.len U.cap]).drewN m5).setRow (w.heap.size) #[.int .i64 U.kind, .int .u64 U.num, .string U.text, .slice U.ia U.len U.cap]).heap[w.heap.size + 1]? = some errO from (setRow_other _ _ _ _ (by omega)).trans (drewN_at m5 HE4.out)); have e0 := cell_at (j := 0) HE7.out rfl; have f0 := free_at (j := 0) HE7.out))
  have HQ8 := Lib.hid (put_at (p := ⟨w.heap.size + 1, 0, none⟩) (u := .int .i64 0) (setRow_heap _ (w.heap.size) _ #[.int .i64 U.kind, .int .u64 U.num, .string U.text, .slice U.ia U.len U.cap] _ _ (drewN_at m5 HQ4.out)) (by show w.heap.size ≠ w.heap.size + 1; omega))
  have HE8 := Lib.hid (set_at (j := 0) (u := .int .i64 0) HE7.out)
  refine leaves_cons (f := 18) (args := #[.pointer (some ⟨w.heap.size, 0, none⟩), .pointer (some ⟨w.heap.size + 1, 0, none⟩)]) (by simp) (by simp [go_sem]) ?_
  refine (catchGet_idle (w.heap.size) (w.heap.size + 1) _).mono ?_
  rintro e u' w'' ⟨rfl, rfl, hbe⟩
  have h1 := box_keep HQ8.out hbe
  have h2 := box_keep HE8.out hbe
  have b0 := cell_at (j := 0) h1 rfl
  have b1 := cell_at (j := 1) h1 rfl
  have b2 := cell_at (j := 2) h1 rfl
  have b3 := cell_at (j := 3) h1 rfl
  have b5 := cell_at (j := 0) h2 rfl
  have HO8 := ((((only_row (only_row (Only.refl (fun k => k = w.heap.size ∨ k = w.heap.size + 1) w4) (.inl (.inl rfl)) #[.int .i64 U.kind, .int .u64 U.num, .string U.text, .slice U.ia U.len U.cap] |>.drewN m5) (.inl (.inl rfl)) #[.int .i64 U.kind, .int .u64 U.num, .string U.text, .slice U.ia U.len U.cap])).setCell (p := ⟨w.heap.size + 1, 0, none⟩) (.inl (.inr rfl)) (.int .i64 0))).step hbe
  have hbw := below_step8' HB.out HR4.out.low
  have hvt := top_end (w := w) HVL.out HO8 (by simp; omega) (by simp; omega) (by simp; omega)
  show Leaves _ _ _ _ [] .returning w''
  refine ⟨.tuple #[.agg #[.int .i64 U.kind, .int .u64 U.num, .string U.text, .slice U.ia U.len U.cap], .int .i64 0], ?_, U, rfl, HU.out, hvt, Only.below_step hbw HO8 (fun k hk => by rcases hk with rfl | rfl <;> omega) (Nat.le_refl _)⟩
  simp [results, Tryz.results8, asAddr, go_sem, b0, b1, b2, b3, b5]
set_option maxRecDepth 100000 in
set_option maxHeartbeats 4000000 in
theorem first_ok (ao : Option Addr) (len cap : Nat) (L : Nat → TypeV) (hlen : len ≤ 1000000) (hcap : len ≤ cap) (b : ByteArray) (hs : b.size ≤ 281474976710656) (w : World) (H : ∀ i, i < len → TypeAt w ao i (L i)) (t : Nat) (hT : hasT L len (t : Nat) = true) (d : DR) (hval : ∀ (w0 : World) (c : Nat), (∀ i, i < len → TypeAt w0 ao i (L i)) → ValC w0 c b ao len cap t (fun a => if a = 0 then d else decF L b (t + 1) t a)) (V : VT) (n : Nat) (hd : d = .ok V n) :
    Calls Tryz.prog 10 #[.slice ao len cap, .int .i64 (t : Int), .string b] w (FirstRes (.ok V n) w) := by
  have hmf := hmf11
  have HB := Lib.hid ((((Below.refl w.heap.size w).alloc (Nat.le_refl _) (va11 0 0 ⟨#[]⟩ none 0 0)).alloc (by simp) intO).alloc (by simp; omega) errO)
  obtain ⟨g1, gn1, g2, g3⟩ := three_at w (va11 0 0 ⟨#[]⟩ none 0 0) intO errO
  have HGN := Lib.hid gn1
  have HG1 := Lib.hid g1
  have HG2 := Lib.hid g2
  have HSZ := Lib.hid g3
  have HNEW := Lib.hid (rnew_ok ao len cap L hlen hcap (t : Nat) b _ (hold H HB.out) hT)
  have hvl := fun c wx h' => hval _ c (hold H HB.out) wx 0 h'
  simp only [if_true] at hvl
  rw [hd] at hvl
  have HVAL := Lib.hid (show ∀ (c : Nat) (wx : World), RdAt _ c b 0 wx → Calls Tryz.prog 21 #[.agg #[.slice ao len cap, .pointer (some ⟨c, 0, none⟩)], .int .i64 (t : Nat)] wx (ValTo _ c b n V wx) from hvl)
  clear hvl
  have hm : b.size ≤ maxLen := by unfold maxLen; omega
  clear g1 g2 g3 gn1 H hT hval
  go_enter_defers Tryz.func10, Tryz.ntmps10
  go_upto_region 1 with (fail)
  generalize ((w.alloc (va11 0 0 ⟨#[]⟩ none 0 0)).alloc intO).alloc errO = W2 at *
  go_upto_region 4 with (first
    | (go_at_call 19; refine (HNEW.out).mono ?_; rintro e w1 ⟨c, rfl, hr⟩; have HR := Lib.hid (hr.alloc (rdO ao len cap c)); have HQ := Lib.hid (alloc_at w1 (rdO ao len cap c)); have hcw := lt_of_block hr.cur; have hcu := hr.up; have hlw := hr.low.size; clear hr)
    | (go_at_call 21; refine (HVAL.out c _ HR.out).mono ?_; rintro e w4 ⟨U, rfl, hU, hv, ho, hr4⟩; have HU := Lib.hid hU; have HVL := Lib.hid hv; have HO := Lib.hid ho; have HR4 := Lib.hid hr4; have HV := Lib.hid (HR4.out.old HG1.out); have HE := Lib.hid (HR4.out.old HG2.out); have HN := Lib.hid (HR4.out.old HGN.out); have hv1 := lt_of_block HG1.out; have he1 := lt_of_block HG2.out; have HQ4 := Lib.hid (setRow_heap _ _ _ #[.int .i64 U.kind, .int .u64 U.num, .string U.text, .slice U.ia U.len U.cap] _ _ HV.out); have HC4 := Lib.hid (show CurAt c b n 0 (w4.setRow (w.heap.size) #[.int .i64 U.kind, .int .u64 U.num, .string U.text, .slice U.ia U.len U.cap]) from (setRow_other _ _ _ _ (by omega)).trans HR4.out.cur); have HB4 := Lib.hid (show (w4.setRow (w.heap.size) #[.int .i64 U.kind, .int .u64 U.num, .string U.text, .slice U.ia U.len U.cap]).heap[w1.heap.size]? = some (rdO ao len cap c) from (setRow_other _ _ _ _ (by omega)).trans (only_at HQ.out (by omega) ho)); have HE4 := Lib.hid (show (w4.setRow (w.heap.size) #[.int .i64 U.kind, .int .u64 U.num, .string U.text, .slice U.ia U.len U.cap]).heap[w.heap.size + 1 + 1]? = some errO from (setRow_other _ _ _ _ (by omega)).trans HE.out); have HN4 := Lib.hid (show (w4.setRow (w.heap.size) #[.int .i64 U.kind, .int .u64 U.num, .string U.text, .slice U.ia U.len U.cap]).heap[w.heap.size + 1]? = some intO from (setRow_other _ _ _ _ (by omega)).trans HN.out); have z1 := cell_at (j := 1) HB4.out rfl; have y0 := cell_at (j := 0) HQ4.out rfl; have y1 := cell_at (j := 1) HQ4.out rfl; have y2 := cell_at (j := 2) HQ4.out rfl; have y3 := cell_at (j := 3) HQ4.out rfl; clear hU hv ho hr4)
    | (refine wpList_store_rowTo rfl 28 _ _ rfl rfl (w.heap.size) #[.int .i64 U.kind, .int .u64 U.num, .string U.text, .slice U.ia U.len U.cap] rfl rfl _ _ HV.out (by kernel_rfl) (by kernel_rfl) (by kernel_rfl) ?_))
  clear z1 y0 y1 y2 y3
  generalize hW4 : w4.setRow (w.heap.size) #[.int .i64 U.kind, .int .u64 U.num, .string U.text, .slice U.ia U.len U.cap] = W4 at *
  have z1 := cell_at (j := 1) HB4.out rfl
  have y0 := cell_at (j := 0) HQ4.out rfl
  have f0 := free_at (j := 0) HQ4.out
  have y1 := cell_at (j := 1) HQ4.out rfl
  have f1 := free_at (j := 1) HQ4.out
  have y2 := cell_at (j := 2) HQ4.out rfl
  have f2 := free_at (j := 2) HQ4.out
  have y3 := cell_at (j := 3) HQ4.out rfl
  have f3 := free_at (j := 3) HQ4.out
  have e0 := cell_at (j := 0) HE4.out rfl
  have fe := free_at (j := 0) HE4.out
  have n0 := cell_at (j := 0) HN4.out rfl
  have fn := free_at (j := 0) HN4.out
  have hgc : c ≠ w.heap.size := by omega
  have hg1 : ¬ w1.heap.size = w.heap.size := by omega
  have hg2 : ¬ w1.heap.size = w.heap.size + 1 := by omega
  have hg3 : ¬ w1.heap.size = w.heap.size + 1 + 1 := by omega
  refine wp_region_noPanic ?_
  go_region_with (go_at_call 25; refine (at_any c b n 0 _ (by first | exact HC4.out | exact put_at (put_at (put_at (put_at HC4.out hgc) hgc) hgc) hgc)).mono ?_; rintro e w5 ⟨rfl, rfl⟩)
  all_goals
    refine NoPanic.normal ?_
    go_wp2
    have V0 := set_at (j := 0) (u := .int .i64 U.kind) HQ4.out
    have V1 := set_at (j := 1) (u := .int .u64 U.num) V0
    have V2 := set_at (j := 2) (u := .string U.text) V1
    have V3 := set_at (j := 3) (u := .slice U.ia U.len U.cap) V2
    have V4 := put_at V3 (p := ⟨w.heap.size + 1, 0, none⟩) (u := .int .i64 (n : Nat)) (by show w.heap.size ≠ w.heap.size + 1; omega)
    have V5 := drew_at (put_at V4 (p := ⟨w.heap.size + 1 + 1, 0, none⟩) (u := .int .i64 0) (by show w.heap.size ≠ w.heap.size + 1 + 1; omega))
    have N0 := put_at HN4.out (p := ⟨w.heap.size, 0, none⟩) (u := .int .i64 U.kind) (by show w.heap.size + 1 ≠ w.heap.size; omega)
    have N1 := put_at N0 (p := ⟨w.heap.size, 1, none⟩) (u := .int .u64 U.num) (by show w.heap.size + 1 ≠ w.heap.size; omega)
    have N2 := put_at N1 (p := ⟨w.heap.size, 2, none⟩) (u := .string U.text) (by show w.heap.size + 1 ≠ w.heap.size; omega)
    have N3 := put_at N2 (p := ⟨w.heap.size, 3, none⟩) (u := .slice U.ia U.len U.cap) (by show w.heap.size + 1 ≠ w.heap.size; omega)
    have N4 := set_at (j := 0) (u := .int .i64 (n : Nat)) N3
    have N5 := drew_at (put_at N4 (p := ⟨w.heap.size + 1 + 1, 0, none⟩) (u := .int .i64 0) (by show w.heap.size + 1 ≠ w.heap.size + 1 + 1; omega))
    have E0 := put_at HE4.out (p := ⟨w.heap.size, 0, none⟩) (u := .int .i64 U.kind) (by show w.heap.size + 1 + 1 ≠ w.heap.size; omega)
    have E1 := put_at E0 (p := ⟨w.heap.size, 1, none⟩) (u := .int .u64 U.num) (by show w.heap.size + 1 + 1 ≠ w.heap.size; omega)
    have E2 := put_at E1 (p := ⟨w.heap.size, 2, none⟩) (u := .string U.text) (by show w.heap.size + 1 + 1 ≠ w.heap.size; omega)
    have E3 := put_at E2 (p := ⟨w.heap.size, 3, none⟩) (u := .slice U.ia U.len U.cap) (by show w.heap.size + 1 + 1 ≠ w.heap.size; omega)
    have E4 := put_at E3 (p := ⟨w.heap.size + 1, 0, none⟩) (u := .int .i64 (n : Nat)) (by show w.heap.size + 1 + 1 ≠ w.heap.size + 1; omega)
    have E5 := drew_at (set_at (j := 0) (u := .int .i64 0) E4)
    have O0 := (only_row (Only.refl (fun k => k = w.heap.size ∨ k = w.heap.size + 1 ∨ k = w.heap.size + 1 + 1) w4) (.inl (.inl rfl)) #[.int .i64 U.kind, .int .u64 U.num, .string U.text, .slice U.ia U.len U.cap])
    rw [hW4] at O0
    have O1 := O0.setCell (p := ⟨w.heap.size, 0, none⟩) (.inl (.inl rfl)) (.int .i64 U.kind)
    have O2 := O1.setCell (p := ⟨w.heap.size, 1, none⟩) (.inl (.inl rfl)) (.int .u64 U.num)
    have O3 := O2.setCell (p := ⟨w.heap.size, 2, none⟩) (.inl (.inl rfl)) (.string U.text)
    have O4 := O3.setCell (p := ⟨w.heap.size, 3, none⟩) (.inl (.inl rfl)) (.slice U.ia U.len U.cap)
    have O5 := O4.setCell (p := ⟨w.heap.size + 1, 0, none⟩) (.inl (.inr (.inl rfl))) (.int .i64 (n : Nat))
    have O6 := (O5.setCell (p := ⟨w.heap.size + 1 + 1, 0, none⟩) (.inl (.inr (.inr rfl))) (.int .i64 0)).drew
    have HV8 := Lib.hid V5; have HN8 := Lib.hid N5; have HE8 := Lib.hid E5; have HO8 := Lib.hid O6
    clear V0 V1 V2 V3 V4 V5 N0 N1 N2 N3 N4 N5 E0 E1 E2 E3 E4 E5 O0 O1 O2 O3 O4 O5 O6
    refine leaves_cons (f := 24) (args := #[.pointer (some ⟨w.heap.size, 0, none⟩), .pointer (some ⟨w.heap.size + 1, 0, none⟩), .pointer (some ⟨w.heap.size + 1 + 1, 0, none⟩)]) (by simp) (by simp [go_sem]) ?_
    refine (catchFirst_idle (w.heap.size) (w.heap.size + 1) (w.heap.size + 1 + 1) _).mono ?_
    rintro e u' w'' ⟨rfl, rfl, hbe⟩
    have h1 := box_keep HV8.out hbe
    have hn1 := box_keep HN8.out hbe
    have h2 := box_keep HE8.out hbe
    have b0 := cell_at (j := 0) h1 rfl
    have b1 := cell_at (j := 1) h1 rfl
    have b2 := cell_at (j := 2) h1 rfl
    have b3 := cell_at (j := 3) h1 rfl
    have b5 := cell_at (j := 0) h2 rfl
    have b4 := cell_at (j := 0) hn1 rfl
    have ho8 := HO8.out.step hbe
    have hbw := below_step8' HB.out HR4.out.low
    have hvt := top_end3 (w := w) HVL.out ho8 (by simp; omega) (by simp; omega) (by simp; omega) (by simp; omega)
    show Leaves _ _ _ _ [] .returning w''
    refine ⟨.tuple #[.agg #[.int .i64 U.kind, .int .u64 U.num, .string U.text, .slice U.ia U.len U.cap], .int .i64 (n : Nat), .int .i64 0], ?_, U, rfl, HU.out, hvt, Only.below_step hbw ho8 (fun k hk => by rcases hk with rfl | rfl | rfl <;> omega) (Nat.le_refl _)⟩
    simp [results, Tryz.results10, asAddr, go_sem, b0, b1, b2, b3, b4, b5]
theorem val_at {L : Nat → TypeV} {len : Nat} (hlen : len ≤ 1000000) (hv : ∀ i, i < len → OkT L i) (hcp : ∀ i, i < len → (L i).ilen ≤ (L i).icap) {b : ByteArray} (hs : b.size ≤ 281474976710656) (ao : Option Addr) (cap t : Nat) (ht : t < len) (w0 : World) (c : Nat) (H : ∀ i, i < len → TypeAt w0 ao i (L i)) : ValC w0 c b ao len cap t (fun a => if a = 0 then decF L b (t + 1) t 0 else decF L b (t + 1) t a) := by
  have e : (fun a => if a = 0 then decF L b (t + 1) t 0 else decF L b (t + 1) t a) = decF L b (t + 1) t := by
    funext a
    by_cases h : a = 0
    · subst h; rw [if_pos rfl]
    · rw [if_neg h]
  rw [e]
  exact rval_any ao len cap L hlen hv hcp H hs (t + 1) t (Nat.lt_succ_self t) ht
theorem first_any (ao : Option Addr) (len cap : Nat) (L : Nat → TypeV) (hlen : len ≤ 1000000) (hcap : len ≤ cap) (hcp : ∀ i, i < len → (L i).ilen ≤ (L i).icap) (t : Int) (b : ByteArray) (hs : b.size ≤ 281474976710656) (w : World) (H : ∀ i, i < len → TypeAt w ao i (L i)) :
    Calls Tryz.prog 10 #[.slice ao len cap, .int .i64 t, .string b] w (FirstRes (firstD L len t b) w) := by
  cases hT : hasT L len t with
  | false =>
    have e : firstD L len t b = .bad 8 := by unfold firstD; rw [hT]; rfl
    rw [e]
    exact first_no ao len cap L hlen hcap b hs w H t hT
  | true =>
    have e : firstD L len t b = decF L b (t.toNat + 1) t.toNat 0 := by unfold firstD; rw [hT]; rfl
    rw [e]
    obtain ⟨k, rfl, hk, hok⟩ := hasT_in hT
    rw [Int.toNat_natCast]
    have hv := ok_all hok
    cases hd : decF L b (k + 1) k 0 with
    | bad x => exact first_bad ao len cap L hlen hcap b hs w H k hT _ (fun w0 c H => val_at hlen hv hcp hs ao cap k hk w0 c H) x hd
    | ok V n => exact first_ok ao len cap L hlen hcap b hs w H k hT _ (fun w0 c H => val_at hlen hv hcp hs ao cap k hk w0 c H) V n hd
theorem get_any (ao : Option Addr) (len cap : Nat) (L : Nat → TypeV) (hlen : len ≤ 1000000) (hcap : len ≤ cap) (hcp : ∀ i, i < len → (L i).ilen ≤ (L i).icap) (t : Int) (b : ByteArray) (hs : b.size ≤ 281474976710656) (w : World) (H : ∀ i, i < len → TypeAt w ao i (L i)) :
    Calls Tryz.prog 8 #[.slice ao len cap, .int .i64 t, .string b] w (GetRes (getD L len t b) w) := by
  cases hT : hasT L len t with
  | false =>
    have e : getD L len t b = .bad 8 := by unfold getD; rw [hT]; rfl
    rw [e]
    exact get_no ao len cap L hlen hcap b hs w H t hT
  | true =>
    obtain ⟨k, rfl, hk, hok⟩ := hasT_in hT
    have hv := ok_all hok
    by_cases hl : 512 < b.size
    · have e : getD L len (k : Nat) b = .bad 3 := by unfold getD; rw [hT, if_pos rfl, if_pos hl]
      rw [e]
      exact get_long ao len cap L hlen hcap b hs w H k hT hl
    · have e : getD L len (k : Nat) b = leftD b (decF L b (k + 1) k 0) := by unfold getD; rw [hT, if_pos rfl, if_neg hl, Int.toNat_natCast]
      rw [e]
      cases hd : decF L b (k + 1) k 0 with
      | bad x => exact get_bad ao len cap L hlen hcap b hs w H k hT hl _ (fun w0 c H => val_at hlen hv hcp hs ao cap k hk w0 c H) x hd
      | ok V n =>
        by_cases hn : n < b.size
        · have e2 : leftD b (.ok V n) = .bad 1 := if_pos hn
          rw [e2]
          exact get_left ao len cap L hlen hcap b hs w H k hT hl _ (fun w0 c H => val_at hlen hv hcp hs ao cap k hk w0 c H) V n hd hn
        · have e2 : leftD b (.ok V n) = .ok V n := if_neg hn
          rw [e2]
          exact get_ok ao len cap L hlen hcap b hs w H k hT hl _ (fun w0 c H => val_at hlen hv hcp hs ao cap k hk w0 c H) V n hd hn
end Go.Proofs.YtmnemddagcfjgaaGreatDoor
