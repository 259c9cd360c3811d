/- Contract of package types: own. -/
import Derived.Laws.StructEq
import Derived.Deep.RegionHeld3
import Derived.Test.YtcojomkpogikiaaGreatDoorA05
import Derived.Test.YtcojomkpogikiaaGreatDoorA14
import Derived.Test.YtcojomkpogikiaaGreatDoorA17
namespace Go.Proofs.YtcojomkpogikiaaGreatDoor.Pa
open Go.RowKit
set_option linter.unusedVariables false
/-- an item with only the fields that its kind has -/
def ownI (k : Int) (x : ItemV) : ItemV := ⟨x.name, if k = 9 ∨ (k = 14 ∧ x.rest = false) then x.num else 0, if tysK k then x.type else 0, k == 13 && x.key, k == 14 && x.rest⟩
set_option maxHeartbeats 2000000 in
theorem own_any (k : Int) (x : ItemV) (w : World) : Calls Tryz.prog 113 #[.int .i64 k, itmV x] w fun e w' => e = .returned (itmV (ownI k x)) ∧ Below w.heap.size w w' := by
  unfold itmV
  have hc : k = 9 ∨ k = 13 ∨ (k = 14 ∧ x.rest = false) ∨ (k = 14 ∧ x.rest = true) ∨ (k ≠ 9 ∧ k ≠ 13 ∧ k ≠ 14) := by
    cases x.rest <;> simp <;> omega
  rcases hc with h | h | ⟨h, hr⟩ | ⟨h, hr⟩ | ⟨h, h', h''⟩
  · have e : ownI k x = ⟨x.name, x.num, 0, false, false⟩ := by subst h; simp [ownI, tysK]
    have k1 : tysK k = false := by simp [tysK]; omega
    have k2 : (k == 9) = true := by simp; omega
    have k3 : (k == 13) = false := by simp; omega
    have k4 : (k == 14) = false := by simp; omega
    rw [e]
    dsimp only
    clear e
    go_enter Tryz.func113, Tryz.ntmps113
    go_wp2_with (go_at_call 163; refine (hasTypes_any _ _).mono ?_; rintro e w' ⟨rfl, rfl⟩)
    go_returns
    exact ⟨rfl, by go_grown⟩
  · have e : ownI k x = ⟨x.name, 0, x.type, x.key, false⟩ := by subst h; simp [ownI, tysK]
    have k1 : tysK k = true := by simp [tysK]; omega
    have k2 : (k == 9) = false := by simp; omega
    have k3 : (k == 13) = true := by simp; omega
    have k4 : (k == 14) = false := by simp; omega
    rw [e]
    dsimp only
    clear e
    go_enter Tryz.func113, Tryz.ntmps113
    go_wp2_with (go_at_call 163; refine (hasTypes_any _ _).mono ?_; rintro e w' ⟨rfl, rfl⟩)
    go_returns
    exact ⟨rfl, by go_grown⟩
  · have e : ownI k x = ⟨x.name, x.num, x.type, false, false⟩ := by subst h; simp [ownI, tysK, hr]
    have k1 : tysK k = true := by simp [tysK]; omega
    have k2 : (k == 9) = false := by simp; omega
    have k3 : (k == 13) = false := by simp; omega
    have k4 : (k == 14) = true := by simp; omega
    rw [e]
    dsimp only
    clear e
    go_enter Tryz.func113, Tryz.ntmps113
    go_wp2_with (go_at_call 163; refine (hasTypes_any _ _).mono ?_; rintro e w' ⟨rfl, rfl⟩)
    go_returns
    exact ⟨rfl, by go_grown⟩
  · have e : ownI k x = ⟨x.name, 0, x.type, false, true⟩ := by subst h; simp [ownI, tysK, hr]
    have k1 : tysK k = true := by simp [tysK]; omega
    have k2 : (k == 9) = false := by simp; omega
    have k3 : (k == 13) = false := by simp; omega
    have k4 : (k == 14) = true := by simp; omega
    rw [e]
    dsimp only
    clear e
    go_enter Tryz.func113, Tryz.ntmps113
    go_wp2_with (go_at_call 163; refine (hasTypes_any _ _).mono ?_; rintro e w' ⟨rfl, rfl⟩)
    go_returns
    exact ⟨rfl, by go_grown⟩
  · have e : ownI k x = ⟨x.name, 0, 0, false, false⟩ := by simp [ownI, tysK, h, h', h'']
    have k1 : tysK k = false := by simp [tysK]; omega
    have k2 : (k == 9) = false := by simp; omega
    have k3 : (k == 13) = false := by simp; omega
    have k4 : (k == 14) = false := by simp; omega
    rw [e]
    dsimp only
    clear e
    go_enter Tryz.func113, Tryz.ntmps113
    go_wp2_with (go_at_call 163; refine (hasTypes_any _ _).mono ?_; rintro e w' ⟨rfl, rfl⟩)
    go_returns
    exact ⟨rfl, by go_grown⟩
end Go.Proofs.YtcojomkpogikiaaGreatDoor.Pa
namespace Go.Proofs.YtcojomkpogikiaaGreatDoor.Pa
open Go.RowKit
set_option linter.unusedVariables false
/-- a type that is checked, by value -/
def subV (T : TypeV) (ao : Option Addr) (len cap : Nat) (at' : Nat) : Value := .agg #[.int .i64 T.kind, .string T.name, .int .i64 T.bound, .int .i64 T.of, .int .i64 T.tag, .slice T.ia T.ilen T.icap, .slice ao len cap, .int .i64 at']
def subO (T : TypeV) (ao : Option Addr) (len cap : Nat) (at' : Nat) : Obj := .cells #[.int .i64 T.kind, .string T.name, .int .i64 T.bound, .int .i64 T.of, .int .i64 T.tag, .slice T.ia T.ilen T.icap, .slice ao len cap, .int .i64 at'] 97
def ckKind (T : TypeV) : Int := if T.kind < 1 ∨ 14 < T.kind then 4 else 0
def boundBad (T : TypeV) : Bool := boundK T.kind && (decide (T.bound < if T.kind = 10 then 0 else 1) || decide (64 < T.bound))
def ckBound (T : TypeV) : Int := if boundBad T then 7 else 0
def ckTag (L : Nat → TypeV) (len : Nat) (T : TypeV) : Int := if T.kind == 14 && !numK (kindL L len T.tag) then 8 else 0
def ckCount (T : TypeV) : Int := if namedK T.kind = false then 0 else if T.ilen = 0 then 18 else if 16 < T.ilen then 3 else 0
def ckDepth (L : Nat → TypeV) (len at' : Nat) : Int := if 6 < deepL L len (at' : Nat) then 9 else 0
theorem checkKind_any (T : TypeV) (ao : Option Addr) (len cap at' : Nat) (w : World) : Calls Tryz.prog 72 #[subV T ao len cap at'] w fun e w' => e = .returned (.int .i64 (ckKind T)) ∧ Below w.heap.size w w' := by
  unfold subV
  by_cases h1 : T.kind < 1
  · have e : ckKind T = 4 := by unfold ckKind; rw [if_pos (.inl h1)]
    rw [e]
    clear e
    go_enter Tryz.func72, Tryz.ntmps72
    go_wp2
    go_ret
    exact ⟨rfl, (Below.refl _ _).alloc (Nat.le_refl _) _⟩
  · by_cases h2 : 14 < T.kind
    · have e : ckKind T = 4 := by unfold ckKind; rw [if_pos (.inr h2)]
      rw [e]
      clear e
      go_enter Tryz.func72, Tryz.ntmps72
      go_wp2
      go_ret
      exact ⟨rfl, (Below.refl _ _).alloc (Nat.le_refl _) _⟩
    · have e : ckKind T = 0 := by unfold ckKind; rw [if_neg (by omega)]
      rw [e]
      clear e
      go_enter Tryz.func72, Tryz.ntmps72
      go_wp2
      go_ret
      exact ⟨rfl, (Below.refl _ _).alloc (Nat.le_refl _) _⟩
set_option maxHeartbeats 1000000 in
theorem checkBound_any (T : TypeV) (ao : Option Addr) (len cap at' : Nat) (w : World) : Calls Tryz.prog 75 #[subV T ao len cap at'] w fun e w' => e = .returned (.int .i64 (ckBound T)) ∧ Below w.heap.size w w' := by
  unfold subV
  have hE : ckBound T = if boundK T.kind && (decide (T.bound < if T.kind = 10 then 0 else 1) || decide (64 < T.bound)) then 7 else 0 := rfl
  obtain ⟨b0, hb0⟩ : ∃ b, boundK T.kind = b := ⟨_, rfl⟩
  rw [hb0] at hE
  by_cases h10 : T.kind = 10
  · have k10 : (T.kind == 10) = true := by simpa using h10
    rw [if_pos h10] at hE
    have HE := Lib.hid hE
    clear hE h10
    cases b0
    all_goals
      go_enter Tryz.func75, Tryz.ntmps75
      go_wp2_with (go_at_call 110; refine (hasBound_any _ _).mono ?_; rintro e w' ⟨rfl, rfl⟩)
      all_goals
        go_ret
        exact ⟨ret_i (by rw [HE.out]; simp_all), (Below.refl _ _).alloc (Nat.le_refl _) _⟩
  · have k10 : (T.kind == 10) = false := by simpa using h10
    rw [if_neg h10] at hE
    have HE := Lib.hid hE
    clear hE h10
    cases b0
    all_goals
      go_enter Tryz.func75, Tryz.ntmps75
      go_wp2_with (go_at_call 110; refine (hasBound_any _ _).mono ?_; rintro e w' ⟨rfl, rfl⟩)
      all_goals
        go_ret
        exact ⟨ret_i (by rw [HE.out]; simp_all), (Below.refl _ _).alloc (Nat.le_refl _) _⟩
theorem checkCount_any (T : TypeV) (ao : Option Addr) (len cap at' : Nat) (hil : T.ilen ≤ 3518437208780) (w : World) : Calls Tryz.prog 78 #[subV T ao len cap at'] w fun e w' => e = .returned (.int .i64 (ckCount T)) ∧ Below w.heap.size w w' := by
  unfold subV
  have hE : ckCount T = if namedK T.kind = false then 0 else if T.ilen = 0 then 18 else if 16 < T.ilen then 3 else 0 := rfl
  obtain ⟨b0, hb0⟩ : ∃ b, namedK T.kind = b := ⟨_, rfl⟩
  rw [hb0] at hE
  have HE := Lib.hid hE
  clear hE
  cases b0
  all_goals
    go_enter Tryz.func78, Tryz.ntmps78
    go_wp2_with (go_at_call 109; refine (hasItems_any _ _).mono ?_; rintro e w' ⟨rfl, rfl⟩)
    all_goals
      go_ret
      exact ⟨ret_i (by rw [HE.out]; simp_all <;> omega), (Below.refl _ _).alloc (Nat.le_refl _) _⟩
set_option maxHeartbeats 1000000 in
theorem checkTag_any (T : TypeV) (ao : Option Addr) (len cap at' : Nat) (L : Nat → TypeV) (hlen : len ≤ 1000000) (w : World) (H : ∀ i, i < len → TypeAt w ao i (L i)) : Calls Tryz.prog 77 #[subV T ao len cap at'] w fun e w' => e = .returned (.int .i64 (ckTag L len T)) ∧ Below w.heap.size w w' := by
  unfold subV
  have hE : ckTag L len T = if T.kind == 14 && !numK (kindL L len T.tag) then 8 else 0 := rfl
  have HK := Lib.hid (fun wx (hb : Below w.heap.size w wx) => kindOf_any ao len cap L (by omega) T.tag wx (hold H hb))
  obtain ⟨b0, hb0⟩ : ∃ b, (T.kind == 14) = b := ⟨_, rfl⟩
  obtain ⟨b1, hb1⟩ : ∃ b, numK (kindL L len T.tag) = b := ⟨_, rfl⟩
  rw [hb0, hb1] at hE
  have HE := Lib.hid hE
  clear hE H
  cases b0 <;> cases b1
  all_goals
    go_enter Tryz.func77, Tryz.ntmps77
    go_wp2_with (first
      | (go_at_call 112; refine (hasTag_any _ _).mono ?_; rintro e w' ⟨rfl, rfl⟩)
      | (go_at_call 117; refine (HK.out _ ((Below.refl _ _).alloc (Nat.le_refl _) _)).mono ?_; rintro e w' ⟨rfl, rfl⟩)
      | (go_at_call 93; refine (number_same _ _).mono ?_; rintro e w' ⟨rfl, rfl⟩))
    go_ret
    exact ⟨ret_i (by rw [HE.out]; rfl), (Below.refl _ _).alloc (Nat.le_refl _) _⟩
set_option maxHeartbeats 1000000 in
theorem checkDepth_any (T : TypeV) (ao : Option Addr) (len cap at' : Nat) (L : Nat → TypeV) (hlen : len ≤ 1000000) (hat : at' < len) (w : World) (H : ∀ i, i < len → TypeAt w ao i (L i)) : Calls Tryz.prog 80 #[subV T ao len cap at'] w fun e w' => e = .returned (.int .i64 (ckDepth L len at')) ∧ Below w.heap.size w w' := by
  unfold subV
  have hE : ckDepth L len at' = if 6 < deepL L len (at' : Nat) then 9 else 0 := rfl
  have HD := Lib.hid (fun wx (hb : Below w.heap.size w wx) => deep6_any ao len cap L hlen (at' : Nat) wx (hold H hb))
  obtain ⟨d, hd⟩ : ∃ d, deepL L len (at' : Nat) = d := ⟨_, rfl⟩
  rw [hd] at hE HD
  have HE := Lib.hid hE
  clear hE H hd
  go_enter Tryz.func80, Tryz.ntmps80
  go_wp2_with (go_at_call 119; refine (HD.out _ ((Below.refl _ _).alloc (Nat.le_refl _) _)).mono ?_; rintro e w2 ⟨rfl, hb2⟩; have HB2 := Lib.hid (((Below.refl _ _).alloc (Nat.le_refl _) _).trans (hb2.mono (by simp))); clear hb2)
  all_goals
    go_ret
    exact ⟨ret_i (by rw [HE.out]; simp_all), HB2.out⟩
end Go.Proofs.YtcojomkpogikiaaGreatDoor.Pa
namespace Go.Proofs.YtcojomkpogikiaaGreatDoor.Pa
open Go.RowKit
set_option linter.unusedVariables false
def sameI (a b : ItemV) : Bool := (a.name.toList == b.name.toList) && ((a.num == b.num) && ((a.type == b.type) && ((a.key == b.key) && (a.rest == b.rest))))
theorem item_neq (xn yn : ByteArray) (xu yu xt yt : Int) (xk yk xr yr : Bool) (w : World) : (binOp .neq 55 (.agg #[.string xn, .int .u64 xu, .int .i64 xt, .bool xk, .bool xr]) (.agg #[.string yn, .int .u64 yu, .int .i64 yt, .bool yk, .bool yr])).run Tryz.prog w = .ok (.bool (!sameI ⟨xn, xu, xt, xk, xr⟩ ⟨yn, yu, yt, yk, yr⟩)) w := by
  have hu := Tryz.underlying55
  have hi := Tryz.underlying3
  have hb := Tryz.underlying4
  have hn := Tryz.underlying38
  have hs := Tryz.underlying9
  have p0 := fun w => run_equalIn_string (P := Tryz.prog) w 9998 9 xn yn hs
  have p1 := fun w => run_equalIn_int (P := Tryz.prog) w 9998 38 .u64 .u64 xu yu hn
  have p2 := fun w => run_equalIn_int (P := Tryz.prog) w 9998 3 .i64 .i64 xt yt hi
  have p3 := fun a b w => run_equalIn_bool' (P := Tryz.prog) w 9998 4 a b hb
  rw [run_neq_struct, run_equalIn_agg _ 9999 _ _ _ (by kernel_rfl) (by kernel_rfl)]
  simp only [Program.fieldsOf, hu]
  simp [Op.eqFields, go_sem, p0, p1, p2, p3]
  unfold sameI
  dsimp only
  (repeat' split) <;> simp_all
/-- a subject's own box -/
def BoxS (g : Nat) (T : TypeV) (ao : Option Addr) (len cap at' : Nat) (w0 w : World) : Prop := w.heap[g]? = some (subO T ao len cap at') ∧ Below g w0 w
theorem BoxS.cells {g : Nat} {T : TypeV} {ao : Option Addr} {len cap at' : Nat} {w0 w : World} (h : BoxS g T ao len cap at' w0 w) :
    w.cell? ⟨g, 0, none⟩ = some (.int .i64 T.kind) ∧ w.cell? ⟨g, 1, none⟩ = some (.string T.name) ∧ w.cell? ⟨g, 2, none⟩ = some (.int .i64 T.bound) ∧ w.cell? ⟨g, 3, none⟩ = some (.int .i64 T.of) ∧ w.cell? ⟨g, 4, none⟩ = some (.int .i64 T.tag) ∧ w.cell? ⟨g, 5, none⟩ = some (.slice T.ia T.ilen T.icap) ∧
      w.cell? ⟨g, 6, none⟩ = some (.slice ao len cap) ∧ w.cell? ⟨g, 7, none⟩ = some (.int .i64 at') :=
  ⟨cell_at h.1 rfl, cell_at h.1 rfl, cell_at h.1 rfl, cell_at h.1 rfl, cell_at h.1 rfl, cell_at h.1 rfl, cell_at h.1 rfl, cell_at h.1 rfl⟩
theorem BoxS.keep {g : Nat} {T : TypeV} {ao : Option Addr} {len cap at' : Nat} {w0 w w1 : World} (h : BoxS g T ao len cap at' w0 w) (hb : Below w.heap.size w w1) : BoxS g T ao len cap at' w0 w1 :=
  ⟨(hb.block g (lt_of_block h.1)).trans h.1, h.2.trans (hb.mono (Nat.le_of_lt (lt_of_block h.1)))⟩
theorem BoxS.start (T : TypeV) (ao : Option Addr) (len cap at' : Nat) (w : World) : BoxS w.heap.size T ao len cap at' w (w.alloc (subO T ao len cap at')) := ⟨alloc_at w _, (Below.refl _ _).alloc (Nat.le_refl _) _⟩
theorem BoxS.drew {g : Nat} {T : TypeV} {ao : Option Addr} {len cap at' : Nat} {w0 w : World} (h : BoxS g T ao len cap at' w0 w) : BoxS g T ao len cap at' w0 w.drew := ⟨h.1, h.2.drew⟩
def f1B (T : TypeV) : Bool := !T.name.toList.isEmpty && !namedK T.kind
def f2B (T : TypeV) : Bool := T.bound != 0 && !boundK T.kind
def f3B (T : TypeV) : Bool := T.of != 0 && !ofK T.kind
def f4B (T : TypeV) : Bool := T.tag != 0 && !(T.kind == 14)
def f5B (T : TypeV) : Bool := decide (0 < T.ilen) && !namedK T.kind
def itemBad (k : Int) (x : ItemV) : Bool := !sameI x (ownI k x)
def formB (T : TypeV) : Bool := f1B T || f2B T || f3B T || f4B T || f5B T || hasB (fun j => itemBad T.kind (T.items j)) T.ilen
def ckForm (T : TypeV) : Int := if formB T then 1 else 0
theorem itemBad_eq (k : Int) (x : ItemV) : itemBad k x = !sameI ⟨x.name, x.num, x.type, x.key, x.rest⟩ ⟨(ownI k x).name, (ownI k x).num, (ownI k x).type, (ownI k x).key, (ownI k x).rest⟩ := rfl
set_option maxRecDepth 100000 in
set_option maxHeartbeats 4000000 in
theorem checkForm_any (T : TypeV) (ao : Option Addr) (len cap at' : Nat) (w : World) (HT : ItemsAt w T) : Calls Tryz.prog 73 #[subV T ao len cap at'] w fun e w' => e = .returned (.int .i64 (ckForm T)) ∧ Below w.heap.size w w' := by
  obtain ⟨hil, hit⟩ := HT
  obtain ⟨ia, hia⟩ : ∃ ia, T.ia = ia := ⟨_, rfl⟩
  rw [hia] at hit
  have HI := Lib.hid hit
  have hst := BoxS.start T ao len cap at' w
  unfold subO at hst
  rw [hia] at hst
  have HS := Lib.hid hst
  have HE := Lib.hid (show ckForm T = if f1B T || f2B T || f3B T || f4B T || f5B T || hasB (fun j => itemBad T.kind (T.items j)) T.ilen then 1 else 0 from rfl)
  clear hit hst
  unfold subV
  rw [hia]
  have HIA := Lib.hid hia
  clear hia
  go_enter Tryz.func73, Tryz.ntmps73
  go_upto_region 1 with (fail)
  generalize (w.alloc (.cells #[.int .i64 T.kind, .string T.name, .int .i64 T.bound, .int .i64 T.of, .int .i64 T.tag, .slice ia T.ilen T.icap, .slice ao len cap, .int .i64 at'] 97)) = W0 at *
  obtain ⟨c0, c1, c2, c3, c4, c5, c6, c7⟩ := HS.out.cells
  rw [HIA.out] at c5
  go_cut [5] (fun t wx => t = .bool (f1B T) ∧ W0 = wx)
  case first =>
    obtain ⟨a, ha⟩ : ∃ a, T.name.toList.isEmpty = a := ⟨_, rfl⟩
    obtain ⟨b, hb⟩ : ∃ b, namedK T.kind = b := ⟨_, rfl⟩
    have H1 := Lib.hid (show f1B T = (!a && !b) by rw [← ha, ← hb]; rfl)
    cases a <;> cases b
    all_goals
      go_wp2_with (go_at_call 109; refine (hasItems_any _ _).mono ?_; rintro e w' ⟨rfl, rfl⟩)
      go_meet
      exact ⟨by rw [H1.out]; rfl, by first | rfl | trivial⟩
  case rest =>
    obtain ⟨rfl, rfl⟩ := hcut
    cases h1 : f1B T with
    | true =>
      go_wp2
      go_ret
      exact ⟨ret_i (by rw [HE.out, h1]; simp), HS.out.2⟩
    | false =>
      go_upto_region 2 with (fail)
      go_cut [5] (fun t wx => t = .bool (f2B T) ∧ W0 = wx)
      case first =>
        obtain ⟨a, ha⟩ : ∃ a, (T.bound != 0) = a := ⟨_, rfl⟩
        obtain ⟨b, hb⟩ : ∃ b, boundK T.kind = b := ⟨_, rfl⟩
        have H1 := Lib.hid (show f2B T = (a && !b) by rw [← ha, ← hb]; rfl)
        cases a <;> cases b
        all_goals
          go_wp2_with (go_at_call 110; refine (hasBound_any _ _).mono ?_; rintro e w' ⟨rfl, rfl⟩)
          go_meet
          exact ⟨by rw [H1.out]; rfl, by first | rfl | trivial⟩
      case rest =>
        obtain ⟨rfl, rfl⟩ := hcut
        cases h2 : f2B T with
        | true =>
          go_wp2
          go_ret
          exact ⟨ret_i (by rw [HE.out, h1, h2]; simp), HS.out.2⟩
        | false =>
          go_upto_region 3 with (fail)
          go_cut [5] (fun t wx => t = .bool (f3B T) ∧ W0 = wx)
          case first =>
            obtain ⟨a, ha⟩ : ∃ a, (T.of != 0) = a := ⟨_, rfl⟩
            obtain ⟨b, hb⟩ : ∃ b, ofK T.kind = b := ⟨_, rfl⟩
            have H1 := Lib.hid (show f3B T = (a && !b) by rw [← ha, ← hb]; rfl)
            cases a <;> cases b
            all_goals
              go_wp2_with (go_at_call 111; refine (hasOf_any _ _).mono ?_; rintro e w' ⟨rfl, rfl⟩)
              go_meet
              exact ⟨by rw [H1.out]; rfl, by first | rfl | trivial⟩
          case rest =>
            obtain ⟨rfl, rfl⟩ := hcut
            cases h3 : f3B T with
            | true =>
              go_wp2
              go_ret
              exact ⟨ret_i (by rw [HE.out, h1, h2, h3]; simp), HS.out.2⟩
            | false =>
              go_upto_region 4 with (fail)
              go_cut [5] (fun t wx => t = .bool (f4B T) ∧ W0 = wx)
              case first =>
                obtain ⟨a, ha⟩ : ∃ a, (T.tag != 0) = a := ⟨_, rfl⟩
                obtain ⟨b, hb⟩ : ∃ b, (T.kind == 14) = b := ⟨_, rfl⟩
                have H1 := Lib.hid (show f4B T = (a && !b) by rw [← ha, ← hb]; rfl)
                cases a <;> cases b
                all_goals
                  go_wp2_with (go_at_call 112; refine (hasTag_any _ _).mono ?_; rintro e w' ⟨rfl, rfl⟩)
                  go_meet
                  exact ⟨by rw [H1.out]; rfl, by first | rfl | trivial⟩
              case rest =>
                obtain ⟨rfl, rfl⟩ := hcut
                cases h4 : f4B T with
                | true =>
                  go_wp2
                  go_ret
                  exact ⟨ret_i (by rw [HE.out, h1, h2, h3, h4]; simp), HS.out.2⟩
                | false =>
                  go_upto_region 5 with (fail)
                  go_cut [5] (fun t wx => t = .bool (f5B T) ∧ W0 = wx)
                  case first =>
                    obtain ⟨b, hb⟩ : ∃ b, namedK T.kind = b := ⟨_, rfl⟩
                    by_cases hp : 0 < T.ilen
                    all_goals
                      have H1 := Lib.hid (show f5B T = (decide (0 < T.ilen) && !b) by unfold f5B; rw [hb])
                      cases b
                      all_goals
                        go_wp2_with (go_at_call 109; refine (hasItems_any _ _).mono ?_; rintro e w' ⟨rfl, rfl⟩)
                        go_meet
                        exact ⟨by rw [H1.out]; simp [hp], by first | rfl | trivial⟩
                  case rest =>
                    obtain ⟨rfl, rfl⟩ := hcut
                    cases h5 : f5B T with
                    | true =>
                      go_wp2
                      go_ret
                      exact ⟨ret_i (by rw [HE.out, h1, h2, h3, h4, h5]; simp), HS.out.2⟩
                    | false =>
                      have HE2 := Lib.hid (show ckForm T = if hasB (fun j => itemBad T.kind (T.items j)) T.ilen then 1 else 0 by rw [HE.out, h1, h2, h3, h4, h5]; simp)
                      clear h1 h2 h3 h4 h5 c1 c2 c3 c4 c6 c7
                      go_wp2
                      clear c0 c5
                      obtain ⟨W1, hW1⟩ : ∃ W1 : World, W1 = W0 := ⟨_, rfl⟩
                      rw [← hW1] at HS ⊢
                      clear hW1
                      go_loopw [66] (fun i wr => ∃ j : Nat, j ≤ T.ilen ∧ i = .int .i64 j ∧ Hid (∀ m, m < j → itemBad T.kind (T.items m) = false) ∧ Hid (BoxS w.heap.size T ao len cap at' w wr)) (fun i _ => T.ilen - (intOf i).toNat)
                      case atStart => exact ⟨0, Nat.zero_le _, rfl, Lib.hid (fun m hm => absurd hm (Nat.not_lt_zero _)), HS⟩
                      case round =>
                        obtain ⟨j, hj, rfl, HN, HB⟩ := hrel
                        by_cases hlt : j < T.ilen
                        · have hiat := (HI.out j hlt).held (w1 := wr) HB.out.2
                          obtain ⟨b, off, rfl, x0, x1, x2, x3, x4, wi⟩ := hiat
                          have hown := own_any T.kind (T.items j)
                          have hne := fun w => item_neq (T.items j).name (ownI T.kind (T.items j)).name (T.items j).num (ownI T.kind (T.items j)).num (T.items j).type (ownI T.kind (T.items j)).type (T.items j).key (ownI T.kind (T.items j)).key (T.items j).rest (ownI T.kind (T.items j)).rest w
                          obtain ⟨q, hq⟩ : ∃ q, itemBad T.kind (T.items j) = q := ⟨_, rfl⟩
                          rw [← itemBad_eq, hq] at hne
                          unfold itmV at hown
                          generalize ownI T.kind (T.items j) = y at hown hne
                          have HO := Lib.hid hown
                          have hgl := lt_of_block HB.out.1
                          have HB2 := Lib.hid (HB.out.keep ((Below.refl wr.heap.size wr).alloc (Nat.le_refl _) (.cells #[.string (T.items j).name, .int .u64 (T.items j).num, .int .i64 (T.items j).type, .bool (T.items j).key, .bool (T.items j).rest] 55)))
                          have hx := alloc_at wr (.cells #[.string (T.items j).name, .int .u64 (T.items j).num, .int .i64 (T.items j).type, .bool (T.items j).key, .bool (T.items j).rest] 55)
                          clear hown
                          go_upto_region 10 with (fail)
                          clear x0 x1 x2 x3 x4
                          generalize (wr.alloc (.cells #[.string (T.items j).name, .int .u64 (T.items j).num, .int .i64 (T.items j).type, .bool (T.items j).key, .bool (T.items j).rest] 55)) = W2 at HB2 hx ⊢
                          generalize wr.heap.size = h at hx hgl ⊢
                          have x0 := cell_at (j := 0) hx rfl
                          have x1 := cell_at (j := 1) hx rfl
                          have x2 := cell_at (j := 2) hx rfl
                          have x3 := cell_at (j := 3) hx rfl
                          have x4 := cell_at (j := 4) hx rfl
                          have k0 := HB2.out.cells.1
                          clear hx HB
                          cases q
                          · go_wp2_with fail
                            go_region_held3 (fun w' => w'.cell? ⟨w.heap.size, 0, none⟩ = some (.int .i64 T.kind) ∧ w'.cell? ⟨h, 0, none⟩ = some (.string (T.items j).name) ∧ w'.cell? ⟨h, 1, none⟩ = some (.int .u64 (T.items j).num) ∧ w'.cell? ⟨h, 2, none⟩ = some (.int .i64 (T.items j).type) ∧ w'.cell? ⟨h, 3, none⟩ = some (.bool (T.items j).key) ∧ w'.cell? ⟨h, 4, none⟩ = some (.bool (T.items j).rest) ∧ Hid (BoxS w.heap.size T ao len cap at' w w'))
                              (first | exact ⟨k0, x0, x1, x2, x3, x4, Lib.hid HB2.out.drew⟩ | exact ⟨k0, x0, x1, x2, x3, x4, HB2⟩ | fail)
                              (first
                                | (go_at_call 113; refine (HO.out _).mono ?_; rintro e w3 ⟨rfl, hb3⟩; have k0 := keep6 hb3 (by exact k0); have x0 := keep6 hb3 (by exact x0); have x1 := keep6 hb3 (by exact x1); have x2 := keep6 hb3 (by exact x2); have x3 := keep6 hb3 (by exact x3); have x4 := keep6 hb3 (by exact x4); have HB2 := Lib.hid (BoxS.keep (by first | exact HB2.out | exact HB2.out.drew) hb3); clear hb3))
                            go_wp2_with fail
                            go_roundw
                            case rel => exact ⟨j + 1, by omega, by go_num, Lib.hid (none_next HN.out hq), HB2⟩
                            case measure => simp [intOf]; omega
                          · go_wp2_with fail
                            go_region_held3 (fun w' => w'.cell? ⟨w.heap.size, 0, none⟩ = some (.int .i64 T.kind) ∧ w'.cell? ⟨h, 0, none⟩ = some (.string (T.items j).name) ∧ w'.cell? ⟨h, 1, none⟩ = some (.int .u64 (T.items j).num) ∧ w'.cell? ⟨h, 2, none⟩ = some (.int .i64 (T.items j).type) ∧ w'.cell? ⟨h, 3, none⟩ = some (.bool (T.items j).key) ∧ w'.cell? ⟨h, 4, none⟩ = some (.bool (T.items j).rest) ∧ Hid (BoxS w.heap.size T ao len cap at' w w'))
                              (first | exact ⟨k0, x0, x1, x2, x3, x4, Lib.hid HB2.out.drew⟩ | exact ⟨k0, x0, x1, x2, x3, x4, HB2⟩ | fail)
                              (first
                                | (go_at_call 113; refine (HO.out _).mono ?_; rintro e w3 ⟨rfl, hb3⟩; have k0 := keep6 hb3 (by exact k0); have x0 := keep6 hb3 (by exact x0); have x1 := keep6 hb3 (by exact x1); have x2 := keep6 hb3 (by exact x2); have x3 := keep6 hb3 (by exact x3); have x4 := keep6 hb3 (by exact x4); have HB2 := Lib.hid (BoxS.keep (by first | exact HB2.out | exact HB2.out.drew) hb3); clear hb3))
                            go_wp2_with fail
                            go_ret
                            exact ⟨ret_i (by rw [HE2.out, hasB_some hlt hq]; rfl), HB2.out.2⟩
                        · obtain rfl : j = T.ilen := by omega
                          have hf := hasB_none HN.out
                          go_wp2
                          go_ret
                          exact ⟨ret_i (by rw [HE2.out, hf]; rfl), HB.out.2⟩
end Go.Proofs.YtcojomkpogikiaaGreatDoor.Pa
namespace Go.Proofs.YtcojomkpogikiaaGreatDoor.Pa
open Go.RowKit
set_option linter.unusedVariables false
def nameTw (L : Nat → TypeV) (T : TypeV) (at' : Nat) : Bool := hasB (fun i => (L i).name.toList == T.name.toList) at'
def ckName (L : Nat → TypeV) (T : TypeV) (at' : Nat) : Int := if namedK T.kind = false then 0 else if nameS T.name = false then 5 else if nameTw L T at' then 6 else 0
def orderBad (T : TypeV) (at' : Nat) : Bool := hasB (fun j => !inL at' ((partsL T).getD j 0)) (partsL T).length
def ckOrder (T : TypeV) (at' : Nat) : Int := if orderBad T at' then 14 else 0
set_option maxHeartbeats 2000000 in
theorem checkName_any (T : TypeV) (ao : Option Addr) (len cap at' : Nat) (L : Nat → TypeV) (hlen : len ≤ 1000000) (hcap : len ≤ cap) (hat : at' < len) (hns : T.name.size ≤ 140737488351232) (w : World) (H : ∀ i, i < len → TypeAt w ao i (L i)) : Calls Tryz.prog 74 #[subV T ao len cap at'] w fun e w' => e = .returned (.int .i64 (ckName L T at')) ∧ Below w.heap.size w w' := by
  have HH := Lib.hid H
  clear H
  cases hn : namedK T.kind with
  | false =>
    have e : ckName L T at' = 0 := by unfold ckName; rw [hn]; rfl
    rw [e]
    clear e
    unfold subV
    go_enter Tryz.func74, Tryz.ntmps74
    go_wp2_with (go_at_call 109; refine (hasItems_any _ _).mono ?_; rintro e w' ⟨rfl, rfl⟩)
    go_ret
    exact ⟨rfl, (Below.refl _ _).alloc (Nat.le_refl _) _⟩
  | true =>
    cases hs : nameS T.name with
    | false =>
      have e : ckName L T at' = 5 := by unfold ckName; rw [hn, hs]; rfl
      rw [e]
      clear e
      have HN := Lib.hid (fun w => hs ▸ name_any T.name (Nat.le_trans hns (by decide)) w)
      clear hs
      unfold subV
      go_enter Tryz.func74, Tryz.ntmps74
      go_wp2_with (first
        | (go_at_call 109; refine (hasItems_any _ _).mono ?_; rintro e w' ⟨rfl, rfl⟩)
        | (go_at_call 114; refine (HN.out _).mono ?_; rintro e w2 ⟨rfl, hb2⟩; have HB2 := Lib.hid (((Below.refl _ _).alloc (Nat.le_refl _) _).trans (hb2.mono (by simp))); clear hb2))
      go_ret
      exact ⟨rfl, HB2.out⟩
    | true =>
      have HE := Lib.hid (show ckName L T at' = if nameTw L T at' then 6 else 0 by unfold ckName; rw [hn, hs]; rfl)
      have HN := Lib.hid (fun w => hs ▸ name_any T.name (Nat.le_trans hns (by decide)) w)
      clear hs
      have HS := Lib.hid (BoxS.start T ao len cap at' w)
      obtain ⟨a, rfl⟩ : ∃ a, ao = some a := by obtain ⟨b, off, e, _⟩ := HH.out at' hat; exact ⟨_, e⟩
      unfold subV
      go_enter Tryz.func74, Tryz.ntmps74
      go_wp2_with (first
        | (go_at_call 109; refine (hasItems_any _ _).mono ?_; rintro e w' ⟨rfl, rfl⟩)
        | (go_at_call 114; refine (HN.out _).mono ?_; rintro e w2 ⟨rfl, hb2⟩; have HB2 := Lib.hid (HS.out.keep hb2); obtain ⟨c0, c1, c2, c3, c4, c5, c6, c7⟩ := HB2.out.cells; clear hb2))
      clear c0 c1 c2 c3 c4 c5 c6 c7
      go_loopw [21] (fun i wr => ∃ j : Nat, j ≤ at' ∧ i = .int .i64 j ∧ Hid (∀ m, m < j → ((L m).name.toList == T.name.toList) = false) ∧ Hid (BoxS w.heap.size T (some a) len cap at' w wr)) (fun i _ => at' - (intOf i).toNat)
      case atStart => exact ⟨0, Nat.zero_le _, rfl, Lib.hid (fun m hm => absurd hm (Nat.not_lt_zero _)), HB2⟩
      case round =>
        obtain ⟨j, hj, rfl, HF, HB⟩ := hrel
        by_cases hlt : j < at'
        · obtain ⟨b, off, ha, x0, x1, x2, x3, x4, x5, wf, _⟩ := (HH.out j (by omega)).held (w1 := wr) HB.out.2
          cases ha
          obtain ⟨c0, c1, c2, c3, c4, c5, c6, c7⟩ := HB.out.cells
          have hgl := lt_of_block HB.out.1
          have hne : ¬ w.heap.size = wr.heap.size := by omega
          have HB3 := Lib.hid (fun o => HB.out.keep ((Below.refl wr.heap.size wr).alloc (Nat.le_refl _) o))
          cases hq : ((L j).name.toList == T.name.toList) with
          | true =>
            have HT := Lib.hid (show nameTw L T at' = true from hasB_some (p := fun i => (L i).name.toList == T.name.toList) hlt hq)
            go_wp2
            go_ret
            exact ⟨ret_i (by rw [HE.out, HT.out]; rfl), (HB3.out _).2⟩
          | false =>
            have HF2 := Lib.hid (none_next (p := fun i => (L i).name.toList == T.name.toList) HF.out hq)
            go_wp2
            go_roundw
            case rel => exact ⟨j + 1, by omega, by go_num, HF2, Lib.hid (HB3.out _)⟩
            case measure => simp [intOf]; omega
        · obtain rfl : j = at' := by omega
          have HT := Lib.hid (show nameTw L T j = false from hasB_none (p := fun i => (L i).name.toList == T.name.toList) HF.out)
          go_wp2
          go_ret
          exact ⟨ret_i (by rw [HE.out, HT.out]; rfl), HB.out.2⟩
set_option maxHeartbeats 2000000 in
theorem checkOrder_any (T : TypeV) (ao : Option Addr) (len cap at' : Nat) (hlen : len ≤ 1000000) (hcap : len ≤ cap) (hat : at' < len) (hao : ∃ a, ao = some a) (w : World) (HT : ItemsAt w T) : Calls Tryz.prog 76 #[subV T ao len cap at'] w fun e w' => e = .returned (.int .i64 (ckOrder T at')) ∧ Below w.heap.size w w' := by
  have HS := Lib.hid (BoxS.start T ao len cap at' w)
  have hll := partsL_len HT.1
  have HI := Lib.hid (fun p => isIn_any ao at' cap (by omega) p)
  have hcall := fun wx (hb : Below w.heap.size w wx) => parts6_any T wx (HT.held hb)
  obtain ⟨l, hl⟩ : ∃ l, partsL T = l := ⟨_, rfl⟩
  have HE := Lib.hid (show ckOrder T at' = if hasB (fun j => !inL at' (l.getD j 0)) l.length then 14 else 0 by unfold ckOrder orderBad; rw [hl])
  rw [hl] at hcall hll
  unfold typV at hcall
  have HC := Lib.hid hcall
  clear hcall hl HT
  obtain ⟨a, rfl⟩ := hao
  unfold subV
  go_enter Tryz.func76, Tryz.ntmps76
  go_wp2_with (go_at_call 115; refine (HC.out _ ((Below.refl _ _).alloc (Nat.le_refl _) _)).mono ?_; rintro e w2 ⟨v, rfl, hown, hb2⟩; obtain ⟨va, vc, rfl, hva⟩ := row_form hown; have HV := Lib.hid hva; have HO2 := Lib.hid hown; have HB2 := Lib.hid (HS.out.keep hb2); obtain ⟨c0, c1, c2, c3, c4, c5, c6, c7⟩ := HB2.out.cells; clear hown hva hb2)
  go_loopw [9] (fun i wr => ∃ j : Nat, j ≤ l.length ∧ i = .int .i64 j ∧ Hid (∀ m, m < j → (!inL at' (l.getD m 0)) = false) ∧ wr = w2) (fun i _ => l.length - (intOf i).toNat)
  case atStart => exact ⟨0, Nat.zero_le _, rfl, Lib.hid (fun m hm => absurd hm (Nat.not_lt_zero _)), rfl⟩
  case round =>
    obtain ⟨j, hj, rfl, HF, rfl⟩ := hrel
    by_cases hjl : j < l.length
    · obtain ⟨g', rfl⟩ := HV.out (by omega)
      have c := cell_int HO2.out j hjl
      obtain ⟨p, hp⟩ : ∃ p, l.getD j 0 = p := ⟨_, rfl⟩
      rw [hp] at c
      obtain ⟨q, hq⟩ : ∃ q, inL at' p = q := ⟨_, rfl⟩
      have hi := HI.out p
      rw [hq] at hi
      have HI2 := Lib.hid hi
      clear hi
      cases q with
      | false =>
        have HT := Lib.hid (hasB_some (p := fun j => !inL at' (l.getD j 0)) hjl (by show (!inL at' (l.getD j 0)) = true; rw [hp, hq]; rfl))
        clear hp hq
        go_wp2_with (go_at_call 116; refine (HI2.out _).mono ?_; rintro e w' ⟨rfl, rfl⟩)
        go_ret
        exact ⟨ret_i (by rw [HE.out, HT.out]; rfl), HB2.out.2⟩
      | true =>
        have HF2 := Lib.hid (none_next (p := fun j => !inL at' (l.getD j 0)) HF.out (by show (!inL at' (l.getD j 0)) = false; rw [hp, hq]; rfl))
        clear hp hq
        go_wp2_with (go_at_call 116; refine (HI2.out _).mono ?_; rintro e w' ⟨rfl, rfl⟩)
        go_roundw
        case rel => exact ⟨j + 1, by omega, by go_num, HF2, by first | rfl | trivial⟩
        case measure => simp [intOf]; omega
    · obtain rfl : j = l.length := by omega
      have HT := Lib.hid (hasB_none (p := fun j => !inL at' (l.getD j 0)) HF.out)
      go_wp2
      go_ret
      exact ⟨ret_i (by rw [HE.out, HT.out]; rfl), HB2.out.2⟩
end Go.Proofs.YtcojomkpogikiaaGreatDoor.Pa
namespace Go.Proofs.YtcojomkpogikiaaGreatDoor.Pa
open Go.RowKit
set_option linter.unusedVariables false
def isTagB (L : Nat → TypeV) (len : Nat) (T : TypeV) (n : Int) : Bool := if kindL L len T.tag = 9 then okZ (valueL L len T.tag n) else mayK (kindL L len T.tag) n
def ckValue (L : Nat → TypeV) (len at' : Nat) (T : TypeV) (i : Nat) : Int := if mayK 9 (T.items i).num = false then 7 else if posZ (valueL L len (at' : Nat) (T.items i).num) < i then 6 else 0
def ckField (L : Nat → TypeV) (len : Nat) (T : TypeV) (i : Nat) : Int := if (T.items i).key && !numK (kindL L len (T.items i).type) && kindL L len (T.items i).type != 10 then 17 else 0
def ckBranch (L : Nat → TypeV) (len at' : Nat) (T : TypeV) (i : Nat) : Int :=
  if (T.items i).rest then (if i + 1 < T.ilen then 14 else 0) else if isTagB L len T (T.items i).num = false then 7 else if posZ (branchL L len (at' : Nat) (T.items i).num) < i then 6 else 0
def ckItem (L : Nat → TypeV) (len at' : Nat) (T : TypeV) (i : Nat) : Int :=
  if nameS (T.items i).name = false then 5 else if posZ (itemL L len (at' : Nat) (T.items i).name) < i then 6 else if T.kind = 9 then ckValue L len at' T i else if T.kind = 13 then ckField L len T i else ckBranch L len at' T i
set_option maxHeartbeats 1000000 in
theorem isTag_any (T : TypeV) (n : Int) (ao : Option Addr) (len cap at' : Nat) (L : Nat → TypeV) (hlen : len ≤ 1000000) (hn : (Lit.int .u64 n).wf = true) (w : World) (H : ∀ i, i < len → TypeAt w ao i (L i)) :
    Calls Tryz.prog 198 #[subV T ao len cap at', .int .u64 n] w fun e w' => e = .returned (.bool (isTagB L len T n)) ∧ Below w.heap.size w w' := by
  have hst := BoxS.start T ao len cap at' w
  unfold subO at hst
  have HS := Lib.hid hst
  clear hst
  have hk := fun wx (hb : Below w.heap.size w wx) => kindOf_any ao len cap L (by omega) T.tag wx (hold H hb)
  have hv := fun wx (hb : Below w.heap.size w wx) => value6_any ao len cap L T.tag n (by omega) wx (hold H hb)
  have hm := fun wx => may_any (kindL L len T.tag) n hn wx
  have hE : isTagB L len T n = if kindL L len T.tag = 9 then okZ (valueL L len T.tag n) else mayK (kindL L len T.tag) n := rfl
  obtain ⟨kd, hkd⟩ : ∃ kd, kindL L len T.tag = kd := ⟨_, rfl⟩
  unfold foundV at hv
  obtain ⟨z, hz⟩ : ∃ z, valueL L len T.tag n = z := ⟨_, rfl⟩
  rw [hkd] at hk hm hE
  rw [hz] at hv hE
  have HK := Lib.hid hk
  have HV := Lib.hid hv
  have HM := Lib.hid hm
  clear hk hv hm hkd hz H
  unfold subV
  by_cases h9 : kd = 9
  · rw [if_pos h9] at hE
    have HE := Lib.hid hE
    have k9 : (kd == 9) = true := by simpa using h9
    clear hE h9
    go_enter Tryz.func198, Tryz.ntmps198
    go_wp2_with (first
      | (go_at_call 117; refine (HK.out _ HS.out.2).mono ?_; rintro e w' ⟨rfl, rfl⟩)
      | (go_at_call 197; refine (HV.out _ HS.out.2).mono ?_; rintro e w2 ⟨rfl, hb2⟩; have HB2 := Lib.hid (HS.out.2.trans (hb2.mono (by simp))); clear hb2))
    go_ret
    exact ⟨ret_b (by rw [HE.out]), HB2.out⟩
  · rw [if_neg h9] at hE
    have HE := Lib.hid hE
    have k9 : (kd == 9) = false := by simpa using h9
    clear hE h9
    go_enter Tryz.func198, Tryz.ntmps198
    go_wp2_with (first
      | (go_at_call 117; refine (HK.out _ HS.out.2).mono ?_; rintro e w' ⟨rfl, rfl⟩)
      | (go_at_call 196; refine (HM.out _).mono ?_; rintro e w2 ⟨rfl, hb2⟩; have HB2 := Lib.hid (HS.out.2.trans (hb2.mono (by simp))); clear hb2))
    go_ret
    exact ⟨ret_b (by rw [HE.out]), HB2.out⟩
set_option maxHeartbeats 1000000 in
theorem checkValue_any (T : TypeV) (i : Nat) (ao : Option Addr) (len cap at' : Nat) (L : Nat → TypeV) (hlen : len ≤ 1000000) (hi : i < T.ilen) (w : World) (HT : ItemsAt w T) (H : ∀ i, i < len → TypeAt w ao i (L i)) :
    Calls Tryz.prog 165 #[subV T ao len cap at', .int .i64 i] w fun e w' => e = .returned (.int .i64 (ckValue L len at' T i)) ∧ Below w.heap.size w w' := by
  obtain ⟨hil, hit⟩ := HT
  obtain ⟨b, off, hia, x0, x1, x2, x3, x4, wi⟩ := hit i hi
  have hbl : b < w.heap.size := World.block_lt_of_cell? w _ x0
  have hne : ¬ b = w.heap.size := by omega
  clear hit
  have hst := BoxS.start T ao len cap at' w
  unfold subO at hst
  rw [hia] at hst
  have HS := Lib.hid hst
  have hv := fun wx (hb : Below w.heap.size w wx) => value6_any ao len cap L (at' : Nat) (T.items i).num (by omega) wx (hold H hb)
  unfold foundV at hv
  have hm := fun wx => may_any 9 (T.items i).num wi.1 wx
  have hE : ckValue L len at' T i = if mayK 9 (T.items i).num = false then 7 else if posZ (valueL L len (at' : Nat) (T.items i).num) < i then 6 else 0 := rfl
  obtain ⟨z, hz⟩ : ∃ z, valueL L len (at' : Nat) (T.items i).num = z := ⟨_, rfl⟩
  rw [hz] at hv hE
  obtain ⟨y, hy⟩ : ∃ y, posZ z = y := ⟨_, rfl⟩
  rw [hy] at hv hE
  obtain ⟨q, hq⟩ : ∃ q, mayK 9 (T.items i).num = q := ⟨_, rfl⟩
  rw [hq] at hm hE
  have HV := Lib.hid hv
  have HM := Lib.hid hm
  have HE := Lib.hid hE
  unfold subV
  rw [hia]
  clear hst hv hm hz hy hq hE H hia
  cases q with
  | false =>
    go_enter Tryz.func165, Tryz.ntmps165
    go_wp2_with (go_at_call 196; refine (HM.out _).mono ?_; rintro e w2 ⟨rfl, hb2⟩; have HB2 := Lib.hid (HS.out.keep hb2); clear hb2)
    go_ret
    exact ⟨ret_i (by rw [HE.out]; rfl), HB2.out.2⟩
  | true =>
    by_cases hlt : y < i
    all_goals
      go_enter Tryz.func165, Tryz.ntmps165
      go_wp2_with (first
        | (go_at_call 196; refine (HM.out _).mono ?_; rintro e w2 ⟨rfl, hb2⟩; have HB2 := Lib.hid (HS.out.keep hb2); obtain ⟨c0, c1, c2, c3, c4, c5, c6, c7⟩ := HB2.out.cells; clear hb2)
        | (go_at_call 197; refine (HV.out _ HB2.out.2).mono ?_; rintro e w3 ⟨rfl, hb3⟩; have HB3 := Lib.hid (HB2.out.2.trans (hb3.mono HB2.out.2.size)); clear hb3))
      go_ret
      exact ⟨ret_i (by rw [HE.out]; simp [hlt]), HB3.out⟩
set_option maxHeartbeats 1000000 in
theorem checkField_any (T : TypeV) (i : Nat) (ao : Option Addr) (len cap at' : Nat) (L : Nat → TypeV) (hlen : len ≤ 1000000) (hi : i < T.ilen) (w : World) (HT : ItemsAt w T) (H : ∀ i, i < len → TypeAt w ao i (L i)) :
    Calls Tryz.prog 166 #[subV T ao len cap at', .int .i64 i] w fun e w' => e = .returned (.int .i64 (ckField L len T i)) ∧ Below w.heap.size w w' := by
  obtain ⟨hil, hit⟩ := HT
  obtain ⟨b, off, hia, x0, x1, x2, x3, x4, wi⟩ := hit i hi
  have hbl : b < w.heap.size := World.block_lt_of_cell? w _ x0
  have hne : ¬ b = w.heap.size := by omega
  clear hit
  have hk := fun wx (hb : Below w.heap.size w wx) => kindOf_any ao len cap L (by omega) (T.items i).type wx (hold H hb)
  have hE : ckField L len T i = if (T.items i).key && !numK (kindL L len (T.items i).type) && kindL L len (T.items i).type != 10 then 17 else 0 := rfl
  obtain ⟨kd, hkd⟩ : ∃ kd, kindL L len (T.items i).type = kd := ⟨_, rfl⟩
  rw [hkd] at hk hE
  obtain ⟨b1, h1⟩ : ∃ b, (T.items i).key = b := ⟨_, rfl⟩
  obtain ⟨b2, h2⟩ : ∃ b, numK kd = b := ⟨_, rfl⟩
  obtain ⟨b3, h3⟩ : ∃ b, (kd != 10) = b := ⟨_, rfl⟩
  rw [h1, h2, h3] at hE
  rw [h1] at x3
  have HK := Lib.hid hk
  have HE := Lib.hid hE
  unfold subV
  rw [hia]
  clear hk hkd hE H hia h1
  go_enter Tryz.func166, Tryz.ntmps166
  go_wp2_with (first
    | (go_at_call 117; refine (HK.out _ (((Below.refl _ _).alloc (Nat.le_refl _) _).alloc (by simp) _)).mono ?_; rintro e w' ⟨rfl, rfl⟩)
    | (go_at_call 93; refine (number_same _ _).mono ?_; rintro e w' ⟨rfl, rfl⟩))
  all_goals
    go_ret
    exact ⟨ret_i (by rw [HE.out]; simp_all), (((Below.refl _ _).alloc (Nat.le_refl _) _).alloc (by simp) _)⟩
end Go.Proofs.YtcojomkpogikiaaGreatDoor.Pa
namespace Go.Proofs.YtcojomkpogikiaaGreatDoor.Pa
open Go.RowKit
set_option linter.unusedVariables false
/-- a subject's box and an item's -/
def BoxSI (g h : Nat) (T : TypeV) (x : ItemV) (ao : Option Addr) (len cap at' : Nat) (w0 w : World) : Prop := w.heap[h]? = some (itmO x) ∧ BoxS g T ao len cap at' w0 w
theorem BoxSI.keep {g h : Nat} {T : TypeV} {x : ItemV} {ao : Option Addr} {len cap at' : Nat} {w0 w w1 : World} (hi : BoxSI g h T x ao len cap at' w0 w) (hb : Below w.heap.size w w1) : BoxSI g h T x ao len cap at' w0 w1 := ⟨(hb.block h (lt_of_block hi.1)).trans hi.1, hi.2.keep hb⟩
theorem BoxSI.cells {g h : Nat} {T : TypeV} {x : ItemV} {ao : Option Addr} {len cap at' : Nat} {w0 w : World} (hi : BoxSI g h T x ao len cap at' w0 w) : w.cell? ⟨h, 0, none⟩ = some (.string x.name) ∧ w.cell? ⟨h, 1, none⟩ = some (.int .u64 x.num) ∧ w.cell? ⟨h, 2, none⟩ = some (.int .i64 x.type) ∧ w.cell? ⟨h, 3, none⟩ = some (.bool x.key) ∧ w.cell? ⟨h, 4, none⟩ = some (.bool x.rest) :=
  ⟨cell_at hi.1 rfl, cell_at hi.1 rfl, cell_at hi.1 rfl, cell_at hi.1 rfl, cell_at hi.1 rfl⟩
theorem BoxSI.start (T : TypeV) (x : ItemV) (ao : Option Addr) (len cap at' : Nat) (w : World) : BoxSI w.heap.size (w.heap.size + 1) T x ao len cap at' w ((w.alloc (subO T ao len cap at')).alloc (itmO x)) := by
  refine ⟨?_, (BoxS.start T ao len cap at' w).keep ((Below.refl _ _).alloc (Nat.le_refl _) _)⟩
  have hq := alloc_at (w.alloc (subO T ao len cap at')) (itmO x)
  rw [show (w.alloc (subO T ao len cap at')).heap.size = w.heap.size + 1 by simp] at hq
  exact hq
set_option maxHeartbeats 2000000 in
theorem checkBranch_any (T : TypeV) (i : Nat) (ao : Option Addr) (len cap at' : Nat) (L : Nat → TypeV) (hlen : len ≤ 1000000) (hi : i < T.ilen) (w : World) (HT : ItemsAt w T) (H : ∀ i, i < len → TypeAt w ao i (L i)) :
    Calls Tryz.prog 167 #[subV T ao len cap at', .int .i64 i] w fun e w' => e = .returned (.int .i64 (ckBranch L len at' T i)) ∧ Below w.heap.size w w' := by
  obtain ⟨hil, hit⟩ := HT
  obtain ⟨b, off, hia, x0, x1, x2, x3, x4, wi⟩ := hit i hi
  have hbl : b < w.heap.size := World.block_lt_of_cell? w _ x0
  have hne : ¬ b = w.heap.size := by omega
  clear hit
  have hst := BoxSI.start T (T.items i) ao len cap at' w
  unfold subO itmO at hst
  rw [hia] at hst
  have HS := Lib.hid hst
  have hv := fun wx (hb : Below w.heap.size w wx) => branch6_any ao len cap L (at' : Nat) (T.items i).num (by omega) wx (hold H hb)
  unfold foundV at hv
  have ht := fun wx (hb : Below w.heap.size w wx) => isTag_any T (T.items i).num ao len cap at' L hlen wi.1 wx (hold H hb)
  unfold subV at ht
  rw [hia] at ht
  have hE : ckBranch L len at' T i = if (T.items i).rest then (if i + 1 < T.ilen then 14 else 0) else if isTagB L len T (T.items i).num = false then 7 else if posZ (branchL L len (at' : Nat) (T.items i).num) < i then 6 else 0 := rfl
  obtain ⟨z, hz⟩ : ∃ z, branchL L len (at' : Nat) (T.items i).num = z := ⟨_, rfl⟩
  rw [hz] at hv hE
  obtain ⟨y, hy⟩ : ∃ y, posZ z = y := ⟨_, rfl⟩
  rw [hy] at hv hE
  obtain ⟨q, hq⟩ : ∃ q, isTagB L len T (T.items i).num = q := ⟨_, rfl⟩
  rw [hq] at ht hE
  have HV := Lib.hid hv
  have HM := Lib.hid ht
  have HE := Lib.hid hE
  unfold subV
  rw [hia]
  have HIA := Lib.hid hia
  clear hst hv ht hz hy hq hE H hia
  go_enter Tryz.func167, Tryz.ntmps167
  go_upto_region 2 with (fail)
  clear x0 x1 x2 x3 x4 hne hbl
  generalize ((w.alloc (.cells #[.int .i64 T.kind, .string T.name, .int .i64 T.bound, .int .i64 T.of, .int .i64 T.tag, .slice (some ⟨b, off, none⟩) T.ilen T.icap, .slice ao len cap, .int .i64 at'] 97)).alloc (.cells #[.string (T.items i).name, .int .u64 (T.items i).num, .int .i64 (T.items i).type, .bool (T.items i).key, .bool (T.items i).rest] 55)) = W0 at *
  obtain ⟨x0, x1, x2, x3, x4⟩ := HS.out.cells
  obtain ⟨c0, c1, c2, c3, c4, c5, c6, c7⟩ := HS.out.2.cells
  rw [HIA.out] at c5
  cases hrest : (T.items i).rest with
  | true =>
    rw [hrest] at x4
    by_cases hlast : i + 1 < T.ilen
    · have HF := Lib.hid (show ckBranch L len at' T i = 14 by rw [HE.out, hrest, if_pos rfl, if_pos hlast])
      have hl2 : decide ((i : Int) < (T.ilen : Int) - 1) = true := by simp; omega
      go_wp2
      go_ret
      exact ⟨ret_i (by rw [HF.out]), HS.out.2.2⟩
    · have HF := Lib.hid (show ckBranch L len at' T i = 0 by rw [HE.out, hrest, if_pos rfl, if_neg hlast])
      have hl2 : decide ((i : Int) < (T.ilen : Int) - 1) = false := by simp; omega
      go_wp2
      go_ret
      exact ⟨ret_i (by rw [HF.out]), HS.out.2.2⟩
  | false =>
    rw [hrest] at x4
    cases q with
    | false =>
      have HF := Lib.hid (show ckBranch L len at' T i = 7 by rw [HE.out, hrest]; rfl)
      go_wp2_with (go_at_call 198; refine (HM.out _ HS.out.2.2).mono ?_; rintro e w2 ⟨rfl, hb2⟩; have HB2 := Lib.hid (HS.out.keep hb2); clear hb2)
      go_ret
      exact ⟨ret_i (by rw [HF.out]), HB2.out.2.2⟩
    | true =>
      by_cases hlt : y < i
      all_goals
        have HF := Lib.hid (show ckBranch L len at' T i = if y < i then 6 else 0 by rw [HE.out, hrest]; rfl)
        go_wp2_with (first
          | (go_at_call 198; refine (HM.out _ HS.out.2.2).mono ?_; rintro e w2 ⟨rfl, hb2⟩; have HB2 := Lib.hid (HS.out.keep hb2); obtain ⟨y0, y1, y2, y3, y4⟩ := HB2.out.cells; obtain ⟨d0, d1, d2, d3, d4, d5, d6, d7⟩ := HB2.out.2.cells; clear hb2)
          | (go_at_call 199; refine (HV.out _ HB2.out.2.2).mono ?_; rintro e w3 ⟨rfl, hb3⟩; have HB3 := Lib.hid (HB2.out.2.2.trans (hb3.mono HB2.out.2.2.size)); clear hb3))
        go_ret
        exact ⟨ret_i (by rw [HF.out]; simp [hlt]), HB3.out⟩
set_option maxHeartbeats 2000000 in
theorem checkItem_any (T : TypeV) (i : Nat) (ao : Option Addr) (len cap at' : Nat) (L : Nat → TypeV) (hlen : len ≤ 1000000) (hi : i < T.ilen) (w : World) (HT : ItemsAt w T) (H : ∀ i, i < len → TypeAt w ao i (L i)) :
    Calls Tryz.prog 118 #[subV T ao len cap at', .int .i64 i] w fun e w' => e = .returned (.int .i64 (ckItem L len at' T i)) ∧ Below w.heap.size w w' := by
  have HV1 := Lib.hid (fun wx (hb : Below w.heap.size w wx) => checkValue_any T i ao len cap at' L hlen hi wx (HT.held hb) (hold H hb))
  have HV2 := Lib.hid (fun wx (hb : Below w.heap.size w wx) => checkField_any T i ao len cap at' L hlen hi wx (HT.held hb) (hold H hb))
  have HV3 := Lib.hid (fun wx (hb : Below w.heap.size w wx) => checkBranch_any T i ao len cap at' L hlen hi wx (HT.held hb) (hold H hb))
  obtain ⟨hil, hit⟩ := HT
  obtain ⟨b, off, hia, x0, x1, x2, x3, x4, wi⟩ := hit i hi
  have hbl : b < w.heap.size := World.block_lt_of_cell? w _ x0
  have hne : ¬ b = w.heap.size := by omega
  clear hit
  have hst := BoxSI.start T (T.items i) ao len cap at' w
  unfold subO itmO at hst
  rw [hia] at hst
  have HS := Lib.hid hst
  have hv := fun wx (hb : Below w.heap.size w wx) => item6_any ao len cap L (at' : Nat) (T.items i).name (by omega) wx (hold H hb)
  unfold foundV at hv
  have hE : ckItem L len at' T i = if nameS (T.items i).name = false then 5 else if posZ (itemL L len (at' : Nat) (T.items i).name) < i then 6 else if T.kind = 9 then ckValue L len at' T i else if T.kind = 13 then ckField L len T i else ckBranch L len at' T i := rfl
  obtain ⟨z, hz⟩ : ∃ z, itemL L len (at' : Nat) (T.items i).name = z := ⟨_, rfl⟩
  rw [hz] at hv hE
  obtain ⟨y, hy⟩ : ∃ y, posZ z = y := ⟨_, rfl⟩
  rw [hy] at hv hE
  have hnm := fun w => name_any (T.items i).name (Nat.le_trans wi.2.2 (by decide)) w
  obtain ⟨q, hq⟩ : ∃ q, nameS (T.items i).name = q := ⟨_, rfl⟩
  rw [hq] at hnm hE
  have HV := Lib.hid hv
  have HM := Lib.hid hnm
  have HE := Lib.hid hE
  have hv1 := HV1.out
  have hv2 := HV2.out
  have hv3 := HV3.out
  obtain ⟨e1, he1⟩ : ∃ e, ckValue L len at' T i = e := ⟨_, rfl⟩
  obtain ⟨e2, he2⟩ : ∃ e, ckField L len T i = e := ⟨_, rfl⟩
  obtain ⟨e3, he3⟩ : ∃ e, ckBranch L len at' T i = e := ⟨_, rfl⟩
  rw [he1] at hv1 hE
  rw [he2] at hv2 hE
  rw [he3] at hv3 hE
  unfold subV at hv1 hv2 hv3 ⊢
  rw [hia] at hv1 hv2 hv3
  rw [hia]
  have HW1 := Lib.hid hv1
  have HW2 := Lib.hid hv2
  have HW3 := Lib.hid hv3
  have HE := Lib.hid hE
  have HIA := Lib.hid hia
  clear hst hv hz hy hq hE H hia hnm hv1 hv2 hv3 HV1 HV2 HV3 he1 he2 he3
  go_enter Tryz.func118, Tryz.ntmps118
  go_upto_region 2 with (fail)
  clear x0 x1 x2 x3 x4 hne hbl
  generalize ((w.alloc (.cells #[.int .i64 T.kind, .string T.name, .int .i64 T.bound, .int .i64 T.of, .int .i64 T.tag, .slice (some ⟨b, off, none⟩) T.ilen T.icap, .slice ao len cap, .int .i64 at'] 97)).alloc (.cells #[.string (T.items i).name, .int .u64 (T.items i).num, .int .i64 (T.items i).type, .bool (T.items i).key, .bool (T.items i).rest] 55)) = W0 at *
  obtain ⟨x0, x1, x2, x3, x4⟩ := HS.out.cells
  cases q with
  | false =>
    go_wp2_with (go_at_call 114; refine (HM.out _).mono ?_; rintro e w2 ⟨rfl, hb2⟩; have HB2 := Lib.hid (HS.out.keep hb2); clear hb2)
    go_ret
    exact ⟨ret_i (by rw [HE.out]; rfl), HB2.out.2.2⟩
  | true =>
    by_cases hlt : y < i
    · go_wp2_with (first
        | (go_at_call 114; refine (HM.out _).mono ?_; rintro e w2 ⟨rfl, hb2⟩; have HB2 := Lib.hid (HS.out.keep hb2); obtain ⟨y0, y1, y2, y3, y4⟩ := HB2.out.cells; obtain ⟨d0, d1, d2, d3, d4, d5, d6, d7⟩ := HB2.out.2.cells; clear hb2)
        | (go_at_call 94; refine (HV.out _ HB2.out.2.2).mono ?_; rintro e w3 ⟨rfl, hb3⟩; have HB3 := Lib.hid (HB2.out.keep hb3); clear hb3))
      go_ret
      exact ⟨ret_i (by rw [HE.out]; simp [hlt]), HB3.out.2.2⟩
    · have HF := Lib.hid (show ckItem L len at' T i = if T.kind = 9 then e1 else if T.kind = 13 then e2 else e3 by rw [HE.out, if_neg (by simp), if_neg hlt])
      have hc : T.kind = 9 ∨ T.kind = 13 ∨ (T.kind ≠ 9 ∧ T.kind ≠ 13) := by omega
      rcases hc with h | h | ⟨h, h'⟩
      · have HG := Lib.hid (show ckItem L len at' T i = e1 by rw [HF.out]; rw [if_pos h])
        have k9 : (T.kind == 9) = true := by simpa using h
        clear h
        go_wp2_with (first
          | (go_at_call 114; refine (HM.out _).mono ?_; rintro e w2 ⟨rfl, hb2⟩; have HB2 := Lib.hid (HS.out.keep hb2); obtain ⟨y0, y1, y2, y3, y4⟩ := HB2.out.cells; obtain ⟨d0, d1, d2, d3, d4, d5, d6, d7⟩ := HB2.out.2.cells; clear hb2)
          | (go_at_call 94; refine (HV.out _ HB2.out.2.2).mono ?_; rintro e w3 ⟨rfl, hb3⟩; have HB3 := Lib.hid (HB2.out.keep hb3); obtain ⟨f0, f1, f2, f3, f4, f5, f6, f7⟩ := HB3.out.2.cells; rw [HIA.out] at f5; clear hb3)
          | (go_at_call 165; refine (HW1.out _ HB3.out.2.2).mono ?_; rintro e w4 ⟨rfl, hb4⟩; have HB4 := Lib.hid (HB3.out.keep hb4); clear hb4))
        go_ret
        exact ⟨ret_i (by rw [HG.out]), HB4.out.2.2⟩
      · have HG := Lib.hid (show ckItem L len at' T i = e2 by rw [HF.out]; rw [if_neg (by omega), if_pos h])
        have k9 : (T.kind == 9) = false := by simp; omega
        have k13 : (T.kind == 13) = true := by simpa using h
        clear h
        go_wp2_with (first
          | (go_at_call 114; refine (HM.out _).mono ?_; rintro e w2 ⟨rfl, hb2⟩; have HB2 := Lib.hid (HS.out.keep hb2); obtain ⟨y0, y1, y2, y3, y4⟩ := HB2.out.cells; obtain ⟨d0, d1, d2, d3, d4, d5, d6, d7⟩ := HB2.out.2.cells; clear hb2)
          | (go_at_call 94; refine (HV.out _ HB2.out.2.2).mono ?_; rintro e w3 ⟨rfl, hb3⟩; have HB3 := Lib.hid (HB2.out.keep hb3); obtain ⟨f0, f1, f2, f3, f4, f5, f6, f7⟩ := HB3.out.2.cells; rw [HIA.out] at f5; clear hb3)
          | (go_at_call 166; refine (HW2.out _ HB3.out.2.2).mono ?_; rintro e w4 ⟨rfl, hb4⟩; have HB4 := Lib.hid (HB3.out.keep hb4); clear hb4))
        go_ret
        exact ⟨ret_i (by rw [HG.out]), HB4.out.2.2⟩
      · have HG := Lib.hid (show ckItem L len at' T i = e3 by rw [HF.out]; rw [if_neg h, if_neg h'])
        have k9 : (T.kind == 9) = false := by simpa using h
        have k13 : (T.kind == 13) = false := by simpa using h'
        clear h h'
        go_wp2_with (first
          | (go_at_call 114; refine (HM.out _).mono ?_; rintro e w2 ⟨rfl, hb2⟩; have HB2 := Lib.hid (HS.out.keep hb2); obtain ⟨y0, y1, y2, y3, y4⟩ := HB2.out.cells; obtain ⟨d0, d1, d2, d3, d4, d5, d6, d7⟩ := HB2.out.2.cells; clear hb2)
          | (go_at_call 94; refine (HV.out _ HB2.out.2.2).mono ?_; rintro e w3 ⟨rfl, hb3⟩; have HB3 := Lib.hid (HB2.out.keep hb3); obtain ⟨f0, f1, f2, f3, f4, f5, f6, f7⟩ := HB3.out.2.cells; rw [HIA.out] at f5; clear hb3)
          | (go_at_call 167; refine (HW3.out _ HB3.out.2.2).mono ?_; rintro e w4 ⟨rfl, hb4⟩; have HB4 := Lib.hid (HB3.out.keep hb4); clear hb4))
        go_ret
        exact ⟨ret_i (by rw [HG.out]), HB4.out.2.2⟩
/-- the first that is not zero -/
def firstE (e : Nat → Int) (n : Nat) : Int := if firstN (fun j => e j != 0) n < n then e (firstN (fun j => e j != 0) n) else 0
theorem firstE_at {e : Nat → Int} {n k : Nat} (h : ∀ i, i < k → (e i != 0) = false) (hk : k < n) (hp : (e k != 0) = true) : firstE e n = e k := by
  unfold firstE; rw [first_at h hk hp, if_pos hk]
theorem firstE_none {e : Nat → Int} {n : Nat} (h : ∀ i, i < n → (e i != 0) = false) : firstE e n = 0 := by
  unfold firstE; rw [first_none h, if_neg (Nat.lt_irrefl _)]
def ckItems (L : Nat → TypeV) (len at' : Nat) (T : TypeV) : Int := firstE (ckItem L len at' T) T.ilen
set_option maxHeartbeats 2000000 in
theorem checkItems_any (T : TypeV) (ao : Option Addr) (len cap at' : Nat) (L : Nat → TypeV) (hlen : len ≤ 1000000) (w : World) (HT : ItemsAt w T) (H : ∀ i, i < len → TypeAt w ao i (L i)) :
    Calls Tryz.prog 79 #[subV T ao len cap at'] w fun e w' => e = .returned (.int .i64 (ckItems L len at' T)) ∧ Below w.heap.size w w' := by
  have hil := HT.1
  have HC := Lib.hid (fun i (hi : i < T.ilen) wx (hb : Below w.heap.size w wx) => checkItem_any T i ao len cap at' L hlen hi wx (HT.held hb) (hold H hb))
  have hst := BoxS.start T ao len cap at' w
  unfold subO at hst
  have HS := Lib.hid hst
  have HE := Lib.hid (show ckItems L len at' T = firstE (ckItem L len at' T) T.ilen from rfl)
  clear hst HT H
  unfold subV
  go_enter Tryz.func79, Tryz.ntmps79
  go_wp2
  go_loopw [9] (fun i wr => ∃ j : Nat, j ≤ T.ilen ∧ i = .int .i64 j ∧ Hid (∀ m, m < j → (ckItem L len at' T m != 0) = false) ∧ Hid (BoxS w.heap.size T ao len cap at' w wr)) (fun i _ => T.ilen - (intOf i).toNat)
  case atStart => exact ⟨0, Nat.zero_le _, rfl, Lib.hid (fun m hm => absurd hm (Nat.not_lt_zero _)), HS⟩
  case round =>
    obtain ⟨j, hj, rfl, HF, HB⟩ := hrel
    by_cases hlt : j < T.ilen
    · obtain ⟨c0, c1, c2, c3, c4, c5, c6, c7⟩ := HB.out.cells
      have hcall := HC.out j hlt wr HB.out.2
      unfold subV at hcall
      obtain ⟨q, hq⟩ : ∃ q, ckItem L len at' T j = q := ⟨_, rfl⟩
      rw [hq] at hcall
      have HD := Lib.hid hcall
      clear hcall
      cases hz : (q != 0) with
      | true =>
        have HT := Lib.hid (firstE_at (e := ckItem L len at' T) HF.out hlt (by rw [hq]; exact hz))
        have HQ := Lib.hid hq
        clear hq
        go_wp2_with (go_at_call 118; refine (HD.out).mono ?_; rintro e w2 ⟨rfl, hb2⟩; have HB2 := Lib.hid (HB.out.keep hb2); clear hb2)
        go_ret
        exact ⟨ret_i (by rw [HE.out, HT.out, HQ.out]), HB2.out.2⟩
      | false =>
        have HF2 := Lib.hid (none_next (p := fun m => ckItem L len at' T m != 0) HF.out (by rw [hq]; exact hz))
        clear hq
        go_wp2_with (go_at_call 118; refine (HD.out).mono ?_; rintro e w2 ⟨rfl, hb2⟩; have HB2 := Lib.hid (HB.out.keep hb2); clear hb2)
        go_roundw
        case rel => exact ⟨j + 1, by omega, by go_num, HF2, HB2⟩
        case measure => simp [intOf]; omega
    · obtain rfl : j = T.ilen := by omega
      have HT := Lib.hid (firstE_none (e := ckItem L len at' T) HF.out)
      go_wp2
      go_ret
      exact ⟨ret_i (by rw [HE.out, HT.out]), HB.out.2⟩
end Go.Proofs.YtcojomkpogikiaaGreatDoor.Pa
namespace Go.Proofs.YtcojomkpogikiaaGreatDoor.Pa
open Go.RowKit
set_option linter.unusedVariables false
def fnv (f : Nat) (S : Value) : Value := .func (.func f) #[S] #[]
/-- the checks' numbers, in their order -/
def ckG : Nat → Nat
  | 0 => 72
  | 1 => 73
  | 2 => 74
  | 3 => 75
  | 4 => 76
  | 5 => 77
  | 6 => 78
  | 7 => 79
  | _ => 80
def ckAt (L : Nat → TypeV) (len at' : Nat) : Nat → Int
  | 0 => ckKind (L at')
  | 1 => ckForm (L at')
  | 2 => ckName L (L at') at'
  | 3 => ckBound (L at')
  | 4 => ckOrder (L at') at'
  | 5 => ckTag L len (L at')
  | 6 => ckCount (L at')
  | 7 => ckItems L len at' (L at')
  | _ => ckDepth L len at'
theorem lt9 {j : Nat} (h : j < 9) : j = 0 ∨ j = 1 ∨ j = 2 ∨ j = 3 ∨ j = 4 ∨ j = 5 ∨ j = 6 ∨ j = 7 ∨ j = 8 := by omega
set_option maxHeartbeats 1000000 in
theorem checks_any (T : TypeV) (ao : Option Addr) (len cap at' : Nat) (w : World) : Calls Tryz.prog 38 #[subV T ao len cap at'] w fun e w' =>
    ∃ g, e = .returned (.slice (some ⟨g, 0, none⟩) 9 9) ∧ (∀ j, j < 9 → w'.cell? ⟨g, j, none⟩ = some (fnv (ckG j) (subV T ao len cap at'))) ∧ Below w.heap.size w w' := by
  have hmf' := hmf
  unfold subV
  go_enter Tryz.func38, Tryz.ntmps38
  go_wp2
  go_ret
  refine ⟨_, rfl, ?_, (((Below.refl _ _).alloc (Nat.le_refl _) _).alloc (by simp) _)⟩
  intro j hj
  rcases lt9 hj with rfl | rfl | rfl | rfl | rfl | rfl | rfl | rfl | rfl
  all_goals first | exact cell_at (alloc_at _ _) rfl | simp [fnv, ckG]
set_option maxHeartbeats 1000000 in
theorem firstError_any (g n : Nat) (G : Nat → Nat) (S : Value) (e : Nat → Int) (hn : n ≤ 100) (w : World) (hc : ∀ j, j < n → w.cell? ⟨g, j, none⟩ = some (fnv (G j) S)) (eg : ∀ j, j < n → Enters (G j))
    (hp : ∀ j, j < n → (∀ i, i < j → e i = 0) → ∀ W, Below w.heap.size w W → Calls Tryz.prog (G j) #[S] W fun r W' => r = .returned (.int .i64 (e j)) ∧ Below W.heap.size W W') :
    Calls Tryz.prog 37 #[.slice (some ⟨g, 0, none⟩) n n] w fun r w' => r = .returned (.int .i64 (firstE e n)) ∧ Below w.heap.size w w' := by
  have HC := Lib.hid hc
  have HG := Lib.hid eg
  have HP := Lib.hid hp
  clear hc eg hp
  go_enter Tryz.func37, Tryz.ntmps37
  go_wp2
  go_loopw [8] (fun i wr => ∃ j : Nat, j ≤ n ∧ i = .int .i64 j ∧ Hid (∀ m, m < j → (e m != 0) = false) ∧ Hid (Below w.heap.size w wr)) (fun i _ => n - (intOf i).toNat)
  case atStart => exact ⟨0, Nat.zero_le _, rfl, Lib.hid (fun m hm => absurd hm (Nat.not_lt_zero _)), Lib.hid (Below.refl _ _)⟩
  case round =>
    obtain ⟨j, hj, rfl, HF, HB⟩ := hrel
    by_cases hlt : j < n
    · have c := keep6 HB.out (HC.out j hlt)
      unfold fnv at c
      have hent := HG.out j hlt
      have hcall := HP.out j hlt (fun i hi => by have := HF.out i hi; simpa using this) wr HB.out
      obtain ⟨f, hf⟩ : ∃ f, G j = f := ⟨_, rfl⟩
      rw [hf] at c hent hcall
      unfold Enters at hent
      obtain ⟨q, hq⟩ : ∃ q, e j = q := ⟨_, rfl⟩
      rw [hq] at hcall
      have HD := Lib.hid hcall
      clear hcall hf
      cases hz : (q != 0) with
      | true =>
        have HT := Lib.hid (firstE_at (e := e) HF.out hlt (by rw [hq]; exact hz))
        have HQ := Lib.hid hq
        clear hq
        go_wp2_with (go_at_fn f; refine (HD.out).mono ?_; rintro r w2 ⟨rfl, hb2⟩; have HB2 := Lib.hid (HB.out.trans (hb2.mono HB.out.size)); clear hb2)
        go_ret
        exact ⟨ret_i (by rw [HT.out, HQ.out]), HB2.out⟩
      | false =>
        have HF2 := Lib.hid (none_next (p := fun m => e m != 0) HF.out (by rw [hq]; exact hz))
        clear hq
        go_wp2_with (go_at_fn f; refine (HD.out).mono ?_; rintro r w2 ⟨rfl, hb2⟩; have HB2 := Lib.hid (HB.out.trans (hb2.mono HB.out.size)); clear hb2)
        go_roundw
        case rel => exact ⟨j + 1, by omega, by go_num, HF2, HB2⟩
        case measure => simp [intOf]; omega
    · obtain rfl : j = n := by omega
      have HT := Lib.hid (firstE_none (e := e) HF.out)
      go_wp2
      go_ret
      exact ⟨ret_i (by rw [HT.out]), HB.out⟩
end Go.Proofs.YtcojomkpogikiaaGreatDoor.Pa
namespace Go.Proofs.YtcojomkpogikiaaGreatDoor.Pa
open Go.RowKit
set_option linter.unusedVariables false
theorem ck_enters (j : Nat) (hj : j < 9) : Enters (ckG j) := by
  rcases lt9 hj with rfl | rfl | rfl | rfl | rfl | rfl | rfl | rfl | rfl
  · exact enters_of Tryz.func72 (by kernel_rfl) rfl
  · exact enters_of Tryz.func73 (by kernel_rfl) rfl
  · exact enters_of Tryz.func74 (by kernel_rfl) rfl
  · exact enters_of Tryz.func75 (by kernel_rfl) rfl
  · exact enters_of Tryz.func76 (by kernel_rfl) rfl
  · exact enters_of Tryz.func77 (by kernel_rfl) rfl
  · exact enters_of Tryz.func78 (by kernel_rfl) rfl
  · exact enters_of Tryz.func79 (by kernel_rfl) rfl
  · exact enters_of Tryz.func80 (by kernel_rfl) rfl
theorem ck_call (ao : Option Addr) (len cap at' : Nat) (L : Nat → TypeV) (hlen : len ≤ 1000000) (hcap : len ≤ cap) (hat : at' < len) (w : World) (H : ∀ i, i < len → TypeAt w ao i (L i)) (j : Nat) (hj : j < 9) :
    Calls Tryz.prog (ckG j) #[subV (L at') ao len cap at'] w fun e w' => e = .returned (.int .i64 (ckAt L len at' j)) ∧ Below w.heap.size w w' := by
  have hT := H at' hat
  obtain ⟨b, off, hao, c0, c1, c2, c3, c4, c5, wf, hi⟩ := hT
  rcases lt9 hj with rfl | rfl | rfl | rfl | rfl | rfl | rfl | rfl | rfl
  · exact checkKind_any (L at') ao len cap at' w
  · exact checkForm_any (L at') ao len cap at' w hi
  · exact checkName_any (L at') ao len cap at' L hlen hcap hat wf.2.2.2.2 w H
  · exact checkBound_any (L at') ao len cap at' w
  · exact checkOrder_any (L at') ao len cap at' hlen hcap hat ⟨_, hao⟩ w hi
  · exact checkTag_any (L at') ao len cap at' L hlen w H
  · exact checkCount_any (L at') ao len cap at' hi.1 w
  · exact checkItems_any (L at') ao len cap at' L hlen w hi H
  · exact checkDepth_any (L at') ao len cap at' L hlen hat w H
/-- what is wrong with a type, by the program's order of checks -/
def oneC (L : Nat → TypeV) (len at' : Nat) : Int := firstE (ckAt L len at') 9
/-- the first type with which something is wrong -/
def fErr (one : Nat → Int) (len : Nat) : Int := if 32 < len then 3 else firstE one len
def fAt (one : Nat → Int) (len : Nat) : Int := if 32 < len then 32 else if firstN (fun i => one i != 0) len < len then (firstN (fun i => one i != 0) len : Nat) else 0
def faultV (one : Nat → Int) (len : Nat) : Value := .agg #[.int .i64 (fErr one len), .int .i64 (fAt one len)]
theorem fault_long {one : Nat → Int} {len : Nat} (h : 32 < len) : faultV one len = .agg #[.int .i64 3, .int .i64 32] := by unfold faultV fErr fAt; rw [if_pos h, if_pos h]
theorem fault_at {one : Nat → Int} {len k : Nat} (h : len ≤ 32) (hf : ∀ i, i < k → (one i != 0) = false) (hk : k < len) (hp : (one k != 0) = true) : faultV one len = .agg #[.int .i64 (one k), .int .i64 (k : Nat)] := by
  unfold faultV fErr fAt; rw [if_neg (by omega), if_neg (by omega), firstE_at hf hk hp, first_at hf hk hp, if_pos hk]
theorem fault_none {one : Nat → Int} {len : Nat} (h : len ≤ 32) (hf : ∀ i, i < len → (one i != 0) = false) : faultV one len = .agg #[.int .i64 0, .int .i64 0] := by
  unfold faultV fErr fAt; rw [if_neg (by omega), if_neg (by omega), firstE_none hf, first_none hf, if_neg (Nat.lt_irrefl _)]
set_option maxHeartbeats 2000000 in
theorem check6_any (ao : Option Addr) (len cap : Nat) (L : Nat → TypeV) (hlen : len ≤ 1000000) (hcap : len ≤ cap) (w : World) (H : ∀ i, i < len → TypeAt w ao i (L i)) :
    Calls Tryz.prog 20 #[.slice ao len cap] w fun e w' => e = .returned (faultV (oneC L len) len) ∧ Below w.heap.size w w' := by
  have HH := Lib.hid H
  clear H
  by_cases h32 : 32 < len
  · rw [fault_long h32]
    go_enter Tryz.func20, Tryz.ntmps20
    go_wp2
    go_returns
    exact ⟨rfl, by go_grown⟩
  · have h32' : len ≤ 32 := by omega
    have HQ := Lib.hid (alloc_at w (.cells #[.int .i64 0, .int .i64 0] 57))
    have HB := Lib.hid ((Below.refl w.heap.size w).alloc (Nat.le_refl _) (.cells #[.int .i64 0, .int .i64 0] 57))
    obtain ⟨R, hR⟩ : ∃ R, faultV (oneC L len) len = R := ⟨_, rfl⟩
    rw [hR]
    have HR := Lib.hid hR
    clear hR
    go_enter Tryz.func20, Tryz.ntmps20
    go_wp2
    go_loopw [12] (fun i wr => ∃ k : Nat, k ≤ len ∧ i = .int .i64 k ∧ Hid (∀ m, m < k → (oneC L len m != 0) = false) ∧ Hid (wr.heap[w.heap.size]? = some (.cells #[.int .i64 0, .int .i64 0] 57 (0, 0))) ∧ Hid (Below w.heap.size w wr)) (fun i _ => len - (intOf i).toNat)
    case atStart => exact ⟨0, Nat.zero_le _, rfl, Lib.hid (fun m hm => absurd hm (Nat.not_lt_zero _)), HQ, HB⟩
    case round =>
      obtain ⟨k, hk, rfl, HF, HQr, HBr⟩ := hrel
      by_cases hlt : k < len
      · have HT := Lib.hid (hold HH.out HBr.out)
        obtain ⟨b, off, hao, c0, c1, c2, c3, c4, c5, wf, _⟩ := HT.out k hlt
        subst hao
        have hbl : b < wr.heap.size := World.block_lt_of_cell? wr _ c0
        have hne : ¬ b = wr.heap.size := by omega
        have hck := fun wx => checks_any (L k) (some ⟨b, off, none⟩) len cap k wx
        have hfe := fun (g : Nat) (w2 : World) (hb : Below wr.heap.size wr w2) (hc : ∀ j, j < 9 → w2.cell? ⟨g, j, none⟩ = some (fnv (ckG j) (subV (L k) (some ⟨b, off, none⟩) len cap k))) =>
          firstError_any g 9 ckG (subV (L k) (some ⟨b, off, none⟩) len cap k) (ckAt L len k) (by decide) w2 hc ck_enters (fun j hj _ W hW => ck_call (some ⟨b, off, none⟩) len cap k L hlen hcap hlt W (hold HT.out (hb.trans (hW.mono hb.size))) j hj)
        obtain ⟨q, hq⟩ : ∃ q, oneC L len k = q := ⟨_, rfl⟩
        have hq' : firstE (ckAt L len k) 9 = q := hq
        rw [hq'] at hfe
        have HFE := Lib.hid hfe
        unfold subV at hck
        have hck2 : ∀ wx, Calls Tryz.prog 38 #[.agg #[.int .i64 (L k).kind, .string (L k).name, .int .i64 (L k).bound, .int .i64 (L k).of, .int .i64 (L k).tag, .slice (L k).ia (L k).ilen (L k).icap, .slice (some ⟨b, off, none⟩) len cap, .int .i64 k]] wx fun e w' =>
            ∃ g, e = .returned (.slice (some ⟨g, 0, none⟩) 9 9) ∧ Hid (∀ j, j < 9 → w'.cell? ⟨g, j, none⟩ = some (fnv (ckG j) (subV (L k) (some ⟨b, off, none⟩) len cap k))) ∧ Below wx.heap.size wx w' := fun wx => (hck wx).mono fun _ _ ⟨g, h1, h2, h3⟩ => ⟨g, h1, Lib.hid h2, h3⟩
        have HCK := Lib.hid hck2
        clear hfe hck hck2 hq'
        cases hz : (q != 0) with
        | true =>
          have HA := Lib.hid (fault_at (one := oneC L len) h32' HF.out hlt (by rw [hq]; exact hz))
          have HQ1 := Lib.hid hq
          clear hq
          go_wp2_with (first
            | (go_at_call 38; refine (HCK.out _).mono ?_; rintro r w2 ⟨g, rfl, HC2, hb2⟩; have HB2 := Lib.hid (((Below.refl wr.heap.size wr).alloc (Nat.le_refl _) _).trans (hb2.mono (by simp))); clear hb2)
            | (go_at_call 37; refine (HFE.out _ _ HB2.out HC2.out).mono ?_; rintro r w3 ⟨rfl, hb3⟩; have HB3 := Lib.hid (HB2.out.trans (hb3.mono HB2.out.size)); have HQ3 := Lib.hid (rblk_keep HQr.out HB3.out); have HW3 := Lib.hid (HBr.out.trans (HB3.out.mono HBr.out.size)); clear hb3)
            | (refine wpList_store_rowTo rfl 57 _ _ rfl rfl w.heap.size #[.int .i64 q, .int .i64 k] rfl rfl _ _ HQ3.out (by kernel_rfl) (by kernel_rfl) (by kernel_rfl) ?_))
          refine bodyPost_ret (v := .agg #[.int .i64 q, .int .i64 k]) ?_ rfl ⟨by rw [← HR.out, HA.out, HQ1.out], below_setRow HW3.out (Nat.le_refl _) _⟩
          have hl := run_loadVar_row (P := Tryz.prog) _ w.heap.size _ 57 _ _ _ (setRow_heap _ _ _ #[.int .i64 q, .int .i64 k] _ _ HQ3.out) Tryz.underlying57 rfl (by kernel_rfl)
          simp [results, Tryz.results20, asAddr]
          exact hl
        | false =>
          have HF2 := Lib.hid (none_next (p := fun m => oneC L len m != 0) HF.out (by rw [hq]; exact hz))
          clear hq
          go_wp2_with (first
            | (go_at_call 38; refine (HCK.out _).mono ?_; rintro r w2 ⟨g, rfl, HC2, hb2⟩; have HB2 := Lib.hid (((Below.refl wr.heap.size wr).alloc (Nat.le_refl _) _).trans (hb2.mono (by simp))); clear hb2)
            | (go_at_call 37; refine (HFE.out _ _ HB2.out HC2.out).mono ?_; rintro r w3 ⟨rfl, hb3⟩; have HB3 := Lib.hid (HB2.out.trans (hb3.mono HB2.out.size)); have HQ3 := Lib.hid (rblk_keep HQr.out HB3.out); have HW3 := Lib.hid (HBr.out.trans (HB3.out.mono HBr.out.size)); clear hb3))
          go_roundw
          case rel => exact ⟨k + 1, by omega, by go_num, HF2, HQ3, HW3⟩
          case measure => simp [intOf]; omega
      · obtain rfl : k = len := by omega
        have HA := Lib.hid (fault_none (one := oneC L k) h32' HF.out)
        go_wp2_with (refine wpList_store_rowTo rfl 57 _ _ rfl rfl w.heap.size #[.int .i64 0, .int .i64 0] rfl rfl _ _ HQr.out (by kernel_rfl) (by kernel_rfl) (by kernel_rfl) ?_)
        refine bodyPost_ret (v := .agg #[.int .i64 0, .int .i64 0]) ?_ rfl ⟨by rw [← HR.out, HA.out], below_setRow HBr.out (Nat.le_refl _) _⟩
        have hl := run_loadVar_row (P := Tryz.prog) _ w.heap.size _ 57 _ _ _ (setRow_heap _ _ _ #[.int .i64 0, .int .i64 0] _ _ HQr.out) Tryz.underlying57 rfl (by kernel_rfl)
        simp [results, Tryz.results20, asAddr]
        exact hl
end Go.Proofs.YtcojomkpogikiaaGreatDoor.Pa
