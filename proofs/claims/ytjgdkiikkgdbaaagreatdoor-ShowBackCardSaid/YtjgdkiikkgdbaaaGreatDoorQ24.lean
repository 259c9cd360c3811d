/- Trees that are the same have the same text, may be told alike, are as great; what Text answers. No run of the program. -/
import Derived.Test.YtjgdkiikkgdbaaaGreatDoorQ23
namespace Go.Proofs.YtjgdkiikkgdbaaaGreatDoor
open Go Go.RowKit
set_option linter.unusedVariables false
theorem argsP_congr (o r : Int) {g g' : Nat → Opd} : ∀ {n : Nat}, (∀ i, i < n → g i = g' i) → argsP o r g n = argsP o r g' n
  | 0, _ => rfl
  | n + 1, h => by
    show argsP o r g n ++ sepA o r n ++ opTx (g n) = argsP o r g' n ++ sepA o r n ++ opTx (g' n)
    rw [argsP_congr o r (fun i hi => h i (by omega)), h n (by omega)]
theorem kidsP_congr (o : Int) {f f' : Nat → XT} : ∀ {n : Nat}, (∀ i, i < n → (f i).op = (f' i).op ∧ showX (f i) = showX (f' i)) → kidsP o f n = kidsP o f' n
  | 0, _ => rfl
  | n + 1, h => by
    show kidsP o f n ++ sepK o n ++ kidS o (f n).op (showX (f n)) = kidsP o f' n ++ sepK o n ++ kidS o (f' n).op (showX (f' n))
    rw [kidsP_congr o (fun i hi => h i (by omega)), (h n (by omega)).1, (h n (by omega)).2]
theorem same_show : ∀ T : XT, mayB T = true → ∀ U, SameX T U → showX T = showX U ∧ mayB U = true := by
  refine XT.ind fun T ih hm U hs => ?_
  obtain ⟨hf, hmo, hmk⟩ := mayC_of hm
  obtain ⟨h1, h2, h3, h4, h5, h6⟩ := (sameX_iff T U).1 hs
  have hk := fun i (hi : i < T.kn) => ih i hi (hmk i hi) (U.kid i) (h6 i hi)
  have hfU : formB U.op U.rel U.an U.kn = true := by rw [← h1, ← h2, ← h3, ← h5]; exact hf
  refine ⟨?_, mayC_yes hfU (fun i hi => ?_) (fun i hi => (hk i (by omega)).2)⟩
  · rw [show_split T hf, show_split U hfU, ← h1, ← h2, ← h3, ← h5, argsP_congr T.op T.rel h4, kidsP_congr T.op (fun i hi => ⟨((sameX_iff _ _).1 (h6 i hi)).1, (hk i hi).1⟩)]
  · rw [← h4 i (by omega)]; exact hmo i (by omega)
theorem sumW_congr {a : Int} {F G : Nat → Int} : ∀ {n : Nat}, (∀ i, i < n → F i = G i) → sumW a F n = sumW a G n
  | 0, _ => rfl
  | n + 1, h => by show wrap64 (sumW a F n + F n) = wrap64 (sumW a G n + G n); rw [sumW_congr (fun i hi => h i (by omega)), h n (by omega)]
theorem minK_congr {a : Int} {F G : Nat → Int} : ∀ {n : Nat}, (∀ i, i < n → F i = G i) → minK a F n = minK a G n
  | 0, _ => rfl
  | n + 1, h => by show min (wrap64 (minK a F n + F n)) 100000 = min (wrap64 (minK a G n + G n)) 100000; rw [minK_congr (fun i hi => h i (by omega)), h n (by omega)]
theorem minA_congr {F G : Nat → Nat} : ∀ {n : Nat}, (∀ i, i < n → F i = G i) → minA F n = minA G n
  | 0, _ => rfl
  | n + 1, h => by show min (minA F n + F n) 100000 = min (minA G n + G n) 100000; rw [minA_congr (fun i hi => h i (by omega)), h n (by omega)]
theorem anyTo_congr {F G : Nat → Bool} : ∀ {n : Nat}, (∀ i, i < n → F i = G i) → anyTo F n = anyTo G n
  | 0, _ => rfl
  | n + 1, h => by show (anyTo F n || F n) = (anyTo G n || G n); rw [anyTo_congr (fun i hi => h i (by omega)), h n (by omega)]
theorem same_size16 : ∀ T U : XT, SameX T U → sizeX T = sizeX U := by
  refine XT.ind fun T ih U hs => ?_
  obtain ⟨h1, h2, h3, h4, h5, h6⟩ := (sameX_iff T U).1 hs
  rw [sizeX_eq, sizeX_eq, ← h3, ← h5]
  exact sumW_congr (fun i hi => ih i hi _ (h6 i hi))
theorem same_great : ∀ T U : XT, SameX T U → ∀ d, greatX T d = greatX U d := by
  refine XT.ind fun T ih U hs d => ?_
  obtain ⟨h1, h2, h3, h4, h5, h6⟩ := (sameX_iff T U).1 hs
  rw [greatX_eq, greatX_eq, ← h3, ← h5, anyTo_congr (fun i hi => ih i hi _ (h6 i hi) (d + 1)), minA_congr (F := fun i => (T.arg i).text.size) (G := fun i => (U.arg i).text.size) (fun i hi => by show (T.arg i).text.size = _; rw [h4 i hi]), minK_congr (fun i hi => same_size16 _ _ (h6 i hi))]
theorem same_xtx : ∀ T U : XT, SameX T U → XTx U → XTx T := by
  refine XT.ind fun T ih U hs h => ?_
  obtain ⟨h1, h2, h3, h4, h5, h6⟩ := (sameX_iff T U).1 hs
  have hU := (xtx_iff U).1 h
  exact (xtx_iff T).2 ⟨fun i hi => by rw [h4 i hi]; exact hU.1 i (by omega), fun i hi => ih i hi _ (h6 i hi) (hU.2 i (by omega))⟩
/-- what Text answers -/
def ansS (T : XT) : ByteArray := if mayB T = true then (match parseA (showX T) with | .good _ => bs (showX T) | .bad _ _ => ⟨#[]⟩) else ⟨#[]⟩
def ansEr (T : XT) : Int := if mayB T = true then (match parseA (showX T) with | .good _ => 0 | .bad e _ => (e : Nat)) else 1
theorem ans_no {T : XT} (h : mayB T = false) : ansS T = ⟨#[]⟩ ∧ ansEr T = 1 := by unfold ansS ansEr; rw [if_neg (by rw [h]; decide), if_neg (by rw [h]; decide)]; exact ⟨rfl, rfl⟩
theorem ans_ok {T x : XT} (h : mayB T = true) (hp : parseA (showX T) = .good x) : ansS T = bs (showX T) ∧ ansEr T = 0 := by unfold ansS ansEr; rw [if_pos h, if_pos h, hp]; exact ⟨rfl, rfl⟩
theorem ans_bad {T : XT} {e a : Nat} (h : mayB T = true) (hp : parseA (showX T) = .bad e a) : ansS T = ⟨#[]⟩ ∧ ansEr T = (e : Nat) := by unfold ansS ansEr; rw [if_pos h, if_pos h, hp]; exact ⟨rfl, rfl⟩
/-- the code's Text -/
theorem cText_any (T : XT) (w : World) (H : XHas w T) (HX : XTx T) (hg : greatX T 0 = false) (hV : LibAt w) (hT : Tab w) : CTextTo T w (ansS T) (ansEr T) := by
  obtain ⟨S0, H⟩ := H
  have H := H.sub (S' := fun k => k < w.heap.size) (fun _ _ h => h)
  cases hm : mayB T with
  | false => obtain ⟨h1, h2⟩ := ans_no hm; rw [h1, h2]; exact cText_no _ T w H HX hg hV hm
  | true =>
    cases hp : parseA (showX T) with
    | good x => obtain ⟨h1, h2⟩ := ans_ok hm hp; rw [h1, h2]; exact cText_ok _ T w H (fun _ h => h) HX hg hV hT hm x hp
    | bad e a => obtain ⟨h1, h2⟩ := ans_bad hm hp; rw [h1, h2]; exact cText_bad _ T w H (fun _ h => h) HX hg hV hT hm e a (parseA_ne hp) hp
end Go.Proofs.YtjgdkiikkgdbaaaGreatDoor
/- awake: chapter 16's example. -/
namespace Go.Proofs.YtjgdkiikkgdbaaaGreatDoor
open Go.RowKit
set_option linter.unusedVariables false
def exB : List UInt8 := [40, 97, 32, 61, 32, 49, 32, 79, 82, 32, 98, 32, 61, 32, 50, 41, 32, 65, 78, 68, 32, 78, 79, 84, 32, 99, 32, 60, 32, 51]
def exT : XT := mkX 5 0 [] [mkX 6 0 [] [mkX 1 1 [⟨1, bs [97], false, 0⟩, ⟨2, ⟨#[]⟩, false, 1⟩] [], mkX 1 1 [⟨1, bs [98], false, 0⟩, ⟨2, ⟨#[]⟩, false, 2⟩] []], mkX 4 0 [] [mkX 1 3 [⟨1, bs [99], false, 0⟩, ⟨2, ⟨#[]⟩, false, 3⟩] []]]
theorem ex_tree : parseA exB = .good exT := by kernel_rfl
theorem ex_may : mayB exT = true := by kernel_rfl
theorem ex_great : greatX exT 0 = false := by kernel_rfl
theorem leafT (s : List UInt8) (r n : Int) : showX (mkX 1 r [⟨1, bs s, false, 0⟩, ⟨2, ⟨#[]⟩, false, n⟩] []) = (bs s).data.toList ++ 32 :: (relS r.toNat ++ 32 :: Lib.decDigits n.toNat) := rfl
theorem leafX (s : List UInt8) (r n : Int) (h1 : s.length ≤ 5) (h2 : 0 ≤ n) (h3 : n < 10) : XTx (mkX 1 r [⟨1, bs s, false, 0⟩, ⟨2, ⟨#[]⟩, false, n⟩] []) := by
  refine (xtx_iff _).2 ⟨fun i hi => ?_, fun i hi => absurd hi (Nat.not_lt_zero i)⟩
  have hi : i < 2 := hi
  have hi2 : i = 0 ∨ i = 1 := by omega
  rcases hi2 with rfl | rfl
  · show (bs s).size ≤ 140737488351232 ∧ (0 : Int) ≤ 0 ∧ (0 : Int) < 18446744073709551616
    rw [bs_size]; omega
  · show 0 ≤ 140737488351232 ∧ 0 ≤ n ∧ n < 18446744073709551616
    omega
theorem ex_show : showX exT = exB := by
  have e1 : showX (mkX 1 1 [⟨1, bs [97], false, 0⟩, ⟨2, ⟨#[]⟩, false, 1⟩] []) = [97, 32, 61, 32, 49] := by rw [leafT, show (1 : Int).toNat = 1 from rfl, Lib.decDigits_one (by decide)]; rfl
  have e2 : showX (mkX 1 1 [⟨1, bs [98], false, 0⟩, ⟨2, ⟨#[]⟩, false, 2⟩] []) = [98, 32, 61, 32, 50] := by rw [leafT, show (2 : Int).toNat = 2 from rfl, Lib.decDigits_one (by decide)]; rfl
  have e3 : showX (mkX 1 3 [⟨1, bs [99], false, 0⟩, ⟨2, ⟨#[]⟩, false, 3⟩] []) = [99, 32, 60, 32, 51] := by rw [leafT, show (3 : Int).toNat = 3 from rfl, Lib.decDigits_one (by decide)]; rfl
  show joinS kAND [kidS 5 6 (joinS kOR [kidS 6 1 (showX (mkX 1 1 [⟨1, bs [97], false, 0⟩, ⟨2, ⟨#[]⟩, false, 1⟩] [])), kidS 6 1 (showX (mkX 1 1 [⟨1, bs [98], false, 0⟩, ⟨2, ⟨#[]⟩, false, 2⟩] []))]), kidS 5 4 (kNOT ++ 32 :: kidS 4 1 (showX (mkX 1 3 [⟨1, bs [99], false, 0⟩, ⟨2, ⟨#[]⟩, false, 3⟩] [])))] = exB
  rw [e1, e2, e3]; rfl
theorem ex_x : XTx exT := by
  refine (xtx_iff _).2 ⟨fun i hi => absurd hi (Nat.not_lt_zero i), fun i hi => ?_⟩
  have hi : i < 2 := hi
  have hi2 : i = 0 ∨ i = 1 := by omega
  rcases hi2 with rfl | rfl
  · refine (xtx_iff _).2 ⟨fun i hi => absurd hi (Nat.not_lt_zero i), fun i hi => ?_⟩
    have hi : i < 2 := hi
    have hi2 : i = 0 ∨ i = 1 := by omega
    rcases hi2 with rfl | rfl
    · exact leafX [97] 1 1 (by decide) (by decide) (by decide)
    · exact leafX [98] 1 2 (by decide) (by decide) (by decide)
  · refine (xtx_iff _).2 ⟨fun i hi => absurd hi (Nat.not_lt_zero i), fun i hi => ?_⟩
    have hi : i < 1 := hi
    obtain rfl : i = 0 := by omega
    exact leafX [99] 3 3 (by decide) (by decide) (by decide)
/-- a tree that is the example's has its text -/
theorem ex_ans {T : XT} (h : SameX T exT) : ansS T = bs exB ∧ ansEr T = 0 ∧ XTx T ∧ greatX T 0 = false := by
  obtain ⟨h1, h2⟩ := same_show exT ex_may T (sameX_symm _ _ h)
  rw [ex_show] at h1
  have hp : parseA (showX T) = .good exT := by rw [← h1]; exact ex_tree
  obtain ⟨a1, a2⟩ := ans_ok h2 hp
  rw [← h1] at a1
  exact ⟨a1, a2, same_xtx _ _ h ex_x, by rw [same_great _ _ h]; exact ex_great⟩
set_option maxRecDepth 100000 in
set_option maxHeartbeats 4000000 in
theorem awake16 (w : World) (hV : LibAt w) (hT : Tab w) : Calls Tryz.prog 7 #[] w fun e w' => e = .returned (.bool true) ∧ Below w.heap.size w w' := by
  have h := parse_any exB (by decide) w hV
  rw [ex_tree] at h
  have HP := Lib.hid (show Calls Tryz.prog 12 #[.string ⟨#[40, 97, 32, 61, 32, 49, 32, 79, 82, 32, 98, 32, 61, 32, 50, 41, 32, 65, 78, 68, 32, 78, 79, 84, 32, 99, 32, 60, 32, 51]⟩] w (ParseTo w (.good exT)) from h)
  have HC : Hid (∀ T wx, Below w.heap.size w wx → SameX T exT → XHas wx T → CTextTo T wx ⟨#[40, 97, 32, 61, 32, 49, 32, 79, 82, 32, 98, 32, 61, 32, 50, 41, 32, 65, 78, 68, 32, 78, 79, 84, 32, 99, 32, 60, 32, 51]⟩ 0) := Lib.hid (fun T wx hb hs hx => by
    obtain ⟨a1, a2, a3, a4⟩ := ex_ans hs
    have := cText_any T wx hx a3 a4 (hV.held hb) (hT.next hb)
    rw [a1, a2] at this
    exact this)
  unfold CTextTo at HC
  clear h hV hT
  go_enter Tryz.func7, Tryz.ntmps7
  go_wp2_with (first
    | (go_at_call 8; refine (HC.out T2 _ HB1.out HS.out HX.out).mono ?_; rintro e w3 ⟨rfl, hb⟩; have HB3 := Lib.hid (bthN HB1.out hb); clear hb)
    | (go_at_call 12; refine (HP.out).mono ?_; rintro e w1 ⟨hb, T2, rfl, hs, hx⟩; have HS := Lib.hid hs; have HB1 := Lib.hid (bthN (bthN hb (bel1 (o := .cells #[.int .i64 T2.op, .int .i64 T2.rel, .slice T2.aa T2.an T2.ac, .slice T2.ka T2.kn T2.kc] 25))) (bel1 (o := .cells #[.int .i64 0, .int .i64 0] 38))); have hx0 : XHas w1 T2 := ⟨_, hx⟩; have HX := Lib.hid ((hx0.next (bel1 (o := .cells #[.int .i64 T2.op, .int .i64 T2.rel, .slice T2.aa T2.an T2.ac, .slice T2.ka T2.kn T2.kc] 25))).next (bel1 (o := .cells #[.int .i64 0, .int .i64 0] 38))); clear hb hs hx hx0))
  go_ret
  exact ⟨rfl, HB3.out⟩
end Go.Proofs.YtjgdkiikkgdbaaaGreatDoor
