/- ExprReads: for every text the law returns true, and its argument reads as before. No condition. -/
import Derived.Test.YtbejpgoedenpmaaGreatDoorRdgSlice
import Derived.Test.YtbejpgoedenpmaaGreatDoorTie
import Derived.Test.YtbejpgoedenpmaaGreatDoorCards
import Derived.SevenTiedAt
import Derived.LaidMore
import Derived.Lay
import Derived.Stop.Joined
import Derived.Test.YtbejpgoedenpmaaGreatDoorExprShape
import Derived.Test.YtbejpgoedenpmaaGreatDoorExprRParse
import Derived.Test.YtbejpgoedenpmaaGreatDoorExprAwake
import Derived.Test.YtbejpgoedenpmaaGreatDoorExprSame
namespace Go.Proofs.YtbejpgoedenpmaaGreatDoor.exprReads
open Go.ChangeShapes Go.WideShapes Go.ChangeAt Go.RowKit
open Go.ChangeMaps (open_string shut_string)
set_option linter.unusedVariables false
def treeE : Tree → Int | .bad e _ => ((e : Nat) : Int) | .good _ => 0
def treeF : Tree → Int | .bad _ a => ((a : Nat) : Int) | .good _ => 0
def TreeIs : Tree → XT → Prop
  | .bad _ _, T => T = .nil
  | .good t, T => SameX T t
theorem tree_same {A : Tree} {T U : XT} (h : TreeIs A T) (k : TreeIs A U) : SameX T U := by
  cases A with
  | bad e a =>
    have h : T = .nil := h
    have k : U = .nil := k
    subst h; subst k; exact sameX_refl _
  | good t => exact sameX_trans _ _ _ h (sameX_symm _ _ k)
theorem pgen {w w' : World} {A : Tree} {x : Ending} (h : ParseTo w A x w') : ∃ T : XT, x = .returned (.tuple #[.agg #[.int .i64 T.op, .int .i64 T.rel, .slice T.aa T.an T.ac, .slice T.ka T.kn T.kc], .agg #[.int .i64 (treeE A), .int .i64 (treeF A)]]) ∧ TreeIs A T ∧ XAt w' (fun _ => True) T ∧ Below w.heap.size w w' := by
  obtain ⟨hb, h⟩ := h
  cases A with
  | bad e a => exact ⟨.nil, h, rfl, trivial, hb⟩
  | good t =>
    obtain ⟨T, he, hs, hx⟩ := h
    exact ⟨T, he, hs, hx.sub (fun _ _ _ => trivial), hb⟩
set_option maxRecDepth 100000 in
set_option maxHeartbeats 8000000 in
theorem walk_of (s : ByteArray) (A : Tree) (w : World) (hV : LibAt w)
    (hT : ∀ wx, Below w.heap.size w wx → Calls Tryz.prog 6 #[.string s] wx (ParseTo wx A))
    (hR : ∀ wx, Below w.heap.size w wx → Calls Tryz.prog 7 #[.string s] wx (ParseTo wx A)) :
    Calls Tryz.prog 3 #[.string s] w fun e w' => e = .returned (.bool true) ∧ Below w.heap.size w w' := by
  have HT := Lib.hid hT
  have HR := Lib.hid hR
  have HAW := Lib.hid (fun wx (hb : Below w.heap.size w wx) => awake_any wx (hV.held hb))
  have OS0 := Lib.hid (OwnSt.mk (Below.refl w.heap.size w) (fun p hp => by simp at hp) : OwnSt w [] w)
  obtain ⟨E, hE⟩ : ∃ E, treeE A = E := ⟨_, rfl⟩
  obtain ⟨F, hF⟩ : ∃ F, treeF A = F := ⟨_, rfl⟩
  have HP := Lib.hid (fun (wx w' : World) (x : Ending) (h : ParseTo wx A x w') => show ∃ T : XT, x = .returned (.tuple #[.agg #[.int .i64 T.op, .int .i64 T.rel, .slice T.aa T.an T.ac, .slice T.ka T.kn T.kc], .agg #[.int .i64 E, .int .i64 F]]) ∧ TreeIs A T ∧ XAt w' (fun _ => True) T ∧ Below wx.heap.size wx w' from by have := pgen h; rw [hE, hF] at this; exact this)
  have heq := flt_eq E F
  clear hT hR hV hE hF
  go_enter Tryz.func3, Tryz.ntmps3
  go_upto_region 1 with (fail)
  go_cut [3, 4] (fun p q wx => ∃ (g3 g4 : Nat) (T : XT), p = .pointer (some ⟨g3, 0, none⟩) ∧ q = .pointer (some ⟨g4, 0, none⟩) ∧ Hid (TreeIs A T) ∧ Hid (XAt wx (fun _ => True) T) ∧ Hid (OwnSt w ((g4, (.cells #[.int .i64 E, .int .i64 F] 28)) :: (g3, (.cells #[.int .i64 T.op, .int .i64 T.rel, .slice T.aa T.an T.ac, .slice T.ka T.kn T.kc] 25)) :: []) wx))
  case first =>
    go_wp2_with (go_at_call 6; refine (HT.out _ OS0.out.be).mono ?_; rintro x w1 hx; obtain ⟨T, rfl, ht, hxt, hb1⟩ := HP.out _ _ _ hx; have OS1 := Lib.hid (OS0.out.next hb1); have HTI := Lib.hid ht; have HXT := Lib.hid hxt; clear hx ht hxt hb1)
    go_meet
    have hb1 : Below w1.heap.size w1 (w1.alloc (.cells #[.int .i64 T.op, .int .i64 T.rel, .slice T.aa T.an T.ac, .slice T.ka T.kn T.kc] 25)) := (Below.refl _ _).alloc (Nat.le_refl _) _
    have hb2 : Below (w1.alloc (.cells #[.int .i64 T.op, .int .i64 T.rel, .slice T.aa T.an T.ac, .slice T.ka T.kn T.kc] 25)).heap.size (w1.alloc (.cells #[.int .i64 T.op, .int .i64 T.rel, .slice T.aa T.an T.ac, .slice T.ka T.kn T.kc] 25)) ((w1.alloc (.cells #[.int .i64 T.op, .int .i64 T.rel, .slice T.aa T.an T.ac, .slice T.ka T.kn T.kc] 25)).alloc (.cells #[.int .i64 E, .int .i64 F] 28)) := (Below.refl _ _).alloc (Nat.le_refl _) _
    exact ⟨w1.heap.size, w1.heap.size + 1, T, rfl, rfl, HTI, Lib.hid ((HXT.out.next hb1).next hb2), Lib.hid ((OS1.out.newAt rfl _).newAt (by simp) _)⟩
  case rest =>
    obtain ⟨g3, g4, T, rfl, rfl, HTI, HXT, OS1⟩ := hcut
    clear HT OS0
    go_upto_region 2 with (fail)
    go_cut [5, 6] (fun p q wx => ∃ (g5 g6 : Nat) (U : XT), p = .pointer (some ⟨g5, 0, none⟩) ∧ q = .pointer (some ⟨g6, 0, none⟩) ∧ Hid (TreeIs A U) ∧ Hid (XAt wx (fun _ => True) T) ∧ Hid (XAt wx (fun _ => True) U) ∧ Hid (OwnSt w ((g6, (.cells #[.int .i64 E, .int .i64 F] 28)) :: (g5, (.cells #[.int .i64 U.op, .int .i64 U.rel, .slice U.aa U.an U.ac, .slice U.ka U.kn U.kc] 25)) :: (g4, (.cells #[.int .i64 E, .int .i64 F] 28)) :: (g3, (.cells #[.int .i64 T.op, .int .i64 T.rel, .slice T.aa T.an T.ac, .slice T.ka T.kn T.kc] 25)) :: []) wx))
    case first =>
      go_wp2_with (go_at_call 7; refine (HR.out _ OS1.out.be).mono ?_; rintro x w1 hx; obtain ⟨U, rfl, ht, hxt, hb1⟩ := HP.out _ _ _ hx; have OS2 := Lib.hid (OS1.out.next hb1); have HTU := Lib.hid ht; have HXU := Lib.hid hxt; have HXV := Lib.hid (HXT.out.next hb1); clear hx ht hxt hb1)
      go_meet
      have hb1 : Below w1.heap.size w1 (w1.alloc (.cells #[.int .i64 U.op, .int .i64 U.rel, .slice U.aa U.an U.ac, .slice U.ka U.kn U.kc] 25)) := (Below.refl _ _).alloc (Nat.le_refl _) _
      have hb2 : Below (w1.alloc (.cells #[.int .i64 U.op, .int .i64 U.rel, .slice U.aa U.an U.ac, .slice U.ka U.kn U.kc] 25)).heap.size (w1.alloc (.cells #[.int .i64 U.op, .int .i64 U.rel, .slice U.aa U.an U.ac, .slice U.ka U.kn U.kc] 25)) ((w1.alloc (.cells #[.int .i64 U.op, .int .i64 U.rel, .slice U.aa U.an U.ac, .slice U.ka U.kn U.kc] 25)).alloc (.cells #[.int .i64 E, .int .i64 F] 28)) := (Below.refl _ _).alloc (Nat.le_refl _) _
      exact ⟨w1.heap.size, w1.heap.size + 1, U, rfl, rfl, HTU, Lib.hid ((HXV.out.next hb1).next hb2), Lib.hid ((HXU.out.next hb1).next hb2), Lib.hid ((OS2.out.newAt rfl _).newAt (by simp) _)⟩
    case rest =>
      obtain ⟨g5, g6, U, rfl, rfl, HTU, HXT2, HXU, OS2⟩ := hcut
      have HSA := Lib.hid (sameX_any (fun _ => True) (fun _ => True) T U wc HXT2.out HXU.out (tree_same HTI.out HTU.out))
      unfold RSameTo at HSA
      have hr := (OS2.out.own _ (List.mem_cons_of_mem _ (List.mem_cons_of_mem _ (List.mem_cons_of_mem _ List.mem_cons_self)))).1; have x0 : wc.cell? ⟨g3, 0, none⟩ = some (.int .i64 T.op) := cell_at hr rfl; have x1 : wc.cell? ⟨g3, 1, none⟩ = some (.int .i64 T.rel) := cell_at hr rfl; have x2 : wc.cell? ⟨g3, 2, none⟩ = some (.slice T.aa T.an T.ac) := cell_at hr rfl; have x3 : wc.cell? ⟨g3, 3, none⟩ = some (.slice T.ka T.kn T.kc) := cell_at hr rfl; clear hr
      have hr := (OS2.out.own _ (List.mem_cons_of_mem _ List.mem_cons_self)).1; have y0 : wc.cell? ⟨g5, 0, none⟩ = some (.int .i64 U.op) := cell_at hr rfl; have y1 : wc.cell? ⟨g5, 1, none⟩ = some (.int .i64 U.rel) := cell_at hr rfl; have y2 : wc.cell? ⟨g5, 2, none⟩ = some (.slice U.aa U.an U.ac) := cell_at hr rfl; have y3 : wc.cell? ⟨g5, 3, none⟩ = some (.slice U.ka U.kn U.kc) := cell_at hr rfl; clear hr
      clear OS1 HXT HR HTI HTU HXT2 HXU HP
      go_wp2_with (first
        | (go_at_call 9; refine (HAW.out _ OS3.out.be).mono ?_; rintro x w4 ⟨rfl, hb4⟩; have HB4 := Lib.hid (bth OS3.out.be hb4); clear hb4)
        | (go_at_call 8; refine (HSA.out).mono ?_; rintro x w3 ⟨rfl, hb3⟩; have OS3 := Lib.hid (OS2.out.next hb3); have hr := (OS3.out.own _ List.mem_cons_self).1; have u0 : w3.cell? ⟨g6, 0, none⟩ = some (.int .i64 E) := cell_at hr rfl; have u1 : w3.cell? ⟨g6, 1, none⟩ = some (.int .i64 F) := cell_at hr rfl; clear hr; have hr := (OS3.out.own _ (List.mem_cons_of_mem _ (List.mem_cons_of_mem _ List.mem_cons_self))).1; have v0 : w3.cell? ⟨g4, 0, none⟩ = some (.int .i64 E) := cell_at hr rfl; have v1 : w3.cell? ⟨g4, 1, none⟩ = some (.int .i64 F) := cell_at hr rfl; clear hr; clear hb3))
      go_ret
      exact ⟨rfl, HB4.out⟩
theorem walk (s : ByteArray) (hs : s.size ≤ 140737488351232) (w : World) (hV : LibAt w) :
    Calls Tryz.prog 3 #[.string s] w fun e w' => e = .returned (.bool true) ∧ Below w.heap.size w w' := by
  have hsz := Lib.size_eq s
  by_cases h : 256 < s.size
  · exact walk_of s (.bad 3 0) w hV (fun wx hb => parse_long s h (by omega) wx) (fun wx hb => rparse_long s h (by omega) wx)
  · obtain ⟨l, hl⟩ : ∃ l, s.data.toList = l := ⟨_, rfl⟩
    have hsl : s = bs l := by rw [← hl]; exact (bs_data s).symm
    rw [hl] at hsz
    subst hsl
    exact walk_of (bs l) (parseA l) w hV (fun wx hb => parse_any l (by omega) wx (hV.held hb)) (fun wx hb => rparse_any l (by omega) wx)
set_option maxRecDepth 100000 in
theorem lifted (os : Os) (started : os.Started) (H : Type) (enc : TypeId × Value → H) :
    ReturnsInHanded {} Tryz.checked os 3 .any (fun w args => (Rows.exprReadsSpec.pre enc Tryz.prog Tryz.f3 Rows.exprReadsRow.domain false w args ∧ laidMetH Tryz.prog Rows.exprReadsRow.laid w) ∧ sizedMet enc Tryz.prog Tryz.f3 (OpenSpec.ofChange Rows.exprReadsSpec) false w args)
      (Rows.exprReadsSpec.post enc Tryz.prog Tryz.f3 false true false false) := by
  refine handed_shaped_and (C := Tryz.checked) (X := fun w _ => laidMetH Tryz.prog Rows.exprReadsRow.laid w) (fun _ _ _ hh h => h.of_heap hh) own started (by kernel_rfl) Tryz.func3
    (ChangeSpec.witness_shaped (enc := enc) (C := Tryz.checked) (os := os) (X := fun w _ => laidMetH Tryz.prog Rows.exprReadsRow.laid w) false (World.laidAll Tryz.prog os Rows.exprReadsRow.laid) #[.string ⟨#[]⟩] 8 (World.laidAll_os _ _ _)
      (World.shaped_of_ZipB (by kernel_rfl) (by kernel_rfl)) (by kernel_rfl) (by kernel_rfl) (by kernel_rfl)
      (by rw [MakeChecks.laidMetH_plain _ _ _ (by kernel_rfl)]; exact laidMet_laidAll _ (by kernel_rfl) (by kernel_rfl))) ?_
  intro W base args ds gs before hval0 hW hcnd hsz hL hsh _
  have hLib := lib_of hsh hL
  have hval : ∀ (j : Nat) t v, Tryz.f3.params[j]? = some t → args[j]? = some v → Value.okWide Tryz.prog W .any base t v := hval0
  have hW' := hW
  obtain ⟨p, q, hA0, hV, rfl, hfz, hnd⟩ := hW
  have hA : DataW.TrodAll enc Tryz.prog W 0 (fun _ => true) true Tryz.f3.params.toList args.toList ds p := hA0
  rw [Tryz.params3] at hA hval
  obtain ⟨rfl, rfl⟩ := trodVars_none hV
  clear hA0 hval0
  simp only [List.append_nil] at hW'
  have hlt := hW'.lt
  have hA1 := hA
  have hsz1 : (DataW.weightsEach Tryz.prog (Tryz.f3.params.toList ++ []) (ds ++ [])).all (· ≤ reachBytes) = true := hsz
  rw [Tryz.params3, List.append_nil, List.append_nil] at hsz1
  have hrd := rdg_all _ _ _ _ hA1 (fun n hn => by simpa using List.all_eq_true.1 hsz1 n hn)
  obtain ⟨v0, vs0, d0, ds0, p0, q0, hargs, rfl, rfl, h0, r0⟩ := trodAll_cons hA
  obtain ⟨rfl, rfl, rfl⟩ := trodAll_nil r0
  obtain rfl : args = #[v0] := by cases args; simp_all
  obtain ⟨a0, rfl, w0⟩ := rop_string Tryz.underlying9 (hval 0 9 v0 rfl rfl) (hrd 0 9 v0 rfl rfl)
  refine (walk a0 w0 W hLib).mono fun e W' ⟨he, bel⟩ => ?_
  subst he
  exact ⟨_, rfl, _, _, _, [], _, [], hW', trodAll_mk1 (shut_bool Tryz.underlying4 _), trodAll_below laidOut bel [9] _ _ _ (by kernel_rfl) hA1 hlt, rfl, bel.frame _, fun h => by cases h⟩
theorem over : Rows.ExprReadsSaid :=
  OpenClaim.holds_of_wide 3 Tryz.f3 rfl rfl rfl rfl rfl rfl rfl ⟨rfl, rfl, rfl, rfl, rfl⟩ rfl rfl rfl rfl rfl (by kernel_rfl) Tryz.func3 (by kernel_rfl)
    (of_decide_eq_true (by kernel_rfl)) (by unfold Func.isWrapper; first | (rw [if_pos (by decide +kernel)]; kernel_rfl) | (rw [if_neg (by decide +kernel)]; exact ⟨rfl, rfl⟩))
    (fun os started H enc _ => lifted os started H enc)
theorem proved : Rows.ExprReadsCardSaid :=
  Claim7.holds_tied_plain_at .later [] [.data, .data, .data, .data, .sentinel, .sentinel, .pinned] true (true, "00e356c7fe7541a8657123439a51159eee0186da084d3c79d387c40d35cea94b") true
    over (fun _ h => by cases h) (by kernel_rfl) (fun _ h => by cases h) exprReads_row_tie rfl ⟨rfl, rfl⟩ (by kernel_rfl) rfl
    (fun f fn hf hfn => by
      obtain rfl : f = 3 := Option.some.inj ((show Tryz.prog.funcNamed Rows.exprReadsRow.func = some 3 by kernel_rfl).symm.trans hf) |>.symm
      obtain rfl : fn = Tryz.f3 := (Option.some.inj (Tryz.func3.symm.trans hfn)).symm
      exact ⟨by kernel_rfl, fun j t ht => by
        rw [Tryz.params3] at ht
        have hm : t ∈ [9] := by simpa using Array.mem_of_getElem? ht
        have hall : ([9].all fun u => !Tryz.prog.wantsStandIn u) = true := by kernel_rfl
        exact (show Tryz.prog.wantsStandIn t = false by simpa using List.all_eq_true.1 hall t hm)⟩)
    (by kernel_rfl)
#print axioms proved
end Go.Proofs.YtbejpgoedenpmaaGreatDoor.exprReads
