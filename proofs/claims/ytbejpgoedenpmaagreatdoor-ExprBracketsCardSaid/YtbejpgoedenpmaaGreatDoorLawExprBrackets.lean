/- ExprBrackets: for every pair of texts the law returns true. No condition. -/
import Derived.Test.YtbejpgoedenpmaaGreatDoorRdgSlice
import Derived.Test.YtbejpgoedenpmaaGreatDoorTie
import Derived.Test.YtbejpgoedenpmaaGreatDoorCards
import Derived.SevenTiedAt
import Derived.LaidMore
import Derived.Lay
import Derived.Stop.Joined
import Derived.Deep.RegionHeld3
import Derived.Test.YtbejpgoedenpmaaGreatDoorExprShape
import Derived.Test.YtbejpgoedenpmaaGreatDoorBrkP2
import Derived.Test.YtbejpgoedenpmaaGreatDoorBrkAll
import Derived.Test.YtbejpgoedenpmaaGreatDoorBrkR5All
namespace Go.Proofs.YtbejpgoedenpmaaGreatDoor.exprBrackets
open Go.ChangeShapes Go.WideShapes Go.ChangeAt Go.RowKit
open Go.ChangeMaps (open_string shut_string)
set_option linter.unusedVariables false
set_option maxHeartbeats 8000000 in
set_option maxRecDepth 20000 in
theorem walk (a b : List UInt8) (ha : a.length ≤ 120) (hb : b.length ≤ 120) (w : World) (hV : LibAt w) : Calls Tryz.prog 5 #[.string (bs a), .string (bs b)] w fun e w' => e = .returned (.bool true) ∧ Below w.heap.size w w' := by
  have HP1 := Lib.hid (fun wx (hx : Below w.heap.size w wx) => parse_has a (by omega) wx (hV.held hx))
  have HP2 := Lib.hid (fun wx (hx : Below w.heap.size w wx) => parse_has (brk a) (by simp [brk]; omega) wx (hV.held hx))
  have HP4 := Lib.hid (fun wx (hx : Below w.heap.size w wx) => parse_has (78 :: 79 :: 84 :: 32 :: brk a) (by simp [brk]; omega) wx (hV.held hx))
  have HP6 := Lib.hid (fun wx (hx : Below w.heap.size w wx) => parse_has b (by omega) wx (hV.held hx))
  have HP7 := Lib.hid (fun wx (hx : Below w.heap.size w wx) => parse_has (40 :: (a ++ 41 :: (32 :: 65 :: 78 :: 68 :: 32 :: brk b))) (by simp [brk]; omega) wx (hV.held hx))
  have HP9 := Lib.hid (fun wx (hx : Below w.heap.size w wx) => parse_has (40 :: (a ++ 41 :: (32 :: 79 :: 82 :: 32 :: brk b))) (by simp [brk]; omega) wx (hV.held hx))
  have HAW := Lib.hid (fun wx (hb : Below w.heap.size w wx) => awake_any wx (hV.held hb))
  have HSP := Lib.hid (fun (h : 41 ∈ a) wx => spans_any a (by omega) h wx)
  have hA := bs_size a
  have hB := bs_size b
  go_enter Tryz.func5, Tryz.ntmps5
  go_upto_region 3 with (fail)
  refine p3 ha hb (Lib.hid (HP1.out _ (Below.refl _ _))) ?_
  intro T1 f1 x27 x28 x26 x29 x30 x5 x6 W1 hB1 hF1 hR1 hX1 hW1
  have HB1 := Lib.hid hB1
  have HF1 := Lib.hid hF1
  have HR1 := Lib.hid hR1
  have HX1 := Lib.hid hX1
  have HW1 := Lib.hid hW1
  have HT1 := Lib.hid hW1
  clear hB1 hF1 hR1 hX1 hW1
  go_upto_region 4 with (fail)
  refine p4 ha hb (Lib.hid (HP2.out _ HT1.out)) ?_
  intro T2 f2 x32 x33 x34 x35 x31 x36 x37 x7 x8 W2 hB2 hF2 hR2 hX2 hW2
  have HB2 := Lib.hid hB2
  have HF2 := Lib.hid hF2
  have HR2 := Lib.hid hR2
  have HX2 := Lib.hid hX2
  have HW2 := Lib.hid hW2
  have HT2 := Lib.hid (bth HT1.out hW2)
  clear hB2 hF2 hR2 hX2 hW2
  have HB1 := Lib.hid (HB1.out.next HW2.out)
  have HF1 := Lib.hid (HF1.out.next HW2.out)
  have HX1 := Lib.hid (HX1.out.next HW2.out)
  go_upto_region 5 with (fail)
  by_cases hz : ¬ f1 = 0 ∧ f2 = 0
  · obtain ⟨h1, rfl⟩ := hz
    have HSQ := Lib.hid (HSP.out (unbrk_res ha HR1.out h1 HR2.out))
    obtain ⟨b6, g6, rfl, q6⟩ := HF1.out
    obtain ⟨b8, g8, rfl, q8⟩ := HF2.out
    have c6 : W2.cell? ⟨b6, 0, none⟩ = some (.int .i64 f1) := cell_at q6 rfl
    have c8 : W2.cell? ⟨b8, 0, none⟩ = some (.int .i64 0) := cell_at q8 rfl
    have e1 : (f1 != 0) = true := by simpa using h1
    have e2 : (f1 == 0) = false := by simpa using h1
    clear q6 q8
    go_upto_region 6 with (fail)
    refine r6 c6 e1 (Lib.hid (HSQ.out _)) (Lib.hid (fun wx hx => HAW.out wx (bth HT2.out hx))) ?_
    intro x82 x83 x84 x85 x86 x87 x88 x89 x90 x91 W3 hW3
    have HW3 := Lib.hid (bth HT2.out hW3)
    clear hW3
    go_wp2_with fail
    go_ret
    exact ⟨rfl, HW3.out⟩
  · refine r5_all ha HB1.out HF1.out HB2.out HF2.out HX1.out HX2.out HR1.out HR2.out hz ?_
    intro x38 x39 x40 x41 x42 x43 x44 x45 x46 x47 x48 x49 x50 x51 x52 x53 x54 x55 x56 x57 x58 x59 x60 x61 x62 x63 x64 x65 x66 x67 x68 x69 x70 x71 x72 x73 x74 x75 x76 x77 x78 x79 x80 W3 hW3
    have HW3 := Lib.hid hW3
    have HT3 := Lib.hid (bth HT2.out hW3)
    clear hW3
    have HB1 := Lib.hid (HB1.out.next HW3.out)
    have HF1 := Lib.hid (HF1.out.next HW3.out)
    have HX1 := Lib.hid (HX1.out.next HW3.out)
    clear HB2 HF2 HX2 HR2 HSP
    go_upto_region 7 with (fail)
    refine p7 ha hb (Lib.hid (HP4.out _ HT3.out)) ?_
    intro T4 f4 x93 x94 x95 x96 x92 x97 x98 x9 x10 W4 hB4 hF4 hR4 hX4 hW4
    have HB4 := Lib.hid hB4
    have HF4 := Lib.hid hF4
    have HR4 := Lib.hid hR4
    have HX4 := Lib.hid hX4
    have HW4 := Lib.hid hW4
    have HT4 := Lib.hid (bth HT3.out hW4)
    clear hB4 hF4 hR4 hX4 hW4
    have HB1 := Lib.hid (HB1.out.next HW4.out)
    have HF1 := Lib.hid (HF1.out.next HW4.out)
    have HX1 := Lib.hid (HX1.out.next HW4.out)
    go_upto_region 8 with (fail)
    refine r8_all HF1.out HF4.out HB1.out HX1.out HB4.out HX4.out HR1.out HR4.out ?_
    intro x99 x100 x101 x102 x103 x104 x105 x106 x107 x108 x109 x110 x111 x112 x113 x114 x115 x116 x117 x118 x119 x120 x121 x122 x123 x124 x125 W5 hW5
    have HW5 := Lib.hid hW5
    have HT5 := Lib.hid (bth HT4.out hW5)
    clear hW5
    have HB1 := Lib.hid (HB1.out.next HW5.out)
    have HF1 := Lib.hid (HF1.out.next HW5.out)
    have HX1 := Lib.hid (HX1.out.next HW5.out)
    clear HB4 HF4 HX4 HR4
    go_upto_region 10 with (fail)
    refine p10 ha hb (Lib.hid (HP6.out _ HT5.out)) ?_
    intro T6 f6 x128 x129 x127 x130 x131 x11 x12 W6 hB6 hF6 hR6 hX6 hW6
    have HB6 := Lib.hid hB6
    have HF6 := Lib.hid hF6
    have HR6 := Lib.hid hR6
    have HX6 := Lib.hid hX6
    have HW6 := Lib.hid hW6
    have HT6 := Lib.hid (bth HT5.out hW6)
    clear hB6 hF6 hR6 hX6 hW6
    have HB1 := Lib.hid (HB1.out.next HW6.out)
    have HF1 := Lib.hid (HF1.out.next HW6.out)
    have HX1 := Lib.hid (HX1.out.next HW6.out)
    go_upto_region 11 with (fail)
    refine p11 ha hb (Lib.hid (HP7.out _ HT6.out)) ?_
    intro T7 f7 x133 x134 x135 x136 x137 x138 x139 x132 x140 x141 x13 x14 W7 hB7 hF7 hR7 hX7 hW7
    have HB7 := Lib.hid hB7
    have HF7 := Lib.hid hF7
    have HR7 := Lib.hid hR7
    have HX7 := Lib.hid hX7
    have HW7 := Lib.hid hW7
    have HT7 := Lib.hid (bth HT6.out hW7)
    clear hB7 hF7 hR7 hX7 hW7
    have HB1 := Lib.hid (HB1.out.next HW7.out)
    have HF1 := Lib.hid (HF1.out.next HW7.out)
    have HX1 := Lib.hid (HX1.out.next HW7.out)
    have HB6 := Lib.hid (HB6.out.next HW7.out)
    have HF6 := Lib.hid (HF6.out.next HW7.out)
    have HX6 := Lib.hid (HX6.out.next HW7.out)
    go_upto_region 12 with (fail)
    refine r12_all HF1.out HF6.out HF7.out HB1.out HX1.out HB6.out HX6.out HB7.out HX7.out HR1.out HR6.out HR7.out ?_
    intro x142 x143 x144 x145 x146 x147 x148 x149 x150 x151 x152 x153 x154 x155 x156 x157 x158 x159 x160 x161 x162 x163 x164 x165 x166 x167 x168 x169 x170 x171 x172 x173 x174 x175 x176 x177 x178 x179 x180 x181 x182 W8 hW8
    have HW8 := Lib.hid hW8
    have HT8 := Lib.hid (bth HT7.out hW8)
    clear hW8
    have HB1 := Lib.hid (HB1.out.next HW8.out)
    have HF1 := Lib.hid (HF1.out.next HW8.out)
    have HX1 := Lib.hid (HX1.out.next HW8.out)
    have HB6 := Lib.hid (HB6.out.next HW8.out)
    have HF6 := Lib.hid (HF6.out.next HW8.out)
    have HX6 := Lib.hid (HX6.out.next HW8.out)
    clear HB7 HF7 HX7 HR7
    go_upto_region 14 with (fail)
    refine p14 ha hb (Lib.hid (HP9.out _ HT8.out)) ?_
    intro T9 f9 x185 x186 x187 x188 x189 x190 x191 x184 x192 x193 x15 x16 W9 hB9 hF9 hR9 hX9 hW9
    have HB9 := Lib.hid hB9
    have HF9 := Lib.hid hF9
    have HR9 := Lib.hid hR9
    have HX9 := Lib.hid hX9
    have HW9 := Lib.hid hW9
    have HT9 := Lib.hid (bth HT8.out hW9)
    clear hB9 hF9 hR9 hX9 hW9
    have HB1 := Lib.hid (HB1.out.next HW9.out)
    have HF1 := Lib.hid (HF1.out.next HW9.out)
    have HX1 := Lib.hid (HX1.out.next HW9.out)
    have HB6 := Lib.hid (HB6.out.next HW9.out)
    have HF6 := Lib.hid (HF6.out.next HW9.out)
    have HX6 := Lib.hid (HX6.out.next HW9.out)
    go_upto_region 15 with (fail)
    refine r15_all HF1.out HF6.out HF9.out HB1.out HX1.out HB6.out HX6.out HB9.out HX9.out HR1.out HR6.out HR9.out (Lib.hid (fun wx hx => HAW.out wx (bth HT9.out hx))) ?_
    intro x194 x195 x196 x197 x198 x199 x200 x201 x202 x203 x204 x205 x206 x207 x208 x209 x210 x211 x212 x213 x214 x215 x216 x217 x218 x219 x220 x221 x222 x223 x224 x225 x226 x227 x228 x229 x230 x231 x232 x233 x234 x235 x236 W10 hW10
    have HW10 := Lib.hid (bth HT9.out hW10)
    clear hW10
    go_wp2_with fail
    go_ret
    exact ⟨rfl, HW10.out⟩
set_option maxHeartbeats 8000000 in
set_option maxRecDepth 20000 in
theorem walk2 (a b : List UInt8) (w : World) (hV : LibAt w) (hA1 : (bs a).size ≤ maxLen) (hB1 : (bs b).size ≤ maxLen) : Calls Tryz.prog 5 #[.string (bs a), .string (bs b)] w fun e w' => e = .returned (.bool true) ∧ Below w.heap.size w w' := by
  by_cases h : a.length ≤ 120 ∧ b.length ≤ 120
  · exact walk a b h.1 h.2 w hV
  · have HA := Lib.hid (awake_any w hV)
    have hA := bs_size a
    have hB := bs_size b
    by_cases h1 : a.length ≤ 120
    · have h2 : ¬ b.length ≤ 120 := fun h3 => h ⟨h1, h3⟩
      clear h
      go_enter Tryz.func5, Tryz.ntmps5
      go_wp2_with (go_at_call 9; refine (HA.out).mono ?_; rintro e w1 ⟨rfl, hb1⟩; have HB1 := Lib.hid hb1; clear hb1)
      go_ret
      exact ⟨rfl, HB1.out⟩
    · clear h
      go_enter Tryz.func5, Tryz.ntmps5
      go_wp2_with (go_at_call 9; refine (HA.out).mono ?_; rintro e w1 ⟨rfl, hb1⟩; have HB1 := Lib.hid hb1; clear hb1)
      go_ret
      exact ⟨rfl, HB1.out⟩
set_option maxRecDepth 100000 in
theorem lifted (os : Os) (started : os.Started) (H : Type) (enc : TypeId × Value → H) :
    ReturnsInHanded {} Tryz.checked os 5 .any (fun w args => (Rows.exprBracketsSpec.pre enc Tryz.prog Tryz.f5 Rows.exprBracketsRow.domain false w args ∧ laidMetH Tryz.prog Rows.exprBracketsRow.laid w) ∧ sizedMet enc Tryz.prog Tryz.f5 (OpenSpec.ofChange Rows.exprBracketsSpec) false w args)
      (Rows.exprBracketsSpec.post enc Tryz.prog Tryz.f5 false true false false) := by
  refine handed_shaped_and (C := Tryz.checked) (X := fun w _ => laidMetH Tryz.prog Rows.exprBracketsRow.laid w) (fun _ _ _ hh h => h.of_heap hh) own started (by kernel_rfl) Tryz.func5
    (ChangeSpec.witness_shaped (enc := enc) (C := Tryz.checked) (os := os) (X := fun w _ => laidMetH Tryz.prog Rows.exprBracketsRow.laid w) false (World.laidAll Tryz.prog os Rows.exprBracketsRow.laid) #[.string ⟨#[]⟩, .string ⟨#[]⟩] 8 (World.laidAll_os _ _ _)
      (World.shaped_of_ZipB (by kernel_rfl) (by kernel_rfl)) (by kernel_rfl) (by kernel_rfl) (by kernel_rfl)
      (by rw [MakeChecks.laidMetH_plain _ _ _ (by kernel_rfl)]; exact laidMet_laidAll _ (by kernel_rfl) (by kernel_rfl))) ?_
  intro W base args ds gs before hval0 hW hcnd hsz hL hsh _
  have hLib := lib_of hsh hL
  have hval : ∀ (j : Nat) t v, Tryz.f5.params[j]? = some t → args[j]? = some v → Value.okWide Tryz.prog W .any base t v := hval0
  have hW' := hW
  obtain ⟨p, q, hA0, hV, rfl, hfz, hnd⟩ := hW
  have hA : DataW.TrodAll enc Tryz.prog W 0 (fun _ => true) true Tryz.f5.params.toList args.toList ds p := hA0
  rw [Tryz.params5] at hA hval
  obtain ⟨rfl, rfl⟩ := trodVars_none hV
  clear hA0 hval0
  simp only [List.append_nil] at hW'
  have hlt := hW'.lt
  have hA1 := hA
  have hsz1 : (DataW.weightsEach Tryz.prog (Tryz.f5.params.toList ++ []) (ds ++ [])).all (· ≤ reachBytes) = true := hsz
  rw [Tryz.params5, List.append_nil, List.append_nil] at hsz1
  have hrd := rdg_all _ _ _ _ hA1 (fun n hn => by simpa using List.all_eq_true.1 hsz1 n hn)
  obtain ⟨v0, vs0, d0, ds0, p0, q0, hargs, rfl, rfl, h0, r0⟩ := trodAll_cons hA
  obtain ⟨v1, vs1, d1, ds1, p1, q1, rfl, rfl, rfl, h1, r1⟩ := trodAll_cons r0
  obtain ⟨rfl, rfl, rfl⟩ := trodAll_nil r1
  obtain rfl : args = #[v0, v1] := by cases args; simp_all
  obtain ⟨a0, rfl, w0⟩ := rop_string Tryz.underlying9 (hval 0 9 v0 rfl rfl) (hrd 0 9 v0 rfl rfl)
  obtain ⟨a1, rfl, w1⟩ := rop_string Tryz.underlying9 (hval 1 9 v1 rfl rfl) (hrd 1 9 v1 rfl rfl)
  obtain ⟨a, ha⟩ : ∃ a, bs a = a0 := ⟨_, bs_data a0⟩
  obtain ⟨b, hb⟩ : ∃ b, bs b = a1 := ⟨_, bs_data a1⟩
  subst ha hb
  refine (walk2 _ _ W hLib (by show _ ≤ 9223372036854775807; omega) (by show _ ≤ 9223372036854775807; omega)).mono fun e W' ⟨he, bel⟩ => ?_
  subst he
  exact ⟨_, rfl, _, _, _, [], _, [], hW', trodAll_mk1 (shut_bool Tryz.underlying4 _), trodAll_below laidOut bel [9, 9] _ _ _ (by kernel_rfl) hA1 hlt, rfl, bel.frame _, fun h => by cases h⟩
theorem over : Rows.ExprBracketsSaid :=
  OpenClaim.holds_of_wide 5 Tryz.f5 rfl rfl rfl rfl rfl rfl rfl ⟨rfl, rfl, rfl, rfl, rfl⟩ rfl rfl rfl rfl rfl (by kernel_rfl) Tryz.func5 (by kernel_rfl)
    (of_decide_eq_true (by kernel_rfl)) (by unfold Func.isWrapper; first | (rw [if_pos (by decide +kernel)]; kernel_rfl) | (rw [if_neg (by decide +kernel)]; exact ⟨rfl, rfl⟩))
    (fun os started H enc _ => lifted os started H enc)
theorem proved : Rows.ExprBracketsCardSaid :=
  Claim7.holds_tied_plain_at .later [] [.data, .data, .data, .data, .sentinel, .sentinel, .pinned] true (true, "00e356c7fe7541a8657123439a51159eee0186da084d3c79d387c40d35cea94b") true
    over (fun _ h => by cases h) (by kernel_rfl) (fun _ h => by cases h) exprBrackets_row_tie rfl ⟨rfl, rfl⟩ (by kernel_rfl) rfl
    (fun f fn hf hfn => by
      obtain rfl : f = 5 := Option.some.inj ((show Tryz.prog.funcNamed Rows.exprBracketsRow.func = some 5 by kernel_rfl).symm.trans hf) |>.symm
      obtain rfl : fn = Tryz.f5 := (Option.some.inj (Tryz.func5.symm.trans hfn)).symm
      exact ⟨by kernel_rfl, fun j t ht => by
        rw [Tryz.params5] at ht
        have hm : t ∈ [9, 9] := by simpa using Array.mem_of_getElem? ht
        have hall : ([9, 9].all fun u => !Tryz.prog.wantsStandIn u) = true := by kernel_rfl
        exact (show Tryz.prog.wantsStandIn t = false by simpa using List.all_eq_true.1 hall t hm)⟩)
    (by kernel_rfl)
#print axioms proved
end Go.Proofs.YtbejpgoedenpmaaGreatDoor.exprBrackets
