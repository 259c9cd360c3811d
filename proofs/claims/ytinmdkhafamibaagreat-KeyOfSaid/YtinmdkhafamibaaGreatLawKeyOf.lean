/- KeyOf: for every list of types, every number and every value the law returns true, and its arguments read as before. No condition. -/
import Derived.Test.YtinmdkhafamibaaGreatRdgSlice
import Derived.Test.YtinmdkhafamibaaGreatKeyAwake
import Derived.Test.YtinmdkhafamibaaGreatKeyROf
namespace Go.Proofs.YtinmdkhafamibaaGreat.keyOf
open Go.ChangeShapes Go.WideShapes Go.ChangeAt Go.RowKit
open Go.ChangeMaps (open_string shut_string)
set_option linter.unusedVariables false

theorem wpList_load_rowW {P : Program} {ops : Array Oper} {rest : List Oper} {o : Oper} {a : Act} {w : World} {Q : Exit → Act → World → Prop} (hw : Region.wanted o (yielded ops a.tmps) = true) (ty : TypeId) (x : Operand) (ho : o.op = .load ty x)
    (g : Nat) (hx : a.eval x = .pointer (some ⟨g, 0, none⟩)) (t : TypeId) (cs : Array Value) (fr : Nat × Nat) (d : TypeDesc) (hg : w.heap[g]? = some (.cells cs t fr))
    (hu : P.underlying ty = some d) (hd : (match d with | .struct _ | .array _ _ => true | _ => false) = true) (hi : (P.info? ty).map (·.size) = some cs.size)
    (h : wpList P ops Q rest (a.put o.dst (.agg cs)) w) : wpList P ops Q (o :: rest) a w :=
  BigFrame.wpList_want hw fun K hK => wp_load_row ty x ho g hx t cs fr d hg hu hd hi (hK _ _ h)

set_option maxRecDepth 100000 in
set_option maxHeartbeats 8000000 in
theorem walk_main (ao : Option Addr) (len cap : Nat) (t : Int) (T : VT) (A : List UInt8) (l : List Nat) (E F : Int) (w : World) (hAl : A.length = 17) (hml : l.length ≤ 1000000)
    (hg : ∀ wx, Below w.heap.size w wx → Calls Tryz.prog 4 #[.slice ao len cap] wx fun e w' => e = .returned (.bool false) ∧ wx = w')
    (hm1 : ∀ wx, Below w.heap.size w wx → Calls Tryz.prog 5 #[.agg #[.int .i64 T.kind, .int .u64 T.num, .string T.text, .slice T.ia T.len T.cap], .int .i64 0] wx fun e w' => e = .returned (.bool false) ∧ Below wx.heap.size wx w')
    (hfd : ∀ wx, Below w.heap.size w wx → Calls Tryz.prog 7 #[.slice ao len cap, .int .i64 t] wx fun e w' => (∃ v, e = .returned (.tuple #[v, .int .i64 E]) ∧ IntsAt w' v l) ∧ Below wx.heap.size wx w')
    (hrd : ∀ wx, Below w.heap.size w wx → Calls Tryz.prog 8 #[.slice ao len cap, .int .i64 t] wx fun e w' => (∃ v, e = .returned (.tuple #[v, .int .i64 E]) ∧ IntsAt w' v l) ∧ Below wx.heap.size wx w')
    (ho : ∀ wx, Below w.heap.size w wx → Calls Tryz.prog 9 #[.slice ao len cap, .int .i64 t, .agg #[.int .i64 T.kind, .int .u64 T.num, .string T.text, .slice T.ia T.len T.cap]] wx fun e' w' => e' = .returned (.tuple #[.agg (kc A), .int .i64 F]) ∧ Below wx.heap.size wx w')
    (hr : ∀ wx, Below w.heap.size w wx → Calls Tryz.prog 10 #[.slice ao len cap, .int .i64 t, .agg #[.int .i64 T.kind, .int .u64 T.num, .string T.text, .slice T.ia T.len T.cap]] wx fun e' w' => e' = .returned (.tuple #[.agg (kc A), .int .i64 F]) ∧ Below wx.heap.size wx w') :
    Calls Tryz.prog 3 #[.slice ao len cap, .int .i64 t, .agg #[.int .i64 T.kind, .int .u64 T.num, .string T.text, .slice T.ia T.len T.cap]] w fun e w' => e = .returned (.bool true) ∧ Below w.heap.size w w' := by
  have HG := Lib.hid hg
  have HM := Lib.hid hm1
  have HFD := Lib.hid hfd
  have HRD := Lib.hid hrd
  have HO := Lib.hid ho
  have HR := Lib.hid hr
  have HX0 := Lib.hid (alloc_at w (.cells #[.int .i64 T.kind, .int .u64 T.num, .string T.text, .slice T.ia T.len T.cap] 26))
  have HB0 := Lib.hid ((Below.refl w.heap.size w).alloc (Nat.le_refl _) (.cells #[.int .i64 T.kind, .int .u64 T.num, .string T.text, .slice T.ia T.len T.cap] 26))
  have HKA := Lib.hid (show (Tryz.prog.info? 35).map (·.size) = some (kc A).size by rw [kc_size, hAl]; exact infoKey)
  have hq : ∀ wx : World, (Op.equalIn 10000 35 (.agg (kc A)) (.agg (kc A))).run Tryz.prog wx = .ok true wx := fun wx => by
    have := equal_key wx (a := A) (b := A) hAl hAl
    rw [decide_eq_true rfl] at this
    exact this
  have x1 : (E == E) = true := by simp
  have x2 : (F == F) = true := by simp
  clear hg hm1 hfd hrd ho hr
  go_enter Tryz.func3, Tryz.ntmps3
  go_wp2_with (first
    | (go_at_call 4; refine (HG.out _ HB0.out).mono ?_; rintro e0 w' ⟨rfl, rfl⟩)
    | (go_at_call 5; (with_reducible refine (HM.out _ HB0.out).mono ?_); rintro e1 w1 ⟨rfl, hb1⟩; have HB1 := Lib.hid (below_step8' HB0.out hb1); have HX1 := Lib.hid (box_keep HX0.out hb1); have d0 : w1.cell? ⟨w.heap.size, 0, none⟩ = some (.int .i64 T.kind) := cell_at HX1.out rfl; have d1 : w1.cell? ⟨w.heap.size, 1, none⟩ = some (.int .u64 T.num) := cell_at HX1.out rfl; have d2 : w1.cell? ⟨w.heap.size, 2, none⟩ = some (.string T.text) := cell_at HX1.out rfl; have d3 : w1.cell? ⟨w.heap.size, 3, none⟩ = some (.slice T.ia T.len T.cap) := cell_at HX1.out rfl; clear hb1)
    | (go_at_call 7; refine (HFD.out _ HB1.out).mono ?_; rintro e2 w2 ⟨⟨v2, rfl, hv2⟩, hb2⟩; have HB2 := Lib.hid (below_step8' HB1.out hb2); have HX2 := Lib.hid (box_keep HX1.out hb2); have HV2 := Lib.hid hv2; clear d0 d1 d2 d3; have d0 : w2.cell? ⟨w.heap.size, 0, none⟩ = some (.int .i64 T.kind) := cell_at HX2.out rfl; have d1 : w2.cell? ⟨w.heap.size, 1, none⟩ = some (.int .u64 T.num) := cell_at HX2.out rfl; have d2 : w2.cell? ⟨w.heap.size, 2, none⟩ = some (.string T.text) := cell_at HX2.out rfl; have d3 : w2.cell? ⟨w.heap.size, 3, none⟩ = some (.slice T.ia T.len T.cap) := cell_at HX2.out rfl; clear hb2 hv2)
    | (go_at_call 8; refine (HRD.out _ HB2.out).mono ?_; rintro e3 w3 ⟨⟨v3, rfl, hv3⟩, hb3⟩; have HB3 := Lib.hid (below_step8' HB2.out hb3); have HX3 := Lib.hid (box_keep HX2.out hb3); have HV3 := Lib.hid (HV2.out.keep hb3); have HU3 := Lib.hid hv3; clear d0 d1 d2 d3; have d0 : w3.cell? ⟨w.heap.size, 0, none⟩ = some (.int .i64 T.kind) := cell_at HX3.out rfl; have d1 : w3.cell? ⟨w.heap.size, 1, none⟩ = some (.int .u64 T.num) := cell_at HX3.out rfl; have d2 : w3.cell? ⟨w.heap.size, 2, none⟩ = some (.string T.text) := cell_at HX3.out rfl; have d3 : w3.cell? ⟨w.heap.size, 3, none⟩ = some (.slice T.ia T.len T.cap) := cell_at HX3.out rfl; clear hb3 hv3)
    | (go_at_call 9; (with_reducible refine (HO.out _ HB3.out).mono ?_); rintro e4 w4 ⟨rfl, hb4⟩; have HB4 := Lib.hid (below_step8' HB3.out hb4); have HX4 := Lib.hid (box_keep HX3.out hb4); have HV4 := Lib.hid (HV3.out.keep hb4); have HU4 := Lib.hid (HU3.out.keep hb4); clear d0 d1 d2 d3; clear hb4)
    | (refine wpList_store_rowTo rfl 35 _ _ rfl rfl w4.heap.size (kc A) rfl rfl _ _ (alloc_at w4 _) HKA.out (by rw [kc_size, hAl]; rfl) (kc_one _) ?_; rw [World.setRow_alloc_new]; obtain ⟨y4, hy4⟩ : ∃ x, w4.alloc (.cells (kc A) 35) = x := ⟨_, rfl⟩; rw [hy4]; have hby : Below w4.heap.size w4 y4 := (by rw [← hy4]; exact (Below.refl _ _).alloc (Nat.le_refl _) _); have HA4 := Lib.hid (show y4.heap[w4.heap.size]? = some (.cells (kc A) 35 (0, 0)) by rw [← hy4]; exact alloc_at w4 _); have HBY4 := Lib.hid (below_step8' HB4.out hby); have HXY4 := Lib.hid (box_keep HX4.out hby); have HVY4 := Lib.hid (HV4.out.keep hby); have HUY4 := Lib.hid (HU4.out.keep hby); have d0 : y4.cell? ⟨w.heap.size, 0, none⟩ = some (.int .i64 T.kind) := cell_at HXY4.out rfl; have d1 : y4.cell? ⟨w.heap.size, 1, none⟩ = some (.int .u64 T.num) := cell_at HXY4.out rfl; have d2 : y4.cell? ⟨w.heap.size, 2, none⟩ = some (.string T.text) := cell_at HXY4.out rfl; have d3 : y4.cell? ⟨w.heap.size, 3, none⟩ = some (.slice T.ia T.len T.cap) := cell_at HXY4.out rfl; clear hy4 hby)
    | (go_at_call 10; (with_reducible refine (HR.out _ HBY4.out).mono ?_); rintro e5 w5 ⟨rfl, hb5⟩; have HB5 := Lib.hid (below_step8' HBY4.out hb5); have HA5 := Lib.hid (rblk_keep HA4.out hb5); have HV5 := Lib.hid (HVY4.out.keep hb5); have HU5 := Lib.hid (HUY4.out.keep hb5); clear d0 d1 d2 d3; clear hb5)
    | (refine wpList_store_rowTo rfl 35 _ _ rfl rfl w5.heap.size (kc A) rfl rfl _ _ (alloc_at w5 _) HKA.out (by rw [kc_size, hAl]; rfl) (kc_one _) ?_; rw [World.setRow_alloc_new]; obtain ⟨y5, hy5⟩ : ∃ x, w5.alloc (.cells (kc A) 35) = x := ⟨_, rfl⟩; rw [hy5]; have hby : Below w5.heap.size w5 y5 := (by rw [← hy5]; exact (Below.refl _ _).alloc (Nat.le_refl _) _); have HBK := Lib.hid (show y5.heap[w5.heap.size]? = some (.cells (kc A) 35 (0, 0)) by rw [← hy5]; exact alloc_at w5 _); have HBY5 := Lib.hid (below_step8' HB5.out hby); have HAK := Lib.hid (rblk_keep HA5.out hby); have HVY5 := Lib.hid (HV5.out.keep hby); have HUY5 := Lib.hid (HU5.out.keep hby); clear hy5 hby)
    | (go_at_call 11; refine (same_any l hml v2 v3 _ HVY5.out HUY5.out).mono ?_; rintro e6 w6 ⟨rfl, hb6⟩; have HB6 := Lib.hid (below_step8' HBY5.out hb6); have HAK6 := Lib.hid (rblk_keep HAK.out hb6); have HBK6 := Lib.hid (rblk_keep HBK.out hb6); clear hb6)
    | (refine wpList_load_rowW (by rfl) 35 _ rfl w4.heap.size rfl 35 (kc A) (0, 0) _ HAK6.out Tryz.underlying35 rfl HKA.out ?_)
    | (refine wpList_load_rowW (by rfl) 35 _ rfl w5.heap.size rfl 35 (kc A) (0, 0) _ HBK6.out Tryz.underlying35 rfl HKA.out ?_)
    | (go_at_call 6; refine (awake13_any _).mono ?_; rintro e9 w9 ⟨rfl, hb9⟩; have HB9 := Lib.hid (below_step8' HB6.out hb9); clear hb9))
  go_ret
  exact ⟨rfl, HB9.out⟩
set_option maxRecDepth 100000 in
set_option maxHeartbeats 4000000 in
theorem walk (ao : Option Addr) (len cap : Nat) (L : Nat → TypeV) (t : Int) (T : VT) (S : Nat → Prop) (hcap : len ≤ cap) (hm : len ≤ 140737488351232) (hcp : ∀ i, i < len → (L i).ilen ≤ (L i).icap) (w : World) (H : ∀ i, i < len → TypeAt w ao i (L i)) (HV : ValAt w S T) :
    Calls Tryz.prog 3 #[.slice ao len cap, .int .i64 t, .agg #[.int .i64 T.kind, .int .u64 T.num, .string T.text, .slice T.ia T.len T.cap]] w fun e w' => e = .returned (.bool true) ∧ Below w.heap.size w w' := by
  have hg := fun wx (hb : Below w.heap.size w wx) => great_any ao len cap L hm wx (hold H hb)
  have hmu := fun wx (hb : Below w.heap.size w wx) => refMuch_any S T 0 wx (HV.next hb) (by omega)
  unfold RMuchTo at hmu
  rw [show ((0 : Nat) : Int) = 0 from rfl] at hmu
  have HX0 := Lib.hid (alloc_at w (.cells #[.int .i64 T.kind, .int .u64 T.num, .string T.text, .slice T.ia T.len T.cap] 26))
  have HB0 := Lib.hid ((Below.refl w.heap.size w).alloc (Nat.le_refl _) (.cells #[.int .i64 T.kind, .int .u64 T.num, .string T.text, .slice T.ia T.len T.cap] 26))
  cases hbig : greatB L len with
  | true =>
    rw [hbig] at hg
    have HG := Lib.hid hg
    clear hg hmu hbig HV H hcp
    go_enter Tryz.func3, Tryz.ntmps3
    go_wp2_with (first
      | (go_at_call 4; refine (HG.out _ HB0.out).mono ?_; rintro e0 w' ⟨rfl, rfl⟩)
      | (go_at_call 6; refine (awake13_any _).mono ?_; rintro e9 w9 ⟨rfl, hb9⟩; have HB9 := Lib.hid (below_step8' HB0.out hb9); clear hb9))
    go_ret
    exact ⟨rfl, HB9.out⟩
  | false =>
  have hlen := great_lt hbig
  rw [hbig] at hg
  cases hmt : muchT T 0 with
  | true =>
    rw [hmt] at hmu
    have HG := Lib.hid hg
    have HM := Lib.hid hmu
    clear hg hmu hmt HV H hcp hbig
    go_enter Tryz.func3, Tryz.ntmps3
    go_wp2_with (first
      | (go_at_call 4; refine (HG.out _ HB0.out).mono ?_; rintro e0 w' ⟨rfl, rfl⟩)
      | (go_at_call 5; (with_reducible refine (HM.out _ HB0.out).mono ?_); rintro e1 w1 ⟨rfl, hb1⟩; have HB1 := Lib.hid (below_step8' HB0.out hb1); have HX1 := Lib.hid (box_keep HX0.out hb1); have d0 : w1.cell? ⟨w.heap.size, 0, none⟩ = some (.int .i64 T.kind) := cell_at HX1.out rfl; have d1 : w1.cell? ⟨w.heap.size, 1, none⟩ = some (.int .u64 T.num) := cell_at HX1.out rfl; have d2 : w1.cell? ⟨w.heap.size, 2, none⟩ = some (.string T.text) := cell_at HX1.out rfl; have d3 : w1.cell? ⟨w.heap.size, 3, none⟩ = some (.slice T.ia T.len T.cap) := cell_at HX1.out rfl; clear hb1)
      | (go_at_call 6; refine (awake13_any _).mono ?_; rintro e9 w9 ⟨rfl, hb9⟩; have HB9 := Lib.hid (below_step8' HB1.out hb9); clear hb9))
    go_ret
    exact ⟨rfl, HB9.out⟩
  | false =>
  rw [hmt] at hmu
  clear HX0 HB0
  have hfd := fun wx (hb : Below w.heap.size w wx) => fields13_any ao len cap L t (by omega) hcap wx (hold H hb)
  have hrd := fun wx (hb : Below w.heap.size w wx) => rfields13_any ao len cap L t (by omega) wx (hold H hb)
  unfold FldTo at hfd hrd
  have ho := fun wx (hb : Below w.heap.size w wx) => of_any13 ao len cap L (by omega) hcap hcp S t T wx (HV.next hb) (hold H hb)
  have hr := fun wx (hb : Below w.heap.size w wx) => rof13_any ao len cap L (by omega) hcap hcp S t T wx (HV.next hb) (hold H hb)
  have hml : (fldL L len t).length ≤ 1000000 := by
    by_cases hE : fldE L len t = 0
    · obtain ⟨k, rfl, hk, hok, h13, h16, hfl⟩ := fld_zero hE
      have hv := ok_all hok
      rw [hfl]
      have h2 := keyF_len (L k) (L k).ilen
      have h3 := ((hv k hk).count (.inl h13)).2
      omega
    · unfold fldL
      rw [if_neg hE]
      exact Nat.zero_le _
  exact walk_main ao len cap t T _ _ _ _ w (keyK_len L len t T) hml hg hmu hfd hrd ho hr
set_option maxRecDepth 100000 in
theorem lifted (os : Os) (started : os.Started) (H : Type) (enc : TypeId × Value → H) :
    ReturnsInHanded {} Tryz.checked os 3 .any (Rows.keyOfSpec.pre6 enc Tryz.prog Tryz.f3 Rows.keyOfRow.domain false) (Rows.keyOfSpec.post enc Tryz.prog Tryz.f3 false true false false) := by
  refine returnsInHanded_of_change_sized (C := Tryz.checked) own started (by kernel_rfl) Tryz.func3
    (ChangeSpec.witness6 (enc := enc) (C := Tryz.checked) false ⟨#[], #[.slice none 0 0, .int .i64 0, .agg #[.int .i64 0, .int .u64 0, .string ⟨#[]⟩, .slice none 0 0]], []⟩ 8 (by kernel_rfl) (by kernel_rfl) (by kernel_rfl) (by kernel_rfl)) ?_
  intro W base args ds gs before hval0 hW hcnd hsz _
  have hval : ∀ (j : Nat) t v, Tryz.f3.params[j]? = some t → args[j]? = some v → Value.okWide Tryz.prog W .any base t v := hval0
  have hW' := hW
  obtain ⟨p, q, hA0, hV, rfl, hfz, hnd⟩ := hW
  have hA : DataW.TrodAll enc Tryz.prog W 0 (fun _ => true) true Tryz.f3.params.toList args.toList ds p := hA0
  rw [Tryz.params3] at hA hval
  obtain ⟨rfl, rfl⟩ := trodVars_none hV
  clear hA0 hval0
  simp only [List.append_nil] at hW'
  have hlt := hW'.lt
  have hA1 := hA
  have hsz1 : (DataW.weightsEach Tryz.prog (Tryz.f3.params.toList ++ []) (ds ++ [])).all (· ≤ reachBytes) = true := hsz
  rw [Tryz.params3, List.append_nil, List.append_nil] at hsz1
  have hrd := rdg_all _ _ _ _ hA1 (fun n hn => by simpa using List.all_eq_true.1 hsz1 n hn)
  obtain ⟨v0, vs0, d0, ds0, p0, q0, hargs, rfl, rfl, h0, r0⟩ := trodAll_cons hA
  obtain ⟨v1, vs1, d1, ds1, p1, q1, rfl, rfl, rfl, h1, r1⟩ := trodAll_cons r0
  obtain ⟨v2, vs2, d2, ds2, p2, q2, rfl, rfl, rfl, h2, r2⟩ := trodAll_cons r1
  obtain ⟨rfl, rfl, rfl⟩ := trodAll_nil r2
  obtain rfl : args = #[v0, v1, v2] := by cases args; simp_all
  obtain ⟨a1, rfl, w1⟩ := rop_int Tryz.underlying3 (hval 1 3 v1 rfl rfl) (hrd 1 3 v1 rfl rfl)
  have g2 := hrd 2 26 v2 rfl rfl
  obtain ⟨cs2, rfl, hz2⟩ := ok_agg (by first | exact .inl ⟨_, Tryz.underlying26⟩ | exact .inr ⟨_, _, Tryz.underlying26⟩) (hval 2 26 v2 rfl rfl)

  obtain ⟨ao, len, cap, L, rfl, hcap, hm, hcp, H⟩ := types_of3 (rop_slice 6 Tryz.underlying22 (by kernel_rfl) (hval 0 22 v0 rfl rfl) (hrd 0 22 v0 rfl rfl))
  obtain ⟨T, hT, HT⟩ := val_of hz2 g2
  unfold valV at hT
  injection hT with hT
  subst hT
  refine (walk ao len cap L a1 T _ hcap hm hcp W H HT).mono fun e W' ⟨he, bel⟩ => ?_
  subst he
  exact ⟨_, rfl, _, _, _, [], _, [], hW', trodAll_mk1 (shut_bool Tryz.underlying4 _), trodAll_below laidOut bel [22, 3, 26] _ _ _ (by kernel_rfl) hA1 hlt, rfl, bel.frame _, fun h => by cases h⟩
theorem over : Rows.keyOfRow.holds Tryz.pinned (OpenSpec.ofChange Rows.keyOfSpec) :=
  OpenClaim.holds_of_wide 3 Tryz.f3 rfl rfl rfl rfl rfl rfl rfl ⟨rfl, rfl, rfl, rfl, rfl⟩ rfl rfl rfl rfl rfl (by kernel_rfl) Tryz.func3 (by kernel_rfl)
    (of_decide_eq_true (by kernel_rfl)) (by unfold Func.isWrapper; first | (rw [if_pos (by decide +kernel)]; kernel_rfl) | (rw [if_neg (by decide +kernel)]; exact ⟨rfl, rfl⟩))
    (fun os started H enc _ => lifted os started H enc)
theorem proved : Rows.KeyOfSaid := over
#print axioms proved
end Go.Proofs.YtinmdkhafamibaaGreat.keyOf
