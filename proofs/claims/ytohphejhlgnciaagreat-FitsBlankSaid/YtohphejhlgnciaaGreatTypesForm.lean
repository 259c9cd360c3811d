/- Contract of package types: checkForm. -/
import Derived.Test.YtohphejhlgnciaaGreatTypesCk
import Derived.Test.YtohphejhlgnciaaGreatTypesOwn
import Derived.Deep.RegionHeld3
import Derived.Deep.DeepCutAuto
namespace Go.Proofs.YtohphejhlgnciaaGreat
open Go.RowKit
set_option linter.unusedVariables false
def sameI (a b : ItemV) : Bool := (a.name.toList == b.name.toList) && ((a.num == b.num) && ((a.type == b.type) && ((a.key == b.key) && (a.rest == b.rest))))
theorem item_neq (xn yn : ByteArray) (xu yu xt yt : Int) (xk yk xr yr : Bool) (w : World) : (binOp .neq 42 (.agg #[.string xn, .int .u64 xu, .int .i64 xt, .bool xk, .bool xr]) (.agg #[.string yn, .int .u64 yu, .int .i64 yt, .bool yk, .bool yr])).run Tryz.prog w = .ok (.bool (!sameI ⟨xn, xu, xt, xk, xr⟩ ⟨yn, yu, yt, yk, yr⟩)) w := by
  have hu := Tryz.underlying42
  have hi := Tryz.underlying3
  have hb := Tryz.underlying4
  have hn := Tryz.underlying23
  have hs := Tryz.underlying9
  have p0 := fun w => run_equalIn_string (P := Tryz.prog) w 9998 9 xn yn hs
  have p1 := fun w => run_equalIn_int (P := Tryz.prog) w 9998 23 .u64 .u64 xu yu hn
  have p2 := fun w => run_equalIn_int (P := Tryz.prog) w 9998 3 .i64 .i64 xt yt hi
  have p3 := fun a b w => run_equalIn_bool' (P := Tryz.prog) w 9998 4 a b hb
  rw [run_neq_struct, run_equalIn_agg _ 9999 _ _ _ (by kernel_rfl) (by kernel_rfl)]
  simp only [Program.fieldsOf, hu]
  simp [Op.eqFields, go_sem, p0, p1, p2, p3]
  unfold sameI
  dsimp only
  (repeat' split) <;> simp_all
/-- a subject's own box -/
def BoxS (g : Nat) (T : TypeV) (ao : Option Addr) (len cap at' : Nat) (w0 w : World) : Prop := w.heap[g]? = some (subO T ao len cap at') ∧ Below g w0 w
theorem BoxS.cells {g : Nat} {T : TypeV} {ao : Option Addr} {len cap at' : Nat} {w0 w : World} (h : BoxS g T ao len cap at' w0 w) :
    w.cell? ⟨g, 0, none⟩ = some (.int .i64 T.kind) ∧ w.cell? ⟨g, 1, none⟩ = some (.string T.name) ∧ w.cell? ⟨g, 2, none⟩ = some (.int .i64 T.bound) ∧ w.cell? ⟨g, 3, none⟩ = some (.int .i64 T.of) ∧ w.cell? ⟨g, 4, none⟩ = some (.int .i64 T.tag) ∧ w.cell? ⟨g, 5, none⟩ = some (.slice T.ia T.ilen T.icap) ∧
      w.cell? ⟨g, 6, none⟩ = some (.slice ao len cap) ∧ w.cell? ⟨g, 7, none⟩ = some (.int .i64 at') :=
  ⟨cell_at h.1 rfl, cell_at h.1 rfl, cell_at h.1 rfl, cell_at h.1 rfl, cell_at h.1 rfl, cell_at h.1 rfl, cell_at h.1 rfl, cell_at h.1 rfl⟩
theorem BoxS.keep {g : Nat} {T : TypeV} {ao : Option Addr} {len cap at' : Nat} {w0 w w1 : World} (h : BoxS g T ao len cap at' w0 w) (hb : Below w.heap.size w w1) : BoxS g T ao len cap at' w0 w1 :=
  ⟨(hb.block g (lt_of_block h.1)).trans h.1, h.2.trans (hb.mono (Nat.le_of_lt (lt_of_block h.1)))⟩
theorem BoxS.start (T : TypeV) (ao : Option Addr) (len cap at' : Nat) (w : World) : BoxS w.heap.size T ao len cap at' w (w.alloc (subO T ao len cap at')) := ⟨alloc_at w _, (Below.refl _ _).alloc (Nat.le_refl _) _⟩
theorem BoxS.drew {g : Nat} {T : TypeV} {ao : Option Addr} {len cap at' : Nat} {w0 w : World} (h : BoxS g T ao len cap at' w0 w) : BoxS g T ao len cap at' w0 w.drew := ⟨h.1, h.2.drew⟩
def f1B (T : TypeV) : Bool := !T.name.toList.isEmpty && !namedK T.kind
def f2B (T : TypeV) : Bool := T.bound != 0 && !boundK T.kind
def f3B (T : TypeV) : Bool := T.of != 0 && !ofK T.kind
def f4B (T : TypeV) : Bool := T.tag != 0 && !(T.kind == 14)
def f5B (T : TypeV) : Bool := decide (0 < T.ilen) && !namedK T.kind
def itemBad (k : Int) (x : ItemV) : Bool := !sameI x (ownI k x)
def formB (T : TypeV) : Bool := f1B T || f2B T || f3B T || f4B T || f5B T || hasB (fun j => itemBad T.kind (T.items j)) T.ilen
def ckForm (T : TypeV) : Int := if formB T then 1 else 0
theorem itemBad_eq (k : Int) (x : ItemV) : itemBad k x = !sameI ⟨x.name, x.num, x.type, x.key, x.rest⟩ ⟨(ownI k x).name, (ownI k x).num, (ownI k x).type, (ownI k x).key, (ownI k x).rest⟩ := rfl
set_option maxRecDepth 100000 in
set_option maxHeartbeats 4000000 in
theorem checkForm_any (T : TypeV) (ao : Option Addr) (len cap at' : Nat) (w : World) (HT : ItemsAt w T) : Calls Tryz.prog 61 #[subV T ao len cap at'] w fun e w' => e = .returned (.int .i64 (ckForm T)) ∧ Below w.heap.size w w' := by
  obtain ⟨hil, hit⟩ := HT
  obtain ⟨ia, hia⟩ : ∃ ia, T.ia = ia := ⟨_, rfl⟩
  rw [hia] at hit
  have HI := Lib.hid hit
  have hst := BoxS.start T ao len cap at' w
  unfold subO at hst
  rw [hia] at hst
  have HS := Lib.hid hst
  have HE := Lib.hid (show ckForm T = if f1B T || f2B T || f3B T || f4B T || f5B T || hasB (fun j => itemBad T.kind (T.items j)) T.ilen then 1 else 0 from rfl)
  clear hit hst
  unfold subV
  rw [hia]
  have HIA := Lib.hid hia
  clear hia
  go_enter Tryz.func61, Tryz.ntmps61
  go_upto_region 1 with (fail)
  generalize (w.alloc (.cells #[.int .i64 T.kind, .string T.name, .int .i64 T.bound, .int .i64 T.of, .int .i64 T.tag, .slice ia T.ilen T.icap, .slice ao len cap, .int .i64 at'] 69)) = W0 at *
  obtain ⟨c0, c1, c2, c3, c4, c5, c6, c7⟩ := HS.out.cells
  rw [HIA.out] at c5
  go_cut [5] (fun t wx => t = .bool (f1B T) ∧ W0 = wx)
  case first =>
    obtain ⟨a, ha⟩ : ∃ a, T.name.toList.isEmpty = a := ⟨_, rfl⟩
    obtain ⟨b, hb⟩ : ∃ b, namedK T.kind = b := ⟨_, rfl⟩
    have H1 := Lib.hid (show f1B T = (!a && !b) by rw [← ha, ← hb]; rfl)
    cases a <;> cases b
    all_goals
      go_wp2_with (go_at_call 82; refine (hasItems_any _ _).mono ?_; rintro e w' ⟨rfl, rfl⟩)
      go_meet
      exact ⟨by rw [H1.out]; rfl, by first | rfl | trivial⟩
  case rest =>
    obtain ⟨rfl, rfl⟩ := hcut
    cases h1 : f1B T with
    | true =>
      go_wp2
      go_ret
      exact ⟨ret_i (by rw [HE.out, h1]; simp), HS.out.2⟩
    | false =>
      go_upto_region 2 with (fail)
      go_cut [5] (fun t wx => t = .bool (f2B T) ∧ W0 = wx)
      case first =>
        obtain ⟨a, ha⟩ : ∃ a, (T.bound != 0) = a := ⟨_, rfl⟩
        obtain ⟨b, hb⟩ : ∃ b, boundK T.kind = b := ⟨_, rfl⟩
        have H1 := Lib.hid (show f2B T = (a && !b) by rw [← ha, ← hb]; rfl)
        cases a <;> cases b
        all_goals
          go_wp2_with (go_at_call 83; refine (hasBound_any _ _).mono ?_; rintro e w' ⟨rfl, rfl⟩)
          go_meet
          exact ⟨by rw [H1.out]; rfl, by first | rfl | trivial⟩
      case rest =>
        obtain ⟨rfl, rfl⟩ := hcut
        cases h2 : f2B T with
        | true =>
          go_wp2
          go_ret
          exact ⟨ret_i (by rw [HE.out, h1, h2]; simp), HS.out.2⟩
        | false =>
          go_upto_region 3 with (fail)
          go_cut [5] (fun t wx => t = .bool (f3B T) ∧ W0 = wx)
          case first =>
            obtain ⟨a, ha⟩ : ∃ a, (T.of != 0) = a := ⟨_, rfl⟩
            obtain ⟨b, hb⟩ : ∃ b, ofK T.kind = b := ⟨_, rfl⟩
            have H1 := Lib.hid (show f3B T = (a && !b) by rw [← ha, ← hb]; rfl)
            cases a <;> cases b
            all_goals
              go_wp2_with (go_at_call 84; refine (hasOf_any _ _).mono ?_; rintro e w' ⟨rfl, rfl⟩)
              go_meet
              exact ⟨by rw [H1.out]; rfl, by first | rfl | trivial⟩
          case rest =>
            obtain ⟨rfl, rfl⟩ := hcut
            cases h3 : f3B T with
            | true =>
              go_wp2
              go_ret
              exact ⟨ret_i (by rw [HE.out, h1, h2, h3]; simp), HS.out.2⟩
            | false =>
              go_upto_region 4 with (fail)
              go_cut [5] (fun t wx => t = .bool (f4B T) ∧ W0 = wx)
              case first =>
                obtain ⟨a, ha⟩ : ∃ a, (T.tag != 0) = a := ⟨_, rfl⟩
                obtain ⟨b, hb⟩ : ∃ b, (T.kind == 14) = b := ⟨_, rfl⟩
                have H1 := Lib.hid (show f4B T = (a && !b) by rw [← ha, ← hb]; rfl)
                cases a <;> cases b
                all_goals
                  go_wp2_with (go_at_call 85; refine (hasTag_any _ _).mono ?_; rintro e w' ⟨rfl, rfl⟩)
                  go_meet
                  exact ⟨by rw [H1.out]; rfl, by first | rfl | trivial⟩
              case rest =>
                obtain ⟨rfl, rfl⟩ := hcut
                cases h4 : f4B T with
                | true =>
                  go_wp2
                  go_ret
                  exact ⟨ret_i (by rw [HE.out, h1, h2, h3, h4]; simp), HS.out.2⟩
                | false =>
                  go_upto_region 5 with (fail)
                  go_cut [5] (fun t wx => t = .bool (f5B T) ∧ W0 = wx)
                  case first =>
                    obtain ⟨b, hb⟩ : ∃ b, namedK T.kind = b := ⟨_, rfl⟩
                    by_cases hp : 0 < T.ilen
                    all_goals
                      have H1 := Lib.hid (show f5B T = (decide (0 < T.ilen) && !b) by unfold f5B; rw [hb])
                      cases b
                      all_goals
                        go_wp2_with (go_at_call 82; refine (hasItems_any _ _).mono ?_; rintro e w' ⟨rfl, rfl⟩)
                        go_meet
                        exact ⟨by rw [H1.out]; simp [hp], by first | rfl | trivial⟩
                  case rest =>
                    obtain ⟨rfl, rfl⟩ := hcut
                    cases h5 : f5B T with
                    | true =>
                      go_wp2
                      go_ret
                      exact ⟨ret_i (by rw [HE.out, h1, h2, h3, h4, h5]; simp), HS.out.2⟩
                    | false =>
                      have HE2 := Lib.hid (show ckForm T = if hasB (fun j => itemBad T.kind (T.items j)) T.ilen then 1 else 0 by rw [HE.out, h1, h2, h3, h4, h5]; simp)
                      clear h1 h2 h3 h4 h5 c1 c2 c3 c4 c6 c7
                      go_wp2
                      clear c0 c5
                      obtain ⟨W1, hW1⟩ : ∃ W1 : World, W1 = W0 := ⟨_, rfl⟩
                      rw [← hW1] at HS ⊢
                      clear hW1
                      go_loopw [66] (fun i wr => ∃ j : Nat, j ≤ T.ilen ∧ i = .int .i64 j ∧ Hid (∀ m, m < j → itemBad T.kind (T.items m) = false) ∧ Hid (BoxS w.heap.size T ao len cap at' w wr)) (fun i _ => T.ilen - (intOf i).toNat)
                      case atStart => exact ⟨0, Nat.zero_le _, rfl, Lib.hid (fun m hm => absurd hm (Nat.not_lt_zero _)), HS⟩
                      case round =>
                        obtain ⟨j, hj, rfl, HN, HB⟩ := hrel
                        by_cases hlt : j < T.ilen
                        · have hiat := (HI.out j hlt).held (w1 := wr) HB.out.2
                          obtain ⟨b, off, rfl, x0, x1, x2, x3, x4, wi⟩ := hiat
                          have hown := own_any T.kind (T.items j)
                          have hne := fun w => item_neq (T.items j).name (ownI T.kind (T.items j)).name (T.items j).num (ownI T.kind (T.items j)).num (T.items j).type (ownI T.kind (T.items j)).type (T.items j).key (ownI T.kind (T.items j)).key (T.items j).rest (ownI T.kind (T.items j)).rest w
                          obtain ⟨q, hq⟩ : ∃ q, itemBad T.kind (T.items j) = q := ⟨_, rfl⟩
                          rw [← itemBad_eq, hq] at hne
                          unfold itmV at hown
                          generalize ownI T.kind (T.items j) = y at hown hne
                          have HO := Lib.hid hown
                          have hgl := lt_of_block HB.out.1
                          have HB2 := Lib.hid (HB.out.keep ((Below.refl wr.heap.size wr).alloc (Nat.le_refl _) (.cells #[.string (T.items j).name, .int .u64 (T.items j).num, .int .i64 (T.items j).type, .bool (T.items j).key, .bool (T.items j).rest] 42)))
                          have hx := alloc_at wr (.cells #[.string (T.items j).name, .int .u64 (T.items j).num, .int .i64 (T.items j).type, .bool (T.items j).key, .bool (T.items j).rest] 42)
                          clear hown
                          go_upto_region 10 with (fail)
                          clear x0 x1 x2 x3 x4
                          generalize (wr.alloc (.cells #[.string (T.items j).name, .int .u64 (T.items j).num, .int .i64 (T.items j).type, .bool (T.items j).key, .bool (T.items j).rest] 42)) = W2 at HB2 hx ⊢
                          generalize wr.heap.size = h at hx hgl ⊢
                          have x0 := cell_at (j := 0) hx rfl
                          have x1 := cell_at (j := 1) hx rfl
                          have x2 := cell_at (j := 2) hx rfl
                          have x3 := cell_at (j := 3) hx rfl
                          have x4 := cell_at (j := 4) hx rfl
                          have k0 := HB2.out.cells.1
                          clear hx HB
                          cases q
                          · go_wp2_with fail
                            go_region_held3 (fun w' => w'.cell? ⟨w.heap.size, 0, none⟩ = some (.int .i64 T.kind) ∧ w'.cell? ⟨h, 0, none⟩ = some (.string (T.items j).name) ∧ w'.cell? ⟨h, 1, none⟩ = some (.int .u64 (T.items j).num) ∧ w'.cell? ⟨h, 2, none⟩ = some (.int .i64 (T.items j).type) ∧ w'.cell? ⟨h, 3, none⟩ = some (.bool (T.items j).key) ∧ w'.cell? ⟨h, 4, none⟩ = some (.bool (T.items j).rest) ∧ Hid (BoxS w.heap.size T ao len cap at' w w'))
                              (first | exact ⟨k0, x0, x1, x2, x3, x4, Lib.hid HB2.out.drew⟩ | exact ⟨k0, x0, x1, x2, x3, x4, HB2⟩ | fail)
                              (first
                                | (go_at_call 86; refine (HO.out _).mono ?_; rintro e w3 ⟨rfl, hb3⟩; have k0 := keep6 hb3 (by exact k0); have x0 := keep6 hb3 (by exact x0); have x1 := keep6 hb3 (by exact x1); have x2 := keep6 hb3 (by exact x2); have x3 := keep6 hb3 (by exact x3); have x4 := keep6 hb3 (by exact x4); have HB2 := Lib.hid (BoxS.keep (by first | exact HB2.out | exact HB2.out.drew) hb3); clear hb3))
                            go_wp2_with fail
                            go_roundw
                            case rel => exact ⟨j + 1, by omega, by go_num, Lib.hid (none_next HN.out hq), HB2⟩
                            case measure => simp [intOf]; omega
                          · go_wp2_with fail
                            go_region_held3 (fun w' => w'.cell? ⟨w.heap.size, 0, none⟩ = some (.int .i64 T.kind) ∧ w'.cell? ⟨h, 0, none⟩ = some (.string (T.items j).name) ∧ w'.cell? ⟨h, 1, none⟩ = some (.int .u64 (T.items j).num) ∧ w'.cell? ⟨h, 2, none⟩ = some (.int .i64 (T.items j).type) ∧ w'.cell? ⟨h, 3, none⟩ = some (.bool (T.items j).key) ∧ w'.cell? ⟨h, 4, none⟩ = some (.bool (T.items j).rest) ∧ Hid (BoxS w.heap.size T ao len cap at' w w'))
                              (first | exact ⟨k0, x0, x1, x2, x3, x4, Lib.hid HB2.out.drew⟩ | exact ⟨k0, x0, x1, x2, x3, x4, HB2⟩ | fail)
                              (first
                                | (go_at_call 86; refine (HO.out _).mono ?_; rintro e w3 ⟨rfl, hb3⟩; have k0 := keep6 hb3 (by exact k0); have x0 := keep6 hb3 (by exact x0); have x1 := keep6 hb3 (by exact x1); have x2 := keep6 hb3 (by exact x2); have x3 := keep6 hb3 (by exact x3); have x4 := keep6 hb3 (by exact x4); have HB2 := Lib.hid (BoxS.keep (by first | exact HB2.out | exact HB2.out.drew) hb3); clear hb3))
                            go_wp2_with fail
                            go_ret
                            exact ⟨ret_i (by rw [HE2.out, hasB_some hlt hq]; rfl), HB2.out.2⟩
                        · obtain rfl : j = T.ilen := by omega
                          have hf := hasB_none HN.out
                          go_wp2
                          go_ret
                          exact ⟨ret_i (by rw [HE2.out, hf]; rfl), HB.out.2⟩
end Go.Proofs.YtohphejhlgnciaaGreat
