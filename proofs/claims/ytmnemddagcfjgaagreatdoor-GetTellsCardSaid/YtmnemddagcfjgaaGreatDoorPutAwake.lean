/- What the pen writes of any value that has its type; End; Put. -/
import Derived.Test.YtmnemddagcfjgaaGreatDoorPutOne
import Derived.Test.YtmnemddagcfjgaaGreatDoorFitsAwake
namespace Go.Proofs.YtmnemddagcfjgaaGreatDoor
open Go.RowKit
set_option linter.unusedVariables false
theorem put_value (P : Nat) (ao : Option Addr) (len cap : Nat) (bo : Option Nat) (L : Nat → TypeV) (hlen : len ≤ 1000000) (hfe : fErr (oneR L len) len = 0) (S : Nat → Prop) (w0 : World) (H : ∀ i, i < len → TypeAt w0 ao i (L i)) (hu : PenUp w0.heap.size P bo) :
    ∀ (T : VT), ValAt w0 S T → ∀ t, t < len → fitsT L T t = 0 → ∀ v a s w, Below w0.heap.size w0 w → PenAt P ao len cap bo v a s w → RowOk bo s (rowT L T t) a → CPut P ao len cap bo v a s (rowT L T t) t T w := by
  have hv := ok_all hfe
  refine VT.ind fun T ih HV t ht hf v a s w hb hp hr => ?_
  obtain ⟨hh, hz⟩ := fits_zero hf
  have Hd := head_ok hh
  have ok := hv t ht
  have hwf := ((valAt_iff T).1 HV).1
  have hl := hwf.2.2.2
  have hnm := hwf.2.1
  refine cvalue_any P ao len cap bo v a s t (L t) T (rowT L T t) hlen ht w0 w hb hu hp (H t ht) (fun wx hbx hpx => ?_)
  have hC : ∀ i, i < T.len → ∀ wx, Below w0.heap.size w0 wx → CellsAt wx S T.ia i (T.kid i) := fun i hi wx hbx => (kids_at HV hbx hi).1
  have hpo := fun i (hi : i < T.len) => part_ok ok hh hi
  have hK : ∀ (i p : Nat), i < T.len → partT L t T.num i = p → ∀ v a s wx, Below w0.heap.size w0 wx → PenAt P ao len cap bo v a s wx → RowOk bo s (rowT L (T.kid i) (partT L t T.num i)) a → CPut P ao len cap bo v a s (rowT L (T.kid i) (partT L t T.num i)) p (T.kid i) wx := by
    intro i p hi e v a s wx h1 h2 h3
    have hpi := hpo i hi
    have hzi := hz i hi
    rw [e] at h3 hpi hzi ⊢
    exact ih i hi (kids_at HV (Below.refl _ _) hi).2 p (by omega) hzi v a s wx h1 h2 h3
  by_cases e0 : (L t).kind = 10
  · have hl0 : T.len = 0 := form_len0 Hd.form (by rw [Hd.kind]; exact .inl e0)
    have e : rowT L T t = [.num ((T.text.size : Nat) + 1) 4, .text (T.text ++ ⟨#[0]⟩)] := by
      rw [rowT_eq, hl0]; unfold headR; rw [if_pos e0]; exact List.append_nil _
    have en : encN (L t).kind = 90 := by rw [e0]; rfl
    have hts := Hd.text e0
    have hbd := ok.bound (.inl e0)
    rw [e] at hr ⊢
    rw [en]
    exact etext_any P ao len cap bo v a s t T (by omega) wx hpx hr
  by_cases e1 : (L t).kind = 11
  · have e : rowT L T t = [.num ((T.len : Nat) : Int) 4] ++ catTo (fun i => rowT L (T.kid i) (partT L t T.num i)) T.len := by
      rw [rowT_eq]; unfold headR; rw [if_neg e0, if_pos e1]
    have en : encN (L t).kind = 91 := by rw [e1]; rfl
    have ho := ok.of (.inl e1)
    rw [e] at hr ⊢
    rw [en]
    exact cseq_any P ao len cap bo v a s t (L t) T.kind T.num T.text T.ia T.len T.cap T.kid S _ (L t).of.toNat hlen ht (by omega) hl w0 wx hbx hu hpx (H t ht) hC hr
      (fun i hi => hK i _ hi (by unfold partT; rw [if_neg (by omega), if_neg (by omega)]))
  by_cases e2 : (L t).kind = 12
  · have e : rowT L T t = catTo (fun i => rowT L (T.kid i) (partT L t T.num i)) T.len := by
      rw [rowT_eq]; unfold headR; rw [if_neg e0, if_neg e1, if_pos (Or.inl e2)]; rfl
    have en : encN (L t).kind = 92 := by rw [e2]; rfl
    have ho := ok.of (.inr e2)
    rw [e] at hr ⊢
    rw [en]
    exact celem_any P ao len cap bo v a s t (L t) T.kind T.num T.text T.ia T.len T.cap T.kid S _ (L t).of.toNat hlen ht (by omega) hl w0 wx hbx hu hpx (H t ht) hC hr
      (fun i hi => hK i _ hi (by unfold partT; rw [if_neg (by omega), if_neg (by omega)]))
  by_cases e3 : (L t).kind = 13
  · have e : rowT L T t = catTo (fun i => rowT L (T.kid i) (partT L t T.num i)) T.len := by
      rw [rowT_eq]; unfold headR; rw [if_neg e0, if_neg e1, if_pos (Or.inr e3)]; rfl
    have en : encN (L t).kind = 93 := by rw [e3]; rfl
    have hs := Hd.str e3
    rw [e] at hr ⊢
    rw [en]
    exact cfield_any P ao len cap bo v a s t (L t) T.kind T.num T.text T.ia T.len T.cap T.kid S _ hlen ht (fun i hi => ⟨by omega, by have := ok.items (.inl e3) i (by omega); omega⟩) hl w0 wx hbx hu hpx (H t ht) hC hr
      (fun i hi => hK i _ hi (by unfold partT; rw [if_pos e3]))
  by_cases e4 : (L t).kind = 14
  · have e : rowT L T t = [.num (lowK (L (L t).tag.toNat).kind T.num) (szK (L (L t).tag.toNat).kind)] ++ catTo (fun i => rowT L (T.kid i) (partT L t T.num i)) T.len := by
      rw [rowT_eq]; unfold headR; rw [if_neg e0, if_neg e1, if_neg (by omega), if_pos e4]
    have en : encN (L t).kind = 94 := by rw [e4]; rfl
    have htg := ok.tag e4
    obtain ⟨hnn, hbn⟩ := Hd.uni e4
    have hbz : 0 < T.len → okZ (branchZ (L t) T.num) = true := fun h0 => by
      unfold brN at hbn
      by_cases c : okZ (branchZ (L t) T.num) = true
      · exact c
      · rw [if_neg c] at hbn; omega
    have hl1 : T.len ≤ 1 := by unfold brN at hbn; split at hbn <;> omega
    rw [e] at hr ⊢
    rw [en]
    refine cunion_any P ao len cap bo v a s t (L t) (L t).tag.toNat (L (L t).tag.toNat) T.kind T.num T.text T.ia T.len T.cap T.kid S _ ((L t).items (branchZ (L t) T.num).toNat).type.toNat hlen ht (by omega) (by omega) e4 (rest_last hfe ht e4) hbz ?_ hnm hl w0 wx hbx hu hpx (H t ht) (H _ (by omega)) hC hr ?_
    · by_cases c : T.len = 0
      · exact .inr c
      · left
        have hq := br_part (T := T) e4 (hbz (by omega))
        have := ok.items (.inr e4) _ hq.1
        omega
    · intro i hi
      obtain rfl : i = 0 := by omega
      exact hK 0 _ hi (br_part (T := T) e4 (hbz (by omega))).2
  have hk := ok_num ok e0 e1 e2 e3 e4
  have hl0 : T.len = 0 := form_len0 Hd.form (by rw [Hd.kind]; have := ok.kind; omega)
  have e : rowT L T t = [.num (lowK (L t).kind T.num) (szK (L t).kind)] := by
    rw [rowT_eq, hl0]; unfold headR; rw [if_neg e0, if_neg e1, if_neg (by omega), if_neg e4]; exact List.append_nil _
  have en : encN (L t).kind = 95 := by unfold encN; rw [if_neg e0, if_neg e1, if_neg e2, if_neg e3, if_neg e4]
  rw [e] at hr ⊢
  rw [en]
  exact cnum_any P ao len cap bo v a s t (L t) T hlen ht hnm wx hpx ((H t ht).held hbx) hr
/-- what End answers -/
def endErr (L : Nat → TypeV) (len : Nat) (t : Int) (T : VT) (at' : Int) : Int := if at' < 0 ∨ 512 < at' then 7 else fitsA L len t T
def endAt (L : Nat → TypeV) (len : Nat) (t : Int) (T : VT) (at' : Int) : Int := if endErr L len t T at' = 0 then ((endR (rowT L T t.toNat) at'.toNat : Nat) : Int) else 0
def putErr (L : Nat → TypeV) (len : Nat) (t : Int) (T : VT) : Int := if fitsA L len t T ≠ 0 then fitsA L len t T else if 512 < endR (rowT L T t.toNat) 0 then 3 else 0
def putBytes (L : Nat → TypeV) (len : Nat) (t : Int) (T : VT) : ByteArray := if putErr L len t T = 0 then bytR (rowT L T t.toNat) ⟨#[]⟩ else ⟨#[]⟩
/-- a value that has its type -/
theorem fitsA_zero {L : Nat → TypeV} {len : Nat} {t : Int} {T : VT} (h : fitsA L len t T = 0) : ∃ k : Nat, t = k ∧ k < len ∧ fErr (oneR L len) len = 0 ∧ fitsT L T k = 0 := by
  unfold fitsA at h
  cases hT : hasT L len t with
  | true =>
    obtain ⟨k, rfl, hk, hok⟩ := hasT_in hT
    rw [if_pos hT, Int.toNat_natCast] at h
    exact ⟨k, rfl, hk, hok, h⟩
  | false => rw [hT] at h; cases h
set_option maxHeartbeats 4000000 in
theorem end_any (ao : Option Addr) (len cap : Nat) (L : Nat → TypeV) (hlen : len ≤ 1000000) (hcap : len ≤ cap) (hcp : ∀ i, i < len → (L i).ilen ≤ (L i).icap) (S : Nat → Prop) (t : Int) (T : VT) (at' : Int) (w : World) (HV : ValAt w S T) (H : ∀ i, i < len → TypeAt w ao i (L i)) :
    Calls Tryz.prog 29 #[.slice ao len cap, .int .i64 t, .agg #[.int .i64 T.kind, .int .u64 T.num, .string T.text, .slice T.ia T.len T.cap], .int .i64 at'] w fun e w' => e = .returned (.tuple #[.int .i64 (endAt L len t T at'), .int .i64 (endErr L len t T at')]) ∧ Below w.heap.size w w' := by
  have hA := (Below.refl w.heap.size w).alloc (Nat.le_refl _) (.cells #[.int .i64 T.kind, .int .u64 T.num, .string T.text, .slice T.ia T.len T.cap] 28)
  by_cases hr : at' < 0 ∨ 512 < at'
  · have e1 : endErr L len t T at' = 7 := by unfold endErr; rw [if_pos hr]
    have e2 : endAt L len t T at' = 0 := by unfold endAt; rw [e1]; rfl
    rw [e1, e2]
    have HA := Lib.hid hA
    clear e1 e2 HV H hA hcp
    by_cases h0 : at' < 0
    · clear hr
      go_enter Tryz.func29, Tryz.ntmps29
      go_wp2
      go_ret2
      exact ⟨rfl, HA.out⟩
    · have h1 : 512 < at' := by omega
      clear hr
      go_enter Tryz.func29, Tryz.ntmps29
      go_wp2
      go_ret2
      exact ⟨rfl, HA.out⟩
  · obtain ⟨a, rfl⟩ : ∃ a : Nat, at' = a := ⟨at'.toNat, by omega⟩
    have ha : a ≤ 512 := by omega
    have e1 : endErr L len t T a = fitsA L len t T := by unfold endErr; rw [if_neg hr]
    have HF := fun wx (hb : Below w.heap.size w wx) => fits9_any ao len cap L hlen hcap hcp S t T wx (HV.next hb) (hold H hb)
    by_cases hE : fitsA L len t T = 0
    · obtain ⟨k, rfl, hk, hfe, hft⟩ := fitsA_zero hE
      have hv := ok_all hfe
      have hw := valAt_wf T HV
      have hfar := row_far hv hk hw hft a
      have e2 : endAt L len (k : Nat) T a = ((endR (rowT L T k) a : Nat) : Int) := by unfold endAt; rw [e1, if_pos hE]; rfl
      rw [e1, hE, e2]
      rw [hE] at HF
      have hval := fun w1 (hb1 : Below w.heap.size w w1) => put_value w1.heap.size ao len cap none L hlen hfe S w H ⟨hb1.size, fun b e => by cases e⟩ T HV k hk hft (.slice none 0 0) a ⟨#[]⟩ (w1.alloc (.cells #[.slice ao len cap, .int .i64 (a : Nat), .pointer none] 74)) (hb1.alloc hb1.size _) ⟨alloc_at w1 _, fun b e => by cases e⟩ ⟨row_okP hv T k hk hft, by omega, fun b e => by cases e⟩
      obtain ⟨E, hEE⟩ : ∃ E, endR (rowT L T k) a = E := ⟨_, rfl⟩
      unfold CPut at hval
      rw [hEE] at hval ⊢
      have HQ := Lib.hid (alloc_at w (.cells #[.int .i64 T.kind, .int .u64 T.num, .string T.text, .slice T.ia T.len T.cap] 28))
      have HA := Lib.hid hA
      have HF := Lib.hid HF
      have HC := Lib.hid hval
      have hnn : ¬ ((a : Nat) : Int) < 0 := by omega
      have hn5 : ¬ (512 : Int) < ((a : Nat) : Int) := by omega
      clear hval hEE e1 e2 hE hfe hft hv hw hfar HV H hA hr hcp
      go_enter Tryz.func29, Tryz.ntmps29
      go_wp2_with (first
        | (go_at_call 16; refine (HF.out _ HA.out).mono ?_; rintro e w1 ⟨rfl, hb1⟩; have HB1 := Lib.hid (below_step8' HA.out hb1); have HQ1 := Lib.hid (box_keep HQ.out hb1); have d0 : w1.cell? ⟨w.heap.size, 0, none⟩ = some (.int .i64 T.kind) := cell_at HQ1.out rfl; have d1 : w1.cell? ⟨w.heap.size, 1, none⟩ = some (.int .u64 T.num) := cell_at HQ1.out rfl; have d2 : w1.cell? ⟨w.heap.size, 2, none⟩ = some (.string T.text) := cell_at HQ1.out rfl; have d3 : w1.cell? ⟨w.heap.size, 3, none⟩ = some (.slice T.ia T.len T.cap) := cell_at HQ1.out rfl; have hlw : w.heap.size < w1.heap.size := lt_of_block HQ1.out; have hnw : ¬ w.heap.size = w1.heap.size := (by omega); clear hb1)
        | (go_at_call 31; refine (HC.out _ HB1.out).mono ?_; rintro e w2 ⟨rfl, hn2⟩; have HB2 := Lib.hid (PenNow.below (w0 := w) (HB1.out.alloc HB1.out.size _) (⟨alloc_at w1 _, fun b e => by cases e⟩ : PenAt w1.heap.size ao len cap none (.slice none 0 0) a ⟨#[]⟩ _) ⟨HB1.out.size, fun b e => by cases e⟩ hn2); obtain ⟨v2, q2, _, _⟩ := hn2; have g1 : w2.cell? ⟨w1.heap.size, 1, none⟩ = some (.int .i64 (E : Nat)) := cell_at (j := 1) q2.1 rfl; clear q2))
      go_ret2
      exact ⟨rfl, HB2.out⟩
    · have e2 : endAt L len t T a = 0 := by unfold endAt; rw [e1, if_neg hE]
      rw [e1, e2]
      obtain ⟨F, hF⟩ : ∃ F, fitsA L len t T = F := ⟨_, rfl⟩
      rw [hF] at HF hE ⊢
      have hne : (F != 0) = true := by simpa using hE
      have HQ := Lib.hid (alloc_at w (.cells #[.int .i64 T.kind, .int .u64 T.num, .string T.text, .slice T.ia T.len T.cap] 28))
      have HA := Lib.hid hA
      have HF := Lib.hid HF
      have hnn : ¬ ((a : Nat) : Int) < 0 := by omega
      have hn5 : ¬ (512 : Int) < ((a : Nat) : Int) := by omega
      clear hE hF e1 e2 HV H hA hr hcp
      go_enter Tryz.func29, Tryz.ntmps29
      go_wp2_with (go_at_call 16; refine (HF.out _ HA.out).mono ?_; rintro e w1 ⟨rfl, hb1⟩; have HB1 := Lib.hid (below_step8' HA.out hb1); clear hb1)
      go_ret2
      exact ⟨rfl, HB1.out⟩
/-- a new pen over a new page -/
theorem pen_new (ao : Option Addr) (len cap : Nat) (w1 : World) : PenAt (w1.heap.size + 1) ao len cap (some w1.heap.size) (.slice none 0 0) 0 ⟨#[]⟩ ((w1.alloc (.cells #[.int .i64 0, .slice none 0 0] 108 (0, 0))).alloc (.cells #[.slice ao len cap, .int .i64 0, .pointer (some ⟨w1.heap.size, 0, none⟩)] 74)) := by
  have e : (w1.alloc (.cells #[.int .i64 0, .slice none 0 0] 108 (0, 0))).heap.size = w1.heap.size + 1 := by simp
  refine ⟨?_, fun b hb => ?_⟩
  · rw [← e]; exact alloc_at _ _
  · cases hb
    refine ⟨by omega, (by intro h; cases h), (buf_new w1).step ((Below.refl _ _).alloc (Nat.le_refl _) _)⟩
set_option maxHeartbeats 4000000 in
theorem put_any10 (ao : Option Addr) (len cap : Nat) (L : Nat → TypeV) (hlen : len ≤ 1000000) (hcap : len ≤ cap) (hcp : ∀ i, i < len → (L i).ilen ≤ (L i).icap) (S : Nat → Prop) (t : Int) (T : VT) (w : World) (HV : ValAt w S T) (H : ∀ i, i < len → TypeAt w ao i (L i)) :
    Calls Tryz.prog 14 #[.slice ao len cap, .int .i64 t, .agg #[.int .i64 T.kind, .int .u64 T.num, .string T.text, .slice T.ia T.len T.cap]] w fun e w' => e = .returned (.tuple #[.string (putBytes L len t T), .int .i64 (putErr L len t T)]) ∧ Below w.heap.size w w' := by
  have hA := (Below.refl w.heap.size w).alloc (Nat.le_refl _) (.cells #[.int .i64 T.kind, .int .u64 T.num, .string T.text, .slice T.ia T.len T.cap] 28)
  have HQ := Lib.hid (alloc_at w (.cells #[.int .i64 T.kind, .int .u64 T.num, .string T.text, .slice T.ia T.len T.cap] 28))
  have hend := fun wx (hb : Below w.heap.size w wx) => end_any ao len cap L hlen hcap hcp S t T 0 wx (HV.next hb) (hold H hb)
  have e1 : endErr L len t T 0 = fitsA L len t T := by unfold endErr; rw [if_neg (by omega)]
  have HA := Lib.hid hA
  by_cases hE : fitsA L len t T = 0
  · obtain ⟨k, rfl, hk, hfe, hft⟩ := fitsA_zero hE
    have hv := ok_all hfe
    have e2 : endAt L len (k : Nat) T 0 = ((endR (rowT L T k) 0 : Nat) : Int) := by unfold endAt; rw [e1, if_pos hE]; rfl
    rw [e1, hE, e2] at hend
    have e3 : putErr L len (k : Nat) T = if 512 < endR (rowT L T k) 0 then 3 else 0 := by unfold putErr; rw [if_neg (by rw [hE]; decide)]; rfl
    obtain ⟨E, hEE⟩ : ∃ E, endR (rowT L T k) 0 = E := ⟨_, rfl⟩
    rw [hEE] at hend e3
    by_cases h5 : 512 < E
    · have e4 : putErr L len (k : Nat) T = 3 := by rw [e3, if_pos h5]
      have e5 : putBytes L len (k : Nat) T = ⟨#[]⟩ := by unfold putBytes; rw [e4]; rfl
      rw [e4, e5]
      have HE := Lib.hid hend
      have h5' : (512 : Int) < ((E : Nat) : Int) := by omega
      clear e1 e2 e3 e4 e5 hend hEE hE hfe hft hv HV H hcp hA
      go_enter Tryz.func14, Tryz.ntmps14
      go_wp2_with (go_at_call 29; refine (HE.out _ HA.out).mono ?_; rintro e w1 ⟨rfl, hb1⟩; have HB1 := Lib.hid (below_step8' HA.out hb1); clear hb1)
      go_ret2
      exact ⟨rfl, HB1.out⟩
    · have e4 : putErr L len (k : Nat) T = 0 := by rw [e3, if_neg h5]
      have e5 : putBytes L len (k : Nat) T = bytR (rowT L T k) ⟨#[]⟩ := by unfold putBytes; rw [if_pos e4]; rfl
      rw [e4, e5]
      have hval := fun w1 (hb1 : Below w.heap.size w w1) => put_value (w1.heap.size + 1) ao len cap (some w1.heap.size) L hlen hfe S w H ⟨Nat.le_trans hb1.size (Nat.le_succ _), fun b e => by cases e; exact hb1.size⟩ T HV k hk hft (.slice none 0 0) 0 ⟨#[]⟩ _ ((hb1.alloc hb1.size _).alloc (hb1.alloc hb1.size _).size _) (pen_new ao len cap w1) ⟨row_okP hv T k hk hft, by omega, fun b e => ⟨rfl, by omega⟩⟩
      unfold CPut at hval
      obtain ⟨B, hB⟩ : ∃ B, bytR (rowT L T k) ⟨#[]⟩ = B := ⟨_, rfl⟩
      rw [hB, hEE] at hval
      rw [hB]
      have HE := Lib.hid hend
      have HC := Lib.hid hval
      have h5' : ¬ (512 : Int) < ((E : Nat) : Int) := by omega
      clear e1 e2 e3 e4 e5 hend hEE hE hfe hft hv HV H hcp hA hval hB
      go_enter Tryz.func14, Tryz.ntmps14
      go_wp2_with (first
        | (go_at_call 29; refine (HE.out _ HA.out).mono ?_; rintro e w1 ⟨rfl, hb1⟩; have HB1 := Lib.hid (below_step8' HA.out hb1); have HQ1 := Lib.hid (box_keep HQ.out hb1); have d0 : w1.cell? ⟨w.heap.size, 0, none⟩ = some (.int .i64 T.kind) := cell_at HQ1.out rfl; have d1 : w1.cell? ⟨w.heap.size, 1, none⟩ = some (.int .u64 T.num) := cell_at HQ1.out rfl; have d2 : w1.cell? ⟨w.heap.size, 2, none⟩ = some (.string T.text) := cell_at HQ1.out rfl; have d3 : w1.cell? ⟨w.heap.size, 3, none⟩ = some (.slice T.ia T.len T.cap) := cell_at HQ1.out rfl; have hlw : w.heap.size < w1.heap.size := lt_of_block HQ1.out; have hnw : ¬ w.heap.size = w1.heap.size := (by omega); have hnw2 : ¬ w.heap.size = w1.heap.size + 1 := (by omega); clear hb1)
        | (go_at_call 30; refine (new_any _).mono ?_; rintro e w2 ⟨rfl, rfl⟩)
        | (go_at_call 31; refine (HC.out _ HB1.out).mono ?_; rintro e w3 ⟨rfl, hn3⟩; have HB3 := Lib.hid (PenNow.below (w0 := w) ((HB1.out.alloc HB1.out.size _).alloc (HB1.out.alloc HB1.out.size _).size _) (pen_new ao len cap w1) ⟨Nat.le_trans HB1.out.size (Nat.le_succ _), fun b e => by cases e; exact HB1.out.size⟩ hn3); obtain ⟨v3, q3, _, _⟩ := hn3; have g2 : w3.cell? ⟨w1.heap.size + 1, 2, none⟩ = some (.pointer (some ⟨w1.heap.size, 0, none⟩)) := cell_at (j := 2) q3.1 rfl; have HF3 := Lib.hid (q3.2 _ rfl).2.2; clear q3)
        | (go_at_call 32; refine (bytes_any _ _ _ _ HF3.out).mono ?_; rintro e w4 ⟨rfl, rfl⟩))
      go_ret2
      exact ⟨rfl, HB3.out⟩
  · have e4 : putErr L len t T = fitsA L len t T := by unfold putErr; rw [if_pos hE]
    have e5 : putBytes L len t T = ⟨#[]⟩ := by unfold putBytes; rw [if_neg (by rw [e4]; exact hE)]
    have e2 : endAt L len t T 0 = 0 := by unfold endAt; rw [e1, if_neg hE]
    rw [e4, e5]
    rw [e1, e2] at hend
    obtain ⟨F, hF⟩ : ∃ F, fitsA L len t T = F := ⟨_, rfl⟩
    rw [hF] at hend hE ⊢
    have hne : (F != 0) = true := by simpa using hE
    have HE := Lib.hid hend
    clear hE hF e1 e2 e4 e5 hend HV H hA hcp
    go_enter Tryz.func14, Tryz.ntmps14
    go_wp2_with (go_at_call 29; refine (HE.out _ HA.out).mono ?_; rintro e w1 ⟨rfl, hb1⟩; have HB1 := Lib.hid (below_step8' HA.out hb1); clear hb1)
    go_ret2
    exact ⟨rfl, HB1.out⟩
end Go.Proofs.YtmnemddagcfjgaaGreatDoor
namespace Go.Proofs.YtmnemddagcfjgaaGreatDoor
open Go.RowKit
set_option linter.unusedVariables false
def exP : Nat → TypeV := fun _ => noneT 10 2 0
def exPO : Obj := .cells #[.int .i64 10, .string ⟨#[]⟩, .int .i64 2, .int .i64 0, .int .i64 0, .slice none 0 0] 45
def exPV : VT := .node 10 0 ⟨#[97, 98]⟩ none 0 0 (fun _ => .nil)
theorem exP_at (w : World) : ∀ i, i < 1 → TypeAt (w.alloc exPO) (some ⟨w.heap.size, 0, none⟩) i (exP i) := by
  intro i hi
  have hb := alloc_at w exPO
  obtain rfl : i = 0 := by omega
  have hit : ItemsAt (w.alloc exPO) (noneT 10 2 0) := ⟨by simp [noneT], fun j hj => by simp [noneT] at hj⟩
  exact ⟨_, 0, rfl, cell_at hb rfl, cell_at hb rfl, cell_at hb rfl, cell_at hb rfl, cell_at hb rfl, cell_at hb rfl, by unfold TypeWf; decide, hit⟩
theorem exP_ok : fErr (oneR exP 1) 1 = 0 := by decide +kernel
theorem exP_fits : fitsA exP 1 0 exPV = 0 := by
  unfold fitsA
  have h : hasT exP 1 0 = true := hasT_yes (k := 0) (by decide) exP_ok
  rw [h, if_pos rfl, fits_leaf rfl]
  decide +kernel
theorem exP_row : rowT exP exPV 0 = [.num 3 4, .text (⟨#[97, 98]⟩ ++ ⟨#[0]⟩)] := rfl
theorem exP_bytes : putErr exP 1 0 exPV = 0 ∧ putBytes exP 1 0 exPV = ⟨#[3, 0, 0, 0, 97, 98, 0]⟩ := by
  have e2 : endR (rowT exP exPV (0 : Int).toNat) 0 = 7 := by
    show endR (rowT exP exPV 0) 0 = 7
    rw [exP_row]
    show numE 4 0 + ((⟨#[97, 98]⟩ : ByteArray) ++ ⟨#[0]⟩).size = 7
    rw [ByteArray.size_append]; rfl
  have e1 : putErr exP 1 0 exPV = 0 := by
    unfold putErr
    rw [exP_fits, if_neg (by decide), e2]
    rfl
  refine ⟨e1, ?_⟩
  unfold putBytes
  rw [if_pos e1]
  show bytR (rowT exP exPV 0) ⟨#[]⟩ = _
  rw [exP_row]
  decide +kernel
theorem exPV_at (w : World) : ValAt w (fun _ => False) exPV :=
  (valAt_iff _).2 ⟨⟨by kernel_rfl, by kernel_rfl, by show (⟨#[97, 98]⟩ : ByteArray).size ≤ _; decide, by show 0 ≤ _; decide⟩, fun i hi => absurd hi (Nat.not_lt_zero i)⟩
end Go.Proofs.YtmnemddagcfjgaaGreatDoor
