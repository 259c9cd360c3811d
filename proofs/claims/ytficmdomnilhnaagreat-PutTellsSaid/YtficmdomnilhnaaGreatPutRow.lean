/- Contract of chapter 10's reference: Row. -/
import Derived.Test.YtficmdomnilhnaaGreatPutRef
import Derived.Test.YtficmdomnilhnaaGreatFitsRTop
import Derived.Test.YtficmdomnilhnaaGreatFitsNone
import Derived.Test.YtficmdomnilhnaaGreatRegionDeep
import Derived.Deep.AppendLies
import Derived.Deep.DeepCutAuto
namespace Go.Proofs.YtficmdomnilhnaaGreat
open Go.RowKit
set_option linter.unusedVariables false
theorem infoPart : (Tryz.prog.info? 60).map (fun i => (i.zero, i.size, i.bytes)) = some (some (.agg #[.int .i64 0, .int .u64 0, .string ⟨#[]⟩]), 3, 32) := by kernel_rfl
theorem row_some {w : World} {base n : Nat} {v : Value} {xs : List Value} (h : w.ownsRow base 60 3 v n xs) (hn : 0 < n) : ∃ g c, v = .slice (some ⟨g, 0, none⟩) n c := by
  rcases h.2 with ⟨_, h0⟩ | ⟨g, cap, cur, e, _⟩
  · omega
  · exact ⟨g, cap, e⟩
/-- what Row leaves -/
def RowTo (r : List RPart) (w : World) (e : Ending) (w' : World) : Prop :=
  ∃ g c, e = .returned (.slice (some ⟨g, 0, none⟩) r.length c) ∧ w'.ownsRow w.heap.size 60 3 (.slice (some ⟨g, 0, none⟩) r.length c) r.length (rowC r) ∧ Below w.heap.size w w'
theorem row_cells {w : World} {base g n c : Nat} {r : List RPart} (h : w.ownsRow base 60 3 (.slice (some ⟨g, 0, none⟩) n c) n (rowC r)) : ∀ i u, (rowC r)[i]? = some u → w.cell? ⟨g, i, none⟩ = some u := fun i u hu => by
  have h1 : w.cell? ((⟨g, 0, none⟩ : Addr).add i) = some u := h.cells rfl i u hu
  rw [add0] at h1
  exact h1
theorem row_in {w : World} {base g n c : Nat} {r : List RPart} (h : w.ownsRow base 60 3 (.slice (some ⟨g, 0, none⟩) n c) n (rowC r)) : RowIn w g r := fun j p hp => by
  have h0 := rowC_get r j p hp 0 (by omega)
  have h1 := rowC_get r j p hp 1 (by omega)
  have h2 := rowC_get r j p hp 2 (by omega)
  exact ⟨row_cells h _ _ h0, row_cells h _ _ h1, row_cells h _ _ h2⟩
theorem row_short : ∀ (r : List RPart) (a : Nat), (∀ p ∈ r, okPart p) → a + r.length ≤ endR r a
  | [], a, _ => Nat.le_refl _
  | p :: r, a, h => by
    have h1 := row_short r (endP p a) (fun q hq => h q (List.mem_cons_of_mem _ hq))
    have h2 : a + 1 ≤ endP p a := by
      have hp := h p List.mem_cons_self
      cases p with
      | num n z =>
        obtain ⟨hs, _⟩ := sz_nat hp.1
        show a + 1 ≤ numE z.toNat a
        exact (numE_good hs).inc a
      | text s =>
        have : 0 < s.size := hp.1
        show a + 1 ≤ a + s.size
        omega
    show a + (r.length + 1) ≤ endR r (endP p a)
    omega
theorem row_pos {L : Nat → TypeV} {len : Nat} (hv : ∀ i, i < len → OkT L i) {T : VT} {t : Nat} (ht : t < len) (hw : T.wfN) (h : fitsT L T t = 0) : 0 < (rowT L T t).length := by
  have h1 := (fits_ends (op := fun _ => true) hv (fun _ _ _ e => by cases e) T t ht hw h 0).1
  have h2 := (end_good (op := fun _ => true) (most := false) hv ht).inc 0
  cases hr : rowT L T t with
  | nil =>
    rw [hr] at h1
    have : endR [] 0 = 0 := rfl
    omega
  | cons p r => exact Nat.succ_pos _
/-- the told operations of a region: one (im) leaves n Parts in memory -/
def OkR (ws n : Nat) (xs : List Value) (im : Nat) (c : Nat → Value) (j : Nat) (y : Value) (w : World) : Prop :=
  if j = im then ∃ g cp, y = .slice (some ⟨g, 0, none⟩) n cp ∧ (∀ i u, xs[i]? = some u → w.cell? ⟨g, i, none⟩ = some u) ∧ ws ≤ g else y = c j
theorem OkR.keep {ws n : Nat} {xs : List Value} {im : Nat} {c : Nat → Value} {j : Nat} {y : Value} {w w1 : World} (h : OkR ws n xs im c j y w) (hb : Below w.heap.size w w1) : OkR ws n xs im c j y w1 := by
  unfold OkR at *
  split
  · rename_i e; rw [if_pos e] at h; obtain ⟨g, cp, h1, h2, h3⟩ := h; exact ⟨g, cp, h1, fun i u hu => Go.Proofs.YtficmdomnilhnaaGreat.keep hb (h2 i u hu), h3⟩
  · rename_i e; rw [if_neg e] at h; exact h
theorem news_at {w : World} {g : Nat} {xs : List Value} (h : ∀ i u, xs[i]? = some u → w.cell? ⟨g, i, none⟩ = some u) : ∀ i u, xs[i]? = some u → w.cell? ((⟨g, 0, none⟩ : Addr).add i) = some u := fun i u hu => by
  have e : ((⟨g, 0, none⟩ : Addr).add i) = ⟨g, i, none⟩ := add0 g i
  rw [e]; exact h i u hu
/-- in the midst of Row: the row v that has grown; what stood before stands -/
def RSt (w wc w5 : World) (v : Value) (r : List RPart) (wr : World) : Prop :=
  wr.ownsRow (w.heap.size + 1) 60 3 v r.length (rowC r) ∧ Only (fun k => w.heap.size + 1 ≤ k ∧ k < wc.heap.size) w5 wr ∧ ∀ k, v.ownBlock = some k → (w.heap.size + 1 ≤ k ∧ k < wc.heap.size) ∨ w5.heap.size ≤ k
theorem RSt.next {w wc w5 : World} {v : Value} {r q : List RPart} {wr w2 w3 : World} {g4 c4 : Nat} (h : RSt w wc w5 v r wr) (hb : Below wr.heap.size wr w2) (hg : w2.grownBy w3 v.ownBlock)
    (ho : w3.ownsRow (w.heap.size + 1) 60 3 (.slice (some ⟨g4, 0, none⟩) (r.length + q.length) c4) (r.length + q.length) (rowC r ++ rowC q)) (hat : v.ownBlock = some g4 ∨ g4 = w2.heap.size) :
    RSt w wc w5 (.slice (some ⟨g4, 0, none⟩) (r.length + q.length) c4) (r ++ q) w3 := by
  obtain ⟨h1, h2, h3⟩ := h
  refine ⟨?_, (h2.step hb).grown hg h3, fun k hk => ?_⟩
  · rw [List.length_append, rowC_app]; exact ho
  · have e : g4 = k := by simpa [Value.ownBlock] using hk
    subst e
    rcases hat with c | c
    · exact h3 _ c
    · right
      have := h2.size
      have := hb.size
      omega
theorem cat_len (F : Nat → List RPart) : ∀ {n m : Nat}, n ≤ m → (catTo F n).length ≤ (catTo F m).length := by
  intro n m h
  induction m with
  | zero => obtain rfl : n = 0 := by omega
            exact Nat.le_refl _
  | succ m ih =>
    by_cases c : n = m + 1
    · subst c; exact Nat.le_refl _
    · refine Nat.le_trans (ih (by omega)) ?_
      show _ ≤ (catTo F m ++ F m).length
      rw [List.length_append]; omega
theorem own_below {wa w2 w3 : World} {v : Value} (hb : Below wa.heap.size wa w2) (hg : w2.grownBy w3 v.ownBlock) (hv : ∀ k, v.ownBlock = some k → wa.heap.size ≤ k) : Below wa.heap.size wa w3 :=
  Only.below (S := fun k => wa.heap.size ≤ k) ((Only.of_below hb).grown hg (fun k hk => .inr (hv k hk))) (fun k h => h) (Nat.le_refl _)
set_option maxRecDepth 100000 in
set_option maxHeartbeats 16000000 in
theorem refRow_any (ao : Option Addr) (len cap : Nat) (L : Nat → TypeV) (hlen : len ≤ 1000000) (hfe : fErr (oneR L len) len = 0) (S : Nat → Prop) :
    ∀ (T : VT) (t : Nat) (w : World), ValAt w S T → (∀ i, i < len → TypeAt w ao i (L i)) → t < len → fitsT L T t = 0 → Calls Tryz.prog 14 #[.slice ao len cap, .int .i64 (t : Nat), .agg #[.int .i64 T.kind, .int .u64 T.num, .string T.text, .slice T.ia T.len T.cap]] w (RowTo (rowT L T t) w) := by
  have hv := ok_all hfe
  refine VT.ind fun T ih t w HV H ht hf => ?_
  obtain ⟨hh, hz⟩ := fits_zero hf
  have Hd := head_ok hh
  have ok := hv t ht
  obtain ⟨i0, hi0, hz0, hz1, hz2⟩ := info_parts infoPart
  have hwf := ((valAt_iff T).1 HV).1
  have hl := hwf.2.2.2
  have hnm := hwf.2.1
  have hkd := Hd.kind
  have hpo := fun i (hi : i < T.len) => part_ok ok hh hi
  have hfar := row_far hv ht (valAt_wf T HV) hf 0
  have hrok := row_okP hv T t ht hf
  have hpos := row_pos hv ht (valAt_wf T HV) hf
  have hshort := row_short (rowT L T t) 0 hrok
  have hmax : (rowT L T t).length ≤ 139314069504 := by omega
  have HCALL := Lib.hid (fun i (hi : i < T.len) wx (hb : Below w.heap.size w wx) => ih i hi (partT L t T.num i) wx (kids_at HV hb hi).2 (hold H hb) (by have := hpo i hi; omega) (hz i hi))
  have HROK := Lib.hid (fun i (hi : i < T.len) => row_okP hv (T.kid i) (partT L t T.num i) (by have := hpo i hi; omega) (hz i hi))
  have HPOS := Lib.hid (fun i (hi : i < T.len) => row_pos hv (T := T.kid i) (t := partT L t T.num i) (by have := hpo i hi; omega) (valAt_wf _ (kids_at HV (Below.refl _ _) hi).2) (hz i hi))
  have HC := Lib.hid (fun i (hi : i < T.len) wx (hb : Below w.heap.size w wx) => (kids_at HV hb hi).1)
  have hpn : partN (L t) T.num T.len = T.len := by
    unfold partN
    by_cases e1 : (L t).kind = 11
    · rw [if_pos e1]
    by_cases e2 : (L t).kind = 12
    · rw [if_neg e1, if_pos e2]; have := Hd.arr e2; omega
    by_cases e3 : (L t).kind = 13
    · rw [if_neg e1, if_neg e2, if_pos e3]; exact (Hd.str e3).symm
    by_cases e4 : (L t).kind = 14
    · rw [if_neg e1, if_neg e2, if_neg e3, if_pos e4]; exact (Hd.uni e4).2.symm
    · rw [if_neg e1, if_neg e2, if_neg e3, if_neg e4]
      exact (form_len0 Hd.form (by rw [Hd.kind]; have := ok.kind; omega)).symm
  have hpa := fun wx (hb : Below w.heap.size w wx) => refParts9_any ao len cap L hlen t ht ok T hl wx (hold H hb)
  unfold PartsTo at hpa
  rw [hpn] at hpa
  obtain ⟨qb, hqb⟩ : ∃ qb, okP (L t) T.len = qb := ⟨_, rfl⟩
  obtain ⟨P, hP⟩ : ∃ P, listF (L t) T.num T.len = P := ⟨_, rfl⟩
  rw [hqb, hP] at hpa
  have HPG := Lib.hid (show ∀ i, i < T.len → P.getD i 0 = (partT L t T.num i : Nat) from fun i hi => by rw [← hP, listF_get _ _ hi]; exact partF_T ok hh hi)
  have HPA := Lib.hid hpa
  rw [rowT_eq] at hmax hpos ⊢
  -- the kind that decides
  obtain ⟨kk, hkk⟩ : ∃ kk, (if (L t).kind = 14 then (L (L t).tag.toNat).kind else (L t).kind) = kk := ⟨_, rfl⟩
  have hkc : (numK kk = true ∧ headR L t T = [.num (lowK kk T.num) (szK kk)]) ∨ (numK kk = false ∧ kk = 10 ∧ headR L t T = [.num (((T.text.size : Nat) : Int) + 1) 4, .text (T.text ++ ⟨#[0]⟩)] ∧ T.text.size ≤ 1000) ∨ (numK kk = false ∧ kk = 11 ∧ headR L t T = [.num ((T.len : Nat) : Int) 4]) ∨ (numK kk = false ∧ kk ≠ 10 ∧ kk ≠ 11 ∧ headR L t T = []) := by
    rw [← hkk]
    unfold headR
    by_cases e0 : (L t).kind = 10
    · right; left
      have h1 := Hd.text e0
      have h2 := ok.bound (.inl e0)
      rw [if_neg (by omega), e0, if_pos rfl]
      exact ⟨rfl, rfl, rfl, by omega⟩
    by_cases e1 : (L t).kind = 11
    · right; right; left
      rw [if_neg (by omega), e1]
      exact ⟨rfl, rfl, rfl⟩
    by_cases e2 : (L t).kind = 12
    · right; right; right
      rw [if_neg (by omega), e2]
      exact ⟨rfl, by decide, by decide, rfl⟩
    by_cases e3 : (L t).kind = 13
    · right; right; right
      rw [if_neg (by omega), e3]
      exact ⟨rfl, by decide, by decide, rfl⟩
    left
    by_cases e4 : (L t).kind = 14
    · rw [if_pos e4, if_neg e0, if_neg e1, if_neg (by omega), if_pos e4]
      exact ⟨(ok.tag e4).2.2.2, rfl⟩
    · rw [if_neg e4, if_neg e0, if_neg e1, if_neg (by omega), if_neg e4]
      exact ⟨ok_num ok e0 e1 e2 e3 e4, rfl⟩
  have htg : (L t).kind = 14 → ∃ q : Nat, (L t).tag = q ∧ q < len ∧ (L q).kind = kk := fun e4 => by
    have h1 := ok.tag e4
    refine ⟨(L t).tag.toNat, by omega, by omega, ?_⟩
    rw [← hkk, if_pos e4]
  have hnt : (L t).kind ≠ 14 → (L t).kind = kk := fun e4 => by rw [← hkk, if_neg e4]
  have HTG := Lib.hid (fun wx (hb : Below w.heap.size w wx) => hold H hb)
  obtain ⟨hd, hhd⟩ : ∃ hd, headR L t T = hd := ⟨_, rfl⟩
  rw [hhd] at hkc hmax hpos ⊢
  obtain ⟨F, hF⟩ : ∃ F : Nat → List RPart, (fun i => rowT L (T.kid i) (partT L t T.num i)) = F := ⟨_, rfl⟩
  have HFF := Lib.hid (show ∀ i, rowT L (T.kid i) (partT L t T.num i) = F i from fun i => congrFun hF i)
  rw [hF] at hmax hpos ⊢
  have hB := (Below.refl w.heap.size w).alloc (Nat.le_refl _) (.cells #[.int .i64 T.kind, .int .u64 T.num, .string T.text, .slice T.ia T.len T.cap] 26)
  have HB := Lib.hid hB
  have HQ := Lib.hid (alloc_at w (.cells #[.int .i64 T.kind, .int .u64 T.num, .string T.text, .slice T.ia T.len T.cap] 26))
  have HWS := Lib.hid (show (w.alloc (.cells #[.int .i64 T.kind, .int .u64 T.num, .string T.text, .slice T.ia T.len T.cap] 26)).heap.size = w.heap.size + 1 by simp)
  have HPOSR := Lib.hid hpos
  have HMAX := Lib.hid hmax
  have HKC := Lib.hid hkc
  have HTQ := Lib.hid htg
  have HNT := Lib.hid hnt
  have HKD := Lib.hid hkd
  clear ih hv hf HV H hh hz Hd ok hwf hkd hpo hfar hrok hshort hpn hpa hqb hP hkk htg hnt hkc hhd hF hB hfe hpos hmax
  go_enter Tryz.func14, Tryz.ntmps14
  go_upto_if 15 with (fail)
  generalize w.alloc (.cells #[.int .i64 T.kind, .int .u64 T.num, .string T.text, .slice T.ia T.len T.cap] 26) = wa at *
  have d1 : wa.cell? ⟨w.heap.size, 1, none⟩ = some (.int .u64 T.num) := cell_at HQ.out rfl
  go_cut [8] (fun s wx => s = .int .i64 kk ∧ wa = wx)
  case first =>
    by_cases e4 : (L t).kind = 14
    · obtain ⟨q, hq1, hq2, hq3⟩ := HTQ.out e4
      obtain ⟨tb, toff, rfl, _, _, _, _, c4, _, _, _⟩ := HTG.out wa HB.out t ht
      obtain ⟨tb', toff', heq, k0, _, _, _, _, _, _, _⟩ := HTG.out wa HB.out q hq2
      injection heq with heq
      injection heq with h1 h2
      subst h1
      subst h2
      rw [hq1] at c4
      rw [hq3] at k0
      have hk14 : (T.kind == 14) = true := by rw [HKD.out, e4]; rfl
      clear hq1 hq3 e4
      go_wp2_with fail
      go_meet
      exact ⟨rfl, rfl⟩
    · have hk14 : (T.kind == 14) = false := by rw [HKD.out]; simpa using e4
      have hkk' : T.kind = kk := HKD.out.trans (HNT.out e4)
      have HKK := Lib.hid hkk'
      clear hkk' e4
      go_wp2_with fail
      go_meet
      exact ⟨by rw [HKK.out], rfl⟩
  case rest =>
    obtain ⟨rfl, rfl⟩ := hcut
    rename_i hK
    refine hK _ _ ?_
    refine wp_seq_k (fun K2 hK2 => ?_)
    go_cut [7] (fun s wx => Hid (wx.ownsRow (w.heap.size + 1) 60 3 s hd.length (rowC hd)) ∧ Hid (Below wa.heap.size wa wx))
    case first =>
      have HBA := Lib.hid (Below.refl wa.heap.size wa)
      rcases HKC.out with ⟨k1, rfl⟩ | ⟨k1, rfl, rfl, k2⟩ | ⟨k1, rfl, rfl⟩ | ⟨k1, k2, k3, rfl⟩
      · go_upto_region 6 with (go_at_call 27; refine (refNumber_any _ _).mono ?_; rintro e w1 ⟨rfl, rfl⟩)
        refine wp_region_pre (by kernel_rfl) 9 100 (fun v => ((Value.slice ao len cap : Value) :: (Value.int IntKind.i64 ↑t : Value) :: (Value.agg #[Value.int IntKind.i64 T.kind, Value.int IntKind.u64 T.num, Value.string T.text, Value.slice T.ia T.len T.cap] : Value) :: (undef : Value) :: (undef : Value) :: (Value.pointer (some { block := w.heap.size, off := 0 }) : Value) :: (Value.slice none 0 0 : Value) :: (Value.slice none 0 0 : Value) :: (Value.int IntKind.i64 kk : Value) :: (undef : Value) :: (undef : Value) :: (undef : Value) :: (u12 : Value) :: (u13 : Value) :: (u14 : Value) :: (u15 : Value) :: (u16 : Value) :: (u17 : Value) :: (u18 : Value) :: (u19 : Value) :: (u20 : Value) :: (u21 : Value) :: (u22 : Value) :: (u23 : Value) :: (u24 : Value) :: (Value.bool true : Value) :: (Value.int IntKind.i64 kk : Value) :: (Value.bool true : Value) :: v 0 :: v 1 :: v 2 :: v 3 :: v 4 :: v 5 :: v 6 :: v 7 :: v 8 :: (u37 : Value) :: (undef : Value) :: (u39 : Value) :: (u40 : Value) :: (u41 : Value) :: (u42 : Value) :: (u43 : Value) :: (u44 : Value) :: (u45 : Value) :: (u46 : Value) :: (u47 : Value) :: (u48 : Value) :: (u49 : Value) :: (u50 : Value) :: (u51 : Value) :: (u52 : Value) :: (u53 : Value) :: (u54 : Value) :: (undef : Value) :: (u56 : Value) :: (u57 : Value) :: (u58 : Value) :: (u59 : Value) :: (u60 : Value) :: (u61 : Value) :: (u62 : Value) :: (u63 : Value) :: (u64 : Value) :: (u65 : Value) :: (u66 : Value) :: (u67 : Value) :: (u68 : Value) :: (u69 : Value) :: (u70 : Value) :: (u71 : Value) :: (u72 : Value) :: (u73 : Value) :: (u74 : Value) :: (u75 : Value) :: (u76 : Value) :: (u77 : Value) :: (u78 : Value) :: (u79 : Value) :: (u80 : Value) :: (u81 : Value) :: (u82 : Value) :: (u83 : Value) :: (u84 : Value) :: (u85 : Value) :: (u86 : Value) :: (u87 : Value) :: (u88 : Value) :: (u89 : Value) :: (u90 : Value) :: (u91 : Value) :: (u92 : Value) :: (u93 : Value) :: (u94 : Value) :: (u95 : Value) :: (u96 : Value) :: (u97 : Value) :: (u98 : Value) :: (u99 : Value) :: []).toArray) (fun j' => [(u28 : Value), (u29 : Value), (u30 : Value), (u31 : Value), (u32 : Value), (u33 : Value), (u34 : Value), (u35 : Value), (u36 : Value)].getD j' undef) (OkR wa.heap.size 1 (rowC [RPart.num (lowK kk T.num) (szK kk)]) 8 (fun j' => [(.slice none 0 0 : Value), (.int .i64 kk : Value), (.int .i64 (szK kk) : Value), (.int .i64 kk : Value), (.pointer (some ⟨w.heap.size, 1, none⟩) : Value), (.int .u64 T.num : Value), (.int .u64 (lowK kk T.num) : Value), (.agg #[.int .i64 (szK kk), .int .u64 (lowK kk T.num), .string ⟨#[]⟩] : Value), undef].getD j' undef)) (fun w' => Below wa.heap.size wa w') (fun _ => True) (Nat.le_of_ble_eq_true (by kernel_rfl)) (by kernel_rfl) ((Below.refl _ _).drew) trivial (fun i' hi' v w1 hBx _ hd => ?_) (fun v w1 hv hBx => ?_)
        · have d1 := keep hBx d1
          have hcs : i' = 0 ∨ i' = 1 ∨ i' = 2 ∨ i' = 3 ∨ i' = 4 ∨ i' = 5 ∨ i' = 6 ∨ i' = 7 ∨ i' = 8 := by omega
          rcases hcs with rfl | rfl | rfl | rfl | rfl | rfl | rfl | rfl | rfl
          · refine wpOp_step (o := _) rfl (fun K' hK => ?_)
            go_simp
            exact hK _ _ ⟨(.slice none 0 0 : Value), rfl, rfl, hBx, fun _ h => h, fun k y _ h => h⟩
          · refine wpOp_step (o := _) rfl (fun K' hK => ?_)
            go_simp
            exact hK _ _ ⟨(.int .i64 kk : Value), rfl, rfl, hBx, fun _ h => h, fun k y _ h => h⟩
          · have e1 : v 1 = (.int .i64 kk : Value) := hd 1 (List.contains_iff_mem.1 (by kernel_rfl))
            refine wpOp_step (o := _) rfl (fun K' hK => ?_)
            go_simp
            refine (refSize_any kk w1).mono ?_
            rintro e w3 ⟨rfl, rfl⟩
            exact hK _ _ ⟨_, fr_eq9 (by simp [upd, e1]), rfl, hBx, fun _ h => h, fun k y _ h => h⟩
          · refine wpOp_step (o := _) rfl (fun K' hK => ?_)
            go_simp
            exact hK _ _ ⟨(.int .i64 kk : Value), rfl, rfl, hBx, fun _ h => h, fun k y _ h => h⟩
          · refine wpOp_step (o := _) rfl (fun K' hK => ?_)
            go_simp
            exact hK _ _ ⟨(.pointer (some ⟨w.heap.size, 1, none⟩) : Value), rfl, rfl, hBx, fun _ h => h, fun k y _ h => h⟩
          · have e4 : v 4 = (.pointer (some ⟨w.heap.size, 1, none⟩) : Value) := hd 4 (List.contains_iff_mem.1 (by kernel_rfl))
            refine wpOp_step (o := _) rfl (fun K' hK => ?_)
            go_simp
            exact hK _ _ ⟨(.int .u64 T.num : Value), fr_eq9 (by simp [upd, e4]), rfl, hBx, fun _ h => h, fun k y _ h => h⟩
          · have e3 : v 3 = (.int .i64 kk : Value) := hd 3 (List.contains_iff_mem.1 (by kernel_rfl))
            have e5 : v 5 = (.int .u64 T.num : Value) := hd 5 (List.contains_iff_mem.1 (by kernel_rfl))
            refine wpOp_step (o := _) rfl (fun K' hK => ?_)
            go_simp
            refine (refKLow_any kk T.num hnm w1).mono ?_
            rintro e w3 ⟨rfl, m, rfl⟩
            exact hK _ _ ⟨_, fr_eq9 (by simp [upd, e3, e5]), rfl, below_step8' hBx (below_quiet ⟨m, rfl⟩), fun _ h => trivial, fun k y _ h => h.keep (below_quiet ⟨m, rfl⟩)⟩
          · have e2 : v 2 = (.int .i64 (szK kk) : Value) := hd 2 (List.contains_iff_mem.1 (by kernel_rfl))
            have e6 : v 6 = (.int .u64 (lowK kk T.num) : Value) := hd 6 (List.contains_iff_mem.1 (by kernel_rfl))
            refine wpOp_step (o := _) rfl (fun K' hK => ?_)
            go_simp
            exact hK _ _ ⟨(.agg #[.int .i64 (szK kk), .int .u64 (lowK kk T.num), .string ⟨#[]⟩] : Value), fr_eq9 (by simp [upd, e2, e6]), rfl, hBx, fun _ h => h, fun k y _ h => h⟩
          · have e7 : v 7 = (.agg #[.int .i64 (szK kk), .int .u64 (lowK kk T.num), .string ⟨#[]⟩] : Value) := hd 7 (List.contains_iff_mem.1 (by kernel_rfl))
            refine wpOp_step (o := _) rfl (fun K' hK => ?_)
            go_simp
            exact hK _ _ ⟨(.slice (some ⟨w1.heap.size, 0, none⟩) 1 1 : Value), fr_eq9 (by simp [upd, e7]), ⟨_, _, rfl, fun i u hu => cell_at (alloc_at _ _) (by have h2 := hu; simp [rowC, partC, pzP, pnP, ptP] at h2 ⊢; exact h2), hBx.size⟩, hBx.alloc hBx.size _, fun _ h => trivial, fun k y _ h => h.keep ((Below.refl _ _).alloc (Nat.le_refl _) _)⟩
        · have e0 : v 0 = (.slice none 0 0 : Value) := hv 0 (by decide)
          have e1 : v 1 = (.int .i64 kk : Value) := hv 1 (by decide)
          have e2 : v 2 = (.int .i64 (szK kk) : Value) := hv 2 (by decide)
          have e3 : v 3 = (.int .i64 kk : Value) := hv 3 (by decide)
          have e4 : v 4 = (.pointer (some ⟨w.heap.size, 1, none⟩) : Value) := hv 4 (by decide)
          have e5 : v 5 = (.int .u64 T.num : Value) := hv 5 (by decide)
          have e6 : v 6 = (.int .u64 (lowK kk T.num) : Value) := hv 6 (by decide)
          have e7 : v 7 = (.agg #[.int .i64 (szK kk), .int .u64 (lowK kk T.num), .string ⟨#[]⟩] : Value) := hv 7 (by decide)
          obtain ⟨g8, c8, e8, hc8, hg8⟩ : ∃ g cp, v 8 = (.slice (some ⟨g, 0, none⟩) 1 cp : Value) ∧ (∀ i u, ((rowC [RPart.num (lowK kk T.num) (szK kk)]) : List Value)[i]? = some u → w1.cell? ⟨g, i, none⟩ = some u) ∧ wa.heap.size ≤ g := hv 8 (by decide)
          have HBX := Lib.hid hBx
          have HC8 := Lib.hid hc8
          have HRW := Lib.hid (row_keep (World.ownsRow_nil (w := wa) (w.heap.size + 1) 60 3) hBx)
          have hbsz := hBx.size
          clear hv hBx hc8 hg8
          refine wpAny_of_held (S := fun _ => True) _ _ _ _ ?_
          simp only [e0, e1, e2, e3, e4, e5, e6, e7, e8]
          clear e0 e1 e2 e3 e4 e5 e6 e7 e8
          refine wpAnyH_ready (fuel := 1) (rs := [9]) (by kernel_rfl) (by simp) ?_
          refine AllReadyH.cons (o := _) rfl (fun K hK => ?_) AllReadyH.nil
          refine step_append_lies _ (by rfl) (.tmp 28) (.tmp 36) 38 (by rfl) (w.heap.size + 1) 60 i0 (.agg #[.int .i64 0, .int .u64 0, .string ⟨#[]⟩]) 3 32 Tryz.underlying38 hi0 hz0 hz1 hz2 (by rfl) (by decide) (.slice none 0 0) 0 [] (by rfl) HRW.out ⟨g8, 0, none⟩ 1 c8 (rowC [RPart.num (lowK kk T.num) (szK kk)]) (by rfl) (rowC_len _) (news_at HC8.out) (rowC_one _) (by decide) (by unfold maxLen; omega) (by omega) (by have := HWS.out; omega) _ rfl ?_
          intro g4 c4 w3 hown4 hgrow hat hlt2
          have HN4 := Lib.hid hown4
          have HB4 := Lib.hid (own_below HBX.out hgrow (fun k hk => by cases hk))
          refine hK.out _ _ trivial (fun _ => ?_)
          clear hK K hown4 hgrow hat
          refine wpAnyH_ready (fuel := 0) (rs := [10]) (by kernel_rfl) (by simp) ?_
          refine AllReadyH.cons (o := _) rfl (fun K hK => ?_) AllReadyH.nil
          go_simp
          refine hK.out _ _ trivial (fun _ => ?_)
          clear hK K
          refine wpAnyH_done (by kernel_rfl) ?_ _
          go_wp2_with fail
          go_meet
          exact ⟨Lib.hid HN4.out, HB4⟩
      · go_upto_region 8 with (go_at_call 27; refine (refNumber_any _ _).mono ?_; rintro e w1 ⟨rfl, rfl⟩)
        have d2 : wa.cell? ⟨w.heap.size, 2, none⟩ = some (.string T.text) := cell_at HQ.out rfl
        have hm9 : ¬ 9223372036854775807 < T.text.size + 1 := by omega
        have hx1 : IntKind.i64.wrap (((T.text.size : Nat) : Int) + 1) = ((T.text.size : Nat) : Int) + 1 := IntWalk.i64_in _ (by omega)
        have hx2 : IntKind.u64.wrap (((T.text.size : Nat) : Int) + 1) = ((T.text.size : Nat) : Int) + 1 := IntWalk.u64_in _ (by omega)
        refine wp_region_deep (by kernel_rfl) 13 100 (fun v => ((Value.slice ao len cap : Value) :: (Value.int IntKind.i64 ↑t : Value) :: (Value.agg #[Value.int IntKind.i64 T.kind, Value.int IntKind.u64 T.num, Value.string T.text, Value.slice T.ia T.len T.cap] : Value) :: (undef : Value) :: (undef : Value) :: (Value.pointer (some { block := w.heap.size, off := 0 }) : Value) :: (Value.slice none 0 0 : Value) :: (Value.slice none 0 0 : Value) :: (Value.int IntKind.i64 10 : Value) :: (undef : Value) :: (undef : Value) :: (undef : Value) :: (u12 : Value) :: (u13 : Value) :: (u14 : Value) :: (u15 : Value) :: (u16 : Value) :: (u17 : Value) :: (u18 : Value) :: (u19 : Value) :: (u20 : Value) :: (u21 : Value) :: (u22 : Value) :: (u23 : Value) :: (u24 : Value) :: (Value.bool false : Value) :: (Value.int IntKind.i64 10 : Value) :: (Value.bool false : Value) :: (u28 : Value) :: (u29 : Value) :: (u30 : Value) :: (u31 : Value) :: (u32 : Value) :: (u33 : Value) :: (u34 : Value) :: (u35 : Value) :: (u36 : Value) :: (u37 : Value) :: (Value.bool true : Value) :: (Value.int IntKind.i64 10 : Value) :: (Value.bool true : Value) :: v 0 :: v 1 :: v 2 :: v 3 :: v 4 :: v 5 :: v 6 :: v 7 :: v 8 :: v 9 :: v 10 :: v 11 :: v 12 :: (u54 : Value) :: (undef : Value) :: (u56 : Value) :: (u57 : Value) :: (u58 : Value) :: (u59 : Value) :: (u60 : Value) :: (u61 : Value) :: (u62 : Value) :: (u63 : Value) :: (u64 : Value) :: (u65 : Value) :: (u66 : Value) :: (u67 : Value) :: (u68 : Value) :: (u69 : Value) :: (u70 : Value) :: (u71 : Value) :: (u72 : Value) :: (u73 : Value) :: (u74 : Value) :: (u75 : Value) :: (u76 : Value) :: (u77 : Value) :: (u78 : Value) :: (u79 : Value) :: (u80 : Value) :: (u81 : Value) :: (u82 : Value) :: (u83 : Value) :: (u84 : Value) :: (u85 : Value) :: (u86 : Value) :: (u87 : Value) :: (u88 : Value) :: (u89 : Value) :: (u90 : Value) :: (u91 : Value) :: (u92 : Value) :: (u93 : Value) :: (u94 : Value) :: (u95 : Value) :: (u96 : Value) :: (u97 : Value) :: (u98 : Value) :: (u99 : Value) :: []).toArray) (fun j' => [(u41 : Value), (u42 : Value), (u43 : Value), (u44 : Value), (u45 : Value), (u46 : Value), (u47 : Value), (u48 : Value), (u49 : Value), (u50 : Value), (u51 : Value), (u52 : Value), (u53 : Value)].getD j' undef) (OkR wa.heap.size 2 (rowC [RPart.num (((T.text.size : Nat) : Int) + 1) 4, RPart.text (T.text ++ (⟨#[0]⟩ : ByteArray))]) 12 (fun j' => [(.slice none 0 0 : Value), (.pointer (some ⟨w.heap.size, 2, none⟩) : Value), (.string T.text : Value), (.int .i64 ((T.text.size : Nat) : Int) : Value), (.int .i64 (((T.text.size : Nat) : Int) + 1) : Value), (.int .u64 (((T.text.size : Nat) : Int) + 1) : Value), (.agg #[.int .i64 4, .int .u64 (((T.text.size : Nat) : Int) + 1), .string ⟨#[]⟩] : Value), (.pointer (some ⟨w.heap.size, 2, none⟩) : Value), (.string T.text : Value), (.string (⟨#[0]⟩ : ByteArray) : Value), (.string (T.text ++ (⟨#[0]⟩ : ByteArray)) : Value), (.agg #[.int .i64 0, .int .u64 0, .string (T.text ++ (⟨#[0]⟩ : ByteArray))] : Value), undef].getD j' undef)) (fun w' => Below wa.heap.size wa w') (fun _ => True) (Nat.le_of_ble_eq_true (by kernel_rfl)) (by kernel_rfl) ((Below.refl _ _).drew) trivial (fun i' hi' v w1 hBx _ hd => ?_) (fun v w1 hv hBx => ?_)
        · have d2 := keep hBx d2
          have hcs : i' = 0 ∨ i' = 1 ∨ i' = 2 ∨ i' = 3 ∨ i' = 4 ∨ i' = 5 ∨ i' = 6 ∨ i' = 7 ∨ i' = 8 ∨ i' = 9 ∨ i' = 10 ∨ i' = 11 ∨ i' = 12 := by omega
          rcases hcs with rfl | rfl | rfl | rfl | rfl | rfl | rfl | rfl | rfl | rfl | rfl | rfl | rfl
          · refine wpOp_step (o := _) rfl (fun K' hK => ?_)
            go_simp
            exact hK _ _ ⟨(.slice none 0 0 : Value), rfl, rfl, hBx, fun _ h => h, fun k y _ h => h⟩
          · refine wpOp_step (o := _) rfl (fun K' hK => ?_)
            go_simp
            exact hK _ _ ⟨(.pointer (some ⟨w.heap.size, 2, none⟩) : Value), rfl, rfl, hBx, fun _ h => h, fun k y _ h => h⟩
          · have e1 : v 1 = (.pointer (some ⟨w.heap.size, 2, none⟩) : Value) := hd 1 (List.contains_iff_mem.1 (by kernel_rfl))
            refine wpOp_step (o := _) rfl (fun K' hK => ?_)
            go_simp
            exact hK _ _ ⟨(.string T.text : Value), fr_eq9 (by simp [upd, e1]), rfl, hBx, fun _ h => h, fun k y _ h => h⟩
          · have e2 : v 2 = (.string T.text : Value) := hd 2 (List.contains_iff_mem.1 (by kernel_rfl))
            refine wpOp_step (o := _) rfl (fun K' hK => ?_)
            go_simp
            exact hK _ _ ⟨(.int .i64 ((T.text.size : Nat) : Int) : Value), fr_eq9 (by simp [upd, e2]), rfl, hBx, fun _ h => h, fun k y _ h => h⟩
          · have e3 : v 3 = (.int .i64 ((T.text.size : Nat) : Int) : Value) := hd 3 (List.contains_iff_mem.1 (by kernel_rfl))
            refine wpOp_step (o := _) rfl (fun K' hK => ?_)
            go_simp
            exact hK _ _ ⟨(.int .i64 (((T.text.size : Nat) : Int) + 1) : Value), fr_eq9 (by simp [upd, e3]), rfl, hBx, fun _ h => h, fun k y _ h => h⟩
          · have e4 : v 4 = (.int .i64 (((T.text.size : Nat) : Int) + 1) : Value) := hd 4 (List.contains_iff_mem.1 (by kernel_rfl))
            refine wpOp_step (o := _) rfl (fun K' hK => ?_)
            go_simp
            exact hK _ _ ⟨(.int .u64 (((T.text.size : Nat) : Int) + 1) : Value), fr_eq9 (by simp [upd, e4]), rfl, hBx, fun _ h => h, fun k y _ h => h⟩
          · have e5 : v 5 = (.int .u64 (((T.text.size : Nat) : Int) + 1) : Value) := hd 5 (List.contains_iff_mem.1 (by kernel_rfl))
            refine wpOp_step (o := _) rfl (fun K' hK => ?_)
            go_simp
            exact hK _ _ ⟨(.agg #[.int .i64 4, .int .u64 (((T.text.size : Nat) : Int) + 1), .string ⟨#[]⟩] : Value), fr_eq9 (by simp [upd, e5]), rfl, hBx, fun _ h => h, fun k y _ h => h⟩
          · refine wpOp_step (o := _) rfl (fun K' hK => ?_)
            go_simp
            exact hK _ _ ⟨(.pointer (some ⟨w.heap.size, 2, none⟩) : Value), rfl, rfl, hBx, fun _ h => h, fun k y _ h => h⟩
          · have e7 : v 7 = (.pointer (some ⟨w.heap.size, 2, none⟩) : Value) := hd 7 (List.contains_iff_mem.1 (by kernel_rfl))
            refine wpOp_step (o := _) rfl (fun K' hK => ?_)
            go_simp
            exact hK _ _ ⟨(.string T.text : Value), fr_eq9 (by simp [upd, e7]), rfl, hBx, fun _ h => h, fun k y _ h => h⟩
          · refine wpOp_step (o := _) rfl (fun K' hK => ?_)
            go_simp
            refine (refByte 0 w1 (by decide) (by decide)).mono ?_
            rintro e w3 ⟨rfl, hb3⟩
            exact hK _ _ ⟨_, rfl, rfl, below_step8' hBx hb3, fun _ h => trivial, fun k y _ h => h.keep hb3⟩
          · have e8 : v 8 = (.string T.text : Value) := hd 8 (List.contains_iff_mem.1 (by kernel_rfl))
            have e9 : v 9 = (.string (⟨#[0]⟩ : ByteArray) : Value) := hd 9 (List.contains_iff_mem.1 (by kernel_rfl))
            refine wpOp_step (o := _) rfl (fun K' hK => ?_)
            go_simp
            exact hK _ _ ⟨(.string (T.text ++ (⟨#[0]⟩ : ByteArray)) : Value), fr_eq9 (by simp [upd, e8, e9]), rfl, hBx, fun _ h => h, fun k y _ h => h⟩
          · have e10 : v 10 = (.string (T.text ++ (⟨#[0]⟩ : ByteArray)) : Value) := hd 10 (List.contains_iff_mem.1 (by kernel_rfl))
            refine wpOp_step (o := _) rfl (fun K' hK => ?_)
            go_simp
            exact hK _ _ ⟨(.agg #[.int .i64 0, .int .u64 0, .string (T.text ++ (⟨#[0]⟩ : ByteArray))] : Value), fr_eq9 (by simp [upd, e10]), rfl, hBx, fun _ h => h, fun k y _ h => h⟩
          · have e6 : v 6 = (.agg #[.int .i64 4, .int .u64 (((T.text.size : Nat) : Int) + 1), .string ⟨#[]⟩] : Value) := hd 6 (List.contains_iff_mem.1 (by kernel_rfl))
            have e11 : v 11 = (.agg #[.int .i64 0, .int .u64 0, .string (T.text ++ (⟨#[0]⟩ : ByteArray))] : Value) := hd 11 (List.contains_iff_mem.1 (by kernel_rfl))
            refine wpOp_step (o := _) rfl (fun K' hK => ?_)
            go_simp
            exact hK _ _ ⟨(.slice (some ⟨w1.heap.size, 0, none⟩) 2 2 : Value), fr_eq9 (by simp [upd, e6, e11]), ⟨_, _, rfl, fun i u hu => cell_at (alloc_at _ _) (by have h2 := hu; simp [rowC, partC, pzP, pnP, ptP] at h2 ⊢; exact h2), hBx.size⟩, hBx.alloc hBx.size _, fun _ h => trivial, fun k y _ h => h.keep ((Below.refl _ _).alloc (Nat.le_refl _) _)⟩
        · have e0 : v 0 = (.slice none 0 0 : Value) := hv 0 (by decide)
          have e1 : v 1 = (.pointer (some ⟨w.heap.size, 2, none⟩) : Value) := hv 1 (by decide)
          have e2 : v 2 = (.string T.text : Value) := hv 2 (by decide)
          have e3 : v 3 = (.int .i64 ((T.text.size : Nat) : Int) : Value) := hv 3 (by decide)
          have e4 : v 4 = (.int .i64 (((T.text.size : Nat) : Int) + 1) : Value) := hv 4 (by decide)
          have e5 : v 5 = (.int .u64 (((T.text.size : Nat) : Int) + 1) : Value) := hv 5 (by decide)
          have e6 : v 6 = (.agg #[.int .i64 4, .int .u64 (((T.text.size : Nat) : Int) + 1), .string ⟨#[]⟩] : Value) := hv 6 (by decide)
          have e7 : v 7 = (.pointer (some ⟨w.heap.size, 2, none⟩) : Value) := hv 7 (by decide)
          have e8 : v 8 = (.string T.text : Value) := hv 8 (by decide)
          have e9 : v 9 = (.string (⟨#[0]⟩ : ByteArray) : Value) := hv 9 (by decide)
          have e10 : v 10 = (.string (T.text ++ (⟨#[0]⟩ : ByteArray)) : Value) := hv 10 (by decide)
          have e11 : v 11 = (.agg #[.int .i64 0, .int .u64 0, .string (T.text ++ (⟨#[0]⟩ : ByteArray))] : Value) := hv 11 (by decide)
          obtain ⟨g8, c8, e12, hc8, hg8⟩ : ∃ g cp, v 12 = (.slice (some ⟨g, 0, none⟩) 2 cp : Value) ∧ (∀ i u, ((rowC [RPart.num (((T.text.size : Nat) : Int) + 1) 4, RPart.text (T.text ++ (⟨#[0]⟩ : ByteArray))]) : List Value)[i]? = some u → w1.cell? ⟨g, i, none⟩ = some u) ∧ wa.heap.size ≤ g := hv 12 (by decide)
          have HBX := Lib.hid hBx
          have HC8 := Lib.hid hc8
          have HRW := Lib.hid (row_keep (World.ownsRow_nil (w := wa) (w.heap.size + 1) 60 3) hBx)
          have hbsz := hBx.size
          clear hv hBx hc8 hg8
          refine wpAny_of_held (S := fun _ => True) _ _ _ _ ?_
          simp only [e0, e1, e2, e3, e4, e5, e6, e7, e8, e9, e10, e11, e12]
          clear e0 e1 e2 e3 e4 e5 e6 e7 e8 e9 e10 e11 e12
          refine wpAnyH_ready (fuel := 1) (rs := [13]) (by kernel_rfl) (by simp) ?_
          refine AllReadyH.cons (o := _) rfl (fun K hK => ?_) AllReadyH.nil
          refine step_append_lies _ (by rfl) (.tmp 41) (.tmp 53) 38 (by rfl) (w.heap.size + 1) 60 i0 (.agg #[.int .i64 0, .int .u64 0, .string ⟨#[]⟩]) 3 32 Tryz.underlying38 hi0 hz0 hz1 hz2 (by rfl) (by decide) (.slice none 0 0) 0 [] (by rfl) HRW.out ⟨g8, 0, none⟩ 2 c8 (rowC [RPart.num (((T.text.size : Nat) : Int) + 1) 4, RPart.text (T.text ++ (⟨#[0]⟩ : ByteArray))]) (by rfl) (rowC_len _) (news_at HC8.out) (rowC_one _) (by decide) (by unfold maxLen; omega) (by omega) (by have := HWS.out; omega) _ rfl ?_
          intro g4 c4 w3 hown4 hgrow hat hlt2
          have HN4 := Lib.hid hown4
          have HB4 := Lib.hid (own_below HBX.out hgrow (fun k hk => by cases hk))
          refine hK.out _ _ trivial (fun _ => ?_)
          clear hK K hown4 hgrow hat
          refine wpAnyH_ready (fuel := 0) (rs := [14]) (by kernel_rfl) (by simp) ?_
          refine AllReadyH.cons (o := _) rfl (fun K hK => ?_) AllReadyH.nil
          go_simp
          refine hK.out _ _ trivial (fun _ => ?_)
          clear hK K
          refine wpAnyH_done (by kernel_rfl) ?_ _
          go_wp2_with fail
          go_meet
          exact ⟨Lib.hid HN4.out, HB4⟩
      · go_upto_region 10 with (go_at_call 27; refine (refNumber_any _ _).mono ?_; rintro e w1 ⟨rfl, rfl⟩)
        have d3 : wa.cell? ⟨w.heap.size, 3, none⟩ = some (.slice T.ia T.len T.cap) := cell_at HQ.out rfl
        have hx2 : IntKind.u64.wrap ((T.len : Nat) : Int) = ((T.len : Nat) : Int) := IntWalk.u64_in _ (by omega)
        go_wp2_with (at_builtin; refine wpList_append_at rfl (.tmp 58) (.tmp 64) 38 rfl (w.heap.size + 1) 60 i0 (.agg #[.int .i64 0, .int .u64 0, .string ⟨#[]⟩]) 3 32 Tryz.underlying38 hi0 hz0 hz1 hz2 rfl (by decide) (.slice none 0 0) 0 [] rfl (World.ownsRow_nil _ _ _ _) ⟨_, 0, none⟩ 1 1 [.int .i64 4, .int .u64 ((T.len : Nat) : Int), .string ⟨#[]⟩] rfl rfl ?c1 ?c2 (by unfold maxLen; omega) (by omega) (by have := HWS.out; simp; omega) ?_)
        case c1 => intro i u hu; exact (by have h1 := cell_at (w := wa.alloc (.cells #[.int .i64 4, .int .u64 ((T.len : Nat) : Int), .string ⟨#[]⟩] 60)) (alloc_at _ _) (j := i) (v := u) (by simpa using hu); rw [add0]; exact h1)
        case c2 => exact rowC_one [RPart.num ((T.len : Nat) : Int) 4]
        intro v4 w4 hown4 hgrow hfr
        have HN4 := Lib.hid hown4
        have HB4 := Lib.hid (own_below (wa := wa) ((Below.refl _ _).alloc (Nat.le_refl _) _) hgrow (fun k hk => by cases hk))
        clear hown4 hgrow hfr
        go_wp2_with fail
        go_meet
        exact ⟨Lib.hid HN4.out, HB4⟩
      · have k4 : (kk == 10) = false := by simpa using k2
        have k5 : (kk == 11) = false := by simpa using k3
        clear k2 k3
        go_wp2_with (go_at_call 27; refine (refNumber_any _ _).mono ?_; rintro e w1 ⟨rfl, rfl⟩)
        go_meet
        exact ⟨Lib.hid (World.ownsRow_nil _ _ _ _), HBA⟩
    case rest =>
      obtain ⟨HRH, HBH⟩ := hcut
      have HQ5 := Lib.hid (box_keep HQ.out HBH.out)
      have HBC := Lib.hid (below_step8' HB.out HBH.out)
      clear d1
      refine hK2 _ _ ?_
      have d0 : wc.cell? ⟨w.heap.size, 0, none⟩ = some (.int .i64 T.kind) := cell_at HQ5.out rfl
      have d1 : wc.cell? ⟨w.heap.size, 1, none⟩ = some (.int .u64 T.num) := cell_at HQ5.out rfl
      have d2 : wc.cell? ⟨w.heap.size, 2, none⟩ = some (.string T.text) := cell_at HQ5.out rfl
      have d3 : wc.cell? ⟨w.heap.size, 3, none⟩ = some (.slice T.ia T.len T.cap) := cell_at HQ5.out rfl
      go_upto_region 12 with (go_at_call 31; refine (HPA.out _ HBC.out).mono ?_; rintro e w5 ⟨pv, rfl, hown5, hb5⟩; obtain ⟨pa, pc, rfl, hpa⟩ := row_form hown5; have HPV := Lib.hid hpa; have HO5 := Lib.hid hown5; have HQ6 := Lib.hid (box_keep HQ5.out hb5); have HB5 := Lib.hid (below_step8' HBC.out hb5); have HS0 := Lib.hid (show RSt w wc w5 _ hd w5 from ⟨row_keep HRH.out hb5, Only.refl _ _, fun k hk => .inl (by have := HRH.out.lt k hk; omega)⟩); have hwc5 := hb5.size; clear hpa hown5 hb5 d0 d1 d2 d3)
      have hws5 := HB5.out.size
      have hwc : w.heap.size + 1 ≤ wc.heap.size := by have := HBH.out.size; have := HWS.out; omega
      go_wp2
      go_loopw [7, 11] (fun v i wr => ∃ j : Nat, j ≤ T.len ∧ i = .int .i64 j ∧ Hid (RSt w wc w5 v (hd ++ catTo F j) wr)) (fun _ i _ => T.len - (intOf i).toNat)
      case atStart => exact ⟨0, Nat.zero_le _, rfl, Lib.hid (by rw [show hd ++ catTo F 0 = hd from List.append_nil _]; exact HS0.out)⟩
      case round =>
        obtain ⟨j, hj, rfl, HS⟩ := hrel
        have HRB := Lib.hid (HS.out.2.1.same HQ6.out (by intro h; omega))
        have d3 : wr.cell? ⟨w.heap.size, 3, none⟩ = some (.slice T.ia T.len T.cap) := cell_at HRB.out rfl
        by_cases hlt : j < T.len
        · obtain ⟨gp, hgp⟩ := HPV.out (by omega)
          subst hgp
          have hpr := Only.row HS.out.2.1 HO5.out (fun q hq e => by have := (HO5.out.lt q hq).1; omega)
          have p0 := cell_int hpr j hlt
          rw [HPG.out j hlt] at p0
          have HBR := Lib.hid (Only.below_step HB5.out HS.out.2.1 (B := w.heap.size) (fun k hk => by omega) (Nat.le_refl _))
          obtain ⟨b', off', hia', _, _, k0, k1, k2, k3⟩ := HC.out j hlt wr HBR.out
          have hcall := HCALL.out j hlt
          rw [HFF.out j] at hcall
          have hfp := HPOS.out j hlt
          rw [HFF.out j] at hfp
          obtain ⟨M, hM⟩ : ∃ M, T.kid j = M := ⟨_, rfl⟩
          obtain ⟨f, hf⟩ : ∃ f, partT L t T.num j = f := ⟨_, rfl⟩
          rw [hM, hf] at hcall
          rw [hM] at k0 k1 k2 k3
          rw [hf] at p0
          rw [hia'] at d3
          obtain ⟨R, hR⟩ : ∃ R, F j = R := ⟨_, rfl⟩
          rw [hR] at hcall hfp
          have HRN := Lib.hid (show hd ++ catTo F (j + 1) = (hd ++ catTo F j) ++ R by rw [← hR]; exact (List.append_assoc _ _ _).symm)
          have hmx : (hd ++ catTo F j).length + R.length ≤ 139314069504 := by have h1 := HMAX.out; have h2 := cat_len F (n := j + 1) (m := T.len) hlt; rw [List.length_append] at h1 ⊢; have h3 : (catTo F (j + 1)).length = (catTo F j).length + R.length := (by rw [← hR]; exact List.length_append); omega
          obtain ⟨Q, hQ⟩ : ∃ Q, hd ++ catTo F j = Q := ⟨_, rfl⟩
          rw [hQ] at hmx HS HRN
          have HD := Lib.hid hcall
          obtain ⟨va, vc, rfl, hva⟩ := row_form HS.out.1
          clear hcall hM hf hia' hpr hva hR hQ
          go_upto_region 15 with (fail)
          refine wp_region_pre (by kernel_rfl) 12 100 (fun v => ((Value.slice ao len cap : Value) :: (Value.int IntKind.i64 ↑t : Value) :: (Value.agg #[Value.int IntKind.i64 T.kind, Value.int IntKind.u64 T.num, Value.string T.text, Value.slice T.ia T.len T.cap] : Value) :: (undef : Value) :: (undef : Value) :: (Value.pointer (some { block := w.heap.size, off := 0 }) : Value) :: (Value.slice none 0 0 : Value) :: (Value.slice va Q.length vc : Value) :: (Value.int IntKind.i64 kk : Value) :: (Value.slice (some { block := gp, off := 0 }) T.len pc : Value) :: (Value.bool qb : Value) :: (Value.int IntKind.i64 ↑j : Value) :: (u12 : Value) :: (u13 : Value) :: (u14 : Value) :: (u15 : Value) :: (u16 : Value) :: (u17 : Value) :: (u18 : Value) :: (u19 : Value) :: (u20 : Value) :: (u21 : Value) :: (u22 : Value) :: (u23 : Value) :: (u24 : Value) :: (u25 : Value) :: (u26 : Value) :: (u27 : Value) :: (u28 : Value) :: (u29 : Value) :: (u30 : Value) :: (u31 : Value) :: (u32 : Value) :: (u33 : Value) :: (u34 : Value) :: (u35 : Value) :: (u36 : Value) :: (u37 : Value) :: (u38 : Value) :: (u39 : Value) :: (u40 : Value) :: (u41 : Value) :: (u42 : Value) :: (u43 : Value) :: (u44 : Value) :: (u45 : Value) :: (u46 : Value) :: (u47 : Value) :: (u48 : Value) :: (u49 : Value) :: (u50 : Value) :: (u51 : Value) :: (u52 : Value) :: (u53 : Value) :: (u54 : Value) :: (u55 : Value) :: (u56 : Value) :: (u57 : Value) :: (u58 : Value) :: (u59 : Value) :: (u60 : Value) :: (u61 : Value) :: (u62 : Value) :: (u63 : Value) :: (u64 : Value) :: (u65 : Value) :: (Value.tuple #[Value.slice (some { block := gp, off := 0 }) T.len pc, Value.bool qb] : Value) :: (Value.slice ao len cap : Value) :: (Value.int IntKind.i64 ↑t : Value) :: (Value.agg #[Value.int IntKind.i64 T.kind, Value.int IntKind.u64 T.num, Value.string T.text, Value.slice T.ia T.len T.cap] : Value) :: (Value.tuple #[Value.slice (some { block := gp, off := 0 }) T.len pc, Value.bool qb] : Value) :: (Value.slice (some { block := gp, off := 0 }) T.len pc : Value) :: (Value.bool qb : Value) :: (Value.int IntKind.i64 ↑j : Value) :: (Value.slice (some { block := gp, off := 0 }) T.len pc : Value) :: (Value.int IntKind.i64 ↑T.len : Value) :: (Value.bool true : Value) :: (Value.bool true : Value) :: (Value.int IntKind.i64 ↑j : Value) :: (Value.pointer (some { block := w.heap.size, off := 3 }) : Value) :: (Value.slice (some { block := b', off := off' }) T.len T.cap : Value) :: (Value.int IntKind.i64 ↑T.len : Value) :: (Value.bool true : Value) :: (Value.bool true : Value) :: (u84 : Value) :: (u85 : Value) :: v 0 :: v 1 :: v 2 :: v 3 :: v 4 :: v 5 :: v 6 :: v 7 :: v 8 :: v 9 :: v 10 :: v 11 :: (u98 : Value) :: (u99 : Value) :: []).toArray) (fun j' => [(u86 : Value), (u87 : Value), (u88 : Value), (u89 : Value), (u90 : Value), (u91 : Value), (u92 : Value), (u93 : Value), (u94 : Value), (u95 : Value), (u96 : Value), (u97 : Value)].getD j' undef) (OkR wr.heap.size R.length (rowC R) 11 (fun j' => [(.slice va Q.length vc : Value), (.slice ao len cap : Value), (.slice (some ⟨gp, 0, none⟩) T.len pc : Value), (.int .i64 ((j : Nat) : Int) : Value), (.pointer (some ⟨gp, j, none⟩) : Value), (.int .i64 ((f : Nat) : Int) : Value), (.pointer (some ⟨w.heap.size, 3, none⟩) : Value), (.slice (some ⟨b', off', none⟩) T.len T.cap : Value), (.int .i64 ((j : Nat) : Int) : Value), (.pointer (some ⟨b', off' + j * 4, none⟩) : Value), (.agg #[.int .i64 M.kind, .int .u64 M.num, .string M.text, .slice M.ia M.len M.cap] : Value), undef].getD j' undef)) (fun w' => Below wr.heap.size wr w') (fun _ => True) (Nat.le_of_ble_eq_true (by kernel_rfl)) (by kernel_rfl) ((Below.refl _ _).drew) trivial (fun i' hi' v w1 hBx _ hd => ?_) (fun v w1 hv hBx => ?_)
          · have hbw := below_step8' HBR.out hBx
            have d3 := keep hBx d3
            have p0 := keep hBx p0
            have k0 := keep hBx k0
            have k1 := keep hBx k1
            have k2 := keep hBx k2
            have k3 := keep hBx k3
            have hcs : i' = 0 ∨ i' = 1 ∨ i' = 2 ∨ i' = 3 ∨ i' = 4 ∨ i' = 5 ∨ i' = 6 ∨ i' = 7 ∨ i' = 8 ∨ i' = 9 ∨ i' = 10 ∨ i' = 11 := by omega
            rcases hcs with rfl | rfl | rfl | rfl | rfl | rfl | rfl | rfl | rfl | rfl | rfl | rfl
            · refine wpOp_step (o := _) rfl (fun K' hK => ?_)
              go_simp
              exact hK _ _ ⟨(.slice va Q.length vc : Value), rfl, rfl, hBx, fun _ h => h, fun k y _ h => h⟩
            · refine wpOp_step (o := _) rfl (fun K' hK => ?_)
              go_simp
              exact hK _ _ ⟨(.slice ao len cap : Value), rfl, rfl, hBx, fun _ h => h, fun k y _ h => h⟩
            · refine wpOp_step (o := _) rfl (fun K' hK => ?_)
              go_simp
              exact hK _ _ ⟨(.slice (some ⟨gp, 0, none⟩) T.len pc : Value), rfl, rfl, hBx, fun _ h => h, fun k y _ h => h⟩
            · refine wpOp_step (o := _) rfl (fun K' hK => ?_)
              go_simp
              exact hK _ _ ⟨(.int .i64 ((j : Nat) : Int) : Value), rfl, rfl, hBx, fun _ h => h, fun k y _ h => h⟩
            · have e2 : v 2 = (.slice (some ⟨gp, 0, none⟩) T.len pc : Value) := hd 2 (List.contains_iff_mem.1 (by kernel_rfl))
              have e3 : v 3 = (.int .i64 ((j : Nat) : Int) : Value) := hd 3 (List.contains_iff_mem.1 (by kernel_rfl))
              refine wpOp_step (o := _) rfl (fun K' hK => ?_)
              go_simp
              exact hK _ _ ⟨(.pointer (some ⟨gp, j, none⟩) : Value), fr_eq9 (by simp [upd, e2, e3]), rfl, hBx, fun _ h => h, fun k y _ h => h⟩
            · have e4 : v 4 = (.pointer (some ⟨gp, j, none⟩) : Value) := hd 4 (List.contains_iff_mem.1 (by kernel_rfl))
              refine wpOp_step (o := _) rfl (fun K' hK => ?_)
              go_simp
              exact hK _ _ ⟨(.int .i64 ((f : Nat) : Int) : Value), fr_eq9 (by simp [upd, e4]), rfl, hBx, fun _ h => h, fun k y _ h => h⟩
            · refine wpOp_step (o := _) rfl (fun K' hK => ?_)
              go_simp
              exact hK _ _ ⟨(.pointer (some ⟨w.heap.size, 3, none⟩) : Value), rfl, rfl, hBx, fun _ h => h, fun k y _ h => h⟩
            · have e6 : v 6 = (.pointer (some ⟨w.heap.size, 3, none⟩) : Value) := hd 6 (List.contains_iff_mem.1 (by kernel_rfl))
              refine wpOp_step (o := _) rfl (fun K' hK => ?_)
              go_simp
              exact hK _ _ ⟨(.slice (some ⟨b', off', none⟩) T.len T.cap : Value), fr_eq9 (by simp [upd, e6]), rfl, hBx, fun _ h => h, fun k y _ h => h⟩
            · refine wpOp_step (o := _) rfl (fun K' hK => ?_)
              go_simp
              exact hK _ _ ⟨(.int .i64 ((j : Nat) : Int) : Value), rfl, rfl, hBx, fun _ h => h, fun k y _ h => h⟩
            · have e7 : v 7 = (.slice (some ⟨b', off', none⟩) T.len T.cap : Value) := hd 7 (List.contains_iff_mem.1 (by kernel_rfl))
              have e8 : v 8 = (.int .i64 ((j : Nat) : Int) : Value) := hd 8 (List.contains_iff_mem.1 (by kernel_rfl))
              refine wpOp_step (o := _) rfl (fun K' hK => ?_)
              go_simp
              exact hK _ _ ⟨(.pointer (some ⟨b', off' + j * 4, none⟩) : Value), fr_eq9 (by simp [upd, e7, e8]), rfl, hBx, fun _ h => h, fun k y _ h => h⟩
            · have e9 : v 9 = (.pointer (some ⟨b', off' + j * 4, none⟩) : Value) := hd 9 (List.contains_iff_mem.1 (by kernel_rfl))
              refine wpOp_step (o := _) rfl (fun K' hK => ?_)
              go_simp
              exact hK _ _ ⟨(.agg #[.int .i64 M.kind, .int .u64 M.num, .string M.text, .slice M.ia M.len M.cap] : Value), fr_eq9 (by simp [upd, e9]), rfl, hBx, fun _ h => h, fun k y _ h => h⟩
            · have e1 : v 1 = (.slice ao len cap : Value) := hd 1 (List.contains_iff_mem.1 (by kernel_rfl))
              have e5 : v 5 = (.int .i64 ((f : Nat) : Int) : Value) := hd 5 (List.contains_iff_mem.1 (by kernel_rfl))
              have e10 : v 10 = (.agg #[.int .i64 M.kind, .int .u64 M.num, .string M.text, .slice M.ia M.len M.cap] : Value) := hd 10 (List.contains_iff_mem.1 (by kernel_rfl))
              refine wpOp_step (o := _) rfl (fun K' hK => ?_)
              go_simp
              refine (HD.out w1 hbw).mono ?_
              rintro e w3 ⟨g, cp, rfl, hown, hb3⟩
              have hge := (hown.lt g rfl).1
              have hbz := hBx.size
              exact hK _ _ ⟨_, fr_eq9 (by simp [upd, e1, e5, e10]), ⟨g, cp, rfl, row_cells hown, by omega⟩, below_step8' hBx hb3, fun _ h => trivial, fun k y _ h => h.keep hb3⟩
          · have e0 : v 0 = (.slice va Q.length vc : Value) := hv 0 (by decide)
            have e1 : v 1 = (.slice ao len cap : Value) := hv 1 (by decide)
            have e2 : v 2 = (.slice (some ⟨gp, 0, none⟩) T.len pc : Value) := hv 2 (by decide)
            have e3 : v 3 = (.int .i64 ((j : Nat) : Int) : Value) := hv 3 (by decide)
            have e4 : v 4 = (.pointer (some ⟨gp, j, none⟩) : Value) := hv 4 (by decide)
            have e5 : v 5 = (.int .i64 ((f : Nat) : Int) : Value) := hv 5 (by decide)
            have e6 : v 6 = (.pointer (some ⟨w.heap.size, 3, none⟩) : Value) := hv 6 (by decide)
            have e7 : v 7 = (.slice (some ⟨b', off', none⟩) T.len T.cap : Value) := hv 7 (by decide)
            have e8 : v 8 = (.int .i64 ((j : Nat) : Int) : Value) := hv 8 (by decide)
            have e9 : v 9 = (.pointer (some ⟨b', off' + j * 4, none⟩) : Value) := hv 9 (by decide)
            have e10 : v 10 = (.agg #[.int .i64 M.kind, .int .u64 M.num, .string M.text, .slice M.ia M.len M.cap] : Value) := hv 10 (by decide)
            obtain ⟨g8, c8, e11, hc8, hg8⟩ : ∃ g cp, v 11 = (.slice (some ⟨g, 0, none⟩) R.length cp : Value) ∧ (∀ i u, ((rowC R) : List Value)[i]? = some u → w1.cell? ⟨g, i, none⟩ = some u) ∧ wr.heap.size ≤ g := hv 11 (by decide)
            have HBX := Lib.hid hBx
            have HC8 := Lib.hid hc8
            have HRW := Lib.hid (row_keep HS.out.1 hBx)
            have hbsz := hBx.size
            clear hv hBx hc8 hg8
            refine wpAny_of_held (S := fun _ => True) _ _ _ _ ?_
            simp only [e0, e1, e2, e3, e4, e5, e6, e7, e8, e9, e10, e11]
            clear e0 e1 e2 e3 e4 e5 e6 e7 e8 e9 e10 e11
            refine wpAnyH_ready (fuel := 1) (rs := [12]) (by kernel_rfl) (by simp) ?_
            refine AllReadyH.cons (o := _) rfl (fun K hK => ?_) AllReadyH.nil
            refine step_append_lies _ (by rfl) (.tmp 86) (.tmp 97) 38 (by rfl) (w.heap.size + 1) 60 i0 (.agg #[.int .i64 0, .int .u64 0, .string ⟨#[]⟩]) 3 32 Tryz.underlying38 hi0 hz0 hz1 hz2 (by rfl) (by decide) (.slice va Q.length vc) Q.length (rowC Q) (by rfl) HRW.out ⟨g8, 0, none⟩ R.length c8 (rowC R) (by rfl) (rowC_len _) (news_at HC8.out) (rowC_one _) hfp (by unfold maxLen; omega) (by omega) (by have := HS.out.2.1.size; omega) _ rfl ?_
            intro g4 c4 w3 hown4 hgrow hat hlt2
            have HN4 := Lib.hid (RSt.next HS.out HBX.out hgrow hown4 hat)
            refine hK.out _ _ trivial (fun _ => ?_)
            clear hK K hown4 hgrow hat
            refine wpAnyH_ready (fuel := 0) (rs := [13]) (by kernel_rfl) (by simp) ?_
            refine AllReadyH.cons (o := _) rfl (fun K hK => ?_) AllReadyH.nil
            go_simp
            refine hK.out _ _ trivial (fun _ => ?_)
            clear hK K
            refine wpAnyH_done (by kernel_rfl) ?_ _
            go_wp2
            go_roundw
            case rel => exact ⟨j + 1, by omega, by go_num, Lib.hid (by rw [HRN.out]; exact HN4.out)⟩
            case measure => simp [intOf]; omega
        · obtain rfl : j = T.len := by omega
          obtain ⟨g9, c9, rfl⟩ := row_some HS.out.1 HPOSR.out
          have HBE := Lib.hid (Only.below_step HB5.out HS.out.2.1 (B := w.heap.size) (fun k hk => by omega) (Nat.le_refl _))
          have HOE := Lib.hid HS.out.1
          go_wp2
          go_ret
          exact ⟨g9, c9, rfl, by have h := HOE.out; exact ⟨h.1, h.2.imp id (fun ⟨g, cap, cur, e, h1, h2⟩ => ⟨g, cap, cur, e, Nat.le_trans (Nat.le_succ _) h1, h2⟩)⟩, HBE.out⟩
end Go.Proofs.YtficmdomnilhnaaGreat
