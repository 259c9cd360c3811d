/- Contracts of key.Bytes and of the reference's Bytes. -/
import Derived.Test.YtinmdkhafamibaaKeyVal
import Derived.Deep.RegionHeld3
namespace Go.Proofs.Ytinmdkhafamibaa
open Go.RowKit
set_option linter.unusedVariables false
/-- the text that key.Bytes answers -/
def kx (K : List UInt8) : ByteArray := if kok K = true then ⟨(kt K (kn K)).toArray⟩ else ⟨#[]⟩
def ks (K : List UInt8) (n : Nat) : ByteArray := ⟨(kt K n).toArray⟩
theorem ks_list (K : List UInt8) (n : Nat) : (ks K n).data.toList = kt K n := by simp [ks]
theorem ks_size (K : List UInt8) (h : K.length = 17) (n : Nat) (hn : n ≤ 16) : (ks K n).size = n := by
  rw [Lib.size_eq, ks_list, kt_len K h n hn]
theorem kc_head (K : List UInt8) (h : K.length = 17) : (kc K)[0]? = some (.int .u8 (kn K : Nat)) := by
  match K, h with
  | c :: r, _ => exact kc_get _ 0 c rfl
theorem kc_tail (K : List UInt8) (h : K.length = 17) (k : Nat) (hk : k < 16) : (kc K)[k + 1]? = some (.int .u8 (((kt K (k + 1)).getD k 0).toNat : Nat)) := by
  match K, h with
  | c :: r, h =>
    have hr : r.length = 16 := by simpa using h
    refine kc_get _ (k + 1) _ ?_
    show r[k]? = _
    have : (kt (c :: r) (k + 1)).getD k 0 = r[k]'(by omega) := by
      show ((r.take (k + 1)).getD k 0) = _
      rw [List.getD_eq_getElem?_getD, List.getElem?_take, if_pos (by omega), List.getElem?_eq_getElem (by omega)]; rfl
    rw [this, List.getElem?_eq_getElem (by omega)]
theorem ks_next (K : List UInt8) (h : K.length = 17) (k : Nat) (hk : k < 16) : ks K k ++ ⟨#[(kt K (k + 1)).getD k 0]⟩ = ks K (k + 1) := by
  match K, h with
  | c :: r, h =>
    have hr : r.length = 16 := by simpa using h
    apply ByteArray.ext
    apply Array.toList_inj.1
    show ((ks (c :: r) k) ++ _).data.toList = (ks (c :: r) (k + 1)).data.toList
    rw [ByteArray.data_append, Array.toList_append, ks_list, ks_list]
    show r.take k ++ [((r.take (k + 1)).getD k 0)] = r.take (k + 1)
    rw [List.take_succ_eq_append_getElem (by omega)]
    congr 2
    rw [List.getD_eq_getElem?_getD, ← List.take_succ_eq_append_getElem (by omega), List.getElem?_take, if_pos (by omega), List.getElem?_eq_getElem (by omega)]; rfl
/-- a box that holds a key, through the calls of a region that draws -/
def KeyIn (g : Nat) (K : List UInt8) (w0 w : World) : Prop := w.heap[g]? = some (.cells (kc K) 31 (0, 0)) ∧ Below w0.heap.size w0 w
theorem KeyIn.new (K : List UInt8) (w : World) : KeyIn w.heap.size K w (w.alloc (.cells (kc K) 31)) := ⟨alloc_at w _, (Below.refl _ _).alloc (Nat.le_refl _) _⟩
theorem KeyIn.drew {g : Nat} {K : List UInt8} {w0 w : World} (h : KeyIn g K w0 w) : KeyIn g K w0 w.drew := ⟨h.1, h.2.drew⟩
theorem KeyIn.step {g : Nat} {K : List UInt8} {w0 w w' : World} (h : KeyIn g K w0 w) (hb : Below w.heap.size w w') : KeyIn g K w0 w' :=
  ⟨(hb.block g (lt_of_block h.1)).trans h.1, h.2.trans (hb.mono h.2.size)⟩
theorem KeyIn.range {g : Nat} {K : List UInt8} {w0 w : World} (h : KeyIn g K w0 w) : w.rangeAt g 0 (Lib.byteCells K) := fun j v hv => by
  rw [Nat.zero_add]
  exact cell_at h.1 (by simpa [kc] using hv)
theorem KeyIn.load {g : Nat} {K : List UInt8} {w0 w : World} (h : KeyIn g K w0 w) (hl : K.length = 17) : (Instr.loadAt 31 (.pointer (some ⟨g, 0, none⟩))).run Try.prog w = .ok (.agg (kc K)) w := by
  have hc : (kc K) = (Lib.byteCells K).toArray := rfl
  rw [hc]
  refine run_loadAt_mid w g 0 31 (Lib.byteCells K) _ (fun j v hv => ?_) Try.underlying31 rfl (by rw [Lib.byteCells_length, hl]; exact infoKey)
  rw [Nat.zero_add]
  exact cell_at h.1 (by simpa [kc] using hv)
theorem conv_key {w : World} {g : Nat} {K : List UInt8} {w0 : World} (h : KeyIn g K w0 w) (hl : K.length = 17) (n c : Nat) (hn : n ≤ 16) : (convert 58 9 (.slice (some ⟨g, 1, none⟩) n c)).run Try.prog w = .ok (.string (ks K n)) w := by
  have h3 := run_convert_bytes_back (P := Try.prog) w 58 9 5 ⟨g, 1, none⟩ c (kt K n) Try.underlying58 Try.underlying5 Try.underlying9 (fun j hj => by
    rw [kt_len K hl n hn] at hj
    rw [add_plain]
    refine cell_at h.1 ?_
    rw [Nat.add_comm]
    refine (kc_get K (j + 1) ((kt K n)[j]'(by rw [kt_len K hl n hn]; exact hj)) ?_)
    match K, hl with
    | x :: r, hl =>
      have hr : r.length = 16 := by simpa using hl
      show r[j]? = some ((r.take n)[j]'(by simpa [kt] using hj))
      rw [List.getElem_take, List.getElem?_eq_getElem])
  rw [kt_len K hl n hn] at h3
  exact h3
theorem arrKey : Try.prog.arrayLen 31 = 17 := by kernel_rfl
theorem slice_key (g n : Nat) (hn : n ≤ 16) (W : World) : (Instr.sliceAt 31 (.pointer (some ⟨g, 0, none⟩)) (some (.int .i64 1)) (some (.int .i64 ((n : Int) + 1))) none).run Try.prog W = .ok (.slice (some ⟨g, 1, none⟩) n 16) W := by
  rw [run_sliceAt_array_lh W 31 ⟨g, 0, none⟩ (by simp [Program.arrayLen, Program.elem, Try.underlying31]) .i64 .i64 1 ((n : Int) + 1) (by omega) (by omega) (by rw [arrKey]; omega)]
  have he : (sizeOf (Try.prog.elem 31)).run Try.prog W = .ok 1 W := by kernel_rfl
  rw [he]
  have e1 : ((n : Int) + 1).toNat = n + 1 := by omega
  simp only [Result.andThen, slicedAt, arrKey, e1]
  rfl
set_option maxRecDepth 100000 in
set_option maxHeartbeats 2000000 in
theorem bytes_any13 (K : List UInt8) (hK : K.length = 17) (w : World) : Calls Try.prog 9 #[.agg (kc K)] w fun e w' => e = .returned (.tuple #[.string (kx K), .bool (kok K)]) ∧ Below w.heap.size w w' := by
  have HI := Lib.hid (KeyIn.new K w)
  have hk0 := kc_head K hK
  have hlt : kn K < 256 := kn_lt K
  by_cases hn : kn K ≤ 16
  · have hcv := conv_key HI.out hK (kn K) 16 hn
    have hun := Try.underlying31
    have hin : (Try.prog.info? 31).map (·.size) = some (Lib.byteCells K).length := by rw [Lib.byteCells_length, hK]; exact infoKey
    have HKF := Lib.hid (fun wx => keyOf_any (ks K (kn K)) (by rw [ks_size K hK _ hn]; exact hn) wx)
    rw [ks_list] at HKF
    have hne : ∀ wx, (binOp .neq 31 (.agg (kc (kb (kt K (kn K))))) (.agg (Lib.byteCells K).toArray)).run Try.prog wx = _ := fun wx => neq_key wx (kb_len (kt K (kn K))) hK
    have hko : kok K = decide (kb (kt K (kn K)) = K) := by unfold kok; rw [decide_eq_true hn]; rfl
    have hkx : ∀ b, kok K = b → kx K = if b = true then ks K (kn K) else ⟨#[]⟩ := fun b e => by rw [← e]; rfl
    rw [← hko] at hne
    obtain ⟨S, hS⟩ : ∃ S, ks K (kn K) = S := ⟨_, rfl⟩
    rw [hS] at hcv HKF hkx
    obtain ⟨KK, hKK⟩ : ∃ S, kb (kt K (kn K)) = S := ⟨_, rfl⟩
    rw [hKK] at HKF hne
    obtain ⟨n, hnn⟩ : ∃ n, kn K = n := ⟨_, rfl⟩
    rw [hnn] at hk0 hcv hn
    have hsc := slice_key w.heap.size n hn
    clear hko hS hKK hnn hlt
    cases hq : kok K with
    | true =>
      rw [hq] at hne
      rw [show kx K = S by rw [hkx true hq, if_pos rfl]]
      clear hq hkx
      go_enter Try.func9, Try.ntmps9
      go_wp2
      go_region_held3 (fun w' => w'.rangeAt w.heap.size 0 (Lib.byteCells K) ∧ Hid (KeyIn w.heap.size K w w')) (first | exact ⟨HI.out.drew.range, Lib.hid HI.out.drew⟩ | exact ⟨HI.out.range, HI⟩ | fail)
        (first
          | (go_at_call 18; refine (HKF.out _).mono ?_; rintro e w3 ⟨rfl, hb3⟩; have HI := Lib.hid (KeyIn.step (w0 := w) (by first | exact HI.out | exact HI.out.drew) hb3); clear hb3))
      all_goals
        go_wp2
        go_ret2
        exact ⟨rfl, HI.out.2⟩
    | false =>
      rw [hq] at hne
      rw [show kx K = ⟨#[]⟩ by rw [hkx false hq, if_neg (by decide)]]
      clear hq hkx
      go_enter Try.func9, Try.ntmps9
      go_wp2
      go_region_held3 (fun w' => w'.rangeAt w.heap.size 0 (Lib.byteCells K) ∧ Hid (KeyIn w.heap.size K w w')) (first | exact ⟨HI.out.drew.range, Lib.hid HI.out.drew⟩ | exact ⟨HI.out.range, HI⟩ | fail)
        (first
          | (go_at_call 18; refine (HKF.out _).mono ?_; rintro e w3 ⟨rfl, hb3⟩; have HI := Lib.hid (KeyIn.step (w0 := w) (by first | exact HI.out | exact HI.out.drew) hb3); clear hb3))
      all_goals
        go_wp2
        go_ret2
        exact ⟨rfl, HI.out.2⟩
  · have hq : kok K = false := by unfold kok; rw [decide_eq_false hn]; rfl
    rw [show kx K = ⟨#[]⟩ by unfold kx; rw [hq]; rfl, hq]
    obtain ⟨n, hnn⟩ : ∃ n, kn K = n := ⟨_, rfl⟩
    rw [hnn] at hk0 hn hlt
    clear hq hnn
    go_enter Try.func9, Try.ntmps9
    go_wp2
    go_ret2
    exact ⟨rfl, HI.out.2⟩
theorem KeyIn.alloc {g : Nat} {K : List UInt8} {w0 w : World} (h : KeyIn g K w0 w) (o : Obj) : KeyIn g K w0 (w.alloc o) := ⟨alloc_old h.1, h.2.alloc h.2.size _⟩
theorem convK (c : UInt8) (w : World) : (convert 58 9 (.slice (some ⟨w.heap.size, 0, none⟩) 1 1)).run Try.prog (w.alloc (.cells #[.int .u8 (c.toNat : Nat)] 5)) = .ok (.string ⟨#[c]⟩) (w.alloc (.cells #[.int .u8 (c.toNat : Nat)] 5)) := by
  have h := run_convert_bytes_back (P := Try.prog) (w.alloc (.cells #[.int .u8 (c.toNat : Nat)] 5)) 58 9 5 ⟨w.heap.size, 0, none⟩ 1 [c] Try.underlying58 Try.underlying5 Try.underlying9 (fun j hj => by
    obtain rfl : j = 0 := by simpa using hj
    rw [add_plain]
    exact cell_at (alloc_at w _) rfl)
  exact h
theorem kx_yes {K : List UInt8} (hK : K.length = 17) {k : Nat} (hk : k ≤ 16) (h : kb (kt K k) = K) : kx K = ks K k ∧ kok K = true := by
  obtain ⟨rfl, h2⟩ := (kok_at K hK k hk).1 h
  exact ⟨by unfold kx; rw [h2, if_pos rfl]; rfl, h2⟩
theorem kx_no {K : List UInt8} (hK : K.length = 17) (h : ∀ j, j < 17 → ¬ kb (kt K j) = K) : kx K = ⟨#[]⟩ ∧ kok K = false := by
  have h2 : kok K = false := by
    cases hq : kok K with
    | false => rfl
    | true =>
      exfalso
      have h3 : kn K ≤ 16 := by unfold kok at hq; simp only [Bool.and_eq_true, decide_eq_true_eq] at hq; exact hq.1
      exact h (kn K) (by omega) ((kok_at K hK _ h3).2 ⟨rfl, hq⟩)
  exact ⟨by unfold kx; rw [h2]; rfl, h2⟩
set_option maxRecDepth 100000 in
set_option maxHeartbeats 4000000 in
theorem refBytes_any (K : List UInt8) (hK : K.length = 17) (w : World) : Calls Try.prog 10 #[.agg (kc K)] w fun e w' => e = .returned (.tuple #[.string (kx K), .bool (kok K)]) ∧ Below w.heap.size w w' := by
  have HI0 := Lib.hid (KeyIn.new K w)
  have hun := Try.underlying31
  have hin : (Try.prog.info? 31).map (·.size) = some (Lib.byteCells K).length := by rw [Lib.byteCells_length, hK]; exact infoKey
  obtain ⟨X, hX⟩ : ∃ X, kx K = X := ⟨_, rfl⟩
  obtain ⟨B, hB⟩ : ∃ B, kok K = B := ⟨_, rfl⟩
  have HY := Lib.hid (fun k hk h => kx_yes hK (k := k) hk h)
  have HN := Lib.hid (fun h => kx_no hK h)
  have HSZ := Lib.hid (fun n hn => ks_size K hK n hn)
  rw [hX, hB] at HY HN
  rw [hX, hB]
  obtain ⟨S, hS⟩ : ∃ S : Nat → ByteArray, (fun n => ks K n) = S := ⟨_, rfl⟩
  have hSn : ∀ n, ks K n = S n := fun n => by rw [← hS]
  have HKF := Lib.hid (fun k (hk : k ≤ 16) wx => refKey_any (ks K k) (by rw [ks_size K hK _ hk]; exact hk) wx)
  have HEQ := Lib.hid (show ∀ (k : Nat) (wx : World), (Op.equalIn 10000 31 (.agg (kc (kb (kt K k)))) (.agg (Lib.byteCells K).toArray)).run Try.prog wx = .ok (decide (kb (kt K k) = K)) wx from fun k wx => equal_key wx (kb_len (kt K k)) hK)
  simp only [ks_list] at HKF
  simp only [hSn] at HKF HY HSZ
  have HNX := Lib.hid (fun k hk => ks_next K hK k hk)
  simp only [hSn] at HNX
  have HCT := Lib.hid (fun k hk => kc_tail K hK k hk)
  have HS0 := Lib.hid (show S 0 = ⟨#[]⟩ from (hSn 0).symm)
  clear hX hB hS hSn
  go_enter Try.func10, Try.ntmps10
  go_wp2
  go_loopw [4, 5] (fun s i wr => ∃ k : Nat, k ≤ 17 ∧ i = .int .i64 k ∧ s = .string (S (min k 16)) ∧ Hid (∀ j, j < k → ¬ kb (kt K j) = K) ∧ Hid (KeyIn w.heap.size K w wr)) (fun _ i _ => 17 - (intOf i).toNat)
  case atStart => exact ⟨0, Nat.zero_le _, rfl, by rw [Nat.zero_min, HS0.out], Lib.hid fun j hj => by omega, HI0⟩
  case round =>
    obtain ⟨k, hk, rfl, rfl, HJ, HI⟩ := hrel
    clear HI0 HS0
    by_cases hlt : k ≤ 16
    · have hd : decide ((k : Int) ≤ 16) = true := by simp; omega
      have hdn : decide (k ≤ 16) = true := by simp; omega
      rw [Nat.min_eq_left hlt]
      have HKF' := Lib.hid (fun wx => HKF.out k hlt wx)
      have heq := fun wx => HEQ.out k wx
      obtain ⟨KK, hKK⟩ : ∃ KK, kb (kt K k) = KK := ⟨_, rfl⟩
      rw [hKK] at HKF' heq
      have HKK := Lib.hid hKK
      have hsz := HSZ.out k hlt
      have HSZ' := Lib.hid hsz
      clear HKF HEQ hKK
      obtain ⟨Sk, hSk⟩ : ∃ s, S k = s := ⟨_, rfl⟩
      have HSk := Lib.hid hSk
      rw [hSk] at HKF' hsz ⊢
      clear hSk
      by_cases hq : KK = K
      · rw [decide_eq_true hq] at heq
        have HR := Lib.hid (HY.out k hlt (HKK.out.trans hq))
        rw [HSk.out] at HR
        clear hq HY HN HCT HNX HSZ HSZ' HKK
        go_wp2
        go_region_held3 (fun w' => w'.rangeAt w.heap.size 0 (Lib.byteCells K) ∧ Hid (KeyIn w.heap.size K w w')) (first | exact ⟨HI.out.drew.range, Lib.hid HI.out.drew⟩ | exact ⟨HI.out.range, HI⟩ | fail)
          (first
            | (go_at_call 19; refine (HKF'.out _).mono ?_; rintro e w3 ⟨rfl, hb3⟩; have HI := Lib.hid (KeyIn.step (w0 := w) (by first | exact HI.out | exact HI.out.drew) hb3); clear hb3))
        all_goals
          go_wp2
          go_ret2
          exact ⟨by first | (rw [HR.out.1, HR.out.2]; rfl) | rw [HR.out.1, HR.out.2], HI.out.2⟩
      · rw [decide_eq_false hq] at heq
        have HJ' := Lib.hid (show ∀ j, j < k + 1 → ¬ kb (kt K j) = K from fun j hj => by
          by_cases c : j < k
          · exact HJ.out j c
          · obtain rfl : j = k := by omega
            rw [HKK.out]; exact hq)
        clear hq HKK HY HN
        by_cases h16 : k < 16
        · have HX := Lib.hid (HNX.out k h16)
          rw [HSk.out] at HX
          have HC := Lib.hid (HCT.out k h16)
          obtain ⟨c, hc⟩ : ∃ c, (kt K (k + 1)).getD k 0 = c := ⟨_, rfl⟩
          rw [hc] at HX HC
          have hcv := convK c
          clear hc HNX HCT
          go_wp2
          go_region_held3 (fun w' => w'.rangeAt w.heap.size 0 (Lib.byteCells K) ∧ Hid (KeyIn w.heap.size K w w')) (first | exact ⟨HI.out.drew.range, Lib.hid HI.out.drew⟩ | exact ⟨HI.out.range, HI⟩ | fail)
            (first
              | (go_at_call 19; refine (HKF'.out _).mono ?_; rintro e w3 ⟨rfl, hb3⟩; have HI := Lib.hid (KeyIn.step (w0 := w) (by first | exact HI.out | exact HI.out.drew) hb3); clear hb3))
          all_goals
            have c0 := cell_at HI.out.1 HC.out
            go_wp2
            go_roundw
            case rel => exact ⟨k + 1, by omega, by go_num, by rw [Nat.min_eq_left (by omega), ← HX.out], HJ', Lib.hid (HI.out.alloc _)⟩
            case measure => simp [intOf]; omega
        · obtain rfl : k = 16 := by omega
          clear HNX HCT
          go_wp2
          go_region_held3 (fun w' => w'.rangeAt w.heap.size 0 (Lib.byteCells K) ∧ Hid (KeyIn w.heap.size K w w')) (first | exact ⟨HI.out.drew.range, Lib.hid HI.out.drew⟩ | exact ⟨HI.out.range, HI⟩ | fail)
            (first
              | (go_at_call 19; refine (HKF'.out _).mono ?_; rintro e w3 ⟨rfl, hb3⟩; have HI := Lib.hid (KeyIn.step (w0 := w) (by first | exact HI.out | exact HI.out.drew) hb3); clear hb3))
          all_goals
            go_wp2
            go_roundw
            case rel => exact ⟨17, by omega, by go_num, by first | (rw [← HSk.out]; rfl) | rw [← HSk.out], HJ', HI⟩
            case measure => first | (simp [intOf]; done) | (simp [intOf]; omega)
    · have hd : decide ((k : Int) ≤ 16) = false := by simp; omega
      have hdn : decide (k ≤ 16) = false := by simp; omega
      have HR := Lib.hid (HN.out (fun j hj => HJ.out j (by omega)))
      clear HY HN HCT HNX HSZ HKF HEQ
      go_wp2
      go_ret2
      exact ⟨by first | (rw [HR.out.1, HR.out.2]; rfl) | rw [HR.out.1, HR.out.2], HI.out.2⟩
end Go.Proofs.Ytinmdkhafamibaa
