/- The reference's num, and when two lists of tokens are the same. -/
import Derived.Test.YtbejpgoedenpmaaGreatDoorTokRefN
import Derived.Test.YtbejpgoedenpmaaGreatDoorTokJoin
namespace Go.Proofs.YtbejpgoedenpmaaGreatDoor
open Go.RowKit
set_option linter.unusedVariables false
theorem fold_acc (l : List UInt8) : ∀ a, l.foldl (fun n b => n * 10 + (b.toNat - 48)) a = a * 10 ^ l.length + nval l := by
  induction l with
  | nil => intro a; simp [nval]
  | cons c r ih =>
    intro a
    have h1 := ih (a * 10 + (c.toNat - 48))
    have h2 := ih (0 * 10 + (c.toNat - 48))
    have h3 : nval (c :: r) = r.foldl (fun n b => n * 10 + (b.toNat - 48)) (0 * 10 + (c.toNat - 48)) := rfl
    rw [List.foldl_cons, h1, h3, h2, List.length_cons, Nat.pow_succ]
    generalize 10 ^ r.length = X
    rw [Nat.zero_mul, Nat.zero_add, Nat.add_mul, Nat.mul_comm X 10, ← Nat.mul_assoc, Nat.add_assoc]
theorem nval_cons (c : UInt8) (r : List UInt8) : nval (c :: r) = (c.toNat - 48) * 10 ^ r.length + nval r := by
  have h := fold_acc r (0 * 10 + (c.toNat - 48))
  have e : nval (c :: r) = r.foldl (fun n b => n * 10 + (b.toNat - 48)) (0 * 10 + (c.toNat - 48)) := rfl
  rw [e, h, Nat.zero_mul, Nat.zero_add]
theorem dig_le {c : UInt8} (h : dig c = true) : 48 ≤ c.toNat ∧ c.toNat ≤ 57 := by simpa [dig, isD] using h
theorem nval_lt : ∀ l : List UInt8, l.all dig = true → nval l < 10 ^ l.length
  | [], _ => by decide
  | c :: r, h => by
    simp only [List.all_cons, Bool.and_eq_true] at h
    have h1 := nval_lt r h.2
    have h2 := dig_le h.1
    rw [nval_cons, List.length_cons, Nat.pow_succ]
    have h3 : (c.toNat - 48) * 10 ^ r.length ≤ 9 * 10 ^ r.length := Nat.mul_le_mul_right _ (by omega)
    omega
theorem lex_nval : ∀ a b : List UInt8, a.length = b.length → a.all dig = true → b.all dig = true → ((Op.bytesLess a b || a == b) = true ↔ nval a ≤ nval b)
  | [], [], _, _, _ => by simp [Op.bytesLess]
  | [], _ :: _, h, _, _ => by simp at h
  | _ :: _, [], h, _, _ => by simp at h
  | c :: r, d :: q, h, ha, hb => by
    simp only [List.all_cons, Bool.and_eq_true] at ha hb
    have hlen : r.length = q.length := by simpa using h
    have ih := lex_nval r q hlen ha.2 hb.2
    have l1 := nval_lt r ha.2
    have l2 := nval_lt q hb.2
    have c1 := dig_le ha.1
    have d1 := dig_le hb.1
    rw [nval_cons, nval_cons, ← hlen]
    rw [← hlen] at l2
    have hlt : (c < d) ↔ c.toNat < d.toNat := UInt8.lt_iff_toNat_lt
    have heq : c = d ↔ c.toNat = d.toNat := UInt8.toNat_inj.symm
    generalize hX : 10 ^ r.length = X at *
    rcases Nat.lt_trichotomy c.toNat d.toNat with h1 | h1 | h1
    · have hm : (c.toNat - 48) * X + X ≤ (d.toNat - 48) * X := by
        have := Nat.mul_le_mul_right X (show c.toNat - 48 + 1 ≤ d.toNat - 48 by omega)
        rwa [Nat.add_mul, Nat.one_mul] at this
      constructor
      · intro _; omega
      · intro _
        simp [Op.bytesLess, hlt.2 h1]
    · have e : c = d := heq.2 h1
      subst e
      have hnlt : ¬ c < c := fun h => by have := hlt.1 h; omega
      have e1 : (Op.bytesLess (c :: r) (c :: q) || (c :: r) == (c :: q)) = (Op.bytesLess r q || r == q) := by
        simp [Op.bytesLess, hnlt]
      rw [e1, ih]
      omega
    · have hm : (d.toNat - 48) * X + X ≤ (c.toNat - 48) * X := by
        have := Nat.mul_le_mul_right X (show d.toNat - 48 + 1 ≤ c.toNat - 48 by omega)
        rwa [Nat.add_mul, Nat.one_mul] at this
      have hne : ¬ c = d := fun h => by have := heq.1 h; omega
      have hnlt : ¬ c < d := fun h => by have := hlt.1 h; omega
      have e1 : (Op.bytesLess (c :: r) (d :: q) || (c :: r) == (d :: q)) = false := by
        simp [Op.bytesLess, hnlt, hne]
      rw [e1]
      constructor
      · intro h2; cases h2
      · intro h2; omega
def maxD : List UInt8 := [49, 56, 52, 52, 54, 55, 52, 52, 48, 55, 51, 55, 48, 57, 53, 53, 49, 54, 49, 53]
def numOk (l : List UInt8) : Bool := !(decide (20 < l.length) || (decide (l.length = 20) && !(Op.bytesLess l maxD || l == maxD)))
theorem maxD_val : nval maxD = 18446744073709551615 := by decide
theorem numOk_20 (l : List UInt8) (h : l.length = 20) (hd : l.all dig = true) : numOk l = true ↔ nval l < 18446744073709551616 := by
  have hx := lex_nval l maxD (by rw [h]; rfl) hd (by decide)
  rw [maxD_val] at hx
  have e : numOk l = (Op.bytesLess l maxD || l == maxD) := by
    unfold numOk; rw [decide_eq_false (by omega), decide_eq_true h]; simp
  rw [e, hx]; omega
theorem pow_19 : (10 : Nat) ^ 19 < 18446744073709551616 := by decide
theorem numOk_low (l : List UInt8) (h : l.length < 20) (hd : l.all dig = true) : numOk l = true ∧ nval l < 18446744073709551616 := by
  refine ⟨by unfold numOk; rw [decide_eq_false (by omega), decide_eq_false (by omega)]; rfl, ?_⟩
  have h1 := nval_lt l hd
  have h2 : 10 ^ l.length ≤ 10 ^ 19 := Nat.pow_le_pow_right (by decide) (by omega)
  have := pow_19
  omega
theorem numOk_lt (l : List UInt8) (hd : l.all dig = true) (h : numOk l = true) : nval l < 18446744073709551616 := by
  rcases Nat.lt_trichotomy l.length 20 with h1 | h1 | h1
  · exact (numOk_low l h1 hd).2
  · exact (numOk_20 l h1 hd).1 h
  · unfold numOk at h; rw [decide_eq_true h1] at h; simp at h
theorem numOk_iff (c : UInt8) (r : List UInt8) (hd : (c :: r).all dig = true) (h0 : ¬ (1 < (c :: r).length ∧ c = 48)) : numOk (c :: r) = true ↔ nval (c :: r) < 18446744073709551616 := by
  rcases Nat.lt_trichotomy (c :: r).length 20 with h1 | h1 | h1
  · have := numOk_low _ h1 hd
    exact ⟨fun _ => this.2, fun _ => this.1⟩
  · exact numOk_20 _ h1 hd
  · refine ⟨numOk_lt _ hd, fun h => ?_⟩
    exfalso
    have hc := dig_le ((List.all_eq_true.1 hd) c (by simp))
    have hne : c.toNat ≠ 48 := fun e => h0 ⟨by omega, UInt8.toNat_inj.1 e⟩
    rw [nval_cons] at h
    have h2 : 10 ^ 20 ≤ 10 ^ r.length := Nat.pow_le_pow_right (by decide) (by simp at h1; omega)
    have h3 : 1 * 10 ^ r.length ≤ (c.toNat - 48) * 10 ^ r.length := Nat.mul_le_mul_right _ (by omega)
    have h4 : (18446744073709551616 : Nat) ≤ 10 ^ 20 := by decide
    omega
theorem nval_snoc (l : List UInt8) (x : UInt8) : nval (l ++ [x]) = nval l * 10 + (x.toNat - 48) := by
  unfold nval; rw [List.foldl_append]; rfl
theorem nval_take_le (l : List UInt8) : ∀ j, nval (l.take j) ≤ nval l := by
  intro j
  have h := fold_acc (l.drop j) (nval (l.take j))
  have e : nval l = (l.drop j).foldl (fun n b => n * 10 + (b.toNat - 48)) (nval (l.take j)) := by
    conv => lhs; rw [← List.take_append_drop j l]
    unfold nval; rw [List.foldl_append]
  rw [e, h]
  have h2 : 1 ≤ 10 ^ (l.drop j).length := Nat.one_le_pow _ _ (by decide)
  have h3 := Nat.mul_le_mul_left (nval (l.take j)) h2
  omega
theorem str_gtr (t : TypeId) (a b : ByteArray) : binOp .gtr t (.string a) (.string b) = pure (.bool !(Op.bytesLess a.toList b.toList || a.toList == b.toList)) := by simp [binOp, Op.stringOp]
set_option maxRecDepth 100000 in
set_option maxHeartbeats 4000000 in
theorem num_any (l : List UInt8) (hl : l.length ≤ 1000) (hd : l.all dig = true) (w : World) : Calls Tryz.prog 44 #[.string (bs l)] w fun e w' => e = .returned (.tuple #[.int .u64 (if numOk l = true then nval l else 0 : Nat), .bool (numOk l)]) ∧ w = w' := by
  have hsz : (bs l).size = l.length := bs_size l
  have hGG : ∀ i (h : i < (bs l).size) (h' : i < l.length), (bs l)[i]'h = l[i]'h' := bs_get l
  have htl : (bs l).toList = l := by rw [ByteArray.toList_eq, bs_toList]
  have hok : numOk l = !(decide (20 < l.length) || (decide (l.length = 20) && !(Op.bytesLess l maxD || l == maxD))) := rfl
  have HLT := Lib.hid (numOk_lt l hd)
  have HD := Lib.hid (List.all_eq_true.1 hd)
  have HLE := Lib.hid (nval_take_le l)
  have HSN := Lib.hid (fun j (hj : j < l.length) => show nval (l.take (j + 1)) = nval (l.take j) * 10 + (l[j].toNat - 48) by rw [take_next l j hj, nval_snoc])
  obtain ⟨ok, hk⟩ : ∃ ok, numOk l = ok := ⟨_, rfl⟩
  rw [hk] at hok HLT ⊢
  obtain ⟨lt, hlt⟩ : ∃ lt, (Op.bytesLess l maxD || l == maxD) = lt := ⟨_, rfl⟩
  rw [hlt] at hok
  obtain ⟨s, hs⟩ : ∃ s, bs l = s := ⟨_, rfl⟩
  rw [hs] at hsz hGG htl ⊢
  have hgt : ∀ wx : World, (binOp .gtr 9 (.string s) (.string ⟨#[49, 56, 52, 52, 54, 55, 52, 52, 48, 55, 51, 55, 48, 57, 53, 53, 49, 54, 49, 53]⟩)).run Tryz.prog wx = .ok (.bool (!lt)) wx := fun wx => by
    rw [str_gtr, htl, show (⟨#[49, 56, 52, 52, 54, 55, 52, 52, 48, 55, 51, 55, 48, 57, 53, 53, 49, 54, 49, 53]⟩ : ByteArray).toList = maxD from by rw [ByteArray.toList_eq]; rfl, hlt]
    rfl
  have HG := Lib.hid hGG
  have HV := Lib.hid (show nval (l.take l.length) = nval l by rw [List.take_length])
  have hml : s.size ≤ maxLen := by show s.size ≤ 9223372036854775807; omega
  have HOK := Lib.hid hok
  clear hs hGG htl hlt hk hok
  have no : ok = false → (20 < l.length ∨ (l.length = 20 ∧ lt = false)) → Calls Tryz.prog 44 #[.string s] w fun e w' => e = .returned (.tuple #[.int .u64 (if ok = true then nval l else 0 : Nat), .bool ok]) ∧ w = w' := by
    intro hf hcase
    subst hf
    rw [if_neg (by decide)]
    clear HOK
    rcases hcase with h | ⟨h, rfl⟩
    · have hi : (20 : Int) < (l.length : Int) := by omega
      go_enter Tryz.func44, Tryz.ntmps44
      go_wp2_with (fail)
      go_ret2
      exact ⟨rfl, rfl⟩
    · have hi : ¬ (20 : Int) < (l.length : Int) := by omega
      have hi2 : ((l.length : Int) == 20) = true := beq_iff_eq.2 (by omega)
      clear h
      go_enter Tryz.func44, Tryz.ntmps44
      go_wp2_with (fail)
      all_goals first | (go_ret2; exact ⟨rfl, rfl⟩) | trace_state
  have yes : ok = true → (l.length < 20 ∨ (l.length = 20 ∧ lt = true)) → Calls Tryz.prog 44 #[.string s] w fun e w' => e = .returned (.tuple #[.int .u64 (if ok = true then nval l else 0 : Nat), .bool ok]) ∧ w = w' := by
    intro hf hcase
    subst hf
    rw [if_pos rfl]
    have hv := HLT.out rfl
    have hi : ¬ (20 : Int) < (l.length : Int) := by rcases hcase with h | ⟨h, _⟩ <;> omega
    have hc2 : ((l.length : Int) == 20) = false ∨ (((l.length : Int) == 20) = true ∧ lt = true) := by
      rcases hcase with h | ⟨h, h2⟩
      · exact .inl (beq_eq_false_iff_ne.2 (by omega))
      · exact .inr ⟨beq_iff_eq.2 (by omega), h2⟩
    clear hcase HOK no HLT
    rcases hc2 with hi2 | ⟨hi2, rfl⟩
    all_goals
      go_enter Tryz.func44, Tryz.ntmps44
      go_wp2_with (fail)
      go_loopw [4, 5] (fun n i wr => ∃ j : Nat, j ≤ l.length ∧ i = .int .i64 j ∧ n = .int .u64 (nval (l.take j) : Nat) ∧ wr = w) (fun _ i _ => l.length - (intOf i).toNat)
      case atStart => exact ⟨0, Nat.zero_le _, rfl, rfl, rfl⟩
      case round =>
        obtain ⟨j, hj, rfl, rfl, rfl⟩ := hrel
        by_cases hlt : j < l.length
        · have hlt2 : j < s.size := by omega
          have hg := HG.out j hlt2 hlt
          have hsn := HSN.out j hlt
          have hle := HLE.out (j + 1)
          have hdx := HD.out (l[j]) (List.getElem_mem hlt)
          obtain ⟨x, hx⟩ : ∃ x, l[j] = x := ⟨_, rfl⟩
          rw [hx] at hg hsn hdx
          have hx2 := dig_le hdx
          obtain ⟨N, hN⟩ : ∃ N, nval (l.take j) = N := ⟨_, rfl⟩
          rw [hN] at hsn
          rw [hN]
          have HS := Lib.hid hsn
          have hb : N * 10 + (x.toNat - 48) < 18446744073709551616 := by omega
          have w1 : IntKind.u64.wrap ((N : Int) * 10) = (N : Int) * 10 := by rw [IntKind.wrap_u64]; omega
          have w2 : IntKind.u8.wrap ((x.toNat : Int) - 48) = (x.toNat : Int) - 48 := by rw [IntKind.wrap_u8]; omega
          have w3 : IntKind.u64.wrap ((x.toNat : Int) - 48) = (x.toNat : Int) - 48 := by rw [IntKind.wrap_u64]; omega
          have w4 : IntKind.u64.wrap ((N : Int) * 10 + ((x.toNat : Int) - 48)) = (N : Int) * 10 + ((x.toNat : Int) - 48) := by rw [IntKind.wrap_u64]; omega
          have HX := Lib.hid (show ((nval (l.take (j + 1)) : Nat) : Int) = (N : Int) * 10 + ((x.toNat : Int) - 48) by rw [hsn]; omega)
          clear hx hN hsn hle hdx
          go_wp2_with (fail)
          go_roundw
          case rel => exact ⟨j + 1, by omega, by go_num, by rw [HX.out], by first | rfl | trivial⟩
          case measure => simp [intOf]; omega
        · obtain rfl : j = l.length := by omega
          go_wp2_with (fail)
          go_ret2
          exact ⟨by rw [← HV.out]; rfl, rfl⟩
  by_cases h1 : 20 < l.length
  · exact no (by rw [HOK.out, decide_eq_true h1]; rfl) (.inl h1)
  · by_cases h2 : l.length = 20
    · cases lt with
      | true => exact yes (by rw [HOK.out, decide_eq_false h1, decide_eq_true h2]; rfl) (.inr ⟨h2, rfl⟩)
      | false => exact no (by rw [HOK.out, decide_eq_false h1, decide_eq_true h2]; rfl) (.inr ⟨h2, rfl⟩)
    · exact yes (by rw [HOK.out, decide_eq_false h1, decide_eq_false h2]; rfl) (.inl (by omega))
end Go.Proofs.YtbejpgoedenpmaaGreatDoor
