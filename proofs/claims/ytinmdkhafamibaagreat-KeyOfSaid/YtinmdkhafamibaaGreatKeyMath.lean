/- The keys of chapter 13 in plain words: 17 bytes, what they are as a value, as a map's key, and how two of them are held against each other. -/
import Derived.Test.YtinmdkhafamibaaGreatOwn
import Derived.Test.YtinmdkhafamibaaGreatRdgSlice
import Derived.Lib.BufferWrite
import Derived.DeepKeys4
import Derived.Maps.Keyed
import Derived.Maps.OwnSet
import Derived.Deep.MidRow
import Derived.Deep.WholeRow
import Derived.Great.BuildSlice
import Derived.WalkSmall
import Derived.WalkArith
import Derived.Laws.CopyOwn
namespace Go.Proofs.YtinmdkhafamibaaGreat
open Go.RowKit
set_option linter.unusedVariables false
/-- the key that has these bytes, the first 16 of them -/
def kb (l : List UInt8) : List UInt8 := UInt8.ofNat l.length :: (l.take 16 ++ List.replicate (16 - l.length) 0)
theorem kb_len (l : List UInt8) : (kb l).length = 17 := by simp [kb]; omega
/-- the bytes that a key says it has -/
def kn (K : List UInt8) : Nat := (K.headD 0).toNat
def kt (K : List UInt8) (n : Nat) : List UInt8 := K.tail.take n
/-- is it the key of these bytes -/
def kok (K : List UInt8) : Bool := decide (kn K ≤ 16) && decide (kb (kt K (kn K)) = K)
/-- the cells of a key -/
def kc (K : List UInt8) : Array Value := (Lib.byteCells K).toArray
theorem kc_size (K : List UInt8) : (kc K).size = K.length := by simp [kc, Lib.byteCells_length]
theorem kc_list (K : List UInt8) : (kc K).toList = Lib.byteCells K := by simp [kc]
theorem kc_get (K : List UInt8) (j : Nat) (c : UInt8) (h : K[j]? = some c) : (kc K)[j]? = some (.int .u8 (c.toNat : Nat)) := by
  simp [kc, Lib.byteCells, h]
theorem kc_one (K : List UInt8) : (kc K).all (·.oneCell') = true := by
  rw [Array.all_eq_true_iff_forall_mem]
  intro v hv
  refine Lib.byteCells_one K v ?_
  rw [← kc_list]; simpa using hv
theorem kn_lt (K : List UInt8) : kn K < 256 := UInt8.toNat_lt _
theorem kt_len (K : List UInt8) (h : K.length = 17) (n : Nat) (hn : n ≤ 16) : (kt K n).length = n := by simp [kt]; omega
theorem kb_head (l : List UInt8) (h : l.length ≤ 16) : kn (kb l) = l.length := by
  show (UInt8.ofNat l.length).toNat = _
  rw [UInt8.toNat_ofNat']; omega
/-- a key is of the bytes ahead of place n just if it says n, and is one -/
theorem kok_at (K : List UInt8) (h : K.length = 17) (n : Nat) (hn : n ≤ 16) : kb (kt K n) = K ↔ n = kn K ∧ kok K = true := by
  constructor
  · intro e
    have h1 : kn K = n := by
      have := kb_head (kt K n) (by rw [kt_len K h n hn]; exact hn)
      rw [e, kt_len K h n hn] at this; exact this
    refine ⟨h1.symm, ?_⟩
    unfold kok
    rw [h1, decide_eq_true hn, decide_eq_true e]; rfl
  · rintro ⟨rfl, e⟩
    unfold kok at e
    simp only [Bool.and_eq_true, decide_eq_true_eq] at e
    exact e.2
theorem kb_kok (l : List UInt8) (h : l.length ≤ 16) : kok (kb l) = true ∧ kt (kb l) (kn (kb l)) = l := by
  have h1 := kb_head l h
  have h2 : kt (kb l) l.length = l := by
    unfold kt kb
    simp only [List.tail_cons]
    rw [List.take_of_length_le h, List.take_append_of_le_length (Nat.le_refl _), List.take_of_length_le (Nat.le_refl _)]
  refine ⟨?_, by rw [h1, h2]⟩
  unfold kok
  rw [h1, h2, decide_eq_true h]; simp
theorem kb_inj {a b : List UInt8} (ha : a.length ≤ 16) (hb : b.length ≤ 16) (h : kb a = kb b) : a = b := by
  have h1 := (kb_kok a ha).2
  have h2 := (kb_kok b hb).2
  rw [h, h2] at h1
  exact h1.symm
/-- as a map's key -/
theorem cellsKey : Tryz.prog.cellsOf 35 = 17 := by kernel_rfl
theorem cellsByte : Tryz.prog.cellsOf 5 = 1 := by kernel_rfl
theorem rowKey : (35 : TypeId) < Tryz.prog.types.size := of_decide_eq_true (by kernel_rfl)
theorem wideKey : (match Tryz.prog.underlying 35 with | some (.array _ _) | some (.struct _) => true | _ => false) = true := by kernel_rfl
theorem depKey : Tryz.prog.keyTypeAt 2 35 = true := by kernel_rfl
theorem topKey : Tryz.prog.keyType 35 = true := by kernel_rfl
theorem laidOutK : laidOutB Tryz.prog = true := by kernel_rfl
set_option maxRecDepth 100000 in
theorem keyedK : Maps.Keyed Tryz.prog 35 := Maps.Keyed.of_law (deep_law_laid laidOutK (m := 2) (by omega) rowKey depKey wideKey)
theorem infoKey : (Tryz.prog.info? 35).map (·.size) = some 17 := by kernel_rfl
theorem formedKey {K : List UInt8} (h : K.length = 17) : (Value.agg (kc K)).formed Tryz.prog 35 = true := by
  simp [Value.formed, Tryz.underlying35, cellsKey, kc_size, h]
theorem wfByte (c : UInt8) : (Lit.int .u8 (c.toNat : Nat)).wf = true := by
  have := UInt8.toNat_lt c
  simp [Lit.wf, IntKind.min, IntKind.max, IntKind.signed, IntKind.bits]
  omega
theorem mapM_some {α β : Type} {f : α → Option β} : ∀ (l : List α), (∀ a ∈ l, (f a).isSome = true) → (l.mapM f).isSome = true
  | [], _ => rfl
  | a :: r, h => by
    obtain ⟨b, hb⟩ := Option.isSome_iff_exists.1 (h a (by simp))
    obtain ⟨c, hc⟩ := Option.isSome_iff_exists.1 (mapM_some r (fun x hx => h x (by simp [hx])))
    simp [List.mapM_cons, hb, hc]
theorem keyOf_some {K : List UInt8} (h : K.length = 17) : ∃ l, keyOf Tryz.prog 35 (.agg (kc K)) = some l := by
  have hl : (Tryz.prog.keyLits (Tryz.prog.types.size + 1) 35 (Lib.byteCells K)).isSome = true := by
    obtain ⟨m, hm⟩ : ∃ m, Tryz.prog.types.size = m + 1 := by
      have h0 : 0 < Tryz.prog.types.size := Nat.lt_of_le_of_lt (Nat.zero_le _) rowKey
      exact ⟨Tryz.prog.types.size - 1, by omega⟩
    unfold Program.keyLits
    simp only [Tryz.underlying35]
    rw [if_pos (by rw [cellsKey, Lib.byteCells_length, h])]
    rw [Option.isSome_map]
    refine mapM_some _ (fun i hi => ?_)
    have hi' : i < 17 := by simpa using hi
    rw [cellsByte, Nat.mul_one, hm]
    have hx : ∃ c : UInt8, ((Lib.byteCells K).drop i).take 1 = [.int .u8 (c.toNat : Nat)] := by
      refine ⟨K[i]'(by omega), ?_⟩
      rw [List.drop_eq_getElem_cons (by rw [Lib.byteCells_length]; omega), List.take_succ_cons, List.take_zero]
      simp [Lib.byteCells]
    obtain ⟨c, hc⟩ := hx
    rw [hc]
    unfold Program.keyLits
    simp only [Tryz.underlying5]
    simp [wfByte]
  obtain ⟨L, hL⟩ := Option.isSome_iff_exists.1 hl
  unfold keyOf
  simp only [Tryz.underlying35]
  rw [topKey, formedKey h]
  have : (Value.agg (kc K)).cells.toList = Lib.byteCells K := by simp [Value.cells, kc]
  rw [this, hL]
  exact ⟨_, rfl⟩
noncomputable def kl (K : List UInt8) : Lit := (keyOf Tryz.prog 35 (.agg (kc K))).getD (.bool false)
theorem keyOf_kl {K : List UInt8} (h : K.length = 17) : keyOf Tryz.prog 35 (.agg (kc K)) = some (kl K) := by
  obtain ⟨l, hl⟩ := keyOf_some h
  unfold kl; rw [hl]; rfl
theorem bytes_inj : ∀ {a b : List UInt8}, Lib.byteCells a = Lib.byteCells b → a = b
  | [], [], _ => rfl
  | [], _ :: _, h => by simp [Lib.byteCells] at h
  | _ :: _, [], h => by simp [Lib.byteCells] at h
  | x :: a, y :: b, h => by
    simp only [Lib.byteCells, List.map_cons, List.cons.injEq, Value.int.injEq, true_and] at h
    have h1 : x = y := UInt8.toNat_inj.1 (Int.ofNat_inj.1 h.1)
    rw [h1, bytes_inj (a := a) (b := b) h.2]
theorem kc_inj {a b : List UInt8} (h : kc a = kc b) : a = b := bytes_inj (by rw [← kc_list, ← kc_list, h])
set_option maxRecDepth 100000 in
theorem kl_inj {a b : List UInt8} (ha : a.length = 17) (hb : b.length = 17) (h : kl a = kl b) : a = b := by
  have h1 := keyOf_kl ha
  rw [h] at h1
  have h2 := keyedK.inj h1 (keyOf_kl hb)
  exact kc_inj (Value.agg.inj h2)
set_option maxRecDepth 100000 in
theorem equal_key (w : World) {a b : List UInt8} (ha : a.length = 17) (hb : b.length = 17) : (Op.equal 35 (.agg (kc a)) (.agg (kc b))).run Tryz.prog w = .ok (decide (a = b)) w := by
  obtain ⟨r, hr, hiff⟩ := run_equal_deep (P := Tryz.prog) w (m := 2) (by omega) depKey wideKey (keyOf_kl ha) (keyOf_kl hb)
  rw [hr]
  have : r = decide (a = b) := by
    rw [Bool.eq_iff_iff, hiff, decide_eq_true_eq]
    exact ⟨kl_inj ha hb, fun h => by rw [h]⟩
  rw [this]
theorem eql_key (w : World) {a b : List UInt8} (ha : a.length = 17) (hb : b.length = 17) : (binOp .eql 35 (.agg (kc a)) (.agg (kc b))).run Tryz.prog w = .ok (.bool (decide (a = b))) w := by
  simp [binOp, equal_key w ha hb, Result.andThen]
theorem neq_key (w : World) {a b : List UInt8} (ha : a.length = 17) (hb : b.length = 17) : (binOp .neq 35 (.agg (kc a)) (.agg (kc b))).run Tryz.prog w = .ok (.bool (!decide (a = b))) w := by
  simp [binOp, equal_key w ha hb, Result.andThen]
theorem zeroKc : #[Value.int .u8 0, .int .u8 0, .int .u8 0, .int .u8 0, .int .u8 0, .int .u8 0, .int .u8 0, .int .u8 0, .int .u8 0, .int .u8 0, .int .u8 0, .int .u8 0, .int .u8 0, .int .u8 0, .int .u8 0, .int .u8 0, .int .u8 0] = kc (List.replicate 17 0) := by kernel_rfl
/-- cells that read as bytes are a row of bytes -/
theorem bytes_of : ∀ (c : List Value), (∀ i, i < c.length → ∃ x : UInt8, c[i]? = some (.int .u8 (x.toNat : Nat))) → ∃ K : List UInt8, c = Lib.byteCells K
  | [], _ => ⟨[], rfl⟩
  | v :: r, h => by
    obtain ⟨x, hx⟩ := h 0 (by simp)
    obtain ⟨K, hK⟩ := bytes_of r (fun i hi => by have := h (i + 1) (by simp; omega); simpa using this)
    refine ⟨x :: K, ?_⟩
    simp at hx
    rw [hx, hK]; rfl
section
open Go.ChangeShapes Go.WideShapes Go.ChangeAt
variable {H : Type} {enc : TypeId × Value → H} {w : World}
theorem rdg_key {c : List Value} (h : Rdg enc Tryz.prog w 35 c) : ∃ K : List UInt8, K.length = 17 ∧ c = Lib.byteCells K := by
  have hl := rdg_array_len Tryz.underlying35 h
  rw [cellsKey] at hl
  obtain ⟨K, rfl⟩ := bytes_of c (fun i hi => by
    obtain ⟨n, hn, hwf⟩ := rdg_int Tryz.underlying5 (rdg_elem Tryz.underlying35 h i 1 (by omega) cellsByte)
    have h0 := bounds_u8 hwf
    refine ⟨UInt8.ofNat n.toNat, ?_⟩
    have e : ((UInt8.ofNat n.toNat).toNat : Int) = n := by rw [UInt8.toNat_ofNat']; omega
    rw [e]
    rw [Nat.mul_one, List.drop_eq_getElem_cons hi, List.take_succ_cons, List.take_zero, List.cons.injEq] at hn
    rw [List.getElem?_eq_getElem hi, hn.1])
  exact ⟨K, by rw [Lib.byteCells_length] at hl; exact hl, rfl⟩
end
end Go.Proofs.YtinmdkhafamibaaGreat
