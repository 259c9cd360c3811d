/- Contracts of package key and of chapter 13's reference on one key: keyOf, Key, Bytes. -/
import Derived.Test.YtinmdkhafamibaaGreatKeyMath
namespace Go.Proofs.YtinmdkhafamibaaGreat
open Go.RowKit
set_option linter.unusedVariables false
/-- a text is copied into a row of the call's own -/
theorem wpList_copy_text {P : Program} {w : World} {ops : Array Oper} {rest : List Oper} {o : Oper} {a : Act} {Q : Exit → Act → World → Prop} (hgd : o.guard = none) (d s : Operand) (dT sT : TypeId)
    (ho : o.op = .call { callee := .builtin .copy, args := #[d, s], argTypes := #[dT, sT] }) (elem : TypeId) (hu : P.underlying dT = some (.slice elem)) (hs : (P.info? elem).map (·.size) = some 1)
    (g off dLen dCap : Nat) (str : ByteArray) (cur : Array Value) (t : TypeId) (hd : a.eval d = .slice (some ⟨g, off, none⟩) dLen dCap) (hss : a.eval s = .string str)
    (hg : w.heap[g]? = some (.cells cur t (0, 0))) (hle : str.size ≤ dLen) (hfit : off + str.size ≤ cur.size)
    (h : ∀ w', w'.heap[g]? = some (.cells (cur.toList.take off ++ Lib.byteCells str.data.toList ++ cur.toList.drop (off + str.size)).toArray t (0, 0)) → (∀ (B : Nat) (w0 : World), Below B w0 w → B ≤ g → Below B w0 w') →
      (∀ k, k ≠ g → w'.heap[k]? = w.heap[k]?) → wpList P ops Q rest (a.put o.dst (goInt str.size)) w') : wpList P ops Q (o :: rest) a w := by
  refine wpList_plain hgd fun K hK => ?_
  have hr := Lib.run_copy_row_string (P := P) w dT sT o.type elem g off dLen dCap str cur t hu hs hg hle hfit
  unfold Oper.wp execOp
  simp only [ho, resolve, invoke, builtin, Sem.run_bind, Sem.run_pure, Result.andThen_ok, List.map_toArray, List.map_cons, List.map_nil, hd, hss, hr]
  exact hK _ _ (h _ (setRow_heap w g _ _ t _ hg) (fun B w0 hb hB => below_setRow hb hB _) (fun k hk => setRow_other w g k _ hk))
/-- the first key of a length: no byte behind it -/
def k0 (n : Nat) : List UInt8 := UInt8.ofNat n :: List.replicate 16 0
theorem k0_len (n : Nat) : (k0 n).length = 17 := by simp [k0]
theorem k0_copy (l : List UInt8) (h : l.length ≤ 16) : ((kc (k0 l.length)).toList.take 1 ++ Lib.byteCells l ++ (kc (k0 l.length)).toList.drop (1 + l.length)).toArray = kc (kb l) := by
  rw [kc_list]
  unfold kc
  congr 1
  unfold kb k0 Lib.byteCells
  rw [List.take_of_length_le h]
  simp only [List.map_cons, List.take_succ_cons, List.take_zero, List.map_append, List.cons_append, List.nil_append, List.cons.injEq, true_and]
  rw [Nat.add_comm 1, List.drop_succ_cons, List.map_replicate, List.map_replicate, List.drop_replicate]
theorem k0_cells (n : Nat) (hn : n ≤ 16) : #[Value.int .u8 (n : Nat), .int .u8 0, .int .u8 0, .int .u8 0, .int .u8 0, .int .u8 0, .int .u8 0, .int .u8 0, .int .u8 0, .int .u8 0, .int .u8 0, .int .u8 0, .int .u8 0, .int .u8 0, .int .u8 0, .int .u8 0, .int .u8 0] = kc (k0 n) := by
  have h8 : (n : Int) = (UInt8.ofNat n).toNat := by rw [UInt8.toNat_ofNat']; omega
  rw [h8]
  rfl
/-- a fresh key's row, and what 'copy' makes of it -/
theorem copy_key (s : ByteArray) (hs : s.size ≤ 16) (w : World) : ∃ w2, (Builtin.copy_ #[62, 9] 3 #[.slice (some ⟨w.heap.size + 1, 1, none⟩) 16 16, .string s]).run Tryz.prog ((w.alloc (.cells #[.int .u8 0, .int .u8 0, .int .u8 0, .int .u8 0, .int .u8 0, .int .u8 0, .int .u8 0, .int .u8 0, .int .u8 0, .int .u8 0, .int .u8 0, .int .u8 0, .int .u8 0, .int .u8 0, .int .u8 0, .int .u8 0, .int .u8 0] 35)).alloc (.cells #[.int .u8 (s.size : Nat), .int .u8 0, .int .u8 0, .int .u8 0, .int .u8 0, .int .u8 0, .int .u8 0, .int .u8 0, .int .u8 0, .int .u8 0, .int .u8 0, .int .u8 0, .int .u8 0, .int .u8 0, .int .u8 0, .int .u8 0, .int .u8 0] 35)) = .ok (goInt s.size) w2 ∧
    w2.heap[w.heap.size + 1]? = some (.cells (kc (kb s.data.toList)) 35 (0, 0)) ∧ w2.heap[w.heap.size]? = some (.cells (kc (List.replicate 17 0)) 35 (0, 0)) ∧ Below w.heap.size w w2 := by
  have hsl : s.data.toList.length = s.size := (Lib.size_eq s).symm
  have HK := k0_copy s.data.toList (by omega)
  rw [hsl] at HK
  rw [k0_cells s.size hs]
  have hg := heap_alloc2_new w (.cells #[.int .u8 0, .int .u8 0, .int .u8 0, .int .u8 0, .int .u8 0, .int .u8 0, .int .u8 0, .int .u8 0, .int .u8 0, .int .u8 0, .int .u8 0, .int .u8 0, .int .u8 0, .int .u8 0, .int .u8 0, .int .u8 0, .int .u8 0] 35) (.cells (kc (k0 s.size)) 35)
  have ho := heap_alloc2_old w (.cells #[.int .u8 0, .int .u8 0, .int .u8 0, .int .u8 0, .int .u8 0, .int .u8 0, .int .u8 0, .int .u8 0, .int .u8 0, .int .u8 0, .int .u8 0, .int .u8 0, .int .u8 0, .int .u8 0, .int .u8 0, .int .u8 0, .int .u8 0] 35) (.cells (kc (k0 s.size)) 35)
  have hr := Lib.run_copy_row_string (P := Tryz.prog) _ 62 9 3 5 (w.heap.size + 1) 1 16 16 s (kc (k0 s.size)) 35 Tryz.underlying62 (by kernel_rfl) hg hs (by rw [kc_size, k0_len]; omega)
  rw [HK] at hr
  refine ⟨_, hr, setRow_heap _ _ _ _ _ _ hg, (setRow_other _ _ _ _ (by omega)).trans ho, ?_⟩
  exact below_setRow (((Below.refl w.heap.size w).alloc (Nat.le_refl _) _).alloc (by simp) _) (by omega) _
set_option maxRecDepth 100000 in
set_option maxHeartbeats 1000000 in
theorem keyOf_any (s : ByteArray) (hs : s.size ≤ 16) (w : World) : Calls Tryz.prog 19 #[.string s] w fun e w' => e = .returned (.agg (kc (kb s.data.toList))) ∧ Below w.heap.size w w' := by
  have hkl := kb_len s.data.toList
  obtain ⟨w2, hcp, hg, h0, hb⟩ := copy_key s hs w
  obtain ⟨kr, hkr⟩ : ∃ K, kb s.data.toList = K := ⟨_, rfl⟩
  rw [hkr] at hg hkl
  rw [hkr]
  have HG := Lib.hid hg
  have HR := Lib.hid h0
  have HB := Lib.hid hb
  clear hkr hg h0 hb
  go_enter Tryz.func19, Tryz.ntmps19
  go_wp2_with (first
    | (refine wpList_load_row rfl 35 _ rfl (w.heap.size + 1) rfl 35 (kc kr) (0, 0) _ HG.out Tryz.underlying35 rfl (by rw [kc_size, hkl]; exact infoKey) ?_)
    | (refine wpList_store_rowTo rfl 35 _ _ rfl rfl w.heap.size (kc kr) rfl rfl _ _ HR.out (by rw [kc_size, hkl]; exact infoKey) (by rw [kc_size, kc_size, hkl]; rfl) (kc_one _) ?_))
  refine bodyPost_ret (v := .agg (kc kr)) ?_ rfl ⟨rfl, below_setRow HB.out (Nat.le_refl _) _⟩
  have hl := run_loadVar_row (P := Tryz.prog) (w2.setRow w.heap.size (kc kr)) w.heap.size 35 35 (kc kr) (0, 0) _ (setRow_heap w2 _ _ _ _ _ HR.out) Tryz.underlying35 rfl (by rw [kc_size, hkl]; exact infoKey)
  simp [results, Tryz.results19, asAddr, Act.put]
  exact hl
/-- the reference's key, so far -/
def kp (l : List UInt8) (k : Nat) : List UInt8 := UInt8.ofNat l.length :: (l.take k ++ List.replicate (16 - k) 0)
theorem kp_len (l : List UInt8) (k : Nat) (hk : k ≤ l.length) (h : l.length ≤ 16) : (kp l k).length = 17 := by simp [kp]; omega
theorem kp_zero (l : List UInt8) : kp l 0 = k0 l.length := rfl
theorem kp_all (l : List UInt8) (h : l.length ≤ 16) : kp l l.length = kb l := by
  unfold kp kb
  rw [List.take_of_length_le h, List.take_of_length_le (Nat.le_refl _)]
theorem kp_next (l : List UInt8) (k : Nat) (hk : k < l.length) (h : l.length ≤ 16) : (kc (kp l k)).setIfInBounds (k + 1) (.int .u8 ((l[k]'hk).toNat : Nat)) = kc (kp l (k + 1)) := by
  have e : kp l (k + 1) = (kp l k).set (k + 1) (l[k]'hk) := by
    unfold kp
    rw [List.set_cons_succ, List.cons.injEq]
    refine ⟨rfl, ?_⟩
    have h1 : (l.take k).length = k := by simp; omega
    rw [List.set_append_right _ _ (by omega), h1, Nat.sub_self, List.take_succ_eq_append_getElem hk, List.append_assoc]
    congr 1
    rw [show 16 - k = (16 - (k + 1)) + 1 by omega, List.replicate_succ]
    rfl
  rw [e]
  apply Array.toList_inj.1
  rw [Array.toList_setIfInBounds, kc_list, kc_list]
  unfold Lib.byteCells
  rw [List.map_set]
theorem byte_at (s : ByteArray) (k : Nat) (hk : k < s.size) : s.data.toList[k]'(by rw [← Lib.size_eq]; exact hk) = s[k]'hk := by simp; rfl
set_option maxRecDepth 100000 in
set_option maxHeartbeats 2000000 in
theorem refKey_any (s : ByteArray) (hs : s.size ≤ 16) (w : World) : Calls Tryz.prog 24 #[.string s] w fun e w' => e = .returned (.agg (kc (kb s.data.toList))) ∧ Below w.heap.size w w' := by
  have hsl : s.data.toList.length = s.size := (Lib.size_eq s).symm
  have HZ := Lib.hid (heap_alloc2_new w (.cells #[.int .u8 0, .int .u8 0, .int .u8 0, .int .u8 0, .int .u8 0, .int .u8 0, .int .u8 0, .int .u8 0, .int .u8 0, .int .u8 0, .int .u8 0, .int .u8 0, .int .u8 0, .int .u8 0, .int .u8 0, .int .u8 0, .int .u8 0] 35) (.cells #[.int .u8 (s.size : Nat), .int .u8 0, .int .u8 0, .int .u8 0, .int .u8 0, .int .u8 0, .int .u8 0, .int .u8 0, .int .u8 0, .int .u8 0, .int .u8 0, .int .u8 0, .int .u8 0, .int .u8 0, .int .u8 0, .int .u8 0, .int .u8 0] 35))
  have HO := Lib.hid (heap_alloc2_old w (.cells #[.int .u8 0, .int .u8 0, .int .u8 0, .int .u8 0, .int .u8 0, .int .u8 0, .int .u8 0, .int .u8 0, .int .u8 0, .int .u8 0, .int .u8 0, .int .u8 0, .int .u8 0, .int .u8 0, .int .u8 0, .int .u8 0, .int .u8 0] 35) (.cells #[.int .u8 (s.size : Nat), .int .u8 0, .int .u8 0, .int .u8 0, .int .u8 0, .int .u8 0, .int .u8 0, .int .u8 0, .int .u8 0, .int .u8 0, .int .u8 0, .int .u8 0, .int .u8 0, .int .u8 0, .int .u8 0, .int .u8 0, .int .u8 0] 35))
  have HB0 := Lib.hid (((Below.refl w.heap.size w).alloc (Nat.le_refl _) (.cells #[.int .u8 0, .int .u8 0, .int .u8 0, .int .u8 0, .int .u8 0, .int .u8 0, .int .u8 0, .int .u8 0, .int .u8 0, .int .u8 0, .int .u8 0, .int .u8 0, .int .u8 0, .int .u8 0, .int .u8 0, .int .u8 0, .int .u8 0] 35)).alloc (by simp) (.cells #[.int .u8 (s.size : Nat), .int .u8 0, .int .u8 0, .int .u8 0, .int .u8 0, .int .u8 0, .int .u8 0, .int .u8 0, .int .u8 0, .int .u8 0, .int .u8 0, .int .u8 0, .int .u8 0, .int .u8 0, .int .u8 0, .int .u8 0, .int .u8 0] 35))
  have HL := Lib.hid hsl
  have HKZ := Lib.hid (show #[Value.int .u8 (s.size : Nat), .int .u8 0, .int .u8 0, .int .u8 0, .int .u8 0, .int .u8 0, .int .u8 0, .int .u8 0, .int .u8 0, .int .u8 0, .int .u8 0, .int .u8 0, .int .u8 0, .int .u8 0, .int .u8 0, .int .u8 0, .int .u8 0] = kc (kp s.data.toList 0) by rw [kp_zero, hsl]; exact k0_cells s.size hs)
  have HKA := Lib.hid (kp_all s.data.toList (by omega))
  have HKN := Lib.hid (fun k (hk : k < s.size) => (by rw [byte_at s k hk] : (kc (kp s.data.toList k)).setIfInBounds (k + 1) (.int .u8 ((s[k]'hk).toNat : Nat)) = (kc (kp s.data.toList k)).setIfInBounds (k + 1) (.int .u8 ((s.data.toList[k]'(by omega)).toNat : Nat))).trans (kp_next s.data.toList k (by omega) (by omega)))
  have HKL := Lib.hid (fun k (hk : k ≤ s.size) => kp_len s.data.toList k (by omega) (by omega))
  have hkl := kb_len s.data.toList
  obtain ⟨kr, hkr⟩ : ∃ K, kb s.data.toList = K := ⟨_, rfl⟩
  obtain ⟨kq, hkq⟩ : ∃ q : Nat → List UInt8, kp s.data.toList = q := ⟨_, rfl⟩
  rw [hkr] at hkl HKA
  rw [hsl] at HKA
  rw [hkq] at HKA HKZ HKN HKL
  rw [hkr]
  clear hsl hkr hkq
  go_enter Tryz.func24, Tryz.ntmps24
  go_wp2
  go_loopw [4] (fun i wr => ∃ k : Nat, k ≤ s.size ∧ i = .int .i64 k ∧ Hid (wr.heap[w.heap.size + 1]? = some (.cells (kc (kq k)) 35 (0, 0))) ∧ Hid (∃ z, wr.heap[w.heap.size]? = some (.cells z 35 (0, 0)) ∧ z.size = 17) ∧ Hid (Below w.heap.size w wr)) (fun i _ => s.size - (intOf i).toNat)
  case atStart => exact ⟨0, Nat.zero_le _, rfl, Lib.hid (HZ.out.trans (by rw [HKZ.out])), Lib.hid ⟨_, HO.out, rfl⟩, HB0⟩
  case round =>
    obtain ⟨k, hk, rfl, HG, HR, HB⟩ := hrel
    clear HZ HO HB0 HKZ
    by_cases hlt : k < s.size
    · have hc16 : decide ((k : Int) < 16) = true := by simp; omega
      have hc16n : decide (k < 16) = true := by simp; omega
      obtain ⟨vo, hvo⟩ : ∃ v, (kc (kq k))[k + 1]? = some v := ⟨_, Array.getElem?_eq_getElem (by rw [kc_size, HKL.out k hk]; omega)⟩
      have c0 : wr.cell? ⟨w.heap.size + 1, k + 1, none⟩ = some vo := cell_at HG.out hvo
      have c1 := free_at (j := k + 1) HG.out
      have HS := Lib.hid ((set_at (u := .int .u8 ((s[k]'hlt).toNat : Nat)) (j := k + 1) HG.out).trans (by rw [HKN.out k hlt]))
      have HR' := Lib.hid (show ∃ z, (wr.setCell ⟨w.heap.size + 1, k + 1, none⟩ (.int .u8 ((s[k]'hlt).toNat : Nat))).heap[w.heap.size]? = some (.cells z 35 (0, 0)) ∧ z.size = 17 by
        obtain ⟨z, hz, hz2⟩ := HR.out
        exact ⟨z, (set_other (by simp)).trans hz, hz2⟩)
      have HB' := Lib.hid (HB.out.setCell (p := ⟨w.heap.size + 1, k + 1, none⟩) (by simp) (.int .u8 ((s[k]'hlt).toNat : Nat)))
      clear hvo
      go_wp2
      go_roundw
      case rel => exact ⟨k + 1, by omega, by go_num, HS, HR', HB'⟩
      case measure => simp [intOf]; omega
    · obtain rfl : k = s.size := by omega
      rw [HKA.out] at HG
      obtain ⟨z, hz, hzs⟩ := HR.out
      have HZ := Lib.hid hz
      clear hz
      go_wp2_with (first
        | (refine wpList_load_row rfl 35 _ rfl (w.heap.size + 1) rfl 35 (kc kr) (0, 0) _ HG.out Tryz.underlying35 rfl (by rw [kc_size, hkl]; exact infoKey) ?_)
        | (refine wpList_store_rowTo rfl 35 _ _ rfl rfl w.heap.size (kc kr) rfl rfl _ _ HZ.out (by rw [kc_size, hkl]; exact infoKey) (by rw [kc_size, hzs, hkl]) (kc_one _) ?_))
      refine bodyPost_ret (v := .agg (kc kr)) ?_ rfl ⟨rfl, below_setRow HB.out (Nat.le_refl _) _⟩
      have hl := run_loadVar_row (P := Tryz.prog) (wr.setRow w.heap.size (kc kr)) w.heap.size 35 35 (kc kr) (0, 0) _ (setRow_heap wr _ _ _ _ _ HZ.out) Tryz.underlying35 rfl (by rw [kc_size, hkl]; exact infoKey)
      simp [results, Tryz.results24, asAddr, Act.put]
      exact hl
end Go.Proofs.YtinmdkhafamibaaGreat
