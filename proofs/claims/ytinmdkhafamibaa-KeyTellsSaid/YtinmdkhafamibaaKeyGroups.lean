/- The contract of key.Groups: a map from keys to the places of their groups. -/
import Derived.Test.YtinmdkhafamibaaKeyGSt
namespace Go.Proofs.Ytinmdkhafamibaa
open Go.RowKit Go.Maps
set_option linter.unusedVariables false
theorem groups_zero (K : Nat → List UInt8) : fstK K 0 = [] := rfl
set_option maxRecDepth 100000 in
set_option maxHeartbeats 8000000 in
theorem groups_any13 (ao : Option Addr) (len cap : Nat) (K : Nat → List UInt8) (hlen : len ≤ 200) (hK : ∀ i, i < len → (K i).length = 17) (w : World) (H : ∀ i, i < len → KeyAt w ao i (K i)) :
    Calls Try.prog 6 #[.slice ao len cap] w fun e w' => (∃ v, e = .returned v ∧ GrpsAt w' v (grpK K len)) ∧ Below w.heap.size w w' := by
  have HH := Lib.hid (fun i (hi : i < len) wx (hb : Below w.heap.size w wx) => (H i hi).keep hb)
  have HKL := Lib.hid hK
  have hmm := @run_makeMap Try.prog
  obtain ⟨i0, hi0, hz0, hz1, hz2⟩ := info_partsK infoIntK
  obtain ⟨i1, hi1, hy0, hy1, hy2⟩ := info_partsK infoIntsK
  clear H hK
  go_enter Try.func6, Try.ntmps6
  go_wp2
  go_loopw [4, 12] (fun v i wr => ∃ n : Nat, n ≤ len ∧ i = .int .i64 n ∧ Hid (GS K (fstK K n) n w v wr) ∧ Hid (GM K (fstK K n) n w wr)) (fun _ i _ => len - (intOf i).toNat)
  case atStart => exact ⟨0, Nat.zero_le _, rfl, Lib.hid (by rw [groups_zero]; exact GS.nil _ _ _ _ ((Below.refl _ _).alloc (Nat.le_refl _) _)), Lib.hid (by rw [groups_zero]; exact ⟨.map [], World.ownsMap_made _ _ _ _, MapSays.nil K⟩)⟩
  case round =>
    obtain ⟨n, hn, rfl, HG, HM⟩ := hrel
    by_cases hlt : n < len
    · obtain ⟨b, off, rfl, r1⟩ := HH.out n hlt wr HG.out.2
      have hkl := HKL.out n hlt
      have hin1 : (Try.prog.info? 31).map (·.size) = some (Lib.byteCells (K n)).length := by rw [Lib.byteCells_length, hkl]; exact infoKey
      have hki : (Try.prog.info? 31).map (·.size) = some (kc (K n)).size := by rw [kc_size, hkl]; exact infoKey
      have hkey := keyOf_kl hkl
      have HR1 := Lib.hid r1
      have HKI := Lib.hid hki
      have HKY := Lib.hid hkey
      have HI1 := Lib.hid hin1
      clear r1 hki hkey hin1
      go_upto_region 6 with (first
        | (refine wpList_load_mid rfl 31 _ rfl b (off + n * 17) rfl (Lib.byteCells (K n)) _ HR1.out Try.underlying31 rfl HI1.out ?_)
        | (refine wpList_store_rowTo rfl 31 _ _ rfl rfl wr.heap.size (kc (K n)) rfl rfl _ _ (alloc_at wr _) HKI.out (by rw [kc_size, hkl]; rfl) (kc_one _) ?_; rw [World.setRow_alloc_new]))
      obtain ⟨w5, hw5⟩ : ∃ w5, wr.alloc (.cells (kc (K n)) 31) = w5 := ⟨_, rfl⟩
      rw [hw5]
      have HQ5 := Lib.hid (show w5.heap[wr.heap.size]? = some (.cells (kc (K n)) 31 (0, 0)) by rw [← hw5]; exact alloc_at wr _)
      have HB5 := Lib.hid (show Below wr.heap.size wr w5 by rw [← hw5]; exact (Below.refl _ _).alloc (Nat.le_refl _) _)
      have hlt5 := lt_of_block HQ5.out
      have HG5 := Lib.hid (HG.out.keep HB5.out)
      have HM5 := Lib.hid (HM.out.keep HB5.out)
      clear hw5 HG HM HR1 HI1
      obtain ⟨D, hmd, hsays⟩ := HM5.out
      have HMD := Lib.hid hmd
      have HSY := Lib.hid hsays
      clear hmd HM5 hsays
      cases hq : newK K n with
      | false =>
        obtain ⟨q, f, hqf, hff⟩ := fst_old hq
        have HAT := Lib.hid (show D.atKey (kl (K n)) (.agg [.lit (.int .i64 0)]) = .agg [.lit (.int .i64 (q : Nat))] by rw [← hff]; exact HSY.out.get q f hqf _)
        have HHAS := Lib.hid (show Maps.has D (kl (K n)) = true by rw [HSY.out.has _ hkl, fst_any, hq]; rfl)
        have HQF := Lib.hid hqf
        have HFF := Lib.hid hff
        have hfl := fstK_len K n
        have hql := (List.getElem?_eq_some_iff.1 hqf).1
        have HFS := Lib.hid (fstK_succ K n)
        rw [hq, if_neg (by decide), List.append_nil] at HFS
        clear hqf hff hq
        go_upto_region 7 with (first
          | (refine wpList_load_row rfl 31 _ rfl wr.heap.size rfl 31 (kc (K n)) (0, 0) _ HQ5.out Try.underlying31 rfl HKI.out ?_)
          | (at_lookup; refine wpList_lookup_grp rfl _ _ rfl w.heap.size n D rfl HMD.out (.agg (kc (K n))) (kl (K n)) rfl HKY.out ((q : Nat) : Int) true HAT.out HHAS.out ?_))
        obtain ⟨w6, hw6⟩ : ∃ w6, w5.alloc (.cells #[.int .i64 (q : Nat)] 56) = w6 := ⟨_, rfl⟩
        rw [hw6]
        have HC6 := Lib.hid (show w6.heap[w5.heap.size]? = some (.cells #[.int .i64 (q : Nat)] 56 (0, 0)) by rw [← hw6]; exact alloc_at w5 _)
        have HB6 := Lib.hid (show Below w5.heap.size w5 w6 by rw [← hw6]; exact (Below.refl _ _).alloc (Nat.le_refl _) _)
        have HG6 := Lib.hid (HG5.out.keep HB6.out)
        have HM6 := Lib.hid (show GM K (fstK K n) (n + 1) w w6 from GM.more (GM.keep ⟨D, HMD.out, HSY.out⟩ HB6.out))
        clear hw6 HG5 HMD HSY HHAS HAT HQ5 HB5 HB6
        go_upto_region 11 with (fail)
        obtain ⟨F, hFeq⟩ : ∃ F, F = fstK K n := ⟨_, rfl⟩
        have hO : ∀ p f', p ≠ q → F[p]? = some f' → (K n == K f') = false := fun p f' hp hpf => by
          have h1 := fst_apart HQF.out (by rw [← hFeq]; exact hpf) (Ne.symm hp)
          rw [← HFF.out]
          simpa using fun e : K f = K f' => h1 e
        rw [← hFeq] at HG6 HM6 HQF HFS hfl hql
        have HFE := Lib.hid hFeq
        clear hFeq
        obtain ⟨⟨us, hrow, hin, hap⟩, hb6⟩ := HG6.out
        obtain ⟨u, hu, hru⟩ := hin q f HQF.out
        obtain ⟨au, cu, rfl⟩ := own_slice8 hru
        obtain ⟨g, vc, rfl, hgb⟩ : ∃ g vc, u4 = Value.slice (some ⟨g, 0, none⟩) F.length vc ∧ w.heap.size ≤ g := by
          have hpos := (List.getElem?_eq_some_iff.1 HQF.out).1
          rcases hrow.2 with ⟨_, h0⟩ | ⟨g, vc, cur, hv, hb, _⟩
          · omega
          · exact ⟨g, vc, hv, hb⟩
        have hcell : w6.cell? ⟨g, q, none⟩ = some (.slice au (memK K n f).length cu) := by
          have := hrow.cells (g := g) rfl q _ hu
          rwa [add_plain, Nat.zero_add] at this
        have hvu : (Value.slice (some ⟨g, 0, none⟩) F.length vc).ownBlock = some g := rfl
        have hng : ∀ k, (Value.slice au (memK K n f).length cu).ownBlock = some k → k ≠ g := fun k hk e => by
          rcases rows_apart hrow hru (by decide) with h | h
          · rw [h] at hvu; cases hvu
          · exact h (hvu.trans (by rw [hk, e]))
        obtain ⟨rc, rfz, hrb⟩ := row_block hrow hvu
        have hnf : w6.frozen? ⟨g, q, none⟩ = false := row_free hrow q
        have hnc : ∀ k, (Value.slice au (memK K n f).length cu).ownBlock = some k → k ≠ w5.heap.size := fun k hk e => by
          obtain ⟨c, fz, h5⟩ := row_block hru hk
          rw [e, HC6.out] at h5
          cases h5
        have HCL := Lib.hid (show ∀ wx, Only (fun k => (Value.slice au (memK K n f).length cu).ownBlock = some k) w6 wx → wx.cell? ⟨w5.heap.size, 0, none⟩ = some (.int .i64 (q : Nat)) ∧ wx.cell? ⟨g, q, none⟩ = some (.slice au (memK K n f).length cu) ∧ wx.frozen? ⟨g, q, none⟩ = false from fun wx hx => by
          have h1 := hx.same HC6.out (fun e => hnc _ e rfl)
          have h2 := hx.block g (lt_of_block hrb) (fun e => hng _ e rfl)
          exact ⟨cell_at h1 rfl, (World.cell?_of_block h2).trans hcell, (World.frozen?_of_block h2).trans hnf⟩)
        have HPUT := Lib.hid (fun (w2 : World) (u' : Value) (hon : Only (fun k => (Value.slice au (memK K n f).length cu).ownBlock = some k) w6 w2) hu' hnew => GS.put (K := K) (F := F) (n := n) (q := q) (f := f) (w0 := w) (w1 := w6) (w2 := w2) (u' := u') (us := us) rfl hrow hin hap hb6 HQF.out hu (by rw [HFF.out]; simp) hO hon hu' hnew)
        have HMP := Lib.hid (fun (w2 : World) (x : Value) (hon : Only (fun k => (Value.slice au (memK K n f).length cu).ownBlock = some k) w6 w2) => HM6.out.put (q := q) (x := x) hru hrow hvu hon)
        have hll := memK_len K n f
        have hwz := hb6.size
        have HRU := Lib.hid hru
        obtain ⟨l, hl⟩ : ∃ l, memK K n f = l := ⟨_, rfl⟩
        rw [hl] at HRU HCL HPUT HMP hll
        have HLQ := Lib.hid hl
        clear hrow hin hap hb6 hu hru hcell hvu hng hrb hnf hnc hO hl HG6 HM6 HC6
        refine wp_region_deep (by kernel_rfl) 12 10 (fun v => ((Value.slice (some { block := b, off := off }) len cap : Value) :: (undef : Value) :: (Value.slice none 0 0 : Value) :: (Value.map (some w.heap.size) : Value) :: (.slice (some ⟨g, 0, none⟩) F.length vc : Value) :: (Value.int IntKind.i64 ↑n : Value) :: (Value.pointer (some { block := wr.heap.size, off := 0 }) : Value) :: (Value.pointer (some { block := w5.heap.size, off := 0 }) : Value) :: (Value.bool true : Value) :: (Value.map (some w.heap.size) : Value) :: (Value.slice (some { block := b, off := off }) len cap : Value) :: (Value.int IntKind.i64 ↑len : Value) :: (Value.int IntKind.i64 ↑n : Value) :: (Value.bool true : Value) :: (Value.int IntKind.i64 ↑n : Value) :: (Value.pointer (some { block := b, off := off + n * 17 }) : Value) :: (Value.agg (Lib.byteCells (K n)).toArray : Value) :: (Value.tuple #[Value.agg #[Value.int IntKind.i64 ↑q], Value.bool true] : Value) :: (Value.map (some w.heap.size) : Value) :: (Value.agg (kc (K n)) : Value) :: (Value.tuple #[Value.agg #[Value.int IntKind.i64 ↑q], Value.bool true] : Value) :: (Value.agg #[Value.int IntKind.i64 ↑q] : Value) :: (Value.bool true : Value) :: (Value.bool true : Value) :: (Value.bool false : Value) :: (u25 : Value) :: (u26 : Value) :: (u27 : Value) :: (u28 : Value) :: (u29 : Value) :: (u30 : Value) :: (u31 : Value) :: (u32 : Value) :: (u33 : Value) :: v 0 :: v 1 :: v 2 :: v 3 :: v 4 :: v 5 :: v 6 :: v 7 :: v 8 :: v 9 :: v 10 :: v 11 :: u46 :: undef :: []).toArray) (fun j' => [u34, u35, u36, u37, u38, u39, u40, u41, u42, u43, u44, u45].getD j' undef) (OkG (.slice au l.length cu : Value) w.heap.size n l w6.heap.size (fun j' => [(.slice (some ⟨g, 0, none⟩) F.length vc : Value), (.pointer (some ⟨w5.heap.size, 0, none⟩) : Value), (.int .i64 (q : Nat) : Value), (.slice (some ⟨g, 0, none⟩) F.length vc : Value), (.pointer (some ⟨w5.heap.size, 0, none⟩) : Value), (.int .i64 (q : Nat) : Value), (.pointer (some ⟨g, q, none⟩) : Value), (.slice au l.length cu : Value), (.int .i64 (n : Nat) : Value), undef, undef, (.pointer (some ⟨g, q, none⟩) : Value)].getD j' undef)) (fun w' => Only (fun k => ((.slice au l.length cu : Value)).ownBlock = some k) w6 w') (fun w' => w'.ownsRow w.heap.size 3 1 (.slice au l.length cu : Value) l.length (ivs l)) (Nat.le_of_ble_eq_true (by kernel_rfl)) (by kernel_rfl) ((Only.refl _ _).drew) HRU.out (fun i' hi' v w1 hBx hPx hd => ?_) (fun v w1 hv hBx => ?_)
        · obtain ⟨c0, c1, f1⟩ := HCL.out w1 hBx
          have hcs : i' = 0 ∨ i' = 1 ∨ i' = 2 ∨ i' = 3 ∨ i' = 4 ∨ i' = 5 ∨ i' = 6 ∨ i' = 7 ∨ i' = 8 ∨ i' = 9 ∨ i' = 10 ∨ i' = 11 := by omega
          rcases hcs with rfl | rfl | rfl | rfl | rfl | rfl | rfl | rfl | rfl | rfl | rfl | rfl
          · refine wpOp_step (o := _) rfl (fun K' hK => ?_)
            go_simp
            exact hK _ _ ⟨(.slice (some ⟨g, 0, none⟩) F.length vc : Value), rfl, rfl, hBx, fun _ h => h, fun k y _ h => h⟩
          · refine wpOp_step (o := _) rfl (fun K' hK => ?_)
            go_simp
            exact hK _ _ ⟨(.pointer (some ⟨w5.heap.size, 0, none⟩) : Value), rfl, rfl, hBx, fun _ h => h, fun k y _ h => h⟩
          · have e1 : v 1 = (.pointer (some ⟨w5.heap.size, 0, none⟩) : Value) := hd 1 (List.contains_iff_mem.1 (by kernel_rfl))
            refine wpOp_step (o := _) rfl (fun K' hK => ?_)
            go_simp
            exact hK _ _ ⟨(.int .i64 (q : Nat) : Value), fr_eqG (by simp [upd, e1]), rfl, hBx, fun _ h => h, fun k y _ h => h⟩
          · refine wpOp_step (o := _) rfl (fun K' hK => ?_)
            go_simp
            exact hK _ _ ⟨(.slice (some ⟨g, 0, none⟩) F.length vc : Value), rfl, rfl, hBx, fun _ h => h, fun k y _ h => h⟩
          · refine wpOp_step (o := _) rfl (fun K' hK => ?_)
            go_simp
            exact hK _ _ ⟨(.pointer (some ⟨w5.heap.size, 0, none⟩) : Value), rfl, rfl, hBx, fun _ h => h, fun k y _ h => h⟩
          · have e4 : v 4 = (.pointer (some ⟨w5.heap.size, 0, none⟩) : Value) := hd 4 (List.contains_iff_mem.1 (by kernel_rfl))
            refine wpOp_step (o := _) rfl (fun K' hK => ?_)
            go_simp
            exact hK _ _ ⟨(.int .i64 (q : Nat) : Value), fr_eqG (by simp [upd, e4]), rfl, hBx, fun _ h => h, fun k y _ h => h⟩
          · have e3 : v 3 = (.slice (some ⟨g, 0, none⟩) F.length vc : Value) := hd 3 (List.contains_iff_mem.1 (by kernel_rfl))
            have e5 : v 5 = (.int .i64 (q : Nat) : Value) := hd 5 (List.contains_iff_mem.1 (by kernel_rfl))
            refine wpOp_step (o := _) rfl (fun K' hK => ?_)
            go_simp
            exact hK _ _ ⟨(.pointer (some ⟨g, q, none⟩) : Value), fr_eqG (by simp [upd, e3, e5]), rfl, hBx, fun _ h => h, fun k y _ h => h⟩
          · have e6 : v 6 = (.pointer (some ⟨g, q, none⟩) : Value) := hd 6 (List.contains_iff_mem.1 (by kernel_rfl))
            refine wpOp_step (o := _) rfl (fun K' hK => ?_)
            go_simp
            exact hK _ _ ⟨(.slice au l.length cu : Value), fr_eqG (by simp [upd, e6]), rfl, hBx, fun _ h => h, fun k y _ h => h⟩
          · refine wpOp_step (o := _) rfl (fun K' hK => ?_)
            go_simp
            exact hK _ _ ⟨(.int .i64 (n : Nat) : Value), rfl, rfl, hBx, fun _ h => h, fun k y _ h => h⟩
          · have e8 : v 8 = (.int .i64 (n : Nat) : Value) := hd 8 (List.contains_iff_mem.1 (by kernel_rfl))
            refine wpOp_step (o := _) rfl (fun K' hK => ?_)
            go_simp
            exact hK _ _ ⟨.slice (some ⟨w1.heap.size, 0, none⟩) 1 1, fr_eqG (by simp [upd, e8]), (show OkG (.slice au l.length cu : Value) w.heap.size n l w6.heap.size _ 9 _ _ from ⟨_, rfl, alloc_at _ _, hBx.size⟩), hBx.alloc _, fun _ h => h.alloc _, fun k y _ h => h.alloc _⟩
          · have e7 : v 7 = (.slice au l.length cu : Value) := hd 7 (List.contains_iff_mem.1 (by kernel_rfl))
            obtain ⟨p, e9, hp9, hwp⟩ : ∃ p, v 9 = .slice (some ⟨p, 0, none⟩) 1 1 ∧ w1.heap[p]? = some (.cells #[.int .i64 (n : Nat)] 3 (0, 0)) ∧ w6.heap.size ≤ p := hd 9 (List.contains_iff_mem.1 (by kernel_rfl))
            have hpre := hPx rfl
            have hbz := hBx.size
            refine wpOp_step (o := _) rfl (fun K' hK => ?_)
            refine step_append_lies _ (by rfl) (.tmp 41) (.tmp 43) 27 (by rfl) w.heap.size 3 i0 (.int .i64 0) 1 8 Try.underlying27 hi0 hz0 hz1 hz2 (by rfl) (by decide) (.slice au l.length cu : Value) l.length (ivs l) (by exact e7) hpre ⟨p, 0, none⟩ 1 1 [.int .i64 (n : Nat)] (by exact e9) (by rfl) (World.news_of_block hp9) (by intro u hu; simp at hu; subst hu; rfl) (by decide) (by unfold maxLen; omega) (by omega) (by omega) w1.heap.size rfl ?_
            intro g2 cap2 w2 hown2 hgrow hat hlt2
            exact hK _ _ ⟨_, rfl, (show OkG (.slice au l.length cu : Value) w.heap.size n l w6.heap.size _ 10 _ w2 from ⟨hown2, g2, cap2, rfl, hat.imp id (fun e => by omega)⟩), hBx.grown hgrow (fun k hk => .inl hk), fun h => absurd rfl h, fun k y hk h => h.grow hk hgrow (fun x hx => (HRU.out.lt x hx).2)⟩
          · have e0 : v 0 = (.slice (some ⟨g, 0, none⟩) F.length vc : Value) := hd 0 (List.contains_iff_mem.1 (by kernel_rfl))
            have e2 : v 2 = (.int .i64 (q : Nat) : Value) := hd 2 (List.contains_iff_mem.1 (by kernel_rfl))
            refine wpOp_step (o := _) rfl (fun K' hK => ?_)
            go_simp
            exact hK _ _ ⟨(.pointer (some ⟨g, q, none⟩) : Value), fr_eqG (by simp [upd, e0, e2]), rfl, hBx, fun _ h => h, fun k y _ h => h⟩
        · obtain ⟨c0, c1, f1⟩ := HCL.out w1 hBx
          have e0 : v 0 = (.slice (some ⟨g, 0, none⟩) F.length vc : Value) := hv 0 (by decide)
          have e1 : v 1 = (.pointer (some ⟨w5.heap.size, 0, none⟩) : Value) := hv 1 (by decide)
          have e2 : v 2 = (.int .i64 (q : Nat) : Value) := hv 2 (by decide)
          have e3 : v 3 = (.slice (some ⟨g, 0, none⟩) F.length vc : Value) := hv 3 (by decide)
          have e4 : v 4 = (.pointer (some ⟨w5.heap.size, 0, none⟩) : Value) := hv 4 (by decide)
          have e5 : v 5 = (.int .i64 (q : Nat) : Value) := hv 5 (by decide)
          have e6 : v 6 = (.pointer (some ⟨g, q, none⟩) : Value) := hv 6 (by decide)
          have e7 : v 7 = (.slice au l.length cu : Value) := hv 7 (by decide)
          have e8 : v 8 = (.int .i64 (n : Nat) : Value) := hv 8 (by decide)
          have e11 : v 11 = (.pointer (some ⟨g, q, none⟩) : Value) := hv 11 (by decide)
          obtain ⟨p, e9, _, _⟩ : ∃ p, v 9 = .slice (some ⟨p, 0, none⟩) 1 1 ∧ w1.heap[p]? = some (.cells #[.int .i64 (n : Nat)] 3 (0, 0)) ∧ w6.heap.size ≤ p := hv 9 (by decide)
          obtain ⟨h10, g2, cap2, e10, hg2⟩ : w1.ownsRow w.heap.size 3 1 (v 10) (l.length + 1) (ivs l ++ [Value.int .i64 (n : Nat)]) ∧ ∃ g cap, v 10 = .slice (some ⟨g, 0, none⟩) (l.length + 1) cap ∧ (((.slice au l.length cu : Value)).ownBlock = some g ∨ w6.heap.size ≤ g) := hv 10 (by decide)
          rw [e10] at h10
          have HN := Lib.hid (HPUT.out w1 (.slice (some ⟨g2, 0, none⟩) (l.length + 1) cap2) hBx h10 (fun k hk => by have hk' : g2 = k := (by simpa [Value.ownBlock] using hk); subst hk'; exact hg2))
          have HMN := Lib.hid (HMP.out w1 (.slice (some ⟨g2, 0, none⟩) (l.length + 1) cap2) hBx)
          clear hv h10 hg2 hBx
          refine wpAny_of_held (S := fun _ => True) _ _ _ _ ?_
          simp only [e0, e1, e2, e3, e4, e5, e6, e7, e8, e9, e10, e11]
          clear e0 e1 e2 e3 e4 e5 e6 e7 e8 e9 e10 e11
          refine wpAnyH_ready (fuel := 0) (rs := [12]) (by kernel_rfl) (by simp) ?_
          refine AllReadyH.cons (o := _) rfl (fun K hK => ?_) AllReadyH.nil
          go_simp
          refine hK.out _ _ trivial (fun _ => ?_)
          clear hK K
          refine wpAnyH_done (by kernel_rfl) ?_ _
          go_wp2
          go_roundw
          case rel => exact ⟨n + 1, by omega, by go_num, Lib.hid (by rw [HFS.out]; exact HN.out), Lib.hid (by rw [HFS.out]; exact HMN.out)⟩
          case measure => simp [intOf]; omega
      | true =>
        have HHAS := Lib.hid (show Maps.has D (kl (K n)) = false by rw [HSY.out.has _ hkl, fst_any, hq]; rfl)
        have HAT := Lib.hid (show D.atKey (kl (K n)) (.agg [.lit (.int .i64 0)]) = .agg [.lit (.int .i64 0)] from Maps.atKey_of_not_has HHAS.out _)
        have HNW := Lib.hid (fst_new hq)
        have HMM := Lib.hid (memK_new hq)
        have hfl := fstK_len K n
        have HFS := Lib.hid (fstK_succ K n)
        rw [hq, if_pos rfl] at HFS
        have HFL := Lib.hid (fun f (hf : f ∈ fstK K n) => HKL.out f (by have := fst_lt hf; omega))
        have HAP := Lib.hid (fun (p q f f' : Nat) (hp : (fstK K (n + 1))[p]? = some f) (hq : (fstK K (n + 1))[q]? = some f') (hne : p ≠ q) => fst_apart hp hq hne)
        obtain ⟨F0, hF0⟩ : ∃ F0, fstK K n = F0 := ⟨_, rfl⟩
        rw [hF0] at HG5 HSY HNW HFS hfl HFL
        clear hq hF0
        obtain ⟨⟨us, hrow, hin, hap⟩, hb5⟩ := HG5.out
        obtain ⟨av, vc0, rfl⟩ := own_slice8 hrow
        clear hrow hin hap hb5
        go_upto_region 9 with (first
          | (refine wpList_load_row rfl 31 _ rfl wr.heap.size rfl 31 (kc (K n)) (0, 0) _ HQ5.out Try.underlying31 rfl HKI.out ?_)
          | (at_lookup; refine wpList_lookup_grp rfl _ _ rfl w.heap.size n D rfl HMD.out (.agg (kc (K n))) (kl (K n)) rfl HKY.out 0 false HAT.out HHAS.out ?_))
        obtain ⟨w6, hw6⟩ : ∃ w6, w5.alloc (.cells #[.int .i64 (F0.length : Nat)] 56) = w6 := ⟨_, rfl⟩
        rw [hw6]
        have HC6 := Lib.hid (show w6.heap[w5.heap.size]? = some (.cells #[.int .i64 (F0.length : Nat)] 56 (0, 0)) by rw [← hw6]; exact alloc_at w5 _)
        have HB6 := Lib.hid (show Below w5.heap.size w5 w6 by rw [← hw6]; exact (Below.refl _ _).alloc (Nat.le_refl _) _)
        have HQ6 := Lib.hid (box_keep HQ5.out HB6.out)
        have HG6 := Lib.hid (HG5.out.keep HB6.out)
        have HMD6 := Lib.hid (map_keep HMD.out (HB6.out.block _ HMD.out.lt))
        have c06 : w6.cell? ⟨w5.heap.size, 0, none⟩ = some (.int .i64 (F0.length : Nat)) := cell_at HC6.out rfl
        clear hw6 HG5 HMD HHAS HAT HQ5 HB5 HB6
        go_upto_region 10 with (first
          | (refine wpList_load_row rfl 31 _ rfl wr.heap.size rfl 31 (kc (K n)) (0, 0) _ HQ6.out Try.underlying31 rfl HKI.out ?_)
          | (at_mapUpdate; refine wpList_mapUpdate_own _ rfl _ _ _ 54 rfl 31 56 keyedK Try.underlying54 atE w.heap.size n D rfl HMD6.out (by unfold maxLen; omega) (.agg (kc (K n))) _ (kl (K n)) rfl rfl HKY.out _ [] (atE_mk (F0.length : Nat)) ?_; intro w7 hown7 hgrow7))
        have HMD7 := Lib.hid hown7
        have HG7 := Lib.hid (HG6.out.mapped HMD6.out hgrow7 (Nat.le_refl _))
        have HC7 := Lib.hid ((hgrow7.block _ (lt_of_block HC6.out) (fun e => by have e2 := Option.some.inj e; have h1 := HMD6.out; obtain ⟨es, ck, h2, _⟩ := h1; rw [← e2, HC6.out] at h2; cases h2)).trans HC6.out)
        have HM7 := Lib.hid (show GM K (F0 ++ [n]) (n + 1) w w7 from ⟨_, HMD7.out, HSY.out.put hkl HFL.out HNW.out⟩)
        clear hown7 hgrow7 HMD7 HG6 HC6 HMD6 HSY c06
        obtain ⟨⟨us, hrow, hin, hap⟩, hb7⟩ := HG7.out
        have HRW := Lib.hid hrow
        have HIN := Lib.hid hin
        have HAPP := Lib.hid hap
        have HB7 := Lib.hid hb7
        have hwz7 := hb7.size
        clear hrow hin hap hb7
        go_upto_region 11 with (at_builtin; refine wpList_append_at rfl _ _ 24 rfl w.heap.size 27 i1 (.slice none 0 0) 1 24 Try.underlying24 hi1 hy0 hy1 hy2 rfl (by decide) (.slice av F0.length vc0) F0.length us rfl (World.ownsRow.alloc (w := w7) HRW.out _) ⟨_, 0, none⟩ 1 1 [.slice none 0 0] rfl rfl (fun j u hj => by match j, hj with | 0, hj => (simp at hj; subst hj; rw [add_plain]; exact cell_at (alloc_at w7 _) rfl)) (fun u hu => by (simp at hu; subst hu; rfl)) (by unfold maxLen; omega) (by omega) (by simp; omega) ?_; intro v8 w8 hown8 hg8 hf8)
        have HG6 := Lib.hid (GS.add (w1 := w7.alloc (.cells #[.slice none 0 0] 27)) (HRW.out.alloc _) (fun p f hp => (HIN.out p f hp).imp fun u hu => And.intro hu.1 (hu.2.alloc _)) HAPP.out (HB7.out.alloc hwz7 _) HMM.out hown8 hg8)
        have HM6 := Lib.hid (GM.grown (GM.keep HM7.out ((Below.refl _ _).alloc (Nat.le_refl _) (.cells #[.slice none 0 0] 27))) (HRW.out.alloc _) hg8)
        have HC6 := Lib.hid (box_grown (alloc_old (o := .cells #[.slice none 0 0] 27) HC7.out) (HRW.out.alloc _) hg8 (by decide))
        clear hown8 hg8 hf8 HM7 HC7 HG7 HRW HIN HAPP HB7 HNW HFL HMM
        obtain ⟨q, hqq⟩ : ∃ q, F0.length = q := ⟨_, rfl⟩
        obtain ⟨f, hf⟩ : ∃ f, f = n := ⟨_, rfl⟩
        have HFF := Lib.hid (show K f = K n by rw [hf])
        have HQF := Lib.hid (show (F0 ++ [n])[q]? = some f by rw [hf, ← hqq]; simp)
        rw [hqq] at HC6 hfl ⊢
        clear hqq hf
        obtain ⟨F, hFeq⟩ : ∃ F, F = F0 ++ [n] := ⟨_, rfl⟩
        have hO : ∀ p f', p ≠ q → F[p]? = some f' → (K n == K f') = false := fun p f' hp hpf => by
          have h1 := HAP.out q p f f' (by rw [HFS.out]; exact HQF.out) (by rw [HFS.out, ← hFeq]; exact hpf) (Ne.symm hp)
          rw [← HFF.out]
          simpa using fun e : K f = K f' => h1 e
        rw [← hFeq] at HG6 HM6 HQF HFS
        have HFE := Lib.hid hFeq
        clear hFeq
        obtain ⟨⟨us, hrow, hin, hap⟩, hb6⟩ := HG6.out
        obtain ⟨u, hu, hru⟩ := hin q f HQF.out
        obtain ⟨au, cu, rfl⟩ := own_slice8 hru
        obtain ⟨g, vc, rfl, hgb⟩ : ∃ g vc, v8 = Value.slice (some ⟨g, 0, none⟩) F.length vc ∧ w.heap.size ≤ g := by
          have hpos := (List.getElem?_eq_some_iff.1 HQF.out).1
          rcases hrow.2 with ⟨_, h0⟩ | ⟨g, vc, cur, hv, hb, _⟩
          · omega
          · exact ⟨g, vc, hv, hb⟩
        have hcell : w8.cell? ⟨g, q, none⟩ = some (.slice au (memK K n f).length cu) := by
          have := hrow.cells (g := g) rfl q _ hu
          rwa [add_plain, Nat.zero_add] at this
        have hvu : (Value.slice (some ⟨g, 0, none⟩) F.length vc).ownBlock = some g := rfl
        have hng : ∀ k, (Value.slice au (memK K n f).length cu).ownBlock = some k → k ≠ g := fun k hk e => by
          rcases rows_apart hrow hru (by decide) with h | h
          · rw [h] at hvu; cases hvu
          · exact h (hvu.trans (by rw [hk, e]))
        obtain ⟨rc, rfz, hrb⟩ := row_block hrow hvu
        have hnf : w8.frozen? ⟨g, q, none⟩ = false := row_free hrow q
        have hnc : ∀ k, (Value.slice au (memK K n f).length cu).ownBlock = some k → k ≠ w5.heap.size := fun k hk e => by
          obtain ⟨c, fz, h5⟩ := row_block hru hk
          rw [e, HC6.out] at h5
          cases h5
        have HCL := Lib.hid (show ∀ wx, Only (fun k => (Value.slice au (memK K n f).length cu).ownBlock = some k) w8 wx → wx.cell? ⟨w5.heap.size, 0, none⟩ = some (.int .i64 (q : Nat)) ∧ wx.cell? ⟨g, q, none⟩ = some (.slice au (memK K n f).length cu) ∧ wx.frozen? ⟨g, q, none⟩ = false from fun wx hx => by
          have h1 := hx.same HC6.out (fun e => hnc _ e rfl)
          have h2 := hx.block g (lt_of_block hrb) (fun e => hng _ e rfl)
          exact ⟨cell_at h1 rfl, (World.cell?_of_block h2).trans hcell, (World.frozen?_of_block h2).trans hnf⟩)
        have HPUT := Lib.hid (fun (w2 : World) (u' : Value) (hon : Only (fun k => (Value.slice au (memK K n f).length cu).ownBlock = some k) w8 w2) hu' hnew => GS.put (K := K) (F := F) (n := n) (q := q) (f := f) (w0 := w) (w1 := w8) (w2 := w2) (u' := u') (us := us) rfl hrow hin hap hb6 HQF.out hu (by rw [HFF.out]; simp) hO hon hu' hnew)
        have HMP := Lib.hid (fun (w2 : World) (x : Value) (hon : Only (fun k => (Value.slice au (memK K n f).length cu).ownBlock = some k) w8 w2) => HM6.out.put (q := q) (x := x) hru hrow hvu hon)
        have hll := memK_len K n f
        have hqlF := (List.getElem?_eq_some_iff.1 HQF.out).1
        have hwz := hb6.size
        have HRU := Lib.hid hru
        obtain ⟨l, hl⟩ : ∃ l, memK K n f = l := ⟨_, rfl⟩
        rw [hl] at HRU HCL HPUT HMP hll
        have HLQ := Lib.hid hl
        clear hrow hin hap hb6 hu hru hcell hvu hng hrb hnf hnc hO hl HG6 HM6 HC6
        refine wp_region_deep (by kernel_rfl) 12 10 (fun v => ((Value.slice (some { block := b, off := off }) len cap : Value) :: (undef : Value) :: (Value.slice none 0 0 : Value) :: (Value.map (some w.heap.size) : Value) :: (.slice (some ⟨g, 0, none⟩) F.length vc : Value) :: (Value.int IntKind.i64 ↑n : Value) :: (Value.pointer (some { block := wr.heap.size, off := 0 }) : Value) :: (Value.pointer (some { block := w5.heap.size, off := 0 }) : Value) :: (Value.bool false : Value) :: (Value.map (some w.heap.size) : Value) :: (Value.slice (some { block := b, off := off }) len cap : Value) :: (Value.int IntKind.i64 ↑len : Value) :: (Value.int IntKind.i64 ↑n : Value) :: (Value.bool true : Value) :: (Value.int IntKind.i64 ↑n : Value) :: (Value.pointer (some { block := b, off := off + n * 17 }) : Value) :: (Value.agg (Lib.byteCells (K n)).toArray : Value) :: (Value.tuple #[Value.agg #[Value.int IntKind.i64 0], Value.bool false] : Value) :: (Value.map (some w.heap.size) : Value) :: (Value.agg (kc (K n)) : Value) :: (Value.tuple #[Value.agg #[Value.int IntKind.i64 0], Value.bool false] : Value) :: (Value.agg #[Value.int IntKind.i64 0] : Value) :: (Value.bool false : Value) :: (Value.bool false : Value) :: (Value.bool true : Value) :: (Value.slice av q vc0 : Value) :: (Value.int IntKind.i64 ↑q : Value) :: (Value.agg #[Value.int IntKind.i64 ↑q] : Value) :: (Value.map (some w.heap.size) : Value) :: (Value.agg (kc (K n)) : Value) :: (Value.agg #[Value.int IntKind.i64 ↑q] : Value) :: (Value.slice av q vc0 : Value) :: (Value.slice (some { block := w7.heap.size, off := 0 }) 1 1 : Value) :: (.slice (some ⟨g, 0, none⟩) F.length vc : Value) :: v 0 :: v 1 :: v 2 :: v 3 :: v 4 :: v 5 :: v 6 :: v 7 :: v 8 :: v 9 :: v 10 :: v 11 :: u46 :: undef :: []).toArray) (fun j' => [u34, u35, u36, u37, u38, u39, u40, u41, u42, u43, u44, u45].getD j' undef) (OkG (.slice au l.length cu : Value) w.heap.size n l w8.heap.size (fun j' => [(.slice (some ⟨g, 0, none⟩) F.length vc : Value), (.pointer (some ⟨w5.heap.size, 0, none⟩) : Value), (.int .i64 (q : Nat) : Value), (.slice (some ⟨g, 0, none⟩) F.length vc : Value), (.pointer (some ⟨w5.heap.size, 0, none⟩) : Value), (.int .i64 (q : Nat) : Value), (.pointer (some ⟨g, q, none⟩) : Value), (.slice au l.length cu : Value), (.int .i64 (n : Nat) : Value), undef, undef, (.pointer (some ⟨g, q, none⟩) : Value)].getD j' undef)) (fun w' => Only (fun k => ((.slice au l.length cu : Value)).ownBlock = some k) w8 w') (fun w' => w'.ownsRow w.heap.size 3 1 (.slice au l.length cu : Value) l.length (ivs l)) (Nat.le_of_ble_eq_true (by kernel_rfl)) (by kernel_rfl) ((Only.refl _ _).drew) HRU.out (fun i' hi' v w1 hBx hPx hd => ?_) (fun v w1 hv hBx => ?_)
        · obtain ⟨c0, c1, f1⟩ := HCL.out w1 hBx
          have hcs : i' = 0 ∨ i' = 1 ∨ i' = 2 ∨ i' = 3 ∨ i' = 4 ∨ i' = 5 ∨ i' = 6 ∨ i' = 7 ∨ i' = 8 ∨ i' = 9 ∨ i' = 10 ∨ i' = 11 := by omega
          rcases hcs with rfl | rfl | rfl | rfl | rfl | rfl | rfl | rfl | rfl | rfl | rfl | rfl
          · refine wpOp_step (o := _) rfl (fun K' hK => ?_)
            go_simp
            exact hK _ _ ⟨(.slice (some ⟨g, 0, none⟩) F.length vc : Value), rfl, rfl, hBx, fun _ h => h, fun k y _ h => h⟩
          · refine wpOp_step (o := _) rfl (fun K' hK => ?_)
            go_simp
            exact hK _ _ ⟨(.pointer (some ⟨w5.heap.size, 0, none⟩) : Value), rfl, rfl, hBx, fun _ h => h, fun k y _ h => h⟩
          · have e1 : v 1 = (.pointer (some ⟨w5.heap.size, 0, none⟩) : Value) := hd 1 (List.contains_iff_mem.1 (by kernel_rfl))
            refine wpOp_step (o := _) rfl (fun K' hK => ?_)
            go_simp
            exact hK _ _ ⟨(.int .i64 (q : Nat) : Value), fr_eqG (by simp [upd, e1]), rfl, hBx, fun _ h => h, fun k y _ h => h⟩
          · refine wpOp_step (o := _) rfl (fun K' hK => ?_)
            go_simp
            exact hK _ _ ⟨(.slice (some ⟨g, 0, none⟩) F.length vc : Value), rfl, rfl, hBx, fun _ h => h, fun k y _ h => h⟩
          · refine wpOp_step (o := _) rfl (fun K' hK => ?_)
            go_simp
            exact hK _ _ ⟨(.pointer (some ⟨w5.heap.size, 0, none⟩) : Value), rfl, rfl, hBx, fun _ h => h, fun k y _ h => h⟩
          · have e4 : v 4 = (.pointer (some ⟨w5.heap.size, 0, none⟩) : Value) := hd 4 (List.contains_iff_mem.1 (by kernel_rfl))
            refine wpOp_step (o := _) rfl (fun K' hK => ?_)
            go_simp
            exact hK _ _ ⟨(.int .i64 (q : Nat) : Value), fr_eqG (by simp [upd, e4]), rfl, hBx, fun _ h => h, fun k y _ h => h⟩
          · have e3 : v 3 = (.slice (some ⟨g, 0, none⟩) F.length vc : Value) := hd 3 (List.contains_iff_mem.1 (by kernel_rfl))
            have e5 : v 5 = (.int .i64 (q : Nat) : Value) := hd 5 (List.contains_iff_mem.1 (by kernel_rfl))
            refine wpOp_step (o := _) rfl (fun K' hK => ?_)
            go_simp
            exact hK _ _ ⟨(.pointer (some ⟨g, q, none⟩) : Value), fr_eqG (by simp [upd, e3, e5]), rfl, hBx, fun _ h => h, fun k y _ h => h⟩
          · have e6 : v 6 = (.pointer (some ⟨g, q, none⟩) : Value) := hd 6 (List.contains_iff_mem.1 (by kernel_rfl))
            refine wpOp_step (o := _) rfl (fun K' hK => ?_)
            go_simp
            exact hK _ _ ⟨(.slice au l.length cu : Value), fr_eqG (by simp [upd, e6]), rfl, hBx, fun _ h => h, fun k y _ h => h⟩
          · refine wpOp_step (o := _) rfl (fun K' hK => ?_)
            go_simp
            exact hK _ _ ⟨(.int .i64 (n : Nat) : Value), rfl, rfl, hBx, fun _ h => h, fun k y _ h => h⟩
          · have e8 : v 8 = (.int .i64 (n : Nat) : Value) := hd 8 (List.contains_iff_mem.1 (by kernel_rfl))
            refine wpOp_step (o := _) rfl (fun K' hK => ?_)
            go_simp
            exact hK _ _ ⟨.slice (some ⟨w1.heap.size, 0, none⟩) 1 1, fr_eqG (by simp [upd, e8]), (show OkG (.slice au l.length cu : Value) w.heap.size n l w8.heap.size _ 9 _ _ from ⟨_, rfl, alloc_at _ _, hBx.size⟩), hBx.alloc _, fun _ h => h.alloc _, fun k y _ h => h.alloc _⟩
          · have e7 : v 7 = (.slice au l.length cu : Value) := hd 7 (List.contains_iff_mem.1 (by kernel_rfl))
            obtain ⟨p, e9, hp9, hwp⟩ : ∃ p, v 9 = .slice (some ⟨p, 0, none⟩) 1 1 ∧ w1.heap[p]? = some (.cells #[.int .i64 (n : Nat)] 3 (0, 0)) ∧ w8.heap.size ≤ p := hd 9 (List.contains_iff_mem.1 (by kernel_rfl))
            have hpre := hPx rfl
            have hbz := hBx.size
            refine wpOp_step (o := _) rfl (fun K' hK => ?_)
            refine step_append_lies _ (by rfl) (.tmp 41) (.tmp 43) 27 (by rfl) w.heap.size 3 i0 (.int .i64 0) 1 8 Try.underlying27 hi0 hz0 hz1 hz2 (by rfl) (by decide) (.slice au l.length cu : Value) l.length (ivs l) (by exact e7) hpre ⟨p, 0, none⟩ 1 1 [.int .i64 (n : Nat)] (by exact e9) (by rfl) (World.news_of_block hp9) (by intro u hu; simp at hu; subst hu; rfl) (by decide) (by unfold maxLen; omega) (by omega) (by omega) w1.heap.size rfl ?_
            intro g2 cap2 w2 hown2 hgrow hat hlt2
            exact hK _ _ ⟨_, rfl, (show OkG (.slice au l.length cu : Value) w.heap.size n l w8.heap.size _ 10 _ w2 from ⟨hown2, g2, cap2, rfl, hat.imp id (fun e => by omega)⟩), hBx.grown hgrow (fun k hk => .inl hk), fun h => absurd rfl h, fun k y hk h => h.grow hk hgrow (fun x hx => (HRU.out.lt x hx).2)⟩
          · have e0 : v 0 = (.slice (some ⟨g, 0, none⟩) F.length vc : Value) := hd 0 (List.contains_iff_mem.1 (by kernel_rfl))
            have e2 : v 2 = (.int .i64 (q : Nat) : Value) := hd 2 (List.contains_iff_mem.1 (by kernel_rfl))
            refine wpOp_step (o := _) rfl (fun K' hK => ?_)
            go_simp
            exact hK _ _ ⟨(.pointer (some ⟨g, q, none⟩) : Value), fr_eqG (by simp [upd, e0, e2]), rfl, hBx, fun _ h => h, fun k y _ h => h⟩
        · obtain ⟨c0, c1, f1⟩ := HCL.out w1 hBx
          have e0 : v 0 = (.slice (some ⟨g, 0, none⟩) F.length vc : Value) := hv 0 (by decide)
          have e1 : v 1 = (.pointer (some ⟨w5.heap.size, 0, none⟩) : Value) := hv 1 (by decide)
          have e2 : v 2 = (.int .i64 (q : Nat) : Value) := hv 2 (by decide)
          have e3 : v 3 = (.slice (some ⟨g, 0, none⟩) F.length vc : Value) := hv 3 (by decide)
          have e4 : v 4 = (.pointer (some ⟨w5.heap.size, 0, none⟩) : Value) := hv 4 (by decide)
          have e5 : v 5 = (.int .i64 (q : Nat) : Value) := hv 5 (by decide)
          have e6 : v 6 = (.pointer (some ⟨g, q, none⟩) : Value) := hv 6 (by decide)
          have e7 : v 7 = (.slice au l.length cu : Value) := hv 7 (by decide)
          have e8 : v 8 = (.int .i64 (n : Nat) : Value) := hv 8 (by decide)
          have e11 : v 11 = (.pointer (some ⟨g, q, none⟩) : Value) := hv 11 (by decide)
          obtain ⟨p, e9, _, _⟩ : ∃ p, v 9 = .slice (some ⟨p, 0, none⟩) 1 1 ∧ w1.heap[p]? = some (.cells #[.int .i64 (n : Nat)] 3 (0, 0)) ∧ w8.heap.size ≤ p := hv 9 (by decide)
          obtain ⟨h10, g2, cap2, e10, hg2⟩ : w1.ownsRow w.heap.size 3 1 (v 10) (l.length + 1) (ivs l ++ [Value.int .i64 (n : Nat)]) ∧ ∃ g cap, v 10 = .slice (some ⟨g, 0, none⟩) (l.length + 1) cap ∧ (((.slice au l.length cu : Value)).ownBlock = some g ∨ w8.heap.size ≤ g) := hv 10 (by decide)
          rw [e10] at h10
          have HN := Lib.hid (HPUT.out w1 (.slice (some ⟨g2, 0, none⟩) (l.length + 1) cap2) hBx h10 (fun k hk => by have hk' : g2 = k := (by simpa [Value.ownBlock] using hk); subst hk'; exact hg2))
          have HMN := Lib.hid (HMP.out w1 (.slice (some ⟨g2, 0, none⟩) (l.length + 1) cap2) hBx)
          clear hv h10 hg2 hBx
          refine wpAny_of_held (S := fun _ => True) _ _ _ _ ?_
          simp only [e0, e1, e2, e3, e4, e5, e6, e7, e8, e9, e10, e11]
          clear e0 e1 e2 e3 e4 e5 e6 e7 e8 e9 e10 e11
          refine wpAnyH_ready (fuel := 0) (rs := [12]) (by kernel_rfl) (by simp) ?_
          refine AllReadyH.cons (o := _) rfl (fun K hK => ?_) AllReadyH.nil
          go_simp
          refine hK.out _ _ trivial (fun _ => ?_)
          clear hK K
          refine wpAnyH_done (by kernel_rfl) ?_ _
          go_wp2
          go_roundw
          case rel => exact ⟨n + 1, by omega, by go_num, Lib.hid (by rw [HFS.out]; exact HN.out), Lib.hid (by rw [HFS.out]; exact HMN.out)⟩
          case measure => simp [intOf]; omega
    · obtain rfl : n = len := by omega
      have HE := Lib.hid HG.out.grps
      go_wp2
      go_ret
      exact ⟨⟨_, rfl, HE.out⟩, HG.out.2⟩
end Go.Proofs.Ytinmdkhafamibaa
