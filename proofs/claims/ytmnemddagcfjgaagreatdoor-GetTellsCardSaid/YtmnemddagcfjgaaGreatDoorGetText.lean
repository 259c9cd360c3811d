/- get: a text. -/
import Derived.Test.YtmnemddagcfjgaaGreatDoorGetRead
namespace Go.Proofs.YtmnemddagcfjgaaGreatDoor
open Go.RowKit
set_option linter.unusedVariables false
set_option maxHeartbeats 1000000 in
theorem rtext_b1 {w0 w : World} {c a : Nat} {b : ByteArray} (ao : Option Addr) (len cap : Nat) (bound : Int) (hb0 : 0 ≤ bound) (hb1 : bound ≤ 64) (h : RdAt w0 c b a w) (hs : b.size ≤ 281474976710656) (h0 : tkE b a 4 ≠ 0) : Calls Tryz.prog 40 #[.agg #[.slice ao len cap, .pointer (some ⟨c, 0, none⟩)], .int .i64 bound] w (BadTo c (xE bound b a) w) := by
  have e : xE bound b a = tkE b a 4 := by unfold xE; rw [if_pos h0]
  rw [e]
  have HT := Lib.hid (fun wx (h' : RdAt w0 c b a wx) => rcount_bad ao len cap (bound + 1) h' hs h0)
  obtain ⟨x, hx⟩ : ∃ x, tkE b a 4 = x := ⟨_, rfl⟩
  rw [hx] at HT ⊢
  have H := Lib.hid h
  have hwb : IntKind.i64.wrap (bound + 1) = bound + 1 := IntWalk.i64_in _ (by omega)
  clear h hx h0 e
  go_enter Tryz.func40, Tryz.ntmps40
  go_wp2_with (go_at_call 42; refine (HT.out _ (H.out.alloc _)).mono ?_; rintro e w1 ⟨rfl, ho⟩)
  exact ⟨rfl, rfl, only_new ho⟩
set_option maxHeartbeats 1000000 in
theorem rtext_b2 {w0 w : World} {c a : Nat} {b : ByteArray} (ao : Option Addr) (len cap : Nat) (bound : Int) (hb0 : 0 ≤ bound) (hb1 : bound ≤ 64) (h : RdAt w0 c b a w) (hs : b.size ≤ 281474976710656) (h0 : tkE b a 4 = 0) (h1 : tkN b a 4 = 0) : Calls Tryz.prog 40 #[.agg #[.slice ao len cap, .pointer (some ⟨c, 0, none⟩)], .int .i64 bound] w (BadTo c (xE bound b a) w) := by
  have e : xE bound b a = 1 := by unfold xE; rw [if_neg (by rw [h0]; decide), if_pos h1]
  rw [e]
  have hc := fun wx (h' : RdAt w0 c b a wx) => rcount_ok ao len cap (bound + 1) (by omega) (by omega) h' hs h0 (by rw [h1]; omega)
  rw [h1] at hc
  have HT := Lib.hid hc
  have H := Lib.hid h
  have hwb : IntKind.i64.wrap (bound + 1) = bound + 1 := IntWalk.i64_in _ (by omega)
  clear h h0 h1 e hc
  go_enter Tryz.func40, Tryz.ntmps40
  go_wp2_with (first
    | (go_at_call 42; refine (HT.out _ (H.out.alloc _)).mono ?_; rintro e w1 ⟨rfl, ho, hr⟩; have HO := Lib.hid ho; clear ho hr)
    | (go_at_call 20; refine (stopIf_bad _ _).mono ?_; rintro e w3 ⟨rfl, rfl⟩))
  exact ⟨rfl, rfl, only_new HO.out⟩
set_option maxHeartbeats 1000000 in
theorem rtext_b3 {w0 w : World} {c a : Nat} {b : ByteArray} (ao : Option Addr) (len cap : Nat) (bound : Int) (hb0 : 0 ≤ bound) (hb1 : bound ≤ 64) (h : RdAt w0 c b a w) (hs : b.size ≤ 281474976710656) (h0 : tkE b a 4 = 0) (h1 : ¬ tkN b a 4 = 0) (h2 : bound + 1 < tkN b a 4) : Calls Tryz.prog 40 #[.agg #[.slice ao len cap, .pointer (some ⟨c, 0, none⟩)], .int .i64 bound] w (BadTo c (xE bound b a) w) := by
  have e : xE bound b a = 3 := by unfold xE; rw [if_neg (by rw [h0]; decide), if_neg h1, if_pos h2]
  rw [e]
  have HT := Lib.hid (fun wx (h' : RdAt w0 c b a wx) => rcount_long ao len cap (bound + 1) (by omega) (by omega) h' hs h0 h2)
  have H := Lib.hid h
  have hwb : IntKind.i64.wrap (bound + 1) = bound + 1 := IntWalk.i64_in _ (by omega)
  clear h h0 h1 h2 e
  go_enter Tryz.func40, Tryz.ntmps40
  go_wp2_with (go_at_call 42; refine (HT.out _ (H.out.alloc _)).mono ?_; rintro e w1 ⟨rfl, ho⟩)
  exact ⟨rfl, rfl, only_new ho⟩
/-- so many bytes there are to be -/
theorem text_len_of {b : ByteArray} {a : Nat} (ha : a ≤ b.size) (h0 : tkE b a 4 = 0) (h1 : ¬ tkN b a 4 = 0) : ∃ m : Nat, tkN b a 4 = (m : Nat) + 1 := by
  have := (tkN_range ha h0).1
  exact ⟨(tkN b a 4 - 1).toNat, by omega⟩
set_option maxHeartbeats 1000000 in
theorem rtext_b4 {w0 w : World} {c a : Nat} {b : ByteArray} (ao : Option Addr) (len cap : Nat) (bound : Int) (hb0 : 0 ≤ bound) (hb1 : bound ≤ 64) (h : RdAt w0 c b a w) (hs : b.size ≤ 281474976710656) (h0 : tkE b a 4 = 0) (h1 : ¬ tkN b a 4 = 0) (h2 : ¬ bound + 1 < tkN b a 4) (h3 : txE b (tkA b a 4) (tkN b a 4) ≠ 0) : Calls Tryz.prog 40 #[.agg #[.slice ao len cap, .pointer (some ⟨c, 0, none⟩)], .int .i64 bound] w (BadTo c (xE bound b a) w) := by
  have e : xE bound b a = txE b (tkA b a 4) (tkN b a 4) := by unfold xE; rw [if_neg (by rw [h0]; decide), if_neg h1, if_neg h2, if_pos h3]
  rw [e]
  have hc := fun wx (h' : RdAt w0 c b a wx) => rcount_ok ao len cap (bound + 1) (by omega) (by omega) h' hs h0 h2
  obtain ⟨m, hm⟩ := text_len_of h.le h0 h1
  have hy := fun wx (h' : RdAt w0 c b (tkA b a 4) wx) => rbytes_bad ao len cap (tkN b a 4) h' hs (by rw [hm]; exact WalkArith.wf_i64 (by omega)) h3
  obtain ⟨x, hx⟩ : ∃ x, txE b (tkA b a 4) (tkN b a 4) = x := ⟨_, rfl⟩
  rw [hx] at hy ⊢
  rw [hm] at hc hy h2
  have HT := Lib.hid hc
  have HY := Lib.hid hy
  have H := Lib.hid h
  have hq : ((m : Int) + 1 == 0) = false := by simp; omega
  have hwb : IntKind.i64.wrap (bound + 1) = bound + 1 := IntWalk.i64_in _ (by omega)
  clear h h0 h1 e hc hy h3 hm hx
  go_enter Tryz.func40, Tryz.ntmps40
  go_wp2_with (first
    | (go_at_call 42; refine (HT.out _ (H.out.alloc _)).mono ?_; rintro e w1 ⟨rfl, ho, hr⟩; have HO := Lib.hid ho; have HR := Lib.hid hr; have d0 := cell_at (j := 0) (only_at (alloc_at w _) H.out.ne ho) rfl; have d1 := cell_at (j := 1) (only_at (alloc_at w _) H.out.ne ho) rfl; clear ho hr)
    | (go_at_call 20; refine (stopIf_ok _ _).mono ?_; rintro e w3 ⟨rfl, rfl⟩)
    | (go_at_call 68; refine (HY.out _ HR.out).mono ?_; rintro e w4 ⟨rfl, ho2⟩))
  exact ⟨rfl, rfl, only_two (only_new HO.out) ho2⟩
/-- the texts of at least one byte -/
theorem text_got_of {b : ByteArray} {a m : Nat} (hm : tkN b a 4 = (m : Nat) + 1) (h3 : txE b (tkA b a 4) (tkN b a 4) = 0) : (xR b a).size = m + 1 ∧ xS b a = (xR b a).extract 0 m := by
  have e : xR b a = b.extract (tkA b a 4) (tkA b a 4 + (m + 1)) := by
    unfold xR txS
    rw [if_pos h3, hm]
    rfl
  have hl : tkA b a 4 + (m + 1) ≤ b.size := by
    rw [hm] at h3
    unfold txE at h3
    split at h3
    · cases h3
    · split at h3
      · cases h3
      · omega
  have hz : (xR b a).size = m + 1 := by rw [e, ByteArray.size_extract]; omega
  refine ⟨hz, ?_⟩
  unfold xS
  rw [hz, Nat.add_sub_cancel]
set_option maxHeartbeats 2000000 in
theorem rtext_b5 {w0 w : World} {c a : Nat} {b : ByteArray} (ao : Option Addr) (len cap : Nat) (bound : Int) (hb0 : 0 ≤ bound) (hb1 : bound ≤ 64) (h : RdAt w0 c b a w) (hs : b.size ≤ 281474976710656) (h0 : tkE b a 4 = 0) (h1 : ¬ tkN b a 4 = 0) (h2 : ¬ bound + 1 < tkN b a 4) (h3 : txE b (tkA b a 4) (tkN b a 4) = 0) (h4 : zeroIn (xS b a) = true) (h5 : byteAt (xR b a) ((xR b a).size - 1) = byteAt (xR b a) ((xR b a).size - 1)) : Calls Tryz.prog 40 #[.agg #[.slice ao len cap, .pointer (some ⟨c, 0, none⟩)], .int .i64 bound] w (BadTo c (xE bound b a) w) := by
  have e : xE bound b a = 10 := by unfold xE; rw [if_neg (by rw [h0]; decide), if_neg h1, if_neg h2, if_neg (by rw [h3]; decide), if_pos h4]
  rw [e]
  clear e
  have hc := fun wx (h' : RdAt w0 c b a wx) => rcount_ok ao len cap (bound + 1) (by omega) (by omega) h' hs h0 h2
  obtain ⟨m, hm⟩ := text_len_of h.le h0 h1
  obtain ⟨hsz, hxs⟩ := text_got_of hm h3
  have hy := fun wx (h' : RdAt w0 c b (tkA b a 4) wx) => rbytes_ok ao len cap (tkN b a 4) h' hs (by rw [hm]; exact WalkArith.wf_i64 (by omega)) h3
  have er : txS b (tkA b a 4) (tkN b a 4) = xR b a := rfl
  have ea : txA b (tkA b a 4) (tkN b a 4) = xA b a := rfl
  rw [er, ea] at hy
  have hlb : byteAt (xR b a) ((xR b a).size - 1) = byteAt (xR b a) m := by rw [hsz, Nat.add_sub_cancel]
  rw [hlb] at h5
  rw [hxs] at h4
  obtain ⟨s, hss⟩ : ∃ s, xR b a = s := ⟨_, rfl⟩
  obtain ⟨ax, hax⟩ : ∃ ax, xA b a = ax := ⟨_, rfl⟩
  rw [hss, hax] at hy
  rw [hss] at hsz h4 h5 hlb
  rw [hm] at hc hy h2
  have HT := Lib.hid hc
  have HY := Lib.hid hy
  have H := Lib.hid h
  have hq : ((m : Int) + 1 == 0) = false := by simp; omega
  have hsl : ∀ wx, (Instr.slice 9 (.string s) none (some (.int .i64 (m : Nat))) none).run Tryz.prog wx = .ok (.string (s.extract 0 m)) wx := fun wx => run_slice_string_h wx 9 s Tryz.underlying9 .i64 (m : Nat) (by omega) (by omega)
  have HI := Lib.hid (fun w => str_IndexByte (s.extract 0 m) w)
  unfold zeroIn at h4
  obtain ⟨z, hz⟩ : ∃ z, Lib.indexByte (s.extract 0 m).data.toList 0 = z := ⟨_, rfl⟩
  rw [hz] at HI h4
  have hwb : IntKind.i64.wrap (bound + 1) = bound + 1 := IntWalk.i64_in _ (by omega)
  have hd : decide (0 ≤ z) = true := by simpa using h4
  clear h4 h5
  clear h h0 h1 hc hy h3 hm hss hax hxs er ea hz hlb
  go_enter Tryz.func40, Tryz.ntmps40
  go_wp2_with (first
    | (go_at_call 42; refine (HT.out _ (H.out.alloc _)).mono ?_; rintro e w1 ⟨rfl, ho, hr⟩; have HO := Lib.hid ho; have HR := Lib.hid hr; have d0 := cell_at (j := 0) (only_at (alloc_at w _) H.out.ne ho) rfl; have d1 := cell_at (j := 1) (only_at (alloc_at w _) H.out.ne ho) rfl; clear ho hr)
    | (go_at_call 68; refine (HY.out _ HR.out).mono ?_; rintro e w4 ⟨rfl, ho2, hr2⟩; have HO2 := Lib.hid ho2; have HR2 := Lib.hid hr2; clear ho2 hr2)
    | (go_at_call 69; refine (HI.out _).mono ?_; rintro e w' ⟨rfl, rfl⟩)
    | (go_at_call 20; first | ((with_reducible refine (stopIf_ok _ _).mono ?_); rintro e w3 ⟨rfl, rfl⟩) | (refine (stopIf_bad _ _).mono ?_; rintro e w3 ⟨rfl, rfl⟩)))
  exact ⟨rfl, rfl, only_two (only_new HO.out) HO2.out⟩
set_option maxHeartbeats 2000000 in
theorem rtext_b6 {w0 w : World} {c a : Nat} {b : ByteArray} (ao : Option Addr) (len cap : Nat) (bound : Int) (hb0 : 0 ≤ bound) (hb1 : bound ≤ 64) (h : RdAt w0 c b a w) (hs : b.size ≤ 281474976710656) (h0 : tkE b a 4 = 0) (h1 : ¬ tkN b a 4 = 0) (h2 : ¬ bound + 1 < tkN b a 4) (h3 : txE b (tkA b a 4) (tkN b a 4) = 0) (h4 : zeroIn (xS b a) = false) (h5 : byteAt (xR b a) ((xR b a).size - 1) ≠ 0) : Calls Tryz.prog 40 #[.agg #[.slice ao len cap, .pointer (some ⟨c, 0, none⟩)], .int .i64 bound] w (BadTo c (xE bound b a) w) := by
  have e : xE bound b a = 1 := by unfold xE; rw [if_neg (by rw [h0]; decide), if_neg h1, if_neg h2, if_neg (by rw [h3]; decide), if_neg (by rw [h4]; decide), if_pos h5]
  rw [e]
  clear e
  have hc := fun wx (h' : RdAt w0 c b a wx) => rcount_ok ao len cap (bound + 1) (by omega) (by omega) h' hs h0 h2
  obtain ⟨m, hm⟩ := text_len_of h.le h0 h1
  obtain ⟨hsz, hxs⟩ := text_got_of hm h3
  have hy := fun wx (h' : RdAt w0 c b (tkA b a 4) wx) => rbytes_ok ao len cap (tkN b a 4) h' hs (by rw [hm]; exact WalkArith.wf_i64 (by omega)) h3
  have er : txS b (tkA b a 4) (tkN b a 4) = xR b a := rfl
  have ea : txA b (tkA b a 4) (tkN b a 4) = xA b a := rfl
  rw [er, ea] at hy
  have hlb : byteAt (xR b a) ((xR b a).size - 1) = byteAt (xR b a) m := by rw [hsz, Nat.add_sub_cancel]
  rw [hlb] at h5
  rw [hxs] at h4
  obtain ⟨s, hss⟩ : ∃ s, xR b a = s := ⟨_, rfl⟩
  obtain ⟨ax, hax⟩ : ∃ ax, xA b a = ax := ⟨_, rfl⟩
  rw [hss, hax] at hy
  rw [hss] at hsz h4 h5 hlb
  rw [hm] at hc hy h2
  have HT := Lib.hid hc
  have HY := Lib.hid hy
  have H := Lib.hid h
  have hq : ((m : Int) + 1 == 0) = false := by simp; omega
  have hsl : ∀ wx, (Instr.slice 9 (.string s) none (some (.int .i64 (m : Nat))) none).run Tryz.prog wx = .ok (.string (s.extract 0 m)) wx := fun wx => run_slice_string_h wx 9 s Tryz.underlying9 .i64 (m : Nat) (by omega) (by omega)
  have HI := Lib.hid (fun w => str_IndexByte (s.extract 0 m) w)
  unfold zeroIn at h4
  obtain ⟨z, hz⟩ : ∃ z, Lib.indexByte (s.extract 0 m).data.toList 0 = z := ⟨_, rfl⟩
  rw [hz] at HI h4
  have hwb : IntKind.i64.wrap (bound + 1) = bound + 1 := IntWalk.i64_in _ (by omega)
  have hd : decide (0 ≤ z) = false := by simpa using h4
  have hlm : m < s.size := by omega
  have hbb : (((s[m].toNat : Nat) : Int) != 0) = true := by rw [byteAt_get s _ hlm]; simpa using h5
  clear h4 h5
  clear h h0 h1 hc hy h3 hm hss hax hxs er ea hz hlb
  go_enter Tryz.func40, Tryz.ntmps40
  go_wp2_with (first
    | (go_at_call 42; refine (HT.out _ (H.out.alloc _)).mono ?_; rintro e w1 ⟨rfl, ho, hr⟩; have HO := Lib.hid ho; have HR := Lib.hid hr; have d0 := cell_at (j := 0) (only_at (alloc_at w _) H.out.ne ho) rfl; have d1 := cell_at (j := 1) (only_at (alloc_at w _) H.out.ne ho) rfl; clear ho hr)
    | (go_at_call 68; refine (HY.out _ HR.out).mono ?_; rintro e w4 ⟨rfl, ho2, hr2⟩; have HO2 := Lib.hid ho2; have HR2 := Lib.hid hr2; clear ho2 hr2)
    | (go_at_call 69; refine (HI.out _).mono ?_; rintro e w' ⟨rfl, rfl⟩)
    | (go_at_call 20; first | ((with_reducible refine (stopIf_ok _ _).mono ?_); rintro e w3 ⟨rfl, rfl⟩) | (refine (stopIf_bad _ _).mono ?_; rintro e w3 ⟨rfl, rfl⟩)))
  exact ⟨rfl, rfl, only_two (only_new HO.out) HO2.out⟩
set_option maxHeartbeats 2000000 in
theorem rtext_b7 {w0 w : World} {c a : Nat} {b : ByteArray} (ao : Option Addr) (len cap : Nat) (bound : Int) (hb0 : 0 ≤ bound) (hb1 : bound ≤ 64) (h : RdAt w0 c b a w) (hs : b.size ≤ 281474976710656) (h0 : tkE b a 4 = 0) (h1 : ¬ tkN b a 4 = 0) (h2 : ¬ bound + 1 < tkN b a 4) (h3 : txE b (tkA b a 4) (tkN b a 4) = 0) (h4 : zeroIn (xS b a) = false) (h5 : byteAt (xR b a) ((xR b a).size - 1) = 0) : Calls Tryz.prog 40 #[.agg #[.slice ao len cap, .pointer (some ⟨c, 0, none⟩)], .int .i64 bound] w (GotTo w0 c b (xA b a) (.string (xS b a)) w) := by
  have hc := fun wx (h' : RdAt w0 c b a wx) => rcount_ok ao len cap (bound + 1) (by omega) (by omega) h' hs h0 h2
  obtain ⟨m, hm⟩ := text_len_of h.le h0 h1
  obtain ⟨hsz, hxs⟩ := text_got_of hm h3
  have hy := fun wx (h' : RdAt w0 c b (tkA b a 4) wx) => rbytes_ok ao len cap (tkN b a 4) h' hs (by rw [hm]; exact WalkArith.wf_i64 (by omega)) h3
  have er : txS b (tkA b a 4) (tkN b a 4) = xR b a := rfl
  have ea : txA b (tkA b a 4) (tkN b a 4) = xA b a := rfl
  rw [er, ea] at hy
  have hlb : byteAt (xR b a) ((xR b a).size - 1) = byteAt (xR b a) m := by rw [hsz, Nat.add_sub_cancel]
  rw [hlb] at h5
  rw [hxs] at h4 ⊢
  obtain ⟨s, hss⟩ : ∃ s, xR b a = s := ⟨_, rfl⟩
  obtain ⟨ax, hax⟩ : ∃ ax, xA b a = ax := ⟨_, rfl⟩
  rw [hss, hax] at hy
  rw [hax]
  rw [hss] at hsz h4 h5 hlb ⊢
  rw [hm] at hc hy h2
  have HT := Lib.hid hc
  have HY := Lib.hid hy
  have H := Lib.hid h
  have hq : ((m : Int) + 1 == 0) = false := by simp; omega
  have hsl : ∀ wx, (Instr.slice 9 (.string s) none (some (.int .i64 (m : Nat))) none).run Tryz.prog wx = .ok (.string (s.extract 0 m)) wx := fun wx => run_slice_string_h wx 9 s Tryz.underlying9 .i64 (m : Nat) (by omega) (by omega)
  have HI := Lib.hid (fun w => str_IndexByte (s.extract 0 m) w)
  unfold zeroIn at h4
  obtain ⟨z, hz⟩ : ∃ z, Lib.indexByte (s.extract 0 m).data.toList 0 = z := ⟨_, rfl⟩
  rw [hz] at HI h4
  have hwb : IntKind.i64.wrap (bound + 1) = bound + 1 := IntWalk.i64_in _ (by omega)
  have hd : decide (0 ≤ z) = false := by simpa using h4
  have hlm : m < s.size := by omega
  have hbb : (((s[m].toNat : Nat) : Int) != 0) = false := by rw [byteAt_get s _ hlm]; simpa using h5
  clear h4 h5
  clear h h0 h1 hc hy h3 hm hss hax hxs er ea hz hlb
  go_enter Tryz.func40, Tryz.ntmps40
  go_wp2_with (first
    | (go_at_call 42; refine (HT.out _ (H.out.alloc _)).mono ?_; rintro e w1 ⟨rfl, ho, hr⟩; have HO := Lib.hid ho; have HR := Lib.hid hr; have d0 := cell_at (j := 0) (only_at (alloc_at w _) H.out.ne ho) rfl; have d1 := cell_at (j := 1) (only_at (alloc_at w _) H.out.ne ho) rfl; clear ho hr)
    | (go_at_call 68; refine (HY.out _ HR.out).mono ?_; rintro e w4 ⟨rfl, ho2, hr2⟩; have HO2 := Lib.hid ho2; have HR2 := Lib.hid hr2; clear ho2 hr2)
    | (go_at_call 69; refine (HI.out _).mono ?_; rintro e w' ⟨rfl, rfl⟩)
    | (go_at_call 20; refine (stopIf_ok _ _).mono ?_; rintro e w3 ⟨rfl, rfl⟩))
  go_ret
  exact ⟨rfl, only_two (only_new HO.out) HO2.out, HR2.out⟩
theorem rtext_bad {w0 w : World} {c a : Nat} {b : ByteArray} (ao : Option Addr) (len cap : Nat) (bound : Int) (hb0 : 0 ≤ bound) (hb1 : bound ≤ 64) (h : RdAt w0 c b a w) (hs : b.size ≤ 281474976710656) (h0 : xE bound b a ≠ 0) : Calls Tryz.prog 40 #[.agg #[.slice ao len cap, .pointer (some ⟨c, 0, none⟩)], .int .i64 bound] w (BadTo c (xE bound b a) w) := by
  by_cases c0 : tkE b a 4 = 0
  · by_cases c1 : tkN b a 4 = 0
    · exact rtext_b2 ao len cap bound hb0 hb1 h hs c0 c1
    · by_cases c2 : bound + 1 < tkN b a 4
      · exact rtext_b3 ao len cap bound hb0 hb1 h hs c0 c1 c2
      · by_cases c3 : txE b (tkA b a 4) (tkN b a 4) = 0
        · cases c4 : zeroIn (xS b a) with
          | true => exact rtext_b5 ao len cap bound hb0 hb1 h hs c0 c1 c2 c3 c4 rfl
          | false =>
            by_cases c5 : byteAt (xR b a) ((xR b a).size - 1) = 0
            · exfalso
              apply h0
              unfold xE
              rw [if_neg (by rw [c0]; decide), if_neg c1, if_neg c2, if_neg (by rw [c3]; decide), if_neg (by rw [c4]; decide), if_neg (by rw [c5]; decide)]
            · exact rtext_b6 ao len cap bound hb0 hb1 h hs c0 c1 c2 c3 c4 c5
        · exact rtext_b4 ao len cap bound hb0 hb1 h hs c0 c1 c2 c3
  · exact rtext_b1 ao len cap bound hb0 hb1 h hs c0
theorem x_zero {bound : Int} {b : ByteArray} {a : Nat} (h : xE bound b a = 0) : tkE b a 4 = 0 ∧ ¬ tkN b a 4 = 0 ∧ ¬ bound + 1 < tkN b a 4 ∧ txE b (tkA b a 4) (tkN b a 4) = 0 ∧ zeroIn (xS b a) = false ∧ byteAt (xR b a) ((xR b a).size - 1) = 0 := by
  unfold xE at h
  split at h
  · rename_i c; exact absurd h c
  rename_i c0
  split at h
  · cases h
  rename_i c1
  split at h
  · cases h
  rename_i c2
  split at h
  · rename_i c; exact absurd h c
  rename_i c3
  split at h
  · cases h
  rename_i c4
  split at h
  · cases h
  rename_i c5
  exact ⟨by simpa using c0, c1, c2, by simpa using c3, by simpa using c4, by simpa using c5⟩
theorem rtext_ok {w0 w : World} {c a : Nat} {b : ByteArray} (ao : Option Addr) (len cap : Nat) (bound : Int) (hb0 : 0 ≤ bound) (hb1 : bound ≤ 64) (h : RdAt w0 c b a w) (hs : b.size ≤ 281474976710656) (h0 : xE bound b a = 0) : Calls Tryz.prog 40 #[.agg #[.slice ao len cap, .pointer (some ⟨c, 0, none⟩)], .int .i64 bound] w (GotTo w0 c b (xA b a) (.string (xS b a)) w) := by
  obtain ⟨c0, c1, c2, c3, c4, c5⟩ := x_zero h0
  exact rtext_b7 ao len cap bound hb0 hb1 h hs c0 c1 c2 c3 c4 c5
end Go.Proofs.YtmnemddagcfjgaaGreatDoor
