/- The printer writes a tree. -/
import Derived.Test.YtjgdkiikkgdbaaaGreatDoorQ21
namespace Go.Proofs.YtjgdkiikkgdbaaaGreatDoor
open Go.RowKit
set_option linter.unusedVariables false
set_option linter.unusedSimpArgs false
/-- what a tree's printing wants of its operands -/
structure ArgsAt (S : Nat → Prop) (B : Nat) (w : World) (aa : Option Addr) (n : Nat) (g : Nat → Opd) : Prop where
  low : ∀ k, S k → k < B
  few : n ≤ 100
  lies : ∀ i, i < n → CellsAt w S aa i (opdC (g i))
  may : ∀ i, i < n → mayOB (g i) = true
  ok : ∀ i, i < n → OpX (g i)
  small : ∀ i, i < n → (g i).text.size ≤ 3000
theorem ArgsAt.next {S : Nat → Prop} {B : Nat} {w wx : World} {aa : Option Addr} {n : Nat} {g : Nat → Opd} (h : ArgsAt S B w aa n g) (hb : Below B w wx) : ArgsAt S B wx aa n g := ⟨h.low, h.few, fun i hi => (h.lies i hi).below h.low hb, h.may, h.ok, h.small⟩
/-- the operands, behind a new row of what stands between them -/
theorem pTest_row {S : Nat → Prop} {aa : Option Addr} {n ac : Nat} {g : Nat → Opd} {o r : Int} {m : Nat} {cs : Array Value} {V : Nat → List UInt8} {B b : Nat} {l : List UInt8} {w0 w : World} (hA : ArgsAt S B w aa n g) (hE : EnvAt B w) (h : Cur B b l w0 w) (hlen : l.length ≤ 900000000) (gs : Nat) (hg : gs = w.heap.size)
    (hmn : n ≤ m + 1) (hcs : ∀ i, i < m → cs[i]? = some (.string (bs (V i)))) (hV : ∀ i, i < m → (V i).length ≤ 10) (hsep : ∀ i, 0 < i → i < n → sepA o r i = 32 :: (V (i - 1) ++ [32])) :
    Calls Tryz.prog 31 #[.pointer (some ⟨b, 0, none⟩), .slice aa n ac, .slice (some ⟨gs, 0, none⟩) m m] (w.alloc (.cells cs 9)) fun e w' => e = .returned (.tuple #[]) ∧ Cur B b (l ++ argsP o r g n) w0 w' := by
  subst hg
  have hX := h.next (bel1 (o := .cells cs 9))
  have hb : Below B w (w.alloc (.cells cs 9)) := bel1.mono h.size
  have hA2 := hA.next hb
  have hlt := h.txt.lt
  refine (pTest_any S aa n ac g o r w.heap.size m cs V B b l _ hX.txt (hE.next hb) hlen hX.size hA2.low hA2.few hA2.lies hA2.may hA2.ok hA2.small (alloc_at w _) (by omega) hmn hcs hV hsep).mono fun e w' ⟨h1, h2⟩ => ⟨h1, hX.trans h2⟩
theorem relS_le (r : Nat) : (relS r).length ≤ 10 := Nat.le_trans (relS_len r) (by decide)
set_option maxRecDepth 100000 in
set_option maxHeartbeats 4000000 in
theorem pTree_1 (S : Nat → Prop) (r : Int) (aa : Option Addr) (an ac : Nat) (ka : Option Addr) (kn kc : Nat) (g : Nat → Opd) (B b : Nat) (l : List UInt8) (w : World) (h : TxtAt 48 B b l w) (hlen : l.length ≤ 900000000) (hBw : B ≤ w.heap.size) (hE : EnvAt B w) (hA : ArgsAt S B w aa an g) (hn : an = 2) : PTreeTo 1 r aa an ac ka kn kc (argsP 1 r g an) B b l w := by
  have HC0 := Lib.hid ((Cur.start h hBw).next bel1 (wy := w.alloc (.cells #[.int .i64 1, .int .i64 r, .slice aa an ac, .slice ka kn kc] 25)))
  have HS := Lib.hid (sign_any r)
  have HV := Lib.hid (show ∀ i, i < 1 → (relS r.toNat).length ≤ 10 from fun i _ => relS_le _)
  have HP := Lib.hid (show ∀ i, 0 < i → i < an → sepA 1 r i = 32 :: (relS r.toNat ++ [32]) from fun i h0 _ => by unfold sepA; rw [if_neg (by omega), if_pos rfl])
  have HT := Lib.hid (fun gs wx (hx : Cur B b l w wx) (hg : gs = wx.heap.size) => pTest_row (ac := ac) (o := 1) (r := r) (m := 1) (cs := #[.string (bs (relS r.toNat))]) (V := fun _ => relS r.toNat) (hA.next hx.bel) (hE.next hx.bel) hx hlen gs hg (show an ≤ _ by rw [hn]; decide) (fun i hi => by
    obtain rfl : i = 0 := by omega
    rfl) HV.out HP.out)
  have HTD : Hid (∀ gs wx, Cur B b l w wx → gs = wx.heap.size → Calls Tryz.prog 31 #[.pointer (some ⟨b, 0, none⟩), .slice aa an ac, .slice (some ⟨gs, 0, none⟩) 1 1] (wx.alloc (.cells #[.string (bs (relS r.toNat))] 9)).drew fun e w' => e = .returned (.tuple #[]) ∧ Cur B b (l ++ argsP 1 r g an) w w') := Lib.hid (fun gs wx hx hg => HT.out gs wx.drew hx.drew hg)
  clear h hE hA hlen hn HT
  unfold PTreeTo
  go_enter Tryz.func16, Tryz.ntmps16
  go_wp2_with (fail)
  go_region_with (first
    | (go_at_call 32; refine (HS.out _).mono ?_; rintro e w1 ⟨rfl, rfl⟩)
    | (go_at_call 31; refine (HTD.out _ _ (by first | exact HC0.out | exact HC0.out.drew) (by first | (simp; done) | exact (World.size_alloc ..).symm)).mono ?_; rintro e w2 ⟨rfl, h2⟩; have H2 := Lib.hid h2; clear h2))
  all_goals go_wp2_with (fail)
  all_goals go_end0
  all_goals exact ⟨rfl, _, H2.out, CutS.refl _ _⟩
set_option maxRecDepth 100000 in
set_option maxHeartbeats 4000000 in
theorem pTree_2 (S : Nat → Prop) (r : Int) (aa : Option Addr) (an ac : Nat) (ka : Option Addr) (kn kc : Nat) (g : Nat → Opd) (B b : Nat) (l : List UInt8) (w : World) (h : TxtAt 48 B b l w) (hlen : l.length ≤ 900000000) (hBw : B ≤ w.heap.size) (hE : EnvAt B w) (hA : ArgsAt S B w aa an g) (hn : an = 3) : PTreeTo 2 r aa an ac ka kn kc (argsP 2 r g an) B b l w := by
  have HC0 := Lib.hid ((Cur.start h hBw).next bel1 (wy := w.alloc (.cells #[.int .i64 2, .int .i64 r, .slice aa an ac, .slice ka kn kc] 25)))
  have HV := Lib.hid (show ∀ i, i < 2 → (if i = 0 then kBETWEEN else kAND).length ≤ 10 from fun i _ => by split <;> decide)
  have HP := Lib.hid (show ∀ i, 0 < i → i < an → sepA 2 r i = 32 :: ((if i - 1 = 0 then kBETWEEN else kAND) ++ [32]) from fun i h0 h3 => by
    have hi : i = 1 ∨ i = 2 := by omega
    rcases hi with rfl | rfl <;> rfl)
  have HT := Lib.hid (fun gs wx (hx : Cur B b l w wx) (hg : gs = wx.heap.size) => pTest_row (ac := ac) (o := 2) (r := r) (m := 2) (cs := #[.string ⟨#[66, 69, 84, 87, 69, 69, 78]⟩, .string ⟨#[65, 78, 68]⟩]) (V := fun i => if i = 0 then kBETWEEN else kAND) (hA.next hx.bel) (hE.next hx.bel) hx hlen gs hg (show an ≤ _ by rw [hn]; decide) (fun i hi => by
    have hi : i = 0 ∨ i = 1 := by omega
    rcases hi with rfl | rfl <;> rfl) HV.out HP.out)
  clear h hE hA hlen hn
  unfold PTreeTo
  go_enter Tryz.func16, Tryz.ntmps16
  go_wp2_with (go_at_call 31; refine (HT.out _ _ HC0.out (by first | (simp; done) | exact (World.size_alloc ..).symm)).mono ?_; rintro e w2 ⟨rfl, h2⟩; have H2 := Lib.hid h2; clear h2)
  go_end0
  exact ⟨rfl, _, H2.out, CutS.refl _ _⟩
set_option maxRecDepth 100000 in
set_option maxHeartbeats 4000000 in
theorem pTree_3 (S : Nat → Prop) (r : Int) (aa : Option Addr) (an ac : Nat) (ka : Option Addr) (kn kc : Nat) (g : Nat → Opd) (B b : Nat) (l : List UInt8) (w : World) (h : TxtAt 48 B b l w) (hlen : l.length ≤ 900000000) (hBw : B ≤ w.heap.size) (hE : EnvAt B w) (hA : ArgsAt S B w aa an g) (hn : an = 2) : PTreeTo 3 r aa an ac ka kn kc (argsP 3 r g an) B b l w := by
  have HC0 := Lib.hid ((Cur.start h hBw).next bel1 (wy := w.alloc (.cells #[.int .i64 3, .int .i64 r, .slice aa an ac, .slice ka kn kc] 25)))
  have HV := Lib.hid (show ∀ i, i < 1 → kLIKE.length ≤ 10 from fun i _ => by decide)
  have HP := Lib.hid (show ∀ i, 0 < i → i < an → sepA 3 r i = 32 :: (kLIKE ++ [32]) from fun i h0 h3 => by
    obtain rfl : i = 1 := by omega
    rfl)
  have HT := Lib.hid (fun gs wx (hx : Cur B b l w wx) (hg : gs = wx.heap.size) => pTest_row (ac := ac) (o := 3) (r := r) (m := 1) (cs := #[.string ⟨#[76, 73, 75, 69]⟩]) (V := fun _ => kLIKE) (hA.next hx.bel) (hE.next hx.bel) hx hlen gs hg (show an ≤ _ by rw [hn]; decide) (fun i hi => by
    obtain rfl : i = 0 := by omega
    rfl) HV.out HP.out)
  clear h hE hA hlen hn
  unfold PTreeTo
  go_enter Tryz.func16, Tryz.ntmps16
  go_wp2_with (go_at_call 31; refine (HT.out _ _ HC0.out (by first | (simp; done) | exact (World.size_alloc ..).symm)).mono ?_; rintro e w2 ⟨rfl, h2⟩; have H2 := Lib.hid h2; clear h2)
  go_end0
  exact ⟨rfl, _, H2.out, CutS.refl _ _⟩
def PKidsC (o r : Int) (aa : Option Addr) (an ac : Nat) (ka : Option Addr) (kn kc : Nat) (sp : ByteArray) (t : List UInt8) (B b : Nat) (l : List UInt8) (w : World) : Prop := Calls Tryz.prog 34 #[.pointer (some ⟨b, 0, none⟩), .agg #[.int .i64 o, .int .i64 r, .slice aa an ac, .slice ka kn kc], .string sp] w fun e w' => e = .returned (.tuple #[]) ∧ ∃ s, Cur B b (l ++ s) w w' ∧ CutS l s t
set_option maxRecDepth 100000 in
set_option maxHeartbeats 4000000 in
theorem pTree_4 (r : Int) (aa : Option Addr) (an ac : Nat) (ka : Option Addr) (kn kc : Nat) (t : List UInt8) (B b : Nat) (l : List UInt8) (w : World) (h : TxtAt 48 B b l w) (hlen : l.length ≤ 900000000) (hBw : B ≤ w.heap.size)
    (HK : Hid (∀ lx wx, TxtAt 48 B b lx wx → Below B w wx → lx.length ≤ l.length + 4 → PKidsC 4 r aa an ac ka kn kc ⟨#[]⟩ t B b lx wx)) : PTreeTo 4 r aa an ac ka kn kc (kNOT ++ [32] ++ t) B b l w := by
  have hbl := h.lt
  have HC0 := Lib.hid ((Cur.start h hBw).next bel1 (wy := w.alloc (.cells #[.int .i64 4, .int .i64 r, .slice aa an ac, .slice ka kn kc] 25)))
  have HX0 := Lib.hid (Cur.start (HC0.out.txt) HC0.out.size)
  have HBX := Lib.hid (alloc_at w (.cells #[.int .i64 4, .int .i64 r, .slice aa an ac, .slice ka kn kc] 25))
  have HW := Lib.hid (fun v wx (hx : Cur B b l v wx) => wrC (s := ⟨#[78, 79, 84, 32]⟩) hx (by show l.length + 4 ≤ _; omega))
  have hl4 : (l ++ (kNOT ++ [32])).length ≤ l.length + 4 := by rw [List.length_append]; exact Nat.le_refl _
  clear h hlen
  unfold PTreeTo
  unfold PKidsC at HK
  go_enter Tryz.func16, Tryz.ntmps16
  go_wp2_with (first
    | (go_at_call 33; refine (HW.out _ _ HX0.out).mono ?_; rintro e w2 ⟨rfl, h2⟩; have H2 : Hid (Cur B b (l ++ (kNOT ++ [32])) _ w2) := Lib.hid h2; have hb2 := h2.box HBX.out (by omega) (by decide); obtain ⟨d0, d1, d2, d3⟩ := bx4 hb2; clear h2 hb2)
    | (go_at_call 34; refine (HK.out _ _ H2.out.txt (HC0.out.bel.trans H2.out.bel) hl4).mono ?_; rintro e w3 ⟨rfl, s, h3, h4⟩; have H3 := Lib.hid h3; have H4 := Lib.hid h4; clear h3 h4))
  go_end0
  refine ⟨rfl, kNOT ++ [32] ++ s, ?_, (CutS.refl l _).app H4.out⟩
  have := (HC0.out.trans H2.out).trans H3.out
  rwa [List.append_assoc] at this
set_option maxRecDepth 100000 in
set_option maxHeartbeats 4000000 in
theorem pTree_5 (r : Int) (aa : Option Addr) (an ac : Nat) (ka : Option Addr) (kn kc : Nat) (t : List UInt8) (B b : Nat) (l : List UInt8) (w : World) (h : TxtAt 48 B b l w) (hBw : B ≤ w.heap.size)
    (HK : Hid (∀ wx, TxtAt 48 B b l wx → Below B w wx → PKidsC 5 r aa an ac ka kn kc ⟨#[32, 65, 78, 68, 32]⟩ t B b l wx)) : PTreeTo 5 r aa an ac ka kn kc t B b l w := by
  have HC0 := Lib.hid ((Cur.start h hBw).next bel1 (wy := w.alloc (.cells #[.int .i64 5, .int .i64 r, .slice aa an ac, .slice ka kn kc] 25)))
  clear h
  unfold PTreeTo
  unfold PKidsC at HK
  go_enter Tryz.func16, Tryz.ntmps16
  go_wp2_with (go_at_call 34; refine (HK.out _ HC0.out.txt HC0.out.bel).mono ?_; rintro e w3 ⟨rfl, s, h3, h4⟩; have H3 := Lib.hid h3; have H4 := Lib.hid h4; clear h3 h4)
  go_end0
  exact ⟨rfl, s, HC0.out.trans H3.out, H4.out⟩
set_option maxRecDepth 100000 in
set_option maxHeartbeats 4000000 in
theorem pTree_6 (r : Int) (aa : Option Addr) (an ac : Nat) (ka : Option Addr) (kn kc : Nat) (t : List UInt8) (B b : Nat) (l : List UInt8) (w : World) (h : TxtAt 48 B b l w) (hBw : B ≤ w.heap.size)
    (HK : Hid (∀ wx, TxtAt 48 B b l wx → Below B w wx → PKidsC 6 r aa an ac ka kn kc ⟨#[32, 79, 82, 32]⟩ t B b l wx)) : PTreeTo 6 r aa an ac ka kn kc t B b l w := by
  have HC0 := Lib.hid ((Cur.start h hBw).next bel1 (wy := w.alloc (.cells #[.int .i64 6, .int .i64 r, .slice aa an ac, .slice ka kn kc] 25)))
  clear h
  unfold PTreeTo
  unfold PKidsC at HK
  go_enter Tryz.func16, Tryz.ntmps16
  go_wp2_with (go_at_call 34; refine (HK.out _ HC0.out.txt HC0.out.bel).mono ?_; rintro e w3 ⟨rfl, s, h3, h4⟩; have H3 := Lib.hid h3; have H4 := Lib.hid h4; clear h3 h4)
  go_end0
  exact ⟨rfl, s, HC0.out.trans H3.out, H4.out⟩
theorem pTree_any (S : Nat → Prop) (B b : Nat) (hS : ∀ k, S k → k < B) : ∀ (T : XT) (d : Nat) (l : List UInt8) (w : World), XAt w S T → XTx T → mayB T = true → greatX T d = false → TxtAt 48 B b l w → EnvAt B w → B ≤ w.heap.size → l.length + (showX T).length ≤ 600000000 → PTreeTo T.op T.rel T.aa T.an T.ac T.ka T.kn T.kc (showX T) B b l w := by
  refine XT.ind fun T ih d l w H HX hm hg h hE hBw hlen => ?_
  obtain ⟨_, g3, g4, g5, g6⟩ := great_size T d hg
  obtain ⟨hf, hmo, hmk⟩ := mayC_of hm
  have hsp := show_split T hf
  have hA : T.an ≤ 3 → ArgsAt S B w T.aa T.an T.arg := fun h3 => ⟨hS, by omega, ((xat_iff T).1 H).2.1, hmo, ((xtx_iff T).1 HX).1, g3⟩
  have HC := Lib.hid (fun i (hi : i < T.kn) wx (hb : Below B w wx) => (((xat_iff T).1 H).2.2 i hi).1.below hS hb)
  have HT := Lib.hid (fun i (hi : i < T.kn) lx wx (hx : TxtAt 48 B b lx wx) (hb : Below B w wx) (hl : lx.length + (showX (T.kid i)).length ≤ 600000000) => ih i hi (d + 1) lx wx ((((xat_iff T).1 H).2.2 i hi).2.below hS hb) (((xtx_iff T).1 HX).2 i hi) (hmk i hi) (g5 i hi) hx (hE.next hb) (Nat.le_trans hBw hb.size) hl)
  have hK : ∀ sp, (∀ i, 0 < i → i < T.kn → sepK T.op i = sp) → sp.length ≤ 10 → ∀ lx wx, TxtAt 48 B b lx wx → Below B w wx → lx.length + (kidsP T.op T.kid T.kn).length ≤ 600000000 → PKidsC T.op T.rel T.aa T.an T.ac T.ka T.kn T.kc (bs sp) (kidsP T.op T.kid T.kn) B b lx wx := fun sp h1 h2 lx wx hx hb hl =>
    pKids_any S T.op T.rel T.aa T.an T.ac T.ka T.kn T.kc T.kid sp B b lx wx hx hl (Nat.le_trans hBw hb.size) g4 h1 h2 (Lib.hid (fun i hi wy hy => HC.out i hi wy (hb.trans hy))) (Lib.hid (fun i hi ly wy h3 h4 h5 => HT.out i hi ly wy h3 (hb.trans h4) h5))
  clear ih HC HT
  rw [hsp] at hlen ⊢
  clear hsp
  rw [List.length_append, List.length_append] at hlen
  unfold formB at hf
  simp only [Bool.or_eq_true, Bool.and_eq_true, beq_iff_eq, decide_eq_true_eq] at hf
  rcases hf with (((⟨⟨⟨⟨ho, h1⟩, h2⟩, h3⟩, h4⟩ | ⟨⟨⟨ho, h2⟩, h3⟩, h4⟩) | ⟨⟨⟨ho, h2⟩, h3⟩, h4⟩) | ⟨⟨⟨ho, h2⟩, h3⟩, h4⟩) | ⟨⟨⟨ho, h2⟩, h3⟩, h4⟩
  · have e : headP T.op ++ argsP T.op T.rel T.arg T.an ++ kidsP T.op T.kid T.kn = argsP 1 T.rel T.arg T.an := by rw [ho, h4]; simp [headP, kidsP]
    rw [e, ho]
    exact pTree_1 S T.rel T.aa T.an T.ac T.ka T.kn T.kc T.arg B b l w h (by omega) hBw hE (hA (by omega)) h3
  · have e : headP T.op ++ argsP T.op T.rel T.arg T.an ++ kidsP T.op T.kid T.kn = argsP 2 T.rel T.arg T.an := by rw [ho, h4]; simp [headP, kidsP]
    rw [e, ho]
    exact pTree_2 S T.rel T.aa T.an T.ac T.ka T.kn T.kc T.arg B b l w h (by omega) hBw hE (hA (by omega)) h3
  · have e : headP T.op ++ argsP T.op T.rel T.arg T.an ++ kidsP T.op T.kid T.kn = argsP 3 T.rel T.arg T.an := by rw [ho, h4]; simp [headP, kidsP]
    rw [e, ho]
    exact pTree_3 S T.rel T.aa T.an T.ac T.ka T.kn T.kc T.arg B b l w h (by omega) hBw hE (hA (by omega)) h3
  · have e : headP T.op ++ argsP T.op T.rel T.arg T.an ++ kidsP T.op T.kid T.kn = kNOT ++ [32] ++ kidsP 4 T.kid T.kn := by rw [ho, h3]; simp [headP, argsP]
    have hl4 : (headP T.op).length = 4 := by rw [ho]; rfl
    rw [e]
    have hK2 := hK [] (fun i h5 h6 => by omega) (by decide)
    rw [ho] at hK2 ⊢ hlen
    exact pTree_4 T.rel T.aa T.an T.ac T.ka T.kn T.kc _ B b l w h (by omega) hBw (Lib.hid (fun lx wx hx hb hl => hK2 lx wx hx hb (by have : (headP 4).length = 4 := rfl; omega)))
  · rcases ho with ho | ho
    · have e : headP T.op ++ argsP T.op T.rel T.arg T.an ++ kidsP T.op T.kid T.kn = kidsP 5 T.kid T.kn := by rw [ho, h3]; simp [headP, argsP]
      rw [e]
      have hK2 := hK [32, 65, 78, 68, 32] (fun i h5 h6 => by rw [ho]; unfold sepK; rw [if_neg (by omega)]; rfl) (by decide)
      rw [ho] at hK2 ⊢ hlen
      exact pTree_5 T.rel T.aa T.an T.ac T.ka T.kn T.kc _ B b l w h hBw (Lib.hid (fun wx hx hb => hK2 l wx hx hb (by omega)))
    · have e : headP T.op ++ argsP T.op T.rel T.arg T.an ++ kidsP T.op T.kid T.kn = kidsP 6 T.kid T.kn := by rw [ho, h3]; simp [headP, argsP]
      rw [e]
      have hK2 := hK [32, 79, 82, 32] (fun i h5 h6 => by rw [ho]; unfold sepK; rw [if_neg (by omega)]; rfl) (by decide)
      rw [ho] at hK2 ⊢ hlen
      exact pTree_6 T.rel T.aa T.an T.ac T.ka T.kn T.kc _ B b l w h hBw (Lib.hid (fun wx hx hb => hK2 l wx hx hb (by omega)))
end Go.Proofs.YtjgdkiikkgdbaaaGreatDoor
/- Parse: the tree of a text, or what is wrong with it first. -/
namespace Go.Proofs.YtjgdkiikkgdbaaaGreatDoor
open Go.RowKit
set_option linter.unusedVariables false
/-- what Parse answers -/
def ParseTo (w : World) (A : Tree) (x : Ending) (w' : World) : Prop := Below w.heap.size w w' ∧ match A with
  | .bad e a => x = .returned (.tuple #[.agg #[.int .i64 0, .int .i64 0, .slice none 0 0, .slice none 0 0], .agg #[.int .i64 (e : Nat), .int .i64 (a : Nat)]])
  | .good t => ∃ T : XT, x = .returned (.tuple #[.agg #[.int .i64 T.op, .int .i64 T.rel, .slice T.aa T.an T.ac, .slice T.ka T.kn T.kc], .agg #[.int .i64 0, .int .i64 0]]) ∧ SameX T t ∧ XAt w' (fun b => w.heap.size ≤ b) T
theorem endParse {V : World} {act : Act} {Q : Ending → World → Prop} {a0 a1 a2 a3 f0 f1 : Value} (hd : act.defers = []) (rb fb : Nat) (h2 : act.tmps.getD 2 undef = .pointer (some ⟨rb, 0, none⟩)) (h3 : act.tmps.getD 3 undef = .pointer (some ⟨fb, 0, none⟩)) (hr : V.heap[rb]? = some (.cells #[a0, a1, a2, a3] 25)) (hf : V.heap[fb]? = some (.cells #[f0, f1] 38))
    (hQ : Q (.returned (.tuple #[.agg #[a0, a1, a2, a3], .agg #[f0, f1]])) V) : bodyPost Tryz.prog Tryz.f12 Q Exit.ret act V := by
  refine bodyPost_ret (v := .tuple #[.agg #[a0, a1, a2, a3], .agg #[f0, f1]]) ?_ hd hQ
  have hl2 := run_loadVar_row (P := Tryz.prog) V rb 25 25 #[a0, a1, a2, a3] _ _ hr Tryz.underlying25 rfl (by kernel_rfl)
  have hl3 := run_loadVar_row (P := Tryz.prog) V fb 38 38 #[f0, f1] _ _ hf Tryz.underlying38 rfl (by kernel_rfl)
  rw [Array.getD_eq_getD_getElem?] at h2 h3
  simp [results, Tryz.results12, asAddr, hl2, hl3, h2, h3]
theorem put42p {W : World} {rb fb : Nat} {o0 o1 o2 o3 p0 p1 : Value} {t u : TypeId} (hz : W.heap[rb]? = some (.cells #[o0, o1, o2, o3] t)) (hy : W.heap[fb]? = some (.cells #[p0, p1] u)) (hne : rb ≠ fb) (a0 a1 a2 a3 f0 f1 : Value) :
    (((set4 W rb a0 a1 a2 a3).setCell ⟨fb, 0, none⟩ f0).setCell ⟨fb, 1, none⟩ f1).heap[rb]? = some (.cells #[a0, a1, a2, a3] t) ∧ (((set4 W rb a0 a1 a2 a3).setCell ⟨fb, 0, none⟩ f0).setCell ⟨fb, 1, none⟩ f1).heap[fb]? = some (.cells #[f0, f1] u) := by
  have h4 := put4 hz a0 a1 a2 a3
  have h5 := (only4 (b := rb) (S := fun k => k = rb) (Only.refl _ W) (.inl rfl) a0 a1 a2 a3).same hy (fun e => hne e.symm)
  generalize set4 W rb a0 a1 a2 a3 = V at *
  exact ⟨(set_other (p := ⟨fb, 1, none⟩) hne).trans ((set_other (p := ⟨fb, 0, none⟩) hne).trans h4), set_at (j := 1) (set_at (j := 0) h5)⟩
theorem put42 {W : World} {rb fb : Nat} {o0 o1 o2 o3 p0 p1 : Value} {t u : TypeId} (hz : W.heap[rb]? = some (.cells #[o0, o1, o2, o3] t)) (hy : W.heap[fb]? = some (.cells #[p0, p1] u)) (hne : rb ≠ fb) (a0 a1 a2 a3 f0 f1 : Value) :
    (((set4 W rb a0 a1 a2 a3).setCell ⟨fb, 0, none⟩ f0).setCell ⟨fb, 1, none⟩ f1).drew.heap[rb]? = some (.cells #[a0, a1, a2, a3] t) ∧ (((set4 W rb a0 a1 a2 a3).setCell ⟨fb, 0, none⟩ f0).setCell ⟨fb, 1, none⟩ f1).drew.heap[fb]? = some (.cells #[f0, f1] u) := by
  have h4 := put4 hz a0 a1 a2 a3
  have h5 := (only4 (b := rb) (S := fun k => k = rb) (Only.refl _ W) (.inl rfl) a0 a1 a2 a3).same hy (fun e => hne e.symm)
  generalize set4 W rb a0 a1 a2 a3 = V at *
  exact ⟨(set_other (p := ⟨fb, 1, none⟩) hne).trans ((set_other (p := ⟨fb, 0, none⟩) hne).trans h4), set_at (j := 1) (set_at (j := 0) h5)⟩
theorem below42 {w W : World} {N rb fb : Nat} (hB : Below N w W) (hr : N ≤ rb) (hf : N ≤ fb) (a0 a1 a2 a3 f0 f1 : Value) : Below N w (((set4 W rb a0 a1 a2 a3).setCell ⟨fb, 0, none⟩ f0).setCell ⟨fb, 1, none⟩ f1) :=
  (((((hB.setCell (p := ⟨rb, 0, none⟩) hr _).setCell (p := ⟨rb, 1, none⟩) hr _).setCell (p := ⟨rb, 2, none⟩) hr _).setCell (p := ⟨rb, 3, none⟩) hr _).setCell (p := ⟨fb, 0, none⟩) hf _).setCell (p := ⟨fb, 1, none⟩) hf _
abbrev W2 (w : World) : World := (w.alloc (.cells #[.int .i64 0, .int .i64 0, .slice none 0 0, .slice none 0 0] 25)).alloc (.cells #[.int .i64 0, .int .i64 0] 38)
theorem w2_facts (w : World) : Below w.heap.size w (W2 w) ∧ (W2 w).heap[w.heap.size]? = some (.cells #[.int .i64 0, .int .i64 0, .slice none 0 0, .slice none 0 0] 25) ∧ (W2 w).heap[w.heap.size + 1]? = some (.cells #[.int .i64 0, .int .i64 0] 38) ∧ (W2 w).heap.size = w.heap.size + 2 := by
  refine ⟨((Below.refl w.heap.size w).alloc (Nat.le_refl _) _).alloc (by simp) _, alloc_old (alloc_at w _), ?_, by simp⟩
  have := alloc_at (w.alloc (.cells #[.int .i64 0, .int .i64 0, .slice none 0 0, .slice none 0 0] 25)) (.cells #[.int .i64 0, .int .i64 0] 38)
  have e : (w.alloc (.cells #[.int .i64 0, .int .i64 0, .slice none 0 0, .slice none 0 0] 25)).heap.size = w.heap.size + 1 := by simp
  rw [e] at this
  exact this
set_option maxRecDepth 100000 in
set_option maxHeartbeats 1000000 in
theorem parse_bad (s : ByteArray) (e a : Nat) (he : e ≠ 0) (w : World) (hT : Calls Tryz.prog 26 #[.string s] (W2 w) (AnsTo (W2 w) (.bad e a))) :
    Calls Tryz.prog 12 #[.string s] w (ParseTo w (.bad e a)) := by
  have hf := w2_facts w
  have HF := Lib.hid hf
  have HT := Lib.hid hT
  have q2 : (((e : Nat) : Int) != 0) = true := by simp; omega
  clear hf hT
  go_enter Tryz.func12, Tryz.ntmps12
  go_wp2_with (go_at_call 26; refine (HT.out).mono ?_; rintro x w1 ⟨rfl, hb1⟩; have HW1 := Lib.hid (And.intro (rowKeep hb1 HF.out.2.1) (And.intro (rowKeep hb1 HF.out.2.2.1) (bthen HF.out.1 hb1))); clear hb1)
  obtain ⟨h1, h2, h3⟩ := HW1.out
  have hz := alloc_old (o := (.cells #[.int .i64 (e : Nat), .int .i64 (a : Nat)] 38)) h1
  have hy := alloc_old (o := (.cells #[.int .i64 (e : Nat), .int .i64 (a : Nat)] 38)) h2
  have hx := alloc_at w1 (.cells #[.int .i64 (e : Nat), .int .i64 (a : Nat)] 38)
  have hB := h3.alloc h3.size (.cells #[.int .i64 (e : Nat), .int .i64 (a : Nat)] 38)
  have s1 := lt_of_block h1
  have s2 := lt_of_block h2
  obtain ⟨b5, hb5⟩ : ∃ b, w1.heap.size = b := ⟨_, rfl⟩
  rw [hb5] at hx s1 s2 ⊢
  generalize w1.alloc (.cells #[.int .i64 (e : Nat), .int .i64 (a : Nat)] 38) = W at *
  clear h1 h2 h3 HW1 hb5
  have c0 : W.cell? ⟨b5, 0, none⟩ = some (.int .i64 (e : Nat)) := cell_at hx rfl
  have c1 : W.cell? ⟨b5, 1, none⟩ = some (.int .i64 (a : Nat)) := cell_at hx rfl
  obtain ⟨r0, f0, r1, f1, r2, f2, r3, f3⟩ := bf4 hz
  have g0 : W.cell? ⟨w.heap.size + 1, 0, none⟩ = some (.int .i64 0) := cell_at hy rfl
  have g1 : W.cell? ⟨w.heap.size + 1, 1, none⟩ = some (.int .i64 0) := cell_at hy rfl
  have k0 := free_at (j := 0) hy
  have k1 := free_at (j := 1) hy
  have HZ := Lib.hid hz
  have HY := Lib.hid hy
  have HB := Lib.hid hB
  clear hz hy hx hB
  go_region
  all_goals go_wp2_with (fail)
  all_goals
    have hP := put42 HZ.out HY.out (by omega) (.int .i64 0) (.int .i64 0) (.slice none 0 0) (.slice none 0 0) (.int .i64 (e : Nat)) (.int .i64 (a : Nat))
    exact endParse rfl w.heap.size (w.heap.size + 1) rfl rfl hP.1 hP.2 ⟨(below42 HB.out (Nat.le_refl _) (by omega) _ _ _ _ _ _).drew, rfl⟩
theorem parse_or (w1 : World) (ao : Option Addr) (cap : Nat) (L : List Tk) (hv : Vd L) (hL : L.length ≤ 65) (hat : ∀ i, i < L.length → TkAt w1 ao i (atV L i)) (hcap : L.length ≤ cap) :
    Calls Tryz.prog 27 #[.pointer (some ⟨w1.heap.size + 1, 0, none⟩), .int .i64 0] ((w1.alloc (.cells #[.int .i64 0, .int .i64 0] 38)).alloc (.cells #[.slice ao L.length cap] 59)) (fun x w' => ∃ tb, tb < w1.heap.size ∧ XTo ((w1.alloc (.cells #[.int .i64 0, .int .i64 0] 38)).alloc (.cells #[.slice ao L.length cap] 59)) (w1.heap.size + 1) tb (orP 8 L) x w') := by
  obtain ⟨tb, off, rfl, hlt, ht⟩ := toks_row hv.pos hat
  have hb0 : Below w1.heap.size w1 (w1.alloc (.cells #[.int .i64 0, .int .i64 0] 38)) := (Below.refl _ _).alloc (Nat.le_refl _) _
  have hb1 : Below w1.heap.size w1 ((w1.alloc (.cells #[.int .i64 0, .int .i64 0] 38)).alloc (.cells #[.slice (some ⟨tb, off, none⟩) L.length cap] 59)) := hb0.alloc hb0.size _
  have hx := alloc_at (w1.alloc (.cells #[.int .i64 0, .int .i64 0] 38)) (.cells #[.slice (some ⟨tb, off, none⟩) L.length cap] 59)
  have e : (w1.alloc (.cells #[.int .i64 0, .int .i64 0] 38)).heap.size = w1.heap.size + 1 := by simp
  rw [e] at hx
  have hp : PAt ((w1.alloc (.cells #[.int .i64 0, .int .i64 0] 38)).alloc (.cells #[.slice (some ⟨tb, off, none⟩) L.length cap] 59)) (w1.heap.size + 1) tb L := ⟨by omega, by have := hb1.size; omega, off, cap, hx, hcap, ht.held (hb1.block tb hlt)⟩
  exact (orC_any (w1.heap.size + 1) tb 8 0 rfl L _ hp hv (by omega)).mono fun x w' h => ⟨tb, hlt, h⟩
end Go.Proofs.YtjgdkiikkgdbaaaGreatDoor
