/- awake: chapter 14's example. -/
import Derived.Test.YtcdplpdgokhopaaDoorTokCode
namespace Go.Proofs.YtcdplpdgokhopaaDoor
open Go.RowKit
set_option linter.unusedVariables false
def awakeL : List Tk := [⟨1, [97], 0, 0⟩, ⟨5, [60, 61], 0, 1⟩, ⟨5, [45], 0, 3⟩, ⟨2, [53], 5, 4⟩, ⟨6, [], 0, 5⟩]
theorem awake_tok : tokA [97, 60, 61, 45, 53] = .good awakeL := by kernel_rfl
theorem awake_cells {w w' : World} {e : Ending} (h : AnsTo w (.good awakeL) e w') : ∃ b off cap, e = .returned (.tuple #[.slice (some ⟨b, off, none⟩) 5 cap, .agg #[.int .i64 0, .int .i64 0]]) ∧ w'.cell? ⟨b, off + 12 + 2, none⟩ = some (.int .u64 5) ∧ w'.cell? ⟨b, off + 12 + 3, none⟩ = some (.int .i64 4) ∧ w'.cell? ⟨b, off + 16, none⟩ = some (.int .i64 6) ∧ Below w.heap.size w w' := by
  obtain ⟨⟨ao, cap, rfl, hat⟩, hb⟩ := h
  obtain ⟨b, off, rfl, x0, x1, x2, x3⟩ := hat 3 (by decide)
  obtain ⟨b', off', hb', y0, y1, y2, y3⟩ := hat 4 (by decide)
  injection hb' with hb2
  injection hb2 with hb3 hb4
  subst hb3; subst hb4
  exact ⟨b, off, cap, rfl, x2, x3, y0, hb⟩
set_option maxRecDepth 100000 in
set_option maxHeartbeats 2000000 in
theorem awake_any (w : World) (hV : LibAt w) : Calls Tryd.prog 9 #[] w fun e w' => e = .returned (.bool true) ∧ Below w.heap.size w w' := by
  have h := fun wx hb => tokens_any [97, 60, 61, 45, 53] (by decide) wx (hV.held hb)
  rw [awake_tok] at h
  have HT := Lib.hid (show ∀ wx, Below w.heap.size w wx → Calls Tryd.prog 6 #[.string ⟨#[97, 60, 61, 45, 53]⟩] wx (AnsTo wx (.good awakeL)) from h)
  clear h
  go_enter Tryd.func9, Tryd.ntmps9
  go_wp2_with (go_at_call 6; refine (HT.out _ (Below.refl _ _)).mono ?_; rintro e w1 h1; obtain ⟨b, off, cap, rfl, x2, x3, y0, hb⟩ := awake_cells h1; have q0 : b < w1.heap.size := World.block_lt_of_cell? w1 _ x2; have q1 : ¬ b = w1.heap.size := (by omega); have HB := Lib.hid hb; clear hb h1)
  go_ret
  exact ⟨rfl, HB.out.alloc HB.out.size _⟩
end Go.Proofs.YtcdplpdgokhopaaDoor
