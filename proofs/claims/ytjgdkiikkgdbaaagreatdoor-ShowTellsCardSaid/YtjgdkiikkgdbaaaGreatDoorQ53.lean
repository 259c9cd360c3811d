/- The reference's row: several, with a word between. -/
import Derived.Test.YtjgdkiikkgdbaaaGreatDoorQ16
import Derived.Test.YtjgdkiikkgdbaaaGreatDoorQ52
namespace Go.Proofs.YtjgdkiikkgdbaaaGreatDoor
open Go.RowKit
set_option linter.unusedVariables false
structure RowSt (w : World) (tb off : Nat) (L : List Tk) (z n e a : Int) (zs : List (Nat × Obj)) (v : Value) (ks : List XT) (wr : World) : Prop where
  st : RSt w tb off L z n e a zs wr
  row : wr.ownsRow (w.heap.size + 1 + 1 + 1) 25 4 v ks.length (ks.flatMap xtC)
  kids : ∀ i, i < ks.length → XAt wr (fun b => w.heap.size + 1 + 1 < b ∧ v.ownBlock ≠ some b) (ks.getD i .nil)
theorem RowSt.turn {w wr wx : World} {tb off : Nat} {L : List Tk} {z n e a z' n' e' a' : Int} {zs zs' : List (Nat × Obj)} {v : Value} {ks : List XT} (h : RowSt w tb off L z n e a zs v ks wr) (hr : RSt w tb off L z' n' e' a' zs' wx) (ho : Only (fun k => k = w.heap.size) wr wx) : RowSt w tb off L z' n' e' a' zs' v ks wx :=
  ⟨hr, ho.row h.row (fun k hk e => by have := (h.row.lt k hk).1; omega), fun i hi => (h.kids i hi).only ho (fun b hb _ e => by have := hb.1; omega)⟩
theorem RowSt.next {w wr wx : World} {tb off : Nat} {L : List Tk} {z n e a : Int} {zs : List (Nat × Obj)} {v : Value} {ks : List XT} (h : RowSt w tb off L z n e a zs v ks wr) (hb : Below wr.heap.size wr wx) : RowSt w tb off L z n e a zs v ks wx :=
  h.turn (h.st.next hb) (Only.of_below hb)
theorem RowSt.app {w wr w2 : World} {tb off : Nat} {L : List Tk} {z n e a : Int} {gg cp N : Nat} {zs : List (Nat × Obj)} {v : Value} {ks : List XT} {T : XT} (h : RowSt w tb off L z n e a zs v ks wr) (hzs : ∀ p ∈ zs, p.1 ≤ w.heap.size + 1 + 1) (hT : XAt wr (fun b => N ≤ b) T) (hN : ∀ k, v.ownBlock = some k → k < N) (hN2 : w.heap.size + 1 + 1 < N)
    (hown : w2.ownsRow (w.heap.size + 1 + 1 + 1) 25 4 (.slice (some ⟨gg, 0, none⟩) (ks.length + 1) cp) (ks.length + 1) (ks.flatMap xtC ++ xtC T)) (hg : wr.grownBy w2 v.ownBlock) (hat : v.ownBlock = some gg ∨ gg = wr.heap.size) :
    RowSt w tb off L z n e a zs (.slice (some ⟨gg, 0, none⟩) (ks.length + 1) cp) (ks ++ [T]) w2 := by
  have hv : ∀ k, v.ownBlock = some k → w.heap.size + 1 + 1 < k := fun k hk => by have := (h.row.lt k hk).1; omega
  have ho : Only (fun k => v.ownBlock = some k) wr w2 := ⟨hg.os, hg.tape, hg.output, hg.size, fun k hk hn => hg.block k hk (fun e => hn e.symm)⟩
  have hl : (ks ++ [T]).length = ks.length + 1 := by simp
  have hf : (ks ++ [T]).flatMap xtC = ks.flatMap xtC ++ xtC T := by simp
  have hob : (Value.slice (some ⟨gg, 0, none⟩) (ks.length + 1) cp).ownBlock = some gg := rfl
  have hst : RSt w tb off L z n e a zs w2 := ⟨h.st.be.trans (ho.below (fun k hk => by have := hv k hk; omega) h.st.be.size), ho.same h.st.box (fun e => by have := hv _ e; omega), fun p hp => ⟨ho.same (h.st.own p hp).1 (fun e => by have := hv _ e; have := hzs p hp; omega), (h.st.own p hp).2⟩, h.st.lat⟩
  refine ⟨hst, by rw [hl, hf]; exact hown, fun i hi => ?_⟩
  rw [hob]
  have hne : ∀ b, v.ownBlock ≠ some b → b < wr.heap.size → some gg ≠ some b := fun b h1 h2 e => by
    rcases hat with e2 | e2
    · exact h1 (e2.trans e)
    · injection e with e; omega
  rcases Nat.lt_or_ge i ks.length with c | c
  · have e : (ks ++ [T]).getD i .nil = ks.getD i .nil := by simp [List.getD_eq_getElem?_getD, List.getElem?_append_left c]
    rw [e]
    exact XAt.held_of (fun b hb hl => ⟨hb.1, hne b hb.2 hl⟩) ho.size (fun b hb hl => ho.block b hl hb.2) _ (h.kids i c)
  · obtain rfl : i = ks.length := by omega
    have e : (ks ++ [T]).getD ks.length .nil = T := by simp [List.getD_eq_getElem?_getD]
    rw [e]
    exact XAt.held_of (fun b hb hl => ⟨by omega, hne b (fun e => by have := hN b e; omega) hl⟩) ho.size (fun b hb hl => ho.block b hl (fun e => by have := hN b e; omega)) _ hT
theorem Sames.nil_of {ts : List XT} (h : Sames [] ts) : ts = [] := List.eq_nil_of_length_eq_zero h.1.symm
theorem many_x {W : World} {gg c : Nat} {S S2 : Nat → Prop} {ks : List XT} {N : Nat} (op rel : Int) (hc : ∀ i, i < ks.length → CellsAt W S (some ⟨gg, 0, none⟩) i (xtC (ks.getD i .nil))) (hk : ∀ i, i < ks.length → XAt W (fun b => S b ∧ S2 b) (ks.getD i .nil)) (hn : ks.length = N) (hl : N ≤ 1000) : XAt W S (.node op rel none 0 0 (fun _ => default) (some ⟨gg, 0, none⟩) N c (fun i => ks.getD i .nil)) := by
  subst hn
  exact (xat_iff _).2 ⟨⟨Nat.zero_le _, by show ks.length ≤ _; omega⟩, fun i hi => absurd hi (Nat.not_lt_zero i), fun i hi => ⟨hc i hi, (hk i hi).sub (fun b hb _ => hb.1)⟩⟩
theorem many_same {ks ts : List XT} {T t0 : XT} {op : Int} (h : Sames ks ts) (hT : SameX T t0) (h1 : ¬ ks.length = 0) (c : Nat) (ka : Option Addr) : SameX (.node op 0 none 0 0 (fun _ => default) ka (ks.length + 1) c (fun i => (ks ++ [T]).getD i .nil)) (serX op (ts ++ [t0])) := by
  have h2 := h.snoc hT
  have hl : (ks ++ [T]).length = ks.length + 1 := by simp
  rw [serX_more op (ts ++ [t0]) (by have := h2.1; omega)]
  exact (sameX_iff _ _).2 ⟨rfl, rfl, rfl, fun i hi => absurd hi (Nat.not_lt_zero i), by show ks.length + 1 = (ts ++ [t0]).length; rw [← h2.1, hl], fun i hi => h2.2 i (by rw [hl]; exact hi)⟩
theorem newX1 (T : XT) (w1 : World) : ∀ i u, (xtC T)[i]? = some u → (w1.alloc (.cells #[.int .i64 T.op, .int .i64 T.rel, .slice T.aa T.an T.ac, .slice T.ka T.kn T.kc] 25)).cell? ((⟨w1.heap.size, 0, none⟩ : Addr).add i) = some u := by
  have h := alloc_at w1 (.cells #[.int .i64 T.op, .int .i64 T.rel, .slice T.aa T.an T.ac, .slice T.ka T.kn T.kc] 25)
  intro i u hu
  exact World.news_of_block h i u hu
theorem ser_out {P : List Tk → PR XT} {ws : List UInt8} {op : Int} {f : Nat} {m : List Tk} {ts : List XT} {RR : PR (List XT)} (h : serL P ws (f + 1) m ts = RR) (hq : isR (P m) (.wd ws) = false) : restR (P m) = restR (serO op RR) ∧ ∀ t l', serO op RR = .ok t l' → ∃ t0, P m = .ok t0 l' ∧ t = serX op (ts ++ [t0]) := by
  rw [serL] at h
  cases hp : P m with
  | err e l =>
    rw [hp] at h
    have h : PR.err e l = RR := h
    subst h
    exact ⟨rfl, fun t l' h => by cases h⟩
  | ok x l =>
    rw [hp] at h hq
    have hq : (Cl.wd ws).test (hd l) = false := hq
    have h : (if (Cl.wd ws).test (hd l) = true then serL P ws f l.tail (ts ++ [x]) else .ok (ts ++ [x]) l) = RR := h
    rw [if_neg (by rw [hq]; decide)] at h
    subst h
    exact ⟨rfl, fun t l' h => by injection h with h1 h2; subst h2; exact ⟨x, rfl, h1.symm⟩⟩
theorem ser_on {P : List Tk → PR XT} {ws : List UInt8} {f : Nat} {m : List Tk} {ts : List XT} {RR : PR (List XT)} (h : serL P ws (f + 1) m ts = RR) (hq : isR (P m) (.wd ws) = true) : ∃ t0 l0, P m = .ok t0 l0 ∧ (Cl.wd ws).test (hd l0) = true ∧ serL P ws f l0.tail (ts ++ [t0]) = RR := by
  obtain ⟨x, l, hp, ht⟩ := isR_yes hq
  rw [serL, hp] at h
  have h : (if (Cl.wd ws).test (hd l) = true then serL P ws f l.tail (ts ++ [x]) else .ok (ts ++ [x]) l) = RR := h
  rw [if_pos ht] at h
  exact ⟨x, l, hp, ht, h⟩
theorem endRRow {V : World} {act : Act} {Q : Ending → World → Prop} {a0 a1 a2 a3 : Value} {z n e a : Int} (hd : act.defers = []) (rb sb : Nat) (h1 : act.tmps.getD 6 undef = .pointer (some ⟨rb, 0, none⟩)) (h2 : act.tmps.getD 7 undef = .pointer (some ⟨sb, 0, none⟩)) (hr : V.heap[rb]? = some (.cells #[a0, a1, a2, a3] 25) ∧ V.heap[sb]? = some (pO z n e a))
    (hQ : Q (.returned (.tuple #[.agg #[a0, a1, a2, a3], pV z n e a])) V) : bodyPost Tryz.prog Tryz.f36 Q Exit.ret act V := by
  refine bodyPost_ret (v := .tuple #[.agg #[a0, a1, a2, a3], pV z n e a]) ?_ hd hQ
  have hl1 := run_loadVar_row (P := Tryz.prog) V rb 25 25 #[a0, a1, a2, a3] _ _ hr.1 Tryz.underlying25 rfl (by kernel_rfl)
  have hl2 := run_loadVar_row (P := Tryz.prog) V sb 80 80 #[.int .i64 z, .int .i64 n, .int .i64 e, .int .i64 a] _ _ hr.2 Tryz.underlying80 rfl (by kernel_rfl)
  rw [Array.getD_eq_getD_getElem?] at h1 h2
  simp [results, Tryz.results36, asAddr, hl1, hl2, h1, h2]
set_option maxRecDepth 100000 in
set_option maxHeartbeats 16000000 in
theorem row5_any (P : List Tk → PR XT) (hless : ∀ l, Vd l → l.length ≤ 99 → Less l (P l)) {L : List Tk} {tb off cap : Nat} {n : Int} (hv : Vd L) (hl99 : L.length ≤ 99)
    (hP : ∀ (wx : World) (m : List Tk) (z e a : Int), LAt wx tb off L → Stt L (PR.ok () m) z e a → Calls Tryz.prog 56 #[.slice (some ⟨tb, off, none⟩) L.length cap, pV z n e a] wx (RXTo L (P m) n wx))
    {l : List Tk} {z e a : Int} {w : World} (hL : LAt w tb off L) (hS : Stt L (PR.ok () l) z e a) :
    Calls Tryz.prog 36 #[.slice (some ⟨tb, off, none⟩) L.length cap, pV z n e a, .int .i64 5] w (RXTo L (serP 5 kAND P l) n w) := by
  have hS0 : Stt L (PR.ok () l) z e a := hS
  obtain ⟨i0, hi, hz0, hz1, hz2⟩ := info_parts infoX
  have HS0 := Lib.hid (((RSt.start hL z n e a).new (.cells #[.int .i64 0, .int .i64 0, .slice none 0 0, .slice none 0 0] 25)).new (pO 0 0 0 0))
  have hy1 : (w.alloc (pO z n e a)).heap.size = w.heap.size + 1 := by simp
  have hy2 : ((w.alloc (pO z n e a)).alloc (.cells #[.int .i64 0, .int .i64 0, .slice none 0 0, .slice none 0 0] 25)).heap.size = w.heap.size + 1 + 1 := by simp
  rw [hy1, hy2] at HS0
  obtain ⟨RR, hRR⟩ : ∃ RR, serL P kAND 100 l [] = RR := ⟨_, rfl⟩
  have hser : serP 5 kAND P l = serO 5 RR := by rw [← hRR]; rfl
  rw [hser]
  have HE := Lib.hid hRR
  have HT0 := Lib.hid hS0
  have HV := Lib.hid hv
  have hll := (hS0.vd hv).2
  have HLS := Lib.hid hless
  have HPC := Lib.hid hP
  have HNX := Lib.hid newX1
  have hlt0 := hS0.lt
  clear hy1 hy2 hRR hser hv hL hS hS0 hless hP
  go_enter Tryz.func36, Tryz.ntmps36
  go_upto_region 1 with (fail)
  generalize ((w.alloc (pO z n e a)).alloc (.cells #[.int .i64 0, .int .i64 0, .slice none 0 0, .slice none 0 0] 25)).alloc (pO 0 0 0 0) = W at *
  have HR0 := Lib.hid (show RowSt w tb off L z n e a [(w.heap.size + 1 + 1, pO 0 0 0 0), (w.heap.size + 1, (.cells #[.int .i64 0, .int .i64 0, .slice none 0 0, .slice none 0 0] 25))] (.slice none 0 0) [] W from ⟨HS0.out, World.ownsRow_nil _ _ _ _, fun i hi => by simp at hi⟩)
  go_wp2_with (fail)
  go_loopw [9] (fun v wr => ∃ (ks ts : List XT) (m : List Tk) (f : Nat) (z e a : Int) (vv : Value), vv = v ∧ Hid (RowSt w tb off L z n e a [(w.heap.size + 1 + 1, pO 0 0 0 0), (w.heap.size + 1, (.cells #[.int .i64 0, .int .i64 0, .slice none 0 0, .slice none 0 0] 25))] vv ks wr) ∧ Hid (Sames ks ts) ∧ Hid (Stt L (PR.ok () m) z e a) ∧ m.length ≤ 99 ∧ m.length ≤ f ∧ Hid (serL P kAND (f + 1) m ts = RR) ∧ ks.length + m.length ≤ 100) (fun _ wr => leftR L.length wr w.heap.size)
  case atStart => exact ⟨[], [], l, 99, z, e, a, _, rfl, HR0, Lib.hid Sames.nil, HT0, by omega, by omega, HE, by simp; omega⟩
  case round =>
    obtain ⟨ks, ts, m, f, z, e, a, vv, rfl, HR, HSM, HT, hm99, hmf, HE, hkl⟩ := hrel
    have HMZ := Lib.hid (HR.out.st.leftR L.length)
    have HPX := Lib.hid (fun wx (h : LAt wx tb off L) => HPC.out wx m z e a h HT.out)
    have hy5 := lt_of_block (HR.out.st.own _ List.mem_cons_self).1
    have hbx := HR.out.st.box; obtain ⟨p0, fp0, p1, fp1, p2, fp2, p3, fp3⟩ := bf4 hbx; clear hbx
    go_upto_if 14 with (fail)
    have HRA := Lib.hid (HR.out.st.new (.cells #[.int .i64 0, .int .i64 0, .slice none 0 0, .slice none 0 0] 25))
    have hOA : Only (fun k => k = w.heap.size) wr (wr.alloc (.cells #[.int .i64 0, .int .i64 0, .slice none 0 0, .slice none 0 0] 25)) := Only.of_below ((Below.refl _ _).alloc (Nat.le_refl _) _)
    have hW1 : (wr.alloc (.cells #[.int .i64 0, .int .i64 0, .slice none 0 0, .slice none 0 0] 25)).heap.size = wr.heap.size + 1 := by simp
    generalize wr.alloc (.cells #[.int .i64 0, .int .i64 0, .slice none 0 0, .slice none 0 0] 25) = W1 at *
    have hbx := HRA.out.box; obtain ⟨p0, fp0, p1, fp1, p2, fp2, p3, fp3⟩ := bf4 hbx; clear hbx
    have hr := (HRA.out.own _ List.mem_cons_self).1; obtain ⟨x0, fx0, x1, fx1, x2, fx2, x3, fx3⟩ := bf4 hr; clear hr
    go_cut [] (fun wx => ∃ (T : XT) (z2 e2 a2 : Int), Hid (Stt L (P m) z2 e2 a2) ∧ Hid (∀ t l', P m = .ok t l' → SameX T t) ∧ Hid (XAt wx (fun b => W1.heap.size ≤ b) T) ∧ Hid (wx.heap[wr.heap.size]? = some (.cells #[.int .i64 T.op, .int .i64 T.rel, .slice T.aa T.an T.ac, .slice T.ka T.kn T.kc] 25)) ∧ Hid (RowSt w tb off L z2 n e2 a2 [(w.heap.size + 1 + 1, pO 0 0 0 0), (w.heap.size + 1, (.cells #[.int .i64 0, .int .i64 0, .slice none 0 0, .slice none 0 0] 25))] vv ks wx))
    case first =>
      go_wp2_with (go_at_call 56; refine (HPX.out _ HRA.out.at).mono ?_; rintro x w2 ⟨T, z2, e2, a2, rfl, hs2, hsa, hxt, hb2⟩; have HS2 := Lib.hid (HRA.out.next hb2); have HST := Lib.hid hs2; have HSSA := Lib.hid hsa; have HXT := Lib.hid hxt; have hOB := Lib.hid (hOA.step hb2); have hbx := HS2.out.box; obtain ⟨p0, fp0, p1, fp1, p2, fp2, p3, fp3⟩ := bf4 hbx; clear hbx; have hr := (HS2.out.own _ List.mem_cons_self).1; obtain ⟨x0, fx0, x1, fx1, x2, fx2, x3, fx3⟩ := bf4 hr; clear hr; clear hs2 hsa hxt hb2)
      go_meet
      have hRS := ((HS2.out.put1 (by intro p hp; simp at hp; rcases hp with h | h <;> (rw [h]; show _ ≠ wr.heap.size; omega)) (.int .i64 T.op) (.int .i64 T.rel) (.slice T.aa T.an T.ac) (.slice T.ka T.kn T.kc)).put z2 n e2 a2).drop1
      have h1 := only4 (b := wr.heap.size) (S := fun k => k = wr.heap.size) (Only.refl _ w2) (.inl rfl) (.int .i64 T.op) (.int .i64 T.rel) (.slice T.aa T.an T.ac) (.slice T.ka T.kn T.kc)
      have h2 := only4 (b := w.heap.size) (S := fun k => k = w.heap.size) (Only.refl _ (set4 w2 wr.heap.size (.int .i64 T.op) (.int .i64 T.rel) (.slice T.aa T.an T.ac) (.slice T.ka T.kn T.kc))) (.inl rfl) (.int .i64 z2) (.int .i64 n) (.int .i64 e2) (.int .i64 a2)
      have hX1 := (HXT.out.only h1 (by intro b hb _ e; omega)).only h2 (by intro b hb _ e; omega)
      have hB1 := h2.same (put4 (HS2.out.own _ List.mem_cons_self).1 (.int .i64 T.op) (.int .i64 T.rel) (.slice T.aa T.an T.ac) (.slice T.ka T.kn T.kc)) (by omega)
      have hO1 := only4 (b := w.heap.size) (only4 (b := wr.heap.size) hOB.out (.inr (Nat.le_refl _)) (.int .i64 T.op) (.int .i64 T.rel) (.slice T.aa T.an T.ac) (.slice T.ka T.kn T.kc)) (.inl rfl) (.int .i64 z2) (.int .i64 n) (.int .i64 e2) (.int .i64 a2)
      exact ⟨T, z2, e2, a2, HST, HSSA, Lib.hid hX1, Lib.hid hB1, Lib.hid (HR.out.turn hRS hO1)⟩
    case rest =>
      obtain ⟨T, z2, e2, a2, HT2, HSA, HXT, HXB, HR2⟩ := hcut
      clear HRA hOA HPX p0 p1 p2 p3 fp0 fp1 fp2 fp3 x0 x1 x2 x3 fx0 fx1 fx2 fx3
      obtain ⟨x0, x1, x2, x3⟩ := bx4 HXB.out
      have hz2b := HT2.out.lt
      have hw2 := lt_of_block HXB.out
      have HOB := Lib.hid (show ∀ k, vv.ownBlock = some k → k < W1.heap.size from fun k hk => by have := (HR.out.row.lt k hk).2; omega)
      go_upto_region 9 with (fail)
      have HAL := Lib.hid ((Below.refl wc.heap.size wc).alloc (Nat.le_refl _) (.cells #[.int .i64 T.op, .int .i64 T.rel, .slice T.aa T.an T.ac, .slice T.ka T.kn T.kc] 25))
      go_cut [9] (fun v wx => ∃ gg cp : Nat, v = .slice (some ⟨gg, 0, none⟩) (ks.length + 1) cp ∧ Hid (RowSt w tb off L z2 n e2 a2 [(w.heap.size + 1 + 1, pO 0 0 0 0), (w.heap.size + 1, (.cells #[.int .i64 0, .int .i64 0, .slice none 0 0, .slice none 0 0] 25))] (.slice (some ⟨gg, 0, none⟩) (ks.length + 1) cp) (ks ++ [T]) wx))
      case first =>
        have HRX := Lib.hid (HR2.out.next HAL.out)
        have HXX := Lib.hid (HXT.out.next HAL.out)
        go_wp2_with (at_builtin; refine wpList_append_lies _ rfl _ _ 23 rfl (w.heap.size + 1 + 1 + 1) 25 i0 _ 4 64 Tryz.underlying23 hi hz0 hz1 hz2 rfl (by decide) _ _ _ rfl (HR2.out.row.alloc _) ⟨_, 0, none⟩ 1 1 (xtC T) rfl rfl (HNX.out T wc) (fun u hu => by (simp [xtC] at hu; rcases hu with rfl | rfl | rfl | rfl <;> rfl)) (by decide) (by unfold maxLen; omega) (by omega) (by simp; omega) _ rfl ?_; intro gg cp w5 hown5 hg5 hat5 hlt5; have HSN := Lib.hid (HRX.out.app (by intro p hp; simp at hp; rcases hp with h | h <;> (rw [h]; show _ ≤ w.heap.size + 1 + 1; omega)) HXX.out HOB.out (by omega) hown5 hg5 hat5); clear hown5 hg5 hat5 hlt5)
        go_meet
        exact ⟨gg, cp, rfl, HSN⟩
      case rest =>
        obtain ⟨gg, cp, rfl, HSN⟩ := hcut
        clear HR2 HXT HXB x0 x1 x2 x3 HAL
        have hbx := HSN.out.st.box; obtain ⟨p0, fp0, p1, fp1, p2, fp2, p3, fp3⟩ := bf4 hbx; clear hbx
        cases hq : isR (P m) (.wd kAND) with
        | true =>
          have HIS := Lib.hid (show ∀ wx, LAt wx tb off L → Calls Tryz.prog 57 #[.slice (some ⟨tb, off, none⟩) L.length cap, .agg #[.int .i64 z2, .int .i64 n, .int .i64 e2, .int .i64 a2], .int .i64 1, .string ⟨#[65, 78, 68]⟩] wx fun x w' => x = .returned (.bool true) ∧ Below wx.heap.size wx w' from fun wx h => by have h2 := ris_wd (r := P m) (cap := cap) (n := n) kAND h hl99 HT2.out; rw [hq] at h2; exact h2)
          obtain ⟨t0, l0, hp0, ht0, hser⟩ := ser_on HE.out hq
          have hst2 := (show Stt L (PR.ok t0 l0) z2 e2 a2 from by rw [← hp0]; exact HT2.out).inc HV.out (c := .wd kAND) trivial ht0
          have hls := HLS.out m (HT.out.vd HV.out).1 hm99
          rw [hp0] at hls
          have hlv := hls.1
          have hlt2 := hls.2
          have hsm := HSM.out.snoc (HSA.out t0 l0 hp0)
          obtain ⟨g, rfl⟩ : ∃ g, f = g + 1 := ⟨f - 1, by omega⟩
          obtain ⟨i2, hi2, hil2, hd2, hx1, hx2⟩ := hst2.ok_of
          obtain ⟨i1, hi1, hil1, hd1, he1, ha1⟩ := HT.out.ok_of
          have hlen1 := congrArg List.length hd1
          have hlen2 := congrArg List.length hd2
          rw [List.length_drop] at hlen1 hlen2
          rw [List.length_tail] at hlen2
          have he2 : e2 = 0 := (show Stt L (PR.ok t0 l0) z2 e2 a2 from by rw [← hp0]; exact HT2.out).ok_of.choose_spec.2.2.2.1
          have HW := Lib.hid (And.intro hst2 (And.intro hser hsm))
          have HNUM := Lib.hid (And.intro hi1 (And.intro hi2 (And.intro he1 (And.intro he2 (And.intro hlen1 hlen2)))))
          clear hst2 hser hsm hd1 hd2 hls hlv ht0 hp0 hi1 hi2 he1 ha1 he2 hx1 hx2 hlen1 hlen2
          go_wp2_with (go_at_call 57; refine (HIS.out _ HSN.out.st.at).mono ?_; rintro x w6 ⟨rfl, hb6⟩; have HS6 := Lib.hid (HSN.out.next hb6); have hbx := HS6.out.st.box; obtain ⟨p0, fp0, p1, fp1, p2, fp2, p3, fp3⟩ := bf4 hbx; clear hbx; clear hb6)
          have HS7 := Lib.hid (HS6.out.turn (HS6.out.st.inc (z2 + 1)) ((Only.refl (fun k => k = w.heap.size) w6).setCell (p := ⟨w.heap.size, 0, none⟩) (.inl rfl) _))
          have hmz := HS7.out.st.leftR L.length
          go_roundw
          case rel =>
            have hkl2 : (ks ++ [T]).length = ks.length + 1 := by simp
            obtain ⟨hi1, hi2, he1, he2, hlen1, hlen2⟩ := HNUM.out
            exact ⟨ks ++ [T], ts ++ [t0], l0.tail, g, z2 + 1, e2, a2, _, rfl, HS7, Lib.hid HW.out.2.2, Lib.hid HW.out.1, by rw [List.length_tail]; omega, by rw [List.length_tail]; omega, Lib.hid HW.out.2.1, by rw [hkl2, List.length_tail]; omega⟩
          case measure =>
            obtain ⟨hi1, hi2, he1, he2, hlen1, hlen2⟩ := HNUM.out
            exact left_less hmz (by rw [HMZ.out, he1]) (fun _ => by omega) trivial
        | false =>
          have HIS := Lib.hid (show ∀ wx, LAt wx tb off L → Calls Tryz.prog 57 #[.slice (some ⟨tb, off, none⟩) L.length cap, .agg #[.int .i64 z2, .int .i64 n, .int .i64 e2, .int .i64 a2], .int .i64 1, .string ⟨#[65, 78, 68]⟩] wx fun x w' => x = .returned (.bool false) ∧ Below wx.heap.size wx w' from fun wx h => by have h2 := ris_wd (r := P m) (cap := cap) (n := n) kAND h hl99 HT2.out; rw [hq] at h2; exact h2)
          have HSO := Lib.hid (ser_out (op := 5) HE.out hq)
          have hkl2 : (ks ++ [T]).length = ks.length + 1 := by simp
          clear HE hq
          go_upto_if 42 with (go_at_call 57; refine (HIS.out _ HSN.out.st.at).mono ?_; rintro x w6 ⟨rfl, hb6⟩; have HS6 := Lib.hid (HSN.out.next hb6); clear hb6)
          have hrow := HS6.out.row
          rw [hkl2] at hrow
          have hrl := hrow.lt gg rfl
          have hca := xts_at (S := fun b => w.heap.size + 1 + 1 < b) hrow (by omega) hrl.2
          have HCA := Lib.hid hca
          have hbx := HS6.out.st.box; obtain ⟨p0, fp0, p1, fp1, p2, fp2, p3, fp3⟩ := bf4 hbx; clear hbx
          have hr := (HS6.out.st.own _ (List.mem_cons_of_mem _ List.mem_cons_self)).1; obtain ⟨r0, fr0, r1, fr1, r2, fr2, r3, fr3⟩ := bf4 hr; clear hr
          have hr := (HS6.out.st.own _ List.mem_cons_self).1; obtain ⟨s0, fs0, s1, fs1, s2, fs2, s3, fs3⟩ := bf4 hr; clear hr
          clear hrow hca
          by_cases h1 : ks.length = 0
          · have hks : ks = [] := List.eq_nil_of_length_eq_zero h1
            subst hks
            obtain ⟨bq, oq, eq, _, _, hla⟩ := HCA.out 0 (by simp)
            injection eq with eq
            injection eq with eb eo _
            subst eb
            subst eo
            have hla : LiesAt w6 gg 0 (xtC T) := hla
            have c0 : w6.cell? ⟨gg, 0, none⟩ = some (.int .i64 T.op) := hla 0 _ rfl; have c1 : w6.cell? ⟨gg, 1, none⟩ = some (.int .i64 T.rel) := hla 1 _ rfl; have c2 : w6.cell? ⟨gg, 2, none⟩ = some (.slice T.aa T.an T.ac) := hla 2 _ rfl; have c3 : w6.cell? ⟨gg, 3, none⟩ = some (.slice T.ka T.kn T.kc) := hla 3 _ rfl
            clear hla h1 hkl2
            go_upto_region 13 with (fail)
            go_region
            all_goals
              have hX := (HS6.out.kids 0 (by simp)).set44 (rb := w.heap.size + 1) (sb := w.heap.size + 1 + 1) (by intro b hb; have := hb.1; omega) (.int .i64 T.op) (.int .i64 T.rel) (.slice T.aa T.an T.ac) (.slice T.ka T.kn T.kc) (.int .i64 z2) (.int .i64 n) (.int .i64 e2) (.int .i64 a2)
              have hHS := HS6.out.st
              have HS8 := Lib.hid hHS
              have hP := put44d (HS8.out.own _ (List.mem_cons_of_mem _ List.mem_cons_self)).1 (HS8.out.own _ List.mem_cons_self).1 (by omega) (.int .i64 T.op) (.int .i64 T.rel) (.slice T.aa T.an T.ac) (.slice T.ka T.kn T.kc) (.int .i64 z2) (.int .i64 n) (.int .i64 e2) (.int .i64 a2)
              have hB := (below44 (rb := w.heap.size + 1) (sb := w.heap.size + 1 + 1) HS8.out.be (by omega) (by omega) (.int .i64 T.op) (.int .i64 T.rel) (.slice T.aa T.an T.ac) (.slice T.ka T.kn T.kc) (.int .i64 z2) (.int .i64 n) (.int .i64 e2) (.int .i64 a2)).drew
              generalize (set4 (set4 w6 (w.heap.size + 1) (.int .i64 T.op) (.int .i64 T.rel) (.slice T.aa T.an T.ac) (.slice T.ka T.kn T.kc)) (w.heap.size + 1 + 1) (.int .i64 z2) (.int .i64 n) (.int .i64 e2) (.int .i64 a2)).drew = VV at hP hB hX ⊢
              have hE := fun (act : Act) h1 h2 h3 => endRRow (Q := RXTo L (serO 5 RR) n w) (act := act) h1 (w.heap.size + 1) (w.heap.size + 1 + 1) h2 h3 hP ⟨T, _, _, _, rfl, HT2.out.rest HSO.out.1, (by intro t l' ht; obtain ⟨t0, h2, h3⟩ := HSO.out.2 t l' ht; rw [h3, (Sames.nil_of HSM.out)]; exact HSA.out t0 l' h2), XAt.sub (T := T) hX (fun b hb _ => by have := hb.1; omega), hB⟩
              first
                | (rename_i hKK; refine hKK _ _ (wp_ret ?_); exact hE _ rfl rfl rfl)
                | (go_wp2_with (fail); exact hE _ rfl rfl rfl)
          · have q1 : (((ks.length + 1 : Nat) : Int) == 1) = false := by rw [beq_eq_false_iff_ne]; omega
            have HX1 := Lib.hid h1
            clear h1
            go_upto_region 14 with (fail)
            go_region
            all_goals
              have hX := (many_x 5 0 HCA.out HS6.out.kids hkl2 (c := cp) (by have := HSM.out.1; omega)).set44 (rb := w.heap.size + 1) (sb := w.heap.size + 1 + 1) (by intro b hb; omega) (.int .i64 5) (.int .i64 0) (.slice none 0 0) (.slice (some ⟨gg, 0, none⟩) (ks.length + 1) cp) (.int .i64 z2) (.int .i64 n) (.int .i64 e2) (.int .i64 a2)
              have hHS := HS6.out.st
              have HS8 := Lib.hid hHS
              have hP := put44d (HS8.out.own _ (List.mem_cons_of_mem _ List.mem_cons_self)).1 (HS8.out.own _ List.mem_cons_self).1 (by omega) (.int .i64 5) (.int .i64 0) (.slice none 0 0) (.slice (some ⟨gg, 0, none⟩) (ks.length + 1) cp) (.int .i64 z2) (.int .i64 n) (.int .i64 e2) (.int .i64 a2)
              have hB := (below44 (rb := w.heap.size + 1) (sb := w.heap.size + 1 + 1) HS8.out.be (by omega) (by omega) (.int .i64 5) (.int .i64 0) (.slice none 0 0) (.slice (some ⟨gg, 0, none⟩) (ks.length + 1) cp) (.int .i64 z2) (.int .i64 n) (.int .i64 e2) (.int .i64 a2)).drew
              generalize (set4 (set4 w6 (w.heap.size + 1) (.int .i64 5) (.int .i64 0) (.slice none 0 0) (.slice (some ⟨gg, 0, none⟩) (ks.length + 1) cp)) (w.heap.size + 1 + 1) (.int .i64 z2) (.int .i64 n) (.int .i64 e2) (.int .i64 a2)).drew = VV at hP hB hX ⊢
              have hE := fun (act : Act) h1 h2 h3 => endRRow (Q := RXTo L (serO 5 RR) n w) (act := act) h1 (w.heap.size + 1) (w.heap.size + 1 + 1) h2 h3 hP ⟨_, _, _, _, rfl, HT2.out.rest HSO.out.1, (by intro t l' ht; obtain ⟨t0, h2, h3⟩ := HSO.out.2 t l' ht; rw [h3]; exact many_same HSM.out (HSA.out t0 l' h2) HX1.out _ _), hX.sub (fun b hb _ => by omega), hB⟩
              first
                | (rename_i hKK; refine hKK _ _ (wp_ret ?_); exact hE _ rfl rfl rfl)
                | (go_wp2_with (fail); exact hE _ rfl rfl rfl)
set_option maxRecDepth 100000 in
set_option maxHeartbeats 16000000 in
theorem row6_any (P : List Tk → PR XT) (hless : ∀ l, Vd l → l.length ≤ 99 → Less l (P l)) {L : List Tk} {tb off cap : Nat} {n : Int} (hv : Vd L) (hl99 : L.length ≤ 99)
    (hP : ∀ (wx : World) (m : List Tk) (z e a : Int), LAt wx tb off L → Stt L (PR.ok () m) z e a → Calls Tryz.prog 36 #[.slice (some ⟨tb, off, none⟩) L.length cap, pV z n e a, .int .i64 5] wx (RXTo L (P m) n wx))
    {l : List Tk} {z e a : Int} {w : World} (hL : LAt w tb off L) (hS : Stt L (PR.ok () l) z e a) :
    Calls Tryz.prog 36 #[.slice (some ⟨tb, off, none⟩) L.length cap, pV z n e a, .int .i64 6] w (RXTo L (serP 6 kOR P l) n w) := by
  have hS0 : Stt L (PR.ok () l) z e a := hS
  obtain ⟨i0, hi, hz0, hz1, hz2⟩ := info_parts infoX
  have HS0 := Lib.hid (((RSt.start hL z n e a).new (.cells #[.int .i64 0, .int .i64 0, .slice none 0 0, .slice none 0 0] 25)).new (pO 0 0 0 0))
  have hy1 : (w.alloc (pO z n e a)).heap.size = w.heap.size + 1 := by simp
  have hy2 : ((w.alloc (pO z n e a)).alloc (.cells #[.int .i64 0, .int .i64 0, .slice none 0 0, .slice none 0 0] 25)).heap.size = w.heap.size + 1 + 1 := by simp
  rw [hy1, hy2] at HS0
  obtain ⟨RR, hRR⟩ : ∃ RR, serL P kOR 100 l [] = RR := ⟨_, rfl⟩
  have hser : serP 6 kOR P l = serO 6 RR := by rw [← hRR]; rfl
  rw [hser]
  have HE := Lib.hid hRR
  have HT0 := Lib.hid hS0
  have HV := Lib.hid hv
  have hll := (hS0.vd hv).2
  have HLS := Lib.hid hless
  have HPC := Lib.hid hP
  have HNX := Lib.hid newX1
  have hlt0 := hS0.lt
  clear hy1 hy2 hRR hser hv hL hS hS0 hless hP
  go_enter Tryz.func36, Tryz.ntmps36
  go_upto_region 1 with (fail)
  generalize ((w.alloc (pO z n e a)).alloc (.cells #[.int .i64 0, .int .i64 0, .slice none 0 0, .slice none 0 0] 25)).alloc (pO 0 0 0 0) = W at *
  have HR0 := Lib.hid (show RowSt w tb off L z n e a [(w.heap.size + 1 + 1, pO 0 0 0 0), (w.heap.size + 1, (.cells #[.int .i64 0, .int .i64 0, .slice none 0 0, .slice none 0 0] 25))] (.slice none 0 0) [] W from ⟨HS0.out, World.ownsRow_nil _ _ _ _, fun i hi => by simp at hi⟩)
  go_wp2_with (fail)
  go_loopw [9] (fun v wr => ∃ (ks ts : List XT) (m : List Tk) (f : Nat) (z e a : Int) (vv : Value), vv = v ∧ Hid (RowSt w tb off L z n e a [(w.heap.size + 1 + 1, pO 0 0 0 0), (w.heap.size + 1, (.cells #[.int .i64 0, .int .i64 0, .slice none 0 0, .slice none 0 0] 25))] vv ks wr) ∧ Hid (Sames ks ts) ∧ Hid (Stt L (PR.ok () m) z e a) ∧ m.length ≤ 99 ∧ m.length ≤ f ∧ Hid (serL P kOR (f + 1) m ts = RR) ∧ ks.length + m.length ≤ 100) (fun _ wr => leftR L.length wr w.heap.size)
  case atStart => exact ⟨[], [], l, 99, z, e, a, _, rfl, HR0, Lib.hid Sames.nil, HT0, by omega, by omega, HE, by simp; omega⟩
  case round =>
    obtain ⟨ks, ts, m, f, z, e, a, vv, rfl, HR, HSM, HT, hm99, hmf, HE, hkl⟩ := hrel
    have HMZ := Lib.hid (HR.out.st.leftR L.length)
    have HPX := Lib.hid (fun wx (h : LAt wx tb off L) => HPC.out wx m z e a h HT.out)
    have hy5 := lt_of_block (HR.out.st.own _ List.mem_cons_self).1
    have hbx := HR.out.st.box; obtain ⟨p0, fp0, p1, fp1, p2, fp2, p3, fp3⟩ := bf4 hbx; clear hbx
    go_upto_if 14 with (fail)
    have HRA := Lib.hid (HR.out.st.new (.cells #[.int .i64 0, .int .i64 0, .slice none 0 0, .slice none 0 0] 25))
    have hOA : Only (fun k => k = w.heap.size) wr (wr.alloc (.cells #[.int .i64 0, .int .i64 0, .slice none 0 0, .slice none 0 0] 25)) := Only.of_below ((Below.refl _ _).alloc (Nat.le_refl _) _)
    have hW1 : (wr.alloc (.cells #[.int .i64 0, .int .i64 0, .slice none 0 0, .slice none 0 0] 25)).heap.size = wr.heap.size + 1 := by simp
    generalize wr.alloc (.cells #[.int .i64 0, .int .i64 0, .slice none 0 0, .slice none 0 0] 25) = W1 at *
    have hbx := HRA.out.box; obtain ⟨p0, fp0, p1, fp1, p2, fp2, p3, fp3⟩ := bf4 hbx; clear hbx
    have hr := (HRA.out.own _ List.mem_cons_self).1; obtain ⟨x0, fx0, x1, fx1, x2, fx2, x3, fx3⟩ := bf4 hr; clear hr
    go_cut [] (fun wx => ∃ (T : XT) (z2 e2 a2 : Int), Hid (Stt L (P m) z2 e2 a2) ∧ Hid (∀ t l', P m = .ok t l' → SameX T t) ∧ Hid (XAt wx (fun b => W1.heap.size ≤ b) T) ∧ Hid (wx.heap[wr.heap.size]? = some (.cells #[.int .i64 T.op, .int .i64 T.rel, .slice T.aa T.an T.ac, .slice T.ka T.kn T.kc] 25)) ∧ Hid (RowSt w tb off L z2 n e2 a2 [(w.heap.size + 1 + 1, pO 0 0 0 0), (w.heap.size + 1, (.cells #[.int .i64 0, .int .i64 0, .slice none 0 0, .slice none 0 0] 25))] vv ks wx))
    case first =>
      go_wp2_with (go_at_call 36; refine (HPX.out _ HRA.out.at).mono ?_; rintro x w2 ⟨T, z2, e2, a2, rfl, hs2, hsa, hxt, hb2⟩; have HS2 := Lib.hid (HRA.out.next hb2); have HST := Lib.hid hs2; have HSSA := Lib.hid hsa; have HXT := Lib.hid hxt; have hOB := Lib.hid (hOA.step hb2); have hbx := HS2.out.box; obtain ⟨p0, fp0, p1, fp1, p2, fp2, p3, fp3⟩ := bf4 hbx; clear hbx; have hr := (HS2.out.own _ List.mem_cons_self).1; obtain ⟨x0, fx0, x1, fx1, x2, fx2, x3, fx3⟩ := bf4 hr; clear hr; clear hs2 hsa hxt hb2)
      go_meet
      have hRS := ((HS2.out.put1 (by intro p hp; simp at hp; rcases hp with h | h <;> (rw [h]; show _ ≠ wr.heap.size; omega)) (.int .i64 T.op) (.int .i64 T.rel) (.slice T.aa T.an T.ac) (.slice T.ka T.kn T.kc)).put z2 n e2 a2).drop1
      have h1 := only4 (b := wr.heap.size) (S := fun k => k = wr.heap.size) (Only.refl _ w2) (.inl rfl) (.int .i64 T.op) (.int .i64 T.rel) (.slice T.aa T.an T.ac) (.slice T.ka T.kn T.kc)
      have h2 := only4 (b := w.heap.size) (S := fun k => k = w.heap.size) (Only.refl _ (set4 w2 wr.heap.size (.int .i64 T.op) (.int .i64 T.rel) (.slice T.aa T.an T.ac) (.slice T.ka T.kn T.kc))) (.inl rfl) (.int .i64 z2) (.int .i64 n) (.int .i64 e2) (.int .i64 a2)
      have hX1 := (HXT.out.only h1 (by intro b hb _ e; omega)).only h2 (by intro b hb _ e; omega)
      have hB1 := h2.same (put4 (HS2.out.own _ List.mem_cons_self).1 (.int .i64 T.op) (.int .i64 T.rel) (.slice T.aa T.an T.ac) (.slice T.ka T.kn T.kc)) (by omega)
      have hO1 := only4 (b := w.heap.size) (only4 (b := wr.heap.size) hOB.out (.inr (Nat.le_refl _)) (.int .i64 T.op) (.int .i64 T.rel) (.slice T.aa T.an T.ac) (.slice T.ka T.kn T.kc)) (.inl rfl) (.int .i64 z2) (.int .i64 n) (.int .i64 e2) (.int .i64 a2)
      exact ⟨T, z2, e2, a2, HST, HSSA, Lib.hid hX1, Lib.hid hB1, Lib.hid (HR.out.turn hRS hO1)⟩
    case rest =>
      obtain ⟨T, z2, e2, a2, HT2, HSA, HXT, HXB, HR2⟩ := hcut
      clear HRA hOA HPX p0 p1 p2 p3 fp0 fp1 fp2 fp3 x0 x1 x2 x3 fx0 fx1 fx2 fx3
      obtain ⟨x0, x1, x2, x3⟩ := bx4 HXB.out
      have hz2b := HT2.out.lt
      have hw2 := lt_of_block HXB.out
      have HOB := Lib.hid (show ∀ k, vv.ownBlock = some k → k < W1.heap.size from fun k hk => by have := (HR.out.row.lt k hk).2; omega)
      go_upto_region 9 with (fail)
      have HAL := Lib.hid ((Below.refl wc.heap.size wc).alloc (Nat.le_refl _) (.cells #[.int .i64 T.op, .int .i64 T.rel, .slice T.aa T.an T.ac, .slice T.ka T.kn T.kc] 25))
      go_cut [9] (fun v wx => ∃ gg cp : Nat, v = .slice (some ⟨gg, 0, none⟩) (ks.length + 1) cp ∧ Hid (RowSt w tb off L z2 n e2 a2 [(w.heap.size + 1 + 1, pO 0 0 0 0), (w.heap.size + 1, (.cells #[.int .i64 0, .int .i64 0, .slice none 0 0, .slice none 0 0] 25))] (.slice (some ⟨gg, 0, none⟩) (ks.length + 1) cp) (ks ++ [T]) wx))
      case first =>
        have HRX := Lib.hid (HR2.out.next HAL.out)
        have HXX := Lib.hid (HXT.out.next HAL.out)
        go_wp2_with (at_builtin; refine wpList_append_lies _ rfl _ _ 23 rfl (w.heap.size + 1 + 1 + 1) 25 i0 _ 4 64 Tryz.underlying23 hi hz0 hz1 hz2 rfl (by decide) _ _ _ rfl (HR2.out.row.alloc _) ⟨_, 0, none⟩ 1 1 (xtC T) rfl rfl (HNX.out T wc) (fun u hu => by (simp [xtC] at hu; rcases hu with rfl | rfl | rfl | rfl <;> rfl)) (by decide) (by unfold maxLen; omega) (by omega) (by simp; omega) _ rfl ?_; intro gg cp w5 hown5 hg5 hat5 hlt5; have HSN := Lib.hid (HRX.out.app (by intro p hp; simp at hp; rcases hp with h | h <;> (rw [h]; show _ ≤ w.heap.size + 1 + 1; omega)) HXX.out HOB.out (by omega) hown5 hg5 hat5); clear hown5 hg5 hat5 hlt5)
        go_meet
        exact ⟨gg, cp, rfl, HSN⟩
      case rest =>
        obtain ⟨gg, cp, rfl, HSN⟩ := hcut
        clear HR2 HXT HXB x0 x1 x2 x3 HAL
        have hbx := HSN.out.st.box; obtain ⟨p0, fp0, p1, fp1, p2, fp2, p3, fp3⟩ := bf4 hbx; clear hbx
        cases hq : isR (P m) (.wd kOR) with
        | true =>
          have HIS := Lib.hid (show ∀ wx, LAt wx tb off L → Calls Tryz.prog 57 #[.slice (some ⟨tb, off, none⟩) L.length cap, .agg #[.int .i64 z2, .int .i64 n, .int .i64 e2, .int .i64 a2], .int .i64 1, .string ⟨#[79, 82]⟩] wx fun x w' => x = .returned (.bool true) ∧ Below wx.heap.size wx w' from fun wx h => by have h2 := ris_wd (r := P m) (cap := cap) (n := n) kOR h hl99 HT2.out; rw [hq] at h2; exact h2)
          obtain ⟨t0, l0, hp0, ht0, hser⟩ := ser_on HE.out hq
          have hst2 := (show Stt L (PR.ok t0 l0) z2 e2 a2 from by rw [← hp0]; exact HT2.out).inc HV.out (c := .wd kOR) trivial ht0
          have hls := HLS.out m (HT.out.vd HV.out).1 hm99
          rw [hp0] at hls
          have hlv := hls.1
          have hlt2 := hls.2
          have hsm := HSM.out.snoc (HSA.out t0 l0 hp0)
          obtain ⟨g, rfl⟩ : ∃ g, f = g + 1 := ⟨f - 1, by omega⟩
          obtain ⟨i2, hi2, hil2, hd2, hx1, hx2⟩ := hst2.ok_of
          obtain ⟨i1, hi1, hil1, hd1, he1, ha1⟩ := HT.out.ok_of
          have hlen1 := congrArg List.length hd1
          have hlen2 := congrArg List.length hd2
          rw [List.length_drop] at hlen1 hlen2
          rw [List.length_tail] at hlen2
          have he2 : e2 = 0 := (show Stt L (PR.ok t0 l0) z2 e2 a2 from by rw [← hp0]; exact HT2.out).ok_of.choose_spec.2.2.2.1
          have HW := Lib.hid (And.intro hst2 (And.intro hser hsm))
          have HNUM := Lib.hid (And.intro hi1 (And.intro hi2 (And.intro he1 (And.intro he2 (And.intro hlen1 hlen2)))))
          clear hst2 hser hsm hd1 hd2 hls hlv ht0 hp0 hi1 hi2 he1 ha1 he2 hx1 hx2 hlen1 hlen2
          go_wp2_with (go_at_call 57; refine (HIS.out _ HSN.out.st.at).mono ?_; rintro x w6 ⟨rfl, hb6⟩; have HS6 := Lib.hid (HSN.out.next hb6); have hbx := HS6.out.st.box; obtain ⟨p0, fp0, p1, fp1, p2, fp2, p3, fp3⟩ := bf4 hbx; clear hbx; clear hb6)
          have HS7 := Lib.hid (HS6.out.turn (HS6.out.st.inc (z2 + 1)) ((Only.refl (fun k => k = w.heap.size) w6).setCell (p := ⟨w.heap.size, 0, none⟩) (.inl rfl) _))
          have hmz := HS7.out.st.leftR L.length
          go_roundw
          case rel =>
            have hkl2 : (ks ++ [T]).length = ks.length + 1 := by simp
            obtain ⟨hi1, hi2, he1, he2, hlen1, hlen2⟩ := HNUM.out
            exact ⟨ks ++ [T], ts ++ [t0], l0.tail, g, z2 + 1, e2, a2, _, rfl, HS7, Lib.hid HW.out.2.2, Lib.hid HW.out.1, by rw [List.length_tail]; omega, by rw [List.length_tail]; omega, Lib.hid HW.out.2.1, by rw [hkl2, List.length_tail]; omega⟩
          case measure =>
            obtain ⟨hi1, hi2, he1, he2, hlen1, hlen2⟩ := HNUM.out
            exact left_less hmz (by rw [HMZ.out, he1]) (fun _ => by omega) trivial
        | false =>
          have HIS := Lib.hid (show ∀ wx, LAt wx tb off L → Calls Tryz.prog 57 #[.slice (some ⟨tb, off, none⟩) L.length cap, .agg #[.int .i64 z2, .int .i64 n, .int .i64 e2, .int .i64 a2], .int .i64 1, .string ⟨#[79, 82]⟩] wx fun x w' => x = .returned (.bool false) ∧ Below wx.heap.size wx w' from fun wx h => by have h2 := ris_wd (r := P m) (cap := cap) (n := n) kOR h hl99 HT2.out; rw [hq] at h2; exact h2)
          have HSO := Lib.hid (ser_out (op := 6) HE.out hq)
          have hkl2 : (ks ++ [T]).length = ks.length + 1 := by simp
          clear HE hq
          go_upto_if 42 with (go_at_call 57; refine (HIS.out _ HSN.out.st.at).mono ?_; rintro x w6 ⟨rfl, hb6⟩; have HS6 := Lib.hid (HSN.out.next hb6); clear hb6)
          have hrow := HS6.out.row
          rw [hkl2] at hrow
          have hrl := hrow.lt gg rfl
          have hca := xts_at (S := fun b => w.heap.size + 1 + 1 < b) hrow (by omega) hrl.2
          have HCA := Lib.hid hca
          have hbx := HS6.out.st.box; obtain ⟨p0, fp0, p1, fp1, p2, fp2, p3, fp3⟩ := bf4 hbx; clear hbx
          have hr := (HS6.out.st.own _ (List.mem_cons_of_mem _ List.mem_cons_self)).1; obtain ⟨r0, fr0, r1, fr1, r2, fr2, r3, fr3⟩ := bf4 hr; clear hr
          have hr := (HS6.out.st.own _ List.mem_cons_self).1; obtain ⟨s0, fs0, s1, fs1, s2, fs2, s3, fs3⟩ := bf4 hr; clear hr
          clear hrow hca
          by_cases h1 : ks.length = 0
          · have hks : ks = [] := List.eq_nil_of_length_eq_zero h1
            subst hks
            obtain ⟨bq, oq, eq, _, _, hla⟩ := HCA.out 0 (by simp)
            injection eq with eq
            injection eq with eb eo _
            subst eb
            subst eo
            have hla : LiesAt w6 gg 0 (xtC T) := hla
            have c0 : w6.cell? ⟨gg, 0, none⟩ = some (.int .i64 T.op) := hla 0 _ rfl; have c1 : w6.cell? ⟨gg, 1, none⟩ = some (.int .i64 T.rel) := hla 1 _ rfl; have c2 : w6.cell? ⟨gg, 2, none⟩ = some (.slice T.aa T.an T.ac) := hla 2 _ rfl; have c3 : w6.cell? ⟨gg, 3, none⟩ = some (.slice T.ka T.kn T.kc) := hla 3 _ rfl
            clear hla h1 hkl2
            go_upto_region 13 with (fail)
            go_region
            all_goals
              have hX := (HS6.out.kids 0 (by simp)).set44 (rb := w.heap.size + 1) (sb := w.heap.size + 1 + 1) (by intro b hb; have := hb.1; omega) (.int .i64 T.op) (.int .i64 T.rel) (.slice T.aa T.an T.ac) (.slice T.ka T.kn T.kc) (.int .i64 z2) (.int .i64 n) (.int .i64 e2) (.int .i64 a2)
              have hHS := HS6.out.st
              have HS8 := Lib.hid hHS
              have hP := put44d (HS8.out.own _ (List.mem_cons_of_mem _ List.mem_cons_self)).1 (HS8.out.own _ List.mem_cons_self).1 (by omega) (.int .i64 T.op) (.int .i64 T.rel) (.slice T.aa T.an T.ac) (.slice T.ka T.kn T.kc) (.int .i64 z2) (.int .i64 n) (.int .i64 e2) (.int .i64 a2)
              have hB := (below44 (rb := w.heap.size + 1) (sb := w.heap.size + 1 + 1) HS8.out.be (by omega) (by omega) (.int .i64 T.op) (.int .i64 T.rel) (.slice T.aa T.an T.ac) (.slice T.ka T.kn T.kc) (.int .i64 z2) (.int .i64 n) (.int .i64 e2) (.int .i64 a2)).drew
              generalize (set4 (set4 w6 (w.heap.size + 1) (.int .i64 T.op) (.int .i64 T.rel) (.slice T.aa T.an T.ac) (.slice T.ka T.kn T.kc)) (w.heap.size + 1 + 1) (.int .i64 z2) (.int .i64 n) (.int .i64 e2) (.int .i64 a2)).drew = VV at hP hB hX ⊢
              have hE := fun (act : Act) h1 h2 h3 => endRRow (Q := RXTo L (serO 6 RR) n w) (act := act) h1 (w.heap.size + 1) (w.heap.size + 1 + 1) h2 h3 hP ⟨T, _, _, _, rfl, HT2.out.rest HSO.out.1, (by intro t l' ht; obtain ⟨t0, h2, h3⟩ := HSO.out.2 t l' ht; rw [h3, (Sames.nil_of HSM.out)]; exact HSA.out t0 l' h2), XAt.sub (T := T) hX (fun b hb _ => by have := hb.1; omega), hB⟩
              first
                | (rename_i hKK; refine hKK _ _ (wp_ret ?_); exact hE _ rfl rfl rfl)
                | (go_wp2_with (fail); exact hE _ rfl rfl rfl)
          · have q1 : (((ks.length + 1 : Nat) : Int) == 1) = false := by rw [beq_eq_false_iff_ne]; omega
            have HX1 := Lib.hid h1
            clear h1
            go_upto_region 14 with (fail)
            go_region
            all_goals
              have hX := (many_x 6 0 HCA.out HS6.out.kids hkl2 (c := cp) (by have := HSM.out.1; omega)).set44 (rb := w.heap.size + 1) (sb := w.heap.size + 1 + 1) (by intro b hb; omega) (.int .i64 6) (.int .i64 0) (.slice none 0 0) (.slice (some ⟨gg, 0, none⟩) (ks.length + 1) cp) (.int .i64 z2) (.int .i64 n) (.int .i64 e2) (.int .i64 a2)
              have hHS := HS6.out.st
              have HS8 := Lib.hid hHS
              have hP := put44d (HS8.out.own _ (List.mem_cons_of_mem _ List.mem_cons_self)).1 (HS8.out.own _ List.mem_cons_self).1 (by omega) (.int .i64 6) (.int .i64 0) (.slice none 0 0) (.slice (some ⟨gg, 0, none⟩) (ks.length + 1) cp) (.int .i64 z2) (.int .i64 n) (.int .i64 e2) (.int .i64 a2)
              have hB := (below44 (rb := w.heap.size + 1) (sb := w.heap.size + 1 + 1) HS8.out.be (by omega) (by omega) (.int .i64 6) (.int .i64 0) (.slice none 0 0) (.slice (some ⟨gg, 0, none⟩) (ks.length + 1) cp) (.int .i64 z2) (.int .i64 n) (.int .i64 e2) (.int .i64 a2)).drew
              generalize (set4 (set4 w6 (w.heap.size + 1) (.int .i64 6) (.int .i64 0) (.slice none 0 0) (.slice (some ⟨gg, 0, none⟩) (ks.length + 1) cp)) (w.heap.size + 1 + 1) (.int .i64 z2) (.int .i64 n) (.int .i64 e2) (.int .i64 a2)).drew = VV at hP hB hX ⊢
              have hE := fun (act : Act) h1 h2 h3 => endRRow (Q := RXTo L (serO 6 RR) n w) (act := act) h1 (w.heap.size + 1) (w.heap.size + 1 + 1) h2 h3 hP ⟨_, _, _, _, rfl, HT2.out.rest HSO.out.1, (by intro t l' ht; obtain ⟨t0, h2, h3⟩ := HSO.out.2 t l' ht; rw [h3]; exact many_same HSM.out (HSA.out t0 l' h2) HX1.out _ _), hX.sub (fun b hb _ => by omega), hB⟩
              first
                | (rename_i hKK; refine hKK _ _ (wp_ret ?_); exact hE _ rfl rfl rfl)
                | (go_wp2_with (fail); exact hE _ rfl rfl rfl)
end Go.Proofs.YtjgdkiikkgdbaaaGreatDoor
namespace Go.Proofs.YtjgdkiikkgdbaaaGreatDoor
open Go.RowKit
set_option linter.unusedVariables false
def RNotC (L : List Tk) (tb off cap k : Nat) (N : Int) : Prop := ∀ (wx : World) (m : List Tk) (z e a : Int), LAt wx tb off L → Stt L (PR.ok () m) z e a → Calls Tryz.prog 56 #[.slice (some ⟨tb, off, none⟩) L.length cap, pV z N e a] wx (RXTo L (notP k m) N wx)
theorem close_rest (r : PR XT) : restR (mustR r (.sg [41])) = restR (closeR r) := by
  cases r with
  | err e l => rfl
  | ok x l =>
    show restR (if (Cl.sg [41]).test (hd l) = true then PR.ok () l.tail else .err 11 l) = restR (if cEnd.test (hd l) = true then PR.ok x l.tail else .err 11 l)
    by_cases h : (Cl.sg [41]).test (hd l) = true
    · rw [if_pos h, if_pos (show cEnd.test (hd l) = true from h)]; rfl
    · rw [if_neg h, if_neg (show ¬ cEnd.test (hd l) = true from h)]; rfl
theorem close_ok {r : PR XT} {t : XT} {l' : List Tk} (h : closeR r = .ok t l') : ∃ l1, r = .ok t l1 := by
  cases r with
  | err e l => cases h
  | ok x l =>
    have h : (if cEnd.test (hd l) = true then PR.ok x l.tail else .err 11 l) = .ok t l' := h
    by_cases hc : cEnd.test (hd l) = true
    · rw [if_pos hc] at h; injection h with h1 h2; exact ⟨l, by rw [h1]⟩
    · rw [if_neg hc] at h; cases h
theorem neg_rest (r : PR XT) : restR r = restR (negR r) := by cases r <;> rfl
theorem neg_ok {r : PR XT} {t : XT} {l' : List Tk} (h : negR r = .ok t l') : ∃ x, r = .ok x l' ∧ t = mkX 4 0 [] [x] := by
  cases r with
  | err e l => cases h
  | ok x l => injection h with h1 h2; exact ⟨x, by rw [h2], h1.symm⟩
theorem XAt.set44x {W : World} {S : Nat → Prop} {T : XT} (h : XAt W S T) {rb sb : Nat} (hS : ∀ b, S b → b ≠ rb ∧ b ≠ sb) (a0 a1 a2 a3 c0 c1 c2 c3 : Value) : XAt (set4 (set4 W rb a0 a1 a2 a3) sb c0 c1 c2 c3) S T :=
  (h.only (only4 (b := rb) (S := fun k => k = rb) (Only.refl _ W) (.inl rfl) a0 a1 a2 a3) (fun b s _ e => (hS b s).1 e)).only (only4 (b := sb) (S := fun k => k = sb) (Only.refl _ _) (.inl rfl) c0 c1 c2 c3) (fun b s _ e => (hS b s).2 e)
theorem endRNot {V : World} {act : Act} {Q : Ending → World → Prop} {a0 a1 a2 a3 : Value} {z n e a : Int} (hd : act.defers = []) (rb sb : Nat) (h1 : act.tmps.getD 4 undef = .pointer (some ⟨rb, 0, none⟩)) (h2 : act.tmps.getD 5 undef = .pointer (some ⟨sb, 0, none⟩)) (hr : V.heap[rb]? = some (.cells #[a0, a1, a2, a3] 25) ∧ V.heap[sb]? = some (pO z n e a))
    (hQ : Q (.returned (.tuple #[.agg #[a0, a1, a2, a3], pV z n e a])) V) : bodyPost Tryz.prog Tryz.f56 Q Exit.ret act V := by
  refine bodyPost_ret (v := .tuple #[.agg #[a0, a1, a2, a3], pV z n e a]) ?_ hd hQ
  have hl1 := run_loadVar_row (P := Tryz.prog) V rb 25 25 #[a0, a1, a2, a3] _ _ hr.1 Tryz.underlying25 rfl (by kernel_rfl)
  have hl2 := run_loadVar_row (P := Tryz.prog) V sb 80 80 #[.int .i64 z, .int .i64 n, .int .i64 e, .int .i64 a] _ _ hr.2 Tryz.underlying80 rfl (by kernel_rfl)
  rw [Array.getD_eq_getD_getElem?] at h1 h2
  simp [results, Tryz.results56, asAddr, hl1, hl2, h1, h2]
set_option maxRecDepth 100000 in
set_option maxHeartbeats 8000000 in
theorem rnot_test {L : List Tk} {tb off cap : Nat} (hv : Vd L) (hl99 : L.length ≤ 99) {m : List Tk} {z n e a : Int} {w : World} (hL : LAt w tb off L) (hS : Stt L (PR.ok () m) z e a) (h1 : (Cl.wd kNOT).test (hd m) = false) (h2 : cPar.test (hd m) = false) :
    Calls Tryz.prog 56 #[.slice (some ⟨tb, off, none⟩) L.length cap, pV z n e a] w (RXTo L (testP m) n w) := by
  have HS0 := Lib.hid (((RSt.start hL z n e a).new (.cells #[.int .i64 0, .int .i64 0, .slice none 0 0, .slice none 0 0] 25)).new (pO 0 0 0 0))
  have hy1 : (w.alloc (pO z n e a)).heap.size = w.heap.size + 1 := by simp
  have hy2 : ((w.alloc (pO z n e a)).alloc (.cells #[.int .i64 0, .int .i64 0, .slice none 0 0, .slice none 0 0] 25)).heap.size = w.heap.size + 1 + 1 := by simp
  rw [hy1, hy2] at HS0
  have hlt0 := hS.lt
  clear hy1 hy2
  have HNT := Lib.hid (show ∀ wx, LAt wx tb off L → Calls Tryz.prog 57 #[.slice (some ⟨tb, off, none⟩) L.length cap, .agg #[.int .i64 z, .int .i64 n, .int .i64 e, .int .i64 a], .int .i64 1, .string ⟨#[78, 79, 84]⟩] wx fun x w' => x = .returned (.bool false) ∧ Below wx.heap.size wx w' from fun wx h => by have hh2 := ris_wd (r := PR.ok () m) (cap := cap) (n := n) kNOT h hl99 hS; rw [show isR (PR.ok () m) (.wd kNOT) = false from h1] at hh2; exact hh2)
  have HPA := Lib.hid (show ∀ wx, LAt wx tb off L → Calls Tryz.prog 57 #[.slice (some ⟨tb, off, none⟩) L.length cap, .agg #[.int .i64 z, .int .i64 n, .int .i64 e, .int .i64 a], .int .i64 5, .string ⟨#[40]⟩] wx fun x w' => x = .returned (.bool false) ∧ Below wx.heap.size wx w' from fun wx h => by have hh2 := ris_sg (r := PR.ok () m) (cap := cap) (n := n) [40] h hl99 hS; rw [show isR (PR.ok () m) (.sg [40]) = false from h2] at hh2; exact hh2)
  obtain ⟨i, rfl, hi, hmi, rfl, rfl⟩ := hS.ok_of
  have HTE := Lib.hid (fun wx (h : LAt wx tb off L) => rtest_live (cap := cap) (n := n) h hv hl99 hi hmi)
  clear hS hL hv h1 h2 hmi
  go_enter Tryz.func56, Tryz.ntmps56
  go_upto_region 1 with (fail)
  generalize ((w.alloc (pO ((i : Nat) : Int) n 0 0)).alloc (.cells #[.int .i64 0, .int .i64 0, .slice none 0 0, .slice none 0 0] 25)).alloc (pO 0 0 0 0) = W at *
  have hbx := HS0.out.box
  obtain ⟨p0, fp0, p1, fp1, p2, fp2, p3, fp3⟩ := bf4 hbx
  clear hbx
  go_wp2_with (first
    | (go_at_call 79; refine (HTE.out _ HS3.out.at).mono ?_; rintro x w4 ⟨T, z2, e2, a2, rfl, hs2, hsa, hxt, hb2⟩; have HS4 := Lib.hid (HS3.out.next hb2); have HT2 := Lib.hid hs2; have HSA := Lib.hid hsa; have HXT := Lib.hid (XAt.sub (S' := fun b => w.heap.size + 1 + 1 < b) hxt (fun b hb _ => by have := lt_of_block (HS3.out.own _ List.mem_cons_self).1; omega)); have hr := (HS4.out.own _ (List.mem_cons_of_mem _ List.mem_cons_self)).1; obtain ⟨r0, fr0, r1, fr1, r2, fr2, r3, fr3⟩ := bf4 hr; clear hr; have hr := (HS4.out.own _ List.mem_cons_self).1; obtain ⟨s0, fs0, s1, fs1, s2, fs2, s3, fs3⟩ := bf4 hr; clear hr; clear hs2 hsa hxt hb2)
    | (go_at_call 57; (with_reducible refine (HPA.out _ HS2.out.at).mono ?_); rintro x w3 ⟨rfl, hb⟩; have HS3 := Lib.hid (HS2.out.next hb); have hbx := HS3.out.box; obtain ⟨p0, fp0, p1, fp1, p2, fp2, p3, fp3⟩ := bf4 hbx; clear hbx; clear hb)
    | (go_at_call 57; (with_reducible refine (HNT.out _ HS0.out.at).mono ?_); rintro x w2 ⟨rfl, hb⟩; have HS2 := Lib.hid (HS0.out.next hb); have hbx := HS2.out.box; obtain ⟨p0, fp0, p1, fp1, p2, fp2, p3, fp3⟩ := bf4 hbx; clear hbx; clear hb))
  have hX := XAt.set44x HXT.out (rb := w.heap.size + 1) (sb := w.heap.size + 1 + 1) (by intro b hb; omega) (.int .i64 T.op) (.int .i64 T.rel) (.slice T.aa T.an T.ac) (.slice T.ka T.kn T.kc) (.int .i64 z2) (.int .i64 n) (.int .i64 e2) (.int .i64 a2)
  have hP := put44 (HS4.out.own _ (List.mem_cons_of_mem _ List.mem_cons_self)).1 (HS4.out.own _ List.mem_cons_self).1 (by omega) (.int .i64 T.op) (.int .i64 T.rel) (.slice T.aa T.an T.ac) (.slice T.ka T.kn T.kc) (.int .i64 z2) (.int .i64 n) (.int .i64 e2) (.int .i64 a2)
  have hB := below44 (rb := w.heap.size + 1) (sb := w.heap.size + 1 + 1) HS4.out.be (by omega) (by omega) (.int .i64 T.op) (.int .i64 T.rel) (.slice T.aa T.an T.ac) (.slice T.ka T.kn T.kc) (.int .i64 z2) (.int .i64 n) (.int .i64 e2) (.int .i64 a2)
  exact endRNot rfl (w.heap.size + 1) (w.heap.size + 1 + 1) rfl rfl hP ⟨T, _, _, _, rfl, HT2.out, HSA.out, XAt.sub (T := T) hX (fun b hb _ => by omega), hB⟩
set_option maxRecDepth 100000 in
set_option maxHeartbeats 8000000 in
theorem rnot_deep1 {L : List Tk} {tb off cap : Nat} (hv : Vd L) (hl99 : L.length ≤ 99) {m : List Tk} {z n e a : Int} {w : World} (hL : LAt w tb off L) (hS : Stt L (PR.ok () m) z e a) (h1 : (Cl.wd kNOT).test (hd m) = true) (hn : n = 8) :
    Calls Tryz.prog 56 #[.slice (some ⟨tb, off, none⟩) L.length cap, pV z n e a] w (RXTo L (.err 9 m) n w) := by
  have HS0 := Lib.hid (((RSt.start hL z n e a).new (.cells #[.int .i64 0, .int .i64 0, .slice none 0 0, .slice none 0 0] 25)).new (pO 0 0 0 0))
  have hy1 : (w.alloc (pO z n e a)).heap.size = w.heap.size + 1 := by simp
  have hy2 : ((w.alloc (pO z n e a)).alloc (.cells #[.int .i64 0, .int .i64 0, .slice none 0 0, .slice none 0 0] 25)).heap.size = w.heap.size + 1 + 1 := by simp
  rw [hy1, hy2] at HS0
  have hlt0 := hS.lt
  clear hy1 hy2
  have HNT := Lib.hid (show ∀ wx, LAt wx tb off L → Calls Tryz.prog 57 #[.slice (some ⟨tb, off, none⟩) L.length cap, .agg #[.int .i64 z, .int .i64 n, .int .i64 e, .int .i64 a], .int .i64 1, .string ⟨#[78, 79, 84]⟩] wx fun x w' => x = .returned (.bool true) ∧ Below wx.heap.size wx w' from fun wx h => by have hh2 := ris_wd (r := PR.ok () m) (cap := cap) (n := n) kNOT h hl99 hS; rw [show isR (PR.ok () m) (.wd kNOT) = true from h1] at hh2; exact hh2)
  have HBD := Lib.hid (fun wx (h : LAt wx tb off L) => rbad_any (cap := cap) (n := n) 9 (by decide) h hl99 hS)
  have hn8 : (8 : Int) ≤ n := by omega
  clear hS hL hv h1 hn
  go_enter Tryz.func56, Tryz.ntmps56
  go_upto_region 1 with (fail)
  generalize ((w.alloc (pO z n e a)).alloc (.cells #[.int .i64 0, .int .i64 0, .slice none 0 0, .slice none 0 0] 25)).alloc (pO 0 0 0 0) = W at *
  have hbx := HS0.out.box
  obtain ⟨p0, fp0, p1, fp1, p2, fp2, p3, fp3⟩ := bf4 hbx
  clear hbx
  go_wp2_with (first
    | (go_at_call 37; refine (HBD.out _ HS2.out.at).mono ?_; rintro x w4 ⟨e', a', rfl, hs3, hb3⟩; have HS4 := Lib.hid (HS2.out.next hb3); have HT2 := Lib.hid hs3; have hr := (HS4.out.own _ (List.mem_cons_of_mem _ List.mem_cons_self)).1; obtain ⟨r0, fr0, r1, fr1, r2, fr2, r3, fr3⟩ := bf4 hr; clear hr; have hr := (HS4.out.own _ List.mem_cons_self).1; obtain ⟨s0, fs0, s1, fs1, s2, fs2, s3, fs3⟩ := bf4 hr; clear hr; clear hs3 hb3)
    | (go_at_call 57; (with_reducible refine (HNT.out _ HS0.out.at).mono ?_); rintro x w2 ⟨rfl, hb⟩; have HS2 := Lib.hid (HS0.out.next hb); have hbx := HS2.out.box; obtain ⟨p0, fp0, p1, fp1, p2, fp2, p3, fp3⟩ := bf4 hbx; clear hbx; clear hb))
  have hP := put44 (HS4.out.own _ (List.mem_cons_of_mem _ List.mem_cons_self)).1 (HS4.out.own _ List.mem_cons_self).1 (by omega) (.int .i64 0) (.int .i64 0) (.slice none 0 0) (.slice none 0 0) (.int .i64 z) (.int .i64 n) (.int .i64 e') (.int .i64 a')
  have hB := below44 (rb := w.heap.size + 1) (sb := w.heap.size + 1 + 1) HS4.out.be (by omega) (by omega) (.int .i64 0) (.int .i64 0) (.slice none 0 0) (.slice none 0 0) (.int .i64 z) (.int .i64 n) (.int .i64 e') (.int .i64 a')
  exact endRNot rfl (w.heap.size + 1) (w.heap.size + 1 + 1) rfl rfl hP ⟨.nil, _, _, _, rfl, HT2.out.rest rfl, (by intro t l' h; cases h), trivial, hB⟩
set_option maxRecDepth 100000 in
set_option maxHeartbeats 8000000 in
theorem rnot_deep2 {L : List Tk} {tb off cap : Nat} (hv : Vd L) (hl99 : L.length ≤ 99) {m : List Tk} {z n e a : Int} {w : World} (hL : LAt w tb off L) (hS : Stt L (PR.ok () m) z e a) (h1 : (Cl.wd kNOT).test (hd m) = false) (h2 : cPar.test (hd m) = true) (hn : n = 8) :
    Calls Tryz.prog 56 #[.slice (some ⟨tb, off, none⟩) L.length cap, pV z n e a] w (RXTo L (.err 9 m) n w) := by
  have HS0 := Lib.hid (((RSt.start hL z n e a).new (.cells #[.int .i64 0, .int .i64 0, .slice none 0 0, .slice none 0 0] 25)).new (pO 0 0 0 0))
  have hy1 : (w.alloc (pO z n e a)).heap.size = w.heap.size + 1 := by simp
  have hy2 : ((w.alloc (pO z n e a)).alloc (.cells #[.int .i64 0, .int .i64 0, .slice none 0 0, .slice none 0 0] 25)).heap.size = w.heap.size + 1 + 1 := by simp
  rw [hy1, hy2] at HS0
  have hlt0 := hS.lt
  clear hy1 hy2
  have HNT := Lib.hid (show ∀ wx, LAt wx tb off L → Calls Tryz.prog 57 #[.slice (some ⟨tb, off, none⟩) L.length cap, .agg #[.int .i64 z, .int .i64 n, .int .i64 e, .int .i64 a], .int .i64 1, .string ⟨#[78, 79, 84]⟩] wx fun x w' => x = .returned (.bool false) ∧ Below wx.heap.size wx w' from fun wx h => by have hh2 := ris_wd (r := PR.ok () m) (cap := cap) (n := n) kNOT h hl99 hS; rw [show isR (PR.ok () m) (.wd kNOT) = false from h1] at hh2; exact hh2)
  have HPA := Lib.hid (show ∀ wx, LAt wx tb off L → Calls Tryz.prog 57 #[.slice (some ⟨tb, off, none⟩) L.length cap, .agg #[.int .i64 z, .int .i64 n, .int .i64 e, .int .i64 a], .int .i64 5, .string ⟨#[40]⟩] wx fun x w' => x = .returned (.bool true) ∧ Below wx.heap.size wx w' from fun wx h => by have hh2 := ris_sg (r := PR.ok () m) (cap := cap) (n := n) [40] h hl99 hS; rw [show isR (PR.ok () m) (.sg [40]) = true from h2] at hh2; exact hh2)
  have HBD := Lib.hid (fun wx (h : LAt wx tb off L) => rbad_any (cap := cap) (n := n) 9 (by decide) h hl99 hS)
  have hn8 : (8 : Int) ≤ n := by omega
  clear hS hL hv h1 hn h2
  go_enter Tryz.func56, Tryz.ntmps56
  go_upto_region 1 with (fail)
  generalize ((w.alloc (pO z n e a)).alloc (.cells #[.int .i64 0, .int .i64 0, .slice none 0 0, .slice none 0 0] 25)).alloc (pO 0 0 0 0) = W at *
  have hbx := HS0.out.box
  obtain ⟨p0, fp0, p1, fp1, p2, fp2, p3, fp3⟩ := bf4 hbx
  clear hbx
  go_wp2_with (first
    | (go_at_call 37; refine (HBD.out _ HS3.out.at).mono ?_; rintro x w4 ⟨e', a', rfl, hs3, hb3⟩; have HS4 := Lib.hid (HS3.out.next hb3); have HT2 := Lib.hid hs3; have hr := (HS4.out.own _ (List.mem_cons_of_mem _ List.mem_cons_self)).1; obtain ⟨r0, fr0, r1, fr1, r2, fr2, r3, fr3⟩ := bf4 hr; clear hr; have hr := (HS4.out.own _ List.mem_cons_self).1; obtain ⟨s0, fs0, s1, fs1, s2, fs2, s3, fs3⟩ := bf4 hr; clear hr; clear hs3 hb3)
    | (go_at_call 57; (with_reducible refine (HPA.out _ HS2.out.at).mono ?_); rintro x w3 ⟨rfl, hb⟩; have HS3 := Lib.hid (HS2.out.next hb); have hbx := HS3.out.box; obtain ⟨p0, fp0, p1, fp1, p2, fp2, p3, fp3⟩ := bf4 hbx; clear hbx; clear hb)
    | (go_at_call 57; (with_reducible refine (HNT.out _ HS0.out.at).mono ?_); rintro x w2 ⟨rfl, hb⟩; have HS2 := Lib.hid (HS0.out.next hb); have hbx := HS2.out.box; obtain ⟨p0, fp0, p1, fp1, p2, fp2, p3, fp3⟩ := bf4 hbx; clear hbx; clear hb))
  have hP := put44 (HS4.out.own _ (List.mem_cons_of_mem _ List.mem_cons_self)).1 (HS4.out.own _ List.mem_cons_self).1 (by omega) (.int .i64 0) (.int .i64 0) (.slice none 0 0) (.slice none 0 0) (.int .i64 z) (.int .i64 n) (.int .i64 e') (.int .i64 a')
  have hB := below44 (rb := w.heap.size + 1) (sb := w.heap.size + 1 + 1) HS4.out.be (by omega) (by omega) (.int .i64 0) (.int .i64 0) (.slice none 0 0) (.slice none 0 0) (.int .i64 z) (.int .i64 n) (.int .i64 e') (.int .i64 a')
  exact endRNot rfl (w.heap.size + 1) (w.heap.size + 1 + 1) rfl rfl hP ⟨.nil, _, _, _, rfl, HT2.out.rest rfl, (by intro t l' h; cases h), trivial, hB⟩
set_option maxRecDepth 100000 in
set_option maxHeartbeats 8000000 in
theorem rnot_not {L : List Tk} {tb off cap : Nat} (hv : Vd L) (hl99 : L.length ≤ 99) {m : List Tk} {z n e a : Int} {w : World} (hL : LAt w tb off L) (hS : Stt L (PR.ok () m) z e a) (k : Nat) (HN : RNotC L tb off cap k (n + 1)) (h1 : (Cl.wd kNOT).test (hd m) = true) (hn0 : 0 ≤ n) (hn : n < 8) :
    Calls Tryz.prog 56 #[.slice (some ⟨tb, off, none⟩) L.length cap, pV z n e a] w (RXTo L (negR (notP k m.tail)) n w) := by
  have HS0 := Lib.hid (((RSt.start hL z n e a).new (.cells #[.int .i64 0, .int .i64 0, .slice none 0 0, .slice none 0 0] 25)).new (pO 0 0 0 0))
  have hy1 : (w.alloc (pO z n e a)).heap.size = w.heap.size + 1 := by simp
  have hy2 : ((w.alloc (pO z n e a)).alloc (.cells #[.int .i64 0, .int .i64 0, .slice none 0 0, .slice none 0 0] 25)).heap.size = w.heap.size + 1 + 1 := by simp
  rw [hy1, hy2] at HS0
  have hlt0 := hS.lt
  clear hy1 hy2
  have HNT := Lib.hid (show ∀ wx, LAt wx tb off L → Calls Tryz.prog 57 #[.slice (some ⟨tb, off, none⟩) L.length cap, .agg #[.int .i64 z, .int .i64 n, .int .i64 e, .int .i64 a], .int .i64 1, .string ⟨#[78, 79, 84]⟩] wx fun x w' => x = .returned (.bool true) ∧ Below wx.heap.size wx w' from fun wx h => by have hh2 := ris_wd (r := PR.ok () m) (cap := cap) (n := n) kNOT h hl99 hS; rw [show isR (PR.ok () m) (.wd kNOT) = true from h1] at hh2; exact hh2)
  have HCALL := Lib.hid (fun wx (h : LAt wx tb off L) => HN wx m.tail (z + 1) e a h (hS.inc hv (c := .wd kNOT) trivial h1))
  have HVL := Lib.hid hv
  have hn8 : ¬ (8 : Int) ≤ n := by omega
  clear hS hL hv h1 HN
  go_enter Tryz.func56, Tryz.ntmps56
  go_upto_region 1 with (fail)
  generalize ((w.alloc (pO z n e a)).alloc (.cells #[.int .i64 0, .int .i64 0, .slice none 0 0, .slice none 0 0] 25)).alloc (pO 0 0 0 0) = W at *
  have hbx := HS0.out.box
  obtain ⟨p0, fp0, p1, fp1, p2, fp2, p3, fp3⟩ := bf4 hbx
  clear hbx
  go_upto_region 8 with (first
    | (go_at_call 57; (with_reducible refine (HNT.out _ HS0.out.at).mono ?_); rintro x w2 ⟨rfl, hb⟩; have HS2 := Lib.hid (HS0.out.next hb); have hbx := HS2.out.box; obtain ⟨p0, fp0, p1, fp1, p2, fp2, p3, fp3⟩ := bf4 hbx; clear hbx; clear hb))
  have HS5 := Lib.hid ((HS2.out.inc (z + 1)).nest (n + 1))
  generalize (w2.setCell ⟨w.heap.size, 0, none⟩ (.int .i64 (z + 1))).setCell ⟨w.heap.size, 1, none⟩ (.int .i64 (n + 1)) = V at *
  have hbx := HS5.out.box
  obtain ⟨p0, fp0, p1, fp1, p2, fp2, p3, fp3⟩ := bf4 hbx
  clear hbx
  go_upto_if 39 with (fail)
  have HS6 := Lib.hid (HS5.out.new (.cells #[.int .i64 0, .int .i64 0, .slice none 0 0, .slice none 0 0] 25))
  have hV2 : (V.alloc (.cells #[.int .i64 0, .int .i64 0, .slice none 0 0, .slice none 0 0] 25)).heap.size = V.heap.size + 1 := by simp
  have hy5 := lt_of_block (HS5.out.own _ List.mem_cons_self).1
  generalize V.alloc (.cells #[.int .i64 0, .int .i64 0, .slice none 0 0, .slice none 0 0] 25) = V2 at *
  go_cut [] (fun wx => ∃ (T : XT) (z2 e2 a2 : Int), Hid (Stt L (negR (notP k m.tail)) z2 e2 a2) ∧ Hid (∀ t l', negR (notP k m.tail) = .ok t l' → SameX T t) ∧ Hid (XAt wx (fun b => w.heap.size + 1 + 1 < b ∧ b ≠ V.heap.size) T) ∧ Hid (RSt w tb off L z2 (n + 1) e2 a2 ((V.heap.size, (.cells #[.int .i64 T.op, .int .i64 T.rel, .slice T.aa T.an T.ac, .slice T.ka T.kn T.kc] 25)) :: [(w.heap.size + 1 + 1, pO 0 0 0 0), (w.heap.size + 1, (.cells #[.int .i64 0, .int .i64 0, .slice none 0 0, .slice none 0 0] 25))]) wx))
  case first =>
    have hbx := HS6.out.box; obtain ⟨p0, fp0, p1, fp1, p2, fp2, p3, fp3⟩ := bf4 hbx; clear hbx
    have hr := (HS6.out.own _ List.mem_cons_self).1; obtain ⟨x0, fx0, x1, fx1, x2, fx2, x3, fx3⟩ := bf4 hr; clear hr
    go_upto_region 10 with (fail)
    go_cut [] (fun wx => ∃ (T : XT) (z2 e2 a2 : Int), Hid (Stt L (notP k m.tail) z2 e2 a2) ∧ Hid (∀ t l', notP k m.tail = .ok t l' → SameX T t) ∧ Hid (XAt wx (fun b => V2.heap.size ≤ b) T) ∧ Hid (RSt w tb off L z2 (n + 1) e2 a2 ((V.heap.size, (.cells #[.int .i64 T.op, .int .i64 T.rel, .slice T.aa T.an T.ac, .slice T.ka T.kn T.kc] 25)) :: [(w.heap.size + 1 + 1, pO 0 0 0 0), (w.heap.size + 1, (.cells #[.int .i64 0, .int .i64 0, .slice none 0 0, .slice none 0 0] 25))]) wx))
    case first =>
      go_wp2_with (go_at_call 56; refine (HCALL.out _ HS6.out.at).mono ?_; rintro x w4 ⟨T, z2, e2, a2, rfl, hs2, hsa, hxt, hb2⟩; have HS7 := Lib.hid (HS6.out.next hb2); have HST := Lib.hid hs2; have HSSA := Lib.hid hsa; have HXT := Lib.hid hxt; have hbx := HS7.out.box; obtain ⟨p0, fp0, p1, fp1, p2, fp2, p3, fp3⟩ := bf4 hbx; clear hbx; have hr := (HS7.out.own _ List.mem_cons_self).1; obtain ⟨x0, fx0, x1, fx1, x2, fx2, x3, fx3⟩ := bf4 hr; clear hr; clear hs2 hsa hxt hb2)
      go_meet
      have hRS := (HS7.out.put1 (by intro p hp; simp at hp; rcases hp with h | h <;> (rw [h]; show _ ≠ V.heap.size; omega)) (.int .i64 T.op) (.int .i64 T.rel) (.slice T.aa T.an T.ac) (.slice T.ka T.kn T.kc)).put z2 (n + 1) e2 a2
      have h1 := only4 (b := V.heap.size) (S := fun k => k = V.heap.size) (Only.refl _ w4) (.inl rfl) (.int .i64 T.op) (.int .i64 T.rel) (.slice T.aa T.an T.ac) (.slice T.ka T.kn T.kc)
      have h2 := only4 (b := w.heap.size) (S := fun k => k = w.heap.size) (Only.refl _ (set4 w4 V.heap.size (.int .i64 T.op) (.int .i64 T.rel) (.slice T.aa T.an T.ac) (.slice T.ka T.kn T.kc))) (.inl rfl) (.int .i64 z2) (.int .i64 (n + 1)) (.int .i64 e2) (.int .i64 a2)
      have hX1 := (HXT.out.only h1 (by intro b hb _ e; omega)).only h2 (by intro b hb _ e; omega)
      exact ⟨T, z2, e2, a2, HST, HSSA, Lib.hid hX1, Lib.hid hRS⟩
    case rest =>
      obtain ⟨T, z2, e2, a2, HT2, HSA, HXT, HR7⟩ := hcut
      clear p0 p1 p2 p3 fp0 fp1 fp2 fp3 x0 x1 x2 x3 fx0 fx1 fx2 fx3
      have hr := (HR7.out.own _ List.mem_cons_self).1; obtain ⟨x0, fx0, x1, fx1, x2, fx2, x3, fx3⟩ := bf4 hr; clear hr
      have y4 := lt_of_block (HR7.out.own _ List.mem_cons_self).1
      go_wp2_with (fail)
      go_meet
      have hRN := (HR7.out.put1 (by intro p hp; simp at hp; rcases hp with h | h <;> (rw [h]; show _ ≠ V.heap.size; omega)) (.int .i64 4) (.int .i64 0) (.slice none 0 0) (.slice (some ⟨wc.heap.size, 0, none⟩) 1 1)).newAt (b := wc.heap.size) (by simp) (.cells #[.int .i64 T.op, .int .i64 T.rel, .slice T.aa T.an T.ac, .slice T.ka T.kn T.kc] 25)
      have hX1 := (HXT.out.only (only4 (b := V.heap.size) (S := fun k => k = V.heap.size) (Only.refl _ wc) (.inl rfl) (.int .i64 4) (.int .i64 0) (.slice none 0 0) (.slice (some ⟨wc.heap.size, 0, none⟩) 1 1)) (by intro b hb _ e; omega)).next ((Below.refl _ _).alloc (Nat.le_refl _) (.cells #[.int .i64 T.op, .int .i64 T.rel, .slice T.aa T.an T.ac, .slice T.ka T.kn T.kc] 25))
      exact ⟨.node 4 0 none 0 0 (fun _ => default) (some ⟨wc.heap.size, 0, none⟩) 1 1 (fun i => [T].getD i .nil), z2, e2, a2, Lib.hid (HT2.out.rest (neg_rest _)), Lib.hid (by intro t l' ht; obtain ⟨x, h3, h4⟩ := neg_ok ht; rw [h4]; exact same_kid 4 0 _ _ (HSA.out x l' h3) _ _ _ _ _), Lib.hid (kid_x 4 0 hX1 (hRN.own _ List.mem_cons_self).1 (by intro b hb; omega) (by omega)), Lib.hid hRN.drop1⟩
  case rest =>
    obtain ⟨T, z2, e2, a2, HT2, HSA, HXT, HR7⟩ := hcut
    clear p0 p1 p2 p3 fp0 fp1 fp2 fp3
    have hbx := HR7.out.box; obtain ⟨p0, fp0, p1, fp1, p2, fp2, p3, fp3⟩ := bf4 hbx; clear hbx
    go_upto_region 15 with (fail)
    have HR8 := Lib.hid (HR7.out.nest n)
    have HX8 := Lib.hid (HXT.out.only ((Only.refl (fun k => k = w.heap.size) wc).setCell (p := ⟨w.heap.size, 1, none⟩) (.inl rfl) (.int .i64 n)) (by intro b hb _ e; omega))
    try rw [show n + 1 - 1 = n by omega]
    generalize wc.setCell ⟨w.heap.size, 1, none⟩ (.int .i64 n) = V3 at *
    have hbx := HR8.out.box; obtain ⟨p0, fp0, p1, fp1, p2, fp2, p3, fp3⟩ := bf4 hbx; clear hbx
    have hr := (HR8.out.own _ List.mem_cons_self).1; obtain ⟨x0, fx0, x1, fx1, x2, fx2, x3, fx3⟩ := bf4 hr; clear hr
    have hr := (HR8.out.own _ (List.mem_cons_of_mem _ (List.mem_cons_of_mem _ List.mem_cons_self))).1; obtain ⟨r0, fr0, r1, fr1, r2, fr2, r3, fr3⟩ := bf4 hr; clear hr
    have hr := (HR8.out.own _ (List.mem_cons_of_mem _ List.mem_cons_self)).1; obtain ⟨s0, fs0, s1, fs1, s2, fs2, s3, fs3⟩ := bf4 hr; clear hr
    go_region
    all_goals
      have hX := HX8.out.set44 (rb := w.heap.size + 1) (sb := w.heap.size + 1 + 1) (by intro b hb; omega) (.int .i64 T.op) (.int .i64 T.rel) (.slice T.aa T.an T.ac) (.slice T.ka T.kn T.kc) (.int .i64 z2) (.int .i64 n) (.int .i64 e2) (.int .i64 a2)
      have hP := put44d (HR8.out.own _ (List.mem_cons_of_mem _ (List.mem_cons_of_mem _ List.mem_cons_self))).1 (HR8.out.own _ (List.mem_cons_of_mem _ List.mem_cons_self)).1 (by omega) (.int .i64 T.op) (.int .i64 T.rel) (.slice T.aa T.an T.ac) (.slice T.ka T.kn T.kc) (.int .i64 z2) (.int .i64 n) (.int .i64 e2) (.int .i64 a2)
      have hB := (below44 (rb := w.heap.size + 1) (sb := w.heap.size + 1 + 1) HR8.out.be (by omega) (by omega) (.int .i64 T.op) (.int .i64 T.rel) (.slice T.aa T.an T.ac) (.slice T.ka T.kn T.kc) (.int .i64 z2) (.int .i64 n) (.int .i64 e2) (.int .i64 a2)).drew
      generalize (set4 (set4 V3 (w.heap.size + 1) (.int .i64 T.op) (.int .i64 T.rel) (.slice T.aa T.an T.ac) (.slice T.ka T.kn T.kc)) (w.heap.size + 1 + 1) (.int .i64 z2) (.int .i64 n) (.int .i64 e2) (.int .i64 a2)).drew = VV at hP hB hX ⊢
      have hE := fun (act : Act) h1 h2 h3 => endRNot (Q := RXTo L (negR (notP k m.tail)) n w) (act := act) h1 (w.heap.size + 1) (w.heap.size + 1 + 1) h2 h3 hP ⟨T, _, _, _, rfl, HT2.out, HSA.out, XAt.sub (T := T) hX (fun b hb _ => by omega), hB⟩
      first
        | (rename_i hKK; refine hKK _ _ (wp_ret ?_); exact hE _ rfl rfl rfl)
        | (go_wp2_with (fail); exact hE _ rfl rfl rfl)
set_option maxRecDepth 100000 in
set_option maxHeartbeats 8000000 in
theorem rnot_par {L : List Tk} {tb off cap : Nat} (hv : Vd L) (hl99 : L.length ≤ 99) {m : List Tk} {z n e a : Int} {w : World} (hL : LAt w tb off L) (hS : Stt L (PR.ok () m) z e a) (k : Nat) (HN : ∀ (wx : World) (m : List Tk) (z e a : Int), LAt wx tb off L → Stt L (PR.ok () m) z e a → Calls Tryz.prog 36 #[.slice (some ⟨tb, off, none⟩) L.length cap, pV z (n + 1) e a, .int .i64 6] wx (RXTo L (orP k m) (n + 1) wx)) (h1 : (Cl.wd kNOT).test (hd m) = false) (h2 : cPar.test (hd m) = true) (hn0 : 0 ≤ n) (hn : n < 8) :
    Calls Tryz.prog 56 #[.slice (some ⟨tb, off, none⟩) L.length cap, pV z n e a] w (RXTo L (closeR (orP k m.tail)) n w) := by
  have HS0 := Lib.hid (((RSt.start hL z n e a).new (.cells #[.int .i64 0, .int .i64 0, .slice none 0 0, .slice none 0 0] 25)).new (pO 0 0 0 0))
  have hy1 : (w.alloc (pO z n e a)).heap.size = w.heap.size + 1 := by simp
  have hy2 : ((w.alloc (pO z n e a)).alloc (.cells #[.int .i64 0, .int .i64 0, .slice none 0 0, .slice none 0 0] 25)).heap.size = w.heap.size + 1 + 1 := by simp
  rw [hy1, hy2] at HS0
  have hlt0 := hS.lt
  clear hy1 hy2
  have HNT := Lib.hid (show ∀ wx, LAt wx tb off L → Calls Tryz.prog 57 #[.slice (some ⟨tb, off, none⟩) L.length cap, .agg #[.int .i64 z, .int .i64 n, .int .i64 e, .int .i64 a], .int .i64 1, .string ⟨#[78, 79, 84]⟩] wx fun x w' => x = .returned (.bool false) ∧ Below wx.heap.size wx w' from fun wx h => by have hh2 := ris_wd (r := PR.ok () m) (cap := cap) (n := n) kNOT h hl99 hS; rw [show isR (PR.ok () m) (.wd kNOT) = false from h1] at hh2; exact hh2)
  have HPA := Lib.hid (show ∀ wx, LAt wx tb off L → Calls Tryz.prog 57 #[.slice (some ⟨tb, off, none⟩) L.length cap, .agg #[.int .i64 z, .int .i64 n, .int .i64 e, .int .i64 a], .int .i64 5, .string ⟨#[40]⟩] wx fun x w' => x = .returned (.bool true) ∧ Below wx.heap.size wx w' from fun wx h => by have hh2 := ris_sg (r := PR.ok () m) (cap := cap) (n := n) [40] h hl99 hS; rw [show isR (PR.ok () m) (.sg [40]) = true from h2] at hh2; exact hh2)
  have HCALL := Lib.hid (fun wx (h : LAt wx tb off L) => HN wx m.tail (z + 1) e a h (hS.inc hv (c := cPar) trivial h2))
  have HVL := Lib.hid hv
  have hn8 : ¬ (8 : Int) ≤ n := by omega
  clear hS hL hv h1 HN h2
  go_enter Tryz.func56, Tryz.ntmps56
  go_upto_region 1 with (fail)
  generalize ((w.alloc (pO z n e a)).alloc (.cells #[.int .i64 0, .int .i64 0, .slice none 0 0, .slice none 0 0] 25)).alloc (pO 0 0 0 0) = W at *
  have hbx := HS0.out.box
  obtain ⟨p0, fp0, p1, fp1, p2, fp2, p3, fp3⟩ := bf4 hbx
  clear hbx
  go_upto_region 8 with (first
    | (go_at_call 57; (with_reducible refine (HPA.out _ HS2.out.at).mono ?_); rintro x w3 ⟨rfl, hb⟩; have HS3 := Lib.hid (HS2.out.next hb); have hbx := HS3.out.box; obtain ⟨p0, fp0, p1, fp1, p2, fp2, p3, fp3⟩ := bf4 hbx; clear hbx; clear hb)
    | (go_at_call 57; (with_reducible refine (HNT.out _ HS0.out.at).mono ?_); rintro x w2 ⟨rfl, hb⟩; have HS2 := Lib.hid (HS0.out.next hb); have hbx := HS2.out.box; obtain ⟨p0, fp0, p1, fp1, p2, fp2, p3, fp3⟩ := bf4 hbx; clear hbx; clear hb))
  have HS5 := Lib.hid ((HS3.out.inc (z + 1)).nest (n + 1))
  generalize (w3.setCell ⟨w.heap.size, 0, none⟩ (.int .i64 (z + 1))).setCell ⟨w.heap.size, 1, none⟩ (.int .i64 (n + 1)) = V at *
  have hbx := HS5.out.box
  obtain ⟨p0, fp0, p1, fp1, p2, fp2, p3, fp3⟩ := bf4 hbx
  clear hbx
  go_upto_if 39 with (fail)
  have HS6 := Lib.hid (HS5.out.new (.cells #[.int .i64 0, .int .i64 0, .slice none 0 0, .slice none 0 0] 25))
  have hV2 : (V.alloc (.cells #[.int .i64 0, .int .i64 0, .slice none 0 0, .slice none 0 0] 25)).heap.size = V.heap.size + 1 := by simp
  have hy5 := lt_of_block (HS5.out.own _ List.mem_cons_self).1
  generalize V.alloc (.cells #[.int .i64 0, .int .i64 0, .slice none 0 0, .slice none 0 0] 25) = V2 at *
  go_cut [] (fun wx => ∃ (T : XT) (z2 e2 a2 : Int), Hid (Stt L (closeR (orP k m.tail)) z2 e2 a2) ∧ Hid (∀ t l', closeR (orP k m.tail) = .ok t l' → SameX T t) ∧ Hid (XAt wx (fun b => w.heap.size + 1 + 1 < b ∧ b ≠ V.heap.size) T) ∧ Hid (RSt w tb off L z2 (n + 1) e2 a2 ((V.heap.size, (.cells #[.int .i64 T.op, .int .i64 T.rel, .slice T.aa T.an T.ac, .slice T.ka T.kn T.kc] 25)) :: [(w.heap.size + 1 + 1, pO 0 0 0 0), (w.heap.size + 1, (.cells #[.int .i64 0, .int .i64 0, .slice none 0 0, .slice none 0 0] 25))]) wx))
  case first =>
    have hbx := HS6.out.box; obtain ⟨p0, fp0, p1, fp1, p2, fp2, p3, fp3⟩ := bf4 hbx; clear hbx
    have hr := (HS6.out.own _ List.mem_cons_self).1; obtain ⟨x0, fx0, x1, fx1, x2, fx2, x3, fx3⟩ := bf4 hr; clear hr
    go_upto_region 12 with (fail)
    go_cut [] (fun wx => ∃ (T : XT) (z2 e2 a2 : Int), Hid (Stt L (orP k m.tail) z2 e2 a2) ∧ Hid (∀ t l', orP k m.tail = .ok t l' → SameX T t) ∧ Hid (XAt wx (fun b => V2.heap.size ≤ b) T) ∧ Hid (RSt w tb off L z2 (n + 1) e2 a2 ((V.heap.size, (.cells #[.int .i64 T.op, .int .i64 T.rel, .slice T.aa T.an T.ac, .slice T.ka T.kn T.kc] 25)) :: [(w.heap.size + 1 + 1, pO 0 0 0 0), (w.heap.size + 1, (.cells #[.int .i64 0, .int .i64 0, .slice none 0 0, .slice none 0 0] 25))]) wx))
    case first =>
      go_wp2_with (go_at_call 36; refine (HCALL.out _ HS6.out.at).mono ?_; rintro x w4 ⟨T, z2, e2, a2, rfl, hs2, hsa, hxt, hb2⟩; have HS7 := Lib.hid (HS6.out.next hb2); have HST := Lib.hid hs2; have HSSA := Lib.hid hsa; have HXT := Lib.hid hxt; have hbx := HS7.out.box; obtain ⟨p0, fp0, p1, fp1, p2, fp2, p3, fp3⟩ := bf4 hbx; clear hbx; have hr := (HS7.out.own _ List.mem_cons_self).1; obtain ⟨x0, fx0, x1, fx1, x2, fx2, x3, fx3⟩ := bf4 hr; clear hr; clear hs2 hsa hxt hb2)
      go_meet
      have hRS := (HS7.out.put1 (by intro p hp; simp at hp; rcases hp with h | h <;> (rw [h]; show _ ≠ V.heap.size; omega)) (.int .i64 T.op) (.int .i64 T.rel) (.slice T.aa T.an T.ac) (.slice T.ka T.kn T.kc)).put z2 (n + 1) e2 a2
      have h1 := only4 (b := V.heap.size) (S := fun k => k = V.heap.size) (Only.refl _ w4) (.inl rfl) (.int .i64 T.op) (.int .i64 T.rel) (.slice T.aa T.an T.ac) (.slice T.ka T.kn T.kc)
      have h2 := only4 (b := w.heap.size) (S := fun k => k = w.heap.size) (Only.refl _ (set4 w4 V.heap.size (.int .i64 T.op) (.int .i64 T.rel) (.slice T.aa T.an T.ac) (.slice T.ka T.kn T.kc))) (.inl rfl) (.int .i64 z2) (.int .i64 (n + 1)) (.int .i64 e2) (.int .i64 a2)
      have hX1 := (HXT.out.only h1 (by intro b hb _ e; omega)).only h2 (by intro b hb _ e; omega)
      exact ⟨T, z2, e2, a2, HST, HSSA, Lib.hid hX1, Lib.hid hRS⟩
    case rest =>
      obtain ⟨T, z2, e2, a2, HT2, HSA, HXT, HR7⟩ := hcut
      clear p0 p1 p2 p3 fp0 fp1 fp2 fp3 x0 x1 x2 x3 fx0 fx1 fx2 fx3
      have hbx := HR7.out.box; obtain ⟨p0, fp0, p1, fp1, p2, fp2, p3, fp3⟩ := bf4 hbx; clear hbx
      have HMU := Lib.hid (show ∀ wx, LAt wx tb off L → Calls Tryz.prog 80 #[.slice (some ⟨tb, off, none⟩) L.length cap, .agg #[.int .i64 z2, .int .i64 (n + 1), .int .i64 e2, .int .i64 a2], .int .i64 5, .string ⟨#[41]⟩] wx (MustTo L (mustR (orP k m.tail) (.sg [41])) (n + 1) wx) from fun wx h => rmust_sg (cap := cap) (n := n + 1) [41] h HVL.out hl99 HT2.out)
      go_wp2_with (go_at_call 80; refine (HMU.out _ HR7.out.at).mono ?_; rintro x w5 ⟨z3, e3, a3, rfl, hs, hb⟩; have HSS := Lib.hid (HR7.out.next hb); have HSST := Lib.hid hs; have HXS := Lib.hid (HXT.out.next hb); have hbx := HSS.out.box; obtain ⟨p0, fp0, p1, fp1, p2, fp2, p3, fp3⟩ := bf4 hbx; clear hbx; clear hs hb)
      go_meet
      exact ⟨T, z3, e3, a3, Lib.hid (HSST.out.rest (close_rest _)), Lib.hid (by intro t l' ht; obtain ⟨l1, h3⟩ := close_ok ht; exact HSA.out t l1 h3), Lib.hid ((HXS.out.only (only4 (b := w.heap.size) (S := fun k => k = w.heap.size) (Only.refl _ w5) (.inl rfl) (.int .i64 z3) (.int .i64 (n + 1)) (.int .i64 e3) (.int .i64 a3)) (by intro b hb _ e; omega)).sub (fun b hb _ => by omega)), Lib.hid (HSS.out.put z3 (n + 1) e3 a3)⟩
  case rest =>
    obtain ⟨T, z2, e2, a2, HT2, HSA, HXT, HR7⟩ := hcut
    clear p0 p1 p2 p3 fp0 fp1 fp2 fp3
    have hbx := HR7.out.box; obtain ⟨p0, fp0, p1, fp1, p2, fp2, p3, fp3⟩ := bf4 hbx; clear hbx
    go_upto_region 15 with (fail)
    have HR8 := Lib.hid (HR7.out.nest n)
    have HX8 := Lib.hid (HXT.out.only ((Only.refl (fun k => k = w.heap.size) wc).setCell (p := ⟨w.heap.size, 1, none⟩) (.inl rfl) (.int .i64 n)) (by intro b hb _ e; omega))
    try rw [show n + 1 - 1 = n by omega]
    generalize wc.setCell ⟨w.heap.size, 1, none⟩ (.int .i64 n) = V3 at *
    have hbx := HR8.out.box; obtain ⟨p0, fp0, p1, fp1, p2, fp2, p3, fp3⟩ := bf4 hbx; clear hbx
    have hr := (HR8.out.own _ List.mem_cons_self).1; obtain ⟨x0, fx0, x1, fx1, x2, fx2, x3, fx3⟩ := bf4 hr; clear hr
    have hr := (HR8.out.own _ (List.mem_cons_of_mem _ (List.mem_cons_of_mem _ List.mem_cons_self))).1; obtain ⟨r0, fr0, r1, fr1, r2, fr2, r3, fr3⟩ := bf4 hr; clear hr
    have hr := (HR8.out.own _ (List.mem_cons_of_mem _ List.mem_cons_self)).1; obtain ⟨s0, fs0, s1, fs1, s2, fs2, s3, fs3⟩ := bf4 hr; clear hr
    go_region
    all_goals
      have hX := HX8.out.set44 (rb := w.heap.size + 1) (sb := w.heap.size + 1 + 1) (by intro b hb; omega) (.int .i64 T.op) (.int .i64 T.rel) (.slice T.aa T.an T.ac) (.slice T.ka T.kn T.kc) (.int .i64 z2) (.int .i64 n) (.int .i64 e2) (.int .i64 a2)
      have hP := put44d (HR8.out.own _ (List.mem_cons_of_mem _ (List.mem_cons_of_mem _ List.mem_cons_self))).1 (HR8.out.own _ (List.mem_cons_of_mem _ List.mem_cons_self)).1 (by omega) (.int .i64 T.op) (.int .i64 T.rel) (.slice T.aa T.an T.ac) (.slice T.ka T.kn T.kc) (.int .i64 z2) (.int .i64 n) (.int .i64 e2) (.int .i64 a2)
      have hB := (below44 (rb := w.heap.size + 1) (sb := w.heap.size + 1 + 1) HR8.out.be (by omega) (by omega) (.int .i64 T.op) (.int .i64 T.rel) (.slice T.aa T.an T.ac) (.slice T.ka T.kn T.kc) (.int .i64 z2) (.int .i64 n) (.int .i64 e2) (.int .i64 a2)).drew
      generalize (set4 (set4 V3 (w.heap.size + 1) (.int .i64 T.op) (.int .i64 T.rel) (.slice T.aa T.an T.ac) (.slice T.ka T.kn T.kc)) (w.heap.size + 1 + 1) (.int .i64 z2) (.int .i64 n) (.int .i64 e2) (.int .i64 a2)).drew = VV at hP hB hX ⊢
      have hE := fun (act : Act) h1 h2 h3 => endRNot (Q := RXTo L (closeR (orP k m.tail)) n w) (act := act) h1 (w.heap.size + 1) (w.heap.size + 1 + 1) h2 h3 hP ⟨T, _, _, _, rfl, HT2.out, HSA.out, XAt.sub (T := T) hX (fun b hb _ => by omega), hB⟩
      first
        | (rename_i hKK; refine hKK _ _ (wp_ret ?_); exact hE _ rfl rfl rfl)
        | (go_wp2_with (fail); exact hE _ rfl rfl rfl)
/-- not, at whatever depth -/
theorem rnot_any {L : List Tk} {tb off cap : Nat} (hv : Vd L) (hl99 : L.length ≤ 99) : ∀ (k : Nat) (n : Int), 0 ≤ n → n + k = 8 → RNotC L tb off cap k n
  | 0, n, h0, h8, wx, m, z, e, a, hL, hS => by
    cases h1 : (Cl.wd kNOT).test (hd m) with
    | true => rw [notP_deep m (by rw [h1]; rfl)]; exact rnot_deep1 hv hl99 hL hS h1 (by omega)
    | false =>
      cases h2 : cPar.test (hd m) with
      | true => rw [notP_deep m (by rw [h2, Bool.or_true])]; exact rnot_deep2 hv hl99 hL hS h1 h2 (by omega)
      | false => rw [notP_test 0 m h1 h2]; exact rnot_test hv hl99 hL hS h1 h2
  | k + 1, n, h0, h8, wx, m, z, e, a, hL, hS => by
    have ih := rnot_any (tb := tb) (off := off) (cap := cap) hv hl99 k (n + 1) (by omega) (by omega)
    cases h1 : (Cl.wd kNOT).test (hd m) with
    | true => rw [notP_not k m h1]; exact rnot_not hv hl99 hL hS k ih h1 h0 (by omega)
    | false =>
      cases h2 : cPar.test (hd m) with
      | true =>
        rw [notP_par k m h1 h2]
        exact rnot_par hv hl99 hL hS k (fun wx m z e a hL hS => row6_any (serP 5 kAND (notP k)) (serP_less 5 kAND (notP_less k)) hv hl99 (fun wx m z e a hL hS => row5_any (notP k) (notP_less k) hv hl99 ih hL hS) hL hS) h1 h2 h0 (by omega)
      | false => rw [notP_test (k + 1) m h1 h2]; exact rnot_test hv hl99 hL hS h1 h2
theorem ror_any {L : List Tk} {tb off cap : Nat} (hv : Vd L) (hl99 : L.length ≤ 99) {l : List Tk} {z e a : Int} {w : World} (hL : LAt w tb off L) (hS : Stt L (PR.ok () l) z e a) :
    Calls Tryz.prog 36 #[.slice (some ⟨tb, off, none⟩) L.length cap, pV z 0 e a, .int .i64 6] w (RXTo L (orP 8 l) 0 w) :=
  row6_any (serP 5 kAND (notP 8)) (serP_less 5 kAND (notP_less 8)) hv hl99 (fun wx m z e a hL hS => row5_any (notP 8) (notP_less 8) hv hl99 (rnot_any hv hl99 8 0 (Int.le_refl _) rfl) hL hS) hL hS
end Go.Proofs.YtjgdkiikkgdbaaaGreatDoor
