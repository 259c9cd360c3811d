/- further: the operands of a test behind the first one. -/
import Derived.Test.YtjgdkiikkgdbaaaGreatDoorQ11
namespace Go.Proofs.YtjgdkiikkgdbaaaGreatDoor
open Go.RowKit
set_option linter.unusedVariables false
/-- good or bad in one form -/
def AnsX (r : PR XT) (T : XT) (e : Nat) (l' : List Tk) : Prop := (e = 0 ∧ ∃ t, r = .ok t l' ∧ SameX T t) ∨ (T = .nil ∧ r = .err e l')
theorem own_g {g n c k : Nat} (h : (Value.slice (some ⟨g, 0, none⟩) n c).ownBlock = some k) : g = k := by simpa [Value.ownBlock] using h
theorem infoOpd : (Tryz.prog.info? 34).map (fun i => (i.zero, i.size, i.bytes)) = some (some (.agg #[.int .i64 0, .string ⟨#[]⟩, .bool false, .int .u64 0]), 4, 40) := by kernel_rfl
theorem opdC_get : ∀ (a : List Opd) (i m : Nat), i < a.length → m < 4 → (a.flatMap opdC)[i * 4 + m]? = (opdC (a.getD i default))[m]?
  | [], i, m, h, _ => by simp at h
  | x :: r, 0, m, _, hm => by
    rw [List.flatMap_cons, List.getElem?_append_left (by show _ < 4; omega), Nat.zero_mul, Nat.zero_add]; rfl
  | x :: r, i + 1, m, h, hm => by
    rw [List.flatMap_cons, List.getElem?_append_right (by show 4 ≤ _; omega)]
    show (r.flatMap opdC)[(i + 1) * 4 + m - 4]? = _
    rw [show (i + 1) * 4 + m - 4 = i * 4 + m by omega, opdC_get r i m (by simpa using h) hm]
    rfl
/-- the operands of a row that is owned lie in it -/
theorem opds_at {w : World} {base n c g : Nat} {a : List Opd} {S : Nat → Prop} (h : w.ownsRow base 34 4 (.slice (some ⟨g, 0, none⟩) n c) n (a.flatMap opdC)) (hS : S g) (hl : g < w.heap.size) : ∀ i, i < a.length → CellsAt w S (some ⟨g, 0, none⟩) i (opdC (a.getD i default)) := by
  intro i hi
  refine ⟨g, 0, rfl, hS, hl, fun r u hu => ?_⟩
  have hr : r < 4 := (List.getElem?_eq_some_iff.1 hu).1
  have h2 := h.cells (g := g) rfl (i * 4 + r) u (by rw [opdC_get a i r hi hr]; exact hu)
  have hadd : (⟨g, 0, none⟩ : Addr).add (i * 4 + r) = ⟨g, 0 + i * 4 + r, none⟩ := by unfold Addr.add; split <;> simp_all
  rwa [hadd] at h2
def FurTo (w : World) (bp tb ab : Nat) (r : PR XT) (x : Ending) (w' : World) : Prop := Only (fun k => k = bp ∨ k = ab) w w' ∧ ∃ (T : XT) (e : Nat) (l' : List Tk), x = .returned (.tuple #[.agg #[.int .i64 T.op, .int .i64 T.rel, .slice T.aa T.an T.ac, .slice T.ka T.kn T.kc], .int .i64 (e : Nat)]) ∧ PAt w' bp tb l' ∧ XAt w' (fun b => b = ab ∨ w.heap.size ≤ b) T ∧ AnsX r T e l'
structure FurSt (w : World) (bp tb ab ib : Nat) (op rel : Int) (cs : List Cl) (vs : List Value) (g c : Nat) (a : List Opd) (l : List Tk) (wr : World) : Prop where
  pat : PAt wr bp tb l
  box : wr.heap[w.heap.size]? = some (.cells #[.int .i64 op, .int .i64 rel, .slice (some ⟨g, 0, none⟩) a.length c, .slice none 0 0] 25)
  res : wr.heap[w.heap.size + 1]? = some (.cells #[.int .i64 0, .int .i64 0, .slice none 0 0, .slice none 0 0] 25)
  row : wr.ownsRow ab 34 4 (.slice (some ⟨g, 0, none⟩) a.length c) a.length (a.flatMap opdC)
  cls : ClRow wr ib cs vs
  only : Only (fun k => k = bp ∨ k = ab) w wr
  pos : g = ab ∨ w.heap.size + 1 < g
  lt : bp < w.heap.size ∧ tb < w.heap.size ∧ ab < w.heap.size ∧ bp ≠ ab ∧ tb ≠ ab
theorem FurSt.next {w wr w' : World} {bp tb ab ib g c : Nat} {op rel : Int} {cs : List Cl} {vs : List Value} {a : List Opd} {l : List Tk} (h : FurSt w bp tb ab ib op rel cs vs g c a l wr) (hb : Below wr.heap.size wr w') : FurSt w bp tb ab ib op rel cs vs g c a l w' :=
  ⟨h.pat.next hb, rowKeep hb h.box, rowKeep hb h.res, (Only.of_below (S := fun _ => False) hb).row h.row (fun _ _ f => f), h.cls.next hb, h.only.step hb, h.pos, h.lt⟩
theorem FurSt.skip {w wr w' : World} {bp tb ab ib g c : Nat} {op rel : Int} {cs : List Cl} {vs : List Value} {a : List Opd} {l l' : List Tk} (h : FurSt w bp tb ab ib op rel cs vs g c a l wr) (hp : PAt w' bp tb l') (ho : Only (fun k => k = bp) wr w') : FurSt w bp tb ab ib op rel cs vs g c a l' w' :=
  ⟨hp, ho.same h.box (by have := h.lt; omega), ho.same h.res (by have := h.lt; omega), ho.row h.row (fun k hk e => by have := own_g hk; have := h.lt; have := h.pos; omega), h.cls.only ho h.pat.kind, h.only.trans ho (fun i _ e => .inl e), h.pos, h.lt⟩
theorem grown_only {w w' : World} {g : Nat} (hg : w.grownBy w' (some g)) : Only (fun k => k = g) w w' := ⟨hg.os, hg.tape, hg.output, hg.size, fun k hk hn => hg.block k hk (fun e => hn (Option.some.inj e))⟩
theorem own_type {w : World} {base n c g : Nat} {e : TypeId} {xs : List Value} {s : Nat} (h : w.ownsRow base e s (.slice (some ⟨g, 0, none⟩) n c) n xs) : ∃ cur, w.heap[g]? = some (.cells cur e) := by
  rcases h.2 with ⟨hv, _⟩ | ⟨g', cap', cur, hv, hb, hg, _⟩
  · cases hv
  · injection hv with e1 e2 e3
    injection e1 with e1
    injection e1 with e1 _ _
    subst e1
    exact ⟨cur, hg⟩
theorem FurSt.app {w wr w2 : World} {bp tb ab ib g c gg cp : Nat} {op rel : Int} {cs : List Cl} {vs : List Value} {a : List Opd} {o : Opd} {l : List Tk} (h : FurSt w bp tb ab ib op rel cs vs g c a l wr)
    (hown : w2.ownsRow ab 34 4 (.slice (some ⟨gg, 0, none⟩) (a.length + 1) cp) (a.length + 1) (a.flatMap opdC ++ opdC o)) (hg : wr.grownBy w2 (some g)) (hat : some g = some gg ∨ gg = wr.heap.size) (hlt : gg < w2.heap.size) (hbig : w.heap.size + 1 < wr.heap.size) :
    FurSt w bp tb ab ib op rel cs vs gg cp (a ++ [o]) l (w2.setCell ⟨w.heap.size, 2, none⟩ (.slice (some ⟨gg, 0, none⟩) (a.length + 1) cp)) := by
  have ho := grown_only hg
  have hpos := h.pos
  have hlt2 := h.lt
  have hgg : gg = ab ∨ w.heap.size + 1 < gg := by
    rcases hat with e | e
    · injection e with e; omega
    · omega
  have hbx : w2.heap[w.heap.size]? = _ := ho.same h.box (by omega)
  have hset := set_at (j := 2) (u := .slice (some ⟨gg, 0, none⟩) (a.length + 1) cp) hbx
  have hx : Only (fun k => k = w.heap.size) w2 (w2.setCell ⟨w.heap.size, 2, none⟩ (.slice (some ⟨gg, 0, none⟩) (a.length + 1) cp)) := (Only.refl (fun k => k = w.heap.size) w2).setCell (p := ⟨w.heap.size, 2, none⟩) (.inl rfl) _
  have hk : ∀ o, wr.heap[g]? = some o → ∃ cs t, o = .cells cs t ∧ t ≠ 3 ∧ t ≠ 9 ∧ t ≠ 64 := by
    intro o ho
    obtain ⟨cur, hc⟩ := own_type h.row
    rw [hc] at ho
    exact ⟨_, _, (Option.some.inj ho).symm, by decide, by decide, by decide⟩
  have hk2 : ∀ o, w2.heap[w.heap.size]? = some o → ∃ cs t, o = .cells cs t ∧ t ≠ 3 ∧ t ≠ 9 ∧ t ≠ 64 := by
    intro o ho
    rw [hbx] at ho
    exact ⟨_, _, (Option.some.inj ho).symm, by decide, by decide, by decide⟩
  have hl : (a ++ [o]).length = a.length + 1 := by simp
  have hf : (a ++ [o]).flatMap opdC = a.flatMap opdC ++ opdC o := by simp
  refine ⟨(h.pat.only ho (by omega) (by omega)).only hx (by omega) (by omega), ?_, hx.same (ho.same h.res (by omega)) (by omega), ?_, (h.cls.only ho hk).only hx hk2, ?_, hgg, hlt2⟩
  · rw [hl]; exact hset
  · rw [hl, hf]
    exact hx.row hown (fun k hk e => by have := own_g hk; omega)
  · refine (h.only.trans ho (fun i hi e => ?_)).trans hx (fun i hi e => ?_)
    · rcases hpos with e2 | e2
      · exact .inr (e.trans e2)
      · omega
    · omega
theorem endFur {V : World} {act : Act} {Q : Ending → World → Prop} {a0 a1 a2 a3 : Value} {e : Int} (hd : act.defers = []) (rb : Nat) (h2 : act.tmps.getD 6 undef = .pointer (some ⟨rb, 0, none⟩)) (h3 : act.tmps.getD 7 undef = .int .i64 e) (hr : V.heap[rb]? = some (.cells #[a0, a1, a2, a3] 25))
    (hQ : Q (.returned (.tuple #[.agg #[a0, a1, a2, a3], .int .i64 e])) V) : bodyPost Tryz.prog Tryz.f111 Q Exit.ret act V := by
  refine bodyPost_ret (v := .tuple #[.agg #[a0, a1, a2, a3], .int .i64 e]) ?_ hd hQ
  have hl2 := run_loadVar_row (P := Tryz.prog) V rb 25 25 #[a0, a1, a2, a3] _ _ hr Tryz.underlying25 rfl (by kernel_rfl)
  rw [Array.getD_eq_getD_getElem?] at h2 h3
  simp [results, Tryz.results111, asAddr, hl2, h2, h3]
theorem furX_alt (op rel : Int) (cs : List Cl) (l : List Tk) (a : List Opd) : furX op rel cs l a = match furP cs l a with
  | .err e l' => .err e l'
  | .ok b l' => .ok (mkX op rel b []) l' := rfl
theorem newOpd (o : Opd) (w1 : World) (O1 : Obj) : ∀ i u, (opdC o)[i]? = some u → ((w1.alloc O1).alloc (.cells #[.int .i64 o.kind, .string o.text, .bool o.neg, .int .u64 o.num] 34)).cell? ((⟨w1.heap.size + 1, 0, none⟩ : Addr).add i) = some u := by
  have h := alloc_at (w1.alloc O1) (.cells #[.int .i64 o.kind, .string o.text, .bool o.neg, .int .u64 o.num] 34)
  have hz : (w1.alloc O1).heap.size = w1.heap.size + 1 := by simp
  rw [hz] at h
  intro i u hu
  exact World.news_of_block h i u hu
set_option maxRecDepth 100000 in
set_option maxHeartbeats 4000000 in
theorem further_any (op rel : Int) (cs : List Cl) (hin : ∀ c ∈ cs, c.inner) (vs : List Value) (bp tb ab ib c : Nat) (l : List Tk) (a : List Opd) (w : World) (hp : PAt w bp tb l) (hr : ClRow w ib cs vs)
    (hown : w.ownsRow ab 34 4 (.slice (some ⟨ab, 0, none⟩) a.length c) a.length (a.flatMap opdC)) (hne : bp ≠ ab ∧ tb ≠ ab) (hv : Vd l) (h99 : l.length ≤ 99) (ha : a.length + cs.length ≤ 10) :
    Calls Tryz.prog 111 #[.pointer (some ⟨bp, 0, none⟩), .agg #[.int .i64 op, .int .i64 rel, .slice (some ⟨ab, 0, none⟩) a.length c, .slice none 0 0], .slice (some ⟨ib, 0, none⟩) cs.length cs.length] w (FurTo w bp tb ab (furX op rel cs l a)) := by
  have hablt : ab < w.heap.size := by obtain ⟨cur, hc⟩ := own_type hown; exact lt_of_block hc
  have HF0 := Lib.hid (show FurSt w bp tb ab ib op rel cs vs ab c a l ((w.alloc (.cells #[.int .i64 op, .int .i64 rel, .slice (some ⟨ab, 0, none⟩) a.length c, .slice none 0 0] 25)).alloc (.cells #[.int .i64 0, .int .i64 0, .slice none 0 0, .slice none 0 0] 25)) from by
    have hb : Below w.heap.size w ((w.alloc (.cells #[.int .i64 op, .int .i64 rel, .slice (some ⟨ab, 0, none⟩) a.length c, .slice none 0 0] 25)).alloc (.cells #[.int .i64 0, .int .i64 0, .slice none 0 0, .slice none 0 0] 25)) := ((Below.refl w.heap.size w).alloc (Nat.le_refl _) _).alloc (by simp) _
    refine ⟨hp.next hb, alloc_old (alloc_at w _), ?_, (Only.of_below (S := fun _ => False) hb).row hown (fun _ _ f => f), hr.next hb, Only.of_below hb, .inl rfl, hp.blt, hp.lt, hablt, hne.1, hne.2⟩
    have := alloc_at (w.alloc (.cells #[.int .i64 op, .int .i64 rel, .slice (some ⟨ab, 0, none⟩) a.length c, .slice none 0 0] 25)) (.cells #[.int .i64 0, .int .i64 0, .slice none 0 0, .slice none 0 0] 25)
    simpa using this)
  obtain ⟨i0, hi, hz0, hz1, hz2⟩ := info_parts infoOpd
  obtain ⟨RR, hRR⟩ : ∃ RR, furX op rel cs l a = RR := ⟨_, rfl⟩
  have HX := Lib.hid (show furX op rel (cs.drop 0) l a = RR from hRR)
  have HV := Lib.hid hv
  have HIN := Lib.hid hin
  rw [hRR]
  have ha1 : a.length ≤ 10 := by omega
  clear hRR hp hr hown hv hin hne
  go_enter Tryz.func111, Tryz.ntmps111
  go_wp2
  have HTG := Lib.hid (fun (o : Obj) (wx : World) => (Below.refl wx.heap.size wx).alloc (Nat.le_refl _) o)
  go_loopw [14] (fun i wr => ∃ (j g c : Nat) (b : List Opd) (m : List Tk), j ≤ cs.length ∧ i = .int .i64 j ∧ Hid (FurSt w bp tb ab ib op rel cs vs g c b m wr) ∧ Hid (Vd m) ∧ m.length ≤ 99 ∧ b.length + (cs.length - j) ≤ 10 ∧ Hid (furX op rel (cs.drop j) m b = RR)) (fun i _ => cs.length - (intOf i).toNat)
  case atStart => exact ⟨0, ab, c, a, l, Nat.zero_le _, rfl, HF0, HV, h99, by omega, HX⟩
  case round =>
    obtain ⟨j, g, c, b, m, hj, rfl, HF, HVm, hm99, hbl, HE⟩ := hrel
    by_cases hlt : j < cs.length
    · have hE := HE.out
      rw [drop_cons (cs := cs) hlt, furX_alt, furP] at hE
      have cv := HF.out.cls.cell (cs := cs) hlt
      have HCV := Lib.hid (HF.out.cls.all j hlt)
      obtain ⟨cc, hc⟩ : ∃ c, cs.getD j .nm = c := ⟨_, rfl⟩
      obtain ⟨v, hvv⟩ : ∃ v, vs.getD j undef = v := ⟨_, rfl⟩
      rw [hc] at hE HCV
      rw [hvv] at cv HCV
      have hci : cc.inner := by
        rw [← hc, List.getD_eq_getElem?_getD, List.getElem?_eq_getElem (show j < cs.length from hlt)]
        exact HIN.out _ (List.getElem_mem (show j < cs.length from hlt))
      clear hc hvv
      have hm0 := HVm.out.pos
      cases hct : cc.test (hd m) with
      | false =>
        rw [hct] at hE
        have HR := Lib.hid (show RR = .err 11 m from hE.symm)
        have HSK := Lib.hid (skip_no bp tb m cc v wr HF.out.pat HCV.out hm0 hm99 (Short.hd HVm.out.short) hct)
        clear hct hE
        go_wp2_with (go_at_call 71; refine (HSK.out).mono ?_; rintro e w3 ⟨rfl, hb3⟩; have HFX := Lib.hid (HF.out.next hb3); have hzz := HFX.out.res; obtain ⟨r0, f0, r1, f1, r2, f2, r3, f3⟩ := bf4 hzz; clear hzz; clear hb3)
        have hO := only4 (b := w.heap.size + 1) HFX.out.only (.inr (by omega)) (.int .i64 0) (.int .i64 0) (.slice none 0 0) (.slice none 0 0)
        have hPA := HFX.out.pat.only (K := fun k => k = w.heap.size + 1) (only4 (b := w.heap.size + 1) (S := fun k => k = w.heap.size + 1) (Only.refl _ _) (.inl rfl) (.int .i64 0) (.int .i64 0) (.slice none 0 0) (.slice none 0 0)) (by have := HFX.out.lt; omega) (by have := HFX.out.lt; omega)
        refine endFur rfl (w.heap.size + 1) rfl rfl (put4 HFX.out.res _ _ _ _) ?_
        exact ⟨hO, .nil, 11, _, rfl, hPA, trivial, .inr ⟨rfl, HR.out⟩⟩
      | true =>
        rw [hct] at hE
        obtain ⟨hv2, hl2⟩ := HVm.out.tail hci hct
        have hm2 := hv2.pos
        have HSK := Lib.hid (skip_yes bp tb m cc v wr HF.out.pat HCV.out (by omega) hm99 (Short.hd HVm.out.short) hct)
        obtain ⟨q, hq⟩ : ∃ q, m.tail = q := ⟨_, rfl⟩
        rw [hq] at hE hv2 hl2 hm2 HSK
        have hq99 : q.length ≤ 99 := by omega
        have hless := operandP_less q hv2 hq99
        have HOP := Lib.hid (fun wx (hpx : PAt wx bp tb q) => operand_any bp tb q wx hpx hv2 hq99)
        clear hct hq
        cases hop : operandP q with
        | err e2 l2 =>
          rw [hop] at hless HOP hE
          have HR := Lib.hid (show RR = .err e2 l2 from hE.symm)
          have q2 : (((e2 : Nat) : Int) != 0) = true := by have := hless.2.2; simp; omega
          unfold OpTo at HOP
          clear hE hop hless
          go_wp2_with (first
            | (go_at_call 109; refine (HOP.out _ HF3.out.pat).mono ?_; rintro x w4 ⟨ho4, rfl, hp4⟩; have HFX := Lib.hid (HF3.out.skip hp4 ho4); have hzz := HFX.out.res; obtain ⟨r0, f0, r1, f1, r2, f2, r3, f3⟩ := bf4 hzz; clear hzz; have zl : w.heap.size + 1 < w4.heap.size := lt_of_block HFX.out.res; have zn : ¬ w.heap.size + 1 = w4.heap.size := (by omega); clear hp4 ho4)
            | (go_at_call 71; refine (HSK.out).mono ?_; rintro e w3 ⟨rfl, hp3, ho3⟩; have HF3 := Lib.hid (HF.out.skip hp3 ho3); clear hp3 ho3))
          have hO := only4 (b := w.heap.size + 1) HFX.out.only (.inr (by omega)) (.int .i64 0) (.int .i64 0) (.slice none 0 0) (.slice none 0 0)
          have hO := hO.alloc (.cells #[.int .i64 0, .string ⟨#[]⟩, .bool false, .int .u64 0] 34)
          have hPA := HFX.out.pat.only (K := fun k => k = w.heap.size + 1) (only4 (b := w.heap.size + 1) (S := fun k => k = w.heap.size + 1) (Only.refl _ _) (.inl rfl) (.int .i64 0) (.int .i64 0) (.slice none 0 0) (.slice none 0 0)) (by have := HFX.out.lt; omega) (by have := HFX.out.lt; omega)
          have hPA := hPA.next (HTG.out (.cells #[.int .i64 0, .string ⟨#[]⟩, .bool false, .int .u64 0] 34) _)
          refine endFur rfl (w.heap.size + 1) rfl rfl (alloc_old (put4 HFX.out.res _ _ _ _)) ?_
          exact ⟨hO, .nil, e2, _, rfl, hPA, trivial, .inr ⟨rfl, HR.out⟩⟩
        | ok o l2 =>
          rw [hop] at hless HOP hE
          have HV2 := Lib.hid hless.1
          have hl22 := hless.2
          have HR := Lib.hid (show furX op rel (cs.drop (j + 1)) l2 (b ++ [o]) = RR from hE)
          unfold OpTo at HOP
          have HNO := Lib.hid (newOpd o)
          have HL1 := Lib.hid (show (b ++ [o]).length = b.length + 1 by simp)
          have HAPP := Lib.hid (show ∀ (wx w2 : World) (gg cp : Nat), FurSt w bp tb ab ib op rel cs vs g c b l2 wx → w2.ownsRow ab 34 4 (.slice (some ⟨gg, 0, none⟩) (b.length + 1) cp) (b.length + 1) (b.flatMap opdC ++ opdC o) → wx.grownBy w2 (some g) → (some g = some gg ∨ gg = wx.heap.size) → gg < w2.heap.size → w.heap.size + 1 < wx.heap.size → FurSt w bp tb ab ib op rel cs vs gg cp (b ++ [o]) l2 (w2.setCell ⟨w.heap.size, 2, none⟩ (.slice (some ⟨gg, 0, none⟩) (b.length + 1) cp)) from fun wx w2 gg cp h a1 a2 a3 a4 a5 => h.app a1 a2 a3 a4 a5)
          clear hE hop hless
          go_wp2_with (first
            | (at_builtin; refine wpList_append_lies _ rfl _ _ 22 rfl ab 34 i0 _ 4 40 Tryz.underlying22 hi hz0 hz1 hz2 rfl (by decide) _ _ _ rfl ((HF4.out.row.alloc _).alloc _) ⟨_, 0, none⟩ 1 1 (opdC o) rfl rfl (HNO.out w4 _) (fun u hu => by (simp [opdC] at hu; rcases hu with rfl | rfl | rfl | rfl <;> rfl)) (by decide) (by unfold maxLen; omega) (by omega) (by have := HF4.out.only.size; have := HF4.out.lt; simp; omega) _ rfl ?_; intro gg cp w5 hown5 hg5 hat5 hlt5; have h45 := HF4.out.next (bthen (HTG.out (.cells #[.int .i64 o.kind, .string o.text, .bool o.neg, .int .u64 o.num] 34) w4) (HTG.out (.cells #[.int .i64 o.kind, .string o.text, .bool o.neg, .int .u64 o.num] 34) (w4.alloc (.cells #[.int .i64 o.kind, .string o.text, .bool o.neg, .int .u64 o.num] 34)))); have hbx5 := (grown_only (g := g) hg5).same h45.box (by have := HF4.out.pos; have := HF4.out.lt; omega); have y2 := free_at (j := 2) hbx5; have z2 := cell_at (j := 2) hbx5 rfl; have HFN := Lib.hid (HAPP.out _ _ _ _ h45 hown5 hg5 hat5 hlt5 (by have := lt_of_block HF4.out.res; simp; omega)); clear hown5 hg5 hat5 hlt5 h45 hbx5)
            | (go_at_call 109; refine (HOP.out _ HF3.out.pat).mono ?_; rintro x w4 ⟨ho4, rfl, hp4⟩; have HF4 := Lib.hid (HF3.out.skip hp4 ho4); have x2 : w4.cell? ⟨w.heap.size, 2, none⟩ = some (.slice (some ⟨g, 0, none⟩) b.length c) := cell_at HF4.out.box rfl; have x2l : w.heap.size < w4.heap.size := lt_of_block HF4.out.box; have x2n : ¬ w.heap.size = w4.heap.size := (by omega); clear hp4 ho4)
            | (go_at_call 71; refine (HSK.out).mono ?_; rintro e w3 ⟨rfl, hp3, ho3⟩; have HF3 := Lib.hid (HF.out.skip hp3 ho3); clear hp3 ho3))
          go_roundw
          case rel => exact ⟨j + 1, gg, cp, b ++ [o], l2, by omega, by go_num, HFN, HV2, by omega, by rw [HL1.out]; omega, HR⟩
          case measure => simp [intOf]; omega
    · obtain rfl : j = cs.length := by omega
      have hE := HE.out
      rw [List.drop_eq_nil_of_le (show cs.length ≤ cs.length from Nat.le_refl _)] at hE
      have HR := Lib.hid (show RR = .ok (mkX op rel b []) m from hE.symm)
      clear hE
      have hbx := HF.out.box
      obtain ⟨x0, x1, x2, x3⟩ := bx4 hbx
      clear hbx
      have hzz := HF.out.res
      obtain ⟨r0, f0, r1, f1, r2, f2, r3, f3⟩ := bf4 hzz
      clear hzz
      go_wp2
      have hO := only4 (b := w.heap.size + 1) HF.out.only (.inr (by omega)) (.int .i64 op) (.int .i64 rel) (.slice (some ⟨g, 0, none⟩) b.length c) (.slice none 0 0)
      have h4 := only4 (b := w.heap.size + 1) (S := fun k => k = w.heap.size + 1) (Only.refl _ wr) (.inl rfl) (.int .i64 op) (.int .i64 rel) (.slice (some ⟨g, 0, none⟩) b.length c) (.slice none 0 0)
      have hPA := HF.out.pat.only (K := fun k => k = w.heap.size + 1) h4 (by have := HF.out.lt; omega) (by have := HF.out.lt; omega)
      refine endFur rfl (w.heap.size + 1) rfl rfl (put4 HF.out.res _ _ _ _) ?_
      refine ⟨hO, .node op rel (some ⟨g, 0, none⟩) b.length c (fun i => b.getD i default) none 0 0 (fun _ => .nil), 0, m, rfl, hPA, ?_, .inl ⟨rfl, _, HR.out, ?_⟩⟩
      · obtain ⟨cur, hcur⟩ := own_type HF.out.row
        have hS := opds_at (S := fun b => (b = ab ∨ w.heap.size ≤ b) ∧ b ≠ w.heap.size + 1) HF.out.row (by have := HF.out.pos; have := HF.out.lt; omega) (lt_of_block hcur)
        exact (xat_iff _).2 ⟨⟨by show b.length ≤ _; omega, Nat.zero_le _⟩, fun i hi => ((hS i hi).only (K := fun k => k = w.heap.size + 1) h4 (fun b hb _ => hb.2)).held (fun b hb _ => hb.1) (Nat.le_refl _) (fun _ _ _ => rfl), fun i hi => absurd hi (Nat.not_lt_zero i)⟩
      · exact (sameX_iff _ _).2 ⟨rfl, rfl, rfl, fun i hi => rfl, rfl, fun i hi => absurd hi (Nat.not_lt_zero i)⟩
end Go.Proofs.YtjgdkiikkgdbaaaGreatDoor
