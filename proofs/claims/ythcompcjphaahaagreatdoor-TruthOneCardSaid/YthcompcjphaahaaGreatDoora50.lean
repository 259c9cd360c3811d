/- Chapter 19's law TruthOne in plain Lean: how many relations hold. -/
import Derived.Test.YthcompcjphaahaaGreatDoora32
namespace Go.Proofs.YthcompcjphaahaaGreatDoor
open Go.RowKit
set_option linter.unusedVariables false
def cntR (a b:DatV):Nat→Nat|0=>0|j+1=>cntR a b j+(if relB (j:Nat) a b then 1 else 0)
theorem cntR_le (a b:DatV):∀ j,cntR a b j≤j
 |0=>Nat.le_refl _
 |j+1=>by
  have:=cntR_le a b j
  rw [cntR]
  split <;> omega
theorem cntR_1 (a b:DatV):cntR a b 1=0:=by
 have h:relB ((0:Nat):Int) a b=false:=by
  unfold relB
  split
  · exact relC_no (.inl (by decide))
  · rfl
 rw [cntR,h];rfl
theorem cntR_none {a b:DatV} (h:¬(a.kind=b.kind∧a.kind≠0)):∀ j,cntR a b j=0
 |0=>rfl
 |j+1=>by rw [cntR,cntR_none h j,relB_no h];rfl
theorem cntR_neg {a b:DatV} (h:a.kind=b.kind) (h0:a.kind≠0) (hc:Pa.cmpD a b<0):cntR a b 7=3:=by
 simp only [cntR,relB_yes h h0,relC_neg hc];decide
theorem cntR_pos {a b:DatV} (h:a.kind=b.kind) (h0:a.kind≠0) (hc:0<Pa.cmpD a b):cntR a b 7=3:=by
 simp only [cntR,relB_yes h h0,relC_pos hc];decide
theorem cntR_zero {a b:DatV} (h:a.kind=b.kind) (h0:a.kind≠0) (hc:Pa.cmpD a b=0):cntR a b 7=3:=by
 simp only [cntR,relB_yes h h0,hc,relC_zero];decide
theorem bl_self:∀ x:List UInt8,Op.bytesLess x x=false
 | []=>rfl
 |a::x=>by
  show (decide (a<a)||(a==a&&Op.bytesLess x x))=false
  rw [bl_self x,decide_eq_false (by rw [UInt8.lt_iff_toNat_lt];omega)];simp
theorem bl_swap:∀ x y:List UInt8,x≠y→Op.bytesLess x y=!Op.bytesLess y x
 | [],[],h=>absurd rfl h
 | [],_::_,_=>rfl
 |_::_,[],_=>rfl
 |a::x,b::y,h=>by
  show (decide (a<b)||(a==b&&Op.bytesLess x y))=!(decide (b<a)||(b==a&&Op.bytesLess y x))
  by_cases hab:a=b
  · subst hab
    rw [bl_swap x y (fun e=>h (by rw [e])),decide_eq_false (show ¬a<a by rw [UInt8.lt_iff_toNat_lt];omega)];simp
  · have h1:(a==b)=false:=by rw [beq_eq_false_iff_ne];exact hab
    have h2:(b==a)=false:=by rw [beq_eq_false_iff_ne];exact fun e=>hab e.symm
    rw [h1,h2]
    have h3:a.toNat≠b.toNat:=fun e=>hab (UInt8.toNat_inj.1 e)
    by_cases hl:a<b
    · rw [decide_eq_true hl,decide_eq_false (by rw [UInt8.lt_iff_toNat_lt] at *;omega)];rfl
    · rw [decide_eq_false hl,decide_eq_true (by rw [UInt8.lt_iff_toNat_lt] at *;omega)];rfl
theorem cmpT_neg (a b:ByteArray):Pa.cmpT b a=-Pa.cmpT a b:=by
 unfold Pa.cmpT
 by_cases h:a.toList=b.toList
 · rw [h,bl_self];simp [Pa.threeZ]
 · have h1:(a.toList==b.toList)=false:=by rw [beq_eq_false_iff_ne];exact h
   have h2:(b.toList==a.toList)=false:=by rw [beq_eq_false_iff_ne];exact fun e=>h e.symm
   rw [h1,h2,bl_swap _ _ h]
   cases Op.bytesLess b.toList a.toList <;> rfl
theorem cmpI_neg (a b:Int):cmpI b a=-cmpI a b:=by unfold cmpI;split <;> split <;> first|omega|(split <;> omega)
theorem cmpD_neg {a b:DatV} (h:a.kind=b.kind):Pa.cmpD b a=-Pa.cmpD a b:=by
 have e1:Pa.cmpD a b=if a.kind=1 then cmpI (dv a) (dv b) else if a.kind=2 then Pa.cmpT a.text b.text else if a.kind=3 then cmpI a.num b.num else 0:=by unfold Pa.cmpD;exact if_neg (fun k=>k h)
 have e2:Pa.cmpD b a=if a.kind=1 then cmpI (dv b) (dv a) else if a.kind=2 then Pa.cmpT b.text a.text else if a.kind=3 then cmpI b.num a.num else 0:=by unfold Pa.cmpD;rw [h];exact if_neg (fun k=>k rfl)
 rw [e1,e2]
 by_cases h1:a.kind=1
 · rw [if_pos h1,if_pos h1];exact cmpI_neg _ _
 · rw [if_neg h1,if_neg h1]
   by_cases h2:a.kind=2
   · rw [if_pos h2,if_pos h2];exact cmpT_neg _ _
   · rw [if_neg h2,if_neg h2]
     by_cases h3:a.kind=3
     · rw [if_pos h3,if_pos h3];exact cmpI_neg _ _
     · rw [if_neg h3,if_neg h3];rfl
end Go.Proofs.YthcompcjphaahaaGreatDoor
