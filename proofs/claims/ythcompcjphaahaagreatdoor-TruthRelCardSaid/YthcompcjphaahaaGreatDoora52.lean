/- Chapter 19's reference: Rel. -/
import Derived.Test.YthcompcjphaahaaGreatDoora32
namespace Go.Proofs.YthcompcjphaahaaGreatDoor
open Go.RowKit
set_option linter.unusedVariables false
set_option linter.unusedSimpArgs false
set_option maxRecDepth 100000 in
set_option maxHeartbeats 4000000 in
theorem refRel_any (r:Int) (a b:DatV) (ha:0≤a.num) (hb:0≤b.num) (w:World):
  Calls Tryz.prog 15 #[.int .i64 r,.agg #[.int .i64 a.kind,.bool a.neg,.int .u64 a.num,.string a.text],.agg #[.int .i64 b.kind,.bool b.neg,.int .u64 b.num,.string b.text]] w fun e w'=>e=.returned (.bool (relB r a b))∧Below w.heap.size w w':=by
 obtain ⟨ka,ga,na,ta⟩:=a
 obtain ⟨kb,gb,nb,tb⟩:=b
 simp only at ha hb ⊢
 have HC:=Lib.hid (fun wx=>Pa.refCmp_any ka kb na nb ga gb ta tb ha hb wx)
 have HB0:=Lib.hid (((Below.refl w.heap.size w).alloc (Nat.le_refl _) (.cells #[.int .i64 ka,.bool ga,.int .u64 na,.string ta] 42)).alloc (by simp) (.cells #[.int .i64 kb,.bool gb,.int .u64 nb,.string tb] 42))
 by_cases hk:ka=kb
 · subst hk
   by_cases h0:ka=0
   · subst h0
     rw [relB_no (fun h=>h.2 rfl)]
     clear HC
     go_enter Tryz.func15,Tryz.ntmps15
     go_wp2
     go_ret
     exact ⟨rfl,HB0.out⟩
   · rw [relB_yes (show (⟨ka,ga,na,ta⟩:DatV).kind=(⟨ka,gb,nb,tb⟩:DatV).kind from rfl) h0]
     have k0:(ka==0)=false:=by rw [beq_eq_false_iff_ne];exact h0
     obtain ⟨C,hC⟩:∃ C,Pa.cmpD ⟨ka,ga,na,ta⟩ ⟨ka,gb,nb,tb⟩=C:=⟨_,rfl⟩
     rw [hC] at HC ⊢
     clear hC h0
     by_cases hr:r<1∨6<r
     · rw [relC_no hr]
       by_cases r1:r<1
       · clear HC hr
         have d1:decide (r<1)=true:=decide_eq_true r1
         go_enter Tryz.func15,Tryz.ntmps15
         go_wp2
         go_ret
         exact ⟨rfl,HB0.out⟩
       · have r6:6<r:=by omega
         clear HC hr
         have d1:decide (r<1)=false:=decide_eq_false r1
         have d6:decide (6<r)=true:=decide_eq_true r6
         go_enter Tryz.func15,Tryz.ntmps15
         go_wp2
         go_ret
         exact ⟨rfl,HB0.out⟩
     · have h6:r=1∨r=2∨r=3∨r=4∨r=5∨r=6:=by omega
       clear hr
       by_cases c1:C<0
       · rw [relC_neg c1]
         have e1:decide (C<0)=true:=decide_eq_true c1
         clear c1
         rcases h6 with rfl|rfl|rfl|rfl|rfl|rfl
         all_goals
          go_enter Tryz.func15,Tryz.ntmps15
          go_wp2_with (go_at_call 35;refine (HC.out _).mono ?_;rintro e w1 ⟨rfl,hb⟩;have HB1:=Lib.hid (bth HB0.out hb);clear hb)
          go_ret
          exact ⟨ret_b19 (by decide),(((HB1.out.alloc HB1.out.size _).alloc (by have:=HB1.out.size;simp;omega) _).alloc (by have:=HB1.out.size;simp;omega) _)⟩
       · by_cases c2:0<C
         · rw [relC_pos c2]
           have e1:decide (C<0)=false:=decide_eq_false c1
           have e2:decide (0<C)=true:=decide_eq_true c2
           clear c1 c2
           rcases h6 with rfl|rfl|rfl|rfl|rfl|rfl
           all_goals
            go_enter Tryz.func15,Tryz.ntmps15
            go_wp2_with (go_at_call 35;refine (HC.out _).mono ?_;rintro e w1 ⟨rfl,hb⟩;have HB1:=Lib.hid (bth HB0.out hb);clear hb)
            go_ret
            exact ⟨ret_b19 (by decide),(((HB1.out.alloc HB1.out.size _).alloc (by have:=HB1.out.size;simp;omega) _).alloc (by have:=HB1.out.size;simp;omega) _)⟩
         · obtain rfl:C=0:=by omega
           rw [relC_zero]
           clear c1 c2
           rcases h6 with rfl|rfl|rfl|rfl|rfl|rfl
           all_goals
            go_enter Tryz.func15,Tryz.ntmps15
            go_wp2_with (go_at_call 35;refine (HC.out _).mono ?_;rintro e w1 ⟨rfl,hb⟩;have HB1:=Lib.hid (bth HB0.out hb);clear hb)
            go_ret
            exact ⟨ret_b19 (by decide),(((HB1.out.alloc HB1.out.size _).alloc (by have:=HB1.out.size;simp;omega) _).alloc (by have:=HB1.out.size;simp;omega) _)⟩
 · rw [relB_no (fun h=>hk h.1)]
   have k0:(ka !=kb)=true:=by rw [bne_iff_ne];exact hk
   clear HC hk
   go_enter Tryz.func15,Tryz.ntmps15
   go_wp2
   go_ret
   exact ⟨rfl,HB0.out⟩
end Go.Proofs.YthcompcjphaahaaGreatDoor
