/- Contract of chapter 5's reference: Of. -/
import Derived.Deep.DeepCutAuto
import Derived.Laws.Cover1
import Derived.Test.YthcompcjphaahaaGreatDoora13
namespace Go.Proofs.YthcompcjphaahaaGreatDoor.Pa
open Go.RowKit
set_option linter.unusedVariables false
end Go.Proofs.YthcompcjphaahaaGreatDoor.Pa
namespace Go.Proofs.YthcompcjphaahaaGreatDoor.Pa
open Go.RowKit
set_option linter.unusedVariables false
def cmpT (a b:ByteArray):Int:=threeZ (Op.bytesLess a.toList b.toList) (!Op.bytesLess a.toList b.toList&&!(a.toList==b.toList))
def cmpD (a b:DatV):Int:=if a.kind≠b.kind then (if a.kind<b.kind then -1 else 1) else if a.kind=1 then cmpI (dv a) (dv b) else if a.kind=2 then cmpT a.text b.text else if a.kind=3 then cmpI a.num b.num else 0
theorem cmpD_kinds {a b:DatV} (h:a.kind≠b.kind):cmpD a b=if a.kind<b.kind then -1 else if b.kind<a.kind then 1 else 0:=by
 unfold cmpD
 rw [if_pos h]
 by_cases c:a.kind<b.kind
 · rw [if_pos c,if_pos c]
 · rw [if_neg c,if_neg c,if_pos (by omega)]
theorem cmpD_num {a b:DatV} (h:a.kind=b.kind) (h1:a.kind=1):cmpD a b=cmpI (dv a) (dv b):=by unfold cmpD;rw [if_neg (by omega),if_pos h1]
theorem cmpD_text {a b:DatV} (h:a.kind=b.kind) (h1:a.kind=2):cmpD a b=cmpT a.text b.text:=by unfold cmpD;rw [if_neg (by omega),if_neg (by omega),if_pos h1]
theorem cmpD_bool {a b:DatV} (h:a.kind=b.kind) (h1:a.kind=3):cmpD a b=cmpI a.num b.num:=by unfold cmpD;rw [if_neg (by omega),if_neg (by omega),if_neg (by omega),if_pos h1]
theorem cmpD_none {a b:DatV} (h:a.kind=b.kind) (h1:a.kind≠1) (h2:a.kind≠2) (h3:a.kind≠3):cmpD a b=0:=by unfold cmpD;rw [if_neg (by omega),if_neg h1,if_neg h2,if_neg h3]
theorem dec_if {a b:Prop} [Decidable a] [Decidable b]:threeZ (decide a) (decide b)=if a then -1 else if b then 1 else 0:=by simp [threeZ]
theorem neg_cases (g:Bool) (n:Int) (h:0≤n):g=false∨(g=true∧decide (0<n)=true)∨(g=true∧decide (0<n)=false∧n=0):=by
 cases g with
 |false=>exact .inl rfl
 |true=>
  by_cases c:0<n
  · exact .inr (.inl ⟨rfl,by simpa using c⟩)
  · exact .inr (.inr ⟨rfl,by simpa using c,by omega⟩)
theorem cmp_pos {k a b:Int} {ta tb:ByteArray}:cmpI (dv ⟨k,false,a,ta⟩) (dv ⟨k,false,b,tb⟩)=threeZ (decide (a<b)) (decide (b<a)):=by rw [dec_if];rfl
theorem cmp_neg {k a b:Int} {ta tb:ByteArray}:cmpI (dv ⟨k,true,a,ta⟩) (dv ⟨k,true,b,tb⟩)=threeZ (decide (b<a)) (decide (a<b)):=by
 rw [dec_if]
 show (if -a< -b then (-1:Int) else if -b< -a then 1 else 0)= _
 by_cases c:b<a
 · rw [if_pos c,if_pos (by omega)]
 · by_cases d:a<b
   · rw [if_neg c,if_neg (by omega),if_pos d,if_pos (by omega)]
   · rw [if_neg c,if_neg (by omega),if_neg d,if_neg (by omega)]
theorem cmp_lo {k a b:Int} {g:Bool} {ta tb:ByteArray} (ha:decide (0<a)=true) (hb:0≤dv ⟨k,g,b,tb⟩):cmpI (dv ⟨k,true,a,ta⟩) (dv ⟨k,g,b,tb⟩)=threeZ true false:=by
 have ha2:0<a:=by simpa using ha
 show (if -a<_ then (-1:Int) else _)=-1
 rw [if_pos (by omega)]
theorem cmp_hi {k a b:Int} {g:Bool} {ta tb:ByteArray} (ha:decide (0<a)=true) (hb:0≤dv ⟨k,g,b,tb⟩):cmpI (dv ⟨k,g,b,tb⟩) (dv ⟨k,true,a,ta⟩)=threeZ false true:=by
 have ha2:0<a:=by simpa using ha
 show (if _< -a then (-1:Int) else if -a<_ then 1 else 0)=1
 rw [if_neg (by omega),if_pos (by omega)]
theorem dv_zero {k:Int} {t:ByteArray}:dv ⟨k,true,0,t⟩=dv ⟨k,false,0,t⟩:=rfl
set_option maxHeartbeats 1000000 in
theorem refCmp_any (ka kb na nb:Int) (ga gb:Bool) (ta tb:ByteArray) (hna:0≤na) (hnb:0≤nb) (w:World):Calls Tryz.prog 35 #[.agg #[.int .i64 ka,.bool ga,.int .u64 na,.string ta],.agg #[.int .i64 kb,.bool gb,.int .u64 nb,.string tb]] w fun e w'=>e=.returned (.int .i64 (cmpD ⟨ka,ga,na,ta⟩ ⟨kb,gb,nb,tb⟩))∧Below w.heap.size w w':=by
 obtain ⟨c,hc⟩:∃ c,cmpD ⟨ka,ga,na,ta⟩ ⟨kb,gb,nb,tb⟩=c:=⟨_,rfl⟩
 rw [hc]
 by_cases hk:ka=kb
 · subst hk
   have hkk:(ka !=ka)=false:=by simp
   by_cases h1:ka=1
   · subst h1
     rw [cmpD_num (a:=⟨1,ga,na,ta⟩) (b:=⟨1,gb,nb,tb⟩) rfl rfl] at hc
     rcases neg_cases ga na hna with rfl|⟨rfl,xa⟩|⟨rfl,xa,rfl⟩
     · rcases neg_cases gb nb hnb with rfl|⟨rfl,xb⟩|⟨rfl,xb,rfl⟩
       · rw [cmp_pos] at hc
         have HC:=Lib.hid hc
         clear hc
         go_enter Tryz.func35,Tryz.ntmps35
         go_wp2_with (go_at_call 70;refine (refThree_any _ _ _).mono ?_;rintro e w1 ⟨rfl,rfl⟩)
         go_ret
         exact ⟨ret_int HC.out,by go_grown⟩
       · rw [cmp_hi xb (by exact hna)] at hc
         have HC:=Lib.hid hc
         clear hc
         go_enter Tryz.func35,Tryz.ntmps35
         go_wp2_with (go_at_call 70;refine (refThree_any _ _ _).mono ?_;rintro e w1 ⟨rfl,rfl⟩)
         go_ret
         exact ⟨ret_int HC.out,by go_grown⟩
       · rw [dv_zero,cmp_pos] at hc
         have HC:=Lib.hid hc
         clear hc
         go_enter Tryz.func35,Tryz.ntmps35
         go_wp2_with (go_at_call 70;refine (refThree_any _ _ _).mono ?_;rintro e w1 ⟨rfl,rfl⟩)
         go_ret
         exact ⟨ret_int HC.out,by go_grown⟩
     · rcases neg_cases gb nb hnb with rfl|⟨rfl,xb⟩|⟨rfl,xb,rfl⟩
       · rw [cmp_lo xa (by exact hnb)] at hc
         have HC:=Lib.hid hc
         clear hc
         go_enter Tryz.func35,Tryz.ntmps35
         go_wp2_with (go_at_call 70;refine (refThree_any _ _ _).mono ?_;rintro e w1 ⟨rfl,rfl⟩)
         go_ret
         exact ⟨ret_int HC.out,by go_grown⟩
       · rw [cmp_neg] at hc
         have HC:=Lib.hid hc
         clear hc
         go_enter Tryz.func35,Tryz.ntmps35
         go_wp2_with (go_at_call 70;refine (refThree_any _ _ _).mono ?_;rintro e w1 ⟨rfl,rfl⟩)
         go_ret
         exact ⟨ret_int HC.out,by go_grown⟩
       · rw [cmp_lo xa (by exact Int.le_refl 0)] at hc
         have HC:=Lib.hid hc
         clear hc
         go_enter Tryz.func35,Tryz.ntmps35
         go_wp2_with (go_at_call 70;refine (refThree_any _ _ _).mono ?_;rintro e w1 ⟨rfl,rfl⟩)
         go_ret
         exact ⟨ret_int HC.out,by go_grown⟩
     · rcases neg_cases gb nb hnb with rfl|⟨rfl,xb⟩|⟨rfl,xb,rfl⟩
       · rw [dv_zero,cmp_pos] at hc
         have HC:=Lib.hid hc
         clear hc
         go_enter Tryz.func35,Tryz.ntmps35
         go_wp2_with (go_at_call 70;refine (refThree_any _ _ _).mono ?_;rintro e w1 ⟨rfl,rfl⟩)
         go_ret
         exact ⟨ret_int HC.out,by go_grown⟩
       · rw [cmp_hi xb (by exact Int.le_refl 0)] at hc
         have HC:=Lib.hid hc
         clear hc
         go_enter Tryz.func35,Tryz.ntmps35
         go_wp2_with (go_at_call 70;refine (refThree_any _ _ _).mono ?_;rintro e w1 ⟨rfl,rfl⟩)
         go_ret
         exact ⟨ret_int HC.out,by go_grown⟩
       · rw [dv_zero,dv_zero,cmp_pos] at hc
         have HC:=Lib.hid hc
         clear hc
         go_enter Tryz.func35,Tryz.ntmps35
         go_wp2_with (go_at_call 70;refine (refThree_any _ _ _).mono ?_;rintro e w1 ⟨rfl,rfl⟩)
         go_ret
         exact ⟨ret_int HC.out,by go_grown⟩
   · by_cases h2:ka=2
     · subst h2
       rw [cmpD_text (a:=⟨2,ga,na,ta⟩) (b:=⟨2,gb,nb,tb⟩) rfl rfl] at hc
       have HC:=Lib.hid hc
       clear hc
       go_enter Tryz.func35,Tryz.ntmps35
       go_wp2_with (go_at_call 70;refine (refThree_any _ _ _).mono ?_;rintro e w1 ⟨rfl,rfl⟩)
       go_ret
       exact ⟨ret_int HC.out,by go_grown⟩
     · by_cases h3:ka=3
       · subst h3
         rw [cmpD_bool (a:=⟨3,ga,na,ta⟩) (b:=⟨3,gb,nb,tb⟩) rfl rfl] at hc
         have HC:=Lib.hid (dec_if.trans hc)
         clear hc
         go_enter Tryz.func35,Tryz.ntmps35
         go_wp2_with (go_at_call 70;refine (refThree_any _ _ _).mono ?_;rintro e w1 ⟨rfl,rfl⟩)
         go_ret
         exact ⟨ret_int HC.out,by go_grown⟩
       · rw [cmpD_none (a:=⟨ka,ga,na,ta⟩) (b:=⟨ka,gb,nb,tb⟩) rfl h1 h2 h3] at hc
         subst hc
         have t1:(ka==1)=false:=by simpa using h1
         have t2:(ka==2)=false:=by simpa using h2
         have t3:(ka==3)=false:=by simpa using h3
         clear h1 h2 h3
         go_enter Tryz.func35,Tryz.ntmps35
         go_wp2
         go_ret
         exact ⟨rfl,by go_grown⟩
 · rw [cmpD_kinds (a:=⟨ka,ga,na,ta⟩) (b:=⟨kb,gb,nb,tb⟩) hk] at hc
   have HC:=Lib.hid (dec_if.trans hc)
   clear hc
   have t1:(ka !=kb)=true:=by simpa using hk
   go_enter Tryz.func35,Tryz.ntmps35
   go_wp2_with (go_at_call 70;refine (refThree_any _ _ _).mono ?_;rintro e w1 ⟨rfl,rfl⟩)
   go_ret
   exact ⟨ret_int HC.out,by go_grown⟩
end Go.Proofs.YthcompcjphaahaaGreatDoor.Pa
