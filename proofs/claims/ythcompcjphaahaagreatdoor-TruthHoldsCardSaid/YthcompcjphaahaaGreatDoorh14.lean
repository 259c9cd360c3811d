/- Contract of chapter 5's reference: Of. -/
import Derived.Deep.DeepCutAuto
import Derived.Laws.Cover1
import Derived.Test.YthcompcjphaahaaGreatDoorh13
set_option maxRecDepth 100000
set_option maxHeartbeats 8000000
set_option linter.unusedVariables false
namespace Go.Proofs.YthcompcjphaahaaGreatDoor.Pa
open Go.RowKit
def cmpT (a b:ByteArray):Int:=threeZ (Op.bytesLess a.toList b.toList) (!Op.bytesLess a.toList b.toList&&!(a.toList==b.toList))
def cmpD (a b:DatV):Int:=if a.kind≠b.kind then (if a.kind<b.kind then -1 else 1) else if a.kind=1 then cmpI (dv a) (dv b) else if a.kind=2 then cmpT a.text b.text else if a.kind=3 then cmpI a.num b.num else 0
theorem jdj {a b:DatV} (h:a.kind≠b.kind):cmpD a b=if a.kind<b.kind then -1 else if b.kind<a.kind then 1 else 0:=by
 unfold cmpD;rw [if_pos h]
 by_cases c:a.kind<b.kind
 · rw [if_pos c,if_pos c]
 · rw [if_neg c,if_neg c,if_pos (by omega)]
theorem jip {a b:DatV} (h:a.kind=b.kind) (h1:a.kind=1):cmpD a b=cmpI (dv a) (dv b):=by unfold cmpD;rw [if_neg (by omega),if_pos h1]
theorem jf6 {a b:DatV} (h:a.kind=b.kind) (h1:a.kind=2):cmpD a b=cmpT a.text b.text:=by unfold cmpD;rw [if_neg (by omega),if_neg (by omega),if_pos h1]
theorem jfw {a b:DatV} (h:a.kind=b.kind) (h1:a.kind=3):cmpD a b=cmpI a.num b.num:=by unfold cmpD;rw [if_neg (by omega),if_neg (by omega),if_neg (by omega),if_pos h1]
theorem jf2 {a b:DatV} (h:a.kind=b.kind) (h1:a.kind≠1) (h2:a.kind≠2) (h3:a.kind≠3):cmpD a b=0:=by unfold cmpD;rw [if_neg (by omega),if_neg h1,if_neg h2,if_neg h3]
theorem jg0 {a b:Prop} [Decidable a] [Decidable b]:threeZ (decide a) (decide b)=if a then -1 else if b then 1 else 0:=by simp [threeZ]
theorem Zm (g:Bool) (n:Int) (h:0≤n):g=false∨(g=true∧decide (0<n)=true)∨(g=true∧decide (0<n)=false∧n=0):=by
 cases g with
 |false=>exact .inl rfl
 |true=>
  by_cases c:0<n
  · exact .inr (.inl ⟨rfl,by simpa using c⟩)
  · exact .inr (.inr ⟨rfl,by simpa using c,by omega⟩)
theorem jcp {k a b:Int} {ta tb:ByteArray}:cmpI (dv ⟨k,false,a,ta⟩) (dv ⟨k,false,b,tb⟩)=threeZ (decide (a<b)) (decide (b<a)):=by rw [jg0];rfl
theorem jtv {k a b:Int} {ta tb:ByteArray}:cmpI (dv ⟨k,true,a,ta⟩) (dv ⟨k,true,b,tb⟩)=threeZ (decide (b<a)) (decide (a<b)):=by
 rw [jg0]
 show (if -a< -b then (-1:Int) else if -b< -a then 1 else 0)= _
 by_cases c:b<a
 · rw [if_pos c,if_pos (by omega)]
 · by_cases d:a<b
   · rw [if_neg c,if_neg (by omega),if_pos d,if_pos (by omega)]
   · rw [if_neg c,if_neg (by omega),if_neg d,if_neg (by omega)]
theorem jsa {k a b:Int} {g:Bool} {ta tb:ByteArray} (ha:decide (0<a)=true) (hb:0≤dv ⟨k,g,b,tb⟩):cmpI (dv ⟨k,true,a,ta⟩) (dv ⟨k,g,b,tb⟩)=threeZ true false:=by
 have ha2:0<a:=by simpa using ha
 show (if -a<_ then (-1:Int) else _)=-1
 rw [if_pos (by omega)]
theorem jqa {k a b:Int} {g:Bool} {ta tb:ByteArray} (ha:decide (0<a)=true) (hb:0≤dv ⟨k,g,b,tb⟩):cmpI (dv ⟨k,g,b,tb⟩) (dv ⟨k,true,a,ta⟩)=threeZ false true:=by
 have ha2:0<a:=by simpa using ha
 show (if _< -a then (-1:Int) else if -a<_ then 1 else 0)=1
 rw [if_neg (by omega),if_pos (by omega)]
theorem jcn {k:Int} {t:ByteArray}:dv ⟨k,true,0,t⟩=dv ⟨k,false,0,t⟩:=rfl
theorem jkv (ka kb na nb:Int) (ga gb:Bool) (ta tb:ByteArray) (hna:0≤na) (hnb:0≤nb) (w:World):Calls Tryz.prog 35 #[.agg #[.int .i64 ka,.bool ga,.int .u64 na,.string ta],.agg #[.int .i64 kb,.bool gb,.int .u64 nb,.string tb]] w fun e w'=>e=.returned (.int .i64 (cmpD ⟨ka,ga,na,ta⟩ ⟨kb,gb,nb,tb⟩))∧Below w.heap.size w w':=by
 obtain ⟨c,hc⟩:∃ c,cmpD ⟨ka,ga,na,ta⟩ ⟨kb,gb,nb,tb⟩=c:=⟨_,rfl⟩;rw [hc]
 by_cases hk:ka=kb
 · subst hk
   have hkk:(ka !=ka)=false:=by simp
   by_cases h1:ka=1
   · subst h1;rw [jip (a:=⟨1,ga,na,ta⟩) (b:=⟨1,gb,nb,tb⟩) rfl rfl] at hc
     rcases Zm ga na hna with rfl|⟨rfl,xa⟩|⟨rfl,xa,rfl⟩
     · rcases Zm gb nb hnb with rfl|⟨rfl,xb⟩|⟨rfl,xb,rfl⟩
       · rw [jcp] at hc;have HC:=lh hc;clear hc;go_enter Tryz.func35,Tryz.ntmps35;go_wp2_with (go_at_call 70;refine (ke _ _ _).mono ?_;rintro e w1 ⟨rfl,rfl⟩);go_ret;exact ⟨js HC.out,by go_grown⟩
       · rw [jqa xb (by exact hna)] at hc;have HC:=lh hc;clear hc;go_enter Tryz.func35,Tryz.ntmps35;go_wp2_with (go_at_call 70;refine (ke _ _ _).mono ?_;rintro e w1 ⟨rfl,rfl⟩);go_ret;exact ⟨js HC.out,by go_grown⟩
       · rw [jcn,jcp] at hc;have HC:=lh hc;clear hc;go_enter Tryz.func35,Tryz.ntmps35;go_wp2_with (go_at_call 70;refine (ke _ _ _).mono ?_;rintro e w1 ⟨rfl,rfl⟩);go_ret;exact ⟨js HC.out,by go_grown⟩
     · rcases Zm gb nb hnb with rfl|⟨rfl,xb⟩|⟨rfl,xb,rfl⟩
       · rw [jsa xa (by exact hnb)] at hc;have HC:=lh hc;clear hc;go_enter Tryz.func35,Tryz.ntmps35;go_wp2_with (go_at_call 70;refine (ke _ _ _).mono ?_;rintro e w1 ⟨rfl,rfl⟩);go_ret;exact ⟨js HC.out,by go_grown⟩
       · rw [jtv] at hc;have HC:=lh hc;clear hc;go_enter Tryz.func35,Tryz.ntmps35;go_wp2_with (go_at_call 70;refine (ke _ _ _).mono ?_;rintro e w1 ⟨rfl,rfl⟩);go_ret;exact ⟨js HC.out,by go_grown⟩
       · rw [jsa xa (by exact Int.le_refl 0)] at hc;have HC:=lh hc;clear hc;go_enter Tryz.func35,Tryz.ntmps35;go_wp2_with (go_at_call 70;refine (ke _ _ _).mono ?_;rintro e w1 ⟨rfl,rfl⟩);go_ret;exact ⟨js HC.out,by go_grown⟩
     · rcases Zm gb nb hnb with rfl|⟨rfl,xb⟩|⟨rfl,xb,rfl⟩
       · rw [jcn,jcp] at hc;have HC:=lh hc;clear hc;go_enter Tryz.func35,Tryz.ntmps35;go_wp2_with (go_at_call 70;refine (ke _ _ _).mono ?_;rintro e w1 ⟨rfl,rfl⟩);go_ret;exact ⟨js HC.out,by go_grown⟩
       · rw [jqa xb (by exact Int.le_refl 0)] at hc;have HC:=lh hc;clear hc;go_enter Tryz.func35,Tryz.ntmps35;go_wp2_with (go_at_call 70;refine (ke _ _ _).mono ?_;rintro e w1 ⟨rfl,rfl⟩);go_ret;exact ⟨js HC.out,by go_grown⟩
       · rw [jcn,jcn,jcp] at hc;have HC:=lh hc;clear hc;go_enter Tryz.func35,Tryz.ntmps35;go_wp2_with (go_at_call 70;refine (ke _ _ _).mono ?_;rintro e w1 ⟨rfl,rfl⟩);go_ret;exact ⟨js HC.out,by go_grown⟩
   · by_cases h2:ka=2
     · subst h2;rw [jf6 (a:=⟨2,ga,na,ta⟩) (b:=⟨2,gb,nb,tb⟩) rfl rfl] at hc;have HC:=lh hc;clear hc;go_enter Tryz.func35,Tryz.ntmps35;go_wp2_with (go_at_call 70;refine (ke _ _ _).mono ?_;rintro e w1 ⟨rfl,rfl⟩);go_ret;exact ⟨js HC.out,by go_grown⟩
     · by_cases h3:ka=3
       · subst h3;rw [jfw (a:=⟨3,ga,na,ta⟩) (b:=⟨3,gb,nb,tb⟩) rfl rfl] at hc;have HC:=lh (jg0.trans hc);clear hc;go_enter Tryz.func35,Tryz.ntmps35;go_wp2_with (go_at_call 70;refine (ke _ _ _).mono ?_;rintro e w1 ⟨rfl,rfl⟩);go_ret;exact ⟨js HC.out,by go_grown⟩
       · rw [jf2 (a:=⟨ka,ga,na,ta⟩) (b:=⟨ka,gb,nb,tb⟩) rfl h1 h2 h3] at hc;subst hc
         have t1:(ka==1)=false:=by simpa using h1
         have t2:(ka==2)=false:=by simpa using h2
         have t3:(ka==3)=false:=by simpa using h3
         clear h1 h2 h3;go_enter Tryz.func35,Tryz.ntmps35;go_wp2;go_ret;exact ⟨rfl,by go_grown⟩
 · rw [jdj (a:=⟨ka,ga,na,ta⟩) (b:=⟨kb,gb,nb,tb⟩) hk] at hc;have HC:=lh (jg0.trans hc);clear hc
   have t1:(ka !=kb)=true:=by simpa using hk
   go_enter Tryz.func35,Tryz.ntmps35;go_wp2_with (go_at_call 70;refine (ke _ _ _).mono ?_;rintro e w1 ⟨rfl,rfl⟩);go_ret;exact ⟨js HC.out,by go_grown⟩
end Go.Proofs.YthcompcjphaahaaGreatDoor.Pa
