/- Contracts of chapter 5's reference. -/
import Derived.LoopTactic
import Derived.Test.YthcompcjphaahaaGreatDoorh03
import Derived.Test.YthcompcjphaahaaGreatDoorh12
set_option maxRecDepth 100000
set_option maxHeartbeats 8000000
set_option linter.unusedVariables false
namespace Go.Proofs.YthcompcjphaahaaGreatDoor.Pa
open Go.RowKit
theorem jp (k:Int) (w:World):Calls Tryz.prog 61 #[.int .i64 k] w fun e w'=>e=.returned (.bool (numK k))∧w=w':=by
 go_enter Tryz.func61,Tryz.ntmps61;go_wp2
 all_goals
  go_ret;refine ⟨kw ?_,rfl⟩;rw [Bool.eq_iff_iff];simp [numK];try omega
theorem yx (k:Int) (w:World):Calls Tryz.prog 65 #[.int .i64 k] w fun e w'=>e=.returned (.int .i64 (szK k))∧w=w':=by
 go_enter Tryz.func65,Tryz.ntmps65;go_wp2
 all_goals
  go_ret;refine ⟨js ?_,rfl⟩
  simp_all [szK]
theorem yp (k:Int) (w:World):Calls Tryz.prog 62 #[.int .i64 k] w fun e w'=>e=.returned (.bool (sgK k))∧w=w':=by
 go_enter Tryz.func62,Tryz.ntmps62;go_wp2
 all_goals
  go_ret;refine ⟨kw ?_,rfl⟩;rw [Bool.eq_iff_iff];simp [sgK, *]
def threeZ (a b:Bool):Int:=if a then -1 else if b then 1 else 0
theorem ke (a b:Bool) (w:World):Calls Tryz.prog 70 #[.bool a,.bool b] w fun e w'=>e=.returned (.int .i64 (threeZ a b))∧w=w':=by
 go_enter Tryz.func70,Tryz.ntmps70;go_wp2
 all_goals
  go_ret;refine ⟨js ?_,rfl⟩
  simp_all [threeZ]
theorem jof (n z:Int) (hn:(Lit.int .u64 n).wf=true) (hz:isSz z=true) (w:World):Calls Tryz.prog 102 #[.int .u64 n,.int .i64 z] w fun e w'=>e=.returned (.int .u64 (lowZ n z))∧∃ m,w'=w.drewN m:=by
 rcases kr hz with rfl|rfl|rfl|rfl
 · exact jds n hn w
 · exact jda n hn w
 · exact jdk n hn w
 · exact jen n hn w
theorem jb5 (k n:Int) (hn:(Lit.int .u64 n).wf=true) (w:World):Calls Tryz.prog 63 #[.int .i64 k,.int .u64 n] w fun e w'=>e=.returned (.int .u64 (lowK k n))∧∃ m,w'=w.drewN m:=by
 unfold lowK
 cases hk:numK k with
 |false=>
  go_enter Tryz.func63,Tryz.ntmps63;go_wp2_with (go_at_call 61;refine (jp _ _).mono ?_;rintro e w' ⟨rfl,rfl⟩);go_ret;exact ⟨rfl,0,rfl⟩
 |true=>
  have HL:=lh (fun w=>jof n (szK k) hn (ja7 hk) w);go_enter Tryz.func63,Tryz.ntmps63
  go_wp2_with (first
   |(go_at_call 61;refine (jp _ _).mono ?_;rintro e w' ⟨rfl,rfl⟩)
   |(go_at_call 65;refine (yx _ _).mono ?_;rintro e w' ⟨rfl,rfl⟩)
   |(go_at_call 102;refine (HL.out _).mono ?_;rintro e w1 ⟨rfl,m,rfl⟩))
  go_ret;exact ⟨rfl,m,rfl⟩
theorem Y2 (k n:Int) (hn:(Lit.int .u64 n).wf=true) (w:World):Calls Tryz.prog 78 #[.int .i64 k,.int .u64 n] w fun e w'=>e=.returned (.bool (mayK k n))∧∃ m,w'=w.drewN m:=by
 unfold mayK
 by_cases h1:k=1
 · subst h1;go_enter Tryz.func78,Tryz.ntmps78;go_wp2;go_ret;exact ⟨rfl,0,rfl⟩
 · rw [if_neg h1]
   cases hk:numK k with
   |false=>
    go_enter Tryz.func78,Tryz.ntmps78;go_wp2_with (go_at_call 61;refine (jp _ _).mono ?_;rintro e w' ⟨rfl,rfl⟩);go_ret;exact ⟨rfl,0,rfl⟩
   |true=>
    have hb:=bounds_u64 hn;have HM:=lh (jp1 n (szK k) hb.1 (by omega) (ja7 hk));have HB:=lh (fun w=>jie (wrap64 n) (szK k) (wrap64_wf n) w);clear hb
    cases hs:sgK k with
    |true=>
     go_enter Tryz.func78,Tryz.ntmps78
     go_wp2_with (first
      |(go_at_call 61;refine (jp _ _).mono ?_;rintro e w' ⟨rfl,rfl⟩)
      |(go_at_call 62;refine (yp _ _).mono ?_;rintro e w' ⟨rfl,rfl⟩)
      |(go_at_call 65;refine (yx _ _).mono ?_;rintro e w' ⟨rfl,rfl⟩)
      |(go_at_call 112;refine (HB.out _).mono ?_;rintro e w' ⟨rfl,rfl⟩))
     go_ret;exact ⟨kw (by rw [HM.out];simp [upK,hs]),0,rfl⟩
    |false=>
     go_enter Tryz.func78,Tryz.ntmps78
     go_wp2_with (first
      |(go_at_call 61;refine (jp _ _).mono ?_;rintro e w' ⟨rfl,rfl⟩)
      |(go_at_call 62;refine (yp _ _).mono ?_;rintro e w' ⟨rfl,rfl⟩)
      |(go_at_call 63;refine (jb5 _ _ hn _).mono ?_;rintro e w1 ⟨rfl,m,rfl⟩))
     go_ret;refine ⟨kw ?_,m,rfl⟩;simp [upK,hs]
def datV (d:DatV):Value:=.agg #[.int .i64 d.kind,.bool d.neg,.int .u64 d.num,.string d.text]
theorem jsq {a c c':Int} {b:Bool} {s t:ByteArray} (h:a=a) (hc:c=c') (hs:s=t):Ending.returned (.agg #[.int .i64 a,.bool b,.int .u64 c,.string s])=.returned (datV ⟨a,b,c',t⟩):=by rw [hc,hs];rfl
theorem jf {B:Nat} {w w1:World} (h:Below B w w1):∀ m,Below B w (w1.drewN m)
 |0=>h
 |m+1=>(jf h m).drew
theorem jau (k n:Int) (hn:(Lit.int .u64 n).wf=true) (w:World):Calls Tryz.prog 33 #[.int .i64 k,.int .u64 n] w fun e w'=>e=.returned (datV (datK k n))∧Below w.heap.size w w':=by
 have hb:=bounds_u64 hn
 cases hk:numK k with
 |false=>
  rw [jmi hk];go_enter Tryz.func33,Tryz.ntmps33;go_wp2_with (go_at_call 61;refine (jp _ _).mono ?_;rintro e w' ⟨rfl,rfl⟩)
  go_returns
  exact ⟨rfl,by go_grown⟩
 |true=>
  by_cases h1:k=1
  · subst h1;rw [jf4];go_enter Tryz.func33,Tryz.ntmps33;go_wp2_with (go_at_call 61;refine (jp _ _).mono ?_;rintro e w' ⟨rfl,rfl⟩)
    go_returns
    exact ⟨rfl,by go_grown⟩
  · cases hs:sgK k with
    |false=>
     rw [jhu hk h1 hs];go_enter Tryz.func33,Tryz.ntmps33
     go_wp2_with (first
      |(go_at_call 61;refine (jp _ _).mono ?_;rintro e w' ⟨rfl,rfl⟩)
      |(go_at_call 62;refine (yp _ _).mono ?_;rintro e w' ⟨rfl,rfl⟩)
      |(go_at_call 63;refine (jb5 _ _ hn _).mono ?_;rintro e w1 ⟨rfl,m,rfl⟩))
     go_returns
     exact ⟨rfl,(by go_grown;all_goals exact jf ((Below.refl _ _).alloc (Nat.le_refl _) _) _)⟩
    |true=>
     have hr:=Xe n (szK k);have HL:=lh (fun w=>jig n (szK k) hn w)
     by_cases hneg:signZ n (szK k)<0
     · rw [ji1 hs hneg];go_enter Tryz.func33,Tryz.ntmps33
       go_wp2_with (first
        |(go_at_call 61;refine (jp _ _).mono ?_;rintro e w' ⟨rfl,rfl⟩)
        |(go_at_call 62;refine (yp _ _).mono ?_;rintro e w' ⟨rfl,rfl⟩)
        |(go_at_call 65;refine (yx _ _).mono ?_;rintro e w' ⟨rfl,rfl⟩)
        |(go_at_call 64;refine (HL.out _).mono ?_;rintro e w1 ⟨rfl,m,rfl⟩))
       go_returns
       exact ⟨jsq rfl (by omega) rfl,(by go_grown;all_goals exact jf ((Below.refl _ _).alloc (Nat.le_refl _) _) _)⟩
     · rw [jht hs hneg];go_enter Tryz.func33,Tryz.ntmps33
       go_wp2_with (first
        |(go_at_call 61;refine (jp _ _).mono ?_;rintro e w' ⟨rfl,rfl⟩)
        |(go_at_call 62;refine (yp _ _).mono ?_;rintro e w' ⟨rfl,rfl⟩)
        |(go_at_call 65;refine (yx _ _).mono ?_;rintro e w' ⟨rfl,rfl⟩)
        |(go_at_call 64;refine (HL.out _).mono ?_;rintro e w1 ⟨rfl,m,rfl⟩))
       go_returns
       exact ⟨rfl,(by go_grown;all_goals exact jf ((Below.refl _ _).alloc (Nat.le_refl _) _) _)⟩
end Go.Proofs.YthcompcjphaahaaGreatDoor.Pa
