/- Contracts of chapter 5's reference. -/
import Derived.LoopTactic
import Derived.Test.YthcompcjphaahaaGreatDoora03
import Derived.Test.YthcompcjphaahaaGreatDoora12
namespace Go.Proofs.YthcompcjphaahaaGreatDoor.Pa
open Go.RowKit
set_option linter.unusedVariables false
def threeZ (a b:Bool):Int:=if a then -1 else if b then 1 else 0
theorem refThree_any (a b:Bool) (w:World):Calls Tryz.prog 70 #[.bool a,.bool b] w fun e w'=>e=.returned (.int .i64 (threeZ a b))∧w=w':=by
 go_enter Tryz.func70,Tryz.ntmps70
 go_wp2
 all_goals
  go_ret
  refine ⟨ret_int ?_,rfl⟩
  simp_all [threeZ]
def datV (d:DatV):Value:=.agg #[.int .i64 d.kind,.bool d.neg,.int .u64 d.num,.string d.text]
theorem drewN_below {B:Nat} {w w1:World} (h:Below B w w1):∀ m,Below B w (w1.drewN m)
 |0=>h
 |m+1=>(drewN_below h m).drew
end Go.Proofs.YthcompcjphaahaaGreatDoor.Pa
