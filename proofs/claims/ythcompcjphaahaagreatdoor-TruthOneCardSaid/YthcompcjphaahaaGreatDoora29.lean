/- Text: the text of a path. -/
import Derived.Lib.Builder
import Derived.Lib.OthersKept
import Derived.Lib.UnsafeStr
import Derived.Lib.AppendIntMem
import Derived.Test.YthcompcjphaahaaGreatDoora21
namespace Go.Proofs.YthcompcjphaahaaGreatDoor.Pa
open Go Go.RowKit Go.Shelf
set_option linter.unusedVariables false
attribute [local go_sem] Oper.semAt_some
def okStep (L:Nat→TypeV) (len:Nat) (x:Nat × StepV):Prop:=x.1<len∧nextB (L x.1) x.2=true
theorem end_ok {L:Nat→TypeV} {len:Nat} (hv:∀ i,i<len→OkT L i):∀ (ps:List StepV) (t u:Nat),t<len→endL L t ps=some u→∀ x,x∈alongL L t ps→okStep L len x
 | [],t,u,_,_,x,hx=>by simp [alongL] at hx
 |s::r,t,u,ht,he,x,hx=>by
  simp only [endL] at he
  split at he
  · rename_i hb
    simp only [alongL,List.mem_cons] at hx
    rcases hx with rfl|hx
    · exact ⟨ht,hb⟩
    · exact end_ok hv r _ u (next_part hv ht).2 he x hx
  · cases he
end Go.Proofs.YthcompcjphaahaaGreatDoor.Pa
