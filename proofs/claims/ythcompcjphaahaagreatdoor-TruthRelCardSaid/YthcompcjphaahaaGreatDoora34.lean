/- The reference's Find. -/
import Derived.Test.YthcompcjphaahaaGreatDoora24
import Derived.Test.YthcompcjphaahaaGreatDoora33
namespace Go.Proofs.YthcompcjphaahaaGreatDoor.Pa
open Go Go.RowKit
set_option linter.unusedVariables false
theorem item_lt {L:Nat→TypeV} {len u:Nat} {s:ByteArray} (h:0≤itemL L len (u:Nat) s):itemL L len (u:Nat) s<((L u).ilen:Nat):=by
 unfold itemL at h ⊢
 split at h
 · rename_i hc
   rw [if_pos hc]
   rw [Int.toNat_natCast] at h ⊢
   unfold itemZ at h ⊢
   split at h
   · rename_i hn
     rw [if_pos hn]
     rcases firstZ_cases (fun j=>((L u).items j).name.toList==s.toList) (L u).ilen with ⟨k,hk,e,_⟩|⟨e,_⟩
     · rw [e];omega
     · rw [e] at h;omega
   · omega
 · omega
theorem piecesF_len (s:ByteArray):∀ (f a:Nat),(piecesF s f a).length≤f
 |0,a=>by simp [piecesF]
 |f+1,a=>by
  simp only [piecesF]
  split
  · split
    · simp
    · have:=piecesF_len s f (a+(leadP (s.extract a s.size) (a==0)).2)
      simp;omega
  · simp
theorem own_cells12 {w:World} {base n:Nat} {e:TypeId} {v:Value} {xs:List Value} (h:w.ownsRow base e 2 v n xs):∃ ia cp,v=.slice ia n cp∧∀ j u,xs[j]?=some u→∃ g,ia=some ⟨g,0,none⟩∧w.cell? ⟨g,j,none⟩=some u:=by
 rcases h.2 with ⟨rfl,h0⟩|⟨g,cap,cur,rfl,h1,h2,h3,h4,h5,h6⟩
 · refine ⟨none,0,by rw [h0],fun j u hj=>?_⟩
   have:xs=[]:=by rw [←List.length_eq_zero_iff,h.1,h0]
   rw [this] at hj
   simp at hj
 · refine ⟨_,_,rfl,fun j u hj=>⟨g,rfl,?_⟩⟩
   have:=h.cells (g:=g) rfl j u hj
   simp only [Addr.add] at this
   split at this
   · rename_i h0
     have h0':j=0:=by simpa using h0
     subst h0'
     exact this
   · simpa using this
end Go.Proofs.YthcompcjphaahaaGreatDoor.Pa
namespace Go.Proofs.YthcompcjphaahaaGreatDoor.Pa
open Go Go.RowKit
set_option linter.unusedVariables false
def StepC (w:World) (pa:Option Addr) (i:Nat) (s:StepV):Prop:=
 ∃ b off,pa=some ⟨b,off,none⟩∧w.cell? ⟨b,off+i*2,none⟩=some (.bool s.elem)∧w.cell? ⟨b,off+i*2+1,none⟩=some (.int .i64 s.n)
theorem StepC.toAt {w:World} {pa:Option Addr} {i:Nat} {s:StepV} (h:StepC w pa i s):StepAt w pa i s:=h
theorem flatS_get:∀ (l:List StepV) (j:Nat) (x:StepV),l[j]?=some x→(flatS l)[j*2]?=some (.bool x.elem)∧(flatS l)[j*2+1]?=some (.int .i64 x.n)
 | [],j,x,h=>by simp at h
 |y::l,0,x,h=>by simp at h;subst h;exact ⟨rfl,rfl⟩
 |y::l,j+1,x,h=>by
  have:=flatS_get l j x (by simpa using h)
  simp only [flatS]
  rw [show (j+1)*2=j*2+1+1 by omega]
  simpa using this
def stepN (l:List StepV) (i:Nat):StepV:=l.getD i ⟨false,0⟩
theorem own_steps {w:World} {base n:Nat} {v:Value} {l:List StepV} (h:w.ownsRow base 113 2 v n (flatS l)) (hn:n=l.length):∃ ia cp,v=.slice ia n cp∧∀ i,i<n→StepC w ia i (stepN l i):=by
 obtain ⟨ia,cp,e,hc⟩:=own_cells12 h
 refine ⟨ia,cp,e,fun i hi=>?_⟩
 have hl:l[i]?=some (stepN l i):=by
  unfold stepN
  rw [List.getD_eq_getElem?_getD,List.getElem?_eq_getElem (by omega)]
  rfl
 obtain ⟨h1,h2⟩:=flatS_get l i _ hl
 obtain ⟨g,rfl,c1⟩:=hc _ _ h1
 obtain ⟨g2,hg,c2⟩:=hc _ _ h2
 obtain rfl:g=g2:=by injection hg with h;injection h
 exact ⟨g,0,rfl,by simpa using c1,by simpa using c2⟩
end Go.Proofs.YthcompcjphaahaaGreatDoor.Pa
