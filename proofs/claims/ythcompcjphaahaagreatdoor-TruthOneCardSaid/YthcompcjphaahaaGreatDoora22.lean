/- Values as trees: their depth, size, text and sameness, and when one is too great to be asked; in plain words. -/
import Derived.Lib.ItoaNum
import Derived.OwnWalk
import Derived.Deep.RegionHeld3
import Derived.Test.YthcompcjphaahaaGreatDoora00
import Derived.Test.YthcompcjphaahaaGreatDoora15
namespace Go.Proofs.YthcompcjphaahaaGreatDoor.Pa
set_option linter.unusedVariables false
inductive VT where
 |nil
 |node (kind num:Int) (text:ByteArray) (ia:Option Addr) (len cap:Nat) (kid:Nat→VT)
instance:Inhabited VT:=⟨.nil⟩
namespace VT
def kind:VT→Int|.nil=>0|.node k _ _ _ _ _ _=>k
def num:VT→Int|.nil=>0|.node _ n _ _ _ _ _=>n
def text:VT→ByteArray|.nil=>⟨#[]⟩|.node _ _ s _ _ _ _=>s
def ia:VT→Option Addr|.nil=>none|.node _ _ _ a _ _ _=>a
def len:VT→Nat|.nil=>0|.node _ _ _ _ l _ _=>l
def cap:VT→Nat|.nil=>0|.node _ _ _ _ _ c _=>c
def kid:VT→Nat→VT|.nil=>fun _=>.nil|.node _ _ _ _ _ _ k=>k
theorem ind {Q:VT→Prop} (h:∀ T:VT,(∀ i,i<T.len→Q (T.kid i))→Q T):∀ T,Q T
 |.nil=>h _ (fun i hi=>absurd hi (Nat.not_lt_zero i))
 |.node k n s a l c f=>h _ (fun i _=>ind h (f i))
end VT
def maxTo (f:Nat→Nat):Nat→Nat|0=>0|n+1=>max (maxTo f n) (f n)
def allTo (f:Nat→Bool):Nat→Bool|0=>true|n+1=>allTo f n&&f n
def anyTo (f:Nat→Bool):Nat→Bool|0=>false|n+1=>anyTo f n||f n
theorem maxTo_congr {f g:Nat→Nat}:∀ n,(∀ i,i<n→f i=g i)→maxTo f n=maxTo g n
 |0,_=>rfl
 |n+1,h=>by rw [maxTo,maxTo,maxTo_congr n (fun i hi=>h i (by omega)),h n (by omega)]
theorem allTo_iff {f:Nat→Bool}:∀ n,allTo f n=true↔∀ i,i<n→f i=true
 |0=>by simp [allTo]
 |n+1=>by
  rw [allTo,Bool.and_eq_true,allTo_iff n]
  constructor
  · rintro ⟨h,h2⟩ i hi
    rcases Nat.lt_succ_iff_lt_or_eq.1 hi with h' |rfl
    · exact h i h'
    · exact h2
  · exact fun h=>⟨fun i hi=>h i (by omega),h n (by omega)⟩
theorem anyTo_iff {f:Nat→Bool}:∀ n,anyTo f n=true↔∃ i,i<n∧f i=true
 |0=>by simp [anyTo]
 |n+1=>by
  rw [anyTo,Bool.or_eq_true,anyTo_iff n]
  constructor
  · rintro (⟨i,hi,h⟩|h)
    · exact ⟨i,by omega,h⟩
    · exact ⟨n,by omega,h⟩
  · rintro ⟨i,hi,h⟩
    rcases Nat.lt_succ_iff_lt_or_eq.1 hi with h' |rfl
    · exact .inl ⟨i,h',h⟩
    · exact .inr h
def headB (T U:VT):Bool:=T.kind==U.kind&&T.num==U.num&&decide (T.text=U.text)&&T.len==U.len
def sameT:VT→VT→Bool
 |.nil,U=>headB .nil U
 |.node k n s a l c f,U=>headB (.node k n s a l c f) U&&allTo (fun i=>sameT (f i) (U.kid i)) l
theorem sameT_eq (T U:VT):sameT T U=(headB T U&&allTo (fun i=>sameT (T.kid i) (U.kid i)) T.len):=by
 cases T with
 |nil=>simp [sameT,VT.len,allTo]
 |node=>rfl
theorem headB_iff {T U:VT}:headB T U=true↔T.kind=U.kind∧T.num=U.num∧T.text=U.text∧T.len=U.len:=by
 unfold headB;simp [and_assoc]
theorem sameT_iff {T U:VT}:sameT T U=true↔T.kind=U.kind∧T.num=U.num∧T.text=U.text∧T.len=U.len∧∀ i,i<T.len→sameT (T.kid i) (U.kid i)=true:=by
 rw [sameT_eq,Bool.and_eq_true,headB_iff,allTo_iff];simp [and_assoc]
end Go.Proofs.YthcompcjphaahaaGreatDoor.Pa
namespace Go.Proofs.YthcompcjphaahaaGreatDoor.Pa
open Go.ChangeShapes Go.WideShapes Go.ChangeAt Go.RowKit
set_option linter.unusedVariables false
def valO (T:VT):Obj:=.cells #[.int .i64 T.kind,.int .u64 T.num,.string T.text,.slice T.ia T.len T.cap] 30
def ValWf (T:VT):Prop:=(Lit.int .i64 T.kind).wf=true∧(Lit.int .u64 T.num).wf=true∧T.text.size≤140737488351232∧T.len≤2513169434843
def CellsAt (w:World) (S:Nat→Prop) (ao:Option Addr) (i:Nat) (T:VT):Prop:=
 ∃ b off,ao=some ⟨b,off,none⟩∧S b∧b<w.heap.size∧w.cell? ⟨b,off+i*4,none⟩=some (.int .i64 T.kind)∧w.cell? ⟨b,off+i*4+1,none⟩=some (.int .u64 T.num)∧
   w.cell? ⟨b,off+i*4+2,none⟩=some (.string T.text)∧w.cell? ⟨b,off+i*4+3,none⟩=some (.slice T.ia T.len T.cap)
def ValAt (w:World) (S:Nat→Prop):VT→Prop
 |.nil=>True
 |.node k n s a l c f=>ValWf (.node k n s a l c f)∧∀ i,i<l→CellsAt w S a i (f i)∧ValAt w S (f i)
theorem valWf_nil:ValWf .nil:=⟨by kernel_rfl,by kernel_rfl,by decide,by decide⟩
theorem valAt_iff {w:World} {S:Nat→Prop} (T:VT):ValAt w S T↔ValWf T∧∀ i,i<T.len→CellsAt w S T.ia i (T.kid i)∧ValAt w S (T.kid i):=by
 cases T with
 |nil=>exact ⟨fun _=>⟨valWf_nil,fun i hi=>absurd hi (Nat.not_lt_zero i)⟩,fun _=>trivial⟩
 |node=>exact Iff.rfl
theorem cell_same {w w':World} {a:Addr} (h:w'.heap[a.block]?=w.heap[a.block]?):w'.cell? a=w.cell? a:=by
 unfold World.cell?
 rw [h]
theorem CellsAt.held {w w':World} {S S':Nat→Prop} {ao:Option Addr} {i:Nat} {T:VT} (h:CellsAt w S ao i T) (hS:∀ b,S b→S' b) (hn:w.heap.size≤w'.heap.size) (hw:∀ b,S b→b<w.heap.size→w'.heap[b]?=w.heap[b]?):CellsAt w' S' ao i T:=by
 obtain ⟨b,off,e,hs,hl,h0,h1,h2,h3⟩:=h
 have hb:=hw b hs hl
 exact ⟨b,off,e,hS b hs,by omega,(cell_same hb).trans h0,(cell_same hb).trans h1,(cell_same hb).trans h2,(cell_same hb).trans h3⟩
theorem ValAt.held_of {w w':World} {S S':Nat→Prop} (hS:∀ b,S b→S' b) (hn:w.heap.size≤w'.heap.size) (hw:∀ b,S b→b<w.heap.size→w'.heap[b]?=w.heap[b]?):∀ T:VT,ValAt w S T→ValAt w' S' T:=by
 refine VT.ind fun T ih h=>?_
 obtain ⟨h1,h2⟩:=(valAt_iff T).1 h
 exact (valAt_iff T).2 ⟨h1,fun i hi=>⟨(h2 i hi).1.held hS hn hw,ih i hi (h2 i hi).2⟩⟩
theorem ValAt.next {w w':World} {S:Nat→Prop} {T:VT} (h:ValAt w S T) (hb:Below w.heap.size w w'):ValAt w' S T:=
 ValAt.held_of (fun _ s=>s) hb.size (fun b _ hl=>hb.block b hl) T h
theorem CellsAt.next {w w':World} {S:Nat→Prop} {ao:Option Addr} {i:Nat} {T:VT} (h:CellsAt w S ao i T) (hb:Below w.heap.size w w'):CellsAt w' S ao i T:=
 h.held (fun _ s=>s) hb.size (fun b _ hl=>hb.block b hl)
theorem ValAt.sub {w:World} {S S':Nat→Prop} {T:VT} (h:ValAt w S T) (hS:∀ b,S b→S' b):ValAt w S' T:=
 ValAt.held_of hS (Nat.le_refl _) (fun _ _ _=>rfl) T h
end Go.Proofs.YthcompcjphaahaaGreatDoor.Pa
namespace Go.Proofs.YthcompcjphaahaaGreatDoor.Pa
open Go.RowKit
set_option linter.unusedVariables false
theorem kids_at {w:World} {S:Nat→Prop} {T:VT} (H:ValAt w S T) {wx:World} (hb:Below w.heap.size w wx) {i:Nat} (hi:i<T.len):CellsAt wx S T.ia i (T.kid i)∧ValAt wx S (T.kid i):=by
 have h:=((valAt_iff T).1 H).2 i hi
 exact ⟨h.1.next hb,h.2.next hb⟩
theorem val_len {w:World} {S:Nat→Prop} {T:VT} (H:ValAt w S T):T.len≤2513169434843:=((valAt_iff T).1 H).1.2.2.2
theorem val_text {w:World} {S:Nat→Prop} {T:VT} (H:ValAt w S T):T.text.size≤140737488351232:=((valAt_iff T).1 H).1.2.2.1
theorem box_keep {w w1:World} {b:Nat} {o:Obj} (h:w.heap[b]?=some o) (hb:Below w.heap.size w w1):w1.heap[b]?=some o:=(hb.block b (lt_of_block h)).trans h
end Go.Proofs.YthcompcjphaahaaGreatDoor.Pa
namespace Go.Proofs.YthcompcjphaahaaGreatDoor.Pa
open Go.RowKit
set_option linter.unusedVariables false
end Go.Proofs.YthcompcjphaahaaGreatDoor.Pa
namespace Go.Proofs.YthcompcjphaahaaGreatDoor.Pa
open Go.RowKit
set_option linter.unusedVariables false
end Go.Proofs.YthcompcjphaahaaGreatDoor.Pa
