/- Chapter 15 in plain Lean: trees, and the tree of a list of tokens. No run of the program. -/
import Derived.Test.YthcompcjphaahaaGreatDoorh02
import Derived.Test.YthcompcjphaahaaGreatDoorh03
set_option maxRecDepth 100000
set_option maxHeartbeats 8000000
namespace Go.Proofs.YthcompcjphaahaaGreatDoor
open Go
set_option linter.unusedVariables false
structure Opd where
 kind:Int
 text:ByteArray
 neg:Bool
 num:Int
instance:Inhabited Opd:=⟨⟨0,⟨#[]⟩,false,0⟩⟩
inductive XT where
 |nil
 |node (op rel:Int) (aa:Option Addr) (an ac:Nat) (arg:Nat→Opd) (ka:Option Addr) (kn kc:Nat) (kid:Nat→XT)
instance:Inhabited XT:=⟨.nil⟩
namespace XT
def op:XT→Int|.nil=>0|.node o _ _ _ _ _ _ _ _ _=>o
def rel:XT→Int|.nil=>0|.node _ r _ _ _ _ _ _ _ _=>r
def aa:XT→Option Addr|.nil=>none|.node _ _ a _ _ _ _ _ _ _=>a
def an:XT→Nat|.nil=>0|.node _ _ _ n _ _ _ _ _ _=>n
def ac:XT→Nat|.nil=>0|.node _ _ _ _ c _ _ _ _ _=>c
def arg:XT→Nat→Opd|.nil=>fun _=>default|.node _ _ _ _ _ f _ _ _ _=>f
def ka:XT→Option Addr|.nil=>none|.node _ _ _ _ _ _ a _ _ _=>a
def kn:XT→Nat|.nil=>0|.node _ _ _ _ _ _ _ n _ _=>n
def kc:XT→Nat|.nil=>0|.node _ _ _ _ _ _ _ _ c _=>c
def kid:XT→Nat→XT|.nil=>fun _=>.nil|.node _ _ _ _ _ _ _ _ _ f=>f
theorem ind {Q:XT→Prop} (h:∀ T:XT,(∀ i,i<T.kn→Q (T.kid i))→Q T):∀ T,Q T
 |.nil=>h _ (fun i hi=>absurd hi (Nat.not_lt_zero i))
 |.node o r a n c g b m d f=>h _ (fun i _=>ind h (f i))
end XT
def SameX:XT→XT→Prop
 |.nil,U=>0=U.op∧0=U.rel∧0=U.an∧0=U.kn
 |.node o r _ n _ g _ m _ f,U=>o=U.op∧r=U.rel∧n=U.an∧(∀ i,i<n→g i=U.arg i)∧m=U.kn∧∀ i,i<m→SameX (f i) (U.kid i)
theorem Xv (T U:XT):SameX T U↔T.op=U.op∧T.rel=U.rel∧T.an=U.an∧(∀ i,i<T.an→T.arg i=U.arg i)∧T.kn=U.kn∧∀ i,i<T.kn→SameX (T.kid i) (U.kid i):=by
 cases T with
 |nil=>
  constructor
  · rintro ⟨h1,h2,h3,h4⟩;exact ⟨h1,h2,h3,fun i hi=>absurd hi (Nat.not_lt_zero i),h4,fun i hi=>absurd hi (Nat.not_lt_zero i)⟩
  · rintro ⟨h1,h2,h3,_,h4,_⟩;exact ⟨h1,h2,h3,h4⟩
 |node=>exact Iff.rfl
def mkX (op rel:Int) (args:List Opd) (kids:List XT):XT:=.node op rel none args.length 0 (fun i=>args.getD i default) none kids.length 0 (fun i=>kids.getD i .nil)
def tk0:Tk:=⟨0,[],0,0⟩
def hd (l:List Tk):Tk:=l.headD tk0
def kNOT:List UInt8:=[78,79,84]
def kAND:List UInt8:=[65,78,68]
def kOR:List UInt8:=[79,82]
def kTRUE:List UInt8:=[84,82,85,69]
def kFALSE:List UInt8:=[70,65,76,83,69]
def kLIKE:List UInt8:=[76,73,75,69]
def kBETWEEN:List UInt8:=[66,69,84,87,69,69,78]
def relN (s:List UInt8):Nat:=if s==[61] then 1 else if s==[60,62] then 2 else if s==[60] then 3 else if s==[60,61] then 4 else if s==[62] then 5 else if s==[62,61] then 6 else 0
def relT (t:Tk):Nat:=if t.k=5 then relN t.t else 0
inductive Cl where
 |kd (n:Nat)
 |wd (s:List UInt8)
 |sg (s:List UInt8)
 |nm
 |rl
def Cl.test:Cl→Tk→Bool
 |.kd n,t=>t.k==n
 |.wd s,t=>t.k==1&&t.t==s
 |.sg s,t=>t.k==5&&t.t==s
 |.nm,t=>t.k==1&&!wordsL.contains t.t
 |.rl,t=>!(relT t==0)
inductive PR (α:Type) where
 |err (e:Nat) (l:List Tk)
 |ok (x:α) (l:List Tk)
def eat:List Cl→List Tk→List UInt8→PR (List UInt8)
 | [],l,s=>.ok s l
 |c::r,l,s=>if c.test (hd l) then eat r l.tail (s++(hd l).t) else .err 11 l
def cOpen:Cl:=.sg [91]
def cDot:Cl:=.sg [46]
def cMinus:Cl:=.sg [45]
def cPar:Cl:=.sg [40]
def cEnd:Cl:=.sg [41]
def itemC:List Cl:=[.sg [91],.kd 2,.sg [93]]
def stepP (item:List Cl) (l:List Tk) (s:List UInt8):PR (List UInt8):=eat (if cOpen.test (hd l) then itemC else item) l s
def pathL:Nat→List Tk→List UInt8→PR (List UInt8)
 |0,l,s=>.err 0 l
 |f+1,l,s=>if cDot.test (hd l)||cOpen.test (hd l) then (match stepP [cDot,.nm] l s with
  |.err e l'=>.err e l'
  |.ok s' l'=>pathL f l' s') else .ok s l
def pathS (l:List Tk):PR (List UInt8):=match stepP [.nm] l [] with
 |.err e l'=>.err e l'
 |.ok s l'=>pathL 100 l' s
def pathO:PR (List UInt8)→PR Opd
 |.err e l'=>.err e l'
 |.ok s l'=>.ok ⟨1,⟨s.toArray⟩,false,0⟩ l'
def pathP (l:List Tk):PR Opd:=pathO (pathS l)
def numP (neg:Bool) (l:List Tk):PR Opd:=if (Cl.kd 2).test (hd l) then .ok ⟨2,⟨#[]⟩,neg,((hd l).n:Nat)⟩ l.tail else .err 11 l
def numberP (l:List Tk):PR Opd:=if cMinus.test (hd l) then numP true l.tail else numP false l
def operandP (l:List Tk):PR Opd:=
 if (Cl.kd 3).test (hd l) then .ok ⟨3,⟨(hd l).t.toArray⟩,false,0⟩ l.tail
 else if (Cl.kd 4).test (hd l) then .ok ⟨5,⟨#[]⟩,false,((hd l).n:Nat)⟩ l.tail
 else if (Cl.wd kTRUE).test (hd l) then .ok ⟨4,⟨#[]⟩,false,1⟩ l.tail
 else if (Cl.wd kFALSE).test (hd l) then .ok ⟨4,⟨#[]⟩,false,0⟩ l.tail
 else if cMinus.test (hd l)||(Cl.kd 2).test (hd l) then numberP l
 else pathP l
def furP:List Cl→List Tk→List Opd→PR (List Opd)
 | [],l,a=>.ok a l
 |c::r,l,a=>if c.test (hd l) then (match operandP l.tail with
  |.err e l'=>.err e l'
  |.ok o l'=>furP r l' (a++[o])) else .err 11 l
def furX (op rel:Int) (cs:List Cl) (l:List Tk) (a:List Opd):PR XT:=match furP cs l a with
 |.err e l'=>.err e l'
 |.ok b l'=>.ok (mkX op rel b []) l'
def negR:PR XT→PR XT
 |.err e l=>.err e l
 |.ok x l=>.ok (mkX 4 0 [] [x]) l
def betw:List Cl:=[.wd kBETWEEN,.wd kAND]
def testO (o:Opd) (l:List Tk):PR XT:=
 if (Cl.wd kNOT).test (hd l) then negR (furX 2 0 betw l.tail [o])
 else if (Cl.wd kBETWEEN).test (hd l) then furX 2 0 betw l [o]
 else if (Cl.wd kLIKE).test (hd l) then furX 3 0 [.wd kLIKE] l [o]
 else furX 1 (relT (hd l):Nat) [.rl] l [o]
def testP (l:List Tk):PR XT:=match operandP l with
 |.err e l'=>.err e l'
 |.ok o l'=>testO o l'
def serL (P:List Tk→PR XT) (w:List UInt8):Nat→List Tk→List XT→PR (List XT)
 |0,l,_=>.err 0 l
 |f+1,l,a=>match P l with
  |.err e l'=>.err e l'
  |.ok x l'=>if (Cl.wd w).test (hd l') then serL P w f l'.tail (a++[x]) else .ok (a++[x]) l'
def serX (op:Int):List XT→XT
 | [x]=>x
 |xs=>mkX op 0 [] xs
def serO (op:Int):PR (List XT)→PR XT
 |.err e l'=>.err e l'
 |.ok xs l'=>.ok (serX op xs) l'
def serP (op:Int) (w:List UInt8) (P:List Tk→PR XT) (l:List Tk):PR XT:=serO op (serL P w 100 l [])
def closeR:PR XT→PR XT
 |.err e l=>.err e l
 |.ok x l=>if cEnd.test (hd l) then .ok x l.tail else .err 11 l
def notP:Nat→List Tk→PR XT
 |0,l=>if (Cl.wd kNOT).test (hd l)||cPar.test (hd l) then .err 9 l else testP l
 |k+1,l=>if (Cl.wd kNOT).test (hd l) then negR (notP k l.tail)
  else if cPar.test (hd l) then closeR (serP 6 kOR (serP 5 kAND (notP k)) l.tail)
  else testP l
def orP (k:Nat) (l:List Tk):PR XT:=serP 6 kOR (serP 5 kAND (notP k)) l
inductive Tree where
 |bad (e a:Nat)
 |good (x:XT)
def parseL (L:List Tk):Tree:=match orP 8 L with
 |.err e l=>.bad e (hd l).a
 |.ok x l=>if (Cl.kd 6).test (hd l) then .good x else .bad 11 (hd l).a
def parseA (s:List UInt8):Tree:=match tokA s with
 |.bad e a=>.bad e a
 |.good L=>parseL L
def TkOk (t:Tk):Prop:=t.k<6∧(t.k=1→t.t≠[])∧t.t.length≤256
inductive Vd:List Tk→Prop
 |one {t:Tk} (h:t.k=6) (h0:t.t=[]):Vd [t]
 |cons {t:Tk} {l:List Tk} (h:TkOk t) (hl:Vd l):Vd (t::l)
theorem Vd.ne {l:List Tk} (h:Vd l):l≠[]:=by cases h <;> simp
theorem Vd.short:∀ {l:List Tk},Vd l→∀ t∈l,t.t.length≤256
 |_,.one _ h0,t,ht=>by simp at ht;rw [ht,h0];simp
 |_,.cons h hl,t,ht=>by
  rcases List.mem_cons.1 ht with rfl|ht
  · exact h.2.2
  · exact hl.short t ht
theorem Vd.pos {l:List Tk} (h:Vd l):0<l.length:=List.length_pos_iff.2 h.ne
def Cl.inner:Cl→Prop
 |.kd n=>n≠6
 |_=>True
theorem jqj {c:Cl} (hc:c.inner) {t:Tk} (ht:t.k=6):c.test t=false:=by
 cases c with
 |kd n=>show (t.k==n)=false;rw [ht];simp;exact fun e=>hc e.symm
 |wd s=>show (t.k==1&&t.t==s)=false;rw [ht];rfl
 |sg s=>show (t.k==5&&t.t==s)=false;rw [ht];rfl
 |nm=>show (t.k==1&&_)=false;rw [ht];rfl
 |rl=>show (!(relT t==0))=false;unfold relT;rw [ht];rfl
theorem Vd.tail {l:List Tk} (h:Vd l) {c:Cl} (hc:c.inner) (ht:c.test (hd l)=true):Vd l.tail∧l.tail.length+1=l.length:=by
 cases h with
 |one hk _=>rw [show c.test (hd [_])=false from jqj hc hk] at ht;cases ht
 |cons ho hl=>exact ⟨hl,rfl⟩
def Less (l:List Tk) {α:Type}:PR α→Prop
 |.err e l'=>Vd l'∧l'.length≤l.length∧e≠0
 |.ok _ l'=>Vd l'∧l'.length<l.length
theorem ji2:∀ (cs:List Cl),(∀ c∈cs,c.inner)→∀ (l:List Tk) (s:List UInt8),Vd l→match eat cs l s with
  |.err e l'=>Vd l'∧l'.length≤l.length∧e≠0
  |.ok _ l'=>Vd l'∧l'.length+cs.length≤l.length
 | [],_,l,s,h=>⟨h,Nat.le_refl _⟩
 |c::r,hc,l,s,h=>by
  unfold eat
  by_cases ht:c.test (hd l)=true
  · rw [if_pos ht];obtain ⟨h1,h2⟩:=h.tail (hc c (by simp)) ht
    have:=ji2 r (fun d hd=>hc d (by simp [hd])) l.tail (s++(hd l).t) h1
    cases hx:eat r l.tail (s++(hd l).t) with
    |err e l'=>rw [hx] at this;exact ⟨this.1,by have:=this.2.1;omega,this.2.2⟩
    |ok x l'=>rw [hx] at this;exact ⟨this.1,by have:=this.2;simp only [List.length_cons];omega⟩
  · rw [if_neg ht];exact ⟨h,Nat.le_refl _,by decide⟩
theorem jbl (item:List Cl) (h1:∀ c∈item,c.inner) (h0:item≠[]) (l:List Tk) (s:List UInt8) (h:Vd l):Less l (stepP item l s):=by
 unfold stepP
 have key:∀ cs:List Cl,(∀ c∈cs,c.inner)→cs≠[]→Less l (eat cs l s):=by
  intro cs h1 h0
  have:=ji2 cs h1 l s h
  cases hx:eat cs l s with
  |err e l'=>rw [hx] at this;exact this
  |ok x l'=>rw [hx] at this;exact ⟨this.1,by have:=this.2;have:=List.length_pos_iff.2 h0;omega⟩
 split
 · exact key itemC (by intro c hc;simp [itemC] at hc;rcases hc with rfl|rfl|rfl <;> simp [Cl.inner]) (by simp [itemC])
 · exact key item h1 h0
theorem dotName:∀ c∈[cDot,Cl.nm],c.inner:=by intro c hc;simp [cDot] at hc;rcases hc with rfl|rfl <;> simp [Cl.inner]
def LessE (l:List Tk) {α:Type}:PR α→Prop
 |.err e l'=>Vd l'∧l'.length≤l.length∧e≠0
 |.ok _ l'=>Vd l'∧l'.length≤l.length
theorem LessE.mono {l m:List Tk} {α:Type} {r:PR α} (h:LessE m r) (hm:m.length≤l.length):LessE l r:=by
 cases r with
 |err e l'=>exact ⟨h.1,Nat.le_trans h.2.1 hm,h.2.2⟩
 |ok x l'=>exact ⟨h.1,Nat.le_trans h.2 hm⟩
theorem LessE.less {l m:List Tk} {α:Type} {r:PR α} (h:LessE m r) (hm:m.length<l.length):Less l r:=by
 cases r with
 |err e l'=>exact ⟨h.1,by have:=h.2.1;omega,h.2.2⟩
 |ok x l'=>exact ⟨h.1,by have:=h.2;omega⟩
theorem jdg:∀ (f:Nat) (l:List Tk) (s:List UInt8),Vd l→l.length<f→LessE l (pathL f l s)
 |0,l,s,h,hf=>by omega
 |f+1,l,s,h,hf=>by
  by_cases ht:(cDot.test (hd l)||cOpen.test (hd l))=true
  · have:=jbl [cDot,.nm] dotName (by simp) l s h
    rw [pathL,if_pos ht]
    cases hx:stepP [cDot,.nm] l s with
    |err e l'=>rw [hx] at this;exact this
    |ok x l'=>
     rw [hx] at this;exact (jdg f l' x this.1 (by have:=this.2;omega)).mono (by have:=this.2;omega)
  · rw [pathL,if_neg ht];exact ⟨h,Nat.le_refl _⟩
theorem jlc (l:List Tk) (h:Vd l) (h99:l.length≤99):Less l (pathS l):=by
 unfold pathS
 have:=jbl [.nm] (by intro c hc;simp at hc;rw [hc];trivial) (by simp) l [] h
 cases hx:stepP [.nm] l [] with
 |err e l'=>rw [hx] at this;exact this
 |ok s l'=>
  rw [hx] at this;exact (jdg 100 l' s this.1 (by have:=this.2;omega)).less this.2
theorem jjy (l:List Tk) (h:Vd l) (h99:l.length≤99):Less l (pathP l):=by
 unfold pathP
 have:=jlc l h h99
 cases hx:pathS l with
 |err e l'=>rw [hx] at this;exact this
 |ok s l'=>rw [hx] at this;exact this
theorem jfs (neg:Bool) (l:List Tk) (h:Vd l):Less l (numP neg l):=by
 unfold numP
 by_cases ht:(Cl.kd 2).test (hd l)=true
 · rw [if_pos ht];obtain ⟨h1,h2⟩:=h.tail (by simp [Cl.inner]) ht;exact ⟨h1,by omega⟩
 · rw [if_neg ht];exact ⟨h,Nat.le_refl _,by decide⟩
theorem Less.mono {l m:List Tk} {α:Type} {r:PR α} (h:Less m r) (hm:m.length≤l.length):Less l r:=by
 cases r with
 |err e l'=>exact ⟨h.1,Nat.le_trans h.2.1 hm,h.2.2⟩
 |ok x l'=>exact ⟨h.1,Nat.lt_of_lt_of_le h.2 hm⟩
theorem jgh (l:List Tk) (h:Vd l):Less l (numberP l):=by
 unfold numberP
 by_cases ht:cMinus.test (hd l)=true
 · rw [if_pos ht];obtain ⟨h1,h2⟩:=h.tail (by simp [cMinus,Cl.inner]) ht;exact (jfs true l.tail h1).mono (by omega)
 · rw [if_neg ht];exact jfs false l h
theorem zo (l:List Tk) (h:Vd l) (h99:l.length≤99):Less l (operandP l):=by
 unfold operandP
 have one:∀ (c:Cl) (o:Opd),c.inner→c.test (hd l)=true→Less l (PR.ok o l.tail):=fun c o hc ht=>by
  obtain ⟨h1,h2⟩:=h.tail hc ht;exact ⟨h1,by omega⟩
 split
 · rename_i ht;exact one _ _ (by simp [Cl.inner]) ht
 split
 · rename_i ht;exact one _ _ (by simp [Cl.inner]) ht
 split
 · rename_i ht;exact one _ _ (by simp [Cl.inner]) ht
 split
 · rename_i ht;exact one _ _ (by simp [Cl.inner]) ht
 split
 · exact jgh l h
 · exact jjy l h h99
theorem jfz:∀ (cs:List Cl),(∀ c∈cs,c.inner)→∀ (l:List Tk) (a:List Opd),Vd l→l.length≤99→match furP cs l a with
  |.err e l'=>Vd l'∧l'.length≤l.length∧e≠0
  |.ok _ l'=>Vd l'∧l'.length+cs.length≤l.length
 | [],_,l,a,h,_=>⟨h,Nat.le_refl _⟩
 |c::r,hc,l,a,h,h99=>by
  unfold furP
  by_cases ht:c.test (hd l)=true
  · rw [if_pos ht];obtain ⟨h1,h2⟩:=h.tail (hc c (by simp)) ht;have hop:=zo l.tail h1 (by omega)
    cases hx:operandP l.tail with
    |err e l'=>rw [hx] at hop;exact ⟨hop.1,by have:=hop.2.1;omega,hop.2.2⟩
    |ok o l'=>
     rw [hx] at hop
     have:=jfz r (fun d hd=>hc d (by simp [hd])) l' (a++[o]) hop.1 (by have:=hop.2;omega)
     show match furP r l' (a++[o]) with|.err e l'=>_|.ok _ l'=>_
     cases hy:furP r l' (a++[o]) with
     |err e l2=>rw [hy] at this;exact ⟨this.1,by have:=this.2.1;have:=hop.2;omega,this.2.2⟩
     |ok b l2=>rw [hy] at this;exact ⟨this.1,by have:=this.2;have:=hop.2;simp only [List.length_cons];omega⟩
  · rw [if_neg ht];exact ⟨h,Nat.le_refl _,by decide⟩
theorem Xo (op rel:Int) (cs:List Cl) (h1:∀ c∈cs,c.inner) (h0:cs≠[]) (l:List Tk) (a:List Opd) (h:Vd l) (h99:l.length≤99):Less l (furX op rel cs l a):=by
 unfold furX
 have:=jfz cs h1 l a h h99
 cases hx:furP cs l a with
 |err e l'=>rw [hx] at this;exact this
 |ok x l'=>rw [hx] at this;exact ⟨this.1,by have:=this.2;have:=List.length_pos_iff.2 h0;omega⟩
theorem Less.neg {l:List Tk} {r:PR XT} (h:Less l r):Less l (negR r):=by cases r <;> exact h
theorem Ya:∀ c∈betw,c.inner:=by intro c hc;simp [betw] at hc;rcases hc with rfl|rfl <;> simp [Cl.inner]
theorem jj9 (o:Opd) (l:List Tk) (h:Vd l) (h99:l.length≤99):Less l (testO o l):=by
 unfold testO
 split
 · rename_i ht;obtain ⟨h1,h2⟩:=h.tail (by simp [Cl.inner]) ht;exact ((Xo 2 0 betw Ya (by simp [betw]) l.tail [o] h1 (by omega)).mono (by omega)).neg
 split
 · exact Xo 2 0 betw Ya (by simp [betw]) l [o] h h99
 split
 · exact Xo 3 0 _ (by intro c hc;simp at hc;rw [hc];trivial) (by simp) l [o] h h99
 · exact Xo 1 _ _ (by intro c hc;simp at hc;rw [hc];trivial) (by simp) l [o] h h99
theorem jef (l:List Tk) (h:Vd l) (h99:l.length≤99):Less l (testP l):=by
 unfold testP;have hop:=zo l h h99
 cases hx:operandP l with
 |err e l'=>rw [hx] at hop;exact hop
 |ok o l'=>rw [hx] at hop;exact (jj9 o l' hop.1 (by have:=hop.2;omega)).mono (by have:=hop.2;omega)
theorem jfe {P:List Tk→PR XT} (w:List UInt8) (N:Nat) (hP:∀ l,Vd l→l.length≤N→Less l (P l)):∀ (f:Nat) (l:List Tk) (a:List XT),Vd l→l.length≤N→l.length<f→Less l (serL P w f l a)
 |0,l,a,h,_,hf=>by omega
 |f+1,l,a,h,h99,hf=>by
  unfold serL;have hp:=hP l h h99
  cases hx:P l with
  |err e l'=>rw [hx] at hp;exact hp
  |ok x l'=>
   rw [hx] at hp
   show Less l (if (Cl.wd w).test (hd l') then serL P w f l'.tail (a++[x]) else .ok (a++[x]) l')
   by_cases ht:(Cl.wd w).test (hd l')=true
   · rw [if_pos ht];obtain ⟨h1,h2⟩:=hp.1.tail (by trivial) ht
     have:=hp.2
     exact (jfe w N hP f l'.tail (a++[x]) h1 (by omega) (by omega)).mono (by omega)
   · rw [if_neg ht];exact hp
theorem Xx {P:List Tk→PR XT} (op:Int) (w:List UInt8) (hP:∀ l,Vd l→l.length≤99→Less l (P l)) (l:List Tk) (h:Vd l) (h99:l.length≤99):Less l (serP op w P l):=by
 unfold serP
 have:=jfe w 99 hP 100 l [] h h99 (by omega)
 cases hx:serL P w 100 l [] with
 |err e l'=>rw [hx] at this;exact this
 |ok x l'=>rw [hx] at this;exact this
theorem zx:∀ (k:Nat) (l:List Tk),Vd l→l.length≤99→Less l (notP k l)
 |0,l,h,h99=>by
  unfold notP
  split
  · exact ⟨h,Nat.le_refl _,by decide⟩
  · exact jef l h h99
 |k+1,l,h,h99=>by
  unfold notP
  split
  · rename_i ht;obtain ⟨h1,h2⟩:=h.tail (by trivial) ht;exact ((zx k l.tail h1 (by omega)).mono (by omega)).neg
  split
  · rename_i ht;obtain ⟨h1,h2⟩:=h.tail (by trivial) ht
    have:=Xx 6 kOR (Xx 5 kAND (zx k)) l.tail h1 (by omega)
    cases hx:serP 6 kOR (serP 5 kAND (notP k)) l.tail with
    |err e l'=>rw [hx] at this;exact ⟨this.1,by have:=this.2.1;omega,this.2.2⟩
    |ok x l'=>
     rw [hx] at this
     show Less l (if cEnd.test (hd l') then PR.ok x l'.tail else .err 11 l')
     by_cases ht:cEnd.test (hd l')=true
     · rw [if_pos ht];obtain ⟨h3,h4⟩:=this.1.tail (by trivial) ht;exact ⟨h3,by have:=this.2;omega⟩
     · rw [if_neg ht];exact ⟨this.1,by have:=this.2;omega,by decide⟩
  · exact jef l h h99
theorem jab (k:Nat) (l:List Tk) (h:Vd l) (h99:l.length≤99):Less l (orP k l):=Xx 6 kOR (Xx 5 kAND (zx k)) l h h99
theorem jm3 (k:Nat) (l:List Tk) (h:Vd l) (h99:l.length≤99):Less l (serP 5 kAND (notP k) l):=Xx 5 kAND (zx k) l h h99
end Go.Proofs.YthcompcjphaahaaGreatDoor
