/- Chapter 14 in plain Lean: what begins a text, what is wrong with it, a text's tokens, quotes, joined tokens. No run of the program. -/
import Derived.Lib.SlTrimSet
import Derived.Lib.ReplaceLaws
import Derived.Lib.ParseIntB
import Derived.Lib.Hide
import Derived.Test.YthcompcjphaahaaGreatDoorh01
set_option maxRecDepth 100000
set_option maxHeartbeats 8000000
set_option linter.unusedVariables false
namespace Go.Proofs.YthcompcjphaahaaGreatDoor
open Go
def dig (b:UInt8):Bool:=isD b.toNat
def alu (b:UInt8):Bool:=isL b.toNat||isD b.toNat||b.toNat==95
def blk (b:UInt8):Bool:=b.toNat==32||b.toNat==9||b.toNat==10||b.toNat==13
def badB (b:UInt8):Bool:=decide (b.toNat<32)||decide (126<b.toNat)
def wl:List UInt8→Nat
 | []=>0
 |c::r=>if isL c.toNat then (r.takeWhile alu).length+1 else 0
def nl (l:List UInt8):Nat:=(l.takeWhile dig).length
def ql:List UInt8→Option Nat
 | []=>none
 | [c]=>if c=39 then some 1 else none
 |c::d::r=>if c=39 then (if d=39 then (ql r).map (·+2) else some 1) else (ql (d::r)).map (·+1)
def tl (l:List UInt8):Nat:=match l with
 | []=>0
 |c::r=>if c=39 then (match ql r with|some k=>k+1|none=>r.length+1) else 0
def pl (l:List UInt8):Nat:=match l with
 |c::d::_=>if c=37∧dig d=true then 2 else 0
 |_=>0
def signs:List (List UInt8):=[[60,62],[60,61],[62,61],[61],[60],[62],[40],[41],[46],[91],[93],[45]]
def sl (l:List UInt8):Nat:=match signs.find? (fun x=>x.isPrefixOf l) with
 |some x=>x.length
 |none=>0
def nval (l:List UInt8):Nat:=l.foldl (fun n b=>n*10+(b.toNat - 48)) 0
def unq:List UInt8→List UInt8
 | []=>[]
 | [c]=>[c]
 |c::d::r=>if c=39∧d=39 then 39::unq r else c::unq (d::r)
inductive Got where
 |err (e a:Nat)
 |tok (k:Nat) (t:List UInt8) (n len:Nat)
instance:Inhabited Got:=⟨.err 0 0⟩
def rdNum (s:List UInt8):Got:=if 1<s.length∧s[0]?=some 48 then .err 1 0 else if nval s<18446744073709551616 then .tok 2 s (nval s) s.length else .err 7 0
def rdText (s:List UInt8):Got:=match s.findIdx? badB with
 |some i=>.err 10 i
 |none=>if s.count 39 % 2≠0 then .err 2 0 else .tok 3 (unq ((s.drop 1).take (s.length - 2))) 0 s.length
def rdPar (s:List UInt8):Got:=.tok 4 s ((s.getD 1 0).toNat - 48) s.length
def fstG (l:List UInt8):Got:=
 if wl l≠0 then .tok 1 (l.take (wl l)) 0 (wl l)
 else if nl l≠0 then rdNum (l.take (nl l))
 else if tl l≠0 then rdText (l.take (tl l))
 else if pl l≠0 then rdPar (l.take (pl l))
 else if sl l≠0 then .tok 5 (l.take (sl l)) 0 (sl l)
 else .err 11 0
structure Tk where
 k:Nat
 t:List UInt8
 n:Nat
 a:Nat
inductive Ans where
 |bad (e a:Nat)
 |good (l:List Tk)
instance:Inhabited Ans:=⟨.bad 0 0⟩
def TA:Nat→List UInt8→Nat→List Tk→Ans
 |0,_,_,_=>.bad 0 0
 |_+1,[],at_,out=>.good (out++[⟨6,[],0,at_⟩])
 |f+1,c::r,at_,out=>if blk c then TA f r (at_+1) out else match fstG (c::r) with
  |.err e a=>.bad e (at_+a)
  |.tok k t n len=>if out.length=64 then .bad 3 at_ else TA f ((c::r).drop len) (at_+len) (out++[⟨k,t,n,at_⟩])
def tokA (l:List UInt8):Ans:=if 256<l.length then .bad 3 0 else TA (l.length+1) l 0 []
theorem jci {f:Nat} {c:UInt8} {r:List UInt8} {at_:Nat} {out:List Tk}:TA (f+1) (c::r) at_ out=if blk c then TA f r (at_+1) out else match fstG (c::r) with
 |.err e a=>.bad e (at_+a)
 |.tok k t n len=>if out.length=64 then .bad 3 at_ else TA f ((c::r).drop len) (at_+len) (out++[⟨k,t,n,at_⟩]):=rfl
theorem Xg (p:UInt8→Bool):∀ l:List UInt8,(∀ i,i<(l.takeWhile p).length→p (l.getD i 0)=true)∧((l.takeWhile p).length<l.length→p (l.getD (l.takeWhile p).length 0)=false)∧(l.takeWhile p).length≤l.length
 | []=>⟨fun i hi=>by simp at hi,fun h=>by simp at h,Nat.le_refl _⟩
 |c::r=>by
  obtain ⟨h1,h2,h3⟩:=Xg p r
  by_cases hc:p c=true
  · rw [List.takeWhile_cons_of_pos hc];refine ⟨fun i hi=>?_,fun h=>?_,by simpa using h3⟩
    · cases i with
      |zero=>simpa using hc
      |succ j=>exact h1 j (by simpa using hi)
    · exact h2 (by simpa using h)
  · have hc':p c=false:=by simpa using hc
    rw [List.takeWhile_cons_of_neg hc];exact ⟨fun i hi=>by simp at hi,fun _=>by simpa using hc',Nat.zero_le _⟩
theorem jpg (s:ByteArray):leadN s=wl s.data.toList:=by
 have hsz:s.size=s.data.toList.length:=by simp
 refine (qv (badAt s) s.size).eq ?_;unfold badAt charAt;rw [hsz];generalize s.data.toList=l
 cases l with
 |nil=>exact ⟨Nat.le_refl _,fun i hi=>by simp [wl] at hi,fun h=>by simp at h⟩
 |cons c r=>
  by_cases hc:isL c.toNat=true
  · have hw:wl (c::r)=(r.takeWhile alu).length+1:=by simp [wl,hc]
    obtain ⟨h1,h2,h3⟩:=Xg alu r;rw [hw];refine ⟨by simp;exact h3,?_,?_⟩
    · intro i hi
      cases i with
      |zero=>simp [okAt,hc]
      |succ j=>
       have ha:=h1 j (by omega)
       show (!okAt (j+1) (r.getD j 0).toNat)=false
       unfold alu at ha;simp only [okAt,Nat.succ_ne_zero,if_false,ha,Bool.not_true]
    · intro hlt;have hb:=h2 (by simpa using hlt)
      show (!okAt ((r.takeWhile alu).length+1) (r.getD (r.takeWhile alu).length 0).toNat)=true
      have hb2:(isL (r.getD (r.takeWhile alu).length 0).toNat||isD (r.getD (r.takeWhile alu).length 0).toNat||(r.getD (r.takeWhile alu).length 0).toNat==95)=false:=hb;simp only [okAt,Nat.succ_ne_zero,if_false,hb2,Bool.not_false]
  · have hc':isL c.toNat=false:=by simpa using hc
    have hw:wl (c::r)=0:=by simp [wl,hc']
    rw [hw];exact ⟨Nat.zero_le _,fun i hi=>absurd hi (Nat.not_lt_zero _),fun _=>by simp [okAt,hc']⟩
theorem jrh:∀ l,wl l≤l.length
 | []=>Nat.le_refl _
 |c::r=>by
  have:=(Xg alu r).2.2
  by_cases h:isL c.toNat=true
  · simp [wl,h];omega
  · simp [wl,h]
theorem jp5 (l:List UInt8):∀ a,a≤l.foldl (fun n b=>n*10+(b.toNat - 48)) a:=by
 induction l with
 |nil=>intro a;exact Nat.le_refl _
 |cons c r ih=>intro a;exact Nat.le_trans (m:=a*10+(c.toNat - 48)) (by omega) (ih _)
theorem Zy:∀ (l:List UInt8) (acc:Nat),l.all dig=true→acc≤18446744073709551615→
  Lib.parseUintM 18446744073709551615 acc l=if l.foldl (fun n b=>n*10+(b.toNat - 48)) acc<18446744073709551616 then .ok (l.foldl (fun n b=>n*10+(b.toNat - 48)) acc) else .range
 | [],acc,_,ha=>by rw [List.foldl_nil,if_pos (by omega)];rfl
 |c::r,acc,h,ha=>by
  have hc:48≤c.toNat∧c.toNat≤57:=by have:=(List.all_eq_true.1 h) c (by simp);simpa [dig,isD] using this
  have hr:r.all dig=true:=by simp only [List.all_cons,Bool.and_eq_true] at h;exact h.2
  rw [Lib.parseUintM,if_pos hc,List.foldl_cons];have hge:=jp5 r (acc*10+(c.toNat - 48))
  by_cases h1:1844674407370955162≤acc
  · rw [if_pos h1,if_neg (by omega)]
  · rw [if_neg h1]
    by_cases h2:18446744073709551615<acc*10+(c.toNat - 48)
    · rw [if_pos h2,if_neg (by omega)]
    · rw [if_neg h2];exact Zy r _ hr (by omega)
theorem jad (l:List UInt8) (h0:l≠[]) (h:l.all dig=true):Lib.parseUintB 64 l=if nval l<18446744073709551616 then .ok (nval l) else .range:=by
 unfold Lib.parseUintB;rw [if_neg h0];exact Zy l 0 h (by omega)
theorem jja {c:UInt8} {r:List UInt8} (h:¬(c=39∧r[0]?=some 39)):unq (c::r)=c::unq r:=by
 cases r with
 |nil=>rfl
 |cons d r=>
  rw [unq,if_neg (by simpa using h)]
theorem jlo:∀ (n:Nat) (l:List UInt8),l.length≤n→unq l=Lib.replaceK [39,39] [39] (Lib.count l [39,39]) l
 |0,l,h=>by
  have:l=[]:=List.eq_nil_of_length_eq_zero (by omega)
  subst this;rfl
 |n+1,l,h=>by
  rcases hi:Lib.index l [39,39] with i|i
  · have hi':Lib.index l [39,39]=(i:Nat):=hi;have hc:=Lib.count_hit (s:=l) (sub:=[39,39]) (by simp) hi';rw [hc,Nat.add_comm,Lib.replaceK_hit _ _ _ _ _ hi']
    have hroom:i+2≤l.length:=by
     have:=Lib.index_room l [39,39] (by rw [hi'];omega)
     rw [hi'] at this;simp at this;omega
    rw [←jlo n (l.drop (i+[39,39].length)) (by rw [List.length_drop];simp only [List.length_cons,List.length_nil];omega)];clear hc hi
    have key:∀ (i:Nat) (l:List UInt8),Lib.index l [39,39]=(i:Nat)→unq l=l.take i++[39]++unq (l.drop (i+2)):=by
     intro i
     induction i with
     |zero=>
      intro l hl
      match l,hl with
      | [],hl=>simp [Lib.index] at hl
      | [c],hl=>
        simp [Lib.index] at hl
      |c::d::r,hl=>
       unfold Lib.index at hl
       split at hl
       · rename_i hp
         have:c=39∧d=39:=by simp [List.isPrefixOf] at hp;exact ⟨hp.1.symm,hp.2.symm⟩
         rw [unq,if_pos this];rfl
       · split at hl
         · omega
         · rename_i h2;have h3:¬Lib.index (d::r) [39,39]=-1:=by simpa using h2
           have:=Lib.index_ge (d::r) [39,39];omega
     |succ j ih=>
      intro l hl
      match l,hl with
      | [],hl=>simp [Lib.index] at hl;try omega
      |c::r,hl=>
       unfold Lib.index at hl
       split at hl
       · omega
       · rename_i hp
         split at hl
         · omega
         · have hr:=ih r (by omega)
           rw [jja (by
            intro ⟨h1,h2⟩
            apply hp
            match r,h2 with
            |d::r,h2=>simp at h2;simp [List.isPrefixOf,h1,h2])]
           rw [hr];simp
    exact key i l hi'
  · have hm:Lib.index l [39,39]=-1:=by have:=Lib.index_ge l [39,39];omega
    rw [Lib.count_miss hm]
    show unq l=l
    clear hi
    have key:∀ l:List UInt8,Lib.index l [39,39]=-1→unq l=l:=by
     intro l
     induction l with
     |nil=>intro _;rfl
     |cons c r ih=>
      intro hl;unfold Lib.index at hl
      split at hl
      · omega
      · rename_i hp
        split at hl
        · rename_i h2
          rw [jja (by
           intro ⟨h1,h3⟩
           apply hp
           match r,h3 with
           |d::r,h3=>simp at h3;simp [List.isPrefixOf,h1,h3]),ih (by simpa using h2)]
        · have:=Lib.index_ge r [39,39];omega
    exact key l hm
theorem jh0 (l:List UInt8):Lib.replaceAll l [39,39] [39]=unq l:=by
 unfold Lib.replaceAll Lib.replace Lib.replaceNum;rw [if_neg (by decide),if_pos (.inl (by decide)),jlo l.length l (Nat.le_refl _)]
end Go.Proofs.YthcompcjphaahaaGreatDoor
