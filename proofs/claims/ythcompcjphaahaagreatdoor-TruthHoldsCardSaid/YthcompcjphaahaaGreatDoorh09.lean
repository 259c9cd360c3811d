/- Quote: of the code and of the reference. -/
import Derived.Deep.DeepCutAuto
import Derived.Test.YthcompcjphaahaaGreatDoorh08
set_option maxRecDepth 100000
set_option maxHeartbeats 8000000
set_option linter.unusedVariables false
namespace Go.Proofs.YthcompcjphaahaaGreatDoor
open Go.RowKit
theorem kx (l:List UInt8):(bs l).data.toList=l:=by simp [bs]
structure TkV where
 k:Int
 t:ByteArray
 n:Int
 a:Int
instance:Inhabited TkV:=⟨⟨0,⟨#[]⟩,0,0⟩⟩
def TkAt (w:World) (ao:Option Addr) (i:Nat) (x:TkV):Prop:=
 ∃ b off,ao=some ⟨b,off,none⟩∧w.cell? ⟨b,off+i*4,none⟩=some (.int .i64 x.k)∧w.cell? ⟨b,off+i*4+1,none⟩=some (.string x.t)∧w.cell? ⟨b,off+i*4+2,none⟩=some (.int .u64 x.n)∧w.cell? ⟨b,off+i*4+3,none⟩=some (.int .i64 x.a)
theorem jem (l:List UInt8) (i:Nat) (h:i<(bs l).size) (h':i<l.length):(bs l)[i]'h=l[i]'h':=by
 show (bs l).data[i]'h=l[i]
 simp [bs]
theorem Z4 (l:List UInt8) (i j:Nat):(bs l).extract i j=bs ((l.take j).drop i):=by
 apply ByteArray.ext
 rw [ByteArray.data_extract];simp [bs,List.drop_take]
theorem jg5 (l:List UInt8) (j:Nat) (hj:j≤l.length) (wx:World):(Instr.slice 9 (.string (bs l)) (some (.int .i64 (j:Nat))) none none).run Tryz.prog wx=.ok (.string (bs (l.drop j))) wx:=by
 have h:=run_slice_string_l (P:=Tryz.prog) wx 9 (bs l) Tryz.underlying9 .i64 (j:Nat) (by omega) (by rw [jy];omega);rw [h]
 show Result.ok (Value.string ((bs l).extract j (bs l).size)) wx= _
 rw [Z4,jy,List.take_length]
theorem jt8 (l:List UInt8) (j:Nat) (hj:j≤l.length) (wx:World):(Instr.slice 9 (.string (bs l)) none (some (.int .i64 (j:Nat))) none).run Tryz.prog wx=.ok (.string (bs (l.take j))) wx:=by
 have h:=run_slice_string_h (P:=Tryz.prog) wx 9 (bs l) Tryz.underlying9 .i64 (j:Nat) (by omega) (by rw [jy];omega);rw [h]
 show Result.ok (Value.string ((bs l).extract 0 j)) wx= _
 rw [Z4,List.drop_zero]
theorem jq6 (l:List UInt8) (i j:Nat) (h1:i≤j) (h2:j≤l.length) (wx:World):(Instr.slice 9 (.string (bs l)) (some (.int .i64 (i:Nat))) (some (.int .i64 (j:Nat))) none).run Tryz.prog wx=.ok (.string (bs ((l.drop i).take (j - i)))) wx:=by
 have h:=run_slice_string (P:=Tryz.prog) wx 9 (bs l) .i64 .i64 (i:Nat) (j:Nat) Tryz.underlying9 (by omega) (by omega) (by rw [jy];omega);rw [h]
 show Result.ok (Value.string ((bs l).extract i j)) wx= _
 rw [Z4,List.drop_take]
theorem jgs (a b:List UInt8) (h:a≠b):(a==b)=false:=beq_eq_false_iff_ne.2 h
theorem jg9 (l:List UInt8) (hl:l.length≤1000) (w:World):Calls Tryz.prog 145 #[.string (bs l)] w fun e w'=>e=.returned (.int .i64 (wl l:Nat))∧Below w.heap.size w w':=by
 have h:=jd3 (bs l) (by rw [jy];omega) w
 rwa [jpg,kx] at h
theorem runBlanks (l:List UInt8) (hl:l.length≤1000) (w:World):Calls Tryz.prog 79 #[.string (bs l),.string ⟨#[32,9,10,13]⟩] w fun e w'=>e=.returned (.int .i64 ((l.takeWhile blk).length:Nat))∧Below w.heap.size w w':=by
 have h:=jlu (bs l) ⟨#[32,9,10,13]⟩ blk js6 (by rw [jy];omega) (by decide) (fun j b h=>by
  have:b∈([32,9,10,13]:List UInt8):=List.mem_of_getElem? h
  revert this
  simp;rintro (rfl|rfl|rfl|rfl) <;> decide) w
 rwa [kx] at h
theorem runDigits (l:List UInt8) (hl:l.length≤1000) (w:World):Calls Tryz.prog 79 #[.string (bs l),.string ⟨#[48,49,50,51,52,53,54,55,56,57]⟩] w fun e w'=>e=.returned (.int .i64 (nl l:Nat))∧Below w.heap.size w w':=by
 have h:=jlu (bs l) ⟨#[48,49,50,51,52,53,54,55,56,57]⟩ dig jti (by rw [jy];omega) (by decide) (fun j b h=>by
  have:b∈([48,49,50,51,52,53,54,55,56,57]:List UInt8):=List.mem_of_getElem? h
  revert this
  simp;rintro (rfl|rfl|rfl|rfl|rfl|rfl|rfl|rfl|rfl|rfl) <;> decide) w
 rwa [kx] at h
theorem jdf (l:List UInt8) (hl:l.length≤1000) (w:World):Calls Tryz.prog 147 #[.string (bs l)] w fun e w'=>e=.returned (.int .i64 (nl l:Nat))∧Below w.heap.size w w':=by
 have HR:=lh (runDigits l hl);go_enter Tryz.func147,Tryz.ntmps147;go_wp2_with (go_at_call 79;refine (HR.out _).mono ?_;rintro e w1 ⟨rfl,hb⟩);go_ret;exact ⟨rfl,hb⟩
theorem jew (c:UInt8) (r:List UInt8) (hl:(c::r).length≤1000) (w:World):Calls Tryz.prog 151 #[.string (bs (c::r))] w fun e w'=>e=.returned (.int .i64 (pl (c::r):Nat))∧Below w.heap.size w w':=by
 have hl':r.length≤999:=by simpa using hl
 have HR:=lh (runDigits r (by omega));have hsl:∀ wx,(Instr.slice 9 (.string (bs (c::r))) (some (.int .i64 1)) none none).run Tryz.prog wx=.ok (.string (bs r)) wx:=fun wx=>jg5 (c::r) 1 (by simp) wx
 have hsz:(bs (c::r)).size=r.length+1:=by rw [jy];rfl
 have h0:0<(bs (c::r)).size:=by omega
 have hg:(bs (c::r))[0]'h0=c:=jem _ 0 h0 (by simp)
 have hp:pl (c::r)=if c.toNat=37∧0<nl r then 2 else 0:=by
  have e:(c.toNat=37)↔(c=37):=⟨fun h=>UInt8.toNat_inj.1 h,fun h=>by rw [h];rfl⟩;simp only [e];unfold pl nl
  cases r with
  |nil=>simp
  |cons d q=>
   cases hd:dig d with
   |true=>rw [List.takeWhile_cons_of_pos hd];simp [hd]
   |false=>rw [List.takeWhile_cons_of_neg (by simp [hd])];simp [hd]
 rw [hp];have hc:c.toNat<256:=UInt8.toNat_lt c;generalize hb:bs (c::r)=s at *;obtain ⟨m,hm⟩:∃ m,nl r=m:=⟨_,rfl⟩;rw [hm] at HR ⊢
 by_cases h37:(c.toNat:Int)=37
 · have h37':c.toNat=37:=by omega
   by_cases hm0:(0:Int)<(m:Int)
   · rw [if_pos ⟨h37',by omega⟩];clear hp h37' hm;go_enter Tryz.func151,Tryz.ntmps151;go_wp2_with (go_at_call 79;refine (HR.out _).mono ?_;rintro e w1 ⟨rfl,hb⟩);go_ret;exact ⟨rfl,hb⟩
   · rw [if_neg (fun h=>hm0 (by omega))];clear hp h37' hm;go_enter Tryz.func151,Tryz.ntmps151;go_wp2_with (go_at_call 79;refine (HR.out _).mono ?_;rintro e w1 ⟨rfl,hb⟩);go_ret;exact ⟨rfl,hb⟩
 · rw [if_neg (fun h=>h37 (by omega))];have h37b:((c.toNat:Int)==37)=false:=beq_eq_false_iff_ne.2 h37;clear hp hm;go_enter Tryz.func151,Tryz.ntmps151;go_wp2_with (fail);go_ret;exact ⟨rfl,Below.refl _ _⟩
def qEnd (l:List UInt8) (j:Nat):Nat:=match ql (l.drop j) with
 |some k=>j+k
 |none=>l.length
theorem jon (l:List UInt8) (j:Nat) (h:l.length≤j):qEnd l j=l.length:=by
 unfold qEnd;rw [List.drop_eq_nil_of_le h]
 rfl
theorem jcm (l:List UInt8) (j:Nat) (h:j<l.length):l.drop j=l[j]::l.drop (j+1):=List.drop_eq_getElem_cons h
theorem jre (l:List UInt8) (j:Nat) (h:Lib.hasPrefix (l.drop j) [39,39]=true):qEnd l j=qEnd l (j+2)∧j+2≤l.length:=by
 unfold Lib.hasPrefix at h;obtain ⟨r,hr⟩:=List.isPrefixOf_iff_prefix.1 h
 have h2:l.drop (j+2)=r:=by rw [←List.drop_drop,←hr];rfl
 have hlen:(l.drop j).length=2+r.length:=by rw [←hr];simp;omega
 rw [List.length_drop] at hlen;refine ⟨?_,by omega⟩;unfold qEnd;rw [h2,←hr]
 show (match (if (39:UInt8)=39 then (if (39:UInt8)=39 then (ql r).map (·+2) else some 1) else (ql (39::r)).map (·+1)) with|some k=>j+k|none=>l.length)= _
 rw [if_pos rfl,if_pos rfl]
 cases ql r with
 |none=>rfl
 |some k=>show j+(k+2)=j+2+k;omega
theorem jm7 (l:List UInt8) (j:Nat) (hj:j<l.length) (h:Lib.hasPrefix (l.drop j) [39,39]=false) (h1:l[j]=39):qEnd l j=j+1:=by
 unfold qEnd;rw [jcm l j hj,h1] at h;rw [jcm l j hj,h1]
 cases hr:l.drop (j+1) with
 |nil=>rfl
 |cons d r=>
  rw [hr] at h
  have hd:¬d=39:=by
   rintro rfl;simp [Lib.hasPrefix,List.isPrefixOf] at h
  show (match (if (39:UInt8)=39 then (if d=39 then (ql r).map (·+2) else some 1) else (ql (d::r)).map (·+1)) with|some k=>j+k|none=>l.length)= _
  rw [if_pos rfl,if_neg hd]
theorem jst (c:UInt8) (r:List UInt8) (h:¬c=39):ql (c::r)=(ql r).map (·+1):=by
 cases r with
 |nil=>simp [ql,h]
 |cons d q=>rw [ql,if_neg h]
theorem jnq (l:List UInt8) (j:Nat) (hj:j<l.length) (h1:¬l[j]=39):qEnd l j=qEnd l (j+1):=by
 unfold qEnd;rw [jcm l j hj,jst _ _ h1]
 cases ql (l.drop (j+1)) with
 |none=>rfl
 |some k=>show j+(k+1)=j+1+k;omega
theorem jgw (c:UInt8) (r:List UInt8) (hl:(c::r).length≤1000) (w:World):Calls Tryz.prog 149 #[.string (bs (c::r))] w fun e w'=>e=.returned (.int .i64 (tl (c::r):Nat))∧w=w':=by
 have hE:tl (c::r)=if c=39 then qEnd (c::r) 1 else 0:=by
  show (if c=39 then (match ql r with|some k=>k+1|none=>r.length+1) else 0)=if c=39 then (match ql r with|some k=>1+k|none=>r.length+1) else 0
  cases ql r with
  |none=>rfl
  |some k=>
   show (if c=39 then k+1 else 0)=if c=39 then 1+k else 0
   rw [Nat.add_comm]
 have hs1:∀ wx,(Instr.slice 9 (.string (bs (c::r))) none (some (.int .i64 1)) none).run Tryz.prog wx=.ok (.string (bs [c])) wx:=fun wx=>jt8 (c::r) 1 (by simp) wx;have HSF:=lh (jg5 (c::r));have HSM:=lh (jq6 (c::r))
 have h1le:1≤(c::r).length:=by simp
 obtain ⟨l,hl0⟩:∃ l,c::r=l:=⟨_,rfl⟩;rw [hl0] at hl hE hs1 HSF HSM h1le ⊢;rw [hE];have hsz:(bs l).size=l.length:=jy l;have HG:=lh (jem l);have HT:=lh (jre l);have HST:=lh (jm7 l);have HN:=lh (jnq l);have HNO:=lh (jon l);obtain ⟨s,hs⟩:∃ s,bs l=s:=⟨_,rfl⟩;rw [hs] at hs1 HSF HSM hsz ⊢
 have hml:s.size≤maxLen:=by show s.size≤9223372036854775807;omega
 clear hl0 hE
 by_cases hc:c=39
 · subst hc;rw [if_pos rfl]
   have hq:((bs [39]).toList==[39])=true:=by rw [ByteArray.toList_eq,kx];rfl
   generalize hb1:bs [39]=b1 at hs1 hq;clear hb1;go_enter Tryz.func149,Tryz.ntmps149;go_wp2_with (fail)
   go_loopw [3] (fun i wr=>∃ j:Nat,j≤l.length∧i=.int .i64 j∧Hid (qEnd l j=qEnd l 1)∧wr=w) (fun i _=>l.length - (intOf i).toNat)
   case atStart=>exact ⟨1,h1le,rfl,lh rfl,rfl⟩
   case round=>
    obtain ⟨j,hj,rfl,HQ,rfl⟩:=hrel
    by_cases hlt:j<l.length
    · have hsj:∀ wx,(Instr.slice 9 (.string s) (some (.int .i64 (j:Int))) none none).run Tryz.prog wx=.ok (.string (bs (l.drop j))) wx:=fun wx=>HSF.out j (by omega) wx
      have hst:∀ wx,(Instr.slice 9 (.string s) (some (.int .i64 (j:Int))) (some (.int .i64 ((j:Int)+1))) none).run Tryz.prog wx=.ok (.string (bs [l[j]])) wx:=fun wx=>by
       have h:=HSM.out j (j+1) (by omega) (by omega) wx;rw [jcm l j hlt,Nat.add_sub_cancel_left] at h;exact h
      have hP:=fun wx=>Tryz.strings_HasPrefix (bs (l.drop j)) ⟨#[39,39]⟩ wx;rw [kx] at hP;have hP:∀ wx,Calls Tryz.prog 183 #[.string (bs (l.drop j)),.string ⟨#[39,39]⟩] wx fun e w'=>e=.returned (.bool (Lib.hasPrefix (l.drop j) [39,39]))∧w'=wx:=hP;have ht:=HT.out j;have hstop:=HST.out j hlt;obtain ⟨pb,hpb⟩:∃ pb,Lib.hasPrefix (l.drop j) [39,39]=pb:=⟨_,rfl⟩;rw [hpb] at hP ht hstop;obtain ⟨X,hX⟩:∃ X,bs (l.drop j)=X:=⟨_,rfl⟩;rw [hX] at hP hsj;clear hX hpb;have HP:=lh hP;clear hP
      cases pb with
      |true=>
       obtain ⟨e1,e2⟩:=ht rfl;have HE:=lh (e1.symm.trans HQ.out);clear ht hstop e1 hst;go_wp2_with (go_at_call 183;refine (HP.out _).mono ?_;rintro e w1 ⟨rfl,rfl⟩);go_roundw
       case rel=>exact ⟨j+2,by omega,by go_num,HE,by first|rfl|trivial⟩
       case measure=>simp [intOf];omega
      |false=>
       by_cases h39:l[j]=39
       · have HE:=lh ((hstop rfl h39).symm.trans HQ.out);rw [h39] at hst
         have hq2:((bs [39]).toList==[39])=true:=by rw [ByteArray.toList_eq,kx];rfl
         generalize hb2:bs [39]=b2 at hst hq2;clear hb2 ht hstop h39;go_wp2_with (go_at_call 183;refine (HP.out _).mono ?_;rintro e w1 ⟨rfl,rfl⟩);go_ret;exact ⟨by rw [←HE.out];go_num,rfl⟩
       · have HE:=lh ((HN.out j hlt h39).symm.trans HQ.out)
         have hq2:((bs [l[j]]).toList==[39])=false:=by
          rw [ByteArray.toList_eq,kx];exact jgs _ _ (fun h=>h39 (by injection h))
         generalize hb2:bs [l[j]]=b2 at hst hq2;clear hb2 ht hstop h39;go_wp2_with (go_at_call 183;refine (HP.out _).mono ?_;rintro e w1 ⟨rfl,rfl⟩);go_roundw
         case rel=>exact ⟨j+1,by omega,by go_num,HE,by first|rfl|trivial⟩
         case measure=>simp [intOf];omega
    · have HE:=lh ((HNO.out j (by omega)).symm.trans HQ.out);go_wp2_with (fail);go_ret;exact ⟨by rw [←HE.out];rfl,rfl⟩
 · rw [if_neg hc]
   have hq:(!((bs [c]).toList==[39]))=true:=by
    rw [ByteArray.toList_eq,kx,jgs _ _ (fun h=>hc (by injection h))];rfl
   have hq2:((bs [c]).toList==[39])=false:=by
    rw [ByteArray.toList_eq,kx,jgs _ _ (fun h=>hc (by injection h))]
   generalize hb1:bs [c]=b1 at hs1 hq hq2;clear hb1 hc;go_enter Tryz.func149,Tryz.ntmps149;go_wp2_with (fail);go_ret;exact ⟨rfl,rfl⟩
theorem jl0 {α:Type} (p:α→Bool):∀ (L:List α) (j:Nat) (hj:j<L.length),(∀ i (hi:i<j),p (L[i]'(by omega))=false)→p L[j]=true→L.find? p=some L[j]
 |a::r,0,hj,h,hp=>List.find?_cons_of_pos hp
 |a::r,j+1,hj,h,hp=>by
  rw [List.find?_cons_of_neg (by have:=h 0 (by omega);simpa using this)];exact jl0 p r j (by simpa using hj) (fun i hi=>h (i+1) (by omega)) hp
theorem jsw {α:Type} (p:α→Bool) (L:List α) (h:∀ i (hi:i<L.length),p L[i]=false):L.find? p=none:=by
 rw [List.find?_eq_none];intro x hx;obtain ⟨i,hi,rfl⟩:=List.getElem_of_mem hx;rw [h i hi];decide
def signAt (i:Nat):List UInt8:=signs.getD i []
theorem Yw (i:Nat) (h:i<signs.length):signs[i]=signAt i:=by
 unfold signAt;rw [List.getD_eq_getElem?_getD,List.getElem?_eq_getElem h];rfl
theorem juj (l:List UInt8) (j:Nat) (hj:j<12) (h:∀ i,i<j→Lib.hasPrefix l (signAt i)=false) (hp:Lib.hasPrefix l (signAt j)=true):sl l=(signAt j).length:=by
 have h2:=jl0 (fun x=>x.isPrefixOf l) signs j hj (fun i hi=>by rw [Yw i (Nat.lt_trans hi hj)];exact h i hi) (by rw [Yw j hj];exact hp);unfold sl;rw [h2,Yw j hj]
theorem js7 (l:List UInt8) (h:∀ i,i<12→Lib.hasPrefix l (signAt i)=false):sl l=0:=by
 have h2:=jsw (fun x=>x.isPrefixOf l) signs (fun i hi=>by rw [Yw i hi];exact h i hi);unfold sl;rw [h2]
def signsObj:Obj:=.cells #[.string ⟨#[60,62]⟩,.string ⟨#[60,61]⟩,.string ⟨#[62,61]⟩,.string ⟨#[61]⟩,.string ⟨#[60]⟩,.string ⟨#[62]⟩,.string ⟨#[40]⟩,.string ⟨#[41]⟩,.string ⟨#[46]⟩,.string ⟨#[91]⟩,.string ⟨#[93]⟩,.string ⟨#[45]⟩] 9
theorem joy (w:World):∀ i,i<12→(w.alloc signsObj).cell? ⟨w.heap.size,i,none⟩=some (.string (bs (signAt i))):=by
 intro i hi;have h:=jd w signsObj
 match i,hi with
 |0,_=>exact ja h rfl
 |1,_=>exact ja h rfl
 |2,_=>exact ja h rfl
 |3,_=>exact ja h rfl
 |4,_=>exact ja h rfl
 |5,_=>exact ja h rfl
 |6,_=>exact ja h rfl
 |7,_=>exact ja h rfl
 |8,_=>exact ja h rfl
 |9,_=>exact ja h rfl
 |10,_=>exact ja h rfl
 |11,_=>exact ja h rfl
theorem jla:∀ i:Nat,(signAt i).length≤2:=by
 intro i
 by_cases h:i<12
 · match i,h with
   |0,_=>decide
   |1,_=>decide
   |2,_=>decide
   |3,_=>decide
   |4,_=>decide
   |5,_=>decide
   |6,_=>decide
   |7,_=>decide
   |8,_=>decide
   |9,_=>decide
   |10,_=>decide
   |11,_=>decide
 · have:signAt i=[]:=by
    unfold signAt;rw [List.getD_eq_getElem?_getD,List.getElem?_eq_none (show signs.length≤i from Nat.le_of_not_lt h)];rfl
   rw [this];decide
theorem jg8 (l:List UInt8) (hl:l.length≤1000) (w:World):Calls Tryz.prog 153 #[.string (bs l)] w fun e w'=>e=.returned (.int .i64 (sl l:Nat))∧Below w.heap.size w w':=by
 have HC:=lh (joy w);have HW:=lh ((Below.refl w.heap.size w).alloc (Nat.le_refl _) signsObj)
 have HP:=lh (fun (j:Nat) (wx:World)=>show Calls Tryz.prog 183 #[.string (bs l),.string (bs (signAt j))] wx fun e w'=>e=.returned (.bool (Lib.hasPrefix l (signAt j)))∧w'=wx by
  have h:=Tryz.strings_HasPrefix (bs l) (bs (signAt j)) wx
  rwa [kx,kx] at h)
 have HH:=lh (juj l);have HM:=lh (js7 l);have HZ:=lh (fun j=>show (bs (signAt j)).size=(signAt j).length∧(signAt j).length≤2 from ⟨jy _,jla j⟩);obtain ⟨s,hs⟩:∃ s,bs l=s:=⟨_,rfl⟩;rw [hs] at HP ⊢;obtain ⟨O,hO⟩:∃ O,signsObj=O:=⟨_,rfl⟩;have HO:=lh hO;rw [hO] at HC HW;clear hO;go_enter Tryz.func153,Tryz.ntmps153;go_wp2;rw [show Obj.cells #[.string ⟨#[60,62]⟩,.string ⟨#[60,61]⟩,.string ⟨#[62,61]⟩,.string ⟨#[61]⟩,.string ⟨#[60]⟩,.string ⟨#[62]⟩,.string ⟨#[40]⟩,.string ⟨#[41]⟩,.string ⟨#[46]⟩,.string ⟨#[91]⟩,.string ⟨#[93]⟩,.string ⟨#[45]⟩] 9=O from HO.out]
 go_loopw [7] (fun i wr=>∃ j:Nat,j≤12∧i=.int .i64 j∧Hid (∀ i,i<j→Lib.hasPrefix l (signAt i)=false)∧wr=w.alloc O) (fun i _=>12 - (intOf i).toNat)
 case atStart=>exact ⟨0,Nat.zero_le _,rfl,lh (fun i hi=>absurd hi (Nat.not_lt_zero _)),rfl⟩
 case round=>
  obtain ⟨j,hj,rfl,HR,hwr⟩:=hrel;have HWR:=lh hwr
  by_cases hlt:j<12
  · have hc:=HC.out j hlt;rw [←hwr] at hc;have hp:=HP.out j;obtain ⟨hz,hz2⟩:=HZ.out j;clear hwr;obtain ⟨x,hx⟩:∃ x,bs (signAt j)=x:=⟨_,rfl⟩;rw [hx] at hc hp hz;obtain ⟨m,hm⟩:∃ m,(signAt j).length=m:=⟨_,rfl⟩;rw [hm] at hz hz2
    have hml:x.size≤maxLen:=by show x.size≤9223372036854775807;omega
    cases hq:Lib.hasPrefix l (signAt j) with
    |true=>
     rw [hq] at hp;have HPX:=lh hp;have HS:=lh ((HH.out j hlt HR.out hq).trans hm);clear hp hq hx hm;go_wp2_with (go_at_call 183;refine (HPX.out _).mono ?_;rintro e w1 ⟨rfl,rfl⟩);go_ret;exact ⟨by rw [HS.out];rfl,by rw [HWR.out];exact HW.out⟩
    |false=>
     rw [hq] at hp;have HPX:=lh hp;have HN:=lh (ji HR.out hq);clear hp hq hx hm;go_wp2_with (go_at_call 183;refine (HPX.out _).mono ?_;rintro e w1 ⟨rfl,rfl⟩);go_roundw
     case rel=>exact ⟨j+1,by omega,by go_num,HN,HWR.out⟩
     case measure=>simp [intOf];omega
  · have HS:=lh (HM.out (fun i hi=>HR.out i (by omega)));clear hwr;go_wp2_with (fail);go_ret;exact ⟨by rw [HS.out];rfl,by rw [HWR.out];exact HW.out⟩
end Go.Proofs.YthcompcjphaahaaGreatDoor
