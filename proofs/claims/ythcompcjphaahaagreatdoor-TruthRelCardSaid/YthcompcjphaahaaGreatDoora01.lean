/- Plain mathematics of chapter 4: the first place with a property; letters, names, words; leading bytes; where a text stands in a list. No dump is imported. -/
import Derived.WalkKit
import Derived.Laws.Strings
namespace Go.Proofs.YthcompcjphaahaaGreatDoor
open Go.RowKit
set_option linter.unusedVariables false
def firstN (p:Nat→Bool) (n:Nat):Nat:=((List.range n).find? p).getD n
def FirstIs (p:Nat→Bool) (n k:Nat):Prop:=k≤n∧(∀ i,i<k→p i=false)∧(k<n→p k=true)
theorem firstN_is (p:Nat→Bool) (n:Nat):FirstIs p n (firstN p n):=by
 unfold firstN
 cases h:(List.range n).find? p with
 |none=>
  rw [List.find?_range_eq_none] at h
  exact ⟨Nat.le_refl _,fun i hi=>by simpa using h i hi,fun h2=>absurd h2 (Nat.lt_irrefl _)⟩
 |some k=>
  rw [List.find?_range_eq_some] at h
  obtain ⟨h1,h2,h3⟩:=h
  rw [List.mem_range] at h2
  exact ⟨Nat.le_of_lt h2,fun i hi=>by simpa using h3 i hi,fun _=>h1⟩
theorem FirstIs.eq {p:Nat→Bool} {n k m:Nat} (h:FirstIs p n k) (g:FirstIs p n m):k=m:=by
 rcases Nat.lt_trichotomy k m with c|c|c
 · have:=h.2.2 (Nat.lt_of_lt_of_le c g.1);rw [g.2.1 k c] at this;cases this
 · exact c
 · have:=g.2.2 (Nat.lt_of_lt_of_le c h.1);rw [h.2.1 m c] at this;cases this
theorem first_at {p:Nat→Bool} {n k:Nat} (h:∀ i,i<k→p i=false) (hk:k<n) (hp:p k=true):firstN p n=k:=(firstN_is p n).eq ⟨Nat.le_of_lt hk,h,fun _=>hp⟩
theorem first_none {p:Nat→Bool} {n:Nat} (h:∀ i,i<n→p i=false):firstN p n=n:=(firstN_is p n).eq ⟨Nat.le_refl _,h,fun h2=>absurd h2 (Nat.lt_irrefl _)⟩
theorem firstN_le (p:Nat→Bool) (n:Nat):firstN p n≤n:=(firstN_is p n).1
def firstZ (p:Nat→Bool) (n:Nat):Int:=if firstN p n<n then (firstN p n:Nat) else -1
theorem firstZ_at {p:Nat→Bool} {n k:Nat} (h:∀ i,i<k→p i=false) (hk:k<n) (hp:p k=true):firstZ p n=(k:Nat):=by
 unfold firstZ;rw [first_at h hk hp,if_pos hk]
theorem firstZ_none {p:Nat→Bool} {n:Nat} (h:∀ i,i<n→p i=false):firstZ p n=-1:=by
 unfold firstZ;rw [first_none h,if_neg (Nat.lt_irrefl _)]
theorem firstZ_cases (p:Nat→Bool) (n:Nat):(∃ k:Nat,k<n∧firstZ p n=k∧p k=true∧∀ i,i<k→p i=false)∨(firstZ p n=-1∧∀ i,i<n→p i=false):=by
 obtain ⟨h1,h2,h3⟩:=firstN_is p n
 by_cases c:firstN p n<n
 · exact .inl ⟨_,c,by unfold firstZ;rw [if_pos c],h3 c,h2⟩
 · refine .inr ⟨by unfold firstZ;rw [if_neg c],fun i hi=>h2 i (by omega)⟩
theorem none_next {p:Nat→Bool} {k:Nat} (h:∀ i,i<k→p i=false) (hk:p k=false):∀ i,i<k+1→p i=false:=fun i hi=>by
 rcases Nat.lt_or_ge i k with c|c
 · exact h i c
 · have:i=k:=by omega
   subst this;exact hk
def isL (c:Nat):Bool:=(decide (97≤c)&&decide (c≤122))||(decide (65≤c)&&decide (c≤90))
def isD (c:Nat):Bool:=decide (48≤c)&&decide (c≤57)
def okAt (i c:Nat):Bool:=if i=0 then isL c else isL c||isD c||c==95
def charAt (s:ByteArray) (i:Nat):Nat:=(s.data.toList.getD i 0).toNat
theorem charAt_get (s:ByteArray) (i:Nat) (h:i<s.size):charAt s i=(s[i]'h).toNat:=by
 unfold charAt
 have hl:i<s.data.toList.length:=by simpa using h
 rw [List.getD_eq_getElem?_getD,List.getElem?_eq_getElem hl]
 rfl
theorem charAt_lt (s:ByteArray) (i:Nat):charAt s i<256:=by unfold charAt;exact UInt8.toNat_lt _
def badAt (s:ByteArray) (i:Nat):Bool:=!okAt i (charAt s i)
def leadN (s:ByteArray):Nat:=firstN (badAt s) s.size
theorem leadN_le (s:ByteArray):leadN s≤s.size:=firstN_le _ _
def formedS (s:ByteArray):Bool:=decide (0<s.size)&&decide (leadN s=s.size)
def wordsL:List (List UInt8):=[[65,78,68],[79,82],[78,79,84],[66,69,84,87,69,69,78],[76,73,75,69],[84,82,85,69],[70,65,76,83,69]]
def wordS (s:ByteArray):Bool:=wordsL.contains s.data.toList
def nameS (s:ByteArray):Bool:=formedS s&&decide (s.size≤16)&&!wordS s
end Go.Proofs.YthcompcjphaahaaGreatDoor
namespace Go.Proofs.YthcompcjphaahaaGreatDoor
def isSz (z:Int):Bool:=z==1||z==2||z==4||z==8
theorem isSz_cases {z:Int} (h:isSz z=true):z=1∨z=2∨z=4∨z=8:=by
 simp [isSz] at h;omega
def pw (z:Int):Int:=256 ^ z.toNat
theorem pw1:pw 1=256:=rfl
theorem pw2:pw 2=65536:=rfl
theorem pw4:pw 4=4294967296:=rfl
theorem pw8:pw 8=18446744073709551616:=rfl
def lowZ (n z:Int):Int:=n % pw z
def signZ (n z:Int):Int:=if isSz z then (if n % pw z<pw z / 2 then n % pw z else n % pw z - pw z) else 0
open Go.RowKit
theorem sgn1 (n:Int):wrap64 (IntKind.u64.wrap (n*72057594037927936)) / 72057594037927936=signZ n 1:=by
 have h:isSz 1=true:=rfl
 unfold signZ;rw [if_pos h,pw1,IntKind.wrap_u64];unfold wrap64;split <;> omega
theorem sgn2 (n:Int):wrap64 (IntKind.u64.wrap (n*281474976710656)) / 281474976710656=signZ n 2:=by
 have h:isSz 2=true:=rfl
 unfold signZ;rw [if_pos h,pw2,IntKind.wrap_u64];unfold wrap64;split <;> omega
theorem sgn4 (n:Int):wrap64 (IntKind.u64.wrap (n*4294967296)) / 4294967296=signZ n 4:=by
 have h:isSz 4=true:=rfl
 unfold signZ;rw [if_pos h,pw4,IntKind.wrap_u64];unfold wrap64;split <;> omega
theorem sgn8 (n:Int):wrap64 (IntKind.u64.wrap n)=signZ n 8:=by
 have h:isSz 8=true:=rfl
 unfold signZ;rw [if_pos h,pw8,IntKind.wrap_u64];unfold wrap64;split <;> omega
theorem signZ_no {n z:Int} (h:isSz z=false):signZ n z=0:=by unfold signZ;rw [h];rfl
theorem low1 (n:Int):IntKind.u64.wrap (n*72057594037927936) / 72057594037927936=lowZ n 1:=by
 unfold lowZ;rw [pw1,IntKind.wrap_u64];omega
theorem low2 (n:Int):IntKind.u64.wrap (n*281474976710656) / 281474976710656=lowZ n 2:=by
 unfold lowZ;rw [pw2,IntKind.wrap_u64];omega
theorem low4 (n:Int):IntKind.u64.wrap (n*4294967296) / 4294967296=lowZ n 4:=by
 unfold lowZ;rw [pw4,IntKind.wrap_u64];omega
theorem low8 (n:Int):IntKind.u64.wrap n=lowZ n 8:=by
 unfold lowZ;rw [pw8,IntKind.wrap_u64]
end Go.Proofs.YthcompcjphaahaaGreatDoor
namespace Go.Proofs.YthcompcjphaahaaGreatDoor
open Go.RowKit
def inR (n z:Int):Bool:=decide (-(pw z / 2)≤n)&&decide (n<pw z / 2)
def bitsN (n z:Int):Int:=if isSz z&&inR n z then n % pw z else 0
def bitsE (n z:Int):Int:=if isSz z then (if inR n z then 0 else 7) else 4
theorem signZ_eq {n z:Int} (h:isSz z=true):(signZ n z=n)↔inR n z=true:=by
 unfold signZ inR;rw [if_pos h]
 rcases isSz_cases h with rfl|rfl|rfl|rfl
 · rw [pw1];simp;constructor <;> intro h <;> (try split at h) <;> (try split) <;> omega
 · rw [pw2];simp;constructor <;> intro h <;> (try split at h) <;> (try split) <;> omega
 · rw [pw4];simp;constructor <;> intro h <;> (try split at h) <;> (try split) <;> omega
 · rw [pw8];simp;constructor <;> intro h <;> (try split at h) <;> (try split) <;> omega
theorem mod_u64 (n:Int) {z:Int} (h:isSz z=true):IntKind.u64.wrap n % pw z=n % pw z:=by
 rw [IntKind.wrap_u64]
 rcases isSz_cases h with rfl|rfl|rfl|rfl
 · rw [pw1];omega
 · rw [pw2];omega
 · rw [pw4];omega
 · rw [pw8];omega
theorem signZ_u64 (n z:Int):signZ (IntKind.u64.wrap n) z=signZ n z:=by
 unfold signZ
 cases h:isSz z with
 |false=>rfl
 |true=>simp only [mod_u64 n h]
theorem bitsN_no {n z:Int} (h:isSz z=false):bitsN n z=0:=by unfold bitsN;rw [h];rfl
theorem bitsE_no {n z:Int} (h:isSz z=false):bitsE n z=4:=by unfold bitsE;rw [h];rfl
theorem bitsN_out {n z:Int} (h:isSz z=true) (k:inR n z=false):bitsN n z=0:=by unfold bitsN;rw [h,k];rfl
theorem bitsE_out {n z:Int} (h:isSz z=true) (k:inR n z=false):bitsE n z=7:=by unfold bitsE;rw [h,k];rfl
theorem bitsN_in {n z:Int} (h:isSz z=true) (k:inR n z=true):bitsN n z=n % pw z:=by unfold bitsN;rw [h,k];rfl
theorem bitsE_in {n z:Int} (h:isSz z=true) (k:inR n z=true):bitsE n z=0:=by unfold bitsE;rw [h,k];rfl
end Go.Proofs.YthcompcjphaahaaGreatDoor
namespace Go.Proofs.YthcompcjphaahaaGreatDoor
open Go.RowKit
set_option linter.unusedVariables false
def numK (k:Int):Bool:=decide (1≤k)&&decide (k≤9)
def szK (k:Int):Int:=if k=1∨k=2 then 1 else if k=3∨k=4 then 2 else if k=5∨k=6∨k=9 then 4 else if k=7∨k=8 then 8 else 0
def sgK (k:Int):Bool:=k==3||k==5||k==7||k==9
def lowK (k n:Int):Int:=if numK k then lowZ n (szK k) else 0
def upK (k n:Int):Int:=if sgK k then IntKind.u64.wrap (signZ n (szK k)) else lowK k n
def mayK (k n:Int):Bool:=if k=1 then decide (n<2) else numK k&&(upK k n==n)
def valK (k n:Int):Int:=if k=1 then n % 2 else if sgK k then signZ n (szK k) else lowZ n (szK k)
structure DatV where
 kind:Int
 neg:Bool
 num:Int
 text:ByteArray
def absZ (v:Int):Int:=if v<0 then -v else v
def noDat:DatV:=⟨0,false,0,⟨#[]⟩⟩
def dkK (k:Int):Int:=if k=1 then 3 else 1
def datK (k n:Int):DatV:=if numK k then ⟨dkK k,decide (valK k n<0),absZ (valK k n),⟨#[]⟩⟩ else noDat
def dv (d:DatV):Int:=if d.neg then -d.num else d.num
def loK (k:Int):Int:=if sgK k then -(pw (szK k) / 2) else 0
def hiK (k:Int):Int:=if k=1 then 1 else if sgK k then pw (szK k) / 2 - 1 else pw (szK k) - 1
def cmpI (x y:Int):Int:=if x<y then -1 else if y<x then 1 else 0
theorem numK_cases {k:Int} (h:numK k=true):k=1∨k=2∨k=3∨k=4∨k=5∨k=6∨k=7∨k=8∨k=9:=by
 simp [numK] at h;omega
theorem sgK_num {k:Int} (h:sgK k=true):numK k=true:=by simp [sgK,numK] at *;omega
theorem szK_sz {k:Int} (h:numK k=true):isSz (szK k)=true:=by
 rcases numK_cases h with rfl|rfl|rfl|rfl|rfl|rfl|rfl|rfl|rfl <;> rfl
theorem sgK_cases {k:Int} (h:sgK k=true):k=3∨k=5∨k=7∨k=9:=by simp [sgK] at h;omega
theorem signZ_range (n z:Int):-9223372036854775808≤signZ n z∧signZ n z<9223372036854775808:=by
 unfold signZ
 cases hz:isSz z with
 |false=>simp
 |true=>
  rcases isSz_cases hz with rfl|rfl|rfl|rfl
  · rw [pw1];simp only [if_true];split <;> omega
  · rw [pw2];simp only [if_true];split <;> omega
  · rw [pw4];simp only [if_true];split <;> omega
  · rw [pw8];simp only [if_true];split <;> omega
theorem lowZ_range (n z:Int) (hz:isSz z=true):0≤lowZ n z∧lowZ n z<18446744073709551616:=by
 unfold lowZ
 rcases isSz_cases hz with rfl|rfl|rfl|rfl
 · rw [pw1];omega
 · rw [pw2];omega
 · rw [pw4];omega
 · rw [pw8];omega
theorem datK_no {k n:Int} (h:numK k=false):datK k n=noDat:=by unfold datK;rw [h];rfl
theorem datK_bool (n:Int):datK 1 n=⟨3,false,n % 2,⟨#[]⟩⟩:=by
 have h:¬n % 2<0:=by omega
 show (⟨dkK 1,decide (n % 2<0),absZ (n % 2),⟨#[]⟩⟩:DatV)= _
 unfold absZ
 rw [decide_eq_false h,if_neg h];rfl
theorem datK_low {k n:Int} (h:numK k=true) (h1:k≠1) (hs:sgK k=false):datK k n=⟨1,false,lowK k n,⟨#[]⟩⟩:=by
 have hv:valK k n=lowZ n (szK k):=by unfold valK;rw [if_neg h1,hs];rfl
 have hr:=lowZ_range n (szK k) (szK_sz h)
 have hn:¬lowZ n (szK k)<0:=by omega
 unfold datK lowK dkK absZ
 rw [h,hv,if_pos rfl,if_pos rfl,if_neg h1,decide_eq_false hn,if_neg hn]
theorem datK_pos {k n:Int} (hs:sgK k=true) (hn:¬signZ n (szK k)<0):datK k n=⟨1,false,signZ n (szK k),⟨#[]⟩⟩:=by
 have h1:k≠1:=by rcases sgK_cases hs with rfl|rfl|rfl|rfl <;> decide
 have hv:valK k n=signZ n (szK k):=by unfold valK;rw [if_neg h1,hs];rfl
 unfold datK dkK absZ
 rw [sgK_num hs,hv,if_pos rfl,if_neg h1,decide_eq_false hn,if_neg hn]
theorem datK_neg {k n:Int} (hs:sgK k=true) (hn:signZ n (szK k)<0):datK k n=⟨1,true,-signZ n (szK k),⟨#[]⟩⟩:=by
 have h1:k≠1:=by rcases sgK_cases hs with rfl|rfl|rfl|rfl <;> decide
 have hv:valK k n=signZ n (szK k):=by unfold valK;rw [if_neg h1,hs];rfl
 unfold datK dkK absZ
 rw [sgK_num hs,hv,if_pos rfl,if_neg h1,decide_eq_true hn,if_pos hn]
def p2 (q:Nat):Int:=2 ^ q
theorem pw_even {z:Int} (hz:isSz z=true):pw z=pw z / 2*2∧0<pw z / 2∧pw z / 2≤9223372036854775808:=by
 rcases isSz_cases hz with rfl|rfl|rfl|rfl
 · rw [pw1];decide
 · rw [pw2];decide
 · rw [pw4];decide
 · rw [pw8];decide
theorem most_sg {k:Int} (hs:sgK k=true):hiK k=pw (szK k) / 2 - 1∧-loK k=pw (szK k) / 2:=by
 have h1:k≠1:=by rcases sgK_cases hs with rfl|rfl|rfl|rfl <;> decide
 unfold hiK loK
 rw [if_neg h1,hs];simp
theorem most_un {k:Int} (h1:k≠1) (hs:sgK k=false):hiK k=pw (szK k) - 1∧loK k=0:=by
 unfold hiK loK
 rw [if_neg h1,hs];simp
end Go.Proofs.YthcompcjphaahaaGreatDoor
