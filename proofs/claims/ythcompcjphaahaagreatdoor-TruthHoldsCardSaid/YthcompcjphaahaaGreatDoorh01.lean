/- Plain mathematics of chapter 4: the first place with a property; letters, names, words; leading bytes; where a text stands in a list. No dump is imported. -/
import Derived.Test.YthcompcjphaahaaGreatDoorhzz
import Derived.WalkKit
import Derived.Laws.Strings
set_option maxRecDepth 100000
set_option maxHeartbeats 8000000
set_option linter.unusedVariables false
namespace Go.Proofs.YthcompcjphaahaaGreatDoor
open Go.RowKit
def firstN (p:Nat→Bool) (n:Nat):Nat:=((List.range n).find? p).getD n
def FirstIs (p:Nat→Bool) (n k:Nat):Prop:=k≤n∧(∀ i,i<k→p i=false)∧(k<n→p k=true)
theorem qv (p:Nat→Bool) (n:Nat):FirstIs p n (firstN p n):=by
 unfold firstN
 cases h:(List.range n).find? p with
 |none=>
  rw [List.find?_range_eq_none] at h;exact ⟨Nat.le_refl _,fun i hi=>by simpa using h i hi,fun h2=>absurd h2 (Nat.lt_irrefl _)⟩
 |some k=>
  rw [List.find?_range_eq_some] at h;obtain ⟨h1,h2,h3⟩:=h;rw [List.mem_range] at h2;exact ⟨Nat.le_of_lt h2,fun i hi=>by simpa using h3 i hi,fun _=>h1⟩
theorem FirstIs.eq {p:Nat→Bool} {n k m:Nat} (h:FirstIs p n k) (g:FirstIs p n m):k=m:=by
 rcases Nat.lt_trichotomy k m with c|c|c
 · have:=h.2.2 (Nat.lt_of_lt_of_le c g.1);rw [g.2.1 k c] at this;cases this
 · exact c
 · have:=g.2.2 (Nat.lt_of_lt_of_le c h.1);rw [h.2.1 m c] at this;cases this
theorem qr {p:Nat→Bool} {n k:Nat} (h:∀ i,i<k→p i=false) (hk:k<n) (hp:p k=true):firstN p n=k:=(qv p n).eq ⟨Nat.le_of_lt hk,h,fun _=>hp⟩
theorem kp {p:Nat→Bool} {n:Nat} (h:∀ i,i<n→p i=false):firstN p n=n:=(qv p n).eq ⟨Nat.le_refl _,h,fun h2=>absurd h2 (Nat.lt_irrefl _)⟩
theorem jmw (p:Nat→Bool) (n:Nat):firstN p n≤n:=(qv p n).1
def firstZ (p:Nat→Bool) (n:Nat):Int:=if firstN p n<n then (firstN p n:Nat) else -1
theorem ys {p:Nat→Bool} {n k:Nat} (h:∀ i,i<k→p i=false) (hk:k<n) (hp:p k=true):firstZ p n=(k:Nat):=by
 unfold firstZ;rw [qr h hk hp,if_pos hk]
theorem yd {p:Nat→Bool} {n:Nat} (h:∀ i,i<n→p i=false):firstZ p n=-1:=by
 unfold firstZ;rw [kp h,if_neg (Nat.lt_irrefl _)]
theorem ky (p:Nat→Bool) (n:Nat):(∃ k:Nat,k<n∧firstZ p n=k∧p k=true∧∀ i,i<k→p i=false)∨(firstZ p n=-1∧∀ i,i<n→p i=false):=by
 obtain ⟨h1,h2,h3⟩:=qv p n
 by_cases c:firstN p n<n
 · exact .inl ⟨_,c,by unfold firstZ;rw [if_pos c],h3 c,h2⟩
 · refine .inr ⟨by unfold firstZ;rw [if_neg c],fun i hi=>h2 i (by omega)⟩
theorem ji {p:Nat→Bool} {k:Nat} (h:∀ i,i<k→p i=false) (hk:p k=false):∀ i,i<k+1→p i=false:=fun i hi=>by
 rcases Nat.lt_or_ge i k with c|c
 · exact h i c
 · have:i=k:=by omega
   subst this;exact hk
def isL (c:Nat):Bool:=(decide (97≤c)&&decide (c≤122))||(decide (65≤c)&&decide (c≤90))
def isD (c:Nat):Bool:=decide (48≤c)&&decide (c≤57)
def okAt (i c:Nat):Bool:=if i=0 then isL c else isL c||isD c||c==95
def charAt (s:ByteArray) (i:Nat):Nat:=(s.data.toList.getD i 0).toNat
theorem ya (s:ByteArray) (i:Nat) (h:i<s.size):charAt s i=(s[i]'h).toNat:=by
 unfold charAt
 have hl:i<s.data.toList.length:=by simpa using h
 rw [List.getD_eq_getElem?_getD,List.getElem?_eq_getElem hl]
 rfl
theorem jbo (s:ByteArray) (i:Nat):charAt s i<256:=by unfold charAt;exact UInt8.toNat_lt _
def badAt (s:ByteArray) (i:Nat):Bool:=!okAt i (charAt s i)
def leadN (s:ByteArray):Nat:=firstN (badAt s) s.size
theorem X7 (s:ByteArray):leadN s≤s.size:=jmw _ _
def formedS (s:ByteArray):Bool:=decide (0<s.size)&&decide (leadN s=s.size)
def wordsL:List (List UInt8):=[[65,78,68],[79,82],[78,79,84],[66,69,84,87,69,69,78],[76,73,75,69],[84,82,85,69],[70,65,76,83,69]]
def wordAt (k:Nat):ByteArray:=⟨(wordsL.getD k []).toArray⟩
def wordS (s:ByteArray):Bool:=wordsL.contains s.data.toList
def nameS (s:ByteArray):Bool:=formedS s&&decide (s.size≤16)&&!wordS s
def findZ (L:Nat→ByteArray) (s:ByteArray) (n:Nat):Int:=firstZ (fun k=>(L k).toList==s.toList) n
theorem jk2 (s:ByteArray):decide (findZ wordAt s 7≥0)=wordS s:=by
 have hw:∀ k,(wordAt k).toList=wordsL.getD k []:=fun k=>by rw [ByteArray.toList_eq];simp [wordAt]
 rcases ky (fun k=>(wordAt k).toList==s.toList) 7 with ⟨k,hk,e,h1,_⟩|⟨e,h1⟩
 · have h2:wordS s=true:=by
    unfold wordS;rw [hw,beq_iff_eq,ByteArray.toList_eq] at h1;rw [List.contains_iff_mem,←h1];have hl:k<wordsL.length:=hk;rw [List.getD_eq_getElem?_getD,List.getElem?_eq_getElem hl];exact List.getElem_mem hl
   rw [h2];unfold findZ;rw [e];simp
 · have h2:wordS s=false:=by
    unfold wordS
    cases hc:wordsL.contains s.data.toList with
    |false=>rfl
    |true=>
     rw [List.contains_iff_mem] at hc;obtain ⟨k,hl,hg⟩:=List.getElem_of_mem hc
     have:=h1 k hl
     rw [hw,ByteArray.toList_eq,List.getD_eq_getElem?_getD,List.getElem?_eq_getElem hl,hg] at this;simp at this
   rw [h2];unfold findZ;rw [e];decide
end Go.Proofs.YthcompcjphaahaaGreatDoor
namespace Go.Proofs.YthcompcjphaahaaGreatDoor
def isSz (z:Int):Bool:=z==1||z==2||z==4||z==8
theorem kr {z:Int} (h:isSz z=true):z=1∨z=2∨z=4∨z=8:=by
 simp [isSz] at h;omega
def pw (z:Int):Int:=256 ^ z.toNat
theorem pw1:pw 1=256:=rfl
theorem pw2:pw 2=65536:=rfl
theorem pw4:pw 4=4294967296:=rfl
theorem pw8:pw 8=18446744073709551616:=rfl
def lowZ (n z:Int):Int:=n % pw z
def signZ (n z:Int):Int:=if isSz z then (if n % pw z<pw z / 2 then n % pw z else n % pw z - pw z) else 0
open Go.RowKit
theorem jvz (n:Int):wrap64 (IntKind.u64.wrap (n*72057594037927936)) / 72057594037927936=signZ n 1:=by
 have h:isSz 1=true:=rfl
 unfold signZ;rw [if_pos h,pw1,IntKind.wrap_u64];unfold wrap64;split <;> omega
theorem jvx (n:Int):wrap64 (IntKind.u64.wrap (n*281474976710656)) / 281474976710656=signZ n 2:=by
 have h:isSz 2=true:=rfl
 unfold signZ;rw [if_pos h,pw2,IntKind.wrap_u64];unfold wrap64;split <;> omega
theorem jwa (n:Int):wrap64 (IntKind.u64.wrap (n*4294967296)) / 4294967296=signZ n 4:=by
 have h:isSz 4=true:=rfl
 unfold signZ;rw [if_pos h,pw4,IntKind.wrap_u64];unfold wrap64;split <;> omega
theorem jv6 (n:Int):wrap64 (IntKind.u64.wrap n)=signZ n 8:=by
 have h:isSz 8=true:=rfl
 unfold signZ;rw [if_pos h,pw8,IntKind.wrap_u64];unfold wrap64;split <;> omega
theorem jiu {n z:Int} (h:isSz z=false):signZ n z=0:=by unfold signZ;rw [h];rfl
theorem jv0 (n:Int):IntKind.u64.wrap (n*72057594037927936) / 72057594037927936=lowZ n 1:=by
 unfold lowZ;rw [pw1,IntKind.wrap_u64];omega
theorem jv1 (n:Int):IntKind.u64.wrap (n*281474976710656) / 281474976710656=lowZ n 2:=by
 unfold lowZ;rw [pw2,IntKind.wrap_u64];omega
theorem jvv (n:Int):IntKind.u64.wrap (n*4294967296) / 4294967296=lowZ n 4:=by
 unfold lowZ;rw [pw4,IntKind.wrap_u64];omega
theorem jv9 (n:Int):IntKind.u64.wrap n=lowZ n 8:=by
 unfold lowZ;rw [pw8,IntKind.wrap_u64]
end Go.Proofs.YthcompcjphaahaaGreatDoor
namespace Go.Proofs.YthcompcjphaahaaGreatDoor
open Go.RowKit
def inR (n z:Int):Bool:=decide (-(pw z / 2)≤n)&&decide (n<pw z / 2)
def bitsN (n z:Int):Int:=if isSz z&&inR n z then n % pw z else 0
def bitsE (n z:Int):Int:=if isSz z then (if inR n z then 0 else 7) else 4
theorem jil {n z:Int} (h:isSz z=true):(signZ n z=n)↔inR n z=true:=by
 unfold signZ inR;rw [if_pos h]
 rcases kr h with rfl|rfl|rfl|rfl
 · rw [pw1];simp;constructor <;> intro h <;> (try split at h) <;> (try split) <;> omega
 · rw [pw2];simp;constructor <;> intro h <;> (try split at h) <;> (try split) <;> omega
 · rw [pw4];simp;constructor <;> intro h <;> (try split at h) <;> (try split) <;> omega
 · rw [pw8];simp;constructor <;> intro h <;> (try split at h) <;> (try split) <;> omega
theorem jlx (n:Int) {z:Int} (h:isSz z=true):IntKind.u64.wrap n % pw z=n % pw z:=by
 rw [IntKind.wrap_u64]
 rcases kr h with rfl|rfl|rfl|rfl
 · rw [pw1];omega
 · rw [pw2];omega
 · rw [pw4];omega
 · rw [pw8];omega
theorem jft (n z:Int):signZ (IntKind.u64.wrap n) z=signZ n z:=by
 unfold signZ
 cases h:isSz z with
 |false=>rfl
 |true=>simp only [jlx n h]
theorem jjm {n z:Int} (h:isSz z=false):bitsN n z=0:=by unfold bitsN;rw [h];rfl
theorem jix {n z:Int} (h:isSz z=false):bitsE n z=4:=by unfold bitsE;rw [h];rfl
theorem X5 {n z:Int} (h:isSz z=true) (k:inR n z=false):bitsN n z=0:=by unfold bitsN;rw [h,k];rfl
theorem X8 {n z:Int} (h:isSz z=true) (k:inR n z=false):bitsE n z=7:=by unfold bitsE;rw [h,k];rfl
theorem Xw {n z:Int} (h:isSz z=true) (k:inR n z=true):bitsN n z=n % pw z:=by unfold bitsN;rw [h,k];rfl
theorem Ze {n z:Int} (h:isSz z=true) (k:inR n z=true):bitsE n z=0:=by unfold bitsE;rw [h,k];rfl
theorem jvc (n:Int) (h:lowZ n 1<128):lowZ n 1=signZ n 1:=by
 have k:isSz 1=true:=rfl
 unfold signZ;rw [if_pos k];unfold lowZ at *;rw [pw1] at *;split <;> omega
theorem jt9 (n:Int) (h:lowZ n 2<32768):lowZ n 2=signZ n 2:=by
 have k:isSz 2=true:=rfl
 unfold signZ;rw [if_pos k];unfold lowZ at *;rw [pw2] at *;split <;> omega
theorem ju9 (n:Int) (h:lowZ n 4<2147483648):lowZ n 4=signZ n 4:=by
 have k:isSz 4=true:=rfl
 unfold signZ;rw [if_pos k];unfold lowZ at *;rw [pw4] at *;split <;> omega
theorem jul (n:Int) (h:lowZ n 8<9223372036854775808):lowZ n 8=signZ n 8:=by
 have k:isSz 8=true:=rfl
 unfold signZ;rw [if_pos k];unfold lowZ at *;rw [pw8] at *;split <;> omega
theorem juw (n:Int) (h:¬lowZ n 1<128):lowZ n 1 - 128 - 127 - 1=signZ n 1:=by
 have k:isSz 1=true:=rfl
 unfold signZ;rw [if_pos k];unfold lowZ at *;rw [pw1] at *;split <;> omega
theorem jud (n:Int) (h:¬lowZ n 2<32768):lowZ n 2 - 32768 - 32767 - 1=signZ n 2:=by
 have k:isSz 2=true:=rfl
 unfold signZ;rw [if_pos k];unfold lowZ at *;rw [pw2] at *;split <;> omega
theorem jus (n:Int) (h:¬lowZ n 4<2147483648):lowZ n 4 - 2147483648 - 2147483647 - 1=signZ n 4:=by
 have k:isSz 4=true:=rfl
 unfold signZ;rw [if_pos k];unfold lowZ at *;rw [pw4] at *;split <;> omega
theorem ju7 (n:Int) (h:¬lowZ n 8<9223372036854775808):lowZ n 8 - 9223372036854775808 - 9223372036854775807 - 1=signZ n 8:=by
 have k:isSz 8=true:=rfl
 unfold signZ;rw [if_pos k];unfold lowZ at *;rw [pw8] at *;split <;> omega
theorem Yf (n:Int):(-128≤n∧n<128∧bitsE n 1=0∧(0≤n∧bitsN n 1=n∨n<0∧bitsN n 1=n+256))∨((n< -128∨128≤n)∧bitsE n 1=7∧bitsN n 1=0):=by
 have k:isSz 1=true:=rfl
 cases hr:inR n 1 with
 |true=>
  rw [Xw k hr,Ze k hr];unfold inR at hr;rw [pw1] at *;simp at hr;omega
 |false=>
  rw [X5 k hr,X8 k hr];unfold inR at hr;rw [pw1] at *;simp at hr;omega
theorem Yg (n:Int):(-32768≤n∧n<32768∧bitsE n 2=0∧(0≤n∧bitsN n 2=n∨n<0∧bitsN n 2=n+65536))∨((n< -32768∨32768≤n)∧bitsE n 2=7∧bitsN n 2=0):=by
 have k:isSz 2=true:=rfl
 cases hr:inR n 2 with
 |true=>
  rw [Xw k hr,Ze k hr];unfold inR at hr;rw [pw2] at *;simp at hr;omega
 |false=>
  rw [X5 k hr,X8 k hr];unfold inR at hr;rw [pw2] at *;simp at hr;omega
theorem Yn (n:Int):(-2147483648≤n∧n<2147483648∧bitsE n 4=0∧(0≤n∧bitsN n 4=n∨n<0∧bitsN n 4=n+4294967296))∨((n< -2147483648∨2147483648≤n)∧bitsE n 4=7∧bitsN n 4=0):=by
 have k:isSz 4=true:=rfl
 cases hr:inR n 4 with
 |true=>
  rw [Xw k hr,Ze k hr];unfold inR at hr;rw [pw4] at *;simp at hr;omega
 |false=>
  rw [X5 k hr,X8 k hr];unfold inR at hr;rw [pw4] at *;simp at hr;omega
theorem Yk (n:Int):(-9223372036854775808≤n∧n<9223372036854775808∧bitsE n 8=0∧(0≤n∧bitsN n 8=n∨n<0∧bitsN n 8=n+18446744073709551616))∨((n< -9223372036854775808∨9223372036854775808≤n)∧bitsE n 8=7∧bitsN n 8=0):=by
 have k:isSz 8=true:=rfl
 cases hr:inR n 8 with
 |true=>
  rw [Xw k hr,Ze k hr];unfold inR at hr;rw [pw8] at *;simp at hr;omega
 |false=>
  rw [X5 k hr,X8 k hr];unfold inR at hr;rw [pw8] at *;simp at hr;omega
def numK (k:Int):Bool:=decide (1≤k)&&decide (k≤9)
def szK (k:Int):Int:=if k=1∨k=2 then 1 else if k=3∨k=4 then 2 else if k=5∨k=6∨k=9 then 4 else if k=7∨k=8 then 8 else 0
def sgK (k:Int):Bool:=k==3||k==5||k==7||k==9
def lowK (k n:Int):Int:=if numK k then lowZ n (szK k) else 0
def upK (k n:Int):Int:=if sgK k then IntKind.u64.wrap (signZ n (szK k)) else lowK k n
def mayK (k n:Int):Bool:=if k=1 then decide (n<2) else numK k&&(upK k n==n)
def valK (k n:Int):Int:=if k=1 then n % 2 else if sgK k then signZ n (szK k) else lowZ n (szK k)
structure DatV where
 kind:Int
 neg:Bool
 num:Int
 text:ByteArray
def absZ (v:Int):Int:=if v<0 then -v else v
def noDat:DatV:=⟨0,false,0,⟨#[]⟩⟩
def dkK (k:Int):Int:=if k=1 then 3 else 1
def datK (k n:Int):DatV:=if numK k then ⟨dkK k,decide (valK k n<0),absZ (valK k n),⟨#[]⟩⟩ else noDat
def dv (d:DatV):Int:=if d.neg then -d.num else d.num
def loK (k:Int):Int:=if sgK k then -(pw (szK k) / 2) else 0
def hiK (k:Int):Int:=if k=1 then 1 else if sgK k then pw (szK k) / 2 - 1 else pw (szK k) - 1
def cmpI (x y:Int):Int:=if x<y then -1 else if y<x then 1 else 0
theorem jel {k:Int} (h:numK k=true):k=1∨k=2∨k=3∨k=4∨k=5∨k=6∨k=7∨k=8∨k=9:=by
 simp [numK] at h;omega
theorem jg6 {k:Int} (h:sgK k=true):numK k=true:=by simp [sgK,numK] at *;omega
theorem ja7 {k:Int} (h:numK k=true):isSz (szK k)=true:=by
 rcases jel h with rfl|rfl|rfl|rfl|rfl|rfl|rfl|rfl|rfl <;> rfl
theorem jbq {k:Int} (h:sgK k=true):k=3∨k=5∨k=7∨k=9:=by simp [sgK] at h;omega
theorem jp1 (n z:Int) (h0:0≤n) (h1:n<18446744073709551616) (hz:isSz z=true):(bitsE (wrap64 n) z==0)=(IntKind.u64.wrap (signZ n z)==n):=by
 have hb:bitsE (wrap64 n) z=0↔inR (wrap64 n) z=true:=by
  unfold bitsE;rw [if_pos hz];cases inR (wrap64 n) z <;> simp
 rw [Bool.eq_iff_iff,beq_iff_eq,beq_iff_eq,hb];unfold inR signZ;rw [if_pos hz,IntKind.wrap_u64];unfold wrap64
 rcases kr hz with rfl|rfl|rfl|rfl
 · rw [pw1];simp;constructor <;> intro h <;> (try split at h) <;> (try split) <;> omega
 · rw [pw2];simp;constructor <;> intro h <;> (try split at h) <;> (try split) <;> omega
 · rw [pw4];simp;constructor <;> intro h <;> (try split at h) <;> (try split) <;> omega
 · rw [pw8];simp;constructor <;> intro h <;> (try split at h) <;> (try split) <;> omega
theorem Xe (n z:Int):-9223372036854775808≤signZ n z∧signZ n z<9223372036854775808:=by
 unfold signZ
 cases hz:isSz z with
 |false=>simp
 |true=>
  rcases kr hz with rfl|rfl|rfl|rfl
  · rw [pw1];simp only [if_true];split <;> omega
  · rw [pw2];simp only [if_true];split <;> omega
  · rw [pw4];simp only [if_true];split <;> omega
  · rw [pw8];simp only [if_true];split <;> omega
theorem jkh (n z:Int) (hz:isSz z=true):0≤lowZ n z∧lowZ n z<18446744073709551616:=by
 unfold lowZ
 rcases kr hz with rfl|rfl|rfl|rfl
 · rw [pw1];omega
 · rw [pw2];omega
 · rw [pw4];omega
 · rw [pw8];omega
theorem jmi {k n:Int} (h:numK k=false):datK k n=noDat:=by unfold datK;rw [h];rfl
theorem jf4 (n:Int):datK 1 n=⟨3,false,n % 2,⟨#[]⟩⟩:=by
 have h:¬n % 2<0:=by omega
 show (⟨dkK 1,decide (n % 2<0),absZ (n % 2),⟨#[]⟩⟩:DatV)= _
 unfold absZ;rw [decide_eq_false h,if_neg h];rfl
theorem jhu {k n:Int} (h:numK k=true) (h1:k≠1) (hs:sgK k=false):datK k n=⟨1,false,lowK k n,⟨#[]⟩⟩:=by
 have hv:valK k n=lowZ n (szK k):=by unfold valK;rw [if_neg h1,hs];rfl
 have hr:=jkh n (szK k) (ja7 h)
 have hn:¬lowZ n (szK k)<0:=by omega
 unfold datK lowK dkK absZ;rw [h,hv,if_pos rfl,if_pos rfl,if_neg h1,decide_eq_false hn,if_neg hn]
theorem jht {k n:Int} (hs:sgK k=true) (hn:¬signZ n (szK k)<0):datK k n=⟨1,false,signZ n (szK k),⟨#[]⟩⟩:=by
 have h1:k≠1:=by rcases jbq hs with rfl|rfl|rfl|rfl <;> decide
 have hv:valK k n=signZ n (szK k):=by unfold valK;rw [if_neg h1,hs];rfl
 unfold datK dkK absZ;rw [jg6 hs,hv,if_pos rfl,if_neg h1,decide_eq_false hn,if_neg hn]
theorem ji1 {k n:Int} (hs:sgK k=true) (hn:signZ n (szK k)<0):datK k n=⟨1,true,-signZ n (szK k),⟨#[]⟩⟩:=by
 have h1:k≠1:=by rcases jbq hs with rfl|rfl|rfl|rfl <;> decide
 have hv:valK k n=signZ n (szK k):=by unfold valK;rw [if_neg h1,hs];rfl
 unfold datK dkK absZ;rw [jg6 hs,hv,if_pos rfl,if_neg h1,decide_eq_true hn,if_pos hn]
def p2 (q:Nat):Int:=2 ^ q
theorem jsl {z:Int} (hz:isSz z=true):pw z=pw z / 2*2∧0<pw z / 2∧pw z / 2≤9223372036854775808:=by
 rcases kr hz with rfl|rfl|rfl|rfl
 · rw [pw1];decide
 · rw [pw2];decide
 · rw [pw4];decide
 · rw [pw8];decide
theorem jmb {k:Int} (hs:sgK k=true):hiK k=pw (szK k) / 2 - 1∧-loK k=pw (szK k) / 2:=by
 have h1:k≠1:=by rcases jbq hs with rfl|rfl|rfl|rfl <;> decide
 unfold hiK loK;rw [if_neg h1,hs];simp
theorem jlp {k:Int} (h1:k≠1) (hs:sgK k=false):hiK k=pw (szK k) - 1∧loK k=0:=by
 unfold hiK loK;rw [if_neg h1,hs];simp
end Go.Proofs.YthcompcjphaahaaGreatDoor
