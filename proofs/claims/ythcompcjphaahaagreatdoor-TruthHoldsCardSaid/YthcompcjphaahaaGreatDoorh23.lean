/- Chapter 9 in plain words: what is wrong first with a value of a type. -/
import Derived.Lib.Bytealg
import Derived.Lib.IndexLaws
import Derived.Laws.Externs
import Derived.Test.YthcompcjphaahaaGreatDoorh19
import Derived.Test.YthcompcjphaahaaGreatDoorh22
set_option maxRecDepth 100000
set_option maxHeartbeats 8000000
set_option linter.unusedVariables false
namespace Go.Proofs.YthcompcjphaahaaGreatDoor.Pa
open Go.RowKit
def formT (T:VT):Bool:=((numK T.kind||T.kind==14)||T.num==0)&&((T.kind==10||T.text.toList.isEmpty)&&((!numK T.kind&&!(T.kind==10))||(T.len:Int)==0))
def zeroIn (s:ByteArray):Bool:=decide (0≤Lib.indexByte s.data.toList 0)
def numOk (L:Nat→TypeV) (t:Nat) (n:Int):Bool:=if (L t).kind=9 then okZ (valueZ (L t) n) else mayK (L t).kind n
def textE (s:ByteArray) (bound:Int):Int:=if bound<s.size then 3 else if zeroIn s then 10 else 0
def jaj (L:Nat→TypeV) (t:Nat) (n:Int):Int:=if numOk L t n then 0 else 7
def brN (T:TypeV) (n:Int):Nat:=if okZ (branchZ T n) then 1 else 0
def headE (L:Nat→TypeV) (t:Nat) (T:VT):Int:=
 if T.kind≠(L t).kind then 4 else if formT T=false then 1
 else if (L t).kind=10 then textE T.text (L t).bound
 else if (L t).kind=11 then (if (L t).bound<T.len then 3 else 0)
 else if (L t).kind=12 then (if (T.len:Int)≠(L t).bound then 18 else 0)
 else if (L t).kind=13 then (if T.len≠(L t).ilen then 18 else 0)
 else if (L t).kind=14 then (if jaj L (L t).tag.toNat T.num≠0 then jaj L (L t).tag.toNat T.num else if T.len≠brN (L t) T.num then 18 else 0)
 else jaj L t T.num
def partT (L:Nat→TypeV) (t:Nat) (n:Int) (i:Nat):Nat:=
 if (L t).kind=13 then ((L t).items i).type.toNat else if (L t).kind=14 then ((L t).items ((branchZ (L t) n).toNat+i)).type.toNat else (L t).of.toNat
def fitsT (L:Nat→TypeV):VT→Nat→Int
 |.nil,t=>headE L t .nil
 |.node k n s a l c f,t=>if headE L t (.node k n s a l c f)≠0 then headE L t (.node k n s a l c f) else firstE (fun i=>fitsT L (f i) (partT L t n i)) l
theorem jih (L:Nat→TypeV) (T:VT) (t:Nat):fitsT L T t=if headE L t T≠0 then headE L t T else firstE (fun i=>fitsT L (T.kid i) (partT L t T.num i)) T.len:=by
 cases T with
 |nil=>
  have:firstE (fun i=>fitsT L (VT.nil.kid i) (partT L t VT.nil.num i)) VT.nil.len=0:=kv (fun i hi=>absurd hi (Nat.not_lt_zero i))
  rw [this]
  show headE L t .nil= _
  by_cases h:headE L t .nil≠0
  · rw [if_pos h]
  · rw [if_neg h];exact Classical.not_not.1 h
 |node=>rfl
theorem jfp {L:Nat→TypeV} {T:VT} {t:Nat} (h:headE L t T≠0):fitsT L T t=headE L t T:=by rw [jih,if_pos h]
theorem jlq {L:Nat→TypeV} {t:Nat} {T:VT} (h:OkT L t) (h0:headE L t T=0) {i:Nat} (hi:i<T.len):partT L t T.num i<t∧deepN L (partT L t T.num i)+1≤deepN L t:=by
 unfold headE at h0
 split at h0;· cases h0
 rename_i hk;have hk:T.kind=(L t).kind:=Classical.not_not.1 hk
 split at h0;· cases h0
 rename_i hf
 have hf:formT T=true:=by simpa using hf
 unfold formT at hf;simp only [Bool.and_eq_true,Bool.or_eq_true,Bool.not_eq_true',beq_iff_eq,beq_eq_false_iff_ne] at hf;obtain ⟨_,_,hl⟩:=hf
 have hl:numK T.kind=false∧T.kind≠10:=by
  rcases hl with h|h
  · exact h
  · omega
 unfold partT
 split at h0
 · rename_i h10;exact absurd (hk.trans h10) hl.2
 rename_i n10
 split at h0
 · rename_i h11;rw [if_neg (by omega),if_neg (by omega)]
   have:=h.of (.inl h11)
   omega
 rename_i n11
 split at h0
 · rename_i h12;rw [if_neg (by omega),if_neg (by omega)]
   have:=h.of (.inr h12)
   omega
 rename_i n12
 split at h0
 · rename_i h13;rw [if_pos h13]
   split at h0;· cases h0
   rename_i hn
   have:=h.items (.inl h13) i (by omega)
   omega
 rename_i n13
 split at h0
 · rename_i h14;rw [if_neg n13,if_pos h14]
   split at h0;· rename_i hne;exact absurd h0 hne
   split at h0;· cases h0
   rename_i hn;have hn:T.len=brN (L t) T.num:=Classical.not_not.1 hn;unfold brN at hn
   by_cases hb:okZ (branchZ (L t) T.num)=true
   · rw [if_pos hb] at hn
     have hz:0≤branchZ (L t) T.num:=by unfold okZ at hb;simpa using hb
     have hz2:branchZ (L t) T.num<(L t).ilen:=by
      have e:branchZ (L t) T.num=branchZ (L t) T.num:=rfl
      have hlt:∀ p,0≤firstZ p (L t).ilen→firstZ p (L t).ilen<(L t).ilen:=fun p hp=>by
       rcases ky p (L t).ilen with ⟨k,hk,e,_,_⟩|⟨e,_⟩ <;> omega
      unfold branchZ at hz ⊢;rw [if_pos h14] at hz ⊢
      split
      · rename_i hc;omega
      · rename_i hc;rw [if_neg hc] at hz;exact hlt _ hz
     have:=h.items (.inr h14) ((branchZ (L t) T.num).toNat+i) (by omega)
     omega
   · rw [if_neg hb] at hn;omega
 rename_i n14
 exfalso
 have:=h.kind
 have:numK (L t).kind=true:=by unfold numK;simp;omega
 rw [hk,this] at hl;exact absurd hl.1 (by decide)
def fitsA (L:Nat→TypeV) (len:Nat) (t:Int) (T:VT):Int:=if hasT L len t then fitsT L T t.toNat else 8
theorem jic (E A:Int) (w:World):(binOp .eql 54 (.agg #[.int .i64 E,.int .i64 A]) (.agg #[.int .i64 0,.int .i64 0])).run Tryz.prog w=.ok (.bool ((E==0)&&(A==0))) w:=jo0 E A 0 0 w
theorem jcq {T:TypeV} {n:Int} (hz:0≤branchZ T n):branchZ T n<T.ilen:=by
 have hlt:∀ p,0≤firstZ p T.ilen→firstZ p T.ilen<T.ilen:=fun p hp=>by
  rcases ky p T.ilen with ⟨k,hk,e,_,_⟩|⟨e,_⟩ <;> omega
 unfold branchZ at hz ⊢
 split at hz
 · rename_i h14;rw [if_pos h14]
   split
   · rename_i hc;omega
   · rename_i hc;rw [if_neg hc] at hz;exact hlt _ hz
 · exact absurd hz (by decide)
theorem jhg {T:VT} (hf:formT T=true) (h:T.kind=10∨(1≤T.kind∧T.kind<10)):T.len=0:=by
 unfold formT at hf;simp only [Bool.and_eq_true,Bool.or_eq_true,Bool.not_eq_true',beq_iff_eq,beq_eq_false_iff_ne] at hf;obtain ⟨_,_,hl⟩:=hf
 rcases hl with ⟨h1,h2⟩|h3
 · rcases h with h|h
   · exact absurd h h2
   · have:numK T.kind=true:=by unfold numK;simp;omega
     rw [this] at h1;cases h1
 · omega
theorem jhw {L:Nat→TypeV} {T:VT} {t:Nat} (hk:T.kind=(L t).kind) (hf:formT T=true):headE L t T=(if (L t).kind=10 then textE T.text (L t).bound
 else if (L t).kind=11 then (if (L t).bound<T.len then 3 else 0)
 else if (L t).kind=12 then (if (T.len:Int)≠(L t).bound then 18 else 0)
 else if (L t).kind=13 then (if T.len≠(L t).ilen then 18 else 0)
 else if (L t).kind=14 then (if jaj L (L t).tag.toNat T.num≠0 then jaj L (L t).tag.toNat T.num else if T.len≠brN (L t) T.num then 18 else 0)
 else jaj L t T.num):=by
 unfold headE;rw [if_neg (by simpa using hk),if_neg (by rw [hf];decide)]
end Go.Proofs.YthcompcjphaahaaGreatDoor.Pa
namespace Go.Proofs.YthcompcjphaahaaGreatDoor.Pa
open Go.ChangeShapes Go.WideShapes Go.ChangeAt Go.RowKit
section
variable {H:Type} {enc:TypeId × Value→H} {w:World}
theorem jne {v:Value} (h:[v]=[.slice none 0 0]∨∃ (a:Addr) (len cap:Nat),[v]=[.slice (some a) len cap]∧len≤cap∧cap≤maxLen∧cap*Tryz.prog.bytesOf 60≤140737488351232∧
   ∀ i,i<cap→∃ c:List Value,w.cells? 0 (a.add (i*5)) 5=some c∧Rdg enc Tryz.prog w 60 c):
  ∃ (ao:Option Addr) (len cap:Nat) (L:Nat→ItemV),v=.slice ao len cap∧len≤cap∧len≤3518437208780∧∀ i,i<len→ItemAt w ao i (L i):=by
 obtain ⟨ao,len,cap,L,e,hm,H⟩:=jry h
 rcases h with h|⟨a,len',cap',h,hl,hc,_⟩
 · obtain rfl:v=.slice none 0 0:=by simpa using h
   injection e with e1 e2 e3;subst e2 e3;exact ⟨ao,0,0,L,by rw [e1],Nat.le_refl _,hm,H⟩
 · obtain rfl:v=.slice (some a) len' cap':=by simpa using h
   injection e with e1 e2 e3;subst e1 e2 e3;exact ⟨some a,len',cap',L,rfl,hl,hm,H⟩
theorem jmt {v:Value} (h:v=.slice none 0 0∨∃ (a:Addr) (len cap:Nat),v=.slice (some a) len cap∧len≤cap∧cap≤maxLen∧cap*Tryz.prog.bytesOf 58≤140737488351232∧
   ∀ i,i<cap→∃ c:List Value,w.cells? 0 (a.add (i*6)) 6=some c∧Rdg enc Tryz.prog w 58 c):
  ∃ (ao:Option Addr) (len cap:Nat) (L:Nat→TypeV),v=.slice ao len cap∧len≤cap∧len≤140737488351232∧(∀ i,i<len→(L i).ilen≤(L i).icap)∧∀ i,i<len→TypeAt w ao i (L i):=by
 rcases h with rfl|⟨a,len,cap,rfl,hl,hm,hby,hx⟩
 · exact ⟨none,0,0,default,rfl,Nat.le_refl _,Nat.zero_le _,fun i hi=>by omega,fun i hi=>by omega⟩
 · have hq:∀ i,i<len→∃ p:TypeV,p.ilen≤p.icap∧TypeAt w (some a) i p:=by
    intro i hi;obtain ⟨b,off,rfl,hc⟩:=jij (by omega) (by omega) hx;obtain ⟨c,hcl,hat,hr⟩:=hc i (by omega);obtain ⟨x0,e0,w0⟩:=yl Tryz.underlying3 (qe Tryz.underlying58 hr 0 3 0 1 rfl (by kernel_rfl));obtain ⟨x1,e1,w1⟩:=Yq Tryz.underlying9 (qe Tryz.underlying58 hr 1 9 1 1 rfl (by kernel_rfl));obtain ⟨x2,e2,w2⟩:=yl Tryz.underlying3 (qe Tryz.underlying58 hr 2 3 2 1 rfl (by kernel_rfl));obtain ⟨x3,e3,w3⟩:=yl Tryz.underlying3 (qe Tryz.underlying58 hr 3 3 3 1 rfl (by kernel_rfl));obtain ⟨x4,e4,w4⟩:=yl Tryz.underlying3 (qe Tryz.underlying58 hr 4 3 4 1 rfl (by kernel_rfl));have hf:=qe Tryz.underlying58 hr 5 56 5 1 rfl (by kernel_rfl)
    match c,hcl with
    | [c0,c1,c2,c3,c4,c5],_=>
      simp at e0 e1 e2 e3 e4;subst e0 e1 e2 e3 e4;obtain ⟨ia,il,ic,Li,rfl,hic,hil,hiat⟩:=jne (jfv 5 Tryz.underlying56 (by kernel_rfl) hf);exact ⟨⟨x0,x1,x2,x3,x4,ia,il,ic,Li⟩,hic,b,off,rfl,hat 0 (by omega),hat 1 (by omega),hat 2 (by omega),hat 3 (by omega),hat 4 (by omega),hat 5 (by omega),⟨w0,w2,w3,w4,w1⟩,hil,hiat⟩
   obtain ⟨L,hL⟩:=skolem hq;refine ⟨some a,len,cap,L,rfl,hl,?_,fun i hi=>(hL i hi).1,fun i hi=>(hL i hi).2⟩
   have hz:Tryz.prog.bytesOf 58=72:=by kernel_rfl
   rw [hz] at hby
   omega
end
end Go.Proofs.YthcompcjphaahaaGreatDoor.Pa
namespace Go.Proofs.YthcompcjphaahaaGreatDoor.Pa
open Go.RowKit
theorem jlb {s:ByteArray} {k:Nat} (hk:k<s.size) (h:(s[k]'hk).toNat=0):zeroIn s=true:=by
 unfold zeroIn;have hg:=Lib.indexByte_ge s.data.toList 0;refine decide_eq_true ?_;refine Classical.byContradiction fun hn=>?_
 have h1:Lib.indexByte s.data.toList 0=-1:=by omega
 refine Lib.indexByte_none h1 k ?_;have hk':k<s.data.size:=hk;have e:s[k]'hk=s.data[k]:=rfl;rw [e] at h;have h0:s.data[k]=0:=UInt8.toNat_inj.1 (by simpa using h);simp only [Array.getElem?_toList];rw [Array.getElem?_eq_getElem hk',h0]
theorem jfj {s:ByteArray} (h:∀ k (hk:k<s.size),(s[k]'hk).toNat≠0):zeroIn s=false:=by
 unfold zeroIn;refine decide_eq_false fun hn=>?_;obtain ⟨o,ho⟩:=Int.eq_ofNat_of_zero_le hn;obtain ⟨h1,_⟩:=Lib.indexByte_some ho;have hl:=(List.getElem?_eq_some_iff.1 h1).1
 have hk:o<s.size:=by simpa using hl
 refine h o hk ?_;have hk':o<s.data.size:=hk;have e:s[o]'hk=s.data[o]:=rfl;rw [Array.getElem?_toList,Array.getElem?_eq_getElem hk'] at h1;rw [e,Option.some.inj h1];rfl
theorem jb2 (ao:Option Addr) (len cap:Nat) (L:Nat→TypeV) (hlen:len≤1000000) (t:Nat) (ht:t<len) (n:Int) (hn:(Lit.int .u64 n).wf=true) (w:World) (H:∀ i,i<len→TypeAt w ao i (L i)):
  Calls Tryz.prog 40 #[.slice ao len cap,.int .i64 t,.int .u64 n] w fun e w'=>e=.returned (.bool (numOk L t n))∧Below w.heap.size w w':=by
 have hv:=jav ao len cap L t n (by omega) w H
 have e1:valueL L len (t:Nat) n=valueZ (L t) n:=by unfold valueL;rw [k8 ht];rfl
 rw [e1] at hv;obtain ⟨z,hz⟩:∃ z,valueZ (L t) n=z:=⟨_,rfl⟩;have HM:=lh (Y2 (L t).kind n hn);obtain ⟨b,off,rfl,c0,c1,c2,c3,c4,c5,wf,hi⟩:=H t ht;obtain ⟨k,hk⟩:∃ k,(L t).kind=k:=⟨_,rfl⟩;rw [hz] at hv;have HV:=lh hv;unfold numOk;rw [hk,hz];rw [hk] at c0 HM;clear hv e1 hz H hi wf c1 c2 c3 c4 c5 hk
 by_cases h9:k=9
 · have h9':(k==9)=true:=by simpa using h9
   rw [if_pos h9];obtain ⟨o,ho⟩:∃ o,okZ z=o:=⟨_,rfl⟩;have ho':decide (0≤z)=o:=ho;rw [ho];clear h9 ho HM
   cases o
   all_goals
    go_enter Tryz.func40,Tryz.ntmps40;go_wp2_with (go_at_call 77;refine (HV.out).mono ?_;rintro e w1 ⟨rfl,rfl⟩);go_ret;exact ⟨kw (by first|rfl|exact ho' |simp_all),Below.refl _ _⟩
 · have h9':(k==9)=false:=by simpa using h9
   rw [if_neg h9];clear h9 HV;go_enter Tryz.func40,Tryz.ntmps40;go_wp2_with (go_at_call 78;refine (HM.out _).mono ?_;rintro e w1 ⟨rfl,m,rfl⟩);go_ret;exact ⟨rfl,jf (Below.refl _ _) m⟩
theorem jaq (T:VT) (h1:1≤T.kind) (h2:T.kind≤14) (hl:T.len≤2513169434843) (w:World):Calls Tryz.prog 39 #[.agg #[.int .i64 T.kind,.int .u64 T.num,.string T.text,.slice T.ia T.len T.cap]] w fun e w'=>e=.returned (.bool (formT T))∧Below w.heap.size w w':=by
 have hc:T.kind<10∨T.kind=10∨(11≤T.kind∧T.kind≤13)∨T.kind=14:=by omega
 obtain ⟨k,hk⟩:∃ k,T.kind=k:=⟨_,rfl⟩;obtain ⟨r,hr⟩:∃ r,formT T=r:=⟨_,rfl⟩;have HR:=lh hr;unfold formT at HR;rw [hr];rw [hk] at HR hc h1 h2 ⊢;clear hr hk
 rcases hc with hc|hc|hc|hc
 · have hn:numK k=true:=by unfold numK;simp;omega
   have a1:decide (10≤k)=false:=by simp;omega
   have a2:(k==10)=false:=by simp;omega
   have a3:(k !=10)=true:=by simp;omega
   have a4:decide (11≤k)=false:=by simp;omega
   have a5:(k==14)=false:=by simp;omega
   have a6:decide (k≤13)=true:=by simp;omega
   rw [hn,a2,a5] at HR;clear hn h1 h2 hc;go_enter Tryz.func39,Tryz.ntmps39;go_wp2
   all_goals
    go_ret;refine ⟨kw ?_,(Below.refl _ _).alloc (Nat.le_refl _) _⟩;rw [←HR.out]
    simp [*] <;> omega
 · have hn:numK k=false:=by unfold numK;simp;omega
   have a1:decide (10≤k)=true:=by simp;omega
   have a2:(k==10)=true:=by simp;omega
   have a3:(k !=10)=false:=by simp;omega
   have a4:decide (11≤k)=false:=by simp;omega
   have a5:(k==14)=false:=by simp;omega
   have a6:decide (k≤13)=true:=by simp;omega
   rw [hn,a2,a5] at HR;clear hn h1 h2 hc;go_enter Tryz.func39,Tryz.ntmps39;go_wp2
   all_goals
    go_ret;refine ⟨kw ?_,(Below.refl _ _).alloc (Nat.le_refl _) _⟩;rw [←HR.out]
    simp [*] <;> omega
 · have hn:numK k=false:=by unfold numK;simp;omega
   have a1:decide (10≤k)=true:=by simp;omega
   have a2:(k==10)=false:=by simp;omega
   have a3:(k !=10)=true:=by simp;omega
   have a4:decide (11≤k)=true:=by simp;omega
   have a5:(k==14)=false:=by simp;omega
   have a6:decide (k≤13)=true:=by simp;omega
   rw [hn,a2,a5] at HR;clear hn h1 h2 hc;go_enter Tryz.func39,Tryz.ntmps39;go_wp2
   all_goals
    go_ret;refine ⟨kw ?_,(Below.refl _ _).alloc (Nat.le_refl _) _⟩;rw [←HR.out]
    simp [*] <;> omega
 · have hn:numK k=false:=by unfold numK;simp;omega
   have a1:decide (10≤k)=true:=by simp;omega
   have a2:(k==10)=false:=by simp;omega
   have a3:(k !=10)=true:=by simp;omega
   have a4:decide (11≤k)=true:=by simp;omega
   have a5:(k==14)=true:=by simp;omega
   have a6:decide (k≤13)=false:=by simp;omega
   rw [hn,a2,a5] at HR;clear hn h1 h2 hc;go_enter Tryz.func39,Tryz.ntmps39;go_wp2
   all_goals
    go_ret;refine ⟨kw ?_,(Below.refl _ _).alloc (Nat.le_refl _) _⟩;rw [←HR.out]
    simp [*] <;> omega
def partF (X:TypeV) (n:Int) (i:Nat):Int:=if X.kind=13 then (X.items i).type else if X.kind=14 then (X.items ((branchZ X n).toNat+i)).type else X.of
def partN (X:TypeV) (n:Int) (m:Nat):Nat:=if X.kind=11 then m else if X.kind=12 then X.bound.toNat else if X.kind=13 then X.ilen else if X.kind=14 then brN X n else 0
def listF (X:TypeV) (n:Int) (j:Nat):List Int:=(List.range j).map (partF X n)
theorem X6 (X:TypeV) (n:Int) (j:Nat):(listF X n j).length=j:=by unfold listF;simp
theorem Yl (X:TypeV) (n:Int) (j:Nat):listF X n (j+1)=listF X n j++[partF X n j]:=by unfold listF;rw [List.range_succ,List.map_append];rfl
theorem jn6 (X:TypeV) (n:Int) {i j:Nat} (h:i<j):(listF X n j).getD i 0=partF X n i:=by unfold listF;simp [h]
def okP (X:TypeV) (m:Nat):Bool:=if X.kind=11 then decide ((m:Int)≤X.bound) else true
def PartsTo (X:TypeV) (T:VT) (w:World) (e:Ending) (w':World):Prop:=
 ∃ v,e=.returned (.tuple #[v,.bool (okP X T.len)])∧w'.ownsRow w.heap.size 3 1 v (partN X T.num T.len) ((listF X T.num (partN X T.num T.len)).map (Value.int .i64))∧Below w.heap.size w w'
theorem PSt.parts {X:TypeV} {T:VT} {w w':World} {o:Obj} {v:Value} {N:Nat} (h:PSt (w.heap.size+1) X (w.alloc o) v (listF X T.num N) w') (hN:partN X T.num T.len=N):
  w'.ownsRow w.heap.size 3 1 v (partN X T.num T.len) ((listF X T.num (partN X T.num T.len)).map (Value.int .i64))∧Below w.heap.size w w':=by
 obtain ⟨h1,h2⟩:=h.out (by simp);rw [X6] at h1;rw [hN];exact ⟨Joins.ownsRow_le h1 (by simp),jj ((Below.refl _ _).alloc (Nat.le_refl _) o) h2⟩
theorem PSt.first (X:TypeV) (w:World) (o:Obj):PSt (w.heap.size+1) X (w.alloc o) (.slice none 0 0) [] ((w.alloc o).alloc (typO X)):=by
 have h:=PSt.start X (w.alloc o)
 rwa [show (w.alloc o).heap.size=w.heap.size+1 by simp] at h
theorem TypeAt.items {w:World} {ao:Option Addr} {i:Nat} {T:TypeV} (h:TypeAt w ao i T):ItemsAt w T:=by
 obtain ⟨_,_,_,_,_,_,_,_,_,_,hi⟩:=h;exact hi
theorem PSt.bound {g:Nat} {T:TypeV} {w0:World} {v:Value} {l:List Int} {w:World} (h:PSt g T w0 v l w):w.cell? ⟨g,2,none⟩=some (.int .i64 T.bound):=ja h.2.1 rfl
theorem PSt.box {T:TypeV} {w w':World} {o:Obj} {v:Value} {l:List Int} (h:PSt (w.heap.size+1) T (w.alloc o) v l w'):w'.heap[w.heap.size]?=some o:=(h.2.2.block w.heap.size (Nat.lt_succ_self _)).trans (jd w o)
theorem Zi {X:TypeV} {m:Nat} (h:X.kind≠11):okP X m=true:=by unfold okP;rw [if_neg h]
theorem PSt.belowW {T:TypeV} {w w':World} {o:Obj} {v:Value} {l:List Int} (h:PSt (w.heap.size+1) T (w.alloc o) v l w'):Below w.heap.size w w':=((Below.refl _ _).alloc (Nat.le_refl _) o).trans (h.2.2.mono (by simp))
theorem jd0 (ao:Option Addr) (len cap:Nat) (t:Nat) (X:TypeV) (T:VT) (hlen:len≤1000000) (ht:t<len) (hl:T.len≤2513169434843) (w:World) (HX:TypeAt w ao t X) (hk:X.kind<11):
  Calls Tryz.prog 41 #[.slice ao len cap,.int .i64 t,.agg #[.int .i64 T.kind,.int .u64 T.num,.string T.text,.slice T.ia T.len T.cap]] w (PartsTo X T w):=by
 obtain ⟨i0,hi0,hz0,hz1,hz2⟩:=info_parts infoInt;have HS:=lh (PSt.first X w (.cells #[.int .i64 T.kind,.int .u64 T.num,.string T.text,.slice T.ia T.len T.cap] 30));unfold typO at HS;have HQ:=lh (show ((w.alloc (.cells #[.int .i64 T.kind,.int .u64 T.num,.string T.text,.slice T.ia T.len T.cap] 30)).alloc (.cells #[.int .i64 X.kind,.string X.name,.int .i64 X.bound,.int .i64 X.of,.int .i64 X.tag,.slice X.ia X.ilen X.icap] 58)).heap[w.heap.size]?=some (.cells #[.int .i64 T.kind,.int .u64 T.num,.string T.text,.slice T.ia T.len T.cap] 30) from je (jd w _));have HIT:=lh (fun wx (hb:Below w.heap.size w wx)=>HX.held hb);obtain ⟨b,off,rfl,c0,c1,c2,c3,c4,c5,wf,hit⟩:=HX;have hbl:b<w.heap.size:=World.block_lt_of_cell? w _ c0
 have hne:¬b=w.heap.size:=by omega
 have hil:=hit.1;clear hit wf
 have hN:partN X T.num T.len=0:=by unfold partN;rw [if_neg (by omega),if_neg (by omega),if_neg (by omega),if_neg (by omega)]
 have hok:=Zi (X:=X) (m:=T.len) (by omega)
 have k11:(X.kind==11)=false:=by simp;omega
 have k12:(X.kind==12)=false:=by simp;omega
 have k13:(X.kind==13)=false:=by simp;omega
 have k14:(X.kind==14)=false:=by simp;omega
 unfold PartsTo;rw [hok];have HF:=lh (fun v wr (h:PSt (w.heap.size+1) X (w.alloc (.cells #[.int .i64 T.kind,.int .u64 T.num,.string T.text,.slice T.ia T.len T.cap] 30)) v [] wr)=>PSt.parts (T:=T) (N:=0) h hN);clear hk hN hok;go_enter Tryz.func41,Tryz.ntmps41
 go_upto_region 3 with (fail)
 clear c0 c1 c2 c3 c4 c5 hbl hne;generalize (w.alloc (.cells #[.int .i64 T.kind,.int .u64 T.num,.string T.text,.slice T.ia T.len T.cap] 30)).alloc (.cells #[.int .i64 X.kind,.string X.name,.int .i64 X.bound,.int .i64 X.of,.int .i64 X.tag,.slice X.ia X.ilen X.icap] 58)=W0 at *;obtain ⟨x0,x3,x4,x5,hlt0⟩:=HS.out.cells;have x2:=HS.out.bound;obtain ⟨-,d1,-,d3⟩:=bx4 HQ.out;go_wp2
 go_ret2
 exact ⟨_,rfl,HF.out _ _ HS.out⟩
theorem je2 (ao:Option Addr) (len cap:Nat) (t:Nat) (X:TypeV) (T:VT) (hlen:len≤1000000) (ht:t<len) (hl:T.len≤2513169434843) (w:World) (HX:TypeAt w ao t X) (hK:X.kind=11):
  Calls Tryz.prog 41 #[.slice ao len cap,.int .i64 t,.agg #[.int .i64 T.kind,.int .u64 T.num,.string T.text,.slice T.ia T.len T.cap]] w (PartsTo X T w):=by
 obtain ⟨i0,hi0,hz0,hz1,hz2⟩:=info_parts infoInt;have HS:=lh (PSt.first X w (.cells #[.int .i64 T.kind,.int .u64 T.num,.string T.text,.slice T.ia T.len T.cap] 30));unfold typO at HS;have HQ:=lh (show ((w.alloc (.cells #[.int .i64 T.kind,.int .u64 T.num,.string T.text,.slice T.ia T.len T.cap] 30)).alloc (.cells #[.int .i64 X.kind,.string X.name,.int .i64 X.bound,.int .i64 X.of,.int .i64 X.tag,.slice X.ia X.ilen X.icap] 58)).heap[w.heap.size]?=some (.cells #[.int .i64 T.kind,.int .u64 T.num,.string T.text,.slice T.ia T.len T.cap] 30) from je (jd w _));have HIT:=lh (fun wx (hb:Below w.heap.size w wx)=>HX.held hb);obtain ⟨b,off,rfl,c0,c1,c2,c3,c4,c5,wf,hit⟩:=HX;have hbl:b<w.heap.size:=World.block_lt_of_cell? w _ c0
 have hne:¬b=w.heap.size:=by omega
 have hil:=hit.1;clear hit wf
 have hN:partN X T.num T.len=T.len:=by unfold partN;rw [if_pos hK]
 have hpf:∀ i,partF X T.num i=X.of:=fun i=>by unfold partF;rw [if_neg (by omega),if_neg (by omega)]
 have k11:(X.kind==11)=true:=by simp;omega
 unfold PartsTo;obtain ⟨okb,hokb⟩:∃ q,decide ((T.len:Int)≤X.bound)=q:=⟨_,rfl⟩
 have hok:okP X T.len=okb:=by unfold okP;rw [if_pos hK,hokb]
 rw [hok];have HF:=lh (fun v wr (h:PSt (w.heap.size+1) X (w.alloc (.cells #[.int .i64 T.kind,.int .u64 T.num,.string T.text,.slice T.ia T.len T.cap] 30)) v (listF X T.num (T.len)) wr)=>PSt.parts (T:=T) h hN);have HPF:=lh hpf;clear hK hN hok hpf;go_enter Tryz.func41,Tryz.ntmps41
 go_upto_region 3 with (fail)
 clear c0 c1 c2 c3 c4 c5 hbl hne;generalize (w.alloc (.cells #[.int .i64 T.kind,.int .u64 T.num,.string T.text,.slice T.ia T.len T.cap] 30)).alloc (.cells #[.int .i64 X.kind,.string X.name,.int .i64 X.bound,.int .i64 X.of,.int .i64 X.tag,.slice X.ia X.ilen X.icap] 58)=W0 at *;obtain ⟨x0,x3,x4,x5,hlt0⟩:=HS.out.cells;have x2:=HS.out.bound;obtain ⟨-,d1,-,d3⟩:=bx4 HQ.out;go_wp2
 go_loopw [9,10] (fun v i wr=>∃ j:Nat,j≤T.len∧i=.int .i64 j∧Hid (PSt (w.heap.size+1) X (w.alloc (.cells #[.int .i64 T.kind,.int .u64 T.num,.string T.text,.slice T.ia T.len T.cap] 30)) v (listF X T.num j) wr)) (fun _ i _=>T.len - (intOf i).toNat)
 case atStart=>exact ⟨0,Nat.zero_le _,rfl,HS⟩
 case round=>
  clear x0 x2 x3 x4 x5 d1 d3 hlt0;obtain ⟨j,hj,rfl,HP⟩:=hrel;obtain ⟨x0,x3,x4,x5,hlt0⟩:=HP.out.cells;have x2:=HP.out.bound;have d3:wr.cell? ⟨w.heap.size,3,none⟩=some (.slice T.ia T.len T.cap):=ja HP.out.box rfl
  by_cases hlt:j<T.len
  · have hln:(listF X T.num j).length≤3518437208782:=by rw [X6];omega
    have HT:=lh (show listF X T.num (j+1)=listF X T.num j++[X.of] by rw [Yl,HPF.out]);obtain ⟨wo,rfl⟩:∃ wo:World,wo=wr:=⟨_,rfl⟩;go_wp2_with (at_builtin;refine jl rfl (.tmp 29) (.tmp 32) 83 rfl (w.heap.size+1+1) 3 i0 (.int .i64 0) 1 8 Tryz.underlying83 hi0 hz0 hz1 hz2 rfl (by decide) _ _ _ rfl (HP.out.1.alloc _) ⟨_,0,none⟩ 1 1 [.int .i64 X.of] rfl rfl (fun j u hj=>by match j,hj with|0,hj=>(simp at hj;subst hj;simp [Addr.add])) (fun u hu=>by (simp at hu;subst hu;rfl)) (by unfold maxLen;omega) (by omega) (by simp <;> omega) ?_;intro v2 w2 hown2 hg2 hf2;have HQ2:=lh (HP.out.next (x:=X.of) (by simpa using hown2) hg2);clear hown2 hg2 hf2);go_wp2;go_roundw
    case rel=>exact ⟨j+1,by omega,by go_num,(by rw [HT.out];exact HQ2)⟩
    case measure=>simp [intOf];omega
  · obtain rfl:j=T.len:=by omega
    have HG:=HF.out _ _ HP.out;obtain ⟨a2,cp2,hv2,_⟩:=Xt HP.out.1;rw [X6] at hv2;subst hv2;go_wp2_with fail
    go_quiet (fail)
    go_wp2
    go_ret2
    exact ⟨_,rfl,ki HG.1 (jf (Below.refl _ _) _),jf HG.2 _⟩
theorem jcb (ao:Option Addr) (len cap:Nat) (t:Nat) (X:TypeV) (T:VT) (hlen:len≤1000000) (ht:t<len) (hl:T.len≤2513169434843) (w:World) (HX:TypeAt w ao t X) (hK:X.kind=12) (m:Nat) (hm:X.bound=m) (hm2:m≤64):
  Calls Tryz.prog 41 #[.slice ao len cap,.int .i64 t,.agg #[.int .i64 T.kind,.int .u64 T.num,.string T.text,.slice T.ia T.len T.cap]] w (PartsTo X T w):=by
 obtain ⟨i0,hi0,hz0,hz1,hz2⟩:=info_parts infoInt;have HS:=lh (PSt.first X w (.cells #[.int .i64 T.kind,.int .u64 T.num,.string T.text,.slice T.ia T.len T.cap] 30));unfold typO at HS;have HQ:=lh (show ((w.alloc (.cells #[.int .i64 T.kind,.int .u64 T.num,.string T.text,.slice T.ia T.len T.cap] 30)).alloc (.cells #[.int .i64 X.kind,.string X.name,.int .i64 X.bound,.int .i64 X.of,.int .i64 X.tag,.slice X.ia X.ilen X.icap] 58)).heap[w.heap.size]?=some (.cells #[.int .i64 T.kind,.int .u64 T.num,.string T.text,.slice T.ia T.len T.cap] 30) from je (jd w _));have HIT:=lh (fun wx (hb:Below w.heap.size w wx)=>HX.held hb);obtain ⟨b,off,rfl,c0,c1,c2,c3,c4,c5,wf,hit⟩:=HX;have hbl:b<w.heap.size:=World.block_lt_of_cell? w _ c0
 have hne:¬b=w.heap.size:=by omega
 have hil:=hit.1;clear hit wf
 have hN:partN X T.num T.len=m:=by unfold partN;rw [if_neg (by omega),if_pos hK,hm];rfl
 have hpf:∀ i,partF X T.num i=X.of:=fun i=>by unfold partF;rw [if_neg (by omega),if_neg (by omega)]
 have k11:(X.kind==11)=false:=by simp;omega
 have k12:(X.kind==12)=true:=by simp;omega
 unfold PartsTo;have hok:=Zi (X:=X) (m:=T.len) (by omega);rw [hok];have HMM:=lh hm;clear hm;have HF:=lh (fun v wr (h:PSt (w.heap.size+1) X (w.alloc (.cells #[.int .i64 T.kind,.int .u64 T.num,.string T.text,.slice T.ia T.len T.cap] 30)) v (listF X T.num (m)) wr)=>PSt.parts (T:=T) h hN);have HPF:=lh hpf;clear hK hN hok hpf;go_enter Tryz.func41,Tryz.ntmps41
 go_upto_region 3 with (fail)
 clear c0 c1 c2 c3 c4 c5 hbl hne;generalize (w.alloc (.cells #[.int .i64 T.kind,.int .u64 T.num,.string T.text,.slice T.ia T.len T.cap] 30)).alloc (.cells #[.int .i64 X.kind,.string X.name,.int .i64 X.bound,.int .i64 X.of,.int .i64 X.tag,.slice X.ia X.ilen X.icap] 58)=W0 at *;obtain ⟨x0,x3,x4,x5,hlt0⟩:=HS.out.cells;have x2:=HS.out.bound;obtain ⟨-,d1,-,d3⟩:=bx4 HQ.out;go_wp2
 go_loopw [9,11] (fun v i wr=>∃ j:Nat,j≤m∧i=.int .i64 j∧Hid (PSt (w.heap.size+1) X (w.alloc (.cells #[.int .i64 T.kind,.int .u64 T.num,.string T.text,.slice T.ia T.len T.cap] 30)) v (listF X T.num j) wr)) (fun _ i _=>m - (intOf i).toNat)
 case atStart=>exact ⟨0,Nat.zero_le _,rfl,HS⟩
 case round=>
  clear x0 x2 x3 x4 x5 d1 d3 hlt0;obtain ⟨j,hj,rfl,HP⟩:=hrel;obtain ⟨x0,x3,x4,x5,hlt0⟩:=HP.out.cells;have x2:=HP.out.bound;have d3:wr.cell? ⟨w.heap.size,3,none⟩=some (.slice T.ia T.len T.cap):=ja HP.out.box rfl;rw [HMM.out] at x2
  by_cases hlt:j<m
  · have hln:(listF X T.num j).length≤3518437208782:=by rw [X6];omega
    have HT:=lh (show listF X T.num (j+1)=listF X T.num j++[X.of] by rw [Yl,HPF.out]);obtain ⟨wo,rfl⟩:∃ wo:World,wo=wr:=⟨_,rfl⟩;go_wp2_with (at_builtin;refine jl rfl (.tmp 48) (.tmp 51) 83 rfl (w.heap.size+1+1) 3 i0 (.int .i64 0) 1 8 Tryz.underlying83 hi0 hz0 hz1 hz2 rfl (by decide) _ _ _ rfl (HP.out.1.alloc _) ⟨_,0,none⟩ 1 1 [.int .i64 X.of] rfl rfl (fun j u hj=>by match j,hj with|0,hj=>(simp at hj;subst hj;simp [Addr.add])) (fun u hu=>by (simp at hu;subst hu;rfl)) (by unfold maxLen;omega) (by omega) (by simp <;> omega) ?_;intro v2 w2 hown2 hg2 hf2;have HQ2:=lh (HP.out.next (x:=X.of) (by simpa using hown2) hg2);clear hown2 hg2 hf2);go_wp2;go_roundw
    case rel=>exact ⟨j+1,by omega,by go_num,(by rw [HT.out];exact HQ2)⟩
    case measure=>simp [intOf];omega
  · obtain rfl:j=m:=by omega
    have HG:=HF.out _ _ HP.out;go_wp2
    go_ret2
    exact ⟨_,rfl,HG⟩
theorem jbn (ao:Option Addr) (len cap:Nat) (t:Nat) (X:TypeV) (T:VT) (hlen:len≤1000000) (ht:t<len) (hl:T.len≤2513169434843) (w:World) (HX:TypeAt w ao t X) (hK:X.kind=13):
  Calls Tryz.prog 41 #[.slice ao len cap,.int .i64 t,.agg #[.int .i64 T.kind,.int .u64 T.num,.string T.text,.slice T.ia T.len T.cap]] w (PartsTo X T w):=by
 obtain ⟨i0,hi0,hz0,hz1,hz2⟩:=info_parts infoInt;have HS:=lh (PSt.first X w (.cells #[.int .i64 T.kind,.int .u64 T.num,.string T.text,.slice T.ia T.len T.cap] 30));unfold typO at HS;have HQ:=lh (show ((w.alloc (.cells #[.int .i64 T.kind,.int .u64 T.num,.string T.text,.slice T.ia T.len T.cap] 30)).alloc (.cells #[.int .i64 X.kind,.string X.name,.int .i64 X.bound,.int .i64 X.of,.int .i64 X.tag,.slice X.ia X.ilen X.icap] 58)).heap[w.heap.size]?=some (.cells #[.int .i64 T.kind,.int .u64 T.num,.string T.text,.slice T.ia T.len T.cap] 30) from je (jd w _));have HIT:=lh (fun wx (hb:Below w.heap.size w wx)=>HX.held hb);obtain ⟨b,off,rfl,c0,c1,c2,c3,c4,c5,wf,hit⟩:=HX;have hbl:b<w.heap.size:=World.block_lt_of_cell? w _ c0
 have hne:¬b=w.heap.size:=by omega
 have hil:=hit.1;clear hit wf
 have hN:partN X T.num T.len=X.ilen:=by unfold partN;rw [if_neg (by omega),if_neg (by omega),if_pos hK]
 have hpf:∀ i,partF X T.num i=(X.items i).type:=fun i=>by unfold partF;rw [if_pos hK]
 have k11:(X.kind==11)=false:=by simp;omega
 have k12:(X.kind==12)=false:=by simp;omega
 have k13:(X.kind==13)=true:=by simp;omega
 unfold PartsTo;have hok:=Zi (X:=X) (m:=T.len) (by omega);rw [hok];have HF:=lh (fun v wr (h:PSt (w.heap.size+1) X (w.alloc (.cells #[.int .i64 T.kind,.int .u64 T.num,.string T.text,.slice T.ia T.len T.cap] 30)) v (listF X T.num (X.ilen)) wr)=>PSt.parts (T:=T) h hN);have HPF:=lh hpf;clear hK hN hok hpf;go_enter Tryz.func41,Tryz.ntmps41
 go_upto_region 3 with (fail)
 clear c0 c1 c2 c3 c4 c5 hbl hne;generalize (w.alloc (.cells #[.int .i64 T.kind,.int .u64 T.num,.string T.text,.slice T.ia T.len T.cap] 30)).alloc (.cells #[.int .i64 X.kind,.string X.name,.int .i64 X.bound,.int .i64 X.of,.int .i64 X.tag,.slice X.ia X.ilen X.icap] 58)=W0 at *;obtain ⟨x0,x3,x4,x5,hlt0⟩:=HS.out.cells;have x2:=HS.out.bound;obtain ⟨-,d1,-,d3⟩:=bx4 HQ.out;go_wp2
 go_loopw [9,12] (fun v i wr=>∃ j:Nat,j≤X.ilen∧i=.int .i64 j∧Hid (PSt (w.heap.size+1) X (w.alloc (.cells #[.int .i64 T.kind,.int .u64 T.num,.string T.text,.slice T.ia T.len T.cap] 30)) v (listF X T.num j) wr)) (fun _ i _=>X.ilen - (intOf i).toNat)
 case atStart=>exact ⟨0,Nat.zero_le _,rfl,HS⟩
 case round=>
  clear x0 x2 x3 x4 x5 d1 d3 hlt0;obtain ⟨j,hj,rfl,HP⟩:=hrel;obtain ⟨x0,x3,x4,x5,hlt0⟩:=HP.out.cells;have x2:=HP.out.bound;have d3:wr.cell? ⟨w.heap.size,3,none⟩=some (.slice T.ia T.len T.cap):=ja HP.out.box rfl
  by_cases hlt:j<X.ilen
  · have hln:(listF X T.num j).length≤3518437208782:=by rw [X6];omega
    have hit:=(HIT.out wr HP.out.belowW).items;obtain ⟨ib,io,hia,i0',i1',i2',i3',i4',iw⟩:=hit.2 j hlt;rw [hia] at x5;clear hia i0' i1' i3' i4' iw hit;have HT:=lh (show listF X T.num (j+1)=listF X T.num j++[(X.items j).type] by rw [Yl,HPF.out]);obtain ⟨wo,rfl⟩:∃ wo:World,wo=wr:=⟨_,rfl⟩;go_wp2_with (at_builtin;refine jl rfl (.tmp 62) (.tmp 69) 83 rfl (w.heap.size+1+1) 3 i0 (.int .i64 0) 1 8 Tryz.underlying83 hi0 hz0 hz1 hz2 rfl (by decide) _ _ _ rfl (HP.out.1.alloc _) ⟨_,0,none⟩ 1 1 [.int .i64 (X.items j).type] rfl rfl (fun j u hj=>by match j,hj with|0,hj=>(simp at hj;subst hj;simp [Addr.add])) (fun u hu=>by (simp at hu;subst hu;rfl)) (by unfold maxLen;omega) (by omega) (by simp <;> omega) ?_;intro v2 w2 hown2 hg2 hf2;have HQ2:=lh (HP.out.next (x:=(X.items j).type) (by simpa using hown2) hg2);clear hown2 hg2 hf2);go_wp2;go_roundw
    case rel=>exact ⟨j+1,by omega,by go_num,(by rw [HT.out];exact HQ2)⟩
    case measure=>simp [intOf];omega
  · obtain rfl:j=X.ilen:=by omega
    have HG:=HF.out _ _ HP.out;go_wp2
    go_ret2
    exact ⟨_,rfl,HG⟩
theorem jcd (ao:Option Addr) (len cap:Nat) (t:Nat) (X:TypeV) (T:VT) (hlen:len≤1000000) (ht:t<len) (hl:T.len≤2513169434843) (w:World) (HX:TypeAt w ao t X) (hK:X.kind=14)
  (HBR:∀ wx,Below w.heap.size w wx→Calls Tryz.prog 60 #[.slice ao len cap,.int .i64 t,.int .u64 T.num] wx fun e w'=>e=.returned (.int .i64 (branchZ X T.num))∧wx=w'):
  Calls Tryz.prog 41 #[.slice ao len cap,.int .i64 t,.agg #[.int .i64 T.kind,.int .u64 T.num,.string T.text,.slice T.ia T.len T.cap]] w (PartsTo X T w):=by
 obtain ⟨i0,hi0,hz0,hz1,hz2⟩:=info_parts infoInt;have HS:=lh (PSt.first X w (.cells #[.int .i64 T.kind,.int .u64 T.num,.string T.text,.slice T.ia T.len T.cap] 30));unfold typO at HS;have HQ:=lh (show ((w.alloc (.cells #[.int .i64 T.kind,.int .u64 T.num,.string T.text,.slice T.ia T.len T.cap] 30)).alloc (.cells #[.int .i64 X.kind,.string X.name,.int .i64 X.bound,.int .i64 X.of,.int .i64 X.tag,.slice X.ia X.ilen X.icap] 58)).heap[w.heap.size]?=some (.cells #[.int .i64 T.kind,.int .u64 T.num,.string T.text,.slice T.ia T.len T.cap] 30) from je (jd w _));have HIT:=lh (fun wx (hb:Below w.heap.size w wx)=>HX.held hb);obtain ⟨b,off,rfl,c0,c1,c2,c3,c4,c5,wf,hit⟩:=HX;have hbl:b<w.heap.size:=World.block_lt_of_cell? w _ c0
 have hne:¬b=w.heap.size:=by omega
 have hil:=hit.1;clear hit wf
 have hN:partN X T.num T.len=brN X T.num:=by unfold partN;rw [if_neg (by omega),if_neg (by omega),if_neg (by omega),if_pos hK]
 have hpf:∀ i,partF X T.num i=(X.items ((branchZ X T.num).toNat+i)).type:=fun i=>by unfold partF;rw [if_neg (by omega),if_pos hK]
 have hok:=Zi (X:=X) (m:=T.len) (by omega);have hbl2:=jcq (T:=X) (n:=T.num)
 have k11:(X.kind==11)=false:=by simp;omega
 have k12:(X.kind==12)=false:=by simp;omega
 have k13:(X.kind==13)=false:=by simp;omega
 have k14:(X.kind==14)=true:=by simp;omega
 unfold PartsTo;rw [hok];have HF:=lh (fun N (hN2:brN X T.num=N) v wr (h:PSt (w.heap.size+1) X (w.alloc (.cells #[.int .i64 T.kind,.int .u64 T.num,.string T.text,.slice T.ia T.len T.cap] 30)) v (listF X T.num N) wr)=>PSt.parts (T:=T) h (hN.trans hN2));have HBX:=lh HBR;have HBN:=lh (show brN X T.num=if okZ (branchZ X T.num) then 1 else 0 from rfl);have HPF:=lh hpf;obtain ⟨z,hz⟩:∃ z,branchZ X T.num=z:=⟨_,rfl⟩;rw [hz] at HBX hbl2 HBN HPF;clear hK hN hok hpf hz HBR;go_enter Tryz.func41,Tryz.ntmps41
 go_upto_region 3 with (fail)
 clear c0 c1 c2 c3 c4 c5 hbl hne;generalize (w.alloc (.cells #[.int .i64 T.kind,.int .u64 T.num,.string T.text,.slice T.ia T.len T.cap] 30)).alloc (.cells #[.int .i64 X.kind,.string X.name,.int .i64 X.bound,.int .i64 X.of,.int .i64 X.tag,.slice X.ia X.ilen X.icap] 58)=W0 at *;obtain ⟨x0,x3,x4,x5,hlt0⟩:=HS.out.cells;have x2:=HS.out.bound;obtain ⟨-,d1,-,d3⟩:=bx4 HQ.out
 by_cases h0:0≤z
 · obtain ⟨k,rfl⟩:=Int.eq_ofNat_of_zero_le h0
   have hk:k<X.ilen:=by have:=hbl2 h0;omega
   have ho1:okZ (k:Int)=true:=by unfold okZ;simp
   have hb1:brN X T.num=1:=by rw [HBN.out,ho1];rfl
   have HG:=lh (HF.out 1 hb1)
   have hl1:listF X T.num 1=[]++[(X.items k).type]:=by rw [Yl,HPF.out];simp [listF]
   have hln:([]:List Int).length≤3518437208782:=by simp
   have hit:=(HIT.out W0 HS.out.belowW).items;obtain ⟨ib,io,hia,i0',i1',i2',i3',i4',iw⟩:=hit.2 k hk;rw [hia] at x5;have HL1:=lh hl1;have HBW:=lh HS.out.belowW;clear hia i0' i1' i3' i4' iw hit hbl2 HBN HPF HF hb1 hl1
   go_wp2_with (first
    |(go_at_call 60;refine (HBX.out _ HBW.out).mono ?_;rintro e w' ⟨rfl,rfl⟩)
    |(at_builtin;refine jl rfl (.tmp 80) (.tmp 87) 83 rfl (w.heap.size+1+1) 3 i0 (.int .i64 0) 1 8 Tryz.underlying83 hi0 hz0 hz1 hz2 rfl (by decide) _ _ _ rfl (HS.out.1.alloc _) ⟨_,0,none⟩ 1 1 [.int .i64 (X.items k).type] rfl rfl (fun j u hj=>by match j,hj with|0,hj=>(simp at hj;subst hj;simp [Addr.add])) (fun u hu=>by (simp at hu;subst hu;rfl)) (by unfold maxLen;omega) (by omega) (by simp <;> omega) ?_;intro v2 w2 hown2 hg2 hf2;have HQ2:=lh (HS.out.next (x:=(X.items k).type) (by simpa using hown2) hg2);clear hown2 hg2 hf2))
   go_ret2
   exact ⟨_,rfl,HG.out _ _ (by rw [HL1.out];exact HQ2.out)⟩
 · have ho1:okZ z=false:=by unfold okZ;simpa using h0
   have hb1:brN X T.num=0:=by rw [HBN.out,ho1];rfl
   have HG:=lh (HF.out 0 hb1);have HBW:=lh HS.out.belowW;clear hbl2 HBN HPF HF hb1;go_wp2_with (go_at_call 60;refine (HBX.out _ HBW.out).mono ?_;rintro e w' ⟨rfl,rfl⟩)
   go_ret2
   exact ⟨_,rfl,HG.out _ _ HS.out⟩
theorem jeq (ao:Option Addr) (len cap:Nat) (L:Nat→TypeV) (hlen:len≤1000000) (t:Nat) (ht:t<len) (okt:OkT L t) (T:VT) (hl:T.len≤2513169434843) (w:World) (H:∀ i,i<len→TypeAt w ao i (L i)):
  Calls Tryz.prog 41 #[.slice ao len cap,.int .i64 t,.agg #[.int .i64 T.kind,.int .u64 T.num,.string T.text,.slice T.ia T.len T.cap]] w (PartsTo (L t) T w):=by
 have hk:=okt.kind
 have hc:(L t).kind<11∨(L t).kind=11∨(L t).kind=12∨(L t).kind=13∨(L t).kind=14:=by omega
 rcases hc with hc|hc|hc|hc|hc
 · exact jd0 ao len cap t (L t) T hlen ht hl w (H t ht) hc
 · exact je2 ao len cap t (L t) T hlen ht hl w (H t ht) hc
 · have hb:=okt.bound (.inr (.inr hc));obtain ⟨m,hm⟩:=Int.eq_ofNat_of_zero_le hb.1;exact jcb ao len cap t (L t) T hlen ht hl w (H t ht) hc m hm (by omega)
 · exact jbn ao len cap t (L t) T hlen ht hl w (H t ht) hc
 · refine jcd ao len cap t (L t) T hlen ht hl w (H t ht) hc (fun wx hb=>?_)
   have:=Zz ao len cap L t T.num (by omega) wx (hold H hb)
   rwa [show branchL L len (t:Nat) T.num=branchZ (L t) T.num by unfold branchL;rw [k8 ht];rfl] at this
def c6R (L:Nat→TypeV) (t:Nat) (T:VT):Bool:=(decide ((L t).kind≤9)&&!numOk L t T.num)||((L t).kind==14&&!numOk L (L t).tag.toNat T.num)
def c8R (L:Nat→TypeV) (t:Nat) (T:VT):Bool:=decide ((L t).bound<T.text.size)&&(L t).kind==10
theorem jgb {s:ByteArray} (h:s.toList.isEmpty=true):zeroIn s=false:=by
 refine jfj fun k hk=>?_
 exfalso
 have h1:s.toList=[]:=by simpa using h
 rw [ByteArray.toList_eq] at h1
 have h2:s.data.size=0:=by
  have:=congrArg List.length h1
  simpa using this
 have:k<s.data.size:=hk
 omega
theorem jrc {L:Nat→TypeV} {t:Nat} {T:VT} (okt:OkT L t) (hk:T.kind=(L t).kind) (hf:formT T=true):
  headE L t T=(if c6R L t T then 7 else if c8R L t T then 3 else if zeroIn T.text then 10 else if okP (L t) T.len=false then 3 else if partN (L t) T.num T.len≠T.len then 18 else 0):=by
 rw [jhw hk hf];have hk1:=okt.kind;have hlen:=jhg (T:=T) hf
 have hz:(L t).kind≠10→zeroIn T.text=false:=fun h10=>by
  refine jgb ?_;unfold formT at hf
  have h10':(T.kind==10)=false:=by simp;omega
  rw [h10'] at hf;simp only [Bool.false_or,Bool.and_eq_true] at hf;exact hf.2.1
 by_cases h10:(L t).kind=10
 · have e6:c6R L t T=false:=by
    have a1:decide ((L t).kind≤9)=false:=by simp;omega
    have a2:((L t).kind==14)=false:=by simp;omega
    unfold c6R;rw [a1,a2];rfl
   have e8:c8R L t T=decide ((L t).bound<T.text.size):=by
    have a2:((L t).kind==10)=true:=by simp;omega
    unfold c8R;rw [a2,Bool.and_true]
   have eo:okP (L t) T.len=true:=Zi (by omega)
   have en:partN (L t) T.num T.len=T.len:=by rw [hlen (.inl (hk.trans h10))];unfold partN;rw [if_neg (by omega),if_neg (by omega),if_neg (by omega),if_neg (by omega)]
   rw [if_pos h10,e6,e8,eo,en];unfold textE
   by_cases c:(L t).bound<T.text.size <;> cases zeroIn T.text <;> simp [c]
 have e8:c8R L t T=false:=by
  have a2:((L t).kind==10)=false:=by simpa using h10
  unfold c8R;rw [a2,Bool.and_false]
 rw [if_neg h10,e8,hz h10]
 by_cases h11:(L t).kind=11
 · have e6:c6R L t T=false:=by
    have a1:decide ((L t).kind≤9)=false:=by simp;omega
    have a2:((L t).kind==14)=false:=by simp;omega
    unfold c6R;rw [a1,a2];rfl
   have eo:okP (L t) T.len=decide ((T.len:Int)≤(L t).bound):=by unfold okP;rw [if_pos h11]
   have en:partN (L t) T.num T.len=T.len:=by unfold partN;rw [if_pos h11]
   rw [if_pos h11,e6,eo,en]
   by_cases c:(T.len:Int)≤(L t).bound
   · have c2:¬(L t).bound<T.len:=by omega
     simp [c,c2]
   · have c2:(L t).bound<T.len:=by omega
     simp [c,c2]
 have eo:okP (L t) T.len=true:=Zi h11;rw [if_neg h11,eo]
 by_cases h12:(L t).kind=12
 · have e6:c6R L t T=false:=by
    have a1:decide ((L t).kind≤9)=false:=by simp;omega
    have a2:((L t).kind==14)=false:=by simp;omega
    unfold c6R;rw [a1,a2];rfl
   have hb:=okt.bound (.inr (.inr h12))
   have en:partN (L t) T.num T.len=(L t).bound.toNat:=by unfold partN;rw [if_neg h11,if_pos h12]
   rw [if_pos h12,e6,en]
   by_cases c:(T.len:Int)=(L t).bound
   · have c2:(L t).bound.toNat=T.len:=by omega
     simp [c,c2]
   · have c2:¬(L t).bound.toNat=T.len:=by omega
     simp [c,c2]
 rw [if_neg h12]
 by_cases h13:(L t).kind=13
 · have e6:c6R L t T=false:=by
    have a1:decide ((L t).kind≤9)=false:=by simp;omega
    have a2:((L t).kind==14)=false:=by simp;omega
    unfold c6R;rw [a1,a2];rfl
   have en:partN (L t) T.num T.len=(L t).ilen:=by unfold partN;rw [if_neg h11,if_neg h12,if_pos h13]
   rw [if_pos h13,e6,en]
   by_cases c:T.len=(L t).ilen
   · simp [c]
   · have c2:¬(L t).ilen=T.len:=by omega
     simp [c,c2]
 rw [if_neg h13]
 by_cases h14:(L t).kind=14
 · have e6:c6R L t T=!numOk L (L t).tag.toNat T.num:=by
    have a1:decide ((L t).kind≤9)=false:=by simp;omega
    have a2:((L t).kind==14)=true:=by simp;omega
    unfold c6R;rw [a1,a2];simp
   have en:partN (L t) T.num T.len=brN (L t) T.num:=by unfold partN;rw [if_neg h11,if_neg h12,if_neg h13,if_pos h14]
   rw [if_pos h14,e6,en];unfold jaj
   cases hnum:numOk L (L t).tag.toNat T.num
   · simp
   · by_cases c:T.len=brN (L t) T.num
     · simp [c]
     · have c2:¬brN (L t) T.num=T.len:=by omega
       simp [c,c2]
 rw [if_neg h14]
 have e6:c6R L t T=!numOk L t T.num:=by
  have a1:decide ((L t).kind≤9)=true:=by simp;omega
  have a2:((L t).kind==14)=false:=by simp;omega
  unfold c6R;rw [a1,a2];simp
 have en:partN (L t) T.num T.len=T.len:=by rw [hlen (.inr (by omega))];unfold partN;rw [if_neg h11,if_neg h12,if_neg h13,if_neg h14]
 rw [e6,en];unfold jaj
 cases numOk L t T.num <;> simp
theorem js2 {L:Nat→TypeV} {t:Nat} {T:VT} (okt:OkT L t) (h0:headE L t T=0) {i:Nat} (hi:i<T.len):partF (L t) T.num i=(partT L t T.num i:Nat):=by
 have hp:=jlq okt h0 hi;have hk:=okt.kind
 have hkd:T.kind=(L t).kind:=by
  unfold headE at h0
  split at h0;· cases h0
  rename_i h;exact Classical.not_not.1 h
 have hfm:formT T=true:=by
  unfold headE at h0;rw [if_neg (by simpa using hkd)] at h0
  split at h0;· cases h0
  rename_i h;simpa using h
 rw [jhw hkd hfm] at h0;unfold partF;unfold partT at hp ⊢
 by_cases h13:(L t).kind=13
 · rw [if_pos h13,if_pos h13];rw [if_neg (by omega),if_neg (by omega),if_neg (by omega),if_pos h13] at h0
   by_cases c:T.len≠(L t).ilen
   · rw [if_pos c] at h0;cases h0
   · have:=okt.items (.inl h13) i (by omega)
     omega
 · rw [if_neg h13,if_neg h13];rw [if_neg h13] at hp
   by_cases h14:(L t).kind=14
   · rw [if_pos h14,if_pos h14];rw [if_neg (by omega),if_neg (by omega),if_neg (by omega),if_neg (by omega),if_pos h14] at h0
     by_cases c1:jaj L (L t).tag.toNat T.num≠0
     · rw [if_pos c1] at h0;exact absurd h0 c1
     · rw [if_neg c1] at h0
       by_cases c:T.len≠brN (L t) T.num
       · rw [if_pos c] at h0;cases h0
       · have hn:T.len=brN (L t) T.num:=Classical.not_not.1 c;unfold brN at hn
         by_cases hb:okZ (branchZ (L t) T.num)=true
         · rw [if_pos hb] at hn
           have hz:0≤branchZ (L t) T.num:=by unfold okZ at hb;simpa using hb
           have hz2:=jcq hz
           have:=okt.items (.inr h14) ((branchZ (L t) T.num).toNat+i) (by omega)
           omega
         · rw [if_neg hb] at hn;omega
   · rw [if_neg h14,if_neg h14];rw [if_neg h14] at hp
     by_cases h1:(L t).kind=11∨(L t).kind=12
     · have:=okt.of h1;omega
     · exfalso
       have:=jhg hfm (by omega)
       omega
def RFitTo (L:Nat→TypeV) (ao:Option Addr) (len cap:Nat) (T:VT) (t:Nat) (w:World):Prop:=
 Calls Tryz.prog 24 #[.slice ao len cap,.int .i64 t,.agg #[.int .i64 T.kind,.int .u64 T.num,.string T.text,.slice T.ia T.len T.cap]] w fun e w'=>e=.returned (.int .i64 (fitsT L T t))∧Below w.heap.size w w'
theorem jnt (ao:Option Addr) (len cap t:Nat) (T:VT) (X:TypeV) (hlen:len≤1000000) (ht:t<len) (hl:T.len≤2513169434843) (w:World) (HX:TypeAt w ao t X) (hk:T.kind≠X.kind):
  Calls Tryz.prog 24 #[.slice ao len cap,.int .i64 t,.agg #[.int .i64 T.kind,.int .u64 T.num,.string T.text,.slice T.ia T.len T.cap]] w fun e w'=>e=.returned (.int .i64 4)∧Below w.heap.size w w':=by
 have hk':(T.kind !=X.kind)=true:=by simpa using hk
 obtain ⟨b,off,rfl,c0,c1,c2,c3,c4,c5,wf,hi⟩:=HX;have hbl:b<w.heap.size:=World.block_lt_of_cell? w _ c0
 have hne:¬b=w.heap.size:=by omega
 have HB:=lh (((Below.refl w.heap.size w).alloc (Nat.le_refl _) (.cells #[.int .i64 T.kind,.int .u64 T.num,.string T.text,.slice T.ia T.len T.cap] 30)).alloc (by simp) (.cells #[.int .i64 X.kind,.string X.name,.int .i64 X.bound,.int .i64 X.of,.int .i64 X.tag,.slice X.ia X.ilen X.icap] 58));have HQ1:=lh (show ((w.alloc (.cells #[.int .i64 T.kind,.int .u64 T.num,.string T.text,.slice T.ia T.len T.cap] 30)).alloc (.cells #[.int .i64 X.kind,.string X.name,.int .i64 X.bound,.int .i64 X.of,.int .i64 X.tag,.slice X.ia X.ilen X.icap] 58)).heap[w.heap.size]?=some (.cells #[.int .i64 T.kind,.int .u64 T.num,.string T.text,.slice T.ia T.len T.cap] 30) from je (jd w _));have HQ2:=lh (show ((w.alloc (.cells #[.int .i64 T.kind,.int .u64 T.num,.string T.text,.slice T.ia T.len T.cap] 30)).alloc (.cells #[.int .i64 X.kind,.string X.name,.int .i64 X.bound,.int .i64 X.of,.int .i64 X.tag,.slice X.ia X.ilen X.icap] 58)).heap[w.heap.size+1]?=some (.cells #[.int .i64 X.kind,.string X.name,.int .i64 X.bound,.int .i64 X.of,.int .i64 X.tag,.slice X.ia X.ilen X.icap] 58) by have:=jd (w.alloc (.cells #[.int .i64 T.kind,.int .u64 T.num,.string T.text,.slice T.ia T.len T.cap] 30)) (.cells #[.int .i64 X.kind,.string X.name,.int .i64 X.bound,.int .i64 X.of,.int .i64 X.tag,.slice X.ia X.ilen X.icap] 58);simpa using this);clear hi;go_enter Tryz.func24,Tryz.ntmps24
 go_upto_region 2 with (fail)
 clear c0 c1 c2 c3 c4 c5 hbl hne;generalize (w.alloc (.cells #[.int .i64 T.kind,.int .u64 T.num,.string T.text,.slice T.ia T.len T.cap] 30)).alloc (.cells #[.int .i64 X.kind,.string X.name,.int .i64 X.bound,.int .i64 X.of,.int .i64 X.tag,.slice X.ia X.ilen X.icap] 58)=W0 at *;obtain ⟨d0,d1,d2,d3⟩:=bx4 HQ1.out;have x0:W0.cell? ⟨w.heap.size+1,0,none⟩=some (.int .i64 X.kind):=ja HQ2.out rfl;have x2:W0.cell? ⟨w.heap.size+1,2,none⟩=some (.int .i64 X.bound):=ja HQ2.out rfl;have x4:W0.cell? ⟨w.heap.size+1,4,none⟩=some (.int .i64 X.tag):=ja HQ2.out rfl;go_wp2;go_ret;exact ⟨rfl,HB.out⟩
theorem joq (ao:Option Addr) (len cap t:Nat) (T:VT) (X:TypeV) (hlen:len≤1000000) (ht:t<len) (hl:T.len≤2513169434843) (w:World) (HX:TypeAt w ao t X) (hk:T.kind=X.kind) (h1:1≤X.kind) (h2:X.kind≤14) (hf:formT T=false):
  Calls Tryz.prog 24 #[.slice ao len cap,.int .i64 t,.agg #[.int .i64 T.kind,.int .u64 T.num,.string T.text,.slice T.ia T.len T.cap]] w fun e w'=>e=.returned (.int .i64 1)∧Below w.heap.size w w':=by
 have hk':(T.kind !=X.kind)=false:=by simpa using hk
 have hzr:=jaq T (by omega) (by omega) hl;rw [hf] at hzr;have HZ:=lh hzr;clear hk hf hzr h1 h2;obtain ⟨b,off,rfl,c0,c1,c2,c3,c4,c5,wf,hi⟩:=HX;have hbl:b<w.heap.size:=World.block_lt_of_cell? w _ c0
 have hne:¬b=w.heap.size:=by omega
 have HB:=lh (((Below.refl w.heap.size w).alloc (Nat.le_refl _) (.cells #[.int .i64 T.kind,.int .u64 T.num,.string T.text,.slice T.ia T.len T.cap] 30)).alloc (by simp) (.cells #[.int .i64 X.kind,.string X.name,.int .i64 X.bound,.int .i64 X.of,.int .i64 X.tag,.slice X.ia X.ilen X.icap] 58));have HQ1:=lh (show ((w.alloc (.cells #[.int .i64 T.kind,.int .u64 T.num,.string T.text,.slice T.ia T.len T.cap] 30)).alloc (.cells #[.int .i64 X.kind,.string X.name,.int .i64 X.bound,.int .i64 X.of,.int .i64 X.tag,.slice X.ia X.ilen X.icap] 58)).heap[w.heap.size]?=some (.cells #[.int .i64 T.kind,.int .u64 T.num,.string T.text,.slice T.ia T.len T.cap] 30) from je (jd w _));have HQ2:=lh (show ((w.alloc (.cells #[.int .i64 T.kind,.int .u64 T.num,.string T.text,.slice T.ia T.len T.cap] 30)).alloc (.cells #[.int .i64 X.kind,.string X.name,.int .i64 X.bound,.int .i64 X.of,.int .i64 X.tag,.slice X.ia X.ilen X.icap] 58)).heap[w.heap.size+1]?=some (.cells #[.int .i64 X.kind,.string X.name,.int .i64 X.bound,.int .i64 X.of,.int .i64 X.tag,.slice X.ia X.ilen X.icap] 58) by have:=jd (w.alloc (.cells #[.int .i64 T.kind,.int .u64 T.num,.string T.text,.slice T.ia T.len T.cap] 30)) (.cells #[.int .i64 X.kind,.string X.name,.int .i64 X.bound,.int .i64 X.of,.int .i64 X.tag,.slice X.ia X.ilen X.icap] 58);simpa using this);clear hi;go_enter Tryz.func24,Tryz.ntmps24
 go_upto_region 2 with (fail)
 clear c0 c1 c2 c3 c4 c5 hbl hne;generalize (w.alloc (.cells #[.int .i64 T.kind,.int .u64 T.num,.string T.text,.slice T.ia T.len T.cap] 30)).alloc (.cells #[.int .i64 X.kind,.string X.name,.int .i64 X.bound,.int .i64 X.of,.int .i64 X.tag,.slice X.ia X.ilen X.icap] 58)=W0 at *;obtain ⟨d0,d1,d2,d3⟩:=bx4 HQ1.out;have x0:W0.cell? ⟨w.heap.size+1,0,none⟩=some (.int .i64 X.kind):=ja HQ2.out rfl;have x2:W0.cell? ⟨w.heap.size+1,2,none⟩=some (.int .i64 X.bound):=ja HQ2.out rfl;have x4:W0.cell? ⟨w.heap.size+1,4,none⟩=some (.int .i64 X.tag):=ja HQ2.out rfl;go_wp2_with (go_at_call 39;refine (HZ.out _).mono ?_;rintro e w1 ⟨rfl,hb1⟩;have HB1:=lh (jj HB.out hb1);have HQ1:=lh (jw (by exact HQ1.out) hb1);have HQ2:=lh (jw (by exact HQ2.out) hb1);have d0:=keep hb1 (by exact d0);have d1:=keep hb1 (by exact d1);have d2:=keep hb1 (by exact d2);have d3:=keep hb1 (by exact d3);have x0:=keep hb1 (by exact x0);have x2:=keep hb1 (by exact x2);have x4:=keep hb1 (by exact x4);clear hb1);go_ret;exact ⟨rfl,HB1.out⟩
theorem jnp (ao:Option Addr) (len cap t:Nat) (T:VT) (X:TypeV) (hlen:len≤1000000) (ht:t<len) (hl:T.len≤2513169434843) (w:World) (HX:TypeAt w ao t X) (hk:T.kind=X.kind) (h1:1≤X.kind) (h2:X.kind≤14) (hf:formT T=true) (hts:T.text.size≤140737488351232) (q6 q8 qo:Bool) (n:Nat) (F:Nat→Nat) (E:Nat→Int) (R:Int)
  (hE:(if q6 then 7 else if q8 then 3 else if zeroIn T.text then 10 else if qo=false then 3 else if n≠T.len then 18 else firstE E n)=R)
  (b9 b14:Bool) (h6:((decide (X.kind≤9)&&!b9)||(X.kind==14&&!b14))=q6) (h8:(decide (X.bound<T.text.size)&&X.kind==10)=q8)
  (hN9:X.kind≤9→∀ wx,Below w.heap.size w wx→Calls Tryz.prog 40 #[.slice ao len cap,.int .i64 t,.int .u64 T.num] wx fun e w'=>e=.returned (.bool b9)∧Below wx.heap.size wx w')
  (hN14:X.kind=14→∀ wx,Below w.heap.size w wx→Calls Tryz.prog 40 #[.slice ao len cap,.int .i64 X.tag,.int .u64 T.num] wx fun e w'=>e=.returned (.bool b14)∧Below wx.heap.size wx w')
  (hP:∀ wx,Below w.heap.size w wx→Calls Tryz.prog 41 #[.slice ao len cap,.int .i64 t,.agg #[.int .i64 T.kind,.int .u64 T.num,.string T.text,.slice T.ia T.len T.cap]] wx fun e w'=>∃ v,e=.returned (.tuple #[v,.bool qo])∧Hid (w'.ownsRow wx.heap.size 3 1 v n ((listF X T.num n).map (Value.int .i64)))∧Below wx.heap.size wx w')
  (hF:q6=false→q8=false→zeroIn T.text=false→qo=true→n=T.len→∀ i,i<T.len→partF X T.num i=(F i:Nat))
  (S:Nat→Prop) (hC:∀ i,i<T.len→∀ wx,Below w.heap.size w wx→CellsAt wx S T.ia i (T.kid i))
  (hI:q6=false→q8=false→zeroIn T.text=false→qo=true→n=T.len→∀ i,i<T.len→∀ wx,Below w.heap.size w wx→Calls Tryz.prog 24 #[.slice ao len cap,.int .i64 (F i:Nat),.agg #[.int .i64 (T.kid i).kind,.int .u64 (T.kid i).num,.string (T.kid i).text,.slice (T.kid i).ia (T.kid i).len (T.kid i).cap]] wx fun e w'=>e=.returned (.int .i64 (E i))∧Below wx.heap.size wx w'):
  Calls Tryz.prog 24 #[.slice ao len cap,.int .i64 t,.agg #[.int .i64 T.kind,.int .u64 T.num,.string T.text,.slice T.ia T.len T.cap]] w fun e w'=>e=.returned (.int .i64 R)∧Below w.heap.size w w':=by
 have hk':(T.kind !=X.kind)=false:=by simpa using hk
 have hzr:=jaq T (by omega) (by omega) hl;rw [hf] at hzr;have HZ:=lh hzr;have HE:=lh hE;have H9:=lh hN9;have H14:=lh hN14;have HP:=lh hP;have HFF:=lh hF;have HC:=lh hC;have HI:=lh hI;have H6:=lh h6;have H8:=lh h8
 have hm:T.text.size≤maxLen:=by unfold maxLen;omega
 clear hk hf hzr hE hN9 hN14 hP hF hC hI h6 h8;obtain ⟨b,off,rfl,c0,c1,c2,c3,c4,c5,wf,hi⟩:=HX;have hbl:b<w.heap.size:=World.block_lt_of_cell? w _ c0
 have hne:¬b=w.heap.size:=by omega
 have HB:=lh (((Below.refl w.heap.size w).alloc (Nat.le_refl _) (.cells #[.int .i64 T.kind,.int .u64 T.num,.string T.text,.slice T.ia T.len T.cap] 30)).alloc (by simp) (.cells #[.int .i64 X.kind,.string X.name,.int .i64 X.bound,.int .i64 X.of,.int .i64 X.tag,.slice X.ia X.ilen X.icap] 58));have HQ1:=lh (show ((w.alloc (.cells #[.int .i64 T.kind,.int .u64 T.num,.string T.text,.slice T.ia T.len T.cap] 30)).alloc (.cells #[.int .i64 X.kind,.string X.name,.int .i64 X.bound,.int .i64 X.of,.int .i64 X.tag,.slice X.ia X.ilen X.icap] 58)).heap[w.heap.size]?=some (.cells #[.int .i64 T.kind,.int .u64 T.num,.string T.text,.slice T.ia T.len T.cap] 30) from je (jd w _));have HQ2:=lh (show ((w.alloc (.cells #[.int .i64 T.kind,.int .u64 T.num,.string T.text,.slice T.ia T.len T.cap] 30)).alloc (.cells #[.int .i64 X.kind,.string X.name,.int .i64 X.bound,.int .i64 X.of,.int .i64 X.tag,.slice X.ia X.ilen X.icap] 58)).heap[w.heap.size+1]?=some (.cells #[.int .i64 X.kind,.string X.name,.int .i64 X.bound,.int .i64 X.of,.int .i64 X.tag,.slice X.ia X.ilen X.icap] 58) by have:=jd (w.alloc (.cells #[.int .i64 T.kind,.int .u64 T.num,.string T.text,.slice T.ia T.len T.cap] 30)) (.cells #[.int .i64 X.kind,.string X.name,.int .i64 X.bound,.int .i64 X.of,.int .i64 X.tag,.slice X.ia X.ilen X.icap] 58);simpa using this);clear hi;go_enter Tryz.func24,Tryz.ntmps24
 go_upto_region 2 with (fail)
 clear c0 c1 c2 c3 c4 c5 hbl hne;generalize (w.alloc (.cells #[.int .i64 T.kind,.int .u64 T.num,.string T.text,.slice T.ia T.len T.cap] 30)).alloc (.cells #[.int .i64 X.kind,.string X.name,.int .i64 X.bound,.int .i64 X.of,.int .i64 X.tag,.slice X.ia X.ilen X.icap] 58)=W0 at *;obtain ⟨d0,d1,d2,d3⟩:=bx4 HQ1.out;have x0:W0.cell? ⟨w.heap.size+1,0,none⟩=some (.int .i64 X.kind):=ja HQ2.out rfl;have x2:W0.cell? ⟨w.heap.size+1,2,none⟩=some (.int .i64 X.bound):=ja HQ2.out rfl;have x4:W0.cell? ⟨w.heap.size+1,4,none⟩=some (.int .i64 X.tag):=ja HQ2.out rfl
 go_upto_region 6 with (go_at_call 39;refine (HZ.out _).mono ?_;rintro e w1 ⟨rfl,hb1⟩;have HB1:=lh (jj HB.out hb1);have HQ1:=lh (jw (by exact HQ1.out) hb1);have HQ2:=lh (jw (by exact HQ2.out) hb1);have d0:=keep hb1 (by exact d0);have d1:=keep hb1 (by exact d1);have d2:=keep hb1 (by exact d2);have d3:=keep hb1 (by exact d3);have x0:=keep hb1 (by exact x0);have x2:=keep hb1 (by exact x2);have x4:=keep hb1 (by exact x4);clear hb1)
 clear HB
 go_cut [49] (fun t wx=>t=.bool q6∧Hid (wx.heap[w.heap.size]?=some (.cells #[.int .i64 T.kind,.int .u64 T.num,.string T.text,.slice T.ia T.len T.cap] 30 (0,0)))∧Hid (wx.heap[w.heap.size+1]?=some (.cells #[.int .i64 X.kind,.string X.name,.int .i64 X.bound,.int .i64 X.of,.int .i64 X.tag,.slice X.ia X.ilen X.icap] 58 (0,0)))∧Hid (Below w.heap.size w wx))
 case first=>
  by_cases k9:X.kind≤9
  · have a9:decide (X.kind≤9)=true:=by simpa using k9
    have a14:(X.kind==14)=false:=by simp;omega
    have HN:=lh (H9.out k9);have h6:=H6.out;rw [a9,a14] at h6;clear k9 H6
    cases b9
    all_goals
     have H6:=lh h6;clear h6;go_wp2_with (go_at_call 40;refine (HN.out _ HB1.out).mono ?_;rintro e w2 ⟨rfl,hb2⟩;have HB2:=lh (jj HB1.out hb2);have HR1:=lh (jw HQ1.out hb2);have HR2:=lh (jw HQ2.out hb2);have x0:=keep hb2 (by exact x0);clear hb2)
     go_meet
     exact ⟨congrArg Value.bool (by rw [←H6.out];rfl),HR1,HR2,HB2⟩
  · have a9:decide (X.kind≤9)=false:=by simpa using k9
    by_cases k14:X.kind=14
    · have a14:(X.kind==14)=true:=by simpa using k14
      have HN:=lh (H14.out k14);have h6:=H6.out;rw [a9,a14] at h6;clear k9 k14 H6
      cases b14
      all_goals
       have H6:=lh h6;clear h6;go_wp2_with (go_at_call 40;refine (HN.out _ HB1.out).mono ?_;rintro e w2 ⟨rfl,hb2⟩;have HB2:=lh (jj HB1.out hb2);have HR1:=lh (jw HQ1.out hb2);have HR2:=lh (jw HQ2.out hb2);have x0:=keep hb2 (by exact x0);clear hb2)
       go_meet
       exact ⟨congrArg Value.bool (by rw [←H6.out];rfl),HR1,HR2,HB2⟩
    · have a14:(X.kind==14)=false:=by simpa using k14
      have h6:=H6.out;rw [a9,a14] at h6;clear k9 k14 H6;have H6:=lh h6;clear h6;go_wp2
      go_meet
      exact ⟨congrArg Value.bool (by rw [←H6.out];rfl),HQ1,HQ2,HB1⟩
 case rest=>
  obtain ⟨rfl,HR1,HR2,HB2⟩:=hcut;clear d0 d1 d2 d3 x0 x2 x4 HQ1 HQ2 HB1 H6 H9 H14 HZ;obtain ⟨d0,d1,d2,d3⟩:=bx4 HR1.out;have x0:wc.cell? ⟨w.heap.size+1,0,none⟩=some (.int .i64 X.kind):=ja HR2.out rfl;have x2:wc.cell? ⟨w.heap.size+1,2,none⟩=some (.int .i64 X.bound):=ja HR2.out rfl;have x4:wc.cell? ⟨w.heap.size+1,4,none⟩=some (.int .i64 X.tag):=ja HR2.out rfl
  cases q6 with
  |true=>
   have hR:=HE.out;rw [if_pos rfl] at hR;have HR:=lh hR;clear hR;go_wp2;go_ret;exact ⟨jo HR.out,HB2.out⟩
  |false=>
  have hR:=HE.out;rw [if_neg (by decide)] at hR;have HE:=lh hR;clear hR
  go_upto_region 8 with (fail)
  go_cut [60] (fun t wx=>t=.bool q8∧wc=wx)
  case first=>
   obtain ⟨q1,hq1⟩:∃ q,decide (X.bound<T.text.size)=q:=⟨_,rfl⟩;obtain ⟨q2,hq2⟩:∃ q,(X.kind==10)=q:=⟨_,rfl⟩;have h8:=H8.out;rw [hq1,hq2] at h8;clear H8
   cases q1 <;> cases q2
   all_goals
    have H8:=lh h8;clear h8;go_wp2
    go_meet
    exact ⟨congrArg Value.bool (by rw [←H8.out];rfl),rfl⟩
  case rest=>
   obtain ⟨rfl,rfl⟩:=hcut;clear H8
   cases q8 with
   |true=>
    have hR:=HE.out;rw [if_pos rfl] at hR;have HR:=lh hR;clear hR;go_wp2;go_ret;exact ⟨jo HR.out,HB2.out⟩
   |false=>
   have hR:=HE.out;rw [if_neg (by decide)] at hR;have HE:=lh hR;clear hR;go_wp2
   go_loopw [8] (fun i wr=>∃ j:Nat,j≤T.text.size∧i=.int .i64 j∧Hid (∀ m (hm:m<T.text.size),m<j→(T.text[m]'hm).toNat≠0)∧wc=wr) (fun i _=>T.text.size - (intOf i).toNat)
   case atStart=>exact ⟨0,Nat.zero_le _,rfl,lh (fun m _ hm=>absurd hm (Nat.not_lt_zero _)),rfl⟩
   case round=>
    obtain ⟨j,hj,rfl,HA,rfl⟩:=hrel
    by_cases hlt:j<T.text.size
    · cases hz:((((T.text[j]'hlt).toNat:Nat):Int)==0) with
      |true=>
       have hR:=HE.out;rw [jlb hlt (by simpa using hz),if_pos rfl] at hR;have HR:=lh hR;clear hR;go_wp2;go_ret;exact ⟨jo HR.out,HB2.out⟩
      |false=>
       have hz':(T.text[j]'hlt).toNat≠0:=by simpa using hz
       have HA2:=lh (show ∀ m (hm:m<T.text.size),m<j+1→(T.text[m]'hm).toNat≠0 from fun m hm hmj=>by
        rcases Nat.lt_succ_iff_lt_or_eq.1 hmj with h|rfl
        · exact HA.out m hm h
        · exact hz')
       clear hz';go_wp2;go_roundw
       case rel=>exact ⟨j+1,by omega,by go_num,HA2,by first|rfl|trivial⟩
       case measure=>simp [intOf];omega
    · obtain rfl:j=T.text.size:=by omega
      have hzi:zeroIn T.text=false:=jfj (fun k hk=>HA.out k hk hk);have hR:=HE.out;rw [hzi,if_neg (by decide)] at hR;have HE:=lh hR;have HPP:=lh (HP.out _ HB2.out);have HFF2:=lh (HFF.out (by first|rfl|trivial) (by first|rfl|trivial) hzi);have HI2:=lh (HI.out (by first|rfl|trivial) (by first|rfl|trivial) hzi);clear hR hzi HFF HI HP HA
      go_upto_region 16 with (go_at_call 41;refine (HPP.out).mono ?_;rintro e w3 ⟨v,rfl,HO,hb3⟩;have HB3:=lh (jj HB2.out hb3);have HR3:=lh (jw HR1.out hb3);clear hb3)
      clear d0 d1 d2 d3 x0 x2 x4 HR1 HR2 HPP;have d3:w3.cell? ⟨w.heap.size,3,none⟩=some (.slice T.ia T.len T.cap):=ja HR3.out rfl;obtain ⟨pa,pc,rfl,hpa⟩:=Xt HO.out;have HPA:=lh hpa;clear hpa
      cases qo with
      |false=>
       have hR:=HE.out;rw [if_pos rfl] at hR;have HR:=lh hR;clear hR;go_wp2;go_ret;exact ⟨jo HR.out,HB3.out⟩
      |true=>
      have hR:=HE.out;rw [if_neg (by decide)] at hR
      by_cases hn:n=T.len
      case neg=>
       have hn':((n:Int) !=(T.len:Int))=true:=by simp;omega
       rw [if_pos hn] at hR;have HR:=lh hR;clear hR hn;go_wp2;go_ret;exact ⟨jo HR.out,HB3.out⟩
      subst hn;rw [if_neg (by simp)] at hR;have HR:=lh hR;have HFF:=lh (HFF2.out (by first|rfl|trivial) (by first|rfl|trivial));have HI:=lh (HI2.out (by first|rfl|trivial) (by first|rfl|trivial))
      have hn':((T.len:Int) !=(T.len:Int))=false:=by simp
      clear hR HFF2 HI2 HE;go_wp2;clear d3
      go_loopw [11] (fun i wr=>∃ j:Nat,j≤T.len∧i=.int .i64 j∧Hid (∀ m,m<j→(E m !=0)=false)∧Hid (wr.heap[w.heap.size]?=some (.cells #[.int .i64 T.kind,.int .u64 T.num,.string T.text,.slice T.ia T.len T.cap] 30 (0,0)))∧Hid (wr.ownsRow wc.heap.size 3 1 (.slice pa T.len pc) T.len ((listF X T.num T.len).map (Value.int .i64)))∧Hid (Below w.heap.size w wr)) (fun i _=>T.len - (intOf i).toNat)
      case atStart=>exact ⟨0,Nat.zero_le _,rfl,lh (fun m hm=>absurd hm (Nat.not_lt_zero _)),HR3,HO,HB3⟩
      case round=>
       obtain ⟨j,hj,rfl,HA,HRr,HOr,HBr⟩:=hrel
       by_cases hlt:j<T.len
       · have d3:wr.cell? ⟨w.heap.size,3,none⟩=some (.slice T.ia T.len T.cap):=ja HRr.out rfl;obtain ⟨g,hg⟩:=HPA.out (by omega);have ho:=HOr.out;rw [hg] at ho;have p0:=zr ho j hlt;rw [jn6 X T.num hlt,HFF.out j hlt] at p0;obtain ⟨b',off',hia',_,_,k0,k1,k2,k3⟩:=HC.out j hlt wr HBr.out;have hcall:=HI.out j hlt;obtain ⟨M,hM⟩:∃ M,T.kid j=M:=⟨_,rfl⟩;obtain ⟨f,hf⟩:∃ f,F j=f:=⟨_,rfl⟩;obtain ⟨q,hq⟩:∃ q,E j=q:=⟨_,rfl⟩;rw [hM,hf,hq] at hcall;rw [hM] at k0 k1 k2 k3;rw [hf] at p0;rw [hia'] at d3;have HD:=lh hcall;have HQ:=lh hq;have HGA:=lh hg;clear hcall hM hf hq hia' ho;subst hg;clear HGA;go_wp2_with fail
         go_region_held3 (fun w'=>w'.cell? ⟨g,j,none⟩=some (.int .i64 (f:Nat))∧w'.cell? ⟨w.heap.size,3,none⟩=some (.slice (some ⟨b',off',none⟩) T.len T.cap)∧w'.cell? ⟨b',off'+j*4,none⟩=some (.int .i64 M.kind)∧w'.cell? ⟨b',off'+j*4+1,none⟩=some (.int .u64 M.num)∧w'.cell? ⟨b',off'+j*4+2,none⟩=some (.string M.text)∧w'.cell? ⟨b',off'+j*4+3,none⟩=some (.slice M.ia M.len M.cap))
          (first|exact ⟨p0,d3,k0,k1,k2,k3⟩|fail)
          (first|(go_at_call 24;refine (HD.out _ (by first|exact HBr.out|exact HBr.out.drew)).mono ?_;rintro e w5 ⟨rfl,hb5⟩;have HB5:=lh (jj (by first|exact HBr.out|exact HBr.out.drew) hb5);have HR5:=lh (jw (by exact HRr.out) hb5);have HO5:=lh (ki (by first|exact HOr.out|exact HOr.out.drew) hb5);have p0:=keep hb5 (by exact p0);have d3:=keep hb5 (by exact d3);have k0:=keep hb5 (by exact k0);have k1:=keep hb5 (by exact k1);have k2:=keep hb5 (by exact k2);have k3:=keep hb5 (by exact k3)))
         clear p0 d3 k0 k1 k2 k3
         cases hz:(q !=0) with
         |true=>
          have HT:=lh (qq (e:=E) HA.out hlt (by rw [HQ.out];exact hz));go_wp2;go_ret;exact ⟨jo (by rw [←HR.out,HT.out,HQ.out]),HB5.out⟩
         |false=>
          have HA2:=lh (ji (p:=fun m=>E m !=0) HA.out (by rw [HQ.out];exact hz));go_wp2;go_roundw
          case rel=>exact ⟨j+1,by omega,by go_num,HA2,HR5,HO5,HB5⟩
          case measure=>simp [intOf];omega
       · obtain rfl:j=T.len:=by omega
         have HT:=lh (kv (e:=E) HA.out);go_wp2;go_ret;exact ⟨jo (by rw [←HR.out,HT.out]),HBr.out⟩
theorem jn8 (ao:Option Addr) (len cap:Nat) (L:Nat→TypeV) (hlen:len≤1000000) (hv:∀ i,i<len→OkT L i) (S:Nat→Prop):
  ∀ (T:VT) (t:Nat) (w:World),ValAt w S T→(∀ i,i<len→TypeAt w ao i (L i))→t<len→RFitTo L ao len cap T t w:=by
 refine VT.ind fun T ih t w HV H ht=>?_;have HI:=fun i (hi:i<T.len) p (hp:p<len) wx (hb:Below w.heap.size w wx)=>ih i hi p wx (ze HV hb hi).2 (hold H hb) hp;have hX:=H t ht;have hl:=Zr HV;have hwf:=((kg T).1 HV).1;have okt:=hv t ht;have hk1:=okt.kind;unfold RFitTo
 by_cases hk:T.kind=(L t).kind
 case neg=>
  have e:headE L t T=4:=by unfold headE;rw [if_pos hk]
  rw [jfp (by rw [e];decide),e];exact jnt ao len cap t T (L t) hlen ht hl w hX hk
 cases hf:formT T with
 |false=>
  have e:headE L t T=1:=by unfold headE;rw [if_neg (by simpa using hk),if_pos hf]
  rw [jfp (by rw [e];decide),e];exact joq ao len cap t T (L t) hlen ht hl w hX hk hk1.1 hk1.2 hf
 |true=>
  have hh:=jrc okt hk hf
  have h00:c6R L t T=false→c8R L t T=false→zeroIn T.text=false→okP (L t) T.len=true→partN (L t) T.num T.len=T.len→headE L t T=0:=fun e1 e2 e3 e4 e5=>by
   rw [hh,e1,e2,e3,e4,e5];simp
  refine jnp ao len cap t T (L t) hlen ht hl w hX hk hk1.1 hk1.2 hf hwf.2.2.1 (c6R L t T) (c8R L t T) (okP (L t) T.len) (partN (L t) T.num T.len) (partT L t T.num) (fun i=>fitsT L (T.kid i) (partT L t T.num i)) (fitsT L T t) ?_ (numOk L t T.num) (numOk L (L t).tag.toNat T.num) rfl rfl ?_ ?_ ?_ ?_ S (fun i hi wx hb=>(ze HV hb hi).1) ?_
  · rw [jih]
    cases e1:c6R L t T
    case true=>rw [hh,e1];simp
    cases e2:c8R L t T
    case true=>rw [hh,e1,e2];simp
    cases e3:zeroIn T.text
    case true=>rw [hh,e1,e2,e3];simp
    cases e4:okP (L t) T.len
    case false=>rw [hh,e1,e2,e3,e4];simp
    by_cases e5:partN (L t) T.num T.len=T.len
    · rw [h00 e1 e2 e3 e4 e5,e5];simp
    · rw [hh,e1,e2,e3,e4];simp [e5]
  · exact fun _ wx hb=>jb2 ao len cap L hlen t ht T.num hwf.2.1 wx (hold H hb)
  · intro h14 wx hb;have htg:=okt.tag h14;obtain ⟨k,hkt⟩:=Int.eq_ofNat_of_zero_le htg.1;rw [hkt,Int.toNat_natCast];exact jb2 ao len cap L hlen k (by omega) T.num hwf.2.1 wx (hold H hb)
  · exact fun wx hb=>(jeq ao len cap L hlen t ht okt T hl wx (hold H hb)).mono fun e w' ⟨v,h1,h2,h3⟩=>⟨v,h1,lh h2,h3⟩
  · exact fun e1 e2 e3 e4 e5 i hi=>js2 okt (h00 e1 e2 e3 e4 e5) hi
  · intro e1 e2 e3 e4 e5 i hi wx hb;have hp:=jlq okt (h00 e1 e2 e3 e4 e5) hi;exact HI i hi _ (by omega) wx hb
theorem jkt (ao:Option Addr) (len cap:Nat) (L:Nat→TypeV) (hlen:len≤1000000) (S:Nat→Prop) (t:Int) (T:VT) (w:World) (HV:ValAt w S T) (H:∀ i,i<len→TypeAt w ao i (L i)):
  Calls Tryz.prog 8 #[.slice ao len cap,.int .i64 t,.agg #[.int .i64 T.kind,.int .u64 T.num,.string T.text,.slice T.ia T.len T.cap]] w fun e w'=>e=.returned (.int .i64 (fitsA L len t T))∧Below w.heap.size w w':=by
 have hc:=fun wx (hb:Below w.heap.size w wx)=>jao ao len cap L hlen wx (hold H hb);unfold faultV at hc;have hfe:=jfk;have HB:=lh ((Below.refl w.heap.size w).alloc (Nat.le_refl _) (.cells #[.int .i64 T.kind,.int .u64 T.num,.string T.text,.slice T.ia T.len T.cap] 30));have HQ:=lh (jd w (.cells #[.int .i64 T.kind,.int .u64 T.num,.string T.text,.slice T.ia T.len T.cap] 30));have CHK:=trivial;obtain ⟨E,hE⟩:∃ E,fErr (oneR L len) len=E:=⟨_,rfl⟩;obtain ⟨A,hA⟩:∃ A,fAt (oneR L len) len=A:=⟨_,rfl⟩;rw [hE,hA] at hc;have HCK:=lh hc;clear hc;unfold fitsA
 cases hT:hasT L len t with
 |true=>
  obtain ⟨k,rfl,hk,hok⟩:=Yc hT;rw [if_pos rfl,Int.toNat_natCast];have hv:=Z9 hok;have HC:=lh (fun wx (hb:Below w.heap.size w wx)=>jn8 ao len cap L hlen hv S T k wx (HV.next hb) (hold H hb) hk);unfold RFitTo at HC;obtain ⟨x,hx⟩:∃ x,fitsT L T k=x:=⟨_,rfl⟩;rw [hx] at HC ⊢;obtain rfl:E=0:=hE.symm.trans hok;have a1:((0:Int) !=0)=false:=rfl
  have a2:¬((k:Int)<0):=by omega
  have a3:¬((len:Int)≤(k:Int)):=by omega
  clear hx hT hok hv HV H hE hA;go_enter Tryz.func8,Tryz.ntmps8
  go_wp2_with (first
   |(go_at_call 23;refine (HCK.out _ HB.out).mono ?_;rintro e w1 ⟨rfl,hb1⟩;have HB1:=lh (jj HB.out hb1);have HQ1:=lh (jw HQ.out hb1);obtain ⟨d0,d1,d2,d3⟩:=bx4 HQ1.out;clear hb1)
   |(go_at_call 24;refine (HC.out _ HB1.out).mono ?_;rintro e w2 ⟨rfl,hb2⟩;have HB2:=lh (jj HB1.out hb2);clear hb2))
  go_ret;exact ⟨rfl,HB2.out⟩
 |false=>
  rw [if_neg (by decide)]
  by_cases hE0:E=0
  · have hno:t<0∨(len:Int)≤t:=by
     have hok:fErr (oneR L len) len=0:=hE.trans hE0
     rcases Classical.em (t<0) with h|h
     · exact .inl h
     · right
       rcases Classical.em (t<len) with h2|h2
       · exfalso
         obtain ⟨k,rfl⟩:=Int.eq_ofNat_of_zero_le (show 0≤t by omega);rw [jhk (by omega) hok] at hT;cases hT
       · omega
    subst hE0;clear hT HV H hE hA
    rcases hno with h|h
    · go_enter Tryz.func8,Tryz.ntmps8;go_wp2_with (go_at_call 23;refine (HCK.out _ HB.out).mono ?_;rintro e w1 ⟨rfl,hb1⟩;have HB1:=lh (jj HB.out hb1);clear hb1);go_ret;exact ⟨rfl,HB1.out⟩
    · have h':¬t<0:=by omega
      go_enter Tryz.func8,Tryz.ntmps8;go_wp2_with (go_at_call 23;refine (HCK.out _ HB.out).mono ?_;rintro e w1 ⟨rfl,hb1⟩;have HB1:=lh (jj HB.out hb1);clear hb1);go_ret;exact ⟨rfl,HB1.out⟩
  · have hE':(E !=0)=true:=by simpa using hE0
    clear hT HV H hE hA hE0;go_enter Tryz.func8,Tryz.ntmps8;go_wp2_with (go_at_call 23;refine (HCK.out _ HB.out).mono ?_;rintro e w1 ⟨rfl,hb1⟩;have HB1:=lh (jj HB.out hb1);clear hb1);go_ret;exact ⟨rfl,HB1.out⟩
end Go.Proofs.YthcompcjphaahaaGreatDoor.Pa
