/- Values as trees: their depth, size, text and sameness, and when one is too great to be asked; in plain words. -/
import Derived.Lib.ItoaNum
import Derived.OwnWalk
import Derived.Deep.RegionHeld3
import Derived.Test.YthcompcjphaahaaGreatDoorh00
import Derived.Test.YthcompcjphaahaaGreatDoorh15
set_option maxRecDepth 100000
set_option maxHeartbeats 8000000
namespace Go.Proofs.YthcompcjphaahaaGreatDoor.Pa
set_option linter.unusedVariables false
inductive VT where
 |nil
 |node (kind num:Int) (text:ByteArray) (ia:Option Addr) (len cap:Nat) (kid:Nat→VT)
instance:Inhabited VT:=⟨.nil⟩
namespace VT
def kind:VT→Int|.nil=>0|.node k _ _ _ _ _ _=>k
def num:VT→Int|.nil=>0|.node _ n _ _ _ _ _=>n
def text:VT→ByteArray|.nil=>⟨#[]⟩|.node _ _ s _ _ _ _=>s
def ia:VT→Option Addr|.nil=>none|.node _ _ _ a _ _ _=>a
def len:VT→Nat|.nil=>0|.node _ _ _ _ l _ _=>l
def cap:VT→Nat|.nil=>0|.node _ _ _ _ _ c _=>c
def kid:VT→Nat→VT|.nil=>fun _=>.nil|.node _ _ _ _ _ _ k=>k
theorem ind {Q:VT→Prop} (h:∀ T:VT,(∀ i,i<T.len→Q (T.kid i))→Q T):∀ T,Q T
 |.nil=>h _ (fun i hi=>absurd hi (Nat.not_lt_zero i))
 |.node k n s a l c f=>h _ (fun i _=>ind h (f i))
end VT
def maxTo (f:Nat→Nat):Nat→Nat|0=>0|n+1=>max (maxTo f n) (f n)
def sumTo (f:Nat→Nat):Nat→Nat|0=>0|n+1=>sumTo f n+f n
def allTo (f:Nat→Bool):Nat→Bool|0=>true|n+1=>allTo f n&&f n
def anyTo (f:Nat→Bool):Nat→Bool|0=>false|n+1=>anyTo f n||f n
theorem jjp {f g:Nat→Nat}:∀ n,(∀ i,i<n→f i=g i)→maxTo f n=maxTo g n
 |0,_=>rfl
 |n+1,h=>by rw [maxTo,maxTo,jjp n (fun i hi=>h i (by omega)),h n (by omega)]
theorem jfd {f:Nat→Bool}:∀ n,allTo f n=true↔∀ i,i<n→f i=true
 |0=>by simp [allTo]
 |n+1=>by
  rw [allTo,Bool.and_eq_true,jfd n]
  constructor
  · rintro ⟨h,h2⟩ i hi
    rcases Nat.lt_succ_iff_lt_or_eq.1 hi with h' |rfl
    · exact h i h'
    · exact h2
  · exact fun h=>⟨fun i hi=>h i (by omega),h n (by omega)⟩
theorem q7 {f:Nat→Bool}:∀ n,anyTo f n=true↔∃ i,i<n∧f i=true
 |0=>by simp [anyTo]
 |n+1=>by
  rw [anyTo,Bool.or_eq_true,q7 n]
  constructor
  · rintro (⟨i,hi,h⟩|h)
    · exact ⟨i,by omega,h⟩
    · exact ⟨n,by omega,h⟩
  · rintro ⟨i,hi,h⟩
    rcases Nat.lt_succ_iff_lt_or_eq.1 hi with h' |rfl
    · exact .inl ⟨i,h',h⟩
    · exact .inr h
theorem Xf {f:Nat→Bool} {n:Nat} (h:anyTo f n=false) (i:Nat) (hi:i<n):f i=false:=by
 cases hx:f i with
 |false=>rfl
 |true=>rw [(q7 n).2 ⟨i,hi,hx⟩] at h;cases h
theorem jpo {f:Nat→Nat}:∀ {n i:Nat},i<n→f i≤maxTo f n
 |n+1,i,hi=>by
  rw [maxTo]
  rcases Nat.lt_succ_iff_lt_or_eq.1 hi with h|rfl
  · have:=jpo (f:=f) h;omega
  · omega
theorem jiv {f:Nat→Nat}:∀ {n i:Nat},i<n→f i≤sumTo f n
 |n+1,i,hi=>by
  rw [sumTo]
  rcases Nat.lt_succ_iff_lt_or_eq.1 hi with h|rfl
  · have:=jiv (f:=f) h;omega
  · omega
theorem jhj {f:Nat→Nat}:∀ {n m:Nat},m≤n→sumTo f m≤sumTo f n
 |0,m,h=>by obtain rfl:m=0:=by omega
            exact Nat.le_refl _
 |n+1,m,h=>by
  rcases Nat.eq_or_lt_of_le h with rfl|h
  · exact Nat.le_refl _
  · have:=jhj (f:=f) (n:=n) (m:=m) (by omega);rw [sumTo];omega
def greatT:VT→Nat
 |.nil=>1
 |.node _ _ s _ l _ f=>1+s.size+sumTo (fun i=>greatT (f i)) l
theorem Zn (T:VT):greatT T=1+T.text.size+sumTo (fun i=>greatT (T.kid i)) T.len:=by cases T <;> rfl
def muchT:VT→Nat→Bool
 |.nil,d=>decide (40<d)
 |.node _ _ s _ l _ f,d=>decide (40<d)||decide (300<l)||decide (1000<s.size)||anyTo (fun i=>muchT (f i) (d+1+l / 4)) l||decide (10000<sumTo (fun i=>greatT (f i)) l)
theorem ja5 (T:VT) (d:Nat):muchT T d=(decide (40<d)||decide (300<T.len)||decide (1000<T.text.size)||anyTo (fun i=>muchT (T.kid i) (d+1+T.len / 4)) T.len||decide (10000<sumTo (fun i=>greatT (T.kid i)) T.len)):=by
 cases T with
 |nil=>simp [muchT,VT.len,VT.text,anyTo,sumTo,ByteArray.size]
 |node=>rfl
theorem jhc {T:VT} {d:Nat} (h:muchT T d=false):d≤40∧T.len≤300∧T.text.size≤1000∧(∀ i,i<T.len→muchT (T.kid i) (d+1+T.len / 4)=false)∧sumTo (fun i=>greatT (T.kid i)) T.len≤10000∧greatT T≤11001:=by
 rw [ja5] at h;simp only [Bool.or_eq_false_iff,decide_eq_false_iff_not,Nat.not_lt] at h;obtain ⟨⟨⟨⟨h1,h2⟩,h3⟩,h4⟩,h5⟩:=h;refine ⟨h1,h2,h3,fun i hi=>Xf h4 i hi,h5,?_⟩;rw [Zn];omega
def headB (T U:VT):Bool:=T.kind==U.kind&&T.num==U.num&&decide (T.text=U.text)&&T.len==U.len
def sameT:VT→VT→Bool
 |.nil,U=>headB .nil U
 |.node k n s a l c f,U=>headB (.node k n s a l c f) U&&allTo (fun i=>sameT (f i) (U.kid i)) l
theorem jrf (T U:VT):sameT T U=(headB T U&&allTo (fun i=>sameT (T.kid i) (U.kid i)) T.len):=by
 cases T with
 |nil=>simp [sameT,VT.len,allTo]
 |node=>rfl
theorem jmy {T U:VT}:headB T U=true↔T.kind=U.kind∧T.num=U.num∧T.text=U.text∧T.len=U.len:=by
 unfold headB;simp [and_assoc]
theorem jbb {T U:VT}:sameT T U=true↔T.kind=U.kind∧T.num=U.num∧T.text=U.text∧T.len=U.len∧∀ i,i<T.len→sameT (T.kid i) (U.kid i)=true:=by
 rw [jrf,Bool.and_eq_true,jmy,jfd];simp [and_assoc]
theorem jmn {T:VT} {i:Nat} (hi:i<T.len):greatT (T.kid i)<greatT T:=by
 rw [Zn T];have:greatT (T.kid i)≤_:=jiv (f:=fun i=>greatT (T.kid i)) hi;omega
theorem jl7:∀ (k u:Nat),u<10 ^ (k+1)→Lib.nDigits u≤k+1
 |0,u,h=>by rw [Lib.nDigits_small (by simpa using h)];omega
 |k+1,u,h=>by
  by_cases c:u<10
  · rw [Lib.nDigits_small c];omega
  · rw [Lib.nDigits_big c]
    have:=jl7 k (u / 10) (by rw [Nat.div_lt_iff_lt_mul (by decide)];rw [Nat.pow_succ] at h;exact h)
    omega
theorem jta (n:Nat) (h:n<18446744073709551616):(Lib.decDigits n).length≤20:=by
 rw [Lib.decDigits_length];exact jl7 19 n (Nat.lt_trans h (by decide))
end Go.Proofs.YthcompcjphaahaaGreatDoor.Pa
namespace Go.Proofs.YthcompcjphaahaaGreatDoor.Pa
open Go.ChangeShapes Go.WideShapes Go.ChangeAt Go.RowKit
set_option linter.unusedVariables false
def valV (T:VT):Value:=.agg #[.int .i64 T.kind,.int .u64 T.num,.string T.text,.slice T.ia T.len T.cap]
def valO (T:VT):Obj:=.cells #[.int .i64 T.kind,.int .u64 T.num,.string T.text,.slice T.ia T.len T.cap] 30
def ValWf (T:VT):Prop:=(Lit.int .i64 T.kind).wf=true∧(Lit.int .u64 T.num).wf=true∧T.text.size≤140737488351232∧T.len≤2513169434843
def CellsAt (w:World) (S:Nat→Prop) (ao:Option Addr) (i:Nat) (T:VT):Prop:=
 ∃ b off,ao=some ⟨b,off,none⟩∧S b∧b<w.heap.size∧w.cell? ⟨b,off+i*4,none⟩=some (.int .i64 T.kind)∧w.cell? ⟨b,off+i*4+1,none⟩=some (.int .u64 T.num)∧
   w.cell? ⟨b,off+i*4+2,none⟩=some (.string T.text)∧w.cell? ⟨b,off+i*4+3,none⟩=some (.slice T.ia T.len T.cap)
def ValAt (w:World) (S:Nat→Prop):VT→Prop
 |.nil=>True
 |.node k n s a l c f=>ValWf (.node k n s a l c f)∧∀ i,i<l→CellsAt w S a i (f i)∧ValAt w S (f i)
theorem jor:ValWf .nil:=⟨by kernel_rfl,by kernel_rfl,by decide,by decide⟩
theorem kg {w:World} {S:Nat→Prop} (T:VT):ValAt w S T↔ValWf T∧∀ i,i<T.len→CellsAt w S T.ia i (T.kid i)∧ValAt w S (T.kid i):=by
 cases T with
 |nil=>exact ⟨fun _=>⟨jor,fun i hi=>absurd hi (Nat.not_lt_zero i)⟩,fun _=>trivial⟩
 |node=>exact Iff.rfl
theorem Xa {w w':World} {a:Addr} (h:w'.heap[a.block]?=w.heap[a.block]?):w'.cell? a=w.cell? a:=by
 unfold World.cell?;rw [h]
theorem CellsAt.held {w w':World} {S S':Nat→Prop} {ao:Option Addr} {i:Nat} {T:VT} (h:CellsAt w S ao i T) (hS:∀ b,S b→S' b) (hn:w.heap.size≤w'.heap.size) (hw:∀ b,S b→b<w.heap.size→w'.heap[b]?=w.heap[b]?):CellsAt w' S' ao i T:=by
 obtain ⟨b,off,e,hs,hl,h0,h1,h2,h3⟩:=h;have hb:=hw b hs hl;exact ⟨b,off,e,hS b hs,by omega,(Xa hb).trans h0,(Xa hb).trans h1,(Xa hb).trans h2,(Xa hb).trans h3⟩
theorem ValAt.held_of {w w':World} {S S':Nat→Prop} (hS:∀ b,S b→S' b) (hn:w.heap.size≤w'.heap.size) (hw:∀ b,S b→b<w.heap.size→w'.heap[b]?=w.heap[b]?):∀ T:VT,ValAt w S T→ValAt w' S' T:=by
 refine VT.ind fun T ih h=>?_;obtain ⟨h1,h2⟩:=(kg T).1 h;exact (kg T).2 ⟨h1,fun i hi=>⟨(h2 i hi).1.held hS hn hw,ih i hi (h2 i hi).2⟩⟩
theorem ValAt.next {w w':World} {S:Nat→Prop} {T:VT} (h:ValAt w S T) (hb:Below w.heap.size w w'):ValAt w' S T:=
 ValAt.held_of (fun _ s=>s) hb.size (fun b _ hl=>hb.block b hl) T h
theorem CellsAt.next {w w':World} {S:Nat→Prop} {ao:Option Addr} {i:Nat} {T:VT} (h:CellsAt w S ao i T) (hb:Below w.heap.size w w'):CellsAt w' S ao i T:=
 h.held (fun _ s=>s) hb.size (fun b _ hl=>hb.block b hl)
theorem ValAt.sub {w:World} {S S':Nat→Prop} {T:VT} (h:ValAt w S T) (hS:∀ b,S b→S' b):ValAt w S' T:=
 ValAt.held_of hS (Nat.le_refl _) (fun _ _ _=>rfl) T h
section
variable {H:Type} {enc:TypeId × Value→H} {P:Program} {w:World}
def RdgF (enc:TypeId × Value→H) (P:Program) (w:World) (fuel:Nat) (t:TypeId) (cs:List Value):Prop:=
 ∃ (d:DataW H) (p:List MemPlace),DataW.trod enc P w 0 (fun _=>true) true fuel t cs=some (d,p)∧∀ n∈d.weights P t,n≤reachBytes
theorem RdgF.rdg {fuel:Nat} {t:TypeId} {cs:List Value} (h:RdgF enc P w fuel t cs):Rdg enc P w t cs:=by
 obtain ⟨d,p,h⟩:=h;exact ⟨fuel,d,p,h⟩
theorem kf {fuel:Nat} {t:TypeId} {fs:Array Field} {cs:List Value} (ht:P.underlying t=some (.struct fs)) (h:RdgF enc P w fuel t cs) (i:Nat) (ty:TypeId) (off n:Nat)
  (hf:fs[i]?.map (fun f=>(f.type,f.offset))=some (ty,off)) (hc:P.cellsOf ty=n):∃ m,fuel=m+1∧RdgF enc P w m ty ((cs.drop off).take n):=by
 obtain ⟨d,p,h,hw⟩:=h;obtain ⟨xs,m,hfu,hx,_,hl,hfl⟩:=DataW.trod_struct ht h;obtain ⟨rfl,_⟩:=Prod.mk.inj hx
 cases hq:fs[i]? with
 |none=>rw [hq] at hf;cases hf
 |some f=>
  rw [hq] at hf;simp at hf;obtain ⟨rfl,rfl⟩:=hf;subst hc
  have hi:i<xs.length:=by
   have:=(Array.getElem?_eq_some_iff.1 hq).1
   omega
  refine ⟨m,hfu,xs[i].1,xs[i].2,by rw [hfl i f hq,List.getElem?_eq_getElem hi],fun k hk=>hw k ?_⟩;simp only [DataW.weights,ht];refine DataW.weights_mem_each (j:=i) (t:=f.type) (d:=xs[i].1) ?_ ?_ k hk
  · have:=Array.getElem?_toList (xs:=fs) (i:=i)
    rw [List.getElem?_map,this,hq];rfl
  · rw [List.getElem?_map,List.getElem?_eq_getElem hi];rfl
theorem Yi {fuel:Nat} {t e:TypeId} {cs:List Value} (n:Nat) (ht:P.underlying t=some (.slice e)) (hc:P.cellsOf e=n) (h:RdgF enc P w fuel t cs):
  cs=[.slice none 0 0]∨∃ (a:Addr) (len cap m:Nat),fuel=m+1∧cs=[.slice (some a) len cap]∧len≤cap∧cap*P.bytesOf e≤140737488351232∧
   ∀ i,i<len→∃ c:List Value,w.cells? 0 (a.add (i*n)) n=some c∧RdgF enc P w m e c:=by
 obtain ⟨d,p,h,hw⟩:=h;subst hc
 rcases DataW.trod_slice ht h with ⟨h0,_⟩|⟨a,len,cap,elems,rest,m,hfu,h1,h2,_,hl,hm,hlen,hel,hsp,_⟩
 · exact .inl h0
 · obtain ⟨hr,hrj⟩:=hsp rfl;obtain ⟨rfl,_⟩:=Prod.mk.inj h2
   have e0:reachBytes=140737488351232:=by decide
   refine .inr ⟨a,len,cap,m,hfu,h1,hl,?_,?_⟩
   · have:=hw ((elems.length+rest.length)*P.bytesOf e) (by simp [DataW.weights,ht])
     rw [e0,hlen,hr] at this
     rwa [Nat.add_sub_cancel' hl] at this
   · intro i hi;have hq:=hel i hi
     have hi':i<elems.length:=by omega
     rw [List.getElem?_eq_getElem hi'] at hq;obtain ⟨cs',hcs,hx⟩:=Option.bind_eq_some_iff.1 hq;refine ⟨cs',hcs,elems[i].1,elems[i].2,hx,fun k hk=>hw k ?_⟩;simp only [DataW.weights,ht,List.mem_cons,List.mem_append];exact .inr (.inl (qm (j:=i) (d:=elems[i].1) (by rw [List.getElem?_map,List.getElem?_eq_getElem hi'];rfl) k hk))
end
section
variable {H:Type} {enc:TypeId × Value→H} {w:World}
theorem Zv {b':Nat} {a:Addr} {n len:Nat} {Q:Nat→List Value→Prop} (hn:0<n) (hc:0<len) (h:∀ i,i<len→∃ c:List Value,w.cells? 0 (a.add (i*n)) n=some c∧Q i c):
  ∃ b off,a=⟨b,off,none⟩∧∀ i,i<len→∃ c:List Value,c.length=n∧(∀ j,j<n→w.cell? ⟨b,off+i*n+j,none⟩=c[j]?)∧Q i c:=by
 have h0:a=⟨a.block,a.off,none⟩:=by
  obtain ⟨c,hcc,_⟩:=h 0 hc;obtain ⟨_,hl,hat⟩:=World.cells?_some hcc;have h1:=hat 0 hn
  have hl0:0<c.length:=by omega
  rw [List.getElem?_eq_getElem hl0,Nat.zero_mul] at h1
  have e2:(a.add 0).add 0=a:=by unfold Addr.add;simp
  rw [e2] at h1;exact Yd h1
 refine ⟨a.block,a.off,h0,fun i hi=>?_⟩;obtain ⟨c,hcc,hr⟩:=h i hi;obtain ⟨_,hl,hat⟩:=World.cells?_some hcc;refine ⟨c,hl,fun j hj=>?_,hr⟩;have h1:=hat j hj;rw [Go.Deep.add_add,h0,Xr,←Nat.add_assoc] at h1;exact h1
theorem jls:∀ (n fuel:Nat) (cs:List Value),fuel≤n→cs.length=4→RdgF enc Tryz.prog w fuel 30 cs→
  ∃ T:VT,cs=[.int .i64 T.kind,.int .u64 T.num,.string T.text,.slice T.ia T.len T.cap]∧ValAt w (· <w.heap.size) T
 |0,fuel,cs,hn,_,h=>by
  obtain ⟨m,hm,_⟩:=kf Tryz.underlying30 h 0 3 0 1 rfl (by kernel_rfl);omega
 |n+1,fuel,cs,hn,hl,h=>by
  obtain ⟨_,_,f0⟩:=kf Tryz.underlying30 h 0 3 0 1 rfl (by kernel_rfl);obtain ⟨_,_,f1⟩:=kf Tryz.underlying30 h 1 27 1 1 rfl (by kernel_rfl);obtain ⟨_,_,f2⟩:=kf Tryz.underlying30 h 2 9 2 1 rfl (by kernel_rfl);obtain ⟨m,hm,f3⟩:=kf Tryz.underlying30 h 3 28 3 1 rfl (by kernel_rfl);obtain ⟨x0,e0,w0⟩:=yl Tryz.underlying3 f0.rdg;obtain ⟨x1,e1,w1⟩:=yl Tryz.underlying27 f1.rdg;obtain ⟨x2,e2,w2⟩:=Yq Tryz.underlying9 f2.rdg
  match cs,hl with
  | [c0,c1,c2,c3],_=>
    simp at e0 e1 e2;subst e0 e1 e2
    have hz:Tryz.prog.bytesOf 30=56:=by kernel_rfl
    rcases Yi 4 Tryz.underlying28 (by kernel_rfl) f3 with e3|⟨a,len,cap,m',hm',e3,hlc,hby,hel⟩
    · simp at e3;subst e3;exact ⟨.node x0 x1 x2 none 0 0 (fun _=>.nil),rfl,⟨⟨w0,w1,w2,Nat.zero_le _⟩,fun i hi=>absurd hi (Nat.not_lt_zero i)⟩⟩
    · simp at e3;subst e3
      rw [hz] at hby
      have hq:∀ i,i<len→∃ T:VT,CellsAt w (· <w.heap.size) (some a) i T∧ValAt w (· <w.heap.size) T:=by
       intro i hi;obtain ⟨b,off,rfl,hc⟩:=Zv (b':=0) (n:=4) (Q:=fun _ c=>RdgF enc Tryz.prog w m' 30 c) (by omega) (by omega) hel;obtain ⟨c,hcl,hat,hr⟩:=hc i hi;obtain ⟨T,rfl,hT⟩:=jls n m' c (by omega) hcl hr;have h0:=hat 0 (by omega);have h1:=hat 1 (by omega);have h2:=hat 2 (by omega);have h3:=hat 3 (by omega);exact ⟨T,⟨b,off,rfl,zj h0,zj h0,h0,h1,h2,h3⟩,hT⟩
      obtain ⟨L,hL⟩:=skolem hq;exact ⟨.node x0 x1 x2 (some a) len cap L,rfl,⟨⟨w0,w1,w2,by show len≤_;omega⟩,hL⟩⟩
theorem jvb {cs:Array Value} (hl:cs.size=Tryz.prog.cellsOf 30) (h:Rdg enc Tryz.prog w 30 (Value.agg cs).cells.toList):∃ T:VT,Value.agg cs=valV T∧ValAt w (· <w.heap.size) T:=by
 obtain ⟨fuel,d,p,h1,h2⟩:=h
 have hc:Tryz.prog.cellsOf 30=4:=by kernel_rfl
 obtain ⟨T,hT,hv⟩:=jls (enc:=enc) (w:=w) fuel fuel cs.toList (Nat.le_refl _) (by simp;omega) ⟨d,p,by simpa [Value.cells] using h1,h2⟩;refine ⟨T,?_,hv⟩;unfold valV;refine congrArg Value.agg ?_;exact Array.toList_inj.1 (by simpa using hT)
end
end Go.Proofs.YthcompcjphaahaaGreatDoor.Pa
namespace Go.Proofs.YthcompcjphaahaaGreatDoor.Pa
open Go.RowKit
set_option linter.unusedVariables false
theorem jj {w a b:World} (h:Below w.heap.size w a) (k:Below a.heap.size a b):Below w.heap.size w b:=h.trans (k.mono h.size)
theorem jjc (f:Nat→Nat) (j:Nat):sumTo f (j+1)=sumTo f j+f j:=rfl
theorem ze {w:World} {S:Nat→Prop} {T:VT} (H:ValAt w S T) {wx:World} (hb:Below w.heap.size w wx) {i:Nat} (hi:i<T.len):CellsAt wx S T.ia i (T.kid i)∧ValAt wx S (T.kid i):=by
 have h:=((kg T).1 H).2 i hi;exact ⟨h.1.next hb,h.2.next hb⟩
theorem Zr {w:World} {S:Nat→Prop} {T:VT} (H:ValAt w S T):T.len≤2513169434843:=((kg T).1 H).1.2.2.2
theorem jd9 {w:World} {S:Nat→Prop} {T:VT} (H:ValAt w S T):T.text.size≤140737488351232:=((kg T).1 H).1.2.2.1
theorem jw {w w1:World} {b:Nat} {o:Obj} (h:w.heap[b]?=some o) (hb:Below w.heap.size w w1):w1.heap[b]?=some o:=(hb.block b (lt_of_block h)).trans h
theorem jkf {k:IntKind} {a b:Int} (h:a=b):Ending.returned (.int k a)=.returned (.int k b):=by rw [h]
def RGreatTo (T:VT) (w:World):Prop:=Calls Tryz.prog 37 #[.agg #[.int .i64 T.kind,.int .u64 T.num,.string T.text,.slice T.ia T.len T.cap]] w fun e w'=>e=.returned (.int .i64 (greatT T:Nat))∧Below w.heap.size w w'
theorem jr2 (T:VT) {j:Nat} (h:j≤T.len):1+T.text.size+sumTo (fun i=>greatT (T.kid i)) j≤greatT T:=by
 rw [Zn];have:=jhj (f:=fun i=>greatT (T.kid i)) h;omega
theorem jev (S:Nat→Prop):∀ (T:VT) (w:World),ValAt w S T→greatT T≤1000000→RGreatTo T w:=by
 refine VT.ind fun T ih w H hd=>?_;have HI:=lh (fun i (hi:i<T.len) wx (hb:Below w.heap.size w wx)=>ih i hi wx (ze H hb hi).2 (Nat.le_trans (Nat.le_of_lt (jmn hi)) hd));have HC:=lh (fun i (hi:i<T.len) wx (hb:Below w.heap.size w wx)=>(ze H hb hi).1);have hlen:=Zr H;have hts:=jd9 H
 have hml:T.text.size≤maxLen:=by unfold maxLen;omega
 have HD:=lh (Zn T);have HK:=lh (fun i (hi:i≤T.len)=>Nat.le_trans (jr2 T hi) hd);obtain ⟨F,hF⟩:∃ F:Nat→Nat,F=fun i=>greatT (T.kid i):=⟨_,rfl⟩;rw [←hF] at HD HK;have HF:=lh hF;clear ih H hF;unfold RGreatTo;go_enter Tryz.func37,Tryz.ntmps37;go_wp2
 go_loopw [3,4] (fun n i wr=>∃ (j m:Nat),j≤T.len∧i=.int .i64 j∧n=.int .i64 m∧Hid (m=1+T.text.size+sumTo F j)∧m≤1000000∧Hid (wr.heap[w.heap.size]?=some (valO T))∧Hid (Below w.heap.size w wr)) (fun _ i _=>T.len - (intOf i).toNat)
 case atStart=>exact ⟨0,1+T.text.size,Nat.zero_le _,rfl,by go_num,lh rfl,HK.out 0 (Nat.zero_le _),lh (jd w _),lh ((Below.refl _ _).alloc (Nat.le_refl _) _)⟩
 case round=>
  obtain ⟨j,m,hj,rfl,rfl,HM,hm,HQ,HBr⟩:=hrel
  by_cases hlt:j<T.len
  · obtain ⟨b,off,hia,_,_,c0,c1,c2,c3⟩:=HC.out j hlt wr HBr.out
    have d3:wr.cell? ⟨w.heap.size,3,none⟩=some (.slice (some ⟨b,off,none⟩) T.len T.cap):=by rw [←hia];exact ja HQ.out rfl
    have HN:=lh (HI.out j hlt wr HBr.out);have hk:=HK.out (j+1) hlt;obtain ⟨d,hdd⟩:∃ d,greatT (T.kid j)=d:=⟨_,rfl⟩;unfold RGreatTo at HN;rw [hdd] at HN
    have hx:sumTo F (j+1)=sumTo F j+d:=by rw [jjc,HF.out,←hdd]
    have hmd:m+d≤1000000:=by have:=HM.out;omega
    have HX:=lh hx;clear hdd hia hx hk;go_wp2_with (go_at_call 37;refine (HN.out).mono ?_;rintro e w2 ⟨rfl,hb2⟩);have HQ2:=lh (jw HQ.out hb2);have HB2:=lh (HBr.out.trans (hb2.mono HBr.out.size));go_roundw
    case rel=>exact ⟨j+1,m+d,by omega,by go_num,by go_num,lh (by rw [HX.out];have:=HM.out;omega),hmd,HQ2,HB2⟩
    case measure=>simp [intOf];omega
  · obtain rfl:j=T.len:=by omega
    have d3:wr.cell? ⟨w.heap.size,3,none⟩=some (.slice T.ia T.len T.cap):=ja HQ.out rfl;go_wp2;go_ret;exact ⟨jkf (by rw [HD.out,HM.out]),HBr.out⟩
end Go.Proofs.YthcompcjphaahaaGreatDoor.Pa
namespace Go.Proofs.YthcompcjphaahaaGreatDoor.Pa
open Go.RowKit
set_option linter.unusedVariables false
theorem Xi {w a b:World} {N:Nat} (h:Below N w a) (hN:N≤w.heap.size) (k:Below a.heap.size a b):Below N w b:=h.trans (k.mono (Nat.le_trans hN h.size))
theorem jqm {T:VT} {d j:Nat} (hj:j<T.len) (h:muchT (T.kid j) (d+1+T.len / 4)=true):muchT T d=true:=by
 rw [ja5,(q7 T.len).2 ⟨j,hj,h⟩];simp
theorem jpv {T:VT} {d:Nat} (h1:d≤40) (h2:T.len≤300) (h3:T.text.size≤1000) (h4:∀ i,i<T.len→muchT (T.kid i) (d+1+T.len / 4)=false):muchT T d=decide (10000<sumTo (fun i=>greatT (T.kid i)) T.len):=by
 have e:anyTo (fun i=>muchT (T.kid i) (d+1+T.len / 4)) T.len=false:=by
  cases hx:anyTo (fun i=>muchT (T.kid i) (d+1+T.len / 4)) T.len with
  |false=>rfl
  |true=>
   obtain ⟨i,hi,h⟩:=(q7 T.len).1 hx;rw [h4 i hi] at h;cases h
 rw [ja5,e]
 have a1:decide (40<d)=false:=by simp;omega
 have a2:decide (300<T.len)=false:=by simp;omega
 have a3:decide (1000<T.text.size)=false:=by simp;omega
 rw [a1,a2,a3];simp
def RMuchTo (T:VT) (d:Nat) (w:World):Prop:=Calls Tryz.prog 22 #[.agg #[.int .i64 T.kind,.int .u64 T.num,.string T.text,.slice T.ia T.len T.cap],.int .i64 (d:Nat)] w fun e w'=>e=.returned (.bool (muchT T d))∧Below w.heap.size w w'
theorem jhb (T:VT) (d:Nat) (w:World) (hd:d≤1000) (hlen:T.len≤2513169434843) (hts:T.text.size≤140737488351232) (h:40<d∨300<T.len∨1000<T.text.size):RMuchTo T d w:=by
 have hml:T.text.size≤maxLen:=by unfold maxLen;omega
 have e:muchT T d=true:=by
  rw [ja5]
  rcases h with h|h|h <;> simp [h]
 unfold RMuchTo;rw [e];have HB:=lh ((Below.refl w.heap.size w).alloc (Nat.le_refl _) (valO T))
 by_cases h1:40<d
 · have t1:decide ((40:Int)<d)=true:=by simp;omega
   clear h;go_enter Tryz.func22,Tryz.ntmps22;go_wp2;go_ret;exact ⟨rfl,HB.out⟩
 · have t1:decide ((40:Int)<d)=false:=by simp;omega
   by_cases h2:300<T.len
   · have t2:decide ((300:Int)<T.len)=true:=by simp;omega
     clear h;go_enter Tryz.func22,Tryz.ntmps22;go_wp2;go_ret;exact ⟨rfl,HB.out⟩
   · have t2:decide ((300:Int)<T.len)=false:=by simp;omega
     have h3:1000<T.text.size:=by omega
     have t3:decide ((1000:Int)<T.text.size)=true:=by simp;omega
     clear h;go_enter Tryz.func22,Tryz.ntmps22;go_wp2;go_ret;exact ⟨rfl,HB.out⟩
theorem jii (S:Nat→Prop):∀ (T:VT) (d:Nat) (w:World),ValAt w S T→d≤1000→RMuchTo T d w:=by
 refine VT.ind fun T ih d w H hd=>?_
 by_cases hh:40<d∨300<T.len∨1000<T.text.size
 · exact jhb T d w hd (Zr H) (jd9 H) hh
 have h1:d≤40:=by omega
 have h2:T.len≤300:=by omega
 have h3:T.text.size≤1000:=by omega
 have HI:=lh (fun i (hi:i<T.len) wx (hb:Below w.heap.size w wx)=>ih i hi (d+1+T.len / 4) wx (ze H hb hi).2 (by omega));have HG:=lh (fun i (hi:i<T.len) (hm:muchT (T.kid i) (d+1+T.len / 4)=false) wx (hb:Below w.heap.size w wx)=>jev S (T.kid i) wx (ze H hb hi).2 (by have:=(jhc hm).2.2.2.2.2;omega));have HY:=lh (fun j (hj:j<T.len) (h:muchT (T.kid j) (d+1+T.len / 4)=true)=>jqm hj h);have HE:=lh (jpv (T:=T) h1 h2 h3);have HC:=lh (fun i (hi:i<T.len) wx (hb:Below w.heap.size w wx)=>(ze H hb hi).1);have HGL:=lh (fun i (hi:i<T.len) (hm:muchT (T.kid i) (d+1+T.len / 4)=false)=>(jhc hm).2.2.2.2.2)
 have t1:decide ((40:Int)<d)=false:=by simp;omega
 have t2:decide ((300:Int)<T.len)=false:=by simp;omega
 have t3:decide ((1000:Int)<T.text.size)=false:=by simp;omega
 have hml:T.text.size≤maxLen:=by unfold maxLen;omega
 obtain ⟨F,hF⟩:∃ F:Nat→Nat,F=fun i=>greatT (T.kid i):=⟨_,rfl⟩;rw [←hF] at HE;obtain ⟨e1,he1⟩:∃ e,d+1=e:=⟨_,rfl⟩;obtain ⟨e2,he2⟩:∃ e,T.len / 4=e:=⟨_,rfl⟩;obtain ⟨q,hq⟩:∃ q,d+1+T.len / 4=q:=⟨_,rfl⟩
 have hw1:IntKind.i64.wrap ((d:Int)+1)=(e1:Nat):=by rw [IntWalk.i64_in _ (by omega)];omega
 have hw2:IntKind.i64.wrap ((T.len:Int) / 4)=(e2:Nat):=by rw [IntWalk.i64_in _ (by omega)];omega
 have hw3:IntKind.i64.wrap ((e1:Int)+(e2:Int))=(q:Nat):=by rw [IntWalk.i64_in _ (by omega)];omega
 rw [hq] at HI HG HY HE HGL;clear he1 he2 hq;have HF:=lh hF;clear ih H hF hh;unfold RMuchTo;go_enter Tryz.func22,Tryz.ntmps22;go_wp2
 go_loopw [5,6] (fun n i wr=>∃ (j m:Nat),j≤T.len∧i=.int .i64 j∧n=.int .i64 m∧Hid (m=min (sumTo F j) 100000)∧m≤100000∧Hid (∀ i,i<j→muchT (T.kid i) q=false)∧Hid (wr.heap[w.heap.size]?=some (valO T))∧Hid (Below w.heap.size w wr)) (fun _ i _=>T.len - (intOf i).toNat)
 case atStart=>exact ⟨0,0,Nat.zero_le _,rfl,rfl,lh rfl,by omega,lh (fun i hi=>absurd hi (Nat.not_lt_zero i)),lh (jd w _),lh ((Below.refl _ _).alloc (Nat.le_refl _) _)⟩
 case round=>
  obtain ⟨j,m,hj,rfl,rfl,HM,hm,HA,HQ,HBr⟩:=hrel
  by_cases hlt:j<T.len
  · obtain ⟨b,off,hia,_,_,c0,c1,c2,c3⟩:=HC.out j hlt wr HBr.out
    have d3:wr.cell? ⟨w.heap.size,3,none⟩=some (.slice (some ⟨b,off,none⟩) T.len T.cap):=by rw [←hia];exact ja HQ.out rfl
    have HIA:=lh hia;have HN:=lh (HI.out j hlt);clear hia
    cases hbm:muchT (T.kid j) q with
    |true=>
     have HYY:=lh (HY.out j hlt hbm);unfold RMuchTo at HN;rw [hbm] at HN;clear hbm;go_wp2_with fail
     go_region_held3 (fun w'=>w'.cell? ⟨w.heap.size,3,none⟩=some (.slice (some ⟨b,off,none⟩) T.len T.cap)∧w'.cell? ⟨b,off+j*4,none⟩=some (.int .i64 (T.kid j).kind)∧w'.cell? ⟨b,off+j*4+1,none⟩=some (.int .u64 (T.kid j).num)∧w'.cell? ⟨b,off+j*4+2,none⟩=some (.string (T.kid j).text)∧w'.cell? ⟨b,off+j*4+3,none⟩=some (.slice (T.kid j).ia (T.kid j).len (T.kid j).cap))
      (first|exact ⟨d3,c0,c1,c2,c3⟩|exact ⟨x3,x4,x5,x6,x7⟩|fail)
      (first|(go_at_call 22;refine (HN.out _ (by first|exact HBr.out|exact HBr.out.drew)).mono ?_;rintro e w3 ⟨rfl,hb3⟩;have x3:=keep hb3 (by exact d3);have x4:=keep hb3 (by exact c0);have x5:=keep hb3 (by exact c1);have x6:=keep hb3 (by exact c2);have x7:=keep hb3 (by exact c3);have HB3:=lh (Xi (by first|exact HBr.out|exact HBr.out.drew) (Nat.le_refl _) hb3);clear hb3))
     go_wp2;go_ret;exact ⟨kw HYY.out.symm,HB3.out⟩
    |false=>
     have HGG:=lh (HG.out j hlt hbm)
     have HA2:=lh (show ∀ i,i<j+1→muchT (T.kid i) q=false from fun i hi=>by
      rcases Nat.lt_succ_iff_lt_or_eq.1 hi with h|rfl
      · exact HA.out i h
      · exact hbm)
     have hgl:=HGL.out j hlt hbm;unfold RMuchTo at HN;rw [hbm] at HN;clear hbm;obtain ⟨g,hg⟩:∃ g,greatT (T.kid j)=g:=⟨_,rfl⟩;unfold RGreatTo at HGG;rw [hg] at HGG hgl;have HX:=lh (show sumTo F (j+1)=sumTo F j+g by rw [jjc,HF.out,←hg]);clear hg;go_wp2_with fail
     go_region_held3 (fun w'=>w'.cell? ⟨w.heap.size,3,none⟩=some (.slice (some ⟨b,off,none⟩) T.len T.cap)∧w'.cell? ⟨b,off+j*4,none⟩=some (.int .i64 (T.kid j).kind)∧w'.cell? ⟨b,off+j*4+1,none⟩=some (.int .u64 (T.kid j).num)∧w'.cell? ⟨b,off+j*4+2,none⟩=some (.string (T.kid j).text)∧w'.cell? ⟨b,off+j*4+3,none⟩=some (.slice (T.kid j).ia (T.kid j).len (T.kid j).cap))
      (first|exact ⟨d3,c0,c1,c2,c3⟩|exact ⟨x3,x4,x5,x6,x7⟩|fail)
      (first|(go_at_call 22;refine (HN.out _ (by first|exact HBr.out|exact HBr.out.drew)).mono ?_;rintro e w3 ⟨rfl,hb3⟩;have x3:=keep hb3 (by exact d3);have x4:=keep hb3 (by exact c0);have x5:=keep hb3 (by exact c1);have x6:=keep hb3 (by exact c2);have x7:=keep hb3 (by exact c3);have HQ3:=lh (jw (by exact HQ.out) hb3);have HB3:=lh (Xi (by first|exact HBr.out|exact HBr.out.drew) (Nat.le_refl _) hb3);clear hb3))
     clear d3 c0 c1 c2 c3
     by_cases hbig:m+g≤100000
     · have hmm:min ((m:Int)+g) 100000=((m+g:Nat):Int):=by omega
       go_wp2_with (go_at_call 37;refine (HGG.out _ HB3.out).mono ?_;rintro e w4 ⟨rfl,hb4⟩)
       all_goals
        have HQ4:=lh (jw HQ3.out hb4);have HB4:=lh (Xi HB3.out (Nat.le_refl _) hb4);go_roundw
        case rel=>exact ⟨j+1,m+g,by omega,by go_num,by go_num,lh (by rw [HX.out];have:=HM.out;omega),by omega,HA2,HQ4,HB4⟩
        case measure=>simp [intOf];omega
     · have hmm:min ((m:Int)+g) 100000=100000:=by omega
       go_wp2_with (go_at_call 37;refine (HGG.out _ HB3.out).mono ?_;rintro e w4 ⟨rfl,hb4⟩)
       all_goals
        have HQ4:=lh (jw HQ3.out hb4);have HB4:=lh (Xi HB3.out (Nat.le_refl _) hb4);go_roundw
        case rel=>exact ⟨j+1,100000,by omega,by go_num,by go_num,lh (by rw [HX.out];have:=HM.out;omega),by omega,HA2,HQ4,HB4⟩
        case measure=>simp [intOf];omega
  · obtain rfl:j=T.len:=by omega
    have d3:wr.cell? ⟨w.heap.size,3,none⟩=some (.slice T.ia T.len T.cap):=ja HQ.out rfl;go_wp2;go_ret;exact ⟨kw (by rw [HE.out HA.out];have:=HM.out;rw [Bool.eq_iff_iff];simp;omega),HBr.out⟩
end Go.Proofs.YthcompcjphaahaaGreatDoor.Pa
namespace Go.Proofs.YthcompcjphaahaaGreatDoor.Pa
open Go.RowKit
set_option linter.unusedVariables false
end Go.Proofs.YthcompcjphaahaaGreatDoor.Pa
