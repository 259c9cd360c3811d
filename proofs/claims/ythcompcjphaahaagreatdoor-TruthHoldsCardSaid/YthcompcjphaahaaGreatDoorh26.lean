/- Trees, operands, classes of tokens and the parser's tokens, in memory; what the classes tell. -/
import Derived.Deep.AppendLies
import Derived.Laws.OwnMore
import Derived.OwnWalk
import Derived.LoopN
import Derived.Test.YthcompcjphaahaaGreatDoorh00
import Derived.Test.YthcompcjphaahaaGreatDoorh06
import Derived.Test.YthcompcjphaahaaGreatDoorh25
set_option maxRecDepth 100000
set_option maxHeartbeats 8000000
set_option linter.unusedVariables false
namespace Go.Proofs.YthcompcjphaahaaGreatDoor
open Go.RowKit
abbrev opdC (o:Opd):List Value:=[.int .i64 o.kind,.string o.text,.bool o.neg,.int .u64 o.num]
abbrev xtC (T:XT):List Value:=[.int .i64 T.op,.int .i64 T.rel,.slice T.aa T.an T.ac,.slice T.ka T.kn T.kc]
def LiesAt (w:World) (b off:Nat) (cs:List Value):Prop:=∀ r u,cs[r]?=some u→w.cell? ⟨b,off+r,none⟩=some u
theorem Xa {w w':World} {a:Addr} (h:w'.heap[a.block]?=w.heap[a.block]?):w'.cell? a=w.cell? a:=by
 unfold World.cell?;rw [h]
theorem LiesAt.held {w w':World} {b off:Nat} {cs:List Value} (h:LiesAt w b off cs) (hb:w'.heap[b]?=w.heap[b]?):LiesAt w' b off cs:=
 fun r u hu=>(Xa (a:=⟨b,off+r,none⟩) hb).trans (h r u hu)
def CellsAt (w:World) (S:Nat→Prop) (ao:Option Addr) (i:Nat) (cs:List Value):Prop:=
 ∃ b off,ao=some ⟨b,off,none⟩∧S b∧b<w.heap.size∧LiesAt w b (off+i*4) cs
def XWf (T:XT):Prop:=T.an≤3518437208780∧T.kn≤2513169434843
def XAt (w:World) (S:Nat→Prop):XT→Prop
 |.nil=>True
 |.node o r a n c g b m d f=>XWf (.node o r a n c g b m d f)∧(∀ i,i<n→CellsAt w S a i (opdC (g i)))∧∀ i,i<m→CellsAt w S b i (xtC (f i))∧XAt w S (f i)
theorem jtn:XWf .nil:=⟨Nat.zero_le _,Nat.zero_le _⟩
theorem ym {w:World} {S:Nat→Prop} (T:XT):XAt w S T↔XWf T∧(∀ i,i<T.an→CellsAt w S T.aa i (opdC (T.arg i)))∧∀ i,i<T.kn→CellsAt w S T.ka i (xtC (T.kid i))∧XAt w S (T.kid i):=by
 cases T with
 |nil=>exact ⟨fun _=>⟨jtn,fun i hi=>absurd hi (Nat.not_lt_zero i),fun i hi=>absurd hi (Nat.not_lt_zero i)⟩,fun _=>trivial⟩
 |node=>exact Iff.rfl
theorem CellsAt.held {w w':World} {S S':Nat→Prop} {ao:Option Addr} {i:Nat} {cs:List Value} (h:CellsAt w S ao i cs) (hS:∀ b,S b→b<w.heap.size→S' b) (hn:w.heap.size≤w'.heap.size) (hw:∀ b,S b→b<w.heap.size→w'.heap[b]?=w.heap[b]?):CellsAt w' S' ao i cs:=by
 obtain ⟨b,off,e,hs,hl,h0⟩:=h;exact ⟨b,off,e,hS b hs hl,by omega,h0.held (hw b hs hl)⟩
theorem XAt.held_of {w w':World} {S S':Nat→Prop} (hS:∀ b,S b→b<w.heap.size→S' b) (hn:w.heap.size≤w'.heap.size) (hw:∀ b,S b→b<w.heap.size→w'.heap[b]?=w.heap[b]?):∀ T:XT,XAt w S T→XAt w' S' T:=by
 refine XT.ind fun T ih h=>?_;obtain ⟨h1,h2,h3⟩:=(ym T).1 h;exact (ym T).2 ⟨h1,fun i hi=>(h2 i hi).held hS hn hw,fun i hi=>⟨(h3 i hi).1.held hS hn hw,ih i hi (h3 i hi).2⟩⟩
theorem XAt.next {w w':World} {S:Nat→Prop} {T:XT} (h:XAt w S T) (hb:Below w.heap.size w w'):XAt w' S T:=
 XAt.held_of (fun _ s _=>s) hb.size (fun b _ hl=>hb.block b hl) T h
theorem CellsAt.next {w w':World} {S:Nat→Prop} {ao:Option Addr} {i:Nat} {cs:List Value} (h:CellsAt w S ao i cs) (hb:Below w.heap.size w w'):CellsAt w' S ao i cs:=
 h.held (fun _ s _=>s) hb.size (fun b _ hl=>hb.block b hl)
theorem XAt.only {w w':World} {S K:Nat→Prop} {T:XT} (h:XAt w S T) (ho:Only K w w') (hK:∀ b,S b→b<w.heap.size→¬K b):XAt w' S T:=
 XAt.held_of (fun _ s _=>s) ho.size (fun b s hl=>ho.block b hl (hK b s hl)) T h
theorem CellsAt.only {w w':World} {S K:Nat→Prop} {ao:Option Addr} {i:Nat} {cs:List Value} (h:CellsAt w S ao i cs) (ho:Only K w w') (hK:∀ b,S b→b<w.heap.size→¬K b):CellsAt w' S ao i cs:=
 h.held (fun _ s _=>s) ho.size (fun b s hl=>ho.block b hl (hK b s hl))
theorem XAt.sub {w:World} {S S':Nat→Prop} {T:XT} (h:XAt w S T) (hS:∀ b,S b→b<w.heap.size→S' b):XAt w S' T:=
 XAt.held_of hS (Nat.le_refl _) (fun _ _ _=>rfl) T h
theorem jt0 {w:World} {S:Nat→Prop} {T:XT} (h:XAt w S T):T.an≤3518437208780:=((ym T).1 h).1.1
theorem jjk {w:World} {S:Nat→Prop} {T:XT} (h:XAt w S T):T.kn≤2513169434843:=((ym T).1 h).1.2
abbrev tkA (t:Tk):Value:=.agg #[.int .i64 (t.k:Nat),.string (bs t.t),.int .u64 (t.n:Nat),.int .i64 (t.a:Nat)]
abbrev tkCs (t:Tk):List Value:=[.int .i64 (t.k:Nat),.string (bs t.t),.int .u64 (t.n:Nat),.int .i64 (t.a:Nat)]
def TksAt (w:World) (tb off:Nat) (l:List Tk):Prop:=∀ i,i<l.length→LiesAt w tb (off+i*4) (tkCs (l.getD i tk0))
theorem TksAt.held {w w':World} {tb off:Nat} {l:List Tk} (h:TksAt w tb off l) (hb:w'.heap[tb]?=w.heap[tb]?):TksAt w' tb off l:=fun i hi=>(h i hi).held hb
theorem TksAt.tail {w:World} {tb off:Nat} {l:List Tk} (h:TksAt w tb off l):TksAt w tb (off+4) l.tail:=by
 intro i hi
 cases l with
 |nil=>simp at hi
 |cons c r=>
  have:=h (i+1) (by simpa using hi)
  rw [show off+(i+1)*4=off+4+i*4 by omega] at this;exact this
theorem TksAt.head {w:World} {tb off:Nat} {l:List Tk} (h:TksAt w tb off l) (hl:0<l.length):LiesAt w tb off (tkCs (hd l)):=by
 have:=h 0 hl
 rw [Nat.zero_mul,Nat.add_zero] at this
 cases l with
 |nil=>simp at hl
 |cons c r=>exact this
structure PAt (w:World) (bp tb:Nat) (l:List Tk):Prop where
 ne:tb≠bp
 lt:tb<w.heap.size
 box:∃ off cap,w.heap[bp]?=some (.cells #[.slice (some ⟨tb,off,none⟩) l.length cap] 90)∧l.length≤cap∧TksAt w tb off l
theorem PAt.only {w w':World} {bp tb:Nat} {l:List Tk} {K:Nat→Prop} (h:PAt w bp tb l) (ho:Only K w w') (h1:¬K bp) (h2:¬K tb):PAt w' bp tb l:=by
 obtain ⟨hne,hlt,off,cap,hb,hc,ht⟩:=h;exact ⟨hne,by have:=ho.size;omega,off,cap,ho.same hb h1,hc,ht.held (ho.block tb hlt h2)⟩
theorem PAt.next {w w':World} {bp tb:Nat} {l:List Tk} (h:PAt w bp tb l) (hb:Below w.heap.size w w'):PAt w' bp tb l:=
 h.only (Only.of_below (S:=fun _=>False) hb) (fun f=>f) (fun f=>f)
theorem PAt.blt {w:World} {bp tb:Nat} {l:List Tk} (h:PAt w bp tb l):bp<w.heap.size:=by
 obtain ⟨_,_,off,cap,hb,_⟩:=h;exact lt_of_block hb
def ClAt (w:World):Cl→Value→Prop
 |.kd n,v=>∃ b,v=.func (.func 85) #[] #[.pointer (some ⟨b,0,none⟩)]∧w.heap[b]?=some (.cells #[.int .i64 (n:Nat)] 3)
 |.wd s,v=>∃ b,v=.func (.func 155) #[] #[.pointer (some ⟨b,0,none⟩)]∧w.heap[b]?=some (.cells #[.string (bs s)] 9)
 |.sg s,v=>∃ b,v=.func (.func 156) #[] #[.pointer (some ⟨b,0,none⟩)]∧w.heap[b]?=some (.cells #[.string (bs s)] 9)
 |.nm,v=>v=.func (.func 216) #[] #[]
 |.rl,v=>v=.func (.func 161) #[] #[]
theorem ClAt.only {w w':World} {c:Cl} {v:Value} {p:Nat} (h:ClAt w c v) (ho:Only (fun k=>k=p) w w') (hp:∀ o,w.heap[p]?=some o→∃ cs t,o=.cells cs t∧t≠3∧t≠9∧t≠95):ClAt w' c v:=by
 have key:∀ {b:Nat} {cs:Array Value} {t:TypeId},t=3∨t=9→w.heap[b]?=some (.cells cs t)→w'.heap[b]?=some (.cells cs t):=by
  intro b cs t ht hb;refine ho.same hb (fun e=>?_);subst e;obtain ⟨cs',t',e2,n1,n2,_⟩:=hp _ hb
  injection e2 with _ e3 _
  rcases ht with rfl|rfl
  · exact n1 e3.symm
  · exact n2 e3.symm
 cases c with
 |kd n=>obtain ⟨b,e,hb⟩:=h;exact ⟨b,e,key (.inl rfl) hb⟩
 |wd s=>obtain ⟨b,e,hb⟩:=h;exact ⟨b,e,key (.inr rfl) hb⟩
 |sg s=>obtain ⟨b,e,hb⟩:=h;exact ⟨b,e,key (.inr rfl) hb⟩
 |nm=>exact h
 |rl=>exact h
theorem PAt.kind {w:World} {bp tb:Nat} {l:List Tk} (h:PAt w bp tb l):∀ o,w.heap[bp]?=some o→∃ cs t,o=.cells cs t∧t≠3∧t≠9∧t≠95:=by
 obtain ⟨_,_,off,cap,hb,_⟩:=h;intro o ho;rw [hb] at ho;exact ⟨_,_,(Option.some.inj ho).symm,by decide,by decide,by decide⟩
theorem ClAt.next {w w':World} {c:Cl} {v:Value} (h:ClAt w c v) (hb:Below w.heap.size w w'):ClAt w' c v:=by
 cases c with
 |kd n=>obtain ⟨b,e,h⟩:=h;exact ⟨b,e,rowKeep hb h⟩
 |wd s=>obtain ⟨b,e,h⟩:=h;exact ⟨b,e,rowKeep hb h⟩
 |sg s=>obtain ⟨b,e,h⟩:=h;exact ⟨b,e,rowKeep hb h⟩
 |nm=>exact h
 |rl=>exact h
def Enters (g:Nat):Prop:=∀ args w,(callFunc g args).run Tryz.prog w=.ok (.enter g args) w
theorem jak {a b:Bool} (h:a=b):Ending.returned (.bool a)=.returned (.bool b):=by rw [h]
theorem jt4 (a b:List UInt8):((bs a).toList==(bs b).toList)=(a==b):=by rw [ByteArray.toList_eq,ByteArray.toList_eq];simp [bs]
theorem Zj (a:List UInt8) (b:List UInt8):((bs a).toList==b)=(a==b):=by rw [ByteArray.toList_eq];simp [bs]
theorem jnb (t:Tk) (n b:Nat) (w:World) (hb:w.heap[b]?=some (.cells #[.int .i64 (n:Nat)] 3)):
  Calls Tryz.prog 85 #[tkA t,.pointer (some ⟨b,0,none⟩)] w fun e w'=>e=.returned (.bool ((Cl.kd n).test t))∧Below w.heap.size w w':=by
 have c0:w.cell? ⟨b,0,none⟩=some (.int .i64 (n:Nat)):=ja hb rfl;have hlt:b<w.heap.size:=lt_of_block hb
 have hne:¬b=w.heap.size:=by omega
 have he:(((t.k:Nat):Int)==((n:Nat):Int))=(Cl.kd n).test t:=by
  show _=(t.k==n)
  rw [Bool.eq_iff_iff];simp;omega
 obtain ⟨q,hq⟩:∃ q,(Cl.kd n).test t=q:=⟨_,rfl⟩;rw [hq] at he ⊢;clear hq hb;go_enter Tryz.func85,Tryz.ntmps85;go_wp2;go_ret;exact ⟨jak (by first|rfl|exact he|simp [*]),(Below.refl _ _).alloc (Nat.le_refl _) _⟩
theorem jno (t:Tk) (s:List UInt8) (b:Nat) (w:World) (hb:w.heap[b]?=some (.cells #[.string (bs s)] 9)):
  Calls Tryz.prog 155 #[tkA t,.pointer (some ⟨b,0,none⟩)] w fun e w'=>e=.returned (.bool ((Cl.wd s).test t))∧Below w.heap.size w w':=by
 have c0:w.cell? ⟨b,0,none⟩=some (.string (bs s)):=ja hb rfl;have hlt:b<w.heap.size:=lt_of_block hb
 have hne:¬b=w.heap.size:=by omega
 have he:=jt4 t.t s
 have hk:(((t.k:Nat):Int)==1)=(t.k==1):=by rw [Bool.eq_iff_iff];simp;omega
 have hT:(Cl.wd s).test t=(t.k==1&&t.t==s):=rfl;rw [hT];obtain ⟨p,hp⟩:∃ p,(t.k==1)=p:=⟨_,rfl⟩;obtain ⟨q,hq⟩:∃ q,(t.t==s)=q:=⟨_,rfl⟩;rw [hp] at hk ⊢;rw [hq] at he ⊢;clear hp hq hT hb
 cases p
 all_goals
  go_enter Tryz.func155,Tryz.ntmps155;go_wp2;go_ret;exact ⟨jak (by first|rfl|exact he|simp [*]),(Below.refl _ _).alloc (Nat.le_refl _) _⟩
theorem jn5 (t:Tk) (s:List UInt8) (b:Nat) (w:World) (hb:w.heap[b]?=some (.cells #[.string (bs s)] 9)):
  Calls Tryz.prog 156 #[tkA t,.pointer (some ⟨b,0,none⟩)] w fun e w'=>e=.returned (.bool ((Cl.sg s).test t))∧Below w.heap.size w w':=by
 have c0:w.cell? ⟨b,0,none⟩=some (.string (bs s)):=ja hb rfl;have hlt:b<w.heap.size:=lt_of_block hb
 have hne:¬b=w.heap.size:=by omega
 have he:=jt4 t.t s
 have hk:(((t.k:Nat):Int)==5)=(t.k==5):=by rw [Bool.eq_iff_iff];simp;omega
 have hT:(Cl.sg s).test t=(t.k==5&&t.t==s):=rfl;rw [hT];obtain ⟨p,hp⟩:∃ p,(t.k==5)=p:=⟨_,rfl⟩;obtain ⟨q,hq⟩:∃ q,(t.t==s)=q:=⟨_,rfl⟩;rw [hp] at hk ⊢;rw [hq] at he ⊢;clear hp hq hT hb
 cases p
 all_goals
  go_enter Tryz.func156,Tryz.ntmps156;go_wp2;go_ret;exact ⟨jak (by first|rfl|exact he|simp [*]),(Below.refl _ _).alloc (Nat.le_refl _) _⟩
def maxTo (f:Nat→Nat):Nat→Nat|0=>0|n+1=>max (maxTo f n) (f n)
def anyTo (f:Nat→Bool):Nat→Bool|0=>false|n+1=>anyTo f n||f n
theorem jqs {f:Nat→Nat} {m:Nat}:∀ n,(∀ i,i<n→f i≤m)→maxTo f n≤m
 |0,_=>Nat.zero_le _
 |n+1,h=>by have:=jqs n (fun i hi=>h i (by omega));have:=h n (by omega);rw [maxTo];omega
theorem q7 {f:Nat→Bool}:∀ n,anyTo f n=true↔∃ i,i<n∧f i=true
 |0=>by simp [anyTo]
 |n+1=>by
  rw [anyTo,Bool.or_eq_true,q7 n]
  constructor
  · rintro (⟨i,hi,h⟩|h)
    · exact ⟨i,by omega,h⟩
    · exact ⟨n,by omega,h⟩
  · rintro ⟨i,hi,h⟩
    rcases Nat.lt_succ_iff_lt_or_eq.1 hi with h' |rfl
    · exact .inl ⟨i,h',h⟩
    · exact .inr h
theorem Xf {f:Nat→Bool} {n:Nat} (h:anyTo f n=false) (i:Nat) (hi:i<n):f i=false:=by
 cases hx:f i with
 |false=>rfl
 |true=>rw [(q7 n).2 ⟨i,hi,hx⟩] at h;cases h
theorem jc4 {f:Nat→Bool}:∀ {n:Nat},(∀ i,i<n→f i=false)→anyTo f n=false
 |0,_=>rfl
 |n+1,h=>by rw [anyTo,jc4 (fun i hi=>h i (by omega)),h n (by omega)];rfl
def deepX:XT→Nat
 |.nil=>1
 |.node _ _ _ _ _ _ _ m _ f=>1+maxTo (fun i=>deepX (f i)) m
def sumW (a:Int) (f:Nat→Int):Nat→Int|0=>a|n+1=>wrap64 (sumW a f n+f n)
def sizeX:XT→Int
 |.nil=>1
 |.node _ _ _ n _ _ _ m _ f=>sumW (1+(n:Int)) (fun i=>sizeX (f i)) m
theorem jjb (T:XT):sizeX T=sumW (1+(T.an:Int)) (fun i=>sizeX (T.kid i)) T.kn:=by cases T <;> rfl
def minA (f:Nat→Nat):Nat→Nat|0=>0|n+1=>min (minA f n+f n) 100000
theorem jlw (f:Nat→Nat):∀ n,minA f n≤100000
 |0=>Nat.zero_le _
 |n+1=>Nat.min_le_right _ _
def minK (a:Int) (f:Nat→Int):Nat→Int|0=>a|n+1=>min (wrap64 (minK a f n+f n)) 100000
def greatX:XT→Nat→Bool
 |.nil,d=>decide (40<d)
 |.node _ _ _ n _ g _ m _ f,d=>decide (40<d)||decide (100<m)||decide (100<n)||anyTo (fun i=>greatX (f i) (d+1)) m||decide ((3000:Int)<minK (minA (fun i=>(g i).text.size) n:Nat) (fun i=>sizeX (f i)) m)
theorem Zl (T:XT) (d:Nat):greatX T d=(decide (40<d)||decide (100<T.kn)||decide (100<T.an)||anyTo (fun i=>greatX (T.kid i) (d+1)) T.kn||decide ((3000:Int)<minK (minA (fun i=>(T.arg i).text.size) T.an:Nat) (fun i=>sizeX (T.kid i)) T.kn)):=by
 cases T with
 |nil=>simp [greatX,XT.kn,XT.an,anyTo,minK,minA]
 |node=>rfl
def OpX (o:Opd):Prop:=o.text.size≤140737488351232∧0≤o.num∧o.num<18446744073709551616
def XTx:XT→Prop
 |.nil=>True
 |.node _ _ _ n _ g _ m _ f=>(∀ i,i<n→OpX (g i))∧∀ i,i<m→XTx (f i)
theorem jam (T:XT):XTx T↔(∀ i,i<T.an→OpX (T.arg i))∧∀ i,i<T.kn→XTx (T.kid i):=by
 cases T with
 |nil=>exact ⟨fun _=>⟨fun i hi=>absurd hi (Nat.not_lt_zero i),fun i hi=>absurd hi (Nat.not_lt_zero i)⟩,fun _=>trivial⟩
 |node=>exact Iff.rfl
theorem jkf {k:IntKind} {a b:Int} (h:a=b):Ending.returned (.int k a)=.returned (.int k b):=by rw [h]
theorem bth {w a b:World} (h:Below w.heap.size w a) (k:Below a.heap.size a b):Below w.heap.size w b:=h.trans (k.mono h.size)
theorem Ye {w:World} {S:Nat→Prop} {T:XT} (H:XAt w S T) {wx:World} (hb:Below w.heap.size w wx) {i:Nat} (hi:i<T.kn):CellsAt wx S T.ka i (xtC (T.kid i))∧XAt wx S (T.kid i):=by
 have h:=((ym T).1 H).2.2 i hi;exact ⟨h.1.next hb,h.2.next hb⟩
def RSizeTo (T:XT) (w:World):Prop:=Calls Tryz.prog 36 #[.agg #[.int .i64 T.op,.int .i64 T.rel,.slice T.aa T.an T.ac,.slice T.ka T.kn T.kc]] w fun e w'=>e=.returned (.int .i64 (sizeX T))∧Below w.heap.size w w'
theorem yx (S:Nat→Prop):∀ (T:XT) (w:World),XAt w S T→RSizeTo T w:=by
 refine XT.ind fun T ih w H=>?_;have HC:=lh (fun i (hi:i<T.kn) wx (hb:Below w.heap.size w wx)=>(Ye H hb hi).1);have hlen:=jjk H;have hlan:=jt0 H;have HI:=lh (fun i (hi:i<T.kn) wx (hb:Below w.heap.size w wx)=>ih i hi wx (Ye H hb hi).2);have HD:=lh (jjb T);obtain ⟨F,hF⟩:∃ F:Nat→Int,F=fun i=>sizeX (T.kid i):=⟨_,rfl⟩;have HF:=lh hF;clear ih H hF;unfold RSizeTo;go_enter Tryz.func36,Tryz.ntmps36;go_wp2
 go_loopw [3,4] (fun n i wr=>∃ (j:Nat) (m:Int),j≤T.kn∧i=.int .i64 j∧n=.int .i64 m∧Hid (m=sumW (1+(T.an:Int)) F j)∧Hid (Below w.heap.size w wr)∧Hid (wr.heap[w.heap.size]?=some (.cells #[.int .i64 T.op,.int .i64 T.rel,.slice T.aa T.an T.ac,.slice T.ka T.kn T.kc] 26))) (fun _ i _=>T.kn - (intOf i).toNat)
 case atStart=>exact ⟨0,1+(T.an:Int),Nat.zero_le _,rfl,by go_num,lh rfl,lh ((Below.refl _ _).alloc (Nat.le_refl _) _),lh (jd w _)⟩
 case round=>
  obtain ⟨j,m,hj,rfl,rfl,HM,HBr,HQ⟩:=hrel
  by_cases hlt:j<T.kn
  · obtain ⟨b,off,hia,_,hbl,hla⟩:=HC.out j hlt wr HBr.out
    have d3:wr.cell? ⟨w.heap.size,3,none⟩=some (.slice (some ⟨b,off,none⟩) T.kn T.kc):=by rw [←hia];exact ja HQ.out rfl
    have c0:wr.cell? ⟨b,off+j*4,none⟩=some (.int .i64 (T.kid j).op):=hla 0 _ rfl;have c1:wr.cell? ⟨b,off+j*4+1,none⟩=some (.int .i64 (T.kid j).rel):=hla 1 _ rfl;have c2:wr.cell? ⟨b,off+j*4+2,none⟩=some (.slice (T.kid j).aa (T.kid j).an (T.kid j).ac):=hla 2 _ rfl;have c3:wr.cell? ⟨b,off+j*4+3,none⟩=some (.slice (T.kid j).ka (T.kid j).kn (T.kid j).kc):=hla 3 _ rfl;have HN:=lh (HI.out j hlt);obtain ⟨d,hdd⟩:∃ d,sizeX (T.kid j)=d:=⟨_,rfl⟩;unfold RSizeTo at HN;rw [hdd] at HN;have HX:=lh (show sumW (1+(T.an:Int)) F (j+1)=wrap64 (sumW (1+(T.an:Int)) F j+d) by rw [←hdd,HF.out];rfl);have HW:=HBr;clear hdd hla hia;go_wp2_with (go_at_call 36;refine (HN.out _ HW.out).mono ?_;rintro e w2 ⟨rfl,hb2⟩;have HQ2:=lh (rowKeep hb2 HQ.out));have HB2:=lh (bth HW.out hb2);go_roundw
    case rel=>exact ⟨j+1,wrap64 (m+d),by omega,by go_num,rfl,lh (by rw [HX.out,HM.out]),HB2,HQ2⟩
    case measure=>simp [intOf];omega
  · obtain rfl:j=T.kn:=by omega
    have d3:wr.cell? ⟨w.heap.size,3,none⟩=some (.slice T.ka T.kn T.kc):=ja HQ.out rfl;go_wp2;go_ret;exact ⟨jkf (by rw [HD.out,HM.out,HF.out]),HBr.out⟩
def RelTo (t:Tk) (w:World):Prop:=Calls Tryz.prog 160 #[tkA t] w fun e w'=>e=.returned (.int .i64 (relT t:Nat))∧Below w.heap.size w w'
theorem jai (t:Tk) (w:World):RelTo t w:=by
 unfold RelTo
 by_cases hk:t.k=5
 · have hR:relT t=relN t.t:=if_pos hk;rw [hR];have e1:=Zj t.t [61];have e2:=Zj t.t [60,62];have e3:=Zj t.t [60];have e4:=Zj t.t [60,61];have e5:=Zj t.t [62];have e6:=Zj t.t [62,61];unfold relN;obtain ⟨q1,h1⟩:∃ q,(t.t==[61])=q:=⟨_,rfl⟩;obtain ⟨q2,h2⟩:∃ q,(t.t==[60,62])=q:=⟨_,rfl⟩;obtain ⟨q3,h3⟩:∃ q,(t.t==[60])=q:=⟨_,rfl⟩;obtain ⟨q4,h4⟩:∃ q,(t.t==[60,61])=q:=⟨_,rfl⟩;obtain ⟨q5,h5⟩:∃ q,(t.t==[62])=q:=⟨_,rfl⟩;obtain ⟨q6,h6⟩:∃ q,(t.t==[62,61])=q:=⟨_,rfl⟩;rw [h1] at e1 ⊢;rw [h2] at e2 ⊢;rw [h3] at e3 ⊢;rw [h4] at e4 ⊢;rw [h5] at e5 ⊢;rw [h6] at e6 ⊢
   have k5:(((t.k:Nat):Int) !=5)=false:=by rw [hk];rfl
   clear h1 h2 h3 h4 h5 h6 hk hR
   cases q1
   · cases q2
     · cases q3
       · cases q4
         · cases q5
           · cases q6
             all_goals
              go_enter Tryz.func160,Tryz.ntmps160;go_wp2;go_ret;exact ⟨rfl,(Below.refl _ _).alloc (Nat.le_refl _) _⟩
           · go_enter Tryz.func160,Tryz.ntmps160;go_wp2;go_ret;exact ⟨rfl,(Below.refl _ _).alloc (Nat.le_refl _) _⟩
         · go_enter Tryz.func160,Tryz.ntmps160;go_wp2;go_ret;exact ⟨rfl,(Below.refl _ _).alloc (Nat.le_refl _) _⟩
       · go_enter Tryz.func160,Tryz.ntmps160;go_wp2;go_ret;exact ⟨rfl,(Below.refl _ _).alloc (Nat.le_refl _) _⟩
     · go_enter Tryz.func160,Tryz.ntmps160;go_wp2;go_ret;exact ⟨rfl,(Below.refl _ _).alloc (Nat.le_refl _) _⟩
   · go_enter Tryz.func160,Tryz.ntmps160;go_wp2;go_ret;exact ⟨rfl,(Below.refl _ _).alloc (Nat.le_refl _) _⟩
 · have hR:relT t=0:=if_neg hk;rw [hR]
   have k5:(((t.k:Nat):Int) !=5)=true:=by simp;omega
   clear hR hk;go_enter Tryz.func160,Tryz.ntmps160;go_wp2;go_ret;exact ⟨rfl,(Below.refl _ _).alloc (Nat.le_refl _) _⟩
theorem jo7 (t:Tk) (w:World):Calls Tryz.prog 161 #[tkA t] w fun e w'=>e=.returned (.bool (Cl.rl.test t))∧Below w.heap.size w w':=by
 have HR:=lh (fun wx=>jai t wx);have hT:Cl.rl.test t=!(relT t==0):=rfl;rw [hT];unfold RelTo at HR;obtain ⟨r,hr⟩:∃ r,relT t=r:=⟨_,rfl⟩;rw [hr] at HR ⊢
 have he:(((r:Nat):Int) !=0)=!(r==0):=by rw [Bool.eq_iff_iff];simp
 obtain ⟨q,hq⟩:∃ q,(!(r==0))=q:=⟨_,rfl⟩;rw [hq] at he ⊢;clear hq hr hT;have HB0:=lh (show Below w.heap.size w (w.alloc (.cells #[.int .i64 (t.k:Nat),.string (bs t.t),.int .u64 (t.n:Nat),.int .i64 (t.a:Nat)] 98)) from (Below.refl _ _).alloc (Nat.le_refl _) _);go_enter Tryz.func161,Tryz.ntmps161;go_wp2_with (go_at_call 160;refine (HR.out _).mono ?_;rintro e w1 ⟨rfl,hb1⟩;have HB1:=lh hb1;clear hb1);go_ret;exact ⟨jak (by first|rfl|exact he|simp [*]),HB0.out.trans (HB1.out.mono HB0.out.size)⟩
theorem jlh (t:Tk) (ht:t.t.length≤1000) (w:World):Calls Tryz.prog 216 #[tkA t] w fun e w'=>e=.returned (.bool (Cl.nm.test t))∧Below w.heap.size w w':=by
 have HW:=lh (fun wx=>jjo (bs t.t) (by rw [jy];omega) wx);have hwS:wordS (bs t.t)=wordsL.contains t.t:=rfl;rw [hwS] at HW;have hT:Cl.nm.test t=(t.k==1&&!wordsL.contains t.t):=rfl;rw [hT]
 have hk:(((t.k:Nat):Int)==1)=(t.k==1):=by rw [Bool.eq_iff_iff];simp;omega
 obtain ⟨p,hp⟩:∃ p,(t.k==1)=p:=⟨_,rfl⟩;obtain ⟨q,hq⟩:∃ q,wordsL.contains t.t=q:=⟨_,rfl⟩;rw [hp] at hk ⊢;rw [hq] at HW ⊢;clear hp hq hT hwS ht;have HB0:=lh (show Below w.heap.size w (w.alloc (.cells #[.int .i64 (t.k:Nat),.string (bs t.t),.int .u64 (t.n:Nat),.int .i64 (t.a:Nat)] 98)) from (Below.refl _ _).alloc (Nat.le_refl _) _)
 cases p
 · go_enter Tryz.func216,Tryz.ntmps216;go_wp2;go_ret;exact ⟨rfl,HB0.out⟩
 · go_enter Tryz.func216,Tryz.ntmps216;go_wp2_with (go_at_call 246;refine (HW.out _).mono ?_;rintro e w1 ⟨rfl,hb1⟩;have HB1:=lh (HB0.out.trans (hb1.mono HB0.out.size));clear hb1);go_ret;exact ⟨jak (by cases q <;> rfl),HB1.out⟩
theorem eKind:Enters 85:=enters_of Tryz.func85 (by kernel_rfl) rfl
theorem eWord:Enters 155:=enters_of Tryz.func155 (by kernel_rfl) rfl
theorem eSign:Enters 156:=enters_of Tryz.func156 (by kernel_rfl) rfl
theorem eName:Enters 216:=enters_of Tryz.func216 (by kernel_rfl) rfl
theorem eRel:Enters 161:=enters_of Tryz.func161 (by kernel_rfl) rfl
theorem jq7 {w:World} {c:Cl} {v:Value} (h:ClAt w c v):∃ (g:Nat) (lb:Array Value),v=.func (.func g) #[] lb∧Enters g∧∀ (t:Tk),t.t.length≤1000→Calls Tryz.prog g (#[tkA t]++lb) w fun e w'=>e=.returned (.bool (c.test t))∧Below w.heap.size w w':=by
 cases c with
 |kd n=>obtain ⟨b,e,hb⟩:=h;exact ⟨_,_,e,eKind,fun t _=>jnb t n b w hb⟩
 |wd s=>obtain ⟨b,e,hb⟩:=h;exact ⟨_,_,e,eWord,fun t _=>jno t s b w hb⟩
 |sg s=>obtain ⟨b,e,hb⟩:=h;exact ⟨_,_,e,eSign,fun t _=>jn5 t s b w hb⟩
 |nm=>exact ⟨_,_,h,eName,fun t ht=>jlh t ht w⟩
 |rl=>exact ⟨_,_,h,eRel,fun t _=>jo7 t w⟩
theorem hmf (fn:Fn) (first cap:Array Value) (w:World):(Instr.makeFunc fn first cap).run Tryz.prog w=.ok (.func fn first cap) w:=rfl
theorem jv (n:Nat) (w:World):Calls Tryz.prog 45 #[.int .i64 (n:Nat)] w fun e w'=>∃ g lb,e=.returned (.func (.func g) #[] lb)∧ClAt w' (.kd n) (.func (.func g) #[] lb)∧Below w.heap.size w w':=by
 have hmf':=hmf;go_enter Tryz.func45,Tryz.ntmps45;go_wp2;go_ret;exact ⟨_,_,rfl,⟨_,rfl,jd w _⟩,(Below.refl _ _).alloc (Nat.le_refl _) _⟩
theorem jh (s:List UInt8) (X:ByteArray) (hX:X=bs s) (w:World):Calls Tryz.prog 116 #[.string X] w fun e w'=>∃ g lb,e=.returned (.func (.func g) #[] lb)∧ClAt w' (.wd s) (.func (.func g) #[] lb)∧Below w.heap.size w w':=by
 subst hX;have hmf':=hmf;go_enter Tryz.func116,Tryz.ntmps116;go_wp2;go_ret;exact ⟨_,_,rfl,⟨_,rfl,jd w _⟩,(Below.refl _ _).alloc (Nat.le_refl _) _⟩
theorem jm (s:List UInt8) (X:ByteArray) (hX:X=bs s) (w:World):Calls Tryz.prog 117 #[.string X] w fun e w'=>∃ g lb,e=.returned (.func (.func g) #[] lb)∧ClAt w' (.sg s) (.func (.func g) #[] lb)∧Below w.heap.size w w':=by
 subst hX;have hmf':=hmf;go_enter Tryz.func117,Tryz.ntmps117;go_wp2;go_ret;exact ⟨_,_,rfl,⟨_,rfl,jd w _⟩,(Below.refl _ _).alloc (Nat.le_refl _) _⟩
def Short (l:List Tk):Prop:=∀ t∈l,t.t.length≤256
theorem Short.hd {l:List Tk} (h:Short l):(hd l).t.length≤256:=by
 cases l with
 |nil=>show ([]:List UInt8).length≤256;simp
 |cons c r=>exact h c (by simp)
theorem Short.tail {l:List Tk} (h:Short l):Short l.tail:=fun t ht=>h t (List.mem_of_mem_tail ht)
theorem kq (bp tb:Nat) (l:List Tk) (c:Cl) (v:Value) (w:World) (hp:PAt w bp tb l) (hc:ClAt w c v) (h0:0<l.length) (h99:l.length≤99) (hs:(hd l).t.length≤256):
  Calls Tryz.prog 44 #[.pointer (some ⟨bp,0,none⟩),v] w fun e w'=>e=.returned (.bool (c.test (hd l)))∧Below w.heap.size w w':=by
 obtain ⟨g,lb,rfl,eg,hcall⟩:=jq7 hc;obtain ⟨_,_,off,cap,hb,hcap,ht⟩:=hp;have p0:w.cell? ⟨bp,0,none⟩=some (.slice (some ⟨tb,off,none⟩) l.length cap):=ja hb rfl;have hh:=ht.head h0;have t0:w.cell? ⟨tb,off,none⟩=some (.int .i64 ((hd l).k:Nat)):=hh 0 _ rfl;have t1:w.cell? ⟨tb,off+1,none⟩=some (.string (bs (hd l).t)):=hh 1 _ rfl;have t2:w.cell? ⟨tb,off+2,none⟩=some (.int .u64 ((hd l).n:Nat)):=hh 2 _ rfl;have t3:w.cell? ⟨tb,off+3,none⟩=some (.int .i64 ((hd l).a:Nat)):=hh 3 _ rfl;have HC:=lh (hcall (hd l) (by omega));obtain ⟨q,hq⟩:∃ q,c.test (hd l)=q:=⟨_,rfl⟩;obtain ⟨n,hn⟩:∃ n,l.length=n:=⟨_,rfl⟩;rw [hq] at HC ⊢;rw [hn] at p0 h0 h99 hcap;clear hcall hq hh ht hb hc hn;unfold Enters at eg;go_enter Tryz.func44,Tryz.ntmps44;go_wp2_with (go_at_fn g;refine (HC.out).mono ?_;rintro e w2 ⟨rfl,hb2⟩;have HB2:=lh hb2;clear hb2);go_ret;exact ⟨rfl,HB2.out⟩
theorem yh (bp tb:Nat) (l:List Tk) (c:Cl) (v:Value) (w:World) (hp:PAt w bp tb l) (hc:ClAt w c v) (h0:0<l.length) (h99:l.length≤99) (hs:(hd l).t.length≤256) (ht:c.test (hd l)=false):
  Calls Tryz.prog 119 #[.pointer (some ⟨bp,0,none⟩),v] w fun e w'=>e=.returned (.bool false)∧Below w.heap.size w w':=by
 have HA:=kq bp tb l c v w hp hc h0 h99 hs;rw [ht] at HA;have HA':=lh HA;clear HA ht hs hc hp;go_enter Tryz.func119,Tryz.ntmps119;go_wp2_with (go_at_call 44;refine (HA'.out).mono ?_;rintro e w2 ⟨rfl,hb2⟩;have HB2:=lh hb2;clear hb2);go_ret;exact ⟨rfl,HB2.out⟩
theorem qf (bp tb:Nat) (l:List Tk) (c:Cl) (v:Value) (w:World) (hp:PAt w bp tb l) (hc:ClAt w c v) (h0:1<l.length) (h99:l.length≤99) (hs:(hd l).t.length≤256) (ht:c.test (hd l)=true):
  Calls Tryz.prog 119 #[.pointer (some ⟨bp,0,none⟩),v] w fun e w'=>e=.returned (.bool true)∧PAt w' bp tb l.tail∧Only (fun k=>k=bp) w w':=by
 have HA:=kq bp tb l c v w hp hc (by omega) h99 hs;rw [ht] at HA;have HA':=lh HA;clear HA ht hs hc;have HX:=lh (fun wx (hb:Below w.heap.size w wx)=>hp.next hb);obtain ⟨hne,hlt,off,cap,hb,hcap,htk⟩:=hp;have HT:=lh (show ∀ wx,Below w.heap.size w wx→TksAt wx tb (off+4) l.tail from fun wx hb=>(htk.held (hb.block tb hlt)).tail);have HBx:=lh (fun wx (hx:Below w.heap.size w wx)=>rowKeep hx hb)
 have hn:l.tail.length=l.length - 1:=by simp
 have HN:=lh hn
 have hne1:¬(cap:Int) - 1=0:=by omega
 have hne2:¬cap - 1=0:=by omega
 have hne3:¬cap=1:=by omega
 clear hn htk hb;go_enter Tryz.func119,Tryz.ntmps119;go_wp2_with (go_at_call 44;refine (HA'.out).mono ?_;rintro e w2 ⟨rfl,hb2⟩;have HB2:=lh hb2;have hbx:=HBx.out w2 hb2;have p0:w2.cell? ⟨bp,0,none⟩=some (.slice (some ⟨tb,off,none⟩) l.length cap):=ja hbx rfl;have f0:=jg (j:=0) hbx;have HX2:=lh hbx;clear hbx hb2);go_ret;refine ⟨rfl,⟨hne,by have:=HB2.out.size;simp;omega,off+4,cap - 1,?_,by rw [HN.out];omega,?_⟩,(Only.of_below (S:=fun k=>k=bp) HB2.out).setCell (p:=⟨bp,0,none⟩) (.inl rfl) _⟩
 · rw [HN.out];exact jn (j:=0) HX2.out
 · exact (HT.out w2 HB2.out).held (ju hne)
def RGreatTo (T:XT) (d:Nat) (w:World):Prop:=Calls Tryz.prog 16 #[.agg #[.int .i64 T.op,.int .i64 T.rel,.slice T.aa T.an T.ac,.slice T.ka T.kn T.kc],.int .i64 (d:Nat)] w fun e w'=>e=.returned (.bool (greatX T d))∧Below w.heap.size w w'
theorem jmu {T:XT} {d j:Nat} (hj:j<T.kn) (h:greatX (T.kid j) (d+1)=true):greatX T d=true:=by
 rw [Zl,(q7 T.kn).2 ⟨j,hj,h⟩];simp
theorem jmx {T:XT} {d:Nat} (h1:¬40<d) (h2:¬100<T.kn) (h3:¬100<T.an) (h4:∀ i,i<T.kn→greatX (T.kid i) (d+1)=false):greatX T d=decide ((3000:Int)<minK (minA (fun i=>(T.arg i).text.size) T.an:Nat) (fun i=>sizeX (T.kid i)) T.kn):=by
 rw [Zl,jc4 h4,decide_eq_false h1,decide_eq_false h2,decide_eq_false h3];simp
theorem jle {T:XT} {d:Nat} (h:40<d∨100<T.kn∨100<T.an):greatX T d=true:=by
 rw [Zl]
 rcases h with h|h|h
 · rw [decide_eq_true h];simp
 · rw [decide_eq_true h];simp
 · rw [decide_eq_true h];simp
theorem jp3 {a b:Bool} (h:a=b):Ending.returned (.bool a)=.returned (.bool b):=by rw [h]
theorem jkr (T:XT) (d:Nat) (w:World) (hk:T.kn≤2513169434843) (ha:T.an≤3518437208780) (hd:d≤41) (h:40<d∨100<T.kn∨100<T.an):RGreatTo T d w:=by
 unfold RGreatTo;rw [jle h]
 by_cases h1:40<d
 · clear h;go_enter Tryz.func16,Tryz.ntmps16;go_wp2;go_ret;exact ⟨rfl,(Below.refl _ _).alloc (Nat.le_refl _) _⟩
 · by_cases h2:100<T.kn
   · clear h;go_enter Tryz.func16,Tryz.ntmps16;go_wp2;go_ret;exact ⟨rfl,(Below.refl _ _).alloc (Nat.le_refl _) _⟩
   · have h3:100<T.an:=by omega
     clear h;go_enter Tryz.func16,Tryz.ntmps16;go_wp2;go_ret;exact ⟨rfl,(Below.refl _ _).alloc (Nat.le_refl _) _⟩
theorem jbm (S:Nat→Prop):∀ (T:XT) (d:Nat) (w:World),XAt w S T→XTx T→d≤41→RGreatTo T d w:=by
 refine XT.ind fun T ih d w H HX hd=>?_;have hlen:=jjk H;have hlan:=jt0 H
 rcases Classical.em (40<d∨100<T.kn∨100<T.an) with hh|hh
 case inl=>exact jkr T d w hlen hlan hd hh
 have h1:¬40<d:=fun h=>hh (.inl h);have h2:¬100<T.kn:=fun h=>hh (.inr (.inl h));have h3:¬100<T.an:=fun h=>hh (.inr (.inr h));have HI:=lh (fun i (hi:i<T.kn) wx (hb:Below w.heap.size w wx)=>ih i hi (d+1) wx (Ye H hb hi).2 (((jam T).1 HX).2 i hi) (by omega));have HC:=lh (fun i (hi:i<T.kn) wx (hb:Below w.heap.size w wx)=>(Ye H hb hi).1);have HAC:=lh (fun i (hi:i<T.an) wx (hb:Below w.heap.size w wx)=>(((ym T).1 H).2.1 i hi).next hb);have HSZ:=lh (fun i (hi:i<T.kn) wx (hb:Below w.heap.size w wx)=>yx S (T.kid i) wx (Ye H hb hi).2);have HTX:=lh (fun i (hi:i<T.an)=>(((jam T).1 HX).1 i hi).1);have HY:=lh (fun j (hj:j<T.kn) h=>jmu (d:=d) hj h);have HE:=lh (fun h4=>jmx h1 h2 h3 h4);obtain ⟨A,hA⟩:∃ A:Nat→Nat,A=fun i=>(T.arg i).text.size:=⟨_,rfl⟩;obtain ⟨F,hF⟩:∃ F:Nat→Int,F=fun i=>sizeX (T.kid i):=⟨_,rfl⟩;have HA:=lh hA;have HF:=lh hF;have HML:=lh (jlw A);clear ih H HX hA hF hh;unfold RGreatTo;go_enter Tryz.func16,Tryz.ntmps16;go_wp2
 go_loopw [5,6] (fun n i wr=>∃ (j m:Nat),j≤T.an∧i=.int .i64 j∧n=.int .i64 m∧Hid (m=minA A j)∧m≤100000∧Hid (wr.heap[w.heap.size]?=some (.cells #[.int .i64 T.op,.int .i64 T.rel,.slice T.aa T.an T.ac,.slice T.ka T.kn T.kc] 26))∧Hid (Below w.heap.size w wr)) (fun _ i _=>T.an - (intOf i).toNat)
 case atStart=>exact ⟨0,0,Nat.zero_le _,rfl,rfl,lh rfl,by omega,lh (jd w _),lh ((Below.refl _ _).alloc (Nat.le_refl _) _)⟩
 case round=>
  obtain ⟨j,m,hj,rfl,rfl,HM,hm,HQ,HBr⟩:=hrel
  by_cases hlt:j<T.an
  · obtain ⟨b,off,hia,_,hbl,hla⟩:=HAC.out j hlt wr HBr.out
    have d2:wr.cell? ⟨w.heap.size,2,none⟩=some (.slice (some ⟨b,off,none⟩) T.an T.ac):=by rw [←hia];exact ja HQ.out rfl
    have c1:wr.cell? ⟨b,off+j*4+1,none⟩=some (.string (T.arg j).text):=hla 1 _ rfl;have htx:=HTX.out j hlt;have HX:=lh (show minA A (j+1)=min (minA A j+(T.arg j).text.size) 100000 by rw [HA.out];rfl);obtain ⟨s,hs⟩:∃ s,(T.arg j).text=s:=⟨_,rfl⟩;rw [hs] at c1 htx HX
    have hml:s.size≤maxLen:=by unfold maxLen;omega
    clear hs hla hia
    by_cases hbig:m+s.size≤100000
    · have hmm:min ((m:Int)+(s.size:Int)) 100000=((m+s.size:Nat):Int):=by omega
      go_wp2
      all_goals
       go_roundw
       case rel=>exact ⟨j+1,m+s.size,by omega,by go_num,by go_num,lh (by rw [HX.out];have:=HM.out;omega),hbig,HQ,HBr⟩
       case measure=>simp [intOf];omega
    · have hmm:min ((m:Int)+(s.size:Int)) 100000=100000:=by omega
      go_wp2
      all_goals
       go_roundw
       case rel=>exact ⟨j+1,100000,by omega,by go_num,by go_num,lh (by rw [HX.out];have:=HM.out;omega),by omega,HQ,HBr⟩
       case measure=>simp [intOf];omega
  · obtain rfl:j=T.an:=by omega
    have d2:wr.cell? ⟨w.heap.size,2,none⟩=some (.slice T.aa T.an T.ac):=ja HQ.out rfl;go_wp2
    go_loopw [5,7] (fun n i wr=>∃ (j:Nat) (z:Int),j≤T.kn∧i=.int .i64 j∧n=.int .i64 z∧Hid (z=minK (minA A T.an:Nat) F j)∧Hid (∀ i,i<j→greatX (T.kid i) (d+1)=false)∧Hid (wr.heap[w.heap.size]?=some (.cells #[.int .i64 T.op,.int .i64 T.rel,.slice T.aa T.an T.ac,.slice T.ka T.kn T.kc] 26))∧Hid (Below w.heap.size w wr)) (fun _ i _=>T.kn - (intOf i).toNat)
    case atStart=>exact ⟨0,(m:Nat),Nat.zero_le _,rfl,rfl,lh (by rw [HM.out];rfl),lh (fun i hi=>absurd hi (Nat.not_lt_zero i)),HQ,HBr⟩
    case round=>
     obtain ⟨j,z,hj,rfl,rfl,HZ,HNO,HQ,HBr⟩:=hrel
     by_cases hlt:j<T.kn
     · obtain ⟨b,off,hia,_,hbl,hla⟩:=HC.out j hlt wr HBr.out
       have d3:wr.cell? ⟨w.heap.size,3,none⟩=some (.slice (some ⟨b,off,none⟩) T.kn T.kc):=by rw [←hia];exact ja HQ.out rfl
       have c0:wr.cell? ⟨b,off+j*4,none⟩=some (.int .i64 (T.kid j).op):=hla 0 _ rfl;have c1:wr.cell? ⟨b,off+j*4+1,none⟩=some (.int .i64 (T.kid j).rel):=hla 1 _ rfl;have c2:wr.cell? ⟨b,off+j*4+2,none⟩=some (.slice (T.kid j).aa (T.kid j).an (T.kid j).ac):=hla 2 _ rfl;have c3:wr.cell? ⟨b,off+j*4+3,none⟩=some (.slice (T.kid j).ka (T.kid j).kn (T.kid j).kc):=hla 3 _ rfl;have HN:=lh (HI.out j hlt);have HS:=lh (HSZ.out j hlt);have HIA:=lh hia;have HLA:=lh (HC.out j hlt);clear hla hia;unfold RGreatTo at HN;unfold RSizeTo at HS;rw [show (((d+1:Nat)):Int)=(d:Int)+1 by omega] at HN
       cases hg:greatX (T.kid j) (d+1) with
       |true=>
        rw [hg] at HN;have HYY:=lh (HY.out j hlt hg);clear hg;go_wp2_with (go_at_call 16;refine (HN.out _ HBr.out).mono ?_;rintro e w2 ⟨rfl,hb2⟩;have HB2:=lh (bth HBr.out hb2);clear hb2);go_ret;exact ⟨jp3 HYY.out.symm,HB2.out⟩
       |false=>
        rw [hg] at HN
        have HNO2:=lh (show ∀ i,i<j+1→greatX (T.kid i) (d+1)=false from fun i hi=>by
         rcases Nat.lt_succ_iff_lt_or_eq.1 hi with h|rfl
         · exact HNO.out i h
         · exact hg)
        clear hg;obtain ⟨g,hgg⟩:∃ g,sizeX (T.kid j)=g:=⟨_,rfl⟩;rw [hgg] at HS;have HX:=lh (show minK (minA A T.an:Nat) F (j+1)=min (wrap64 (minK (minA A T.an:Nat) F j+g)) 100000 by rw [←hgg,HF.out];rfl);clear hgg;obtain ⟨y,hy⟩:∃ y,wrap64 (z+g)=y:=⟨_,rfl⟩;have HYZ:=lh hy;clear hy
        go_wp2_with (first
         |(go_at_call 36;refine (HS.out _ HB2.out).mono ?_;rintro e w3 ⟨rfl,hb3⟩;have HB3:=lh (bth HB2.out hb3);have HQ3:=lh (rowKeep hb3 HQ2.out);clear hb3)
         |(go_at_call 16;refine (HN.out _ HBr.out).mono ?_;rintro e w2 ⟨rfl,hb2⟩;have HB2:=lh (bth HBr.out hb2);have HQ2:=lh (rowKeep hb2 HQ.out);have e3:=keepL hb2 (by exact d3);have e4:=keepL hb2 (by exact c0);have e5:=keepL hb2 (by exact c1);have e6:=keepL hb2 (by exact c2);have e7:=keepL hb2 (by exact c3);clear hb2))
        all_goals
         go_roundw
         case rel=>exact ⟨j+1,min (wrap64 (z+g)) 100000,by omega,by go_num,by first|rfl|(congr 1;omega),lh (by rw [HX.out,HZ.out]),HNO2,HQ3,HB3⟩
         case measure=>simp [intOf];omega
     · obtain rfl:j=T.kn:=by omega
       have d3:wr.cell? ⟨w.heap.size,3,none⟩=some (.slice T.ka T.kn T.kc):=ja HQ.out rfl;go_wp2;go_ret;exact ⟨jp3 (by rw [HE.out HNO.out];have h:=HZ.out;rw [HA.out,HF.out] at h;rw [h]),HBr.out⟩
end Go.Proofs.YthcompcjphaahaaGreatDoor
namespace Go.Proofs.YthcompcjphaahaaGreatDoor
open Go.ChangeShapes Go.WideShapes Go.ChangeAt Go.RowKit
section
variable {H:Type} {enc:TypeId × Value→H} {P:Program} {w:World}
def RdgF (enc:TypeId × Value→H) (P:Program) (w:World) (fuel:Nat) (t:TypeId) (cs:List Value):Prop:=
 ∃ (d:DataW H) (p:List MemPlace),DataW.trod enc P w 0 (fun _=>true) true fuel t cs=some (d,p)∧∀ n∈d.weights P t,n≤reachBytes
theorem RdgF.rdg {fuel:Nat} {t:TypeId} {cs:List Value} (h:RdgF enc P w fuel t cs):Rdg enc P w t cs:=by
 obtain ⟨d,p,h⟩:=h;exact ⟨fuel,d,p,h⟩
theorem kf {fuel:Nat} {t:TypeId} {fs:Array Field} {cs:List Value} (ht:P.underlying t=some (.struct fs)) (h:RdgF enc P w fuel t cs) (i:Nat) (ty:TypeId) (off n:Nat)
  (hf:fs[i]?.map (fun f=>(f.type,f.offset))=some (ty,off)) (hc:P.cellsOf ty=n):∃ m,fuel=m+1∧RdgF enc P w m ty ((cs.drop off).take n):=by
 obtain ⟨d,p,h,hw⟩:=h;obtain ⟨xs,m,hfu,hx,_,hl,hfl⟩:=DataW.trod_struct ht h;obtain ⟨rfl,_⟩:=Prod.mk.inj hx
 cases hq:fs[i]? with
 |none=>rw [hq] at hf;cases hf
 |some f=>
  rw [hq] at hf;simp at hf;obtain ⟨rfl,rfl⟩:=hf;subst hc
  have hi:i<xs.length:=by
   have:=(Array.getElem?_eq_some_iff.1 hq).1
   omega
  refine ⟨m,hfu,xs[i].1,xs[i].2,by rw [hfl i f hq,List.getElem?_eq_getElem hi],fun k hk=>hw k ?_⟩;simp only [DataW.weights,ht];refine DataW.weights_mem_each (j:=i) (t:=f.type) (d:=xs[i].1) ?_ ?_ k hk
  · have:=Array.getElem?_toList (xs:=fs) (i:=i)
    rw [List.getElem?_map,this,hq];rfl
  · rw [List.getElem?_map,List.getElem?_eq_getElem hi];rfl
theorem Yi {fuel:Nat} {t e:TypeId} {cs:List Value} (n:Nat) (ht:P.underlying t=some (.slice e)) (hc:P.cellsOf e=n) (h:RdgF enc P w fuel t cs):
  cs=[.slice none 0 0]∨∃ (a:Addr) (len cap m:Nat),fuel=m+1∧cs=[.slice (some a) len cap]∧len≤cap∧cap*P.bytesOf e≤140737488351232∧
   ∀ i,i<len→∃ c:List Value,w.cells? 0 (a.add (i*n)) n=some c∧RdgF enc P w m e c:=by
 obtain ⟨d,p,h,hw⟩:=h;subst hc
 rcases DataW.trod_slice ht h with ⟨h0,_⟩|⟨a,len,cap,elems,rest,m,hfu,h1,h2,_,hl,hm,hlen,hel,hsp,_⟩
 · exact .inl h0
 · obtain ⟨hr,hrj⟩:=hsp rfl;obtain ⟨rfl,_⟩:=Prod.mk.inj h2
   have e0:reachBytes=140737488351232:=by decide
   refine .inr ⟨a,len,cap,m,hfu,h1,hl,?_,?_⟩
   · have:=hw ((elems.length+rest.length)*P.bytesOf e) (by simp [DataW.weights,ht])
     rw [e0,hlen,hr] at this
     rwa [Nat.add_sub_cancel' hl] at this
   · intro i hi;have hq:=hel i hi
     have hi':i<elems.length:=by omega
     rw [List.getElem?_eq_getElem hi'] at hq;obtain ⟨cs',hcs,hx⟩:=Option.bind_eq_some_iff.1 hq;refine ⟨cs',hcs,elems[i].1,elems[i].2,hx,fun k hk=>hw k ?_⟩;simp only [DataW.weights,ht,List.mem_cons,List.mem_append];exact .inr (.inl (qm (j:=i) (d:=elems[i].1) (by rw [List.getElem?_map,List.getElem?_eq_getElem hi'];rfl) k hk))
end
section
variable {H:Type} {enc:TypeId × Value→H} {w:World}
theorem Zv {b':Nat} {a:Addr} {n len:Nat} {Q:Nat→List Value→Prop} (hn:0<n) (hc:0<len) (h:∀ i,i<len→∃ c:List Value,w.cells? 0 (a.add (i*n)) n=some c∧Q i c):
  ∃ b off,a=⟨b,off,none⟩∧∀ i,i<len→∃ c:List Value,c.length=n∧(∀ j,j<n→w.cell? ⟨b,off+i*n+j,none⟩=c[j]?)∧Q i c:=by
 have h0:a=⟨a.block,a.off,none⟩:=by
  obtain ⟨c,hcc,_⟩:=h 0 hc;obtain ⟨_,hl,hat⟩:=World.cells?_some hcc;have h1:=hat 0 hn
  have hl0:0<c.length:=by omega
  rw [List.getElem?_eq_getElem hl0,Nat.zero_mul] at h1
  have e2:(a.add 0).add 0=a:=by unfold Addr.add;simp
  rw [e2] at h1;exact Yd h1
 refine ⟨a.block,a.off,h0,fun i hi=>?_⟩;obtain ⟨c,hcc,hr⟩:=h i hi;obtain ⟨_,hl,hat⟩:=World.cells?_some hcc;refine ⟨c,hl,fun j hj=>?_,hr⟩;have h1:=hat j hj;rw [Go.Deep.add_add,h0,Xr,←Nat.add_assoc] at h1;exact h1
theorem jjx {n:Int} (h:(Lit.int .u64 n).wf=true):0≤n∧n<18446744073709551616:=by
 obtain ⟨h0,h1⟩:=bounds_u64 h;omega
theorem jqe {m:Nat} {c:List Value} (hcl:c.length=4) (hr:RdgF enc Tryz.prog w m 34 c):∃ o:Opd,c=opdC o∧OpX o:=by
 obtain ⟨_,_,f0⟩:=kf Tryz.underlying34 hr 0 3 0 1 rfl (by kernel_rfl);obtain ⟨_,_,f1⟩:=kf Tryz.underlying34 hr 1 9 1 1 rfl (by kernel_rfl);obtain ⟨_,_,f2⟩:=kf Tryz.underlying34 hr 2 4 2 1 rfl (by kernel_rfl);obtain ⟨_,_,f3⟩:=kf Tryz.underlying34 hr 3 27 3 1 rfl (by kernel_rfl);obtain ⟨x0,e0,_⟩:=yl Tryz.underlying3 f0.rdg;obtain ⟨x1,e1,w1⟩:=Yq Tryz.underlying9 f1.rdg;obtain ⟨x2,e2⟩:=jea Tryz.underlying4 f2.rdg;obtain ⟨x3,e3,w3⟩:=yl Tryz.underlying27 f3.rdg;have hb3:=jjx w3
 match c,hcl with
 | [c0,c1,c2,c3],_=>
   simp at e0 e1 e2 e3;subst e0 e1 e2 e3;exact ⟨⟨x0,x1,x2,x3⟩,rfl,w1,hb3.1,hb3.2⟩
theorem jmj {b off:Nat} {c:List Value} {n:Nat} (hcl:c.length=n) (hat:∀ j,j<n→w.cell? ⟨b,off+j,none⟩=c[j]?):LiesAt w b off c:=by
 intro r u hu
 have hr:r<n:=by have:=(List.getElem?_eq_some_iff.1 hu).1;omega
 rw [hat r hr,hu]
theorem jjl:∀ (n fuel:Nat) (cs:List Value),fuel≤n→cs.length=4→RdgF enc Tryz.prog w fuel 26 cs→
  ∃ T:XT,cs=[.int .i64 T.op,.int .i64 T.rel,.slice T.aa T.an T.ac,.slice T.ka T.kn T.kc]∧XAt w (· <w.heap.size) T∧XTx T
 |0,fuel,cs,hn,_,h=>by
  obtain ⟨m,hm,_⟩:=kf Tryz.underlying26 h 0 3 0 1 rfl (by kernel_rfl);omega
 |n+1,fuel,cs,hn,hl,h=>by
  obtain ⟨_,_,f0⟩:=kf Tryz.underlying26 h 0 3 0 1 rfl (by kernel_rfl);obtain ⟨_,_,f1⟩:=kf Tryz.underlying26 h 1 3 1 1 rfl (by kernel_rfl);obtain ⟨m2,hm2,f2⟩:=kf Tryz.underlying26 h 2 23 2 1 rfl (by kernel_rfl);obtain ⟨m,hm,f3⟩:=kf Tryz.underlying26 h 3 24 3 1 rfl (by kernel_rfl);obtain ⟨x0,e0,w0⟩:=yl Tryz.underlying3 f0.rdg;obtain ⟨x1,e1,w1⟩:=yl Tryz.underlying3 f1.rdg
  match cs,hl with
  | [c0,c1,c2,c3],_=>
    simp at e0 e1;subst e0 e1
    have ha:∃ (aa:Option Addr) (an ac:Nat) (g:Nat→Opd),c2=.slice aa an ac∧an≤3518437208780∧∀ i,i<an→CellsAt w (· <w.heap.size) aa i (opdC (g i))∧OpX (g i):=by
     have hz:Tryz.prog.bytesOf 34=40:=by kernel_rfl
     rcases Yi 4 Tryz.underlying23 (by kernel_rfl) f2 with e3|⟨a,len,cap,m',hm',e3,hlc,hby,hel⟩
     · simp at e3;subst e3;exact ⟨none,0,0,fun _=>default,rfl,Nat.zero_le _,fun i hi=>absurd hi (Nat.not_lt_zero i)⟩
     · simp at e3;subst e3
       rw [hz] at hby
       have hq:∀ i,i<len→∃ o:Opd,CellsAt w (· <w.heap.size) (some a) i (opdC o)∧OpX o:=by
        intro i hi;obtain ⟨b,off,rfl,hc⟩:=Zv (b':=0) (n:=4) (Q:=fun _ c=>RdgF enc Tryz.prog w m' 34 c) (by omega) (by omega) hel;obtain ⟨c,hcl,hat,hr⟩:=hc i hi;obtain ⟨o,rfl,ho⟩:=jqe hcl hr;have h0:=hat 0 (by omega);exact ⟨o,⟨b,off,rfl,zj h0,zj h0,jmj hcl hat⟩,ho⟩
       obtain ⟨L,hL⟩:=skolem hq;exact ⟨some a,len,cap,L,rfl,by omega,hL⟩
    obtain ⟨aa,an,ac,g,rfl,han,hag⟩:=ha
    have hz:Tryz.prog.bytesOf 26=64:=by kernel_rfl
    rcases Yi 4 Tryz.underlying24 (by kernel_rfl) f3 with e3|⟨a,len,cap,m',hm',e3,hlc,hby,hel⟩
    · simp at e3;subst e3;exact ⟨.node x0 x1 aa an ac g none 0 0 (fun _=>.nil),rfl,(ym _).2 ⟨⟨han,Nat.zero_le _⟩,fun i hi=>(hag i hi).1,fun i hi=>absurd hi (Nat.not_lt_zero i)⟩,(jam _).2 ⟨fun i hi=>(hag i hi).2,fun i hi=>absurd hi (Nat.not_lt_zero i)⟩⟩
    · simp at e3;subst e3
      rw [hz] at hby
      have hq:∀ i,i<len→∃ T:XT,CellsAt w (· <w.heap.size) (some a) i (xtC T)∧XAt w (· <w.heap.size) T∧XTx T:=by
       intro i hi;obtain ⟨b,off,rfl,hc⟩:=Zv (b':=0) (n:=4) (Q:=fun _ c=>RdgF enc Tryz.prog w m' 26 c) (by omega) (by omega) hel;obtain ⟨c,hcl,hat,hr⟩:=hc i hi;obtain ⟨T,rfl,hT⟩:=jjl n m' c (by omega) hcl hr;have h0:=hat 0 (by omega);exact ⟨T,⟨b,off,rfl,zj h0,zj h0,jmj hcl hat⟩,hT⟩
      obtain ⟨L,hL⟩:=skolem hq;exact ⟨.node x0 x1 aa an ac g (some a) len cap L,rfl,(ym _).2 ⟨⟨han,by show len≤_;omega⟩,fun i hi=>(hag i hi).1,fun i hi=>⟨(hL i hi).1,(hL i hi).2.1⟩⟩,(jam _).2 ⟨fun i hi=>(hag i hi).2,fun i hi=>(hL i hi).2.2⟩⟩
theorem jvy {cs:Array Value} (hl:cs.size=Tryz.prog.cellsOf 26) (h:Rdg enc Tryz.prog w 26 (Value.agg cs).cells.toList):∃ T:XT,Value.agg cs=.agg #[.int .i64 T.op,.int .i64 T.rel,.slice T.aa T.an T.ac,.slice T.ka T.kn T.kc]∧XAt w (· <w.heap.size) T∧XTx T:=by
 obtain ⟨fuel,d,p,h1,h2⟩:=h
 have hc:Tryz.prog.cellsOf 26=4:=by kernel_rfl
 obtain ⟨T,hT,hv⟩:=jjl (enc:=enc) (w:=w) fuel fuel cs.toList (Nat.le_refl _) (by simp;omega) ⟨d,p,by simpa [Value.cells] using h1,h2⟩;refine ⟨T,?_,hv⟩;refine congrArg Value.agg ?_;exact Array.toList_inj.1 (by simpa using hT)
end
end Go.Proofs.YthcompcjphaahaaGreatDoor
