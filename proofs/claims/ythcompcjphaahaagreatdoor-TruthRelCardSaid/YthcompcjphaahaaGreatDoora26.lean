/- Trees, operands, classes of tokens and the parser's tokens, in memory; what the classes tell. -/
import Derived.Deep.AppendLies
import Derived.Laws.OwnMore
import Derived.OwnWalk
import Derived.LoopN
import Derived.Test.YthcompcjphaahaaGreatDoora00
import Derived.Test.YthcompcjphaahaaGreatDoora06
import Derived.Test.YthcompcjphaahaaGreatDoora25
namespace Go.Proofs.YthcompcjphaahaaGreatDoor
open Go.RowKit
set_option linter.unusedVariables false
abbrev opdC (o:Opd):List Value:=[.int .i64 o.kind,.string o.text,.bool o.neg,.int .u64 o.num]
abbrev xtC (T:XT):List Value:=[.int .i64 T.op,.int .i64 T.rel,.slice T.aa T.an T.ac,.slice T.ka T.kn T.kc]
def LiesAt (w:World) (b off:Nat) (cs:List Value):Prop:=∀ r u,cs[r]?=some u→w.cell? ⟨b,off+r,none⟩=some u
theorem cell_same {w w':World} {a:Addr} (h:w'.heap[a.block]?=w.heap[a.block]?):w'.cell? a=w.cell? a:=by
 unfold World.cell?
 rw [h]
theorem LiesAt.held {w w':World} {b off:Nat} {cs:List Value} (h:LiesAt w b off cs) (hb:w'.heap[b]?=w.heap[b]?):LiesAt w' b off cs:=
 fun r u hu=>(cell_same (a:=⟨b,off+r,none⟩) hb).trans (h r u hu)
def CellsAt (w:World) (S:Nat→Prop) (ao:Option Addr) (i:Nat) (cs:List Value):Prop:=
 ∃ b off,ao=some ⟨b,off,none⟩∧S b∧b<w.heap.size∧LiesAt w b (off+i*4) cs
def XWf (T:XT):Prop:=T.an≤3518437208780∧T.kn≤2513169434843
def XAt (w:World) (S:Nat→Prop):XT→Prop
 |.nil=>True
 |.node o r a n c g b m d f=>XWf (.node o r a n c g b m d f)∧(∀ i,i<n→CellsAt w S a i (opdC (g i)))∧∀ i,i<m→CellsAt w S b i (xtC (f i))∧XAt w S (f i)
theorem xwf_nil:XWf .nil:=⟨Nat.zero_le _,Nat.zero_le _⟩
theorem xat_iff {w:World} {S:Nat→Prop} (T:XT):XAt w S T↔XWf T∧(∀ i,i<T.an→CellsAt w S T.aa i (opdC (T.arg i)))∧∀ i,i<T.kn→CellsAt w S T.ka i (xtC (T.kid i))∧XAt w S (T.kid i):=by
 cases T with
 |nil=>exact ⟨fun _=>⟨xwf_nil,fun i hi=>absurd hi (Nat.not_lt_zero i),fun i hi=>absurd hi (Nat.not_lt_zero i)⟩,fun _=>trivial⟩
 |node=>exact Iff.rfl
theorem CellsAt.held {w w':World} {S S':Nat→Prop} {ao:Option Addr} {i:Nat} {cs:List Value} (h:CellsAt w S ao i cs) (hS:∀ b,S b→b<w.heap.size→S' b) (hn:w.heap.size≤w'.heap.size) (hw:∀ b,S b→b<w.heap.size→w'.heap[b]?=w.heap[b]?):CellsAt w' S' ao i cs:=by
 obtain ⟨b,off,e,hs,hl,h0⟩:=h
 exact ⟨b,off,e,hS b hs hl,by omega,h0.held (hw b hs hl)⟩
theorem XAt.held_of {w w':World} {S S':Nat→Prop} (hS:∀ b,S b→b<w.heap.size→S' b) (hn:w.heap.size≤w'.heap.size) (hw:∀ b,S b→b<w.heap.size→w'.heap[b]?=w.heap[b]?):∀ T:XT,XAt w S T→XAt w' S' T:=by
 refine XT.ind fun T ih h=>?_
 obtain ⟨h1,h2,h3⟩:=(xat_iff T).1 h
 exact (xat_iff T).2 ⟨h1,fun i hi=>(h2 i hi).held hS hn hw,fun i hi=>⟨(h3 i hi).1.held hS hn hw,ih i hi (h3 i hi).2⟩⟩
theorem XAt.next {w w':World} {S:Nat→Prop} {T:XT} (h:XAt w S T) (hb:Below w.heap.size w w'):XAt w' S T:=
 XAt.held_of (fun _ s _=>s) hb.size (fun b _ hl=>hb.block b hl) T h
theorem CellsAt.next {w w':World} {S:Nat→Prop} {ao:Option Addr} {i:Nat} {cs:List Value} (h:CellsAt w S ao i cs) (hb:Below w.heap.size w w'):CellsAt w' S ao i cs:=
 h.held (fun _ s _=>s) hb.size (fun b _ hl=>hb.block b hl)
theorem XAt.only {w w':World} {S K:Nat→Prop} {T:XT} (h:XAt w S T) (ho:Only K w w') (hK:∀ b,S b→b<w.heap.size→¬K b):XAt w' S T:=
 XAt.held_of (fun _ s _=>s) ho.size (fun b s hl=>ho.block b hl (hK b s hl)) T h
theorem CellsAt.only {w w':World} {S K:Nat→Prop} {ao:Option Addr} {i:Nat} {cs:List Value} (h:CellsAt w S ao i cs) (ho:Only K w w') (hK:∀ b,S b→b<w.heap.size→¬K b):CellsAt w' S ao i cs:=
 h.held (fun _ s _=>s) ho.size (fun b s hl=>ho.block b hl (hK b s hl))
theorem XAt.sub {w:World} {S S':Nat→Prop} {T:XT} (h:XAt w S T) (hS:∀ b,S b→b<w.heap.size→S' b):XAt w S' T:=
 XAt.held_of hS (Nat.le_refl _) (fun _ _ _=>rfl) T h
theorem xt_kn {w:World} {S:Nat→Prop} {T:XT} (h:XAt w S T):T.kn≤2513169434843:=((xat_iff T).1 h).1.2
abbrev tkA (t:Tk):Value:=.agg #[.int .i64 (t.k:Nat),.string (bs t.t),.int .u64 (t.n:Nat),.int .i64 (t.a:Nat)]
abbrev tkCs (t:Tk):List Value:=[.int .i64 (t.k:Nat),.string (bs t.t),.int .u64 (t.n:Nat),.int .i64 (t.a:Nat)]
def TksAt (w:World) (tb off:Nat) (l:List Tk):Prop:=∀ i,i<l.length→LiesAt w tb (off+i*4) (tkCs (l.getD i tk0))
theorem TksAt.held {w w':World} {tb off:Nat} {l:List Tk} (h:TksAt w tb off l) (hb:w'.heap[tb]?=w.heap[tb]?):TksAt w' tb off l:=fun i hi=>(h i hi).held hb
theorem TksAt.tail {w:World} {tb off:Nat} {l:List Tk} (h:TksAt w tb off l):TksAt w tb (off+4) l.tail:=by
 intro i hi
 cases l with
 |nil=>simp at hi
 |cons c r=>
  have:=h (i+1) (by simpa using hi)
  rw [show off+(i+1)*4=off+4+i*4 by omega] at this
  exact this
theorem TksAt.head {w:World} {tb off:Nat} {l:List Tk} (h:TksAt w tb off l) (hl:0<l.length):LiesAt w tb off (tkCs (hd l)):=by
 have:=h 0 hl
 rw [Nat.zero_mul,Nat.add_zero] at this
 cases l with
 |nil=>simp at hl
 |cons c r=>exact this
structure PAt (w:World) (bp tb:Nat) (l:List Tk):Prop where
 ne:tb≠bp
 lt:tb<w.heap.size
 box:∃ off cap,w.heap[bp]?=some (.cells #[.slice (some ⟨tb,off,none⟩) l.length cap] 90)∧l.length≤cap∧TksAt w tb off l
theorem PAt.only {w w':World} {bp tb:Nat} {l:List Tk} {K:Nat→Prop} (h:PAt w bp tb l) (ho:Only K w w') (h1:¬K bp) (h2:¬K tb):PAt w' bp tb l:=by
 obtain ⟨hne,hlt,off,cap,hb,hc,ht⟩:=h
 exact ⟨hne,by have:=ho.size;omega,off,cap,ho.same hb h1,hc,ht.held (ho.block tb hlt h2)⟩
theorem PAt.next {w w':World} {bp tb:Nat} {l:List Tk} (h:PAt w bp tb l) (hb:Below w.heap.size w w'):PAt w' bp tb l:=
 h.only (Only.of_below (S:=fun _=>False) hb) (fun f=>f) (fun f=>f)
theorem PAt.blt {w:World} {bp tb:Nat} {l:List Tk} (h:PAt w bp tb l):bp<w.heap.size:=by
 obtain ⟨_,_,off,cap,hb,_⟩:=h
 exact lt_of_block hb
def ClAt (w:World):Cl→Value→Prop
 |.kd n,v=>∃ b,v=.func (.func 85) #[] #[.pointer (some ⟨b,0,none⟩)]∧w.heap[b]?=some (.cells #[.int .i64 (n:Nat)] 3)
 |.wd s,v=>∃ b,v=.func (.func 155) #[] #[.pointer (some ⟨b,0,none⟩)]∧w.heap[b]?=some (.cells #[.string (bs s)] 9)
 |.sg s,v=>∃ b,v=.func (.func 156) #[] #[.pointer (some ⟨b,0,none⟩)]∧w.heap[b]?=some (.cells #[.string (bs s)] 9)
 |.nm,v=>v=.func (.func 216) #[] #[]
 |.rl,v=>v=.func (.func 161) #[] #[]
theorem ClAt.only {w w':World} {c:Cl} {v:Value} {p:Nat} (h:ClAt w c v) (ho:Only (fun k=>k=p) w w') (hp:∀ o,w.heap[p]?=some o→∃ cs t,o=.cells cs t∧t≠3∧t≠9∧t≠95):ClAt w' c v:=by
 have key:∀ {b:Nat} {cs:Array Value} {t:TypeId},t=3∨t=9→w.heap[b]?=some (.cells cs t)→w'.heap[b]?=some (.cells cs t):=by
  intro b cs t ht hb
  refine ho.same hb (fun e=>?_)
  subst e
  obtain ⟨cs',t',e2,n1,n2,_⟩:=hp _ hb
  injection e2 with _ e3 _
  rcases ht with rfl|rfl
  · exact n1 e3.symm
  · exact n2 e3.symm
 cases c with
 |kd n=>obtain ⟨b,e,hb⟩:=h;exact ⟨b,e,key (.inl rfl) hb⟩
 |wd s=>obtain ⟨b,e,hb⟩:=h;exact ⟨b,e,key (.inr rfl) hb⟩
 |sg s=>obtain ⟨b,e,hb⟩:=h;exact ⟨b,e,key (.inr rfl) hb⟩
 |nm=>exact h
 |rl=>exact h
theorem PAt.kind {w:World} {bp tb:Nat} {l:List Tk} (h:PAt w bp tb l):∀ o,w.heap[bp]?=some o→∃ cs t,o=.cells cs t∧t≠3∧t≠9∧t≠95:=by
 obtain ⟨_,_,off,cap,hb,_⟩:=h
 intro o ho
 rw [hb] at ho
 exact ⟨_,_,(Option.some.inj ho).symm,by decide,by decide,by decide⟩
theorem ClAt.next {w w':World} {c:Cl} {v:Value} (h:ClAt w c v) (hb:Below w.heap.size w w'):ClAt w' c v:=by
 cases c with
 |kd n=>obtain ⟨b,e,h⟩:=h;exact ⟨b,e,rowKeep hb h⟩
 |wd s=>obtain ⟨b,e,h⟩:=h;exact ⟨b,e,rowKeep hb h⟩
 |sg s=>obtain ⟨b,e,h⟩:=h;exact ⟨b,e,rowKeep hb h⟩
 |nm=>exact h
 |rl=>exact h
end Go.Proofs.YthcompcjphaahaaGreatDoor
namespace Go.Proofs.YthcompcjphaahaaGreatDoor
open Go.RowKit
set_option linter.unusedVariables false
def Enters (g:Nat):Prop:=∀ args w,(callFunc g args).run Tryz.prog w=.ok (.enter g args) w
theorem ret_b15 {a b:Bool} (h:a=b):Ending.returned (.bool a)=.returned (.bool b):=by rw [h]
theorem bs_eq (a b:List UInt8):((bs a).toList==(bs b).toList)=(a==b):=by rw [ByteArray.toList_eq,ByteArray.toList_eq];simp [bs]
theorem bs_list (a:List UInt8) (b:List UInt8):((bs a).toList==b)=(a==b):=by rw [ByteArray.toList_eq];simp [bs]
theorem kind1_any (t:Tk) (n b:Nat) (w:World) (hb:w.heap[b]?=some (.cells #[.int .i64 (n:Nat)] 3)):
  Calls Tryz.prog 85 #[tkA t,.pointer (some ⟨b,0,none⟩)] w fun e w'=>e=.returned (.bool ((Cl.kd n).test t))∧Below w.heap.size w w':=by
 have c0:w.cell? ⟨b,0,none⟩=some (.int .i64 (n:Nat)):=cell_at hb rfl
 have hlt:b<w.heap.size:=lt_of_block hb
 have hne:¬b=w.heap.size:=by omega
 have he:(((t.k:Nat):Int)==((n:Nat):Int))=(Cl.kd n).test t:=by
  show _=(t.k==n)
  rw [Bool.eq_iff_iff];simp;omega
 obtain ⟨q,hq⟩:∃ q,(Cl.kd n).test t=q:=⟨_,rfl⟩
 rw [hq] at he ⊢
 clear hq hb
 go_enter Tryz.func85,Tryz.ntmps85
 go_wp2
 go_ret
 exact ⟨ret_b15 (by first|rfl|exact he|simp [*]),(Below.refl _ _).alloc (Nat.le_refl _) _⟩
theorem word1_any (t:Tk) (s:List UInt8) (b:Nat) (w:World) (hb:w.heap[b]?=some (.cells #[.string (bs s)] 9)):
  Calls Tryz.prog 155 #[tkA t,.pointer (some ⟨b,0,none⟩)] w fun e w'=>e=.returned (.bool ((Cl.wd s).test t))∧Below w.heap.size w w':=by
 have c0:w.cell? ⟨b,0,none⟩=some (.string (bs s)):=cell_at hb rfl
 have hlt:b<w.heap.size:=lt_of_block hb
 have hne:¬b=w.heap.size:=by omega
 have he:=bs_eq t.t s
 have hk:(((t.k:Nat):Int)==1)=(t.k==1):=by rw [Bool.eq_iff_iff];simp;omega
 have hT:(Cl.wd s).test t=(t.k==1&&t.t==s):=rfl
 rw [hT]
 obtain ⟨p,hp⟩:∃ p,(t.k==1)=p:=⟨_,rfl⟩
 obtain ⟨q,hq⟩:∃ q,(t.t==s)=q:=⟨_,rfl⟩
 rw [hp] at hk ⊢
 rw [hq] at he ⊢
 clear hp hq hT hb
 cases p
 all_goals
  go_enter Tryz.func155,Tryz.ntmps155
  go_wp2
  go_ret
  exact ⟨ret_b15 (by first|rfl|exact he|simp [*]),(Below.refl _ _).alloc (Nat.le_refl _) _⟩
theorem sign1_any (t:Tk) (s:List UInt8) (b:Nat) (w:World) (hb:w.heap[b]?=some (.cells #[.string (bs s)] 9)):
  Calls Tryz.prog 156 #[tkA t,.pointer (some ⟨b,0,none⟩)] w fun e w'=>e=.returned (.bool ((Cl.sg s).test t))∧Below w.heap.size w w':=by
 have c0:w.cell? ⟨b,0,none⟩=some (.string (bs s)):=cell_at hb rfl
 have hlt:b<w.heap.size:=lt_of_block hb
 have hne:¬b=w.heap.size:=by omega
 have he:=bs_eq t.t s
 have hk:(((t.k:Nat):Int)==5)=(t.k==5):=by rw [Bool.eq_iff_iff];simp;omega
 have hT:(Cl.sg s).test t=(t.k==5&&t.t==s):=rfl
 rw [hT]
 obtain ⟨p,hp⟩:∃ p,(t.k==5)=p:=⟨_,rfl⟩
 obtain ⟨q,hq⟩:∃ q,(t.t==s)=q:=⟨_,rfl⟩
 rw [hp] at hk ⊢
 rw [hq] at he ⊢
 clear hp hq hT hb
 cases p
 all_goals
  go_enter Tryz.func156,Tryz.ntmps156
  go_wp2
  go_ret
  exact ⟨ret_b15 (by first|rfl|exact he|simp [*]),(Below.refl _ _).alloc (Nat.le_refl _) _⟩
end Go.Proofs.YthcompcjphaahaaGreatDoor
namespace Go.Proofs.YthcompcjphaahaaGreatDoor
open Go.RowKit
set_option linter.unusedVariables false
def maxTo (f:Nat→Nat):Nat→Nat|0=>0|n+1=>max (maxTo f n) (f n)
def anyTo (f:Nat→Bool):Nat→Bool|0=>false|n+1=>anyTo f n||f n
theorem maxTo_le {f:Nat→Nat} {m:Nat}:∀ n,(∀ i,i<n→f i≤m)→maxTo f n≤m
 |0,_=>Nat.zero_le _
 |n+1,h=>by have:=maxTo_le n (fun i hi=>h i (by omega));have:=h n (by omega);rw [maxTo];omega
theorem anyTo_iff {f:Nat→Bool}:∀ n,anyTo f n=true↔∃ i,i<n∧f i=true
 |0=>by simp [anyTo]
 |n+1=>by
  rw [anyTo,Bool.or_eq_true,anyTo_iff n]
  constructor
  · rintro (⟨i,hi,h⟩|h)
    · exact ⟨i,by omega,h⟩
    · exact ⟨n,by omega,h⟩
  · rintro ⟨i,hi,h⟩
    rcases Nat.lt_succ_iff_lt_or_eq.1 hi with h' |rfl
    · exact .inl ⟨i,h',h⟩
    · exact .inr h
def OpX (o:Opd):Prop:=o.text.size≤140737488351232∧0≤o.num∧o.num<18446744073709551616
theorem bth {w a b:World} (h:Below w.heap.size w a) (k:Below a.heap.size a b):Below w.heap.size w b:=h.trans (k.mono h.size)
theorem kid_at {w:World} {S:Nat→Prop} {T:XT} (H:XAt w S T) {wx:World} (hb:Below w.heap.size w wx) {i:Nat} (hi:i<T.kn):CellsAt wx S T.ka i (xtC (T.kid i))∧XAt wx S (T.kid i):=by
 have h:=((xat_iff T).1 H).2.2 i hi
 exact ⟨h.1.next hb,h.2.next hb⟩
end Go.Proofs.YthcompcjphaahaaGreatDoor
namespace Go.Proofs.YthcompcjphaahaaGreatDoor
open Go.RowKit
set_option linter.unusedVariables false
def RelTo (t:Tk) (w:World):Prop:=Calls Tryz.prog 160 #[tkA t] w fun e w'=>e=.returned (.int .i64 (relT t:Nat))∧Below w.heap.size w w'
theorem relation_any (t:Tk) (w:World):RelTo t w:=by
 unfold RelTo
 by_cases hk:t.k=5
 · have hR:relT t=relN t.t:=if_pos hk
   rw [hR]
   have e1:=bs_list t.t [61]
   have e2:=bs_list t.t [60,62]
   have e3:=bs_list t.t [60]
   have e4:=bs_list t.t [60,61]
   have e5:=bs_list t.t [62]
   have e6:=bs_list t.t [62,61]
   unfold relN
   obtain ⟨q1,h1⟩:∃ q,(t.t==[61])=q:=⟨_,rfl⟩
   obtain ⟨q2,h2⟩:∃ q,(t.t==[60,62])=q:=⟨_,rfl⟩
   obtain ⟨q3,h3⟩:∃ q,(t.t==[60])=q:=⟨_,rfl⟩
   obtain ⟨q4,h4⟩:∃ q,(t.t==[60,61])=q:=⟨_,rfl⟩
   obtain ⟨q5,h5⟩:∃ q,(t.t==[62])=q:=⟨_,rfl⟩
   obtain ⟨q6,h6⟩:∃ q,(t.t==[62,61])=q:=⟨_,rfl⟩
   rw [h1] at e1 ⊢;rw [h2] at e2 ⊢;rw [h3] at e3 ⊢;rw [h4] at e4 ⊢;rw [h5] at e5 ⊢;rw [h6] at e6 ⊢
   have k5:(((t.k:Nat):Int) !=5)=false:=by rw [hk];rfl
   clear h1 h2 h3 h4 h5 h6 hk hR
   cases q1
   · cases q2
     · cases q3
       · cases q4
         · cases q5
           · cases q6
             all_goals
              go_enter Tryz.func160,Tryz.ntmps160
              go_wp2
              go_ret
              exact ⟨rfl,(Below.refl _ _).alloc (Nat.le_refl _) _⟩
           · go_enter Tryz.func160,Tryz.ntmps160
             go_wp2
             go_ret
             exact ⟨rfl,(Below.refl _ _).alloc (Nat.le_refl _) _⟩
         · go_enter Tryz.func160,Tryz.ntmps160
           go_wp2
           go_ret
           exact ⟨rfl,(Below.refl _ _).alloc (Nat.le_refl _) _⟩
       · go_enter Tryz.func160,Tryz.ntmps160
         go_wp2
         go_ret
         exact ⟨rfl,(Below.refl _ _).alloc (Nat.le_refl _) _⟩
     · go_enter Tryz.func160,Tryz.ntmps160
       go_wp2
       go_ret
       exact ⟨rfl,(Below.refl _ _).alloc (Nat.le_refl _) _⟩
   · go_enter Tryz.func160,Tryz.ntmps160
     go_wp2
     go_ret
     exact ⟨rfl,(Below.refl _ _).alloc (Nat.le_refl _) _⟩
 · have hR:relT t=0:=if_neg hk
   rw [hR]
   have k5:(((t.k:Nat):Int) !=5)=true:=by simp;omega
   clear hR hk
   go_enter Tryz.func160,Tryz.ntmps160
   go_wp2
   go_ret
   exact ⟨rfl,(Below.refl _ _).alloc (Nat.le_refl _) _⟩
theorem isRel_any (t:Tk) (w:World):Calls Tryz.prog 161 #[tkA t] w fun e w'=>e=.returned (.bool (Cl.rl.test t))∧Below w.heap.size w w':=by
 have HR:=Lib.hid (fun wx=>relation_any t wx)
 have hT:Cl.rl.test t=!(relT t==0):=rfl
 rw [hT]
 unfold RelTo at HR
 obtain ⟨r,hr⟩:∃ r,relT t=r:=⟨_,rfl⟩
 rw [hr] at HR ⊢
 have he:(((r:Nat):Int) !=0)=!(r==0):=by rw [Bool.eq_iff_iff];simp
 obtain ⟨q,hq⟩:∃ q,(!(r==0))=q:=⟨_,rfl⟩
 rw [hq] at he ⊢
 clear hq hr hT
 have HB0:=Lib.hid (show Below w.heap.size w (w.alloc (.cells #[.int .i64 (t.k:Nat),.string (bs t.t),.int .u64 (t.n:Nat),.int .i64 (t.a:Nat)] 98)) from (Below.refl _ _).alloc (Nat.le_refl _) _)
 go_enter Tryz.func161,Tryz.ntmps161
 go_wp2_with (go_at_call 160;refine (HR.out _).mono ?_;rintro e w1 ⟨rfl,hb1⟩;have HB1:=Lib.hid hb1;clear hb1)
 go_ret
 exact ⟨ret_b15 (by first|rfl|exact he|simp [*]),HB0.out.trans (HB1.out.mono HB0.out.size)⟩
theorem isName_any (t:Tk) (ht:t.t.length≤1000) (w:World):Calls Tryz.prog 216 #[tkA t] w fun e w'=>e=.returned (.bool (Cl.nm.test t))∧Below w.heap.size w w':=by
 have HW:=Lib.hid (fun wx=>word_any (bs t.t) (by rw [bs_size];omega) wx)
 have hwS:wordS (bs t.t)=wordsL.contains t.t:=rfl
 rw [hwS] at HW
 have hT:Cl.nm.test t=(t.k==1&&!wordsL.contains t.t):=rfl
 rw [hT]
 have hk:(((t.k:Nat):Int)==1)=(t.k==1):=by rw [Bool.eq_iff_iff];simp;omega
 obtain ⟨p,hp⟩:∃ p,(t.k==1)=p:=⟨_,rfl⟩
 obtain ⟨q,hq⟩:∃ q,wordsL.contains t.t=q:=⟨_,rfl⟩
 rw [hp] at hk ⊢
 rw [hq] at HW ⊢
 clear hp hq hT hwS ht
 have HB0:=Lib.hid (show Below w.heap.size w (w.alloc (.cells #[.int .i64 (t.k:Nat),.string (bs t.t),.int .u64 (t.n:Nat),.int .i64 (t.a:Nat)] 98)) from (Below.refl _ _).alloc (Nat.le_refl _) _)
 cases p
 · go_enter Tryz.func216,Tryz.ntmps216
   go_wp2
   go_ret
   exact ⟨rfl,HB0.out⟩
 · go_enter Tryz.func216,Tryz.ntmps216
   go_wp2_with (go_at_call 246;refine (HW.out _).mono ?_;rintro e w1 ⟨rfl,hb1⟩;have HB1:=Lib.hid (HB0.out.trans (hb1.mono HB0.out.size));clear hb1)
   go_ret
   exact ⟨ret_b15 (by cases q <;> rfl),HB1.out⟩
theorem eKind:Enters 85:=enters_of Tryz.func85 (by kernel_rfl) rfl
theorem eWord:Enters 155:=enters_of Tryz.func155 (by kernel_rfl) rfl
theorem eSign:Enters 156:=enters_of Tryz.func156 (by kernel_rfl) rfl
theorem eName:Enters 216:=enters_of Tryz.func216 (by kernel_rfl) rfl
theorem eRel:Enters 161:=enters_of Tryz.func161 (by kernel_rfl) rfl
theorem cl_tells {w:World} {c:Cl} {v:Value} (h:ClAt w c v):∃ (g:Nat) (lb:Array Value),v=.func (.func g) #[] lb∧Enters g∧∀ (t:Tk),t.t.length≤1000→Calls Tryz.prog g (#[tkA t]++lb) w fun e w'=>e=.returned (.bool (c.test t))∧Below w.heap.size w w':=by
 cases c with
 |kd n=>obtain ⟨b,e,hb⟩:=h;exact ⟨_,_,e,eKind,fun t _=>kind1_any t n b w hb⟩
 |wd s=>obtain ⟨b,e,hb⟩:=h;exact ⟨_,_,e,eWord,fun t _=>word1_any t s b w hb⟩
 |sg s=>obtain ⟨b,e,hb⟩:=h;exact ⟨_,_,e,eSign,fun t _=>sign1_any t s b w hb⟩
 |nm=>exact ⟨_,_,h,eName,fun t ht=>isName_any t ht w⟩
 |rl=>exact ⟨_,_,h,eRel,fun t _=>isRel_any t w⟩
theorem hmf (fn:Fn) (first cap:Array Value) (w:World):(Instr.makeFunc fn first cap).run Tryz.prog w=.ok (.func fn first cap) w:=rfl
theorem kindF_any (n:Nat) (w:World):Calls Tryz.prog 45 #[.int .i64 (n:Nat)] w fun e w'=>∃ g lb,e=.returned (.func (.func g) #[] lb)∧ClAt w' (.kd n) (.func (.func g) #[] lb)∧Below w.heap.size w w':=by
 have hmf':=hmf
 go_enter Tryz.func45,Tryz.ntmps45
 go_wp2
 go_ret
 exact ⟨_,_,rfl,⟨_,rfl,alloc_at w _⟩,(Below.refl _ _).alloc (Nat.le_refl _) _⟩
theorem wordF_any (s:List UInt8) (X:ByteArray) (hX:X=bs s) (w:World):Calls Tryz.prog 116 #[.string X] w fun e w'=>∃ g lb,e=.returned (.func (.func g) #[] lb)∧ClAt w' (.wd s) (.func (.func g) #[] lb)∧Below w.heap.size w w':=by
 subst hX
 have hmf':=hmf
 go_enter Tryz.func116,Tryz.ntmps116
 go_wp2
 go_ret
 exact ⟨_,_,rfl,⟨_,rfl,alloc_at w _⟩,(Below.refl _ _).alloc (Nat.le_refl _) _⟩
theorem signF_any (s:List UInt8) (X:ByteArray) (hX:X=bs s) (w:World):Calls Tryz.prog 117 #[.string X] w fun e w'=>∃ g lb,e=.returned (.func (.func g) #[] lb)∧ClAt w' (.sg s) (.func (.func g) #[] lb)∧Below w.heap.size w w':=by
 subst hX
 have hmf':=hmf
 go_enter Tryz.func117,Tryz.ntmps117
 go_wp2
 go_ret
 exact ⟨_,_,rfl,⟨_,rfl,alloc_at w _⟩,(Below.refl _ _).alloc (Nat.le_refl _) _⟩
def Short (l:List Tk):Prop:=∀ t∈l,t.t.length≤256
theorem Short.hd {l:List Tk} (h:Short l):(hd l).t.length≤256:=by
 cases l with
 |nil=>show ([]:List UInt8).length≤256;simp
 |cons c r=>exact h c (by simp)
theorem Short.tail {l:List Tk} (h:Short l):Short l.tail:=fun t ht=>h t (List.mem_of_mem_tail ht)
theorem at_any (bp tb:Nat) (l:List Tk) (c:Cl) (v:Value) (w:World) (hp:PAt w bp tb l) (hc:ClAt w c v) (h0:0<l.length) (h99:l.length≤99) (hs:(hd l).t.length≤256):
  Calls Tryz.prog 44 #[.pointer (some ⟨bp,0,none⟩),v] w fun e w'=>e=.returned (.bool (c.test (hd l)))∧Below w.heap.size w w':=by
 obtain ⟨g,lb,rfl,eg,hcall⟩:=cl_tells hc
 obtain ⟨_,_,off,cap,hb,hcap,ht⟩:=hp
 have p0:w.cell? ⟨bp,0,none⟩=some (.slice (some ⟨tb,off,none⟩) l.length cap):=cell_at hb rfl
 have hh:=ht.head h0
 have t0:w.cell? ⟨tb,off,none⟩=some (.int .i64 ((hd l).k:Nat)):=hh 0 _ rfl
 have t1:w.cell? ⟨tb,off+1,none⟩=some (.string (bs (hd l).t)):=hh 1 _ rfl
 have t2:w.cell? ⟨tb,off+2,none⟩=some (.int .u64 ((hd l).n:Nat)):=hh 2 _ rfl
 have t3:w.cell? ⟨tb,off+3,none⟩=some (.int .i64 ((hd l).a:Nat)):=hh 3 _ rfl
 have HC:=Lib.hid (hcall (hd l) (by omega))
 obtain ⟨q,hq⟩:∃ q,c.test (hd l)=q:=⟨_,rfl⟩
 obtain ⟨n,hn⟩:∃ n,l.length=n:=⟨_,rfl⟩
 rw [hq] at HC ⊢
 rw [hn] at p0 h0 h99 hcap
 clear hcall hq hh ht hb hc hn
 unfold Enters at eg
 go_enter Tryz.func44,Tryz.ntmps44
 go_wp2_with (go_at_fn g;refine (HC.out).mono ?_;rintro e w2 ⟨rfl,hb2⟩;have HB2:=Lib.hid hb2;clear hb2)
 go_ret
 exact ⟨rfl,HB2.out⟩
theorem skip_no (bp tb:Nat) (l:List Tk) (c:Cl) (v:Value) (w:World) (hp:PAt w bp tb l) (hc:ClAt w c v) (h0:0<l.length) (h99:l.length≤99) (hs:(hd l).t.length≤256) (ht:c.test (hd l)=false):
  Calls Tryz.prog 119 #[.pointer (some ⟨bp,0,none⟩),v] w fun e w'=>e=.returned (.bool false)∧Below w.heap.size w w':=by
 have HA:=at_any bp tb l c v w hp hc h0 h99 hs
 rw [ht] at HA
 have HA':=Lib.hid HA
 clear HA ht hs hc hp
 go_enter Tryz.func119,Tryz.ntmps119
 go_wp2_with (go_at_call 44;refine (HA'.out).mono ?_;rintro e w2 ⟨rfl,hb2⟩;have HB2:=Lib.hid hb2;clear hb2)
 go_ret
 exact ⟨rfl,HB2.out⟩
theorem skip_yes (bp tb:Nat) (l:List Tk) (c:Cl) (v:Value) (w:World) (hp:PAt w bp tb l) (hc:ClAt w c v) (h0:1<l.length) (h99:l.length≤99) (hs:(hd l).t.length≤256) (ht:c.test (hd l)=true):
  Calls Tryz.prog 119 #[.pointer (some ⟨bp,0,none⟩),v] w fun e w'=>e=.returned (.bool true)∧PAt w' bp tb l.tail∧Only (fun k=>k=bp) w w':=by
 have HA:=at_any bp tb l c v w hp hc (by omega) h99 hs
 rw [ht] at HA
 have HA':=Lib.hid HA
 clear HA ht hs hc
 have HX:=Lib.hid (fun wx (hb:Below w.heap.size w wx)=>hp.next hb)
 obtain ⟨hne,hlt,off,cap,hb,hcap,htk⟩:=hp
 have HT:=Lib.hid (show ∀ wx,Below w.heap.size w wx→TksAt wx tb (off+4) l.tail from fun wx hb=>(htk.held (hb.block tb hlt)).tail)
 have HBx:=Lib.hid (fun wx (hx:Below w.heap.size w wx)=>rowKeep hx hb)
 have hn:l.tail.length=l.length - 1:=by simp
 have HN:=Lib.hid hn
 have hne1:¬(cap:Int) - 1=0:=by omega
 have hne2:¬cap - 1=0:=by omega
 have hne3:¬cap=1:=by omega
 clear hn htk hb
 go_enter Tryz.func119,Tryz.ntmps119
 go_wp2_with (go_at_call 44;refine (HA'.out).mono ?_;rintro e w2 ⟨rfl,hb2⟩;have HB2:=Lib.hid hb2;have hbx:=HBx.out w2 hb2;have p0:w2.cell? ⟨bp,0,none⟩=some (.slice (some ⟨tb,off,none⟩) l.length cap):=cell_at hbx rfl;have f0:=free_at (j:=0) hbx;have HX2:=Lib.hid hbx;clear hbx hb2)
 go_ret
 refine ⟨rfl,⟨hne,by have:=HB2.out.size;simp;omega,off+4,cap - 1,?_,by rw [HN.out];omega,?_⟩,(Only.of_below (S:=fun k=>k=bp) HB2.out).setCell (p:=⟨bp,0,none⟩) (.inl rfl) _⟩
 · rw [HN.out];exact set_at (j:=0) HX2.out
 · exact (HT.out w2 HB2.out).held (set_other hne)
end Go.Proofs.YthcompcjphaahaaGreatDoor
namespace Go.Proofs.YthcompcjphaahaaGreatDoor
open Go.ChangeShapes Go.WideShapes Go.ChangeAt Go.RowKit
set_option linter.unusedVariables false
section
variable {H:Type} {enc:TypeId × Value→H} {w:World}
theorem u64_wf {n:Int} (h:(Lit.int .u64 n).wf=true):0≤n∧n<18446744073709551616:=by
 obtain ⟨h0,h1⟩:=bounds_u64 h
 omega
end
end Go.Proofs.YthcompcjphaahaaGreatDoor
