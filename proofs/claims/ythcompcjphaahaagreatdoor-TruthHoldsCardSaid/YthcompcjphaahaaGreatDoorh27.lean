/- Chapter 18 in plain Lean: what an operand is, why two do not go together, why a tree does not fit, the datum of an operand. No run of the program. -/
import Derived.Test.YthcompcjphaahaaGreatDoorh26
import Derived.Test.YthcompcjphaahaaGreatDoorh34
set_option maxRecDepth 100000
set_option maxHeartbeats 8000000
set_option linter.unusedVariables false
set_option linter.unusedSimpArgs false
namespace Go.Proofs.YthcompcjphaahaaGreatDoor
open Go Go.RowKit
def kindW (k:Int) (u:Nat):Int × Int:=if k=9 then (4+(u:Int),0) else if k=1 then (3,0) else if k=10 then (2,0) else if numK k then (1,0) else (0,8)
def findW (L:Nat→Pa.TypeV) (R:Pa.FindR):Int × Int:=if R.err≠0 then (0,R.err) else kindW (L R.at').kind R.at'
def whatA (L:Nat→Pa.TypeV) (len:Nat) (t:Int) (o:Opd):Int × Int:=
 if o.kind=2 then (1,0) else if o.kind=3 then (2,0) else if o.kind=4 then (3,0) else if o.kind=5 then (0,18)
 else if o.kind=1 then findW L (Pa.findA L len t o.text) else (0,1)
def datW (L:Nat→Pa.TypeV) (len:Nat) (w:Int) (o:Opd):DatV:=
 if 4≤w∧0≤Pa.itemL L len (w - 4) o.text then datK 9 ((L (w - 4).toNat).items (Pa.itemL L len (w - 4) o.text).toNat).num else ⟨2,false,0,o.text⟩
def datE (L:Nat→Pa.TypeV) (len:Nat) (t:Int) (o other:Opd):DatV:=
 if o.kind=2 then ⟨1,o.neg&&o.num !=0,o.num,⟨#[]⟩⟩ else if o.kind=4 then ⟨3,false,o.num,⟨#[]⟩⟩
 else if o.kind=3 then datW L len (if other.kind=1 then (whatA L len t other).1 else 0) o else noDat
theorem ji6 {L:Nat→Pa.TypeV} {len:Nat} (hv:∀ i,i<len→Pa.OkT L i):∀ (l:List (Pa.PieceV × Bool)) (u:Nat) (st:List Pa.StepV),u<len→(Pa.findG L len l u st).err=0→(Pa.findG L len l u st).at' <len
 | [],u,st,hu,_=>hu
 |x::r,u,st,hu,h=>by
  rw [Pa.findG] at h ⊢
  by_cases hp:Pa.pstE L len u x.1=0
  · rw [if_pos hp] at h ⊢;exact ji6 hv r _ _ (Pa.yq hv hu).2 h
  · rw [if_neg hp] at h;exact absurd h hp
theorem jeo {L:Nat→Pa.TypeV} {len:Nat} {t:Int} {s:ByteArray} (h:(Pa.findA L len t s).err=0):(Pa.findA L len t s).at' <len:=by
 unfold Pa.findA at h ⊢
 cases hT:Pa.hasT L len t with
 |false=>rw [hT,if_neg (by decide)] at h;cases h
 |true=>
  obtain ⟨k,rfl,hk,hok⟩:=Pa.Yc hT;rw [hT,if_pos rfl] at h;rw [if_pos rfl]
  by_cases hF:Pa.formS s=true
  · rw [if_pos hF] at h ⊢;exact ji6 (Pa.Z9 hok) _ _ _ (by simpa using hk) h
  · rw [if_neg hF] at h;cases h
theorem jpn (k:Int) (u:Nat):0≤(kindW k u).1∧(kindW k u).1≤4+u∧(4≤(kindW k u).1→(kindW k u).1=4+u):=by
 unfold kindW
 by_cases h9:k=9
 · rw [if_pos h9];exact ⟨by show (0:Int)≤4+u;omega,Int.le_refl _,fun _=>rfl⟩
 · rw [if_neg h9]
   by_cases h1:k=1
   · rw [if_pos h1];simp only;omega
   · rw [if_neg h1]
     by_cases h10:k=10
     · rw [if_pos h10];simp only;omega
     · rw [if_neg h10]
       cases numK k <;> simp <;> omega
theorem jmg (L:Nat→Pa.TypeV) (len:Nat) (t:Int) (o:Opd):0≤(whatA L len t o).1∧(4≤(whatA L len t o).1→(whatA L len t o).1 - 4<(len:Int)):=by
 unfold whatA
 by_cases h2:o.kind=2
 · rw [if_pos h2];simp only;omega
 · rw [if_neg h2]
   by_cases h3:o.kind=3
   · rw [if_pos h3];simp only;omega
   · rw [if_neg h3]
     by_cases h4:o.kind=4
     · rw [if_pos h4];simp only;omega
     · rw [if_neg h4]
       by_cases h5:o.kind=5
       · rw [if_pos h5];simp only;omega
       · rw [if_neg h5]
         by_cases h1:o.kind=1
         · rw [if_pos h1];unfold findW
           by_cases he:(Pa.findA L len t o.text).err≠0
           · rw [if_pos he];simp only;omega
           · rw [if_neg he];have hl:=jeo (Decidable.not_not.1 he);have hk:=jpn (L (Pa.findA L len t o.text).at').kind (Pa.findA L len t o.text).at';exact ⟨hk.1,fun h=>by have:=hk.2.2 h;omega⟩
         · rw [if_neg h1];simp only;omega
end Go.Proofs.YthcompcjphaahaaGreatDoor
namespace Go.Proofs.YthcompcjphaahaaGreatDoor
open Go.RowKit
theorem jz {w wx:World} {ao:Option Addr} {len:Nat} {L:Nat→Pa.TypeV} (H:∀ i,i<len→Pa.TypeAt w ao i (L i)) (hb:Below w.heap.size w wx):∀ i,i<len→Pa.TypeAt wx ao i (L i):=fun i hi=>(H i hi).held hb
def WhatTo (L:Nat→Pa.TypeV) (ao:Option Addr) (len cap:Nat) (t:Int) (o:Opd) (w:World):Prop:=
 Calls Tryz.prog 55 #[.slice ao len cap,.int .i64 t,.agg #[.int .i64 o.kind,.string o.text,.bool o.neg,.int .u64 o.num]] w fun e w'=>e=.returned (.tuple #[.int .i64 (whatA L len t o).1,.int .i64 (whatA L len t o).2])∧Below w.heap.size w w'
theorem jpi (L:Nat→Pa.TypeV) (ao:Option Addr) (len cap:Nat) (hlen:len≤1000000) (t:Int) (o:Opd) (ho:o.text.size≤1000000) (w:World) (H:∀ i,i<len→Pa.TypeAt w ao i (L i)):WhatTo L ao len cap t o w:=by
 unfold WhatTo;obtain ⟨k,x,g,n⟩:=o;have HF:=lh (Pa.jbu ao len cap L hlen t x ho (w.alloc (.cells #[.int .i64 k,.string x,.bool g,.int .u64 n] 34)) (jz H ((Below.refl _ _).alloc (Nat.le_refl _) _)));have HH:=lh H;have hB0:Below w.heap.size w (w.alloc (.cells #[.int .i64 k,.string x,.bool g,.int .u64 n] 34)):=(Below.refl _ _).alloc (Nat.le_refl _) _;have HB0:=lh hB0;have HL:=lh (@jeo L len t x);simp only;have hw:whatA L len t ⟨k,x,g,n⟩=if k=2 then (1,0) else if k=3 then (2,0) else if k=4 then (3,0) else if k=5 then (0,18) else if k=1 then findW L (Pa.findA L len t x) else (0,1):=rfl;obtain ⟨R,hR⟩:∃ R,whatA L len t ⟨k,x,g,n⟩=R:=⟨_,rfl⟩;rw [hR] at hw ⊢;clear H hB0 hR
 by_cases h2:k=2
 · subst h2;rw [if_pos rfl] at hw;rw [hw];clear hw;go_enter Tryz.func55,Tryz.ntmps55;go_wp2_with (fail)
   go_ret2
   exact ⟨rfl,HB0.out⟩
 rw [if_neg h2] at hw
 have h2:(k==2)=false:=by rw [beq_eq_false_iff_ne];exact h2
 by_cases h3:k=3
 · subst h3;rw [if_pos rfl] at hw;rw [hw];clear hw h2;go_enter Tryz.func55,Tryz.ntmps55;go_wp2_with (fail)
   go_ret2
   exact ⟨rfl,HB0.out⟩
 rw [if_neg h3] at hw
 have h3:(k==3)=false:=by rw [beq_eq_false_iff_ne];exact h3
 by_cases h4:k=4
 · subst h4;rw [if_pos rfl] at hw;rw [hw];clear hw h2 h3;go_enter Tryz.func55,Tryz.ntmps55;go_wp2_with (fail)
   go_ret2
   exact ⟨rfl,HB0.out⟩
 rw [if_neg h4] at hw
 have h4:(k==4)=false:=by rw [beq_eq_false_iff_ne];exact h4
 by_cases h5:k=5
 · subst h5;rw [if_pos rfl] at hw;rw [hw];clear hw h2 h3 h4;go_enter Tryz.func55,Tryz.ntmps55;go_wp2_with (fail)
   go_ret2
   exact ⟨rfl,HB0.out⟩
 rw [if_neg h5] at hw
 have h5:(k==5)=false:=by rw [beq_eq_false_iff_ne];exact h5
 by_cases h1:k=1
 · subst h1;rw [if_pos rfl] at hw;clear h2 h3 h4 h5;obtain ⟨st,at',er,hR⟩:∃ st at' er,Pa.findA L len t x=⟨st,at',er⟩:=⟨_,_,_,rfl⟩;rw [hR] at HF HL hw;simp only at HL
   by_cases he:er=0
   · subst he;have hat:=HL.out rfl
     have hw2:R=kindW (L at').kind at':=by rw [hw];unfold findW;rw [if_neg (fun h=>h rfl)]
     clear hw HL;obtain ⟨b,off,rfl,c0,-,-,-,-,-,-,-⟩:=HH.out at' hat
     have hai:(at':Int)<(len:Int):=by omega
     have haw:IntKind.i64.wrap (4+(at':Int))=4+(at':Int):=IntWalk.i64_in _ (by omega);obtain ⟨q,hq⟩:∃ q,(L at').kind=q:=⟨_,rfl⟩;rw [hq] at hw2 c0;have HC:=lh (Pa.jk HB0.out c0);unfold Pa.FindTo at HF;simp only at HF;clear c0 hq
     by_cases q9:q=9
     · subst q9;rw [hw2,show kindW 9 at'=(4+(at':Int),0) from rfl];clear hw2;go_enter Tryz.func55,Tryz.ntmps55
       go_wp2_with (first
        |(go_at_call 31;refine HF.out.mono ?_;rintro e w1 ⟨v1,rfl,-,hb⟩;have c1:=Pa.jk hb HC.out;have HB1:=lh hb;clear hb)
        |(go_at_call 61;refine (Pa.jp _ _).mono ?_;rintro e w9 ⟨rfl,rfl⟩))
       go_ret2
       exact ⟨rfl,HB0.out.trans (HB1.out.mono HB0.out.size)⟩
     by_cases q1:q=1
     · subst q1;rw [hw2,show kindW 1 at'=(3,0) from rfl];clear hw2 q9;go_enter Tryz.func55,Tryz.ntmps55
       go_wp2_with (first
        |(go_at_call 31;refine HF.out.mono ?_;rintro e w1 ⟨v1,rfl,-,hb⟩;have c1:=Pa.jk hb HC.out;have HB1:=lh hb;clear hb)
        |(go_at_call 61;refine (Pa.jp _ _).mono ?_;rintro e w9 ⟨rfl,rfl⟩))
       go_ret2
       exact ⟨rfl,HB0.out.trans (HB1.out.mono HB0.out.size)⟩
     by_cases q10:q=10
     · subst q10;rw [hw2,show kindW 10 at'=(2,0) from rfl];clear hw2 q9 q1;go_enter Tryz.func55,Tryz.ntmps55
       go_wp2_with (first
        |(go_at_call 31;refine HF.out.mono ?_;rintro e w1 ⟨v1,rfl,-,hb⟩;have c1:=Pa.jk hb HC.out;have HB1:=lh hb;clear hb)
        |(go_at_call 61;refine (Pa.jp _ _).mono ?_;rintro e w9 ⟨rfl,rfl⟩))
       go_ret2
       exact ⟨rfl,HB0.out.trans (HB1.out.mono HB0.out.size)⟩
     have hw3:R=if numK q then (1,0) else (0,8):=by rw [hw2];unfold kindW;rw [if_neg q9,if_neg q1,if_neg q10]
     have q9:(q==9)=false:=by rw [beq_eq_false_iff_ne];exact q9
     have q1:(q==1)=false:=by rw [beq_eq_false_iff_ne];exact q1
     have q10:(q==10)=false:=by rw [beq_eq_false_iff_ne];exact q10
     clear hw2
     cases hn:numK q with
     |true=>
      rw [hn,if_pos rfl] at hw3;rw [hw3];clear hw3;go_enter Tryz.func55,Tryz.ntmps55
      go_wp2_with (first
       |(go_at_call 31;refine HF.out.mono ?_;rintro e w1 ⟨v1,rfl,-,hb⟩;have c1:=Pa.jk hb HC.out;have HB1:=lh hb;clear hb)
       |(go_at_call 61;refine (Pa.jp _ _).mono ?_;rintro e w9 ⟨rfl,rfl⟩))
      go_ret2
      exact ⟨rfl,HB0.out.trans (HB1.out.mono HB0.out.size)⟩
     |false=>
      rw [hn,if_neg (by decide)] at hw3;rw [hw3];clear hw3;go_enter Tryz.func55,Tryz.ntmps55
      go_wp2_with (first
       |(go_at_call 31;refine HF.out.mono ?_;rintro e w1 ⟨v1,rfl,-,hb⟩;have c1:=Pa.jk hb HC.out;have HB1:=lh hb;clear hb)
       |(go_at_call 61;refine (Pa.jp _ _).mono ?_;rintro e w9 ⟨rfl,rfl⟩))
      go_ret2
      exact ⟨rfl,HB0.out.trans (HB1.out.mono HB0.out.size)⟩
   · have hw2:R=(0,er):=by rw [hw];unfold findW;rw [if_pos he]
     rw [hw2]
     have hne:(er !=0)=true:=by rw [bne_iff_ne];exact he
     unfold Pa.FindTo at HF;simp only at HF;clear hw hw2 HL he;go_enter Tryz.func55,Tryz.ntmps55;go_wp2_with (go_at_call 31;refine HF.out.mono ?_;rintro e w1 ⟨v1,rfl,-,hb⟩;have HB1:=lh hb;clear hb)
     go_ret2
     exact ⟨rfl,HB0.out.trans (HB1.out.mono HB0.out.size)⟩
 · rw [if_neg h1] at hw
   have h1:(k==1)=false:=by rw [beq_eq_false_iff_ne];exact h1
   rw [hw];clear hw;go_enter Tryz.func55,Tryz.ntmps55;go_wp2_with (fail)
   go_ret2
   exact ⟨rfl,HB0.out⟩
theorem kj {w:World} {g:Nat} {k n:Int} {x:ByteArray} {b:Bool} (h:w.heap[g]?=some (.cells #[.int .i64 k,.string x,.bool b,.int .u64 n] 34)):w.cell? ⟨g,0,none⟩=some (.int .i64 k)∧w.cell? ⟨g,1,none⟩=some (.string x)∧w.cell? ⟨g,2,none⟩=some (.bool b)∧w.cell? ⟨g,3,none⟩=some (.int .u64 n):=⟨ja h rfl,ja h rfl,ja h rfl,ja h rfl⟩
def sW (w:Int):Int:=if w=2 then 3 else if w=3 then 2 else if 4≤w then 4 else w
def sO (w:Int):Int:=if 4≤w then w - 4 else 0
def sP (R:Int × Int):Value:=.tuple #[.agg #[.int .i64 (sW R.1),.int .i64 (sO R.1)],.int .i64 R.2]
theorem jvf (u:Nat):sP (4+(u:Int),0)=.tuple #[.agg #[.int .i64 4,.int .i64 (u:Nat)],.int .i64 0]:=by
 unfold sP sW sO;rw [if_neg (by simp only;omega),if_neg (by simp only;omega),if_pos (by simp only;omega),if_pos (by simp only;omega)];simp only;rw [show (4:Int)+(u:Int) - 4=(u:Nat) by omega]
theorem endPS {V:World} {act:Act} {Q:Ending→World→Prop} {a b e:Int} (hd:act.defers=[]) (rb:Nat) (h2:act.tmps.getD 4 undef=.pointer (some ⟨rb,0,none⟩)) (h3:act.tmps.getD 5 undef=.int .i64 e) (hr:V.heap[rb]?=some (.cells #[.int .i64 a,.int .i64 b] 178))
  (hQ:Q (.returned (.tuple #[.agg #[.int .i64 a,.int .i64 b],.int .i64 e])) V):bodyPost Tryz.prog Tryz.f121 Q Exit.ret act V:=by
 refine bodyPost_ret (v:=.tuple #[.agg #[.int .i64 a,.int .i64 b],.int .i64 e]) ?_ hd hQ;have hl2:=run_loadVar_row (P:=Tryz.prog) V rb 178 178 #[.int .i64 a,.int .i64 b] _ _ hr Tryz.underlying178 rfl (by kernel_rfl);rw [Array.getD_eq_getD_getElem?] at h2 h3;simp [results,Tryz.results121,h2,h3,asAddr,hl2]
structure PsSt (w:World) (ao:Option Addr) (len cap:Nat) (t:Int) (g r:Nat) (wx:World):Prop where
 sc:wx.heap[g]?=some (.cells #[.slice ao len cap,.int .i64 t] 137)
 rs:wx.heap[r]?=some (.cells #[.int .i64 0,.int .i64 0] 178)
 bel:Below w.heap.size w wx
theorem PsSt.next {w:World} {ao:Option Addr} {len cap:Nat} {t:Int} {g r:Nat} {wx wy:World} (h:PsSt w ao len cap t g r wx) (hb:Below wx.heap.size wx wy):PsSt w ao len cap t g r wy:=
 ⟨rowKeep hb h.sc,rowKeep hb h.rs,h.bel.trans (hb.mono h.bel.size)⟩
theorem PsSt.start (w:World) (ao:Option Addr) (len cap:Nat) (t:Int):PsSt w ao len cap t w.heap.size (w.heap.size+1) ((w.alloc (.cells #[.slice ao len cap,.int .i64 t] 137)).alloc (.cells #[.int .i64 0,.int .i64 0] 178)):=by
 have h1:=jd w (.cells #[.slice ao len cap,.int .i64 t] 137);have h2:=jd (w.alloc (.cells #[.slice ao len cap,.int .i64 t] 137)) (.cells #[.int .i64 0,.int .i64 0] 178);rw [World.size_alloc] at h2;exact ⟨je h1,h2,((Below.refl _ _).alloc (Nat.le_refl _) _).alloc (by simp) _⟩
def PSortTo (L:Nat→Pa.TypeV) (ao:Option Addr) (len cap:Nat) (t:Int) (x:ByteArray) (w:World):Prop:=
 Calls Tryz.prog 121 #[.agg #[.slice ao len cap,.int .i64 t],.string x] w fun e w'=>e=.returned (sP (findW L (Pa.findA L len t x)))∧Below w.heap.size w w'
theorem jgl (L:Nat→Pa.TypeV) (ao:Option Addr) (len cap:Nat) (hlen:len≤1000000) (hcap:len≤cap) (t:Int) (x:ByteArray) (hx:x.size≤1000000) (w:World) (H:∀ i,i<len→Pa.TypeAt w ao i (L i)):PSortTo L ao len cap t x w:=by
 unfold PSortTo;have HS0:=lh (PsSt.start w ao len cap t);have HF:=lh (fun wx (hb:Below w.heap.size w wx)=>Pa.jdu ao len cap L hlen hcap t x hx wx (jz H hb));have HH:=lh (fun wx (hb:Below w.heap.size w wx)=>jz H hb);have HL:=lh (@jeo L len t x);obtain ⟨R,hR⟩:∃ R,findW L (Pa.findA L len t x)=R:=⟨_,rfl⟩;rw [hR];have hw:R=findW L (Pa.findA L len t x):=hR.symm;clear H hR;obtain ⟨st,at',er,hR⟩:∃ st at' er,Pa.findA L len t x=⟨st,at',er⟩:=⟨_,_,_,rfl⟩;rw [hR] at HF HL hw;simp only at HL;unfold Pa.FindTo at HF;simp only at HF;clear hR
 by_cases he:er=0
 · subst he;have hat:=HL.out rfl
   have hw2:R=kindW (L at').kind at':=by rw [hw];unfold findW;rw [if_neg (fun h=>h rfl)]
   clear hw HL;obtain ⟨b,off,rfl,c0,-,-,-,-,-,-,-⟩:=HH.out w (Below.refl _ _) at' hat
   have hai:(at':Int)<(len:Int):=by omega
   obtain ⟨q,hq⟩:∃ q,(L at').kind=q:=⟨_,rfl⟩;rw [hq] at hw2 c0;have HC:=lh (fun wx (hb:Below w.heap.size w wx)=>Pa.jk hb c0);clear c0 hq HH
   by_cases q1:q=1
   · subst q1;rw [hw2,show sP (kindW 1 at')=.tuple #[.agg #[.int .i64 2,.int .i64 0],.int .i64 0] from rfl];clear hw2;go_enter Tryz.func121,Tryz.ntmps121
     go_upto_region 1 with (fail)
     generalize (w.alloc (.cells #[.slice (some ⟨b,off,none⟩) len cap,.int .i64 t] 137)).alloc (.cells #[.int .i64 0,.int .i64 0] 178)=W0 at *;have s0:=ja (j:=0) HS0.out.sc rfl;have s1:=ja (j:=1) HS0.out.sc rfl
     go_wp2_with (first
      |(go_at_call 48;refine (HF.out _ (by exact HS0.out.bel)).mono ?_;rintro e w1 ⟨v1,rfl,-,hb⟩;have HS1:=lh (HS0.out.next hb);have s0:=ja (j:=0) HS1.out.sc rfl;have c1:=HC.out _ HS1.out.bel;clear hb)
      |(go_at_call 132;refine (Pa.kh _ _).mono ?_;rintro e w9 ⟨rfl,rfl⟩)
      |(refine wpList_store_rowTo rfl 178 _ _ rfl rfl (w.heap.size+1) #[.int .i64 2,.int .i64 0] rfl rfl _ _ HS1.out.rs (by kernel_rfl) (by kernel_rfl) (by kernel_rfl) ?_))
     exact endPS rfl (w.heap.size+1) rfl rfl (setRow_heap _ _ _ _ _ _ HS1.out.rs) ⟨rfl,below_setRow HS1.out.bel (by omega) _⟩
   by_cases q9:q=9
   · subst q9;rw [hw2,show kindW 9 at'=(4+(at':Int),0) from rfl,jvf];clear hw2;go_enter Tryz.func121,Tryz.ntmps121
     go_upto_region 1 with (fail)
     generalize (w.alloc (.cells #[.slice (some ⟨b,off,none⟩) len cap,.int .i64 t] 137)).alloc (.cells #[.int .i64 0,.int .i64 0] 178)=W0 at *;have s0:=ja (j:=0) HS0.out.sc rfl;have s1:=ja (j:=1) HS0.out.sc rfl
     go_wp2_with (first
      |(go_at_call 48;refine (HF.out _ (by exact HS0.out.bel)).mono ?_;rintro e w1 ⟨v1,rfl,-,hb⟩;have HS1:=lh (HS0.out.next hb);have s0:=ja (j:=0) HS1.out.sc rfl;have c1:=HC.out _ HS1.out.bel;clear hb)
      |(go_at_call 132;refine (Pa.kh _ _).mono ?_;rintro e w9 ⟨rfl,rfl⟩)
      |(refine wpList_store_rowTo rfl 178 _ _ rfl rfl (w.heap.size+1) #[.int .i64 4,.int .i64 (at':Nat)] rfl rfl _ _ HS1.out.rs (by kernel_rfl) (by kernel_rfl) (by kernel_rfl) ?_))
     exact endPS rfl (w.heap.size+1) rfl rfl (setRow_heap _ _ _ _ _ _ HS1.out.rs) ⟨rfl,below_setRow HS1.out.bel (by omega) _⟩
   by_cases q10:q=10
   · subst q10
     have hn:numK 10=false:=by kernel_rfl
     rw [hw2,show sP (kindW 10 at')=.tuple #[.agg #[.int .i64 3,.int .i64 0],.int .i64 0] from rfl];clear hw2;go_enter Tryz.func121,Tryz.ntmps121
     go_upto_region 1 with (fail)
     generalize (w.alloc (.cells #[.slice (some ⟨b,off,none⟩) len cap,.int .i64 t] 137)).alloc (.cells #[.int .i64 0,.int .i64 0] 178)=W0 at *;have s0:=ja (j:=0) HS0.out.sc rfl;have s1:=ja (j:=1) HS0.out.sc rfl
     go_wp2_with (first
      |(go_at_call 48;refine (HF.out _ (by exact HS0.out.bel)).mono ?_;rintro e w1 ⟨v1,rfl,-,hb⟩;have HS1:=lh (HS0.out.next hb);have s0:=ja (j:=0) HS1.out.sc rfl;have c1:=HC.out _ HS1.out.bel;clear hb)
      |(go_at_call 132;refine (Pa.kh _ _).mono ?_;rintro e w9 ⟨rfl,rfl⟩)
      |(refine wpList_store_rowTo rfl 178 _ _ rfl rfl (w.heap.size+1) #[.int .i64 3,.int .i64 0] rfl rfl _ _ HS1.out.rs (by kernel_rfl) (by kernel_rfl) (by kernel_rfl) ?_))
     exact endPS rfl (w.heap.size+1) rfl rfl (setRow_heap _ _ _ _ _ _ HS1.out.rs) ⟨rfl,below_setRow HS1.out.bel (by omega) _⟩
   have hw3:R=if numK q then (1,0) else (0,8):=by rw [hw2];unfold kindW;rw [if_neg q9,if_neg q1,if_neg q10]
   have q9:(q==9)=false:=by rw [beq_eq_false_iff_ne];exact q9
   have q1:(q==1)=false:=by rw [beq_eq_false_iff_ne];exact q1
   have q10:(q==10)=false:=by rw [beq_eq_false_iff_ne];exact q10
   clear hw2
   cases hn:numK q with
   |true=>
    rw [hn,if_pos rfl] at hw3;rw [hw3,show sP (1,0)=.tuple #[.agg #[.int .i64 1,.int .i64 0],.int .i64 0] from rfl];clear hw3;go_enter Tryz.func121,Tryz.ntmps121
    go_upto_region 1 with (fail)
    generalize (w.alloc (.cells #[.slice (some ⟨b,off,none⟩) len cap,.int .i64 t] 137)).alloc (.cells #[.int .i64 0,.int .i64 0] 178)=W0 at *;have s0:=ja (j:=0) HS0.out.sc rfl;have s1:=ja (j:=1) HS0.out.sc rfl
    go_wp2_with (first
     |(go_at_call 48;refine (HF.out _ (by exact HS0.out.bel)).mono ?_;rintro e w1 ⟨v1,rfl,-,hb⟩;have HS1:=lh (HS0.out.next hb);have s0:=ja (j:=0) HS1.out.sc rfl;have c1:=HC.out _ HS1.out.bel;clear hb)
     |(go_at_call 132;refine (Pa.kh _ _).mono ?_;rintro e w9 ⟨rfl,rfl⟩)
     |(refine wpList_store_rowTo rfl 178 _ _ rfl rfl (w.heap.size+1) #[.int .i64 1,.int .i64 0] rfl rfl _ _ HS1.out.rs (by kernel_rfl) (by kernel_rfl) (by kernel_rfl) ?_))
    exact endPS rfl (w.heap.size+1) rfl rfl (setRow_heap _ _ _ _ _ _ HS1.out.rs) ⟨rfl,below_setRow HS1.out.bel (by omega) _⟩
   |false=>
    rw [hn,if_neg (by decide)] at hw3;rw [hw3,show sP (0,8)=.tuple #[.agg #[.int .i64 0,.int .i64 0],.int .i64 8] from rfl];clear hw3;go_enter Tryz.func121,Tryz.ntmps121
    go_upto_region 1 with (fail)
    generalize (w.alloc (.cells #[.slice (some ⟨b,off,none⟩) len cap,.int .i64 t] 137)).alloc (.cells #[.int .i64 0,.int .i64 0] 178)=W0 at *;have s0:=ja (j:=0) HS0.out.sc rfl;have s1:=ja (j:=1) HS0.out.sc rfl
    go_wp2_with (first
     |(go_at_call 48;refine (HF.out _ (by exact HS0.out.bel)).mono ?_;rintro e w1 ⟨v1,rfl,-,hb⟩;have HS1:=lh (HS0.out.next hb);have s0:=ja (j:=0) HS1.out.sc rfl;have c1:=HC.out _ HS1.out.bel;clear hb)
     |(go_at_call 132;refine (Pa.kh _ _).mono ?_;rintro e w9 ⟨rfl,rfl⟩)
     |(refine wpList_store_rowTo rfl 178 _ _ rfl rfl (w.heap.size+1) #[.int .i64 0,.int .i64 0] rfl rfl _ _ HS1.out.rs (by kernel_rfl) (by kernel_rfl) (by kernel_rfl) ?_))
    exact endPS rfl (w.heap.size+1) rfl rfl (setRow_heap _ _ _ _ _ _ HS1.out.rs) ⟨rfl,below_setRow HS1.out.bel (by omega) _⟩
 · have hw2:R=(0,er):=by rw [hw];unfold findW;rw [if_pos he]
   rw [hw2,show sP (0,er)=.tuple #[.agg #[.int .i64 0,.int .i64 0],.int .i64 er] from rfl]
   have hne:(er !=0)=true:=by rw [bne_iff_ne];exact he
   clear hw hw2 HL he;go_enter Tryz.func121,Tryz.ntmps121
   go_upto_region 1 with (fail)
   generalize (w.alloc (.cells #[.slice ao len cap,.int .i64 t] 137)).alloc (.cells #[.int .i64 0,.int .i64 0] 178)=W0 at *;have s0:=ja (j:=0) HS0.out.sc rfl;have s1:=ja (j:=1) HS0.out.sc rfl
   go_wp2_with (first
    |(go_at_call 48;refine (HF.out _ (by exact HS0.out.bel)).mono ?_;rintro e w1 ⟨v1,rfl,-,hb⟩;have HS1:=lh (HS0.out.next hb);clear hb)
    |(refine wpList_store_rowTo rfl 178 _ _ rfl rfl (w.heap.size+1) #[.int .i64 0,.int .i64 0] rfl rfl _ _ HS1.out.rs (by kernel_rfl) (by kernel_rfl) (by kernel_rfl) ?_))
   exact endPS rfl (w.heap.size+1) rfl rfl (setRow_heap _ _ _ _ _ _ HS1.out.rs) ⟨rfl,below_setRow HS1.out.bel (by omega) _⟩
def Two (w:World) (a b:Opd) (w':World):Prop:=w'.heap[w.heap.size]?=some (.cells #[.int .i64 a.kind,.string a.text,.bool a.neg,.int .u64 a.num] 34)∧w'.heap[w.heap.size+1]?=some (.cells #[.int .i64 b.kind,.string b.text,.bool b.neg,.int .u64 b.num] 34)∧Below w.heap.size w w'
theorem Two.bel {w:World} {a b:Opd} {w1:World} (h:Two w a b w1):Below w.heap.size w w1:=h.2.2
theorem Two.start (w:World) (a b:Opd):Two w a b ((w.alloc (.cells #[.int .i64 a.kind,.string a.text,.bool a.neg,.int .u64 a.num] 34)).alloc (.cells #[.int .i64 b.kind,.string b.text,.bool b.neg,.int .u64 b.num] 34)):=by
 have h1:=jd w (.cells #[.int .i64 a.kind,.string a.text,.bool a.neg,.int .u64 a.num] 34);have h2:=jd (w.alloc (.cells #[.int .i64 a.kind,.string a.text,.bool a.neg,.int .u64 a.num] 34)) (.cells #[.int .i64 b.kind,.string b.text,.bool b.neg,.int .u64 b.num] 34);rw [World.size_alloc] at h2;refine ⟨rowKeep ((Below.refl _ _).alloc (Nat.le_refl _) _) h1,h2,((Below.refl _ _).alloc (Nat.le_refl _) _).alloc (by simp) _⟩
theorem Two.next {w:World} {a b:Opd} {w1 w2:World} (h:Two w a b w1) (hb:Below w1.heap.size w1 w2):Two w a b w2:=⟨rowKeep hb h.1,rowKeep hb h.2.1,h.2.2.trans (hb.mono h.2.2.size)⟩
structure Dst (w:World) (a b:Opd) (w1:World):Prop where
 two:Two w a b w1
 res:w1.heap[w.heap.size+1+1]?=some (.cells #[.int .i64 0,.bool false,.int .u64 0,.string ⟨#[]⟩] 42)
theorem Dst.bel {w:World} {a b:Opd} {w1:World} (h:Dst w a b w1):Below w.heap.size w w1:=h.two.bel
theorem Dst.next {w:World} {a b:Opd} {w1 w2:World} (h:Dst w a b w1) (hb:Below w1.heap.size w1 w2):Dst w a b w2:=⟨h.two.next hb,rowKeep hb h.res⟩
theorem Dst.start (w:World) (a b:Opd):Dst w a b (((w.alloc (.cells #[.int .i64 a.kind,.string a.text,.bool a.neg,.int .u64 a.num] 34)).alloc (.cells #[.int .i64 b.kind,.string b.text,.bool b.neg,.int .u64 b.num] 34)).alloc (.cells #[.int .i64 0,.bool false,.int .u64 0,.string ⟨#[]⟩] 42)):=by
 have h2:=jd ((w.alloc (.cells #[.int .i64 a.kind,.string a.text,.bool a.neg,.int .u64 a.num] 34)).alloc (.cells #[.int .i64 b.kind,.string b.text,.bool b.neg,.int .u64 b.num] 34)) (.cells #[.int .i64 0,.bool false,.int .u64 0,.string ⟨#[]⟩] 42);rw [World.size_alloc,World.size_alloc] at h2;exact ⟨(Two.start w a b).next ((Below.refl _ _).alloc (Nat.le_refl _) _),h2⟩
def RDatTo (L:Nat→Pa.TypeV) (ao:Option Addr) (len cap:Nat) (t:Int) (a b:Opd) (w:World):Prop:=
 Calls Tryz.prog 30 #[.slice ao len cap,.int .i64 t,.agg #[.int .i64 a.kind,.string a.text,.bool a.neg,.int .u64 a.num],.agg #[.int .i64 b.kind,.string b.text,.bool b.neg,.int .u64 b.num]] w fun e w'=>e=.returned (Pa.datV (datE L len t a b))∧Below w.heap.size w w'
theorem jp7 {w:World} {b off i m:Nat} {T:Pa.TypeV} (h:Pa.TypeAt w (some ⟨b,off,none⟩) i T) (hm:m<T.ilen):∃ ib ioff ic,w.cell? ⟨b,off+i*6+5,none⟩=some (.slice (some ⟨ib,ioff,none⟩) T.ilen ic)∧w.cell? ⟨ib,ioff+m*5+1,none⟩=some (.int .u64 (T.items m).num):=by
 obtain ⟨b',off',e,h0,h1,h2,h3,h4,h5,wf,hi⟩:=h
 cases e
 obtain ⟨ib,ioff,hia,g0,g1,g2,g3,g4,_⟩:=hi.2 m hm;rw [hia] at h5;exact ⟨ib,ioff,_,h5,g1⟩
theorem yw {d:DatV} {k n:Int} {g:Bool} {x:ByteArray} (h:d=⟨k,g,n,x⟩):Ending.returned (.agg #[.int .i64 k,.bool g,.int .u64 n,.string x])=.returned (Pa.datV d):=by rw [h];rfl
theorem jkb (L:Nat→Pa.TypeV) (ao:Option Addr) (len cap:Nat) (hlen:len≤1000000) (t:Int) (a b:Opd) (ha:a.text.size≤1000000) (hb:b.text.size≤1000000) (w:World) (H:∀ i,i<len→Pa.TypeAt w ao i (L i)):RDatTo L ao len cap t a b w:=by
 unfold RDatTo;have HW:=lh (fun wx (hx:Below w.heap.size w wx)=>jpi L ao len cap hlen t b hb wx (jz H hx));have HI:=lh (fun u s wx (hx:Below w.heap.size w wx)=>Pa.jbz ao len cap L u s (by omega) wx (jz H hx));have HH:=lh (fun wx (hx:Below w.heap.size w wx)=>jz H hx);have hib:=jmg L len t b;have HT0:=lh (Dst.start w a b);unfold WhatTo at HW;obtain ⟨X,hX⟩:∃ X,(whatA L len t b).1=X:=⟨_,rfl⟩;rw [hX] at HW hib;generalize (whatA L len t b).2=EB at HW;obtain ⟨D,hD⟩:∃ D,datE L len t a b=D:=⟨_,rfl⟩
 have hd:D=if a.kind=2 then ⟨1,a.neg&&a.num !=0,a.num,⟨#[]⟩⟩ else if a.kind=4 then ⟨3,false,a.num,⟨#[]⟩⟩ else if a.kind=3 then datW L len (if b.kind=1 then X else 0) a else noDat:=by rw [←hD,←hX];rfl
 rw [hD];obtain ⟨ka,xa,ga,na⟩:=a;obtain ⟨kb,xb,gb,nb⟩:=b;simp only at HW HT0 hd ha ⊢;obtain ⟨a0,a1,a2,a3⟩:=kj HT0.out.two.1;obtain ⟨b0,b1,b2,b3⟩:=kj HT0.out.two.2.1;simp only at a0 a1 a2 a3 b0 b1 b2 b3;clear hX hD hb H
 by_cases h2:ka=2
 · subst h2;rw [if_pos rfl] at hd;have HDD:=lh hd;clear hd
   cases ga with
   |true=>
    obtain ⟨q,hq⟩:∃ q,(na !=0)=q:=⟨_,rfl⟩;have HDQ:=lh (show D=⟨1,q,na,⟨#[]⟩⟩ by rw [HDD.out,←hq];rfl);go_enter Tryz.func30,Tryz.ntmps30;go_wp2_with (first|(refine wpList_store_rowTo rfl 42 _ _ rfl rfl (w.heap.size+1+1) #[.int .i64 1,.bool q,.int .u64 na,.string ⟨#[]⟩] rfl rfl _ _ HT0.out.res (by kernel_rfl) (by kernel_rfl) (by kernel_rfl) ?_));refine bodyPost_ret (v:=.agg #[.int .i64 1,.bool q,.int .u64 na,.string ⟨#[]⟩]) ?_ rfl ⟨yw HDQ.out,below_setRow HT0.out.bel (by omega) _⟩;have hl:=run_loadVar_row (P:=Tryz.prog) _ (w.heap.size+1+1) _ 42 _ _ _ (setRow_heap _ _ _ #[.int .i64 1,.bool q,.int .u64 na,.string ⟨#[]⟩] _ _ HT0.out.res) Tryz.underlying42 rfl (by kernel_rfl);simp [results,Tryz.results30,asAddr];exact hl
   |false=>
    have HDQ:=lh (show D=⟨1,false,na,⟨#[]⟩⟩ by rw [HDD.out];rfl);go_enter Tryz.func30,Tryz.ntmps30;go_wp2_with (first|(refine wpList_store_rowTo rfl 42 _ _ rfl rfl (w.heap.size+1+1) #[.int .i64 1,.bool false,.int .u64 na,.string ⟨#[]⟩] rfl rfl _ _ HT0.out.res (by kernel_rfl) (by kernel_rfl) (by kernel_rfl) ?_));refine bodyPost_ret (v:=.agg #[.int .i64 1,.bool false,.int .u64 na,.string ⟨#[]⟩]) ?_ rfl ⟨yw HDQ.out,below_setRow HT0.out.bel (by omega) _⟩;have hl:=run_loadVar_row (P:=Tryz.prog) _ (w.heap.size+1+1) _ 42 _ _ _ (setRow_heap _ _ _ #[.int .i64 1,.bool false,.int .u64 na,.string ⟨#[]⟩] _ _ HT0.out.res) Tryz.underlying42 rfl (by kernel_rfl);simp [results,Tryz.results30,asAddr];exact hl
 rw [if_neg h2] at hd
 have h2:(ka==2)=false:=by rw [beq_eq_false_iff_ne];exact h2
 by_cases h4:ka=4
 · subst h4;rw [if_pos rfl] at hd;have HDQ:=lh hd;clear hd h2;go_enter Tryz.func30,Tryz.ntmps30;go_wp2_with (first|(refine wpList_store_rowTo rfl 42 _ _ rfl rfl (w.heap.size+1+1) #[.int .i64 3,.bool false,.int .u64 na,.string ⟨#[]⟩] rfl rfl _ _ HT0.out.res (by kernel_rfl) (by kernel_rfl) (by kernel_rfl) ?_));refine bodyPost_ret (v:=.agg #[.int .i64 3,.bool false,.int .u64 na,.string ⟨#[]⟩]) ?_ rfl ⟨yw HDQ.out,below_setRow HT0.out.bel (by omega) _⟩;have hl:=run_loadVar_row (P:=Tryz.prog) _ (w.heap.size+1+1) _ 42 _ _ _ (setRow_heap _ _ _ #[.int .i64 3,.bool false,.int .u64 na,.string ⟨#[]⟩] _ _ HT0.out.res) Tryz.underlying42 rfl (by kernel_rfl);simp [results,Tryz.results30,asAddr];exact hl
 rw [if_neg h4] at hd
 have h4:(ka==4)=false:=by rw [beq_eq_false_iff_ne];exact h4
 by_cases h3:ka=3
 · subst h3;rw [if_pos rfl] at hd;clear h2 h4
   by_cases h1:kb=1
   · subst h1;rw [if_pos rfl] at hd
     by_cases hx:4≤X
     · have hxl:=hib.2 hx;have hxw:IntKind.i64.wrap (X - 4)=X - 4:=IntWalk.i64_in _ (by omega);obtain ⟨u,hu⟩:∃ u:Nat,X - 4=(u:Nat):=⟨(X - 4).toNat,by omega⟩
       have hul:u<len:=by omega
       have HU:=lh hu
       by_cases hn:0≤Pa.itemL L len (X - 4) xa
       · have hnl:Pa.itemL L len (X - 4) xa<((L u).ilen:Nat):=by rw [hu] at hn ⊢;exact Pa.jcj hn
         obtain ⟨m,hm⟩:∃ m:Nat,Pa.itemL L len (X - 4) xa=(m:Nat):=⟨_,(Int.toNat_of_nonneg hn).symm⟩
         have hmi:m<(L u).ilen:=by omega
         have hdq:D=datK 9 ((L u).items m).num:=by
          rw [hd];unfold datW;rw [if_pos ⟨hx,hn⟩,hm,hu];rfl
         have HDQ:=lh hdq;have HIX:=lh (fun wx (hx:Below w.heap.size w wx)=>HI.out (X - 4) xa wx hx);rw [hm] at HIX
         have hwf:(Lit.int .u64 ((L u).items m).num).wf=true:=by
          obtain ⟨_,_,_,_,_,_,_,_,_,_,hi⟩:=HH.out w (Below.refl _ _) u hul;obtain ⟨_,_,_,_,_,_,_,_,hw⟩:=hi.2 m hmi;exact hw.1
         have HDT:=lh (fun wx=>Pa.jau 9 ((L u).items m).num hwf wx);obtain ⟨⟨dk,dg,dn,dx⟩,hdk⟩:∃ d,datK 9 ((L u).items m).num=d:=⟨_,rfl⟩;rw [hdk] at HDT;unfold Pa.datV at HDT;simp only at HDT;have HDQ:=lh (hdq.trans hdk);obtain ⟨tb,toff,rfl,-⟩:=HH.out w (Below.refl _ _) u hul;have HTY:=lh (fun wx (hx:Below w.heap.size w wx)=>jp7 (HH.out wx hx u hul) hmi);obtain ⟨num,hnum⟩:∃ num,((L u).items m).num=num:=⟨_,rfl⟩;rw [hnum] at HDT HTY;obtain ⟨il,hil⟩:∃ il,(L u).ilen=il:=⟨_,rfl⟩;rw [hil] at HTY hmi
         have hmii:(m:Int)<(il:Int):=by omega
         have hui:(u:Int)<(len:Int):=by omega
         rw [hu] at hxw HIX;clear hd hdq hdk hnum hil hnl hn hm hwf HI HH;go_enter Tryz.func30,Tryz.ntmps30;go_wp2_with (first|(go_at_call 33;(with_reducible refine (HDT.out _).mono ?_);rintro e w3 ⟨rfl,hb⟩;have HT3:=lh (HT1.out.next hb);clear hb)|(go_at_call 56;(with_reducible refine (HIX.out _ (by exact HT1.out.bel)).mono ?_);rintro e w2 ⟨rfl,rfl⟩)|(go_at_call 55;(with_reducible refine (HW.out _ (by exact HT0.out.bel)).mono ?_);rintro e w1 ⟨rfl,hb⟩;have HT1:=lh (HT0.out.next hb);obtain ⟨d0,d1,d2,d3⟩:=kj HT1.out.two.1;obtain ⟨ib,ioff,ic,c5,cn⟩:=HTY.out _ HT1.out.bel;clear hb)|(refine wpList_store_rowTo rfl 42 _ _ rfl rfl (w.heap.size+1+1) #[.int .i64 dk,.bool dg,.int .u64 dn,.string dx] rfl rfl _ _ HT3.out.res (by kernel_rfl) (by kernel_rfl) (by kernel_rfl) ?_));refine bodyPost_ret (v:=.agg #[.int .i64 dk,.bool dg,.int .u64 dn,.string dx]) ?_ rfl ⟨yw HDQ.out,below_setRow HT3.out.bel (by omega) _⟩;have hl:=run_loadVar_row (P:=Tryz.prog) _ (w.heap.size+1+1) _ 42 _ _ _ (setRow_heap _ _ _ #[.int .i64 dk,.bool dg,.int .u64 dn,.string dx] _ _ HT3.out.res) Tryz.underlying42 rfl (by kernel_rfl);simp [results,Tryz.results30,asAddr];exact hl
       · have HDQ:=lh (show D=⟨2,false,0,xa⟩ by rw [hd];unfold datW;rw [if_neg (fun h=>hn h.2)]);clear hd hu;go_enter Tryz.func30,Tryz.ntmps30;go_wp2_with (first|(go_at_call 56;(with_reducible refine (HI.out _ _ _ (by exact HT1.out.bel)).mono ?_);rintro e w2 ⟨rfl,rfl⟩)|(go_at_call 55;(with_reducible refine (HW.out _ (by exact HT0.out.bel)).mono ?_);rintro e w1 ⟨rfl,hb⟩;have HT1:=lh (HT0.out.next hb);obtain ⟨d0,d1,d2,d3⟩:=kj HT1.out.two.1;clear hb)|(refine wpList_store_rowTo rfl 42 _ _ rfl rfl (w.heap.size+1+1) #[.int .i64 2,.bool false,.int .u64 0,.string xa] rfl rfl _ _ HT1.out.res (by kernel_rfl) (by kernel_rfl) (by kernel_rfl) ?_));refine bodyPost_ret (v:=.agg #[.int .i64 2,.bool false,.int .u64 0,.string xa]) ?_ rfl ⟨yw HDQ.out,below_setRow HT1.out.bel (by omega) _⟩;have hl:=run_loadVar_row (P:=Tryz.prog) _ (w.heap.size+1+1) _ 42 _ _ _ (setRow_heap _ _ _ #[.int .i64 2,.bool false,.int .u64 0,.string xa] _ _ HT1.out.res) Tryz.underlying42 rfl (by kernel_rfl);simp [results,Tryz.results30,asAddr];exact hl
     · have HDQ:=lh (show D=⟨2,false,0,xa⟩ by rw [hd];unfold datW;rw [if_neg (fun h=>hx h.1)]);clear hd;go_enter Tryz.func30,Tryz.ntmps30;go_wp2_with (first|(go_at_call 55;(with_reducible refine (HW.out _ (by exact HT0.out.bel)).mono ?_);rintro e w1 ⟨rfl,hb⟩;have HT1:=lh (HT0.out.next hb);obtain ⟨d0,d1,d2,d3⟩:=kj HT1.out.two.1;clear hb)|(refine wpList_store_rowTo rfl 42 _ _ rfl rfl (w.heap.size+1+1) #[.int .i64 2,.bool false,.int .u64 0,.string xa] rfl rfl _ _ HT1.out.res (by kernel_rfl) (by kernel_rfl) (by kernel_rfl) ?_));refine bodyPost_ret (v:=.agg #[.int .i64 2,.bool false,.int .u64 0,.string xa]) ?_ rfl ⟨yw HDQ.out,below_setRow HT1.out.bel (by omega) _⟩;have hl:=run_loadVar_row (P:=Tryz.prog) _ (w.heap.size+1+1) _ 42 _ _ _ (setRow_heap _ _ _ #[.int .i64 2,.bool false,.int .u64 0,.string xa] _ _ HT1.out.res) Tryz.underlying42 rfl (by kernel_rfl);simp [results,Tryz.results30,asAddr];exact hl
   · rw [if_neg h1] at hd;have HDQ:=lh (show D=⟨2,false,0,xa⟩ by rw [hd];unfold datW;rw [if_neg (fun h=>absurd h.1 (by decide))])
     have h1b:(kb==1)=false:=by rw [beq_eq_false_iff_ne];exact h1
     clear hd h1;go_enter Tryz.func30,Tryz.ntmps30;go_wp2_with (first|(refine wpList_store_rowTo rfl 42 _ _ rfl rfl (w.heap.size+1+1) #[.int .i64 2,.bool false,.int .u64 0,.string xa] rfl rfl _ _ HT0.out.res (by kernel_rfl) (by kernel_rfl) (by kernel_rfl) ?_));refine bodyPost_ret (v:=.agg #[.int .i64 2,.bool false,.int .u64 0,.string xa]) ?_ rfl ⟨yw HDQ.out,below_setRow HT0.out.bel (by omega) _⟩;have hl:=run_loadVar_row (P:=Tryz.prog) _ (w.heap.size+1+1) _ 42 _ _ _ (setRow_heap _ _ _ #[.int .i64 2,.bool false,.int .u64 0,.string xa] _ _ HT0.out.res) Tryz.underlying42 rfl (by kernel_rfl);simp [results,Tryz.results30,asAddr];exact hl
 rw [if_neg h3] at hd
 have h3:(ka==3)=false:=by rw [beq_eq_false_iff_ne];exact h3
 have HDQ:=lh (show D=⟨0,false,0,⟨#[]⟩⟩ from hd);clear hd;go_enter Tryz.func30,Tryz.ntmps30;go_wp2_with (first|(refine wpList_store_rowTo rfl 42 _ _ rfl rfl (w.heap.size+1+1) #[.int .i64 0,.bool false,.int .u64 0,.string ⟨#[]⟩] rfl rfl _ _ HT0.out.res (by kernel_rfl) (by kernel_rfl) (by kernel_rfl) ?_));refine bodyPost_ret (v:=.agg #[.int .i64 0,.bool false,.int .u64 0,.string ⟨#[]⟩]) ?_ rfl ⟨yw HDQ.out,below_setRow HT0.out.bel (by omega) _⟩;have hl:=run_loadVar_row (P:=Tryz.prog) _ (w.heap.size+1+1) _ 42 _ _ _ (setRow_heap _ _ _ #[.int .i64 0,.bool false,.int .u64 0,.string ⟨#[]⟩] _ _ HT0.out.res) Tryz.underlying42 rfl (by kernel_rfl);simp [results,Tryz.results30,asAddr];exact hl
def itmC (L:Nat→Pa.TypeV) (len:Nat) (X:Int) (x:ByteArray):Int × Bool:=
 if 4≤X∧0≤Pa.itemL L len (X - 4) x then (((L (X - 4).toNat).items (Pa.itemL L len (X - 4) x).toNat).num,true) else (0,false)
theorem jtz {X:Int} (h:4≤X):sW X=4∧sO X=X - 4:=by
 unfold sW sO;rw [if_neg (by omega),if_neg (by omega),if_pos h,if_pos h];exact ⟨rfl,rfl⟩
theorem juh {X:Int} (h0:0≤X) (h:X<4):(sW X=4)=False∧sO X=0:=by
 unfold sW sO;rw [if_neg (show ¬4≤X by omega),if_neg (show ¬4≤X by omega)];refine ⟨?_,rfl⟩;simp only [eq_iff_iff,iff_false]
 split
 · omega
 · split <;> omega
theorem jvg {X:Int} (h0:0≤X) (h:X<4):(sW X==4)=false:=by
 rw [beq_eq_false_iff_ne];exact fun e=>((juh h0 h).1 ▸ e:False)
theorem jom {m:Nat}:Pa.foundV (m:Nat)=.tuple #[.int .i64 (m:Nat),.bool true]:=by
 unfold Pa.foundV Pa.posZ Pa.okZ;rw [if_neg (by omega),decide_eq_true (by omega)]
theorem jp2 {z:Int} (h:z<0):Pa.foundV z=.tuple #[.int .i64 0,.bool false]:=by
 unfold Pa.foundV Pa.posZ Pa.okZ;rw [if_pos h,decide_eq_false (by omega)]
structure ItSt (w:World) (ao:Option Addr) (len cap:Nat) (t A B:Int) (wx:World):Prop where
 sc:wx.heap[w.heap.size]?=some (.cells #[.slice ao len cap,.int .i64 t] 137)
 so:wx.heap[w.heap.size+1]?=some (.cells #[.int .i64 A,.int .i64 B] 178)
 bel:Below w.heap.size w wx
theorem ItSt.next {w:World} {ao:Option Addr} {len cap:Nat} {t A B:Int} {wx wy:World} (h:ItSt w ao len cap t A B wx) (hb:Below wx.heap.size wx wy):ItSt w ao len cap t A B wy:=
 ⟨rowKeep hb h.sc,rowKeep hb h.so,h.bel.trans (hb.mono h.bel.size)⟩
theorem ItSt.start (w:World) (ao:Option Addr) (len cap:Nat) (t A B:Int):ItSt w ao len cap t A B ((w.alloc (.cells #[.slice ao len cap,.int .i64 t] 137)).alloc (.cells #[.int .i64 A,.int .i64 B] 178)):=by
 have h1:=jd w (.cells #[.slice ao len cap,.int .i64 t] 137);have h2:=jd (w.alloc (.cells #[.slice ao len cap,.int .i64 t] 137)) (.cells #[.int .i64 A,.int .i64 B] 178);rw [World.size_alloc] at h2;exact ⟨je h1,h2,((Below.refl _ _).alloc (Nat.le_refl _) _).alloc (by simp) _⟩
def ItmTo (L:Nat→Pa.TypeV) (ao:Option Addr) (len cap:Nat) (t X:Int) (x:ByteArray) (w:World):Prop:=
 Calls Tryz.prog 122 #[.agg #[.slice ao len cap,.int .i64 t],.agg #[.int .i64 (sW X),.int .i64 (sO X)],.string x] w fun e w'=>e=.returned (.tuple #[.int .u64 (itmC L len X x).1,.bool (itmC L len X x).2])∧Below w.heap.size w w'
theorem jsk (L:Nat→Pa.TypeV) (ao:Option Addr) (len cap:Nat) (hlen:len≤1000000) (t X:Int) (hX:0≤X∧(4≤X→X - 4<(len:Int))) (x:ByteArray) (w:World) (H:∀ i,i<len→Pa.TypeAt w ao i (L i)):ItmTo L ao len cap t X x w:=by
 unfold ItmTo;have HS0:=lh (ItSt.start w ao len cap t (sW X) (sO X));have HI:=lh (fun u wx (hx:Below w.heap.size w wx)=>Pa.jbh ao len cap L u x (by omega) wx (jz H hx));have HH:=lh (fun wx (hx:Below w.heap.size w wx)=>jz H hx);clear H
 by_cases h4:4≤X
 · obtain ⟨u,hu⟩:∃ u:Nat,X - 4=(u:Nat):=⟨(X - 4).toNat,by omega⟩
   have hul:u<len:=by have:=hX.2 h4;omega
   obtain ⟨e1,e2⟩:=jtz h4;rw [hu] at e2;rw [e1,e2] at HS0 ⊢
   by_cases hn:0≤Pa.itemL L len (X - 4) x
   · have hnl:Pa.itemL L len (X - 4) x<((L u).ilen:Nat):=by rw [hu] at hn ⊢;exact Pa.jcj hn
     obtain ⟨m,hm⟩:∃ m:Nat,Pa.itemL L len (X - 4) x=(m:Nat):=⟨_,(Int.toNat_of_nonneg hn).symm⟩
     have hmi:m<(L u).ilen:=by omega
     have hq:itmC L len X x=(((L u).items m).num,true):=by
      unfold itmC;rw [if_pos ⟨h4,hn⟩,hm,hu];rfl
     rw [hq];simp only;have HIX:=lh (fun wx (hx:Below w.heap.size w wx)=>HI.out (u:Nat) wx hx);rw [←hu,hm,jom,hu] at HIX;obtain ⟨tb,toff,rfl,-⟩:=HH.out w (Below.refl _ _) u hul;have HTY:=lh (fun wx (hx:Below w.heap.size w wx)=>jp7 (HH.out wx hx u hul) hmi);obtain ⟨num,hnum⟩:∃ num,((L u).items m).num=num:=⟨_,rfl⟩;rw [hnum] at HTY ⊢;obtain ⟨il,hil⟩:∃ il,(L u).ilen=il:=⟨_,rfl⟩;rw [hil] at HTY hmi
     have hmii:(m:Int)<(il:Int):=by omega
     have hui:(u:Int)<(len:Int):=by omega
     clear hq hnum hil hnl hn hm HI HH hX h4 hu e1 e2;go_enter Tryz.func122,Tryz.ntmps122
     go_upto_region 1 with (fail)
     generalize (w.alloc (.cells #[.slice (some ⟨tb,toff,none⟩) len cap,.int .i64 t] 137)).alloc (.cells #[.int .i64 4,.int .i64 (u:Nat)] 178)=W0 at *;have s0:=ja (j:=0) HS0.out.sc rfl;have r0:=ja (j:=0) HS0.out.so rfl;have r1:=ja (j:=1) HS0.out.so rfl
     go_wp2_with (first
      |(go_at_call 128;refine (HIX.out _ (by exact HS0.out.bel)).mono ?_;rintro e w1 ⟨rfl,hb⟩;have HS1:=lh (HS0.out.next hb);have s0:=ja (j:=0) HS1.out.sc rfl;have r1:=ja (j:=1) HS1.out.so rfl;obtain ⟨ib,ioff,ic,c5,cn⟩:=HTY.out _ HS1.out.bel;clear hb))
     go_ret2
     exact ⟨rfl,HS1.out.bel⟩
   · have hq:itmC L len X x=(0,false):=by
      unfold itmC;rw [if_neg (fun h=>hn h.2)]
     rw [hq];simp only;have HIX:=lh (fun wx (hx:Below w.heap.size w wx)=>HI.out (u:Nat) wx hx);rw [←hu,jp2 (by omega),hu] at HIX;clear hq hn HI HH hX h4 hu e1 e2;go_enter Tryz.func122,Tryz.ntmps122
     go_upto_region 1 with (fail)
     generalize (w.alloc (.cells #[.slice ao len cap,.int .i64 t] 137)).alloc (.cells #[.int .i64 4,.int .i64 (u:Nat)] 178)=W0 at *;have s0:=ja (j:=0) HS0.out.sc rfl;have r0:=ja (j:=0) HS0.out.so rfl;have r1:=ja (j:=1) HS0.out.so rfl
     go_wp2_with (first
      |(go_at_call 128;refine (HIX.out _ (by exact HS0.out.bel)).mono ?_;rintro e w1 ⟨rfl,hb⟩;have HS1:=lh (HS0.out.next hb);clear hb))
     go_ret2
     exact ⟨rfl,HS1.out.bel⟩
 · have hq:itmC L len X x=(0,false):=by
    unfold itmC;rw [if_neg (fun h=>h4 h.1)]
   rw [hq];simp only
   have hs:(sW X !=4)=true:=by rw [bne,jvg hX.1 (by omega)];rfl
   obtain ⟨A,hA⟩:∃ A,sW X=A:=⟨_,rfl⟩;obtain ⟨B,hB⟩:∃ B,sO X=B:=⟨_,rfl⟩;rw [hA,hB] at HS0 ⊢;rw [hA] at hs;clear hq HI HH hX h4 hA hB;go_enter Tryz.func122,Tryz.ntmps122
   go_upto_region 1 with (fail)
   generalize (w.alloc (.cells #[.slice ao len cap,.int .i64 t] 137)).alloc (.cells #[.int .i64 A,.int .i64 B] 178)=W0 at *;have r0:=ja (j:=0) HS0.out.so rfl;go_wp2_with (fail)
   go_ret2
   exact ⟨rfl,HS0.out.bel⟩
end Go.Proofs.YthcompcjphaahaaGreatDoor
