/- Chapter 18 in plain Lean: what an operand is, why two do not go together, why a tree does not fit, the datum of an operand. No run of the program. -/
import Derived.Test.YthcompcjphaahaaGreatDoora26
import Derived.Test.YthcompcjphaahaaGreatDoora34
namespace Go.Proofs.YthcompcjphaahaaGreatDoor
open Go Go.RowKit
set_option linter.unusedVariables false
def kindW (k:Int) (u:Nat):Int × Int:=if k=9 then (4+(u:Int),0) else if k=1 then (3,0) else if k=10 then (2,0) else if numK k then (1,0) else (0,8)
def findW (L:Nat→Pa.TypeV) (R:Pa.FindR):Int × Int:=if R.err≠0 then (0,R.err) else kindW (L R.at').kind R.at'
def whatA (L:Nat→Pa.TypeV) (len:Nat) (t:Int) (o:Opd):Int × Int:=
 if o.kind=2 then (1,0) else if o.kind=3 then (2,0) else if o.kind=4 then (3,0) else if o.kind=5 then (0,18)
 else if o.kind=1 then findW L (Pa.findA L len t o.text) else (0,1)
def datW (L:Nat→Pa.TypeV) (len:Nat) (w:Int) (o:Opd):DatV:=
 if 4≤w∧0≤Pa.itemL L len (w - 4) o.text then datK 9 ((L (w - 4).toNat).items (Pa.itemL L len (w - 4) o.text).toNat).num else ⟨2,false,0,o.text⟩
def datE (L:Nat→Pa.TypeV) (len:Nat) (t:Int) (o other:Opd):DatV:=
 if o.kind=2 then ⟨1,o.neg&&o.num !=0,o.num,⟨#[]⟩⟩ else if o.kind=4 then ⟨3,false,o.num,⟨#[]⟩⟩
 else if o.kind=3 then datW L len (if other.kind=1 then (whatA L len t other).1 else 0) o else noDat
theorem findG_lt {L:Nat→Pa.TypeV} {len:Nat} (hv:∀ i,i<len→Pa.OkT L i):∀ (l:List (Pa.PieceV × Bool)) (u:Nat) (st:List Pa.StepV),u<len→(Pa.findG L len l u st).err=0→(Pa.findG L len l u st).at' <len
 | [],u,st,hu,_=>hu
 |x::r,u,st,hu,h=>by
  rw [Pa.findG] at h ⊢
  by_cases hp:Pa.pstE L len u x.1=0
  · rw [if_pos hp] at h ⊢
    exact findG_lt hv r _ _ (Pa.next_part hv hu).2 h
  · rw [if_neg hp] at h
    exact absurd h hp
theorem findA_lt {L:Nat→Pa.TypeV} {len:Nat} {t:Int} {s:ByteArray} (h:(Pa.findA L len t s).err=0):(Pa.findA L len t s).at' <len:=by
 unfold Pa.findA at h ⊢
 cases hT:Pa.hasT L len t with
 |false=>rw [hT,if_neg (by decide)] at h;cases h
 |true=>
  obtain ⟨k,rfl,hk,hok⟩:=Pa.hasT_in hT
  rw [hT,if_pos rfl] at h
  rw [if_pos rfl]
  by_cases hF:Pa.formS s=true
  · rw [if_pos hF] at h ⊢
    exact findG_lt (Pa.ok_all hok) _ _ _ (by simpa using hk) h
  · rw [if_neg hF] at h;cases h
theorem kindW_in (k:Int) (u:Nat):0≤(kindW k u).1∧(kindW k u).1≤4+u∧(4≤(kindW k u).1→(kindW k u).1=4+u):=by
 unfold kindW
 by_cases h9:k=9
 · rw [if_pos h9];exact ⟨by show (0:Int)≤4+u;omega,Int.le_refl _,fun _=>rfl⟩
 · rw [if_neg h9]
   by_cases h1:k=1
   · rw [if_pos h1];simp only;omega
   · rw [if_neg h1]
     by_cases h10:k=10
     · rw [if_pos h10];simp only;omega
     · rw [if_neg h10]
       cases numK k <;> simp <;> omega
theorem what_in (L:Nat→Pa.TypeV) (len:Nat) (t:Int) (o:Opd):0≤(whatA L len t o).1∧(4≤(whatA L len t o).1→(whatA L len t o).1 - 4<(len:Int)):=by
 unfold whatA
 by_cases h2:o.kind=2
 · rw [if_pos h2];simp only;omega
 · rw [if_neg h2]
   by_cases h3:o.kind=3
   · rw [if_pos h3];simp only;omega
   · rw [if_neg h3]
     by_cases h4:o.kind=4
     · rw [if_pos h4];simp only;omega
     · rw [if_neg h4]
       by_cases h5:o.kind=5
       · rw [if_pos h5];simp only;omega
       · rw [if_neg h5]
         by_cases h1:o.kind=1
         · rw [if_pos h1]
           unfold findW
           by_cases he:(Pa.findA L len t o.text).err≠0
           · rw [if_pos he];simp only;omega
           · rw [if_neg he]
             have hl:=findA_lt (Decidable.not_not.1 he)
             have hk:=kindW_in (L (Pa.findA L len t o.text).at').kind (Pa.findA L len t o.text).at'
             exact ⟨hk.1,fun h=>by have:=hk.2.2 h;omega⟩
         · rw [if_neg h1];simp only;omega
end Go.Proofs.YthcompcjphaahaaGreatDoor
namespace Go.Proofs.YthcompcjphaahaaGreatDoor
open Go.RowKit
set_option linter.unusedVariables false
set_option linter.unusedSimpArgs false
theorem hold18 {w wx:World} {ao:Option Addr} {len:Nat} {L:Nat→Pa.TypeV} (H:∀ i,i<len→Pa.TypeAt w ao i (L i)) (hb:Below w.heap.size w wx):∀ i,i<len→Pa.TypeAt wx ao i (L i):=fun i hi=>(H i hi).held hb
theorem opd_box {w:World} {g:Nat} {k n:Int} {x:ByteArray} {b:Bool} (h:w.heap[g]?=some (.cells #[.int .i64 k,.string x,.bool b,.int .u64 n] 34)):w.cell? ⟨g,0,none⟩=some (.int .i64 k)∧w.cell? ⟨g,1,none⟩=some (.string x)∧w.cell? ⟨g,2,none⟩=some (.bool b)∧w.cell? ⟨g,3,none⟩=some (.int .u64 n):=⟨cell_at h rfl,cell_at h rfl,cell_at h rfl,cell_at h rfl⟩
end Go.Proofs.YthcompcjphaahaaGreatDoor
namespace Go.Proofs.YthcompcjphaahaaGreatDoor
open Go.RowKit
set_option linter.unusedVariables false
set_option linter.unusedSimpArgs false
def sW (w:Int):Int:=if w=2 then 3 else if w=3 then 2 else if 4≤w then 4 else w
def sO (w:Int):Int:=if 4≤w then w - 4 else 0
def sP (R:Int × Int):Value:=.tuple #[.agg #[.int .i64 (sW R.1),.int .i64 (sO R.1)],.int .i64 R.2]
theorem sP_at (u:Nat):sP (4+(u:Int),0)=.tuple #[.agg #[.int .i64 4,.int .i64 (u:Nat)],.int .i64 0]:=by
 unfold sP sW sO
 rw [if_neg (by simp only;omega),if_neg (by simp only;omega),if_pos (by simp only;omega),if_pos (by simp only;omega)]
 simp only
 rw [show (4:Int)+(u:Int) - 4=(u:Nat) by omega]
theorem endPS {V:World} {act:Act} {Q:Ending→World→Prop} {a b e:Int} (hd:act.defers=[]) (rb:Nat) (h2:act.tmps.getD 4 undef=.pointer (some ⟨rb,0,none⟩)) (h3:act.tmps.getD 5 undef=.int .i64 e) (hr:V.heap[rb]?=some (.cells #[.int .i64 a,.int .i64 b] 178))
  (hQ:Q (.returned (.tuple #[.agg #[.int .i64 a,.int .i64 b],.int .i64 e])) V):bodyPost Tryz.prog Tryz.f121 Q Exit.ret act V:=by
 refine bodyPost_ret (v:=.tuple #[.agg #[.int .i64 a,.int .i64 b],.int .i64 e]) ?_ hd hQ
 have hl2:=run_loadVar_row (P:=Tryz.prog) V rb 178 178 #[.int .i64 a,.int .i64 b] _ _ hr Tryz.underlying178 rfl (by kernel_rfl)
 rw [Array.getD_eq_getD_getElem?] at h2 h3
 simp [results,Tryz.results121,h2,h3,asAddr,hl2]
structure PsSt (w:World) (ao:Option Addr) (len cap:Nat) (t:Int) (g r:Nat) (wx:World):Prop where
 sc:wx.heap[g]?=some (.cells #[.slice ao len cap,.int .i64 t] 137)
 rs:wx.heap[r]?=some (.cells #[.int .i64 0,.int .i64 0] 178)
 bel:Below w.heap.size w wx
theorem PsSt.next {w:World} {ao:Option Addr} {len cap:Nat} {t:Int} {g r:Nat} {wx wy:World} (h:PsSt w ao len cap t g r wx) (hb:Below wx.heap.size wx wy):PsSt w ao len cap t g r wy:=
 ⟨rowKeep hb h.sc,rowKeep hb h.rs,h.bel.trans (hb.mono h.bel.size)⟩
theorem PsSt.start (w:World) (ao:Option Addr) (len cap:Nat) (t:Int):PsSt w ao len cap t w.heap.size (w.heap.size+1) ((w.alloc (.cells #[.slice ao len cap,.int .i64 t] 137)).alloc (.cells #[.int .i64 0,.int .i64 0] 178)):=by
 have h1:=alloc_at w (.cells #[.slice ao len cap,.int .i64 t] 137)
 have h2:=alloc_at (w.alloc (.cells #[.slice ao len cap,.int .i64 t] 137)) (.cells #[.int .i64 0,.int .i64 0] 178)
 rw [World.size_alloc] at h2
 exact ⟨alloc_old h1,h2,((Below.refl _ _).alloc (Nat.le_refl _) _).alloc (by simp) _⟩
def PSortTo (L:Nat→Pa.TypeV) (ao:Option Addr) (len cap:Nat) (t:Int) (x:ByteArray) (w:World):Prop:=
 Calls Tryz.prog 121 #[.agg #[.slice ao len cap,.int .i64 t],.string x] w fun e w'=>e=.returned (sP (findW L (Pa.findA L len t x)))∧Below w.heap.size w w'
set_option maxRecDepth 100000 in
set_option maxHeartbeats 4000000 in
theorem pathSort_any (L:Nat→Pa.TypeV) (ao:Option Addr) (len cap:Nat) (hlen:len≤1000000) (hcap:len≤cap) (t:Int) (x:ByteArray) (hx:x.size≤1000000) (w:World) (H:∀ i,i<len→Pa.TypeAt w ao i (L i)):PSortTo L ao len cap t x w:=by
 unfold PSortTo
 have HS0:=Lib.hid (PsSt.start w ao len cap t)
 have HF:=Lib.hid (fun wx (hb:Below w.heap.size w wx)=>Pa.find12_any ao len cap L hlen hcap t x hx wx (hold18 H hb))
 have HH:=Lib.hid (fun wx (hb:Below w.heap.size w wx)=>hold18 H hb)
 have HL:=Lib.hid (@findA_lt L len t x)
 obtain ⟨R,hR⟩:∃ R,findW L (Pa.findA L len t x)=R:=⟨_,rfl⟩
 rw [hR]
 have hw:R=findW L (Pa.findA L len t x):=hR.symm
 clear H hR
 obtain ⟨st,at',er,hR⟩:∃ st at' er,Pa.findA L len t x=⟨st,at',er⟩:=⟨_,_,_,rfl⟩
 rw [hR] at HF HL hw
 simp only at HL
 unfold Pa.FindTo at HF
 simp only at HF
 clear hR
 by_cases he:er=0
 · subst he
   have hat:=HL.out rfl
   have hw2:R=kindW (L at').kind at':=by rw [hw];unfold findW;rw [if_neg (fun h=>h rfl)]
   clear hw HL
   obtain ⟨b,off,rfl,c0,-,-,-,-,-,-,-⟩:=HH.out w (Below.refl _ _) at' hat
   have hai:(at':Int)<(len:Int):=by omega
   obtain ⟨q,hq⟩:∃ q,(L at').kind=q:=⟨_,rfl⟩
   rw [hq] at hw2 c0
   have HC:=Lib.hid (fun wx (hb:Below w.heap.size w wx)=>Pa.keep6 hb c0)
   clear c0 hq HH
   by_cases q1:q=1
   · subst q1
     rw [hw2,show sP (kindW 1 at')=.tuple #[.agg #[.int .i64 2,.int .i64 0],.int .i64 0] from rfl]
     clear hw2
     go_enter Tryz.func121,Tryz.ntmps121
     go_upto_region 1 with (fail)
     generalize (w.alloc (.cells #[.slice (some ⟨b,off,none⟩) len cap,.int .i64 t] 137)).alloc (.cells #[.int .i64 0,.int .i64 0] 178)=W0 at *
     have s0:=cell_at (j:=0) HS0.out.sc rfl
     have s1:=cell_at (j:=1) HS0.out.sc rfl
     go_wp2_with (first
      |(go_at_call 48;refine (HF.out _ (by exact HS0.out.bel)).mono ?_;rintro e w1 ⟨v1,rfl,-,hb⟩;have HS1:=Lib.hid (HS0.out.next hb);have s0:=cell_at (j:=0) HS1.out.sc rfl;have c1:=HC.out _ HS1.out.bel;clear hb)
      |(go_at_call 132;refine (Pa.number_same _ _).mono ?_;rintro e w9 ⟨rfl,rfl⟩)
      |(refine wpList_store_rowTo rfl 178 _ _ rfl rfl (w.heap.size+1) #[.int .i64 2,.int .i64 0] rfl rfl _ _ HS1.out.rs (by kernel_rfl) (by kernel_rfl) (by kernel_rfl) ?_))
     exact endPS rfl (w.heap.size+1) rfl rfl (setRow_heap _ _ _ _ _ _ HS1.out.rs) ⟨rfl,below_setRow HS1.out.bel (by omega) _⟩
   by_cases q9:q=9
   · subst q9
     rw [hw2,show kindW 9 at'=(4+(at':Int),0) from rfl,sP_at]
     clear hw2
     go_enter Tryz.func121,Tryz.ntmps121
     go_upto_region 1 with (fail)
     generalize (w.alloc (.cells #[.slice (some ⟨b,off,none⟩) len cap,.int .i64 t] 137)).alloc (.cells #[.int .i64 0,.int .i64 0] 178)=W0 at *
     have s0:=cell_at (j:=0) HS0.out.sc rfl
     have s1:=cell_at (j:=1) HS0.out.sc rfl
     go_wp2_with (first
      |(go_at_call 48;refine (HF.out _ (by exact HS0.out.bel)).mono ?_;rintro e w1 ⟨v1,rfl,-,hb⟩;have HS1:=Lib.hid (HS0.out.next hb);have s0:=cell_at (j:=0) HS1.out.sc rfl;have c1:=HC.out _ HS1.out.bel;clear hb)
      |(go_at_call 132;refine (Pa.number_same _ _).mono ?_;rintro e w9 ⟨rfl,rfl⟩)
      |(refine wpList_store_rowTo rfl 178 _ _ rfl rfl (w.heap.size+1) #[.int .i64 4,.int .i64 (at':Nat)] rfl rfl _ _ HS1.out.rs (by kernel_rfl) (by kernel_rfl) (by kernel_rfl) ?_))
     exact endPS rfl (w.heap.size+1) rfl rfl (setRow_heap _ _ _ _ _ _ HS1.out.rs) ⟨rfl,below_setRow HS1.out.bel (by omega) _⟩
   by_cases q10:q=10
   · subst q10
     have hn:numK 10=false:=by kernel_rfl
     rw [hw2,show sP (kindW 10 at')=.tuple #[.agg #[.int .i64 3,.int .i64 0],.int .i64 0] from rfl]
     clear hw2
     go_enter Tryz.func121,Tryz.ntmps121
     go_upto_region 1 with (fail)
     generalize (w.alloc (.cells #[.slice (some ⟨b,off,none⟩) len cap,.int .i64 t] 137)).alloc (.cells #[.int .i64 0,.int .i64 0] 178)=W0 at *
     have s0:=cell_at (j:=0) HS0.out.sc rfl
     have s1:=cell_at (j:=1) HS0.out.sc rfl
     go_wp2_with (first
      |(go_at_call 48;refine (HF.out _ (by exact HS0.out.bel)).mono ?_;rintro e w1 ⟨v1,rfl,-,hb⟩;have HS1:=Lib.hid (HS0.out.next hb);have s0:=cell_at (j:=0) HS1.out.sc rfl;have c1:=HC.out _ HS1.out.bel;clear hb)
      |(go_at_call 132;refine (Pa.number_same _ _).mono ?_;rintro e w9 ⟨rfl,rfl⟩)
      |(refine wpList_store_rowTo rfl 178 _ _ rfl rfl (w.heap.size+1) #[.int .i64 3,.int .i64 0] rfl rfl _ _ HS1.out.rs (by kernel_rfl) (by kernel_rfl) (by kernel_rfl) ?_))
     exact endPS rfl (w.heap.size+1) rfl rfl (setRow_heap _ _ _ _ _ _ HS1.out.rs) ⟨rfl,below_setRow HS1.out.bel (by omega) _⟩
   have hw3:R=if numK q then (1,0) else (0,8):=by rw [hw2];unfold kindW;rw [if_neg q9,if_neg q1,if_neg q10]
   have q9:(q==9)=false:=by rw [beq_eq_false_iff_ne];exact q9
   have q1:(q==1)=false:=by rw [beq_eq_false_iff_ne];exact q1
   have q10:(q==10)=false:=by rw [beq_eq_false_iff_ne];exact q10
   clear hw2
   cases hn:numK q with
   |true=>
    rw [hn,if_pos rfl] at hw3
    rw [hw3,show sP (1,0)=.tuple #[.agg #[.int .i64 1,.int .i64 0],.int .i64 0] from rfl]
    clear hw3
    go_enter Tryz.func121,Tryz.ntmps121
    go_upto_region 1 with (fail)
    generalize (w.alloc (.cells #[.slice (some ⟨b,off,none⟩) len cap,.int .i64 t] 137)).alloc (.cells #[.int .i64 0,.int .i64 0] 178)=W0 at *
    have s0:=cell_at (j:=0) HS0.out.sc rfl
    have s1:=cell_at (j:=1) HS0.out.sc rfl
    go_wp2_with (first
     |(go_at_call 48;refine (HF.out _ (by exact HS0.out.bel)).mono ?_;rintro e w1 ⟨v1,rfl,-,hb⟩;have HS1:=Lib.hid (HS0.out.next hb);have s0:=cell_at (j:=0) HS1.out.sc rfl;have c1:=HC.out _ HS1.out.bel;clear hb)
     |(go_at_call 132;refine (Pa.number_same _ _).mono ?_;rintro e w9 ⟨rfl,rfl⟩)
     |(refine wpList_store_rowTo rfl 178 _ _ rfl rfl (w.heap.size+1) #[.int .i64 1,.int .i64 0] rfl rfl _ _ HS1.out.rs (by kernel_rfl) (by kernel_rfl) (by kernel_rfl) ?_))
    exact endPS rfl (w.heap.size+1) rfl rfl (setRow_heap _ _ _ _ _ _ HS1.out.rs) ⟨rfl,below_setRow HS1.out.bel (by omega) _⟩
   |false=>
    rw [hn,if_neg (by decide)] at hw3
    rw [hw3,show sP (0,8)=.tuple #[.agg #[.int .i64 0,.int .i64 0],.int .i64 8] from rfl]
    clear hw3
    go_enter Tryz.func121,Tryz.ntmps121
    go_upto_region 1 with (fail)
    generalize (w.alloc (.cells #[.slice (some ⟨b,off,none⟩) len cap,.int .i64 t] 137)).alloc (.cells #[.int .i64 0,.int .i64 0] 178)=W0 at *
    have s0:=cell_at (j:=0) HS0.out.sc rfl
    have s1:=cell_at (j:=1) HS0.out.sc rfl
    go_wp2_with (first
     |(go_at_call 48;refine (HF.out _ (by exact HS0.out.bel)).mono ?_;rintro e w1 ⟨v1,rfl,-,hb⟩;have HS1:=Lib.hid (HS0.out.next hb);have s0:=cell_at (j:=0) HS1.out.sc rfl;have c1:=HC.out _ HS1.out.bel;clear hb)
     |(go_at_call 132;refine (Pa.number_same _ _).mono ?_;rintro e w9 ⟨rfl,rfl⟩)
     |(refine wpList_store_rowTo rfl 178 _ _ rfl rfl (w.heap.size+1) #[.int .i64 0,.int .i64 0] rfl rfl _ _ HS1.out.rs (by kernel_rfl) (by kernel_rfl) (by kernel_rfl) ?_))
    exact endPS rfl (w.heap.size+1) rfl rfl (setRow_heap _ _ _ _ _ _ HS1.out.rs) ⟨rfl,below_setRow HS1.out.bel (by omega) _⟩
 · have hw2:R=(0,er):=by rw [hw];unfold findW;rw [if_pos he]
   rw [hw2,show sP (0,er)=.tuple #[.agg #[.int .i64 0,.int .i64 0],.int .i64 er] from rfl]
   have hne:(er !=0)=true:=by rw [bne_iff_ne];exact he
   clear hw hw2 HL he
   go_enter Tryz.func121,Tryz.ntmps121
   go_upto_region 1 with (fail)
   generalize (w.alloc (.cells #[.slice ao len cap,.int .i64 t] 137)).alloc (.cells #[.int .i64 0,.int .i64 0] 178)=W0 at *
   have s0:=cell_at (j:=0) HS0.out.sc rfl
   have s1:=cell_at (j:=1) HS0.out.sc rfl
   go_wp2_with (first
    |(go_at_call 48;refine (HF.out _ (by exact HS0.out.bel)).mono ?_;rintro e w1 ⟨v1,rfl,-,hb⟩;have HS1:=Lib.hid (HS0.out.next hb);clear hb)
    |(refine wpList_store_rowTo rfl 178 _ _ rfl rfl (w.heap.size+1) #[.int .i64 0,.int .i64 0] rfl rfl _ _ HS1.out.rs (by kernel_rfl) (by kernel_rfl) (by kernel_rfl) ?_))
   exact endPS rfl (w.heap.size+1) rfl rfl (setRow_heap _ _ _ _ _ _ HS1.out.rs) ⟨rfl,below_setRow HS1.out.bel (by omega) _⟩
end Go.Proofs.YthcompcjphaahaaGreatDoor
namespace Go.Proofs.YthcompcjphaahaaGreatDoor
open Go.RowKit
set_option linter.unusedVariables false
set_option linter.unusedSimpArgs false
def Two (w:World) (a b:Opd) (w':World):Prop:=w'.heap[w.heap.size]?=some (.cells #[.int .i64 a.kind,.string a.text,.bool a.neg,.int .u64 a.num] 34)∧w'.heap[w.heap.size+1]?=some (.cells #[.int .i64 b.kind,.string b.text,.bool b.neg,.int .u64 b.num] 34)∧Below w.heap.size w w'
theorem Two.bel {w:World} {a b:Opd} {w1:World} (h:Two w a b w1):Below w.heap.size w w1:=h.2.2
theorem Two.start (w:World) (a b:Opd):Two w a b ((w.alloc (.cells #[.int .i64 a.kind,.string a.text,.bool a.neg,.int .u64 a.num] 34)).alloc (.cells #[.int .i64 b.kind,.string b.text,.bool b.neg,.int .u64 b.num] 34)):=by
 have h1:=alloc_at w (.cells #[.int .i64 a.kind,.string a.text,.bool a.neg,.int .u64 a.num] 34)
 have h2:=alloc_at (w.alloc (.cells #[.int .i64 a.kind,.string a.text,.bool a.neg,.int .u64 a.num] 34)) (.cells #[.int .i64 b.kind,.string b.text,.bool b.neg,.int .u64 b.num] 34)
 rw [World.size_alloc] at h2
 refine ⟨rowKeep ((Below.refl _ _).alloc (Nat.le_refl _) _) h1,h2,((Below.refl _ _).alloc (Nat.le_refl _) _).alloc (by simp) _⟩
theorem Two.next {w:World} {a b:Opd} {w1 w2:World} (h:Two w a b w1) (hb:Below w1.heap.size w1 w2):Two w a b w2:=⟨rowKeep hb h.1,rowKeep hb h.2.1,h.2.2.trans (hb.mono h.2.2.size)⟩
end Go.Proofs.YthcompcjphaahaaGreatDoor
namespace Go.Proofs.YthcompcjphaahaaGreatDoor
open Go.RowKit
set_option linter.unusedVariables false
set_option linter.unusedSimpArgs false
structure Dst (w:World) (a b:Opd) (w1:World):Prop where
 two:Two w a b w1
 res:w1.heap[w.heap.size+1+1]?=some (.cells #[.int .i64 0,.bool false,.int .u64 0,.string ⟨#[]⟩] 42)
theorem Dst.bel {w:World} {a b:Opd} {w1:World} (h:Dst w a b w1):Below w.heap.size w w1:=h.two.bel
theorem Dst.next {w:World} {a b:Opd} {w1 w2:World} (h:Dst w a b w1) (hb:Below w1.heap.size w1 w2):Dst w a b w2:=⟨h.two.next hb,rowKeep hb h.res⟩
theorem Dst.start (w:World) (a b:Opd):Dst w a b (((w.alloc (.cells #[.int .i64 a.kind,.string a.text,.bool a.neg,.int .u64 a.num] 34)).alloc (.cells #[.int .i64 b.kind,.string b.text,.bool b.neg,.int .u64 b.num] 34)).alloc (.cells #[.int .i64 0,.bool false,.int .u64 0,.string ⟨#[]⟩] 42)):=by
 have h2:=alloc_at ((w.alloc (.cells #[.int .i64 a.kind,.string a.text,.bool a.neg,.int .u64 a.num] 34)).alloc (.cells #[.int .i64 b.kind,.string b.text,.bool b.neg,.int .u64 b.num] 34)) (.cells #[.int .i64 0,.bool false,.int .u64 0,.string ⟨#[]⟩] 42)
 rw [World.size_alloc,World.size_alloc] at h2
 exact ⟨(Two.start w a b).next ((Below.refl _ _).alloc (Nat.le_refl _) _),h2⟩
theorem num_at {w:World} {b off i m:Nat} {T:Pa.TypeV} (h:Pa.TypeAt w (some ⟨b,off,none⟩) i T) (hm:m<T.ilen):∃ ib ioff ic,w.cell? ⟨b,off+i*6+5,none⟩=some (.slice (some ⟨ib,ioff,none⟩) T.ilen ic)∧w.cell? ⟨ib,ioff+m*5+1,none⟩=some (.int .u64 (T.items m).num):=by
 obtain ⟨b',off',e,h0,h1,h2,h3,h4,h5,wf,hi⟩:=h
 cases e
 obtain ⟨ib,ioff,hia,g0,g1,g2,g3,g4,_⟩:=hi.2 m hm
 rw [hia] at h5
 exact ⟨ib,ioff,_,h5,g1⟩
end Go.Proofs.YthcompcjphaahaaGreatDoor
namespace Go.Proofs.YthcompcjphaahaaGreatDoor
open Go.RowKit
set_option linter.unusedVariables false
set_option linter.unusedSimpArgs false
def itmC (L:Nat→Pa.TypeV) (len:Nat) (X:Int) (x:ByteArray):Int × Bool:=
 if 4≤X∧0≤Pa.itemL L len (X - 4) x then (((L (X - 4).toNat).items (Pa.itemL L len (X - 4) x).toNat).num,true) else (0,false)
theorem sW_four {X:Int} (h:4≤X):sW X=4∧sO X=X - 4:=by
 unfold sW sO
 rw [if_neg (by omega),if_neg (by omega),if_pos h,if_pos h]
 exact ⟨rfl,rfl⟩
theorem sW_low {X:Int} (h0:0≤X) (h:X<4):(sW X=4)=False∧sO X=0:=by
 unfold sW sO
 rw [if_neg (show ¬4≤X by omega),if_neg (show ¬4≤X by omega)]
 refine ⟨?_,rfl⟩
 simp only [eq_iff_iff,iff_false]
 split
 · omega
 · split <;> omega
theorem sW_ne {X:Int} (h0:0≤X) (h:X<4):(sW X==4)=false:=by
 rw [beq_eq_false_iff_ne];exact fun e=>((sW_low h0 h).1 ▸ e:False)
theorem found_yes {m:Nat}:Pa.foundV (m:Nat)=.tuple #[.int .i64 (m:Nat),.bool true]:=by
 unfold Pa.foundV Pa.posZ Pa.okZ
 rw [if_neg (by omega),decide_eq_true (by omega)]
theorem found_no {z:Int} (h:z<0):Pa.foundV z=.tuple #[.int .i64 0,.bool false]:=by
 unfold Pa.foundV Pa.posZ Pa.okZ
 rw [if_pos h,decide_eq_false (by omega)]
structure ItSt (w:World) (ao:Option Addr) (len cap:Nat) (t A B:Int) (wx:World):Prop where
 sc:wx.heap[w.heap.size]?=some (.cells #[.slice ao len cap,.int .i64 t] 137)
 so:wx.heap[w.heap.size+1]?=some (.cells #[.int .i64 A,.int .i64 B] 178)
 bel:Below w.heap.size w wx
theorem ItSt.next {w:World} {ao:Option Addr} {len cap:Nat} {t A B:Int} {wx wy:World} (h:ItSt w ao len cap t A B wx) (hb:Below wx.heap.size wx wy):ItSt w ao len cap t A B wy:=
 ⟨rowKeep hb h.sc,rowKeep hb h.so,h.bel.trans (hb.mono h.bel.size)⟩
theorem ItSt.start (w:World) (ao:Option Addr) (len cap:Nat) (t A B:Int):ItSt w ao len cap t A B ((w.alloc (.cells #[.slice ao len cap,.int .i64 t] 137)).alloc (.cells #[.int .i64 A,.int .i64 B] 178)):=by
 have h1:=alloc_at w (.cells #[.slice ao len cap,.int .i64 t] 137)
 have h2:=alloc_at (w.alloc (.cells #[.slice ao len cap,.int .i64 t] 137)) (.cells #[.int .i64 A,.int .i64 B] 178)
 rw [World.size_alloc] at h2
 exact ⟨alloc_old h1,h2,((Below.refl _ _).alloc (Nat.le_refl _) _).alloc (by simp) _⟩
def ItmTo (L:Nat→Pa.TypeV) (ao:Option Addr) (len cap:Nat) (t X:Int) (x:ByteArray) (w:World):Prop:=
 Calls Tryz.prog 122 #[.agg #[.slice ao len cap,.int .i64 t],.agg #[.int .i64 (sW X),.int .i64 (sO X)],.string x] w fun e w'=>e=.returned (.tuple #[.int .u64 (itmC L len X x).1,.bool (itmC L len X x).2])∧Below w.heap.size w w'
set_option maxRecDepth 100000 in
set_option maxHeartbeats 4000000 in
theorem itm_any (L:Nat→Pa.TypeV) (ao:Option Addr) (len cap:Nat) (hlen:len≤1000000) (t X:Int) (hX:0≤X∧(4≤X→X - 4<(len:Int))) (x:ByteArray) (w:World) (H:∀ i,i<len→Pa.TypeAt w ao i (L i)):ItmTo L ao len cap t X x w:=by
 unfold ItmTo
 have HS0:=Lib.hid (ItSt.start w ao len cap t (sW X) (sO X))
 have HI:=Lib.hid (fun u wx (hx:Below w.heap.size w wx)=>Pa.item6_any ao len cap L u x (by omega) wx (hold18 H hx))
 have HH:=Lib.hid (fun wx (hx:Below w.heap.size w wx)=>hold18 H hx)
 clear H
 by_cases h4:4≤X
 · obtain ⟨u,hu⟩:∃ u:Nat,X - 4=(u:Nat):=⟨(X - 4).toNat,by omega⟩
   have hul:u<len:=by have:=hX.2 h4;omega
   obtain ⟨e1,e2⟩:=sW_four h4
   rw [hu] at e2
   rw [e1,e2] at HS0 ⊢
   by_cases hn:0≤Pa.itemL L len (X - 4) x
   · have hnl:Pa.itemL L len (X - 4) x<((L u).ilen:Nat):=by rw [hu] at hn ⊢;exact Pa.item_lt hn
     obtain ⟨m,hm⟩:∃ m:Nat,Pa.itemL L len (X - 4) x=(m:Nat):=⟨_,(Int.toNat_of_nonneg hn).symm⟩
     have hmi:m<(L u).ilen:=by omega
     have hq:itmC L len X x=(((L u).items m).num,true):=by
      unfold itmC
      rw [if_pos ⟨h4,hn⟩,hm,hu];rfl
     rw [hq]
     simp only
     have HIX:=Lib.hid (fun wx (hx:Below w.heap.size w wx)=>HI.out (u:Nat) wx hx)
     rw [←hu,hm,found_yes,hu] at HIX
     obtain ⟨tb,toff,rfl,-⟩:=HH.out w (Below.refl _ _) u hul
     have HTY:=Lib.hid (fun wx (hx:Below w.heap.size w wx)=>num_at (HH.out wx hx u hul) hmi)
     obtain ⟨num,hnum⟩:∃ num,((L u).items m).num=num:=⟨_,rfl⟩
     rw [hnum] at HTY ⊢
     obtain ⟨il,hil⟩:∃ il,(L u).ilen=il:=⟨_,rfl⟩
     rw [hil] at HTY hmi
     have hmii:(m:Int)<(il:Int):=by omega
     have hui:(u:Int)<(len:Int):=by omega
     clear hq hnum hil hnl hn hm HI HH hX h4 hu e1 e2
     go_enter Tryz.func122,Tryz.ntmps122
     go_upto_region 1 with (fail)
     generalize (w.alloc (.cells #[.slice (some ⟨tb,toff,none⟩) len cap,.int .i64 t] 137)).alloc (.cells #[.int .i64 4,.int .i64 (u:Nat)] 178)=W0 at *
     have s0:=cell_at (j:=0) HS0.out.sc rfl
     have r0:=cell_at (j:=0) HS0.out.so rfl
     have r1:=cell_at (j:=1) HS0.out.so rfl
     go_wp2_with (first
      |(go_at_call 128;refine (HIX.out _ (by exact HS0.out.bel)).mono ?_;rintro e w1 ⟨rfl,hb⟩;have HS1:=Lib.hid (HS0.out.next hb);have s0:=cell_at (j:=0) HS1.out.sc rfl;have r1:=cell_at (j:=1) HS1.out.so rfl;obtain ⟨ib,ioff,ic,c5,cn⟩:=HTY.out _ HS1.out.bel;clear hb))
     go_ret2
     exact ⟨rfl,HS1.out.bel⟩
   · have hq:itmC L len X x=(0,false):=by
      unfold itmC
      rw [if_neg (fun h=>hn h.2)]
     rw [hq]
     simp only
     have HIX:=Lib.hid (fun wx (hx:Below w.heap.size w wx)=>HI.out (u:Nat) wx hx)
     rw [←hu,found_no (by omega),hu] at HIX
     clear hq hn HI HH hX h4 hu e1 e2
     go_enter Tryz.func122,Tryz.ntmps122
     go_upto_region 1 with (fail)
     generalize (w.alloc (.cells #[.slice ao len cap,.int .i64 t] 137)).alloc (.cells #[.int .i64 4,.int .i64 (u:Nat)] 178)=W0 at *
     have s0:=cell_at (j:=0) HS0.out.sc rfl
     have r0:=cell_at (j:=0) HS0.out.so rfl
     have r1:=cell_at (j:=1) HS0.out.so rfl
     go_wp2_with (first
      |(go_at_call 128;refine (HIX.out _ (by exact HS0.out.bel)).mono ?_;rintro e w1 ⟨rfl,hb⟩;have HS1:=Lib.hid (HS0.out.next hb);clear hb))
     go_ret2
     exact ⟨rfl,HS1.out.bel⟩
 · have hq:itmC L len X x=(0,false):=by
    unfold itmC
    rw [if_neg (fun h=>h4 h.1)]
   rw [hq]
   simp only
   have hs:(sW X !=4)=true:=by rw [bne,sW_ne hX.1 (by omega)];rfl
   obtain ⟨A,hA⟩:∃ A,sW X=A:=⟨_,rfl⟩
   obtain ⟨B,hB⟩:∃ B,sO X=B:=⟨_,rfl⟩
   rw [hA,hB] at HS0 ⊢
   rw [hA] at hs
   clear hq HI HH hX h4 hA hB
   go_enter Tryz.func122,Tryz.ntmps122
   go_upto_region 1 with (fail)
   generalize (w.alloc (.cells #[.slice ao len cap,.int .i64 t] 137)).alloc (.cells #[.int .i64 A,.int .i64 B] 178)=W0 at *
   have r0:=cell_at (j:=0) HS0.out.so rfl
   go_wp2_with (fail)
   go_ret2
   exact ⟨rfl,HS0.out.bel⟩
end Go.Proofs.YthcompcjphaahaaGreatDoor
