/- Chapter 19 in plain Lean: the datum of an operand in a value, which relation holds, which tree holds. No run of the program. -/
import Derived.Test.YthcompcjphaahaaGreatDoora27
import Derived.Test.YthcompcjphaahaaGreatDoora30
import Derived.Test.YthcompcjphaahaaGreatDoora31
namespace Go.Proofs.YthcompcjphaahaaGreatDoor
open Go Go.RowKit
set_option linter.unusedVariables false
def datX (V:Pa.VT):DatV:=if V.kind=10 then ⟨2,false,0,V.text⟩ else datK V.kind V.num
def pathD (L:Nat→Pa.TypeV) (len:Nat) (t:Int) (V:Pa.VT) (s:ByteArray):DatV:=
 if (Pa.findA L len t s).err≠0 then noDat else ((Pa.atA L len t (Pa.findA L len t s).steps V).map datX).getD noDat
def truD (L:Nat→Pa.TypeV) (len:Nat) (t:Int) (V:Pa.VT) (o u:Opd):DatV:=if o.kind=1 then pathD L len t V o.text else datE L len t o u
def relC (r c:Int):Bool:=if r=1 then decide (c=0) else if r=2 then !decide (c=0) else if r=3 then decide (c<0) else if r=4 then decide (c≤0) else if r=5 then decide (0<c) else if r=6 then decide (0≤c) else false
def relB (r:Int) (a b:DatV):Bool:=if a.kind=b.kind∧a.kind≠0 then relC r (Pa.cmpD a b) else false
def likB (a b:DatV):Bool:=decide (a.kind=2)&&decide (b.kind=2)&&Li.likeL b.text.data.toList a.text.data.toList
def prB (D:Opd→Opd→DatV) (r:Int) (a b:Opd):Bool:=relB r (D a b) (D b a)
def ownB (D:Opd→Opd→DatV) (op rel:Int) (an:Nat) (g:Nat→Opd):Bool:=
 if op=1 then decide (an=2)&&prB D rel (g 0) (g 1)
 else if op=2 then decide (an=3)&&(prB D 6 (g 0) (g 1)&&prB D 4 (g 0) (g 2))
 else if op=3 then decide (an=2)&&likB (D (g 0) (g 1)) (D (g 1) (g 0)) else false
def holdB (D:Opd→Opd→DatV):XT→Bool
 |.nil=>false
 |.node op r _ an _ g _ kn _ f=>if op=4 then decide (0<kn)&&!holdB D (f 0) else if op=5 then !anyTo (fun i=>!holdB D (f i)) kn else if op=6 then anyTo (fun i=>holdB D (f i)) kn else ownB D op r an g
theorem holdB_eq (D:Opd→Opd→DatV) (T:XT):holdB D T=if T.op=4 then decide (0<T.kn)&&!holdB D (T.kid 0) else if T.op=5 then !anyTo (fun i=>!holdB D (T.kid i)) T.kn else if T.op=6 then anyTo (fun i=>holdB D (T.kid i)) T.kn else ownB D T.op T.rel T.an T.arg:=by
 cases T with
 |nil=>rfl
 |node=>rfl
theorem anyTo_congr {f g:Nat→Bool}:∀ n,(∀ i,i<n→f i=g i)→anyTo f n=anyTo g n
 |0,_=>rfl
 |n+1,h=>by rw [anyTo,anyTo,anyTo_congr n (fun i hi=>h i (by omega)),h n (by omega)]
theorem ownB_same {D:Opd→Opd→DatV} {op rel:Int} {an:Nat} {g h:Nat→Opd} (e:∀ i,i<an→g i=h i):ownB D op rel an g=ownB D op rel an h:=by
 unfold ownB
 by_cases o1:op=1
 · rw [if_pos o1,if_pos o1]
   by_cases hn:an=2
   · rw [e 0 (by omega),e 1 (by omega)]
   · rw [decide_eq_false hn];rfl
 · rw [if_neg o1,if_neg o1]
   by_cases o2:op=2
   · rw [if_pos o2,if_pos o2]
     by_cases hn:an=3
     · rw [e 0 (by omega),e 1 (by omega),e 2 (by omega)]
     · rw [decide_eq_false hn];rfl
   · rw [if_neg o2,if_neg o2]
     by_cases o3:op=3
     · rw [if_pos o3,if_pos o3]
       by_cases hn:an=2
       · rw [e 0 (by omega),e 1 (by omega)]
       · rw [decide_eq_false hn];rfl
     · rw [if_neg o3,if_neg o3]
theorem hold_same (D:Opd→Opd→DatV):∀ T U:XT,SameX T U→holdB D T=holdB D U:=by
 refine XT.ind fun T ih U h=>?_
 obtain ⟨h1,h2,h3,h4,h5,h6⟩:=(sameX_iff T U).1 h
 have hk:∀ i,i<T.kn→holdB D (T.kid i)=holdB D (U.kid i):=fun i hi=>ih i hi _ (h6 i hi)
 rw [holdB_eq D T,holdB_eq D U,←h1,←h2,←h3,←h5,ownB_same h4,anyTo_congr (g:=fun i=>!holdB D (U.kid i)) T.kn (fun i hi=>by rw [hk i hi]),anyTo_congr (g:=fun i=>holdB D (U.kid i)) T.kn hk]
 by_cases h0:0<T.kn
 · rw [hk 0 h0]
 · rw [decide_eq_false h0];rfl
def smV:Pa.VT→Prop
 |.nil=>True
 |.node _ _ s _ n _ f=>s.size≤1000000∧∀ i,i<n→smV (f i)
theorem smV_iff (T:Pa.VT):smV T↔T.text.size≤1000000∧∀ i,i<T.len→smV (T.kid i):=by
 cases T with
 |nil=>exact ⟨fun _=>⟨by decide,fun i hi=>absurd hi (Nat.not_lt_zero i)⟩,fun _=>trivial⟩
 |node=>exact Iff.rfl
theorem at_sm {L:Nat→Pa.TypeV} {len:Nat}:∀ (ps:List Pa.StepV) (t u:Nat) (V U:Pa.VT),Pa.endL L t ps=some u→Pa.atG L len (Pa.alongL L t ps) V=some U→smV V→smV U
 | [],t,u,V,U,_,h,hs=>by
   obtain rfl:=Option.some.inj h
   exact hs
 |s::r,t,u,V,U,he,h,hs=>by
  have e3:Pa.alongL L t (s::r)=(t,s)::Pa.alongL L (Pa.nextN L t s) r:=rfl
  rw [e3,Pa.atG_cons] at h
  rw [Pa.endL] at he
  split at he
  · rename_i hb
    have hn:0≤s.n:=by unfold Pa.nextB at hb;simp only [Bool.and_eq_true,decide_eq_true_eq] at hb;exact hb.1
    cases ho:Pa.plcO L len t s V with
    |none=>rw [show Pa.plcO L len (t,s).1 (t,s).2 V=none from ho] at h;cases h
    |some i=>
     rw [show Pa.plcO L len (t,s).1 (t,s).2 V=some i from ho] at h
     exact at_sm r _ u _ U he h (((smV_iff V).1 hs).2 i (Pa.plc_lt ho hn))
  · cases he
theorem atA_sm {L:Nat→Pa.TypeV} {len:Nat} {t:Int} {ps:List Pa.StepV} {V U:Pa.VT} (h:Pa.atA L len t ps V=some U) (hs:smV V):smV U:=by
 unfold Pa.atA at h
 cases he:Pa.endA L len t ps with
 |none=>rw [he] at h;cases h
 |some u=>
  rw [he] at h
  unfold Pa.endA at he
  split at he
  · exact at_sm ps _ u V U he h hs
  · cases he
structure DatS (d:DatV):Prop where
 sm:d.text.size≤1000000
 wf:(Lit.int .u64 d.num).wf=true
theorem datS_K (k n:Int):DatS (datK k n):=⟨by rw [Pa.dat_text];decide,Pa.wf_u64 (Pa.dat_num k n).1 (Pa.dat_num k n).2⟩
theorem datS_no:DatS noDat:=⟨by decide,rfl⟩
theorem datS_X {V:Pa.VT} (h:V.text.size≤1000000):DatS (datX V):=by
 unfold datX
 split
 · exact ⟨h,rfl⟩
 · exact datS_K _ _
theorem datS_path {L:Nat→Pa.TypeV} {len:Nat} {t:Int} {V:Pa.VT} {s:ByteArray} (h:smV V):DatS (pathD L len t V s):=by
 unfold pathD
 split
 · exact datS_no
 · cases hA:Pa.atA L len t (Pa.findA L len t s).steps V with
   |none=>exact datS_no
   |some U=>exact datS_X ((smV_iff U).1 (atA_sm hA h)).1
theorem datS_W {L:Nat→Pa.TypeV} {len:Nat} {x:Int} {o:Opd} (hs:o.text.size≤1000000):DatS (datW L len x o):=by
 unfold datW
 split
 · exact datS_K _ _
 · exact ⟨hs,rfl⟩
theorem datS_E {L:Nat→Pa.TypeV} {len:Nat} {t:Int} {o u:Opd} (h:OpX o) (hs:o.text.size≤1000000):DatS (datE L len t o u):=by
 have hw:(Lit.int .u64 o.num).wf=true:=Pa.wf_u64 h.2.1 (by have:=h.2.2;omega)
 unfold datE
 split
 · exact ⟨(by decide:(⟨#[]⟩:ByteArray).size≤1000000),hw⟩
 · split
   · exact ⟨(by decide:(⟨#[]⟩:ByteArray).size≤1000000),hw⟩
   · split
     · exact datS_W hs
     · exact datS_no
theorem datS_T {L:Nat→Pa.TypeV} {len:Nat} {t:Int} {V:Pa.VT} {o u:Opd} (hv:smV V) (h:OpX o) (hs:o.text.size≤1000000):DatS (truD L len t V o u):=by
 unfold truD
 split
 · exact datS_path hv
 · exact datS_E h hs
def xOk:XT→Prop
 |.nil=>True
 |.node _ _ _ n _ g _ m _ f=>(∀ i,i<n→OpX (g i)∧(g i).text.size≤1000000)∧∀ i,i<m→xOk (f i)
theorem xOk_iff (T:XT):xOk T↔(∀ i,i<T.an→OpX (T.arg i)∧(T.arg i).text.size≤1000000)∧∀ i,i<T.kn→xOk (T.kid i):=by
 cases T with
 |nil=>exact ⟨fun _=>⟨fun i hi=>absurd hi (Nat.not_lt_zero i),fun i hi=>absurd hi (Nat.not_lt_zero i)⟩,fun _=>trivial⟩
 |node=>exact Iff.rfl
theorem xOk_same:∀ T U:XT,SameX T U→xOk U→xOk T:=by
 refine XT.ind fun T ih U h hu=>?_
 obtain ⟨h1,h2,h3,h4,h5,h6⟩:=(sameX_iff T U).1 h
 obtain ⟨k1,k2⟩:=(xOk_iff U).1 hu
 exact (xOk_iff T).2 ⟨fun i hi=>by rw [h4 i hi];exact k1 i (by omega),fun i hi=>ih i hi _ (h6 i hi) (k2 i (by omega))⟩
end Go.Proofs.YthcompcjphaahaaGreatDoor
namespace Go.Proofs.YthcompcjphaahaaGreatDoor
open Go.RowKit
set_option linter.unusedVariables false
set_option linter.unusedSimpArgs false
theorem relB_no {r:Int} {a b:DatV} (h:¬(a.kind=b.kind∧a.kind≠0)):relB r a b=false:=by unfold relB;rw [if_neg h]
theorem relB_yes {r:Int} {a b:DatV} (h:a.kind=b.kind) (h0:a.kind≠0):relB r a b=relC r (Pa.cmpD a b):=by unfold relB;rw [if_pos ⟨h,h0⟩]
theorem ret_b19 {a b:Bool} (h:a=b):Ending.returned (.bool a)=.returned (.bool b):=by rw [h]
theorem relC_no {r c:Int} (h:r<1∨6<r):relC r c=false:=by
 unfold relC
 rw [if_neg (by omega),if_neg (by omega),if_neg (by omega),if_neg (by omega),if_neg (by omega),if_neg (by omega)]
set_option maxRecDepth 100000 in
set_option maxHeartbeats 4000000 in
theorem rel_any (r:Int) (a b:DatV) (ha:(Lit.int .u64 a.num).wf=true) (hb:(Lit.int .u64 b.num).wf=true) (hta:a.text.size≤281474976710656) (htb:b.text.size≤281474976710656) (w:World):
  Calls Tryz.prog 14 #[.int .i64 r,.agg #[.int .i64 a.kind,.bool a.neg,.int .u64 a.num,.string a.text],.agg #[.int .i64 b.kind,.bool b.neg,.int .u64 b.num,.string b.text]] w fun e w'=>e=.returned (.bool (relB r a b))∧Below w.heap.size w w':=by
 obtain ⟨ka,ga,na,ta⟩:=a
 obtain ⟨kb,gb,nb,tb⟩:=b
 simp only at ha hb hta htb ⊢
 have HC:=Lib.hid (fun wx=>Pa.cmp_any ka kb na nb ga gb ta tb ha hb hta htb wx)
 have HB0:=Lib.hid (((Below.refl w.heap.size w).alloc (Nat.le_refl _) (.cells #[.int .i64 ka,.bool ga,.int .u64 na,.string ta] 42)).alloc (by simp) (.cells #[.int .i64 kb,.bool gb,.int .u64 nb,.string tb] 42))
 by_cases hk:ka=kb
 · subst hk
   by_cases h0:ka=0
   · subst h0
     rw [relB_no (fun h=>h.2 rfl)]
     clear HC
     go_enter Tryz.func14,Tryz.ntmps14
     go_wp2
     go_ret
     exact ⟨rfl,HB0.out⟩
   · rw [relB_yes (show (⟨ka,ga,na,ta⟩:DatV).kind=(⟨ka,gb,nb,tb⟩:DatV).kind from rfl) h0]
     have k0:(ka==0)=false:=by rw [beq_eq_false_iff_ne];exact h0
     obtain ⟨C,hC⟩:∃ C,Pa.cmpD ⟨ka,ga,na,ta⟩ ⟨ka,gb,nb,tb⟩=C:=⟨_,rfl⟩
     rw [hC] at HC ⊢
     obtain ⟨R,hR⟩:∃ R,relC r C=R:=⟨_,rfl⟩
     rw [hR]
     have HR:=Lib.hid hR
     clear hC h0 hR
     have hr:r=1∨r=2∨r=3∨r=4∨r=5∨r=6∨(r<1∨6<r):=by omega
     rcases hr with rfl|rfl|rfl|rfl|rfl|rfl|hr
     case inr.inr.inr.inr.inr.inr=>
      obtain rfl:R=false:=HR.out.symm.trans (relC_no hr)
      clear HR
      have r1:(r==1)=false:=by rw [beq_eq_false_iff_ne];omega
      have r2:(r==2)=false:=by rw [beq_eq_false_iff_ne];omega
      have r3:(r==3)=false:=by rw [beq_eq_false_iff_ne];omega
      have r4:(r==4)=false:=by rw [beq_eq_false_iff_ne];omega
      have r5:(r==5)=false:=by rw [beq_eq_false_iff_ne];omega
      have r6:(r==6)=false:=by rw [beq_eq_false_iff_ne];omega
      clear hr
      go_enter Tryz.func14,Tryz.ntmps14
      go_wp2_with (go_at_call 34;refine (HC.out _).mono ?_;rintro e w1 ⟨rfl,hb⟩;have HB1:=Lib.hid (bth HB0.out hb);clear hb)
      go_ret
      exact ⟨rfl,HB1.out⟩
     all_goals
      go_enter Tryz.func14,Tryz.ntmps14
      go_wp2_with (go_at_call 34;refine (HC.out _).mono ?_;rintro e w1 ⟨rfl,hb⟩;have HB1:=Lib.hid (bth HB0.out hb);clear hb)
      all_goals
       go_ret
       refine ⟨ret_b19 ?_,HB1.out⟩
       rw [←HR.out]
       first|rfl|(simp [relC];done)|(simp [relC];rw [Bool.eq_iff_iff];simp;done)
 · rw [relB_no (fun h=>hk h.1)]
   have k0:(ka !=kb)=true:=by rw [bne_iff_ne];exact hk
   clear HC hk
   go_enter Tryz.func14,Tryz.ntmps14
   go_wp2
   go_ret
   exact ⟨rfl,HB0.out⟩
end Go.Proofs.YthcompcjphaahaaGreatDoor
namespace Go.Proofs.YthcompcjphaahaaGreatDoor
open Go.RowKit
set_option linter.unusedVariables false
set_option linter.unusedSimpArgs false
theorem relC_neg {r c:Int} (h:c<0):relC r c=decide (r=2∨r=3∨r=4):=by
 unfold relC
 by_cases h1:r=1 <;> by_cases h2:r=2 <;> by_cases h3:r=3 <;> by_cases h4:r=4 <;> by_cases h5:r=5 <;> by_cases h6:r=6 <;> simp [h1,h2,h3,h4,h5,h6] <;> omega
theorem relC_pos {r c:Int} (h:0<c):relC r c=decide (r=2∨r=5∨r=6):=by
 unfold relC
 by_cases h1:r=1 <;> by_cases h2:r=2 <;> by_cases h3:r=3 <;> by_cases h4:r=4 <;> by_cases h5:r=5 <;> by_cases h6:r=6 <;> simp [h1,h2,h3,h4,h5,h6] <;> omega
theorem relC_zero (r:Int):relC r 0=decide (r=1∨r=4∨r=6):=by
 unfold relC
 by_cases h1:r=1 <;> by_cases h2:r=2 <;> by_cases h3:r=3 <;> by_cases h4:r=4 <;> by_cases h5:r=5 <;> by_cases h6:r=6 <;> simp [h1,h2,h3,h4,h5,h6] <;> omega
end Go.Proofs.YthcompcjphaahaaGreatDoor
