/- Chapter 19 in plain Lean: the datum of an operand in a value, which relation holds, which tree holds. No run of the program. -/
import Derived.Test.YthcompcjphaahaaGreatDoorh27
import Derived.Test.YthcompcjphaahaaGreatDoorh30
import Derived.Test.YthcompcjphaahaaGreatDoorh31
set_option maxRecDepth 100000
set_option maxHeartbeats 8000000
set_option linter.unusedVariables false
set_option linter.unusedSimpArgs false
namespace Go.Proofs.YthcompcjphaahaaGreatDoor
open Go Go.RowKit
def datX (V:Pa.VT):DatV:=if V.kind=10 then ⟨2,false,0,V.text⟩ else datK V.kind V.num
def pathD (L:Nat→Pa.TypeV) (len:Nat) (t:Int) (V:Pa.VT) (s:ByteArray):DatV:=
 if (Pa.findA L len t s).err≠0 then noDat else ((Pa.atA L len t (Pa.findA L len t s).steps V).map datX).getD noDat
def truD (L:Nat→Pa.TypeV) (len:Nat) (t:Int) (V:Pa.VT) (o u:Opd):DatV:=if o.kind=1 then pathD L len t V o.text else datE L len t o u
def relC (r c:Int):Bool:=if r=1 then decide (c=0) else if r=2 then !decide (c=0) else if r=3 then decide (c<0) else if r=4 then decide (c≤0) else if r=5 then decide (0<c) else if r=6 then decide (0≤c) else false
def relB (r:Int) (a b:DatV):Bool:=if a.kind=b.kind∧a.kind≠0 then relC r (Pa.cmpD a b) else false
def likB (a b:DatV):Bool:=decide (a.kind=2)&&decide (b.kind=2)&&Li.likeL b.text.data.toList a.text.data.toList
def prB (D:Opd→Opd→DatV) (r:Int) (a b:Opd):Bool:=relB r (D a b) (D b a)
def ownB (D:Opd→Opd→DatV) (op rel:Int) (an:Nat) (g:Nat→Opd):Bool:=
 if op=1 then decide (an=2)&&prB D rel (g 0) (g 1)
 else if op=2 then decide (an=3)&&(prB D 6 (g 0) (g 1)&&prB D 4 (g 0) (g 2))
 else if op=3 then decide (an=2)&&likB (D (g 0) (g 1)) (D (g 1) (g 0)) else false
def holdB (D:Opd→Opd→DatV):XT→Bool
 |.nil=>false
 |.node op r _ an _ g _ kn _ f=>if op=4 then decide (0<kn)&&!holdB D (f 0) else if op=5 then !anyTo (fun i=>!holdB D (f i)) kn else if op=6 then anyTo (fun i=>holdB D (f i)) kn else ownB D op r an g
theorem X1 (D:Opd→Opd→DatV) (T:XT):holdB D T=if T.op=4 then decide (0<T.kn)&&!holdB D (T.kid 0) else if T.op=5 then !anyTo (fun i=>!holdB D (T.kid i)) T.kn else if T.op=6 then anyTo (fun i=>holdB D (T.kid i)) T.kn else ownB D T.op T.rel T.an T.arg:=by
 cases T with
 |nil=>rfl
 |node=>rfl
theorem Yz {f g:Nat→Bool}:∀ n,(∀ i,i<n→f i=g i)→anyTo f n=anyTo g n
 |0,_=>rfl
 |n+1,h=>by rw [anyTo,anyTo,Yz n (fun i hi=>h i (by omega)),h n (by omega)]
theorem jo8 {D:Opd→Opd→DatV} {op rel:Int} {an:Nat} {g h:Nat→Opd} (e:∀ i,i<an→g i=h i):ownB D op rel an g=ownB D op rel an h:=by
 unfold ownB
 by_cases o1:op=1
 · rw [if_pos o1,if_pos o1]
   by_cases hn:an=2
   · rw [e 0 (by omega),e 1 (by omega)]
   · rw [decide_eq_false hn];rfl
 · rw [if_neg o1,if_neg o1]
   by_cases o2:op=2
   · rw [if_pos o2,if_pos o2]
     by_cases hn:an=3
     · rw [e 0 (by omega),e 1 (by omega),e 2 (by omega)]
     · rw [decide_eq_false hn];rfl
   · rw [if_neg o2,if_neg o2]
     by_cases o3:op=3
     · rw [if_pos o3,if_pos o3]
       by_cases hn:an=2
       · rw [e 0 (by omega),e 1 (by omega)]
       · rw [decide_eq_false hn];rfl
     · rw [if_neg o3,if_neg o3]
theorem jfg (D:Opd→Opd→DatV):∀ T U:XT,SameX T U→holdB D T=holdB D U:=by
 refine XT.ind fun T ih U h=>?_;obtain ⟨h1,h2,h3,h4,h5,h6⟩:=(Xv T U).1 h;have hk:∀ i,i<T.kn→holdB D (T.kid i)=holdB D (U.kid i):=fun i hi=>ih i hi _ (h6 i hi);rw [X1 D T,X1 D U,←h1,←h2,←h3,←h5,jo8 h4,Yz (g:=fun i=>!holdB D (U.kid i)) T.kn (fun i hi=>by rw [hk i hi]),Yz (g:=fun i=>holdB D (U.kid i)) T.kn hk]
 by_cases h0:0<T.kn
 · rw [hk 0 h0]
 · rw [decide_eq_false h0];rfl
def smV:Pa.VT→Prop
 |.nil=>True
 |.node _ _ s _ n _ f=>s.size≤1000000∧∀ i,i<n→smV (f i)
theorem jhf (T:Pa.VT):smV T↔T.text.size≤1000000∧∀ i,i<T.len→smV (T.kid i):=by
 cases T with
 |nil=>exact ⟨fun _=>⟨by decide,fun i hi=>absurd hi (Nat.not_lt_zero i)⟩,fun _=>trivial⟩
 |node=>exact Iff.rfl
theorem jpe:∀ (T:Pa.VT) (d:Nat),Pa.muchT T d=false→smV T:=by
 refine Pa.VT.ind fun T ih d h=>?_;obtain ⟨_,_,h3,h4,_,_⟩:=Pa.jhc h;exact (jhf T).2 ⟨by omega,fun i hi=>ih i hi _ (h4 i hi)⟩
theorem jt1 {L:Nat→Pa.TypeV} {len:Nat}:∀ (ps:List Pa.StepV) (t u:Nat) (V U:Pa.VT),Pa.endL L t ps=some u→Pa.atG L len (Pa.alongL L t ps) V=some U→smV V→smV U
 | [],t,u,V,U,_,h,hs=>by
   obtain rfl:=Option.some.inj h;exact hs
 |s::r,t,u,V,U,he,h,hs=>by
  have e3:Pa.alongL L t (s::r)=(t,s)::Pa.alongL L (Pa.nextN L t s) r:=rfl;rw [e3,Pa.jc8] at h;rw [Pa.endL] at he
  split at he
  · rename_i hb
    have hn:0≤s.n:=by unfold Pa.nextB at hb;simp only [Bool.and_eq_true,decide_eq_true_eq] at hb;exact hb.1
    cases ho:Pa.plcO L len t s V with
    |none=>rw [show Pa.plcO L len (t,s).1 (t,s).2 V=none from ho] at h;cases h
    |some i=>
     rw [show Pa.plcO L len (t,s).1 (t,s).2 V=some i from ho] at h;exact jt1 r _ u _ U he h (((jhf V).1 hs).2 i (Pa.jkp ho hn))
  · cases he
theorem jug {L:Nat→Pa.TypeV} {len:Nat} {t:Int} {ps:List Pa.StepV} {V U:Pa.VT} (h:Pa.atA L len t ps V=some U) (hs:smV V):smV U:=by
 unfold Pa.atA at h
 cases he:Pa.endA L len t ps with
 |none=>rw [he] at h;cases h
 |some u=>
  rw [he] at h;unfold Pa.endA at he
  split at he
  · exact jt1 ps _ u V U he h hs
  · cases he
structure DatS (d:DatV):Prop where
 sm:d.text.size≤1000000
 wf:(Lit.int .u64 d.num).wf=true
theorem jsd (k n:Int):DatS (datK k n):=⟨by rw [Pa.jrr];decide,Pa.wf_u64 (Pa.jml k n).1 (Pa.jml k n).2⟩
theorem jha:DatS noDat:=⟨by decide,rfl⟩
theorem jup {V:Pa.VT} (h:V.text.size≤1000000):DatS (datX V):=by
 unfold datX
 split
 · exact ⟨h,rfl⟩
 · exact jsd _ _
theorem joz {L:Nat→Pa.TypeV} {len:Nat} {t:Int} {V:Pa.VT} {s:ByteArray} (h:smV V):DatS (pathD L len t V s):=by
 unfold pathD
 split
 · exact jha
 · cases hA:Pa.atA L len t (Pa.findA L len t s).steps V with
   |none=>exact jha
   |some U=>exact jup ((jhf U).1 (jug hA h)).1
theorem ju2 {L:Nat→Pa.TypeV} {len:Nat} {x:Int} {o:Opd} (hs:o.text.size≤1000000):DatS (datW L len x o):=by
 unfold datW
 split
 · exact jsd _ _
 · exact ⟨hs,rfl⟩
theorem jur {L:Nat→Pa.TypeV} {len:Nat} {t:Int} {o u:Opd} (h:OpX o) (hs:o.text.size≤1000000):DatS (datE L len t o u):=by
 have hw:(Lit.int .u64 o.num).wf=true:=Pa.wf_u64 h.2.1 (by have:=h.2.2;omega);unfold datE
 split
 · exact ⟨(by decide:(⟨#[]⟩:ByteArray).size≤1000000),hw⟩
 · split
   · exact ⟨(by decide:(⟨#[]⟩:ByteArray).size≤1000000),hw⟩
   · split
     · exact ju2 hs
     · exact jha
theorem Zb {L:Nat→Pa.TypeV} {len:Nat} {t:Int} {V:Pa.VT} {o u:Opd} (hv:smV V) (h:OpX o) (hs:o.text.size≤1000000):DatS (truD L len t V o u):=by
 unfold truD
 split
 · exact joz hv
 · exact jur h hs
def xOk:XT→Prop
 |.nil=>True
 |.node _ _ _ n _ g _ m _ f=>(∀ i,i<n→OpX (g i)∧(g i).text.size≤1000000)∧∀ i,i<m→xOk (f i)
theorem Yb (T:XT):xOk T↔(∀ i,i<T.an→OpX (T.arg i)∧(T.arg i).text.size≤1000000)∧∀ i,i<T.kn→xOk (T.kid i):=by
 cases T with
 |nil=>exact ⟨fun _=>⟨fun i hi=>absurd hi (Nat.not_lt_zero i),fun i hi=>absurd hi (Nat.not_lt_zero i)⟩,fun _=>trivial⟩
 |node=>exact Iff.rfl
theorem jmk {f:Nat→Nat}:∀ n,minA f n<100000→∀ i,i<n→f i≤minA f n
 |0,_,i,hi=>absurd hi (Nat.not_lt_zero i)
 |n+1,h,i,hi=>by
  have hd:minA f (n+1)=min (minA f n+f n) 100000:=rfl
  rcases Nat.lt_succ_iff_lt_or_eq.1 hi with h1|rfl
  · have:=jmk (f:=f) n (by omega) i h1
    omega
  · omega
theorem jh1:∀ T U:XT,SameX T U→xOk U→xOk T:=by
 refine XT.ind fun T ih U h hu=>?_;obtain ⟨h1,h2,h3,h4,h5,h6⟩:=(Xv T U).1 h;obtain ⟨k1,k2⟩:=(Yb U).1 hu;exact (Yb T).2 ⟨fun i hi=>by rw [h4 i hi];exact k1 i (by omega),fun i hi=>ih i hi _ (h6 i hi) (k2 i (by omega))⟩
end Go.Proofs.YthcompcjphaahaaGreatDoor
namespace Go.Proofs.YthcompcjphaahaaGreatDoor
open Go.RowKit
theorem jcf {r:Int} {a b:DatV} (h:¬(a.kind=b.kind∧a.kind≠0)):relB r a b=false:=by unfold relB;rw [if_neg h]
theorem jis {r:Int} {a b:DatV} (h:a.kind=b.kind) (h0:a.kind≠0):relB r a b=relC r (Pa.cmpD a b):=by unfold relB;rw [if_pos ⟨h,h0⟩]
theorem yi {a b:Bool} (h:a=b):Ending.returned (.bool a)=.returned (.bool b):=by rw [h]
theorem jl5 {r c:Int} (h:r<1∨6<r):relC r c=false:=by
 unfold relC;rw [if_neg (by omega),if_neg (by omega),if_neg (by omega),if_neg (by omega),if_neg (by omega),if_neg (by omega)]
theorem jsi (r:Int) (a b:DatV) (ha:(Lit.int .u64 a.num).wf=true) (hb:(Lit.int .u64 b.num).wf=true) (hta:a.text.size≤281474976710656) (htb:b.text.size≤281474976710656) (w:World):
  Calls Tryz.prog 14 #[.int .i64 r,.agg #[.int .i64 a.kind,.bool a.neg,.int .u64 a.num,.string a.text],.agg #[.int .i64 b.kind,.bool b.neg,.int .u64 b.num,.string b.text]] w fun e w'=>e=.returned (.bool (relB r a b))∧Below w.heap.size w w':=by
 obtain ⟨ka,ga,na,ta⟩:=a;obtain ⟨kb,gb,nb,tb⟩:=b;simp only at ha hb hta htb ⊢;have HC:=lh (fun wx=>Pa.jtf ka kb na nb ga gb ta tb ha hb hta htb wx);have HB0:=lh (((Below.refl w.heap.size w).alloc (Nat.le_refl _) (.cells #[.int .i64 ka,.bool ga,.int .u64 na,.string ta] 42)).alloc (by simp) (.cells #[.int .i64 kb,.bool gb,.int .u64 nb,.string tb] 42))
 by_cases hk:ka=kb
 · subst hk
   by_cases h0:ka=0
   · subst h0;rw [jcf (fun h=>h.2 rfl)];clear HC;go_enter Tryz.func14,Tryz.ntmps14;go_wp2;go_ret;exact ⟨rfl,HB0.out⟩
   · rw [jis (show (⟨ka,ga,na,ta⟩:DatV).kind=(⟨ka,gb,nb,tb⟩:DatV).kind from rfl) h0]
     have k0:(ka==0)=false:=by rw [beq_eq_false_iff_ne];exact h0
     obtain ⟨C,hC⟩:∃ C,Pa.cmpD ⟨ka,ga,na,ta⟩ ⟨ka,gb,nb,tb⟩=C:=⟨_,rfl⟩;rw [hC] at HC ⊢;obtain ⟨R,hR⟩:∃ R,relC r C=R:=⟨_,rfl⟩;rw [hR];have HR:=lh hR;clear hC h0 hR
     have hr:r=1∨r=2∨r=3∨r=4∨r=5∨r=6∨(r<1∨6<r):=by omega
     rcases hr with rfl|rfl|rfl|rfl|rfl|rfl|hr
     case inr.inr.inr.inr.inr.inr=>
      obtain rfl:R=false:=HR.out.symm.trans (jl5 hr);clear HR
      have r1:(r==1)=false:=by rw [beq_eq_false_iff_ne];omega
      have r2:(r==2)=false:=by rw [beq_eq_false_iff_ne];omega
      have r3:(r==3)=false:=by rw [beq_eq_false_iff_ne];omega
      have r4:(r==4)=false:=by rw [beq_eq_false_iff_ne];omega
      have r5:(r==5)=false:=by rw [beq_eq_false_iff_ne];omega
      have r6:(r==6)=false:=by rw [beq_eq_false_iff_ne];omega
      clear hr;go_enter Tryz.func14,Tryz.ntmps14;go_wp2_with (go_at_call 34;refine (HC.out _).mono ?_;rintro e w1 ⟨rfl,hb⟩;have HB1:=lh (bth HB0.out hb);clear hb);go_ret;exact ⟨rfl,HB1.out⟩
     all_goals
      go_enter Tryz.func14,Tryz.ntmps14;go_wp2_with (go_at_call 34;refine (HC.out _).mono ?_;rintro e w1 ⟨rfl,hb⟩;have HB1:=lh (bth HB0.out hb);clear hb)
      all_goals
       go_ret;refine ⟨yi ?_,HB1.out⟩;rw [←HR.out]
       first|rfl|(simp [relC];done)|(simp [relC];rw [Bool.eq_iff_iff];simp;done)
 · rw [jcf (fun h=>hk h.1)]
   have k0:(ka !=kb)=true:=by rw [bne_iff_ne];exact hk
   clear HC hk;go_enter Tryz.func14,Tryz.ntmps14;go_wp2;go_ret;exact ⟨rfl,HB0.out⟩
end Go.Proofs.YthcompcjphaahaaGreatDoor
namespace Go.Proofs.YthcompcjphaahaaGreatDoor
open Go Go.RowKit
def Xl (f:Nat→Int):Nat→Int|0=>0|n+1=>Xl f n+f n
theorem Zs {F:Nat→Int}:∀ n,(∀ i,i<n→1≤F i)→(n:Int)≤Xl F n
 |0,_=>by show ((0:Nat):Int)≤0;omega
 |n+1,h=>by
  have:=Zs n (fun i hi=>h i (by omega))
  have:=h n (by omega)
  show ((n+1:Nat):Int)≤Xl F n+F n
  omega
theorem jek {a:Int} {F:Nat→Int} (h0:0≤a) (h1:a≤100000):∀ n,(∀ i,i<n→1≤F i∧F i≤3101)→minK a F n=min (a+Xl F n) 100000
 |0,_=>by show a=min (a+0) 100000;omega
 |n+1,h=>by
  have h2:=jek h0 h1 n (fun i hi=>h i (by omega));have h3:=Zs n (fun i hi=>(h i (by omega)).1);have h4:=h n (by omega)
  show min (wrap64 (minK a F n+F n)) 100000=min (a+(Xl F n+F n)) 100000
  rw [h2,IntWalk.wrap64_in _ (by omega)];omega
theorem jdp {a:Int} {F:Nat→Int} (h0:0≤a) (h1:a≤1000):∀ n,n≤100→(∀ i,i<n→1≤F i∧F i≤3101)→sumW a F n=a+Xl F n∧Xl F n≤3101*n
 |0,_,_=>by constructor;· show a=a+0;omega
            · show (0:Int)≤_;omega
 |n+1,hn,h=>by
  obtain ⟨h2,h5⟩:=jdp h0 h1 n (by omega) (fun i hi=>h i (by omega));have h3:=Zs n (fun i hi=>(h i (by omega)).1);have h4:=h n (by omega)
  constructor
  · show wrap64 (sumW a F n+F n)=a+(Xl F n+F n)
    rw [h2,IntWalk.wrap64_in _ (by omega)];omega
  · show Xl F n+F n≤_;omega
theorem jgk:∀ (T:XT) (d:Nat),greatX T d=false→(1≤sizeX T∧sizeX T≤3101)∧(∀ i,i<T.an→(T.arg i).text.size≤3000)∧T.kn≤100∧(∀ i,i<T.kn→greatX (T.kid i) (d+1)=false)∧sizeX T=1+(T.an:Int)+Xl (fun i=>sizeX (T.kid i)) T.kn:=by
 refine XT.ind fun T ih d h=>?_;rw [Zl] at h;simp only [Bool.or_eq_false_iff,decide_eq_false_iff_not,Nat.not_lt] at h;obtain ⟨⟨⟨⟨h1,h2⟩,h3⟩,h4⟩,h5⟩:=h;have hk:∀ i,i<T.kn→1≤sizeX (T.kid i)∧sizeX (T.kid i)≤3101:=fun i hi=>(ih i hi (d+1) (Xf h4 i hi)).1;have hml:=jlw (fun i=>(T.arg i).text.size) T.an;rw [jek (by omega) (by omega) T.kn hk] at h5;have hs:=Zs (F:=fun i=>sizeX (T.kid i)) T.kn (fun i hi=>(hk i hi).1);have hw:=(jdp (a:=1+(T.an:Int)) (F:=fun i=>sizeX (T.kid i)) (by omega) (by omega) T.kn h2 hk).1;rw [jjb,hw];refine ⟨by omega,fun i hi=>?_,h2,fun i hi=>Xf h4 i hi,rfl⟩
 have:=jmk (f:=fun i=>(T.arg i).text.size) T.an (by omega) i hi
 have h6:(T.arg i).text.size≤minA (fun i=>(T.arg i).text.size) T.an:=this;omega
theorem joa:∀ (T:XT) (d:Nat),XTx T→greatX T d=false→xOk T:=by
 refine XT.ind fun T ih d hx h=>?_;obtain ⟨_,h2,_,h4,_⟩:=jgk T d h;obtain ⟨k1,k2⟩:=(jam T).1 hx;exact (Yb T).2 ⟨fun i hi=>⟨k1 i hi,Nat.le_trans (h2 i hi) (by decide)⟩,fun i hi=>ih i hi _ (k2 i hi) (h4 i hi)⟩
end Go.Proofs.YthcompcjphaahaaGreatDoor
namespace Go.Proofs.YthcompcjphaahaaGreatDoor
open Go.RowKit
theorem jqy {r c:Int} (h:c<0):relC r c=decide (r=2∨r=3∨r=4):=by
 unfold relC
 by_cases h1:r=1 <;> by_cases h2:r=2 <;> by_cases h3:r=3 <;> by_cases h4:r=4 <;> by_cases h5:r=5 <;> by_cases h6:r=6 <;> simp [h1,h2,h3,h4,h5,h6] <;> omega
theorem jr0 {r c:Int} (h:0<c):relC r c=decide (r=2∨r=5∨r=6):=by
 unfold relC
 by_cases h1:r=1 <;> by_cases h2:r=2 <;> by_cases h3:r=3 <;> by_cases h4:r=4 <;> by_cases h5:r=5 <;> by_cases h6:r=6 <;> simp [h1,h2,h3,h4,h5,h6] <;> omega
theorem jmr (r:Int):relC r 0=decide (r=1∨r=4∨r=6):=by
 unfold relC
 by_cases h1:r=1 <;> by_cases h2:r=2 <;> by_cases h3:r=3 <;> by_cases h4:r=4 <;> by_cases h5:r=5 <;> by_cases h6:r=6 <;> simp [h1,h2,h3,h4,h5,h6] <;> omega
theorem jkc (r:Int) (a b:DatV) (ha:0≤a.num) (hb:0≤b.num) (w:World):
  Calls Tryz.prog 15 #[.int .i64 r,.agg #[.int .i64 a.kind,.bool a.neg,.int .u64 a.num,.string a.text],.agg #[.int .i64 b.kind,.bool b.neg,.int .u64 b.num,.string b.text]] w fun e w'=>e=.returned (.bool (relB r a b))∧Below w.heap.size w w':=by
 obtain ⟨ka,ga,na,ta⟩:=a;obtain ⟨kb,gb,nb,tb⟩:=b;simp only at ha hb ⊢;have HC:=lh (fun wx=>Pa.jkv ka kb na nb ga gb ta tb ha hb wx);have HB0:=lh (((Below.refl w.heap.size w).alloc (Nat.le_refl _) (.cells #[.int .i64 ka,.bool ga,.int .u64 na,.string ta] 42)).alloc (by simp) (.cells #[.int .i64 kb,.bool gb,.int .u64 nb,.string tb] 42))
 by_cases hk:ka=kb
 · subst hk
   by_cases h0:ka=0
   · subst h0;rw [jcf (fun h=>h.2 rfl)];clear HC;go_enter Tryz.func15,Tryz.ntmps15;go_wp2;go_ret;exact ⟨rfl,HB0.out⟩
   · rw [jis (show (⟨ka,ga,na,ta⟩:DatV).kind=(⟨ka,gb,nb,tb⟩:DatV).kind from rfl) h0]
     have k0:(ka==0)=false:=by rw [beq_eq_false_iff_ne];exact h0
     obtain ⟨C,hC⟩:∃ C,Pa.cmpD ⟨ka,ga,na,ta⟩ ⟨ka,gb,nb,tb⟩=C:=⟨_,rfl⟩;rw [hC] at HC ⊢;clear hC h0
     by_cases hr:r<1∨6<r
     · rw [jl5 hr]
       by_cases r1:r<1
       · clear HC hr;have d1:decide (r<1)=true:=decide_eq_true r1;go_enter Tryz.func15,Tryz.ntmps15;go_wp2;go_ret;exact ⟨rfl,HB0.out⟩
       · have r6:6<r:=by omega
         clear HC hr;have d1:decide (r<1)=false:=decide_eq_false r1;have d6:decide (6<r)=true:=decide_eq_true r6;go_enter Tryz.func15,Tryz.ntmps15;go_wp2;go_ret;exact ⟨rfl,HB0.out⟩
     · have h6:r=1∨r=2∨r=3∨r=4∨r=5∨r=6:=by omega
       clear hr
       by_cases c1:C<0
       · rw [jqy c1];have e1:decide (C<0)=true:=decide_eq_true c1;clear c1
         rcases h6 with rfl|rfl|rfl|rfl|rfl|rfl
         all_goals
          go_enter Tryz.func15,Tryz.ntmps15;go_wp2_with (go_at_call 35;refine (HC.out _).mono ?_;rintro e w1 ⟨rfl,hb⟩;have HB1:=lh (bth HB0.out hb);clear hb);go_ret;exact ⟨yi (by decide),(((HB1.out.alloc HB1.out.size _).alloc (by have:=HB1.out.size;simp;omega) _).alloc (by have:=HB1.out.size;simp;omega) _)⟩
       · by_cases c2:0<C
         · rw [jr0 c2];have e1:decide (C<0)=false:=decide_eq_false c1;have e2:decide (0<C)=true:=decide_eq_true c2;clear c1 c2
           rcases h6 with rfl|rfl|rfl|rfl|rfl|rfl
           all_goals
            go_enter Tryz.func15,Tryz.ntmps15;go_wp2_with (go_at_call 35;refine (HC.out _).mono ?_;rintro e w1 ⟨rfl,hb⟩;have HB1:=lh (bth HB0.out hb);clear hb);go_ret;exact ⟨yi (by decide),(((HB1.out.alloc HB1.out.size _).alloc (by have:=HB1.out.size;simp;omega) _).alloc (by have:=HB1.out.size;simp;omega) _)⟩
         · obtain rfl:C=0:=by omega
           rw [jmr];clear c1 c2
           rcases h6 with rfl|rfl|rfl|rfl|rfl|rfl
           all_goals
            go_enter Tryz.func15,Tryz.ntmps15;go_wp2_with (go_at_call 35;refine (HC.out _).mono ?_;rintro e w1 ⟨rfl,hb⟩;have HB1:=lh (bth HB0.out hb);clear hb);go_ret;exact ⟨yi (by decide),(((HB1.out.alloc HB1.out.size _).alloc (by have:=HB1.out.size;simp;omega) _).alloc (by have:=HB1.out.size;simp;omega) _)⟩
 · rw [jcf (fun h=>hk h.1)]
   have k0:(ka !=kb)=true:=by rw [bne_iff_ne];exact hk
   clear HC hk;go_enter Tryz.func15,Tryz.ntmps15;go_wp2;go_ret;exact ⟨rfl,HB0.out⟩
end Go.Proofs.YthcompcjphaahaaGreatDoor
