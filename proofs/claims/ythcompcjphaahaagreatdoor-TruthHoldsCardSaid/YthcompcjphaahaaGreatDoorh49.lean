/- Parse: the tree of a text, or what is wrong with it first. -/
import Derived.Test.YthcompcjphaahaaGreatDoorh46
import Derived.Test.YthcompcjphaahaaGreatDoorh48
set_option maxRecDepth 100000
set_option maxHeartbeats 8000000
set_option linter.unusedVariables false
namespace Go.Proofs.YthcompcjphaahaaGreatDoor
open Go.RowKit
def ParseTo (w:World) (A:Tree) (x:Ending) (w':World):Prop:=Below w.heap.size w w'∧match A with
 |.bad e a=>x=.returned (.tuple #[.agg #[.int .i64 0,.int .i64 0,.slice none 0 0,.slice none 0 0],.agg #[.int .i64 (e:Nat),.int .i64 (a:Nat)]])
 |.good t=>∃ T:XT,x=.returned (.tuple #[.agg #[.int .i64 T.op,.int .i64 T.rel,.slice T.aa T.an T.ac,.slice T.ka T.kn T.kc],.agg #[.int .i64 0,.int .i64 0]])∧SameX T t∧XAt w' (fun b=>w.heap.size≤b) T
theorem endParse {V:World} {act:Act} {Q:Ending→World→Prop} {a0 a1 a2 a3 f0 f1:Value} (hd:act.defers=[]) (rb fb:Nat) (h2:act.tmps.getD 2 undef=.pointer (some ⟨rb,0,none⟩)) (h3:act.tmps.getD 3 undef=.pointer (some ⟨fb,0,none⟩)) (hr:V.heap[rb]?=some (.cells #[a0,a1,a2,a3] 26)) (hf:V.heap[fb]?=some (.cells #[f0,f1] 54))
  (hQ:Q (.returned (.tuple #[.agg #[a0,a1,a2,a3],.agg #[f0,f1]])) V):bodyPost Tryz.prog Tryz.f25 Q Exit.ret act V:=by
 refine bodyPost_ret (v:=.tuple #[.agg #[a0,a1,a2,a3],.agg #[f0,f1]]) ?_ hd hQ;have hl2:=run_loadVar_row (P:=Tryz.prog) V rb 26 26 #[a0,a1,a2,a3] _ _ hr Tryz.underlying26 rfl (by kernel_rfl);have hl3:=run_loadVar_row (P:=Tryz.prog) V fb 54 54 #[f0,f1] _ _ hf Tryz.underlying54 rfl (by kernel_rfl);rw [Array.getD_eq_getD_getElem?] at h2 h3;simp [results,Tryz.results25,asAddr,hl2,hl3,h2,h3]
theorem jva {W:World} {rb fb:Nat} {o0 o1 o2 o3 p0 p1:Value} {t u:TypeId} (hz:W.heap[rb]?=some (.cells #[o0,o1,o2,o3] t)) (hy:W.heap[fb]?=some (.cells #[p0,p1] u)) (hne:rb≠fb) (a0 a1 a2 a3 f0 f1:Value):
  (((jbc W rb a0 a1 a2 a3).setCell ⟨fb,0,none⟩ f0).setCell ⟨fb,1,none⟩ f1).heap[rb]?=some (.cells #[a0,a1,a2,a3] t)∧(((jbc W rb a0 a1 a2 a3).setCell ⟨fb,0,none⟩ f0).setCell ⟨fb,1,none⟩ f1).heap[fb]?=some (.cells #[f0,f1] u):=by
 have h4:=qw hz a0 a1 a2 a3;have h5:=(qu (b:=rb) (S:=fun k=>k=rb) (Only.refl _ W) (.inl rfl) a0 a1 a2 a3).same hy (fun e=>hne e.symm);generalize jbc W rb a0 a1 a2 a3=V at *;exact ⟨(ju (p:=⟨fb,1,none⟩) hne).trans ((ju (p:=⟨fb,0,none⟩) hne).trans h4),jn (j:=1) (jn (j:=0) h5)⟩
theorem jsf {W:World} {rb fb:Nat} {o0 o1 o2 o3 p0 p1:Value} {t u:TypeId} (hz:W.heap[rb]?=some (.cells #[o0,o1,o2,o3] t)) (hy:W.heap[fb]?=some (.cells #[p0,p1] u)) (hne:rb≠fb) (a0 a1 a2 a3 f0 f1:Value):
  (((jbc W rb a0 a1 a2 a3).setCell ⟨fb,0,none⟩ f0).setCell ⟨fb,1,none⟩ f1).drew.heap[rb]?=some (.cells #[a0,a1,a2,a3] t)∧(((jbc W rb a0 a1 a2 a3).setCell ⟨fb,0,none⟩ f0).setCell ⟨fb,1,none⟩ f1).drew.heap[fb]?=some (.cells #[f0,f1] u):=by
 have h4:=qw hz a0 a1 a2 a3;have h5:=(qu (b:=rb) (S:=fun k=>k=rb) (Only.refl _ W) (.inl rfl) a0 a1 a2 a3).same hy (fun e=>hne e.symm);generalize jbc W rb a0 a1 a2 a3=V at *;exact ⟨(ju (p:=⟨fb,1,none⟩) hne).trans ((ju (p:=⟨fb,0,none⟩) hne).trans h4),jn (j:=1) (jn (j:=0) h5)⟩
theorem jck {w W:World} {N rb fb:Nat} (hB:Below N w W) (hr:N≤rb) (hf:N≤fb) (a0 a1 a2 a3 f0 f1:Value):Below N w (((jbc W rb a0 a1 a2 a3).setCell ⟨fb,0,none⟩ f0).setCell ⟨fb,1,none⟩ f1):=
 (((((hB.setCell (p:=⟨rb,0,none⟩) hr _).setCell (p:=⟨rb,1,none⟩) hr _).setCell (p:=⟨rb,2,none⟩) hr _).setCell (p:=⟨rb,3,none⟩) hr _).setCell (p:=⟨fb,0,none⟩) hf _).setCell (p:=⟨fb,1,none⟩) hf _
abbrev W2 (w:World):World:=(w.alloc (.cells #[.int .i64 0,.int .i64 0,.slice none 0 0,.slice none 0 0] 26)).alloc (.cells #[.int .i64 0,.int .i64 0] 54)
theorem Zh (w:World):Below w.heap.size w (W2 w)∧(W2 w).heap[w.heap.size]?=some (.cells #[.int .i64 0,.int .i64 0,.slice none 0 0,.slice none 0 0] 26)∧(W2 w).heap[w.heap.size+1]?=some (.cells #[.int .i64 0,.int .i64 0] 54)∧(W2 w).heap.size=w.heap.size+2:=by
 refine ⟨((Below.refl w.heap.size w).alloc (Nat.le_refl _) _).alloc (by simp) _,je (jd w _),?_,by simp⟩
 have:=jd (w.alloc (.cells #[.int .i64 0,.int .i64 0,.slice none 0 0,.slice none 0 0] 26)) (.cells #[.int .i64 0,.int .i64 0] 54)
 have e:(w.alloc (.cells #[.int .i64 0,.int .i64 0,.slice none 0 0,.slice none 0 0] 26)).heap.size=w.heap.size+1:=by simp
 rw [e] at this;exact this
theorem jn4 (s:ByteArray) (e a:Nat) (he:e≠0) (w:World) (hT:Calls Tryz.prog 42 #[.string s] (W2 w) (AnsTo (W2 w) (.bad e a))):
  Calls Tryz.prog 25 #[.string s] w (ParseTo w (.bad e a)):=by
 have hf:=Zh w;have HF:=lh hf;have HT:=lh hT
 have q2:(((e:Nat):Int) !=0)=true:=by simp;omega
 clear hf hT;go_enter Tryz.func25,Tryz.ntmps25;go_wp2_with (go_at_call 42;refine (HT.out).mono ?_;rintro x w1 ⟨rfl,hb1⟩;have HW1:=lh (And.intro (rowKeep hb1 HF.out.2.1) (And.intro (rowKeep hb1 HF.out.2.2.1) (bthen HF.out.1 hb1)));clear hb1);obtain ⟨h1,h2,h3⟩:=HW1.out;have hz:=je (o:=(.cells #[.int .i64 (e:Nat),.int .i64 (a:Nat)] 54)) h1;have hy:=je (o:=(.cells #[.int .i64 (e:Nat),.int .i64 (a:Nat)] 54)) h2;have hx:=jd w1 (.cells #[.int .i64 (e:Nat),.int .i64 (a:Nat)] 54);have hB:=h3.alloc h3.size (.cells #[.int .i64 (e:Nat),.int .i64 (a:Nat)] 54);have s1:=lt_of_block h1;have s2:=lt_of_block h2;obtain ⟨b5,hb5⟩:∃ b,w1.heap.size=b:=⟨_,rfl⟩;rw [hb5] at hx s1 s2 ⊢;generalize w1.alloc (.cells #[.int .i64 (e:Nat),.int .i64 (a:Nat)] 54)=W at *;clear h1 h2 h3 HW1 hb5;have c0:W.cell? ⟨b5,0,none⟩=some (.int .i64 (e:Nat)):=ja hx rfl;have c1:W.cell? ⟨b5,1,none⟩=some (.int .i64 (a:Nat)):=ja hx rfl;obtain ⟨r0,f0,r1,f1,r2,f2,r3,f3⟩:=bf4 hz;have g0:W.cell? ⟨w.heap.size+1,0,none⟩=some (.int .i64 0):=ja hy rfl;have g1:W.cell? ⟨w.heap.size+1,1,none⟩=some (.int .i64 0):=ja hy rfl;have k0:=jg (j:=0) hy;have k1:=jg (j:=1) hy;have HZ:=lh hz;have HY:=lh hy;have HB:=lh hB;clear hz hy hx hB
 go_region
 all_goals go_wp2_with (fail)
 all_goals
  have hP:=jsf HZ.out HY.out (by omega) (.int .i64 0) (.int .i64 0) (.slice none 0 0) (.slice none 0 0) (.int .i64 (e:Nat)) (.int .i64 (a:Nat));exact endParse rfl w.heap.size (w.heap.size+1) rfl rfl hP.1 hP.2 ⟨(jck HB.out (Nat.le_refl _) (by omega) _ _ _ _ _ _).drew,rfl⟩
theorem jd4 (w1:World) (ao:Option Addr) (cap:Nat) (L:List Tk) (hv:Vd L) (hL:L.length≤65) (hat:∀ i,i<L.length→TkAt w1 ao i (atV L i)) (hcap:L.length≤cap):
  Calls Tryz.prog 43 #[.pointer (some ⟨w1.heap.size+1,0,none⟩),.int .i64 0] ((w1.alloc (.cells #[.int .i64 0,.int .i64 0] 54)).alloc (.cells #[.slice ao L.length cap] 90)) (fun x w'=>∃ tb,tb<w1.heap.size∧XTo ((w1.alloc (.cells #[.int .i64 0,.int .i64 0] 54)).alloc (.cells #[.slice ao L.length cap] 90)) (w1.heap.size+1) tb (orP 8 L) x w'):=by
 obtain ⟨tb,off,rfl,hlt,ht⟩:=jpj hv.pos hat;have hb0:Below w1.heap.size w1 (w1.alloc (.cells #[.int .i64 0,.int .i64 0] 54)):=(Below.refl _ _).alloc (Nat.le_refl _) _;have hb1:Below w1.heap.size w1 ((w1.alloc (.cells #[.int .i64 0,.int .i64 0] 54)).alloc (.cells #[.slice (some ⟨tb,off,none⟩) L.length cap] 90)):=hb0.alloc hb0.size _;have hx:=jd (w1.alloc (.cells #[.int .i64 0,.int .i64 0] 54)) (.cells #[.slice (some ⟨tb,off,none⟩) L.length cap] 90)
 have e:(w1.alloc (.cells #[.int .i64 0,.int .i64 0] 54)).heap.size=w1.heap.size+1:=by simp
 rw [e] at hx;have hp:PAt ((w1.alloc (.cells #[.int .i64 0,.int .i64 0] 54)).alloc (.cells #[.slice (some ⟨tb,off,none⟩) L.length cap] 90)) (w1.heap.size+1) tb L:=⟨by omega,by have:=hb1.size;omega,off,cap,hx,hcap,ht.held (hb1.block tb hlt)⟩;exact (js3 (w1.heap.size+1) tb 8 0 rfl L _ hp hv (by omega)).mono fun x w' h=>⟨tb,hlt,h⟩
structure PS (w:World) (bp tb:Nat) (l:List Tk) (W:World):Prop where
 res:W.heap[w.heap.size]?=some (.cells #[.int .i64 0,.int .i64 0,.slice none 0 0,.slice none 0 0] 26)
 flt:W.heap[w.heap.size+1]?=some (.cells #[.int .i64 0,.int .i64 0] 54)
 be:Below w.heap.size w W
 pat:PAt W bp tb l
 lt:w.heap.size+1<bp
theorem PS.next {w W V:World} {bp tb:Nat} {l:List Tk} (h:PS w bp tb l W) (hb:Below W.heap.size W V):PS w bp tb l V:=⟨rowKeep hb h.res,rowKeep hb h.flt,bthen h.be hb,h.pat.next hb,h.lt⟩
theorem ps3 {w w1 w3:World} {tb n cap:Nat} {ao:Option Addr} {l:List Tk} (h:w1.heap[w.heap.size]?=some (.cells #[.int .i64 0,.int .i64 0,.slice none 0 0,.slice none 0 0] 26)∧w1.heap[w.heap.size+1]?=some (.cells #[.int .i64 0,.int .i64 0] 54)∧Below w.heap.size w w1) (ho:Only (fun k=>k=w1.heap.size+1) ((w1.alloc (.cells #[.int .i64 0,.int .i64 0] 54)).alloc (.cells #[.slice ao n cap] 90)) w3) (hp:PAt w3 (w1.heap.size+1) tb l):PS w (w1.heap.size+1) tb l w3:=by
 have s2:=lt_of_block h.2.1;have hb:=(h.2.2.alloc h.2.2.size (.cells #[.int .i64 0,.int .i64 0] 54));have hb2:=hb.alloc hb.size (.cells #[.slice ao n cap] 90);refine ⟨ho.same (je (je h.1)) (by omega),ho.same (je (je h.2.1)) (by omega),hb2.trans (ho.below (fun k hk=>by omega) hb2.size),hp,by omega⟩
theorem jgv {W:World} {tb off b:Nat} {x:Tk} {cs:Array Value} {u:TypeId} (h:W.heap[b]?=some (.cells cs u)) (hs:∀ (i:Nat) (s:ByteArray),cs[i]?≠some (.string s)) (hh:LiesAt W tb off (tkCs x)):tb≠b:=by
 intro e;subst e;have h1:=hh 1 _ rfl;simp [World.cell?,h] at h1;exact hs _ _ h1
theorem jpp:∀ (i:Nat) (s:ByteArray),(#[.int .i64 0,.int .i64 0,.slice none 0 0,.slice none 0 0]:Array Value)[i]?≠some (.string s):=by
 intro i s
 match i with
 |0=>simp
 |1=>simp
 |2=>simp
 |3=>simp
 |i+4=>simp
theorem jp4:∀ (i:Nat) (s:ByteArray),(#[.int .i64 0,.int .i64 0]:Array Value)[i]?≠some (.string s):=by
 intro i s
 match i with
 |0=>simp
 |1=>simp
 |i+2=>simp
theorem jvn {W:World} {S:Nat→Prop} {T:XT} {rb fb:Nat} (h:XAt W S T) (hS:∀ b,S b→b<W.heap.size→b≠rb∧b≠fb) (a0 a1 a2 a3 f0 f1:Value):XAt (((jbc W rb a0 a1 a2 a3).setCell ⟨fb,0,none⟩ f0).setCell ⟨fb,1,none⟩ f1) S T:=by
 have h4:=qu (b:=rb) (S:=fun k=>k=rb∨k=fb) (Only.refl _ W) (.inl (.inl rfl)) a0 a1 a2 a3;have h6:=(h4.setCell (p:=⟨fb,0,none⟩) (.inl (.inr rfl)) f0).setCell (p:=⟨fb,1,none⟩) (.inl (.inr rfl)) f1;exact h.only h6 (fun b hb hl e=>by have:=hS b hb hl;omega)
theorem jng (s:ByteArray) (L:List Tk) (hv:Vd L) (hL:L.length≤65) (e0:Nat) (l0:List Tk) (hor:orP 8 L=.err e0 l0) (w:World) (hT:Calls Tryz.prog 42 #[.string s] (W2 w) (AnsTo (W2 w) (.good L))):
  Calls Tryz.prog 25 #[.string s] w (ParseTo w (.bad e0 (hd l0).a)):=by
 have hf:=Zh w;have HF:=lh hf;have HT:=lh hT;have hless:=jab 8 L hv (by omega);have HOR:=lh (fun (w1:World) (ao:Option Addr) (cap:Nat) (hat:∀ i,i<L.length→TkAt w1 ao i (atV L i)) (hcap:L.length≤cap)=>jd4 w1 ao cap L hv hL hat hcap);rw [hor] at HOR hless;have q1:(((e0:Nat):Int)==0)=false:=beq_eq_false_iff_ne.2 (by have:=hless.2.2;omega)
 have q2:(((e0:Nat):Int) !=0)=true:=by have:=hless.2.2;simp;omega
 have hp0:=hless.1.pos;clear hf hT hor hv;go_enter Tryz.func25,Tryz.ntmps25;clear hless
 go_wp2_with (first
  |(go_at_call 43;refine (HOR.out w1 ao cap HAT.out hcap1).mono ?_;rintro x w3 ⟨tb,htb,hx3⟩;obtain ⟨T,e3,l3,rfl,hp3,ho3,hxt3,ha3⟩:=hx3.cases;obtain ⟨he3,hl3,hT3⟩:=ha3.err_of;subst hl3;subst he3;clear hT3;have HS3:=lh (ps3 HW1.out ho3 hp3);have hbig:=ho3.size;have hbig1:=HS3.out.lt;have HXT:=lh (hxt3.next ((Below.refl _ _).alloc (Nat.le_refl _) (.cells #[.int .i64 T.op,.int .i64 T.rel,.slice T.aa T.an T.ac,.slice T.ka T.kn T.kc] 26)));have HS3b:=lh (HS3.out.next ((Below.refl _ _).alloc (Nat.le_refl _) (.cells #[.int .i64 T.op,.int .i64 T.rel,.slice T.aa T.an T.ac,.slice T.ka T.kn T.kc] 26)));have HBX3:=lh (jd w3 (.cells #[.int .i64 T.op,.int .i64 T.rel,.slice T.aa T.an T.ac,.slice T.ka T.kn T.kc] 26));clear hx3 hp3 ho3 hxt3 ha3)
  |(go_at_call 42;refine (HT.out).mono ?_;rintro x w1 ⟨⟨ao,cap,rfl,hat,hcap1⟩,hb1⟩;have HAT:=lh hat;have HW1:=lh (And.intro (rowKeep hb1 HF.out.2.1) (And.intro (rowKeep hb1 HF.out.2.2.1) (bthen HF.out.1 hb1)));clear hb1 hat))
 have HS:=HS3b;generalize w3.alloc (.cells #[.int .i64 T.op,.int .i64 T.rel,.slice T.aa T.an T.ac,.slice T.ka T.kn T.kc] 26)=W at *;clear HS3b HS3 HW1 HAT HXT HBX3 HT HF HOR hbig;obtain ⟨bp,hbp⟩:∃ bp,w1.heap.size+1=bp:=⟨_,rfl⟩;rw [hbp] at HS ⊢;obtain ⟨_,_,off,cp,hbx,hcap,htk⟩:=HS.out.pat;have p0:W.cell? ⟨bp,0,none⟩=some (.slice (some ⟨tb,off,none⟩) l3.length cp):=ja hbx rfl;have hh:=htk.head hp0;have z1:¬tb=w.heap.size:=jgv HS.out.res jpp hh;have z2:¬tb=w.heap.size+1:=jgv HS.out.flt jp4 hh;have z3:¬w.heap.size=tb:=fun e=>z1 e.symm;have z4:¬w.heap.size+1=tb:=fun e=>z2 e.symm;have t3:W.cell? ⟨tb,off+3,none⟩=some (.int .i64 ((hd l3).a:Nat)):=hh 3 _ rfl;obtain ⟨n,hn⟩:∃ n,l3.length=n:=⟨_,rfl⟩;rw [hn] at p0 hp0 hcap;obtain ⟨A,hA⟩:∃ A,(hd l3).a=A:=⟨_,rfl⟩;rw [hA] at t3;have HA:=lh hA;clear hA;clear hh htk hbx hn;have hzz:=HS.out.res;obtain ⟨r0,f0,r1,f1,r2,f2,r3,f3⟩:=bf4 hzz;clear hzz;have hzz:=HS.out.flt;have g0:W.cell? ⟨w.heap.size+1,0,none⟩=some (.int .i64 0):=ja hzz rfl;have k0:=jg (j:=0) hzz;have g1:W.cell? ⟨w.heap.size+1,1,none⟩=some (.int .i64 0):=ja hzz rfl;have k1:=jg (j:=1) hzz;clear hzz
 go_region
 all_goals go_wp2_with (fail)
 all_goals
  have hP:=jsf HS.out.res HS.out.flt (by omega) (.int .i64 0) (.int .i64 0) (.slice none 0 0) (.slice none 0 0) (.int .i64 (e3:Nat)) (.int .i64 (A:Nat));exact endParse rfl w.heap.size (w.heap.size+1) rfl rfl hP.1 hP.2 ⟨(jck HS.out.be (Nat.le_refl _) (by omega) _ _ _ _ _ _).drew,(by rw [←HA.out])⟩
theorem jky (s:ByteArray) (L:List Tk) (hv:Vd L) (hL:L.length≤65) (t0:XT) (l0:List Tk) (hor:orP 8 L=.ok t0 l0) (h6:(Cl.kd 6).test (hd l0)=true) (w:World) (hT:Calls Tryz.prog 42 #[.string s] (W2 w) (AnsTo (W2 w) (.good L))):
  Calls Tryz.prog 25 #[.string s] w (ParseTo w (.good t0)):=by
 have hf:=Zh w;have HF:=lh hf;have HT:=lh hT;have hless:=jab 8 L hv (by omega);have HOR:=lh (fun (w1:World) (ao:Option Addr) (cap:Nat) (hat:∀ i,i<L.length→TkAt w1 ao i (atV L i)) (hcap:L.length≤cap)=>jd4 w1 ao cap L hv hL hat hcap);rw [hor] at HOR hless;have hl0:=hless.1;have hp0:=hl0.pos
 have h099:l0.length≤99:=by have:=hless.2;omega
 have HAT6:=lh (show ∀ (bp tb:Nat) (v:Value) wx,PAt wx bp tb l0→ClAt wx (.kd 6) v→Calls Tryz.prog 44 #[.pointer (some ⟨bp,0,none⟩),v] wx fun e w'=>e=.returned (.bool true)∧Below wx.heap.size wx w' from fun bp tb v wx hp2 hc=>by have:=kq bp tb l0 (.kd 6) v wx hp2 hc hp0 h099 (Short.hd hl0.short);rwa [h6] at this);clear hf hT hor hv;go_enter Tryz.func25,Tryz.ntmps25;clear hless h6 hl0
 go_wp2_with (first
  |(go_at_call 44;refine (HAT6.out _ _ _ _ HS4.out.pat HC4.out).mono ?_;rintro e w5 ⟨rfl,hb5⟩;have HS5:=lh (HS4.out.next hb5);have HB35:=lh (bthen HB34.out hb5);have hbx5:=rowKeep HB35.out HBX3.out;obtain ⟨c0,c1,c2,c3⟩:=bx4 hbx5;clear hbx5;have hzz:=HS5.out.res;obtain ⟨r0,f0,r1,f1,r2,f2,r3,f3⟩:=bf4 hzz;clear hzz;have hzz:=HS5.out.flt;have g0:w5.cell? ⟨w.heap.size+1,0,none⟩=some (.int .i64 0):=ja hzz rfl;have k0:=jg (j:=0) hzz;have g1:w5.cell? ⟨w.heap.size+1,1,none⟩=some (.int .i64 0):=ja hzz rfl;have k1:=jg (j:=1) hzz;clear hzz;clear hb5)
  |(go_at_call 45;refine (jv 6 _).mono ?_;rintro e w4 ⟨g4,lb4,rfl,hc4,hb4⟩;have HS4:=lh (HS3b.out.next hb4);have HB34:=lh hb4;have HC4:=lh hc4;clear hc4 hb4)
  |(go_at_call 43;refine (HOR.out w1 ao cap HAT.out hcap1).mono ?_;rintro x w3 ⟨tb,htb,hx3⟩;obtain ⟨T,e3,l3,rfl,hp3,ho3,hxt3,ha3⟩:=hx3.cases;obtain ⟨he3,hl3,hs3⟩:=ha3.ok_of;subst hl3;subst he3;have HSM:=lh hs3;clear hs3;have HS3:=lh (ps3 HW1.out ho3 hp3);have hbig:=ho3.size;have hbig1:=HS3.out.lt;have HXT:=lh (hxt3.next ((Below.refl _ _).alloc (Nat.le_refl _) (.cells #[.int .i64 T.op,.int .i64 T.rel,.slice T.aa T.an T.ac,.slice T.ka T.kn T.kc] 26)));have HS3b:=lh (HS3.out.next ((Below.refl _ _).alloc (Nat.le_refl _) (.cells #[.int .i64 T.op,.int .i64 T.rel,.slice T.aa T.an T.ac,.slice T.ka T.kn T.kc] 26)));have HBX3:=lh (jd w3 (.cells #[.int .i64 T.op,.int .i64 T.rel,.slice T.aa T.an T.ac,.slice T.ka T.kn T.kc] 26));clear hx3 hp3 ho3 hxt3 ha3)
  |(go_at_call 42;refine (HT.out).mono ?_;rintro x w1 ⟨⟨ao,cap,rfl,hat,hcap1⟩,hb1⟩;have HAT:=lh hat;have HW1:=lh (And.intro (rowKeep hb1 HF.out.2.1) (And.intro (rowKeep hb1 HF.out.2.2.1) (bthen HF.out.1 hb1)));clear hb1 hat))
 have hP:=jva HS5.out.res HS5.out.flt (by omega) (.int .i64 T.op) (.int .i64 T.rel) (.slice T.aa T.an T.ac) (.slice T.ka T.kn T.kc) (.int .i64 0) (.int .i64 0);refine endParse rfl w.heap.size (w.heap.size+1) rfl rfl hP.1 hP.2 ⟨jck HS5.out.be (Nat.le_refl _) (by omega) _ _ _ _ _ _,T,rfl,HSM.out,?_⟩;have hx:=jvn (rb:=w.heap.size) (fb:=w.heap.size+1) (HXT.out.next HB35.out) (fun b hb hl=>by simp at hb;omega) (.int .i64 T.op) (.int .i64 T.rel) (.slice T.aa T.an T.ac) (.slice T.ka T.kn T.kc) (.int .i64 0) (.int .i64 0);exact hx.sub (fun b hb hl=>by simp at hb;omega)
theorem jkq (s:ByteArray) (L:List Tk) (hv:Vd L) (hL:L.length≤65) (t0:XT) (l0:List Tk) (hor:orP 8 L=.ok t0 l0) (h6:(Cl.kd 6).test (hd l0)=false) (w:World) (hT:Calls Tryz.prog 42 #[.string s] (W2 w) (AnsTo (W2 w) (.good L))):
  Calls Tryz.prog 25 #[.string s] w (ParseTo w (.bad 11 (hd l0).a)):=by
 have hf:=Zh w;have HF:=lh hf;have HT:=lh hT;have hless:=jab 8 L hv (by omega);have HOR:=lh (fun (w1:World) (ao:Option Addr) (cap:Nat) (hat:∀ i,i<L.length→TkAt w1 ao i (atV L i)) (hcap:L.length≤cap)=>jd4 w1 ao cap L hv hL hat hcap);rw [hor] at HOR hless;have hl0:=hless.1;have hp0:=hl0.pos
 have h099:l0.length≤99:=by have:=hless.2;omega
 have HAT6:=lh (show ∀ (bp tb:Nat) (v:Value) wx,PAt wx bp tb l0→ClAt wx (.kd 6) v→Calls Tryz.prog 44 #[.pointer (some ⟨bp,0,none⟩),v] wx fun e w'=>e=.returned (.bool false)∧Below wx.heap.size wx w' from fun bp tb v wx hp2 hc=>by have:=kq bp tb l0 (.kd 6) v wx hp2 hc hp0 h099 (Short.hd hl0.short);rwa [h6] at this);clear hf hT hor hv;go_enter Tryz.func25,Tryz.ntmps25;clear hless h6 hl0
 go_wp2_with (first
  |(go_at_call 44;refine (HAT6.out _ _ _ _ HS4.out.pat HC4.out).mono ?_;rintro e w5 ⟨rfl,hb5⟩;have HS5:=lh (HS4.out.next hb5);have HB35:=lh (bthen HB34.out hb5);skip;clear hb5)
  |(go_at_call 45;refine (jv 6 _).mono ?_;rintro e w4 ⟨g4,lb4,rfl,hc4,hb4⟩;have HS4:=lh (HS3b.out.next hb4);have HB34:=lh hb4;have HC4:=lh hc4;clear hc4 hb4)
  |(go_at_call 43;refine (HOR.out w1 ao cap HAT.out hcap1).mono ?_;rintro x w3 ⟨tb,htb,hx3⟩;obtain ⟨T,e3,l3,rfl,hp3,ho3,hxt3,ha3⟩:=hx3.cases;obtain ⟨he3,hl3,hs3⟩:=ha3.ok_of;subst hl3;subst he3;have HSM:=lh hs3;clear hs3;have HS3:=lh (ps3 HW1.out ho3 hp3);have hbig:=ho3.size;have hbig1:=HS3.out.lt;have HXT:=lh (hxt3.next ((Below.refl _ _).alloc (Nat.le_refl _) (.cells #[.int .i64 T.op,.int .i64 T.rel,.slice T.aa T.an T.ac,.slice T.ka T.kn T.kc] 26)));have HS3b:=lh (HS3.out.next ((Below.refl _ _).alloc (Nat.le_refl _) (.cells #[.int .i64 T.op,.int .i64 T.rel,.slice T.aa T.an T.ac,.slice T.ka T.kn T.kc] 26)));have HBX3:=lh (jd w3 (.cells #[.int .i64 T.op,.int .i64 T.rel,.slice T.aa T.an T.ac,.slice T.ka T.kn T.kc] 26));clear hx3 hp3 ho3 hxt3 ha3)
  |(go_at_call 42;refine (HT.out).mono ?_;rintro x w1 ⟨⟨ao,cap,rfl,hat,hcap1⟩,hb1⟩;have HAT:=lh hat;have HW1:=lh (And.intro (rowKeep hb1 HF.out.2.1) (And.intro (rowKeep hb1 HF.out.2.2.1) (bthen HF.out.1 hb1)));clear hb1 hat))
 have HS:=HS5;clear HS5 HS4 HS3b HS3 HW1 HAT HXT HBX3 HT HF HOR HAT6 HSM HB35 HB34 HC4 hbig;obtain ⟨bp,hbp⟩:∃ bp,w1.heap.size+1=bp:=⟨_,rfl⟩;rw [hbp] at HS ⊢;obtain ⟨_,_,off,cp,hbx,hcap,htk⟩:=HS.out.pat;have p0:w5.cell? ⟨bp,0,none⟩=some (.slice (some ⟨tb,off,none⟩) l3.length cp):=ja hbx rfl;have hh:=htk.head hp0;have z1:¬tb=w.heap.size:=jgv HS.out.res jpp hh;have z2:¬tb=w.heap.size+1:=jgv HS.out.flt jp4 hh;have z3:¬w.heap.size=tb:=fun e=>z1 e.symm;have z4:¬w.heap.size+1=tb:=fun e=>z2 e.symm;have t3:w5.cell? ⟨tb,off+3,none⟩=some (.int .i64 ((hd l3).a:Nat)):=hh 3 _ rfl;obtain ⟨n,hn⟩:∃ n,l3.length=n:=⟨_,rfl⟩;rw [hn] at p0 hp0 hcap;obtain ⟨A,hA⟩:∃ A,(hd l3).a=A:=⟨_,rfl⟩;rw [hA] at t3;have HA:=lh hA;clear hA;clear hh htk hbx hn;have hzz:=HS.out.res;obtain ⟨r0,f0,r1,f1,r2,f2,r3,f3⟩:=bf4 hzz;clear hzz;have hzz:=HS.out.flt;have g0:w5.cell? ⟨w.heap.size+1,0,none⟩=some (.int .i64 0):=ja hzz rfl;have k0:=jg (j:=0) hzz;have g1:w5.cell? ⟨w.heap.size+1,1,none⟩=some (.int .i64 0):=ja hzz rfl;have k1:=jg (j:=1) hzz;clear hzz
 go_region
 all_goals go_wp2_with (fail)
 all_goals
  have hP:=jsf HS.out.res HS.out.flt (by omega) (.int .i64 0) (.int .i64 0) (.slice none 0 0) (.slice none 0 0) (.int .i64 (11:Nat)) (.int .i64 (A:Nat));exact endParse rfl w.heap.size (w.heap.size+1) rfl rfl hP.1 hP.2 ⟨(jck HS.out.be (Nat.le_refl _) (by omega) _ _ _ _ _ _).drew,(by rw [←HA.out])⟩
theorem jf1 (l:List UInt8) (hl:l.length≤256) (w:World) (hV:LibAt w):Calls Tryz.prog 25 #[.string (bs l)] w (ParseTo w (parseA l)):=by
 have hT:=jkk l hl (W2 w) (hV.held (Zh w).1);unfold parseA
 cases hA:tokA l with
 |bad e a=>
  rw [hA] at hT;exact jn4 (bs l) e a (jpm hA) w hT
 |good L=>
  rw [hA] at hT;obtain ⟨hv,hL⟩:=jpb hA
  show Calls _ _ _ w (ParseTo w (parseL L))
  unfold parseL
  cases hor:orP 8 L with
  |err e l0=>exact jng (bs l) L hv hL e l0 hor w hT
  |ok x l0=>
   show Calls _ _ _ w (ParseTo w (if (Cl.kd 6).test (hd l0)=true then .good x else .bad 11 (hd l0).a))
   cases h6:(Cl.kd 6).test (hd l0) with
   |true=>exact jky (bs l) L hv hL x l0 hor h6 w hT
   |false=>exact jkq (bs l) L hv hL x l0 hor h6 w hT
end Go.Proofs.YthcompcjphaahaaGreatDoor
