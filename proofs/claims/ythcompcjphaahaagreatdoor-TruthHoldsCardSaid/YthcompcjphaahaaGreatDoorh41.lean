/- A scope with two labels, to either of which the run may jump from anywhere within; and the search of chapter 17's code in plain Lean. No run of the program. -/
import Derived.ScopeJumps
import Derived.WalkMore
import Derived.Test.YthcompcjphaahaaGreatDoorh31
set_option maxRecDepth 100000
set_option maxHeartbeats 8000000
set_option linter.unusedVariables false
namespace Go.Proofs.YthcompcjphaahaaGreatDoor.Li
open Go
def Yy (l0 l1:Nat) (J0 J1:Act→World→Prop) (Q:Exit→Act→World→Prop):Exit→Act→World→Prop
 |.goto l,a,w=>(l=l0∧J0 a w)∨(l=l1∧J1 a w)
 |e,a,w=>Q e a w
section
variable {P:Program} {a:Act} {w:World} {Q:Exit→Act→World→Prop} {l0 l1:Nat} {J0 J1:Act→World→Prop}
@[go_sem] theorem jump2_normal:Yy l0 l1 J0 J1 Q .normal a w=Q .normal a w:=rfl
@[go_sem] theorem jump2_exit (id:Nat):Yy l0 l1 J0 J1 Q (.exit id) a w=Q (.exit id) a w:=rfl
@[go_sem] theorem jump2_ret:Yy l0 l1 J0 J1 Q .ret a w=Q .ret a w:=rfl
@[go_sem] theorem jump2_panic (ch:List PanicEntry):Yy l0 l1 J0 J1 Q (.panic ch) a w=Q (.panic ch) a w:=rfl
theorem jj3 {K0 K1:Act→World→Prop} (h0:∀ a w,J0 a w→K0 a w) (h1:∀ a w,J1 a w→K1 a w) (e:Exit) (a:Act) (w:World) (h:Yy l0 l1 J0 J1 Q e a w):Yy l0 l1 K0 K1 Q e a w:=by
 cases e with
 |goto l=>exact h.imp (fun h=>⟨h.1,h0 _ _ h.2⟩) (fun h=>⟨h.1,h1 _ _ h.2⟩)
 |_=>exact h
theorem jtj {c:Code} {Q':Exit→Act→World→Prop} (hq:∀ e a w,Q e a w→Q' e a w) (h:c.wp P Q a w):c.wp P Q' a w:=by
 intro b k cs;obtain ⟨e,a₁,w₁,h1,h2⟩:=h b k cs;exact ⟨e,a₁,w₁,hq _ _ _ h1,h2⟩
theorem jg4 {c x0 x1:Code} (l0 l1:Nat) (J0 J1:Act→World→Prop) (m0 m1:Act→World→Nat) (hf0:findLabel c l0=some (.seq .skip x0)) (hf1:findLabel c l1=some (.seq .skip x1))
  (pass0:∀ a w,J0 a w→x0.wp P (Yy l0 l1 (fun a' w'=>J0 a' w'∧m0 a' w' <m0 a w) (fun a' w'=>J1 a' w'∧m1 a' w' <m0 a w) Q) a w)
  (pass1:∀ a w,J1 a w→x1.wp P (Yy l0 l1 (fun a' w'=>J0 a' w'∧m0 a' w' <m1 a w) (fun a' w'=>J1 a' w'∧m1 a' w' <m1 a w) Q) a w)
  (first:(∀ a w,J1 a w→x1.wp P (Yy l0 l1 J0 J1 Q) a w)→c.wp P (Yy l0 l1 J0 J1 Q) a w):(Code.scope c).wp P Q a w:=by
 have first:=first (fun a w h=>jtj (jj3 (fun _ _ h=>h.1) (fun _ _ h=>h.1)) (pass1 a w h));intro b k cs
 have hg0:gotoIn l0 (.inScope c::k)=some (.code (.seq .skip x0)::.inScope c::k):=by simp [gotoIn,hf0]
 have hg1:gotoIn l1 (.inScope c::k)=some (.code (.seq .skip x1)::.inScope c::k):=by simp [gotoIn,hf1]
 have s0:∀ x a w,x.wp P Q a w→(Code.seq .skip x).wp P Q a w:=fun x a w h=>wp_seq (wp_skip h)
 have key:∀ n,(∀ a w,m0 a w=n→J0 a w→∃ e a' w',Q e a' w'∧Arrives P (lone (b.at a (.code (.seq .skip x0)::.inScope c::k)) cs w) b k cs e a' w')∧(∀ a w,m1 a w=n→J1 a w→∃ e a' w',Q e a' w'∧Arrives P (lone (b.at a (.code (.seq .skip x1)::.inScope c::k)) cs w) b k cs e a' w'):=by
  intro n
  induction n using Nat.strongRecOn with
  |_ n ih=>
   have body:∀ (x:Code) (a:Act) (w:World),(Code.seq .skip x).wp P (Yy l0 l1 (fun a' w'=>J0 a' w'∧m0 a' w' <n) (fun a' w'=>J1 a' w'∧m1 a' w' <n) Q) a w→∃ e a' w',Q e a' w'∧Arrives P (lone (b.at a (.code (.seq .skip x)::.inScope c::k)) cs w) b k cs e a' w':=by
    intro x a w hx;obtain ⟨e,a₁,w₁,hq,harr⟩:=hx b (.inScope c::k) cs
    cases e with
    |normal=>exact ⟨.normal,a₁,w₁,hq,Steps.trans harr (.one step_inScope)⟩
    |exit id=>exact ⟨.exit id,a₁,w₁,hq,fun k' hk=>harr k' (by simp [exitTo,hk])⟩
    |goto l=>
     rcases hq with ⟨rfl,hJ,hlt⟩|⟨rfl,hJ,hlt⟩
     · obtain ⟨e₂,a₂,w₂,hq₂,harr₂⟩:=(ih _ hlt).1 a₁ w₁ rfl hJ;exact ⟨e₂,a₂,w₂,hq₂,.of_steps (harr _ hg0) harr₂⟩
     · obtain ⟨e₂,a₂,w₂,hq₂,harr₂⟩:=(ih _ hlt).2 a₁ w₁ rfl hJ;exact ⟨e₂,a₂,w₂,hq₂,.of_steps (harr _ hg1) harr₂⟩
    |ret=>exact ⟨_,a₁,w₁,hq,harr⟩
    |panic ch=>exact ⟨_,a₁,w₁,hq,harr⟩
    |outgrown=>exact ⟨_,a₁,w₁,hq,harr⟩
   constructor
   · intro a w hn hJ;exact body x0 a w (wp_seq (wp_skip (hn ▸ pass0 a w hJ)))
   · intro a w hn hJ;exact body x1 a w (wp_seq (wp_skip (hn ▸ pass1 a w hJ)))
 obtain ⟨e,a₁,w₁,hq,harr⟩:=first b (.inScope c::k) cs
 cases e with
 |normal=>exact ⟨.normal,a₁,w₁,hq,.head step_scope (Steps.trans harr (.one step_inScope))⟩
 |exit id=>exact ⟨.exit id,a₁,w₁,hq,fun k' hk=>.head step_scope (harr k' (by simp [exitTo,hk]))⟩
 |goto l=>
  rcases hq with ⟨rfl,hJ⟩|⟨rfl,hJ⟩
  · obtain ⟨e₂,a₂,w₂,hq₂,harr₂⟩:=(key _).1 a₁ w₁ rfl hJ;exact ⟨e₂,a₂,w₂,hq₂,.of_steps (.head step_scope (harr _ hg0)) harr₂⟩
  · obtain ⟨e₂,a₂,w₂,hq₂,harr₂⟩:=(key _).2 a₁ w₁ rfl hJ;exact ⟨e₂,a₂,w₂,hq₂,.of_steps (.head step_scope (harr _ hg1)) harr₂⟩
 |ret=>exact ⟨_,a₁,w₁,hq,.of_steps (.one step_scope) harr⟩
 |panic ch=>exact ⟨_,a₁,w₁,hq,.of_steps (.one step_scope) harr⟩
 |outgrown=>exact ⟨_,a₁,w₁,hq,.of_steps (.one step_scope) harr⟩
end
structure BSrch (p s:List UInt8) (V:Bool) (b f i j:Nat):Prop where
 hi:i≤p.length
 hj:j≤s.length
 hb:b≤i
 hf:f≤j
 st:(b=0∧f=0∧StN (p++[37]) s V i j)∨(∃ a,b=a+1∧StS (p++[37]) s V a f i j)
theorem jco {p:List UInt8} {i:Nat} (h:i<p.length):(p++[37]).getD i 0=p.getD i 0:=by
 rw [List.getD_eq_getElem?_getD,List.getD_eq_getElem?_getD,List.getElem?_append_left h]
theorem jcw {p:List UInt8} {i:Nat} (h:i<p.length):i<(p++[37]).length:=by rw [List.length_append];exact Nat.lt_of_lt_of_le h (Nat.le_add_right _ _)
theorem BSrch.start (p s:List UInt8):BSrch p s (likeL (p++[37]) s) 0 0 0 0:=⟨Nat.zero_le _,Nat.zero_le _,Nat.le_refl _,Nat.le_refl _,.inl ⟨rfl,rfl,StN.start _ _⟩⟩
theorem BSrch.chr {p s:List UInt8} {V:Bool} {b f i j:Nat} (h:BSrch p s V b f i j) (hi:i<p.length) (hj:j<s.length) (hc:p.getD i 0≠37) (hd:p.getD i 0=95∨p.getD i 0=s.getD j 0):BSrch p s V b f (i+1) (j+1):=by
 refine ⟨hi,hj,Nat.le_succ_of_le h.hb,Nat.le_succ_of_le h.hf,?_⟩;rw [←jco hi] at hc hd
 rcases h.st with ⟨h1,h2,h3⟩|⟨a,h1,h2⟩
 · exact .inl ⟨h1,h2,h3.chr (jcw hi) hj hc hd⟩
 · exact .inr ⟨a,h1,h2.chr (jcw hi) hj hc hd⟩
theorem jue {p:List UInt8} {i:Nat} (hi:i<p.length) (hc:p.getD i 0≠37):((p++[37]).drop i).all (fun c=>c==37)=false:=by
 rw [zu (jcw hi),List.all_cons,jco hi,show (p.getD i 0==37)=false from beq_eq_false_iff_ne.2 hc,Bool.false_and]
theorem BSrch.short {p s:List UInt8} {V:Bool} {b f i j:Nat} (h:BSrch p s V b f i j) (hi:i<p.length) (hj:j=s.length) (hc:p.getD i 0≠37):V=false:=by
 subst hj;rw [←jue hi hc]
 rcases h.st with ⟨h1,h2,h3⟩|⟨a,h1,h2⟩
 · exact h3.fin
 · exact h2.fin
theorem StS.all {p s:List UInt8} {V:Bool} {a m i k:Nat} (h:StS p s V a m i k) (hr:likeL (p.drop i) (s.drop k)=true):V=true:=by
 have ha:=h.ha;have hi:=h.hi;have hm:=h.hm;have hk:=h.hk;rw [←h.eq,h.split];refine (zt _ _).2 ⟨0,Nat.zero_le _,?_⟩;rw [List.drop_zero];refine (qa _ _ _).2 ⟨(s.drop m).take (k - m),s.drop k,?_,h.seg,hr⟩;have e:=List.take_append_drop (k - m) (s.drop m);rw [List.drop_drop,show m+(k - m)=k by omega] at e;exact e.symm
theorem BSrch.fin {p s:List UInt8} {V:Bool} {b f i j:Nat} (h:BSrch p s V b f i j) (hi:i=p.length):V=true:=by
 subst hi
 have e:likeL ((p++[37]).drop p.length) (s.drop j)=true:=by rw [List.drop_left];exact jd5 _
 rcases h.st with ⟨h1,h2,h3⟩|⟨a,h1,h2⟩
 · rw [←h3.eq];exact e
 · exact h2.all e
theorem BSrch.star {p s:List UInt8} {V:Bool} {b f i j:Nat} (h:BSrch p s V b f i j) (hi:i<p.length) (hc:p.getD i 0=37):BSrch p s V (i+1) j (i+1) j:=by
 refine ⟨hi,h.hj,Nat.le_refl _,Nat.le_refl _,.inr ⟨i,rfl,?_⟩⟩;rw [←jco hi] at hc
 rcases h.st with ⟨h1,h2,h3⟩|⟨a,h1,h2⟩
 · exact h3.star (jcw hi) hc
 · exact h2.star (jcw hi) hc
theorem BSrch.turn {p s:List UInt8} {V:Bool} {b f i j:Nat} (h:BSrch p s V b f i j) (hi:i<p.length) (hj:j<s.length) (hc:p.getD i 0≠37) (hd:p.getD i 0≠95∧p.getD i 0≠s.getD j 0):(b=0∧V=false)∨(0<b∧BSrch p s V b (f+1) b (f+1)):=by
 have hf:=h.hf;have hb:=h.hb;rw [←jco hi] at hc hd
 rcases h.st with ⟨h1,h2,h3⟩|⟨a,h1,h2⟩
 · exact .inl ⟨h1,h3.fail hj (.inr ⟨hc,hd.1,hd.2⟩)⟩
 · refine .inr ⟨by omega,⟨by omega,by omega,Nat.le_refl _,Nat.le_refl _,.inr ⟨a,h1,?_⟩⟩⟩
   have:=h2.back hj (.inr ⟨hc,hd.1,hd.2⟩)
   rwa [←h1] at this
def mB (P S b f:Nat):Nat:=2*((P - b)*(S+1)+(S - f))
theorem jsn {P S b f:Nat} (h:f<S):mB P S b (f+1)+1<mB P S b f:=by
 unfold mB;generalize (P - b)*(S+1)=x;omega
theorem jsz {P S b f b' f':Nat} (h1:b<b') (h2:b'≤P):mB P S b' f' <mB P S b f:=by
 unfold mB;obtain ⟨k,hk⟩:∃ k,P - b=(P - b')+1+k:=⟨P - b - (P - b') - 1,by omega⟩;rw [hk,Nat.add_mul,Nat.add_mul];generalize (P - b')*(S+1)=x;generalize k*(S+1)=y;omega
end Go.Proofs.YthcompcjphaahaaGreatDoor.Li
