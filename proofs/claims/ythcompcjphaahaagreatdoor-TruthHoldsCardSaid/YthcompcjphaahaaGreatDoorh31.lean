/- Chapter 17 in plain Lean: which texts a pattern stands for, its lead, its least; patterns one behind the other; the search that goes back to the last sign alone. No run of the program. -/
import Derived.Test.YthcompcjphaahaaGreatDoorhzz
import Derived.Lib.Hide
set_option maxRecDepth 100000
set_option maxHeartbeats 8000000
set_option linter.unusedVariables false
namespace Go.Proofs.YthcompcjphaahaaGreatDoor.Li
open Go
def sufs:List UInt8→List (List UInt8)
 | []=>[[]]
 |c::r=>(c::r)::sufs r
def likeL:List UInt8→List UInt8→Bool
 | [],s=>s.isEmpty
 |c::p,s=>if c=37 then (sufs s).any (fun t=>likeL p t) else match s with
  | []=>false
  |d::r=>(c==95||c==d)&&likeL p r
theorem jc3:∀ (s t:List UInt8),t∈sufs s↔∃ x,s=x++t
 | [],t=>by
   constructor
   · intro h;have:t=[]:=by simpa [sufs] using h
     exact ⟨[],by rw [this];rfl⟩
   · rintro ⟨x,h⟩
     have:=(List.append_eq_nil_iff.1 h.symm).2
     rw [this];simp [sufs]
 |c::r,t=>by
  have ih:=jc3 r t;rw [sufs,List.mem_cons,ih]
  constructor
  · rintro (rfl|⟨x,rfl⟩)
    · exact ⟨[],rfl⟩
    · exact ⟨c::x,rfl⟩
  · rintro ⟨x,h⟩
    cases x with
    |nil=>exact .inl h.symm
    |cons a x=>injection h with _ h2;exact .inr ⟨x,h2⟩
theorem jap (s:List UInt8):likeL [] s=true↔s=[]:=by cases s <;> simp [likeL]
theorem Zk (c:UInt8) (p s:List UInt8):likeL (c::p) s=if c=37 then (sufs s).any (fun t=>likeL p t) else match s with
 | []=>false
 |d::r=>(c==95||c==d)&&likeL p r:=by cases s <;> rfl
theorem zd (p s:List UInt8):likeL (37::p) s=true↔∃ x t,s=x++t∧likeL p t=true:=by
 rw [Zk,if_pos rfl,List.any_eq_true]
 constructor
 · rintro ⟨t,ht,hl⟩;obtain ⟨x,hx⟩:=(jc3 s t).1 ht;exact ⟨x,t,hx,hl⟩
 · rintro ⟨x,t,hx,hl⟩;exact ⟨t,(jc3 s t).2 ⟨x,hx⟩,hl⟩
theorem zq {c:UInt8} (hc:c≠37) (p s:List UInt8):likeL (c::p) s=true↔∃ d r,s=d::r∧(c=95∨c=d)∧likeL p r=true:=by
 rw [Zk,if_neg hc]
 cases s with
 |nil=>
  constructor
  · intro h;cases h
  · rintro ⟨d,r,h,_⟩;cases h
 |cons d r=>
  show ((c==95||c==d)&&likeL p r)=true↔_
  rw [Bool.and_eq_true,Bool.or_eq_true,beq_iff_eq,beq_iff_eq]
  constructor
  · rintro ⟨h1,h2⟩;exact ⟨d,r,rfl,h1,h2⟩
  · rintro ⟨d',r',h,h1,h2⟩;injection h with e1 e2;subst e1;subst e2;exact ⟨h1,h2⟩
theorem qa:∀ (p q s:List UInt8),likeL (p++q) s=true↔∃ a b,s=a++b∧likeL p a=true∧likeL q b=true
 | [],q,s=>by
   constructor
   · intro h;exact ⟨[],s,rfl,(jap _).2 rfl,h⟩
   · rintro ⟨a,b,rfl,ha,hb⟩;rw [(jap a).1 ha];exact hb
 |c::p,q,s=>by
  have ih:=qa p q;rw [List.cons_append]
  by_cases hc:c=37
  · subst hc;rw [zd]
    constructor
    · rintro ⟨x,t,rfl,ht⟩;obtain ⟨a,b,rfl,ha,hb⟩:=(ih t).1 ht;exact ⟨x++a,b,by rw [List.append_assoc],(zd p _).2 ⟨x,a,rfl,ha⟩,hb⟩
    · rintro ⟨a,b,rfl,ha,hb⟩;obtain ⟨x,t,rfl,ht⟩:=(zd p a).1 ha;exact ⟨x,t++b,by rw [List.append_assoc],(ih _).2 ⟨t,b,rfl,ht,hb⟩⟩
  · rw [zq hc]
    constructor
    · rintro ⟨d,r,rfl,h1,h2⟩;obtain ⟨a,b,rfl,ha,hb⟩:=(ih r).1 h2;exact ⟨d::a,b,rfl,(zq hc p _).2 ⟨d,a,rfl,h1,ha⟩,hb⟩
    · rintro ⟨a,b,rfl,ha,hb⟩;obtain ⟨d,r,rfl,h1,h2⟩:=(zq hc p a).1 ha;exact ⟨d,r++b,rfl,h1,(ih _).2 ⟨r,b,rfl,h2,hb⟩⟩
theorem jes (p s:List UInt8) (k:Nat) (hk:k≤s.length):likeL (p++[37]) (s.take k)=(likeL p (s.take k)||(decide (0<k)&&likeL (p++[37]) (s.take (k - 1)))):=by
 have all:∀ b,likeL [37] b=true:=fun b=>(zd [] b).2 ⟨b,[],by simp,rfl⟩;rw [Bool.eq_iff_iff,Bool.or_eq_true,Bool.and_eq_true,decide_eq_true_eq]
 constructor
 · intro h;obtain ⟨a,b,e,ha,hb⟩:=(qa p [37] _).1 h
   cases hb0:b.reverse with
   |nil=>
    have:b=[]:=by simpa using hb0
    rw [this,List.append_nil] at e;exact .inl (by rw [e];exact ha)
   |cons d r=>
    have hb1:b=r.reverse++[d]:=by have:=congrArg List.reverse hb0;simpa using this
    have hlen:=congrArg List.length e;rw [hb1,List.length_take,List.length_append,List.length_append] at hlen;simp at hlen
    have hk0:0<k:=by omega
    refine .inr ⟨hk0,(qa p [37] _).2 ⟨a,r.reverse,?_,ha,all _⟩⟩
    have e2:(s.take k).take (k - 1)=(a++(r.reverse++[d])).take (k - 1):=by rw [e,hb1]
    rw [List.take_take,Nat.min_eq_left (by omega)] at e2;rw [e2,←List.append_assoc,List.take_append_of_le_length (by simp;omega),List.take_of_length_le (by simp;omega)]
 · rintro (h|⟨h0,h⟩)
   · exact (qa p [37] _).2 ⟨s.take k,[],by simp,h,all _⟩
   · obtain ⟨a,b,e,ha,_⟩:=(qa p [37] _).1 h
     have:∃ z,s.take k=s.take (k - 1)++z:=⟨(s.take k).drop (k - 1),by
      have:=List.take_append_drop (k - 1) (s.take k)
      rw [List.take_take,Nat.min_eq_left (by omega)] at this
      exact this.symm⟩
     obtain ⟨z,hz⟩:=this;exact (qa p [37] _).2 ⟨a,b++z,by rw [hz,e,List.append_assoc],ha,all _⟩
theorem Xk {c:UInt8} (hc:c≠37) (p t:List UInt8) (d:UInt8):likeL (p++[c]) (t++[d])=(likeL p t&&(c==95||c==d)):=by
 rw [Bool.eq_iff_iff,Bool.and_eq_true,Bool.or_eq_true,beq_iff_eq,beq_iff_eq]
 constructor
 · intro h;obtain ⟨a,b,e,ha,hb⟩:=(qa p [c] _).1 h;obtain ⟨d',r,rfl,h1,h2⟩:=(zq hc [] b).1 hb;rw [(jap r).1 h2] at e;obtain ⟨e1,e2⟩:=List.append_inj' e rfl
   injection e2 with e2 _
   subst e1;subst e2;exact ⟨ha,h1⟩
 · rintro ⟨h1,h2⟩;exact (qa p [c] _).2 ⟨t,[d],rfl,h1,(zq hc [] [d]).2 ⟨d,[],rfl,h2,rfl⟩⟩
theorem Y0 {c:UInt8} (hc:c≠37) (p:List UInt8):likeL (p++[c]) []=false:=by
 rw [Bool.eq_false_iff];intro h;obtain ⟨a,b,e,ha,hb⟩:=(qa p [c] _).1 h;obtain ⟨d',r,rfl,h1,h2⟩:=(zq hc [] b).1 hb
 have:=(List.append_eq_nil_iff.1 e.symm).2
 cases this
theorem jaz:∀ (p s:List UInt8),(∀ c∈p,c≠37)→likeL p s=true→s.length=p.length
 | [],s,_,h=>by rw [(jap s).1 h]
 |c::p,s,hp,h=>by
  obtain ⟨d,r,rfl,_,h2⟩:=(zq (hp c (by simp)) p s).1 h;rw [List.length_cons,List.length_cons,jaz p r (fun x hx=>hp x (by simp [hx])) h2]
theorem jd5 (s:List UInt8):likeL [37] s=true:=(zd [] s).2 ⟨s,[],by simp,rfl⟩
theorem zt (p s:List UInt8):likeL (37::p) s=true↔∃ i,i≤s.length∧likeL p (s.drop i)=true:=by
 rw [zd]
 constructor
 · rintro ⟨x,t,rfl,ht⟩;exact ⟨x.length,by rw [List.length_append];omega,by rw [List.drop_left];exact ht⟩
 · rintro ⟨i,_,h⟩;exact ⟨s.take i,s.drop i,(List.take_append_drop i s).symm,h⟩
theorem jnd {lit p s:List UInt8} {m k n:Nat} (hl:∀ c∈lit,c≠37) (hk:m+lit.length=k) (hn:m≤n) (h:likeL (lit++37::p) (s.drop n)=true):likeL (37::p) (s.drop k)=true:=by
 obtain ⟨a,b,e,ha,hb⟩:=(qa lit (37::p) _).1 h;have hla:=jaz lit a hl ha
 have hb2:b=s.drop (n+lit.length):=by
  have:=congrArg (List.drop lit.length) e
  rw [List.drop_drop,←hla,List.drop_left] at this;rw [←hla];exact this.symm
 obtain ⟨x,t,e2,ht⟩:=(zd p b).1 hb
 have hle:k≤n+lit.length:=by omega
 obtain ⟨j,hj⟩:∃ j,n+lit.length=k+j:=⟨n+lit.length - k,by omega⟩;refine (zd p _).2 ⟨(s.drop k).take j++x,t,?_,ht⟩
 have h3:(s.drop k).drop j=b:=by rw [List.drop_drop,←hj,hb2]
 rw [List.append_assoc,←e2,←h3,List.take_append_drop]
theorem jjh (p:List UInt8):likeL p []=p.all (fun c=>c==37):=by
 induction p with
 |nil=>rfl
 |cons c p ih=>
  by_cases hc:c=37
  · subst hc;rw [List.all_cons,←ih,show ((37:UInt8)==37)=true from rfl,Bool.true_and,Bool.eq_iff_iff,zd]
    constructor
    · rintro ⟨x,t,e,h⟩;rw [(List.append_eq_nil_iff.1 e.symm).2] at h;exact h
    · intro h;exact ⟨[],[],rfl,h⟩
  · rw [List.all_cons,show (c==37)=false from beq_eq_false_iff_ne.2 hc,Bool.false_and,Bool.eq_false_iff];intro h;obtain ⟨d,r,e,_⟩:=(zq hc p []).1 h
    cases e
structure StN (p s:List UInt8) (V:Bool) (i k:Nat):Prop where
 hi:i≤p.length
 hk:k≤s.length
 eq:likeL (p.drop i) (s.drop k)=V
structure StS (p s:List UInt8) (V:Bool) (a m i k:Nat):Prop where
 ha:a<i
 hi:i≤p.length
 hm:m≤k
 hk:k≤s.length
 len:k - m=i - (a+1)
 pct:p.getD a 0=37
 no:∀ c∈(p.drop (a+1)).take (i - (a+1)),c≠37
 seg:likeL ((p.drop (a+1)).take (i - (a+1))) ((s.drop m).take (k - m))=true
 eq:likeL (p.drop a) (s.drop m)=V
theorem zu {l:List UInt8} {i:Nat} (h:i<l.length):l.drop i=l.getD i 0::l.drop (i+1):=by
 rw [List.drop_eq_getElem_cons h];simp [List.getD_eq_getElem?_getD,List.getElem?_eq_getElem h]
theorem StN.start (p s:List UInt8):StN p s (likeL p s) 0 0:=⟨Nat.zero_le _,Nat.zero_le _,rfl⟩
theorem StN.star {p s:List UInt8} {V:Bool} {i k:Nat} (h:StN p s V i k) (hi:i<p.length) (hc:p.getD i 0=37):StS p s V i k (i+1) k:=by
 refine ⟨by omega,by omega,Nat.le_refl _,h.hk,by omega,hc,fun c hc=>?_,?_,h.eq⟩
 · rw [Nat.sub_self,List.take_zero] at hc;cases hc
 · rw [Nat.sub_self,Nat.sub_self];rfl
theorem StN.chr {p s:List UInt8} {V:Bool} {i k:Nat} (h:StN p s V i k) (hi:i<p.length) (hk:k<s.length) (hc:p.getD i 0≠37) (hd:p.getD i 0=95∨p.getD i 0=s.getD k 0):StN p s V (i+1) (k+1):=by
 refine ⟨by omega,by omega,?_⟩;rw [←h.eq,zu hi,zu hk,Zk,if_neg hc]
 show _=((p.getD i 0==95||p.getD i 0==s.getD k 0)&&likeL (p.drop (i+1)) (s.drop (k+1)))
 have:(p.getD i 0==95||p.getD i 0==s.getD k 0)=true:=by rw [Bool.or_eq_true,beq_iff_eq,beq_iff_eq];exact hd
 rw [this,Bool.true_and]
theorem jlz {p s:List UInt8} {i k:Nat} (hk:k<s.length) (h:p.length≤i∨(p.getD i 0≠37∧p.getD i 0≠95∧p.getD i 0≠s.getD k 0)):likeL (p.drop i) (s.drop k)=false:=by
 rw [zu hk]
 by_cases hi:i<p.length
 · have h:=h.resolve_left (by omega);rw [zu hi,Zk,if_neg h.1]
   show ((p.getD i 0==95||p.getD i 0==s.getD k 0)&&_)=false
   rw [show (p.getD i 0==95)=false from beq_eq_false_iff_ne.2 h.2.1,show (p.getD i 0==s.getD k 0)=false from beq_eq_false_iff_ne.2 h.2.2];rfl
 · rw [List.drop_eq_nil_of_le (by omega)];rfl
theorem StN.fail {p s:List UInt8} {V:Bool} {i k:Nat} (h:StN p s V i k) (hk:k<s.length) (hf:p.length≤i∨(p.getD i 0≠37∧p.getD i 0≠95∧p.getD i 0≠s.getD k 0)):V=false:=by
 rw [←h.eq];exact jlz hk hf
theorem StN.fin {p s:List UInt8} {V:Bool} {i:Nat} (h:StN p s V i s.length):V=(p.drop i).all (fun c=>c==37):=by
 rw [←h.eq,List.drop_length,jjh]
theorem StS.split {p s:List UInt8} {V:Bool} {a m i k:Nat} (h:StS p s V a m i k):p.drop a=37::((p.drop (a+1)).take (i - (a+1))++p.drop i):=by
 have ha:=h.ha;have hi:=h.hi;rw [zu (by omega),h.pct]
 congr 1
 have e:=List.take_append_drop (i - (a+1)) (p.drop (a+1));rw [List.drop_drop,show a+1+(i - (a+1))=i by omega] at e;exact e.symm
theorem StS.lit {p s:List UInt8} {V:Bool} {a m i k:Nat} (h:StS p s V a m i k):((p.drop (a+1)).take (i - (a+1))).length=i - (a+1):=by
 have ha:=h.ha;have hi:=h.hi;rw [List.length_take,List.length_drop];omega
theorem StS.star {p s:List UInt8} {V:Bool} {a m i k:Nat} (h:StS p s V a m i k) (hi:i<p.length) (hc:p.getD i 0=37):StS p s V i k (i+1) k:=by
 have ha:=h.ha;have hm:=h.hm;have hlen:=h.len;have hl:=h.lit;refine ⟨by omega,by omega,Nat.le_refl _,h.hk,by omega,hc,fun c hc=>?_,?_,?_⟩
 · rw [Nat.sub_self,List.take_zero] at hc;cases hc
 · rw [Nat.sub_self,Nat.sub_self];rfl
 · rw [←h.eq,h.split,zu hi,hc];rw [Bool.eq_iff_iff]
   constructor
   · intro h2;refine (zt _ _).2 ⟨0,Nat.zero_le _,?_⟩;rw [List.drop_zero];refine (qa _ _ _).2 ⟨(s.drop m).take (k - m),s.drop k,?_,h.seg,h2⟩;have e:=List.take_append_drop (k - m) (s.drop m);rw [List.drop_drop,show m+(k - m)=k by omega] at e;exact e.symm
   · intro h2;obtain ⟨n,_,h3⟩:=(zt _ _).1 h2;rw [List.drop_drop] at h3;exact jnd (m:=m) (n:=m+n) h.no (by rw [hl];omega) (by omega) h3
theorem StS.chr {p s:List UInt8} {V:Bool} {a m i k:Nat} (h:StS p s V a m i k) (hi:i<p.length) (hk:k<s.length) (hc:p.getD i 0≠37) (hd:p.getD i 0=95∨p.getD i 0=s.getD k 0):StS p s V a m (i+1) (k+1):=by
 have ha:=h.ha;have hm:=h.hm;have hlen:=h.len
 have e1:(p.drop (a+1)).take (i+1 - (a+1))=(p.drop (a+1)).take (i - (a+1))++[p.getD i 0]:=by
  rw [show i+1 - (a+1)=i - (a+1)+1 by omega,List.take_add_one,List.getElem?_drop,show a+1+(i - (a+1))=i by omega,List.getElem?_eq_getElem hi];simp [List.getD_eq_getElem?_getD,List.getElem?_eq_getElem hi]
 have e2:(s.drop m).take (k+1 - m)=(s.drop m).take (k - m)++[s.getD k 0]:=by
  rw [show k+1 - m=k - m+1 by omega,List.take_add_one,List.getElem?_drop,show m+(k - m)=k by omega,List.getElem?_eq_getElem hk];simp [List.getD_eq_getElem?_getD,List.getElem?_eq_getElem hk]
 refine ⟨by omega,by omega,by omega,by omega,by omega,h.pct,fun c hx=>?_,?_,h.eq⟩
 · rw [e1] at hx
   rcases List.mem_append.1 hx with hx|hx
   · exact h.no c hx
   · rw [List.mem_singleton.1 hx];exact hc
 · rw [e1,e2,Xk hc,h.seg,Bool.true_and,Bool.or_eq_true,beq_iff_eq,beq_iff_eq];exact hd
theorem StS.back {p s:List UInt8} {V:Bool} {a m i k:Nat} (h:StS p s V a m i k) (hk:k<s.length) (hf:p.length≤i∨(p.getD i 0≠37∧p.getD i 0≠95∧p.getD i 0≠s.getD k 0)):StS p s V a (m+1) (a+1) (m+1):=by
 have ha:=h.ha;have hi:=h.hi;have hm:=h.hm;have hl:=h.lit;have hlen:=h.len;refine ⟨by omega,by omega,Nat.le_refl _,by omega,by omega,h.pct,fun c hc=>?_,?_,?_⟩
 · rw [Nat.sub_self,List.take_zero] at hc;cases hc
 · rw [Nat.sub_self,Nat.sub_self];rfl
 · rw [←h.eq,h.split];generalize hL:(p.drop (a+1)).take (i - (a+1))=L;have hno:=h.no;rw [hL] at hl hno;rw [Bool.eq_iff_iff,zt,zt]
   constructor
   · rintro ⟨n,hn,h2⟩;rw [List.drop_drop] at h2;exact ⟨n+1,by rw [List.length_drop] at hn ⊢;omega,by rw [List.drop_drop,show m+(n+1)=m+1+n by omega];exact h2⟩
   · rintro ⟨n,hn,h2⟩
     cases n with
     |zero=>
      exfalso
      rw [List.drop_zero] at h2;obtain ⟨x,y,e,hx,hy⟩:=(qa _ _ _).1 h2;have hxl:=jaz L x hno hx
      have hy2:y=s.drop k:=by
       have:=congrArg (List.drop x.length) e
       rw [List.drop_left,List.drop_drop,hxl,hl,show m+(i - (a+1))=k by omega] at this;exact this.symm
      rw [hy2,jlz hk hf] at hy;cases hy
     |succ n=>
      rw [List.drop_drop] at h2;exact ⟨n,by rw [List.length_drop] at hn ⊢;omega,by rw [List.drop_drop,show m+1+n=m+(n+1) by omega];exact h2⟩
theorem StS.fin {p s:List UInt8} {V:Bool} {a m i:Nat} (h:StS p s V a m i s.length):V=(p.drop i).all (fun c=>c==37):=by
 have ha:=h.ha;have hi:=h.hi;have hm:=h.hm;have hl:=h.lit;have hlen:=h.len;rw [←h.eq,h.split,←jjh,Bool.eq_iff_iff]
 constructor
 · intro h2;obtain ⟨n,hn,h3⟩:=(zt _ _).1 h2;rw [List.drop_drop] at h3;obtain ⟨x,y,e,hx,hy⟩:=(qa _ _ _).1 h3;have hxl:=jaz _ x h.no hx
   have:=congrArg List.length e
   rw [List.length_drop,List.length_append,hxl,hl] at this;rw [List.length_drop] at hn;have hy0:y=[]:=List.eq_nil_of_length_eq_zero (by omega);rw [hy0] at hy;exact hy
 · intro h2;refine (zt _ _).2 ⟨0,Nat.zero_le _,?_⟩;rw [List.drop_zero];refine (qa _ _ _).2 ⟨s.drop m,[],by simp,?_,h2⟩;have e:=h.seg;have e2:(s.drop m).take (s.length - m)=s.drop m:=List.take_of_length_le (by rw [List.length_drop];exact Nat.le_refl _)
   rwa [e2] at e
theorem jjj {l:List UInt8} {i:Nat} (h:i<l.length):l.take (i+1)=l.take i++[l.getD i 0]:=by
 rw [List.take_add_one,List.getElem?_eq_getElem h];simp [List.getD_eq_getElem?_getD,List.getElem?_eq_getElem h]
theorem jpk {p s:List UInt8} {i k:Nat} (hi:i<p.length) (hk:k≤s.length):likeL (p.take (i+1)) (s.take k)=
  if p.getD i 0=37 then (likeL (p.take i) (s.take k)||(decide (0<k)&&likeL (p.take (i+1)) (s.take (k - 1)))) else (decide (0<k)&&(likeL (p.take i) (s.take (k - 1))&&(p.getD i 0==95||p.getD i 0==s.getD (k - 1) 0))):=by
 rw [jjj hi]
 by_cases hc:p.getD i 0=37
 · rw [if_pos hc,hc];exact jes _ _ _ hk
 · rw [if_neg hc]
   cases k with
   |zero=>rw [List.take_zero,Y0 hc];rfl
   |succ k=>rw [jjj (show k<s.length by omega),Xk hc,Nat.add_sub_cancel,decide_eq_true (Nat.succ_pos k),Bool.true_and]
def rowL (p s:List UInt8) (i:Nat):List Bool:=(List.range (s.length+1)).map (fun j=>likeL (p.take i) (s.take j))
def rowT (p s:List UInt8) (i k:Nat):List Bool:=(List.range (s.length+1)).map (fun j=>decide (j<k)&&likeL (p.take i) (s.take j))
theorem Xc (p s:List UInt8) (i j:Nat) (hj:j≤s.length):(rowL p s i).getD j false=likeL (p.take i) (s.take j):=by
 simp [rowL,List.getD_eq_getElem?_getD,List.getElem?_map,List.getElem?_range (show j<s.length+1 by omega)]
theorem jr3 (p s:List UInt8) (i k j:Nat) (hj:j≤s.length):(rowT p s i k).getD j false=(decide (j<k)&&likeL (p.take i) (s.take j)):=by
 simp [rowT,List.getD_eq_getElem?_getD,List.getElem?_map,List.getElem?_range (show j<s.length+1 by omega)]
theorem jo6 (p s:List UInt8) (i:Nat):rowT p s i 0=List.replicate (s.length+1) false:=by
 apply List.ext_getElem
 · simp [rowT]
 · intro j h1 h2;simp [rowT]
theorem jop (p s:List UInt8) (i:Nat):rowT p s i (s.length+1)=rowL p s i:=by
 unfold rowT rowL
 apply List.map_congr_left
 intro j hj;rw [decide_eq_true (List.mem_range.1 hj),Bool.true_and]
theorem jpx (p s:List UInt8) (i k:Nat) (hk:k≤s.length):(rowT p s i k).set k (likeL (p.take i) (s.take k))=rowT p s i (k+1):=by
 apply List.ext_getElem
 · simp [rowT]
 · intro j h1 h2;rw [List.getElem_set];simp only [rowT,List.getElem_map,List.getElem_range]
   by_cases h:k=j
   · subst h;rw [if_pos rfl,decide_eq_true (Nat.lt_succ_self k),Bool.true_and]
   · rw [if_neg h]
     by_cases h3:j<k
     · rw [decide_eq_true h3,decide_eq_true (by omega)]
     · rw [decide_eq_false h3,decide_eq_false (by omega)]
theorem jnx (p s:List UInt8) (i k:Nat) (hk:k≤s.length) (h:likeL (p.take i) (s.take k)=false):rowT p s i k=rowT p s i (k+1):=by
 unfold rowT
 apply List.map_congr_left
 intro j hj
 by_cases h2:j=k
 · subst h2;rw [h,Bool.and_false,Bool.and_false]
 · by_cases h3:j<k
   · rw [decide_eq_true h3,decide_eq_true (by omega)]
   · rw [decide_eq_false h3,decide_eq_false (by omega)]
theorem jn7 (p s:List UInt8):(List.replicate (s.length+1) false).set 0 true=rowL p s 0:=by
 apply List.ext_getElem
 · simp [rowL]
 · intro j h1 h2;rw [List.getElem_set];simp only [rowL,List.getElem_map,List.getElem_range,List.take_zero]
   by_cases h:0=j
   · subst h;rw [if_pos rfl];rfl
   · rw [if_neg h,List.getElem_replicate]
     have hj:j<s.length+1:=by rw [List.length_set,List.length_replicate] at h1;exact h1
     cases hq:s.take j with
     |nil=>
      have:=congrArg List.length hq
      rw [List.length_take] at this;have h4:min j s.length=0:=this;omega
     |cons a r=>rfl
theorem jpy (p s:List UInt8):(rowL p s p.length).getD s.length false=likeL p s:=by rw [Xc p s _ _ (Nat.le_refl _),List.take_length,List.take_length]
end Go.Proofs.YthcompcjphaahaaGreatDoor.Li
