/- Chapter 17's code: Match, and the three functions together (LikeC). -/
import Derived.Lib.ConvBytes
import Derived.Laws.IdiomStrings
import Derived.Test.YthcompcjphaahaaGreatDoorh42
set_option maxRecDepth 100000
set_option maxHeartbeats 8000000
set_option linter.unusedVariables false
set_option linter.unusedSimpArgs false
namespace Go.Proofs.YthcompcjphaahaaGreatDoor.Li
open Go.RowKit
theorem zy {p:List UInt8} {k:Nat} (h:p.length=k+1):p=p.take k++[p.getD k 0]:=by
 have e:=List.take_append_drop k p;rw [zu (by omega),List.drop_eq_nil_of_le (by omega)] at e;exact e.symm
theorem joj {p s:List UInt8} {k:Nat} (h:p.length=k+1) (hc:p.getD k 0≠37) (hs:s.length=0):likeL p s=false:=by
 rw [zy h,List.eq_nil_of_length_eq_zero hs];exact Y0 hc _
theorem jrb {p s:List UInt8} {k m:Nat} (h:p.length=k+1) (hc:p.getD k 0≠37) (hs:s.length=m+1):likeL p s=(likeL (p.take k) (s.take m)&&stB (p.getD k 0) (s.getD m 0)):=by
 rw [zy h,zy hs,Xk hc,←zy h,←zy hs];rfl
theorem jqg {p s:List UInt8} {k:Nat} (h:p.length=k+1) (hc:p.getD k 0=37):likeL (p++[37]) s=likeL p s:=by
 have e:=zy h;rw [hc] at e;have all2:∀ b,likeL ([37]++[37]) b=true:=fun b=>(zt [37] b).2 ⟨0,Nat.zero_le _,jd5 _⟩;rw [e,List.append_assoc,Bool.eq_iff_iff,qa,qa]
 constructor
 · rintro ⟨a,b,e1,e2,_⟩;exact ⟨a,b,e1,e2,jd5 _⟩
 · rintro ⟨a,b,e1,e2,_⟩;exact ⟨a,b,e1,e2,all2 _⟩
theorem ji3 (l:List UInt8):(bt l).toList.isEmpty=l.isEmpty:=by rw [ByteArray.toList_eq];simp [bt]
def strN:Value→Nat|.string s=>s.size|_=>0
theorem match_any (p0 s0:List UInt8) (hp0:p0.length≤1000000) (hs0:s0.length≤1000000) (w:World):Calls Tryz.prog 98 #[.string (bt p0),.string (bt s0)] w fun e w'=>e=.returned (.bool (likeL p0 s0))∧Below w.heap.size w w':=by
 obtain ⟨V,hV⟩:∃ V,likeL p0 s0=V:=⟨_,rfl⟩;have H0:=lh hV;rw [hV];clear hV;go_enter Tryz.func98,Tryz.ntmps98;go_wp2_with (fail)
 go_loopw [0,1] (fun v0 v1 wr=>∃ (p s:List UInt8),v0=.string (bt p)∧v1=.string (bt s)∧p.length≤1000000∧s.length≤1000000∧Hid (likeL p s=V)∧Hid (Below w.heap.size w wr)) (fun v0 _ _=>strN v0)
 case atStart=>exact ⟨p0,s0,rfl,rfl,hp0,hs0,H0,lh (Below.refl _ _)⟩
 case round=>
  clear H0 hp0 hs0;obtain ⟨p,s,rfl,rfl,hp,hs,HV,HW⟩:=hrel
  by_cases hpe:p.length=0
  · have hpn:p=[]:=List.eq_nil_of_length_eq_zero hpe;subst hpn;have HB:bt []=⟨#[]⟩:=rfl;have HV2:=lh (show (bt s).toList.isEmpty=V by rw [ji3];have:=HV.out;cases s <;> exact this);clear hp hpe;go_wp2_with (fail);go_ret;exact ⟨by rw [←HV2.out];rfl,HW.out⟩
  · obtain ⟨k,hk⟩:∃ k,p.length=k+1:=⟨p.length - 1,by omega⟩
    have hpz:(bt p).size=k+1:=by rw [zc,hk]
    have hsz:(bt s).size=s.length:=zc s;have HGP:=lh (jbj p);have HGS:=lh (jbj s);have HTP:=lh (fun wx=>jt7 p k (by omega) wx);have HTS:=lh (fun j hj wx=>jt7 s j hj wx);obtain ⟨P,hP⟩:∃ P,bt p=P:=⟨_,rfl⟩;obtain ⟨S,hS⟩:∃ S,bt s=S:=⟨_,rfl⟩;have HPQ:=lh hP;have HSQ:=lh hS;rw [hP] at hpz HGP HTP ⊢;rw [hS] at hsz HGS HTS ⊢
    have hmp:P.size≤maxLen:=by show P.size≤9223372036854775807;omega
    have hms:S.size≤maxLen:=by show S.size≤9223372036854775807;omega
    have hPe:P.toList.isEmpty=false:=by rw [←hP,ji3];cases p with|nil=>cases hk|cons a l=>rfl
    clear hP hS hpe
    have hkP:k<P.size:=by omega
    have hgp:=HGP.out k hkP;have hwk:IntKind.i64.wrap (k:Int)=(k:Int):=IntWalk.i64_in _ (by omega)
    have h0k:(0:Int)<(k:Int)+1:=by omega
    have t37:=jac (p.getD k 0) 37 (by decide);obtain ⟨q37,h37⟩:∃ q,(p.getD k 0==UInt8.ofNat 37)=q:=⟨_,rfl⟩;rw [h37,←hgp] at t37;have t37:((((P[k]'hkP).toNat:Nat):Int)==37)=q37:=t37
    have t37n:((((P[k]'hkP).toNat:Nat):Int) !=37)=!q37:=by rw [bne,t37]
    cases q37 with
    |true=>
     have HX:=lh ((jqg (s:=s) hk (eq_of_beq h37)).trans HV.out);have HC:=lh (fun wx=>jkm p s hp hs wx);have hx:=HX.out;rw [HPQ.out,HSQ.out,hx] at HC;clear hgp h37 HV hx;go_wp2_with (go_at_call 136;refine (HC.out _).mono ?_;rintro e w1 ⟨rfl,hb⟩;have HB1:=lh hb;clear hb);go_ret;exact ⟨rfl,HW.out.trans (HB1.out.mono HW.out.size)⟩
    |false=>
     have h37:p.getD k 0≠37:=fun e=>by rw [e] at h37;exact absurd h37 (by decide)
     by_cases hse:s.length=0
     · have HX:=lh ((joj hk h37 hse).symm.trans HV.out)
       have hst:((s.length:Int)==0)=true:=by rw [beq_iff_eq];omega
       clear hgp HV;go_wp2_with (fail)
       go_quiet (fail)
       go_wp2_with (fail);go_ret;exact ⟨by rw [←HX.out];rfl,Yr HW.out _⟩
     · obtain ⟨m,hm⟩:∃ m,s.length=m+1:=⟨s.length - 1,by omega⟩;rw [hm] at hsz
       have hmS:m<S.size:=by omega
       have hgs:=HGS.out m hmS;have hwm:IntKind.i64.wrap (m:Int)=(m:Int):=IntWalk.i64_in _ (by omega)
       have hmi:(m:Int)<(m:Int)+1:=by omega
       have h0m:(((m:Int)+1)==0)=false:=by rw [beq_eq_false_iff_ne];omega
       have HTS:=lh (fun wx=>HTS.out m (by omega) wx);have HC:=lh (fun wx=>Z5 (P[k]'hkP) (S[m]'hmS) wx);obtain ⟨q,hq⟩:∃ q,stB (P[k]'hkP) (S[m]'hmS)=q:=⟨_,rfl⟩;rw [hq] at HC;rw [hgp,hgs] at hq;have hx:=jrb hk h37 hm;rw [HV.out,hq] at hx
       cases q with
       |true=>
        rw [Bool.and_true] at hx;have HX:=lh hx.symm;clear hgp hgs hse hq HV hx h37;go_wp2_with (fail)
        go_quiet ((go_at_call 135;exact Calls.quiet_of_same (P:=Tryz.prog) (HC.out _)))
        go_wp2_with (fail);have HW:=lh (Yr HW.out nq);generalize wr.drewN nq=wq at *;have htp:=HTP.out;have hts:=HTS.out
        go_quiet (fail)
        go_wp2_with (fail);refine ⟨⟨p.take k,s.take m,rfl,rfl,?_,?_,HX,lh (Yr HW.out _)⟩,?_⟩
        · rw [List.length_take];omega
        · rw [List.length_take];omega
        · show (bt (p.take k)).size<P.size
          rw [zc,List.length_take];omega
       |false=>
        rw [Bool.and_false] at hx;have HX:=lh hx;clear hgp hgs hse hq HV hx h37;go_wp2_with (fail)
        go_quiet ((go_at_call 135;exact Calls.quiet_of_same (P:=Tryz.prog) (HC.out _)))
        go_wp2_with (fail);go_ret;exact ⟨by rw [HX.out];rfl,Yr HW.out _⟩
end Go.Proofs.YthcompcjphaahaaGreatDoor.Li
