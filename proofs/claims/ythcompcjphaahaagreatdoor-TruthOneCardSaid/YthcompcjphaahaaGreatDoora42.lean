/- Chapter 17's code: Match, and the three functions together (LikeC). -/
import Derived.OwnWalk
import Derived.BigRegion
import Derived.Laws.OwnMore
import Derived.Lib.ConvBytes
import Derived.Laws.IdiomStrings
import Derived.Test.YthcompcjphaahaaGreatDoora41
namespace Go.Proofs.YthcompcjphaahaaGreatDoor.Li
open Go.RowKit
set_option linter.unusedVariables false
set_option linter.unusedSimpArgs false
theorem last_take {p:List UInt8} {k:Nat} (h:p.length=k+1):p=p.take k++[p.getD k 0]:=by
 have e:=List.take_append_drop k p
 rw [drop_get (by omega),List.drop_eq_nil_of_le (by omega)] at e
 exact e.symm
theorem last_none {p s:List UInt8} {k:Nat} (h:p.length=k+1) (hc:p.getD k 0≠37) (hs:s.length=0):likeL p s=false:=by
 rw [last_take h,List.eq_nil_of_length_eq_zero hs]
 exact like_snoc_none hc _
theorem last_chr {p s:List UInt8} {k m:Nat} (h:p.length=k+1) (hc:p.getD k 0≠37) (hs:s.length=m+1):likeL p s=(likeL (p.take k) (s.take m)&&stB (p.getD k 0) (s.getD m 0)):=by
 rw [last_take h,last_take hs,like_snoc_chr hc,←last_take h,←last_take hs];rfl
theorem last_pct {p s:List UInt8} {k:Nat} (h:p.length=k+1) (hc:p.getD k 0=37):likeL (p++[37]) s=likeL p s:=by
 have e:=last_take h
 rw [hc] at e
 have all2:∀ b,likeL ([37]++[37]) b=true:=fun b=>(like_suf [37] b).2 ⟨0,Nat.zero_le _,like_all _⟩
 rw [e,List.append_assoc,Bool.eq_iff_iff,like_app,like_app]
 constructor
 · rintro ⟨a,b,e1,e2,_⟩;exact ⟨a,b,e1,e2,like_all _⟩
 · rintro ⟨a,b,e1,e2,_⟩;exact ⟨a,b,e1,e2,all2 _⟩
theorem bt_empty (l:List UInt8):(bt l).toList.isEmpty=l.isEmpty:=by rw [ByteArray.toList_eq];simp [bt]
def strN:Value→Nat|.string s=>s.size|_=>0
set_option maxRecDepth 100000 in
set_option maxHeartbeats 4000000 in
theorem match_any (p0 s0:List UInt8) (hp0:p0.length≤1000000) (hs0:s0.length≤1000000) (w:World):Calls Tryz.prog 98 #[.string (bt p0),.string (bt s0)] w fun e w'=>e=.returned (.bool (likeL p0 s0))∧Below w.heap.size w w':=by
 obtain ⟨V,hV⟩:∃ V,likeL p0 s0=V:=⟨_,rfl⟩
 have H0:=Lib.hid hV
 rw [hV]
 clear hV
 go_enter Tryz.func98,Tryz.ntmps98
 go_wp2_with (fail)
 go_loopw [0,1] (fun v0 v1 wr=>∃ (p s:List UInt8),v0=.string (bt p)∧v1=.string (bt s)∧p.length≤1000000∧s.length≤1000000∧Hid (likeL p s=V)∧Hid (Below w.heap.size w wr)) (fun v0 _ _=>strN v0)
 case atStart=>exact ⟨p0,s0,rfl,rfl,hp0,hs0,H0,Lib.hid (Below.refl _ _)⟩
 case round=>
  clear H0 hp0 hs0
  obtain ⟨p,s,rfl,rfl,hp,hs,HV,HW⟩:=hrel
  by_cases hpe:p.length=0
  · have hpn:p=[]:=List.eq_nil_of_length_eq_zero hpe
    subst hpn
    have HB:bt []=⟨#[]⟩:=rfl
    have HV2:=Lib.hid (show (bt s).toList.isEmpty=V by rw [bt_empty];have:=HV.out;cases s <;> exact this)
    clear hp hpe
    go_wp2_with (fail)
    go_ret
    exact ⟨by rw [←HV2.out];rfl,HW.out⟩
  · obtain ⟨k,hk⟩:∃ k,p.length=k+1:=⟨p.length - 1,by omega⟩
    have hpz:(bt p).size=k+1:=by rw [bt_size,hk]
    have hsz:(bt s).size=s.length:=bt_size s
    have HGP:=Lib.hid (bt_get p)
    have HGS:=Lib.hid (bt_get s)
    have HTP:=Lib.hid (fun wx=>bt_to p k (by omega) wx)
    have HTS:=Lib.hid (fun j hj wx=>bt_to s j hj wx)
    obtain ⟨P,hP⟩:∃ P,bt p=P:=⟨_,rfl⟩
    obtain ⟨S,hS⟩:∃ S,bt s=S:=⟨_,rfl⟩
    have HPQ:=Lib.hid hP
    have HSQ:=Lib.hid hS
    rw [hP] at hpz HGP HTP ⊢
    rw [hS] at hsz HGS HTS ⊢
    have hmp:P.size≤maxLen:=by show P.size≤9223372036854775807;omega
    have hms:S.size≤maxLen:=by show S.size≤9223372036854775807;omega
    have hPe:P.toList.isEmpty=false:=by rw [←hP,bt_empty];cases p with|nil=>cases hk|cons a l=>rfl
    clear hP hS hpe
    have hkP:k<P.size:=by omega
    have hgp:=HGP.out k hkP
    have hwk:IntKind.i64.wrap (k:Int)=(k:Int):=IntWalk.i64_in _ (by omega)
    have h0k:(0:Int)<(k:Int)+1:=by omega
    have t37:=byte_eq (p.getD k 0) 37 (by decide)
    obtain ⟨q37,h37⟩:∃ q,(p.getD k 0==UInt8.ofNat 37)=q:=⟨_,rfl⟩
    rw [h37,←hgp] at t37
    have t37:((((P[k]'hkP).toNat:Nat):Int)==37)=q37:=t37
    have t37n:((((P[k]'hkP).toNat:Nat):Int) !=37)=!q37:=by rw [bne,t37]
    cases q37 with
    |true=>
     have HX:=Lib.hid ((last_pct (s:=s) hk (eq_of_beq h37)).trans HV.out)
     have HC:=Lib.hid (fun wx=>begins_any p s hp hs wx)
     have hx:=HX.out
     rw [HPQ.out,HSQ.out,hx] at HC
     clear hgp h37 HV hx
     go_wp2_with (go_at_call 136;refine (HC.out _).mono ?_;rintro e w1 ⟨rfl,hb⟩;have HB1:=Lib.hid hb;clear hb)
     go_ret
     exact ⟨rfl,HW.out.trans (HB1.out.mono HW.out.size)⟩
    |false=>
     have h37:p.getD k 0≠37:=fun e=>by rw [e] at h37;exact absurd h37 (by decide)
     by_cases hse:s.length=0
     · have HX:=Lib.hid ((last_none hk h37 hse).symm.trans HV.out)
       have hst:((s.length:Int)==0)=true:=by rw [beq_iff_eq];omega
       clear hgp HV
       go_wp2_with (fail)
       go_quiet (fail)
       go_wp2_with (fail)
       go_ret
       exact ⟨by rw [←HX.out];rfl,drewN17 HW.out _⟩
     · obtain ⟨m,hm⟩:∃ m,s.length=m+1:=⟨s.length - 1,by omega⟩
       rw [hm] at hsz
       have hmS:m<S.size:=by omega
       have hgs:=HGS.out m hmS
       have hwm:IntKind.i64.wrap (m:Int)=(m:Int):=IntWalk.i64_in _ (by omega)
       have hmi:(m:Int)<(m:Int)+1:=by omega
       have h0m:(((m:Int)+1)==0)=false:=by rw [beq_eq_false_iff_ne];omega
       have HTS:=Lib.hid (fun wx=>HTS.out m (by omega) wx)
       have HC:=Lib.hid (fun wx=>stands_any (P[k]'hkP) (S[m]'hmS) wx)
       obtain ⟨q,hq⟩:∃ q,stB (P[k]'hkP) (S[m]'hmS)=q:=⟨_,rfl⟩
       rw [hq] at HC
       rw [hgp,hgs] at hq
       have hx:=last_chr hk h37 hm
       rw [HV.out,hq] at hx
       cases q with
       |true=>
        rw [Bool.and_true] at hx
        have HX:=Lib.hid hx.symm
        clear hgp hgs hse hq HV hx h37
        go_wp2_with (fail)
        go_quiet ((go_at_call 135;exact Calls.quiet_of_same (P:=Tryz.prog) (HC.out _)))
        go_wp2_with (fail)
        have HW:=Lib.hid (drewN17 HW.out nq)
        generalize wr.drewN nq=wq at *
        have htp:=HTP.out
        have hts:=HTS.out
        go_quiet (fail)
        go_wp2_with (fail)
        refine ⟨⟨p.take k,s.take m,rfl,rfl,?_,?_,HX,Lib.hid (drewN17 HW.out _)⟩,?_⟩
        · rw [List.length_take];omega
        · rw [List.length_take];omega
        · show (bt (p.take k)).size<P.size
          rw [bt_size,List.length_take];omega
       |false=>
        rw [Bool.and_false] at hx
        have HX:=Lib.hid hx
        clear hgp hgs hse hq HV hx h37
        go_wp2_with (fail)
        go_quiet ((go_at_call 135;exact Calls.quiet_of_same (P:=Tryz.prog) (HC.out _)))
        go_wp2_with (fail)
        go_ret
        exact ⟨by rw [HX.out];rfl,drewN17 HW.out _⟩
end Go.Proofs.YthcompcjphaahaaGreatDoor.Li
