/- The reference of chapter 17: Lead, Least. -/
import Derived.Deep.DeepCutAuto
import Derived.BigQuiet
import Derived.Deep.QuietTactic
import Derived.Test.YthcompcjphaahaaGreatDoora03
import Derived.Test.YthcompcjphaahaaGreatDoora40
namespace Go.Proofs.YthcompcjphaahaaGreatDoor.Li
open Go.RowKit
set_option linter.unusedVariables false
set_option linter.unusedSimpArgs false
def bt (l:List UInt8):ByteArray:=⟨l.toArray⟩
theorem bt_size (l:List UInt8):(bt l).size=l.length:=by simp [bt,ByteArray.size]
theorem bt_get (l:List UInt8) (i:Nat) (h:i<(bt l).size):(bt l)[i]'h=l.getD i 0:=by
 have h2:i<l.length:=by rw [bt_size] at h;exact h
 show (bt l).data[i]'h= _
 simp [bt,List.getD_eq_getElem?_getD,List.getElem?_eq_getElem h2]
theorem bt_extract (l:List UInt8) (i j:Nat):(bt l).extract i j=bt ((l.take j).drop i):=by
 apply ByteArray.ext
 rw [ByteArray.data_extract]
 simp [bt,List.drop_take]
theorem bt_from (l:List UInt8) (j:Nat) (hj:j≤l.length) (wx:World):(Instr.slice 9 (.string (bt l)) (some (.int .i64 (j:Nat))) none none).run Tryz.prog wx=.ok (.string (bt (l.drop j))) wx:=by
 have h:=run_slice_string_l (P:=Tryz.prog) wx 9 (bt l) Tryz.underlying9 .i64 (j:Nat) (by omega) (by rw [bt_size];omega)
 rw [h]
 show Result.ok (Value.string ((bt l).extract j (bt l).size)) wx= _
 rw [bt_extract,bt_size,List.take_length]
theorem bt_to (l:List UInt8) (j:Nat) (hj:j≤l.length) (wx:World):(Instr.slice 9 (.string (bt l)) none (some (.int .i64 (j:Nat))) none).run Tryz.prog wx=.ok (.string (bt (l.take j))) wx:=by
 have h:=run_slice_string_h (P:=Tryz.prog) wx 9 (bt l) Tryz.underlying9 .i64 (j:Nat) (by omega) (by rw [bt_size];omega)
 rw [h]
 show Result.ok (Value.string ((bt l).extract 0 j)) wx= _
 rw [bt_extract,List.drop_zero]
theorem byte_eq (c:UInt8) (n:Nat) (hn:n<256):(((c.toNat:Nat):Int)==(n:Int))=(c==UInt8.ofNat n):=by
 rw [Bool.eq_iff_iff,beq_iff_eq,beq_iff_eq]
 constructor
 · intro h
   apply UInt8.toNat_inj.1
   rw [UInt8.toNat_ofNat_of_lt' hn];omega
 · intro h;rw [h,UInt8.toNat_ofNat_of_lt' hn]
end Go.Proofs.YthcompcjphaahaaGreatDoor.Li
namespace Go.Proofs.YthcompcjphaahaaGreatDoor.Li
open Go.RowKit
set_option linter.unusedVariables false
set_option linter.unusedSimpArgs false
def stB (a b:UInt8):Bool:=a==95||a==b
theorem stB_yes {a b:UInt8} (h:stB a b=true):a=95∨a=b:=by unfold stB at h;rwa [Bool.or_eq_true,beq_iff_eq,beq_iff_eq] at h
theorem stB_no {a b:UInt8} (h:stB a b=false):a≠95∧a≠b:=by
 unfold stB at h
 rw [Bool.or_eq_false_iff] at h
 exact ⟨beq_eq_false_iff_ne.1 h.1,beq_eq_false_iff_ne.1 h.2⟩
theorem drewN17 {B:Nat} {w w1:World} (h:Below B w w1):∀ m,Below B w (w1.drewN m)
 |0=>h
 |m+1=>(drewN17 h m).drew
theorem byte_cmp (a b:UInt8):(((a.toNat:Nat):Int)==((b.toNat:Nat):Int))=(a==b):=by
 rw [Bool.eq_iff_iff,beq_iff_eq,beq_iff_eq]
 constructor
 · intro h;apply UInt8.toNat_inj.1;omega
 · intro h;rw [h]
theorem stands_any (a b:UInt8) (w:World):Calls Tryz.prog 135 #[.int .u8 ((a.toNat:Nat):Int),.int .u8 ((b.toNat:Nat):Int)] w fun e w'=>e=.returned (.bool (stB a b))∧w'=w:=by
 have t95:=byte_eq a 95 (by decide)
 have tab:=byte_cmp a b
 have t95:(((a.toNat:Nat):Int)==95)=(a==95):=t95
 have HS:stB a b=(a==95||a==b):=rfl
 rw [HS]
 generalize (a==95)=q1 at *
 generalize (a==b)=q2 at *
 generalize ((a.toNat:Nat):Int)=x at *
 generalize ((b.toNat:Nat):Int)=y at *
 cases q1 with
 |true=>
  go_enter Tryz.func135,Tryz.ntmps135
  go_wp2_with (fail)
  go_ret
  exact ⟨rfl,rfl⟩
 |false=>
  go_enter Tryz.func135,Tryz.ntmps135
  go_wp2_with (fail)
  go_ret
  exact ⟨rfl,rfl⟩
def AtNext (p s:List UInt8) (P S:ByteArray) (V:Bool) (w0:World) (a:Act) (w:World):Prop:=
 ∃ b f i j:Nat,Hid (BSrch p s V b f i j)∧Hid (Below w0.heap.size w0 w)∧∃ (u4 u9 u10 u11 u12 u13 u14 u15 u16 u17 u18 u19 u20 u21 u22 u23 u24 u25 u26 u27 u28 u29 u30 u31 u32 u33 u34 u35 u36 u37 u38 u39 u40 u41 u42 u43 u44 u45 u46 u47 u48:Value),a={ tmps:=#[.string P,.string S,undef,undef,u4,.int .i64 ((i:Nat):Int),.int .i64 ((j:Nat):Int),.int .i64 ((b:Nat):Int),.int .i64 ((f:Nat):Int),u9,u10,u11,u12,u13,u14,u15,u16,u17,u18,u19,u20,u21,u22,u23,u24,u25,u26,u27,u28,u29,u30,u31,u32,u33,u34,u35,u36,u37,u38,u39,u40,u41,u42,u43,u44,u45,u46,u47,u48],defers:=[] }
def AtBack (p s:List UInt8) (P S:ByteArray) (V:Bool) (w0:World) (a:Act) (w:World):Prop:=
 ∃ b f:Nat,b≤p.length∧f<s.length∧Hid ((b=0∧V=false)∨(0<b∧BSrch p s V b (f+1) b (f+1)))∧Hid (Below w0.heap.size w0 w)∧∃ (u4 u5 u6 u9 u10 u11 u12 u13 u14 u15 u16 u17 u18 u19 u20 u21 u22 u23 u24 u25 u26 u27 u28 u29 u30 u31 u32 u33 u34 u35 u36 u37 u38 u39 u40 u41 u42 u43 u44 u45 u46 u47 u48:Value),a={ tmps:=#[.string P,.string S,undef,undef,u4,u5,u6,.int .i64 ((b:Nat):Int),.int .i64 ((f:Nat):Int),u9,u10,u11,u12,u13,u14,u15,u16,u17,u18,u19,u20,u21,u22,u23,u24,u25,u26,u27,u28,u29,u30,u31,u32,u33,u34,u35,u36,u37,u38,u39,u40,u41,u42,u43,u44,u45,u46,u47,u48],defers:=[] }
def mAt (P S:Nat) (a:Act):Nat:=mB P S (intOf (a.tmps.getD 7 undef)).toNat (intOf (a.tmps.getD 8 undef)).toNat
set_option maxRecDepth 100000 in
set_option maxHeartbeats 4000000 in
theorem begins_any (p s:List UInt8) (hp:p.length≤1000000) (hs:s.length≤1000000) (w:World):Calls Tryz.prog 136 #[.string (bt p),.string (bt s)] w fun e w'=>e=.returned (.bool (likeL (p++[37]) s))∧Below w.heap.size w w':=by
 have hpz:(bt p).size=p.length:=bt_size p
 have hsz:(bt s).size=s.length:=bt_size s
 have HGP:=Lib.hid (bt_get p)
 have HGS:=Lib.hid (bt_get s)
 have H0:=Lib.hid (BSrch.start p s)
 have HST:=Lib.hid stands_any
 obtain ⟨P,hP⟩:∃ P,bt p=P:=⟨_,rfl⟩
 obtain ⟨S,hS⟩:∃ S,bt s=S:=⟨_,rfl⟩
 obtain ⟨V,hV⟩:∃ V,likeL (p++[37]) s=V:=⟨_,rfl⟩
 rw [hP] at hpz HGP ⊢
 rw [hS] at hsz HGS ⊢
 rw [hV] at H0 ⊢
 have hmp:P.size≤maxLen:=by show P.size≤9223372036854775807;omega
 have hms:S.size≤maxLen:=by show S.size≤9223372036854775807;omega
 clear hP hS hV
 go_enter Tryz.func136,Tryz.ntmps136
 go_wp2_with (fail)
 refine wp_scope_two 0 1 (AtBack p s P S V w) (AtNext p s P S V w) (fun a _=>mAt p.length s.length a) (fun a _=>mAt p.length s.length a+1) rfl rfl ?_ ?_ ?_
 · rintro a wx ⟨b,f,hb,hf,HB,HW,u4,u5,u6,u9,u10,u11,u12,u13,u14,u15,u16,u17,u18,u19,u20,u21,u22,u23,u24,u25,u26,u27,u28,u29,u30,u31,u32,u33,u34,u35,u36,u37,u38,u39,u40,u41,u42,u43,u44,u45,u46,u47,u48,rfl⟩
   rcases HB.out with ⟨rfl,rfl⟩|⟨h0,hx⟩
   · clear HB
     go_wp2_with (fail)
     go_ret
     exact ⟨rfl,HW.out⟩
   · have HX:=Lib.hid hx
     have hb0:((b:Int)==0)=false:=by rw [beq_eq_false_iff_ne];omega
     have hm:(intOf (.int .i64 ((b:Nat):Int))).toNat=b∧(intOf (.int .i64 ((f:Nat):Int))).toNat=f∧(intOf (.int .i64 (((f+1:Nat)):Int))).toNat=f+1:=by simp [intOf]
     have HM:=Lib.hid hm
     have hfw:IntKind.i64.wrap ((f:Int)+1)=((f+1:Nat):Int):=by rw [IntWalk.i64_in _ (by omega)];omega
     clear hx HB hm
     go_wp2_with (fail)
     go_step3
     refine Or.inr ⟨rfl,?_,?_⟩
     · exact ⟨b,f+1,b,f+1,HX,HW,_,_,_,_,_,_,_,_,_,_,_,_,_,_,_,_,_,_,_,_,_,_,_,_,_,_,_,_,_,_,_,_,_,_,_,_,_,_,_,_,_,rfl⟩
     · show mB p.length s.length b (f+1)+1<mB p.length s.length b f
       exact mB_back hf
 · rintro a wx ⟨b,f,i,j,HB,HW,u4,u9,u10,u11,u12,u13,u14,u15,u16,u17,u18,u19,u20,u21,u22,u23,u24,u25,u26,u27,u28,u29,u30,u31,u32,u33,u34,u35,u36,u37,u38,u39,u40,u41,u42,u43,u44,u45,u46,u47,u48,rfl⟩
   have hbi:=HB.out.hb
   have hil:=HB.out.hi
   have hfj:=HB.out.hf
   have hjl:=HB.out.hj
   go_wp2_with (fail)
   go_loopw [5,6] (fun v5 v6 wr=>∃ (i' j':Nat),v5=.int .i64 ((i':Nat):Int)∧v6=.int .i64 ((j':Nat):Int)∧Hid (BSrch p s V b f i' j')∧Hid (Below w.heap.size w wr)) (fun v5 _ _=>p.length - (intOf v5).toNat)
   case atStart=>exact ⟨i,j,rfl,rfl,HB,HW⟩
   case round=>
    clear HB HW hbi hil hfj hjl
    obtain ⟨i',j',rfl,rfl,HB,HW⟩:=hrel
    have hbi:=HB.out.hb
    have hil:=HB.out.hi
    have hfj:=HB.out.hf
    have hjl:=HB.out.hj
    by_cases hlt:i' <p.length
    · have hls:i' <P.size:=by omega
      have hji:(i':Int)<(p.length:Int):=by omega
      have hgp:=HGP.out i' hls
      have t37:=byte_eq (p.getD i' 0) 37 (by decide)
      obtain ⟨q37,h37⟩:∃ q,(p.getD i' 0==UInt8.ofNat 37)=q:=⟨_,rfl⟩
      rw [h37,←hgp] at t37
      have t37:((((P[i']'hls).toNat:Nat):Int)==37)=q37:=t37
      have t37n:((((P[i']'hls).toNat:Nat):Int) !=37)=!q37:=by rw [bne,t37]
      have hne:((i':Int)==(p.length:Int))=false:=by rw [beq_eq_false_iff_ne];omega
      have hiw:IntKind.i64.wrap ((i':Int)+1)=((i'+1:Nat):Int):=by rw [IntWalk.i64_in _ (by omega)];omega
      cases q37 with
      |true=>
       have HX:=Lib.hid (HB.out.star hlt (eq_of_beq h37))
       have hmb:=mB_star (P:=p.length) (S:=s.length) (b:=b) (f:=f) (b':=i'+1) (f':=j') (by omega) (by omega)
       clear hgp h37 HB
       go_wp2_with (fail)
       go_step3
       refine Or.inr ⟨rfl,?_,?_⟩
       · exact ⟨i'+1,j',i'+1,j',HX,HW,_,_,_,_,_,_,_,_,_,_,_,_,_,_,_,_,_,_,_,_,_,_,_,_,_,_,_,_,_,_,_,_,_,_,_,_,_,_,_,_,_,rfl⟩
       · show mB p.length s.length (i'+1) j'+1<mB p.length s.length b f+1
         exact Nat.succ_lt_succ hmb
      |false=>
       have h37:p.getD i' 0≠37:=fun e=>by rw [e] at h37;exact absurd h37 (by decide)
       by_cases hje:j'=s.length
       · have hjt:((j':Int)==(s.length:Int))=true:=by rw [beq_iff_eq];omega
         have HV:=Lib.hid (HB.out.short hlt hje h37)
         clear hgp HB hje
         go_wp2_with (fail)
         go_ret
         exact ⟨by rw [HV.out];rfl,HW.out⟩
       · have hjt:((j':Int)==(s.length:Int))=false:=by rw [beq_eq_false_iff_ne];omega
         have hjs:j' <s.length:=by omega
         have hss:j' <S.size:=by omega
         have hgs:=HGS.out j' hss
         have hjw:IntKind.i64.wrap ((j':Int)+1)=((j'+1:Nat):Int):=by rw [IntWalk.i64_in _ (by omega)];omega
         have HC:=Lib.hid (fun wx=>stands_any (P[i']'hls) (S[j']'hss) wx)
         obtain ⟨q,hq⟩:∃ q,stB (P[i']'hls) (S[j']'hss)=q:=⟨_,rfl⟩
         rw [hq] at HC
         rw [hgp,hgs] at hq
         cases q with
         |true=>
          have HX:=Lib.hid (HB.out.chr hlt hjs h37 (stB_yes hq))
          clear hgp hgs HB hje hq
          go_wp2_with (fail)
          go_quiet ((go_at_call 135;exact Calls.quiet_of_same (P:=Tryz.prog) (HC.out _)))
          go_wp2_with (fail)
          exact ⟨⟨i'+1,j'+1,by go_num,by go_num,HX,Lib.hid (drewN17 HW.out _)⟩,by simp [intOf];omega⟩
         |false=>
          have HX:=Lib.hid (HB.out.turn hlt hjs h37 (stB_no hq))
          clear hgp hgs HB hje hq
          go_wp2_with (fail)
          go_quiet ((go_at_call 135;exact Calls.quiet_of_same (P:=Tryz.prog) (HC.out _)))
          go_wp2_with (fail)
          go_step3
          refine Or.inl ⟨rfl,?_,?_⟩
          · exact ⟨b,f,by omega,by omega,HX,Lib.hid (drewN17 HW.out _),_,_,_,_,_,_,_,_,_,_,_,_,_,_,_,_,_,_,_,_,_,_,_,_,_,_,_,_,_,_,_,_,_,_,_,_,_,_,_,_,_,_,_,rfl⟩
          · show mB p.length s.length b f<mB p.length s.length b f+1
            exact Nat.lt_succ_self _
    · have hie:i'=p.length:=by omega
      have HV:=Lib.hid (HB.out.fin hie)
      have hne:((i':Int)==(p.length:Int))=true:=by rw [beq_iff_eq];omega
      have hji:¬(i':Int)<(p.length:Int):=by omega
      clear HB hie
      go_wp2_with (fail)
      go_ret
      exact ⟨by rw [HV.out];rfl,HW.out⟩
 · intro hn
   go_wp2_with (fail)
   go_step3
   rename_i hK
   refine hK _ _ (hn _ _ ?_)
   exact ⟨0,0,0,0,H0,Lib.hid (Below.refl _ _),_,_,_,_,_,_,_,_,_,_,_,_,_,_,_,_,_,_,_,_,_,_,_,_,_,_,_,_,_,_,_,_,_,_,_,_,_,_,_,_,_,rfl⟩
end Go.Proofs.YthcompcjphaahaaGreatDoor.Li
