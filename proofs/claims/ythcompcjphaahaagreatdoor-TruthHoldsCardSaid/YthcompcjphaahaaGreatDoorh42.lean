/- The reference of chapter 17: Lead, Least. -/
import Derived.Deep.DeepCutAuto
import Derived.BigQuiet
import Derived.Deep.QuietTactic
import Derived.OwnWalk
import Derived.BigRegion
import Derived.Laws.OwnMore
import Derived.Test.YthcompcjphaahaaGreatDoorh03
import Derived.Test.YthcompcjphaahaaGreatDoorh41
set_option maxRecDepth 100000
set_option maxHeartbeats 8000000
set_option linter.unusedVariables false
set_option linter.unusedSimpArgs false
namespace Go.Proofs.YthcompcjphaahaaGreatDoor.Li
open Go.RowKit
def bt (l:List UInt8):ByteArray:=⟨l.toArray⟩
theorem zc (l:List UInt8):(bt l).size=l.length:=by simp [bt,ByteArray.size]
theorem jbj (l:List UInt8) (i:Nat) (h:i<(bt l).size):(bt l)[i]'h=l.getD i 0:=by
 have h2:i<l.length:=by rw [zc] at h;exact h
 show (bt l).data[i]'h= _
 simp [bt,List.getD_eq_getElem?_getD,List.getElem?_eq_getElem h2]
theorem jdo (l:List UInt8) (i j:Nat):(bt l).extract i j=bt ((l.take j).drop i):=by
 apply ByteArray.ext
 rw [ByteArray.data_extract];simp [bt,List.drop_take]
theorem jvt (l:List UInt8) (j:Nat) (hj:j≤l.length) (wx:World):(Instr.slice 9 (.string (bt l)) (some (.int .i64 (j:Nat))) none none).run Tryz.prog wx=.ok (.string (bt (l.drop j))) wx:=by
 have h:=run_slice_string_l (P:=Tryz.prog) wx 9 (bt l) Tryz.underlying9 .i64 (j:Nat) (by omega) (by rw [zc];omega);rw [h]
 show Result.ok (Value.string ((bt l).extract j (bt l).size)) wx= _
 rw [jdo,zc,List.take_length]
theorem jt7 (l:List UInt8) (j:Nat) (hj:j≤l.length) (wx:World):(Instr.slice 9 (.string (bt l)) none (some (.int .i64 (j:Nat))) none).run Tryz.prog wx=.ok (.string (bt (l.take j))) wx:=by
 have h:=run_slice_string_h (P:=Tryz.prog) wx 9 (bt l) Tryz.underlying9 .i64 (j:Nat) (by omega) (by rw [zc];omega);rw [h]
 show Result.ok (Value.string ((bt l).extract 0 j)) wx= _
 rw [jdo,List.drop_zero]
theorem jac (c:UInt8) (n:Nat) (hn:n<256):(((c.toNat:Nat):Int)==(n:Int))=(c==UInt8.ofNat n):=by
 rw [Bool.eq_iff_iff,beq_iff_eq,beq_iff_eq]
 constructor
 · intro h
   apply UInt8.toNat_inj.1
   rw [UInt8.toNat_ofNat_of_lt' hn];omega
 · intro h;rw [h,UInt8.toNat_ofNat_of_lt' hn]
def stB (a b:UInt8):Bool:=a==95||a==b
theorem jsm {a b:UInt8} (h:stB a b=true):a=95∨a=b:=by unfold stB at h;rwa [Bool.or_eq_true,beq_iff_eq,beq_iff_eq] at h
theorem juk {a b:UInt8} (h:stB a b=false):a≠95∧a≠b:=by
 unfold stB at h;rw [Bool.or_eq_false_iff] at h;exact ⟨beq_eq_false_iff_ne.1 h.1,beq_eq_false_iff_ne.1 h.2⟩
theorem Yr {B:Nat} {w w1:World} (h:Below B w w1):∀ m,Below B w (w1.drewN m)
 |0=>h
 |m+1=>(Yr h m).drew
theorem jsh (a b:UInt8):(((a.toNat:Nat):Int)==((b.toNat:Nat):Int))=(a==b):=by
 rw [Bool.eq_iff_iff,beq_iff_eq,beq_iff_eq]
 constructor
 · intro h;apply UInt8.toNat_inj.1;omega
 · intro h;rw [h]
theorem Z5 (a b:UInt8) (w:World):Calls Tryz.prog 135 #[.int .u8 ((a.toNat:Nat):Int),.int .u8 ((b.toNat:Nat):Int)] w fun e w'=>e=.returned (.bool (stB a b))∧w'=w:=by
 have t95:=jac a 95 (by decide);have tab:=jsh a b;have t95:(((a.toNat:Nat):Int)==95)=(a==95):=t95;have HS:stB a b=(a==95||a==b):=rfl;rw [HS];generalize (a==95)=q1 at *;generalize (a==b)=q2 at *;generalize ((a.toNat:Nat):Int)=x at *;generalize ((b.toNat:Nat):Int)=y at *
 cases q1 with
 |true=>
  go_enter Tryz.func135,Tryz.ntmps135;go_wp2_with (fail);go_ret;exact ⟨rfl,rfl⟩
 |false=>
  go_enter Tryz.func135,Tryz.ntmps135;go_wp2_with (fail);go_ret;exact ⟨rfl,rfl⟩
def AtNext (p s:List UInt8) (P S:ByteArray) (V:Bool) (w0:World) (a:Act) (w:World):Prop:=
 ∃ b f i j:Nat,Hid (BSrch p s V b f i j)∧Hid (Below w0.heap.size w0 w)∧∃ (u4 u9 u10 u11 u12 u13 u14 u15 u16 u17 u18 u19 u20 u21 u22 u23 u24 u25 u26 u27 u28 u29 u30 u31 u32 u33 u34 u35 u36 u37 u38 u39 u40 u41 u42 u43 u44 u45 u46 u47 u48:Value),a={ tmps:=#[.string P,.string S,undef,undef,u4,.int .i64 ((i:Nat):Int),.int .i64 ((j:Nat):Int),.int .i64 ((b:Nat):Int),.int .i64 ((f:Nat):Int),u9,u10,u11,u12,u13,u14,u15,u16,u17,u18,u19,u20,u21,u22,u23,u24,u25,u26,u27,u28,u29,u30,u31,u32,u33,u34,u35,u36,u37,u38,u39,u40,u41,u42,u43,u44,u45,u46,u47,u48],defers:=[] }
def AtBack (p s:List UInt8) (P S:ByteArray) (V:Bool) (w0:World) (a:Act) (w:World):Prop:=
 ∃ b f:Nat,b≤p.length∧f<s.length∧Hid ((b=0∧V=false)∨(0<b∧BSrch p s V b (f+1) b (f+1)))∧Hid (Below w0.heap.size w0 w)∧∃ (u4 u5 u6 u9 u10 u11 u12 u13 u14 u15 u16 u17 u18 u19 u20 u21 u22 u23 u24 u25 u26 u27 u28 u29 u30 u31 u32 u33 u34 u35 u36 u37 u38 u39 u40 u41 u42 u43 u44 u45 u46 u47 u48:Value),a={ tmps:=#[.string P,.string S,undef,undef,u4,u5,u6,.int .i64 ((b:Nat):Int),.int .i64 ((f:Nat):Int),u9,u10,u11,u12,u13,u14,u15,u16,u17,u18,u19,u20,u21,u22,u23,u24,u25,u26,u27,u28,u29,u30,u31,u32,u33,u34,u35,u36,u37,u38,u39,u40,u41,u42,u43,u44,u45,u46,u47,u48],defers:=[] }
def mAt (P S:Nat) (a:Act):Nat:=mB P S (intOf (a.tmps.getD 7 undef)).toNat (intOf (a.tmps.getD 8 undef)).toNat
theorem jkm (p s:List UInt8) (hp:p.length≤1000000) (hs:s.length≤1000000) (w:World):Calls Tryz.prog 136 #[.string (bt p),.string (bt s)] w fun e w'=>e=.returned (.bool (likeL (p++[37]) s))∧Below w.heap.size w w':=by
 have hpz:(bt p).size=p.length:=zc p;have hsz:(bt s).size=s.length:=zc s;have HGP:=lh (jbj p);have HGS:=lh (jbj s);have H0:=lh (BSrch.start p s);have HST:=lh Z5;obtain ⟨P,hP⟩:∃ P,bt p=P:=⟨_,rfl⟩;obtain ⟨S,hS⟩:∃ S,bt s=S:=⟨_,rfl⟩;obtain ⟨V,hV⟩:∃ V,likeL (p++[37]) s=V:=⟨_,rfl⟩;rw [hP] at hpz HGP ⊢;rw [hS] at hsz HGS ⊢;rw [hV] at H0 ⊢
 have hmp:P.size≤maxLen:=by show P.size≤9223372036854775807;omega
 have hms:S.size≤maxLen:=by show S.size≤9223372036854775807;omega
 clear hP hS hV;go_enter Tryz.func136,Tryz.ntmps136;go_wp2_with (fail);refine jg4 0 1 (AtBack p s P S V w) (AtNext p s P S V w) (fun a _=>mAt p.length s.length a) (fun a _=>mAt p.length s.length a+1) rfl rfl ?_ ?_ ?_
 · rintro a wx ⟨b,f,hb,hf,HB,HW,u4,u5,u6,u9,u10,u11,u12,u13,u14,u15,u16,u17,u18,u19,u20,u21,u22,u23,u24,u25,u26,u27,u28,u29,u30,u31,u32,u33,u34,u35,u36,u37,u38,u39,u40,u41,u42,u43,u44,u45,u46,u47,u48,rfl⟩
   rcases HB.out with ⟨rfl,rfl⟩|⟨h0,hx⟩
   · clear HB;go_wp2_with (fail);go_ret;exact ⟨rfl,HW.out⟩
   · have HX:=lh hx
     have hb0:((b:Int)==0)=false:=by rw [beq_eq_false_iff_ne];omega
     have hm:(intOf (.int .i64 ((b:Nat):Int))).toNat=b∧(intOf (.int .i64 ((f:Nat):Int))).toNat=f∧(intOf (.int .i64 (((f+1:Nat)):Int))).toNat=f+1:=by simp [intOf]
     have HM:=lh hm
     have hfw:IntKind.i64.wrap ((f:Int)+1)=((f+1:Nat):Int):=by rw [IntWalk.i64_in _ (by omega)];omega
     clear hx HB hm;go_wp2_with (fail)
     go_step3
     refine Or.inr ⟨rfl,?_,?_⟩
     · exact ⟨b,f+1,b,f+1,HX,HW,_,_,_,_,_,_,_,_,_,_,_,_,_,_,_,_,_,_,_,_,_,_,_,_,_,_,_,_,_,_,_,_,_,_,_,_,_,_,_,_,_,rfl⟩
     · show mB p.length s.length b (f+1)+1<mB p.length s.length b f
       exact jsn hf
 · rintro a wx ⟨b,f,i,j,HB,HW,u4,u9,u10,u11,u12,u13,u14,u15,u16,u17,u18,u19,u20,u21,u22,u23,u24,u25,u26,u27,u28,u29,u30,u31,u32,u33,u34,u35,u36,u37,u38,u39,u40,u41,u42,u43,u44,u45,u46,u47,u48,rfl⟩;have hbi:=HB.out.hb;have hil:=HB.out.hi;have hfj:=HB.out.hf;have hjl:=HB.out.hj;go_wp2_with (fail)
   go_loopw [5,6] (fun v5 v6 wr=>∃ (i' j':Nat),v5=.int .i64 ((i':Nat):Int)∧v6=.int .i64 ((j':Nat):Int)∧Hid (BSrch p s V b f i' j')∧Hid (Below w.heap.size w wr)) (fun v5 _ _=>p.length - (intOf v5).toNat)
   case atStart=>exact ⟨i,j,rfl,rfl,HB,HW⟩
   case round=>
    clear HB HW hbi hil hfj hjl;obtain ⟨i',j',rfl,rfl,HB,HW⟩:=hrel;have hbi:=HB.out.hb;have hil:=HB.out.hi;have hfj:=HB.out.hf;have hjl:=HB.out.hj
    by_cases hlt:i' <p.length
    · have hls:i' <P.size:=by omega
      have hji:(i':Int)<(p.length:Int):=by omega
      have hgp:=HGP.out i' hls;have t37:=jac (p.getD i' 0) 37 (by decide);obtain ⟨q37,h37⟩:∃ q,(p.getD i' 0==UInt8.ofNat 37)=q:=⟨_,rfl⟩;rw [h37,←hgp] at t37;have t37:((((P[i']'hls).toNat:Nat):Int)==37)=q37:=t37
      have t37n:((((P[i']'hls).toNat:Nat):Int) !=37)=!q37:=by rw [bne,t37]
      have hne:((i':Int)==(p.length:Int))=false:=by rw [beq_eq_false_iff_ne];omega
      have hiw:IntKind.i64.wrap ((i':Int)+1)=((i'+1:Nat):Int):=by rw [IntWalk.i64_in _ (by omega)];omega
      cases q37 with
      |true=>
       have HX:=lh (HB.out.star hlt (eq_of_beq h37));have hmb:=jsz (P:=p.length) (S:=s.length) (b:=b) (f:=f) (b':=i'+1) (f':=j') (by omega) (by omega);clear hgp h37 HB;go_wp2_with (fail)
       go_step3
       refine Or.inr ⟨rfl,?_,?_⟩
       · exact ⟨i'+1,j',i'+1,j',HX,HW,_,_,_,_,_,_,_,_,_,_,_,_,_,_,_,_,_,_,_,_,_,_,_,_,_,_,_,_,_,_,_,_,_,_,_,_,_,_,_,_,_,rfl⟩
       · show mB p.length s.length (i'+1) j'+1<mB p.length s.length b f+1
         exact Nat.succ_lt_succ hmb
      |false=>
       have h37:p.getD i' 0≠37:=fun e=>by rw [e] at h37;exact absurd h37 (by decide)
       by_cases hje:j'=s.length
       · have hjt:((j':Int)==(s.length:Int))=true:=by rw [beq_iff_eq];omega
         have HV:=lh (HB.out.short hlt hje h37);clear hgp HB hje;go_wp2_with (fail);go_ret;exact ⟨by rw [HV.out];rfl,HW.out⟩
       · have hjt:((j':Int)==(s.length:Int))=false:=by rw [beq_eq_false_iff_ne];omega
         have hjs:j' <s.length:=by omega
         have hss:j' <S.size:=by omega
         have hgs:=HGS.out j' hss
         have hjw:IntKind.i64.wrap ((j':Int)+1)=((j'+1:Nat):Int):=by rw [IntWalk.i64_in _ (by omega)];omega
         have HC:=lh (fun wx=>Z5 (P[i']'hls) (S[j']'hss) wx);obtain ⟨q,hq⟩:∃ q,stB (P[i']'hls) (S[j']'hss)=q:=⟨_,rfl⟩;rw [hq] at HC;rw [hgp,hgs] at hq
         cases q with
         |true=>
          have HX:=lh (HB.out.chr hlt hjs h37 (jsm hq));clear hgp hgs HB hje hq;go_wp2_with (fail)
          go_quiet ((go_at_call 135;exact Calls.quiet_of_same (P:=Tryz.prog) (HC.out _)))
          go_wp2_with (fail);exact ⟨⟨i'+1,j'+1,by go_num,by go_num,HX,lh (Yr HW.out _)⟩,by simp [intOf];omega⟩
         |false=>
          have HX:=lh (HB.out.turn hlt hjs h37 (juk hq));clear hgp hgs HB hje hq;go_wp2_with (fail)
          go_quiet ((go_at_call 135;exact Calls.quiet_of_same (P:=Tryz.prog) (HC.out _)))
          go_wp2_with (fail)
          go_step3
          refine Or.inl ⟨rfl,?_,?_⟩
          · exact ⟨b,f,by omega,by omega,HX,lh (Yr HW.out _),_,_,_,_,_,_,_,_,_,_,_,_,_,_,_,_,_,_,_,_,_,_,_,_,_,_,_,_,_,_,_,_,_,_,_,_,_,_,_,_,_,_,_,rfl⟩
          · show mB p.length s.length b f<mB p.length s.length b f+1
            exact Nat.lt_succ_self _
    · have hie:i'=p.length:=by omega
      have HV:=lh (HB.out.fin hie)
      have hne:((i':Int)==(p.length:Int))=true:=by rw [beq_iff_eq];omega
      have hji:¬(i':Int)<(p.length:Int):=by omega
      clear HB hie;go_wp2_with (fail);go_ret;exact ⟨by rw [HV.out];rfl,HW.out⟩
 · intro hn;go_wp2_with (fail)
   go_step3
   rename_i hK;refine hK _ _ (hn _ _ ?_);exact ⟨0,0,0,0,H0,lh (Below.refl _ _),_,_,_,_,_,_,_,_,_,_,_,_,_,_,_,_,_,_,_,_,_,_,_,_,_,_,_,_,_,_,_,_,_,_,_,_,_,_,_,_,_,rfl⟩
theorem jm1:(Tryz.prog.info? 4).map (fun i=>(i.zero,i.size,i.bytes))=some (some (.bool false),1,1):=by kernel_rfl
def BRow (base:Nat) (w:World) (g n:Nat) (l:List Bool):Prop:=w.ownsRow base 4 1 (.slice (some ⟨g,0,none⟩) n n) n (l.map Value.bool)
theorem BRow.cell {base g n:Nat} {w:World} {l:List Bool} (h:BRow base w g n l) (j:Nat) (hj:j<n):w.cell? ⟨g,j,none⟩=some (.bool (l.getD j false)):=by
 have hl:l.length=n:=by have:=h.1;simpa using this
 have hc:=World.ownsRow.cellAt h j (by omega);rw [hc,List.getElem?_map,List.getElem?_eq_getElem (by omega),List.getD_eq_getElem?_getD,List.getElem?_eq_getElem (by omega)]
 rfl
theorem BRow.put {base g n:Nat} {w:World} {l:List Bool} (h:BRow base w g n l) (j:Nat) (b:Bool):BRow base (w.setCell ⟨g,j,none⟩ (.bool b)) g n (l.set j b):=by
 have:=(World.ownsRow.stored h j (.bool b)).1
 unfold BRow;rw [List.map_set];exact this
theorem BRow.other {base g g2 n:Nat} {w:World} {l l2:List Bool} (h:BRow base w g n l) (h2:BRow base w g2 n l2) (hne:g≠g2) (j:Nat) (b:Bool):BRow base (w.setCell ⟨g2,j,none⟩ (.bool b)) g n l:=
 World.ownsRow.kept h (World.ownsRow.stored h2 j (.bool b)).2 (.inr (by simp [Value.ownBlock];exact hne))
theorem BRow.lt {base g n:Nat} {w:World} {l:List Bool} (h:BRow base w g n l):base≤g∧g<w.heap.size:=World.ownsRow.lt h g rfl
theorem jim {base n:Nat} {w w1:World} (h:w1.ownsRow base 4 1 (.slice (some ⟨w.heap.size,0,none⟩) n n) n (madeCells #[Value.bool false] n).toList):BRow base w1 w.heap.size n (List.replicate n false):=by
 unfold BRow;have e:(madeCells #[Value.bool false] n).toList=List.replicate n (.bool false):=toList_madeCells_one _ _;rw [List.map_replicate,←e];exact h
def RMatTo (p s:List UInt8) (w:World):Prop:=Calls Tryz.prog 29 #[.string (bt p),.string (bt s)] w fun e w'=>e=.returned (.bool (likeL p s))∧Below w.heap.size w w'
theorem refMatch_any (p s:List UInt8) (hp:p.length≤1000000) (hs:s.length≤1000000) (w:World):RMatTo p s w:=by
 unfold RMatTo;obtain ⟨i0,hi,hz0,hz1,hz2⟩:=info_parts jm1;have hpz:(bt p).size=p.length:=zc p;have hsz:(bt s).size=s.length:=zc s;have HGP:=lh (jbj p);have HGS:=lh (jbj s);obtain ⟨n,hn⟩:∃ n,s.length+1=n:=⟨_,rfl⟩;have HF:=lh (show (List.replicate n false).set 0 true=rowL p s 0 by rw [←hn];exact jn7 p s);have HTZ:=lh (fun i=>show List.replicate n false=rowT p s i 0 by rw [←hn];exact (jo6 p s i).symm);have HTF:=lh (fun i=>show rowT p s i n=rowL p s i by rw [←hn];exact jop p s i);obtain ⟨P,hP⟩:∃ P,bt p=P:=⟨_,rfl⟩;obtain ⟨S,hS⟩:∃ S,bt s=S:=⟨_,rfl⟩;rw [hP] at hpz HGP ⊢;rw [hS] at hsz HGS ⊢
 have hn1:n≤1000001:=by omega
 have hwn:IntKind.i64.wrap ((s.length:Int)+1)=(n:Int):=by rw [IntWalk.i64_in _ (by omega)];omega
 have hmp:P.size≤maxLen:=by show P.size≤9223372036854775807;omega
 have hms:S.size≤maxLen:=by show S.size≤9223372036854775807;omega
 have hn0:0<n:=by omega
 have hn0i:(0:Int)<(n:Int):=by omega
 have HNN:=lh hn;clear hP hS hn;go_enter Tryz.func29,Tryz.ntmps29;go_wp2_with (refine wpList_make_full _ rfl (.tmp 11) (.tmp 11) 77 rfl w.heap.size 4 i0 (.bool false) 1 Tryz.underlying77 hi hz0 hz1 .i64 .i64 _ _ n rfl rfl (by first|rfl|omega) (by first|rfl|omega) (by rw [hz2];omega) (by unfold maxLen;omega) (Nat.le_refl _) ?_);intro w1 hown hg;have h1:=jim hown;have hb1:=(Below.refl w.heap.size w).grown hg (Nat.le_refl _) (fun k hk=>by cases hk);have hput:=h1.put 0 true;rw [HF.out] at hput;have c0:=h1.cell 0 hn0;have f0:=World.ownsRow.frozenAt h1 0;have HR0:=lh hput;have HB0:=lh (hb1.setCell (p:=⟨w.heap.size,0,none⟩) (Nat.le_refl _) (.bool true));clear hown hg h1 hb1 hput;go_wp2_with (fail);generalize w1.setCell ⟨w.heap.size,0,none⟩ (.bool true)=w2 at *;clear c0 f0
 go_loopw [5,6,7,8] (fun r i _ _ wr=>∃ (j g:Nat),j≤p.length∧i=.int .i64 j∧r=.slice (some ⟨g,0,none⟩) n n∧Hid (BRow w.heap.size wr g n (rowL p s j))∧Hid (Below w.heap.size w wr)) (fun _ i _ _ _=>p.length - (intOf i).toNat)
 case atStart=>exact ⟨0,w.heap.size,Nat.zero_le _,rfl,rfl,HR0,HB0⟩
 case round=>
  obtain ⟨j,g,hj,rfl,rfl,HR,HBr⟩:=hrel
  by_cases hlt:j<p.length
  · have hji:(j:Int)<(p.length:Int):=by omega
    have hsw:w.heap.size≤wr.heap.size:=HBr.out.size;go_wp2_with (refine wpList_make_full _ rfl (.tmp 23) (.tmp 23) 77 rfl w.heap.size 4 i0 (.bool false) 1 Tryz.underlying77 hi hz0 hz1 .i64 .i64 _ _ n rfl rfl (by first|rfl|omega) (by first|rfl|omega) (by rw [hz2];omega) (by unfold maxLen;omega) (hsw) ?_);intro w3 hown hg;have h3:=jim hown;rw [HTZ.out (j+1)] at h3;have hglt:=HR.out.lt;have HR3:=lh (show BRow w.heap.size w3 g n (rowL p s j) from World.ownsRow.kept HR.out hg (.inr (by simp [Value.ownBlock])));have HN3:=lh h3;have HB3:=lh (HBr.out.grown hg hsw (fun k hk=>by cases hk));obtain ⟨g2,hg2⟩:∃ g2,wr.heap.size=g2:=⟨_,rfl⟩;rw [hg2] at HN3 hglt hsw ⊢
    have hne:g≠g2:=by omega
    clear hown hg h3 HR HBr hg2;go_wp2_with (fail)
    go_loopw [8] (fun kk wx=>∃ (k:Nat),k≤n∧kk=.int .i64 k∧Hid (BRow w.heap.size wx g n (rowL p s j))∧Hid (BRow w.heap.size wx g2 n (rowT p s (j+1) k))∧Hid (Below w.heap.size w wx)) (fun kk _=>n - (intOf kk).toNat)
    case atStart=>exact ⟨0,Nat.zero_le _,rfl,HR3,HN3,HB3⟩
    case round=>
     obtain ⟨k,hk,rfl,HRx,HNx,HBx⟩:=hrel
     by_cases hkn:k<n
     · have hks:k≤s.length:=by have:=HNN.out;omega
       have hksi:(k:Int)≤(s.length:Int):=by omega
       have hV:=jpk (p:=p) (s:=s) hlt hks
       have hjP:j<P.size:=by omega
       have hg:=HGP.out j hjP;have t37:=jac (p.getD j 0) 37 (by decide);have t95:=jac (p.getD j 0) 95 (by decide);obtain ⟨b37,h37⟩:∃ b,(p.getD j 0==UInt8.ofNat 37)=b:=⟨_,rfl⟩;obtain ⟨b95,h95⟩:∃ b,(p.getD j 0==UInt8.ofNat 95)=b:=⟨_,rfl⟩;rw [h37,←hg] at t37;rw [h95,←hg] at t95;have t37:((((P[j]'hjP).toNat:Nat):Int)==37)=b37:=t37;have t95:((((P[j]'hjP).toNat:Nat):Int)==95)=b95:=t95;have h95:(p.getD j 0==95)=b95:=h95;have fz:=World.ownsRow.frozenAt HNx.out k;have cz:=HNx.out.cell k hkn;obtain ⟨ov,hov⟩:∃ ov,(rowT p s (j+1) k).getD k false=ov:=⟨_,rfl⟩;rw [hov] at cz;clear hov;have HSTO:=lh (fun v (hv:likeL (p.take (j+1)) (s.take k)=v)=>(show BRow w.heap.size (wr.setCell ⟨g2,k,none⟩ (.bool v)) g n (rowL p s j)∧BRow w.heap.size (wr.setCell ⟨g2,k,none⟩ (.bool v)) g2 n (rowT p s (j+1) (k+1))∧Below w.heap.size w (wr.setCell ⟨g2,k,none⟩ (.bool v)) from ⟨HRx.out.other HNx.out hne k v,by rw [←jpx p s (j+1) k hks,hv];exact HNx.out.put k v,HBx.out.setCell (p:=⟨g2,k,none⟩) hsw (.bool v)⟩));have c0:=HRx.out.cell k hkn;rw [Xc p s j k hks] at c0
       cases b37 with
       |true=>
        have e:p.getD j 0=37:=eq_of_beq h37;rw [if_pos e] at hV;clear e hg h37 h95 t95;obtain ⟨a,ha⟩:∃ a,likeL (p.take j) (s.take k)=a:=⟨_,rfl⟩;rw [ha] at c0 hV;clear ha
        cases a with
        |true=>
         rw [Bool.true_or] at hV;have HS:=lh (HSTO.out true hV);clear hV HSTO;go_wp2_with (fail);go_roundw
         case rel=>exact ⟨k+1,by omega,by go_num,(by first|exact lh HS.out.1|exact lh HS.out.1.drew),(by first|exact lh HS.out.2.1|exact lh HS.out.2.1.drew),(by first|exact lh HS.out.2.2|exact lh HS.out.2.2.drew)⟩
         case measure=>simp [intOf];omega
        |false=>
         cases k with
         |zero=>
          have hV:likeL (p.take (j+1)) (s.take 0)=false:=hV;have HS:=lh (HSTO.out false hV);clear hV HSTO;go_wp2_with (fail);go_roundw
          case rel=>exact ⟨0+1,by omega,by go_num,(by first|exact lh HS.out.1|exact lh HS.out.1.drew),(by first|exact lh HS.out.2.1|exact lh HS.out.2.1.drew),(by first|exact lh HS.out.2.2|exact lh HS.out.2.2.drew)⟩
          case measure=>simp [intOf];omega
         |succ m=>
          have c1:=HNx.out.cell m (by omega);rw [jr3 p s (j+1) (m+1) m (by omega),decide_eq_true (Nat.lt_succ_self m),Bool.true_and] at c1;rw [Nat.add_sub_cancel,decide_eq_true (Nat.succ_pos m),Bool.true_and,Bool.false_or] at hV;have hwm:IntKind.i64.wrap (m:Int)=(m:Int):=IntWalk.i64_in _ (by omega)
          have hmn:m<n:=by omega
          have hmni:(m:Int)<(n:Int):=by omega
          obtain ⟨b,hb⟩:∃ b,likeL (p.take (j+1)) (s.take m)=b:=⟨_,rfl⟩;rw [hb] at c1 hV;clear hb
          cases b with
          |true=>
           have HS:=lh (HSTO.out true hV);clear hV HSTO;go_wp2_with (fail);go_roundw
           case rel=>exact ⟨m+1+1,by omega,by go_num,(by first|exact lh HS.out.1|exact lh HS.out.1.drew),(by first|exact lh HS.out.2.1|exact lh HS.out.2.1.drew),(by first|exact lh HS.out.2.2|exact lh HS.out.2.2.drew)⟩
           case measure=>simp [intOf];omega
          |false=>
           have HS:=lh (HSTO.out false hV);clear hV HSTO;go_wp2_with (fail);go_roundw
           case rel=>exact ⟨m+1+1,by omega,by go_num,(by first|exact lh HS.out.1|exact lh HS.out.1.drew),(by first|exact lh HS.out.2.1|exact lh HS.out.2.1.drew),(by first|exact lh HS.out.2.2|exact lh HS.out.2.2.drew)⟩
           case measure=>simp [intOf];omega
       |false=>
        have e:¬p.getD j 0=37:=fun e=>by rw [e] at h37;exact absurd h37 (by decide)
        rw [if_neg e] at hV;clear e c0 h37
        cases k with
        |zero=>
         have hV:likeL (p.take (j+1)) (s.take 0)=false:=hV;have HN2:=lh (show BRow w.heap.size wr g2 n (rowT p s (j+1) (0+1)) by rw [←jnx p s (j+1) 0 (Nat.zero_le _) hV];exact HNx.out);clear hV HSTO hg h95;go_wp2_with (fail);go_roundw
         case rel=>exact ⟨0+1,by omega,by go_num,HRx,HN2,HBx⟩
         case measure=>simp [intOf];omega
        |succ m=>
         have c1:=HRx.out.cell m (by omega);rw [Xc p s j m (by omega)] at c1;rw [Nat.add_sub_cancel,decide_eq_true (Nat.succ_pos m),Bool.true_and,h95] at hV;have hwm:IntKind.i64.wrap (m:Int)=(m:Int):=IntWalk.i64_in _ (by omega)
         have hmn:m<n:=by omega
         have hmni:(m:Int)<(n:Int):=by omega
         have hmS:m<S.size:=by omega
         have hgs:=HGS.out m hmS;rw [←hg,←hgs] at hV;obtain ⟨a,ha⟩:∃ a,likeL (p.take j) (s.take m)=a:=⟨_,rfl⟩;rw [ha] at c1 hV;clear ha hg h95 hgs
         cases a with
         |false=>
          rw [Bool.false_and] at hV;have HS:=lh (HSTO.out false hV);clear hV HSTO;go_wp2_with (fail)
          go_region
          all_goals go_wp2_with (fail)
          all_goals go_roundw
          case rel=>exact ⟨m+1+1,by omega,by go_num,(by first|exact lh HS.out.1|exact lh HS.out.1.drew),(by first|exact lh HS.out.2.1|exact lh HS.out.2.1.drew),(by first|exact lh HS.out.2.2|exact lh HS.out.2.2.drew)⟩
          case measure=>simp [intOf];omega
         |true=>
          rw [Bool.true_and] at hV
          cases b95 with
          |true=>
           rw [Bool.true_or] at hV;have HS:=lh (HSTO.out true hV);clear hV HSTO;go_wp2_with (fail)
           go_region
           all_goals go_wp2_with (fail)
           all_goals go_roundw
           case rel=>exact ⟨m+1+1,by omega,by go_num,(by first|exact lh HS.out.1|exact lh HS.out.1.drew),(by first|exact lh HS.out.2.1|exact lh HS.out.2.1.drew),(by first|exact lh HS.out.2.2|exact lh HS.out.2.2.drew)⟩
           case measure=>simp [intOf];omega
          |false=>
           rw [Bool.false_or] at hV
           have tb:((((P[j]'hjP).toNat:Nat):Int)==(((S[m]'hmS).toNat:Nat):Int))=(P[j]'hjP==S[m]'hmS):=by
            rw [Bool.eq_iff_iff,beq_iff_eq,beq_iff_eq]
            constructor
            · intro h;exact UInt8.toNat_inj.1 (by omega)
            · intro h;rw [h]
           obtain ⟨b,hb⟩:∃ b,(P[j]'hjP==S[m]'hmS)=b:=⟨_,rfl⟩;rw [hb] at tb hV;clear hb;obtain ⟨pb,hpb⟩:∃ pb,(P[j]'hjP).toNat=pb:=⟨_,rfl⟩;obtain ⟨sb,hsb⟩:∃ sb,(S[m]'hmS).toNat=sb:=⟨_,rfl⟩;rw [hpb] at t37 t95 tb;rw [hsb] at tb
           have tbn:(pb==sb)=b:=by rw [←tb,Bool.eq_iff_iff,beq_iff_eq,beq_iff_eq];omega
           have tbd:decide (pb=sb)=b:=by rw [←tbn,Bool.eq_iff_iff,beq_iff_eq,decide_eq_true_eq]
           cases b with
           |true=>
            have HS:=lh (HSTO.out true hV);clear hV HSTO;go_wp2_with (fail)
            go_region
            all_goals go_wp2_with (fail)
            all_goals go_roundw
            case rel=>exact ⟨m+1+1,by omega,by go_num,(by first|exact lh HS.out.1|exact lh HS.out.1.drew),(by first|exact lh HS.out.2.1|exact lh HS.out.2.1.drew),(by first|exact lh HS.out.2.2|exact lh HS.out.2.2.drew)⟩
            case measure=>simp [intOf];omega
           |false=>
            have HS:=lh (HSTO.out false hV);clear hV HSTO;go_wp2_with (fail)
            go_region
            all_goals go_wp2_with (fail)
            all_goals go_roundw
            case rel=>exact ⟨m+1+1,by omega,by go_num,(by first|exact lh HS.out.1|exact lh HS.out.1.drew),(by first|exact lh HS.out.2.1|exact lh HS.out.2.1.drew),(by first|exact lh HS.out.2.2|exact lh HS.out.2.2.drew)⟩
            case measure=>simp [intOf];omega
     · have hni:¬(n:Int)≤(s.length:Int):=by have:=HNN.out;omega
       obtain rfl:k=n:=by omega
       have HRN:=lh (show BRow w.heap.size wr g2 k (rowL p s (j+1)) by rw [←HTF.out (j+1)];exact HNx.out);clear hkn;go_wp2_with (fail);go_roundw
       case rel=>exact ⟨j+1,g2,by omega,by go_num,rfl,HRN,HBx⟩
       case measure=>simp [intOf];omega
  · obtain rfl:j=p.length:=by omega
    have hc:=HR.out.cell s.length (by have:=HNN.out;omega);rw [jpy] at hc
    have hsn:s.length<n:=by have:=HNN.out;omega
    have hsni:(s.length:Int)<(n:Int):=by omega
    clear hlt;go_wp2_with (fail);go_ret;exact ⟨rfl,HBr.out⟩
end Go.Proofs.YthcompcjphaahaaGreatDoor.Li
