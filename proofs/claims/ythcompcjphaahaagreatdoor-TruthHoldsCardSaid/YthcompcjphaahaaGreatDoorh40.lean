/- Chapter 19's reference: Holds. -/
import Derived.Test.YthcompcjphaahaaGreatDoorh39
set_option maxRecDepth 100000
set_option maxHeartbeats 8000000
set_option linter.unusedVariables false
set_option linter.unusedSimpArgs false
namespace Go.Proofs.YthcompcjphaahaaGreatDoor
open Go.RowKit
def cntK (f:Nat→Bool):Nat→Nat|0=>0|n+1=>cntK f n+(if f n then 1 else 0)
theorem jhe (f:Nat→Bool):∀ n,cntK f n≤n
 |0=>Nat.le_refl _
 |n+1=>by
  have:=jhe f n
  rw [cntK]
  split <;> omega
theorem jid (f:Nat→Bool):∀ n,decide (cntK f n=n)=!anyTo (fun i=>!f i) n
 |0=>by simp [cntK,anyTo]
 |n+1=>by
  have h:=jid f n;have hl:=jhe f n;rw [cntK,anyTo]
  cases hf:f n with
  |true=>
   rw [if_pos rfl];simp only [Bool.not_true,Bool.or_false];rw [←h]
   by_cases hc:cntK f n=n
   · rw [decide_eq_true hc,decide_eq_true (by omega)]
   · rw [decide_eq_false hc,decide_eq_false (by omega)]
  |false=>
   rw [if_neg (by decide)];simp only [Bool.not_false,Bool.or_true,Bool.not_true];exact decide_eq_false (by omega)
theorem jh2 (f:Nat→Bool):∀ n,decide (0<cntK f n)=anyTo f n
 |0=>by simp [cntK,anyTo]
 |n+1=>by
  have h:=jh2 f n;rw [cntK,anyTo,←h]
  cases hf:f n with
  |true=>
   rw [if_pos rfl];simp only [Bool.or_true];exact decide_eq_true (by omega)
  |false=>
   rw [if_neg (by decide)];simp
theorem jk5 (D:Opd→Opd→DatV) (al:Option Addr) (len cap:Nat) (t:Int) (S':Nat→Prop) (V:Pa.VT) (op rel:Int) (h4:4≤op) (aa:Option Addr) (an ac:Nat) (ka:Option Addr) (kn kc:Nat) (hkn:kn≤2513169434843) (f:Nat→XT) (w:World)
  (hC:∀ i,i<kn→∀ wx,Below w.heap.size w wx→CellsAt wx S' ka i (xtC (f i))) (hI:∀ i,i<kn→∀ wx,Below w.heap.size w wx→Calls Tryz.prog 11 #[.slice al len cap,.int .i64 t,.agg #[.int .i64 (f i).op,.int .i64 (f i).rel,.slice (f i).aa (f i).an (f i).ac,.slice (f i).ka (f i).kn (f i).kc],.agg #[.int .i64 V.kind,.int .u64 V.num,.string V.text,.slice V.ia V.len V.cap]] wx fun e w'=>e=.returned (.bool (holdB D (f i)))∧Below wx.heap.size wx w'):
  Calls Tryz.prog 11 #[.slice al len cap,.int .i64 t,.agg #[.int .i64 op,.int .i64 rel,.slice aa an ac,.slice ka kn kc],.agg #[.int .i64 V.kind,.int .u64 V.num,.string V.text,.slice V.ia V.len V.cap]] w fun e w'=>e=.returned (.bool (if op=4 then decide (0<kn)&&!holdB D (f 0) else if op=5 then !anyTo (fun i=>!holdB D (f i)) kn else if op=6 then anyTo (fun i=>holdB D (f i)) kn else false))∧Below w.heap.size w w':=by
 obtain ⟨p,hp⟩:∃ p:Nat→Bool,p=fun i=>holdB D (f i):=⟨_,rfl⟩;have HI:=lh (fun i (hi:i<kn) wx (hb:Below w.heap.size w wx)=>(show Calls Tryz.prog 11 #[.slice al len cap,.int .i64 t,.agg #[.int .i64 (f i).op,.int .i64 (f i).rel,.slice (f i).aa (f i).an (f i).ac,.slice (f i).ka (f i).kn (f i).kc],.agg #[.int .i64 V.kind,.int .u64 V.num,.string V.text,.slice V.ia V.len V.cap]] wx (fun e w'=>e=.returned (.bool (p i))∧Below wx.heap.size wx w') from by rw [hp];exact hI i hi wx hb));have HC:=lh hC;obtain ⟨c,hc⟩:∃ c:Nat→Nat,c=cntK p:=⟨_,rfl⟩;have HN:=lh (fun j=>show c (j+1)=c j+(if p j then 1 else 0) by rw [hc];rfl);have HCC:=lh hc;have HL:=lh (jhe p);rw [←hc] at HL;obtain ⟨R,hR⟩:∃ R,(if op=4 then decide (0<kn)&&!holdB D (f 0) else if op=5 then !anyTo (fun i=>!holdB D (f i)) kn else if op=6 then anyTo (fun i=>holdB D (f i)) kn else false)=R:=⟨_,rfl⟩;rw [hR];have HR:=lh (show (if op=4 then decide (0<kn)&&!p 0 else if op=5 then decide (c kn=kn) else if op=6 then decide (0<c kn) else false)=R by rw [←hR,hc,jid,jh2,hp])
 have o1:(op==1)=false:=by rw [beq_eq_false_iff_ne];omega
 have o2:(op==2)=false:=by rw [beq_eq_false_iff_ne];omega
 have o3:(op==3)=false:=by rw [beq_eq_false_iff_ne];omega
 have o4:decide (4≤op)=true:=decide_eq_true h4;obtain ⟨q4,hq4⟩:∃ q,(op==4)=q:=⟨_,rfl⟩;have HQ4:=lh hq4;have HS:=lh (Tst.start w #[.int .i64 op,.int .i64 rel,.slice aa an ac,.slice ka kn kc] #[.int .i64 V.kind,.int .u64 V.num,.string V.text,.slice V.ia V.len V.cap] 26 30);obtain ⟨W0,hW0⟩:∃ W0,(w.alloc (.cells #[.int .i64 op,.int .i64 rel,.slice aa an ac,.slice ka kn kc] 26)).alloc (.cells #[.int .i64 V.kind,.int .u64 V.num,.string V.text,.slice V.ia V.len V.cap] 30)=W0:=⟨_,rfl⟩;rw [hW0] at HS;obtain ⟨x0,x1,x2,x3⟩:=jx HS.out.x;obtain ⟨v0,v1,v2,v3⟩:=jx HS.out.v;clear hR hc hp hI hC;go_enter Tryz.func11,Tryz.ntmps11;go_wp2
 go_loopw [12,13] (fun y i wr=>∃ j m:Nat,j≤kn∧i=.int .i64 (j:Nat)∧y=.int .i64 (m:Nat)∧Hid (m=c j)∧m≤j∧Hid (q4=true→0<j→p 0=true)∧Hid (Tst w #[.int .i64 op,.int .i64 rel,.slice aa an ac,.slice ka kn kc] #[.int .i64 V.kind,.int .u64 V.num,.string V.text,.slice V.ia V.len V.cap] 26 30 wr)) (fun _ i _=>kn - (intOf i).toNat)
 case atStart=>exact ⟨0,0,Nat.zero_le _,rfl,rfl,lh (by rw [HCC.out];rfl),Nat.le_refl _,lh (fun _ h=>absurd h (Nat.lt_irrefl _)),HS⟩
 case round=>
  obtain ⟨j,m,hj,rfl,rfl,HM,hm,HZ,HS⟩:=hrel;clear x0 x1 x2 x3 v0 v1 v2 v3;obtain ⟨x0,x1,x2,x3⟩:=jx HS.out.x;obtain ⟨v0,v1,v2,v3⟩:=jx HS.out.v
  by_cases hlt:j<kn
  · obtain ⟨kb,ko,hka,_,hbl,hla⟩:=HC.out j hlt wr HS.out.bel;have z0:wr.cell? ⟨kb,ko+j*4,none⟩=some (.int .i64 (f j).op):=hla 0 _ rfl;have z1:wr.cell? ⟨kb,ko+j*4+1,none⟩=some (.int .i64 (f j).rel):=hla 1 _ rfl;have z2:wr.cell? ⟨kb,ko+j*4+2,none⟩=some (.slice (f j).aa (f j).an (f j).ac):=hla 2 _ rfl;have z3:wr.cell? ⟨kb,ko+j*4+3,none⟩=some (.slice (f j).ka (f j).kn (f j).kc):=hla 3 _ rfl
    have hlti:(j:Int)<(kn:Int):=by omega
    have HX:=lh (HI.out j hlt);clear hla;subst hka
    cases hq:p j with
    |true=>
     rw [hq] at HX;have HN1:=lh (show c (j+1)=m+1 by rw [HN.out j,hq,←HM.out];rfl)
     have HZ1:=lh (show q4=true→0<j+1→p 0=true from fun h _=>by
      rcases Nat.eq_zero_or_pos j with rfl|h0
      · exact hq
      · exact HZ.out h h0)
     clear hq
     go_upto_region 14 with (fail)
     go_still_tail 8,(by kernel_rfl)
     change wpList _ _ _ _ _ wr.drew;have HBD:=lh (HS.out.next (Below.refl _ _).drew);generalize wr.drew=wd at *;go_wp2_with (go_at_call 11;(with_reducible refine (HX.out _ (by exact HBD.out.bel)).mono ?_);rintro e w2 ⟨rfl,hb⟩;have HS2:=lh (HBD.out.next hb);clear hb);go_roundw
     case rel=>exact ⟨j+1,m+1,by omega,by go_num,by go_num,lh HN1.out.symm,by omega,HZ1,HS2⟩
     case measure=>simp [intOf];omega
    |false=>
     rw [hq] at HX;have HN1:=lh (show c (j+1)=m by rw [HN.out j,hq,←HM.out];rfl)
     by_cases h0:q4=true∧j=0
     · have HT:=lh (show R=true by
        obtain ⟨h1,rfl⟩:=h0
        have h44:op=4:=by rw [←beq_iff_eq (a:=op) (b:=4),HQ4.out];exact h1
        rw [←HR.out,if_pos h44,decide_eq_true (by omega),hq];rfl)
       have hq4t:(op==4)=true:=by rw [HQ4.out];exact h0.1
       have hj0:((j:Int)==0)=true:=by rw [beq_iff_eq];omega
       clear hq h0 hq4
       go_upto_region 14 with (fail)
       go_still_tail 8,(by kernel_rfl)
       change wpList _ _ _ _ _ wr.drew;have HBD:=lh (HS.out.next (Below.refl _ _).drew);generalize wr.drew=wd at *;go_wp2_with (go_at_call 11;(with_reducible refine (HX.out _ (by exact HBD.out.bel)).mono ?_);rintro e w2 ⟨rfl,hb⟩;have HS2:=lh (HBD.out.next hb);clear x0 x1 x2 x3 v0 v1 v2 v3;obtain ⟨x0,x1,x2,x3⟩:=jx HS2.out.x;obtain ⟨v0,v1,v2,v3⟩:=jx HS2.out.v;clear hb);go_ret;exact ⟨yi HT.out.symm,HS2.out.bel⟩
     · have HZ1:=lh (show q4=true→0<j+1→p 0=true from fun h _=>by
        rcases Nat.eq_zero_or_pos j with rfl|hp0
        · exact absurd ⟨h,rfl⟩ h0
        · exact HZ.out h hp0)
       have hg:(op==4)=false∨((op==4)=true∧((j:Int)==0)=false):=by
        cases h5:q4 with
        |false=>exact .inl (by rw [HQ4.out,h5])
        |true=>exact .inr ⟨by rw [HQ4.out,h5],by rw [beq_eq_false_iff_ne];exact fun h=>h0 ⟨h5,by omega⟩⟩
       clear hq h0 hq4
       rcases hg with g4|⟨g4,gj⟩
       all_goals
        go_upto_region 14 with (fail)
        go_still_tail 8,(by kernel_rfl)
        change wpList _ _ _ _ _ wr.drew;have HBD:=lh (HS.out.next (Below.refl _ _).drew);generalize wr.drew=wd at *;go_wp2_with (go_at_call 11;(with_reducible refine (HX.out _ (by exact HBD.out.bel)).mono ?_);rintro e w2 ⟨rfl,hb⟩;have HS2:=lh (HBD.out.next hb);clear x0 x1 x2 x3 v0 v1 v2 v3;obtain ⟨x0,x1,x2,x3⟩:=jx HS2.out.x;obtain ⟨v0,v1,v2,v3⟩:=jx HS2.out.v;clear hb);go_roundw
        case rel=>exact ⟨j+1,m,by omega,by go_num,rfl,lh HN1.out.symm,by omega,HZ1,HS2⟩
        case measure=>simp [intOf];omega
  · obtain rfl:j=kn:=by omega
    have hnl:¬(j:Int)<(j:Int):=by omega
    have hm2:=HM.out
    by_cases h5:op=5
    · have g5:(op==5)=true:=by rw [beq_iff_eq];exact h5
      have g6:(op==6)=false:=by rw [beq_eq_false_iff_ne];omega
      have HT:=lh (show decide (m=j)=R by rw [←HR.out,if_neg (by omega),if_pos h5,hm2]);clear h5 hm2 hq4
      by_cases hmj:m=j
      · have e:((m:Int)==(j:Int))=true:=by rw [beq_iff_eq];omega
        have HTT:=lh (show R=true by rw [←HT.out];exact decide_eq_true hmj);clear hmj;go_wp2;go_ret;exact ⟨yi HTT.out.symm,HS.out.bel⟩
      · have e:((m:Int)==(j:Int))=false:=by rw [beq_eq_false_iff_ne];omega
        have HTT:=lh (show R=false by rw [←HT.out];exact decide_eq_false hmj);clear hmj;go_wp2;go_ret;exact ⟨yi HTT.out.symm,HS.out.bel⟩
    · have g5:(op==5)=false:=by rw [beq_eq_false_iff_ne];exact h5
      by_cases h6:op=6
      · have g6:(op==6)=true:=by rw [beq_iff_eq];exact h6
        have HT:=lh (show decide (0<m)=R by rw [←HR.out,if_neg (by omega),if_neg h5,if_pos h6,hm2]);clear h5 h6 hm2 hq4
        by_cases hmj:0<m
        · have e:decide ((0:Int)<(m:Int))=true:=decide_eq_true (by omega);have HTT:=lh (show R=true by rw [←HT.out];exact decide_eq_true hmj);go_wp2;go_ret;exact ⟨yi HTT.out.symm,HS.out.bel⟩
        · have e:decide ((0:Int)<(m:Int))=false:=decide_eq_false (by omega);have HTT:=lh (show R=false by rw [←HT.out];exact decide_eq_false hmj);go_wp2;go_ret;exact ⟨yi HTT.out.symm,HS.out.bel⟩
      · have g6:(op==6)=false:=by rw [beq_eq_false_iff_ne];exact h6
        have HTT:=lh (show R=false by
         rw [←HR.out]
         by_cases h44:op=4
         · rw [if_pos h44]
           by_cases h0:0<j
           · rw [HZ.out (by rw [←HQ4.out,beq_iff_eq];exact h44) h0];simp
           · rw [decide_eq_false h0];rfl
         · rw [if_neg h44,if_neg h5,if_neg h6])
        clear h5 h6 hm2 hq4;go_wp2;go_ret;exact ⟨yi HTT.out.symm,HS.out.bel⟩
theorem jcl (al:Option Addr) (len cap:Nat) (t:Int) (V:Pa.VT) (op rel:Int) (h4:op<4) (aa:Option Addr) (an ac:Nat) (ka:Option Addr) (kn kc:Nat) (w:World)
  (hq:((op==1)=true∧((an:Int)==2)=false∧(op==2)=false∧(op==3)=false)∨((op==1)=false∧(op==2)=true∧((an:Int)==3)=false∧(op==3)=false)∨((op==1)=false∧(op==2)=false∧(op==3)=true∧((an:Int)==2)=false)∨((op==1)=false∧(op==2)=false∧(op==3)=false)):
  Calls Tryz.prog 11 #[.slice al len cap,.int .i64 t,.agg #[.int .i64 op,.int .i64 rel,.slice aa an ac,.slice ka kn kc],.agg #[.int .i64 V.kind,.int .u64 V.num,.string V.text,.slice V.ia V.len V.cap]] w fun e w'=>e=.returned (.bool false)∧Below w.heap.size w w':=by
 have o4:decide (4≤op)=false:=decide_eq_false (by omega)
 have o5:(op==5)=false:=by rw [beq_eq_false_iff_ne];omega
 have o6:(op==6)=false:=by rw [beq_eq_false_iff_ne];omega
 have HS:=lh (Tst.start w #[.int .i64 op,.int .i64 rel,.slice aa an ac,.slice ka kn kc] #[.int .i64 V.kind,.int .u64 V.num,.string V.text,.slice V.ia V.len V.cap] 26 30);obtain ⟨W0,hW0⟩:∃ W0,(w.alloc (.cells #[.int .i64 op,.int .i64 rel,.slice aa an ac,.slice ka kn kc] 26)).alloc (.cells #[.int .i64 V.kind,.int .u64 V.num,.string V.text,.slice V.ia V.len V.cap] 30)=W0:=⟨_,rfl⟩;rw [hW0] at HS;obtain ⟨x0,x1,x2,x3⟩:=jx HS.out.x;obtain ⟨v0,v1,v2,v3⟩:=jx HS.out.v;clear h4
 rcases hq with ⟨q1,q2,q3,q4⟩|⟨q1,q2,q3,q4⟩|⟨q1,q2,q3,q4⟩|⟨q1,q2,q3⟩
 all_goals
  go_enter Tryz.func11,Tryz.ntmps11;go_wp2
  go_loopw [12,13] (fun y i wr=>y=.int .i64 0∧i=.int .i64 0∧W0=wr) (fun _ _ _=>0)
  case atStart=>exact ⟨rfl,rfl,by first|rfl|exact hW0.symm|exact hW0⟩
  case round=>
   obtain ⟨rfl,rfl,rfl⟩:=hrel;go_wp2
   all_goals
    go_ret;exact ⟨rfl,HS.out.bel⟩
theorem jmz (L:Nat→Pa.TypeV) (al:Option Addr) (len cap:Nat) (hlen:len≤1000000) (t:Int) (S:Nat→Prop) (V:Pa.VT) (hV:smV V) (S':Nat→Prop):∀ (T:XT) (w:World),(∀ i,i<len→Pa.TypeAt w al i (L i))→Pa.ValAt w S V→XAt w S' T→xOk T→Calls Tryz.prog 11 #[.slice al len cap,.int .i64 t,.agg #[.int .i64 T.op,.int .i64 T.rel,.slice T.aa T.an T.ac,.slice T.ka T.kn T.kc],.agg #[.int .i64 V.kind,.int .u64 V.num,.string V.text,.slice V.ia V.len V.cap]] w fun e w'=>e=.returned (.bool (holdB (truD L len t V) T))∧Below w.heap.size w w':=by
 refine XT.ind fun T ih w H HV hx hk=>?_;obtain ⟨k1,k2⟩:=(Yb T).1 hk;have hI:=fun i (hi:i<T.kn) wx (hb:Below w.heap.size w wx)=>ih i hi wx (jz H hb) (HV.next hb) (Ye hx hb hi).2 (k2 i hi);have hC:=fun i (hi:i<T.kn) wx (hb:Below w.heap.size w wx)=>(Ye hx hb hi).1;have hA:=((ym T).1 hx).2.1;rw [X1]
 by_cases h4:4≤T.op
 · have:=jk5 (truD L len t V) al len cap t S' V T.op T.rel h4 T.aa T.an T.ac T.ka T.kn T.kc (jjk hx) T.kid w hC hI
   refine this.mono fun e w' h=>?_;rw [show ownB (truD L len t V) T.op T.rel T.an T.arg=false by unfold ownB;rw [if_neg (by omega),if_neg (by omega),if_neg (by omega)]];exact h
 · rw [if_neg (by omega),if_neg (by omega),if_neg (by omega)]
   by_cases h1:T.op=1
   · by_cases hn:T.an=2
     · obtain ⟨ab,ao,e,ho⟩:=ja9 (by omega) hA;rw [h1,hn,e];rw [hn] at ho;exact jq8 L al len cap hlen t S V hV T.rel ab ao T.ac T.arg (fun i hi=>k1 i (by omega)) T.ka T.kn T.kc w H HV ho
     · rw [show ownB (truD L len t V) T.op T.rel T.an T.arg=false from by unfold ownB;rw [if_pos h1,decide_eq_false hn];rfl];exact jcl al len cap t V T.op T.rel (by omega) T.aa T.an T.ac T.ka T.kn T.kc w (.inl ⟨by rw [beq_iff_eq];exact h1,by rw [beq_eq_false_iff_ne];omega,by rw [beq_eq_false_iff_ne];omega,by rw [beq_eq_false_iff_ne];omega⟩)
   · by_cases h2:T.op=2
     · by_cases hn:T.an=3
       · obtain ⟨ab,ao,e,ho⟩:=ja9 (by omega) hA;rw [h2,hn,e];rw [hn] at ho;exact jo3 L al len cap hlen t S V hV T.rel ab ao T.ac T.arg (fun i hi=>k1 i (by omega)) T.ka T.kn T.kc w H HV ho
       · rw [show ownB (truD L len t V) T.op T.rel T.an T.arg=false from by unfold ownB;rw [if_neg h1,if_pos h2,decide_eq_false hn];rfl];exact jcl al len cap t V T.op T.rel (by omega) T.aa T.an T.ac T.ka T.kn T.kc w (.inr (.inl ⟨by rw [beq_eq_false_iff_ne];omega,by rw [beq_iff_eq];exact h2,by rw [beq_eq_false_iff_ne];omega,by rw [beq_eq_false_iff_ne];omega⟩))
     · by_cases h3:T.op=3
       · by_cases hn:T.an=2
         · obtain ⟨ab,ao,e,ho⟩:=ja9 (by omega) hA;rw [h3,hn,e];rw [hn] at ho;exact jos L al len cap hlen t S V hV T.rel ab ao T.ac T.arg (fun i hi=>k1 i (by omega)) T.ka T.kn T.kc w H HV ho
         · rw [show ownB (truD L len t V) T.op T.rel T.an T.arg=false from by unfold ownB;rw [if_neg h1,if_neg h2,if_pos h3,decide_eq_false hn];rfl];exact jcl al len cap t V T.op T.rel (by omega) T.aa T.an T.ac T.ka T.kn T.kc w (.inr (.inr (.inl ⟨by rw [beq_eq_false_iff_ne];omega,by rw [beq_eq_false_iff_ne];omega,by rw [beq_iff_eq];exact h3,by rw [beq_eq_false_iff_ne];omega⟩)))
       · rw [show ownB (truD L len t V) T.op T.rel T.an T.arg=false from by unfold ownB;rw [if_neg h1,if_neg h2,if_neg h3]];exact jcl al len cap t V T.op T.rel (by omega) T.aa T.an T.ac T.ka T.kn T.kc w (.inr (.inr (.inr ⟨by rw [beq_eq_false_iff_ne];omega,by rw [beq_eq_false_iff_ne];omega,by rw [beq_eq_false_iff_ne];omega⟩)))
end Go.Proofs.YthcompcjphaahaaGreatDoor
