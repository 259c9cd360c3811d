/- Chapter 19's law TruthOne, walked. -/
import Derived.Test.YthcompcjphaahaaGreatDoora49
import Derived.Test.YthcompcjphaahaaGreatDoora50
namespace Go.Proofs.YthcompcjphaahaaGreatDoor
open Go.RowKit
set_option linter.unusedVariables false
set_option linter.unusedSimpArgs false
set_option maxRecDepth 100000 in
set_option maxHeartbeats 4000000 in
theorem walkOne (a b:DatV) (ha:(Lit.int .u64 a.num).wf=true∧0≤a.num∧a.text.size≤140737488351232) (hb:(Lit.int .u64 b.num).wf=true∧0≤b.num∧b.text.size≤140737488351232) (w:World) (hV:LibAt w):
  Calls Tryz.prog 5 #[.agg #[.int .i64 a.kind,.bool a.neg,.int .u64 a.num,.string a.text],.agg #[.int .i64 b.kind,.bool b.neg,.int .u64 b.num,.string b.text]] w fun e w'=>e=.returned (.bool true)∧Below w.heap.size w w':=by
 have HC:=Lib.hid (fun r wx (hx:Below w.heap.size w wx)=>rel_any r a b ha.1 hb.1 (by omega) (by omega) wx)
 have HD:=Lib.hid (fun r wx (hx:Below w.heap.size w wx)=>rel_any r b a hb.1 ha.1 (by omega) (by omega) wx)
 have HAW:=Lib.hid (fun wx (hx:Below w.heap.size w wx)=>awake19 wx (hV.held hx))
 obtain ⟨f,hf⟩:∃ f:Int→Bool,f=fun r=>relB r a b:=⟨_,rfl⟩
 have HCF:=Lib.hid (fun r wx (hx:Below w.heap.size w wx)=>show Calls Tryz.prog 14 #[.int .i64 r,.agg #[.int .i64 a.kind,.bool a.neg,.int .u64 a.num,.string a.text],.agg #[.int .i64 b.kind,.bool b.neg,.int .u64 b.num,.string b.text]] wx (fun e w'=>e=.returned (.bool (f r))∧Below wx.heap.size wx w') from by rw [hf];exact HC.out r wx hx)
 have HN:=Lib.hid (fun j=>show cntR a b (j+1)=cntR a b j+(if f (j:Nat) then 1 else 0) by rw [hf];rfl)
 have HF:=Lib.hid hf
 obtain ⟨c,hc⟩:∃ c:Nat→Nat,c=cntR a b:=⟨_,rfl⟩
 have HCN:=Lib.hid hc
 have HLE:=Lib.hid (cntR_le a b)
 rw [←hc] at HN HLE
 have HS0:=Lib.hid (Tst.start w #[.int .i64 a.kind,.bool a.neg,.int .u64 a.num,.string a.text] #[.int .i64 b.kind,.bool b.neg,.int .u64 b.num,.string b.text] 42 42)
 obtain ⟨W0,hW0⟩:∃ W0,(w.alloc (.cells #[.int .i64 a.kind,.bool a.neg,.int .u64 a.num,.string a.text] 42)).alloc (.cells #[.int .i64 b.kind,.bool b.neg,.int .u64 b.num,.string b.text] 42)=W0:=⟨_,rfl⟩
 rw [hW0] at HS0
 clear hc hf ha hb hV HC
 go_enter Tryz.func5,Tryz.ntmps5
 go_wp2
 go_loopw [5,6] (fun n i wr=>∃ j m:Nat,1≤j∧j≤7∧i=.int .i64 (j:Nat)∧n=.int .i64 (m:Nat)∧Hid (m=c j)∧m≤10∧Hid (Tst w #[.int .i64 a.kind,.bool a.neg,.int .u64 a.num,.string a.text] #[.int .i64 b.kind,.bool b.neg,.int .u64 b.num,.string b.text] 42 42 wr)) (fun _ i _=>7 - (intOf i).toNat)
 case atStart=>exact ⟨1,0,by omega,by omega,rfl,rfl,Lib.hid (by rw [HCN.out,cntR_1]),by omega,HS0⟩
 case round=>
  obtain ⟨j,m,hj1,hj,rfl,rfl,HM,hm,HS⟩:=hrel
  obtain ⟨x0,x1,x2,x3⟩:=bx19 HS.out.x
  obtain ⟨y0,y1,y2,y3⟩:=bx19 HS.out.v
  by_cases hlt:j<7
  · have HX:=HCF.out (j:Nat) wr HS.out.bel
    cases hq:f (j:Nat) with
    |true=>
     rw [hq] at HX
     have HX:=Lib.hid HX
     have HN1:=Lib.hid (show c (j+1)=m+1 by rw [HN.out j,hq,←HM.out];rfl)
     clear hq
     go_wp2_with (go_at_call 14;(with_reducible refine (HX.out).mono ?_);rintro e w2 ⟨rfl,hb⟩;have HS2:=Lib.hid (HS.out.next hb);clear hb)
     go_roundw
     case rel=>exact ⟨j+1,m+1,by omega,by omega,by go_num,by go_num,Lib.hid HN1.out.symm,by have:=HLE.out (j+1);have:=HN1.out;omega,HS2⟩
     case measure=>simp [intOf];omega
    |false=>
     rw [hq] at HX
     have HX:=Lib.hid HX
     have HN1:=Lib.hid (show c (j+1)=m by rw [HN.out j,hq,←HM.out];rfl)
     clear hq
     go_wp2_with (go_at_call 14;(with_reducible refine (HX.out).mono ?_);rintro e w2 ⟨rfl,hb⟩;have HS2:=Lib.hid (HS.out.next hb);clear hb)
     go_roundw
     case rel=>exact ⟨j+1,m,by omega,by omega,by go_num,rfl,Lib.hid HN1.out.symm,hm,HS2⟩
     case measure=>simp [intOf];omega
  · obtain rfl:j=7:=by omega
    have k7:m=cntR a b 7:=HM.out.trans (by rw [HCN.out])
    by_cases hk:a.kind=b.kind∧a.kind≠0
    · obtain ⟨hkk,hk0⟩:=hk
      have d1:(a.kind !=b.kind)=false:=by rw [bne_eq_false_iff_eq];exact hkk
      have d2:(a.kind==0)=false:=by rw [beq_eq_false_iff_ne];exact hk0
      have HQ:=Lib.hid (fun r wx (hx:Below w.heap.size w wx)=>by
       have:=HCF.out r wx hx
       rw [HF.out] at this
       simp only [relB_yes hkk hk0] at this
       exact this)
      have HG:=Lib.hid (fun wx (hx:Below w.heap.size w wx)=>by
       have:=HD.out 5 wx hx
       rw [relB_yes hkk.symm (by rw [←hkk];exact hk0),cmpD_neg hkk] at this
       exact this)
      by_cases c1:Pa.cmpD a b<0
      · obtain rfl:m=3:=k7.trans (cntR_neg hkk hk0 c1)
        have HQ:=Lib.hid (fun r wx hx=>by have:=HQ.out r wx hx;rw [relC_neg c1] at this;exact this)
        have HG:=Lib.hid (fun wx hx=>by have:=HG.out wx hx;rw [relC_pos (by omega)] at this;exact this)
        have H1:=Lib.hid (fun wx hx=>(show Calls Tryz.prog 14 #[.int .i64 1,.agg #[.int .i64 a.kind,.bool a.neg,.int .u64 a.num,.string a.text],.agg #[.int .i64 b.kind,.bool b.neg,.int .u64 b.num,.string b.text]] wx (fun e w'=>e=.returned (.bool false)∧Below wx.heap.size wx w') from HQ.out 1 wx hx))
        have H2:=Lib.hid (fun wx hx=>(show Calls Tryz.prog 14 #[.int .i64 2,.agg #[.int .i64 a.kind,.bool a.neg,.int .u64 a.num,.string a.text],.agg #[.int .i64 b.kind,.bool b.neg,.int .u64 b.num,.string b.text]] wx (fun e w'=>e=.returned (.bool true)∧Below wx.heap.size wx w') from HQ.out 2 wx hx))
        have H3:=Lib.hid (fun wx hx=>(show Calls Tryz.prog 14 #[.int .i64 3,.agg #[.int .i64 a.kind,.bool a.neg,.int .u64 a.num,.string a.text],.agg #[.int .i64 b.kind,.bool b.neg,.int .u64 b.num,.string b.text]] wx (fun e w'=>e=.returned (.bool true)∧Below wx.heap.size wx w') from HQ.out 3 wx hx))
        have H4:=Lib.hid (fun wx hx=>(show Calls Tryz.prog 14 #[.int .i64 4,.agg #[.int .i64 a.kind,.bool a.neg,.int .u64 a.num,.string a.text],.agg #[.int .i64 b.kind,.bool b.neg,.int .u64 b.num,.string b.text]] wx (fun e w'=>e=.returned (.bool true)∧Below wx.heap.size wx w') from HQ.out 4 wx hx))
        have H5:=Lib.hid (fun wx hx=>(show Calls Tryz.prog 14 #[.int .i64 5,.agg #[.int .i64 a.kind,.bool a.neg,.int .u64 a.num,.string a.text],.agg #[.int .i64 b.kind,.bool b.neg,.int .u64 b.num,.string b.text]] wx (fun e w'=>e=.returned (.bool false)∧Below wx.heap.size wx w') from HQ.out 5 wx hx))
        have H6:=Lib.hid (fun wx hx=>(show Calls Tryz.prog 14 #[.int .i64 6,.agg #[.int .i64 a.kind,.bool a.neg,.int .u64 a.num,.string a.text],.agg #[.int .i64 b.kind,.bool b.neg,.int .u64 b.num,.string b.text]] wx (fun e w'=>e=.returned (.bool false)∧Below wx.heap.size wx w') from HQ.out 6 wx hx))
        have HG:=Lib.hid (fun wx hx=>(show Calls Tryz.prog 14 #[.int .i64 5,.agg #[.int .i64 b.kind,.bool b.neg,.int .u64 b.num,.string b.text],.agg #[.int .i64 a.kind,.bool a.neg,.int .u64 a.num,.string a.text]] wx (fun e w'=>e=.returned (.bool true)∧Below wx.heap.size wx w') from HG.out wx hx))
        clear HQ HCF HN HF HCN HLE HD HM k7 hkk hk0
        obtain ⟨x0,x1,x2,x3⟩:=bx19 HS.out.x
        obtain ⟨y0,y1,y2,y3⟩:=bx19 HS.out.v
        go_upto_region 9 with (fail)
        clear x0 x1 x2 x3 y0 y1 y2 y3
        refine wp_region_ext (by kernel_rfl) 12 (fun v=>((.agg #[.int .i64 a.kind,.bool a.neg,.int .u64 a.num,.string a.text]:Value)::(.agg #[.int .i64 b.kind,.bool b.neg,.int .u64 b.num,.string b.text]:Value)::(.pointer (some ⟨w.heap.size,0,none⟩):Value)::(.pointer (some ⟨w.heap.size+1,0,none⟩):Value)::(.bool false:Value)::(.int .i64 (3:Nat):Value)::(.int .i64 (7:Nat):Value)::v 9::v 10::v 11::(.int .i64 (7:Nat):Value)::(.bool false:Value)::(u12:Value)::(u13:Value)::(u14:Value)::(u15:Value)::(u16:Value)::(u17:Value)::(u18:Value)::(u19:Value)::(.pointer (some ⟨w.heap.size,0,none⟩):Value)::(.int .i64 a.kind:Value)::(.pointer (some ⟨w.heap.size+1,0,none⟩):Value)::(.int .i64 b.kind:Value)::(.bool false:Value)::(.bool false:Value)::(.pointer (some ⟨w.heap.size,0,none⟩):Value)::(.int .i64 a.kind:Value)::(.bool false:Value)::(.bool false:Value)::(undef:Value)::(undef:Value)::(undef:Value)::(undef:Value)::(undef:Value)::v 0::v 1::v 2::v 3::v 4::v 5::v 6::v 7::v 8::(undef:Value)::(undef:Value)::(undef:Value)::(undef:Value)::(undef:Value)::(undef:Value)::(undef:Value)::(undef:Value)::(undef:Value)::(undef:Value)::(undef:Value)::(undef:Value)::(undef:Value)::(undef:Value)::(undef:Value)::(undef:Value)::(undef:Value)::(undef:Value)::(undef:Value)::(undef:Value)::(undef:Value)::(undef:Value)::(undef:Value)::(undef:Value)::(undef:Value)::(undef:Value)::(undef:Value)::(undef:Value)::(undef:Value)::(undef:Value)::(undef:Value)::(undef:Value)::(undef:Value)::(undef:Value)::(undef:Value)::(undef:Value)::(undef:Value)::(undef:Value)::(undef:Value)::(undef:Value)::(undef:Value)::(undef:Value)::(undef:Value)::(undef:Value)::(undef:Value)::(undef:Value)::(undef:Value)::(undef:Value)::(undef:Value)::(undef:Value)::(undef:Value)::(undef:Value)::(undef:Value)::(undef:Value)::(undef:Value)::(undef:Value)::(undef:Value)::(undef:Value)::(undef:Value)::(undef:Value)::(undef:Value)::(undef:Value)::(undef:Value)::(undef:Value)::(undef:Value)::(undef:Value)::[]).toArray) (fun _=>undef) (fun _=>none) (fun j=>[.agg #[.int .i64 a.kind,.bool a.neg,.int .u64 a.num,.string a.text],.agg #[.int .i64 b.kind,.bool b.neg,.int .u64 b.num,.string b.text],.bool true,.agg #[.int .i64 a.kind,.bool a.neg,.int .u64 a.num,.string a.text],.agg #[.int .i64 b.kind,.bool b.neg,.int .u64 b.num,.string b.text],.bool false,.agg #[.int .i64 a.kind,.bool a.neg,.int .u64 a.num,.string a.text],.agg #[.int .i64 b.kind,.bool b.neg,.int .u64 b.num,.string b.text],.bool false,.bool true,.bool false,.bool false].getD j undef) (fun w'=>Below wr.heap.size wr w')
         (Nat.le_of_ble_eq_true (by kernel_rfl)) (by kernel_rfl) (fun _ _ h hb=>bth h hb) (Below.refl _ _) (fun j hj v w1 hBx hsz hd=>?_) (fun v w1 hv hdist hBx hb=>?_)
        · have hBw:=bth HS.out.bel hBx
          have HX:=HS.out.next hBx
          obtain ⟨x0,x1,x2,x3⟩:=bx19 HX.x
          obtain ⟨y0,y1,y2,y3⟩:=bx19 HX.v
          clear HX
          have hjN:j=0∨j=1∨j=2∨j=3∨j=4∨j=5∨j=6∨j=7∨j=8∨j=9∨j=10∨j=11:=by omega
          rcases hjN with rfl|rfl|rfl|rfl|rfl|rfl|rfl|rfl|rfl|rfl|rfl|rfl
          · skip
            refine wpOp_step (o:= _) rfl (fun K' hK=>?_)
            go_simp
            exact hK _ _ ⟨.agg #[.int .i64 a.kind,.bool a.neg,.int .u64 a.num,.string a.text],rfl,Below.refl _ _,(fun _=>rfl),fun o h=>by cases h⟩
          · skip
            refine wpOp_step (o:= _) rfl (fun K' hK=>?_)
            go_simp
            exact hK _ _ ⟨.agg #[.int .i64 b.kind,.bool b.neg,.int .u64 b.num,.string b.text],rfl,Below.refl _ _,(fun _=>rfl),fun o h=>by cases h⟩
          · have e0:v 0=.agg #[.int .i64 a.kind,.bool a.neg,.int .u64 a.num,.string a.text]:=hd 0 (List.contains_iff_mem.1 (by kernel_rfl));have e1:v 1=.agg #[.int .i64 b.kind,.bool b.neg,.int .u64 b.num,.string b.text]:=hd 1 (List.contains_iff_mem.1 (by kernel_rfl))
            refine wpOp_step (o:= _) rfl (fun K' hK=>?_)
            go_simp
            refine (H3.out w1 hBw).mono ?_
            rintro e w3 ⟨rfl,hb3⟩
            exact hK _ _ ⟨.bool true,fr_eq19 (by simp [upd,e0,e1]),hb3,fun _=>rfl,fun o h=>by cases h⟩
          · skip
            refine wpOp_step (o:= _) rfl (fun K' hK=>?_)
            go_simp
            exact hK _ _ ⟨.agg #[.int .i64 a.kind,.bool a.neg,.int .u64 a.num,.string a.text],rfl,Below.refl _ _,(fun _=>rfl),fun o h=>by cases h⟩
          · skip
            refine wpOp_step (o:= _) rfl (fun K' hK=>?_)
            go_simp
            exact hK _ _ ⟨.agg #[.int .i64 b.kind,.bool b.neg,.int .u64 b.num,.string b.text],rfl,Below.refl _ _,(fun _=>rfl),fun o h=>by cases h⟩
          · have e3:v 3=.agg #[.int .i64 a.kind,.bool a.neg,.int .u64 a.num,.string a.text]:=hd 3 (List.contains_iff_mem.1 (by kernel_rfl));have e4:v 4=.agg #[.int .i64 b.kind,.bool b.neg,.int .u64 b.num,.string b.text]:=hd 4 (List.contains_iff_mem.1 (by kernel_rfl))
            refine wpOp_step (o:= _) rfl (fun K' hK=>?_)
            go_simp
            refine (H1.out w1 hBw).mono ?_
            rintro e w3 ⟨rfl,hb3⟩
            exact hK _ _ ⟨.bool false,fr_eq19 (by simp [upd,e3,e4]),hb3,fun _=>rfl,fun o h=>by cases h⟩
          · skip
            refine wpOp_step (o:= _) rfl (fun K' hK=>?_)
            go_simp
            exact hK _ _ ⟨.agg #[.int .i64 a.kind,.bool a.neg,.int .u64 a.num,.string a.text],rfl,Below.refl _ _,(fun _=>rfl),fun o h=>by cases h⟩
          · skip
            refine wpOp_step (o:= _) rfl (fun K' hK=>?_)
            go_simp
            exact hK _ _ ⟨.agg #[.int .i64 b.kind,.bool b.neg,.int .u64 b.num,.string b.text],rfl,Below.refl _ _,(fun _=>rfl),fun o h=>by cases h⟩
          · have e6:v 6=.agg #[.int .i64 a.kind,.bool a.neg,.int .u64 a.num,.string a.text]:=hd 6 (List.contains_iff_mem.1 (by kernel_rfl));have e7:v 7=.agg #[.int .i64 b.kind,.bool b.neg,.int .u64 b.num,.string b.text]:=hd 7 (List.contains_iff_mem.1 (by kernel_rfl))
            refine wpOp_step (o:= _) rfl (fun K' hK=>?_)
            go_simp
            refine (H5.out w1 hBw).mono ?_
            rintro e w3 ⟨rfl,hb3⟩
            exact hK _ _ ⟨.bool false,fr_eq19 (by simp [upd,e6,e7]),hb3,fun _=>rfl,fun o h=>by cases h⟩
          · have e2:v 2=.bool true:=hd 2 (List.contains_iff_mem.1 (by kernel_rfl))
            refine wpOp_step (o:= _) rfl (fun K' hK=>?_)
            go_simp
            exact hK _ _ ⟨.bool true,fr_eq19 (by simp [upd,e2]),Below.refl _ _,(fun _=>rfl),fun o h=>by cases h⟩
          · have e5:v 5=.bool false:=hd 5 (List.contains_iff_mem.1 (by kernel_rfl))
            refine wpOp_step (o:= _) rfl (fun K' hK=>?_)
            go_simp
            exact hK _ _ ⟨.bool false,fr_eq19 (by simp [upd,e5]),Below.refl _ _,(fun _=>rfl),fun o h=>by cases h⟩
          · have e8:v 8=.bool false:=hd 8 (List.contains_iff_mem.1 (by kernel_rfl))
            refine wpOp_step (o:= _) rfl (fun K' hK=>?_)
            go_simp
            exact hK _ _ ⟨.bool false,fr_eq19 (by simp [upd,e8]),Below.refl _ _,(fun _=>rfl),fun o h=>by cases h⟩
        · skip
          have e0:v 0=.agg #[.int .i64 a.kind,.bool a.neg,.int .u64 a.num,.string a.text]:=hv 0 (by decide)
          have e1:v 1=.agg #[.int .i64 b.kind,.bool b.neg,.int .u64 b.num,.string b.text]:=hv 1 (by decide)
          have e2:v 2=.bool true:=hv 2 (by decide)
          have e3:v 3=.agg #[.int .i64 a.kind,.bool a.neg,.int .u64 a.num,.string a.text]:=hv 3 (by decide)
          have e4:v 4=.agg #[.int .i64 b.kind,.bool b.neg,.int .u64 b.num,.string b.text]:=hv 4 (by decide)
          have e5:v 5=.bool false:=hv 5 (by decide)
          have e6:v 6=.agg #[.int .i64 a.kind,.bool a.neg,.int .u64 a.num,.string a.text]:=hv 6 (by decide)
          have e7:v 7=.agg #[.int .i64 b.kind,.bool b.neg,.int .u64 b.num,.string b.text]:=hv 7 (by decide)
          have e8:v 8=.bool false:=hv 8 (by decide)
          have e9:v 9=.bool true:=hv 9 (by decide)
          have e10:v 10=.bool false:=hv 10 (by decide)
          have e11:v 11=.bool false:=hv 11 (by decide)
          have HBe:=Lib.hid hb
          clear hv hdist hBx hb
          refine wpAny_of_held (S:=fun _=>True) _ _ _ _ ?_
          simp only [e0,e1,e2,e3,e4,e5,e6,e7,e8,e9,e10,e11]
          clear e0 e1 e2 e3 e4 e5 e6 e7 e8 e9 e10 e11
          refine wpAnyH_done (by kernel_rfl) ?_ _
          have HS:=Lib.hid (HS.out.next HBe.out)
          clear HBe
          obtain ⟨x0,x1,x2,x3⟩:=bx19 HS.out.x
          obtain ⟨y0,y1,y2,y3⟩:=bx19 HS.out.v
          go_wp2_with (first
           |(go_at_call 14;(with_reducible refine (H2.out _ (by exact HS.out.bel)).mono ?_);rintro e w2 ⟨rfl,hb⟩;have HS:=Lib.hid (HS.out.next hb);clear x0 x1 x2 x3 y0 y1 y2 y3;obtain ⟨x0,x1,x2,x3⟩:=bx19 HS.out.x;obtain ⟨y0,y1,y2,y3⟩:=bx19 HS.out.v;clear hb)
           |(go_at_call 14;(with_reducible refine (H4.out _ (by exact HS.out.bel)).mono ?_);rintro e w2 ⟨rfl,hb⟩;have HS:=Lib.hid (HS.out.next hb);clear x0 x1 x2 x3 y0 y1 y2 y3;obtain ⟨x0,x1,x2,x3⟩:=bx19 HS.out.x;obtain ⟨y0,y1,y2,y3⟩:=bx19 HS.out.v;clear hb)
           |(go_at_call 14;(with_reducible refine (H6.out _ (by exact HS.out.bel)).mono ?_);rintro e w2 ⟨rfl,hb⟩;have HS:=Lib.hid (HS.out.next hb);clear x0 x1 x2 x3 y0 y1 y2 y3;obtain ⟨x0,x1,x2,x3⟩:=bx19 HS.out.x;obtain ⟨y0,y1,y2,y3⟩:=bx19 HS.out.v;clear hb)
           |(go_at_call 14;(with_reducible refine (HG.out _ (by exact HS.out.bel)).mono ?_);rintro e w2 ⟨rfl,hb⟩;have HS:=Lib.hid (HS.out.next hb);clear x0 x1 x2 x3 y0 y1 y2 y3;obtain ⟨x0,x1,x2,x3⟩:=bx19 HS.out.x;obtain ⟨y0,y1,y2,y3⟩:=bx19 HS.out.v;clear hb)
           |(go_at_call 9;(with_reducible refine (HAW.out _ (by exact HS.out.bel)).mono ?_);rintro e w2 ⟨rfl,hb⟩;have HS:=Lib.hid (HS.out.next hb);clear x0 x1 x2 x3 y0 y1 y2 y3;obtain ⟨x0,x1,x2,x3⟩:=bx19 HS.out.x;obtain ⟨y0,y1,y2,y3⟩:=bx19 HS.out.v;clear hb))
          go_ret
          exact ⟨rfl,HS.out.bel⟩
      · by_cases c2:0<Pa.cmpD a b
        · obtain rfl:m=3:=k7.trans (cntR_pos hkk hk0 c2)
          have HQ:=Lib.hid (fun r wx hx=>by have:=HQ.out r wx hx;rw [relC_pos c2] at this;exact this)
          have HG:=Lib.hid (fun wx hx=>by have:=HG.out wx hx;rw [relC_neg (by omega)] at this;exact this)
          have H1:=Lib.hid (fun wx hx=>(show Calls Tryz.prog 14 #[.int .i64 1,.agg #[.int .i64 a.kind,.bool a.neg,.int .u64 a.num,.string a.text],.agg #[.int .i64 b.kind,.bool b.neg,.int .u64 b.num,.string b.text]] wx (fun e w'=>e=.returned (.bool false)∧Below wx.heap.size wx w') from HQ.out 1 wx hx))
          have H2:=Lib.hid (fun wx hx=>(show Calls Tryz.prog 14 #[.int .i64 2,.agg #[.int .i64 a.kind,.bool a.neg,.int .u64 a.num,.string a.text],.agg #[.int .i64 b.kind,.bool b.neg,.int .u64 b.num,.string b.text]] wx (fun e w'=>e=.returned (.bool true)∧Below wx.heap.size wx w') from HQ.out 2 wx hx))
          have H3:=Lib.hid (fun wx hx=>(show Calls Tryz.prog 14 #[.int .i64 3,.agg #[.int .i64 a.kind,.bool a.neg,.int .u64 a.num,.string a.text],.agg #[.int .i64 b.kind,.bool b.neg,.int .u64 b.num,.string b.text]] wx (fun e w'=>e=.returned (.bool false)∧Below wx.heap.size wx w') from HQ.out 3 wx hx))
          have H4:=Lib.hid (fun wx hx=>(show Calls Tryz.prog 14 #[.int .i64 4,.agg #[.int .i64 a.kind,.bool a.neg,.int .u64 a.num,.string a.text],.agg #[.int .i64 b.kind,.bool b.neg,.int .u64 b.num,.string b.text]] wx (fun e w'=>e=.returned (.bool false)∧Below wx.heap.size wx w') from HQ.out 4 wx hx))
          have H5:=Lib.hid (fun wx hx=>(show Calls Tryz.prog 14 #[.int .i64 5,.agg #[.int .i64 a.kind,.bool a.neg,.int .u64 a.num,.string a.text],.agg #[.int .i64 b.kind,.bool b.neg,.int .u64 b.num,.string b.text]] wx (fun e w'=>e=.returned (.bool true)∧Below wx.heap.size wx w') from HQ.out 5 wx hx))
          have H6:=Lib.hid (fun wx hx=>(show Calls Tryz.prog 14 #[.int .i64 6,.agg #[.int .i64 a.kind,.bool a.neg,.int .u64 a.num,.string a.text],.agg #[.int .i64 b.kind,.bool b.neg,.int .u64 b.num,.string b.text]] wx (fun e w'=>e=.returned (.bool true)∧Below wx.heap.size wx w') from HQ.out 6 wx hx))
          have HG:=Lib.hid (fun wx hx=>(show Calls Tryz.prog 14 #[.int .i64 5,.agg #[.int .i64 b.kind,.bool b.neg,.int .u64 b.num,.string b.text],.agg #[.int .i64 a.kind,.bool a.neg,.int .u64 a.num,.string a.text]] wx (fun e w'=>e=.returned (.bool false)∧Below wx.heap.size wx w') from HG.out wx hx))
          clear HQ HCF HN HF HCN HLE HD HM k7 hkk hk0
          obtain ⟨x0,x1,x2,x3⟩:=bx19 HS.out.x
          obtain ⟨y0,y1,y2,y3⟩:=bx19 HS.out.v
          go_upto_region 9 with (fail)
          clear x0 x1 x2 x3 y0 y1 y2 y3
          refine wp_region_ext (by kernel_rfl) 12 (fun v=>((.agg #[.int .i64 a.kind,.bool a.neg,.int .u64 a.num,.string a.text]:Value)::(.agg #[.int .i64 b.kind,.bool b.neg,.int .u64 b.num,.string b.text]:Value)::(.pointer (some ⟨w.heap.size,0,none⟩):Value)::(.pointer (some ⟨w.heap.size+1,0,none⟩):Value)::(.bool false:Value)::(.int .i64 (3:Nat):Value)::(.int .i64 (7:Nat):Value)::v 9::v 10::v 11::(.int .i64 (7:Nat):Value)::(.bool false:Value)::(u12:Value)::(u13:Value)::(u14:Value)::(u15:Value)::(u16:Value)::(u17:Value)::(u18:Value)::(u19:Value)::(.pointer (some ⟨w.heap.size,0,none⟩):Value)::(.int .i64 a.kind:Value)::(.pointer (some ⟨w.heap.size+1,0,none⟩):Value)::(.int .i64 b.kind:Value)::(.bool false:Value)::(.bool false:Value)::(.pointer (some ⟨w.heap.size,0,none⟩):Value)::(.int .i64 a.kind:Value)::(.bool false:Value)::(.bool false:Value)::(undef:Value)::(undef:Value)::(undef:Value)::(undef:Value)::(undef:Value)::v 0::v 1::v 2::v 3::v 4::v 5::v 6::v 7::v 8::(undef:Value)::(undef:Value)::(undef:Value)::(undef:Value)::(undef:Value)::(undef:Value)::(undef:Value)::(undef:Value)::(undef:Value)::(undef:Value)::(undef:Value)::(undef:Value)::(undef:Value)::(undef:Value)::(undef:Value)::(undef:Value)::(undef:Value)::(undef:Value)::(undef:Value)::(undef:Value)::(undef:Value)::(undef:Value)::(undef:Value)::(undef:Value)::(undef:Value)::(undef:Value)::(undef:Value)::(undef:Value)::(undef:Value)::(undef:Value)::(undef:Value)::(undef:Value)::(undef:Value)::(undef:Value)::(undef:Value)::(undef:Value)::(undef:Value)::(undef:Value)::(undef:Value)::(undef:Value)::(undef:Value)::(undef:Value)::(undef:Value)::(undef:Value)::(undef:Value)::(undef:Value)::(undef:Value)::(undef:Value)::(undef:Value)::(undef:Value)::(undef:Value)::(undef:Value)::(undef:Value)::(undef:Value)::(undef:Value)::(undef:Value)::(undef:Value)::(undef:Value)::(undef:Value)::(undef:Value)::(undef:Value)::(undef:Value)::(undef:Value)::(undef:Value)::(undef:Value)::(undef:Value)::[]).toArray) (fun _=>undef) (fun _=>none) (fun j=>[.agg #[.int .i64 a.kind,.bool a.neg,.int .u64 a.num,.string a.text],.agg #[.int .i64 b.kind,.bool b.neg,.int .u64 b.num,.string b.text],.bool false,.agg #[.int .i64 a.kind,.bool a.neg,.int .u64 a.num,.string a.text],.agg #[.int .i64 b.kind,.bool b.neg,.int .u64 b.num,.string b.text],.bool false,.agg #[.int .i64 a.kind,.bool a.neg,.int .u64 a.num,.string a.text],.agg #[.int .i64 b.kind,.bool b.neg,.int .u64 b.num,.string b.text],.bool true,.bool false,.bool false,.bool true].getD j undef) (fun w'=>Below wr.heap.size wr w')
           (Nat.le_of_ble_eq_true (by kernel_rfl)) (by kernel_rfl) (fun _ _ h hb=>bth h hb) (Below.refl _ _) (fun j hj v w1 hBx hsz hd=>?_) (fun v w1 hv hdist hBx hb=>?_)
          · have hBw:=bth HS.out.bel hBx
            have HX:=HS.out.next hBx
            obtain ⟨x0,x1,x2,x3⟩:=bx19 HX.x
            obtain ⟨y0,y1,y2,y3⟩:=bx19 HX.v
            clear HX
            have hjN:j=0∨j=1∨j=2∨j=3∨j=4∨j=5∨j=6∨j=7∨j=8∨j=9∨j=10∨j=11:=by omega
            rcases hjN with rfl|rfl|rfl|rfl|rfl|rfl|rfl|rfl|rfl|rfl|rfl|rfl
            · skip
              refine wpOp_step (o:= _) rfl (fun K' hK=>?_)
              go_simp
              exact hK _ _ ⟨.agg #[.int .i64 a.kind,.bool a.neg,.int .u64 a.num,.string a.text],rfl,Below.refl _ _,(fun _=>rfl),fun o h=>by cases h⟩
            · skip
              refine wpOp_step (o:= _) rfl (fun K' hK=>?_)
              go_simp
              exact hK _ _ ⟨.agg #[.int .i64 b.kind,.bool b.neg,.int .u64 b.num,.string b.text],rfl,Below.refl _ _,(fun _=>rfl),fun o h=>by cases h⟩
            · have e0:v 0=.agg #[.int .i64 a.kind,.bool a.neg,.int .u64 a.num,.string a.text]:=hd 0 (List.contains_iff_mem.1 (by kernel_rfl));have e1:v 1=.agg #[.int .i64 b.kind,.bool b.neg,.int .u64 b.num,.string b.text]:=hd 1 (List.contains_iff_mem.1 (by kernel_rfl))
              refine wpOp_step (o:= _) rfl (fun K' hK=>?_)
              go_simp
              refine (H3.out w1 hBw).mono ?_
              rintro e w3 ⟨rfl,hb3⟩
              exact hK _ _ ⟨.bool false,fr_eq19 (by simp [upd,e0,e1]),hb3,fun _=>rfl,fun o h=>by cases h⟩
            · skip
              refine wpOp_step (o:= _) rfl (fun K' hK=>?_)
              go_simp
              exact hK _ _ ⟨.agg #[.int .i64 a.kind,.bool a.neg,.int .u64 a.num,.string a.text],rfl,Below.refl _ _,(fun _=>rfl),fun o h=>by cases h⟩
            · skip
              refine wpOp_step (o:= _) rfl (fun K' hK=>?_)
              go_simp
              exact hK _ _ ⟨.agg #[.int .i64 b.kind,.bool b.neg,.int .u64 b.num,.string b.text],rfl,Below.refl _ _,(fun _=>rfl),fun o h=>by cases h⟩
            · have e3:v 3=.agg #[.int .i64 a.kind,.bool a.neg,.int .u64 a.num,.string a.text]:=hd 3 (List.contains_iff_mem.1 (by kernel_rfl));have e4:v 4=.agg #[.int .i64 b.kind,.bool b.neg,.int .u64 b.num,.string b.text]:=hd 4 (List.contains_iff_mem.1 (by kernel_rfl))
              refine wpOp_step (o:= _) rfl (fun K' hK=>?_)
              go_simp
              refine (H1.out w1 hBw).mono ?_
              rintro e w3 ⟨rfl,hb3⟩
              exact hK _ _ ⟨.bool false,fr_eq19 (by simp [upd,e3,e4]),hb3,fun _=>rfl,fun o h=>by cases h⟩
            · skip
              refine wpOp_step (o:= _) rfl (fun K' hK=>?_)
              go_simp
              exact hK _ _ ⟨.agg #[.int .i64 a.kind,.bool a.neg,.int .u64 a.num,.string a.text],rfl,Below.refl _ _,(fun _=>rfl),fun o h=>by cases h⟩
            · skip
              refine wpOp_step (o:= _) rfl (fun K' hK=>?_)
              go_simp
              exact hK _ _ ⟨.agg #[.int .i64 b.kind,.bool b.neg,.int .u64 b.num,.string b.text],rfl,Below.refl _ _,(fun _=>rfl),fun o h=>by cases h⟩
            · have e6:v 6=.agg #[.int .i64 a.kind,.bool a.neg,.int .u64 a.num,.string a.text]:=hd 6 (List.contains_iff_mem.1 (by kernel_rfl));have e7:v 7=.agg #[.int .i64 b.kind,.bool b.neg,.int .u64 b.num,.string b.text]:=hd 7 (List.contains_iff_mem.1 (by kernel_rfl))
              refine wpOp_step (o:= _) rfl (fun K' hK=>?_)
              go_simp
              refine (H5.out w1 hBw).mono ?_
              rintro e w3 ⟨rfl,hb3⟩
              exact hK _ _ ⟨.bool true,fr_eq19 (by simp [upd,e6,e7]),hb3,fun _=>rfl,fun o h=>by cases h⟩
            · have e2:v 2=.bool false:=hd 2 (List.contains_iff_mem.1 (by kernel_rfl))
              refine wpOp_step (o:= _) rfl (fun K' hK=>?_)
              go_simp
              exact hK _ _ ⟨.bool false,fr_eq19 (by simp [upd,e2]),Below.refl _ _,(fun _=>rfl),fun o h=>by cases h⟩
            · have e5:v 5=.bool false:=hd 5 (List.contains_iff_mem.1 (by kernel_rfl))
              refine wpOp_step (o:= _) rfl (fun K' hK=>?_)
              go_simp
              exact hK _ _ ⟨.bool false,fr_eq19 (by simp [upd,e5]),Below.refl _ _,(fun _=>rfl),fun o h=>by cases h⟩
            · have e8:v 8=.bool true:=hd 8 (List.contains_iff_mem.1 (by kernel_rfl))
              refine wpOp_step (o:= _) rfl (fun K' hK=>?_)
              go_simp
              exact hK _ _ ⟨.bool true,fr_eq19 (by simp [upd,e8]),Below.refl _ _,(fun _=>rfl),fun o h=>by cases h⟩
          · skip
            have e0:v 0=.agg #[.int .i64 a.kind,.bool a.neg,.int .u64 a.num,.string a.text]:=hv 0 (by decide)
            have e1:v 1=.agg #[.int .i64 b.kind,.bool b.neg,.int .u64 b.num,.string b.text]:=hv 1 (by decide)
            have e2:v 2=.bool false:=hv 2 (by decide)
            have e3:v 3=.agg #[.int .i64 a.kind,.bool a.neg,.int .u64 a.num,.string a.text]:=hv 3 (by decide)
            have e4:v 4=.agg #[.int .i64 b.kind,.bool b.neg,.int .u64 b.num,.string b.text]:=hv 4 (by decide)
            have e5:v 5=.bool false:=hv 5 (by decide)
            have e6:v 6=.agg #[.int .i64 a.kind,.bool a.neg,.int .u64 a.num,.string a.text]:=hv 6 (by decide)
            have e7:v 7=.agg #[.int .i64 b.kind,.bool b.neg,.int .u64 b.num,.string b.text]:=hv 7 (by decide)
            have e8:v 8=.bool true:=hv 8 (by decide)
            have e9:v 9=.bool false:=hv 9 (by decide)
            have e10:v 10=.bool false:=hv 10 (by decide)
            have e11:v 11=.bool true:=hv 11 (by decide)
            have HBe:=Lib.hid hb
            clear hv hdist hBx hb
            refine wpAny_of_held (S:=fun _=>True) _ _ _ _ ?_
            simp only [e0,e1,e2,e3,e4,e5,e6,e7,e8,e9,e10,e11]
            clear e0 e1 e2 e3 e4 e5 e6 e7 e8 e9 e10 e11
            refine wpAnyH_done (by kernel_rfl) ?_ _
            have HS:=Lib.hid (HS.out.next HBe.out)
            clear HBe
            obtain ⟨x0,x1,x2,x3⟩:=bx19 HS.out.x
            obtain ⟨y0,y1,y2,y3⟩:=bx19 HS.out.v
            go_wp2_with (first
             |(go_at_call 14;(with_reducible refine (H2.out _ (by exact HS.out.bel)).mono ?_);rintro e w2 ⟨rfl,hb⟩;have HS:=Lib.hid (HS.out.next hb);clear x0 x1 x2 x3 y0 y1 y2 y3;obtain ⟨x0,x1,x2,x3⟩:=bx19 HS.out.x;obtain ⟨y0,y1,y2,y3⟩:=bx19 HS.out.v;clear hb)
             |(go_at_call 14;(with_reducible refine (H4.out _ (by exact HS.out.bel)).mono ?_);rintro e w2 ⟨rfl,hb⟩;have HS:=Lib.hid (HS.out.next hb);clear x0 x1 x2 x3 y0 y1 y2 y3;obtain ⟨x0,x1,x2,x3⟩:=bx19 HS.out.x;obtain ⟨y0,y1,y2,y3⟩:=bx19 HS.out.v;clear hb)
             |(go_at_call 14;(with_reducible refine (H6.out _ (by exact HS.out.bel)).mono ?_);rintro e w2 ⟨rfl,hb⟩;have HS:=Lib.hid (HS.out.next hb);clear x0 x1 x2 x3 y0 y1 y2 y3;obtain ⟨x0,x1,x2,x3⟩:=bx19 HS.out.x;obtain ⟨y0,y1,y2,y3⟩:=bx19 HS.out.v;clear hb)
             |(go_at_call 14;(with_reducible refine (HG.out _ (by exact HS.out.bel)).mono ?_);rintro e w2 ⟨rfl,hb⟩;have HS:=Lib.hid (HS.out.next hb);clear x0 x1 x2 x3 y0 y1 y2 y3;obtain ⟨x0,x1,x2,x3⟩:=bx19 HS.out.x;obtain ⟨y0,y1,y2,y3⟩:=bx19 HS.out.v;clear hb)
             |(go_at_call 9;(with_reducible refine (HAW.out _ (by exact HS.out.bel)).mono ?_);rintro e w2 ⟨rfl,hb⟩;have HS:=Lib.hid (HS.out.next hb);clear x0 x1 x2 x3 y0 y1 y2 y3;obtain ⟨x0,x1,x2,x3⟩:=bx19 HS.out.x;obtain ⟨y0,y1,y2,y3⟩:=bx19 HS.out.v;clear hb))
            go_ret
            exact ⟨rfl,HS.out.bel⟩
        · have c0:Pa.cmpD a b=0:=by omega
          obtain rfl:m=3:=k7.trans (cntR_zero hkk hk0 c0)
          have HQ:=Lib.hid (fun r wx hx=>by have:=HQ.out r wx hx;rw [c0,relC_zero] at this;exact this)
          have HG:=Lib.hid (fun wx hx=>by have:=HG.out wx hx;rw [c0,Int.neg_zero,relC_zero] at this;exact this)
          have H1:=Lib.hid (fun wx hx=>(show Calls Tryz.prog 14 #[.int .i64 1,.agg #[.int .i64 a.kind,.bool a.neg,.int .u64 a.num,.string a.text],.agg #[.int .i64 b.kind,.bool b.neg,.int .u64 b.num,.string b.text]] wx (fun e w'=>e=.returned (.bool true)∧Below wx.heap.size wx w') from HQ.out 1 wx hx))
          have H2:=Lib.hid (fun wx hx=>(show Calls Tryz.prog 14 #[.int .i64 2,.agg #[.int .i64 a.kind,.bool a.neg,.int .u64 a.num,.string a.text],.agg #[.int .i64 b.kind,.bool b.neg,.int .u64 b.num,.string b.text]] wx (fun e w'=>e=.returned (.bool false)∧Below wx.heap.size wx w') from HQ.out 2 wx hx))
          have H3:=Lib.hid (fun wx hx=>(show Calls Tryz.prog 14 #[.int .i64 3,.agg #[.int .i64 a.kind,.bool a.neg,.int .u64 a.num,.string a.text],.agg #[.int .i64 b.kind,.bool b.neg,.int .u64 b.num,.string b.text]] wx (fun e w'=>e=.returned (.bool false)∧Below wx.heap.size wx w') from HQ.out 3 wx hx))
          have H4:=Lib.hid (fun wx hx=>(show Calls Tryz.prog 14 #[.int .i64 4,.agg #[.int .i64 a.kind,.bool a.neg,.int .u64 a.num,.string a.text],.agg #[.int .i64 b.kind,.bool b.neg,.int .u64 b.num,.string b.text]] wx (fun e w'=>e=.returned (.bool true)∧Below wx.heap.size wx w') from HQ.out 4 wx hx))
          have H5:=Lib.hid (fun wx hx=>(show Calls Tryz.prog 14 #[.int .i64 5,.agg #[.int .i64 a.kind,.bool a.neg,.int .u64 a.num,.string a.text],.agg #[.int .i64 b.kind,.bool b.neg,.int .u64 b.num,.string b.text]] wx (fun e w'=>e=.returned (.bool false)∧Below wx.heap.size wx w') from HQ.out 5 wx hx))
          have H6:=Lib.hid (fun wx hx=>(show Calls Tryz.prog 14 #[.int .i64 6,.agg #[.int .i64 a.kind,.bool a.neg,.int .u64 a.num,.string a.text],.agg #[.int .i64 b.kind,.bool b.neg,.int .u64 b.num,.string b.text]] wx (fun e w'=>e=.returned (.bool true)∧Below wx.heap.size wx w') from HQ.out 6 wx hx))
          have HG:=Lib.hid (fun wx hx=>(show Calls Tryz.prog 14 #[.int .i64 5,.agg #[.int .i64 b.kind,.bool b.neg,.int .u64 b.num,.string b.text],.agg #[.int .i64 a.kind,.bool a.neg,.int .u64 a.num,.string a.text]] wx (fun e w'=>e=.returned (.bool false)∧Below wx.heap.size wx w') from HG.out wx hx))
          clear HQ HCF HN HF HCN HLE HD HM k7 hkk hk0
          obtain ⟨x0,x1,x2,x3⟩:=bx19 HS.out.x
          obtain ⟨y0,y1,y2,y3⟩:=bx19 HS.out.v
          go_upto_region 9 with (fail)
          clear x0 x1 x2 x3 y0 y1 y2 y3
          refine wp_region_ext (by kernel_rfl) 12 (fun v=>((.agg #[.int .i64 a.kind,.bool a.neg,.int .u64 a.num,.string a.text]:Value)::(.agg #[.int .i64 b.kind,.bool b.neg,.int .u64 b.num,.string b.text]:Value)::(.pointer (some ⟨w.heap.size,0,none⟩):Value)::(.pointer (some ⟨w.heap.size+1,0,none⟩):Value)::(.bool false:Value)::(.int .i64 (3:Nat):Value)::(.int .i64 (7:Nat):Value)::v 9::v 10::v 11::(.int .i64 (7:Nat):Value)::(.bool false:Value)::(u12:Value)::(u13:Value)::(u14:Value)::(u15:Value)::(u16:Value)::(u17:Value)::(u18:Value)::(u19:Value)::(.pointer (some ⟨w.heap.size,0,none⟩):Value)::(.int .i64 a.kind:Value)::(.pointer (some ⟨w.heap.size+1,0,none⟩):Value)::(.int .i64 b.kind:Value)::(.bool false:Value)::(.bool false:Value)::(.pointer (some ⟨w.heap.size,0,none⟩):Value)::(.int .i64 a.kind:Value)::(.bool false:Value)::(.bool false:Value)::(undef:Value)::(undef:Value)::(undef:Value)::(undef:Value)::(undef:Value)::v 0::v 1::v 2::v 3::v 4::v 5::v 6::v 7::v 8::(undef:Value)::(undef:Value)::(undef:Value)::(undef:Value)::(undef:Value)::(undef:Value)::(undef:Value)::(undef:Value)::(undef:Value)::(undef:Value)::(undef:Value)::(undef:Value)::(undef:Value)::(undef:Value)::(undef:Value)::(undef:Value)::(undef:Value)::(undef:Value)::(undef:Value)::(undef:Value)::(undef:Value)::(undef:Value)::(undef:Value)::(undef:Value)::(undef:Value)::(undef:Value)::(undef:Value)::(undef:Value)::(undef:Value)::(undef:Value)::(undef:Value)::(undef:Value)::(undef:Value)::(undef:Value)::(undef:Value)::(undef:Value)::(undef:Value)::(undef:Value)::(undef:Value)::(undef:Value)::(undef:Value)::(undef:Value)::(undef:Value)::(undef:Value)::(undef:Value)::(undef:Value)::(undef:Value)::(undef:Value)::(undef:Value)::(undef:Value)::(undef:Value)::(undef:Value)::(undef:Value)::(undef:Value)::(undef:Value)::(undef:Value)::(undef:Value)::(undef:Value)::(undef:Value)::(undef:Value)::(undef:Value)::(undef:Value)::(undef:Value)::(undef:Value)::(undef:Value)::(undef:Value)::[]).toArray) (fun _=>undef) (fun _=>none) (fun j=>[.agg #[.int .i64 a.kind,.bool a.neg,.int .u64 a.num,.string a.text],.agg #[.int .i64 b.kind,.bool b.neg,.int .u64 b.num,.string b.text],.bool false,.agg #[.int .i64 a.kind,.bool a.neg,.int .u64 a.num,.string a.text],.agg #[.int .i64 b.kind,.bool b.neg,.int .u64 b.num,.string b.text],.bool true,.agg #[.int .i64 a.kind,.bool a.neg,.int .u64 a.num,.string a.text],.agg #[.int .i64 b.kind,.bool b.neg,.int .u64 b.num,.string b.text],.bool false,.bool false,.bool true,.bool false].getD j undef) (fun w'=>Below wr.heap.size wr w')
           (Nat.le_of_ble_eq_true (by kernel_rfl)) (by kernel_rfl) (fun _ _ h hb=>bth h hb) (Below.refl _ _) (fun j hj v w1 hBx hsz hd=>?_) (fun v w1 hv hdist hBx hb=>?_)
          · have hBw:=bth HS.out.bel hBx
            have HX:=HS.out.next hBx
            obtain ⟨x0,x1,x2,x3⟩:=bx19 HX.x
            obtain ⟨y0,y1,y2,y3⟩:=bx19 HX.v
            clear HX
            have hjN:j=0∨j=1∨j=2∨j=3∨j=4∨j=5∨j=6∨j=7∨j=8∨j=9∨j=10∨j=11:=by omega
            rcases hjN with rfl|rfl|rfl|rfl|rfl|rfl|rfl|rfl|rfl|rfl|rfl|rfl
            · skip
              refine wpOp_step (o:= _) rfl (fun K' hK=>?_)
              go_simp
              exact hK _ _ ⟨.agg #[.int .i64 a.kind,.bool a.neg,.int .u64 a.num,.string a.text],rfl,Below.refl _ _,(fun _=>rfl),fun o h=>by cases h⟩
            · skip
              refine wpOp_step (o:= _) rfl (fun K' hK=>?_)
              go_simp
              exact hK _ _ ⟨.agg #[.int .i64 b.kind,.bool b.neg,.int .u64 b.num,.string b.text],rfl,Below.refl _ _,(fun _=>rfl),fun o h=>by cases h⟩
            · have e0:v 0=.agg #[.int .i64 a.kind,.bool a.neg,.int .u64 a.num,.string a.text]:=hd 0 (List.contains_iff_mem.1 (by kernel_rfl));have e1:v 1=.agg #[.int .i64 b.kind,.bool b.neg,.int .u64 b.num,.string b.text]:=hd 1 (List.contains_iff_mem.1 (by kernel_rfl))
              refine wpOp_step (o:= _) rfl (fun K' hK=>?_)
              go_simp
              refine (H3.out w1 hBw).mono ?_
              rintro e w3 ⟨rfl,hb3⟩
              exact hK _ _ ⟨.bool false,fr_eq19 (by simp [upd,e0,e1]),hb3,fun _=>rfl,fun o h=>by cases h⟩
            · skip
              refine wpOp_step (o:= _) rfl (fun K' hK=>?_)
              go_simp
              exact hK _ _ ⟨.agg #[.int .i64 a.kind,.bool a.neg,.int .u64 a.num,.string a.text],rfl,Below.refl _ _,(fun _=>rfl),fun o h=>by cases h⟩
            · skip
              refine wpOp_step (o:= _) rfl (fun K' hK=>?_)
              go_simp
              exact hK _ _ ⟨.agg #[.int .i64 b.kind,.bool b.neg,.int .u64 b.num,.string b.text],rfl,Below.refl _ _,(fun _=>rfl),fun o h=>by cases h⟩
            · have e3:v 3=.agg #[.int .i64 a.kind,.bool a.neg,.int .u64 a.num,.string a.text]:=hd 3 (List.contains_iff_mem.1 (by kernel_rfl));have e4:v 4=.agg #[.int .i64 b.kind,.bool b.neg,.int .u64 b.num,.string b.text]:=hd 4 (List.contains_iff_mem.1 (by kernel_rfl))
              refine wpOp_step (o:= _) rfl (fun K' hK=>?_)
              go_simp
              refine (H1.out w1 hBw).mono ?_
              rintro e w3 ⟨rfl,hb3⟩
              exact hK _ _ ⟨.bool true,fr_eq19 (by simp [upd,e3,e4]),hb3,fun _=>rfl,fun o h=>by cases h⟩
            · skip
              refine wpOp_step (o:= _) rfl (fun K' hK=>?_)
              go_simp
              exact hK _ _ ⟨.agg #[.int .i64 a.kind,.bool a.neg,.int .u64 a.num,.string a.text],rfl,Below.refl _ _,(fun _=>rfl),fun o h=>by cases h⟩
            · skip
              refine wpOp_step (o:= _) rfl (fun K' hK=>?_)
              go_simp
              exact hK _ _ ⟨.agg #[.int .i64 b.kind,.bool b.neg,.int .u64 b.num,.string b.text],rfl,Below.refl _ _,(fun _=>rfl),fun o h=>by cases h⟩
            · have e6:v 6=.agg #[.int .i64 a.kind,.bool a.neg,.int .u64 a.num,.string a.text]:=hd 6 (List.contains_iff_mem.1 (by kernel_rfl));have e7:v 7=.agg #[.int .i64 b.kind,.bool b.neg,.int .u64 b.num,.string b.text]:=hd 7 (List.contains_iff_mem.1 (by kernel_rfl))
              refine wpOp_step (o:= _) rfl (fun K' hK=>?_)
              go_simp
              refine (H5.out w1 hBw).mono ?_
              rintro e w3 ⟨rfl,hb3⟩
              exact hK _ _ ⟨.bool false,fr_eq19 (by simp [upd,e6,e7]),hb3,fun _=>rfl,fun o h=>by cases h⟩
            · have e2:v 2=.bool false:=hd 2 (List.contains_iff_mem.1 (by kernel_rfl))
              refine wpOp_step (o:= _) rfl (fun K' hK=>?_)
              go_simp
              exact hK _ _ ⟨.bool false,fr_eq19 (by simp [upd,e2]),Below.refl _ _,(fun _=>rfl),fun o h=>by cases h⟩
            · have e5:v 5=.bool true:=hd 5 (List.contains_iff_mem.1 (by kernel_rfl))
              refine wpOp_step (o:= _) rfl (fun K' hK=>?_)
              go_simp
              exact hK _ _ ⟨.bool true,fr_eq19 (by simp [upd,e5]),Below.refl _ _,(fun _=>rfl),fun o h=>by cases h⟩
            · have e8:v 8=.bool false:=hd 8 (List.contains_iff_mem.1 (by kernel_rfl))
              refine wpOp_step (o:= _) rfl (fun K' hK=>?_)
              go_simp
              exact hK _ _ ⟨.bool false,fr_eq19 (by simp [upd,e8]),Below.refl _ _,(fun _=>rfl),fun o h=>by cases h⟩
          · skip
            have e0:v 0=.agg #[.int .i64 a.kind,.bool a.neg,.int .u64 a.num,.string a.text]:=hv 0 (by decide)
            have e1:v 1=.agg #[.int .i64 b.kind,.bool b.neg,.int .u64 b.num,.string b.text]:=hv 1 (by decide)
            have e2:v 2=.bool false:=hv 2 (by decide)
            have e3:v 3=.agg #[.int .i64 a.kind,.bool a.neg,.int .u64 a.num,.string a.text]:=hv 3 (by decide)
            have e4:v 4=.agg #[.int .i64 b.kind,.bool b.neg,.int .u64 b.num,.string b.text]:=hv 4 (by decide)
            have e5:v 5=.bool true:=hv 5 (by decide)
            have e6:v 6=.agg #[.int .i64 a.kind,.bool a.neg,.int .u64 a.num,.string a.text]:=hv 6 (by decide)
            have e7:v 7=.agg #[.int .i64 b.kind,.bool b.neg,.int .u64 b.num,.string b.text]:=hv 7 (by decide)
            have e8:v 8=.bool false:=hv 8 (by decide)
            have e9:v 9=.bool false:=hv 9 (by decide)
            have e10:v 10=.bool true:=hv 10 (by decide)
            have e11:v 11=.bool false:=hv 11 (by decide)
            have HBe:=Lib.hid hb
            clear hv hdist hBx hb
            refine wpAny_of_held (S:=fun _=>True) _ _ _ _ ?_
            simp only [e0,e1,e2,e3,e4,e5,e6,e7,e8,e9,e10,e11]
            clear e0 e1 e2 e3 e4 e5 e6 e7 e8 e9 e10 e11
            refine wpAnyH_done (by kernel_rfl) ?_ _
            have HS:=Lib.hid (HS.out.next HBe.out)
            clear HBe
            obtain ⟨x0,x1,x2,x3⟩:=bx19 HS.out.x
            obtain ⟨y0,y1,y2,y3⟩:=bx19 HS.out.v
            go_wp2_with (first
             |(go_at_call 14;(with_reducible refine (H2.out _ (by exact HS.out.bel)).mono ?_);rintro e w2 ⟨rfl,hb⟩;have HS:=Lib.hid (HS.out.next hb);clear x0 x1 x2 x3 y0 y1 y2 y3;obtain ⟨x0,x1,x2,x3⟩:=bx19 HS.out.x;obtain ⟨y0,y1,y2,y3⟩:=bx19 HS.out.v;clear hb)
             |(go_at_call 14;(with_reducible refine (H4.out _ (by exact HS.out.bel)).mono ?_);rintro e w2 ⟨rfl,hb⟩;have HS:=Lib.hid (HS.out.next hb);clear x0 x1 x2 x3 y0 y1 y2 y3;obtain ⟨x0,x1,x2,x3⟩:=bx19 HS.out.x;obtain ⟨y0,y1,y2,y3⟩:=bx19 HS.out.v;clear hb)
             |(go_at_call 14;(with_reducible refine (H6.out _ (by exact HS.out.bel)).mono ?_);rintro e w2 ⟨rfl,hb⟩;have HS:=Lib.hid (HS.out.next hb);clear x0 x1 x2 x3 y0 y1 y2 y3;obtain ⟨x0,x1,x2,x3⟩:=bx19 HS.out.x;obtain ⟨y0,y1,y2,y3⟩:=bx19 HS.out.v;clear hb)
             |(go_at_call 14;(with_reducible refine (HG.out _ (by exact HS.out.bel)).mono ?_);rintro e w2 ⟨rfl,hb⟩;have HS:=Lib.hid (HS.out.next hb);clear x0 x1 x2 x3 y0 y1 y2 y3;obtain ⟨x0,x1,x2,x3⟩:=bx19 HS.out.x;obtain ⟨y0,y1,y2,y3⟩:=bx19 HS.out.v;clear hb)
             |(go_at_call 9;(with_reducible refine (HAW.out _ (by exact HS.out.bel)).mono ?_);rintro e w2 ⟨rfl,hb⟩;have HS:=Lib.hid (HS.out.next hb);clear x0 x1 x2 x3 y0 y1 y2 y3;obtain ⟨x0,x1,x2,x3⟩:=bx19 HS.out.x;obtain ⟨y0,y1,y2,y3⟩:=bx19 HS.out.v;clear hb))
            go_ret
            exact ⟨rfl,HS.out.bel⟩
    · obtain rfl:m=0:=k7.trans (cntR_none hk 7)
      obtain ⟨x0,x1,x2,x3⟩:=bx19 HS.out.x
      obtain ⟨y0,y1,y2,y3⟩:=bx19 HS.out.v
      by_cases hkk:a.kind=b.kind
      · have d1:(a.kind !=b.kind)=false:=by rw [bne_eq_false_iff_eq];exact hkk
        have d2:(a.kind==0)=true:=by rw [beq_iff_eq];exact Decidable.not_not.1 fun h=>hk ⟨hkk,h⟩
        clear hk hkk k7
        go_wp2_with (go_at_call 9;(with_reducible refine (HAW.out _ (by exact HS.out.bel)).mono ?_);rintro e w2 ⟨rfl,hb⟩;have HS2:=Lib.hid (HS.out.next hb);clear hb)
        go_ret
        exact ⟨rfl,HS2.out.bel⟩
      · have d1:(a.kind !=b.kind)=true:=by rw [bne_iff_ne];exact hkk
        clear hk hkk k7
        go_wp2_with (go_at_call 9;(with_reducible refine (HAW.out _ (by exact HS.out.bel)).mono ?_);rintro e w2 ⟨rfl,hb⟩;have HS2:=Lib.hid (HS.out.next hb);clear hb)
        go_ret
        exact ⟨rfl,HS2.out.bel⟩
end Go.Proofs.YthcompcjphaahaaGreatDoor
