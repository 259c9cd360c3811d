/- Chapter 19's law TruthRel, walked. -/
import Derived.Test.YthcompcjphaahaaGreatDoora49
import Derived.Test.YthcompcjphaahaaGreatDoora52
namespace Go.Proofs.YthcompcjphaahaaGreatDoor
open Go.RowKit
set_option linter.unusedVariables false
set_option linter.unusedSimpArgs false
set_option maxRecDepth 100000 in
set_option maxHeartbeats 4000000 in
theorem walkRel (r:Int) (a b:DatV) (ha:(Lit.int .u64 a.num).wf=true∧0≤a.num∧a.text.size≤140737488351232) (hb:(Lit.int .u64 b.num).wf=true∧0≤b.num∧b.text.size≤140737488351232) (w:World) (hV:LibAt w):
  Calls Tryz.prog 4 #[.int .i64 r,.agg #[.int .i64 a.kind,.bool a.neg,.int .u64 a.num,.string a.text],.agg #[.int .i64 b.kind,.bool b.neg,.int .u64 b.num,.string b.text]] w fun e w'=>e=.returned (.bool true)∧Below w.heap.size w w':=by
 have HC:=Lib.hid (fun wx (hx:Below w.heap.size w wx)=>rel_any r a b ha.1 hb.1 (by omega) (by omega) wx)
 have HR:=Lib.hid (fun wx (hx:Below w.heap.size w wx)=>refRel_any r a b ha.2.1 hb.2.1 wx)
 have HAW:=Lib.hid (fun wx (hx:Below w.heap.size w wx)=>awake19 wx (hV.held hx))
 obtain ⟨q,hq⟩:∃ q,relB r a b=q:=⟨_,rfl⟩
 rw [hq] at HC HR
 obtain ⟨ka,ga,na,ta⟩:=a
 obtain ⟨kb,gb,nb,tb⟩:=b
 simp only at HC HR ⊢
 have HS:=Lib.hid (Tst.start w #[.int .i64 ka,.bool ga,.int .u64 na,.string ta] #[.int .i64 kb,.bool gb,.int .u64 nb,.string tb] 42 42)
 obtain ⟨W0,hW0⟩:∃ W0,(w.alloc (.cells #[.int .i64 ka,.bool ga,.int .u64 na,.string ta] 42)).alloc (.cells #[.int .i64 kb,.bool gb,.int .u64 nb,.string tb] 42)=W0:=⟨_,rfl⟩
 rw [hW0] at HS
 clear hq ha hb hV
 go_enter Tryz.func4,Tryz.ntmps4
 go_upto_region 1 with (fail)
 try rw [hW0]
 clear hW0
 refine wp_region_ext (by kernel_rfl) 13 (fun v=>((.int .i64 r:Value)::(.agg #[.int .i64 ka,.bool ga,.int .u64 na,.string ta]:Value)::(.agg #[.int .i64 kb,.bool gb,.int .u64 nb,.string tb]:Value)::(undef:Value)::(.pointer (some ⟨w.heap.size,0,none⟩):Value)::(.pointer (some ⟨w.heap.size+1,0,none⟩):Value)::v 12::v 0::v 1::v 2::v 3::v 4::v 5::v 6::v 7::v 8::v 9::v 10::v 11::[]).toArray) (fun k=>if k=12 then .bool false else undef) (fun _=>none) (fun j=>[.int .i64 r,.agg #[.int .i64 ka,.bool ga,.int .u64 na,.string ta],.agg #[.int .i64 kb,.bool gb,.int .u64 nb,.string tb],.bool q,.int .i64 r,.agg #[.int .i64 ka,.bool ga,.int .u64 na,.string ta],.agg #[.int .i64 kb,.bool gb,.int .u64 nb,.string tb],.bool q,.bool true,.bool true,.bool true,.bool true,.bool true].getD j undef) (fun w'=>Below W0.heap.size W0 w')
  (Nat.le_of_ble_eq_true (by kernel_rfl)) (by kernel_rfl) (fun _ _ h hb=>bth h hb) (Below.refl _ _) (fun j hj v w1 hBx hsz hd=>?_) (fun v w1 hv hdist hBx hb=>?_)
 · have hBw:=bth HS.out.bel hBx
   have HX:=HS.out.next hBx
   obtain ⟨x0,x1,x2,x3⟩:=bx19 HX.x
   obtain ⟨y0,y1,y2,y3⟩:=bx19 HX.v
   clear HX
   have hjN:j=0∨j=1∨j=2∨j=3∨j=4∨j=5∨j=6∨j=7∨j=8∨j=9∨j=10∨j=11∨j=12:=by omega
   rcases hjN with rfl|rfl|rfl|rfl|rfl|rfl|rfl|rfl|rfl|rfl|rfl|rfl|rfl
   · skip
     refine wpOp_step (o:= _) rfl (fun K' hK=>?_)
     go_simp
     exact hK _ _ ⟨.int .i64 r,rfl,Below.refl _ _,(fun _=>rfl),fun o h=>by cases h⟩
   · skip
     refine wpOp_step (o:= _) rfl (fun K' hK=>?_)
     go_simp
     exact hK _ _ ⟨.agg #[.int .i64 ka,.bool ga,.int .u64 na,.string ta],rfl,Below.refl _ _,(fun _=>rfl),fun o h=>by cases h⟩
   · skip
     refine wpOp_step (o:= _) rfl (fun K' hK=>?_)
     go_simp
     exact hK _ _ ⟨.agg #[.int .i64 kb,.bool gb,.int .u64 nb,.string tb],rfl,Below.refl _ _,(fun _=>rfl),fun o h=>by cases h⟩
   · have e0:v 0=.int .i64 r:=hd 0 (List.contains_iff_mem.1 (by kernel_rfl));have e1:v 1=.agg #[.int .i64 ka,.bool ga,.int .u64 na,.string ta]:=hd 1 (List.contains_iff_mem.1 (by kernel_rfl));have e2:v 2=.agg #[.int .i64 kb,.bool gb,.int .u64 nb,.string tb]:=hd 2 (List.contains_iff_mem.1 (by kernel_rfl))
     refine wpOp_step (o:= _) rfl (fun K' hK=>?_)
     go_simp
     refine (HC.out w1 hBw).mono ?_
     rintro e w3 ⟨rfl,hb3⟩
     exact hK _ _ ⟨.bool q,fr_eq19 (by simp [upd,e0,e1,e2]),hb3,fun _=>rfl,fun o h=>by cases h⟩
   · skip
     refine wpOp_step (o:= _) rfl (fun K' hK=>?_)
     go_simp
     exact hK _ _ ⟨.int .i64 r,rfl,Below.refl _ _,(fun _=>rfl),fun o h=>by cases h⟩
   · skip
     refine wpOp_step (o:= _) rfl (fun K' hK=>?_)
     go_simp
     exact hK _ _ ⟨.agg #[.int .i64 ka,.bool ga,.int .u64 na,.string ta],rfl,Below.refl _ _,(fun _=>rfl),fun o h=>by cases h⟩
   · skip
     refine wpOp_step (o:= _) rfl (fun K' hK=>?_)
     go_simp
     exact hK _ _ ⟨.agg #[.int .i64 kb,.bool gb,.int .u64 nb,.string tb],rfl,Below.refl _ _,(fun _=>rfl),fun o h=>by cases h⟩
   · have e4:v 4=.int .i64 r:=hd 4 (List.contains_iff_mem.1 (by kernel_rfl));have e5:v 5=.agg #[.int .i64 ka,.bool ga,.int .u64 na,.string ta]:=hd 5 (List.contains_iff_mem.1 (by kernel_rfl));have e6:v 6=.agg #[.int .i64 kb,.bool gb,.int .u64 nb,.string tb]:=hd 6 (List.contains_iff_mem.1 (by kernel_rfl))
     refine wpOp_step (o:= _) rfl (fun K' hK=>?_)
     go_simp
     refine (HR.out w1 hBw).mono ?_
     rintro e w3 ⟨rfl,hb3⟩
     exact hK _ _ ⟨.bool q,fr_eq19 (by simp [upd,e4,e5,e6]),hb3,fun _=>rfl,fun o h=>by cases h⟩
   · have e3:v 3=.bool q:=hd 3 (List.contains_iff_mem.1 (by kernel_rfl));have e7:v 7=.bool q:=hd 7 (List.contains_iff_mem.1 (by kernel_rfl))
     refine wpOp_step (o:= _) rfl (fun K' hK=>?_)
     go_simp
     exact hK _ _ ⟨.bool true,fr_eq19 (by simp [upd,e3,e7]),Below.refl _ _,(fun _=>rfl),fun o h=>by cases h⟩
   · have e8:v 8=.bool true:=hd 8 (List.contains_iff_mem.1 (by kernel_rfl))
     refine wpOp_step (o:= _) rfl (fun K' hK=>?_)
     go_simp
     exact hK _ _ ⟨.bool true,fr_eq19 (by simp [upd,e8]),Below.refl _ _,(fun _=>rfl),fun o h=>by cases h⟩
   · have e9:v 9=.bool true:=hd 9 (List.contains_iff_mem.1 (by kernel_rfl))
     refine wpOp_step (o:= _) rfl (fun K' hK=>?_)
     go_simp
     refine (HAW.out w1 hBw).mono ?_
     rintro e w3 ⟨rfl,hb3⟩
     exact hK _ _ ⟨.bool true,fr_eq19 (by simp [upd,e9]),hb3,fun _=>rfl,fun o h=>by cases h⟩
   · have e9:v 9=.bool true:=hd 9 (List.contains_iff_mem.1 (by kernel_rfl));have e10:v 10=.bool true:=hd 10 (List.contains_iff_mem.1 (by kernel_rfl))
     refine wpOp_step (o:= _) rfl (fun K' hK=>?_)
     go_simp
     exact hK _ _ ⟨.bool true,fr_eq19 (by simp [upd,e9,e10]),Below.refl _ _,(fun _=>rfl),fun o h=>by cases h⟩
   · have e11:v 11=.bool true:=hd 11 (List.contains_iff_mem.1 (by kernel_rfl))
     refine wpOp_step (o:= _) rfl (fun K' hK=>?_)
     go_simp
     exact hK _ _ ⟨.bool true,fr_eq19 (by simp [upd,e11]),Below.refl _ _,(fun _=>rfl),fun o h=>by cases h⟩
 · skip
   have e0:v 0=.int .i64 r:=hv 0 (by decide)
   have e1:v 1=.agg #[.int .i64 ka,.bool ga,.int .u64 na,.string ta]:=hv 1 (by decide)
   have e2:v 2=.agg #[.int .i64 kb,.bool gb,.int .u64 nb,.string tb]:=hv 2 (by decide)
   have e3:v 3=.bool q:=hv 3 (by decide)
   have e4:v 4=.int .i64 r:=hv 4 (by decide)
   have e5:v 5=.agg #[.int .i64 ka,.bool ga,.int .u64 na,.string ta]:=hv 5 (by decide)
   have e6:v 6=.agg #[.int .i64 kb,.bool gb,.int .u64 nb,.string tb]:=hv 6 (by decide)
   have e7:v 7=.bool q:=hv 7 (by decide)
   have e8:v 8=.bool true:=hv 8 (by decide)
   have e9:v 9=.bool true:=hv 9 (by decide)
   have e10:v 10=.bool true:=hv 10 (by decide)
   have e11:v 11=.bool true:=hv 11 (by decide)
   have e12:v 12=.bool true:=hv 12 (by decide)
   have HBe:=Lib.hid hb
   clear hv hdist hBx hb
   refine wpAny_of_held (S:=fun _=>True) _ _ _ _ ?_
   simp only [e0,e1,e2,e3,e4,e5,e6,e7,e8,e9,e10,e11,e12]
   clear e0 e1 e2 e3 e4 e5 e6 e7 e8 e9 e10 e11 e12
   refine wpAnyH_done (by kernel_rfl) ?_ _
   go_wp2_with fail
   go_ret
   exact ⟨rfl,bth HS.out.bel HBe.out⟩
end Go.Proofs.YthcompcjphaahaaGreatDoor
