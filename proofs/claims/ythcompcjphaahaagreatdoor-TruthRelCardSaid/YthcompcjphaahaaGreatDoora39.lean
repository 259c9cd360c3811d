/- Chapter 19's code: whether a tree holds: the trees with parts, and all. -/
import Derived.Test.YthcompcjphaahaaGreatDoora38
namespace Go.Proofs.YthcompcjphaahaaGreatDoor
open Go.RowKit
set_option linter.unusedVariables false
set_option linter.unusedSimpArgs false
set_option maxRecDepth 100000 in
set_option maxHeartbeats 8000000 in
theorem not_yes (D:Opd→Opd→DatV) (b:Nat) (rel:Int) (aa:Option Addr) (an ac:Nat) (kb ko kn kc:Nat) (hkn:0<kn) (f:Nat→XT) (w:World) (hl:∀ wx,Below w.heap.size w wx→LiesAt wx kb ko (xtC (f 0))) (h:∀ wx,Below w.heap.size w wx→HoldTo D b (f 0) wx):
  Calls Tryz.prog 27 #[dfn b,.agg #[.int .i64 4,.int .i64 rel,.slice aa an ac,.slice (some ⟨kb,ko,none⟩) kn kc]] w fun e w'=>e=.returned (.bool (!holdB D (f 0)))∧Below w.heap.size w w':=by
 unfold HoldTo at h
 obtain ⟨q,hq⟩:∃ q,holdB D (f 0)=q:=⟨_,rfl⟩
 rw [hq] at h ⊢
 have HI:=Lib.hid h
 have HL:=Lib.hid hl
 have hk0:decide ((0:Int)<(kn:Int))=true:=decide_eq_true (by omega)
 have hk1:(0:Int)<(kn:Int):=by omega
 unfold dfn at HI
 have HH:=Lib.hid (Hst.start w b 4 rel aa an ac (some ⟨kb,ko,none⟩) kn kc)
 obtain ⟨W0,hW0⟩:∃ W0,(w.alloc (.cells #[dfn b] 64)).alloc (.cells #[.int .i64 4,.int .i64 rel,.slice aa an ac,.slice (some ⟨kb,ko,none⟩) kn kc] 26)=W0:=⟨_,rfl⟩
 rw [hW0] at HH
 unfold dfn at hW0 ⊢
 clear h hl hq
 go_enter Tryz.func27,Tryz.ntmps27
 go_upto_region 1 with (fail)
 try rw [hW0]
 clear hW0
 obtain ⟨x0,x1,x2,x3⟩:=bx19 HH.out.x
 go_upto_region 10 with (fail)
 clear x0 x1 x2 x3
 refine wp_region_ext (by kernel_rfl) 14 (fun v=>((.func (.func 46) #[] #[.pointer (some ⟨b,0,none⟩),.pointer (some ⟨b+1,0,none⟩),.pointer (some ⟨b+2,0,none⟩)]:Value)::(.agg #[.int .i64 4,.int .i64 rel,.slice aa an ac,.slice (some ⟨kb,ko,none⟩) kn kc]:Value)::(.pointer (some ⟨w.heap.size,0,none⟩):Value)::(.pointer (some ⟨w.heap.size+1,0,none⟩):Value)::v 13::(.slice aa an ac:Value)::(.pointer (some ⟨w.heap.size+1,2,none⟩):Value)::(.slice aa an ac:Value)::(.pointer (some ⟨w.heap.size+1,0,none⟩):Value)::(.int .i64 4:Value)::(.bool false:Value)::(.bool false:Value)::(undef:Value)::(undef:Value)::(undef:Value)::(undef:Value)::(undef:Value)::(undef:Value)::(undef:Value)::(undef:Value)::(undef:Value)::(undef:Value)::(undef:Value)::(undef:Value)::(undef:Value)::(undef:Value)::(undef:Value)::(.bool false:Value)::(.bool false:Value)::(undef:Value)::(undef:Value)::(undef:Value)::(undef:Value)::(undef:Value)::(undef:Value)::(undef:Value)::(undef:Value)::(undef:Value)::(undef:Value)::(undef:Value)::(undef:Value)::(undef:Value)::(undef:Value)::(undef:Value)::(undef:Value)::(undef:Value)::(undef:Value)::(undef:Value)::(undef:Value)::(undef:Value)::(undef:Value)::(undef:Value)::(.bool false:Value)::(.bool false:Value)::(undef:Value)::(undef:Value)::(undef:Value)::(undef:Value)::(undef:Value)::(undef:Value)::(undef:Value)::(undef:Value)::(undef:Value)::(undef:Value)::(undef:Value)::(undef:Value)::(undef:Value)::(.bool true:Value)::(.bool true:Value)::v 0::v 1::v 2::v 3::v 4::v 5::v 6::v 7::v 8::v 9::v 10::v 11::v 12::(undef:Value)::(undef:Value)::(undef:Value)::(undef:Value)::(undef:Value)::(undef:Value)::(undef:Value)::(undef:Value)::(undef:Value)::(undef:Value)::(undef:Value)::(undef:Value)::(undef:Value)::(undef:Value)::[]).toArray) (fun k=>if k=13 then .bool false else undef) (fun _=>none) (fun j=>[.pointer (some ⟨w.heap.size+1,3,none⟩),.slice (some ⟨kb,ko,none⟩) kn kc,.int .i64 (kn:Nat),.bool true,.bool true,.func (.func 46) #[] #[.pointer (some ⟨b,0,none⟩),.pointer (some ⟨b+1,0,none⟩),.pointer (some ⟨b+2,0,none⟩)],.pointer (some ⟨w.heap.size+1,3,none⟩),.slice (some ⟨kb,ko,none⟩) kn kc,.pointer (some ⟨kb,ko,none⟩),.agg #[.int .i64 (f 0).op,.int .i64 (f 0).rel,.slice (f 0).aa (f 0).an (f 0).ac,.slice (f 0).ka (f 0).kn (f 0).kc],.bool q,.bool (!q),.bool (!q),.bool (!q)].getD j undef) (fun w'=>Below W0.heap.size W0 w')
  (Nat.le_of_ble_eq_true (by kernel_rfl)) (by kernel_rfl) (fun _ _ h hb=>bth h hb) (Below.refl _ _) (fun j hj v w1 hBx hsz hd=>?_) (fun v w1 hv hdist hBx hb=>?_)
 · have hBw:=bth HH.out.bel hBx
   have HX:=HH.out.next hBx
   have y0:=cell_at (j:=0) HX.d rfl
   obtain ⟨x0,x1,x2,x3⟩:=bx19 HX.x
   have hl0:=HL.out w1 hBw
   have z00:w1.cell? ⟨kb,ko,none⟩=some (.int .i64 (f 0).op):=hl0 0 _ rfl
   have z01:w1.cell? ⟨kb,ko+1,none⟩=some (.int .i64 (f 0).rel):=hl0 1 _ rfl
   have z02:w1.cell? ⟨kb,ko+2,none⟩=some (.slice (f 0).aa (f 0).an (f 0).ac):=hl0 2 _ rfl
   have z03:w1.cell? ⟨kb,ko+3,none⟩=some (.slice (f 0).ka (f 0).kn (f 0).kc):=hl0 3 _ rfl
   clear hl0 HX
   have hjN:j=0∨j=1∨j=2∨j=3∨j=4∨j=5∨j=6∨j=7∨j=8∨j=9∨j=10∨j=11∨j=12∨j=13:=by omega
   rcases hjN with rfl|rfl|rfl|rfl|rfl|rfl|rfl|rfl|rfl|rfl|rfl|rfl|rfl|rfl
   · skip
     refine wpOp_step (o:= _) rfl (fun K' hK=>?_)
     go_simp
     exact hK _ _ ⟨.pointer (some ⟨w.heap.size+1,3,none⟩),rfl,Below.refl _ _,(fun _=>rfl),fun o h=>by cases h⟩
   · have e0:v 0=.pointer (some ⟨w.heap.size+1,3,none⟩):=hd 0 (List.contains_iff_mem.1 (by kernel_rfl))
     refine wpOp_step (o:= _) rfl (fun K' hK=>?_)
     go_simp
     exact hK _ _ ⟨.slice (some ⟨kb,ko,none⟩) kn kc,fr_eq19 (by simp [upd,e0]),Below.refl _ _,(fun _=>rfl),fun o h=>by cases h⟩
   · have e1:v 1=.slice (some ⟨kb,ko,none⟩) kn kc:=hd 1 (List.contains_iff_mem.1 (by kernel_rfl))
     refine wpOp_step (o:= _) rfl (fun K' hK=>?_)
     go_simp
     exact hK _ _ ⟨.int .i64 (kn:Nat),fr_eq19 (by simp [upd,e1]),Below.refl _ _,(fun _=>rfl),fun o h=>by cases h⟩
   · have e2:v 2=.int .i64 (kn:Nat):=hd 2 (List.contains_iff_mem.1 (by kernel_rfl))
     refine wpOp_step (o:= _) rfl (fun K' hK=>?_)
     go_simp
     exact hK _ _ ⟨.bool true,fr_eq19 (by simp [upd,e2]),Below.refl _ _,(fun _=>rfl),fun o h=>by cases h⟩
   · have e3:v 3=.bool true:=hd 3 (List.contains_iff_mem.1 (by kernel_rfl))
     refine wpOp_step (o:= _) rfl (fun K' hK=>?_)
     go_simp
     exact hK _ _ ⟨.bool true,fr_eq19 (by simp [upd,e3]),Below.refl _ _,(fun _=>rfl),fun o h=>by cases h⟩
   · have e4:v 4=.bool true:=hd 4 (List.contains_iff_mem.1 (by kernel_rfl))
     refine wpOp_step (o:= _) rfl (fun K' hK=>?_)
     go_simp
     exact hK _ _ ⟨.func (.func 46) #[] #[.pointer (some ⟨b,0,none⟩),.pointer (some ⟨b+1,0,none⟩),.pointer (some ⟨b+2,0,none⟩)],fr_eq19 (by simp [upd,e4]),Below.refl _ _,(fun _=>rfl),fun o h=>by cases h⟩
   · have e4:v 4=.bool true:=hd 4 (List.contains_iff_mem.1 (by kernel_rfl))
     refine wpOp_step (o:= _) rfl (fun K' hK=>?_)
     go_simp
     exact hK _ _ ⟨.pointer (some ⟨w.heap.size+1,3,none⟩),fr_eq19 (by simp [upd,e4]),Below.refl _ _,(fun _=>rfl),fun o h=>by cases h⟩
   · have e4:v 4=.bool true:=hd 4 (List.contains_iff_mem.1 (by kernel_rfl));have e6:v 6=.pointer (some ⟨w.heap.size+1,3,none⟩):=hd 6 (List.contains_iff_mem.1 (by kernel_rfl))
     refine wpOp_step (o:= _) rfl (fun K' hK=>?_)
     go_simp
     exact hK _ _ ⟨.slice (some ⟨kb,ko,none⟩) kn kc,fr_eq19 (by simp [upd,e4,e6]),Below.refl _ _,(fun _=>rfl),fun o h=>by cases h⟩
   · have e4:v 4=.bool true:=hd 4 (List.contains_iff_mem.1 (by kernel_rfl));have e7:v 7=.slice (some ⟨kb,ko,none⟩) kn kc:=hd 7 (List.contains_iff_mem.1 (by kernel_rfl))
     refine wpOp_step (o:= _) rfl (fun K' hK=>?_)
     go_simp
     exact hK _ _ ⟨.pointer (some ⟨kb,ko,none⟩),fr_eq19 (by simp [upd,e4,e7]),Below.refl _ _,(fun _=>rfl),fun o h=>by cases h⟩
   · have e4:v 4=.bool true:=hd 4 (List.contains_iff_mem.1 (by kernel_rfl));have e8:v 8=.pointer (some ⟨kb,ko,none⟩):=hd 8 (List.contains_iff_mem.1 (by kernel_rfl))
     refine wpOp_step (o:= _) rfl (fun K' hK=>?_)
     go_simp
     exact hK _ _ ⟨.agg #[.int .i64 (f 0).op,.int .i64 (f 0).rel,.slice (f 0).aa (f 0).an (f 0).ac,.slice (f 0).ka (f 0).kn (f 0).kc],fr_eq19 (by simp [upd,e4,e8]),Below.refl _ _,(fun _=>rfl),fun o h=>by cases h⟩
   · have e4:v 4=.bool true:=hd 4 (List.contains_iff_mem.1 (by kernel_rfl));have e5:v 5=.func (.func 46) #[] #[.pointer (some ⟨b,0,none⟩),.pointer (some ⟨b+1,0,none⟩),.pointer (some ⟨b+2,0,none⟩)]:=hd 5 (List.contains_iff_mem.1 (by kernel_rfl));have e9:v 9=.agg #[.int .i64 (f 0).op,.int .i64 (f 0).rel,.slice (f 0).aa (f 0).an (f 0).ac,.slice (f 0).ka (f 0).kn (f 0).kc]:=hd 9 (List.contains_iff_mem.1 (by kernel_rfl))
     refine wpOp_step (o:= _) rfl (fun K' hK=>?_)
     go_simp
     refine (HI.out w1 hBw).mono ?_
     rintro e w3 ⟨rfl,hb3⟩
     exact hK _ _ ⟨.bool q,fr_eq19 (by simp [upd,e4,e5,e9]),hb3,fun _=>rfl,fun o h=>by cases h⟩
   · have e4:v 4=.bool true:=hd 4 (List.contains_iff_mem.1 (by kernel_rfl));have e10:v 10=.bool q:=hd 10 (List.contains_iff_mem.1 (by kernel_rfl))
     refine wpOp_step (o:= _) rfl (fun K' hK=>?_)
     go_simp
     exact hK _ _ ⟨.bool (!q),fr_eq19 (by simp [upd,e4,e10]),Below.refl _ _,(fun _=>rfl),fun o h=>by cases h⟩
   · have e4:v 4=.bool true:=hd 4 (List.contains_iff_mem.1 (by kernel_rfl));have e11:v 11=.bool (!q):=hd 11 (List.contains_iff_mem.1 (by kernel_rfl))
     refine wpOp_step (o:= _) rfl (fun K' hK=>?_)
     go_simp
     exact hK _ _ ⟨.bool (!q),fr_eq19 (by simp [upd,e4,e11]),Below.refl _ _,(fun _=>rfl),fun o h=>by cases h⟩
   · have e12:v 12=.bool (!q):=hd 12 (List.contains_iff_mem.1 (by kernel_rfl))
     refine wpOp_step (o:= _) rfl (fun K' hK=>?_)
     go_simp
     exact hK _ _ ⟨.bool (!q),fr_eq19 (by simp [upd,e12]),Below.refl _ _,(fun _=>rfl),fun o h=>by cases h⟩
 · skip
   have e0:v 0=.pointer (some ⟨w.heap.size+1,3,none⟩):=hv 0 (by decide)
   have e1:v 1=.slice (some ⟨kb,ko,none⟩) kn kc:=hv 1 (by decide)
   have e2:v 2=.int .i64 (kn:Nat):=hv 2 (by decide)
   have e3:v 3=.bool true:=hv 3 (by decide)
   have e4:v 4=.bool true:=hv 4 (by decide)
   have e5:v 5=.func (.func 46) #[] #[.pointer (some ⟨b,0,none⟩),.pointer (some ⟨b+1,0,none⟩),.pointer (some ⟨b+2,0,none⟩)]:=hv 5 (by decide)
   have e6:v 6=.pointer (some ⟨w.heap.size+1,3,none⟩):=hv 6 (by decide)
   have e7:v 7=.slice (some ⟨kb,ko,none⟩) kn kc:=hv 7 (by decide)
   have e8:v 8=.pointer (some ⟨kb,ko,none⟩):=hv 8 (by decide)
   have e9:v 9=.agg #[.int .i64 (f 0).op,.int .i64 (f 0).rel,.slice (f 0).aa (f 0).an (f 0).ac,.slice (f 0).ka (f 0).kn (f 0).kc]:=hv 9 (by decide)
   have e10:v 10=.bool q:=hv 10 (by decide)
   have e11:v 11=.bool (!q):=hv 11 (by decide)
   have e12:v 12=.bool (!q):=hv 12 (by decide)
   have e13:v 13=.bool (!q):=hv 13 (by decide)
   have HBe:=Lib.hid hb
   clear hv hdist hBx hb
   refine wpAny_of_held (S:=fun _=>True) _ _ _ _ ?_
   simp only [e0,e1,e2,e3,e4,e5,e6,e7,e8,e9,e10,e11,e12,e13]
   clear e0 e1 e2 e3 e4 e5 e6 e7 e8 e9 e10 e11 e12 e13
   refine wpAnyH_done (by kernel_rfl) ?_ _
   go_wp2_with fail
   go_ret
   exact ⟨rfl,bth HH.out.bel HBe.out⟩
set_option maxRecDepth 100000 in
set_option maxHeartbeats 8000000 in
theorem not_no (D:Opd→Opd→DatV) (b:Nat) (rel:Int) (aa:Option Addr) (an ac:Nat) (ka:Option Addr) (kc:Nat) (w:World):
  Calls Tryz.prog 27 #[dfn b,.agg #[.int .i64 4,.int .i64 rel,.slice aa an ac,.slice ka 0 kc]] w fun e w'=>e=.returned (.bool false)∧Below w.heap.size w w':=by
 have HH:=Lib.hid (Hst.start w b 4 rel aa an ac ka 0 kc)
 obtain ⟨W0,hW0⟩:∃ W0,(w.alloc (.cells #[dfn b] 64)).alloc (.cells #[.int .i64 4,.int .i64 rel,.slice aa an ac,.slice ka 0 kc] 26)=W0:=⟨_,rfl⟩
 rw [hW0] at HH
 unfold dfn at hW0 ⊢
 go_enter Tryz.func27,Tryz.ntmps27
 go_upto_region 1 with (fail)
 try rw [hW0]
 clear hW0
 obtain ⟨x0,x1,x2,x3⟩:=bx19 HH.out.x
 go_upto_region 10 with (fail)
 clear x0 x1 x2 x3
 refine wp_region_ext (by kernel_rfl) 14 (fun v=>((.func (.func 46) #[] #[.pointer (some ⟨b,0,none⟩),.pointer (some ⟨b+1,0,none⟩),.pointer (some ⟨b+2,0,none⟩)]:Value)::(.agg #[.int .i64 4,.int .i64 rel,.slice aa an ac,.slice ka 0 kc]:Value)::(.pointer (some ⟨w.heap.size,0,none⟩):Value)::(.pointer (some ⟨w.heap.size+1,0,none⟩):Value)::v 13::(.slice aa an ac:Value)::(.pointer (some ⟨w.heap.size+1,2,none⟩):Value)::(.slice aa an ac:Value)::(.pointer (some ⟨w.heap.size+1,0,none⟩):Value)::(.int .i64 4:Value)::(.bool false:Value)::(.bool false:Value)::(undef:Value)::(undef:Value)::(undef:Value)::(undef:Value)::(undef:Value)::(undef:Value)::(undef:Value)::(undef:Value)::(undef:Value)::(undef:Value)::(undef:Value)::(undef:Value)::(undef:Value)::(undef:Value)::(undef:Value)::(.bool false:Value)::(.bool false:Value)::(undef:Value)::(undef:Value)::(undef:Value)::(undef:Value)::(undef:Value)::(undef:Value)::(undef:Value)::(undef:Value)::(undef:Value)::(undef:Value)::(undef:Value)::(undef:Value)::(undef:Value)::(undef:Value)::(undef:Value)::(undef:Value)::(undef:Value)::(undef:Value)::(undef:Value)::(undef:Value)::(undef:Value)::(undef:Value)::(undef:Value)::(.bool false:Value)::(.bool false:Value)::(undef:Value)::(undef:Value)::(undef:Value)::(undef:Value)::(undef:Value)::(undef:Value)::(undef:Value)::(undef:Value)::(undef:Value)::(undef:Value)::(undef:Value)::(undef:Value)::(undef:Value)::(.bool true:Value)::(.bool true:Value)::v 0::v 1::v 2::v 3::v 4::v 5::v 6::v 7::v 8::v 9::v 10::v 11::v 12::(undef:Value)::(undef:Value)::(undef:Value)::(undef:Value)::(undef:Value)::(undef:Value)::(undef:Value)::(undef:Value)::(undef:Value)::(undef:Value)::(undef:Value)::(undef:Value)::(undef:Value)::(undef:Value)::[]).toArray) (fun k=>if k=13 then .bool false else undef) (fun _=>none) (fun j=>[.pointer (some ⟨w.heap.size+1,3,none⟩),.slice ka 0 kc,.int .i64 0,.bool false,.bool false,undef,undef,undef,undef,undef,undef,undef,.bool false,.bool false].getD j undef) (fun w'=>Below W0.heap.size W0 w')
  (Nat.le_of_ble_eq_true (by kernel_rfl)) (by kernel_rfl) (fun _ _ h hb=>bth h hb) (Below.refl _ _) (fun j hj v w1 hBx hsz hd=>?_) (fun v w1 hv hdist hBx hb=>?_)
 · have hBw:=bth HH.out.bel hBx
   have HX:=HH.out.next hBx
   have y0:=cell_at (j:=0) HX.d rfl
   obtain ⟨x0,x1,x2,x3⟩:=bx19 HX.x
   clear HX
   have hjN:j=0∨j=1∨j=2∨j=3∨j=4∨j=5∨j=6∨j=7∨j=8∨j=9∨j=10∨j=11∨j=12∨j=13:=by omega
   rcases hjN with rfl|rfl|rfl|rfl|rfl|rfl|rfl|rfl|rfl|rfl|rfl|rfl|rfl|rfl
   · skip
     refine wpOp_step (o:= _) rfl (fun K' hK=>?_)
     go_simp
     exact hK _ _ ⟨.pointer (some ⟨w.heap.size+1,3,none⟩),rfl,Below.refl _ _,(fun _=>rfl),fun o h=>by cases h⟩
   · have e0:v 0=.pointer (some ⟨w.heap.size+1,3,none⟩):=hd 0 (List.contains_iff_mem.1 (by kernel_rfl))
     refine wpOp_step (o:= _) rfl (fun K' hK=>?_)
     go_simp
     exact hK _ _ ⟨.slice ka 0 kc,fr_eq19 (by simp [upd,e0]),Below.refl _ _,(fun _=>rfl),fun o h=>by cases h⟩
   · have e1:v 1=.slice ka 0 kc:=hd 1 (List.contains_iff_mem.1 (by kernel_rfl))
     refine wpOp_step (o:= _) rfl (fun K' hK=>?_)
     go_simp
     exact hK _ _ ⟨.int .i64 0,fr_eq19 (by simp [upd,e1]),Below.refl _ _,(fun _=>rfl),fun o h=>by cases h⟩
   · have e2:v 2=.int .i64 0:=hd 2 (List.contains_iff_mem.1 (by kernel_rfl))
     refine wpOp_step (o:= _) rfl (fun K' hK=>?_)
     go_simp
     exact hK _ _ ⟨.bool false,fr_eq19 (by simp [upd,e2]),Below.refl _ _,(fun _=>rfl),fun o h=>by cases h⟩
   · have e3:v 3=.bool false:=hd 3 (List.contains_iff_mem.1 (by kernel_rfl))
     refine wpOp_step (o:= _) rfl (fun K' hK=>?_)
     go_simp
     exact hK _ _ ⟨.bool false,fr_eq19 (by simp [upd,e3]),Below.refl _ _,(fun _=>rfl),fun o h=>by cases h⟩
   · have e4:v 4=.bool false:=hd 4 (List.contains_iff_mem.1 (by kernel_rfl))
     refine wpOp_step (o:= _) rfl (fun K' hK=>?_)
     go_simp
     exact hK _ _ ⟨undef,fr_eq19 (by simp [upd,e4]),Below.refl _ _,(fun _=>rfl),fun o h=>by cases h⟩
   · have e4:v 4=.bool false:=hd 4 (List.contains_iff_mem.1 (by kernel_rfl))
     refine wpOp_step (o:= _) rfl (fun K' hK=>?_)
     go_simp
     exact hK _ _ ⟨undef,fr_eq19 (by simp [upd,e4]),Below.refl _ _,(fun _=>rfl),fun o h=>by cases h⟩
   · have e4:v 4=.bool false:=hd 4 (List.contains_iff_mem.1 (by kernel_rfl));have e6:v 6=undef:=hd 6 (List.contains_iff_mem.1 (by kernel_rfl))
     refine wpOp_step (o:= _) rfl (fun K' hK=>?_)
     go_simp
     exact hK _ _ ⟨undef,fr_eq19 (by simp [upd,e4,e6]),Below.refl _ _,(fun _=>rfl),fun o h=>by cases h⟩
   · have e4:v 4=.bool false:=hd 4 (List.contains_iff_mem.1 (by kernel_rfl));have e7:v 7=undef:=hd 7 (List.contains_iff_mem.1 (by kernel_rfl))
     refine wpOp_step (o:= _) rfl (fun K' hK=>?_)
     go_simp
     exact hK _ _ ⟨undef,fr_eq19 (by simp [upd,e4,e7]),Below.refl _ _,(fun _=>rfl),fun o h=>by cases h⟩
   · have e4:v 4=.bool false:=hd 4 (List.contains_iff_mem.1 (by kernel_rfl));have e8:v 8=undef:=hd 8 (List.contains_iff_mem.1 (by kernel_rfl))
     refine wpOp_step (o:= _) rfl (fun K' hK=>?_)
     go_simp
     exact hK _ _ ⟨undef,fr_eq19 (by simp [upd,e4,e8]),Below.refl _ _,(fun _=>rfl),fun o h=>by cases h⟩
   · have e4:v 4=.bool false:=hd 4 (List.contains_iff_mem.1 (by kernel_rfl));have e5:v 5=undef:=hd 5 (List.contains_iff_mem.1 (by kernel_rfl));have e9:v 9=undef:=hd 9 (List.contains_iff_mem.1 (by kernel_rfl))
     refine wpOp_step (o:= _) rfl (fun K' hK=>?_)
     go_simp
     exact hK _ _ ⟨undef,fr_eq19 (by simp [upd,e4,e5,e9]),Below.refl _ _,(fun _=>rfl),fun o h=>by cases h⟩
   · have e4:v 4=.bool false:=hd 4 (List.contains_iff_mem.1 (by kernel_rfl));have e10:v 10=undef:=hd 10 (List.contains_iff_mem.1 (by kernel_rfl))
     refine wpOp_step (o:= _) rfl (fun K' hK=>?_)
     go_simp
     exact hK _ _ ⟨undef,fr_eq19 (by simp [upd,e4,e10]),Below.refl _ _,(fun _=>rfl),fun o h=>by cases h⟩
   · have e4:v 4=.bool false:=hd 4 (List.contains_iff_mem.1 (by kernel_rfl));have e11:v 11=undef:=hd 11 (List.contains_iff_mem.1 (by kernel_rfl))
     refine wpOp_step (o:= _) rfl (fun K' hK=>?_)
     go_simp
     exact hK _ _ ⟨.bool false,fr_eq19 (by simp [upd,e4,e11]),Below.refl _ _,(fun _=>rfl),fun o h=>by cases h⟩
   · have e12:v 12=.bool false:=hd 12 (List.contains_iff_mem.1 (by kernel_rfl))
     refine wpOp_step (o:= _) rfl (fun K' hK=>?_)
     go_simp
     exact hK _ _ ⟨.bool false,fr_eq19 (by simp [upd,e12]),Below.refl _ _,(fun _=>rfl),fun o h=>by cases h⟩
 · skip
   have e0:v 0=.pointer (some ⟨w.heap.size+1,3,none⟩):=hv 0 (by decide)
   have e1:v 1=.slice ka 0 kc:=hv 1 (by decide)
   have e2:v 2=.int .i64 0:=hv 2 (by decide)
   have e3:v 3=.bool false:=hv 3 (by decide)
   have e4:v 4=.bool false:=hv 4 (by decide)
   have e5:v 5=undef:=hv 5 (by decide)
   have e6:v 6=undef:=hv 6 (by decide)
   have e7:v 7=undef:=hv 7 (by decide)
   have e8:v 8=undef:=hv 8 (by decide)
   have e9:v 9=undef:=hv 9 (by decide)
   have e10:v 10=undef:=hv 10 (by decide)
   have e11:v 11=undef:=hv 11 (by decide)
   have e12:v 12=.bool false:=hv 12 (by decide)
   have e13:v 13=.bool false:=hv 13 (by decide)
   have HBe:=Lib.hid hb
   clear hv hdist hBx hb
   refine wpAny_of_held (S:=fun _=>True) _ _ _ _ ?_
   simp only [e0,e1,e2,e3,e4,e5,e6,e7,e8,e9,e10,e11,e12,e13]
   clear e0 e1 e2 e3 e4 e5 e6 e7 e8 e9 e10 e11 e12 e13
   refine wpAnyH_done (by kernel_rfl) ?_ _
   go_wp2_with fail
   go_ret
   exact ⟨rfl,bth HH.out.bel HBe.out⟩
set_option maxRecDepth 100000 in
set_option maxHeartbeats 8000000 in
theorem andT_any (D:Opd→Opd→DatV) (b:Nat) (rel:Int) (aa:Option Addr) (an ac:Nat) (ka:Option Addr) (kn kc:Nat) (hkn:kn≤2513169434843) (f:Nat→XT) (S':Nat→Prop) (w:World) (hC:∀ i,i<kn→∀ wx,Below w.heap.size w wx→CellsAt wx S' ka i (xtC (f i))) (h:∀ i,i<kn→∀ wx,Below w.heap.size w wx→HoldTo D b (f i) wx):
  Calls Tryz.prog 27 #[dfn b,.agg #[.int .i64 5,.int .i64 rel,.slice aa an ac,.slice ka kn kc]] w fun e w'=>e=.returned (.bool (!anyTo (fun i=>!holdB D (f i)) kn))∧Below w.heap.size w w':=by
 have HH:=Lib.hid (Hst.start w b 5 rel aa an ac ka kn kc)
 obtain ⟨W0,hW0⟩:∃ W0,(w.alloc (.cells #[dfn b] 64)).alloc (.cells #[.int .i64 5,.int .i64 rel,.slice aa an ac,.slice ka kn kc] 26)=W0:=⟨_,rfl⟩
 rw [hW0] at HH
 unfold dfn at hW0 ⊢
 have HC:=Lib.hid (show Calls Tryz.prog 53 #[.slice ka kn kc,.func (.func 54) #[] #[.pointer (some ⟨w.heap.size,0,none⟩)]] W0 fun e w'=>e=.returned (.bool (anyTo (fun i=>!holdB D (f i)) kn))∧Below W0.heap.size W0 w' from
  contX_any ka kn kc f S' 54 #[] #[.pointer (some ⟨w.heap.size,0,none⟩)] (fun i=>!holdB D (f i)) hkn W0 eNot
   (fun i hi W hW=>notX_any D b w.heap.size (f i) W (cell_at (j:=0) (HH.out.next hW).d rfl) (fun wx hb=>h i hi wx (bth (bth HH.out.bel hW) hb)))
   (fun i hi wx hb=>hC i hi wx (bth HH.out.bel hb)))
 obtain ⟨q,hq⟩:∃ q,anyTo (fun i=>!holdB D (f i)) kn=q:=⟨_,rfl⟩
 rw [hq] at HC ⊢
 have hmk:=hmf
 clear hC h hq
 go_enter Tryz.func27,Tryz.ntmps27
 go_upto_region 1 with (fail)
 try rw [hW0]
 clear hW0
 obtain ⟨x0,x1,x2,x3⟩:=bx19 HH.out.x
 have y0:=cell_at (j:=0) HH.out.d rfl
 go_wp2_with (go_at_call 53;(with_reducible refine HC.out.mono ?_);rintro e w1 ⟨rfl,hb⟩;have HB1:=Lib.hid (bth HH.out.bel hb);clear hb)
 go_ret
 exact ⟨rfl,HB1.out⟩
set_option maxRecDepth 100000 in
set_option maxHeartbeats 8000000 in
theorem orT_any (D:Opd→Opd→DatV) (b:Nat) (rel:Int) (aa:Option Addr) (an ac:Nat) (ka:Option Addr) (kn kc:Nat) (hkn:kn≤2513169434843) (f:Nat→XT) (S':Nat→Prop) (w:World) (hC:∀ i,i<kn→∀ wx,Below w.heap.size w wx→CellsAt wx S' ka i (xtC (f i))) (h:∀ i,i<kn→∀ wx,Below w.heap.size w wx→HoldTo D b (f i) wx):
  Calls Tryz.prog 27 #[dfn b,.agg #[.int .i64 6,.int .i64 rel,.slice aa an ac,.slice ka kn kc]] w fun e w'=>e=.returned (.bool (anyTo (fun i=>holdB D (f i)) kn))∧Below w.heap.size w w':=by
 have HH:=Lib.hid (Hst.start w b 6 rel aa an ac ka kn kc)
 obtain ⟨W0,hW0⟩:∃ W0,(w.alloc (.cells #[dfn b] 64)).alloc (.cells #[.int .i64 6,.int .i64 rel,.slice aa an ac,.slice ka kn kc] 26)=W0:=⟨_,rfl⟩
 rw [hW0] at HH
 unfold dfn at hW0 ⊢
 have HC:=Lib.hid (show Calls Tryz.prog 53 #[.slice ka kn kc,.func (.func 27) #[dfn b] #[]] W0 fun e w'=>e=.returned (.bool (anyTo (fun i=>holdB D (f i)) kn))∧Below W0.heap.size W0 w' from
  contX_any ka kn kc f S' 27 #[dfn b] #[] (fun i=>holdB D (f i)) hkn W0 eHolds
   (fun i hi W hW=>h i hi W (bth HH.out.bel hW))
   (fun i hi wx hb=>hC i hi wx (bth HH.out.bel hb)))
 obtain ⟨q,hq⟩:∃ q,anyTo (fun i=>holdB D (f i)) kn=q:=⟨_,rfl⟩
 rw [hq] at HC ⊢
 unfold dfn at HC
 have hmk:=hmf
 clear hC h hq
 go_enter Tryz.func27,Tryz.ntmps27
 go_upto_region 1 with (fail)
 try rw [hW0]
 clear hW0
 obtain ⟨x0,x1,x2,x3⟩:=bx19 HH.out.x
 have y0:=cell_at (j:=0) HH.out.d rfl
 go_wp2_with (go_at_call 53;(with_reducible refine HC.out.mono ?_);rintro e w1 ⟨rfl,hb⟩;have HB1:=Lib.hid (bth HH.out.bel hb);clear hb)
 go_ret
 exact ⟨rfl,HB1.out⟩
theorem hold_any (L:Nat→Pa.TypeV) (al:Option Addr) (len cap:Nat) (hlen:len≤1000000) (hcap:len≤cap) (t:Int) (S:Nat→Prop) (V:Pa.VT) (hV:smV V) (b:Nat) (S':Nat→Prop):∀ (T:XT) (w:World),DAt w b L al len cap t S V→XAt w S' T→xOk T→HoldTo (truD L len t V) b T w:=by
 refine XT.ind fun T ih w hd hx hk=>?_
 obtain ⟨k1,k2⟩:=(xOk_iff T).1 hk
 have hI:=fun i (hi:i<T.kn) wx (hb:Below w.heap.size w wx)=>ih i hi wx (hd.next hb) (kid_at hx hb hi).2 (k2 i hi)
 have hC:=fun i (hi:i<T.kn) wx (hb:Below w.heap.size w wx)=>(kid_at hx hb hi).1
 unfold HoldTo
 rw [holdB_eq]
 by_cases h4:T.op=4
 · rw [if_pos h4,h4]
   by_cases h0:T.kn=0
   · rw [h0]
     exact not_no (truD L len t V) b T.rel T.aa T.an T.ac T.ka T.kc w
   · obtain ⟨kb,ko,e,_,_,_⟩:=hC 0 (by omega) w (Below.refl _ _)
     rw [decide_eq_true (show 0<T.kn by omega),Bool.true_and,e]
     refine not_yes _ b T.rel T.aa T.an T.ac kb ko T.kn T.kc (by omega) T.kid w (fun wx hb=>?_) (fun wx hb=>hI 0 (by omega) wx hb)
     obtain ⟨b',o',e',_,_,hc⟩:=hC 0 (by omega) wx hb
     rw [e] at e'
     injection e' with e'
     injection e' with e1 e2 _
     subst e1;subst e2
     simpa using hc
 · rw [if_neg h4]
   by_cases h5:T.op=5
   · rw [if_pos h5,h5]
     exact andT_any _ b T.rel T.aa T.an T.ac T.ka T.kn T.kc (xt_kn hx) T.kid S' w hC hI
   · rw [if_neg h5]
     by_cases h6:T.op=6
     · rw [if_pos h6,h6]
       exact orT_any _ b T.rel T.aa T.an T.ac T.ka T.kn T.kc (xt_kn hx) T.kid S' w hC hI
     · rw [if_neg h6]
       exact own_any L al len cap hlen hcap t S V hV b T.op T.rel h4 h5 h6 T.aa T.an T.ac T.arg S' k1 T.ka T.kn T.kc w hd ((xat_iff T).1 hx).2.1
end Go.Proofs.YthcompcjphaahaaGreatDoor
namespace Go.Proofs.YthcompcjphaahaaGreatDoor
open Go.RowKit
set_option linter.unusedVariables false
set_option linter.unusedSimpArgs false
set_option maxRecDepth 100000 in
set_option maxHeartbeats 4000000 in
theorem dataIn_any (L:Nat→Pa.TypeV) (al:Option Addr) (len cap:Nat) (t:Int) (S:Nat→Prop) (V:Pa.VT) (w:World) (H:∀ i,i<len→Pa.TypeAt w al i (L i)) (HV:Pa.ValAt w S V):
  Calls Tryz.prog 26 #[.slice al len cap,.int .i64 t,.agg #[.int .i64 V.kind,.int .u64 V.num,.string V.text,.slice V.ia V.len V.cap]] w fun e w'=>∃ b,e=.returned (dfn b)∧DAt w' b L al len cap t S V∧Below w.heap.size w w':=by
 have hb:Below w.heap.size w (((w.alloc (.cells #[.slice al len cap] 22)).alloc (.cells #[.int .i64 t] 3)).alloc (.cells #[.int .i64 V.kind,.int .u64 V.num,.string V.text,.slice V.ia V.len V.cap] 30)):=(((Below.refl _ _).alloc (Nat.le_refl _) _).alloc (by simp) _).alloc (by simp;omega) _
 have h2:=alloc_at (w.alloc (.cells #[.slice al len cap] 22)) (.cells #[.int .i64 t] 3)
 have h3:=alloc_at ((w.alloc (.cells #[.slice al len cap] 22)).alloc (.cells #[.int .i64 t] 3)) (.cells #[.int .i64 V.kind,.int .u64 V.num,.string V.text,.slice V.ia V.len V.cap] 30)
 rw [World.size_alloc] at h2
 rw [World.size_alloc,World.size_alloc] at h3
 have HDT:=Lib.hid (show DAt (((w.alloc (.cells #[.slice al len cap] 22)).alloc (.cells #[.int .i64 t] 3)).alloc (.cells #[.int .i64 V.kind,.int .u64 V.num,.string V.text,.slice V.ia V.len V.cap] 30)) w.heap.size L al len cap t S V from ⟨alloc_old (alloc_old (alloc_at w _)),alloc_old h2,h3,hold18 H hb,HV.next hb⟩)
 have HB:=Lib.hid hb
 have hmk:=hmf
 clear hb h2 h3 H HV
 go_enter Tryz.func26,Tryz.ntmps26
 go_wp2
 go_ret
 exact ⟨w.heap.size,rfl,HDT.out,HB.out⟩
structure Tst (w:World) (c d:Array Value) (tc td:TypeId) (wx:World):Prop where
 x:wx.heap[w.heap.size]?=some (.cells c tc)
 v:wx.heap[w.heap.size+1]?=some (.cells d td)
 bel:Below w.heap.size w wx
theorem Tst.next {w:World} {c d:Array Value} {tc td:TypeId} {wx wy:World} (h:Tst w c d tc td wx) (hb:Below wx.heap.size wx wy):Tst w c d tc td wy:=⟨rowKeep hb h.x,rowKeep hb h.v,bth h.bel hb⟩
theorem Tst.drew {w:World} {c d:Array Value} {tc td:TypeId} {wx:World} (h:Tst w c d tc td wx):Tst w c d tc td wx.drew:=h.next (Below.refl _ _).drew
theorem Tst.start (w:World) (c d:Array Value) (tc td:TypeId):Tst w c d tc td ((w.alloc (.cells c tc)).alloc (.cells d td)):=by
 have h2:=alloc_at (w.alloc (.cells c tc)) (.cells d td)
 rw [World.size_alloc] at h2
 exact ⟨alloc_old (alloc_at w _),h2,((Below.refl _ _).alloc (Nat.le_refl _) _).alloc (by simp) _⟩
set_option maxRecDepth 100000 in
set_option maxHeartbeats 4000000 in
theorem holds19_any (L:Nat→Pa.TypeV) (al:Option Addr) (len cap:Nat) (hlen:len≤1000000) (hcap:len≤cap) (t:Int) (S:Nat→Prop) (V:Pa.VT) (hV:smV V) (S':Nat→Prop) (T:XT) (hk:xOk T) (w:World) (H:∀ i,i<len→Pa.TypeAt w al i (L i)) (HV:Pa.ValAt w S V) (hx:XAt w S' T):
  Calls Tryz.prog 10 #[.slice al len cap,.int .i64 t,.agg #[.int .i64 T.op,.int .i64 T.rel,.slice T.aa T.an T.ac,.slice T.ka T.kn T.kc],.agg #[.int .i64 V.kind,.int .u64 V.num,.string V.text,.slice V.ia V.len V.cap]] w fun e w'=>e=.returned (.bool (holdB (truD L len t V) T))∧Below w.heap.size w w':=by
 have HDI:=Lib.hid (fun wx (hb:Below w.heap.size w wx)=>dataIn_any L al len cap t S V wx (hold18 H hb) (HV.next hb))
 have HO:=Lib.hid (fun b wx (hb:Below w.heap.size w wx) (hd:DAt wx b L al len cap t S V)=>hold_any L al len cap hlen hcap t S V hV b S' T wx hd (hx.next hb) hk)
 unfold HoldTo at HO
 obtain ⟨q,hq⟩:∃ q,holdB (truD L len t V) T=q:=⟨_,rfl⟩
 rw [hq] at HO ⊢
 unfold dfn at HO HDI
 have HS:=Lib.hid (Tst.start w #[.int .i64 T.op,.int .i64 T.rel,.slice T.aa T.an T.ac,.slice T.ka T.kn T.kc] #[.int .i64 V.kind,.int .u64 V.num,.string V.text,.slice V.ia V.len V.cap] 26 30)
 obtain ⟨W0,hW0⟩:∃ W0,(w.alloc (.cells #[.int .i64 T.op,.int .i64 T.rel,.slice T.aa T.an T.ac,.slice T.ka T.kn T.kc] 26)).alloc (.cells #[.int .i64 V.kind,.int .u64 V.num,.string V.text,.slice V.ia V.len V.cap] 30)=W0:=⟨_,rfl⟩
 rw [hW0] at HS
 clear hq H HV hx hk hV
 go_enter Tryz.func10,Tryz.ntmps10
 go_upto_region 1 with (fail)
 try rw [hW0]
 clear hW0
 obtain ⟨x0,x1,x2,x3⟩:=bx19 HS.out.x
 obtain ⟨v0,v1,v2,v3⟩:=bx19 HS.out.v
 go_region_with (first
  |(go_at_call 27;(with_reducible refine (HO.out _ _ (by first|exact HS.out.bel|exact HS.out.drew.bel) (by first|exact HDA.out|exact HDA.out.drew)).mono ?_);rintro e w2 ⟨rfl,hb⟩;have HS:=Lib.hid (Tst.next (by first|exact HS.out|exact HS.out.drew) hb);clear hb)
  |(go_at_call 26;(with_reducible refine (HDI.out _ (by first|exact HS.out.bel|exact HS.out.drew.bel)).mono ?_);rintro e w1 ⟨bb,rfl,hd,hb⟩;have HDA:=Lib.hid hd;have HS:=Lib.hid (Tst.next (by first|exact HS.out|exact HS.out.drew) hb);clear x0 x1 x2 x3 v0 v1 v2 v3;obtain ⟨x0,x1,x2,x3⟩:=bx19 HS.out.x;obtain ⟨v0,v1,v2,v3⟩:=bx19 HS.out.v;clear hb hd))
 all_goals
  go_wp2_with fail
  go_ret
  exact ⟨rfl,HS.out.bel⟩
end Go.Proofs.YthcompcjphaahaaGreatDoor
