/- Chapter 19's example. -/
import Derived.Test.YthcompcjphaahaaGreatDoora39
import Derived.Test.YthcompcjphaahaaGreatDoora48
namespace Go.Proofs.YthcompcjphaahaaGreatDoor
open Go.RowKit
set_option linter.unusedVariables false
set_option linter.unusedSimpArgs false
def exL (g:Nat):Nat→Pa.TypeV:=fun i=>if i=0 then Pa.noneT 2 0 0 else if i=1 then Pa.noneT 11 3 0 else ⟨13,⟨#[80]⟩,0,0,0,some ⟨g,0,none⟩,1,1,fun _=>⟨⟨#[115]⟩,0,1,false,false⟩⟩
def exA:Pa.VT:=.node 2 5 ⟨#[]⟩ none 0 0 (fun _=>.nil)
def exB (a:Nat):Pa.VT:=.node 11 0 ⟨#[]⟩ (some ⟨a,0,none⟩) 1 1 (fun _=>exA)
def exV (a b:Nat):Pa.VT:=.node 13 0 ⟨#[]⟩ (some ⟨b,0,none⟩) 1 1 (fun _=>exB a)
theorem exL_ok (g:Nat):Pa.fErr (Pa.oneR (exL g) 3) 3=0:=by kernel_rfl
theorem exL_has (g:Nat):Pa.hasT (exL g) 3 2=true:=Pa.hasT_yes (k:=2) (by decide) (exL_ok g)
def exS0:ByteArray:=⟨#[115,91,48,93]⟩
def exS1:ByteArray:=⟨#[115,91,49,93]⟩
theorem exL_find0 (g:Nat):Pa.findA (exL g) 3 2 exS0=⟨[⟨false,0⟩,⟨true,0⟩],0,0⟩:=by
 unfold Pa.findA
 rw [exL_has,if_pos rfl,show Pa.formS exS0=true by decide+kernel,if_pos rfl,show Pa.piecesS exS0 0=[(⟨false,0,⟨#[115]⟩⟩,true),(⟨true,0,⟨#[]⟩⟩,true)] by kernel_rfl]
 kernel_rfl
theorem exL_find1 (g:Nat):Pa.findA (exL g) 3 2 exS1=⟨[⟨false,0⟩,⟨true,1⟩],0,0⟩:=by
 unfold Pa.findA
 rw [exL_has,if_pos rfl,show Pa.formS exS1=true by decide+kernel,if_pos rfl,show Pa.piecesS exS1 0=[(⟨false,0,⟨#[115]⟩⟩,true),(⟨true,1,⟨#[]⟩⟩,true)] by kernel_rfl]
 kernel_rfl
theorem exL_at0 (g a b:Nat):Pa.atA (exL g) 3 2 [⟨false,0⟩,⟨true,0⟩] (exV a b)=some exA:=by
 unfold Pa.atA Pa.endA
 rw [exL_has,if_pos rfl]
 kernel_rfl
theorem exL_at1 (g a b:Nat):Pa.atA (exL g) 3 2 [⟨false,0⟩,⟨true,1⟩] (exV a b)=none:=by
 unfold Pa.atA Pa.endA
 rw [exL_has,if_pos rfl]
 kernel_rfl
theorem exD0 (g a b:Nat) (u:Opd):truD (exL g) 3 2 (exV a b) ⟨1,exS0,false,0⟩ u=⟨1,false,5,⟨#[]⟩⟩:=by
 rw [truD_path rfl,pathD_yes (by rw [exL_find0]),exL_find0,exL_at0];rfl
theorem exD1 (g a b:Nat) (u:Opd):truD (exL g) 3 2 (exV a b) ⟨1,exS1,false,0⟩ u=noDat:=by
 rw [truD_path rfl,pathD_yes (by rw [exL_find1]),exL_find1,exL_at1];rfl
theorem exD5 (g a b:Nat) (u:Opd):truD (exL g) 3 2 (exV a b) ⟨2,⟨#[]⟩,false,5⟩ u=⟨1,false,5,⟨#[]⟩⟩:=by
 rw [truD_lit (by decide)];rfl
def exP1:List UInt8:=[115,91,48,93,32,61,32,53]
def exP2:List UInt8:=[115,91,49,93,32,61,32,53,32,79,82,32,115,91,49,93,32,60,62,32,53]
def exX1:XT:=mkX 1 1 [⟨1,bs [115,91,48,93],false,0⟩,⟨2,⟨#[]⟩,false,5⟩] []
def exX2:XT:=mkX 6 0 [] [mkX 1 1 [⟨1,bs [115,91,49,93],false,0⟩,⟨2,⟨#[]⟩,false,5⟩] [],mkX 1 2 [⟨1,bs [115,91,49,93],false,0⟩,⟨2,⟨#[]⟩,false,5⟩] []]
theorem ex_parse1:parseA exP1=.good exX1:=by kernel_rfl
theorem ex_parse2:parseA exP2=.good exX2:=by kernel_rfl
theorem ex_rel (D:Opd→Opd→DatV) (r:Int) (o u:Opd):holdB D (mkX 1 r [o,u] [])=relB r (D o u) (D u o):=by
 rw [holdB_eq];rfl
theorem ex_hold1 (g a b:Nat):holdB (truD (exL g) 3 2 (exV a b)) exX1=true:=by
 unfold exX1
 rw [ex_rel,show (⟨1,bs [115,91,48,93],false,0⟩:Opd)=⟨1,exS0,false,0⟩ from rfl,exD0,exD5];decide
theorem ex_hold2 (g a b:Nat):holdB (truD (exL g) 3 2 (exV a b)) exX2=false:=by
 unfold exX2
 rw [holdB_eq]
 have h:∀ r,holdB (truD (exL g) 3 2 (exV a b)) (mkX 1 r [⟨1,bs [115,91,49,93],false,0⟩,⟨2,⟨#[]⟩,false,5⟩] [])=false:=fun r=>by
  rw [ex_rel,show (⟨1,bs [115,91,49,93],false,0⟩:Opd)=⟨1,exS1,false,0⟩ from rfl,exD1,exD5];rfl
 show anyTo (fun i=>holdB (truD (exL g) 3 2 (exV a b)) ([mkX 1 1 [⟨1,bs [115,91,49,93],false,0⟩,⟨2,⟨#[]⟩,false,5⟩] [],mkX 1 2 [⟨1,bs [115,91,49,93],false,0⟩,⟨2,⟨#[]⟩,false,5⟩] []].getD i .nil)) 2=false
 simp [anyTo,h]
theorem exO (o u:Opd) (r:Int) (h1:OpX o∧o.text.size≤1000000) (h2:OpX u∧u.text.size≤1000000):xOk (mkX 1 r [o,u] []):=by
 refine (xOk_iff _).2 ⟨fun i hi=>?_,fun i hi=>absurd hi (Nat.not_lt_zero i)⟩
 have h3:i=0∨i=1:=by have:i<2:=hi;omega
 rcases h3 with rfl|rfl
 · exact h1
 · exact h2
theorem exOp (k n:Int) (l:List UInt8) (h:l.length≤100) (h0:0≤n) (h1:n≤100):OpX ⟨k,bs l,false,n⟩∧(⟨k,bs l,false,n⟩:Opd).text.size≤1000000:=⟨⟨by show (bs l).size≤_;rw [bs_size];omega,h0,by show n<18446744073709551616;omega⟩,by show (bs l).size≤_;rw [bs_size];omega⟩
theorem ex_ok1:xOk exX1:=exO _ _ 1 (exOp 1 0 [115,91,48,93] (by decide) (by decide) (by decide)) (exOp 2 5 [] (by decide) (by decide) (by decide))
theorem ex_ok2:xOk exX2:=by
 refine (xOk_iff _).2 ⟨fun i hi=>absurd hi (Nat.not_lt_zero i),fun i hi=>?_⟩
 have h3:i=0∨i=1:=by have:i<2:=hi;omega
 rcases h3 with rfl|rfl
 · exact exO _ _ 1 (exOp 1 0 [115,91,49,93] (by decide) (by decide) (by decide)) (exOp 2 5 [] (by decide) (by decide) (by decide))
 · exact exO _ _ 2 (exOp 1 0 [115,91,49,93] (by decide) (by decide) (by decide)) (exOp 2 5 [] (by decide) (by decide) (by decide))
theorem exV_sm (a b:Nat):smV (exV a b):=⟨by decide,fun i _=>⟨by decide,fun i _=>⟨by decide,fun _ _=>trivial⟩⟩⟩
structure ExAt (g:Nat) (w:World):Prop where
 i:w.heap[g]?=some (.cells #[.string ⟨#[115]⟩,.int .u64 0,.int .i64 1,.bool false,.bool false] 60)
 t:w.heap[g+1]?=some (.cells #[.int .i64 2,.string ⟨#[]⟩,.int .i64 0,.int .i64 0,.int .i64 0,.slice none 0 0,.int .i64 11,.string ⟨#[]⟩,.int .i64 3,.int .i64 0,.int .i64 0,.slice none 0 0,.int .i64 13,.string ⟨#[80]⟩,.int .i64 0,.int .i64 0,.int .i64 0,.slice (some ⟨g,0,none⟩) 1 1] 58)
 a:w.heap[g+1+1]?=some (.cells #[.int .i64 2,.int .u64 5,.string ⟨#[]⟩,.slice none 0 0] 30)
 b:w.heap[g+1+1+1]?=some (.cells #[.int .i64 11,.int .u64 0,.string ⟨#[]⟩,.slice (some ⟨g+1+1,0,none⟩) 1 1] 30)
 v:w.heap[g+1+1+1+1]?=some (.cells #[.int .i64 13,.int .u64 0,.string ⟨#[]⟩,.slice (some ⟨g+1+1+1,0,none⟩) 1 1] 30)
theorem ExAt.next {g:Nat} {w w1:World} (h:ExAt g w) (hb:Below w.heap.size w w1):ExAt g w1:=⟨rowKeep hb h.i,rowKeep hb h.t,rowKeep hb h.a,rowKeep hb h.b,rowKeep hb h.v⟩
theorem ExAt.start (w:World):ExAt w.heap.size (((((w.alloc (.cells #[.string ⟨#[115]⟩,.int .u64 0,.int .i64 1,.bool false,.bool false] 60)).alloc (.cells #[.int .i64 2,.string ⟨#[]⟩,.int .i64 0,.int .i64 0,.int .i64 0,.slice none 0 0,.int .i64 11,.string ⟨#[]⟩,.int .i64 3,.int .i64 0,.int .i64 0,.slice none 0 0,.int .i64 13,.string ⟨#[80]⟩,.int .i64 0,.int .i64 0,.int .i64 0,.slice (some ⟨w.heap.size,0,none⟩) 1 1] 58)).alloc (.cells #[.int .i64 2,.int .u64 5,.string ⟨#[]⟩,.slice none 0 0] 30)).alloc (.cells #[.int .i64 11,.int .u64 0,.string ⟨#[]⟩,.slice (some ⟨w.heap.size+1+1,0,none⟩) 1 1] 30)).alloc (.cells #[.int .i64 13,.int .u64 0,.string ⟨#[]⟩,.slice (some ⟨w.heap.size+1+1+1,0,none⟩) 1 1] 30))∧Below w.heap.size w (((((w.alloc (.cells #[.string ⟨#[115]⟩,.int .u64 0,.int .i64 1,.bool false,.bool false] 60)).alloc (.cells #[.int .i64 2,.string ⟨#[]⟩,.int .i64 0,.int .i64 0,.int .i64 0,.slice none 0 0,.int .i64 11,.string ⟨#[]⟩,.int .i64 3,.int .i64 0,.int .i64 0,.slice none 0 0,.int .i64 13,.string ⟨#[80]⟩,.int .i64 0,.int .i64 0,.int .i64 0,.slice (some ⟨w.heap.size,0,none⟩) 1 1] 58)).alloc (.cells #[.int .i64 2,.int .u64 5,.string ⟨#[]⟩,.slice none 0 0] 30)).alloc (.cells #[.int .i64 11,.int .u64 0,.string ⟨#[]⟩,.slice (some ⟨w.heap.size+1+1,0,none⟩) 1 1] 30)).alloc (.cells #[.int .i64 13,.int .u64 0,.string ⟨#[]⟩,.slice (some ⟨w.heap.size+1+1+1,0,none⟩) 1 1] 30)):=by
 have h1:=alloc_at w (.cells #[.string ⟨#[115]⟩,.int .u64 0,.int .i64 1,.bool false,.bool false] 60)
 have h2:=alloc_at (w.alloc (.cells #[.string ⟨#[115]⟩,.int .u64 0,.int .i64 1,.bool false,.bool false] 60)) (.cells #[.int .i64 2,.string ⟨#[]⟩,.int .i64 0,.int .i64 0,.int .i64 0,.slice none 0 0,.int .i64 11,.string ⟨#[]⟩,.int .i64 3,.int .i64 0,.int .i64 0,.slice none 0 0,.int .i64 13,.string ⟨#[80]⟩,.int .i64 0,.int .i64 0,.int .i64 0,.slice (some ⟨w.heap.size,0,none⟩) 1 1] 58)
 rw [World.size_alloc] at h2
 have h3:=alloc_at ((w.alloc (.cells #[.string ⟨#[115]⟩,.int .u64 0,.int .i64 1,.bool false,.bool false] 60)).alloc (.cells #[.int .i64 2,.string ⟨#[]⟩,.int .i64 0,.int .i64 0,.int .i64 0,.slice none 0 0,.int .i64 11,.string ⟨#[]⟩,.int .i64 3,.int .i64 0,.int .i64 0,.slice none 0 0,.int .i64 13,.string ⟨#[80]⟩,.int .i64 0,.int .i64 0,.int .i64 0,.slice (some ⟨w.heap.size,0,none⟩) 1 1] 58)) (.cells #[.int .i64 2,.int .u64 5,.string ⟨#[]⟩,.slice none 0 0] 30)
 rw [World.size_alloc,World.size_alloc] at h3
 have h4:=alloc_at (((w.alloc (.cells #[.string ⟨#[115]⟩,.int .u64 0,.int .i64 1,.bool false,.bool false] 60)).alloc (.cells #[.int .i64 2,.string ⟨#[]⟩,.int .i64 0,.int .i64 0,.int .i64 0,.slice none 0 0,.int .i64 11,.string ⟨#[]⟩,.int .i64 3,.int .i64 0,.int .i64 0,.slice none 0 0,.int .i64 13,.string ⟨#[80]⟩,.int .i64 0,.int .i64 0,.int .i64 0,.slice (some ⟨w.heap.size,0,none⟩) 1 1] 58)).alloc (.cells #[.int .i64 2,.int .u64 5,.string ⟨#[]⟩,.slice none 0 0] 30)) (.cells #[.int .i64 11,.int .u64 0,.string ⟨#[]⟩,.slice (some ⟨w.heap.size+1+1,0,none⟩) 1 1] 30)
 rw [World.size_alloc,World.size_alloc,World.size_alloc] at h4
 have h5:=alloc_at ((((w.alloc (.cells #[.string ⟨#[115]⟩,.int .u64 0,.int .i64 1,.bool false,.bool false] 60)).alloc (.cells #[.int .i64 2,.string ⟨#[]⟩,.int .i64 0,.int .i64 0,.int .i64 0,.slice none 0 0,.int .i64 11,.string ⟨#[]⟩,.int .i64 3,.int .i64 0,.int .i64 0,.slice none 0 0,.int .i64 13,.string ⟨#[80]⟩,.int .i64 0,.int .i64 0,.int .i64 0,.slice (some ⟨w.heap.size,0,none⟩) 1 1] 58)).alloc (.cells #[.int .i64 2,.int .u64 5,.string ⟨#[]⟩,.slice none 0 0] 30)).alloc (.cells #[.int .i64 11,.int .u64 0,.string ⟨#[]⟩,.slice (some ⟨w.heap.size+1+1,0,none⟩) 1 1] 30)) (.cells #[.int .i64 13,.int .u64 0,.string ⟨#[]⟩,.slice (some ⟨w.heap.size+1+1+1,0,none⟩) 1 1] 30)
 rw [World.size_alloc,World.size_alloc,World.size_alloc,World.size_alloc] at h5
 exact ⟨⟨alloc_old (alloc_old (alloc_old (alloc_old h1))),alloc_old (alloc_old (alloc_old h2)),alloc_old (alloc_old h3),alloc_old h4,h5⟩,(((((Below.refl _ _).alloc (Nat.le_refl _) _).alloc (by simp) _).alloc (by simp;omega) _).alloc (by simp;omega) _).alloc (by simp;omega) _⟩
theorem ExAt.types {g:Nat} {w:World} (h:ExAt g w):∀ i,i<3→Pa.TypeAt w (some ⟨g+1,0,none⟩) i (exL g i):=by
 intro i hi
 have hq:=h.t
 have hb:=h.i
 have h3:i=0∨i=1∨i=2:=by omega
 rcases h3 with rfl|rfl|rfl
 · exact ⟨_,0,rfl,cell_at hq rfl,cell_at hq rfl,cell_at hq rfl,cell_at hq rfl,cell_at hq rfl,cell_at hq rfl,(show Pa.TypeWf (Pa.noneT 2 0 0) from by unfold Pa.TypeWf;decide),⟨(show (0:Nat)≤3518437208780 from by decide),fun j hj=>absurd hj (Nat.not_lt_zero j)⟩⟩
 · exact ⟨_,0,rfl,cell_at hq rfl,cell_at hq rfl,cell_at hq rfl,cell_at hq rfl,cell_at hq rfl,cell_at hq rfl,(show Pa.TypeWf (Pa.noneT 11 3 0) from by unfold Pa.TypeWf;decide),⟨(show (0:Nat)≤3518437208780 from by decide),fun j hj=>absurd hj (Nat.not_lt_zero j)⟩⟩
 · refine ⟨_,0,rfl,cell_at hq rfl,cell_at hq rfl,cell_at hq rfl,cell_at hq rfl,cell_at hq rfl,cell_at hq rfl,(show Pa.TypeWf ⟨13,⟨#[80]⟩,0,0,0,some ⟨g,0,none⟩,1,1,fun _=>⟨⟨#[115]⟩,0,1,false,false⟩⟩ from by unfold Pa.TypeWf;dsimp only;decide),?_⟩
   refine ⟨by show 1≤_;decide,fun j hj=>?_⟩
   obtain rfl:j=0:=by have:j<1:=hj;omega
   exact ⟨_,0,rfl,cell_at hb rfl,cell_at hb rfl,cell_at hb rfl,cell_at hb rfl,cell_at hb rfl,(show Pa.ItemWf ⟨⟨#[115]⟩,0,1,false,false⟩ from by unfold Pa.ItemWf;decide)⟩
theorem exWf {k n:Int} {ia:Option Addr} {l c:Nat} {f:Nat→Pa.VT} (h1:(Lit.int .i64 k).wf=true) (h2:(Lit.int .u64 n).wf=true) (h3:l≤100):Pa.ValWf (.node k n ⟨#[]⟩ ia l c f):=⟨h1,h2,by show (⟨#[]⟩:ByteArray).size≤_;decide,by show l≤_;omega⟩
theorem ExAt.vals {g:Nat} {w:World} (h:ExAt g w):Pa.ValAt w (fun _=>True) (exV (g+1+1) (g+1+1+1)):=by
 refine (Pa.valAt_iff _).2 ⟨exWf (by decide) (by decide) (by decide),fun i hi=>?_⟩
 obtain rfl:i=0:=by have:i<1:=hi;omega
 refine ⟨⟨_,0,rfl,trivial,lt_of_block h.b,cell_at h.b rfl,cell_at h.b rfl,cell_at h.b rfl,cell_at h.b rfl⟩,(Pa.valAt_iff _).2 ⟨exWf (by decide) (by decide) (by decide),fun i hi=>?_⟩⟩
 obtain rfl:i=0:=by have:i<1:=hi;omega
 exact ⟨⟨_,0,rfl,trivial,lt_of_block h.a,cell_at h.a rfl,cell_at h.a rfl,cell_at h.a rfl,cell_at h.a rfl⟩,(Pa.valAt_iff _).2 ⟨exWf (by decide) (by decide) (by decide),fun i hi=>absurd hi (Nat.not_lt_zero i)⟩⟩
set_option maxRecDepth 100000 in
set_option maxHeartbeats 4000000 in
theorem awake19 (w:World) (hV:LibAt w):Calls Tryz.prog 9 #[] w fun e w'=>e=.returned (.bool true)∧Below w.heap.size w w':=by
 obtain ⟨he,hb⟩:=ExAt.start w
 have HB0:=Lib.hid hb
 have HE0:=Lib.hid he
 clear he hb
 have HP1:=Lib.hid (fun wx (h:LibAt wx)=>(show Calls Tryz.prog 25 #[.string ⟨#[115,91,48,93,32,61,32,53]⟩] wx (ParseTo wx (.good exX1)) from by have:=parse_any exP1 (by decide) wx h;rw [ex_parse1] at this;exact this))
 have HP2:=Lib.hid (fun wx (h:LibAt wx)=>(show Calls Tryz.prog 25 #[.string ⟨#[115,91,49,93,32,61,32,53,32,79,82,32,115,91,49,93,32,60,62,32,53]⟩] wx (ParseTo wx (.good exX2)) from by have:=parse_any exP2 (by decide) wx h;rw [ex_parse2] at this;exact this))
 have HC1:=Lib.hid (fun (T:XT) (h:SameX T exX1) (S:Nat→Prop) wx (hx:ExAt w.heap.size wx) (ht:XAt wx S T)=>by
  have:=holds19_any (exL w.heap.size) (some ⟨w.heap.size+1,0,none⟩) 3 3 (by decide) (Nat.le_refl _) 2 (fun _=>True) (exV (w.heap.size+1+1) (w.heap.size+1+1+1)) (exV_sm _ _) S T (xOk_same T _ h ex_ok1) wx hx.types hx.vals ht
  rw [hold_same _ T _ h,ex_hold1] at this
  exact this)
 have HC2:=Lib.hid (fun (T:XT) (h:SameX T exX2) (S:Nat→Prop) wx (hx:ExAt w.heap.size wx) (ht:XAt wx S T)=>by
  have:=holds19_any (exL w.heap.size) (some ⟨w.heap.size+1,0,none⟩) 3 3 (by decide) (Nat.le_refl _) 2 (fun _=>True) (exV (w.heap.size+1+1) (w.heap.size+1+1+1)) (exV_sm _ _) S T (xOk_same T _ h ex_ok2) wx hx.types hx.vals ht
  rw [hold_same _ T _ h,ex_hold2] at this
  exact this)
 unfold exV at HC1 HC2
 simp only [Pa.VT.kind,Pa.VT.num,Pa.VT.text,Pa.VT.ia,Pa.VT.len,Pa.VT.cap] at HC1 HC2
 have HV:=Lib.hid hV
 obtain ⟨W0,hW0⟩:∃ W0,(((((w.alloc (.cells #[.string ⟨#[115]⟩,.int .u64 0,.int .i64 1,.bool false,.bool false] 60)).alloc (.cells #[.int .i64 2,.string ⟨#[]⟩,.int .i64 0,.int .i64 0,.int .i64 0,.slice none 0 0,.int .i64 11,.string ⟨#[]⟩,.int .i64 3,.int .i64 0,.int .i64 0,.slice none 0 0,.int .i64 13,.string ⟨#[80]⟩,.int .i64 0,.int .i64 0,.int .i64 0,.slice (some ⟨w.heap.size,0,none⟩) 1 1] 58)).alloc (.cells #[.int .i64 2,.int .u64 5,.string ⟨#[]⟩,.slice none 0 0] 30)).alloc (.cells #[.int .i64 11,.int .u64 0,.string ⟨#[]⟩,.slice (some ⟨w.heap.size+1+1,0,none⟩) 1 1] 30)).alloc (.cells #[.int .i64 13,.int .u64 0,.string ⟨#[]⟩,.slice (some ⟨w.heap.size+1+1+1,0,none⟩) 1 1] 30))=W0:=⟨_,rfl⟩
 rw [hW0] at HB0 HE0
 clear hV
 go_enter Tryz.func9,Tryz.ntmps9
 go_upto_region 3 with (fail)
 try rw [hW0]
 clear hW0
 go_upto_region 4 with (go_at_call 25;refine (HP1.out _ (by exact HV.out.held HB0.out)).mono ?_;rintro e w1 h1;obtain ⟨hb,T,rfl,hs,hx⟩:=h1;have HB1:=Lib.hid hb;have HS1:=Lib.hid hs;have HX1:=Lib.hid hx;clear hb hs hx)
 have HQ1:=Lib.hid (rowKeep ((Below.refl (w1.alloc (.cells #[.int .i64 T.op,.int .i64 T.rel,.slice T.aa T.an T.ac,.slice T.ka T.kn T.kc] 26)).heap.size _).alloc (Nat.le_refl _) (.cells #[.int .i64 0,.int .i64 0] 54)) (alloc_at w1 (.cells #[.int .i64 T.op,.int .i64 T.rel,.slice T.aa T.an T.ac,.slice T.ka T.kn T.kc] 26)))
 have hB2:Below w1.heap.size w1 ((w1.alloc (.cells #[.int .i64 T.op,.int .i64 T.rel,.slice T.aa T.an T.ac,.slice T.ka T.kn T.kc] 26)).alloc (.cells #[.int .i64 0,.int .i64 0] 54)):=((Below.refl _ _).alloc (Nat.le_refl _) _).alloc (by simp) _
 have HB2:=Lib.hid hB2
 have HXT:=Lib.hid (HX1.out.next hB2)
 generalize (w1.alloc (.cells #[.int .i64 T.op,.int .i64 T.rel,.slice T.aa T.an T.ac,.slice T.ka T.kn T.kc] 26)).alloc (.cells #[.int .i64 0,.int .i64 0] 54)=W2 at *
 have HW2:=Lib.hid (bth HB1.out HB2.out)
 have HV2:=Lib.hid (HV.out.held (bth HB0.out HW2.out))
 clear hB2 HX1
 go_upto_region 5 with (go_at_call 25;refine (HP2.out _ (by exact HV2.out)).mono ?_;rintro e w3 h3;obtain ⟨hb,U,rfl,hs,hx⟩:=h3;have HB3:=Lib.hid hb;have HS3:=Lib.hid hs;have HX3:=Lib.hid hx;clear hb hs hx)
 have HQ3:=Lib.hid (rowKeep ((Below.refl (w3.alloc (.cells #[.int .i64 U.op,.int .i64 U.rel,.slice U.aa U.an U.ac,.slice U.ka U.kn U.kc] 26)).heap.size _).alloc (Nat.le_refl _) (.cells #[.int .i64 0,.int .i64 0] 54)) (alloc_at w3 (.cells #[.int .i64 U.op,.int .i64 U.rel,.slice U.aa U.an U.ac,.slice U.ka U.kn U.kc] 26)))
 have hB4:Below w3.heap.size w3 ((w3.alloc (.cells #[.int .i64 U.op,.int .i64 U.rel,.slice U.aa U.an U.ac,.slice U.ka U.kn U.kc] 26)).alloc (.cells #[.int .i64 0,.int .i64 0] 54)):=((Below.refl _ _).alloc (Nat.le_refl _) _).alloc (by simp) _
 have HB4:=Lib.hid hB4
 have HXU:=Lib.hid (HX3.out.next hB4)
 generalize (w3.alloc (.cells #[.int .i64 U.op,.int .i64 U.rel,.slice U.aa U.an U.ac,.slice U.ka U.kn U.kc] 26)).alloc (.cells #[.int .i64 0,.int .i64 0] 54)=W4 at *
 have HW4:=Lib.hid (bth HB3.out HB4.out)
 have HA4:=Lib.hid (bth HW2.out HW4.out)
 have hq1:=rowKeep HW4.out HQ1.out
 obtain ⟨c0,c1,c2,c3⟩:=bx19 hq1
 have HE4:=Lib.hid (HE0.out.next HA4.out)
 obtain ⟨e0,e1,e2,e3⟩:=bx19 HE4.out.v
 have HXT4:=Lib.hid (HXT.out.next HW4.out)
 clear hB4 HX3 hq1
 go_wp2_with (first
  |(go_at_call 10;(with_reducible refine (HC2.out U HS3.out _ _ (by exact HE5.out) (by exact HXU5.out)).mono ?_);rintro e w6 ⟨rfl,hb⟩;have HB6:=Lib.hid hb;clear hb)
  |(go_at_call 10;(with_reducible refine (HC1.out T HS1.out _ _ (by exact HE4.out) (by exact HXT4.out)).mono ?_);rintro e w5 ⟨rfl,hb⟩;have HA5:=Lib.hid (bth HA4.out hb);have HXU5:=Lib.hid (HXU.out.next hb);have HE5:=Lib.hid (HE4.out.next hb);obtain ⟨d0,d1,d2,d3⟩:=bx19 (rowKeep hb HQ3.out);obtain ⟨e0,e1,e2,e3⟩:=bx19 HE5.out.v;clear hb))
 go_ret
 exact ⟨rfl,bth HB0.out (bth HA5.out HB6.out)⟩
end Go.Proofs.YthcompcjphaahaaGreatDoor
