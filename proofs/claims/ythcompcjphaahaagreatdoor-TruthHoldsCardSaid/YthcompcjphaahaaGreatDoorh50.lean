/- Chapter 19's example. -/
import Derived.Test.YthcompcjphaahaaGreatDoorh40
import Derived.Test.YthcompcjphaahaaGreatDoorh49
set_option maxRecDepth 100000
set_option maxHeartbeats 8000000
set_option linter.unusedVariables false
set_option linter.unusedSimpArgs false
namespace Go.Proofs.YthcompcjphaahaaGreatDoor
open Go.RowKit
def exL (g:Nat):Nat→Pa.TypeV:=fun i=>if i=0 then Pa.noneT 2 0 0 else if i=1 then Pa.noneT 11 3 0 else ⟨13,⟨#[80]⟩,0,0,0,some ⟨g,0,none⟩,1,1,fun _=>⟨⟨#[115]⟩,0,1,false,false⟩⟩
def exA:Pa.VT:=.node 2 5 ⟨#[]⟩ none 0 0 (fun _=>.nil)
def exB (a:Nat):Pa.VT:=.node 11 0 ⟨#[]⟩ (some ⟨a,0,none⟩) 1 1 (fun _=>exA)
def exV (a b:Nat):Pa.VT:=.node 13 0 ⟨#[]⟩ (some ⟨b,0,none⟩) 1 1 (fun _=>exB a)
theorem ju0 (g:Nat):Pa.fErr (Pa.oneR (exL g) 3) 3=0:=by kernel_rfl
theorem jcg (g:Nat):Pa.hasT (exL g) 3 2=true:=Pa.jhk (k:=2) (by decide) (ju0 g)
def jpw:ByteArray:=⟨#[115,91,48,93]⟩
def jrz:ByteArray:=⟨#[115,91,49,93]⟩
theorem jf7 (g:Nat):Pa.findA (exL g) 3 2 jpw=⟨[⟨false,0⟩,⟨true,0⟩],0,0⟩:=by
 unfold Pa.findA;rw [jcg,if_pos rfl,show Pa.formS jpw=true by decide+kernel,if_pos rfl,show Pa.piecesS jpw 0=[(⟨false,0,⟨#[115]⟩⟩,true),(⟨true,0,⟨#[]⟩⟩,true)] by kernel_rfl]
 kernel_rfl
theorem jf9 (g:Nat):Pa.findA (exL g) 3 2 jrz=⟨[⟨false,0⟩,⟨true,1⟩],0,0⟩:=by
 unfold Pa.findA;rw [jcg,if_pos rfl,show Pa.formS jrz=true by decide+kernel,if_pos rfl,show Pa.piecesS jrz 0=[(⟨false,0,⟨#[115]⟩⟩,true),(⟨true,1,⟨#[]⟩⟩,true)] by kernel_rfl]
 kernel_rfl
theorem jtr (g a b:Nat):Pa.atA (exL g) 3 2 [⟨false,0⟩,⟨true,0⟩] (exV a b)=some exA:=by
 unfold Pa.atA Pa.endA;rw [jcg,if_pos rfl]
 kernel_rfl
theorem jss (g a b:Nat):Pa.atA (exL g) 3 2 [⟨false,0⟩,⟨true,1⟩] (exV a b)=none:=by
 unfold Pa.atA Pa.endA;rw [jcg,if_pos rfl]
 kernel_rfl
theorem jv7 (g a b:Nat) (u:Opd):truD (exL g) 3 2 (exV a b) ⟨1,jpw,false,0⟩ u=⟨1,false,5,⟨#[]⟩⟩:=by
 rw [Zt rfl,Zu (by rw [jf7]),jf7,jtr];rfl
theorem jv2 (g a b:Nat) (u:Opd):truD (exL g) 3 2 (exV a b) ⟨1,jrz,false,0⟩ u=noDat:=by
 rw [Zt rfl,Zu (by rw [jf9]),jf9,jss];rfl
theorem jvq (g a b:Nat) (u:Opd):truD (exL g) 3 2 (exV a b) ⟨2,⟨#[]⟩,false,5⟩ u=⟨1,false,5,⟨#[]⟩⟩:=by
 rw [jdb (by decide)];rfl
def jvh:List UInt8:=[115,91,48,93,32,61,32,53]
def jvl:List UInt8:=[115,91,49,93,32,61,32,53,32,79,82,32,115,91,49,93,32,60,62,32,53]
def jnc:XT:=mkX 1 1 [⟨1,bs [115,91,48,93],false,0⟩,⟨2,⟨#[]⟩,false,5⟩] []
def joc:XT:=mkX 6 0 [] [mkX 1 1 [⟨1,bs [115,91,49,93],false,0⟩,⟨2,⟨#[]⟩,false,5⟩] [],mkX 1 2 [⟨1,bs [115,91,49,93],false,0⟩,⟨2,⟨#[]⟩,false,5⟩] []]
theorem jok:parseA jvh=.good jnc:=by kernel_rfl
theorem jnh:parseA jvl=.good joc:=by kernel_rfl
theorem jro (D:Opd→Opd→DatV) (r:Int) (o u:Opd):holdB D (mkX 1 r [o,u] [])=relB r (D o u) (D u o):=by
 rw [X1];rfl
theorem jp6 (g a b:Nat):holdB (truD (exL g) 3 2 (exV a b)) jnc=true:=by
 unfold jnc;rw [jro,show (⟨1,bs [115,91,48,93],false,0⟩:Opd)=⟨1,jpw,false,0⟩ from rfl,jv7,jvq];decide
theorem jq3 (g a b:Nat):holdB (truD (exL g) 3 2 (exV a b)) joc=false:=by
 unfold joc;rw [X1]
 have h:∀ r,holdB (truD (exL g) 3 2 (exV a b)) (mkX 1 r [⟨1,bs [115,91,49,93],false,0⟩,⟨2,⟨#[]⟩,false,5⟩] [])=false:=fun r=>by
  rw [jro,show (⟨1,bs [115,91,49,93],false,0⟩:Opd)=⟨1,jrz,false,0⟩ from rfl,jv2,jvq];rfl
 show anyTo (fun i=>holdB (truD (exL g) 3 2 (exV a b)) ([mkX 1 1 [⟨1,bs [115,91,49,93],false,0⟩,⟨2,⟨#[]⟩,false,5⟩] [],mkX 1 2 [⟨1,bs [115,91,49,93],false,0⟩,⟨2,⟨#[]⟩,false,5⟩] []].getD i .nil)) 2=false
 simp [anyTo,h]
theorem exO (o u:Opd) (r:Int) (h1:OpX o∧o.text.size≤1000000) (h2:OpX u∧u.text.size≤1000000):xOk (mkX 1 r [o,u] []):=by
 refine (Yb _).2 ⟨fun i hi=>?_,fun i hi=>absurd hi (Nat.not_lt_zero i)⟩
 have h3:i=0∨i=1:=by have:i<2:=hi;omega
 rcases h3 with rfl|rfl
 · exact h1
 · exact h2
theorem exOp (k n:Int) (l:List UInt8) (h:l.length≤100) (h0:0≤n) (h1:n≤100):OpX ⟨k,bs l,false,n⟩∧(⟨k,bs l,false,n⟩:Opd).text.size≤1000000:=⟨⟨by show (bs l).size≤_;rw [jy];omega,h0,by show n<18446744073709551616;omega⟩,by show (bs l).size≤_;rw [jy];omega⟩
theorem jut:xOk jnc:=exO _ _ 1 (exOp 1 0 [115,91,48,93] (by decide) (by decide) (by decide)) (exOp 2 5 [] (by decide) (by decide) (by decide))
theorem ju5:xOk joc:=by
 refine (Yb _).2 ⟨fun i hi=>absurd hi (Nat.not_lt_zero i),fun i hi=>?_⟩
 have h3:i=0∨i=1:=by have:i<2:=hi;omega
 rcases h3 with rfl|rfl
 · exact exO _ _ 1 (exOp 1 0 [115,91,49,93] (by decide) (by decide) (by decide)) (exOp 2 5 [] (by decide) (by decide) (by decide))
 · exact exO _ _ 2 (exOp 1 0 [115,91,49,93] (by decide) (by decide) (by decide)) (exOp 2 5 [] (by decide) (by decide) (by decide))
theorem jqi (a b:Nat):smV (exV a b):=⟨by decide,fun i _=>⟨by decide,fun i _=>⟨by decide,fun _ _=>trivial⟩⟩⟩
structure ExAt (g:Nat) (w:World):Prop where
 i:w.heap[g]?=some (.cells #[.string ⟨#[115]⟩,.int .u64 0,.int .i64 1,.bool false,.bool false] 60)
 t:w.heap[g+1]?=some (.cells #[.int .i64 2,.string ⟨#[]⟩,.int .i64 0,.int .i64 0,.int .i64 0,.slice none 0 0,.int .i64 11,.string ⟨#[]⟩,.int .i64 3,.int .i64 0,.int .i64 0,.slice none 0 0,.int .i64 13,.string ⟨#[80]⟩,.int .i64 0,.int .i64 0,.int .i64 0,.slice (some ⟨g,0,none⟩) 1 1] 58)
 a:w.heap[g+1+1]?=some (.cells #[.int .i64 2,.int .u64 5,.string ⟨#[]⟩,.slice none 0 0] 30)
 b:w.heap[g+1+1+1]?=some (.cells #[.int .i64 11,.int .u64 0,.string ⟨#[]⟩,.slice (some ⟨g+1+1,0,none⟩) 1 1] 30)
 v:w.heap[g+1+1+1+1]?=some (.cells #[.int .i64 13,.int .u64 0,.string ⟨#[]⟩,.slice (some ⟨g+1+1+1,0,none⟩) 1 1] 30)
theorem ExAt.next {g:Nat} {w w1:World} (h:ExAt g w) (hb:Below w.heap.size w w1):ExAt g w1:=⟨rowKeep hb h.i,rowKeep hb h.t,rowKeep hb h.a,rowKeep hb h.b,rowKeep hb h.v⟩
theorem ExAt.start (w:World):ExAt w.heap.size (((((w.alloc (.cells #[.string ⟨#[115]⟩,.int .u64 0,.int .i64 1,.bool false,.bool false] 60)).alloc (.cells #[.int .i64 2,.string ⟨#[]⟩,.int .i64 0,.int .i64 0,.int .i64 0,.slice none 0 0,.int .i64 11,.string ⟨#[]⟩,.int .i64 3,.int .i64 0,.int .i64 0,.slice none 0 0,.int .i64 13,.string ⟨#[80]⟩,.int .i64 0,.int .i64 0,.int .i64 0,.slice (some ⟨w.heap.size,0,none⟩) 1 1] 58)).alloc (.cells #[.int .i64 2,.int .u64 5,.string ⟨#[]⟩,.slice none 0 0] 30)).alloc (.cells #[.int .i64 11,.int .u64 0,.string ⟨#[]⟩,.slice (some ⟨w.heap.size+1+1,0,none⟩) 1 1] 30)).alloc (.cells #[.int .i64 13,.int .u64 0,.string ⟨#[]⟩,.slice (some ⟨w.heap.size+1+1+1,0,none⟩) 1 1] 30))∧Below w.heap.size w (((((w.alloc (.cells #[.string ⟨#[115]⟩,.int .u64 0,.int .i64 1,.bool false,.bool false] 60)).alloc (.cells #[.int .i64 2,.string ⟨#[]⟩,.int .i64 0,.int .i64 0,.int .i64 0,.slice none 0 0,.int .i64 11,.string ⟨#[]⟩,.int .i64 3,.int .i64 0,.int .i64 0,.slice none 0 0,.int .i64 13,.string ⟨#[80]⟩,.int .i64 0,.int .i64 0,.int .i64 0,.slice (some ⟨w.heap.size,0,none⟩) 1 1] 58)).alloc (.cells #[.int .i64 2,.int .u64 5,.string ⟨#[]⟩,.slice none 0 0] 30)).alloc (.cells #[.int .i64 11,.int .u64 0,.string ⟨#[]⟩,.slice (some ⟨w.heap.size+1+1,0,none⟩) 1 1] 30)).alloc (.cells #[.int .i64 13,.int .u64 0,.string ⟨#[]⟩,.slice (some ⟨w.heap.size+1+1+1,0,none⟩) 1 1] 30)):=by
 have h1:=jd w (.cells #[.string ⟨#[115]⟩,.int .u64 0,.int .i64 1,.bool false,.bool false] 60);have h2:=jd (w.alloc (.cells #[.string ⟨#[115]⟩,.int .u64 0,.int .i64 1,.bool false,.bool false] 60)) (.cells #[.int .i64 2,.string ⟨#[]⟩,.int .i64 0,.int .i64 0,.int .i64 0,.slice none 0 0,.int .i64 11,.string ⟨#[]⟩,.int .i64 3,.int .i64 0,.int .i64 0,.slice none 0 0,.int .i64 13,.string ⟨#[80]⟩,.int .i64 0,.int .i64 0,.int .i64 0,.slice (some ⟨w.heap.size,0,none⟩) 1 1] 58);rw [World.size_alloc] at h2;have h3:=jd ((w.alloc (.cells #[.string ⟨#[115]⟩,.int .u64 0,.int .i64 1,.bool false,.bool false] 60)).alloc (.cells #[.int .i64 2,.string ⟨#[]⟩,.int .i64 0,.int .i64 0,.int .i64 0,.slice none 0 0,.int .i64 11,.string ⟨#[]⟩,.int .i64 3,.int .i64 0,.int .i64 0,.slice none 0 0,.int .i64 13,.string ⟨#[80]⟩,.int .i64 0,.int .i64 0,.int .i64 0,.slice (some ⟨w.heap.size,0,none⟩) 1 1] 58)) (.cells #[.int .i64 2,.int .u64 5,.string ⟨#[]⟩,.slice none 0 0] 30);rw [World.size_alloc,World.size_alloc] at h3;have h4:=jd (((w.alloc (.cells #[.string ⟨#[115]⟩,.int .u64 0,.int .i64 1,.bool false,.bool false] 60)).alloc (.cells #[.int .i64 2,.string ⟨#[]⟩,.int .i64 0,.int .i64 0,.int .i64 0,.slice none 0 0,.int .i64 11,.string ⟨#[]⟩,.int .i64 3,.int .i64 0,.int .i64 0,.slice none 0 0,.int .i64 13,.string ⟨#[80]⟩,.int .i64 0,.int .i64 0,.int .i64 0,.slice (some ⟨w.heap.size,0,none⟩) 1 1] 58)).alloc (.cells #[.int .i64 2,.int .u64 5,.string ⟨#[]⟩,.slice none 0 0] 30)) (.cells #[.int .i64 11,.int .u64 0,.string ⟨#[]⟩,.slice (some ⟨w.heap.size+1+1,0,none⟩) 1 1] 30);rw [World.size_alloc,World.size_alloc,World.size_alloc] at h4;have h5:=jd ((((w.alloc (.cells #[.string ⟨#[115]⟩,.int .u64 0,.int .i64 1,.bool false,.bool false] 60)).alloc (.cells #[.int .i64 2,.string ⟨#[]⟩,.int .i64 0,.int .i64 0,.int .i64 0,.slice none 0 0,.int .i64 11,.string ⟨#[]⟩,.int .i64 3,.int .i64 0,.int .i64 0,.slice none 0 0,.int .i64 13,.string ⟨#[80]⟩,.int .i64 0,.int .i64 0,.int .i64 0,.slice (some ⟨w.heap.size,0,none⟩) 1 1] 58)).alloc (.cells #[.int .i64 2,.int .u64 5,.string ⟨#[]⟩,.slice none 0 0] 30)).alloc (.cells #[.int .i64 11,.int .u64 0,.string ⟨#[]⟩,.slice (some ⟨w.heap.size+1+1,0,none⟩) 1 1] 30)) (.cells #[.int .i64 13,.int .u64 0,.string ⟨#[]⟩,.slice (some ⟨w.heap.size+1+1+1,0,none⟩) 1 1] 30);rw [World.size_alloc,World.size_alloc,World.size_alloc,World.size_alloc] at h5;exact ⟨⟨je (je (je (je h1))),je (je (je h2)),je (je h3),je h4,h5⟩,(((((Below.refl _ _).alloc (Nat.le_refl _) _).alloc (by simp) _).alloc (by simp;omega) _).alloc (by simp;omega) _).alloc (by simp;omega) _⟩
theorem ExAt.types {g:Nat} {w:World} (h:ExAt g w):∀ i,i<3→Pa.TypeAt w (some ⟨g+1,0,none⟩) i (exL g i):=by
 intro i hi;have hq:=h.t;have hb:=h.i
 have h3:i=0∨i=1∨i=2:=by omega
 rcases h3 with rfl|rfl|rfl
 · exact ⟨_,0,rfl,ja hq rfl,ja hq rfl,ja hq rfl,ja hq rfl,ja hq rfl,ja hq rfl,(show Pa.TypeWf (Pa.noneT 2 0 0) from by unfold Pa.TypeWf;decide),⟨(show (0:Nat)≤3518437208780 from by decide),fun j hj=>absurd hj (Nat.not_lt_zero j)⟩⟩
 · exact ⟨_,0,rfl,ja hq rfl,ja hq rfl,ja hq rfl,ja hq rfl,ja hq rfl,ja hq rfl,(show Pa.TypeWf (Pa.noneT 11 3 0) from by unfold Pa.TypeWf;decide),⟨(show (0:Nat)≤3518437208780 from by decide),fun j hj=>absurd hj (Nat.not_lt_zero j)⟩⟩
 · refine ⟨_,0,rfl,ja hq rfl,ja hq rfl,ja hq rfl,ja hq rfl,ja hq rfl,ja hq rfl,(show Pa.TypeWf ⟨13,⟨#[80]⟩,0,0,0,some ⟨g,0,none⟩,1,1,fun _=>⟨⟨#[115]⟩,0,1,false,false⟩⟩ from by unfold Pa.TypeWf;dsimp only;decide),?_⟩;refine ⟨by show 1≤_;decide,fun j hj=>?_⟩
   obtain rfl:j=0:=by have:j<1:=hj;omega
   exact ⟨_,0,rfl,ja hb rfl,ja hb rfl,ja hb rfl,ja hb rfl,ja hb rfl,(show Pa.ItemWf ⟨⟨#[115]⟩,0,1,false,false⟩ from by unfold Pa.ItemWf;decide)⟩
theorem exWf {k n:Int} {ia:Option Addr} {l c:Nat} {f:Nat→Pa.VT} (h1:(Lit.int .i64 k).wf=true) (h2:(Lit.int .u64 n).wf=true) (h3:l≤100):Pa.ValWf (.node k n ⟨#[]⟩ ia l c f):=⟨h1,h2,by show (⟨#[]⟩:ByteArray).size≤_;decide,by show l≤_;omega⟩
theorem ExAt.vals {g:Nat} {w:World} (h:ExAt g w):Pa.ValAt w (fun _=>True) (exV (g+1+1) (g+1+1+1)):=by
 refine (Pa.kg _).2 ⟨exWf (by decide) (by decide) (by decide),fun i hi=>?_⟩
 obtain rfl:i=0:=by have:i<1:=hi;omega
 refine ⟨⟨_,0,rfl,trivial,lt_of_block h.b,ja h.b rfl,ja h.b rfl,ja h.b rfl,ja h.b rfl⟩,(Pa.kg _).2 ⟨exWf (by decide) (by decide) (by decide),fun i hi=>?_⟩⟩
 obtain rfl:i=0:=by have:i<1:=hi;omega
 exact ⟨⟨_,0,rfl,trivial,lt_of_block h.a,ja h.a rfl,ja h.a rfl,ja h.a rfl,ja h.a rfl⟩,(Pa.kg _).2 ⟨exWf (by decide) (by decide) (by decide),fun i hi=>absurd hi (Nat.not_lt_zero i)⟩⟩
theorem jtp (w:World) (hV:LibAt w):Calls Tryz.prog 9 #[] w fun e w'=>e=.returned (.bool true)∧Below w.heap.size w w':=by
 obtain ⟨he,hb⟩:=ExAt.start w;have HB0:=lh hb;have HE0:=lh he;clear he hb;have HP1:=lh (fun wx (h:LibAt wx)=>(show Calls Tryz.prog 25 #[.string ⟨#[115,91,48,93,32,61,32,53]⟩] wx (ParseTo wx (.good jnc)) from by have:=jf1 jvh (by decide) wx h;rw [jok] at this;exact this));have HP2:=lh (fun wx (h:LibAt wx)=>(show Calls Tryz.prog 25 #[.string ⟨#[115,91,49,93,32,61,32,53,32,79,82,32,115,91,49,93,32,60,62,32,53]⟩] wx (ParseTo wx (.good joc)) from by have:=jf1 jvl (by decide) wx h;rw [jnh] at this;exact this))
 have HC1:=lh (fun (T:XT) (h:SameX T jnc) (S:Nat→Prop) wx (hx:ExAt w.heap.size wx) (ht:XAt wx S T)=>by
  have:=Y9 (exL w.heap.size) (some ⟨w.heap.size+1,0,none⟩) 3 3 (by decide) (Nat.le_refl _) 2 (fun _=>True) (exV (w.heap.size+1+1) (w.heap.size+1+1+1)) (jqi _ _) S T (jh1 T _ h jut) wx hx.types hx.vals ht
  rw [jfg _ T _ h,jp6] at this
  exact this)
 have HC2:=lh (fun (T:XT) (h:SameX T joc) (S:Nat→Prop) wx (hx:ExAt w.heap.size wx) (ht:XAt wx S T)=>by
  have:=Y9 (exL w.heap.size) (some ⟨w.heap.size+1,0,none⟩) 3 3 (by decide) (Nat.le_refl _) 2 (fun _=>True) (exV (w.heap.size+1+1) (w.heap.size+1+1+1)) (jqi _ _) S T (jh1 T _ h ju5) wx hx.types hx.vals ht
  rw [jfg _ T _ h,jq3] at this
  exact this)
 unfold exV at HC1 HC2;simp only [Pa.VT.kind,Pa.VT.num,Pa.VT.text,Pa.VT.ia,Pa.VT.len,Pa.VT.cap] at HC1 HC2;have HV:=lh hV;obtain ⟨W0,hW0⟩:∃ W0,(((((w.alloc (.cells #[.string ⟨#[115]⟩,.int .u64 0,.int .i64 1,.bool false,.bool false] 60)).alloc (.cells #[.int .i64 2,.string ⟨#[]⟩,.int .i64 0,.int .i64 0,.int .i64 0,.slice none 0 0,.int .i64 11,.string ⟨#[]⟩,.int .i64 3,.int .i64 0,.int .i64 0,.slice none 0 0,.int .i64 13,.string ⟨#[80]⟩,.int .i64 0,.int .i64 0,.int .i64 0,.slice (some ⟨w.heap.size,0,none⟩) 1 1] 58)).alloc (.cells #[.int .i64 2,.int .u64 5,.string ⟨#[]⟩,.slice none 0 0] 30)).alloc (.cells #[.int .i64 11,.int .u64 0,.string ⟨#[]⟩,.slice (some ⟨w.heap.size+1+1,0,none⟩) 1 1] 30)).alloc (.cells #[.int .i64 13,.int .u64 0,.string ⟨#[]⟩,.slice (some ⟨w.heap.size+1+1+1,0,none⟩) 1 1] 30))=W0:=⟨_,rfl⟩;rw [hW0] at HB0 HE0;clear hV;go_enter Tryz.func9,Tryz.ntmps9
 go_upto_region 3 with (fail)
 try rw [hW0]
 clear hW0
 go_upto_region 4 with (go_at_call 25;refine (HP1.out _ (by exact HV.out.held HB0.out)).mono ?_;rintro e w1 h1;obtain ⟨hb,T,rfl,hs,hx⟩:=h1;have HB1:=lh hb;have HS1:=lh hs;have HX1:=lh hx;clear hb hs hx)
 have HQ1:=lh (rowKeep ((Below.refl (w1.alloc (.cells #[.int .i64 T.op,.int .i64 T.rel,.slice T.aa T.an T.ac,.slice T.ka T.kn T.kc] 26)).heap.size _).alloc (Nat.le_refl _) (.cells #[.int .i64 0,.int .i64 0] 54)) (jd w1 (.cells #[.int .i64 T.op,.int .i64 T.rel,.slice T.aa T.an T.ac,.slice T.ka T.kn T.kc] 26)));have hB2:Below w1.heap.size w1 ((w1.alloc (.cells #[.int .i64 T.op,.int .i64 T.rel,.slice T.aa T.an T.ac,.slice T.ka T.kn T.kc] 26)).alloc (.cells #[.int .i64 0,.int .i64 0] 54)):=((Below.refl _ _).alloc (Nat.le_refl _) _).alloc (by simp) _;have HB2:=lh hB2;have HXT:=lh (HX1.out.next hB2);generalize (w1.alloc (.cells #[.int .i64 T.op,.int .i64 T.rel,.slice T.aa T.an T.ac,.slice T.ka T.kn T.kc] 26)).alloc (.cells #[.int .i64 0,.int .i64 0] 54)=W2 at *;have HW2:=lh (bth HB1.out HB2.out);have HV2:=lh (HV.out.held (bth HB0.out HW2.out));clear hB2 HX1
 go_upto_region 5 with (go_at_call 25;refine (HP2.out _ (by exact HV2.out)).mono ?_;rintro e w3 h3;obtain ⟨hb,U,rfl,hs,hx⟩:=h3;have HB3:=lh hb;have HS3:=lh hs;have HX3:=lh hx;clear hb hs hx)
 have HQ3:=lh (rowKeep ((Below.refl (w3.alloc (.cells #[.int .i64 U.op,.int .i64 U.rel,.slice U.aa U.an U.ac,.slice U.ka U.kn U.kc] 26)).heap.size _).alloc (Nat.le_refl _) (.cells #[.int .i64 0,.int .i64 0] 54)) (jd w3 (.cells #[.int .i64 U.op,.int .i64 U.rel,.slice U.aa U.an U.ac,.slice U.ka U.kn U.kc] 26)));have hB4:Below w3.heap.size w3 ((w3.alloc (.cells #[.int .i64 U.op,.int .i64 U.rel,.slice U.aa U.an U.ac,.slice U.ka U.kn U.kc] 26)).alloc (.cells #[.int .i64 0,.int .i64 0] 54)):=((Below.refl _ _).alloc (Nat.le_refl _) _).alloc (by simp) _;have HB4:=lh hB4;have HXU:=lh (HX3.out.next hB4);generalize (w3.alloc (.cells #[.int .i64 U.op,.int .i64 U.rel,.slice U.aa U.an U.ac,.slice U.ka U.kn U.kc] 26)).alloc (.cells #[.int .i64 0,.int .i64 0] 54)=W4 at *;have HW4:=lh (bth HB3.out HB4.out);have HA4:=lh (bth HW2.out HW4.out);have hq1:=rowKeep HW4.out HQ1.out;obtain ⟨c0,c1,c2,c3⟩:=jx hq1;have HE4:=lh (HE0.out.next HA4.out);obtain ⟨e0,e1,e2,e3⟩:=jx HE4.out.v;have HXT4:=lh (HXT.out.next HW4.out);clear hB4 HX3 hq1
 go_wp2_with (first
  |(go_at_call 10;(with_reducible refine (HC2.out U HS3.out _ _ (by exact HE5.out) (by exact HXU5.out)).mono ?_);rintro e w6 ⟨rfl,hb⟩;have HB6:=lh hb;clear hb)
  |(go_at_call 10;(with_reducible refine (HC1.out T HS1.out _ _ (by exact HE4.out) (by exact HXT4.out)).mono ?_);rintro e w5 ⟨rfl,hb⟩;have HA5:=lh (bth HA4.out hb);have HXU5:=lh (HXU.out.next hb);have HE5:=lh (HE4.out.next hb);obtain ⟨d0,d1,d2,d3⟩:=jx (rowKeep hb HQ3.out);obtain ⟨e0,e1,e2,e3⟩:=jx HE5.out.v;clear hb))
 go_ret;exact ⟨rfl,bth HB0.out (bth HA5.out HB6.out)⟩
theorem bx9 {w:World} {b:Nat} {t:TypeId} {c0 c1 c2 c3 c4 c5 c6 c7 c8:Value} (h:w.heap[b]?=some (.cells #[c0,c1,c2,c3,c4,c5,c6,c7,c8] t)):w.cell? ⟨b,0,none⟩=some c0∧w.cell? ⟨b,1,none⟩=some c1∧w.cell? ⟨b,2,none⟩=some c2∧w.cell? ⟨b,3,none⟩=some c3∧w.cell? ⟨b,4,none⟩=some c4∧w.cell? ⟨b,5,none⟩=some c5∧w.cell? ⟨b,6,none⟩=some c6∧w.cell? ⟨b,7,none⟩=some c7∧w.cell? ⟨b,8,none⟩=some c8:=⟨ja h rfl,ja h rfl,ja h rfl,ja h rfl,ja h rfl,ja h rfl,ja h rfl,ja h rfl,ja h rfl⟩
structure Ost (w:World) (c:Array Value) (tc:TypeId) (wx:World):Prop where
 x:wx.heap[w.heap.size]?=some (.cells c tc)
 bel:Below w.heap.size w wx
theorem Ost.next {w:World} {c:Array Value} {tc:TypeId} {wx wy:World} (h:Ost w c tc wx) (hb:Below wx.heap.size wx wy):Ost w c tc wy:=⟨rowKeep hb h.x,bth h.bel hb⟩
theorem Ost.start (w:World) (c:Array Value) (tc:TypeId):Ost w c tc (w.alloc (.cells c tc)):=⟨jd w _,(Below.refl _ _).alloc (Nat.le_refl _) _⟩
theorem jio (L:Nat→Pa.TypeV) (al:Option Addr) (len cap:Nat) (hlen:len≤140737488351232) (t:Int) (S S':Nat→Prop) (T:XT) (V:Pa.VT) (w:World) (H:∀ i,i<len→Pa.TypeAt w al i (L i)) (hx:XAt w S T) (ht:XTx T) (hv:Pa.ValAt w S' V):
  Calls Tryz.prog 7 #[.slice al len cap,.agg #[.int .i64 t,.int .i64 T.op,.int .i64 T.rel,.slice T.aa T.an T.ac,.slice T.ka T.kn T.kc,.int .i64 V.kind,.int .u64 V.num,.string V.text,.slice V.ia V.len V.cap]] w fun e w'=>e=.returned (.bool (Pa.greatB L len||greatX T 0||Pa.muchT V 0))∧Below w.heap.size w w':=by
 have HL:=lh (fun wx (hb:Below w.heap.size w wx)=>Pa.jbm al len cap L hlen wx (jz H hb));have HX:=lh (fun wx (hb:Below w.heap.size w wx)=>jbm S T 0 wx (hx.next hb) ht (by omega));have HM:=lh (fun wx (hb:Below w.heap.size w wx)=>Pa.jii S' V 0 wx (hv.next hb) (by omega));unfold RGreatTo at HX;unfold Pa.RMuchTo at HM;rw [show ((0:Nat):Int)=0 from rfl] at HX HM;generalize Pa.greatB L len=g1 at HL ⊢;generalize greatX T 0=g2 at HX ⊢;generalize Pa.muchT V 0=g3 at HM ⊢;have HS:=lh (Ost.start w #[.int .i64 t,.int .i64 T.op,.int .i64 T.rel,.slice T.aa T.an T.ac,.slice T.ka T.kn T.kc,.int .i64 V.kind,.int .u64 V.num,.string V.text,.slice V.ia V.len V.cap] 32);obtain ⟨W0,hW0⟩:∃ W0,w.alloc (.cells #[.int .i64 t,.int .i64 T.op,.int .i64 T.rel,.slice T.aa T.an T.ac,.slice T.ka T.kn T.kc,.int .i64 V.kind,.int .u64 V.num,.string V.text,.slice V.ia V.len V.cap] 32)=W0:=⟨_,rfl⟩;rw [hW0] at HS;obtain ⟨x0,x1,x2,x3,x4,v1,v2,v3,v4⟩:=bx9 HS.out.x;clear H hx ht hv
 cases g1 with
 |true=>
  rw [Bool.true_or,Bool.true_or];go_enter Tryz.func7,Tryz.ntmps7
  go_upto_region 1 with (fail)
  try rw [hW0]
  clear hW0;go_wp2_with (first|(go_at_call 21;(with_reducible refine (HL.out _ (by exact HS.out.bel)).mono ?_);rintro e w1 ⟨rfl,rfl⟩)|(go_at_call 16;(with_reducible refine (HX.out _ (by exact HS.out.bel)).mono ?_);rintro e w2 ⟨rfl,hb⟩;have HS:=lh (HS.out.next hb);clear x1 x2 x3 x4 v1 v2 v3 v4;obtain ⟨x0,x1,x2,x3,x4,v1,v2,v3,v4⟩:=bx9 HS.out.x;clear hb)|(go_at_call 22;(with_reducible refine (HM.out _ (by exact HS.out.bel)).mono ?_);rintro e w2 ⟨rfl,hb⟩;have HS:=lh (HS.out.next hb);clear x1 x2 x3 x4 v1 v2 v3 v4;obtain ⟨x0,x1,x2,x3,x4,v1,v2,v3,v4⟩:=bx9 HS.out.x;clear hb));go_ret;exact ⟨rfl,HS.out.bel⟩
 |false=>
  rw [Bool.false_or]
  cases g2 with
  |true=>
   rw [Bool.true_or];go_enter Tryz.func7,Tryz.ntmps7
   go_upto_region 1 with (fail)
   try rw [hW0]
   clear hW0;go_wp2_with (first|(go_at_call 21;(with_reducible refine (HL.out _ (by exact HS.out.bel)).mono ?_);rintro e w1 ⟨rfl,rfl⟩)|(go_at_call 16;(with_reducible refine (HX.out _ (by exact HS.out.bel)).mono ?_);rintro e w2 ⟨rfl,hb⟩;have HS:=lh (HS.out.next hb);clear x1 x2 x3 x4 v1 v2 v3 v4;obtain ⟨x0,x1,x2,x3,x4,v1,v2,v3,v4⟩:=bx9 HS.out.x;clear hb)|(go_at_call 22;(with_reducible refine (HM.out _ (by exact HS.out.bel)).mono ?_);rintro e w2 ⟨rfl,hb⟩;have HS:=lh (HS.out.next hb);clear x1 x2 x3 x4 v1 v2 v3 v4;obtain ⟨x0,x1,x2,x3,x4,v1,v2,v3,v4⟩:=bx9 HS.out.x;clear hb));go_ret;exact ⟨rfl,HS.out.bel⟩
  |false=>
   rw [Bool.false_or];go_enter Tryz.func7,Tryz.ntmps7
   go_upto_region 1 with (fail)
   try rw [hW0]
   clear hW0;go_wp2_with (first|(go_at_call 21;(with_reducible refine (HL.out _ (by exact HS.out.bel)).mono ?_);rintro e w1 ⟨rfl,rfl⟩)|(go_at_call 16;(with_reducible refine (HX.out _ (by exact HS.out.bel)).mono ?_);rintro e w2 ⟨rfl,hb⟩;have HS:=lh (HS.out.next hb);clear x1 x2 x3 x4 v1 v2 v3 v4;obtain ⟨x0,x1,x2,x3,x4,v1,v2,v3,v4⟩:=bx9 HS.out.x;clear hb)|(go_at_call 22;(with_reducible refine (HM.out _ (by exact HS.out.bel)).mono ?_);rintro e w2 ⟨rfl,hb⟩;have HS:=lh (HS.out.next hb);clear x1 x2 x3 x4 v1 v2 v3 v4;obtain ⟨x0,x1,x2,x3,x4,v1,v2,v3,v4⟩:=bx9 HS.out.x;clear hb));go_ret;exact ⟨rfl,HS.out.bel⟩
theorem bx8 {w:World} {b:Nat} {t:TypeId} {c0 c1 c2 c3 c4 c5 c6 c7:Value} (h:w.heap[b]?=some (.cells #[c0,c1,c2,c3,c4,c5,c6,c7] t)):w.cell? ⟨b,0,none⟩=some c0∧w.cell? ⟨b,1,none⟩=some c1∧w.cell? ⟨b,2,none⟩=some c2∧w.cell? ⟨b,3,none⟩=some c3∧w.cell? ⟨b,4,none⟩=some c4∧w.cell? ⟨b,5,none⟩=some c5∧w.cell? ⟨b,6,none⟩=some c6∧w.cell? ⟨b,7,none⟩=some c7:=⟨ja h rfl,ja h rfl,ja h rfl,ja h rfl,ja h rfl,ja h rfl,ja h rfl,ja h rfl⟩
theorem jnw (k n:Int) (g:Bool) (x:ByteArray) (w:World):(binOp .eql 42 (.agg #[.int .i64 k,.bool g,.int .u64 n,.string x]) (.agg #[.int .i64 k,.bool g,.int .u64 n,.string x])).run Tryz.prog w=.ok (.bool true) w:=by
 have hu:=Tryz.underlying42;have hi:=Tryz.underlying3;have hb:=Tryz.underlying4;have hn:=Tryz.underlying27;have hs:=Tryz.underlying9;have p0:=fun w=>run_equalIn_int (P:=Tryz.prog) w 9998 3 .i64 .i64 k k hi;have p1:=fun w=>run_equalIn_bool' (P:=Tryz.prog) w 9998 4 g g hb;have p2:=fun w=>run_equalIn_int (P:=Tryz.prog) w 9998 27 .u64 .u64 n n hn;have p3:=fun w=>run_equalIn_string (P:=Tryz.prog) w 9998 9 x x hs;rw [run_eql_struct,run_equalIn_agg _ 9999 _ _ _ (by kernel_rfl) (by kernel_rfl)];simp only [Program.fieldsOf,hu];simp [Op.eqFields,go_sem,p0,p1,p2,p3]
theorem walkHolds (L:Nat→Pa.TypeV) (al:Option Addr) (len cap:Nat) (hlen:len≤140737488351232) (hcap:len≤cap) (t:Int) (S S':Nat→Prop) (T:XT) (V:Pa.VT) (a b:Opd) (ha:OpX a) (hb:OpX b) (w:World) (H:∀ i,i<len→Pa.TypeAt w al i (L i)) (hx:XAt w S T) (ht:XTx T) (hv:Pa.ValAt w S' V) (hV:LibAt w):
  Calls Tryz.prog 3 #[.slice al len cap,.agg #[.int .i64 t,.int .i64 T.op,.int .i64 T.rel,.slice T.aa T.an T.ac,.slice T.ka T.kn T.kc,.int .i64 V.kind,.int .u64 V.num,.string V.text,.slice V.ia V.len V.cap],.agg #[.int .i64 a.kind,.string a.text,.bool a.neg,.int .u64 a.num,.int .i64 b.kind,.string b.text,.bool b.neg,.int .u64 b.num]] w fun e w'=>e=.returned (.bool true)∧Below w.heap.size w w':=by
 have HG:=lh (fun wx (hb:Below w.heap.size w wx)=>jio L al len cap hlen t S S' T V wx (jz H hb) (hx.next hb) ht (hv.next hb));have HAW:=lh (fun wx (hx:Below w.heap.size w wx)=>jtp wx (hV.held hx));have HS:=lh (Tst.start w #[.int .i64 t,.int .i64 T.op,.int .i64 T.rel,.slice T.aa T.an T.ac,.slice T.ka T.kn T.kc,.int .i64 V.kind,.int .u64 V.num,.string V.text,.slice V.ia V.len V.cap] #[.int .i64 a.kind,.string a.text,.bool a.neg,.int .u64 a.num,.int .i64 b.kind,.string b.text,.bool b.neg,.int .u64 b.num] 32 35);obtain ⟨W0,hW0⟩:∃ W0,(w.alloc (.cells #[.int .i64 t,.int .i64 T.op,.int .i64 T.rel,.slice T.aa T.an T.ac,.slice T.ka T.kn T.kc,.int .i64 V.kind,.int .u64 V.num,.string V.text,.slice V.ia V.len V.cap] 32)).alloc (.cells #[.int .i64 a.kind,.string a.text,.bool a.neg,.int .u64 a.num,.int .i64 b.kind,.string b.text,.bool b.neg,.int .u64 b.num] 35)=W0:=⟨_,rfl⟩;rw [hW0] at HS;obtain ⟨x0,x1,x2,x3,x4,v1,v2,v3,v4⟩:=bx9 HS.out.x;obtain ⟨y0,y1,y2,y3,y4,y5,y6,y7⟩:=bx8 HS.out.v;have HF:Hid True:=lh trivial
 cases g1:(Pa.greatB L len||greatX T 0||Pa.muchT V 0) with
 |true=>
  rw [g1] at HG;clear H hx ht hv hV ha hb g1;go_enter Tryz.func3,Tryz.ntmps3
  go_upto_region 1 with (fail)
  try rw [hW0]
  clear hW0;go_wp2_with (first|(go_at_call 7;(with_reducible refine (HG.out _ (by exact HS.out.bel)).mono ?_);rintro e w2 ⟨rfl,hb⟩;have HS:=lh (HS.out.next hb);clear x0 x1 x2 x3 x4 v1 v2 v3 v4 y0 y1 y2 y3 y4 y5 y6 y7;obtain ⟨x0,x1,x2,x3,x4,v1,v2,v3,v4⟩:=bx9 HS.out.x;obtain ⟨y0,y1,y2,y3,y4,y5,y6,y7⟩:=bx8 HS.out.v;clear hb)|(go_at_call 9;(with_reducible refine (HAW.out _ (by exact HS.out.bel)).mono ?_);rintro e w2 ⟨rfl,hb⟩;have HS:=lh (HS.out.next hb);clear hb));go_ret;exact ⟨rfl,HS.out.bel⟩
 |false=>
  rw [g1] at HG;simp only [Bool.or_eq_false_iff] at g1;obtain ⟨⟨g0,g1⟩,g3⟩:=g1;have h100:=Pa.jqv g0
  by_cases h1:300<a.text.size
  · have h1i:(300:Int)<(a.text.size:Int):=by omega
    have d1:decide ((300:Int)<(a.text.size:Int))=true:=decide_eq_true h1i;clear H hx ht hv hV ha hb g0 g1 g3;go_enter Tryz.func3,Tryz.ntmps3
    go_upto_region 1 with (fail)
    try rw [hW0]
    clear hW0;go_wp2_with (first|(go_at_call 7;(with_reducible refine (HG.out _ (by exact HS.out.bel)).mono ?_);rintro e w2 ⟨rfl,hb⟩;have HS:=lh (HS.out.next hb);clear x0 x1 x2 x3 x4 v1 v2 v3 v4 y0 y1 y2 y3 y4 y5 y6 y7;obtain ⟨x0,x1,x2,x3,x4,v1,v2,v3,v4⟩:=bx9 HS.out.x;obtain ⟨y0,y1,y2,y3,y4,y5,y6,y7⟩:=bx8 HS.out.v;clear hb)|(go_at_call 9;(with_reducible refine (HAW.out _ (by exact HS.out.bel)).mono ?_);rintro e w2 ⟨rfl,hb⟩;have HS:=lh (HS.out.next hb);clear hb));go_ret;exact ⟨rfl,HS.out.bel⟩
  · have h1i:¬(300:Int)<(a.text.size:Int):=by omega
    have d1:decide ((300:Int)<(a.text.size:Int))=false:=decide_eq_false h1i
    by_cases h2:300<b.text.size
    · have h2i:(300:Int)<(b.text.size:Int):=by omega
      have d2:decide ((300:Int)<(b.text.size:Int))=true:=decide_eq_true h2i;clear H hx ht hv hV ha hb g0 g1 g3;go_enter Tryz.func3,Tryz.ntmps3
      go_upto_region 1 with (fail)
      try rw [hW0]
      clear hW0;go_wp2_with (first|(go_at_call 7;(with_reducible refine (HG.out _ (by exact HS.out.bel)).mono ?_);rintro e w2 ⟨rfl,hb⟩;have HS:=lh (HS.out.next hb);clear x0 x1 x2 x3 x4 v1 v2 v3 v4 y0 y1 y2 y3 y4 y5 y6 y7;obtain ⟨x0,x1,x2,x3,x4,v1,v2,v3,v4⟩:=bx9 HS.out.x;obtain ⟨y0,y1,y2,y3,y4,y5,y6,y7⟩:=bx8 HS.out.v;clear hb)|(go_at_call 9;(with_reducible refine (HAW.out _ (by exact HS.out.bel)).mono ?_);rintro e w2 ⟨rfl,hb⟩;have HS:=lh (HS.out.next hb);clear hb));go_ret;exact ⟨rfl,HS.out.bel⟩
    · have h2i:¬(300:Int)<(b.text.size:Int):=by omega
      have d2:decide ((300:Int)<(b.text.size:Int))=false:=decide_eq_false h2i;have HF:=lh (fun wx (hb:Below w.heap.size w wx)=>Pa.jkt al len cap L (by omega) S' t V wx (hv.next hb) (jz H hb));obtain ⟨E,hE⟩:∃ E,Pa.fitsA L len t V=E:=⟨_,rfl⟩;rw [hE] at HF;clear hE
      by_cases h0:E=0
      · subst h0;have hsm:=jpe V 0 g3;have hok:=joa T 0 ht g1;have HC:=lh (fun wx (hb:Below w.heap.size w wx)=>Y9 L al len cap (by omega) hcap t S' V hsm S T hok wx (jz H hb) (hv.next hb) (hx.next hb));have HR:=lh (fun wx (hb:Below w.heap.size w wx)=>jmz L al len cap (by omega) t S' V hsm S T wx (jz H hb) (hv.next hb) (hx.next hb) hok);have HD:=lh (fun wx (hx:Below w.heap.size w wx)=>jhs L al len cap (by omega) hcap t S' V a b (by omega) (by omega) wx (jz H hx) (hv.next hx));have HQ:=lh (fun wx (hx:Below w.heap.size w wx)=>yz L al len cap (by omega) t S' V a b (by omega) (by omega) wx (jz H hx) (hv.next hx));obtain ⟨h,hh⟩:∃ h,holdB (truD L len t V) T=h:=⟨_,rfl⟩;rw [hh] at HC HR;obtain ⟨⟨dk,dg,dn,dx⟩,hd⟩:∃ d,truD L len t V a b=d:=⟨_,rfl⟩;rw [hd,kt] at HD HQ;have hde:=jnw dk dn dg dx;clear H hx ht hv hV ha hb g0 g1 g3 hsm hok hh hd h1 h2;go_enter Tryz.func3,Tryz.ntmps3
        go_upto_region 1 with (fail)
        try rw [hW0]
        clear hW0
        go_upto_region 3 with (first|(go_at_call 7;(with_reducible refine (HG.out _ (by exact HS.out.bel)).mono ?_);rintro e w2 ⟨rfl,hb⟩;have HS:=lh (HS.out.next hb);clear x0 x1 x2 x3 x4 v1 v2 v3 v4 y0 y1 y2 y3 y4 y5 y6 y7;obtain ⟨x0,x1,x2,x3,x4,v1,v2,v3,v4⟩:=bx9 HS.out.x;obtain ⟨y0,y1,y2,y3,y4,y5,y6,y7⟩:=bx8 HS.out.v;clear hb)|(go_at_call 8;(with_reducible refine (HF.out _ (by exact HS.out.bel)).mono ?_);rintro e w2 ⟨rfl,hb⟩;have HS:=lh (HS.out.next hb);clear x0 x1 x2 x3 x4 v1 v2 v3 v4 y0 y1 y2 y3 y4 y5 y6 y7;obtain ⟨x0,x1,x2,x3,x4,v1,v2,v3,v4⟩:=bx9 HS.out.x;obtain ⟨y0,y1,y2,y3,y4,y5,y6,y7⟩:=bx8 HS.out.v;clear hb))
        rename World=>W1
        clear x0 x1 x2 x3 x4 v1 v2 v3 v4 y0 y1 y2 y3 y4 y5 y6 y7
        try rw [d2]
        refine jq (by kernel_rfl) 44 (fun v=>([.slice al len cap,.agg #[.int .i64 t,.int .i64 T.op,.int .i64 T.rel,.slice T.aa T.an T.ac,.slice T.ka T.kn T.kc,.int .i64 V.kind,.int .u64 V.num,.string V.text,.slice V.ia V.len V.cap],.agg #[.int .i64 a.kind,.string a.text,.bool a.neg,.int .u64 a.num,.int .i64 b.kind,.string b.text,.bool b.neg,.int .u64 b.num],undef,.pointer (some ⟨w.heap.size,0,none⟩),.pointer (some ⟨w.heap.size+1,0,none⟩),v 43,.slice al len cap,.agg #[.int .i64 t,.int .i64 T.op,.int .i64 T.rel,.slice T.aa T.an T.ac,.slice T.ka T.kn T.kc,.int .i64 V.kind,.int .u64 V.num,.string V.text,.slice V.ia V.len V.cap],.bool false,.bool false,.pointer (some ⟨w.heap.size+1,0,none⟩),.pointer (some ⟨w.heap.size+1,1,none⟩),.string a.text,.int .i64 (a.text.size:Nat),.bool false,.bool false,.bool false,.pointer (some ⟨w.heap.size+1,4,none⟩),.pointer (some ⟨w.heap.size+1,5,none⟩),.string b.text,.int .i64 (b.text.size:Nat),.bool false,.bool false,.bool false,.slice al len cap,.pointer (some ⟨w.heap.size,0,none⟩),.int .i64 t,.pointer (some ⟨w.heap.size,5,none⟩),.agg #[.int .i64 V.kind,.int .u64 V.num,.string V.text,.slice V.ia V.len V.cap],.int .i64 0,.bool false,.bool false,undef,v 0,v 1,v 2,v 3,v 4,v 5,v 6,v 7,v 8,v 9,v 10,v 11,v 12,v 13,v 14,v 15,v 16,v 17,v 18,v 19,v 20,v 21,v 22,v 23,v 24,v 25,v 26,v 27,v 28,v 29,v 30,v 31,v 32,v 33,v 34,v 35,v 36,v 37,v 38,v 39,v 40,v 41,v 42]:List Value).toArray) (fun k=>if k=43 then .bool false else undef) (fun _=>none) (fun j=>[.slice al len cap,.pointer (some ⟨w.heap.size,0,none⟩),.int .i64 t,.pointer (some ⟨w.heap.size,1,none⟩),.agg #[.int .i64 T.op,.int .i64 T.rel,.slice T.aa T.an T.ac,.slice T.ka T.kn T.kc],.pointer (some ⟨w.heap.size,5,none⟩),.agg #[.int .i64 V.kind,.int .u64 V.num,.string V.text,.slice V.ia V.len V.cap],.bool h,.slice al len cap,.pointer (some ⟨w.heap.size,0,none⟩),.int .i64 t,.pointer (some ⟨w.heap.size,1,none⟩),.agg #[.int .i64 T.op,.int .i64 T.rel,.slice T.aa T.an T.ac,.slice T.ka T.kn T.kc],.pointer (some ⟨w.heap.size,5,none⟩),.agg #[.int .i64 V.kind,.int .u64 V.num,.string V.text,.slice V.ia V.len V.cap],.bool h,.bool true,.bool true,.slice al len cap,.pointer (some ⟨w.heap.size,0,none⟩),.int .i64 t,.pointer (some ⟨w.heap.size+1,0,none⟩),.agg #[.int .i64 a.kind,.string a.text,.bool a.neg,.int .u64 a.num],.pointer (some ⟨w.heap.size+1,4,none⟩),.agg #[.int .i64 b.kind,.string b.text,.bool b.neg,.int .u64 b.num],.pointer (some ⟨w.heap.size,5,none⟩),.agg #[.int .i64 V.kind,.int .u64 V.num,.string V.text,.slice V.ia V.len V.cap],.agg #[.int .i64 dk,.bool dg,.int .u64 dn,.string dx],.slice al len cap,.pointer (some ⟨w.heap.size,0,none⟩),.int .i64 t,.pointer (some ⟨w.heap.size+1,0,none⟩),.agg #[.int .i64 a.kind,.string a.text,.bool a.neg,.int .u64 a.num],.pointer (some ⟨w.heap.size+1,4,none⟩),.agg #[.int .i64 b.kind,.string b.text,.bool b.neg,.int .u64 b.num],.pointer (some ⟨w.heap.size,5,none⟩),.agg #[.int .i64 V.kind,.int .u64 V.num,.string V.text,.slice V.ia V.len V.cap],.agg #[.int .i64 dk,.bool dg,.int .u64 dn,.string dx],.bool true,.bool true,.bool true,.bool true,.bool true,.bool true].getD j undef) (fun w'=>Below W1.heap.size W1 w')
         (Nat.le_of_ble_eq_true (by kernel_rfl)) (by kernel_rfl) (fun _ _ h hb=>bth h hb) (Below.refl _ _) (fun j hj v w1 hBx hsz hd=>?_) (fun v w1 hv hdist hBx hb=>?_)
        · have hBw:=bth HS.out.bel hBx;have HZ:=HS.out.next hBx;obtain ⟨x0,x1,x2,x3,x4,v1,v2,v3,v4⟩:=bx9 HZ.x;obtain ⟨y0,y1,y2,y3,y4,y5,y6,y7⟩:=bx8 HZ.v;clear HZ
          have hjN:j=0∨j=1∨j=2∨j=3∨j=4∨j=5∨j=6∨j=7∨j=8∨j=9∨j=10∨j=11∨j=12∨j=13∨j=14∨j=15∨j=16∨j=17∨j=18∨j=19∨j=20∨j=21∨j=22∨j=23∨j=24∨j=25∨j=26∨j=27∨j=28∨j=29∨j=30∨j=31∨j=32∨j=33∨j=34∨j=35∨j=36∨j=37∨j=38∨j=39∨j=40∨j=41∨j=42∨j=43:=by omega
          have hd:=fun k h=>hd k (cm h)
          rcases hjN with rfl|rfl|rfl|rfl|rfl|rfl|rfl|rfl|rfl|rfl|rfl|rfl|rfl|rfl|rfl|rfl|rfl|rfl|rfl|rfl|rfl|rfl|rfl|rfl|rfl|rfl|rfl|rfl|rfl|rfl|rfl|rfl|rfl|rfl|rfl|rfl|rfl|rfl|rfl|rfl|rfl|rfl|rfl|rfl<;>refine wpOp_step (o:= _) rfl (fun K' hK=>?_)
          iterate 2 (focus (go_simp;exact hK _ _ (qs _ rfl rfl)))
          · have e1:v 1=.pointer (some ⟨w.heap.size,0,none⟩):=hd 1 (by kernel_rfl);go_simp;exact hK _ _ (qs _ (jb (by simp [upd,e1])) rfl)
          · go_simp;exact hK _ _ (qs _ rfl rfl)
          · have e3:v 3=.pointer (some ⟨w.heap.size,1,none⟩):=hd 3 (by kernel_rfl);go_simp;exact hK _ _ (qs _ (jb (by simp [upd,e3])) rfl)
          · go_simp;exact hK _ _ (qs _ rfl rfl)
          · have e5:v 5=.pointer (some ⟨w.heap.size,5,none⟩):=hd 5 (by kernel_rfl);go_simp;exact hK _ _ (qs _ (jb (by simp [upd,e5])) rfl)
          · have e0:v 0=.slice al len cap:=hd 0 (by kernel_rfl);have e2:v 2=.int .i64 t:=hd 2 (by kernel_rfl);have e4:v 4=.agg #[.int .i64 T.op,.int .i64 T.rel,.slice T.aa T.an T.ac,.slice T.ka T.kn T.kc]:=hd 4 (by kernel_rfl);have e6:v 6=.agg #[.int .i64 V.kind,.int .u64 V.num,.string V.text,.slice V.ia V.len V.cap]:=hd 6 (by kernel_rfl);go_simp;refine (HC.out w1 hBw).mono ?_;rintro e w3 ⟨rfl,hb3⟩;exact hK _ _ (qc _ (jb (by simp [upd,e0,e2,e4,e6])) hb3 rfl)
          iterate 2 (focus (go_simp;exact hK _ _ (qs _ rfl rfl)))
          · have e9:v 9=.pointer (some ⟨w.heap.size,0,none⟩):=hd 9 (by kernel_rfl);go_simp;exact hK _ _ (qs _ (jb (by simp [upd,e9])) rfl)
          · go_simp;exact hK _ _ (qs _ rfl rfl)
          · have e11:v 11=.pointer (some ⟨w.heap.size,1,none⟩):=hd 11 (by kernel_rfl);go_simp;exact hK _ _ (qs _ (jb (by simp [upd,e11])) rfl)
          · go_simp;exact hK _ _ (qs _ rfl rfl)
          · have e13:v 13=.pointer (some ⟨w.heap.size,5,none⟩):=hd 13 (by kernel_rfl);go_simp;exact hK _ _ (qs _ (jb (by simp [upd,e13])) rfl)
          · have e8:v 8=.slice al len cap:=hd 8 (by kernel_rfl);have e10:v 10=.int .i64 t:=hd 10 (by kernel_rfl);have e12:v 12=.agg #[.int .i64 T.op,.int .i64 T.rel,.slice T.aa T.an T.ac,.slice T.ka T.kn T.kc]:=hd 12 (by kernel_rfl);have e14:v 14=.agg #[.int .i64 V.kind,.int .u64 V.num,.string V.text,.slice V.ia V.len V.cap]:=hd 14 (by kernel_rfl);go_simp;refine (HR.out w1 hBw).mono ?_;rintro e w3 ⟨rfl,hb3⟩;exact hK _ _ (qc _ (jb (by simp [upd,e8,e10,e12,e14])) hb3 rfl)
          · have e7:v 7=.bool h:=hd 7 (by kernel_rfl);have e15:v 15=.bool h:=hd 15 (by kernel_rfl);go_simp;exact hK _ _ (qs _ (jb (by simp [upd,e7,e15])) rfl)
          · have e16:v 16=.bool true:=hd 16 (by kernel_rfl);go_simp;exact hK _ _ (qs _ (jb (by simp [upd,e16])) rfl)
          iterate 2 (focus (have e17:v 17=.bool true:=hd 17 (by kernel_rfl);go_simp;exact hK _ _ (qs _ (jb (by simp [upd,e17])) rfl)))
          · have e17:v 17=.bool true:=hd 17 (by kernel_rfl);have e19:v 19=.pointer (some ⟨w.heap.size,0,none⟩):=hd 19 (by kernel_rfl);go_simp;exact hK _ _ (qs _ (jb (by simp [upd,e17,e19])) rfl)
          · have e17:v 17=.bool true:=hd 17 (by kernel_rfl);go_simp;exact hK _ _ (qs _ (jb (by simp [upd,e17])) rfl)
          · have e17:v 17=.bool true:=hd 17 (by kernel_rfl);have e21:v 21=.pointer (some ⟨w.heap.size+1,0,none⟩):=hd 21 (by kernel_rfl);go_simp;exact hK _ _ (qs _ (jb (by simp [upd,e17,e21])) rfl)
          · have e17:v 17=.bool true:=hd 17 (by kernel_rfl);go_simp;exact hK _ _ (qs _ (jb (by simp [upd,e17])) rfl)
          · have e17:v 17=.bool true:=hd 17 (by kernel_rfl);have e23:v 23=.pointer (some ⟨w.heap.size+1,4,none⟩):=hd 23 (by kernel_rfl);go_simp;exact hK _ _ (qs _ (jb (by simp [upd,e17,e23])) rfl)
          · have e17:v 17=.bool true:=hd 17 (by kernel_rfl);go_simp;exact hK _ _ (qs _ (jb (by simp [upd,e17])) rfl)
          · have e17:v 17=.bool true:=hd 17 (by kernel_rfl);have e25:v 25=.pointer (some ⟨w.heap.size,5,none⟩):=hd 25 (by kernel_rfl);go_simp;exact hK _ _ (qs _ (jb (by simp [upd,e17,e25])) rfl)
          · have e17:v 17=.bool true:=hd 17 (by kernel_rfl);have e18:v 18=.slice al len cap:=hd 18 (by kernel_rfl);have e20:v 20=.int .i64 t:=hd 20 (by kernel_rfl);have e22:v 22=.agg #[.int .i64 a.kind,.string a.text,.bool a.neg,.int .u64 a.num]:=hd 22 (by kernel_rfl);have e24:v 24=.agg #[.int .i64 b.kind,.string b.text,.bool b.neg,.int .u64 b.num]:=hd 24 (by kernel_rfl);have e26:v 26=.agg #[.int .i64 V.kind,.int .u64 V.num,.string V.text,.slice V.ia V.len V.cap]:=hd 26 (by kernel_rfl);go_simp;refine (HD.out w1 hBw).mono ?_;rintro e w3 ⟨rfl,hb3⟩;exact hK _ _ (qc _ (jb (by simp [upd,e17,e18,e20,e22,e24,e26])) hb3 rfl)
          iterate 2 (focus (have e17:v 17=.bool true:=hd 17 (by kernel_rfl);go_simp;exact hK _ _ (qs _ (jb (by simp [upd,e17])) rfl)))
          · have e17:v 17=.bool true:=hd 17 (by kernel_rfl);have e29:v 29=.pointer (some ⟨w.heap.size,0,none⟩):=hd 29 (by kernel_rfl);go_simp;exact hK _ _ (qs _ (jb (by simp [upd,e17,e29])) rfl)
          · have e17:v 17=.bool true:=hd 17 (by kernel_rfl);go_simp;exact hK _ _ (qs _ (jb (by simp [upd,e17])) rfl)
          · have e17:v 17=.bool true:=hd 17 (by kernel_rfl);have e31:v 31=.pointer (some ⟨w.heap.size+1,0,none⟩):=hd 31 (by kernel_rfl);go_simp;exact hK _ _ (qs _ (jb (by simp [upd,e17,e31])) rfl)
          · have e17:v 17=.bool true:=hd 17 (by kernel_rfl);go_simp;exact hK _ _ (qs _ (jb (by simp [upd,e17])) rfl)
          · have e17:v 17=.bool true:=hd 17 (by kernel_rfl);have e33:v 33=.pointer (some ⟨w.heap.size+1,4,none⟩):=hd 33 (by kernel_rfl);go_simp;exact hK _ _ (qs _ (jb (by simp [upd,e17,e33])) rfl)
          · have e17:v 17=.bool true:=hd 17 (by kernel_rfl);go_simp;exact hK _ _ (qs _ (jb (by simp [upd,e17])) rfl)
          · have e17:v 17=.bool true:=hd 17 (by kernel_rfl);have e35:v 35=.pointer (some ⟨w.heap.size,5,none⟩):=hd 35 (by kernel_rfl);go_simp;exact hK _ _ (qs _ (jb (by simp [upd,e17,e35])) rfl)
          · have e17:v 17=.bool true:=hd 17 (by kernel_rfl);have e28:v 28=.slice al len cap:=hd 28 (by kernel_rfl);have e30:v 30=.int .i64 t:=hd 30 (by kernel_rfl);have e32:v 32=.agg #[.int .i64 a.kind,.string a.text,.bool a.neg,.int .u64 a.num]:=hd 32 (by kernel_rfl);have e34:v 34=.agg #[.int .i64 b.kind,.string b.text,.bool b.neg,.int .u64 b.num]:=hd 34 (by kernel_rfl);have e36:v 36=.agg #[.int .i64 V.kind,.int .u64 V.num,.string V.text,.slice V.ia V.len V.cap]:=hd 36 (by kernel_rfl);go_simp;refine (HQ.out w1 hBw).mono ?_;rintro e w3 ⟨rfl,hb3⟩;exact hK _ _ (qc _ (jb (by simp [upd,e17,e28,e30,e32,e34,e36])) hb3 rfl)
          · have e17:v 17=.bool true:=hd 17 (by kernel_rfl);have e27:v 27=.agg #[.int .i64 dk,.bool dg,.int .u64 dn,.string dx]:=hd 27 (by kernel_rfl);have e37:v 37=.agg #[.int .i64 dk,.bool dg,.int .u64 dn,.string dx]:=hd 37 (by kernel_rfl);go_simp;exact hK _ _ (qs _ (jb (by simp [upd,e17,e27,e37])) rfl)
          · have e17:v 17=.bool true:=hd 17 (by kernel_rfl);have e38:v 38=.bool true:=hd 38 (by kernel_rfl);go_simp;exact hK _ _ (qs _ (jb (by simp [upd,e17,e38])) rfl)
          · have e39:v 39=.bool true:=hd 39 (by kernel_rfl);go_simp;exact hK _ _ (qs _ (jb (by simp [upd,e39])) rfl)
          · have e40:v 40=.bool true:=hd 40 (by kernel_rfl);go_simp;refine (HAW.out w1 hBw).mono ?_;rintro e w3 ⟨rfl,hb3⟩;exact hK _ _ (qc _ (jb (by simp [upd,e40])) hb3 rfl)
          · have e40:v 40=.bool true:=hd 40 (by kernel_rfl);have e41:v 41=.bool true:=hd 41 (by kernel_rfl);go_simp;exact hK _ _ (qs _ (jb (by simp [upd,e40,e41])) rfl)
          · have e42:v 42=.bool true:=hd 42 (by kernel_rfl);go_simp;exact hK _ _ (qs _ (jb (by simp [upd,e42])) rfl)
        · skip;have hq:=okv hv;have HBe:=lh hb;clear hv hdist hBx hb;refine wpAny_of_held (S:=fun _=>True) _ _ _ _ ?_;simp only [hq 0 (by decide),hq 1 (by decide),hq 2 (by decide),hq 3 (by decide),hq 4 (by decide),hq 5 (by decide),hq 6 (by decide),hq 7 (by decide),hq 8 (by decide),hq 9 (by decide),hq 10 (by decide),hq 11 (by decide),hq 12 (by decide),hq 13 (by decide),hq 14 (by decide),hq 15 (by decide),hq 16 (by decide),hq 17 (by decide),hq 18 (by decide),hq 19 (by decide),hq 20 (by decide),hq 21 (by decide),hq 22 (by decide),hq 23 (by decide),hq 24 (by decide),hq 25 (by decide),hq 26 (by decide),hq 27 (by decide),hq 28 (by decide),hq 29 (by decide),hq 30 (by decide),hq 31 (by decide),hq 32 (by decide),hq 33 (by decide),hq 34 (by decide),hq 35 (by decide),hq 36 (by decide),hq 37 (by decide),hq 38 (by decide),hq 39 (by decide),hq 40 (by decide),hq 41 (by decide),hq 42 (by decide),hq 43 (by decide),List.getD_cons_zero,List.getD_cons_succ];clear hq;refine wpAnyH_done (by kernel_rfl) ?_ _;go_wp2_with fail;go_ret;exact ⟨rfl,bth HS.out.bel HBe.out⟩
      · have e0:(E !=0)=true:=by rw [bne_iff_ne];exact h0
        clear H hx ht hv hV ha hb g0 g1 g3 h0;go_enter Tryz.func3,Tryz.ntmps3
        go_upto_region 1 with (fail)
        try rw [hW0]
        clear hW0;go_wp2_with (first|(go_at_call 7;(with_reducible refine (HG.out _ (by exact HS.out.bel)).mono ?_);rintro e w2 ⟨rfl,hb⟩;have HS:=lh (HS.out.next hb);clear x0 x1 x2 x3 x4 v1 v2 v3 v4 y0 y1 y2 y3 y4 y5 y6 y7;obtain ⟨x0,x1,x2,x3,x4,v1,v2,v3,v4⟩:=bx9 HS.out.x;obtain ⟨y0,y1,y2,y3,y4,y5,y6,y7⟩:=bx8 HS.out.v;clear hb)|(go_at_call 8;(with_reducible refine (HF.out _ (by exact HS.out.bel)).mono ?_);rintro e w2 ⟨rfl,hb⟩;have HS:=lh (HS.out.next hb);clear x0 x1 x2 x3 x4 v1 v2 v3 v4 y0 y1 y2 y3 y4 y5 y6 y7;obtain ⟨x0,x1,x2,x3,x4,v1,v2,v3,v4⟩:=bx9 HS.out.x;obtain ⟨y0,y1,y2,y3,y4,y5,y6,y7⟩:=bx8 HS.out.v;clear hb)|(go_at_call 9;(with_reducible refine (HAW.out _ (by exact HS.out.bel)).mono ?_);rintro e w2 ⟨rfl,hb⟩;have HS:=lh (HS.out.next hb);clear hb));go_ret;exact ⟨rfl,HS.out.bel⟩
end Go.Proofs.YthcompcjphaahaaGreatDoor
