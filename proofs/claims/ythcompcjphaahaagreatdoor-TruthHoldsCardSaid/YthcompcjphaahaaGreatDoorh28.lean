/- Contract of slices.Clone at values. -/
import Derived.Lib.Builder
import Derived.Lib.OthersKept
import Derived.Lib.UnsafeStr
import Derived.Laws.Externs
import Derived.Lib.AppendIntMem
import Derived.Laws.IdiomStrings
import Derived.Shelf.Abstract
import Derived.Deep.AppendLies
import Derived.Laws.OwnMore
import Derived.Laws.Cover3
import Derived.RegionTactic
import Derived.Test.YthcompcjphaahaaGreatDoorh07
import Derived.Test.YthcompcjphaahaaGreatDoorh20
import Derived.Test.YthcompcjphaahaaGreatDoorh22
set_option maxRecDepth 100000
set_option maxHeartbeats 8000000
set_option linter.unusedVariables false
namespace Go.Proofs.YthcompcjphaahaaGreatDoor.Pa
open Go.RowKit
theorem infoValue:(Tryz.prog.info? 30).map (fun i=>(i.zero,i.size,i.bytes))=some (some (.agg #[.int .i64 0,.int .u64 0,.string ⟨#[]⟩,.slice none 0 0]),4,56):=by kernel_rfl
abbrev vcells (T:VT):List Value:=[.int .i64 T.kind,.int .u64 T.num,.string T.text,.slice T.ia T.len T.cap]
def rowL (K:Nat→VT):Nat→List Value|0=>[]|n+1=>rowL K n++vcells (K n)
theorem X4 (K:Nat→VT):∀ n,(rowL K n).length=n*4
 |0=>rfl
 |n+1=>by rw [rowL,List.length_append,X4 K n];simp;omega
theorem Xc (K:Nat→VT):∀ n i r,i<n→r<4→(rowL K n)[i*4+r]?=(vcells (K i))[r]?
 |n+1,i,r,hi,hr=>by
  rw [rowL]
  rcases Nat.lt_succ_iff_lt_or_eq.1 hi with h|rfl
  · rw [List.getElem?_append_left (by rw [X4];omega)];exact Xc K n i r h hr
  · rw [List.getElem?_append_right (by rw [X4];omega),X4,show i*4+r - i*4=r by omega]
theorem jib (K:Nat→VT):∀ n,∀ u∈rowL K n,u.oneCell'=true
 |0,u,h=>by simp [rowL] at h
 |n+1,u,h=>by
  rw [rowL,List.mem_append] at h
  rcases h with h|h
  · exact jib K n u h
  · simp only [vcells,List.mem_cons,List.not_mem_nil,or_false] at h
    rcases h with rfl|rfl|rfl|rfl <;> rfl
def RowAt (w:World) (g:Nat) (K:Nat→VT) (n:Nat):Prop:=
 ∃ cur,w.heap[g]?=some (.cells cur 30 (0,0))∧∀ i,i<n→cur[i*4]?=some (.int .i64 (K i).kind)∧cur[i*4+1]?=some (.int .u64 (K i).num)∧cur[i*4+2]?=some (.string (K i).text)∧cur[i*4+3]?=some (.slice (K i).ia (K i).len (K i).cap)
theorem jk9 {w:World} {base n cap g:Nat} {K:Nat→VT} (h:w.ownsRow base 30 4 (.slice (some ⟨g,0,none⟩) n cap) n (rowL K n)):RowAt w g K n∧base≤g:=by
 rcases h.2 with ⟨hv,_⟩|⟨g',cap',cur,hv,hb,hg,h1,h2,h3,h4⟩
 · cases hv
 · cases hv
   refine ⟨⟨cur,hg,fun i hi=>?_⟩,hb⟩
   have hget:∀ r,r<4→cur[i*4+r]?=(vcells (K i))[r]?:=fun r hr=>by
    rw [←Xc K n i r hi hr,←h4,List.getElem?_take,if_pos (by omega)];simp
   exact ⟨hget 0 (by omega),hget 1 (by omega),hget 2 (by omega),hget 3 (by omega)⟩
theorem jtb (a:Option Addr) (l c:Nat) (w:World):(binOp .eql 28 (.slice a l c) (.slice none 0 0)).run Tryz.prog w=.ok (.bool a.isNone) w:=by
 simp only [binOp];simp [run_equal_slice_nil w _ _ a l c Tryz.underlying28]
theorem jtm {w:World} {S:Nat→Prop} {T:VT} (H:ValAt w S T) {a:Addr} (hia:T.ia=some a):∀ j u,(rowL T.kid T.len)[j]?=some u→w.cell? (a.add j)=some u:=by
 intro j u hj
 have hl:j<T.len*4:=by
  have:=(List.getElem?_eq_some_iff.1 hj).1
  rwa [X4] at this
 have hi:j / 4<T.len:=by omega
 obtain ⟨⟨b,off,e,_,_,c0,c1,c2,c3⟩,_⟩:=((kg T).1 H).2 (j / 4) hi;rw [hia] at e;obtain rfl:=Option.some.inj e;have hr:j % 4<4:=Nat.mod_lt _ (by decide);have hg:=Xc T.kid T.len (j / 4) (j % 4) hi hr;rw [show j / 4*4+j % 4=j by omega,hj] at hg;rw [Xr]
 have hj4:j=j / 4*4+j % 4:=by omega
 have hq:j % 4=0∨j % 4=1∨j % 4=2∨j % 4=3:=by omega
 rcases hq with h|h|h|h <;> rw [h] at hg <;> simp [vcells] at hg <;> subst hg
 · rw [show off+j=off+j / 4*4 by omega];exact c0
 · rw [show off+j=off+j / 4*4+1 by omega];exact c1
 · rw [show off+j=off+j / 4*4+2 by omega];exact c2
 · rw [show off+j=off+j / 4*4+3 by omega];exact c3
theorem jri {w:World} {base n:Nat} {K:Nat→VT} {v:Value} (h:w.ownsRow base 30 4 v n (rowL K n)):∃ ao cap,v=.slice ao n cap∧(0<n→∃ g,ao=some ⟨g,0,none⟩∧base≤g∧RowAt w g K n):=by
 rcases h.2 with ⟨hv,h0⟩|⟨g,cap,cur,hv,hrest⟩
 · exact ⟨none,0,by rw [hv,h0],fun h=>by omega⟩
 · subst hv
   have:=jk9 h
   exact ⟨_,cap,rfl,fun _=>⟨g,rfl,this.2,this.1⟩⟩
theorem jkd (S:Nat→Prop) (T:VT) (w:World) (H:ValAt w S T):
  Calls Tryz.prog 131 #[.slice T.ia T.len T.cap] w fun e w'=>∃ ao cap,e=.returned (.slice ao T.len cap)∧(0<T.len→∃ g,ao=some ⟨g,0,none⟩∧w.heap.size≤g∧RowAt w' g T.kid T.len)∧Below w.heap.size w w':=by
 obtain ⟨i0,hi,hz0,hz1,hz2⟩:=info_parts infoValue;have hnil:=jtb;have hlen:=Zr H;have hk:=((kg T).1 H).2
 cases hia:T.ia with
 |none=>
  have h0:T.len=0:=by
   rcases Nat.eq_zero_or_pos T.len with h|h
   · exact h
   · obtain ⟨⟨b,off,e,_⟩,_⟩:=hk 0 h;rw [hia] at e;cases e
  rw [h0];clear hk H hia h0;go_enter Tryz.func131,Tryz.ntmps131;go_wp2;go_ret;exact ⟨_,_,rfl,fun h=>absurd h (Nat.lt_irrefl 0),Below.refl _ _⟩
 |some a=>
  have HN:=lh (jtm (H.next ((Below.refl w.heap.size w).alloc (Nat.le_refl _) (.cells #[] 30))) hia);have HO:=lh (show (w.alloc (.cells #[] 30)).ownsRow w.heap.size 30 4 (.slice (some ⟨w.heap.size,0,none⟩) 0 0) 0 [] from ⟨rfl,.inr ⟨w.heap.size,0,#[],rfl,Nat.le_refl _,jd w _,Nat.le_refl _,Nat.zero_le _,rfl,rfl⟩⟩);have HB:=lh ((Below.refl w.heap.size w).alloc (Nat.le_refl _) (.cells #[] 30));clear hk H hia;go_enter Tryz.func131,Tryz.ntmps131;go_wp2_with (at_builtin;refine jl rfl (.tmp 5) (.tmp 6) 28 rfl w.heap.size 30 i0 (.agg #[.int .i64 0,.int .u64 0,.string ⟨#[]⟩,.slice none 0 0]) 4 56 Tryz.underlying28 hi hz0 hz1 hz2 rfl (by decide) _ 0 [] rfl HO.out a T.len T.cap (rowL T.kid T.len) rfl (X4 _ _) HN.out (jib _ _) (by unfold maxLen;omega) (by omega) (by simp) ?_;intro v2 w2 hown2 hg2 hf2;rw [Nat.zero_add,List.nil_append] at hown2;obtain ⟨ao2,cap2,rfl,hrow⟩:=jri hown2;have HR:=lh hrow;have HB2:=lh (HB.out.grown hg2 (by simp) (fun k hk=>by cases hk;exact Nat.le_refl _));clear hown2 hg2 hf2 hrow);go_ret;exact ⟨_,_,rfl,HR.out,HB2.out⟩
def boxO (T:VT) (ao:Option Addr) (cap:Nat):Obj:=.cells #[.int .i64 T.kind,.int .u64 T.num,.string T.text,.slice ao T.len cap] 30
def zeroO:Obj:=.cells #[.int .i64 0,.int .u64 0,.string ⟨#[]⟩,.slice none 0 0] 30
def mixK (K:Nat→VT) (T:VT) (j:Nat):Nat→VT:=fun i=>if i<j then K i else T.kid i
structure CpSt (T:VT) (N:Nat) (ao:Option Addr) (cap j:Nat) (K:Nat→VT) (w0 w:World):Prop where
 box:w.heap[N]?=some (boxO T ao cap)
 res:w.heap[N+1]?=some zeroO
 below:Below N w0 w
 row:0<T.len→∃ g,ao=some ⟨g,0,none⟩∧N+2≤g∧RowAt w g (mixK K T j) T.len∧∀ i,i<j→sameT (T.kid i) (K i)=true∧ValAt w (fun b=>g<b) (K i)
theorem RowAt.next {w w':World} {g n:Nat} {K:Nat→VT} (h:RowAt w g K n) (hb:Below w.heap.size w w'):RowAt w' g K n:=by
 obtain ⟨cur,h1,h2⟩:=h;exact ⟨cur,jw h1 hb,h2⟩
theorem RowAt.lt {w:World} {g n:Nat} {K:Nat→VT} (h:RowAt w g K n):g<w.heap.size:=by
 obtain ⟨cur,h1,h2⟩:=h;exact lt_of_block h1
theorem RowAt.cells {w:World} {g n:Nat} {K:Nat→VT} (h:RowAt w g K n) {i:Nat} (hi:i<n):w.cell? ⟨g,i*4,none⟩=some (.int .i64 (K i).kind)∧w.cell? ⟨g,i*4+1,none⟩=some (.int .u64 (K i).num)∧w.cell? ⟨g,i*4+2,none⟩=some (.string (K i).text)∧w.cell? ⟨g,i*4+3,none⟩=some (.slice (K i).ia (K i).len (K i).cap)∧∀ r,w.frozen? ⟨g,i*4+r,none⟩=false:=by
 obtain ⟨cur,h1,h2⟩:=h;obtain ⟨a,b,c,d⟩:=h2 i hi;exact ⟨ja h1 a,ja h1 b,ja h1 c,ja h1 d,fun r=>jg h1⟩
abbrev putV (w:World) (g o:Nat) (U:VT):World:=(((w.setCell ⟨g,o,none⟩ (.int .i64 U.kind)).setCell ⟨g,o+1,none⟩ (.int .u64 U.num)).setCell ⟨g,o+2,none⟩ (.string U.text)).setCell ⟨g,o+3,none⟩ (.slice U.ia U.len U.cap)
theorem RowAt.put {w:World} {g n j:Nat} {K:Nat→VT} {U:VT} (h:RowAt w g K n) (hj:j<n):RowAt (putV w g (j*4) U) g (fun i=>if i=j then U else K i) n:=by
 obtain ⟨cur,h1,h2⟩:=h;obtain ⟨s0,s1,s2,s3⟩:=h2 j hj;have l3:=(Array.getElem?_eq_some_iff.1 s3).1;have a1:=jn (j:=j*4) (u:=.int .i64 U.kind) h1;have a2:=jn (j:=j*4+1) (u:=.int .u64 U.num) a1;have a3:=jn (j:=j*4+2) (u:=.string U.text) a2;have a4:=jn (j:=j*4+3) (u:=.slice U.ia U.len U.cap) a3;refine ⟨_,a4,fun i hi=>?_⟩;obtain ⟨t0,t1,t2,t3⟩:=h2 i hi
 by_cases e:i=j
 · subst e;simp only [if_true]
   refine ⟨?_,?_,?_,?_⟩ <;> simp [Array.getElem?_setIfInBounds] <;> omega
 · simp only [if_neg e];refine ⟨?_,?_,?_,?_⟩
   · rw [←t0];simp only [Array.getElem?_setIfInBounds,Array.size_setIfInBounds];rw [if_neg (by omega),if_neg (by omega),if_neg (by omega),if_neg (by omega)]
   · rw [←t1];simp only [Array.getElem?_setIfInBounds,Array.size_setIfInBounds];rw [if_neg (by omega),if_neg (by omega),if_neg (by omega),if_neg (by omega)]
   · rw [←t2];simp only [Array.getElem?_setIfInBounds,Array.size_setIfInBounds];rw [if_neg (by omega),if_neg (by omega),if_neg (by omega),if_neg (by omega)]
   · rw [←t3];simp only [Array.getElem?_setIfInBounds,Array.size_setIfInBounds];rw [if_neg (by omega),if_neg (by omega),if_neg (by omega),if_neg (by omega)]
theorem jbr {w:World} {g o b:Nat} {U:VT} (h:b≠g):(putV w g o U).heap[b]?=w.heap[b]?:=(ju h).trans ((ju h).trans ((ju h).trans (ju h)))
theorem jqu (w:World) (g o:Nat) (U:VT):(putV w g o U).heap.size=w.heap.size:=by simp
theorem jm5 {w0 w:World} {N g o:Nat} {U:VT} (h:Below N w0 w) (hg:N≤g):Below N w0 (putV w g o U):=(((h.setCell (p:=⟨g,o,none⟩) hg _).setCell (p:=⟨g,o+1,none⟩) hg _).setCell (p:=⟨g,o+2,none⟩) hg _).setCell (p:=⟨g,o+3,none⟩) hg _
theorem ValAt.put {w:World} {g o:Nat} {U K:VT} (h:ValAt w (fun b=>g<b) K):ValAt (putV w g o U) (fun b=>g<b) K:=
 ValAt.held_of (fun _ s=>s) (by rw [jqu];exact Nat.le_refl _) (fun b hs _=>jbr (by omega)) K h
theorem CpSt.step {T:VT} {N g cap j:Nat} {K:Nat→VT} {U:VT} {w0 wr w1:World} (h:CpSt T N (some ⟨g,0,none⟩) cap j K w0 wr) (hj:j<T.len) (hb:Below wr.heap.size wr w1) (hN:N≤w0.heap.size) (hs:sameT (T.kid j) U=true) (hv:ValAt w1 (fun b=>g<b) U):
  CpSt T N (some ⟨g,0,none⟩) cap (j+1) (fun i=>if i=j then U else K i) w0 (putV w1 g (j*4) U):=by
 obtain ⟨g',e,hg,hrow,hk⟩:=h.row (by omega)
 cases e
 have hlb:=lt_of_block h.box;have hlr:=lt_of_block h.res;refine ⟨(jbr (by omega)).trans (jw h.box hb),(jbr (by omega)).trans (jw h.res hb),jm5 (h.below.trans (hb.mono (by omega))) (by omega),fun _=>⟨g,rfl,hg,?_,fun i hi=>?_⟩⟩
 · have h2:=(hrow.next hb).put (U:=U) hj;obtain ⟨cur,q1,q2⟩:=h2;refine ⟨cur,q1,fun i hi=>?_⟩
   have e:mixK (fun i=>if i=j then U else K i) T (j+1) i=(fun i=>if i=j then U else mixK K T j i) i:=by
    unfold mixK
    by_cases e:i=j
    · subst e;simp
    · simp only [if_neg e]
      by_cases c:i<j
      · rw [if_pos (by omega),if_pos c]
      · rw [if_neg (by omega),if_neg c]
   rw [e];exact q2 i hi
 · by_cases e:i=j
   · subst e;simp only [if_true];exact ⟨hs,hv.put⟩
   · simp only [if_neg e]
     have:=hk i (by omega)
     exact ⟨this.1,(this.2.next hb).put⟩
theorem CpSt.done {T:VT} {N cap:Nat} {ao:Option Addr} {K:Nat→VT} {w0 w:World} (h:CpSt T N ao cap T.len K w0 w) (hw:ValWf T):sameT T (.node T.kind T.num T.text ao T.len cap K)=true∧ValAt w (fun b=>N+2≤b) (.node T.kind T.num T.text ao T.len cap K):=by
 rcases Nat.eq_zero_or_pos T.len with h0|h0
 · exact ⟨jbb.2 ⟨rfl,rfl,rfl,rfl,fun i hi=>by omega⟩,(kg _).2 ⟨hw,fun i hi=>absurd (show i<T.len from hi) (by omega)⟩⟩
 · obtain ⟨g,rfl,hg,hrow,hk⟩:=h.row h0;refine ⟨jbb.2 ⟨rfl,rfl,rfl,rfl,fun i hi=>(hk i hi).1⟩,(kg _).2 ⟨hw,fun i hi=>?_⟩⟩;have hi':i<T.len:=hi;obtain ⟨c0,c1,c2,c3,_⟩:=hrow.cells hi'
   have e:mixK K T T.len i=K i:=by unfold mixK;rw [if_pos hi']
   rw [e] at c0 c1 c2 c3;exact ⟨⟨g,0,rfl,by omega,hrow.lt,by rw [Nat.zero_add];exact c0,by rw [Nat.zero_add];exact c1,by rw [Nat.zero_add];exact c2,by rw [Nat.zero_add];exact c3⟩,(hk i hi').2.sub (fun b hb=>by omega)⟩
theorem jpr (T:VT) (w w1:World) (ao:Option Addr) (cap:Nat) (hb:Below (w.heap.size+2) ((w.alloc (valO T)).alloc zeroO) w1) (hrow:0<T.len→∃ g,ao=some ⟨g,0,none⟩∧w.heap.size+2≤g∧RowAt w1 g T.kid T.len):
  CpSt T w.heap.size ao cap 0 T.kid w (w1.setCell ⟨w.heap.size,3,none⟩ (.slice ao T.len cap)):=by
 have q1:((w.alloc (valO T)).alloc zeroO).heap[w.heap.size]?=some (valO T):=je (jd w _)
 have q2:((w.alloc (valO T)).alloc zeroO).heap[w.heap.size+1]?=some zeroO:=by have:=jd (w.alloc (valO T)) zeroO;simpa using this
 have b1:w1.heap[w.heap.size]?=some (valO T):=(hb.block _ (by omega)).trans q1;have b2:w1.heap[w.heap.size+1]?=some zeroO:=(hb.block _ (by omega)).trans q2;have s1:=jn (j:=3) (u:=.slice ao T.len cap) b1;refine ⟨by simpa [boxO] using s1,(ju (by simp)).trans b2,?_,fun h0=>?_⟩
 · have h1:Below w.heap.size w w1:=(((Below.refl w.heap.size w).alloc (Nat.le_refl _) (valO T)).alloc (by simp) zeroO).trans (hb.mono (by omega));exact h1.setCell (p:=⟨w.heap.size,3,none⟩) (Nat.le_refl _) _
 · obtain ⟨g,e,hg,cur,h1,h2⟩:=hrow h0;refine ⟨g,e,hg,⟨cur,(ju (by simp;omega)).trans h1,fun i hi=>?_⟩,fun i hi=>absurd hi (Nat.not_lt_zero i)⟩
   have e:mixK T.kid T 0 i=T.kid i:=by unfold mixK;rw [if_neg (by omega)]
   rw [e];exact h2 i hi
def COk (N g len cap j:Nat) (kid:VT) (k:Nat) (x:Value) (w:World):Prop:=
 if k=4 then ∃ U:VT,x=.agg #[.int .i64 U.kind,.int .u64 U.num,.string U.text,.slice U.ia U.len U.cap]∧sameT kid U=true∧ValAt w (fun b=>g<b) U
 else x=[.pointer (some ⟨N,3,none⟩),.slice (some ⟨g,0,none⟩) len cap,.int .i64 (j:Nat),.agg #[.int .i64 kid.kind,.int .u64 kid.num,.string kid.text,.slice kid.ia kid.len kid.cap],undef,.pointer (some ⟨g,j*4,none⟩)].getD k undef
theorem COk.four {N g len cap j:Nat} {kid:VT} {x:Value} {w:World} (h:∃ U:VT,x=.agg #[.int .i64 U.kind,.int .u64 U.num,.string U.text,.slice U.ia U.len U.cap]∧sameT kid U=true∧ValAt w (fun b=>g<b) U):COk N g len cap j kid 4 x w:=by
 unfold COk;rw [if_pos rfl];exact h
theorem COk.keep {N g len cap j k:Nat} {kid:VT} {x:Value} {w w':World} (h:COk N g len cap j kid k x w) (hk:k≠4):COk N g len cap j kid k x w':=by
 unfold COk at *;rw [if_neg hk] at *;exact h
theorem jk4 {a b:List Value} (h:a=b):(⟨a.toArray,[]⟩:Act)=⟨b.toArray,[]⟩:=by rw [h]
theorem ji8 (s:ByteArray) (w:World) (hs:s.size≤281474976710656):Calls Tryz.prog 115 #[.string s] w fun e w'=>e=.returned (.string s)∧Below w.heap.size w w':=by
 go_enter Tryz.func115,Tryz.ntmps115;go_wp2_with (go_at_call 154;refine (Tryz.stringslite_Clone s _ hs).mono ?_;rintro e w1 ⟨rfl,hb⟩);go_ret;exact ⟨rfl,hb⟩
theorem ju3 {w:World} {b i:Nat} {cs:Array Value} {t:TypeId} {fr:Nat × Nat} {v:Value} (h:w.heap[b]?=some (.cells cs t fr)) (hv:cs[i]?=some v):w.setCell ⟨b,i,none⟩ v=w:=by
 obtain ⟨hp,tp,dr,os,out⟩:=w;unfold World.setCell
 congr 1
 refine Array.ext_getElem? fun k=>?_;rw [Array.getElem?_modify]
 split
 · rename_i e;subst e;have h':hp[b]?=some (.cells cs t fr):=h;rw [h'];simp only [Option.map_some,Option.isSome_none,Bool.false_eq_true,if_false]
   congr 2
   refine Array.ext_getElem? fun m=>?_;rw [Array.getElem?_setIfInBounds]
   split
   · rename_i e;subst e
     split
     · exact hv.symm
     · rename_i hl;rw [Array.getElem?_eq_none (by omega)] at hv
       cases hv
   · rfl
 · rfl
def PCopyTo (T:VT) (w:World):Prop:=Calls Tryz.prog 95 #[.agg #[.int .i64 T.kind,.int .u64 T.num,.string T.text,.slice T.ia T.len T.cap]] w fun e w'=>∃ U:VT,e=.returned (.agg #[.int .i64 U.kind,.int .u64 U.num,.string U.text,.slice U.ia U.len U.cap])∧sameT T U=true∧ValAt w' (fun b=>w.heap.size≤b) U∧Below w.heap.size w w'
theorem je5 (S:Nat→Prop) (T:VT) (ih:∀ i,i<T.len→∀ w,ValAt w S (T.kid i)→PCopyTo (T.kid i) w) (w:World) (H:ValAt w S T):PCopyTo T w:=by
 have hlen:=Zr H;have hwf:=((kg T).1 H).1;have hW0:Below w.heap.size w ((w.alloc (valO T)).alloc zeroO):=((Below.refl w.heap.size w).alloc (Nat.le_refl _) _).alloc (by simp) _
 have es:((w.alloc (valO T)).alloc zeroO).heap.size=w.heap.size+2:=by simp
 have HCl:=lh (fun wx (hb:Below (w.heap.size+2) ((w.alloc (valO T)).alloc zeroO) wx)=>jkd S T wx (H.next (hW0.trans (hb.mono (by omega)))));have HH:=lh (fun i (hi:i<T.len) wx (hb:Below w.heap.size w wx)=>ih i hi wx (ze H hb hi).2);have HW:=lh hwf;have HQ:=lh (show ((w.alloc (valO T)).alloc zeroO).heap[w.heap.size]?=some (valO T) from je (jd w _));have HST:=lh (fun ao cap w1 hb hr=>jpr T w w1 ao cap hb hr);have HSC:=lh (fun wx=>ji8 T.text wx (by have:=jd9 H;omega));obtain ⟨N,hN⟩:∃ N,w.heap.size=N:=⟨_,rfl⟩;have HNN:=lh hN;unfold valO zeroO at HCl HQ;clear ih H hW0 es hN hwf;unfold PCopyTo;go_enter Tryz.func95,Tryz.ntmps95
 go_upto_region 2 with (first
  |(go_at_call 115;refine (HSC.out _).mono ?_;rintro e w0 ⟨rfl,hb0⟩;have hb0':Below (w.heap.size+2) _ w0:=hb0.mono (by simp);have HB0:=lh hb0';have hbx:=(hb0'.block w.heap.size (by omega)).trans HQ.out;have HX0:=lh hbx;have c2:w0.cell? ⟨w.heap.size,2,none⟩=some (.string T.text):=ja hbx rfl;have f2:=jg (j:=2) hbx;clear hbx hb0 hb0'))
 rw [ju3 HX0.out rfl];have c3:w0.cell? ⟨w.heap.size,3,none⟩=some (.slice T.ia T.len T.cap):=ja HX0.out rfl;clear c2 f2
 go_wp2_with (first
  |(go_at_call 131;refine (HCl.out _ HB0.out).mono ?_;rintro e w1 ⟨ao,cap,rfl,hrow,hb1⟩;have hbs1:=hb1.mono (show w.heap.size+2≤w0.heap.size by have:=HB0.out.size;simp at this;omega);have HX1:=lh ((hbs1.block w.heap.size (by omega)).trans HX0.out);clear c3;obtain ⟨-,-,-,-,-,-,c3,f3⟩:=bf4 HX1.out;have HS0:=lh (HST.out ao cap w1 (HB0.out.trans hbs1) (fun h0=>by obtain ⟨g,e,hg,hr⟩:=hrow h0;exact ⟨g,e,(by have:=HB0.out.size;simp at this;omega),hr⟩));clear hbs1 hb1 hrow))
 generalize w1.setCell ⟨w.heap.size,3,none⟩ (.slice ao T.len cap)=w2 at *;clear c3 f3 HCl HQ HST HSC HX0 HX1 HB0
 go_loopw [16] (fun i wr=>∃ j:Nat,j≤T.len∧i=.int .i64 j∧∃ K:Nat→VT,Hid (CpSt T w.heap.size ao cap j K w wr)) (fun i _=>T.len - (intOf i).toNat)
 case atStart=>exact ⟨0,Nat.zero_le _,rfl,_,HS0⟩
 case round=>
  obtain ⟨j,hj,rfl,K,HC⟩:=hrel
  by_cases hlt:j<T.len
  · obtain ⟨g,rfl,hg,hrow,hk⟩:=HC.out.row (by omega);obtain ⟨c0,c1,c2,c3,ff⟩:=hrow.cells hlt
    have e:mixK K T j j=T.kid j:=by unfold mixK;rw [if_neg (by omega)]
    rw [e] at c0 c1 c2 c3;have hrowlt:=hrow.lt;clear hrow hk e ff
    go_upto_region 6 with (fail)
    have hbr:=HC.out.below.size;obtain ⟨bm,hbm⟩:∃ bm,wr.heap.size=bm:=⟨_,rfl⟩;have hb0:=(Below.refl wr.heap.size wr).alloc (Nat.le_refl _) (.cells #[.int .i64 (T.kid j).kind,.int .u64 (T.kid j).num,.string (T.kid j).text,.slice (T.kid j).ia (T.kid j).len (T.kid j).cap] 30);have HB0:=lh hb0;have HBW:=lh (HC.out.below.trans (hb0.mono hbr));have hqm:=jd wr (.cells #[.int .i64 (T.kid j).kind,.int .u64 (T.kid j).num,.string (T.kid j).text,.slice (T.kid j).ia (T.kid j).len (T.kid j).cap] 30)
    have hszb:(wr.alloc (.cells #[.int .i64 (T.kid j).kind,.int .u64 (T.kid j).num,.string (T.kid j).text,.slice (T.kid j).ia (T.kid j).len (T.kid j).cap] 30)).heap.size=wr.heap.size+1:=by simp
    have HQB:=lh (jw HC.out.box hb0);have HKID:=lh (fun wx hb=>HH.out j hlt wx hb);unfold PCopyTo at HKID;rw [hbm] at hqm hszb hbr;have HQM:=lh hqm;have hglt:=hrowlt;rw [hbm] at hglt;rw [hbm];clear hqm hb0 c0 c1 c2 c3;generalize (wr.alloc (.cells #[.int .i64 (T.kid j).kind,.int .u64 (T.kid j).num,.string (T.kid j).text,.slice (T.kid j).ia (T.kid j).len (T.kid j).cap] 30))=wb at *
    have hNb:w.heap.size≤wb.heap.size:=by omega
    have hHbm:=lh hbm;clear hbm;refine je0 (by kernel_rfl) 6 100 (fun v=>((.agg #[.int .i64 T.kind,.int .u64 T.num,.string T.text,.slice T.ia T.len T.cap]:Value)::(.pointer (some ⟨w.heap.size,0,none⟩):Value)::(.pointer (some ⟨w.heap.size+1,0,none⟩):Value)::(.int .i64 (j:Nat):Value)::(.pointer (some ⟨bm,0,none⟩):Value)::(.pointer (some ⟨w.heap.size,2,none⟩):Value)::(.string T.text:Value)::(.string T.text:Value)::(.pointer (some ⟨w.heap.size,2,none⟩):Value)::(.pointer (some ⟨w.heap.size,3,none⟩):Value)::(.slice T.ia T.len T.cap:Value)::(.slice (some ⟨g,0,none⟩) T.len cap:Value)::(.pointer (some ⟨w.heap.size,3,none⟩):Value)::(.pointer (some ⟨w.heap.size,3,none⟩):Value)::(.slice (some ⟨g,0,none⟩) T.len cap:Value)::(.int .i64 (T.len:Nat):Value)::(.int .i64 (j:Nat):Value)::(.bool true:Value)::(.int .i64 (j:Nat):Value)::(.pointer (some ⟨g,j*4,none⟩):Value)::(.agg #[.int .i64 (T.kid j).kind,.int .u64 (T.kid j).num,.string (T.kid j).text,.slice (T.kid j).ia (T.kid j).len (T.kid j).cap]:Value)::v 0::v 1::v 2::v 3::v 4::v 5::u27::undef::[]).toArray) (fun j=>[u21,u22,u23,u24,u25,u26].getD j undef) (COk w.heap.size g T.len cap j (T.kid j)) (fun w'=>Below wb.heap.size wb w') (fun _=>True) (Nat.le_of_ble_eq_true (by kernel_rfl)) (by kernel_rfl) ((Below.refl _ _).drew) trivial (fun i hi v w1 hBx hPx hd=>?_) (fun v w1 hv hBx=>?_)
    · have b1:=jw HQB.out hBx;have b2:=jw HQM.out hBx;have y3:w1.cell? ⟨w.heap.size,3,none⟩=some (.slice (some ⟨g,0,none⟩) T.len cap):=ja b1 rfl;obtain ⟨z0,z1,z2,z3⟩:=bx4 b2;clear b1 b2
      have hi6:i=0∨i=1∨i=2∨i=3∨i=4∨i=5:=by omega
      rcases hi6 with rfl|rfl|rfl|rfl|rfl|rfl
      · skip;refine wpOp_step (o:= _) rfl (fun K' hK=>?_);go_simp;exact hK _ _ ⟨.pointer (some ⟨w.heap.size,3,none⟩),rfl,rfl,hBx,fun _ h=>h,fun k y _ h=>h⟩
      · have e0:v 0=.pointer (some ⟨w.heap.size,3,none⟩):=hd 0 (List.contains_iff_mem.1 (by kernel_rfl));refine wpOp_step (o:= _) rfl (fun K' hK=>?_);go_simp;exact hK _ _ ⟨.slice (some ⟨g,0,none⟩) T.len cap,jk4 (by simp [upd,e0]),rfl,hBx,fun _ h=>h,fun k y _ h=>h⟩
      · skip;refine wpOp_step (o:= _) rfl (fun K' hK=>?_);go_simp;exact hK _ _ ⟨.int .i64 (j:Nat),rfl,rfl,hBx,fun _ h=>h,fun k y _ h=>h⟩
      · skip;refine wpOp_step (o:= _) rfl (fun K' hK=>?_);go_simp;exact hK _ _ ⟨.agg #[.int .i64 (T.kid j).kind,.int .u64 (T.kid j).num,.string (T.kid j).text,.slice (T.kid j).ia (T.kid j).len (T.kid j).cap],rfl,rfl,hBx,fun _ h=>h,fun k y _ h=>h⟩
      · have e3:v 3=.agg #[.int .i64 (T.kid j).kind,.int .u64 (T.kid j).num,.string (T.kid j).text,.slice (T.kid j).ia (T.kid j).len (T.kid j).cap]:=hd 3 (List.contains_iff_mem.1 (by kernel_rfl));refine wpOp_step (o:= _) rfl (fun K' hK=>?_);go_simp;have hsz:=hBx.size;refine (HKID.out w1 (HBW.out.trans (hBx.mono hNb))).mono ?_;rintro e w3 ⟨U,rfl,hs,hv,hb3⟩;exact hK _ _ ⟨_,jk4 (by simp [upd,e3]),COk.four ⟨U,rfl,hs,hv.sub (fun b hb=>by omega)⟩,hBx.trans (hb3.mono hsz),fun _ h=>h,fun k y hk h=>h.keep hk⟩
      · have e1:v 1=.slice (some ⟨g,0,none⟩) T.len cap:=hd 1 (List.contains_iff_mem.1 (by kernel_rfl));have e2:v 2=.int .i64 (j:Nat):=hd 2 (List.contains_iff_mem.1 (by kernel_rfl));refine wpOp_step (o:= _) rfl (fun K' hK=>?_);go_simp;exact hK _ _ ⟨.pointer (some ⟨g,j*4,none⟩),jk4 (by simp [upd,e1,e2]),rfl,hBx,fun _ h=>h,fun k y _ h=>h⟩
    · have e0:v 0=.pointer (some ⟨w.heap.size,3,none⟩):=hv 0 (by decide);have e1:v 1=.slice (some ⟨g,0,none⟩) T.len cap:=hv 1 (by decide);have e2:v 2=.int .i64 (j:Nat):=hv 2 (by decide);have e3:v 3=.agg #[.int .i64 (T.kid j).kind,.int .u64 (T.kid j).num,.string (T.kid j).text,.slice (T.kid j).ia (T.kid j).len (T.kid j).cap]:=hv 3 (by decide);have e5:v 5=.pointer (some ⟨g,j*4,none⟩):=hv 5 (by decide);obtain ⟨U,e4,hs,hvU⟩:∃ U:VT,v 4=.agg #[.int .i64 U.kind,.int .u64 U.num,.string U.text,.slice U.ia U.len U.cap]∧sameT (T.kid j) U=true∧ValAt w1 (fun b=>g<b) U:=hv 4 (by decide);have hrw:=HB0.out.trans (hBx.mono (by have:=hHbm.out;omega));have HNX:=lh (HC.out.step hlt hrw (Nat.le_refl _) hs hvU);obtain ⟨g',eg,_,hrow',_⟩:=HC.out.row (by omega)
      cases eg
      obtain ⟨s0,s1,s2,s3,sf⟩:=(hrow'.next hrw).cells hlt;have f0:w1.frozen? ⟨g,j*4,none⟩=false:=sf 0;have f1:w1.frozen? ⟨g,j*4+1,none⟩=false:=sf 1;have f2:w1.frozen? ⟨g,j*4+2,none⟩=false:=sf 2;have f3:w1.frozen? ⟨g,j*4+3,none⟩=false:=sf 3;clear hv hrow' sf hBx hs hvU hrw;refine wpAny_of_held (S:=fun _=>True) _ _ _ _ ?_;simp only [e0,e1,e2,e3,e4,e5];clear e0 e1 e2 e3 e4 e5;refine wpAnyH_ready (fuel:=0) (rs:=[6]) (by kernel_rfl) (by simp) ?_;refine AllReadyH.cons (o:= _) rfl (fun K hK=>?_) AllReadyH.nil;go_simp;refine hK.out _ _ trivial (fun _=>?_);clear hK K s0 s1 s2 s3 f0 f1 f2 f3;refine wpAnyH_done (by kernel_rfl) ?_ _;go_wp2;go_roundw
      case rel=>exact ⟨j+1,by omega,by go_num,_,HNX⟩
      case measure=>simp [intOf];omega
  · obtain rfl:j=T.len:=by omega
    have hbx:=HC.out.box;have HR:=lh HC.out.res;obtain ⟨hsm,hva⟩:=HC.out.done HW.out;have HBl:=lh HC.out.below;unfold boxO at hbx;unfold zeroO at HR;obtain ⟨d0,d1,d2,d3⟩:=bx4 hbx
    have HE:=lh (show ∃ U:VT,(Ending.returned (.agg #[.int .i64 T.kind,.int .u64 T.num,.string T.text,.slice ao T.len cap])=Ending.returned (.agg #[.int .i64 U.kind,.int .u64 U.num,.string U.text,.slice U.ia U.len U.cap]))∧sameT T U=true∧ValAt (wr.setRow (w.heap.size+1) #[.int .i64 T.kind,.int .u64 T.num,.string T.text,.slice ao T.len cap]) (fun b=>w.heap.size≤b) U∧Below w.heap.size w (wr.setRow (w.heap.size+1) #[.int .i64 T.kind,.int .u64 T.num,.string T.text,.slice ao T.len cap]) from
     ⟨.node T.kind T.num T.text ao T.len cap K,rfl,hsm,ValAt.held_of (fun b h=>by omega) (by simp [World.setRow]) (fun b h _=>setRow_other _ _ _ _ (by omega)) _ hva,below_setRow HBl.out (by omega) _⟩)
    clear hbx hsm hva HC;go_wp2_with (refine wpList_store_rowTo rfl 30 _ _ rfl rfl (w.heap.size+1) #[.int .i64 T.kind,.int .u64 T.num,.string T.text,.slice ao T.len cap] rfl rfl _ _ HR.out (by kernel_rfl) (by kernel_rfl) (by kernel_rfl) ?_);refine bodyPost_ret (v:=.agg #[.int .i64 T.kind,.int .u64 T.num,.string T.text,.slice ao T.len cap]) ?_ rfl HE.out;have hl:=run_loadVar_row (P:=Tryz.prog) _ (w.heap.size+1) _ 30 _ _ _ (setRow_heap _ _ _ #[.int .i64 T.kind,.int .u64 T.num,.string T.text,.slice ao T.len cap] _ _ HR.out) Tryz.underlying30 rfl (by kernel_rfl);simp [results,Tryz.results95,asAddr];exact hl
theorem jgx (S:Nat→Prop):∀ (T:VT) (w:World),ValAt w S T→PCopyTo T w:=
 VT.ind fun T ih w H=>je5 S T (fun i hi w' H'=>ih i hi w' H') w H
end Go.Proofs.YthcompcjphaahaaGreatDoor.Pa
