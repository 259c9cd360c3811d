/- Plain mathematics of chapter 5: what is told of a number gives it back; how numbers stand. -/
import Derived.Deep.WholeRow
import Derived.Great.BuildSlice
import Derived.WalkSmall
import Derived.Laws.CopyOwn
import Derived.Test.YthcompcjphaahaaGreatDoorh14
set_option maxRecDepth 100000
set_option maxHeartbeats 8000000
set_option linter.unusedVariables false
namespace Go.Proofs.YthcompcjphaahaaGreatDoor.Pa
open Go.RowKit
theorem jje (n:Int) {z:Int} (hz:isSz z=true):-(pw z / 2)≤signZ n z∧signZ n z≤pw z / 2 - 1:=by
 unfold signZ;rw [if_pos hz]
 rcases kr hz with rfl|rfl|rfl|rfl
 · rw [pw1];split <;> omega
 · rw [pw2];split <;> omega
 · rw [pw4];split <;> omega
 · rw [pw8];split <;> omega
theorem jso (n:Int) {z:Int} (hz:isSz z=true):0≤lowZ n z∧lowZ n z≤pw z - 1:=by
 unfold lowZ
 rcases kr hz with rfl|rfl|rfl|rfl
 · rw [pw1];omega
 · rw [pw2];omega
 · rw [pw4];omega
 · rw [pw8];omega
theorem juu {k n:Int} (hk:numK k=true):(datK k n).text.toList.isEmpty=true∧((datK k n).kind==dkK k)=true∧dv (datK k n)=valK k n∧loK k≤valK k n∧valK k n≤hiK k:=by
 have hz:=ja7 hk
 have he:datK k n=⟨dkK k,decide (valK k n<0),absZ (valK k n),⟨#[]⟩⟩:=by unfold datK;rw [hk,if_pos rfl]
 refine ⟨by (rw [he];show (⟨#[]⟩:ByteArray).toList.isEmpty=true;rw [ByteArray.toList_eq];rfl),by (rw [he];simp),?_,?_⟩
 · rw [he];unfold dv absZ
   by_cases h:valK k n<0
   · simp [h]
   · simp [h]
 · by_cases h1:k=1
   · subst h1;have e1:loK 1=0:=rfl;have e2:hiK 1=1:=rfl;have e3:valK 1 n=n % 2:=rfl;rw [e1,e2,e3];omega
   · cases hs:sgK k with
     |true=>
      have e3:valK k n=signZ n (szK k):=by unfold valK;rw [if_neg h1,hs];rfl
      have hr:=jje n hz;have hm:=jmb hs;rw [e3];omega
     |false=>
      have e3:valK k n=lowZ n (szK k):=by unfold valK;rw [if_neg h1,hs];rfl
      have hr:=jso n hz;have hm:=jlp h1 hs;rw [e3];omega
theorem jmo {k n:Int} (hk:numK k=true):-9223372036854775808≤valK k n∧valK k n≤18446744073709551615:=by
 obtain ⟨_,_,_,h4,h5⟩:=juu (n:=n) hk;have hp:=jsl (ja7 hk)
 have hl:loK k=0∨loK k=-(pw (szK k) / 2):=by unfold loK;split;exact .inr rfl;exact .inl rfl
 have hh:hiK k≤pw (szK k) - 1∨hiK k=1:=by
  by_cases h1:k=1
  · subst h1;exact .inr rfl
  · cases hs:sgK k with
    |true=>have:=jmb hs;omega
    |false=>have:=jlp h1 hs;omega
 omega
theorem jml (k n:Int):0≤(datK k n).num∧(datK k n).num≤18446744073709551615:=by
 unfold datK
 split
 · rename_i h
   have:=jmo (n:=n) h
   show 0≤absZ (valK k n)∧absZ (valK k n)≤_
   unfold absZ
   split <;> omega
 · exact ⟨Int.le_refl _,by decide⟩
theorem jrr (k n:Int):(datK k n).text=⟨#[]⟩:=by unfold datK;split <;> rfl
theorem wf_u64 {n:Int} (h0:0≤n) (h1:n≤18446744073709551615):(Lit.int .u64 n).wf=true:=WalkArith.wf_u64 ⟨h0,h1⟩
def rowsC:Array Value:=#[.int .i64 0,.bool false,.int .i64 1,.bool false,.int .i64 1,.bool false,.int .i64 2,.bool true,.int .i64 2,.bool false,.int .i64 4,.bool true,.int .i64 4,.bool false,.int .i64 8,.bool true,.int .i64 8,.bool false,.int .i64 4,.bool true]
theorem jpl (w:World):Calls Tryz.prog 205 #[] w fun e w'=>e=.returned (.agg rowsC)∧Below w.heap.size w w':=by
 go_enter Tryz.func205,Tryz.ntmps205
 go_wp2_with (first
  |(refine wpList_buildTo rfl 241 _ rfl (some 10) rfl rowsC (by kernel_rfl) ?_)
  |(refine wpList_store_rowTo rfl 241 _ _ rfl rfl w.heap.size rowsC rfl rfl _ _ (heap_alloc_last w _) (by kernel_rfl) (by kernel_rfl) (by kernel_rfl) ?_))
 rw [World.setRow_alloc_new];refine bodyPost_ret (v:=.agg rowsC) ?_ rfl ⟨rfl,by go_grown⟩;have hl:=run_loadVar_new (P:=Tryz.prog) w 241 rowsC 10 _ Tryz.underlying241 (by kernel_rfl);simp [results,Tryz.results205,asAddr,Act.put];exact hl
theorem kh (k:Int) (w:World):Calls Tryz.prog 132 #[.int .i64 k] w fun e w'=>e=.returned (.bool (numK k))∧w=w':=by
 go_enter Tryz.func132,Tryz.ntmps132;go_wp2
 all_goals
  go_ret;refine ⟨kw ?_,rfl⟩;rw [Bool.eq_iff_iff];simp [numK];try omega
theorem yv {w w1:World} {b:Nat} {o:Obj} (h:w.heap[b]?=some o) (hb:Below w.heap.size w w1):w1.heap[b]?=some o:=(hb.block b (lt_of_block h)).trans h
theorem jae {w w1:World} {o:Obj} (hb:Below (w.alloc o).heap.size (w.alloc o) w1):w1.heap[w.heap.size]?=some o:=yv (jd w o) hb
theorem juy (k:Int) (hk:numK k=true) (w:World):(Instr.index 241 (.agg rowsC) (.int .i64 k)).run Tryz.prog w=.ok (.agg #[.int .i64 (szK k),.bool (sgK k)]) w:=by
 rcases jel hk with rfl|rfl|rfl|rfl|rfl|rfl|rfl|rfl|rfl <;> kernel_rfl
theorem jfl (k:Int) (w:World):Calls Tryz.prog 175 #[.int .i64 k] w fun e w'=>e=.returned (.agg #[.int .i64 (szK k),.bool (sgK k)])∧Below w.heap.size w w':=by
 have hr:=Below.refl w.heap.size w
 cases hk:numK k with
 |false=>
  have hz:szK k=0:=by simp [numK] at hk;unfold szK;rw [if_neg (by omega),if_neg (by omega),if_neg (by omega),if_neg (by omega)]
  have hs:sgK k=false:=by
   cases h:sgK k with
   |false=>rfl
   |true=>have:=jg6 h;rw [hk] at this;cases this
  rw [hz,hs];clear hz hs;have HN:=lh (fun w=>hk ▸ kh k w);go_enter Tryz.func175,Tryz.ntmps175;go_wp2_with (go_at_call 132;refine (HN.out _).mono ?_;rintro e w' ⟨rfl,rfl⟩)
  go_returns
  exact ⟨rfl,by go_grown⟩
 |true=>
  have HN:=lh (fun w=>hk ▸ kh k w);have hix:=juy k hk;clear hk;go_enter Tryz.func175,Tryz.ntmps175
  go_wp2_with (first
   |(go_at_call 132;refine (HN.out _).mono ?_;rintro e w' ⟨rfl,rfl⟩)
   |(go_at_call 205;refine (jpl _).mono ?_;rintro e w1 ⟨rfl,hb⟩;have hr:=((Below.refl w.heap.size w).alloc (Nat.le_refl _) _).trans (hb.mono (by simp));have hq:=jae hb;have c0:=ja (j:=0) hq rfl;have c1:=ja (j:=1) hq rfl;have f0:w1.frozen? ⟨w.heap.size,0,none⟩=false:=jg hq;have f1:w1.frozen? ⟨w.heap.size,1,none⟩=false:=jg hq;have HQ:=lh hq;clear hq hb))
  have q0:=jn (j:=0) (u:=.int .i64 (szK k)) HQ.out;have q1:=jn (j:=1) (u:=.bool (sgK k)) q0;have e0:=ja (j:=0) (v:=.int .i64 (szK k)) q0 rfl;have e1:=ja (j:=1) (v:=.bool (sgK k)) q1 rfl;refine bodyPost_ret (v:=.agg #[.int .i64 (szK k),.bool (sgK k)]) ?_ rfl ⟨rfl,by go_grown⟩;simp [results,Tryz.results175,go_sem,e0,e1]
theorem pstep {w w1 w2:World} (h:Below w.heap.size w w1) (k:Below w1.heap.size w1 w2):Below w.heap.size w w2:=h.trans (k.mono h.size)
theorem jsc (a:Int) (b:Bool) (w:World):(Instr.field 217 (.agg #[.int .i64 a,.bool b]) 0).run Tryz.prog w=.ok (.int .i64 a) w:=by kernel_rfl
theorem jqh (a:Int) (b:Bool) (w:World):(Instr.field 217 (.agg #[.int .i64 a,.bool b]) 1).run Tryz.prog w=.ok (.bool b) w:=by kernel_rfl
theorem jh7 (k:Int) (w:World):Calls Tryz.prog 173 #[.int .i64 k] w fun e w'=>e=.returned (.int .i64 (szK k))∧Below w.heap.size w w':=by
 have hf:=jsc;go_enter Tryz.func173,Tryz.ntmps173;go_wp2_with (go_at_call 175;refine (jfl _ _).mono ?_;rintro e w1 ⟨rfl,hb⟩);go_ret;exact ⟨rfl,hb⟩
theorem Yv (k:Int) (w:World):Calls Tryz.prog 134 #[.int .i64 k] w fun e w'=>e=.returned (.bool (sgK k))∧Below w.heap.size w w':=by
 have hf:=jqh;go_enter Tryz.func134,Tryz.ntmps134;go_wp2_with (go_at_call 175;refine (jfl _ _).mono ?_;rintro e w1 ⟨rfl,hb⟩);go_ret;exact ⟨rfl,hb⟩
theorem juc {k:Int} (h:numK k=false):szK k=0:=by simp [numK] at h;unfold szK;rw [if_neg (by omega),if_neg (by omega),if_neg (by omega),if_neg (by omega)]
theorem jrd (k n:Int):bitsN (signZ n (szK k)) (szK k)=lowK k n:=by
 unfold lowK
 cases hk:numK k with
 |false=>rw [juc hk];rfl
 |true=>
  have hz:=ja7 hk
  have hi:inR (signZ n (szK k)) (szK k)=true:=by
   have:=jje n hz
   unfold inR;rw [Bool.and_eq_true];exact ⟨decide_eq_true this.1,decide_eq_true (by omega)⟩
  rw [Xw hz hi,if_pos rfl];unfold lowZ signZ;rw [if_pos hz]
  split
  · exact Int.emod_emod_of_dvd n (Int.dvd_refl _)
  · rw [Int.sub_emod_right];exact Int.emod_emod_of_dvd n (Int.dvd_refl _)
theorem jty (k n:Int) (hn:(Lit.int .u64 n).wf=true) (w:World):Calls Tryz.prog 174 #[.int .i64 k,.int .u64 n] w fun e w'=>e=.returned (.int .u64 (lowK k n))∧Below w.heap.size w w':=by
 have HB:=lh (jrd k n);obtain ⟨z,hz⟩:∃ z,szK k=z:=⟨_,rfl⟩;have HS:=lh (fun w=>hz ▸ jh7 k w);rw [hz] at HB;clear hz;go_enter Tryz.func174,Tryz.ntmps174
 go_wp2_with (first
  |(go_at_call 173;refine (HS.out _).mono ?_;rintro e w1 ⟨rfl,hb⟩)
  |(go_at_call 203;refine (ja3 _ _ _).mono ?_;rintro e w' ⟨rfl,m,rfl⟩)
  |(go_at_call 204;refine (jp0 _ _ _).mono ?_;rintro e w' ⟨rfl,m2,rfl⟩))
 go_ret;exact ⟨js HB.out,jf hb _⟩
theorem jjz (k n:Int) (hn:(Lit.int .u64 n).wf=true) (w:World):Calls Tryz.prog 133 #[.int .i64 k,.int .u64 n] w fun e w'=>e=.returned (.int .u64 (upK k n))∧Below w.heap.size w w':=by
 unfold upK
 cases hs:sgK k with
 |true=>
  have HG:=lh (fun w=>hs ▸ Yv k w);clear hs;go_enter Tryz.func133,Tryz.ntmps133
  go_wp2_with (first
   |(go_at_call 134;refine (HG.out _).mono ?_;rintro e w1 ⟨rfl,hb⟩)
   |(go_at_call 173;refine (jh7 _ _).mono ?_;rintro e w2 ⟨rfl,hb2⟩)
   |(go_at_call 172;refine (jr9 _ _ _).mono ?_;rintro e w' ⟨rfl,m,rfl⟩))
  go_ret;exact ⟨rfl,jf (pstep hb hb2) _⟩
 |false=>
  have HG:=lh (fun w=>hs ▸ Yv k w);clear hs;go_enter Tryz.func133,Tryz.ntmps133
  go_wp2_with (first
   |(go_at_call 134;refine (HG.out _).mono ?_;rintro e w1 ⟨rfl,hb⟩)
   |(go_at_call 174;refine (jty _ _ hn _).mono ?_;rintro e w2 ⟨rfl,hb2⟩))
  go_ret;exact ⟨rfl,pstep hb hb2⟩
theorem jl3 (k n:Int) (hn:(Lit.int .u64 n).wf=true) (w:World):Calls Tryz.prog 258 #[.int .i64 k,.int .u64 n] w fun e w'=>e=.returned (.bool (mayK k n))∧Below w.heap.size w w':=by
 unfold mayK
 by_cases h1:k=1
 · subst h1;go_enter Tryz.func258,Tryz.ntmps258;go_wp2;go_ret;refine ⟨kw ?_,Below.refl _ _⟩;rw [Bool.eq_iff_iff];simp;omega
 · rw [if_neg h1]
   have h1b:(k==1)=false:=by simpa using h1
   clear h1
   cases hk:numK k with
   |false=>
    have HN:=lh (fun w=>hk ▸ kh k w);clear hk;go_enter Tryz.func258,Tryz.ntmps258;go_wp2_with (go_at_call 132;refine (HN.out _).mono ?_;rintro e w' ⟨rfl,rfl⟩);go_ret;exact ⟨rfl,Below.refl _ _⟩
   |true=>
    have HN:=lh (fun w=>hk ▸ kh k w);clear hk;go_enter Tryz.func258,Tryz.ntmps258
    go_wp2_with (first
     |(go_at_call 132;refine (HN.out _).mono ?_;rintro e w' ⟨rfl,rfl⟩)
     |(go_at_call 133;refine (jjz _ _ hn _).mono ?_;rintro e w1 ⟨rfl,hb⟩))
    go_ret;exact ⟨rfl,hb⟩
theorem jfr (k n:Int) (hn:(Lit.int .u64 n).wf=true) (w:World):Calls Tryz.prog 96 #[.int .i64 k,.int .u64 n] w fun e w'=>e=.returned (datV (datK k n))∧Below w.heap.size w w':=by
 have hb:=bounds_u64 hn
 cases hk:numK k with
 |false=>
  rw [jmi hk];have HN:=lh (fun w=>hk ▸ kh k w);clear hk;go_enter Tryz.func96,Tryz.ntmps96;go_wp2_with (go_at_call 132;refine (HN.out _).mono ?_;rintro e w' ⟨rfl,rfl⟩)
  go_returns
  exact ⟨rfl,by go_grown⟩
 |true=>
  have HN:=lh (fun w=>hk ▸ kh k w)
  by_cases h1:k=1
  · subst h1;rw [jf4];clear hk;go_enter Tryz.func96,Tryz.ntmps96;go_wp2_with (go_at_call 132;refine (HN.out _).mono ?_;rintro e w' ⟨rfl,rfl⟩)
    go_returns
    exact ⟨by rw [and_one_u64 n hb.1 hb.2];rfl,by go_grown⟩
  · have h1b:(k==1)=false:=by simpa using h1
    cases hs:sgK k with
    |false=>
     rw [jhu hk h1 hs]
     have hup:upK k n=lowK k n:=by unfold upK;rw [hs];rfl
     have HG:=lh (fun w=>hs ▸ Yv k w);have HU:=lh (fun w=>hup ▸ jjz k n hn w);clear hs hup hk h1;go_enter Tryz.func96,Tryz.ntmps96
     go_wp2_with (first
      |(go_at_call 132;refine (HN.out _).mono ?_;rintro e w' ⟨rfl,rfl⟩)
      |(go_at_call 133;refine (HU.out _).mono ?_;rintro e w1 ⟨rfl,hb1⟩;have HQ:=lh (jae hb1);have HR:=lh (((Below.refl w.heap.size w).alloc (Nat.le_refl _) _).trans (hb1.mono (by simp)));clear hb1)
      |(go_at_call 134;refine (HG.out _).mono ?_;rintro e w2 ⟨rfl,hb2⟩;have HQ2:=lh (yv HQ.out hb2);have HR2:=lh (pstep HR.out hb2);clear hb2)
      |(refine wpList_store_rowTo rfl 42 _ _ rfl rfl w.heap.size #[.int .i64 1,.bool false,.int .u64 (lowK k n),.string ⟨#[]⟩] rfl rfl _ _ HQ2.out (by kernel_rfl) (by kernel_rfl) (by kernel_rfl) ?_))
     refine bodyPost_ret (v:=.agg #[.int .i64 1,.bool false,.int .u64 (lowK k n),.string ⟨#[]⟩]) ?_ rfl ⟨rfl,below_setRow HR2.out (Nat.le_refl _) _⟩;have hl:=run_loadVar_row (P:=Tryz.prog) _ w.heap.size _ 42 _ _ _ (setRow_heap _ _ _ #[.int .i64 1,.bool false,.int .u64 (lowK k n),.string ⟨#[]⟩] _ _ HQ2.out) Tryz.underlying42 rfl (by kernel_rfl);simp [results,Tryz.results96,asAddr];exact hl
    |true=>
     have HG:=lh (fun w=>hs ▸ Yv k w);obtain ⟨u,hup⟩:∃ u,upK k n=u:=⟨_,rfl⟩;have HU:=lh (fun w=>hup ▸ jjz k n hn w)
     have hu:u=IntKind.u64.wrap (signZ n (szK k)):=by rw [←hup];unfold upK;rw [hs];rfl
     have hw:wrap64 u=signZ n (szK k):=by
      have:=Xe n (szK k)
      rw [hu,IntKind.wrap_u64];unfold wrap64;omega
     by_cases hneg:wrap64 u<0
     · have hm:IntKind.u64.wrap (-u)=-signZ n (szK k):=by
        have:=Xe n (szK k)
        rw [hw] at hneg;rw [hu,IntKind.wrap_u64,IntKind.wrap_u64];omega
       rw [ji1 hs (by rw [←hw];exact hneg),←hm];clear hs hup hk h1 hu hw hm;go_enter Tryz.func96,Tryz.ntmps96
       go_wp2_with (first
        |(go_at_call 132;refine (HN.out _).mono ?_;rintro e w' ⟨rfl,rfl⟩)
        |(go_at_call 133;refine (HU.out _).mono ?_;rintro e w1 ⟨rfl,hb1⟩;have HQ:=lh (jae hb1);have HR:=lh (((Below.refl w.heap.size w).alloc (Nat.le_refl _) _).trans (hb1.mono (by simp)));clear hb1)
        |(go_at_call 134;refine (HG.out _).mono ?_;rintro e w2 ⟨rfl,hb2⟩;have HQ2:=lh (yv HQ.out hb2);have HR2:=lh (pstep HR.out hb2);clear hb2)
        |(refine wpList_store_rowTo rfl 42 _ _ rfl rfl w.heap.size #[.int .i64 1,.bool true,.int .u64 (IntKind.u64.wrap (-u)),.string ⟨#[]⟩] rfl rfl _ _ HQ2.out (by kernel_rfl) (by kernel_rfl) (by kernel_rfl) ?_))
       refine bodyPost_ret (v:=.agg #[.int .i64 1,.bool true,.int .u64 (IntKind.u64.wrap (-u)),.string ⟨#[]⟩]) ?_ rfl ⟨rfl,below_setRow HR2.out (Nat.le_refl _) _⟩;have hl:=run_loadVar_row (P:=Tryz.prog) _ w.heap.size _ 42 _ _ _ (setRow_heap _ _ _ #[.int .i64 1,.bool true,.int .u64 (IntKind.u64.wrap (-u)),.string ⟨#[]⟩] _ _ HQ2.out) Tryz.underlying42 rfl (by kernel_rfl);simp [results,Tryz.results96,asAddr];exact hl
     · have hm:u=signZ n (szK k):=by
        have:=Xe n (szK k)
        rw [hw] at hneg;rw [hu,IntKind.wrap_u64];omega
       rw [jht hs (by rw [←hw];exact hneg),←hm];clear hs hup hk h1 hu hw hm;go_enter Tryz.func96,Tryz.ntmps96
       go_wp2_with (first
        |(go_at_call 132;refine (HN.out _).mono ?_;rintro e w' ⟨rfl,rfl⟩)
        |(go_at_call 133;refine (HU.out _).mono ?_;rintro e w1 ⟨rfl,hb1⟩;have HQ:=lh (jae hb1);have HR:=lh (((Below.refl w.heap.size w).alloc (Nat.le_refl _) _).trans (hb1.mono (by simp)));clear hb1)
        |(go_at_call 134;refine (HG.out _).mono ?_;rintro e w2 ⟨rfl,hb2⟩;have HQ2:=lh (yv HQ.out hb2);have HR2:=lh (pstep HR.out hb2);clear hb2)
        |(refine wpList_store_rowTo rfl 42 _ _ rfl rfl w.heap.size #[.int .i64 1,.bool false,.int .u64 u,.string ⟨#[]⟩] rfl rfl _ _ HQ2.out (by kernel_rfl) (by kernel_rfl) (by kernel_rfl) ?_))
       refine bodyPost_ret (v:=.agg #[.int .i64 1,.bool false,.int .u64 u,.string ⟨#[]⟩]) ?_ rfl ⟨rfl,below_setRow HR2.out (Nat.le_refl _) _⟩;have hl:=run_loadVar_row (P:=Tryz.prog) _ w.heap.size _ 42 _ _ _ (setRow_heap _ _ _ #[.int .i64 1,.bool false,.int .u64 u,.string ⟨#[]⟩] _ _ HQ2.out) Tryz.underlying42 rfl (by kernel_rfl);simp [results,Tryz.results96,asAddr];exact hl
theorem jvk (a:Int) (w:World):Calls Tryz.prog 105 #[.int .i64 a] w fun e w'=>e=.returned (.bool false)∧w=w':=by
 go_enter Tryz.func105,Tryz.ntmps105;go_wp2;go_ret;exact ⟨kw (by simp),rfl⟩
theorem jvi (a:Int) (w:World):Calls Tryz.prog 108 #[.int .u64 a] w fun e w'=>e=.returned (.bool false)∧w=w':=by
 go_enter Tryz.func108,Tryz.ntmps108;go_wp2;go_ret;exact ⟨kw (by simp),rfl⟩
theorem jvs (a:ByteArray) (w:World):Calls Tryz.prog 107 #[.string a] w fun e w'=>e=.returned (.bool false)∧w=w':=by
 go_enter Tryz.func107,Tryz.ntmps107;go_wp2;go_ret;exact ⟨kw (by simp),rfl⟩
theorem jnf (a b:Int) (w:World):Calls Tryz.prog 66 #[.int .i64 a,.int .i64 b] w fun e w'=>e=.returned (.int .i64 (cmpI a b))∧w=w':=by
 go_enter Tryz.func66,Tryz.ntmps66;go_wp2_with (go_at_call 105;refine (jvk _ _).mono ?_;rintro e w' ⟨rfl,rfl⟩)
 all_goals
  go_ret;refine ⟨js ?_,rfl⟩
  unfold cmpI;(repeat' split) <;> first|rfl|omega|(simp_all;done)|(simp_all;omega)
theorem jfb (a b:Int) (w:World):Calls Tryz.prog 69 #[.int .u64 a,.int .u64 b] w fun e w'=>e=.returned (.int .i64 (cmpI a b))∧w=w':=by
 go_enter Tryz.func69,Tryz.ntmps69;go_wp2_with (go_at_call 108;refine (jvi _ _).mono ?_;rintro e w' ⟨rfl,rfl⟩)
 all_goals
  go_ret;refine ⟨js ?_,rfl⟩
  unfold cmpI;(repeat' split) <;> first|rfl|omega|(simp_all;done)|(simp_all;omega)
theorem joh (a b:ByteArray) (w:World):Calls Tryz.prog 68 #[.string a,.string b] w fun e w'=>e=.returned (.int .i64 (cmpT a b))∧w=w':=by
 unfold cmpT
 cases h1:Op.bytesLess a.toList b.toList <;> cases h2:(a.toList==b.toList)
 all_goals
  go_enter Tryz.func68,Tryz.ntmps68;go_wp2_with (go_at_call 107;refine (jvs _ _).mono ?_;rintro e w' ⟨rfl,rfl⟩);go_ret;exact ⟨rfl,rfl⟩
theorem jdd (kd num:Int) (neg:Bool) (tx:ByteArray) (w:World):Calls Tryz.prog 106 #[.agg #[.int .i64 kd,.bool neg,.int .u64 num,.string tx]] w fun e w'=>e=.returned (.bool (neg&&num !=0))∧w'=w.alloc (.cells #[.int .i64 kd,.bool neg,.int .u64 num,.string tx] 42):=by
 cases neg
 all_goals
  go_enter Tryz.func106,Tryz.ntmps106;go_wp2;go_ret;exact ⟨rfl,rfl⟩
theorem jto (a b:DatV) (ha:0≤a.num) (hb:0≤b.num):cmpI (dv a) (dv b)=(if (a.neg&&a.num !=0)&&(b.neg&&b.num !=0) then cmpI b.num a.num else if (a.neg&&a.num !=0) then -1 else if (b.neg&&b.num !=0) then 1 else cmpI a.num b.num):=by
 obtain ⟨ka,ga,na,ta⟩:=a;obtain ⟨kb,gb,nb,tb⟩:=b;simp only [dv,cmpI] at *
 cases ga <;> cases gb <;> simp <;> (repeat' split) <;> omega
theorem jk3 (ka kb na nb:Int) (ga gb:Bool) (ta tb:ByteArray) (hna:0≤na) (hnb:0≤nb) (w:World):Calls Tryz.prog 67 #[.agg #[.int .i64 ka,.bool ga,.int .u64 na,.string ta],.agg #[.int .i64 kb,.bool gb,.int .u64 nb,.string tb]] w fun e w'=>e=.returned (.int .i64 (cmpI (dv ⟨ka,ga,na,ta⟩) (dv ⟨kb,gb,nb,tb⟩)))∧Below w.heap.size w w':=by
 have hr:=Below.refl w.heap.size w;rw [jto _ _ hna hnb]
 dsimp only
 have HA:=fun w=>jdd ka na ga ta w;have HB:=fun w=>jdd kb nb gb tb w
 cases ca:(ga&&na !=0) <;> cases cb:(gb&&nb !=0)
 all_goals
  rw [ca] at HA;rw [cb] at HB;have HA:=lh HA;have HB:=lh HB;clear ca cb;go_enter Tryz.func67,Tryz.ntmps67
  go_wp2_with (first
   |(go_at_call 106;with_reducible refine (HA.out _).mono ?_;rintro e w1 ⟨rfl,rfl⟩)
   |(go_at_call 106;with_reducible refine (HB.out _).mono ?_;rintro e w1 ⟨rfl,rfl⟩)
   |(go_at_call 69;refine (jfb _ _ _).mono ?_;rintro e w1 ⟨rfl,rfl⟩))
  go_ret;exact ⟨rfl,by go_grown⟩
theorem jtf (ka kb na nb:Int) (ga gb:Bool) (ta tb:ByteArray) (hna:(Lit.int .u64 na).wf=true) (hnb:(Lit.int .u64 nb).wf=true) (hta:ta.size≤281474976710656) (htb:tb.size≤281474976710656) (w:World):Calls Tryz.prog 34 #[.agg #[.int .i64 ka,.bool ga,.int .u64 na,.string ta],.agg #[.int .i64 kb,.bool gb,.int .u64 nb,.string tb]] w fun e w'=>e=.returned (.int .i64 (cmpD ⟨ka,ga,na,ta⟩ ⟨kb,gb,nb,tb⟩))∧Below w.heap.size w w':=by
 obtain ⟨c,hc⟩:∃ c,cmpD ⟨ka,ga,na,ta⟩ ⟨kb,gb,nb,tb⟩=c:=⟨_,rfl⟩;rw [hc];have h0:=(bounds_u64 hna).1;have h1:=(bounds_u64 hnb).1
 by_cases hk:ka=kb
 · subst hk
   have hkk:(ka !=ka)=false:=by simp
   by_cases h1:ka=1
   · subst h1;rw [jip (a:=⟨1,ga,na,ta⟩) (b:=⟨1,gb,nb,tb⟩) rfl rfl] at hc;have HC:=lh (fun w=>hc ▸ jk3 1 1 na nb ga gb ta tb h0 (by assumption) w);clear hc;go_enter Tryz.func34,Tryz.ntmps34;go_wp2_with (go_at_call 67;refine (HC.out _).mono ?_;rintro e w1 ⟨rfl,hb⟩);go_ret;exact ⟨rfl,(by (refine (Below.trans ?_ (hb.mono (by simp;omega)));go_grown))⟩
   · by_cases h2:ka=2
     · subst h2;rw [jf6 (a:=⟨2,ga,na,ta⟩) (b:=⟨2,gb,nb,tb⟩) rfl rfl] at hc;have HC:=lh (fun w=>hc ▸ joh ta tb w);clear hc;go_enter Tryz.func34,Tryz.ntmps34;go_wp2_with (go_at_call 68;refine (HC.out _).mono ?_;rintro e w1 ⟨rfl,rfl⟩);go_ret;exact ⟨rfl,by go_grown⟩
     · by_cases h3:ka=3
       · subst h3;rw [jfw (a:=⟨3,ga,na,ta⟩) (b:=⟨3,gb,nb,tb⟩) rfl rfl] at hc;have HC:=lh (fun w=>hc ▸ jfb na nb w);clear hc;go_enter Tryz.func34,Tryz.ntmps34;go_wp2_with (go_at_call 69;refine (HC.out _).mono ?_;rintro e w1 ⟨rfl,rfl⟩);go_ret;exact ⟨rfl,by go_grown⟩
       · rw [jf2 (a:=⟨ka,ga,na,ta⟩) (b:=⟨ka,gb,nb,tb⟩) rfl h1 h2 h3] at hc;subst hc
         have t1:(ka==1)=false:=by simpa using h1
         have t2:(ka==2)=false:=by simpa using h2
         have t3:(ka==3)=false:=by simpa using h3
         clear h1 h2 h3;go_enter Tryz.func34,Tryz.ntmps34;go_wp2;go_ret;exact ⟨rfl,by go_grown⟩
 · rw [jdj (a:=⟨ka,ga,na,ta⟩) (b:=⟨kb,gb,nb,tb⟩) hk] at hc;have HC:=lh (fun w=>(show cmpI ka kb=c from hc) ▸ jnf ka kb w);clear hc
   have t1:(ka !=kb)=true:=by simpa using hk
   clear hk;go_enter Tryz.func34,Tryz.ntmps34;go_wp2_with (go_at_call 66;refine (HC.out _).mono ?_;rintro e w1 ⟨rfl,rfl⟩);go_ret;exact ⟨rfl,by go_grown⟩
end Go.Proofs.YthcompcjphaahaaGreatDoor.Pa
