/- The reference's steps of a text. -/
import Derived.Test.YthcompcjphaahaaGreatDoorh24
import Derived.Test.YthcompcjphaahaaGreatDoorh29
set_option maxRecDepth 100000
set_option maxHeartbeats 8000000
set_option linter.unusedVariables false
namespace Go.Proofs.YthcompcjphaahaaGreatDoor.Pa
open Go Go.RowKit
def flatP:List PieceV→List Value
 | []=>[]
 |x::r=>.string x.name::.int .i64 x.n::flatP r
theorem Yx (l:List PieceV) (x:PieceV):flatP (l++[x])=flatP l++[.string x.name,.int .i64 x.n]:=by
 induction l with
 |nil=>rfl
 |cons a l ih=>simp only [List.cons_append,flatP,ih]
theorem infoPiece:(Tryz.prog.info? 111).map (fun i=>(i.zero,i.size,i.bytes))=some (some (.agg #[.string ⟨#[]⟩,.int .i64 0]),2,24):=by kernel_rfl
def strSz:Value→Nat
 |.string x=>x.size
 |_=>0
def PiecesTo (s:ByteArray) (w:World) (e:Ending) (w':World):Prop:=
 ∃ v,e=.returned (.tuple #[v,.bool (formS s)])∧(formS s=true→w'.ownsRow w.heap.size 111 2 v (piecesS s 0).length (flatP ((piecesS s 0).map (·.1))))∧Below w.heap.size w w'
theorem jrj {s:ByteArray} {pre:List (PieceV × Bool)} {a:Nat} {x:PieceV} (hx:piecesS s 0=pre++piecesS s a) (h:a<s.size) (hl:leadP (s.extract a s.size) (a==0)=(x,0)):formS s=false:=by
 unfold formS;rw [hx,jah h hl];simp
theorem je3 (s:ByteArray) (hs:s.size≤1000000) (w:World):Calls Tryz.prog 58 #[.string s] w (PiecesTo s w):=by
 obtain ⟨i0,hi,iz0,iz1,iz2⟩:=info_parts infoPiece
 have hmx:(1000001:Nat)≤maxLen:=by decide
 go_enter Tryz.func58,Tryz.ntmps58;go_wp2
 go_loopw [0,4] (fun p q wr=>∃ (pre:List (PieceV × Bool)) (a:Nat) (ia:Option Addr) (m cp:Nat),p=.string (s.extract a s.size)∧q=.slice ia m cp∧m=pre.length∧wr.ownsRow w.heap.size 111 2 (.slice ia m cp) m (flatP (pre.map (·.1)))∧
   piecesS s 0=pre++piecesS s a∧pre.all (·.2)=true∧(pre=[]↔a=0)∧m≤a∧Below w.heap.size w wr)
  (fun p _ _=>strSz p)
 case atStart=>exact ⟨[],0,none,0,0,by simp,rfl,rfl,World.ownsRow_nil _ _ _ _,rfl,rfl,by simp,by simp,Below.refl _ _⟩
 case round=>
  obtain ⟨pre,a,ia,m,cp,rfl,rfl,hm0,hrow,hx,hal,hnz,hpl,hbl⟩:=hrel;have hm:=hm0.symm;clear hm0;have HM:=lh hm
  have hnz2:m=0↔a=0:=by rw [←hnz,←hm,List.length_eq_zero_iff]
  have HAL:=lh hal;have HX:=lh hx
  have hrz:(s.extract a s.size).size=s.size - a:=by simp
  have hlead:∀ x n,a<s.size→leadP (s.extract a s.size) (a==0)=(x,n)→rpieceS (s.extract a s.size) (!(a==0))=if n=0 then none else some (x,s.extract (a+n) s.size):=fun x n _ h=>by
   have:=jhl (r:=s.extract a s.size) (nz:=!(a==0)) (x:=x) (n:=n) (by rw [Bool.not_not];exact h)
   rw [this,jly]
  have hbad:∀ x,a<s.size→leadP (s.extract a s.size) (a==0)=(x,0)→formS s=false:=fun x h1 h2=>jrj hx h1 h2;have hnx:∀ x n,a<s.size→leadP (s.extract a s.size) (a==0)=(x,n)→n≠0→piecesS s a=(x,true)::piecesS s (a+n):=fun x n h1 h2 h3=>ja4 h1 h2 h3
  have hend:¬a<s.size→m≠0→formS s=true∧piecesS s 0=pre:=fun h1 h2=>by
   have e:piecesS s 0=pre:=by rw [hx,Zc h1,List.append_nil]
   have hsz:(s.size==0)=false:=by
    rw [beq_eq_false_iff_ne];intro h0;rw [Zc (by omega)] at e;exact h2 (hnz2.2 (hnz.1 e.symm))
   refine ⟨?_,e⟩;unfold formS;rw [e,hal,hsz]
   rfl
  have hemp:¬a<s.size→m=0→formS s=false:=fun h1 h2=>by
   have ha:=hnz2.1 h2;unfold formS;rw [show (s.size==0)=true from beq_iff_eq.2 (by omega)];simp
  clear hx hal hnz hm;obtain ⟨r,hr⟩:∃ r,s.extract a s.size=r:=⟨_,rfl⟩;rw [hr] at hrz hlead hbad hnx ⊢;have HE:=lh (fun wx=>jlf r (by omega) wx);unfold elemV at HE
  by_cases hlt:a<s.size
  · have hre:r.toList.isEmpty=false:=by rw [Yj];exact beq_eq_false_iff_ne.2 (by omega)
    have hr0:0<r.size:=by omega
    obtain ⟨⟨x,n⟩,hxn⟩:∃ y,leadP r (a==0)=y:=⟨_,rfl⟩;have hl:=hlead x n hlt hxn
    have hszn:n≠0→(s.extract (a+n) s.size).size<r.size:=fun h=>by simp;omega
    by_cases hek:elemK r<100
    · rw [if_pos hek] at HE
      have h2:rpieceS r (!(a==0))=some (⟨true,(elemK r:Nat),⟨#[]⟩⟩,r.extract (wS (elemK r)).size r.size):=by unfold rpieceS;rw [if_pos hek]
      rw [h2] at hl
      by_cases hn:n=0
      · rw [if_pos hn] at hl;cases hl
      · rw [if_neg hn] at hl;obtain ⟨hx1,hx2⟩:=Prod.mk.inj (Option.some.inj hl);rw [hx2] at HE;have HPN:=lh (hnx x n hlt hxn hn);have HSZ:=lh (hszn hn);obtain ⟨ek,hekk⟩:∃ ek,elemK r=ek:=⟨_,rfl⟩;rw [hekk] at HE hx1;have HFX:=lh (show [Value.string x.name,Value.int .i64 x.n]=[.string ⟨#[]⟩,.int .i64 (ek:Nat)] by rw [←hx1])
        have hmk:m=0∨0<m:=by omega
        clear hl h2 hek hekk hx1 hx2 hlead hbad hnx hend hemp hxn hszn
        rcases hmk with h0|h0
        · have km:((m:Int)==0)=true:=by simp [h0]
          clear h0;have HRZ:=lh hrz;clear hrz
          go_wp2_with (first
           |(go_at_call 100;refine (HE.out _).mono ?_;rintro e w1 ⟨rfl,hb1⟩;have HB1:=lh (hbl.trans (hb1.mono hbl.size));have HR1:=lh (ki hrow hb1);clear hb1)
           |(at_builtin;refine Hid.out ?_))
          refine lh ?_;refine wpList_append_own _ rfl _ _ 107 rfl w.heap.size 111 i0 (.agg #[.string ⟨#[]⟩,.int .i64 0]) 2 24 Tryz.underlying107 hi iz0 iz1 iz2 rfl (by decide) (.slice ia m cp) m (flatP (pre.map (·.1))) rfl (HR1.out.alloc _) ⟨_,0,none⟩ 1 1 [.string ⟨#[]⟩,.int .i64 (ek:Nat)] rfl rfl (zw _ _ _ _ _ rfl) (by simp [Value.oneCell']) (by omega) (by omega) (by have:=HB1.out.size;simp;omega) ?_;intro v' w6 hown' hgrow hnil';obtain ⟨g',cap',rfl⟩:=ownsRow_succ hown';have HB6:=lh (yj (HR1.out.alloc _) hgrow (HB1.out.alloc HB1.out.size _) (Nat.le_refl _) (by have:=HB1.out.size;simp;omega));have HW6:=lh hown';clear hown' hgrow hnil';go_wp2;go_roundw
          case measure=>have:=HSZ.out;simp only [strSz];omega
          case rel=>exact ⟨pre++[(x,true)],a+n,_,m+1,_,(by first|rfl|rw [HRE.out]),rfl,(by have hm2:=HM.out;simp [hm2]),(by have:=HW6.out;simp only [List.map_append,List.map_cons,List.map_nil,Yx,HFX.out];exact this),(by rw [HX.out,HPN.out];simp),(by simp [HAL.out]),(by simp;omega),(by omega),HB6.out⟩
        · have km:((m:Int)==0)=false:=by simp;omega
          have HRZ:=lh hrz;clear hrz
          go_wp2_with (first
           |(go_at_call 100;refine (HE.out _).mono ?_;rintro e w1 ⟨rfl,hb1⟩;have HB1:=lh (hbl.trans (hb1.mono hbl.size));have HR1:=lh (ki hrow hb1);clear hb1)
           |(at_builtin;refine Hid.out ?_))
          refine lh ?_;refine wpList_append_own _ rfl _ _ 107 rfl w.heap.size 111 i0 (.agg #[.string ⟨#[]⟩,.int .i64 0]) 2 24 Tryz.underlying107 hi iz0 iz1 iz2 rfl (by decide) (.slice ia m cp) m (flatP (pre.map (·.1))) rfl (HR1.out.alloc _) ⟨_,0,none⟩ 1 1 [.string ⟨#[]⟩,.int .i64 (ek:Nat)] rfl rfl (zw _ _ _ _ _ rfl) (by simp [Value.oneCell']) (by omega) (by omega) (by have:=HB1.out.size;simp;omega) ?_;intro v' w6 hown' hgrow hnil';obtain ⟨g',cap',rfl⟩:=ownsRow_succ hown';have HB6:=lh (yj (HR1.out.alloc _) hgrow (HB1.out.alloc HB1.out.size _) (Nat.le_refl _) (by have:=HB1.out.size;simp;omega));have HW6:=lh hown';clear hown' hgrow hnil';go_wp2;go_roundw
          case measure=>have:=HSZ.out;simp only [strSz];omega
          case rel=>exact ⟨pre++[(x,true)],a+n,_,m+1,_,(by first|rfl|rw [HRE.out]),rfl,(by have hm2:=HM.out;simp [hm2]),(by have:=HW6.out;simp only [List.map_append,List.map_cons,List.map_nil,Yx,HFX.out];exact this),(by rw [HX.out,HPN.out];simp),(by simp [HAL.out]),(by simp;omega),(by omega),HB6.out⟩
    · rw [if_neg hek] at HE
      have h2:rpieceS r (!(a==0))=if (!(a==0))&&decide (charAt r 0≠46) then none else if leadN (if (!(a==0)) then r.extract 1 r.size else r)=0 then none else some (⟨false,0,(if (!(a==0)) then r.extract 1 r.size else r).extract 0 (leadN (if (!(a==0)) then r.extract 1 r.size else r))⟩,(if (!(a==0)) then r.extract 1 r.size else r).extract (leadN (if (!(a==0)) then r.extract 1 r.size else r)) (if (!(a==0)) then r.extract 1 r.size else r).size):=by unfold rpieceS;rw [if_neg hek]
      rw [h2] at hl
      by_cases ha0:a=0
      · have hm0:=hnz2.2 ha0
        have ez:(!(a==0))=false:=by simp [ha0]
        rw [ez] at hl;simp only [Bool.false_and,Bool.false_eq_true,if_false] at hl
        have km:((m:Int)==0)=true:=by simp [hm0]
        have kgt:¬0<m:=by omega
        have HL:=lh (fun wx=>Y6 r (by omega) wx);clear hm0 ez
        by_cases hk:leadN r=0
        · rw [if_pos hk] at hl
          have hn:n=0:=by
           by_cases h:n=0
           · exact h
           · rw [if_neg h] at hl;cases hl
          have HF:=lh (hbad x hlt (by rw [hn] at hxn;exact hxn));rw [hk] at HL;clear hl h2 hlead hbad hnx hend hemp hxn hszn hn ha0 hk hek hnz2 hpl;have HRZ:=lh hrz;clear hrz
          go_wp2_with (first
           |(go_at_call 100;refine (HE.out _).mono ?_;rintro e w1 ⟨rfl,hb1⟩;have HB1:=lh (hbl.trans (hb1.mono hbl.size));have HR1:=lh (ki hrow hb1);clear hb1)
           |(go_at_call 101;refine (HL.out _).mono ?_;rintro e w2 ⟨rfl,hw2⟩;have hw3:=hw2;subst hw3))
          go_ret2
          exact ⟨_,(by rw [HF.out];rfl),(fun h=>by rw [HF.out] at h;cases h),HB1.out⟩
        · rw [if_neg hk] at hl
          have hn:n≠0:=fun h=>by rw [if_pos h] at hl;cases hl
          rw [if_neg hn] at hl;obtain ⟨hx1,hx2⟩:=Prod.mk.inj (Option.some.inj hl);have HPN:=lh (hnx x n hlt hxn hn);have HSZ:=lh (hszn hn);obtain ⟨k,hkk⟩:∃ k,leadN r=k:=⟨_,rfl⟩;have hkl:=X7 r;rw [hkk] at HL hx1 hx2 hkl hk;have HRE:=lh hx2;have HFX:=lh (show [Value.string x.name,Value.int .i64 x.n]=[.string (r.extract 0 k),.int .i64 0] by rw [←hx1])
          have hq0:((k:Int)==0)=false:=by simp;omega
          clear hl h2 hlead hbad hnx hend hemp hxn hszn hx1 hx2 hkk hek hk ha0 hnz2;have hsh:∀ wx,(Instr.slice 9 (.string r) none (some (.int .i64 (k:Nat))) none).run Tryz.prog wx=.ok (.string (r.extract 0 k)) wx:=fun wx=>run_slice_string_h wx 9 r Tryz.underlying9 .i64 (k:Nat) (by omega) (by omega);have hsr:∀ wx,(Instr.slice 9 (.string r) (some (.int .i64 (k:Nat))) none none).run Tryz.prog wx=.ok (.string (r.extract k r.size)) wx:=fun wx=>run_slice_string_l wx 9 r Tryz.underlying9 .i64 (k:Nat) (by omega) (by omega);have HRZ:=lh hrz;clear hrz
          go_wp2_with (first
           |(go_at_call 100;refine (HE.out _).mono ?_;rintro e w1 ⟨rfl,hb1⟩;have HB1:=lh (hbl.trans (hb1.mono hbl.size));have HR1:=lh (ki hrow hb1);clear hb1)
           |(go_at_call 101;refine (HL.out _).mono ?_;rintro e w2 ⟨rfl,hw2⟩;have hw3:=hw2;subst hw3)
           |(at_builtin;refine Hid.out ?_))
          refine lh ?_;refine wpList_append_own _ rfl _ _ 107 rfl w.heap.size 111 i0 (.agg #[.string ⟨#[]⟩,.int .i64 0]) 2 24 Tryz.underlying107 hi iz0 iz1 iz2 rfl (by decide) (.slice ia m cp) m (flatP (pre.map (·.1))) rfl (HR1.out.alloc _) ⟨_,0,none⟩ 1 1 [.string (r.extract 0 k),.int .i64 0] rfl rfl (zw _ _ _ _ _ rfl) (by simp [Value.oneCell']) (by omega) (by omega) (by have:=HB1.out.size;simp;omega) ?_;intro v' w6 hown' hgrow hnil';obtain ⟨g',cap',rfl⟩:=ownsRow_succ hown';have HB6:=lh (yj (HR1.out.alloc _) hgrow (HB1.out.alloc HB1.out.size _) (Nat.le_refl _) (by have:=HB1.out.size;simp;omega));have HW6:=lh hown';clear hown' hgrow hnil';go_wp2;go_roundw
          case measure=>have:=HSZ.out;simp only [strSz];rw [HRE.out];omega
          case rel=>exact ⟨pre++[(x,true)],a+n,_,m+1,_,(by rw [HRE.out]),rfl,(by have hm2:=HM.out;simp [hm2]),(by have:=HW6.out;simp only [List.map_append,List.map_cons,List.map_nil,Yx,HFX.out];exact this),(by rw [HX.out,HPN.out];simp),(by simp [HAL.out]),(by simp;omega),(by omega),HB6.out⟩
      · have hm0:0<m:=by omega
        have ez:(!(a==0))=true:=by simp [ha0]
        rw [ez] at hl;simp only [Bool.true_and,if_true] at hl
        have km:((m:Int)==0)=false:=by simp;omega
        have hg:=ya r 0 hr0
        by_cases h46:charAt r 0=46
        · have k46:(((r[0]'hr0).toNat:Int) !=46)=false:=by rw [←hg,h46];rfl
          rw [if_neg (by simp [h46])] at hl;have hsl:∀ wx,(Instr.slice 9 (.string r) (some (.int .i64 1)) none none).run Tryz.prog wx=.ok (.string (r.extract 1 r.size)) wx:=fun wx=>run_slice_string_l wx 9 r Tryz.underlying9 .i64 1 (by omega) (by omega)
          have hrz2:(r.extract 1 r.size).size≤1000000:=by simp;omega
          obtain ⟨r2,hr2⟩:∃ r2,r.extract 1 r.size=r2:=⟨_,rfl⟩;rw [hr2] at hl hsl hrz2;have HL:=lh (fun wx=>Y6 r2 (by omega) wx);clear hg h46 ez
          by_cases hk:leadN r2=0
          · rw [if_pos hk] at hl
            have hn:n=0:=by
             by_cases h:n=0
             · exact h
             · rw [if_neg h] at hl;cases hl
            have HF:=lh (hbad x hlt (by rw [hn] at hxn;exact hxn));rw [hk] at HL;clear hl h2 hlead hbad hnx hend hemp hxn hszn hn ha0 hk hek hnz2 hpl;have HRZ:=lh hrz;clear hrz
            go_wp2_with (first
             |(go_at_call 100;refine (HE.out _).mono ?_;rintro e w1 ⟨rfl,hb1⟩;have HB1:=lh (hbl.trans (hb1.mono hbl.size));have HR1:=lh (ki hrow hb1);clear hb1)
             |(go_at_call 101;refine (HL.out _).mono ?_;rintro e w2 ⟨rfl,hw2⟩;have hw3:=hw2;subst hw3))
            go_ret2
            exact ⟨_,(by rw [HF.out];rfl),(fun h=>by rw [HF.out] at h;cases h),HB1.out⟩
          · rw [if_neg hk] at hl
            have hn:n≠0:=fun h=>by rw [if_pos h] at hl;cases hl
            rw [if_neg hn] at hl;obtain ⟨hx1,hx2⟩:=Prod.mk.inj (Option.some.inj hl);have HPN:=lh (hnx x n hlt hxn hn);have HSZ:=lh (hszn hn);obtain ⟨k,hkk⟩:∃ k,leadN r2=k:=⟨_,rfl⟩;have hkl:=X7 r2;rw [hkk] at HL hx1 hx2 hkl hk;have HRE:=lh hx2;have HFX:=lh (show [Value.string x.name,Value.int .i64 x.n]=[.string (r2.extract 0 k),.int .i64 0] by rw [←hx1])
            have hq0:((k:Int)==0)=false:=by simp;omega
            clear hl h2 hlead hbad hnx hend hemp hxn hszn hx1 hx2 hkk hek hk ha0 hnz2;have hsh:∀ wx,(Instr.slice 9 (.string r2) none (some (.int .i64 (k:Nat))) none).run Tryz.prog wx=.ok (.string (r2.extract 0 k)) wx:=fun wx=>run_slice_string_h wx 9 r2 Tryz.underlying9 .i64 (k:Nat) (by omega) (by omega);have hsr:∀ wx,(Instr.slice 9 (.string r2) (some (.int .i64 (k:Nat))) none none).run Tryz.prog wx=.ok (.string (r2.extract k r2.size)) wx:=fun wx=>run_slice_string_l wx 9 r2 Tryz.underlying9 .i64 (k:Nat) (by omega) (by omega);have HRZ:=lh hrz;clear hrz
            go_wp2_with (first
             |(go_at_call 100;refine (HE.out _).mono ?_;rintro e w1 ⟨rfl,hb1⟩;have HB1:=lh (hbl.trans (hb1.mono hbl.size));have HR1:=lh (ki hrow hb1);clear hb1)
             |(go_at_call 101;refine (HL.out _).mono ?_;rintro e w2 ⟨rfl,hw2⟩;have hw3:=hw2;subst hw3)
             |(at_builtin;refine Hid.out ?_))
            refine lh ?_;refine wpList_append_own _ rfl _ _ 107 rfl w.heap.size 111 i0 (.agg #[.string ⟨#[]⟩,.int .i64 0]) 2 24 Tryz.underlying107 hi iz0 iz1 iz2 rfl (by decide) (.slice ia m cp) m (flatP (pre.map (·.1))) rfl (HR1.out.alloc _) ⟨_,0,none⟩ 1 1 [.string (r2.extract 0 k),.int .i64 0] rfl rfl (zw _ _ _ _ _ rfl) (by simp [Value.oneCell']) (by omega) (by omega) (by have:=HB1.out.size;simp;omega) ?_;intro v' w6 hown' hgrow hnil';obtain ⟨g',cap',rfl⟩:=ownsRow_succ hown';have HB6:=lh (yj (HR1.out.alloc _) hgrow (HB1.out.alloc HB1.out.size _) (Nat.le_refl _) (by have:=HB1.out.size;simp;omega));have HW6:=lh hown';clear hown' hgrow hnil';go_wp2;go_roundw
            case measure=>have:=HSZ.out;simp only [strSz];rw [HRE.out];omega
            case rel=>exact ⟨pre++[(x,true)],a+n,_,m+1,_,(by rw [HRE.out]),rfl,(by have hm2:=HM.out;simp [hm2]),(by have:=HW6.out;simp only [List.map_append,List.map_cons,List.map_nil,Yx,HFX.out];exact this),(by rw [HX.out,HPN.out];simp),(by simp [HAL.out]),(by simp;omega),(by omega),HB6.out⟩
        · have k46:(((r[0]'hr0).toNat:Int) !=46)=true:=by rw [←hg];simp;omega
          rw [if_pos (by simp [h46])] at hl
          have hn:n=0:=by
           by_cases h:n=0
           · exact h
           · rw [if_neg h] at hl;cases hl
          have HF:=lh (hbad x hlt (by rw [hn] at hxn;exact hxn));clear hl h2 hlead hbad hnx hend hemp hxn hszn hn ha0 hek hnz2 hpl hg h46 ez;have HRZ:=lh hrz;clear hrz
          go_wp2_with (first
           |(go_at_call 100;refine (HE.out _).mono ?_;rintro e w1 ⟨rfl,hb1⟩;have HB1:=lh (hbl.trans (hb1.mono hbl.size));have HR1:=lh (ki hrow hb1);clear hb1))
          go_ret2
          exact ⟨_,(by rw [HF.out];rfl),(fun h=>by rw [HF.out] at h;cases h),HB1.out⟩
  · have hre:r.toList.isEmpty=true:=by rw [Yj];exact beq_iff_eq.2 (by omega)
    by_cases hm0:m=0
    · have km:((m:Int)==0)=true:=by simp [hm0]
      have kgt:¬0<m:=by omega
      have HF:=lh (hemp hlt hm0)
      have h91:charAt r 0≠91:=by
       unfold charAt
       have:r.data.toList=[]:=by
        rw [←List.length_eq_zero_iff]
        have h8:r.data.toList.length=r.size:=by simp
        omega
       rw [this]
       decide
      rw [ji9 h91,if_neg (by omega)] at HE;have HL:=lh (fun wx=>Y6 r (by omega) wx);rw [show leadN r=0 by have:=X7 r;omega] at HL;clear hlead hbad hnx hend hemp hm0 hnz2 hpl h91;have HRZ:=lh hrz;clear hrz
      go_wp2_with (first
       |(go_at_call 100;refine (HE.out _).mono ?_;rintro e w1 ⟨rfl,hb1⟩;have HB1:=lh (hbl.trans (hb1.mono hbl.size));have HR1:=lh (ki hrow hb1);clear hb1)
       |(go_at_call 101;refine (HL.out _).mono ?_;rintro e w2 ⟨rfl,hw2⟩;have hw3:=hw2;subst hw3))
      go_ret2
      exact ⟨_,(by rw [HF.out];rfl),(fun h=>by rw [HF.out] at h;cases h),HB1.out⟩
    · have km:((m:Int)==0)=false:=by simp;omega
      obtain ⟨hf,hpe⟩:=hend hlt hm0;have HF:=lh hf;have HPE:=lh hpe;have HROW:=lh hrow;clear hlead hbad hnx hend hemp hf hpe hm0 hnz2 hpl hrow;go_wp2
      go_ret2
      exact ⟨_,(by rw [HF.out];rfl),(fun _=>by rw [HPE.out,HM.out];exact HROW.out),hbl⟩
def PieceOk (x:PieceV):Prop:=(x.elem=true∧x.name=⟨#[]⟩∧0≤x.n)∨(x.elem=false∧0<x.name.size∧x.n=0)
theorem jtg {r:ByteArray} {f:Bool} {x:PieceV} {n:Nat} (h:leadP r f=(x,n)) (hn:n≠0):PieceOk x:=by
 have hi:∀ d:ByteArray,itemP r d=(x,n)→PieceOk x:=fun d h=>by
  unfold itemP at h
  split at h
  · rename_i hc;obtain ⟨h1,h2⟩:=Prod.mk.inj h;simp only [Bool.and_eq_true,decide_eq_true_eq] at hc;have hle:=X7 (itemR r d);exact .inr (by rw [←h1];refine ⟨rfl,?_,rfl⟩;simp;omega)
  · obtain ⟨h1,h2⟩:=Prod.mk.inj h;omega
 unfold leadP at h
 split at h
 · unfold elemP at h
   split at h
   · obtain ⟨h1,h2⟩:=Prod.mk.inj h;omega
   · split at h
     · rename_i hok;obtain ⟨m,hm,hd,hv⟩:=jl4 hok;obtain ⟨h1,h2⟩:=Prod.mk.inj h;exact .inl (by rw [←h1];exact ⟨rfl,rfl,by rw [hv];show (0:Int)≤((m:Nat):Int);omega⟩)
     · obtain ⟨h1,h2⟩:=Prod.mk.inj h;omega
 · split at h
   · exact hi _ h
   · exact hi _ h
theorem jcu (s:ByteArray):∀ (f a:Nat) (x:PieceV),(x,true)∈piecesF s f a→PieceOk x
 |0,a,x,h=>by simp [piecesF] at h
 |f+1,a,x,h=>by
  simp only [piecesF] at h
  split at h
  · rcases List.mem_cons.1 h with h|h
    · obtain ⟨h1,h2⟩:=Prod.mk.inj h
      exact jtg (r:=s.extract a s.size) (f:=a==0) (n:=(leadP (s.extract a s.size) (a==0)).2) (by rw [h1]) (by
       have:=of_decide_eq_true h2.symm
       omega)
    · split at h
      · cases h
      · exact jcu s f _ x h
  · cases h
theorem jcj {L:Nat→TypeV} {len u:Nat} {s:ByteArray} (h:0≤itemL L len (u:Nat) s):itemL L len (u:Nat) s<((L u).ilen:Nat):=by
 unfold itemL at h ⊢
 split at h
 · rename_i hc;rw [if_pos hc];rw [Int.toNat_natCast] at h ⊢;unfold itemZ at h ⊢
   split at h
   · rename_i hn;rw [if_pos hn]
     rcases ky (fun j=>((L u).items j).name.toList==s.toList) (L u).ilen with ⟨k,hk,e,_⟩|⟨e,_⟩
     · rw [e];omega
     · rw [e] at h;omega
   · omega
 · omega
theorem Y4 (s:ByteArray):∀ (f a:Nat),(piecesF s f a).length≤f
 |0,a=>by simp [piecesF]
 |f+1,a=>by
  simp only [piecesF]
  split
  · split
    · simp
    · have:=Y4 s f (a+(leadP (s.extract a s.size) (a==0)).2)
      simp;omega
  · simp
theorem jb4 {w:World} {base n:Nat} {e:TypeId} {v:Value} {xs:List Value} (h:w.ownsRow base e 2 v n xs):∃ ia cp,v=.slice ia n cp∧∀ j u,xs[j]?=some u→∃ g,ia=some ⟨g,0,none⟩∧w.cell? ⟨g,j,none⟩=some u:=by
 rcases h.2 with ⟨rfl,h0⟩|⟨g,cap,cur,rfl,h1,h2,h3,h4,h5,h6⟩
 · refine ⟨none,0,by rw [h0],fun j u hj=>?_⟩
   have:xs=[]:=by rw [←List.length_eq_zero_iff,h.1,h0]
   rw [this] at hj;simp at hj
 · refine ⟨_,_,rfl,fun j u hj=>⟨g,rfl,?_⟩⟩
   have:=h.cells (g:=g) rfl j u hj
   simp only [Addr.add] at this
   split at this
   · rename_i h0
     have h0':j=0:=by simpa using h0
     subst h0';exact this
   · simpa using this
theorem jol {s:ByteArray} (h:formS s=true):∀ x,x∈piecesS s 0→PieceOk x.1:=by
 intro x hx;unfold formS at h;simp only [Bool.and_eq_true,List.all_eq_true] at h;have h2:=h.1 x hx;obtain ⟨y,b⟩:=x;simp only at h2;subst h2;exact jcu s _ _ y hx
theorem jfc:∀ (l:List PieceV) (j:Nat) (x:PieceV),l[j]?=some x→(flatP l)[j*2]?=some (.string x.name)∧(flatP l)[j*2+1]?=some (.int .i64 x.n)
 | [],j,x,h=>by simp at h
 |y::l,0,x,h=>by simp at h;subst h;exact ⟨rfl,rfl⟩
 |y::l,j+1,x,h=>by
  have:=jfc l j x (by simpa using h)
  simp only [flatP];rw [show (j+1)*2=j*2+1+1 by omega]
  simpa using this
theorem jbu (ao:Option Addr) (len cap:Nat) (L:Nat→TypeV) (hlen:len≤1000000) (t:Int) (s:ByteArray) (hs:s.size≤1000000) (w:World) (H:∀ i,i<len→TypeAt w ao i (L i)):
  Calls Tryz.prog 31 #[.slice ao len cap,.int .i64 t,.string s] w (FindTo (findA L len t s) w):=by
 obtain ⟨i0,hi,iz0,iz1,iz2⟩:=info_parts infoStep
 have hmx:(1000001:Nat)≤maxLen:=by decide
 have HK:=lh (jia ao len cap L t hlen w H);have HP:=lh (fun wx=>je3 s hs wx);have HH:=lh H;have hfa:findA L len t s=if hasT L len t then (if formS s then findG L len (piecesS s 0) t.toNat [] else ⟨[],0,1⟩) else ⟨[],0,8⟩:=rfl;clear H
 cases hT:hasT L len t with
 |false=>
  rw [hT] at HK hfa;rw [hfa];go_enter Tryz.func31,Tryz.ntmps31;go_wp2_with (go_at_call 57;refine HK.out.mono ?_;rintro e w1 ⟨rfl,hb⟩)
  go_ret3
  exact ⟨_,rfl,World.ownsRow_nil _ _ _ _,hb⟩
 |true=>
  rw [hT] at HK hfa;obtain ⟨k0,rfl,hk,hok⟩:=Yc hT;have hv:=Z9 hok;rw [if_pos rfl,Int.toNat_natCast] at hfa
  cases hF:formS s with
  |false=>
   rw [hF] at hfa;rw [hfa];go_enter Tryz.func31,Tryz.ntmps31
   go_wp2_with (first
    |(go_at_call 57;refine HK.out.mono ?_;rintro e w1 ⟨rfl,hb⟩)
    |(go_at_call 58;refine (HP.out _).mono ?_;rintro e w2 ⟨v2,rfl,-,hb2⟩;rw [hF]))
   go_ret3
   exact ⟨_,rfl,World.ownsRow_nil _ _ _ _,hb.trans (hb2.mono hb.size)⟩
  |true=>
   rw [hF,if_pos rfl] at hfa;rw [hfa];have HOK:=lh (jol hF);have hpl:(piecesS s 0).length≤1000000:=Nat.le_trans (Y4 s _ _) (by omega);obtain ⟨xs,hxs⟩:∃ xs,piecesS s 0=xs:=⟨_,rfl⟩;rw [hxs] at HOK hpl ⊢;clear hfa;go_enter Tryz.func31,Tryz.ntmps31
   go_wp2_with (first
    |(go_at_call 57;refine HK.out.mono ?_;rintro e w1 ⟨rfl,hb⟩)
    |(go_at_call 58;refine (HP.out _).mono ?_;rintro e w2 ⟨v2,rfl,hown2,hb2⟩;rw [hF];have ho2:=hown2 hF;rw [hxs] at ho2;obtain ⟨ia2,c2,rfl,hcl2⟩:=jb4 ho2))
   have HB2:=lh (hb.trans (hb2.mono hb.size));have HC2:=lh hcl2;obtain ⟨N,hN⟩:∃ N,xs.length=N:=⟨_,rfl⟩;rw [hN] at hpl ⊢;have HN:=lh hN;clear hcl2 ho2 hown2 hb2 hb hN
   go_loopw [1,11,12] (fun p q c wr=>∃ (k u cp:Nat) (ia:Option Addr) (st:List StepV),p=.int .i64 (u:Nat)∧q=.slice ia k cp∧c=.int .i64 (k:Nat)∧k≤N∧u<len∧k=st.length∧wr.ownsRow w2.heap.size 113 2 (.slice ia k cp) k (flatS st)∧findG L len xs k0 []=findG L len (xs.drop k) u st∧Below w2.heap.size w2 wr)
    (fun _ _ c _=>N - (intOf c).toNat)
   case atStart=>exact ⟨0,k0,0,none,[],rfl,rfl,rfl,by omega,hk,rfl,World.ownsRow_nil _ _ _ _,rfl,Below.refl _ _⟩
   case round=>
    obtain ⟨k,u,cp,ia,st,rfl,rfl,rfl,hkn,hu,hm,hrow,hfg,hbl⟩:=hrel
    by_cases hlt:k<N
    · have hlx:k<xs.length:=by rw [HN.out];exact hlt
      obtain ⟨x,hx⟩:∃ x,xs[k]=x:=⟨_,rfl⟩
      have hxm:x∈xs:=by rw [←hx];exact List.getElem_mem hlx
      have hpo:=HOK.out x hxm;obtain ⟨⟨be,nn,nm⟩,xb⟩:=x;simp only at hpo;rw [List.drop_eq_getElem_cons hlx,hx] at hfg
      have hgx:(xs.map (·.1))[k]?=some ⟨be,nn,nm⟩:=by rw [List.getElem?_map,List.getElem?_eq_getElem hlx,hx];rfl
      obtain ⟨hf1,hf2⟩:=jfc _ k _ hgx;obtain ⟨g2,rfl,y0⟩:=HC2.out _ _ hf1;obtain ⟨g3,hg3,y1⟩:=HC2.out _ _ hf2
      obtain rfl:g2=g3:=by injection hg3 with h;injection h
      have z0:=jk hbl y0;have z1:=jk hbl y1;have hgl:g2<wr.heap.size:=World.block_lt_of_cell? wr _ z0
      have hgn:¬g2=wr.heap.size:=by omega
      have hgm:g2<w2.heap.size:=World.block_lt_of_cell? w2 _ y0;have hbw:Below w.heap.size w wr:=HB2.out.trans (hbl.mono HB2.out.size);obtain ⟨tb,tf,rfl,x0,x1,x2,x3,x4,x5,wf,hit⟩:=hold HH.out hbw u hu;have htl:tb<wr.heap.size:=World.block_lt_of_cell? wr _ x0
      have htn:¬tb=wr.heap.size:=by omega
      obtain ⟨T,hTT⟩:∃ T,L u=T:=⟨_,rfl⟩;have hnp:=fun sv=>yq (s:=sv) hv hu;have hil:=jcj (L:=L) (len:=len) (u:=u) (s:=nm);have HITW:=lh (show ItemsAt w T by rw [←hTT];obtain ⟨_,_,_,_,_,_,_,_,_,_,h⟩:=HH.out u hu;exact h);rw [hTT] at hil
      have hfg2:findG L len xs k0 []=if pstE L len u ⟨be,nn,nm⟩=0 then findG L len (xs.drop (k+1)) (nextN L u (pstS L len u ⟨be,nn,nm⟩)) (st++[pstS L len u ⟨be,nn,nm⟩]) else ⟨[],0,pstE L len u ⟨be,nn,nm⟩⟩:=by rw [hfg];rfl
      unfold nextN at hnp hfg2
      have hpe:pstE L len u ⟨be,nn,nm⟩=if be then (if elK T.kind then (if T.bound≤nn then 7 else 0) else 4) else (if itK T.kind then (if itemL L len (u:Nat) nm<0 then 5 else 0) else 4):=by unfold pstE;rw [hTT]
      have hps:pstS L len u ⟨be,nn,nm⟩=if pstE L len u ⟨be,nn,nm⟩=0 then (if be then ⟨true,nn⟩ else ⟨false,itemL L len (u:Nat) nm⟩) else ⟨false,0⟩:=rfl;rw [hTT] at x0 x1 x2 x3 x4 x5 hit hnp hfg2;have HRW:=lh hrow;have HBL:=lh hbl;have HM:=lh hm;have hbs:=hbl.size;have hws:=HB2.out.size
      have hd:decide ((k:Int)<N)=true:=by simp;omega
      have HBX:=lh (hbw.alloc hbw.size (.cells #[.int .i64 T.kind,.string T.name,.int .i64 T.bound,.int .i64 T.of,.int .i64 T.tag,.slice T.ia T.ilen T.icap] 58));have HIT:=lh (fun wx (hb:Below w.heap.size w wx)=>jbz (some ⟨tb,tf,none⟩) len cap L (u:Nat) nm (by omega) wx (hold HH.out hb));obtain ⟨q11,h11⟩:∃ q,(T.kind==11)=q:=⟨_,rfl⟩;obtain ⟨q12,h12⟩:∃ q,(T.kind==12)=q:=⟨_,rfl⟩;obtain ⟨q13,h13⟩:∃ q,(T.kind==13)=q:=⟨_,rfl⟩;obtain ⟨q14,h14⟩:∃ q,(T.kind==14)=q:=⟨_,rfl⟩
      have n11:(T.kind !=11)=!q11:=by rw [←h11];rfl
      have n12:(T.kind !=12)=!q12:=by rw [←h12];rfl
      have n13:(T.kind !=13)=!q13:=by rw [←h13];rfl
      have n14:(T.kind !=14)=!q14:=by rw [←h14];rfl
      have he1:elK T.kind=(q11||q12):=by unfold elK;rw [h11,h12]
      have hi1:itK T.kind=(q13||q14):=by unfold itK;rw [h13,h14]
      rw [he1,hi1] at hpe;clear hm hrow hbl hgx hf1 hf2 hfg hx hxm hlx y0 y1 wf hTT h11 h12 h13 h14
      rcases hpo with ⟨rfl,rfl,hn0⟩|⟨rfl,hnz,rfl⟩
      · rw [if_pos rfl] at hpe
        by_cases hq:(q11||q12)=true
        · rw [if_pos hq] at hpe
          by_cases hbd:T.bound≤nn
          · have kb:decide (T.bound≤nn)=true:=decide_eq_true hbd;rw [if_pos hbd] at hpe;rw [hpe,if_neg (by decide)] at hfg2;have HFG:=lh hfg2;clear hfg2 hps hpe he1 hi1 hnp
            cases q11
            · obtain rfl:q12=true:=by simpa using hq
              go_wp2
              go_quiet (fail)
              go_wp2
              go_ret3
              rw [HFG.out];exact ⟨_,rfl,World.ownsRow_nil _ _ _ _,jf HBX.out _⟩
            · go_wp2
              go_quiet (fail)
              go_wp2
              go_ret3
              rw [HFG.out];exact ⟨_,rfl,World.ownsRow_nil _ _ _ _,jf HBX.out _⟩
          · have kb:decide (T.bound≤nn)=false:=decide_eq_false hbd;rw [if_neg hbd] at hpe;rw [hpe,if_pos rfl] at hps;rw [if_pos rfl] at hps;rw [hpe,if_pos rfl,hps] at hfg2
            have hnb:nextZ T ⟨true,nn⟩=T.of:=by
             have h1:nextB T ⟨true,nn⟩=true:=by
              unfold nextB;simp only [if_true];rw [he1,hq,decide_eq_true hn0,decide_eq_true (by omega:nn<T.bound)]
              rfl
             unfold nextZ;rw [if_pos h1]
             rfl
            have hp1:=hnp ⟨true,nn⟩;rw [hnb] at hp1 hfg2;obtain ⟨u2,hu2⟩:=Int.eq_ofNat_of_zero_le hp1.1;have HU2:=lh (show u2<len by have:=hp1.2;omega);have HUV:=lh hu2;rw [hu2,Int.toNat_natCast] at hfg2;have HFG:=lh hfg2;clear hfg2 hps hpe he1 hi1 hnp hp1 hnb hu2
            cases q11
            · obtain rfl:q12=true:=by simpa using hq
              go_wp2
              go_quiet (fail)
              go_wp2_with (at_builtin;refine Hid.out ?_);refine lh ?_;refine wpList_append_own _ rfl _ _ 70 rfl w2.heap.size 113 i0 (.agg #[.bool false,.int .i64 0]) 2 16 Tryz.underlying70 hi iz0 iz1 iz2 rfl (by decide) (.slice ia k cp) k (flatS st) rfl ((ki (HRW.out.alloc _) (jf (Below.refl _ _) _)).alloc _) ⟨_,0,none⟩ 1 1 [.bool true,.int .i64 nn] rfl rfl (zw _ _ _ _ _ (by simp)) (by simp [Value.oneCell']) (by omega) (by omega) (by simp;omega) ?_;intro v' w6 hown' hgrow hnil';obtain ⟨g',cap',rfl⟩:=ownsRow_succ hown';have hT6:w6.heap[wr.heap.size]?=some (.cells #[.int .i64 T.kind,.string T.name,.int .i64 T.bound,.int .i64 T.of,.int .i64 T.tag,.slice T.ia T.ilen T.icap] 58):=(hgrow.block _ (by simp;omega) (fun e=>by have:=(HRW.out.lt _ e.symm).2;omega)).trans (jc (jc (jd wr (.cells #[.int .i64 T.kind,.string T.name,.int .i64 T.bound,.int .i64 T.of,.int .i64 T.tag,.slice T.ia T.ilen T.icap] 58)) (jf (Below.refl _ _) _)) ((Below.refl _ _).alloc (Nat.le_refl _) _));have hB6:Below w2.heap.size w2 w6:=yj ((ki (HRW.out.alloc _) (jf (Below.refl _ _) _)).alloc _) hgrow ((jf (HBL.out.alloc HBL.out.size (.cells #[.int .i64 T.kind,.string T.name,.int .i64 T.bound,.int .i64 T.of,.int .i64 T.tag,.slice T.ia T.ilen T.icap] 58)) _).alloc (by simp;omega) _) (Nat.le_refl _) (by simp;omega);have HB6:=lh hB6;have HW6:=lh hown';have t3:=ja (j:=3) (v:=.int .i64 T.of) hT6 rfl;have t5:=ja (j:=5) (v:=.slice T.ia T.ilen T.icap) hT6 rfl;clear hown' hgrow hnil' hT6;go_wp2;go_roundw
              case measure=>simp [intOf];omega
              case rel=>exact ⟨k+1,u2,_,_,st++[⟨true,nn⟩],(by rw [HUV.out]),rfl,by go_num,by omega,HU2.out,by simp [←HM.out],by rw [Xd];exact HW6.out,HFG.out,HB6.out⟩
            · go_wp2
              go_quiet (fail)
              go_wp2_with (at_builtin;refine Hid.out ?_);refine lh ?_;refine wpList_append_own _ rfl _ _ 70 rfl w2.heap.size 113 i0 (.agg #[.bool false,.int .i64 0]) 2 16 Tryz.underlying70 hi iz0 iz1 iz2 rfl (by decide) (.slice ia k cp) k (flatS st) rfl ((ki (HRW.out.alloc _) (jf (Below.refl _ _) _)).alloc _) ⟨_,0,none⟩ 1 1 [.bool true,.int .i64 nn] rfl rfl (zw _ _ _ _ _ (by simp)) (by simp [Value.oneCell']) (by omega) (by omega) (by simp;omega) ?_;intro v' w6 hown' hgrow hnil';obtain ⟨g',cap',rfl⟩:=ownsRow_succ hown';have hT6:w6.heap[wr.heap.size]?=some (.cells #[.int .i64 T.kind,.string T.name,.int .i64 T.bound,.int .i64 T.of,.int .i64 T.tag,.slice T.ia T.ilen T.icap] 58):=(hgrow.block _ (by simp;omega) (fun e=>by have:=(HRW.out.lt _ e.symm).2;omega)).trans (jc (jc (jd wr (.cells #[.int .i64 T.kind,.string T.name,.int .i64 T.bound,.int .i64 T.of,.int .i64 T.tag,.slice T.ia T.ilen T.icap] 58)) (jf (Below.refl _ _) _)) ((Below.refl _ _).alloc (Nat.le_refl _) _));have hB6:Below w2.heap.size w2 w6:=yj ((ki (HRW.out.alloc _) (jf (Below.refl _ _) _)).alloc _) hgrow ((jf (HBL.out.alloc HBL.out.size (.cells #[.int .i64 T.kind,.string T.name,.int .i64 T.bound,.int .i64 T.of,.int .i64 T.tag,.slice T.ia T.ilen T.icap] 58)) _).alloc (by simp;omega) _) (Nat.le_refl _) (by simp;omega);have HB6:=lh hB6;have HW6:=lh hown';have t3:=ja (j:=3) (v:=.int .i64 T.of) hT6 rfl;have t5:=ja (j:=5) (v:=.slice T.ia T.ilen T.icap) hT6 rfl;clear hown' hgrow hnil' hT6;go_wp2;go_roundw
              case measure=>simp [intOf];omega
              case rel=>exact ⟨k+1,u2,_,_,st++[⟨true,nn⟩],(by rw [HUV.out]),rfl,by go_num,by omega,HU2.out,by simp [←HM.out],by rw [Xd];exact HW6.out,HFG.out,HB6.out⟩
        · rw [if_neg hq] at hpe;rw [hpe,if_neg (by decide)] at hfg2;have HFG:=lh hfg2
          obtain ⟨rfl,rfl⟩:q11=false∧q12=false:=by simpa using hq
          clear hfg2 hps hpe he1 hi1 hnp hq;go_wp2
          go_ret3
          rw [HFG.out];exact ⟨_,rfl,World.ownsRow_nil _ _ _ _,HBX.out⟩
      · have hnz':0<nm.size:=hnz
        have hne:nm.toList.isEmpty=false:=by rw [Yj];exact beq_eq_false_iff_ne.2 (by omega)
        rw [if_neg (by decide)] at hpe
        by_cases hq:(q13||q14)=true
        · rw [if_pos hq] at hpe;obtain ⟨z,hz⟩:∃ z,itemL L len (u:Nat) nm=z:=⟨_,rfl⟩;rw [hz] at hpe hps HIT hil
          by_cases hz0:z<0
          · rw [if_pos hz0] at hpe;rw [hpe,if_neg (by decide)] at hfg2;have HFG:=lh hfg2;have kz:decide (z<0)=true:=decide_eq_true hz0;clear hfg2 hps hpe he1 hi1 hnp hz hnz
            cases q13
            · obtain rfl:q14=true:=by simpa using hq
              go_wp2_with (go_at_call 56;refine (HIT.out _ HBX.out).mono ?_;rintro e w3 ⟨rfl,hw3⟩;subst hw3)
              go_ret3
              rw [HFG.out];exact ⟨_,rfl,World.ownsRow_nil _ _ _ _,HBX.out⟩
            · go_wp2_with (go_at_call 56;refine (HIT.out _ HBX.out).mono ?_;rintro e w3 ⟨rfl,hw3⟩;subst hw3)
              go_ret3
              rw [HFG.out];exact ⟨_,rfl,World.ownsRow_nil _ _ _ _,HBX.out⟩
          · rw [if_neg hz0] at hpe;have kz:decide (z<0)=false:=decide_eq_false hz0;rw [hpe,if_pos rfl] at hps;rw [if_neg (by decide)] at hps;rw [hpe,if_pos rfl,hps] at hfg2;obtain ⟨j,rfl⟩:=Int.eq_ofNat_of_zero_le (by omega:0≤z)
            have hjl:j<T.ilen:=by have:=hil (by omega);omega
            have hnb:nextZ T ⟨false,(j:Nat)⟩=(T.items j).type:=by
             have h1:nextB T ⟨false,(j:Nat)⟩=true:=by
              unfold nextB;simp only [Bool.false_eq_true,if_false];rw [hi1,hq,decide_eq_true (by omega:(0:Int)≤(j:Nat)),decide_eq_true (by omega:((j:Nat):Int)<(T.ilen:Nat))]
              rfl
             unfold nextZ;rw [if_pos h1];simp
            have hp1:=hnp ⟨false,(j:Nat)⟩;rw [hnb] at hp1 hfg2;obtain ⟨u2,hu2⟩:=Int.eq_ofNat_of_zero_le hp1.1;have HU2:=lh (show u2<len by have:=hp1.2;omega);have HUV:=lh hu2;rw [hu2,Int.toNat_natCast] at hfg2;have HFG:=lh hfg2;obtain ⟨ib,io,hia,y0,y1,y2,y3,y4,wi⟩:=HITW.out.2 j hjl;have HY2:=lh y2;have HIA:=lh hia;clear hfg2 hps hpe he1 hi1 hnp hp1 hnb hu2 hil hz hnz y0 y1 y2 y3 y4 hia
            cases q13
            · obtain rfl:q14=true:=by simpa using hq
              go_wp2_with (first|(go_at_call 56;refine (HIT.out _ HBX.out).mono ?_;rintro e w3 ⟨rfl,hw3⟩;subst hw3)|(at_builtin;refine Hid.out ?_));refine lh ?_;refine wpList_append_own _ rfl _ _ 70 rfl w2.heap.size 113 i0 (.agg #[.bool false,.int .i64 0]) 2 16 Tryz.underlying70 hi iz0 iz1 iz2 rfl (by decide) (.slice ia k cp) k (flatS st) rfl ((HRW.out.alloc _).alloc _) ⟨_,0,none⟩ 1 1 [.bool false,.int .i64 (j:Nat)] rfl rfl (zw _ _ _ _ _ (by simp)) (by simp [Value.oneCell']) (by omega) (by omega) (by simp;omega) ?_;intro v' w6 hown' hgrow hnil';obtain ⟨g',cap',rfl⟩:=ownsRow_succ hown';have hT6:w6.heap[wr.heap.size]?=some (.cells #[.int .i64 T.kind,.string T.name,.int .i64 T.bound,.int .i64 T.of,.int .i64 T.tag,.slice T.ia T.ilen T.icap] 58):=(hgrow.block _ (by simp;omega) (fun e=>by have:=(HRW.out.lt _ e.symm).2;omega)).trans (jc (jd wr (.cells #[.int .i64 T.kind,.string T.name,.int .i64 T.bound,.int .i64 T.of,.int .i64 T.tag,.slice T.ia T.ilen T.icap] 58)) ((Below.refl _ _).alloc (Nat.le_refl _) _));have hB6:Below w2.heap.size w2 w6:=yj ((HRW.out.alloc _).alloc _) hgrow ((HBL.out.alloc HBL.out.size (.cells #[.int .i64 T.kind,.string T.name,.int .i64 T.bound,.int .i64 T.of,.int .i64 T.tag,.slice T.ia T.ilen T.icap] 58)).alloc (by simp;omega) _) (Nat.le_refl _) (by simp;omega);have HB6:=lh hB6;have HW6:=lh hown';have t3:=ja (j:=3) (v:=.int .i64 T.of) hT6 rfl;have t5:=ja (j:=5) (v:=.slice T.ia T.ilen T.icap) hT6 rfl;clear hown' hgrow hnil' hT6;rw [HIA.out] at t5;have y9:=jk (HB2.out.trans (hB6.mono hws)) HY2.out;go_wp2;go_roundw
              case measure=>simp [intOf];omega
              case rel=>exact ⟨k+1,u2,_,_,st++[⟨false,(j:Nat)⟩],(by rw [HUV.out]),rfl,by go_num,by omega,HU2.out,by simp [←HM.out],by rw [Xd];exact HW6.out,HFG.out,HB6.out⟩
            · go_wp2_with (first|(go_at_call 56;refine (HIT.out _ HBX.out).mono ?_;rintro e w3 ⟨rfl,hw3⟩;subst hw3)|(at_builtin;refine Hid.out ?_));refine lh ?_;refine wpList_append_own _ rfl _ _ 70 rfl w2.heap.size 113 i0 (.agg #[.bool false,.int .i64 0]) 2 16 Tryz.underlying70 hi iz0 iz1 iz2 rfl (by decide) (.slice ia k cp) k (flatS st) rfl ((HRW.out.alloc _).alloc _) ⟨_,0,none⟩ 1 1 [.bool false,.int .i64 (j:Nat)] rfl rfl (zw _ _ _ _ _ (by simp)) (by simp [Value.oneCell']) (by omega) (by omega) (by simp;omega) ?_;intro v' w6 hown' hgrow hnil';obtain ⟨g',cap',rfl⟩:=ownsRow_succ hown';have hT6:w6.heap[wr.heap.size]?=some (.cells #[.int .i64 T.kind,.string T.name,.int .i64 T.bound,.int .i64 T.of,.int .i64 T.tag,.slice T.ia T.ilen T.icap] 58):=(hgrow.block _ (by simp;omega) (fun e=>by have:=(HRW.out.lt _ e.symm).2;omega)).trans (jc (jd wr (.cells #[.int .i64 T.kind,.string T.name,.int .i64 T.bound,.int .i64 T.of,.int .i64 T.tag,.slice T.ia T.ilen T.icap] 58)) ((Below.refl _ _).alloc (Nat.le_refl _) _));have hB6:Below w2.heap.size w2 w6:=yj ((HRW.out.alloc _).alloc _) hgrow ((HBL.out.alloc HBL.out.size (.cells #[.int .i64 T.kind,.string T.name,.int .i64 T.bound,.int .i64 T.of,.int .i64 T.tag,.slice T.ia T.ilen T.icap] 58)).alloc (by simp;omega) _) (Nat.le_refl _) (by simp;omega);have HB6:=lh hB6;have HW6:=lh hown';have t3:=ja (j:=3) (v:=.int .i64 T.of) hT6 rfl;have t5:=ja (j:=5) (v:=.slice T.ia T.ilen T.icap) hT6 rfl;clear hown' hgrow hnil' hT6;rw [HIA.out] at t5;have y9:=jk (HB2.out.trans (hB6.mono hws)) HY2.out;go_wp2;go_roundw
              case measure=>simp [intOf];omega
              case rel=>exact ⟨k+1,u2,_,_,st++[⟨false,(j:Nat)⟩],(by rw [HUV.out]),rfl,by go_num,by omega,HU2.out,by simp [←HM.out],by rw [Xd];exact HW6.out,HFG.out,HB6.out⟩
        · rw [if_neg hq] at hpe;rw [hpe,if_neg (by decide)] at hfg2;have HFG:=lh hfg2
          obtain ⟨rfl,rfl⟩:q13=false∧q14=false:=by simpa using hq
          clear hfg2 hps hpe he1 hi1 hnp hq hnz;go_wp2
          go_ret3
          rw [HFG.out];exact ⟨_,rfl,World.ownsRow_nil _ _ _ _,HBX.out⟩
    · obtain rfl:k=N:=by omega
      have hd:decide ((k:Int)<k)=false:=by simp
      have he:findG L len xs k0 []=⟨st,u,0⟩:=by
       rw [hfg,List.drop_eq_nil_of_le (by have:=HN.out;omega)]
       rfl
      have HE:=lh he;have HM:=lh hm;have HROW:=lh hrow;have hbw:Below w.heap.size w wr:=HB2.out.trans (hbl.mono HB2.out.size);have hws:=HB2.out.size;clear he hfg hm hrow;go_wp2
      go_ret3
      rw [HE.out];exact ⟨_,rfl,by rw [←HM.out];exact jjg HROW.out (by omega),hbw⟩
def StepC (w:World) (pa:Option Addr) (i:Nat) (s:StepV):Prop:=
 ∃ b off,pa=some ⟨b,off,none⟩∧w.cell? ⟨b,off+i*2,none⟩=some (.bool s.elem)∧w.cell? ⟨b,off+i*2+1,none⟩=some (.int .i64 s.n)
theorem StepC.held {w w1:World} {pa:Option Addr} {i:Nat} {s:StepV} (h:StepC w pa i s) (hb:Below w.heap.size w w1):StepC w1 pa i s:=by
 obtain ⟨b,off,e,h0,h1⟩:=h;exact ⟨b,off,e,jk hb h0,jk hb h1⟩
theorem StepC.toAt {w:World} {pa:Option Addr} {i:Nat} {s:StepV} (h:StepC w pa i s):StepAt w pa i s:=h
theorem jfy:∀ (l:List StepV) (j:Nat) (x:StepV),l[j]?=some x→(flatS l)[j*2]?=some (.bool x.elem)∧(flatS l)[j*2+1]?=some (.int .i64 x.n)
 | [],j,x,h=>by simp at h
 |y::l,0,x,h=>by simp at h;subst h;exact ⟨rfl,rfl⟩
 |y::l,j+1,x,h=>by
  have:=jfy l j x (by simpa using h)
  simp only [flatS];rw [show (j+1)*2=j*2+1+1 by omega]
  simpa using this
def stepN (l:List StepV) (i:Nat):StepV:=l.getD i ⟨false,0⟩
theorem Zq {w:World} {base n:Nat} {v:Value} {l:List StepV} (h:w.ownsRow base 113 2 v n (flatS l)) (hn:n=l.length):∃ ia cp,v=.slice ia n cp∧∀ i,i<n→StepC w ia i (stepN l i):=by
 obtain ⟨ia,cp,e,hc⟩:=jb4 h;refine ⟨ia,cp,e,fun i hi=>?_⟩
 have hl:l[i]?=some (stepN l i):=by
  unfold stepN;rw [List.getD_eq_getElem?_getD,List.getElem?_eq_getElem (by omega)]
  rfl
 obtain ⟨h1,h2⟩:=jfy l i _ hl;obtain ⟨g,rfl,c1⟩:=hc _ _ h1;obtain ⟨g2,hg,c2⟩:=hc _ _ h2
 obtain rfl:g=g2:=by injection hg with h;injection h
 exact ⟨g,0,rfl,by simpa using c1,by simpa using c2⟩
end Go.Proofs.YthcompcjphaahaaGreatDoor.Pa
