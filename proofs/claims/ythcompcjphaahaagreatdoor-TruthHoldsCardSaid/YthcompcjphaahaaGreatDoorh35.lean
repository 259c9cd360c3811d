/- What the bytes of a token say: the code's readers. -/
import Derived.Deep.WholeRow
import Derived.Great.BuildSlice
import Derived.Laws.CopyOwn
import Derived.Test.YthcompcjphaahaaGreatDoorh09
set_option maxRecDepth 100000
set_option maxHeartbeats 8000000
set_option linter.unusedVariables false
namespace Go.Proofs.YthcompcjphaahaaGreatDoor
open Go.RowKit
def rdVal (g:Got):Value:=match g with
 |.err e a=>.tuple #[.string ⟨#[]⟩,.int .u64 0,.agg #[.int .i64 (e:Nat),.int .i64 (a:Nat)]]
 |.tok _ t n _=>.tuple #[.string (bs t),.int .u64 (n:Nat),.agg #[.int .i64 0,.int .i64 0]]
theorem newRow {w w1:World} {o:Obj} (hb:Below (w.alloc o).heap.size (w.alloc o) w1):w1.heap[w.heap.size]?=some o:=rowKeep hb (jd w o)
theorem newBelow {w w1:World} {o:Obj} (hb:Below (w.alloc o).heap.size (w.alloc o) w1):Below w.heap.size w w1:=((Below.refl w.heap.size w).alloc (Nat.le_refl _) o).trans (hb.mono (by simp))
theorem onBelow {B:Nat} {w w1 w2:World} (h:Below B w w1) (hB:B≤w.heap.size) (k:Below w1.heap.size w1 w2):Below B w w2:=h.trans (k.mono (Nat.le_trans hB h.size))
theorem Xu (e a:Int) (w:World):Calls Tryz.prog 181 #[.int .i64 e,.int .i64 a] w fun x w'=>x=.returned (.tuple #[.string ⟨#[]⟩,.int .u64 0,.agg #[.int .i64 e,.int .i64 a]])∧w'=w.alloc (.cells #[.int .i64 e,.int .i64 a] 54):=by
 go_enter Tryz.func181,Tryz.ntmps181;go_wp2
 go_returns
 exact ⟨rfl,rfl⟩
theorem Z2 (l:List UInt8) (w:World):Calls Tryz.prog 146 #[.string (bs l)] w fun x w'=>x=.returned (.tuple #[.string (bs l),.int .u64 0,.agg #[.int .i64 0,.int .i64 0]])∧Below w.heap.size w w':=by
 go_enter Tryz.func146,Tryz.ntmps146;go_wp2
 go_returns
 exact ⟨rfl,by go_grown⟩
theorem jrk (l:List UInt8) (h0:l≠[]) (h:l.all dig=true) (hl:l.length≤1000) (hn:nval l<18446744073709551616) (w:World):Calls Tryz.prog 182 #[.string (bs l),.int .i64 10,.int .i64 64] w fun e w'=>
  e=.returned (.tuple #[.int .u64 (nval l:Nat),.nilIface])∧Below w.heap.size w w':=by
 have hp:=jad l h0 h;rw [if_pos hn] at hp;refine (Tryz.strconv_ParseUint_10_at64_ok (bs l) (by rw [jy];omega) (nval l) (by rw [kx];exact hp) w).mono ?_;rintro e w' ⟨rfl,h|h⟩
 · subst h;exact ⟨rfl,Below.refl _ _⟩
 · subst h;exact ⟨rfl,Lib.bytesWorld_below _ _ _⟩
theorem jqw (l:List UInt8) (h0:l≠[]) (h:l.all dig=true) (hl:l.length≤1000) (hn:¬nval l<18446744073709551616) (w:World) (hV:LibAt w):Calls Tryz.prog 182 #[.string (bs l),.int .i64 10,.int .i64 64] w fun e w'=>
  (∃ t p,e=.returned (.tuple #[.int .u64 18446744073709551615,.iface t p]))∧Below w.heap.size w w':=by
 have hp:=jad l h0 h;rw [if_neg hn] at hp;obtain ⟨ev,hv,hev⟩:=hV.er;refine (Tryz.strconv_ParseUint_10_at64_range (bs l) (by rw [jy];omega) (by rw [kx];exact hp) ev w hv hev).mono ?_;rintro e w' ⟨N,rfl,_,_,hb⟩;exact ⟨⟨_,_,rfl⟩,hb⟩
theorem jc0 (c:UInt8) (r:List UInt8) (h:(c::r).all dig=true) (hl:(c::r).length≤1000) (w:World) (hV:LibAt w):Calls Tryz.prog 148 #[.string (bs (c::r))] w fun x w'=>x=.returned (rdVal (rdNum (c::r)))∧Below w.heap.size w w':=by
 have hpo:=jrk (c::r) (by simp) h hl;have hpn:=fun hn wx hb=>jqw (c::r) (by simp) h hl hn wx (hV.held hb);have hsz:(bs (c::r)).size=r.length+1:=jy _
 have hl':r.length≤999:=by simpa using hl
 have hlp:0<(bs (c::r)).size:=by omega
 have hml:(bs (c::r)).size≤maxLen:=by show (bs (c::r)).size≤9223372036854775807;omega
 have hg:∀ h:0<(bs (c::r)).size,(bs (c::r))[0]'h=c:=fun h=>jem _ 0 h (by simp);clear hlp;have hc:c.toNat<256:=UInt8.toNat_lt c
 have h48:(c::r)[0]?=some 48↔(c.toNat:Int)=48:=by
  constructor
  · intro h
    have:c=48:=by simpa using h
    rw [this];rfl
  · intro h
    have:c=48:=UInt8.toNat_inj.1 (by exact_mod_cast h)
    rw [this];rfl
 have h1l:1<(c::r).length↔(1:Int)<((r.length:Int)+1):=by simp;omega
 have hv:rdNum (c::r)=if 1<(c::r).length∧(c::r)[0]?=some 48 then .err 1 0 else if nval (c::r)<18446744073709551616 then .tok 2 (c::r) (nval (c::r)) (c::r).length else .err 7 0:=rfl;rw [hv];clear hv;obtain ⟨N,hN⟩:∃ N,nval (c::r)=N:=⟨_,rfl⟩;rw [hN] at hpo hpn ⊢;obtain ⟨L,hL⟩:∃ L,c::r=L:=⟨_,rfl⟩;have hrv:rdVal (.tok 2 L N L.length)=.tuple #[.string (bs L),.int .u64 (N:Nat),.agg #[.int .i64 0,.int .i64 0]]:=rfl;rw [hL] at hpo hpn hsz hml hg h48 h1l ⊢;obtain ⟨s,hs⟩:∃ s,bs L=s:=⟨_,rfl⟩;rw [hs] at hpo hpn hrv hsz hml hg ⊢
 have hlp:0<s.size:=by omega
 have hg:=hg hlp;clear hs hL hN;have HPO:=lh hpo;have HPN:=lh hpn;clear hpo hpn hV h
 by_cases hA:1<L.length∧L[0]?=some 48
 · rw [if_pos hA];have h1':=h1l.1 hA.1;have h2':=h48.1 hA.2;clear h48 h1l hA hrv;go_enter Tryz.func148,Tryz.ntmps148;go_wp2_with (go_at_call 181;refine (Xu _ _ _).mono ?_;rintro e w1 ⟨rfl,rfl⟩)
   go_returns
   exact ⟨rfl,by go_grown⟩
 · rw [if_neg hA]
   have hcase:¬(1:Int)<((r.length:Int)+1)∨((1:Int)<((r.length:Int)+1)∧((c.toNat:Int)==48)=false):=by
    by_cases h1:(1:Int)<((r.length:Int)+1)
    · exact .inr ⟨h1,beq_eq_false_iff_ne.2 (fun h2=>hA ⟨h1l.2 h1,h48.2 h2⟩)⟩
    · exact .inl h1
   clear h48 h1l hA
   by_cases hn:N<18446744073709551616
   · rw [if_pos hn,hrv];have HP:=lh (HPO.out hn);clear HPO HPN hrv
     rcases hcase with h1|⟨h1,h2⟩
     all_goals
      go_enter Tryz.func148,Tryz.ntmps148
      go_wp2_with (first
       |(go_at_call 182;refine (HP.out _).mono ?_;rintro e w1 ⟨rfl,hb1⟩;have HQ:=lh (newRow hb1);have HR:=lh (newBelow hb1);clear hb1)
       |(refine wpList_store_rowTo rfl 54 _ _ rfl rfl w.heap.size #[.int .i64 0,.int .i64 0] rfl rfl _ _ HQ.out (by kernel_rfl) (by kernel_rfl) (by kernel_rfl) ?_))
      refine bodyPost_ret (v:=.tuple #[.string s,.int .u64 (N:Nat),.agg #[.int .i64 0,.int .i64 0]]) ?_ rfl ⟨rfl,below_setRow HR.out (Nat.le_refl _) _⟩;have hl:=run_loadVar_row (P:=Tryz.prog) _ w.heap.size _ 54 _ _ _ (setRow_heap _ _ _ #[.int .i64 0,.int .i64 0] _ _ HQ.out) Tryz.underlying54 rfl (by kernel_rfl);simp [results,Tryz.results148,asAddr,hl]
   · rw [if_neg hn];have HP:=lh (fun wx=>HPN.out hn wx);clear HPO HPN hrv
     rcases hcase with h1|⟨h1,h2⟩
     all_goals
      go_enter Tryz.func148,Tryz.ntmps148
      go_wp2_with (first
       |(go_at_call 182;refine (HP.out _ ((Below.refl w.heap.size w).alloc (Nat.le_refl _) _)).mono ?_;rintro e w1 ⟨⟨te,pe,rfl⟩,hb1⟩;have HQ:=lh (newRow hb1);have HR:=lh (newBelow hb1);clear hb1)
       |(go_at_call 181;refine (Xu _ _ _).mono ?_;rintro e w2 ⟨rfl,rfl⟩;have HQ2:=lh (je HQ.out (o:=(.cells #[.int .i64 7,.int .i64 0] 54)));have HR2:=lh (HR.out.alloc HR.out.size (.cells #[.int .i64 7,.int .i64 0] 54)))
       |(refine wpList_store_rowTo rfl 54 _ _ rfl rfl w.heap.size #[.int .i64 7,.int .i64 0] rfl rfl _ _ HQ2.out (by kernel_rfl) (by kernel_rfl) (by kernel_rfl) ?_))
      refine bodyPost_ret (v:=.tuple #[.string ⟨#[]⟩,.int .u64 0,.agg #[.int .i64 7,.int .i64 0]]) ?_ rfl ⟨rfl,below_setRow HR2.out (Nat.le_refl _) _⟩;have hl:=run_loadVar_row (P:=Tryz.prog) _ w.heap.size _ 54 _ _ _ (setRow_heap _ _ _ #[.int .i64 7,.int .i64 0] _ _ HQ2.out) Tryz.underlying54 rfl (by kernel_rfl);simp [results,Tryz.results148,asAddr,hl]
theorem jb9 (p:UInt8→Bool):∀ (l:List UInt8) (j:Nat),(∀ i,i<j→p (l.getD i 0)=false)→j<l.length→p (l.getD j 0)=true→l.findIdx? p=some j
 | [],j,_,hj,_=>by simp at hj
 |c::r,0,_,_,hp=>by
  have hp':p c=true:=hp;simp [List.findIdx?_cons,hp']
 |c::r,j+1,h,hj,hp=>by
  have h0:p c=false:=h 0 (by omega)
  have:=jb9 p r j (fun i hi=>h (i+1) (by omega)) (by simpa using hj) hp
  simp [List.findIdx?_cons,h0,this]
theorem jar (p:UInt8→Bool):∀ (l:List UInt8),(∀ i,i<l.length→p (l.getD i 0)=false)→l.findIdx? p=none
 | [],_=>rfl
 |c::r,h=>by
  have h0:p c=false:=h 0 (by simp)
  have:=jar p r (fun i hi=>h (i+1) (by simpa using hi))
  simp [List.findIdx?_cons,h0,this]
theorem jcc (l:List UInt8) (hl:l.length≤1000) (w:World) (hV:LibAt w):Calls Tryz.prog 185 #[.string (bs l),.string ⟨#[39,39]⟩,.string ⟨#[39]⟩] w fun e w'=>e=.returned (.string (bs (unq l)))∧Below w.heap.size w w':=by
 obtain ⟨m,hm⟩:=hV.mx;have hz:=jy l;have hc:=Lib.countB_mul_le ⟨#[39,39]⟩ (by decide) (bs l).size (bs l) (Nat.le_refl _);have h2:(⟨#[39,39]⟩:ByteArray).size=2:=rfl;have h1:(⟨#[39]⟩:ByteArray).size=1:=rfl;rw [h2] at hc;refine (Tryz.strings_ReplaceAll (bs l) ⟨#[39,39]⟩ ⟨#[39]⟩ m w (by omega) hm (by decide) (by rw [h1];omega)).mono fun e w' ⟨he,hb⟩=>⟨?_,hb⟩;rw [he,kx,jh0]
 rfl
theorem jgf (l:List UInt8) (h2:l.count 39 % 2=0→2≤l.length) (hl:l.length≤1000) (w:World) (hV:LibAt w):Calls Tryz.prog 150 #[.string (bs l)] w fun x w'=>x=.returned (rdVal (rdText l))∧Below w.heap.size w w':=by
 have HHIT:=lh (jb9 badB l);have HMISS:=lh (jar badB l);have HR:=lh (fun (hlen:2≤l.length) (wx:World) (hb:Below w.heap.size w wx)=>jcc ((l.drop 1).take (l.length - 2)) (by rw [List.length_take,List.length_drop];omega) wx (hV.held hb));have HSM:=lh (fun (hlen:2≤l.length)=>jq6 l 1 (l.length - 1) (by omega) (by omega))
 have HC:=lh (fun wx=>show Calls Tryz.prog 184 #[.string (bs l),.string ⟨#[39]⟩] wx fun e w'=>e=.returned (.int .i64 (l.count 39:Nat))∧w'=wx by
  have h:=Tryz.strings_Count_one (bs l) 39 wx;rw [kx] at h
  exact h)
 have HG:=lh (jem l);have hsz:(bs l).size=l.length:=jy l
 have hml:(bs l).size≤maxLen:=by show (bs l).size≤9223372036854775807;omega
 have hrd:rdText l=match l.findIdx? badB with
  |some i=>.err 10 i
  |none=>if l.count 39 % 2≠0 then .err 2 0 else .tok 3 (unq ((l.drop 1).take (l.length - 2))) 0 l.length:=rfl
 obtain ⟨s,hs⟩:∃ s,bs l=s:=⟨_,rfl⟩;rw [hs] at HSM HC hsz hml HG ⊢;obtain ⟨R,hR⟩:∃ R,rdText l=R:=⟨_,rfl⟩;rw [hR] at hrd ⊢;have HRD:=lh hrd;have H2:=lh h2;clear hs hR hrd h2 hV;go_enter Tryz.func150,Tryz.ntmps150;go_wp2_with (fail)
 go_loopw [8] (fun i wr=>∃ j:Nat,j≤l.length∧i=.int .i64 j∧Hid (∀ i,i<j→badB (l.getD i 0)=false)∧wr=w.alloc (.cells #[.int .i64 0,.int .i64 0] 54)) (fun i _=>l.length - (intOf i).toNat)
 case atStart=>exact ⟨0,Nat.zero_le _,rfl,lh (fun i hi=>absurd hi (Nat.not_lt_zero _)),rfl⟩
 case round=>
  obtain ⟨j,hj,rfl,HB,hwr⟩:=hrel
  by_cases hlt:j<l.length
  · have hlt2:j<s.size:=by omega
    have hg:=HG.out j hlt2 hlt
    have hgd:l.getD j 0=l[j]:=by rw [List.getD_eq_getElem?_getD,List.getElem?_eq_getElem hlt];rfl
    have hhit:=HHIT.out j HB.out hlt;have hnx:=ji (p:=fun i=>badB (l.getD i 0)) HB.out;rw [hgd] at hhit hnx;obtain ⟨x,hx⟩:∃ x,l[j]=x:=⟨_,rfl⟩;rw [hx] at hg hhit hnx;have hc:x.toNat<256:=UInt8.toNat_lt x;clear hgd hx
    by_cases hbad:(x.toNat:Int)<32∨(126:Int)<(x.toNat:Int)
    · have hb:badB x=true:=by unfold badB;rw [Bool.or_eq_true,decide_eq_true_iff,decide_eq_true_iff];omega
      have hf:=hhit hb;have HE:=lh (show R=.err 10 j by rw [HRD.out,hf]);clear hhit hnx hf hb;subst hwr
      rcases hbad with h|h
      · go_wp2_with (go_at_call 181;refine (Xu _ _ _).mono ?_;rintro e w1 ⟨rfl,rfl⟩)
        go_returns
        exact ⟨by rw [HE.out];rfl,by go_grown⟩
      · have h32:¬(x.toNat:Int)<32:=by omega
        go_wp2_with (go_at_call 181;refine (Xu _ _ _).mono ?_;rintro e w1 ⟨rfl,rfl⟩)
        go_returns
        exact ⟨by rw [HE.out];rfl,by go_grown⟩
    · have hb:badB x=false:=by unfold badB;rw [Bool.or_eq_false_iff,decide_eq_false_iff_not,decide_eq_false_iff_not];omega
      have HN:=lh (hnx hb)
      have h1:¬(x.toNat:Int)<32:=by omega
      have h2:¬(126:Int)<(x.toNat:Int):=by omega
      clear hhit hnx hb hbad;go_wp2_with (fail);go_roundw
      case rel=>exact ⟨j+1,by omega,by go_num,HN,by first|exact hwr|trivial⟩
      case measure=>simp [intOf];omega
  · have hf:=HMISS.out (fun i hi=>HB.out i (by omega));subst hwr;obtain ⟨n,hn⟩:∃ n,l.count 39=n:=⟨_,rfl⟩;rw [hn] at HC H2 HRD;clear hn
    by_cases ho:n % 2=0
    · have hlen:=H2.out ho;have HE:=lh (show R=.tok 3 (unq ((l.drop 1).take (l.length - 2))) 0 l.length by rw [HRD.out,hf];simp [ho]);have HRR:=lh (HR.out hlen);have hsl:=HSM.out hlen;rw [show l.length - 1 - 1=l.length - 2 by omega,show (((l.length - 1:Nat)):Int)=(l.length:Int) - 1 by omega,show ((1:Nat):Int)=1 from rfl] at hsl;obtain ⟨M,hM⟩:∃ M,(l.drop 1).take (l.length - 2)=M:=⟨_,rfl⟩;rw [hM] at HE HRR hsl
      have hrem:(n:Int).tmod 2=0:=by rw [Int.tmod_eq_emod_of_nonneg (by omega)];omega
      clear hf hM ho H2 HR HSM HHIT HMISS HB
      go_wp2_with (first
       |(go_at_call 184;refine (HC.out _).mono ?_;rintro e w1 ⟨rfl,rfl⟩)
       |(go_at_call 185;refine (HRR.out _ ((Below.refl w.heap.size w).alloc (Nat.le_refl _) _)).mono ?_;rintro e w2 ⟨rfl,hb2⟩;have HQ:=lh (newRow hb2);have HRB:=lh (newBelow hb2);clear hb2)
       |(refine wpList_store_rowTo rfl 54 _ _ rfl rfl w.heap.size #[.int .i64 0,.int .i64 0] rfl rfl _ _ HQ.out (by kernel_rfl) (by kernel_rfl) (by kernel_rfl) ?_))
      refine bodyPost_ret (v:=.tuple #[.string (bs (unq M)),.int .u64 0,.agg #[.int .i64 0,.int .i64 0]]) ?_ rfl ⟨by rw [HE.out];rfl,below_setRow HRB.out (Nat.le_refl _) _⟩;have hl:=run_loadVar_row (P:=Tryz.prog) _ w.heap.size _ 54 _ _ _ (setRow_heap _ _ _ #[.int .i64 0,.int .i64 0] _ _ HQ.out) Tryz.underlying54 rfl (by kernel_rfl);simp [results,Tryz.results150,asAddr,hl]
    · have HE:=lh (show R=.err 2 0 by rw [HRD.out,hf];simp [ho])
      have hrem:(n:Int).tmod 2=1:=by rw [Int.tmod_eq_emod_of_nonneg (by omega)];omega
      clear hf ho H2 HR HSM HHIT HMISS HB
      go_wp2_with (first
       |(go_at_call 184;refine (HC.out _).mono ?_;rintro e w1 ⟨rfl,rfl⟩)
       |(go_at_call 181;refine (Xu _ _ _).mono ?_;rintro e w1 ⟨rfl,rfl⟩))
      go_returns
      exact ⟨by rw [HE.out];rfl,by go_grown⟩
theorem je4 (c d:UInt8) (hd:dig d=true) (w:World):Calls Tryz.prog 152 #[.string (bs [c,d])] w fun x w'=>x=.returned (rdVal (rdPar [c,d]))∧Below w.heap.size w w':=by
 have hd':48≤d.toNat∧d.toNat≤57:=by simpa [dig,isD] using hd
 have hsz:(bs [c,d]).size=2:=jy _
 have hlt:1<(bs [c,d]).size:=by omega
 have hg:(bs [c,d])[1]'hlt=d:=jem _ 1 hlt (by simp);have hrv:rdVal (rdPar [c,d])=.tuple #[.string (bs [c,d]),.int .u64 ((d.toNat - 48:Nat):Int),.agg #[.int .i64 0,.int .i64 0]]:=rfl;rw [hrv];clear hrv hd
 have hnn:((d.toNat - 48:Nat):Int)=(d.toNat:Int) - 48:=by omega
 rw [hnn];clear hnn
 have hd1:(48:Int)≤(d.toNat:Int):=by omega
 have hd2:(d.toNat:Int)≤57:=by omega
 have hu8:IntKind.u8.wrap ((d.toNat:Int) - 48)=(d.toNat:Int) - 48:=by rw [IntKind.wrap_u8];omega
 have hu64:IntKind.u64.wrap ((d.toNat:Int) - 48)=(d.toNat:Int) - 48:=by rw [IntKind.wrap_u64];omega
 generalize bs [c,d]=s at *;go_enter Tryz.func152,Tryz.ntmps152;go_wp2_with (fail)
 go_region
 all_goals
  go_wp2_with (fail)
  go_returns
  exact ⟨rfl,by go_grown⟩
end Go.Proofs.YthcompcjphaahaaGreatDoor
