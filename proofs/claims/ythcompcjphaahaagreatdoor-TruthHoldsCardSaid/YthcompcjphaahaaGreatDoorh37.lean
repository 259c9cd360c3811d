/- The code of chapter 18: the datum of an operand. -/
import Derived.Test.YthcompcjphaahaaGreatDoorh27
import Derived.Test.YthcompcjphaahaaGreatDoorh36
set_option maxRecDepth 100000
set_option maxHeartbeats 8000000
set_option linter.unusedVariables false
set_option linter.unusedSimpArgs false
namespace Go.Proofs.YthcompcjphaahaaGreatDoor
open Go.RowKit
structure TdSt (w:World) (ao:Option Addr) (len cap:Nat) (t:Int) (a b:Opd) (wx:World):Prop where
 sc:wx.heap[w.heap.size]?=some (.cells #[.slice ao len cap,.int .i64 t] 137)
 oa:wx.heap[w.heap.size+1]?=some (.cells #[.int .i64 a.kind,.string a.text,.bool a.neg,.int .u64 a.num] 34)
 ob:wx.heap[w.heap.size+1+1]?=some (.cells #[.int .i64 b.kind,.string b.text,.bool b.neg,.int .u64 b.num] 34)
 res:wx.heap[w.heap.size+1+1+1]?=some (.cells #[.int .i64 0,.bool false,.int .u64 0,.string ⟨#[]⟩] 42)
 bel:Below w.heap.size w wx
theorem TdSt.next {w:World} {ao:Option Addr} {len cap:Nat} {t:Int} {a b:Opd} {wx wy:World} (h:TdSt w ao len cap t a b wx) (hb:Below wx.heap.size wx wy):TdSt w ao len cap t a b wy:=
 ⟨rowKeep hb h.sc,rowKeep hb h.oa,rowKeep hb h.ob,rowKeep hb h.res,h.bel.trans (hb.mono h.bel.size)⟩
theorem TdSt.start (w:World) (ao:Option Addr) (len cap:Nat) (t:Int) (a b:Opd):TdSt w ao len cap t a b ((((w.alloc (.cells #[.slice ao len cap,.int .i64 t] 137)).alloc (.cells #[.int .i64 a.kind,.string a.text,.bool a.neg,.int .u64 a.num] 34)).alloc (.cells #[.int .i64 b.kind,.string b.text,.bool b.neg,.int .u64 b.num] 34)).alloc (.cells #[.int .i64 0,.bool false,.int .u64 0,.string ⟨#[]⟩] 42)):=by
 have h1:=jd w (.cells #[.slice ao len cap,.int .i64 t] 137);have h2:=jd (w.alloc (.cells #[.slice ao len cap,.int .i64 t] 137)) (.cells #[.int .i64 a.kind,.string a.text,.bool a.neg,.int .u64 a.num] 34);have h3:=jd ((w.alloc (.cells #[.slice ao len cap,.int .i64 t] 137)).alloc (.cells #[.int .i64 a.kind,.string a.text,.bool a.neg,.int .u64 a.num] 34)) (.cells #[.int .i64 b.kind,.string b.text,.bool b.neg,.int .u64 b.num] 34);have h4:=jd (((w.alloc (.cells #[.slice ao len cap,.int .i64 t] 137)).alloc (.cells #[.int .i64 a.kind,.string a.text,.bool a.neg,.int .u64 a.num] 34)).alloc (.cells #[.int .i64 b.kind,.string b.text,.bool b.neg,.int .u64 b.num] 34)) (.cells #[.int .i64 0,.bool false,.int .u64 0,.string ⟨#[]⟩] 42);rw [World.size_alloc] at h2;rw [World.size_alloc,World.size_alloc] at h3;rw [World.size_alloc,World.size_alloc,World.size_alloc] at h4;exact ⟨je (je (je h1)),je (je h2),je h3,h4,((((Below.refl _ _).alloc (Nat.le_refl _) _).alloc (by simp) _).alloc (by simp;omega) _).alloc (by simp;omega) _⟩
def TDatTo (L:Nat→Pa.TypeV) (ao:Option Addr) (len cap:Nat) (t:Int) (a b:Opd) (w:World):Prop:=
 Calls Tryz.prog 86 #[.agg #[.slice ao len cap,.int .i64 t],.agg #[.int .i64 a.kind,.string a.text,.bool a.neg,.int .u64 a.num],.agg #[.int .i64 b.kind,.string b.text,.bool b.neg,.int .u64 b.num]] w fun e w'=>e=.returned (Pa.datV (datW L len (if b.kind=1 then (whatA L len t b).1 else 0) a))∧Below w.heap.size w w'
theorem jve {L:Nat→Pa.TypeV} {ao:Option Addr} {len:Nat} {X:Int} {x:ByteArray} {w:World} (hX:4≤X→X - 4<(len:Int)) (H:∀ i,i<len→Pa.TypeAt w ao i (L i)):(Lit.int .u64 (itmC L len X x).1).wf=true:=by
 unfold itmC
 by_cases h:4≤X∧0≤Pa.itemL L len (X - 4) x
 · rw [if_pos h];obtain ⟨h4,hn⟩:=h;obtain ⟨u,hu⟩:∃ u:Nat,X - 4=(u:Nat):=⟨(X - 4).toNat,by omega⟩
   have hul:u<len:=by have:=hX h4;omega
   have hnl:Pa.itemL L len (X - 4) x<((L u).ilen:Nat):=by rw [hu] at hn ⊢;exact Pa.jcj hn
   obtain ⟨m,hm⟩:∃ m:Nat,Pa.itemL L len (X - 4) x=(m:Nat):=⟨_,(Int.toNat_of_nonneg hn).symm⟩;obtain ⟨_,_,_,_,_,_,_,_,_,_,hi⟩:=H u hul;obtain ⟨_,_,_,_,_,_,_,_,hw⟩:=hi.2 m (by omega);rw [hm,hu];exact hw.1
 · rw [if_neg h];rfl
theorem jtw {L:Nat→Pa.TypeV} {len:Nat} {X:Int} {a:Opd}:datW L len X a=if (itmC L len X a.text).2 then datK 9 (itmC L len X a.text).1 else ⟨2,false,0,a.text⟩:=by
 unfold datW itmC
 by_cases h:4≤X∧0≤Pa.itemL L len (X - 4) a.text
 · rw [if_pos h,if_pos h];rfl
 · rw [if_neg h,if_neg h];rfl
theorem jmm (L:Nat→Pa.TypeV) (len:Nat) (t:Int) (x:ByteArray) (g:Bool) (n:Int):whatA L len t ⟨1,x,g,n⟩=findW L (Pa.findA L len t x):=rfl
theorem endTD {V:World} {act:Act} {Q:Ending→World→Prop} {k n:Int} {g:Bool} {x:ByteArray} (hd:act.defers=[]) (rb:Nat) (h2:act.tmps.getD 6 undef=.pointer (some ⟨rb,0,none⟩)) (hr:V.heap[rb]?=some (.cells #[.int .i64 k,.bool g,.int .u64 n,.string x] 42))
  (hQ:Q (.returned (.agg #[.int .i64 k,.bool g,.int .u64 n,.string x])) V):bodyPost Tryz.prog Tryz.f86 Q Exit.ret act V:=by
 refine bodyPost_ret (v:=.agg #[.int .i64 k,.bool g,.int .u64 n,.string x]) ?_ hd hQ;have hl2:=run_loadVar_row (P:=Tryz.prog) V rb 42 42 #[.int .i64 k,.bool g,.int .u64 n,.string x] _ _ hr Tryz.underlying42 rfl (by kernel_rfl);rw [Array.getD_eq_getD_getElem?] at h2;simp [results,Tryz.results86,h2,asAddr,hl2]
theorem endCD {V:World} {act:Act} {Q:Ending→World→Prop} {k n:Int} {g:Bool} {x:ByteArray} (hd:act.defers=[]) (rb:Nat) (h2:act.tmps.getD 8 undef=.pointer (some ⟨rb,0,none⟩)) (hr:V.heap[rb]?=some (.cells #[.int .i64 k,.bool g,.int .u64 n,.string x] 42))
  (hQ:Q (.returned (.agg #[.int .i64 k,.bool g,.int .u64 n,.string x])) V):bodyPost Tryz.prog Tryz.f47 Q Exit.ret act V:=by
 refine bodyPost_ret (v:=.agg #[.int .i64 k,.bool g,.int .u64 n,.string x]) ?_ hd hQ;have hl2:=run_loadVar_row (P:=Tryz.prog) V rb 42 42 #[.int .i64 k,.bool g,.int .u64 n,.string x] _ _ hr Tryz.underlying42 rfl (by kernel_rfl);rw [Array.getD_eq_getD_getElem?] at h2;simp [results,Tryz.results47,h2,asAddr,hl2]
theorem je7 (L:Nat→Pa.TypeV) (ao:Option Addr) (len cap:Nat) (hlen:len≤1000000) (hcap:len≤cap) (t:Int) (a b:Opd) (ha:a.text.size≤1000000) (hb:b.text.size≤1000000) (w:World) (H:∀ i,i<len→Pa.TypeAt w ao i (L i)):TDatTo L ao len cap t a b w:=by
 unfold TDatTo;have HS0:=lh (TdSt.start w ao len cap t a b);have HP:=lh (fun wx (hx:Below w.heap.size w wx)=>jgl L ao len cap hlen hcap t b.text hb wx (jz H hx));have HI:=lh (fun X hX wx (hx:Below w.heap.size w wx)=>jsk L ao len cap hlen t X hX a.text wx (jz H hx));have HCL:=lh (fun wx=>jf5 a.text ha wx);have HWF:=lh (fun X hX=>jve (x:=a.text) (X:=X) hX H);have HIN:=lh (jmg L len t b);have HID:=lh (fun X=>jtw (L:=L) (len:=len) (X:=X) (a:=a));unfold PSortTo at HP;unfold ItmTo at HI;obtain ⟨ka,xa,ga,na⟩:=a;obtain ⟨kb,xb,gb,nb⟩:=b;simp only at HS0 HP HI HCL HWF HID ha ⊢;clear H ha hb
 by_cases h1:kb=1
 · subst h1;rw [if_pos rfl];rw [jmm] at HIN ⊢;obtain ⟨⟨X,E⟩,hR⟩:∃ R,findW L (Pa.findA L len t xb)=R:=⟨_,rfl⟩;rw [hR] at HP HIN ⊢;have hin:=HIN.out;simp only at hin ⊢;have HIX:=lh (fun wx hx=>HI.out X hin wx hx);have hwf:=HWF.out X hin.2;have hD:=HID.out X;obtain ⟨N,hN⟩:∃ N,(itmC L len X xa).1=N:=⟨_,rfl⟩;obtain ⟨q,hq⟩:∃ q,(itmC L len X xa).2=q:=⟨_,rfl⟩;rw [hN,hq] at HIX hD;rw [hN] at hwf;rw [hD];have hsp:sP (X,E)=.tuple #[.agg #[.int .i64 (sW X),.int .i64 (sO X)],.int .i64 E]:=rfl;rw [hsp] at HP;clear hN hq hR HIN hin HI HWF HID hD hsp;generalize sW X=A at *;generalize sO X=B at *
   cases q with
   |true=>
    rw [if_pos rfl];have HDT:=lh (fun wx=>Pa.jfr 9 N hwf wx);obtain ⟨⟨dk,dg,dn,dx⟩,hdk⟩:∃ d,datK 9 N=d:=⟨_,rfl⟩;rw [hdk] at HDT ⊢;clear hdk hwf;go_enter Tryz.func86,Tryz.ntmps86
    go_upto_region 1 with (fail)
    generalize (((w.alloc (.cells #[.slice ao len cap,.int .i64 t] 137)).alloc (.cells #[.int .i64 ka,.string xa,.bool ga,.int .u64 na] 34)).alloc (.cells #[.int .i64 1,.string xb,.bool gb,.int .u64 nb] 34)).alloc (.cells #[.int .i64 0,.bool false,.int .u64 0,.string ⟨#[]⟩] 42)=W0 at *;have s0:=ja (j:=0) HS0.out.sc rfl;have s1:=ja (j:=1) HS0.out.sc rfl;obtain ⟨o0,o1,o2,o3⟩:=kj HS0.out.oa;obtain ⟨b0,b1,b2,b3⟩:=kj HS0.out.ob
    go_wp2_with (first
     |(go_at_call 96;(with_reducible refine (HDT.out _).mono ?_);rintro e w3 ⟨rfl,hb⟩;have HS3:=lh (HS2.out.next hb);clear hb)
     |(go_at_call 122;(with_reducible refine (HIX.out _ (by exact HS1.out.bel)).mono ?_);rintro e w2 ⟨rfl,hb⟩;have HS2:=lh (HS1.out.next hb);clear hb)
     |(go_at_call 121;(with_reducible refine (HP.out _ (by exact HS0.out.bel)).mono ?_);rintro e w1 ⟨rfl,hb⟩;have HS1:=lh (HS0.out.next (hb.alloc hb.size (.cells #[.int .i64 A,.int .i64 B] 178)));have s0:=ja (j:=0) HS1.out.sc rfl;have s1:=ja (j:=1) HS1.out.sc rfl;obtain ⟨o0,o1,o2,o3⟩:=kj HS1.out.oa;clear hb)
     |(refine wpList_store_rowTo rfl 42 _ _ rfl rfl (w.heap.size+1+1+1) #[.int .i64 dk,.bool dg,.int .u64 dn,.string dx] rfl rfl _ _ HS3.out.res (by kernel_rfl) (by kernel_rfl) (by kernel_rfl) ?_))
    exact endTD rfl (w.heap.size+1+1+1) rfl (setRow_heap _ _ _ _ _ _ HS3.out.res) ⟨rfl,below_setRow HS3.out.bel (by omega) _⟩
   |false=>
    rw [if_neg (by decide)];clear hwf;go_enter Tryz.func86,Tryz.ntmps86
    go_upto_region 1 with (fail)
    generalize (((w.alloc (.cells #[.slice ao len cap,.int .i64 t] 137)).alloc (.cells #[.int .i64 ka,.string xa,.bool ga,.int .u64 na] 34)).alloc (.cells #[.int .i64 1,.string xb,.bool gb,.int .u64 nb] 34)).alloc (.cells #[.int .i64 0,.bool false,.int .u64 0,.string ⟨#[]⟩] 42)=W0 at *;have s0:=ja (j:=0) HS0.out.sc rfl;have s1:=ja (j:=1) HS0.out.sc rfl;obtain ⟨o0,o1,o2,o3⟩:=kj HS0.out.oa;obtain ⟨b0,b1,b2,b3⟩:=kj HS0.out.ob
    go_wp2_with (first
     |(go_at_call 115;(with_reducible refine (HCL.out _).mono ?_);rintro e w3 ⟨rfl,hb⟩;have HS3:=lh (HS2.out.next hb);clear hb)
     |(go_at_call 122;(with_reducible refine (HIX.out _ (by exact HS1.out.bel)).mono ?_);rintro e w2 ⟨rfl,hb⟩;have HS2:=lh (HS1.out.next hb);obtain ⟨o0,o1,o2,o3⟩:=kj HS2.out.oa;clear hb)
     |(go_at_call 121;(with_reducible refine (HP.out _ (by exact HS0.out.bel)).mono ?_);rintro e w1 ⟨rfl,hb⟩;have HS1:=lh (HS0.out.next (hb.alloc hb.size (.cells #[.int .i64 A,.int .i64 B] 178)));have s0:=ja (j:=0) HS1.out.sc rfl;have s1:=ja (j:=1) HS1.out.sc rfl;obtain ⟨o0,o1,o2,o3⟩:=kj HS1.out.oa;clear hb)
     |(refine wpList_store_rowTo rfl 42 _ _ rfl rfl (w.heap.size+1+1+1) #[.int .i64 2,.bool false,.int .u64 0,.string xa] rfl rfl _ _ HS3.out.res (by kernel_rfl) (by kernel_rfl) (by kernel_rfl) ?_))
    exact endTD rfl (w.heap.size+1+1+1) rfl (setRow_heap _ _ _ _ _ _ HS3.out.res) ⟨rfl,below_setRow HS3.out.bel (by omega) _⟩
 · rw [if_neg h1,HID.out 0]
   have hno:(itmC L len 0 xa).2=false:=by unfold itmC;rw [if_neg (fun h=>absurd h.1 (by decide))]
   rw [hno,if_neg (by decide)]
   have k1:(kb==1)=false:=by rw [beq_eq_false_iff_ne];exact h1
   clear HP HI HWF HIN HID hno h1;go_enter Tryz.func86,Tryz.ntmps86
   go_upto_region 1 with (fail)
   generalize (((w.alloc (.cells #[.slice ao len cap,.int .i64 t] 137)).alloc (.cells #[.int .i64 ka,.string xa,.bool ga,.int .u64 na] 34)).alloc (.cells #[.int .i64 kb,.string xb,.bool gb,.int .u64 nb] 34)).alloc (.cells #[.int .i64 0,.bool false,.int .u64 0,.string ⟨#[]⟩] 42)=W0 at *;have s0:=ja (j:=0) HS0.out.sc rfl;have s1:=ja (j:=1) HS0.out.sc rfl;obtain ⟨o0,o1,o2,o3⟩:=kj HS0.out.oa;obtain ⟨b0,b1,b2,b3⟩:=kj HS0.out.ob
   go_wp2_with (first
    |(go_at_call 115;(with_reducible refine (HCL.out _).mono ?_);rintro e w3 ⟨rfl,hb⟩;have HS3:=lh (HS0.out.next hb);clear hb)
    |(refine wpList_store_rowTo rfl 42 _ _ rfl rfl (w.heap.size+1+1+1) #[.int .i64 2,.bool false,.int .u64 0,.string xa] rfl rfl _ _ HS3.out.res (by kernel_rfl) (by kernel_rfl) (by kernel_rfl) ?_))
   exact endTD rfl (w.heap.size+1+1+1) rfl (setRow_heap _ _ _ _ _ _ HS3.out.res) ⟨rfl,below_setRow HS3.out.bel (by omega) _⟩
def CDatTo (L:Nat→Pa.TypeV) (ao:Option Addr) (len cap:Nat) (t:Int) (a b:Opd) (w:World):Prop:=
 Calls Tryz.prog 47 #[.slice ao len cap,.int .i64 t,.agg #[.int .i64 a.kind,.string a.text,.bool a.neg,.int .u64 a.num],.agg #[.int .i64 b.kind,.string b.text,.bool b.neg,.int .u64 b.num]] w fun e w'=>e=.returned (Pa.datV (datE L len t a b))∧Below w.heap.size w w'
theorem jko (L:Nat→Pa.TypeV) (ao:Option Addr) (len cap:Nat) (hlen:len≤1000000) (hcap:len≤cap) (t:Int) (a b:Opd) (ha:a.text.size≤1000000) (hb:b.text.size≤1000000) (w:World) (H:∀ i,i<len→Pa.TypeAt w ao i (L i)):CDatTo L ao len cap t a b w:=by
 unfold CDatTo;have HT0:=lh (Dst.start w a b);have HTD:=lh (fun wx (hx:Below w.heap.size w wx)=>je7 L ao len cap hlen hcap t a b ha hb wx (jz H hx));unfold TDatTo at HTD;obtain ⟨D,hD⟩:∃ D,datE L len t a b=D:=⟨_,rfl⟩;have hd:D=if a.kind=2 then ⟨1,a.neg&&a.num !=0,a.num,⟨#[]⟩⟩ else if a.kind=4 then ⟨3,false,a.num,⟨#[]⟩⟩ else if a.kind=3 then datW L len (if b.kind=1 then (whatA L len t b).1 else 0) a else noDat:=hD.symm;rw [hD];obtain ⟨ka,xa,ga,na⟩:=a;obtain ⟨kb,xb,gb,nb⟩:=b;simp only at HT0 HTD hd ⊢;clear hD H ha hb
 by_cases h2:ka=2
 · subst h2;rw [if_pos rfl] at hd;clear HTD
   cases ga with
   |true=>
    obtain ⟨q,hq⟩:∃ q,(na !=0)=q:=⟨_,rfl⟩
    have hDQ:D=⟨1,q,na,⟨#[]⟩⟩:=by rw [hd,←hq];rfl
    subst hDQ;clear hd;go_enter Tryz.func47,Tryz.ntmps47
    go_upto_region 1 with (fail)
    generalize ((w.alloc (.cells #[.int .i64 2,.string xa,.bool true,.int .u64 na] 34)).alloc (.cells #[.int .i64 kb,.string xb,.bool gb,.int .u64 nb] 34)).alloc (.cells #[.int .i64 0,.bool false,.int .u64 0,.string ⟨#[]⟩] 42)=W0 at *;obtain ⟨o0,o1,o2,o3⟩:=kj HT0.out.two.1;obtain ⟨b0,b1,b2,b3⟩:=kj HT0.out.two.2.1
    go_wp2_with (first
     |(refine wpList_store_rowTo rfl 42 _ _ rfl rfl (w.heap.size+1+1) #[.int .i64 1,.bool q,.int .u64 na,.string ⟨#[]⟩] rfl rfl _ _ HT0.out.res (by kernel_rfl) (by kernel_rfl) (by kernel_rfl) ?_))
    exact endCD rfl (w.heap.size+1+1) rfl (setRow_heap _ _ _ _ _ _ HT0.out.res) ⟨rfl,below_setRow HT0.out.bel (by omega) _⟩
   |false=>
    have hDQ:D=⟨1,false,na,⟨#[]⟩⟩:=by rw [hd];rfl
    subst hDQ;clear hd;go_enter Tryz.func47,Tryz.ntmps47
    go_upto_region 1 with (fail)
    generalize ((w.alloc (.cells #[.int .i64 2,.string xa,.bool false,.int .u64 na] 34)).alloc (.cells #[.int .i64 kb,.string xb,.bool gb,.int .u64 nb] 34)).alloc (.cells #[.int .i64 0,.bool false,.int .u64 0,.string ⟨#[]⟩] 42)=W0 at *;obtain ⟨o0,o1,o2,o3⟩:=kj HT0.out.two.1;obtain ⟨b0,b1,b2,b3⟩:=kj HT0.out.two.2.1
    go_wp2_with (first
     |(refine wpList_store_rowTo rfl 42 _ _ rfl rfl (w.heap.size+1+1) #[.int .i64 1,.bool false,.int .u64 na,.string ⟨#[]⟩] rfl rfl _ _ HT0.out.res (by kernel_rfl) (by kernel_rfl) (by kernel_rfl) ?_))
    exact endCD rfl (w.heap.size+1+1) rfl (setRow_heap _ _ _ _ _ _ HT0.out.res) ⟨rfl,below_setRow HT0.out.bel (by omega) _⟩
 rw [if_neg h2] at hd
 have h2:(ka==2)=false:=by rw [beq_eq_false_iff_ne];exact h2
 by_cases h4:ka=4
 · subst h4;rw [if_pos rfl] at hd;subst hd;clear HTD h2;go_enter Tryz.func47,Tryz.ntmps47
   go_upto_region 1 with (fail)
   generalize ((w.alloc (.cells #[.int .i64 4,.string xa,.bool ga,.int .u64 na] 34)).alloc (.cells #[.int .i64 kb,.string xb,.bool gb,.int .u64 nb] 34)).alloc (.cells #[.int .i64 0,.bool false,.int .u64 0,.string ⟨#[]⟩] 42)=W0 at *;obtain ⟨o0,o1,o2,o3⟩:=kj HT0.out.two.1;obtain ⟨b0,b1,b2,b3⟩:=kj HT0.out.two.2.1
   go_wp2_with (first
    |(refine wpList_store_rowTo rfl 42 _ _ rfl rfl (w.heap.size+1+1) #[.int .i64 3,.bool false,.int .u64 na,.string ⟨#[]⟩] rfl rfl _ _ HT0.out.res (by kernel_rfl) (by kernel_rfl) (by kernel_rfl) ?_))
   exact endCD rfl (w.heap.size+1+1) rfl (setRow_heap _ _ _ _ _ _ HT0.out.res) ⟨rfl,below_setRow HT0.out.bel (by omega) _⟩
 rw [if_neg h4] at hd
 have h4:(ka==4)=false:=by rw [beq_eq_false_iff_ne];exact h4
 by_cases h3:ka=3
 · subst h3;rw [if_pos rfl] at hd;rw [←hd] at HTD;obtain ⟨dk,dg,dn,dx⟩:=D;have hdv:Pa.datV ⟨dk,dg,dn,dx⟩=.agg #[.int .i64 dk,.bool dg,.int .u64 dn,.string dx]:=rfl;rw [hdv] at HTD ⊢;clear hd hdv h2 h4;go_enter Tryz.func47,Tryz.ntmps47
   go_upto_region 1 with (fail)
   generalize ((w.alloc (.cells #[.int .i64 3,.string xa,.bool ga,.int .u64 na] 34)).alloc (.cells #[.int .i64 kb,.string xb,.bool gb,.int .u64 nb] 34)).alloc (.cells #[.int .i64 0,.bool false,.int .u64 0,.string ⟨#[]⟩] 42)=W0 at *;obtain ⟨o0,o1,o2,o3⟩:=kj HT0.out.two.1;obtain ⟨b0,b1,b2,b3⟩:=kj HT0.out.two.2.1
   go_wp2_with (first
    |(go_at_call 86;refine (HTD.out _ (by exact HT0.out.bel)).mono ?_;rintro e w1 ⟨rfl,hb⟩;have HT1:=lh (HT0.out.next hb);clear hb)
    |(refine wpList_store_rowTo rfl 42 _ _ rfl rfl (w.heap.size+1+1) #[.int .i64 dk,.bool dg,.int .u64 dn,.string dx] rfl rfl _ _ HT1.out.res (by kernel_rfl) (by kernel_rfl) (by kernel_rfl) ?_))
   exact endCD rfl (w.heap.size+1+1) rfl (setRow_heap _ _ _ _ _ _ HT1.out.res) ⟨rfl,below_setRow HT1.out.bel (by omega) _⟩
 rw [if_neg h3] at hd
 have h3:(ka==3)=false:=by rw [beq_eq_false_iff_ne];exact h3
 subst hd;clear HTD;go_enter Tryz.func47,Tryz.ntmps47
 go_upto_region 1 with (fail)
 generalize ((w.alloc (.cells #[.int .i64 ka,.string xa,.bool ga,.int .u64 na] 34)).alloc (.cells #[.int .i64 kb,.string xb,.bool gb,.int .u64 nb] 34)).alloc (.cells #[.int .i64 0,.bool false,.int .u64 0,.string ⟨#[]⟩] 42)=W0 at *;obtain ⟨o0,o1,o2,o3⟩:=kj HT0.out.two.1;obtain ⟨b0,b1,b2,b3⟩:=kj HT0.out.two.2.1
 go_wp2_with (first
  |(refine wpList_store_rowTo rfl 42 _ _ rfl rfl (w.heap.size+1+1) #[.int .i64 0,.bool false,.int .u64 0,.string ⟨#[]⟩] rfl rfl _ _ HT0.out.res (by kernel_rfl) (by kernel_rfl) (by kernel_rfl) ?_))
 exact endCD rfl (w.heap.size+1+1) rfl (setRow_heap _ _ _ _ _ _ HT0.out.res) ⟨rfl,below_setRow HT0.out.bel (by omega) _⟩
end Go.Proofs.YthcompcjphaahaaGreatDoor
