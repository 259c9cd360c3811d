/- path: an element's way, step by step. -/
import Derived.Test.YthcompcjphaahaaGreatDoorh07
import Derived.Test.YthcompcjphaahaaGreatDoorh44
set_option maxRecDepth 100000
set_option maxHeartbeats 8000000
set_option linter.unusedVariables false
namespace Go.Proofs.YthcompcjphaahaaGreatDoor
open Go.RowKit
def leftN (w:World) (bp:Nat):Nat:=match w.cell? ⟨bp,0,none⟩ with
 |some (.slice _ n _)=>n
 |_=>0
theorem PAt.leftN {w:World} {bp tb:Nat} {l:List Tk} (h:PAt w bp tb l):leftN w bp=l.length:=by
 obtain ⟨_,_,off,cap,hb,_⟩:=h;unfold Go.Proofs.YthcompcjphaahaaGreatDoor.leftN;rw [ja (j:=0) hb rfl];rfl
theorem jbd:∀ (cs:List Cl) (l:List Tk) (s s':List UInt8) (l':List Tk),Vd l→(∀ c∈cs,c.inner)→eat cs l s=.ok s' l'→s'.length+256*l'.length≤s.length+256*l.length
 | [],l,s,s',l',hv,hin,h=>by
   injection h with h1 h2
   rw [h1,h2];exact Nat.le_refl _
 |c::r,l,s,s',l',hv,hin,h=>by
  unfold eat at h
  by_cases ht:c.test (hd l)=true
  · rw [if_pos ht] at h;obtain ⟨h1,h2⟩:=hv.tail (hin c (by simp)) ht
    have:=jbd r l.tail (s++(hd l).t) s' l' h1 (fun d hd=>hin d (by simp [hd])) h
    have h3:=Short.hd hv.short;rw [List.length_append] at this;omega
  · rw [if_neg ht] at h;cases h
def PathAlt (bp tb bt:Nat) (R:PR (List UInt8)) (e:Nat) (wr:World):Prop:=
 (e≠0∧∃ m,R=.err e m∧PAt wr bp tb m)∨(e=0∧∃ f m s,pathL f m s=R∧m.length<f∧Vd m∧m.length≤99∧s.length+256*m.length≤100000∧PAt wr bp tb m∧TxtAt 249 bt bt s wr)
structure PathSt (w:World) (bp tb bt:Nat) (R:PR (List UInt8)) (e:Nat) (wr:World):Prop where
 only:Only (fun k=>k=bp) w wr
 own:wr.heap[w.heap.size]?=some (.cells #[.int .i64 0,.string ⟨#[]⟩,.bool false,.int .u64 0] 34)
 lt:bp<w.heap.size∧tb<w.heap.size∧bt=w.heap.size+1
 alt:PathAlt bp tb bt R e wr
theorem jlt {w wx w':World} {x:Ending} {bp tb bt f:Nat} {m:List Tk} {s:List UInt8} {cs:List Cl} {R:PR (List UInt8)} (ho:Only (fun k=>k=bp) w wx) (hz:wx.heap[w.heap.size]?=some (.cells #[.int .i64 0,.string ⟨#[]⟩,.bool false,.int .u64 0] 34)) (lt:bp<w.heap.size∧tb<w.heap.size∧bt=w.heap.size+1)
  (hf:m.length<f+1) (hv:Vd m) (h99:m.length≤99) (hlen:s.length+256*m.length≤100000) (hin:∀ c∈cs,c.inner) (hne:cs≠[]) (hR:(match stepP cs m s with|.err e l'=>PR.err e l' |.ok s' l'=>pathL f l' s')=R)
  (h:StepTo wx bp tb bt (stepP cs m s) x w'):∃ e:Nat,x=.returned (.int .i64 (e:Nat))∧PathSt w bp tb bt R e w'∧(e=0→leftN w' bp<m.length):=by
 have hl:=jbl cs hin hne m s hv
 have hbd:∀ s' l',stepP cs m s=.ok s' l'→s'.length+256*l'.length≤s.length+256*m.length:=by
  intro s' l' h;unfold stepP at h
  split at h
  · exact jbd _ m s s' l' hv jb1 h
  · exact jbd _ m s s' l' hv hin h
 obtain ⟨h1,h2⟩:=h;have hO:Only (fun k=>k=bp) w w':=ho.trans h1 (fun i hi hk=>by have:=lt.2.2;omega);have hZ:w'.heap[w.heap.size]?=some (.cells #[.int .i64 0,.string ⟨#[]⟩,.bool false,.int .u64 0] 34):=h1.same hz (fun hk=>by have:=lt.2.2;have:=lt.1;omega)
 cases hs:stepP cs m s with
 |err e l'=>
  rw [hs] at h2 hl hR;exact ⟨e,h2.1,⟨hO,hZ,lt,.inl ⟨hl.2.2,l',hR.symm,h2.2⟩⟩,fun e0=>absurd e0 hl.2.2⟩
 |ok s' l'=>
  have hb:=hbd s' l' hs;rw [hs] at h2 hl hR;obtain ⟨hx,hp,ht⟩:=h2;exact ⟨0,hx,⟨hO,hZ,lt,.inr ⟨rfl,f,l',s',hR,by have:=hl.2;omega,hl.1,by have:=hl.2;omega,by omega,hp,ht⟩⟩,fun _=>by rw [hp.leftN];exact hl.2⟩
theorem jv4 (w:World) (o:Value) (ho:o=(.func (.func 216) #[] #[])):ClRow (w.alloc (.cells #[o] 95)) w.heap.size [.nm] [o]:=by
 refine ⟨jd w _,rfl,fun i hi=>?_⟩
 match i,hi with
 |0,_=>exact ho
theorem jv3 {w:World} {v:Value} {c:Cl} (h1:ClAt w c v):ClRow (w.alloc (.cells #[v,(.func (.func 216) #[] #[])] 95)) w.heap.size [c,.nm] [v,(.func (.func 216) #[] #[])]:=by
 refine ⟨jd w _,rfl,fun i hi=>?_⟩
 match i,hi with
 |0,_=>exact h1.next ((Below.refl _ _).alloc (Nat.le_refl _) _)
 |1,_=>exact rfl
theorem PathSt.next {w wr w':World} {bp tb bt:Nat} (h1:Only (fun k=>k=bp) w wr) (h2:wr.heap[w.heap.size]?=some (.cells #[.int .i64 0,.string ⟨#[]⟩,.bool false,.int .u64 0] 34)) (hb:Below wr.heap.size wr w'):Only (fun k=>k=bp) w w'∧w'.heap[w.heap.size]?=some (.cells #[.int .i64 0,.string ⟨#[]⟩,.bool false,.int .u64 0] 34):=⟨h1.step hb,rowKeep hb h2⟩
theorem endPath {V:World} {act:Act} {Q:Ending→World→Prop} {a0 a1 a2 a3:Value} {e:Int} (hd:act.defers=[]) (rb:Nat) (h2:act.tmps.getD 2 undef=.pointer (some ⟨rb,0,none⟩)) (h3:act.tmps.getD 3 undef=.int .i64 e) (hr:V.heap[rb]?=some (.cells #[a0,a1,a2,a3] 34))
  (hQ:Q (.returned (.tuple #[.agg #[a0,a1,a2,a3],.int .i64 e])) V):bodyPost Tryz.prog Tryz.f187 Q Exit.ret act V:=by
 refine bodyPost_ret (v:=.tuple #[.agg #[a0,a1,a2,a3],.int .i64 e]) ?_ hd hQ;have hl2:=run_loadVar_row (P:=Tryz.prog) V rb 34 34 #[a0,a1,a2,a3] _ _ hr Tryz.underlying34 rfl (by kernel_rfl);rw [Array.getD_eq_getD_getElem?] at h2 h3;simp [results,Tryz.results187,asAddr,hl2,h2,h3]
theorem jl2 {e n:Nat} {w5 wr:World} {bp:Nat} (h:e=0→leftN w5 bp<n) (hl:leftN wr bp=n):(if intOf (.int .i64 (e:Nat))=0 then leftN w5 bp+1 else 0)<(if intOf (.int .i64 0)=0 then leftN wr bp+1 else 0):=by
 by_cases h0:e=0
 · have:=h h0
   subst h0
   show leftN w5 bp+1<leftN wr bp+1
   omega
 · have h1:¬intOf (.int .i64 (e:Nat))=0:=by show ¬((e:Nat):Int)=0;omega
   rw [if_neg h1]
   show 0<leftN wr bp+1
   omega
theorem jqd (bp tb:Nat) (l:List Tk) (w:World) (hp:PAt w bp tb l) (hv:Vd l) (h99:l.length≤99):
  Calls Tryz.prog 187 #[.pointer (some ⟨bp,0,none⟩)] w (OpTo w bp tb (pathP l)):=by
 have hpos:=hv.pos;have hpl:=hp.blt;have htl:=hp.lt;obtain ⟨R,hR⟩:∃ R,pathS l=R:=⟨_,rfl⟩
 have hP:pathP l=pathO R:=by rw [←hR];rfl
 rw [hP];have HR:=lh hR
 have HBT:=lh (show TxtAt 249 (w.heap.size+1) (w.heap.size+1) [] ((w.alloc (.cells #[.int .i64 0,.string ⟨#[]⟩,.bool false,.int .u64 0] 34)).alloc (.cells #[.pointer none,.slice none 0 0] 249)) by
  have:=Lib.fresh_isBuilder 249 5 (w.alloc (.cells #[.int .i64 0,.string ⟨#[]⟩,.bool false,.int .u64 0] 34))
  have e:(w.alloc (.cells #[.int .i64 0,.string ⟨#[]⟩,.bool false,.int .u64 0] 34)).heap.size=w.heap.size+1:=by simp
  rw [e] at this;exact this)
 have hb0:Below w.heap.size w ((w.alloc (.cells #[.int .i64 0,.string ⟨#[]⟩,.bool false,.int .u64 0] 34)).alloc (.cells #[.pointer none,.slice none 0 0] 249)):=((Below.refl w.heap.size w).alloc (Nat.le_refl _) _).alloc (by simp) _
 have es:((w.alloc (.cells #[.int .i64 0,.string ⟨#[]⟩,.bool false,.int .u64 0] 34)).alloc (.cells #[.pointer none,.slice none 0 0] 249)).heap.size=w.heap.size+1+1:=by simp
 have hz0:((w.alloc (.cells #[.int .i64 0,.string ⟨#[]⟩,.bool false,.int .u64 0] 34)).alloc (.cells #[.pointer none,.slice none 0 0] 249)).heap[w.heap.size]?=some (.cells #[.int .i64 0,.string ⟨#[]⟩,.bool false,.int .u64 0] 34):=je (jd w _)
 have HST:=lh (show Calls Tryz.prog 215 #[.pointer (some ⟨bp,0,none⟩),.pointer (some ⟨w.heap.size+1,0,none⟩),.slice (some ⟨w.heap.size+1+1,0,none⟩) 1 1] (((w.alloc (.cells #[.int .i64 0,.string ⟨#[]⟩,.bool false,.int .u64 0] 34)).alloc (.cells #[.pointer none,.slice none 0 0] 249)).alloc (.cells #[.func (.func 216) #[] #[]] 95)) (fun x w'=>∃ e:Nat,x=.returned (.int .i64 (e:Nat))∧PathSt w bp tb (w.heap.size+1) R e w') by
  have hb1:Below ((w.alloc (.cells #[.int .i64 0,.string ⟨#[]⟩,.bool false,.int .u64 0] 34)).alloc (.cells #[.pointer none,.slice none 0 0] 249)).heap.size ((w.alloc (.cells #[.int .i64 0,.string ⟨#[]⟩,.bool false,.int .u64 0] 34)).alloc (.cells #[.pointer none,.slice none 0 0] 249)) (((w.alloc (.cells #[.int .i64 0,.string ⟨#[]⟩,.bool false,.int .u64 0] 34)).alloc (.cells #[.pointer none,.slice none 0 0] 249)).alloc (.cells #[.func (.func 216) #[] #[]] 95)):=(Below.refl _ _).alloc (Nat.le_refl _) _;have hrow:=jv4 ((w.alloc (.cells #[.int .i64 0,.string ⟨#[]⟩,.bool false,.int .u64 0] 34)).alloc (.cells #[.pointer none,.slice none 0 0] 249)) (.func (.func 216) #[] #[]) rfl;rw [es] at hrow
  have hst:StepSt (((w.alloc (.cells #[.int .i64 0,.string ⟨#[]⟩,.bool false,.int .u64 0] 34)).alloc (.cells #[.pointer none,.slice none 0 0] 249)).alloc (.cells #[.func (.func 216) #[] #[]] 95)) bp tb (w.heap.size+1) (w.heap.size+1+1) [.nm] [.func (.func 216) #[] #[]] l [] (((w.alloc (.cells #[.int .i64 0,.string ⟨#[]⟩,.bool false,.int .u64 0] 34)).alloc (.cells #[.pointer none,.slice none 0 0] 249)).alloc (.cells #[.func (.func 216) #[] #[]] 95)):=
   ⟨(hp.next hb0).next hb1,HBT.out.next hb1,hrow,Only.refl _ _,by omega,by omega⟩
  have hin:∀ c∈[Cl.nm],c.inner:=by intro c hc;simp at hc;rw [hc];trivial
  refine (jhx [.nm] hin (by simp) [.func (.func 216) #[] #[]] bp tb (w.heap.size+1) (w.heap.size+1+1) l [] _ hst hv hv.short h99 (by simp;omega)).mono ?_;intro x w' h;obtain ⟨e,h1,h2,_⟩:=jlt (f:=100) (R:=R) ((Only.of_below (S:=fun k=>k=bp) hb0).step hb1) (rowKeep hb1 hz0) ⟨hpl,htl,rfl⟩ (by omega) hv h99 (by simp;omega) hin (by simp) (by rw [←hR];rfl) h
  exact ⟨e,h1,h2⟩)
 clear hz0 es hb0 hP;go_enter Tryz.func187,Tryz.ntmps187;go_wp2_with (go_at_call 215;refine (HST.out).mono ?_;rintro e w0 ⟨e0,rfl,hs0⟩;have HS0:=lh hs0;clear hs0);clear hp hv h99 hpos HBT HST HR hR
 go_loopw [5] (fun v wr=>∃ e:Nat,v=.int .i64 (e:Nat)∧Hid (PathSt w bp tb (w.heap.size+1) R e wr)) (fun v wr=>if intOf v=0 then leftN wr bp+1 else 0)
 case atStart=>exact ⟨e0,rfl,HS0⟩
 case round=>
  obtain ⟨e,rfl,HS⟩:=hrel;have halt:=HS.out.alt;unfold PathAlt at halt
  rcases halt with ⟨hne,m,hRe,hpm⟩|⟨rfl,f,m,s,hRe,hmf,hvm,hm99,hlen,hpm,htx⟩
  · have q1:(((e:Nat):Int)==0)=false:=beq_eq_false_iff_ne.2 (by omega)
    have q2:(((e:Nat):Int) !=0)=true:=by simp;omega
    have hzz:=HS.out.own;obtain ⟨r0,f0,r1,f1,r2,f2,r3,f3⟩:=bf4 hzz;have HPM:=lh hpm;have HRE:=lh hRe;clear hRe hpm hzz;go_wp2;have hO:=qu (b:=w.heap.size) HS.out.only (.inr (Nat.le_refl _)) (.int .i64 0) (.string ⟨#[]⟩) (.bool false) (.int .u64 0);refine endPath rfl w.heap.size rfl rfl (qw HS.out.own _ _ _ _) ?_;rw [HRE.out];exact ⟨hO,rfl,HPM.out.only (K:=fun k=>k=w.heap.size) (qu (S:=fun k=>k=w.heap.size) (Only.refl _ _) (.inl rfl) _ _ _ _) (by omega) (by omega)⟩
  · obtain ⟨g,rfl⟩:∃ g,f=g+1:=⟨f - 1,by omega⟩;have hm0:=hvm.pos;have hln:=hpm.leftN
    have HST:=lh (show ((cDot.test (hd m)||cOpen.test (hd m))=true)→∀ (wx:World) (gg:Nat) (lb:Array Value),Below wr.heap.size wr wx→ClAt wx cDot (.func (.func gg) #[] lb)→Calls Tryz.prog 215 #[.pointer (some ⟨bp,0,none⟩),.pointer (some ⟨w.heap.size+1,0,none⟩),.slice (some ⟨wx.heap.size,0,none⟩) 2 2] (wx.alloc (.cells #[.func (.func gg) #[] lb,.func (.func 216) #[] #[]] 95)) (fun x w'=>∃ e:Nat,x=.returned (.int .i64 (e:Nat))∧PathSt w bp tb (w.heap.size+1) R e w'∧(e=0→leftN w' bp<m.length)) by
     intro htest wx gg lb hbx hcx;have hb1:Below wx.heap.size wx (wx.alloc (.cells #[.func (.func gg) #[] lb,.func (.func 216) #[] #[]] 95)):=(Below.refl _ _).alloc (Nat.le_refl _) _;have hb2:=bthen hbx hb1;refine (jhx [cDot,.nm] dotName (by simp) [.func (.func gg) #[] lb,.func (.func 216) #[] #[]] bp tb (w.heap.size+1) wx.heap.size m s _ ⟨hpm.next hb2,htx.next hb2,jv3 hcx,Only.refl _ _,by omega,by omega⟩ hvm hvm.short hm99 hlen).mono ?_;intro x w' h;have hn:=PathSt.next (tb:=tb) (bt:=0) HS.out.only HS.out.own hb2
     exact jlt (f:=g) (R:=R) hn.1 hn.2 HS.out.lt (by omega) hvm hm99 hlen dotName (by simp) (by rw [←hRe,pathL,if_pos htest];cases stepP [cDot,.nm] m s <;> rfl) h)
    have HAT1:=lh (fun (v:Value) wx (hb:Below wr.heap.size wr wx) (hc:ClAt wx cDot v)=>kq bp tb m cDot v wx (hpm.next hb) hc hm0 hm99 (Short.hd hvm.short));have HAT2:=lh (fun (v:Value) wx (hb:Below wr.heap.size wr wx) (hc:ClAt wx cOpen v)=>kq bp tb m cOpen v wx (hpm.next hb) hc hm0 hm99 (Short.hd hvm.short));have HSG:=lh (fun wx (hb:Below wr.heap.size wr wx)=>Tryz.Builder_String_any (w.heap.size+1) (w.heap.size+1) s wx (htx.next hb) (by have:=hb.size;have:=htx.lt;omega))
    have HEND:=lh (show ∀ wx w5,Below wr.heap.size wr wx→Below (w.heap.size+1) wx w5→w5.heap[w.heap.size]?=some (.cells #[.int .i64 0,.string ⟨#[]⟩,.bool false,.int .u64 0] 34)∧PAt w5 bp tb m∧Only (fun k=>k=bp) w w5 from fun wx w5 h1 h2=>by
     have hn:=PathSt.next (tb:=tb) (bt:=0) HS.out.only HS.out.own h1;have ho:Only (fun k=>w.heap.size+1≤k) wx w5:=⟨h2.os,h2.tape,h2.output,h2.size,fun k _ hk=>h2.block k (by omega)⟩
     exact ⟨ho.same hn.2 (by omega),(hpm.next h1).only ho (by omega) (by omega),hn.1.trans ho (fun i hi hk=>by omega)⟩)
    have HRE:=lh (show ((cDot.test (hd m)||cOpen.test (hd m))=false)→R=.ok s m from fun h=>by rw [←hRe,pathL,h];rfl);clear hRe hvm hm99 hlen hpm htx hmf;obtain ⟨d,hd1⟩:∃ d,cDot.test (hd m)=d:=⟨_,rfl⟩;obtain ⟨o,ho1⟩:∃ o,cOpen.test (hd m)=o:=⟨_,rfl⟩;rw [hd1] at HAT1 HST HRE;rw [ho1] at HAT2 HST HRE;clear hd1 ho1
    cases d with
    |true=>
     have HST:=lh (HST.out rfl)
     go_wp2_with (first
      |(go_at_call 215;refine (HST.out _ _ _ HB1.out HC1.out).mono ?_;rintro e w5 ⟨e5,rfl,hs5,hm5⟩;have HS5:=lh hs5;have HM5:=lh hm5;clear hs5 hm5)
      |(go_at_call 44;refine (HAT1.out _ _ HB1.out HC1.out).mono ?_;rintro e w2 ⟨rfl,hb2⟩;have HB2:=lh (bthen HB1.out hb2);clear hb2)
      |(go_at_call 117;refine (jm [46] _ rfl _).mono ?_;rintro e w1 ⟨g1,lb1,rfl,hc1,hb1⟩;have HB1:=lh (show Below wr.heap.size wr w1 by first|exact bthen HB4.out hb1|exact bthen HB2.out hb1|exact hb1);have HC1:=lh hc1;clear hc1 hb1))
     go_roundw
     case rel=>exact ⟨e5,rfl,HS5⟩
     case measure=>exact jl2 HM5.out hln
    |false=>
     cases o with
     |true=>
      have HST:=lh (HST.out rfl)
      go_wp2_with (first
       |(go_at_call 215;refine (HST.out _ _ _ HB1.out HC1.out).mono ?_;rintro e w5 ⟨e5,rfl,hs5,hm5⟩;have HS5:=lh hs5;have HM5:=lh hm5;clear hs5 hm5)
       |(go_at_call 44;refine (HAT2.out _ _ HB3.out HC3.out).mono ?_;rintro e w4 ⟨rfl,hb4⟩;have HB4:=lh (bthen HB3.out hb4);clear hb4)
       |(go_at_call 117;refine (jm [91] _ rfl _).mono ?_;rintro e w3 ⟨g3,lb3,rfl,hc3,hb3⟩;have HB3:=lh (bthen HB2.out hb3);have HC3:=lh hc3;clear hc3 hb3)
       |(go_at_call 44;refine (HAT1.out _ _ HB1.out HC1.out).mono ?_;rintro e w2 ⟨rfl,hb2⟩;have HB2:=lh (bthen HB1.out hb2);clear hb2)
       |(go_at_call 117;refine (jm [46] _ rfl _).mono ?_;rintro e w1 ⟨g1,lb1,rfl,hc1,hb1⟩;have HB1:=lh (show Below wr.heap.size wr w1 by first|exact bthen HB4.out hb1|exact bthen HB2.out hb1|exact hb1);have HC1:=lh hc1;clear hc1 hb1))
      go_roundw
      case rel=>exact ⟨e5,rfl,HS5⟩
      case measure=>exact jl2 HM5.out hln
     |false=>
      have HRE:=lh (HRE.out rfl)
      go_wp2_with (first
       |(go_at_call 217;refine (HSG.out _ HB4.out).mono ?_;rintro e w5 ⟨rfl,hb5⟩;have HZ5:=lh (HEND.out _ _ HB4.out hb5);have hzz:=HZ5.out.1;obtain ⟨r0,f0,r1,f1,r2,f2,r3,f3⟩:=bf4 hzz;clear hzz;clear hb5)
       |(go_at_call 44;refine (HAT2.out _ _ HB3.out HC3.out).mono ?_;rintro e w4 ⟨rfl,hb4⟩;have HB4:=lh (bthen HB3.out hb4);clear hb4)
       |(go_at_call 117;refine (jm [91] _ rfl _).mono ?_;rintro e w3 ⟨g3,lb3,rfl,hc3,hb3⟩;have HB3:=lh (bthen HB2.out hb3);have HC3:=lh hc3;clear hc3 hb3)
       |(go_at_call 44;refine (HAT1.out _ _ HB1.out HC1.out).mono ?_;rintro e w2 ⟨rfl,hb2⟩;have HB2:=lh (bthen HB1.out hb2);clear hb2)
       |(go_at_call 117;refine (jm [46] _ rfl _).mono ?_;rintro e w1 ⟨g1,lb1,rfl,hc1,hb1⟩;have HB1:=lh (show Below wr.heap.size wr w1 by first|exact bthen HB4.out hb1|exact bthen HB2.out hb1|exact hb1);have HC1:=lh hc1;clear hc1 hb1))
      have hO:=qu (b:=w.heap.size) HZ5.out.2.2 (.inr (Nat.le_refl _)) (.int .i64 1) (.string ⟨s.toArray⟩) (.bool false) (.int .u64 0);refine endPath rfl w.heap.size rfl rfl (qw HZ5.out.1 _ _ _ _) ?_;rw [HRE.out];exact ⟨hO,rfl,HZ5.out.2.1.only (K:=fun k=>k=w.heap.size) (qu (S:=fun k=>k=w.heap.size) (Only.refl _ _) (.inl rfl) _ _ _ _) (by omega) (by omega)⟩
def AnsO (r:PR Opd) (o:Opd) (e:Nat) (l':List Tk):Prop:=(e=0∧r=.ok o l')∨(o=default∧r=.err e l')
theorem OpTo.gen {w w':World} {bp tb:Nat} {r:PR Opd} {x:Ending} (h:OpTo w bp tb r x w'):∃ (o:Opd) (e:Nat) (l':List Tk),x=.returned (.tuple #[.agg #[.int .i64 o.kind,.string o.text,.bool o.neg,.int .u64 o.num],.int .i64 (e:Nat)])∧PAt w' bp tb l'∧Only (fun k=>k=bp) w w'∧AnsO r o e l':=by
 obtain ⟨ho,h⟩:=h
 cases r with
 |err e l'=>exact ⟨default,e,l',h.1,h.2,ho,.inr ⟨rfl,rfl⟩⟩
 |ok o l'=>exact ⟨o,0,l',h.1,h.2,ho,.inl ⟨rfl,rfl⟩⟩
theorem OpTo.of {w w':World} {bp tb:Nat} {r:PR Opd} {o:Opd} {e:Nat} {l':List Tk} (hp:PAt w' bp tb l') (ho:Only (fun k=>k=bp) w w') (ha:AnsO r o e l'):
  OpTo w bp tb r (.returned (.tuple #[.agg #[.int .i64 o.kind,.string o.text,.bool o.neg,.int .u64 o.num],.int .i64 (e:Nat)])) w':=by
 rcases ha with ⟨rfl,rfl⟩|⟨rfl,rfl⟩
 · exact ⟨ho,rfl,hp⟩
 · exact ⟨ho,rfl,hp⟩
theorem endOpd {V:World} {act:Act} {Q:Ending→World→Prop} {a0 a1 a2 a3:Value} {e:Int} (hd:act.defers=[]) (rb:Nat) (h2:act.tmps.getD 2 undef=.pointer (some ⟨rb,0,none⟩)) (h3:act.tmps.getD 3 undef=.int .i64 e) (hr:V.heap[rb]?=some (.cells #[a0,a1,a2,a3] 34))
  (hQ:Q (.returned (.tuple #[.agg #[a0,a1,a2,a3],.int .i64 e])) V):bodyPost Tryz.prog Tryz.f157 Q Exit.ret act V:=by
 refine bodyPost_ret (v:=.tuple #[.agg #[a0,a1,a2,a3],.int .i64 e]) ?_ hd hQ;have hl2:=run_loadVar_row (P:=Tryz.prog) V rb 34 34 #[a0,a1,a2,a3] _ _ hr Tryz.underlying34 rfl (by kernel_rfl);rw [Array.getD_eq_getD_getElem?] at h2 h3;simp [results,Tryz.results157,asAddr,hl2,h2,h3]
theorem jbt (bp tb:Nat) (l:List Tk) (w:World) (hp:PAt w bp tb l) (hv:Vd l) (h99:l.length≤99):
  Calls Tryz.prog 157 #[.pointer (some ⟨bp,0,none⟩)] w (OpTo w bp tb (operandP l)):=by
 have hpos:=hv.pos
 have es:(w.alloc (.cells #[.int .i64 0,.string ⟨#[]⟩,.bool false,.int .u64 0] 34)).heap.size=w.heap.size+1:=by simp
 have HP0:=lh (show PSt w bp tb [(w.heap.size+1,(.cells #[.int .i64 ((hd l).k:Nat),.string (bs (hd l).t),.int .u64 ((hd l).n:Nat),.int .i64 ((hd l).a:Nat)] 98)),(w.heap.size,(.cells #[.int .i64 0,.string ⟨#[]⟩,.bool false,.int .u64 0] 34))] l ((w.alloc (.cells #[.int .i64 0,.string ⟨#[]⟩,.bool false,.int .u64 0] 34)).alloc (.cells #[.int .i64 ((hd l).k:Nat),.string (bs (hd l).t),.int .u64 ((hd l).n:Nat),.int .i64 ((hd l).a:Nat)] 98)) from by
  have:=((PSt.start hp).new (.cells #[.int .i64 0,.string ⟨#[]⟩,.bool false,.int .u64 0] 34)).new (.cells #[.int .i64 ((hd l).k:Nat),.string (bs (hd l).t),.int .u64 ((hd l).n:Nat),.int .i64 ((hd l).a:Nat)] 98)
  rw [es] at this;exact this)
 have hbl:=hp.blt
 have hbn:¬bp=w.heap.size:=by omega
 have htl:=hp.lt
 have htn:¬tb=w.heap.size:=by omega
 obtain ⟨_,_,off,cap,hbx,hcap,htk⟩:=hp;have p0:w.cell? ⟨bp,0,none⟩=some (.slice (some ⟨tb,off,none⟩) l.length cap):=ja hbx rfl;have hh:=htk.head (by first|assumption|omega);have t0:w.cell? ⟨tb,off,none⟩=some (.int .i64 ((hd l).k:Nat)):=hh 0 _ rfl;have t1:w.cell? ⟨tb,off+1,none⟩=some (.string (bs (hd l).t)):=hh 1 _ rfl;have t2:w.cell? ⟨tb,off+2,none⟩=some (.int .u64 ((hd l).n:Nat)):=hh 2 _ rfl;have t3:w.cell? ⟨tb,off+3,none⟩=some (.int .i64 ((hd l).a:Nat)):=hh 3 _ rfl;clear hh hbx htk
 cases h0:(Cl.kd 3).test (hd l) with
 |true=>
   obtain ⟨hv2,hl2⟩:=hv.tail (by simp [Cl.inner]) h0;have hp2:=hv2.pos
   have hN:operandP l=.ok ⟨3,⟨(hd l).t.toArray⟩,false,0⟩ l.tail:=by unfold operandP;rw [if_pos h0]
   rw [hN];have HS0:=lh (fun (v:Value) wx (hp2:PAt wx bp tb l) (hc:ClAt wx (.kd 3) v)=>qf bp tb l (.kd 3) v wx hp2 hc (by omega) (by omega) (Short.hd hv.short) h0);clear hN;go_enter Tryz.func157,Tryz.ntmps157
   go_wp2_with (first
    |(go_at_call 119;refine (HS0.out _ _ HP1.out.pat HC1.out).mono ?_;rintro e w2 ⟨rfl,hp2,ho2⟩;have HP2:=lh (HP1.out.skip hp2 ho2);clear hp2 ho2;have htt:=(HP2.out.own _ List.mem_cons_self).1;have x1:w2.cell? ⟨w.heap.size+1,1,none⟩=some (.string (bs (hd l).t)):=ja htt rfl;have x2:w2.cell? ⟨w.heap.size+1,2,none⟩=some (.int .u64 ((hd l).n:Nat)):=ja htt rfl;clear htt;have hzz:=(HP2.out.own _ (List.mem_cons_of_mem _ List.mem_cons_self)).1;obtain ⟨r0,f0,r1,f1,r2,f2,r3,f3⟩:=bf4 hzz;clear hzz)
    |(go_at_call 45;refine (jv 3 _).mono ?_;rintro e w1 ⟨g1,lb1,rfl,hc1,hb1⟩;have HP1:=lh (HP0.out.next hb1);have HC1:=lh hc1;clear hc1 hb1))
   have hF:=HP2.out.put (Nat.le_refl _) (.int .i64 3) (.string (bs (hd l).t)) (.bool false) (.int .u64 0);exact endOpd rfl w.heap.size rfl rfl (qw (HP2.out.own _ (List.mem_cons_of_mem _ List.mem_cons_self)).1 _ _ _ _) ⟨hF.2,rfl,hF.1⟩
 |false=>
  have HS0:=lh (fun (v:Value) wx (hp2:PAt wx bp tb l) (hc:ClAt wx (.kd 3) v)=>yh bp tb l (.kd 3) v wx hp2 hc (by omega) (by omega) (Short.hd hv.short) h0)
  cases h1:(Cl.kd 4).test (hd l) with
  |true=>
    obtain ⟨hv2,hl2⟩:=hv.tail (by simp [Cl.inner]) h1;have hp2:=hv2.pos
    have hN:operandP l=.ok ⟨5,⟨#[]⟩,false,((hd l).n:Nat)⟩ l.tail:=by unfold operandP;rw [if_neg (by simpa using h0)];rw [if_pos h1]
    rw [hN];have HS1:=lh (fun (v:Value) wx (hp2:PAt wx bp tb l) (hc:ClAt wx (.kd 4) v)=>qf bp tb l (.kd 4) v wx hp2 hc (by omega) (by omega) (Short.hd hv.short) h1);clear hN;go_enter Tryz.func157,Tryz.ntmps157
    go_wp2_with (first
     |(go_at_call 119;refine (HS1.out _ _ HP3.out.pat HC3.out).mono ?_;rintro e w4 ⟨rfl,hp4,ho4⟩;have HP4:=lh (HP3.out.skip hp4 ho4);clear hp4 ho4;have htt:=(HP4.out.own _ List.mem_cons_self).1;have x1:w4.cell? ⟨w.heap.size+1,1,none⟩=some (.string (bs (hd l).t)):=ja htt rfl;have x2:w4.cell? ⟨w.heap.size+1,2,none⟩=some (.int .u64 ((hd l).n:Nat)):=ja htt rfl;clear htt;have hzz:=(HP4.out.own _ (List.mem_cons_of_mem _ List.mem_cons_self)).1;obtain ⟨r0,f0,r1,f1,r2,f2,r3,f3⟩:=bf4 hzz;clear hzz)
     |(go_at_call 45;refine (jv 4 _).mono ?_;rintro e w3 ⟨g3,lb3,rfl,hc3,hb3⟩;have HP3:=lh (HP2.out.next hb3);have HC3:=lh hc3;clear hc3 hb3)
     |(go_at_call 119;refine (HS0.out _ _ HP1.out.pat HC1.out).mono ?_;rintro e w2 ⟨rfl,hb2⟩;have HP2:=lh (HP1.out.next hb2);clear hb2)
     |(go_at_call 45;refine (jv 3 _).mono ?_;rintro e w1 ⟨g1,lb1,rfl,hc1,hb1⟩;have HP1:=lh (HP0.out.next hb1);have HC1:=lh hc1;clear hc1 hb1))
    have hF:=HP4.out.put (Nat.le_refl _) (.int .i64 5) (.string ⟨#[]⟩) (.bool false) (.int .u64 ((hd l).n:Nat));exact endOpd rfl w.heap.size rfl rfl (qw (HP4.out.own _ (List.mem_cons_of_mem _ List.mem_cons_self)).1 _ _ _ _) ⟨hF.2,rfl,hF.1⟩
  |false=>
   have HS1:=lh (fun (v:Value) wx (hp2:PAt wx bp tb l) (hc:ClAt wx (.kd 4) v)=>yh bp tb l (.kd 4) v wx hp2 hc (by omega) (by omega) (Short.hd hv.short) h1)
   cases h2:(Cl.wd kTRUE).test (hd l) with
   |true=>
     obtain ⟨hv2,hl2⟩:=hv.tail (by simp [Cl.inner]) h2;have hp2:=hv2.pos
     have hN:operandP l=.ok ⟨4,⟨#[]⟩,false,1⟩ l.tail:=by unfold operandP;rw [if_neg (by simpa using h0)];rw [if_neg (by simpa using h1)];rw [if_pos h2]
     rw [hN];have HS2:=lh (fun (v:Value) wx (hp2:PAt wx bp tb l) (hc:ClAt wx (.wd kTRUE) v)=>qf bp tb l (.wd kTRUE) v wx hp2 hc (by omega) (by omega) (Short.hd hv.short) h2);clear hN;go_enter Tryz.func157,Tryz.ntmps157
     go_wp2_with (first
      |(go_at_call 119;refine (HS2.out _ _ HP5.out.pat HC5.out).mono ?_;rintro e w6 ⟨rfl,hp6,ho6⟩;have HP6:=lh (HP5.out.skip hp6 ho6);clear hp6 ho6;have htt:=(HP6.out.own _ List.mem_cons_self).1;have x1:w6.cell? ⟨w.heap.size+1,1,none⟩=some (.string (bs (hd l).t)):=ja htt rfl;have x2:w6.cell? ⟨w.heap.size+1,2,none⟩=some (.int .u64 ((hd l).n:Nat)):=ja htt rfl;clear htt;have hzz:=(HP6.out.own _ (List.mem_cons_of_mem _ List.mem_cons_self)).1;obtain ⟨r0,f0,r1,f1,r2,f2,r3,f3⟩:=bf4 hzz;clear hzz)
      |(go_at_call 116;refine (jh kTRUE _ rfl _).mono ?_;rintro e w5 ⟨g5,lb5,rfl,hc5,hb5⟩;have HP5:=lh (HP4.out.next hb5);have HC5:=lh hc5;clear hc5 hb5)
      |(go_at_call 119;refine (HS1.out _ _ HP3.out.pat HC3.out).mono ?_;rintro e w4 ⟨rfl,hb4⟩;have HP4:=lh (HP3.out.next hb4);clear hb4)
      |(go_at_call 45;refine (jv 4 _).mono ?_;rintro e w3 ⟨g3,lb3,rfl,hc3,hb3⟩;have HP3:=lh (HP2.out.next hb3);have HC3:=lh hc3;clear hc3 hb3)
      |(go_at_call 119;refine (HS0.out _ _ HP1.out.pat HC1.out).mono ?_;rintro e w2 ⟨rfl,hb2⟩;have HP2:=lh (HP1.out.next hb2);clear hb2)
      |(go_at_call 45;refine (jv 3 _).mono ?_;rintro e w1 ⟨g1,lb1,rfl,hc1,hb1⟩;have HP1:=lh (HP0.out.next hb1);have HC1:=lh hc1;clear hc1 hb1))
     have hF:=HP6.out.put (Nat.le_refl _) (.int .i64 4) (.string ⟨#[]⟩) (.bool false) (.int .u64 1);exact endOpd rfl w.heap.size rfl rfl (qw (HP6.out.own _ (List.mem_cons_of_mem _ List.mem_cons_self)).1 _ _ _ _) ⟨hF.2,rfl,hF.1⟩
   |false=>
    have HS2:=lh (fun (v:Value) wx (hp2:PAt wx bp tb l) (hc:ClAt wx (.wd kTRUE) v)=>yh bp tb l (.wd kTRUE) v wx hp2 hc (by omega) (by omega) (Short.hd hv.short) h2)
    cases h3:(Cl.wd kFALSE).test (hd l) with
    |true=>
      obtain ⟨hv2,hl2⟩:=hv.tail (by simp [Cl.inner]) h3;have hp2:=hv2.pos
      have hN:operandP l=.ok ⟨4,⟨#[]⟩,false,0⟩ l.tail:=by unfold operandP;rw [if_neg (by simpa using h0)];rw [if_neg (by simpa using h1)];rw [if_neg (by simpa using h2)];rw [if_pos h3]
      rw [hN];have HS3:=lh (fun (v:Value) wx (hp2:PAt wx bp tb l) (hc:ClAt wx (.wd kFALSE) v)=>qf bp tb l (.wd kFALSE) v wx hp2 hc (by omega) (by omega) (Short.hd hv.short) h3);clear hN;go_enter Tryz.func157,Tryz.ntmps157
      go_wp2_with (first
       |(go_at_call 119;refine (HS3.out _ _ HP7.out.pat HC7.out).mono ?_;rintro e w8 ⟨rfl,hp8,ho8⟩;have HP8:=lh (HP7.out.skip hp8 ho8);clear hp8 ho8;have htt:=(HP8.out.own _ List.mem_cons_self).1;have x1:w8.cell? ⟨w.heap.size+1,1,none⟩=some (.string (bs (hd l).t)):=ja htt rfl;have x2:w8.cell? ⟨w.heap.size+1,2,none⟩=some (.int .u64 ((hd l).n:Nat)):=ja htt rfl;clear htt;have hzz:=(HP8.out.own _ (List.mem_cons_of_mem _ List.mem_cons_self)).1;obtain ⟨r0,f0,r1,f1,r2,f2,r3,f3⟩:=bf4 hzz;clear hzz)
       |(go_at_call 116;refine (jh kFALSE _ rfl _).mono ?_;rintro e w7 ⟨g7,lb7,rfl,hc7,hb7⟩;have HP7:=lh (HP6.out.next hb7);have HC7:=lh hc7;clear hc7 hb7)
       |(go_at_call 119;refine (HS2.out _ _ HP5.out.pat HC5.out).mono ?_;rintro e w6 ⟨rfl,hb6⟩;have HP6:=lh (HP5.out.next hb6);clear hb6)
       |(go_at_call 116;refine (jh kTRUE _ rfl _).mono ?_;rintro e w5 ⟨g5,lb5,rfl,hc5,hb5⟩;have HP5:=lh (HP4.out.next hb5);have HC5:=lh hc5;clear hc5 hb5)
       |(go_at_call 119;refine (HS1.out _ _ HP3.out.pat HC3.out).mono ?_;rintro e w4 ⟨rfl,hb4⟩;have HP4:=lh (HP3.out.next hb4);clear hb4)
       |(go_at_call 45;refine (jv 4 _).mono ?_;rintro e w3 ⟨g3,lb3,rfl,hc3,hb3⟩;have HP3:=lh (HP2.out.next hb3);have HC3:=lh hc3;clear hc3 hb3)
       |(go_at_call 119;refine (HS0.out _ _ HP1.out.pat HC1.out).mono ?_;rintro e w2 ⟨rfl,hb2⟩;have HP2:=lh (HP1.out.next hb2);clear hb2)
       |(go_at_call 45;refine (jv 3 _).mono ?_;rintro e w1 ⟨g1,lb1,rfl,hc1,hb1⟩;have HP1:=lh (HP0.out.next hb1);have HC1:=lh hc1;clear hc1 hb1))
      have hF:=HP8.out.put (Nat.le_refl _) (.int .i64 4) (.string ⟨#[]⟩) (.bool false) (.int .u64 0);exact endOpd rfl w.heap.size rfl rfl (qw (HP8.out.own _ (List.mem_cons_of_mem _ List.mem_cons_self)).1 _ _ _ _) ⟨hF.2,rfl,hF.1⟩
    |false=>
     have HS3:=lh (fun (v:Value) wx (hp2:PAt wx bp tb l) (hc:ClAt wx (.wd kFALSE) v)=>yh bp tb l (.wd kFALSE) v wx hp2 hc (by omega) (by omega) (Short.hd hv.short) h3)
     cases h4:cMinus.test (hd l) with
     |true=>
       have HS4:=lh (show ∀ (v:Value) wx,PAt wx bp tb l→ClAt wx cMinus v→Calls Tryz.prog 44 #[.pointer (some ⟨bp,0,none⟩),v] wx fun e w'=>e=.returned (.bool true)∧Below wx.heap.size wx w' from fun v wx hp2 hc=>by have:=kq bp tb l cMinus v wx hp2 hc (by omega) (by omega) (Short.hd hv.short);rwa [h4] at this)
       have hN:operandP l=numberP l:=by unfold operandP;rw [if_neg (by simpa using h0)];rw [if_neg (by simpa using h1)];rw [if_neg (by simpa using h2)];rw [if_neg (by simpa using h3)];rw [if_pos (by rw [h4];rfl)]
       rw [hN];have HNX:=lh (fun wx (hp2:PAt wx bp tb l)=>jc6 bp tb l wx hp2 hv h99);clear hN;go_enter Tryz.func157,Tryz.ntmps157
       go_wp2_with (first
        |(go_at_call 186;refine (HNX.out _ HP10.out.pat).mono ?_;rintro x wn hx;obtain ⟨o,en,ln,rfl,hpn,hon,han⟩:=hx.gen;have HPn:=lh (HP10.out.skip hpn hon);have HAN:=lh han;have hzz:=(HPn.out.own _ (List.mem_cons_of_mem _ List.mem_cons_self)).1;obtain ⟨r0,f0,r1,f1,r2,f2,r3,f3⟩:=bf4 hzz;clear hzz;clear hpn hon han hx)
        |(go_at_call 44;refine (HS4.out _ _ HP9.out.pat HC9.out).mono ?_;rintro e w10 ⟨rfl,hb10⟩;have HP10:=lh (HP9.out.next hb10);clear hb10)
        |(go_at_call 117;refine (jm [45] _ rfl _).mono ?_;rintro e w9 ⟨g9,lb9,rfl,hc9,hb9⟩;have HP9:=lh (HP8.out.next hb9);have HC9:=lh hc9;clear hc9 hb9)
        |(go_at_call 119;refine (HS3.out _ _ HP7.out.pat HC7.out).mono ?_;rintro e w8 ⟨rfl,hb8⟩;have HP8:=lh (HP7.out.next hb8);clear hb8)
        |(go_at_call 116;refine (jh kFALSE _ rfl _).mono ?_;rintro e w7 ⟨g7,lb7,rfl,hc7,hb7⟩;have HP7:=lh (HP6.out.next hb7);have HC7:=lh hc7;clear hc7 hb7)
        |(go_at_call 119;refine (HS2.out _ _ HP5.out.pat HC5.out).mono ?_;rintro e w6 ⟨rfl,hb6⟩;have HP6:=lh (HP5.out.next hb6);clear hb6)
        |(go_at_call 116;refine (jh kTRUE _ rfl _).mono ?_;rintro e w5 ⟨g5,lb5,rfl,hc5,hb5⟩;have HP5:=lh (HP4.out.next hb5);have HC5:=lh hc5;clear hc5 hb5)
        |(go_at_call 119;refine (HS1.out _ _ HP3.out.pat HC3.out).mono ?_;rintro e w4 ⟨rfl,hb4⟩;have HP4:=lh (HP3.out.next hb4);clear hb4)
        |(go_at_call 45;refine (jv 4 _).mono ?_;rintro e w3 ⟨g3,lb3,rfl,hc3,hb3⟩;have HP3:=lh (HP2.out.next hb3);have HC3:=lh hc3;clear hc3 hb3)
        |(go_at_call 119;refine (HS0.out _ _ HP1.out.pat HC1.out).mono ?_;rintro e w2 ⟨rfl,hb2⟩;have HP2:=lh (HP1.out.next hb2);clear hb2)
        |(go_at_call 45;refine (jv 3 _).mono ?_;rintro e w1 ⟨g1,lb1,rfl,hc1,hb1⟩;have HP1:=lh (HP0.out.next hb1);have HC1:=lh hc1;clear hc1 hb1))
       have hF:=HPn.out.put (Nat.le_refl _) (.int .i64 o.kind) (.string o.text) (.bool o.neg) (.int .u64 o.num);exact endOpd rfl w.heap.size rfl rfl (qw (HPn.out.own _ (List.mem_cons_of_mem _ List.mem_cons_self)).1 _ _ _ _) (OpTo.of hF.1 hF.2 HAN.out)
     |false=>
      have HS4:=lh (show ∀ (v:Value) wx,PAt wx bp tb l→ClAt wx cMinus v→Calls Tryz.prog 44 #[.pointer (some ⟨bp,0,none⟩),v] wx fun e w'=>e=.returned (.bool false)∧Below wx.heap.size wx w' from fun v wx hp2 hc=>by have:=kq bp tb l cMinus v wx hp2 hc (by omega) (by omega) (Short.hd hv.short);rwa [h4] at this)
      cases h5:(Cl.kd 2).test (hd l) with
      |true=>
        have HS5:=lh (show ∀ (v:Value) wx,PAt wx bp tb l→ClAt wx (.kd 2) v→Calls Tryz.prog 44 #[.pointer (some ⟨bp,0,none⟩),v] wx fun e w'=>e=.returned (.bool true)∧Below wx.heap.size wx w' from fun v wx hp2 hc=>by have:=kq bp tb l (.kd 2) v wx hp2 hc (by omega) (by omega) (Short.hd hv.short);rwa [h5] at this)
        have hN:operandP l=numberP l:=by unfold operandP;rw [if_neg (by simpa using h0)];rw [if_neg (by simpa using h1)];rw [if_neg (by simpa using h2)];rw [if_neg (by simpa using h3)];rw [if_pos (by rw [h5];simp)]
        rw [hN];have HNX:=lh (fun wx (hp2:PAt wx bp tb l)=>jc6 bp tb l wx hp2 hv h99);clear hN;go_enter Tryz.func157,Tryz.ntmps157
        go_wp2_with (first
         |(go_at_call 186;refine (HNX.out _ HP12.out.pat).mono ?_;rintro x wn hx;obtain ⟨o,en,ln,rfl,hpn,hon,han⟩:=hx.gen;have HPn:=lh (HP12.out.skip hpn hon);have HAN:=lh han;have hzz:=(HPn.out.own _ (List.mem_cons_of_mem _ List.mem_cons_self)).1;obtain ⟨r0,f0,r1,f1,r2,f2,r3,f3⟩:=bf4 hzz;clear hzz;clear hpn hon han hx)
         |(go_at_call 44;refine (HS5.out _ _ HP11.out.pat HC11.out).mono ?_;rintro e w12 ⟨rfl,hb12⟩;have HP12:=lh (HP11.out.next hb12);clear hb12)
         |(go_at_call 45;refine (jv 2 _).mono ?_;rintro e w11 ⟨g11,lb11,rfl,hc11,hb11⟩;have HP11:=lh (HP10.out.next hb11);have HC11:=lh hc11;clear hc11 hb11)
         |(go_at_call 44;refine (HS4.out _ _ HP9.out.pat HC9.out).mono ?_;rintro e w10 ⟨rfl,hb10⟩;have HP10:=lh (HP9.out.next hb10);clear hb10)
         |(go_at_call 117;refine (jm [45] _ rfl _).mono ?_;rintro e w9 ⟨g9,lb9,rfl,hc9,hb9⟩;have HP9:=lh (HP8.out.next hb9);have HC9:=lh hc9;clear hc9 hb9)
         |(go_at_call 119;refine (HS3.out _ _ HP7.out.pat HC7.out).mono ?_;rintro e w8 ⟨rfl,hb8⟩;have HP8:=lh (HP7.out.next hb8);clear hb8)
         |(go_at_call 116;refine (jh kFALSE _ rfl _).mono ?_;rintro e w7 ⟨g7,lb7,rfl,hc7,hb7⟩;have HP7:=lh (HP6.out.next hb7);have HC7:=lh hc7;clear hc7 hb7)
         |(go_at_call 119;refine (HS2.out _ _ HP5.out.pat HC5.out).mono ?_;rintro e w6 ⟨rfl,hb6⟩;have HP6:=lh (HP5.out.next hb6);clear hb6)
         |(go_at_call 116;refine (jh kTRUE _ rfl _).mono ?_;rintro e w5 ⟨g5,lb5,rfl,hc5,hb5⟩;have HP5:=lh (HP4.out.next hb5);have HC5:=lh hc5;clear hc5 hb5)
         |(go_at_call 119;refine (HS1.out _ _ HP3.out.pat HC3.out).mono ?_;rintro e w4 ⟨rfl,hb4⟩;have HP4:=lh (HP3.out.next hb4);clear hb4)
         |(go_at_call 45;refine (jv 4 _).mono ?_;rintro e w3 ⟨g3,lb3,rfl,hc3,hb3⟩;have HP3:=lh (HP2.out.next hb3);have HC3:=lh hc3;clear hc3 hb3)
         |(go_at_call 119;refine (HS0.out _ _ HP1.out.pat HC1.out).mono ?_;rintro e w2 ⟨rfl,hb2⟩;have HP2:=lh (HP1.out.next hb2);clear hb2)
         |(go_at_call 45;refine (jv 3 _).mono ?_;rintro e w1 ⟨g1,lb1,rfl,hc1,hb1⟩;have HP1:=lh (HP0.out.next hb1);have HC1:=lh hc1;clear hc1 hb1))
        have hF:=HPn.out.put (Nat.le_refl _) (.int .i64 o.kind) (.string o.text) (.bool o.neg) (.int .u64 o.num);exact endOpd rfl w.heap.size rfl rfl (qw (HPn.out.own _ (List.mem_cons_of_mem _ List.mem_cons_self)).1 _ _ _ _) (OpTo.of hF.1 hF.2 HAN.out)
      |false=>
         have HS5:=lh (show ∀ (v:Value) wx,PAt wx bp tb l→ClAt wx (.kd 2) v→Calls Tryz.prog 44 #[.pointer (some ⟨bp,0,none⟩),v] wx fun e w'=>e=.returned (.bool false)∧Below wx.heap.size wx w' from fun v wx hp2 hc=>by have:=kq bp tb l (.kd 2) v wx hp2 hc (by omega) (by omega) (Short.hd hv.short);rwa [h5] at this)
         have hN:operandP l=pathP l:=by unfold operandP;rw [if_neg (by simpa using h0)];rw [if_neg (by simpa using h1)];rw [if_neg (by simpa using h2)];rw [if_neg (by simpa using h3)];rw [if_neg (by rw [h4,h5];simp)]
         rw [hN];have HNX:=lh (fun wx (hp2:PAt wx bp tb l)=>jqd bp tb l wx hp2 hv h99);clear hN;go_enter Tryz.func157,Tryz.ntmps157
         go_wp2_with (first
          |(go_at_call 187;refine (HNX.out _ HP12.out.pat).mono ?_;rintro x wn hx;obtain ⟨o,en,ln,rfl,hpn,hon,han⟩:=hx.gen;have HPn:=lh (HP12.out.skip hpn hon);have HAN:=lh han;have hzz:=(HPn.out.own _ (List.mem_cons_of_mem _ List.mem_cons_self)).1;obtain ⟨r0,f0,r1,f1,r2,f2,r3,f3⟩:=bf4 hzz;clear hzz;clear hpn hon han hx)
          |(go_at_call 44;refine (HS5.out _ _ HP11.out.pat HC11.out).mono ?_;rintro e w12 ⟨rfl,hb12⟩;have HP12:=lh (HP11.out.next hb12);clear hb12)
          |(go_at_call 45;refine (jv 2 _).mono ?_;rintro e w11 ⟨g11,lb11,rfl,hc11,hb11⟩;have HP11:=lh (HP10.out.next hb11);have HC11:=lh hc11;clear hc11 hb11)
          |(go_at_call 44;refine (HS4.out _ _ HP9.out.pat HC9.out).mono ?_;rintro e w10 ⟨rfl,hb10⟩;have HP10:=lh (HP9.out.next hb10);clear hb10)
          |(go_at_call 117;refine (jm [45] _ rfl _).mono ?_;rintro e w9 ⟨g9,lb9,rfl,hc9,hb9⟩;have HP9:=lh (HP8.out.next hb9);have HC9:=lh hc9;clear hc9 hb9)
          |(go_at_call 119;refine (HS3.out _ _ HP7.out.pat HC7.out).mono ?_;rintro e w8 ⟨rfl,hb8⟩;have HP8:=lh (HP7.out.next hb8);clear hb8)
          |(go_at_call 116;refine (jh kFALSE _ rfl _).mono ?_;rintro e w7 ⟨g7,lb7,rfl,hc7,hb7⟩;have HP7:=lh (HP6.out.next hb7);have HC7:=lh hc7;clear hc7 hb7)
          |(go_at_call 119;refine (HS2.out _ _ HP5.out.pat HC5.out).mono ?_;rintro e w6 ⟨rfl,hb6⟩;have HP6:=lh (HP5.out.next hb6);clear hb6)
          |(go_at_call 116;refine (jh kTRUE _ rfl _).mono ?_;rintro e w5 ⟨g5,lb5,rfl,hc5,hb5⟩;have HP5:=lh (HP4.out.next hb5);have HC5:=lh hc5;clear hc5 hb5)
          |(go_at_call 119;refine (HS1.out _ _ HP3.out.pat HC3.out).mono ?_;rintro e w4 ⟨rfl,hb4⟩;have HP4:=lh (HP3.out.next hb4);clear hb4)
          |(go_at_call 45;refine (jv 4 _).mono ?_;rintro e w3 ⟨g3,lb3,rfl,hc3,hb3⟩;have HP3:=lh (HP2.out.next hb3);have HC3:=lh hc3;clear hc3 hb3)
          |(go_at_call 119;refine (HS0.out _ _ HP1.out.pat HC1.out).mono ?_;rintro e w2 ⟨rfl,hb2⟩;have HP2:=lh (HP1.out.next hb2);clear hb2)
          |(go_at_call 45;refine (jv 3 _).mono ?_;rintro e w1 ⟨g1,lb1,rfl,hc1,hb1⟩;have HP1:=lh (HP0.out.next hb1);have HC1:=lh hc1;clear hc1 hb1))
         have hF:=HPn.out.put (Nat.le_refl _) (.int .i64 o.kind) (.string o.text) (.bool o.neg) (.int .u64 o.num);exact endOpd rfl w.heap.size rfl rfl (qw (HPn.out.own _ (List.mem_cons_of_mem _ List.mem_cons_self)).1 _ _ _ _) (OpTo.of hF.1 hF.2 HAN.out)
def AnsX (r:PR XT) (T:XT) (e:Nat) (l':List Tk):Prop:=(e=0∧∃ t,r=.ok t l'∧SameX T t)∨(T=.nil∧r=.err e l')
theorem jt2 {g n c k:Nat} (h:(Value.slice (some ⟨g,0,none⟩) n c).ownBlock=some k):g=k:=by simpa [Value.ownBlock] using h
theorem infoOpd:(Tryz.prog.info? 34).map (fun i=>(i.zero,i.size,i.bytes))=some (some (.agg #[.int .i64 0,.string ⟨#[]⟩,.bool false,.int .u64 0]),4,40):=by kernel_rfl
theorem jjq:∀ (a:List Opd) (i m:Nat),i<a.length→m<4→(a.flatMap opdC)[i*4+m]?=(opdC (a.getD i default))[m]?
 | [],i,m,h,_=>by simp at h
 |x::r,0,m,_,hm=>by
  rw [List.flatMap_cons,List.getElem?_append_left (by show _<4;omega),Nat.zero_mul,Nat.zero_add];rfl
 |x::r,i+1,m,h,hm=>by
  rw [List.flatMap_cons,List.getElem?_append_right (by show 4≤_;omega)]
  show (r.flatMap opdC)[(i+1)*4+m - 4]?= _
  rw [show (i+1)*4+m - 4=i*4+m by omega,jjq r i m (by simpa using h) hm]
  rfl
theorem jtl {w:World} {base n c g:Nat} {a:List Opd} {S:Nat→Prop} (h:w.ownsRow base 34 4 (.slice (some ⟨g,0,none⟩) n c) n (a.flatMap opdC)) (hS:S g) (hl:g<w.heap.size):∀ i,i<a.length→CellsAt w S (some ⟨g,0,none⟩) i (opdC (a.getD i default)):=by
 intro i hi;refine ⟨g,0,rfl,hS,hl,fun r u hu=>?_⟩;have hr:r<4:=(List.getElem?_eq_some_iff.1 hu).1;have h2:=h.cells (g:=g) rfl (i*4+r) u (by rw [jjq a i r hi hr];exact hu)
 have hadd:(⟨g,0,none⟩:Addr).add (i*4+r)=⟨g,0+i*4+r,none⟩:=by unfold Addr.add;split <;> simp_all
 rwa [hadd] at h2
def FurTo (w:World) (bp tb ab:Nat) (r:PR XT) (x:Ending) (w':World):Prop:=Only (fun k=>k=bp∨k=ab) w w'∧∃ (T:XT) (e:Nat) (l':List Tk),x=.returned (.tuple #[.agg #[.int .i64 T.op,.int .i64 T.rel,.slice T.aa T.an T.ac,.slice T.ka T.kn T.kc],.int .i64 (e:Nat)])∧PAt w' bp tb l'∧XAt w' (fun b=>b=ab∨w.heap.size≤b) T∧AnsX r T e l'
structure FurSt (w:World) (bp tb ab ib:Nat) (op rel:Int) (cs:List Cl) (vs:List Value) (g c:Nat) (a:List Opd) (l:List Tk) (wr:World):Prop where
 pat:PAt wr bp tb l
 box:wr.heap[w.heap.size]?=some (.cells #[.int .i64 op,.int .i64 rel,.slice (some ⟨g,0,none⟩) a.length c,.slice none 0 0] 26)
 res:wr.heap[w.heap.size+1]?=some (.cells #[.int .i64 0,.int .i64 0,.slice none 0 0,.slice none 0 0] 26)
 row:wr.ownsRow ab 34 4 (.slice (some ⟨g,0,none⟩) a.length c) a.length (a.flatMap opdC)
 cls:ClRow wr ib cs vs
 only:Only (fun k=>k=bp∨k=ab) w wr
 pos:g=ab∨w.heap.size+1<g
 lt:bp<w.heap.size∧tb<w.heap.size∧ab<w.heap.size∧bp≠ab∧tb≠ab
theorem FurSt.next {w wr w':World} {bp tb ab ib g c:Nat} {op rel:Int} {cs:List Cl} {vs:List Value} {a:List Opd} {l:List Tk} (h:FurSt w bp tb ab ib op rel cs vs g c a l wr) (hb:Below wr.heap.size wr w'):FurSt w bp tb ab ib op rel cs vs g c a l w':=
 ⟨h.pat.next hb,rowKeep hb h.box,rowKeep hb h.res,(Only.of_below (S:=fun _=>False) hb).row h.row (fun _ _ f=>f),h.cls.next hb,h.only.step hb,h.pos,h.lt⟩
theorem FurSt.skip {w wr w':World} {bp tb ab ib g c:Nat} {op rel:Int} {cs:List Cl} {vs:List Value} {a:List Opd} {l l':List Tk} (h:FurSt w bp tb ab ib op rel cs vs g c a l wr) (hp:PAt w' bp tb l') (ho:Only (fun k=>k=bp) wr w'):FurSt w bp tb ab ib op rel cs vs g c a l' w':=
 ⟨hp,ho.same h.box (by have:=h.lt;omega),ho.same h.res (by have:=h.lt;omega),ho.row h.row (fun k hk e=>by have:=jt2 hk;have:=h.lt;have:=h.pos;omega),h.cls.only ho h.pat.kind,h.only.trans ho (fun i _ e=>.inl e),h.pos,h.lt⟩
theorem jdv {w w':World} {g:Nat} (hg:w.grownBy w' (some g)):Only (fun k=>k=g) w w':=⟨hg.os,hg.tape,hg.output,hg.size,fun k hk hn=>hg.block k hk (fun e=>hn (Option.some.inj e))⟩
theorem jeg {w:World} {base n c g:Nat} {e:TypeId} {xs:List Value} {s:Nat} (h:w.ownsRow base e s (.slice (some ⟨g,0,none⟩) n c) n xs):∃ cur,w.heap[g]?=some (.cells cur e):=by
 rcases h.2 with ⟨hv,_⟩|⟨g',cap',cur,hv,hb,hg,_⟩
 · cases hv
 · injection hv with e1 e2 e3
   injection e1 with e1
   injection e1 with e1 _ _
   subst e1;exact ⟨cur,hg⟩
theorem FurSt.app {w wr w2:World} {bp tb ab ib g c gg cp:Nat} {op rel:Int} {cs:List Cl} {vs:List Value} {a:List Opd} {o:Opd} {l:List Tk} (h:FurSt w bp tb ab ib op rel cs vs g c a l wr)
  (hown:w2.ownsRow ab 34 4 (.slice (some ⟨gg,0,none⟩) (a.length+1) cp) (a.length+1) (a.flatMap opdC++opdC o)) (hg:wr.grownBy w2 (some g)) (hat:some g=some gg∨gg=wr.heap.size) (hlt:gg<w2.heap.size) (hbig:w.heap.size+1<wr.heap.size):
  FurSt w bp tb ab ib op rel cs vs gg cp (a++[o]) l (w2.setCell ⟨w.heap.size,2,none⟩ (.slice (some ⟨gg,0,none⟩) (a.length+1) cp)):=by
 have ho:=jdv hg;have hpos:=h.pos;have hlt2:=h.lt
 have hgg:gg=ab∨w.heap.size+1<gg:=by
  rcases hat with e|e
  · injection e with e;omega
  · omega
 have hbx:w2.heap[w.heap.size]?= _:=ho.same h.box (by omega);have hset:=jn (j:=2) (u:=.slice (some ⟨gg,0,none⟩) (a.length+1) cp) hbx;have hx:Only (fun k=>k=w.heap.size) w2 (w2.setCell ⟨w.heap.size,2,none⟩ (.slice (some ⟨gg,0,none⟩) (a.length+1) cp)):=(Only.refl (fun k=>k=w.heap.size) w2).setCell (p:=⟨w.heap.size,2,none⟩) (.inl rfl) _
 have hk:∀ o,wr.heap[g]?=some o→∃ cs t,o=.cells cs t∧t≠3∧t≠9∧t≠95:=by
  intro o ho;obtain ⟨cur,hc⟩:=jeg h.row;rw [hc] at ho;exact ⟨_,_,(Option.some.inj ho).symm,by decide,by decide,by decide⟩
 have hk2:∀ o,w2.heap[w.heap.size]?=some o→∃ cs t,o=.cells cs t∧t≠3∧t≠9∧t≠95:=by
  intro o ho;rw [hbx] at ho;exact ⟨_,_,(Option.some.inj ho).symm,by decide,by decide,by decide⟩
 have hl:(a++[o]).length=a.length+1:=by simp
 have hf:(a++[o]).flatMap opdC=a.flatMap opdC++opdC o:=by simp
 refine ⟨(h.pat.only ho (by omega) (by omega)).only hx (by omega) (by omega),?_,hx.same (ho.same h.res (by omega)) (by omega),?_,(h.cls.only ho hk).only hx hk2,?_,hgg,hlt2⟩
 · rw [hl];exact hset
 · rw [hl,hf];exact hx.row hown (fun k hk e=>by have:=jt2 hk;omega)
 · refine (h.only.trans ho (fun i hi e=>?_)).trans hx (fun i hi e=>?_)
   · rcases hpos with e2|e2
     · exact .inr (e.trans e2)
     · omega
   · omega
theorem endFur {V:World} {act:Act} {Q:Ending→World→Prop} {a0 a1 a2 a3:Value} {e:Int} (hd:act.defers=[]) (rb:Nat) (h2:act.tmps.getD 6 undef=.pointer (some ⟨rb,0,none⟩)) (h3:act.tmps.getD 7 undef=.int .i64 e) (hr:V.heap[rb]?=some (.cells #[a0,a1,a2,a3] 26))
  (hQ:Q (.returned (.tuple #[.agg #[a0,a1,a2,a3],.int .i64 e])) V):bodyPost Tryz.prog Tryz.f159 Q Exit.ret act V:=by
 refine bodyPost_ret (v:=.tuple #[.agg #[a0,a1,a2,a3],.int .i64 e]) ?_ hd hQ;have hl2:=run_loadVar_row (P:=Tryz.prog) V rb 26 26 #[a0,a1,a2,a3] _ _ hr Tryz.underlying26 rfl (by kernel_rfl);rw [Array.getD_eq_getD_getElem?] at h2 h3;simp [results,Tryz.results159,asAddr,hl2,h2,h3]
theorem jqz (op rel:Int) (cs:List Cl) (l:List Tk) (a:List Opd):furX op rel cs l a=match furP cs l a with
 |.err e l'=>.err e l'
 |.ok b l'=>.ok (mkX op rel b []) l':=rfl
theorem newOpd (o:Opd) (w1:World) (O1:Obj):∀ i u,(opdC o)[i]?=some u→((w1.alloc O1).alloc (.cells #[.int .i64 o.kind,.string o.text,.bool o.neg,.int .u64 o.num] 34)).cell? ((⟨w1.heap.size+1,0,none⟩:Addr).add i)=some u:=by
 have h:=jd (w1.alloc O1) (.cells #[.int .i64 o.kind,.string o.text,.bool o.neg,.int .u64 o.num] 34)
 have hz:(w1.alloc O1).heap.size=w1.heap.size+1:=by simp
 rw [hz] at h;intro i u hu;exact World.news_of_block h i u hu
theorem jbw (op rel:Int) (cs:List Cl) (hin:∀ c∈cs,c.inner) (vs:List Value) (bp tb ab ib c:Nat) (l:List Tk) (a:List Opd) (w:World) (hp:PAt w bp tb l) (hr:ClRow w ib cs vs)
  (hown:w.ownsRow ab 34 4 (.slice (some ⟨ab,0,none⟩) a.length c) a.length (a.flatMap opdC)) (hne:bp≠ab∧tb≠ab) (hv:Vd l) (h99:l.length≤99) (ha:a.length+cs.length≤10):
  Calls Tryz.prog 159 #[.pointer (some ⟨bp,0,none⟩),.agg #[.int .i64 op,.int .i64 rel,.slice (some ⟨ab,0,none⟩) a.length c,.slice none 0 0],.slice (some ⟨ib,0,none⟩) cs.length cs.length] w (FurTo w bp tb ab (furX op rel cs l a)):=by
 have hablt:ab<w.heap.size:=by obtain ⟨cur,hc⟩:=jeg hown;exact lt_of_block hc
 have HF0:=lh (show FurSt w bp tb ab ib op rel cs vs ab c a l ((w.alloc (.cells #[.int .i64 op,.int .i64 rel,.slice (some ⟨ab,0,none⟩) a.length c,.slice none 0 0] 26)).alloc (.cells #[.int .i64 0,.int .i64 0,.slice none 0 0,.slice none 0 0] 26)) from by
  have hb:Below w.heap.size w ((w.alloc (.cells #[.int .i64 op,.int .i64 rel,.slice (some ⟨ab,0,none⟩) a.length c,.slice none 0 0] 26)).alloc (.cells #[.int .i64 0,.int .i64 0,.slice none 0 0,.slice none 0 0] 26)):=((Below.refl w.heap.size w).alloc (Nat.le_refl _) _).alloc (by simp) _;refine ⟨hp.next hb,je (jd w _),?_,(Only.of_below (S:=fun _=>False) hb).row hown (fun _ _ f=>f),hr.next hb,Only.of_below hb,.inl rfl,hp.blt,hp.lt,hablt,hne.1,hne.2⟩
  have:=jd (w.alloc (.cells #[.int .i64 op,.int .i64 rel,.slice (some ⟨ab,0,none⟩) a.length c,.slice none 0 0] 26)) (.cells #[.int .i64 0,.int .i64 0,.slice none 0 0,.slice none 0 0] 26)
  simpa using this)
 obtain ⟨i0,hi,hz0,hz1,hz2⟩:=info_parts infoOpd;obtain ⟨RR,hRR⟩:∃ RR,furX op rel cs l a=RR:=⟨_,rfl⟩;have HX:=lh (show furX op rel (cs.drop 0) l a=RR from hRR);have HV:=lh hv;have HIN:=lh hin;rw [hRR]
 have ha1:a.length≤10:=by omega
 clear hRR hp hr hown hv hin hne;go_enter Tryz.func159,Tryz.ntmps159;go_wp2;have HTG:=lh (fun (o:Obj) (wx:World)=>(Below.refl wx.heap.size wx).alloc (Nat.le_refl _) o)
 go_loopw [14] (fun i wr=>∃ (j g c:Nat) (b:List Opd) (m:List Tk),j≤cs.length∧i=.int .i64 j∧Hid (FurSt w bp tb ab ib op rel cs vs g c b m wr)∧Hid (Vd m)∧m.length≤99∧b.length+(cs.length - j)≤10∧Hid (furX op rel (cs.drop j) m b=RR)) (fun i _=>cs.length - (intOf i).toNat)
 case atStart=>exact ⟨0,ab,c,a,l,Nat.zero_le _,rfl,HF0,HV,h99,by omega,HX⟩
 case round=>
  obtain ⟨j,g,c,b,m,hj,rfl,HF,HVm,hm99,hbl,HE⟩:=hrel
  by_cases hlt:j<cs.length
  · have hE:=HE.out;rw [jbe (cs:=cs) hlt,jqz,furP] at hE;have cv:=HF.out.cls.cell (cs:=cs) hlt;have HCV:=lh (HF.out.cls.all j hlt);obtain ⟨cc,hc⟩:∃ c,cs.getD j .nm=c:=⟨_,rfl⟩;obtain ⟨v,hvv⟩:∃ v,vs.getD j undef=v:=⟨_,rfl⟩;rw [hc] at hE HCV;rw [hvv] at cv HCV
    have hci:cc.inner:=by
     rw [←hc,List.getD_eq_getElem?_getD,List.getElem?_eq_getElem (show j<cs.length from hlt)];exact HIN.out _ (List.getElem_mem (show j<cs.length from hlt))
    clear hc hvv;have hm0:=HVm.out.pos
    cases hct:cc.test (hd m) with
    |false=>
     rw [hct] at hE;have HR:=lh (show RR=.err 11 m from hE.symm);have HSK:=lh (yh bp tb m cc v wr HF.out.pat HCV.out hm0 hm99 (Short.hd HVm.out.short) hct);clear hct hE;go_wp2_with (go_at_call 119;refine (HSK.out).mono ?_;rintro e w3 ⟨rfl,hb3⟩;have HFX:=lh (HF.out.next hb3);have hzz:=HFX.out.res;obtain ⟨r0,f0,r1,f1,r2,f2,r3,f3⟩:=bf4 hzz;clear hzz;clear hb3);have hO:=qu (b:=w.heap.size+1) HFX.out.only (.inr (by omega)) (.int .i64 0) (.int .i64 0) (.slice none 0 0) (.slice none 0 0);have hPA:=HFX.out.pat.only (K:=fun k=>k=w.heap.size+1) (qu (b:=w.heap.size+1) (S:=fun k=>k=w.heap.size+1) (Only.refl _ _) (.inl rfl) (.int .i64 0) (.int .i64 0) (.slice none 0 0) (.slice none 0 0)) (by have:=HFX.out.lt;omega) (by have:=HFX.out.lt;omega);refine endFur rfl (w.heap.size+1) rfl rfl (qw HFX.out.res _ _ _ _) ?_;exact ⟨hO,.nil,11,_,rfl,hPA,trivial,.inr ⟨rfl,HR.out⟩⟩
    |true=>
     rw [hct] at hE;obtain ⟨hv2,hl2⟩:=HVm.out.tail hci hct;have hm2:=hv2.pos;have HSK:=lh (qf bp tb m cc v wr HF.out.pat HCV.out (by omega) hm99 (Short.hd HVm.out.short) hct);obtain ⟨q,hq⟩:∃ q,m.tail=q:=⟨_,rfl⟩;rw [hq] at hE hv2 hl2 hm2 HSK
     have hq99:q.length≤99:=by omega
     have hless:=zo q hv2 hq99;have HOP:=lh (fun wx (hpx:PAt wx bp tb q)=>jbt bp tb q wx hpx hv2 hq99);clear hct hq
     cases hop:operandP q with
     |err e2 l2=>
      rw [hop] at hless HOP hE;have HR:=lh (show RR=.err e2 l2 from hE.symm)
      have q2:(((e2:Nat):Int) !=0)=true:=by have:=hless.2.2;simp;omega
      unfold OpTo at HOP;clear hE hop hless
      go_wp2_with (first
       |(go_at_call 157;refine (HOP.out _ HF3.out.pat).mono ?_;rintro x w4 ⟨ho4,rfl,hp4⟩;have HFX:=lh (HF3.out.skip hp4 ho4);have hzz:=HFX.out.res;obtain ⟨r0,f0,r1,f1,r2,f2,r3,f3⟩:=bf4 hzz;clear hzz;have zl:w.heap.size+1<w4.heap.size:=lt_of_block HFX.out.res;have zn:¬w.heap.size+1=w4.heap.size:=(by omega);clear hp4 ho4)
       |(go_at_call 119;refine (HSK.out).mono ?_;rintro e w3 ⟨rfl,hp3,ho3⟩;have HF3:=lh (HF.out.skip hp3 ho3);clear hp3 ho3))
      have hO:=qu (b:=w.heap.size+1) HFX.out.only (.inr (by omega)) (.int .i64 0) (.int .i64 0) (.slice none 0 0) (.slice none 0 0);have hO:=hO.alloc (.cells #[.int .i64 0,.string ⟨#[]⟩,.bool false,.int .u64 0] 34);have hPA:=HFX.out.pat.only (K:=fun k=>k=w.heap.size+1) (qu (b:=w.heap.size+1) (S:=fun k=>k=w.heap.size+1) (Only.refl _ _) (.inl rfl) (.int .i64 0) (.int .i64 0) (.slice none 0 0) (.slice none 0 0)) (by have:=HFX.out.lt;omega) (by have:=HFX.out.lt;omega);have hPA:=hPA.next (HTG.out (.cells #[.int .i64 0,.string ⟨#[]⟩,.bool false,.int .u64 0] 34) _);refine endFur rfl (w.heap.size+1) rfl rfl (je (qw HFX.out.res _ _ _ _)) ?_;exact ⟨hO,.nil,e2,_,rfl,hPA,trivial,.inr ⟨rfl,HR.out⟩⟩
     |ok o l2=>
      rw [hop] at hless HOP hE;have HV2:=lh hless.1;have hl22:=hless.2;have HR:=lh (show furX op rel (cs.drop (j+1)) l2 (b++[o])=RR from hE);unfold OpTo at HOP;have HNO:=lh (newOpd o);have HL1:=lh (show (b++[o]).length=b.length+1 by simp);have HAPP:=lh (show ∀ (wx w2:World) (gg cp:Nat),FurSt w bp tb ab ib op rel cs vs g c b l2 wx→w2.ownsRow ab 34 4 (.slice (some ⟨gg,0,none⟩) (b.length+1) cp) (b.length+1) (b.flatMap opdC++opdC o)→wx.grownBy w2 (some g)→(some g=some gg∨gg=wx.heap.size)→gg<w2.heap.size→w.heap.size+1<wx.heap.size→FurSt w bp tb ab ib op rel cs vs gg cp (b++[o]) l2 (w2.setCell ⟨w.heap.size,2,none⟩ (.slice (some ⟨gg,0,none⟩) (b.length+1) cp)) from fun wx w2 gg cp h a1 a2 a3 a4 a5=>h.app a1 a2 a3 a4 a5);clear hE hop hless
      go_wp2_with (first
       |(at_builtin;refine wpList_append_lies _ rfl _ _ 23 rfl ab 34 i0 _ 4 40 Tryz.underlying23 hi hz0 hz1 hz2 rfl (by decide) _ _ _ rfl ((HF4.out.row.alloc _).alloc _) ⟨_,0,none⟩ 1 1 (opdC o) rfl rfl (HNO.out w4 _) (fun u hu=>by (simp [opdC] at hu;rcases hu with rfl|rfl|rfl|rfl <;> rfl)) (by decide) (by unfold maxLen;omega) (by omega) (by have:=HF4.out.only.size;have:=HF4.out.lt;simp;omega) _ rfl ?_;intro gg cp w5 hown5 hg5 hat5 hlt5;have h45:=HF4.out.next (bthen (HTG.out (.cells #[.int .i64 o.kind,.string o.text,.bool o.neg,.int .u64 o.num] 34) w4) (HTG.out (.cells #[.int .i64 o.kind,.string o.text,.bool o.neg,.int .u64 o.num] 34) (w4.alloc (.cells #[.int .i64 o.kind,.string o.text,.bool o.neg,.int .u64 o.num] 34))));have hbx5:=(jdv (g:=g) hg5).same h45.box (by have:=HF4.out.pos;have:=HF4.out.lt;omega);have y2:=jg (j:=2) hbx5;have z2:=ja (j:=2) hbx5 rfl;have HFN:=lh (HAPP.out _ _ _ _ h45 hown5 hg5 hat5 hlt5 (by have:=lt_of_block HF4.out.res;simp;omega));clear hown5 hg5 hat5 hlt5 h45 hbx5)
       |(go_at_call 157;refine (HOP.out _ HF3.out.pat).mono ?_;rintro x w4 ⟨ho4,rfl,hp4⟩;have HF4:=lh (HF3.out.skip hp4 ho4);have x2:w4.cell? ⟨w.heap.size,2,none⟩=some (.slice (some ⟨g,0,none⟩) b.length c):=ja HF4.out.box rfl;have x2l:w.heap.size<w4.heap.size:=lt_of_block HF4.out.box;have x2n:¬w.heap.size=w4.heap.size:=(by omega);clear hp4 ho4)
       |(go_at_call 119;refine (HSK.out).mono ?_;rintro e w3 ⟨rfl,hp3,ho3⟩;have HF3:=lh (HF.out.skip hp3 ho3);clear hp3 ho3))
      go_roundw
      case rel=>exact ⟨j+1,gg,cp,b++[o],l2,by omega,by go_num,HFN,HV2,by omega,by rw [HL1.out];omega,HR⟩
      case measure=>simp [intOf];omega
  · obtain rfl:j=cs.length:=by omega
    have hE:=HE.out;rw [List.drop_eq_nil_of_le (show cs.length≤cs.length from Nat.le_refl _)] at hE;have HR:=lh (show RR=.ok (mkX op rel b []) m from hE.symm);clear hE;have hbx:=HF.out.box;obtain ⟨x0,x1,x2,x3⟩:=bx4 hbx;clear hbx;have hzz:=HF.out.res;obtain ⟨r0,f0,r1,f1,r2,f2,r3,f3⟩:=bf4 hzz;clear hzz;go_wp2;have hO:=qu (b:=w.heap.size+1) HF.out.only (.inr (by omega)) (.int .i64 op) (.int .i64 rel) (.slice (some ⟨g,0,none⟩) b.length c) (.slice none 0 0);have h4:=qu (b:=w.heap.size+1) (S:=fun k=>k=w.heap.size+1) (Only.refl _ wr) (.inl rfl) (.int .i64 op) (.int .i64 rel) (.slice (some ⟨g,0,none⟩) b.length c) (.slice none 0 0);have hPA:=HF.out.pat.only (K:=fun k=>k=w.heap.size+1) h4 (by have:=HF.out.lt;omega) (by have:=HF.out.lt;omega);refine endFur rfl (w.heap.size+1) rfl rfl (qw HF.out.res _ _ _ _) ?_;refine ⟨hO,.node op rel (some ⟨g,0,none⟩) b.length c (fun i=>b.getD i default) none 0 0 (fun _=>.nil),0,m,rfl,hPA,?_,.inl ⟨rfl,_,HR.out,?_⟩⟩
    · obtain ⟨cur,hcur⟩:=jeg HF.out.row;have hS:=jtl (S:=fun b=>(b=ab∨w.heap.size≤b)∧b≠w.heap.size+1) HF.out.row (by have:=HF.out.pos;have:=HF.out.lt;omega) (lt_of_block hcur);exact (ym _).2 ⟨⟨by show b.length≤_;omega,Nat.zero_le _⟩,fun i hi=>((hS i hi).only (K:=fun k=>k=w.heap.size+1) h4 (fun b hb _=>hb.2)).held (fun b hb _=>hb.1) (Nat.le_refl _) (fun _ _ _=>rfl),fun i hi=>absurd hi (Nat.not_lt_zero i)⟩
    · exact (Xv _ _).2 ⟨rfl,rfl,rfl,fun i hi=>rfl,rfl,fun i hi=>absurd hi (Nat.not_lt_zero i)⟩
def XTo (w:World) (bp tb:Nat) (r:PR XT) (x:Ending) (w':World):Prop:=Only (fun k=>k=bp) w w'∧∃ (T:XT) (e:Nat) (l':List Tk),x=.returned (.tuple #[.agg #[.int .i64 T.op,.int .i64 T.rel,.slice T.aa T.an T.ac,.slice T.ka T.kn T.kc],.int .i64 (e:Nat)])∧PAt w' bp tb l'∧XAt w' (fun b=>w.heap.size≤b) T∧AnsX r T e l'
theorem AnsX.neg {r:PR XT} {T U:XT} {l':List Tk} (h:AnsX r T 0 l') (hr:∀ e l,r=.err e l→e≠0) (hU:∀ t,SameX T t→SameX U (mkX 4 0 [] [t])):AnsX (negR r) U 0 l':=by
 rcases h with ⟨_,t,rfl,ht⟩|⟨_,rfl⟩
 · exact .inl ⟨rfl,_,rfl,hU t ht⟩
 · exact absurd rfl (hr 0 l' rfl)
theorem AnsX.negB {r:PR XT} {T:XT} {e:Nat} {l':List Tk} (h:AnsX r T e l') (he:e≠0):AnsX (negR r) .nil e l':=by
 rcases h with ⟨rfl,_⟩|⟨_,rfl⟩
 · exact absurd rfl he
 · exact .inr ⟨rfl,rfl⟩
theorem endNeg {V:World} {act:Act} {Q:Ending→World→Prop} {a0 a1 a2 a3:Value} {e:Int} (hd:act.defers=[]) (rb:Nat) (h2:act.tmps.getD 4 undef=.pointer (some ⟨rb,0,none⟩)) (h3:act.tmps.getD 5 undef=.int .i64 e) (hr:V.heap[rb]?=some (.cells #[a0,a1,a2,a3] 26))
  (hQ:Q (.returned (.tuple #[.agg #[a0,a1,a2,a3],.int .i64 e])) V):bodyPost Tryz.prog Tryz.f120 Q Exit.ret act V:=by
 refine bodyPost_ret (v:=.tuple #[.agg #[a0,a1,a2,a3],.int .i64 e]) ?_ hd hQ;have hl2:=run_loadVar_row (P:=Tryz.prog) V rb 26 26 #[a0,a1,a2,a3] _ _ hr Tryz.underlying26 rfl (by kernel_rfl);rw [Array.getD_eq_getD_getElem?] at h2 h3;simp [results,Tryz.results120,asAddr,hl2,h2,h3]
theorem endBtw {V:World} {act:Act} {Q:Ending→World→Prop} {a0 a1 a2 a3:Value} {e:Int} (hd:act.defers=[]) (rb:Nat) (h2:act.tmps.getD 4 undef=.pointer (some ⟨rb,0,none⟩)) (h3:act.tmps.getD 5 undef=.int .i64 e) (hr:V.heap[rb]?=some (.cells #[a0,a1,a2,a3] 26))
  (hQ:Q (.returned (.tuple #[.agg #[a0,a1,a2,a3],.int .i64 e])) V):bodyPost Tryz.prog Tryz.f158 Q Exit.ret act V:=by
 refine bodyPost_ret (v:=.tuple #[.agg #[a0,a1,a2,a3],.int .i64 e]) ?_ hd hQ;have hl2:=run_loadVar_row (P:=Tryz.prog) V rb 26 26 #[a0,a1,a2,a3] _ _ hr Tryz.underlying26 rfl (by kernel_rfl);rw [Array.getD_eq_getD_getElem?] at h2 h3;simp [results,Tryz.results158,asAddr,hl2,h2,h3]
theorem endTest {V:World} {act:Act} {Q:Ending→World→Prop} {a0 a1 a2 a3:Value} {e:Int} (hd:act.defers=[]) (rb:Nat) (h2:act.tmps.getD 2 undef=.pointer (some ⟨rb,0,none⟩)) (h3:act.tmps.getD 3 undef=.int .i64 e) (hr:V.heap[rb]?=some (.cells #[a0,a1,a2,a3] 26))
  (hQ:Q (.returned (.tuple #[.agg #[a0,a1,a2,a3],.int .i64 e])) V):bodyPost Tryz.prog Tryz.f118 Q Exit.ret act V:=by
 refine bodyPost_ret (v:=.tuple #[.agg #[a0,a1,a2,a3],.int .i64 e]) ?_ hd hQ;have hl2:=run_loadVar_row (P:=Tryz.prog) V rb 26 26 #[a0,a1,a2,a3] _ _ hr Tryz.underlying26 rfl (by kernel_rfl);rw [Array.getD_eq_getD_getElem?] at h2 h3;simp [results,Tryz.results118,asAddr,hl2,h2,h3]
theorem jlg {w:World} {b:Nat} {cs:List Value} {t:TypeId} (h:w.heap[b]?=some (.cells cs.toArray t)):LiesAt w b 0 cs:=fun r u hu=>by
 rw [Nat.zero_add];exact ja h (by simpa using hu)
def NegTo (w:World) (S:Nat→Prop) (r:PR XT) (e:Nat) (l':List Tk) (x:Ending) (w':World):Prop:=Below w.heap.size w w'∧∃ T:XT,x=.returned (.tuple #[.agg #[.int .i64 T.op,.int .i64 T.rel,.slice T.aa T.an T.ac,.slice T.ka T.kn T.kc],.int .i64 (e:Nat)])∧XAt w' (fun b=>S b∨w.heap.size≤b) T∧AnsX (negR r) T e l'
theorem Y7 (w:World) (S:Nat→Prop) (r:PR XT) (hr:∀ e l,r=.err e l→e≠0) (T:XT) (e:Nat) (l':List Tk) (hT:XAt w S T) (ha:AnsX r T e l'):
  Calls Tryz.prog 120 #[.agg #[.int .i64 T.op,.int .i64 T.rel,.slice T.aa T.an T.ac,.slice T.ka T.kn T.kc],.int .i64 (e:Nat)] w (NegTo w S r e l'):=by
 have hb0:Below w.heap.size w ((w.alloc (.cells #[.int .i64 T.op,.int .i64 T.rel,.slice T.aa T.an T.ac,.slice T.ka T.kn T.kc] 26)).alloc (.cells #[.int .i64 0,.int .i64 0,.slice none 0 0,.slice none 0 0] 26)):=((Below.refl w.heap.size w).alloc (Nat.le_refl _) _).alloc (by simp) _
 have hq:((w.alloc (.cells #[.int .i64 T.op,.int .i64 T.rel,.slice T.aa T.an T.ac,.slice T.ka T.kn T.kc] 26)).alloc (.cells #[.int .i64 0,.int .i64 0,.slice none 0 0,.slice none 0 0] 26)).heap[w.heap.size+1]?=some (.cells #[.int .i64 0,.int .i64 0,.slice none 0 0,.slice none 0 0] 26):=by
  have:=jd (w.alloc (.cells #[.int .i64 T.op,.int .i64 T.rel,.slice T.aa T.an T.ac,.slice T.ka T.kn T.kc] 26)) (.cells #[.int .i64 0,.int .i64 0,.slice none 0 0,.slice none 0 0] 26)
  simpa using this
 have HB:=lh hb0;have HQ:=lh hq;have HT:=lh hT;have HA:=lh ha;clear hb0 hq hT ha
 by_cases he:e=0
 · subst he;have HR:=lh hr;clear hr;go_enter Tryz.func120,Tryz.ntmps120;go_wp2;obtain ⟨V,hV⟩:∃ V,((w.alloc (.cells #[.int .i64 T.op,.int .i64 T.rel,.slice T.aa T.an T.ac,.slice T.ka T.kn T.kc] 26)).alloc (.cells #[.int .i64 4,.int .i64 0,.slice none 0 0,.slice (some ⟨w.heap.size+1+1,0,none⟩) 1 1] 26)).alloc (.cells #[.int .i64 T.op,.int .i64 T.rel,.slice T.aa T.an T.ac,.slice T.ka T.kn T.kc] 26)=V:=⟨_,rfl⟩
   have e1:(w.alloc (.cells #[.int .i64 T.op,.int .i64 T.rel,.slice T.aa T.an T.ac,.slice T.ka T.kn T.kc] 26)).heap.size=w.heap.size+1:=by simp
   have e2:((w.alloc (.cells #[.int .i64 T.op,.int .i64 T.rel,.slice T.aa T.an T.ac,.slice T.ka T.kn T.kc] 26)).alloc (.cells #[.int .i64 4,.int .i64 0,.slice none 0 0,.slice (some ⟨w.heap.size+1+1,0,none⟩) 1 1] 26)).heap.size=w.heap.size+1+1:=by simp
   have v1:V.heap[w.heap.size+1]?=some (.cells #[.int .i64 4,.int .i64 0,.slice none 0 0,.slice (some ⟨w.heap.size+1+1,0,none⟩) 1 1] 26):=by
    have:=jd (w.alloc (.cells #[.int .i64 T.op,.int .i64 T.rel,.slice T.aa T.an T.ac,.slice T.ka T.kn T.kc] 26)) (.cells #[.int .i64 4,.int .i64 0,.slice none 0 0,.slice (some ⟨w.heap.size+1+1,0,none⟩) 1 1] 26)
    rw [e1] at this;rw [←hV];exact je this
   have v2:V.heap[w.heap.size+1+1]?=some (.cells #[.int .i64 T.op,.int .i64 T.rel,.slice T.aa T.an T.ac,.slice T.ka T.kn T.kc] 26):=by
    have:=jd ((w.alloc (.cells #[.int .i64 T.op,.int .i64 T.rel,.slice T.aa T.an T.ac,.slice T.ka T.kn T.kc] 26)).alloc (.cells #[.int .i64 4,.int .i64 0,.slice none 0 0,.slice (some ⟨w.heap.size+1+1,0,none⟩) 1 1] 26)) (.cells #[.int .i64 T.op,.int .i64 T.rel,.slice T.aa T.an T.ac,.slice T.ka T.kn T.kc] 26)
    rw [e2] at this;rw [←hV];exact this
   have vb:Below w.heap.size w V:=by
    rw [←hV];exact ((Below.refl w.heap.size w).alloc (Nat.le_refl _) _).alloc (by simp) _ |>.alloc (by simp;omega) _
   rw [hV];refine endNeg rfl (w.heap.size+1) rfl rfl v1 ⟨vb,.node 4 0 none 0 0 (fun _=>default) (some ⟨w.heap.size+1+1,0,none⟩) 1 1 (fun _=>T),rfl,?_,?_⟩
   · refine (ym _).2 ⟨⟨Nat.zero_le _,by show 1≤_;omega⟩,fun i hi=>absurd hi (Nat.not_lt_zero i),fun i hi=>?_⟩;obtain rfl:i=0:=Nat.lt_one_iff.1 hi;exact ⟨⟨_,0,rfl,.inr (by omega),lt_of_block v2,jlg v2⟩,(HT.out.next vb).sub (fun b hb _=>.inl hb)⟩
   · exact HA.out.neg HR.out (fun t ht=>(Xv _ _).2 ⟨rfl,rfl,rfl,fun i hi=>absurd hi (Nat.not_lt_zero i),rfl,fun i hi=>by
      obtain rfl:i=0:=Nat.lt_one_iff.1 hi
      exact ht⟩)
 · have q2:(((e:Nat):Int) !=0)=true:=by simp;omega
   clear hr;go_enter Tryz.func120,Tryz.ntmps120;go_wp2;exact endNeg rfl (w.heap.size+1) rfl rfl HQ.out ⟨HB.out,.nil,rfl,trivial,HA.out.negB he⟩
theorem jll {w:World} {ab:Nat} {o:Opd} (h:w.heap[ab]?=some (.cells #[.int .i64 o.kind,.string o.text,.bool o.neg,.int .u64 o.num] 34)):w.ownsRow ab 34 4 (.slice (some ⟨ab,0,none⟩) [o].length 1) [o].length ([o].flatMap opdC):=
 ⟨rfl,.inr ⟨ab,1,_,rfl,Nat.le_refl _,h,Nat.le_refl _,by decide,rfl,rfl⟩⟩
theorem rowOne {w:World} {c:Cl} {v:Value} (h:ClAt w c v):ClRow (w.alloc (.cells #[v] 95)) w.heap.size [c] [v]:=by
 refine ⟨jd w _,rfl,fun i hi=>?_⟩;obtain rfl:i=0:=Nat.lt_one_iff.1 hi;exact h.next ((Below.refl _ _).alloc (Nat.le_refl _) _)
theorem rowTwo {w:World} {c d:Cl} {v u:Value} (h:ClAt w c v) (h2:ClAt w d u):ClRow (w.alloc (.cells #[v,u] 95)) w.heap.size [c,d] [v,u]:=by
 refine ⟨jd w _,rfl,fun i hi=>?_⟩
 match i,hi with
 |0,_=>exact h.next ((Below.refl _ _).alloc (Nat.le_refl _) _)
 |1,_=>exact h2.next ((Below.refl _ _).alloc (Nat.le_refl _) _)
def FurP (w:World) (bp tb ab:Nat) (zs:List (Nat × Obj)) (N:Nat) (r:PR XT) (x:Ending) (w':World):Prop:=∃ (T:XT) (e:Nat) (l':List Tk),x=.returned (.tuple #[.agg #[.int .i64 T.op,.int .i64 T.rel,.slice T.aa T.an T.ac,.slice T.ka T.kn T.kc],.int .i64 (e:Nat)])∧PSt w bp tb zs l' w'∧XAt w' (fun b=>b=ab∨N≤b) T∧AnsX r T e l'
theorem jl9 {w wk wl w':World} {bp tb ab:Nat} {zs zs2:List (Nat × Obj)} {l:List Tk} {r:PR XT} {x:Ending} (hp:PSt w bp tb zs2 l wk) (hab:w.heap.size≤ab) (hz:∀ p∈zs,p∈zs2∧p.1≠ab) (hb:Below wk.heap.size wk wl) (h:FurTo wl bp tb ab r x w'):FurP w bp tb ab zs wl.heap.size r x w':=by
 obtain ⟨ho,T,e,l',rfl,hpat,hx,ha⟩:=h;have h2:=hp.next hb;refine ⟨T,e,l',rfl,⟨hpat,h2.only.trans ho (fun i hi k=>by omega),fun p hpz=>?_,hp.lt⟩,hx,ha⟩;obtain ⟨m1,m2⟩:=hz p hpz;have h3:=h2.own p m1;exact ⟨ho.same h3.1 (by have:=h3.2;have:=hp.lt;omega),h3.2⟩
theorem Z0 {w w':World} {bp tb:Nat} {zs:List (Nat × Obj)} {S:Nat→Prop} {r:PR XT} {T:XT} {e:Nat} {l':List Tk} (h:PSt w bp tb zs l' w') (hx:XAt w' S T) (hS:∀ b,S b→b<w'.heap.size→w.heap.size<b) (ha:AnsX r T e l'):
  XTo w bp tb r (.returned (.tuple #[.agg #[.int .i64 T.op,.int .i64 T.rel,.slice T.aa T.an T.ac,.slice T.ka T.kn T.kc],.int .i64 (e:Nat)])) (jbc w' w.heap.size (.int .i64 T.op) (.int .i64 T.rel) (.slice T.aa T.an T.ac) (.slice T.ka T.kn T.kc)):=by
 have hF:=h.put (Nat.le_refl _) (.int .i64 T.op) (.int .i64 T.rel) (.slice T.aa T.an T.ac) (.slice T.ka T.kn T.kc);have h4:=qu (b:=w.heap.size) (S:=fun k=>k=w.heap.size) (Only.refl _ w') (.inl rfl) (.int .i64 T.op) (.int .i64 T.rel) (.slice T.aa T.an T.ac) (.slice T.ka T.kn T.kc);exact ⟨hF.2,T,e,l',rfl,hF.1,(hx.only h4 (fun b hb hl e=>by have:=hS b hb hl;omega)).sub (fun b hb hl=>Nat.le_of_lt (hS b hb (by simpa using hl))),ha⟩
theorem jbx (w0:World) (bp tb ab:Nat) (zs:List (Nat × Obj)) (l:List Tk) (o:Opd) (w:World) (hp:PSt w0 bp tb ((ab,(.cells #[.int .i64 o.kind,.string o.text,.bool o.neg,.int .u64 o.num] 34))::zs) l w) (hz:∀ p∈zs,p.1≠ab) (hv:Vd l) (h99:l.length≤99):
  Calls Tryz.prog 158 #[.pointer (some ⟨bp,0,none⟩),.slice (some ⟨ab,0,none⟩) 1 1] w (FurP w0 bp tb ab zs w.heap.size (furX 2 0 betw l [o])):=by
 have hablt:ab<w.heap.size:=lt_of_block (hp.own _ List.mem_cons_self).1;have habge:w0.heap.size≤ab:=(hp.own _ List.mem_cons_self).2;have HP0:=lh (show PSt w0 bp tb ((w.heap.size,(.cells #[.int .i64 0,.int .i64 0,.slice none 0 0,.slice none 0 0] 26))::(ab,(.cells #[.int .i64 o.kind,.string o.text,.bool o.neg,.int .u64 o.num] 34))::zs) l (w.alloc (.cells #[.int .i64 0,.int .i64 0,.slice none 0 0,.slice none 0 0] 26)) from hp.new _)
 have HFU:=lh (show ∀ (wk:World) (g1 g2:Nat) (lb1 lb2:Array Value),PSt w0 bp tb ((w.heap.size,(.cells #[.int .i64 0,.int .i64 0,.slice none 0 0,.slice none 0 0] 26))::(ab,(.cells #[.int .i64 o.kind,.string o.text,.bool o.neg,.int .u64 o.num] 34))::zs) l wk→w.heap.size<wk.heap.size→ClAt wk (.wd kBETWEEN) (.func (.func g1) #[] lb1)→ClAt wk (.wd kAND) (.func (.func g2) #[] lb2)→Calls Tryz.prog 159 #[.pointer (some ⟨bp,0,none⟩),.agg #[.int .i64 2,.int .i64 0,.slice (some ⟨ab,0,none⟩) 1 1,.slice none 0 0],.slice (some ⟨wk.heap.size,0,none⟩) 2 2] (wk.alloc (.cells #[.func (.func g1) #[] lb1,.func (.func g2) #[] lb2] 95)) (fun x w'=>∃ (T:XT) (e:Nat) (l':List Tk),x=.returned (.tuple #[.agg #[.int .i64 T.op,.int .i64 T.rel,.slice T.aa T.an T.ac,.slice T.ka T.kn T.kc],.int .i64 (e:Nat)])∧PSt w0 bp tb ((w.heap.size,(.cells #[.int .i64 0,.int .i64 0,.slice none 0 0,.slice none 0 0] 26))::zs) l' w'∧XAt w' (fun b=>b=ab∨w.heap.size<b) T∧AnsX (furX 2 0 betw l [o]) T e l') from fun wk g1 g2 lb1 lb2 hk hsz h1 h2=>by
  have hb1:Below wk.heap.size wk (wk.alloc (.cells #[.func (.func g1) #[] lb1,.func (.func g2) #[] lb2] 95)):=(Below.refl _ _).alloc (Nat.le_refl _) _;have hk2:=hk.next hb1;refine (jbw 2 0 betw Ya [.func (.func g1) #[] lb1,.func (.func g2) #[] lb2] bp tb ab wk.heap.size 1 l [o] _ hk2.pat (rowTwo h1 h2) (jll (hk2.own _ (List.mem_cons_of_mem _ List.mem_cons_self)).1) (by have:=hp.lt;omega) hv h99 (by show 1+2≤10;omega)).mono ?_;intro x w' hx
  obtain ⟨T,e,l',h3,h4,h5,h6⟩:=jl9 (zs:=(w.heap.size,(.cells #[.int .i64 0,.int .i64 0,.slice none 0 0,.slice none 0 0] 26))::zs) hk habge (fun p hp=>by
   rcases List.mem_cons.1 hp with rfl|hp
   · exact ⟨List.mem_cons_self,by show w.heap.size≠ab;omega⟩
   · exact ⟨List.mem_cons_of_mem _ (List.mem_cons_of_mem _ hp),hz p hp⟩) hb1 hx
  exact ⟨T,e,l',h3,h4,h5.sub (fun b hb _=>hb.imp id (fun h=>by have:=hb1.size;omega)),h6⟩)
 have HZL:=lh (show ∀ p∈zs,p.1<w.heap.size from fun p hpz=>lt_of_block (hp.own p (List.mem_cons_of_mem _ hpz)).1);clear hp;go_enter Tryz.func158,Tryz.ntmps158
 go_wp2_with (first
  |(go_at_call 159;refine (HFU.out _ _ _ _ _ HP2.out (by have:=lt_of_block (HP2.out.own _ List.mem_cons_self).1;omega) HC1b.out HC2.out).mono ?_;rintro x w3 ⟨T,e3,l3,rfl,hp3,hx3,ha3⟩;have HP3:=lh hp3;have HX3:=lh hx3;have HA3:=lh ha3;have hzz:=(hp3.own _ List.mem_cons_self).1;obtain ⟨r0,f0,r1,f1,r2,f2,r3,f3⟩:=bf4 hzz;clear hzz;clear hp3 hx3 ha3)
  |(go_at_call 116;refine (jh kAND _ rfl _).mono ?_;rintro e w2 ⟨g2,lb2,rfl,hc2,hb2⟩;have HP2:=lh (HP1.out.next hb2);have HC1b:=lh (HC1.out.next hb2);have HC2:=lh hc2;clear hc2 hb2)
  |(go_at_call 116;refine (jh kBETWEEN _ rfl _).mono ?_;rintro e w1 ⟨g1,lb1,rfl,hc1,hb1⟩;have HP1:=lh (HP0.out.next hb1);have HC1:=lh hc1;clear hc1 hb1))
 obtain ⟨r1,r2⟩:=HP3.out.own _ List.mem_cons_self;have h4:=qu (b:=w.heap.size) (S:=fun k=>k=w.heap.size) (Only.refl _ w3) (.inl rfl) (.int .i64 T.op) (.int .i64 T.rel) (.slice T.aa T.an T.ac) (.slice T.ka T.kn T.kc);have hsz:=HP3.out.lt;have hpat:=HP3.out.pat.only h4 (by omega) (by omega);have honly:=qu (b:=w.heap.size) HP3.out.only (.inr (by omega)) (.int .i64 T.op) (.int .i64 T.rel) (.slice T.aa T.an T.ac) (.slice T.ka T.kn T.kc);refine endBtw rfl w.heap.size rfl rfl (qw r1 _ _ _ _) ⟨T,e3,l3,rfl,⟨hpat,honly,fun p hp=>?_,hsz⟩,?_,HA3.out⟩
 · have h5:=HP3.out.own p (List.mem_cons_of_mem _ hp);have h6:=HZL.out p hp;exact ⟨h4.same h5.1 (by omega),h5.2⟩
 · exact (HX3.out.only h4 (fun b hb _=>by omega)).sub (fun b hb _=>by omega)
theorem PSt.sub {w wr:World} {bp tb:Nat} {zs zs2:List (Nat × Obj)} {l:List Tk} (h:PSt w bp tb zs l wr) (hs:∀ p∈zs2,p∈zs):PSt w bp tb zs2 l wr:=⟨h.pat,h.only,fun p hp=>h.own p (hs p hp),h.lt⟩
theorem jte (w:World) (bp tb ab:Nat) (o:Opd) (l:List Tk) (op rel:Int) (c:Cl) (hc:c.inner) (v:Value) (wk:World) (hp:PSt w bp tb [(ab,(.cells #[.int .i64 o.kind,.string o.text,.bool o.neg,.int .u64 o.num] 34)),(w.heap.size,(.cells #[.int .i64 0,.int .i64 0,.slice none 0 0,.slice none 0 0] 26))] l wk) (hab:w.heap.size<ab) (hcl:ClAt wk c v) (hv:Vd l) (h99:l.length≤99):
  Calls Tryz.prog 159 #[.pointer (some ⟨bp,0,none⟩),.agg #[.int .i64 op,.int .i64 rel,.slice (some ⟨ab,0,none⟩) 1 1,.slice none 0 0],.slice (some ⟨wk.heap.size,0,none⟩) 1 1] (wk.alloc (.cells #[v] 95)) (FurP w bp tb ab [(w.heap.size,(.cells #[.int .i64 0,.int .i64 0,.slice none 0 0,.slice none 0 0] 26))] wk.heap.size (furX op rel [c] l [o])):=by
 have hb1:Below wk.heap.size wk (wk.alloc (.cells #[v] 95)):=(Below.refl _ _).alloc (Nat.le_refl _) _;have hk2:=hp.next hb1;refine (jbw op rel [c] (by intro d hd;simp at hd;rw [hd];exact hc) [v] bp tb ab wk.heap.size 1 l [o] _ hk2.pat (rowOne hcl) (jll (hk2.own _ List.mem_cons_self).1) (by have:=hp.lt;omega) hv h99 (by show 1+1≤10;omega)).mono ?_;intro x w' hx
 obtain ⟨T,e,l',h3,h4,h5,h6⟩:=jl9 (zs:=[(w.heap.size,(.cells #[.int .i64 0,.int .i64 0,.slice none 0 0,.slice none 0 0] 26))]) hp (Nat.le_of_lt hab) (fun p hp=>by
  simp at hp;subst hp
  exact ⟨List.mem_cons_of_mem _ List.mem_cons_self,by show w.heap.size≠ab;omega⟩) hb1 hx
 exact ⟨T,e,l',h3,h4,h5.sub (fun b hb _=>hb.imp id (fun h=>by have:=hb1.size;omega)),h6⟩
theorem jqn (op rel:Int) (cs:List Cl) (h1:∀ c∈cs,c.inner) (h0:cs≠[]) (l:List Tk) (a:List Opd) (hv:Vd l) (h99:l.length≤99):∀ e l',furX op rel cs l a=.err e l'→e≠0:=by
 intro e l' h
 have:=Xo op rel cs h1 h0 l a hv h99
 rw [h] at this;exact this.2.2
theorem jra (bp tb:Nat) (l:List Tk) (w:World) (hp:PAt w bp tb l) (hv:Vd l) (h99:l.length≤99):
  Calls Tryz.prog 118 #[.pointer (some ⟨bp,0,none⟩)] w (XTo w bp tb (testP l)):=by
 have HP0:=lh (show PSt w bp tb [(w.heap.size,(.cells #[.int .i64 0,.int .i64 0,.slice none 0 0,.slice none 0 0] 26))] l (w.alloc (.cells #[.int .i64 0,.int .i64 0,.slice none 0 0,.slice none 0 0] 26)) from (PSt.start hp).new _);have hless:=zo l hv h99;have HOP:=lh (jbt bp tb l (w.alloc (.cells #[.int .i64 0,.int .i64 0,.slice none 0 0,.slice none 0 0] 26)) HP0.out.pat hv h99)
 have hT:testP l=match operandP l with|.err e l'=>.err e l' |.ok o l'=>testO o l':=rfl
 rw [hT];clear hT hp
 cases hop:operandP l with
 |err e1 l1=>
  rw [hop] at HOP hless;unfold OpTo at HOP
  have q2:(((e1:Nat):Int) !=0)=true:=by have:=hless.2.2;simp;omega
  clear hop hless;go_enter Tryz.func118,Tryz.ntmps118;go_wp2_with (go_at_call 157;refine (HOP.out).mono ?_;rintro x w1 ⟨ho1,rfl,hpt1⟩;have HP1:=lh (HP0.out.skip hpt1 ho1);have hw1:=lt_of_block (HP1.out.own _ List.mem_cons_self).1;have hw1n:¬w.heap.size=w1.heap.size:=(by omega);have hzz:=(HP1.out.own _ List.mem_cons_self).1;obtain ⟨r0,f0,r1,f1,r2,f2,r3,f3⟩:=bf4 hzz;clear hzz;clear ho1 hpt1);have hF:=HP1.out.put (Nat.le_refl _) (.int .i64 0) (.int .i64 0) (.slice none 0 0) (.slice none 0 0);exact endTest rfl w.heap.size rfl rfl (je (qw (HP1.out.own _ List.mem_cons_self).1 _ _ _ _)) ⟨hF.2.alloc _,.nil,e1,l1,rfl,hF.1.next ((Below.refl _ _).alloc (Nat.le_refl _) _),trivial,.inr ⟨rfl,rfl⟩⟩
 |ok o l1=>
  rw [hop] at HOP hless;unfold OpTo at HOP
  show Calls _ _ _ w (XTo w bp tb (testO o l1))
  have hv1:=hless.1
  have h199:l1.length≤99:=by have:=hless.2;omega
  have hp1:=hv1.pos
  have HNEW:=lh (show ∀ w1,PSt w bp tb [(w.heap.size,(.cells #[.int .i64 0,.int .i64 0,.slice none 0 0,.slice none 0 0] 26))] l1 w1→PSt w bp tb [(w1.heap.size+1,(.cells #[.int .i64 o.kind,.string o.text,.bool o.neg,.int .u64 o.num] 34)),(w.heap.size,(.cells #[.int .i64 0,.int .i64 0,.slice none 0 0,.slice none 0 0] 26))] l1 ((w1.alloc (.cells #[.int .i64 o.kind,.string o.text,.bool o.neg,.int .u64 o.num] 34)).alloc (.cells #[.int .i64 o.kind,.string o.text,.bool o.neg,.int .u64 o.num] 34)) from fun w1 h=>by
   have h2:=(h.new (.cells #[.int .i64 o.kind,.string o.text,.bool o.neg,.int .u64 o.num] 34)).new (.cells #[.int .i64 o.kind,.string o.text,.bool o.neg,.int .u64 o.num] 34)
   have e:(w1.alloc (.cells #[.int .i64 o.kind,.string o.text,.bool o.neg,.int .u64 o.num] 34)).heap.size=w1.heap.size+1:=by simp
   rw [e] at h2
   exact h2.sub (fun p hp=>by
    rcases List.mem_cons.1 hp with rfl|hp
    · exact List.mem_cons_self
    · exact List.mem_cons_of_mem _ (List.mem_cons_of_mem _ hp)))
  clear hop hless
  cases h1:(Cl.wd kNOT).test (hd l1) with
  |true=>
   obtain ⟨hv2,hl2⟩:=hv1.tail (by trivial) h1;have hp2:=hv2.pos
   have hN:testO o l1=negR (furX 2 0 betw l1.tail [o]):=by unfold testO;rw [if_pos h1]
   rw [hN];have HS1:=lh (fun (v:Value) wx (hp2:PAt wx bp tb l1) (hc:ClAt wx (.wd kNOT) v)=>qf bp tb l1 (.wd kNOT) v wx hp2 hc (by omega) h199 (Short.hd hv1.short) h1);have HNG:=lh (fun (wx:World) (S:Nat→Prop) (T:XT) (e:Nat) (l':List Tk) (hT:XAt wx S T) (ha:AnsX (furX 2 0 betw l1.tail [o]) T e l')=>Y7 wx S _ (jqn 2 0 betw Ya (by simp [betw]) l1.tail [o] hv2 (by omega)) T e l' hT ha);have HBT:=lh (fun (ab:Nat) wx (hpx:PSt w bp tb [(ab,(.cells #[.int .i64 o.kind,.string o.text,.bool o.neg,.int .u64 o.num] 34)),(w.heap.size,(.cells #[.int .i64 0,.int .i64 0,.slice none 0 0,.slice none 0 0] 26))] l1.tail wx) (hab:w.heap.size<ab)=>jbx w bp tb ab [(w.heap.size,(.cells #[.int .i64 0,.int .i64 0,.slice none 0 0,.slice none 0 0] 26))] l1.tail o wx hpx (fun p hp=>by simp at hp;subst hp;show w.heap.size≠ab;omega) hv2 (by omega));clear hN;go_enter Tryz.func118,Tryz.ntmps118
   go_wp2_with (first
    |(go_at_call 120;refine (HNG.out _ _ T e4 l4 HXL.out HAL.out).mono ?_;rintro x w5 ⟨hb5,T5,rfl,hx5,ha5⟩;have HPM:=lh (HPL.out.next hb5);have HXM:=lh hx5;have HAM:=lh ha5;have hzz:=(HPM.out.own _ List.mem_cons_self).1;obtain ⟨r0,f0,r1,f1,r2,f2,r3,f3⟩:=bf4 hzz;clear hzz;have hsz5:=lt_of_block (HPL.out.own _ List.mem_cons_self).1;clear hb5 hx5 ha5)
    |(go_at_call 158;refine (HBT.out _ _ HP3.out (by omega)).mono ?_;rintro x w4 ⟨T,e4,l4,rfl,hp4,hx4,ha4⟩;have HPL:=lh hp4;have HXL:=lh hx4;have HAL:=lh ha4;have hsz4:=lt_of_block (HP3.out.own _ (List.mem_cons_of_mem _ List.mem_cons_self)).1;have hzz:=(hp4.own _ List.mem_cons_self).1;obtain ⟨r0,f0,r1,f1,r2,f2,r3,f3⟩:=bf4 hzz;clear hzz;clear hp4 hx4 ha4)
    |(go_at_call 119;refine (HS1.out _ _ HP2.out.pat HC2.out).mono ?_;rintro e w3 ⟨rfl,hp3,ho3⟩;have HP3:=lh (HP2.out.skip hp3 ho3);clear hp3 ho3)
    |(go_at_call 116;refine (jh kNOT _ rfl _).mono ?_;rintro e w2 ⟨g2,lb2,rfl,hc2,hb2⟩;have HP2:=lh (HP1.out.next hb2);have HC2:=lh hc2;clear hc2 hb2)
    |(go_at_call 157;refine (HOP.out).mono ?_;rintro x w1 ⟨ho1,rfl,hpt1⟩;have HPo:=lh (HP0.out.skip hpt1 ho1);have hw1:=lt_of_block (HPo.out.own _ List.mem_cons_self).1;have HP1:=lh (HNEW.out w1 HPo.out);clear ho1 hpt1))
   exact endTest rfl w.heap.size rfl rfl (qw (HPM.out.own _ List.mem_cons_self).1 _ _ _ _) (Z0 HPM.out HXM.out (fun b hb hl=>by rcases hb with (hb|hb)|hb <;> omega) HAM.out)
  |false=>
   have HS1:=lh (fun (v:Value) wx (hp2:PAt wx bp tb l1) (hc:ClAt wx (.wd kNOT) v)=>yh bp tb l1 (.wd kNOT) v wx hp2 hc (by omega) h199 (Short.hd hv1.short) h1)
   cases h2:(Cl.wd kBETWEEN).test (hd l1) with
   |true=>
    have hN:testO o l1=furX 2 0 betw l1 [o]:=by unfold testO;rw [if_neg (by simpa using h1),if_pos h2]
    rw [hN];have HS2:=lh (show ∀ (v:Value) wx,PAt wx bp tb l1→ClAt wx (.wd kBETWEEN) v→Calls Tryz.prog 44 #[.pointer (some ⟨bp,0,none⟩),v] wx fun e w'=>e=.returned (.bool true)∧Below wx.heap.size wx w' from fun v wx hp2 hc=>by have:=kq bp tb l1 (.wd kBETWEEN) v wx hp2 hc hp1 h199 (Short.hd hv1.short);rwa [h2] at this);have HBT:=lh (fun (ab:Nat) wx (hpx:PSt w bp tb [(ab,(.cells #[.int .i64 o.kind,.string o.text,.bool o.neg,.int .u64 o.num] 34)),(w.heap.size,(.cells #[.int .i64 0,.int .i64 0,.slice none 0 0,.slice none 0 0] 26))] l1 wx) (hab:w.heap.size<ab)=>jbx w bp tb ab [(w.heap.size,(.cells #[.int .i64 0,.int .i64 0,.slice none 0 0,.slice none 0 0] 26))] l1 o wx hpx (fun p hp=>by simp at hp;subst hp;show w.heap.size≠ab;omega) hv1 h199);clear hN;go_enter Tryz.func118,Tryz.ntmps118
    go_wp2_with (first
     |(go_at_call 158;refine (HBT.out _ _ HP5.out (by omega)).mono ?_;rintro x w6 ⟨T,e6,l6,rfl,hp6,hx6,ha6⟩;have HPL:=lh hp6;have HXL:=lh hx6;have HAL:=lh ha6;have hsz6:=lt_of_block (HP5.out.own _ (List.mem_cons_of_mem _ List.mem_cons_self)).1;have hzz:=(hp6.own _ List.mem_cons_self).1;obtain ⟨r0,f0,r1,f1,r2,f2,r3,f3⟩:=bf4 hzz;clear hzz;clear hp6 hx6 ha6)
     |(go_at_call 44;refine (HS2.out _ _ HP4.out.pat HC4.out).mono ?_;rintro e w5 ⟨rfl,hb5⟩;have HP5:=lh (HP4.out.next hb5);clear hb5)
     |(go_at_call 116;refine (jh kBETWEEN _ rfl _).mono ?_;rintro e w4 ⟨g4,lb4,rfl,hc4,hb4⟩;have HP4:=lh (HP3.out.next hb4);have HC4:=lh hc4;clear hc4 hb4)
     |(go_at_call 119;refine (HS1.out _ _ HP2.out.pat HC2.out).mono ?_;rintro e w3 ⟨rfl,hb3⟩;have HP3:=lh (HP2.out.next hb3);clear hb3)
     |(go_at_call 116;refine (jh kNOT _ rfl _).mono ?_;rintro e w2 ⟨g2,lb2,rfl,hc2,hb2⟩;have HP2:=lh (HP1.out.next hb2);have HC2:=lh hc2;clear hc2 hb2)
     |(go_at_call 157;refine (HOP.out).mono ?_;rintro x w1 ⟨ho1,rfl,hpt1⟩;have HPo:=lh (HP0.out.skip hpt1 ho1);have hw1:=lt_of_block (HPo.out.own _ List.mem_cons_self).1;have HP1:=lh (HNEW.out w1 HPo.out);clear ho1 hpt1))
    exact endTest rfl w.heap.size rfl rfl (qw (HPL.out.own _ List.mem_cons_self).1 _ _ _ _) (Z0 HPL.out HXL.out (fun b hb hl=>by rcases hb with hb|hb <;> omega) HAL.out)
   |false=>
    have HS2:=lh (show ∀ (v:Value) wx,PAt wx bp tb l1→ClAt wx (.wd kBETWEEN) v→Calls Tryz.prog 44 #[.pointer (some ⟨bp,0,none⟩),v] wx fun e w'=>e=.returned (.bool false)∧Below wx.heap.size wx w' from fun v wx hp2 hc=>by have:=kq bp tb l1 (.wd kBETWEEN) v wx hp2 hc hp1 h199 (Short.hd hv1.short);rwa [h2] at this);have HFU:=lh (fun (op rel:Int) (c:Cl) (hc:c.inner) (v:Value) (ab:Nat) wk (hpx:PSt w bp tb [(ab,(.cells #[.int .i64 o.kind,.string o.text,.bool o.neg,.int .u64 o.num] 34)),(w.heap.size,(.cells #[.int .i64 0,.int .i64 0,.slice none 0 0,.slice none 0 0] 26))] l1 wk) (hab:w.heap.size<ab) (hcl:ClAt wk c v)=>jte w bp tb ab o l1 op rel c hc v wk hpx hab hcl hv1 h199)
    cases h3:(Cl.wd kLIKE).test (hd l1) with
    |true=>
     have hN:testO o l1=furX 3 0 [.wd kLIKE] l1 [o]:=by unfold testO;rw [if_neg (by simpa using h1),if_neg (by simpa using h2),if_pos h3]
     rw [hN];have HS3:=lh (show ∀ (v:Value) wx,PAt wx bp tb l1→ClAt wx (.wd kLIKE) v→Calls Tryz.prog 44 #[.pointer (some ⟨bp,0,none⟩),v] wx fun e w'=>e=.returned (.bool true)∧Below wx.heap.size wx w' from fun v wx hp2 hc=>by have:=kq bp tb l1 (.wd kLIKE) v wx hp2 hc hp1 h199 (Short.hd hv1.short);rwa [h3] at this);clear hN;go_enter Tryz.func118,Tryz.ntmps118
     go_wp2_with (first
      |(go_at_call 159;refine (HFU.out 3 0 (.wd kLIKE) trivial _ (w1.heap.size+1) _ HP8.out (by omega) HC8.out).mono ?_;rintro x w9 ⟨T,e9,l9,rfl,hp9,hx9,ha9⟩;have HPL:=lh hp9;have HXL:=lh hx9;have HAL:=lh ha9;have hsz9:=lt_of_block (HP8.out.own _ (List.mem_cons_of_mem _ List.mem_cons_self)).1;have hzz:=(hp9.own _ List.mem_cons_self).1;obtain ⟨r0,f0,r1,f1,r2,f2,r3,f3⟩:=bf4 hzz;clear hzz;clear hp9 hx9 ha9)
      |(go_at_call 116;refine (jh kLIKE _ rfl _).mono ?_;rintro e w8 ⟨g8,lb8,rfl,hc8,hb8⟩;have HP8:=lh (HP7.out.next hb8);have HC8:=lh hc8;clear hc8 hb8)
      |(go_at_call 44;refine (HS3.out _ _ HP6.out.pat HC6.out).mono ?_;rintro e w7 ⟨rfl,hb7⟩;have HP7:=lh (HP6.out.next hb7);clear hb7)
      |(go_at_call 116;refine (jh kLIKE _ rfl _).mono ?_;rintro e w6 ⟨g6,lb6,rfl,hc6,hb6⟩;have HP6:=lh (HP5.out.next hb6);have HC6:=lh hc6;clear hc6 hb6)
      |(go_at_call 44;refine (HS2.out _ _ HP4.out.pat HC4.out).mono ?_;rintro e w5 ⟨rfl,hb5⟩;have HP5:=lh (HP4.out.next hb5);clear hb5)
      |(go_at_call 116;refine (jh kBETWEEN _ rfl _).mono ?_;rintro e w4 ⟨g4,lb4,rfl,hc4,hb4⟩;have HP4:=lh (HP3.out.next hb4);have HC4:=lh hc4;clear hc4 hb4)
      |(go_at_call 119;refine (HS1.out _ _ HP2.out.pat HC2.out).mono ?_;rintro e w3 ⟨rfl,hb3⟩;have HP3:=lh (HP2.out.next hb3);clear hb3)
      |(go_at_call 116;refine (jh kNOT _ rfl _).mono ?_;rintro e w2 ⟨g2,lb2,rfl,hc2,hb2⟩;have HP2:=lh (HP1.out.next hb2);have HC2:=lh hc2;clear hc2 hb2)
      |(go_at_call 157;refine (HOP.out).mono ?_;rintro x w1 ⟨ho1,rfl,hpt1⟩;have HPo:=lh (HP0.out.skip hpt1 ho1);have hw1:=lt_of_block (HPo.out.own _ List.mem_cons_self).1;have HP1:=lh (HNEW.out w1 HPo.out);clear ho1 hpt1))
     exact endTest rfl w.heap.size rfl rfl (qw (HPL.out.own _ List.mem_cons_self).1 _ _ _ _) (Z0 HPL.out HXL.out (fun b hb hl=>by rcases hb with hb|hb <;> omega) HAL.out)
    |false=>
     have hN:testO o l1=furX 1 (relT (hd l1):Nat) [.rl] l1 [o]:=by unfold testO;rw [if_neg (by simpa using h1),if_neg (by simpa using h2),if_neg (by simpa using h3)]
     rw [hN];have HS3:=lh (show ∀ (v:Value) wx,PAt wx bp tb l1→ClAt wx (.wd kLIKE) v→Calls Tryz.prog 44 #[.pointer (some ⟨bp,0,none⟩),v] wx fun e w'=>e=.returned (.bool false)∧Below wx.heap.size wx w' from fun v wx hp2 hc=>by have:=kq bp tb l1 (.wd kLIKE) v wx hp2 hc hp1 h199 (Short.hd hv1.short);rwa [h3] at this);have HRL:=lh (fun wx=>jai (hd l1) wx);unfold RelTo at HRL;clear hN;go_enter Tryz.func118,Tryz.ntmps118
     go_wp2_with (first
      |(go_at_call 159;refine (HFU.out 1 _ .rl trivial _ (w1.heap.size+1) _ HP8.out (by omega) rfl).mono ?_;rintro x w9 ⟨T,e9,l9,rfl,hp9,hx9,ha9⟩;have HPL:=lh hp9;have HXL:=lh hx9;have HAL:=lh ha9;have hsz9:=lt_of_block (HP8.out.own _ (List.mem_cons_of_mem _ List.mem_cons_self)).1;have hzz:=(hp9.own _ List.mem_cons_self).1;obtain ⟨r0,f0,r1,f1,r2,f2,r3,f3⟩:=bf4 hzz;clear hzz;clear hp9 hx9 ha9)
      |(go_at_call 160;refine (HRL.out _).mono ?_;rintro x w8 ⟨rfl,hb8⟩;have HP8:=lh (HP7.out.next hb8);clear hb8)
      |(go_at_call 44;refine (HS3.out _ _ HP6.out.pat HC6.out).mono ?_;rintro e w7 ⟨rfl,hb7⟩;have HP7:=lh (HP6.out.next hb7);clear hb7;obtain ⟨_,_,off,cap,hbx,hcap,htk⟩:=HP7.out.pat;have p0:w7.cell? ⟨bp,0,none⟩=some (.slice (some ⟨tb,off,none⟩) l1.length cap):=ja hbx rfl;have hh:=htk.head (by first|assumption|omega);have t0:w7.cell? ⟨tb,off,none⟩=some (.int .i64 ((hd l1).k:Nat)):=hh 0 _ rfl;have t1:w7.cell? ⟨tb,off+1,none⟩=some (.string (bs (hd l1).t)):=hh 1 _ rfl;have t2:w7.cell? ⟨tb,off+2,none⟩=some (.int .u64 ((hd l1).n:Nat)):=hh 2 _ rfl;have t3:w7.cell? ⟨tb,off+3,none⟩=some (.int .i64 ((hd l1).a:Nat)):=hh 3 _ rfl;clear hh hbx htk)
      |(go_at_call 116;refine (jh kLIKE _ rfl _).mono ?_;rintro e w6 ⟨g6,lb6,rfl,hc6,hb6⟩;have HP6:=lh (HP5.out.next hb6);have HC6:=lh hc6;clear hc6 hb6)
      |(go_at_call 44;refine (HS2.out _ _ HP4.out.pat HC4.out).mono ?_;rintro e w5 ⟨rfl,hb5⟩;have HP5:=lh (HP4.out.next hb5);clear hb5)
      |(go_at_call 116;refine (jh kBETWEEN _ rfl _).mono ?_;rintro e w4 ⟨g4,lb4,rfl,hc4,hb4⟩;have HP4:=lh (HP3.out.next hb4);have HC4:=lh hc4;clear hc4 hb4)
      |(go_at_call 119;refine (HS1.out _ _ HP2.out.pat HC2.out).mono ?_;rintro e w3 ⟨rfl,hb3⟩;have HP3:=lh (HP2.out.next hb3);clear hb3)
      |(go_at_call 116;refine (jh kNOT _ rfl _).mono ?_;rintro e w2 ⟨g2,lb2,rfl,hc2,hb2⟩;have HP2:=lh (HP1.out.next hb2);have HC2:=lh hc2;clear hc2 hb2)
      |(go_at_call 157;refine (HOP.out).mono ?_;rintro x w1 ⟨ho1,rfl,hpt1⟩;have HPo:=lh (HP0.out.skip hpt1 ho1);have hw1:=lt_of_block (HPo.out.own _ List.mem_cons_self).1;have HP1:=lh (HNEW.out w1 HPo.out);clear ho1 hpt1))
     exact endTest rfl w.heap.size rfl rfl (qw (HPL.out.own _ List.mem_cons_self).1 _ _ _ _) (Z0 HPL.out HXL.out (fun b hb hl=>by rcases hb with hb|hb <;> omega) HAL.out)
theorem infoX:(Tryz.prog.info? 26).map (fun i=>(i.zero,i.size,i.bytes))=some (some (.agg #[.int .i64 0,.int .i64 0,.slice none 0 0,.slice none 0 0]),4,64):=by kernel_rfl
theorem jmf:∀ (a:List XT) (i m:Nat),i<a.length→m<4→(a.flatMap xtC)[i*4+m]?=(xtC (a.getD i .nil))[m]?
 | [],i,m,h,_=>by simp at h
 |x::r,0,m,_,hm=>by
  rw [List.flatMap_cons,List.getElem?_append_left (by show _<4;omega),Nat.zero_mul,Nat.zero_add];rfl
 |x::r,i+1,m,h,hm=>by
  rw [List.flatMap_cons,List.getElem?_append_right (by show 4≤_;omega)]
  show (r.flatMap xtC)[(i+1)*4+m - 4]?= _
  rw [show (i+1)*4+m - 4=i*4+m by omega,jmf r i m (by simpa using h) hm]
  rfl
theorem jq5 {w:World} {base n c g:Nat} {a:List XT} {S:Nat→Prop} (h:w.ownsRow base 26 4 (.slice (some ⟨g,0,none⟩) n c) n (a.flatMap xtC)) (hS:S g) (hl:g<w.heap.size):∀ i,i<a.length→CellsAt w S (some ⟨g,0,none⟩) i (xtC (a.getD i .nil)):=by
 intro i hi;refine ⟨g,0,rfl,hS,hl,fun r u hu=>?_⟩;have hr:r<4:=(List.getElem?_eq_some_iff.1 hu).1;have h2:=h.cells (g:=g) rfl (i*4+r) u (by rw [jmf a i r hi hr];exact hu)
 have hadd:(⟨g,0,none⟩:Addr).add (i*4+r)=⟨g,0+i*4+r,none⟩:=by unfold Addr.add;split <;> simp_all
 rwa [hadd] at h2
def Sames (ks ts:List XT):Prop:=ks.length=ts.length∧∀ i,i<ks.length→SameX (ks.getD i .nil) (ts.getD i .nil)
theorem Sames.nil:Sames [] []:=⟨rfl,fun i hi=>by simp at hi⟩
theorem Sames.snoc {ks ts:List XT} {x t:XT} (h:Sames ks ts) (hx:SameX x t):Sames (ks++[x]) (ts++[t]):=by
 refine ⟨by simp [h.1],fun i hi=>?_⟩;rw [List.length_append] at hi
 rcases Nat.lt_or_ge i ks.length with c|c
 · have:=h.2 i c
   have c2:i<ts.length:=by have:=h.1;omega
   simpa [List.getD_eq_getElem?_getD,List.getElem?_append_left c,List.getElem?_append_left c2] using this
 · obtain rfl:i=ks.length:=by simp at hi;omega
   have:=h.1
   simpa [List.getD_eq_getElem?_getD,this] using hx
structure SerSt (w:World) (bp tb:Nat) (v:Value) (ks:List XT) (l:List Tk) (wr:World):Prop where
 pat:PAt wr bp tb l
 only:Only (fun k=>k=bp) w wr
 res:wr.heap[w.heap.size]?=some (.cells #[.int .i64 0,.int .i64 0,.slice none 0 0,.slice none 0 0] 26)
 row:wr.ownsRow (w.heap.size+1) 26 4 v ks.length (ks.flatMap xtC)
 kids:∀ i,i<ks.length→XAt wr (fun b=>w.heap.size<b∧v.ownBlock≠some b) (ks.getD i .nil)
 lt:bp<w.heap.size∧tb<w.heap.size
theorem SerSt.next {w wr w':World} {bp tb:Nat} {v:Value} {ks:List XT} {l:List Tk} (h:SerSt w bp tb v ks l wr) (hb:Below wr.heap.size wr w'):SerSt w bp tb v ks l w':=
 ⟨h.pat.next hb,h.only.step hb,rowKeep hb h.res,(Only.of_below (S:=fun _=>False) hb).row h.row (fun _ _ f=>f),fun i hi=>(h.kids i hi).next hb,h.lt⟩
theorem SerSt.skip {w wr w':World} {bp tb:Nat} {v:Value} {ks:List XT} {l l':List Tk} (h:SerSt w bp tb v ks l wr) (hp:PAt w' bp tb l') (ho:Only (fun k=>k=bp) wr w'):SerSt w bp tb v ks l' w':=
 ⟨hp,h.only.trans ho (fun i _ e=>e),ho.same h.res (by have:=h.lt;omega),ho.row h.row (fun k hk e=>by have:=(h.row.lt k hk).1;have:=h.lt;omega),fun i hi=>(h.kids i hi).only ho (fun b hb _ e=>by have:=hb.1;have:=h.lt;omega),h.lt⟩
theorem SerSt.app {w wr w2:World} {bp tb gg cp N:Nat} {v:Value} {ks:List XT} {T:XT} {l:List Tk} (h:SerSt w bp tb v ks l wr) (hT:XAt wr (fun b=>N≤b) T) (hN:∀ k,v.ownBlock=some k→k<N) (hN2:w.heap.size<N)
  (hown:w2.ownsRow (w.heap.size+1) 26 4 (.slice (some ⟨gg,0,none⟩) (ks.length+1) cp) (ks.length+1) (ks.flatMap xtC++xtC T)) (hg:wr.grownBy w2 v.ownBlock) (hat:v.ownBlock=some gg∨gg=wr.heap.size):
  SerSt w bp tb (.slice (some ⟨gg,0,none⟩) (ks.length+1) cp) (ks++[T]) l w2:=by
 have hv:∀ k,v.ownBlock=some k→w.heap.size<k:=fun k hk=>by have:=(h.row.lt k hk).1;omega
 have ho:Only (fun k=>v.ownBlock=some k) wr w2:=⟨hg.os,hg.tape,hg.output,hg.size,fun k hk hn=>hg.block k hk (fun e=>hn e.symm)⟩
 have hl:(ks++[T]).length=ks.length+1:=by simp
 have hf:(ks++[T]).flatMap xtC=ks.flatMap xtC++xtC T:=by simp
 have hob:(Value.slice (some ⟨gg,0,none⟩) (ks.length+1) cp).ownBlock=some gg:=rfl;refine ⟨h.pat.only ho (fun e=>by have:=hv _ e;have:=h.lt;omega) (fun e=>by have:=hv _ e;have:=h.lt;omega),h.only.trans ho (fun i hi e=>by have:=hv _ e;omega),ho.same h.res (fun e=>by have:=hv _ e;omega),by rw [hl,hf];exact hown,fun i hi=>?_,h.lt⟩;rw [hob]
 have hne:∀ b,v.ownBlock≠some b→b<wr.heap.size→some gg≠some b:=fun b h1 h2 e=>by
  rcases hat with e2|e2
  · exact h1 (e2.trans e)
  · injection e with e;omega
 rcases Nat.lt_or_ge i ks.length with c|c
 · have e:(ks++[T]).getD i .nil=ks.getD i .nil:=by simp [List.getD_eq_getElem?_getD,List.getElem?_append_left c]
   rw [e];exact XAt.held_of (fun b hb hl=>⟨hb.1,hne b hb.2 hl⟩) ho.size (fun b hb hl=>ho.block b hl hb.2) _ (h.kids i c)
 · obtain rfl:i=ks.length:=by omega
   have e:(ks++[T]).getD ks.length .nil=T:=by simp [List.getD_eq_getElem?_getD]
   rw [e];exact XAt.held_of (fun b hb hl=>⟨by omega,hne b (fun e=>by have:=hN b e;omega) hl⟩) ho.size (fun b hb hl=>ho.block b hl (fun e=>by have:=hN b e;omega)) _ hT
theorem newX (T:XT) (w1:World) (O1:Obj):∀ i u,(xtC T)[i]?=some u→((w1.alloc O1).alloc (.cells #[.int .i64 T.op,.int .i64 T.rel,.slice T.aa T.an T.ac,.slice T.ka T.kn T.kc] 26)).cell? ((⟨w1.heap.size+1,0,none⟩:Addr).add i)=some u:=by
 have h:=jd (w1.alloc O1) (.cells #[.int .i64 T.op,.int .i64 T.rel,.slice T.aa T.an T.ac,.slice T.ka T.kn T.kc] 26)
 have hz:(w1.alloc O1).heap.size=w1.heap.size+1:=by simp
 rw [hz] at h;intro i u hu;exact World.news_of_block h i u hu
theorem jog (op:Int) (ts:List XT) (h:ts.length≠1):serX op ts=mkX op 0 [] ts:=by
 match ts,h with
 | [],_=>rfl
 | [x],h=>simp at h
 |x::y::r,_=>rfl
theorem jrl {ts:List XT} (h:ts.length=1):ts=[ts.getD 0 .nil]:=by
 match ts,h with
 | [x],_=>rfl
theorem XTo.cases {w w':World} {bp tb:Nat} {r:PR XT} {x:Ending} (h:XTo w bp tb r x w'):∃ (T:XT) (e:Nat) (l':List Tk),x=.returned (.tuple #[.agg #[.int .i64 T.op,.int .i64 T.rel,.slice T.aa T.an T.ac,.slice T.ka T.kn T.kc],.int .i64 (e:Nat)])∧PAt w' bp tb l'∧Only (fun k=>k=bp) w w'∧XAt w' (fun b=>w.heap.size≤b) T∧AnsX r T e l':=by
 obtain ⟨h1,T,e,l',h2,h3,h4,h5⟩:=h;exact ⟨T,e,l',h2,h3,h1,h4,h5⟩
theorem AnsX.ok_of {t:XT} {q l':List Tk} {T:XT} {e:Nat} (h:AnsX (.ok t q) T e l'):e=0∧l'=q∧SameX T t:=by
 rcases h with ⟨h1,t',h2,h3⟩|⟨_,h2⟩
 · injection h2 with h4 h5;subst h4;exact ⟨h1,h5.symm,h3⟩
 · cases h2
theorem AnsX.err_of {e0:Nat} {q l':List Tk} {T:XT} {e:Nat} (h:AnsX (.err e0 q) T e l'):e=e0∧l'=q∧T=.nil:=by
 rcases h with ⟨h1,t',h2,h3⟩|⟨h1,h2⟩
 · cases h2
 · injection h2 with h4 h5;exact ⟨h4.symm,h5.symm,h1⟩
theorem endSer {V:World} {act:Act} {Q:Ending→World→Prop} {a0 a1 a2 a3:Value} {e:Int} (hd:act.defers=[]) (rb:Nat) (h2:act.tmps.getD 8 undef=.pointer (some ⟨rb,0,none⟩)) (h3:act.tmps.getD 9 undef=.int .i64 e) (hr:V.heap[rb]?=some (.cells #[a0,a1,a2,a3] 26))
  (hQ:Q (.returned (.tuple #[.agg #[a0,a1,a2,a3],.int .i64 e])) V):bodyPost Tryz.prog Tryz.f84 Q Exit.ret act V:=by
 refine bodyPost_ret (v:=.tuple #[.agg #[a0,a1,a2,a3],.int .i64 e]) ?_ hd hQ;have hl2:=run_loadVar_row (P:=Tryz.prog) V rb 26 26 #[a0,a1,a2,a3] _ _ hr Tryz.underlying26 rfl (by kernel_rfl);rw [Array.getD_eq_getD_getElem?] at h2 h3;simp [results,Tryz.results84,asAddr,hl2,h2,h3]
theorem jcy (P:List Tk→PR XT) (hless:∀ l,Vd l→l.length≤99→Less l (P l)) (op:Int) (ws:List UInt8) (hws:ws.length≤10) (bp tb:Nat) (g:Nat) (lb:Array Value) (eg:Enters g) (l:List Tk) (w:World) (hp:PAt w bp tb l) (hv:Vd l) (h99:l.length≤99)
  (hpart:∀ wx l,Only (fun k=>k=bp) w wx→PAt wx bp tb l→Vd l→l.length≤99→Calls Tryz.prog g lb wx (XTo wx bp tb (P l))):
  Calls Tryz.prog 84 #[.pointer (some ⟨bp,0,none⟩),.int .i64 op,.string (bs ws),.func (.func g) #[] lb] w (XTo w bp tb (serP op ws P l)):=by
 obtain ⟨i0,hi,hz0,hz1,hz2⟩:=info_parts infoX;obtain ⟨RR,hRR⟩:∃ RR,serL P ws 100 l []=RR:=⟨_,rfl⟩
 have hS:serP op ws P l=serO op RR:=by rw [←hRR];rfl
 rw [hS];have HE:=lh hRR
 have HB0:=lh (show SerSt w bp tb (.slice none 0 0) [] l (w.alloc (.cells #[.int .i64 0,.int .i64 0,.slice none 0 0,.slice none 0 0] 26)) from by
  have hb:Below w.heap.size w (w.alloc (.cells #[.int .i64 0,.int .i64 0,.slice none 0 0,.slice none 0 0] 26)):=(Below.refl _ _).alloc (Nat.le_refl _) _
  exact ⟨hp.next hb,Only.of_below hb,jd w _,World.ownsRow_nil _ _ _ _,fun i hi=>by simp at hi,hp.blt,hp.lt⟩)
 have HPART:=lh hpart;have HLS:=lh hless;have HV:=lh hv;have HTG:=lh (fun (o:Obj) (wx:World)=>(Below.refl wx.heap.size wx).alloc (Nat.le_refl _) o);have HNX:=lh newX;clear hRR hS hp hv hpart hless;unfold Enters at eg;go_enter Tryz.func84,Tryz.ntmps84;go_wp2
 go_loopw [10] (fun v wr=>∃ (ks ts:List XT) (m:List Tk) (f:Nat),Hid (SerSt w bp tb v ks m wr)∧Hid (Sames ks ts)∧Hid (Vd m)∧m.length≤99∧m.length≤f∧ks.length+m.length≤100∧((ks=[]∧ts=[]∧v=.slice none 0 0∧Hid (serL P ws (f+1) m []=RR))∨∃ g0 cap,ks≠[]∧v=.slice (some ⟨g0,0,none⟩) ks.length cap∧Hid ((if (Cl.wd ws).test (hd m) then serL P ws f m.tail ts else .ok ts m)=RR))) (fun _ wr=>leftN wr bp)
 case atStart=>exact ⟨[],[],l,99,HB0,lh Sames.nil,HV,h99,h99,by simp;omega,.inl ⟨rfl,rfl,rfl,HE⟩⟩
 case round=>
  obtain ⟨ks,ts,m,f,HS,HSM,HVm,hm99,hmf,hkl,hcase⟩:=hrel;have hlm:=HS.out.pat.leftN;have hm0:=HVm.out.pos
  rcases hcase with ⟨rfl,rfl,rfl,HEx⟩|⟨g0,cap,hks0,rfl,HEx⟩
  · have hE:=HEx.out;rw [serL] at hE
    · have hless:=HLS.out m HVm.out (by omega);have HPT:=lh (fun wx (ho:Only (fun k=>k=bp) w wx) (hpx:PAt wx bp tb m)=>HPART.out wx m ho hpx HVm.out (by omega))
      cases hP:P m with
      |err e0 l0=>
       rw [hP] at HPT hless hE;have HR:=lh (show RR=.err e0 l0 from hE.symm)
       have q2:(((e0:Nat):Int) !=0)=true:=by have:=hless.2.2;simp;omega
       clear hE hP hless
       go_wp2_with (first
        |(go_at_fn g;refine (HPT.out _ (HS.out).only (HS.out).pat).mono ?_;rintro x w4 hx4;obtain ⟨T,e4,l4,rfl,hp4,ho4,hx5,ha4⟩:=hx4.cases;obtain ⟨rfl,rfl,rfl⟩:=ha4.err_of;have HS4:=lh ((HS.out).skip hp4 ho4);have hzz:=HS4.out.res;obtain ⟨r0,f0,r1,f1,r2,f2,r3,f3⟩:=bf4 hzz;clear hzz;have zl:=lt_of_block HS4.out.res;have zn:¬w.heap.size=w4.heap.size:=(by omega);clear hp4 ho4 hx5 ha4))
       have hO:=qu (b:=w.heap.size) HS4.out.only (.inr (Nat.le_refl _)) (.int .i64 0) (.int .i64 0) (.slice none 0 0) (.slice none 0 0);have hPA:=HS4.out.pat.only (K:=fun k=>k=w.heap.size) (qu (b:=w.heap.size) (S:=fun k=>k=w.heap.size) (Only.refl _ _) (.inl rfl) (.int .i64 0) (.int .i64 0) (.slice none 0 0) (.slice none 0 0)) (by have:=HS4.out.lt;omega) (by have:=HS4.out.lt;omega);refine endSer rfl w.heap.size rfl rfl (je (qw HS4.out.res _ _ _ _)) ?_;rw [HR.out];exact ⟨hO.alloc _,.nil,e4,l4,rfl,hPA.next (HTG.out _ _),trivial,.inr ⟨rfl,rfl⟩⟩
      |ok t0 l0=>
       rw [hP] at HPT hless hE;have HV0:=lh hless.1;have hl0:=hless.2;have HR:=lh (show (if (Cl.wd ws).test (hd l0) then serL P ws f l0.tail (([]:List XT)++[t0]) else .ok (([]:List XT)++[t0]) l0)=RR from hE);clear hE hP hless;have HOB:=lh (show ∀ k,(Value.slice none 0 0).ownBlock=some k→k<wr.heap.size from fun k hk=>(HS.out.row.lt k hk).2);have HOC:=lh (show w.heap.size<wr.heap.size from lt_of_block HS.out.res)
       go_wp2_with (first
        |(at_builtin;refine wpList_append_lies _ rfl _ _ 24 rfl (w.heap.size+1) 26 i0 _ 4 64 Tryz.underlying24 hi hz0 hz1 hz2 rfl (by decide) _ _ _ rfl ((HS4.out.row.alloc _).alloc _) ⟨_,0,none⟩ 1 1 (xtC T) rfl rfl (HNX.out T w4 _) (fun u hu=>by (simp [xtC] at hu;rcases hu with rfl|rfl|rfl|rfl <;> rfl)) (by decide) (by unfold maxLen;omega) (by omega) (by have:=lt_of_block HS4.out.res;simp;omega) _ rfl ?_;intro gg cp w5 hown5 hg5 hat5 hlt5;have hbb:=bthen (HTG.out (.cells #[.int .i64 T.op,.int .i64 T.rel,.slice T.aa T.an T.ac,.slice T.ka T.kn T.kc] 26) w4) (HTG.out (.cells #[.int .i64 T.op,.int .i64 T.rel,.slice T.aa T.an T.ac,.slice T.ka T.kn T.kc] 26) (w4.alloc (.cells #[.int .i64 T.op,.int .i64 T.rel,.slice T.aa T.an T.ac,.slice T.ka T.kn T.kc] 26)));have h45:=HS4.out.next hbb;have HSN:=lh (h45.app (HX4.out.next hbb) HOB.out HOC.out hown5 hg5 hat5);clear hown5 hg5 hat5 hlt5 h45 hbb)
        |(go_at_fn g;refine (HPT.out _ (HS.out).only (HS.out).pat).mono ?_;rintro x w4 hx4;obtain ⟨T,e4,l4,rfl,hp4,ho4,hx5,ha4⟩:=hx4.cases;obtain ⟨rfl,rfl,hs4⟩:=ha4.ok_of;have HS4:=lh ((HS.out).skip hp4 ho4);have HX4:=lh hx5;have HSA:=lh hs4;have hw34:=ho4.size;clear hp4 ho4 hx5 ha4 hs4))
       have hks:(([]:List XT)++[T]).length=([]:List XT).length+1:=by simp
       have hsm:=Sames.nil.snoc HSA.out;have hmz:=HSN.out.pat.leftN;go_roundw
       case rel=>exact ⟨([]:List XT)++[T],([]:List XT)++[t0],l4,f,HSN,lh hsm,HV0,by omega,by omega,by rw [hks];simp;omega,.inr ⟨gg,cp,by simp,by rw [hks];rfl,HR⟩⟩
       case measure=>rw [hmz,hlm];omega
  · have hkp:0<ks.length:=List.length_pos_iff.2 hks0;have q0:((ks.length:Int)==0)=false:=beq_eq_false_iff_ne.2 (by omega);have hE:=HEx.out
    cases hct:(Cl.wd ws).test (hd m) with
    |true=>
     rw [hct] at hE;obtain ⟨hv2,hl2⟩:=HVm.out.tail (by trivial) hct;have hp2:=hv2.pos;have HSK:=lh (fun (v:Value) wx (hp2:PAt wx bp tb m) (hc:ClAt wx (.wd ws) v)=>qf bp tb m (.wd ws) v wx hp2 hc (by omega) hm99 (Short.hd HVm.out.short) hct);obtain ⟨m2,hm2⟩:∃ q,m.tail=q:=⟨_,rfl⟩;rw [hm2] at hE hv2 hl2 hp2 HSK;obtain ⟨f2,rfl⟩:∃ f2,f=f2+1:=⟨f - 1,by omega⟩;have hE:serL P ws (f2+1) m2 ts=RR:=hE;rw [serL] at hE;have HV2:=lh hv2;clear hct hm2 hv2
     · have hless:=HLS.out m2 HV2.out (by omega);have HPT:=lh (fun wx (ho:Only (fun k=>k=bp) w wx) (hpx:PAt wx bp tb m2)=>HPART.out wx m2 ho hpx HV2.out (by omega))
       cases hP:P m2 with
       |err e0 l0=>
        rw [hP] at HPT hless hE;have HR:=lh (show RR=.err e0 l0 from hE.symm)
        have q2:(((e0:Nat):Int) !=0)=true:=by have:=hless.2.2;simp;omega
        clear hE hP hless
        go_wp2_with (first
         |(go_at_fn g;refine (HPT.out _ (HS3.out).only (HS3.out).pat).mono ?_;rintro x w4 hx4;obtain ⟨T,e4,l4,rfl,hp4,ho4,hx5,ha4⟩:=hx4.cases;obtain ⟨rfl,rfl,rfl⟩:=ha4.err_of;have HS4:=lh ((HS3.out).skip hp4 ho4);have hzz:=HS4.out.res;obtain ⟨r0,f0,r1,f1,r2,f2,r3,f3⟩:=bf4 hzz;clear hzz;have zl:=lt_of_block HS4.out.res;have zn:¬w.heap.size=w4.heap.size:=(by omega);clear hp4 ho4 hx5 ha4)
         |(go_at_call 119;refine (HSK.out _ _ HS2.out.pat HC2.out).mono ?_;rintro e w3 ⟨rfl,hp3,ho3⟩;have HS3:=lh (HS2.out.skip hp3 ho3);have HOB:=lh (show ∀ k,(Value.slice (some ⟨g0,0,none⟩) ks.length cap).ownBlock=some k→k<w3.heap.size from fun k hk=>(HS3.out.row.lt k hk).2);have HOC:=lh (show w.heap.size<w3.heap.size from lt_of_block HS3.out.res);clear hp3 ho3)
         |(go_at_call 116;refine (jh ws _ rfl _).mono ?_;rintro e w2 ⟨g2,lb2,rfl,hc2,hb2⟩;have HS2:=lh (HS.out.next hb2);have HC2:=lh hc2;clear hc2 hb2))
        have hO:=qu (b:=w.heap.size) HS4.out.only (.inr (Nat.le_refl _)) (.int .i64 0) (.int .i64 0) (.slice none 0 0) (.slice none 0 0);have hPA:=HS4.out.pat.only (K:=fun k=>k=w.heap.size) (qu (b:=w.heap.size) (S:=fun k=>k=w.heap.size) (Only.refl _ _) (.inl rfl) (.int .i64 0) (.int .i64 0) (.slice none 0 0) (.slice none 0 0)) (by have:=HS4.out.lt;omega) (by have:=HS4.out.lt;omega);refine endSer rfl w.heap.size rfl rfl (je (qw HS4.out.res _ _ _ _)) ?_;rw [HR.out];exact ⟨hO.alloc _,.nil,e4,l4,rfl,hPA.next (HTG.out _ _),trivial,.inr ⟨rfl,rfl⟩⟩
       |ok t0 l0=>
        rw [hP] at HPT hless hE;have HV0:=lh hless.1;have hl0:=hless.2;have HR:=lh (show (if (Cl.wd ws).test (hd l0) then serL P ws f2 l0.tail (ts++[t0]) else .ok (ts++[t0]) l0)=RR from hE);clear hE hP hless
        go_wp2_with (first
         |(at_builtin;refine wpList_append_lies _ rfl _ _ 24 rfl (w.heap.size+1) 26 i0 _ 4 64 Tryz.underlying24 hi hz0 hz1 hz2 rfl (by decide) _ _ _ rfl ((HS4.out.row.alloc _).alloc _) ⟨_,0,none⟩ 1 1 (xtC T) rfl rfl (HNX.out T w4 _) (fun u hu=>by (simp [xtC] at hu;rcases hu with rfl|rfl|rfl|rfl <;> rfl)) (by decide) (by unfold maxLen;omega) (by omega) (by have:=lt_of_block HS4.out.res;simp;omega) _ rfl ?_;intro gg cp w5 hown5 hg5 hat5 hlt5;have hbb:=bthen (HTG.out (.cells #[.int .i64 T.op,.int .i64 T.rel,.slice T.aa T.an T.ac,.slice T.ka T.kn T.kc] 26) w4) (HTG.out (.cells #[.int .i64 T.op,.int .i64 T.rel,.slice T.aa T.an T.ac,.slice T.ka T.kn T.kc] 26) (w4.alloc (.cells #[.int .i64 T.op,.int .i64 T.rel,.slice T.aa T.an T.ac,.slice T.ka T.kn T.kc] 26)));have h45:=HS4.out.next hbb;have HSN:=lh (h45.app (HX4.out.next hbb) HOB.out HOC.out hown5 hg5 hat5);clear hown5 hg5 hat5 hlt5 h45 hbb)
         |(go_at_fn g;refine (HPT.out _ (HS3.out).only (HS3.out).pat).mono ?_;rintro x w4 hx4;obtain ⟨T,e4,l4,rfl,hp4,ho4,hx5,ha4⟩:=hx4.cases;obtain ⟨rfl,rfl,hs4⟩:=ha4.ok_of;have HS4:=lh ((HS3.out).skip hp4 ho4);have HX4:=lh hx5;have HSA:=lh hs4;have hw34:=ho4.size;clear hp4 ho4 hx5 ha4 hs4)
         |(go_at_call 119;refine (HSK.out _ _ HS2.out.pat HC2.out).mono ?_;rintro e w3 ⟨rfl,hp3,ho3⟩;have HS3:=lh (HS2.out.skip hp3 ho3);have HOB:=lh (show ∀ k,(Value.slice (some ⟨g0,0,none⟩) ks.length cap).ownBlock=some k→k<w3.heap.size from fun k hk=>(HS3.out.row.lt k hk).2);have HOC:=lh (show w.heap.size<w3.heap.size from lt_of_block HS3.out.res);clear hp3 ho3)
         |(go_at_call 116;refine (jh ws _ rfl _).mono ?_;rintro e w2 ⟨g2,lb2,rfl,hc2,hb2⟩;have HS2:=lh (HS.out.next hb2);have HC2:=lh hc2;clear hc2 hb2))
        have hks:(ks++[T]).length=ks.length+1:=by simp
        have hsm:=HSM.out.snoc HSA.out;have hmz:=HSN.out.pat.leftN;go_roundw
        case rel=>exact ⟨ks++[T],ts++[t0],l4,f2,HSN,lh hsm,HV0,by omega,by omega,by rw [hks];omega,.inr ⟨gg,cp,by simp,by rw [hks],HR⟩⟩
        case measure=>rw [hmz,hlm];omega
    |false=>
     rw [hct] at hE;have HR:=lh (show RR=.ok ts m from hE.symm);have HSK:=lh (fun (v:Value) wx (hp2:PAt wx bp tb m) (hc:ClAt wx (.wd ws) v)=>yh bp tb m (.wd ws) v wx hp2 hc hm0 hm99 (Short.hd HVm.out.short) hct);clear hct hE;have HSS:=HSK
     by_cases h1:ks.length=1
     · have q1:((ks.length:Int)==1)=true:=beq_iff_eq.2 (by omega);have HLN:=lh (show ts.length=1 by have:=HSM.out.1;omega);have HK1:=lh h1;obtain ⟨T,hT⟩:∃ T,ks.getD 0 .nil=T:=⟨_,rfl⟩;have HTT:=lh hT;clear hT h1
       go_wp2_with (first
        |(go_at_call 119;refine (HSK.out _ _ HS2.out.pat HC2.out).mono ?_;rintro e w3 ⟨rfl,hb3⟩;have HS3:=lh (HS2.out.next hb3);obtain ⟨bq,oq,eq,_,_,hla⟩:=jq5 (S:=fun _=>True) HS3.out.row trivial (HS3.out.row.lt g0 rfl).2 0 hkp;injection eq with eq;injection eq with eb eo _;subst eb;subst eo;rw [HTT.out] at hla;have c0:w3.cell? ⟨g0,0,none⟩=some (.int .i64 T.op):=hla 0 _ rfl;have c1:w3.cell? ⟨g0,1,none⟩=some (.int .i64 T.rel):=hla 1 _ rfl;have c2:w3.cell? ⟨g0,2,none⟩=some (.slice T.aa T.an T.ac):=hla 2 _ rfl;have c3:w3.cell? ⟨g0,3,none⟩=some (.slice T.ka T.kn T.kc):=hla 3 _ rfl;have hzz:=HS3.out.res;obtain ⟨r0,f0,r1,f1,r2,f2,r3,f3⟩:=bf4 hzz;clear hzz;clear hb3 hla)
        |(go_at_call 116;refine (jh ws _ rfl _).mono ?_;rintro e w2 ⟨g2,lb2,rfl,hc2,hb2⟩;have HS2:=lh (HS.out.next hb2);have HC2:=lh hc2;clear hc2 hb2))
       have hk:=HS3.out.kids 0 hkp;have hsm:=HSM.out.2 0 hkp;have hts:ts=[ts.getD 0 .nil]:=jrl HLN.out;rw [HTT.out] at hk hsm;have h4:=qu (b:=w.heap.size) (S:=fun k=>k=w.heap.size) (Only.refl _ w3) (.inl rfl) (.int .i64 T.op) (.int .i64 T.rel) (.slice T.aa T.an T.ac) (.slice T.ka T.kn T.kc);have hO:=qu (b:=w.heap.size) HS3.out.only (.inr (Nat.le_refl _)) (.int .i64 T.op) (.int .i64 T.rel) (.slice T.aa T.an T.ac) (.slice T.ka T.kn T.kc);have hPA:=HS3.out.pat.only h4 (by have:=HS3.out.lt;omega) (by have:=HS3.out.lt;omega);refine endSer rfl w.heap.size rfl rfl (qw HS3.out.res _ _ _ _) ⟨hO,T,0,m,rfl,hPA,(hk.only h4 (fun b hb _ e=>by have:=hb.1;omega)).sub (fun b hb _=>by have:=hb.1;omega),.inl ⟨rfl,ts.getD 0 .nil,?_,hsm⟩⟩;rw [HR.out];show PR.ok (serX op ts) m= _;rw [hts];rfl
     · have q1:((ks.length:Int)==1)=false:=beq_eq_false_iff_ne.2 (by omega)
       go_wp2_with (first
        |(go_at_call 119;refine (HSK.out _ _ HS2.out.pat HC2.out).mono ?_;rintro e w3 ⟨rfl,hb3⟩;have HS3:=lh (HS2.out.next hb3);have hzz:=HS3.out.res;obtain ⟨r0,f0,r1,f1,r2,f2,r3,f3⟩:=bf4 hzz;clear hzz;clear hb3)
        |(go_at_call 116;refine (jh ws _ rfl _).mono ?_;rintro e w2 ⟨g2,lb2,rfl,hc2,hb2⟩;have HS2:=lh (HS.out.next hb2);have HC2:=lh hc2;clear hc2 hb2))
       have h4:=qu (b:=w.heap.size) (S:=fun k=>k=w.heap.size) (Only.refl _ w3) (.inl rfl) (.int .i64 op) (.int .i64 0) (.slice none 0 0) (.slice (some ⟨g0,0,none⟩) ks.length cap);have hO:=qu (b:=w.heap.size) HS3.out.only (.inr (Nat.le_refl _)) (.int .i64 op) (.int .i64 0) (.slice none 0 0) (.slice (some ⟨g0,0,none⟩) ks.length cap);have hPA:=HS3.out.pat.only h4 (by have:=HS3.out.lt;omega) (by have:=HS3.out.lt;omega);have hrl:=HS3.out.row.lt g0 rfl;have hca:=jq5 (S:=fun b=>w.heap.size<b) HS3.out.row (by omega) hrl.2;refine endSer rfl w.heap.size rfl rfl (qw HS3.out.res _ _ _ _) ⟨hO,.node op 0 none 0 0 (fun _=>default) (some ⟨g0,0,none⟩) ks.length cap (fun i=>ks.getD i .nil),0,m,rfl,hPA,?_,.inl ⟨rfl,mkX op 0 [] ts,?_,?_⟩⟩
       · refine (ym _).2 ⟨⟨Nat.zero_le _,by show ks.length≤_;omega⟩,fun i hi=>absurd hi (Nat.not_lt_zero i),fun i hi=>⟨((hca i hi).only h4 (fun b hb _ e=>by omega)).held (fun b hb _=>Nat.le_of_lt hb) (Nat.le_refl _) (fun _ _ _=>rfl),((HS3.out.kids i hi).only h4 (fun b hb _ e=>by have:=hb.1;omega)).sub (fun b hb _=>by have:=hb.1;omega)⟩⟩
       · rw [HR.out];show PR.ok (serX op ts) m= _;rw [jog op ts (by have:=HSM.out.1;omega)]
       · exact (Xv _ _).2 ⟨rfl,rfl,rfl,fun i hi=>absurd hi (Nat.not_lt_zero i),HSM.out.1,fun i hi=>HSM.out.2 i hi⟩
end Go.Proofs.YthcompcjphaahaaGreatDoor
