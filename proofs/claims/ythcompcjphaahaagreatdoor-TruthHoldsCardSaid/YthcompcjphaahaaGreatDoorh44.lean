/- step: of a path, the tokens of the given classes. -/
import Derived.Great.BuildSlice
import Derived.Deep.RegionHeld3
import Derived.Test.YthcompcjphaahaaGreatDoorh26
set_option maxRecDepth 100000
set_option maxHeartbeats 8000000
set_option linter.unusedVariables false
namespace Go.Proofs.YthcompcjphaahaaGreatDoor
open Go.RowKit
theorem bthen {w a b:World} (h:Below w.heap.size w a) (k:Below a.heap.size a b):Below w.heap.size w b:=h.trans (k.mono h.size)
structure ClRow (w:World) (ib:Nat) (cs:List Cl) (vs:List Value):Prop where
 row:w.heap[ib]?=some (.cells vs.toArray 95)
 len:vs.length=cs.length
 all:∀ i,i<cs.length→ClAt w (cs.getD i .nm) (vs.getD i undef)
theorem ClRow.only {w w':World} {ib p:Nat} {cs:List Cl} {vs:List Value} (h:ClRow w ib cs vs) (ho:Only (fun k=>k=p) w w') (hp:∀ o,w.heap[p]?=some o→∃ cs t,o=.cells cs t∧t≠3∧t≠9∧t≠95):ClRow w' ib cs vs:=by
 refine ⟨ho.same h.row (fun e=>?_),h.len,fun i hi=>(h.all i hi).only ho hp⟩;subst e;obtain ⟨cs',t',e2,_,_,n3⟩:=hp _ h.row
 injection e2 with _ e3 _
 exact n3 e3.symm
theorem ClRow.next {w w':World} {ib:Nat} {cs:List Cl} {vs:List Value} (h:ClRow w ib cs vs) (hb:Below w.heap.size w w'):ClRow w' ib cs vs:=
 ⟨rowKeep hb h.row,h.len,fun i hi=>(h.all i hi).next hb⟩
theorem jpz {bt:Nat} {s:List UInt8} {w:World} (h:TxtAt 249 bt bt s w):∃ cs,w.heap[bt]?=some (.cells cs 249):=by
 rcases h with ⟨hB,v,hbk,_⟩|⟨hB,v,hbk,_⟩ <;> exact ⟨_,hbk⟩
theorem ClAt.kept {w w':World} {c:Cl} {v:Value} {bt:Nat} (h:ClAt w c v) (hk:Kept bt w w') (hb:∃ cs,w.heap[bt]?=some (.cells cs 249)):ClAt w' c v:=by
 have key:∀ {b:Nat} {cs:Array Value} {t:TypeId},t≠249→t≠5→w.heap[b]?=some (.cells cs t)→w'.heap[b]?=some (.cells cs t):=by
  intro b cs t ht hu hx;refine hk.box hx (fun e=>?_) hu;subst e;obtain ⟨cs',e2⟩:=hb;rw [hx] at e2;have e3:=Option.some.inj e2
  injection e3 with _ e4 _
  exact ht e4
 cases c with
 |kd n=>obtain ⟨b,e,hx⟩:=h;exact ⟨b,e,key (by decide) (by decide) hx⟩
 |wd s=>obtain ⟨b,e,hx⟩:=h;exact ⟨b,e,key (by decide) (by decide) hx⟩
 |sg s=>obtain ⟨b,e,hx⟩:=h;exact ⟨b,e,key (by decide) (by decide) hx⟩
 |nm=>exact h
 |rl=>exact h
theorem ClRow.kept {w w':World} {ib:Nat} {cs:List Cl} {vs:List Value} {bt:Nat} (h:ClRow w ib cs vs) (hk:Kept bt w w') (hb:∃ cs,w.heap[bt]?=some (.cells cs 249)):ClRow w' ib cs vs:=by
 refine ⟨hk.box h.row (fun e=>?_) (by decide),h.len,fun i hi=>(h.all i hi).kept hk hb⟩;subst e;obtain ⟨cs',e2⟩:=hb;rw [h.row] at e2;have e3:=Option.some.inj e2
 injection e3 with _ e4 _
 exact absurd e4 (by decide)
theorem TxtAt.only {T:TypeId} {B b:Nat} {l:List UInt8} {w w':World} {p:Nat} (h:TxtAt T B b l w) (ho:Only (fun k=>k=p) w w') (hp:p<B):TxtAt T B b l w':=by
 have hk:∀ q,Lib.BuilderAt T 5 B b q (Lib.byteCells l) w→Lib.BuilderAt T 5 B b q (Lib.byteCells l) w':=by
  rintro q ⟨hB,v,hbk,hown,hne⟩;exact ⟨hB,v,ho.same hbk (by omega),ho.row hown (fun k hk e=>by have:=(hown.lt k hk).1;omega),hne⟩
 exact h.elim (fun h=>.inl (hk _ h)) (fun h=>.inr (hk _ h))
structure StepSt (w:World) (bp tb bt ib:Nat) (cs:List Cl) (vs:List Value) (l:List Tk) (s:List UInt8) (wr:World):Prop where
 pat:PAt wr bp tb l
 txt:TxtAt 249 bt bt s wr
 row:ClRow wr ib cs vs
 only:Only (fun k=>k=bp∨bt≤k) w wr
 lt:bp<bt∧tb<bt
theorem StepSt.next {w:World} {bp tb bt ib:Nat} {cs:List Cl} {vs:List Value} {l:List Tk} {s:List UInt8} {wr w':World} (h:StepSt w bp tb bt ib cs vs l s wr) (hb:Below wr.heap.size wr w'):StepSt w bp tb bt ib cs vs l s w':=
 ⟨h.pat.next hb,h.txt.next hb,h.row.next hb,h.only.step hb,h.lt⟩
theorem StepSt.skip {w:World} {bp tb bt ib:Nat} {cs:List Cl} {vs:List Value} {l l':List Tk} {s:List UInt8} {wr w':World} (h:StepSt w bp tb bt ib cs vs l s wr) (hp:PAt w' bp tb l') (ho:Only (fun k=>k=bp) wr w'):StepSt w bp tb bt ib cs vs l' s w':=
 ⟨hp,h.txt.only ho h.lt.1,h.row.only ho h.pat.kind,h.only.trans ho (fun i _ e=>.inl e),h.lt⟩
theorem StepSt.write {w:World} {bp tb bt ib:Nat} {cs:List Cl} {vs:List Value} {l:List Tk} {s s':List UInt8} {wr w':World} (h:StepSt w bp tb bt ib cs vs l s wr) (ht:TxtAt 249 bt bt s' w') (hb:Below bt wr w') (hk:Kept bt wr w'):StepSt w bp tb bt ib cs vs l s' w':=by
 have ho:Only (fun k=>bt≤k) wr w':=⟨hb.os,hb.tape,hb.output,hb.size,fun k _ hn=>hb.block k (by omega)⟩;exact ⟨h.pat.only ho (by have:=h.lt;omega) (by have:=h.lt;omega),ht,h.row.kept hk (jpz h.txt),h.only.trans ho (fun i _ e=>.inr e),h.lt⟩
def StepTo (w:World) (bp tb bt:Nat) (r:PR (List UInt8)) (x:Ending) (w':World):Prop:=Only (fun k=>k=bp∨bt≤k) w w'∧match r with
 |.err e l'=>x=.returned (.int .i64 (e:Nat))∧PAt w' bp tb l'
 |.ok s l'=>x=.returned (.int .i64 0)∧PAt w' bp tb l'∧TxtAt 249 bt bt s w'
theorem jbe {cs:List Cl} {j:Nat} (h:j<cs.length):cs.drop j=cs.getD j .nm::cs.drop (j+1):=by
 rw [List.drop_eq_getElem_cons h,List.getD_eq_getElem?_getD,List.getElem?_eq_getElem h];rfl
theorem ClRow.cell {w:World} {ib:Nat} {cs:List Cl} {vs:List Value} (h:ClRow w ib cs vs) {j:Nat} (hj:j<cs.length):w.cell? ⟨ib,j,none⟩=some (vs.getD j undef):=by
 refine ja h.row ?_
 have hl:j<vs.length:=by have:=h.len;omega
 simp [List.getD_eq_getElem?_getD,List.getElem?_eq_getElem hl]
theorem jb1:∀ c∈itemC,c.inner:=by intro c hc;simp [itemC] at hc;rcases hc with rfl|rfl|rfl <;> simp [Cl.inner]
theorem jvw {w:World} {v1 v3 v4:Value} (h1:ClAt w (.sg [91]) v1) (h3:ClAt w (.kd 2) v3) (h4:ClAt w (.sg [93]) v4):ClRow (w.alloc (.cells #[v1,v3,v4] 95)) w.heap.size itemC [v1,v3,v4]:=by
 have hb:Below w.heap.size w (w.alloc (.cells #[v1,v3,v4] 95)):=(Below.refl _ _).alloc (Nat.le_refl _) _;refine ⟨jd w _,rfl,fun i hi=>?_⟩
 match i,hi with
 |0,_=>exact h1.next hb
 |1,_=>exact h3.next hb
 |2,_=>exact h4.next hb
theorem StepSt.other {w w':World} {bp tb bt ib:Nat} {cs:List Cl} {vs:List Value} {l:List Tk} {s:List UInt8} (h:StepSt w bp tb bt ib cs vs l s w) (hb:Below w.heap.size w w') {o:Obj} {ib':Nat} {cs':List Cl} {vs':List Value} (hr:ClRow (w'.alloc o) ib' cs' vs'):StepSt w bp tb bt ib' cs' vs' l s (w'.alloc o):=by
 have hb2:Below w.heap.size w (w'.alloc o):=hb.alloc hb.size o;have h2:=h.next hb2;exact ⟨h2.pat,h2.txt,hr,h2.only,h.lt⟩
theorem jhx (cs:List Cl) (hin:∀ c∈cs,c.inner) (hcs:cs.length≤10) (vs:List Value) (bp tb bt ib:Nat) (l:List Tk) (s:List UInt8) (w:World) (h0:StepSt w bp tb bt ib cs vs l s w) (hv:Vd l) (hsh:Short l) (h99:l.length≤99) (hlen:s.length+256*l.length≤100000):
  Calls Tryz.prog 215 #[.pointer (some ⟨bp,0,none⟩),.pointer (some ⟨bt,0,none⟩),.slice (some ⟨ib,0,none⟩) cs.length cs.length] w (StepTo w bp tb bt (stepP cs l s)):=by
 have hpos:=hv.pos;have HAT:=lh (fun (v:Value) wx (hb:Below w.heap.size w wx) (hc:ClAt wx cOpen v)=>kq bp tb l cOpen v wx (h0.pat.next hb) hc hpos h99 hsh.hd);have H0:=lh h0;have HV:=lh hv;have HSH:=lh hsh;have HIN:=lh hin;obtain ⟨q,hq⟩:∃ q,cOpen.test (hd l)=q:=⟨_,rfl⟩;rw [hq] at HAT;have HX:=lh (show stepP cs l s=eat (if q then itemC else cs) l s by rw [←hq];rfl);clear h0 hq hv hsh hin;obtain ⟨R,hR⟩:∃ R,stepP cs l s=R:=⟨_,rfl⟩;rw [hR] at HX ⊢;clear hR
 cases q with
 |false=>
  have HXR:=lh (show eat (cs.drop 0) l s=R from HX.out.symm);clear HX;go_enter Tryz.func215,Tryz.ntmps215
  go_wp2_with (first
   |(go_at_call 117;refine (jm [91] _ rfl _).mono ?_;rintro e w1 ⟨g1,lb1,rfl,hc1,hb1⟩;have HB1:=lh hb1;have HC1:=lh hc1;clear hc1 hb1)
   |(go_at_call 44;refine (HAT.out _ _ HB1.out HC1.out).mono ?_;rintro e w2 ⟨rfl,hb2⟩;have HB2:=lh (bthen HB1.out hb2);have HSS:=lh (H0.out.next HB2.out);clear hb2))
  have HTG:=lh (fun (o:Obj) (wx:World)=>(Below.refl wx.heap.size wx).alloc (Nat.le_refl _) o)
  go_loopw [21] (fun i wr=>∃ (j:Nat) (m:List Tk) (r:List UInt8),j≤cs.length∧i=.int .i64 j∧Hid (StepSt w bp tb bt ib cs vs m r wr)∧Hid (Vd m)∧Hid (Short m)∧m.length≤99∧r.length+256*m.length≤100000∧Hid (eat (cs.drop j) m r=R)) (fun i _=>cs.length - (intOf i).toNat)
  case atStart=>exact ⟨0,l,s,Nat.zero_le _,rfl,HSS,HV,HSH,h99,hlen,HXR⟩
  case round=>
   obtain ⟨j,m,r,hj,rfl,HS,HVm,HSm,hm99,hmlen,HE⟩:=hrel
   by_cases hlt:j<cs.length
   · have hE:=HE.out;rw [jbe (cs:=cs) hlt,eat] at hE;have cv:=HS.out.row.cell (cs:=cs) hlt;have HCV:=lh (HS.out.row.all j hlt);obtain ⟨c,hc⟩:∃ c,cs.getD j .nm=c:=⟨_,rfl⟩;obtain ⟨v,hvv⟩:∃ v,vs.getD j undef=v:=⟨_,rfl⟩;rw [hc] at hE HCV;rw [hvv] at cv HCV
     have hci:c.inner:=by
      rw [←hc,List.getD_eq_getElem?_getD,List.getElem?_eq_getElem (show j<cs.length from hlt)];exact HIN.out _ (List.getElem_mem (show j<cs.length from hlt))
     clear hc hvv;have hm0:=HVm.out.pos;obtain ⟨hne,htl,off,cap,hb,hcap,ht⟩:=HS.out.pat;have p0:wr.cell? ⟨bp,0,none⟩=some (.slice (some ⟨tb,off,none⟩) m.length cap):=ja hb rfl;have hh:=ht.head hm0;have t0:wr.cell? ⟨tb,off,none⟩=some (.int .i64 ((hd m).k:Nat)):=hh 0 _ rfl;have t1:wr.cell? ⟨tb,off+1,none⟩=some (.string (bs (hd m).t)):=hh 1 _ rfl;have t2:wr.cell? ⟨tb,off+2,none⟩=some (.int .u64 ((hd m).n:Nat)):=hh 2 _ rfl;have t3:wr.cell? ⟨tb,off+3,none⟩=some (.int .i64 ((hd m).a:Nat)):=hh 3 _ rfl;have hhd:=HSm.out.hd;clear hh ht hb
     cases hct:c.test (hd m) with
     |false=>
      rw [hct] at hE;have HR:=lh (show R=.err 11 m from hE.symm);have HSK:=lh (fun wx (hb:Below wr.heap.size wr wx)=>yh bp tb m c v wx (HS.out.pat.next hb) (HCV.out.next hb) hm0 hm99 hhd hct);clear hct hE;obtain ⟨tk,htk⟩:∃ tk,hd m=tk:=⟨_,rfl⟩;rw [htk] at t0 t1 t2 t3;clear htk hhd;go_wp2_with (go_at_call 119;refine (HSK.out _ (HTG.out _ _)).mono ?_;rintro e w3 ⟨rfl,hb3⟩;have HB3:=lh (HS.out.next (bthen (HTG.out _ _) hb3));clear hb3);go_ret;unfold StepTo;rw [HR.out];exact ⟨HB3.out.only,rfl,HB3.out.pat⟩
     |true=>
      rw [hct] at hE;obtain ⟨hv2,hl2⟩:=HVm.out.tail hci hct;have HV2:=lh hv2;have HS2m:=lh HSm.out.tail
      have h1l:1<m.length:=by have:=hv2.pos;omega
      have HSK:=lh (fun wx (hb:Below wr.heap.size wr wx)=>qf bp tb m c v wx (HS.out.pat.next hb) (HCV.out.next hb) h1l hm99 hhd hct);have HR:=lh (show eat (cs.drop (j+1)) m.tail (r++(hd m).t)=R from hE);clear hct hE hv2;obtain ⟨tk,htk⟩:∃ tk,hd m=tk:=⟨_,rfl⟩;rw [htk] at t0 t1 t2 t3 HR hhd;clear htk;have hsz:(bs tk.t).size=tk.t.length:=jy _
      have hdl:(bs tk.t).data.toList=tk.t:=by simp [bs]
      have HWS:=lh (fun wx (hx:StepSt w bp tb bt ib cs vs m.tail r wx)=>jat 249 liesBuilder bt bt r (bs tk.t) wx hx.txt (by omega) (by have:=hx.only.size;have:=hx.txt.lt;omega));rw [hdl] at HWS
      have hmt:m.tail.length=m.length - 1:=by simp
      have hbx:∀ wx:World,(wx.alloc (.cells #[.int .i64 (tk.k:Nat),.string (bs tk.t),.int .u64 (tk.n:Nat),.int .i64 (tk.a:Nat)] 98)).heap[wx.heap.size]?=some (.cells #[.int .i64 (tk.k:Nat),.string (bs tk.t),.int .u64 (tk.n:Nat),.int .i64 (tk.a:Nat)] 98):=fun wx=>jd wx _;have hblt:=HS.out.pat.blt;have HBX:=lh (show ∀ w3,Only (fun k=>k=bp) (wr.alloc (.cells #[.int .i64 (tk.k:Nat),.string (bs tk.t),.int .u64 (tk.n:Nat),.int .i64 (tk.a:Nat)] 98)) w3→w3.heap[wr.heap.size]?=some (.cells #[.int .i64 (tk.k:Nat),.string (bs tk.t),.int .u64 (tk.n:Nat),.int .i64 (tk.a:Nat)] 98) from fun w3 ho=>ho.same (hbx wr) (by omega));clear hbx hdl
      go_wp2_with (first
       |(go_at_call 119;refine (HSK.out _ (HTG.out _ _)).mono ?_;rintro e w3 ⟨rfl,hp3,ho3⟩;have hb3:=HBX.out w3 ho3;have x1:w3.cell? ⟨wr.heap.size,1,none⟩=some (.string (bs tk.t)):=ja hb3 rfl;have HS3:=lh ((HS.out.next (HTG.out _ _)).skip hp3 ho3);clear hb3 hp3 ho3)
       |(go_at_call 245;refine (HWS.out _ HS3.out).mono ?_;rintro e w4 ⟨rfl,ht4,hb4,hk4⟩;have HS4:=lh (HS3.out.write ht4 hb4 hk4);clear ht4 hb4 hk4))
      go_roundw
      case rel=>exact ⟨j+1,m.tail,r++tk.t,by omega,by go_num,HS4,HV2,HS2m,by omega,by rw [List.length_append];omega,HR⟩
      case measure=>simp [intOf];omega
   · obtain rfl:j=cs.length:=by omega
     have hE:=HE.out;rw [List.drop_eq_nil_of_le (show cs.length≤cs.length from Nat.le_refl _)] at hE;have HR:=lh (show R=.ok r m from hE.symm);clear hE;go_wp2;go_ret;unfold StepTo;rw [HR.out];exact ⟨HS.out.only,rfl,HS.out.pat,HS.out.txt⟩
 |true=>
  have HXR:=lh (show eat (itemC.drop 0) l s=R from HX.out.symm);clear HX;have HIN:=lh jb1;go_enter Tryz.func215,Tryz.ntmps215
  go_wp2_with (first
   |(go_at_call 44;refine (HAT.out _ _ HB1.out HC1.out).mono ?_;rintro e w2 ⟨rfl,hb2⟩;have HB2:=lh (bthen HB1.out hb2);clear hb2)
   |(go_at_call 45;refine (jv 2 _).mono ?_;rintro e w3 ⟨g3,lb3,rfl,hc3,hb3⟩;have HB3:=lh (bthen HB1.out hb3);have HC1b:=lh (HC1.out.next hb3);have HC3:=lh hc3;clear hc3 hb3)
   |(go_at_call 117;refine (jm [91] _ rfl _).mono ?_;rintro e w1 ⟨g1,lb1,rfl,hc1,hb1⟩;have HB1:=lh (show Below w.heap.size w w1 by first|exact bthen HB2.out hb1|exact hb1);have HC1:=lh hc1;clear hc1 hb1)
   |(go_at_call 117;refine (jm [93] _ rfl _).mono ?_;rintro e w4 ⟨g4,lb4,rfl,hc4,hb4⟩;have HB4:=lh (bthen HB3.out hb4);have HRW:=lh (jvw (HC1b.out.next hb4) (HC3.out.next hb4) hc4);have HSS:=lh (H0.out.other HB4.out HRW.out);clear hc4 hb4))
  have HTG:=lh (fun (o:Obj) (wx:World)=>(Below.refl wx.heap.size wx).alloc (Nat.le_refl _) o)
  go_loopw [21] (fun i wr=>∃ (j:Nat) (m:List Tk) (r:List UInt8),j≤3∧i=.int .i64 j∧Hid (StepSt w bp tb bt w4.heap.size itemC [.func (.func g1) #[] lb1,.func (.func g3) #[] lb3,.func (.func g4) #[] lb4] m r wr)∧Hid (Vd m)∧Hid (Short m)∧m.length≤99∧r.length+256*m.length≤100000∧Hid (eat (itemC.drop j) m r=R)) (fun i _=>3 - (intOf i).toNat)
  case atStart=>exact ⟨0,l,s,Nat.zero_le _,rfl,HSS,HV,HSH,h99,hlen,HXR⟩
  case round=>
   obtain ⟨j,m,r,hj,rfl,HS,HVm,HSm,hm99,hmlen,HE⟩:=hrel
   by_cases hlt:j<3
   · have hE:=HE.out;rw [jbe (cs:=itemC) hlt,eat] at hE;have cv:=HS.out.row.cell (cs:=itemC) hlt;have HCV:=lh (HS.out.row.all j hlt);obtain ⟨c,hc⟩:∃ c,itemC.getD j .nm=c:=⟨_,rfl⟩;obtain ⟨v,hvv⟩:∃ v,[.func (.func g1) #[] lb1,.func (.func g3) #[] lb3,.func (.func g4) #[] lb4].getD j undef=v:=⟨_,rfl⟩;rw [hc] at hE HCV;rw [hvv] at cv HCV
     have hci:c.inner:=by
      rw [←hc,List.getD_eq_getElem?_getD,List.getElem?_eq_getElem (show j<itemC.length from hlt)];exact HIN.out _ (List.getElem_mem (show j<itemC.length from hlt))
     clear hc hvv;have hm0:=HVm.out.pos;obtain ⟨hne,htl,off,cap,hb,hcap,ht⟩:=HS.out.pat;have p0:wr.cell? ⟨bp,0,none⟩=some (.slice (some ⟨tb,off,none⟩) m.length cap):=ja hb rfl;have hh:=ht.head hm0;have t0:wr.cell? ⟨tb,off,none⟩=some (.int .i64 ((hd m).k:Nat)):=hh 0 _ rfl;have t1:wr.cell? ⟨tb,off+1,none⟩=some (.string (bs (hd m).t)):=hh 1 _ rfl;have t2:wr.cell? ⟨tb,off+2,none⟩=some (.int .u64 ((hd m).n:Nat)):=hh 2 _ rfl;have t3:wr.cell? ⟨tb,off+3,none⟩=some (.int .i64 ((hd m).a:Nat)):=hh 3 _ rfl;have hhd:=HSm.out.hd;clear hh ht hb
     cases hct:c.test (hd m) with
     |false=>
      rw [hct] at hE;have HR:=lh (show R=.err 11 m from hE.symm);have HSK:=lh (fun wx (hb:Below wr.heap.size wr wx)=>yh bp tb m c v wx (HS.out.pat.next hb) (HCV.out.next hb) hm0 hm99 hhd hct);clear hct hE;obtain ⟨tk,htk⟩:∃ tk,hd m=tk:=⟨_,rfl⟩;rw [htk] at t0 t1 t2 t3;clear htk hhd;go_wp2_with (go_at_call 119;refine (HSK.out _ (HTG.out _ _)).mono ?_;rintro e w3 ⟨rfl,hb3⟩;have HB3:=lh (HS.out.next (bthen (HTG.out _ _) hb3));clear hb3);go_ret;unfold StepTo;rw [HR.out];exact ⟨HB3.out.only,rfl,HB3.out.pat⟩
     |true=>
      rw [hct] at hE;obtain ⟨hv2,hl2⟩:=HVm.out.tail hci hct;have HV2:=lh hv2;have HS2m:=lh HSm.out.tail
      have h1l:1<m.length:=by have:=hv2.pos;omega
      have HSK:=lh (fun wx (hb:Below wr.heap.size wr wx)=>qf bp tb m c v wx (HS.out.pat.next hb) (HCV.out.next hb) h1l hm99 hhd hct);have HR:=lh (show eat (itemC.drop (j+1)) m.tail (r++(hd m).t)=R from hE);clear hct hE hv2;obtain ⟨tk,htk⟩:∃ tk,hd m=tk:=⟨_,rfl⟩;rw [htk] at t0 t1 t2 t3 HR hhd;clear htk;have hsz:(bs tk.t).size=tk.t.length:=jy _
      have hdl:(bs tk.t).data.toList=tk.t:=by simp [bs]
      have HWS:=lh (fun wx (hx:StepSt w bp tb bt w4.heap.size itemC [.func (.func g1) #[] lb1,.func (.func g3) #[] lb3,.func (.func g4) #[] lb4] m.tail r wx)=>jat 249 liesBuilder bt bt r (bs tk.t) wx hx.txt (by omega) (by have:=hx.only.size;have:=hx.txt.lt;omega));rw [hdl] at HWS
      have hmt:m.tail.length=m.length - 1:=by simp
      have hbx:∀ wx:World,(wx.alloc (.cells #[.int .i64 (tk.k:Nat),.string (bs tk.t),.int .u64 (tk.n:Nat),.int .i64 (tk.a:Nat)] 98)).heap[wx.heap.size]?=some (.cells #[.int .i64 (tk.k:Nat),.string (bs tk.t),.int .u64 (tk.n:Nat),.int .i64 (tk.a:Nat)] 98):=fun wx=>jd wx _;have hblt:=HS.out.pat.blt;have HBX:=lh (show ∀ w3,Only (fun k=>k=bp) (wr.alloc (.cells #[.int .i64 (tk.k:Nat),.string (bs tk.t),.int .u64 (tk.n:Nat),.int .i64 (tk.a:Nat)] 98)) w3→w3.heap[wr.heap.size]?=some (.cells #[.int .i64 (tk.k:Nat),.string (bs tk.t),.int .u64 (tk.n:Nat),.int .i64 (tk.a:Nat)] 98) from fun w3 ho=>ho.same (hbx wr) (by omega));clear hbx hdl
      go_wp2_with (first
       |(go_at_call 119;refine (HSK.out _ (HTG.out _ _)).mono ?_;rintro e w3 ⟨rfl,hp3,ho3⟩;have hb3:=HBX.out w3 ho3;have x1:w3.cell? ⟨wr.heap.size,1,none⟩=some (.string (bs tk.t)):=ja hb3 rfl;have HS3:=lh ((HS.out.next (HTG.out _ _)).skip hp3 ho3);clear hb3 hp3 ho3)
       |(go_at_call 245;refine (HWS.out _ HS3.out).mono ?_;rintro e w4 ⟨rfl,ht4,hb4,hk4⟩;have HS4:=lh (HS3.out.write ht4 hb4 hk4);clear ht4 hb4 hk4))
      go_roundw
      case rel=>exact ⟨j+1,m.tail,r++tk.t,by omega,by go_num,HS4,HV2,HS2m,by omega,by rw [List.length_append];omega,HR⟩
      case measure=>simp [intOf];omega
   · obtain rfl:j=3:=by omega
     have hE:=HE.out;rw [List.drop_eq_nil_of_le (show itemC.length≤3 from Nat.le_refl _)] at hE;have HR:=lh (show R=.ok r m from hE.symm);clear hE;go_wp2;go_ret;unfold StepTo;rw [HR.out];exact ⟨HS.out.only,rfl,HS.out.pat,HS.out.txt⟩
def OpTo (w:World) (bp tb:Nat) (r:PR Opd) (x:Ending) (w':World):Prop:=Only (fun k=>k=bp) w w'∧match r with
 |.err e l'=>x=.returned (.tuple #[.agg #[.int .i64 0,.string ⟨#[]⟩,.bool false,.int .u64 0],.int .i64 (e:Nat)])∧PAt w' bp tb l'
 |.ok o l'=>x=.returned (.tuple #[.agg #[.int .i64 o.kind,.string o.text,.bool o.neg,.int .u64 o.num],.int .i64 0])∧PAt w' bp tb l'
abbrev jbc (w:World) (b:Nat) (a0 a1 a2 a3:Value):World:=(((w.setCell ⟨b,0,none⟩ a0).setCell ⟨b,1,none⟩ a1).setCell ⟨b,2,none⟩ a2).setCell ⟨b,3,none⟩ a3
theorem qw {w:World} {b:Nat} {o0 o1 o2 o3:Value} {t:TypeId} (h:w.heap[b]?=some (.cells #[o0,o1,o2,o3] t)) (a0 a1 a2 a3:Value):
  (jbc w b a0 a1 a2 a3).heap[b]?=some (.cells #[a0,a1,a2,a3] t):=
 jn (j:=3) (jn (j:=2) (jn (j:=1) (jn (j:=0) h)))
theorem qu {S:Nat→Prop} {a w:World} {b:Nat} (h:Only S a w) (hb:S b∨a.heap.size≤b) (a0 a1 a2 a3:Value):Only S a (jbc w b a0 a1 a2 a3):=
 (((h.setCell (p:=⟨b,0,none⟩) hb _).setCell (p:=⟨b,1,none⟩) hb _).setCell (p:=⟨b,2,none⟩) hb _).setCell (p:=⟨b,3,none⟩) hb _
structure PSt (w:World) (bp tb:Nat) (zs:List (Nat × Obj)) (l:List Tk) (wr:World):Prop where
 pat:PAt wr bp tb l
 only:Only (fun k=>k=bp) w wr
 own:∀ p∈zs,wr.heap[p.1]?=some p.2∧w.heap.size≤p.1
 lt:bp<w.heap.size∧tb<w.heap.size
theorem PSt.start {w:World} {bp tb:Nat} {l:List Tk} (h:PAt w bp tb l):PSt w bp tb [] l w:=⟨h,Only.refl _ _,fun p hp=>by simp at hp,h.blt,h.lt⟩
theorem PSt.next {w wr w':World} {bp tb:Nat} {zs:List (Nat × Obj)} {l:List Tk} (h:PSt w bp tb zs l wr) (hb:Below wr.heap.size wr w'):PSt w bp tb zs l w':=
 ⟨h.pat.next hb,h.only.step hb,fun p hp=>⟨rowKeep hb (h.own p hp).1,(h.own p hp).2⟩,h.lt⟩
theorem PSt.skip {w wr w':World} {bp tb:Nat} {zs:List (Nat × Obj)} {l l':List Tk} (h:PSt w bp tb zs l wr) (hp:PAt w' bp tb l') (ho:Only (fun k=>k=bp) wr w'):PSt w bp tb zs l' w':=
 ⟨hp,h.only.trans ho (fun i _ e=>e),fun p hp=>⟨ho.same (h.own p hp).1 (fun e=>by have:=(h.own p hp).2;have:=h.lt.1;omega),(h.own p hp).2⟩,h.lt⟩
theorem PSt.new {w wr:World} {bp tb:Nat} {zs:List (Nat × Obj)} {l:List Tk} (h:PSt w bp tb zs l wr) (o:Obj):PSt w bp tb ((wr.heap.size,o)::zs) l (wr.alloc o):=by
 have h2:=h.next ((Below.refl wr.heap.size wr).alloc (Nat.le_refl _) o);refine ⟨h2.pat,h2.only,fun p hp=>?_,h.lt⟩
 rcases List.mem_cons.1 hp with rfl|hp
 · exact ⟨jd wr o,h.only.size⟩
 · exact h2.own p hp
theorem PSt.put {w wr:World} {bp tb b:Nat} {l:List Tk} {zs:List (Nat × Obj)} (h:PSt w bp tb zs l wr) (hb:w.heap.size≤b) (a0 a1 a2 a3:Value):PAt (jbc wr b a0 a1 a2 a3) bp tb l∧Only (fun k=>k=bp) w (jbc wr b a0 a1 a2 a3):=
 ⟨h.pat.only (K:=fun k=>k=b) (qu (S:=fun k=>k=b) (Only.refl _ _) (.inl rfl) a0 a1 a2 a3) (by have:=h.lt;omega) (by have:=h.lt;omega),qu h.only (.inr hb) a0 a1 a2 a3⟩
theorem endNum {V:World} {act:Act} {Q:Ending→World→Prop} {a0 a1 a2 a3:Value} {e:Int} (hd:act.defers=[]) (rb:Nat) (h2:act.tmps.getD 2 undef=.pointer (some ⟨rb,0,none⟩)) (h3:act.tmps.getD 3 undef=.int .i64 e) (hr:V.heap[rb]?=some (.cells #[a0,a1,a2,a3] 34))
  (hQ:Q (.returned (.tuple #[.agg #[a0,a1,a2,a3],.int .i64 e])) V):bodyPost Tryz.prog Tryz.f186 Q Exit.ret act V:=by
 refine bodyPost_ret (v:=.tuple #[.agg #[a0,a1,a2,a3],.int .i64 e]) ?_ hd hQ;have hl2:=run_loadVar_row (P:=Tryz.prog) V rb 34 34 #[a0,a1,a2,a3] _ _ hr Tryz.underlying34 rfl (by kernel_rfl);rw [Array.getD_eq_getD_getElem?] at h2 h3;simp [results,Tryz.results186,asAddr,hl2,h2,h3]
theorem jc6 (bp tb:Nat) (l:List Tk) (w:World) (hp:PAt w bp tb l) (hv:Vd l) (h99:l.length≤99):
  Calls Tryz.prog 186 #[.pointer (some ⟨bp,0,none⟩)] w (OpTo w bp tb (numberP l)):=by
 have hpos:=hv.pos;have HP0:=lh ((PSt.start hp).new (.cells #[.int .i64 0,.string ⟨#[]⟩,.bool false,.int .u64 0] 34));unfold OpTo
 cases hm:cMinus.test (hd l) with
 |true=>
  obtain ⟨hv2,hl2⟩:=hv.tail (by simp [cMinus,Cl.inner]) hm;have hp2:=hv2.pos;have HS1:=lh (fun (v:Value) wx (hp2:PAt wx bp tb l) (hc:ClAt wx cMinus v)=>qf bp tb l cMinus v wx hp2 hc (by omega) (by omega) (Short.hd hv.short) hm)
  have hN:numberP l=numP true l.tail:=by unfold numberP;rw [if_pos hm]
  rw [hN];obtain ⟨m,hmm⟩:∃ m,l.tail=m:=⟨_,rfl⟩;rw [hmm] at HS1 hv2 hl2 hp2 ⊢;clear hN hmm hm hp
  have hm99:m.length≤99:=by omega
  cases hk:(Cl.kd 2).test (hd m) with
  |true=>
   obtain ⟨hv3,hl3⟩:=hv2.tail (by simp [Cl.inner]) hk;have hp3:=hv3.pos;have HS2:=lh (fun (v:Value) wx (hp2:PAt wx bp tb m) (hc:ClAt wx (.kd 2) v)=>qf bp tb m (.kd 2) v wx hp2 hc (by omega) (by omega) (Short.hd hv2.short) hk)
   have hN:numP true m=.ok ⟨2,⟨#[]⟩,true,((hd m).n:Nat)⟩ m.tail:=by unfold numP;rw [if_pos hk]
   rw [hN];clear hN hk;go_enter Tryz.func186,Tryz.ntmps186
   go_wp2_with (first
    |(go_at_call 119;refine (HS2.out _ _ HP3.out.pat HC3.out).mono ?_;rintro e w4 ⟨rfl,hp4,ho4⟩;have HP4:=lh (HP3.out.skip hp4 ho4);clear hp4 ho4;have hzz:=(HP4.out.own _ List.mem_cons_self).1;obtain ⟨r0,f0,r1,f1,r2,f2,r3,f3⟩:=bf4 hzz;clear hzz)
    |(go_at_call 45;refine (jv 2 _).mono ?_;rintro e w3 ⟨g3,lb3,rfl,hc3,hb3⟩;have HP3:=lh (HP2.out.next hb3);have HC3:=lh hc3;clear hc3 hb3)
    |(go_at_call 119;refine (HS1.out _ _ HP1.out.pat HC1.out).mono ?_;rintro e w2 ⟨rfl,hp2,ho2⟩;have HP2:=lh (HP1.out.skip hp2 ho2);clear hp2 ho2;obtain ⟨_,_,off,cap,hbx,hcap,htk⟩:=HP2.out.pat;have p0:w2.cell? ⟨bp,0,none⟩=some (.slice (some ⟨tb,off,none⟩) m.length cap):=ja hbx rfl;have hh:=htk.head (by first|assumption|omega);have t0:w2.cell? ⟨tb,off,none⟩=some (.int .i64 ((hd m).k:Nat)):=hh 0 _ rfl;have t1:w2.cell? ⟨tb,off+1,none⟩=some (.string (bs (hd m).t)):=hh 1 _ rfl;have t2:w2.cell? ⟨tb,off+2,none⟩=some (.int .u64 ((hd m).n:Nat)):=hh 2 _ rfl;have t3:w2.cell? ⟨tb,off+3,none⟩=some (.int .i64 ((hd m).a:Nat)):=hh 3 _ rfl;clear hh hbx htk)
    |(go_at_call 117;refine (jm [45] _ rfl _).mono ?_;rintro e w1 ⟨g1,lb1,rfl,hc1,hb1⟩;have HP1:=lh (HP0.out.next hb1);have HC1:=lh hc1;clear hc1 hb1))
   have hF:=HP4.out.put (Nat.le_refl _) (.int .i64 2) (.string ⟨#[]⟩) (.bool true) (.int .u64 ((hd m).n:Nat));exact endNum rfl w.heap.size rfl rfl (qw (HP4.out.own _ List.mem_cons_self).1 _ _ _ _) ⟨hF.2,rfl,hF.1⟩
  |false=>
   have HS2:=lh (fun (v:Value) wx (hp2:PAt wx bp tb m) (hc:ClAt wx (.kd 2) v)=>yh bp tb m (.kd 2) v wx hp2 hc (by omega) (by omega) (Short.hd hv2.short) (by simpa using hk))
   have hN:numP true m=.err 11 m:=by unfold numP;rw [if_neg (by simpa using hk)]
   rw [hN];clear hN hk;go_enter Tryz.func186,Tryz.ntmps186
   go_wp2_with (first
    |(go_at_call 119;refine (HS2.out _ _ HP3.out.pat HC3.out).mono ?_;rintro e w4 ⟨rfl,hb4⟩;have HP4:=lh (HP3.out.next hb4);clear hb4;have hzz:=(HP4.out.own _ List.mem_cons_self).1;obtain ⟨r0,f0,r1,f1,r2,f2,r3,f3⟩:=bf4 hzz;clear hzz)
    |(go_at_call 45;refine (jv 2 _).mono ?_;rintro e w3 ⟨g3,lb3,rfl,hc3,hb3⟩;have HP3:=lh (HP2.out.next hb3);have HC3:=lh hc3;clear hc3 hb3)
    |(go_at_call 119;refine (HS1.out _ _ HP1.out.pat HC1.out).mono ?_;rintro e w2 ⟨rfl,hp2,ho2⟩;have HP2:=lh (HP1.out.skip hp2 ho2);clear hp2 ho2;obtain ⟨_,_,off,cap,hbx,hcap,htk⟩:=HP2.out.pat;have p0:w2.cell? ⟨bp,0,none⟩=some (.slice (some ⟨tb,off,none⟩) m.length cap):=ja hbx rfl;have hh:=htk.head (by first|assumption|omega);have t0:w2.cell? ⟨tb,off,none⟩=some (.int .i64 ((hd m).k:Nat)):=hh 0 _ rfl;have t1:w2.cell? ⟨tb,off+1,none⟩=some (.string (bs (hd m).t)):=hh 1 _ rfl;have t2:w2.cell? ⟨tb,off+2,none⟩=some (.int .u64 ((hd m).n:Nat)):=hh 2 _ rfl;have t3:w2.cell? ⟨tb,off+3,none⟩=some (.int .i64 ((hd m).a:Nat)):=hh 3 _ rfl;clear hh hbx htk)
    |(go_at_call 117;refine (jm [45] _ rfl _).mono ?_;rintro e w1 ⟨g1,lb1,rfl,hc1,hb1⟩;have HP1:=lh (HP0.out.next hb1);have HC1:=lh hc1;clear hc1 hb1))
   have hF:=HP4.out.put (Nat.le_refl _) (.int .i64 0) (.string ⟨#[]⟩) (.bool false) (.int .u64 0);exact endNum rfl w.heap.size rfl rfl (qw (HP4.out.own _ List.mem_cons_self).1 _ _ _ _) ⟨hF.2,rfl,hF.1⟩
 |false=>
  have HS1:=lh (fun (v:Value) wx (hp2:PAt wx bp tb l) (hc:ClAt wx cMinus v)=>yh bp tb l cMinus v wx hp2 hc (by omega) (by omega) (Short.hd hv.short) (by simpa using hm))
  have hN:numberP l=numP false l:=by unfold numberP;rw [if_neg (by simpa using hm)]
  rw [hN];have hv2:=hv;clear hN hm hp
  cases hk:(Cl.kd 2).test (hd l) with
  |true=>
   obtain ⟨hv3,hl3⟩:=hv2.tail (by simp [Cl.inner]) hk;have hp3:=hv3.pos;have HS2:=lh (fun (v:Value) wx (hp2:PAt wx bp tb l) (hc:ClAt wx (.kd 2) v)=>qf bp tb l (.kd 2) v wx hp2 hc (by omega) (by omega) (Short.hd hv2.short) hk)
   have hN:numP false l=.ok ⟨2,⟨#[]⟩,false,((hd l).n:Nat)⟩ l.tail:=by unfold numP;rw [if_pos hk]
   rw [hN];clear hN hk;go_enter Tryz.func186,Tryz.ntmps186
   go_wp2_with (first
    |(go_at_call 119;refine (HS2.out _ _ HP3.out.pat HC3.out).mono ?_;rintro e w4 ⟨rfl,hp4,ho4⟩;have HP4:=lh (HP3.out.skip hp4 ho4);clear hp4 ho4;have hzz:=(HP4.out.own _ List.mem_cons_self).1;obtain ⟨r0,f0,r1,f1,r2,f2,r3,f3⟩:=bf4 hzz;clear hzz)
    |(go_at_call 45;refine (jv 2 _).mono ?_;rintro e w3 ⟨g3,lb3,rfl,hc3,hb3⟩;have HP3:=lh (HP2.out.next hb3);have HC3:=lh hc3;clear hc3 hb3)
    |(go_at_call 119;refine (HS1.out _ _ HP1.out.pat HC1.out).mono ?_;rintro e w2 ⟨rfl,hb2⟩;have HP2:=lh (HP1.out.next hb2);clear hb2;obtain ⟨_,_,off,cap,hbx,hcap,htk⟩:=HP2.out.pat;have p0:w2.cell? ⟨bp,0,none⟩=some (.slice (some ⟨tb,off,none⟩) l.length cap):=ja hbx rfl;have hh:=htk.head (by first|assumption|omega);have t0:w2.cell? ⟨tb,off,none⟩=some (.int .i64 ((hd l).k:Nat)):=hh 0 _ rfl;have t1:w2.cell? ⟨tb,off+1,none⟩=some (.string (bs (hd l).t)):=hh 1 _ rfl;have t2:w2.cell? ⟨tb,off+2,none⟩=some (.int .u64 ((hd l).n:Nat)):=hh 2 _ rfl;have t3:w2.cell? ⟨tb,off+3,none⟩=some (.int .i64 ((hd l).a:Nat)):=hh 3 _ rfl;clear hh hbx htk)
    |(go_at_call 117;refine (jm [45] _ rfl _).mono ?_;rintro e w1 ⟨g1,lb1,rfl,hc1,hb1⟩;have HP1:=lh (HP0.out.next hb1);have HC1:=lh hc1;clear hc1 hb1))
   have hF:=HP4.out.put (Nat.le_refl _) (.int .i64 2) (.string ⟨#[]⟩) (.bool false) (.int .u64 ((hd l).n:Nat));exact endNum rfl w.heap.size rfl rfl (qw (HP4.out.own _ List.mem_cons_self).1 _ _ _ _) ⟨hF.2,rfl,hF.1⟩
  |false=>
   have HS2:=lh (fun (v:Value) wx (hp2:PAt wx bp tb l) (hc:ClAt wx (.kd 2) v)=>yh bp tb l (.kd 2) v wx hp2 hc (by omega) (by omega) (Short.hd hv2.short) (by simpa using hk))
   have hN:numP false l=.err 11 l:=by unfold numP;rw [if_neg (by simpa using hk)]
   rw [hN];clear hN hk;go_enter Tryz.func186,Tryz.ntmps186
   go_wp2_with (first
    |(go_at_call 119;refine (HS2.out _ _ HP3.out.pat HC3.out).mono ?_;rintro e w4 ⟨rfl,hb4⟩;have HP4:=lh (HP3.out.next hb4);clear hb4;have hzz:=(HP4.out.own _ List.mem_cons_self).1;obtain ⟨r0,f0,r1,f1,r2,f2,r3,f3⟩:=bf4 hzz;clear hzz)
    |(go_at_call 45;refine (jv 2 _).mono ?_;rintro e w3 ⟨g3,lb3,rfl,hc3,hb3⟩;have HP3:=lh (HP2.out.next hb3);have HC3:=lh hc3;clear hc3 hb3)
    |(go_at_call 119;refine (HS1.out _ _ HP1.out.pat HC1.out).mono ?_;rintro e w2 ⟨rfl,hb2⟩;have HP2:=lh (HP1.out.next hb2);clear hb2;obtain ⟨_,_,off,cap,hbx,hcap,htk⟩:=HP2.out.pat;have p0:w2.cell? ⟨bp,0,none⟩=some (.slice (some ⟨tb,off,none⟩) l.length cap):=ja hbx rfl;have hh:=htk.head (by first|assumption|omega);have t0:w2.cell? ⟨tb,off,none⟩=some (.int .i64 ((hd l).k:Nat)):=hh 0 _ rfl;have t1:w2.cell? ⟨tb,off+1,none⟩=some (.string (bs (hd l).t)):=hh 1 _ rfl;have t2:w2.cell? ⟨tb,off+2,none⟩=some (.int .u64 ((hd l).n:Nat)):=hh 2 _ rfl;have t3:w2.cell? ⟨tb,off+3,none⟩=some (.int .i64 ((hd l).a:Nat)):=hh 3 _ rfl;clear hh hbx htk)
    |(go_at_call 117;refine (jm [45] _ rfl _).mono ?_;rintro e w1 ⟨g1,lb1,rfl,hc1,hb1⟩;have HP1:=lh (HP0.out.next hb1);have HC1:=lh hc1;clear hc1 hb1))
   have hF:=HP4.out.put (Nat.le_refl _) (.int .i64 0) (.string ⟨#[]⟩) (.bool false) (.int .u64 0);exact endNum rfl w.heap.size rfl rfl (qw (HP4.out.own _ List.mem_cons_self).1 _ _ _ _) ⟨hF.2,rfl,hF.1⟩
end Go.Proofs.YthcompcjphaahaaGreatDoor
