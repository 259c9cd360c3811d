/- Tokens: the code's, whatever the text. -/
import Derived.Deep.AppendLies
import Derived.Laws.OwnMore
import Derived.Laws.StructEq
import Derived.Test.YthcompcjphaahaaGreatDoorh36
set_option maxRecDepth 100000
set_option maxHeartbeats 8000000
set_option linter.unusedVariables false
namespace Go.Proofs.YthcompcjphaahaaGreatDoor
open Go.RowKit
instance:Inhabited Tk:=⟨⟨0,[],0,0⟩⟩
def tkC (x:Tk):List Value:=[.int .i64 (x.k:Nat),.string (bs x.t),.int .u64 (x.n:Nat),.int .i64 (x.a:Nat)]
def tkV (x:Tk):TkV:=⟨(x.k:Nat),bs x.t,(x.n:Nat),(x.a:Nat)⟩
def atV (out:List Tk) (i:Nat):TkV:=tkV (out.getD i default)
theorem jmd:∀ (out:List Tk) (i m:Nat),i<out.length→m<4→(out.flatMap tkC)[i*4+m]?=(tkC (out.getD i default))[m]?
 | [],i,m,h,_=>by simp at h
 |x::r,0,m,_,hm=>by
  rw [List.flatMap_cons,List.getElem?_append_left (by show _<4;omega),Nat.zero_mul,Nat.zero_add];rfl
 |x::r,i+1,m,h,hm=>by
  rw [List.flatMap_cons,List.getElem?_append_right (by show 4≤_;omega)]
  show (r.flatMap tkC)[(i+1)*4+m - 4]?= _
  rw [show (i+1)*4+m - 4=i*4+m by omega,jmd r i m (by simpa using h) hm]
  rfl
theorem infoTok:(Tryz.prog.info? 98).map (fun i=>(i.zero,i.size,i.bytes))=some (some (.agg #[.int .i64 0,.string ⟨#[]⟩,.int .u64 0,.int .i64 0]),4,40):=by kernel_rfl
structure TSt (w:World) (v:Value) (out:List Tk) (wx:World):Prop where
 own:wx.ownsRow (w.heap.size+1) 98 4 v out.length (out.flatMap tkC)
 fl:wx.heap[w.heap.size]?=some (fltO 0 0)
 be:Below w.heap.size w wx
theorem TSt.step {w wx wy:World} {v:Value} {out:List Tk} (h:TSt w v out wx) (hb:Below wx.heap.size wx wy):TSt w v out wy:=
 ⟨(Only.of_below (S:=fun _=>False) hb).row h.own (fun _ _ f=>f),rowKeep hb h.fl,onBelow h.be (Nat.le_refl _) hb⟩
theorem TSt.start (w:World):TSt w (.slice none 0 0) [] (w.alloc (fltO 0 0)):=
 ⟨⟨rfl,.inl ⟨rfl,rfl⟩⟩,jd w _,(Below.refl w.heap.size w).alloc (Nat.le_refl _) _⟩
theorem TSt.grown {w wx wy:World} {v v':Value} {out:List Tk} {x:Tk} (h:TSt w v out wx) (hown:wy.ownsRow (w.heap.size+1) 98 4 v' (out.length+1) (out.flatMap tkC++tkC x)) (hg:wx.grownBy wy v.ownBlock):TSt w v' (out++[x]) wy:=by
 refine ⟨?_,?_,?_⟩
 · rw [List.length_append,List.flatMap_append]
   simpa using hown
 · have hlt:w.heap.size<wx.heap.size:=lt_of_block h.fl;exact (hg.block w.heap.size hlt (fun e=>by have:=(h.own.lt _ e.symm).1;omega)).trans h.fl
 · exact h.be.grown hg h.be.size (fun k hk=>by have:=(h.own.lt k hk).1;omega)
theorem TSt.at {w wx:World} {ao:Option Addr} {n cap:Nat} {out:List Tk} (h:TSt w (.slice ao n cap) out wx):∀ i,i<out.length→TkAt wx ao i (atV out i):=by
 intro i hi
 rcases h.own.2 with ⟨hv,h0⟩|⟨g,cap',cur,hv,_⟩
 · omega
 · injection hv with e1 e2 e3
   subst e1;have hc:=h.own.cells (g:=g) rfl
   have key:∀ m,m<4→∀ u,(tkC (out.getD i default))[m]?=some u→wx.cell? ⟨g,i*4+m,none⟩=some u:=fun m hm u hu=>by
    have h2:=hc (i*4+m) u (by rw [jmd out i m hi hm];exact hu)
    have hadd:(⟨g,0,none⟩:Addr).add (i*4+m)=⟨g,i*4+m,none⟩:=by unfold Addr.add;split <;> simp_all
    rwa [hadd] at h2
   refine ⟨g,0,rfl,?_,?_,?_,?_⟩
   · rw [Nat.zero_add];exact key 0 (by omega) _ rfl
   · rw [Nat.zero_add];exact key 1 (by omega) _ rfl
   · rw [Nat.zero_add];exact key 2 (by omega) _ rfl
   · rw [Nat.zero_add];exact key 3 (by omega) _ rfl
theorem TSt.cap {w wx:World} {ao:Option Addr} {n cap:Nat} {out:List Tk} (h:TSt w (.slice ao n cap) out wx):out.length≤cap:=by
 rcases h.own.2 with ⟨hv,h0⟩|⟨g,cap',cur,hv,hb,hg,hn,_⟩
 · omega
 · injection hv with e1 e2 e3
   omega
def AnsTo (w:World) (A:Ans) (x:Ending) (w':World):Prop:=(match A with
 |.bad e a=>x=.returned (.tuple #[.slice none 0 0,.agg #[.int .i64 (e:Nat),.int .i64 (a:Nat)]])
 |.good out=>∃ ao cap,x=.returned (.tuple #[.slice ao out.length cap,.agg #[.int .i64 0,.int .i64 0]])∧(∀ i,i<out.length→TkAt w' ao i (atV out i))∧out.length≤cap)∧Below w.heap.size w w'
theorem jtd (l:List UInt8):(∃ j,j<5∧(∀ i,i<j→ld l i=0)∧ld l j≠0)∨∀ i,i<5→ld l i=0:=by
 by_cases h0:ld l 0=0
 · by_cases h1:ld l 1=0
   · by_cases h2:ld l 2=0
     · by_cases h3:ld l 3=0
       · by_cases h4:ld l 4=0
         · right
           intro i hi
           match i,hi with
           |0,_=>exact h0
           |1,_=>exact h1
           |2,_=>exact h2
           |3,_=>exact h3
           |4,_=>exact h4
         · exact .inl ⟨4,by omega,fun i hi=>by
            match i,hi with
            |0,_=>exact h0
            |1,_=>exact h1
            |2,_=>exact h2
            |3,_=>exact h3,h4⟩
       · exact .inl ⟨3,by omega,fun i hi=>by
          match i,hi with
          |0,_=>exact h0
          |1,_=>exact h1
          |2,_=>exact h2,h3⟩
     · exact .inl ⟨2,by omega,fun i hi=>by
        match i,hi with
        |0,_=>exact h0
        |1,_=>exact h1,h2⟩
   · exact .inl ⟨1,by omega,fun i hi=>by
      match i,hi with
      |0,_=>exact h0,h1⟩
 · exact .inl ⟨0,by omega,fun i hi=>absurd hi (Nat.not_lt_zero _),h0⟩
theorem jc1 (l:List UInt8) (hl:l≠[]):match fstG l with
  |.err e a=>e≠0∧a<l.length
  |.tok k t n len=>1≤len∧len≤l.length∧1≤k∧k≤5∧t.length≤len:=by
 rcases jtd l with ⟨j,hj,hz,hn⟩|h
 · rw [jse l j hj hz hn];have hok:=jt3 l j hj hn;have hle:=jt5 l j
   cases hg:gt l j with
   |err e a=>rw [hg] at hok;exact ⟨hok.1,by have:=hok.2;omega⟩
   |tok k t n len=>
    rw [hg] at hok;obtain ⟨h1,h2,h3⟩:=hok;exact ⟨by omega,by omega,by omega,by omega,by omega⟩
 · rw [jr1 l h];exact ⟨by decide,List.length_pos_iff.2 hl⟩
theorem outErr {w w1:World} (h:w1.heap[w.heap.size]?=some (fltO 0 0)) (hb:Below w.heap.size w w1) (e a:Int) (O1 O2:Obj):
  ((((w1.setCell ⟨w.heap.size,0,none⟩ (.int .i64 e)).setCell ⟨w.heap.size,1,none⟩ (.int .i64 a)).alloc O1).alloc O2).drew.heap[w.heap.size]?=some (fltO e a)∧Below w.heap.size w ((((w1.setCell ⟨w.heap.size,0,none⟩ (.int .i64 e)).setCell ⟨w.heap.size,1,none⟩ (.int .i64 a)).alloc O1).alloc O2).drew:=by
 have h1:=jn (j:=1) (u:=.int .i64 a) (jn (j:=0) (u:=.int .i64 e) h);have hs:=hb.size;exact ⟨je (je h1),((((hb.setCell (Nat.le_refl _) _).setCell (Nat.le_refl _) _).alloc (by simpa using hs) _).alloc (by simp;omega) _).drew⟩
theorem js0 {w w1:World} (h:w1.heap[w.heap.size]?=some (fltO 0 0)) (hb:Below w.heap.size w w1) (e a:Int) (O1 O2:Obj):
  ((((w1.setCell ⟨w.heap.size,0,none⟩ (.int .i64 e)).setCell ⟨w.heap.size,1,none⟩ (.int .i64 a)).alloc O1).alloc O2).heap[w.heap.size]?=some (fltO e a)∧Below w.heap.size w ((((w1.setCell ⟨w.heap.size,0,none⟩ (.int .i64 e)).setCell ⟨w.heap.size,1,none⟩ (.int .i64 a)).alloc O1).alloc O2):=by
 have h1:=jn (j:=1) (u:=.int .i64 a) (jn (j:=0) (u:=.int .i64 e) h);have hs:=hb.size;exact ⟨je (je h1),(((hb.setCell (Nat.le_refl _) _).setCell (Nat.le_refl _) _).alloc (by simpa using hs) _).alloc (by simp;omega) _⟩
theorem newTk (x:Tk) (w1:World) (O1 O2:Obj):∀ i u,(tkC x)[i]?=some u→(((w1.alloc O1).alloc O2).alloc (.cells #[.int .i64 (x.k:Nat),.string (bs x.t),.int .u64 (x.n:Nat),.int .i64 (x.a:Nat)] 98)).cell? ((⟨w1.heap.size+1+1,0,none⟩:Addr).add i)=some u:=by
 have h:=jd ((w1.alloc O1).alloc O2) (.cells #[.int .i64 (x.k:Nat),.string (bs x.t),.int .u64 (x.n:Nat),.int .i64 (x.a:Nat)] 98)
 have hz:((w1.alloc O1).alloc O2).heap.size=w1.heap.size+1+1:=by simp
 rw [hz] at h;intro i u hu;exact World.news_of_block h i u hu
theorem TSt.fin {w wx:World} {v:Value} {out:List Tk} (h:TSt w v out wx):TSt w v out ((wx.setCell ⟨w.heap.size,0,none⟩ (.int .i64 0)).setCell ⟨w.heap.size,1,none⟩ (.int .i64 0)):=by
 refine ⟨?_,jn (j:=1) (jn (j:=0) h.fl),(h.be.setCell (Nat.le_refl _) _).setCell (Nat.le_refl _) _⟩;have ho:Only (fun k=>k=w.heap.size) wx ((wx.setCell ⟨w.heap.size,0,none⟩ (.int .i64 0)).setCell ⟨w.heap.size,1,none⟩ (.int .i64 0)):=((Only.refl (fun k=>k=w.heap.size) wx).setCell (p:=⟨w.heap.size,0,none⟩) (.inl rfl) _).setCell (p:=⟨w.heap.size,1,none⟩) (.inl rfl) _;exact ho.row h.own (fun k hk e=>by have:=(h.own.lt k hk).1;omega)
theorem jub (x:Tk) (w1:World):∀ i u,(tkC x)[i]?=some u→(w1.alloc (.cells #[.int .i64 (x.k:Nat),.string (bs x.t),.int .u64 (x.n:Nat),.int .i64 (x.a:Nat)] 98)).cell? ((⟨w1.heap.size,0,none⟩:Addr).add i)=some u:=by
 intro i u hu;exact World.news_of_block (jd w1 (.cells #[.int .i64 (x.k:Nat),.string (bs x.t),.int .u64 (x.n:Nat),.int .i64 (x.a:Nat)] 98)) i u hu
theorem jux {w V:World} {Q:Ending→World→Prop} {act:Act} (v:Value) (e a:Int) (hd:act.defers=[]) (h2:act.tmps.getD 2 undef=v) (h3:act.tmps.getD 3 undef=.pointer (some ⟨w.heap.size,0,none⟩)) (hr:V.heap[w.heap.size]?=some (fltO e a))
  (hQ:Q (.returned (.tuple #[v,.agg #[.int .i64 e,.int .i64 a]])) V):bodyPost Tryz.prog Tryz.f42 Q Exit.ret act V:=by
 refine bodyPost_ret (v:=.tuple #[v,.agg #[.int .i64 e,.int .i64 a]]) ?_ hd hQ;have hl2:=run_loadVar_row (P:=Tryz.prog) V w.heap.size _ 54 _ _ _ hr Tryz.underlying54 rfl (by kernel_rfl);rw [Array.getD_eq_getD_getElem?] at h2 h3;simp [results,Tryz.results42,asAddr,hl2,h2,h3]
theorem jl6:∀ (k f:Nat) (l:List UInt8) (a:Nat) (out:List Tk),k≤(l.takeWhile blk).length→TA (f+k) l a out=TA f (l.drop k) (a+k) out
 |0,f,l,a,out,_=>rfl
 |k+1,f,[],a,out,h=>by simp at h
 |k+1,f,c::r,a,out,h=>by
  by_cases hc:blk c=true
  · rw [List.takeWhile_cons_of_pos hc] at h
    show TA (f+k+1) (c::r) a out= _
    rw [jci,if_pos hc,jl6 k f r (a+1) out (by simpa using h),List.drop_succ_cons]
    congr 1;omega
  · rw [List.takeWhile_cons_of_neg hc] at h;simp at h
theorem jsx (l:List UInt8):∀ c r,l.drop (l.takeWhile blk).length=c::r→blk c=false:=by
 intro c r h;have hs:=(Xg blk l).2.1
 have hlt:(l.takeWhile blk).length<l.length:=by
  rcases Nat.lt_or_ge (l.takeWhile blk).length l.length with h1|h1
  · exact h1
  · rw [List.drop_eq_nil_of_le h1] at h;cases h
 have h2:=hs hlt
 have:l.getD (l.takeWhile blk).length 0=c:=by
  rw [List.getD_eq_getElem?_getD,←List.head?_drop,h];rfl
 rwa [this] at h2
def ansN:Ans→Nat|.bad _ _=>0|.good out=>out.length
theorem jj1:∀ (f:Nat) (l:List UInt8) (a:Nat) (out r:List Tk),out.length≤64→TA f l a out=.good r→r.length≤65
 |0,l,a,out,r,ho,h=>by cases h
 |f+1,[],a,out,r,ho,h=>by
  have:out++[⟨6,[],0,a⟩]=r:=by injection h
  rw [←this];simp;omega
 |f+1,c::q,a,out,r,ho,h=>by
  rw [jci] at h
  by_cases hc:blk c=true
  · rw [if_pos hc] at h;exact jj1 f q (a+1) out r ho h
  · rw [if_neg hc] at h
    cases hg:fstG (c::q) with
    |err e b=>rw [hg] at h;cases h
    |tok k t n len=>
     rw [hg] at h;have h:(if out.length=64 then Ans.bad 3 a else TA f ((c::q).drop len) (a+len) (out++[⟨k,t,n,a⟩]))=.good r:=h
     by_cases h64:out.length=64
     · rw [if_pos h64] at h;cases h
     · rw [if_neg h64] at h;exact jj1 f _ _ _ r (by simp;omega) h
theorem jr6 (l:List UInt8):ansN (tokA l)≤65:=by
 cases h:tokA l with
 |bad e a=>exact Nat.zero_le _
 |good r=>
  unfold tokA at h
  split at h
  · cases h
  · exact jj1 _ l 0 [] r (by simp) h
theorem jkk (l:List UInt8) (hl:l.length≤256) (w:World) (hV:LibAt w):Calls Tryz.prog 42 #[.string (bs l)] w (AnsTo w (tokA l)):=by
 obtain ⟨i0,hi,hz0,hz1,hz2⟩:=info_parts infoTok;have HRUN:=lh (fun (m:List UInt8) (hm:m.length≤256) (wx:World)=>runBlanks m (by omega) wx);have HFI:=lh (fun (c:UInt8) (r:List UInt8) (hm:(c::r).length≤256) (wx:World) (hb:Below w.heap.size w wx)=>jm6 c r (by omega) wx (hV.held hb));have HSL:=lh (jg5 l);have HFB:=lh (jc1);have HSK:=lh jl6;have HNB:=lh jsx;have HS0:=lh (TSt.start w);have hsz:(bs l).size=l.length:=jy l;have hA:tokA l=TA (l.length+1) l 0 []:=if_neg (by omega);rw [hA];have HR0:=lh (runBlanks l (by omega));have HTW:=lh (fun m:List UInt8=>(Xg blk m).2.2);obtain ⟨s,hs⟩:∃ s,bs l=s:=⟨_,rfl⟩;rw [hs] at HSL HR0 hsz ⊢
 have hml:s.size≤maxLen:=by show s.size≤9223372036854775807;omega
 have h256:¬(256:Int)<(l.length:Int):=by omega
 obtain ⟨AA,hAA⟩:∃ AA,TA (l.length+1) l 0 []=AA:=⟨_,rfl⟩;rw [hAA];have HAA:=lh hAA;clear hA hs hAA hV;go_enter Tryz.func42,Tryz.ntmps42;go_wp2_with (go_at_call 79;refine (HR0.out _).mono ?_;rintro e w1 ⟨rfl,hb1⟩;have HS1:=lh (HS0.out.step hb1);clear hb1)
 go_loopw [4,5] (fun v a wr=>∃ (out:List Tk) (j f:Nat) (ao:Option Addr) (cap:Nat),j≤l.length∧out.length≤64∧v=.slice ao out.length cap∧a=.int .i64 j∧l.length - j<f∧Hid (TA f (l.drop j) j out=AA)∧Hid (∀ c r,l.drop j=c::r→blk c=false)∧Hid (TSt w (.slice ao out.length cap) out wr)) (fun _ a _=>l.length - (intOf a).toNat)
 case atStart=>
  have hk:=HTW.out l;refine ⟨[],(l.takeWhile blk).length,l.length+1 - (l.takeWhile blk).length,none,0,hk,by simp,rfl,by go_num,by omega,lh ?_,lh (HNB.out l),HS1⟩;have h:=HSK.out (l.takeWhile blk).length (l.length+1 - (l.takeWhile blk).length) l 0 [] (Nat.le_refl _);rw [Nat.sub_add_cancel (by omega),Nat.zero_add] at h;rw [←h];exact HAA.out
 case round=>
  obtain ⟨out,j,f,ao,cap,hj,hout,rfl,rfl,hf,HTA,HB,HS⟩:=hrel
  by_cases hlt:j<l.length
  · obtain ⟨c,r,hcr⟩:∃ c r,l.drop j=c::r:=⟨_,_,List.drop_eq_getElem_cons hlt⟩;have hnb:=HB.out c r hcr
    have hlen:(c::r).length=l.length - j:=by rw [←hcr,List.length_drop]
    obtain ⟨g,rfl⟩:∃ g,f=g+1:=⟨f - 1,by omega⟩;have hta:=HTA.out;rw [hcr,jci,if_neg (by rw [hnb];decide)] at hta;have hfi:=fun wx hb=>HFI.out c r (by omega) wx hb;have hfb:=HFB.out (c::r) (by simp);have hsl:=HSL.out j hj;rw [hcr] at hsl;have hcr2:=HRUN.out
    have hdr:∀ len,l.drop (j+len)=(c::r).drop len:=fun len=>by rw [←List.drop_drop,hcr]
    obtain ⟨m,hm⟩:∃ m,c::r=m:=⟨_,rfl⟩;rw [hm] at hta hfi hfb hsl hlen;simp only [hm] at hdr;obtain ⟨G,hG⟩:∃ G,fstG m=G:=⟨_,rfl⟩;rw [hG] at hta hfi hfb;obtain ⟨X,hX⟩:∃ X,bs m=X:=⟨_,rfl⟩;rw [hX] at hfi hsl;have HFC:=lh hfi;have HDR:=lh hdr;clear hfi hdr hm hX hG hcr hnb hcr2
    cases G with
    |err e a=>
     have HTX:=lh (show AA=.bad e (j+a) from hta.symm)
     have heb:((e:Int) !=0)=true:=by have:=hfb.1;simpa using (show ((e:Nat):Int)≠0 by omega)
     have hae:=hfb.2;have HWR:=lh (show wrap64 ((j:Int)+(a:Int))=(j:Int)+(a:Int) by unfold wrap64;omega);clear hae;clear hta hfb;have HFD:=lh (show ∀ wx,Below w.heap.size w wx→Calls Tryz.prog 80 #[.string X] wx fun x w'=>x=.returned (.tuple #[.agg #[.int .i64 0,.string ⟨#[]⟩,.int .u64 0,.int .i64 0],.int .i64 0,.agg #[.int .i64 (e:Nat),.int .i64 (a:Nat)]])∧Below wx.heap.size wx w' from HFC.out);go_wp2_with (go_at_call 80;refine (HFD.out _ HS.out.be).mono ?_;rintro x w1 ⟨rfl,hb1⟩;have HS1:=lh (HS.out.step hb1);have l0:w1.cell? ⟨w.heap.size,0,none⟩=some (.int .i64 0):=ja HS1.out.fl rfl;have l1:w1.cell? ⟨w.heap.size,1,none⟩=some (.int .i64 0):=ja HS1.out.fl rfl;have m0:=jg (j:=0) HS1.out.fl;have m1:=jg (j:=1) HS1.out.fl;have p0:w.heap.size<w1.heap.size:=lt_of_block HS1.out.fl;have p1:¬w.heap.size=w1.heap.size:=(by omega);clear hb1)
     go_region
     all_goals go_wp2_with (fail)
     all_goals
      rw [HWR.out];have HV:=lh (outErr HS1.out.fl HS1.out.be (e:Nat) ((j:Int)+(a:Int)) (.cells #[.int .i64 0,.string ⟨#[]⟩,.int .u64 0,.int .i64 0] 98) (.cells #[.int .i64 (e:Nat),.int .i64 (a:Nat)] 54));refine jux (w:=w) (.slice none 0 0) (e:Nat) ((j:Int)+(a:Int)) rfl rfl rfl HV.out.1 ?_;rw [HTX.out];exact ⟨rfl,HV.out.2⟩
    |tok k t n len=>
     obtain ⟨b1,b2,b3,b4,b5⟩:=hfb;have hta2:(if out.length=64 then Ans.bad 3 j else TA g (m.drop len) (j+len) (out++[⟨k,t,n,j⟩]))=AA:=hta;clear hta
     by_cases h64:out.length=64
     · rw [if_pos h64] at hta2;have HTX:=lh hta2.symm;clear hta2;have HFD:=lh (show ∀ wx,Below w.heap.size w wx→Calls Tryz.prog 80 #[.string X] wx fun x w'=>x=.returned (.tuple #[.agg #[.int .i64 (k:Nat),.string (bs t),.int .u64 (n:Nat),.int .i64 0],.int .i64 (len:Nat),.agg #[.int .i64 0,.int .i64 0]])∧Below wx.heap.size wx w' from HFC.out);go_wp2_with (go_at_call 80;refine (HFD.out _ HS.out.be).mono ?_;rintro x w1 ⟨rfl,hb1⟩;have HS1:=lh (HS.out.step hb1);have l0:w1.cell? ⟨w.heap.size,0,none⟩=some (.int .i64 0):=ja HS1.out.fl rfl;have l1:w1.cell? ⟨w.heap.size,1,none⟩=some (.int .i64 0):=ja HS1.out.fl rfl;have m0:=jg (j:=0) HS1.out.fl;have m1:=jg (j:=1) HS1.out.fl;have p0:w.heap.size<w1.heap.size:=lt_of_block HS1.out.fl;have p1:¬w.heap.size=w1.heap.size:=(by omega);clear hb1);have HV:=lh (js0 HS1.out.fl HS1.out.be 3 (j:Int) (.cells #[.int .i64 (k:Nat),.string (bs t),.int .u64 (n:Nat),.int .i64 0] 98) (.cells #[.int .i64 0,.int .i64 0] 54));refine jux (w:=w) (.slice none 0 0) 3 (j:Int) rfl rfl rfl HV.out.1 ?_;rw [HTX.out];exact ⟨rfl,HV.out.2⟩
     · rw [if_neg h64] at hta2;have HTX:=lh hta2;clear hta2;have HFD:=lh (show ∀ wx,Below w.heap.size w wx→Calls Tryz.prog 80 #[.string X] wx fun x w'=>x=.returned (.tuple #[.agg #[.int .i64 (k:Nat),.string (bs t),.int .u64 (n:Nat),.int .i64 0],.int .i64 (len:Nat),.agg #[.int .i64 0,.int .i64 0]])∧Below wx.heap.size wx w' from HFC.out);have h64b:((out.length:Int)==64)=false:=beq_eq_false_iff_ne.2 (by omega)
       have hlj:j+len≤l.length:=by omega
       have hsl2:∀ wx,(Instr.slice 9 (.string s) (some (.int .i64 ((j:Int)+(len:Int)))) none none).run Tryz.prog wx=.ok (.string (bs (l.drop (j+len)))) wx:=fun wx=>HSL.out (j+len) hlj wx;have hrun:=HRUN.out (l.drop (j+len)) (by rw [List.length_drop];omega);have hnbx:=HNB.out (l.drop (j+len));have hskx:=HSK.out ((l.drop (j+len)).takeWhile blk).length (g - ((l.drop (j+len)).takeWhile blk).length) (l.drop (j+len)) (j+len) (out++[⟨k,t,n,j⟩]) (Nat.le_refl _);have htw:=HTW.out (l.drop (j+len));rw [List.length_drop] at htw;rw [List.drop_drop] at hskx hnbx;obtain ⟨nb,hnb⟩:∃ nb,((l.drop (j+len)).takeWhile blk).length=nb:=⟨_,rfl⟩;rw [hnb] at hrun hnbx hskx htw;rw [Nat.sub_add_cancel (by omega)] at hskx;have HTY:=lh (show TA (g - nb) (l.drop (j+len+nb)) (j+len+nb) (out++[⟨k,t,n,j⟩])=AA by rw [←hskx,HDR.out];exact HTX.out);have HNX:=lh hnbx;obtain ⟨Y,hY⟩:∃ Y,bs (l.drop (j+len))=Y:=⟨_,rfl⟩;rw [hY] at hrun hsl2;have HRX:=lh hrun;have HX:=lh (show ∀ (wx wy:World) (v':Value),TSt w (.slice ao out.length cap) out wx→wy.ownsRow (w.heap.size+1) 98 4 v' (out.length+1) (out.flatMap tkC++tkC ⟨k,t,n,j⟩)→wx.grownBy wy (Value.slice ao out.length cap).ownBlock→TSt w v' (out++[⟨k,t,n,j⟩]) wy from fun _ _ _ h1 h2 h3=>h1.grown h2 h3);have HL1:=lh (show (out++[(⟨k,t,n,j⟩:Tk)]).length=out.length+1 by rw [List.length_append];rfl);have HNT:=lh (newTk ⟨k,t,n,j⟩);clear hrun hnbx hskx hnb hY b3 b4 b5 HRUN HNB HSK HTW HFB HFI
       go_wp2_with (first
        |(go_at_call 80;refine (HFD.out _ HS.out.be).mono ?_;rintro x w1 ⟨rfl,hb1⟩;have HS1:=lh (HS.out.step hb1);have l0:w1.cell? ⟨w.heap.size,0,none⟩=some (.int .i64 0):=ja HS1.out.fl rfl;have l1:w1.cell? ⟨w.heap.size,1,none⟩=some (.int .i64 0):=ja HS1.out.fl rfl;have m0:=jg (j:=0) HS1.out.fl;have m1:=jg (j:=1) HS1.out.fl;have p0:w.heap.size<w1.heap.size:=lt_of_block HS1.out.fl;have p1:¬w.heap.size=w1.heap.size:=(by omega);clear hb1)
        |(at_builtin;refine wpList_append_lies _ rfl _ _ 86 rfl (w.heap.size+1) 98 i0 _ 4 40 Tryz.underlying86 hi hz0 hz1 hz2 rfl (by decide) _ _ _ rfl (((HS1.out.own.alloc _).alloc _).alloc _) ⟨_,0,none⟩ 1 1 (tkC ⟨k,t,n,j⟩) rfl rfl (HNT.out _ _ _) (fun u hu=>by (simp [tkC] at hu;rcases hu with rfl|rfl|rfl|rfl <;> rfl)) (by decide) (by unfold maxLen;omega) (by omega) (by simp;omega) _ rfl ?_;intro gg cp w2 hown2 hg2 _ _;have HS2:=lh (HX.out _ _ _ (HS1.out.step ((((Below.refl w1.heap.size w1).alloc (Nat.le_refl _) _).alloc (by simp) _).alloc (by simp;omega) _)) hown2 hg2);clear hown2 hg2)
        |(go_at_call 79;refine (HRX.out _).mono ?_;rintro e w3 ⟨rfl,hb3⟩;have HS3:=lh (HS2.out.step hb3);clear hb3))
       go_roundw
       case rel=>exact ⟨out++[⟨k,t,n,j⟩],j+len+nb,g - nb,some ⟨gg,0,none⟩,cp,by omega,by rw [HL1.out];omega,by rw [HL1.out],by go_num,by omega,HTY,HNX,by rw [HL1.out];exact HS3⟩
       case measure=>simp [intOf];omega
  · obtain rfl:j=l.length:=by omega
    obtain ⟨g,rfl⟩:∃ g,f=g+1:=⟨f - 1,by omega⟩;have hta:=HTA.out;rw [List.drop_eq_nil_of_le (Nat.le_refl _)] at hta;have HTX:=lh (show AA=.good (out++[⟨6,[],0,l.length⟩]) from hta.symm);have HX:=lh (show ∀ (wx wy:World) (v':Value),TSt w (.slice ao out.length cap) out wx→wy.ownsRow (w.heap.size+1) 98 4 v' (out.length+1) (out.flatMap tkC++tkC ⟨6,[],0,l.length⟩)→wx.grownBy wy (Value.slice ao out.length cap).ownBlock→TSt w v' (out++[⟨6,[],0,l.length⟩]) wy from fun _ _ _ h1 h2 h3=>h1.grown h2 h3);have HNT:=lh (jub ⟨6,[],0,l.length⟩);have HL1:=lh (show (out++[(⟨6,[],0,l.length⟩:Tk)]).length=out.length+1 by rw [List.length_append];rfl);clear hta
    go_wp2_with (first
     |(at_builtin;refine wpList_append_lies _ rfl _ _ 86 rfl (w.heap.size+1) 98 i0 _ 4 40 Tryz.underlying86 hi hz0 hz1 hz2 rfl (by decide) _ _ _ rfl (HS.out.own.alloc _) ⟨_,0,none⟩ 1 1 (tkC ⟨6,[],0,l.length⟩) rfl rfl (HNT.out _) (fun u hu=>by (simp [tkC] at hu;rcases hu with rfl|rfl|rfl|rfl <;> rfl)) (by decide) (by unfold maxLen;omega) (by omega) (by have:=HS.out.be.size;have:=lt_of_block HS.out.fl;simp;omega) _ rfl ?_;intro gg cp w2 hown2 hg2 _ _;have HS2:=lh (HX.out _ _ _ (HS.out.step ((Below.refl wr.heap.size wr).alloc (Nat.le_refl _) _)) hown2 hg2);have l0:w2.cell? ⟨w.heap.size,0,none⟩=some (.int .i64 0):=ja HS2.out.fl rfl;have l1:w2.cell? ⟨w.heap.size,1,none⟩=some (.int .i64 0):=ja HS2.out.fl rfl;have m0:=jg (j:=0) HS2.out.fl;have m1:=jg (j:=1) HS2.out.fl;clear hown2 hg2))
    have HF:=lh HS2.out.fin;refine jux (w:=w) (.slice (some ⟨gg,0,none⟩) (out.length+1) cp) 0 0 rfl rfl rfl HF.out.fl ?_;rw [HTX.out];refine ⟨⟨some ⟨gg,0,none⟩,cp,by rw [HL1.out],?_⟩,HF.out.be⟩;exact ⟨HF.out.at,HF.out.cap⟩
end Go.Proofs.YthcompcjphaahaaGreatDoor
