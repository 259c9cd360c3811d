/- Text: the text of a path. -/
import Derived.Test.YthcompcjphaahaaGreatDoorh21
import Derived.Test.YthcompcjphaahaaGreatDoorh33
set_option maxRecDepth 100000
set_option maxHeartbeats 8000000
set_option linter.unusedVariables false
namespace Go.Proofs.YthcompcjphaahaaGreatDoor.Pa
open Go Go.RowKit Go.Shelf
attribute [local go_sem] Oper.semAt_some
def okStep (L:Nat→TypeV) (len:Nat) (x:Nat × StepV):Prop:=x.1<len∧nextB (L x.1) x.2=true
theorem jp8 {L:Nat→TypeV} {len:Nat} (hv:∀ i,i<len→OkT L i):∀ (ps:List StepV) (t u:Nat),t<len→endL L t ps=some u→∀ x,x∈alongL L t ps→okStep L len x
 | [],t,u,_,_,x,hx=>by simp [alongL] at hx
 |s::r,t,u,ht,he,x,hx=>by
  simp only [endL] at he
  split at he
  · rename_i hb;simp only [alongL,List.mem_cons] at hx
    rcases hx with rfl|hx
    · exact ⟨ht,hb⟩
    · exact jp8 hv r _ u (yq hv ht).2 he x hx
  · cases he
end Go.Proofs.YthcompcjphaahaaGreatDoor.Pa
namespace Go.Proofs.YthcompcjphaahaaGreatDoor.Pa
open Go Go.RowKit
def wS (n:Nat):ByteArray:=⟨#[91]⟩++bs (Lib.decDigits n)++⟨#[93]⟩
def pS (s:ByteArray) (n:Nat):Bool:=decide ((wS n).size≤s.size)&&((s.extract 0 (wS n).size).toList==(wS n).toList)
def elemK (s:ByteArray):Nat:=firstN (pS s) 100
def elemV (s:ByteArray):Value:=
 if elemK s<100 then .tuple #[.int .i64 (elemK s:Nat),.string (s.extract (wS (elemK s)).size s.size),.bool true] else .tuple #[.int .i64 0,.string s,.bool false]
theorem jvo:∀ i,i<100→(Lib.decDigits i).length≤2:=by decide+kernel
theorem jlm {n:Nat} (h:n<100):(wS n).size=(Lib.decDigits n).length+2:=by
 unfold wS;rw [ByteArray.size_append,ByteArray.size_append,jy];simp [ByteArray.size];omega
theorem jlf (s:ByteArray) (hs:s.size≤1000000) (w:World):Calls Tryz.prog 100 #[.string s] w fun e w'=>e=.returned (elemV s)∧Below w.heap.size w w':=by
 go_enter Tryz.func100,Tryz.ntmps100;go_wp2
 go_loopw [5] (fun i wr=>∃ k:Nat,k≤100∧i=.int .i64 k∧Hid (∀ j,j<k→pS s j=false)∧Below w.heap.size w wr) (fun i _=>100 - (intOf i).toNat)
 case atStart=>exact ⟨0,by omega,rfl,lh fun j hj=>by omega,Below.refl _ _⟩
 case round=>
  obtain ⟨k,hk,rfl,H,hbl⟩:=hrel
  by_cases hlt:k<100
  · have hd:decide ((k:Int)<100)=true:=by simp;omega
    have hwu:IntKind.u64.wrap ((k:Nat):Int)=((k:Nat):Int):=IntWalk.u64_in _ (by omega)
    have hwi:IntKind.i64.wrap ((k:Int)+1)=((k+1:Nat):Int):=by rw [IntWalk.i64_in _ (by omega)];omega
    have HD:=lh (fun wx=>je8 k (by omega) wx);have hws:=jlm hlt;have hd2:=jvo k hlt;have hp:pS s k=(decide ((wS k).size≤s.size)&&((s.extract 0 (wS k).size).toList==(wS k).toList)):=rfl;obtain ⟨dk,hdk⟩:∃ dk,bs (Lib.decDigits k)=dk:=⟨_,rfl⟩
    have hds:dk.size=(Lib.decDigits k).length:=by rw [←hdk,jy]
    obtain ⟨wk,hwk⟩:∃ wk,wS k=wk:=⟨_,rfl⟩
    have hsum:(⟨#[91]⟩:ByteArray)++dk++⟨#[93]⟩=wk:=by rw [←hwk,←hdk];rfl
    rw [hwk] at hws hp;rw [hdk] at HD;have HK:=lh hwk
    have o1:¬9223372036854775807<(⟨#[91]⟩:ByteArray).size+dk.size:=by rw [show (⟨#[91]⟩:ByteArray).size=1 from rfl,hds];omega
    have o2:¬9223372036854775807<((⟨#[91]⟩:ByteArray)++dk).size+(⟨#[93]⟩:ByteArray).size:=by rw [ByteArray.size_append,show (⟨#[91]⟩:ByteArray).size=1 from rfl,show (⟨#[93]⟩:ByteArray).size=1 from rfl,hds];omega
    have HDS:=lh hds;have HWS:=lh hws;clear hwk hdk hds hd2
    by_cases hle:wk.size≤s.size
    · have kl:decide ((wk.size:Int)≤(s.size:Nat))=true:=by simp;omega
      have hsl:∀ wx,(Instr.slice 9 (.string s) none (some (.int .i64 (wk.size:Nat))) none).run Tryz.prog wx=.ok (.string (s.extract 0 wk.size)) wx:=fun wx=>run_slice_string_h wx 9 s Tryz.underlying9 .i64 (wk.size:Nat) (by omega) (by omega);have hsr:∀ wx,(Instr.slice 9 (.string s) (some (.int .i64 (wk.size:Nat))) none none).run Tryz.prog wx=.ok (.string (s.extract wk.size s.size)) wx:=fun wx=>run_slice_string_l wx 9 s Tryz.underlying9 .i64 (wk.size:Nat) (by omega) (by omega);obtain ⟨q,hq⟩:∃ q,((s.extract 0 wk.size).toList==wk.toList)=q:=⟨_,rfl⟩;rw [decide_eq_true hle,hq] at hp
      cases q
      · have HP:=lh (show pS s k=false from hp);clear hp hws;go_wp2_with (go_at_call 137;refine (HD.out _).mono ?_;rintro e w1 ⟨rfl,hb1⟩);go_roundw
        case measure=>simp [intOf];omega
        case rel=>exact ⟨k+1,by omega,by go_num,lh (ji H.out HP.out),hbl.trans (hb1.mono hbl.size)⟩
      · have HP:=lh (show pS s k=true from hp);clear hp hws;go_wp2_with (go_at_call 137;refine (HD.out _).mono ?_;rintro e w1 ⟨rfl,hb1⟩)
        go_quiet (fail)
        go_wp2
        go_ret3
        have e:elemK s=k:=qr H.out hlt HP.out;exact ⟨by unfold elemV;rw [e,if_pos hlt,HK.out];rfl,jf (hbl.trans (hb1.mono hbl.size)) _⟩
    · have kl:decide ((wk.size:Int)≤(s.size:Nat))=false:=decide_eq_false (by omega);have HP:=lh (show pS s k=false by rw [hp,decide_eq_false hle];rfl);clear hp hws;go_wp2_with (go_at_call 137;refine (HD.out _).mono ?_;rintro e w1 ⟨rfl,hb1⟩);go_roundw
      case measure=>simp [intOf];omega
      case rel=>exact ⟨k+1,by omega,by go_num,lh (ji H.out HP.out),hbl.trans (hb1.mono hbl.size)⟩
  · obtain rfl:k=100:=by omega
    go_wp2
    go_ret3
    have e:elemK s=100:=kp H.out;exact ⟨by unfold elemV;rw [e,if_neg (by omega)];rfl,hbl⟩
theorem jgr:∀ n,n<100→qx (bs (Lib.decDigits n))=true∧Xm (bs (Lib.decDigits n))=(n:Int)∧(93:UInt8) ∉ Lib.decDigits n:=by decide+kernel
theorem jsv:∀ n,n<10→Lib.decDigits n=[UInt8.ofNat (48+n)]:=by decide+kernel
theorem js9:∀ n,n<100→10≤n→Lib.decDigits n=[UInt8.ofNat (48+n / 10),UInt8.ofNat (48+n % 10)]:=by decide+kernel
theorem jl4 {d:ByteArray} (h:qx d=true):∃ n,n<100∧Lib.decDigits n=d.data.toList∧Xm d=(n:Int):=by
 have dg:∀ c,isDg c=true→48≤c∧c≤57:=fun c h=>by simpa [isDg] using h
 obtain ⟨l,hl⟩:∃ l,d.data.toList=l:=⟨_,rfl⟩
 have hz:d.size=l.length:=by rw [←hl];simp
 have hc:∀ i,charAt d i=(l.getD i 0).toNat:=fun i=>by unfold charAt;rw [hl]
 rw [hl];unfold qx at h;unfold Xm;simp only [hc] at h ⊢;rw [hz] at h ⊢
 match l,h with
 | [a],h=>
   have h0:=dg _ (by simpa using h);refine ⟨a.toNat - 48,by omega,?_,by simp;omega⟩;rw [jsv _ (by omega)]
   congr 1
   rw [show 48+(a.toNat - 48)=a.toNat by omega];exact UInt8.ofNat_toNat
 | [a,b],h=>
   have hh:(isDg a.toNat=true∧isDg b.toNat=true)∧a.toNat≠48:=by simpa using h
   have h1:=dg _ hh.1.1;have h2:=dg _ hh.1.2;refine ⟨(a.toNat - 48)*10+(b.toNat - 48),by omega,?_,by simp;omega⟩;rw [js9 _ (by omega) (by omega)]
   have e1:48+((a.toNat - 48)*10+(b.toNat - 48)) / 10=a.toNat:=by omega
   have e2:48+((a.toNat - 48)*10+(b.toNat - 48)) % 10=b.toNat:=by omega
   rw [e1,e2,UInt8.ofNat_toNat,UInt8.ofNat_toNat]
 | [],h=>simp at h
 |a::b::c::r,h=>simp at h
theorem Xb (s:ByteArray) (i j:Nat):(s.extract i j).data.toList=(s.data.toList.take j).drop i:=by
 rw [ByteArray.data_extract];simp [List.drop_take]
theorem jl1 (n:Nat):(wS n).data.toList=91::(Lib.decDigits n++[93]):=by
 unfold wS bs;simp [ByteArray.data_append]
theorem jej (s:ByteArray) (n:Nat):pS s n=true↔∃ t,s.data.toList=91::(Lib.decDigits n++93::t):=by
 unfold pS;rw [Bool.and_eq_true,decide_eq_true_eq,beq_iff_eq,ByteArray.toList_eq,ByteArray.toList_eq,Xb,jl1,List.drop_zero]
 have hz:(wS n).size=(91::(Lib.decDigits n++[93])).length:=by rw [←jl1];simp
 have hs:s.size=s.data.toList.length:=by simp
 rw [hz,hs]
 constructor
 · rintro ⟨h1,h2⟩;refine ⟨s.data.toList.drop (91::(Lib.decDigits n++[93])).length,?_⟩
   conv=>lhs;rw [←List.take_append_drop (91::(Lib.decDigits n++[93])).length s.data.toList,h2]
   simp
 · rintro ⟨t,h⟩;rw [h];refine ⟨by simp,?_⟩
   have:(91::(Lib.decDigits n++93::t))=(91::(Lib.decDigits n++[93]))++t:=by simp
   rw [this,List.take_left]
theorem Ys {D t:List UInt8} {c:UInt8} (h:c ∉ D):Lib.indexByte (D++c::t) c=(D.length:Int):=by
 induction D with
 |nil=>simp [Lib.indexByte]
 |cons a D ih=>
  simp only [List.mem_cons,not_or] at h;have h1:=ih h.2;simp only [List.cons_append,Lib.indexByte];rw [if_neg (by simpa using fun e=>h.1 e.symm),h1,if_neg (by simp)];simp
theorem jhy {l:List UInt8} {c:UInt8} (h:¬Lib.indexByte l c<0):∃ t,l=l.take (Lib.indexByte l c).toNat++c::t:=by
 induction l with
 |nil=>simp [Lib.indexByte] at h
 |cons a l ih=>
  simp only [Lib.indexByte] at h ⊢
  by_cases ha:(a==c)=true
  · rw [if_pos ha]
    have:a=c:=by simpa using ha
    exact ⟨l,by simp [this]⟩
  · rw [if_neg ha] at h ⊢
    by_cases hm:(Lib.indexByte l c==-1)=true
    · rw [if_pos hm] at h;exact absurd (by decide) h
    · rw [if_neg hm] at h ⊢;have hge:=Lib.indexByte_ge l c
      have hne:Lib.indexByte l c≠-1:=by simpa using hm
      obtain ⟨t,ht⟩:=ih (by omega);refine ⟨t,?_⟩;rw [show (Lib.indexByte l c+1).toNat=(Lib.indexByte l c).toNat+1 by omega,List.take_succ_cons,List.cons_append,←ht]
theorem Zo {r:ByteArray} {c:Nat} (hc:c≠0) (h0:charAt r 0=c):∃ a l,r.data.toList=a::l∧a.toNat=c∧(r.extract 1 r.size).data.toList=l:=by
 have hz:r.size=r.data.toList.length:=by simp
 have he:=Xb r 1 r.size;unfold charAt at h0;rw [hz] at he ⊢
 match hl:r.data.toList with
 | []=>rw [hl] at h0;simp at h0;omega
 |a::l=>
  rw [hl] at h0 he;exact ⟨a,l,rfl,by simpa using h0,by rw [he];simp⟩
theorem u91 {a:UInt8} {c:Nat} (h:a.toNat=c) (hc:c<256):a=UInt8.ofNat c:=by rw [←h,UInt8.ofNat_toNat]
theorem jua {r:ByteArray} {i m:Nat} (hi:i<100) (hm:m<100) (h1:pS r i=true) (h2:pS r m=true):i=m:=by
 obtain ⟨t,ht⟩:=(jej r i).1 h1;obtain ⟨u,hu⟩:=(jej r m).1 h2;obtain ⟨a1,a2,a3⟩:=jgr i hi;obtain ⟨b1,b2,b3⟩:=jgr m hm;rw [ht] at hu
 have e:Lib.decDigits i++93::t=Lib.decDigits m++93::u:=by injection hu
 have k1:=Ys (t:=t) a3;have k2:=Ys (t:=u) b3;rw [e,k2] at k1
 have e2:Lib.decDigits i=Lib.decDigits m:=by
  have:=congrArg (List.take (Lib.decDigits i).length) e
  rw [List.take_left,show (Lib.decDigits i).length=(Lib.decDigits m).length by omega,List.take_left] at this;exact this
 rw [e2,b2] at a2;omega
theorem jpd {r:ByteArray} {x:PieceV} {n:Nat} (h0:charAt r 0=91) (h:elemP r=(x,n)) (hn:n≠0):elemK r<100∧x=⟨true,(elemK r:Nat),⟨#[]⟩⟩∧n=(wS (elemK r)).size:=by
 obtain ⟨a,l,hl,ha,hx⟩:=Zo (by decide) h0;have ha':a=91:=u91 ha (by decide);unfold elemP at h
 split at h
 · injection h with h1 h2;omega
 · rename_i hcz
   split at h
   · rename_i hok
     injection h with h1 h2
     obtain ⟨m,hm,hd,hv⟩:=jl4 hok;unfold closeZ at hcz;rw [hx] at hcz;obtain ⟨t,ht⟩:=jhy hcz
     have hdl:(digS r).data.toList=l.take (Lib.indexByte l 93).toNat:=by
      unfold digS closeZ;rw [Xb,hx,List.drop_zero]
     have hp:pS r m=true:=(jej r m).2 ⟨t,by rw [hl,ha',hd,hdl];congr 1⟩
     have hk:elemK r=m:=qr (fun i hi=>by
      cases hpi:pS r i
      · rfl
      · exact absurd (jua (by omega) hm hpi hp) (by omega)) hm hp
     refine ⟨by omega,by rw [hk,←h1,hv],?_⟩;rw [hk,jlm hm,←h2,hd];simp
   · injection h with h1 h2;omega
theorem jnv {r:ByteArray} {x:PieceV} (h0:charAt r 0=91) (h:elemP r=(x,0)):elemK r=100:=by
 obtain ⟨a,l,hl,ha,hx⟩:=Zo (by decide) h0;refine kp fun i hi=>?_
 cases hpi:pS r i
 · rfl
 · exfalso
   obtain ⟨t,ht⟩:=(jej r i).1 hpi;obtain ⟨a1,a2,a3⟩:=jgr i hi;rw [hl] at ht
   have hl2:l=Lib.decDigits i++93::t:=by injection ht
   have hz:closeZ r=((Lib.decDigits i).length:Int):=by unfold closeZ;rw [hx,hl2];exact Ys a3
   have hdl:digS r=bs (Lib.decDigits i):=by
    apply ByteArray.ext
    apply Array.ext'
    unfold digS;rw [Xb,hx,hz,Int.toNat_natCast,List.drop_zero,hl2,List.take_left]
    rfl
   unfold elemP at h;rw [if_neg (by omega),hdl,if_pos a1] at h
   injection h with h1 h2
   omega
theorem ji9 {r:ByteArray} (h0:charAt r 0≠91):elemK r=100:=by
 refine kp fun i hi=>?_
 cases hpi:pS r i
 · rfl
 · exfalso
   obtain ⟨t,ht⟩:=(jej r i).1 hpi
   apply h0
   unfold charAt;rw [ht]
   rfl
def rpieceS (r:ByteArray) (nz:Bool):Option (PieceV × ByteArray):=
 if elemK r<100 then some (⟨true,(elemK r:Nat),⟨#[]⟩⟩,r.extract (wS (elemK r)).size r.size)
 else if nz&&decide (charAt r 0≠46) then none
 else if leadN (if nz then r.extract 1 r.size else r)=0 then none
 else some (⟨false,0,(if nz then r.extract 1 r.size else r).extract 0 (leadN (if nz then r.extract 1 r.size else r))⟩,(if nz then r.extract 1 r.size else r).extract (leadN (if nz then r.extract 1 r.size else r)) (if nz then r.extract 1 r.size else r).size)
theorem jk6 (r:ByteArray):itemR r ⟨#[]⟩=r:=by
 unfold itemR Lib.trimPrefix Lib.hasPrefix
 apply ByteArray.ext
 simp
theorem jqt {r:ByteArray} (h0:charAt r 0=91):leadN r=0:=by
 obtain ⟨a,l,hl,ha,hx⟩:=Zo (by decide) h0
 have hz:0<r.size:=by have:r.size=r.data.toList.length:=by simp
                      rw [this,hl];simp
 refine qr (fun i hi=>absurd hi (Nat.not_lt_zero _)) hz ?_;unfold badAt;rw [h0]
 decide
theorem jly (s:ByteArray) (a b:Nat):(s.extract a s.size).extract b (s.extract a s.size).size=s.extract (a+b) s.size:=by
 apply ByteArray.ext
 apply Array.ext'
 rw [Xb,Xb,Xb]
 have h1:(s.extract a s.size).size=(s.data.toList.drop a).length:=by simp
 have h2:s.size=s.data.toList.length:=by simp
 rw [h1,h2,List.take_length,List.take_length,List.drop_drop]
theorem jhl {r:ByteArray} {nz:Bool} {x:PieceV} {n:Nat} (hl:leadP r (!nz)=(x,n)):rpieceS r nz=if n=0 then none else some (x,r.extract n r.size):=by
 unfold leadP at hl
 by_cases h0:charAt r 0=91
 · rw [if_pos h0] at hl;unfold rpieceS
   by_cases hn:n=0
   · subst hn;rw [jnv h0 hl,if_neg (by omega),if_pos rfl]
     cases nz
     · simp [jqt h0]
     · simp [h0]
   · obtain ⟨h1,h2,h3⟩:=jpd h0 hl hn;rw [if_pos h1,if_neg hn,h2,h3]
 · rw [if_neg h0] at hl;unfold rpieceS;rw [ji9 h0,if_neg (by omega)]
   cases nz
   · simp only [Bool.not_false,if_true] at hl;unfold itemP at hl;rw [jk6] at hl;simp only [Bool.false_and,Bool.false_eq_true,if_false]
     by_cases hk:leadN r=0
     · rw [if_neg (by simp [hk])] at hl
       injection hl with h1 h2
       rw [if_pos hk,if_pos h2.symm]
     · rw [if_pos (by simp [hk,Lib.hasPrefix])] at hl
       injection hl with h1 h2
       have h3:n=leadN r:=by rw [←h2];simp [ByteArray.size]
       rw [if_neg hk,if_neg (by omega),←h1,h3]
   · simp only [Bool.not_true,Bool.false_eq_true,if_false] at hl
     by_cases h46:charAt r 0=46
     · obtain ⟨a,l,hl',ha,hx⟩:=Zo (by decide) h46;have ha':a=46:=u91 ha (by decide)
       have hir:itemR r dotS=r.extract 1 r.size:=by
        apply ByteArray.ext
        apply Array.ext'
        rw [hx];unfold itemR Lib.trimPrefix Lib.hasPrefix dotS;rw [hl',ha'];simp
       have hpx:Lib.hasPrefix r.data.toList dotS.data.toList=true:=by
        unfold Lib.hasPrefix dotS;rw [hl',ha'];simp
       unfold itemP at hl;rw [hir,hpx] at hl;simp only [h46,Bool.true_and,ne_eq,not_true_eq_false,decide_false,Bool.false_eq_true,if_false,if_true]
       by_cases hk:leadN (r.extract 1 r.size)=0
       · have h9:decide (leadN (r.extract 1 r.size)≠0)=false:=by simp [hk]
         rw [h9,Bool.and_false,if_neg (by decide)] at hl;obtain ⟨h1,h2⟩:=Prod.mk.inj hl;rw [if_pos hk,if_pos h2.symm]
       · have h9:decide (leadN (r.extract 1 r.size)≠0)=true:=by simp [hk]
         rw [h9,Bool.and_true,if_pos rfl] at hl;obtain ⟨h1,h2⟩:=Prod.mk.inj hl;have hds:dotS.size=1:=rfl;rw [hds] at h2;have h3:n=1+leadN (r.extract 1 r.size):=h2.symm;rw [if_neg hk,if_neg (by omega),←h1,h3,jly]
     · have hpx:Lib.hasPrefix r.data.toList dotS.data.toList=false:=by
        unfold Lib.hasPrefix dotS
        match hl':r.data.toList with
        | []=>rfl
        |a::l=>
         unfold charAt at h46;rw [hl'] at h46;simp only [List.getD_cons_zero] at h46
         have h5:a≠46:=by rintro rfl;exact h46 rfl
         have h6:(46:UInt8)≠a:=fun e=>h5 e.symm;simp [List.isPrefixOf,h6]
       unfold itemP at hl;rw [hpx] at hl;simp only [Bool.false_and,Bool.false_eq_true,if_false] at hl
       injection hl with h1 h2
       rw [if_pos (by simp [h46]),if_pos h2.symm]
end Go.Proofs.YthcompcjphaahaaGreatDoor.Pa
