/- Lists of types, as the arguments hold them. -/
import Derived.BigQuiet
import Derived.Test.YthcompcjphaahaaGreatDoorh00
import Derived.Test.YthcompcjphaahaaGreatDoorh04
set_option maxRecDepth 100000
set_option maxHeartbeats 8000000
set_option linter.unusedVariables false
namespace Go.Proofs.YthcompcjphaahaaGreatDoor.Pa
open Go.ChangeShapes Go.WideShapes Go.ChangeAt Go.RowKit
structure ItemV where
 name:ByteArray
 num:Int
 type:Int
 key:Bool
 rest:Bool
instance:Inhabited ItemV:=⟨⟨⟨#[]⟩,0,0,false,false⟩⟩
structure TypeV where
 kind:Int
 name:ByteArray
 bound:Int
 of:Int
 tag:Int
 ia:Option Addr
 ilen:Nat
 icap:Nat
 items:Nat→ItemV
instance:Inhabited TypeV:=⟨⟨0,⟨#[]⟩,0,0,0,none,0,0,default⟩⟩
def typV (T:TypeV):Value:=.agg #[.int .i64 T.kind,.string T.name,.int .i64 T.bound,.int .i64 T.of,.int .i64 T.tag,.slice T.ia T.ilen T.icap]
def itmV (x:ItemV):Value:=.agg #[.string x.name,.int .u64 x.num,.int .i64 x.type,.bool x.key,.bool x.rest]
def ItemWf (x:ItemV):Prop:=(Lit.int .u64 x.num).wf=true∧(Lit.int .i64 x.type).wf=true∧x.name.size≤140737488351232
def ItemAt (w:World) (ao:Option Addr) (i:Nat) (x:ItemV):Prop:=
 ∃ b off,ao=some ⟨b,off,none⟩∧w.cell? ⟨b,off+i*5,none⟩=some (.string x.name)∧w.cell? ⟨b,off+i*5+1,none⟩=some (.int .u64 x.num)∧w.cell? ⟨b,off+i*5+2,none⟩=some (.int .i64 x.type)∧
   w.cell? ⟨b,off+i*5+3,none⟩=some (.bool x.key)∧w.cell? ⟨b,off+i*5+4,none⟩=some (.bool x.rest)∧ItemWf x
theorem jk {w w1:World} {a:Addr} {v:Value} (hb:Below w.heap.size w w1) (h:w.cell? a=some v):w1.cell? a=some v:=(hb.cell (World.block_lt_of_cell? w _ h)).trans h
theorem ItemAt.held {w w1:World} {ao:Option Addr} {i:Nat} {x:ItemV} (h:ItemAt w ao i x) (hb:Below w.heap.size w w1):ItemAt w1 ao i x:=by
 obtain ⟨b,off,e,h0,h1,h2,h3,h4,r⟩:=h;exact ⟨b,off,e,jk hb h0,jk hb h1,jk hb h2,jk hb h3,jk hb h4,r⟩
def ItemsAt (w:World) (T:TypeV):Prop:=T.ilen≤3518437208780∧∀ j,j<T.ilen→ItemAt w T.ia j (T.items j)
theorem ItemsAt.held {w w1:World} {T:TypeV} (h:ItemsAt w T) (hb:Below w.heap.size w w1):ItemsAt w1 T:=⟨h.1,fun j hj=>(h.2 j hj).held hb⟩
def TypeWf (T:TypeV):Prop:=(Lit.int .i64 T.kind).wf=true∧(Lit.int .i64 T.bound).wf=true∧(Lit.int .i64 T.of).wf=true∧(Lit.int .i64 T.tag).wf=true∧T.name.size≤140737488351232
def TypeAt (w:World) (ao:Option Addr) (i:Nat) (T:TypeV):Prop:=
 ∃ b off,ao=some ⟨b,off,none⟩∧w.cell? ⟨b,off+i*6,none⟩=some (.int .i64 T.kind)∧w.cell? ⟨b,off+i*6+1,none⟩=some (.string T.name)∧w.cell? ⟨b,off+i*6+2,none⟩=some (.int .i64 T.bound)∧w.cell? ⟨b,off+i*6+3,none⟩=some (.int .i64 T.of)∧
   w.cell? ⟨b,off+i*6+4,none⟩=some (.int .i64 T.tag)∧w.cell? ⟨b,off+i*6+5,none⟩=some (.slice T.ia T.ilen T.icap)∧TypeWf T∧ItemsAt w T
theorem TypeAt.held {w w1:World} {ao:Option Addr} {i:Nat} {T:TypeV} (h:TypeAt w ao i T) (hb:Below w.heap.size w w1):TypeAt w1 ao i T:=by
 obtain ⟨b,off,e,h0,h1,h2,h3,h4,h5,r,hi⟩:=h;exact ⟨b,off,e,jk hb h0,jk hb h1,jk hb h2,jk hb h3,jk hb h4,jk hb h5,r,hi.held hb⟩
section
variable {H:Type} {enc:TypeId × Value→H} {w:World}
theorem jry {v:Value} (h:[v]=[.slice none 0 0]∨∃ (a:Addr) (len cap:Nat),[v]=[.slice (some a) len cap]∧len≤cap∧cap≤maxLen∧cap*Tryz.prog.bytesOf 60≤140737488351232∧
   ∀ i,i<cap→∃ c:List Value,w.cells? 0 (a.add (i*5)) 5=some c∧Rdg enc Tryz.prog w 60 c):
  ∃ (ao:Option Addr) (len cap:Nat) (L:Nat→ItemV),v=.slice ao len cap∧len≤3518437208780∧∀ i,i<len→ItemAt w ao i (L i):=by
 rcases h with e|⟨a,len,cap,e,hl,hm,hby,hx⟩
 · obtain rfl:v=.slice none 0 0:=by simpa using e
   exact ⟨none,0,0,default,rfl,Nat.zero_le _,fun i hi=>by omega⟩
 · obtain rfl:v=.slice (some a) len cap:=by simpa using e
   have hq:∀ i,i<len→∃ p,ItemAt w (some a) i p:=by
    intro i hi;obtain ⟨b,off,rfl,hc⟩:=jij (by omega) (by omega) hx;obtain ⟨c,hcl,hat,hr⟩:=hc i (by omega);obtain ⟨x0,e0,w0⟩:=Yq Tryz.underlying9 (qe Tryz.underlying60 hr 0 9 0 1 rfl (by kernel_rfl));obtain ⟨x1,e1,w1⟩:=yl Tryz.underlying27 (qe Tryz.underlying60 hr 1 27 1 1 rfl (by kernel_rfl));obtain ⟨x2,e2,w2⟩:=yl Tryz.underlying3 (qe Tryz.underlying60 hr 2 3 2 1 rfl (by kernel_rfl));obtain ⟨x3,e3⟩:=jea Tryz.underlying4 (qe Tryz.underlying60 hr 3 4 3 1 rfl (by kernel_rfl));obtain ⟨x4,e4⟩:=jea Tryz.underlying4 (qe Tryz.underlying60 hr 4 4 4 1 rfl (by kernel_rfl))
    match c,hcl with
    | [c0,c1,c2,c3,c4],_=>
      simp at e0 e1 e2 e3 e4;subst e0 e1 e2 e3 e4;exact ⟨⟨x0,x1,x2,x3,x4⟩,b,off,rfl,hat 0 (by omega),hat 1 (by omega),hat 2 (by omega),hat 3 (by omega),hat 4 (by omega),w1,w2,w0⟩
   obtain ⟨L,hL⟩:=skolem hq;refine ⟨some a,len,cap,L,rfl,?_,hL⟩
   have hz:Tryz.prog.bytesOf 60=40:=by kernel_rfl
   rw [hz] at hby
   omega
end
end Go.Proofs.YthcompcjphaahaaGreatDoor.Pa
namespace Go.Proofs.YthcompcjphaahaaGreatDoor.Pa
open Go.RowKit
def namedK (k:Int):Bool:=k==9||k==13||k==14
theorem zf (k:Int) (w:World):Calls Tryz.prog 72 #[.int .i64 k] w fun e w'=>e=.returned (.bool (namedK k))∧w=w':=by
 go_enter Tryz.func72,Tryz.ntmps72;go_wp2
 all_goals
  go_ret;refine ⟨qk ?_,rfl⟩;rw [Bool.eq_iff_iff];simp [namedK, *]
theorem jo {k:IntKind} {a b:Int} (h:a=b):Ending.returned (.int k a)=.returned (.int k b):=by rw [h]
def inL (len:Nat) (t:Int):Bool:=decide (0≤t)&&decide (t<len)
def itemZ (T:TypeV) (s:ByteArray):Int:=if namedK T.kind then firstZ (fun j=>(T.items j).name.toList==s.toList) T.ilen else -1
def itemL (L:Nat→TypeV) (len:Nat) (t:Int) (s:ByteArray):Int:=if inL len t then itemZ (L t.toNat) s else -1
def valueZ (T:TypeV) (n:Int):Int:=if T.kind=9 then firstZ (fun j=>(T.items j).num==n) T.ilen else -1
def valueL (L:Nat→TypeV) (len:Nat) (t n:Int):Int:=if inL len t then valueZ (L t.toNat) n else -1
def tagB (T:TypeV) (n:Int) (j:Nat):Bool:=!(T.items j).rest&&((T.items j).num==n)
def branchZ (T:TypeV) (n:Int):Int:=if T.kind=14 then (if firstN (tagB T n) T.ilen<T.ilen then (firstN (tagB T n) T.ilen:Nat) else firstZ (fun j=>(T.items j).rest) T.ilen) else -1
def branchL (L:Nat→TypeV) (len:Nat) (t n:Int):Int:=if inL len t then branchZ (L t.toNat) n else -1
theorem za {len:Nat} {t:Int} (h:¬(0≤t∧t<len)):inL len t=false:=by unfold inL;simp;omega
theorem k8 {len:Nat} {k:Nat} (h:k<len):inL len (k:Nat)=true:=by unfold inL;simp;exact h
theorem jbz (ao:Option Addr) (len cap:Nat) (L:Nat→TypeV) (t:Int) (s:ByteArray) (hlen:len≤140737488351232) (w:World) (H:∀ i,i<len→TypeAt w ao i (L i)):
  Calls Tryz.prog 56 #[.slice ao len cap,.int .i64 t,.string s] w fun e w'=>e=.returned (.int .i64 (itemL L len t s))∧w=w':=by
 have HH:=lh H;clear H
 by_cases ht:0≤t∧t<len
 · obtain ⟨h0,h1⟩:=ht;obtain ⟨k,rfl⟩:=Int.eq_ofNat_of_zero_le h0
   have hk:k<len:=by omega
   have e0:itemL L len (k:Nat) s=itemZ (L k) s:=by unfold itemL;rw [k8 hk];rfl
   rw [e0];obtain ⟨b,off,rfl,c0,c1,c2,c3,c4,c5,wf,hi⟩:=HH.out k hk
   have hn0:decide ((k:Int)<0)=false:=by simp
   have hn1:decide ((len:Int)≤k)=false:=by simp;omega
   cases hn:namedK (L k).kind with
   |false=>
    have e1:itemZ (L k) s=-1:=by unfold itemZ;rw [hn];rfl
    rw [e1];go_enter Tryz.func56,Tryz.ntmps56;go_wp2_with (go_at_call 72;refine (zf _ _).mono ?_;rintro e w' ⟨rfl,rfl⟩);go_ret;exact ⟨rfl,rfl⟩
   |true=>
    have e1:itemZ (L k) s=firstZ (fun j=>((L k).items j).name.toList==s.toList) (L k).ilen:=by unfold itemZ;rw [hn];rfl
    rw [e1];obtain ⟨hil,hit⟩:=hi;have HI:=lh hit;clear hit;go_enter Tryz.func56,Tryz.ntmps56;go_wp2_with (go_at_call 72;refine (zf _ _).mono ?_;rintro e w' ⟨rfl,rfl⟩)
    go_loopw [7] (fun i wr=>∃ j:Nat,j≤(L k).ilen∧i=.int .i64 j∧Hid (∀ m,m<j→(((L k).items m).name.toList==s.toList)=false)∧wr=w) (fun i _=>(L k).ilen - (intOf i).toNat)
    case atStart=>exact ⟨0,by omega,rfl,lh fun m hm=>by omega,rfl⟩
    case round=>
     obtain ⟨j,hj,rfl,H,rfl⟩:=hrel
     by_cases hlt:j<(L k).ilen
     · obtain ⟨b',off',hia,d0,d1,d2,d3,d4,wi⟩:=HI.out j hlt;rw [hia] at c5
       cases hq:(((L k).items j).name.toList==s.toList) with
       |false=>
        have HN:=lh (ji (p:=fun m=>((L k).items m).name.toList==s.toList) H.out hq);go_wp2;go_roundw
        case measure=>simp [intOf];omega
        case rel=>exact ⟨j+1,by omega,by go_num,HN,by first|rfl|trivial⟩
       |true=>
        have HN:=lh (ys (p:=fun m=>((L k).items m).name.toList==s.toList) H.out hlt hq);go_wp2;go_ret;exact ⟨jo HN.out.symm,by first|rfl|trivial⟩
     · have HN:=lh (yd (p:=fun m=>((L k).items m).name.toList==s.toList) (n:=(L k).ilen) (fun m hm=>H.out m (by omega)));go_wp2;go_ret;exact ⟨jo HN.out.symm,by first|rfl|trivial⟩
 · have e0:itemL L len t s=-1:=by unfold itemL;rw [za ht];rfl
   rw [e0]
   by_cases h0:0≤t
   · have hn0:decide (t<0)=false:=by simp;omega
     have hn1:decide ((len:Int)≤t)=true:=by simp;omega
     go_enter Tryz.func56,Tryz.ntmps56;go_wp2;go_ret;exact ⟨rfl,rfl⟩
   · have hn0:decide (t<0)=true:=by simp;omega
     go_enter Tryz.func56,Tryz.ntmps56;go_wp2;go_ret;exact ⟨rfl,rfl⟩
theorem jav (ao:Option Addr) (len cap:Nat) (L:Nat→TypeV) (t n:Int) (hlen:len≤140737488351232) (w:World) (H:∀ i,i<len→TypeAt w ao i (L i)):
  Calls Tryz.prog 77 #[.slice ao len cap,.int .i64 t,.int .u64 n] w fun e w'=>e=.returned (.int .i64 (valueL L len t n))∧w=w':=by
 have HH:=lh H;clear H
 by_cases ht:0≤t∧t<len
 · obtain ⟨h0,h1⟩:=ht;obtain ⟨k,rfl⟩:=Int.eq_ofNat_of_zero_le h0
   have hk:k<len:=by omega
   have e0:valueL L len (k:Nat) n=valueZ (L k) n:=by unfold valueL;rw [k8 hk];rfl
   rw [e0];obtain ⟨b,off,rfl,c0,c1,c2,c3,c4,c5,wf,hi⟩:=HH.out k hk
   have hn0:decide ((k:Int)<0)=false:=by simp
   have hn1:decide ((len:Int)≤k)=false:=by simp;omega
   cases hn:((L k).kind==9) with
   |false=>
    have hn2:((L k).kind !=9)=true:=by simpa using hn
    have e1:valueZ (L k) n=-1:=by unfold valueZ;simp_all
    rw [e1];go_enter Tryz.func77,Tryz.ntmps77;go_wp2;go_ret;exact ⟨rfl,rfl⟩
   |true=>
    have hn2:((L k).kind !=9)=false:=by simpa using hn
    have e1:valueZ (L k) n=firstZ (fun j=>((L k).items j).num==n) (L k).ilen:=by unfold valueZ;simp_all
    rw [e1];obtain ⟨hil,hit⟩:=hi;have HI:=lh hit;clear hit;go_enter Tryz.func77,Tryz.ntmps77;go_wp2
    go_loopw [7] (fun i wr=>∃ j:Nat,j≤(L k).ilen∧i=.int .i64 j∧Hid (∀ m,m<j→(((L k).items m).num==n)=false)∧wr=w) (fun i _=>(L k).ilen - (intOf i).toNat)
    case atStart=>exact ⟨0,by omega,rfl,lh fun m hm=>by omega,rfl⟩
    case round=>
     obtain ⟨j,hj,rfl,H,rfl⟩:=hrel
     by_cases hlt:j<(L k).ilen
     · obtain ⟨b',off',hia,d0,d1,d2,d3,d4,wi⟩:=HI.out j hlt;rw [hia] at c5
       cases hq:(((L k).items j).num==n) with
       |false=>
        have HN:=lh (ji (p:=fun m=>((L k).items m).num==n) H.out hq);go_wp2;go_roundw
        case measure=>simp [intOf];omega
        case rel=>exact ⟨j+1,by omega,by go_num,HN,by first|rfl|trivial⟩
       |true=>
        have HN:=lh (ys (p:=fun m=>((L k).items m).num==n) H.out hlt hq);go_wp2;go_ret;exact ⟨jo HN.out.symm,by first|rfl|trivial⟩
     · have HN:=lh (yd (p:=fun m=>((L k).items m).num==n) (n:=(L k).ilen) (fun m hm=>H.out m (by omega)));go_wp2;go_ret;exact ⟨jo HN.out.symm,by first|rfl|trivial⟩
 · have e0:valueL L len t n=-1:=by unfold valueL;rw [za ht];rfl
   rw [e0]
   by_cases h0:0≤t
   · have hn0:decide (t<0)=false:=by simp;omega
     have hn1:decide ((len:Int)≤t)=true:=by simp;omega
     go_enter Tryz.func77,Tryz.ntmps77;go_wp2;go_ret;exact ⟨rfl,rfl⟩
   · have hn0:decide (t<0)=true:=by simp;omega
     go_enter Tryz.func77,Tryz.ntmps77;go_wp2;go_ret;exact ⟨rfl,rfl⟩
theorem jjs (p:Nat→Bool) (j:Nat) (h:p j=true):firstZ p (j+1)=if firstZ p j<0 then ((j:Nat):Int) else firstZ p j:=by
 rcases ky p j with ⟨k,hk,e,h1,h2⟩|⟨e,h1⟩
 · rw [e,if_neg (by omega)];exact ys h2 (by omega) h1
 · rw [e,if_pos (by decide)];exact ys h1 (Nat.lt_succ_self _) h
theorem jj4 (p:Nat→Bool) (j:Nat) (h:p j=false):firstZ p (j+1)=firstZ p j:=by
 rcases ky p j with ⟨k,hk,e,h1,h2⟩|⟨e,h1⟩
 · rw [e];exact ys h2 (by omega) h1
 · rw [e];exact yd (ji h1 h)
theorem Zz (ao:Option Addr) (len cap:Nat) (L:Nat→TypeV) (t n:Int) (hlen:len≤140737488351232) (w:World) (H:∀ i,i<len→TypeAt w ao i (L i)):
  Calls Tryz.prog 60 #[.slice ao len cap,.int .i64 t,.int .u64 n] w fun e w'=>e=.returned (.int .i64 (branchL L len t n))∧w=w':=by
 have HH:=lh H;clear H
 by_cases ht:0≤t∧t<len
 · obtain ⟨h0,h1⟩:=ht;obtain ⟨k,rfl⟩:=Int.eq_ofNat_of_zero_le h0
   have hk:k<len:=by omega
   have e0:branchL L len (k:Nat) n=branchZ (L k) n:=by unfold branchL;rw [k8 hk];rfl
   rw [e0];obtain ⟨b,off,rfl,c0,c1,c2,c3,c4,c5,wf,hi⟩:=HH.out k hk
   have hn0:decide ((k:Int)<0)=false:=by simp
   have hn1:decide ((len:Int)≤k)=false:=by simp;omega
   cases hn:((L k).kind==14) with
   |false=>
    have hn2:((L k).kind !=14)=true:=by simpa using hn
    have e1:branchZ (L k) n=-1:=by unfold branchZ;simp_all
    rw [e1];go_enter Tryz.func60,Tryz.ntmps60;go_wp2;go_ret;exact ⟨rfl,rfl⟩
   |true=>
    have hn2:((L k).kind !=14)=false:=by simpa using hn
    have e1:branchZ (L k) n=(if firstN (tagB (L k) n) (L k).ilen<(L k).ilen then ((firstN (tagB (L k) n) (L k).ilen:Nat):Int) else firstZ (fun j=>((L k).items j).rest) (L k).ilen):=by unfold branchZ;simp_all
    rw [e1];obtain ⟨hil,hit⟩:=hi;have HI:=lh hit;obtain ⟨R,hR⟩:∃ R,(if firstN (tagB (L k) n) (L k).ilen<(L k).ilen then ((firstN (tagB (L k) n) (L k).ilen:Nat):Int) else firstZ (fun j=>((L k).items j).rest) (L k).ilen)=R:=⟨_,rfl⟩;rw [hR];have HR:=lh hR;clear hit hR e1 e0;go_enter Tryz.func60,Tryz.ntmps60;go_wp2
    go_loopw [7,8] (fun q i wr=>∃ (j:Nat) (r:Int),j≤(L k).ilen∧i=.int .i64 j∧q=.int .i64 r∧Hid (firstZ (fun m=>((L k).items m).rest) j=r)∧Hid (∀ m,m<j→tagB (L k) n m=false)∧wr=w) (fun _ i _=>(L k).ilen - (intOf i).toNat)
    case atStart=>exact ⟨0,-1,by omega,rfl,rfl,lh (yd (fun m hm=>by omega)),lh (fun m hm=>by omega),rfl⟩
    case round=>
     obtain ⟨j,r,hj,rfl,rfl,HF,H,rfl⟩:=hrel
     by_cases hlt:j<(L k).ilen
     · obtain ⟨b',off',hia,d0,d1,d2,d3,d4,wi⟩:=HI.out j hlt;rw [hia] at c5
       cases hrest:((L k).items j).rest with
       |true=>
        rw [hrest] at d4
        have hb:tagB (L k) n j=false:=by unfold tagB;rw [hrest];rfl
        have HN:=lh (ji H.out hb);have hstep:=jjs (fun m=>((L k).items m).rest) j hrest;rw [HF.out] at hstep
        by_cases hr0:r<0
        · rw [if_pos hr0] at hstep;have HS:=lh hstep;clear hstep;go_wp2;go_roundw
          case measure=>simp [intOf];omega
          case rel=>exact ⟨j+1,j,by omega,by go_num,rfl,HS,HN,by first|rfl|trivial⟩
        · rw [if_neg hr0] at hstep;have HS:=lh hstep;clear hstep;go_wp2;go_roundw
          case measure=>simp [intOf];omega
          case rel=>exact ⟨j+1,r,by omega,by go_num,rfl,HS,HN,by first|rfl|trivial⟩
       |false=>
        rw [hrest] at d4;have HS:=lh ((jj4 (fun m=>((L k).items m).rest) j hrest).trans HF.out)
        cases hq:(((L k).items j).num==n) with
        |false=>
         have hb:tagB (L k) n j=false:=by unfold tagB;rw [hrest,hq];rfl
         have HN:=lh (ji H.out hb);go_wp2;go_roundw
         case measure=>simp [intOf];omega
         case rel=>exact ⟨j+1,r,by omega,by go_num,rfl,HS,HN,by first|rfl|trivial⟩
        |true=>
         have hb:tagB (L k) n j=true:=by unfold tagB;rw [hrest,hq];rfl
         have HE:=lh (HR.out.symm.trans (by rw [qr H.out hlt hb,if_pos hlt]:_=((j:Nat):Int)));go_wp2;go_ret;exact ⟨jo HE.out.symm,by first|rfl|trivial⟩
     · obtain rfl:j=(L k).ilen:=by omega
       have HE:=lh (HR.out.symm.trans ((by rw [kp H.out,if_neg (Nat.lt_irrefl _)]:_=firstZ (fun j=>((L k).items j).rest) (L k).ilen).trans HF.out));go_wp2;go_ret;exact ⟨jo HE.out.symm,by first|rfl|trivial⟩
 · have e0:branchL L len t n=-1:=by unfold branchL;rw [za ht];rfl
   rw [e0]
   by_cases h0:0≤t
   · have hn0:decide (t<0)=false:=by simp;omega
     have hn1:decide ((len:Int)≤t)=true:=by simp;omega
     go_enter Tryz.func60,Tryz.ntmps60;go_wp2;go_ret;exact ⟨rfl,rfl⟩
   · have hn0:decide (t<0)=true:=by simp;omega
     go_enter Tryz.func60,Tryz.ntmps60;go_wp2;go_ret;exact ⟨rfl,rfl⟩
def greatN (L:Nat→TypeV):Nat→Int
 |0=>0
 |k+1=>if 1048576<greatN L k+(L k).ilen then 1048576 else greatN L k+(L k).ilen
theorem jfx (L:Nat→TypeV):∀ k,0≤greatN L k∧greatN L k≤1048576
 |0=>⟨Int.le_refl _,by simp [greatN]⟩
 |k+1=>by have:=jfx L k;simp only [greatN];split <;> omega
def greatB (L:Nat→TypeV) (len:Nat):Bool:=decide (100<len)||decide (800<greatN L len)
theorem jbm (ao:Option Addr) (len cap:Nat) (L:Nat→TypeV) (hlen:len≤140737488351232) (w:World) (H:∀ i,i<len→TypeAt w ao i (L i)):
  Calls Tryz.prog 21 #[.slice ao len cap] w fun e w'=>e=.returned (.bool (greatB L len))∧w=w':=by
 have HH:=lh H;clear H;go_enter Tryz.func21,Tryz.ntmps21;go_wp2
 go_loopw [3,4] (fun q i wr=>∃ (k:Nat) (n:Int),k≤len∧i=.int .i64 k∧q=.int .i64 n∧Hid (greatN L k=n)∧0≤n∧n≤1048576∧wr=w) (fun _ i _=>len - (intOf i).toNat)
 case atStart=>exact ⟨0,0,by omega,rfl,rfl,lh rfl,Int.le_refl _,by decide,rfl⟩
 case round=>
  obtain ⟨k,n,hk,rfl,rfl,HG,hn0,hn1,rfl⟩:=hrel
  by_cases hlt:k<len
  · obtain ⟨b,off,rfl,c0,c1,c2,c3,c4,c5,wf,hil,hit⟩:=HH.out k hlt;have HN:=lh (show greatN L (k+1)=if 1048576<n+((L k).ilen:Int) then 1048576 else n+((L k).ilen:Int) by rw [←HG.out];rfl);have HN2:=lh (jfx L (k+1));clear hit;go_wp2;go_roundw
    case measure=>simp [intOf];omega
    case rel=>exact ⟨k+1,_,by omega,by go_num,rfl,HN,HN.out ▸ HN2.out.1,HN.out ▸ HN2.out.2,by first|rfl|trivial⟩
  · obtain rfl:k=len:=by omega
    go_wp2
    all_goals
     go_ret;refine ⟨qk ?_,by first|rfl|trivial⟩;unfold greatB;rw [HG.out,Bool.eq_iff_iff];simp;try omega
end Go.Proofs.YthcompcjphaahaaGreatDoor.Pa
