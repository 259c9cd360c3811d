/- Contract of package types: own. -/
import Derived.Laws.StructEq
import Derived.Deep.RegionHeld3
import Derived.Laws.BytesString
import Derived.Laws.BytesArg
import Derived.Laws.IdiomStrings
import Derived.Laws.BitsAllLaws
import Derived.Test.YthcompcjphaahaaGreatDoorh05
import Derived.Test.YthcompcjphaahaaGreatDoorh15
import Derived.Test.YthcompcjphaahaaGreatDoorh18
set_option maxRecDepth 100000
set_option maxHeartbeats 8000000
set_option linter.unusedVariables false
namespace Go.Proofs.YthcompcjphaahaaGreatDoor.Pa
open Go.RowKit
def ownI (k:Int) (x:ItemV):ItemV:=⟨x.name,if k=9∨(k=14∧x.rest=false) then x.num else 0,if tysK k then x.type else 0,k==13&&x.key,k==14&&x.rest⟩
theorem jgy (k:Int) (x:ItemV) (w:World):Calls Tryz.prog 221 #[.int .i64 k,itmV x] w fun e w'=>e=.returned (itmV (ownI k x))∧Below w.heap.size w w':=by
 unfold itmV
 have hc:k=9∨k=13∨(k=14∧x.rest=false)∨(k=14∧x.rest=true)∨(k≠9∧k≠13∧k≠14):=by
  cases x.rest <;> simp <;> omega
 rcases hc with h|h|⟨h,hr⟩|⟨h,hr⟩|⟨h,h',h''⟩
 · have e:ownI k x=⟨x.name,x.num,0,false,false⟩:=by subst h;simp [ownI,tysK]
   have k1:tysK k=false:=by simp [tysK];omega
   have k2:(k==9)=true:=by simp;omega
   have k3:(k==13)=false:=by simp;omega
   have k4:(k==14)=false:=by simp;omega
   rw [e]
   dsimp only
   clear e;go_enter Tryz.func221,Tryz.ntmps221;go_wp2_with (go_at_call 247;refine (qg _ _).mono ?_;rintro e w' ⟨rfl,rfl⟩)
   go_returns
   exact ⟨rfl,by go_grown⟩
 · have e:ownI k x=⟨x.name,0,x.type,x.key,false⟩:=by subst h;simp [ownI,tysK]
   have k1:tysK k=true:=by simp [tysK];omega
   have k2:(k==9)=false:=by simp;omega
   have k3:(k==13)=true:=by simp;omega
   have k4:(k==14)=false:=by simp;omega
   rw [e]
   dsimp only
   clear e;go_enter Tryz.func221,Tryz.ntmps221;go_wp2_with (go_at_call 247;refine (qg _ _).mono ?_;rintro e w' ⟨rfl,rfl⟩)
   go_returns
   exact ⟨rfl,by go_grown⟩
 · have e:ownI k x=⟨x.name,x.num,x.type,false,false⟩:=by subst h;simp [ownI,tysK,hr]
   have k1:tysK k=true:=by simp [tysK];omega
   have k2:(k==9)=false:=by simp;omega
   have k3:(k==13)=false:=by simp;omega
   have k4:(k==14)=true:=by simp;omega
   rw [e]
   dsimp only
   clear e;go_enter Tryz.func221,Tryz.ntmps221;go_wp2_with (go_at_call 247;refine (qg _ _).mono ?_;rintro e w' ⟨rfl,rfl⟩)
   go_returns
   exact ⟨rfl,by go_grown⟩
 · have e:ownI k x=⟨x.name,0,x.type,false,true⟩:=by subst h;simp [ownI,tysK,hr]
   have k1:tysK k=true:=by simp [tysK];omega
   have k2:(k==9)=false:=by simp;omega
   have k3:(k==13)=false:=by simp;omega
   have k4:(k==14)=true:=by simp;omega
   rw [e]
   dsimp only
   clear e;go_enter Tryz.func221,Tryz.ntmps221;go_wp2_with (go_at_call 247;refine (qg _ _).mono ?_;rintro e w' ⟨rfl,rfl⟩)
   go_returns
   exact ⟨rfl,by go_grown⟩
 · have e:ownI k x=⟨x.name,0,0,false,false⟩:=by simp [ownI,tysK,h,h',h'']
   have k1:tysK k=false:=by simp [tysK];omega
   have k2:(k==9)=false:=by simp;omega
   have k3:(k==13)=false:=by simp;omega
   have k4:(k==14)=false:=by simp;omega
   rw [e]
   dsimp only
   clear e;go_enter Tryz.func221,Tryz.ntmps221;go_wp2_with (go_at_call 247;refine (qg _ _).mono ?_;rintro e w' ⟨rfl,rfl⟩)
   go_returns
   exact ⟨rfl,by go_grown⟩
def subV (T:TypeV) (ao:Option Addr) (len cap:Nat) (at':Nat):Value:=.agg #[.int .i64 T.kind,.string T.name,.int .i64 T.bound,.int .i64 T.of,.int .i64 T.tag,.slice T.ia T.ilen T.icap,.slice ao len cap,.int .i64 at']
def subO (T:TypeV) (ao:Option Addr) (len cap:Nat) (at':Nat):Obj:=.cells #[.int .i64 T.kind,.string T.name,.int .i64 T.bound,.int .i64 T.of,.int .i64 T.tag,.slice T.ia T.ilen T.icap,.slice ao len cap,.int .i64 at'] 210
def ckKind (T:TypeV):Int:=if T.kind<1∨14<T.kind then 4 else 0
def boundBad (T:TypeV):Bool:=boundK T.kind&&(decide (T.bound<if T.kind=10 then 0 else 1)||decide (64<T.bound))
def ckBound (T:TypeV):Int:=if boundBad T then 7 else 0
def ckTag (L:Nat→TypeV) (len:Nat) (T:TypeV):Int:=if T.kind==14&&!numK (kindL L len T.tag) then 8 else 0
def ckCount (T:TypeV):Int:=if namedK T.kind=false then 0 else if T.ilen=0 then 18 else if 16<T.ilen then 3 else 0
def ckDepth (L:Nat→TypeV) (len at':Nat):Int:=if 6<deepL L len (at':Nat) then 9 else 0
theorem jeu (T:TypeV) (ao:Option Addr) (len cap at':Nat) (w:World):Calls Tryz.prog 188 #[subV T ao len cap at'] w fun e w'=>e=.returned (.int .i64 (ckKind T))∧Below w.heap.size w w':=by
 unfold subV
 by_cases h1:T.kind<1
 · have e:ckKind T=4:=by unfold ckKind;rw [if_pos (.inl h1)]
   rw [e];clear e;go_enter Tryz.func188,Tryz.ntmps188;go_wp2;go_ret;exact ⟨rfl,(Below.refl _ _).alloc (Nat.le_refl _) _⟩
 · by_cases h2:14<T.kind
   · have e:ckKind T=4:=by unfold ckKind;rw [if_pos (.inr h2)]
     rw [e];clear e;go_enter Tryz.func188,Tryz.ntmps188;go_wp2;go_ret;exact ⟨rfl,(Below.refl _ _).alloc (Nat.le_refl _) _⟩
   · have e:ckKind T=0:=by unfold ckKind;rw [if_neg (by omega)]
     rw [e];clear e;go_enter Tryz.func188,Tryz.ntmps188;go_wp2;go_ret;exact ⟨rfl,(Below.refl _ _).alloc (Nat.le_refl _) _⟩
theorem jdi (T:TypeV) (ao:Option Addr) (len cap at':Nat) (w:World):Calls Tryz.prog 191 #[subV T ao len cap at'] w fun e w'=>e=.returned (.int .i64 (ckBound T))∧Below w.heap.size w w':=by
 unfold subV;have hE:ckBound T=if boundK T.kind&&(decide (T.bound<if T.kind=10 then 0 else 1)||decide (64<T.bound)) then 7 else 0:=rfl;obtain ⟨b0,hb0⟩:∃ b,boundK T.kind=b:=⟨_,rfl⟩;rw [hb0] at hE
 by_cases h10:T.kind=10
 · have k10:(T.kind==10)=true:=by simpa using h10
   rw [if_pos h10] at hE;have HE:=lh hE;clear hE h10
   cases b0
   all_goals
    go_enter Tryz.func191,Tryz.ntmps191;go_wp2_with (go_at_call 218;refine (Ym _ _).mono ?_;rintro e w' ⟨rfl,rfl⟩)
    all_goals
     go_ret;exact ⟨jo (by rw [HE.out];simp_all),(Below.refl _ _).alloc (Nat.le_refl _) _⟩
 · have k10:(T.kind==10)=false:=by simpa using h10
   rw [if_neg h10] at hE;have HE:=lh hE;clear hE h10
   cases b0
   all_goals
    go_enter Tryz.func191,Tryz.ntmps191;go_wp2_with (go_at_call 218;refine (Ym _ _).mono ?_;rintro e w' ⟨rfl,rfl⟩)
    all_goals
     go_ret;exact ⟨jo (by rw [HE.out];simp_all),(Below.refl _ _).alloc (Nat.le_refl _) _⟩
theorem jc5 (T:TypeV) (ao:Option Addr) (len cap at':Nat) (hil:T.ilen≤3518437208780) (w:World):Calls Tryz.prog 194 #[subV T ao len cap at'] w fun e w'=>e=.returned (.int .i64 (ckCount T))∧Below w.heap.size w w':=by
 unfold subV;have hE:ckCount T=if namedK T.kind=false then 0 else if T.ilen=0 then 18 else if 16<T.ilen then 3 else 0:=rfl;obtain ⟨b0,hb0⟩:∃ b,namedK T.kind=b:=⟨_,rfl⟩;rw [hb0] at hE;have HE:=lh hE;clear hE
 cases b0
 all_goals
  go_enter Tryz.func194,Tryz.ntmps194;go_wp2_with (go_at_call 166;refine (qh _ _).mono ?_;rintro e w' ⟨rfl,rfl⟩)
  all_goals
   go_ret;exact ⟨jo (by rw [HE.out];simp_all <;> omega),(Below.refl _ _).alloc (Nat.le_refl _) _⟩
theorem jgc (T:TypeV) (ao:Option Addr) (len cap at':Nat) (L:Nat→TypeV) (hlen:len≤1000000) (w:World) (H:∀ i,i<len→TypeAt w ao i (L i)):Calls Tryz.prog 193 #[subV T ao len cap at'] w fun e w'=>e=.returned (.int .i64 (ckTag L len T))∧Below w.heap.size w w':=by
 unfold subV;have hE:ckTag L len T=if T.kind==14&&!numK (kindL L len T.tag) then 8 else 0:=rfl;have HK:=lh (fun wx (hb:Below w.heap.size w wx)=>zk ao len cap L (by omega) T.tag wx (hold H hb));obtain ⟨b0,hb0⟩:∃ b,(T.kind==14)=b:=⟨_,rfl⟩;obtain ⟨b1,hb1⟩:∃ b,numK (kindL L len T.tag)=b:=⟨_,rfl⟩;rw [hb0,hb1] at hE;have HE:=lh hE;clear hE H
 cases b0 <;> cases b1
 all_goals
  go_enter Tryz.func193,Tryz.ntmps193
  go_wp2_with (first
   |(go_at_call 220;refine (zi _ _).mono ?_;rintro e w' ⟨rfl,rfl⟩)
   |(go_at_call 167;refine (HK.out _ ((Below.refl _ _).alloc (Nat.le_refl _) _)).mono ?_;rintro e w' ⟨rfl,rfl⟩)
   |(go_at_call 132;refine (kh _ _).mono ?_;rintro e w' ⟨rfl,rfl⟩))
  go_ret;exact ⟨jo (by rw [HE.out];rfl),(Below.refl _ _).alloc (Nat.le_refl _) _⟩
theorem jcr (T:TypeV) (ao:Option Addr) (len cap at':Nat) (L:Nat→TypeV) (hlen:len≤1000000) (hat:at' <len) (w:World) (H:∀ i,i<len→TypeAt w ao i (L i)):Calls Tryz.prog 196 #[subV T ao len cap at'] w fun e w'=>e=.returned (.int .i64 (ckDepth L len at'))∧Below w.heap.size w w':=by
 unfold subV;have hE:ckDepth L len at'=if 6<deepL L len (at':Nat) then 9 else 0:=rfl;have HD:=lh (fun wx (hb:Below w.heap.size w wx)=>jot ao len cap L hlen (at':Nat) wx (hold H hb));obtain ⟨d,hd⟩:∃ d,deepL L len (at':Nat)=d:=⟨_,rfl⟩;rw [hd] at hE HD;have HE:=lh hE;clear hE H hd;go_enter Tryz.func196,Tryz.ntmps196;go_wp2_with (go_at_call 225;refine (HD.out _ ((Below.refl _ _).alloc (Nat.le_refl _) _)).mono ?_;rintro e w2 ⟨rfl,hb2⟩;have HB2:=lh (((Below.refl _ _).alloc (Nat.le_refl _) _).trans (hb2.mono (by simp)));clear hb2)
 all_goals
  go_ret;exact ⟨jo (by rw [HE.out];simp_all),HB2.out⟩
def sameI (a b:ItemV):Bool:=(a.name.toList==b.name.toList)&&((a.num==b.num)&&((a.type==b.type)&&((a.key==b.key)&&(a.rest==b.rest))))
theorem jq0 (xn yn:ByteArray) (xu yu xt yt:Int) (xk yk xr yr:Bool) (w:World):(binOp .neq 60 (.agg #[.string xn,.int .u64 xu,.int .i64 xt,.bool xk,.bool xr]) (.agg #[.string yn,.int .u64 yu,.int .i64 yt,.bool yk,.bool yr])).run Tryz.prog w=.ok (.bool (!sameI ⟨xn,xu,xt,xk,xr⟩ ⟨yn,yu,yt,yk,yr⟩)) w:=by
 have hu:=Tryz.underlying60;have hi:=Tryz.underlying3;have hb:=Tryz.underlying4;have hn:=Tryz.underlying27;have hs:=Tryz.underlying9;have p0:=fun w=>run_equalIn_string (P:=Tryz.prog) w 9998 9 xn yn hs;have p1:=fun w=>run_equalIn_int (P:=Tryz.prog) w 9998 27 .u64 .u64 xu yu hn;have p2:=fun w=>run_equalIn_int (P:=Tryz.prog) w 9998 3 .i64 .i64 xt yt hi;have p3:=fun a b w=>run_equalIn_bool' (P:=Tryz.prog) w 9998 4 a b hb;rw [run_neq_struct,run_equalIn_agg _ 9999 _ _ _ (by kernel_rfl) (by kernel_rfl)];simp only [Program.fieldsOf,hu];simp [Op.eqFields,go_sem,p0,p1,p2,p3];unfold sameI
 dsimp only
 (repeat' split) <;> simp_all
def BoxS (g:Nat) (T:TypeV) (ao:Option Addr) (len cap at':Nat) (w0 w:World):Prop:=w.heap[g]?=some (subO T ao len cap at')∧Below g w0 w
theorem BoxS.cells {g:Nat} {T:TypeV} {ao:Option Addr} {len cap at':Nat} {w0 w:World} (h:BoxS g T ao len cap at' w0 w):
  w.cell? ⟨g,0,none⟩=some (.int .i64 T.kind)∧w.cell? ⟨g,1,none⟩=some (.string T.name)∧w.cell? ⟨g,2,none⟩=some (.int .i64 T.bound)∧w.cell? ⟨g,3,none⟩=some (.int .i64 T.of)∧w.cell? ⟨g,4,none⟩=some (.int .i64 T.tag)∧w.cell? ⟨g,5,none⟩=some (.slice T.ia T.ilen T.icap)∧
   w.cell? ⟨g,6,none⟩=some (.slice ao len cap)∧w.cell? ⟨g,7,none⟩=some (.int .i64 at'):=
 ⟨ja h.1 rfl,ja h.1 rfl,ja h.1 rfl,ja h.1 rfl,ja h.1 rfl,ja h.1 rfl,ja h.1 rfl,ja h.1 rfl⟩
theorem BoxS.keep {g:Nat} {T:TypeV} {ao:Option Addr} {len cap at':Nat} {w0 w w1:World} (h:BoxS g T ao len cap at' w0 w) (hb:Below w.heap.size w w1):BoxS g T ao len cap at' w0 w1:=
 ⟨(hb.block g (lt_of_block h.1)).trans h.1,h.2.trans (hb.mono (Nat.le_of_lt (lt_of_block h.1)))⟩
theorem BoxS.start (T:TypeV) (ao:Option Addr) (len cap at':Nat) (w:World):BoxS w.heap.size T ao len cap at' w (w.alloc (subO T ao len cap at')):=⟨jd w _,(Below.refl _ _).alloc (Nat.le_refl _) _⟩
theorem BoxS.drew {g:Nat} {T:TypeV} {ao:Option Addr} {len cap at':Nat} {w0 w:World} (h:BoxS g T ao len cap at' w0 w):BoxS g T ao len cap at' w0 w.drew:=⟨h.1,h.2.drew⟩
def f1B (T:TypeV):Bool:=!T.name.toList.isEmpty&&!namedK T.kind
def f2B (T:TypeV):Bool:=T.bound !=0&&!boundK T.kind
def f3B (T:TypeV):Bool:=T.of !=0&&!ofK T.kind
def f4B (T:TypeV):Bool:=T.tag !=0&&!(T.kind==14)
def f5B (T:TypeV):Bool:=decide (0<T.ilen)&&!namedK T.kind
def itemBad (k:Int) (x:ItemV):Bool:=!sameI x (ownI k x)
def formB (T:TypeV):Bool:=f1B T||f2B T||f3B T||f4B T||f5B T||hasB (fun j=>itemBad T.kind (T.items j)) T.ilen
def ckForm (T:TypeV):Int:=if formB T then 1 else 0
theorem jks (k:Int) (x:ItemV):itemBad k x=!sameI ⟨x.name,x.num,x.type,x.key,x.rest⟩ ⟨(ownI k x).name,(ownI k x).num,(ownI k x).type,(ownI k x).key,(ownI k x).rest⟩:=rfl
theorem jez (T:TypeV) (ao:Option Addr) (len cap at':Nat) (w:World) (HT:ItemsAt w T):Calls Tryz.prog 189 #[subV T ao len cap at'] w fun e w'=>e=.returned (.int .i64 (ckForm T))∧Below w.heap.size w w':=by
 obtain ⟨hil,hit⟩:=HT;obtain ⟨ia,hia⟩:∃ ia,T.ia=ia:=⟨_,rfl⟩;rw [hia] at hit;have HI:=lh hit;have hst:=BoxS.start T ao len cap at' w;unfold subO at hst;rw [hia] at hst;have HS:=lh hst;have HE:=lh (show ckForm T=if f1B T||f2B T||f3B T||f4B T||f5B T||hasB (fun j=>itemBad T.kind (T.items j)) T.ilen then 1 else 0 from rfl);clear hit hst;unfold subV;rw [hia];have HIA:=lh hia;clear hia;go_enter Tryz.func189,Tryz.ntmps189
 go_upto_region 1 with (fail)
 generalize (w.alloc (.cells #[.int .i64 T.kind,.string T.name,.int .i64 T.bound,.int .i64 T.of,.int .i64 T.tag,.slice ia T.ilen T.icap,.slice ao len cap,.int .i64 at'] 210))=W0 at *;obtain ⟨c0,c1,c2,c3,c4,c5,c6,c7⟩:=HS.out.cells;rw [HIA.out] at c5
 go_cut [5] (fun t wx=>t=.bool (f1B T)∧W0=wx)
 case first=>
  obtain ⟨a,ha⟩:∃ a,T.name.toList.isEmpty=a:=⟨_,rfl⟩;obtain ⟨b,hb⟩:∃ b,namedK T.kind=b:=⟨_,rfl⟩;have H1:=lh (show f1B T=(!a&&!b) by rw [←ha,←hb];rfl)
  cases a <;> cases b
  all_goals
   go_wp2_with (go_at_call 166;refine (qh _ _).mono ?_;rintro e w' ⟨rfl,rfl⟩)
   go_meet
   exact ⟨by rw [H1.out];rfl,by first|rfl|trivial⟩
 case rest=>
  obtain ⟨rfl,rfl⟩:=hcut
  cases h1:f1B T with
  |true=>
   go_wp2;go_ret;exact ⟨jo (by rw [HE.out,h1];simp),HS.out.2⟩
  |false=>
   go_upto_region 2 with (fail)
   go_cut [5] (fun t wx=>t=.bool (f2B T)∧W0=wx)
   case first=>
    obtain ⟨a,ha⟩:∃ a,(T.bound !=0)=a:=⟨_,rfl⟩;obtain ⟨b,hb⟩:∃ b,boundK T.kind=b:=⟨_,rfl⟩;have H1:=lh (show f2B T=(a&&!b) by rw [←ha,←hb];rfl)
    cases a <;> cases b
    all_goals
     go_wp2_with (go_at_call 218;refine (Ym _ _).mono ?_;rintro e w' ⟨rfl,rfl⟩)
     go_meet
     exact ⟨by rw [H1.out];rfl,by first|rfl|trivial⟩
   case rest=>
    obtain ⟨rfl,rfl⟩:=hcut
    cases h2:f2B T with
    |true=>
     go_wp2;go_ret;exact ⟨jo (by rw [HE.out,h1,h2];simp),HS.out.2⟩
    |false=>
     go_upto_region 3 with (fail)
     go_cut [5] (fun t wx=>t=.bool (f3B T)∧W0=wx)
     case first=>
      obtain ⟨a,ha⟩:∃ a,(T.of !=0)=a:=⟨_,rfl⟩;obtain ⟨b,hb⟩:∃ b,ofK T.kind=b:=⟨_,rfl⟩;have H1:=lh (show f3B T=(a&&!b) by rw [←ha,←hb];rfl)
      cases a <;> cases b
      all_goals
       go_wp2_with (go_at_call 219;refine (zz _ _).mono ?_;rintro e w' ⟨rfl,rfl⟩)
       go_meet
       exact ⟨by rw [H1.out];rfl,by first|rfl|trivial⟩
     case rest=>
      obtain ⟨rfl,rfl⟩:=hcut
      cases h3:f3B T with
      |true=>
       go_wp2;go_ret;exact ⟨jo (by rw [HE.out,h1,h2,h3];simp),HS.out.2⟩
      |false=>
       go_upto_region 4 with (fail)
       go_cut [5] (fun t wx=>t=.bool (f4B T)∧W0=wx)
       case first=>
        obtain ⟨a,ha⟩:∃ a,(T.tag !=0)=a:=⟨_,rfl⟩;obtain ⟨b,hb⟩:∃ b,(T.kind==14)=b:=⟨_,rfl⟩;have H1:=lh (show f4B T=(a&&!b) by rw [←ha,←hb];rfl)
        cases a <;> cases b
        all_goals
         go_wp2_with (go_at_call 220;refine (zi _ _).mono ?_;rintro e w' ⟨rfl,rfl⟩)
         go_meet
         exact ⟨by rw [H1.out];rfl,by first|rfl|trivial⟩
       case rest=>
        obtain ⟨rfl,rfl⟩:=hcut
        cases h4:f4B T with
        |true=>
         go_wp2;go_ret;exact ⟨jo (by rw [HE.out,h1,h2,h3,h4];simp),HS.out.2⟩
        |false=>
         go_upto_region 5 with (fail)
         go_cut [5] (fun t wx=>t=.bool (f5B T)∧W0=wx)
         case first=>
          obtain ⟨b,hb⟩:∃ b,namedK T.kind=b:=⟨_,rfl⟩
          by_cases hp:0<T.ilen
          all_goals
           have H1:=lh (show f5B T=(decide (0<T.ilen)&&!b) by unfold f5B;rw [hb])
           cases b
           all_goals
            go_wp2_with (go_at_call 166;refine (qh _ _).mono ?_;rintro e w' ⟨rfl,rfl⟩)
            go_meet
            exact ⟨by rw [H1.out];simp [hp],by first|rfl|trivial⟩
         case rest=>
          obtain ⟨rfl,rfl⟩:=hcut
          cases h5:f5B T with
          |true=>
           go_wp2;go_ret;exact ⟨jo (by rw [HE.out,h1,h2,h3,h4,h5];simp),HS.out.2⟩
          |false=>
           have HE2:=lh (show ckForm T=if hasB (fun j=>itemBad T.kind (T.items j)) T.ilen then 1 else 0 by rw [HE.out,h1,h2,h3,h4,h5];simp);clear h1 h2 h3 h4 h5 c1 c2 c3 c4 c6 c7;go_wp2;clear c0 c5;obtain ⟨W1,hW1⟩:∃ W1:World,W1=W0:=⟨_,rfl⟩;rw [←hW1] at HS ⊢;clear hW1
           go_loopw [66] (fun i wr=>∃ j:Nat,j≤T.ilen∧i=.int .i64 j∧Hid (∀ m,m<j→itemBad T.kind (T.items m)=false)∧Hid (BoxS w.heap.size T ao len cap at' w wr)) (fun i _=>T.ilen - (intOf i).toNat)
           case atStart=>exact ⟨0,Nat.zero_le _,rfl,lh (fun m hm=>absurd hm (Nat.not_lt_zero _)),HS⟩
           case round=>
            obtain ⟨j,hj,rfl,HN,HB⟩:=hrel
            by_cases hlt:j<T.ilen
            · have hiat:=(HI.out j hlt).held (w1:=wr) HB.out.2;obtain ⟨b,off,rfl,x0,x1,x2,x3,x4,wi⟩:=hiat;have hown:=jgy T.kind (T.items j);have hne:=fun w=>jq0 (T.items j).name (ownI T.kind (T.items j)).name (T.items j).num (ownI T.kind (T.items j)).num (T.items j).type (ownI T.kind (T.items j)).type (T.items j).key (ownI T.kind (T.items j)).key (T.items j).rest (ownI T.kind (T.items j)).rest w;obtain ⟨q,hq⟩:∃ q,itemBad T.kind (T.items j)=q:=⟨_,rfl⟩;rw [←jks,hq] at hne;unfold itmV at hown;generalize ownI T.kind (T.items j)=y at hown hne;have HO:=lh hown;have hgl:=lt_of_block HB.out.1;have HB2:=lh (HB.out.keep ((Below.refl wr.heap.size wr).alloc (Nat.le_refl _) (.cells #[.string (T.items j).name,.int .u64 (T.items j).num,.int .i64 (T.items j).type,.bool (T.items j).key,.bool (T.items j).rest] 60)));have hx:=jd wr (.cells #[.string (T.items j).name,.int .u64 (T.items j).num,.int .i64 (T.items j).type,.bool (T.items j).key,.bool (T.items j).rest] 60);clear hown
              go_upto_region 10 with (fail)
              clear x0 x1 x2 x3 x4;generalize (wr.alloc (.cells #[.string (T.items j).name,.int .u64 (T.items j).num,.int .i64 (T.items j).type,.bool (T.items j).key,.bool (T.items j).rest] 60))=W2 at HB2 hx ⊢;generalize wr.heap.size=h at hx hgl ⊢;have x0:=ja (j:=0) hx rfl;have x1:=ja (j:=1) hx rfl;have x2:=ja (j:=2) hx rfl;have x3:=ja (j:=3) hx rfl;have x4:=ja (j:=4) hx rfl;have k0:=HB2.out.cells.1;clear hx HB
              cases q
              · go_wp2_with fail
                go_region_held3 (fun w'=>w'.cell? ⟨w.heap.size,0,none⟩=some (.int .i64 T.kind)∧w'.cell? ⟨h,0,none⟩=some (.string (T.items j).name)∧w'.cell? ⟨h,1,none⟩=some (.int .u64 (T.items j).num)∧w'.cell? ⟨h,2,none⟩=some (.int .i64 (T.items j).type)∧w'.cell? ⟨h,3,none⟩=some (.bool (T.items j).key)∧w'.cell? ⟨h,4,none⟩=some (.bool (T.items j).rest)∧Hid (BoxS w.heap.size T ao len cap at' w w'))
                 (first|exact ⟨k0,x0,x1,x2,x3,x4,lh HB2.out.drew⟩|exact ⟨k0,x0,x1,x2,x3,x4,HB2⟩|fail)
                 (first
                  |(go_at_call 221;refine (HO.out _).mono ?_;rintro e w3 ⟨rfl,hb3⟩;have k0:=jk hb3 (by exact k0);have x0:=jk hb3 (by exact x0);have x1:=jk hb3 (by exact x1);have x2:=jk hb3 (by exact x2);have x3:=jk hb3 (by exact x3);have x4:=jk hb3 (by exact x4);have HB2:=lh (BoxS.keep (by first|exact HB2.out|exact HB2.out.drew) hb3);clear hb3))
                go_wp2_with fail;go_roundw
                case rel=>exact ⟨j+1,by omega,by go_num,lh (ji HN.out hq),HB2⟩
                case measure=>simp [intOf];omega
              · go_wp2_with fail
                go_region_held3 (fun w'=>w'.cell? ⟨w.heap.size,0,none⟩=some (.int .i64 T.kind)∧w'.cell? ⟨h,0,none⟩=some (.string (T.items j).name)∧w'.cell? ⟨h,1,none⟩=some (.int .u64 (T.items j).num)∧w'.cell? ⟨h,2,none⟩=some (.int .i64 (T.items j).type)∧w'.cell? ⟨h,3,none⟩=some (.bool (T.items j).key)∧w'.cell? ⟨h,4,none⟩=some (.bool (T.items j).rest)∧Hid (BoxS w.heap.size T ao len cap at' w w'))
                 (first|exact ⟨k0,x0,x1,x2,x3,x4,lh HB2.out.drew⟩|exact ⟨k0,x0,x1,x2,x3,x4,HB2⟩|fail)
                 (first
                  |(go_at_call 221;refine (HO.out _).mono ?_;rintro e w3 ⟨rfl,hb3⟩;have k0:=jk hb3 (by exact k0);have x0:=jk hb3 (by exact x0);have x1:=jk hb3 (by exact x1);have x2:=jk hb3 (by exact x2);have x3:=jk hb3 (by exact x3);have x4:=jk hb3 (by exact x4);have HB2:=lh (BoxS.keep (by first|exact HB2.out|exact HB2.out.drew) hb3);clear hb3))
                go_wp2_with fail;go_ret;exact ⟨jo (by rw [HE2.out,yg hlt hq];rfl),HB2.out.2⟩
            · obtain rfl:j=T.ilen:=by omega
              have hf:=zm HN.out;go_wp2;go_ret;exact ⟨jo (by rw [HE2.out,hf];rfl),HB.out.2⟩
def nameTw (L:Nat→TypeV) (T:TypeV) (at':Nat):Bool:=hasB (fun i=>(L i).name.toList==T.name.toList) at'
def ckName (L:Nat→TypeV) (T:TypeV) (at':Nat):Int:=if namedK T.kind=false then 0 else if nameS T.name=false then 5 else if nameTw L T at' then 6 else 0
def orderBad (T:TypeV) (at':Nat):Bool:=hasB (fun j=>!inL at' ((partsL T).getD j 0)) (partsL T).length
def ckOrder (T:TypeV) (at':Nat):Int:=if orderBad T at' then 14 else 0
theorem jep (T:TypeV) (ao:Option Addr) (len cap at':Nat) (L:Nat→TypeV) (hlen:len≤1000000) (hcap:len≤cap) (hat:at' <len) (hns:T.name.size≤140737488351232) (w:World) (H:∀ i,i<len→TypeAt w ao i (L i)):Calls Tryz.prog 190 #[subV T ao len cap at'] w fun e w'=>e=.returned (.int .i64 (ckName L T at'))∧Below w.heap.size w w':=by
 have HH:=lh H;clear H
 cases hn:namedK T.kind with
 |false=>
  have e:ckName L T at'=0:=by unfold ckName;rw [hn];rfl
  rw [e];clear e;unfold subV;go_enter Tryz.func190,Tryz.ntmps190;go_wp2_with (go_at_call 166;refine (qh _ _).mono ?_;rintro e w' ⟨rfl,rfl⟩);go_ret;exact ⟨rfl,(Below.refl _ _).alloc (Nat.le_refl _) _⟩
 |true=>
  cases hs:nameS T.name with
  |false=>
   have e:ckName L T at'=5:=by unfold ckName;rw [hn,hs];rfl
   rw [e];clear e;have HN:=lh (fun w=>hs ▸ jdx T.name (Nat.le_trans hns (by decide)) w);clear hs;unfold subV;go_enter Tryz.func190,Tryz.ntmps190
   go_wp2_with (first
    |(go_at_call 166;refine (qh _ _).mono ?_;rintro e w' ⟨rfl,rfl⟩)
    |(go_at_call 222;refine (HN.out _).mono ?_;rintro e w2 ⟨rfl,hb2⟩;have HB2:=lh (((Below.refl _ _).alloc (Nat.le_refl _) _).trans (hb2.mono (by simp)));clear hb2))
   go_ret;exact ⟨rfl,HB2.out⟩
  |true=>
   have HE:=lh (show ckName L T at'=if nameTw L T at' then 6 else 0 by unfold ckName;rw [hn,hs];rfl);have HN:=lh (fun w=>hs ▸ jdx T.name (Nat.le_trans hns (by decide)) w);clear hs;have HS:=lh (BoxS.start T ao len cap at' w)
   obtain ⟨a,rfl⟩:∃ a,ao=some a:=by obtain ⟨b,off,e,_⟩:=HH.out at' hat;exact ⟨_,e⟩
   unfold subV;go_enter Tryz.func190,Tryz.ntmps190
   go_wp2_with (first
    |(go_at_call 166;refine (qh _ _).mono ?_;rintro e w' ⟨rfl,rfl⟩)
    |(go_at_call 222;refine (HN.out _).mono ?_;rintro e w2 ⟨rfl,hb2⟩;have HB2:=lh (HS.out.keep hb2);obtain ⟨c0,c1,c2,c3,c4,c5,c6,c7⟩:=HB2.out.cells;clear hb2))
   clear c0 c1 c2 c3 c4 c5 c6 c7
   go_loopw [21] (fun i wr=>∃ j:Nat,j≤at'∧i=.int .i64 j∧Hid (∀ m,m<j→((L m).name.toList==T.name.toList)=false)∧Hid (BoxS w.heap.size T (some a) len cap at' w wr)) (fun i _=>at' - (intOf i).toNat)
   case atStart=>exact ⟨0,Nat.zero_le _,rfl,lh (fun m hm=>absurd hm (Nat.not_lt_zero _)),HB2⟩
   case round=>
    obtain ⟨j,hj,rfl,HF,HB⟩:=hrel
    by_cases hlt:j<at'
    · obtain ⟨b,off,ha,x0,x1,x2,x3,x4,x5,wf,_⟩:=(HH.out j (by omega)).held (w1:=wr) HB.out.2
      cases ha
      obtain ⟨c0,c1,c2,c3,c4,c5,c6,c7⟩:=HB.out.cells;have hgl:=lt_of_block HB.out.1
      have hne:¬w.heap.size=wr.heap.size:=by omega
      have HB3:=lh (fun o=>HB.out.keep ((Below.refl wr.heap.size wr).alloc (Nat.le_refl _) o))
      cases hq:((L j).name.toList==T.name.toList) with
      |true=>
       have HT:=lh (show nameTw L T at'=true from yg (p:=fun i=>(L i).name.toList==T.name.toList) hlt hq);go_wp2;go_ret;exact ⟨jo (by rw [HE.out,HT.out];rfl),(HB3.out _).2⟩
      |false=>
       have HF2:=lh (ji (p:=fun i=>(L i).name.toList==T.name.toList) HF.out hq);go_wp2;go_roundw
       case rel=>exact ⟨j+1,by omega,by go_num,HF2,lh (HB3.out _)⟩
       case measure=>simp [intOf];omega
    · obtain rfl:j=at':=by omega
      have HT:=lh (show nameTw L T j=false from zm (p:=fun i=>(L i).name.toList==T.name.toList) HF.out);go_wp2;go_ret;exact ⟨jo (by rw [HE.out,HT.out];rfl),HB.out.2⟩
theorem jdn (T:TypeV) (ao:Option Addr) (len cap at':Nat) (hlen:len≤1000000) (hcap:len≤cap) (hat:at' <len) (hao:∃ a,ao=some a) (w:World) (HT:ItemsAt w T):Calls Tryz.prog 192 #[subV T ao len cap at'] w fun e w'=>e=.returned (.int .i64 (ckOrder T at'))∧Below w.heap.size w w':=by
 have HS:=lh (BoxS.start T ao len cap at' w);have hll:=Yh HT.1;have HI:=lh (fun p=>jdr ao at' cap (by omega) p);have hcall:=fun wx (hb:Below w.heap.size w wx)=>jd2 T wx (HT.held hb);obtain ⟨l,hl⟩:∃ l,partsL T=l:=⟨_,rfl⟩;have HE:=lh (show ckOrder T at'=if hasB (fun j=>!inL at' (l.getD j 0)) l.length then 14 else 0 by unfold ckOrder orderBad;rw [hl]);rw [hl] at hcall hll;unfold typV at hcall;have HC:=lh hcall;clear hcall hl HT;obtain ⟨a,rfl⟩:=hao;unfold subV;go_enter Tryz.func192,Tryz.ntmps192;go_wp2_with (go_at_call 223;refine (HC.out _ ((Below.refl _ _).alloc (Nat.le_refl _) _)).mono ?_;rintro e w2 ⟨v,rfl,hown,hb2⟩;obtain ⟨va,vc,rfl,hva⟩:=Xt hown;have HV:=lh hva;have HO2:=lh hown;have HB2:=lh (HS.out.keep hb2);obtain ⟨c0,c1,c2,c3,c4,c5,c6,c7⟩:=HB2.out.cells;clear hown hva hb2)
 go_loopw [9] (fun i wr=>∃ j:Nat,j≤l.length∧i=.int .i64 j∧Hid (∀ m,m<j→(!inL at' (l.getD m 0))=false)∧wr=w2) (fun i _=>l.length - (intOf i).toNat)
 case atStart=>exact ⟨0,Nat.zero_le _,rfl,lh (fun m hm=>absurd hm (Nat.not_lt_zero _)),rfl⟩
 case round=>
  obtain ⟨j,hj,rfl,HF,rfl⟩:=hrel
  by_cases hjl:j<l.length
  · obtain ⟨g',rfl⟩:=HV.out (by omega);have c:=zr HO2.out j hjl;obtain ⟨p,hp⟩:∃ p,l.getD j 0=p:=⟨_,rfl⟩;rw [hp] at c;obtain ⟨q,hq⟩:∃ q,inL at' p=q:=⟨_,rfl⟩;have hi:=HI.out p;rw [hq] at hi;have HI2:=lh hi;clear hi
    cases q with
    |false=>
     have HT:=lh (yg (p:=fun j=>!inL at' (l.getD j 0)) hjl (by show (!inL at' (l.getD j 0))=true;rw [hp,hq];rfl));clear hp hq;go_wp2_with (go_at_call 201;refine (HI2.out _).mono ?_;rintro e w' ⟨rfl,rfl⟩);go_ret;exact ⟨jo (by rw [HE.out,HT.out];rfl),HB2.out.2⟩
    |true=>
     have HF2:=lh (ji (p:=fun j=>!inL at' (l.getD j 0)) HF.out (by show (!inL at' (l.getD j 0))=false;rw [hp,hq];rfl));clear hp hq;go_wp2_with (go_at_call 201;refine (HI2.out _).mono ?_;rintro e w' ⟨rfl,rfl⟩);go_roundw
     case rel=>exact ⟨j+1,by omega,by go_num,HF2,by first|rfl|trivial⟩
     case measure=>simp [intOf];omega
  · obtain rfl:j=l.length:=by omega
    have HT:=lh (zm (p:=fun j=>!inL at' (l.getD j 0)) HF.out);go_wp2;go_ret;exact ⟨jo (by rw [HE.out,HT.out];rfl),HB2.out.2⟩
def isTagB (L:Nat→TypeV) (len:Nat) (T:TypeV) (n:Int):Bool:=if kindL L len T.tag=9 then okZ (valueL L len T.tag n) else mayK (kindL L len T.tag) n
def ckValue (L:Nat→TypeV) (len at':Nat) (T:TypeV) (i:Nat):Int:=if mayK 9 (T.items i).num=false then 7 else if posZ (valueL L len (at':Nat) (T.items i).num)<i then 6 else 0
def ckField (L:Nat→TypeV) (len:Nat) (T:TypeV) (i:Nat):Int:=if (T.items i).key&&!numK (kindL L len (T.items i).type)&&kindL L len (T.items i).type !=10 then 17 else 0
def ckBranch (L:Nat→TypeV) (len at':Nat) (T:TypeV) (i:Nat):Int:=
 if (T.items i).rest then (if i+1<T.ilen then 14 else 0) else if isTagB L len T (T.items i).num=false then 7 else if posZ (branchL L len (at':Nat) (T.items i).num)<i then 6 else 0
def ckItem (L:Nat→TypeV) (len at':Nat) (T:TypeV) (i:Nat):Int:=
 if nameS (T.items i).name=false then 5 else if posZ (itemL L len (at':Nat) (T.items i).name)<i then 6 else if T.kind=9 then ckValue L len at' T i else if T.kind=13 then ckField L len T i else ckBranch L len at' T i
theorem jpc (T:TypeV) (n:Int) (ao:Option Addr) (len cap at':Nat) (L:Nat→TypeV) (hlen:len≤1000000) (hn:(Lit.int .u64 n).wf=true) (w:World) (H:∀ i,i<len→TypeAt w ao i (L i)):
  Calls Tryz.prog 260 #[subV T ao len cap at',.int .u64 n] w fun e w'=>e=.returned (.bool (isTagB L len T n))∧Below w.heap.size w w':=by
 have hst:=BoxS.start T ao len cap at' w;unfold subO at hst;have HS:=lh hst;clear hst;have hk:=fun wx (hb:Below w.heap.size w wx)=>zk ao len cap L (by omega) T.tag wx (hold H hb);have hv:=fun wx (hb:Below w.heap.size w wx)=>jdm ao len cap L T.tag n (by omega) wx (hold H hb);have hm:=fun wx=>jl3 (kindL L len T.tag) n hn wx;have hE:isTagB L len T n=if kindL L len T.tag=9 then okZ (valueL L len T.tag n) else mayK (kindL L len T.tag) n:=rfl;obtain ⟨kd,hkd⟩:∃ kd,kindL L len T.tag=kd:=⟨_,rfl⟩;unfold foundV at hv;obtain ⟨z,hz⟩:∃ z,valueL L len T.tag n=z:=⟨_,rfl⟩;rw [hkd] at hk hm hE;rw [hz] at hv hE;have HK:=lh hk;have HV:=lh hv;have HM:=lh hm;clear hk hv hm hkd hz H;unfold subV
 by_cases h9:kd=9
 · rw [if_pos h9] at hE;have HE:=lh hE
   have k9:(kd==9)=true:=by simpa using h9
   clear hE h9;go_enter Tryz.func260,Tryz.ntmps260
   go_wp2_with (first
    |(go_at_call 167;refine (HK.out _ HS.out.2).mono ?_;rintro e w' ⟨rfl,rfl⟩)
    |(go_at_call 259;refine (HV.out _ HS.out.2).mono ?_;rintro e w2 ⟨rfl,hb2⟩;have HB2:=lh (HS.out.2.trans (hb2.mono (by simp)));clear hb2))
   go_ret;exact ⟨qk (by rw [HE.out]),HB2.out⟩
 · rw [if_neg h9] at hE;have HE:=lh hE
   have k9:(kd==9)=false:=by simpa using h9
   clear hE h9;go_enter Tryz.func260,Tryz.ntmps260
   go_wp2_with (first
    |(go_at_call 167;refine (HK.out _ HS.out.2).mono ?_;rintro e w' ⟨rfl,rfl⟩)
    |(go_at_call 258;refine (HM.out _).mono ?_;rintro e w2 ⟨rfl,hb2⟩;have HB2:=lh (HS.out.2.trans (hb2.mono (by simp)));clear hb2))
   go_ret;exact ⟨qk (by rw [HE.out]),HB2.out⟩
theorem jdl (T:TypeV) (i:Nat) (ao:Option Addr) (len cap at':Nat) (L:Nat→TypeV) (hlen:len≤1000000) (hi:i<T.ilen) (w:World) (HT:ItemsAt w T) (H:∀ i,i<len→TypeAt w ao i (L i)):
  Calls Tryz.prog 248 #[subV T ao len cap at',.int .i64 i] w fun e w'=>e=.returned (.int .i64 (ckValue L len at' T i))∧Below w.heap.size w w':=by
 obtain ⟨hil,hit⟩:=HT;obtain ⟨b,off,hia,x0,x1,x2,x3,x4,wi⟩:=hit i hi;have hbl:b<w.heap.size:=World.block_lt_of_cell? w _ x0
 have hne:¬b=w.heap.size:=by omega
 clear hit;have hst:=BoxS.start T ao len cap at' w;unfold subO at hst;rw [hia] at hst;have HS:=lh hst;have hv:=fun wx (hb:Below w.heap.size w wx)=>jdm ao len cap L (at':Nat) (T.items i).num (by omega) wx (hold H hb);unfold foundV at hv;have hm:=fun wx=>jl3 9 (T.items i).num wi.1 wx;have hE:ckValue L len at' T i=if mayK 9 (T.items i).num=false then 7 else if posZ (valueL L len (at':Nat) (T.items i).num)<i then 6 else 0:=rfl;obtain ⟨z,hz⟩:∃ z,valueL L len (at':Nat) (T.items i).num=z:=⟨_,rfl⟩;rw [hz] at hv hE;obtain ⟨y,hy⟩:∃ y,posZ z=y:=⟨_,rfl⟩;rw [hy] at hv hE;obtain ⟨q,hq⟩:∃ q,mayK 9 (T.items i).num=q:=⟨_,rfl⟩;rw [hq] at hm hE;have HV:=lh hv;have HM:=lh hm;have HE:=lh hE;unfold subV;rw [hia];clear hst hv hm hz hy hq hE H hia
 cases q with
 |false=>
  go_enter Tryz.func248,Tryz.ntmps248;go_wp2_with (go_at_call 258;refine (HM.out _).mono ?_;rintro e w2 ⟨rfl,hb2⟩;have HB2:=lh (HS.out.keep hb2);clear hb2);go_ret;exact ⟨jo (by rw [HE.out];rfl),HB2.out.2⟩
 |true=>
  by_cases hlt:y<i
  all_goals
   go_enter Tryz.func248,Tryz.ntmps248
   go_wp2_with (first
    |(go_at_call 258;refine (HM.out _).mono ?_;rintro e w2 ⟨rfl,hb2⟩;have HB2:=lh (HS.out.keep hb2);obtain ⟨c0,c1,c2,c3,c4,c5,c6,c7⟩:=HB2.out.cells;clear hb2)
    |(go_at_call 259;refine (HV.out _ HB2.out.2).mono ?_;rintro e w3 ⟨rfl,hb3⟩;have HB3:=lh (HB2.out.2.trans (hb3.mono HB2.out.2.size));clear hb3))
   go_ret;exact ⟨jo (by rw [HE.out];simp [hlt]),HB3.out⟩
theorem jd8 (T:TypeV) (i:Nat) (ao:Option Addr) (len cap at':Nat) (L:Nat→TypeV) (hlen:len≤1000000) (hi:i<T.ilen) (w:World) (HT:ItemsAt w T) (H:∀ i,i<len→TypeAt w ao i (L i)):
  Calls Tryz.prog 249 #[subV T ao len cap at',.int .i64 i] w fun e w'=>e=.returned (.int .i64 (ckField L len T i))∧Below w.heap.size w w':=by
 obtain ⟨hil,hit⟩:=HT;obtain ⟨b,off,hia,x0,x1,x2,x3,x4,wi⟩:=hit i hi;have hbl:b<w.heap.size:=World.block_lt_of_cell? w _ x0
 have hne:¬b=w.heap.size:=by omega
 clear hit;have hk:=fun wx (hb:Below w.heap.size w wx)=>zk ao len cap L (by omega) (T.items i).type wx (hold H hb);have hE:ckField L len T i=if (T.items i).key&&!numK (kindL L len (T.items i).type)&&kindL L len (T.items i).type !=10 then 17 else 0:=rfl;obtain ⟨kd,hkd⟩:∃ kd,kindL L len (T.items i).type=kd:=⟨_,rfl⟩;rw [hkd] at hk hE;obtain ⟨b1,h1⟩:∃ b,(T.items i).key=b:=⟨_,rfl⟩;obtain ⟨b2,h2⟩:∃ b,numK kd=b:=⟨_,rfl⟩;obtain ⟨b3,h3⟩:∃ b,(kd !=10)=b:=⟨_,rfl⟩;rw [h1,h2,h3] at hE;rw [h1] at x3;have HK:=lh hk;have HE:=lh hE;unfold subV;rw [hia];clear hk hkd hE H hia h1;go_enter Tryz.func249,Tryz.ntmps249
 go_wp2_with (first
  |(go_at_call 167;refine (HK.out _ (((Below.refl _ _).alloc (Nat.le_refl _) _).alloc (by simp) _)).mono ?_;rintro e w' ⟨rfl,rfl⟩)
  |(go_at_call 132;refine (kh _ _).mono ?_;rintro e w' ⟨rfl,rfl⟩))
 all_goals
  go_ret;exact ⟨jo (by rw [HE.out];simp_all),(((Below.refl _ _).alloc (Nat.le_refl _) _).alloc (by simp) _)⟩
def BoxSI (g h:Nat) (T:TypeV) (x:ItemV) (ao:Option Addr) (len cap at':Nat) (w0 w:World):Prop:=w.heap[h]?=some (itmO x)∧BoxS g T ao len cap at' w0 w
theorem BoxSI.keep {g h:Nat} {T:TypeV} {x:ItemV} {ao:Option Addr} {len cap at':Nat} {w0 w w1:World} (hi:BoxSI g h T x ao len cap at' w0 w) (hb:Below w.heap.size w w1):BoxSI g h T x ao len cap at' w0 w1:=⟨(hb.block h (lt_of_block hi.1)).trans hi.1,hi.2.keep hb⟩
theorem BoxSI.cells {g h:Nat} {T:TypeV} {x:ItemV} {ao:Option Addr} {len cap at':Nat} {w0 w:World} (hi:BoxSI g h T x ao len cap at' w0 w):w.cell? ⟨h,0,none⟩=some (.string x.name)∧w.cell? ⟨h,1,none⟩=some (.int .u64 x.num)∧w.cell? ⟨h,2,none⟩=some (.int .i64 x.type)∧w.cell? ⟨h,3,none⟩=some (.bool x.key)∧w.cell? ⟨h,4,none⟩=some (.bool x.rest):=
 ⟨ja hi.1 rfl,ja hi.1 rfl,ja hi.1 rfl,ja hi.1 rfl,ja hi.1 rfl⟩
theorem BoxSI.start (T:TypeV) (x:ItemV) (ao:Option Addr) (len cap at':Nat) (w:World):BoxSI w.heap.size (w.heap.size+1) T x ao len cap at' w ((w.alloc (subO T ao len cap at')).alloc (itmO x)):=by
 refine ⟨?_,(BoxS.start T ao len cap at' w).keep ((Below.refl _ _).alloc (Nat.le_refl _) _)⟩;have hq:=jd (w.alloc (subO T ao len cap at')) (itmO x);rw [show (w.alloc (subO T ao len cap at')).heap.size=w.heap.size+1 by simp] at hq;exact hq
theorem jca (T:TypeV) (i:Nat) (ao:Option Addr) (len cap at':Nat) (L:Nat→TypeV) (hlen:len≤1000000) (hi:i<T.ilen) (w:World) (HT:ItemsAt w T) (H:∀ i,i<len→TypeAt w ao i (L i)):
  Calls Tryz.prog 250 #[subV T ao len cap at',.int .i64 i] w fun e w'=>e=.returned (.int .i64 (ckBranch L len at' T i))∧Below w.heap.size w w':=by
 obtain ⟨hil,hit⟩:=HT;obtain ⟨b,off,hia,x0,x1,x2,x3,x4,wi⟩:=hit i hi;have hbl:b<w.heap.size:=World.block_lt_of_cell? w _ x0
 have hne:¬b=w.heap.size:=by omega
 clear hit;have hst:=BoxSI.start T (T.items i) ao len cap at' w;unfold subO itmO at hst;rw [hia] at hst;have HS:=lh hst;have hv:=fun wx (hb:Below w.heap.size w wx)=>jb7 ao len cap L (at':Nat) (T.items i).num (by omega) wx (hold H hb);unfold foundV at hv;have ht:=fun wx (hb:Below w.heap.size w wx)=>jpc T (T.items i).num ao len cap at' L hlen wi.1 wx (hold H hb);unfold subV at ht;rw [hia] at ht;have hE:ckBranch L len at' T i=if (T.items i).rest then (if i+1<T.ilen then 14 else 0) else if isTagB L len T (T.items i).num=false then 7 else if posZ (branchL L len (at':Nat) (T.items i).num)<i then 6 else 0:=rfl;obtain ⟨z,hz⟩:∃ z,branchL L len (at':Nat) (T.items i).num=z:=⟨_,rfl⟩;rw [hz] at hv hE;obtain ⟨y,hy⟩:∃ y,posZ z=y:=⟨_,rfl⟩;rw [hy] at hv hE;obtain ⟨q,hq⟩:∃ q,isTagB L len T (T.items i).num=q:=⟨_,rfl⟩;rw [hq] at ht hE;have HV:=lh hv;have HM:=lh ht;have HE:=lh hE;unfold subV;rw [hia];have HIA:=lh hia;clear hst hv ht hz hy hq hE H hia;go_enter Tryz.func250,Tryz.ntmps250
 go_upto_region 2 with (fail)
 clear x0 x1 x2 x3 x4 hne hbl;generalize ((w.alloc (.cells #[.int .i64 T.kind,.string T.name,.int .i64 T.bound,.int .i64 T.of,.int .i64 T.tag,.slice (some ⟨b,off,none⟩) T.ilen T.icap,.slice ao len cap,.int .i64 at'] 210)).alloc (.cells #[.string (T.items i).name,.int .u64 (T.items i).num,.int .i64 (T.items i).type,.bool (T.items i).key,.bool (T.items i).rest] 60))=W0 at *;obtain ⟨x0,x1,x2,x3,x4⟩:=HS.out.cells;obtain ⟨c0,c1,c2,c3,c4,c5,c6,c7⟩:=HS.out.2.cells;rw [HIA.out] at c5
 cases hrest:(T.items i).rest with
 |true=>
  rw [hrest] at x4
  by_cases hlast:i+1<T.ilen
  · have HF:=lh (show ckBranch L len at' T i=14 by rw [HE.out,hrest,if_pos rfl,if_pos hlast])
    have hl2:decide ((i:Int)<(T.ilen:Int) - 1)=true:=by simp;omega
    go_wp2;go_ret;exact ⟨jo (by rw [HF.out]),HS.out.2.2⟩
  · have HF:=lh (show ckBranch L len at' T i=0 by rw [HE.out,hrest,if_pos rfl,if_neg hlast])
    have hl2:decide ((i:Int)<(T.ilen:Int) - 1)=false:=by simp;omega
    go_wp2;go_ret;exact ⟨jo (by rw [HF.out]),HS.out.2.2⟩
 |false=>
  rw [hrest] at x4
  cases q with
  |false=>
   have HF:=lh (show ckBranch L len at' T i=7 by rw [HE.out,hrest];rfl);go_wp2_with (go_at_call 260;refine (HM.out _ HS.out.2.2).mono ?_;rintro e w2 ⟨rfl,hb2⟩;have HB2:=lh (HS.out.keep hb2);clear hb2);go_ret;exact ⟨jo (by rw [HF.out]),HB2.out.2.2⟩
  |true=>
   by_cases hlt:y<i
   all_goals
    have HF:=lh (show ckBranch L len at' T i=if y<i then 6 else 0 by rw [HE.out,hrest];rfl)
    go_wp2_with (first
     |(go_at_call 260;refine (HM.out _ HS.out.2.2).mono ?_;rintro e w2 ⟨rfl,hb2⟩;have HB2:=lh (HS.out.keep hb2);obtain ⟨y0,y1,y2,y3,y4⟩:=HB2.out.cells;obtain ⟨d0,d1,d2,d3,d4,d5,d6,d7⟩:=HB2.out.2.cells;clear hb2)
     |(go_at_call 130;refine (HV.out _ HB2.out.2.2).mono ?_;rintro e w3 ⟨rfl,hb3⟩;have HB3:=lh (HB2.out.2.2.trans (hb3.mono HB2.out.2.2.size));clear hb3))
    go_ret;exact ⟨jo (by rw [HF.out];simp [hlt]),HB3.out⟩
theorem je6 (T:TypeV) (i:Nat) (ao:Option Addr) (len cap at':Nat) (L:Nat→TypeV) (hlen:len≤1000000) (hi:i<T.ilen) (w:World) (HT:ItemsAt w T) (H:∀ i,i<len→TypeAt w ao i (L i)):
  Calls Tryz.prog 224 #[subV T ao len cap at',.int .i64 i] w fun e w'=>e=.returned (.int .i64 (ckItem L len at' T i))∧Below w.heap.size w w':=by
 have HV1:=lh (fun wx (hb:Below w.heap.size w wx)=>jdl T i ao len cap at' L hlen hi wx (HT.held hb) (hold H hb));have HV2:=lh (fun wx (hb:Below w.heap.size w wx)=>jd8 T i ao len cap at' L hlen hi wx (HT.held hb) (hold H hb));have HV3:=lh (fun wx (hb:Below w.heap.size w wx)=>jca T i ao len cap at' L hlen hi wx (HT.held hb) (hold H hb));obtain ⟨hil,hit⟩:=HT;obtain ⟨b,off,hia,x0,x1,x2,x3,x4,wi⟩:=hit i hi;have hbl:b<w.heap.size:=World.block_lt_of_cell? w _ x0
 have hne:¬b=w.heap.size:=by omega
 clear hit;have hst:=BoxSI.start T (T.items i) ao len cap at' w;unfold subO itmO at hst;rw [hia] at hst;have HS:=lh hst;have hv:=fun wx (hb:Below w.heap.size w wx)=>jbh ao len cap L (at':Nat) (T.items i).name (by omega) wx (hold H hb);unfold foundV at hv;have hE:ckItem L len at' T i=if nameS (T.items i).name=false then 5 else if posZ (itemL L len (at':Nat) (T.items i).name)<i then 6 else if T.kind=9 then ckValue L len at' T i else if T.kind=13 then ckField L len T i else ckBranch L len at' T i:=rfl;obtain ⟨z,hz⟩:∃ z,itemL L len (at':Nat) (T.items i).name=z:=⟨_,rfl⟩;rw [hz] at hv hE;obtain ⟨y,hy⟩:∃ y,posZ z=y:=⟨_,rfl⟩;rw [hy] at hv hE;have hnm:=fun w=>jdx (T.items i).name (Nat.le_trans wi.2.2 (by decide)) w;obtain ⟨q,hq⟩:∃ q,nameS (T.items i).name=q:=⟨_,rfl⟩;rw [hq] at hnm hE;have HV:=lh hv;have HM:=lh hnm;have HE:=lh hE;have hv1:=HV1.out;have hv2:=HV2.out;have hv3:=HV3.out;obtain ⟨e1,he1⟩:∃ e,ckValue L len at' T i=e:=⟨_,rfl⟩;obtain ⟨e2,he2⟩:∃ e,ckField L len T i=e:=⟨_,rfl⟩;obtain ⟨e3,he3⟩:∃ e,ckBranch L len at' T i=e:=⟨_,rfl⟩;rw [he1] at hv1 hE;rw [he2] at hv2 hE;rw [he3] at hv3 hE;unfold subV at hv1 hv2 hv3 ⊢;rw [hia] at hv1 hv2 hv3;rw [hia];have HW1:=lh hv1;have HW2:=lh hv2;have HW3:=lh hv3;have HE:=lh hE;have HIA:=lh hia;clear hst hv hz hy hq hE H hia hnm hv1 hv2 hv3 HV1 HV2 HV3 he1 he2 he3;go_enter Tryz.func224,Tryz.ntmps224
 go_upto_region 2 with (fail)
 clear x0 x1 x2 x3 x4 hne hbl;generalize ((w.alloc (.cells #[.int .i64 T.kind,.string T.name,.int .i64 T.bound,.int .i64 T.of,.int .i64 T.tag,.slice (some ⟨b,off,none⟩) T.ilen T.icap,.slice ao len cap,.int .i64 at'] 210)).alloc (.cells #[.string (T.items i).name,.int .u64 (T.items i).num,.int .i64 (T.items i).type,.bool (T.items i).key,.bool (T.items i).rest] 60))=W0 at *;obtain ⟨x0,x1,x2,x3,x4⟩:=HS.out.cells
 cases q with
 |false=>
  go_wp2_with (go_at_call 222;refine (HM.out _).mono ?_;rintro e w2 ⟨rfl,hb2⟩;have HB2:=lh (HS.out.keep hb2);clear hb2);go_ret;exact ⟨jo (by rw [HE.out];rfl),HB2.out.2.2⟩
 |true=>
  by_cases hlt:y<i
  · go_wp2_with (first
     |(go_at_call 222;refine (HM.out _).mono ?_;rintro e w2 ⟨rfl,hb2⟩;have HB2:=lh (HS.out.keep hb2);obtain ⟨y0,y1,y2,y3,y4⟩:=HB2.out.cells;obtain ⟨d0,d1,d2,d3,d4,d5,d6,d7⟩:=HB2.out.2.cells;clear hb2)
     |(go_at_call 128;refine (HV.out _ HB2.out.2.2).mono ?_;rintro e w3 ⟨rfl,hb3⟩;have HB3:=lh (HB2.out.keep hb3);clear hb3))
    go_ret;exact ⟨jo (by rw [HE.out];simp [hlt]),HB3.out.2.2⟩
  · have HF:=lh (show ckItem L len at' T i=if T.kind=9 then e1 else if T.kind=13 then e2 else e3 by rw [HE.out,if_neg (by simp),if_neg hlt])
    have hc:T.kind=9∨T.kind=13∨(T.kind≠9∧T.kind≠13):=by omega
    rcases hc with h|h|⟨h,h'⟩
    · have HG:=lh (show ckItem L len at' T i=e1 by rw [HF.out];rw [if_pos h])
      have k9:(T.kind==9)=true:=by simpa using h
      clear h
      go_wp2_with (first
       |(go_at_call 222;refine (HM.out _).mono ?_;rintro e w2 ⟨rfl,hb2⟩;have HB2:=lh (HS.out.keep hb2);obtain ⟨y0,y1,y2,y3,y4⟩:=HB2.out.cells;obtain ⟨d0,d1,d2,d3,d4,d5,d6,d7⟩:=HB2.out.2.cells;clear hb2)
       |(go_at_call 128;refine (HV.out _ HB2.out.2.2).mono ?_;rintro e w3 ⟨rfl,hb3⟩;have HB3:=lh (HB2.out.keep hb3);obtain ⟨f0,f1,f2,f3,f4,f5,f6,f7⟩:=HB3.out.2.cells;rw [HIA.out] at f5;clear hb3)
       |(go_at_call 248;refine (HW1.out _ HB3.out.2.2).mono ?_;rintro e w4 ⟨rfl,hb4⟩;have HB4:=lh (HB3.out.keep hb4);clear hb4))
      go_ret;exact ⟨jo (by rw [HG.out]),HB4.out.2.2⟩
    · have HG:=lh (show ckItem L len at' T i=e2 by rw [HF.out];rw [if_neg (by omega),if_pos h])
      have k9:(T.kind==9)=false:=by simp;omega
      have k13:(T.kind==13)=true:=by simpa using h
      clear h
      go_wp2_with (first
       |(go_at_call 222;refine (HM.out _).mono ?_;rintro e w2 ⟨rfl,hb2⟩;have HB2:=lh (HS.out.keep hb2);obtain ⟨y0,y1,y2,y3,y4⟩:=HB2.out.cells;obtain ⟨d0,d1,d2,d3,d4,d5,d6,d7⟩:=HB2.out.2.cells;clear hb2)
       |(go_at_call 128;refine (HV.out _ HB2.out.2.2).mono ?_;rintro e w3 ⟨rfl,hb3⟩;have HB3:=lh (HB2.out.keep hb3);obtain ⟨f0,f1,f2,f3,f4,f5,f6,f7⟩:=HB3.out.2.cells;rw [HIA.out] at f5;clear hb3)
       |(go_at_call 249;refine (HW2.out _ HB3.out.2.2).mono ?_;rintro e w4 ⟨rfl,hb4⟩;have HB4:=lh (HB3.out.keep hb4);clear hb4))
      go_ret;exact ⟨jo (by rw [HG.out]),HB4.out.2.2⟩
    · have HG:=lh (show ckItem L len at' T i=e3 by rw [HF.out];rw [if_neg h,if_neg h'])
      have k9:(T.kind==9)=false:=by simpa using h
      have k13:(T.kind==13)=false:=by simpa using h'
      clear h h'
      go_wp2_with (first
       |(go_at_call 222;refine (HM.out _).mono ?_;rintro e w2 ⟨rfl,hb2⟩;have HB2:=lh (HS.out.keep hb2);obtain ⟨y0,y1,y2,y3,y4⟩:=HB2.out.cells;obtain ⟨d0,d1,d2,d3,d4,d5,d6,d7⟩:=HB2.out.2.cells;clear hb2)
       |(go_at_call 128;refine (HV.out _ HB2.out.2.2).mono ?_;rintro e w3 ⟨rfl,hb3⟩;have HB3:=lh (HB2.out.keep hb3);obtain ⟨f0,f1,f2,f3,f4,f5,f6,f7⟩:=HB3.out.2.cells;rw [HIA.out] at f5;clear hb3)
       |(go_at_call 250;refine (HW3.out _ HB3.out.2.2).mono ?_;rintro e w4 ⟨rfl,hb4⟩;have HB4:=lh (HB3.out.keep hb4);clear hb4))
      go_ret;exact ⟨jo (by rw [HG.out]),HB4.out.2.2⟩
def firstE (e:Nat→Int) (n:Nat):Int:=if firstN (fun j=>e j !=0) n<n then e (firstN (fun j=>e j !=0) n) else 0
theorem qq {e:Nat→Int} {n k:Nat} (h:∀ i,i<k→(e i !=0)=false) (hk:k<n) (hp:(e k !=0)=true):firstE e n=e k:=by
 unfold firstE;rw [qr h hk hp,if_pos hk]
theorem kv {e:Nat→Int} {n:Nat} (h:∀ i,i<n→(e i !=0)=false):firstE e n=0:=by
 unfold firstE;rw [kp h,if_neg (Nat.lt_irrefl _)]
def ckItems (L:Nat→TypeV) (len at':Nat) (T:TypeV):Int:=firstE (ckItem L len at' T) T.ilen
theorem jdw (T:TypeV) (ao:Option Addr) (len cap at':Nat) (L:Nat→TypeV) (hlen:len≤1000000) (w:World) (HT:ItemsAt w T) (H:∀ i,i<len→TypeAt w ao i (L i)):
  Calls Tryz.prog 195 #[subV T ao len cap at'] w fun e w'=>e=.returned (.int .i64 (ckItems L len at' T))∧Below w.heap.size w w':=by
 have hil:=HT.1;have HC:=lh (fun i (hi:i<T.ilen) wx (hb:Below w.heap.size w wx)=>je6 T i ao len cap at' L hlen hi wx (HT.held hb) (hold H hb));have hst:=BoxS.start T ao len cap at' w;unfold subO at hst;have HS:=lh hst;have HE:=lh (show ckItems L len at' T=firstE (ckItem L len at' T) T.ilen from rfl);clear hst HT H;unfold subV;go_enter Tryz.func195,Tryz.ntmps195;go_wp2
 go_loopw [9] (fun i wr=>∃ j:Nat,j≤T.ilen∧i=.int .i64 j∧Hid (∀ m,m<j→(ckItem L len at' T m !=0)=false)∧Hid (BoxS w.heap.size T ao len cap at' w wr)) (fun i _=>T.ilen - (intOf i).toNat)
 case atStart=>exact ⟨0,Nat.zero_le _,rfl,lh (fun m hm=>absurd hm (Nat.not_lt_zero _)),HS⟩
 case round=>
  obtain ⟨j,hj,rfl,HF,HB⟩:=hrel
  by_cases hlt:j<T.ilen
  · obtain ⟨c0,c1,c2,c3,c4,c5,c6,c7⟩:=HB.out.cells;have hcall:=HC.out j hlt wr HB.out.2;unfold subV at hcall;obtain ⟨q,hq⟩:∃ q,ckItem L len at' T j=q:=⟨_,rfl⟩;rw [hq] at hcall;have HD:=lh hcall;clear hcall
    cases hz:(q !=0) with
    |true=>
     have HT:=lh (qq (e:=ckItem L len at' T) HF.out hlt (by rw [hq];exact hz));have HQ:=lh hq;clear hq;go_wp2_with (go_at_call 224;refine (HD.out).mono ?_;rintro e w2 ⟨rfl,hb2⟩;have HB2:=lh (HB.out.keep hb2);clear hb2);go_ret;exact ⟨jo (by rw [HE.out,HT.out,HQ.out]),HB2.out.2⟩
    |false=>
     have HF2:=lh (ji (p:=fun m=>ckItem L len at' T m !=0) HF.out (by rw [hq];exact hz));clear hq;go_wp2_with (go_at_call 224;refine (HD.out).mono ?_;rintro e w2 ⟨rfl,hb2⟩;have HB2:=lh (HB.out.keep hb2);clear hb2);go_roundw
     case rel=>exact ⟨j+1,by omega,by go_num,HF2,HB2⟩
     case measure=>simp [intOf];omega
  · obtain rfl:j=T.ilen:=by omega
    have HT:=lh (kv (e:=ckItem L len at' T) HF.out);go_wp2;go_ret;exact ⟨jo (by rw [HE.out,HT.out]),HB.out.2⟩
def fnv (f:Nat) (S:Value):Value:=.func (.func f) #[S] #[]
def ckG:Nat→Nat
 |0=>188
 |1=>189
 |2=>190
 |3=>191
 |4=>192
 |5=>193
 |6=>194
 |7=>195
 |_=>196
def ckAt (L:Nat→TypeV) (len at':Nat):Nat→Int
 |0=>ckKind (L at')
 |1=>ckForm (L at')
 |2=>ckName L (L at') at'
 |3=>ckBound (L at')
 |4=>ckOrder (L at') at'
 |5=>ckTag L len (L at')
 |6=>ckCount (L at')
 |7=>ckItems L len at' (L at')
 |_=>ckDepth L len at'
theorem lt9 {j:Nat} (h:j<9):j=0∨j=1∨j=2∨j=3∨j=4∨j=5∨j=6∨j=7∨j=8:=by omega
theorem jk1 (T:TypeV) (ao:Option Addr) (len cap at':Nat) (w:World):Calls Tryz.prog 163 #[subV T ao len cap at'] w fun e w'=>
  ∃ g,e=.returned (.slice (some ⟨g,0,none⟩) 9 9)∧(∀ j,j<9→w'.cell? ⟨g,j,none⟩=some (fnv (ckG j) (subV T ao len cap at')))∧Below w.heap.size w w':=by
 have hmf':=hmf;unfold subV;go_enter Tryz.func163,Tryz.ntmps163;go_wp2;go_ret;refine ⟨_,rfl,?_,(((Below.refl _ _).alloc (Nat.le_refl _) _).alloc (by simp) _)⟩;intro j hj
 rcases lt9 hj with rfl|rfl|rfl|rfl|rfl|rfl|rfl|rfl|rfl
 all_goals first|exact ja (jd _ _) rfl|simp [fnv,ckG]
theorem jeh (g n:Nat) (G:Nat→Nat) (S:Value) (e:Nat→Int) (hn:n≤100) (w:World) (hc:∀ j,j<n→w.cell? ⟨g,j,none⟩=some (fnv (G j) S)) (eg:∀ j,j<n→Enters (G j))
  (hp:∀ j,j<n→(∀ i,i<j→e i=0)→∀ W,Below w.heap.size w W→Calls Tryz.prog (G j) #[S] W fun r W'=>r=.returned (.int .i64 (e j))∧Below W.heap.size W W'):
  Calls Tryz.prog 162 #[.slice (some ⟨g,0,none⟩) n n] w fun r w'=>r=.returned (.int .i64 (firstE e n))∧Below w.heap.size w w':=by
 have HC:=lh hc;have HG:=lh eg;have HP:=lh hp;clear hc eg hp;go_enter Tryz.func162,Tryz.ntmps162;go_wp2
 go_loopw [8] (fun i wr=>∃ j:Nat,j≤n∧i=.int .i64 j∧Hid (∀ m,m<j→(e m !=0)=false)∧Hid (Below w.heap.size w wr)) (fun i _=>n - (intOf i).toNat)
 case atStart=>exact ⟨0,Nat.zero_le _,rfl,lh (fun m hm=>absurd hm (Nat.not_lt_zero _)),lh (Below.refl _ _)⟩
 case round=>
  obtain ⟨j,hj,rfl,HF,HB⟩:=hrel
  by_cases hlt:j<n
  · have c:=jk HB.out (HC.out j hlt);unfold fnv at c;have hent:=HG.out j hlt;have hcall:=HP.out j hlt (fun i hi=>by have:=HF.out i hi;simpa using this) wr HB.out;obtain ⟨f,hf⟩:∃ f,G j=f:=⟨_,rfl⟩;rw [hf] at c hent hcall;unfold Enters at hent;obtain ⟨q,hq⟩:∃ q,e j=q:=⟨_,rfl⟩;rw [hq] at hcall;have HD:=lh hcall;clear hcall hf
    cases hz:(q !=0) with
    |true=>
     have HT:=lh (qq (e:=e) HF.out hlt (by rw [hq];exact hz));have HQ:=lh hq;clear hq;go_wp2_with (go_at_fn f;refine (HD.out).mono ?_;rintro r w2 ⟨rfl,hb2⟩;have HB2:=lh (HB.out.trans (hb2.mono HB.out.size));clear hb2);go_ret;exact ⟨jo (by rw [HT.out,HQ.out]),HB2.out⟩
    |false=>
     have HF2:=lh (ji (p:=fun m=>e m !=0) HF.out (by rw [hq];exact hz));clear hq;go_wp2_with (go_at_fn f;refine (HD.out).mono ?_;rintro r w2 ⟨rfl,hb2⟩;have HB2:=lh (HB.out.trans (hb2.mono HB.out.size));clear hb2);go_roundw
     case rel=>exact ⟨j+1,by omega,by go_num,HF2,HB2⟩
     case measure=>simp [intOf];omega
  · obtain rfl:j=n:=by omega
    have HT:=lh (kv (e:=e) HF.out);go_wp2;go_ret;exact ⟨jo (by rw [HT.out]),HB.out⟩
theorem jnl (j:Nat) (hj:j<9):Enters (ckG j):=by
 rcases lt9 hj with rfl|rfl|rfl|rfl|rfl|rfl|rfl|rfl|rfl
 · exact enters_of Tryz.func188 (by kernel_rfl) rfl
 · exact enters_of Tryz.func189 (by kernel_rfl) rfl
 · exact enters_of Tryz.func190 (by kernel_rfl) rfl
 · exact enters_of Tryz.func191 (by kernel_rfl) rfl
 · exact enters_of Tryz.func192 (by kernel_rfl) rfl
 · exact enters_of Tryz.func193 (by kernel_rfl) rfl
 · exact enters_of Tryz.func194 (by kernel_rfl) rfl
 · exact enters_of Tryz.func195 (by kernel_rfl) rfl
 · exact enters_of Tryz.func196 (by kernel_rfl) rfl
theorem jsu (ao:Option Addr) (len cap at':Nat) (L:Nat→TypeV) (hlen:len≤1000000) (hcap:len≤cap) (hat:at' <len) (w:World) (H:∀ i,i<len→TypeAt w ao i (L i)) (j:Nat) (hj:j<9):
  Calls Tryz.prog (ckG j) #[subV (L at') ao len cap at'] w fun e w'=>e=.returned (.int .i64 (ckAt L len at' j))∧Below w.heap.size w w':=by
 have hT:=H at' hat;obtain ⟨b,off,hao,c0,c1,c2,c3,c4,c5,wf,hi⟩:=hT
 rcases lt9 hj with rfl|rfl|rfl|rfl|rfl|rfl|rfl|rfl|rfl
 · exact jeu (L at') ao len cap at' w
 · exact jez (L at') ao len cap at' w hi
 · exact jep (L at') ao len cap at' L hlen hcap hat wf.2.2.2.2 w H
 · exact jdi (L at') ao len cap at' w
 · exact jdn (L at') ao len cap at' hlen hcap hat ⟨_,hao⟩ w hi
 · exact jgc (L at') ao len cap at' L hlen w H
 · exact jc5 (L at') ao len cap at' hi.1 w
 · exact jdw (L at') ao len cap at' L hlen w hi H
 · exact jcr (L at') ao len cap at' L hlen hat w H
def oneC (L:Nat→TypeV) (len at':Nat):Int:=firstE (ckAt L len at') 9
def fErr (one:Nat→Int) (len:Nat):Int:=if 32<len then 3 else firstE one len
def fAt (one:Nat→Int) (len:Nat):Int:=if 32<len then 32 else if firstN (fun i=>one i !=0) len<len then (firstN (fun i=>one i !=0) len:Nat) else 0
def faultV (one:Nat→Int) (len:Nat):Value:=.agg #[.int .i64 (fErr one len),.int .i64 (fAt one len)]
theorem jde {one:Nat→Int} {len:Nat} (h:32<len):faultV one len=.agg #[.int .i64 3,.int .i64 32]:=by unfold faultV fErr fAt;rw [if_pos h,if_pos h]
theorem jhz {one:Nat→Int} {len k:Nat} (h:len≤32) (hf:∀ i,i<k→(one i !=0)=false) (hk:k<len) (hp:(one k !=0)=true):faultV one len=.agg #[.int .i64 (one k),.int .i64 (k:Nat)]:=by
 unfold faultV fErr fAt;rw [if_neg (by omega),if_neg (by omega),qq hf hk hp,qr hf hk hp,if_pos hk]
theorem jcx {one:Nat→Int} {len:Nat} (h:len≤32) (hf:∀ i,i<len→(one i !=0)=false):faultV one len=.agg #[.int .i64 0,.int .i64 0]:=by
 unfold faultV fErr fAt;rw [if_neg (by omega),if_neg (by omega),kv hf,kp hf,if_neg (Nat.lt_irrefl _)]
theorem jkl (ao:Option Addr) (len cap:Nat) (L:Nat→TypeV) (hlen:len≤1000000) (hcap:len≤cap) (w:World) (H:∀ i,i<len→TypeAt w ao i (L i)):
  Calls Tryz.prog 123 #[.slice ao len cap] w fun e w'=>e=.returned (faultV (oneC L len) len)∧Below w.heap.size w w':=by
 have HH:=lh H;clear H
 by_cases h32:32<len
 · rw [jde h32];go_enter Tryz.func123,Tryz.ntmps123;go_wp2
   go_returns
   exact ⟨rfl,by go_grown⟩
 · have h32':len≤32:=by omega
   have HQ:=lh (jd w (.cells #[.int .i64 0,.int .i64 0] 54));have HB:=lh ((Below.refl w.heap.size w).alloc (Nat.le_refl _) (.cells #[.int .i64 0,.int .i64 0] 54));obtain ⟨R,hR⟩:∃ R,faultV (oneC L len) len=R:=⟨_,rfl⟩;rw [hR];have HR:=lh hR;clear hR;go_enter Tryz.func123,Tryz.ntmps123;go_wp2
   go_loopw [12] (fun i wr=>∃ k:Nat,k≤len∧i=.int .i64 k∧Hid (∀ m,m<k→(oneC L len m !=0)=false)∧Hid (wr.heap[w.heap.size]?=some (.cells #[.int .i64 0,.int .i64 0] 54 (0,0)))∧Hid (Below w.heap.size w wr)) (fun i _=>len - (intOf i).toNat)
   case atStart=>exact ⟨0,Nat.zero_le _,rfl,lh (fun m hm=>absurd hm (Nat.not_lt_zero _)),HQ,HB⟩
   case round=>
    obtain ⟨k,hk,rfl,HF,HQr,HBr⟩:=hrel
    by_cases hlt:k<len
    · have HT:=lh (hold HH.out HBr.out);obtain ⟨b,off,hao,c0,c1,c2,c3,c4,c5,wf,_⟩:=HT.out k hlt;subst hao;have hbl:b<wr.heap.size:=World.block_lt_of_cell? wr _ c0
      have hne:¬b=wr.heap.size:=by omega
      have hck:=fun wx=>jk1 (L k) (some ⟨b,off,none⟩) len cap k wx
      have hfe:=fun (g:Nat) (w2:World) (hb:Below wr.heap.size wr w2) (hc:∀ j,j<9→w2.cell? ⟨g,j,none⟩=some (fnv (ckG j) (subV (L k) (some ⟨b,off,none⟩) len cap k)))=>
       jeh g 9 ckG (subV (L k) (some ⟨b,off,none⟩) len cap k) (ckAt L len k) (by decide) w2 hc jnl (fun j hj _ W hW=>jsu (some ⟨b,off,none⟩) len cap k L hlen hcap hlt W (hold HT.out (hb.trans (hW.mono hb.size))) j hj)
      obtain ⟨q,hq⟩:∃ q,oneC L len k=q:=⟨_,rfl⟩;have hq':firstE (ckAt L len k) 9=q:=hq;rw [hq'] at hfe;have HFE:=lh hfe;unfold subV at hck
      have hck2:∀ wx,Calls Tryz.prog 163 #[.agg #[.int .i64 (L k).kind,.string (L k).name,.int .i64 (L k).bound,.int .i64 (L k).of,.int .i64 (L k).tag,.slice (L k).ia (L k).ilen (L k).icap,.slice (some ⟨b,off,none⟩) len cap,.int .i64 k]] wx fun e w'=>
       ∃ g,e=.returned (.slice (some ⟨g,0,none⟩) 9 9)∧Hid (∀ j,j<9→w'.cell? ⟨g,j,none⟩=some (fnv (ckG j) (subV (L k) (some ⟨b,off,none⟩) len cap k)))∧Below wx.heap.size wx w':=fun wx=>(hck wx).mono fun _ _ ⟨g,h1,h2,h3⟩=>⟨g,h1,lh h2,h3⟩
      have HCK:=lh hck2;clear hfe hck hck2 hq'
      cases hz:(q !=0) with
      |true=>
       have HA:=lh (jhz (one:=oneC L len) h32' HF.out hlt (by rw [hq];exact hz));have HQ1:=lh hq;clear hq
       go_wp2_with (first
        |(go_at_call 163;refine (HCK.out _).mono ?_;rintro r w2 ⟨g,rfl,HC2,hb2⟩;have HB2:=lh (((Below.refl wr.heap.size wr).alloc (Nat.le_refl _) _).trans (hb2.mono (by simp)));clear hb2)
        |(go_at_call 162;refine (HFE.out _ _ HB2.out HC2.out).mono ?_;rintro r w3 ⟨rfl,hb3⟩;have HB3:=lh (HB2.out.trans (hb3.mono HB2.out.size));have HQ3:=lh (yv HQr.out HB3.out);have HW3:=lh (HBr.out.trans (HB3.out.mono HBr.out.size));clear hb3)
        |(refine wpList_store_rowTo rfl 54 _ _ rfl rfl w.heap.size #[.int .i64 q,.int .i64 k] rfl rfl _ _ HQ3.out (by kernel_rfl) (by kernel_rfl) (by kernel_rfl) ?_))
       refine bodyPost_ret (v:=.agg #[.int .i64 q,.int .i64 k]) ?_ rfl ⟨by rw [←HR.out,HA.out,HQ1.out],below_setRow HW3.out (Nat.le_refl _) _⟩;have hl:=run_loadVar_row (P:=Tryz.prog) _ w.heap.size _ 54 _ _ _ (setRow_heap _ _ _ #[.int .i64 q,.int .i64 k] _ _ HQ3.out) Tryz.underlying54 rfl (by kernel_rfl);simp [results,Tryz.results123,asAddr];exact hl
      |false=>
       have HF2:=lh (ji (p:=fun m=>oneC L len m !=0) HF.out (by rw [hq];exact hz));clear hq
       go_wp2_with (first
        |(go_at_call 163;refine (HCK.out _).mono ?_;rintro r w2 ⟨g,rfl,HC2,hb2⟩;have HB2:=lh (((Below.refl wr.heap.size wr).alloc (Nat.le_refl _) _).trans (hb2.mono (by simp)));clear hb2)
        |(go_at_call 162;refine (HFE.out _ _ HB2.out HC2.out).mono ?_;rintro r w3 ⟨rfl,hb3⟩;have HB3:=lh (HB2.out.trans (hb3.mono HB2.out.size));have HQ3:=lh (yv HQr.out HB3.out);have HW3:=lh (HBr.out.trans (HB3.out.mono HBr.out.size));clear hb3))
       go_roundw
       case rel=>exact ⟨k+1,by omega,by go_num,HF2,HQ3,HW3⟩
       case measure=>simp [intOf];omega
    · obtain rfl:k=len:=by omega
      have HA:=lh (jcx (one:=oneC L k) h32' HF.out);go_wp2_with (refine wpList_store_rowTo rfl 54 _ _ rfl rfl w.heap.size #[.int .i64 0,.int .i64 0] rfl rfl _ _ HQr.out (by kernel_rfl) (by kernel_rfl) (by kernel_rfl) ?_);refine bodyPost_ret (v:=.agg #[.int .i64 0,.int .i64 0]) ?_ rfl ⟨by rw [←HR.out,HA.out],below_setRow HBr.out (Nat.le_refl _) _⟩;have hl:=run_loadVar_row (P:=Tryz.prog) _ w.heap.size _ 54 _ _ _ (setRow_heap _ _ _ #[.int .i64 0,.int .i64 0] _ _ HQr.out) Tryz.underlying54 rfl (by kernel_rfl);simp [results,Tryz.results123,asAddr];exact hl
def kindBad (T:TypeV):Bool:=decide (T.kind<1)||decide (14<T.kind)
def bndR (T:TypeV):Bool:=(T.kind==10&&decide (T.bound<0))||((T.kind==11||T.kind==12)&&decide (T.bound<1))||decide (64<T.bound)
def partOut (at':Nat) (p:Int):Bool:=decide (p<0)||decide ((at':Int)≤p)
def orderR (T:TypeV) (at':Nat):Bool:=hasB (fun j=>partOut at' ((partsL T).getD j 0)) (partsL T).length
def tagR (L:Nat→TypeV) (T:TypeV):Bool:=T.kind==14&&!numK (L T.tag.toNat).kind
def oneT (L:Nat→TypeV) (len at':Nat) (T:TypeV):Int:=
 if kindBad T then 4 else if moreB T then 1 else if namedK T.kind&&!nameS T.name then 5 else if namedK T.kind&&nameTw L T at' then 6 else if bndR T then 7 else if orderR T at' then 14
 else if tagR L T then 8 else if namedK T.kind&&decide (T.ilen=0) then 18 else if 16<T.ilen then 3 else if firstE (itemE L T) T.ilen≠0 then firstE (itemE L T) T.ilen else if 6<deepL L len (at':Nat) then 9 else 0
def oneR (L:Nat→TypeV) (len at':Nat):Int:=oneT L len at' (L at')
theorem jay {T:TypeV} {at':Nat} (h:orderR T at'=false) (p:Int) (hp:p∈partsL T):0≤p∧p<at':=by
 obtain ⟨j,hj,he⟩:=List.getElem_of_mem hp
 cases hq:partOut at' ((partsL T).getD j 0) with
 |true=>
  have:=yg (p:=fun j=>partOut at' ((partsL T).getD j 0)) hj hq
  unfold orderR at h;rw [h] at this;cases this
 |false=>
  rw [List.getD_eq_getElem?_getD,List.getElem?_eq_getElem hj] at hq;simp only [Option.getD_some] at hq;rw [he] at hq;unfold partOut at hq;simp at hq;omega
theorem jgq {T:TypeV} {at':Nat} (h:orderR T at'=false) (hk:(T.kind==14)=true):0≤T.tag∧T.tag<at':=
 jay h T.tag (by rw [qy (by simpa using hk)];exact List.mem_cons_self)
theorem jmh {T:TypeV} {at':Nat} (h:orderR T at'=false) (hk:T.kind=13∨T.kind=14) {j:Nat} (hj:j<T.ilen):0≤(T.items j).type∧(T.items j).type<at':=by
 refine jay h _ ?_;have hm:(T.items j).type∈(List.range T.ilen).map fun j=>(T.items j).type:=List.mem_map.2 ⟨j,List.mem_range.2 hj,rfl⟩
 rcases hk with hk|hk
 · rw [yo hk];exact hm
 · rw [qy hk];exact List.mem_cons_of_mem _ hm
theorem jd7 {T:TypeV} (h:moreB T=false) {j:Nat} (hj:j<T.ilen):namedK T.kind=true:=by
 unfold moreB c1B at h;rw [Bool.or_eq_false_iff,Bool.or_eq_false_iff,Bool.or_eq_false_iff] at h;have h2:=h.1.1.2;rw [decide_eq_true (show 0<T.ilen by omega)] at h2
 simpa using h2
theorem Zg {k:Int} (h:namedK k=true):k=9∨k=13∨k=14:=by
 unfold namedK at h;simp at h;omega
theorem js1 {T:TypeV} {at' len:Nat} (h:moreB T=false) (ho:orderR T at'=false) (hat:at' <len) {j:Nat} (hj:j<T.ilen):T.kind=13∨T.kind=9∨(0≤T.tag∧T.tag<len):=by
 rcases Zg (jd7 h hj) with h|h|h
 · exact .inr (.inl h)
 · exact .inl h
 · have:=jgq ho (by simpa using h);exact .inr (.inr (by omega))
theorem BoxT.drewN {g:Nat} {T:TypeV} {w0 w:World} (h:BoxT g T w0 w) (m:Nat):BoxT g T w0 (w.drewN m):=h.keep (jf (Below.refl _ _) m)
theorem jkz (ao:Option Addr) (len cap:Nat) (L:Nat→TypeV) (hlen:len≤1000000) (at':Nat) (hat:at' <len) (w:World) (H:∀ i,i<len→TypeAt w ao i (L i)):
  Calls Tryz.prog 38 #[.slice ao len cap,.int .i64 at'] w fun e w'=>e=.returned (.int .i64 (oneR L len at'))∧Below w.heap.size w w':=by
 have HH:=lh H;obtain ⟨b,off,hao,x0,x1,x2,x3,x4,x5,wf,hit⟩:=H at' hat;subst hao;have hbl:b<w.heap.size:=World.block_lt_of_cell? w _ x0
 have hne:¬b=w.heap.size:=by omega
 obtain ⟨R,hR⟩:∃ R,oneR L len at'=R:=⟨_,rfl⟩;rw [hR];have HR:=lh hR;obtain ⟨T,hT⟩:∃ T,L at'=T:=⟨_,rfl⟩;have HE:=lh (show oneT L len at' T=R by rw [←hR,←hT];rfl);rw [hT] at x0 x1 x2 x3 x4 x5 wf hit;have HT:=lh hT;have HI:=lh hit;have HB:=lh (BoxT.start T w);clear hR hT H hit;go_enter Tryz.func38,Tryz.ntmps38
 go_upto_region 2 with (fail)
 have hb0:typO T=(.cells #[.int .i64 T.kind,.string T.name,.int .i64 T.bound,.int .i64 T.of,.int .i64 T.tag,.slice T.ia T.ilen T.icap] 58):=rfl;rw [←hb0];clear hb0 x0 x1 x2 x3 x4 x5 hbl hne;generalize w.alloc (typO T)=W0 at *;obtain ⟨d0,d1,d2,d3,d4,d5⟩:=HB.out.cells
 cases h1:kindBad T with
 |true=>
  have HF:=lh (show R=4 by rw [←HE.out];unfold oneT;rw [h1];rfl)
  by_cases hk:T.kind<1
  · go_wp2;go_ret;exact ⟨jo HF.out.symm,HB.out.2⟩
  · have hk2:14<T.kind:=by unfold kindBad at h1;rw [decide_eq_false hk] at h1;simpa using h1
    go_wp2;go_ret;exact ⟨jo HF.out.symm,HB.out.2⟩
 |false=>
  have hk1:¬T.kind<1:=by intro h;unfold kindBad at h1;rw [decide_eq_true h] at h1;simp at h1
  have hk2:¬14<T.kind:=by intro h;unfold kindBad at h1;rw [decide_eq_true h] at h1;simp at h1
  have HM:=lh (jik T W0 (HI.out.held HB.out.2));have hm:=HM.out;unfold typV at hm
  cases h2:moreB T with
  |true=>
   rw [h2] at hm;have HM:=lh hm;have HF:=lh (show R=1 by rw [←HE.out];unfold oneT;rw [h1,h2];rfl);clear hm h1 h2;go_wp2_with (go_at_call 71;refine (HM.out).mono ?_;rintro e w2 ⟨rfl,hb2⟩;have HB2:=lh (HB.out.keep hb2);clear hb2);go_ret;exact ⟨jo HF.out.symm,HB2.out.2⟩
  |false=>
   rw [h2] at hm;have HM:=lh hm;clear hm;have hE2:=HE.out;unfold oneT at hE2;rw [h1,h2] at hE2;simp only [Bool.false_eq_true,if_false] at hE2;have HE:=lh hE2;have HC1:=lh h2;clear hE2 h1 h2
   go_upto_region 6 with (go_at_call 71;refine (HM.out).mono ?_;rintro e w2 ⟨rfl,hb2⟩;have HB2:=lh (HB.out.keep hb2);clear hb2)
   clear d0 d1 d2 d3 d4 d5 HM HB;obtain ⟨d0,d1,d2,d3,d4,d5⟩:=HB2.out.cells
   go_upto_if 27 with (go_at_call 72;refine (zf _ _).mono ?_;rintro e w' ⟨rfl,rfl⟩)
   go_cut [] (fun wx=>Hid (BoxT w.heap.size T w wx)∧Hid ((namedK T.kind&&!nameS T.name)=false∧(namedK T.kind&&nameTw L T at')=false))
   case first=>
    cases hn:namedK T.kind with
    |false=>
     go_wp2
     go_meet
     exact ⟨HB2,lh ⟨by rw [hn];rfl,by rw [hn];rfl⟩⟩
    |true=>
     have hnm:=fun w=>Y5 T.name (Nat.le_trans wf.2.2.2.2 (by decide)) w
     cases hs:nameS T.name with
     |false=>
      rw [hs] at hnm;have HN:=lh hnm;have HF:=lh (show R=5 by rw [←HE.out,hn,hs];rfl);clear hnm hs;go_wp2_with (go_at_call 73;refine (HN.out _).mono ?_;rintro e w3 ⟨rfl,hb3⟩;have HB3:=lh (HB2.out.keep hb3);clear hb3);go_ret;exact ⟨jo HF.out.symm,HB3.out.2⟩
     |true=>
      rw [hs] at hnm;have HN:=lh hnm;clear hnm;go_wp2_with (go_at_call 73;refine (HN.out _).mono ?_;rintro e w3 ⟨rfl,hb3⟩;have HB3:=lh (HB2.out.keep hb3);clear hb3);clear d0 d1 d2 d3 d4 d5
      go_loopw [6] (fun i wr=>∃ j:Nat,j≤at'∧i=.int .i64 j∧Hid (∀ m,m<j→((L m).name.toList==T.name.toList)=false)∧Hid (BoxT w.heap.size T w wr)) (fun i _=>at' - (intOf i).toNat)
      case atStart=>exact ⟨0,Nat.zero_le _,rfl,lh (fun m hm=>absurd hm (Nat.not_lt_zero _)),HB3⟩
      case round=>
       obtain ⟨j,hj,rfl,HFN,HBr⟩:=hrel
       by_cases hlt:j<at'
       · obtain ⟨b',off',ha,x0,x1,x2,x3,x4,x5,wf',_⟩:=(HH.out j (by omega)).held (w1:=wr) HBr.out.2
         cases ha
         obtain ⟨d0,d1,d2,d3,d4,d5⟩:=HBr.out.cells
         have hll:j<len:=by omega
         cases hq:((L j).name.toList==T.name.toList) with
         |true=>
          have HTW:=lh (show nameTw L T at'=true from yg (p:=fun i=>(L i).name.toList==T.name.toList) hlt hq);have HF:=lh (show R=6 by rw [←HE.out,hn,hs,HTW.out];rfl)
          go_upto_region 12 with (fail)
          go_wp2_with fail
          go_big_quiet (fail)
          go_wp2;go_ret;exact ⟨jo HF.out.symm,(HBr.out.drewN _).2⟩
         |false=>
          have HF2:=lh (ji (p:=fun i=>(L i).name.toList==T.name.toList) HFN.out hq)
          go_upto_region 12 with (fail)
          go_wp2_with fail
          go_big_quiet (fail)
          go_wp2;go_roundw
          case rel=>exact ⟨j+1,by omega,by go_num,HF2,lh (HBr.out.drewN _)⟩
          case measure=>simp [intOf];omega
       · obtain rfl:j=at':=by omega
         have HTW:=lh (show nameTw L T j=false from zm (p:=fun i=>(L i).name.toList==T.name.toList) HFN.out);go_wp2
         go_meet
         exact ⟨HBr,lh ⟨by rw [hs,hn];rfl,by rw [HTW.out,hn];rfl⟩⟩
   case rest=>
    obtain ⟨HB3,HN3⟩:=hcut;have hE3:=HE.out;rw [HN3.out.1,HN3.out.2] at hE3;simp only [Bool.false_eq_true,if_false] at hE3;have HE:=lh hE3;clear hE3;obtain ⟨d0,d1,d2,d3,d4,d5⟩:=HB3.out.cells
    go_upto_region 14 with (fail)
    go_cut [72] (fun t wx=>t=.bool (bndR T)∧wc=wx)
    case first=>
     have H3:=lh (show bndR T=((T.kind==10&&decide (T.bound<0))||((T.kind==11||T.kind==12)&&decide (T.bound<1))||decide (64<T.bound)) from rfl);obtain ⟨b1,hb1⟩:∃ b,(T.kind==10)=b:=⟨_,rfl⟩;obtain ⟨b2,hb2⟩:∃ b,decide (T.bound<0)=b:=⟨_,rfl⟩;obtain ⟨b3,hb3⟩:∃ b,(T.kind==11)=b:=⟨_,rfl⟩;obtain ⟨b4,hb4⟩:∃ b,(T.kind==12)=b:=⟨_,rfl⟩;obtain ⟨b5,hb5⟩:∃ b,decide (T.bound<1)=b:=⟨_,rfl⟩;obtain ⟨b6,hb6⟩:∃ b,decide (64<T.bound)=b:=⟨_,rfl⟩;have H4:=lh (H3.out.trans (by rw [hb1,hb2,hb3,hb4,hb5,hb6]:_=((b1&&b2)||((b3||b4)&&b5)||b6)));clear H3;go_wp2
     all_goals
      go_meet
      exact ⟨by rw [H4.out];simp_all,by first|rfl|trivial⟩
    case rest=>
     obtain ⟨rfl,rfl⟩:=hcut
     cases h7:bndR T with
     |true=>
      have HF:=lh (show R=7 by rw [←HE.out,h7];rfl);go_wp2;go_ret;exact ⟨jo HF.out.symm,HB3.out.2⟩
     |false=>
      go_upto_region 16 with (fail)
      have hE4:=HE.out;rw [h7] at hE4;simp only [Bool.false_eq_true,if_false] at hE4;have HE:=lh hE4;clear hE4 h7;have hll:=Yh HI.out.1;have hcall:=jaf T wc (HI.out.held HB3.out.2);unfold typV at hcall;obtain ⟨l,hl⟩:∃ l,partsL T=l:=⟨_,rfl⟩;rw [hl] at hcall hll;have HC:=lh hcall;have HPL:=lh hl;clear hcall hl
      go_upto_region 18 with (go_at_call 74;refine (HC.out).mono ?_;rintro e w4 ⟨v,rfl,hown,hb4⟩;obtain ⟨va,vc,rfl,hva⟩:=Xt hown;have HV:=lh hva;have HO:=lh hown;have HB4:=lh (HB3.out.keep hb4);clear hown hva hb4)
      clear d0 d1 d2 d3 d4 d5 HC
      go_loopw [8] (fun i wr=>∃ j:Nat,j≤l.length∧i=.int .i64 j∧Hid (∀ m,m<j→partOut at' (l.getD m 0)=false)∧wr=w4) (fun i _=>l.length - (intOf i).toNat)
      case atStart=>exact ⟨0,Nat.zero_le _,rfl,lh (fun m hm=>absurd hm (Nat.not_lt_zero _)),rfl⟩
      case round=>
       obtain ⟨j,hj,rfl,HFN,rfl⟩:=hrel
       by_cases hlt:j<l.length
       · obtain ⟨g',rfl⟩:=HV.out (by omega);have c:=zr HO.out j hlt;obtain ⟨p,hp⟩:∃ p,l.getD j 0=p:=⟨_,rfl⟩;rw [hp] at c
         cases hq:partOut at' p with
         |true=>
          have HOR:=lh (show orderR T at'=true by unfold orderR;rw [HPL.out];exact yg (p:=fun j=>partOut at' (l.getD j 0)) hlt (by show partOut at' (l.getD j 0)=true;rw [hp];exact hq));have HF:=lh (show R=14 by rw [←HE.out,HOR.out];rfl);clear hp
          by_cases hneg:p<0
          · have t1:decide (p<0)=true:=by simpa using hneg
            clear hneg;go_wp2;go_ret;exact ⟨jo HF.out.symm,HB4.out.2⟩
          · have t1:decide (p<0)=false:=by simpa using hneg
            have t2:decide ((at':Int)≤p)=true:=by unfold partOut at hq;rw [t1] at hq;simpa using hq
            clear hneg;go_wp2;go_ret;exact ⟨jo HF.out.symm,HB4.out.2⟩
         |false=>
          have HF2:=lh (ji (p:=fun m=>partOut at' (l.getD m 0)) HFN.out (by show partOut at' (l.getD j 0)=false;rw [hp];exact hq));clear hp;have hq2:=hq;unfold partOut at hq2;rw [Bool.or_eq_false_iff] at hq2;obtain ⟨t1,t2⟩:=hq2;clear hq;go_wp2;go_roundw
          case rel=>exact ⟨j+1,by omega,by go_num,HF2,by first|rfl|trivial⟩
          case measure=>simp [intOf];omega
       · obtain rfl:j=l.length:=by omega
         have HOR:=lh (show orderR T at'=false by unfold orderR;rw [HPL.out];exact zm (p:=fun j=>partOut at' (l.getD j 0)) HFN.out);have hE5:=HE.out;rw [HOR.out] at hE5;simp only [Bool.false_eq_true,if_false] at hE5;have HE:=lh hE5;clear hE5;obtain ⟨d0,d1,d2,d3,d4,d5⟩:=HB4.out.cells
         go_upto_region 22 with (fail)
         clear HV HO HPL hll
         go_cut [106] (fun t wx=>t=.bool (tagR L T)∧wr=wx)
         case first=>
          cases k14:(T.kind==14) with
          |false=>
           have H1:=lh (show tagR L T=false by unfold tagR;rw [k14];rfl);go_wp2
           go_meet
           exact ⟨by rw [H1.out],by first|rfl|trivial⟩
          |true=>
           obtain ⟨ht0,ht1⟩:=jgq HOR.out k14;obtain ⟨y,hy⟩:=Int.eq_ofNat_of_zero_le ht0
           have hyl:y<len:=by omega
           obtain ⟨b',off',ha,z0,_⟩:=(HH.out y hyl).held (w1:=wr) HB4.out.2
           cases ha
           have H1:=lh (show tagR L T=!numK (L y).kind by unfold tagR;rw [k14,hy];rfl);rw [hy] at d4;clear hy ht0 ht1;go_wp2_with (go_at_call 61;refine (jp _ _).mono ?_;rintro e w2 ⟨rfl,rfl⟩)
           go_meet
           exact ⟨by rw [H1.out],by first|rfl|trivial⟩
         case rest=>
          obtain ⟨rfl,rfl⟩:=hcut
          cases h8:tagR L T with
          |true=>
           have HF:=lh (show R=8 by rw [←HE.out,h8];rfl);go_wp2;go_ret;exact ⟨jo HF.out.symm,HB4.out.2⟩
          |false=>
           go_upto_region 24 with (fail)
           have hE6:=HE.out;rw [h8] at hE6;simp only [Bool.false_eq_true,if_false] at hE6;have HE:=lh hE6;have HTR:=lh h8;clear hE6 h8
           go_cut [115] (fun t wx=>t=.bool (namedK T.kind&&decide (T.ilen=0))∧wr=wx)
           case first=>
            obtain ⟨nb,hnb⟩:∃ b,namedK T.kind=b:=⟨_,rfl⟩;have hrn:=fun w=>zf T.kind w;rw [hnb] at hrn;have HRN:=lh hrn;have HNB:=lh hnb;clear hrn hnb
            by_cases hz:T.ilen=0
            all_goals
             cases nb
             all_goals
              go_wp2_with (go_at_call 72;refine (HRN.out _).mono ?_;rintro e w2 ⟨rfl,rfl⟩)
              go_meet
              exact ⟨by rw [HNB.out];simp [hz],by first|rfl|trivial⟩
           case rest=>
            obtain ⟨rfl,rfl⟩:=hcut
            cases h18:(namedK T.kind&&decide (T.ilen=0)) with
            |true=>
             have HF:=lh (show R=18 by rw [←HE.out,h18];rfl);go_wp2;go_ret;exact ⟨jo HF.out.symm,HB4.out.2⟩
            |false=>
             have hE7:=HE.out;rw [h18] at hE7;simp only [Bool.false_eq_true,if_false] at hE7;have hil:=HI.out.1;clear h18
             by_cases h16:16<T.ilen
             · have HF:=lh (show R=3 by rw [←hE7,if_pos h16]);clear hE7;go_wp2;go_ret;exact ⟨jo HF.out.symm,HB4.out.2⟩
             · rw [if_neg h16] at hE7;have HE:=lh hE7;have HCI:=lh (fun j (hj:j<T.ilen) wx (hb:Below w.heap.size w wx)=>jhd (some ⟨b,off,none⟩) len cap L T j (by omega) hj (js1 HC1.out HOR.out hat hj) (fun h=>by have:=jmh HOR.out (.inl h) hj;omega) wx (HI.out.held hb) (hold HH.out hb));clear hE7
               go_upto_region 29 with (fail)
               clear d0 d1 d2 d3 d4 d5
               go_loopw [9] (fun i wr=>∃ j:Nat,j≤T.ilen∧i=.int .i64 j∧Hid (∀ m,m<j→(itemE L T m !=0)=false)∧Hid (BoxT w.heap.size T w wr)) (fun i _=>T.ilen - (intOf i).toNat)
               case atStart=>exact ⟨0,Nat.zero_le _,rfl,lh (fun m hm=>absurd hm (Nat.not_lt_zero _)),HB4⟩
               case round=>
                obtain ⟨j,hj,rfl,HFI,HB5⟩:=hrel;obtain ⟨d0,d1,d2,d3,d4,d5⟩:=HB5.out.cells
                by_cases hlt:j<T.ilen
                · have hci:=HCI.out j hlt _ HB5.out.2;unfold typV at hci;obtain ⟨q,hq⟩:∃ q,itemE L T j=q:=⟨_,rfl⟩;rw [hq] at hci;have HQ:=lh hci;clear hci
                  cases hz:(q !=0) with
                  |true=>
                   have HFE:=lh (qq (e:=itemE L T) HFI.out hlt (by rw [hq];exact hz));have HF:=lh (show R=q by rw [←HE.out,HFE.out,hq,if_pos (by simpa using hz)]);clear hq;go_wp2_with (go_at_call 75;refine (HQ.out).mono ?_;rintro e w6 ⟨rfl,hb6⟩;have HB6:=lh (HB5.out.keep hb6);clear hb6);go_ret;exact ⟨jo HF.out.symm,HB6.out.2⟩
                  |false=>
                   have HF2:=lh (ji (p:=fun m=>itemE L T m !=0) HFI.out (by rw [hq];exact hz));clear hq;go_wp2_with (go_at_call 75;refine (HQ.out).mono ?_;rintro e w6 ⟨rfl,hb6⟩;have HB6:=lh (HB5.out.keep hb6);clear hb6);go_roundw
                   case rel=>exact ⟨j+1,by omega,by go_num,HF2,HB6⟩
                   case measure=>simp [intOf];omega
                · obtain rfl:j=T.ilen:=by omega
                  have HFE:=lh (kv (e:=itemE L T) HFI.out);have hE8:=HE.out;rw [HFE.out,if_neg (by decide)] at hE8;have hdp:=fun wx (hb:Below w.heap.size w wx)=>jho (some ⟨b,off,none⟩) len cap L (by omega) (at':Nat) wx (hold HH.out hb);unfold DeepTo at hdp;obtain ⟨d,hd⟩:∃ d,deepL L len (at':Nat)=d:=⟨_,rfl⟩;rw [hd] at hdp hE8;have HD:=lh hdp;have HE8:=lh hE8;clear hdp hE8 hd
                  by_cases h6:6<d
                  all_goals
                   go_wp2_with (go_at_call 76;refine (HD.out _ HB5.out.2).mono ?_;rintro e w6 ⟨rfl,hb6⟩;have HB6:=lh (HB5.out.keep hb6);clear hb6);go_ret;exact ⟨jo (by rw [←HE8.out];simp [h6]),HB6.out.2⟩
theorem jao (ao:Option Addr) (len cap:Nat) (L:Nat→TypeV) (hlen:len≤1000000) (w:World) (H:∀ i,i<len→TypeAt w ao i (L i)):
  Calls Tryz.prog 23 #[.slice ao len cap] w fun e w'=>e=.returned (faultV (oneR L len) len)∧Below w.heap.size w w':=by
 have HH:=lh H;clear H
 by_cases h32:32<len
 · rw [jde h32];go_enter Tryz.func23,Tryz.ntmps23;go_wp2
   go_returns
   exact ⟨rfl,by go_grown⟩
 · have h32':len≤32:=by omega
   have HQ:=lh (jd w (.cells #[.int .i64 0,.int .i64 0] 54));have HB:=lh ((Below.refl w.heap.size w).alloc (Nat.le_refl _) (.cells #[.int .i64 0,.int .i64 0] 54));obtain ⟨R,hR⟩:∃ R,faultV (oneR L len) len=R:=⟨_,rfl⟩;rw [hR];have HR:=lh hR;clear hR;go_enter Tryz.func23,Tryz.ntmps23;go_wp2
   go_loopw [3] (fun i wr=>∃ k:Nat,k≤len∧i=.int .i64 k∧Hid (∀ m,m<k→(oneR L len m !=0)=false)∧Hid (wr.heap[w.heap.size]?=some (.cells #[.int .i64 0,.int .i64 0] 54 (0,0)))∧Hid (Below w.heap.size w wr)) (fun i _=>len - (intOf i).toNat)
   case atStart=>exact ⟨0,Nat.zero_le _,rfl,lh (fun m hm=>absurd hm (Nat.not_lt_zero _)),HQ,HB⟩
   case round=>
    obtain ⟨k,hk,rfl,HF,HQr,HBr⟩:=hrel
    by_cases hlt:k<len
    · have hcall:=jkz ao len cap L hlen k hlt wr (hold HH.out HBr.out);obtain ⟨q,hq⟩:∃ q,oneR L len k=q:=⟨_,rfl⟩;rw [hq] at hcall;have HC:=lh hcall;clear hcall
      cases hz:(q !=0) with
      |true=>
       have HA:=lh (jhz (one:=oneR L len) h32' HF.out hlt (by rw [hq];exact hz));have HQ1:=lh hq;clear hq
       go_wp2_with (first
        |(go_at_call 38;refine (HC.out).mono ?_;rintro r w3 ⟨rfl,hb3⟩;have HQ3:=lh (yv HQr.out hb3);have HW3:=lh (HBr.out.trans (hb3.mono HBr.out.size));clear hb3)
        |(refine wpList_store_rowTo rfl 54 _ _ rfl rfl w.heap.size #[.int .i64 q,.int .i64 k] rfl rfl _ _ HQ3.out (by kernel_rfl) (by kernel_rfl) (by kernel_rfl) ?_))
       refine bodyPost_ret (v:=.agg #[.int .i64 q,.int .i64 k]) ?_ rfl ⟨by rw [←HR.out,HA.out,HQ1.out],below_setRow HW3.out (Nat.le_refl _) _⟩;have hl:=run_loadVar_row (P:=Tryz.prog) _ w.heap.size _ 54 _ _ _ (setRow_heap _ _ _ #[.int .i64 q,.int .i64 k] _ _ HQ3.out) Tryz.underlying54 rfl (by kernel_rfl);simp [results,Tryz.results23,asAddr];exact hl
      |false=>
       have HF2:=lh (ji (p:=fun m=>oneR L len m !=0) HF.out (by rw [hq];exact hz));clear hq;go_wp2_with (go_at_call 38;refine (HC.out).mono ?_;rintro r w3 ⟨rfl,hb3⟩;have HQ3:=lh (yv HQr.out hb3);have HW3:=lh (HBr.out.trans (hb3.mono HBr.out.size));clear hb3);go_roundw
       case rel=>exact ⟨k+1,by omega,by go_num,HF2,HQ3,HW3⟩
       case measure=>simp [intOf];omega
    · obtain rfl:k=len:=by omega
      have HA:=lh (jcx (one:=oneR L k) h32' HF.out);go_wp2_with (refine wpList_store_rowTo rfl 54 _ _ rfl rfl w.heap.size #[.int .i64 0,.int .i64 0] rfl rfl _ _ HQr.out (by kernel_rfl) (by kernel_rfl) (by kernel_rfl) ?_);refine bodyPost_ret (v:=.agg #[.int .i64 0,.int .i64 0]) ?_ rfl ⟨by rw [←HR.out,HA.out],below_setRow HBr.out (Nat.le_refl _) _⟩;have hl:=run_loadVar_row (P:=Tryz.prog) _ w.heap.size _ 54 _ _ _ (setRow_heap _ _ _ #[.int .i64 0,.int .i64 0] _ _ HQr.out) Tryz.underlying54 rfl (by kernel_rfl);simp [results,Tryz.results23,asAddr];exact hl
theorem Zf (e:Nat→Int) (n:Nat):firstE e (n+1)=if e 0≠0 then e 0 else firstE (fun j=>e (j+1)) n:=by
 by_cases h:e 0≠0
 · rw [if_pos h];exact qq (fun i hi=>absurd hi (Nat.not_lt_zero _)) (Nat.succ_pos _) (by simpa using h)
 · rw [if_neg h]
   have h0:e 0=0:=by simpa using h
   obtain ⟨h1,h2,h3⟩:=qv (fun j=>e (j+1) !=0) n
   by_cases c:firstN (fun j=>e (j+1) !=0) n<n
   · rw [qq (e:=fun j=>e (j+1)) h2 c (h3 c)];refine qq (fun i hi=>?_) (by omega) (h3 c)
     rcases i with _|i
     · simp [h0]
     · exact h2 i (by omega)
   · rw [kv (e:=fun j=>e (j+1)) (fun i hi=>h2 i (by omega))];refine kv (fun i hi=>?_)
     rcases i with _|i
     · simp [h0]
     · exact h2 i (by omega)
theorem Za (e:Nat→Int):firstE e 0=0:=kv (fun i hi=>absurd hi (Nat.not_lt_zero _))
theorem jgm {e f:Nat→Int} {n:Nat} (h:∀ i,i<n→e i=f i):firstE e n=firstE f n:=by
 induction n generalizing e f with
 |zero=>rw [Za,Za]
 |succ n ih=>rw [Zf,Zf,h 0 (by omega),ih (fun i hi=>h (i+1) (by omega))]
theorem Z7 {p q:Nat→Bool} {n:Nat} (h:∀ i,i<n→p i=q i):hasB p n=hasB q n:=by
 induction n with
 |zero=>rw [jbk,jbk]
 |succ n ih=>rw [jba,jba,ih (fun i hi=>h i (by omega)),h n (by omega)]
theorem jhh (p:Nat→Bool) (n:Nat):decide (firstN p n<n)=hasB p n:=rfl
theorem jgz (s:ByteArray):(s.toList==s.toList)=true:=by simp
theorem jnn {k:Int} (h:namedK k=true) (x:ItemV):itemBad k x=itemMore k x:=by
 have hs:=jgz x.name
 rcases Zg h with rfl|rfl|rfl
 · have e:ownI 9 x=⟨x.name,x.num,0,false,false⟩:=by simp [ownI,tysK]
   unfold itemBad itemMore sameI;rw [e]
   dsimp only
   rw [hs]
   cases x.key <;> cases x.rest <;> simp [bne]
 · have e:ownI 13 x=⟨x.name,0,x.type,x.key,false⟩:=by simp [ownI,tysK]
   unfold itemBad itemMore sameI;rw [e]
   dsimp only
   rw [hs]
   cases x.key <;> cases x.rest <;> simp [bne]
 · cases hr:x.rest with
   |false=>
    have e:ownI 14 x=⟨x.name,x.num,x.type,false,false⟩:=by simp [ownI,tysK,hr]
    unfold itemBad itemMore sameI;rw [e]
    dsimp only
    rw [hs,hr]
    cases x.key <;> simp [bne]
   |true=>
    have e:ownI 14 x=⟨x.name,0,x.type,false,true⟩:=by simp [ownI,tysK,hr]
    unfold itemBad itemMore sameI;rw [e]
    dsimp only
    rw [hs,hr]
    cases x.key <;> simp [bne]
theorem jnm {T:TypeV} (h1:1≤T.kind) (h2:T.kind≤14):formB T=moreB T:=by
 have hk:c3B T=(f2B T||f3B T||f4B T):=by
  unfold c3B f2B f3B f4B
  have e1:(decide (T.kind<10)||decide (12<T.kind))=!boundK T.kind:=by
   unfold boundK ofK;rw [Bool.eq_iff_iff];simp;omega
  have e2:(T.kind !=11&&T.kind !=12)=!ofK T.kind:=by
   unfold ofK;rw [Bool.eq_iff_iff];simp
  have e3:(T.kind !=14)=!(T.kind==14):=rfl;rw [e1,e2,e3]
 have hc:c1B T=(f1B T||f5B T):=rfl;unfold formB moreB;rw [hc,hk,jhh]
 cases hf5:f5B T with
 |true=>cases f1B T <;> cases f2B T <;> cases f3B T <;> cases f4B T <;> rfl
 |false=>
  have hh:hasB (fun j=>itemBad T.kind (T.items j)) T.ilen=hasB (fun j=>itemMore T.kind (T.items j)) T.ilen:=by
   refine Z7 fun i hi=>jnn ?_ _;unfold f5B at hf5;rw [decide_eq_true (show 0<T.ilen by omega)] at hf5
   simpa using hf5
  rw [hh]
  cases f1B T <;> cases f2B T <;> cases f3B T <;> cases f4B T <;> rfl
theorem jk8 {T:TypeV} (h:moreB T=false):boundBad T=bndR T:=by
 have h3:c3B T=false:=by
  unfold moreB at h;rw [Bool.or_eq_false_iff,Bool.or_eq_false_iff] at h;exact h.1.2
 unfold c3B at h3;rw [Bool.or_eq_false_iff,Bool.or_eq_false_iff] at h3;have hb:=h3.1.1;unfold boundBad bndR boundK ofK
 by_cases h10:T.kind=10
 · rw [h10];simp
 · by_cases h11:T.kind=11
   · rw [h11];simp
   · by_cases h12:T.kind=12
     · rw [h12];simp
     · have hz:T.bound=0:=by
        simp at hb
        by_cases z:T.bound=0
        · exact z
        · have:=hb z;omega
       rw [hz];simp [h10,h11,h12]
theorem jka (T:TypeV) (at':Nat):orderBad T at'=orderR T at':=by
 unfold orderBad orderR;refine Z7 fun j _=>?_;unfold inL partOut
 rw [Bool.eq_iff_iff];simp <;> omega
theorem jcv {L:Nat→TypeV} {len:Nat} {t:Int} (h0:0≤t) (h1:t<len):kindL L len t=(L t.toNat).kind:=by
 unfold kindL inL;rw [decide_eq_true h0,decide_eq_true h1];rfl
theorem jr8 {L:Nat→TypeV} {len at':Nat} {T:TypeV} (hat:at' <len) (h:orderR T at'=false):(T.kind==14&&!numK (kindL L len T.tag))=tagR L T:=by
 unfold tagR
 cases hk:(T.kind==14) with
 |false=>rfl
 |true=>
  obtain ⟨h0,h1⟩:=jgq h hk;rw [jcv h0 (by omega)]
theorem jdq {p:Nat→Bool} {n i:Nat} (hi:i<n) (hp:p i=true):decide (posZ (firstZ p n)<i)=hasB p i:=by
 rcases ky p n with ⟨k,hk,e,h1,h2⟩|⟨e,h1⟩
 · rw [e]
   have e2:posZ (k:Nat)=k:=by unfold posZ;rw [if_neg (by omega)]
   rw [e2]
   rcases Nat.lt_or_ge k i with c|c
   · rw [yg c h1,decide_eq_true (by omega)]
   · rw [zm (fun j hj=>h2 j (by omega)),decide_eq_false (by omega)]
 · rw [h1 i hi] at hp;cases hp
theorem jgo {p:Prop} [Decidable p] {b:Bool} {x y:Int} (h:decide p=b):(if p then x else y)=if b then x else y:=by
 subst h;by_cases c:p <;> simp [c]
theorem jnk {L:Nat→TypeV} {len at':Nat} {T:TypeV} (hat:at' <len) (hT:L at'=T) (hn:namedK T.kind=true) (s:ByteArray):itemL L len (at':Nat) s=firstZ (fun j=>(T.items j).name.toList==s.toList) T.ilen:=by
 unfold itemL itemZ;rw [k8 hat,if_pos rfl,Int.toNat_natCast,hT,hn,if_pos rfl]
theorem jjr {L:Nat→TypeV} {len at':Nat} {T:TypeV} (hat:at' <len) (hT:L at'=T) (h9:T.kind=9) (n:Int):valueL L len (at':Nat) n=firstZ (fun j=>(T.items j).num==n) T.ilen:=by
 unfold valueL valueZ;rw [k8 hat,if_pos rfl,Int.toNat_natCast,hT,if_pos h9]
theorem jhp {L:Nat→TypeV} {len at':Nat} {T:TypeV} (hat:at' <len) (hT:L at'=T) (n:Int):branchL L len (at':Nat) n=branchZ T n:=by
 unfold branchL;rw [k8 hat,if_pos rfl,Int.toNat_natCast,hT]
theorem jo5 {T:TypeV} {n:Int} {i:Nat} (h14:T.kind=14) (hi:i<T.ilen) (hp:tagB T n i=true) (hr:∀ m,m<i→(T.items m).rest=false):decide (posZ (branchZ T n)<i)=hasB (fun k=>(T.items k).num==n) i:=by
 have hfirst:okZ (firstZ (tagB T n) T.ilen)=true:=by
  rcases ky (tagB T n) T.ilen with ⟨k,hk,e,h1,h2⟩|⟨e,h1⟩
  · rw [e];unfold okZ;rw [decide_eq_true (by omega)]
  · rw [h1 i hi] at hp;cases hp
 rw [(jb8 h14 hfirst).1,jdq hi hp];refine Z7 fun m hm=>?_;unfold tagB;rw [hr m hm];rfl
theorem jkj {L:Nat→TypeV} {len at':Nat} {T:TypeV} (hat:at' <len) (h14:T.kind=14) (ho:orderR T at'=false) (n:Int):isTagB L len T n=numberB L T n:=by
 obtain ⟨h0,h1⟩:=jgq ho (by simpa using h14);unfold isTagB numberB;rw [jcv h0 (by omega),if_neg (show ¬T.kind=9 by omega)]
 by_cases h9:(L T.tag.toNat).kind=9
 · rw [if_pos h9,if_pos h9];unfold okZ valueL inL;rw [decide_eq_true h0,decide_eq_true (show T.tag<(len:Int) by omega)]
   rfl
 · rw [if_neg h9,if_neg h9]
theorem jo4 {T:TypeV} (h:moreB T=false) {i:Nat} (hi:i<T.ilen):itemMore T.kind (T.items i)=false:=by
 cases hq:itemMore T.kind (T.items i) with
 |false=>rfl
 |true=>
  have:=yg (p:=fun j=>itemMore T.kind (T.items j)) hi hq
  unfold moreB at h;rw [Bool.or_eq_false_iff] at h;have h2:hasB (fun j=>itemMore T.kind (T.items j)) T.ilen=false:=h.2;rw [h2] at this;cases this
theorem jb6 {L:Nat→TypeV} {len at':Nat} {T:TypeV} (hat:at' <len) (hT:L at'=T) (hm:moreB T=false) (ho:orderR T at'=false) {i:Nat} (hi:i<T.ilen) (hp:∀ m,m<i→itemE L T m=0):ckItem L len at' T i=itemE L T i:=by
 have hn:=jd7 hm hi;have hmi:=jo4 hm hi;unfold ckItem itemE
 by_cases hs:nameS (T.items i).name=false
 · rw [if_pos hs,if_pos hs]
 · rw [if_neg hs,if_neg hs]
   rw [jgo (show decide (posZ (itemL L len (at':Nat) (T.items i).name)<i)=hasB (nameEq T (T.items i)) i by
    rw [jnk hat hT hn];exact jdq (p:=nameEq T (T.items i)) hi (by unfold nameEq;simp))]
   cases hnm:hasB (nameEq T (T.items i)) i with
   |true=>rfl
   |false=>
    simp only [Bool.false_eq_true,if_false]
    rcases Zg hn with h9|h13|h14
    · rw [if_pos h9,if_neg (show ¬T.kind=13 by omega)]
      have hr:(T.items i).rest=false:=by
       unfold itemMore at hmi;rw [h9] at hmi;simp at hmi;exact hmi.2
      rw [hr];simp only [Bool.false_eq_true,if_false];unfold ckValue
      have e1:numberB L T (T.items i).num=mayK 9 (T.items i).num:=by unfold numberB;rw [if_pos h9]
      rw [e1]
      by_cases hy:mayK 9 (T.items i).num=false
      · rw [if_pos hy,if_pos hy]
      · rw [if_neg hy,if_neg hy]
        rw [jgo (show decide (posZ (valueL L len (at':Nat) (T.items i).num)<i)=hasB (numEq T (T.items i)) i by
         rw [jjr hat hT h9];exact jdq (p:=numEq T (T.items i)) hi (by unfold numEq;simp))]
    · rw [if_neg (show ¬T.kind=9 by omega),if_pos h13,if_pos h13];obtain ⟨t0,t1⟩:=jmh ho (.inl h13) hi;unfold ckField;rw [jcv t0 (by omega)]
    · rw [if_neg (show ¬T.kind=9 by omega),if_neg (show ¬T.kind=13 by omega),if_neg (show ¬T.kind=13 by omega)];unfold ckBranch
      cases hr:(T.items i).rest with
      |true=>rfl
      |false=>
       simp only [Bool.false_eq_true,if_false];rw [jkj hat h14 ho]
       by_cases hy:numberB L T (T.items i).num=false
       · rw [if_pos hy,if_pos hy]
       · rw [if_neg hy,if_neg hy]
         have hrm:∀ m,m<i→(T.items m).rest=false:=by
          intro m hmi'
          cases hq:(T.items m).rest with
          |false=>rfl
          |true=>
           have h0:=hp m hmi';unfold itemE at h0;rw [if_neg (show ¬T.kind=13 by omega),hq] at h0;simp only [if_true] at h0;rw [if_pos (show m+1<T.ilen by omega)] at h0
           split at h0
           · cases h0
           · split at h0
             · cases h0
             · cases h0
         rw [jgo (show decide (posZ (branchL L len (at':Nat) (T.items i).num)<i)=hasB (numEq T (T.items i)) i by
          rw [jhp hat hT];exact jo5 h14 hi (by unfold tagB;rw [hr];simp) hrm)]
theorem jkg {L:Nat→TypeV} {len at':Nat} {T:TypeV} (hat:at' <len) (hT:L at'=T) (hm:moreB T=false) (ho:orderR T at'=false):ckItems L len at' T=firstE (itemE L T) T.ilen:=by
 unfold ckItems;obtain ⟨h1,h2,h3⟩:=qv (fun j=>itemE L T j !=0) T.ilen
 have hz:∀ i,i<firstN (fun j=>itemE L T j !=0) T.ilen→itemE L T i=0:=fun i hi=>by have:=h2 i hi;simpa using this
 have hz2:∀ i,i<firstN (fun j=>itemE L T j !=0) T.ilen→ckItem L len at' T i=0:=fun i hi=>by
  rw [jb6 hat hT hm ho (by omega) (fun m hm'=>hz m (by omega))];exact hz i hi
 by_cases c:firstN (fun j=>itemE L T j !=0) T.ilen<T.ilen
 · rw [qq h2 c (h3 c)];have e:=jb6 hat hT hm ho c hz;rw [←e];refine qq (fun i hi=>by rw [hz2 i hi];rfl) c ?_;rw [e];exact h3 c
 · rw [kv (fun i hi=>h2 i (by omega))];exact kv (fun i hi=>by rw [hz2 i (by omega)];rfl)
theorem X2 {b:Bool} {c x:Int} (hc:c≠0):(if (if b=true then c else 0)≠0 then (if b=true then c else 0) else x)=if b=true then c else x:=by
 cases b <;> simp [hc]
theorem jaw {L:Nat→TypeV} {len at':Nat} (hat:at' <len):oneC L len at'=oneR L len at':=by
 unfold oneC oneR;obtain ⟨T,hT⟩:∃ T,L at'=T:=⟨_,rfl⟩;rw [hT]
 have e:firstE (ckAt L len at') 9=(if ckKind T≠0 then ckKind T else if ckForm T≠0 then ckForm T else if ckName L T at'≠0 then ckName L T at' else if ckBound T≠0 then ckBound T else if ckOrder T at'≠0 then ckOrder T at' else
   if ckTag L len T≠0 then ckTag L len T else if ckCount T≠0 then ckCount T else if ckItems L len at' T≠0 then ckItems L len at' T else if ckDepth L len at'≠0 then ckDepth L len at' else 0):=by
  rw [←hT];simp only [Zf,Za]
  rfl
 rw [e];clear e;unfold oneT
 have e1:ckKind T=if kindBad T=true then 4 else 0:=by unfold ckKind kindBad;by_cases h:T.kind<1 <;> by_cases h':14<T.kind <;> simp [h,h']
 rw [e1,X2 (by decide)]
 cases hkb:kindBad T with
 |true=>rfl
 |false=>
  simp only [Bool.false_eq_true,if_false]
  have hk:1≤T.kind∧T.kind≤14:=by unfold kindBad at hkb;simp at hkb;omega
  have e2:ckForm T=if moreB T=true then 1 else 0:=by unfold ckForm;rw [jnm hk.1 hk.2]
  rw [e2,X2 (by decide)]
  cases hm:moreB T with
  |true=>rfl
  |false=>
   simp only [Bool.false_eq_true,if_false]
   have e3:ckName L T at'=if (namedK T.kind&&!nameS T.name)=true then 5 else if (namedK T.kind&&nameTw L T at')=true then 6 else 0:=by
    unfold ckName
    cases namedK T.kind <;> cases nameS T.name <;> cases nameTw L T at' <;> rfl
   rw [e3]
   cases hn1:(namedK T.kind&&!nameS T.name) with
   |true=>rfl
   |false=>
    simp only [Bool.false_eq_true,if_false];rw [X2 (by decide)]
    cases hn2:(namedK T.kind&&nameTw L T at') with
    |true=>rfl
    |false=>
     simp only [Bool.false_eq_true,if_false]
     have e4:ckBound T=if bndR T=true then 7 else 0:=by unfold ckBound;rw [jk8 hm]
     rw [e4,X2 (by decide)]
     cases hb:bndR T with
     |true=>rfl
     |false=>
      simp only [Bool.false_eq_true,if_false]
      have e5:ckOrder T at'=if orderR T at'=true then 14 else 0:=by unfold ckOrder;rw [jka]
      rw [e5,X2 (by decide)]
      cases ho:orderR T at' with
      |true=>rfl
      |false=>
       simp only [Bool.false_eq_true,if_false]
       have e6:ckTag L len T=if tagR L T=true then 8 else 0:=by unfold ckTag;rw [jr8 hat ho]
       rw [e6,X2 (by decide)]
       cases ht:tagR L T with
       |true=>rfl
       |false=>
        simp only [Bool.false_eq_true,if_false]
        have e7:ckCount T=if (namedK T.kind&&decide (T.ilen=0))=true then 18 else if 16<T.ilen then 3 else 0:=by
         unfold ckCount
         cases hn:namedK T.kind with
         |true=>by_cases h:T.ilen=0 <;> simp [h]
         |false=>
          have:¬16<T.ilen:=fun h=>by
           have:=jd7 hm (j:=0) (by omega)
           rw [hn] at this;cases this
          simp [this]
        rw [e7]
        cases hc:(namedK T.kind&&decide (T.ilen=0)) with
        |true=>rfl
        |false=>
         simp only [Bool.false_eq_true,if_false]
         by_cases h16:16<T.ilen
         · rw [if_pos h16,if_pos h16];rfl
         · rw [if_neg h16,if_neg h16,if_neg (by simp),jkg hat hT hm ho]
           split
           · rfl
           · unfold ckDepth
             by_cases h6:6<deepL L len (at':Nat) <;> simp [h6]
theorem jkw (L:Nat→TypeV) (len:Nat):faultV (oneC L len) len=faultV (oneR L len) len:=by
 unfold faultV fErr fAt;rw [jgm (e:=oneC L len) (f:=oneR L len) (fun i hi=>jaw hi)]
 have h:∀ n,n≤len→firstN (fun i=>oneC L len i !=0) n=firstN (fun i=>oneR L len i !=0) n:=by
  intro n hn;obtain ⟨h1,h2,h3⟩:=qv (fun i=>oneR L len i !=0) n
  by_cases c:firstN (fun i=>oneR L len i !=0) n<n
  · exact qr (fun i hi=>by show (oneC L len i !=0)=false;rw [jaw (by omega)];exact h2 i hi) c (by show (oneC L len _ !=0)=true;rw [jaw (by omega)];exact h3 c)
  · have e:firstN (fun i=>oneR L len i !=0) n=n:=by omega
    rw [e];exact kp (fun i hi=>by show (oneC L len i !=0)=false;rw [jaw (by omega)];exact h2 i (by omega))
 rw [h len (Nat.le_refl _)]
end Go.Proofs.YthcompcjphaahaaGreatDoor.Pa
namespace Go.Proofs.YthcompcjphaahaaGreatDoor.Pa
open Go.ChangeShapes Go.WideShapes Go.ChangeAt Go.RowKit
theorem jo0 (a b c d:Int) (w:World):(binOp .eql 54 (.agg #[.int .i64 a,.int .i64 b]) (.agg #[.int .i64 c,.int .i64 d])).run Tryz.prog w=.ok (.bool ((a==c)&&(b==d))) w:=by
 have hu:=Tryz.underlying54;have hi:=Tryz.underlying3;have he:=Tryz.underlying37;have p0:=fun a c w=>run_equalIn_int (P:=Tryz.prog) w 9998 3 .i64 .i64 a c hi;have p1:=fun a c w=>run_equalIn_int (P:=Tryz.prog) w 9998 37 .i64 .i64 a c he;rw [run_eql_struct,run_equalIn_agg _ 9999 _ _ _ (by kernel_rfl) (by kernel_rfl)];simp only [Program.fieldsOf,hu];simp [Op.eqFields,go_sem,p0,p1]
 (repeat' split) <;> simp_all
theorem jfk (a b:Int) (w:World):(Instr.field 54 (.agg #[.int .i64 a,.int .i64 b]) 0).run Tryz.prog w=.ok (.int .i64 a) w:=by kernel_rfl
def noneT (k b o:Int):TypeV:=⟨k,⟨#[]⟩,b,o,0,none,0,0,default⟩
def exA:Nat→TypeV:=fun i=>if i=0 then noneT 1 0 0 else noneT 11 1 1
def exO:Obj:=.cells #[.int .i64 1,.string ⟨#[]⟩,.int .i64 0,.int .i64 0,.int .i64 0,.slice none 0 0,.int .i64 11,.string ⟨#[]⟩,.int .i64 1,.int .i64 1,.int .i64 0,.slice none 0 0] 58
def exI:Nat→ItemV:=fun i=>if i=0 then ⟨⟨#[97]⟩,0,0,false,false⟩ else ⟨⟨#[98]⟩,0,0,false,false⟩
def exB (g:Nat):Nat→TypeV:=fun _=>⟨9,⟨#[69]⟩,0,0,0,some ⟨g,0,none⟩,2,2,exI⟩
theorem jqv {L:Nat→TypeV} {len:Nat} (h:greatB L len=false):len≤100:=by
 unfold greatB at h;simp at h;omega
theorem jei {L:Nat→TypeV} {len i:Nat} (h:i<len):deepL L len (i:Nat)=(deepN L i:Nat):=by unfold deepL;rw [k8 h];rfl
theorem jkn {L:Nat→TypeV} {n len i:Nat} (hn:n≤len) (hi:i<n):oneR L n i=oneR L len i:=by
 unfold oneR oneT;rw [jei hi,jei (show i<len by omega)]
theorem jfq {L:Nat→TypeV} {len:Nat} (h:fErr (oneR L len) len=0):len≤32∧∀ i,i<len→oneR L len i=0:=by
 unfold fErr at h
 by_cases h32:32<len
 · rw [if_pos h32] at h;cases h
 · rw [if_neg h32] at h;refine ⟨by omega,fun i hi=>?_⟩;obtain ⟨h1,h2,h3⟩:=qv (fun j=>oneR L len j !=0) len
   by_cases c:firstN (fun j=>oneR L len j !=0) len<len
   · rw [qq h2 c (h3 c)] at h;have h4:(oneR L len (firstN (fun j=>oneR L len j !=0) len) !=0)=true:=h3 c;rw [h] at h4;cases h4
   · have:=h2 i (by omega);simpa using this
theorem jgj {L:Nat→TypeV} {len n:Nat} (h:fErr (oneR L len) len=0) (hn:n≤len):fErr (oneR L n) n=0∧fAt (oneR L n) n=0:=by
 obtain ⟨h32,ha⟩:=jfq h
 have hf:∀ i,i<n→(oneR L n i !=0)=false:=fun i hi=>by rw [jkn hn hi,ha i (by omega)];rfl
 unfold fErr fAt;rw [if_neg (by omega),if_neg (by omega),kv hf,kp hf,if_neg (Nat.lt_irrefl _)];exact ⟨rfl,rfl⟩
theorem jcz {D:Nat→Nat} {t:Nat} {p:Int} (h0:0≤p) (h1:p<t):∀ (l:List Int) (a:Nat),p∈l→D p.toNat+1≤l.foldl (deepStep D t) a
 |q::l,a,h=>by
  rw [List.foldl_cons]
  rcases List.mem_cons.1 h with rfl|h
  · refine Nat.le_trans ?_ (jg3 l _);unfold deepStep;rw [if_pos ⟨h0,h1⟩];omega
  · exact jcz h0 h1 l _ h
theorem jli {L:Nat→TypeV} {len i:Nat} (h:oneR L len i=0) (hi:i<len):1≤deepN L i∧deepN L i≤6∧(11≤(L i).kind→2≤deepN L i):=by
 obtain ⟨T,hT⟩:∃ T,L i=T:=⟨_,rfl⟩;unfold oneR oneT at h;rw [hT] at h;have hp:=jfu L i
 split at h;· cases h
 rename_i hkb
 split at h;· cases h
 rename_i hm
 split at h;· cases h
 split at h;· cases h
 split at h;· cases h
 split at h;· cases h
 rename_i ho
 split at h;· cases h
 split at h;· cases h
 rename_i hc
 split at h;· cases h
 split at h;· rename_i hne;exact absurd h hne
 split at h;· cases h
 rename_i hd;rw [jei hi] at hd;refine ⟨hp,by omega,fun hk=>?_⟩;rw [hT] at hk
 have hk14:T.kind≤14:=by unfold kindBad at hkb;simp at hkb;omega
 have ho':orderR T i=false:=by simpa using ho
 have key:∀ p,p∈partsL T→2≤deepN L i:=fun p hp=>by
  obtain ⟨h0,h1⟩:=jay ho' p hp;rw [X0]
  have:=jcz (D:=deepN L) h0 h1 (partsL (L i)) 1 (by rw [hT];exact hp)
  have:=jfu L p.toNat
  omega
 have hk4:(T.kind=11∨T.kind=12)∨T.kind=13∨T.kind=14:=by omega
 rcases hk4 with h1|h1|h1
 · exact key T.of (by rw [Yo h1];exact List.mem_cons_self)
 · have hn:namedK T.kind=true:=by unfold namedK;rw [h1];rfl
   have hil:0<T.ilen:=by
    rw [hn] at hc;simp at hc;omega
   exact key (T.items 0).type (by rw [yo h1];exact List.mem_map.2 ⟨0,List.mem_range.2 hil,rfl⟩)
 · exact key T.tag (by rw [qy h1];exact List.mem_cons_self)
end Go.Proofs.YthcompcjphaahaaGreatDoor.Pa
namespace Go.Proofs.YthcompcjphaahaaGreatDoor.Pa
open Go.RowKit
structure OkT (L:Nat→TypeV) (t:Nat):Prop where
 kind:1≤(L t).kind∧(L t).kind≤14
 of:(L t).kind=11∨(L t).kind=12→0≤(L t).of∧(L t).of<t∧deepN L (L t).of.toNat+1≤deepN L t
 tag:(L t).kind=14→0≤(L t).tag∧(L t).tag<t∧deepN L (L t).tag.toNat+1≤deepN L t∧numK (L (L t).tag.toNat).kind=true
 items:(L t).kind=13∨(L t).kind=14→∀ j,j<(L t).ilen→0≤((L t).items j).type∧((L t).items j).type<t∧deepN L ((L t).items j).type.toNat+1≤deepN L t
 count:(L t).kind=13∨(L t).kind=14→1≤(L t).ilen∧(L t).ilen≤16
 bound:(L t).kind=10∨(L t).kind=11∨(L t).kind=12→0≤(L t).bound∧(L t).bound≤64
 least:(L t).kind=11∨(L t).kind=12→1≤(L t).bound
 deep:1≤deepN L t∧deepN L t≤6
theorem jbi {L:Nat→TypeV} {t:Nat} {p:Int} (hp:p∈partsL (L t)) (h0:0≤p) (h1:p<t):deepN L p.toNat+1≤deepN L t:=by
 rw [X0 L t];exact jcz h0 h1 _ _ hp
theorem ok_of {L:Nat→TypeV} {len i:Nat} (h:oneR L len i=0) (hi:i<len):OkT L i:=by
 have hdp:=jli h hi;unfold oneR oneT at h
 split at h;· cases h
 rename_i hkb
 split at h;· cases h
 rename_i hm
 split at h;· cases h
 split at h;· cases h
 split at h;· cases h
 rename_i hb
 split at h;· cases h
 rename_i ho
 split at h;· cases h
 rename_i htg
 split at h;· cases h
 rename_i hc
 split at h;· cases h
 rename_i hc16
 have ho':orderR (L i) i=false:=by simpa using ho
 have hin:=fun p (hp:p∈partsL (L i))=>jay ho' p hp
 have hk14:1≤(L i).kind∧(L i).kind≤14:=by unfold kindBad at hkb;simp at hkb;omega
 have hbd:bndR (L i)=false:=by simpa using hb
 unfold bndR at hbd;simp at hbd
 have pof:(L i).kind=11∨(L i).kind=12→(L i).of∈partsL (L i):=fun h=>by rw [Yo h];exact List.mem_cons_self
 have ptg:(L i).kind=14→(L i).tag∈partsL (L i):=fun h=>by rw [qy h];exact List.mem_cons_self
 have pit:(L i).kind=13∨(L i).kind=14→∀ j,j<(L i).ilen→((L i).items j).type∈partsL (L i):=fun h j hj=>by
  have hmm:((L i).items j).type∈(List.range (L i).ilen).map fun j=>((L i).items j).type:=List.mem_map.2 ⟨j,List.mem_range.2 hj,rfl⟩
  rcases h with h|h
  · rw [yo h];exact hmm
  · rw [qy h];exact List.mem_cons_of_mem _ hmm
 refine ⟨hk14,fun hk=>?_,fun hk=>?_,fun hk j hj=>?_,fun hk=>?_,fun hk=>?_,fun hk=>?_,⟨hdp.1,hdp.2.1⟩⟩
 · have h2:=hin _ (pof hk);exact ⟨h2.1,h2.2,jbi (pof hk) h2.1 h2.2⟩
 · have h2:=hin _ (ptg hk);refine ⟨h2.1,h2.2,jbi (ptg hk) h2.1 h2.2,?_⟩;unfold tagR at htg;rw [hk] at htg
   simpa using htg
 · have h2:=hin _ (pit hk j hj);exact ⟨h2.1,h2.2,jbi (pit hk j hj) h2.1 h2.2⟩
 · have hn:namedK (L i).kind=true:=by unfold namedK;rcases hk with hk|hk <;> rw [hk] <;> rfl
   rw [hn] at hc;simp at hc;omega
 · obtain ⟨⟨h1,h2⟩,h3⟩:=hbd
   rcases hk with hk|hk|hk
   · exact ⟨h1 hk,by omega⟩
   · exact ⟨by have:=h2 (.inl hk);omega,by omega⟩
   · exact ⟨by have:=h2 (.inr hk);omega,by omega⟩
 · obtain ⟨⟨h1,h2⟩,h3⟩:=hbd;exact h2 hk
theorem Z9 {L:Nat→TypeV} {len:Nat} (h:fErr (oneR L len) len=0):∀ i,i<len→OkT L i:=fun i hi=>ok_of ((jfq h).2 i hi) hi
def hasT (L:Nat→TypeV) (len:Nat) (t:Int):Bool:=inL len t&&(fErr (oneR L len) len==0&&fAt (oneR L len) len==0)
theorem jrx {L:Nat→TypeV} {len:Nat} (h:fErr (oneR L len) len=0):fAt (oneR L len) len=0:=(jgj h (Nat.le_refl _)).2
theorem Yc {L:Nat→TypeV} {len:Nat} {t:Int} (h:hasT L len t=true):∃ k:Nat,t=k∧k<len∧fErr (oneR L len) len=0:=by
 unfold hasT inL at h;simp at h;exact ⟨t.toNat,by omega,by omega,h.2.1⟩
theorem jhk {L:Nat→TypeV} {len k:Nat} (hk:k<len) (h:fErr (oneR L len) len=0):hasT L len (k:Nat)=true:=by
 unfold hasT;rw [k8 hk,h,jrx h];rfl
end Go.Proofs.YthcompcjphaahaaGreatDoor.Pa
