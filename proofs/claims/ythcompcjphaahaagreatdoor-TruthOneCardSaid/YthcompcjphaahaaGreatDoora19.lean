/- Contract of package types: own. -/
import Derived.Laws.StructEq
import Derived.Deep.RegionHeld3
import Derived.Laws.BytesString
import Derived.Laws.BytesArg
import Derived.Laws.IdiomStrings
import Derived.Laws.BitsAllLaws
import Derived.Test.YthcompcjphaahaaGreatDoora05
import Derived.Test.YthcompcjphaahaaGreatDoora15
import Derived.Test.YthcompcjphaahaaGreatDoora18
namespace Go.Proofs.YthcompcjphaahaaGreatDoor.Pa
open Go.RowKit
set_option linter.unusedVariables false
def ownI (k:Int) (x:ItemV):ItemV:=⟨x.name,if k=9∨(k=14∧x.rest=false) then x.num else 0,if tysK k then x.type else 0,k==13&&x.key,k==14&&x.rest⟩
set_option maxHeartbeats 2000000 in
theorem own_any (k:Int) (x:ItemV) (w:World):Calls Tryz.prog 221 #[.int .i64 k,itmV x] w fun e w'=>e=.returned (itmV (ownI k x))∧Below w.heap.size w w':=by
 unfold itmV
 have hc:k=9∨k=13∨(k=14∧x.rest=false)∨(k=14∧x.rest=true)∨(k≠9∧k≠13∧k≠14):=by
  cases x.rest <;> simp <;> omega
 rcases hc with h|h|⟨h,hr⟩|⟨h,hr⟩|⟨h,h',h''⟩
 · have e:ownI k x=⟨x.name,x.num,0,false,false⟩:=by subst h;simp [ownI,tysK]
   have k1:tysK k=false:=by simp [tysK];omega
   have k2:(k==9)=true:=by simp;omega
   have k3:(k==13)=false:=by simp;omega
   have k4:(k==14)=false:=by simp;omega
   rw [e]
   dsimp only
   clear e
   go_enter Tryz.func221,Tryz.ntmps221
   go_wp2_with (go_at_call 247;refine (hasTypes_any _ _).mono ?_;rintro e w' ⟨rfl,rfl⟩)
   go_returns
   exact ⟨rfl,by go_grown⟩
 · have e:ownI k x=⟨x.name,0,x.type,x.key,false⟩:=by subst h;simp [ownI,tysK]
   have k1:tysK k=true:=by simp [tysK];omega
   have k2:(k==9)=false:=by simp;omega
   have k3:(k==13)=true:=by simp;omega
   have k4:(k==14)=false:=by simp;omega
   rw [e]
   dsimp only
   clear e
   go_enter Tryz.func221,Tryz.ntmps221
   go_wp2_with (go_at_call 247;refine (hasTypes_any _ _).mono ?_;rintro e w' ⟨rfl,rfl⟩)
   go_returns
   exact ⟨rfl,by go_grown⟩
 · have e:ownI k x=⟨x.name,x.num,x.type,false,false⟩:=by subst h;simp [ownI,tysK,hr]
   have k1:tysK k=true:=by simp [tysK];omega
   have k2:(k==9)=false:=by simp;omega
   have k3:(k==13)=false:=by simp;omega
   have k4:(k==14)=true:=by simp;omega
   rw [e]
   dsimp only
   clear e
   go_enter Tryz.func221,Tryz.ntmps221
   go_wp2_with (go_at_call 247;refine (hasTypes_any _ _).mono ?_;rintro e w' ⟨rfl,rfl⟩)
   go_returns
   exact ⟨rfl,by go_grown⟩
 · have e:ownI k x=⟨x.name,0,x.type,false,true⟩:=by subst h;simp [ownI,tysK,hr]
   have k1:tysK k=true:=by simp [tysK];omega
   have k2:(k==9)=false:=by simp;omega
   have k3:(k==13)=false:=by simp;omega
   have k4:(k==14)=true:=by simp;omega
   rw [e]
   dsimp only
   clear e
   go_enter Tryz.func221,Tryz.ntmps221
   go_wp2_with (go_at_call 247;refine (hasTypes_any _ _).mono ?_;rintro e w' ⟨rfl,rfl⟩)
   go_returns
   exact ⟨rfl,by go_grown⟩
 · have e:ownI k x=⟨x.name,0,0,false,false⟩:=by simp [ownI,tysK,h,h',h'']
   have k1:tysK k=false:=by simp [tysK];omega
   have k2:(k==9)=false:=by simp;omega
   have k3:(k==13)=false:=by simp;omega
   have k4:(k==14)=false:=by simp;omega
   rw [e]
   dsimp only
   clear e
   go_enter Tryz.func221,Tryz.ntmps221
   go_wp2_with (go_at_call 247;refine (hasTypes_any _ _).mono ?_;rintro e w' ⟨rfl,rfl⟩)
   go_returns
   exact ⟨rfl,by go_grown⟩
end Go.Proofs.YthcompcjphaahaaGreatDoor.Pa
namespace Go.Proofs.YthcompcjphaahaaGreatDoor.Pa
open Go.RowKit
set_option linter.unusedVariables false
def subV (T:TypeV) (ao:Option Addr) (len cap:Nat) (at':Nat):Value:=.agg #[.int .i64 T.kind,.string T.name,.int .i64 T.bound,.int .i64 T.of,.int .i64 T.tag,.slice T.ia T.ilen T.icap,.slice ao len cap,.int .i64 at']
def subO (T:TypeV) (ao:Option Addr) (len cap:Nat) (at':Nat):Obj:=.cells #[.int .i64 T.kind,.string T.name,.int .i64 T.bound,.int .i64 T.of,.int .i64 T.tag,.slice T.ia T.ilen T.icap,.slice ao len cap,.int .i64 at'] 210
def ckKind (T:TypeV):Int:=if T.kind<1∨14<T.kind then 4 else 0
def boundBad (T:TypeV):Bool:=boundK T.kind&&(decide (T.bound<if T.kind=10 then 0 else 1)||decide (64<T.bound))
def ckBound (T:TypeV):Int:=if boundBad T then 7 else 0
def ckTag (L:Nat→TypeV) (len:Nat) (T:TypeV):Int:=if T.kind==14&&!numK (kindL L len T.tag) then 8 else 0
def ckCount (T:TypeV):Int:=if namedK T.kind=false then 0 else if T.ilen=0 then 18 else if 16<T.ilen then 3 else 0
def ckDepth (L:Nat→TypeV) (len at':Nat):Int:=if 6<deepL L len (at':Nat) then 9 else 0
theorem checkKind_any (T:TypeV) (ao:Option Addr) (len cap at':Nat) (w:World):Calls Tryz.prog 188 #[subV T ao len cap at'] w fun e w'=>e=.returned (.int .i64 (ckKind T))∧Below w.heap.size w w':=by
 unfold subV
 by_cases h1:T.kind<1
 · have e:ckKind T=4:=by unfold ckKind;rw [if_pos (.inl h1)]
   rw [e]
   clear e
   go_enter Tryz.func188,Tryz.ntmps188
   go_wp2
   go_ret
   exact ⟨rfl,(Below.refl _ _).alloc (Nat.le_refl _) _⟩
 · by_cases h2:14<T.kind
   · have e:ckKind T=4:=by unfold ckKind;rw [if_pos (.inr h2)]
     rw [e]
     clear e
     go_enter Tryz.func188,Tryz.ntmps188
     go_wp2
     go_ret
     exact ⟨rfl,(Below.refl _ _).alloc (Nat.le_refl _) _⟩
   · have e:ckKind T=0:=by unfold ckKind;rw [if_neg (by omega)]
     rw [e]
     clear e
     go_enter Tryz.func188,Tryz.ntmps188
     go_wp2
     go_ret
     exact ⟨rfl,(Below.refl _ _).alloc (Nat.le_refl _) _⟩
set_option maxHeartbeats 1000000 in
theorem checkBound_any (T:TypeV) (ao:Option Addr) (len cap at':Nat) (w:World):Calls Tryz.prog 191 #[subV T ao len cap at'] w fun e w'=>e=.returned (.int .i64 (ckBound T))∧Below w.heap.size w w':=by
 unfold subV
 have hE:ckBound T=if boundK T.kind&&(decide (T.bound<if T.kind=10 then 0 else 1)||decide (64<T.bound)) then 7 else 0:=rfl
 obtain ⟨b0,hb0⟩:∃ b,boundK T.kind=b:=⟨_,rfl⟩
 rw [hb0] at hE
 by_cases h10:T.kind=10
 · have k10:(T.kind==10)=true:=by simpa using h10
   rw [if_pos h10] at hE
   have HE:=Lib.hid hE
   clear hE h10
   cases b0
   all_goals
    go_enter Tryz.func191,Tryz.ntmps191
    go_wp2_with (go_at_call 218;refine (hasBound_any _ _).mono ?_;rintro e w' ⟨rfl,rfl⟩)
    all_goals
     go_ret
     exact ⟨ret_i (by rw [HE.out];simp_all),(Below.refl _ _).alloc (Nat.le_refl _) _⟩
 · have k10:(T.kind==10)=false:=by simpa using h10
   rw [if_neg h10] at hE
   have HE:=Lib.hid hE
   clear hE h10
   cases b0
   all_goals
    go_enter Tryz.func191,Tryz.ntmps191
    go_wp2_with (go_at_call 218;refine (hasBound_any _ _).mono ?_;rintro e w' ⟨rfl,rfl⟩)
    all_goals
     go_ret
     exact ⟨ret_i (by rw [HE.out];simp_all),(Below.refl _ _).alloc (Nat.le_refl _) _⟩
theorem checkCount_any (T:TypeV) (ao:Option Addr) (len cap at':Nat) (hil:T.ilen≤3518437208780) (w:World):Calls Tryz.prog 194 #[subV T ao len cap at'] w fun e w'=>e=.returned (.int .i64 (ckCount T))∧Below w.heap.size w w':=by
 unfold subV
 have hE:ckCount T=if namedK T.kind=false then 0 else if T.ilen=0 then 18 else if 16<T.ilen then 3 else 0:=rfl
 obtain ⟨b0,hb0⟩:∃ b,namedK T.kind=b:=⟨_,rfl⟩
 rw [hb0] at hE
 have HE:=Lib.hid hE
 clear hE
 cases b0
 all_goals
  go_enter Tryz.func194,Tryz.ntmps194
  go_wp2_with (go_at_call 166;refine (hasItems_any _ _).mono ?_;rintro e w' ⟨rfl,rfl⟩)
  all_goals
   go_ret
   exact ⟨ret_i (by rw [HE.out];simp_all <;> omega),(Below.refl _ _).alloc (Nat.le_refl _) _⟩
set_option maxHeartbeats 1000000 in
theorem checkTag_any (T:TypeV) (ao:Option Addr) (len cap at':Nat) (L:Nat→TypeV) (hlen:len≤1000000) (w:World) (H:∀ i,i<len→TypeAt w ao i (L i)):Calls Tryz.prog 193 #[subV T ao len cap at'] w fun e w'=>e=.returned (.int .i64 (ckTag L len T))∧Below w.heap.size w w':=by
 unfold subV
 have hE:ckTag L len T=if T.kind==14&&!numK (kindL L len T.tag) then 8 else 0:=rfl
 have HK:=Lib.hid (fun wx (hb:Below w.heap.size w wx)=>kindOf_any ao len cap L (by omega) T.tag wx (hold H hb))
 obtain ⟨b0,hb0⟩:∃ b,(T.kind==14)=b:=⟨_,rfl⟩
 obtain ⟨b1,hb1⟩:∃ b,numK (kindL L len T.tag)=b:=⟨_,rfl⟩
 rw [hb0,hb1] at hE
 have HE:=Lib.hid hE
 clear hE H
 cases b0 <;> cases b1
 all_goals
  go_enter Tryz.func193,Tryz.ntmps193
  go_wp2_with (first
   |(go_at_call 220;refine (hasTag_any _ _).mono ?_;rintro e w' ⟨rfl,rfl⟩)
   |(go_at_call 167;refine (HK.out _ ((Below.refl _ _).alloc (Nat.le_refl _) _)).mono ?_;rintro e w' ⟨rfl,rfl⟩)
   |(go_at_call 132;refine (number_same _ _).mono ?_;rintro e w' ⟨rfl,rfl⟩))
  go_ret
  exact ⟨ret_i (by rw [HE.out];rfl),(Below.refl _ _).alloc (Nat.le_refl _) _⟩
set_option maxHeartbeats 1000000 in
theorem checkDepth_any (T:TypeV) (ao:Option Addr) (len cap at':Nat) (L:Nat→TypeV) (hlen:len≤1000000) (hat:at' <len) (w:World) (H:∀ i,i<len→TypeAt w ao i (L i)):Calls Tryz.prog 196 #[subV T ao len cap at'] w fun e w'=>e=.returned (.int .i64 (ckDepth L len at'))∧Below w.heap.size w w':=by
 unfold subV
 have hE:ckDepth L len at'=if 6<deepL L len (at':Nat) then 9 else 0:=rfl
 have HD:=Lib.hid (fun wx (hb:Below w.heap.size w wx)=>deep6_any ao len cap L hlen (at':Nat) wx (hold H hb))
 obtain ⟨d,hd⟩:∃ d,deepL L len (at':Nat)=d:=⟨_,rfl⟩
 rw [hd] at hE HD
 have HE:=Lib.hid hE
 clear hE H hd
 go_enter Tryz.func196,Tryz.ntmps196
 go_wp2_with (go_at_call 225;refine (HD.out _ ((Below.refl _ _).alloc (Nat.le_refl _) _)).mono ?_;rintro e w2 ⟨rfl,hb2⟩;have HB2:=Lib.hid (((Below.refl _ _).alloc (Nat.le_refl _) _).trans (hb2.mono (by simp)));clear hb2)
 all_goals
  go_ret
  exact ⟨ret_i (by rw [HE.out];simp_all),HB2.out⟩
end Go.Proofs.YthcompcjphaahaaGreatDoor.Pa
namespace Go.Proofs.YthcompcjphaahaaGreatDoor.Pa
open Go.RowKit
set_option linter.unusedVariables false
def sameI (a b:ItemV):Bool:=(a.name.toList==b.name.toList)&&((a.num==b.num)&&((a.type==b.type)&&((a.key==b.key)&&(a.rest==b.rest))))
theorem item_neq (xn yn:ByteArray) (xu yu xt yt:Int) (xk yk xr yr:Bool) (w:World):(binOp .neq 60 (.agg #[.string xn,.int .u64 xu,.int .i64 xt,.bool xk,.bool xr]) (.agg #[.string yn,.int .u64 yu,.int .i64 yt,.bool yk,.bool yr])).run Tryz.prog w=.ok (.bool (!sameI ⟨xn,xu,xt,xk,xr⟩ ⟨yn,yu,yt,yk,yr⟩)) w:=by
 have hu:=Tryz.underlying60
 have hi:=Tryz.underlying3
 have hb:=Tryz.underlying4
 have hn:=Tryz.underlying27
 have hs:=Tryz.underlying9
 have p0:=fun w=>run_equalIn_string (P:=Tryz.prog) w 9998 9 xn yn hs
 have p1:=fun w=>run_equalIn_int (P:=Tryz.prog) w 9998 27 .u64 .u64 xu yu hn
 have p2:=fun w=>run_equalIn_int (P:=Tryz.prog) w 9998 3 .i64 .i64 xt yt hi
 have p3:=fun a b w=>run_equalIn_bool' (P:=Tryz.prog) w 9998 4 a b hb
 rw [run_neq_struct,run_equalIn_agg _ 9999 _ _ _ (by kernel_rfl) (by kernel_rfl)]
 simp only [Program.fieldsOf,hu]
 simp [Op.eqFields,go_sem,p0,p1,p2,p3]
 unfold sameI
 dsimp only
 (repeat' split) <;> simp_all
def BoxS (g:Nat) (T:TypeV) (ao:Option Addr) (len cap at':Nat) (w0 w:World):Prop:=w.heap[g]?=some (subO T ao len cap at')∧Below g w0 w
theorem BoxS.cells {g:Nat} {T:TypeV} {ao:Option Addr} {len cap at':Nat} {w0 w:World} (h:BoxS g T ao len cap at' w0 w):
  w.cell? ⟨g,0,none⟩=some (.int .i64 T.kind)∧w.cell? ⟨g,1,none⟩=some (.string T.name)∧w.cell? ⟨g,2,none⟩=some (.int .i64 T.bound)∧w.cell? ⟨g,3,none⟩=some (.int .i64 T.of)∧w.cell? ⟨g,4,none⟩=some (.int .i64 T.tag)∧w.cell? ⟨g,5,none⟩=some (.slice T.ia T.ilen T.icap)∧
   w.cell? ⟨g,6,none⟩=some (.slice ao len cap)∧w.cell? ⟨g,7,none⟩=some (.int .i64 at'):=
 ⟨cell_at h.1 rfl,cell_at h.1 rfl,cell_at h.1 rfl,cell_at h.1 rfl,cell_at h.1 rfl,cell_at h.1 rfl,cell_at h.1 rfl,cell_at h.1 rfl⟩
theorem BoxS.keep {g:Nat} {T:TypeV} {ao:Option Addr} {len cap at':Nat} {w0 w w1:World} (h:BoxS g T ao len cap at' w0 w) (hb:Below w.heap.size w w1):BoxS g T ao len cap at' w0 w1:=
 ⟨(hb.block g (lt_of_block h.1)).trans h.1,h.2.trans (hb.mono (Nat.le_of_lt (lt_of_block h.1)))⟩
theorem BoxS.start (T:TypeV) (ao:Option Addr) (len cap at':Nat) (w:World):BoxS w.heap.size T ao len cap at' w (w.alloc (subO T ao len cap at')):=⟨alloc_at w _,(Below.refl _ _).alloc (Nat.le_refl _) _⟩
theorem BoxS.drew {g:Nat} {T:TypeV} {ao:Option Addr} {len cap at':Nat} {w0 w:World} (h:BoxS g T ao len cap at' w0 w):BoxS g T ao len cap at' w0 w.drew:=⟨h.1,h.2.drew⟩
def f1B (T:TypeV):Bool:=!T.name.toList.isEmpty&&!namedK T.kind
def f2B (T:TypeV):Bool:=T.bound !=0&&!boundK T.kind
def f3B (T:TypeV):Bool:=T.of !=0&&!ofK T.kind
def f4B (T:TypeV):Bool:=T.tag !=0&&!(T.kind==14)
def f5B (T:TypeV):Bool:=decide (0<T.ilen)&&!namedK T.kind
def itemBad (k:Int) (x:ItemV):Bool:=!sameI x (ownI k x)
def formB (T:TypeV):Bool:=f1B T||f2B T||f3B T||f4B T||f5B T||hasB (fun j=>itemBad T.kind (T.items j)) T.ilen
def ckForm (T:TypeV):Int:=if formB T then 1 else 0
theorem itemBad_eq (k:Int) (x:ItemV):itemBad k x=!sameI ⟨x.name,x.num,x.type,x.key,x.rest⟩ ⟨(ownI k x).name,(ownI k x).num,(ownI k x).type,(ownI k x).key,(ownI k x).rest⟩:=rfl
set_option maxRecDepth 100000 in
set_option maxHeartbeats 4000000 in
theorem checkForm_any (T:TypeV) (ao:Option Addr) (len cap at':Nat) (w:World) (HT:ItemsAt w T):Calls Tryz.prog 189 #[subV T ao len cap at'] w fun e w'=>e=.returned (.int .i64 (ckForm T))∧Below w.heap.size w w':=by
 obtain ⟨hil,hit⟩:=HT
 obtain ⟨ia,hia⟩:∃ ia,T.ia=ia:=⟨_,rfl⟩
 rw [hia] at hit
 have HI:=Lib.hid hit
 have hst:=BoxS.start T ao len cap at' w
 unfold subO at hst
 rw [hia] at hst
 have HS:=Lib.hid hst
 have HE:=Lib.hid (show ckForm T=if f1B T||f2B T||f3B T||f4B T||f5B T||hasB (fun j=>itemBad T.kind (T.items j)) T.ilen then 1 else 0 from rfl)
 clear hit hst
 unfold subV
 rw [hia]
 have HIA:=Lib.hid hia
 clear hia
 go_enter Tryz.func189,Tryz.ntmps189
 go_upto_region 1 with (fail)
 generalize (w.alloc (.cells #[.int .i64 T.kind,.string T.name,.int .i64 T.bound,.int .i64 T.of,.int .i64 T.tag,.slice ia T.ilen T.icap,.slice ao len cap,.int .i64 at'] 210))=W0 at *
 obtain ⟨c0,c1,c2,c3,c4,c5,c6,c7⟩:=HS.out.cells
 rw [HIA.out] at c5
 go_cut [5] (fun t wx=>t=.bool (f1B T)∧W0=wx)
 case first=>
  obtain ⟨a,ha⟩:∃ a,T.name.toList.isEmpty=a:=⟨_,rfl⟩
  obtain ⟨b,hb⟩:∃ b,namedK T.kind=b:=⟨_,rfl⟩
  have H1:=Lib.hid (show f1B T=(!a&&!b) by rw [←ha,←hb];rfl)
  cases a <;> cases b
  all_goals
   go_wp2_with (go_at_call 166;refine (hasItems_any _ _).mono ?_;rintro e w' ⟨rfl,rfl⟩)
   go_meet
   exact ⟨by rw [H1.out];rfl,by first|rfl|trivial⟩
 case rest=>
  obtain ⟨rfl,rfl⟩:=hcut
  cases h1:f1B T with
  |true=>
   go_wp2
   go_ret
   exact ⟨ret_i (by rw [HE.out,h1];simp),HS.out.2⟩
  |false=>
   go_upto_region 2 with (fail)
   go_cut [5] (fun t wx=>t=.bool (f2B T)∧W0=wx)
   case first=>
    obtain ⟨a,ha⟩:∃ a,(T.bound !=0)=a:=⟨_,rfl⟩
    obtain ⟨b,hb⟩:∃ b,boundK T.kind=b:=⟨_,rfl⟩
    have H1:=Lib.hid (show f2B T=(a&&!b) by rw [←ha,←hb];rfl)
    cases a <;> cases b
    all_goals
     go_wp2_with (go_at_call 218;refine (hasBound_any _ _).mono ?_;rintro e w' ⟨rfl,rfl⟩)
     go_meet
     exact ⟨by rw [H1.out];rfl,by first|rfl|trivial⟩
   case rest=>
    obtain ⟨rfl,rfl⟩:=hcut
    cases h2:f2B T with
    |true=>
     go_wp2
     go_ret
     exact ⟨ret_i (by rw [HE.out,h1,h2];simp),HS.out.2⟩
    |false=>
     go_upto_region 3 with (fail)
     go_cut [5] (fun t wx=>t=.bool (f3B T)∧W0=wx)
     case first=>
      obtain ⟨a,ha⟩:∃ a,(T.of !=0)=a:=⟨_,rfl⟩
      obtain ⟨b,hb⟩:∃ b,ofK T.kind=b:=⟨_,rfl⟩
      have H1:=Lib.hid (show f3B T=(a&&!b) by rw [←ha,←hb];rfl)
      cases a <;> cases b
      all_goals
       go_wp2_with (go_at_call 219;refine (hasOf_any _ _).mono ?_;rintro e w' ⟨rfl,rfl⟩)
       go_meet
       exact ⟨by rw [H1.out];rfl,by first|rfl|trivial⟩
     case rest=>
      obtain ⟨rfl,rfl⟩:=hcut
      cases h3:f3B T with
      |true=>
       go_wp2
       go_ret
       exact ⟨ret_i (by rw [HE.out,h1,h2,h3];simp),HS.out.2⟩
      |false=>
       go_upto_region 4 with (fail)
       go_cut [5] (fun t wx=>t=.bool (f4B T)∧W0=wx)
       case first=>
        obtain ⟨a,ha⟩:∃ a,(T.tag !=0)=a:=⟨_,rfl⟩
        obtain ⟨b,hb⟩:∃ b,(T.kind==14)=b:=⟨_,rfl⟩
        have H1:=Lib.hid (show f4B T=(a&&!b) by rw [←ha,←hb];rfl)
        cases a <;> cases b
        all_goals
         go_wp2_with (go_at_call 220;refine (hasTag_any _ _).mono ?_;rintro e w' ⟨rfl,rfl⟩)
         go_meet
         exact ⟨by rw [H1.out];rfl,by first|rfl|trivial⟩
       case rest=>
        obtain ⟨rfl,rfl⟩:=hcut
        cases h4:f4B T with
        |true=>
         go_wp2
         go_ret
         exact ⟨ret_i (by rw [HE.out,h1,h2,h3,h4];simp),HS.out.2⟩
        |false=>
         go_upto_region 5 with (fail)
         go_cut [5] (fun t wx=>t=.bool (f5B T)∧W0=wx)
         case first=>
          obtain ⟨b,hb⟩:∃ b,namedK T.kind=b:=⟨_,rfl⟩
          by_cases hp:0<T.ilen
          all_goals
           have H1:=Lib.hid (show f5B T=(decide (0<T.ilen)&&!b) by unfold f5B;rw [hb])
           cases b
           all_goals
            go_wp2_with (go_at_call 166;refine (hasItems_any _ _).mono ?_;rintro e w' ⟨rfl,rfl⟩)
            go_meet
            exact ⟨by rw [H1.out];simp [hp],by first|rfl|trivial⟩
         case rest=>
          obtain ⟨rfl,rfl⟩:=hcut
          cases h5:f5B T with
          |true=>
           go_wp2
           go_ret
           exact ⟨ret_i (by rw [HE.out,h1,h2,h3,h4,h5];simp),HS.out.2⟩
          |false=>
           have HE2:=Lib.hid (show ckForm T=if hasB (fun j=>itemBad T.kind (T.items j)) T.ilen then 1 else 0 by rw [HE.out,h1,h2,h3,h4,h5];simp)
           clear h1 h2 h3 h4 h5 c1 c2 c3 c4 c6 c7
           go_wp2
           clear c0 c5
           obtain ⟨W1,hW1⟩:∃ W1:World,W1=W0:=⟨_,rfl⟩
           rw [←hW1] at HS ⊢
           clear hW1
           go_loopw [66] (fun i wr=>∃ j:Nat,j≤T.ilen∧i=.int .i64 j∧Hid (∀ m,m<j→itemBad T.kind (T.items m)=false)∧Hid (BoxS w.heap.size T ao len cap at' w wr)) (fun i _=>T.ilen - (intOf i).toNat)
           case atStart=>exact ⟨0,Nat.zero_le _,rfl,Lib.hid (fun m hm=>absurd hm (Nat.not_lt_zero _)),HS⟩
           case round=>
            obtain ⟨j,hj,rfl,HN,HB⟩:=hrel
            by_cases hlt:j<T.ilen
            · have hiat:=(HI.out j hlt).held (w1:=wr) HB.out.2
              obtain ⟨b,off,rfl,x0,x1,x2,x3,x4,wi⟩:=hiat
              have hown:=own_any T.kind (T.items j)
              have hne:=fun w=>item_neq (T.items j).name (ownI T.kind (T.items j)).name (T.items j).num (ownI T.kind (T.items j)).num (T.items j).type (ownI T.kind (T.items j)).type (T.items j).key (ownI T.kind (T.items j)).key (T.items j).rest (ownI T.kind (T.items j)).rest w
              obtain ⟨q,hq⟩:∃ q,itemBad T.kind (T.items j)=q:=⟨_,rfl⟩
              rw [←itemBad_eq,hq] at hne
              unfold itmV at hown
              generalize ownI T.kind (T.items j)=y at hown hne
              have HO:=Lib.hid hown
              have hgl:=lt_of_block HB.out.1
              have HB2:=Lib.hid (HB.out.keep ((Below.refl wr.heap.size wr).alloc (Nat.le_refl _) (.cells #[.string (T.items j).name,.int .u64 (T.items j).num,.int .i64 (T.items j).type,.bool (T.items j).key,.bool (T.items j).rest] 60)))
              have hx:=alloc_at wr (.cells #[.string (T.items j).name,.int .u64 (T.items j).num,.int .i64 (T.items j).type,.bool (T.items j).key,.bool (T.items j).rest] 60)
              clear hown
              go_upto_region 10 with (fail)
              clear x0 x1 x2 x3 x4
              generalize (wr.alloc (.cells #[.string (T.items j).name,.int .u64 (T.items j).num,.int .i64 (T.items j).type,.bool (T.items j).key,.bool (T.items j).rest] 60))=W2 at HB2 hx ⊢
              generalize wr.heap.size=h at hx hgl ⊢
              have x0:=cell_at (j:=0) hx rfl
              have x1:=cell_at (j:=1) hx rfl
              have x2:=cell_at (j:=2) hx rfl
              have x3:=cell_at (j:=3) hx rfl
              have x4:=cell_at (j:=4) hx rfl
              have k0:=HB2.out.cells.1
              clear hx HB
              cases q
              · go_wp2_with fail
                go_region_held3 (fun w'=>w'.cell? ⟨w.heap.size,0,none⟩=some (.int .i64 T.kind)∧w'.cell? ⟨h,0,none⟩=some (.string (T.items j).name)∧w'.cell? ⟨h,1,none⟩=some (.int .u64 (T.items j).num)∧w'.cell? ⟨h,2,none⟩=some (.int .i64 (T.items j).type)∧w'.cell? ⟨h,3,none⟩=some (.bool (T.items j).key)∧w'.cell? ⟨h,4,none⟩=some (.bool (T.items j).rest)∧Hid (BoxS w.heap.size T ao len cap at' w w'))
                 (first|exact ⟨k0,x0,x1,x2,x3,x4,Lib.hid HB2.out.drew⟩|exact ⟨k0,x0,x1,x2,x3,x4,HB2⟩|fail)
                 (first
                  |(go_at_call 221;refine (HO.out _).mono ?_;rintro e w3 ⟨rfl,hb3⟩;have k0:=keep6 hb3 (by exact k0);have x0:=keep6 hb3 (by exact x0);have x1:=keep6 hb3 (by exact x1);have x2:=keep6 hb3 (by exact x2);have x3:=keep6 hb3 (by exact x3);have x4:=keep6 hb3 (by exact x4);have HB2:=Lib.hid (BoxS.keep (by first|exact HB2.out|exact HB2.out.drew) hb3);clear hb3))
                go_wp2_with fail
                go_roundw
                case rel=>exact ⟨j+1,by omega,by go_num,Lib.hid (none_next HN.out hq),HB2⟩
                case measure=>simp [intOf];omega
              · go_wp2_with fail
                go_region_held3 (fun w'=>w'.cell? ⟨w.heap.size,0,none⟩=some (.int .i64 T.kind)∧w'.cell? ⟨h,0,none⟩=some (.string (T.items j).name)∧w'.cell? ⟨h,1,none⟩=some (.int .u64 (T.items j).num)∧w'.cell? ⟨h,2,none⟩=some (.int .i64 (T.items j).type)∧w'.cell? ⟨h,3,none⟩=some (.bool (T.items j).key)∧w'.cell? ⟨h,4,none⟩=some (.bool (T.items j).rest)∧Hid (BoxS w.heap.size T ao len cap at' w w'))
                 (first|exact ⟨k0,x0,x1,x2,x3,x4,Lib.hid HB2.out.drew⟩|exact ⟨k0,x0,x1,x2,x3,x4,HB2⟩|fail)
                 (first
                  |(go_at_call 221;refine (HO.out _).mono ?_;rintro e w3 ⟨rfl,hb3⟩;have k0:=keep6 hb3 (by exact k0);have x0:=keep6 hb3 (by exact x0);have x1:=keep6 hb3 (by exact x1);have x2:=keep6 hb3 (by exact x2);have x3:=keep6 hb3 (by exact x3);have x4:=keep6 hb3 (by exact x4);have HB2:=Lib.hid (BoxS.keep (by first|exact HB2.out|exact HB2.out.drew) hb3);clear hb3))
                go_wp2_with fail
                go_ret
                exact ⟨ret_i (by rw [HE2.out,hasB_some hlt hq];rfl),HB2.out.2⟩
            · obtain rfl:j=T.ilen:=by omega
              have hf:=hasB_none HN.out
              go_wp2
              go_ret
              exact ⟨ret_i (by rw [HE2.out,hf];rfl),HB.out.2⟩
end Go.Proofs.YthcompcjphaahaaGreatDoor.Pa
namespace Go.Proofs.YthcompcjphaahaaGreatDoor.Pa
open Go.RowKit
set_option linter.unusedVariables false
def nameTw (L:Nat→TypeV) (T:TypeV) (at':Nat):Bool:=hasB (fun i=>(L i).name.toList==T.name.toList) at'
def ckName (L:Nat→TypeV) (T:TypeV) (at':Nat):Int:=if namedK T.kind=false then 0 else if nameS T.name=false then 5 else if nameTw L T at' then 6 else 0
def orderBad (T:TypeV) (at':Nat):Bool:=hasB (fun j=>!inL at' ((partsL T).getD j 0)) (partsL T).length
def ckOrder (T:TypeV) (at':Nat):Int:=if orderBad T at' then 14 else 0
set_option maxHeartbeats 2000000 in
theorem checkName_any (T:TypeV) (ao:Option Addr) (len cap at':Nat) (L:Nat→TypeV) (hlen:len≤1000000) (hcap:len≤cap) (hat:at' <len) (hns:T.name.size≤140737488351232) (w:World) (H:∀ i,i<len→TypeAt w ao i (L i)):Calls Tryz.prog 190 #[subV T ao len cap at'] w fun e w'=>e=.returned (.int .i64 (ckName L T at'))∧Below w.heap.size w w':=by
 have HH:=Lib.hid H
 clear H
 cases hn:namedK T.kind with
 |false=>
  have e:ckName L T at'=0:=by unfold ckName;rw [hn];rfl
  rw [e]
  clear e
  unfold subV
  go_enter Tryz.func190,Tryz.ntmps190
  go_wp2_with (go_at_call 166;refine (hasItems_any _ _).mono ?_;rintro e w' ⟨rfl,rfl⟩)
  go_ret
  exact ⟨rfl,(Below.refl _ _).alloc (Nat.le_refl _) _⟩
 |true=>
  cases hs:nameS T.name with
  |false=>
   have e:ckName L T at'=5:=by unfold ckName;rw [hn,hs];rfl
   rw [e]
   clear e
   have HN:=Lib.hid (fun w=>hs ▸ name_any T.name (Nat.le_trans hns (by decide)) w)
   clear hs
   unfold subV
   go_enter Tryz.func190,Tryz.ntmps190
   go_wp2_with (first
    |(go_at_call 166;refine (hasItems_any _ _).mono ?_;rintro e w' ⟨rfl,rfl⟩)
    |(go_at_call 222;refine (HN.out _).mono ?_;rintro e w2 ⟨rfl,hb2⟩;have HB2:=Lib.hid (((Below.refl _ _).alloc (Nat.le_refl _) _).trans (hb2.mono (by simp)));clear hb2))
   go_ret
   exact ⟨rfl,HB2.out⟩
  |true=>
   have HE:=Lib.hid (show ckName L T at'=if nameTw L T at' then 6 else 0 by unfold ckName;rw [hn,hs];rfl)
   have HN:=Lib.hid (fun w=>hs ▸ name_any T.name (Nat.le_trans hns (by decide)) w)
   clear hs
   have HS:=Lib.hid (BoxS.start T ao len cap at' w)
   obtain ⟨a,rfl⟩:∃ a,ao=some a:=by obtain ⟨b,off,e,_⟩:=HH.out at' hat;exact ⟨_,e⟩
   unfold subV
   go_enter Tryz.func190,Tryz.ntmps190
   go_wp2_with (first
    |(go_at_call 166;refine (hasItems_any _ _).mono ?_;rintro e w' ⟨rfl,rfl⟩)
    |(go_at_call 222;refine (HN.out _).mono ?_;rintro e w2 ⟨rfl,hb2⟩;have HB2:=Lib.hid (HS.out.keep hb2);obtain ⟨c0,c1,c2,c3,c4,c5,c6,c7⟩:=HB2.out.cells;clear hb2))
   clear c0 c1 c2 c3 c4 c5 c6 c7
   go_loopw [21] (fun i wr=>∃ j:Nat,j≤at'∧i=.int .i64 j∧Hid (∀ m,m<j→((L m).name.toList==T.name.toList)=false)∧Hid (BoxS w.heap.size T (some a) len cap at' w wr)) (fun i _=>at' - (intOf i).toNat)
   case atStart=>exact ⟨0,Nat.zero_le _,rfl,Lib.hid (fun m hm=>absurd hm (Nat.not_lt_zero _)),HB2⟩
   case round=>
    obtain ⟨j,hj,rfl,HF,HB⟩:=hrel
    by_cases hlt:j<at'
    · obtain ⟨b,off,ha,x0,x1,x2,x3,x4,x5,wf,_⟩:=(HH.out j (by omega)).held (w1:=wr) HB.out.2
      cases ha
      obtain ⟨c0,c1,c2,c3,c4,c5,c6,c7⟩:=HB.out.cells
      have hgl:=lt_of_block HB.out.1
      have hne:¬w.heap.size=wr.heap.size:=by omega
      have HB3:=Lib.hid (fun o=>HB.out.keep ((Below.refl wr.heap.size wr).alloc (Nat.le_refl _) o))
      cases hq:((L j).name.toList==T.name.toList) with
      |true=>
       have HT:=Lib.hid (show nameTw L T at'=true from hasB_some (p:=fun i=>(L i).name.toList==T.name.toList) hlt hq)
       go_wp2
       go_ret
       exact ⟨ret_i (by rw [HE.out,HT.out];rfl),(HB3.out _).2⟩
      |false=>
       have HF2:=Lib.hid (none_next (p:=fun i=>(L i).name.toList==T.name.toList) HF.out hq)
       go_wp2
       go_roundw
       case rel=>exact ⟨j+1,by omega,by go_num,HF2,Lib.hid (HB3.out _)⟩
       case measure=>simp [intOf];omega
    · obtain rfl:j=at':=by omega
      have HT:=Lib.hid (show nameTw L T j=false from hasB_none (p:=fun i=>(L i).name.toList==T.name.toList) HF.out)
      go_wp2
      go_ret
      exact ⟨ret_i (by rw [HE.out,HT.out];rfl),HB.out.2⟩
set_option maxHeartbeats 2000000 in
theorem checkOrder_any (T:TypeV) (ao:Option Addr) (len cap at':Nat) (hlen:len≤1000000) (hcap:len≤cap) (hat:at' <len) (hao:∃ a,ao=some a) (w:World) (HT:ItemsAt w T):Calls Tryz.prog 192 #[subV T ao len cap at'] w fun e w'=>e=.returned (.int .i64 (ckOrder T at'))∧Below w.heap.size w w':=by
 have HS:=Lib.hid (BoxS.start T ao len cap at' w)
 have hll:=partsL_len HT.1
 have HI:=Lib.hid (fun p=>isIn_any ao at' cap (by omega) p)
 have hcall:=fun wx (hb:Below w.heap.size w wx)=>parts6_any T wx (HT.held hb)
 obtain ⟨l,hl⟩:∃ l,partsL T=l:=⟨_,rfl⟩
 have HE:=Lib.hid (show ckOrder T at'=if hasB (fun j=>!inL at' (l.getD j 0)) l.length then 14 else 0 by unfold ckOrder orderBad;rw [hl])
 rw [hl] at hcall hll
 unfold typV at hcall
 have HC:=Lib.hid hcall
 clear hcall hl HT
 obtain ⟨a,rfl⟩:=hao
 unfold subV
 go_enter Tryz.func192,Tryz.ntmps192
 go_wp2_with (go_at_call 223;refine (HC.out _ ((Below.refl _ _).alloc (Nat.le_refl _) _)).mono ?_;rintro e w2 ⟨v,rfl,hown,hb2⟩;obtain ⟨va,vc,rfl,hva⟩:=row_form hown;have HV:=Lib.hid hva;have HO2:=Lib.hid hown;have HB2:=Lib.hid (HS.out.keep hb2);obtain ⟨c0,c1,c2,c3,c4,c5,c6,c7⟩:=HB2.out.cells;clear hown hva hb2)
 go_loopw [9] (fun i wr=>∃ j:Nat,j≤l.length∧i=.int .i64 j∧Hid (∀ m,m<j→(!inL at' (l.getD m 0))=false)∧wr=w2) (fun i _=>l.length - (intOf i).toNat)
 case atStart=>exact ⟨0,Nat.zero_le _,rfl,Lib.hid (fun m hm=>absurd hm (Nat.not_lt_zero _)),rfl⟩
 case round=>
  obtain ⟨j,hj,rfl,HF,rfl⟩:=hrel
  by_cases hjl:j<l.length
  · obtain ⟨g',rfl⟩:=HV.out (by omega)
    have c:=cell_int HO2.out j hjl
    obtain ⟨p,hp⟩:∃ p,l.getD j 0=p:=⟨_,rfl⟩
    rw [hp] at c
    obtain ⟨q,hq⟩:∃ q,inL at' p=q:=⟨_,rfl⟩
    have hi:=HI.out p
    rw [hq] at hi
    have HI2:=Lib.hid hi
    clear hi
    cases q with
    |false=>
     have HT:=Lib.hid (hasB_some (p:=fun j=>!inL at' (l.getD j 0)) hjl (by show (!inL at' (l.getD j 0))=true;rw [hp,hq];rfl))
     clear hp hq
     go_wp2_with (go_at_call 201;refine (HI2.out _).mono ?_;rintro e w' ⟨rfl,rfl⟩)
     go_ret
     exact ⟨ret_i (by rw [HE.out,HT.out];rfl),HB2.out.2⟩
    |true=>
     have HF2:=Lib.hid (none_next (p:=fun j=>!inL at' (l.getD j 0)) HF.out (by show (!inL at' (l.getD j 0))=false;rw [hp,hq];rfl))
     clear hp hq
     go_wp2_with (go_at_call 201;refine (HI2.out _).mono ?_;rintro e w' ⟨rfl,rfl⟩)
     go_roundw
     case rel=>exact ⟨j+1,by omega,by go_num,HF2,by first|rfl|trivial⟩
     case measure=>simp [intOf];omega
  · obtain rfl:j=l.length:=by omega
    have HT:=Lib.hid (hasB_none (p:=fun j=>!inL at' (l.getD j 0)) HF.out)
    go_wp2
    go_ret
    exact ⟨ret_i (by rw [HE.out,HT.out];rfl),HB2.out.2⟩
end Go.Proofs.YthcompcjphaahaaGreatDoor.Pa
namespace Go.Proofs.YthcompcjphaahaaGreatDoor.Pa
open Go.RowKit
set_option linter.unusedVariables false
def isTagB (L:Nat→TypeV) (len:Nat) (T:TypeV) (n:Int):Bool:=if kindL L len T.tag=9 then okZ (valueL L len T.tag n) else mayK (kindL L len T.tag) n
def ckValue (L:Nat→TypeV) (len at':Nat) (T:TypeV) (i:Nat):Int:=if mayK 9 (T.items i).num=false then 7 else if posZ (valueL L len (at':Nat) (T.items i).num)<i then 6 else 0
def ckField (L:Nat→TypeV) (len:Nat) (T:TypeV) (i:Nat):Int:=if (T.items i).key&&!numK (kindL L len (T.items i).type)&&kindL L len (T.items i).type !=10 then 17 else 0
def ckBranch (L:Nat→TypeV) (len at':Nat) (T:TypeV) (i:Nat):Int:=
 if (T.items i).rest then (if i+1<T.ilen then 14 else 0) else if isTagB L len T (T.items i).num=false then 7 else if posZ (branchL L len (at':Nat) (T.items i).num)<i then 6 else 0
def ckItem (L:Nat→TypeV) (len at':Nat) (T:TypeV) (i:Nat):Int:=
 if nameS (T.items i).name=false then 5 else if posZ (itemL L len (at':Nat) (T.items i).name)<i then 6 else if T.kind=9 then ckValue L len at' T i else if T.kind=13 then ckField L len T i else ckBranch L len at' T i
set_option maxHeartbeats 1000000 in
theorem isTag_any (T:TypeV) (n:Int) (ao:Option Addr) (len cap at':Nat) (L:Nat→TypeV) (hlen:len≤1000000) (hn:(Lit.int .u64 n).wf=true) (w:World) (H:∀ i,i<len→TypeAt w ao i (L i)):
  Calls Tryz.prog 260 #[subV T ao len cap at',.int .u64 n] w fun e w'=>e=.returned (.bool (isTagB L len T n))∧Below w.heap.size w w':=by
 have hst:=BoxS.start T ao len cap at' w
 unfold subO at hst
 have HS:=Lib.hid hst
 clear hst
 have hk:=fun wx (hb:Below w.heap.size w wx)=>kindOf_any ao len cap L (by omega) T.tag wx (hold H hb)
 have hv:=fun wx (hb:Below w.heap.size w wx)=>value6_any ao len cap L T.tag n (by omega) wx (hold H hb)
 have hm:=fun wx=>may_any (kindL L len T.tag) n hn wx
 have hE:isTagB L len T n=if kindL L len T.tag=9 then okZ (valueL L len T.tag n) else mayK (kindL L len T.tag) n:=rfl
 obtain ⟨kd,hkd⟩:∃ kd,kindL L len T.tag=kd:=⟨_,rfl⟩
 unfold foundV at hv
 obtain ⟨z,hz⟩:∃ z,valueL L len T.tag n=z:=⟨_,rfl⟩
 rw [hkd] at hk hm hE
 rw [hz] at hv hE
 have HK:=Lib.hid hk
 have HV:=Lib.hid hv
 have HM:=Lib.hid hm
 clear hk hv hm hkd hz H
 unfold subV
 by_cases h9:kd=9
 · rw [if_pos h9] at hE
   have HE:=Lib.hid hE
   have k9:(kd==9)=true:=by simpa using h9
   clear hE h9
   go_enter Tryz.func260,Tryz.ntmps260
   go_wp2_with (first
    |(go_at_call 167;refine (HK.out _ HS.out.2).mono ?_;rintro e w' ⟨rfl,rfl⟩)
    |(go_at_call 259;refine (HV.out _ HS.out.2).mono ?_;rintro e w2 ⟨rfl,hb2⟩;have HB2:=Lib.hid (HS.out.2.trans (hb2.mono (by simp)));clear hb2))
   go_ret
   exact ⟨ret_b (by rw [HE.out]),HB2.out⟩
 · rw [if_neg h9] at hE
   have HE:=Lib.hid hE
   have k9:(kd==9)=false:=by simpa using h9
   clear hE h9
   go_enter Tryz.func260,Tryz.ntmps260
   go_wp2_with (first
    |(go_at_call 167;refine (HK.out _ HS.out.2).mono ?_;rintro e w' ⟨rfl,rfl⟩)
    |(go_at_call 258;refine (HM.out _).mono ?_;rintro e w2 ⟨rfl,hb2⟩;have HB2:=Lib.hid (HS.out.2.trans (hb2.mono (by simp)));clear hb2))
   go_ret
   exact ⟨ret_b (by rw [HE.out]),HB2.out⟩
set_option maxHeartbeats 1000000 in
theorem checkValue_any (T:TypeV) (i:Nat) (ao:Option Addr) (len cap at':Nat) (L:Nat→TypeV) (hlen:len≤1000000) (hi:i<T.ilen) (w:World) (HT:ItemsAt w T) (H:∀ i,i<len→TypeAt w ao i (L i)):
  Calls Tryz.prog 248 #[subV T ao len cap at',.int .i64 i] w fun e w'=>e=.returned (.int .i64 (ckValue L len at' T i))∧Below w.heap.size w w':=by
 obtain ⟨hil,hit⟩:=HT
 obtain ⟨b,off,hia,x0,x1,x2,x3,x4,wi⟩:=hit i hi
 have hbl:b<w.heap.size:=World.block_lt_of_cell? w _ x0
 have hne:¬b=w.heap.size:=by omega
 clear hit
 have hst:=BoxS.start T ao len cap at' w
 unfold subO at hst
 rw [hia] at hst
 have HS:=Lib.hid hst
 have hv:=fun wx (hb:Below w.heap.size w wx)=>value6_any ao len cap L (at':Nat) (T.items i).num (by omega) wx (hold H hb)
 unfold foundV at hv
 have hm:=fun wx=>may_any 9 (T.items i).num wi.1 wx
 have hE:ckValue L len at' T i=if mayK 9 (T.items i).num=false then 7 else if posZ (valueL L len (at':Nat) (T.items i).num)<i then 6 else 0:=rfl
 obtain ⟨z,hz⟩:∃ z,valueL L len (at':Nat) (T.items i).num=z:=⟨_,rfl⟩
 rw [hz] at hv hE
 obtain ⟨y,hy⟩:∃ y,posZ z=y:=⟨_,rfl⟩
 rw [hy] at hv hE
 obtain ⟨q,hq⟩:∃ q,mayK 9 (T.items i).num=q:=⟨_,rfl⟩
 rw [hq] at hm hE
 have HV:=Lib.hid hv
 have HM:=Lib.hid hm
 have HE:=Lib.hid hE
 unfold subV
 rw [hia]
 clear hst hv hm hz hy hq hE H hia
 cases q with
 |false=>
  go_enter Tryz.func248,Tryz.ntmps248
  go_wp2_with (go_at_call 258;refine (HM.out _).mono ?_;rintro e w2 ⟨rfl,hb2⟩;have HB2:=Lib.hid (HS.out.keep hb2);clear hb2)
  go_ret
  exact ⟨ret_i (by rw [HE.out];rfl),HB2.out.2⟩
 |true=>
  by_cases hlt:y<i
  all_goals
   go_enter Tryz.func248,Tryz.ntmps248
   go_wp2_with (first
    |(go_at_call 258;refine (HM.out _).mono ?_;rintro e w2 ⟨rfl,hb2⟩;have HB2:=Lib.hid (HS.out.keep hb2);obtain ⟨c0,c1,c2,c3,c4,c5,c6,c7⟩:=HB2.out.cells;clear hb2)
    |(go_at_call 259;refine (HV.out _ HB2.out.2).mono ?_;rintro e w3 ⟨rfl,hb3⟩;have HB3:=Lib.hid (HB2.out.2.trans (hb3.mono HB2.out.2.size));clear hb3))
   go_ret
   exact ⟨ret_i (by rw [HE.out];simp [hlt]),HB3.out⟩
set_option maxHeartbeats 1000000 in
theorem checkField_any (T:TypeV) (i:Nat) (ao:Option Addr) (len cap at':Nat) (L:Nat→TypeV) (hlen:len≤1000000) (hi:i<T.ilen) (w:World) (HT:ItemsAt w T) (H:∀ i,i<len→TypeAt w ao i (L i)):
  Calls Tryz.prog 249 #[subV T ao len cap at',.int .i64 i] w fun e w'=>e=.returned (.int .i64 (ckField L len T i))∧Below w.heap.size w w':=by
 obtain ⟨hil,hit⟩:=HT
 obtain ⟨b,off,hia,x0,x1,x2,x3,x4,wi⟩:=hit i hi
 have hbl:b<w.heap.size:=World.block_lt_of_cell? w _ x0
 have hne:¬b=w.heap.size:=by omega
 clear hit
 have hk:=fun wx (hb:Below w.heap.size w wx)=>kindOf_any ao len cap L (by omega) (T.items i).type wx (hold H hb)
 have hE:ckField L len T i=if (T.items i).key&&!numK (kindL L len (T.items i).type)&&kindL L len (T.items i).type !=10 then 17 else 0:=rfl
 obtain ⟨kd,hkd⟩:∃ kd,kindL L len (T.items i).type=kd:=⟨_,rfl⟩
 rw [hkd] at hk hE
 obtain ⟨b1,h1⟩:∃ b,(T.items i).key=b:=⟨_,rfl⟩
 obtain ⟨b2,h2⟩:∃ b,numK kd=b:=⟨_,rfl⟩
 obtain ⟨b3,h3⟩:∃ b,(kd !=10)=b:=⟨_,rfl⟩
 rw [h1,h2,h3] at hE
 rw [h1] at x3
 have HK:=Lib.hid hk
 have HE:=Lib.hid hE
 unfold subV
 rw [hia]
 clear hk hkd hE H hia h1
 go_enter Tryz.func249,Tryz.ntmps249
 go_wp2_with (first
  |(go_at_call 167;refine (HK.out _ (((Below.refl _ _).alloc (Nat.le_refl _) _).alloc (by simp) _)).mono ?_;rintro e w' ⟨rfl,rfl⟩)
  |(go_at_call 132;refine (number_same _ _).mono ?_;rintro e w' ⟨rfl,rfl⟩))
 all_goals
  go_ret
  exact ⟨ret_i (by rw [HE.out];simp_all),(((Below.refl _ _).alloc (Nat.le_refl _) _).alloc (by simp) _)⟩
end Go.Proofs.YthcompcjphaahaaGreatDoor.Pa
namespace Go.Proofs.YthcompcjphaahaaGreatDoor.Pa
open Go.RowKit
set_option linter.unusedVariables false
def BoxSI (g h:Nat) (T:TypeV) (x:ItemV) (ao:Option Addr) (len cap at':Nat) (w0 w:World):Prop:=w.heap[h]?=some (itmO x)∧BoxS g T ao len cap at' w0 w
theorem BoxSI.keep {g h:Nat} {T:TypeV} {x:ItemV} {ao:Option Addr} {len cap at':Nat} {w0 w w1:World} (hi:BoxSI g h T x ao len cap at' w0 w) (hb:Below w.heap.size w w1):BoxSI g h T x ao len cap at' w0 w1:=⟨(hb.block h (lt_of_block hi.1)).trans hi.1,hi.2.keep hb⟩
theorem BoxSI.cells {g h:Nat} {T:TypeV} {x:ItemV} {ao:Option Addr} {len cap at':Nat} {w0 w:World} (hi:BoxSI g h T x ao len cap at' w0 w):w.cell? ⟨h,0,none⟩=some (.string x.name)∧w.cell? ⟨h,1,none⟩=some (.int .u64 x.num)∧w.cell? ⟨h,2,none⟩=some (.int .i64 x.type)∧w.cell? ⟨h,3,none⟩=some (.bool x.key)∧w.cell? ⟨h,4,none⟩=some (.bool x.rest):=
 ⟨cell_at hi.1 rfl,cell_at hi.1 rfl,cell_at hi.1 rfl,cell_at hi.1 rfl,cell_at hi.1 rfl⟩
theorem BoxSI.start (T:TypeV) (x:ItemV) (ao:Option Addr) (len cap at':Nat) (w:World):BoxSI w.heap.size (w.heap.size+1) T x ao len cap at' w ((w.alloc (subO T ao len cap at')).alloc (itmO x)):=by
 refine ⟨?_,(BoxS.start T ao len cap at' w).keep ((Below.refl _ _).alloc (Nat.le_refl _) _)⟩
 have hq:=alloc_at (w.alloc (subO T ao len cap at')) (itmO x)
 rw [show (w.alloc (subO T ao len cap at')).heap.size=w.heap.size+1 by simp] at hq
 exact hq
set_option maxHeartbeats 2000000 in
theorem checkBranch_any (T:TypeV) (i:Nat) (ao:Option Addr) (len cap at':Nat) (L:Nat→TypeV) (hlen:len≤1000000) (hi:i<T.ilen) (w:World) (HT:ItemsAt w T) (H:∀ i,i<len→TypeAt w ao i (L i)):
  Calls Tryz.prog 250 #[subV T ao len cap at',.int .i64 i] w fun e w'=>e=.returned (.int .i64 (ckBranch L len at' T i))∧Below w.heap.size w w':=by
 obtain ⟨hil,hit⟩:=HT
 obtain ⟨b,off,hia,x0,x1,x2,x3,x4,wi⟩:=hit i hi
 have hbl:b<w.heap.size:=World.block_lt_of_cell? w _ x0
 have hne:¬b=w.heap.size:=by omega
 clear hit
 have hst:=BoxSI.start T (T.items i) ao len cap at' w
 unfold subO itmO at hst
 rw [hia] at hst
 have HS:=Lib.hid hst
 have hv:=fun wx (hb:Below w.heap.size w wx)=>branch6_any ao len cap L (at':Nat) (T.items i).num (by omega) wx (hold H hb)
 unfold foundV at hv
 have ht:=fun wx (hb:Below w.heap.size w wx)=>isTag_any T (T.items i).num ao len cap at' L hlen wi.1 wx (hold H hb)
 unfold subV at ht
 rw [hia] at ht
 have hE:ckBranch L len at' T i=if (T.items i).rest then (if i+1<T.ilen then 14 else 0) else if isTagB L len T (T.items i).num=false then 7 else if posZ (branchL L len (at':Nat) (T.items i).num)<i then 6 else 0:=rfl
 obtain ⟨z,hz⟩:∃ z,branchL L len (at':Nat) (T.items i).num=z:=⟨_,rfl⟩
 rw [hz] at hv hE
 obtain ⟨y,hy⟩:∃ y,posZ z=y:=⟨_,rfl⟩
 rw [hy] at hv hE
 obtain ⟨q,hq⟩:∃ q,isTagB L len T (T.items i).num=q:=⟨_,rfl⟩
 rw [hq] at ht hE
 have HV:=Lib.hid hv
 have HM:=Lib.hid ht
 have HE:=Lib.hid hE
 unfold subV
 rw [hia]
 have HIA:=Lib.hid hia
 clear hst hv ht hz hy hq hE H hia
 go_enter Tryz.func250,Tryz.ntmps250
 go_upto_region 2 with (fail)
 clear x0 x1 x2 x3 x4 hne hbl
 generalize ((w.alloc (.cells #[.int .i64 T.kind,.string T.name,.int .i64 T.bound,.int .i64 T.of,.int .i64 T.tag,.slice (some ⟨b,off,none⟩) T.ilen T.icap,.slice ao len cap,.int .i64 at'] 210)).alloc (.cells #[.string (T.items i).name,.int .u64 (T.items i).num,.int .i64 (T.items i).type,.bool (T.items i).key,.bool (T.items i).rest] 60))=W0 at *
 obtain ⟨x0,x1,x2,x3,x4⟩:=HS.out.cells
 obtain ⟨c0,c1,c2,c3,c4,c5,c6,c7⟩:=HS.out.2.cells
 rw [HIA.out] at c5
 cases hrest:(T.items i).rest with
 |true=>
  rw [hrest] at x4
  by_cases hlast:i+1<T.ilen
  · have HF:=Lib.hid (show ckBranch L len at' T i=14 by rw [HE.out,hrest,if_pos rfl,if_pos hlast])
    have hl2:decide ((i:Int)<(T.ilen:Int) - 1)=true:=by simp;omega
    go_wp2
    go_ret
    exact ⟨ret_i (by rw [HF.out]),HS.out.2.2⟩
  · have HF:=Lib.hid (show ckBranch L len at' T i=0 by rw [HE.out,hrest,if_pos rfl,if_neg hlast])
    have hl2:decide ((i:Int)<(T.ilen:Int) - 1)=false:=by simp;omega
    go_wp2
    go_ret
    exact ⟨ret_i (by rw [HF.out]),HS.out.2.2⟩
 |false=>
  rw [hrest] at x4
  cases q with
  |false=>
   have HF:=Lib.hid (show ckBranch L len at' T i=7 by rw [HE.out,hrest];rfl)
   go_wp2_with (go_at_call 260;refine (HM.out _ HS.out.2.2).mono ?_;rintro e w2 ⟨rfl,hb2⟩;have HB2:=Lib.hid (HS.out.keep hb2);clear hb2)
   go_ret
   exact ⟨ret_i (by rw [HF.out]),HB2.out.2.2⟩
  |true=>
   by_cases hlt:y<i
   all_goals
    have HF:=Lib.hid (show ckBranch L len at' T i=if y<i then 6 else 0 by rw [HE.out,hrest];rfl)
    go_wp2_with (first
     |(go_at_call 260;refine (HM.out _ HS.out.2.2).mono ?_;rintro e w2 ⟨rfl,hb2⟩;have HB2:=Lib.hid (HS.out.keep hb2);obtain ⟨y0,y1,y2,y3,y4⟩:=HB2.out.cells;obtain ⟨d0,d1,d2,d3,d4,d5,d6,d7⟩:=HB2.out.2.cells;clear hb2)
     |(go_at_call 130;refine (HV.out _ HB2.out.2.2).mono ?_;rintro e w3 ⟨rfl,hb3⟩;have HB3:=Lib.hid (HB2.out.2.2.trans (hb3.mono HB2.out.2.2.size));clear hb3))
    go_ret
    exact ⟨ret_i (by rw [HF.out];simp [hlt]),HB3.out⟩
set_option maxHeartbeats 2000000 in
theorem checkItem_any (T:TypeV) (i:Nat) (ao:Option Addr) (len cap at':Nat) (L:Nat→TypeV) (hlen:len≤1000000) (hi:i<T.ilen) (w:World) (HT:ItemsAt w T) (H:∀ i,i<len→TypeAt w ao i (L i)):
  Calls Tryz.prog 224 #[subV T ao len cap at',.int .i64 i] w fun e w'=>e=.returned (.int .i64 (ckItem L len at' T i))∧Below w.heap.size w w':=by
 have HV1:=Lib.hid (fun wx (hb:Below w.heap.size w wx)=>checkValue_any T i ao len cap at' L hlen hi wx (HT.held hb) (hold H hb))
 have HV2:=Lib.hid (fun wx (hb:Below w.heap.size w wx)=>checkField_any T i ao len cap at' L hlen hi wx (HT.held hb) (hold H hb))
 have HV3:=Lib.hid (fun wx (hb:Below w.heap.size w wx)=>checkBranch_any T i ao len cap at' L hlen hi wx (HT.held hb) (hold H hb))
 obtain ⟨hil,hit⟩:=HT
 obtain ⟨b,off,hia,x0,x1,x2,x3,x4,wi⟩:=hit i hi
 have hbl:b<w.heap.size:=World.block_lt_of_cell? w _ x0
 have hne:¬b=w.heap.size:=by omega
 clear hit
 have hst:=BoxSI.start T (T.items i) ao len cap at' w
 unfold subO itmO at hst
 rw [hia] at hst
 have HS:=Lib.hid hst
 have hv:=fun wx (hb:Below w.heap.size w wx)=>item6_any ao len cap L (at':Nat) (T.items i).name (by omega) wx (hold H hb)
 unfold foundV at hv
 have hE:ckItem L len at' T i=if nameS (T.items i).name=false then 5 else if posZ (itemL L len (at':Nat) (T.items i).name)<i then 6 else if T.kind=9 then ckValue L len at' T i else if T.kind=13 then ckField L len T i else ckBranch L len at' T i:=rfl
 obtain ⟨z,hz⟩:∃ z,itemL L len (at':Nat) (T.items i).name=z:=⟨_,rfl⟩
 rw [hz] at hv hE
 obtain ⟨y,hy⟩:∃ y,posZ z=y:=⟨_,rfl⟩
 rw [hy] at hv hE
 have hnm:=fun w=>name_any (T.items i).name (Nat.le_trans wi.2.2 (by decide)) w
 obtain ⟨q,hq⟩:∃ q,nameS (T.items i).name=q:=⟨_,rfl⟩
 rw [hq] at hnm hE
 have HV:=Lib.hid hv
 have HM:=Lib.hid hnm
 have HE:=Lib.hid hE
 have hv1:=HV1.out
 have hv2:=HV2.out
 have hv3:=HV3.out
 obtain ⟨e1,he1⟩:∃ e,ckValue L len at' T i=e:=⟨_,rfl⟩
 obtain ⟨e2,he2⟩:∃ e,ckField L len T i=e:=⟨_,rfl⟩
 obtain ⟨e3,he3⟩:∃ e,ckBranch L len at' T i=e:=⟨_,rfl⟩
 rw [he1] at hv1 hE
 rw [he2] at hv2 hE
 rw [he3] at hv3 hE
 unfold subV at hv1 hv2 hv3 ⊢
 rw [hia] at hv1 hv2 hv3
 rw [hia]
 have HW1:=Lib.hid hv1
 have HW2:=Lib.hid hv2
 have HW3:=Lib.hid hv3
 have HE:=Lib.hid hE
 have HIA:=Lib.hid hia
 clear hst hv hz hy hq hE H hia hnm hv1 hv2 hv3 HV1 HV2 HV3 he1 he2 he3
 go_enter Tryz.func224,Tryz.ntmps224
 go_upto_region 2 with (fail)
 clear x0 x1 x2 x3 x4 hne hbl
 generalize ((w.alloc (.cells #[.int .i64 T.kind,.string T.name,.int .i64 T.bound,.int .i64 T.of,.int .i64 T.tag,.slice (some ⟨b,off,none⟩) T.ilen T.icap,.slice ao len cap,.int .i64 at'] 210)).alloc (.cells #[.string (T.items i).name,.int .u64 (T.items i).num,.int .i64 (T.items i).type,.bool (T.items i).key,.bool (T.items i).rest] 60))=W0 at *
 obtain ⟨x0,x1,x2,x3,x4⟩:=HS.out.cells
 cases q with
 |false=>
  go_wp2_with (go_at_call 222;refine (HM.out _).mono ?_;rintro e w2 ⟨rfl,hb2⟩;have HB2:=Lib.hid (HS.out.keep hb2);clear hb2)
  go_ret
  exact ⟨ret_i (by rw [HE.out];rfl),HB2.out.2.2⟩
 |true=>
  by_cases hlt:y<i
  · go_wp2_with (first
     |(go_at_call 222;refine (HM.out _).mono ?_;rintro e w2 ⟨rfl,hb2⟩;have HB2:=Lib.hid (HS.out.keep hb2);obtain ⟨y0,y1,y2,y3,y4⟩:=HB2.out.cells;obtain ⟨d0,d1,d2,d3,d4,d5,d6,d7⟩:=HB2.out.2.cells;clear hb2)
     |(go_at_call 128;refine (HV.out _ HB2.out.2.2).mono ?_;rintro e w3 ⟨rfl,hb3⟩;have HB3:=Lib.hid (HB2.out.keep hb3);clear hb3))
    go_ret
    exact ⟨ret_i (by rw [HE.out];simp [hlt]),HB3.out.2.2⟩
  · have HF:=Lib.hid (show ckItem L len at' T i=if T.kind=9 then e1 else if T.kind=13 then e2 else e3 by rw [HE.out,if_neg (by simp),if_neg hlt])
    have hc:T.kind=9∨T.kind=13∨(T.kind≠9∧T.kind≠13):=by omega
    rcases hc with h|h|⟨h,h'⟩
    · have HG:=Lib.hid (show ckItem L len at' T i=e1 by rw [HF.out];rw [if_pos h])
      have k9:(T.kind==9)=true:=by simpa using h
      clear h
      go_wp2_with (first
       |(go_at_call 222;refine (HM.out _).mono ?_;rintro e w2 ⟨rfl,hb2⟩;have HB2:=Lib.hid (HS.out.keep hb2);obtain ⟨y0,y1,y2,y3,y4⟩:=HB2.out.cells;obtain ⟨d0,d1,d2,d3,d4,d5,d6,d7⟩:=HB2.out.2.cells;clear hb2)
       |(go_at_call 128;refine (HV.out _ HB2.out.2.2).mono ?_;rintro e w3 ⟨rfl,hb3⟩;have HB3:=Lib.hid (HB2.out.keep hb3);obtain ⟨f0,f1,f2,f3,f4,f5,f6,f7⟩:=HB3.out.2.cells;rw [HIA.out] at f5;clear hb3)
       |(go_at_call 248;refine (HW1.out _ HB3.out.2.2).mono ?_;rintro e w4 ⟨rfl,hb4⟩;have HB4:=Lib.hid (HB3.out.keep hb4);clear hb4))
      go_ret
      exact ⟨ret_i (by rw [HG.out]),HB4.out.2.2⟩
    · have HG:=Lib.hid (show ckItem L len at' T i=e2 by rw [HF.out];rw [if_neg (by omega),if_pos h])
      have k9:(T.kind==9)=false:=by simp;omega
      have k13:(T.kind==13)=true:=by simpa using h
      clear h
      go_wp2_with (first
       |(go_at_call 222;refine (HM.out _).mono ?_;rintro e w2 ⟨rfl,hb2⟩;have HB2:=Lib.hid (HS.out.keep hb2);obtain ⟨y0,y1,y2,y3,y4⟩:=HB2.out.cells;obtain ⟨d0,d1,d2,d3,d4,d5,d6,d7⟩:=HB2.out.2.cells;clear hb2)
       |(go_at_call 128;refine (HV.out _ HB2.out.2.2).mono ?_;rintro e w3 ⟨rfl,hb3⟩;have HB3:=Lib.hid (HB2.out.keep hb3);obtain ⟨f0,f1,f2,f3,f4,f5,f6,f7⟩:=HB3.out.2.cells;rw [HIA.out] at f5;clear hb3)
       |(go_at_call 249;refine (HW2.out _ HB3.out.2.2).mono ?_;rintro e w4 ⟨rfl,hb4⟩;have HB4:=Lib.hid (HB3.out.keep hb4);clear hb4))
      go_ret
      exact ⟨ret_i (by rw [HG.out]),HB4.out.2.2⟩
    · have HG:=Lib.hid (show ckItem L len at' T i=e3 by rw [HF.out];rw [if_neg h,if_neg h'])
      have k9:(T.kind==9)=false:=by simpa using h
      have k13:(T.kind==13)=false:=by simpa using h'
      clear h h'
      go_wp2_with (first
       |(go_at_call 222;refine (HM.out _).mono ?_;rintro e w2 ⟨rfl,hb2⟩;have HB2:=Lib.hid (HS.out.keep hb2);obtain ⟨y0,y1,y2,y3,y4⟩:=HB2.out.cells;obtain ⟨d0,d1,d2,d3,d4,d5,d6,d7⟩:=HB2.out.2.cells;clear hb2)
       |(go_at_call 128;refine (HV.out _ HB2.out.2.2).mono ?_;rintro e w3 ⟨rfl,hb3⟩;have HB3:=Lib.hid (HB2.out.keep hb3);obtain ⟨f0,f1,f2,f3,f4,f5,f6,f7⟩:=HB3.out.2.cells;rw [HIA.out] at f5;clear hb3)
       |(go_at_call 250;refine (HW3.out _ HB3.out.2.2).mono ?_;rintro e w4 ⟨rfl,hb4⟩;have HB4:=Lib.hid (HB3.out.keep hb4);clear hb4))
      go_ret
      exact ⟨ret_i (by rw [HG.out]),HB4.out.2.2⟩
def firstE (e:Nat→Int) (n:Nat):Int:=if firstN (fun j=>e j !=0) n<n then e (firstN (fun j=>e j !=0) n) else 0
theorem firstE_at {e:Nat→Int} {n k:Nat} (h:∀ i,i<k→(e i !=0)=false) (hk:k<n) (hp:(e k !=0)=true):firstE e n=e k:=by
 unfold firstE;rw [first_at h hk hp,if_pos hk]
theorem firstE_none {e:Nat→Int} {n:Nat} (h:∀ i,i<n→(e i !=0)=false):firstE e n=0:=by
 unfold firstE;rw [first_none h,if_neg (Nat.lt_irrefl _)]
def ckItems (L:Nat→TypeV) (len at':Nat) (T:TypeV):Int:=firstE (ckItem L len at' T) T.ilen
set_option maxHeartbeats 2000000 in
theorem checkItems_any (T:TypeV) (ao:Option Addr) (len cap at':Nat) (L:Nat→TypeV) (hlen:len≤1000000) (w:World) (HT:ItemsAt w T) (H:∀ i,i<len→TypeAt w ao i (L i)):
  Calls Tryz.prog 195 #[subV T ao len cap at'] w fun e w'=>e=.returned (.int .i64 (ckItems L len at' T))∧Below w.heap.size w w':=by
 have hil:=HT.1
 have HC:=Lib.hid (fun i (hi:i<T.ilen) wx (hb:Below w.heap.size w wx)=>checkItem_any T i ao len cap at' L hlen hi wx (HT.held hb) (hold H hb))
 have hst:=BoxS.start T ao len cap at' w
 unfold subO at hst
 have HS:=Lib.hid hst
 have HE:=Lib.hid (show ckItems L len at' T=firstE (ckItem L len at' T) T.ilen from rfl)
 clear hst HT H
 unfold subV
 go_enter Tryz.func195,Tryz.ntmps195
 go_wp2
 go_loopw [9] (fun i wr=>∃ j:Nat,j≤T.ilen∧i=.int .i64 j∧Hid (∀ m,m<j→(ckItem L len at' T m !=0)=false)∧Hid (BoxS w.heap.size T ao len cap at' w wr)) (fun i _=>T.ilen - (intOf i).toNat)
 case atStart=>exact ⟨0,Nat.zero_le _,rfl,Lib.hid (fun m hm=>absurd hm (Nat.not_lt_zero _)),HS⟩
 case round=>
  obtain ⟨j,hj,rfl,HF,HB⟩:=hrel
  by_cases hlt:j<T.ilen
  · obtain ⟨c0,c1,c2,c3,c4,c5,c6,c7⟩:=HB.out.cells
    have hcall:=HC.out j hlt wr HB.out.2
    unfold subV at hcall
    obtain ⟨q,hq⟩:∃ q,ckItem L len at' T j=q:=⟨_,rfl⟩
    rw [hq] at hcall
    have HD:=Lib.hid hcall
    clear hcall
    cases hz:(q !=0) with
    |true=>
     have HT:=Lib.hid (firstE_at (e:=ckItem L len at' T) HF.out hlt (by rw [hq];exact hz))
     have HQ:=Lib.hid hq
     clear hq
     go_wp2_with (go_at_call 224;refine (HD.out).mono ?_;rintro e w2 ⟨rfl,hb2⟩;have HB2:=Lib.hid (HB.out.keep hb2);clear hb2)
     go_ret
     exact ⟨ret_i (by rw [HE.out,HT.out,HQ.out]),HB2.out.2⟩
    |false=>
     have HF2:=Lib.hid (none_next (p:=fun m=>ckItem L len at' T m !=0) HF.out (by rw [hq];exact hz))
     clear hq
     go_wp2_with (go_at_call 224;refine (HD.out).mono ?_;rintro e w2 ⟨rfl,hb2⟩;have HB2:=Lib.hid (HB.out.keep hb2);clear hb2)
     go_roundw
     case rel=>exact ⟨j+1,by omega,by go_num,HF2,HB2⟩
     case measure=>simp [intOf];omega
  · obtain rfl:j=T.ilen:=by omega
    have HT:=Lib.hid (firstE_none (e:=ckItem L len at' T) HF.out)
    go_wp2
    go_ret
    exact ⟨ret_i (by rw [HE.out,HT.out]),HB.out.2⟩
end Go.Proofs.YthcompcjphaahaaGreatDoor.Pa
namespace Go.Proofs.YthcompcjphaahaaGreatDoor.Pa
open Go.RowKit
set_option linter.unusedVariables false
def fnv (f:Nat) (S:Value):Value:=.func (.func f) #[S] #[]
def ckG:Nat→Nat
 |0=>188
 |1=>189
 |2=>190
 |3=>191
 |4=>192
 |5=>193
 |6=>194
 |7=>195
 |_=>196
def ckAt (L:Nat→TypeV) (len at':Nat):Nat→Int
 |0=>ckKind (L at')
 |1=>ckForm (L at')
 |2=>ckName L (L at') at'
 |3=>ckBound (L at')
 |4=>ckOrder (L at') at'
 |5=>ckTag L len (L at')
 |6=>ckCount (L at')
 |7=>ckItems L len at' (L at')
 |_=>ckDepth L len at'
theorem lt9 {j:Nat} (h:j<9):j=0∨j=1∨j=2∨j=3∨j=4∨j=5∨j=6∨j=7∨j=8:=by omega
set_option maxHeartbeats 1000000 in
theorem checks_any (T:TypeV) (ao:Option Addr) (len cap at':Nat) (w:World):Calls Tryz.prog 163 #[subV T ao len cap at'] w fun e w'=>
  ∃ g,e=.returned (.slice (some ⟨g,0,none⟩) 9 9)∧(∀ j,j<9→w'.cell? ⟨g,j,none⟩=some (fnv (ckG j) (subV T ao len cap at')))∧Below w.heap.size w w':=by
 have hmf':=hmf
 unfold subV
 go_enter Tryz.func163,Tryz.ntmps163
 go_wp2
 go_ret
 refine ⟨_,rfl,?_,(((Below.refl _ _).alloc (Nat.le_refl _) _).alloc (by simp) _)⟩
 intro j hj
 rcases lt9 hj with rfl|rfl|rfl|rfl|rfl|rfl|rfl|rfl|rfl
 all_goals first|exact cell_at (alloc_at _ _) rfl|simp [fnv,ckG]
set_option maxHeartbeats 1000000 in
theorem firstError_any (g n:Nat) (G:Nat→Nat) (S:Value) (e:Nat→Int) (hn:n≤100) (w:World) (hc:∀ j,j<n→w.cell? ⟨g,j,none⟩=some (fnv (G j) S)) (eg:∀ j,j<n→Enters (G j))
  (hp:∀ j,j<n→(∀ i,i<j→e i=0)→∀ W,Below w.heap.size w W→Calls Tryz.prog (G j) #[S] W fun r W'=>r=.returned (.int .i64 (e j))∧Below W.heap.size W W'):
  Calls Tryz.prog 162 #[.slice (some ⟨g,0,none⟩) n n] w fun r w'=>r=.returned (.int .i64 (firstE e n))∧Below w.heap.size w w':=by
 have HC:=Lib.hid hc
 have HG:=Lib.hid eg
 have HP:=Lib.hid hp
 clear hc eg hp
 go_enter Tryz.func162,Tryz.ntmps162
 go_wp2
 go_loopw [8] (fun i wr=>∃ j:Nat,j≤n∧i=.int .i64 j∧Hid (∀ m,m<j→(e m !=0)=false)∧Hid (Below w.heap.size w wr)) (fun i _=>n - (intOf i).toNat)
 case atStart=>exact ⟨0,Nat.zero_le _,rfl,Lib.hid (fun m hm=>absurd hm (Nat.not_lt_zero _)),Lib.hid (Below.refl _ _)⟩
 case round=>
  obtain ⟨j,hj,rfl,HF,HB⟩:=hrel
  by_cases hlt:j<n
  · have c:=keep6 HB.out (HC.out j hlt)
    unfold fnv at c
    have hent:=HG.out j hlt
    have hcall:=HP.out j hlt (fun i hi=>by have:=HF.out i hi;simpa using this) wr HB.out
    obtain ⟨f,hf⟩:∃ f,G j=f:=⟨_,rfl⟩
    rw [hf] at c hent hcall
    unfold Enters at hent
    obtain ⟨q,hq⟩:∃ q,e j=q:=⟨_,rfl⟩
    rw [hq] at hcall
    have HD:=Lib.hid hcall
    clear hcall hf
    cases hz:(q !=0) with
    |true=>
     have HT:=Lib.hid (firstE_at (e:=e) HF.out hlt (by rw [hq];exact hz))
     have HQ:=Lib.hid hq
     clear hq
     go_wp2_with (go_at_fn f;refine (HD.out).mono ?_;rintro r w2 ⟨rfl,hb2⟩;have HB2:=Lib.hid (HB.out.trans (hb2.mono HB.out.size));clear hb2)
     go_ret
     exact ⟨ret_i (by rw [HT.out,HQ.out]),HB2.out⟩
    |false=>
     have HF2:=Lib.hid (none_next (p:=fun m=>e m !=0) HF.out (by rw [hq];exact hz))
     clear hq
     go_wp2_with (go_at_fn f;refine (HD.out).mono ?_;rintro r w2 ⟨rfl,hb2⟩;have HB2:=Lib.hid (HB.out.trans (hb2.mono HB.out.size));clear hb2)
     go_roundw
     case rel=>exact ⟨j+1,by omega,by go_num,HF2,HB2⟩
     case measure=>simp [intOf];omega
  · obtain rfl:j=n:=by omega
    have HT:=Lib.hid (firstE_none (e:=e) HF.out)
    go_wp2
    go_ret
    exact ⟨ret_i (by rw [HT.out]),HB.out⟩
end Go.Proofs.YthcompcjphaahaaGreatDoor.Pa
namespace Go.Proofs.YthcompcjphaahaaGreatDoor.Pa
open Go.RowKit
set_option linter.unusedVariables false
theorem ck_enters (j:Nat) (hj:j<9):Enters (ckG j):=by
 rcases lt9 hj with rfl|rfl|rfl|rfl|rfl|rfl|rfl|rfl|rfl
 · exact enters_of Tryz.func188 (by kernel_rfl) rfl
 · exact enters_of Tryz.func189 (by kernel_rfl) rfl
 · exact enters_of Tryz.func190 (by kernel_rfl) rfl
 · exact enters_of Tryz.func191 (by kernel_rfl) rfl
 · exact enters_of Tryz.func192 (by kernel_rfl) rfl
 · exact enters_of Tryz.func193 (by kernel_rfl) rfl
 · exact enters_of Tryz.func194 (by kernel_rfl) rfl
 · exact enters_of Tryz.func195 (by kernel_rfl) rfl
 · exact enters_of Tryz.func196 (by kernel_rfl) rfl
theorem ck_call (ao:Option Addr) (len cap at':Nat) (L:Nat→TypeV) (hlen:len≤1000000) (hcap:len≤cap) (hat:at' <len) (w:World) (H:∀ i,i<len→TypeAt w ao i (L i)) (j:Nat) (hj:j<9):
  Calls Tryz.prog (ckG j) #[subV (L at') ao len cap at'] w fun e w'=>e=.returned (.int .i64 (ckAt L len at' j))∧Below w.heap.size w w':=by
 have hT:=H at' hat
 obtain ⟨b,off,hao,c0,c1,c2,c3,c4,c5,wf,hi⟩:=hT
 rcases lt9 hj with rfl|rfl|rfl|rfl|rfl|rfl|rfl|rfl|rfl
 · exact checkKind_any (L at') ao len cap at' w
 · exact checkForm_any (L at') ao len cap at' w hi
 · exact checkName_any (L at') ao len cap at' L hlen hcap hat wf.2.2.2.2 w H
 · exact checkBound_any (L at') ao len cap at' w
 · exact checkOrder_any (L at') ao len cap at' hlen hcap hat ⟨_,hao⟩ w hi
 · exact checkTag_any (L at') ao len cap at' L hlen w H
 · exact checkCount_any (L at') ao len cap at' hi.1 w
 · exact checkItems_any (L at') ao len cap at' L hlen w hi H
 · exact checkDepth_any (L at') ao len cap at' L hlen hat w H
def oneC (L:Nat→TypeV) (len at':Nat):Int:=firstE (ckAt L len at') 9
def fErr (one:Nat→Int) (len:Nat):Int:=if 32<len then 3 else firstE one len
def fAt (one:Nat→Int) (len:Nat):Int:=if 32<len then 32 else if firstN (fun i=>one i !=0) len<len then (firstN (fun i=>one i !=0) len:Nat) else 0
def faultV (one:Nat→Int) (len:Nat):Value:=.agg #[.int .i64 (fErr one len),.int .i64 (fAt one len)]
theorem fault_long {one:Nat→Int} {len:Nat} (h:32<len):faultV one len=.agg #[.int .i64 3,.int .i64 32]:=by unfold faultV fErr fAt;rw [if_pos h,if_pos h]
theorem fault_at {one:Nat→Int} {len k:Nat} (h:len≤32) (hf:∀ i,i<k→(one i !=0)=false) (hk:k<len) (hp:(one k !=0)=true):faultV one len=.agg #[.int .i64 (one k),.int .i64 (k:Nat)]:=by
 unfold faultV fErr fAt;rw [if_neg (by omega),if_neg (by omega),firstE_at hf hk hp,first_at hf hk hp,if_pos hk]
theorem fault_none {one:Nat→Int} {len:Nat} (h:len≤32) (hf:∀ i,i<len→(one i !=0)=false):faultV one len=.agg #[.int .i64 0,.int .i64 0]:=by
 unfold faultV fErr fAt;rw [if_neg (by omega),if_neg (by omega),firstE_none hf,first_none hf,if_neg (Nat.lt_irrefl _)]
set_option maxHeartbeats 2000000 in
theorem check6_any (ao:Option Addr) (len cap:Nat) (L:Nat→TypeV) (hlen:len≤1000000) (hcap:len≤cap) (w:World) (H:∀ i,i<len→TypeAt w ao i (L i)):
  Calls Tryz.prog 123 #[.slice ao len cap] w fun e w'=>e=.returned (faultV (oneC L len) len)∧Below w.heap.size w w':=by
 have HH:=Lib.hid H
 clear H
 by_cases h32:32<len
 · rw [fault_long h32]
   go_enter Tryz.func123,Tryz.ntmps123
   go_wp2
   go_returns
   exact ⟨rfl,by go_grown⟩
 · have h32':len≤32:=by omega
   have HQ:=Lib.hid (alloc_at w (.cells #[.int .i64 0,.int .i64 0] 54))
   have HB:=Lib.hid ((Below.refl w.heap.size w).alloc (Nat.le_refl _) (.cells #[.int .i64 0,.int .i64 0] 54))
   obtain ⟨R,hR⟩:∃ R,faultV (oneC L len) len=R:=⟨_,rfl⟩
   rw [hR]
   have HR:=Lib.hid hR
   clear hR
   go_enter Tryz.func123,Tryz.ntmps123
   go_wp2
   go_loopw [12] (fun i wr=>∃ k:Nat,k≤len∧i=.int .i64 k∧Hid (∀ m,m<k→(oneC L len m !=0)=false)∧Hid (wr.heap[w.heap.size]?=some (.cells #[.int .i64 0,.int .i64 0] 54 (0,0)))∧Hid (Below w.heap.size w wr)) (fun i _=>len - (intOf i).toNat)
   case atStart=>exact ⟨0,Nat.zero_le _,rfl,Lib.hid (fun m hm=>absurd hm (Nat.not_lt_zero _)),HQ,HB⟩
   case round=>
    obtain ⟨k,hk,rfl,HF,HQr,HBr⟩:=hrel
    by_cases hlt:k<len
    · have HT:=Lib.hid (hold HH.out HBr.out)
      obtain ⟨b,off,hao,c0,c1,c2,c3,c4,c5,wf,_⟩:=HT.out k hlt
      subst hao
      have hbl:b<wr.heap.size:=World.block_lt_of_cell? wr _ c0
      have hne:¬b=wr.heap.size:=by omega
      have hck:=fun wx=>checks_any (L k) (some ⟨b,off,none⟩) len cap k wx
      have hfe:=fun (g:Nat) (w2:World) (hb:Below wr.heap.size wr w2) (hc:∀ j,j<9→w2.cell? ⟨g,j,none⟩=some (fnv (ckG j) (subV (L k) (some ⟨b,off,none⟩) len cap k)))=>
       firstError_any g 9 ckG (subV (L k) (some ⟨b,off,none⟩) len cap k) (ckAt L len k) (by decide) w2 hc ck_enters (fun j hj _ W hW=>ck_call (some ⟨b,off,none⟩) len cap k L hlen hcap hlt W (hold HT.out (hb.trans (hW.mono hb.size))) j hj)
      obtain ⟨q,hq⟩:∃ q,oneC L len k=q:=⟨_,rfl⟩
      have hq':firstE (ckAt L len k) 9=q:=hq
      rw [hq'] at hfe
      have HFE:=Lib.hid hfe
      unfold subV at hck
      have hck2:∀ wx,Calls Tryz.prog 163 #[.agg #[.int .i64 (L k).kind,.string (L k).name,.int .i64 (L k).bound,.int .i64 (L k).of,.int .i64 (L k).tag,.slice (L k).ia (L k).ilen (L k).icap,.slice (some ⟨b,off,none⟩) len cap,.int .i64 k]] wx fun e w'=>
       ∃ g,e=.returned (.slice (some ⟨g,0,none⟩) 9 9)∧Hid (∀ j,j<9→w'.cell? ⟨g,j,none⟩=some (fnv (ckG j) (subV (L k) (some ⟨b,off,none⟩) len cap k)))∧Below wx.heap.size wx w':=fun wx=>(hck wx).mono fun _ _ ⟨g,h1,h2,h3⟩=>⟨g,h1,Lib.hid h2,h3⟩
      have HCK:=Lib.hid hck2
      clear hfe hck hck2 hq'
      cases hz:(q !=0) with
      |true=>
       have HA:=Lib.hid (fault_at (one:=oneC L len) h32' HF.out hlt (by rw [hq];exact hz))
       have HQ1:=Lib.hid hq
       clear hq
       go_wp2_with (first
        |(go_at_call 163;refine (HCK.out _).mono ?_;rintro r w2 ⟨g,rfl,HC2,hb2⟩;have HB2:=Lib.hid (((Below.refl wr.heap.size wr).alloc (Nat.le_refl _) _).trans (hb2.mono (by simp)));clear hb2)
        |(go_at_call 162;refine (HFE.out _ _ HB2.out HC2.out).mono ?_;rintro r w3 ⟨rfl,hb3⟩;have HB3:=Lib.hid (HB2.out.trans (hb3.mono HB2.out.size));have HQ3:=Lib.hid (rblk_keep HQr.out HB3.out);have HW3:=Lib.hid (HBr.out.trans (HB3.out.mono HBr.out.size));clear hb3)
        |(refine wpList_store_rowTo rfl 54 _ _ rfl rfl w.heap.size #[.int .i64 q,.int .i64 k] rfl rfl _ _ HQ3.out (by kernel_rfl) (by kernel_rfl) (by kernel_rfl) ?_))
       refine bodyPost_ret (v:=.agg #[.int .i64 q,.int .i64 k]) ?_ rfl ⟨by rw [←HR.out,HA.out,HQ1.out],below_setRow HW3.out (Nat.le_refl _) _⟩
       have hl:=run_loadVar_row (P:=Tryz.prog) _ w.heap.size _ 54 _ _ _ (setRow_heap _ _ _ #[.int .i64 q,.int .i64 k] _ _ HQ3.out) Tryz.underlying54 rfl (by kernel_rfl)
       simp [results,Tryz.results123,asAddr]
       exact hl
      |false=>
       have HF2:=Lib.hid (none_next (p:=fun m=>oneC L len m !=0) HF.out (by rw [hq];exact hz))
       clear hq
       go_wp2_with (first
        |(go_at_call 163;refine (HCK.out _).mono ?_;rintro r w2 ⟨g,rfl,HC2,hb2⟩;have HB2:=Lib.hid (((Below.refl wr.heap.size wr).alloc (Nat.le_refl _) _).trans (hb2.mono (by simp)));clear hb2)
        |(go_at_call 162;refine (HFE.out _ _ HB2.out HC2.out).mono ?_;rintro r w3 ⟨rfl,hb3⟩;have HB3:=Lib.hid (HB2.out.trans (hb3.mono HB2.out.size));have HQ3:=Lib.hid (rblk_keep HQr.out HB3.out);have HW3:=Lib.hid (HBr.out.trans (HB3.out.mono HBr.out.size));clear hb3))
       go_roundw
       case rel=>exact ⟨k+1,by omega,by go_num,HF2,HQ3,HW3⟩
       case measure=>simp [intOf];omega
    · obtain rfl:k=len:=by omega
      have HA:=Lib.hid (fault_none (one:=oneC L k) h32' HF.out)
      go_wp2_with (refine wpList_store_rowTo rfl 54 _ _ rfl rfl w.heap.size #[.int .i64 0,.int .i64 0] rfl rfl _ _ HQr.out (by kernel_rfl) (by kernel_rfl) (by kernel_rfl) ?_)
      refine bodyPost_ret (v:=.agg #[.int .i64 0,.int .i64 0]) ?_ rfl ⟨by rw [←HR.out,HA.out],below_setRow HBr.out (Nat.le_refl _) _⟩
      have hl:=run_loadVar_row (P:=Tryz.prog) _ w.heap.size _ 54 _ _ _ (setRow_heap _ _ _ #[.int .i64 0,.int .i64 0] _ _ HQr.out) Tryz.underlying54 rfl (by kernel_rfl)
      simp [results,Tryz.results123,asAddr]
      exact hl
end Go.Proofs.YthcompcjphaahaaGreatDoor.Pa
namespace Go.Proofs.YthcompcjphaahaaGreatDoor.Pa
open Go.RowKit
set_option linter.unusedVariables false
def kindBad (T:TypeV):Bool:=decide (T.kind<1)||decide (14<T.kind)
def bndR (T:TypeV):Bool:=(T.kind==10&&decide (T.bound<0))||((T.kind==11||T.kind==12)&&decide (T.bound<1))||decide (64<T.bound)
def partOut (at':Nat) (p:Int):Bool:=decide (p<0)||decide ((at':Int)≤p)
def orderR (T:TypeV) (at':Nat):Bool:=hasB (fun j=>partOut at' ((partsL T).getD j 0)) (partsL T).length
def tagR (L:Nat→TypeV) (T:TypeV):Bool:=T.kind==14&&!numK (L T.tag.toNat).kind
def oneT (L:Nat→TypeV) (len at':Nat) (T:TypeV):Int:=
 if kindBad T then 4 else if moreB T then 1 else if namedK T.kind&&!nameS T.name then 5 else if namedK T.kind&&nameTw L T at' then 6 else if bndR T then 7 else if orderR T at' then 14
 else if tagR L T then 8 else if namedK T.kind&&decide (T.ilen=0) then 18 else if 16<T.ilen then 3 else if firstE (itemE L T) T.ilen≠0 then firstE (itemE L T) T.ilen else if 6<deepL L len (at':Nat) then 9 else 0
def oneR (L:Nat→TypeV) (len at':Nat):Int:=oneT L len at' (L at')
theorem order_in {T:TypeV} {at':Nat} (h:orderR T at'=false) (p:Int) (hp:p∈partsL T):0≤p∧p<at':=by
 obtain ⟨j,hj,he⟩:=List.getElem_of_mem hp
 cases hq:partOut at' ((partsL T).getD j 0) with
 |true=>
  have:=hasB_some (p:=fun j=>partOut at' ((partsL T).getD j 0)) hj hq
  unfold orderR at h
  rw [h] at this;cases this
 |false=>
  rw [List.getD_eq_getElem?_getD,List.getElem?_eq_getElem hj] at hq
  simp only [Option.getD_some] at hq
  rw [he] at hq
  unfold partOut at hq
  simp at hq
  omega
theorem tag_in {T:TypeV} {at':Nat} (h:orderR T at'=false) (hk:(T.kind==14)=true):0≤T.tag∧T.tag<at':=
 order_in h T.tag (by rw [partsL_union (by simpa using hk)];exact List.mem_cons_self)
theorem type_in {T:TypeV} {at':Nat} (h:orderR T at'=false) (hk:T.kind=13∨T.kind=14) {j:Nat} (hj:j<T.ilen):0≤(T.items j).type∧(T.items j).type<at':=by
 refine order_in h _ ?_
 have hm:(T.items j).type∈(List.range T.ilen).map fun j=>(T.items j).type:=List.mem_map.2 ⟨j,List.mem_range.2 hj,rfl⟩
 rcases hk with hk|hk
 · rw [partsL_struct hk];exact hm
 · rw [partsL_union hk];exact List.mem_cons_of_mem _ hm
theorem named_of {T:TypeV} (h:moreB T=false) {j:Nat} (hj:j<T.ilen):namedK T.kind=true:=by
 unfold moreB c1B at h
 rw [Bool.or_eq_false_iff,Bool.or_eq_false_iff,Bool.or_eq_false_iff] at h
 have h2:=h.1.1.2
 rw [decide_eq_true (show 0<T.ilen by omega)] at h2
 simpa using h2
theorem named_cases {k:Int} (h:namedK k=true):k=9∨k=13∨k=14:=by
 unfold namedK at h;simp at h;omega
end Go.Proofs.YthcompcjphaahaaGreatDoor.Pa
namespace Go.Proofs.YthcompcjphaahaaGreatDoor.Pa
open Go.RowKit
set_option linter.unusedVariables false
end Go.Proofs.YthcompcjphaahaaGreatDoor.Pa
namespace Go.Proofs.YthcompcjphaahaaGreatDoor.Pa
open Go.RowKit
set_option linter.unusedVariables false
theorem firstE_cons (e:Nat→Int) (n:Nat):firstE e (n+1)=if e 0≠0 then e 0 else firstE (fun j=>e (j+1)) n:=by
 by_cases h:e 0≠0
 · rw [if_pos h];exact firstE_at (fun i hi=>absurd hi (Nat.not_lt_zero _)) (Nat.succ_pos _) (by simpa using h)
 · rw [if_neg h]
   have h0:e 0=0:=by simpa using h
   obtain ⟨h1,h2,h3⟩:=firstN_is (fun j=>e (j+1) !=0) n
   by_cases c:firstN (fun j=>e (j+1) !=0) n<n
   · rw [firstE_at (e:=fun j=>e (j+1)) h2 c (h3 c)]
     refine firstE_at (fun i hi=>?_) (by omega) (h3 c)
     rcases i with _|i
     · simp [h0]
     · exact h2 i (by omega)
   · rw [firstE_none (e:=fun j=>e (j+1)) (fun i hi=>h2 i (by omega))]
     refine firstE_none (fun i hi=>?_)
     rcases i with _|i
     · simp [h0]
     · exact h2 i (by omega)
theorem firstE_zero (e:Nat→Int):firstE e 0=0:=firstE_none (fun i hi=>absurd hi (Nat.not_lt_zero _))
theorem firstE_congr {e f:Nat→Int} {n:Nat} (h:∀ i,i<n→e i=f i):firstE e n=firstE f n:=by
 induction n generalizing e f with
 |zero=>rw [firstE_zero,firstE_zero]
 |succ n ih=>rw [firstE_cons,firstE_cons,h 0 (by omega),ih (fun i hi=>h (i+1) (by omega))]
theorem hasB_congr {p q:Nat→Bool} {n:Nat} (h:∀ i,i<n→p i=q i):hasB p n=hasB q n:=by
 induction n with
 |zero=>rw [hasB_zero,hasB_zero]
 |succ n ih=>rw [hasB_next,hasB_next,ih (fun i hi=>h i (by omega)),h n (by omega)]
theorem hasB_firstN (p:Nat→Bool) (n:Nat):decide (firstN p n<n)=hasB p n:=rfl
theorem name_eq_self (s:ByteArray):(s.toList==s.toList)=true:=by simp
theorem item_same {k:Int} (h:namedK k=true) (x:ItemV):itemBad k x=itemMore k x:=by
 have hs:=name_eq_self x.name
 rcases named_cases h with rfl|rfl|rfl
 · have e:ownI 9 x=⟨x.name,x.num,0,false,false⟩:=by simp [ownI,tysK]
   unfold itemBad itemMore sameI
   rw [e]
   dsimp only
   rw [hs]
   cases x.key <;> cases x.rest <;> simp [bne]
 · have e:ownI 13 x=⟨x.name,0,x.type,x.key,false⟩:=by simp [ownI,tysK]
   unfold itemBad itemMore sameI
   rw [e]
   dsimp only
   rw [hs]
   cases x.key <;> cases x.rest <;> simp [bne]
 · cases hr:x.rest with
   |false=>
    have e:ownI 14 x=⟨x.name,x.num,x.type,false,false⟩:=by simp [ownI,tysK,hr]
    unfold itemBad itemMore sameI
    rw [e]
    dsimp only
    rw [hs,hr]
    cases x.key <;> simp [bne]
   |true=>
    have e:ownI 14 x=⟨x.name,0,x.type,false,true⟩:=by simp [ownI,tysK,hr]
    unfold itemBad itemMore sameI
    rw [e]
    dsimp only
    rw [hs,hr]
    cases x.key <;> simp [bne]
theorem form_same {T:TypeV} (h1:1≤T.kind) (h2:T.kind≤14):formB T=moreB T:=by
 have hk:c3B T=(f2B T||f3B T||f4B T):=by
  unfold c3B f2B f3B f4B
  have e1:(decide (T.kind<10)||decide (12<T.kind))=!boundK T.kind:=by
   unfold boundK ofK;rw [Bool.eq_iff_iff];simp;omega
  have e2:(T.kind !=11&&T.kind !=12)=!ofK T.kind:=by
   unfold ofK;rw [Bool.eq_iff_iff];simp
  have e3:(T.kind !=14)=!(T.kind==14):=rfl
  rw [e1,e2,e3]
 have hc:c1B T=(f1B T||f5B T):=rfl
 unfold formB moreB
 rw [hc,hk,hasB_firstN]
 cases hf5:f5B T with
 |true=>cases f1B T <;> cases f2B T <;> cases f3B T <;> cases f4B T <;> rfl
 |false=>
  have hh:hasB (fun j=>itemBad T.kind (T.items j)) T.ilen=hasB (fun j=>itemMore T.kind (T.items j)) T.ilen:=by
   refine hasB_congr fun i hi=>item_same ?_ _
   unfold f5B at hf5
   rw [decide_eq_true (show 0<T.ilen by omega)] at hf5
   simpa using hf5
  rw [hh]
  cases f1B T <;> cases f2B T <;> cases f3B T <;> cases f4B T <;> rfl
theorem bound_same {T:TypeV} (h:moreB T=false):boundBad T=bndR T:=by
 have h3:c3B T=false:=by
  unfold moreB at h
  rw [Bool.or_eq_false_iff,Bool.or_eq_false_iff] at h
  exact h.1.2
 unfold c3B at h3
 rw [Bool.or_eq_false_iff,Bool.or_eq_false_iff] at h3
 have hb:=h3.1.1
 unfold boundBad bndR boundK ofK
 by_cases h10:T.kind=10
 · rw [h10];simp
 · by_cases h11:T.kind=11
   · rw [h11];simp
   · by_cases h12:T.kind=12
     · rw [h12];simp
     · have hz:T.bound=0:=by
        simp at hb
        by_cases z:T.bound=0
        · exact z
        · have:=hb z;omega
       rw [hz];simp [h10,h11,h12]
theorem order_same (T:TypeV) (at':Nat):orderBad T at'=orderR T at':=by
 unfold orderBad orderR
 refine hasB_congr fun j _=>?_
 unfold inL partOut
 rw [Bool.eq_iff_iff];simp <;> omega
theorem kindL_in {L:Nat→TypeV} {len:Nat} {t:Int} (h0:0≤t) (h1:t<len):kindL L len t=(L t.toNat).kind:=by
 unfold kindL inL
 rw [decide_eq_true h0,decide_eq_true h1];rfl
theorem tag_same {L:Nat→TypeV} {len at':Nat} {T:TypeV} (hat:at' <len) (h:orderR T at'=false):(T.kind==14&&!numK (kindL L len T.tag))=tagR L T:=by
 unfold tagR
 cases hk:(T.kind==14) with
 |false=>rfl
 |true=>
  obtain ⟨h0,h1⟩:=tag_in h hk
  rw [kindL_in h0 (by omega)]
theorem first_lt {p:Nat→Bool} {n i:Nat} (hi:i<n) (hp:p i=true):decide (posZ (firstZ p n)<i)=hasB p i:=by
 rcases firstZ_cases p n with ⟨k,hk,e,h1,h2⟩|⟨e,h1⟩
 · rw [e]
   have e2:posZ (k:Nat)=k:=by unfold posZ;rw [if_neg (by omega)]
   rw [e2]
   rcases Nat.lt_or_ge k i with c|c
   · rw [hasB_some c h1,decide_eq_true (by omega)]
   · rw [hasB_none (fun j hj=>h2 j (by omega)),decide_eq_false (by omega)]
 · rw [h1 i hi] at hp;cases hp
theorem ite_dec {p:Prop} [Decidable p] {b:Bool} {x y:Int} (h:decide p=b):(if p then x else y)=if b then x else y:=by
 subst h;by_cases c:p <;> simp [c]
theorem itemL_own {L:Nat→TypeV} {len at':Nat} {T:TypeV} (hat:at' <len) (hT:L at'=T) (hn:namedK T.kind=true) (s:ByteArray):itemL L len (at':Nat) s=firstZ (fun j=>(T.items j).name.toList==s.toList) T.ilen:=by
 unfold itemL itemZ
 rw [inL_yes hat,if_pos rfl,Int.toNat_natCast,hT,hn,if_pos rfl]
theorem valueL_own {L:Nat→TypeV} {len at':Nat} {T:TypeV} (hat:at' <len) (hT:L at'=T) (h9:T.kind=9) (n:Int):valueL L len (at':Nat) n=firstZ (fun j=>(T.items j).num==n) T.ilen:=by
 unfold valueL valueZ
 rw [inL_yes hat,if_pos rfl,Int.toNat_natCast,hT,if_pos h9]
theorem branchL_own {L:Nat→TypeV} {len at':Nat} {T:TypeV} (hat:at' <len) (hT:L at'=T) (n:Int):branchL L len (at':Nat) n=branchZ T n:=by
 unfold branchL
 rw [inL_yes hat,if_pos rfl,Int.toNat_natCast,hT]
theorem branch_lt {T:TypeV} {n:Int} {i:Nat} (h14:T.kind=14) (hi:i<T.ilen) (hp:tagB T n i=true) (hr:∀ m,m<i→(T.items m).rest=false):decide (posZ (branchZ T n)<i)=hasB (fun k=>(T.items k).num==n) i:=by
 have hfirst:okZ (firstZ (tagB T n) T.ilen)=true:=by
  rcases firstZ_cases (tagB T n) T.ilen with ⟨k,hk,e,h1,h2⟩|⟨e,h1⟩
  · rw [e];unfold okZ;rw [decide_eq_true (by omega)]
  · rw [h1 i hi] at hp;cases hp
 rw [(branchZ_hit h14 hfirst).1,first_lt hi hp]
 refine hasB_congr fun m hm=>?_
 unfold tagB
 rw [hr m hm];rfl
theorem isTag_same {L:Nat→TypeV} {len at':Nat} {T:TypeV} (hat:at' <len) (h14:T.kind=14) (ho:orderR T at'=false) (n:Int):isTagB L len T n=numberB L T n:=by
 obtain ⟨h0,h1⟩:=tag_in ho (by simpa using h14)
 unfold isTagB numberB
 rw [kindL_in h0 (by omega),if_neg (show ¬T.kind=9 by omega)]
 by_cases h9:(L T.tag.toNat).kind=9
 · rw [if_pos h9,if_pos h9]
   unfold okZ valueL inL
   rw [decide_eq_true h0,decide_eq_true (show T.tag<(len:Int) by omega)]
   rfl
 · rw [if_neg h9,if_neg h9]
theorem more_item {T:TypeV} (h:moreB T=false) {i:Nat} (hi:i<T.ilen):itemMore T.kind (T.items i)=false:=by
 cases hq:itemMore T.kind (T.items i) with
 |false=>rfl
 |true=>
  have:=hasB_some (p:=fun j=>itemMore T.kind (T.items j)) hi hq
  unfold moreB at h
  rw [Bool.or_eq_false_iff] at h
  have h2:hasB (fun j=>itemMore T.kind (T.items j)) T.ilen=false:=h.2
  rw [h2] at this;cases this
theorem item_e_same {L:Nat→TypeV} {len at':Nat} {T:TypeV} (hat:at' <len) (hT:L at'=T) (hm:moreB T=false) (ho:orderR T at'=false) {i:Nat} (hi:i<T.ilen) (hp:∀ m,m<i→itemE L T m=0):ckItem L len at' T i=itemE L T i:=by
 have hn:=named_of hm hi
 have hmi:=more_item hm hi
 unfold ckItem itemE
 by_cases hs:nameS (T.items i).name=false
 · rw [if_pos hs,if_pos hs]
 · rw [if_neg hs,if_neg hs]
   rw [ite_dec (show decide (posZ (itemL L len (at':Nat) (T.items i).name)<i)=hasB (nameEq T (T.items i)) i by
    rw [itemL_own hat hT hn];exact first_lt (p:=nameEq T (T.items i)) hi (by unfold nameEq;simp))]
   cases hnm:hasB (nameEq T (T.items i)) i with
   |true=>rfl
   |false=>
    simp only [Bool.false_eq_true,if_false]
    rcases named_cases hn with h9|h13|h14
    · rw [if_pos h9,if_neg (show ¬T.kind=13 by omega)]
      have hr:(T.items i).rest=false:=by
       unfold itemMore at hmi
       rw [h9] at hmi
       simp at hmi
       exact hmi.2
      rw [hr]
      simp only [Bool.false_eq_true,if_false]
      unfold ckValue
      have e1:numberB L T (T.items i).num=mayK 9 (T.items i).num:=by unfold numberB;rw [if_pos h9]
      rw [e1]
      by_cases hy:mayK 9 (T.items i).num=false
      · rw [if_pos hy,if_pos hy]
      · rw [if_neg hy,if_neg hy]
        rw [ite_dec (show decide (posZ (valueL L len (at':Nat) (T.items i).num)<i)=hasB (numEq T (T.items i)) i by
         rw [valueL_own hat hT h9];exact first_lt (p:=numEq T (T.items i)) hi (by unfold numEq;simp))]
    · rw [if_neg (show ¬T.kind=9 by omega),if_pos h13,if_pos h13]
      obtain ⟨t0,t1⟩:=type_in ho (.inl h13) hi
      unfold ckField
      rw [kindL_in t0 (by omega)]
    · rw [if_neg (show ¬T.kind=9 by omega),if_neg (show ¬T.kind=13 by omega),if_neg (show ¬T.kind=13 by omega)]
      unfold ckBranch
      cases hr:(T.items i).rest with
      |true=>rfl
      |false=>
       simp only [Bool.false_eq_true,if_false]
       rw [isTag_same hat h14 ho]
       by_cases hy:numberB L T (T.items i).num=false
       · rw [if_pos hy,if_pos hy]
       · rw [if_neg hy,if_neg hy]
         have hrm:∀ m,m<i→(T.items m).rest=false:=by
          intro m hmi'
          cases hq:(T.items m).rest with
          |false=>rfl
          |true=>
           have h0:=hp m hmi'
           unfold itemE at h0
           rw [if_neg (show ¬T.kind=13 by omega),hq] at h0
           simp only [if_true] at h0
           rw [if_pos (show m+1<T.ilen by omega)] at h0
           split at h0
           · cases h0
           · split at h0
             · cases h0
             · cases h0
         rw [ite_dec (show decide (posZ (branchL L len (at':Nat) (T.items i).num)<i)=hasB (numEq T (T.items i)) i by
          rw [branchL_own hat hT];exact branch_lt h14 hi (by unfold tagB;rw [hr];simp) hrm)]
theorem items_same {L:Nat→TypeV} {len at':Nat} {T:TypeV} (hat:at' <len) (hT:L at'=T) (hm:moreB T=false) (ho:orderR T at'=false):ckItems L len at' T=firstE (itemE L T) T.ilen:=by
 unfold ckItems
 obtain ⟨h1,h2,h3⟩:=firstN_is (fun j=>itemE L T j !=0) T.ilen
 have hz:∀ i,i<firstN (fun j=>itemE L T j !=0) T.ilen→itemE L T i=0:=fun i hi=>by have:=h2 i hi;simpa using this
 have hz2:∀ i,i<firstN (fun j=>itemE L T j !=0) T.ilen→ckItem L len at' T i=0:=fun i hi=>by
  rw [item_e_same hat hT hm ho (by omega) (fun m hm'=>hz m (by omega))];exact hz i hi
 by_cases c:firstN (fun j=>itemE L T j !=0) T.ilen<T.ilen
 · rw [firstE_at h2 c (h3 c)]
   have e:=item_e_same hat hT hm ho c hz
   rw [←e]
   refine firstE_at (fun i hi=>by rw [hz2 i hi];rfl) c ?_
   rw [e];exact h3 c
 · rw [firstE_none (fun i hi=>h2 i (by omega))]
   exact firstE_none (fun i hi=>by rw [hz2 i (by omega)];rfl)
theorem if_chain {b:Bool} {c x:Int} (hc:c≠0):(if (if b=true then c else 0)≠0 then (if b=true then c else 0) else x)=if b=true then c else x:=by
 cases b <;> simp [hc]
theorem one_same {L:Nat→TypeV} {len at':Nat} (hat:at' <len):oneC L len at'=oneR L len at':=by
 unfold oneC oneR
 obtain ⟨T,hT⟩:∃ T,L at'=T:=⟨_,rfl⟩
 rw [hT]
 have e:firstE (ckAt L len at') 9=(if ckKind T≠0 then ckKind T else if ckForm T≠0 then ckForm T else if ckName L T at'≠0 then ckName L T at' else if ckBound T≠0 then ckBound T else if ckOrder T at'≠0 then ckOrder T at' else
   if ckTag L len T≠0 then ckTag L len T else if ckCount T≠0 then ckCount T else if ckItems L len at' T≠0 then ckItems L len at' T else if ckDepth L len at'≠0 then ckDepth L len at' else 0):=by
  rw [←hT]
  simp only [firstE_cons,firstE_zero]
  rfl
 rw [e]
 clear e
 unfold oneT
 have e1:ckKind T=if kindBad T=true then 4 else 0:=by unfold ckKind kindBad;by_cases h:T.kind<1 <;> by_cases h':14<T.kind <;> simp [h,h']
 rw [e1,if_chain (by decide)]
 cases hkb:kindBad T with
 |true=>rfl
 |false=>
  simp only [Bool.false_eq_true,if_false]
  have hk:1≤T.kind∧T.kind≤14:=by unfold kindBad at hkb;simp at hkb;omega
  have e2:ckForm T=if moreB T=true then 1 else 0:=by unfold ckForm;rw [form_same hk.1 hk.2]
  rw [e2,if_chain (by decide)]
  cases hm:moreB T with
  |true=>rfl
  |false=>
   simp only [Bool.false_eq_true,if_false]
   have e3:ckName L T at'=if (namedK T.kind&&!nameS T.name)=true then 5 else if (namedK T.kind&&nameTw L T at')=true then 6 else 0:=by
    unfold ckName
    cases namedK T.kind <;> cases nameS T.name <;> cases nameTw L T at' <;> rfl
   rw [e3]
   cases hn1:(namedK T.kind&&!nameS T.name) with
   |true=>rfl
   |false=>
    simp only [Bool.false_eq_true,if_false]
    rw [if_chain (by decide)]
    cases hn2:(namedK T.kind&&nameTw L T at') with
    |true=>rfl
    |false=>
     simp only [Bool.false_eq_true,if_false]
     have e4:ckBound T=if bndR T=true then 7 else 0:=by unfold ckBound;rw [bound_same hm]
     rw [e4,if_chain (by decide)]
     cases hb:bndR T with
     |true=>rfl
     |false=>
      simp only [Bool.false_eq_true,if_false]
      have e5:ckOrder T at'=if orderR T at'=true then 14 else 0:=by unfold ckOrder;rw [order_same]
      rw [e5,if_chain (by decide)]
      cases ho:orderR T at' with
      |true=>rfl
      |false=>
       simp only [Bool.false_eq_true,if_false]
       have e6:ckTag L len T=if tagR L T=true then 8 else 0:=by unfold ckTag;rw [tag_same hat ho]
       rw [e6,if_chain (by decide)]
       cases ht:tagR L T with
       |true=>rfl
       |false=>
        simp only [Bool.false_eq_true,if_false]
        have e7:ckCount T=if (namedK T.kind&&decide (T.ilen=0))=true then 18 else if 16<T.ilen then 3 else 0:=by
         unfold ckCount
         cases hn:namedK T.kind with
         |true=>by_cases h:T.ilen=0 <;> simp [h]
         |false=>
          have:¬16<T.ilen:=fun h=>by
           have:=named_of hm (j:=0) (by omega)
           rw [hn] at this;cases this
          simp [this]
        rw [e7]
        cases hc:(namedK T.kind&&decide (T.ilen=0)) with
        |true=>rfl
        |false=>
         simp only [Bool.false_eq_true,if_false]
         by_cases h16:16<T.ilen
         · rw [if_pos h16,if_pos h16];rfl
         · rw [if_neg h16,if_neg h16,if_neg (by simp),items_same hat hT hm ho]
           split
           · rfl
           · unfold ckDepth
             by_cases h6:6<deepL L len (at':Nat) <;> simp [h6]
theorem fault_same (L:Nat→TypeV) (len:Nat):faultV (oneC L len) len=faultV (oneR L len) len:=by
 unfold faultV fErr fAt
 rw [firstE_congr (e:=oneC L len) (f:=oneR L len) (fun i hi=>one_same hi)]
 have h:∀ n,n≤len→firstN (fun i=>oneC L len i !=0) n=firstN (fun i=>oneR L len i !=0) n:=by
  intro n hn
  obtain ⟨h1,h2,h3⟩:=firstN_is (fun i=>oneR L len i !=0) n
  by_cases c:firstN (fun i=>oneR L len i !=0) n<n
  · exact first_at (fun i hi=>by show (oneC L len i !=0)=false;rw [one_same (by omega)];exact h2 i hi) c (by show (oneC L len _ !=0)=true;rw [one_same (by omega)];exact h3 c)
  · have e:firstN (fun i=>oneR L len i !=0) n=n:=by omega
    rw [e]
    exact first_none (fun i hi=>by show (oneC L len i !=0)=false;rw [one_same (by omega)];exact h2 i (by omega))
 rw [h len (Nat.le_refl _)]
end Go.Proofs.YthcompcjphaahaaGreatDoor.Pa
namespace Go.Proofs.YthcompcjphaahaaGreatDoor.Pa
open Go.ChangeShapes Go.WideShapes Go.ChangeAt Go.RowKit
set_option linter.unusedVariables false
theorem fault_eql (a b c d:Int) (w:World):(binOp .eql 54 (.agg #[.int .i64 a,.int .i64 b]) (.agg #[.int .i64 c,.int .i64 d])).run Tryz.prog w=.ok (.bool ((a==c)&&(b==d))) w:=by
 have hu:=Tryz.underlying54
 have hi:=Tryz.underlying3
 have he:=Tryz.underlying37
 have p0:=fun a c w=>run_equalIn_int (P:=Tryz.prog) w 9998 3 .i64 .i64 a c hi
 have p1:=fun a c w=>run_equalIn_int (P:=Tryz.prog) w 9998 37 .i64 .i64 a c he
 rw [run_eql_struct,run_equalIn_agg _ 9999 _ _ _ (by kernel_rfl) (by kernel_rfl)]
 simp only [Program.fieldsOf,hu]
 simp [Op.eqFields,go_sem,p0,p1]
 (repeat' split) <;> simp_all
def noneT (k b o:Int):TypeV:=⟨k,⟨#[]⟩,b,o,0,none,0,0,default⟩
def exA:Nat→TypeV:=fun i=>if i=0 then noneT 1 0 0 else noneT 11 1 1
def exO:Obj:=.cells #[.int .i64 1,.string ⟨#[]⟩,.int .i64 0,.int .i64 0,.int .i64 0,.slice none 0 0,.int .i64 11,.string ⟨#[]⟩,.int .i64 1,.int .i64 1,.int .i64 0,.slice none 0 0] 58
def exI:Nat→ItemV:=fun i=>if i=0 then ⟨⟨#[97]⟩,0,0,false,false⟩ else ⟨⟨#[98]⟩,0,0,false,false⟩
def exB (g:Nat):Nat→TypeV:=fun _=>⟨9,⟨#[69]⟩,0,0,0,some ⟨g,0,none⟩,2,2,exI⟩
end Go.Proofs.YthcompcjphaahaaGreatDoor.Pa
namespace Go.Proofs.YthcompcjphaahaaGreatDoor.Pa
open Go.ChangeShapes Go.WideShapes Go.ChangeAt Go.RowKit
set_option linter.unusedVariables false
theorem deepL_in {L:Nat→TypeV} {len i:Nat} (h:i<len):deepL L len (i:Nat)=(deepN L i:Nat):=by unfold deepL;rw [inL_yes h];rfl
theorem one_prefix {L:Nat→TypeV} {n len i:Nat} (hn:n≤len) (hi:i<n):oneR L n i=oneR L len i:=by
 unfold oneR oneT
 rw [deepL_in hi,deepL_in (show i<len by omega)]
theorem valid_all {L:Nat→TypeV} {len:Nat} (h:fErr (oneR L len) len=0):len≤32∧∀ i,i<len→oneR L len i=0:=by
 unfold fErr at h
 by_cases h32:32<len
 · rw [if_pos h32] at h;cases h
 · rw [if_neg h32] at h
   refine ⟨by omega,fun i hi=>?_⟩
   obtain ⟨h1,h2,h3⟩:=firstN_is (fun j=>oneR L len j !=0) len
   by_cases c:firstN (fun j=>oneR L len j !=0) len<len
   · rw [firstE_at h2 c (h3 c)] at h
     have h4:(oneR L len (firstN (fun j=>oneR L len j !=0) len) !=0)=true:=h3 c
     rw [h] at h4;cases h4
   · have:=h2 i (by omega);simpa using this
theorem valid_prefix {L:Nat→TypeV} {len n:Nat} (h:fErr (oneR L len) len=0) (hn:n≤len):fErr (oneR L n) n=0∧fAt (oneR L n) n=0:=by
 obtain ⟨h32,ha⟩:=valid_all h
 have hf:∀ i,i<n→(oneR L n i !=0)=false:=fun i hi=>by rw [one_prefix hn hi,ha i (by omega)];rfl
 unfold fErr fAt
 rw [if_neg (by omega),if_neg (by omega),firstE_none hf,first_none hf,if_neg (Nat.lt_irrefl _)]
 exact ⟨rfl,rfl⟩
theorem fold_has {D:Nat→Nat} {t:Nat} {p:Int} (h0:0≤p) (h1:p<t):∀ (l:List Int) (a:Nat),p∈l→D p.toNat+1≤l.foldl (deepStep D t) a
 |q::l,a,h=>by
  rw [List.foldl_cons]
  rcases List.mem_cons.1 h with rfl|h
  · refine Nat.le_trans ?_ (fold_ge l _)
    unfold deepStep
    rw [if_pos ⟨h0,h1⟩]
    omega
  · exact fold_has h0 h1 l _ h
theorem valid_deep {L:Nat→TypeV} {len i:Nat} (h:oneR L len i=0) (hi:i<len):1≤deepN L i∧deepN L i≤6∧(11≤(L i).kind→2≤deepN L i):=by
 obtain ⟨T,hT⟩:∃ T,L i=T:=⟨_,rfl⟩
 unfold oneR oneT at h
 rw [hT] at h
 have hp:=deepN_pos L i
 split at h;· cases h
 rename_i hkb
 split at h;· cases h
 rename_i hm
 split at h;· cases h
 split at h;· cases h
 split at h;· cases h
 split at h;· cases h
 rename_i ho
 split at h;· cases h
 split at h;· cases h
 rename_i hc
 split at h;· cases h
 split at h;· rename_i hne;exact absurd h hne
 split at h;· cases h
 rename_i hd
 rw [deepL_in hi] at hd
 refine ⟨hp,by omega,fun hk=>?_⟩
 rw [hT] at hk
 have hk14:T.kind≤14:=by unfold kindBad at hkb;simp at hkb;omega
 have ho':orderR T i=false:=by simpa using ho
 have key:∀ p,p∈partsL T→2≤deepN L i:=fun p hp=>by
  obtain ⟨h0,h1⟩:=order_in ho' p hp
  rw [deepN_eq]
  have:=fold_has (D:=deepN L) h0 h1 (partsL (L i)) 1 (by rw [hT];exact hp)
  have:=deepN_pos L p.toNat
  omega
 have hk4:(T.kind=11∨T.kind=12)∨T.kind=13∨T.kind=14:=by omega
 rcases hk4 with h1|h1|h1
 · exact key T.of (by rw [partsL_one h1];exact List.mem_cons_self)
 · have hn:namedK T.kind=true:=by unfold namedK;rw [h1];rfl
   have hil:0<T.ilen:=by
    rw [hn] at hc
    simp at hc;omega
   exact key (T.items 0).type (by rw [partsL_struct h1];exact List.mem_map.2 ⟨0,List.mem_range.2 hil,rfl⟩)
 · exact key T.tag (by rw [partsL_union h1];exact List.mem_cons_self)
end Go.Proofs.YthcompcjphaahaaGreatDoor.Pa
namespace Go.Proofs.YthcompcjphaahaaGreatDoor.Pa
open Go.RowKit
set_option linter.unusedVariables false
structure OkT (L:Nat→TypeV) (t:Nat):Prop where
 kind:1≤(L t).kind∧(L t).kind≤14
 of:(L t).kind=11∨(L t).kind=12→0≤(L t).of∧(L t).of<t∧deepN L (L t).of.toNat+1≤deepN L t
 tag:(L t).kind=14→0≤(L t).tag∧(L t).tag<t∧deepN L (L t).tag.toNat+1≤deepN L t∧numK (L (L t).tag.toNat).kind=true
 items:(L t).kind=13∨(L t).kind=14→∀ j,j<(L t).ilen→0≤((L t).items j).type∧((L t).items j).type<t∧deepN L ((L t).items j).type.toNat+1≤deepN L t
 count:(L t).kind=13∨(L t).kind=14→1≤(L t).ilen∧(L t).ilen≤16
 bound:(L t).kind=10∨(L t).kind=11∨(L t).kind=12→0≤(L t).bound∧(L t).bound≤64
 least:(L t).kind=11∨(L t).kind=12→1≤(L t).bound
 deep:1≤deepN L t∧deepN L t≤6
end Go.Proofs.YthcompcjphaahaaGreatDoor.Pa
namespace Go.Proofs.YthcompcjphaahaaGreatDoor.Pa
open Go.RowKit
set_option linter.unusedVariables false
theorem part_deep {L:Nat→TypeV} {t:Nat} {p:Int} (hp:p∈partsL (L t)) (h0:0≤p) (h1:p<t):deepN L p.toNat+1≤deepN L t:=by
 rw [deepN_eq L t];exact fold_has h0 h1 _ _ hp
theorem ok_of {L:Nat→TypeV} {len i:Nat} (h:oneR L len i=0) (hi:i<len):OkT L i:=by
 have hdp:=valid_deep h hi
 unfold oneR oneT at h
 split at h;· cases h
 rename_i hkb
 split at h;· cases h
 rename_i hm
 split at h;· cases h
 split at h;· cases h
 split at h;· cases h
 rename_i hb
 split at h;· cases h
 rename_i ho
 split at h;· cases h
 rename_i htg
 split at h;· cases h
 rename_i hc
 split at h;· cases h
 rename_i hc16
 have ho':orderR (L i) i=false:=by simpa using ho
 have hin:=fun p (hp:p∈partsL (L i))=>order_in ho' p hp
 have hk14:1≤(L i).kind∧(L i).kind≤14:=by unfold kindBad at hkb;simp at hkb;omega
 have hbd:bndR (L i)=false:=by simpa using hb
 unfold bndR at hbd
 simp at hbd
 have pof:(L i).kind=11∨(L i).kind=12→(L i).of∈partsL (L i):=fun h=>by rw [partsL_one h];exact List.mem_cons_self
 have ptg:(L i).kind=14→(L i).tag∈partsL (L i):=fun h=>by rw [partsL_union h];exact List.mem_cons_self
 have pit:(L i).kind=13∨(L i).kind=14→∀ j,j<(L i).ilen→((L i).items j).type∈partsL (L i):=fun h j hj=>by
  have hmm:((L i).items j).type∈(List.range (L i).ilen).map fun j=>((L i).items j).type:=List.mem_map.2 ⟨j,List.mem_range.2 hj,rfl⟩
  rcases h with h|h
  · rw [partsL_struct h];exact hmm
  · rw [partsL_union h];exact List.mem_cons_of_mem _ hmm
 refine ⟨hk14,fun hk=>?_,fun hk=>?_,fun hk j hj=>?_,fun hk=>?_,fun hk=>?_,fun hk=>?_,⟨hdp.1,hdp.2.1⟩⟩
 · have h2:=hin _ (pof hk)
   exact ⟨h2.1,h2.2,part_deep (pof hk) h2.1 h2.2⟩
 · have h2:=hin _ (ptg hk)
   refine ⟨h2.1,h2.2,part_deep (ptg hk) h2.1 h2.2,?_⟩
   unfold tagR at htg
   rw [hk] at htg
   simpa using htg
 · have h2:=hin _ (pit hk j hj)
   exact ⟨h2.1,h2.2,part_deep (pit hk j hj) h2.1 h2.2⟩
 · have hn:namedK (L i).kind=true:=by unfold namedK;rcases hk with hk|hk <;> rw [hk] <;> rfl
   rw [hn] at hc
   simp at hc
   omega
 · obtain ⟨⟨h1,h2⟩,h3⟩:=hbd
   rcases hk with hk|hk|hk
   · exact ⟨h1 hk,by omega⟩
   · exact ⟨by have:=h2 (.inl hk);omega,by omega⟩
   · exact ⟨by have:=h2 (.inr hk);omega,by omega⟩
 · obtain ⟨⟨h1,h2⟩,h3⟩:=hbd
   exact h2 hk
theorem ok_all {L:Nat→TypeV} {len:Nat} (h:fErr (oneR L len) len=0):∀ i,i<len→OkT L i:=fun i hi=>ok_of ((valid_all h).2 i hi) hi
def hasT (L:Nat→TypeV) (len:Nat) (t:Int):Bool:=inL len t&&(fErr (oneR L len) len==0&&fAt (oneR L len) len==0)
theorem fAt_ok {L:Nat→TypeV} {len:Nat} (h:fErr (oneR L len) len=0):fAt (oneR L len) len=0:=(valid_prefix h (Nat.le_refl _)).2
theorem hasT_in {L:Nat→TypeV} {len:Nat} {t:Int} (h:hasT L len t=true):∃ k:Nat,t=k∧k<len∧fErr (oneR L len) len=0:=by
 unfold hasT inL at h
 simp at h
 exact ⟨t.toNat,by omega,by omega,h.2.1⟩
theorem hasT_yes {L:Nat→TypeV} {len k:Nat} (hk:k<len) (h:fErr (oneR L len) len=0):hasT L len (k:Nat)=true:=by
 unfold hasT;rw [inL_yes hk,h,fAt_ok h];rfl
end Go.Proofs.YthcompcjphaahaaGreatDoor.Pa
