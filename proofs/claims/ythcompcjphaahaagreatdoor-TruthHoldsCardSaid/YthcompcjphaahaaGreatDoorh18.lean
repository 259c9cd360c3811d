/- Contracts of package types: the fields of a kind, a list's place, a type's kind. -/
import Derived.Shelf.Abstract
import Derived.OwnWalk
import Derived.Test.YthcompcjphaahaaGreatDoorh17
set_option maxRecDepth 100000
set_option maxHeartbeats 8000000
set_option linter.unusedVariables false
namespace Go.Proofs.YthcompcjphaahaaGreatDoor.Pa
open Go.RowKit
def ofK (k:Int):Bool:=k==11||k==12
def boundK (k:Int):Bool:=ofK k||k==10
def tysK (k:Int):Bool:=k==13||k==14
def kindL (L:Nat→TypeV) (len:Nat) (t:Int):Int:=if inL len t then (L t.toNat).kind else 0
theorem qh (k:Int) (w:World):Calls Tryz.prog 166 #[.int .i64 k] w fun e w'=>e=.returned (.bool (namedK k))∧w=w':=by
 go_enter Tryz.func166,Tryz.ntmps166;go_wp2
 all_goals
  go_ret;refine ⟨qk ?_,rfl⟩;rw [Bool.eq_iff_iff];simp [namedK, *]
theorem zz (k:Int) (w:World):Calls Tryz.prog 219 #[.int .i64 k] w fun e w'=>e=.returned (.bool (ofK k))∧w=w':=by
 go_enter Tryz.func219,Tryz.ntmps219;go_wp2
 all_goals
  go_ret;refine ⟨qk ?_,rfl⟩;rw [Bool.eq_iff_iff];simp [ofK, *]
theorem Ym (k:Int) (w:World):Calls Tryz.prog 218 #[.int .i64 k] w fun e w'=>e=.returned (.bool (boundK k))∧w=w':=by
 obtain ⟨b,hb⟩:∃ b,ofK k=b:=⟨_,rfl⟩;have h:=zz k;rw [hb] at h;have HO:=lh h;have HB:=lh hb;clear h hb;go_enter Tryz.func218,Tryz.ntmps218
 cases b
 all_goals
  go_wp2_with (go_at_call 219;refine (HO.out _).mono ?_;rintro e w' ⟨rfl,rfl⟩)
  all_goals
   go_ret;refine ⟨qk ?_,rfl⟩;unfold boundK;rw [HB.out];simp [*]
theorem zi (k:Int) (w:World):Calls Tryz.prog 220 #[.int .i64 k] w fun e w'=>e=.returned (.bool (k==14))∧w=w':=by
 go_enter Tryz.func220,Tryz.ntmps220;go_wp2
 all_goals
  go_ret;exact ⟨qk (by first|rfl|simp [*]),rfl⟩
theorem qg (k:Int) (w:World):Calls Tryz.prog 247 #[.int .i64 k] w fun e w'=>e=.returned (.bool (tysK k))∧w=w':=by
 go_enter Tryz.func247,Tryz.ntmps247;go_wp2
 all_goals
  go_ret;refine ⟨qk ?_,rfl⟩;rw [Bool.eq_iff_iff];simp [tysK, *]
theorem jdr (ao:Option Addr) (len cap:Nat) (hlen:len≤140737488351232) (t:Int) (w:World):Calls Tryz.prog 201 #[.slice ao len cap,.int .i64 t] w fun e w'=>e=.returned (.bool (inL len t))∧w=w':=by
 go_enter Tryz.func201,Tryz.ntmps201;go_wp2
 all_goals
  go_ret;refine ⟨qk ?_,rfl⟩
  rw [Bool.eq_iff_iff];simp [inL, *] <;> (intros;omega)
theorem zk (ao:Option Addr) (len cap:Nat) (L:Nat→TypeV) (hlen:len≤140737488351232) (t:Int) (w:World) (H:∀ i,i<len→TypeAt w ao i (L i)):
  Calls Tryz.prog 167 #[.slice ao len cap,.int .i64 t] w fun e w'=>e=.returned (.int .i64 (kindL L len t))∧w=w':=by
 have HI:=lh (jdr ao len cap hlen t)
 by_cases ht:0≤t∧t<len
 · obtain ⟨h0,h1⟩:=ht;obtain ⟨k,rfl⟩:=Int.eq_ofNat_of_zero_le h0
   have hk:k<len:=by omega
   have e0:kindL L len (k:Nat)=(L k).kind:=by unfold kindL;rw [k8 hk];rfl
   rw [e0];rw [k8 hk] at HI;obtain ⟨b,off,rfl,c0,c1,c2,c3,c4,c5,wf,hi⟩:=H k hk;clear H hi e0;go_enter Tryz.func167,Tryz.ntmps167;go_wp2_with (go_at_call 201;refine (HI.out _).mono ?_;rintro e w' ⟨rfl,rfl⟩);go_ret;exact ⟨rfl,rfl⟩
 · have e0:kindL L len t=0:=by unfold kindL;rw [za ht];rfl
   rw [e0];rw [za ht] at HI;clear ht e0 H;go_enter Tryz.func167,Tryz.ntmps167;go_wp2_with (go_at_call 201;refine (HI.out _).mono ?_;rintro e w' ⟨rfl,rfl⟩);go_ret;exact ⟨rfl,rfl⟩
theorem hmf (fn:Fn) (first cap:Array Value) (w:World):(Instr.makeFunc fn first cap).run Tryz.prog w=.ok (.func fn first cap) w:=rfl
theorem jn3 (x:ItemV) (b:Nat) (s:ByteArray) (w:World) (hc:w.cell? ⟨b,0,none⟩=some (.string s)):
  Calls Tryz.prog 169 #[itmV x,.pointer (some ⟨b,0,none⟩)] w fun e w'=>e=.returned (.bool (x.name.toList==s.toList))∧Below w.heap.size w w':=by
 have hlt:=World.block_lt_of_cell? w _ hc
 have hne:¬b=w.heap.size:=by simp at hlt;omega
 unfold itmV;go_enter Tryz.func169,Tryz.ntmps169;go_wp2
 all_goals
  go_ret;exact ⟨qk (by first|rfl|simp [*]),(Below.refl _ _).alloc (Nat.le_refl _) _⟩
theorem jj5 (x:ItemV) (b:Nat) (n:Int) (w:World) (hc:w.cell? ⟨b,0,none⟩=some (.int .u64 n)):
  Calls Tryz.prog 266 #[itmV x,.pointer (some ⟨b,0,none⟩)] w fun e w'=>e=.returned (.bool (x.num==n))∧Below w.heap.size w w':=by
 have hlt:=World.block_lt_of_cell? w _ hc
 have hne:¬b=w.heap.size:=by simp at hlt;omega
 unfold itmV;go_enter Tryz.func266,Tryz.ntmps266;go_wp2
 all_goals
  go_ret;exact ⟨qk (by first|rfl|simp [*]),(Below.refl _ _).alloc (Nat.le_refl _) _⟩
theorem ji5 (x:ItemV) (b:Nat) (n:Int) (w:World) (hc:w.cell? ⟨b,0,none⟩=some (.int .u64 n)):
  Calls Tryz.prog 170 #[itmV x,.pointer (some ⟨b,0,none⟩)] w fun e w'=>e=.returned (.bool (x.num==n&&!x.rest))∧Below w.heap.size w w':=by
 have hlt:=World.block_lt_of_cell? w _ hc
 have hne:¬b=w.heap.size:=by simp at hlt;omega
 obtain ⟨q,hq⟩:∃ q,(x.num==n)=q:=⟨_,rfl⟩;unfold itmV;rw [hq];go_enter Tryz.func170,Tryz.ntmps170
 cases q
 all_goals
  go_wp2
  all_goals
   go_ret;exact ⟨qk (by first|rfl|simp [*]),(Below.refl _ _).alloc (Nat.le_refl _) _⟩
theorem jmq (x:ItemV) (w:World):
  Calls Tryz.prog 171 #[itmV x] w fun e w'=>e=.returned (.bool x.rest)∧Below w.heap.size w w':=by
 unfold itmV;go_enter Tryz.func171,Tryz.ntmps171;go_wp2
 all_goals
  go_ret;exact ⟨qk (by first|rfl|simp [*]),(Below.refl _ _).alloc (Nat.le_refl _) _⟩
def Pays (g:Nat) (lb:Array Value) (p:ItemV→Bool) (w:World):Prop:=
 ∀ (W:World) (x:ItemV),Below w.heap.size w W→Calls Tryz.prog g (#[itmV x]++lb) W fun e w'=>e=.returned (.bool (p x))∧Below W.heap.size W w'
def Enters (g:Nat):Prop:=∀ args w,(callFunc g args).run Tryz.prog w=.ok (.enter g args) w
def ItemsL (w:World) (ao:Option Addr) (len:Nat) (I:Nat→ItemV):Prop:=∀ j,j<len→ItemAt w ao j (I j)
theorem jin (ao:Option Addr) (len cap:Nat) (I:Nat→ItemV) (g:Nat) (lb:Array Value) (p:ItemV→Bool) (hlen:len≤3518437208780) (w:World) (eg:Enters g) (hp:Pays g lb p w) (H:ItemsL w ao len I):
  Calls Tryz.prog 202 #[.slice ao len cap,.func (.func g) #[] lb] w fun e w'=>e=.returned (.int .i64 (firstZ (fun j=>p (I j)) len))∧Below w.heap.size w w':=by
 have HH:=lh H;have HP:=lh hp;clear H hp;unfold Enters at eg;go_enter Tryz.func202,Tryz.ntmps202;go_wp2
 go_loopw [8] (fun i wr=>∃ j:Nat,j≤len∧i=.int .i64 j∧Hid (∀ m,m<j→p (I m)=false)∧Hid (Below w.heap.size w wr)) (fun i _=>len - (intOf i).toNat)
 case atStart=>exact ⟨0,by omega,rfl,lh fun m hm=>by omega,lh (Below.refl _ _)⟩
 case round=>
  obtain ⟨j,hj,rfl,H,HB⟩:=hrel
  by_cases hlt:j<len
  · have hat:=(HH.out j hlt).held (w1:=wr) HB.out;obtain ⟨b',off',rfl,d0,d1,d2,d3,d4,wi⟩:=hat;have hcall:=HP.out wr (I j) HB.out;unfold itmV at hcall
    cases hq:p (I j) with
    |false=>
     rw [hq] at hcall;have HC:=lh hcall;have HN:=lh (ji (p:=fun m=>p (I m)) H.out hq);clear hcall;go_wp2_with (go_at_fn g;refine (HC.out).mono ?_;rintro e w2 ⟨rfl,hb2⟩;have HB2:=lh (HB.out.trans (hb2.mono HB.out.size));clear hb2);go_roundw
     case measure=>simp [intOf];omega
     case rel=>exact ⟨j+1,by omega,by go_num,HN,HB2⟩
    |true=>
     rw [hq] at hcall;have HC:=lh hcall;have HN:=lh (ys (p:=fun m=>p (I m)) H.out hlt hq);clear hcall;go_wp2_with (go_at_fn g;refine (HC.out).mono ?_;rintro e w2 ⟨rfl,hb2⟩;have HB2:=lh (HB.out.trans (hb2.mono HB.out.size));clear hb2);go_ret;exact ⟨jo HN.out.symm,HB2.out⟩
  · have HN:=lh (yd (p:=fun m=>p (I m)) (n:=len) (fun m hm=>H.out m (by omega)));go_wp2;go_ret;exact ⟨jo HN.out.symm,HB.out⟩
def posZ (z:Int):Int:=if z<0 then 0 else z
def okZ (z:Int):Bool:=decide (0≤z)
def foundV (z:Int):Value:=.tuple #[.int .i64 (posZ z),.bool (okZ z)]
theorem jnj (p:Nat→Bool) (n:Nat):-1≤firstZ p n∧firstZ p n≤n:=by
 rcases ky p n with ⟨k,hk,e,_⟩|⟨e,_⟩ <;> rw [e] <;> omega
theorem Zp (ao:Option Addr) (len cap:Nat) (I:Nat→ItemV) (g:Nat) (lb:Array Value) (p:ItemV→Bool) (hlen:len≤3518437208780) (w:World) (eg:Enters g) (hp:Pays g lb p w) (H:ItemsL w ao len I):
  Calls Tryz.prog 168 #[.slice ao len cap,.func (.func g) #[] lb] w fun e w'=>e=.returned (foundV (firstZ (fun j=>p (I j)) len))∧Below w.heap.size w w':=by
 have HC:=lh (jin ao len cap I g lb p hlen w eg hp H);obtain ⟨h1,h2⟩:=jnj (fun j=>p (I j)) len;obtain ⟨z,hz⟩:∃ z,firstZ (fun j=>p (I j)) len=z:=⟨_,rfl⟩;rw [hz] at h1 h2;have hh:=HC.out;rw [hz] at hh;have HD:=lh hh;rw [hz];clear hh hz HC eg hp H
 by_cases hlt:z<0
 · have e:foundV z=.tuple #[.int .i64 0,.bool false]:=by unfold foundV posZ okZ;rw [if_pos hlt,decide_eq_false (by omega)]
   rw [e];clear e;go_enter Tryz.func168,Tryz.ntmps168;go_wp2_with (go_at_call 202;refine (HD.out).mono ?_;rintro e w2 ⟨rfl,hb2⟩;have HB2:=lh hb2;clear hb2)
   go_ret2
   exact ⟨rfl,HB2.out⟩
 · have e:foundV z=.tuple #[.int .i64 z,.bool true]:=by unfold foundV posZ okZ;rw [if_neg hlt,decide_eq_true (by omega)]
   rw [e];clear e;go_enter Tryz.func168,Tryz.ntmps168;go_wp2_with (go_at_call 202;refine (HD.out).mono ?_;rintro e w2 ⟨rfl,hb2⟩;have HB2:=lh hb2;clear hb2)
   go_ret2
   exact ⟨rfl,HB2.out⟩
theorem eItem:Enters 169:=enters_of Tryz.func169 (by kernel_rfl) rfl
theorem eValue:Enters 266:=enters_of Tryz.func266 (by kernel_rfl) rfl
theorem eBranch:Enters 170:=enters_of Tryz.func170 (by kernel_rfl) rfl
theorem eRest:Enters 171:=enters_of Tryz.func171 (by kernel_rfl) rfl
theorem jnr {b:Nat} {s:ByteArray} {w:World} (hc:w.cell? ⟨b,0,none⟩=some (.string s)):Pays 169 #[.pointer (some ⟨b,0,none⟩)] (fun x=>x.name.toList==s.toList) w:=
 fun W x hb=>jn3 x b s W (jk hb hc)
theorem jj7 {b:Nat} {n:Int} {w:World} (hc:w.cell? ⟨b,0,none⟩=some (.int .u64 n)):Pays 266 #[.pointer (some ⟨b,0,none⟩)] (fun x=>x.num==n) w:=
 fun W x hb=>jj5 x b n W (jk hb hc)
theorem ji7 {b:Nat} {n:Int} {w:World} (hc:w.cell? ⟨b,0,none⟩=some (.int .u64 n)):Pays 170 #[.pointer (some ⟨b,0,none⟩)] (fun x=>x.num==n&&!x.rest) w:=
 fun W x hb=>ji5 x b n W (jk hb hc)
theorem jpa (w:World):Pays 171 #[] (fun x=>x.rest) w:=fun W x hb=>jmq x W
theorem hold {w:World} {ao:Option Addr} {len:Nat} {L:Nat→TypeV} (H:∀ i,i<len→TypeAt w ao i (L i)) {wx:World} (hb:Below w.heap.size w wx):∀ i,i<len→TypeAt wx ao i (L i):=fun i hi=>(H i hi).held hb
theorem jc9 {L:Nat→TypeV} {len k:Nat} (hk:k<len):kindL L len (k:Nat)=(L k).kind:=by unfold kindL;rw [k8 hk];rfl
theorem jct {L:Nat→TypeV} {len:Nat} {t:Int} (h:¬(0≤t∧t<len)):kindL L len t=0:=by unfold kindL;rw [za h];rfl
theorem jbh (ao:Option Addr) (len cap:Nat) (L:Nat→TypeV) (t:Int) (s:ByteArray) (hlen:len≤140737488351232) (w:World) (H:∀ i,i<len→TypeAt w ao i (L i)):
  Calls Tryz.prog 128 #[.slice ao len cap,.int .i64 t,.string s] w fun e w'=>e=.returned (foundV (itemL L len t s))∧Below w.heap.size w w':=by
 have hmf':=hmf;have hk0:=fun wx (hb:Below w.heap.size w wx)=>zk ao len cap L hlen t wx (hold H hb)
 by_cases ht:0≤t∧t<len
 · obtain ⟨h0,h1⟩:=ht;obtain ⟨k,rfl⟩:=Int.eq_ofNat_of_zero_le h0
   have hk:k<len:=by omega
   have e0:itemL L len (k:Nat) s=itemZ (L k) s:=by unfold itemL;rw [k8 hk];rfl
   rw [e0];rw [jc9 hk] at hk0;have HK:=lh hk0;obtain ⟨b,off,rfl,c0,c1,c2,c3,c4,c5,wf,hi⟩:=H k hk;have hbl:b<w.heap.size:=World.block_lt_of_cell? w _ c0
   have hne:¬b=w.heap.size:=by omega
   have hn1:¬(len:Int)≤k:=by omega
   have hn2:k<len:=hk;clear hk0 H e0
   cases hn:namedK (L k).kind with
   |false=>
    have e1:itemZ (L k) s=-1:=by unfold itemZ;rw [hn];rfl
    rw [e1];go_enter Tryz.func128,Tryz.ntmps128
    go_wp2_with (first
     |(go_at_call 167;refine (HK.out _ ((Below.refl _ _).alloc (Nat.le_refl _) _)).mono ?_;rintro e w' ⟨rfl,rfl⟩)
     |(go_at_call 166;refine (qh _ _).mono ?_;rintro e w' ⟨rfl,rfl⟩))
    go_ret2
    exact ⟨rfl,(Below.refl _ _).alloc (Nat.le_refl _) _⟩
   |true=>
    have e1:itemZ (L k) s=firstZ (fun j=>((L k).items j).name.toList==s.toList) (L k).ilen:=by unfold itemZ;rw [hn];rfl
    rw [e1]
    have hf:=fun wx (hb:Below w.heap.size w wx) (hc:wx.cell? ⟨w.heap.size,0,none⟩=some (.string s))=>
     Zp (L k).ia (L k).ilen (L k).icap (L k).items 169 #[.pointer (some ⟨w.heap.size,0,none⟩)] (fun x=>x.name.toList==s.toList) hi.1 wx eItem (jnr hc) (hi.held hb).2
    unfold foundV at hf;have HF:=lh hf;clear hf e1 hi;obtain ⟨z,hz⟩:∃ z,firstZ (fun j=>((L k).items j).name.toList==s.toList) (L k).ilen=z:=⟨_,rfl⟩;rw [hz];rw [hz] at HF;clear hz;go_enter Tryz.func128,Tryz.ntmps128
    go_wp2_with (first
     |(go_at_call 167;refine (HK.out _ ((Below.refl _ _).alloc (Nat.le_refl _) _)).mono ?_;rintro e w' ⟨rfl,rfl⟩)
     |(go_at_call 166;refine (qh _ _).mono ?_;rintro e w' ⟨rfl,rfl⟩)
     |(go_at_call 168;refine (HF.out _ ((Below.refl _ _).alloc (Nat.le_refl _) _) (ja (jd _ _) rfl)).mono ?_;rintro e w2 ⟨rfl,hb2⟩;have HB2:=lh (((Below.refl _ _).alloc (Nat.le_refl _) _).trans (hb2.mono (by simp)));clear hb2))
    go_ret2
    exact ⟨rfl,HB2.out⟩
 · have e0:itemL L len t s=-1:=by unfold itemL;rw [za ht];rfl
   rw [e0];rw [jct ht] at hk0;have HK:=lh hk0;clear hk0 H e0 ht;go_enter Tryz.func128,Tryz.ntmps128
   go_wp2_with (first
    |(go_at_call 167;refine (HK.out _ ((Below.refl _ _).alloc (Nat.le_refl _) _)).mono ?_;rintro e w' ⟨rfl,rfl⟩)
    |(go_at_call 166;refine (qh 0 _).mono ?_;rintro e w' ⟨rfl,rfl⟩))
   go_ret2
   exact ⟨rfl,(Below.refl _ _).alloc (Nat.le_refl _) _⟩
theorem jdm (ao:Option Addr) (len cap:Nat) (L:Nat→TypeV) (t n:Int) (hlen:len≤140737488351232) (w:World) (H:∀ i,i<len→TypeAt w ao i (L i)):
  Calls Tryz.prog 259 #[.slice ao len cap,.int .i64 t,.int .u64 n] w fun e w'=>e=.returned (foundV (valueL L len t n))∧Below w.heap.size w w':=by
 have hmf':=hmf;have hk0:=fun wx (hb:Below w.heap.size w wx)=>zk ao len cap L hlen t wx (hold H hb)
 by_cases ht:0≤t∧t<len
 · obtain ⟨h0,h1⟩:=ht;obtain ⟨k,rfl⟩:=Int.eq_ofNat_of_zero_le h0
   have hk:k<len:=by omega
   have e0:valueL L len (k:Nat) n=valueZ (L k) n:=by unfold valueL;rw [k8 hk];rfl
   rw [e0];rw [jc9 hk] at hk0;have HK:=lh hk0;obtain ⟨b,off,rfl,c0,c1,c2,c3,c4,c5,wf,hi⟩:=H k hk;have hbl:b<w.heap.size:=World.block_lt_of_cell? w _ c0
   have hne:¬b=w.heap.size:=by omega
   have hn1:¬(len:Int)≤k:=by omega
   have hn2:k<len:=hk;clear hk0 H e0
   cases hn:((L k).kind==9) with
   |false=>
    have hn3:((L k).kind !=9)=true:=by simpa using hn
    have e1:valueZ (L k) n=-1:=by unfold valueZ;simp_all
    rw [e1];clear hn;go_enter Tryz.func259,Tryz.ntmps259;go_wp2_with (go_at_call 167;refine (HK.out _ ((Below.refl _ _).alloc (Nat.le_refl _) _)).mono ?_;rintro e w' ⟨rfl,rfl⟩)
    go_ret2
    exact ⟨rfl,(Below.refl _ _).alloc (Nat.le_refl _) _⟩
   |true=>
    have hn3:((L k).kind !=9)=false:=by simpa using hn
    have e1:valueZ (L k) n=firstZ (fun j=>((L k).items j).num==n) (L k).ilen:=by unfold valueZ;simp_all
    rw [e1]
    have hf:=fun wx (hb:Below w.heap.size w wx) (hc:wx.cell? ⟨w.heap.size,0,none⟩=some (.int .u64 n))=>
     Zp (L k).ia (L k).ilen (L k).icap (L k).items 266 #[.pointer (some ⟨w.heap.size,0,none⟩)] (fun x=>x.num==n) hi.1 wx eValue (jj7 hc) (hi.held hb).2
    unfold foundV at hf;have HF:=lh hf;clear hf e1 hi hn;obtain ⟨z,hz⟩:∃ z,firstZ (fun j=>((L k).items j).num==n) (L k).ilen=z:=⟨_,rfl⟩;rw [hz];rw [hz] at HF;clear hz;go_enter Tryz.func259,Tryz.ntmps259
    go_wp2_with (first
     |(go_at_call 167;refine (HK.out _ ((Below.refl _ _).alloc (Nat.le_refl _) _)).mono ?_;rintro e w' ⟨rfl,rfl⟩)
     |(go_at_call 168;refine (HF.out _ ((Below.refl _ _).alloc (Nat.le_refl _) _) (ja (jd _ _) rfl)).mono ?_;rintro e w2 ⟨rfl,hb2⟩;have HB2:=lh (((Below.refl _ _).alloc (Nat.le_refl _) _).trans (hb2.mono (by simp)));clear hb2))
    go_ret2
    exact ⟨rfl,HB2.out⟩
 · have e0:valueL L len t n=-1:=by unfold valueL;rw [za ht];rfl
   rw [e0];rw [jct ht] at hk0;have HK:=lh hk0;clear hk0 H e0 ht;go_enter Tryz.func259,Tryz.ntmps259;go_wp2_with (go_at_call 167;refine (HK.out _ ((Below.refl _ _).alloc (Nat.le_refl _) _)).mono ?_;rintro e w' ⟨rfl,rfl⟩)
   go_ret2
   exact ⟨rfl,(Below.refl _ _).alloc (Nat.le_refl _) _⟩
theorem jgt (T:TypeV) (n:Int):(fun j=>(T.items j).num==n&&!(T.items j).rest)=tagB T n:=by
 funext j;unfold tagB;rw [Bool.and_comm]
theorem jb8 {T:TypeV} {n:Int} (h:T.kind=14) (hz:okZ (firstZ (tagB T n) T.ilen)=true):branchZ T n=firstZ (tagB T n) T.ilen∧posZ (branchZ T n)=posZ (firstZ (tagB T n) T.ilen)∧okZ (branchZ T n)=true:=by
 have e:branchZ T n=firstZ (tagB T n) T.ilen:=by
  unfold branchZ firstZ;rw [if_pos h];unfold okZ firstZ at hz
  split at hz
  · rename_i c;rw [if_pos c,if_pos c]
  · simp at hz
 exact ⟨e,by rw [e],by rw [e];exact hz⟩
theorem jgd {T:TypeV} {n:Int} (h:T.kind=14) (hz:okZ (firstZ (tagB T n) T.ilen)=false):branchZ T n=firstZ (fun j=>(T.items j).rest) T.ilen:=by
 unfold branchZ;rw [if_pos h];unfold okZ firstZ at hz
 split at hz
 · simp at hz
 · rename_i c;rw [if_neg c]
theorem jb7 (ao:Option Addr) (len cap:Nat) (L:Nat→TypeV) (t n:Int) (hlen:len≤140737488351232) (w:World) (H:∀ i,i<len→TypeAt w ao i (L i)):
  Calls Tryz.prog 130 #[.slice ao len cap,.int .i64 t,.int .u64 n] w fun e w'=>e=.returned (foundV (branchL L len t n))∧Below w.heap.size w w':=by
 have hmf':=hmf;have hk0:=fun wx (hb:Below w.heap.size w wx)=>zk ao len cap L hlen t wx (hold H hb)
 by_cases ht:0≤t∧t<len
 · obtain ⟨h0,h1⟩:=ht;obtain ⟨k,rfl⟩:=Int.eq_ofNat_of_zero_le h0
   have hk:k<len:=by omega
   have e0:branchL L len (k:Nat) n=branchZ (L k) n:=by unfold branchL;rw [k8 hk];rfl
   rw [e0];rw [jc9 hk] at hk0;have HK:=lh hk0;obtain ⟨b,off,rfl,c0,c1,c2,c3,c4,c5,wf,hi⟩:=H k hk;have hbl:b<w.heap.size:=World.block_lt_of_cell? w _ c0
   have hne:¬b=w.heap.size:=by omega
   have hn1:¬(len:Int)≤k:=by omega
   have hn2:k<len:=hk;clear hk0 H e0
   cases hn:((L k).kind==14) with
   |false=>
    have hn3:((L k).kind !=14)=true:=by simpa using hn
    have e1:branchZ (L k) n=-1:=by unfold branchZ;simp_all
    rw [e1];clear hn;go_enter Tryz.func130,Tryz.ntmps130;go_wp2_with (go_at_call 167;refine (HK.out _ ((Below.refl _ _).alloc (Nat.le_refl _) _)).mono ?_;rintro e w' ⟨rfl,rfl⟩)
    go_ret2
    exact ⟨rfl,(Below.refl _ _).alloc (Nat.le_refl _) _⟩
   |true=>
    have hn3:((L k).kind !=14)=false:=by simpa using hn
    have hkd:(L k).kind=14:=by simpa using hn
    have hf:=fun wx (hb:Below w.heap.size w wx) (hc:wx.cell? ⟨w.heap.size,0,none⟩=some (.int .u64 n))=>
     Zp (L k).ia (L k).ilen (L k).icap (L k).items 170 #[.pointer (some ⟨w.heap.size,0,none⟩)] (fun x=>x.num==n&&!x.rest) hi.1 wx eBranch (ji7 hc) (hi.held hb).2
    have hg:=fun wx (hb:Below w.heap.size w wx)=>
     Zp (L k).ia (L k).ilen (L k).icap (L k).items 171 #[] (fun x=>x.rest) hi.1 wx eRest (jpa wx) (hi.held hb).2
    rw [jgt] at hf;unfold foundV at hf hg ⊢;obtain ⟨o,ho⟩:∃ o,okZ (firstZ (tagB (L k) n) (L k).ilen)=o:=⟨_,rfl⟩;rw [ho] at hf;have HF:=lh hf;have HG:=lh hg;have hcell:=fun (w1:World) (o:Obj) (hb:Below (w.alloc o).heap.size (w.alloc o) w1)=>jk (w:=w.alloc o) (w1:=w1) (a:=⟨b,off+k*6+5,none⟩) hb (jk ((Below.refl _ _).alloc (Nat.le_refl _) _) c5);have HCL:=lh hcell;clear hf hg hi hn hcell
    cases o with
    |true=>
     obtain ⟨_,e2,e3⟩:=jb8 hkd ho;rw [e2,e3];clear hkd ho e2 e3;go_enter Tryz.func130,Tryz.ntmps130
     go_wp2_with (first
      |(go_at_call 167;refine (HK.out _ ((Below.refl _ _).alloc (Nat.le_refl _) _)).mono ?_;rintro e w' ⟨rfl,rfl⟩)
      |(go_at_call 168;refine (HF.out _ ((Below.refl _ _).alloc (Nat.le_refl _) _) (ja (jd _ _) rfl)).mono ?_;rintro e w2 ⟨rfl,hb2⟩;have HB2:=lh (((Below.refl _ _).alloc (Nat.le_refl _) _).trans (hb2.mono (by simp)));clear hb2))
     go_ret2
     exact ⟨rfl,HB2.out⟩
    |false=>
     rw [jgd hkd ho];clear hkd ho;go_enter Tryz.func130,Tryz.ntmps130
     go_wp2_with (first
      |(go_at_call 167;refine (HK.out _ ((Below.refl _ _).alloc (Nat.le_refl _) _)).mono ?_;rintro e w' ⟨rfl,rfl⟩)
      |(go_at_call 168;(with_reducible refine (HF.out _ ((Below.refl _ _).alloc (Nat.le_refl _) _) (ja (jd _ _) rfl)).mono ?_);rintro e w2 ⟨rfl,hb2⟩;have HB2:=lh (((Below.refl _ _).alloc (Nat.le_refl _) _).trans (hb2.mono (by simp)));have c5':=HCL.out _ _ hb2;clear hb2)
      |(go_at_call 168;refine (HG.out _ HB2.out).mono ?_;rintro e w3 ⟨rfl,hb3⟩;have HB3:=lh (HB2.out.trans (hb3.mono HB2.out.size));clear hb3))
     go_ret2
     exact ⟨rfl,HB3.out⟩
 · have e0:branchL L len t n=-1:=by unfold branchL;rw [za ht];rfl
   rw [e0];rw [jct ht] at hk0;have HK:=lh hk0;clear hk0 H e0 ht;go_enter Tryz.func130,Tryz.ntmps130;go_wp2_with (go_at_call 167;refine (HK.out _ ((Below.refl _ _).alloc (Nat.le_refl _) _)).mono ?_;rintro e w' ⟨rfl,rfl⟩)
   go_ret2
   exact ⟨rfl,(Below.refl _ _).alloc (Nat.le_refl _) _⟩
theorem PSt.keep {g:Nat} {T:TypeV} {w0:World} {v:Value} {l:List Int} {w w1:World} (h:PSt g T w0 v l w) (hb:Below w.heap.size w w1):PSt g T w0 v l w1:=
 ⟨ki h.1 hb,(hb.block g (lt_of_block h.2.1)).trans h.2.1,h.2.2.trans (hb.mono (Nat.le_of_lt (lt_of_block h.2.1)))⟩
theorem jjw (T:TypeV) (w:World) (H:ItemsAt w T) (hk:T.kind=11∨T.kind=12):
  Calls Tryz.prog 223 #[typV T] w fun e w'=>∃ v,e=.returned v∧w'.ownsRow w.heap.size 3 1 v (partsL T).length ((partsL T).map (Value.int .i64))∧Below w.heap.size w w':=by
 rw [Yo hk];obtain ⟨hil,hit⟩:=H;obtain ⟨i0,hi,hz0,hz1,hz2⟩:=info_parts infoInt;obtain ⟨ia,hia⟩:∃ ia,T.ia=ia:=⟨_,rfl⟩;rw [hia] at hit;have HI:=lh hit;have hst:=PSt.start T w;unfold typO at hst;rw [hia] at hst;have HS:=lh hst;clear hit hst;unfold typV;rw [hia];have HIA:=lh hia;clear hia
 have k1:ofK T.kind=true:=by simp [ofK];omega
 have k2:(T.kind==14)=false:=by simp;omega
 have k3:tysK T.kind=false:=by simp [tysK];omega
 clear hk;go_enter Tryz.func223,Tryz.ntmps223
 go_upto_region 1 with (fail)
 generalize (w.alloc (.cells #[.int .i64 T.kind,.string T.name,.int .i64 T.bound,.int .i64 T.of,.int .i64 T.tag,.slice ia T.ilen T.icap] 58))=wb at *;obtain ⟨c0,c3,c4,c5,hlt⟩:=HS.out.cells;rw [HIA.out] at c5
 go_wp2_with (first
   |(go_at_call 219;refine (zz _ _).mono ?_;rintro e w' ⟨rfl,rfl⟩)
   |(go_at_call 220;refine (zi _ _).mono ?_;rintro e w' ⟨rfl,rfl⟩)
   |(go_at_call 247;refine (qg _ _).mono ?_;rintro e w' ⟨rfl,rfl⟩)
   |(at_builtin;refine jl rfl (.tmp 9) (.tmp 12) 83 rfl (w.heap.size+1) 3 i0 (.int .i64 0) 1 8 Tryz.underlying83 hi hz0 hz1 hz2 rfl (by decide) _ 0 _ rfl (HS.out.1.alloc _) ⟨_,0,none⟩ 1 1 [.int .i64 T.of] rfl rfl (fun j u hj=>by match j,hj with|0,hj=>(simp at hj;subst hj;simp [Addr.add])) (fun u hu=>by (simp at hu;subst hu;rfl)) (by unfold maxLen;omega) (by omega) (by simp <;> omega) ?_;intro v2 w2 hown2 hg2 hf2;have HS2:=lh (HS.out.next hown2 hg2);obtain ⟨e0,e3,e4,e5,hlt'⟩:=HS2.out.cells;clear hown2 hg2 hf2))
 go_ret;exact ⟨_,rfl,HS2.out.out rfl⟩
theorem jhm (T:TypeV) (w:World) (H:ItemsAt w T) (h1:¬(T.kind=11∨T.kind=12)) (h2:T.kind≠13) (h3:T.kind≠14):
  Calls Tryz.prog 223 #[typV T] w fun e w'=>∃ v,e=.returned v∧w'.ownsRow w.heap.size 3 1 v (partsL T).length ((partsL T).map (Value.int .i64))∧Below w.heap.size w w':=by
 rw [jby h1 h2 h3];obtain ⟨hil,hit⟩:=H;obtain ⟨i0,hi,hz0,hz1,hz2⟩:=info_parts infoInt;obtain ⟨ia,hia⟩:∃ ia,T.ia=ia:=⟨_,rfl⟩;rw [hia] at hit;have HI:=lh hit;have hst:=PSt.start T w;unfold typO at hst;rw [hia] at hst;have HS:=lh hst;clear hit hst;unfold typV;rw [hia];have HIA:=lh hia;clear hia
 have k1:ofK T.kind=false:=by simp [ofK];omega
 have k2:(T.kind==14)=false:=by simp;omega
 have k3:tysK T.kind=false:=by simp [tysK];omega
 clear h1 h2 h3;go_enter Tryz.func223,Tryz.ntmps223
 go_upto_region 1 with (fail)
 generalize (w.alloc (.cells #[.int .i64 T.kind,.string T.name,.int .i64 T.bound,.int .i64 T.of,.int .i64 T.tag,.slice ia T.ilen T.icap] 58))=wb at *;obtain ⟨c0,c3,c4,c5,hlt⟩:=HS.out.cells;rw [HIA.out] at c5
 go_wp2_with (first
   |(go_at_call 219;refine (zz _ _).mono ?_;rintro e w' ⟨rfl,rfl⟩)
   |(go_at_call 220;refine (zi _ _).mono ?_;rintro e w' ⟨rfl,rfl⟩)
   |(go_at_call 247;refine (qg _ _).mono ?_;rintro e w' ⟨rfl,rfl⟩))
 go_ret;exact ⟨_,rfl,HS.out.out rfl⟩
theorem jex (T:TypeV) (w:World) (H:ItemsAt w T) (h13:T.kind=13):
  Calls Tryz.prog 223 #[typV T] w fun e w'=>∃ v,e=.returned v∧w'.ownsRow w.heap.size 3 1 v (partsL T).length ((partsL T).map (Value.int .i64))∧Below w.heap.size w w':=by
 rw [yo h13];obtain ⟨hil,hit⟩:=H;obtain ⟨i0,hi,hz0,hz1,hz2⟩:=info_parts infoInt;obtain ⟨ia,hia⟩:∃ ia,T.ia=ia:=⟨_,rfl⟩;rw [hia] at hit;have HI:=lh hit;have hst:=PSt.start T w;unfold typO at hst;rw [hia] at hst;have HS:=lh hst;clear hit hst;unfold typV;rw [hia];have HIA:=lh hia;clear hia
 have k1:ofK T.kind=false:=by simp [ofK];omega
 have k2:(T.kind==14)=false:=by simp;omega
 have k3:tysK T.kind=true:=by simp [tysK];omega
 clear h13;go_enter Tryz.func223,Tryz.ntmps223
 go_upto_region 1 with (fail)
 generalize (w.alloc (.cells #[.int .i64 T.kind,.string T.name,.int .i64 T.bound,.int .i64 T.of,.int .i64 T.tag,.slice ia T.ilen T.icap] 58))=wb at *;obtain ⟨c0,c3,c4,c5,hlt⟩:=HS.out.cells;rw [HIA.out] at c5
 go_wp2_with (first
    |(go_at_call 219;refine (zz _ _).mono ?_;rintro e w' ⟨rfl,rfl⟩)
    |(go_at_call 220;refine (zi _ _).mono ?_;rintro e w' ⟨rfl,rfl⟩)
    |(go_at_call 247;refine (qg _ _).mono ?_;rintro e w' ⟨rfl,rfl⟩))
 go_loopw [3,28] (fun v i wr=>∃ j:Nat,j≤T.ilen∧i=.int .i64 j∧Hid (PSt w.heap.size T w v ((List.range j).map fun m=>(T.items m).type) wr)) (fun _ i _=>T.ilen - (intOf i).toNat)
 case atStart=>exact ⟨0,Nat.zero_le _,rfl,HS⟩
 case round=>
  obtain ⟨j,hj,rfl,HP⟩:=hrel;have hlt3:=lt_of_block HP.out.2.1
  by_cases hlt2:j<T.ilen
  · have hln:((List.range j).map fun m=>(T.items m).type).length≤3518437208782:=by simp;omega
    have hiat:=(HI.out j hlt2).held (w1:=wr) HP.out.2.2;obtain ⟨b,off,rfl,d0,d1,d2,d3,d4,wi⟩:=hiat;have HT:=lh (Yp T j);have HP2:=lh (HP.out.keep ((Below.refl _ _).alloc (Nat.le_refl _) (itmO (T.items j))));unfold itmO at HP2;obtain ⟨wo,rfl⟩:∃ wo:World,wo=wr:=⟨_,rfl⟩;go_wp2_with (at_builtin;refine jl rfl (.tmp 32) (.tmp 35) 83 rfl (w.heap.size+1) 3 i0 (.int .i64 0) 1 8 Tryz.underlying83 hi hz0 hz1 hz2 rfl (by decide) _ _ _ rfl (HP2.out.1.alloc _) ⟨_,0,none⟩ 1 1 [.int .i64 (T.items j).type] rfl rfl (fun j u hj=>by match j,hj with|0,hj=>(simp at hj;subst hj;simp [Addr.add])) (fun u hu=>by (simp at hu;subst hu;rfl)) (by unfold maxLen;omega) (by omega) (by simp <;> omega) ?_;intro v2 w2 hown2 hg2 hf2;have HQ:=lh (HP2.out.next (x:=(T.items j).type) (by simpa using hown2) hg2);clear hown2 hg2 hf2);go_wp2;go_roundw
    case rel=>exact ⟨j+1,by omega,by go_num,(by rw [HT.out];exact HQ)⟩
    case measure=>simp [intOf];omega
  · obtain rfl:j=T.ilen:=by omega
    go_wp2;go_ret;exact ⟨_,rfl,HP.out.out rfl⟩
theorem jge (T:TypeV) (w:World) (H:ItemsAt w T) (h14:T.kind=14):
  Calls Tryz.prog 223 #[typV T] w fun e w'=>∃ v,e=.returned v∧w'.ownsRow w.heap.size 3 1 v (partsL T).length ((partsL T).map (Value.int .i64))∧Below w.heap.size w w':=by
 rw [qy h14];obtain ⟨hil,hit⟩:=H;obtain ⟨i0,hi,hz0,hz1,hz2⟩:=info_parts infoInt;obtain ⟨ia,hia⟩:∃ ia,T.ia=ia:=⟨_,rfl⟩;rw [hia] at hit;have HI:=lh hit;have hst:=PSt.start T w;unfold typO at hst;rw [hia] at hst;have HS:=lh hst;clear hit hst;unfold typV;rw [hia];have HIA:=lh hia;clear hia
 have k1:ofK T.kind=false:=by simp [ofK];omega
 have k2:(T.kind==14)=true:=by simp;omega
 have k3:tysK T.kind=true:=by simp [tysK];omega
 clear h14;go_enter Tryz.func223,Tryz.ntmps223
 go_upto_region 1 with (fail)
 generalize (w.alloc (.cells #[.int .i64 T.kind,.string T.name,.int .i64 T.bound,.int .i64 T.of,.int .i64 T.tag,.slice ia T.ilen T.icap] 58))=wb at *;obtain ⟨c0,c3,c4,c5,hlt⟩:=HS.out.cells;rw [HIA.out] at c5
 go_wp2_with (first
    |(go_at_call 219;refine (zz _ _).mono ?_;rintro e w' ⟨rfl,rfl⟩)
    |(go_at_call 220;refine (zi _ _).mono ?_;rintro e w' ⟨rfl,rfl⟩)
    |(go_at_call 247;refine (qg _ _).mono ?_;rintro e w' ⟨rfl,rfl⟩)
    |(at_builtin;refine jl rfl (.tmp 17) (.tmp 20) 83 rfl (w.heap.size+1) 3 i0 (.int .i64 0) 1 8 Tryz.underlying83 hi hz0 hz1 hz2 rfl (by decide) _ 0 _ rfl (HS.out.1.alloc _) ⟨_,0,none⟩ 1 1 [.int .i64 T.tag] rfl rfl (fun j u hj=>by match j,hj with|0,hj=>(simp at hj;subst hj;simp [Addr.add])) (fun u hu=>by (simp at hu;subst hu;rfl)) (by unfold maxLen;omega) (by omega) (by simp <;> omega) ?_;intro v2 w2 hown2 hg2 hf2;have HS2:=lh (HS.out.next hown2 hg2);obtain ⟨e0,e3,e4,e5,hlt'⟩:=HS2.out.cells;rw [HIA.out] at e5;clear hown2 hg2 hf2))
 go_loopw [3,28] (fun v i wr=>∃ j:Nat,j≤T.ilen∧i=.int .i64 j∧Hid (PSt w.heap.size T w v (T.tag::(List.range j).map fun m=>(T.items m).type) wr)) (fun _ i _=>T.ilen - (intOf i).toNat)
 case atStart=>exact ⟨0,Nat.zero_le _,rfl,HS2⟩
 case round=>
  obtain ⟨j,hj,rfl,HP⟩:=hrel;have hlt3:=lt_of_block HP.out.2.1
  by_cases hlt2:j<T.ilen
  · have hln:(T.tag::(List.range j).map fun m=>(T.items m).type).length≤3518437208782:=by simp;omega
    have hiat:=(HI.out j hlt2).held (w1:=wr) HP.out.2.2;obtain ⟨b,off,rfl,d0,d1,d2,d3,d4,wi⟩:=hiat;have HT:=lh (Yp T j);have HP2:=lh (HP.out.keep ((Below.refl _ _).alloc (Nat.le_refl _) (itmO (T.items j))));unfold itmO at HP2;obtain ⟨wo,rfl⟩:∃ wo:World,wo=wr:=⟨_,rfl⟩;go_wp2_with (at_builtin;refine jl rfl (.tmp 32) (.tmp 35) 83 rfl (w.heap.size+1) 3 i0 (.int .i64 0) 1 8 Tryz.underlying83 hi hz0 hz1 hz2 rfl (by decide) _ _ _ rfl (HP2.out.1.alloc _) ⟨_,0,none⟩ 1 1 [.int .i64 (T.items j).type] rfl rfl (fun j u hj=>by match j,hj with|0,hj=>(simp at hj;subst hj;simp [Addr.add])) (fun u hu=>by (simp at hu;subst hu;rfl)) (by unfold maxLen;omega) (by omega) (by simp <;> omega) ?_;intro v2 w2 hown2 hg2 hf2;have HQ:=lh (HP2.out.next (x:=(T.items j).type) (by simpa using hown2) hg2);clear hown2 hg2 hf2);go_wp2;go_roundw
    case rel=>exact ⟨j+1,by omega,by go_num,(by rw [HT.out];exact HQ)⟩
    case measure=>simp [intOf];omega
  · obtain rfl:j=T.ilen:=by omega
    go_wp2;go_ret;exact ⟨_,rfl,HP.out.out rfl⟩
theorem jd2 (T:TypeV) (w:World) (H:ItemsAt w T):
  Calls Tryz.prog 223 #[typV T] w fun e w'=>∃ v,e=.returned v∧w'.ownsRow w.heap.size 3 1 v (partsL T).length ((partsL T).map (Value.int .i64))∧Below w.heap.size w w':=by
 by_cases h1:T.kind=11∨T.kind=12
 · exact jjw T w H h1
 · by_cases h3:T.kind=13
   · exact jex T w H h3
   · by_cases h4:T.kind=14
     · exact jge T w H h4
     · exact jhm T w H h1 h3 h4
def mostStep (D:Nat→Nat) (t:Nat) (acc:Nat) (p:Int):Nat:=if 0≤p∧p<t then max acc (D p.toNat) else acc
theorem jf0 (D:Nat→Nat) (t:Nat):∀ (l:List Int) (a:Nat),l.foldl (deepStep D t) (a+1)=l.foldl (mostStep D t) a+1
 | [],_=>rfl
 |p::l,a=>by
  rw [List.foldl_cons,List.foldl_cons,show deepStep D t (a+1) p=mostStep D t a p+1 by unfold deepStep mostStep;split <;> omega];exact jf0 D t l _
theorem jns {D:Nat→Nat} {t:Nat} (l:List Int) (j:Nat) (hj:j<l.length):(l.take (j+1)).foldl (mostStep D t) 0=mostStep D t ((l.take j).foldl (mostStep D t) 0) (l.getD j 0):=by
 rw [List.take_succ_eq_append_getElem hj,List.foldl_append,List.getD_eq_getElem?_getD,List.getElem?_eq_getElem hj];rfl
def depL (D:Nat→Nat) (n i:Nat):List Int:=(List.range n).map fun k=>if k<i then (D k:Int) else 0
theorem jo2 (D:Nat→Nat) (n:Nat):(depL D n 0).map (Value.int .i64)=List.replicate n (.int .i64 0):=by
 unfold depL;rw [List.map_map];refine List.ext_getElem (by simp) fun j h1 h2=>?_;simp
theorem jhq {D:Nat→Nat} {n i k:Nat} (hk:k<n) (hi:k<i):(depL D n i).getD k 0=(D k:Int):=by
 unfold depL;rw [List.getD_eq_getElem?_getD,List.getElem?_map,List.getElem?_range hk];simp [hi]
theorem jpt {D:Nat→Nat} {n i:Nat}:(depL D n i).set i (D i:Int)=depL D n (i+1):=by
 unfold depL;refine List.ext_getElem (by simp) fun j h1 h2=>?_;rw [List.getElem_set];simp only [List.getElem_map,List.getElem_range]
 by_cases h:i=j
 · subst h;rw [if_pos rfl,if_pos (Nat.lt_succ_self _)]
 · rw [if_neg h]
   by_cases c:j<i
   · rw [if_pos c,if_pos (by omega)]
   · rw [if_neg c,if_neg (by omega)]
theorem jni {w:World} {base g n cap:Nat} {l:List Int} (h:w.ownsRow base 3 1 (.slice (some ⟨g,0,none⟩) n cap) n (l.map (Value.int .i64))) (j:Nat) (b:Int):(w.setCell ⟨g,j,none⟩ (.int .i64 b)).ownsRow base 3 1 (.slice (some ⟨g,0,none⟩) n cap) n ((l.set j b).map (Value.int .i64)):=by
 have:=(h.stored j (.int .i64 b)).1
 rwa [←List.map_set] at this
theorem jot (ao:Option Addr) (len cap:Nat) (L:Nat→TypeV) (hlen:len≤1000000) (t:Int) (w:World) (H:∀ i,i<len→TypeAt w ao i (L i)):
  Calls Tryz.prog 225 #[.slice ao len cap,.int .i64 t] w fun e w'=>e=.returned (.int .i64 (deepL L len t))∧Below w.heap.size w w':=by
 have hi0:=jdr ao len cap (by omega) t
 by_cases ht:0≤t∧t<len
 · obtain ⟨h0,h1⟩:=ht;obtain ⟨T,rfl⟩:=Int.eq_ofNat_of_zero_le h0
   have hT:T<len:=by omega
   have e0:deepL L len (T:Nat)=(deepN L T:Nat):=by unfold deepL;rw [k8 hT];rfl
   rw [e0];rw [k8 hT] at hi0;have HIN:=lh hi0;have HH:=lh H;obtain ⟨i0,hi,hz0,hz1,hz2⟩:=info_parts infoInt;obtain ⟨n,hn⟩:∃ n,T+1=n:=⟨_,rfl⟩;have HDB:=lh (fun k (hk:k<n)=>jec L (k+1) k (Nat.lt_succ_self k));clear hi0 e0 H;go_enter Tryz.func225,Tryz.ntmps225
   go_wp2_with (first
    |(go_at_call 201;refine (HIN.out _).mono ?_;rintro e w' ⟨rfl,rfl⟩)
    |(refine wpList_make_full _ rfl (.tmp 15) (.tmp 15) 83 rfl w.heap.size 3 i0 (.int .i64 0) 1 Tryz.underlying83 hi hz0 hz1 .i64 .i64 _ _ n rfl rfl (by omega) (by omega) (by rw [hz2];omega) (by unfold maxLen;omega) (Nat.le_refl _) ?_))
   intro w1 hown hg
   have hown':w1.ownsRow w.heap.size 3 1 (.slice (some ⟨w.heap.size,0,none⟩) n n) n ((depL (deepN L) n 0).map (Value.int .i64)):=by
    rw [jo2];have e:(madeCells #[Value.int .i64 0] n).toList=List.replicate n (.int .i64 0):=toList_madeCells_one _ _;rw [←e];simpa using hown
   have HB:=lh ((Below.refl w.heap.size w).grown hg (Nat.le_refl _) (fun k hk=>by cases hk));have HO:=lh hown';clear hown hg hown';go_wp2
   go_loopw [19] (fun i wr=>∃ k:Nat,k≤n∧i=.int .i64 k∧Hid (wr.ownsRow w.heap.size 3 1 (.slice (some ⟨w.heap.size,0,none⟩) n n) n ((depL (deepN L) n k).map (Value.int .i64)))∧Hid (Below w.heap.size w wr)) (fun i _=>n - (intOf i).toNat)
   case atStart=>exact ⟨0,Nat.zero_le _,rfl,HO,HB⟩
   case round=>
    obtain ⟨k,hk,rfl,HR,HBr⟩:=hrel
    by_cases hlt:k<n
    · have hkl:k<len:=by omega
      obtain ⟨b,off,rfl,c0,c1,c2,c3,c4,c5,wf,hit⟩:=(HH.out k hkl).held (w1:=wr) HBr.out;have hll:=Yh hit.1;have hcall:=jd2 (L k) wr hit;obtain ⟨l,hl⟩:∃ l,partsL (L k)=l:=⟨_,rfl⟩;have HE:=lh (show deepN L k=l.foldl (mostStep (deepN L) k) 0+1 by rw [X0,hl];exact jf0 _ _ l 0);rw [hl] at hcall hll;unfold typV at hcall;have HC:=lh hcall;clear hcall hl hit;obtain ⟨wo,rfl⟩:∃ wo:World,wo=wr:=⟨_,rfl⟩
      go_upto_region 9 with (go_at_call 223;refine (HC.out).mono ?_;rintro e w2 ⟨v,rfl,hown,hb2⟩;obtain ⟨va,vc,rfl,hva⟩:=Xt hown;have HR2:=lh (ki HR.out hb2);have HB2:=lh (HBr.out.trans (hb2.mono HBr.out.size));have HV:=lh hva;have HO2:=lh hown;clear hown hva hb2)
      go_loopw [7,28] (fun q i wr=>∃ (j m:Nat),j≤l.length∧i=.int .i64 j∧q=.int .i64 m∧Hid ((l.take j).foldl (mostStep (deepN L) k) 0=m)∧m≤k∧wr=w2) (fun _ i _=>l.length - (intOf i).toNat)
      case atStart=>exact ⟨0,0,Nat.zero_le _,rfl,rfl,lh rfl,by omega,rfl⟩
      case round=>
       obtain ⟨j,m,hj,rfl,rfl,HM,hm,rfl⟩:=hrel
       by_cases hjl:j<l.length
       · obtain ⟨g',rfl⟩:=HV.out (by omega);have c:=zr HO2.out j hjl;obtain ⟨p,hp⟩:∃ p,l.getD j 0=p:=⟨_,rfl⟩;rw [hp] at c;have hnx:=jns (D:=deepN L) (t:=k) l j hjl;rw [HM.out,hp] at hnx
         by_cases hin:0≤p∧p<k
         · obtain ⟨hp0,hpt⟩:=hin;obtain ⟨y,rfl⟩:=Int.eq_ofNat_of_zero_le hp0
           have hyk:y<k:=by omega
           have hst:mostStep (deepN L) k m (y:Nat)=max m (deepN L y):=by unfold mostStep;rw [if_pos ⟨hp0,hpt⟩];rfl
           rw [hst] at hnx;have hdk:=HDB.out y (by omega);have cy:=zr HR2.out y (by omega);rw [jhq (by omega) hyk] at cy;obtain ⟨d,hd⟩:∃ d,deepN L y=d:=⟨_,rfl⟩;rw [hd] at cy hnx hdk;have HN:=lh hnx
           have tp:decide ((y:Int)<k)=true:=by simp;omega
           have tq:decide (0≤(y:Int))=true:=by simp
           have tp2:decide (y<k)=true:=by simpa using hyk
           have tn:y<n:=by omega
           clear hnx hst hp hp0 hd
           by_cases hmd:m≤d
           · have HN2:=lh (HN.out.trans (Nat.max_eq_right hmd));go_wp2
             all_goals
              go_roundw
              case rel=>exact ⟨j+1,d,by omega,by go_num,by go_num,HN2,by omega,by first|rfl|trivial⟩
              case measure=>simp [intOf];omega
           · have HN2:=lh (HN.out.trans (Nat.max_eq_left (by omega)));go_wp2
             all_goals
              go_roundw
              case rel=>exact ⟨j+1,m,by omega,by go_num,by go_num,HN2,by omega,by first|rfl|trivial⟩
              case measure=>simp [intOf];omega
         · have hst:mostStep (deepN L) k m p=m:=by unfold mostStep;rw [if_neg hin]
           rw [hst] at hnx;have HN:=lh hnx;clear hnx hst hp
           by_cases hp0:0≤p
           · have tq:decide (0≤p)=true:=by simpa using hp0
             have tp:decide (p<(k:Int))=false:=by simp;omega
             clear hin;go_wp2;go_roundw
             case rel=>exact ⟨j+1,m,by omega,by go_num,rfl,HN,hm,by first|rfl|trivial⟩
             case measure=>simp [intOf];omega
           · have tq:decide (0≤p)=false:=by simp;omega
             clear hin;go_wp2;go_roundw
             case rel=>exact ⟨j+1,m,by omega,by go_num,rfl,HN,hm,by first|rfl|trivial⟩
             case measure=>simp [intOf];omega
       · obtain rfl:j=l.length:=by omega
         have HD:=lh (show deepN L k=m+1 by rw [HE.out,←HM.out,List.take_length]);have f0:=HR2.out.frozenAt k;have HS:=lh (jni HR2.out k ((m:Int)+1));have HS2:=lh (show (depL (deepN L) n k).set k ((m:Int)+1)=depL (deepN L) n (k+1) by rw [←jpt,HD.out];rfl);have ck:=zr HR2.out k hlt;go_wp2;go_roundw
         case rel=>exact ⟨k+1,by omega,by go_num,lh (by rw [←HS2.out];exact HS.out),lh (HB2.out.setCell (Nat.le_refl _) _)⟩
         case measure=>simp [intOf];omega
    · obtain rfl:k=n:=by omega
      have cT:=zr HR.out T (by omega);rw [jhq (by omega) (by omega)] at cT;go_wp2;go_ret;exact ⟨rfl,HBr.out⟩
 · have e0:deepL L len t=0:=by unfold deepL;rw [za ht];rfl
   rw [e0];rw [za ht] at hi0;have HI:=lh hi0;clear hi0 e0 H ht;go_enter Tryz.func225,Tryz.ntmps225;go_wp2_with (go_at_call 201;refine (HI.out _).mono ?_;rintro e w' ⟨rfl,rfl⟩);go_ret;exact ⟨rfl,Below.refl _ _⟩
end Go.Proofs.YthcompcjphaahaaGreatDoor.Pa
