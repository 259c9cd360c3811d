/- Contracts of chapter 4's reference: Letter, Digit, formed, Lead, Find, Word, Name, Twice. -/
import Derived.LoopTactic
import Derived.Handy
import Derived.OpenShut
import Derived.Test.YthcompcjphaahaaGreatDoorh01
import Derived.Test.YthcompcjphaahaaGreatDoorh03
set_option maxRecDepth 100000
set_option maxHeartbeats 8000000
set_option linter.unusedVariables false
namespace Go.Proofs.YthcompcjphaahaaGreatDoor
open Go.RowKit
theorem Y1 {w w1 w2:World} (h:Below w.heap.size w w1) (k:Below w1.heap.size w1 w2):Below w.heap.size w w2:=h.trans (k.mono h.size)
def StrAt (w:World) (ao:Option Addr) (i:Nat) (s:ByteArray):Prop:=∃ b off,ao=some ⟨b,off,none⟩∧w.cell? ⟨b,off+i,none⟩=some (.string s)∧s.size≤140737488351232
theorem qk {a b:Bool} (h:a=b):Ending.returned (.bool a)=.returned (.bool b):=by rw [h]
theorem qz (c:Nat) (hc:c<256) (w:World):Calls Tryz.prog 138 #[.int .u8 c] w fun e w'=>e=.returned (.bool (isL c))∧w=w':=by
 go_enter Tryz.func138,Tryz.ntmps138;go_wp2
 all_goals
  go_ret;refine ⟨qk ?_,rfl⟩;rw [Bool.eq_iff_iff];simp [isL];omega
theorem Yt (c:Nat) (hc:c<256) (w:World):Calls Tryz.prog 139 #[.int .u8 c] w fun e w'=>e=.returned (.bool (isD c))∧w=w':=by
 go_enter Tryz.func139,Tryz.ntmps139;go_wp2
 all_goals
  go_ret;refine ⟨qk ?_,rfl⟩;rw [Bool.eq_iff_iff];simp [isD];omega
theorem jqk {s:ByteArray} (h:s.size=0):s=⟨#[]⟩:=by
 obtain ⟨a⟩:=s
 have:a.size=0:=h
 rw [Array.size_eq_zero_iff] at this;rw [this]
theorem jhv {s:ByteArray} (h:0<s.size):s.toList.isEmpty=false:=by
 rw [ByteArray.toList_eq]
 cases he:s.data.toList.isEmpty with
 |false=>rfl
 |true=>
  rw [List.isEmpty_iff] at he
  have h2:s.data.toList.length=0:=by rw [he];rfl
  have h3:s.data.toList.length=s.size:=by simp
  omega
theorem jtc (c:Nat):(!((c:Int) !=95))=(c==95):=by
 rw [Bool.eq_iff_iff];simp;omega
theorem jga (s:ByteArray) (h:0<s.size):badAt s 0=!isL (s[0]'h).toNat:=by unfold badAt okAt;rw [if_pos rfl,ya s 0 h]
theorem juz (s:ByteArray) (k:Nat) (h:k<s.size) (h0:badAt s 0=false):badAt s k=!(isL (s[k]'h).toNat||isD (s[k]'h).toNat||(s[k]'h).toNat==95):=by
 by_cases hk:k=0
 · subst hk;rw [h0];rw [jga s h] at h0;simp at h0;simp [h0]
 · unfold badAt okAt;rw [if_neg hk,ya s k h]
theorem ja8 {s:ByteArray} {k:Nat} (h:∀ j,j<k→badAt s j=false) (hk:k<s.size) (hb:badAt s k=true):formedS s=false:=by
 unfold formedS leadN;rw [qr h hk hb];simp;omega
theorem jdh {s:ByteArray} (h0:0<s.size) (h:∀ j,j<s.size→badAt s j=false):formedS s=true:=by
 unfold formedS leadN;rw [kp h];simp [h0]
theorem Z3 (s:ByteArray) (hs:s.size≤281474976710656) (w:World):Calls Tryz.prog 109 #[.string s] w fun e w'=>e=.returned (.bool (formedS s))∧w=w':=by
 by_cases h0:0<s.size
 · have hne:=jhv h0;have HB:=lh (jga s h0)
   cases hl0:isL (s[0]'h0).toNat with
   |false=>
    go_enter Tryz.func109,Tryz.ntmps109;go_wp2_with (go_at_call 138;refine (qz _ (UInt8.toNat_lt _) _).mono ?_;rintro e w1 ⟨rfl,rfl⟩);go_ret;refine ⟨qk (Eq.symm ?_),rfl⟩;exact ja8 (k:=0) (fun j hj=>by omega) h0 (by rw [HB.out,hl0];rfl)
   |true=>
    have HZ:=lh (show badAt s 0=false by rw [HB.out,hl0];rfl);go_enter Tryz.func109,Tryz.ntmps109;go_wp2_with (go_at_call 138;refine (qz _ (UInt8.toNat_lt _) _).mono ?_;rintro e w1 ⟨rfl,rfl⟩)
    go_loopw [3] (fun i wr=>∃ k:Nat,k≤s.size∧i=.int .i64 k∧Hid (∀ j,j<k→badAt s j=false)∧wr=w) (fun i _=>s.size - (intOf i).toNat)
    case atStart=>exact ⟨0,by omega,rfl,lh fun j hj=>by omega,rfl⟩
    case round=>
     obtain ⟨k,hk,rfl,H,rfl⟩:=hrel
     by_cases hlt:k<s.size
     · have HK:=lh (juz s k hlt HZ.out)
       cases hl:isL (s[k]'hlt).toNat with
       |true=>
        go_wp2_with (go_at_call 138;refine (qz _ (UInt8.toNat_lt _) _).mono ?_;rintro e w1 ⟨rfl,rfl⟩);go_roundw
        case measure=>simp [intOf];omega
        case rel=>exact ⟨k+1,by omega,by go_num,lh (ji H.out (by rw [HK.out,hl];rfl)),by first|rfl|trivial⟩
       |false=>
        cases hd:isD (s[k]'hlt).toNat with
        |true=>
         go_wp2_with (first|(go_at_call 138;refine (qz _ (UInt8.toNat_lt _) _).mono ?_;rintro e w1 ⟨rfl,rfl⟩)|(go_at_call 139;refine (Yt _ (UInt8.toNat_lt _) _).mono ?_;rintro e w1 ⟨rfl,rfl⟩));go_roundw
         case measure=>simp [intOf];omega
         case rel=>exact ⟨k+1,by omega,by go_num,lh (ji H.out (by rw [HK.out,hl,hd];rfl)),by first|rfl|trivial⟩
        |false=>
         have HQ:=lh (jtc (s[k]'hlt).toNat)
         cases h95:((((s[k]'hlt).toNat:Nat):Int) !=95) with
         |false=>
          have HR:=lh (HK.out.trans (by rw [hl,hd,←HQ.out,h95];rfl:_=false));go_wp2_with (first|(go_at_call 138;refine (qz _ (UInt8.toNat_lt _) _).mono ?_;rintro e w1 ⟨rfl,rfl⟩)|(go_at_call 139;refine (Yt _ (UInt8.toNat_lt _) _).mono ?_;rintro e w1 ⟨rfl,rfl⟩));go_roundw
          case measure=>simp [intOf];omega
          case rel=>exact ⟨k+1,by omega,by go_num,lh (ji H.out HR.out),by first|rfl|trivial⟩
         |true=>
          have HR:=lh (HK.out.trans (by rw [hl,hd,←HQ.out,h95];rfl:_=true));go_wp2_with (first|(go_at_call 138;refine (qz _ (UInt8.toNat_lt _) _).mono ?_;rintro e w1 ⟨rfl,rfl⟩)|(go_at_call 139;refine (Yt _ (UInt8.toNat_lt _) _).mono ?_;rintro e w1 ⟨rfl,rfl⟩));go_ret;exact ⟨qk (ja8 H.out hlt HR.out).symm,rfl⟩
     · go_wp2;go_ret
       have hks:k=s.size:=by omega
       subst hks;exact ⟨qk (jdh h0 H.out).symm,rfl⟩
 · have he:=jqk (show s.size=0 by omega);subst he;go_enter Tryz.func109,Tryz.ntmps109;go_wp2;go_ret;exact ⟨qk (by decide),rfl⟩
theorem jlr {s:ByteArray} {n:Nat} (h:∀ j,j<n→badAt s j=false) (hn:n<s.size) (hb:badAt s n=true):leadN s=n:=qr h hn hb
theorem jjd {s:ByteArray} (h:∀ j,j<s.size→badAt s j=false):leadN s=s.size:=kp h
theorem ji4 (s:ByteArray) (n i:Nat) (hi:i<n):charAt (s.extract 0 n) i=charAt s i:=by
 unfold charAt
 congr 1
 rw [List.getD_eq_getElem?_getD,List.getD_eq_getElem?_getD]
 congr 1
 simp [hi]
theorem jiy (s:ByteArray) (n:Nat) (hn:n<s.size) (h:∀ j,j<n→badAt s j=false):formedS (s.extract 0 (n+1))=!badAt s n:=by
 have hz:(s.extract 0 (n+1)).size=n+1:=by simp;omega
 have hb:∀ j,j<n+1→badAt (s.extract 0 (n+1)) j=badAt s j:=fun j hj=>by unfold badAt;rw [ji4 s (n+1) j hj]
 cases hc:badAt s n with
 |true=>exact ja8 (k:=n) (fun j hj=>by rw [hb j (by omega)];exact h j hj) (by omega) (by rw [hb n (by omega)];exact hc)
 |false=>exact jdh (by omega) (fun j hj=>by rw [hb j (by omega)];exact ji h hc j (by omega))
theorem jdz (s:ByteArray) (n:Nat) (hs:s.size≤281474976710656) (hn:n<s.size) (h:∀ j,j<n→badAt s j=false) (w:World):Calls Tryz.prog 109 #[.string (s.extract 0 (n+1))] w fun e w'=>e=.returned (.bool (!badAt s n))∧w=w':=by
 have:=Z3 (s.extract 0 (n+1)) (by simp;omega) w
 rwa [jiy s n hn h] at this
theorem Y6 (s:ByteArray) (hs:s.size≤281474976710656) (w:World):Calls Tryz.prog 101 #[.string s] w fun e w'=>e=.returned (.int .i64 (leadN s:Nat))∧w=w':=by
 go_enter Tryz.func101,Tryz.ntmps101;go_wp2
 go_loopw [3] (fun i wr=>∃ k:Nat,k≤s.size∧i=.int .i64 k∧Hid (∀ j,j<k→badAt s j=false)∧wr=w) (fun i _=>s.size - (intOf i).toNat)
 case atStart=>exact ⟨0,by omega,rfl,lh fun j hj=>by omega,rfl⟩
 case round=>
  obtain ⟨k,hk,rfl,H,rfl⟩:=hrel
  by_cases hlt:k<s.size
  · have hf:=jdz s k hs hlt H.out
    cases hb:badAt s k with
    |false=>
     rw [hb] at hf;have HF:=lh hf;clear hf;go_wp2_with (go_at_call 109;refine (HF.out _).mono ?_;rintro e w1 ⟨rfl,rfl⟩);go_roundw
     case measure=>simp [intOf];omega
     case rel=>exact ⟨k+1,by omega,by go_num,lh (ji H.out hb),by first|rfl|trivial⟩
    |true=>
     rw [hb] at hf;have HF:=lh hf;clear hf;go_wp2_with (go_at_call 109;refine (HF.out _).mono ?_;rintro e w1 ⟨rfl,rfl⟩);go_ret;exact ⟨(by rw [jlr H.out hlt hb];rfl),rfl⟩
  · go_wp2;go_ret
    have hks:k=s.size:=by omega
    subst hks;exact ⟨(by rw [jjd H.out];rfl),rfl⟩
theorem jif (ao:Option Addr) (len cap:Nat) (L:Nat→ByteArray) (s:ByteArray) (hlen:len≤281474976710656) (w:World) (H:∀ i,i<len→StrAt w ao i (L i)):Calls Tryz.prog 140 #[.slice ao len cap,.string s] w fun e w'=>e=.returned (.int .i64 (findZ L s len))∧w=w':=by
 have HH:=lh H;clear H;go_enter Tryz.func140,Tryz.ntmps140;go_wp2
 go_loopw [5] (fun i wr=>∃ k:Nat,k≤len∧i=.int .i64 k∧Hid (∀ j,j<k→((L j).toList==s.toList)=false)∧wr=w) (fun i _=>len - (intOf i).toNat)
 case atStart=>exact ⟨0,by omega,rfl,lh fun j hj=>by omega,rfl⟩
 case round=>
  obtain ⟨k,hk,rfl,H,rfl⟩:=hrel
  by_cases hlt:k<len
  · obtain ⟨b,off,rfl,hcell,hsz⟩:=HH.out k hlt
    cases hq:((L k).toList==s.toList) with
    |false=>
     have HN:=lh (ji (p:=fun j=>(L j).toList==s.toList) H.out hq);go_wp2
     all_goals go_roundw
     case measure=>simp [intOf];omega
     case rel=>exact ⟨k+1,by omega,by go_num,HN,by first|rfl|trivial⟩
    |true=>
     have HN:=lh (show findZ L s len=(k:Nat) from ys (p:=fun j=>(L j).toList==s.toList) H.out hlt hq);go_wp2;go_ret;exact ⟨(by rw [HN.out];rfl),rfl⟩
  · have HN:=lh (show findZ L s len=-1 from yd (p:=fun j=>(L j).toList==s.toList) (fun j hj=>H.out j (by omega)));go_wp2;go_ret;exact ⟨(by rw [HN.out];rfl),rfl⟩
def wordsObj:Obj:=.cells #[.string ⟨#[65,78,68]⟩,.string ⟨#[79,82]⟩,.string ⟨#[78,79,84]⟩,.string ⟨#[66,69,84,87,69,69,78]⟩,.string ⟨#[76,73,75,69]⟩,.string ⟨#[84,82,85,69]⟩,.string ⟨#[70,65,76,83,69]⟩] 9
theorem jrm (w:World) (i:Nat) (hi:i<7):StrAt (w.alloc wordsObj) (some ⟨w.heap.size,0,none⟩) i (wordAt i):=by
 have hb:=jd w wordsObj;refine ⟨_,0,rfl,?_,?_⟩
 · rw [Nat.zero_add]
   have hj:i=0∨i=1∨i=2∨i=3∨i=4∨i=5∨i=6:=by omega
   unfold World.cell?;rw [hb]
   rcases hj with rfl|rfl|rfl|rfl|rfl|rfl|rfl <;> rfl
 · have hj:i=0∨i=1∨i=2∨i=3∨i=4∨i=5∨i=6:=by omega
   rcases hj with rfl|rfl|rfl|rfl|rfl|rfl|rfl <;> decide
theorem jg7 (s:ByteArray) (w:World):Calls Tryz.prog 140 #[.slice (some ⟨w.heap.size,0,none⟩) 7 7,.string s] (w.alloc wordsObj) fun e w'=>e=.returned (.int .i64 (findZ wordAt s 7))∧w.alloc wordsObj=w':=
 jif _ 7 7 wordAt s (by decide) _ (jrm w)
theorem jiw (s:ByteArray) (w:World):Calls Tryz.prog 110 #[.string s] w fun e w'=>e=.returned (.bool (wordS s))∧Below w.heap.size w w':=by
 have HW:=lh (jk2 s);go_enter Tryz.func110,Tryz.ntmps110;go_wp2_with (go_at_call 140;refine (jg7 s w).mono ?_;rintro e w1 ⟨rfl,rfl⟩);go_ret;exact ⟨qk HW.out,(Below.refl _ _).alloc (Nat.le_refl _) _⟩
theorem Y5 (s:ByteArray) (hs:s.size≤281474976710656) (w:World):Calls Tryz.prog 73 #[.string s] w fun e w'=>e=.returned (.bool (nameS s))∧Below w.heap.size w w':=by
 have hr:=Below.refl w.heap.size w;have HE:=lh (show nameS s=(formedS s&&decide (s.size≤16)&&!wordS s) from rfl);go_enter Tryz.func73,Tryz.ntmps73
 go_wp2_with (first
  |(go_at_call 109;refine (Z3 s hs _).mono ?_;rintro e w1 ⟨rfl,rfl⟩)
  |(go_at_call 110;refine (jiw s _).mono ?_;rintro e w1 ⟨rfl,hb⟩;have hr:=Y1 hr hb;clear hb))
 all_goals
  go_ret;refine ⟨qk ?_,hr⟩;rw [HE.out];simp [*];try (intros;omega)
end Go.Proofs.YthcompcjphaahaaGreatDoor
