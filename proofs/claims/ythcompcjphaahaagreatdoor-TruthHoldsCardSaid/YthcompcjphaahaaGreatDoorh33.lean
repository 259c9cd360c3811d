/- Contracts of chapter 8's reference: digits, figures, quotes. -/
import Derived.Lib.Builder
import Derived.Lib.OthersKept
import Derived.Lib.UnsafeStr
import Derived.Laws.Externs
import Derived.Lib.AppendIntMem
import Derived.Laws.IdiomStrings
import Derived.Shelf.Abstract
import Derived.Test.YthcompcjphaahaaGreatDoorh07
import Derived.Test.YthcompcjphaahaaGreatDoorh22
set_option maxRecDepth 100000
set_option maxHeartbeats 8000000
set_option linter.unusedVariables false
namespace Go.Proofs.YthcompcjphaahaaGreatDoor.Pa
open Go.RowKit
theorem jm9 (a b:List UInt8):(⟨a.toArray⟩:ByteArray)++⟨b.toArray⟩=⟨(a++b).toArray⟩:=by
 apply ByteArray.ext
 simp
def bs (l:List UInt8):ByteArray:=⟨l.toArray⟩
theorem joi (a b:List UInt8):bs a++bs b=bs (a++b):=jm9 a b
theorem jy (l:List UInt8):(bs l).size=l.length:=by simp [bs,ByteArray.size]
theorem jun (w:World) (n:Int) (h0:0≤n) (h1:n≤255):(convert 230 9 (.slice (some ⟨w.heap.size,0,none⟩) 1 1)).run Tryz.prog (w.alloc (.cells #[.int .u8 n] 5))=.ok (.string ⟨[UInt8.ofNat n.toNat].toArray⟩) (w.alloc (.cells #[.int .u8 n] 5)):=by
 have h:=run_convert_bytes_back (P:=Tryz.prog) (w.alloc (.cells #[.int .u8 n] 5)) 230 9 5 ⟨w.heap.size,0,none⟩ 1 [UInt8.ofNat n.toNat] Tryz.underlying230 Tryz.underlying5 Tryz.underlying9 (fun j hj=>by
  obtain rfl:j=0:=by simpa using hj
  rw [Xr]
  have e:((UInt8.ofNat n.toNat).toNat:Int)=n:=by
   rw [UInt8.toNat_ofNat'];omega
  show _=some (Value.int .u8 ((UInt8.ofNat n.toNat).toNat:Int))
  rw [e]
  exact ja (jd w _) rfl)
 exact h
theorem jr7 (n:Int) (w:World) (h0:0≤n) (h1:n≤255):Calls Tryz.prog 176 #[.int .i64 n] w fun e w'=>e=.returned (.string (bs [UInt8.ofNat n.toNat]))∧Below w.heap.size w w':=by
 have hcv:=jun w n h0 h1;go_enter Tryz.func176,Tryz.ntmps176;go_wp2;go_ret;exact ⟨rfl,(Below.refl _ _).alloc (Nat.le_refl _) _⟩
theorem je8 (N:Nat) (hN:N<18446744073709551616) (w:World):
  Calls Tryz.prog 137 #[.int .u64 (N:Nat)] w fun e w'=>e=.returned (.string (bs (Lib.decDigits N)))∧Below w.heap.size w w':=by
 have hdl:=jta N hN;have hsz:=jy;obtain ⟨D,hD⟩:∃ D,Lib.decDigits N=D:=⟨_,rfl⟩;have HD:=lh hD;rw [hD] at hdl;rw [hD];clear hD;go_enter Tryz.func137,Tryz.ntmps137;go_wp2
 go_loopw [0,3] (fun n s wr=>∃ (m:Nat) (l:List UInt8),n=.int .u64 (m:Nat)∧m<18446744073709551616∧s=.string (bs l)∧Hid (D=Lib.decDigits m++l)∧Hid (Below w.heap.size w wr)) (fun n _ _=>(intOf n).toNat)
 case atStart=>exact ⟨N,[],rfl,hN,rfl,lh (by rw [List.append_nil,HD.out]),lh (Below.refl _ _)⟩
 case round=>
  obtain ⟨m,l,rfl,hm,rfl,HI,HBr⟩:=hrel
  have hlen:l.length≤20:=by
   have:=HI.out
   rw [this,List.length_append] at hdl;omega
  have HB:=lh (fun wx=>jr7 (48+(m:Int) % 10) wx (by omega) (by omega));obtain ⟨x,hx⟩:∃ x,UInt8.ofNat (48+(m:Int) % 10).toNat=x:=⟨_,rfl⟩
  have hx2:UInt8.ofNat (48+m % 10)=x:=by rw [←hx];congr 1
  rw [hx] at HB;have HA:=lh (joi [x] l);clear hx
  by_cases h10:m<10
  · have HE:=lh (show [x]++l=D by rw [HI.out,Lib.decDigits_one h10,←hx2,Nat.mod_eq_of_lt h10])
    have hq:((m:Int) / 10)=0:=by omega
    have hq':m / 10=0:=by omega
    clear hx2
    go_wp2_with (first
     |(go_at_call 176;refine (HB.out _).mono ?_;rintro e w1 ⟨rfl,hb1⟩;have HB1:=lh (jj HBr.out hb1);clear hb1))
    go_ret;exact ⟨congrArg (fun x=>Ending.returned (Value.string x)) (HA.out.trans (by rw [HE.out])),HB1.out⟩
  · have hd:Lib.decDigits m=Lib.decDigits (m / 10)++[UInt8.ofNat (48+m % 10)]:=by rw [Lib.decDigits,dif_neg h10]
    have HE:=lh (show D=Lib.decDigits (m / 10)++([x]++l) by rw [HI.out,hd,hx2];simp)
    have hq:((m:Int) / 10==0)=false:=by simp;omega
    have hq':(m / 10==0)=false:=by simp;omega
    clear hd hx2
    go_wp2_with (first
     |(go_at_call 176;refine (HB.out _).mono ?_;rintro e w1 ⟨rfl,hb1⟩;have HB1:=lh (jj HBr.out hb1);clear hb1))
    go_roundw
    case rel=>exact ⟨m / 10,[x]++l,by go_num,by omega,by rw [←HA.out],HE,HB1⟩
    case measure=>simp [intOf];omega
end Go.Proofs.YthcompcjphaahaaGreatDoor.Pa
