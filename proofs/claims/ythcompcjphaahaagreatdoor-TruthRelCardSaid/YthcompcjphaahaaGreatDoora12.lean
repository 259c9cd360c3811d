/- Contracts of package word's small functions. -/
import Derived.Test.YthcompcjphaahaaGreatDoorRows
import Derived.BigQuiet
import Derived.Deep.QuietTactic
import Derived.BigGuardPart
import Derived.LoopN
import Derived.Handy
import Derived.OpenShut
import Derived.Test.YthcompcjphaahaaGreatDoora01
namespace Go.Proofs.YthcompcjphaahaaGreatDoor.Pa
open Go.RowKit
theorem ret_bool {a b:Bool} (h:a=b):Ending.returned (.bool a)=.returned (.bool b):=by rw [h]
theorem ret_int {k:IntKind} {a b:Int} (h:a=b):Ending.returned (.int k a)=.returned (.int k b):=by rw [h]
theorem isSize_any (z:Int) (w:World):Calls Tryz.prog 230 #[.int .i64 z] w fun e w'=>e=.returned (.bool (isSz z))∧w=w':=by
 go_enter Tryz.func230,Tryz.ntmps230
 go_wp2
 all_goals
  go_ret
  exact ⟨ret_bool (by simp [isSz, *]),rfl⟩
theorem spare_any (z:Int) (w:World) (h:isSz z=true):Calls Tryz.prog 231 #[.int .i64 z] w fun e w'=>e=.returned (.int .i64 (64 - 8*z))∧w=w':=by
 have h':=isSz_cases h
 clear h
 go_enter Tryz.func231,Tryz.ntmps231
 go_wp2
 go_ret
 exact ⟨rfl,rfl⟩
theorem spare_any' (z:Int) (w:World) (h:isSz z=true):Calls Tryz.prog 231 #[.int .i64 z] w fun e w'=>e=.returned (.int .i64 (64 - 8*z))∧w'=w:=
 (spare_any z w h).mono fun _ _ ⟨a,b⟩=>⟨a,b.symm⟩
theorem sign_1 (n:Int) (w:World):Calls Tryz.prog 203 #[.int .u64 n,.int .i64 1] w fun e w'=>e=.returned (.int .i64 (signZ n 1))∧∃ m,w'=w.drewN m:=by
 go_enter Tryz.func203,Tryz.ntmps203
 go_wp2_with (go_at_call 230;refine (isSize_any _ _).mono ?_;rintro e w' ⟨rfl,rfl⟩)
 go_quiet ((go_at_call 231;exact Calls.quiet_of_same (P:=Tryz.prog) (spare_any' _ _ rfl)))
 go_wp2
 go_ret
 exact ⟨ret_int (sgn1 n),_,rfl⟩
theorem sign_2 (n:Int) (w:World):Calls Tryz.prog 203 #[.int .u64 n,.int .i64 2] w fun e w'=>e=.returned (.int .i64 (signZ n 2))∧∃ m,w'=w.drewN m:=by
 go_enter Tryz.func203,Tryz.ntmps203
 go_wp2_with (go_at_call 230;refine (isSize_any _ _).mono ?_;rintro e w' ⟨rfl,rfl⟩)
 go_quiet ((go_at_call 231;exact Calls.quiet_of_same (P:=Tryz.prog) (spare_any' _ _ rfl)))
 go_wp2
 go_ret
 exact ⟨ret_int (sgn2 n),_,rfl⟩
theorem sign_4 (n:Int) (w:World):Calls Tryz.prog 203 #[.int .u64 n,.int .i64 4] w fun e w'=>e=.returned (.int .i64 (signZ n 4))∧∃ m,w'=w.drewN m:=by
 go_enter Tryz.func203,Tryz.ntmps203
 go_wp2_with (go_at_call 230;refine (isSize_any _ _).mono ?_;rintro e w' ⟨rfl,rfl⟩)
 go_quiet ((go_at_call 231;exact Calls.quiet_of_same (P:=Tryz.prog) (spare_any' _ _ rfl)))
 go_wp2
 go_ret
 exact ⟨ret_int (sgn4 n),_,rfl⟩
theorem sign_8 (n:Int) (w:World):Calls Tryz.prog 203 #[.int .u64 n,.int .i64 8] w fun e w'=>e=.returned (.int .i64 (signZ n 8))∧∃ m,w'=w.drewN m:=by
 go_enter Tryz.func203,Tryz.ntmps203
 go_wp2_with (go_at_call 230;refine (isSize_any _ _).mono ?_;rintro e w' ⟨rfl,rfl⟩)
 go_quiet ((go_at_call 231;exact Calls.quiet_of_same (P:=Tryz.prog) (spare_any' _ _ rfl)))
 go_wp2
 go_ret
 exact ⟨ret_int (sgn8 n),_,rfl⟩
theorem sign_no (n z:Int) (hz:isSz z=false) (w:World):Calls Tryz.prog 203 #[.int .u64 n,.int .i64 z] w fun e w'=>e=.returned (.int .i64 (signZ n z))∧∃ m,w'=w.drewN m:=by
 rw [signZ_no hz]
 go_enter Tryz.func203,Tryz.ntmps203
 go_wp2_with (go_at_call 230;refine (isSize_any _ _).mono ?_;rintro e w' ⟨rfl,rfl⟩)
 go_ret
 exact ⟨rfl,0,rfl⟩
theorem sign_any (n z:Int) (w:World):Calls Tryz.prog 203 #[.int .u64 n,.int .i64 z] w fun e w'=>e=.returned (.int .i64 (signZ n z))∧∃ m,w'=w.drewN m:=by
 cases hz:isSz z with
 |false=>exact sign_no n z hz w
 |true=>
  rcases isSz_cases hz with rfl|rfl|rfl|rfl
  · exact sign_1 n w
  · exact sign_2 n w
  · exact sign_4 n w
  · exact sign_8 n w
theorem lowest_1 (n:Int) (w:World):Calls Tryz.prog 232 #[.int .u64 n,.int .i64 1] w fun e w'=>e=.returned (.int .u64 (lowZ n 1))∧∃ m,w'=w.drewN m:=by
 go_enter Tryz.func232,Tryz.ntmps232
 go_wp2
 go_quiet ((go_at_call 231;exact Calls.quiet_of_same (P:=Tryz.prog) (spare_any' _ _ rfl)))
 go_wp2
 go_ret
 exact ⟨ret_int (low1 n),_,rfl⟩
theorem lowest_2 (n:Int) (w:World):Calls Tryz.prog 232 #[.int .u64 n,.int .i64 2] w fun e w'=>e=.returned (.int .u64 (lowZ n 2))∧∃ m,w'=w.drewN m:=by
 go_enter Tryz.func232,Tryz.ntmps232
 go_wp2
 go_quiet ((go_at_call 231;exact Calls.quiet_of_same (P:=Tryz.prog) (spare_any' _ _ rfl)))
 go_wp2
 go_ret
 exact ⟨ret_int (low2 n),_,rfl⟩
theorem lowest_4 (n:Int) (w:World):Calls Tryz.prog 232 #[.int .u64 n,.int .i64 4] w fun e w'=>e=.returned (.int .u64 (lowZ n 4))∧∃ m,w'=w.drewN m:=by
 go_enter Tryz.func232,Tryz.ntmps232
 go_wp2
 go_quiet ((go_at_call 231;exact Calls.quiet_of_same (P:=Tryz.prog) (spare_any' _ _ rfl)))
 go_wp2
 go_ret
 exact ⟨ret_int (low4 n),_,rfl⟩
theorem lowest_8 (n:Int) (w:World):Calls Tryz.prog 232 #[.int .u64 n,.int .i64 8] w fun e w'=>e=.returned (.int .u64 (lowZ n 8))∧∃ m,w'=w.drewN m:=by
 go_enter Tryz.func232,Tryz.ntmps232
 go_wp2
 go_quiet ((go_at_call 231;exact Calls.quiet_of_same (P:=Tryz.prog) (spare_any' _ _ rfl)))
 go_wp2
 go_ret
 exact ⟨ret_int (low8 n),_,rfl⟩
theorem lowest_any (n z:Int) (hz:isSz z=true) (w:World):Calls Tryz.prog 232 #[.int .u64 n,.int .i64 z] w fun e w'=>e=.returned (.int .u64 (lowZ n z))∧∃ m,w'=w.drewN m:=by
 rcases isSz_cases hz with rfl|rfl|rfl|rfl
 · exact lowest_1 n w
 · exact lowest_2 n w
 · exact lowest_4 n w
 · exact lowest_8 n w
end Go.Proofs.YthcompcjphaahaaGreatDoor.Pa
namespace Go.Proofs.YthcompcjphaahaaGreatDoor.Pa
open Go.RowKit
theorem ret_ui {k l:IntKind} {a b c d:Int} (h:a=b) (h':c=d):Ending.returned (.tuple #[.int k a,.int l c])=.returned (.tuple #[.int k b,.int l d]):=by rw [h,h']
theorem bits_any (n z:Int) (w:World):Calls Tryz.prog 204 #[.int .i64 n,.int .i64 z] w fun e w'=>e=.returned (.tuple #[.int .u64 (bitsN n z),.int .i64 (bitsE n z)])∧∃ m,w'=w.drewN m:=by
 cases hz:isSz z with
 |false=>
  rw [bitsN_no hz,bitsE_no hz]
  go_enter Tryz.func204,Tryz.ntmps204
  go_wp2_with (go_at_call 230;refine (isSize_any _ _).mono ?_;rintro e w' ⟨rfl,rfl⟩)
  go_ret2
  exact ⟨rfl,0,rfl⟩
 |true=>
  cases hr:inR n z with
  |false=>
   rw [bitsN_out hz hr,bitsE_out hz hr]
   have hne:(signZ (IntKind.u64.wrap n) z !=n)=true:=by
    rw [signZ_u64];simp;intro h;rw [signZ_eq hz] at h;rw [h] at hr;cases hr
   go_enter Tryz.func204,Tryz.ntmps204
   go_wp2_with (first|(go_at_call 230;refine (isSize_any _ _).mono ?_;rintro e w' ⟨rfl,rfl⟩)|(go_at_call 203;refine (sign_any _ _ _).mono ?_;rintro e w' ⟨rfl,m,rfl⟩))
   go_ret2
   exact ⟨rfl,_,rfl⟩
  |true=>
   have hne:(signZ (IntKind.u64.wrap n) z !=n)=false:=by
    rw [signZ_u64];simp;rw [signZ_eq hz];exact hr
   rw [bitsN_in hz hr,bitsE_in hz hr]
   go_enter Tryz.func204,Tryz.ntmps204
   go_wp2_with (first|(go_at_call 230;refine (isSize_any _ _).mono ?_;rintro e w' ⟨rfl,rfl⟩)|(go_at_call 203;refine (sign_any _ _ _).mono ?_;rintro e w' ⟨rfl,m,rfl⟩)|(go_at_call 232;refine (lowest_any _ _ hz _).mono ?_;rintro e w' ⟨rfl,m,rfl⟩))
   go_ret2
   exact ⟨ret_ui (by unfold lowZ;rw [mod_u64 _ hz]) rfl,_,rfl⟩
theorem wide_any (n z:Int) (w:World):Calls Tryz.prog 172 #[.int .u64 n,.int .i64 z] w fun e w'=>e=.returned (.int .u64 (IntKind.u64.wrap (signZ n z)))∧∃ m,w'=w.drewN m:=by
 go_enter Tryz.func172,Tryz.ntmps172
 go_wp2_with (go_at_call 203;refine (sign_any _ _ _).mono ?_;rintro e w' ⟨rfl,m,rfl⟩)
 go_ret
 exact ⟨rfl,_,rfl⟩
end Go.Proofs.YthcompcjphaahaaGreatDoor.Pa
namespace Go.Proofs.YthcompcjphaahaaGreatDoor.Pa
open Go.RowKit
end Go.Proofs.YthcompcjphaahaaGreatDoor.Pa
