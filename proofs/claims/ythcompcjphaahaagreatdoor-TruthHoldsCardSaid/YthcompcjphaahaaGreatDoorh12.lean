/- Contracts of package word's small functions. -/
import Derived.Test.YthcompcjphaahaaGreatDoorRows
import Derived.BigQuiet
import Derived.Deep.QuietTactic
import Derived.BigGuardPart
import Derived.LoopN
import Derived.Handy
import Derived.OpenShut
import Derived.Test.YthcompcjphaahaaGreatDoorh01
set_option maxRecDepth 100000
set_option maxHeartbeats 8000000
namespace Go.Proofs.YthcompcjphaahaaGreatDoor.Pa
open Go.RowKit
theorem kw {a b:Bool} (h:a=b):Ending.returned (.bool a)=.returned (.bool b):=by rw [h]
theorem js {k:IntKind} {a b:Int} (h:a=b):Ending.returned (.int k a)=.returned (.int k b):=by rw [h]
theorem ye (z:Int) (w:World):Calls Tryz.prog 230 #[.int .i64 z] w fun e w'=>e=.returned (.bool (isSz z))∧w=w':=by
 go_enter Tryz.func230,Tryz.ntmps230;go_wp2
 all_goals
  go_ret;exact ⟨kw (by simp [isSz, *]),rfl⟩
theorem jm0 (z:Int) (w:World) (h:isSz z=true):Calls Tryz.prog 231 #[.int .i64 z] w fun e w'=>e=.returned (.int .i64 (64 - 8*z))∧w=w':=by
 have h':=kr h;clear h;go_enter Tryz.func231,Tryz.ntmps231;go_wp2;go_ret;exact ⟨rfl,rfl⟩
theorem yf (z:Int) (w:World) (h:isSz z=true):Calls Tryz.prog 231 #[.int .i64 z] w fun e w'=>e=.returned (.int .i64 (64 - 8*z))∧w'=w:=
 (jm0 z w h).mono fun _ _ ⟨a,b⟩=>⟨a,b.symm⟩
theorem jui (n:Int) (w:World):Calls Tryz.prog 203 #[.int .u64 n,.int .i64 1] w fun e w'=>e=.returned (.int .i64 (signZ n 1))∧∃ m,w'=w.drewN m:=by
 go_enter Tryz.func203,Tryz.ntmps203;go_wp2_with (go_at_call 230;refine (ye _ _).mono ?_;rintro e w' ⟨rfl,rfl⟩)
 go_quiet ((go_at_call 231;exact Calls.quiet_of_same (P:=Tryz.prog) (yf _ _ rfl)))
 go_wp2;go_ret;exact ⟨js (jvz n),_,rfl⟩
theorem juq (n:Int) (w:World):Calls Tryz.prog 203 #[.int .u64 n,.int .i64 2] w fun e w'=>e=.returned (.int .i64 (signZ n 2))∧∃ m,w'=w.drewN m:=by
 go_enter Tryz.func203,Tryz.ntmps203;go_wp2_with (go_at_call 230;refine (ye _ _).mono ?_;rintro e w' ⟨rfl,rfl⟩)
 go_quiet ((go_at_call 231;exact Calls.quiet_of_same (P:=Tryz.prog) (yf _ _ rfl)))
 go_wp2;go_ret;exact ⟨js (jvx n),_,rfl⟩
theorem ju8 (n:Int) (w:World):Calls Tryz.prog 203 #[.int .u64 n,.int .i64 4] w fun e w'=>e=.returned (.int .i64 (signZ n 4))∧∃ m,w'=w.drewN m:=by
 go_enter Tryz.func203,Tryz.ntmps203;go_wp2_with (go_at_call 230;refine (ye _ _).mono ?_;rintro e w' ⟨rfl,rfl⟩)
 go_quiet ((go_at_call 231;exact Calls.quiet_of_same (P:=Tryz.prog) (yf _ _ rfl)))
 go_wp2;go_ret;exact ⟨js (jwa n),_,rfl⟩
theorem ju6 (n:Int) (w:World):Calls Tryz.prog 203 #[.int .u64 n,.int .i64 8] w fun e w'=>e=.returned (.int .i64 (signZ n 8))∧∃ m,w'=w.drewN m:=by
 go_enter Tryz.func203,Tryz.ntmps203;go_wp2_with (go_at_call 230;refine (ye _ _).mono ?_;rintro e w' ⟨rfl,rfl⟩)
 go_quiet ((go_at_call 231;exact Calls.quiet_of_same (P:=Tryz.prog) (yf _ _ rfl)))
 go_wp2;go_ret;exact ⟨js (jv6 n),_,rfl⟩
theorem jtq (n z:Int) (hz:isSz z=false) (w:World):Calls Tryz.prog 203 #[.int .u64 n,.int .i64 z] w fun e w'=>e=.returned (.int .i64 (signZ n z))∧∃ m,w'=w.drewN m:=by
 rw [jiu hz];go_enter Tryz.func203,Tryz.ntmps203;go_wp2_with (go_at_call 230;refine (ye _ _).mono ?_;rintro e w' ⟨rfl,rfl⟩);go_ret;exact ⟨rfl,0,rfl⟩
theorem ja3 (n z:Int) (w:World):Calls Tryz.prog 203 #[.int .u64 n,.int .i64 z] w fun e w'=>e=.returned (.int .i64 (signZ n z))∧∃ m,w'=w.drewN m:=by
 cases hz:isSz z with
 |false=>exact jtq n z hz w
 |true=>
  rcases kr hz with rfl|rfl|rfl|rfl
  · exact jui n w
  · exact juq n w
  · exact ju8 n w
  · exact ju6 n w
theorem jq4 (n:Int) (w:World):Calls Tryz.prog 232 #[.int .u64 n,.int .i64 1] w fun e w'=>e=.returned (.int .u64 (lowZ n 1))∧∃ m,w'=w.drewN m:=by
 go_enter Tryz.func232,Tryz.ntmps232;go_wp2
 go_quiet ((go_at_call 231;exact Calls.quiet_of_same (P:=Tryz.prog) (yf _ _ rfl)))
 go_wp2;go_ret;exact ⟨js (jv0 n),_,rfl⟩
theorem jqr (n:Int) (w:World):Calls Tryz.prog 232 #[.int .u64 n,.int .i64 2] w fun e w'=>e=.returned (.int .u64 (lowZ n 2))∧∃ m,w'=w.drewN m:=by
 go_enter Tryz.func232,Tryz.ntmps232;go_wp2
 go_quiet ((go_at_call 231;exact Calls.quiet_of_same (P:=Tryz.prog) (yf _ _ rfl)))
 go_wp2;go_ret;exact ⟨js (jv1 n),_,rfl⟩
theorem jq1 (n:Int) (w:World):Calls Tryz.prog 232 #[.int .u64 n,.int .i64 4] w fun e w'=>e=.returned (.int .u64 (lowZ n 4))∧∃ m,w'=w.drewN m:=by
 go_enter Tryz.func232,Tryz.ntmps232;go_wp2
 go_quiet ((go_at_call 231;exact Calls.quiet_of_same (P:=Tryz.prog) (yf _ _ rfl)))
 go_wp2;go_ret;exact ⟨js (jvv n),_,rfl⟩
theorem jps (n:Int) (w:World):Calls Tryz.prog 232 #[.int .u64 n,.int .i64 8] w fun e w'=>e=.returned (.int .u64 (lowZ n 8))∧∃ m,w'=w.drewN m:=by
 go_enter Tryz.func232,Tryz.ntmps232;go_wp2
 go_quiet ((go_at_call 231;exact Calls.quiet_of_same (P:=Tryz.prog) (yf _ _ rfl)))
 go_wp2;go_ret;exact ⟨js (jv9 n),_,rfl⟩
theorem jj8 (n z:Int) (hz:isSz z=true) (w:World):Calls Tryz.prog 232 #[.int .u64 n,.int .i64 z] w fun e w'=>e=.returned (.int .u64 (lowZ n z))∧∃ m,w'=w.drewN m:=by
 rcases kr hz with rfl|rfl|rfl|rfl
 · exact jq4 n w
 · exact jqr n w
 · exact jq1 n w
 · exact jps n w
theorem Yu {k l:IntKind} {a b c d:Int} (h:a=b) (h':c=d):Ending.returned (.tuple #[.int k a,.int l c])=.returned (.tuple #[.int k b,.int l d]):=by rw [h,h']
theorem jp0 (n z:Int) (w:World):Calls Tryz.prog 204 #[.int .i64 n,.int .i64 z] w fun e w'=>e=.returned (.tuple #[.int .u64 (bitsN n z),.int .i64 (bitsE n z)])∧∃ m,w'=w.drewN m:=by
 cases hz:isSz z with
 |false=>
  rw [jjm hz,jix hz];go_enter Tryz.func204,Tryz.ntmps204;go_wp2_with (go_at_call 230;refine (ye _ _).mono ?_;rintro e w' ⟨rfl,rfl⟩)
  go_ret2
  exact ⟨rfl,0,rfl⟩
 |true=>
  cases hr:inR n z with
  |false=>
   rw [X5 hz hr,X8 hz hr]
   have hne:(signZ (IntKind.u64.wrap n) z !=n)=true:=by
    rw [jft];simp;intro h;rw [jil hz] at h;rw [h] at hr;cases hr
   go_enter Tryz.func204,Tryz.ntmps204;go_wp2_with (first|(go_at_call 230;refine (ye _ _).mono ?_;rintro e w' ⟨rfl,rfl⟩)|(go_at_call 203;refine (ja3 _ _ _).mono ?_;rintro e w' ⟨rfl,m,rfl⟩))
   go_ret2
   exact ⟨rfl,_,rfl⟩
  |true=>
   have hne:(signZ (IntKind.u64.wrap n) z !=n)=false:=by
    rw [jft];simp;rw [jil hz];exact hr
   rw [Xw hz hr,Ze hz hr];go_enter Tryz.func204,Tryz.ntmps204;go_wp2_with (first|(go_at_call 230;refine (ye _ _).mono ?_;rintro e w' ⟨rfl,rfl⟩)|(go_at_call 203;refine (ja3 _ _ _).mono ?_;rintro e w' ⟨rfl,m,rfl⟩)|(go_at_call 232;refine (jj8 _ _ hz _).mono ?_;rintro e w' ⟨rfl,m,rfl⟩))
   go_ret2
   exact ⟨Yu (by unfold lowZ;rw [jlx _ hz]) rfl,_,rfl⟩
theorem jr9 (n z:Int) (w:World):Calls Tryz.prog 172 #[.int .u64 n,.int .i64 z] w fun e w'=>e=.returned (.int .u64 (IntKind.u64.wrap (signZ n z)))∧∃ m,w'=w.drewN m:=by
 go_enter Tryz.func172,Tryz.ntmps172;go_wp2_with (go_at_call 203;refine (ja3 _ _ _).mono ?_;rintro e w' ⟨rfl,m,rfl⟩);go_ret;exact ⟨rfl,_,rfl⟩
theorem jt (z:Int) (w:World):Calls Tryz.prog 103 #[.int .i64 z] w fun e w'=>e=.returned (.bool (isSz z))∧w=w':=by
 go_enter Tryz.func103,Tryz.ntmps103;go_wp2
 all_goals
  go_ret;exact ⟨kw (by simp [isSz, *]),rfl⟩
theorem Xp (w:World):Calls Tryz.prog 104 #[.int .i64 1] w fun e w'=>e=.returned (.int .u64 128)∧w=w':=by
 go_enter Tryz.func104,Tryz.ntmps104;go_wp2
 go_rounds 1
 go_ret;exact ⟨rfl,rfl⟩
theorem Xs (w:World):Calls Tryz.prog 104 #[.int .i64 2] w fun e w'=>e=.returned (.int .u64 32768)∧w=w':=by
 go_enter Tryz.func104,Tryz.ntmps104;go_wp2
 go_rounds 2
 go_ret;exact ⟨rfl,rfl⟩
theorem Xz (w:World):Calls Tryz.prog 104 #[.int .i64 4] w fun e w'=>e=.returned (.int .u64 2147483648)∧w=w':=by
 go_enter Tryz.func104,Tryz.ntmps104;go_wp2
 go_rounds 4
 go_ret;exact ⟨rfl,rfl⟩
theorem Xy (w:World):Calls Tryz.prog 104 #[.int .i64 8] w fun e w'=>e=.returned (.int .u64 9223372036854775808)∧w=w':=by
 go_enter Tryz.func104,Tryz.ntmps104;go_wp2
 go_rounds 8
 go_ret;exact ⟨rfl,rfl⟩
theorem jds (n:Int) (hn:(Lit.int .u64 n).wf=true) (w:World):Calls Tryz.prog 102 #[.int .u64 n,.int .i64 1] w fun e w'=>e=.returned (.int .u64 (lowZ n 1))∧∃ m,w'=w.drewN m:=by
 obtain ⟨hn0,hn1⟩:=bounds_u64 hn;clear hn;go_enter Tryz.func102,Tryz.ntmps102;go_wp2_with (go_at_call 104;refine (Xp _).mono ?_;rintro e w' ⟨rfl,rfl⟩)
 go_quiet (fail)
 go_wp2;go_ret;refine ⟨js ?_,_,rfl⟩;unfold lowZ pw;simp;omega
theorem jda (n:Int) (hn:(Lit.int .u64 n).wf=true) (w:World):Calls Tryz.prog 102 #[.int .u64 n,.int .i64 2] w fun e w'=>e=.returned (.int .u64 (lowZ n 2))∧∃ m,w'=w.drewN m:=by
 obtain ⟨hn0,hn1⟩:=bounds_u64 hn;clear hn;go_enter Tryz.func102,Tryz.ntmps102;go_wp2_with (go_at_call 104;refine (Xs _).mono ?_;rintro e w' ⟨rfl,rfl⟩)
 go_quiet (fail)
 go_wp2;go_ret;refine ⟨js ?_,_,rfl⟩;unfold lowZ pw;simp;omega
theorem jdk (n:Int) (hn:(Lit.int .u64 n).wf=true) (w:World):Calls Tryz.prog 102 #[.int .u64 n,.int .i64 4] w fun e w'=>e=.returned (.int .u64 (lowZ n 4))∧∃ m,w'=w.drewN m:=by
 obtain ⟨hn0,hn1⟩:=bounds_u64 hn;clear hn;go_enter Tryz.func102,Tryz.ntmps102;go_wp2_with (go_at_call 104;refine (Xz _).mono ?_;rintro e w' ⟨rfl,rfl⟩)
 go_quiet (fail)
 go_wp2;go_ret;refine ⟨js ?_,_,rfl⟩;unfold lowZ pw;simp;omega
theorem jen (n:Int) (hn:(Lit.int .u64 n).wf=true) (w:World):Calls Tryz.prog 102 #[.int .u64 n,.int .i64 8] w fun e w'=>e=.returned (.int .u64 (lowZ n 8))∧∃ m,w'=w.drewN m:=by
 obtain ⟨hn0,hn1⟩:=bounds_u64 hn;clear hn;go_enter Tryz.func102,Tryz.ntmps102;go_wp2_with (go_at_call 104;refine (Xy _).mono ?_;rintro e w' ⟨rfl,rfl⟩)
 go_quiet (fail)
 go_wp2;go_ret;refine ⟨js ?_,_,rfl⟩;unfold lowZ pw;simp;omega
theorem jj6 (n z:Int) (hz:isSz z=false) (w:World):Calls Tryz.prog 64 #[.int .u64 n,.int .i64 z] w fun e w'=>e=.returned (.int .i64 (signZ n z))∧∃ m,w'=w.drewN m:=by
 rw [jiu hz];go_enter Tryz.func64,Tryz.ntmps64;go_wp2_with (go_at_call 103;refine (jt _ _).mono ?_;rintro e w' ⟨rfl,rfl⟩);go_ret;exact ⟨rfl,0,rfl⟩
theorem job (n:Int) (hn:(Lit.int .u64 n).wf=true) (w:World):Calls Tryz.prog 64 #[.int .u64 n,.int .i64 1] w fun e w'=>e=.returned (.int .i64 (signZ n 1))∧∃ m,w'=w.drewN m:=by
 have hb:0≤lowZ n 1∧lowZ n 1≤255:=by unfold lowZ pw;simp;omega
 obtain ⟨hb0,hb1⟩:=hb
 by_cases hc:lowZ n 1<128
 · go_enter Tryz.func64,Tryz.ntmps64;go_wp2_with (first|(go_at_call 103;refine (jt _ _).mono ?_;rintro e w' ⟨rfl,rfl⟩)|(go_at_call 102;refine (jds _ hn _).mono ?_;rintro e w' ⟨rfl,m,rfl⟩)|(go_at_call 104;refine (Xp _).mono ?_;rintro e w' ⟨rfl,rfl⟩));go_ret;exact ⟨js (jvc n hc),_,rfl⟩
 · go_enter Tryz.func64,Tryz.ntmps64;go_wp2_with (first|(go_at_call 103;refine (jt _ _).mono ?_;rintro e w' ⟨rfl,rfl⟩)|(go_at_call 102;refine (jds _ hn _).mono ?_;rintro e w' ⟨rfl,m,rfl⟩)|(go_at_call 104;refine (Xp _).mono ?_;rintro e w' ⟨rfl,rfl⟩));go_ret;exact ⟨js (juw n (by omega)),_,rfl⟩
theorem joe (n:Int) (hn:(Lit.int .u64 n).wf=true) (w:World):Calls Tryz.prog 64 #[.int .u64 n,.int .i64 2] w fun e w'=>e=.returned (.int .i64 (signZ n 2))∧∃ m,w'=w.drewN m:=by
 have hb:0≤lowZ n 2∧lowZ n 2≤65535:=by unfold lowZ pw;simp;omega
 obtain ⟨hb0,hb1⟩:=hb
 by_cases hc:lowZ n 2<32768
 · go_enter Tryz.func64,Tryz.ntmps64;go_wp2_with (first|(go_at_call 103;refine (jt _ _).mono ?_;rintro e w' ⟨rfl,rfl⟩)|(go_at_call 102;refine (jda _ hn _).mono ?_;rintro e w' ⟨rfl,m,rfl⟩)|(go_at_call 104;refine (Xs _).mono ?_;rintro e w' ⟨rfl,rfl⟩));go_ret;exact ⟨js (jt9 n hc),_,rfl⟩
 · go_enter Tryz.func64,Tryz.ntmps64;go_wp2_with (first|(go_at_call 103;refine (jt _ _).mono ?_;rintro e w' ⟨rfl,rfl⟩)|(go_at_call 102;refine (jda _ hn _).mono ?_;rintro e w' ⟨rfl,m,rfl⟩)|(go_at_call 104;refine (Xs _).mono ?_;rintro e w' ⟨rfl,rfl⟩));go_ret;exact ⟨js (jud n (by omega)),_,rfl⟩
theorem jnu (n:Int) (hn:(Lit.int .u64 n).wf=true) (w:World):Calls Tryz.prog 64 #[.int .u64 n,.int .i64 4] w fun e w'=>e=.returned (.int .i64 (signZ n 4))∧∃ m,w'=w.drewN m:=by
 have hb:0≤lowZ n 4∧lowZ n 4≤4294967295:=by unfold lowZ pw;simp;omega
 obtain ⟨hb0,hb1⟩:=hb
 by_cases hc:lowZ n 4<2147483648
 · go_enter Tryz.func64,Tryz.ntmps64;go_wp2_with (first|(go_at_call 103;refine (jt _ _).mono ?_;rintro e w' ⟨rfl,rfl⟩)|(go_at_call 102;refine (jdk _ hn _).mono ?_;rintro e w' ⟨rfl,m,rfl⟩)|(go_at_call 104;refine (Xz _).mono ?_;rintro e w' ⟨rfl,rfl⟩));go_ret;exact ⟨js (ju9 n hc),_,rfl⟩
 · go_enter Tryz.func64,Tryz.ntmps64;go_wp2_with (first|(go_at_call 103;refine (jt _ _).mono ?_;rintro e w' ⟨rfl,rfl⟩)|(go_at_call 102;refine (jdk _ hn _).mono ?_;rintro e w' ⟨rfl,m,rfl⟩)|(go_at_call 104;refine (Xz _).mono ?_;rintro e w' ⟨rfl,rfl⟩));go_ret;exact ⟨js (jus n (by omega)),_,rfl⟩
theorem jna (n:Int) (hn:(Lit.int .u64 n).wf=true) (w:World):Calls Tryz.prog 64 #[.int .u64 n,.int .i64 8] w fun e w'=>e=.returned (.int .i64 (signZ n 8))∧∃ m,w'=w.drewN m:=by
 have hb:0≤lowZ n 8∧lowZ n 8≤18446744073709551615:=by unfold lowZ pw;simp;omega
 obtain ⟨hb0,hb1⟩:=hb
 by_cases hc:lowZ n 8<9223372036854775808
 · go_enter Tryz.func64,Tryz.ntmps64;go_wp2_with (first|(go_at_call 103;refine (jt _ _).mono ?_;rintro e w' ⟨rfl,rfl⟩)|(go_at_call 102;refine (jen _ hn _).mono ?_;rintro e w' ⟨rfl,m,rfl⟩)|(go_at_call 104;refine (Xy _).mono ?_;rintro e w' ⟨rfl,rfl⟩));go_ret;exact ⟨js (jul n hc),_,rfl⟩
 · go_enter Tryz.func64,Tryz.ntmps64;go_wp2_with (first|(go_at_call 103;refine (jt _ _).mono ?_;rintro e w' ⟨rfl,rfl⟩)|(go_at_call 102;refine (jen _ hn _).mono ?_;rintro e w' ⟨rfl,m,rfl⟩)|(go_at_call 104;refine (Xy _).mono ?_;rintro e w' ⟨rfl,rfl⟩));go_ret;exact ⟨js (ju7 n (by omega)),_,rfl⟩
theorem jkx (n z:Int) (hz:isSz z=false) (w:World):Calls Tryz.prog 112 #[.int .i64 n,.int .i64 z] w fun e w'=>e=.returned (.tuple #[.int .u64 (bitsN n z),.int .i64 (bitsE n z)])∧w=w':=by
 rw [jjm hz,jix hz];go_enter Tryz.func112,Tryz.ntmps112;go_wp2_with (go_at_call 103;refine (jt _ _).mono ?_;rintro e w' ⟨rfl,rfl⟩)
 go_ret2
 exact ⟨rfl,rfl⟩
theorem jig (n z:Int) (hn:(Lit.int .u64 n).wf=true) (w:World):Calls Tryz.prog 64 #[.int .u64 n,.int .i64 z] w fun e w'=>e=.returned (.int .i64 (signZ n z))∧∃ m,w'=w.drewN m:=by
 cases hz:isSz z with
 |false=>exact jj6 n z hz w
 |true=>
  rcases kr hz with rfl|rfl|rfl|rfl
  · exact job n hn w
  · exact joe n hn w
  · exact jnu n hn w
  · exact jna n hn w
theorem jod (n:Int) (hn:(Lit.int .i64 n).wf=true) (w:World):Calls Tryz.prog 112 #[.int .i64 n,.int .i64 1] w fun e w'=>e=.returned (.tuple #[.int .u64 (bitsN n 1),.int .i64 (bitsE n 1)])∧w=w':=by
 obtain ⟨hn0,hn1⟩:=bounds_i64 hn;clear hn
 by_cases hp:0≤n
 · by_cases hc:n<128
   all_goals
    go_enter Tryz.func112,Tryz.ntmps112;go_wp2_with (first|(go_at_call 103;refine (jt _ _).mono ?_;rintro e w' ⟨rfl,rfl⟩)|(go_at_call 104;refine (Xp _).mono ?_;rintro e w' ⟨rfl,rfl⟩))
    all_goals
     go_ret2
     exact ⟨Yu (by have:=Yf n;omega) (by have:=Yf n;omega),rfl⟩
 · by_cases hc:-n≤128
   all_goals
    go_enter Tryz.func112,Tryz.ntmps112;go_wp2_with (first|(go_at_call 103;refine (jt _ _).mono ?_;rintro e w' ⟨rfl,rfl⟩)|(go_at_call 104;refine (Xp _).mono ?_;rintro e w' ⟨rfl,rfl⟩))
    all_goals
     go_ret2
     exact ⟨Yu (by have:=Yf n;omega) (by have:=Yf n;omega),rfl⟩
theorem jm4 (n:Int) (hn:(Lit.int .i64 n).wf=true) (w:World):Calls Tryz.prog 112 #[.int .i64 n,.int .i64 2] w fun e w'=>e=.returned (.tuple #[.int .u64 (bitsN n 2),.int .i64 (bitsE n 2)])∧w=w':=by
 obtain ⟨hn0,hn1⟩:=bounds_i64 hn;clear hn
 by_cases hp:0≤n
 · by_cases hc:n<32768
   all_goals
    go_enter Tryz.func112,Tryz.ntmps112;go_wp2_with (first|(go_at_call 103;refine (jt _ _).mono ?_;rintro e w' ⟨rfl,rfl⟩)|(go_at_call 104;refine (Xs _).mono ?_;rintro e w' ⟨rfl,rfl⟩))
    all_goals
     go_ret2
     exact ⟨Yu (by have:=Yg n;omega) (by have:=Yg n;omega),rfl⟩
 · by_cases hc:-n≤32768
   all_goals
    go_enter Tryz.func112,Tryz.ntmps112;go_wp2_with (first|(go_at_call 103;refine (jt _ _).mono ?_;rintro e w' ⟨rfl,rfl⟩)|(go_at_call 104;refine (Xs _).mono ?_;rintro e w' ⟨rfl,rfl⟩))
    all_goals
     go_ret2
     exact ⟨Yu (by have:=Yg n;omega) (by have:=Yg n;omega),rfl⟩
theorem jox (n:Int) (hn:(Lit.int .i64 n).wf=true) (w:World):Calls Tryz.prog 112 #[.int .i64 n,.int .i64 4] w fun e w'=>e=.returned (.tuple #[.int .u64 (bitsN n 4),.int .i64 (bitsE n 4)])∧w=w':=by
 obtain ⟨hn0,hn1⟩:=bounds_i64 hn;clear hn
 by_cases hp:0≤n
 · by_cases hc:n<2147483648
   all_goals
    go_enter Tryz.func112,Tryz.ntmps112;go_wp2_with (first|(go_at_call 103;refine (jt _ _).mono ?_;rintro e w' ⟨rfl,rfl⟩)|(go_at_call 104;refine (Xz _).mono ?_;rintro e w' ⟨rfl,rfl⟩))
    all_goals
     go_ret2
     exact ⟨Yu (by have:=Yn n;omega) (by have:=Yn n;omega),rfl⟩
 · by_cases hc:-n≤2147483648
   all_goals
    go_enter Tryz.func112,Tryz.ntmps112;go_wp2_with (first|(go_at_call 103;refine (jt _ _).mono ?_;rintro e w' ⟨rfl,rfl⟩)|(go_at_call 104;refine (Xz _).mono ?_;rintro e w' ⟨rfl,rfl⟩))
    all_goals
     go_ret2
     exact ⟨Yu (by have:=Yn n;omega) (by have:=Yn n;omega),rfl⟩
theorem joo (n:Int) (hn:(Lit.int .i64 n).wf=true) (w:World):Calls Tryz.prog 112 #[.int .i64 n,.int .i64 8] w fun e w'=>e=.returned (.tuple #[.int .u64 (bitsN n 8),.int .i64 (bitsE n 8)])∧w=w':=by
 obtain ⟨hn0,hn1⟩:=bounds_i64 hn;clear hn
 by_cases hp:0≤n
 · by_cases hc:n<9223372036854775808
   all_goals
    go_enter Tryz.func112,Tryz.ntmps112;go_wp2_with (first|(go_at_call 103;refine (jt _ _).mono ?_;rintro e w' ⟨rfl,rfl⟩)|(go_at_call 104;refine (Xy _).mono ?_;rintro e w' ⟨rfl,rfl⟩))
    all_goals
     go_ret2
     exact ⟨Yu (by have:=Yk n;omega) (by have:=Yk n;omega),rfl⟩
 · by_cases hc:-n≤9223372036854775808
   all_goals
    go_enter Tryz.func112,Tryz.ntmps112;go_wp2_with (first|(go_at_call 103;refine (jt _ _).mono ?_;rintro e w' ⟨rfl,rfl⟩)|(go_at_call 104;refine (Xy _).mono ?_;rintro e w' ⟨rfl,rfl⟩))
    all_goals
     go_ret2
     exact ⟨Yu (by have:=Yk n;omega) (by have:=Yk n;omega),rfl⟩
theorem jie (n z:Int) (hn:(Lit.int .i64 n).wf=true) (w:World):Calls Tryz.prog 112 #[.int .i64 n,.int .i64 z] w fun e w'=>e=.returned (.tuple #[.int .u64 (bitsN n z),.int .i64 (bitsE n z)])∧w=w':=by
 cases hz:isSz z with
 |false=>exact jkx n z hz w
 |true=>
  rcases kr hz with rfl|rfl|rfl|rfl
  · exact jod n hn w
  · exact jm4 n hn w
  · exact jox n hn w
  · exact joo n hn w
end Go.Proofs.YthcompcjphaahaaGreatDoor.Pa
