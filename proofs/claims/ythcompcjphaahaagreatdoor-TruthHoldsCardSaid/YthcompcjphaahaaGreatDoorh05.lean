/- Contracts of package name: Word, Lead, Name, Find, Twice. -/
import Derived.Maps.OwnSet
import Derived.Maps.Views
import Derived.StringKeys
import Derived.Test.YthcompcjphaahaaGreatDoorh04
set_option maxRecDepth 100000
set_option maxHeartbeats 8000000
set_option linter.unusedVariables false
namespace Go.Proofs.YthcompcjphaahaaGreatDoor
open Go.RowKit Go.Maps
theorem jh5 (c:Nat) (hc:c<256) (b:Bool) (w:World):Calls Tryz.prog 180 #[.int .u8 c,.bool b] w fun e w'=>e=.returned (.bool (if b then isL c else isL c||isD c||c==95))∧w=w':=by
 go_enter Tryz.func180,Tryz.ntmps180;go_wp2
 all_goals
  go_ret;refine ⟨qk ?_,rfl⟩
  cases b <;> (rw [Bool.eq_iff_iff];simp [isL,isD] at *;try omega)
theorem jtt (s:ByteArray):wordS s=((s.toList==[65,78,68])||((s.toList==[79,82])||((s.toList==[78,79,84])||((s.toList==[66,69,84,87,69,69,78])||((s.toList==[76,73,75,69])||((s.toList==[84,82,85,69])||(s.toList==[70,65,76,83,69]))))))):=by
 rw [ByteArray.toList_eq,Bool.eq_iff_iff];simp [wordS,wordsL]
theorem jjo (s:ByteArray) (hs:s.size≤281474976710656) (w:World):Calls Tryz.prog 246 #[.string s] w fun e w'=>e=.returned (.bool (wordS s))∧Below w.heap.size w w':=by
 have HE:=lh (jtt s);go_enter Tryz.func246,Tryz.ntmps246;go_wp2
 all_goals
  go_ret;refine ⟨qk ?_,Below.refl _ _⟩;rw [HE.out];simp_all
theorem jld (s:ByteArray) (k:Nat) (hk:k<s.size) (w:World):Calls Tryz.prog 180 #[.int .u8 ((s[k]'hk).toNat:Nat),.bool ((k:Int)==0)] w fun e w'=>e=.returned (.bool (!badAt s k))∧w=w':=by
 have h:=jh5 (s[k]'hk).toNat (UInt8.toNat_lt _) ((k:Int)==0) w
 have e:(if ((k:Int)==0) then isL (s[k]'hk).toNat else isL (s[k]'hk).toNat||isD (s[k]'hk).toNat||(s[k]'hk).toNat==95)=!badAt s k:=by
  unfold badAt okAt;rw [ya s k hk,Bool.not_not]
  by_cases h0:k=0
  · subst h0;rfl
  · rw [if_neg h0,if_neg (by simp;exact h0)]
 rwa [e] at h
theorem jd3 (s:ByteArray) (hs:s.size≤281474976710656) (w:World):Calls Tryz.prog 145 #[.string s] w fun e w'=>e=.returned (.int .i64 (leadN s:Nat))∧Below w.heap.size w w':=by
 go_enter Tryz.func145,Tryz.ntmps145;go_wp2
 go_loopw [6] (fun i wr=>∃ k:Nat,k≤s.size∧i=.int .i64 k∧Hid (∀ j,j<k→badAt s j=false)∧wr=w) (fun i _=>s.size - (intOf i).toNat)
 case atStart=>exact ⟨0,by omega,rfl,lh fun j hj=>by omega,rfl⟩
 case round=>
  obtain ⟨k,hk,rfl,H,rfl⟩:=hrel
  by_cases hlt:k<s.size
  · have hf:=jld s k hlt wr
    cases hb:badAt s k with
    |false=>
     rw [hb] at hf;have HF:=lh hf;clear hf;go_wp2_with (go_at_call 180;refine HF.out.mono ?_;rintro e w1 ⟨rfl,rfl⟩);go_roundw
     case measure=>simp [intOf];omega
     case rel=>exact ⟨k+1,by omega,by go_num,lh (ji H.out hb),by first|rfl|trivial⟩
    |true=>
     rw [hb] at hf;have HF:=lh hf;clear hf;go_wp2_with (go_at_call 180;refine HF.out.mono ?_;rintro e w1 ⟨rfl,rfl⟩);go_ret;exact ⟨(by rw [jlr H.out hlt hb];rfl),Below.refl _ _⟩
  · go_wp2;go_ret
    have hks:k=s.size:=by omega
    subst hks;exact ⟨(by rw [jjd H.out];rfl),Below.refl _ _⟩
theorem jsr (s:ByteArray):nameS s=(decide (0<s.size)&&decide (s.size≤16)&&decide (leadN s=s.size)&&!wordS s):=by
 unfold nameS formedS
 cases decide (0<s.size) <;> cases decide (s.size≤16) <;> simp
theorem jdx (s:ByteArray) (hs:s.size≤281474976710656) (w:World):Calls Tryz.prog 222 #[.string s] w fun e w'=>e=.returned (.bool (nameS s))∧Below w.heap.size w w':=by
 have hr:=Below.refl w.heap.size w;have HE:=lh (jsr s);go_enter Tryz.func222,Tryz.ntmps222
 go_wp2_with (first
  |(go_at_call 145;refine (jd3 s hs _).mono ?_;rintro e w1 ⟨rfl,hb⟩;have hr:=Y1 hr hb;clear hb)
  |(go_at_call 246;refine (jjo s hs _).mono ?_;rintro e w1 ⟨rfl,hb⟩;have hr:=Y1 hr hb;clear hb))
 all_goals
  go_ret;refine ⟨qk ?_,hr⟩;rw [HE.out,Bool.eq_iff_iff];simp at *;try (intros;first|omega|simp_all)
end Go.Proofs.YthcompcjphaahaaGreatDoor
