/- TruthOne: for every two data the law returns true, and its arguments read as before. No condition. -/
import Derived.Test.YthcompcjphaahaaGreatDoorTie
import Derived.SevenTiedAt
import Derived.Lay
import Derived.Stop.Joined
import Derived.Test.YthcompcjphaahaaGreatDoora10
import Derived.Test.YthcompcjphaahaaGreatDoora51
namespace Go.Proofs.YthcompcjphaahaaGreatDoor.truthOne
open Go.ChangeShapes Go.WideShapes Go.ChangeAt Go.RowKit
open Go.ChangeMaps (open_string shut_string)
set_option linter.unusedVariables false
set_option linter.unusedSimpArgs false
theorem arr4c {cs:Array Value} (h:cs.size=4):∃ a b c d,cs=#[a,b,c,d]:=by
 obtain ⟨l⟩:=cs
 match l,h with
 | [a,b,c,d],_=>exact ⟨a,b,c,d,rfl⟩
theorem dat_of19 {H:Type} {enc:TypeId × Value→H} {w:World} {c0 c1 c2 c3:Value} (h:Rdg enc Tryz.prog w 42 [c0,c1,c2,c3]):∃ d:DatV,c0=.int .i64 d.kind∧c1=.bool d.neg∧c2=.int .u64 d.num∧c3=.string d.text∧(Lit.int .u64 d.num).wf=true∧0≤d.num∧d.text.size≤140737488351232:=by
 obtain ⟨x0,e0,w0⟩:=rdg_int Tryz.underlying3 (rdg_field Tryz.underlying42 h 0 3 0 1 rfl (by kernel_rfl))
 obtain ⟨x1,e1⟩:=rdg_bool Tryz.underlying4 (rdg_field Tryz.underlying42 h 1 4 1 1 rfl (by kernel_rfl))
 obtain ⟨x2,e2,w2⟩:=rdg_int Tryz.underlying27 (rdg_field Tryz.underlying42 h 2 27 2 1 rfl (by kernel_rfl))
 obtain ⟨x3,e3,w3⟩:=rdg_string Tryz.underlying9 (rdg_field Tryz.underlying42 h 3 9 3 1 rfl (by kernel_rfl))
 simp at e0 e1 e2 e3
 exact ⟨⟨x0,x1,x2,x3⟩,e0,e1,e2,e3,w2,(u64_wf w2).1,w3⟩
set_option maxRecDepth 100000 in
theorem lifted (os:Os) (started:os.Started) (H:Type) (enc:TypeId × Value→H):
  ReturnsInHanded {} Tryz.checked os 5 .any (fun w args=>(Rows.truthOneSpec.pre enc Tryz.prog Tryz.f5 Rows.truthOneRow.domain false w args∧laidMetH Tryz.prog Rows.truthOneRow.laid w)∧sizedMet enc Tryz.prog Tryz.f5 (OpenSpec.ofChange Rows.truthOneSpec) false w args)
   (Rows.truthOneSpec.post enc Tryz.prog Tryz.f5 false true false false):=by
 refine handed_shaped_and (C:=Tryz.checked) (X:=fun w _=>laidMetH Tryz.prog Rows.truthOneRow.laid w) (fun _ _ _ hh h=>h.of_heap hh) own started (by kernel_rfl) Tryz.func5
  (ChangeSpec.witness_shaped (enc:=enc) (C:=Tryz.checked) (os:=os) (X:=fun w _=>laidMetH Tryz.prog Rows.truthOneRow.laid w) false (World.laidAll Tryz.prog os Rows.truthOneRow.laid) #[.agg #[.int .i64 0,.bool false,.int .u64 0,.string ⟨#[]⟩],.agg #[.int .i64 0,.bool false,.int .u64 0,.string ⟨#[]⟩]] 8 (World.laidAll_os _ _ _)
   (World.shaped_of_ZipB (by kernel_rfl) (by kernel_rfl)) (by kernel_rfl) (by kernel_rfl) (by kernel_rfl)
   (by rw [MakeChecks.laidMetH_plain _ _ _ (by kernel_rfl)];exact laidMet_laidAll _ (by kernel_rfl) (by kernel_rfl))) ?_
 intro W base args ds gs before hval0 hW hcnd hsz hL hsh _
 have hLib:=lib_of hsh hL
 have hval:∀ (j:Nat) t v,Tryz.f5.params[j]?=some t→args[j]?=some v→Value.okWide Tryz.prog W .any base t v:=hval0
 have hW':=hW
 obtain ⟨p,q,hA0,hV,rfl,hfz,hnd⟩:=hW
 have hA:DataW.TrodAll enc Tryz.prog W 0 (fun _=>true) true Tryz.f5.params.toList args.toList ds p:=hA0
 rw [Tryz.params5] at hA hval
 obtain ⟨rfl,rfl⟩:=trodVars_none hV
 clear hA0 hval0
 simp only [List.append_nil] at hW'
 have hlt:=hW'.lt
 have hA1:=hA
 have hsz1:(DataW.weightsEach Tryz.prog (Tryz.f5.params.toList++[]) (ds++[])).all (·≤reachBytes)=true:=hsz
 rw [Tryz.params5,List.append_nil,List.append_nil] at hsz1
 have hrd:=rdg_all _ _ _ _ hA1 (fun n hn=>by simpa using List.all_eq_true.1 hsz1 n hn)
 obtain ⟨v0,vs0,d0,ds0,p0,q0,hargs,rfl,rfl,h0,r0⟩:=trodAll_cons hA
 obtain ⟨v1,vs1,d1,ds1,p1,q1,rfl,rfl,rfl,h1,r1⟩:=trodAll_cons r0
 obtain ⟨rfl,rfl,rfl⟩:=trodAll_nil r1
 obtain rfl:args=#[v0,v1]:=by cases args;simp_all
 have g0:=hrd 0 42 v0 rfl rfl
 obtain ⟨cs0,rfl,hz0⟩:=ok_agg (by first|exact .inl ⟨_,Tryz.underlying42⟩|exact .inr ⟨_,_,Tryz.underlying42⟩) (hval 0 42 v0 rfl rfl)
 have g1:=hrd 1 42 v1 rfl rfl
 obtain ⟨cs1,rfl,hz1⟩:=ok_agg (by first|exact .inl ⟨_,Tryz.underlying42⟩|exact .inr ⟨_,_,Tryz.underlying42⟩) (hval 1 42 v1 rfl rfl)
 obtain ⟨y0,y1,y2,y3,rfl⟩:=arr4c (hz0.trans (by kernel_rfl))
 obtain ⟨da,rfl,rfl,rfl,rfl,hda⟩:=dat_of19 (by simpa [Value.cells] using g0)
 obtain ⟨y0,y1,y2,y3,rfl⟩:=arr4c (hz1.trans (by kernel_rfl))
 obtain ⟨db,rfl,rfl,rfl,rfl,hdb⟩:=dat_of19 (by simpa [Value.cells] using g1)
 refine (walkOne da db hda hdb W hLib).mono fun e W' ⟨he,bel⟩=>?_
 subst he
 exact ⟨_,rfl,_,_,_,[],_,[],hW',trodAll_mk1 (shut_bool Tryz.underlying4 _),trodAll_below laidOut bel [42,42] _ _ _ (by kernel_rfl) hA1 hlt,rfl,bel.frame _,fun h=>by cases h⟩
theorem over:Rows.TruthOneSaid:=
 OpenClaim.holds_of_wide 5 Tryz.f5 rfl rfl rfl rfl rfl rfl rfl ⟨rfl,rfl,rfl,rfl,rfl⟩ rfl rfl rfl rfl rfl (by kernel_rfl) Tryz.func5 (by kernel_rfl)
  (of_decide_eq_true (by kernel_rfl)) (by unfold Func.isWrapper;first|(rw [if_pos (by decide+kernel)];kernel_rfl)|(rw [if_neg (by decide+kernel)];exact ⟨rfl,rfl⟩))
  (fun os started H enc _=>lifted os started H enc)
theorem proved:Rows.TruthOneCardSaid:=
 Claim7.holds_tied_plain_at .later [] [.data, .data, .data, .data, .sentinel, .sentinel, .pinned] true (true, "84b5918574e11c7cd981e71bcda5b9357f128e79188745b0d55e86bbca0eaf35") true
  over (fun _ h=>by cases h) (by kernel_rfl) (fun _ h=>by cases h) truthOne_row_tie rfl ⟨rfl,rfl⟩ (by kernel_rfl) rfl
  (fun f fn hf hfn=>by
   obtain rfl:f=5:=Option.some.inj ((show Tryz.prog.funcNamed Rows.truthOneRow.func=some 5 by kernel_rfl).symm.trans hf) |>.symm
   obtain rfl:fn=Tryz.f5:=(Option.some.inj (Tryz.func5.symm.trans hfn)).symm
   exact ⟨by kernel_rfl,fun j t ht=>by
    rw [Tryz.params5] at ht
    have hm:t∈[42,42]:=by simpa using Array.mem_of_getElem? ht
    have hall:([42,42].all fun u=>!Tryz.prog.wantsStandIn u)=true:=by kernel_rfl
    exact (show Tryz.prog.wantsStandIn t=false by simpa using List.all_eq_true.1 hall t hm)⟩)
  (by kernel_rfl)
#print axioms proved
end Go.Proofs.YthcompcjphaahaaGreatDoor.truthOne
