/- TruthHolds: for every list of types, question (a type, a tree, a value) and two operands the law returns true, and its arguments read as before. No condition. -/
import Derived.Test.YthcompcjphaahaaGreatDoorTie
import Derived.SevenTiedAt
import Derived.Lay
import Derived.Stop.Joined
import Derived.Test.YthcompcjphaahaaGreatDoorh10
import Derived.Test.YthcompcjphaahaaGreatDoorh50
set_option maxRecDepth 100000
set_option maxHeartbeats 8000000
set_option linter.unusedVariables false
set_option linter.unusedSimpArgs false
namespace Go.Proofs.YthcompcjphaahaaGreatDoor.truthHolds
open Go.ChangeShapes Go.WideShapes Go.ChangeAt Go.RowKit
open Go.ChangeMaps (open_string shut_string)
theorem jvp {cs:Array Value} (h:cs.size=9):∃ a b c d e f g i j,cs=#[a,b,c,d,e,f,g,i,j]:=by
 obtain ⟨l⟩:=cs
 match l,h with
 | [a,b,c,d,e,f,g,i,j],_=>exact ⟨a,b,c,d,e,f,g,i,j,rfl⟩
theorem jvj {cs:Array Value} (h:cs.size=8):∃ a b c d e f g i,cs=#[a,b,c,d,e,f,g,i]:=by
 obtain ⟨l⟩:=cs
 match l,h with
 | [a,b,c,d,e,f,g,i],_=>exact ⟨a,b,c,d,e,f,g,i,rfl⟩
theorem jrt {H:Type} {enc:TypeId × Value→H} {w:World} {c:List Value} (hl:c.length=4) (h:Rdg enc Tryz.prog w 34 c):∃ o:Opd,c=opdC o∧OpX o:=by
 obtain ⟨fuel,d,p,h1,h2⟩:=h;exact jqe (enc:=enc) (w:=w) (m:=fuel) hl ⟨d,p,h1,h2⟩
theorem lifted (os:Os) (started:os.Started) (H:Type) (enc:TypeId × Value→H):
  ReturnsInHanded {} Tryz.checked os 3 .any (fun w args=>(Rows.truthHoldsSpec.pre enc Tryz.prog Tryz.f3 Rows.truthHoldsRow.domain false w args∧laidMetH Tryz.prog Rows.truthHoldsRow.laid w)∧sizedMet enc Tryz.prog Tryz.f3 (OpenSpec.ofChange Rows.truthHoldsSpec) false w args)
   (Rows.truthHoldsSpec.post enc Tryz.prog Tryz.f3 false true false false):=by
 refine ja1 (C:=Tryz.checked) (X:=fun w _=>laidMetH Tryz.prog Rows.truthHoldsRow.laid w) (fun _ _ _ hh h=>h.of_heap hh) own started (by kernel_rfl) Tryz.func3
  (ChangeSpec.witness_shaped (enc:=enc) (C:=Tryz.checked) (os:=os) (X:=fun w _=>laidMetH Tryz.prog Rows.truthHoldsRow.laid w) false (World.laidAll Tryz.prog os Rows.truthHoldsRow.laid) #[.slice none 0 0,.agg #[.int .i64 0,.int .i64 0,.int .i64 0,.slice none 0 0,.slice none 0 0,.int .i64 0,.int .u64 0,.string ⟨#[]⟩,.slice none 0 0],.agg #[.int .i64 0,.string ⟨#[]⟩,.bool false,.int .u64 0,.int .i64 0,.string ⟨#[]⟩,.bool false,.int .u64 0]] 8 (World.laidAll_os _ _ _)
   (World.shaped_of_ZipB (by kernel_rfl) (by kernel_rfl)) (by kernel_rfl) (by kernel_rfl) (by kernel_rfl)
   (by rw [MakeChecks.laidMetH_plain _ _ _ (by kernel_rfl)];exact laidMet_laidAll _ (by kernel_rfl) (by kernel_rfl))) ?_
 intro W base args ds gs before hval0 hW hcnd hsz hL hsh _;have hLib:=jum hsh hL;have hval:∀ (j:Nat) t v,Tryz.f3.params[j]?=some t→args[j]?=some v→Value.okWide Tryz.prog W .any base t v:=hval0;have hW':=hW;obtain ⟨p,q,hA0,hV,rfl,hfz,hnd⟩:=hW;have hA:DataW.TrodAll enc Tryz.prog W 0 (fun _=>true) true Tryz.f3.params.toList args.toList ds p:=hA0;rw [Tryz.params3] at hA hval;obtain ⟨rfl,rfl⟩:=trodVars_none hV;clear hA0 hval0;simp only [List.append_nil] at hW';have hlt:=hW'.lt;have hA1:=hA;have hsz1:(DataW.weightsEach Tryz.prog (Tryz.f3.params.toList++[]) (ds++[])).all (·≤reachBytes)=true:=hsz;rw [Tryz.params3,List.append_nil,List.append_nil] at hsz1;have hrd:=jl8 _ _ _ _ hA1 (fun n hn=>by simpa using List.all_eq_true.1 hsz1 n hn);obtain ⟨v0,vs0,d0,ds0,p0,q0,hargs,rfl,rfl,h0,r0⟩:=trodAll_cons hA;obtain ⟨v1,vs1,d1,ds1,p1,q1,rfl,rfl,rfl,h1,r1⟩:=trodAll_cons r0;obtain ⟨v2,vs2,d2,ds2,p2,q2,rfl,rfl,rfl,h2,r2⟩:=trodAll_cons r1;obtain ⟨rfl,rfl,rfl⟩:=trodAll_nil r2
 obtain rfl:args=#[v0,v1,v2]:=by cases args;simp_all
 have g1:=hrd 1 32 v1 rfl rfl;obtain ⟨cs1,rfl,hz1⟩:=jph (by first|exact .inl ⟨_,Tryz.underlying32⟩|exact .inr ⟨_,_,Tryz.underlying32⟩) (hval 1 32 v1 rfl rfl);have g2:=hrd 2 35 v2 rfl rfl;obtain ⟨cs2,rfl,hz2⟩:=jph (by first|exact .inl ⟨_,Tryz.underlying35⟩|exact .inr ⟨_,_,Tryz.underlying35⟩) (hval 2 35 v2 rfl rfl);obtain ⟨ao,len,cap,L,rfl,hcap,hm,hcp,H⟩:=Pa.jmt (jms 6 Tryz.underlying22 (by kernel_rfl) (hval 0 22 v0 rfl rfl) (hrd 0 22 v0 rfl rfl));obtain ⟨z0,z1,z2,z3,z4,z5,z6,z7,z8,rfl⟩:=jvp (hz1.trans (by kernel_rfl));have s0:=qe Tryz.underlying32 g1 0 3 0 1 rfl (by kernel_rfl);have s1:=qe Tryz.underlying32 g1 1 26 1 4 rfl (by kernel_rfl);have s2:=qe Tryz.underlying32 g1 2 30 5 4 rfl (by kernel_rfl);obtain ⟨t,e0,w0⟩:=yl Tryz.underlying3 s0;simp [Value.cells] at e0;subst e0;obtain ⟨T,hT,HX,HT⟩:=jvy (cs:=#[z1,z2,z3,z4]) ((rfl:(#[z1,z2,z3,z4]:Array Value).size=4).trans (by kernel_rfl)) (by simpa [Value.cells] using s1)
 injection hT with hT
 simp only [Array.mk.injEq,List.cons.injEq,and_true] at hT;obtain ⟨rfl,rfl,rfl,rfl⟩:=hT;obtain ⟨V,hV,HV⟩:=Pa.jvb (cs:=#[z5,z6,z7,z8]) ((rfl:(#[z5,z6,z7,z8]:Array Value).size=4).trans (by kernel_rfl)) (by simpa [Value.cells] using s2);unfold Pa.valV at hV
 injection hV with hV
 simp only [Array.mk.injEq,List.cons.injEq,and_true] at hV;obtain ⟨rfl,rfl,rfl,rfl⟩:=hV;obtain ⟨y0,y1,y2,y3,y4,y5,y6,y7,rfl⟩:=jvj (hz2.trans (by kernel_rfl));have s1:=jir Tryz.underlying35 g2 0 4 (by omega) (by kernel_rfl);have s2:=jir Tryz.underlying35 g2 1 4 (by omega) (by kernel_rfl);obtain ⟨o0,hT,hx0⟩:=jrt (c:=[y0,y1,y2,y3]) rfl (by simpa [Value.cells] using s1);obtain ⟨o1,hU,hx1⟩:=jrt (c:=[y4,y5,y6,y7]) rfl (by simpa [Value.cells] using s2);unfold opdC at hT hU;simp only [List.cons.injEq,and_true] at hT hU;obtain ⟨rfl,rfl,rfl,rfl⟩:=hT;obtain ⟨rfl,rfl,rfl,rfl⟩:=hU;refine (walkHolds L ao len cap hm hcap t _ _ T V o0 o1 hx0 hx1 W H HX HT HV hLib).mono fun e W' ⟨he,bel⟩=>?_;subst he;exact ⟨_,rfl,_,_,_,[],_,[],hW',trodAll_mk1 (shut_bool Tryz.underlying4 _),Z1 laidOut bel [22,32,35] _ _ _ (by kernel_rfl) hA1 hlt,rfl,bel.frame _,fun h=>by cases h⟩
theorem j0:(Rows.truthHoldsRow.wf (OpenSpec.ofChange Rows.truthHoldsSpec))=true:=by kernel_rfl
theorem j1:(laidOutB Tryz.prog)=true:=by kernel_rfl
theorem j2:(mapsRowed Tryz.prog)=true:=by kernel_rfl
theorem j3:(Tryz.f3.params.all (Tryz.prog.readableRec ·))=true:=by kernel_rfl
theorem j4:(namedTie Tryz.prog Rows.truthHoldsRow.named Rows.truthHoldsSpec.vars)=true:=by kernel_rfl
theorem j5:((Rows.truthHoldsRow.inPlace==Tryz.prog.inPlace 3))=true:=by kernel_rfl
theorem j6:((Rows.truthHoldsRow.unfollowed==Tryz.prog.unfollowed 3))=true:=by kernel_rfl
theorem j7:((Rows.truthHoldsRow.recurses==Tryz.prog.recurses 3))=true:=by kernel_rfl
theorem j8:((Rows.truthHoldsRow.named==Tryz.prog.varsNamed 3))=true:=by kernel_rfl
theorem j9:((Rows.truthHoldsRow.maps==(Tryz.f3.params.toList++Rows.truthHoldsSpec.plain.varTypes Tryz.prog).any (Tryz.prog.mapsRec ·)))=true:=by kernel_rfl
theorem j10:((Rows.truthHoldsRow.ifaces==(Tryz.f3.params.toList++Rows.truthHoldsSpec.plain.varTypes Tryz.prog).any (Tryz.prog.ifacesRec ·)))=true:=by kernel_rfl
theorem j11:((Rows.truthHoldsRow.loops==(Tryz.f3.params.toList++Rows.truthHoldsSpec.plain.varTypes Tryz.prog).any (Tryz.prog.loopsFrom ·)))=true:=by kernel_rfl
theorem j12:((Rows.truthHoldsRow.wideKeys==(Tryz.f3.params.toList++Rows.truthHoldsSpec.plain.varTypes Tryz.prog++Tryz.f3.resultTypes.toList).any (Tryz.prog.wideKeysFrom ·)))=true:=by kernel_rfl
theorem j13:(Rows.truthHoldsSpec.vars.all (Tryz.prog.varReadable ·))=true:=by kernel_rfl
theorem j14:((Rows.truthHoldsRow.plainKeys==Tryz.prog.plainKeys))=true:=by kernel_rfl
theorem j15:((Rows.truthHoldsRow.lifted==Tryz.prog.liftsFinal))=true:=by kernel_rfl
theorem j16:((Tryz.prog.make==some Rows.truthHoldsRow.make))=true:=by kernel_rfl
theorem j17:((Rows.truthHoldsRow.veiled==(Tryz.f3.params.toList++Rows.truthHoldsSpec.plain.varTypes Tryz.prog++Tryz.f3.resultTypes.toList).any (Tryz.prog.veiledRec ·)))=true:=by kernel_rfl
theorem j18:(Rows.truthHoldsRow.veiledFits Tryz.prog Tryz.f3.params.toList (Tryz.f3.params.toList++Rows.truthHoldsSpec.plain.varTypes Tryz.prog++Tryz.f3.resultTypes.toList))=true:=by kernel_rfl
theorem jvu {a b:Bool} (h1:a=true) (h2:b=true):(a&&b)=true:=by rw [h1,h2];rfl
theorem closedJ:joinedFacts Tryz.prog 3 Tryz.f3 Rows.truthHoldsSpec Rows.truthHoldsRow=true:=by
 unfold joinedFacts
 repeat' with_reducible refine jvu ?_ ?_
 all_goals first|with_reducible exact j0|with_reducible exact j1|with_reducible exact j2|with_reducible exact j3|with_reducible exact j4|with_reducible exact j5|with_reducible exact j6|with_reducible exact j7|with_reducible exact j8|with_reducible exact j9|with_reducible exact j10|with_reducible exact j11|with_reducible exact j12|with_reducible exact j13|with_reducible exact j14|with_reducible exact j15|with_reducible exact j16|with_reducible exact j17|with_reducible exact j18|kernel_rfl
theorem over:Rows.TruthHoldsSaid:=
 OpenClaim.holds_of_wide 3 Tryz.f3 rfl rfl rfl rfl rfl rfl rfl ⟨rfl,rfl,rfl,rfl,rfl⟩ rfl rfl rfl rfl rfl (by kernel_rfl) Tryz.func3 closedJ
  (of_decide_eq_true (by kernel_rfl)) (by unfold Func.isWrapper;first|(rw [if_pos (by decide+kernel)];kernel_rfl)|(rw [if_neg (by decide+kernel)];exact ⟨rfl,rfl⟩))
  (fun os started H enc _=>lifted os started H enc)
theorem proved:Rows.TruthHoldsCardSaid:=
 Claim7.holds_tied_plain_at .later [] [.data, .data, .data, .data, .sentinel, .sentinel, .pinned] true (true, "84b5918574e11c7cd981e71bcda5b9357f128e79188745b0d55e86bbca0eaf35") true
  over (fun _ h=>by cases h) (by kernel_rfl) (fun _ h=>by cases h) truthHolds_row_tie rfl ⟨rfl,rfl⟩ (by kernel_rfl) rfl
  (fun f fn hf hfn=>by
   obtain rfl:f=3:=Option.some.inj ((show Tryz.prog.funcNamed Rows.truthHoldsRow.func=some 3 by kernel_rfl).symm.trans hf) |>.symm;obtain rfl:fn=Tryz.f3:=(Option.some.inj (Tryz.func3.symm.trans hfn)).symm
   exact ⟨by kernel_rfl,fun j t ht=>by
    rw [Tryz.params3] at ht
    have hm:t∈[22,32,35]:=by simpa using Array.mem_of_getElem? ht
    have hall:([22,32,35].all fun u=>!Tryz.prog.wantsStandIn u)=true:=by kernel_rfl
    exact (show Tryz.prog.wantsStandIn t=false by simpa using List.all_eq_true.1 hall t hm)⟩)
  (by kernel_rfl)
#print axioms proved
end Go.Proofs.YthcompcjphaahaaGreatDoor.truthHolds
