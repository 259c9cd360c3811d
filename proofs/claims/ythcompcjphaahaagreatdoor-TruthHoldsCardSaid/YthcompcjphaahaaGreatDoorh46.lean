/- or, not and the closures that or passes on: a filter, to whatever depth. -/
import Derived.Laws.EntriesVeiled
import Derived.Test.YthcompcjphaahaaGreatDoorh45
set_option maxRecDepth 100000
set_option maxHeartbeats 8000000
set_option linter.unusedVariables false
namespace Go.Proofs.YthcompcjphaahaaGreatDoor
open Go.RowKit
def InX (w:World) (bp tb:Nat) (zs:List (Nat × Obj)) (N:Nat) (r:PR XT) (x:Ending) (w':World):Prop:=∃ (T:XT) (e:Nat) (l':List Tk),x=.returned (.tuple #[.agg #[.int .i64 T.op,.int .i64 T.rel,.slice T.aa T.an T.ac,.slice T.ka T.kn T.kc],.int .i64 (e:Nat)])∧PSt w bp tb zs l' w'∧XAt w' (fun b=>N≤b) T∧AnsX r T e l'
theorem wrapX {w wx w':World} {bp tb:Nat} {zs:List (Nat × Obj)} {l:List Tk} {r:PR XT} {x:Ending} (hp:PSt w bp tb zs l wx) (h:XTo wx bp tb r x w'):InX w bp tb zs wx.heap.size r x w':=by
 obtain ⟨ho,T,e,l',rfl,hpat,hx,ha⟩:=h;exact ⟨T,e,l',rfl,hp.skip hpat ho,hx,ha⟩
def NotC (bp tb k n:Nat):Prop:=∀ (l:List Tk) (w:World),PAt w bp tb l→Vd l→l.length≤99→Calls Tryz.prog 82 #[.pointer (some ⟨bp,0,none⟩),.int .i64 (n:Nat)] w (XTo w bp tb (notP k l))
def OrC (bp tb k n:Nat):Prop:=∀ (l:List Tk) (w:World),PAt w bp tb l→Vd l→l.length≤99→Calls Tryz.prog 43 #[.pointer (some ⟨bp,0,none⟩),.int .i64 (n:Nat)] w (XTo w bp tb (orP k l))
theorem juf {V:World} {act:Act} {Q:Ending→World→Prop} {a0 a1 a2 a3:Value} {e:Int} (hd:act.defers=[]) (rb:Nat) (h2:act.tmps.getD 2 undef=.pointer (some ⟨rb,0,none⟩)) (h3:act.tmps.getD 3 undef=.int .i64 e) (hr:V.heap[rb]?=some (.cells #[a0,a1,a2,a3] 26))
  (hQ:Q (.returned (.tuple #[.agg #[a0,a1,a2,a3],.int .i64 e])) V):bodyPost Tryz.prog Tryz.f81 Q Exit.ret act V:=by
 refine bodyPost_ret (v:=.tuple #[.agg #[a0,a1,a2,a3],.int .i64 e]) ?_ hd hQ;have hl2:=run_loadVar_row (P:=Tryz.prog) V rb 26 26 #[a0,a1,a2,a3] _ _ hr Tryz.underlying26 rfl (by kernel_rfl);rw [Array.getD_eq_getD_getElem?] at h2 h3;simp [results,Tryz.results81,asAddr,hl2,h2,h3]
theorem ju4 {V:World} {act:Act} {Q:Ending→World→Prop} {a0 a1 a2 a3:Value} {e:Int} (hd:act.defers=[]) (rb:Nat) (h2:act.tmps.getD 2 undef=.pointer (some ⟨rb,0,none⟩)) (h3:act.tmps.getD 3 undef=.int .i64 e) (hr:V.heap[rb]?=some (.cells #[a0,a1,a2,a3] 26))
  (hQ:Q (.returned (.tuple #[.agg #[a0,a1,a2,a3],.int .i64 e])) V):bodyPost Tryz.prog Tryz.f83 Q Exit.ret act V:=by
 refine bodyPost_ret (v:=.tuple #[.agg #[a0,a1,a2,a3],.int .i64 e]) ?_ hd hQ;have hl2:=run_loadVar_row (P:=Tryz.prog) V rb 26 26 #[a0,a1,a2,a3] _ _ hr Tryz.underlying26 rfl (by kernel_rfl);rw [Array.getD_eq_getD_getElem?] at h2 h3;simp [results,Tryz.results83,asAddr,hl2,h2,h3]
theorem endOr {V:World} {act:Act} {Q:Ending→World→Prop} {a0 a1 a2 a3:Value} {e:Int} (hd:act.defers=[]) (rb:Nat) (h2:act.tmps.getD 4 undef=.pointer (some ⟨rb,0,none⟩)) (h3:act.tmps.getD 5 undef=.int .i64 e) (hr:V.heap[rb]?=some (.cells #[a0,a1,a2,a3] 26))
  (hQ:Q (.returned (.tuple #[.agg #[a0,a1,a2,a3],.int .i64 e])) V):bodyPost Tryz.prog Tryz.f43 Q Exit.ret act V:=by
 refine bodyPost_ret (v:=.tuple #[.agg #[a0,a1,a2,a3],.int .i64 e]) ?_ hd hQ;have hl2:=run_loadVar_row (P:=Tryz.prog) V rb 26 26 #[a0,a1,a2,a3] _ _ hr Tryz.underlying26 rfl (by kernel_rfl);rw [Array.getD_eq_getD_getElem?] at h2 h3;simp [results,Tryz.results43,asAddr,hl2,h2,h3]
theorem endNot {V:World} {act:Act} {Q:Ending→World→Prop} {a0 a1 a2 a3:Value} {e:Int} (hd:act.defers=[]) (rb:Nat) (h2:act.tmps.getD 4 undef=.pointer (some ⟨rb,0,none⟩)) (h3:act.tmps.getD 5 undef=.int .i64 e) (hr:V.heap[rb]?=some (.cells #[a0,a1,a2,a3] 26))
  (hQ:Q (.returned (.tuple #[.agg #[a0,a1,a2,a3],.int .i64 e])) V):bodyPost Tryz.prog Tryz.f82 Q Exit.ret act V:=by
 refine bodyPost_ret (v:=.tuple #[.agg #[a0,a1,a2,a3],.int .i64 e]) ?_ hd hQ;have hl2:=run_loadVar_row (P:=Tryz.prog) V rb 26 26 #[a0,a1,a2,a3] _ _ hr Tryz.underlying26 rfl (by kernel_rfl);rw [Array.getD_eq_getD_getElem?] at h2 h3;simp [results,Tryz.results82,asAddr,hl2,h2,h3]
theorem jv5:Enters 81:=enters_of Tryz.func81 (by kernel_rfl) rfl
theorem jv8:Enters 83:=enters_of Tryz.func83 (by kernel_rfl) rfl
theorem js5 (bp tb k n:Nat) (HN:NotC bp tb k n) (b0 b1:Nat) (l:List Tk) (w:World) (h0:w.heap[b0]?=some (.cells #[.pointer (some ⟨bp,0,none⟩)] 132)) (h1:w.heap[b1]?=some (.cells #[.int .i64 (n:Nat)] 3)) (hp:PAt w bp tb l) (hv:Vd l) (h99:l.length≤99):
  Calls Tryz.prog 81 #[.pointer (some ⟨b0,0,none⟩),.pointer (some ⟨b1,0,none⟩)] w (XTo w bp tb (notP k l)):=by
 have c0:w.cell? ⟨b0,0,none⟩=some (.pointer (some ⟨bp,0,none⟩)):=ja h0 rfl;have c1:w.cell? ⟨b1,0,none⟩=some (.int .i64 (n:Nat)):=ja h1 rfl;have k0:=lt_of_block h0;have k1:=lt_of_block h1
 have m0:¬b0=w.heap.size:=by omega
 have m1:¬b1=w.heap.size:=by omega
 have HP0:=lh (show PSt w bp tb [(w.heap.size,(.cells #[.int .i64 0,.int .i64 0,.slice none 0 0,.slice none 0 0] 26))] l (w.alloc (.cells #[.int .i64 0,.int .i64 0,.slice none 0 0,.slice none 0 0] 26)) from (PSt.start hp).new _);have HNN:=lh (HN l (w.alloc (.cells #[.int .i64 0,.int .i64 0,.slice none 0 0,.slice none 0 0] 26)) HP0.out.pat hv h99);clear h0 h1 hp hv h99;go_enter Tryz.func81,Tryz.ntmps81;go_wp2_with (go_at_call 82;refine (HNN.out ).mono ?_;rintro x w1 hxx;obtain ⟨T,e1,l1,rfl,hp1,hx1,ha1⟩:=wrapX HP0.out hxx;have HP1:=lh hp1;have HX1:=lh hx1;have HA1:=lh ha1;have hsz1:=lt_of_block (HP0.out.own _ List.mem_cons_self).1;have hzz:=(hp1.own _ List.mem_cons_self).1;obtain ⟨r0,f0,r1,f1,r2,f2,r3,f3⟩:=bf4 hzz;clear hzz;clear hxx hp1 hx1 ha1);exact juf rfl w.heap.size rfl rfl (qw (HP1.out.own _ List.mem_cons_self).1 _ _ _ _) (Z0 HP1.out HX1.out (fun b hb hl=>by omega) HA1.out)
theorem jtx (bp tb k n:Nat) (HN:NotC bp tb k n) (b0 b1 b2:Nat) (l:List Tk) (w:World) (h0:w.heap[b0]?=some (.cells #[.pointer (some ⟨bp,0,none⟩)] 132)) (h1:w.heap[b1]?=some (.cells #[.int .i64 (n:Nat)] 3)) (h2:w.heap[b2]?=some (.cells #[(.func (.func 81) #[] #[.pointer (some ⟨b0,0,none⟩),.pointer (some ⟨b1,0,none⟩)])] 133)) (hp:PAt w bp tb l) (hv:Vd l) (h99:l.length≤99):
  Calls Tryz.prog 83 #[.pointer (some ⟨b0,0,none⟩),.pointer (some ⟨b2,0,none⟩)] w (XTo w bp tb (serP 5 kAND (notP k) l)):=by
 have c0:w.cell? ⟨b0,0,none⟩=some (.pointer (some ⟨bp,0,none⟩)):=ja h0 rfl;have c2:w.cell? ⟨b2,0,none⟩=some (.func (.func 81) #[] #[.pointer (some ⟨b0,0,none⟩),.pointer (some ⟨b1,0,none⟩)]):=ja h2 rfl;have k0:=lt_of_block h0;have k2:=lt_of_block h2
 have m0:¬b0=w.heap.size:=by omega
 have m2:¬b2=w.heap.size:=by omega
 have HP0:=lh (show PSt w bp tb [(w.heap.size,(.cells #[.int .i64 0,.int .i64 0,.slice none 0 0,.slice none 0 0] 26))] l (w.alloc (.cells #[.int .i64 0,.int .i64 0,.slice none 0 0,.slice none 0 0] 26)) from (PSt.start hp).new _)
 have hne:b0≠bp∧b1≠bp:=by
  obtain ⟨_,_,off,cap,hbx,_⟩:=hp;refine ⟨fun e=>?_,fun e=>?_⟩
  · subst e;rw [h0] at hbx;cases hbx
  · subst e;rw [h1] at hbx;cases hbx
 have HSE:=lh (jcy (notP k) (zx k) 5 kAND (by decide) bp tb 81 #[.pointer (some ⟨b0,0,none⟩),.pointer (some ⟨b1,0,none⟩)] jv5 l (w.alloc (.cells #[.int .i64 0,.int .i64 0,.slice none 0 0,.slice none 0 0] 26)) HP0.out.pat hv h99 (fun wx l' ho hpx hvx hx99=>
  js5 bp tb k n HN b0 b1 l' wx (ho.same (je h0) hne.1) (ho.same (je h1) hne.2) hpx hvx hx99))
 clear h0 h1 h2 hp hv h99;go_enter Tryz.func83,Tryz.ntmps83;go_wp2_with (go_at_call 84;refine (HSE.out ).mono ?_;rintro x w1 hxx;obtain ⟨T,e1,l1,rfl,hp1,hx1,ha1⟩:=wrapX HP0.out hxx;have HP1:=lh hp1;have HX1:=lh hx1;have HA1:=lh ha1;have hsz1:=lt_of_block (HP0.out.own _ List.mem_cons_self).1;have hzz:=(hp1.own _ List.mem_cons_self).1;obtain ⟨r0,f0,r1,f1,r2,f2,r3,f3⟩:=bf4 hzz;clear hzz;clear hxx hp1 hx1 ha1);exact ju4 rfl w.heap.size rfl rfl (qw (HP1.out.own _ List.mem_cons_self).1 _ _ _ _) (Z0 HP1.out HX1.out (fun b hb hl=>by omega) HA1.out)
theorem jrp (bp tb k n:Nat) (HN:NotC bp tb k n):OrC bp tb k n:=by
 intro l w hp hv h99;have hmf':=hmf
 have e1:(w.alloc (.cells #[.pointer (some ⟨bp,0,none⟩)] 132)).heap.size=w.heap.size+1:=by simp
 have e2:((w.alloc (.cells #[.pointer (some ⟨bp,0,none⟩)] 132)).alloc (.cells #[.int .i64 (n:Nat)] 3)).heap.size=w.heap.size+1+1:=by simp
 have e3:(((w.alloc (.cells #[.pointer (some ⟨bp,0,none⟩)] 132)).alloc (.cells #[.int .i64 (n:Nat)] 3)).alloc (.cells #[.int .i64 0,.int .i64 0,.slice none 0 0,.slice none 0 0] 26)).heap.size=w.heap.size+1+1+1:=by simp
 have hnew:=jd (((w.alloc (.cells #[.pointer (some ⟨bp,0,none⟩)] 132)).alloc (.cells #[.int .i64 (n:Nat)] 3)).alloc (.cells #[.int .i64 0,.int .i64 0,.slice none 0 0,.slice none 0 0] 26)) (.cells #[.func (.func 81) #[] #[.pointer (some ⟨w.heap.size,0,none⟩),.pointer (some ⟨w.heap.size+1,0,none⟩)]] 133);rw [e3] at hnew
 have HP0:=lh (show PSt w bp tb [(w.heap.size+1+1,(.cells #[.int .i64 0,.int .i64 0,.slice none 0 0,.slice none 0 0] 26))] l ((((w.alloc (.cells #[.pointer (some ⟨bp,0,none⟩)] 132)).alloc (.cells #[.int .i64 (n:Nat)] 3)).alloc (.cells #[.int .i64 0,.int .i64 0,.slice none 0 0,.slice none 0 0] 26)).alloc (.cells #[.func (.func 81) #[] #[.pointer (some ⟨w.heap.size,0,none⟩),.pointer (some ⟨w.heap.size+1,0,none⟩)]] 133)) from by
  have:=((((PSt.start hp).new (.cells #[.pointer (some ⟨bp,0,none⟩)] 132)).new (.cells #[.int .i64 (n:Nat)] 3)).new (.cells #[.int .i64 0,.int .i64 0,.slice none 0 0,.slice none 0 0] 26)).new (.cells #[.func (.func 81) #[] #[.pointer (some ⟨w.heap.size,0,none⟩),.pointer (some ⟨w.heap.size+1,0,none⟩)]] 133)
  rw [e1,e2,e3] at this
  exact this.sub (zs2:=[(w.heap.size+1+1,(.cells #[.int .i64 0,.int .i64 0,.slice none 0 0,.slice none 0 0] 26))]) (fun p hp=>by simp at hp;subst hp;simp))
 have q0:((((w.alloc (.cells #[.pointer (some ⟨bp,0,none⟩)] 132)).alloc (.cells #[.int .i64 (n:Nat)] 3)).alloc (.cells #[.int .i64 0,.int .i64 0,.slice none 0 0,.slice none 0 0] 26)).alloc (.cells #[.func (.func 81) #[] #[.pointer (some ⟨w.heap.size,0,none⟩),.pointer (some ⟨w.heap.size+1,0,none⟩)]] 133)).heap[w.heap.size]?=some (.cells #[.pointer (some ⟨bp,0,none⟩)] 132):=je (je (je (jd w _)))
 have q1:((((w.alloc (.cells #[.pointer (some ⟨bp,0,none⟩)] 132)).alloc (.cells #[.int .i64 (n:Nat)] 3)).alloc (.cells #[.int .i64 0,.int .i64 0,.slice none 0 0,.slice none 0 0] 26)).alloc (.cells #[.func (.func 81) #[] #[.pointer (some ⟨w.heap.size,0,none⟩),.pointer (some ⟨w.heap.size+1,0,none⟩)]] 133)).heap[w.heap.size+1]?=some (.cells #[.int .i64 (n:Nat)] 3):=by
  have:=jd (w.alloc (.cells #[.pointer (some ⟨bp,0,none⟩)] 132)) (.cells #[.int .i64 (n:Nat)] 3)
  rw [e1] at this;exact je (je this)
 have q2:((((w.alloc (.cells #[.pointer (some ⟨bp,0,none⟩)] 132)).alloc (.cells #[.int .i64 (n:Nat)] 3)).alloc (.cells #[.int .i64 0,.int .i64 0,.slice none 0 0,.slice none 0 0] 26)).alloc (.cells #[.func (.func 81) #[] #[.pointer (some ⟨w.heap.size,0,none⟩),.pointer (some ⟨w.heap.size+1,0,none⟩)]] 133)).heap[w.heap.size+1+1+1]?=some (.cells #[.func (.func 81) #[] #[.pointer (some ⟨w.heap.size,0,none⟩),.pointer (some ⟨w.heap.size+1,0,none⟩)]] 133):=hnew;have hbl:=hp.blt
 have HSE:=lh (jcy (serP 5 kAND (notP k)) (jm3 k) 6 kOR (by decide) bp tb 83 #[.pointer (some ⟨w.heap.size,0,none⟩),.pointer (some ⟨w.heap.size+1+1+1,0,none⟩)] jv8 l _ HP0.out.pat hv h99 (fun wx l' ho hpx hvx hx99=>
  jtx bp tb k n HN w.heap.size (w.heap.size+1) (w.heap.size+1+1+1) l' wx (ho.same q0 (by omega)) (ho.same q1 (by omega)) (ho.same q2 (by omega)) hpx hvx hx99))
 have hO:serP 6 kOR (serP 5 kAND (notP k)) l=orP k l:=rfl;rw [hO] at HSE;have x0:((((w.alloc (.cells #[.pointer (some ⟨bp,0,none⟩)] 132)).alloc (.cells #[.int .i64 (n:Nat)] 3)).alloc (.cells #[.int .i64 0,.int .i64 0,.slice none 0 0,.slice none 0 0] 26)).alloc (.cells #[.func (.func 81) #[] #[.pointer (some ⟨w.heap.size,0,none⟩),.pointer (some ⟨w.heap.size+1,0,none⟩)]] 133)).cell? ⟨w.heap.size,0,none⟩=some (.pointer (some ⟨bp,0,none⟩)):=ja q0 rfl;clear q0 q1 q2 hp hv h99 e1 e2 e3 hO hnew;go_enter Tryz.func43,Tryz.ntmps43;go_wp2_with (go_at_call 84;refine (HSE.out ).mono ?_;rintro x w1 hxx;obtain ⟨T,e1,l1,rfl,hp1,hx1,ha1⟩:=wrapX HP0.out hxx;have HP1:=lh hp1;have HX1:=lh hx1;have HA1:=lh ha1;have hsz1:=lt_of_block (HP0.out.own _ List.mem_cons_self).1;have hzz:=(hp1.own _ List.mem_cons_self).1;obtain ⟨r0,f0,r1,f1,r2,f2,r3,f3⟩:=bf4 hzz;clear hzz;clear hxx hp1 hx1 ha1);have hF:=HP1.out.put (b:=w.heap.size+1+1) (by omega) (.int .i64 T.op) (.int .i64 T.rel) (.slice T.aa T.an T.ac) (.slice T.ka T.kn T.kc);have h4:=qu (b:=w.heap.size+1+1) (S:=fun k=>k=w.heap.size+1+1) (Only.refl _ w1) (.inl rfl) (.int .i64 T.op) (.int .i64 T.rel) (.slice T.aa T.an T.ac) (.slice T.ka T.kn T.kc);exact endOr rfl (w.heap.size+1+1) rfl rfl (qw (HP1.out.own _ List.mem_cons_self).1 _ _ _ _) ⟨hF.2,T,e1,l1,rfl,hF.1,(HX1.out.only h4 (fun b hb hl e=>by simp at hb;omega)).sub (fun b hb hl=>by simp at hb;omega),HA1.out⟩
theorem jvr {a b:Nat × Obj}:∀ p∈[a,b],p∈[b,a]:=by
 intro p hp
 rcases List.mem_cons.1 hp with rfl|hp
 · exact List.mem_cons_of_mem _ List.mem_cons_self
 · rcases List.mem_cons.1 hp with rfl|hp
   · exact List.mem_cons_self
   · exact absurd hp (by simp)
theorem jfm (k:Nat) (l:List Tk) (h1:(Cl.wd kNOT).test (hd l)=false) (h2:cPar.test (hd l)=false):notP k l=testP l:=by
 cases k with
 |zero=>unfold notP;rw [h1,h2];rfl
 |succ k=>unfold notP;rw [h1,h2];rfl
theorem jfa (l:List Tk) (h:((Cl.wd kNOT).test (hd l)||cPar.test (hd l))=true):notP 0 l=.err 9 l:=by
 unfold notP;rw [if_pos h]
theorem jrq (k:Nat) (l:List Tk) (h1:(Cl.wd kNOT).test (hd l)=true):notP (k+1) l=negR (notP k l.tail):=by
 rw [notP,if_pos h1]
theorem jqo (k:Nat) (l:List Tk) (h1:(Cl.wd kNOT).test (hd l)=false) (h2:cPar.test (hd l)=true):notP (k+1) l=closeR (orP k l.tail):=by
 rw [notP,if_neg (by rw [h1];decide),if_pos h2];rfl
theorem jh4 (k:Nat) (l:List Tk) (hv:Vd l) (h99:l.length≤99):∀ e l',notP k l=.err e l'→e≠0:=by
 intro e l' h
 have:=zx k l hv h99
 rw [h] at this;exact this.2.2
theorem jiz (bp tb n:Nat) (l:List Tk) (w:World) (hp:PAt w bp tb l) (hv:Vd l) (h99:l.length≤99) (ha:(Cl.wd kNOT).test (hd l)=false) (hb:cPar.test (hd l)=false):
  Calls Tryz.prog 82 #[.pointer (some ⟨bp,0,none⟩),.int .i64 (n:Nat)] w (XTo w bp tb (testP l)):=by
 have hpos:=hv.pos;have HP0:=lh (show PSt w bp tb [(w.heap.size,(.cells #[.int .i64 0,.int .i64 0,.slice none 0 0,.slice none 0 0] 26))] l (w.alloc (.cells #[.int .i64 0,.int .i64 0,.slice none 0 0,.slice none 0 0] 26)) from (PSt.start hp).new _);have HA1:=lh (show ∀ (v:Value) wx,PAt wx bp tb l→ClAt wx (.wd kNOT) v→Calls Tryz.prog 44 #[.pointer (some ⟨bp,0,none⟩),v] wx fun e w'=>e=.returned (.bool false)∧Below wx.heap.size wx w' from fun v wx hp2 hc=>by have:=kq bp tb l (.wd kNOT) v wx hp2 hc hpos h99 (Short.hd hv.short);rwa [ha] at this);have HA2:=lh (show ∀ (v:Value) wx,PAt wx bp tb l→ClAt wx cPar v→Calls Tryz.prog 44 #[.pointer (some ⟨bp,0,none⟩),v] wx fun e w'=>e=.returned (.bool false)∧Below wx.heap.size wx w' from fun v wx hp2 hc=>by have:=kq bp tb l cPar v wx hp2 hc hpos h99 (Short.hd hv.short);rwa [hb] at this);have HTE:=lh (fun wx (hpx:PAt wx bp tb l)=>jra bp tb l wx hpx hv h99);clear hp ha hb;go_enter Tryz.func82,Tryz.ntmps82
 go_wp2_with (first
  |(go_at_call 118;refine (HTE.out _ HP4.out.pat).mono ?_;rintro x w5 hxx;obtain ⟨T,e5,l5,rfl,hp5,hx5,ha5⟩:=wrapX HP4.out hxx;have HP5:=lh hp5;have HX5:=lh hx5;have HA5:=lh ha5;have hsz5:=lt_of_block (HP4.out.own _ List.mem_cons_self).1;have hzz:=(hp5.own _ List.mem_cons_self).1;obtain ⟨r0,f0,r1,f1,r2,f2,r3,f3⟩:=bf4 hzz;clear hzz;clear hxx hp5 hx5 ha5)
  |(go_at_call 44;refine (HA2.out _ _ HP3.out.pat HC3.out).mono ?_;rintro e w4 ⟨rfl,hb4⟩;have HP4:=lh (HP3.out.next hb4);clear hb4)
  |(go_at_call 117;refine (jm [40] _ rfl _).mono ?_;rintro e w3 ⟨g3,lb3,rfl,hc3,hb3⟩;have HP3:=lh (HP2.out.next hb3);have HC3:=lh hc3;clear hc3 hb3)
  |(go_at_call 44;refine (HA1.out _ _ HP1.out.pat HC1.out).mono ?_;rintro e w2 ⟨rfl,hb2⟩;have HP2:=lh (HP1.out.next hb2);clear hb2)
  |(go_at_call 116;refine (jh kNOT _ rfl _).mono ?_;rintro e w1 ⟨g1,lb1,rfl,hc1,hb1⟩;have HP1:=lh (HP0.out.next hb1);have HC1:=lh hc1;clear hc1 hb1))
 exact endNot rfl w.heap.size rfl rfl (qw (HP5.out.own _ List.mem_cons_self).1 _ _ _ _) (Z0 HP5.out HX5.out (fun b hb hl=>by omega) HA5.out)
theorem jmv (bp tb n:Nat) (l:List Tk) (w:World) (hp:PAt w bp tb l) (hv:Vd l) (h99:l.length≤99) (ha:(Cl.wd kNOT).test (hd l)=true) (hb:cPar.test (hd l)=true) (hn:((n:Int)==8)=true):
  Calls Tryz.prog 82 #[.pointer (some ⟨bp,0,none⟩),.int .i64 (n:Nat)] w (XTo w bp tb (.err 9 l)):=by
 have hpos:=hv.pos;have HP0:=lh (show PSt w bp tb [(w.heap.size,(.cells #[.int .i64 0,.int .i64 0,.slice none 0 0,.slice none 0 0] 26))] l (w.alloc (.cells #[.int .i64 0,.int .i64 0,.slice none 0 0,.slice none 0 0] 26)) from (PSt.start hp).new _);have HA1:=lh (show ∀ (v:Value) wx,PAt wx bp tb l→ClAt wx (.wd kNOT) v→Calls Tryz.prog 44 #[.pointer (some ⟨bp,0,none⟩),v] wx fun e w'=>e=.returned (.bool true)∧Below wx.heap.size wx w' from fun v wx hp2 hc=>by have:=kq bp tb l (.wd kNOT) v wx hp2 hc hpos h99 (Short.hd hv.short);rwa [ha] at this);have HA2:=lh (show ∀ (v:Value) wx,PAt wx bp tb l→ClAt wx cPar v→Calls Tryz.prog 44 #[.pointer (some ⟨bp,0,none⟩),v] wx fun e w'=>e=.returned (.bool true)∧Below wx.heap.size wx w' from fun v wx hp2 hc=>by have:=kq bp tb l cPar v wx hp2 hc hpos h99 (Short.hd hv.short);rwa [hb] at this);clear hp ha hb;go_enter Tryz.func82,Tryz.ntmps82
 go_wp2_with (first
  |(go_at_call 44;refine (HA2.out _ _ HP3.out.pat HC3.out).mono ?_;rintro e w4 ⟨rfl,hb4⟩;have HP4:=lh (HP3.out.next hb4);have hzz:=(HP4.out.own _ List.mem_cons_self).1;obtain ⟨r0,f0,r1,f1,r2,f2,r3,f3⟩:=bf4 hzz;clear hzz;clear hb4)
  |(go_at_call 117;refine (jm [40] _ rfl _).mono ?_;rintro e w3 ⟨g3,lb3,rfl,hc3,hb3⟩;have HP3:=lh (HP2.out.next hb3);have HC3:=lh hc3;clear hc3 hb3)
  |(go_at_call 44;refine (HA1.out _ _ HP1.out.pat HC1.out).mono ?_;rintro e w2 ⟨rfl,hb2⟩;have HP2:=lh (HP1.out.next hb2);clear hb2)
  |(go_at_call 116;refine (jh kNOT _ rfl _).mono ?_;rintro e w1 ⟨g1,lb1,rfl,hc1,hb1⟩;have HP1:=lh (HP0.out.next hb1);have HC1:=lh hc1;clear hc1 hb1))
 have hF:=HP4.out.put (Nat.le_refl _) (.int .i64 0) (.int .i64 0) (.slice none 0 0) (.slice none 0 0);exact endNot rfl w.heap.size rfl rfl (qw (HP4.out.own _ List.mem_cons_self).1 _ _ _ _) ⟨hF.2,.nil,9,l,rfl,hF.1,trivial,.inr ⟨rfl,rfl⟩⟩
theorem jm2 (bp tb n:Nat) (l:List Tk) (w:World) (hp:PAt w bp tb l) (hv:Vd l) (h99:l.length≤99) (ha:(Cl.wd kNOT).test (hd l)=true) (hb:cPar.test (hd l)=false) (hn:((n:Int)==8)=true):
  Calls Tryz.prog 82 #[.pointer (some ⟨bp,0,none⟩),.int .i64 (n:Nat)] w (XTo w bp tb (.err 9 l)):=by
 have hpos:=hv.pos;have HP0:=lh (show PSt w bp tb [(w.heap.size,(.cells #[.int .i64 0,.int .i64 0,.slice none 0 0,.slice none 0 0] 26))] l (w.alloc (.cells #[.int .i64 0,.int .i64 0,.slice none 0 0,.slice none 0 0] 26)) from (PSt.start hp).new _);have HA1:=lh (show ∀ (v:Value) wx,PAt wx bp tb l→ClAt wx (.wd kNOT) v→Calls Tryz.prog 44 #[.pointer (some ⟨bp,0,none⟩),v] wx fun e w'=>e=.returned (.bool true)∧Below wx.heap.size wx w' from fun v wx hp2 hc=>by have:=kq bp tb l (.wd kNOT) v wx hp2 hc hpos h99 (Short.hd hv.short);rwa [ha] at this);have HA2:=lh (show ∀ (v:Value) wx,PAt wx bp tb l→ClAt wx cPar v→Calls Tryz.prog 44 #[.pointer (some ⟨bp,0,none⟩),v] wx fun e w'=>e=.returned (.bool false)∧Below wx.heap.size wx w' from fun v wx hp2 hc=>by have:=kq bp tb l cPar v wx hp2 hc hpos h99 (Short.hd hv.short);rwa [hb] at this);clear hp ha hb;go_enter Tryz.func82,Tryz.ntmps82
 go_wp2_with (first
  |(go_at_call 44;refine (HA2.out _ _ HP3.out.pat HC3.out).mono ?_;rintro e w4 ⟨rfl,hb4⟩;have HP4:=lh (HP3.out.next hb4);have hzz:=(HP4.out.own _ List.mem_cons_self).1;obtain ⟨r0,f0,r1,f1,r2,f2,r3,f3⟩:=bf4 hzz;clear hzz;clear hb4)
  |(go_at_call 117;refine (jm [40] _ rfl _).mono ?_;rintro e w3 ⟨g3,lb3,rfl,hc3,hb3⟩;have HP3:=lh (HP2.out.next hb3);have HC3:=lh hc3;clear hc3 hb3)
  |(go_at_call 44;refine (HA1.out _ _ HP1.out.pat HC1.out).mono ?_;rintro e w2 ⟨rfl,hb2⟩;have HP2:=lh (HP1.out.next hb2);clear hb2)
  |(go_at_call 116;refine (jh kNOT _ rfl _).mono ?_;rintro e w1 ⟨g1,lb1,rfl,hc1,hb1⟩;have HP1:=lh (HP0.out.next hb1);have HC1:=lh hc1;clear hc1 hb1))
 have hF:=HP4.out.put (Nat.le_refl _) (.int .i64 0) (.int .i64 0) (.slice none 0 0) (.slice none 0 0);exact endNot rfl w.heap.size rfl rfl (qw (HP4.out.own _ List.mem_cons_self).1 _ _ _ _) ⟨hF.2,.nil,9,l,rfl,hF.1,trivial,.inr ⟨rfl,rfl⟩⟩
theorem jm8 (bp tb n:Nat) (l:List Tk) (w:World) (hp:PAt w bp tb l) (hv:Vd l) (h99:l.length≤99) (ha:(Cl.wd kNOT).test (hd l)=false) (hb:cPar.test (hd l)=true) (hn:((n:Int)==8)=true):
  Calls Tryz.prog 82 #[.pointer (some ⟨bp,0,none⟩),.int .i64 (n:Nat)] w (XTo w bp tb (.err 9 l)):=by
 have hpos:=hv.pos;have HP0:=lh (show PSt w bp tb [(w.heap.size,(.cells #[.int .i64 0,.int .i64 0,.slice none 0 0,.slice none 0 0] 26))] l (w.alloc (.cells #[.int .i64 0,.int .i64 0,.slice none 0 0,.slice none 0 0] 26)) from (PSt.start hp).new _);have HA1:=lh (show ∀ (v:Value) wx,PAt wx bp tb l→ClAt wx (.wd kNOT) v→Calls Tryz.prog 44 #[.pointer (some ⟨bp,0,none⟩),v] wx fun e w'=>e=.returned (.bool false)∧Below wx.heap.size wx w' from fun v wx hp2 hc=>by have:=kq bp tb l (.wd kNOT) v wx hp2 hc hpos h99 (Short.hd hv.short);rwa [ha] at this);have HA2:=lh (show ∀ (v:Value) wx,PAt wx bp tb l→ClAt wx cPar v→Calls Tryz.prog 44 #[.pointer (some ⟨bp,0,none⟩),v] wx fun e w'=>e=.returned (.bool true)∧Below wx.heap.size wx w' from fun v wx hp2 hc=>by have:=kq bp tb l cPar v wx hp2 hc hpos h99 (Short.hd hv.short);rwa [hb] at this);clear hp ha hb;go_enter Tryz.func82,Tryz.ntmps82
 go_wp2_with (first
  |(go_at_call 44;refine (HA2.out _ _ HP3.out.pat HC3.out).mono ?_;rintro e w4 ⟨rfl,hb4⟩;have HP4:=lh (HP3.out.next hb4);have hzz:=(HP4.out.own _ List.mem_cons_self).1;obtain ⟨r0,f0,r1,f1,r2,f2,r3,f3⟩:=bf4 hzz;clear hzz;clear hb4)
  |(go_at_call 117;refine (jm [40] _ rfl _).mono ?_;rintro e w3 ⟨g3,lb3,rfl,hc3,hb3⟩;have HP3:=lh (HP2.out.next hb3);have HC3:=lh hc3;clear hc3 hb3)
  |(go_at_call 44;refine (HA1.out _ _ HP1.out.pat HC1.out).mono ?_;rintro e w2 ⟨rfl,hb2⟩;have HP2:=lh (HP1.out.next hb2);clear hb2)
  |(go_at_call 116;refine (jh kNOT _ rfl _).mono ?_;rintro e w1 ⟨g1,lb1,rfl,hc1,hb1⟩;have HP1:=lh (HP0.out.next hb1);have HC1:=lh hc1;clear hc1 hb1))
 have hF:=HP4.out.put (Nat.le_refl _) (.int .i64 0) (.int .i64 0) (.slice none 0 0) (.slice none 0 0);exact endNot rfl w.heap.size rfl rfl (qw (HP4.out.own _ List.mem_cons_self).1 _ _ _ _) ⟨hF.2,.nil,9,l,rfl,hF.1,trivial,.inr ⟨rfl,rfl⟩⟩
theorem jpq (bp tb n:Nat) (l:List Tk) (w:World) (hp:PAt w bp tb l) (hv:Vd l) (h99:l.length≤99) (k:Nat) (HN:NotC bp tb k (n+1)) (ha:(Cl.wd kNOT).test (hd l)=true) (hb:cPar.test (hd l)=true) (hn:((n:Int)==8)=false) (hn9:n≤100):
  Calls Tryz.prog 82 #[.pointer (some ⟨bp,0,none⟩),.int .i64 (n:Nat)] w (XTo w bp tb (negR (notP k l.tail))):=by
 have hpos:=hv.pos;have HP0:=lh (show PSt w bp tb [(w.heap.size,(.cells #[.int .i64 0,.int .i64 0,.slice none 0 0,.slice none 0 0] 26))] l (w.alloc (.cells #[.int .i64 0,.int .i64 0,.slice none 0 0,.slice none 0 0] 26)) from (PSt.start hp).new _);have HA1:=lh (show ∀ (v:Value) wx,PAt wx bp tb l→ClAt wx (.wd kNOT) v→Calls Tryz.prog 44 #[.pointer (some ⟨bp,0,none⟩),v] wx fun e w'=>e=.returned (.bool true)∧Below wx.heap.size wx w' from fun v wx hp2 hc=>by have:=kq bp tb l (.wd kNOT) v wx hp2 hc hpos h99 (Short.hd hv.short);rwa [ha] at this);have HA2:=lh (show ∀ (v:Value) wx,PAt wx bp tb l→ClAt wx cPar v→Calls Tryz.prog 44 #[.pointer (some ⟨bp,0,none⟩),v] wx fun e w'=>e=.returned (.bool true)∧Below wx.heap.size wx w' from fun v wx hp2 hc=>by have:=kq bp tb l cPar v wx hp2 hc hpos h99 (Short.hd hv.short);rwa [hb] at this);obtain ⟨hv2,hl2⟩:=hv.tail (by trivial) ha;have hp2:=hv2.pos;have HSK:=lh (fun (v:Value) wx (hp2:PAt wx bp tb l) (hc:ClAt wx (.wd kNOT) v)=>qf bp tb l (.wd kNOT) v wx hp2 hc (by omega) (by omega) (Short.hd hv.short) ha);have HNN:=lh (fun wx (hpx:PAt wx bp tb l.tail)=>HN l.tail wx hpx hv2 (by omega));have HNG:=lh (fun (wx:World) (S:Nat→Prop) (T:XT) (e:Nat) (l':List Tk) (hT:XAt wx S T) (ha:AnsX (notP k l.tail) T e l')=>Y7 wx S _ (jh4 k l.tail hv2 (by omega)) T e l' hT ha);clear hp ha hb HN;go_enter Tryz.func82,Tryz.ntmps82
 go_wp2_with (first
  |(go_at_call 120;refine (HNG.out _ _ T e7 l7 HX7.out HA7.out).mono ?_;rintro x w8 ⟨hb8,T8,rfl,hx8,ha8⟩;have HP8:=lh (HP7.out.next hb8);have HX8:=lh hx8;have HA8:=lh ha8;have hzz:=(HP8.out.own _ List.mem_cons_self).1;obtain ⟨r0,f0,r1,f1,r2,f2,r3,f3⟩:=bf4 hzz;clear hzz;have hsz8:=lt_of_block (HP7.out.own _ List.mem_cons_self).1;clear hb8 hx8 ha8)
  |(go_at_call 82;refine (HNN.out _ HP6.out.pat).mono ?_;rintro x w7 hxx;obtain ⟨T,e7,l7,rfl,hp7,hx7,ha7⟩:=wrapX HP6.out hxx;have HP7:=lh hp7;have HX7:=lh hx7;have HA7:=lh ha7;have hsz7:=lt_of_block (HP6.out.own _ List.mem_cons_self).1;have hzz:=(hp7.own _ List.mem_cons_self).1;obtain ⟨r0,f0,r1,f1,r2,f2,r3,f3⟩:=bf4 hzz;clear hzz;clear hxx hp7 hx7 ha7)
  |(go_at_call 119;refine (HSK.out _ _ HP5.out.pat HC5.out).mono ?_;rintro e w6 ⟨rfl,hp6,ho6⟩;have HP6:=lh (HP5.out.skip hp6 ho6);clear hp6 ho6)
  |(go_at_call 116;refine (jh kNOT _ rfl _).mono ?_;rintro e w5 ⟨g5,lb5,rfl,hc5,hb5⟩;have HP5:=lh (HP4.out.next hb5);have HC5:=lh hc5;clear hc5 hb5)
  |(go_at_call 44;refine (HA2.out _ _ HP3.out.pat HC3.out).mono ?_;rintro e w4 ⟨rfl,hb4⟩;have HP4:=lh (HP3.out.next hb4);clear hb4)
  |(go_at_call 117;refine (jm [40] _ rfl _).mono ?_;rintro e w3 ⟨g3,lb3,rfl,hc3,hb3⟩;have HP3:=lh (HP2.out.next hb3);have HC3:=lh hc3;clear hc3 hb3)
  |(go_at_call 44;refine (HA1.out _ _ HP1.out.pat HC1.out).mono ?_;rintro e w2 ⟨rfl,hb2⟩;have HP2:=lh (HP1.out.next hb2);clear hb2)
  |(go_at_call 116;refine (jh kNOT _ rfl _).mono ?_;rintro e w1 ⟨g1,lb1,rfl,hc1,hb1⟩;have HP1:=lh (HP0.out.next hb1);have HC1:=lh hc1;clear hc1 hb1))
 exact endNot rfl w.heap.size rfl rfl (qw (HP8.out.own _ List.mem_cons_self).1 _ _ _ _) (Z0 HP8.out HX8.out (fun b hb hl=>by rcases hb with hb|hb <;> omega) HA8.out)
theorem jqp (bp tb n:Nat) (l:List Tk) (w:World) (hp:PAt w bp tb l) (hv:Vd l) (h99:l.length≤99) (k:Nat) (HN:NotC bp tb k (n+1)) (ha:(Cl.wd kNOT).test (hd l)=true) (hb:cPar.test (hd l)=false) (hn:((n:Int)==8)=false) (hn9:n≤100):
  Calls Tryz.prog 82 #[.pointer (some ⟨bp,0,none⟩),.int .i64 (n:Nat)] w (XTo w bp tb (negR (notP k l.tail))):=by
 have hpos:=hv.pos;have HP0:=lh (show PSt w bp tb [(w.heap.size,(.cells #[.int .i64 0,.int .i64 0,.slice none 0 0,.slice none 0 0] 26))] l (w.alloc (.cells #[.int .i64 0,.int .i64 0,.slice none 0 0,.slice none 0 0] 26)) from (PSt.start hp).new _);have HA1:=lh (show ∀ (v:Value) wx,PAt wx bp tb l→ClAt wx (.wd kNOT) v→Calls Tryz.prog 44 #[.pointer (some ⟨bp,0,none⟩),v] wx fun e w'=>e=.returned (.bool true)∧Below wx.heap.size wx w' from fun v wx hp2 hc=>by have:=kq bp tb l (.wd kNOT) v wx hp2 hc hpos h99 (Short.hd hv.short);rwa [ha] at this);have HA2:=lh (show ∀ (v:Value) wx,PAt wx bp tb l→ClAt wx cPar v→Calls Tryz.prog 44 #[.pointer (some ⟨bp,0,none⟩),v] wx fun e w'=>e=.returned (.bool false)∧Below wx.heap.size wx w' from fun v wx hp2 hc=>by have:=kq bp tb l cPar v wx hp2 hc hpos h99 (Short.hd hv.short);rwa [hb] at this);obtain ⟨hv2,hl2⟩:=hv.tail (by trivial) ha;have hp2:=hv2.pos;have HSK:=lh (fun (v:Value) wx (hp2:PAt wx bp tb l) (hc:ClAt wx (.wd kNOT) v)=>qf bp tb l (.wd kNOT) v wx hp2 hc (by omega) (by omega) (Short.hd hv.short) ha);have HNN:=lh (fun wx (hpx:PAt wx bp tb l.tail)=>HN l.tail wx hpx hv2 (by omega));have HNG:=lh (fun (wx:World) (S:Nat→Prop) (T:XT) (e:Nat) (l':List Tk) (hT:XAt wx S T) (ha:AnsX (notP k l.tail) T e l')=>Y7 wx S _ (jh4 k l.tail hv2 (by omega)) T e l' hT ha);clear hp ha hb HN;go_enter Tryz.func82,Tryz.ntmps82
 go_wp2_with (first
  |(go_at_call 120;refine (HNG.out _ _ T e7 l7 HX7.out HA7.out).mono ?_;rintro x w8 ⟨hb8,T8,rfl,hx8,ha8⟩;have HP8:=lh (HP7.out.next hb8);have HX8:=lh hx8;have HA8:=lh ha8;have hzz:=(HP8.out.own _ List.mem_cons_self).1;obtain ⟨r0,f0,r1,f1,r2,f2,r3,f3⟩:=bf4 hzz;clear hzz;have hsz8:=lt_of_block (HP7.out.own _ List.mem_cons_self).1;clear hb8 hx8 ha8)
  |(go_at_call 82;refine (HNN.out _ HP6.out.pat).mono ?_;rintro x w7 hxx;obtain ⟨T,e7,l7,rfl,hp7,hx7,ha7⟩:=wrapX HP6.out hxx;have HP7:=lh hp7;have HX7:=lh hx7;have HA7:=lh ha7;have hsz7:=lt_of_block (HP6.out.own _ List.mem_cons_self).1;have hzz:=(hp7.own _ List.mem_cons_self).1;obtain ⟨r0,f0,r1,f1,r2,f2,r3,f3⟩:=bf4 hzz;clear hzz;clear hxx hp7 hx7 ha7)
  |(go_at_call 119;refine (HSK.out _ _ HP5.out.pat HC5.out).mono ?_;rintro e w6 ⟨rfl,hp6,ho6⟩;have HP6:=lh (HP5.out.skip hp6 ho6);clear hp6 ho6)
  |(go_at_call 116;refine (jh kNOT _ rfl _).mono ?_;rintro e w5 ⟨g5,lb5,rfl,hc5,hb5⟩;have HP5:=lh (HP4.out.next hb5);have HC5:=lh hc5;clear hc5 hb5)
  |(go_at_call 44;refine (HA2.out _ _ HP3.out.pat HC3.out).mono ?_;rintro e w4 ⟨rfl,hb4⟩;have HP4:=lh (HP3.out.next hb4);clear hb4)
  |(go_at_call 117;refine (jm [40] _ rfl _).mono ?_;rintro e w3 ⟨g3,lb3,rfl,hc3,hb3⟩;have HP3:=lh (HP2.out.next hb3);have HC3:=lh hc3;clear hc3 hb3)
  |(go_at_call 44;refine (HA1.out _ _ HP1.out.pat HC1.out).mono ?_;rintro e w2 ⟨rfl,hb2⟩;have HP2:=lh (HP1.out.next hb2);clear hb2)
  |(go_at_call 116;refine (jh kNOT _ rfl _).mono ?_;rintro e w1 ⟨g1,lb1,rfl,hc1,hb1⟩;have HP1:=lh (HP0.out.next hb1);have HC1:=lh hc1;clear hc1 hb1))
 exact endNot rfl w.heap.size rfl rfl (qw (HP8.out.own _ List.mem_cons_self).1 _ _ _ _) (Z0 HP8.out HX8.out (fun b hb hl=>by rcases hb with hb|hb <;> omega) HA8.out)
theorem js4 (bp tb n:Nat) (l:List Tk) (w:World) (hp:PAt w bp tb l) (hv:Vd l) (h99:l.length≤99) (k:Nat) (HO:OrC bp tb k (n+1)) (ha:(Cl.wd kNOT).test (hd l)=false) (hb:cPar.test (hd l)=true) (hn:((n:Int)==8)=false) (hn9:n≤100):
  Calls Tryz.prog 82 #[.pointer (some ⟨bp,0,none⟩),.int .i64 (n:Nat)] w (XTo w bp tb (closeR (orP k l.tail))):=by
 have hpos:=hv.pos;have HP0:=lh (show PSt w bp tb [(w.heap.size,(.cells #[.int .i64 0,.int .i64 0,.slice none 0 0,.slice none 0 0] 26))] l (w.alloc (.cells #[.int .i64 0,.int .i64 0,.slice none 0 0,.slice none 0 0] 26)) from (PSt.start hp).new _);have HA1:=lh (show ∀ (v:Value) wx,PAt wx bp tb l→ClAt wx (.wd kNOT) v→Calls Tryz.prog 44 #[.pointer (some ⟨bp,0,none⟩),v] wx fun e w'=>e=.returned (.bool false)∧Below wx.heap.size wx w' from fun v wx hp2 hc=>by have:=kq bp tb l (.wd kNOT) v wx hp2 hc hpos h99 (Short.hd hv.short);rwa [ha] at this);have HA2:=lh (show ∀ (v:Value) wx,PAt wx bp tb l→ClAt wx cPar v→Calls Tryz.prog 44 #[.pointer (some ⟨bp,0,none⟩),v] wx fun e w'=>e=.returned (.bool true)∧Below wx.heap.size wx w' from fun v wx hp2 hc=>by have:=kq bp tb l cPar v wx hp2 hc hpos h99 (Short.hd hv.short);rwa [hb] at this);obtain ⟨hv2,hl2⟩:=hv.tail (by trivial) hb;have hp2:=hv2.pos;have HSK:=lh (fun (v:Value) wx (hp2:PAt wx bp tb l) (hc:ClAt wx cPar v)=>qf bp tb l cPar v wx hp2 hc (by omega) (by omega) (Short.hd hv.short) hb);have hless:=jab k l.tail hv2 (by omega);have HOO:=lh (fun wx (hpx:PAt wx bp tb l.tail)=>HO l.tail wx hpx hv2 (by omega));obtain ⟨R,hR⟩:∃ R,orP k l.tail=R:=⟨_,rfl⟩;rw [hR] at hless HOO ⊢;clear hp ha hb hR HO
 cases R with
 |err e0 l0=>
  have q2:(((e0:Nat):Int) !=0)=true:=by have:=hless.2.2;simp;omega
  clear hless;unfold closeR;go_enter Tryz.func82,Tryz.ntmps82
  go_wp2_with (first
   |(go_at_call 43;refine (HOO.out _ HP6.out.pat).mono ?_;rintro x w7 hxx;obtain ⟨T,e7,l7,rfl,hp7,hx7,ha7⟩:=wrapX HP6.out hxx;obtain ⟨rfl,rfl,rfl⟩:=ha7.err_of;have HP7:=lh hp7;have zl:=lt_of_block (hp7.own _ List.mem_cons_self).1;have zn:¬w.heap.size=w7.heap.size:=(by omega);have hzz:=(hp7.own _ List.mem_cons_self).1;obtain ⟨r0,f0,r1,f1,r2,f2,r3,f3⟩:=bf4 hzz;clear hzz;clear hxx hp7 hx7 ha7)
   |(go_at_call 119;refine (HSK.out _ _ HP5.out.pat HC5.out).mono ?_;rintro e w6 ⟨rfl,hp6,ho6⟩;have HP6:=lh (HP5.out.skip hp6 ho6);clear hp6 ho6)
   |(go_at_call 117;refine (jm [40] _ rfl _).mono ?_;rintro e w5 ⟨g5,lb5,rfl,hc5,hb5⟩;have HP5:=lh (HP4.out.next hb5);have HC5:=lh hc5;clear hc5 hb5)
   |(go_at_call 44;refine (HA2.out _ _ HP3.out.pat HC3.out).mono ?_;rintro e w4 ⟨rfl,hb4⟩;have HP4:=lh (HP3.out.next hb4);clear hb4)
   |(go_at_call 117;refine (jm [40] _ rfl _).mono ?_;rintro e w3 ⟨g3,lb3,rfl,hc3,hb3⟩;have HP3:=lh (HP2.out.next hb3);have HC3:=lh hc3;clear hc3 hb3)
   |(go_at_call 44;refine (HA1.out _ _ HP1.out.pat HC1.out).mono ?_;rintro e w2 ⟨rfl,hb2⟩;have HP2:=lh (HP1.out.next hb2);clear hb2)
   |(go_at_call 116;refine (jh kNOT _ rfl _).mono ?_;rintro e w1 ⟨g1,lb1,rfl,hc1,hb1⟩;have HP1:=lh (HP0.out.next hb1);have HC1:=lh hc1;clear hc1 hb1))
  have hF:=HP7.out.put (Nat.le_refl _) (.int .i64 0) (.int .i64 0) (.slice none 0 0) (.slice none 0 0);exact endNot rfl w.heap.size rfl rfl (je (qw (HP7.out.own _ List.mem_cons_self).1 _ _ _ _)) ⟨hF.2.alloc _,.nil,e7,l7,rfl,hF.1.next ((Below.refl _ _).alloc (Nat.le_refl _) _),trivial,.inr ⟨rfl,rfl⟩⟩
 |ok t0 l0=>
  have hv0:=hless.1;have hl0:=hless.2;have hp0:=hv0.pos;clear hless;have HSWAP:=lh (show ∀ (T:XT) (q:List Tk) w7,PSt w bp tb [(w.heap.size,(.cells #[.int .i64 0,.int .i64 0,.slice none 0 0,.slice none 0 0] 26))] q w7→PSt w bp tb [(w.heap.size,(.cells #[.int .i64 0,.int .i64 0,.slice none 0 0,.slice none 0 0] 26)),(w7.heap.size,(.cells #[.int .i64 T.op,.int .i64 T.rel,.slice T.aa T.an T.ac,.slice T.ka T.kn T.kc] 26))] q (w7.alloc (.cells #[.int .i64 T.op,.int .i64 T.rel,.slice T.aa T.an T.ac,.slice T.ka T.kn T.kc] 26)) from fun T q w7 h=>(h.new _).sub jvr)
  cases hk:cEnd.test (hd l0) with
  |true=>
   obtain ⟨hv3,hl3⟩:=hv0.tail (by trivial) hk;have hp3:=hv3.pos;have HSE:=lh (fun (v:Value) wx (hp2:PAt wx bp tb l0) (hc:ClAt wx cEnd v)=>qf bp tb l0 cEnd v wx hp2 hc (by omega) (by omega) (Short.hd hv0.short) hk)
   have hC:closeR (PR.ok t0 l0)=.ok t0 l0.tail:=by show (if cEnd.test (hd l0)=true then _ else _)= _;rw [hk];rfl
   rw [hC];clear hk hC;go_enter Tryz.func82,Tryz.ntmps82
   go_wp2_with (first
    |(go_at_call 119;refine (HSE.out _ _ HP8.out.pat HC8.out).mono ?_;rintro e w9 ⟨rfl,hp9,ho9⟩;have HP9:=lh (HP8.out.skip hp9 ho9);have ho9x:=ho9;clear hp9 ho9;have hxw:=(HP9.out.own _ (List.mem_cons_of_mem _ List.mem_cons_self)).1;obtain ⟨c0,c1,c2,c3⟩:=bx4 hxw;have hzz:=(HP9.out.own _ List.mem_cons_self).1;obtain ⟨r0,f0,r1,f1,r2,f2,r3,f3⟩:=bf4 hzz;clear hzz;have HX9:=lh ((HX7.out.next hb8x).only ho9x (fun b hb hl e=>by have:=HP9.out.lt;omega)))
    |(go_at_call 117;refine (jm [41] _ rfl _).mono ?_;rintro e w8 ⟨g8,lb8,rfl,hc8,hb8⟩;have HP8:=lh (HP7.out.next hb8);have HC8:=lh hc8;have hb8x:=hb8;clear hc8 hb8)
    |(go_at_call 43;refine (HOO.out _ HP6.out.pat).mono ?_;rintro x w7 hxx;obtain ⟨T,e7,l7,rfl,hp7,hx7,ha7⟩:=wrapX HP6.out hxx;obtain ⟨rfl,rfl,hs7⟩:=ha7.ok_of;have zl:=lt_of_block (hp7.own _ List.mem_cons_self).1;have HP7:=lh (HSWAP.out T _ _ hp7);have hsz6:=lt_of_block (HP6.out.own _ List.mem_cons_self).1;have HX7:=lh (hx7.next ((Below.refl _ _).alloc (Nat.le_refl _) (.cells #[.int .i64 T.op,.int .i64 T.rel,.slice T.aa T.an T.ac,.slice T.ka T.kn T.kc] 26)));have HS7:=lh hs7;clear hxx hp7 hx7 ha7 hs7)
    |(go_at_call 119;refine (HSK.out _ _ HP5.out.pat HC5.out).mono ?_;rintro e w6 ⟨rfl,hp6,ho6⟩;have HP6:=lh (HP5.out.skip hp6 ho6);clear hp6 ho6)
    |(go_at_call 117;refine (jm [40] _ rfl _).mono ?_;rintro e w5 ⟨g5,lb5,rfl,hc5,hb5⟩;have HP5:=lh (HP4.out.next hb5);have HC5:=lh hc5;clear hc5 hb5)
    |(go_at_call 44;refine (HA2.out _ _ HP3.out.pat HC3.out).mono ?_;rintro e w4 ⟨rfl,hb4⟩;have HP4:=lh (HP3.out.next hb4);clear hb4)
    |(go_at_call 117;refine (jm [40] _ rfl _).mono ?_;rintro e w3 ⟨g3,lb3,rfl,hc3,hb3⟩;have HP3:=lh (HP2.out.next hb3);have HC3:=lh hc3;clear hc3 hb3)
    |(go_at_call 44;refine (HA1.out _ _ HP1.out.pat HC1.out).mono ?_;rintro e w2 ⟨rfl,hb2⟩;have HP2:=lh (HP1.out.next hb2);clear hb2)
    |(go_at_call 116;refine (jh kNOT _ rfl _).mono ?_;rintro e w1 ⟨g1,lb1,rfl,hc1,hb1⟩;have HP1:=lh (HP0.out.next hb1);have HC1:=lh hc1;clear hc1 hb1))
   exact endNot rfl w.heap.size rfl rfl (qw (HP9.out.own _ List.mem_cons_self).1 _ _ _ _) (Z0 HP9.out HX9.out (fun b hb hl=>by omega) (.inl ⟨rfl,t0,(by first|rfl|exact if_pos rfl),HS7.out⟩))
  |false=>
   have HSE:=lh (fun (v:Value) wx (hp2:PAt wx bp tb l0) (hc:ClAt wx cEnd v)=>yh bp tb l0 cEnd v wx hp2 hc (by omega) (by omega) (Short.hd hv0.short) hk)
   have hC:closeR (PR.ok t0 l0)=.err 11 l0:=by show (if cEnd.test (hd l0)=true then _ else _)= _;rw [hk];rfl
   rw [hC];clear hk hC;go_enter Tryz.func82,Tryz.ntmps82
   go_wp2_with (first
    |(go_at_call 119;refine (HSE.out _ _ HP8.out.pat HC8.out).mono ?_;rintro e w9 ⟨rfl,hb9⟩;have HP9:=lh (HP8.out.next hb9);clear hb9;have hzz:=(HP9.out.own _ List.mem_cons_self).1;obtain ⟨r0,f0,r1,f1,r2,f2,r3,f3⟩:=bf4 hzz;clear hzz)
    |(go_at_call 117;refine (jm [41] _ rfl _).mono ?_;rintro e w8 ⟨g8,lb8,rfl,hc8,hb8⟩;have HP8:=lh (HP7.out.next hb8);have HC8:=lh hc8;clear hc8 hb8)
    |(go_at_call 43;refine (HOO.out _ HP6.out.pat).mono ?_;rintro x w7 hxx;obtain ⟨T,e7,l7,rfl,hp7,hx7,ha7⟩:=wrapX HP6.out hxx;obtain ⟨rfl,rfl,hs7⟩:=ha7.ok_of;have zl:=lt_of_block (hp7.own _ List.mem_cons_self).1;have HP7:=lh (HSWAP.out T _ _ hp7);have hsz6:=lt_of_block (HP6.out.own _ List.mem_cons_self).1;have HX7:=lh (hx7.next ((Below.refl _ _).alloc (Nat.le_refl _) (.cells #[.int .i64 T.op,.int .i64 T.rel,.slice T.aa T.an T.ac,.slice T.ka T.kn T.kc] 26)));have HS7:=lh hs7;clear hxx hp7 hx7 ha7 hs7)
    |(go_at_call 119;refine (HSK.out _ _ HP5.out.pat HC5.out).mono ?_;rintro e w6 ⟨rfl,hp6,ho6⟩;have HP6:=lh (HP5.out.skip hp6 ho6);clear hp6 ho6)
    |(go_at_call 117;refine (jm [40] _ rfl _).mono ?_;rintro e w5 ⟨g5,lb5,rfl,hc5,hb5⟩;have HP5:=lh (HP4.out.next hb5);have HC5:=lh hc5;clear hc5 hb5)
    |(go_at_call 44;refine (HA2.out _ _ HP3.out.pat HC3.out).mono ?_;rintro e w4 ⟨rfl,hb4⟩;have HP4:=lh (HP3.out.next hb4);clear hb4)
    |(go_at_call 117;refine (jm [40] _ rfl _).mono ?_;rintro e w3 ⟨g3,lb3,rfl,hc3,hb3⟩;have HP3:=lh (HP2.out.next hb3);have HC3:=lh hc3;clear hc3 hb3)
    |(go_at_call 44;refine (HA1.out _ _ HP1.out.pat HC1.out).mono ?_;rintro e w2 ⟨rfl,hb2⟩;have HP2:=lh (HP1.out.next hb2);clear hb2)
    |(go_at_call 116;refine (jh kNOT _ rfl _).mono ?_;rintro e w1 ⟨g1,lb1,rfl,hc1,hb1⟩;have HP1:=lh (HP0.out.next hb1);have HC1:=lh hc1;clear hc1 hb1))
   have hF:=HP9.out.put (Nat.le_refl _) (.int .i64 0) (.int .i64 0) (.slice none 0 0) (.slice none 0 0);exact endNot rfl w.heap.size rfl rfl (qw (HP9.out.own _ List.mem_cons_self).1 _ _ _ _) ⟨hF.2,.nil,11,l7,rfl,hF.1,trivial,.inr ⟨rfl,rfl⟩⟩
theorem jlv (bp tb:Nat):∀ (k n:Nat),n+k=8→NotC bp tb k n
 |0,n,hk=>by
  intro l w hp hv h99;have hn:((n:Int)==8)=true:=beq_iff_eq.2 (by omega)
  cases ha:(Cl.wd kNOT).test (hd l) with
  |true=>
   rw [jfa l (by rw [ha];rfl)]
   cases hb:cPar.test (hd l) with
   |true=>exact jmv bp tb n l w hp hv h99 ha hb hn
   |false=>exact jm2 bp tb n l w hp hv h99 ha hb hn
  |false=>
   cases hb:cPar.test (hd l) with
   |true=>
    rw [jfa l (by rw [hb];simp)];exact jm8 bp tb n l w hp hv h99 ha hb hn
   |false=>
    rw [jfm 0 l ha hb];exact jiz bp tb n l w hp hv h99 ha hb
 |k+1,n,hk=>by
  have ih:=jlv bp tb k (n+1) (by omega);intro l w hp hv h99;have hn:((n:Int)==8)=false:=beq_eq_false_iff_ne.2 (by omega)
  cases ha:(Cl.wd kNOT).test (hd l) with
  |true=>
   rw [jrq k l ha]
   cases hb:cPar.test (hd l) with
   |true=>exact jpq bp tb n l w hp hv h99 k ih ha hb hn (by omega)
   |false=>exact jqp bp tb n l w hp hv h99 k ih ha hb hn (by omega)
  |false=>
   cases hb:cPar.test (hd l) with
   |true=>
    rw [jqo k l ha hb];exact js4 bp tb n l w hp hv h99 k (jrp bp tb k (n+1) ih) ha hb hn (by omega)
   |false=>
    rw [jfm (k+1) l ha hb];exact jiz bp tb n l w hp hv h99 ha hb
theorem js3 (bp tb k n:Nat) (h:n+k=8):OrC bp tb k n:=jrp bp tb k n (jlv bp tb k n h)
end Go.Proofs.YthcompcjphaahaaGreatDoor
