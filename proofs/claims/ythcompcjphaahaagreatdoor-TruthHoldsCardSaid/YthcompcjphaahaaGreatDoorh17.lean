/- Contract of chapter 6's reference: Parts. -/
import Derived.Laws.OwnMore
import Derived.Lib.SmallJoins
import Derived.Deep.DeepCutAuto
import Derived.Test.YthcompcjphaahaaGreatDoorh13
import Derived.Test.YthcompcjphaahaaGreatDoorh16
set_option maxRecDepth 100000
set_option maxHeartbeats 8000000
set_option linter.unusedVariables false
namespace Go.Proofs.YthcompcjphaahaaGreatDoor.Pa
open Go.RowKit
theorem infoInt:(Tryz.prog.info? 3).map (fun i=>(i.zero,i.size,i.bytes))=some (some (.int .i64 0),1,8):=by kernel_rfl
def partsL (T:TypeV):List Int:=
 (if T.kind=11∨T.kind=12 then [T.of] else [])++(if T.kind=14 then [T.tag] else [])++(if T.kind=13∨T.kind=14 then (List.range T.ilen).map fun j=>(T.items j).type else [])
theorem Yo {T:TypeV} (h:T.kind=11∨T.kind=12):partsL T=[T.of]:=by
 unfold partsL;rw [if_pos h,if_neg (by omega),if_neg (by omega)];simp
theorem yo {T:TypeV} (h:T.kind=13):partsL T=(List.range T.ilen).map fun j=>(T.items j).type:=by
 unfold partsL;rw [if_neg (by omega),if_neg (by omega),if_pos (by omega)];simp
theorem qy {T:TypeV} (h:T.kind=14):partsL T=T.tag::(List.range T.ilen).map fun j=>(T.items j).type:=by
 unfold partsL;rw [if_neg (by omega),if_pos h,if_pos (by omega)];simp
theorem jby {T:TypeV} (h1:¬(T.kind=11∨T.kind=12)) (h2:T.kind≠13) (h3:T.kind≠14):partsL T=[]:=by
 unfold partsL;rw [if_neg h1,if_neg h3,if_neg (by omega)];simp
def typO (T:TypeV):Obj:=.cells #[.int .i64 T.kind,.string T.name,.int .i64 T.bound,.int .i64 T.of,.int .i64 T.tag,.slice T.ia T.ilen T.icap] 58
def PSt (g:Nat) (T:TypeV) (w0:World) (v:Value) (l:List Int) (w:World):Prop:=w.ownsRow (g+1) 3 1 v l.length (l.map (Value.int .i64))∧w.heap[g]?=some (typO T)∧Below g w0 w
theorem PSt.cells {g:Nat} {T:TypeV} {w0:World} {v:Value} {l:List Int} {w:World} (h:PSt g T w0 v l w):w.cell? ⟨g,0,none⟩=some (.int .i64 T.kind)∧w.cell? ⟨g,3,none⟩=some (.int .i64 T.of)∧w.cell? ⟨g,4,none⟩=some (.int .i64 T.tag)∧w.cell? ⟨g,5,none⟩=some (.slice T.ia T.ilen T.icap)∧g<w.heap.size:=
 ⟨ja h.2.1 rfl,ja h.2.1 rfl,ja h.2.1 rfl,ja h.2.1 rfl,lt_of_block h.2.1⟩
theorem PSt.next {g:Nat} {T:TypeV} {w0:World} {v v2:Value} {l:List Int} {x:Int} {o:Obj} {w w2:World} (h:PSt g T w0 v l w) (h2:w2.ownsRow (g+1) 3 1 v2 (l.length+1) (l.map (Value.int .i64)++[.int .i64 x])) (hg:(w.alloc o).grownBy w2 v.ownBlock):PSt g T w0 v2 (l++[x]) w2:=by
 have hlt:=lt_of_block h.2.1;have hb:Below g w0 w2:=(h.2.2.alloc (Nat.le_of_lt hlt) o).grown hg (by simp;omega) (fun k hk=>by have:=(h.1.lt k hk).1;omega);refine ⟨by simpa using h2,?_,hb⟩;have h3:=je (o:=o) h.2.1;exact (hg.block g (lt_of_block h3) (fun e=>by have:=(h.1.lt g e.symm).1;omega)).trans h3
theorem PSt.out {g:Nat} {T:TypeV} {w0:World} {v:Value} {l:List Int} {w:World} (h:PSt g T w0 v l w) (hg:w0.heap.size=g):w.ownsRow w0.heap.size 3 1 v l.length (l.map (Value.int .i64))∧Below w0.heap.size w0 w:=by
 subst hg;exact ⟨Joins.ownsRow_le h.1 (Nat.le_succ _),h.2.2⟩
theorem PSt.start (T:TypeV) (w:World):PSt w.heap.size T w (.slice none 0 0) [] (w.alloc (typO T)):=⟨World.ownsRow_nil _ _ _ _,jd w _,(Below.refl _ _).alloc (Nat.le_refl _) _⟩
theorem Yp (T:TypeV) (k:Nat):(List.range (k+1)).map (fun j=>(T.items j).type)=(List.range k).map (fun j=>(T.items j).type)++[(T.items k).type]:=by rw [List.range_succ,List.map_append];rfl
theorem jgi (T:TypeV) (w:World) (hil:T.ilen≤3518437208780) (hk:T.kind=11∨T.kind=12):
  Calls Tryz.prog 74 #[typV T] w fun e w'=>∃ v,e=.returned v∧w'.ownsRow w.heap.size 3 1 v (partsL T).length ((partsL T).map (Value.int .i64))∧Below w.heap.size w w':=by
 rw [Yo hk];obtain ⟨i0,hi,hz0,hz1,hz2⟩:=info_parts infoInt;have HS:=lh (PSt.start T w)
 have k14:(T.kind==14)=false:=by simp;omega
 have k13:decide (13≤T.kind)=false:=by simp;omega
 unfold typV
 cases k11:(T.kind==11) with
 |true=>
  go_enter Tryz.func74,Tryz.ntmps74;go_wp2_with (at_builtin;refine jl rfl (.tmp 13) (.tmp 16) 83 rfl (w.heap.size+1) 3 i0 (.int .i64 0) 1 8 Tryz.underlying83 hi hz0 hz1 hz2 rfl (by decide) _ 0 _ rfl (HS.out.1.alloc _) ⟨_,0,none⟩ 1 1 [.int .i64 T.of] rfl rfl (fun j u hj=>by match j,hj with|0,hj=>(simp at hj;subst hj;simp [Addr.add])) (fun u hu=>by (simp at hu;subst hu;rfl)) (by unfold maxLen;omega) (by omega) (by simp <;> omega) ?_;intro v2 w2 hown2 hg2 hf2;have HS2:=lh (HS.out.next hown2 hg2);obtain ⟨c0,c3,c4,c5,hlt⟩:=HS2.out.cells;clear hown2 hg2 hf2);refine wp_loop_rounds 1 ?_;rw [rounds_succ];go_wp2
  all_goals
   go_ret;exact ⟨_,rfl,HS2.out.out rfl⟩
 |false=>
  have k12:(T.kind==12)=true:=by simp at k11 ⊢;omega
  go_enter Tryz.func74,Tryz.ntmps74;go_wp2_with (at_builtin;refine jl rfl (.tmp 13) (.tmp 16) 83 rfl (w.heap.size+1) 3 i0 (.int .i64 0) 1 8 Tryz.underlying83 hi hz0 hz1 hz2 rfl (by decide) _ 0 _ rfl (HS.out.1.alloc _) ⟨_,0,none⟩ 1 1 [.int .i64 T.of] rfl rfl (fun j u hj=>by match j,hj with|0,hj=>(simp at hj;subst hj;simp [Addr.add])) (fun u hu=>by (simp at hu;subst hu;rfl)) (by unfold maxLen;omega) (by omega) (by simp <;> omega) ?_;intro v2 w2 hown2 hg2 hf2;have HS2:=lh (HS.out.next hown2 hg2);obtain ⟨c0,c3,c4,c5,hlt⟩:=HS2.out.cells;clear hown2 hg2 hf2);refine wp_loop_rounds 1 ?_;rw [rounds_succ];go_wp2
  all_goals
   go_ret;exact ⟨_,rfl,HS2.out.out rfl⟩
theorem jey (T:TypeV) (w:World) (hil:T.ilen≤3518437208780) (h1:¬(T.kind=11∨T.kind=12)) (h2:T.kind≠13) (h3:T.kind≠14):
  Calls Tryz.prog 74 #[typV T] w fun e w'=>∃ v,e=.returned v∧w'.ownsRow w.heap.size 3 1 v (partsL T).length ((partsL T).map (Value.int .i64))∧Below w.heap.size w w':=by
 rw [jby h1 h2 h3];have HS:=lh (PSt.start T w)
 have k11:(T.kind==11)=false:=by simp;omega
 have k12:(T.kind==12)=false:=by simp;omega
 have k14:(T.kind==14)=false:=by simp;omega
 unfold typV
 by_cases h13:13≤T.kind
 · have k13:decide (13≤T.kind)=true:=by simpa using h13
   have l14:decide (T.kind≤14)=false:=by simp;omega
   clear h1 h2 h3;go_enter Tryz.func74,Tryz.ntmps74;go_wp2;refine wp_loop_rounds 1 ?_;rw [rounds_succ];go_wp2
   all_goals
    go_ret;exact ⟨_,rfl,HS.out.out rfl⟩
 · have k13:decide (13≤T.kind)=false:=by simpa using h13
   clear h1 h2 h3;go_enter Tryz.func74,Tryz.ntmps74;go_wp2;refine wp_loop_rounds 1 ?_;rw [rounds_succ];go_wp2
   all_goals
    go_ret;exact ⟨_,rfl,HS.out.out rfl⟩
theorem jce (T:TypeV) (w:World) (H:ItemsAt w T) (h13:T.kind=13):
  Calls Tryz.prog 74 #[typV T] w fun e w'=>∃ v,e=.returned v∧w'.ownsRow w.heap.size 3 1 v (partsL T).length ((partsL T).map (Value.int .i64))∧Below w.heap.size w w':=by
 rw [yo h13];obtain ⟨hil,hit⟩:=H;have HI:=lh hit;clear hit;obtain ⟨i0,hi,hz0,hz1,hz2⟩:=info_parts infoInt;have HS:=lh (PSt.start T w)
 have k11:(T.kind==11)=false:=by simp;omega
 have k12:(T.kind==12)=false:=by simp;omega
 have k14:(T.kind==14)=false:=by simp;omega
 have k13:decide (13≤T.kind)=true:=by simp;omega
 have l14:decide (T.kind≤14)=true:=by simp;omega
 clear h13;unfold typV
 · go_enter Tryz.func74,Tryz.ntmps74;go_wp2
   go_loopw [3,4] (fun v i wr=>∃ j:Nat,j≤T.ilen∧i=.int .i64 j∧Hid (PSt w.heap.size T w v ((List.range j).map fun m=>(T.items m).type) wr)) (fun _ i _=>T.ilen - (intOf i).toNat)
   case atStart=>exact ⟨0,Nat.zero_le _,rfl,HS⟩
   case round=>
    obtain ⟨j,hj,rfl,HP⟩:=hrel;obtain ⟨c0,c3,c4,c5,hlt⟩:=HP.out.cells
    by_cases hlt2:j<T.ilen
    · have hln:((List.range j).map fun m=>(T.items m).type).length≤3518437208782:=by simp;omega
      have hiat:=(HI.out j hlt2).held (w1:=wr) HP.out.2.2;obtain ⟨b,off,hia,d0,d1,d2,d3,d4,wi⟩:=hiat;have HT:=lh (Yp T j);rw [hia] at c5;clear hia;obtain ⟨wo,rfl⟩:∃ wo:World,wo=wr:=⟨_,rfl⟩;go_wp2_with (at_builtin;refine jl rfl (.tmp 43) (.tmp 50) 83 rfl (w.heap.size+1) 3 i0 (.int .i64 0) 1 8 Tryz.underlying83 hi hz0 hz1 hz2 rfl (by decide) _ _ _ rfl (HP.out.1.alloc _) ⟨_,0,none⟩ 1 1 [.int .i64 (T.items j).type] rfl rfl (fun j u hj=>by match j,hj with|0,hj=>(simp at hj;subst hj;simp [Addr.add])) (fun u hu=>by (simp at hu;subst hu;rfl)) (by unfold maxLen;omega) (by omega) (by simp <;> omega) ?_;intro v2 w2 hown2 hg2 hf2;have HQ:=lh (HP.out.next (x:=(T.items j).type) (by simpa using hown2) hg2);clear hown2 hg2 hf2);go_wp2;go_roundw
      case rel=>exact ⟨j+1,by omega,by go_num,(by rw [HT.out];exact HQ)⟩
      case measure=>simp [intOf];omega
    · obtain rfl:j=T.ilen:=by omega
      go_wp2;go_ret;exact ⟨_,rfl,HP.out.out rfl⟩
theorem jdt (T:TypeV) (w:World) (H:ItemsAt w T) (h14:T.kind=14):
  Calls Tryz.prog 74 #[typV T] w fun e w'=>∃ v,e=.returned v∧w'.ownsRow w.heap.size 3 1 v (partsL T).length ((partsL T).map (Value.int .i64))∧Below w.heap.size w w':=by
 rw [qy h14];obtain ⟨hil,hit⟩:=H;have HI:=lh hit;clear hit;obtain ⟨i0,hi,hz0,hz1,hz2⟩:=info_parts infoInt;have HS:=lh (PSt.start T w)
 have k11:(T.kind==11)=false:=by simp;omega
 have k12:(T.kind==12)=false:=by simp;omega
 have k14:(T.kind==14)=true:=by simp;omega
 have k13:decide (13≤T.kind)=true:=by simp;omega
 have l14:decide (T.kind≤14)=true:=by simp;omega
 clear h14;unfold typV
 · go_enter Tryz.func74,Tryz.ntmps74;go_wp2_with (at_builtin;refine jl rfl (.tmp 21) (.tmp 24) 83 rfl (w.heap.size+1) 3 i0 (.int .i64 0) 1 8 Tryz.underlying83 hi hz0 hz1 hz2 rfl (by decide) _ 0 _ rfl (HS.out.1.alloc _) ⟨_,0,none⟩ 1 1 [.int .i64 T.tag] rfl rfl (fun j u hj=>by match j,hj with|0,hj=>(simp at hj;subst hj;simp [Addr.add])) (fun u hu=>by (simp at hu;subst hu;rfl)) (by unfold maxLen;omega) (by omega) (by simp <;> omega) ?_;intro v2 w2 hown2 hg2 hf2;have HS2:=lh (HS.out.next hown2 hg2);obtain ⟨c0,c3,c4,c5,hlt⟩:=HS2.out.cells;clear hown2 hg2 hf2)
   go_loopw [3,4] (fun v i wr=>∃ j:Nat,j≤T.ilen∧i=.int .i64 j∧Hid (PSt w.heap.size T w v (T.tag::(List.range j).map fun m=>(T.items m).type) wr)) (fun _ i _=>T.ilen - (intOf i).toNat)
   case atStart=>exact ⟨0,Nat.zero_le _,rfl,HS2⟩
   case round=>
    obtain ⟨j,hj,rfl,HP⟩:=hrel;obtain ⟨c0,c3,c4,c5,hlt⟩:=HP.out.cells
    by_cases hlt2:j<T.ilen
    · have hln:(T.tag::(List.range j).map fun m=>(T.items m).type).length≤3518437208782:=by simp;omega
      have hiat:=(HI.out j hlt2).held (w1:=wr) HP.out.2.2;obtain ⟨b,off,hia,d0,d1,d2,d3,d4,wi⟩:=hiat;have HT:=lh (Yp T j);rw [hia] at c5;clear hia;obtain ⟨wo,rfl⟩:∃ wo:World,wo=wr:=⟨_,rfl⟩;go_wp2_with (at_builtin;refine jl rfl (.tmp 43) (.tmp 50) 83 rfl (w.heap.size+1) 3 i0 (.int .i64 0) 1 8 Tryz.underlying83 hi hz0 hz1 hz2 rfl (by decide) _ _ _ rfl (HP.out.1.alloc _) ⟨_,0,none⟩ 1 1 [.int .i64 (T.items j).type] rfl rfl (fun j u hj=>by match j,hj with|0,hj=>(simp at hj;subst hj;simp [Addr.add])) (fun u hu=>by (simp at hu;subst hu;rfl)) (by unfold maxLen;omega) (by omega) (by simp <;> omega) ?_;intro v2 w2 hown2 hg2 hf2;have HQ:=lh (HP.out.next (x:=(T.items j).type) (by simpa using hown2) hg2);clear hown2 hg2 hf2);go_wp2;go_roundw
      case rel=>exact ⟨j+1,by omega,by go_num,(by rw [HT.out];exact HQ)⟩
      case measure=>simp [intOf];omega
    · obtain rfl:j=T.ilen:=by omega
      go_wp2;go_ret;exact ⟨_,rfl,HP.out.out rfl⟩
theorem jaf (T:TypeV) (w:World) (H:ItemsAt w T):
  Calls Tryz.prog 74 #[typV T] w fun e w'=>∃ v,e=.returned v∧w'.ownsRow w.heap.size 3 1 v (partsL T).length ((partsL T).map (Value.int .i64))∧Below w.heap.size w w':=by
 by_cases h1:T.kind=11∨T.kind=12
 · exact jgi T w H.1 h1
 · by_cases h3:T.kind=13
   · exact jce T w H h3
   · by_cases h4:T.kind=14
     · exact jdt T w H h4
     · exact jey T w H.1 h1 h3 h4
def deepStep (D:Nat→Nat) (t:Nat) (acc:Nat) (p:Int):Nat:=if 0≤p∧p<t then max acc (D p.toNat+1) else acc
def deepF (L:Nat→TypeV):Nat→Nat→Nat
 |0,_=>0
 |f+1,t=>(partsL (L t)).foldl (deepStep (deepF L f) t) 1
theorem Z6 {t:Nat} {D E:Nat→Nat} (h:∀ k,k<t→D k=E k):∀ (l:List Int) (a:Nat),l.foldl (deepStep D t) a=l.foldl (deepStep E t) a
 | [],_=>rfl
 |p::l,a=>by
  rw [List.foldl_cons,List.foldl_cons]
  have:deepStep D t a p=deepStep E t a p:=by
   unfold deepStep
   by_cases c:0≤p∧p<t
   · rw [if_pos c,if_pos c,h p.toNat (by omega)]
   · rw [if_neg c,if_neg c]
  rw [this];exact Z6 h l _
theorem jhi (L:Nat→TypeV):∀ (n t f g:Nat),t<n→t<f→t<g→deepF L f t=deepF L g t
 |0,_,_,_,h,_,_=>by omega
 |n+1,t,f+1,g+1,h,hf,hg=>Z6 (fun k hk=>jhi L n k f g (by omega) (by omega) (by omega)) _ _
def deepN (L:Nat→TypeV) (t:Nat):Nat:=deepF L (t+1) t
theorem X0 (L:Nat→TypeV) (t:Nat):deepN L t=(partsL (L t)).foldl (deepStep (deepN L) t) 1:=
 Z6 (fun k hk=>jhi L (k+1) k t (k+1) (by omega) hk (by omega)) _ _
theorem jme {t m:Nat} {D:Nat→Nat} (h:∀ k,k<t→D k+1≤m):∀ (l:List Int) (a:Nat),a≤m→l.foldl (deepStep D t) a≤m
 | [],_,ha=>ha
 |p::l,a,ha=>by
  rw [List.foldl_cons];refine jme h l _ ?_;unfold deepStep
  split
  · rename_i c;have:=h p.toNat (by omega);omega
  · exact ha
theorem jec (L:Nat→TypeV):∀ (n t:Nat),t<n→deepN L t≤t+1
 |0,_,h=>by omega
 |n+1,t,h=>by
  rw [X0];exact jme (fun k hk=>by have:=jec L n k (by omega);omega) _ _ (by omega)
theorem jg3 {t:Nat} {D:Nat→Nat}:∀ (l:List Int) (a:Nat),a≤l.foldl (deepStep D t) a
 | [],_=>Nat.le_refl _
 |p::l,a=>by
  rw [List.foldl_cons];refine Nat.le_trans ?_ (jg3 l _)
  unfold deepStep;split <;> omega
theorem jfu (L:Nat→TypeV) (t:Nat):1≤deepN L t:=by rw [X0];exact jg3 _ _
def deepL (L:Nat→TypeV) (len:Nat) (t:Int):Int:=if inL len t then (deepN L t.toNat:Nat) else 0
theorem ki {w w1:World} {base:Nat} {e:TypeId} {size:Nat} {v:Value} {n:Nat} {xs:List Value} (h:w.ownsRow base e size v n xs) (hb:Below w.heap.size w w1):w1.ownsRow base e size v n xs:=(Only.of_below (S:=fun _=>False) hb).row h (fun _ _ f=>f)
theorem zr {w:World} {base g n cap:Nat} {l:List Int} (h:w.ownsRow base 3 1 (.slice (some ⟨g,0,none⟩) n cap) n (l.map (Value.int .i64))) (j:Nat) (hj:j<n):w.cell? ⟨g,j,none⟩=some (.int .i64 (l.getD j 0)):=by
 have hl:l.length=n:=by have:=h.1;simpa using this
 rw [h.cellAt j (by omega),List.getElem?_map,List.getElem?_eq_getElem (by omega),List.getD_eq_getElem?_getD,List.getElem?_eq_getElem (by omega)]
 rfl
theorem jow {D:Nat→Nat} {t:Nat} (l:List Int) (j:Nat) (hj:j<l.length):(l.take (j+1)).foldl (deepStep D t) 1=deepStep D t ((l.take j).foldl (deepStep D t) 1) (l.getD j 0):=by
 rw [List.take_succ_eq_append_getElem hj,List.foldl_append,List.getD_eq_getElem?_getD,List.getElem?_eq_getElem hj];rfl
theorem Xt {w:World} {base n:Nat} {e:TypeId} {size:Nat} {v:Value} {xs:List Value} (h:w.ownsRow base e size v n xs):∃ (a:Option Addr) (cap:Nat),v=.slice a n cap∧(0<n→∃ g,a=some ⟨g,0,none⟩):=by
 rcases h.2 with ⟨rfl,rfl⟩|⟨g,cap,cur,rfl,_⟩
 · exact ⟨none,0,rfl,fun h=>by omega⟩
 · exact ⟨_,cap,rfl,fun _=>⟨g,rfl⟩⟩
def DeepTo (L:Nat→TypeV) (ao:Option Addr) (len cap:Nat) (t:Int) (w:World):Prop:=Calls Tryz.prog 76 #[.slice ao len cap,.int .i64 t] w fun e w'=>e=.returned (.int .i64 (deepL L len t))∧Below w.heap.size w w'
theorem Yh {T:TypeV} (h:T.ilen≤3518437208780):(partsL T).length≤3518437208782:=by
 unfold partsL;simp only [List.length_append]
 split <;> split <;> split <;> simp <;> omega
theorem jg2 (ao:Option Addr) (len cap:Nat) (L:Nat→TypeV) (hlen:len≤140737488351232) (t:Nat) (ht:t<len)
  (ih:∀ k,k<t→∀ (w:World),(∀ i,i<len→TypeAt w ao i (L i))→DeepTo L ao len cap (k:Nat) w) (w:World) (H:∀ i,i<len→TypeAt w ao i (L i)):DeepTo L ao len cap (t:Nat) w:=by
 have HR:=lh ih;clear ih;have HH:=lh H;clear H
 have e0:deepL L len (t:Nat)=(deepN L t:Nat):=by unfold deepL;rw [k8 ht];rfl
 unfold DeepTo;rw [e0];obtain ⟨b,off,rfl,c0,c1,c2,c3,c4,c5,wf,hi⟩:=HH.out t ht
 have hn0:decide ((t:Int)<0)=false:=by simp
 have hn1:decide ((len:Int)≤t)=false:=by simp;omega
 have hll:=Yh hi.1;have HP:=lh (fun wx (hb:Below w.heap.size w wx)=>jaf (L t) wx (hi.held hb));clear hi;go_enter Tryz.func76,Tryz.ntmps76;go_wp2_with (go_at_call 74;refine (HP.out _ (Below.refl _ _)).mono ?_;rintro e w1 ⟨v,rfl,hown,hb1⟩);obtain ⟨va,vc,rfl,hva⟩:=Xt hown;obtain ⟨l,hl⟩:∃ l,partsL (L t)=l:=⟨_,rfl⟩;have HE:=lh (show deepN L t=l.foldl (deepStep (deepN L) t) 1 by rw [X0,hl]);rw [hl] at hown hva hll
 have hnn:(partsL (L t)).length=l.length:=by rw [hl]
 rw [hnn];have HO:=lh hown;have HV:=lh hva;have HB1:=lh hb1;have HDB:=lh (fun k (hk:k<t)=>jec L (k+1) k (Nat.lt_succ_self k));clear hl hown hva hnn hb1 c0 c1 c2 c3 c4 c5;obtain ⟨D,hD⟩:∃ D,deepN L=D:=⟨_,rfl⟩
 go_loopw [6,7] (fun q i wr=>∃ (j m:Nat),j≤l.length∧i=.int .i64 j∧q=.int .i64 m∧Hid ((l.take j).foldl (deepStep (deepN L) t) 1=m)∧m≤t+1∧Hid (wr.ownsRow w.heap.size 3 1 (.slice va l.length vc) l.length (l.map (Value.int .i64)))∧Hid (Below w.heap.size w wr)) (fun _ i _=>l.length - (intOf i).toNat)
 case atStart=>exact ⟨0,1,Nat.zero_le _,rfl,rfl,lh rfl,by omega,HO,HB1⟩
 case round=>
  obtain ⟨j,m,hj,rfl,rfl,HM,hm,HR1,HBr⟩:=hrel
  by_cases hlt:j<l.length
  · obtain ⟨g,rfl⟩:=HV.out (by omega);have c:=zr HR1.out j hlt;obtain ⟨p,hp⟩:∃ p,l.getD j 0=p:=⟨_,rfl⟩;rw [hp] at c;have hnx:=jow (D:=deepN L) (t:=t) l j hlt;rw [HM.out,hp] at hnx
    by_cases hin:0≤p∧p<t
    · obtain ⟨hp0,hpt⟩:=hin;obtain ⟨k,rfl⟩:=Int.eq_ofNat_of_zero_le hp0
      have hkt:k<t:=by omega
      have hst:deepStep (deepN L) t m (k:Nat)=max m (deepN L k+1):=by unfold deepStep;rw [if_pos ⟨hp0,hpt⟩];rfl
      rw [hst] at hnx;have hdk:=HDB.out k hkt;have hcall:=HR.out k (by omega) wr (fun i hi=>(HH.out i hi).held HBr.out);unfold DeepTo at hcall
      have e1:deepL L len (k:Nat)=(deepN L k:Nat):=by unfold deepL;rw [k8 (by omega)];rfl
      rw [e1] at hcall;have HC:=lh hcall;obtain ⟨d,hd⟩:∃ d,deepN L k=d:=⟨_,rfl⟩;rw [hd] at HC hnx hdk;have HN:=lh hnx
      have tp:decide ((k:Int)<t)=true:=by simp;omega
      have tp2:decide (k<t)=true:=by simpa using hkt
      have tq:decide (0≤(k:Int))=true:=by simp
      have HTK:=lh hkt
      have hd1:d+1≤t+1:=by omega
      clear hnx hcall e1 hst hp hp0 hpt hd hkt;go_wp2_with (go_at_call 76;refine (HC.out).mono ?_;rintro e w2 ⟨rfl,hb2⟩)
      · have HR2:=lh (ki HR1.out hb2);have HB2:=lh (HBr.out.trans (hb2.mono HBr.out.size))
        have hgt:(m:Int)<(d:Int)+1:=by assumption
        go_roundw
        case rel=>exact ⟨j+1,d+1,by omega,by go_num,by go_num,lh (HN.out.trans (Nat.max_eq_right (by omega))),hd1,HR2,HB2⟩
        case measure=>simp [intOf];omega
      · have HR2:=lh (ki HR1.out hb2);have HB2:=lh (HBr.out.trans (hb2.mono HBr.out.size))
        have hgt:(d:Int)+1≤(m:Int):=by assumption
        go_roundw
        case rel=>exact ⟨j+1,m,by omega,by go_num,rfl,lh (HN.out.trans (Nat.max_eq_left (by omega))),hm,HR2,HB2⟩
        case measure=>simp [intOf];omega
    · have hst:deepStep (deepN L) t m p=m:=by unfold deepStep;rw [if_neg hin]
      rw [hst] at hnx;have HN:=lh hnx;clear hnx hst hp
      by_cases hpt:p<t
      · have tp:decide (p<(t:Int))=true:=by simpa using hpt
        have tq:decide (0≤p)=false:=by simp;omega
        clear hin;go_wp2;go_roundw
        case rel=>exact ⟨j+1,m,by omega,by go_num,rfl,HN,hm,HR1,HBr⟩
        case measure=>simp [intOf];omega
      · have tp:decide (p<(t:Int))=false:=by simpa using hpt
        clear hin;go_wp2;go_roundw
        case rel=>exact ⟨j+1,m,by omega,by go_num,rfl,HN,hm,HR1,HBr⟩
        case measure=>simp [intOf];omega
  · obtain rfl:j=l.length:=by omega
    have HN:=lh (HM.out.symm.trans (by rw [List.take_length]:_=l.foldl (deepStep (deepN L) t) 1));go_wp2;go_ret;exact ⟨jo (by rw [HE.out,←HN.out]),HBr.out⟩
theorem jed (ao:Option Addr) (len cap:Nat) (L:Nat→TypeV) (hlen:len≤140737488351232):∀ (n t:Nat),t<n→t<len→∀ (w:World),(∀ i,i<len→TypeAt w ao i (L i))→DeepTo L ao len cap (t:Nat) w
 |0,t,h,_,_,_=>absurd h (Nat.not_lt_zero _)
 |n+1,t,h,ht,w,H=>jg2 ao len cap L hlen t ht (fun k hk w' H'=>jed ao len cap L hlen n k (by omega) (by omega) w' H') w H
theorem jho (ao:Option Addr) (len cap:Nat) (L:Nat→TypeV) (hlen:len≤140737488351232) (t:Int) (w:World) (H:∀ i,i<len→TypeAt w ao i (L i)):DeepTo L ao len cap t w:=by
 by_cases ht:0≤t∧t<len
 · obtain ⟨h0,h1⟩:=ht;obtain ⟨k,rfl⟩:=Int.eq_ofNat_of_zero_le h0;exact jed ao len cap L hlen (k+1) k (Nat.lt_succ_self _) (by omega) w H
 · unfold DeepTo
   have e0:deepL L len t=0:=by unfold deepL;rw [za ht];rfl
   rw [e0]
   by_cases h0:0≤t
   · have hn0:decide (t<0)=false:=by simp;omega
     have hn1:decide ((len:Int)≤t)=true:=by simp;omega
     go_enter Tryz.func76,Tryz.ntmps76;go_wp2;go_ret;exact ⟨rfl,Below.refl _ _⟩
   · have hn0:decide (t<0)=true:=by simp;omega
     go_enter Tryz.func76,Tryz.ntmps76;go_wp2;go_ret;exact ⟨rfl,Below.refl _ _⟩
def BoxT (g:Nat) (T:TypeV) (w0 w:World):Prop:=w.heap[g]?=some (typO T)∧Below g w0 w
theorem BoxT.cells {g:Nat} {T:TypeV} {w0 w:World} (h:BoxT g T w0 w):w.cell? ⟨g,0,none⟩=some (.int .i64 T.kind)∧w.cell? ⟨g,1,none⟩=some (.string T.name)∧w.cell? ⟨g,2,none⟩=some (.int .i64 T.bound)∧w.cell? ⟨g,3,none⟩=some (.int .i64 T.of)∧w.cell? ⟨g,4,none⟩=some (.int .i64 T.tag)∧w.cell? ⟨g,5,none⟩=some (.slice T.ia T.ilen T.icap):=
 ⟨ja h.1 rfl,ja h.1 rfl,ja h.1 rfl,ja h.1 rfl,ja h.1 rfl,ja h.1 rfl⟩
theorem BoxT.keep {g:Nat} {T:TypeV} {w0 w w1:World} (h:BoxT g T w0 w) (hb:Below w.heap.size w w1):BoxT g T w0 w1:=
 ⟨(hb.block g (lt_of_block h.1)).trans h.1,h.2.trans (hb.mono (Nat.le_of_lt (lt_of_block h.1)))⟩
theorem BoxT.start (T:TypeV) (w:World):BoxT w.heap.size T w (w.alloc (typO T)):=⟨jd w _,(Below.refl _ _).alloc (Nat.le_refl _) _⟩
def c1B (T:TypeV):Bool:=(!T.name.toList.isEmpty&&!namedK T.kind)||(decide (0<T.ilen)&&!namedK T.kind)
def c3B (T:TypeV):Bool:=(T.bound !=0&&(decide (T.kind<10)||decide (12<T.kind)))||(T.of !=0&&(T.kind !=11&&T.kind !=12))||(T.tag !=0&&T.kind !=14)
def itemMore (k:Int) (x:ItemV):Bool:=(x.num !=0&&(k==13||x.rest))||(x.type !=0&&k==9)||(x.key&&k !=13)||(x.rest&&k !=14)
def moreB (T:TypeV):Bool:=c1B T||c3B T||decide (firstN (fun j=>itemMore T.kind (T.items j)) T.ilen<T.ilen)
theorem jik (T:TypeV) (w:World) (H:ItemsAt w T):Calls Tryz.prog 71 #[typV T] w fun e w'=>e=.returned (.bool (moreB T))∧Below w.heap.size w w':=by
 obtain ⟨hil,hit⟩:=H;have HI:=lh hit;clear hit;have HE:=lh (show moreB T=(c1B T||c3B T||decide (firstN (fun j=>itemMore T.kind (T.items j)) T.ilen<T.ilen)) from rfl);have H1:=lh (show c1B T=((!T.name.toList.isEmpty&&!namedK T.kind)||(decide (0<T.ilen)&&!namedK T.kind)) from rfl);have H3:=lh (show c3B T=((T.bound !=0&&(decide (T.kind<10)||decide (12<T.kind)))||(T.of !=0&&(T.kind !=11&&T.kind !=12))||(T.tag !=0&&T.kind !=14)) from rfl);unfold typV;go_enter Tryz.func71,Tryz.ntmps71
 go_upto_region 1 with (fail)
 have HB:=lh (BoxT.start T w)
 go_cut [25] (fun t wx=>t=.bool (c1B T)∧Hid (BoxT w.heap.size T w wx))
 case first=>
  go_wp2_with (go_at_call 72;refine (zf _ _).mono ?_;rintro e w' ⟨rfl,rfl⟩)
  all_goals
   go_meet
   exact ⟨by rw [H1.out];simp_all,HB⟩
 case rest=>
  obtain ⟨rfl,HB⟩:=hcut
  cases hc1:c1B T with
  |true=>
   go_wp2;go_ret;exact ⟨qk (by rw [HE.out,hc1];rfl),HB.out.2⟩
  |false=>
   obtain ⟨d0,d1,d2,d3,d4,d5⟩:=HB.out.cells
   go_upto_region 3 with (fail)
   go_cut [63] (fun t wx=>t=.bool (c3B T)∧Hid (BoxT w.heap.size T w wx))
   case first=>
    obtain ⟨b1,hb1⟩:∃ b,(T.bound !=0)=b:=⟨_,rfl⟩;obtain ⟨b2,hb2⟩:∃ b,decide (T.kind<10)=b:=⟨_,rfl⟩;obtain ⟨b3,hb3⟩:∃ b,decide (12<T.kind)=b:=⟨_,rfl⟩;obtain ⟨b4,hb4⟩:∃ b,(T.of !=0)=b:=⟨_,rfl⟩;obtain ⟨b5,hb5⟩:∃ b,(T.kind !=11)=b:=⟨_,rfl⟩;obtain ⟨b6,hb6⟩:∃ b,(T.kind !=12)=b:=⟨_,rfl⟩;obtain ⟨b7,hb7⟩:∃ b,(T.tag !=0)=b:=⟨_,rfl⟩;obtain ⟨b8,hb8⟩:∃ b,(T.kind !=14)=b:=⟨_,rfl⟩;have H4:=lh (H3.out.trans (by rw [hb1,hb2,hb3,hb4,hb5,hb6,hb7,hb8]:_=((b1&&(b2||b3))||(b4&&(b5&&b6))||(b7&&b8))));go_wp2
    all_goals
     go_meet
     exact ⟨by rw [H4.out];simp_all,HB⟩
   case rest=>
    obtain ⟨rfl,HB⟩:=hcut;clear d0 d1 d2 d3 d4 d5
    cases hc3:c3B T with
    |true=>
     go_wp2;go_ret;exact ⟨qk (by rw [HE.out,hc1,hc3];rfl),HB.out.2⟩
    |false=>
     go_wp2
     go_loopw [3] (fun i wr=>∃ j:Nat,j≤T.ilen∧i=.int .i64 j∧Hid (∀ m,m<j→itemMore T.kind (T.items m)=false)∧Hid (BoxT w.heap.size T w wr)) (fun i _=>T.ilen - (intOf i).toNat)
     case atStart=>exact ⟨0,Nat.zero_le _,rfl,lh (fun m hm=>absurd hm (Nat.not_lt_zero _)),HB⟩
     case round=>
      obtain ⟨j,hj,rfl,HN,HBr⟩:=hrel;obtain ⟨d0,d1,d2,d3,d4,d5⟩:=HBr.out.cells
      by_cases hlt:j<T.ilen
      · have hiat:=(HI.out j hlt).held (w1:=wr) HBr.out.2;obtain ⟨b,off,hia,x0,x1,x2,x3,x4,wi⟩:=hiat;rw [hia] at d5;clear hia;have HIM:=lh (show itemMore T.kind (T.items j)=(((T.items j).num !=0&&(T.kind==13||(T.items j).rest))||((T.items j).type !=0&&T.kind==9)||((T.items j).key&&T.kind !=13)||((T.items j).rest&&T.kind !=14)) from rfl)
        go_upto_region 9 with (fail)
        go_cut [115] (fun t wx=>t=.bool (itemMore T.kind (T.items j))∧Hid (BoxT w.heap.size T w wx))
        case first=>
         have hlt3:=lt_of_block HBr.out.1
         have hne:¬w.heap.size=wr.heap.size:=by omega
         obtain ⟨b1,hb1⟩:∃ b,((T.items j).num !=0)=b:=⟨_,rfl⟩;obtain ⟨b2,hb2⟩:∃ b,(T.kind==13)=b:=⟨_,rfl⟩;obtain ⟨b3,hb3⟩:∃ b,(T.items j).rest=b:=⟨_,rfl⟩;obtain ⟨b4,hb4⟩:∃ b,((T.items j).type !=0)=b:=⟨_,rfl⟩;obtain ⟨b5,hb5⟩:∃ b,(T.kind==9)=b:=⟨_,rfl⟩;obtain ⟨b6,hb6⟩:∃ b,(T.items j).key=b:=⟨_,rfl⟩;obtain ⟨b7,hb7⟩:∃ b,(T.kind !=13)=b:=⟨_,rfl⟩;obtain ⟨b8,hb8⟩:∃ b,(T.kind !=14)=b:=⟨_,rfl⟩;have H4:=lh (HIM.out.trans (by rw [hb1,hb2,hb3,hb4,hb5,hb6,hb7,hb8]:_=((b1&&(b2||b3))||(b4&&b5)||(b6&&b7)||(b3&&b8))));go_wp2
         all_goals
          go_meet
          exact ⟨by rw [H4.out];simp_all,lh (HBr.out.keep ((Below.refl _ _).alloc (Nat.le_refl _) _))⟩
        case rest=>
         obtain ⟨rfl,HB3⟩:=hcut
         cases hm:itemMore T.kind (T.items j) with
         |true=>
          have hf:=qr HN.out hlt hm;go_wp2;go_ret;exact ⟨qk (by rw [HE.out,hf,decide_eq_true hlt];simp),HB3.out.2⟩
         |false=>
          have HN2:=lh (ji HN.out hm);go_wp2;go_roundw
          case rel=>exact ⟨j+1,by omega,by go_num,HN2,HB3⟩
          case measure=>simp [intOf];omega
      · obtain rfl:j=T.ilen:=by omega
        have hf:=kp HN.out;go_wp2;go_ret;exact ⟨qk (by rw [HE.out,hf,hc1,hc3];simp),HBr.out.2⟩
def numberB (L:Nat→TypeV) (T:TypeV) (n:Int):Bool:=if T.kind=9 then mayK 9 n else if (L T.tag.toNat).kind=9 then decide (0≤valueZ (L T.tag.toNat) n) else mayK (L T.tag.toNat).kind n
theorem jku (ao:Option Addr) (len cap:Nat) (L:Nat→TypeV) (T:TypeV) (n:Int) (hlen:len≤140737488351232) (hn:(Lit.int .u64 n).wf=true) (htag:T.kind=9∨(0≤T.tag∧T.tag<len)) (w:World) (H:∀ i,i<len→TypeAt w ao i (L i)):
  Calls Tryz.prog 111 #[.slice ao len cap,typV T,.int .u64 n] w fun e w'=>e=.returned (.bool (numberB L T n))∧Below w.heap.size w w':=by
 have HH:=lh H;unfold typV
 by_cases h9:T.kind=9
 · have k9:(T.kind==9)=true:=by simpa using h9
   have e0:numberB L T n=mayK 9 n:=by unfold numberB;rw [if_pos h9]
   rw [e0];have HM:=lh (fun w=>Y2 9 n hn w);clear h9 htag H;go_enter Tryz.func111,Tryz.ntmps111;go_wp2_with (go_at_call 78;refine (HM.out _).mono ?_;rintro e w1 ⟨rfl,m,rfl⟩);go_ret;exact ⟨rfl,jf ((Below.refl _ _).alloc (Nat.le_refl _) _) m⟩
 · have k9:(T.kind==9)=false:=by simpa using h9
   obtain ⟨h0,h1⟩:=htag.resolve_left h9;obtain ⟨k,hk⟩:=Int.eq_ofNat_of_zero_le h0
   have hkl:k<len:=by omega
   have htn:T.tag.toNat=k:=by omega
   obtain ⟨b,off,rfl,c0,c1,c2,c3,c4,c5,wf,hi⟩:=HH.out k hkl;have hblt:b<w.heap.size:=World.block_lt_of_cell? w _ c0
   have hne:¬b=w.heap.size:=by omega
   have hc:=fun (o:Obj)=>jk (w:=w) (w1:=w.alloc o) ((Below.refl _ _).alloc (Nat.le_refl _) _) c0
   by_cases hk9:(L k).kind=9
   · have k9':((L k).kind==9)=true:=by simpa using hk9
     have e0:numberB L T n=decide (0≤valueZ (L k) n):=by unfold numberB;rw [if_neg h9,htn,if_pos hk9]
     rw [e0];have hv:=fun wx (hb:Below w.heap.size w wx)=>jav (some ⟨b,off,none⟩) len cap L (k:Nat) n hlen wx (fun i hi=>(H i hi).held hb)
     have e1:valueL L len (k:Nat) n=valueZ (L k) n:=by unfold valueL;rw [k8 hkl];rfl
     rw [e1] at hv;have HV:=lh hv;clear hv e0 e1 h9 hk9 htag H htn h0 h1;go_enter Tryz.func111,Tryz.ntmps111;go_wp2_with (go_at_call 77;refine (HV.out _ ((Below.refl _ _).alloc (Nat.le_refl _) _)).mono ?_;rintro e w1 ⟨rfl,rfl⟩);go_ret;exact ⟨qk rfl,(Below.refl _ _).alloc (Nat.le_refl _) _⟩
   · have k9':((L k).kind==9)=false:=by simpa using hk9
     have e0:numberB L T n=mayK (L k).kind n:=by unfold numberB;rw [if_neg h9,htn,if_neg hk9]
     rw [e0];have HM:=lh (fun w=>Y2 (L k).kind n hn w);clear e0 h9 hk9 htag H htn h0 h1;go_enter Tryz.func111,Tryz.ntmps111;go_wp2_with (go_at_call 78;refine (HM.out _).mono ?_;rintro e w1 ⟨rfl,m,rfl⟩);go_ret;exact ⟨rfl,jf ((Below.refl _ _).alloc (Nat.le_refl _) _) m⟩
def itmO (x:ItemV):Obj:=.cells #[.string x.name,.int .u64 x.num,.int .i64 x.type,.bool x.key,.bool x.rest] 60
def ItB (g h:Nat) (T:TypeV) (x:ItemV) (w0 w:World):Prop:=w.heap[h]?=some (itmO x)∧BoxT g T w0 w
theorem ItB.keep {g h:Nat} {T:TypeV} {x:ItemV} {w0 w w1:World} (hi:ItB g h T x w0 w) (hb:Below w.heap.size w w1):ItB g h T x w0 w1:=⟨(hb.block h (lt_of_block hi.1)).trans hi.1,hi.2.keep hb⟩
theorem ItB.drewN {g h:Nat} {T:TypeV} {x:ItemV} {w0 w:World} (hi:ItB g h T x w0 w) (m:Nat):ItB g h T x w0 (w.drewN m):=hi.keep (jf (Below.refl _ _) m)
theorem ItB.cells {g h:Nat} {T:TypeV} {x:ItemV} {w0 w:World} (hi:ItB g h T x w0 w):w.cell? ⟨h,0,none⟩=some (.string x.name)∧w.cell? ⟨h,1,none⟩=some (.int .u64 x.num)∧w.cell? ⟨h,2,none⟩=some (.int .i64 x.type)∧w.cell? ⟨h,3,none⟩=some (.bool x.key)∧w.cell? ⟨h,4,none⟩=some (.bool x.rest):=
 ⟨ja hi.1 rfl,ja hi.1 rfl,ja hi.1 rfl,ja hi.1 rfl,ja hi.1 rfl⟩
def nameEq (T:TypeV) (x:ItemV) (k:Nat):Bool:=(T.items k).name.toList==x.name.toList
def numEq (T:TypeV) (x:ItemV) (k:Nat):Bool:=(T.items k).num==x.num
def hasB (p:Nat→Bool) (n:Nat):Bool:=decide (firstN p n<n)
theorem jba (p:Nat→Bool) (k:Nat):hasB p (k+1)=(hasB p k||p k):=by
 obtain ⟨h1,h2,h3⟩:=qv p k;unfold hasB
 by_cases c:firstN p k<k
 · rw [qr h2 (by omega:firstN p k<k+1) (h3 c),decide_eq_true c,decide_eq_true (by omega)];rfl
 · have hn:∀ i,i<k→p i=false:=fun i hi=>h2 i (by omega);rw [decide_eq_false c]
   cases hp:p k with
   |true=>rw [qr hn (Nat.lt_succ_self k) hp];simp
   |false=>rw [kp (ji hn hp)];simp
theorem jbk (p:Nat→Bool):hasB p 0=false:=by unfold hasB;simp
theorem zm {p:Nat→Bool} {n:Nat} (h:∀ i,i<n→p i=false):hasB p n=false:=by unfold hasB;rw [kp h];simp
theorem yg {p:Nat→Bool} {n k:Nat} (hk:k<n) (hp:p k=true):hasB p n=true:=by
 cases h:hasB p n with
 |true=>rfl
 |false=>
  unfold hasB at h;have h1:=qv p n
  have h2:¬firstN p n<n:=by simpa using h
  rw [h1.2.1 k (by omega)] at hp;cases hp
def itemE (L:Nat→TypeV) (T:TypeV) (i:Nat):Int:=
 if nameS (T.items i).name=false then 5 else if hasB (nameEq T (T.items i)) i then 6
 else if T.kind=13 then (if (T.items i).key&&!numK (L (T.items i).type.toNat).kind&&(L (T.items i).type.toNat).kind !=10 then 17 else 0)
 else if (T.items i).rest then (if i+1<T.ilen then 14 else 0)
 else if numberB L T (T.items i).num=false then 7 else if hasB (numEq T (T.items i)) i then 6 else 0
theorem jhd (ao:Option Addr) (len cap:Nat) (L:Nat→TypeV) (T:TypeV) (i:Nat) (hlen:len≤140737488351232) (hi:i<T.ilen)
  (htag:T.kind=13∨T.kind=9∨(0≤T.tag∧T.tag<len)) (hty:T.kind=13→0≤(T.items i).type∧(T.items i).type<len) (w:World) (HT:ItemsAt w T) (H:∀ i,i<len→TypeAt w ao i (L i)):
  Calls Tryz.prog 75 #[.slice ao len cap,typV T,.int .i64 i] w fun e w'=>e=.returned (.int .i64 (itemE L T i))∧Below w.heap.size w w':=by
 obtain ⟨hil,hit⟩:=HT;obtain ⟨b,off,hia,x0,x1,x2,x3,x4,wi⟩:=hit i hi;have hbl:b<w.heap.size:=World.block_lt_of_cell? w _ x0
 have hne:¬b=w.heap.size:=by omega
 have HI:=lh hit;have HH:=lh H;clear hit H;obtain ⟨E,hE⟩:∃ E,itemE L T i=E:=⟨_,rfl⟩;rw [hE];have HE:=lh hE;clear hE;unfold typV;rw [hia];go_enter Tryz.func75,Tryz.ntmps75
 go_upto_region 2 with (fail)
 have hb0:typO T=(.cells #[.int .i64 T.kind,.string T.name,.int .i64 T.bound,.int .i64 T.of,.int .i64 T.tag,.slice (some ⟨b,off,none⟩) T.ilen T.icap] 58):=by unfold typO;rw [hia]
 have HB:ItB w.heap.size (w.heap.size+1) T (T.items i) w ((w.alloc (.cells #[.int .i64 T.kind,.string T.name,.int .i64 T.bound,.int .i64 T.of,.int .i64 T.tag,.slice (some ⟨b,off,none⟩) T.ilen T.icap] 58)).alloc (.cells #[.string (T.items i).name,.int .u64 (T.items i).num,.int .i64 (T.items i).type,.bool (T.items i).key,.bool (T.items i).rest] 60)):=
  ⟨by (have hq:=jd (w.alloc (.cells #[.int .i64 T.kind,.string T.name,.int .i64 T.bound,.int .i64 T.of,.int .i64 T.tag,.slice (some ⟨b,off,none⟩) T.ilen T.icap] 58)) (.cells #[.string (T.items i).name,.int .u64 (T.items i).num,.int .i64 (T.items i).type,.bool (T.items i).key,.bool (T.items i).rest] 60);rw [show (w.alloc (.cells #[.int .i64 T.kind,.string T.name,.int .i64 T.bound,.int .i64 T.of,.int .i64 T.tag,.slice (some ⟨b,off,none⟩) T.ilen T.icap] 58)).heap.size=w.heap.size+1 by simp] at hq;exact hq),by rw [hb0];exact je (jd w _),((Below.refl _ _).alloc (Nat.le_refl _) _).alloc (by simp) _⟩
 have HB:=lh HB;have HIA:=lh hia;clear hb0 hia x0 x1 x2 x3 x4 hbl hne;generalize ((w.alloc (.cells #[.int .i64 T.kind,.string T.name,.int .i64 T.bound,.int .i64 T.of,.int .i64 T.tag,.slice (some ⟨b,off,none⟩) T.ilen T.icap] 58)).alloc (.cells #[.string (T.items i).name,.int .u64 (T.items i).num,.int .i64 (T.items i).type,.bool (T.items i).key,.bool (T.items i).rest] 60))=wb at *
 have HEQ:=lh (show itemE L T i=if nameS (T.items i).name=false then 5 else if hasB (nameEq T (T.items i)) i then 6
  else if T.kind=13 then (if (T.items i).key&&!numK (L (T.items i).type.toNat).kind&&(L (T.items i).type.toNat).kind !=10 then 17 else 0)
  else if (T.items i).rest then (if i+1<T.ilen then 14 else 0)
  else if numberB L T (T.items i).num=false then 7 else if hasB (numEq T (T.items i)) i then 6 else 0 from rfl)
 obtain ⟨x,hx⟩:∃ x,T.items i=x:=⟨_,rfl⟩;rw [hx] at HB wi hty HEQ;have HX:=lh hx;clear hx;generalize w.heap.size+1=h at *;have HG:=lh (rfl:w.heap.size=w.heap.size);obtain ⟨c0,c1,c2,c3,c4⟩:=HB.out.cells;obtain ⟨d0,d1,d2,d3,d4,d5⟩:=HB.out.2.cells;have hgw:w.heap.size≤wb.heap.size:=HB.out.2.2.size
 cases hn:nameS x.name with
 |false=>
  have hEv:E=5:=by rw [←HE.out,HEQ.out,hn];simp
  subst hEv;go_wp2_with (go_at_call 73;refine (Y5 _ (Nat.le_trans wi.2.2 (by decide)) _).mono ?_;rintro e w1 ⟨rfl,hb1⟩);go_ret;exact ⟨rfl,(HB.out.keep hb1).2.2⟩
 |true=>
  go_upto_region 4 with (go_at_call 73;refine (Y5 _ (Nat.le_trans wi.2.2 (by decide)) _).mono ?_;rintro e w2 ⟨rfl,hb1⟩;have HB2:=lh (HB.out.keep hb1);clear hb1)
  clear c0 c1 c2 c3 c4 d0 d1 d2 d3 d4 d5;go_wp2
  go_loopw [8,9] (fun q i' wr=>∃ (k:Nat),k≤i∧i'=.int .i64 k∧q=.bool (hasB (numEq T x) k)∧Hid (∀ m,m<k→nameEq T x m=false)∧Hid (ItB w.heap.size h T x w wr)) (fun _ i' _=>i - (intOf i').toNat)
  case atStart=>exact ⟨0,Nat.zero_le _,rfl,by rw [jbk],lh (fun m hm=>absurd hm (Nat.not_lt_zero _)),HB2⟩
  case round=>
   obtain ⟨k,hk,rfl,rfl,HN,HBr⟩:=hrel;obtain ⟨c0,c1,c2,c3,c4⟩:=HBr.out.cells;obtain ⟨d0,d1,d2,d3,d4,d5⟩:=HBr.out.2.cells
   by_cases hlt:k<i
   · have hiat:=(HI.out k (by omega)).held (w1:=wr) HBr.out.2.2;obtain ⟨b',off',hia2,y0,y1,y2,y3,y4,wy⟩:=hiat;rw [HIA.out] at hia2 d5
     cases hia2
     have hkl:(k:Int)<(T.ilen:Int):=by omega
     have hnx:=jba (numEq T x) k
     cases hq:((T.items k).name.toList==x.name.toList) with
     |true=>
      have HS:=lh (yg (p:=nameEq T x) hlt hq);clear hnx
      go_upto_region 8 with (fail)
      go_wp2_with fail
      go_big_quiet (fail)
      have hEv:E=6:=by rw [←HE.out,HEQ.out,hn,HS.out];simp
      subst hEv;go_wp2;go_ret;exact ⟨rfl,(HBr.out.drewN _).2.2⟩
     |false=>
      have HN2:=lh (ji HN.out hq)
      go_upto_region 8 with (fail)
      go_wp2_with fail
      go_big_quiet (fail)
      go_upto_region 10 with (fail)
      obtain ⟨nb,hnb⟩:∃ b,((T.items k).num==x.num)=b:=⟨_,rfl⟩
      have hnx2:hasB (numEq T x) (k+1)=(hasB (numEq T x) k||nb):=by rw [hnx,←hnb];rfl
      clear hnx
      cases hbb:hasB (numEq T x) k with
      |true=>
       rw [hbb] at hnx2;have HX2:=lh hnx2;clear hnx2;go_wp2_with fail
       go_big_quiet (fail)
       go_wp2;go_roundw
       case rel=>exact ⟨k+1,by omega,by go_num,by rw [HX2.out];rfl,HN2,lh (HBr.out.drewN _)⟩
       case measure=>simp [intOf];omega
      |false=>
       rw [hbb] at hnx2;have HX2:=lh hnx2;clear hnx2;go_wp2_with fail
       go_big_quiet (fail)
       go_wp2;go_roundw
       case rel=>exact ⟨k+1,by omega,by go_num,by rw [HX2.out];simp,HN2,lh (HBr.out.drewN _)⟩
       case measure=>simp [intOf];omega
   · obtain rfl:k=i:=by omega
     have hNN:=zm (p:=nameEq T x) HN.out;have hEq:=HE.out.symm.trans HEQ.out;rw [hn,hNN] at hEq;simp only [Bool.true_eq_false,Bool.false_eq_true,if_false] at hEq
     cases hk13:(T.kind==13) with
     |true=>
      have e13:T.kind=13:=by simpa using hk13
      obtain ⟨t0,t1⟩:=hty e13;obtain ⟨y,hy⟩:=Int.eq_ofNat_of_zero_le t0
      have hyl:y<len:=by omega
      rw [if_pos e13,show x.type.toNat=y by omega] at hEq;obtain ⟨b2,off2,hao,z0,_⟩:=(HH.out y hyl).held (w1:=wr) HBr.out.2.2;rw [hy] at c2;subst hao;have HEv:=lh hEq;clear hEq e13 t0 t1 hy htag hty;obtain ⟨kd,hkd⟩:∃ kd,(L y).kind=kd:=⟨_,rfl⟩;rw [hkd] at z0 HEv;obtain ⟨b10,h10⟩:∃ b,(kd !=10)=b:=⟨_,rfl⟩;obtain ⟨bk,hbk⟩:∃ b,x.key=b:=⟨_,rfl⟩;have HF:=lh (HEv.out.trans (by rw [h10,hbk]:_=if bk&&!numK kd&&b10 then (17:Int) else 0));clear hkd;go_wp2_with (go_at_call 61;refine (jp _ _).mono ?_;rintro e w2 ⟨rfl,rfl⟩)
      all_goals
       go_ret;exact ⟨jo (by rw [HF.out];simp_all),HBr.out.2.2⟩
     |false=>
      have e13:¬T.kind=13:=by simpa using hk13
      rw [if_neg e13] at hEq
      cases hrest:x.rest with
      |true=>
       rw [hrest] at c4 hEq;rw [if_pos rfl] at hEq;have HEv:=lh hEq;clear hEq
       by_cases hlast:k+1<T.ilen
       · have hl2:decide ((k:Int)<(T.ilen:Int) - 1)=true:=by simp;omega
         go_wp2;go_ret;exact ⟨jo (by rw [HEv.out,if_pos hlast]),HBr.out.2.2⟩
       · have hl2:decide ((k:Int)<(T.ilen:Int) - 1)=false:=by simp;omega
         go_wp2;go_ret;exact ⟨jo (by rw [HEv.out,if_neg hlast]),HBr.out.2.2⟩
      |false=>
       rw [hrest] at c4 hEq;simp only [Bool.false_eq_true,if_false] at hEq;have HEv:=lh hEq;have HNU:=lh (jku ao len cap L T x.num hlen wi.1 (htag.resolve_left e13) wr (fun i hi=>(HH.out i hi).held HBr.out.2.2));clear hEq;obtain ⟨bn,hbn⟩:∃ b,numberB L T x.num=b:=⟨_,rfl⟩;have hq:=HNU.out;unfold typV at hq;rw [hbn] at hq;have HNV:=lh hq;rw [hbn] at HEv;clear hq hbn
       cases bn with
       |false=>
        have HEw:=lh (HEv.out.trans (if_pos rfl));go_wp2_with (go_at_call 111;refine (HNV.out).mono ?_;rintro e w2 ⟨rfl,hb2⟩);go_ret;exact ⟨jo HEw.out.symm,(HBr.out.keep hb2).2.2⟩
       |true=>
        have HEw:=lh (HEv.out.trans (if_neg (by decide)))
        cases hbs:hasB (numEq T x) k with
        |true=>
         have HEx:=lh (HEw.out.trans (by rw [hbs];rfl:_=(6:Int)));go_wp2_with (go_at_call 111;refine (HNV.out).mono ?_;rintro e w2 ⟨rfl,hb2⟩);go_ret;exact ⟨jo HEx.out.symm,(HBr.out.keep hb2).2.2⟩
        |false=>
         have HEx:=lh (HEw.out.trans (by rw [hbs];rfl:_=(0:Int)));go_wp2_with (go_at_call 111;refine (HNV.out).mono ?_;rintro e w2 ⟨rfl,hb2⟩);go_ret;exact ⟨jo HEx.out.symm,(HBr.out.keep hb2).2.2⟩
end Go.Proofs.YthcompcjphaahaaGreatDoor.Pa
