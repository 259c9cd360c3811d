/- The first token of a text: the code's first, over its five kinds. -/
import Derived.Deep.RegionHeld3
import Derived.Test.YthcompcjphaahaaGreatDoorh20
import Derived.Test.YthcompcjphaahaaGreatDoorh35
set_option maxRecDepth 100000
set_option maxHeartbeats 8000000
set_option linter.unusedVariables false
namespace Go.Proofs.YthcompcjphaahaaGreatDoor
open Go.RowKit
def kindsO:Obj:=.cells #[.int .i64 1,.func (Fn.func 145) #[] #[],.func (Fn.func 146) #[] #[],
 .int .i64 2,.func (Fn.func 147) #[] #[],.func (Fn.func 148) #[] #[],
 .int .i64 3,.func (Fn.func 149) #[] #[],.func (Fn.func 150) #[] #[],
 .int .i64 4,.func (Fn.func 151) #[] #[],.func (Fn.func 152) #[] #[],
 .int .i64 5,.func (Fn.func 153) #[] #[],.func (Fn.func 146) #[] #[]] 171
def FL:Nat→Nat|0=>145|1=>147|2=>149|3=>151|_=>153
def FR:Nat→Nat|0=>146|1=>148|2=>150|3=>152|_=>146
def jag (g:Nat):Prop:=∀ args w,(callFunc g args).run Tryz.prog w=.ok (.enter g args) w
theorem eFL:∀ j,j<5→jag (FL j)
 |0,_=>enters_of Tryz.func145 (by kernel_rfl) rfl
 |1,_=>enters_of Tryz.func147 (by kernel_rfl) rfl
 |2,_=>enters_of Tryz.func149 (by kernel_rfl) rfl
 |3,_=>enters_of Tryz.func151 (by kernel_rfl) rfl
 |4,_=>enters_of Tryz.func153 (by kernel_rfl) rfl
theorem eFR:∀ j,j<5→jag (FR j)
 |0,_=>enters_of Tryz.func146 (by kernel_rfl) rfl
 |1,_=>enters_of Tryz.func148 (by kernel_rfl) rfl
 |2,_=>enters_of Tryz.func150 (by kernel_rfl) rfl
 |3,_=>enters_of Tryz.func152 (by kernel_rfl) rfl
 |4,_=>enters_of Tryz.func146 (by kernel_rfl) rfl
theorem jou (w:World):Calls Tryz.prog 114 #[] w fun x w'=>x=.returned (.slice (some ⟨w.heap.size,0,none⟩) 5 5)∧w'=w.alloc kindsO:=by
 go_enter Tryz.func114,Tryz.ntmps114;go_wp2;go_ret;exact ⟨rfl,rfl⟩
theorem jhn {w:World} {g:Nat} (h:w.heap[g]?=some kindsO):∀ j,j<5→w.cell? ⟨g,j*3,none⟩=some (.int .i64 ((j:Int)+1))∧w.cell? ⟨g,j*3+1,none⟩=some (.func (Fn.func (FL j)) #[] #[])∧w.cell? ⟨g,j*3+2,none⟩=some (.func (Fn.func (FR j)) #[] #[])
 |0,_=>⟨ja h rfl,ja h rfl,ja h rfl⟩
 |1,_=>⟨ja h rfl,ja h rfl,ja h rfl⟩
 |2,_=>⟨ja h rfl,ja h rfl,ja h rfl⟩
 |3,_=>⟨ja h rfl,ja h rfl,ja h rfl⟩
 |4,_=>⟨ja h rfl,ja h rfl,ja h rfl⟩
def ld (l:List UInt8):Nat→Nat|0=>wl l|1=>nl l|2=>tl l|3=>pl l|_=>sl l
def gt (l:List UInt8):Nat→Got
 |0=>.tok 1 (l.take (wl l)) 0 (wl l)
 |1=>rdNum (l.take (nl l))
 |2=>rdText (l.take (tl l))
 |3=>rdPar (l.take (pl l))
 |_=>.tok 5 (l.take (sl l)) 0 (sl l)
theorem jse (l:List UInt8):∀ j,j<5→(∀ i,i<j→ld l i=0)→ld l j≠0→fstG l=gt l j
 |0,_,h,hn=>by
  have hn:wl l≠0:=hn;unfold fstG;rw [if_pos hn];rfl
 |1,_,h,hn=>by
  have hn:nl l≠0:=hn;have h0:wl l=0:=h 0 (by omega);unfold fstG;rw [if_neg (by omega),if_pos hn];rfl
 |2,_,h,hn=>by
  have hn:tl l≠0:=hn;have h0:wl l=0:=h 0 (by omega);have h1:nl l=0:=h 1 (by omega);unfold fstG;rw [if_neg (by omega),if_neg (by omega),if_pos hn];rfl
 |3,_,h,hn=>by
  have hn:pl l≠0:=hn;have h0:wl l=0:=h 0 (by omega);have h1:nl l=0:=h 1 (by omega);have h2:tl l=0:=h 2 (by omega);unfold fstG;rw [if_neg (by omega),if_neg (by omega),if_neg (by omega),if_pos hn];rfl
 |4,_,h,hn=>by
  have hn:sl l≠0:=hn;have h0:wl l=0:=h 0 (by omega);have h1:nl l=0:=h 1 (by omega);have h2:tl l=0:=h 2 (by omega);have h3:pl l=0:=h 3 (by omega);unfold fstG;rw [if_neg (by omega),if_neg (by omega),if_neg (by omega),if_neg (by omega),if_pos hn];rfl
theorem jr1 (l:List UInt8) (h:∀ i,i<5→ld l i=0):fstG l=.err 11 0:=by
 have h0:wl l=0:=h 0 (by omega);have h1:nl l=0:=h 1 (by omega);have h2:tl l=0:=h 2 (by omega);have h3:pl l=0:=h 3 (by omega);have h4:sl l=0:=h 4 (by omega);unfold fstG;rw [if_neg (by omega),if_neg (by omega),if_neg (by omega),if_neg (by omega),if_neg (by omega)]
theorem jln:∀ (n:Nat) (l:List UInt8) (k:Nat),l.length≤n→ql l=some k→1≤k∧k≤l.length
 |0,l,k,hn,h=>by
  have:l=[]:=List.eq_nil_of_length_eq_zero (by omega)
  subst this;simp [ql] at h
 |n+1,[],k,hn,h=>by simp [ql] at h
 |n+1,[c],k,hn,h=>by
  simp only [ql] at h
  split at h
  · have:=Option.some.inj h;simp;omega
  · simp at h
 |n+1,c::d::r,k,hn,h=>by
  simp only [ql] at h
  split at h
  · split at h
    · cases hr:ql r with
      |none=>rw [hr] at h;simp at h
      |some m=>
       rw [hr] at h
       have:=jln n r m (by simp at hn;omega) hr
       have h2:m+2=k:=Option.some.inj h
       simp;omega
    · have:=Option.some.inj h;simp;omega
  · cases hr:ql (d::r) with
    |none=>rw [hr] at h;simp at h
    |some m=>
     rw [hr] at h
     have:=jln n (d::r) m (by simp at hn ⊢;omega) hr
     have h2:m+1=k:=Option.some.inj h;simp at this ⊢;omega
theorem jrg (l:List UInt8):tl l≤l.length:=by
 unfold tl
 split
 · exact Nat.zero_le _
 · rename_i c r
   split
   · cases hr:ql r with
     |none=>simp
     |some k=>have:=jln r.length r k (Nat.le_refl _) hr;simp;omega
   · exact Nat.zero_le _
theorem jpf (l:List UInt8):pl l≤l.length:=by
 unfold pl
 split
 · split <;> simp
 · exact Nat.zero_le _
theorem jt6 (l:List UInt8):sl l≤l.length:=by
 unfold sl
 split
 · rename_i x hx
   have:=List.find?_some hx
   exact (List.isPrefixOf_iff_prefix.1 this).length_le
 · exact Nat.zero_le _
theorem jt5 (l:List UInt8):∀ j,ld l j≤l.length
 |0=>jrh l
 |1=>(Xg dig l).2.2
 |2=>jrg l
 |3=>jpf l
 |n+4=>jt6 l
def GotOk (j n:Nat):Got→Prop
 |.err e a=>e≠0∧a<n
 |.tok k t _ len=>k=j+1∧len=n∧t.length≤n
theorem zv {l:List UInt8} {n:Nat} (h:n≤l.length):(l.take n).length=n:=by rw [List.length_take];omega
theorem jjv:∀ (n:Nat) (l:List UInt8),l.length≤n→(unq l).length≤l.length
 |0,l,h=>by
  have:l=[]:=List.eq_nil_of_length_eq_zero (by omega)
  subst this;exact Nat.le_refl _
 |n+1,[],h=>Nat.le_refl _
 |n+1,[c],h=>Nat.le_refl _
 |n+1,c::d::r,h=>by
  simp only [unq]
  split
  · have:=jjv n r (by simp at h;omega);simp;omega
  · have:=jjv n (d::r) (by simp at h ⊢;omega);simp at this ⊢;omega
theorem jee (p:UInt8→Bool):∀ (l:List UInt8) (i:Nat),l.findIdx? p=some i→i<l.length
 | [],i,h=>by simp at h
 |c::r,i,h=>by
  rw [List.findIdx?_cons] at h
  split at h
  · have:=Option.some.inj h;simp;omega
  · cases hr:r.findIdx? p with
    |none=>rw [hr] at h;simp at h
    |some m=>
     rw [hr] at h;have h1:=jee p r m hr;have h2:m+1=i:=Option.some.inj h
     simp;omega
theorem jt3 (l:List UInt8):∀ j,j<5→ld l j≠0→GotOk j (ld l j) (gt l j)
 |0,_,_=>⟨rfl,rfl,by rw [zv (jrh l)];exact Nat.le_refl _⟩
 |1,_,hn=>by
  have hn:nl l≠0:=hn;have hl:(l.take (nl l)).length=nl l:=zv ((Xg dig l).2.2)
  show GotOk 1 (nl l) (rdNum (l.take (nl l)))
  unfold rdNum
  split
  · exact ⟨by decide,by omega⟩
  · split
    · exact ⟨rfl,hl,Nat.le_of_eq hl⟩
    · exact ⟨by decide,by omega⟩
 |2,_,hn=>by
  have hn:tl l≠0:=hn;have hl:(l.take (tl l)).length=tl l:=zv (jrg l)
  show GotOk 2 (tl l) (rdText (l.take (tl l)))
  unfold rdText
  split
  · rename_i i hi
    have:=jee badB _ i hi
    exact ⟨by decide,by omega⟩
  · split
    · exact ⟨by decide,by omega⟩
    · refine ⟨rfl,hl,?_⟩
      have:=jjv _ (((l.take (tl l)).drop 1).take ((l.take (tl l)).length - 2)) (Nat.le_refl _)
      have h3:=List.length_take_le ((l.take (tl l)).length - 2) ((l.take (tl l)).drop 1);omega
 |3,_,_=>⟨rfl,zv (jpf l),Nat.le_of_eq (zv (jpf l))⟩
 |4,_,_=>⟨rfl,rfl,Nat.le_of_eq (zv (jt6 l))⟩
theorem jcs:∀ (n:Nat) (l:List UInt8),l.length≤n→(match ql l with|some k=>(l.take k).count 39 % 2=1|none=>l.count 39 % 2=0)
 |0,l,h=>by
  have:l=[]:=List.eq_nil_of_length_eq_zero (by omega)
  subst this;rfl
 |n+1,[],h=>rfl
 |n+1,[c],h=>by
  simp only [ql]
  by_cases hc:c=39
  · subst hc;rfl
  · rw [if_neg hc];simp [hc]
 |n+1,c::d::r,h=>by
  simp only [ql]
  by_cases hc:c=39
  · subst hc;rw [if_pos rfl]
    by_cases hd:d=39
    · subst hd;rw [if_pos rfl]
      have:=jcs n r (by simp at h;omega)
      cases hr:ql r with
      |none=>rw [hr] at this;simp at this ⊢;omega
      |some k=>rw [hr] at this;simp [List.take_succ_cons] at this ⊢;omega
    · rw [if_neg hd];rfl
  · rw [if_neg hc]
    have:=jcs n (d::r) (by simp at h ⊢;omega)
    cases hr:ql (d::r) with
    |none=>rw [hr] at this;simp only [Option.map_none];rw [List.count_cons];simp [hc];exact this
    |some k=>rw [hr] at this;simp only [Option.map_some];rw [List.take_succ_cons,List.count_cons];simp [hc];exact this
theorem jth (l:List UInt8) (h0:tl l≠0) (h:(l.take (tl l)).count 39 % 2=0):2≤(l.take (tl l)).length:=by
 rw [zv (jrg l)]
 cases l with
 |nil=>simp [tl] at h0
 |cons c r=>
  unfold tl at h h0 ⊢
  dsimp only at h h0 ⊢
  by_cases hc:c=39
  · subst hc;rw [if_pos rfl] at h h0 ⊢;have hq:=jcs r.length r (Nat.le_refl _)
    cases hr:ql r with
    |none=>
     rw [hr] at h hq
     dsimp only at h hq
     rw [List.take_of_length_le (by simp)] at h;simp at h;omega
    |some k=>have:=jln r.length r k (Nat.le_refl _) hr;dsimp only;omega
  · rw [if_neg hc] at h0;exact absurd rfl h0
theorem jj2 (c:UInt8) (r:List UInt8) (hl:(c::r).length≤1000) (w:World):∀ j,j<5→Calls Tryz.prog (FL j) #[.string (bs (c::r))] w fun e w'=>e=.returned (.int .i64 (ld (c::r) j:Nat))∧Below w.heap.size w w'
 |0,_=>jg9 _ hl w
 |1,_=>jdf _ hl w
 |2,_=>(jgw c r hl w).mono fun e w' ⟨h1,h2⟩=>⟨h1,h2 ▸ Below.refl _ _⟩
 |3,_=>jew c r hl w
 |4,_=>jg8 _ hl w
theorem juo (p:UInt8→Bool) (l:List UInt8):(l.take (l.takeWhile p).length).all p=true:=by
 rw [List.prefix_iff_eq_take.1 (List.takeWhile_prefix p) |>.symm];exact List.all_takeWhile
theorem jjt (l:List UInt8) (hl:l.length≤1000) (w:World) (hV:LibAt w):∀ j,j<5→ld l j≠0→Calls Tryz.prog (FR j) #[.string (bs (l.take (ld l j)))] w fun e w'=>e=.returned (rdVal (gt l j))∧Below w.heap.size w w'
 |0,_,_=>Z2 _ w
 |1,_,hn=>by
  have hn:nl l≠0:=hn;have ha:=juo dig l
  show Calls Tryz.prog _ #[.string (bs (l.take (nl l)))] w fun e w'=>e=.returned (rdVal (rdNum (l.take (nl l))))∧Below w.heap.size w w'
  have hle:(l.take (nl l)).length≤1000:=by rw [List.length_take];omega
  have hlen:=zv ((Xg dig l).2.2);change (l.take (nl l)).length=nl l at hlen;change (l.take (nl l)).all dig=true at ha
  cases hc:l.take (nl l) with
  |nil=>rw [hc] at hlen;exact absurd hlen.symm hn
  |cons c r=>rw [hc] at ha hle;exact jc0 c r ha hle w hV
 |2,_,hn=>jgf _ (jth l hn) (by rw [List.length_take];omega) w hV
 |3,_,hn=>by
  have hn:pl l≠0:=hn
  show Calls Tryz.prog _ #[.string (bs (l.take (pl l)))] w fun e w'=>e=.returned (rdVal (rdPar (l.take (pl l))))∧Below w.heap.size w w'
  match l,hn with
  | [],hn=>exact absurd rfl hn
  | [c],hn=>exact absurd rfl hn
  |c::d::r,hn=>
   have hc:c=37∧dig d=true:=by
    by_cases h:c=37∧dig d=true
    · exact h
    · exact absurd (if_neg h) hn
   have hp:pl (c::d::r)=2:=if_pos hc;rw [hp];exact je4 c d hc.2 w
 |4,_,_=>Z2 _ w
abbrev zeroTk:Obj:=.cells #[.int .i64 0,.string ⟨#[]⟩,.int .u64 0,.int .i64 0] 98
abbrev fltO (e a:Int):Obj:=.cells #[.int .i64 e,.int .i64 a] 54
structure FSt (w wx:World):Prop where
 tk:wx.heap[w.heap.size]?=some zeroTk
 fl:wx.heap[w.heap.size+1]?=some (fltO 0 0)
 ks:wx.heap[w.heap.size+1+1]?=some kindsO
 be:Below w.heap.size w wx
theorem FSt.start (w:World):FSt w (((w.alloc zeroTk).alloc (fltO 0 0)).alloc kindsO):=by
 have e1:(w.alloc zeroTk).heap.size=w.heap.size+1:=by simp
 have e2:((w.alloc zeroTk).alloc (fltO 0 0)).heap.size=w.heap.size+1+1:=by simp
 have h1:=jd w zeroTk;have h2:=jd (w.alloc zeroTk) (fltO 0 0);have h3:=jd ((w.alloc zeroTk).alloc (fltO 0 0)) kindsO;rw [e1] at h2;rw [e2] at h3;exact ⟨je (je h1),je h2,h3,(((Below.refl w.heap.size w).alloc (Nat.le_refl _) _).alloc (by omega) _).alloc (by omega) _⟩
theorem FSt.step {w wx wy:World} (h:FSt w wx) (hb:Below wx.heap.size wx wy):FSt w wy:=
 ⟨rowKeep hb h.tk,rowKeep hb h.fl,rowKeep hb h.ks,onBelow h.be (Nat.le_refl _) hb⟩
def gotVal (g:Got):Value:=match g with
 |.err e a=>.tuple #[.agg #[.int .i64 0,.string ⟨#[]⟩,.int .u64 0,.int .i64 0],.int .i64 0,.agg #[.int .i64 (e:Nat),.int .i64 (a:Nat)]]
 |.tok k t n len=>.tuple #[.agg #[.int .i64 (k:Nat),.string (bs t),.int .u64 (n:Nat),.int .i64 0],.int .i64 (len:Nat),.agg #[.int .i64 0,.int .i64 0]]
theorem outF {w W:World} (h:FSt w W) (k:Int) (t:ByteArray) (n a E A:Int):
  ((((((W.setCell ⟨w.heap.size,0,none⟩ (.int .i64 k)).setCell ⟨w.heap.size,1,none⟩ (.string t)).setCell ⟨w.heap.size,2,none⟩ (.int .u64 n)).setCell ⟨w.heap.size,3,none⟩ (.int .i64 a)).setCell ⟨w.heap.size+1,0,none⟩ (.int .i64 E)).setCell ⟨w.heap.size+1,1,none⟩ (.int .i64 A)).heap[w.heap.size]?=some (.cells #[.int .i64 k,.string t,.int .u64 n,.int .i64 a] 98)∧
  ((((((W.setCell ⟨w.heap.size,0,none⟩ (.int .i64 k)).setCell ⟨w.heap.size,1,none⟩ (.string t)).setCell ⟨w.heap.size,2,none⟩ (.int .u64 n)).setCell ⟨w.heap.size,3,none⟩ (.int .i64 a)).setCell ⟨w.heap.size+1,0,none⟩ (.int .i64 E)).setCell ⟨w.heap.size+1,1,none⟩ (.int .i64 A)).heap[w.heap.size+1]?=some (fltO E A)∧
  Below w.heap.size w ((((((W.setCell ⟨w.heap.size,0,none⟩ (.int .i64 k)).setCell ⟨w.heap.size,1,none⟩ (.string t)).setCell ⟨w.heap.size,2,none⟩ (.int .u64 n)).setCell ⟨w.heap.size,3,none⟩ (.int .i64 a)).setCell ⟨w.heap.size+1,0,none⟩ (.int .i64 E)).setCell ⟨w.heap.size+1,1,none⟩ (.int .i64 A)):=by
 have ne:w.heap.size+1≠w.heap.size:=by omega
 have ne2:w.heap.size≠w.heap.size+1:=by omega
 have a0:=jn (j:=0) (u:=.int .i64 k) h.tk;have a1:=jn (j:=1) (u:=.string t) a0;have a2:=jn (j:=2) (u:=.int .u64 n) a1;have a3:=jn (j:=3) (u:=.int .i64 a) a2;have b0:=(ju (u:=.int .i64 a) (p:=⟨w.heap.size,3,none⟩) ne).trans ((ju (u:=.int .u64 n) (p:=⟨w.heap.size,2,none⟩) ne).trans ((ju (u:=.string t) (p:=⟨w.heap.size,1,none⟩) ne).trans ((ju (u:=.int .i64 k) (p:=⟨w.heap.size,0,none⟩) ne).trans h.fl)));have b1:=jn (j:=0) (u:=.int .i64 E) b0;have b2:=jn (j:=1) (u:=.int .i64 A) b1;refine ⟨(ju ne2).trans ((ju ne2).trans a3),b2,?_⟩;exact (((((h.be.setCell (Nat.le_refl _) _).setCell (Nat.le_refl _) _).setCell (Nat.le_refl _) _).setCell (Nat.le_refl _) _).setCell (show w.heap.size≤w.heap.size+1 by omega) _).setCell (show w.heap.size≤w.heap.size+1 by omega) _
theorem jf5 (s:ByteArray) (hs:s.size≤1000000) (w:World):Calls Tryz.prog 115 #[.string s] w fun e w'=>e=.returned (.string s)∧Below w.heap.size w w':=by
 have HC:=lh (fun wx=>Tryz.stringslite_Clone s wx (by omega));go_enter Tryz.func115,Tryz.ntmps115;go_wp2_with (go_at_call 154;refine (HC.out _).mono ?_;rintro e w1 ⟨rfl,hb⟩);go_ret;exact ⟨rfl,hb⟩
theorem X9 {a b:List Value} (h:a=b):(⟨a.toArray,[]⟩:Act)=⟨b.toArray,[]⟩:=by rw [h]
theorem FSt.set {w wx:World} {q o:Nat} (h:FSt w wx) (hq:w.heap.size+1+1<q) (v:Value):FSt w (wx.setCell ⟨q,o,none⟩ v):=
 ⟨(ju (show w.heap.size≠q by omega)).trans h.tk,(ju (show w.heap.size+1≠q by omega)).trans h.fl,(ju (show w.heap.size+1+1≠q by omega)).trans h.ks,h.be.setCell (show w.heap.size≤q by omega) _⟩
theorem jk0 (G:Got) (j n:Nat) (h:GotOk j n G):∃ (T:ByteArray) (N E A:Int),rdVal G=.tuple #[.string T,.int .u64 N,.agg #[.int .i64 E,.int .i64 A]]∧
  ((E≠0∧gotVal G=.tuple #[.agg #[.int .i64 0,.string ⟨#[]⟩,.int .u64 0,.int .i64 0],.int .i64 0,.agg #[.int .i64 E,.int .i64 A]])∨
   (E=0∧T.size≤n∧gotVal G=.tuple #[.agg #[.int .i64 ((j:Int)+1),.string T,.int .u64 N,.int .i64 0],.int .i64 (n:Nat),.agg #[.int .i64 0,.int .i64 0]])):=by
 cases G with
 |err e a=>exact ⟨⟨#[]⟩,0,(e:Nat),(a:Nat),rfl,.inl ⟨by have:=h.1;omega,rfl⟩⟩
 |tok k t m len=>
  obtain ⟨rfl,rfl,ht⟩:=h;exact ⟨bs t,(m:Nat),0,0,rfl,.inr ⟨rfl,by rw [jy];exact ht,rfl⟩⟩
theorem jm6 (c:UInt8) (r:List UInt8) (hl:(c::r).length≤1000) (w:World) (hV:LibAt w):Calls Tryz.prog 80 #[.string (bs (c::r))] w fun x w'=>x=.returned (gotVal (fstG (c::r)))∧Below w.heap.size w w':=by
 have HL:=lh (jj2 c r hl);have HR:=lh (fun (wx:World) (hb:Below w.heap.size w wx)=>jjt (c::r) hl wx (hV.held hb));obtain ⟨l,hl0⟩:∃ l,c::r=l:=⟨_,rfl⟩;rw [hl0] at HL HR hl ⊢;have HAT:=lh (jse l);have HNO:=lh (jr1 l);have HOK:=lh (jt3 l);have HLE:=lh (jt5 l);have HTO:=lh (jt8 l);have HST:=lh (FSt.start w);have hsz:(bs l).size=l.length:=jy l;obtain ⟨s,hs⟩:∃ s,bs l=s:=⟨_,rfl⟩;rw [hs] at HL HTO hsz ⊢
 have hml:s.size≤maxLen:=by show s.size≤9223372036854775807;omega
 obtain ⟨R,hR⟩:∃ R,fstG l=R:=⟨_,rfl⟩;rw [hR] at HAT HNO ⊢;clear hl0 hV hs hR;go_enter Tryz.func80,Tryz.ntmps80;go_wp2_with (go_at_call 114;refine (jou _).mono ?_;rintro e w1 ⟨rfl,rfl⟩)
 go_loopw [13] (fun i wr=>∃ j:Nat,j≤5∧i=.int .i64 j∧Hid (∀ i,i<j→ld l i=0)∧Hid (FSt w wr)) (fun i _=>5 - (intOf i).toNat)
 case atStart=>exact ⟨0,Nat.zero_le _,rfl,lh (fun i hi=>absurd hi (Nat.not_lt_zero _)),HST⟩
 case round=>
  obtain ⟨j,hj,rfl,HZ,HF⟩:=hrel
  by_cases hlt:j<5
  · obtain ⟨c0,c1,c2⟩:=jhn HF.out.ks j hlt;have hcl:=fun wx=>HL.out wx j hlt;have efl:=eFL j hlt;obtain ⟨fl,hfl⟩:∃ fl,FL j=fl:=⟨_,rfl⟩;obtain ⟨fr,hfr⟩:∃ fr,FR j=fr:=⟨_,rfl⟩;rw [hfl] at c1 hcl efl;rw [hfr] at c2;obtain ⟨O,hO⟩:∃ O:Obj,.cells #[.int .i64 ((j:Int)+1),.func (Fn.func fl) #[] #[],.func (Fn.func fr) #[] #[]] 171=O:=⟨_,rfl⟩;have HFA:=lh (HF.out.step ((Below.refl wr.heap.size wr).alloc (Nat.le_refl _) O));rw [←hO] at HFA;clear hO;have hle:=HLE.out j;unfold jag at efl;obtain ⟨n,hn⟩:∃ n,ld l j=n:=⟨_,rfl⟩;rw [hn] at hcl hle;have HCL:=lh hcl;have HFL:=lh hfl;have HFR:=lh hfr;have HN:=lh hn;clear hcl hfl hfr hn
    by_cases hn0:n=0
    · subst hn0;have hz:=HN.out;have HZ2:=lh (show ∀ i,i<j+1→ld l i=0 from fun i hi=>by rcases Nat.lt_succ_iff_lt_or_eq.1 hi with h|h;exact HZ.out i h;exact h ▸ hz);clear hz
      go_wp2_with (first
       |(refine wpList_store_rowTo rfl 171 _ _ rfl rfl wr.heap.size #[.int .i64 ((j:Int)+1),.func (Fn.func fl) #[] #[],.func (Fn.func fr) #[] #[]] rfl rfl _ _ (heap_alloc_last wr _) (by kernel_rfl) (by kernel_rfl) (by kernel_rfl) ?_;rw [World.setRow_alloc_new])
       |(go_at_fn fl;refine (HCL.out _).mono ?_;rintro e w1 ⟨rfl,hb1⟩;have HF1:=lh (HFA.out.step hb1);clear hb1))
      go_roundw
      case rel=>exact ⟨j+1,by omega,by go_num,HZ2,HF1⟩
      case measure=>simp [intOf];omega
    · have hnn:((n:Int)==0)=false:=beq_eq_false_iff_ne.2 (by omega);have hg:=HAT.out j hlt HZ.out (by rw [HN.out];exact hn0);have hsl:=HTO.out n hle;have hok:=HOK.out j hlt (by rw [HN.out];exact hn0);have hrc:=fun wx hb=>HR.out wx hb j hlt (by rw [HN.out];exact hn0);rw [HN.out] at hok hrc;rw [HFR.out] at hrc;have efr:=eFR j hlt;rw [HFR.out] at efr;unfold jag at efr;obtain ⟨G,hG⟩:∃ G,gt l j=G:=⟨_,rfl⟩;rw [hG] at hok hrc hg;subst hg;obtain ⟨X,hX⟩:∃ X,bs (l.take n)=X:=⟨_,rfl⟩;rw [hX] at hsl hrc;have HRC:=lh hrc;clear hX hG hrc
      go_upto_region 6 with (first
       |(refine wpList_store_rowTo rfl 171 _ _ rfl rfl wr.heap.size #[.int .i64 ((j:Int)+1),.func (Fn.func fl) #[] #[],.func (Fn.func fr) #[] #[]] rfl rfl _ _ (heap_alloc_last wr _) (by kernel_rfl) (by kernel_rfl) (by kernel_rfl) ?_;rw [World.setRow_alloc_new])
       |(go_at_fn fl;refine (HCL.out _).mono ?_;rintro e w1 ⟨rfl,hb1⟩;have HF1:=lh (HFA.out.step hb1);have HK1:=lh (newRow hb1);clear hb1))
      obtain ⟨T,N,E,A,hrv,hE⟩:=jk0 R j n hok;rw [hrv] at HRC;have HE:=lh hE;clear hE hrv hok;have HFX:=lh HF1.out
      go_cut [8,9,10] (fun x y z wx=>x=.string T∧y=.int .u64 N∧∃ q:Nat,z=.pointer (some ⟨q,0,none⟩)∧w.heap.size+1+1<q∧wr.heap.size≠q∧∃ W:World,W=wx∧Hid (FSt w W)∧Hid (W.heap[q]?=some (fltO E A))∧Hid (W.heap[wr.heap.size]?=some (.cells #[.int .i64 ((j:Int)+1),.func (Fn.func fl) #[] #[],.func (Fn.func fr) #[] #[]] 171:Obj)))
      case first=>
       refine jq (by kernel_rfl) 13 (fun v=>((.string s:Value)::(undef:Value)::(.pointer (some ⟨w.heap.size,0,none⟩):Value)::(u3:Value)::(.pointer (some ⟨w.heap.size+1,0,none⟩):Value)::(undef:Value)::(.pointer (some ⟨wr.heap.size,0,none⟩):Value)::(.int .i64 (n:Int):Value)::v 11::v 12::v 10::(.slice (some ⟨w.heap.size+1+1,0,none⟩) 5 5:Value)::(.int .i64 5:Value)::(.int .i64 (j:Int):Value)::(.bool true:Value)::(.pointer (some ⟨w.heap.size+1+1,j*3,none⟩):Value)::(.agg #[.int .i64 ((j:Int)+1),.func (Fn.func fl) #[] #[],.func (Fn.func fr) #[] #[]]:Value)::(.pointer (some ⟨wr.heap.size,1,none⟩):Value)::(.func (Fn.func fl) #[] #[]:Value)::(.string s:Value)::(.int .i64 (n:Int):Value)::(.int .i64 (n:Int):Value)::(.bool false:Value)::v 6::v 0::v 1::v 2::v 3::v 4::v 5::v 7::v 8::v 9::(u33:Value)::(u34:Value)::(u35:Value)::(u36:Value)::(u37:Value)::(u38:Value)::(u39:Value)::(u40:Value)::(u41:Value)::(u42:Value)::(u43:Value)::(u44:Value)::(u45:Value)::(u46:Value)::(undef:Value)::(undef:Value)::[]).toArray) (fun k=>[u24,u25,u26,u27,u28,u29,u23,u30,u31,u32,u10,u8,u9].getD k undef) (fun k=>if k=10 then some (fltO 0 0) else none) (fun k=>[.pointer (some ⟨wr.heap.size,2,none⟩),.func (Fn.func fr) #[] #[],.string s,.int .i64 (n:Int),.string X,.tuple #[.string T,.int .u64 N,.agg #[.int .i64 E,.int .i64 A]],.tuple #[.string T,.int .u64 N,.agg #[.int .i64 E,.int .i64 A]],.string T,.int .u64 N,.agg #[.int .i64 E,.int .i64 A],undef,.string T,.int .u64 N].getD k undef)
        (fun wx=>Below w1.heap.size w1 wx) (Nat.le_of_ble_eq_true (by kernel_rfl)) (by kernel_rfl) (fun _ _ h hb=>onBelow h (Nat.le_refl _) hb) (Below.refl _ _) (fun k hk v w2 hBx hsz hd=>?_) (fun v w2 hv hdist hBx hb=>?_)
       · have y2:w2.cell? ⟨wr.heap.size,2,none⟩=some (.func (Fn.func fr) #[] #[]):=ja (rowKeep hBx HK1.out) rfl
         have hk2:k=0∨k=1∨k=2∨k=3∨k=4∨k=5∨k=6∨k=7∨k=8∨k=9∨k=10∨k=11∨k=12:=by omega
         rcases hk2 with rfl|rfl|rfl|rfl|rfl|rfl|rfl|rfl|rfl|rfl|rfl|rfl|rfl
         · skip;refine wpOp_step (o:= _) rfl (fun K' hK=>?_);go_simp;exact hK _ _ ⟨.pointer (some ⟨wr.heap.size,2,none⟩),rfl,Below.refl _ _,(fun _=>rfl),fun o h=>by cases h⟩
         · have e0:v 0=.pointer (some ⟨wr.heap.size,2,none⟩):=hd 0 (List.contains_iff_mem.1 (by kernel_rfl));refine wpOp_step (o:= _) rfl (fun K' hK=>?_);go_simp;exact hK _ _ ⟨.func (Fn.func fr) #[] #[],X9 (by simp [upd,e0]),Below.refl _ _,(fun _=>rfl),fun o h=>by cases h⟩
         · skip;refine wpOp_step (o:= _) rfl (fun K' hK=>?_);go_simp;exact hK _ _ ⟨.string s,rfl,Below.refl _ _,(fun _=>rfl),fun o h=>by cases h⟩
         · skip;refine wpOp_step (o:= _) rfl (fun K' hK=>?_);go_simp;exact hK _ _ ⟨.int .i64 (n:Int),rfl,Below.refl _ _,(fun _=>rfl),fun o h=>by cases h⟩
         · have e2:v 2=.string s:=hd 2 (List.contains_iff_mem.1 (by kernel_rfl));have e3:v 3=.int .i64 (n:Int):=hd 3 (List.contains_iff_mem.1 (by kernel_rfl));refine wpOp_step (o:= _) rfl (fun K' hK=>?_);go_simp;exact hK _ _ ⟨.string X,X9 (by simp [upd,e2,e3]),Below.refl _ _,(fun _=>rfl),fun o h=>by cases h⟩
         · have e1:v 1=.func (Fn.func fr) #[] #[]:=hd 1 (List.contains_iff_mem.1 (by kernel_rfl));have e4:v 4=.string X:=hd 4 (List.contains_iff_mem.1 (by kernel_rfl));refine wpOp_step (o:= _) rfl (fun K' hK=>?_);go_simp;refine (HRC.out w2 (onBelow HFX.out.be (Nat.le_refl _) hBx)).mono ?_;rintro e w3 ⟨rfl,hb3⟩;exact hK _ _ ⟨.tuple #[.string T,.int .u64 N,.agg #[.int .i64 E,.int .i64 A]],X9 (by simp [upd,e1,e4]),hb3,fun _=>rfl,fun o h=>by cases h⟩
         · have e5:v 5=.tuple #[.string T,.int .u64 N,.agg #[.int .i64 E,.int .i64 A]]:=hd 5 (List.contains_iff_mem.1 (by kernel_rfl));refine wpOp_step (o:= _) rfl (fun K' hK=>?_);go_simp;exact hK _ _ ⟨.tuple #[.string T,.int .u64 N,.agg #[.int .i64 E,.int .i64 A]],X9 (by simp [upd,e5]),Below.refl _ _,(fun _=>rfl),fun o h=>by cases h⟩
         · have e6:v 6=.tuple #[.string T,.int .u64 N,.agg #[.int .i64 E,.int .i64 A]]:=hd 6 (List.contains_iff_mem.1 (by kernel_rfl));refine wpOp_step (o:= _) rfl (fun K' hK=>?_);go_simp;exact hK _ _ ⟨.string T,X9 (by simp [upd,e6]),Below.refl _ _,(fun _=>rfl),fun o h=>by cases h⟩
         · have e6:v 6=.tuple #[.string T,.int .u64 N,.agg #[.int .i64 E,.int .i64 A]]:=hd 6 (List.contains_iff_mem.1 (by kernel_rfl));refine wpOp_step (o:= _) rfl (fun K' hK=>?_);go_simp;exact hK _ _ ⟨.int .u64 N,X9 (by simp [upd,e6]),Below.refl _ _,(fun _=>rfl),fun o h=>by cases h⟩
         · have e6:v 6=.tuple #[.string T,.int .u64 N,.agg #[.int .i64 E,.int .i64 A]]:=hd 6 (List.contains_iff_mem.1 (by kernel_rfl));refine wpOp_step (o:= _) rfl (fun K' hK=>?_);go_simp;exact hK _ _ ⟨.agg #[.int .i64 E,.int .i64 A],X9 (by simp [upd,e6]),Below.refl _ _,(fun _=>rfl),fun o h=>by cases h⟩
         · skip;refine wpOp_step (o:= _) rfl (fun K' hK=>?_);go_simp;exact hK _ _ ⟨_,rfl,(Below.refl _ _).alloc (Nat.le_refl _) _,(fun h=>by cases h),fun o h=>by (cases h;exact ⟨rfl,jd _ _⟩)⟩
         · have e7:v 7=.string T:=hd 7 (List.contains_iff_mem.1 (by kernel_rfl));refine wpOp_step (o:= _) rfl (fun K' hK=>?_);go_simp;exact hK _ _ ⟨.string T,X9 (by simp [upd,e7]),Below.refl _ _,(fun _=>rfl),fun o h=>by cases h⟩
         · have e8:v 8=.int .u64 N:=hd 8 (List.contains_iff_mem.1 (by kernel_rfl));refine wpOp_step (o:= _) rfl (fun K' hK=>?_);go_simp;exact hK _ _ ⟨.int .u64 N,X9 (by simp [upd,e8]),Below.refl _ _,(fun _=>rfl),fun o h=>by cases h⟩
       · have HF2:=HFX.out.step hBx;have HK2:=rowKeep hBx HK1.out;have e0:v 0=.pointer (some ⟨wr.heap.size,2,none⟩):=hv 0 (by decide);have e1:v 1=.func (Fn.func fr) #[] #[]:=hv 1 (by decide);have e2:v 2=.string s:=hv 2 (by decide);have e3:v 3=.int .i64 (n:Int):=hv 3 (by decide);have e4:v 4=.string X:=hv 4 (by decide);have e5:v 5=.tuple #[.string T,.int .u64 N,.agg #[.int .i64 E,.int .i64 A]]:=hv 5 (by decide);have e6:v 6=.tuple #[.string T,.int .u64 N,.agg #[.int .i64 E,.int .i64 A]]:=hv 6 (by decide);have e7:v 7=.string T:=hv 7 (by decide);have e8:v 8=.int .u64 N:=hv 8 (by decide);have e9:v 9=.agg #[.int .i64 E,.int .i64 A]:=hv 9 (by decide);obtain ⟨q,e10,hq,lq⟩:=hv 10 (by decide);have e11:v 11=.string T:=hv 11 (by decide);have e12:v 12=.int .u64 N:=hv 12 (by decide);have hw1:=HFX.out.be.size;have hk1:wr.heap.size<w1.heap.size:=lt_of_block HK1.out;have hks:w.heap.size+1+1<w1.heap.size:=lt_of_block HFX.out.ks;have f0:=jg (j:=0) hq;have f1:=jg (j:=1) hq;have c0:w2.cell? ⟨q,0,none⟩=some (.int .i64 0):=ja hq rfl;have c1:w2.cell? ⟨q,1,none⟩=some (.int .i64 0):=ja hq rfl;have a1:=jn (j:=0) (u:=.int .i64 E) hq;have a2:=jn (j:=1) (u:=.int .i64 A) a1;have HQ:=lh a2;have HFS:=lh ((HF2.set (q:=q) (o:=0) (by omega) (.int .i64 E)).set (q:=q) (o:=1) (by omega) (.int .i64 A));have HKS:=lh (((ju (u:=.int .i64 A) (p:=⟨q,1,none⟩) (show wr.heap.size≠q by omega)).trans (ju (u:=.int .i64 E) (p:=⟨q,0,none⟩) (show wr.heap.size≠q by omega))).trans HK2)
         have hq3:w.heap.size+1+1<q:=by omega
         have hq4:wr.heap.size≠q:=by omega
         clear hv hdist hBx hb hq a1 a2 HF2 HK2;refine wpAny_of_held (S:=fun _=>True) _ _ _ _ ?_;simp only [e0,e1,e2,e3,e4,e5,e6,e7,e8,e9,e10,e11,e12];clear e0 e1 e2 e3 e4 e5 e6 e7 e8 e9 e10 e11 e12;refine wpAnyH_ready (fuel:=0) (rs:=[13]) (by kernel_rfl) (by simp) ?_;refine AllReadyH.cons (o:= _) rfl (fun K hK=>?_) AllReadyH.nil;go_simp;refine hK.out _ _ trivial (fun _=>?_);refine wpAnyH_done (by kernel_rfl) ?_ _;go_wp2_with fail
         go_meet
         exact ⟨rfl,rfl,q,rfl,hq3,hq4,_,rfl,HFS,HQ,HKS⟩
      case rest=>
       obtain ⟨rfl,rfl,q,rfl,hq3,hq4,W,hW,HFS,HQ,HKS⟩:=hcut;subst hW;have hq:=HQ.out;have q0:W.cell? ⟨q,0,none⟩=some (.int .i64 E):=ja hq rfl;have q1:W.cell? ⟨q,1,none⟩=some (.int .i64 A):=ja hq rfl;have k0:W.cell? ⟨wr.heap.size,0,none⟩=some (.int .i64 ((j:Int)+1)):=ja HKS.out rfl
       rcases HE.out with ⟨hE,hgv⟩|⟨hE,hTn,hgv⟩
       · have hEb:(E !=0)=true:=by simpa using hE
         have HG:=lh hgv;have HFW:=HFS;obtain ⟨t0,g0,t1,g1,t2,g2,t3,g3⟩:=bf4 (HFW.out.tk);have l0:W.cell? ⟨w.heap.size+1,0,none⟩=some (.int .i64 0):=ja (HFW.out.fl) rfl;have m0:=jg (j:=0) (HFW.out.fl);have l1:W.cell? ⟨w.heap.size+1,1,none⟩=some (.int .i64 0):=ja (HFW.out.fl) rfl;have m1:=jg (j:=1) (HFW.out.fl);clear hq hE hgv;go_wp2_with (fail)
         go_region
         have HO:=lh (outF HFS.out 0 ⟨#[]⟩ 0 0 E A);clear t0 g0 t1 g1 t2 g2 t3 g3 l0 l1 m0 m1 q0 q1 k0;generalize (((((W.setCell ⟨w.heap.size,0,none⟩ (.int .i64 0)).setCell ⟨w.heap.size,1,none⟩ (.string ⟨#[]⟩)).setCell ⟨w.heap.size,2,none⟩ (.int .u64 0)).setCell ⟨w.heap.size,3,none⟩ (.int .i64 0)).setCell ⟨w.heap.size+1,0,none⟩ (.int .i64 E)).setCell ⟨w.heap.size+1,1,none⟩ (.int .i64 A)=V at *;go_wp2_with (fail);refine bodyPost_ret (v:=.tuple #[.agg #[.int .i64 0,.string ⟨#[]⟩,.int .u64 0,.int .i64 0],.int .i64 0,.agg #[.int .i64 E,.int .i64 A]]) ?_ rfl ⟨by rw [HG.out],HO.out.2.2.drew⟩;have hl1:=run_loadVar_row (P:=Tryz.prog) V.drew w.heap.size _ 98 _ _ _ HO.out.1 Tryz.underlying98 rfl (by kernel_rfl);have hl2:=run_loadVar_row (P:=Tryz.prog) V.drew (w.heap.size+1) _ 54 _ _ _ HO.out.2.1 Tryz.underlying54 rfl (by kernel_rfl);simp [results,Tryz.results80,asAddr,hl1,hl2]
       · subst hE;have HG:=lh hgv;have HFW:=HFS;clear hq hgv;have HFD:=lh (HFS.out.step (Below.refl W.heap.size W).drew);have HKD:=lh (show W.drew.heap[wr.heap.size]?= _ from HKS.out);have HCLN:=lh (fun wx=>jf5 T (by omega) wx);go_wp2_with (fail)
         go_region_with ((go_at_call 115;refine (HCLN.out _).mono ?_;rintro e w3 ⟨rfl,hb3⟩;have HFW:=lh (HFD.out.step hb3);have HKW:=lh (rowKeep hb3 HKD.out);have k0:w3.cell? ⟨wr.heap.size,0,none⟩=some (.int .i64 ((j:Int)+1)):=ja HKW.out rfl;obtain ⟨t0,g0,t1,g1,t2,g2,t3,g3⟩:=bf4 (HFW.out.tk);have l0:w3.cell? ⟨w.heap.size+1,0,none⟩=some (.int .i64 0):=ja (HFW.out.fl) rfl;have m0:=jg (j:=0) (HFW.out.fl);have l1:w3.cell? ⟨w.heap.size+1,1,none⟩=some (.int .i64 0):=ja (HFW.out.fl) rfl;have m1:=jg (j:=1) (HFW.out.fl);clear hb3))
         all_goals
          have HO:=lh (outF HFW.out ((j:Int)+1) T N 0 0 0);clear t0 g0 t1 g1 t2 g2 t3 g3 l0 l1 m0 m1 q0 q1 k0;generalize (((((w3.setCell ⟨w.heap.size,0,none⟩ (.int .i64 ((j:Int)+1))).setCell ⟨w.heap.size,1,none⟩ (.string T)).setCell ⟨w.heap.size,2,none⟩ (.int .u64 N)).setCell ⟨w.heap.size,3,none⟩ (.int .i64 0)).setCell ⟨w.heap.size+1,0,none⟩ (.int .i64 0)).setCell ⟨w.heap.size+1,1,none⟩ (.int .i64 0)=V at *;go_wp2_with (fail);refine bodyPost_ret (v:=.tuple #[.agg #[.int .i64 ((j:Int)+1),.string T,.int .u64 N,.int .i64 0],.int .i64 (n:Int),.agg #[.int .i64 0,.int .i64 0]]) ?_ rfl ⟨by rw [HG.out],HO.out.2.2⟩;have hl1:=run_loadVar_row (P:=Tryz.prog) V w.heap.size _ 98 _ _ _ HO.out.1 Tryz.underlying98 rfl (by kernel_rfl);have hl2:=run_loadVar_row (P:=Tryz.prog) V (w.heap.size+1) _ 54 _ _ _ HO.out.2.1 Tryz.underlying54 rfl (by kernel_rfl);simp [results,Tryz.results80,asAddr,hl1,hl2]
  · obtain rfl:j=5:=by omega
    have HFW:=HF;have hz:=HNO.out HZ.out;have HG:=lh (show gotVal R=.tuple #[.agg #[.int .i64 0,.string ⟨#[]⟩,.int .u64 0,.int .i64 0],.int .i64 0,.agg #[.int .i64 11,.int .i64 0]] by rw [hz];rfl);obtain ⟨t0,g0,t1,g1,t2,g2,t3,g3⟩:=bf4 (HFW.out.tk);have l0:wr.cell? ⟨w.heap.size+1,0,none⟩=some (.int .i64 0):=ja (HFW.out.fl) rfl;have m0:=jg (j:=0) (HFW.out.fl);have l1:wr.cell? ⟨w.heap.size+1,1,none⟩=some (.int .i64 0):=ja (HFW.out.fl) rfl;have m1:=jg (j:=1) (HFW.out.fl);go_wp2_with (fail);have HO:=lh (outF HFW.out (0) ⟨#[]⟩ 0 0 11 0);clear t0 g0 t1 g1 t2 g2 t3 g3 l0 l1 m0 m1;generalize (((((wr.setCell ⟨w.heap.size,0,none⟩ (.int .i64 (0))).setCell ⟨w.heap.size,1,none⟩ (.string ⟨#[]⟩)).setCell ⟨w.heap.size,2,none⟩ (.int .u64 0)).setCell ⟨w.heap.size,3,none⟩ (.int .i64 0)).setCell ⟨w.heap.size+1,0,none⟩ (.int .i64 11)).setCell ⟨w.heap.size+1,1,none⟩ (.int .i64 0)=V at *;refine bodyPost_ret (v:=.tuple #[.agg #[.int .i64 (0),.string ⟨#[]⟩,.int .u64 0,.int .i64 0],.int .i64 0,.agg #[.int .i64 11,.int .i64 0]]) ?_ rfl ⟨by rw [HG.out],HO.out.2.2⟩;have hl1:=run_loadVar_row (P:=Tryz.prog) V w.heap.size _ 98 _ _ _ HO.out.1 Tryz.underlying98 rfl (by kernel_rfl);have hl2:=run_loadVar_row (P:=Tryz.prog) V (w.heap.size+1) _ 54 _ _ _ HO.out.2.1 Tryz.underlying54 rfl (by kernel_rfl);simp [results,Tryz.results80,asAddr,hl1,hl2]
end Go.Proofs.YthcompcjphaahaaGreatDoor
