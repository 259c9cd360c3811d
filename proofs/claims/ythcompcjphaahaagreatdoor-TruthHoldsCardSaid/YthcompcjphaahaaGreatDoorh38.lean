/- Chapter 19's code: the datum of an operand in a value: datumOf, dataIn, and the function that dataIn makes. -/
import Derived.Test.YthcompcjphaahaaGreatDoorh32
import Derived.Test.YthcompcjphaahaaGreatDoorh37
import Derived.Test.YthcompcjphaahaaGreatDoorh43
set_option maxRecDepth 100000
set_option maxHeartbeats 8000000
set_option linter.unusedVariables false
set_option linter.unusedSimpArgs false
namespace Go.Proofs.YthcompcjphaahaaGreatDoor
open Go.RowKit
theorem jf3 {L:Nat→Pa.TypeV} {len:Nat}:∀ (l:List (Pa.PieceV × Bool)) (u:Nat) (st:List Pa.StepV),(Pa.findG L len l u st).steps.length≤st.length+l.length
 | [],u,st=>by show st.length≤_;omega
 |x::r,u,st=>by
  rw [Pa.findG]
  split
  · have:=jf3 (L:=L) (len:=len) r (Pa.nextN L u (Pa.pstS L len u x.1)) (st++[Pa.pstS L len u x.1])
    simp only [List.length_append,List.length_cons,List.length_nil] at this ⊢;omega
  · show 0≤_;omega
theorem jn1 {L:Nat→Pa.TypeV} {len:Nat} {t:Int} {s:ByteArray}:(Pa.findA L len t s).steps.length≤s.size:=by
 unfold Pa.findA
 split
 · split
   · have h1:=jf3 (L:=L) (len:=len) (Pa.piecesS s 0) t.toNat [];have h2:=Pa.Y4 s (s.size - 0) 0;have h3:(Pa.piecesS s 0).length≤s.size - 0:=h2;simp only [List.length_nil] at h1;omega
   · show 0≤_;omega
 · show 0≤_;omega
theorem jfi (l:List Pa.StepV):Pa.stepsL (Pa.stepN l) l.length=l:=by
 apply List.ext_getElem?
 intro i;unfold Pa.stepsL Pa.stepN
 by_cases h:i<l.length
 · simp [h]
 · simp [h]
structure DAt (w:World) (b:Nat) (L:Nat→Pa.TypeV) (ao:Option Addr) (len cap:Nat) (t:Int) (S:Nat→Prop) (V:Pa.VT):Prop where
 l:w.heap[b]?=some (.cells #[.slice ao len cap] 22)
 t:w.heap[b+1]?=some (.cells #[.int .i64 t] 3)
 v:w.heap[b+2]?=some (.cells #[.int .i64 V.kind,.int .u64 V.num,.string V.text,.slice V.ia V.len V.cap] 30)
 H:∀ i,i<len→Pa.TypeAt w ao i (L i)
 V:Pa.ValAt w S V
theorem DAt.next {w w':World} {b:Nat} {L:Nat→Pa.TypeV} {ao:Option Addr} {len cap:Nat} {t:Int} {S:Nat→Prop} {V:Pa.VT} (h:DAt w b L ao len cap t S V) (hb:Below w.heap.size w w'):DAt w' b L ao len cap t S V:=
 ⟨rowKeep hb h.l,rowKeep hb h.t,rowKeep hb h.v,jz h.H hb,h.V.next hb⟩
theorem eData:Enters 46:=enters_of Tryz.func46 (by kernel_rfl) rfl
theorem qt {F:Func} {V:World} {act:Act} {Q:Ending→World→Prop} {k n:Int} {g:Bool} {x:ByteArray} (j:Nat) (hres:F.results=#[.cell j 42]) (hd:act.defers=[]) (rb:Nat) (h2:act.tmps.getD j undef=.pointer (some ⟨rb,0,none⟩)) (hr:V.heap[rb]?=some (.cells #[.int .i64 k,.bool g,.int .u64 n,.string x] 42))
  (hQ:Q (.returned (.agg #[.int .i64 k,.bool g,.int .u64 n,.string x])) V):bodyPost Tryz.prog F Q Exit.ret act V:=by
 refine bodyPost_ret (v:=.agg #[.int .i64 k,.bool g,.int .u64 n,.string x]) ?_ hd hQ;have hl2:=run_loadVar_row (P:=Tryz.prog) V rb 42 42 #[.int .i64 k,.bool g,.int .u64 n,.string x] _ _ hr Tryz.underlying42 rfl (by kernel_rfl);rw [Array.getD_eq_getD_getElem?] at h2;simp [results,hres,h2,asAddr,hl2]
theorem ji0 (K N:Int) (X:ByteArray) (ia:Option Addr) (il ic:Nat) (hn:(Lit.int .u64 N).wf=true) (w:World):
  Calls Tryz.prog 50 #[.agg #[.int .i64 K,.int .u64 N,.string X,.slice ia il ic]] w fun e w'=>e=.returned (Pa.datV (if K=10 then ⟨2,false,0,X⟩ else datK K N))∧Below w.heap.size w w':=by
 have HR:=lh (show ((w.alloc (.cells #[.int .i64 K,.int .u64 N,.string X,.slice ia il ic] 30)).alloc (.cells #[.int .i64 0,.bool false,.int .u64 0,.string ⟨#[]⟩] 42)).heap[w.heap.size+1]?=some (.cells #[.int .i64 0,.bool false,.int .u64 0,.string ⟨#[]⟩] 42) from by have:=jd (w.alloc (.cells #[.int .i64 K,.int .u64 N,.string X,.slice ia il ic] 30)) (.cells #[.int .i64 0,.bool false,.int .u64 0,.string ⟨#[]⟩] 42);rwa [World.size_alloc] at this);have HB:=lh (((Below.refl w.heap.size w).alloc (Nat.le_refl _) (.cells #[.int .i64 K,.int .u64 N,.string X,.slice ia il ic] 30)).alloc (by simp) (.cells #[.int .i64 0,.bool false,.int .u64 0,.string ⟨#[]⟩] 42))
 by_cases h:K=10
 · subst h;rw [if_pos rfl];clear hn;go_enter Tryz.func50,Tryz.ntmps50
   go_wp2_with (first
    |(refine wpList_store_rowTo rfl 42 _ _ rfl rfl (w.heap.size+1) #[.int .i64 2,.bool false,.int .u64 0,.string X] rfl rfl _ _ HR.out (by kernel_rfl) (by kernel_rfl) (by kernel_rfl) ?_))
   exact qt 2 (by kernel_rfl) rfl (w.heap.size+1) rfl (setRow_heap _ _ _ _ _ _ HR.out) ⟨rfl,below_setRow HB.out (by omega) _⟩
 · rw [if_neg h]
   have hk:(K==10)=false:=by rw [beq_eq_false_iff_ne];exact h
   have HDT:=lh (fun wx=>Pa.jfr K N hn wx);obtain ⟨⟨dk,dg,dn,dx⟩,hdk⟩:∃ d,datK K N=d:=⟨_,rfl⟩;rw [hdk] at HDT ⊢;clear hdk hn h;go_enter Tryz.func50,Tryz.ntmps50
   go_wp2_with (first
    |(go_at_call 96;(with_reducible refine (HDT.out _).mono ?_);rintro e w1 ⟨rfl,hb⟩;have HB1:=lh (bth HB.out hb);have HR1:=lh (rowKeep hb HR.out);clear hb)
    |(refine wpList_store_rowTo rfl 42 _ _ rfl rfl (w.heap.size+1) #[.int .i64 dk,.bool dg,.int .u64 dn,.string dx] rfl rfl _ _ HR1.out (by kernel_rfl) (by kernel_rfl) (by kernel_rfl) ?_))
   exact qt 2 (by kernel_rfl) rfl (w.heap.size+1) rfl (setRow_heap _ _ _ _ _ _ HR1.out) ⟨rfl,below_setRow HB1.out (by omega) _⟩
structure Fst (w:World) (a u:Opd) (wx:World):Prop where
 oa:wx.heap[w.heap.size]?=some (.cells #[.int .i64 a.kind,.string a.text,.bool a.neg,.int .u64 a.num] 34)
 ob:wx.heap[w.heap.size+1]?=some (.cells #[.int .i64 u.kind,.string u.text,.bool u.neg,.int .u64 u.num] 34)
 res:wx.heap[w.heap.size+1+1]?=some (.cells #[.int .i64 0,.bool false,.int .u64 0,.string ⟨#[]⟩] 42)
 bel:Below w.heap.size w wx
theorem Fst.next {w:World} {a u:Opd} {wx wy:World} (h:Fst w a u wx) (hb:Below wx.heap.size wx wy):Fst w a u wy:=
 ⟨rowKeep hb h.oa,rowKeep hb h.ob,rowKeep hb h.res,bth h.bel hb⟩
theorem Fst.start (w:World) (a b:Opd):Fst w a b (((w.alloc (.cells #[.int .i64 a.kind,.string a.text,.bool a.neg,.int .u64 a.num] 34)).alloc (.cells #[.int .i64 b.kind,.string b.text,.bool b.neg,.int .u64 b.num] 34)).alloc (.cells #[.int .i64 0,.bool false,.int .u64 0,.string ⟨#[]⟩] 42)):=by
 have h1:=jd w (.cells #[.int .i64 a.kind,.string a.text,.bool a.neg,.int .u64 a.num] 34);have h2:=jd (w.alloc (.cells #[.int .i64 a.kind,.string a.text,.bool a.neg,.int .u64 a.num] 34)) (.cells #[.int .i64 b.kind,.string b.text,.bool b.neg,.int .u64 b.num] 34);have h3:=jd ((w.alloc (.cells #[.int .i64 a.kind,.string a.text,.bool a.neg,.int .u64 a.num] 34)).alloc (.cells #[.int .i64 b.kind,.string b.text,.bool b.neg,.int .u64 b.num] 34)) (.cells #[.int .i64 0,.bool false,.int .u64 0,.string ⟨#[]⟩] 42);rw [World.size_alloc] at h2;rw [World.size_alloc,World.size_alloc] at h3;exact ⟨je (je h1),je h2,h3,(((Below.refl _ _).alloc (Nat.le_refl _) _).alloc (by simp) _).alloc (by simp;omega) _⟩
theorem jjn {L:Nat→Pa.TypeV} {len:Nat} {t:Int} {V:Pa.VT} {s:ByteArray} (h:(Pa.findA L len t s).err≠0):pathD L len t V s=noDat:=by unfold pathD;rw [if_pos h]
theorem Zu {L:Nat→Pa.TypeV} {len:Nat} {t:Int} {V:Pa.VT} {s:ByteArray} (h:(Pa.findA L len t s).err=0):pathD L len t V s=((Pa.atA L len t (Pa.findA L len t s).steps V).map datX).getD noDat:=by unfold pathD;rw [if_neg (fun k=>k h)]
theorem Zt {L:Nat→Pa.TypeV} {len:Nat} {t:Int} {V:Pa.VT} {o u:Opd} (h:o.kind=1):truD L len t V o u=pathD L len t V o.text:=by unfold truD;rw [if_pos h]
theorem jdb {L:Nat→Pa.TypeV} {len:Nat} {t:Int} {V:Pa.VT} {o u:Opd} (h:o.kind≠1):truD L len t V o u=datE L len t o u:=by unfold truD;rw [if_neg h]
theorem jvd {o:Option Pa.VT} {U:Pa.VT} {b:Bool} (h:(∃ V,o=some V∧b=true∧Pa.sameT V U=true)∨(o=none∧b=false∧U=.nil)):(if U.kind=10 then (⟨2,false,0,U.text⟩:DatV) else datK U.kind U.num)=(o.map datX).getD noDat:=by
 rcases h with ⟨V,rfl,_,hs⟩|⟨rfl,_,rfl⟩
 · obtain ⟨h1,h2,h3,_⟩:=Pa.jbb.1 hs
   show _=datX V
   unfold datX;rw [h1,h2,h3]
 · rfl
def DatTo (L:Nat→Pa.TypeV) (len:Nat) (t:Int) (V:Pa.VT) (o u:Opd) (w:World) (e:Ending) (w':World):Prop:=e=.returned (Pa.datV (truD L len t V o u))∧Below w.heap.size w w'
theorem jmc {w:World} {S:Nat→Prop} {V:Pa.VT} (h:Pa.ValAt w S V):(Lit.int .u64 V.num).wf=true:=((Pa.kg V).1 h).1.2.1
theorem jx {w:World} {b:Nat} {t:TypeId} {c0 c1 c2 c3:Value} (h:w.heap[b]?=some (.cells #[c0,c1,c2,c3] t)):w.cell? ⟨b,0,none⟩=some c0∧w.cell? ⟨b,1,none⟩=some c1∧w.cell? ⟨b,2,none⟩=some c2∧w.cell? ⟨b,3,none⟩=some c3:=⟨ja h rfl,ja h rfl,ja h rfl,ja h rfl⟩
theorem kt (k n:Int) (g:Bool) (x:ByteArray):Pa.datV ⟨k,g,n,x⟩=.agg #[.int .i64 k,.bool g,.int .u64 n,.string x]:=rfl
theorem jc7 (L:Nat→Pa.TypeV) (ao:Option Addr) (len cap:Nat) (hlen:len≤1000000) (hcap:len≤cap) (t:Int) (S:Nat→Prop) (V:Pa.VT) (o u:Opd) (ho:o.text.size≤1000000) (hu:u.text.size≤1000000) (b:Nat) (w:World) (h:DAt w b L ao len cap t S V):
  Calls Tryz.prog 46 #[.agg #[.int .i64 o.kind,.string o.text,.bool o.neg,.int .u64 o.num],.agg #[.int .i64 u.kind,.string u.text,.bool u.neg,.int .u64 u.num],.pointer (some ⟨b,0,none⟩),.pointer (some ⟨b+1,0,none⟩),.pointer (some ⟨b+2,0,none⟩)] w (DatTo L len t V o u w):=by
 unfold DatTo;have HF0:=lh (Fst.start w o u);have HD0:=lh (h.next HF0.out.bel);obtain ⟨W0,hW0⟩:∃ W0,((w.alloc (.cells #[.int .i64 o.kind,.string o.text,.bool o.neg,.int .u64 o.num] 34)).alloc (.cells #[.int .i64 u.kind,.string u.text,.bool u.neg,.int .u64 u.num] 34)).alloc (.cells #[.int .i64 0,.bool false,.int .u64 0,.string ⟨#[]⟩] 42)=W0:=⟨_,rfl⟩;rw [hW0] at HF0 HD0;have HH:=lh (fun wx (hb:Below w.heap.size w wx)=>jz h.H hb);have HV:=lh (fun wx (hb:Below w.heap.size w wx)=>h.V.next hb);have hbl:b<w.heap.size:=lt_of_block h.l;have hbl1:b+1<w.heap.size:=lt_of_block h.t;have hbl2:b+2<w.heap.size:=lt_of_block h.v;have d0:=ja (j:=0) (v:=.slice ao len cap) HD0.out.l rfl;have d1:=ja (j:=0) (v:=.int .i64 t) HD0.out.t rfl;obtain ⟨o0,o1,o2,o3⟩:=jx HF0.out.oa;obtain ⟨u0,u1,u2,u3⟩:=jx HF0.out.ob
 by_cases h1:o.kind=1
 · rw [Zt h1];have HFI:=lh (fun wx (hb:Below w.heap.size w wx)=>Pa.jdu ao len cap L hlen hcap t o.text ho wx (HH.out wx hb));rw [h1] at o0 hW0 ⊢;clear h u0 u1 u2 u3
   by_cases hE:(Pa.findA L len t o.text).err=0
   · rw [Zu hE];have hl:=jn1 (L:=L) (len:=len) (t:=t) (s:=o.text);have hst:=jfi (Pa.findA L len t o.text).steps;obtain ⟨⟨sts,at',er⟩,hR⟩:∃ R,Pa.findA L len t o.text=R:=⟨_,rfl⟩;rw [hR] at HFI hE hl hst ⊢;simp only at hE hl hst ⊢;subst hE;obtain ⟨A,hA⟩:∃ A,Pa.atA L len t sts V=A:=⟨_,rfl⟩
     have HAT:=lh (fun (pa:Option Addr) (pc:Nat) wx (hb:Below w.heap.size w wx) (HP:∀ i,i<sts.length→Pa.StepC wx pa i (Pa.stepN sts i))=>by
      have:=Pa.jqx ao len cap L hlen hcap t pa sts.length pc (Pa.stepN sts) (by omega) S V wx (HV.out wx hb) (HH.out wx hb) (fun i hi=>(HP i hi).toAt)
      rw [hst,hA] at this
      exact this)
     rw [hA];obtain ⟨⟨dk,dg,dn,dx⟩,hd⟩:∃ d,(A.map datX).getD noDat=d:=⟨_,rfl⟩;have HDD:=lh hd;rw [hd,kt];unfold Pa.FindTo at HFI;unfold Pa.PAtTo at HAT;simp only at HFI;clear hR hA hd hst hl h1;go_enter Tryz.func46,Tryz.ntmps46
     go_upto_region 1 with (fail)
     try rw [hW0]
     clear hW0
     go_wp2_with (first
      |(go_at_call 50;(with_reducible refine (HDO.out _).mono ?_);rintro e w3 ⟨rfl,hb⟩;have HF3:=lh (HF2.out.next hb);clear hb)
      |(go_at_call 49;(with_reducible refine (HAT.out _ _ _ (by exact HF1.out.bel) (by exact HCL1.out)).mono ?_);rintro e w2 ⟨U,q,rfl,hc,hv,hb2⟩;have HF2:=lh (HF1.out.next (hb2.alloc hb2.size (.cells #[.int .i64 U.kind,.int .u64 U.num,.string U.text,.slice U.ia U.len U.cap] 30)));have HDO:=lh (fun wx=>by
        have:=ji0 U.kind U.num U.text U.ia U.len U.cap (jmc hv) wx
        rw [(jvd hc).trans HDD.out,kt] at this
        exact this);clear hc hv hb2)
      |(go_at_call 48;(with_reducible refine (HFI.out _ (by exact HF0.out.bel)).mono ?_);rintro e w1 ⟨v1,rfl,hown,hb⟩;obtain ⟨ia,cp,rfl,hcl⟩:=Pa.Zq hown rfl;have HCL1:=lh hcl;have HF1:=lh (HF0.out.next hb);have HD1:=lh (HD0.out.next hb);have d0:=ja (j:=0) (v:=.slice ao len cap) HD1.out.l rfl;have d1:=ja (j:=0) (v:=.int .i64 t) HD1.out.t rfl;obtain ⟨y0,y1,y2,y3⟩:=jx HD1.out.v;clear hcl hown hb)
      |(refine wpList_store_rowTo rfl 42 _ _ rfl rfl (w.heap.size+1+1) #[.int .i64 dk,.bool dg,.int .u64 dn,.string dx] rfl rfl _ _ HF3.out.res (by kernel_rfl) (by kernel_rfl) (by kernel_rfl) ?_))
     exact qt 7 (by kernel_rfl) rfl (w.heap.size+1+1) rfl (setRow_heap _ _ _ _ _ _ HF3.out.res) ⟨rfl,below_setRow HF3.out.bel (by omega) _⟩
   · rw [jjn hE];obtain ⟨er,her⟩:∃ er,(Pa.findA L len t o.text).err=er:=⟨_,rfl⟩;unfold Pa.FindTo at HFI;rw [her] at HFI hE
     have k0:(er !=0)=true:=by rw [bne_iff_ne];exact hE
     obtain ⟨n,hn⟩:∃ n,(Pa.findA L len t o.text).steps.length=n:=⟨_,rfl⟩;obtain ⟨a',ha'⟩:∃ a',(Pa.findA L len t o.text).at'=a':=⟨_,rfl⟩;rw [ha'] at HFI;rw [show (noDat:DatV)=⟨0,false,0,⟨#[]⟩⟩ from rfl,kt];clear her hE hn ha' h1;go_enter Tryz.func46,Tryz.ntmps46
     go_upto_region 1 with (fail)
     try rw [hW0]
     clear hW0
     go_wp2_with (first
      |(go_at_call 48;(with_reducible refine (HFI.out _ (by exact HF0.out.bel)).mono ?_);rintro e w1 ⟨v1,rfl,hown,hb⟩;have HF1:=lh (HF0.out.next hb);clear hown hb)
      |(refine wpList_store_rowTo rfl 42 _ _ rfl rfl (w.heap.size+1+1) #[.int .i64 0,.bool false,.int .u64 0,.string ⟨#[]⟩] rfl rfl _ _ HF1.out.res (by kernel_rfl) (by kernel_rfl) (by kernel_rfl) ?_))
     exact qt 7 (by kernel_rfl) rfl (w.heap.size+1+1) rfl (setRow_heap _ _ _ _ _ _ HF1.out.res) ⟨rfl,below_setRow HF1.out.bel (by omega) _⟩
 · rw [jdb h1];have HDA:=lh (fun wx (hb:Below w.heap.size w wx)=>jko L ao len cap hlen hcap t o u ho hu wx (HH.out wx hb));unfold CDatTo at HDA;obtain ⟨⟨dk,dg,dn,dx⟩,hd⟩:∃ d,datE L len t o u=d:=⟨_,rfl⟩;rw [hd,kt] at HDA ⊢
   have k1:(o.kind !=1)=true:=by rw [bne_iff_ne];exact h1
   clear hd h1 h;go_enter Tryz.func46,Tryz.ntmps46
   go_upto_region 1 with (fail)
   try rw [hW0]
   clear hW0
   go_wp2_with (first
    |(go_at_call 47;(with_reducible refine (HDA.out _ (by exact HF0.out.bel)).mono ?_);rintro e w1 ⟨rfl,hb⟩;have HF1:=lh (HF0.out.next hb);clear hb)
    |(refine wpList_store_rowTo rfl 42 _ _ rfl rfl (w.heap.size+1+1) #[.int .i64 dk,.bool dg,.int .u64 dn,.string dx] rfl rfl _ _ HF1.out.res (by kernel_rfl) (by kernel_rfl) (by kernel_rfl) ?_))
   exact qt 7 (by kernel_rfl) rfl (w.heap.size+1+1) rfl (setRow_heap _ _ _ _ _ _ HF1.out.res) ⟨rfl,below_setRow HF1.out.bel (by omega) _⟩
theorem jb {a b:List Value} (h:a=b):(⟨a.toArray,[]⟩:Act)=⟨b.toArray,[]⟩:=by rw [h]
theorem qs {a:Act} {F:Value→Act} {w:World} {C:Prop} {t:Value} {R:Obj→Value→Prop} (x:Value) (h:a=F x) (ht:x=t):∃ x,a=F x∧Below w.heap.size w w∧(C→x=t)∧∀ o,(none:Option Obj)=some o→R o x:=⟨x,h,Below.refl _ _,fun _=>ht,fun o h=>by cases h⟩
theorem qc {a:Act} {F:Value→Act} {w u:World} {C:Prop} {t:Value} {R:Obj→Value→Prop} (x:Value) (h:a=F x) (hb:Below w.heap.size w u) (ht:x=t):∃ x,a=F x∧Below w.heap.size w u∧(C→x=t)∧∀ o,(none:Option Obj)=some o→R o x:=⟨x,h,hb,fun _=>ht,fun o h=>by cases h⟩
theorem okv {n N:Nat} {c v:Nat→Value} {w:World} (hv:∀ j,j<N→Okay n (fun _=>none) c j (v j) w):∀ j,j<N→v j=c j:=fun j h=>hv j h
theorem cm {l:List Nat} {a:Nat} (h:l.contains a=true):a∈l:=List.contains_iff_mem.1 h
abbrev dfn (b:Nat):Value:=.func (.func 46) #[] #[.pointer (some ⟨b,0,none⟩),.pointer (some ⟨b+1,0,none⟩),.pointer (some ⟨b+2,0,none⟩)]
theorem jqc {w:World} {b:Nat} {t:TypeId} {c0 c1 c2 c3:Value} (h:w.heap[b]?=some (.cells #[c0,c1,c2,c3] t (0,0))):w.cell? ⟨b,0,none⟩=some c0∧w.frozen? ⟨b,0,none⟩=false∧w.cell? ⟨b,1,none⟩=some c1∧w.frozen? ⟨b,1,none⟩=false∧w.cell? ⟨b,2,none⟩=some c2∧w.frozen? ⟨b,2,none⟩=false∧w.cell? ⟨b,3,none⟩=some c3∧w.frozen? ⟨b,3,none⟩=false:=⟨ja h rfl,jg h,ja h rfl,jg h,ja h rfl,jg h,ja h rfl,jg h⟩
structure Pst (w:World) (a u:Opd) (wx:World):Prop where
 oa:wx.heap[w.heap.size]?=some (.cells #[.int .i64 a.kind,.string a.text,.bool a.neg,.int .u64 a.num] 34)
 ob:wx.heap[w.heap.size+1]?=some (.cells #[.int .i64 u.kind,.string u.text,.bool u.neg,.int .u64 u.num] 34)
 r1:wx.heap[w.heap.size+1+1]?=some (.cells #[.int .i64 0,.bool false,.int .u64 0,.string ⟨#[]⟩] 42)
 r2:wx.heap[w.heap.size+1+1+1]?=some (.cells #[.int .i64 0,.bool false,.int .u64 0,.string ⟨#[]⟩] 42)
 bel:Below w.heap.size w wx
theorem Pst.next {w:World} {a u:Opd} {wx wy:World} (h:Pst w a u wx) (hb:Below wx.heap.size wx wy):Pst w a u wy:=
 ⟨rowKeep hb h.oa,rowKeep hb h.ob,rowKeep hb h.r1,rowKeep hb h.r2,bth h.bel hb⟩
theorem Pst.start (w:World) (a b:Opd):Pst w a b ((((w.alloc (.cells #[.int .i64 a.kind,.string a.text,.bool a.neg,.int .u64 a.num] 34)).alloc (.cells #[.int .i64 b.kind,.string b.text,.bool b.neg,.int .u64 b.num] 34)).alloc (.cells #[.int .i64 0,.bool false,.int .u64 0,.string ⟨#[]⟩] 42)).alloc (.cells #[.int .i64 0,.bool false,.int .u64 0,.string ⟨#[]⟩] 42)):=by
 have h:=Fst.start w a b;have h4:=jd (((w.alloc (.cells #[.int .i64 a.kind,.string a.text,.bool a.neg,.int .u64 a.num] 34)).alloc (.cells #[.int .i64 b.kind,.string b.text,.bool b.neg,.int .u64 b.num] 34)).alloc (.cells #[.int .i64 0,.bool false,.int .u64 0,.string ⟨#[]⟩] 42)) (.cells #[.int .i64 0,.bool false,.int .u64 0,.string ⟨#[]⟩] 42);rw [World.size_alloc,World.size_alloc,World.size_alloc] at h4;exact ⟨je h.oa,je h.ob,je h.res,h4,h.bel.alloc (by simp;omega) _⟩
theorem jc2 (L:Nat→Pa.TypeV) (ao:Option Addr) (len cap:Nat) (hlen:len≤1000000) (hcap:len≤cap) (t:Int) (S:Nat→Prop) (V:Pa.VT) (a u:Opd) (ha:a.text.size≤1000000) (hu:u.text.size≤1000000) (b:Nat) (w:World) (h:DAt w b L ao len cap t S V):
  Calls Tryz.prog 97 #[dfn b,.agg #[.int .i64 a.kind,.string a.text,.bool a.neg,.int .u64 a.num],.agg #[.int .i64 u.kind,.string u.text,.bool u.neg,.int .u64 u.num]] w fun e w'=>e=.returned (.tuple #[Pa.datV (truD L len t V a u),Pa.datV (truD L len t V u a)])∧Below w.heap.size w w':=by
 have HA:=lh (fun wx (hb:Below w.heap.size w wx)=>jc7 L ao len cap hlen hcap t S V a u ha hu b wx (h.next hb));have HU:=lh (fun wx (hb:Below w.heap.size w wx)=>jc7 L ao len cap hlen hcap t S V u a hu ha b wx (h.next hb));unfold DatTo at HA HU;obtain ⟨⟨k1,g1,n1,x1⟩,hd1⟩:∃ d,truD L len t V a u=d:=⟨_,rfl⟩;obtain ⟨⟨k2,g2,n2,x2⟩,hd2⟩:∃ d,truD L len t V u a=d:=⟨_,rfl⟩;rw [hd1,kt] at HA;rw [hd2,kt] at HU;rw [hd1,hd2,kt,kt];have HP0:=lh (Pst.start w a u);obtain ⟨W0,hW0⟩:∃ W0,(((w.alloc (.cells #[.int .i64 a.kind,.string a.text,.bool a.neg,.int .u64 a.num] 34)).alloc (.cells #[.int .i64 u.kind,.string u.text,.bool u.neg,.int .u64 u.num] 34)).alloc (.cells #[.int .i64 0,.bool false,.int .u64 0,.string ⟨#[]⟩] 42)).alloc (.cells #[.int .i64 0,.bool false,.int .u64 0,.string ⟨#[]⟩] 42)=W0:=⟨_,rfl⟩;rw [hW0] at HP0;have eg:=eData;unfold Enters at eg;unfold dfn;clear hd1 hd2 h ha hu;go_enter Tryz.func97,Tryz.ntmps97
 go_upto_region 1 with (fail)
 try rw [hW0]
 clear hW0
 refine jq (by kernel_rfl) 8 (fun v=>([.func (.func 46) #[] #[.pointer (some ⟨b,0,none⟩),.pointer (some ⟨b+1,0,none⟩),.pointer (some ⟨b+2,0,none⟩)],.agg #[.int .i64 a.kind,.string a.text,.bool a.neg,.int .u64 a.num],.agg #[.int .i64 u.kind,.string u.text,.bool u.neg,.int .u64 u.num],undef,.pointer (some ⟨w.heap.size,0,none⟩),.pointer (some ⟨w.heap.size+1,0,none⟩),.pointer (some ⟨w.heap.size+1+1,0,none⟩),.pointer (some ⟨w.heap.size+1+1+1,0,none⟩),v 0,v 1,v 2,v 3,v 4,v 5,v 6,v 7]:List Value).toArray) (fun _=>undef) (fun _=>none) (fun j=>[.func (.func 46) #[] #[.pointer (some ⟨b,0,none⟩),.pointer (some ⟨b+1,0,none⟩),.pointer (some ⟨b+2,0,none⟩)],.agg #[.int .i64 a.kind,.string a.text,.bool a.neg,.int .u64 a.num],.agg #[.int .i64 u.kind,.string u.text,.bool u.neg,.int .u64 u.num],.agg #[.int .i64 k1,.bool g1,.int .u64 n1,.string x1],.func (.func 46) #[] #[.pointer (some ⟨b,0,none⟩),.pointer (some ⟨b+1,0,none⟩),.pointer (some ⟨b+2,0,none⟩)],.agg #[.int .i64 u.kind,.string u.text,.bool u.neg,.int .u64 u.num],.agg #[.int .i64 a.kind,.string a.text,.bool a.neg,.int .u64 a.num],.agg #[.int .i64 k2,.bool g2,.int .u64 n2,.string x2]].getD j undef) (fun w'=>Below W0.heap.size W0 w')
  (Nat.le_of_ble_eq_true (by kernel_rfl)) (by kernel_rfl) (fun _ _ h hb=>bth h hb) (Below.refl _ _) (fun j hj v w1 hBx hsz hd=>?_) (fun v w1 hv hdist hBx hb=>?_)
 · have hq0:=rowKeep hBx HP0.out.oa;have hq1:=rowKeep hBx HP0.out.ob;obtain ⟨y0,y1,y2,y3⟩:=jx hq0;obtain ⟨z0,z1,z2,z3⟩:=jx hq1;have hBw:=bth HP0.out.bel hBx;clear hq0 hq1
   have hjN:j=0∨j=1∨j=2∨j=3∨j=4∨j=5∨j=6∨j=7:=by omega
   have hd:=fun k h=>hd k (cm h)
   rcases hjN with rfl|rfl|rfl|rfl|rfl|rfl|rfl|rfl<;>refine wpOp_step (o:= _) rfl (fun K' hK=>?_)
   iterate 3 (focus (go_simp;exact hK _ _ (qs _ rfl rfl)))
   · have e0:v 0=.func (.func 46) #[] #[.pointer (some ⟨b,0,none⟩),.pointer (some ⟨b+1,0,none⟩),.pointer (some ⟨b+2,0,none⟩)]:=hd 0 (by kernel_rfl);have e1:v 1=.agg #[.int .i64 a.kind,.string a.text,.bool a.neg,.int .u64 a.num]:=hd 1 (by kernel_rfl);have e2:v 2=.agg #[.int .i64 u.kind,.string u.text,.bool u.neg,.int .u64 u.num]:=hd 2 (by kernel_rfl);go_simp;refine (HA.out w1 hBw).mono ?_;rintro e w3 ⟨rfl,hb3⟩;exact hK _ _ (qc _ (jb (by simp [upd,e0,e1,e2])) hb3 rfl)
   iterate 3 (focus (go_simp;exact hK _ _ (qs _ rfl rfl)))
   · have e4:v 4=.func (.func 46) #[] #[.pointer (some ⟨b,0,none⟩),.pointer (some ⟨b+1,0,none⟩),.pointer (some ⟨b+2,0,none⟩)]:=hd 4 (by kernel_rfl);have e5:v 5=.agg #[.int .i64 u.kind,.string u.text,.bool u.neg,.int .u64 u.num]:=hd 5 (by kernel_rfl);have e6:v 6=.agg #[.int .i64 a.kind,.string a.text,.bool a.neg,.int .u64 a.num]:=hd 6 (by kernel_rfl);go_simp;refine (HU.out w1 hBw).mono ?_;rintro e w3 ⟨rfl,hb3⟩;exact hK _ _ (qc _ (jb (by simp [upd,e4,e5,e6])) hb3 rfl)
 · skip;have hq:=okv hv;have HBe:=lh hb;clear hv hdist hBx hb;refine wpAny_of_held (S:=fun _=>True) _ _ _ _ ?_;simp only [hq 0 (by decide),hq 1 (by decide),hq 2 (by decide),hq 3 (by decide),hq 4 (by decide),hq 5 (by decide),hq 6 (by decide),hq 7 (by decide),List.getD_cons_zero,List.getD_cons_succ];clear hq;have HP1:=lh (HP0.out.next HBe.out);clear HBe;obtain ⟨p0,q0,p1,q1,p2,q2,p3,q3⟩:=jqc HP1.out.r1;obtain ⟨r0,s0,r1,s1,r2,s2,r3,s3⟩:=jqc HP1.out.r2;refine wpAnyH_ready (fuel:=1) (rs:=[8]) (by kernel_rfl) (by simp) ?_;refine AllReadyH.cons (o:= _) rfl (fun K hK=>?_) AllReadyH.nil;go_simp;refine hK.out _ _ trivial (fun _=>?_);clear hK K;refine wpAnyH_ready (fuel:=0) (rs:=[9]) (by kernel_rfl) (by simp) ?_;refine AllReadyH.cons (o:= _) rfl (fun K hK=>?_) AllReadyH.nil;go_simp;refine hK.out _ _ trivial (fun _=>?_);clear hK K;refine wpAnyH_done (by kernel_rfl) ?_ _;go_wp2_with fail;have hA:=Pa.zb (x0:=.int .i64 k1) (x1:=.bool g1) (x2:=.int .u64 n1) (x3:=.string x1) HP1.out.r1;have hB:=Pa.zb (x0:=.int .i64 k2) (x1:=.bool g2) (x2:=.int .u64 n2) (x3:=.string x2) (Pa.yb (x0:=.int .i64 k1) (x1:=.bool g1) (x2:=.int .u64 n1) (x3:=.string x1) HP1.out.r2 (show w.heap.size+1+1+1≠w.heap.size+1+1 by omega));have hC:=Pa.yb (x0:=.int .i64 k2) (x1:=.bool g2) (x2:=.int .u64 n2) (x3:=.string x2) hA (show w.heap.size+1+1≠w.heap.size+1+1+1 by omega);have hl1:=run_loadVar_row (P:=Tryz.prog) _ (w.heap.size+1+1) 42 42 #[.int .i64 k1,.bool g1,.int .u64 n1,.string x1] _ _ hC Tryz.underlying42 rfl (by kernel_rfl);have hl2:=run_loadVar_row (P:=Tryz.prog) _ (w.heap.size+1+1+1) 42 42 #[.int .i64 k2,.bool g2,.int .u64 n2,.string x2] _ _ hB Tryz.underlying42 rfl (by kernel_rfl);refine bodyPost_ret (v:=.tuple #[.agg #[.int .i64 k1,.bool g1,.int .u64 n1,.string x1],.agg #[.int .i64 k2,.bool g2,.int .u64 n2,.string x2]]) ?_ rfl ⟨rfl,Pa.yy (Pa.yy HP1.out.bel (by omega)) (by omega)⟩;simp [results,Tryz.results97,asAddr,hl1,hl2]
theorem jbp (r:Int) (L:Nat→Pa.TypeV) (ao:Option Addr) (len cap:Nat) (hlen:len≤1000000) (hcap:len≤cap) (t:Int) (S:Nat→Prop) (V:Pa.VT) (hV:smV V) (a u:Opd) (ha:OpX a∧a.text.size≤1000000) (hu:OpX u∧u.text.size≤1000000) (b:Nat) (w:World) (h:DAt w b L ao len cap t S V):
  Calls Tryz.prog 51 #[dfn b,.int .i64 r,.agg #[.int .i64 a.kind,.string a.text,.bool a.neg,.int .u64 a.num],.agg #[.int .i64 u.kind,.string u.text,.bool u.neg,.int .u64 u.num]] w fun e w'=>e=.returned (.bool (prB (truD L len t V) r a u))∧Below w.heap.size w w':=by
 have HP:=lh (fun wx (hb:Below w.heap.size w wx)=>jc2 L ao len cap hlen hcap t S V a u ha.2 hu.2 b wx (h.next hb));have s1:DatS (truD L len t V a u):=Zb hV ha.1 ha.2;have s2:DatS (truD L len t V u a):=Zb hV hu.1 hu.2;have HR:=lh (fun wx=>jsi r (truD L len t V a u) (truD L len t V u a) s1.wf s2.wf (Nat.le_trans s1.sm (by decide)) (Nat.le_trans s2.sm (by decide)) wx);obtain ⟨q,hq⟩:∃ q,prB (truD L len t V) r a u=q:=⟨_,rfl⟩;rw [show relB r (truD L len t V a u) (truD L len t V u a)=q from hq] at HR;rw [hq];obtain ⟨⟨k1,g1,n1,x1⟩,hd1⟩:∃ d,truD L len t V a u=d:=⟨_,rfl⟩;obtain ⟨⟨k2,g2,n2,x2⟩,hd2⟩:∃ d,truD L len t V u a=d:=⟨_,rfl⟩;rw [hd1,hd2] at HR;simp only at HR;rw [hd1,hd2,kt,kt] at HP;have HB0:=lh (show Below w.heap.size w ((w.alloc (.cells #[.int .i64 a.kind,.string a.text,.bool a.neg,.int .u64 a.num] 34)).alloc (.cells #[.int .i64 u.kind,.string u.text,.bool u.neg,.int .u64 u.num] 34)) from ((Below.refl _ _).alloc (Nat.le_refl _) _).alloc (by simp) _);unfold dfn at HP ⊢;clear hq hd1 hd2 s1 s2 h ha hu;go_enter Tryz.func51,Tryz.ntmps51
 go_wp2_with (first
  |(go_at_call 14;(with_reducible refine (HR.out _).mono ?_);rintro e w2 ⟨rfl,hb⟩;have HB2:=lh (bth HB1.out hb);clear hb)
  |(go_at_call 97;(with_reducible refine (HP.out _ (by exact HB0.out)).mono ?_);rintro e w1 ⟨rfl,hb⟩;have HB1:=lh (bth HB0.out ((hb.alloc hb.size (.cells #[.int .i64 k1,.bool g1,.int .u64 n1,.string x1] 42)).alloc (Nat.le_trans hb.size (by simp)) (.cells #[.int .i64 k2,.bool g2,.int .u64 n2,.string x2] 42)));clear hb))
 go_ret;exact ⟨rfl,HB2.out⟩
theorem jch (x:ByteArray):Li.bt x.data.toList=x:=by cases x;rfl
theorem jlj (L:Nat→Pa.TypeV) (ao:Option Addr) (len cap:Nat) (hlen:len≤1000000) (hcap:len≤cap) (t:Int) (S:Nat→Prop) (V:Pa.VT) (hV:smV V) (a u:Opd) (ha:OpX a∧a.text.size≤1000000) (hu:OpX u∧u.text.size≤1000000) (b:Nat) (w:World) (h:DAt w b L ao len cap t S V):
  Calls Tryz.prog 52 #[dfn b,.agg #[.int .i64 a.kind,.string a.text,.bool a.neg,.int .u64 a.num],.agg #[.int .i64 u.kind,.string u.text,.bool u.neg,.int .u64 u.num]] w fun e w'=>e=.returned (.bool (likB (truD L len t V a u) (truD L len t V u a)))∧Below w.heap.size w w':=by
 have HP:=lh (fun wx (hb:Below w.heap.size w wx)=>jc2 L ao len cap hlen hcap t S V a u ha.2 hu.2 b wx (h.next hb));have s1:DatS (truD L len t V a u):=Zb hV ha.1 ha.2;have s2:DatS (truD L len t V u a):=Zb hV hu.1 hu.2;have HM:=lh (fun wx=>Li.match_any (truD L len t V u a).text.data.toList (truD L len t V a u).text.data.toList (by have:=s2.sm;simpa using this) (by have:=s1.sm;simpa using this) wx);obtain ⟨⟨k1,g1,n1,x1⟩,hd1⟩:∃ d,truD L len t V a u=d:=⟨_,rfl⟩;obtain ⟨⟨k2,g2,n2,x2⟩,hd2⟩:∃ d,truD L len t V u a=d:=⟨_,rfl⟩;rw [hd1,hd2] at HM ⊢;simp only at HM;rw [jch,jch] at HM;unfold likB;simp only;obtain ⟨q,hq⟩:∃ q,Li.likeL x2.data.toList x1.data.toList=q:=⟨_,rfl⟩;rw [hq] at HM ⊢;rw [hd1,hd2,kt,kt] at HP;have HB0:=lh (show Below w.heap.size w ((w.alloc (.cells #[.int .i64 a.kind,.string a.text,.bool a.neg,.int .u64 a.num] 34)).alloc (.cells #[.int .i64 u.kind,.string u.text,.bool u.neg,.int .u64 u.num] 34)) from ((Below.refl _ _).alloc (Nat.le_refl _) _).alloc (by simp) _);unfold dfn at HP ⊢;clear hq hd1 hd2 s1 s2 h ha hu
 by_cases e1:k1=2
 · by_cases e2:k2=2
   · rw [show (decide (k1=2)&&decide (k2=2)&&q)=q by simp [e1,e2]]
     have f1:(k1==2)=true:=by rw [beq_iff_eq];exact e1
     have f2:(k2==2)=true:=by rw [beq_iff_eq];exact e2
     clear e1 e2;go_enter Tryz.func52,Tryz.ntmps52
     go_wp2_with (first
      |(go_at_call 98;(with_reducible refine (HM.out _).mono ?_);rintro e w2 ⟨rfl,hb⟩;have HB2:=lh (bth HB1.out hb);clear hb)
      |(go_at_call 97;(with_reducible refine (HP.out _ (by exact HB0.out)).mono ?_);rintro e w1 ⟨rfl,hb⟩;have HB1:=lh (bth HB0.out ((hb.alloc hb.size (.cells #[.int .i64 k1,.bool g1,.int .u64 n1,.string x1] 42)).alloc (Nat.le_trans hb.size (by simp)) (.cells #[.int .i64 k2,.bool g2,.int .u64 n2,.string x2] 42)));clear hb))
     go_ret;exact ⟨rfl,HB2.out⟩
   · rw [show (decide (k1=2)&&decide (k2=2)&&q)=false by simp [e2]]
     have f1:(k1==2)=true:=by rw [beq_iff_eq];exact e1
     have f2:(k2==2)=false:=by rw [beq_eq_false_iff_ne];exact e2
     clear e1 e2;go_enter Tryz.func52,Tryz.ntmps52;go_wp2_with (first|(go_at_call 97;(with_reducible refine (HP.out _ (by exact HB0.out)).mono ?_);rintro e w1 ⟨rfl,hb⟩;have HB1:=lh (bth HB0.out ((hb.alloc hb.size (.cells #[.int .i64 k1,.bool g1,.int .u64 n1,.string x1] 42)).alloc (Nat.le_trans hb.size (by simp)) (.cells #[.int .i64 k2,.bool g2,.int .u64 n2,.string x2] 42)));clear hb));go_ret;exact ⟨rfl,HB1.out⟩
 · rw [show (decide (k1=2)&&decide (k2=2)&&q)=false by simp [e1]]
   have f1:(k1==2)=false:=by rw [beq_eq_false_iff_ne];exact e1
   clear e1;go_enter Tryz.func52,Tryz.ntmps52;go_wp2_with (first|(go_at_call 97;(with_reducible refine (HP.out _ (by exact HB0.out)).mono ?_);rintro e w1 ⟨rfl,hb⟩;have HB1:=lh (bth HB0.out ((hb.alloc hb.size (.cells #[.int .i64 k1,.bool g1,.int .u64 n1,.string x1] 42)).alloc (Nat.le_trans hb.size (by simp)) (.cells #[.int .i64 k2,.bool g2,.int .u64 n2,.string x2] 42)));clear hb));go_ret;exact ⟨rfl,HB1.out⟩
theorem js8 {p:Nat→Bool} {n:Nat}:Pa.okZ (firstZ p n)=anyTo p n:=by
 unfold Pa.okZ
 rcases ky p n with ⟨k,hk,e,h1,_⟩|⟨e,h⟩
 · rw [e,(q7 n).2 ⟨k,hk,h1⟩];simp
 · rw [e]
   cases hq:anyTo p n with
   |false=>rfl
   |true=>
    obtain ⟨k,hk,hp⟩:=(q7 n).1 hq;rw [h k hk] at hp;cases hp
def PaysX (g:Nat) (pre lb:Array Value) (K:Nat→XT) (n:Nat) (p:Nat→Bool) (w:World):Prop:=
 ∀ i,i<n→∀ W,Below w.heap.size w W→Calls Tryz.prog g (pre++#[.agg #[.int .i64 (K i).op,.int .i64 (K i).rel,.slice (K i).aa (K i).an (K i).ac,.slice (K i).ka (K i).kn (K i).kc]]++lb) W fun e w'=>e=.returned (.bool (p i))∧Below W.heap.size W w'
theorem jlk {a b:Int} (h:a=b):Ending.returned (.int .i64 a)=.returned (.int .i64 b):=by rw [h]
theorem jpu (ka:Option Addr) (n cap:Nat) (K:Nat→XT) (S:Nat→Prop) (g:Nat) (pre lb:Array Value) (p:Nat→Bool) (hn:n≤2513169434843) (w:World) (eg:Enters g) (hp:PaysX g pre lb K n p w) (hC:∀ i,i<n→∀ wx,Below w.heap.size w wx→CellsAt wx S ka i (xtC (K i))):
  Calls Tryz.prog 99 #[.slice ka n cap,.func (.func g) pre lb] w fun e w'=>e=.returned (.int .i64 (firstZ p n))∧Below w.heap.size w w':=by
 have HH:=lh hC;have HP:=lh hp;clear hC hp;unfold Enters at eg;go_enter Tryz.func99,Tryz.ntmps99;go_wp2
 go_loopw [8] (fun i wr=>∃ j:Nat,j≤n∧i=.int .i64 j∧Hid (∀ m,m<j→p m=false)∧Hid (Below w.heap.size w wr)) (fun i _=>n - (intOf i).toNat)
 case atStart=>exact ⟨0,by omega,rfl,lh fun m hm=>by omega,lh (Below.refl _ _)⟩
 case round=>
  obtain ⟨j,hj,rfl,H,HB⟩:=hrel
  by_cases hlt:j<n
  · obtain ⟨kb,off,rfl,_,hbl,hla⟩:=HH.out j hlt wr HB.out;have c0:wr.cell? ⟨kb,off+j*4,none⟩=some (.int .i64 (K j).op):=hla 0 _ rfl;have c1:wr.cell? ⟨kb,off+j*4+1,none⟩=some (.int .i64 (K j).rel):=hla 1 _ rfl;have c2:wr.cell? ⟨kb,off+j*4+2,none⟩=some (.slice (K j).aa (K j).an (K j).ac):=hla 2 _ rfl;have c3:wr.cell? ⟨kb,off+j*4+3,none⟩=some (.slice (K j).ka (K j).kn (K j).kc):=hla 3 _ rfl;have hcall:=HP.out j hlt wr HB.out;clear hla
    cases hq:p j with
    |false=>
     rw [hq] at hcall;have HC:=lh hcall;have HN:=lh (ji (p:=p) H.out hq);clear hcall;go_wp2_with (go_at_fn g;refine (HC.out).mono ?_;rintro e w2 ⟨rfl,hb2⟩;have HB2:=lh (bth HB.out hb2);clear hb2);go_roundw
     case measure=>simp [intOf];omega
     case rel=>exact ⟨j+1,by omega,by go_num,HN,HB2⟩
    |true=>
     rw [hq] at hcall;have HC:=lh hcall;have HN:=lh (ys (p:=p) H.out hlt hq);clear hcall;go_wp2_with (go_at_fn g;refine (HC.out).mono ?_;rintro e w2 ⟨rfl,hb2⟩;have HB2:=lh (bth HB.out hb2);clear hb2);go_ret;exact ⟨jlk HN.out.symm,HB2.out⟩
  · have HN:=lh (yd (p:=p) (n:=n) (fun m hm=>H.out m (by omega)));go_wp2;go_ret;exact ⟨jlk HN.out.symm,HB.out⟩
theorem jff (ka:Option Addr) (n cap:Nat) (K:Nat→XT) (S:Nat→Prop) (g:Nat) (pre lb:Array Value) (p:Nat→Bool) (hn:n≤2513169434843) (w:World) (eg:Enters g) (hp:PaysX g pre lb K n p w) (hC:∀ i,i<n→∀ wx,Below w.heap.size w wx→CellsAt wx S ka i (xtC (K i))):
  Calls Tryz.prog 53 #[.slice ka n cap,.func (.func g) pre lb] w fun e w'=>e=.returned (.bool (anyTo p n))∧Below w.heap.size w w':=by
 have hc:=jpu ka n cap K S g pre lb p hn w eg hp hC;rw [←js8];obtain ⟨z,hz⟩:∃ z,firstZ p n=z:=⟨_,rfl⟩;rw [hz] at hc ⊢;have HC:=lh hc;clear hc hz eg hp hC;go_enter Tryz.func53,Tryz.ntmps53;go_wp2_with (go_at_call 99;refine HC.out.mono ?_;rintro e w1 ⟨rfl,hb1⟩;have HB1:=lh hb1;clear hb1);go_ret;exact ⟨rfl,HB1.out⟩
theorem eHolds:Enters 27:=enters_of Tryz.func27 (by kernel_rfl) rfl
theorem eNot:Enters 54:=enters_of Tryz.func54 (by kernel_rfl) rfl
def HoldTo (D:Opd→Opd→DatV) (b:Nat) (T:XT) (w:World):Prop:=
 Calls Tryz.prog 27 #[dfn b,.agg #[.int .i64 T.op,.int .i64 T.rel,.slice T.aa T.an T.ac,.slice T.ka T.kn T.kc]] w fun e w'=>e=.returned (.bool (holdB D T))∧Below w.heap.size w w'
theorem jqf (D:Opd→Opd→DatV) (b g:Nat) (T:XT) (w:World) (hg:w.cell? ⟨g,0,none⟩=some (dfn b)) (h:∀ wx,Below w.heap.size w wx→HoldTo D b T wx):
  Calls Tryz.prog 54 #[.agg #[.int .i64 T.op,.int .i64 T.rel,.slice T.aa T.an T.ac,.slice T.ka T.kn T.kc],.pointer (some ⟨g,0,none⟩)] w fun e w'=>e=.returned (.bool (!holdB D T))∧Below w.heap.size w w':=by
 unfold HoldTo at h;obtain ⟨q,hq⟩:∃ q,holdB D T=q:=⟨_,rfl⟩;rw [hq] at h ⊢;have HX:=lh h;have hlt:=World.block_lt_of_cell? w _ hg;simp at hlt
 have hne:¬g=w.heap.size:=by omega
 have HB0:=lh ((Below.refl w.heap.size w).alloc (Nat.le_refl _) (.cells #[.int .i64 T.op,.int .i64 T.rel,.slice T.aa T.an T.ac,.slice T.ka T.kn T.kc] 26));unfold dfn at hg HX;clear h hq;go_enter Tryz.func54,Tryz.ntmps54;go_wp2_with (go_at_call 27;(with_reducible refine (HX.out _ (by exact HB0.out)).mono ?_);rintro e w1 ⟨rfl,hb1⟩;have HB1:=lh (bth HB0.out hb1);clear hb1);go_ret;exact ⟨rfl,HB1.out⟩
structure Hst (w:World) (b:Nat) (op rel:Int) (aa:Option Addr) (an ac:Nat) (ka:Option Addr) (kn kc:Nat) (wx:World):Prop where
 d:wx.heap[w.heap.size]?=some (.cells #[dfn b] 64)
 x:wx.heap[w.heap.size+1]?=some (.cells #[.int .i64 op,.int .i64 rel,.slice aa an ac,.slice ka kn kc] 26)
 bel:Below w.heap.size w wx
theorem Hst.next {w:World} {b:Nat} {op rel:Int} {aa:Option Addr} {an ac:Nat} {ka:Option Addr} {kn kc:Nat} {wx wy:World} (h:Hst w b op rel aa an ac ka kn kc wx) (hb:Below wx.heap.size wx wy):Hst w b op rel aa an ac ka kn kc wy:=
 ⟨rowKeep hb h.d,rowKeep hb h.x,bth h.bel hb⟩
theorem Hst.start (w:World) (b:Nat) (op rel:Int) (aa:Option Addr) (an ac:Nat) (ka:Option Addr) (kn kc:Nat):Hst w b op rel aa an ac ka kn kc ((w.alloc (.cells #[dfn b] 64)).alloc (.cells #[.int .i64 op,.int .i64 rel,.slice aa an ac,.slice ka kn kc] 26)):=by
 have h1:=jd w (.cells #[dfn b] 64);have h2:=jd (w.alloc (.cells #[dfn b] 64)) (.cells #[.int .i64 op,.int .i64 rel,.slice aa an ac,.slice ka kn kc] 26);rw [World.size_alloc] at h2;exact ⟨je h1,h2,((Below.refl _ _).alloc (Nat.le_refl _) _).alloc (by simp) _⟩
def OpsAt (w:World) (ab ao n:Nat) (g:Nat→Opd):Prop:=∀ i,i<n→∀ wx,Below w.heap.size w wx→LiesAt wx ab (ao+i*4) (opdC (g i))
theorem ja9 {w:World} {S:Nat→Prop} {aa:Option Addr} {n:Nat} {g:Nat→Opd} (hn:0<n) (h:∀ i,i<n→CellsAt w S aa i (opdC (g i))):∃ ab ao,aa=some ⟨ab,ao,none⟩∧OpsAt w ab ao n g:=by
 obtain ⟨ab,ao,e,_,_,_⟩:=h 0 hn;refine ⟨ab,ao,e,fun i hi wx hb=>?_⟩;obtain ⟨b',o',e',_,hl,hc⟩:=h i hi;rw [e] at e'
 injection e' with e'
 injection e' with e1 e2 _
 subst e1;subst e2;exact hc.held (hb.block _ hl)
def OwnTo (D:Opd→Opd→DatV) (b:Nat) (op rel:Int) (aa:Option Addr) (an ac:Nat) (g:Nat→Opd) (ka:Option Addr) (kn kc:Nat) (w:World):Prop:=
 Calls Tryz.prog 27 #[dfn b,.agg #[.int .i64 op,.int .i64 rel,.slice aa an ac,.slice ka kn kc]] w fun e w'=>e=.returned (.bool (ownB D op rel an g))∧Below w.heap.size w w'
theorem jsj (L:Nat→Pa.TypeV) (al:Option Addr) (len cap:Nat) (hlen:len≤1000000) (hcap:len≤cap) (t:Int) (S:Nat→Prop) (V:Pa.VT) (hV:smV V) (b:Nat) (rel:Int) (ab ao ac:Nat) (g:Nat→Opd) (hg:∀ i,i<2→OpX (g i)∧(g i).text.size≤1000000) (ka:Option Addr) (kn kc:Nat) (w:World) (h:DAt w b L al len cap t S V) (ha:OpsAt w ab ao 2 g):OwnTo (truD L len t V) b 1 rel (some ⟨ab,ao,none⟩) 2 ac g ka kn kc w:=by
 unfold OwnTo;have HL:=lh ha;have HR:=lh (fun wx (hb:Below w.heap.size w wx)=>jbp rel L al len cap hlen hcap t S V hV (g 0) (g 1) (hg 0 (by omega)) (hg 1 (by omega)) b wx (h.next hb));obtain ⟨q,hq⟩:∃ q,prB (truD L len t V) rel (g 0) (g 1)=q:=⟨_,rfl⟩;rw [show ownB (truD L len t V) 1 rel 2 g=q by rw [←hq];rfl];rw [hq] at HR;unfold dfn at HR;clear hq;have HH:=lh (Hst.start w b 1 rel (some ⟨ab,ao,none⟩) 2 ac ka kn kc);obtain ⟨W0,hW0⟩:∃ W0,(w.alloc (.cells #[dfn b] 64)).alloc (.cells #[.int .i64 1,.int .i64 rel,.slice (some ⟨ab,ao,none⟩) 2 ac,.slice ka kn kc] 26)=W0:=⟨_,rfl⟩;rw [hW0] at HH;unfold dfn at hW0 ⊢;clear h ha hg;go_enter Tryz.func27,Tryz.ntmps27
 go_upto_region 1 with (fail)
 try rw [hW0]
 clear hW0;obtain ⟨x0,x1,x2,x3⟩:=jx HH.out.x
 go_upto_region 4 with (fail)
 clear x0 x1 x2 x3
 refine jq (by kernel_rfl) 16 (fun v=>([.func (.func 46) #[] #[.pointer (some ⟨b,0,none⟩),.pointer (some ⟨b+1,0,none⟩),.pointer (some ⟨b+2,0,none⟩)],.agg #[.int .i64 1,.int .i64 rel,.slice (some ⟨ab,ao,none⟩) 2 ac,.slice ka kn kc],.pointer (some ⟨w.heap.size,0,none⟩),.pointer (some ⟨w.heap.size+1,0,none⟩),v 15,.slice (some ⟨ab,ao,none⟩) 2 ac,.pointer (some ⟨w.heap.size+1,2,none⟩),.slice (some ⟨ab,ao,none⟩) 2 ac,.pointer (some ⟨w.heap.size+1,0,none⟩),.int .i64 1,.bool true,.bool true,v 0,v 1,v 2,v 3,v 4,v 5,v 6,v 7,v 8,v 9,v 10,v 11,v 12,v 13,v 14,undef,undef,undef,undef,undef,undef,undef,undef,undef,undef,undef,undef,undef,undef,undef,undef,undef,undef,undef,undef,undef,undef,undef,undef,undef,undef,undef,undef,undef,undef,undef,undef,undef,undef,undef,undef,undef,undef,undef,undef,undef,undef,undef,undef,undef,undef,undef,undef,undef,undef,undef,undef,undef,undef,undef,undef,undef,undef,undef,undef,undef,undef,undef,undef,undef,undef,undef,undef,undef]:List Value).toArray) (fun k=>if k=15 then .bool false else undef) (fun _=>none) (fun j=>[.slice (some ⟨ab,ao,none⟩) 2 ac,.int .i64 2,.bool true,.bool true,.func (.func 46) #[] #[.pointer (some ⟨b,0,none⟩),.pointer (some ⟨b+1,0,none⟩),.pointer (some ⟨b+2,0,none⟩)],.pointer (some ⟨w.heap.size+1,1,none⟩),.int .i64 rel,.slice (some ⟨ab,ao,none⟩) 2 ac,.pointer (some ⟨ab,ao,none⟩),.agg #[.int .i64 (g 0).kind,.string (g 0).text,.bool (g 0).neg,.int .u64 (g 0).num],.slice (some ⟨ab,ao,none⟩) 2 ac,.pointer (some ⟨ab,ao+4,none⟩),.agg #[.int .i64 (g 1).kind,.string (g 1).text,.bool (g 1).neg,.int .u64 (g 1).num],.bool q,.bool q,.bool q].getD j undef) (fun w'=>Below W0.heap.size W0 w')
  (Nat.le_of_ble_eq_true (by kernel_rfl)) (by kernel_rfl) (fun _ _ h hb=>bth h hb) (Below.refl _ _) (fun j hj v w1 hBx hsz hd=>?_) (fun v w1 hv hdist hBx hb=>?_)
 · have hBw:=bth HH.out.bel hBx;have HX:=HH.out.next hBx;have y0:=ja (j:=0) HX.d rfl;obtain ⟨x0,x1,x2,x3⟩:=jx HX.x;have hl0:=HL.out 0 (by omega) w1 hBw;have z00:w1.cell? ⟨ab,ao,none⟩=some (.int .i64 (g 0).kind):=hl0 0 _ rfl;have z01:w1.cell? ⟨ab,ao+1,none⟩=some (.string (g 0).text):=hl0 1 _ rfl;have z02:w1.cell? ⟨ab,ao+2,none⟩=some (.bool (g 0).neg):=hl0 2 _ rfl;have z03:w1.cell? ⟨ab,ao+3,none⟩=some (.int .u64 (g 0).num):=hl0 3 _ rfl;have hl1:=HL.out 1 (by omega) w1 hBw;have z10:w1.cell? ⟨ab,ao+4,none⟩=some (.int .i64 (g 1).kind):=hl1 0 _ rfl;have z11:w1.cell? ⟨ab,ao+5,none⟩=some (.string (g 1).text):=hl1 1 _ rfl;have t11:w1.cell? ⟨ab,ao+4+1,none⟩=some (.string (g 1).text):=hl1 1 _ rfl;have z12:w1.cell? ⟨ab,ao+6,none⟩=some (.bool (g 1).neg):=hl1 2 _ rfl;have t12:w1.cell? ⟨ab,ao+4+2,none⟩=some (.bool (g 1).neg):=hl1 2 _ rfl;have z13:w1.cell? ⟨ab,ao+7,none⟩=some (.int .u64 (g 1).num):=hl1 3 _ rfl;have t13:w1.cell? ⟨ab,ao+4+3,none⟩=some (.int .u64 (g 1).num):=hl1 3 _ rfl;clear hl0 hl1;clear HX
   have hjN:j=0∨j=1∨j=2∨j=3∨j=4∨j=5∨j=6∨j=7∨j=8∨j=9∨j=10∨j=11∨j=12∨j=13∨j=14∨j=15:=by omega
   have hd:=fun k h=>hd k (cm h)
   rcases hjN with rfl|rfl|rfl|rfl|rfl|rfl|rfl|rfl|rfl|rfl|rfl|rfl|rfl|rfl|rfl|rfl<;>refine wpOp_step (o:= _) rfl (fun K' hK=>?_)
   · go_simp;exact hK _ _ (qs _ rfl rfl)
   · have e0:v 0=.slice (some ⟨ab,ao,none⟩) 2 ac:=hd 0 (by kernel_rfl);go_simp;exact hK _ _ (qs _ (jb (by simp [upd,e0])) rfl)
   · have e1:v 1=.int .i64 2:=hd 1 (by kernel_rfl);go_simp;exact hK _ _ (qs _ (jb (by simp [upd,e1])) rfl)
   · have e2:v 2=.bool true:=hd 2 (by kernel_rfl);go_simp;exact hK _ _ (qs _ (jb (by simp [upd,e2])) rfl)
   iterate 2 (focus (have e3:v 3=.bool true:=hd 3 (by kernel_rfl);go_simp;exact hK _ _ (qs _ (jb (by simp [upd,e3])) rfl)))
   · have e3:v 3=.bool true:=hd 3 (by kernel_rfl);have e5:v 5=.pointer (some ⟨w.heap.size+1,1,none⟩):=hd 5 (by kernel_rfl);go_simp;exact hK _ _ (qs _ (jb (by simp [upd,e3,e5])) rfl)
   · have e3:v 3=.bool true:=hd 3 (by kernel_rfl);go_simp;exact hK _ _ (qs _ (jb (by simp [upd,e3])) rfl)
   · have e3:v 3=.bool true:=hd 3 (by kernel_rfl);have e7:v 7=.slice (some ⟨ab,ao,none⟩) 2 ac:=hd 7 (by kernel_rfl);go_simp;exact hK _ _ (qs _ (jb (by simp [upd,e3,e7])) rfl)
   · have e3:v 3=.bool true:=hd 3 (by kernel_rfl);have e8:v 8=.pointer (some ⟨ab,ao,none⟩):=hd 8 (by kernel_rfl);go_simp;exact hK _ _ (qs _ (jb (by simp [upd,e3,e8])) rfl)
   · have e3:v 3=.bool true:=hd 3 (by kernel_rfl);go_simp;exact hK _ _ (qs _ (jb (by simp [upd,e3])) rfl)
   · have e3:v 3=.bool true:=hd 3 (by kernel_rfl);have e10:v 10=.slice (some ⟨ab,ao,none⟩) 2 ac:=hd 10 (by kernel_rfl);go_simp;exact hK _ _ (qs _ (jb (by simp [upd,e3,e10])) rfl)
   · have e3:v 3=.bool true:=hd 3 (by kernel_rfl);have e11:v 11=.pointer (some ⟨ab,ao+4,none⟩):=hd 11 (by kernel_rfl);go_simp;exact hK _ _ (qs _ (jb (by simp [upd,e3,e11])) rfl)
   · have e3:v 3=.bool true:=hd 3 (by kernel_rfl);have e4:v 4=.func (.func 46) #[] #[.pointer (some ⟨b,0,none⟩),.pointer (some ⟨b+1,0,none⟩),.pointer (some ⟨b+2,0,none⟩)]:=hd 4 (by kernel_rfl);have e6:v 6=.int .i64 rel:=hd 6 (by kernel_rfl);have e9:v 9=.agg #[.int .i64 (g 0).kind,.string (g 0).text,.bool (g 0).neg,.int .u64 (g 0).num]:=hd 9 (by kernel_rfl);have e12:v 12=.agg #[.int .i64 (g 1).kind,.string (g 1).text,.bool (g 1).neg,.int .u64 (g 1).num]:=hd 12 (by kernel_rfl);go_simp;refine (HR.out w1 hBw).mono ?_;rintro e w3 ⟨rfl,hb3⟩;exact hK _ _ (qc _ (jb (by simp [upd,e3,e4,e6,e9,e12])) hb3 rfl)
   · have e3:v 3=.bool true:=hd 3 (by kernel_rfl);have e13:v 13=.bool q:=hd 13 (by kernel_rfl);go_simp;exact hK _ _ (qs _ (jb (by simp [upd,e3,e13])) rfl)
   · have e14:v 14=.bool q:=hd 14 (by kernel_rfl);go_simp;exact hK _ _ (qs _ (jb (by simp [upd,e14])) rfl)
 · skip;have hq:=okv hv;have HBe:=lh hb;clear hv hdist hBx hb;refine wpAny_of_held (S:=fun _=>True) _ _ _ _ ?_;simp only [hq 0 (by decide),hq 1 (by decide),hq 2 (by decide),hq 3 (by decide),hq 4 (by decide),hq 5 (by decide),hq 6 (by decide),hq 7 (by decide),hq 8 (by decide),hq 9 (by decide),hq 10 (by decide),hq 11 (by decide),hq 12 (by decide),hq 13 (by decide),hq 14 (by decide),hq 15 (by decide),List.getD_cons_zero,List.getD_cons_succ];clear hq;refine wpAnyH_done (by kernel_rfl) ?_ _;go_wp2_with fail;go_ret;exact ⟨rfl,bth HH.out.bel HBe.out⟩
theorem jr4 (L:Nat→Pa.TypeV) (al:Option Addr) (len cap:Nat) (hlen:len≤1000000) (hcap:len≤cap) (t:Int) (S:Nat→Prop) (V:Pa.VT) (hV:smV V) (b:Nat) (rel:Int) (ab ao ac:Nat) (g:Nat→Opd) (hg:∀ i,i<2→OpX (g i)∧(g i).text.size≤1000000) (ka:Option Addr) (kn kc:Nat) (w:World) (h:DAt w b L al len cap t S V) (ha:OpsAt w ab ao 2 g):OwnTo (truD L len t V) b 3 rel (some ⟨ab,ao,none⟩) 2 ac g ka kn kc w:=by
 unfold OwnTo;have HL:=lh ha;have HR:=lh (fun wx (hb:Below w.heap.size w wx)=>jlj L al len cap hlen hcap t S V hV (g 0) (g 1) (hg 0 (by omega)) (hg 1 (by omega)) b wx (h.next hb));obtain ⟨q,hq⟩:∃ q,likB (truD L len t V (g 0) (g 1)) (truD L len t V (g 1) (g 0))=q:=⟨_,rfl⟩;rw [show ownB (truD L len t V) 3 rel 2 g=q by rw [←hq];rfl];rw [hq] at HR;unfold dfn at HR;clear hq;have HH:=lh (Hst.start w b 3 rel (some ⟨ab,ao,none⟩) 2 ac ka kn kc);obtain ⟨W0,hW0⟩:∃ W0,(w.alloc (.cells #[dfn b] 64)).alloc (.cells #[.int .i64 3,.int .i64 rel,.slice (some ⟨ab,ao,none⟩) 2 ac,.slice ka kn kc] 26)=W0:=⟨_,rfl⟩;rw [hW0] at HH;unfold dfn at hW0 ⊢;clear h ha hg;go_enter Tryz.func27,Tryz.ntmps27
 go_upto_region 1 with (fail)
 try rw [hW0]
 clear hW0;obtain ⟨x0,x1,x2,x3⟩:=jx HH.out.x
 go_upto_region 8 with (fail)
 clear x0 x1 x2 x3
 refine jq (by kernel_rfl) 14 (fun v=>([.func (.func 46) #[] #[.pointer (some ⟨b,0,none⟩),.pointer (some ⟨b+1,0,none⟩),.pointer (some ⟨b+2,0,none⟩)],.agg #[.int .i64 3,.int .i64 rel,.slice (some ⟨ab,ao,none⟩) 2 ac,.slice ka kn kc],.pointer (some ⟨w.heap.size,0,none⟩),.pointer (some ⟨w.heap.size+1,0,none⟩),v 13,.slice (some ⟨ab,ao,none⟩) 2 ac,.pointer (some ⟨w.heap.size+1,2,none⟩),.slice (some ⟨ab,ao,none⟩) 2 ac,.pointer (some ⟨w.heap.size+1,0,none⟩),.int .i64 3,.bool false,.bool false,undef,undef,undef,undef,undef,undef,undef,undef,undef,undef,undef,undef,undef,undef,undef,.bool false,.bool false,undef,undef,undef,undef,undef,undef,undef,undef,undef,undef,undef,undef,undef,undef,undef,undef,undef,undef,undef,undef,undef,undef,undef,.bool true,.bool true,v 0,v 1,v 2,v 3,v 4,v 5,v 6,v 7,v 8,v 9,v 10,v 11,v 12,undef,undef,undef,undef,undef,undef,undef,undef,undef,undef,undef,undef,undef,undef,undef,undef,undef,undef,undef,undef,undef,undef,undef,undef,undef,undef,undef,undef,undef]:List Value).toArray) (fun k=>if k=13 then .bool false else undef) (fun _=>none) (fun j=>[.slice (some ⟨ab,ao,none⟩) 2 ac,.int .i64 2,.bool true,.bool true,.func (.func 46) #[] #[.pointer (some ⟨b,0,none⟩),.pointer (some ⟨b+1,0,none⟩),.pointer (some ⟨b+2,0,none⟩)],.slice (some ⟨ab,ao,none⟩) 2 ac,.pointer (some ⟨ab,ao,none⟩),.agg #[.int .i64 (g 0).kind,.string (g 0).text,.bool (g 0).neg,.int .u64 (g 0).num],.slice (some ⟨ab,ao,none⟩) 2 ac,.pointer (some ⟨ab,ao+4,none⟩),.agg #[.int .i64 (g 1).kind,.string (g 1).text,.bool (g 1).neg,.int .u64 (g 1).num],.bool q,.bool q,.bool q].getD j undef) (fun w'=>Below W0.heap.size W0 w')
  (Nat.le_of_ble_eq_true (by kernel_rfl)) (by kernel_rfl) (fun _ _ h hb=>bth h hb) (Below.refl _ _) (fun j hj v w1 hBx hsz hd=>?_) (fun v w1 hv hdist hBx hb=>?_)
 · have hBw:=bth HH.out.bel hBx;have HX:=HH.out.next hBx;have y0:=ja (j:=0) HX.d rfl;obtain ⟨x0,x1,x2,x3⟩:=jx HX.x;have hl0:=HL.out 0 (by omega) w1 hBw;have z00:w1.cell? ⟨ab,ao,none⟩=some (.int .i64 (g 0).kind):=hl0 0 _ rfl;have z01:w1.cell? ⟨ab,ao+1,none⟩=some (.string (g 0).text):=hl0 1 _ rfl;have z02:w1.cell? ⟨ab,ao+2,none⟩=some (.bool (g 0).neg):=hl0 2 _ rfl;have z03:w1.cell? ⟨ab,ao+3,none⟩=some (.int .u64 (g 0).num):=hl0 3 _ rfl;have hl1:=HL.out 1 (by omega) w1 hBw;have z10:w1.cell? ⟨ab,ao+4,none⟩=some (.int .i64 (g 1).kind):=hl1 0 _ rfl;have z11:w1.cell? ⟨ab,ao+5,none⟩=some (.string (g 1).text):=hl1 1 _ rfl;have t11:w1.cell? ⟨ab,ao+4+1,none⟩=some (.string (g 1).text):=hl1 1 _ rfl;have z12:w1.cell? ⟨ab,ao+6,none⟩=some (.bool (g 1).neg):=hl1 2 _ rfl;have t12:w1.cell? ⟨ab,ao+4+2,none⟩=some (.bool (g 1).neg):=hl1 2 _ rfl;have z13:w1.cell? ⟨ab,ao+7,none⟩=some (.int .u64 (g 1).num):=hl1 3 _ rfl;have t13:w1.cell? ⟨ab,ao+4+3,none⟩=some (.int .u64 (g 1).num):=hl1 3 _ rfl;clear hl0 hl1;clear HX
   have hjN:j=0∨j=1∨j=2∨j=3∨j=4∨j=5∨j=6∨j=7∨j=8∨j=9∨j=10∨j=11∨j=12∨j=13:=by omega
   have hd:=fun k h=>hd k (cm h)
   rcases hjN with rfl|rfl|rfl|rfl|rfl|rfl|rfl|rfl|rfl|rfl|rfl|rfl|rfl|rfl<;>refine wpOp_step (o:= _) rfl (fun K' hK=>?_)
   · go_simp;exact hK _ _ (qs _ rfl rfl)
   · have e0:v 0=.slice (some ⟨ab,ao,none⟩) 2 ac:=hd 0 (by kernel_rfl);go_simp;exact hK _ _ (qs _ (jb (by simp [upd,e0])) rfl)
   · have e1:v 1=.int .i64 2:=hd 1 (by kernel_rfl);go_simp;exact hK _ _ (qs _ (jb (by simp [upd,e1])) rfl)
   · have e2:v 2=.bool true:=hd 2 (by kernel_rfl);go_simp;exact hK _ _ (qs _ (jb (by simp [upd,e2])) rfl)
   iterate 2 (focus (have e3:v 3=.bool true:=hd 3 (by kernel_rfl);go_simp;exact hK _ _ (qs _ (jb (by simp [upd,e3])) rfl)))
   · have e3:v 3=.bool true:=hd 3 (by kernel_rfl);have e5:v 5=.slice (some ⟨ab,ao,none⟩) 2 ac:=hd 5 (by kernel_rfl);go_simp;exact hK _ _ (qs _ (jb (by simp [upd,e3,e5])) rfl)
   · have e3:v 3=.bool true:=hd 3 (by kernel_rfl);have e6:v 6=.pointer (some ⟨ab,ao,none⟩):=hd 6 (by kernel_rfl);go_simp;exact hK _ _ (qs _ (jb (by simp [upd,e3,e6])) rfl)
   · have e3:v 3=.bool true:=hd 3 (by kernel_rfl);go_simp;exact hK _ _ (qs _ (jb (by simp [upd,e3])) rfl)
   · have e3:v 3=.bool true:=hd 3 (by kernel_rfl);have e8:v 8=.slice (some ⟨ab,ao,none⟩) 2 ac:=hd 8 (by kernel_rfl);go_simp;exact hK _ _ (qs _ (jb (by simp [upd,e3,e8])) rfl)
   · have e3:v 3=.bool true:=hd 3 (by kernel_rfl);have e9:v 9=.pointer (some ⟨ab,ao+4,none⟩):=hd 9 (by kernel_rfl);go_simp;exact hK _ _ (qs _ (jb (by simp [upd,e3,e9])) rfl)
   · have e3:v 3=.bool true:=hd 3 (by kernel_rfl);have e4:v 4=.func (.func 46) #[] #[.pointer (some ⟨b,0,none⟩),.pointer (some ⟨b+1,0,none⟩),.pointer (some ⟨b+2,0,none⟩)]:=hd 4 (by kernel_rfl);have e7:v 7=.agg #[.int .i64 (g 0).kind,.string (g 0).text,.bool (g 0).neg,.int .u64 (g 0).num]:=hd 7 (by kernel_rfl);have e10:v 10=.agg #[.int .i64 (g 1).kind,.string (g 1).text,.bool (g 1).neg,.int .u64 (g 1).num]:=hd 10 (by kernel_rfl);go_simp;refine (HR.out w1 hBw).mono ?_;rintro e w3 ⟨rfl,hb3⟩;exact hK _ _ (qc _ (jb (by simp [upd,e3,e4,e7,e10])) hb3 rfl)
   · have e3:v 3=.bool true:=hd 3 (by kernel_rfl);have e11:v 11=.bool q:=hd 11 (by kernel_rfl);go_simp;exact hK _ _ (qs _ (jb (by simp [upd,e3,e11])) rfl)
   · have e12:v 12=.bool q:=hd 12 (by kernel_rfl);go_simp;exact hK _ _ (qs _ (jb (by simp [upd,e12])) rfl)
 · skip;have hq:=okv hv;have HBe:=lh hb;clear hv hdist hBx hb;refine wpAny_of_held (S:=fun _=>True) _ _ _ _ ?_;simp only [hq 0 (by decide),hq 1 (by decide),hq 2 (by decide),hq 3 (by decide),hq 4 (by decide),hq 5 (by decide),hq 6 (by decide),hq 7 (by decide),hq 8 (by decide),hq 9 (by decide),hq 10 (by decide),hq 11 (by decide),hq 12 (by decide),hq 13 (by decide),List.getD_cons_zero,List.getD_cons_succ];clear hq;refine wpAnyH_done (by kernel_rfl) ?_ _;go_wp2_with fail;go_ret;exact ⟨rfl,bth HH.out.bel HBe.out⟩
theorem jrs (L:Nat→Pa.TypeV) (al:Option Addr) (len cap:Nat) (hlen:len≤1000000) (hcap:len≤cap) (t:Int) (S:Nat→Prop) (V:Pa.VT) (hV:smV V) (b:Nat) (rel:Int) (ab ao ac:Nat) (g:Nat→Opd) (hg:∀ i,i<3→OpX (g i)∧(g i).text.size≤1000000) (ka:Option Addr) (kn kc:Nat) (w:World) (h:DAt w b L al len cap t S V) (ha:OpsAt w ab ao 3 g):OwnTo (truD L len t V) b 2 rel (some ⟨ab,ao,none⟩) 3 ac g ka kn kc w:=by
 unfold OwnTo;have HL:=lh ha;have HR:=lh (fun wx (hb:Below w.heap.size w wx)=>jbp 6 L al len cap hlen hcap t S V hV (g 0) (g 1) (hg 0 (by omega)) (hg 1 (by omega)) b wx (h.next hb));have HS:=lh (fun wx (hb:Below w.heap.size w wx)=>jbp 4 L al len cap hlen hcap t S V hV (g 0) (g 2) (hg 0 (by omega)) (hg 2 (by omega)) b wx (h.next hb));obtain ⟨q,hq⟩:∃ q,prB (truD L len t V) 6 (g 0) (g 1)=q:=⟨_,rfl⟩;obtain ⟨p,hp⟩:∃ p,prB (truD L len t V) 4 (g 0) (g 2)=p:=⟨_,rfl⟩;rw [show ownB (truD L len t V) 2 rel 3 g=(q&&p) by rw [←hq,←hp];rfl];rw [hq] at HR;rw [hp] at HS;unfold dfn at HR HS;clear hq hp;have HH:=lh (Hst.start w b 2 rel (some ⟨ab,ao,none⟩) 3 ac ka kn kc);obtain ⟨W0,hW0⟩:∃ W0,(w.alloc (.cells #[dfn b] 64)).alloc (.cells #[.int .i64 2,.int .i64 rel,.slice (some ⟨ab,ao,none⟩) 3 ac,.slice ka kn kc] 26)=W0:=⟨_,rfl⟩;rw [hW0] at HH;unfold dfn at hW0 ⊢;clear h ha hg
 cases q with
 |true=>
  rw [Bool.true_and];go_enter Tryz.func27,Tryz.ntmps27
  go_upto_region 1 with (fail)
  try rw [hW0]
  clear hW0;obtain ⟨x0,x1,x2,x3⟩:=jx HH.out.x
  go_upto_region 6 with (fail)
  clear x0 x1 x2 x3
  refine jq (by kernel_rfl) 24 (fun v=>([.func (.func 46) #[] #[.pointer (some ⟨b,0,none⟩),.pointer (some ⟨b+1,0,none⟩),.pointer (some ⟨b+2,0,none⟩)],.agg #[.int .i64 2,.int .i64 rel,.slice (some ⟨ab,ao,none⟩) 3 ac,.slice ka kn kc],.pointer (some ⟨w.heap.size,0,none⟩),.pointer (some ⟨w.heap.size+1,0,none⟩),v 23,.slice (some ⟨ab,ao,none⟩) 3 ac,.pointer (some ⟨w.heap.size+1,2,none⟩),.slice (some ⟨ab,ao,none⟩) 3 ac,.pointer (some ⟨w.heap.size+1,0,none⟩),.int .i64 2,.bool false,.bool false,undef,undef,undef,undef,undef,undef,undef,undef,undef,undef,undef,undef,undef,undef,undef,.bool true,.bool true,v 0,v 1,v 2,v 3,v 4,v 5,v 6,v 7,v 8,v 9,v 10,v 11,v 12,v 13,v 14,v 15,v 16,v 17,v 18,v 19,v 20,v 21,v 22,undef,undef,undef,undef,undef,undef,undef,undef,undef,undef,undef,undef,undef,undef,undef,undef,undef,undef,undef,undef,undef,undef,undef,undef,undef,undef,undef,undef,undef,undef,undef,undef,undef,undef,undef,undef,undef,undef,undef,undef,undef,undef,undef,undef]:List Value).toArray) (fun k=>if k=23 then .bool false else undef) (fun _=>none) (fun j=>[.slice (some ⟨ab,ao,none⟩) 3 ac,.int .i64 3,.bool true,.bool true,.func (.func 46) #[] #[.pointer (some ⟨b,0,none⟩),.pointer (some ⟨b+1,0,none⟩),.pointer (some ⟨b+2,0,none⟩)],.slice (some ⟨ab,ao,none⟩) 3 ac,.pointer (some ⟨ab,ao,none⟩),.agg #[.int .i64 (g 0).kind,.string (g 0).text,.bool (g 0).neg,.int .u64 (g 0).num],.slice (some ⟨ab,ao,none⟩) 3 ac,.pointer (some ⟨ab,ao+4,none⟩),.agg #[.int .i64 (g 1).kind,.string (g 1).text,.bool (g 1).neg,.int .u64 (g 1).num],.bool true,.bool true,.bool true,.func (.func 46) #[] #[.pointer (some ⟨b,0,none⟩),.pointer (some ⟨b+1,0,none⟩),.pointer (some ⟨b+2,0,none⟩)],.slice (some ⟨ab,ao,none⟩) 3 ac,.pointer (some ⟨ab,ao,none⟩),.agg #[.int .i64 (g 0).kind,.string (g 0).text,.bool (g 0).neg,.int .u64 (g 0).num],.slice (some ⟨ab,ao,none⟩) 3 ac,.pointer (some ⟨ab,ao+8,none⟩),.agg #[.int .i64 (g 2).kind,.string (g 2).text,.bool (g 2).neg,.int .u64 (g 2).num],.bool p,.bool p,.bool p].getD j undef) (fun w'=>Below W0.heap.size W0 w')
   (Nat.le_of_ble_eq_true (by kernel_rfl)) (by kernel_rfl) (fun _ _ h hb=>bth h hb) (Below.refl _ _) (fun j hj v w1 hBx hsz hd=>?_) (fun v w1 hv hdist hBx hb=>?_)
  · have hBw:=bth HH.out.bel hBx;have HX:=HH.out.next hBx;have y0:=ja (j:=0) HX.d rfl;obtain ⟨x0,x1,x2,x3⟩:=jx HX.x;have hl0:=HL.out 0 (by omega) w1 hBw;have z00:w1.cell? ⟨ab,ao,none⟩=some (.int .i64 (g 0).kind):=hl0 0 _ rfl;have z01:w1.cell? ⟨ab,ao+1,none⟩=some (.string (g 0).text):=hl0 1 _ rfl;have z02:w1.cell? ⟨ab,ao+2,none⟩=some (.bool (g 0).neg):=hl0 2 _ rfl;have z03:w1.cell? ⟨ab,ao+3,none⟩=some (.int .u64 (g 0).num):=hl0 3 _ rfl;have hl1:=HL.out 1 (by omega) w1 hBw;have z10:w1.cell? ⟨ab,ao+4,none⟩=some (.int .i64 (g 1).kind):=hl1 0 _ rfl;have z11:w1.cell? ⟨ab,ao+5,none⟩=some (.string (g 1).text):=hl1 1 _ rfl;have t11:w1.cell? ⟨ab,ao+4+1,none⟩=some (.string (g 1).text):=hl1 1 _ rfl;have z12:w1.cell? ⟨ab,ao+6,none⟩=some (.bool (g 1).neg):=hl1 2 _ rfl;have t12:w1.cell? ⟨ab,ao+4+2,none⟩=some (.bool (g 1).neg):=hl1 2 _ rfl;have z13:w1.cell? ⟨ab,ao+7,none⟩=some (.int .u64 (g 1).num):=hl1 3 _ rfl;have t13:w1.cell? ⟨ab,ao+4+3,none⟩=some (.int .u64 (g 1).num):=hl1 3 _ rfl;have hl2:=HL.out 2 (by omega) w1 hBw;have z20:w1.cell? ⟨ab,ao+8,none⟩=some (.int .i64 (g 2).kind):=hl2 0 _ rfl;have z21:w1.cell? ⟨ab,ao+9,none⟩=some (.string (g 2).text):=hl2 1 _ rfl;have t21:w1.cell? ⟨ab,ao+8+1,none⟩=some (.string (g 2).text):=hl2 1 _ rfl;have z22:w1.cell? ⟨ab,ao+10,none⟩=some (.bool (g 2).neg):=hl2 2 _ rfl;have t22:w1.cell? ⟨ab,ao+8+2,none⟩=some (.bool (g 2).neg):=hl2 2 _ rfl;have z23:w1.cell? ⟨ab,ao+11,none⟩=some (.int .u64 (g 2).num):=hl2 3 _ rfl;have t23:w1.cell? ⟨ab,ao+8+3,none⟩=some (.int .u64 (g 2).num):=hl2 3 _ rfl;clear hl0 hl1 hl2;clear HX
    have hjN:j=0∨j=1∨j=2∨j=3∨j=4∨j=5∨j=6∨j=7∨j=8∨j=9∨j=10∨j=11∨j=12∨j=13∨j=14∨j=15∨j=16∨j=17∨j=18∨j=19∨j=20∨j=21∨j=22∨j=23:=by omega
    have hd:=fun k h=>hd k (cm h)
    rcases hjN with rfl|rfl|rfl|rfl|rfl|rfl|rfl|rfl|rfl|rfl|rfl|rfl|rfl|rfl|rfl|rfl|rfl|rfl|rfl|rfl|rfl|rfl|rfl|rfl<;>refine wpOp_step (o:= _) rfl (fun K' hK=>?_)
    · go_simp;exact hK _ _ (qs _ rfl rfl)
    · have e0:v 0=.slice (some ⟨ab,ao,none⟩) 3 ac:=hd 0 (by kernel_rfl);go_simp;exact hK _ _ (qs _ (jb (by simp [upd,e0])) rfl)
    · have e1:v 1=.int .i64 3:=hd 1 (by kernel_rfl);go_simp;exact hK _ _ (qs _ (jb (by simp [upd,e1])) rfl)
    · have e2:v 2=.bool true:=hd 2 (by kernel_rfl);go_simp;exact hK _ _ (qs _ (jb (by simp [upd,e2])) rfl)
    iterate 2 (focus (have e3:v 3=.bool true:=hd 3 (by kernel_rfl);go_simp;exact hK _ _ (qs _ (jb (by simp [upd,e3])) rfl)))
    · have e3:v 3=.bool true:=hd 3 (by kernel_rfl);have e5:v 5=.slice (some ⟨ab,ao,none⟩) 3 ac:=hd 5 (by kernel_rfl);go_simp;exact hK _ _ (qs _ (jb (by simp [upd,e3,e5])) rfl)
    · have e3:v 3=.bool true:=hd 3 (by kernel_rfl);have e6:v 6=.pointer (some ⟨ab,ao,none⟩):=hd 6 (by kernel_rfl);go_simp;exact hK _ _ (qs _ (jb (by simp [upd,e3,e6])) rfl)
    · have e3:v 3=.bool true:=hd 3 (by kernel_rfl);go_simp;exact hK _ _ (qs _ (jb (by simp [upd,e3])) rfl)
    · have e3:v 3=.bool true:=hd 3 (by kernel_rfl);have e8:v 8=.slice (some ⟨ab,ao,none⟩) 3 ac:=hd 8 (by kernel_rfl);go_simp;exact hK _ _ (qs _ (jb (by simp [upd,e3,e8])) rfl)
    · have e3:v 3=.bool true:=hd 3 (by kernel_rfl);have e9:v 9=.pointer (some ⟨ab,ao+4,none⟩):=hd 9 (by kernel_rfl);go_simp;exact hK _ _ (qs _ (jb (by simp [upd,e3,e9])) rfl)
    · have e3:v 3=.bool true:=hd 3 (by kernel_rfl);have e4:v 4=.func (.func 46) #[] #[.pointer (some ⟨b,0,none⟩),.pointer (some ⟨b+1,0,none⟩),.pointer (some ⟨b+2,0,none⟩)]:=hd 4 (by kernel_rfl);have e7:v 7=.agg #[.int .i64 (g 0).kind,.string (g 0).text,.bool (g 0).neg,.int .u64 (g 0).num]:=hd 7 (by kernel_rfl);have e10:v 10=.agg #[.int .i64 (g 1).kind,.string (g 1).text,.bool (g 1).neg,.int .u64 (g 1).num]:=hd 10 (by kernel_rfl);go_simp;refine (HR.out w1 hBw).mono ?_;rintro e w3 ⟨rfl,hb3⟩;exact hK _ _ (qc _ (jb (by simp [upd,e3,e4,e7,e10])) hb3 rfl)
    · have e3:v 3=.bool true:=hd 3 (by kernel_rfl);have e11:v 11=.bool true:=hd 11 (by kernel_rfl);go_simp;exact hK _ _ (qs _ (jb (by simp [upd,e3,e11])) rfl)
    · have e12:v 12=.bool true:=hd 12 (by kernel_rfl);go_simp;exact hK _ _ (qs _ (jb (by simp [upd,e12])) rfl)
    iterate 2 (focus (have e13:v 13=.bool true:=hd 13 (by kernel_rfl);go_simp;exact hK _ _ (qs _ (jb (by simp [upd,e13])) rfl)))
    · have e13:v 13=.bool true:=hd 13 (by kernel_rfl);have e15:v 15=.slice (some ⟨ab,ao,none⟩) 3 ac:=hd 15 (by kernel_rfl);go_simp;exact hK _ _ (qs _ (jb (by simp [upd,e13,e15])) rfl)
    · have e13:v 13=.bool true:=hd 13 (by kernel_rfl);have e16:v 16=.pointer (some ⟨ab,ao,none⟩):=hd 16 (by kernel_rfl);go_simp;exact hK _ _ (qs _ (jb (by simp [upd,e13,e16])) rfl)
    · have e13:v 13=.bool true:=hd 13 (by kernel_rfl);go_simp;exact hK _ _ (qs _ (jb (by simp [upd,e13])) rfl)
    · have e13:v 13=.bool true:=hd 13 (by kernel_rfl);have e18:v 18=.slice (some ⟨ab,ao,none⟩) 3 ac:=hd 18 (by kernel_rfl);go_simp;exact hK _ _ (qs _ (jb (by simp [upd,e13,e18])) rfl)
    · have e13:v 13=.bool true:=hd 13 (by kernel_rfl);have e19:v 19=.pointer (some ⟨ab,ao+8,none⟩):=hd 19 (by kernel_rfl);go_simp;exact hK _ _ (qs _ (jb (by simp [upd,e13,e19])) rfl)
    · have e13:v 13=.bool true:=hd 13 (by kernel_rfl);have e14:v 14=.func (.func 46) #[] #[.pointer (some ⟨b,0,none⟩),.pointer (some ⟨b+1,0,none⟩),.pointer (some ⟨b+2,0,none⟩)]:=hd 14 (by kernel_rfl);have e17:v 17=.agg #[.int .i64 (g 0).kind,.string (g 0).text,.bool (g 0).neg,.int .u64 (g 0).num]:=hd 17 (by kernel_rfl);have e20:v 20=.agg #[.int .i64 (g 2).kind,.string (g 2).text,.bool (g 2).neg,.int .u64 (g 2).num]:=hd 20 (by kernel_rfl);go_simp;refine (HS.out w1 hBw).mono ?_;rintro e w3 ⟨rfl,hb3⟩;exact hK _ _ (qc _ (jb (by simp [upd,e13,e14,e17,e20])) hb3 rfl)
    · have e13:v 13=.bool true:=hd 13 (by kernel_rfl);have e21:v 21=.bool p:=hd 21 (by kernel_rfl);go_simp;exact hK _ _ (qs _ (jb (by simp [upd,e13,e21])) rfl)
    · have e22:v 22=.bool p:=hd 22 (by kernel_rfl);go_simp;exact hK _ _ (qs _ (jb (by simp [upd,e22])) rfl)
  · skip;have hq:=okv hv;have HBe:=lh hb;clear hv hdist hBx hb;refine wpAny_of_held (S:=fun _=>True) _ _ _ _ ?_;simp only [hq 0 (by decide),hq 1 (by decide),hq 2 (by decide),hq 3 (by decide),hq 4 (by decide),hq 5 (by decide),hq 6 (by decide),hq 7 (by decide),hq 8 (by decide),hq 9 (by decide),hq 10 (by decide),hq 11 (by decide),hq 12 (by decide),hq 13 (by decide),hq 14 (by decide),hq 15 (by decide),hq 16 (by decide),hq 17 (by decide),hq 18 (by decide),hq 19 (by decide),hq 20 (by decide),hq 21 (by decide),hq 22 (by decide),hq 23 (by decide),List.getD_cons_zero,List.getD_cons_succ];clear hq;refine wpAnyH_done (by kernel_rfl) ?_ _;go_wp2_with fail;go_ret;exact ⟨rfl,bth HH.out.bel HBe.out⟩
 |false=>
  rw [Bool.false_and];go_enter Tryz.func27,Tryz.ntmps27
  go_upto_region 1 with (fail)
  try rw [hW0]
  clear hW0;obtain ⟨x0,x1,x2,x3⟩:=jx HH.out.x
  go_upto_region 6 with (fail)
  clear x0 x1 x2 x3
  refine jq (by kernel_rfl) 24 (fun v=>([.func (.func 46) #[] #[.pointer (some ⟨b,0,none⟩),.pointer (some ⟨b+1,0,none⟩),.pointer (some ⟨b+2,0,none⟩)],.agg #[.int .i64 2,.int .i64 rel,.slice (some ⟨ab,ao,none⟩) 3 ac,.slice ka kn kc],.pointer (some ⟨w.heap.size,0,none⟩),.pointer (some ⟨w.heap.size+1,0,none⟩),v 23,.slice (some ⟨ab,ao,none⟩) 3 ac,.pointer (some ⟨w.heap.size+1,2,none⟩),.slice (some ⟨ab,ao,none⟩) 3 ac,.pointer (some ⟨w.heap.size+1,0,none⟩),.int .i64 2,.bool false,.bool false,undef,undef,undef,undef,undef,undef,undef,undef,undef,undef,undef,undef,undef,undef,undef,.bool true,.bool true,v 0,v 1,v 2,v 3,v 4,v 5,v 6,v 7,v 8,v 9,v 10,v 11,v 12,v 13,v 14,v 15,v 16,v 17,v 18,v 19,v 20,v 21,v 22,undef,undef,undef,undef,undef,undef,undef,undef,undef,undef,undef,undef,undef,undef,undef,undef,undef,undef,undef,undef,undef,undef,undef,undef,undef,undef,undef,undef,undef,undef,undef,undef,undef,undef,undef,undef,undef,undef,undef,undef,undef,undef,undef,undef]:List Value).toArray) (fun k=>if k=23 then .bool false else undef) (fun _=>none) (fun j=>[.slice (some ⟨ab,ao,none⟩) 3 ac,.int .i64 3,.bool true,.bool true,.func (.func 46) #[] #[.pointer (some ⟨b,0,none⟩),.pointer (some ⟨b+1,0,none⟩),.pointer (some ⟨b+2,0,none⟩)],.slice (some ⟨ab,ao,none⟩) 3 ac,.pointer (some ⟨ab,ao,none⟩),.agg #[.int .i64 (g 0).kind,.string (g 0).text,.bool (g 0).neg,.int .u64 (g 0).num],.slice (some ⟨ab,ao,none⟩) 3 ac,.pointer (some ⟨ab,ao+4,none⟩),.agg #[.int .i64 (g 1).kind,.string (g 1).text,.bool (g 1).neg,.int .u64 (g 1).num],.bool false,.bool false,.bool false,undef,undef,undef,undef,undef,undef,undef,undef,.bool false,.bool false].getD j undef) (fun w'=>Below W0.heap.size W0 w')
   (Nat.le_of_ble_eq_true (by kernel_rfl)) (by kernel_rfl) (fun _ _ h hb=>bth h hb) (Below.refl _ _) (fun j hj v w1 hBx hsz hd=>?_) (fun v w1 hv hdist hBx hb=>?_)
  · have hBw:=bth HH.out.bel hBx;have HX:=HH.out.next hBx;have y0:=ja (j:=0) HX.d rfl;obtain ⟨x0,x1,x2,x3⟩:=jx HX.x;have hl0:=HL.out 0 (by omega) w1 hBw;have z00:w1.cell? ⟨ab,ao,none⟩=some (.int .i64 (g 0).kind):=hl0 0 _ rfl;have z01:w1.cell? ⟨ab,ao+1,none⟩=some (.string (g 0).text):=hl0 1 _ rfl;have z02:w1.cell? ⟨ab,ao+2,none⟩=some (.bool (g 0).neg):=hl0 2 _ rfl;have z03:w1.cell? ⟨ab,ao+3,none⟩=some (.int .u64 (g 0).num):=hl0 3 _ rfl;have hl1:=HL.out 1 (by omega) w1 hBw;have z10:w1.cell? ⟨ab,ao+4,none⟩=some (.int .i64 (g 1).kind):=hl1 0 _ rfl;have z11:w1.cell? ⟨ab,ao+5,none⟩=some (.string (g 1).text):=hl1 1 _ rfl;have t11:w1.cell? ⟨ab,ao+4+1,none⟩=some (.string (g 1).text):=hl1 1 _ rfl;have z12:w1.cell? ⟨ab,ao+6,none⟩=some (.bool (g 1).neg):=hl1 2 _ rfl;have t12:w1.cell? ⟨ab,ao+4+2,none⟩=some (.bool (g 1).neg):=hl1 2 _ rfl;have z13:w1.cell? ⟨ab,ao+7,none⟩=some (.int .u64 (g 1).num):=hl1 3 _ rfl;have t13:w1.cell? ⟨ab,ao+4+3,none⟩=some (.int .u64 (g 1).num):=hl1 3 _ rfl;have hl2:=HL.out 2 (by omega) w1 hBw;have z20:w1.cell? ⟨ab,ao+8,none⟩=some (.int .i64 (g 2).kind):=hl2 0 _ rfl;have z21:w1.cell? ⟨ab,ao+9,none⟩=some (.string (g 2).text):=hl2 1 _ rfl;have t21:w1.cell? ⟨ab,ao+8+1,none⟩=some (.string (g 2).text):=hl2 1 _ rfl;have z22:w1.cell? ⟨ab,ao+10,none⟩=some (.bool (g 2).neg):=hl2 2 _ rfl;have t22:w1.cell? ⟨ab,ao+8+2,none⟩=some (.bool (g 2).neg):=hl2 2 _ rfl;have z23:w1.cell? ⟨ab,ao+11,none⟩=some (.int .u64 (g 2).num):=hl2 3 _ rfl;have t23:w1.cell? ⟨ab,ao+8+3,none⟩=some (.int .u64 (g 2).num):=hl2 3 _ rfl;clear hl0 hl1 hl2;clear HX
    have hjN:j=0∨j=1∨j=2∨j=3∨j=4∨j=5∨j=6∨j=7∨j=8∨j=9∨j=10∨j=11∨j=12∨j=13∨j=14∨j=15∨j=16∨j=17∨j=18∨j=19∨j=20∨j=21∨j=22∨j=23:=by omega
    have hd:=fun k h=>hd k (cm h)
    rcases hjN with rfl|rfl|rfl|rfl|rfl|rfl|rfl|rfl|rfl|rfl|rfl|rfl|rfl|rfl|rfl|rfl|rfl|rfl|rfl|rfl|rfl|rfl|rfl|rfl<;>refine wpOp_step (o:= _) rfl (fun K' hK=>?_)
    · go_simp;exact hK _ _ (qs _ rfl rfl)
    · have e0:v 0=.slice (some ⟨ab,ao,none⟩) 3 ac:=hd 0 (by kernel_rfl);go_simp;exact hK _ _ (qs _ (jb (by simp [upd,e0])) rfl)
    · have e1:v 1=.int .i64 3:=hd 1 (by kernel_rfl);go_simp;exact hK _ _ (qs _ (jb (by simp [upd,e1])) rfl)
    · have e2:v 2=.bool true:=hd 2 (by kernel_rfl);go_simp;exact hK _ _ (qs _ (jb (by simp [upd,e2])) rfl)
    iterate 2 (focus (have e3:v 3=.bool true:=hd 3 (by kernel_rfl);go_simp;exact hK _ _ (qs _ (jb (by simp [upd,e3])) rfl)))
    · have e3:v 3=.bool true:=hd 3 (by kernel_rfl);have e5:v 5=.slice (some ⟨ab,ao,none⟩) 3 ac:=hd 5 (by kernel_rfl);go_simp;exact hK _ _ (qs _ (jb (by simp [upd,e3,e5])) rfl)
    · have e3:v 3=.bool true:=hd 3 (by kernel_rfl);have e6:v 6=.pointer (some ⟨ab,ao,none⟩):=hd 6 (by kernel_rfl);go_simp;exact hK _ _ (qs _ (jb (by simp [upd,e3,e6])) rfl)
    · have e3:v 3=.bool true:=hd 3 (by kernel_rfl);go_simp;exact hK _ _ (qs _ (jb (by simp [upd,e3])) rfl)
    · have e3:v 3=.bool true:=hd 3 (by kernel_rfl);have e8:v 8=.slice (some ⟨ab,ao,none⟩) 3 ac:=hd 8 (by kernel_rfl);go_simp;exact hK _ _ (qs _ (jb (by simp [upd,e3,e8])) rfl)
    · have e3:v 3=.bool true:=hd 3 (by kernel_rfl);have e9:v 9=.pointer (some ⟨ab,ao+4,none⟩):=hd 9 (by kernel_rfl);go_simp;exact hK _ _ (qs _ (jb (by simp [upd,e3,e9])) rfl)
    · have e3:v 3=.bool true:=hd 3 (by kernel_rfl);have e4:v 4=.func (.func 46) #[] #[.pointer (some ⟨b,0,none⟩),.pointer (some ⟨b+1,0,none⟩),.pointer (some ⟨b+2,0,none⟩)]:=hd 4 (by kernel_rfl);have e7:v 7=.agg #[.int .i64 (g 0).kind,.string (g 0).text,.bool (g 0).neg,.int .u64 (g 0).num]:=hd 7 (by kernel_rfl);have e10:v 10=.agg #[.int .i64 (g 1).kind,.string (g 1).text,.bool (g 1).neg,.int .u64 (g 1).num]:=hd 10 (by kernel_rfl);go_simp;refine (HR.out w1 hBw).mono ?_;rintro e w3 ⟨rfl,hb3⟩;exact hK _ _ (qc _ (jb (by simp [upd,e3,e4,e7,e10])) hb3 rfl)
    · have e3:v 3=.bool true:=hd 3 (by kernel_rfl);have e11:v 11=.bool false:=hd 11 (by kernel_rfl);go_simp;exact hK _ _ (qs _ (jb (by simp [upd,e3,e11])) rfl)
    · have e12:v 12=.bool false:=hd 12 (by kernel_rfl);go_simp;exact hK _ _ (qs _ (jb (by simp [upd,e12])) rfl)
    iterate 2 (focus (have e13:v 13=.bool false:=hd 13 (by kernel_rfl);go_simp;exact hK _ _ (qs _ (jb (by simp [upd,e13])) rfl)))
    · have e13:v 13=.bool false:=hd 13 (by kernel_rfl);have e15:v 15=undef:=hd 15 (by kernel_rfl);go_simp;exact hK _ _ (qs _ (jb (by simp [upd,e13,e15])) rfl)
    · have e13:v 13=.bool false:=hd 13 (by kernel_rfl);have e16:v 16=undef:=hd 16 (by kernel_rfl);go_simp;exact hK _ _ (qs _ (jb (by simp [upd,e13,e16])) rfl)
    · have e13:v 13=.bool false:=hd 13 (by kernel_rfl);go_simp;exact hK _ _ (qs _ (jb (by simp [upd,e13])) rfl)
    · have e13:v 13=.bool false:=hd 13 (by kernel_rfl);have e18:v 18=undef:=hd 18 (by kernel_rfl);go_simp;exact hK _ _ (qs _ (jb (by simp [upd,e13,e18])) rfl)
    · have e13:v 13=.bool false:=hd 13 (by kernel_rfl);have e19:v 19=undef:=hd 19 (by kernel_rfl);go_simp;exact hK _ _ (qs _ (jb (by simp [upd,e13,e19])) rfl)
    · have e13:v 13=.bool false:=hd 13 (by kernel_rfl);have e14:v 14=undef:=hd 14 (by kernel_rfl);have e17:v 17=undef:=hd 17 (by kernel_rfl);have e20:v 20=undef:=hd 20 (by kernel_rfl);go_simp;exact hK _ _ (qs _ (jb (by simp [upd,e13,e14,e17,e20])) rfl)
    · have e13:v 13=.bool false:=hd 13 (by kernel_rfl);have e21:v 21=undef:=hd 21 (by kernel_rfl);go_simp;exact hK _ _ (qs _ (jb (by simp [upd,e13,e21])) rfl)
    · have e22:v 22=.bool false:=hd 22 (by kernel_rfl);go_simp;exact hK _ _ (qs _ (jb (by simp [upd,e22])) rfl)
  · skip;have hq:=okv hv;have HBe:=lh hb;clear hv hdist hBx hb;refine wpAny_of_held (S:=fun _=>True) _ _ _ _ ?_;simp only [hq 0 (by decide),hq 1 (by decide),hq 2 (by decide),hq 3 (by decide),hq 4 (by decide),hq 5 (by decide),hq 6 (by decide),hq 7 (by decide),hq 8 (by decide),hq 9 (by decide),hq 10 (by decide),hq 11 (by decide),hq 12 (by decide),hq 13 (by decide),hq 14 (by decide),hq 15 (by decide),hq 16 (by decide),hq 17 (by decide),hq 18 (by decide),hq 19 (by decide),hq 20 (by decide),hq 21 (by decide),hq 22 (by decide),hq 23 (by decide),List.getD_cons_zero,List.getD_cons_succ];clear hq;refine wpAnyH_done (by kernel_rfl) ?_ _;go_wp2_with fail;go_ret;exact ⟨rfl,bth HH.out.bel HBe.out⟩
theorem jsg (D:Opd→Opd→DatV) (b:Nat) (rel:Int) (aa:Option Addr) (an ac:Nat) (hn:an≠2) (g:Nat→Opd) (ka:Option Addr) (kn kc:Nat) (w:World):OwnTo D b 1 rel aa an ac g ka kn kc w:=by
 unfold OwnTo;rw [show ownB D 1 rel an g=false by unfold ownB;simp [hn]]
 have hni:((an:Int)==2)=false:=by rw [beq_eq_false_iff_ne];omega
 have HH:=lh (Hst.start w b 1 rel aa an ac ka kn kc);obtain ⟨W0,hW0⟩:∃ W0,(w.alloc (.cells #[dfn b] 64)).alloc (.cells #[.int .i64 1,.int .i64 rel,.slice aa an ac,.slice ka kn kc] 26)=W0:=⟨_,rfl⟩;rw [hW0] at HH;unfold dfn at hW0 ⊢;clear hn;go_enter Tryz.func27,Tryz.ntmps27
 go_upto_region 1 with (fail)
 try rw [hW0]
 clear hW0;obtain ⟨x0,x1,x2,x3⟩:=jx HH.out.x
 go_upto_region 4 with (fail)
 clear x0 x1 x2 x3
 refine jq (by kernel_rfl) 16 (fun v=>([.func (.func 46) #[] #[.pointer (some ⟨b,0,none⟩),.pointer (some ⟨b+1,0,none⟩),.pointer (some ⟨b+2,0,none⟩)],.agg #[.int .i64 1,.int .i64 rel,.slice aa an ac,.slice ka kn kc],.pointer (some ⟨w.heap.size,0,none⟩),.pointer (some ⟨w.heap.size+1,0,none⟩),v 15,.slice aa an ac,.pointer (some ⟨w.heap.size+1,2,none⟩),.slice aa an ac,.pointer (some ⟨w.heap.size+1,0,none⟩),.int .i64 1,.bool true,.bool true,v 0,v 1,v 2,v 3,v 4,v 5,v 6,v 7,v 8,v 9,v 10,v 11,v 12,v 13,v 14,undef,undef,undef,undef,undef,undef,undef,undef,undef,undef,undef,undef,undef,undef,undef,undef,undef,undef,undef,undef,undef,undef,undef,undef,undef,undef,undef,undef,undef,undef,undef,undef,undef,undef,undef,undef,undef,undef,undef,undef,undef,undef,undef,undef,undef,undef,undef,undef,undef,undef,undef,undef,undef,undef,undef,undef,undef,undef,undef,undef,undef,undef,undef,undef,undef,undef,undef,undef,undef]:List Value).toArray) (fun k=>if k=15 then .bool false else undef) (fun _=>none) (fun j=>[.slice aa an ac,.int .i64 (an:Nat),.bool false,.bool false,undef,undef,undef,undef,undef,undef,undef,undef,undef,undef,.bool false,.bool false].getD j undef) (fun w'=>Below W0.heap.size W0 w')
  (Nat.le_of_ble_eq_true (by kernel_rfl)) (by kernel_rfl) (fun _ _ h hb=>bth h hb) (Below.refl _ _) (fun j hj v w1 hBx hsz hd=>?_) (fun v w1 hv hdist hBx hb=>?_)
 · have hBw:=bth HH.out.bel hBx
   have hjN:j=0∨j=1∨j=2∨j=3∨j=4∨j=5∨j=6∨j=7∨j=8∨j=9∨j=10∨j=11∨j=12∨j=13∨j=14∨j=15:=by omega
   have hd:=fun k h=>hd k (cm h)
   rcases hjN with rfl|rfl|rfl|rfl|rfl|rfl|rfl|rfl|rfl|rfl|rfl|rfl|rfl|rfl|rfl|rfl<;>refine wpOp_step (o:= _) rfl (fun K' hK=>?_)
   · go_simp;exact hK _ _ (qs _ rfl rfl)
   · have e0:v 0=.slice aa an ac:=hd 0 (by kernel_rfl);go_simp;exact hK _ _ (qs _ (jb (by simp [upd,e0])) rfl)
   · have e1:v 1=.int .i64 (an:Nat):=hd 1 (by kernel_rfl);go_simp;exact hK _ _ (qs _ (jb (by simp [upd,e1])) rfl)
   · have e2:v 2=.bool false:=hd 2 (by kernel_rfl);go_simp;exact hK _ _ (qs _ (jb (by simp [upd,e2])) rfl)
   iterate 2 (focus (have e3:v 3=.bool false:=hd 3 (by kernel_rfl);go_simp;exact hK _ _ (qs _ (jb (by simp [upd,e3])) rfl)))
   · have e3:v 3=.bool false:=hd 3 (by kernel_rfl);have e5:v 5=undef:=hd 5 (by kernel_rfl);go_simp;exact hK _ _ (qs _ (jb (by simp [upd,e3,e5])) rfl)
   · have e3:v 3=.bool false:=hd 3 (by kernel_rfl);go_simp;exact hK _ _ (qs _ (jb (by simp [upd,e3])) rfl)
   · have e3:v 3=.bool false:=hd 3 (by kernel_rfl);have e7:v 7=undef:=hd 7 (by kernel_rfl);go_simp;exact hK _ _ (qs _ (jb (by simp [upd,e3,e7])) rfl)
   · have e3:v 3=.bool false:=hd 3 (by kernel_rfl);have e8:v 8=undef:=hd 8 (by kernel_rfl);go_simp;exact hK _ _ (qs _ (jb (by simp [upd,e3,e8])) rfl)
   · have e3:v 3=.bool false:=hd 3 (by kernel_rfl);go_simp;exact hK _ _ (qs _ (jb (by simp [upd,e3])) rfl)
   · have e3:v 3=.bool false:=hd 3 (by kernel_rfl);have e10:v 10=undef:=hd 10 (by kernel_rfl);go_simp;exact hK _ _ (qs _ (jb (by simp [upd,e3,e10])) rfl)
   · have e3:v 3=.bool false:=hd 3 (by kernel_rfl);have e11:v 11=undef:=hd 11 (by kernel_rfl);go_simp;exact hK _ _ (qs _ (jb (by simp [upd,e3,e11])) rfl)
   · have e3:v 3=.bool false:=hd 3 (by kernel_rfl);have e4:v 4=undef:=hd 4 (by kernel_rfl);have e6:v 6=undef:=hd 6 (by kernel_rfl);have e9:v 9=undef:=hd 9 (by kernel_rfl);have e12:v 12=undef:=hd 12 (by kernel_rfl);go_simp;exact hK _ _ (qs _ (jb (by simp [upd,e3,e4,e6,e9,e12])) rfl)
   · have e3:v 3=.bool false:=hd 3 (by kernel_rfl);have e13:v 13=undef:=hd 13 (by kernel_rfl);go_simp;exact hK _ _ (qs _ (jb (by simp [upd,e3,e13])) rfl)
   · have e14:v 14=.bool false:=hd 14 (by kernel_rfl);go_simp;exact hK _ _ (qs _ (jb (by simp [upd,e14])) rfl)
 · skip;have hq:=okv hv;have HBe:=lh hb;clear hv hdist hBx hb;refine wpAny_of_held (S:=fun _=>True) _ _ _ _ ?_;simp only [hq 0 (by decide),hq 1 (by decide),hq 2 (by decide),hq 3 (by decide),hq 4 (by decide),hq 5 (by decide),hq 6 (by decide),hq 7 (by decide),hq 8 (by decide),hq 9 (by decide),hq 10 (by decide),hq 11 (by decide),hq 12 (by decide),hq 13 (by decide),hq 14 (by decide),hq 15 (by decide),List.getD_cons_zero,List.getD_cons_succ];clear hq;refine wpAnyH_done (by kernel_rfl) ?_ _;go_wp2_with fail;go_ret;exact ⟨rfl,bth HH.out.bel HBe.out⟩
theorem jov (D:Opd→Opd→DatV) (b:Nat) (rel:Int) (aa:Option Addr) (an ac:Nat) (hn:an≠3) (g:Nat→Opd) (ka:Option Addr) (kn kc:Nat) (w:World):OwnTo D b 2 rel aa an ac g ka kn kc w:=by
 unfold OwnTo;rw [show ownB D 2 rel an g=false by unfold ownB;simp [hn]]
 have hni:((an:Int)==3)=false:=by rw [beq_eq_false_iff_ne];omega
 have HH:=lh (Hst.start w b 2 rel aa an ac ka kn kc);obtain ⟨W0,hW0⟩:∃ W0,(w.alloc (.cells #[dfn b] 64)).alloc (.cells #[.int .i64 2,.int .i64 rel,.slice aa an ac,.slice ka kn kc] 26)=W0:=⟨_,rfl⟩;rw [hW0] at HH;unfold dfn at hW0 ⊢;clear hn;go_enter Tryz.func27,Tryz.ntmps27
 go_upto_region 1 with (fail)
 try rw [hW0]
 clear hW0;obtain ⟨x0,x1,x2,x3⟩:=jx HH.out.x
 go_upto_region 6 with (fail)
 clear x0 x1 x2 x3
 refine jq (by kernel_rfl) 24 (fun v=>([.func (.func 46) #[] #[.pointer (some ⟨b,0,none⟩),.pointer (some ⟨b+1,0,none⟩),.pointer (some ⟨b+2,0,none⟩)],.agg #[.int .i64 2,.int .i64 rel,.slice aa an ac,.slice ka kn kc],.pointer (some ⟨w.heap.size,0,none⟩),.pointer (some ⟨w.heap.size+1,0,none⟩),v 23,.slice aa an ac,.pointer (some ⟨w.heap.size+1,2,none⟩),.slice aa an ac,.pointer (some ⟨w.heap.size+1,0,none⟩),.int .i64 2,.bool false,.bool false,undef,undef,undef,undef,undef,undef,undef,undef,undef,undef,undef,undef,undef,undef,undef,.bool true,.bool true,v 0,v 1,v 2,v 3,v 4,v 5,v 6,v 7,v 8,v 9,v 10,v 11,v 12,v 13,v 14,v 15,v 16,v 17,v 18,v 19,v 20,v 21,v 22,undef,undef,undef,undef,undef,undef,undef,undef,undef,undef,undef,undef,undef,undef,undef,undef,undef,undef,undef,undef,undef,undef,undef,undef,undef,undef,undef,undef,undef,undef,undef,undef,undef,undef,undef,undef,undef,undef,undef,undef,undef,undef,undef,undef]:List Value).toArray) (fun k=>if k=23 then .bool false else undef) (fun _=>none) (fun j=>[.slice aa an ac,.int .i64 (an:Nat),.bool false,.bool false,undef,undef,undef,undef,undef,undef,undef,undef,.bool false,.bool false,undef,undef,undef,undef,undef,undef,undef,undef,.bool false,.bool false].getD j undef) (fun w'=>Below W0.heap.size W0 w')
  (Nat.le_of_ble_eq_true (by kernel_rfl)) (by kernel_rfl) (fun _ _ h hb=>bth h hb) (Below.refl _ _) (fun j hj v w1 hBx hsz hd=>?_) (fun v w1 hv hdist hBx hb=>?_)
 · have hBw:=bth HH.out.bel hBx
   have hjN:j=0∨j=1∨j=2∨j=3∨j=4∨j=5∨j=6∨j=7∨j=8∨j=9∨j=10∨j=11∨j=12∨j=13∨j=14∨j=15∨j=16∨j=17∨j=18∨j=19∨j=20∨j=21∨j=22∨j=23:=by omega
   have hd:=fun k h=>hd k (cm h)
   rcases hjN with rfl|rfl|rfl|rfl|rfl|rfl|rfl|rfl|rfl|rfl|rfl|rfl|rfl|rfl|rfl|rfl|rfl|rfl|rfl|rfl|rfl|rfl|rfl|rfl<;>refine wpOp_step (o:= _) rfl (fun K' hK=>?_)
   · go_simp;exact hK _ _ (qs _ rfl rfl)
   · have e0:v 0=.slice aa an ac:=hd 0 (by kernel_rfl);go_simp;exact hK _ _ (qs _ (jb (by simp [upd,e0])) rfl)
   · have e1:v 1=.int .i64 (an:Nat):=hd 1 (by kernel_rfl);go_simp;exact hK _ _ (qs _ (jb (by simp [upd,e1])) rfl)
   · have e2:v 2=.bool false:=hd 2 (by kernel_rfl);go_simp;exact hK _ _ (qs _ (jb (by simp [upd,e2])) rfl)
   iterate 2 (focus (have e3:v 3=.bool false:=hd 3 (by kernel_rfl);go_simp;exact hK _ _ (qs _ (jb (by simp [upd,e3])) rfl)))
   · have e3:v 3=.bool false:=hd 3 (by kernel_rfl);have e5:v 5=undef:=hd 5 (by kernel_rfl);go_simp;exact hK _ _ (qs _ (jb (by simp [upd,e3,e5])) rfl)
   · have e3:v 3=.bool false:=hd 3 (by kernel_rfl);have e6:v 6=undef:=hd 6 (by kernel_rfl);go_simp;exact hK _ _ (qs _ (jb (by simp [upd,e3,e6])) rfl)
   · have e3:v 3=.bool false:=hd 3 (by kernel_rfl);go_simp;exact hK _ _ (qs _ (jb (by simp [upd,e3])) rfl)
   · have e3:v 3=.bool false:=hd 3 (by kernel_rfl);have e8:v 8=undef:=hd 8 (by kernel_rfl);go_simp;exact hK _ _ (qs _ (jb (by simp [upd,e3,e8])) rfl)
   · have e3:v 3=.bool false:=hd 3 (by kernel_rfl);have e9:v 9=undef:=hd 9 (by kernel_rfl);go_simp;exact hK _ _ (qs _ (jb (by simp [upd,e3,e9])) rfl)
   · have e3:v 3=.bool false:=hd 3 (by kernel_rfl);have e4:v 4=undef:=hd 4 (by kernel_rfl);have e7:v 7=undef:=hd 7 (by kernel_rfl);have e10:v 10=undef:=hd 10 (by kernel_rfl);go_simp;exact hK _ _ (qs _ (jb (by simp [upd,e3,e4,e7,e10])) rfl)
   · have e3:v 3=.bool false:=hd 3 (by kernel_rfl);have e11:v 11=undef:=hd 11 (by kernel_rfl);go_simp;exact hK _ _ (qs _ (jb (by simp [upd,e3,e11])) rfl)
   · have e12:v 12=.bool false:=hd 12 (by kernel_rfl);go_simp;exact hK _ _ (qs _ (jb (by simp [upd,e12])) rfl)
   iterate 2 (focus (have e13:v 13=.bool false:=hd 13 (by kernel_rfl);go_simp;exact hK _ _ (qs _ (jb (by simp [upd,e13])) rfl)))
   · have e13:v 13=.bool false:=hd 13 (by kernel_rfl);have e15:v 15=undef:=hd 15 (by kernel_rfl);go_simp;exact hK _ _ (qs _ (jb (by simp [upd,e13,e15])) rfl)
   · have e13:v 13=.bool false:=hd 13 (by kernel_rfl);have e16:v 16=undef:=hd 16 (by kernel_rfl);go_simp;exact hK _ _ (qs _ (jb (by simp [upd,e13,e16])) rfl)
   · have e13:v 13=.bool false:=hd 13 (by kernel_rfl);go_simp;exact hK _ _ (qs _ (jb (by simp [upd,e13])) rfl)
   · have e13:v 13=.bool false:=hd 13 (by kernel_rfl);have e18:v 18=undef:=hd 18 (by kernel_rfl);go_simp;exact hK _ _ (qs _ (jb (by simp [upd,e13,e18])) rfl)
   · have e13:v 13=.bool false:=hd 13 (by kernel_rfl);have e19:v 19=undef:=hd 19 (by kernel_rfl);go_simp;exact hK _ _ (qs _ (jb (by simp [upd,e13,e19])) rfl)
   · have e13:v 13=.bool false:=hd 13 (by kernel_rfl);have e14:v 14=undef:=hd 14 (by kernel_rfl);have e17:v 17=undef:=hd 17 (by kernel_rfl);have e20:v 20=undef:=hd 20 (by kernel_rfl);go_simp;exact hK _ _ (qs _ (jb (by simp [upd,e13,e14,e17,e20])) rfl)
   · have e13:v 13=.bool false:=hd 13 (by kernel_rfl);have e21:v 21=undef:=hd 21 (by kernel_rfl);go_simp;exact hK _ _ (qs _ (jb (by simp [upd,e13,e21])) rfl)
   · have e22:v 22=.bool false:=hd 22 (by kernel_rfl);go_simp;exact hK _ _ (qs _ (jb (by simp [upd,e22])) rfl)
 · skip;have hq:=okv hv;have HBe:=lh hb;clear hv hdist hBx hb;refine wpAny_of_held (S:=fun _=>True) _ _ _ _ ?_;simp only [hq 0 (by decide),hq 1 (by decide),hq 2 (by decide),hq 3 (by decide),hq 4 (by decide),hq 5 (by decide),hq 6 (by decide),hq 7 (by decide),hq 8 (by decide),hq 9 (by decide),hq 10 (by decide),hq 11 (by decide),hq 12 (by decide),hq 13 (by decide),hq 14 (by decide),hq 15 (by decide),hq 16 (by decide),hq 17 (by decide),hq 18 (by decide),hq 19 (by decide),hq 20 (by decide),hq 21 (by decide),hq 22 (by decide),hq 23 (by decide),List.getD_cons_zero,List.getD_cons_succ];clear hq;refine wpAnyH_done (by kernel_rfl) ?_ _;go_wp2_with fail;go_ret;exact ⟨rfl,bth HH.out.bel HBe.out⟩
theorem jo1 (D:Opd→Opd→DatV) (b:Nat) (rel:Int) (aa:Option Addr) (an ac:Nat) (hn:an≠2) (g:Nat→Opd) (ka:Option Addr) (kn kc:Nat) (w:World):OwnTo D b 3 rel aa an ac g ka kn kc w:=by
 unfold OwnTo;rw [show ownB D 3 rel an g=false by unfold ownB;simp [hn]]
 have hni:((an:Int)==2)=false:=by rw [beq_eq_false_iff_ne];omega
 have HH:=lh (Hst.start w b 3 rel aa an ac ka kn kc);obtain ⟨W0,hW0⟩:∃ W0,(w.alloc (.cells #[dfn b] 64)).alloc (.cells #[.int .i64 3,.int .i64 rel,.slice aa an ac,.slice ka kn kc] 26)=W0:=⟨_,rfl⟩;rw [hW0] at HH;unfold dfn at hW0 ⊢;clear hn;go_enter Tryz.func27,Tryz.ntmps27
 go_upto_region 1 with (fail)
 try rw [hW0]
 clear hW0;obtain ⟨x0,x1,x2,x3⟩:=jx HH.out.x
 go_upto_region 8 with (fail)
 clear x0 x1 x2 x3
 refine jq (by kernel_rfl) 14 (fun v=>([.func (.func 46) #[] #[.pointer (some ⟨b,0,none⟩),.pointer (some ⟨b+1,0,none⟩),.pointer (some ⟨b+2,0,none⟩)],.agg #[.int .i64 3,.int .i64 rel,.slice aa an ac,.slice ka kn kc],.pointer (some ⟨w.heap.size,0,none⟩),.pointer (some ⟨w.heap.size+1,0,none⟩),v 13,.slice aa an ac,.pointer (some ⟨w.heap.size+1,2,none⟩),.slice aa an ac,.pointer (some ⟨w.heap.size+1,0,none⟩),.int .i64 3,.bool false,.bool false,undef,undef,undef,undef,undef,undef,undef,undef,undef,undef,undef,undef,undef,undef,undef,.bool false,.bool false,undef,undef,undef,undef,undef,undef,undef,undef,undef,undef,undef,undef,undef,undef,undef,undef,undef,undef,undef,undef,undef,undef,undef,.bool true,.bool true,v 0,v 1,v 2,v 3,v 4,v 5,v 6,v 7,v 8,v 9,v 10,v 11,v 12,undef,undef,undef,undef,undef,undef,undef,undef,undef,undef,undef,undef,undef,undef,undef,undef,undef,undef,undef,undef,undef,undef,undef,undef,undef,undef,undef,undef,undef]:List Value).toArray) (fun k=>if k=13 then .bool false else undef) (fun _=>none) (fun j=>[.slice aa an ac,.int .i64 (an:Nat),.bool false,.bool false,undef,undef,undef,undef,undef,undef,undef,undef,.bool false,.bool false].getD j undef) (fun w'=>Below W0.heap.size W0 w')
  (Nat.le_of_ble_eq_true (by kernel_rfl)) (by kernel_rfl) (fun _ _ h hb=>bth h hb) (Below.refl _ _) (fun j hj v w1 hBx hsz hd=>?_) (fun v w1 hv hdist hBx hb=>?_)
 · have hBw:=bth HH.out.bel hBx
   have hjN:j=0∨j=1∨j=2∨j=3∨j=4∨j=5∨j=6∨j=7∨j=8∨j=9∨j=10∨j=11∨j=12∨j=13:=by omega
   have hd:=fun k h=>hd k (cm h)
   rcases hjN with rfl|rfl|rfl|rfl|rfl|rfl|rfl|rfl|rfl|rfl|rfl|rfl|rfl|rfl<;>refine wpOp_step (o:= _) rfl (fun K' hK=>?_)
   · go_simp;exact hK _ _ (qs _ rfl rfl)
   · have e0:v 0=.slice aa an ac:=hd 0 (by kernel_rfl);go_simp;exact hK _ _ (qs _ (jb (by simp [upd,e0])) rfl)
   · have e1:v 1=.int .i64 (an:Nat):=hd 1 (by kernel_rfl);go_simp;exact hK _ _ (qs _ (jb (by simp [upd,e1])) rfl)
   · have e2:v 2=.bool false:=hd 2 (by kernel_rfl);go_simp;exact hK _ _ (qs _ (jb (by simp [upd,e2])) rfl)
   iterate 2 (focus (have e3:v 3=.bool false:=hd 3 (by kernel_rfl);go_simp;exact hK _ _ (qs _ (jb (by simp [upd,e3])) rfl)))
   · have e3:v 3=.bool false:=hd 3 (by kernel_rfl);have e5:v 5=undef:=hd 5 (by kernel_rfl);go_simp;exact hK _ _ (qs _ (jb (by simp [upd,e3,e5])) rfl)
   · have e3:v 3=.bool false:=hd 3 (by kernel_rfl);have e6:v 6=undef:=hd 6 (by kernel_rfl);go_simp;exact hK _ _ (qs _ (jb (by simp [upd,e3,e6])) rfl)
   · have e3:v 3=.bool false:=hd 3 (by kernel_rfl);go_simp;exact hK _ _ (qs _ (jb (by simp [upd,e3])) rfl)
   · have e3:v 3=.bool false:=hd 3 (by kernel_rfl);have e8:v 8=undef:=hd 8 (by kernel_rfl);go_simp;exact hK _ _ (qs _ (jb (by simp [upd,e3,e8])) rfl)
   · have e3:v 3=.bool false:=hd 3 (by kernel_rfl);have e9:v 9=undef:=hd 9 (by kernel_rfl);go_simp;exact hK _ _ (qs _ (jb (by simp [upd,e3,e9])) rfl)
   · have e3:v 3=.bool false:=hd 3 (by kernel_rfl);have e4:v 4=undef:=hd 4 (by kernel_rfl);have e7:v 7=undef:=hd 7 (by kernel_rfl);have e10:v 10=undef:=hd 10 (by kernel_rfl);go_simp;exact hK _ _ (qs _ (jb (by simp [upd,e3,e4,e7,e10])) rfl)
   · have e3:v 3=.bool false:=hd 3 (by kernel_rfl);have e11:v 11=undef:=hd 11 (by kernel_rfl);go_simp;exact hK _ _ (qs _ (jb (by simp [upd,e3,e11])) rfl)
   · have e12:v 12=.bool false:=hd 12 (by kernel_rfl);go_simp;exact hK _ _ (qs _ (jb (by simp [upd,e12])) rfl)
 · skip;have hq:=okv hv;have HBe:=lh hb;clear hv hdist hBx hb;refine wpAny_of_held (S:=fun _=>True) _ _ _ _ ?_;simp only [hq 0 (by decide),hq 1 (by decide),hq 2 (by decide),hq 3 (by decide),hq 4 (by decide),hq 5 (by decide),hq 6 (by decide),hq 7 (by decide),hq 8 (by decide),hq 9 (by decide),hq 10 (by decide),hq 11 (by decide),hq 12 (by decide),hq 13 (by decide),List.getD_cons_zero,List.getD_cons_succ];clear hq;refine wpAnyH_done (by kernel_rfl) ?_ _;go_wp2_with fail;go_ret;exact ⟨rfl,bth HH.out.bel HBe.out⟩
theorem jrw (D:Opd→Opd→DatV) (b:Nat) (op rel:Int) (h1:op≠1) (h2:op≠2) (h3:op≠3) (h4:op≠4) (h5:op≠5) (h6:op≠6) (aa:Option Addr) (an ac:Nat) (g:Nat→Opd) (ka:Option Addr) (kn kc:Nat) (w:World):OwnTo D b op rel aa an ac g ka kn kc w:=by
 unfold OwnTo;rw [show ownB D op rel an g=false by unfold ownB;rw [if_neg h1,if_neg h2,if_neg h3]]
 have k1:(op==1)=false:=by rw [beq_eq_false_iff_ne];exact h1
 have k2:(op==2)=false:=by rw [beq_eq_false_iff_ne];exact h2
 have k3:(op==3)=false:=by rw [beq_eq_false_iff_ne];exact h3
 have k4:(op==4)=false:=by rw [beq_eq_false_iff_ne];exact h4
 have k5:(op==5)=false:=by rw [beq_eq_false_iff_ne];exact h5
 have k6:(op==6)=false:=by rw [beq_eq_false_iff_ne];exact h6
 have HH:=lh (Hst.start w b op rel aa an ac ka kn kc);obtain ⟨W0,hW0⟩:∃ W0,(w.alloc (.cells #[dfn b] 64)).alloc (.cells #[.int .i64 op,.int .i64 rel,.slice aa an ac,.slice ka kn kc] 26)=W0:=⟨_,rfl⟩;rw [hW0] at HH;unfold dfn at hW0 ⊢;clear h1 h2 h3 h4 h5 h6;go_enter Tryz.func27,Tryz.ntmps27
 go_upto_region 1 with (fail)
 try rw [hW0]
 clear hW0;obtain ⟨x0,x1,x2,x3⟩:=jx HH.out.x;go_wp2;go_ret;exact ⟨rfl,HH.out.bel⟩
theorem jgy (L:Nat→Pa.TypeV) (al:Option Addr) (len cap:Nat) (hlen:len≤1000000) (hcap:len≤cap) (t:Int) (S:Nat→Prop) (V:Pa.VT) (hV:smV V) (b:Nat) (op rel:Int) (h4:op≠4) (h5:op≠5) (h6:op≠6) (aa:Option Addr) (an ac:Nat) (g:Nat→Opd) (S':Nat→Prop) (hg:∀ i,i<an→OpX (g i)∧(g i).text.size≤1000000) (ka:Option Addr) (kn kc:Nat) (w:World) (h:DAt w b L al len cap t S V) (ha:∀ i,i<an→CellsAt w S' aa i (opdC (g i))):OwnTo (truD L len t V) b op rel aa an ac g ka kn kc w:=by
 by_cases h1:op=1
 · subst h1
   by_cases hn:an=2
   · subst hn;obtain ⟨ab,ao,rfl,ho⟩:=ja9 (by omega) ha;exact jsj L al len cap hlen hcap t S V hV b rel ab ao ac g hg ka kn kc w h ho
   · exact jsg _ b rel aa an ac hn g ka kn kc w
 · by_cases h2:op=2
   · subst h2
     by_cases hn:an=3
     · subst hn;obtain ⟨ab,ao,rfl,ho⟩:=ja9 (by omega) ha;exact jrs L al len cap hlen hcap t S V hV b rel ab ao ac g hg ka kn kc w h ho
     · exact jov _ b rel aa an ac hn g ka kn kc w
   · by_cases h3:op=3
     · subst h3
       by_cases hn:an=2
       · subst hn;obtain ⟨ab,ao,rfl,ho⟩:=ja9 (by omega) ha;exact jr4 L al len cap hlen hcap t S V hV b rel ab ao ac g hg ka kn kc w h ho
       · exact jo1 _ b rel aa an ac hn g ka kn kc w
     · exact jrw _ b op rel h1 h2 h3 h4 h5 h6 aa an ac g ka kn kc w
end Go.Proofs.YthcompcjphaahaaGreatDoor
