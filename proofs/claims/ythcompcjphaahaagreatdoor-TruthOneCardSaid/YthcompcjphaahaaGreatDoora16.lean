/- Lists of types, as the arguments hold them. -/
import Derived.BigQuiet
import Derived.Test.YthcompcjphaahaaGreatDoora00
import Derived.Test.YthcompcjphaahaaGreatDoora04
namespace Go.Proofs.YthcompcjphaahaaGreatDoor.Pa
open Go.ChangeShapes Go.WideShapes Go.ChangeAt Go.RowKit
set_option linter.unusedVariables false
structure ItemV where
 name:ByteArray
 num:Int
 type:Int
 key:Bool
 rest:Bool
instance:Inhabited ItemV:=⟨⟨⟨#[]⟩,0,0,false,false⟩⟩
structure TypeV where
 kind:Int
 name:ByteArray
 bound:Int
 of:Int
 tag:Int
 ia:Option Addr
 ilen:Nat
 icap:Nat
 items:Nat→ItemV
instance:Inhabited TypeV:=⟨⟨0,⟨#[]⟩,0,0,0,none,0,0,default⟩⟩
def typV (T:TypeV):Value:=.agg #[.int .i64 T.kind,.string T.name,.int .i64 T.bound,.int .i64 T.of,.int .i64 T.tag,.slice T.ia T.ilen T.icap]
def itmV (x:ItemV):Value:=.agg #[.string x.name,.int .u64 x.num,.int .i64 x.type,.bool x.key,.bool x.rest]
def ItemWf (x:ItemV):Prop:=(Lit.int .u64 x.num).wf=true∧(Lit.int .i64 x.type).wf=true∧x.name.size≤140737488351232
def ItemAt (w:World) (ao:Option Addr) (i:Nat) (x:ItemV):Prop:=
 ∃ b off,ao=some ⟨b,off,none⟩∧w.cell? ⟨b,off+i*5,none⟩=some (.string x.name)∧w.cell? ⟨b,off+i*5+1,none⟩=some (.int .u64 x.num)∧w.cell? ⟨b,off+i*5+2,none⟩=some (.int .i64 x.type)∧
   w.cell? ⟨b,off+i*5+3,none⟩=some (.bool x.key)∧w.cell? ⟨b,off+i*5+4,none⟩=some (.bool x.rest)∧ItemWf x
theorem keep6 {w w1:World} {a:Addr} {v:Value} (hb:Below w.heap.size w w1) (h:w.cell? a=some v):w1.cell? a=some v:=(hb.cell (World.block_lt_of_cell? w _ h)).trans h
theorem ItemAt.held {w w1:World} {ao:Option Addr} {i:Nat} {x:ItemV} (h:ItemAt w ao i x) (hb:Below w.heap.size w w1):ItemAt w1 ao i x:=by
 obtain ⟨b,off,e,h0,h1,h2,h3,h4,r⟩:=h
 exact ⟨b,off,e,keep6 hb h0,keep6 hb h1,keep6 hb h2,keep6 hb h3,keep6 hb h4,r⟩
def ItemsAt (w:World) (T:TypeV):Prop:=T.ilen≤3518437208780∧∀ j,j<T.ilen→ItemAt w T.ia j (T.items j)
theorem ItemsAt.held {w w1:World} {T:TypeV} (h:ItemsAt w T) (hb:Below w.heap.size w w1):ItemsAt w1 T:=⟨h.1,fun j hj=>(h.2 j hj).held hb⟩
def TypeWf (T:TypeV):Prop:=(Lit.int .i64 T.kind).wf=true∧(Lit.int .i64 T.bound).wf=true∧(Lit.int .i64 T.of).wf=true∧(Lit.int .i64 T.tag).wf=true∧T.name.size≤140737488351232
def TypeAt (w:World) (ao:Option Addr) (i:Nat) (T:TypeV):Prop:=
 ∃ b off,ao=some ⟨b,off,none⟩∧w.cell? ⟨b,off+i*6,none⟩=some (.int .i64 T.kind)∧w.cell? ⟨b,off+i*6+1,none⟩=some (.string T.name)∧w.cell? ⟨b,off+i*6+2,none⟩=some (.int .i64 T.bound)∧w.cell? ⟨b,off+i*6+3,none⟩=some (.int .i64 T.of)∧
   w.cell? ⟨b,off+i*6+4,none⟩=some (.int .i64 T.tag)∧w.cell? ⟨b,off+i*6+5,none⟩=some (.slice T.ia T.ilen T.icap)∧TypeWf T∧ItemsAt w T
theorem TypeAt.held {w w1:World} {ao:Option Addr} {i:Nat} {T:TypeV} (h:TypeAt w ao i T) (hb:Below w.heap.size w w1):TypeAt w1 ao i T:=by
 obtain ⟨b,off,e,h0,h1,h2,h3,h4,h5,r,hi⟩:=h
 exact ⟨b,off,e,keep6 hb h0,keep6 hb h1,keep6 hb h2,keep6 hb h3,keep6 hb h4,keep6 hb h5,r,hi.held hb⟩
end Go.Proofs.YthcompcjphaahaaGreatDoor.Pa
namespace Go.Proofs.YthcompcjphaahaaGreatDoor.Pa
open Go.RowKit
set_option linter.unusedVariables false
def namedK (k:Int):Bool:=k==9||k==13||k==14
theorem ret_i {k:IntKind} {a b:Int} (h:a=b):Ending.returned (.int k a)=.returned (.int k b):=by rw [h]
def inL (len:Nat) (t:Int):Bool:=decide (0≤t)&&decide (t<len)
def itemZ (T:TypeV) (s:ByteArray):Int:=if namedK T.kind then firstZ (fun j=>(T.items j).name.toList==s.toList) T.ilen else -1
def itemL (L:Nat→TypeV) (len:Nat) (t:Int) (s:ByteArray):Int:=if inL len t then itemZ (L t.toNat) s else -1
def valueZ (T:TypeV) (n:Int):Int:=if T.kind=9 then firstZ (fun j=>(T.items j).num==n) T.ilen else -1
def valueL (L:Nat→TypeV) (len:Nat) (t n:Int):Int:=if inL len t then valueZ (L t.toNat) n else -1
def tagB (T:TypeV) (n:Int) (j:Nat):Bool:=!(T.items j).rest&&((T.items j).num==n)
def branchZ (T:TypeV) (n:Int):Int:=if T.kind=14 then (if firstN (tagB T n) T.ilen<T.ilen then (firstN (tagB T n) T.ilen:Nat) else firstZ (fun j=>(T.items j).rest) T.ilen) else -1
def branchL (L:Nat→TypeV) (len:Nat) (t n:Int):Int:=if inL len t then branchZ (L t.toNat) n else -1
theorem inL_no {len:Nat} {t:Int} (h:¬(0≤t∧t<len)):inL len t=false:=by unfold inL;simp;omega
theorem inL_yes {len:Nat} {k:Nat} (h:k<len):inL len (k:Nat)=true:=by unfold inL;simp;exact h
end Go.Proofs.YthcompcjphaahaaGreatDoor.Pa
namespace Go.Proofs.YthcompcjphaahaaGreatDoor.Pa
open Go.RowKit
set_option linter.unusedVariables false
end Go.Proofs.YthcompcjphaahaaGreatDoor.Pa
