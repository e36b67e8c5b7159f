import Derived.BigQuiet
import Derived.Deep.OwnRows
import Derived.Deep.QuietTactic
import Derived.Laws.BytesArg
import Derived.Test.YtojgilcdgccojaaGreatDoorRows
import Derived.WalkKit
import Derived.WalkLawsBesides
import Derived.WalkSpells
import Derived.Deep.AppendLies
import Derived.Test.YtojgilcdgccojaaGreatDoorAl
import Derived.Test.YtojgilcdgccojaaGreatDoorMAb
import Derived.Test.YtojgilcdgccojaaGreatDoorMAc
set_option linter.unusedSimpArgs false
set_option maxRecDepth 100000
set_option maxHeartbeats 8000000
namespace Go.Proofs.YtojgilcdgccojaaGreatDoor
open Go.RowKit
theorem Akr:(Tryz.prog.info? 3).map (fun i=>(i.zero,i.size,i.bytes))=some (some (.int .i64 0),1,8):=by kernel_rfl
def Bo (w:World)(b:Nat)(t:TypeId)(k:IntKind)(xs:List Nat):Prop:=w.rowIs b t xs.length (fun i=>.int k ((xs.getD i 0:Nat):Int))
theorem Bo.lt {w:World}{b:Nat}{t:TypeId}{k:IntKind}{xs:List Nat}(h:Bo w b t k xs):b<w.heap.size:=World.rowIs.lt h
theorem Bo.cell {w:World}{b:Nat}{t:TypeId}{k:IntKind}{xs:List Nat}(h:Bo w b t k xs){i:Nat}(a:i<xs.length):w.cell? ⟨b,i,none⟩=some (.int k ((xs.getD i 0:Nat):Int)):=World.rowIs.cell h a
theorem Bo.frozen {w:World}{b:Nat}{t:TypeId}{k:IntKind}{xs:List Nat}(h:Bo w b t k xs)(i:Nat):w.frozen? ⟨b,i,none⟩=false:=World.rowIs.frozen h i
theorem Bo.of_block {w w':World}{b:Nat}{t:TypeId}{k:IntKind}{xs:List Nat}(h:Bo w b t k xs)(e:w'.heap[b]?=w.heap[b]?):Bo w' b t k xs:=World.rowIs.of_block h e
theorem Bo.below {w w':World}{b B:Nat}{t:TypeId}{k:IntKind}{xs:List Nat}(h:Bo w b t k xs)(hb:Below B w w')(a:b<B):Bo w' b t k xs:=h.of_block (hb.block b a)
theorem Bo.alloc {w:World}{b:Nat}{t:TypeId}{k:IntKind}{xs:List Nat}(h:Bo w b t k xs)(a:Obj):Bo (w.alloc a) b t k xs:=World.rowIs.alloc h a
theorem Bo.drew {w:World}{b:Nat}{t:TypeId}{k:IntKind}{xs:List Nat}(h:Bo w b t k xs):Bo w.drew b t k xs:=h
theorem Bo.drewN {w:World}{b:Nat}{t:TypeId}{k:IntKind}{xs:List Nat}(h:Bo w b t k xs)(n:Nat):Bo (w.drewN n) b t k xs:=h
theorem Bo.set {w:World}{b:Nat}{t:TypeId}{k:IntKind}{xs:List Nat}(h:Bo w b t k xs)(i a:Nat):Bo (w.setCell ⟨b,i,none⟩ (.int k (a:Int))) b t k (xs.set i a):=by
 have h2:=World.rowIs.set h i (.int k (a:Int));unfold Bo;rw[Ht];refine h2.congr fun j c=>?_;by_cases e:j=i
 ·subst e;simp[c]
 ·simp[e,Ne.symm e]
theorem Bo.setOther {w:World}{b:Nat}{t:TypeId}{k:IntKind}{xs:List Nat}(h:Bo w b t k xs){a:Addr}(ha:b≠a.block)(v:Value):Bo (w.setCell a v) b t k xs:=World.rowIs.setOther h ha v
theorem Bo.made (w:World)(t:TypeId)(k:IntKind)(n:Nat):Bo (w.alloc (.cells (madeCells #[.int k 0] n) t)) w.heap.size t k (List.replicate n 0):=by have h:=World.rowIs_made w (.int k 0) n t;unfold Bo;rw[Tu];refine h.congr fun j a=>?_;simp[a]
theorem Bo.new (w:World)(t:TypeId)(k:IntKind)(xs:List Nat)(c:Array Value)(a:c.size=xs.length)(b:∀i,i<xs.length->c[i]?=some (.int k ((xs.getD i 0:Nat):Int))):Bo (w.alloc (.cells c t)) w.heap.size t k xs:=by have h:=World.rowIs_alloc w c t (fun i=>.int k ((xs.getD i 0:Nat):Int)) (fun i d=>b i (by omega));unfold Bo;rw[<-a];exact h
theorem Xo (x a:By)(h:x.length+a.length<=9223372036854775807)(w:World):(Op.stringOp .add ⟨x.toArray⟩ ⟨a.toArray⟩).run Tryz.prog w=.ok (.string ⟨(x++a).toArray⟩) w:=by rw[run_string_add_sum w _ _ (by simpa [ByteArray.size]using h),ByteArray.mk_append_mk]
theorem Qh {w:World}{b cap:Nat}{xs:List Nat}{t:TypeId}(h:Bo w b t .u8 xs):(convert 54 9 (.slice (some ⟨b,0,none⟩) xs.length cap)).run Tryz.prog w=.ok (.string ⟨(xs.map UInt8.ofNat).toArray⟩) w:=by
 have:=run_convert_bytes_arg (P:=Tryz.prog) w 54 5 Tryz.underlying54 Tryz.underlying5 b 0 xs.length cap (xs.map fun n:Nat=>(n:Int)) (by simp) (fun i a=>by
  rw[Dq,h.cell a]
  simp[Az a]) 9 Tryz.underlying9
 rw[this];simp[strOfNums,Function.comp_def]
theorem Bp {B:Nat}{a w:World}(h:Below B a w)(n:Nat):Below B a (w.drewN n):=⟨h.os,h.tape,h.output,h.size,h.block⟩
theorem Aa {p:Prop}(h:p):Hid p:=h
def Aj (k:IntKind)(xs:List Nat):List Value:=xs.map fun n:Nat=>.int k (n:Int)
theorem Cx {w:World}{b:Nat}{c:Array Value}{t:TypeId}(h:w.heap[b]?=some (.cells c t (0,0)))(j:Nat)(v:Value):(w.setCell ⟨b,j,none⟩ v).heap[b]?=some (.cells (c.setIfInBounds j v) t (0,0)):=by simp[World.setCell,Array.getElem?_modify,h]
theorem As1 {w w':World}(h:Bw w w')(v:Value)(a:v.ownBlock=none):w.grownBy w' v.ownBlock:=by rw[a];exact⟨h.os,h.tape,h.output,h.size,fun k hk _=>h.block k hk⟩
theorem Ac8 {w w':World}{base:Nat}{e:TypeId}{v:Value}{n:Nat}{xs:List Value}(h:w.ownsRow base e 1 v n xs)(hb:Bw w w'):w'.ownsRow base e 1 v n xs:=by
 refine h.kept (As1 hb (.slice none 0 0) rfl) ?_
 cases a:v.ownBlock with
 |none=>exact .inl rfl
 |some g=>exact .inr (by simp[Value.ownBlock])
end Go.Proofs.YtojgilcdgccojaaGreatDoor
