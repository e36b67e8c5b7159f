import Derived.Below
import Derived.Deep.AppendLies
import Derived.Deep.MidRow
import Derived.Deep.Slices
import Derived.Laws.AppendOwn
import Derived.Laws.Rows
import Derived.RowKit
import Derived.Test.YtojgilcdgccojaaGreatDoorRows
namespace Go.RowKit
theorem Hid.o {p:Prop}(h:Hid p):p:=h
end Go.RowKit
namespace Go.Proofs.YtojgilcdgccojaaGreatDoor
open Go.RowKit
set_option linter.defProp false
def Ab:= @And.intro
def Al:= @List.mem_cons
def Az:= @List.getElem?_eq_getElem
def Ak:= @Nat.le_refl
def Ah:= @Below.refl
def As:= @List.mem_append
def Bg:= @List.mem_append_right
def Bb:= @List.length_append
def Bl:= @List.mem_append_left
def Bf:= @Option.mem_toList
def Cz:= @List.setIfInBounds_toArray
def Ds:= @List.getElem?_eq_some_iff
def Ea:= @List.getD_eq_getElem?_getD
def Co:= @List.set_cons_zero
def Dc:= @List.pairwise_append
def Du:= @List.take_of_length_le
def Cw:= @List.append_assoc
def Dg:= @List.set_cons_succ
def Cq:= @List.not_mem_nil
def Da:= @List.flatMap_cons
def Er:= @List.pairwise_cons
def Eu:= @Nat.lt_of_lt_of_le
def Db:= @List.map_cons
def If:= @List.getElem?_append_right
def Cu:= @Nat.zero_le
def Gh:= @List.flatMap_append
def Lr:= @List.take_succ_eq_append_getElem
def Ja:= @List.getElem?_append_left
def Fq:= @List.getElem?_map
def Fh:= @List.length_cons
def Dq:= @Nat.zero_add
def Ig:= @Option.map_eq_some_iff
def Ff:= @List.append_nil
def Fr:= @List.length_take
def Io:= @List.drop_of_length_le
def Fi:= @List.length_map
def Hs:= @List.mem_of_getElem?
def Kh:= @List.drop_eq_getElem_cons
def Jb:= @List.take_append_drop
def Jc:= @List.mem_singleton
def Ls:= @List.length_eq_zero_iff
def Ml:= @List.getElem?_take_of_lt
def Oo:= @List.drop_append_of_le_length
def Ht:= @List.length_set
def Hu:= @List.nil_append
def Ip:= @Option.bind_some
def Lu:= @List.set_append_right
def Oq:= @World.rangeAt_setCells_same
def Lv:= @World.cell?_of_block
def Hb:= @Nat.le_trans
def Nb:= @List.mem_cons_of_mem
def Nc:= @List.mem_of_mem_take
def Sj:= @List.take_append_of_le_length
def Hv:= @Nat.lt_or_ge
def Ot:= @Array.getElem?_eq_none
def Gs:= @Nat.mod_lt
def Nf:= @Below.heap_setCell
def Ng:= @Bool.false_eq_true
def Ki:= @UInt8.toNat_lt
def Jy:= @List.sum_cons
def Mn:= @Below.heap_alloc
def Lw:= @List.map_append
def Nv:= @List.take_add_one
def Ou:= @Nat.xor_lt_two_pow
def Qr:= @UInt8.lt_iff_toNat_lt
def Pn:= @List.length_pos_iff
def Kj:= @List.mem_map
def Nw:= @List.length_drop
def Qs:= @List.mem_of_mem_drop
def Sk:= @List.getElem?_eq_none
def Lc:= @List.map_nil
def Qt:= @World.news_of_block
def Qu:= @List.mem_cons_self
def Tu:= @List.length_replicate
def Ov:= @List.length_nil
def Tv:= @List.length_filter_le
def Tw:= @Nat.mul_le_mul_right
def Sm:= @List.getElem?_drop
def Qv:= @List.cons_append
def Qw:= @Bool.and_eq_true
def Sn:= @World.ownsRow_nil
def Vw:= @World.cell?_setCells_in
def Xt:= @List.exists_cons_of_ne_nil
def Uu:= @World.cell?_alloc_lt
def Qx:= @Bool.not_false
def So:= @List.foldl_cons
def Sp:= @Option.map_some
def Ss:= @Nat.min_eq_left
def Po:= @Nat.sub_self
def Aae:= @Array.toList_setIfInBounds
def Pp:= @Nat.add_zero
def Aaf:= @List.takeWhile_cons_of_neg
def Qy:= @Bool.not_true
def Pq:= @List.map_map
def Xu:= @List.drop_eq_nil_of_le
def Uv:= @List.size_toArray
def Xv:= @World.cell?_alloc_at
def Aag:= @Nat.div_div_eq_div_mul
def Ab5:= @List.takeWhile_cons_of_pos
def Vy:= @List.ext_getElem
def Vz:= @List.mem_flatMap
def Wa:= @List.map_toArray
def Aah:= @List.getElem?_toArray
def Xw:= @List.filter_append
def Xx:= @Nat.lt_or_eq_of_le
def Aes:= @List.takeWhile_append_dropWhile
def Xy:= @Nat.le_of_lt_succ
def Uw:= @List.map_take
def Ab6:= @List.getElem?_replicate
def Ab7:= @List.getElem?_cons_succ
def Ab8:= @World.block_lt_of_cell?
def Ab9:= @List.filter_cons_of_pos
def Aai:= @List.replicate_succ
def Aaj:= @List.map_congr_left
def Xz:= @Nat.mod_eq_of_lt
def Wb:= @List.take_zero
def Wc:= @List.drop_drop
def Ya:= @List.all_eq_true
def Yb:= @List.take_length
theorem crw {w:World}{g j:Nat}{cs:Array Value}{t:TypeId}{fr:Nat×Nat}{v:Value}(h:w.heap[g]?=some (.cells cs t fr))(e:cs[j]?=some v):w.cell? ⟨g,j,none⟩=some v:=(cell_of_row w g j cs t fr h).trans e
abbrev By:=List UInt8
abbrev Cl (f:FuncId)(a:Array Value)(w:World)(Q:Ending→World→Prop):Prop:=Calls Tryz.prog f a w Q
abbrev Bw (w v:World):Prop:=Below w.heap.size w v
theorem nmd {α:Sort _}(a:α):∃b,a=b:=⟨a,rfl⟩
end Go.Proofs.YtojgilcdgccojaaGreatDoor
