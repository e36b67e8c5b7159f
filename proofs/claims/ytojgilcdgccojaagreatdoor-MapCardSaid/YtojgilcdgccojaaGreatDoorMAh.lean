import Derived.Deep.RegionHeld3
import Derived.Deep.WholeRow
import Derived.Lib.BufferWrite
import Derived.Test.YtojgilcdgccojaaGreatDoorAl
import Derived.Test.YtojgilcdgccojaaGreatDoorMAe
import Derived.Test.YtojgilcdgccojaaGreatDoorMAb
set_option linter.unusedSimpArgs false
set_option maxRecDepth 100000
set_option maxHeartbeats 8000000
namespace Go.Proofs.YtojgilcdgccojaaGreatDoor
open Go.RowKit
section
variable {P:Program}{ops:Array Oper}{Q:Exit->Act->World->Prop}{S:World->Prop}{md:Region.Mode}{fuel:Nat}{listed:Array Bool}{a:Act}{w:World}{i:Nat}{op:Oper}{rs:List Nat}
theorem We (k:ops[i]?=some op)(hw:Region.wanted op (yielded ops a.tmps)=true)(c:TypeId)(x:Operand)(m:op.op=.load c x)
  (b e:Nat) (n:a.eval x=.pointer (some ⟨b,e,none⟩)) (cs:List Value) (d:TypeDesc) (l:w.rangeAt b e cs)
  (p:P.underlying c=some d) (hd:d.isRow=true) (g:(P.info? c).map (·.size)=some cs.length) (f:S w)
  (h:wpAnyH P md ops Q S fuel (listed.setIfInBounds i true) (a.put op.dst (.agg cs.toArray)) w) (j:AllReadyH P md ops Q S fuel listed a w rs):AllReadyH P md ops Q S fuel listed a w (i::rs):=
 AllReadyH.cons k (fun K' o=>by rw[if_pos hw];exact wp_load_mid c x m b e n cs d l p hd g (o.out _ _ f (fun _=>h))) j
theorem Xq (l:ops[i]?=some op)(hw:Region.wanted op (yielded ops a.tmps)=true)(e:TypeId)(x d:Operand)(m:op.op=.store e x d)
  (b c:Nat) (cells:Array Value) (n:a.eval x=.pointer (some ⟨b,c,none⟩)) (hy:a.eval d=.agg cells)
  (k:w.there b c cells.size) (g:(P.info? e).map (·.size)=some cells.size) (h1:cells.all (·.oneCell')=true) (f:S (w.setCells b c cells.toList))
  (h:wpAnyH P md ops Q S fuel (listed.setIfInBounds i true) (a.put op.dst undef) (w.setCells b c cells.toList)) (j:AllReadyH P md ops Q S fuel listed a w rs):AllReadyH P md ops Q S fuel listed a w (i::rs):=
 AllReadyH.cons l (fun K' o=>by rw[if_pos hw];exact wp_store_mid e x d m b c cells n hy k g h1 (o.out _ _ f (fun _=>h))) j
theorem Jh (g:ops[i]?=some op)(hw:Region.wanted op (yielded ops a.tmps)=true)(f:FuncId)(c:Array Value)(hr:(execOp a.eval op).run P w=.ok (.enter f c) w)
  (j:Calls P f c w fun e b=>∃v,e=.returned v/\S b/\wpAnyH P md ops Q S fuel (listed.setIfInBounds i true) (a.put op.dst v) b) (d:AllReadyH P md ops Q S fuel listed a w rs):AllReadyH P md ops Q S fuel listed a w (i::rs):=
 AllReadyH.cons g (fun K' k=>by
  rw[if_pos hw];unfold Oper.wp;rw[hr,Oper.upon_enter];refine j.mono ?_;rintro e b ⟨v,rfl,l,h⟩
  exact k.out _ _ l (fun _=>h)) d
end
theorem Akx (w:World)(e h g c:TypeId)(d:Option Addr)(a f:Nat)(b:By)(l:Tryz.prog.underlying e=some (.slice c))(k:(Tryz.prog.info? c).map (·.size)=some 1)(m:a<=b.length):
  (Builtin.copy_ #[e,h] g #[.slice d a f,.string ⟨b.toArray⟩]).run Tryz.prog w=(Builtin.copy_ #[e,h] g #[.slice d a f,.string ⟨(b.take a).toArray⟩]).run Tryz.prog w:=by
 have h1:Nat.min (ByteArray.mk b.toArray).size a=a:=Nat.min_eq_right (by simpa [ByteArray.size]using m);have h2:Nat.min (ByteArray.mk (b.take a).toArray).size a=a:=Nat.min_eq_right (by simp[ByteArray.size];omega)
 cases j:Tryz.prog.info? c with
 |none=>simp[j]at k
 |some i=>
  cases d<;>simp[Builtin.copy_,run_underlying l,Builtin.lenOf,Builtin.firstCells,sizeOf,typeInfo,j,h1,h2,List.take_take]
theorem Aew (m n:Nat):(Aj .u8 (List.replicate m 0)).drop n=Aj .u8 (Ap (List.replicate (m-n) 0)):=by simp[Aj,Ap]
theorem Aeo (a:By)(m c:Nat)(w:World)(g f t:TypeId)(h:a.length<=c)(i:c<=m):
  (Builtin.copy_ #[54,g] f #[.slice (some ⟨w.heap.size,0,none⟩) c m,.string ⟨a.toArray⟩]).run Tryz.prog (w.alloc (.cells (Aj .u8 (List.replicate m 0)).toArray t))=
   .ok (goInt a.length) (w.alloc (.cells (Ae (a++List.replicate (m-a.length) 0)).toArray t)):=by
 obtain⟨n,d⟩:=nmd (a.length);rw[d]at h⊢;have b:(ByteArray.mk a.toArray).size=n:=by simpa [ByteArray.size]using d
 have:=Lib.run_copy_row_string (P:=Tryz.prog) (w.alloc (.cells (Aj .u8 (List.replicate m 0)).toArray t)) 54 g f 5 w.heap.size 0 c m ⟨a.toArray⟩ (Aj .u8 (List.replicate m 0)).toArray t Tryz.underlying54 (by kernel_rfl) (heap_alloc_new w _) (by omega) (by rw[b];simp[Aj];omega);rw[this,b,World.setRow_alloc_new];have e:=Aew m n
 have e2:Ae (a++List.replicate (m-n) 0)=Lib.byteCells a++Aj .u8 (Ap (List.replicate (m-n) 0)):=by simp[Aj,Ap,Ae,Lib.byteCells]
 rw[e2,<-e];simp only[Dq,Wb,Hu]
theorem Abx (a:By)(m:Nat)(w:World)(c b t:TypeId):
  (Builtin.copy_ #[54,c] b #[.slice (some ⟨w.heap.size,0,none⟩) m m,.string ⟨a.toArray⟩]).run Tryz.prog (w.alloc (.cells (Aj .u8 (List.replicate m 0)).toArray t))=
   .ok (goInt (a.take m).length) (w.alloc (.cells (Ae (Ar a m)).toArray t)):=by
 by_cases h:a.length<=m
 ·have e:a.take m=a:=Du h;unfold Ar;rw[Aeo a m m w c b t h (Ak _),e]
 ·have e0:m-a.length=0:=by omega
  have e1:m-(a.take m).length=0:=by simp;omega
  unfold Ar;rw[Akx _ _ _ _ 5 _ _ _ _ Tryz.underlying54 (by kernel_rfl) (by omega),Aeo (a.take m) m m w c b t (by simp;omega) (Ak _),e0,e1]
structure AM (w:World)(y h:Nat)(wr:World):Prop where
 hy:El wr w.heap.size y
 hh:El wr (w.heap.size+1) h
 hr:El wr (w.heap.size+1+1) 0
 bel:Bw w wr
theorem AM.start (w:World)(a h:Nat):AM w a h (((w.alloc (.cells (At a) 201)).alloc (.cells (At h) 201)).alloc (.cells #[.int .u64 0,.int .u64 0] 201)):=by refine⟨?_,Aac w _ _ _,Abi w _ _ _,Zn w _ _ _⟩;unfold El;rw[Mn _ _ _ (by simp;omega),Mn _ _ _ (by simp)];exact heap_alloc_new w _
theorem AM.lt {w:World}{a h:Nat}{wr:World}(m:AM w a h wr):w.heap.size+1+1<wr.heap.size:=m.hr.lt
theorem AM.below {w:World}{a h:Nat}{wr b:World}(m:AM w a h wr)(hb:Bw wr b):AM w a h b:=by have c:=m.lt;exact⟨m.hy.below hb (by omega),m.hh.below hb (by omega),m.hr.below hb c,m.bel.trans (hb.mono (by omega))⟩
theorem AM.setY {w:World}{a h:Nat}{wr:World}(m:AM w a h wr)(x:Nat):AM w x h (wr.setCells w.heap.size 0 (At x).toList):=
 ⟨m.hy.store x,m.hh.other _ (by omega),m.hr.other _ (by omega),m.bel.trans (Ec _ _ _ _ _ (Ak _))⟩
theorem Alx (p h:Nat)(t:By)(w:World)(hy:p<2^128)(hh:h<2^128)(a2:t.length<=5000):
  Cl 146 #[.agg (At p),.agg (At h),.string ⟨t.toArray⟩] w fun x w'=>x=.returned (.agg (At (Na h p (Ld t))))/\Bw w w':=by
 have a1:∀w,(zeroValue 203).run Tryz.prog w=.ok (.agg (Aj .u8 (List.replicate 16 0)).toArray) w:=fun _=>by kernel_rfl
 have an:=Abx;have aj:=AM.start w p h;have a4:(ByteArray.mk t.toArray).size=t.length:=by simp[ByteArray.size]
 have bd:(At p).size=2:=rfl;have a7:(At h).size=2:=rfl;obtain⟨n,ac⟩:=nmd (t.length);have bi:(n:Int)<=5000:=by omega
 rw[ac]at a4;have Q:=Aa ac;have F:=Aa (Ab hy hh);have ax:=Aa aj;have a9:=Aa an;clear ac aj hy hh a2 an;generalize a5:At p=A at*;generalize bc:At h=B at*;clear a5 bc;go_enter Tryz.func146,Tryz.ntmps146;go_wp2_with fail
 go_loopw [7] (fun i wr=>∃k z:Nat,16*k<n+16/\i=.int .i64 ((16*k:Nat):Int)/\z<2^128/\Na h p (Ld t)=Na h z (Ld (t.drop (16*k)))/\AM w z h wr) (fun i _=>(5017-intOf i).toNat)
 case atStart=>exact⟨0,p,by omega,rfl,F.o.1,rfl,ax.o⟩
 case round=>
  clear ax bd a7;obtain⟨k,z,hk,rfl,hz,E,hr⟩:=hrel;by_cases ae:16*k<n
  ·have aa:((16*k:Nat):Int)<(n:Int):=by omega
   have P:=Aa (Ab hk ae);obtain⟨m,D⟩:=nmd (16*k);rw[D]at aa E⊢;have C:=Aa D;have ad:=Aa E;have ah:=Aa hr;have M:=Aa hz;clear D E hr hk ae hz;have bk:m<=n:=by omega
   obtain⟨Z,K⟩:=nmd ((Aj .u8 (List.replicate 16 0)).toArray);rw[K]at a1
   have au:(ByteArray.mk t.toArray).extract m n=⟨(t.drop m).toArray⟩:=by rw[ByteArray.extract_mk,Du (by simp;have:=Q.o;omega)]
   have ag:∀X ai,(Builtin.copy_ #[54,X] ai #[.slice (some ⟨wr.heap.size,0,none⟩) 16 16,.string ⟨(t.drop m).toArray⟩]).run Tryz.prog (wr.alloc (.cells Z 203)).drew=.ok (goInt ((t.drop m).take 16).length) (wr.alloc (.cells (Ae (Ar (t.drop m) 16)).toArray 203)).drew:=fun X ai=>by rw[<-K];exact a9.o (t.drop m) 16 wr.drew X ai 203
   have bj:Z.size=16:=by rw[<-K];simp[Aj]
   have H:=Jm (t.drop m) 16
   have am:t.drop m≠[]:=by intro e;have:=congrArg List.length e;simp[Q.o]at this;omega
   have aw:Na h z (Ld (t.drop m))=Na h (Hk (z^^^Bh (Ar (t.drop m) 16)) h) (Ld (t.drop (m+16))):=by rw[A3a _ am,Wc];rfl
   have R:=Aa aw;clear aw am;obtain⟨a,W⟩:=nmd (Ar (t.drop m) 16);rw[W]at ag H R;have ba:=Aa W;have ao:(ByteArray.mk (t.drop m).toArray).size=n-m:=by simp[ByteArray.size,Q.o]
   generalize(((t.drop m).take 16).length)=q at*;obtain⟨T',af⟩:=nmd (t.drop m);rw[af]at ag au ao R ba;rw[af]at ad;have av:Bw wr (wr.alloc (.cells (Ae a).toArray 203)).drew:=((Ah _ _).alloc (Ak _) _).drew;have aq:(wr.alloc (.cells (Ae a).toArray 203)).drew.rangeAt wr.heap.size 0 (Ae a):=Xd (c:=(Ae a).toArray) (heap_alloc_new wr _);have ay:wr.heap.size<(wr.alloc (.cells (Ae a).toArray 203)).drew.heap.size:=by show _<(wr.alloc _).heap.size;simp
   have ar:=ah.o.below av;have ak:=Aa (Ab ar (Ab aq ay));have ap:=Aa ah.o.lt;clear W K af av ar aq ay ah;go_wp2_with fail
   go_region
   obtain⟨g,az⟩:=nmd (wr.heap.size);generalize a8:(wr.alloc (.cells (Ae a).toArray 203)).drew=w0 at*;rw[az]at ak ap⊢;clear ag au ao a8 az;go_wp2_with fail;obtain⟨T,a0,be⟩:=ak.o;have O:=Aa (Ah3 a H)
   have o:Hid (∀w':World,Below w0.drew.heap.size w0.drew w'->w'.rangeAt g 0 (Ae a)):=fun w' hb=>by intro j v ab;rw[Lv (w:=w0.drew) (hb.block g be)];exact a0 j v ab
   have L:Hid (∀w':World,w'.rangeAt g 0 (Ae a)->∀V,(w'.setCells w.heap.size 0 V).rangeAt g 0 (Ae a)):=fun w' hr V=>by intro j v ab;have:=ap.o;rw[Lv (w:=w') ((Np w.heap.size V 0 w').2.2.2.2 g (by omega))];exact hr j v ab
   have bg:=Ye a H;have N:AM w z h w0.drew:=⟨T.hy,T.hh,T.hr,T.bel.drew⟩;refine wp_region_held_drew (S:=fun w'=>w'.rangeAt (w.heap.size+1) 0 (At h).toList/\w'.rangeAt g 0 (Ae a)) (by kernel_rfl) ⟨N.hh.range,a0⟩ ?_;intro U;refine wpAnyH_take (i:=1) rfl (by kernel_rfl) (by kernel_rfl) (by kernel_rfl) (fun _ _ _ h=>h) (yieldsIf_load_mid (by kernel_rfl) 203 _ rfl g 0 (by kernel_rfl) (Ae a) _ (fun _ h=>h.2) Tryz.underlying203 rfl bg) U ?_;refine wpAnyH_take (i:=4) rfl (by kernel_rfl) (by kernel_rfl) (by kernel_rfl) (fun _ _ _ h=>h) (yieldsIf_load_mid (by kernel_rfl) 201 _ rfl (w.heap.size+1) 0 (by kernel_rfl) (At h).toList _ (fun _ h=>h.1) Tryz.underlying201 rfl (Il h)) U ?_;refine wpAnyH_ready (rs:=[0,2]) (by kernel_rfl) (by simp) ?_
   refine We rfl (by kernel_rfl) 201 _ rfl w.heap.size 0 (by kernel_rfl) (At z).toList _ N.hy.range Tryz.underlying201 rfl (Il z) U ?_
    (Jh rfl (by kernel_rfl) 144 #[.agg (Ae a).toArray] (by kernel_rfl) ((Xs a w0.drew H).mono ?_) AllReadyH.nil)
   ·refine wpAnyH_ready (rs:=[2]) (by kernel_rfl) (by simp) ?_;refine Jh rfl (by kernel_rfl) 144 #[.agg (Ae a).toArray] (by kernel_rfl) ((Xs a w0.drew H).mono ?_) AllReadyH.nil;rintro e w1 ⟨rfl,b⟩;have f:=N.below b;refine⟨_,rfl,⟨f.hh.range,o.o w1 b⟩,?_⟩;refine wpAnyH_ready (rs:=[3]) (by kernel_rfl) (by simp) ?_;refine Jh rfl (by kernel_rfl) 148 #[.agg (At z),.agg (At (Bh a))] (by kernel_rfl) ((Vf z (Bh a) w1 M.o O.o).mono ?_) AllReadyH.nil;rintro e w2 ⟨rfl,d⟩;have m2:=f.below d;have f2:=o.o w2 (b.trans (d.mono b.size));refine⟨_,rfl,⟨m2.hh.range,f2⟩,?_⟩;refine wpAnyH_ready (rs:=[5]) (by kernel_rfl) (by simp) ?_;have J:z^^^Bh a<2^128:=Ou M.o O.o;refine Jh rfl (by kernel_rfl) 147 #[.agg (At (z^^^Bh a)),.agg (At h)] (by kernel_rfl) ((Ah9 (z^^^Bh a) h w2 J F.o.2).mono ?_) AllReadyH.nil;rintro e s ⟨rfl,r⟩;have l:=m2.below r;have I:=(b.trans (d.mono b.size)).trans (r.mono (b.trans (d.mono b.size)).size);have u:=o.o s I;refine⟨_,rfl,⟨l.hh.range,u⟩,?_⟩;have y:=l.setY (Hk (z^^^Bh a) h);have G:=L.o s u (At (Hk (z^^^Bh a) h)).toList;refine wpAnyH_ready (rs:=[6]) (by kernel_rfl) (by simp) ?_;refine Xq rfl (by kernel_rfl) 201 _ _ rfl w.heap.size 0 (At (Hk (z^^^Bh a) h)) (by kernel_rfl) (by kernel_rfl) l.hy.there (Ms _) (Mg _) ⟨y.hh.range,G⟩ ?_ AllReadyH.nil;refine wpAnyH_done (by kernel_rfl) ?_ _;have Y:=Aa y;clear f m2 l y f2 u G d r b I J o L;generalize s.setCells w.heap.size 0 (At (Hk (z^^^Bh a) h)).toList=w4 at*;go_wp2_with fail
    go_roundw
    case rel=>exact⟨k+1,Hk (z^^^Bh a) h,by have:=P.o;omega,Pm (by have:=C.o;omega),Ac3 _ _ F.o.2,by rw[show 16*(k+1)=m+16 by have:=C.o;omega,<-R.o];exact ad.o,Y.o⟩
    case measure=>have:=C.o;have:=P.o;simp[intOf];omega
   ·rintro e w1 ⟨rfl,b⟩;have f:=N.below b;refine⟨_,rfl,⟨f.hh.range,o.o w1 b⟩,?_⟩;refine wpAnyH_ready (rs:=[0]) (by kernel_rfl) (by simp) ?_;refine We rfl (by kernel_rfl) 201 _ rfl w.heap.size 0 (by kernel_rfl) (At z).toList _ f.hy.range Tryz.underlying201 rfl (Il z) ⟨f.hh.range,o.o w1 b⟩ ?_ AllReadyH.nil;refine wpAnyH_ready (rs:=[3]) (by kernel_rfl) (by simp) ?_;refine Jh rfl (by kernel_rfl) 148 #[.agg (At z),.agg (At (Bh a))] (by kernel_rfl) ((Vf z (Bh a) w1 M.o O.o).mono ?_) AllReadyH.nil;rintro e w2 ⟨rfl,d⟩;have m2:=f.below d;have f2:=o.o w2 (b.trans (d.mono b.size));refine⟨_,rfl,⟨m2.hh.range,f2⟩,?_⟩;refine wpAnyH_ready (rs:=[5]) (by kernel_rfl) (by simp) ?_;have J:z^^^Bh a<2^128:=Ou M.o O.o;refine Jh rfl (by kernel_rfl) 147 #[.agg (At (z^^^Bh a)),.agg (At h)] (by kernel_rfl) ((Ah9 (z^^^Bh a) h w2 J F.o.2).mono ?_) AllReadyH.nil;rintro e s ⟨rfl,r⟩;have l:=m2.below r;have I:=(b.trans (d.mono b.size)).trans (r.mono (b.trans (d.mono b.size)).size);have u:=o.o s I;refine⟨_,rfl,⟨l.hh.range,u⟩,?_⟩;have y:=l.setY (Hk (z^^^Bh a) h);have G:=L.o s u (At (Hk (z^^^Bh a) h)).toList;refine wpAnyH_ready (rs:=[6]) (by kernel_rfl) (by simp) ?_;refine Xq rfl (by kernel_rfl) 201 _ _ rfl w.heap.size 0 (At (Hk (z^^^Bh a) h)) (by kernel_rfl) (by kernel_rfl) l.hy.there (Ms _) (Mg _) ⟨y.hh.range,G⟩ ?_ AllReadyH.nil;refine wpAnyH_done (by kernel_rfl) ?_ _;have Y:=Aa y;clear f m2 l y f2 u G d r b I J o L;generalize s.setCells w.heap.size 0 (At (Hk (z^^^Bh a) h)).toList=w4 at*;go_wp2_with fail
    go_roundw
    case rel=>exact⟨k+1,Hk (z^^^Bh a) h,by have:=P.o;omega,Pm (by have:=C.o;omega),Ac3 _ _ F.o.2,by rw[show 16*(k+1)=m+16 by have:=C.o;omega,<-R.o];exact ad.o,Y.o⟩
    case measure=>have:=C.o;have:=P.o;simp[intOf];omega
  ·have hd:t.drop (16*k)=[]:=Xu (by have:=Q.o;omega);rw[hd,Avh]at E;have al:Na h p (Ld t)=z:=E;have bf:=Aa hr.hy.range;have a6:=Aa hr.hr.there;have bh:Bw w (wr.setCells (w.heap.size+1+1) 0 (At z).toList):=hr.bel.trans (Ec _ _ _ _ _ (by omega));have a3:=hr.hr.store z;have aa:¬(((16*k:Nat):Int)<(n:Int)):=by omega
   have bb:=Aa al;obtain⟨m,D⟩:=nmd (16*k);rw[D]at aa⊢;clear hd E al hr ae hk D a1;go_wp2_with (first|refine wpList_load_mid rfl 201 _ rfl w.heap.size 0 rfl (At z).toList _ bf.o Tryz.underlying201 rfl (Il _) ?_|refine wpList_store_mid rfl 201 _ _ rfl (w.heap.size+1+1) 0 (At z) rfl rfl a6.o (Ms _) (Mg _) ?_);exact bodyPost_ret (Zv Tryz.results146 _ _ _ _ _ rfl a3) rfl ⟨by rw[bb.o];rfl,bh⟩
theorem Au3 (a:By)(w:World)(c b t:TypeId):
  (Builtin.copy_ #[54,c] b #[.slice (some ⟨w.heap.size,0,none⟩) 12 16,.string ⟨a.toArray⟩]).run Tryz.prog (w.alloc (.cells (Aj .u8 (List.replicate 16 0)).toArray t))=
   .ok (goInt (a.take 12).length) (w.alloc (.cells (Ae (Ar a 12++[0,0,0,0])).toArray t)):=by
 have d:([0,0,0,0]:By)=List.replicate 4 0:=rfl;by_cases h:a.length<=12
 ·have e:a.take 12=a:=Du h
  have e2:Ar a 12++[0,0,0,0]=a++List.replicate (16-a.length) 0:=by
   unfold Ar;rw[e,d,Cw,List.replicate_append_replicate]
   congr 2;omega
  rw[Aeo a 16 12 w c b t h (by decide),e,e2]
 ·have e2:Ar a 12++[0,0,0,0]=a.take 12++List.replicate (16-(a.take 12).length) 0:=by
   unfold Ar;have h0:12-a.length=0:=by omega
   have h1:16-(a.take 12).length=4:=by simp;omega
   rw[h0,h1,d];simp
  rw[Akx _ _ _ _ 5 _ _ _ _ Tryz.underlying54 (by kernel_rfl) (by omega),Aeo (a.take 12) 16 12 w c b t (by simp;omega) (by decide),e2]
theorem Avx (n:Nat):Af n 4=[UInt8.ofNat (n/16777216%256),UInt8.ofNat (n/65536%256),UInt8.ofNat (n/256%256),UInt8.ofNat (n%256)]:=by simp only[Af,Hu,Qv,Aag]
theorem Arn (a:By)(n:Nat)(g:a.length=12)(c b d e:Int)(h0:c=((n/16777216%256:Nat):Int))(h1:b=((n/65536%256:Nat):Int))(h2:d=((n/256%256:Nat):Int))(f:e=((n%256:Nat):Int)):
  ((((Ae (a++[0,0,0,0])).toArray.setIfInBounds 12 (.int .u8 c)).setIfInBounds 13 (.int .u8 b)).setIfInBounds 14 (.int .u8 d)).setIfInBounds 15 (.int .u8 e)=(Ae (a++Af n 4)).toArray:=by
 subst h0 h1 h2 f;rw[Avx]
 match a,g with
 | [_,_,_,_,_,_,_,_,_,_,_,_],_=>simp[Ae]
theorem Agm (a:By)(n:Nat)(w:World)(I:n<4294967296):
  Cl 149 #[.string ⟨a.toArray⟩,.int .u32 (n:Int)] w fun x w'=>x=.returned (.agg (Ae (Ar a 12++Af n 4)).toArray)/\Bw w w':=by
 have y:∀w,(zeroValue 203).run Tryz.prog w=.ok (.agg (Aj .u8 (List.replicate 16 0)).toArray) w:=fun _=>by kernel_rfl
 obtain⟨b,d⟩:=nmd ((Aj .u8 (List.replicate 16 0)).toArray)
 have J:∀i g,(Builtin.copy_ #[54,i] g #[.slice (some ⟨w.heap.size+1,0,none⟩) 12 16,.string ⟨a.toArray⟩]).run Tryz.prog ((w.alloc (.cells b 203)).alloc (.cells b 203))=.ok (goInt (a.take 12).length) ((w.alloc (.cells b 203)).alloc (.cells (Ae (Ar a 12++[0,0,0,0])).toArray 203)):=fun i g=>by have h:=Au3 a (w.alloc (.cells b 203)) i g 203;rw[d]at h;simpa using h
 rw[d]at y;have u:b.size=16:=by rw[<-d];simp[Aj]
 have G:(Ae (Ar a 12++[0,0,0,0])).toArray.size=16:=by simp[Ae,Jm]
 have p:=Arn (Ar a 12) n (Jm a 12) ((n:Int)/16777216) ((n:Int)/65536%256) ((n:Int)/256%256) ((n:Int)%256) (by omega) (by omega) (by omega) (by omega);have F:(n:Int)<4294967296:=by omega
 generalize(Ae (Ar a 12++[0,0,0,0])).toArray=C at*;have l:(Ar a 12++Af n 4).length=16:=by simp[Jm,Cb]
 generalize Ar a 12++Af n 4=A at*;have j:(Ae A).length=16:=by rw[Jo,l]
 have D:=Za A;generalize t:Ae A=V at*
 have q:((w.alloc (.cells b 203)).alloc (.cells ((((C.setIfInBounds 12 (.int .u8 ((n:Int)/16777216))).setIfInBounds 13 (.int .u8 ((n:Int)/65536%256))).setIfInBounds 14 (.int .u8 ((n:Int)/256%256))).setIfInBounds 15 (.int .u8 ((n:Int)%256))) 203)).rangeAt (w.heap.size+1) 0 V:=by rw[p];exact Xd (c:=V.toArray) (Aqr w _ _)
 have s:((w.alloc (.cells b 203)).alloc (.cells ((((C.setIfInBounds 12 (.int .u8 ((n:Int)/16777216))).setIfInBounds 13 (.int .u8 ((n:Int)/65536%256))).setIfInBounds 14 (.int .u8 ((n:Int)/256%256))).setIfInBounds 15 (.int .u8 ((n:Int)%256))) 203)).there w.heap.size 0 16:=by have h:=Iy w b 203;rw[u]at h;exact World.there_alloc h _
 have e:=Aa (show(Tryz.prog.info? 203).map (·.size)=some V.length from by rw[j];kernel_rfl);have m:=Aa j;have H:=Aa t;have o:=Aa q;have f:=Aa s;clear d p q s j t l;go_enter Tryz.func149,Tryz.ntmps149;go_wp2_with (refine wpList_load_mid rfl 203 _ rfl (w.heap.size+1) 0 rfl V _ ?hc Tryz.underlying203 rfl e.o ?_;rotate_left;refine Ow rfl 203 _ _ rfl w.heap.size 0 V.toArray rfl rfl ?ht (by simpa using e.o) (all_oneCell_toArray D) ?_)
 case hc=>exact o.o
 case ht=>simpa [m.o]using f.o
 intro r k
 have z:Bw w r:=by rw[k.o];exact(((Ah _ _).alloc (Ak _) _).alloc (by simp) _).trans (Ec _ _ _ _ _ (Ak _))
 have E:r.rangeAt w.heap.size 0 V:=by rw[k.o];exact Oq _ w.heap.size 0 V (by simpa [m.o]using f.o)
 clear k o f;go_wp2_with fail;exact bodyPost_ret (v:=.agg V.toArray) (Mf Tryz.results149 _ _ w.heap.size 0 V _ rfl E Tryz.underlying203 rfl e.o) rfl ⟨rfl,z⟩
theorem Ay5 (d x a:Nat):d|||(x^^^a)=0↔d=0/\x=a:=by
 constructor
 ·intro h
  have h1:d=0:=by apply Nat.eq_of_testBit_eq;intro i;have:=congrArg (fun n=>n.testBit i) h;simp[Nat.testBit_or]at this;simp[this.1]
  subst h1;refine⟨rfl,?_⟩;rw[Nat.zero_or]at h;have:=congrArg (· ^^^a) h;simpa [Nat.xor_assoc]using this
 ·rintro⟨rfl,rfl⟩;simp
theorem Atg (a b:By)(w:World)(ha:a.length=16)(hb:b.length=16):
  Cl 138 #[.string ⟨a.toArray⟩,.string ⟨b.toArray⟩] w fun x w'=>x=.returned (.bool (decide (a=b)))/\∃n,w'=w.drewN n:=by
 have u:(ByteArray.mk a.toArray).size=16:=by simp[ByteArray.size,ha]
 have y:(ByteArray.mk b.toArray).size=16:=by simp[ByteArray.size,hb]
 have j:=Aa (Ab ha hb);clear ha hb;go_enter Tryz.func138,Tryz.ntmps138;go_wp2_with fail
 go_loopw [5,6] (fun d i wr=>∃k dn m:Nat,k<=16/\i=.int .i64 (k:Int)/\d=.int .u8 (dn:Int)/\dn<256/\(dn=0↔a.take k=b.take k)/\wr=w.drewN m) (fun _ i _=>(17-intOf i).toNat)
 case atStart=>exact⟨0,0,0,by omega,rfl,rfl,by decide,by simp,rfl⟩
 case round=>
  obtain⟨k,dn,m,hk,rfl,rfl,hd,c,rfl⟩:=hrel;by_cases g:k<16
  ·have A:(k:Int)<16:=by omega
   have q:k<a.length:=by rw[j.o.1];exact g
   have p:k<b.length:=by rw[j.o.2];exact g
   have r:(dn|||(a[k].toNat^^^b[k].toNat)=0↔a.take (k+1)=b.take (k+1)):=by
    rw[Ay5,c,Lr q,Lr p];constructor
    ·rintro⟨h1,h2⟩;rw[h1,UInt8.toNat_inj.1 h2]
    ·intro h;have:=List.append_inj' h rfl
     exact⟨this.1,by have h2:a[k]=b[k]:=by simpa using this.2
                     rw[h2]⟩
   have E:=u8_xor_nat a[k].toNat b[k].toNat a[k].toNat_lt b[k].toNat_lt;have o:a[k].toNat^^^b[k].toNat<256:=Ou (n:=8) a[k].toNat_lt b[k].toNat_lt;have C:=u8_or_nat dn _ hd o;have s:dn|||(a[k].toNat^^^b[k].toNat)<256:=Nat.or_lt_two_pow (n:=8) hd o;have D:(ByteArray.mk a.toArray)[k]'(by rw[u];exact g)=a[k]:=rfl;have z:(ByteArray.mk b.toArray)[k]'(by rw[y];exact g)=b[k]:=rfl;have t:=Aa (Ab s r);generalize a[k].toNat^^^b[k].toNat=xx at*;generalize a[k]=ak at*;generalize b[k]=bk at*;generalize dn|||xx=dd at*;clear s r o c q p;go_wp2_with fail
   go_region
   go_wp2_with fail
   go_roundw
   case rel=>exact⟨k+1,dd,m+1,by omega,by go_num,rfl,t.o.1,t.o.2,rfl⟩
   case measure=>simp[intOf];omega
  ·have v:k=16:=by omega
   subst v;rw[Du (by rw[j.o.1];exact Ak _),Du (by rw[j.o.2];exact Ak _)]at c;by_cases f:a=b
   ·have h0:=c.2 f;subst h0;have l:=Aa f;clear f c hd g;go_wp2_with fail;go_ret;exact⟨Ag6 (by simp[l.o]),_,rfl⟩
   ·have h0:((dn:Int)==0)=false:=by
     have:dn≠0:=fun e=>f (c.1 e);simpa using this
    have l:=Aa f;clear f c hd g;go_wp2_with fail;go_ret;exact⟨Ag6 (by simp[l.o]),_,rfl⟩
theorem An6 {w a:World}{x:Nat}(h:Hid (a=(w.alloc (.cells #[.int .u64 0,.int .u64 0] 201)).setCells w.heap.size 0 (At x).toList)):El a w.heap.size x/\Bw w a/\w.heap.size<a.heap.size:=by have h0:El (w.alloc (.cells #[.int .u64 0,.int .u64 0] 201)) w.heap.size 0:=heap_alloc_new w _;have h1:=h0.store x;rw[<-h.o]at h1;refine⟨h1,?_,h1.lt⟩;rw[h.o];exact((Ah _ _).alloc (Ak _) _).trans (Ec _ _ _ _ _ (Ak _))
theorem An5 (w:World):(w.alloc (.cells #[.int .u64 0,.int .u64 0] 201)).there w.heap.size 0 2:=El.there (e:=0) (heap_alloc_new w _)
theorem Aqu (J:Nat)(rk b a c:By)(w:World)(hk:Eh w J rk)(ha:a.length<=4096)(hc:c.length<=4096):
  Cl 137 #[.pointer (some ⟨J,0,none⟩),.string ⟨b.toArray⟩,.string ⟨a.toArray⟩,.string ⟨c.toArray⟩] w fun x w'=>x=.returned (.string ⟨(Mp rk (Ar b 12) a c).toArray⟩)/\Bw w w':=by
 have ei:∀w,(zeroValue 203).run Tryz.prog w=.ok (.agg (Ae (List.replicate 16 0)).toArray) w:=fun _=>by kernel_rfl
 have b8:=hk.len;have ef:=hk.lt;have M:(List.replicate 16 (0:UInt8)).length=16:=by simp
 have b2:=Aa (show Bh (Cy rk (List.replicate 16 0))=Acx rk from rfl);have bd:=Wd rk (List.replicate 16 0) b8 (by simp);obtain⟨k,c4⟩:=nmd (List.replicate 16 (0:UInt8));rw[c4]at ei M b2 bd;clear c4;go_enter Tryz.func137,Tryz.ntmps137;go_wp2_with fail;refine(Abf J rk k w hk M).mono ?_;rintro e w1 ⟨rfl,br⟩;generalize Cy rk k=E0 at*;go_wp2_with fail;refine(Xs E0 w1 bd).mono ?_;rintro e w2 ⟨rfl,dt⟩;rw[b2.o];have a0:=br.trans (dt.mono br.size);have di:=Aro rk b8;have R:=Aa di;clear b2 br dt di bd;obtain⟨H,bv⟩:=nmd (Acx rk);have ed:=Aa bv;rw[bv]at R⊢;clear bv;go_wp2_with (refine Ow rfl 201 _ _ rfl w2.heap.size 0 (At H) rfl rfl (An5 w2) (Ms _) (Mg _) ?_);intro eg ch;obtain⟨ao,df,bz⟩:=An6 ch;have b7:=a0.trans (df.mono a0.size);have en:=a0.size;obtain⟨P,dh⟩:=nmd (w2.heap.size);rw[dh]at ao bz en⊢;have c5:=Aa ao.range;clear ch df dh a0;go_wp2_with (refine wpList_load_mid rfl 201 _ rfl P 0 rfl (At H).toList _ c5.o Tryz.underlying201 rfl (Il _) ?_);have av:=Aa (Ab ha hc);refine(Alx 0 H a eg (by decide) R.o (by have:=av.o.1;omega)).mono ?_;rintro e bt ⟨rfl,ca⟩;have cx:Na H 0 (Ld a)<2^128:=Al4 _ _ _ R.o (by decide);have au:=Aa cx;have bi:=ao.below ca bz;have a5:=b7.trans (ca.mono b7.size);have cn:=bi.lt;clear ha hc cx ao c5 bz ca b7;obtain⟨af,bf⟩:=nmd (Na H 0 (Ld a));have c7:=Aa bf;rw[bf]at au⊢;clear bf;go_wp2_with (refine Ow rfl 201 _ _ rfl bt.heap.size 0 (At af) rfl rfl (An5 bt) (Ms _) (Mg _) ?_);intro er dl;obtain⟨a1,bm,bw⟩:=An6 dl;have b4:=bi.below bm cn;have b0:=a5.trans (bm.mono a5.size);have ek:=a5.size;obtain⟨g,db⟩:=nmd (bt.heap.size);rw[db]at a1 bw ek cn⊢;have c9:=Aa a1.range;have c0:=Aa b4.range;clear dl bm db a5 bi;go_wp2_with (first|refine wpList_load_mid rfl 201 _ rfl g 0 rfl (At af).toList _ c9.o Tryz.underlying201 rfl (Il _) ?_|refine wpList_load_mid rfl 201 _ rfl P 0 rfl (At H).toList _ c0.o Tryz.underlying201 rfl (Il _) ?_);refine(Alx af H c er au.o R.o (by have:=av.o.2;omega)).mono ?_;rintro e eo ⟨rfl,a6⟩;have dp:Na H af (Ld c)<2^128:=Al4 _ _ _ R.o au.o;have aw:=Aa dp;have b5:=a1.below a6 bw;have cr:=b4.below a6 (by omega);have cm:=b0.trans (a6.mono b0.size);obtain⟨o,bb⟩:=nmd (Na H af (Ld c));have dz:=Aa bb;rw[bb]at aw⊢;have dv:=Aa b5.there;clear dp bb a1 b4 c9 c0 bw a6 b0;go_wp2_with (refine Ow rfl 201 _ _ rfl g 0 (At o) rfl rfl dv.o (Ms _) (Mg _) ?_);intro w7 dy;have az:=b5.store o;have a7:=cr.other (At o).toList (show P≠g by omega);have al:=cm.trans (Ec eo w.heap.size g 0 (At o).toList (by omega));rw[<-dy.o]at az a7 al;have c8:=az.lt;clear dy b5 cr cm dv;have cw:(ByteArray.mk a.toArray).size=a.length:=by simp[ByteArray.size]
 have cg:(ByteArray.mk c.toArray).size=c.length:=by simp[ByteArray.size]
 have cy:=av.o.1;have d5:=av.o.2;have Z:=Aa (show Ym a c=8*a.length*2^64+8*c.length from rfl);obtain⟨la,c1⟩:=nmd (a.length);obtain⟨N,ck⟩:=nmd (c.length);rw[c1]at cw cy Z;rw[ck]at cg d5 Z;have eq:(la:Int)<=4096:=by omega
 have ej:(N:Int)<=4096:=by omega
 have cp:At (Ym a c)= #[.int .u64 ((la:Int)*8),.int .u64 ((N:Int)*8)]:=by
  rw[Z.o];unfold At;have e1:(8*la*2^64+8*N)/2^64=la*8:=by omega
  have e2:(8*la*2^64+8*N)%2^64=N*8:=by omega
  rw[e1,e2];simp
 have d2:El (w7.alloc (.cells #[.int .u64 ((la:Int)*8),.int .u64 ((N:Int)*8)] 201)) w7.heap.size (Ym a c):=by rw[<-cp];exact heap_alloc_new w7 _
 have W:Bw w7 (w7.alloc (.cells #[.int .u64 ((la:Int)*8),.int .u64 ((N:Int)*8)] 201)):=(Ah _ _).alloc (Ak _) _;have cj:Ym a c<2^128:=by rw[Z.o];omega
 have ak:=Aa cj;have ce:=Aa (Ab d2 W);clear c1 ck cy d5 cp d2 W cj;go_wp2_with fail;obtain⟨an,W⟩:=ce.o;have co:=az.below W c8;have ct:=a7.below W a7.lt;have bq:=al.trans (W.mono al.size);have eh:=c8;obtain⟨aj,dr⟩:=nmd (w7.heap.size);generalize w7.alloc (.cells #[.int .u64 ((la:Int)*8),.int .u64 ((N:Int)*8)] 201)=w8 at*;rw[dr]at an eh⊢;clear ce W az a7 al dr cw cg eq ej;obtain⟨r,bx⟩:=nmd (Ym a c);rw[bx]at an ak Z;have ci:=Aa bx;clear bx;have ap:El w8.drew g o:=co;have ax:El w8.drew P H:=ct;have a3:El w8.drew aj r:=an;refine wp_region_held_drew (S:=fun w'=>El w' P H/\El w' aj r) (by kernel_rfl) ⟨ax,a3⟩ ?_;intro Q;refine wpAnyH_take (i:=1) rfl (by kernel_rfl) (by kernel_rfl) (by kernel_rfl) (fun _ _ _ h=>h) (yieldsIf_load_mid (by kernel_rfl) 201 _ rfl aj 0 (by kernel_rfl) (At r).toList _ (fun _ h=>h.2.range) Tryz.underlying201 rfl (Il r)) Q ?_;refine wpAnyH_take (i:=3) rfl (by kernel_rfl) (by kernel_rfl) (by kernel_rfl) (fun _ _ _ h=>h) (yieldsIf_load_mid (by kernel_rfl) 201 _ rfl P 0 (by kernel_rfl) (At H).toList _ (fun _ h=>h.1.range) Tryz.underlying201 rfl (Il H)) Q ?_;refine wpAnyH_ready (rs:=[0]) (by kernel_rfl) (by simp) ?_;refine We rfl (by kernel_rfl) 201 _ rfl g 0 (by kernel_rfl) (At o).toList _ ap.range Tryz.underlying201 rfl (Il o) Q ?_ AllReadyH.nil;refine wpAnyH_ready (rs:=[2]) (by kernel_rfl) (by simp) ?_;refine Jh rfl (by kernel_rfl) 148 #[.agg (At o),.agg (At r)] (by kernel_rfl) ((Vf o r w8.drew aw.o ak.o).mono ?_) AllReadyH.nil;rintro e el ⟨rfl,ai⟩;have bl:=ap.below ai ap.lt;have aq:=ax.below ai ax.lt;have a8:=a3.below ai a3.lt;have cd:=bq.drew.trans (ai.mono bq.drew.size);refine⟨_,rfl,⟨aq,a8⟩,?_⟩;have c2:o^^^r<2^128:=Ou aw.o ak.o;refine wpAnyH_ready (rs:=[4]) (by kernel_rfl) (by simp) ?_;refine Jh rfl (by kernel_rfl) 147 #[.agg (At (o^^^r)),.agg (At H)] (by kernel_rfl) ((Ah9 (o^^^r) H el c2 R.o).mono ?_) AllReadyH.nil;rintro e c3 ⟨rfl,aa⟩;have b1:=bl.below aa bl.lt;have bu:=aq.below aa aq.lt;have bo:=a8.below aa a8.lt;have cf:=cd.trans (aa.mono cd.size);refine⟨_,rfl,⟨bu,bo⟩,?_⟩;have d4:=b1.store (Hk (o^^^r) H);have dd:=bu.other (At (Hk (o^^^r) H)).toList (show P≠g by omega);have d0:=bo.other (At (Hk (o^^^r) H)).toList (show aj≠g by omega);have dg:=cf.trans (Ec c3 w.heap.size g 0 (At (Hk (o^^^r) H)).toList (by omega));refine wpAnyH_ready (rs:=[5]) (by kernel_rfl) (by simp) ?_;refine Xq rfl (by kernel_rfl) 201 _ _ rfl g 0 (At (Hk (o^^^r) H)) (by kernel_rfl) (by kernel_rfl) b1.there (Ms _) (Mg _) ⟨dd,d0⟩ ?_ AllReadyH.nil;refine wpAnyH_done (by kernel_rfl) ?_ _;have ba:=hk.below dg ef;have ae:Hk (o^^^r) H<2^128:=Ac3 _ _ R.o
 have cs:Pf rk a c=Hk (o^^^r) H:=by unfold Pf;rw[ed.o,Akt,Akt,c7.o,dz.o,ci.o];rfl
 have d1:=Aa cs;have Y:=Aa ae;clear co ct bq ap ax a3 Q ai bl aq a8 cd c2 aa b1 bu bo cf dd d0 ae cs ak ci Z c7 dz au aw an;generalize c3.setCells g 0 (At (Hk (o^^^r) H)).toList=w11 at*;obtain⟨j,ae⟩:=nmd (Hk (o^^^r) H);rw[ae]at d4 d1 Y;clear ae;have bn:(Ar b 12++Af 1 4).length=16:=by simp[Jm,Cb]
 have cc:=Wd rk _ b8 bn;have bg:=Aa bn;have a4:=Aa cc;have ac:=Aa (Ah3 _ cc);have ag:=Aa (show j^^^Bh (Cy rk (Ar b 12++Af 1 4))=Pf rk a c^^^Se rk (Ar b 12)by rw[d1.o];rfl);clear bn cc;have ab:El w11.drew g j:=d4;have am:Eh w11.drew J rk:=⟨⟨ba.cells.lt,ba.cells.at_⟩,ba.len⟩;have ay:=dg.drew;go_wp2_with fail;have dj:Pf rk a c^^^Se rk (Ar b 12)<2^128:=by rw[<-ag.o];exact Ou Y.o ac.o
 have O:=Aa dj;clear dj;refine wp_region_held_drew (S:=fun _=>True) (by kernel_rfl) trivial ?_;intro Q;refine wpAnyH_take (i:=1) rfl (by kernel_rfl) (by kernel_rfl) (by kernel_rfl) (fun _ _ _ h=>h) (Yields.yieldsIf (v:=.pointer (some ⟨J,0,none⟩)) (Or.inl ⟨by kernel_rfl,fun w=>by kernel_rfl⟩)) Q ?_;refine wpAnyH_take (i:=2) rfl (by kernel_rfl) (by kernel_rfl) (by kernel_rfl) (fun _ _ _ h=>h) (Yields.yieldsIf (v:=.string ⟨b.toArray⟩) (Or.inl ⟨by kernel_rfl,fun w=>by kernel_rfl⟩)) Q ?_;refine wpAnyH_ready (rs:=[0,3]) (by kernel_rfl) (by simp) ?_;refine We rfl (by kernel_rfl) 201 _ rfl g 0 (by kernel_rfl) (At j).toList _ ab.range Tryz.underlying201 rfl (Il j) trivial ?_ (Jh rfl (by kernel_rfl) 149 #[.string ⟨b.toArray⟩,.int .u32 1] (by kernel_rfl) ((Agm b 1 w11.drew (by decide)).mono ?_) (AllReadyH.nil))
 ·refine wpAnyH_ready (rs:=[3]) (by kernel_rfl) (by simp) ?_;refine Jh rfl (by kernel_rfl) 149 #[.string ⟨b.toArray⟩,.int .u32 1] (by kernel_rfl) ((Agm b 1 w11.drew (by decide)).mono ?_) (AllReadyH.nil);rintro e ep ⟨rfl,b6⟩;have d7:=ab.below b6 ab.lt;have cb:=am.below b6 am.lt;have da:=ay.trans (b6.mono ay.size);refine⟨_,rfl,trivial,?_⟩;refine wpAnyH_ready (rs:=[4]) (by kernel_rfl) (by simp) ?_;refine Jh rfl (by kernel_rfl) 145 #[.pointer (some ⟨J,0,none⟩),.agg (Ae (Ar b 12++Af 1 4)).toArray] (by kernel_rfl) ((Abf J rk (Ar b 12++Af 1 4) ep cb bg.o).mono ?_) (AllReadyH.nil);rintro e em ⟨rfl,bh⟩;have cv:=d7.below bh d7.lt;have d8:=cb.below bh cb.lt;have cu:=da.trans (bh.mono da.size);refine⟨_,rfl,trivial,?_⟩;refine wpAnyH_ready (rs:=[5]) (by kernel_rfl) (by simp) ?_;refine Jh rfl (by kernel_rfl) 144 #[.agg (Ae (Cy rk (Ar b 12++Af 1 4))).toArray] (by kernel_rfl) ((Xs (Cy rk (Ar b 12++Af 1 4)) em a4.o).mono ?_) (AllReadyH.nil);rintro e ee ⟨rfl,bs⟩;have cq:=cv.below bs cv.lt;have es:=d8.below bs d8.lt;have cl:=cu.trans (bs.mono cu.size);refine⟨_,rfl,trivial,?_⟩;refine wpAnyH_ready (rs:=[6]) (by kernel_rfl) (by simp) ?_;refine Jh rfl (by kernel_rfl) 148 #[.agg (At j),.agg (At (Bh (Cy rk (Ar b 12++Af 1 4))))] (by kernel_rfl) ((Vf j (Bh (Cy rk (Ar b 12++Af 1 4))) ee Y.o ac.o).mono ?_) AllReadyH.nil;rintro e ds ⟨rfl,t⟩;have z:=cq.below t cq.lt;have I:=cl.trans (t.mono cl.size);refine⟨_,rfl,trivial,?_⟩;refine wpAnyH_ready (rs:=[7]) (by kernel_rfl) (by simp) ?_;refine Xq rfl (by kernel_rfl) 201 _ _ rfl g 0 (At (j^^^Bh (Cy rk (Ar b 12++Af 1 4)))) (by kernel_rfl) (by kernel_rfl) z.there (Ms _) (Mg _) trivial ?_ AllReadyH.nil;refine wpAnyH_done (by kernel_rfl) ?_ _;have m:=z.store (j^^^Bh (Cy rk (Ar b 12++Af 1 4)));have n:=I.trans (Ec ds w.heap.size g 0 (At (j^^^Bh (Cy rk (Ar b 12++Af 1 4)))).toList (by omega));rw[ag.o]at m n⊢;obtain⟨wf,C⟩:=nmd (ds.setCells g 0 (At (Pf rk a c^^^Se rk (Ar b 12))).toList);rw[C]at m n⊢;have y:=Aa m.range;clear C z I t;obtain⟨l,u⟩:=nmd (Pf rk a c^^^Se rk (Ar b 12));have K:=Aa (show Mp rk (Ar b 12) a c=Af l 16 by rw[<-u];rfl);rw[u]at m y O;clear u;go_wp2_with (refine wpList_load_mid rfl 201 _ rfl g 0 (by kernel_rfl) (At l).toList _ ?hc Tryz.underlying201 rfl (Il _) ?_)
  case hc=>exact y.o
  refine(Ac5 l wf O.o).mono ?_;rintro e d ⟨rfl,E⟩;have s:=n.trans (E.mono n.size);obtain⟨f,A⟩:=nmd (Af l 16);have p:f.length=16:=by rw[<-A];exact Cb 16 l
  rw[A]at K⊢;clear A E n m y;go_wp2_with (refine Ow rfl 203 _ _ rfl d.heap.size 0 (Ae f).toArray (by kernel_rfl) (by kernel_rfl) ?ht (Tr f p) (Tf f) ?_)
  case ht=>
   have h:=Iy d (Ae k).toArray 203;have e1:(Ae k).toArray.size=(Ae f).toArray.size:=by simp[Ae,M,p]
   rw[e1]at h;exact h
  intro T G;have F:Bo (d.alloc (.cells (Ae k).toArray 203)) d.heap.size 203 .u8 (Ap k):=Bo.new d _ _ _ _ (by simp[Ae,Ap]) (fun i V=>by rw[<-Dw];exact Mr .u8 _ i V);have q:=F.setAll (Ap f) (by rw[Dt,Dt,p,M]);rw[Dw]at q;have D:=s.trans ((((Ah d.heap.size d).alloc (Ak _) (.cells (Ae k).toArray 203)).trans (Ec _ _ _ 0 (Ae f) (Ak _))).mono s.size);have L:T=(d.alloc (.cells (Ae k).toArray 203)).setCells d.heap.size 0 (Ae f):=G.o;rw[<-L]at q D;have U:=Qh (cap:=16) q;rw[Dt,p,Yu]at U;clear G L F q s;go_wp2_with fail;go_ret;exact⟨by rw[K.o];rfl,D⟩
 ·rintro e d6 ⟨rfl,bp⟩;have ad:=ab.below bp ab.lt;have X:=am.below bp am.lt;have a9:=ay.trans (bp.mono ay.size);refine⟨_,rfl,trivial,?_⟩;refine wpAnyH_ready (rs:=[0,4]) (by kernel_rfl) (by simp) ?_;refine We rfl (by kernel_rfl) 201 _ rfl g 0 (by kernel_rfl) (At j).toList _ ad.range Tryz.underlying201 rfl (Il j) trivial ?_ (Jh rfl (by kernel_rfl) 145 #[.pointer (some ⟨J,0,none⟩),.agg (Ae (Ar b 12++Af 1 4)).toArray] (by kernel_rfl) ((Abf J rk (Ar b 12++Af 1 4) d6 X bg.o).mono ?_) (AllReadyH.nil))
  ·refine wpAnyH_ready (rs:=[4]) (by kernel_rfl) (by simp) ?_;refine Jh rfl (by kernel_rfl) 145 #[.pointer (some ⟨J,0,none⟩),.agg (Ae (Ar b 12++Af 1 4)).toArray] (by kernel_rfl) ((Abf J rk (Ar b 12++Af 1 4) d6 X bg.o).mono ?_) (AllReadyH.nil);rintro e eb ⟨rfl,b9⟩;have dx:=ad.below b9 ad.lt;have dk:=X.below b9 X.lt;have dw:=a9.trans (b9.mono a9.size);refine⟨_,rfl,trivial,?_⟩;refine wpAnyH_ready (rs:=[5]) (by kernel_rfl) (by simp) ?_;refine Jh rfl (by kernel_rfl) 144 #[.agg (Ae (Cy rk (Ar b 12++Af 1 4))).toArray] (by kernel_rfl) ((Xs (Cy rk (Ar b 12++Af 1 4)) eb a4.o).mono ?_) (AllReadyH.nil);rintro e d9 ⟨rfl,b3⟩;have dm:=dx.below b3 dx.lt;have ev:=dk.below b3 dk.lt;have dq:=dw.trans (b3.mono dw.size);refine⟨_,rfl,trivial,?_⟩;refine wpAnyH_ready (rs:=[6]) (by kernel_rfl) (by simp) ?_;refine Jh rfl (by kernel_rfl) 148 #[.agg (At j),.agg (At (Bh (Cy rk (Ar b 12++Af 1 4))))] (by kernel_rfl) ((Vf j (Bh (Cy rk (Ar b 12++Af 1 4))) d9 Y.o ac.o).mono ?_) AllReadyH.nil;rintro e c6 ⟨rfl,t⟩;have z:=dm.below t dm.lt;have I:=dq.trans (t.mono dq.size);refine⟨_,rfl,trivial,?_⟩;refine wpAnyH_ready (rs:=[7]) (by kernel_rfl) (by simp) ?_;refine Xq rfl (by kernel_rfl) 201 _ _ rfl g 0 (At (j^^^Bh (Cy rk (Ar b 12++Af 1 4)))) (by kernel_rfl) (by kernel_rfl) z.there (Ms _) (Mg _) trivial ?_ AllReadyH.nil;refine wpAnyH_done (by kernel_rfl) ?_ _;have m:=z.store (j^^^Bh (Cy rk (Ar b 12++Af 1 4)));have n:=I.trans (Ec c6 w.heap.size g 0 (At (j^^^Bh (Cy rk (Ar b 12++Af 1 4)))).toList (by omega));rw[ag.o]at m n⊢;obtain⟨wf,C⟩:=nmd (c6.setCells g 0 (At (Pf rk a c^^^Se rk (Ar b 12))).toList);rw[C]at m n⊢;have y:=Aa m.range;clear C z I t;obtain⟨l,u⟩:=nmd (Pf rk a c^^^Se rk (Ar b 12));have K:=Aa (show Mp rk (Ar b 12) a c=Af l 16 by rw[<-u];rfl);rw[u]at m y O;clear u;go_wp2_with (refine wpList_load_mid rfl 201 _ rfl g 0 (by kernel_rfl) (At l).toList _ ?hc Tryz.underlying201 rfl (Il _) ?_)
   case hc=>exact y.o
   refine(Ac5 l wf O.o).mono ?_;rintro e d ⟨rfl,E⟩;have s:=n.trans (E.mono n.size);obtain⟨f,A⟩:=nmd (Af l 16);have p:f.length=16:=by rw[<-A];exact Cb 16 l
   rw[A]at K⊢;clear A E n m y;go_wp2_with (refine Ow rfl 203 _ _ rfl d.heap.size 0 (Ae f).toArray (by kernel_rfl) (by kernel_rfl) ?ht (Tr f p) (Tf f) ?_)
   case ht=>
    have h:=Iy d (Ae k).toArray 203;have e1:(Ae k).toArray.size=(Ae f).toArray.size:=by simp[Ae,M,p]
    rw[e1]at h;exact h
   intro T G;have F:Bo (d.alloc (.cells (Ae k).toArray 203)) d.heap.size 203 .u8 (Ap k):=Bo.new d _ _ _ _ (by simp[Ae,Ap]) (fun i V=>by rw[<-Dw];exact Mr .u8 _ i V);have q:=F.setAll (Ap f) (by rw[Dt,Dt,p,M]);rw[Dw]at q;have D:=s.trans ((((Ah d.heap.size d).alloc (Ak _) (.cells (Ae k).toArray 203)).trans (Ec _ _ _ 0 (Ae f) (Ak _))).mono s.size);have L:T=(d.alloc (.cells (Ae k).toArray 203)).setCells d.heap.size 0 (Ae f):=G.o;rw[<-L]at q D;have U:=Qh (cap:=16) q;rw[Dt,p,Yu]at U;clear G L F q s;go_wp2_with fail;go_ret;exact⟨by rw[K.o];rfl,D⟩
  ·rintro e de ⟨rfl,bk⟩;have ah:=ad.below bk ad.lt;have ar:=X.below bk X.lt;have a2:=a9.trans (bk.mono a9.size);refine⟨_,rfl,trivial,?_⟩;refine wpAnyH_ready (rs:=[0,5]) (by kernel_rfl) (by simp) ?_;refine We rfl (by kernel_rfl) 201 _ rfl g 0 (by kernel_rfl) (At j).toList _ ah.range Tryz.underlying201 rfl (Il j) trivial ?_ (Jh rfl (by kernel_rfl) 144 #[.agg (Ae (Cy rk (Ar b 12++Af 1 4))).toArray] (by kernel_rfl) ((Xs (Cy rk (Ar b 12++Af 1 4)) de a4.o).mono ?_) (AllReadyH.nil))
   ·refine wpAnyH_ready (rs:=[5]) (by kernel_rfl) (by simp) ?_;refine Jh rfl (by kernel_rfl) 144 #[.agg (Ae (Cy rk (Ar b 12++Af 1 4))).toArray] (by kernel_rfl) ((Xs (Cy rk (Ar b 12++Af 1 4)) de a4.o).mono ?_) (AllReadyH.nil);rintro e ec ⟨rfl,be⟩;have dc:=ah.below be ah.lt;have eu:=ar.below be ar.lt;have dn:=a2.trans (be.mono a2.size);refine⟨_,rfl,trivial,?_⟩;refine wpAnyH_ready (rs:=[6]) (by kernel_rfl) (by simp) ?_;refine Jh rfl (by kernel_rfl) 148 #[.agg (At j),.agg (At (Bh (Cy rk (Ar b 12++Af 1 4))))] (by kernel_rfl) ((Vf j (Bh (Cy rk (Ar b 12++Af 1 4))) ec Y.o ac.o).mono ?_) AllReadyH.nil;rintro e d3 ⟨rfl,t⟩;have z:=dc.below t dc.lt;have I:=dn.trans (t.mono dn.size);refine⟨_,rfl,trivial,?_⟩;refine wpAnyH_ready (rs:=[7]) (by kernel_rfl) (by simp) ?_;refine Xq rfl (by kernel_rfl) 201 _ _ rfl g 0 (At (j^^^Bh (Cy rk (Ar b 12++Af 1 4)))) (by kernel_rfl) (by kernel_rfl) z.there (Ms _) (Mg _) trivial ?_ AllReadyH.nil;refine wpAnyH_done (by kernel_rfl) ?_ _;have m:=z.store (j^^^Bh (Cy rk (Ar b 12++Af 1 4)));have n:=I.trans (Ec d3 w.heap.size g 0 (At (j^^^Bh (Cy rk (Ar b 12++Af 1 4)))).toList (by omega));rw[ag.o]at m n⊢;obtain⟨wf,C⟩:=nmd (d3.setCells g 0 (At (Pf rk a c^^^Se rk (Ar b 12))).toList);rw[C]at m n⊢;have y:=Aa m.range;clear C z I t;obtain⟨l,u⟩:=nmd (Pf rk a c^^^Se rk (Ar b 12));have K:=Aa (show Mp rk (Ar b 12) a c=Af l 16 by rw[<-u];rfl);rw[u]at m y O;clear u;go_wp2_with (refine wpList_load_mid rfl 201 _ rfl g 0 (by kernel_rfl) (At l).toList _ ?hc Tryz.underlying201 rfl (Il _) ?_)
    case hc=>exact y.o
    refine(Ac5 l wf O.o).mono ?_;rintro e d ⟨rfl,E⟩;have s:=n.trans (E.mono n.size);obtain⟨f,A⟩:=nmd (Af l 16);have p:f.length=16:=by rw[<-A];exact Cb 16 l
    rw[A]at K⊢;clear A E n m y;go_wp2_with (refine Ow rfl 203 _ _ rfl d.heap.size 0 (Ae f).toArray (by kernel_rfl) (by kernel_rfl) ?ht (Tr f p) (Tf f) ?_)
    case ht=>
     have h:=Iy d (Ae k).toArray 203;have e1:(Ae k).toArray.size=(Ae f).toArray.size:=by simp[Ae,M,p]
     rw[e1]at h;exact h
    intro T G;have F:Bo (d.alloc (.cells (Ae k).toArray 203)) d.heap.size 203 .u8 (Ap k):=Bo.new d _ _ _ _ (by simp[Ae,Ap]) (fun i V=>by rw[<-Dw];exact Mr .u8 _ i V);have q:=F.setAll (Ap f) (by rw[Dt,Dt,p,M]);rw[Dw]at q;have D:=s.trans ((((Ah d.heap.size d).alloc (Ak _) (.cells (Ae k).toArray 203)).trans (Ec _ _ _ 0 (Ae f) (Ak _))).mono s.size);have L:T=(d.alloc (.cells (Ae k).toArray 203)).setCells d.heap.size 0 (Ae f):=G.o;rw[<-L]at q D;have U:=Qh (cap:=16) q;rw[Dt,p,Yu]at U;clear G L F q s;go_wp2_with fail;go_ret;exact⟨by rw[K.o];rfl,D⟩
   ·rintro e ea ⟨rfl,bj⟩;have bc:=ah.below bj ah.lt;have et:=ar.below bj ar.lt;have cz:=a2.trans (bj.mono a2.size);refine⟨_,rfl,trivial,?_⟩;refine wpAnyH_ready (rs:=[0]) (by kernel_rfl) (by simp) ?_;refine We rfl (by kernel_rfl) 201 _ rfl g 0 (by kernel_rfl) (At j).toList _ bc.range Tryz.underlying201 rfl (Il j) trivial ?_ (AllReadyH.nil);refine wpAnyH_ready (rs:=[6]) (by kernel_rfl) (by simp) ?_;refine Jh rfl (by kernel_rfl) 148 #[.agg (At j),.agg (At (Bh (Cy rk (Ar b 12++Af 1 4))))] (by kernel_rfl) ((Vf j (Bh (Cy rk (Ar b 12++Af 1 4))) ea Y.o ac.o).mono ?_) AllReadyH.nil;rintro e du ⟨rfl,t⟩;have z:=bc.below t bc.lt;have I:=cz.trans (t.mono cz.size);refine⟨_,rfl,trivial,?_⟩;refine wpAnyH_ready (rs:=[7]) (by kernel_rfl) (by simp) ?_;refine Xq rfl (by kernel_rfl) 201 _ _ rfl g 0 (At (j^^^Bh (Cy rk (Ar b 12++Af 1 4)))) (by kernel_rfl) (by kernel_rfl) z.there (Ms _) (Mg _) trivial ?_ AllReadyH.nil;refine wpAnyH_done (by kernel_rfl) ?_ _;have m:=z.store (j^^^Bh (Cy rk (Ar b 12++Af 1 4)));have n:=I.trans (Ec du w.heap.size g 0 (At (j^^^Bh (Cy rk (Ar b 12++Af 1 4)))).toList (by omega));rw[ag.o]at m n⊢;obtain⟨wf,C⟩:=nmd (du.setCells g 0 (At (Pf rk a c^^^Se rk (Ar b 12))).toList);rw[C]at m n⊢;have y:=Aa m.range;clear C z I t;obtain⟨l,u⟩:=nmd (Pf rk a c^^^Se rk (Ar b 12));have K:=Aa (show Mp rk (Ar b 12) a c=Af l 16 by rw[<-u];rfl);rw[u]at m y O;clear u;go_wp2_with (refine wpList_load_mid rfl 201 _ rfl g 0 (by kernel_rfl) (At l).toList _ ?hc Tryz.underlying201 rfl (Il _) ?_)
    case hc=>exact y.o
    refine(Ac5 l wf O.o).mono ?_;rintro e d ⟨rfl,E⟩;have s:=n.trans (E.mono n.size);obtain⟨f,A⟩:=nmd (Af l 16);have p:f.length=16:=by rw[<-A];exact Cb 16 l
    rw[A]at K⊢;clear A E n m y;go_wp2_with (refine Ow rfl 203 _ _ rfl d.heap.size 0 (Ae f).toArray (by kernel_rfl) (by kernel_rfl) ?ht (Tr f p) (Tf f) ?_)
    case ht=>
     have h:=Iy d (Ae k).toArray 203;have e1:(Ae k).toArray.size=(Ae f).toArray.size:=by simp[Ae,M,p]
     rw[e1]at h;exact h
    intro T G;have F:Bo (d.alloc (.cells (Ae k).toArray 203)) d.heap.size 203 .u8 (Ap k):=Bo.new d _ _ _ _ (by simp[Ae,Ap]) (fun i V=>by rw[<-Dw];exact Mr .u8 _ i V);have q:=F.setAll (Ap f) (by rw[Dt,Dt,p,M]);rw[Dw]at q;have D:=s.trans ((((Ah d.heap.size d).alloc (Ak _) (.cells (Ae k).toArray 203)).trans (Ec _ _ _ 0 (Ae f) (Ak _))).mono s.size);have L:T=(d.alloc (.cells (Ae k).toArray 203)).setCells d.heap.size 0 (Ae f):=G.o;rw[<-L]at q D;have U:=Qh (cap:=16) q;rw[Dt,p,Yu]at U;clear G L F q s;go_wp2_with fail;go_ret;exact⟨by rw[K.o];rfl,D⟩
end Go.Proofs.YtojgilcdgccojaaGreatDoor
