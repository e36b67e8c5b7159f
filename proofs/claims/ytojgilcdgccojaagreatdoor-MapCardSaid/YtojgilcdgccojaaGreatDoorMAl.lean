import Derived.Laws.Tables
import Derived.Test.YtojgilcdgccojaaGreatDoorAl
import Derived.Test.YtojgilcdgccojaaGreatDoorMAk
set_option linter.unusedSimpArgs false
set_option maxRecDepth 100000
set_option maxHeartbeats 8000000
namespace Go.Proofs.YtojgilcdgccojaaGreatDoor
open Go.RowKit
theorem Ap0:∀(l:List Value) (cells:Array Value) (a k:Nat),a+k+l.length<=cells.size->
  ((l.zipIdx k).foldl (fun cs (p:Value×Nat)=>cs.setIfInBounds (a+p.2) p.1) cells).toList=cells.toList.take (a+k)++l++cells.toList.drop (a+k+l.length)
 | [],cells,a,k,_=>by simp
 |x::l,cells,a,k,h=>by
  have b:a+k<cells.toList.length:=by simp at h⊢;omega
  rw[List.zipIdx_cons,So,Ap0 l _ a (k+1) (by simp at h⊢;omega)];simp only[Aae]
  have e1:(cells.toList.set (a+k) x).take (a+(k+1))=cells.toList.take (a+k)++[x]:=by rw[<-Nat.add_assoc,Lr (by simpa using b),List.getElem_set_self,List.take_set_of_le (Ak _)]
  rw[e1,List.drop_set_of_lt (by omega)];have e2:a+(k+1)+l.length=a+k+(x::l).length:=by simp;omega
  rw[e2];simp
theorem Aji (f:Nat->Option (Nat×Nat))(cells:Array Value)(i a:Nat)(A:List Value)(rest:List (Nat×Value))(b:f i=some (a,A.length))(g:a+A.length<=cells.size):
  Instr.fill f cells ((i,.agg A.toArray)::rest)=Instr.fill f (cells.toList.take a++A++cells.toList.drop (a+A.length)).toArray rest:=by
 have d:(Value.agg A.toArray).cells=A.toArray:=rfl
 have e:(A.toArray.zipIdx.foldl (fun cs (p:Value×Nat)=>cs.setIfInBounds (a+p.2) p.1) cells)=(cells.toList.take a++A++cells.toList.drop (a+A.length)).toArray:=by apply Array.toList_inj.1;have:=Ap0 A cells a 0 (by omega);simp only[Pp]at this;rw[<-Array.foldl_toList];simpa using this
 rw[Instr.fill,b];simp only[d];rw[if_neg (by simp;omega)];exact congrArg (fun c=>Instr.fill f c rest) e
theorem Axp (a:List (Nat×Value)):Tryz.prog.built 165 a=Instr.fill (fun i=>[(0,256),(256,240)][i]?) (Aj .u8 (List.replicate 496 0)).toArray a:=by
 have h:Tryz.prog.built 165=Instr.fill (fun i=>[(0,256),(256,240)].toArray[i]?) (Aj .u8 (List.replicate 496 0)).toArray:=by kernel_rfl
 rw[h]
 congr 1
 funext i
 simp
theorem A1l (A B:List Value)(b:A.length=256)(a:B.length=240)(w:World):(Instr.build 165 #[(0,.agg A.toArray),(1,.agg B.toArray)]).run Tryz.prog w=.ok (.agg (A++B).toArray) w:=by
 refine run_build w _ _ _ ?_;rw[Axp];have hz:(Aj .u8 (List.replicate 496 0)).length=496:=by rw[Aj,Fi,Tu]
 obtain⟨d,c⟩:=nmd (Aj .u8 (List.replicate 496 0));rw[c]at hz⊢;show Instr.fill _ _ [(0,.agg A.toArray),(1,.agg B.toArray)]=_;rw[Aji _ _ 0 0 A _ (by rw[b];rfl) (by simp;omega),Aji _ _ 1 256 B _ (by rw[a];rfl) (by simp;omega)];rw[Instr.fill]
 congr 2
 simp[b,a,hz]
section
variable {P:Program}{ops:Array Oper}{Q:Exit->Act->World->Prop}{S:World->Prop}{md:Region.Mode}{fuel:Nat}{listed:Array Bool}{a:Act}{w w':World}{i:Nat}{op:Oper}{rs:List Nat}
theorem Alq (c:ops[i]?=some op)(hw:Region.wanted op (yielded ops a.tmps)=true)(v:Value)(hr:(execOp a.eval op).run P w=.ok (.value v) w')(e:S w')
  (h:wpAnyH P md ops Q S fuel (listed.setIfInBounds i true) (a.put op.dst v) w') (b:AllReadyH P md ops Q S fuel listed a w rs):AllReadyH P md ops Q S fuel listed a w (i::rs):=
 AllReadyH.cons c (fun K' d=>by
  rw[if_pos hw];unfold Oper.wp;rw[hr]
  exact d.out _ _ e (fun _=>h)) b
theorem A2c (g:ops[i]?=some op)(hw:Region.wanted op (yielded ops a.tmps)=true)(t:TypeId)(c:Array (Nat×Operand))(k:op.op=.build t c)(v:Value)(b:Array (Nat×Value))(j:(c.map fun(i,x)=>(i,a.eval x))=b)
  (hr:(Instr.build t b).run P w=.ok v w) (f:S w)
  (h:wpAnyH P md ops Q S fuel (listed.setIfInBounds i true) (a.put op.dst v) w) (d:AllReadyH P md ops Q S fuel listed a w rs):AllReadyH P md ops Q S fuel listed a w (i::rs):=
 AllReadyH.cons g (fun K' e=>by
  rw[if_pos hw];unfold Oper.wp execOp;simp only[k,j,Sem.run_bind,hr,Result.andThen_ok,Sem.run_pure]
  exact e.out _ _ f (fun _=>h)) d
end
theorem Ash (key:By)(w:World):
  Cl 80 #[.string ⟨key.toArray⟩] w fun e w'=>∃G,e=.returned (.pointer (some ⟨G,0,none⟩))/\Eh w' G (Fc (Ar key 32))/\w.heap.size<=G/\Bw w w':=by
 have am:∀w,(zeroValue 155).run Tryz.prog w=.ok (.agg (Aj .u8 (List.replicate 32 0)).toArray) w:=fun _=>by kernel_rfl
 have U:∀O W,(Builtin.copy_ #[54,O] W #[.slice (some ⟨w.heap.size,0,none⟩) 32 32,.string ⟨key.toArray⟩]).run Tryz.prog (w.alloc (.cells (Aj .u8 (List.replicate 32 0)).toArray 155))=.ok (goInt (key.take 32).length) (w.alloc (.cells (Ae (Ar key 32)).toArray 155)):=fun O W=>Abx key 32 w O W 155;obtain⟨Z,F⟩:=nmd ((Aj .u8 (List.replicate 32 0)).toArray);rw[F]at am U;have a3:Z.size=32:=by rw[<-F];simp[Aj]
 have n:=Jm key 32;have s:=Acn (Ar key 32) n;obtain⟨d,ak⟩:=nmd (Ar key 32);rw[ak]at U n s⊢;have L:=fun w=>A02 d w n;obtain⟨rk,N⟩:=nmd (Fc d);simp only[N]at L;rw[N]at s⊢;have ao:=Aa L;have aa:=Aa (Ab n s);have an:∀w1,Below (w.heap.size+1) (w.alloc (.cells (Ae d).toArray 155)) w1->w1.rangeAt w.heap.size 0 (Ae d):=fun w1 hb=>Xd (c:=(Ae d).toArray) ((hb.block w.heap.size (by omega)).trans (heap_alloc_new w _));have ad:=Aa an;have ax:=Aa (show(Tryz.prog.info? 155).map (·.size)=some (Ae d).length by rw[Jo,n];kernel_rfl);clear N ak L F s an;go_enter Tryz.func80,Tryz.ntmps80;go_wp2_with fail;refine(Av9 _).mono ?_;rintro e w1 ⟨rfl,aq⟩;have P:Below (w.heap.size+1) (w.alloc (.cells (Ae d).toArray 155)) w1:=aq.mono (by simp);have ag:=ad.out w1 P;have V:Bw w w1:=((Ah _ _).alloc (Ak _) _).trans (P.mono (by omega));have Q:=Aa ag;have o:(Aj .u8 Gc).length=256:=by rw[Aj,Fi,Aaw]
 obtain⟨b,y⟩:=nmd (Aj .u8 Gc);have ab:=Aa y;have av:Hid (∀w,Cl 103 #[.agg b.toArray,.agg (Ae d).toArray] w fun x w'=>x=.returned (.agg (Ae rk).toArray)/\Bw w w'):=by rw[<-y];exact ao.out
 rw[y]at o⊢;clear y ao aq P ag am U ad;have ay:∀w,(zeroValue 160).run Tryz.prog w=.ok (.agg (Aj .u8 (List.replicate 256 0)).toArray) w:=fun _=>by kernel_rfl
 obtain⟨R,D⟩:=nmd ((Aj .u8 (List.replicate 256 0)).toArray);rw[D]at ay;have ap:R.size=256:=by rw[<-D];simp[Aj]
 have aw:∀v∈b,v.oneCell'=true:=by rw[<-ab.out];exact Nk _ _
 have I:=Aa (show(Tryz.prog.info? 160).map (·.size)=some b.length by rw[o];kernel_rfl);clear D;go_wp2_with (refine Ow rfl 160 _ _ rfl w1.heap.size 0 b.toArray rfl rfl ?ht (by simpa using I.out) (all_oneCell_toArray aw) ?_)
 case ht=>
  have h:=Iy w1 R 160;rw[ap]at h;have e:b.toArray.size=256:=by simp[o]
  rw[e];exact h
 intro w2 z
 have E:Bw w1 w2:=by rw[z.out];exact((Ah _ _).alloc (Ak _) _).trans (Ec _ _ _ _ _ (Ak _))
 have X:w2.rangeAt w1.heap.size 0 b:=by rw[z.out];have h:=Iy w1 R 160;rw[ap]at h;exact Oq _ w1.heap.size 0 b (by rw[o];exact h)
 have p:w1.heap.size<w2.heap.size:=by rw[z.out,(Np _ _ _ _).1];simp
 have m:w.heap.size<w1.heap.size:=by
  have:=Q.out 0;rcases Hv w.heap.size w1.heap.size with g|g
  ·exact g
  ·exfalso;have f:(Ae d)[0]?=some ((Ae d)[0]'(by rw[Jo,n];decide)):=Az _;have h2:=this _ f
   have au:w1.cell? ⟨w.heap.size,0+0,none⟩=none:=by unfold World.cell?;simp[Ot g]
   rw[au]at h2;cases h2
 have ae:w2.rangeAt w.heap.size 0 (Ae d):=by intro j v f;rw[Lv (w:=w1) (E.block _ m)];exact Q.out j v f
 have al:=V.trans (E.mono V.size);obtain⟨k,ah⟩:=nmd (w1.heap.size);rw[ah]at X p m⊢;have a2:=Aa (Ab X (Ab ae (Ab p (Ab m al))));clear z E X ae p m al ah V Q;go_wp2_with fail;obtain⟨A,T,p,m,K⟩:=a2.out;refine wp_region_held_drew (S:=fun w'=>w'.rangeAt k 0 b/\w'.rangeAt w.heap.size 0 (Ae d)) (by kernel_rfl) ⟨A,T⟩ ?_;intro q;refine wpAnyH_take (i:=0) rfl (by kernel_rfl) (by kernel_rfl) (by kernel_rfl) (fun _ _ _ h=>h) (yieldsIf_load_mid (by kernel_rfl) 160 _ rfl k 0 (by kernel_rfl) b _ (fun _ h=>h.1) Tryz.underlying160 rfl I.out) q ?_;refine wpAnyH_take (i:=1) rfl (by kernel_rfl) (by kernel_rfl) (by kernel_rfl) (fun _ _ _ h=>h) (yieldsIf_load_mid (by kernel_rfl) 160 _ rfl k 0 (by kernel_rfl) b _ (fun _ h=>h.1) Tryz.underlying160 rfl I.out) q ?_;refine wpAnyH_take (i:=2) rfl (by kernel_rfl) (by kernel_rfl) (by kernel_rfl) (fun _ _ _ h=>h) (yieldsIf_load_mid (by kernel_rfl) 155 _ rfl w.heap.size 0 (by kernel_rfl) (Ae d) _ (fun _ h=>h.2) Tryz.underlying155 rfl ax.out) q ?_;refine wpAnyH_ready (rs:=[3]) (by kernel_rfl) (by simp) ?_;refine Jh rfl (by kernel_rfl) 103 #[.agg b.toArray,.agg (Ae d).toArray] (by kernel_rfl) ((av.out w2.drew).mono ?_) AllReadyH.nil;rintro e a ⟨rfl,l⟩;have Y:k<w2.drew.heap.size:=p;have af:w.heap.size<w2.drew.heap.size:=Nat.lt_trans m p;have r:a.rangeAt k 0 b:=fun j v f=>by rw[Lv (w:=w2.drew) (l.block _ Y)];exact A j v f
 have t:a.rangeAt w.heap.size 0 (Ae d):=fun j v f=>by rw[Lv (w:=w2.drew) (l.block _ af)];exact T j v f
 have u:=K.drew.trans (l.mono K.drew.size);refine⟨_,rfl,⟨r,t⟩,?_⟩;have ar:(Ae rk).length=240:=by rw[Jo];exact aa.out.2
 refine wpAnyH_ready (rs:=[4]) (by kernel_rfl) (by simp) ?_;refine A2c rfl (by kernel_rfl) 165 _ rfl (.agg (b++Ae rk).toArray) #[(0,.agg b.toArray),(1,.agg (Ae rk).toArray)] (by kernel_rfl) (A1l b (Ae rk) o ar _) ⟨r,t⟩ ?_ AllReadyH.nil;have a4:(b++Ae rk).length=496:=by rw[Bb,o,ar]
 have a0:b++Ae rk=Aj .u8 (Gc++Ap rk):=by rw[<-ab.out,<-Dw];simp[Aj]
 obtain⟨C,aj⟩:=nmd ((b++Ae rk).toArray);rw[aj];have az:k<a.heap.size:=Eu Y l.size;have a1:w.heap.size<a.heap.size:=Eu af l.size;have J:(a.alloc (.cells C 165)).rangeAt k 0 b:=fun j v f=>by rw[Lv (w:=a) (Mn a _ _ az)];exact r j v f
 have M:(a.alloc (.cells C 165)).rangeAt w.heap.size 0 (Ae d):=fun j v f=>by rw[Lv (w:=a) (Mn a _ _ a1)];exact t j v f
 refine wpAnyH_ready (rs:=[5]) (by kernel_rfl) (by simp) ?_;refine Alq rfl (by kernel_rfl) (.pointer (some ⟨a.heap.size,0,none⟩)) (w':=a.alloc (.cells C 165)) (by kernel_rfl) ⟨J,M⟩ ?_ AllReadyH.nil;refine wpAnyH_ready (rs:=[6]) (by kernel_rfl) (by simp) ?_;refine Alq rfl (by kernel_rfl) (.pointer (some ⟨a.heap.size,0,none⟩)) (w':=a.alloc (.cells C 165)) (by kernel_rfl) ⟨J,M⟩ ?_ AllReadyH.nil;refine wpAnyH_done (by kernel_rfl) ?_ _
 have ai:(a.alloc (.cells C 165)).heap[a.heap.size]?=some (.cells (Aj .u8 (Gc++Ap rk)).toArray 165 (0,0)):=by rw[<-a0,aj];exact heap_alloc_new a _
 have ac:Eh (a.alloc (.cells C 165)) a.heap.size rk:=⟨Br.of_block ai,aa.out.2⟩;have H:=Aa (Ab ac (Ab u.size (u.alloc u.size (.cells C 165))));clear ac ai J M q r t A T l K u;go_wp2_with fail;go_ret;exact⟨a.heap.size,by kernel_rfl,H.out.1,H.out.2.1,H.out.2.2⟩
end Go.Proofs.YtojgilcdgccojaaGreatDoor
