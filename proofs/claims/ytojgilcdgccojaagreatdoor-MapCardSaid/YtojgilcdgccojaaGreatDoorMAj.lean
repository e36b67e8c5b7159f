import Derived.Laws.Tables
import Derived.Test.YtojgilcdgccojaaGreatDoorAl
import Derived.Test.YtojgilcdgccojaaGreatDoorMAi
set_option linter.unusedSimpArgs false
set_option maxRecDepth 100000
set_option maxHeartbeats 8000000
namespace Go.Proofs.YtojgilcdgccojaaGreatDoor
open Go.RowKit
def Abs (d:St)(c:By)(b:St)(a:By):List Value:=Di d c 64++Di b a 64
structure Og (w:World)(b:Nat)(ist:St)(ibuf:By)(ost:St)(obuf:By):Prop where
 blk:w.heap[b]?=some (.cells (Abs ist ibuf ost obuf).toArray 159 (0,0))
 il:ibuf.length=64
 ol:obuf.length=64
theorem Og.below {w w':World}{b B:Nat}{a:St}{c:By}{d:St}{e:By}(h:Og w b a c d e)(hb:Below B w w')(f:b<B):Og w' b a c d e:=
 ⟨(hb.block b f).trans h.blk,h.il,h.ol⟩
theorem Al1:∀(l:List Value) (cells:Array Value) (a k:Nat),a+k+l.length<=cells.size->
  ((l.zipIdx k).foldl (fun cs (p:Value×Nat)=>cs.setIfInBounds (a+p.2) p.1) cells).toList=cells.toList.take (a+k)++l++cells.toList.drop (a+k+l.length)
 | [],cells,a,k,_=>by simp
 |x::l,cells,a,k,h=>by
  have b:a+k<cells.toList.length:=by simp at h⊢;omega
  rw[List.zipIdx_cons,So,Al1 l _ a (k+1) (by simp at h⊢;omega)];simp only[Aae]
  have e1:(cells.toList.set (a+k) x).take (a+(k+1))=cells.toList.take (a+k)++[x]:=by rw[<-Nat.add_assoc,Lr (by simpa using b),List.getElem_set_self,List.take_set_of_le (Ak _)]
  rw[e1,List.drop_set_of_lt (by omega)];have e2:a+(k+1)+l.length=a+k+(x::l).length:=by simp;omega
  rw[e2];simp
theorem Ajp (f:Nat->Option (Nat×Nat))(cells:Array Value)(i a:Nat)(A:List Value)(rest:List (Nat×Value))(b:f i=some (a,A.length))(g:a+A.length<=cells.size):
  Instr.fill f cells ((i,.agg A.toArray)::rest)=Instr.fill f (cells.toList.take a++A++cells.toList.drop (a+A.length)).toArray rest:=by
 have d:(Value.agg A.toArray).cells=A.toArray:=rfl
 have e:(A.toArray.zipIdx.foldl (fun cs (p:Value×Nat)=>cs.setIfInBounds (a+p.2) p.1) cells)=(cells.toList.take a++A++cells.toList.drop (a+A.length)).toArray:=by apply Array.toList_inj.1;have:=Al1 A cells a 0 (by omega);simp only[Pp]at this;rw[<-Array.foldl_toList];simpa using this
 rw[Instr.fill,b];simp only[d];rw[if_neg (by simp;omega)];exact congrArg (fun c=>Instr.fill f c rest) e
theorem Az3 (a:List (Nat×Value)):Tryz.prog.built 159 a=Instr.fill (fun i=>[(0,73),(73,73)][i]?) (Di Qj (List.replicate 64 0) 0++Di Qj (List.replicate 64 0) 0).toArray a:=by
 have h:Tryz.prog.built 159=Instr.fill (fun i=>[(0,73),(73,73)].toArray[i]?) (Di Qj (List.replicate 64 0) 0++Di Qj (List.replicate 64 0) 0).toArray:=by kernel_rfl
 rw[h];simp
theorem A03 (A B:List Value)(b:A.length=73)(a:B.length=73)(w:World):(Instr.build 159 #[(0,.agg A.toArray),(1,.agg B.toArray)]).run Tryz.prog w=.ok (.agg (A++B).toArray) w:=by
 refine run_build w _ _ _ ?_;rw[Az3];have hz:(Di Qj (List.replicate 64 0) 0++Di Qj (List.replicate 64 0) 0).length=146:=by rw[Bb,Qi _ _ _ (by simp)]
 obtain⟨d,c⟩:=nmd (Di Qj (List.replicate 64 0) 0++Di Qj (List.replicate 64 0) 0);rw[c]at hz⊢;show Instr.fill _ _ [(0,.agg A.toArray),(1,.agg B.toArray)]=_;rw[Ajp _ _ 0 0 A _ (by rw[b];rfl) (by simp;omega),Ajp _ _ 1 73 B _ (by rw[a];rfl) (by simp;omega)];rw[Instr.fill]
 congr 2
 simp[b,a,hz]
theorem Ee.kept {w w':World}{b c:Nat}{st:St}{a:By}{n:Nat}(h:Ee w b st a n)(k:He c w w')(d:b≠c):Ee w' b st a n:=⟨(k.block b h.lt d).trans h.blk,h.len⟩
section
variable {P:Program}{ops:Array Oper}{Q:Exit->Act->World->Prop}{md:Region.Mode}{fuel:Nat}{listed:Array Bool}{a:Act}{w w':World}{i:Nat}{op:Oper}{rs:List Nat}
theorem Abk (d:ops[i]?=some op)(hw:Region.wanted op (yielded ops a.tmps)=true)(v:Value)(hr:(execOp a.eval op).run P w=.ok (.value v) w')
  (h:wpAny P md ops Q fuel (listed.setIfInBounds i true) (a.put op.dst v) w') (b:AllReady P md ops Q fuel listed a w rs):AllReady P md ops Q fuel listed a w (i::rs):=
 AllReady.cons d (fun K' c=>by
  rw[if_pos hw];unfold Oper.wp;rw[hr,Oper.upon_value]
  exact c _ _ h) b
theorem Anf (f:ops[i]?=some op)(hw:Region.wanted op (yielded ops a.tmps)=true)(t:TypeId)(c:Array (Nat×Operand))(j:op.op=.build t c)(v:Value)(b:Array (Nat×Value))(g:(c.map fun(i,x)=>(i,a.eval x))=b)
  (hr:(Instr.build t b).run P w=.ok v w)
  (h:wpAny P md ops Q fuel (listed.setIfInBounds i true) (a.put op.dst v) w) (d:AllReady P md ops Q fuel listed a w rs):AllReady P md ops Q fuel listed a w (i::rs):=
 AllReady.cons f (fun K' e=>by
  rw[if_pos hw];unfold Oper.wp execOp;simp only[j,g,Sem.run_bind,hr,Result.andThen_ok,Sem.run_pure]
  exact e _ _ h) d
end
theorem Av4 (a:By)(w:World)(b:a.length<=64):
  Cl 101 #[.string ⟨a.toArray⟩,.int .u8 54] w fun e w'=>e=.returned (.string ⟨(Dh (a++List.replicate (64-a.length) 0) (List.replicate 64 54)).toArray⟩)/\Bw w w':=Am0 a 54 w b
theorem Awk (a:By)(w:World)(b:a.length<=64):
  Cl 101 #[.string ⟨a.toArray⟩,.int .u8 92] w fun e w'=>e=.returned (.string ⟨(Dh (a++List.replicate (64-a.length) 0) (List.replicate 64 92)).toArray⟩)/\Bw w w':=Am0 a 92 w b
theorem Ag4 (key:By)(w:World)(hk:Br w 1 .u32 Gk)(h0:Br w 0 .u32 Jv)(bl:key.length<=65536):
  Cl 75 #[.string ⟨key.toArray⟩] w fun e w'=>∃b R ay ag a0,e=.returned (.pointer (some ⟨b,0,none⟩))/\Og w' b R ay ag a0/\w.heap.size<=b/\b<w'.heap.size/\
   Ho R ay (Pr key)/\Ho ag a0 (Qm key)/\R.ok/\ag.ok/\Bw w w':=by
 obtain⟨n,ad⟩:=nmd (key.length);have ao:(n:Int)<=65536:=by omega
 have af:=Aa ad;have H:(ByteArray.mk key.toArray).size=n:=by simpa [ByteArray.size]using ad
 have a4:=Ad3 ⟨key.toArray⟩ w hk h0 (by rw[H];omega);have bi:=Aa a4;have l:=Aoc key;obtain⟨a,z⟩:=nmd (Ww key);rw[z]at l;have bf:=Aa z;have bv:=Aa l;have ba:Dh (a++List.replicate (64-a.length) 0) (List.replicate 64 54)=Pr key:=by unfold Pr Zc;rw[z]
 have au:Dh (a++List.replicate (64-a.length) 0) (List.replicate 64 92)=Qm key:=by unfold Qm Zc;rw[z]
 have U:=Aa (fun w=>Av4 a w l);have ab:=Aa (fun w=>Awk a w l);rw[ba]at U;rw[au]at ab;have l1:=Ajs key;have l2:=Ak4 key;obtain⟨I,a2⟩:=nmd (Pr key);obtain⟨N,a5⟩:=nmd (Qm key);rw[a2]at l1 U⊢;rw[a5]at l2 ab⊢;have D:=Aa (Ab l1 l2);clear a4 l z ba au l1 l2 a2 a5 bl ad;go_enter Tryz.func75,Tryz.ntmps75;by_cases h:64<n
 case' pos=>
  have hd:decide ((64:Int)<(n:Int))=true:=by simp;omega
  go_wp2_with fail;refine bi.o.mono ?_;rintro e w1 ⟨rfl,k⟩;have F:=hk.below k hk.lt;have m:=h0.below k h0.lt
  have p:Dz (ByteArray.mk key.toArray).data.toList=a:=by rw[<-bf.o];unfold Ww;rw[if_pos (by rw[af.o];exact h)]
  rw[p];clear p h hd H ao
 case' neg=>
  have hd:decide ((64:Int)<(n:Int))=false:=by simp;omega
  have p:key=a:=by rw[<-bf.o];unfold Ww;rw[if_neg (by rw[af.o];exact h)]
  rw[p]at H⊢;clear ao p h;have k:Bw w w:=Ah _ _;have F:=hk;have m:=h0
 all_goals
  clear bi af;have a7:=k.size;have bu:=hk.lt;go_wp2_with fail;refine(Ah1 _ m).mono ?_;rintro e w2 ⟨rfl,X,E⟩;have az:=k.trans (E.mono a7);have bm:=X.lt;have al:=F.below E F.lt;have P:=m.below E m.lt
  try clear hd
  try clear H
  go_wp2_with fail;refine(U.o _).mono ?_;rintro e bo ⟨rfl,u⟩;have an:=az.trans (u.mono (by omega));have Q:=X.below u bm;have bw:=Q.lt;have aa:=al.below u al.lt;have a9:=P.below u P.lt;clear X;go_wp2_with fail;have q:=Yn _ Tm _ [] ⟨I.toArray⟩ bo Q Ho.start Air aa (by omega) (by simp[ByteArray.size,D.o.1]);refine q.mono ?_;rintro e am ⟨rfl,f,d,K,Z,a6,J⟩;have o:([]:By).length+(ByteArray.mk I.toArray).size=64:=by simp[ByteArray.size,D.o.1]
  rw[o]at K;have s:[]++(ByteArray.mk I.toArray).data.toList=I:=by simp
  rw[s]at Z;have bc:=J.below an a7 (by omega);have S:=J.cells aa (by omega);have bj:=J.cells a9 (by omega);have bn:=K.lt;clear q o s Q J k F m E az al P u an aa a9;go_wp2_with fail;refine(Ah1 _ bj).mono ?_;rintro e bq ⟨rfl,W,L⟩;have aq:=bc.trans (L.mono (by omega));have ak:=S.below L S.lt;have bb:=K.below L bn;have bp:=W.lt;clear K;go_wp2_with fail;refine(ab.o _).mono ?_;rintro e bk ⟨rfl,r⟩;have ap:=aq.trans (r.mono (by omega));have av:=ak.below r ak.lt;have a3:=bb.below r (by omega);have Y:=W.below r bp;have bt:=Y.lt;clear W bb;go_wp2_with fail;have q:=Yn _ Tm _ [] ⟨N.toArray⟩ bk Y Ho.start Air av (by omega) (by simp[ByteArray.size,D.o.2]);refine q.mono ?_;rintro e w7 ⟨rfl,c,g,x,V,aw,O⟩;have o:([]:By).length+(ByteArray.mk N.toArray).size=64:=by simp[ByteArray.size,D.o.2]
  rw[o]at x;have s:[]++(ByteArray.mk N.toArray).data.toList=N:=by simp
  rw[s]at V;have ar:=O.below ap (by omega) (by omega);have ai:=a3.kept O (by omega);have bs:=x.lt;have ae:=ai.whole;have ac:=x.whole;have aj:=ai.len;have ah:=x.len;have t:=Qi f d 64 aj;have y:=Qi c g 64 ah;have M:Abs f d c g=Di f d 64++Di c g 64:=rfl;obtain⟨A,bd⟩:=nmd (Di f d 64);obtain⟨B,a8⟩:=nmd (Di c g 64);rw[bd]at ae t M;rw[a8]at ac y M;have be:=Aa (show(Tryz.prog.info? 151).map (·.size)=some A.length from by rw[t];kernel_rfl);have bh:=Aa (show(Tryz.prog.info? 151).map (·.size)=some B.length from by rw[y];kernel_rfl);have T:=Aa (A03 A B t y);obtain⟨C,G⟩:=nmd ((A++B).toArray);rw[G]at T;have a1:=Aa ae;have bg:=Aa ac;have br:C.size=146:=by rw[<-G];simp[t,y]
  have ax:(Abs f d c g).toArray=C:=by rw[M,G]
  have j:=Aa (Ab ax (Ab aj ah));clear q o s Y a3 ai x O ae ac bd a8 t y M G ax aj ah L aq r ap S ak av bj bc;go_wp2_with fail;refine wp_region_any (by kernel_rfl) ?_
  first|refine wpAny_take (i:=0) (v:=.pointer (some ⟨w1.heap.size,0,none⟩)) rfl (by kernel_rfl) (by kernel_rfl) (by kernel_rfl) (fun _ _ _ h=>h) (Or.inl ⟨by kernel_rfl,fun w=>by kernel_rfl⟩) ?_|refine wpAny_take (i:=0) (v:=.pointer (some ⟨w.heap.size,0,none⟩)) rfl (by kernel_rfl) (by kernel_rfl) (by kernel_rfl) (fun _ _ _ h=>h) (Or.inl ⟨by kernel_rfl,fun w=>by kernel_rfl⟩) ?_
  first|refine wpAny_take (i:=1) (v:=.pointer (some ⟨w1.heap.size,0,none⟩)) rfl (by kernel_rfl) (by kernel_rfl) (by kernel_rfl) (fun _ _ _ h=>h) (Or.inl ⟨by kernel_rfl,fun w=>by kernel_rfl⟩) ?_|refine wpAny_take (i:=1) (v:=.pointer (some ⟨w.heap.size,0,none⟩)) rfl (by kernel_rfl) (by kernel_rfl) (by kernel_rfl) (fun _ _ _ h=>h) (Or.inl ⟨by kernel_rfl,fun w=>by kernel_rfl⟩) ?_
  refine wpAny_take (i:=3) (v:=.pointer (some ⟨am.heap.size,0,none⟩)) rfl (by kernel_rfl) (by kernel_rfl) (by kernel_rfl) (fun _ _ _ h=>h) (Or.inl ⟨by kernel_rfl,fun w=>by kernel_rfl⟩) ?_;refine wpAny_take (i:=4) (v:=.pointer (some ⟨am.heap.size,0,none⟩)) rfl (by kernel_rfl) (by kernel_rfl) (by kernel_rfl) (fun _ _ _ h=>h) (Or.inl ⟨by kernel_rfl,fun w=>by kernel_rfl⟩) ?_;refine wpAny_ready (rs:=[2,5]) (by kernel_rfl) (by simp) ?_;refine Vi rfl (by kernel_rfl) 151 _ rfl _ 0 (by kernel_rfl) A _ a1.o Tryz.underlying151 rfl be.o ?_ (Vi rfl (by kernel_rfl) 151 _ rfl _ 0 (by kernel_rfl) B _ bg.o Tryz.underlying151 rfl bh.o ?_ AllReady.nil)
  ·refine wpAny_ready (rs:=[5]) (by kernel_rfl) (by simp) ?_;refine Vi rfl (by kernel_rfl) 151 _ rfl _ 0 (by kernel_rfl) B _ bg.o Tryz.underlying151 rfl bh.o ?_ AllReady.nil;refine wpAny_ready (rs:=[6]) (by kernel_rfl) (by simp) ?_;refine Anf rfl (by kernel_rfl) 159 _ rfl (.agg C) #[(0,.agg A.toArray),(1,.agg B.toArray)] (by kernel_rfl) (T.o _) ?_ AllReady.nil;refine wpAny_ready (rs:=[7]) (by kernel_rfl) (by simp) ?_;refine Abk rfl (by kernel_rfl) (.pointer (some ⟨w7.heap.size,0,none⟩)) (w':=w7.drew.alloc (.cells C 159)) (by kernel_rfl) ?_ AllReady.nil;refine wpAny_ready (rs:=[8]) (by kernel_rfl) (by simp) ?_;refine Abk rfl (by kernel_rfl) (.pointer (some ⟨w7.heap.size,0,none⟩)) (w':=w7.drew.alloc (.cells C 159)) (by kernel_rfl) ?_ AllReady.nil;refine wpAny_done (by kernel_rfl) ?_ _;go_wp2_with fail;go_ret;exact⟨w7.heap.size,f,d,c,g,by kernel_rfl,⟨by rw[j.o.1];exact heap_alloc_new w7.drew _,j.o.2.1,j.o.2.2⟩,by omega,by simp,Z,V,a6,aw,(ar.drew).alloc (by show _<=w7.heap.size;omega) _⟩
  ·refine wpAny_ready (rs:=[2]) (by kernel_rfl) (by simp) ?_;refine Vi rfl (by kernel_rfl) 151 _ rfl _ 0 (by kernel_rfl) A _ a1.o Tryz.underlying151 rfl be.o ?_ AllReady.nil;refine wpAny_ready (rs:=[6]) (by kernel_rfl) (by simp) ?_;refine Anf rfl (by kernel_rfl) 159 _ rfl (.agg C) #[(0,.agg A.toArray),(1,.agg B.toArray)] (by kernel_rfl) (T.o _) ?_ AllReady.nil;refine wpAny_ready (rs:=[7]) (by kernel_rfl) (by simp) ?_;refine Abk rfl (by kernel_rfl) (.pointer (some ⟨w7.heap.size,0,none⟩)) (w':=w7.drew.alloc (.cells C 159)) (by kernel_rfl) ?_ AllReady.nil;refine wpAny_ready (rs:=[8]) (by kernel_rfl) (by simp) ?_;refine Abk rfl (by kernel_rfl) (.pointer (some ⟨w7.heap.size,0,none⟩)) (w':=w7.drew.alloc (.cells C 159)) (by kernel_rfl) ?_ AllReady.nil;refine wpAny_done (by kernel_rfl) ?_ _;go_wp2_with fail;go_ret;exact⟨w7.heap.size,f,d,c,g,by kernel_rfl,⟨by rw[j.o.1];exact heap_alloc_new w7.drew _,j.o.2.1,j.o.2.2⟩,by omega,by simp,Z,V,a6,aw,(ar.drew).alloc (by show _<=w7.heap.size;omega) _⟩
theorem Og.lt {w:World}{b:Nat}{d:St}{a:By}{c:St}{e:By}(h:Og w b d a c e):b<w.heap.size:=by
 have:=h.blk;rcases Hv b w.heap.size with g|g
 ·exact g
 ·rw[Ot g]at this;cases this
theorem Og.inner {w:World}{b:Nat}{a:St}{c:By}{e:St}{f:By}(h:Og w b a c e f):w.rangeAt b 0 (Di a c 64):=by
 intro j v d;rw[Dq,cell_of_row _ _ _ _ _ _ h.blk]
 have i:j<(Di a c 64).length:=by
  rcases Hv j (Di a c 64).length with g|g
  ·exact g
  ·rw[Sk g]at d;cases d
 simpa [Abs,Ja i]using d
theorem Og.outer {w:World}{b:Nat}{a:St}{c:By}{d:St}{e:By}(h:Og w b a c d e):w.rangeAt b 73 (Di d e 64):=by intro j v f;rw[cell_of_row _ _ _ _ _ _ h.blk];have g:=Qi a c 64 h.il;rw[Aah,Abs,If (by omega),g];simpa using f
theorem Aj4 {w:World}{a:Array Value}{st:St}{b:By}{n:Nat}{A:List Value}(e:a.size=73)(d:Di st b n=A)(c:b.length=64):
  Ee ((w.alloc (.cells a 151)).setCells w.heap.size 0 A) w.heap.size st b n/\Bw w ((w.alloc (.cells a 151)).setCells w.heap.size 0 A)/\((w.alloc (.cells a 151)).setCells w.heap.size 0 A).heap.size=w.heap.size+1:=by
 have f:A.length=73:=by rw[<-d];exact Qi st b n c
 refine⟨⟨?_,c⟩,((Ah _ _).alloc (Ak _) _).trans (Ec _ _ _ _ _ (Ak _)),by rw[(Np _ _ _ _).1];simp⟩;rw[d];exact Agk w 151 a A (by rw[e,f])
theorem Afw (b:Nat)(c f:St)(h i key t:By)(w:World)(l:Og w b c h f i)(N:Ho c h (Pr key))(a2:Ho f i (Qm key))(bc:c.ok)(a7:f.ok)
  (hk:Br w 1 .u32 Gk) (ac:t.length<=70000):
  Cl 76 #[.pointer (some ⟨b,0,none⟩),.string ⟨t.toArray⟩] w fun e w'=>e=.returned (.string ⟨(Jk key t).toArray⟩)/\Bw w w':=by
 have bn:∀w,(zeroValue 151).run Tryz.prog w=.ok (.agg (Di Qj (List.replicate 64 0) 0).toArray) w:=fun _=>by kernel_rfl
 obtain⟨p,J⟩:=nmd ((Di Qj (List.replicate 64 0) 0).toArray);rw[J]at bn;have E:p.size=73:=by rw[<-J];rfl
 have O:=l.inner;have Q:=l.il;have P:=l.ol;have n:=Qi c h 64 Q;have o:=Qi f i 64 P;have V:=Ahw c h 64;have ai:=Ahw f i 64;have a5:=l.lt;have r:Dz (Qm key++Dz (Pr key++t))=Jk key t:=rfl;have l1:=Ajs key;have l2:=Ak4 key;obtain⟨M,ae⟩:=nmd (Jk key t);rw[ae]at r⊢;obtain⟨d,af⟩:=nmd (Pr key);obtain⟨g,aw⟩:=nmd (Qm key);rw[af]at l1 r N;rw[aw]at l2 r a2;obtain⟨A,C⟩:=nmd (Di c h 64);obtain⟨B,W⟩:=nmd (Di f i 64);rw[C]at O n V;rw[W]at o ai;have ax:=Aa (show(Tryz.prog.info? 151).map (·.size)=some A.length from by rw[n];kernel_rfl);have bm:=Aa (show(Tryz.prog.info? 151).map (·.size)=some B.length from by rw[o];kernel_rfl);have ar:=Aa (show(Tryz.prog.info? 151).map (·.size)=some A.toArray.size from by rw[Uv,n];kernel_rfl);have bb:=Aa (show(Tryz.prog.info? 151).map (·.size)=some B.toArray.size from by rw[Uv,o];kernel_rfl);have u:=Aa (Ab l1 (Ab l2 (Ab n o)));have av:=Aa (Ab C W);have aj:=Aa O;have v:=Aa r;have a1:=Aa ac;obtain⟨az,ao,a0⟩:=Aj4 (w:=w) E C Q;have s:=Aa (Ab az (Ab ao a0));have bk:=hk.lt;clear J O n o l1 l2 r ae af aw C W az ao a0 ac;go_enter Tryz.func76,Tryz.ntmps76;go_wp2_with (first|refine wpList_load_mid rfl 151 _ rfl b 0 rfl A _ aj.o Tryz.underlying151 rfl ax.o ?_|refine wpList_store_mid rfl 151 _ _ rfl w.heap.size 0 A.toArray rfl rfl ?c1 ar.o (all_oneCell_toArray V) ?_)
 case c1=>
  have e:A.toArray.size=p.size:=by rw[E];simpa using u.o.2.2.1
  rw[e];exact Iy w _ _
 obtain⟨Y,H,bt⟩:=s.o;have T:=l.below H a5;have S:=hk.below H bk;generalize ba:(w.alloc (.cells p 151)).setCells w.heap.size 0 A=w1 at*;clear ba s aj;have a:d.length=64:=u.o.1;rw[<-a]at Y;have q:=Yn w.heap.size c h d ⟨t.toArray⟩ w1 Y N bc S (by omega) (by rw[a];have:=a1.o;simp[ByteArray.size];omega);refine q.mono ?_;rintro e w2 ⟨rfl,a3,a8,m,y,aa,F⟩;have G:=F.cells S (by omega);have I:Og w2 b c h f i:=⟨(F.block b T.lt (by omega)).trans T.blk,Q,P⟩;have ad:=F.below H (Ak _) (by omega);have e2:d++(ByteArray.mk t.toArray).data.toList=d++t:=by simp
 have e3:d.length+(ByteArray.mk t.toArray).size=(d++t).length:=by simp[ByteArray.size]
 rw[e2]at y;rw[e3]at m;have bp:=m.lt;have k:(d++t).length<=900000:=by rw[Bb,a];have:=a1.o;omega
 obtain⟨an,au⟩:=nmd (d++t);rw[au]at y m k v;have a6:=Aa k;clear q e2 e3 a au k Y F l T hk S N;go_wp2_with fail;refine(Ahb w.heap.size a3 a8 an w2 m y aa G a6.o).mono ?_;rintro e j ⟨rfl,z⟩;have ah:=G.below z G.lt;have ak:=I.below z I.lt;have Z:=ad.trans (z.mono (by omega));have ap:=Z.size;have L:=ak.outer;rw[av.o.2]at L;have al:=Aa L;have bu:=ak.lt;obtain⟨D,K⟩:=nmd (Dz an);have am:D.length=32:=by rw[<-K,Yg]
 rw[K]at v⊢;have aq:=Aa am;have s:=Aa (Aj4 (w:=j) E av.o.2 P);have bf:=ah.lt;clear m y aa G I ad L K am ax ar V z H;go_wp2_with (first|refine wpList_load_mid rfl 151 _ rfl b 73 rfl B _ al.o Tryz.underlying151 rfl bm.o ?_|refine wpList_store_mid rfl 151 _ _ rfl j.heap.size 0 B.toArray rfl rfl ?c1 bb.o (all_oneCell_toArray ai) ?_)
 case c1=>
  have e:B.toArray.size=p.size:=by rw[E];simpa using u.o.2.2.2
  rw[e];exact Iy j _ _
 obtain⟨X,ay,br⟩:=s.o;have ab:=ah.below ay bf;generalize a9:(j.alloc (.cells p 151)).setCells j.heap.size 0 B=w4 at*;clear a9 s al;have a:g.length=64:=u.o.2.1;rw[<-a]at X;have q:=Yn j.heap.size f i g ⟨D.toArray⟩ w4 X a2 a7 ab (by omega) (by rw[a];have:=aq.o;simp[ByteArray.size];omega);refine q.mono ?_;rintro e bg ⟨rfl,be,bj,x,R,a4,U⟩;have bo:=U.cells ab (by omega);have bd:=U.below (Z.trans (ay.mono ap)) ap (by omega);have e2:g++(ByteArray.mk D.toArray).data.toList=g++D:=by simp
 have e3:g.length+(ByteArray.mk D.toArray).size=(g++D).length:=by simp[ByteArray.size]
 rw[e2]at R;rw[e3]at x;have bq:=x.lt;have k:(g++D).length<=900000:=by rw[Bb,a,aq.o];decide
 obtain⟨bl,ag⟩:=nmd (g++D);rw[ag]at R x k v;have bi:=Aa k;clear q e2 e3 a ag k X U;go_wp2_with fail;refine(Ahb j.heap.size be bj bl bg x R a4 bo bi.o).mono ?_;rintro e bs ⟨rfl,bh⟩;rw[v.o];go_wp2_with fail;go_ret;exact⟨rfl,bd.trans (bh.mono (by omega))⟩
end Go.Proofs.YtojgilcdgccojaaGreatDoor
