import Derived.Test.YtojgilcdgccojaaGreatDoorAl
import Derived.Test.YtojgilcdgccojaaGreatDoorMAt
import Derived.Test.YtojgilcdgccojaaGreatDoorMAq
set_option linter.unusedSimpArgs false
set_option maxRecDepth 100000
set_option maxHeartbeats 8000000
namespace Go.Proofs.YtojgilcdgccojaaGreatDoor
open Go.RowKit
theorem A12 (d:Oper)(a:Act)(x:Operand)(b c:Nat)(v:Value)(e:d.op=.load 68 x)(f:a.eval x=.pointer (some ⟨b,c,none⟩))(w:World)(g:w.cell? ⟨b,c,none⟩=some v):
  (execOp a.eval d).run Tryz.prog w=.ok (.value v) w:=by
 unfold execOp;simp only[e,f];clear f e
 go_simp
theorem Awq (e:Oper)(a:Act)(x f:Operand)(b d:Nat)(old:Value)(g:Option Addr)(n c:Nat)(h:e.op=.store 68 x f)(i:a.eval x=.pointer (some ⟨b,d,none⟩))(hy:a.eval f=.slice g n c)(w:World)(k:w.cell? ⟨b,d,none⟩=some old)(j:w.frozen? ⟨b,d,none⟩=false):
  (execOp a.eval e).run Tryz.prog w=.ok .skip (w.setCell ⟨b,d,none⟩ (.slice g n c)):=by
 unfold execOp;simp only[h,i,hy];clear i hy h
 go_simp
theorem Azv (b:Oper)(a:Act)(x:Operand)(k s:By)(c:b.op=.buildSlice 68 1 #[(0,x)])(d:a.eval x=.agg #[Ac k,Ac s])(w:World):
  (execOp a.eval b).run Tryz.prog w=.ok (.value (.slice (some ⟨w.heap.size,0,none⟩) 1 1)) (w.alloc (.cells #[Ac k,Ac s] 78)):=by
 unfold execOp;simp only[c,Wa,Db,Lc,d];clear d c
 go_simp
structure Uf (w wr:World)(x:DX)(b bp sb:Nat)(m:DM)(v:VM)(wv:Value)(rk:By)(lk:Nat)(lo hi:By)(F:PL)(fv0 fv:Value):Prop where
 gas:Oy wr x b bp sb m v wv rk lk lo hi F fv
 own:∀j,fv.ownBlock=some j->fv0.ownBlock=some j\/w.heap.size<=j
 kp:Kp (sb::fv0.ownBlock.toList) w wr
theorem Uf.below {w wr w':World}{x:DX}{b bp d:Nat}{m:DM}{v:VM}{wv:Value}{rk:By}{lk:Nat}{lo e:By}{a:PL}{c fv:Value}(h:Uf w wr x b bp d m v wv rk lk lo e a c fv)(hb:Bw wr w'):Uf w w' x b bp d m v wv rk lk lo e a c fv:=
 ⟨h.gas.below hb,h.own,h.kp.trans (Kp.of_below hb)⟩
theorem A2i {w:World}{x:DX}{b bp f:Nat}{m:DM}{v:VM}{wv:Value}{rk:By}{lk:Nat}{lo a:By}{z:PL}{fv:Value}(H:Oy w x b bp f m v wv rk lk lo a z fv){n p:Nat}{d:By}{es:PL}{ev:Value}(K:Av w n true p d (es.map Dm) ev)(h1:f∉Ad n ev)(h2:∀j,fv.ownBlock=some j->j∉Ad n ev)(h0:es≠[])(bv:es.length<=5)(ha:Ba es)(C:z.length<=100000):
  Cl 63 #[.pointer (some ⟨f,0,none⟩),.pointer (some ⟨n,0,none⟩)] w fun e w'=>e=.returned (.int .i64 0)/\∃o,Uf w w' x b bp f m v wv rk lk lo a (z++Bk lo a es) fv o:=by
 have Y:=Aa (Ab K (Ab h1 (Ab h2 (Ab h0 (Ab ha C)))));have a9:Uf w w x b bp f m v wv rk lk lo a (z++Bk lo a (es.take 0)) fv fv:=⟨by simpa [Bk]using H,fun j a4=>.inl a4,Kp.refl _ _⟩;have ad:=Aa a9;obtain⟨S,a6⟩:=nmd (es.length);have b8:S<=5:=by omega
 have X:=Aa a6;clear H K h1 h2 h0 ha C a9 bv a6;go_enter Tryz.func63,Tryz.ntmps63;go_wp2_with fail
 go_loopw [5,6,7,8] (fun i _ _ _ wr=>∃j:Nat,i=.int .i64 (j:Int)/\j<=S/\∃o,Uf w wr x b bp f m v wv rk lk lo a (z++Bk lo a (es.take j)) fv o) (fun i _ _ _ _=>(20-intOf i).toNat)
 case atStart=>exact⟨0,rfl,Cu _,fv,ad.o⟩
 case round=>
  obtain⟨j,rfl,a4,o,s⟩:=hrel;obtain⟨K,h1,h2,h0,ha,C⟩:=Y.o;have L:es.map Dm≠[]:=by simpa using h0
  have br:=Aa (show ∀q∈f::o.ownBlock.toList,q∉Ad n ev from fun q c g=>by
   simp only[Al,Bf]at c;rcases c with rfl|c
   ·exact h1 g
   ·rcases s.own q c with e|e
    ·exact h2 q e g
    ·have:=K.bound g;omega)
  have D:Av wr n true p d (es.map Dm) ev:=K.kp s.kp (fun g=>by
   simp only[Al,Bf]at g;rcases g with g|g
   ·exact h1 (by simp[Ad,g])
   ·exact h2 _ g (by simp[Ad])) (fun q c g=>by
   simp only[Al,Bf]at g;rcases g with g|g
   ·subst g;exact h1 (by simp[Ad,c])
   ·exact h2 _ g (by simp[Ad,c]))
  obtain⟨u,cap,U,bm,b3,bt,bx,h,al⟩:=D.row L;have c3:=D.node.c3;rw[U,Fi,X.o]at c3;have c0:=D.node.c0;have s2:=s.gas.sc.c2;have bw:=s.gas.sc.c3;by_cases bh:j<S
  ·have b9:(j:Int)<(S:Int):=by omega
   obtain⟨e,P⟩:∃e,es[j]?=some e:=⟨es[j]'(by rw[X.o];exact bh),Az _⟩;have k:(es.map Dm)[j]?=some (Dm e):=by rw[Fq,P];rfl
   have o0:wr.cell? ⟨u,j*5,none⟩=some (Ac e.1):=h j _ k 0 (by decide);have J:es.take (j+1)=es.take j++[e]:=by rw[Nv,P];rfl
   have ac:=Mk e.1 a
   cases hh:Op.bytesLess a e.1 with
   |true=>
    have bl:Bk lo a es=Bk lo a (es.take j):=by
     conv=>lhs;rw[<-Jb j es]
     rw[Qq,Aoo (l:=es.drop j),Ff];intro y hy
     have hd:es.drop j=e::es.drop (j+1):=by
      have a1:=(Ds.1 P).1;rw[Kh a1]
      congr 1
      rw[Az a1]at P;exact Option.some.inj P
     rw[hd]at hy;rcases Al.1 hy with rfl|g
     ·exact hh
     ·have ay:Ba (es.drop j):=List.Pairwise.sublist (List.drop_sublist j es) ha;rw[hd]at ay;exact Lt.trans hh ((Er.1 ay).1 y g)
    have an:=Aa (show ∀w',Bw wr w'->∃o,Uf w w' x b bp f m v wv rk lk lo a (z++Bk lo a es) fv o from fun w' hb=>⟨o,by rw[bl];exact s.below hb⟩);rw[hh]at ac;simp only[Qy]at ac;clear K h1 h2 h0 ha C L D U h al s ad Y bl J k P;go_wp2_with fail;go_quiet (fail);go_wp2_with fail;go_ret;exact⟨rfl,an.o _ (Bp (Ah _ _) _)⟩
   |false=>
    rw[hh]at ac;simp only[Qx]at ac;have o1:wr.cell? ⟨u,j*5+1,none⟩=some (Ac e.2):=h j _ k 1 (by decide);have af:wr.cell? ⟨u,j*5+2,none⟩=some (.int .i64 (0:Nat)):=h j _ k 2 (by decide);have aa:wr.cell? ⟨u,j*5+3,none⟩=some (Ac []):=h j _ k 3 (by decide);have ae:wr.cell? ⟨u,j*5+4,none⟩=some (.pointer none):=h j _ k 4 (by decide);have ax:=Aa (Ab s (Ab D (Ab k (Ab L C))));have bc:=Aa U;clear K h1 h2 h0 ha C L D U h al s ad Y k P o1 af aa ae c0 s2 bm b3 bt bx;go_wp2_with fail;go_quiet (fail);obtain⟨t,ah⟩:=nmd (wr.drewN nq);rw[ah];have aq:Bw wr t:=ah▸Bp (Ah _ _) nq;obtain⟨s,D,k,L,C⟩:=ax.o;have R:=D.below aq;have ag:=s.below aq;obtain⟨bo,bu,a8,_,_,_,_,h,_⟩:=R.row L
    have Q:u=bo/\cap=bu:=by have:=bc.o.symm.trans a8;simpa using this
    obtain⟨rfl,rfl⟩:=Q;have bd:=R.node.c3;rw[bc.o,Fi,X.o]at bd;have o0:t.cell? ⟨u,j*5,none⟩=some (Ac e.1):=h j _ k 0 (by decide);have o1:t.cell? ⟨u,j*5+1,none⟩=some (Ac e.2):=h j _ k 1 (by decide);have af:t.cell? ⟨u,j*5+2,none⟩=some (.int .i64 (0:Int)):=h j _ k 2 (by decide);have aa:t.cell? ⟨u,j*5+3,none⟩=some (Ac []):=h j _ k 3 (by decide);have ae:t.cell? ⟨u,j*5+4,none⟩=some (.pointer none):=h j _ k 4 (by decide);obtain⟨N,T⟩:=nmd (t.alloc (.cells #[Ac e.1,Ac e.2,.int .i64 0,Ac [],.pointer none] 142));have Q:Bw t N:=T▸(Ah _ _).alloc (Ak _) _;have av:N.heap[t.heap.size]?=some (.cells #[Ac e.1,Ac e.2,.int .i64 0,Ac [],.pointer none] 142 (0,0)):=T▸heap_alloc_new t _;have ar:=ag.below Q;have a7:=(R.below Q).node.c0;have a0:=ar.gas.sc.c2;have r0:N.cell? ⟨t.heap.size,0,none⟩=some (Ac e.1):=crw av rfl;have I:=Aa (Ab ar (Ab av (R.below Q)));have bk:=C;have bf:=Aa (Ab ag R);simp only[Ac]at o0 o1 af aa ae T;have a2:=Aa T;clear ah aq s D k L C R ag a8 h Q av ar c3 ax bw T;go_wp2_with fail;rw[a2.o];have ai:N.cell? ⟨t.heap.size,0,none⟩=some (.string ⟨e.1.toArray⟩):=r0;obtain⟨r,hr⟩:=nmd (t.heap.size);rw[hr]at r0 ai I⊢;have b1:=Aa hr;clear o0 o1 af aa ae bd r0 a2 hr;have V:=Mk lo e.1;have Z:(Op.bytesLess lo e.1||e.1==lo)= !Op.bytesLess e.1 lo:=by rw[<-V];congr 1;exact Bool.beq_comm
    cases ab:Op.bytesLess e.1 lo with
    |true=>
     rw[ab]at V Z;simp only[Qy]at V Z
     have aj:=Aa (show Bk lo a (es.take (j+1))=Bk lo a (es.take j)from by rw[J,Qq,Yw (l:=[e]) (fun y hy=>by simp at hy;subst hy;unfold Km;rw[ab];rfl),Ff])
     clear J;go_quiet (fail);obtain⟨wf,O⟩:=nmd (N.drewN nq);rw[O];have M:Bw N wf:=O▸Bp (Ah _ _) nq;have b6:=(I.o.2.2.below M).node.c0;have F:=I.o.1.below M;have bn:=Aa F;clear O M F a7 a0 ai;go_wp2_with fail;go_quiet (fail);go_wp2_with fail;refine⟨⟨j+1,by first|rfl|push_cast;rfl,by omega,o,?_⟩,by simp only[intOf];omega⟩;rw[aj.o];exact bn.o.below (Bp (Ah _ _) _)
    |false=>
     rw[ab]at V Z;simp only[Qx]at V Z
     have aj:=Aa (show Bk lo a (es.take (j+1))=Bk lo a (es.take j)++[e]from by
      have b0:Km lo a e=true:=by unfold Km;rw[ab,hh];rfl
      rw[J,Qq]
      congr 1
      unfold Bk;rw[Ab9 b0]
      rfl)
     have b2:=Aa bk;clear J bk;go_quiet (fail);obtain⟨wf,O⟩:=nmd (N.drewN nq);rw[O];have M:Bw N wf:=O▸Bp (Ah _ _) nq;have F:=I.o.1.below M;have aw:=(M.block r (lt_of_block I.o.2.1)).trans I.o.2.1;have az:=I.o.2.2.below M
     obtain⟨w0,w1,w2,E,be,a3,A⟩:=A3l F.gas e (by
      rw[Bb];have:(Bk lo a (es.take j)).length<=(es.take j).length:=Tv _ _;rw[Fr]at this;have:=b2.o
      omega)
     have bg:∀q∈f::o.ownBlock.toList,q≠r:=fun q c=>by
      simp only[Al,Bf]at c;have b7:=b1.o;rcases c with rfl|c
      ·have:=bf.o.1.gas.sc.lt;omega
      ·have:=Hl bf.o.1.gas.row q c;omega
     have am:=br.o;have ap:∀w'∈[w0,w1,w2,E],w'.heap[r]?=some (.cells #[Ac e.1,Ac e.2,.int .i64 0,Ac [],.pointer none] 142 (0,0)):=fun w' W=>((A.kp w' W).block r (lt_of_block aw) (fun g=>bg r g rfl)).trans aw;have bb:∀w'∈[w0,w1,w2,E],w'.cell? ⟨r,0,none⟩=some (Ac e.1):=fun w' W=>by rw[cell_of_row _ _ _ _ _ _ (ap w' W)];rfl
     have bj:∀w'∈[w0,w1,w2,E],w'.cell? ⟨r,1,none⟩=some (Ac e.2):=fun w' W=>by rw[cell_of_row _ _ _ _ _ _ (ap w' W)];rfl
     have a5:Av E n true p d (es.map Dm) ev:=az.kp (A.kp E (by simp)) (fun g=>am n g (by simp[Ad])) (fun q c g=>am q g (by simp[Ad,c]));have b4:=a5.node.c0
     have ak:Uf w E x b bp f m v wv rk lk lo a (z++Bk lo a (es.take (j+1))) fv (.slice be ((z++Bk lo a (es.take j)).length+1) a3):=by
      refine⟨by rw[aj.o,<-Cw];exact A.gas,fun q c=>?_,F.kp.step (A.kp E (by simp)) (fun q c=>?_)⟩
      ·rcases A.own q c with g|g
       ·exact F.own q g
       ·exact .inr (Hb F.kp.size g)
      ·simp only[Al,Bf]at c⊢;rcases c with g|g
       ·exact .inl (.inl g)
       ·exact(F.own q g).imp .inr id
     obtain⟨bs,bi⟩:=nmd ((z++Bk lo a (es.take j)).length);have ao:=Ab A.e0 (Ab A.e1 (Ab A.run (Ab A.e3 (Ab A.fr A.c))));rw[bi]at ao ak;have bq:=Aa ak;have G:=Aa ao;have au:=Aa (Ab bb bj);clear ao O M F aw az A bg am ap bb bj a5 ak a7 a0 ai I bi;go_wp2_with fail;refine Gf (Ek [w0,w1,w2,E]) [10,11,14] (by kernel_rfl) (by kernel_rfl) (by rw[G.o.1];rfl) ?_;refine Am 0 (.pointer (some ⟨f,0,none⟩)) ?_;refine Am 1 (.pointer (some ⟨f,0,none⟩)) ?_;refine Am 2 (.pointer (some ⟨f,0,none⟩)) ?_;refine Am 3 (.pointer (some ⟨f,4,none⟩)) ?_;refine Mh 4 2 (o) A12 (fun q c w hw=>G.o.2.2.2.2.2 w (hw.upto c (by simp))) ?_;refine Am 5 (.pointer (some ⟨r,0,none⟩)) ?_;refine Gv 6 (Ac e.1) Im (fun q w hw=>au.o.1 w hw.mem) ?_;refine Am 7 (.pointer (some ⟨r,1,none⟩)) ?_;refine Gv 8 (Ac e.2) Im (fun q w hw=>au.o.2 w hw.mem) ?_;refine Am 9 (.agg #[Ac e.1,Ac e.2]) ?_;refine Gr 10 (.slice (some ⟨w0.heap.size,0,none⟩) 1 1) rfl (by kernel_rfl) rfl (Qb w0 w1 rfl rfl (by rw[<-G.o.2.1];exact Azv _ _ _ e.1 e.2 rfl (by kernel_rfl) w0)) ?_;refine Gr 11 (.slice be (bs+1) a3) rfl (by kernel_rfl) rfl (Qb w1 w2 rfl rfl (Abd _ _ _ _ _ _ _ rfl (by kernel_rfl) (by kernel_rfl) G.o.2.2.1)) ?_;refine Am 12 (.pointer (some ⟨f,0,none⟩)) ?_;refine Am 13 (.pointer (some ⟨f,4,none⟩)) ?_;refine Kr 14 rfl (by kernel_rfl) rfl (Kv w2 E rfl rfl (by rw[<-G.o.2.2.2.1];exact Awq _ _ _ _ f 4 _ _ _ _ rfl (by kernel_rfl) (by kernel_rfl) w2 (G.o.2.2.2.2.2 w2 (by simp)) G.o.2.2.2.2.1)) ?_;refine Cj.done (by kernel_rfl) fun w' ba=>?_;simp only[Act.put,Cz,Dg,Co];obtain rfl:=ba.eq (w0:=E) rfl;clear ba G au;go_wp2_with fail;go_quiet (fail);go_wp2_with fail;refine⟨⟨j+1,by first|rfl|push_cast;rfl,by omega,_,bq.o.below (Bp (Ah _ _) _)⟩,by simp only[intOf];omega⟩
  ·have bz:j=S:=by omega
   subst bz;have J:es.take j=es:=by rw[<-X.o,Yb]
   rw[J]at s;have an:=Aa (show ∀w',Bw wr w'->∃o,Uf w w' x b bp f m v wv rk lk lo a (z++Bk lo a es) fv o from fun w' hb=>⟨o,s.below hb⟩);have b5:decide ((j:Int)<(j:Int))=false:=by simp
   clear K h1 h2 h0 ha C L D U h al s ad Y J bh;go_wp2_with fail;go_quiet (fail);go_wp2_with fail;go_ret;exact⟨rfl,an.o _ (Bp (Ah _ _) _)⟩
theorem Lg {α:Type}{es:List α}{j:Nat}{e:α}(a:es[j]?=some e):es.drop j=e::es.drop (j+1):=by
 have b:=(Ds.1 a).1;rw[Kh b]
 congr 1
 rw[Az b]at a;exact Option.some.inj a
theorem Auv {h:Nat}{lo hi:By}{es:List (By×Nd h)}(hk:∀e∈es,Gl e)(ha:Ba (es.flatMap fun e=>flat h e.2)){j:Nat}{e:By×Nd h}(c:es[j]?=some e)(hh:Lt hi e.1):Bk lo hi (es.flatMap fun e=>flat h e.2)=Bk lo hi ((es.take j).flatMap fun e=>flat h e.2):=by
 have m:es=es.take j++(e::es.drop (j+1)):=by rw[<-Lg c,Jb]
 have i:(es.flatMap fun e=>flat h e.2)=((es.take j).flatMap fun e=>flat h e.2)++((e::es.drop (j+1)).flatMap fun e=>flat h e.2):=by
  conv=>lhs;rw[m]
  rw[Gh]
 rw[i]at ha⊢;rw[Qq,Aoo (l:=(e::es.drop (j+1)).flatMap fun e=>flat h e.2),Ff];have a:=hk e (Hs c);obtain⟨x,l,f,n⟩:=Abp h e.2 a.1.1 a.1.ne;have d:=(Dc.1 ha).2.1;rw[Da,f,Qv]at d;intro k hy;rw[Da,f,Qv]at hy;have b:Lt hi x.1:=by rw[n,<-a.2];exact hh
 rcases Al.1 hy with rfl|g
 ·exact b
 ·exact b.trans ((Er.1 d).1 k g)
theorem Azu {h:Nat}{lo hi:By}{es:List (By×Nd h)}(hk:∀e∈es,Gl e)(ha:Ba (es.flatMap fun e=>flat h e.2)){j:Nat}{e a:By×Nd h}(f:es[j]?=some e)(c:es[j+1]?=some a)(hh:¬Lt lo a.1):Bk lo hi (flat h e.2)=[]:=by
 have g:es=es.take j++(e::a::es.drop (j+2)):=by rw[<-Lg c,<-Lg f,Jb]
 rw[g,Gh,Da,Da]at ha;have k:=(Dc.1 (Dc.1 ha).2.1).2.2;have b:=hk a (Hs c);obtain⟨x,l,i⟩:=Aa3 b.1;refine A27 fun d hy=>?_;have h1:=k d hy x (Bl _ l);rw[i,<-b.2]at h1;exact Ad8 h1 hh
structure Ue (w:World)(x:DX)(b bp sb:Nat)(m:DM)(v:VM)(wv:Value)(rk:By)(lk:Nat)(lo hi:By)(F:PL)(fv:Value)(h n:Nat)(t:Nd h)(ev:Value):Prop where
 gas:Oy w x b bp sb m v wv rk lk lo hi F fv
 nd:Gx w n (h==0) t.place t.dig (Cg h t) ev
 st:Cm m rk h t
 wf:Wf h t
 asc:Ba (flat h t)
 ne:t.es≠[]
 le:t.es.length<=5
 lke:lk+nn h t<=49
 h1:sb∉Ad n ev
 h2:∀j,fv.ownBlock=some j->j∉Ad n ev
 o:∀j∈Ad n ev,Dx x b bp wv j
 len:F.length+(flat h t).length<=100000
structure GaK (w wr:World)(x:DX)(b bp sb:Nat)(m:DM)(v:VM)(wv:Value)(rk:By)(lk:Nat)(lo hi:By)(F:PL)(fv0 fv:Value)(X:List Nat):Prop where
 gas:Oy wr x b bp sb m v wv rk lk lo hi F fv
 own:∀j,fv.ownBlock=some j->fv0.ownBlock=some j\/w.heap.size<=j
 kp:Kp (sb::fv0.ownBlock.toList++X) w wr
def Vk (w w':World)(x:DX)(b bp sb:Nat)(m:DM)(v:VM)(wv:Value)(rk:By)(lk:Nat)(lo hi:By)(F:PL)(fv:Value)(h n:Nat)(t:Nd h)(ev:Value):Prop:=
 ∃a lk',lk'+1<=lk+nn h t/\GaK w w' x b bp sb m v wv rk lk' lo hi (F++Bk lo hi (flat h t)) fv a (Ad n ev)
theorem Azr {w:World}{x:DX}{b bp sb:Nat}{m:DM}{v:VM}{wv:Value}{rk:By}{lk:Nat}{lo hi:By}{F:PL}{fv:Value}{n:Nat}{t:Nd 0}{ev:Value}(H:Ue w x b bp sb m v wv rk lk lo hi F fv 0 n t ev):
  Cl 63 #[.pointer (some ⟨sb,0,none⟩),.pointer (some ⟨n,0,none⟩)] w fun e w'=>e=.returned (.int .i64 0)/\Vk w w' x b bp sb m v wv rk lk lo hi F fv 0 n t ev:=by
 have f:(Cg 0 t).map Aw.eg=t.es.map Dm:=by simp[Cg,Aw.eg,Dm,Function.comp_def]
 have c:=H.nd.nd;rw[f]at c;refine(A2i H.gas c H.h1 H.h2 H.ne H.le H.asc (by have:=H.len;omega)).mono ?_;rintro e w' ⟨rfl,d,a⟩;exact⟨rfl,d,lk,by simp[nn],a.gas,a.own,a.kp.mono (fun j g=>Bl _ g)⟩
structure Oz (w wr:World)(x:DX)(b bp sb:Nat)(m:DM)(v:VM)(wv:Value)(rk:By)(lk:Nat)(lo hi:By)(F:PL)(fv0:Value)(h n:Nat)(t:Nd (h+1))(ev:Value)(j:Nat)(fv:Value)(lk':Nat)(rows:List EG):Prop where
 k:GaK w wr x b bp sb m v wv rk lk' lo hi (F++Bk lo hi ((t.es.take j).flatMap fun e=>flat h e.2)) fv0 fv (Ad n ev)
 nd:Av wr n false t.place t.dig rows ev
 len:rows.length=t.es.length
 row:∀i e,t.es[i]?=some e->∃c,rows[i]?=some ⟨e.1,[],e.2.place,e.2.dig,c⟩/\(j<=i->c=none)
 lke:lk'+((t.es.drop j).map fun e=>nn h e.2).sum+1<=lk+nn (h+1) t
section
variable {w wr w':World}{x:DX}{b bp sb:Nat}{m:DM}{v:VM}{wv:Value}{rk:By}{lk:Nat}{lo hi:By}{F:PL}{fv0:Value}{h n:Nat}{t:Nd (h+1)}{ev:Value}{j:Nat}{fv:Value}{lk':Nat}{rows:List EG}
theorem GaK.below {X:List Nat}(hk:GaK w wr x b bp sb m v wv rk lk' lo hi F fv0 fv X)(hb:Bw wr w'):GaK w w' x b bp sb m v wv rk lk' lo hi F fv0 fv X:=⟨hk.gas.below hb,hk.own,hk.kp.trans (Kp.of_below hb)⟩
theorem Oz.below (a:Oz w wr x b bp sb m v wv rk lk lo hi F fv0 h n t ev j fv lk' rows)(hb:Bw wr w'):Oz w w' x b bp sb m v wv rk lk lo hi F fv0 h n t ev j fv lk' rows:=⟨a.k.below hb,a.nd.below hb,a.len,a.row,a.lke⟩
theorem Ue.start (H:Ue w x b bp sb m v wv rk lk lo hi F fv0 (h+1) n t ev):Oz w w x b bp sb m v wv rk lk lo hi F fv0 h n t ev 0 fv0 lk ((Cg (h+1) t).map Aw.eg):=by
 refine⟨⟨by simpa [Bk]using H.gas,fun j c=>.inl c,Kp.refl _ _⟩,H.nd.nd,Yx _ _,fun i e a=>⟨none,?_,fun _=>rfl⟩,?_⟩
 ·simp only[Cg,Pq,Fq,a];rfl
 ·rw[List.drop_zero,nn];omega
theorem Oz.skip (a:Oz w wr x b bp sb m v wv rk lk lo hi F fv0 h n t ev j fv lk' rows){e:By×Nd h}(d:t.es[j]?=some e)(p:Bk lo hi (flat h e.2)=[]):Oz w wr x b bp sb m v wv rk lk lo hi F fv0 h n t ev (j+1) fv lk' rows:=by
 have f:t.es.take (j+1)=t.es.take j++[e]:=by rw[Nv,d];rfl
 refine⟨?_,a.nd,a.len,fun i k o=>?_,?_⟩
 ·rw[f,Gh,Qq];simp only[Da,List.flatMap_nil,Ff,p];exact a.k
 ·obtain⟨c,q,l⟩:=a.row i k o;exact⟨c,q,fun g=>l (by omega)⟩
 ·have:=a.lke;rw[Lg d,Db,Jy]at this;omega
theorem Oz.down (H:Ue w x b bp sb m v wv rk lk lo hi F fv0 (h+1) n t ev)(d:Oz w wr x b bp sb m v wv rk lk lo hi F fv0 h n t ev j fv lk' rows){e:By×Nd h}(k:t.es[j]?=some e)
  (ih:∀(n:Nat) (t:Nd h) (ev:Value) (w:World) (F:PL) (fv:Value) (lk:Nat),Ue w x b bp sb m v wv rk lk lo hi F fv h n t ev->Cl 63 #[.pointer (some ⟨sb,0,none⟩),.pointer (some ⟨n,0,none⟩)] w fun e w'=>e=.returned (.int .i64 0)/\Vk w w' x b bp sb m v wv rk lk lo hi F fv h n t ev):
  Cl 87 #[.pointer (some ⟨sb,0,none⟩),.pointer (some ⟨n,0,none⟩),.int .i64 (j:Int)] wr fun r w1=>∃f,r=.returned (.tuple #[.pointer (some ⟨f,0,none⟩),.int .i64 0])/\
   Cl 63 #[.pointer (some ⟨sb,0,none⟩),.pointer (some ⟨f,0,none⟩)] w1 fun r2 w2=>r2=.returned (.int .i64 0)/\∃z y W,Oz w w2 x b bp sb m v wv rk lk lo hi F fv0 h n t ev (j+1) z y W:=by
 have p:=Hs k;have o:Gl e:=(Gg.1 H.wf) e p;obtain⟨c,D,K⟩:=d.row j e k;have M:=K (Ak _);subst M;have R:=(Ds.1 k).1;have J:t.es.take (j+1)=t.es.take j++[e]:=by rw[Nv,k];rfl
 have aa:=d.lke;rw[Lg k,Db,Jy]at aa;have ae:=H.lke;have ad:=Yk h e.2;have I:∀q∈Ad n ev,q<w.heap.size:=fun q a=>H.nd.nd.bound a;have ab:=d.k.kp.size;refine(Anb d.k.gas.env d.nd D (H.st.2 e p) o (by rw[d.len];have:=H.le;omega) (by omega) H.h1).mono ?_;rintro r w1 ⟨f,ev',rfl,Z,N,X,u,S,L⟩;have A:∀q∈ev.ownBlock.toList,q∈Ad n ev:=fun q a=>by simp only[Ad,Al];exact .inr a
 have G:∀q,fv.ownBlock=some q->q∉Ad n ev:=fun q a g=>by
  rcases d.k.own q a with e|e
  ·exact H.h2 q e g
  ·have:=I q g;omega
 have U:=d.k.gas.sc.up Z
 have l:∀q∈Ad f ev',wr.heap.size<=q:=fun q a=>by
  simp only[Ad,Al,Bf]at a;rcases a with rfl|g
  ·exact S
  ·exact L q g
 have Q:=d.k.gas.kp u (fun q a=>by
  rcases Al.1 a with rfl|g
  ·exact d.k.gas.env.o
  ·exact H.o q (A q g)) U (fun q a g=>by
  rcases Al.1 g with rfl|g
  ·exact(d.k.gas.sep _ a).1 rfl
  ·exact G q a (A q g))
 have af:=d.k.gas.sc.lt
 have T:(F++Bk lo hi ((t.es.take j).flatMap fun e=>flat h e.2)).length+(flat h e.2).length<=100000:=by
  have h1:=H.len;have h2:(Bk lo hi ((t.es.take j).flatMap fun e=>flat h e.2)).length<=((t.es.take j).flatMap fun e=>flat h e.2).length:=Tv _ _
  have P:((t.es.take j).flatMap fun e=>flat h e.2).length+(flat h e.2).length<=(flat (h+1) t).length:=by
   show _<=(t.es.flatMap fun e=>flat h e.2).length
   conv=>rhs;rw[<-Jb j t.es,Lg k]
   rw[Gh,Bb,Da,Bb];omega
  rw[Bb];omega
 have V:Ba (flat h e.2):=(List.pairwise_flatMap.1 (show Ba (t.es.flatMap fun e=>flat h e.2)from H.asc)).1 e p;refine⟨f,rfl,(ih f e.2 ev' w1 _ fv (lk'+1) ⟨Q,N,H.st.2 e p,o.1.1,V,o.1.ne,o.1.2.2,by omega,fun g=>?_,fun q a g=>?_,fun q a=>d.k.gas.env.new (l q a),T⟩).mono ?_⟩
 ·have:=l _ g;omega
 ·have:=l _ g;have P:=Hl d.k.gas.row q a;omega
 ·rintro r2 w2 ⟨rfl,z,y,ac,s⟩;have ag:=u.size;refine⟨rfl,z,y,rows.set j ⟨e.1,[],e.2.place,e.2.dig,some f⟩,⟨?_,fun q a=>?_,?_⟩,?_,by rw[Ht];exact d.len,fun i Y C=>?_,by omega⟩
  ·rw[J,Gh,Qq];simp only[Da,List.flatMap_nil,Ff];rw[<-Cw];exact s.gas
  ·rcases s.own q a with g|g
   ·exact d.k.own q g
   ·exact .inr (by omega)
  ·refine(d.k.kp.step u (fun q a=>?_)).step s.kp (fun q a=>?_)
   ·rcases Al.1 a with rfl|g
    ·exact .inl (by simp)
    ·exact .inl (by simp[A q g])
   ·rcases As.1 a with g|g
    ·simp only[Al,Bf]at g;rcases g with rfl|g
     ·exact .inl (by simp)
     ·rcases d.k.own q g with e|e
      ·exact .inl (by simp[e])
      ·exact .inr e
    ·exact .inr (by have:=l q g;omega)
  ·have E:∀q∈Ad n ev,q∉sb::fv.ownBlock.toList++Ad f ev':=fun q a g=>by
    rcases As.1 g with g|g
    ·simp only[Al,Bf]at g;rcases g with rfl|g
     ·exact H.h1 a
     ·exact G q g a
    ·have:=l q g;have:=I q a;omega
   exact X.kp s.kp (E n (by simp[Ad])) (fun q a=>E q (by simp[Ad,a]))
  ·by_cases e1:i=j
   ·subst e1;rw[k]at C;cases C;exact⟨some f,by rw[List.getElem?_set_self (by rw[d.len];exact R)],fun g=>by omega⟩
   ·obtain⟨c,D,O⟩:=d.row i Y C;exact⟨c,by rw[List.getElem?_set_ne (Ne.symm e1)];exact D,fun g=>O (by omega)⟩
end
theorem A24 {x:DX}{b bp k:Nat}{m:DM}{v:VM}{wv:Value}{rk:By}{lo d:By}{h:Nat}
  (ih:∀(n:Nat) (t:Nd h) (ev:Value) (w:World) (s:PL) (fv:Value) (lk:Nat),Ue w x b bp k m v wv rk lk lo d s fv h n t ev->Cl 63 #[.pointer (some ⟨k,0,none⟩),.pointer (some ⟨n,0,none⟩)] w fun e w'=>e=.returned (.int .i64 0)/\Vk w w' x b bp k m v wv rk lk lo d s fv h n t ev)
  {n:Nat} {t:Nd (h+1)} {ev:Value} {w:World} {s:PL} {fv:Value} {lk:Nat} (H:Ue w x b bp k m v wv rk lk lo d s fv (h+1) n t ev):
  Cl 63 #[.pointer (some ⟨k,0,none⟩),.pointer (some ⟨n,0,none⟩)] w fun e w'=>e=.returned (.int .i64 0)/\Vk w w' x b bp k m v wv rk lk lo d s fv (h+1) n t ev:=by
 have P:=Aa (Ab H ih);have ax:=Aa H.start;obtain⟨p,aw⟩:=nmd (t.es.length);have bo:p<=5:=by have:=H.le;omega
 have bs:(p:Int)<=5:=by omega
 have M:=Aa aw;have W:=Aa (show ∀w' z C y j,Oz w w' x b bp k m v wv rk lk lo d s fv h n t ev j z C y->Bk lo d ((t.es.take j).flatMap fun e=>flat h e.2)=Bk lo d (flat (h+1) t)->Vk w w' x b bp k m v wv rk lk lo d s fv (h+1) n t ev from fun w' z C y j a G=>⟨z,C,by have:=a.lke;omega,by rw[<-G];exact a.k⟩);clear H ih aw;go_enter Tryz.func63,Tryz.ntmps63;go_wp2_with fail
 go_loopw [5,6,7,8] (fun i _ _ _ wr=>∃j:Nat,i=.int .i64 (j:Int)/\j<=p/\∃z C y,Oz w wr x b bp k m v wv rk lk lo d s fv h n t ev j z C y) (fun i _ _ _ _=>(20-intOf i).toNat)
 case atStart=>exact⟨0,rfl,Cu _,_,_,_,ax.o⟩
 case round=>
  obtain⟨j,rfl,bn,z,C,y,a⟩:=hrel;clear ax;obtain⟨H,ih⟩:=P.o;have l:y.length=p:=by rw[a.len,M.o]
  have q:y≠[]:=fun e=>by rw[e]at l;have h1:=M.o;have:=Pn.2 H.ne;simp at l;omega
  obtain⟨u,cap,S,a5,bj,a9,be,f,ak⟩:=a.nd.row q;have c3:=a.nd.node.c3;rw[S,l]at c3;have bc:=a.k.gas.sc.c3;have L:∀e∈t.es,Gl e:=Gg.1 H.wf;have R:Ba (t.es.flatMap fun e=>flat h e.2):=H.asc;by_cases a2:j<p
  ·have bq:(j:Int)<(p:Int):=by omega
   obtain⟨e,Q⟩:∃e,t.es[j]?=some e:=⟨t.es[j]'(by rw[M.o];exact a2),Az _⟩;obtain⟨c,o,al⟩:=a.row j e Q;have a6:=al (Ak _);subst a6;have o0:wr.cell? ⟨u,j*5,none⟩=some (Ac e.1):=f j _ o 0 (by decide);have aa:=Mk e.1 d
   cases hh:Op.bytesLess d e.1 with
   |true=>have a4:Bk lo d ((t.es.take j).flatMap fun e=>flat h e.2)=Bk lo d (flat (h+1) t):=(Auv L R Q hh).symm;have am:=Aa (show ∀w',Bw wr w'->Vk w w' x b bp k m v wv rk lk lo d s fv (h+1) n t ev from fun w' hb=>W.o w' z C y j (a.below hb) a4);rw[hh]at aa;simp only[Qy]at aa;clear H ih l q S f ak L R Q o al a P W a4;go_wp2_with fail;go_quiet (fail);go_wp2_with fail;go_ret;exact⟨rfl,am.o _ (Bp (Ah _ _) _)⟩
   |false=>
    rw[hh]at aa;simp only[Qx]at aa;have ap:=Aa (Ab a (Ab q (Ab o l)));have ad:=Aa S;have D:=Aa (Ab Q (Ab L R));clear H ih l q S f ak L R Q o al a W a5 bj a9 be;go_wp2_with fail;go_quiet (fail);obtain⟨A,ai⟩:=nmd (wr.drewN nq);rw[ai];have a1:Bw wr A:=ai▸Bp (Ah _ _) nq;obtain⟨a,q,o,l⟩:=ap.o;have Y:=a.below a1;obtain⟨ah,aj,T,_,_,_,_,f,_⟩:=Y.nd.row q
    have I:u=ah/\cap=aj:=by have:=ad.o.symm.trans T;simpa using this
    obtain⟨rfl,rfl⟩:=I;have ae:=Y.nd.node.c3;rw[ad.o,l]at ae;have o0:A.cell? ⟨u,j*5,none⟩=some (Ac e.1):=f j _ o 0 (by decide);have o1:A.cell? ⟨u,j*5+1,none⟩=some (Ac []):=f j _ o 1 (by decide);have a0:A.cell? ⟨u,j*5+2,none⟩=some (.int .i64 (e.2.place:Int)):=f j _ o 2 (by decide);have aq:A.cell? ⟨u,j*5+3,none⟩=some (Ac e.2.dig):=f j _ o 3 (by decide);have au:A.cell? ⟨u,j*5+4,none⟩=some (.pointer none):=f j _ o 4 (by decide);obtain⟨ao,ab⟩:=nmd (A.alloc (.cells #[Ac e.1,Ac [],.int .i64 (e.2.place:Int),Ac e.2.dig,.pointer none] 142));have I:Bw A ao:=ab▸(Ah _ _).alloc (Ak _) _;have K:=Y.below I;have bb:=K.nd.node.c0;have ay:=Aa (Ab K (Ab q (Ab l o)));simp only[Ac]at o0 o1 a0 aq au ab;have ar:=Aa ab;clear ai a1 a q o l Y T f I K c3 ap bc ab;go_wp2_with fail;rw[ar.o];clear o0 o1 a0 aq au ae ar;go_quiet (fail);obtain⟨wf,ag⟩:=nmd (ao.drewN nq);rw[ag];have a3:Bw ao wf:=ag▸Bp (Ah _ _) nq;obtain⟨K,q,l,o⟩:=ay.o;have E:=K.below a3;obtain⟨ah,aj,T,_,_,_,_,f,_⟩:=E.nd.row q
    have I:u=ah/\cap=aj:=by have:=ad.o.symm.trans T;simpa using this
    obtain⟨rfl,rfl⟩:=I;have ae:=E.nd.node.c3;rw[ad.o,l]at ae;have bl:=E.nd.node.c0;have f2:=E.k.gas.sc.c2
    have bf:(j+1<p/\∃F:By×Nd h,t.es[j+1]?=some F/\wf.cell? ⟨u,(j+1)*5,none⟩=some (Ac F.1))\/¬j+1<p:=by
     by_cases g:j+1<p
     ·obtain⟨F,J⟩:∃e,t.es[j+1]?=some e:=⟨t.es[j+1]'(by rw[M.o];exact g),Az _⟩;obtain⟨br,bh,_⟩:=E.row (j+1) F J;exact .inl ⟨g,F,J,f (j+1) _ bh 0 (by decide)⟩
     ·exact .inr g
    have av:∀w',Bw wf w'->Cl 87 #[.pointer (some ⟨k,0,none⟩),.pointer (some ⟨n,0,none⟩),.int .i64 (j:Int)] w' fun r w1=>∃X,r=.returned (.tuple #[.pointer (some ⟨X,0,none⟩),.int .i64 0])/\
      Cl 63 #[.pointer (some ⟨k,0,none⟩),.pointer (some ⟨X,0,none⟩)] w1 fun r2 w2=>r2=.returned (.int .i64 0)/\∃a7 bd bi,Oz w w2 x b bp k m v wv rk lk lo d s fv h n t ev (j+1) a7 bd bi:=fun w' hb=>(E.below hb).down P.o.1 D.o.1 P.o.2
    have N:=Aa av;have af:=Aa E;clear ag a3 K q l o E T f ay bb av;rcases bf with⟨bk,F,J,bt⟩|bk
    ·have ba:(j:Int)+1<(p:Int):=by omega
     have ac:=Mk F.1 lo
     cases Z:Op.bytesLess lo F.1 with
     |false=>rw[Z]at ac;simp only[Qx]at ac;have a8:=Aa (af.o.skip D.o.1 (Azu D.o.2.1 D.o.2.2 D.o.1 J (by unfold Lt;rw[Z];decide)));clear J N D;go_wp2_with fail;go_quiet (fail);go_wp2_with fail;exact⟨⟨j+1,by first|rfl|push_cast;rfl,by omega,_,_,_,a8.o.below (Bp (Ah _ _) _)⟩,by simp only[intOf];omega⟩
     |true=>rw[Z]at ac;simp only[Qy]at ac;clear J;clear D af Z;go_wp2_with fail;go_quiet (fail);have U:=Aa (N.o _ (Bp (Ah wf.heap.size wf) nq));clear N;go_wp2_with fail;refine U.o.mono ?_;rintro r w1 ⟨X,rfl,G⟩;have V:=Aa G;clear G U;go_wp2_with fail;refine V.o.mono ?_;rintro r2 w2 ⟨rfl,O⟩;have an:=Aa O;clear O V;go_wp2_with fail;exact⟨⟨j+1,by first|rfl|push_cast;rfl,by omega,an.o⟩,by simp only[intOf];omega⟩
    ·have ba:decide ((j:Int)+1<(p:Int))=false:=by simp;omega
     clear D af;go_wp2_with fail;go_quiet (fail);have U:=Aa (N.o _ (Bp (Ah wf.heap.size wf) nq));clear N;go_wp2_with fail;refine U.o.mono ?_;rintro r w1 ⟨X,rfl,G⟩;have V:=Aa G;clear G U;go_wp2_with fail;refine V.o.mono ?_;rintro r2 w2 ⟨rfl,O⟩;have an:=Aa O;clear O V;go_wp2_with fail;exact⟨⟨j+1,by first|rfl|push_cast;rfl,by omega,an.o⟩,by simp only[intOf];omega⟩
  ·have bg:j=p:=by omega
   subst bg;have az:t.es.take j=t.es:=by rw[<-M.o,Yb]
   have am:=Aa (show ∀w',Bw wr w'->Vk w w' x b bp k m v wv rk lk lo d s fv (h+1) n t ev from fun w' hb=>W.o w' z C y j (a.below hb) (by rw[az];rfl));have bm:decide ((j:Int)<(j:Int))=false:=by simp
   clear H ih l q S f ak L R a P W az a2;go_wp2_with fail;go_quiet (fail);go_wp2_with fail;go_ret;exact⟨rfl,am.o _ (Bp (Ah _ _) _)⟩
theorem Aqa {x:DX}{b bp c:Nat}{m:DM}{v:VM}{wv:Value}{rk:By}{lo d:By}:∀(h n:Nat) (t:Nd h) (ev:Value) (w:World) (a:PL) (fv:Value) (lk:Nat),Ue w x b bp c m v wv rk lk lo d a fv h n t ev->
  Cl 63 #[.pointer (some ⟨c,0,none⟩),.pointer (some ⟨n,0,none⟩)] w fun e w'=>e=.returned (.int .i64 0)/\Vk w w' x b bp c m v wv rk lk lo d a fv h n t ev
 |0,_,_,_,_,_,_,_,H=>Azr H
 |h+1,_,_,_,_,_,_,_,H=>A24 (fun n t ev w a fv lk=>Aqa h n t ev w a fv lk) H
def Pw (lo a:By)(c:Ag):Bool:=Op.bytesLess c.key lo||Op.bytesLess a c.key
def Fs (c:Ag):PL:=if c.gone then []else [(c.key,c.value)]
def bel (k:By)(e:By×By):Bool:=Op.bytesLess e.1 k
def Lh (k:By):PL->PL
 | []=>[]
 |e::l=>if e.1=k then l else e::l
theorem Rl (k:By)(e:By×By)(l:PL):Lh k (e::l)=if e.1=k then l else e::l:=rfl
def Ji (lo a:By):PL->List Ag->PL
 |F,[]=>F
 |F,c::cs=>if Pw lo a c then Ji lo a F cs else F.takeWhile (bel c.key)++(Fs c++Ji lo a (Lh c.key (F.dropWhile (bel c.key))) cs)
theorem Abq (lo a:By)(b:PL)(c:Ag)(cs:List Ag):Ji lo a b (c::cs)=if Pw lo a c then Ji lo a b cs else b.takeWhile (bel c.key)++(Fs c++Ji lo a (Lh c.key (b.dropWhile (bel c.key))) cs):=rfl
def Nr (cs:List Ag):Prop:=cs.Pairwise fun a b=>Lt a.key b.key
theorem Afd {p:By×By->Bool}:∀(P b:PL),(∀e∈P,p e=true)->(P++b).takeWhile p=P++b.takeWhile p/\(P++b).dropWhile p=b.dropWhile p
 | [],_,_=>⟨rfl,rfl⟩
 |a::P,b,h=>by
  obtain⟨c,f⟩:=Afd P b (fun e d=>h e (by simp[d]));have ha:=h a (by simp);constructor
  ·rw[Qv,Ab5 ha,c];rfl
  ·rw[Qv,List.dropWhile_cons_of_pos ha,f]
theorem Am7 (lo f:By):∀(cs:List Ag) (P a:PL),(∀e∈P,∀c∈cs,Lt e.1 c.key)->Ji lo f (P++a) cs=P++Ji lo f a cs
 | [],_,_,_=>rfl
 |c::cs,P,a,h=>by
  rw[Abq,Abq];split
  ·exact Am7 lo f cs P a (fun e b d hd=>h e b d (by simp[hd]))
  ·obtain⟨h1,h2⟩:=Afd (p:=bel c.key) P a (fun e b=>h e b c (by simp));rw[h1,h2,Cw]
theorem Adt (k:By)(l:PL):(∀e∈l.takeWhile (bel k),Lt e.1 k)/\(∀e r,l.dropWhile (bel k)=e::r->¬Lt e.1 k):=by
 constructor
 ·intro e a;exact(Ya.1 (List.all_takeWhile (p:=bel k) (l:=l))) e a
 ·intro e r h;have:=List.head?_dropWhile_not (bel k) l;rw[h]at this;simp[bel]at this;unfold Lt;rw[this];decide
theorem Ai0 (k s:By)(B:PL)(h:∀e r,B=e::r->¬Lt e.1 k):Eb k s B=(k,s)::Lh k B:=by
 cases B with
 |nil=>rfl
 |cons e r=>rw[Rl];unfold Eb;rw[if_neg (h e r rfl)];split<;>rfl
theorem Ahr (k:By)(B:PL)(ha:Ba B)(h:∀e r,B=e::r->¬Lt e.1 k):Gw k B=Lh k B:=by
 cases B with
 |nil=>rfl
 |cons e r=>
  obtain⟨h1,h2⟩:=Er.1 ha;rw[Rl];split
  ·rename_i a
   have hr:∀b∈r,b.1≠k:=fun b hy=>by have:=h1 b hy;rw[a]at this;exact fun g=>this.ne g.symm
   have:Gw k (e::r)=Gw k r:=by unfold Gw;rw[List.filter_cons_of_neg (by simpa using a)]
   rw[this,Uj hr]
  ·rename_i a;refine Uj fun b hy=>?_;rcases Al.1 hy with rfl|g
   ·exact a
   ·have d:=h1 b g;rcases Ad4.1 (h e r rfl)with c|c
    ·exact absurd c a
    ·exact fun f=>by rw[f]at d;exact(c.trans d).ne rfl
theorem Aki (l:PL)(ha:Ba l)(c:Ag):Ca l c=l.takeWhile (bel c.key)++(Fs c++Lh c.key (l.dropWhile (bel c.key))):=by
 obtain⟨h1,h2⟩:=Adt c.key l;have a:l=l.takeWhile (bel c.key)++l.dropWhile (bel c.key):=List.takeWhile_append_dropWhile.symm;have b:Ba (l.dropWhile (bel c.key)):=List.Pairwise.sublist (List.dropWhile_sublist _) ha;unfold Ca Fs;split
 ·conv=>lhs;rw[a]
  rw[Aa8,Uj (l:=l.takeWhile (bel c.key)) (fun e d=>(h1 e d).ne),Ahr _ _ b h2];rfl
 ·conv=>lhs;rw[a]
  rw[Acr h1,Ai0 _ _ _ h2];rfl
theorem A2m (P a:PL)(c:Ag)(h:∀e∈P,Lt e.1 c.key):Ca (P++a) c=P++Ca a c:=by
 unfold Ca;split
 ·rw[Aa8,Uj (l:=P) (fun e b=>(h e b).ne)]
 ·exact Acr h
theorem Af7:∀(cs:List Ag) (P a:PL),(∀e∈P,∀c∈cs,Lt e.1 c.key)->cs.foldl Ca (P++a)=P++cs.foldl Ca a
 | [],_,_,_=>rfl
 |c::cs,P,a,h=>by rw[So,A2m P a c (fun e b=>h e b c (by simp)),Af7 cs P _ (fun e b d hd=>h e b d (by simp[hd]))];rfl
theorem Axg {k:By}{B:PL}(h:Ba B):Ba (Lh k B):=by
 cases B with
 |nil=>exact h
 |cons e r=>
  rw[Rl];split
  ·exact(Er.1 h).2
  ·exact h
theorem Ayo (lo a k:By)(l:PL):∀(_:Ba l),(Bk lo a l).takeWhile (bel k)=Bk lo a (l.takeWhile (bel k))/\(Bk lo a l).dropWhile (bel k)=Bk lo a (l.dropWhile (bel k)):=by
 intro ha;obtain⟨h1,h2⟩:=Adt k l;have d:l=l.takeWhile (bel k)++l.dropWhile (bel k):=List.takeWhile_append_dropWhile.symm;have f:Ba (l.dropWhile (bel k)):=List.Pairwise.sublist (List.dropWhile_sublist _) ha;obtain⟨A,h⟩:=nmd (l.takeWhile (bel k));obtain⟨B,j⟩:=nmd (l.dropWhile (bel k));rw[h,j]at d;rw[h]at h1⊢;rw[j]at h2 f⊢
 have u:∀e∈B,bel k e=false:=fun e c=>by
  cases B with
  |nil=>cases c
  |cons x r=>
   have i:=h2 x r rfl
   have:¬Lt e.1 k:=by
    rcases Al.1 c with rfl|g
    ·exact i
    ·intro q;exact i (((Er.1 f).1 e g).trans q)
   unfold bel
   cases hb:Op.bytesLess e.1 k with
   |false=>rfl
   |true=>exact absurd hb this
 obtain⟨n,o⟩:=Afd (p:=bel k) (Bk lo a A) (Bk lo a B) (fun e c=>h1 e ((List.mem_filter.1 c).1));rw[d,Qq,n,o]
 have hz:∀b:PL,(∀e∈b,bel k e=false)->b.takeWhile (bel k)=[]/\b.dropWhile (bel k)=b:=fun b t=>by
  cases b with
  |nil=>exact⟨rfl,rfl⟩
  |cons m b=>
   have hy:¬bel k m=true:=by rw[t m (by simp)];decide
   exact⟨Aaf hy,List.dropWhile_cons_of_neg hy⟩
 obtain⟨s,v⟩:=hz (Bk lo a B) (fun e c=>u e ((List.mem_filter.1 c).1));rw[s,v,Ff];exact⟨rfl,rfl⟩
theorem Ahh (lo a:By):∀(cs:List Ag) (l:PL),Ba l->Nr cs->Ji lo a (Bk lo a l) cs=Bk lo a (cs.foldl Ca l)
 | [],_,_,_=>rfl
 |c::cs,l,ha,hc=>by
  obtain⟨t,C⟩:=Er.1 hc;obtain⟨h1,h2⟩:=Adt c.key l;have w:l=l.takeWhile (bel c.key)++l.dropWhile (bel c.key):=List.takeWhile_append_dropWhile.symm;have n:Ba (l.dropWhile (bel c.key)):=List.Pairwise.sublist (List.dropWhile_sublist _) ha;have q:=Aki l ha c;obtain⟨x,h⟩:=Ayo lo a c.key l ha;obtain⟨A,v⟩:=nmd (l.takeWhile (bel c.key));obtain⟨B,u⟩:=nmd (l.dropWhile (bel c.key));rw[v,u]at q w;rw[v]at h1 x;rw[u]at h2 n h;have p:∀e∈A,∀d∈cs,Lt e.1 d.key:=fun e b d hd=>(h1 e b).trans (t d hd)
  have H:∀e∈Fs c,∀d∈cs,Lt e.1 d.key:=fun e b d hd=>by
   unfold Fs at b;split at b
   ·cases b
   ·simp at b;subst b;exact t d hd
  have ih:=Ahh lo a cs (Lh c.key B) (Axg n) C
  have E:Bk lo a ((c::cs).foldl Ca l)=Bk lo a A++(Bk lo a (Fs c)++Ji lo a (Bk lo a (Lh c.key B)) cs):=by rw[So,q,Af7 cs A _ p,Af7 cs (Fs c) _ H,Qq,Qq,ih]
  rw[E]
  cases m:Pw lo a c with
  |true=>
   have j:∀s:By,Km lo a (c.key,s)=false:=fun s=>by unfold Km;unfold Pw at m;cases k:Op.bytesLess c.key lo<;>cases G:Op.bytesLess a c.key<;>simp_all
   have e1:Bk lo a (Fs c)=[]:=Yw fun e b=>by
    unfold Fs at b;split at b
    ·cases b
    ·simp at b;subst b;exact j _
   have e2:Bk lo a (Lh c.key B)=Bk lo a B:=by
    cases B with
    |nil=>rfl
    |cons f r=>
     rw[Rl];split
     ·rename_i b
      have:Km lo a f=false:=by have:=j f.2;rw[<-b]at this;exact this
      unfold Bk;rw[List.filter_cons_of_neg (by rw[this];decide)]
     ·rfl
   rw[Abq,if_pos m,e1,e2,Hu]
   conv=>lhs;rw[w,Qq]
   exact Am7 lo a cs (Bk lo a A) (Bk lo a B) (fun e b d hd=>p e ((List.mem_filter.1 b).1) d hd)
  |false=>
   have j:∀s:By,Km lo a (c.key,s)=true:=fun s=>by unfold Km;unfold Pw at m;cases k:Op.bytesLess c.key lo<;>cases G:Op.bytesLess a c.key<;>simp_all
   have e1:Bk lo a (Fs c)=Fs c:=by
    unfold Fs;split
    ·rfl
    ·unfold Bk;rw[Ab9 (j _)];rfl
   have e2:Lh c.key (Bk lo a B)=Bk lo a (Lh c.key B):=by
    cases B with
    |nil=>rfl
    |cons f r=>
     by_cases b:f.1=c.key
     ·have hy:Km lo a f=true:=by
       have:=j f.2;rw[<-b]at this;exact this
      unfold Bk;rw[Ab9 hy];rw[Rl,Rl,if_pos b,if_pos b]
     ·have hr:∀e∈f::r,e.1≠c.key:=fun e o=>by
       rcases Al.1 o with rfl|g
       ·exact b
       ·have k:=(Er.1 n).1 e g;rcases Ad4.1 (h2 f r rfl)with h|h
        ·exact absurd h b
        ·exact fun F=>by rw[F]at k;exact(h.trans k).ne rfl
      have e3:Lh c.key (f::r)=f::r:=by rw[Rl,if_neg b]
      rw[e3]
      have y:∀i:PL,(∀e∈i,e.1≠c.key)->Lh c.key i=i:=fun i D=>by
       cases i with
       |nil=>rfl
       |cons z i=>rw[Rl,if_neg (D z (by simp))]
      exact y _ (fun e o=>hr e ((List.mem_filter.1 o).1))
   rw[Abq,if_neg (by rw[m];decide),x,h,e1,e2]
structure Aba (t e:TypeId){α:Type}(f:α->List Value)(w:World)(lv:Value)(O:List α)(y:α)(s:Nat)(a:Option Addr)(cap:Nat)(w2:World):Prop where
 run:(Builtin.append_ #[t,t] t #[lv,.slice (some ⟨w.heap.size,0,none⟩) 1 1]).run Tryz.prog (w.alloc (.cells (f y).toArray e))=.ok (.slice a (O.length+1) cap) w2
 row:w2.ownsRow 0 e s (.slice a (O.length+1) cap) (O++[y]).length ((O++[y]).flatMap f)
 kp:Kp lv.ownBlock.toList w w2
 own:∀j,(Value.slice a (O.length+1) cap).ownBlock=some j->lv.ownBlock=some j\/w.heap.size<=j
theorem Aer {t e:TypeId}{s:Nat}(l:Vq t e s){α:Type}(f:α->List Value)(k:∀a,(f a).length=s)(h1:∀a,∀u∈f a,u.oneCell'=true){w:World}{lv:Value}{O:List α}(hr:w.ownsRow 0 e s lv O.length (O.flatMap f))(b:α)(v:O.length<=10000000):
  ∃a cap w2,Aba t e f w lv O b s a cap w2:=by
 obtain⟨w1,d⟩:=nmd (w.alloc (.cells (f b).toArray e));have h:Bw w w1:=d▸(Ah _ _).alloc (Ak _) _;have n:w1.heap[w.heap.size]?=some (.cells (f b).toArray e (0,0)):=d▸heap_alloc_new w _;obtain⟨r,w2,o,i,p,m,_⟩:=Yh l t (Bm (S:=[]) hr (Kp.of_below h) (by simp)) (Kq.lit (f b) (k b) n) (h1 b) (by omega);obtain⟨a,cap,rfl⟩:=Aao i;have q:=h.size;refine⟨a,cap,w2,by rw[d];exact o,?_,(Kp.of_below h).grown p (fun j c=>.inl (by simp[c])),fun j c=>?_⟩
 ·rw[Bb,Gh];simpa using i
 ·rcases m with g|g
  ·exact .inl (g▸c)
  ·rw[g]at c;cases c;exact .inr q
theorem Kp.toBelow {S:List Nat}{w w':World}{H:Nat}(h:Kp S w w')(c:H<=w.heap.size)(a:∀j∈S,H<=j):Below H w w':=⟨h.os,h.tape,h.output,h.size,fun j b=>h.block j (by omega) (fun g=>by have:=a j g;omega)⟩
theorem Arm (e:By×By):∀u∈Hz e,u.oneCell'=true:=fun u a=>Apw [e] u (by simpa [Xb]using a)
theorem Rx {w:World}{lv:Value}{O:PL}(hr:Do w lv O)(b:By×By)(c:O.length<=10000000):∃a cap w2,Aba 68 78 Hz w lv O b 2 a cap w2:=Aer Api Hz Acv Arm hr b c
theorem Do.nil (w:World):Do w (.slice none 0 0) []:=⟨rfl,.inl ⟨rfl,rfl⟩⟩
theorem Do.below {w w':World}{v:Value}{l:PL}(h:Do w v l)(hb:Bw w w'):Do w' v l:=Bm (S:=[]) h (Kp.of_below hb) (by simp)
theorem Hq.below {w w':World}{v:Value}{l:List Ag}(h:Hq w v l)(hb:Bw w w'):Hq w' v l:=Bm (S:=[]) h (Kp.of_below hb) (by simp)
structure Le (w wr:World)(sb:Nat)(fv cv:Value)(F:PL)(cs:List Ag)(lo hi:By)(lv:Value)(O:PL):Prop where
 bel:Bw w wr
 c2:wr.cell? ⟨sb,2,none⟩=some (Ac lo)
 c3:wr.cell? ⟨sb,3,none⟩=some (Ac hi)
 c4:wr.cell? ⟨sb,4,none⟩=some fv
 fr:Do wr fv F
 cr:Hq wr cv cs
 lr:Do wr lv O
 own:∀j,lv.ownBlock=some j->w.heap.size<=j
 lt:sb<w.heap.size/\(∀j,fv.ownBlock=some j->j<w.heap.size)/\(∀j,cv.ownBlock=some j->j<w.heap.size)
section
variable {w wr w':World}{g c:Nat}{sb:Nat}{fv cv:Value}{F:PL}{cs:List Ag}{lo hi:By}{lv lv':Value}{O O':PL}
theorem Le.step (h:Le w wr sb fv cv F cs lo hi lv O)(hb:Below w.heap.size wr w')(o:Do w' lv' O')(l:∀j,lv'.ownBlock=some j->w.heap.size<=j):Le w w' sb fv cv F cs lo hi lv' O':=by
 have hk:∀ {e:TypeId} {s:Nat} {v:Value} {n:Nat} {xs:List Value},(∀j,v.ownBlock=some j->j<w.heap.size)->wr.ownsRow 0 e s v n xs->w'.ownsRow 0 e s v n xs:=fun {e s v n xs} d h=>by
  refine⟨h.1,?_⟩;rcases h.2 with g|⟨g,cap,cur,a,i,m,f,k,c,b⟩
  ·exact .inl g
  ·exact .inr ⟨g,cap,cur,a,i,(hb.block g (d g (by rw[a];rfl))).trans m,f,k,c,b⟩
 exact⟨h.bel.trans hb,(hb.cell (p:=⟨sb,2,none⟩) h.lt.1).trans h.c2,(hb.cell (p:=⟨sb,3,none⟩) h.lt.1).trans h.c3,(hb.cell (p:=⟨sb,4,none⟩) h.lt.1).trans h.c4,hk h.lt.2.1 h.fr,hk h.lt.2.2 h.cr,o,l,h.lt⟩
theorem Le.below (h:Le w wr sb fv cv F cs lo hi lv O)(hb:Bw wr w'):Le w w' sb fv cv F cs lo hi lv O:=h.step (hb.mono h.bel.size) (h.lr.below hb) h.own
theorem Le.sz (h:Le w wr sb fv cv F cs lo hi lv O):w.heap.size<=wr.heap.size:=h.bel.size
theorem Le.add (h:Le w wr sb fv cv F cs lo hi lv O){c:By×By}{a:Option Addr}{cap:Nat}{w2:World}(A:Aba 68 78 Hz wr lv O c 2 a cap w2):Le w w2 sb fv cv F cs lo hi (.slice a (O.length+1) cap) (O++[c]):=
 h.step (A.kp.toBelow h.sz (fun j b=>h.own j (by simpa using b))) A.row (fun j b=>(A.own j b).elim (h.own j) (fun g=>Hb h.sz g))
theorem Le.pair (h:Le w wr sb (.slice (some ⟨g,0,none⟩) F.length c) cv F cs lo hi lv O){i:Nat}{e:By×By}(a:F[i]?=some e):wr.cell? ⟨g,i*2,none⟩=some (Ac e.1)/\wr.cell? ⟨g,i*2+1,none⟩=some (Ac e.2):=by obtain⟨j,f,d,_,_,_,b,_⟩:=Rv Hz 2 Acv h.fr (by rintro rfl;simp at a);cases d;exact⟨b i e a 0 (by decide),b i e a 1 (by decide)⟩
end
theorem Af5 (lo hi:By):∀(cs:List Ag) (F:PL),(Ji lo hi F cs).length<=F.length+cs.length
 | [],F=>by simp[Ji]
 |c::cs,F=>by
  rw[Abq];split
  ·have:=Af5 lo hi cs F;rw[Fh];omega
  ·have h1:=Af5 lo hi cs (Lh c.key (F.dropWhile (bel c.key)))
   have h2:(Lh c.key (F.dropWhile (bel c.key))).length<=(F.dropWhile (bel c.key)).length:=by
    cases F.dropWhile (bel c.key)with
    |nil=>exact Ak _
    |cons e l=>rw[Rl];split<;>simp
   have a:(F.takeWhile (bel c.key)).length+(F.dropWhile (bel c.key)).length=F.length:=by rw[<-Bb,Aes]
   have b:(Fs c).length<=1:=by unfold Fs;split<;>simp
   rw[Bb,Bb,Fh];omega
def Qa (lo hi:By)(F:PL)(c:Ag)(cs:List Ag)(A:Nat):PL:=(F.drop A).takeWhile (bel c.key)++(Fs c++Ji lo hi (Lh c.key ((F.drop A).dropWhile (bel c.key))) cs)
theorem Atf {lo hi:By}{F:PL}{c:Ag}{cs:List Ag}{A:Nat}{e:By×By}(b:F[A]?=some e)(hb:Op.bytesLess e.1 c.key=true):Qa lo hi F c cs A=e::Qa lo hi F c cs (A+1):=by unfold Qa;have a:bel c.key e=true:=hb;rw[Lg b,Ab5 a,List.dropWhile_cons_of_pos a];rfl
theorem A3n {lo hi:By}{F:PL}{c:Ag}{cs:List Ag}{A:Nat}{e:By×By}(a:F[A]?=some e)(hb:Op.bytesLess e.1 c.key=false)(b:(e.1==c.key)=true):Qa lo hi F c cs A=Fs c++Ji lo hi (F.drop (A+1)) cs:=by
 unfold Qa;have h1:¬bel c.key e=true:=by unfold bel;rw[hb];decide
 rw[Lg a,Aaf h1,List.dropWhile_cons_of_neg h1,Rl,if_pos (by simpa using b)];rfl
theorem Awb {lo hi:By}{F:PL}{c:Ag}{cs:List Ag}{A:Nat}{e:By×By}(a:F[A]?=some e)(hb:Op.bytesLess e.1 c.key=false)(b:(e.1==c.key)=false):Qa lo hi F c cs A=Fs c++Ji lo hi (F.drop A) cs:=by
 unfold Qa;have h1:¬bel c.key e=true:=by unfold bel;rw[hb];decide
 rw[Lg a,Aaf h1,List.dropWhile_cons_of_neg h1,Rl,if_neg (by simpa using b)];rfl
theorem Awp {lo hi:By}{F:PL}{c:Ag}{cs:List Ag}{A:Nat}(a:F.length<=A):Qa lo hi F c cs A=Fs c++Ji lo hi (F.drop A) cs:=by unfold Qa;rw[Io a];rfl
def BhI (w wr:World)(sb:Nat)(fv cv:Value)(F:PL)(cs:List Ag)(lo hi:By)(b:PL)(l:Value)(rest:PL):Prop:=
 ∃la ln a O,l=.slice la ln a/\Le w wr sb fv cv F cs lo hi (.slice la ln a) O/\O++rest=b
theorem Le.i {w wr:World}{sb:Nat}{fv cv:Value}{F:PL}{cs:List Ag}{lo hi:By}{lv:Value}{O b rest:PL}(h:Le w wr sb fv cv F cs lo hi lv O)(d:O++rest=b):BhI w wr sb fv cv F cs lo hi b lv rest:=by obtain⟨a,c,rfl⟩:=Aao h.lr;exact⟨_,_,_,O,rfl,h,d⟩
theorem Amw (sb:Nat)(fv cv:Value)(F:PL)(cs:List Ag)(lo hi:By)(w:World)(Z:sb<w.heap.size)(h2:w.cell? ⟨sb,2,none⟩=some (Ac lo))(bq:w.cell? ⟨sb,3,none⟩=some (Ac hi))(bm:w.cell? ⟨sb,4,none⟩=some fv)(ai:Do w fv F)(J:Hq w cv cs)(b5:F.length<=100000)(b9:cs.length<=1000):
  Cl 64 #[.pointer (some ⟨sb,0,none⟩),cv] w fun e w'=>∃lv,e=.returned lv/\Do w' lv (Ji lo hi F cs)/\(∀j,lv.ownBlock=some j->w.heap.size<=j)/\Bw w w':=by
 have a6:Le w w sb fv cv F cs lo hi (.slice none 0 0) []:=⟨Ah _ _,h2,bq,bm,ai,J,Do.nil w,fun j V=>(by cases V),Z,fun j V=>Hl ai j V,fun j V=>Hl J j V⟩;obtain⟨L,a8⟩:=nmd (Ji lo hi F cs);have ak:=Af5 lo hi cs F;rw[a8]at ak⊢;obtain⟨az,ax,rfl⟩:=Aao ai;obtain⟨ca,a3,rfl⟩:=Aao J
 have bo:=Aa (show F≠[]->∃g,az=some ⟨g,0,none⟩from fun h0=>by
  obtain⟨g,c,am,_⟩:=Rv Hz 2 Acv ai h0
  cases am;exact⟨g,rfl⟩)
 have b6:=Aa (show cs≠[]->∃g,ca=some ⟨g,0,none⟩from fun h0=>by
  obtain⟨g,c,am,_⟩:=Rv Ag.cells 3 Ag.cells_len J h0
  cases am;exact⟨g,rfl⟩)
 obtain⟨H,bd⟩:=nmd (F.length);obtain⟨X,a4⟩:=nmd (cs.length);rw[bd]at b5 ak a6;rw[a4]at b9 ak a6;have S:=Aa (Ab bd a4);have bj:=Aa ak;have aw:=Aa (Ab a6 a8);have cf:(H:Int)<=100000:=by omega
 have ch:(X:Int)<=1000:=by omega
 rw[a4];clear h2 bq bm ai J a6 a8 bd a4 Z ak;go_enter Tryz.func64,Tryz.ntmps64;go_wp2_with fail
 go_loopw [5,6,7,8] (fun l a i _ wr=>∃A d:Nat,a=.int .i64 (A:Int)/\i=.int .i64 (d:Int)/\A<=H/\d<=X/\BhI w wr sb (.slice az H ax) (.slice ca X a3) F cs lo hi L l (Ji lo hi (F.drop A) (cs.drop d))) (fun _ _ i _ _=>(2000-intOf i).toNat)
 case atStart=>exact⟨0,0,rfl,rfl,Cu _,Cu _,aw.o.1.i (by simpa using aw.o.2)⟩
 case round=>
  obtain⟨A,d,rfl,rfl,ay,cb,la,ln,b2,O,rfl,B,a5⟩:=hrel;by_cases bk:d<X
  ·obtain⟨c,J⟩:∃c,cs[d]?=some c:=⟨cs[d]'(by rw[S.o.2];exact bk),Az _⟩;obtain⟨g,rfl⟩:=b6.o (by rintro rfl;simp at J);have cg:(d:Int)<(X:Int):=by omega
   have s:O++(if Pw lo hi c then Ji lo hi (F.drop A) (cs.drop (d+1))else Qa lo hi F c (cs.drop (d+1)) A)=L:=by rw[<-a5,Lg J];rfl
   have b3:wr.cell? ⟨g,d*3,none⟩=some (Ac c.key)/\wr.cell? ⟨g,d*3+1,none⟩=some (Ac c.value)/\wr.cell? ⟨g,d*3+2,none⟩=some (.bool c.gone):=by have bi:=B.cr;rw[<-S.o.2]at bi;obtain⟨ci,cj,am,_,_,_,a7,_⟩:=Rv Ag.cells 3 Ag.cells_len bi (by rintro rfl;simp at J);cases am;exact⟨a7 d c J 0 (by decide),a7 d c J 1 (by decide),a7 d c J 2 (by decide)⟩
   obtain⟨o0,o1,bl⟩:=b3;obtain⟨wc,af⟩:=nmd (wr.alloc (.cells #[Ac c.key,Ac c.value,.bool c.gone] 100));have bs:Bw wr wc:=af▸(Ah _ _).alloc (Ak _) _;have ao:wc.heap.size=wr.heap.size+1:=by rw[<-af];simp
   have ae:wc.heap[wr.heap.size]?=some (.cells #[Ac c.key,Ac c.value,.bool c.gone] 100 (0,0)):=af▸heap_alloc_new wr _;have ab:=B.below bs;obtain⟨r,hr⟩:=nmd (wr.heap.size);have ap:∀j,(Value.slice la ln b2).ownBlock=some j->j≠r:=fun j V=>by have:=Hl B.lr j V;omega
   rw[hr]at ae ao;have r0:wc.cell? ⟨r,0,none⟩=some (Ac c.key):=crw ae rfl;have s2:=ab.c2;have cc:=ab.c3;simp only[Ac]at o0 o1 bl af;have bx:=Aa af;have ag:=Aa (Ab ab (Ab ae (Ab ap (Ab s ao))));clear B a5 J af bs ae ab ap s aw;go_wp2_with fail;rw[bx.o];clear bx o0 o1 bl hr ao
   cases a9:Op.bytesLess c.key lo with
   |true=>
    have Y:Pw lo hi c=true:=by unfold Pw;rw[a9];rfl
    have bg:=Aa Y;clear Y;go_quiet (fail);have ac:=Aa (ag.o.1.below (Bp (Ah wc.heap.size wc) nq));go_wp2_with fail;refine⟨⟨A,d+1,rfl,by first|rfl|push_cast;rfl,ay,by omega,ac.o.i ?_⟩,by simp only[intOf];omega⟩;have:=ag.o.2.2.2.1;rw[if_pos bg.o]at this;exact this
   |false=>
    have au:=Mk c.key hi
    cases av:Op.bytesLess hi c.key with
    |true=>
     rw[av]at au;simp only[Qy]at au;have Y:Pw lo hi c=true:=by unfold Pw;rw[a9,av];rfl
     have bg:=Aa Y;clear Y;go_quiet (fail);have ac:=Aa (ag.o.1.below (Bp (Ah wc.heap.size wc) nq));go_wp2_with fail;refine⟨⟨A,d+1,rfl,by first|rfl|push_cast;rfl,ay,by omega,ac.o.i ?_⟩,by simp only[intOf];omega⟩;have:=ag.o.2.2.2.1;rw[if_pos bg.o]at this;exact this
    |false=>
     have Y:Pw lo hi c=false:=by unfold Pw;rw[a9,av];rfl
     rw[av]at au;simp only[Qx]at au;go_quiet (fail);obtain⟨b8,be⟩:=nmd (wc.drewN nq);rw[be];have ba:Bw wc b8:=be▸Bp (Ah _ _) nq;obtain⟨ab,ae,ap,s,ao⟩:=ag.o;rw[Y,if_neg (by decide)]at s;have bh:=ab.below ba;have bt:=(ba.block r (by omega)).trans ae;have aq:=Aa (Ab bh (Ab bt (Ab ap s)));clear ab ae ap s ao bh bt ba be ag r0 s2 cc Y;go_wp2_with fail
     go_loopw [5,6] (fun l a a0=>∃A:Nat,a=.int .i64 (A:Int)/\A<=H/\a0.heap[r]?=some (.cells #[Ac c.key,Ac c.value,.bool c.gone] 100 (0,0))/\(∀j,l.ownBlock=some j->j≠r)/\BhI w a0 sb (.slice az H ax) (.slice (some ⟨g,0,none⟩) X a3) F cs lo hi L l (Qa lo hi F c (cs.drop (d+1)) A)) (fun _ a _=>(200000-intOf a).toNat)
     case atStart=>exact⟨A,rfl,ay,aq.o.2.1,aq.o.2.2.1,aq.o.1.i aq.o.2.2.2⟩
     case round=>
      obtain⟨m,rfl,b4,o,C,bz,b7,cd,G,rfl,f,s⟩:=hrel;clear aq;have c4:=f.c4;have r0:wr.cell? ⟨r,0,none⟩=some (.string ⟨c.key.toArray⟩):=crw o rfl
      have k:G.length<=200000:=by have h1:=congrArg List.length s;have:=bj.o;rw[Bb]at h1;omega
      by_cases Z:m<H
      ·obtain⟨e,K⟩:∃e,F[m]?=some e:=⟨F[m]'(by rw[S.o.1];exact Z),Az _⟩;obtain⟨bc,rfl⟩:=bo.o (by rintro rfl;simp at K)
       have ar:=Aa (show ∀w' lv O,Le w w' sb (.slice (some ⟨bc,0,none⟩) H ax) (.slice (some ⟨g,0,none⟩) X a3) F cs lo hi lv O->w'.cell? ⟨bc,m*2,none⟩=some (Ac e.1)/\w'.cell? ⟨bc,m*2+1,none⟩=some (Ac e.2)from fun w' lv O B=>by
        rw[<-S.o.1]at B
        exact B.pair K)
       have U:=(ar.o _ _ _ f).1;simp only[Ac]at U;have b0:(m:Int)<(H:Int):=by omega
       cases hb:Op.bytesLess e.1 c.key with
       |true=>
        have b:=s;rw[Atf K hb]at b;have R:=Aa (Ab f (Ab o (Ab C (Ab b k))));clear f o C s b k K;go_wp2_with fail;go_quiet (fail);obtain⟨E,z⟩:=nmd (wr.drewN nq);rw[z];have y:Bw wr E:=z▸Bp (Ah _ _) nq;obtain⟨f,o,C,b,k⟩:=R.o;have q:=f.below y;have t:=(y.block r (lt_of_block o)).trans o;have T:=q.c4;obtain⟨U,bf⟩:=ar.o _ _ _ q;obtain⟨an,al,a2,u⟩:=Rx q.lr e (by omega);have h:=q.add u;have P:(G++[e])++Qa lo hi F c (cs.drop (d+1)) (m+1)=L:=by rw[<-b,Cw];rfl
        have n:=(u.kp.block r (lt_of_block t) (fun g=>C r (by simpa using g) rfl)).trans t
        have bv:∀j,(Value.slice an (G.length+1) al).ownBlock=some j->j≠r:=fun j V=>by
         rcases u.own j V with g|g
         ·exact C j g
         ·have:=lt_of_block t;omega
        have x:=u.run;generalize G.length+1=NL at*;have p:=Aa (Ab h (Ab P (Ab n bv)));simp only[Hz,Ac]at x;simp only[Ac]at U bf;have ad:=Aa x;clear f o C b k q t y z R u h P n bv x c4 r0;go_wp2_with (at_builtin;refine Hr rfl _ _ rfl _ _ rfl rfl ad.o ?_);exact⟨⟨m+1,by first|rfl|push_cast;rfl,by omega,p.o.2.2.1,p.o.2.2.2,p.o.1.i p.o.2.1⟩,by simp only[intOf];omega⟩
       |false=>
        cases br:(e.1==c.key)with
        |true=>
         have b:=s;rw[A3n K hb br]at b;have R:=Aa (Ab f (Ab o (Ab C (Ab b k))));clear f o C s b k K;go_wp2_with fail;go_quiet (fail);obtain⟨I,M⟩:=nmd (wr.drewN nq);rw[M];have N:Bw wr I:=M▸Bp (Ah _ _) nq;obtain⟨f,o,C,b,k⟩:=R.o;have h:=f.below N;have n:=(N.block r (lt_of_block o)).trans o;have T:=h.c4;have r0:I.cell? ⟨r,0,none⟩=some (.string ⟨c.key.toArray⟩):=crw n rfl;obtain⟨U,_⟩:=ar.o _ _ _ h;simp only[Ac]at U;have Q:=Aa (Ab h (Ab n (Ab b k)));clear f o C b k h n R M N c4;go_wp2_with fail;go_quiet (fail);obtain⟨E,z⟩:=nmd (I.drewN nq);rw[z];have y:Bw I E:=z▸Bp (Ah _ _) nq;obtain⟨h,n,b,k⟩:=Q.o;have q:=h.below y;have t:=(y.block r (lt_of_block n)).trans n;have aj:E.cell? ⟨r,0,none⟩=some (.string ⟨c.key.toArray⟩):=crw t rfl;have ah:E.cell? ⟨r,1,none⟩=some (.string ⟨c.value.toArray⟩):=crw t rfl;have W:E.cell? ⟨r,2,none⟩=some (.bool c.gone):=crw t rfl
         cases v:c.gone with
         |true=>
          rw[v]at W;have D:Fs c=[]:=by unfold Fs;rw[if_pos v]
          rw[D,Hu]at b;have p:=Aa (Ab q b);clear h n b k q t y z Q aj ah v D r0 T;go_wp2_with fail;exact⟨⟨m+1,d+1,by first|rfl|push_cast;rfl,by first|rfl|push_cast;rfl,by omega,by omega,p.o.1.i p.o.2⟩,by simp only[intOf];omega⟩
         |false=>
          rw[v]at W;have D:Fs c=[(c.key,c.value)]:=by unfold Fs;rw[if_neg (by rw[v];decide)]
          obtain⟨an,al,a2,u⟩:=Rx q.lr (c.key,c.value) (by omega);have aa:=q.add u;have P:(G++[(c.key,c.value)])++Ji lo hi (F.drop (m+1)) (cs.drop (d+1))=L:=by rw[<-b,D,Cw]
          have x:=u.run;have p:=Aa (Ab aa P);generalize G.length+1=NL at*;simp only[Hz,Ac]at x;have ad:=Aa x;clear h n b k q t y z Q v D u aa P x r0 T;go_wp2_with (at_builtin;refine Hr rfl _ _ rfl _ _ rfl rfl ad.o ?_);exact⟨⟨m+1,d+1,by first|rfl|push_cast;rfl,by first|rfl|push_cast;rfl,by omega,by omega,p.o.1.i p.o.2⟩,by simp only[intOf];omega⟩
        |false=>
         have b:=s;rw[Awb K hb br]at b;have R:=Aa (Ab f (Ab o (Ab C (Ab b k))));clear f o C s b k K;go_wp2_with fail;go_quiet (fail);obtain⟨I,M⟩:=nmd (wr.drewN nq);rw[M];have N:Bw wr I:=M▸Bp (Ah _ _) nq;obtain⟨f,o,C,b,k⟩:=R.o;have h:=f.below N;have n:=(N.block r (lt_of_block o)).trans o;have T:=h.c4;have r0:I.cell? ⟨r,0,none⟩=some (.string ⟨c.key.toArray⟩):=crw n rfl;obtain⟨U,_⟩:=ar.o _ _ _ h;simp only[Ac]at U;have Q:=Aa (Ab h (Ab n (Ab b k)));clear f o C b k h n R M N c4;go_wp2_with fail;go_quiet (fail);obtain⟨E,z⟩:=nmd (I.drewN nq);rw[z];have y:Bw I E:=z▸Bp (Ah _ _) nq;obtain⟨h,n,b,k⟩:=Q.o;have q:=h.below y;have t:=(y.block r (lt_of_block n)).trans n;have aj:E.cell? ⟨r,0,none⟩=some (.string ⟨c.key.toArray⟩):=crw t rfl;have ah:E.cell? ⟨r,1,none⟩=some (.string ⟨c.value.toArray⟩):=crw t rfl;have W:E.cell? ⟨r,2,none⟩=some (.bool c.gone):=crw t rfl
         cases v:c.gone with
         |true=>
          rw[v]at W;have D:Fs c=[]:=by unfold Fs;rw[if_pos v]
          rw[D,Hu]at b;have p:=Aa (Ab q b);clear h n b k q t y z Q aj ah v D r0 T;go_wp2_with fail;exact⟨⟨m,d+1,rfl,by first|rfl|push_cast;rfl,by omega,by omega,p.o.1.i p.o.2⟩,by simp only[intOf];omega⟩
         |false=>
          rw[v]at W;have D:Fs c=[(c.key,c.value)]:=by unfold Fs;rw[if_neg (by rw[v];decide)]
          obtain⟨an,al,a2,u⟩:=Rx q.lr (c.key,c.value) (by omega);have aa:=q.add u;have P:(G++[(c.key,c.value)])++Ji lo hi (F.drop (m)) (cs.drop (d+1))=L:=by rw[<-b,D,Cw]
          have x:=u.run;have p:=Aa (Ab aa P);generalize G.length+1=NL at*;simp only[Hz,Ac]at x;have ad:=Aa x;clear h n b k q t y z Q v D u aa P x r0 T;go_wp2_with (at_builtin;refine Hr rfl _ _ rfl _ _ rfl rfl ad.o ?_);exact⟨⟨m,d+1,rfl,by first|rfl|push_cast;rfl,by omega,by omega,p.o.1.i p.o.2⟩,by simp only[intOf];omega⟩
      ·have a1:m=H:=by omega
       have bp:decide ((m:Int)<(H:Int))=false:=by simp;omega
       have b:=s;rw[Awp (by rw[S.o.1];omega)]at b;have R:=Aa (Ab f (Ab o (Ab C (Ab b k))));clear f o C s b k Z;go_wp2_with fail;go_quiet (fail);obtain⟨I,M⟩:=nmd (wr.drewN nq);rw[M];have N:Bw wr I:=M▸Bp (Ah _ _) nq;obtain⟨f,o,C,b,k⟩:=R.o;have h:=f.below N;have n:=(N.block r (lt_of_block o)).trans o;have T:=h.c4;have r0:I.cell? ⟨r,0,none⟩=some (.string ⟨c.key.toArray⟩):=crw n rfl;have Q:=Aa (Ab h (Ab n (Ab b k)));clear f o C b k h n R M N c4;go_wp2_with fail;go_quiet (fail);obtain⟨E,z⟩:=nmd (I.drewN nq);rw[z];have y:Bw I E:=z▸Bp (Ah _ _) nq;obtain⟨h,n,b,k⟩:=Q.o;have q:=h.below y;have t:=(y.block r (lt_of_block n)).trans n;have aj:E.cell? ⟨r,0,none⟩=some (.string ⟨c.key.toArray⟩):=crw t rfl;have ah:E.cell? ⟨r,1,none⟩=some (.string ⟨c.value.toArray⟩):=crw t rfl;have W:E.cell? ⟨r,2,none⟩=some (.bool c.gone):=crw t rfl
       cases v:c.gone with
       |true=>
        rw[v]at W;have D:Fs c=[]:=by unfold Fs;rw[if_pos v]
        rw[D,Hu]at b;have p:=Aa (Ab q b);clear h n b k q t y z Q aj ah v D r0 T;go_wp2_with fail;exact⟨⟨m,d+1,by first|rfl|rw[a1],by first|rfl|push_cast;rfl,by omega,by omega,p.o.1.i p.o.2⟩,by simp only[intOf];omega⟩
       |false=>
        rw[v]at W;have D:Fs c=[(c.key,c.value)]:=by unfold Fs;rw[if_neg (by rw[v];decide)]
        obtain⟨an,al,a2,u⟩:=Rx q.lr (c.key,c.value) (by omega);have aa:=q.add u;have P:(G++[(c.key,c.value)])++Ji lo hi (F.drop (m)) (cs.drop (d+1))=L:=by rw[<-b,D,Cw]
        have x:=u.run;have p:=Aa (Ab aa P);generalize G.length+1=NL at*;simp only[Hz,Ac]at x;have ad:=Aa x;clear h n b k q t y z Q v D u aa P x r0 T;go_wp2_with (at_builtin;refine Hr rfl _ _ rfl _ _ rfl rfl ad.o ?_);exact⟨⟨m,d+1,by first|rfl|rw[a1],by first|rfl|push_cast;rfl,by omega,by omega,p.o.1.i p.o.2⟩,by simp only[intOf];omega⟩
  ·have b1:d=X:=by omega
   subst b1
   have bw:O++F.drop A=L:=by rw[<-a5,show cs.drop d=[]from Io (by rw[S.o.2];exact Ak _)];rfl
   have ac:=Aa (Ab B bw);have bp:decide ((d:Int)<(d:Int))=false:=by simp
   clear B a5 bw bk cb;go_wp2_with fail
   go_loopw [5,6] (fun l a a0=>∃A:Nat,a=.int .i64 (A:Int)/\A<=H/\BhI w a0 sb (.slice az H ax) (.slice ca d a3) F cs lo hi L l (F.drop A)) (fun _ a _=>(200000-intOf a).toNat)
   case atStart=>exact⟨A,rfl,ay,ac.o.1.i ac.o.2⟩
   case round=>
    obtain⟨m,rfl,b4,bz,b7,cd,G,rfl,f,s⟩:=hrel;clear ac aw;have c4:=f.c4
    have k:G.length<=200000:=by have h1:=congrArg List.length s;have:=bj.o;rw[Bb]at h1;omega
    by_cases Z:m<H
    ·obtain⟨e,K⟩:∃e,F[m]?=some e:=⟨F[m]'(by rw[S.o.1];exact Z),Az _⟩;obtain⟨g,rfl⟩:=bo.o (by rintro rfl;simp at K);have bb:=f;rw[<-S.o.1]at bb;obtain⟨U,bf⟩:=bb.pair K;obtain⟨an,al,a2,u⟩:=Rx f.lr e (by omega);have h:=f.add u;have b:(G++[e])++F.drop (m+1)=L:=by rw[<-s,Lg K,Cw];rfl
     have x:=u.run;have bn:=Aa (Ab h b);generalize G.length+1=NL at*;simp only[Hz,Ac]at x;simp only[Ac]at U bf;have ce:=Aa x;have b0:(m:Int)<(H:Int):=by omega
     clear f bb s u h b x K k;go_wp2_with (at_builtin;refine Hr rfl _ _ rfl _ _ rfl rfl ce.o ?_);exact⟨⟨m+1,by first|rfl|push_cast;rfl,by omega,bn.o.1.i bn.o.2⟩,by simp only[intOf];omega⟩
    ·have a1:m=H:=by omega
     subst a1
     have bu:G=L:=by rw[<-s,Io (by rw[S.o.1];exact Ak _),Ff]
     have p:=Aa (Ab (bu▸f.lr) (Ab f.own f.bel));have bp:decide ((m:Int)<(m:Int))=false:=by simp
     clear f s bu Z;go_wp2_with fail;go_ret;exact⟨_,rfl,p.o⟩
theorem Asn {lo a:By}(h:Lt a lo)(l:PL):Bk lo a l=[]:=Yw fun e _=>by
 unfold Km
 cases h1:Op.bytesLess e.1 lo with
 |true=>rfl
 |false=>
  cases h2:Op.bytesLess a e.1 with
  |true=>rfl
  |false=>
   have c:¬Lt e.1 lo:=by unfold Lt;rw[h1];decide
   have b:¬Lt a e.1:=by unfold Lt;rw[h2];decide
   exact absurd (Ad8 h c) b
theorem Akz (x:DX)(b bt bp:Nat)(m:DM)(v:VM)(wv:Value)(tk rk lo c:By)(T:Ay)(cs:List Ag)(w:World)(h:Hm w x b m v wv bt bp tk rk)(a3:v.opened=true)(o:Hy m rk v T)(M:Ep T)(Q:∀p,p<m.blocks.length->(m.look p).length=256)(z:Gt T<=48)(q:(Df T).length<=300)(hr:Hq w v.cv cs)(V:cs.length<=100)(W:Nr cs):
  Cl 33 #[.pointer (some ⟨b,0,none⟩),.string ⟨lo.toArray⟩,.string ⟨c.toArray⟩] w fun e w'=>∃lv,e=.returned (.tuple #[lv,.int .i64 0])/\Do w' lv (Bk lo c (cs.foldl Ca (Df T)))/\(∀j,lv.ownBlock=some j->w.heap.size<=j)/\Bw w w':=by
 have c1:=h.sys.vault.c1;rw[a3]at c1;have L:=Mk lo c
 cases U:Op.bytesLess c lo with
 |true=>rw[U]at L;simp only[Qy]at L;rw[Asn U];clear h o M Q z q hr V W;go_enter Tryz.func33,Tryz.ntmps33;go_wp2_with fail;go_ret2;exact⟨_,rfl,Do.nil _,fun j a=>(by cases a),Ah _ _⟩
 |false=>
  rw[U]at L;simp only[Qx]at L;obtain⟨w0,G⟩:=nmd (w.alloc (.cells #[.pointer (some ⟨b,0,none⟩),.int .i64 0,Ac lo,Ac c,.slice none 0 0] 106));have E:Bw w w0:=G▸(Ah _ _).alloc (Ak _) _;have a6:w0.heap.size=w.heap.size+1:=by rw[<-G];simp
  have Y:w0.heap[w.heap.size]?=some (.cells #[.pointer (some ⟨b,0,none⟩),.int .i64 (0:Nat),Ac lo,Ac c,.slice none 0 0] 106 (0,0)):=G▸heap_alloc_new w _;have y:=h.below E;obtain⟨k,aw⟩:=nmd (w.heap.size);rw[aw]at Y;have r:∀j,w.heap.size<=j->Dx x b bp wv j:=fun j a=>⟨Ce.new h.sys a,fun e=>by have:=h.key.lt;omega⟩;have F:Fy w0 k b 0 lo c (.slice none 0 0):=⟨Y⟩;have J:Id w0 x b bp k m v wv rk 0:=⟨y.sys,y.pv,y.key,F.vw,(r k (by omega)).1,Ne.symm (r k (by omega)).2,Q⟩;have u:∀j,v.cv.ownBlock=some j->j<w.heap.size:=fun j a=>Hl hr j a;have d:=Aa (Ab J (Ab F (Ab r (Ab E (Ab y (Ab hr u))))));have K:=Aa G;have ac:=Aa aw;have N:=Aa (Ab W V);clear h Q hr V W y J F Y E G u r
  cases T with
  |none=>have av:=Aa (Ade x b k m v wv w0 d.o.1.sys o d.o.1.vw.c0);have ay:=d.o.1.sys.vault.c58;have I:=Aa (Amw k (.slice none 0 0) v.cv [] cs lo c w0 d.o.2.1.lt d.o.2.1.c2 d.o.2.1.c3 d.o.2.1.c4 (Do.nil _) (d.o.2.2.2.2.2.1.below d.o.2.2.2.1) (by simp) (by have:=N.o.2;omega));have f:=Ahh lo c cs [] (List.Pairwise.nil) N.o.1;have ao:Bk lo c []=[]:=rfl;rw[ao]at f;have S:=Aa f;have ah:=Aa d.o.2.2.2.1;clear o M z q d f ao;go_enter Tryz.func33,Tryz.ntmps33;go_wp2_with fail;simp only[Ac]at K;rw[K.o];refine av.o.mono ?_;rintro e w1 ⟨rfl,ap⟩;rw[ap];clear ap w1 av;go_wp2_with fail;refine I.o.mono ?_;rintro e w2 ⟨lv,rfl,i,H,af⟩;rw[S.o]at i;have C:=Aa (Ab i (Ab H af));obtain⟨la,a2,rfl⟩:=Aao i;clear i H af I;go_wp2_with fail;go_ret2;refine⟨_,rfl,C.o.1,fun j a=>?_,ah.o.trans (C.o.2.2.mono ah.o.size)⟩;have:=C.o.2.1 j a;omega
  |some a1=>
   obtain⟨hh,t⟩:=a1;have l:Kn hh t:=M;have a0:=Yk hh t;have ag:Gt (some ⟨hh,t⟩)=nn hh t:=rfl;rw[ag]at z;have aj:Df (some ⟨hh,t⟩)=flat hh t:=rfl;rw[aj]at q⊢;have f:=Ahh lo c cs (flat hh t) l.asc N.o.1;have ax:=Aa (Aiw d.o.1 o (by decide));have ab:=Aa (Ab o (Ab l (Ab z (Ab q f))));have a4:=Aa q;clear o M z q f l a0 ag aj;go_enter Tryz.func33,Tryz.ntmps33;go_wp2_with fail;simp only[Ac]at K;rw[K.o];refine ax.o.mono ?_;rintro e w1 ⟨n,ev,rfl,al,ad,O,au,aa⟩;obtain⟨J,F,r,E,y,hr,u⟩:=d.o;obtain⟨o,l,z,q,f⟩:=ab.o;have R:=ac.o;have Z:=F.up al;have ai:Oy w1 x b bp k m v wv rk 1 lo c [] (.slice none 0 0):=⟨J.kp O (fun j a=>by simp at a;subst a;exact r _ (by omega)) Z.vw,Z,Do.nil _,fun j a=>(by cases a)⟩
   have A:∀j∈Ad n ev,w0.heap.size<=j:=fun j a=>by
    simp only[Ad,Al,Bf]at a;rcases a with rfl|g
    ·exact au
    ·exact aa j g
   have GI:Ue w1 x b bp k m v wv rk 1 lo c [] (.slice none 0 0) hh n t ev:=⟨ai,ad,o.2.2,l.wf,l.asc,l.ne,l.le,by omega,fun g=>by have:=A _ g;omega,fun j a=>(by cases a),fun j a=>r j (by have:=A j a;omega),by simp;omega⟩;have aq:=Aa (Aqa hh n t ev w1 [] (.slice none 0 0) 1 GI);have k01:Kp [] w w1:=(Kp.of_below E:Kp [] w w0).step O (fun j a=>by simp at a;subst a;exact .inr (by omega));have am:=Aa (Ab k01 (Ab A (Ab hr (Ab u f))));clear J F r E y hr u o l z q f R Z ai A GI k01 al ad O au aa d ab ax;go_wp2_with fail;refine aq.o.mono ?_;rintro e w2 ⟨rfl,az,a5,_,s⟩;obtain⟨k01,A,hr,u,f⟩:=am.o;have R:=ac.o
   have D:Kp [] w w2:=k01.step s.kp (fun j a=>by
    rcases As.1 a with g|g
    ·simp only[Al,Bf]at g;rcases g with rfl|g
     ·exact .inr (by omega)
     ·cases g
    ·exact .inr (by have:=A j g;omega))
   have ak:Hq w2 v.cv cs:=Bm hr D (by simp);have ay:=s.gas.env.sys.vault.c58;have P:=s.gas.row;rw[Hu]at P
   have ae:(Bk lo c (flat hh t)).length<=100000:=by have h1:=a4.o;have h2:(Bk lo c (flat hh t)).length<=(flat hh t).length:=Tv _ _;omega
   have I:=Aa (Amw k az v.cv (Bk lo c (flat hh t)) cs lo c w2 s.gas.sc.lt s.gas.sc.c2 s.gas.sc.c3 s.gas.sc.c4 P ak ae (by have:=N.o.2;omega));have S:=Aa f;have ar:Bw w w2:=⟨D.os,D.tape,D.output,D.size,fun j a=>D.block j a (by simp)⟩;have X:=Aa ar;clear k01 A hr u f R D ak P ae ar s am aq;go_wp2_with fail;refine I.o.mono ?_;rintro e a7 ⟨lv,rfl,i,H,an⟩;rw[S.o]at i;have C:=Aa (Ab i (Ab H an));obtain⟨la,a2,rfl⟩:=Aao i;clear i H an I;go_wp2_with fail;go_ret2;refine⟨_,rfl,C.o.1,fun j a=>?_,X.o.trans (C.o.2.2.mono X.o.size)⟩;have h1:=C.o.2.1 j a;have h2:=X.o.size;omega
theorem Ayb (a b lk n p dp:Nat)(ag:dp≠0)(last d:By)(es:List Aw)(ev:Value)(w:World)(h:Ef w a b lk dp last)(g:Gx w n true p d es ev)(J:es≠[])(z:a≠n)(F:∀j,ev.ownBlock=some j->j≠a)(T:es.length<=5):
  Cl 107 #[.pointer (some ⟨a,0,none⟩),.pointer (some ⟨n,0,none⟩),.int .i64 dp] w fun e w'=>Kp [a] w w'/\
   ((Li last es=none/\e=.returned (.int .i64 8))\/(∃l',Li last es=some l'/\e=.returned (.int .i64 0)/\Ef w' a b lk dp l')):=by
 have c2:=h.c2;have U:((dp:Int)==0)=false:=by rw[beq_eq_false_iff_ne];omega
 have f2:=h.fr 2;have h1:=h.set2 dp;have k1:Kp [a] w (w.setCell ⟨a,2,none⟩ (.int .i64 dp)):=(Kp.refl _ w).setCell a 2 _ (.inl (by simp));have A:=g.kp k1 (by simpa using Ne.symm z) (fun j E=>by simpa using F j E);obtain⟨w1,M⟩:=nmd (w.setCell ⟨a,2,none⟩ (.int .i64 (dp:Int)));rw[M]at h1 k1 A;have G:=Aa (Ab h1 (Ab k1 A));have t:=Aa (Ab J (Ab z F));have Z:(es.length:Int)<=5:=by omega
 clear h g J z F T h1 k1 A;go_enter Tryz.func107,Tryz.ntmps107;go_wp2_with fail
 go_loopw [7] (fun i wr=>∃(k:Nat) (lt:By),k<=es.length/\i=.int .i64 (k:Int)/\Ef wr a b lk dp lt/\Gx wr n true p d es ev/\Kp [a] w wr/\Li lt (es.drop k)=Li last es) (fun i _=>es.length-(intOf i).toNat)
 case atStart=>exact⟨0,last,by omega,rfl,G.o.1,G.o.2.2,G.o.2.1,rfl⟩
 case round=>
  obtain⟨k,lt,hk,rfl,q,g,s,f⟩:=hrel;clear c2 f2 M U;obtain⟨v,cap,H,ad,ac,Q,X,y,R⟩:=g.row t.o.1;have c3:=g.node.c3;rw[H]at c3;by_cases o:k<es.length
  ·obtain⟨en,C⟩:∃en,es[k]?=some en:=⟨es[k],Az o⟩
   have P:es.drop k=en::es.drop (k+1):=by
    rw[Kh o]
    congr 1
    exact(List.getElem_eq_iff o).2 C
   rw[P]at f;simp only[Li]at f;have N:wr.cell? ⟨v,k*5,none⟩=some (Ac en.key):=by have:=y k en C 0 (by decide);simpa [Aw.cells,Oh]using this
   have W:=q.c3;have Y:=q.fr 3;have ah:(k:Int)<(es.length:Int):=by omega
   have I:=Aa o;have c:=Aa (Ab q (Ab g (Ab s (Ab f N))));have ae:v≠a:=t.o.2.2 v (by rw[H];rfl);have S:=t.o.2.1;clear q g s f y R P C hk o Q;generalize es.length=L at*;generalize en.key=ek at*
   cases u:Op.bytesLess lt ek with
   |false=>
    have ha:=c.o.2.2.2.1;rw[u]at ha;have x:=Aa (Ab c.o.2.2.1 ha);clear ha c;go_wp2_with fail;go_quiet (fail);go_wp2_with fail
    ·go_ret;exact⟨x.o.1.drewN _,.inl ⟨by rw[<-x.o.2];simp,rfl⟩⟩
    ·rename_i O;have:=Mk ek lt;rw[O.1,O.2,u]at this;cases this
   |true=>
    have ha:=c.o.2.2.2.1;rw[u,if_pos rfl]at ha;have x:=Aa ha;have m:=Mk ek lt;rw[u]at m
    have ab:Op.bytesLess ek lt=false:=by
     cases h:Op.bytesLess ek lt
     ·rfl
     ·rw[h]at m;cases m
    have af:(ek==lt)=false:=by
     cases h:(ek==lt)
     ·rfl
     ·rw[h]at m;simp at m
    clear m ha;go_wp2_with fail;go_quiet (fail);obtain⟨w2,r⟩:=nmd (wr.drewN nq);have K:Kp [a] wr w2:=r▸(Kp.refl [a] wr).drewN nq;have D:Kp [] wr w2:=r▸(Kp.refl [] wr).drewN nq;have s2:=c.o.1.of_block (D.block a c.o.1.lt (by simp));have n2:=c.o.2.1.kp D (by simp) (by simp);have V:=n2.node.c3;rw[H]at V;have ak:w2.cell? ⟨v,k*5,none⟩=some (Ac ek):=r▸c.o.2.2.2.2;have ai:=s2.c3;have aa:=s2.fr 3;rw[r];have ks:Kp [a] w2 (w2.setCell ⟨a,3,none⟩ (Ac ek)):=(Kp.refl _ w2).setCell a 3 _ (.inl (by simp));have l:=Aa (Ab (s2.set3 ek) (Ab (n2.kp ks (by simpa using Ne.symm S) (fun j E=>by simpa using t.o.2.2 j E)) ((c.o.2.2.1.trans K).trans ks)));clear N W Y c3 K D s2 n2 ks r c;have aj:=Tj X;go_wp2_with fail
    go_roundw
    case rel=>exact⟨k+1,ek,by have:=I.o;omega,by go_num,l.o.1,l.o.2.1,l.o.2.2,x.o⟩
    case measure=>have:=I.o;simp[intOf];omega
  ·obtain rfl:k=es.length:=by omega
   rw[List.drop_length]at f;simp only[Li]at f;have l:=Aa (Ab q (Ab s f));clear q g s f y R o hk Q;generalize es.length=L at*;go_wp2_with fail;go_ret;exact⟨l.o.2.1,.inr ⟨lt,l.o.2.2.symm,rfl,l.o.1⟩⟩
theorem Arg (a b lk n dp D:Nat)(last:By)(w:World)(h:Ef w a b lk D last)(c:D≠0)(hd:dp≠D):
  Cl 107 #[.pointer (some ⟨a,0,none⟩),.pointer (some ⟨n,0,none⟩),.int .i64 dp] w fun e w'=>e=.returned (.int .i64 8)/\w'=w:=by
 have c2:=h.c2;have h0:((D:Int)==0)=false:=by rw[beq_eq_false_iff_ne];omega
 have h1:((dp:Int)==(D:Int))=false:=by rw[beq_eq_false_iff_ne];omega
 have h2:((D:Int)!=0)=true:=by rw[bne,h0];rfl
 have d:((dp:Int)!=(D:Int))=true:=by rw[bne,h1];rfl
 clear h c hd h0 h1;go_enter Tryz.func107,Tryz.ntmps107;go_wp2_with fail;go_ret;exact⟨rfl,rfl⟩
def Pu (dp D:Nat)(last:By)(es:List Aw):Option By:=if D=0\/D=dp then Li last es else none
theorem Asx (a b lk n p dp D:Nat)(last d:By)(es:List Aw)(ev:Value)(w:World)(h:Ef w a b lk D last)(c:Gx w n true p d es ev)(f:es≠[])(g:a≠n)(i:∀j,ev.ownBlock=some j->j≠a)(k:es.length<=5):
  Cl 107 #[.pointer (some ⟨a,0,none⟩),.pointer (some ⟨n,0,none⟩),.int .i64 dp] w fun e w'=>Kp [a] w w'/\
   ((Pu dp D last es=none/\e=.returned (.int .i64 8))\/(∃l',Pu dp D last es=some l'/\e=.returned (.int .i64 0)/\Ef w' a b lk dp l')):=by
 unfold Pu;by_cases h0:D=0
 ·subst h0;rw[if_pos (.inl rfl)];exact Avs a b lk n p dp last d es ev w h c f g i k
 ·by_cases h1:D=dp
  ·subst h1;rw[if_pos (.inr rfl)];exact Ayb a b lk n p D h0 last d es ev w h c f g i k
  ·rw[if_neg (by omega)];refine(Arg a b lk n dp D last w h h0 (fun e=>h1 e.symm)).mono ?_;rintro e w' ⟨rfl,rfl⟩;exact⟨Kp.refl _ _,.inl ⟨rfl,rfl⟩⟩
structure Ej where
 used:List Bool
 lk:Nat
 D:Nat
 last:By
def Pg (rk:By)(m:DM)(dp:Nat)(B:Ej->Nat->Bool->List Aw->Nat->Option Ej):List Aw->Ej->Option Ej
 | [],s=>some s
 |e::es,s=>if s.used.getD e.place false then none else(Ie rk m s.lk e.eg).bind fun r=>(B {s with lk:=Fa m s.lk e.place} e.place r.1 r.2 (dp+1)).bind fun a=>Pg rk m dp B es a
def Fu (rk:By)(m:DM):Nat->Ej->Nat->Bool->List Aw->Nat->Option Ej
 |0,_,_,_,_,_=>none
 |f+1,s,p,leaf,es,dp=>if leaf then(Pu dp s.D s.last es).map fun l=>⟨s.used.set p true,s.lk,dp,l⟩else Pg rk m dp (Fu rk m f) es {s with used:=s.used.set p true}
theorem Aar (rk:By)(m:DM)(dp:Nat)(B:Ej->Nat->Bool->List Aw->Nat->Option Ej)(e:Aw)(es:List Aw)(s:Ej):Pg rk m dp B (e::es) s=if s.used.getD e.place false then none else(Ie rk m s.lk e.eg).bind fun r=>(B {s with lk:=Fa m s.lk e.place} e.place r.1 r.2 (dp+1)).bind fun a=>Pg rk m dp B es a:=rfl
def vU (v:VM)(u:List Bool):VM:={v with used:=u}
structure BlI (w:World)(x:DX)(b bp sb:Nat)(m:DM)(v:VM)(wv:Value)(rk:By)(s:Ej)(n p:Nat)(d:By)(leaf:Bool)(es:List Aw)(ev:Value)(dp:Nat):Prop where
 env:Id w x b bp sb m (vU v s.used) wv rk s.lk
 sv:Ef w sb b s.lk s.D s.last
 nd:Gx w n leaf p d es ev
 p48:p<48
 ne:es≠[]
 le:es.length<=5
 h1:sb∉Ad n ev
 o:∀j∈Ad n ev,Dx x b bp wv j
 dpl:dp<=s.lk
 lkl:s.lk<=48
def Sx (w w':World)(x:DX)(b bp sb:Nat)(m:DM)(v:VM)(wv:Value)(rk:By)(X:List Nat)(r:Option Ej)(lk0:Nat)(e:Ending):Prop:=
 Kp (b::sb::X) w w'/\((r=none/\e=.returned (.int .i64 8)/\∃u,Ai w' x b m (vU v u) wv)\/(∃a,r=some a/\e=.returned (.int .i64 0)/\Id w' x b bp sb m (vU v a.used) wv rk a.lk/\Ef w' sb b a.lk a.D a.last/\a.lk<=48/\lk0<=a.lk))
structure BlJ (w wr:World)(x:DX)(b bp sb:Nat)(m:DM)(v:VM)(wv:Value)(rk:By)(n p:Nat)(d:By)(es:List Aw)(ev:Value)(lk0:Nat)(j:Nat)(s:Ej)(rows:List EG)(B:List Aw->Ej->Option Ej)(R:Option Ej):Prop where
 env:Id wr x b bp sb m (vU v s.used) wv rk s.lk
 sv:Ef wr sb b s.lk s.D s.last
 nd:Av wr n false p d rows ev
 len:rows.length=es.length
 row:∀i e,es[i]?=some e->∃c,rows[i]?=some {e.eg with child:=c}/\(j<=i->c=none)
 kp:Kp (b::sb::Ad n ev) w wr
 lkl:s.lk<=48
 lk0:lk0<=s.lk
 tot:B (es.drop j) s=R
theorem Ef.vw {w:World}{sb b lk D:Nat}{last:By}(h:Ef w sb b lk D last):Ma w sb b lk:=⟨h.c0,h.c1,h.fr 1⟩
theorem Abj {rk:By}{m:DM}{lk p:Nat}{d:By}{leaf:Bool}{es:List Aw}(h:Fd rk m lk p d=some (leaf,es)):2<=p/\p<m.blocks.length/\lk<48/\es≠[]/\es.length<=5/\Nu rk d (m.look p) p=some (leaf,es):=by
 unfold Fd at h;split at h
 ·rename_i a;have h0:=h;unfold Nu at h;split at h
  ·cases b:Pc rk (m.look p) p with
   |none=>rw[b]at h;cases h
   |some t=>rw[b]at h;obtain⟨n1,n2⟩:=An9 (show Lq t=some (leaf,es)from h);exact⟨a.1,a.2.1,a.2.2,fun e=>by rw[e]at n1;simp at n1,n2,h0⟩
  ·cases h
 ·cases h
theorem Aie {rk:By}{m:DM}{lk:Nat}{e:EG}{leaf:Bool}{es:List Aw}(h:Ie rk m lk e=some (leaf,es)):Fd rk m lk e.place e.digest=some (leaf,es)/\Qf e.key es=true:=by
 unfold Ie at h
 cases a:Fd rk m lk e.place e.digest with
 |none=>rw[a]at h;cases h
 |some r=>
  rw[a]at h;simp only[Ip]at h;split at h
  ·cases h;rename_i hk;exact⟨rfl,hk⟩
  ·cases h
section
variable {w wr:World}{x:DX}{b bp sb:Nat}{m:DM}{v:VM}{wv:Value}{rk:By}{n p:Nat}{d:By}{es:List Aw}{ev:Value}{lk0 j:Nat}{s0 s:Ej}{rows:List EG}{R:Option Ej}{dp f:Nat}
theorem BlJ.down (H:BlI w x b bp sb m v wv rk s0 n p d false es ev dp)(a:BlJ w wr x b bp sb m v wv rk n p d es ev lk0 j s rows (Pg rk m dp (Fu rk m f)) R)(az:dp<=lk0){e:Aw}(t:es[j]?=some e)(ar:s.used.getD e.place false=false)(au:49<=s.lk+f+1)
  (ih:∀(n p:Nat) (d:By) (leaf:Bool) (es:List Aw) (ev:Value) (dp:Nat) (s:Ej) (w:World),49<=s.lk+f->BlI w x b bp sb m v wv rk s n p d leaf es ev dp->Cl 85 #[.pointer (some ⟨sb,0,none⟩),.pointer (some ⟨n,0,none⟩),.int .i64 dp] w fun e w'=>Sx w w' x b bp sb m v wv rk (Ad n ev) (Fu rk m f s p leaf es dp) s.lk e):
  Cl 87 #[.pointer (some ⟨sb,0,none⟩),.pointer (some ⟨n,0,none⟩),.int .i64 (j:Int)] wr fun r w1=>
   (r=.returned (.tuple #[.pointer none,.int .i64 8])/\R=none/\Kp (b::sb::Ad n ev) w w1/\∃u,Ai w1 x b m (vU v u) wv)\/
   ∃l,r=.returned (.tuple #[.pointer (some ⟨l,0,none⟩),.int .i64 0])/\Cl 85 #[.pointer (some ⟨sb,0,none⟩),.pointer (some ⟨l,0,none⟩),.int .i64 (dp+1:Nat)] w1 fun r2 w2=>(r2=.returned (.int .i64 8)/\R=none/\Kp (b::sb::Ad n ev) w w2/\∃u,Ai w2 x b m (vU v u) wv)\/(r2=.returned (.int .i64 0)/\∃s2 aq,BlJ w w2 x b bp sb m v wv rk n p d es ev lk0 (j+1) s2 aq (Pg rk m dp (Fu rk m f)) R):=by
 obtain⟨c,C,am⟩:=a.row j e t;have ac:=am (Ak _);subst ac;have Y:=(Ds.1 t).1;have k:=a.tot;rw[Lg t,Aar,ar,if_neg (by decide)]at k;have N:rows.length<=100:=by rw[a.len];have:=H.le;omega
 have ag:∀q∈Ad n ev,q<w.heap.size:=fun q h=>H.nd.nd.bound h;have av:=a.kp.size;have K:∀q∈ev.ownBlock.toList,q∈Ad n ev:=fun q h=>by simp only[Ad,Al];exact .inr h
 have ao:b∈Ai.set x b wv:=by simp[Ai.set]
 refine(Aen x b bp sb m (vU v s.used) wv rk s.lk n false p d rows ev j _ wr a.env.sys a.env.pv a.env.key a.env.vw a.env.fv a.env.bv (by have:=a.lkl;omega) a.env.bl a.nd C rfl N H.h1).mono ?_;rintro r w1 ⟨F,hr⟩;have L:Ie rk m s.lk {e.eg with child:=none}=Ie rk m s.lk e.eg:=rfl;rcases hr with⟨o,rfl,hk⟩|⟨lf,es',l,ev',A,rfl,ad,S,z,ap,ab⟩
 ·rw[L]at o;rw[o]at k;refine .inl ⟨rfl,k.symm,a.kp.trans (hk.mono (fun q h=>by simp at h;simp[h])),s.used,a.env.sys.kp hk (fun q h=>by simp at h;subst h;exact a.env.fv)⟩
 ·rw[L]at A;rw[A]at k;obtain⟨V,aw⟩:=Aie A;obtain⟨l1,l2,ai,Z,P,_⟩:=Abj V;have E:Fa m s.lk e.place=s.lk+1:=by unfold Fa;rw[if_pos ⟨l1,l2,ai⟩]
  have G:Gd wr w1 sb (s.lk+1):=by have h2:Fa m s.lk ({e.eg with child:=none}:EG).place=s.lk+1:=E;rw[h2]at F;exact F
  simp only[Ip,E]at k;have T:Ef w1 sb b (s.lk+1) s.D s.last:=(a.sv.set1 (s.lk+1)).of_block G
  have y:∀q∈Ad l ev',wr.heap.size<=q:=fun q h=>by
   simp only[Ad,Al,Bf]at h;rcases h with rfl|g
   ·exact ap
   ·exact ab q g
  have ah:Id w1 x b bp sb m (vU v s.used) wv rk (s.lk+1):=a.env.kp z (fun q h=>by
   rcases Al.1 h with rfl|g
   ·exact a.env.o
   ·exact H.o q (K q g)) (a.env.vw.up G)
  have ax:=a.sv.lt;have a0:=H.dpl;have a1:=a.lk0;have X:m.blocks.length<=48:=a.env.sys.disk.le;refine .inr ⟨l,rfl,(ih l e.place e.digest lf es' ev' (dp+1) {s with lk:=s.lk+1} w1 (by show 49<=s.lk+1+f;omega) ⟨ah,T,ad,Eu (show e.place<m.blocks.length from l2) X,Z,P,fun g=>by have:=y _ g;omega,fun q h=>a.env.new (y q h),by show dp+1<=s.lk+1;omega,by show s.lk+1<=48;omega⟩).mono ?_⟩;rintro r2 w2 ⟨J,Q⟩;have a2:=z.size
  have I:Kp (b::sb::Ad n ev) w w2:=by
   refine(a.kp.step z (fun q h=>?_)).step J (fun q h=>?_)
   ·rcases Al.1 h with rfl|g
    ·exact .inl (by simp)
    ·exact .inl (by simp[K q g])
   ·rcases Al.1 h with rfl|g
    ·exact .inl (by simp)
    ·rcases Al.1 g with rfl|g
     ·exact .inl (by simp)
     ·exact .inr (by have:=y q g;omega)
  rcases Q with⟨o,rfl,u,af⟩|⟨s2,U,rfl,ae,al,W,O⟩
  ·have aj:Fu rk m f {s with lk:=s.lk+1} e.place lf es' (dp+1)=none:=o;rw[aj]at k;exact .inl ⟨rfl,k.symm,I,u,af⟩
  ·have ak:Fu rk m f {s with lk:=s.lk+1} e.place lf es' (dp+1)=some s2:=U;rw[ak]at k;simp only[Ip]at k;have ay:s.lk+1<=s2.lk:=O
   have M:∀q∈Ad n ev,q∉b::sb::Ad l ev':=fun q h g=>by
    rcases Al.1 g with rfl|g
    ·exact(H.o _ h).1.1 ao
    ·rcases Al.1 g with rfl|g
     ·exact H.h1 h
     ·have:=y q g;have:=ag q h;omega
   refine .inr ⟨rfl,s2,rows.set j {e.eg with child:=some l},ae,al,S.kp J (M n (by simp[Ad])) (fun q h=>M q (by simp[Ad,h])),by rw[Ht];exact a.len,fun i aa D=>?_,I,W,by omega,k⟩;by_cases e1:i=j
   ·subst e1;rw[t]at D;cases D;exact⟨some l,by rw[List.getElem?_set_self (by rw[a.len];exact Y)],fun g=>by omega⟩
   ·obtain⟨c,C,an⟩:=a.row i aa D;exact⟨c,by rw[List.getElem?_set_ne (Ne.symm e1)];exact C,fun g=>an (by omega)⟩
end
theorem A0c {x:DX}{b bp sb:Nat}{m:DM}{v:VM}{wv:Value}{rk:By}{f:Nat}
  (ih:∀(n p:Nat) (d:By) (leaf:Bool) (es:List Aw) (ev:Value) (dp:Nat) (s:Ej) (w:World),49<=s.lk+f->BlI w x b bp sb m v wv rk s n p d leaf es ev dp->Cl 85 #[.pointer (some ⟨sb,0,none⟩),.pointer (some ⟨n,0,none⟩),.int .i64 dp] w fun e w'=>Sx w w' x b bp sb m v wv rk (Ad n ev) (Fu rk m f s p leaf es dp) s.lk e)
  (n p:Nat) (d:By) (leaf:Bool) (es:List Aw) (ev:Value) (dp:Nat) (s:Ej) (w:World) (z:49<=s.lk+(f+1)) (H:BlI w x b bp sb m v wv rk s n p d leaf es ev dp):
  Cl 85 #[.pointer (some ⟨sb,0,none⟩),.pointer (some ⟨n,0,none⟩),.int .i64 dp] w fun e w'=>Sx w w' x b bp sb m v wv rk (Ad n ev) (Fu rk m (f+1) s p leaf es dp) s.lk e:=by
 have c0:=H.sv.c0;have n1:=H.nd.node.c1;have a3:(dp:Int)<=48:=by have:=H.dpl;have:=H.lkl;omega
 have W:=Aa (Af3 x b m (vU v s.used) wv p true w H.env.sys H.p48);have h:∀q∈Ad n ev,q≠b:=fun q ax e=>by subst e;exact(H.o _ ax).1.1 (by simp[Ai.set])
 have k:sb≠b:=fun e=>H.env.fv.1 (by simp[Ai.set,e])
 have U:bp≠b:=fun e=>by have h1:=H.env.key.box 0 (by decide);have h2:=H.env.sys.vault.c0;rw[e]at h1;rw[h1]at h2;cases h2
 cases leaf with
 |true=>
  have P:Fu rk m (f+1) s p true es dp=(Pu dp s.D s.last es).map fun l=>⟨s.used.set p true,s.lk,dp,l⟩:=rfl;rw[P];have C:=Aa (Ab H (Ab h k));clear H ih z h P;go_enter Tryz.func85,Tryz.ntmps85;go_wp2_with fail;refine W.o.mono ?_;rintro e w1 ⟨rfl,s1,k1⟩;obtain⟨H,h,k⟩:=C.o;have I:=H.sv.of_block (k1.block sb H.sv.lt (by simpa using k));have J:=H.nd.kp k1 (by simpa using h n (by simp[Ad])) (fun j a=>by simpa using h j (by simp[Ad,a]));have aj:=J.node.c0;have A:=Aa (Asx sb b s.lk n p dp s.D s.last d es ev w1 I J H.ne (fun e=>H.h1 (by simp[Ad,e])) (fun j a e=>H.h1 (by subst e;simp[Ad,a])) H.le);have t:Id w1 x b bp sb m (vU v (s.used.set p true)) wv rk s.lk:=⟨s1,H.env.pv,H.env.key.of_block (k1.block bp H.env.key.lt (by simpa using U)) k1.size,I.vw,H.env.fv,H.env.bv,H.env.bl⟩;have ac:=Aa (Ab t (Ab k1 (Ab H.lkl k)));clear H h k s1 k1 I J t W C U;go_wp2_with fail;refine A.o.mono ?_;rintro e w2 ⟨E,hr⟩;obtain⟨t,k1,Z,k⟩:=ac.o;have X:Kp (b::sb::Ad n ev) w w2:=(k1.mono (fun j a=>by simp at a;simp[a])).trans (E.mono (fun j a=>by simp at a;simp[a]));have T:∀j∈[sb],Dx x b bp wv j:=fun j a=>by simp at a;subst a;exact t.o
  rcases hr with⟨ha,rfl⟩|⟨l',ha,rfl,ab⟩
  ·have o:=Aa (show Sx w w2 x b bp sb m v wv rk (Ad n ev) (Option.map (fun l=>(⟨s.used.set p true,s.lk,dp,l⟩:Ej)) (Pu dp s.D s.last es)) s.lk (.returned (.int .i64 8))from⟨X,.inl ⟨by rw[ha];rfl,rfl,_,t.sys.kp E (fun j a=>(T j a).1)⟩⟩);clear t k1 Z k X T E ha ac A;go_wp2_with fail;go_ret;exact o.o
  ·have o:=Aa (show Sx w w2 x b bp sb m v wv rk (Ad n ev) (Option.map (fun l=>(⟨s.used.set p true,s.lk,dp,l⟩:Ej)) (Pu dp s.D s.last es)) s.lk (.returned (.int .i64 0))from⟨X,.inr ⟨⟨s.used.set p true,s.lk,dp,l'⟩,by rw[ha];rfl,rfl,t.kp E T ab.vw,ab,Z,Ak _⟩⟩);clear t k1 Z k X T E ha ab ac A;go_wp2_with fail;go_ret;exact o.o
 |false=>
  have P:Fu rk m (f+1) s p false es dp=Pg rk m dp (Fu rk m f) es {s with used:=s.used.set p true}:=rfl;rw[P];obtain⟨R,y⟩:=nmd (Pg rk m dp (Fu rk m f) es {s with used:=s.used.set p true});rw[y];obtain⟨K,al⟩:=nmd (es.length);have a5:K<=5:=by have:=H.le;omega
  have A:=Aa al;have C:=Aa (Ab H (Ab h (Ab k (Ab y (Ab ih z)))));clear H ih z h P y al;go_enter Tryz.func85,Tryz.ntmps85;go_wp2_with fail;refine W.o.mono ?_;rintro e w1 ⟨rfl,s1,k1⟩;obtain⟨H,h,k,y,ih,z⟩:=C.o;have I:=H.sv.of_block (k1.block sb H.sv.lt (by simpa using k));have J:=H.nd.kp k1 (by simpa using h n (by simp[Ad])) (fun j a=>by simpa using h j (by simp[Ad,a]));have aj:=J.node.c0;have t:Id w1 x b bp sb m (vU v (s.used.set p true)) wv rk s.lk:=⟨s1,H.env.pv,H.env.key.of_block (k1.block bp H.env.key.lt (by simpa using U)) k1.size,I.vw,H.env.fv,H.env.bv,H.env.bl⟩;have ao:BlJ w w1 x b bp sb m v wv rk n p d es ev s.lk 0 {s with used:=s.used.set p true} (es.map Aw.eg) (Pg rk m dp (Fu rk m f)) R:=⟨t,I,J.nd,by simp,fun i e G=>⟨none,by rw[Fq,G];rfl,fun _=>rfl⟩,k1.mono (fun j a=>by simp at a;simp[a]),H.lkl,Ak _,by rw[List.drop_zero];exact y⟩;have am:=Aa ao;clear H h k y ih z I J t ao s1 k1 W U;go_wp2_with fail
  go_loopw [8,9,10] (fun i _ _ wr=>∃j:Nat,i=.int .i64 (j:Int)/\j<=K/\∃D rows,BlJ w wr x b bp sb m v wv rk n p d es ev s.lk j D rows (Pg rk m dp (Fu rk m f)) R) (fun i _ _ _=>(20-intOf i).toNat)
  case atStart=>exact⟨0,rfl,Cu _,_,_,am.o⟩
  case round=>
   obtain⟨j,rfl,a,D,rows,g⟩:=hrel;clear am aj;obtain⟨H,h,k,y,ih,z⟩:=C.o;have L:rows.length=K:=by rw[g.len,A.o]
   have Y:rows≠[]:=fun e=>by rw[e]at L;have h1:=A.o;have:=Pn.2 H.ne;simp at L;omega
   obtain⟨aw,cap,V,a2,a9,a4,a8,S,ad⟩:=g.nd.row Y;have c3:=g.nd.node.c3;rw[V,L]at c3;by_cases ar:j<K
   ·have a6:(j:Int)<(K:Int):=by omega
    obtain⟨e,G⟩:∃e,es[j]?=some e:=⟨es[j]'(by rw[A.o];exact ar),Az _⟩;obtain⟨c,af,an⟩:=g.row j e G;have a7:wr.cell? ⟨aw,j*5+2,none⟩=some (.int .i64 (e.place:Int)):=S j _ af 2 (by decide);have M:=Aa (Aw2 x b m (vU v D.used) wv e.place wr g.env.sys);have aa:=H.dpl
    cases N:D.used.getD e.place false with
    |true=>
     have F:R=none:=by have:=g.tot;rw[Lg G,Aar,N,if_pos rfl]at this;exact this.symm
     have o:=Aa (show Sx w wr x b bp sb m v wv rk (Ad n ev) R s.lk (.returned (.int .i64 8))from⟨g.kp,.inl ⟨F,rfl,_,g.env.sys⟩⟩);have O:(vU v D.used).used.getD e.place false=true:=N;rw[O]at M;generalize e.place=EP at*;clear H h k y ih z L Y V S ad g C af an N F O G aa;go_wp2_with fail;refine M.o.mono ?_;rintro r w2 ⟨rfl,Q⟩;rw[Q];clear Q w2 M;go_wp2_with fail;go_ret;exact o.o
    |false=>
     have ag:=Aa (g.down H H.dpl G N (by have:=g.lk0;omega) ih);have O:(vU v D.used).used.getD e.place false=false:=N;rw[O]at M;generalize e.place=EP at*;clear H h k y ih z L Y V S ad g C af an N O G aa;go_wp2_with fail;refine M.o.mono ?_;rintro r w2 ⟨rfl,Q⟩;rw[Q];clear Q w2 M;go_wp2_with fail;refine ag.o.mono ?_;rintro r w2 hr;rcases hr with⟨rfl,F,E,u,s2⟩|⟨a1,rfl,ak⟩
     ·have o:=Aa (show Sx w w2 x b bp sb m v wv rk (Ad n ev) R s.lk (.returned (.int .i64 8))from⟨E,.inl ⟨F,rfl,u,s2⟩⟩);clear F E s2 ag;go_wp2_with fail;go_ret;exact o.o
     ·have ae:=Aa ak;clear ak ag;go_wp2_with fail;have ai:(dp:Int)+1=((dp+1:Nat):Int):=by omega
      rw[ai];clear ai;refine ae.o.mono ?_;rintro r2 ay av;rcases av with⟨rfl,F,au,u,ap⟩|⟨rfl,s2,a0,aq⟩
      ·have o:=Aa (show Sx w ay x b bp sb m v wv rk (Ad n ev) R s.lk (.returned (.int .i64 8))from⟨au,.inl ⟨F,rfl,u,ap⟩⟩);clear F au ap ae;go_wp2_with fail;go_ret;exact o.o
      ·have o:=Aa aq;clear aq ae;go_wp2_with fail;exact⟨⟨j+1,by first|rfl|push_cast;rfl,by omega,s2,a0,o.o⟩,by simp only[intOf];omega⟩
   ·have az:j=K:=by omega
    have ah:R=some D:=by have:=g.tot;rw[Io (by rw[A.o];omega)]at this;exact this.symm
    have o:=Aa (show Sx w wr x b bp sb m v wv rk (Ad n ev) R s.lk (.returned (.int .i64 0))from⟨g.kp,.inr ⟨D,ah,rfl,g.env,g.sv,g.lkl,g.lk0⟩⟩);have aa:decide ((j:Int)<(j:Int))=false:=by simp
    subst az;clear H h k y ih z L Y V S ad g C ah ar;go_wp2_with fail;go_ret;exact o.o
theorem Alu {x:DX}{b bp sb:Nat}{m:DM}{v:VM}{wv:Value}{rk:By}:∀(f n p:Nat) (d:By) (leaf:Bool) (es:List Aw) (ev:Value) (dp:Nat) (s:Ej) (w:World),49<=s.lk+f->BlI w x b bp sb m v wv rk s n p d leaf es ev dp->
  Cl 85 #[.pointer (some ⟨sb,0,none⟩),.pointer (some ⟨n,0,none⟩),.int .i64 dp] w fun e w'=>Sx w w' x b bp sb m v wv rk (Ad n ev) (Fu rk m f s p leaf es dp) s.lk e
 |0,_,_,_,_,_,_,_,_,_,hf,H=>by have:=H.lkl;omega
 |f+1,n,p,d,leaf,es,ev,dp,s,w,hf,H=>A0c (fun n p d leaf es ev dp s w=>Alu f n p d leaf es ev dp s w) n p d leaf es ev dp s w hf H
def Mi (rk:By)(m:DM)(place:Nat)(dig:By)(used:List Bool):Option (List Bool):=
 if place=0 then some used else(Fd rk m 0 place dig).bind fun r=>(Fu rk m 48 ⟨used,1,0,[]⟩ place r.1 r.2 1).map Ej.used
def LaO (w w':World)(x:DX)(b:Nat)(m:DM)(v:VM)(wv:Value)(a:Option (List Bool))(e:Ending):Prop:=Kp [b] w w'/\((a=none/\e=.returned (.int .i64 8)/\∃u,Ai w' x b m (vU v u) wv)\/(∃u,a=some u/\e=.returned (.int .i64 0)/\Ai w' x b m (vU v u) wv))
theorem Ase (x:DX)(b bp:Nat)(m:DM)(v:VM)(wv:Value)(rk:By)(w:World)(h:Ai w x b m v wv)(E:v.pv=.pointer (some ⟨bp,0,none⟩))(hk:Eh w bp rk)(F:∀p,p<m.blocks.length->(m.look p).length=256):
  Cl 54 #[.pointer (some ⟨b,0,none⟩)] w fun e w'=>LaO w w' x b m v wv (Mi rk m v.place v.digest v.used) e:=by
 obtain⟨w0,y⟩:=nmd (w.alloc (.cells #[.pointer (some ⟨b,0,none⟩),.int .i64 0,.int .i64 0,.string ⟨#[]⟩] 133));have f:Bw w w0:=y▸(Ah _ _).alloc (Ak _) _;have ah:w0.heap.size=w.heap.size+1:=by rw[<-y];simp
 obtain⟨o,ac⟩:=nmd (w.heap.size);have k:Ef w0 o b 0 0 []:=⟨ac▸y▸heap_alloc_new w _⟩;have N:=hk.lt;have l:∀j,w.heap.size<=j->Dx x b bp wv j:=fun j d=>⟨Ce.new h d,fun e=>by omega⟩;have A:=h.later f;have a:Id w0 x b bp o m v wv rk 0:=⟨A,E,hk.below f N,k.vw,(l o (by omega)).1,Ne.symm (l o (by omega)).2,F⟩;have T:vU v v.used=v:=rfl;have S:=Aa y;by_cases hz:v.place=0
 ·have c:Mi rk m v.place v.digest v.used=some v.used:=by unfold Mi;rw[if_pos hz]
  have C:=Aa (Ade x b o m v wv w0 A hz k.c0);have t:=Aa (show LaO w w0 x b m v wv (Mi rk m v.place v.digest v.used) (.returned (.int .i64 0))from⟨Kp.of_below f,.inr ⟨v.used,c,rfl,A⟩⟩);clear h E hk F f k N l A a T y c;go_enter Tryz.func54,Tryz.ntmps54;go_wp2_with fail;rw[S.o];refine C.o.mono ?_;rintro e w1 ⟨rfl,Y⟩;rw[Y];clear Y w1 C;go_wp2_with fail;go_ret;exact t.o
 ·have c:Mi rk m v.place v.digest v.used=(Fd rk m 0 v.place v.digest).bind fun r=>(Fu rk m 48 ⟨v.used,1,0,[]⟩ v.place r.1 r.2 1).map Ej.used:=by unfold Mi;rw[if_neg hz]
  have C:=Aa (Ahi x b bp o m v wv rk 0 w0 A E a.key a.vw a.fv a.bv (by decide) F hz);have J:=Aa (Ab a (Ab k (Ab l (Ab f (Ab c ac)))));clear h E hk F f k N l A a T y c hz;go_enter Tryz.func54,Tryz.ntmps54;go_wp2_with fail;rw[S.o];refine C.o.mono ?_;rintro e w1 ⟨k1,H,hr⟩;obtain⟨a,k,l,f,c,z⟩:=J.o;have k01:Kp [b] w w1:=Ajc (Kp.of_below f) k1 (fun j d=>by simp at d;subst d;exact .inr (by omega));have s1:=a.sys.kp k1 (fun j d=>by simp at d;subst d;exact a.fv);rcases hr with⟨i,rfl⟩|⟨leaf,es,n,ev,i,rfl,P,ad,X⟩
  ·have t:=Aa (show LaO w w1 x b m v wv (Mi rk m v.place v.digest v.used) (.returned (.int .i64 8))from⟨k01,.inl ⟨by rw[c,i];rfl,rfl,v.used,s1⟩⟩);clear a k l f c z k01 s1 i k1 H C J;go_wp2_with fail;go_ret;exact t.o
  ·obtain⟨l1,l2,W,aa,R,_⟩:=Abj i;have V:Fa m 0 v.place=1:=by unfold Fa;rw[if_pos ⟨l1,l2,W⟩]
   rw[V]at H;have K:Ef w1 o b 1 0 []:=(k.set1 1).of_block H
   have s:∀q∈Ad n ev,w0.heap.size<=q:=fun q G=>by
    simp only[Ad,Al,Bf]at G;rcases G with rfl|g
    ·exact ad
    ·exact X q g
   have D:=f.size;have af:=a.sys.disk.le;have ae:=k.lt;have U:Id w1 x b bp o m v wv rk 1:=a.kp k1 (fun j d=>by simp at d;subst d;exact a.o) K.vw;have O:=Aa (Alu (v:=v) 48 n v.place v.digest leaf es ev 1 ⟨v.used,1,0,[]⟩ w1 (show 49<=1+48 from by decide) ⟨U,K,P,by omega,aa,R,fun g=>by have:=s _ g;omega,fun q G=>l q (by have:=s q G;omega),Ak 1,(show 1<=48 from by decide)⟩);have L:=Aa (Ab k01 (Ab s (Ab z (Ab D (Ab c i)))));clear a k l f c z k01 s1 i k1 H C J P ad X l1 l2 W aa R V K s D af ae U;go_wp2_with fail;refine O.o.mono ?_;rintro e w2 ⟨M,hr⟩;obtain⟨k01,s,z,D,c,i⟩:=L.o
   have I:Kp [b] w w2:=Ajc k01 M (fun j d=>by
    rcases Al.1 d with rfl|g
    ·exact .inl (by simp)
    ·rcases Al.1 g with rfl|g
     ·exact .inr (by omega)
     ·exact .inr (by have:=s j g;omega))
   rcases hr with⟨ab,rfl,u,s2⟩|⟨ag,Z,rfl,Q,_,_,_⟩
   ·have t:=Aa (show LaO w w2 x b m v wv (Mi rk m v.place v.digest v.used) (.returned (.int .i64 8))from⟨I,.inl ⟨by rw[c,i];simp only[Ip];rw[ab];rfl,rfl,u,s2⟩⟩);clear k01 s z D c i I ab s2 M L O;go_wp2_with fail;go_ret;exact t.o
   ·have t:=Aa (show LaO w w2 x b m v wv (Mi rk m v.place v.digest v.used) (.returned (.int .i64 0))from⟨I,.inr ⟨ag.used,by rw[c,i];simp only[Ip];rw[Z];rfl,rfl,Q.sys⟩⟩);clear k01 s z D c i I Z Q M L O;go_wp2_with fail;go_ret;exact t.o
def Lb (t:By):By:=if Eq t=0 then []else Pb t
def Ns:List Bool:=List.replicate 48 false
def Mu (pass:By)(m:DM)(t:By):Option (List Bool):=if Ew pass t m.count then Mi (Fc (Ge pass (Bs t))) m (Eq t) (Lb t) Ns else none
def VM.opU (t:By)(bt bp c:Nat)(u:List Bool):VM:=⟨true,Bs t,.pointer (some ⟨bt,0,none⟩),.pointer (some ⟨bp,0,none⟩),c+2,c+2,0,Eq t,Lb t,u,.slice none 0 0⟩
inductive OpO (w w':World)(x:DX)(b:Nat)(m:DM)(wv:Value)(pass t:By)(e:Ending):Prop where
 |bad (h:Mu pass m t=none) (he:e=.returned (.int .i64 8)) (s:Ai w' x b m Dr wv) (k:Kp [b] w w')
 |full (u:List Bool) (h:Mu pass m t=some u) (hc:m.ceiling<m.count+2) (he:e=.returned (.int .i64 10)) (s:Ai w' x b m Dr wv) (k:Kp [b] w w')
 |done (u:List Bool) (h:Mu pass m t=some u) (hc:m.count+2<=m.ceiling) (he:e=.returned (.int .i64 0)) (wv':Value) (bt bp:Nat) (kit:Hm w' x b (m.begin (Bn pass (Bs t)) (Bs t) (Eq t) (Lb t)) (VM.opU t bt bp m.count u) wv' bt bp (Bn pass (Bs t)) (Fc (Ge pass (Bs t)))) (k:Kp (Ai.set x b wv) w w') (l:Cd wv wv' w.heap.size) (n1:w.heap.size<=bt) (n2:w.heap.size<=bp)
theorem A4a (x:DX)(b:Nat)(m:DM)(wv:Value)(pass t:By)(w:World)(h:Ai w x b m Dr wv)(S:pass.length<=40)(f:∀p,p<m.blocks.length->(m.look p).length=256)(am:m.count<=m.ceiling)(A:m.wrote.length<4999000)(k:m.look (m.count%2)=t)(ac:Ew pass (m.look ((m.count+1)%2)) (m.count+1)=false):
  Cl 25 #[.pointer (some ⟨b,0,none⟩),.string ⟨pass.toArray⟩] w fun e w'=>OpO w w' x b m wv pass t e:=by
 have al:=h.disk.cl;have ak:=h.disk.ge;have ag:t.length=256:=by rw[<-k];exact f _ (by omega)
 have g:=Zl ag
 have F:Vm pass m m.count=if Ew pass t m.count then some m.count else none:=by unfold Vm;rw[ac,k];simp
 have af:=Aa (Agd x b m Dr wv pass w h rfl S);have ah:=Aa (Aup x b m Dr wv pass m.count w h S (f 0 (by omega)) (f 1 (by omega)) (by omega) (by omega));have E:=Aa (fun v w h=>Ann x b m v wv w h);have D:=Aa (Ab h (Ab A (Ab k (Ab f (Ab g F)))));have aq:(m.count:Int)<=1048576:=by omega
 clear h S f A k ac g F ag al ak am;go_enter Tryz.func25,Tryz.ntmps25;go_wp2_with fail;refine af.o.mono ?_;rintro e w1 ⟨rfl,ab⟩;rw[ab];clear ab w1 af;go_wp2_with fail;refine ah.o.mono ?_;rintro e w1 ⟨k1,hr⟩;clear ah;rcases hr with⟨a,rfl,s1⟩|⟨n,a,_,rfl,bt,bp,s1,z,y,W,ao⟩
 ·have O:Mu pass m t=none:=by
   rw[D.o.2.2.2.2.2]at a;unfold Mu;cases l:Ew pass t m.count
   ·rfl
   ·rw[l]at a;cases a
  have r:=Aa (E.o Dr w1 s1);have o:=Aa (Ab k1 O);clear s1 k1 O a E D;go_wp2_with fail;refine r.o.mono ?_;rintro e w2 ⟨rfl,s2,c⟩;have aa:=Aa (Ab s2 (o.o.1.trans c));clear s2 c r;go_wp2_with fail;go_ret;exact .bad o.o.2 rfl aa.o.1 aa.o.2
 ·obtain⟨h,A,k,f,g,F⟩:=D.o
  have l:Ew pass t m.count=true/\n=m.count:=by
   rw[F]at a;cases l:Ew pass t m.count
   ·rw[l]at a;cases a
   ·rw[l]at a;simp at a;exact⟨rfl,a.symm⟩
  obtain⟨l,rfl⟩:=l;rw[k]at s1 z y;have s:(Dr.taken t bt bp).place=Eq t:=by simp only[VM.taken,Dr];split<;>simp_all
  have K:(Dr.taken t bt bp).digest=Lb t:=rfl;have O:Mu pass m t=Mi (Fc (Ge pass (Bs t))) m (Eq t) (Lb t) Ns:=by unfold Mu;rw[if_pos l]
  have Q:=Ase x b bp m (Dr.taken t bt bp) wv (Fc (Ge pass (Bs t))) w1 s1 rfl y f;rw[s,K]at Q;have Y:(Dr.taken t bt bp).used=Ns:=rfl;rw[Y,<-O]at Q;have X:=Aa Q;have ar:=k1.size;have o:=Aa (Ab k1 (Ab z (Ab y (Ab s K))));clear h A k f g F s1 z y l s K k1 a Q O Y;go_wp2_with fail;refine X.o.mono ?_;rintro e w2 ⟨c,hr⟩;clear X;rcases hr with⟨a,rfl,u,s2⟩|⟨u,a,rfl,s2⟩
  ·have r:=Aa (E.o _ w2 s2);have q:=Aa (Ab (o.o.1.trans c) a);clear s2 c a E D o;go_wp2_with fail;refine r.o.mono ?_;rintro e L ⟨rfl,i,d⟩;have C:=Aa (Ab i (q.o.1.trans d));clear i d r;go_wp2_with fail;go_ret;exact .bad q.o.2 rfl C.o.1 C.o.2
  ·have ae:=s2.vault.c0;have R:=Aa (Vu x.d w2 m.ceiling s2.disk.c3);by_cases H:m.count+2<=m.ceiling
   ·have hd:decide ((m.ceiling:Int)<(m.count:Int)+2)=false:=by simp;omega
    obtain⟨h,A,k,f,g,F⟩:=D.o;obtain⟨k1,z,y,s,K⟩:=o.o;have an:=c.size;have ap:=h.vault.lt;have V:∀j∈Ai.set x b wv,j<w.heap.size:=fun j J=>h.bound J;have m2:=z.of_block (c.block bt z.lt (by simp;omega));have P:=y.of_block (c.block bp y.lt (by simp;omega)) c.size;have I:Mt w2 x b wv bt:=⟨m2.lt,fun e=>by have:=V _ e;omega⟩;have M:Mt w2 x b wv bp:=⟨P.lt,fun e=>by have:=V _ e;omega⟩;have U:(vU (Dr.taken t bt bp) u).place=Eq t:=s;have Z:(vU (Dr.taken t bt bp) u).digest=Lb t:=K;have aj:Eq t<256:=by unfold Eq;exact(t.getD 28 0).toNat_lt
    have T:=Aps x b bt (Bn pass (Bs t)) m _ wv w2 s2 H rfl m2 I g (by rw[U];omega) A;rw[U,Z]at T;have ad:=Aa T;have q:=Aa (Ab (k1.trans c) (Ab a (Ab m2 (Ab P (Ab I (Ab M (Ab g (Ab s (Ab H W)))))))));clear h A k f g F k1 z y s K s2 m2 P I M V a c E D o T U Z aj H;go_wp2_with fail;refine R.o.mono ?_;rintro e L ⟨rfl,N⟩;rw[N];clear N L R ae;go_wp2_with fail;refine ad.o.mono ?_;rintro e L ⟨rfl,ai,i,d,G⟩;have C:=Aa (Ab i (Ab d G));clear i d G ad;go_wp2_with fail;go_ret;obtain⟨i,d,G⟩:=C.o;obtain⟨c,a,m2,P,I,M,g,s,H,W⟩:=q.o;refine .done u a H rfl ai bt bp ⟨?_,rfl,rfl,m2.of_block (I.block d),P.of_block (M.block d) d.size,I.step G d.size,M.step G d.size,g⟩ ((c.mono (fun j J=>by simp at J;subst J;simp[Ai.set])).trans d) (fun j J=>?_) W (by omega)
    ·exact i
    ·rcases G j J with e|e
     ·exact .inl e
     ·exact .inr (by have:=c.size;omega)
   ·have hd:decide ((m.ceiling:Int)<(m.count:Int)+2)=true:=by simp;omega
    have r:=Aa (E.o _ w2 s2);have q:=Aa (Ab (o.o.1.trans c) (Ab a (show m.ceiling<m.count+2 by omega)));clear s2 c a E D o H;go_wp2_with fail;refine R.o.mono ?_;rintro e L ⟨rfl,N⟩;rw[N];clear N L R ae;go_wp2_with fail;refine r.o.mono ?_;rintro e L ⟨rfl,i,d⟩;have C:=Aa (Ab i (q.o.1.trans d));clear i d r;go_wp2_with fail;go_ret;exact .full u q.o.2.1 q.o.2.2 rfl C.o.1 C.o.2
def Jn (d:By)(l:PL):By:=l.foldl (fun _ e=>e.1) d
theorem Amn (d:By)(a b:PL):Jn d (a++b)=Jn (Jn d a) b:=by unfold Jn;rw[List.foldl_append]
theorem Aft (d:By):∀l:PL,Jn d l=d\/∃e∈l,e.1=Jn d l:=by
 intro l
 induction l generalizing d with
 |nil=>exact .inl rfl
 |cons a l ih=>
  have e:Jn d (a::l)=Jn a.1 l:=rfl;rw[e];rcases ih a.1 with g|⟨x,c,b⟩
  ·exact .inr ⟨a,by simp,g.symm⟩
  ·exact .inr ⟨x,by simp[c],b⟩
theorem Ai5:∀(l:PL) (d:By),Ba l->(∀e∈l,Lt d e.1)->Li d (l.map fun e=>⟨e.1,e.2,0,[]⟩)=some (Jn d l)
 | [],_,_,_=>rfl
 |a::l,d,ha,hd=>by obtain⟨h1,h2⟩:=Er.1 ha;have h0:Op.bytesLess d a.1=true:=hd a (by simp);rw[Db];unfold Li;rw[if_pos (show Op.bytesLess d (⟨a.1,a.2,0,[]⟩:Aw).key=true from h0)];exact Ai5 l a.1 h2 h1
structure SvR (s s':Ej)(nn:Nat)(c:Nat->Nat)(l:PL):Prop where
 lk:s'.lk=s.lk+nn
 last:s'.last=Jn s.last l
 ul:s'.used.length=s.used.length
 us:∀a,s'.used.getD a false=(s.used.getD a false||decide (0<c a))
theorem Ae0 (u:List Bool)(p a:Nat)(b:p<u.length):(u.set p true).getD a false=(u.getD a false||decide (p=a)):=by
 by_cases e:p=a
 ·subst e;simp[List.getD,b]
 ·simp[List.getD,e]
section
variable {rk:By}{m:DM}
theorem Aot {h f dp:Nat}(ih:∀(t:Nd h) (s:Ej) (dp:Nat),Cm m rk h t->Wf h t->t.es≠[]->t.es.length<=5->Ba (flat h t)->(∀e∈flat h t,Lt s.last e.1)->(s.D=0\/s.D=dp+h)->s.lk+nn h t<=49->(∀a,2<=a->cnt a h t<=1/\(s.used.getD a false=true->cnt a h t=0))->m.blocks.length<=s.used.length->
   ∃c,Fu rk m f s t.place (h==0) (Cg h t) dp=some c/\c.D=dp+h/\SvR s c (nn h t-1) (fun a=>cnt a h t) (flat h t)):
  ∀(b:List (By×Nd h)) (s:Ej),(∀e∈b,Gl e/\Cm m rk h e.2)->Ba (b.flatMap fun e=>flat h e.2)->(∀e∈b.flatMap (fun e=>flat h e.2),Lt s.last e.1)->(s.D=0\/s.D=dp+1+h)->s.lk+(b.map fun e=>nn h e.2).sum<=48->(∀a,2<=a->Fv a (h+1) b<=1/\(s.used.getD a false=true->Fv a (h+1) b=0))->m.blocks.length<=s.used.length->
   ∃c,Pg rk m dp (Fu rk m f) (b.map fun e=>⟨e.1,[],e.2.place,e.2.dig⟩) s=some c/\(b≠[]->c.D=dp+1+h)/\(b=[]->c=s)/\SvR s c ((b.map fun e=>nn h e.2).sum) (fun a=>Fv a (h+1) b) (b.flatMap fun e=>flat h e.2)
 | [],s,_,_,_,_,_,_,_=>⟨s,rfl,fun h=>absurd rfl h,fun _=>rfl,⟨by simp,rfl,rfl,fun a=>by simp[Fv]⟩⟩
 |e::b,s,hk,ha,hl,hD,hlk,hc,hul=>by
  obtain⟨j,o⟩:=hk e (by simp);have i:=Oi o;rw[Da]at ha hl;rw[Db,Jy]at hlk;obtain⟨x,K,F⟩:=Dc.1 ha;have M:=Yk h e.2
  have N:1<=cnt e.2.place h e.2:=by
   cases h with
   |zero=>simp[cnt,one]
   |succ h=>simp only[cnt,one,beq_self_eq_true,if_true];omega
  have n:∀a,Fv a (h+1) (e::b)=cnt a h e.2+Fv a (h+1) b:=fun a=>Lz ..
  have L:s.used.getD e.2.place false=false:=by
   cases H:s.used.getD e.2.place false with
   |false=>rfl
   |true=>have:=(hc e.2.place i.1).2 H;rw[n]at this;omega
  have y:Fd rk m s.lk e.2.place e.2.dig=some (h==0,Cg h e.2):=by unfold Fd;rw[if_pos ⟨i.1,i.2.1,by omega⟩];exact i.2.2
  have v:Ie rk m s.lk (Aw.eg ⟨e.1,[],e.2.place,e.2.dig⟩)=some (h==0,Cg h e.2):=by unfold Ie;show(Fd rk m s.lk e.2.place e.2.dig).bind _=_;rw[y];show(if Qf e.1 (Cg h e.2)then _ else _)=_;rw[Aee j];rfl
  have C:Fa m s.lk e.2.place=s.lk+1:=by unfold Fa;rw[if_pos ⟨i.1,i.2.1,by omega⟩]
  obtain⟨s1,I,p,l⟩:=ih e.2 {s with lk:=s.lk+1} (dp+1) o j.1.1 j.1.ne j.1.2.2 x (fun d hy=>hl d (Bl _ hy)) hD (by show s.lk+1+_<=_;omega) (fun a h2=>by
   have:=hc a h2;rw[n]at this;refine⟨by omega,fun g=>?_⟩;have:=this.2 g
   omega) hul
  have E:s1.lk=s.lk+1+(nn h e.2-1):=l.lk;have u:s1.last=Jn s.last (flat h e.2):=l.last;have J:s1.used.length=s.used.length:=l.ul;have q:∀a,s1.used.getD a false=(s.used.getD a false||decide (0<cnt a h e.2)):=l.us
  obtain⟨s2,w,G,D,k⟩:=Aot ih b s1 (fun d hy=>hk d (by simp[hy])) K (fun d hy=>by
   rw[u];rcases Aft s.last (flat h e.2)with g|⟨z,hz,A⟩
   ·rw[g];exact hl d (Bg _ hy)
   ·rw[<-A];exact F z hz d hy) (.inr p) (by omega) (fun a h2=>by
   have:=hc a h2;rw[n]at this;refine⟨by omega,fun g=>?_⟩;rw[q]at g;simp only[Bool.or_eq_true,decide_eq_true_eq]at g;rcases g with g|g
   ·have:=this.2 g;omega
   ·omega) (by omega)
  refine⟨s2,?_,fun _=>?_,fun h=>(by cases h),⟨?_,?_,by rw[k.ul,J],fun a=>?_⟩⟩
  ·rw[Db,Aar];show(if s.used.getD e.2.place false then _ else _)=_;rw[L,if_neg (by decide),v];simp only[Ip];have h1:Fa m s.lk (⟨e.1,[],e.2.place,e.2.dig⟩:Aw).place=s.lk+1:=C;rw[h1];show(Fu rk m f {s with lk:=s.lk+1} e.2.place (h==0) (Cg h e.2) (dp+1)).bind _=_;rw[I];exact w
  ·cases b with
   |nil=>rw[D rfl];exact p
   |cons d b=>exact G (by simp)
  ·rw[k.lk,E,Db,Jy];omega
  ·rw[k.last,u,Da,Amn]
  ·rw[k.us a,q a,n a];cases s.used.getD a false
   ·simp only[Bool.false_or];by_cases r:0<cnt a h e.2
    ·simp[r];omega
    ·simp[r];constructor<;>intro<;>omega
   ·simp
theorem Amo:∀(h f:Nat) (t:Nd h) (s:Ej) (dp:Nat),h<f->Cm m rk h t->Wf h t->t.es≠[]->t.es.length<=5->Ba (flat h t)->(∀e∈flat h t,Lt s.last e.1)->(s.D=0\/s.D=dp+h)->s.lk+nn h t<=49->(∀a,2<=a->cnt a h t<=1/\(s.used.getD a false=true->cnt a h t=0))->m.blocks.length<=s.used.length->
  ∃b,Fu rk m f s t.place (h==0) (Cg h t) dp=some b/\b.D=dp+h/\SvR s b (nn h t-1) (fun a=>cnt a h t) (flat h t)
 |0,f+1,t,s,dp,_,hst,hw,hn,hl,ha,hla,hD,hlk,hc,hul=>by
  have c:t.place<s.used.length:=Eu hst.2.1 hul;refine⟨⟨s.used.set t.place true,s.lk,dp,Jn s.last t.es⟩,?_,rfl,⟨rfl,rfl,by simp,fun a=>?_⟩⟩
  ·unfold Fu;rw[if_pos (by rfl)]
   have:Pu dp s.D s.last (Cg 0 t)=some (Jn s.last t.es):=by unfold Pu;rw[if_pos (show s.D=0\/s.D=dp from hD)];exact Ai5 t.es s.last ha hla
   rw[this];rfl
  ·show(s.used.set t.place true).getD a false=_;rw[Ae0 _ _ _ c];simp only[cnt,one];by_cases e:t.place=a
   ·simp[e]
   ·simp[e]
 |h+1,f+1,t,s,dp,hf,hst,hw,hn,hl,ha,hla,hD,hlk,hc,hul=>by
  have c:t.place<s.used.length:=Eu hst.1.2.1 hul;have k:∀a,cnt a (h+1) t=one (t.place==a)+Fv a (h+1) t.es:=fun a=>Js a (h+1) t;have o:nn (h+1) t=1+(t.es.map fun e:By×Nd h=>nn h e.2).sum:=rfl;rw[o]at hlk⊢
  obtain⟨b,l,n,_,d⟩:=Aot (f:=f) (dp:=dp) (fun t s dp=>Amo h f t s dp (by omega)) t.es {s with used:=s.used.set t.place true} (fun e i=>⟨(Gg.1 hw) e i,hst.2 e i⟩) ha hla (by show s.D=0\/s.D=dp+1+h;omega) (by show s.lk+_<=_;omega) (fun a h2=>by
   have j:=hc a h2;rw[k]at j;refine⟨by omega,fun g=>?_⟩;rw[Ae0 _ _ _ c]at g;simp only[Bool.or_eq_true,decide_eq_true_eq]at g;rcases g with g|g
   ·have:=j.2 g;omega
   ·have:one (t.place==a)=1:=by rw[g];simp[one]
    omega) (by show _<=(s.used.set t.place true).length;rw[Ht];exact hul)
  refine⟨b,?_,by rw[n hn];omega,⟨?_,d.last,by rw[d.ul];exact Ht,fun a=>?_⟩⟩
  ·unfold Fu;rw[if_neg (by simp)];exact l
  ·have:=d.lk;simp only at this;rw[this];omega
  ·rw[d.us a];show((s.used.set t.place true).getD a false||_)=_;rw[Ae0 _ _ _ c,k];by_cases e:t.place=a
   ·subst e;simp[one];omega
   ·have:one (t.place==a)=0:=by simp[one,e]
    rw[this,Dq];simp[e]
end
def Jl (N:Nat)(f:Nat->Nat):Nat:=((List.range N).map f).sum
theorem Qn (N:Nat)(f:Nat->Nat):Jl (N+1) f=Jl N f+f N:=by unfold Jl;rw[List.range_succ,Lw,List.sum_append];simp
theorem Ago (N:Nat)(f g:Nat->Nat):Jl N (fun a=>f a+g a)=Jl N f+Jl N g:=by
 induction N with
 |zero=>rfl
 |succ N ih=>rw[Qn,Qn,Qn,ih];omega
theorem A3w {N:Nat}{f g:Nat->Nat}(h:∀a,a<N->f a=g a):Jl N f=Jl N g:=by
 induction N with
 |zero=>rfl
 |succ N ih=>rw[Qn,Qn,ih (fun a ha=>h a (by omega)),h N (by omega)]
theorem Akl (N p:Nat):Jl N (fun a=>one (p==a))=if p<N then 1 else 0:=by
 induction N with
 |zero=>rfl
 |succ N ih=>
  rw[Qn,ih];by_cases e:p=N
  ·subst e;simp[one]
  ·have h1:one (p==N)=0:=by simp[one,e]
   rw[h1];by_cases g:p<N
   ·rw[if_pos g,if_pos (by omega)]
   ·rw[if_neg g,if_neg (by omega)]
theorem Any (N:Nat):Jl N (fun a=>one (decide (2<=a)))=N-2:=by
 induction N with
 |zero=>rfl
 |succ N ih=>
  rw[Qn,ih];by_cases g:2<=N
  ·simp[one,g];omega
  ·simp[one,g];omega
theorem Ans {α:Type}(N:Nat)(f:Nat->α->Nat):∀l:List α,Jl N (fun a=>(l.map (f a)).sum)=(l.map fun e=>Jl N (fun a=>f a e)).sum
 | []=>by
  induction N with
  |zero=>rfl
  |succ N ih=>rw[Qn,ih];rfl
 |e::l=>by have ih:=Ans N f l;rw[Db,Jy,<-ih,<-Ago];rfl
theorem Akn {m:DM}{rk:By}{N:Nat}(b:m.blocks.length<=N):∀(h:Nat) (t:Nd h),Cm m rk h t->Jl N (fun a=>cnt a h t)=nn h t
 |0,t,hs=>by have:t.place<N:=Eu hs.2.1 b;show Jl N (fun a=>one (t.place==a))=1;rw[Akl,if_pos this]
 |h+1,t,hs=>by
  have:t.place<N:=Eu hs.1.2.1 b;show Jl N (fun a=>one (t.place==a)+(t.es.map fun e:By×Nd h=>cnt a h e.2).sum)=1+(t.es.map fun e:By×Nd h=>nn h e.2).sum;rw[Ago,Akl,if_pos this,Ans N (fun a (e:By×Nd h)=>cnt a h e.2)]
  congr 2
  exact Aaj fun e c=>Akn b h e.2 (hs.2 e c)
theorem Al9 {m:DM}{rk:By}{v:VM}{T:Ay}{N:Nat}(d:m.blocks.length<=N)(c:Hy m rk v T):Jl N (fun a=>Fj a T)=Gt T:=by
 cases T with
 |none=>
  show Jl N (fun _=>0)=0
  induction N with
  |zero=>rfl
  |succ N ih=>
   rw[Qn]
   have:∀b,Jl b (fun _=>0)=0:=fun b=>by
    induction b with
    |zero=>rfl
    |succ b ih=>rw[Qn,ih]
   rw[this]
 |some q=>obtain⟨h,t⟩:=q;exact Akn d h t c.2.2
theorem A2j (used:List Bool)(n:Nat):(Et used n).length=Jl n (fun a=>one (decide (2<=a)&& !used.getD a false)):=by
 unfold Et Jl
 induction n with
 |zero=>rfl
 |succ n ih=>
  rw[List.range_succ,Xw,Bb,ih,Lw,List.sum_append]
  congr 1
  simp only[Db,Lc,Jy,List.sum_nil,Pp];rw[List.filter_cons,List.filter_nil];cases(decide (2<=n)&& !used.getD n false)<;>rfl
theorem Awi {m:DM}{rk:By}{v:VM}{T:Ay}(b:Hy m rk v T)(c:Tp v.used T):(Et v.used m.blocks.length).length+Gt T=m.blocks.length-2:=by
 rw[A2j,<-Al9 (Ak _) b,<-Ago,<-Any];refine A3w fun a ha=>?_;by_cases g:2<=a
 ·rw[c a g];cases v.used.getD a false<;>simp[one,g]
 ·have h0:Fj a T=0:=by
   by_cases e:0<Fj a T
   ·exact absurd (Aa0 b a e).1 g
   ·omega
  rw[h0];simp[one,g]
theorem Abn {m:DM}{rk:By}{v:VM}{T:Ay}(b:Hy m rk v T)(c:∀a,2<=a->Fj a T<=1):Gt T<=m.blocks.length-2:=by
 rw[<-Al9 (Ak _) b,<-Any]
 have:∀N,Jl N (fun a=>Fj a T)<=Jl N (fun a=>one (decide (2<=a))):=fun N=>by
  induction N with
  |zero=>exact Ak _
  |succ N ih=>
   rw[Qn,Qn];by_cases g:2<=N
   ·have h1:=c N g;have h2:one (decide (2<=N))=1:=by simp[one,g]
    rw[h2];omega
   ·have h0:Fj N T=0:=by
     by_cases e:0<Fj N T
     ·exact absurd (Aa0 b N e).1 g
     ·omega
    omega
 exact this _
theorem Apu:∀(h:Nat) (t:Nd h),Wf h t->t.es.length<=5->(flat h t).length<=5*nn h t
 |0,t,_,hl=>by show t.es.length<=5*1;omega
 |h+1,t,hw,_=>by
  show(t.es.flatMap fun e:By×Nd h=>flat h e.2).length<=5*(1+(t.es.map fun e:By×Nd h=>nn h e.2).sum)
  have:∀l:List (By×Nd h),(∀e∈l,Gl e)->(l.flatMap fun e=>flat h e.2).length<=5*(l.map fun e:By×Nd h=>nn h e.2).sum:=by
   intro l
   induction l with
   |nil=>intro _;exact Ak _
   |cons e l ih=>intro hk;have h1:=ih (fun b hy=>hk b (by simp[hy]));have a:=hk e (by simp);have h2:=Apu h e.2 a.1.1 a.1.2.2;rw[Da,Bb,Db,Jy];omega
  have:=this t.es (Gg.1 hw);omega
theorem Ads {T:Ay}(hr:Ep T):(Df T).length<=5*Gt T:=by
 cases T with
 |none=>exact Ak _
 |some q=>obtain⟨h,t⟩:=q;have a:Kn h t:=hr;exact Apu h t a.wf a.le
theorem Asz {m:DM}{rk:By}{v:VM}{T:Ay}(k:Hy m rk v T)(hr:Ep T)(i:∀a,2<=a->Fj a T<=1)(hb:m.blocks.length<=48)(hd:T=none->v.digest=[]):∃u,Mi rk m v.place v.digest Ns=some u/\u.length=48/\Tp u T:=by
 have d:∀a,Ns.getD a false=false:=fun a=>by unfold Ns;rw[Ea,Ab6];split<;>rfl
 cases T with
 |none=>have h0:v.place=0:=k;refine⟨Ns,by unfold Mi;rw[if_pos h0],by simp[Ns],fun a _=>?_⟩;rw[d];rfl
 |some q=>
  obtain⟨h,t⟩:=q;have b:Kn h t:=hr;obtain⟨e1,e2,f⟩:=k;have c:=Oi f;have z:nn h t<=m.blocks.length-2:=Abn (T:=some ⟨h,t⟩) (v:=v) ⟨e1,e2,f⟩ i;have hh:=Adr h t b.wf b.ne
  obtain⟨p,y,A,j⟩:=Amo (rk:=rk) (m:=m) h 48 t ⟨Ns,1,0,[]⟩ 1 (by omega) f b.wf b.ne b.le b.asc (fun e o=>by
   have:=(Ac9 h t b.wf e o).1;show Lt [] e.1;unfold Lt
   cases hk:e.1 with
   |nil=>rw[hk]at this;simp at this
   |cons x l=>rfl) (.inl rfl) (by show 1+_<=_;omega) (fun a h2=>⟨i a h2,fun g=>by
   have:Ns.getD a false=true:=g
   rw[d]at this;cases this⟩) (by show _<=Ns.length;simp[Ns];exact hb)
  refine⟨p.used,?_,by rw[j.ul];simp[Ns],fun a h2=>?_⟩
  ·unfold Mi;rw[if_neg (by rw[e1];have:=c.1;omega)]
   have r:Fd rk m 0 v.place v.digest=some (h==0,Cg h t):=by unfold Fd;rw[e1,e2,if_pos ⟨c.1,c.2.1,by decide⟩];exact c.2.2
   rw[r];simp only[Ip];rw[e1,y];rfl
  ·have:=j.us a;have n:({used:=Ns,lk:=1,D:=0,last:=[]}:Ej).used.getD a false=false:=d a;rw[n,Bool.false_or]at this;rw[this];have w:=i a h2;have s:Fj a (some ⟨h,t⟩)=cnt a h t:=rfl;rw[s]at w⊢;by_cases g:0<cnt a h t
   ·simp only[g,decide_true,one,if_true];omega
   ·simp only[g,decide_false,one];simp;omega
theorem Anq {t:By}{p n:Nat}{r:Bool}(h:(Mv t p n r).2.2=true):r=true/\(Mv t p n r).1.length=n:=by
 unfold Mv at h⊢;split at h
 ·rename_i g;rw[if_pos g];exact⟨h,by simp;omega⟩
 ·cases h
theorem Ak6 {t:By}{p:Nat}{r:Bool}(h:(Ih t p r).2.2=true):r=true:=by
 unfold Ih at h;split at h
 ·exact h
 ·cases h
theorem Aih {t:By}{p lo a:Nat}{r:Bool}(h:(On t p lo a r).2.2=true):r=true/\lo<=(On t p lo a r).1.length/\(On t p lo a r).1.length<=a:=by
 unfold On at h⊢;simp only at h⊢;split at h
 ·cases h
 ·rename_i g;rw[if_neg g];obtain⟨h1,h2⟩:=Anq h;exact⟨Ak6 h1,by omega,by omega⟩
def Sw (leaf:Bool)(e:Aw):Prop:=if leaf then 1<=e.key.length/\e.key.length<=8/\e.value.length<=16/\e.place=0/\e.digest=[]else e.value=[]
theorem Afz {t:By}{leaf:Bool}{p:Nat}{r:Bool}(h:(Lp t leaf p r).2.2=true):r=true/\Sw leaf (Lp t leaf p r).1:=by
 cases leaf with
 |true=>unfold Lp at h⊢;simp only[if_true]at h⊢;obtain⟨h1,h2,c⟩:=Aih h;obtain⟨b,a,d⟩:=Aih h1;exact⟨b,by unfold Sw;rw[if_pos rfl];exact⟨a,d,c,rfl,rfl⟩⟩
 |false=>unfold Lp at h⊢;simp only[Ng,if_false]at h⊢;obtain⟨h1,_⟩:=Anq h;exact⟨(Aih (Ak6 h1)).1,by unfold Sw;simp⟩
theorem Apt {t:By}{leaf:Bool}:∀ {m:Nat} {es:List Aw} {p:Nat} {r:Bool} {x:List Aw×Nat×Bool},Iz t leaf m es p r=some x->x.2.2=true->(∀e∈es,Sw leaf e)->r=true/\∀e∈x.1,Sw leaf e
 |0,es,p,r,x,h,hr,ho=>by simp[Iz]at h;subst h;exact⟨hr,ho⟩
 |m+1,es,p,r,x,h,hr,ho=>by
  unfold Iz at h;split at h
  ·cases h
  ·obtain⟨h1,h2⟩:=Apt h hr (fun e b=>by
    rcases As.1 b with g|g
    ·exact ho e g
    ·simp at g;subst g;by_cases a:(Lp t leaf p r).2.2=true
     ·exact(Afz a).2
     ·exfalso
      have:∀ {m:Nat} {es:List Aw} {p:Nat} {r:Bool} {x:List Aw×Nat×Bool},Iz t leaf m es p r=some x->x.2.2=true->r=true:=by
       intro m
       induction m with
       |zero=>intro es p r x h hr;simp[Iz]at h;subst h;exact hr
       |succ m ih=>
        intro es p r x h hr;unfold Iz at h;split at h
        ·cases h
        ·exact(Afz (ih h hr)).1
      exact a (this h hr))
   exact⟨(Afz h1).1,h2⟩
theorem A34 {t:By}{leaf:Bool}{es:List Aw}(h:Lq t=some (leaf,es)):(∀e∈es,Sw leaf e)/\es.length<=5/\(leaf=true->1<=es.length)/\(leaf=false->2<=es.length):=by
 unfold Lq at h;simp only at h;split at h
 ·rename_i i;split at h
  ·cases h
  ·rename_i es' j c a;split at h
   ·rename_i hr;have f:=Afo a;simp only[Ov,Dq]at f
    have d:c=true:=by
     cases c with
     |true=>rfl
     |false=>simp at hr
    obtain⟨_,h2⟩:=Apt a d (fun e h=>by cases h);simp only[Option.some.injEq,Prod.mk.injEq]at h;obtain⟨b,rfl⟩:=h;rw[b]at h2;refine⟨h2,by omega,fun _=>by omega,fun e=>?_⟩;rw[<-b]at e;simp only[beq_eq_false_iff_ne]at e;rcases i.1 with g|g
    ·exact absurd g.1 e
    ·omega
   ·cases h
 ·cases h
theorem Akv {rk d blk:By}{p:Nat}{leaf:Bool}{es:List Aw}(h:Nu rk d blk p=some (leaf,es)):(∀e∈es,Sw leaf e)/\es.length<=5/\(leaf=true->1<=es.length)/\(leaf=false->2<=es.length):=by
 unfold Nu at h;split at h
 ·cases a:Pc rk blk p with
  |none=>rw[a]at h;cases h
  |some t=>rw[a]at h;exact A34 (show Lq t=some (leaf,es)from h)
 ·cases h
def kv (e:Aw):By×By:=(e.key,e.value)
theorem Am6:∀(es:List Aw) (d l:By),Li d es=some l->Ba (es.map kv)/\(∀e∈es.map kv,Lt d e.1)/\l=Jn d (es.map kv)
 | [],d,l,h=>by
  cases h;exact⟨List.Pairwise.nil,fun e b=>(by cases b),rfl⟩
 |a::es,d,l,h=>by
  unfold Li at h;split at h
  ·rename_i f;obtain⟨h1,h2,c⟩:=Am6 es a.key l h;have hd:Lt d a.key:=f;refine⟨Er.2 ⟨h2,h1⟩,fun e b=>?_,c⟩;rcases Al.1 b with rfl|g
   ·exact hd
   ·exact hd.trans (h2 e g)
  ·cases h
def KS (m:DM)(rk:By):(h:Nat)->Nd h->Prop
 |0,_=>True
 |h+1,t=>∀e∈t.es,Cm m rk h e.2
structure Apf (leaf:Bool)(es:List Aw):Prop where
 ok:∀e∈es,Sw leaf e
 le:es.length<=5
 l1:leaf=true->1<=es.length
 l2:leaf=false->2<=es.length
structure Aml (m:DM)(rk:By)(s s':Ej)(p:Nat)(d:By)(leaf:Bool)(es:List Aw)(dp h:Nat)(t:Nd h):Prop where
 pl:t.place=p
 dg:t.dig=d
 lf:leaf=(h==0)
 en:Cg h t=es
 ks:KS m rk h t
 wf:Wf h t
 asc:Ba (flat h t)
 lo:∀e∈flat h t,Lt s.last e.1
 last:s'.last=Jn s.last (flat h t)
 dep:dp+h=s'.D
 same:s.D=0\/s.D=s'.D
 lk:s'.lk+1=s.lk+nn h t
theorem KS.stored {m:DM}{rk:By}{h:Nat}{t:Nd h}(hk:KS m rk h t)(a:Ab0 m rk (h==0) t.place t.dig (Cg h t)):Cm m rk h t:=by
 cases h with
 |zero=>exact a
 |succ h=>exact⟨a,hk⟩
section
variable {m:DM}{rk:By}
def Afx {h:Nat}(e:By×Nd h):Aw:=⟨e.1,[],e.2.place,e.2.dig⟩
structure Atd (m:DM)(rk:By)(s s':Ej)(es:List Aw)(dp h:Nat)(L:List (By×Nd h)):Prop where
 en:es=L.map Afx
 ok:∀e∈L,Gl e/\Cm m rk h e.2
 asc:Ba (L.flatMap fun e=>flat h e.2)
 lo:∀e∈L.flatMap (fun e=>flat h e.2),Lt s.last e.1
 last:s'.last=Jn s.last (L.flatMap fun e=>flat h e.2)
 dep:dp+1+h=s'.D
 same:s.D=0\/s.D=s'.D
 lk:s'.lk=s.lk+(L.map fun e=>nn h e.2).sum
theorem Ayc {d:By}{A B:PL}(h1:Ba A)(h2:Ba B)(j:∀e∈A,Lt d e.1)(c:∀e∈B,Lt (Jn d A) e.1):Ba (A++B)/\∀e∈A++B,Lt d e.1:=by
 have k:∀(A:PL) (d:By),Ba A->∀e∈A,e.1=Jn d A\/Lt e.1 (Jn d A):=by
  intro A
  induction A with
  |nil=>intro d _ e f;cases f
  |cons a A ih=>
   intro d ha e f;obtain⟨l,m⟩:=Er.1 ha;have el:Jn d (a::A)=Jn a.1 A:=rfl;rw[el];rcases Al.1 f with rfl|g
   ·rcases Aft e.1 A with q|⟨x,i,h⟩
    ·exact .inl q.symm
    ·rw[<-h];exact .inr (l x i)
   ·exact ih a.1 m e g
 refine⟨Dc.2 ⟨h1,h2,fun a ha b hb=>?_⟩,fun e f=>?_⟩
 ·rcases k A d h1 a ha with g|g
  ·rw[g];exact c b hb
  ·exact g.trans (c b hb)
 ·rcases As.1 f with g|g
  ·exact j e g
  ·rcases Aft d A with q|⟨x,i,h⟩
   ·rw[q]at c;exact c e g
   ·rw[<-h]at c;exact(j x i).trans (c e g)
theorem Ako {f dp:Nat}(ih:∀(s:Ej) (p:Nat) (leaf:Bool) (es:List Aw) (dp:Nat) (b:Ej) (d:By),Fu rk m f s p leaf es dp=some b->Apf leaf es->∃h,∃t:Nd h,Aml m rk s b p d leaf es dp h t):
  ∀(es:List Aw) (s b:Ej),es≠[]->Pg rk m dp (Fu rk m f) es s=some b->(∀e∈es,e.value=[])->∃h,∃k:List (By×Nd h),Atd m rk s b es dp h k
 | [],_,_,h,_,_=>absurd rfl h
 |e::es,s,b,_,hk,hv=>by
  rw[Aar]at hk;split at hk
  ·cases hk
  ·cases n:Ie rk m s.lk e.eg with
   |none=>rw[n]at hk;cases hk
   |some r=>
    obtain⟨lf,i⟩:=r;rw[n]at hk;simp only[Ip]at hk;obtain⟨I,j⟩:=Aie n;obtain⟨l1,l2,G,_,_,y⟩:=Abj I;have E:Fa m s.lk e.place=s.lk+1:=by unfold Fa;rw[if_pos ⟨l1,l2,G⟩]
    rw[E]at hk
    cases hb:Fu rk m f {s with lk:=s.lk+1} e.place lf i (dp+1)with
    |none=>rw[hb]at hk;cases hk
    |some s1=>
     rw[hb]at hk;simp only[Ip]at hk;obtain⟨o1,J,D,H⟩:=Akv y;obtain⟨h,t,B⟩:=ih _ _ _ _ _ _ e.digest hb ⟨o1,J,D,H⟩
     have F:2<=i.length/\Yv i=e.key:=by unfold Qf at j;simp only[Qw,beq_iff_eq,decide_eq_true_eq]at j;exact⟨j.2,j.1⟩
     have M:t.es.length=i.length:=by rw[<-B.en];cases h<;>simp[Cg]
     have o:Gl (e.key,t):=⟨⟨B.wf,by show 2<=t.es.length;omega,by show t.es.length<=5;omega⟩,by show e.key=t.least;rw[<-Anj h t,B.en];exact F.2.symm⟩;have u:Cm m rk h t:=B.ks.stored ⟨by rw[B.pl];exact l1,by rw[B.pl];exact l2,by rw[B.pl,B.dg,<-B.lf,B.en];exact y⟩
     have z:Afx (e.key,t)=e:=by unfold Afx;simp only;rw[B.pl,B.dg,<-hv e (by simp)]
     have x:s.D=0\/s.D=s1.D:=B.same;have C:dp+1+h=s1.D:=B.dep;have L:s1.lk+1=s.lk+1+nn h t:=B.lk;have l:s1.last=Jn s.last (flat h t):=B.last;have v:∀c∈flat h t,Lt s.last c.1:=B.lo
     cases es with
     |nil=>
      cases hk;refine⟨h,[(e.key,t)],by rw[Db,z];rfl,fun c hy=>?_,by simpa using B.asc,by simpa using v,by simpa using l,C,x,by simp;omega⟩;simp at hy;subst hy;exact⟨o,u⟩
     |cons e2 es=>
      obtain⟨h2,k,a⟩:=Ako ih (e2::es) s1 b (by simp) hk (fun c hy=>hv c (Nb _ hy))
      have hh:h2=h:=by
       have N:=a.dep;rcases a.same with g|g
       ·omega
       ·omega
      subst hh;have w:=a.lo;rw[l]at w;obtain⟨K,A⟩:=Ayc B.asc a.asc v w;refine⟨h2,(e.key,t)::k,by rw[Db,z,<-a.en],fun c hy=>?_,by rw[Da];exact K,by rw[Da];exact A,by rw[a.last,l,Da,Amn],a.dep,?_,?_⟩
      ·rcases Al.1 hy with rfl|g
       ·exact⟨o,u⟩
       ·exact a.ok c g
      ·rcases x with g|g
       ·exact .inl g
       ·rcases a.same with q|q
        ·omega
        ·exact .inr (g.trans q)
      ·rw[a.lk,Db,Jy];show _=s.lk+(nn h2 t+_);omega
theorem Ao8:∀(f:Nat) (s:Ej) (p:Nat) (leaf:Bool) (es:List Aw) (dp:Nat) (c:Ej) (d:By),Fu rk m f s p leaf es dp=some c->Apf leaf es->∃h,∃t:Nd h,Aml m rk s c p d leaf es dp h t
 |0,_,_,_,_,_,_,_,hb,_=>by cases hb
 |f+1,s,p,leaf,es,dp,c,d,hb,ho=>by
  unfold Fu at hb
  cases leaf with
  |true=>
   rw[if_pos rfl]at hb
   cases i:Pu dp s.D s.last es with
   |none=>rw[i]at hb;cases hb
   |some l=>
    rw[i]at hb;cases hb;unfold Pu at i;split at i
    ·rename_i u;obtain⟨n,w,y⟩:=Am6 es s.last l i
     have k:∀e∈es,1<=e.key.length/\e.key.length<=8/\e.value.length<=16/\e.place=0/\e.digest=[]:=fun e a=>by have:=ho.ok e a;unfold Sw at this;rw[if_pos rfl]at this;exact this
     refine⟨0,⟨p,d,es.map kv⟩,rfl,rfl,rfl,?_,trivial,fun e a=>?_,n,w,y,rfl,?_,rfl⟩
     ·show(es.map kv).map _=es;rw[Pq]
      conv=>rhs;rw[<-List.map_id es]
      refine Aaj fun e a=>?_;obtain⟨_,_,_,o,v⟩:=k e a;show(⟨e.key,e.value,0,[]⟩:Aw)=e;rw[<-o,<-v]
     ·obtain⟨x,hy,rfl⟩:=Kj.1 a;have:=k x hy;exact⟨this.1,this.2.1,this.2.2.1⟩
     ·rcases u with g|g
      ·exact .inl g
      ·exact .inr g
    ·cases i
  |false=>
   rw[if_neg (by decide)]at hb
   have r:∀e∈es,e.value=[]:=fun e a=>by have:=ho.ok e a;unfold Sw at this;rw[if_neg (by decide)]at this;exact this
   have q:es≠[]:=fun e=>by have:=ho.l2 rfl;rw[e]at this;simp at this
   obtain⟨h,j,b⟩:=Ako (dp:=dp) (fun s p leaf es dp c d=>Ao8 f s p leaf es dp c d) es _ c q hb r;refine⟨h+1,⟨p,d,j⟩,rfl,rfl,rfl,b.en.symm,fun e a=>(b.ok e a).2,Gg.2 (fun e a=>(b.ok e a).1),b.asc,b.lo,b.last,by have:=b.dep;omega,b.same,?_⟩;have h1:c.lk=s.lk+(j.map fun e=>nn h e.2).sum:=b.lk;show c.lk+1=s.lk+(1+(j.map fun e:By×Nd h=>nn h e.2).sum);omega
end
theorem Al3 {m:DM}{rk:By}:∀(f:Nat) (s:Ej) (p:Nat) (leaf:Bool) (es:List Aw) (dp:Nat) (a:Ej),Fu rk m f s p leaf es dp=some a->s.lk<=48->a.lk<=48
 |0,_,_,_,_,_,_,hb,_=>by cases hb
 |f+1,s,p,leaf,es,dp,a,hb,b=>by
  unfold Fu at hb
  cases leaf with
  |true=>
   rw[if_pos rfl]at hb
   cases d:Pu dp s.D s.last es with
   |none=>rw[d]at hb;cases hb
   |some l=>rw[d]at hb;cases hb;exact b
  |false=>
   rw[if_neg (by decide)]at hb
   have:∀(es:List Aw) (s a:Ej),Pg rk m dp (Fu rk m f) es s=some a->s.lk<=48->a.lk<=48:=by
    intro es
    induction es with
    |nil=>intro s a h b;cases h;exact b
    |cons e es ih=>
     intro s a hk b;rw[Aar]at hk;split at hk
     ·cases hk
     ·cases c:Ie rk m s.lk e.eg with
      |none=>rw[c]at hk;cases hk
      |some r=>
       obtain⟨lf,i⟩:=r;rw[c]at hk;simp only[Ip]at hk;obtain⟨l1,l2,j,_⟩:=Abj (Aie c).1;have g:Fa m s.lk e.place=s.lk+1:=by unfold Fa;rw[if_pos ⟨l1,l2,j⟩]
       rw[g]at hk
       cases hb:Fu rk m f {s with lk:=s.lk+1} e.place lf i (dp+1)with
       |none=>rw[hb]at hk;cases hk
       |some s1=>rw[hb]at hk;exact ih s1 a hk (Al3 f _ _ _ _ _ _ hb (by show s.lk+1<=48;omega))
   exact this es _ a hb b
theorem Ayh {m:DM}{rk:By}{place:Nat}{dig:By}{used u:List Bool}(h:Mi rk m place dig used=some u):∃T,Ep T/\Gt T<=48/\(∀v:VM,v.place=place->v.digest=dig->Hy m rk v T):=by
 unfold Mi at h;split at h
 ·rename_i h0;exact⟨none,trivial,by decide,fun v e _=>e.trans h0⟩
 ·cases b:Fd rk m 0 place dig with
  |none=>rw[b]at h;cases h
  |some r=>
   obtain⟨leaf,es⟩:=r;rw[b]at h;simp only[Ip,Ig]at h;obtain⟨j,hb,_⟩:=h;obtain⟨l1,l2,_,_,_,c⟩:=Abj b;obtain⟨o1,i,f,a⟩:=Akv c;obtain⟨hh,t,B⟩:=Ao8 48 _ _ _ _ _ _ dig hb ⟨o1,i,f,a⟩;have d:t.es.length=es.length:=by rw[<-B.en];cases hh<;>simp[Cg]
   have l:Cm m rk hh t:=B.ks.stored ⟨by rw[B.pl];exact l1,by rw[B.pl];exact l2,by rw[B.pl,B.dg,<-B.lf,B.en];exact c⟩
   have g:t.es≠[]:=fun e=>by
    rw[e]at d;simp at d
    cases leaf with
    |true=>have:=f rfl;omega
    |false=>have:=a rfl;omega
   refine⟨some ⟨hh,t⟩,⟨B.wf,g,by omega,?_,B.asc⟩,?_,fun v e1 e2=>⟨e1.trans B.pl.symm,e2.trans B.dg.symm,l⟩⟩
   ·cases hh with
    |zero=>exact .inl rfl
    |succ k=>right;have:leaf=false:=B.lf;have:=a this;omega
   ·have h1:=Al3 48 _ _ _ _ _ _ hb (by show 1<=48;decide);have h2:j.lk+1=1+nn hh t:=B.lk;show nn hh t<=48;omega
end Go.Proofs.YtojgilcdgccojaaGreatDoor
