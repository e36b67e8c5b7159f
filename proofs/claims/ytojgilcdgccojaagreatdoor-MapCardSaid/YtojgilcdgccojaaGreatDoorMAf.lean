import Derived.Deep.Cut
import Derived.Test.YtojgilcdgccojaaGreatDoorAl
import Derived.Test.YtojgilcdgccojaaGreatDoorMAe
import Derived.Test.YtojgilcdgccojaaGreatDoorMAb
set_option linter.unusedSimpArgs false
set_option maxRecDepth 100000
set_option maxHeartbeats 8000000
namespace Go.Proofs.YtojgilcdgccojaaGreatDoor
open Go.RowKit
def Wu (s:St):Array Value:= #[.int .u32 (s.a:Int),.int .u32 (s.b:Int),.int .u32 (s.c:Int),.int .u32 (s.d:Int),.int .u32 (s.e:Int),.int .u32 (s.f:Int),.int .u32 (s.g:Int),.int .u32 (s.h:Int)]
theorem Aqz (w:World)(o1 b a:Obj):(((w.alloc o1).alloc b).alloc a).heap[w.heap.size]?=some o1/\(((w.alloc o1).alloc b).alloc a).heap[w.heap.size+1+1]?=some a:=by
 refine⟨?_,?_⟩
 ·rw[Mn _ _ _ (by simp;omega),Mn _ _ _ (by simp)];exact heap_alloc_new w o1
 ·have:=heap_alloc_new ((w.alloc o1).alloc b) a;simpa using this
structure MX (w:World)(N1:Nat)(st:St)(W:List Nat)(wr:World):Prop where
 k:Br wr 1 .u32 Gk
 ww:Br wr N1 .u32 W
 s:Br wr w.heap.size .u32 st.list
 th:wr.there (w.heap.size+1+1) 0 8
 bel:Bw w wr
theorem MX.drewN {w:World}{a:Nat}{st:St}{W:List Nat}{wr:World}(h:MX w a st W wr)(q:Nat):MX w a st W (wr.drewN q):=
 ⟨⟨h.k.lt,h.k.at_⟩,⟨h.ww.lt,h.ww.at_⟩,⟨h.s.lt,h.s.at_⟩,h.th,Bp h.bel q⟩
theorem A1q (e f g:Nat)(a:e<4294967296)(b:f<4294967296)(d:g<4294967296):bits .xor .u32 (bits .and .u32 (e:Int) (f:Int)) (bits .and .u32 ((4294967295-e:Nat):Int) (g:Int))=((Uz e f g:Nat):Int):=by
 have h1:e&&& f<4294967296:=Tk a;have h2:(4294967295-e)&&& g<4294967296:=Tk (by omega);rw[u32_and_nat _ _ a b,u32_and_nat _ _ (by omega) d,u32_xor_nat _ _ h1 h2]
 congr 1
 unfold Uz;apply Nat.eq_of_testBit_eq;intro i
 have c:(4294967295-e).testBit i=(decide (i<32)&& !e.testBit i):=by have:=Nat.testBit_two_pow_sub_succ (n:=32) (x:=e) a i;rw[show 2^32-(e+1)=4294967295-e from by omega]at this;exact this
 simp only[Nat.testBit_xor,Nat.testBit_or,Nat.testBit_and,c];cases e.testBit i<;>cases f.testBit i<;>cases g.testBit i<;>cases decide (i<32)<;>rfl
theorem Aw5 (e:Nat)(a:e<4294967296)(i:Nat):(4294967295-e).testBit i=(decide (i<32)&& !e.testBit i):=by have:=Nat.testBit_two_pow_sub_succ (n:=32) (x:=e) a i;rw[show 2^32-(e+1)=4294967295-e from by omega]at this;exact this
theorem A3i (e:Nat)(a:e<4294967296):Op.unary .xor (.int .u32 (e:Int))=pure (.int .u32 ((4294967295-e:Nat):Int)):=by
 show Op.intBits .xor .u32 ((4294967295:Nat):Int) (e:Int)=_;rw[intBits_xor,u32_xor_nat 4294967295 e (by decide) a]
 have c:4294967295^^^e=4294967295-e:=by
  apply Nat.eq_of_testBit_eq;intro i
  have h1:(4294967295:Nat).testBit i=decide (i<32):=by have:=Nat.testBit_two_pow_sub_one 32 i;exact this
  rw[Nat.testBit_xor,h1,Aw5 e a];by_cases b:i<32
  ·simp[b]
  ·have:e.testBit i=false:=Nat.testBit_lt_two_pow (Eu a (by exact Nat.pow_le_pow_right (n:=2) (by decide) (show 32<=i by omega)));simp[b,this]
 rw[c]
theorem Avz (a b c:Nat)(ha:a<4294967296)(hb:b<4294967296)(d:c<4294967296):bits .xor .u32 (bits .xor .u32 (bits .and .u32 (a:Int) (b:Int)) (bits .and .u32 (a:Int) (c:Int))) (bits .and .u32 (b:Int) (c:Int))=((Zg a b c:Nat):Int):=by
 have h1:a&&& b<4294967296:=Tk ha;have h2:a&&& c<4294967296:=Tk ha;have e:b&&& c<4294967296:=Tk hb;rw[u32_and_nat _ _ ha hb,u32_and_nat _ _ ha d,u32_and_nat _ _ hb d,u32_xor_nat _ _ h1 h2,u32_xor_nat _ _ (Th h1 h2) e]
 congr 1
 unfold Zg;apply Nat.eq_of_testBit_eq;intro i;simp only[Nat.testBit_xor,Nat.testBit_or,Nat.testBit_and];cases a.testBit i<;>cases b.testBit i<;>cases c.testBit i<;>rfl
theorem At1 (x:Nat)(a:x<4294967296):bits .xor .u32 (bits .xor .u32 ((Dp x 6:Nat):Int) ((Dp x 11:Nat):Int)) ((Dp x 25:Nat):Int)=((Wp x:Nat):Int):=by rw[Adl _ _ _ (Ka x 6 a (by decide) (by decide)) (Ka x 11 a (by decide) (by decide)) (Ka x 25 a (by decide) (by decide))];rfl
theorem A3o (x:Nat)(a:x<4294967296):bits .xor .u32 (bits .xor .u32 ((Dp x 2:Nat):Int) ((Dp x 13:Nat):Int)) ((Dp x 22:Nat):Int)=((Abr x:Nat):Int):=by rw[Adl _ _ _ (Ka x 2 a (by decide) (by decide)) (Ka x 13 a (by decide) (by decide)) (Ka x 22 a (by decide) (by decide))];rfl
theorem A3e (st:St)(b:By)(w:World)(bm:st.ok)(hb:b.length=64)(hk:Br w 1 .u32 Gk):
  Cl 97 #[.agg (Wu st),.agg (Ae b).toArray] w fun e w'=>e=.returned (.agg (Wu (Mq st b)))/\Bw w w':=by
 have ad:(Ae b).length=64:=by simp[Ae,hb]
 have ca:=Aa hb;have a8:Mq st b=Zx (Zm (Si b) st 64) st:=rfl;have bd:=Aa a8;obtain⟨H,I,sc,N,se,K,J,sh⟩:=st;obtain⟨C,a2⟩:=nmd (Ae b);have an:=fun w=>At9 b w hb;rw[a2]at ad an⊢;have ax:=Aa an;have a9:=Aa ad;have cm:C.toArray.size=64:=by simpa using ad
 clear hb a2 an ad a8;simp only[Wu];have b0:=Aa (show(Tryz.prog.info? 148).map (·.size)=some C.length from by rw[a9.o];kernel_rfl);go_enter Tryz.func97,Tryz.ntmps97
 have bl:∀(ar:World) (o:Obj) (n:Nat),n=ar.heap.size->((ar.alloc (.cells C.toArray 148)).alloc o).rangeAt n 0 C:=fun ar o n cn=>World.rangeAt_alloc (fun j v ae=>by subst cn;rw[Dq,Xv _ _ _ _ rfl];simpa using ae) _
 have az:=Aa bl;clear bl;go_wp2_with (refine wpList_load_mid rfl 148 _ rfl (w.heap.size+1) 0 rfl C _ (az.o _ _ _ (by simp)) Tryz.underlying148 rfl b0.o ?_);refine(ax.o _).mono ?_;rintro e w1 ⟨rfl,aa⟩;have b5:=aa.size;simp at b5;have L:=(aa.block w.heap.size (by simp<;>omega)).trans (Aqz w _ _ _).1;have bj:=(aa.block (w.heap.size+1+1) (by simp<;>omega)).trans (Aqz w _ _ _).2;have ah:Bw w w1:=((((Ah _ _).alloc (Ak _) _).alloc (by simp) _).alloc (by simp;omega) _).trans (aa.mono (by simp;omega));have ao:=hk.below ah hk.lt;have ac:(Aj .u32 (Si b)).length=64:=by simp[Aj,Si,Ab1]
 have aq:=Nk .u32 (Si b);have ag:=Ah0 b 48;have af:=Ab1 b 48;have a3:Si b=It b 48:=rfl;rw[<-a3]at ag af;generalize a0:Si b=W at*;have b6:=Aa a0;have a4:=Aa af;clear a0 aa ax az b0 af a3;obtain⟨P,aw⟩:=nmd (Aj .u32 W);rw[aw]at ac aq⊢;have au:=Aa ac;have bv:=Aa aw;have b2:=Aa (show(Tryz.prog.info? 178).map (·.size)=some P.toArray.size from by rw[Uv,ac];kernel_rfl);clear ac aw;go_wp2_with (refine wpList_store_mid rfl 178 _ _ rfl w1.heap.size 0 P.toArray rfl rfl ?c1 b2.o (all_oneCell_toArray aq) ?_)
 case c1=>
  have e:P.toArray.size=64:=by simpa using au.o
  rw[e];exact Iy w1 _ _
 have k0:=cell_of_row w1 w.heap.size 0 _ _ _ L;have k1:=cell_of_row w1 w.heap.size 1 _ _ _ L;have V:=cell_of_row w1 w.heap.size 2 _ _ _ L;have X:=cell_of_row w1 w.heap.size 3 _ _ _ L;have U:=cell_of_row w1 w.heap.size 4 _ _ _ L;have R:=cell_of_row w1 w.heap.size 5 _ _ _ L;have Q:=cell_of_row w1 w.heap.size 6 _ _ _ L;have S:=cell_of_row w1 w.heap.size 7 _ _ _ L;simp at k0 k1 V X U R Q S;have cf:=hk.lt;obtain⟨w2,Z⟩:∃w2:World,w2=(w1.alloc (.cells (Aj .u32 (List.replicate 64 0)).toArray 178)).setCells w1.heap.size 0 P:=⟨_,rfl⟩;have r:Bw w1 w2:=by rw[Z];exact((Ah _ _).alloc (Ak _) _).trans (Ec _ _ _ _ _ (Ak _))
 have bp:w2.rangeAt w1.heap.size 0 P:=by rw[Z];exact Oq _ _ _ _ (by rw[au.o];exact Iy w1 _ _)
 rw[<-r.cell (p:=⟨w.heap.size,0,none⟩) (by show w.heap.size<_;omega)]at k0;rw[<-r.cell (p:=⟨w.heap.size,1,none⟩) (by show w.heap.size<_;omega)]at k1;rw[<-r.cell (p:=⟨w.heap.size,2,none⟩) (by show w.heap.size<_;omega)]at V;rw[<-r.cell (p:=⟨w.heap.size,3,none⟩) (by show w.heap.size<_;omega)]at X;rw[<-r.cell (p:=⟨w.heap.size,4,none⟩) (by show w.heap.size<_;omega)]at U;rw[<-r.cell (p:=⟨w.heap.size,5,none⟩) (by show w.heap.size<_;omega)]at R;rw[<-r.cell (p:=⟨w.heap.size,6,none⟩) (by show w.heap.size<_;omega)]at Q;rw[<-r.cell (p:=⟨w.heap.size,7,none⟩) (by show w.heap.size<_;omega)]at S
 have Y:w2.there (w.heap.size+1+1) 0 8:=by
  intro j ci;have e2:w2.heap[w.heap.size+1+1]?=_:=(r.block _ (by omega)).trans bj;rw[Dq,cell_of_row _ _ _ _ _ _ e2,frozen_of_row _ _ _ _ _ e2];refine⟨?_,rfl⟩
  match j,ci with
  |0,_=>rfl
  |1,_=>rfl
  |2,_=>rfl
  |3,_=>rfl
  |4,_=>rfl
  |5,_=>rfl
  |6,_=>rfl
  |7,_=>rfl
 have b4:=ao.below r ao.lt;have bh:Bw w w2:=ah.trans (r.mono (by omega))
 have ak:Br w2 w1.heap.size .u32 W:=by
  refine⟨?_,fun i am=>?_⟩
  ·rw[Z,(Np _ _ _ _).1];simp
  ·have:=bp i (.int .u32 ((W.getD i 0:Nat):Int)) (by rw[<-bv.o];simp[Aj,Az am])
   rwa [Dq]at this
 have ay:w.heap.size<w1.heap.size:=by omega
 show Code.wp _ _ _ _ _;have hz:((w1.alloc (.cells (Aj .u32 (List.replicate 64 0)).toArray 178)).setCells w1.heap.size 0 P)=w2:=Z.symm;clear Z r bp L bj ah ao hk aq
 change Code.wp _ _ _ _ ((w1.alloc (.cells (Aj .u32 (List.replicate 64 0)).toArray 178)).setCells w1.heap.size 0 P)
 rw[hz];clear hz;simp only[Act.put]
 have G:MX w w1.heap.size ⟨H,I,sc,N,se,K,J,sh⟩ W w2:=⟨b4,ak,⟨Nat.lt_trans ay ak.lt,fun i am=>by
  match i,am with
  |0,_=>exact k0
  |1,_=>exact k1
  |2,_=>exact V
  |3,_=>exact X
  |4,_=>exact U
  |5,_=>exact R
  |6,_=>exact Q
  |7,_=>exact S⟩,Y,bh⟩
 clear b4 ak Y bh;go_quiet (fail);go_wp2_with fail;go_quiet (fail);go_wp2_with fail;clear k0 k1 V X U R Q S
 go_loopw [6,7,8,9,10,11,12,13,14,15,16,17,18,19,20] (fun a b c d e f g h t _ _ _ _ _ _ wr=>∃(k:Nat) (q:St),k<=64/\t=.int .i64 (k:Int)/\a=.int .u32 (q.a:Int)/\b=.int .u32 (q.b:Int)/\c=.int .u32 (q.c:Int)/\d=.int .u32 (q.d:Int)/\e=.int .u32 (q.e:Int)/\f=.int .u32 (q.f:Int)/\g=.int .u32 (q.g:Int)/\h=.int .u32 (q.h:Int)/\Hid (q=Zm W ⟨H,I,sc,N,se,K,J,sh⟩ k)/\MX w w1.heap.size ⟨H,I,sc,N,se,K,J,sh⟩ W wr) (fun _ _ _ _ _ _ _ _ t _ _ _ _ _ _ _=>(65-intOf t).toNat)
 case atStart=>exact⟨0,⟨H,I,sc,N,se,K,J,sh⟩,by omega,rfl,rfl,rfl,rfl,rfl,rfl,rfl,rfl,rfl,rfl,(G.drewN _).drewN _⟩
 case round=>
  clear G;obtain⟨k,q,hk,rfl,rfl,rfl,rfl,rfl,rfl,rfl,rfl,rfl,ab,G⟩:=hrel;have a7:q.ok:=by rw[ab.o];exact Aqq W bm k
  by_cases b1:k<64
  ·--<A>
   have cr:(k:Int)<64:=by omega
   have cq:=G.k.at_ k (by exact b1);have cw:=G.ww.at_ k (by rw[a4.o];omega);have bk:Gk.getD k 0<4294967296:=Yp A0r;have bw:W.getD k 0<4294967296:=Yp ag;have al:Zm W ⟨H,I,sc,N,se,K,J,sh⟩ (k+1)=rnd (Gk.getD k 0) (W.getD k 0) q:=by rw[ab.o];rfl
   generalize Gk.getD k 0=kk at*;generalize W.getD k 0=ww at*;obtain⟨m,D,z,T,l,u,s,O⟩:=q;obtain⟨ba,bb,bc,ai,F,av,ap,aj⟩:=a7;simp only at ba bb bc ai F av ap aj⊢;have bz:=A1q l u s F av ap;have a6:=A3i l F;generalize 4294967295-l=nE at bz a6;have cl:=Avz m D z ba bb bc;have cb:=At1 l F;have b8:=A3o m ba;have b3:=fun w=>Az9 l w F;have br:=fun w=>A1n l w F;have a1:=fun w=>A2k l w F;have bg:=fun w=>Axn m w ba;have be:=fun w=>A0j m w ba;have bo:=fun w=>Azn m w ba;have bi:=A1d l F;have bu:=A3k m ba;have a5:=Avw l u s F;have bq:=Asb m D z ba bb;have bn:rnd kk ww ⟨m,D,z,T,l,u,s,O⟩=⟨(O+Wp l+Uz l u s+kk+ww+(Abr m+Zg m D z))%4294967296,m,D,z,(T+(O+Wp l+Uz l u s+kk+ww))%4294967296,l,u,s⟩:=rfl;rw[bn]at al;generalize Wp l=E at*;generalize Abr m=A at*;generalize Uz l u s=Ch at*;generalize Zg m D z=M at*;generalize Dp l 6=r6 at*;generalize Dp l 11=r11 at*;generalize Dp l 25=r25 at*;generalize Dp m 2=r2 at*;generalize Dp m 13=r13 at*;generalize Dp m 22=r22 at*;have b9:=Aa al;have b7:=Aa b3;have ce:=Aa br;have cc:=Aa a1;have co:=Aa bg;have ck:=Aa be;have cd:=Aa bo;have ct:=Aa (Ab aj (Ab bi (Ab a5 (Ab bk (Ab bw (Ab bu (Ab bq ai)))))));clear al bn b3 br a1 bg be bo ba bb bc ai F av ap aj bi bu a5 bq bk bw;go_wp2_with fail;refine(b7.o _).mono ?_;rintro e w2 ⟨rfl,rfl⟩;go_wp2_with fail;refine(ce.o _).mono ?_;rintro e w2 ⟨rfl,rfl⟩;go_wp2_with fail;refine(cc.o _).mono ?_;rintro e w2 ⟨rfl,rfl⟩;go_wp2_with fail;refine(co.o _).mono ?_;rintro e w2 ⟨rfl,rfl⟩;go_wp2_with fail;refine(ck.o _).mono ?_;rintro e w2 ⟨rfl,rfl⟩;go_wp2_with fail;refine(cd.o _).mono ?_;rintro e w2 ⟨rfl,rfl⟩;go_wp2_with fail;clear bz a6 cl cb b8;go_quiet (fail);go_wp2_with fail
   go_roundw
   case rel=>exact⟨k+1,⟨(O+E+Ch+kk+ww+(A+M))%4294967296,m,D,z,(T+(O+E+Ch+kk+ww))%4294967296,l,u,s⟩,by omega,by go_num,Pm (by simp only;omega),rfl,rfl,rfl,Pm (by simp only;omega),rfl,rfl,rfl,b9.o.symm,G.drewN _⟩
   case measure=>simp[intOf];omega
  ·have cg:k=64:=by omega
   subst cg;have bx:Mq ⟨H,I,sc,N,se,K,J,sh⟩ b=Zx q ⟨H,I,sc,N,se,K,J,sh⟩:=by rw[bd.o,ab.o]
   have cj:=Aa bx;obtain⟨k0,k1,V,X,U,R,Q,S⟩:=G.s.st;have Y:=G.th;have bs:=G.bel;obtain⟨m,D,z,T,l,u,s,O⟩:=q;simp only at k0 k1 V X U R Q S⊢;have bf:=Aa (show(Tryz.prog.info? 147).map (·.size)=some 8 from by kernel_rfl);have bt:=Aa Y;have ch:=Aa bs
   go_upto_region 15 with fail
   clear bx ab a7 G b1 hk ag bm bd ca a9 cm b6 a4 au bv b2 cf ay b5 Y bs;go_wp2_with (refine wpList_store_mid rfl 147 _ _ rfl (w.heap.size+1+1) 0 _ rfl rfl ?s1 ?s2 ?s3 ?_)
   case s1=>exact bt.o
   case s2=>exact bf.o
   case s3=>exact all_oneCell_toArray (cs:=[_,_,_,_,_,_,_,_]) (by intro v ae;simp only[Al,Cq,or_false]at ae;rcases ae with rfl|rfl|rfl|rfl|rfl|rfl|rfl|rfl<;>rfl)
   have cp:=Oq wr (w.heap.size+1+1) 0 [.int .u32 (((H:Int)+m)%4294967296),.int .u32 (((I:Int)+D)%4294967296),.int .u32 (((sc:Int)+z)%4294967296),.int .u32 (((N:Int)+T)%4294967296),.int .u32 (((se:Int)+l)%4294967296),.int .u32 (((K:Int)+u)%4294967296),.int .u32 (((J:Int)+s)%4294967296),.int .u32 (((sh:Int)+O)%4294967296)] bt.o;refine bodyPost_ret (v:=.agg #[.int .u32 (((H:Int)+m)%4294967296),.int .u32 (((I:Int)+D)%4294967296),.int .u32 (((sc:Int)+z)%4294967296),.int .u32 (((N:Int)+T)%4294967296),.int .u32 (((se:Int)+l)%4294967296),.int .u32 (((K:Int)+u)%4294967296),.int .u32 (((J:Int)+s)%4294967296),.int .u32 (((sh:Int)+O)%4294967296)]) (Mf Tryz.results97 _ _ (w.heap.size+1+1) 0 _ _ rfl cp Tryz.underlying147 rfl bf.o) rfl ⟨?_,ch.o.trans (Ec wr w.heap.size _ 0 _ (by omega))⟩;rw[cj.o];simp only[Zx];have e:∀x y:Nat,((x:Int)+(y:Int))%4294967296=(((y+x)%4294967296:Nat):Int):=fun x y=>by omega
   rw[e,e,e,e,e,e,e,e]
def Di (st:St)(a:By)(n:Nat):List Value:=Aj .u32 st.list++Ae a++[.int .u64 (n:Int)]
structure Ee (w:World)(b:Nat)(st:St)(buf:By)(n:Nat):Prop where
 blk:w.heap[b]?=some (.cells (Di st buf n).toArray 151 (0,0))
 len:buf.length=64
theorem A18 {P:Program}{ops:Array Oper}{rest:List Oper}{b:Oper}{a:Act}{w:World}{c:Exit->Act->World->Prop}(g:b.guard=none)(t:TypeId)(e:Array (Nat×Operand))(k:b.op=.build t e)(v:Value)(d:Array (Nat×Value))(j:(e.map fun(i,x)=>(i,a.eval x))=d)
  (hr:(Instr.build t d).run P w=.ok v w) (h:wpList P ops c rest (a.put b.dst v) w):wpList P ops c (b::rest) a w:=by
 refine wpList_plain g fun l f=>?_;unfold Oper.wp execOp;simp only[k,j,Sem.run_bind,hr,Result.andThen_ok,Sem.run_pure];exact f _ _ h
theorem Ah1 (w:World)(h0:Br w 0 .u32 Jv):
  Cl 71 #[] w fun e w'=>e=.returned (.pointer (some ⟨w.heap.size,0,none⟩))/\Ee w' w.heap.size Tm (List.replicate 64 0) 0/\Bw w w':=by
 have c:w.rangeAt 0 0 (Aj .u32 Jv):=by
  intro j v h;have:=A23 h0 j v h
  rwa [Addr.add_mid]at this
 have b:∀w,(Instr.build 151 #[(0,.agg (Aj .u32 Jv).toArray)]).run Tryz.prog w=.ok (.agg (Di Tm (List.replicate 64 0) 0).toArray) w:=fun _=>by kernel_rfl
 obtain⟨d,a⟩:=nmd ((Di Tm (List.replicate 64 0) 0).toArray);rw[a]at b;have l:d.size=73:=by rw[<-a];rfl
 have f:=Aa a;have i:=Aa b;clear a b;have k:=Aa (show(Tryz.prog.info? 147).map (·.size)=some (Aj .u32 Jv).length from by kernel_rfl);have g:=Aa c;clear c h0;go_enter Tryz.func71,Tryz.ntmps71;go_wp2_with (first|refine wpList_load_mid rfl 147 _ rfl 0 0 rfl (Aj .u32 Jv) _ g.o Tryz.underlying147 rfl k.o ?_|refine A18 rfl 151 _ rfl (.agg d) #[(0,.agg (Aj .u32 Jv).toArray)] (by simp[Act.eval,Act.put]) (i.o _) ?_);go_ret;refine⟨rfl,⟨?_,by simp⟩,(Ah _ _).alloc (Ak _) _⟩;rw[f.o];exact heap_alloc_new w _
theorem Qi (st:St)(a:By)(n:Nat)(h:a.length=64):(Di st a n).length=73:=by simp[Di,Aj,Ae,St.list,h]
theorem Ee.size {w:World}{b:Nat}{st:St}{a:By}{n:Nat}(h:Ee w b st a n):w.cell? ⟨b,72,none⟩=some (.int .u64 (n:Int)):=by rw[cell_of_row _ _ _ _ _ _ h.blk];have c:=h.len;simp[Di,Aj,Ae,St.list,c]
theorem Ee.frozen {w:World}{b:Nat}{st:St}{a:By}{n:Nat}(h:Ee w b st a n)(j:Nat):w.frozen? ⟨b,j,none⟩=false:=frozen_of_row _ _ _ _ _ h.blk
theorem Ee.byte {w:World}{b:Nat}{st:St}{a:By}{n:Nat}(h:Ee w b st a n)(j:Nat)(c:j<64):∃v,w.cell? ⟨b,8+j,none⟩=some v:=by rw[cell_of_row _ _ _ _ _ _ h.blk];have d:=Qi st a n h.len;exact⟨(Di st a n)[8+j]'(by omega),by simp[Az (by omega:8+j<(Di st a n).length)]⟩
theorem Ee.lt {w:World}{b:Nat}{st:St}{a:By}{n:Nat}(h:Ee w b st a n):b<w.heap.size:=lt_of_block h.blk
theorem Ee.setByte {w:World}{b:Nat}{st:St}{a:By}{n:Nat}(h:Ee w b st a n)(j:Nat)(e:j<64)(c:UInt8):Ee (w.setCell ⟨b,8+j,none⟩ (.int .u8 (c.toNat:Int))) b st (a.set j c) n:=by
 refine⟨?_,by simp[h.len]⟩;rw[Cx h.blk]
 congr 2
 have d:=h.len;apply Array.ext';simp only[Aae,Di];rw[Cw,Cw,Lu _ _ (by simp[Aj,St.list]),List.set_append_left _ _ (by simp[Aj,St.list,Ae,d];omega)];simp[Aj,St.list,Ae,List.map_set]
theorem Ee.setSize {w:World}{b:Nat}{st:St}{a:By}{n:Nat}(h:Ee w b st a n)(m:Nat):Ee (w.setCell ⟨b,72,none⟩ (.int .u64 (m:Int))) b st a m:=by
 refine⟨?_,h.len⟩;rw[Cx h.blk]
 congr 2
 have c:=h.len;apply Array.ext';simp only[Aae,Di];rw[Lu _ _ (by simp[Aj,St.list,Ae,c])];simp[Aj,St.list,Ae,c]
theorem Ee.words {w:World}{b:Nat}{st:St}{c:By}{n:Nat}(h:Ee w b st c n):w.rangeAt b 0 (Aj .u32 st.list):=by intro j v a;rw[Dq,cell_of_row _ _ _ _ _ _ h.blk];have d:=(Ds.1 a).1;simp only[Di,Aah];rw[Cw,Ja d];exact a
theorem Ee.bytes {w:World}{b:Nat}{st:St}{c:By}{n:Nat}(h:Ee w b st c n):w.rangeAt b 8 (Ae c):=by intro j v a;rw[cell_of_row _ _ _ _ _ _ h.blk];have d:=(Ds.1 a).1;simp only[Di,Aah];rw[Cw,If (by simp[Aj,St.list]),Ja (by simp[Aj,St.list];simpa using d)];simpa [Aj,St.list]using a
theorem Ee.there {w:World}{b:Nat}{st:St}{a:By}{n:Nat}(h:Ee w b st a n):w.there b 0 8:=by intro j c;refine⟨?_,h.frozen _⟩;have d:=Qi st a n h.len;rw[Dq,cell_of_row _ _ _ _ _ _ h.blk];simp[Az (by omega:j<(Di st a n).length)]
theorem Ee.below {w w':World}{b B:Nat}{st:St}{a:By}{n:Nat}(h:Ee w b st a n)(hb:Below B w w')(c:b<B):Ee w' b st a n:=⟨(hb.block b c).trans h.blk,h.len⟩
theorem Ee.setWords {w:World}{b:Nat}{st:St}{c:By}{n:Nat}(h:Ee w b st c n)(a:St):Ee (w.setCells b 0 (Aj .u32 a.list)) b a c n:=by
 refine⟨?_,h.len⟩;obtain⟨j,h1,h2⟩:=Yr b _ (Aj .u32 a.list) 0 w _ h.blk;have o:=Qi st c n h.len;have m:=Qi a c n h.len
 have e:j=(Di a c n).toArray:=by
  apply Array.ext';apply List.ext_getElem?;intro i;have f:(w.setCells b 0 (Aj .u32 a.list)).cell? ⟨b,i,none⟩=j[i]?:=cell_of_row _ _ _ _ _ _ h1;by_cases l:i<8
  ·have d:=Vw b (Aj .u32 a.list) 0 w (fun k hk=>by
    have:=(h.there k (by simpa [Aj,St.list]using hk)).1
    exact this) i (by simpa [Aj,St.list]using l)
   rw[Dq]at d;rw[f]at d;simp only[Array.getElem?_toList,d,Di];rw[Cw,Ja (by simpa [Aj,St.list]using l),Az]
  ·have g:=World.cell?_setCells_out b (Aj .u32 a.list) 0 w ⟨b,i,none⟩ (fun _ _=>by right;show 0+(Aj .u32 a.list).length<=i;simp[Aj,St.list];omega);rw[f,cell_of_row _ _ _ _ _ _ h.blk]at g;simp only[Array.getElem?_toList,g,Di,Aah]
   have key:∀x:St,(Aj .u32 x.list++(Ae c++[Value.int .u64 (n:Int)]))[i]?=(Ae c++[Value.int .u64 (n:Int)])[i-8]?:=fun x=>by rw[If (by simp[Aj,St.list];omega)];simp[Aj,St.list]
   rw[Cw,Cw,key st,key a]
 rw[h1,e]
structure He (b:Nat)(w w':World):Prop where
 os:w'.os=w.os
 tape:w'.tape=w.tape
 output:w'.output=w.output
 size:w.heap.size<=w'.heap.size
 block:∀k,k<w.heap.size->k≠b->w'.heap[k]?=w.heap[k]?
theorem He.refl (b:Nat)(w:World):He b w w:=⟨rfl,rfl,rfl,Ak _,fun _ _ _=>rfl⟩
theorem He.trans {b:Nat}{x a z:World}(h:He b x a)(k:He b a z):He b x z:=
 ⟨k.os.trans h.os,k.tape.trans h.tape,k.output.trans h.output,Hb h.size k.size,fun i c hb=>(k.block i (Eu c h.size) hb).trans (h.block i c hb)⟩
theorem He.of_below {b:Nat}{x a:World}(h:Bw x a):He b x a:=⟨h.os,h.tape,h.output,h.size,fun k hk _=>h.block k hk⟩
theorem He.setCell {b:Nat}{x a:World}(h:He b x a)(c:Nat)(v:Value):He b x (a.setCell ⟨b,c,none⟩ v):=
 h.trans ⟨rfl,rfl,rfl,by simp[World.setCell],fun k _ hb=>Nf _ _ _ _ hb⟩
theorem He.setCells {b:Nat}{x a:World}(h:He b x a)(c:Nat)(d:List Value):He b x (a.setCells b c d):=by obtain⟨h1,h2,f,g,e⟩:=Np b d c a;exact h.trans ⟨h2,f,g,by omega,fun k _ hb=>e k hb⟩
theorem He.drew {b:Nat}{x a:World}(h:He b x a):He b x a.drew:=⟨h.os,h.tape,h.output,h.size,h.block⟩
theorem He.cells {b g:Nat}{x c:World}{k:IntKind}{xs:List Nat}(h:He b x c)(a:Br x g k xs)(e:g≠b):Br c g k xs:=
 ⟨Eu a.lt h.size,fun i d=>(Lv (w:=x) (h.block g a.lt e)).trans (a.at_ i d)⟩
theorem He.below {b B:Nat}{a x c:World}(h:He b x c)(hb:Below B a x)(d:B<=b)(e:B<=x.heap.size):Below B a c:=
 hb.trans ⟨h.os,h.tape,h.output,h.size,fun k hk=>h.block k (by omega) (by omega)⟩
theorem Ee.drew {w:World}{b:Nat}{st:St}{a:By}{n:Nat}(h:Ee w b st a n):Ee w.drew b st a n:=⟨h.blk,h.len⟩
section
variable {P:Program}{ops:Array Oper}{Q:Exit->Act->World->Prop}{md:Region.Mode}{fuel:Nat}{listed:Array Bool}{a:Act}{w:World}{i:Nat}{op:Oper}{rs:List Nat}
theorem Vi (m:ops[i]?=some op)(hw:Region.wanted op (yielded ops a.tmps)=true)(c:TypeId)(x:Operand)(n:op.op=.load c x)
  (b e:Nat) (o:a.eval x=.pointer (some ⟨b,e,none⟩)) (cs:List Value) (d:TypeDesc) (j:w.rangeAt b e cs)
  (k:P.underlying c=some d) (hd:d.isRow=true) (l:(P.info? c).map (·.size)=some cs.length)
  (h:wpAny P md ops Q fuel (listed.setIfInBounds i true) (a.put op.dst (.agg cs.toArray)) w) (f:AllReady P md ops Q fuel listed a w rs):AllReady P md ops Q fuel listed a w (i::rs):=
 AllReady.cons m (fun K' g=>by rw[if_pos hw];exact wp_load_mid c x n b e o cs d j k hd l (g _ _ h)) f
theorem Aex (k:ops[i]?=some op)(hw:Region.wanted op (yielded ops a.tmps)=true)(e:TypeId)(x d:Operand)(m:op.op=.store e x d)
  (b c:Nat) (cells:Array Value) (n:a.eval x=.pointer (some ⟨b,c,none⟩)) (hy:a.eval d=.agg cells)
  (j:w.there b c cells.size) (l:(P.info? e).map (·.size)=some cells.size) (h1:cells.all (·.oneCell')=true)
  (h:wpAny P md ops Q fuel (listed.setIfInBounds i true) (a.put op.dst undef) (w.setCells b c cells.toList)) (f:AllReady P md ops Q fuel listed a w rs):AllReady P md ops Q fuel listed a w (i::rs):=
 AllReady.cons k (fun K' g=>by rw[if_pos hw];exact wp_store_mid e x d m b c cells n hy j l h1 (g _ _ h)) f
theorem Acj (g:ops[i]?=some op)(hw:Region.wanted op (yielded ops a.tmps)=true)(f:FuncId)(c:Array Value)(hr:(execOp a.eval op).run P w=.ok (.enter f c) w)
  (j:Calls P f c w fun e b=>∃v,e=.returned v/\wpAny P md ops Q fuel (listed.setIfInBounds i true) (a.put op.dst v) b) (d:AllReady P md ops Q fuel listed a w rs):AllReady P md ops Q fuel listed a w (i::rs):=
 AllReady.cons g (fun K' k=>by
  rw[if_pos hw];unfold Oper.wp;rw[hr,Oper.upon_enter];refine j.mono ?_;rintro e b ⟨v,rfl,h⟩
  exact k _ _ h) d
end
theorem Aub (s:ByteArray)(k:Nat)(h:k<s.size):s.data.toList.take (k+1)=s.data.toList.take k++[s[k]]:=by rw[Lr (by simpa using h)];rfl
theorem Yn (b:Nat)(st:St)(a:By)(T:By)(s:ByteArray)(w:World)(hh:Ee w b st a T.length)(c:Ho st a T)(j:st.ok)(hk:Br w 1 .u32 Gk)(ao:1≠b)(aq:T.length+s.size<=1000000):
  Cl 72 #[.pointer (some ⟨b,0,none⟩),.string s] w fun e w'=>e=.returned (.tuple #[])/\∃C Z,Ee w' b C Z (T.length+s.size)/\Ho C Z (T++s.data.toList)/\C.ok/\He b w w':=by
 have au:(s.size:Int)<=1000000:=by omega
 go_enter Tryz.func72,Tryz.ntmps72;go_wp2_with fail
 go_loopw [4] (fun i wr=>∃(k:Nat) (st:St) (a:By),k<=s.size/\i=.int .i64 (k:Int)/\Ee wr b st a (T.length+k)/\Ho st a (T++s.data.toList.take k)/\st.ok/\He b w wr) (fun i _=>s.size-(intOf i).toNat)
 case atStart=>exact⟨0,st,a,by omega,rfl,hh,by simpa using c,j,He.refl _ _⟩
 case round=>
  clear hh c j st a;obtain⟨k,st,a,ar,rfl,hh,c,j,t⟩:=hrel;by_cases am:k<s.size
  ·have ax:(k:Int)<(s.size:Int):=by omega
   have F:(T++s.data.toList.take k).length=T.length+k:=by simp;omega
   obtain⟨n,I⟩:=nmd (T.length+k);obtain⟨m,D⟩:=nmd (n%64);rw[I]at hh F;have z:=c.step s[k];have H:=c.full s[k];rw[F,D,Cw,<-Aub s k am]at z H;have G:=Aa z;have E:=Aa H;have cs:=hh.size;obtain⟨aw,cv⟩:=hh.byte m (by omega);have ah:=hh.frozen (8+m);have ai:=hh.frozen 72;have aj:(n:Int)%64=(m:Int):=by omega
   have al:(m:Int)<64:=by omega
   have ak:(n:Int)<=1000000:=by omega
   have ad:=hh.setByte m (by omega) s[k];have O:=ad.setSize (n+1);have aa:=(t.setCell (8+m) (.int .u8 (s[k].toNat:Int))).setCell 72 (.int .u64 ((n+1:Nat):Int));have p:=Aa O;have q:=Aa aa;have an:=Aa I;have ap:=Aa D;have X:=Aa c;clear z H ad O aa I D c hh t F;have V:((n+1:Nat):Int)=(n:Int)+1:=by omega
   rw[V]at p q;have N:T.length+(k+1)=n+1:=by have:=an.o;omega
   have A:=Aa N;clear V N;by_cases hz:(n+1)%64=0
   ·have W:(((n:Int)+1)%64==0)=true:=by rw[beq_iff_eq];omega
    have x:=Aa (E.o hz);clear E G X hz;go_wp2_with fail
    go_region
    go_wp2_with fail;have f:=p.o.drew;have r:=q.o.drew;generalize((wr.setCell ⟨b,8+m,none⟩ (.int .u8 (s[k].toNat:Int))).setCell ⟨b,72,none⟩ (.int .u64 ((n:Int)+1))).drew=wy at f r⊢;clear p q cs cv ah ai;generalize av:a.set m s[k]=buf2 at f x;have K:=r.cells hk ao;have ac:=fun(U:World) (J:Br U 1 .u32 Gk)=>A3e st buf2 U j f.len J;have Y:=f.drew.bytes;have L:=f.drew.words;have P:=Aa (show(Tryz.prog.info? 147).map (·.size)=some (Aj .u32 st.list).length from by kernel_rfl);have R:=Aa (show(Tryz.prog.info? 148).map (·.size)=some (Ae buf2).length from by rw[Jo,f.len];kernel_rfl);have ab:=Aa ac;have Q:=Aa (show Br wy.drew 1 .u32 Gk from⟨K.lt,K.at_⟩);have d:=Aa f;have ae:=Aa r;have S:=Aa Y;have M:=Aa L;clear ac f r K Y L aj al ak W;refine wp_region_any (by kernel_rfl) ?_;refine wpAny_take (i:=0) (v:=.pointer (some ⟨b,0,none⟩)) rfl (by kernel_rfl) (by kernel_rfl) (by kernel_rfl) (fun _ _ _ h=>h) (Or.inl ⟨by kernel_rfl,fun w=>by kernel_rfl⟩) ?_;refine wpAny_take (i:=1) (v:=.pointer (some ⟨b,0,none⟩)) rfl (by kernel_rfl) (by kernel_rfl) (by kernel_rfl) (fun _ _ _ h=>h) (Or.inl ⟨by kernel_rfl,fun w=>by kernel_rfl⟩) ?_;refine wpAny_take (i:=2) (v:=.pointer (some ⟨b,0,none⟩)) rfl (by kernel_rfl) (by kernel_rfl) (by kernel_rfl) (fun _ _ _ h=>h) (Or.inl ⟨by kernel_rfl,fun w=>by kernel_rfl⟩) ?_;refine wpAny_take (i:=3) (v:=.pointer (some ⟨b,0,none⟩)) rfl (by kernel_rfl) (by kernel_rfl) (by kernel_rfl) (fun _ _ _ h=>h) (Or.inl ⟨by kernel_rfl,fun w=>by kernel_rfl⟩) ?_;refine wpAny_take (i:=5) (v:=.pointer (some ⟨b,0,none⟩)) rfl (by kernel_rfl) (by kernel_rfl) (by kernel_rfl) (fun _ _ _ h=>h) (Or.inl ⟨by kernel_rfl,fun w=>by kernel_rfl⟩) ?_;refine wpAny_take (i:=6) (v:=.pointer (some ⟨b,0,none⟩)) rfl (by kernel_rfl) (by kernel_rfl) (by kernel_rfl) (fun _ _ _ h=>h) (Or.inl ⟨by kernel_rfl,fun w=>by kernel_rfl⟩) ?_;refine wpAny_take (i:=7) (v:=.pointer (some ⟨b,8,none⟩)) rfl (by kernel_rfl) (by kernel_rfl) (by kernel_rfl) (fun _ _ _ h=>h) (Or.inl ⟨by kernel_rfl,fun w=>by kernel_rfl⟩) ?_;refine wpAny_ready (rs:=[4,8]) (by kernel_rfl) (by simp) ?_;refine Vi rfl (by kernel_rfl) 147 _ rfl b 0 (by kernel_rfl) (Aj .u32 st.list) _ M.o Tryz.underlying147 rfl P.o ?_ (Vi rfl (by kernel_rfl) 148 _ rfl b 8 (by kernel_rfl) (Ae buf2) _ S.o Tryz.underlying148 rfl R.o ?_ AllReady.nil)
    ·refine wpAny_ready (rs:=[8]) (by kernel_rfl) (by simp) ?_;refine Vi rfl (by kernel_rfl) 148 _ rfl b 8 (by kernel_rfl) (Ae buf2) _ S.o Tryz.underlying148 rfl R.o ?_ AllReady.nil;refine wpAny_ready (rs:=[9]) (by kernel_rfl) (by simp) ?_;refine Acj rfl (by kernel_rfl) 97 #[.agg (Wu st),.agg (Ae buf2).toArray] (by kernel_rfl) ((ab.o _ Q.o).mono ?_) AllReady.nil;rintro e af ⟨rfl,g⟩;refine⟨_,rfl,?_⟩;refine wpAny_take (i:=10) (v:=.pointer (some ⟨b,0,none⟩)) rfl (by kernel_rfl) (by kernel_rfl) (by kernel_rfl) (fun _ _ _ h=>h) (Or.inl ⟨by kernel_rfl,fun w=>by kernel_rfl⟩) ?_;refine wpAny_take (i:=11) (v:=.pointer (some ⟨b,0,none⟩)) rfl (by kernel_rfl) (by kernel_rfl) (by kernel_rfl) (fun _ _ _ h=>h) (Or.inl ⟨by kernel_rfl,fun w=>by kernel_rfl⟩) ?_;refine wpAny_ready (rs:=[12]) (by kernel_rfl) (by simp) ?_;refine Aex rfl (by kernel_rfl) 147 _ _ rfl b 0 (Wu (Mq st buf2)) (by kernel_rfl) (by kernel_rfl) (d.o.drew.below g d.o.lt).there (by kernel_rfl) (all_oneCell_toArray (cs:=Aj .u32 (Mq st buf2).list) (Nk _ _)) ?_ AllReady.nil;refine wpAny_done (by kernel_rfl) ?_ _;have l:=(d.o.drew.below g d.o.lt).setWords (Mq st buf2);have o:=(ae.o.drew.trans (He.of_below g)).setCells 0 (Aj .u32 (Mq st buf2).list);have y:=Aa l;have u:=Aa o;clear l o;go_wp2_with fail
     go_roundw
     case rel=>exact⟨k+1,Mq st buf2,buf2,by omega,by go_num,by rw[A.o];exact y.o,x.o,Amb _ _,u.o⟩
     case measure=>simp[intOf];omega
    ·refine wpAny_ready (rs:=[4]) (by kernel_rfl) (by simp) ?_;refine Vi rfl (by kernel_rfl) 147 _ rfl b 0 (by kernel_rfl) (Aj .u32 st.list) _ M.o Tryz.underlying147 rfl P.o ?_ AllReady.nil;refine wpAny_ready (rs:=[9]) (by kernel_rfl) (by simp) ?_;refine Acj rfl (by kernel_rfl) 97 #[.agg (Wu st),.agg (Ae buf2).toArray] (by kernel_rfl) ((ab.o _ Q.o).mono ?_) AllReady.nil;rintro e af ⟨rfl,g⟩;refine⟨_,rfl,?_⟩;refine wpAny_take (i:=10) (v:=.pointer (some ⟨b,0,none⟩)) rfl (by kernel_rfl) (by kernel_rfl) (by kernel_rfl) (fun _ _ _ h=>h) (Or.inl ⟨by kernel_rfl,fun w=>by kernel_rfl⟩) ?_;refine wpAny_take (i:=11) (v:=.pointer (some ⟨b,0,none⟩)) rfl (by kernel_rfl) (by kernel_rfl) (by kernel_rfl) (fun _ _ _ h=>h) (Or.inl ⟨by kernel_rfl,fun w=>by kernel_rfl⟩) ?_;refine wpAny_ready (rs:=[12]) (by kernel_rfl) (by simp) ?_;refine Aex rfl (by kernel_rfl) 147 _ _ rfl b 0 (Wu (Mq st buf2)) (by kernel_rfl) (by kernel_rfl) (d.o.drew.below g d.o.lt).there (by kernel_rfl) (all_oneCell_toArray (cs:=Aj .u32 (Mq st buf2).list) (Nk _ _)) ?_ AllReady.nil;refine wpAny_done (by kernel_rfl) ?_ _;have l:=(d.o.drew.below g d.o.lt).setWords (Mq st buf2);have o:=(ae.o.drew.trans (He.of_below g)).setCells 0 (Aj .u32 (Mq st buf2).list);have y:=Aa l;have u:=Aa o;clear l o;go_wp2_with fail
     go_roundw
     case rel=>exact⟨k+1,Mq st buf2,buf2,by omega,by go_num,by rw[A.o];exact y.o,x.o,Amb _ _,u.o⟩
     case measure=>simp[intOf];omega
   ·have W:(((n:Int)+1)%64==0)=false:=by rw[beq_eq_false_iff_ne];omega
    have ag:=Aa (G.o hz);clear E G X hz;go_wp2_with fail
    go_region
    go_wp2_with fail
    go_roundw
    case rel=>exact⟨k+1,st,_,by omega,by go_num,by rw[A.o];exact p.o.drew,ag.o,j,q.o.drew⟩
    case measure=>simp[intOf];omega
  ·have J:k=s.size:=by omega
   subst J;go_wp2_with fail;go_end0;exact⟨rfl,st,a,hh,by rw[Du (by simp)]at c;exact c,j,t⟩
abbrev Ac (l:By):Value:=.string ⟨l.toArray⟩
structure Kp (S:List Nat)(w w':World):Prop where
 os:w'.os=w.os
 tape:w'.tape=w.tape
 output:w'.output=w.output
 size:w.heap.size<=w'.heap.size
 block:∀k,k<w.heap.size->k∉S->w'.heap[k]?=w.heap[k]?
theorem Kp.refl (S:List Nat)(w:World):Kp S w w:=⟨rfl,rfl,rfl,Ak _,fun _ _ _=>rfl⟩
theorem Kp.trans {S:List Nat}{x c z:World}(h:Kp S x c)(k:Kp S c z):Kp S x z:=
 ⟨k.os.trans h.os,k.tape.trans h.tape,k.output.trans h.output,Hb h.size k.size,fun j a b=>(k.block j (Eu a h.size) b).trans (h.block j a b)⟩
theorem Kp.mono {S T:List Nat}{x a:World}(h:Kp S x a)(b:∀k,k∈S->k∈T):Kp T x a:=⟨h.os,h.tape,h.output,h.size,fun j c d=>h.block j c fun e=>d (b j e)⟩
theorem Kp.step {S T:List Nat}{x c z:World}(h:Kp S x c)(k:Kp T c z)(d:∀j,j∈T->j∈S\/x.heap.size<=j):Kp S x z:=
 ⟨k.os.trans h.os,k.tape.trans h.tape,k.output.trans h.output,Hb h.size k.size,fun j a b=>(k.block j (Eu a h.size) (fun e=>(d j e).elim b (fun g=>by omega))).trans (h.block j a b)⟩
theorem Kp.of_below {S:List Nat}{x a:World}(h:Bw x a):Kp S x a:=⟨h.os,h.tape,h.output,h.size,fun k hk _=>h.block k hk⟩
theorem Kp.drew {S:List Nat}{x a:World}(h:Kp S x a):Kp S x a.drew:=⟨h.os,h.tape,h.output,h.size,h.block⟩
theorem Kp.drewN {S:List Nat}{x a:World}(h:Kp S x a)(n:Nat):Kp S x (a.drewN n):=⟨h.os,h.tape,h.output,h.size,h.block⟩
theorem Kp.alloc {S:List Nat}{x a:World}(h:Kp S x a)(b:Obj):Kp S x (a.alloc b):=h.trans (Kp.of_below ((Ah _ _).alloc (Ak _) b))
theorem Kp.setCell {S:List Nat}{x a:World}(h:Kp S x a)(b c:Nat)(v:Value)(hb:b∈S\/x.heap.size<=b):Kp S x (a.setCell ⟨b,c,none⟩ v):=
 ⟨h.os,h.tape,h.output,by simpa [World.setCell]using h.size,fun k hk d=>(Nf a ⟨b,c,none⟩ v k (by rintro rfl;exact hb.elim (fun g=>d g) (fun g=>by omega))).trans (h.block k hk d)⟩
theorem Kp.setCells {S:List Nat}{x a:World}(h:Kp S x a)(b d:Nat)(e:List Value)(hb:b∈S\/x.heap.size<=b):Kp S x (a.setCells b d e):=by obtain⟨h1,h2,i,j,f⟩:=Np b e d a;exact⟨h2.trans h.os,i.trans h.tape,j.trans h.output,by rw[h1];exact h.size,fun k hk c=>(f k (by rintro rfl;exact hb.elim (fun g=>c g) (fun g=>by omega))).trans (h.block k hk c)⟩
theorem Kp.grown {S:List Nat}{x c z:World}{row:Option Nat}(h:Kp S x c)(a:c.grownBy z row)(hr:∀k,row=some k->k∈S\/x.heap.size<=k):Kp S x z:=
 ⟨a.os.trans h.os,a.tape.trans h.tape,a.output.trans h.output,Hb h.size a.size,fun k hk b=>(a.block k (Eu hk h.size) (fun e=>(hr k e.symm).elim b (fun g=>by omega))).trans (h.block k hk b)⟩
theorem Kp.cells {S:List Nat}{g:Nat}{x c:World}{k:IntKind}{xs:List Nat}(h:Kp S x c)(b:Br x g k xs)(e:g∉S):Br c g k xs:=
 ⟨Eu b.lt h.size,fun i d=>(Lv (w:=x) (h.block g b.lt e) (a:=⟨g,i,none⟩)).trans (b.at_ i d)⟩
structure Hc (w:World)(b cap:Nat)(xs:List By):Prop where
 ex:∃c:Array Value,w.heap[b]?=some (.cells c 9 (0,0))/\c.size=cap/\∀i,i<xs.length->c[i]?=some (Ac (xs.getD i []))
 le:xs.length<=cap
theorem Hc.lt {w:World}{b cap:Nat}{xs:List By}(h:Hc w b cap xs):b<w.heap.size:=by obtain⟨c,a,_⟩:=h.ex;exact lt_of_block a
theorem Hc.cell {w:World}{b cap:Nat}{xs:List By}(h:Hc w b cap xs){i:Nat}(d:i<xs.length):w.cell? ⟨b,i,none⟩=some (Ac (xs.getD i [])):=by obtain⟨c,e,_,a⟩:=h.ex;rw[cell_of_row _ _ _ _ _ _ e];exact a i d
theorem Hc.frozen {w:World}{b cap:Nat}{xs:List By}(h:Hc w b cap xs)(i:Nat):w.frozen? ⟨b,i,none⟩=false:=by obtain⟨c,a,_,d⟩:=h.ex;simp[World.frozen?,a]
theorem Hc.of_block {w w':World}{b cap:Nat}{xs:List By}(h:Hc w b cap xs)(e:w'.heap[b]?=w.heap[b]?):Hc w' b cap xs:=by obtain⟨c,d,h2,a⟩:=h.ex;exact⟨⟨c,e.trans d,h2,a⟩,h.le⟩
theorem Hc.kp {S:List Nat}{w w':World}{b cap:Nat}{xs:List By}(h:Hc w b cap xs)(k:Kp S w w')(hb:b∉S):Hc w' b cap xs:=h.of_block (k.block b h.lt hb)
theorem Hc.set {w:World}{b cap:Nat}{xs:List By}(h:Hc w b cap xs)(i:Nat)(a:By):Hc (w.setCell ⟨b,i,none⟩ (Ac a)) b cap (xs.set i a):=by
 obtain⟨c,l,h2,k⟩:=h.ex;refine⟨⟨c.setIfInBounds i (Ac a),Cx l i (Ac a),by simpa using h2,fun j f=>?_⟩,by simpa using h.le⟩;have d:j<xs.length:=by simpa using f
 have g:j<c.size:=by have:=h.le;omega
 by_cases e:i=j
 ·subst e;simp[g,d]
 ·rw[Array.getElem?_setIfInBounds_ne e,k j d];simp[e]
theorem Hc.of_own {w:World}{base g cap n:Nat}{xs:List By}(h:w.ownsRow base 9 1 (.slice (some ⟨g,0,none⟩) n cap) n (xs.map Ac)):Hc w g cap xs:=by
 obtain⟨h1,h2⟩:=h;have l:xs.length=n:=by simpa using h1
 rcases h2 with⟨a,_⟩|⟨f,k,cur,a,_,hb,j,_,d,b⟩
 ·cases a
 ·cases a;refine⟨⟨cur,hb,by omega,fun i c=>?_⟩,by omega⟩;have e:(cur.toList.take (n*1))[i]?=(xs.map Ac)[i]?:=by rw[b]
  rw[Ml (by omega)]at e;simpa [Az c]using e
theorem Bm {w w':World}{S:List Nat}{base n size:Nat}{e:TypeId}{v:Value}{xs:List Value}(h:w.ownsRow base e size v n xs)(k:Kp S w w')(c:∀j,v.ownBlock=some j->j∉S):w'.ownsRow base e size v n xs:=by
 obtain⟨h1,h2⟩:=h;refine⟨h1,?_⟩;rcases h2 with h2|⟨g,cap,cur,a,hb,b,rest⟩
 ·exact .inl h2
 ·exact .inr ⟨g,cap,cur,a,hb,(k.block g (lt_of_block b) (c _ (by rw[a];rfl))).trans b,rest⟩
theorem Hl {w:World}{base n size:Nat}{e:TypeId}{v:Value}{xs:List Value}(h:w.ownsRow base e size v n xs)(j:Nat)(a:v.ownBlock=some j):j<w.heap.size:=by
 rcases h.2 with⟨b,_⟩|⟨g,cap,cur,b,hb,c,rest⟩
 ·rw[b]at a;cases a
 ·rw[b]at a;cases a;exact lt_of_block c
theorem Va {w:World}{b:Nat}{c:Array Value}{t:TypeId}{d:Nat×Nat}(h:w.heap[b]?=some (.cells c t d))(a:Addr)(v:Value)(ha:b≠a.block):(w.setCell a v).heap[b]?=some (.cells c t d):=(Nf w a v b ha).trans h
theorem Wq (d:Nat)(w:World)(a:w.cell? ⟨d,5,none⟩=some (.int .i64 (-1))):
  Cl 78 #[.pointer (some ⟨d,0,none⟩)] w fun e w'=>e=.returned (.bool true)/\w'=w:=by
 go_enter Tryz.func78,Tryz.ntmps78;go_wp2_with fail;go_ret;exact⟨rfl,rfl⟩
theorem Vu (d:Nat)(w:World)(c:Nat)(a:w.cell? ⟨d,3,none⟩=some (.int .i64 c)):
  Cl 24 #[.pointer (some ⟨d,0,none⟩)] w fun e w'=>e=.returned (.int .i64 c)/\w'=w:=by
 go_enter Tryz.func24,Tryz.ntmps24;go_wp2_with fail;go_ret;exact⟨rfl,rfl⟩
theorem Ui (d bb cb n:Nat)(w:World)(h0:w.cell? ⟨d,0,none⟩=some (.slice (some ⟨bb,0,none⟩) n cb)):
  Cl 38 #[.pointer (some ⟨d,0,none⟩)] w fun e w'=>e=.returned (.int .i64 n)/\w'=w:=by
 go_enter Tryz.func38,Tryz.ntmps38;go_wp2_with fail;go_ret;exact⟨rfl,rfl⟩
theorem Asq (d:Nat)(w:World)(c:Nat)(h2:w.cell? ⟨d,2,none⟩=some (.int .i64 c))(a:w.cell? ⟨d,5,none⟩=some (.int .i64 (-1))):
  Cl 77 #[.pointer (some ⟨d,0,none⟩)] w fun e w'=>e=.returned (.tuple #[.int .i64 c,.bool true])/\w'=w:=by
 have b:=Aa (Wq d w a);go_enter Tryz.func77,Tryz.ntmps77;go_wp2_with fail;refine b.o.mono ?_;rintro e w' ⟨rfl,rfl⟩;go_wp2_with fail;go_ret2;exact⟨rfl,rfl⟩
theorem A1e (d:Nat)(w:World)(c m:Nat)(h2:w.cell? ⟨d,2,none⟩=some (.int .i64 c))(i:w.cell? ⟨d,3,none⟩=some (.int .i64 m))(a:w.cell? ⟨d,5,none⟩=some (.int .i64 (-1)))(h:w.frozen? ⟨d,2,none⟩=false)(g:c<m)(b:m<=1048576):
  Cl 69 #[.pointer (some ⟨d,0,none⟩)] w fun e w'=>e=.returned (.bool true)/\∃n,w'=(w.drewN n).setCell ⟨d,2,none⟩ (.int .i64 (c+1:Nat)):=by
 have f:=Aa (Wq d w a);have j:(c:Int)<(m:Int):=by omega
 have k:(m:Int)<=1048576:=by omega
 clear g b;go_enter Tryz.func69,Tryz.ntmps69;go_wp2_with fail;refine f.o.mono ?_;rintro e w' ⟨rfl,rfl⟩;go_wp2_with fail
 go_region
 go_wp2_with fail;go_ret;exact⟨rfl,1,rfl⟩
structure DX where
 d:Nat
 bb:Nat
 cb:Nat
 bc:Nat
 cc:Nat
structure DM where
 blocks:List By
 cache:List By
 count:Nat
 ceiling:Nat
 wrote:List (Nat×By)
 sv:Value
def Rw (l:List (Nat×By)):List Value:=l.flatMap fun p=>[.int .i64 (p.1:Int),Ac p.2]
theorem Avu (l:List (Nat×By))(k:Nat)(t:By):Rw (l++[(k,t)])=Rw l++[.int .i64 (k:Int),Ac t]:=by simp[Rw]
def DM.look (m:DM)(k:Nat):By:=if m.cache.getD k []=[]then m.blocks.getD k []else m.cache.getD k []
structure Cr (w:World)(x:DX)(m:DM)(wv:Value):Prop where
 blk:w.heap[x.d]?=some (.cells #[.slice (some ⟨x.bb,0,none⟩) m.blocks.length x.cb,.slice (some ⟨x.bc,0,none⟩) m.blocks.length x.cc,.int .i64 m.count,.int .i64 m.ceiling,m.sv,.int .i64 (-1),wv] 53 (0,0))
 rb:Hc w x.bb x.cb m.blocks
 rc:Hc w x.bc x.cc m.cache
 own:w.ownsRow 0 87 2 wv m.wrote.length (Rw m.wrote)
 same:m.cache.length=m.blocks.length
 ge:3<=m.blocks.length
 le:m.blocks.length<=48
 cl:m.ceiling<=1048576
 n1:x.d≠x.bb
 n2:x.d≠x.bc
 n3:x.bb≠x.bc
 n4:∀k,wv.ownBlock=some k->k≠x.d/\k≠x.bb/\k≠x.bc
 wl:m.wrote.length<=5000000
def DX.set (x:DX)(wv:Value):List Nat:=[x.d,x.bb,x.bc]++wv.ownBlock.toList
theorem Cr.lt {w:World}{x:DX}{m:DM}{wv:Value}(h:Cr w x m wv):x.d<w.heap.size:=lt_of_block h.blk
theorem Cr.fr {w:World}{x:DX}{m:DM}{wv:Value}(h:Cr w x m wv)(i:Nat):w.frozen? ⟨x.d,i,none⟩=false:=by simp[World.frozen?,h.blk]
section
variable {w:World}{x:DX}{m:DM}{wv:Value}
theorem Cr.c0 (h:Cr w x m wv):w.cell? ⟨x.d,0,none⟩=some (.slice (some ⟨x.bb,0,none⟩) m.blocks.length x.cb):=by rw[cell_of_row _ _ _ _ _ _ h.blk];rfl
theorem Cr.c1 (h:Cr w x m wv):w.cell? ⟨x.d,1,none⟩=some (.slice (some ⟨x.bc,0,none⟩) m.blocks.length x.cc):=by rw[cell_of_row _ _ _ _ _ _ h.blk];rfl
theorem Cr.c2 (h:Cr w x m wv):w.cell? ⟨x.d,2,none⟩=some (.int .i64 m.count):=by rw[cell_of_row _ _ _ _ _ _ h.blk];rfl
theorem Cr.c3 (h:Cr w x m wv):w.cell? ⟨x.d,3,none⟩=some (.int .i64 m.ceiling):=by rw[cell_of_row _ _ _ _ _ _ h.blk];rfl
theorem Cr.c4 (h:Cr w x m wv):w.cell? ⟨x.d,4,none⟩=some m.sv:=by rw[cell_of_row _ _ _ _ _ _ h.blk];rfl
theorem Cr.c5 (h:Cr w x m wv):w.cell? ⟨x.d,5,none⟩=some (.int .i64 (-1)):=by rw[cell_of_row _ _ _ _ _ _ h.blk];rfl
theorem Cr.c6 (h:Cr w x m wv):w.cell? ⟨x.d,6,none⟩=some wv:=by rw[cell_of_row _ _ _ _ _ _ h.blk];rfl
theorem Cr.kp {S:List Nat}{w':World}(h:Cr w x m wv)(k:Kp S w w')(a:∀j,j∈x.set wv->j∉S):Cr w' x m wv:=by refine⟨(k.block _ h.lt (a _ (by simp[DX.set]))).trans h.blk,h.rb.kp k (a _ (by simp[DX.set])),h.rc.kp k (a _ (by simp[DX.set])),?_,h.same,h.ge,h.le,h.cl,h.n1,h.n2,h.n3,h.n4,h.wl⟩;exact Bm h.own k (fun j b=>a j (by simp[DX.set,b]))
end
theorem Ahy (x:DX)(m:DM)(wv:Value)(k:Nat)(w:World)(h:Cr w x m wv)(hk:k<m.blocks.length):
  Cl 41 #[.pointer (some ⟨x.d,0,none⟩),.int .i64 k] w fun e w'=>e=.returned (Ac (m.look k))/\w'=w:=by
 have c0:=h.c0;have c1:=h.c1;have hb:=h.rb.cell hk;have g:=h.rc.cell (i:=k) (by rw[h.same];exact hk);have d:(k:Int)<(m.blocks.length:Int):=by omega
 obtain⟨f,a⟩:=nmd (m.look k);rw[a];unfold DM.look at a;clear h hk;generalize m.blocks.length=n at*;generalize m.cache.getD k []=C at*;generalize m.blocks.getD k []=B at*;by_cases b:C=[]
 ·rw[if_pos b]at a;subst b;subst a;go_enter Tryz.func41,Tryz.ntmps41;go_wp2_with fail;go_ret;exact⟨rfl,rfl⟩
 ·rw[if_neg b]at a;subst a;have c:C.isEmpty=false:=by simpa using b
  clear b;go_enter Tryz.func41,Tryz.ntmps41;go_wp2_with fail;go_ret;exact⟨rfl,rfl⟩
theorem Afn (x:DX)(m:DM)(wv:Value)(k:Nat)(w:World)(h:Cr w x m wv)(hk:k<m.blocks.length):
  Cl 83 #[.pointer (some ⟨x.d,0,none⟩),.int .i64 k] w fun e w'=>e=.returned (.tuple #[Ac (m.look k),.bool true])/\w'=w:=by
 have b:=Aa (Wq x.d w h.c5);have a:=Aa (Ahy x m wv k w h hk);clear h hk;go_enter Tryz.func83,Tryz.ntmps83;go_wp2_with fail;refine b.o.mono ?_;rintro e w' ⟨rfl,rfl⟩;go_wp2_with fail;refine a.o.mono ?_;rintro e w' ⟨rfl,rfl⟩;go_wp2_with fail;go_ret2;exact⟨rfl,rfl⟩
theorem Ams:(Tryz.prog.info? 87).map (fun i=>(i.zero,i.size,i.bytes))=some (some (.agg #[.int .i64 0,.string ⟨#[]⟩]),2,24):=by kernel_rfl
def DM.write (m:DM)(k:Nat)(t:By):DM:={m with cache:=m.cache.set k t,wrote:=m.wrote++[(k,t)]}
theorem Aff (x:DX)(m:DM)(wv:Value)(k:Nat)(t:By)(w:World)(h:Cr w x m wv)(hk:k<m.blocks.length)(X:m.wrote.length<5000000):
  Cl 70 #[.pointer (some ⟨x.d,0,none⟩),.int .i64 k,.string ⟨t.toArray⟩] w fun e w'=>e=.returned (.bool true)/\Kp (x.set wv) w w'/\∃C,Cr w' x (m.write k t) C/\∀j,C.ownBlock=some j->wv.ownBlock=some j\/w.heap.size<=j:=by
 have J:=Aa (Wq x.d w h.c5);obtain⟨Q,K,L,O,I⟩:=info_parts Ams;have c1:=h.c1;have Z:=h.rc.cell (i:=k) (by rw[h.same];exact hk);have T:=h.rc.frozen k;have U:(k:Int)<(m.blocks.length:Int):=by omega
 have D:=h.rc.set k t;have E:(w.setCell ⟨x.bc,k,none⟩ (Ac t)).heap.size=w.heap.size:=by simp[World.setCell]
 have z:Kp [x.bc] w (w.setCell ⟨x.bc,k,none⟩ (Ac t)):=(Kp.refl _ w).setCell x.bc k _ (.inl (by simp));have A:=(z.block x.d h.lt (by simpa using h.n2)).trans h.blk;have V:(w.setCell ⟨x.bc,k,none⟩ (Ac t)).cell? ⟨x.d,6,none⟩=some wv:=crw A rfl;have G:=Aa h.own;have a:=Aa h;have R:=Aa D;have f:=Aa (Ab E (Ab z A));clear h D E z A hk;generalize P:m.blocks.length=n at*;go_enter Tryz.func70,Tryz.ntmps70;go_wp2_with fail;refine J.o.mono ?_;rintro e w' ⟨rfl,rfl⟩;go_wp2_with (at_builtin;refine wpList_append_lies _ rfl _ _ 35 rfl 0 87 Q _ 2 24 Tryz.underlying35 K L O I rfl (by decide) wv m.wrote.length (Rw m.wrote) rfl ?own ⟨w'.heap.size,0,none⟩ 1 1 [.int .i64 (k:Int),Ac t] rfl rfl ?c1 ?c2 (by decide) ?c3 ?c4 (Cu _) _ rfl ?_)
 case own=>exact Bm G.o (f.o.2.1.alloc _) (fun j b=>by have:=(a.o.n4 j b).2.2;simpa using this)
 case c1=>exact Qt (cs:= #[.int .i64 (k:Int),Ac t]) (by rw[<-f.o.1];exact heap_alloc_new _ _)
 case c2=>intro u H;simp at H;rcases H with rfl|rfl<;>rfl
 case c3=>unfold maxLen;omega
 case c4=>omega
 intro g cap d r s c N;have hd:x.d<w'.heap.size:=a.o.lt;have Y:∀j,wv.ownBlock=some j->j<w'.heap.size:=fun j b=>Hl G.o j b;have q:=a.o.n4;have p:Kp ([x.bc]++wv.ownBlock.toList) w' d:=((f.o.2.1.alloc _).mono (fun j b=>by simp at b;simp[b])).grown s (fun j b=>.inl (by simp[b]));have o:((w'.setCell ⟨x.bc,k,none⟩ (.string ⟨t.toArray⟩)).alloc (.cells #[.int .i64 (k:Int),.string ⟨t.toArray⟩] 87)).heap.size=w'.heap.size+1:=by simp[World.setCell]
 have l:d.heap[x.d]?=some (.cells #[.slice (some ⟨x.bb,0,none⟩) n x.cb,.slice (some ⟨x.bc,0,none⟩) n x.cc,.int .i64 m.count,.int .i64 m.ceiling,m.sv,.int .i64 (-1),wv] 53 (0,0)):=
  (s.block x.d (by rw[o];omega) (fun e=>(q _ e.symm).1 rfl)).trans ((((Kp.refl [] _).alloc _).block x.d (by rw[f.o.1];exact hd) (by simp)).trans f.o.2.2)
 have S:d.cell? ⟨x.d,6,none⟩=some wv:=crw l rfl;have W:d.frozen? ⟨x.d,6,none⟩=false:=by simp[World.frozen?,l]
 have y:Hc d x.bc x.cc (m.cache.set k t):=R.o.of_block ((s.block x.bc (by rw[o];have:=a.o.rc.lt;omega) (fun e=>(q _ e.symm).2.2 rfl)).trans (((Kp.refl [] _).alloc _).block x.bc (by rw[f.o.1];exact a.o.rc.lt) (by simp)))
 have v:Hc d x.bb x.cb m.blocks:=a.o.rb.kp p (by
  intro e;simp only[As,Jc,Bf]at e;rcases e with e|e
  ·exact a.o.n3 e
  ·exact(q _ e).2.1 rfl)
 have M:=Aa (Ab r (Ab p (Ab l (Ab c (Ab o (Ab y v))))));clear r s p l o c N y v;go_wp2_with fail;go_ret;obtain⟨r,p,l,c,o,y,v⟩:=M.o
 have F:g≠x.d/\g≠x.bb/\g≠x.bc:=by
  rcases c with c|c
  ·exact q g c
  ·have h1:=a.o.rb.lt;have h2:=a.o.rc.lt;omega
 refine⟨rfl,(p.mono (fun j b=>?_)).setCell x.d 6 _ (.inl (by simp[DX.set])),.slice (some ⟨g,0,none⟩) (m.wrote.length+1) cap,⟨?_,?_,?_,?_,?_,?_,?_,a.o.cl,a.o.n1,a.o.n2,a.o.n3,?_,?_⟩,?_⟩
 ·simp only[As,Jc]at b;simp only[DX.set,As,Al];rcases b with e|e
  ·exact .inl (.inr (.inr (.inl e)))
  ·exact .inr e
 ·have e:=Cx l 6 (.slice (some ⟨g,0,none⟩) (m.wrote.length+1) cap);rw[e];simp[DM.write,P]
 ·exact v.of_block (Nf d ⟨x.d,6,none⟩ _ x.bb (Ne.symm a.o.n1))
 ·exact y.of_block (Nf d ⟨x.d,6,none⟩ _ x.bc (Ne.symm a.o.n2))
 ·have e1:(m.write k t).wrote=m.wrote++[(k,t)]:=rfl;rw[e1,Avu,Bb]
  exact Bm r ((Kp.refl [x.d] d).setCell x.d 6 _ (.inl (by simp))) (fun j b=>by
   have:g=j:=by simpa [Value.ownBlock]using b
   subst this
   simpa using F.1)
 ·simpa [DM.write]using a.o.same
 ·exact a.o.ge
 ·exact a.o.le
 ·intro j b;have:g=j:=by simpa [Value.ownBlock]using b
  subst this;exact F
 ·simp[DM.write];omega
 ·intro j b;have:g=j:=by simpa [Value.ownBlock]using b
  subst this;rcases c with c|c
  ·exact .inl c
  ·right;omega
def DM.flushTo (m:DM)(j:Nat):DM:={m with blocks:=(List.range m.blocks.length).map (fun i=>if i<j then m.look i else m.blocks.getD i []),cache:=(List.range m.blocks.length).map (fun i=>if i<j then []else m.cache.getD i [])}
def DM.flush (m:DM):DM:={m with blocks:=(List.range m.blocks.length).map m.look,cache:=List.replicate m.blocks.length []}
theorem DM.flushTo_zero (m:DM)(h:m.cache.length=m.blocks.length):m.flushTo 0=m:=by
 cases m with|mk b c n cl wr=>
 simp only[DM.flushTo,DM.mk.injEq,and_true,Nat.not_lt_zero,if_false];constructor
 ·apply Vy
  ·simp
  ·intro i h1 h2;simp[h2]
 ·apply Vy
  ·simp;exact h.symm
  ·intro i h1 h2;simp[h2]
theorem DM.flushTo_all (m:DM):m.flushTo m.blocks.length=m.flush:=by
 simp only[DM.flushTo,DM.flush,DM.mk.injEq,and_true];constructor
 ·apply Aaj;intro i a;rw[if_pos (List.mem_range.1 a)]
 ·apply Vy
  ·simp
  ·intro i h1 h2;simp at h1 h2;simp[h2]
theorem Ap3 {α:Type}(f:Nat->α)(n k:Nat)(a:α):((List.range n).map f).set k a=(List.range n).map (fun i=>if i=k then a else f i):=by
 apply Vy
 ·simp
 ·intro i h1 h2;simp only[List.getElem_set,List.getElem_map,List.getElem_range];by_cases e:k=i
  ·subst e;simp
  ·simp[e,Ne.symm e]
theorem DM.flushTo_blocks (m:DM)(j:Nat):(m.flushTo j).blocks.set j (m.look j)=(m.flushTo (j+1)).blocks:=by
 simp only[DM.flushTo];rw[Ap3];apply Aaj;intro i _;by_cases e:i=j
 ·subst e;simp
 ·simp only[e,if_false];by_cases h:i<j
  ·rw[if_pos h,if_pos (by omega)]
  ·rw[if_neg h,if_neg (by omega)]
theorem DM.flushTo_cache (m:DM)(j:Nat):(m.flushTo j).cache.set j []=(m.flushTo (j+1)).cache:=by
 simp only[DM.flushTo];rw[Ap3];apply Aaj;intro i _;by_cases e:i=j
 ·subst e;simp
 ·simp only[e,if_false];by_cases h:i<j
  ·rw[if_pos h,if_pos (by omega)]
  ·rw[if_neg h,if_neg (by omega)]
theorem DM.flushTo_len (m:DM)(j:Nat):(m.flushTo j).blocks.length=m.blocks.length:=by simp[DM.flushTo]
theorem DM.flushTo_c (m:DM)(j:Nat)(a:j<m.blocks.length):(m.flushTo j).cache.getD j []=m.cache.getD j []:=by simp[DM.flushTo,a]
theorem DM.flushTo_b (m:DM)(j:Nat)(a:j<m.blocks.length):(m.flushTo j).blocks.getD j []=m.blocks.getD j []:=by simp[DM.flushTo,a]
theorem DM.flushTo_skip (m:DM)(j:Nat)(a:j<m.blocks.length)(c:m.cache.getD j []=[]):m.flushTo (j+1)=m.flushTo j:=by
 have hb:=m.flushTo_blocks j;have b:=m.flushTo_cache j;have e1:m.look j=(m.flushTo j).blocks.getD j []:=by rw[m.flushTo_b j a];simp only[DM.look,c,if_true]
 have e2:[]=(m.flushTo j).cache.getD j []:=by rw[m.flushTo_c j a,c]
 have l1:j<(m.flushTo j).blocks.length:=by rw[m.flushTo_len];exact a
 have l2:j<(m.flushTo j).cache.length:=by simp[DM.flushTo];exact a
 rw[e1]at hb;rw[e2]at b;simp only[Ea,Az l1,Option.getD_some,List.set_getElem_self]at hb;simp only[Ea,Az l2,Option.getD_some,List.set_getElem_self]at b;have:m.flushTo (j+1)={m.flushTo j with blocks:=(m.flushTo (j+1)).blocks,cache:=(m.flushTo (j+1)).cache}:=rfl;rw[this,<-hb,<-b]
theorem Ajh (x:DX)(m:DM)(wv:Value)(w:World)(h:Cr w x m wv):
  Cl 95 #[.pointer (some ⟨x.d,0,none⟩)] w fun e w'=>e=.returned (.bool true)/\Kp [x.bb,x.bc] w w'/\Cr w' x m.flush wv:=by
 have D:=Aa (Wq x.d w h.c5);have F:=h.n1;have z:=h.n2;have y:=h.n3;have u:=h.le;go_enter Tryz.func95,Tryz.ntmps95;go_wp2_with fail;refine D.o.mono ?_;rintro e w' ⟨rfl,rfl⟩;go_wp2_with fail
 go_loopw [4] (fun i wr=>∃k:Nat,k<=m.blocks.length/\i=.int .i64 (k:Int)/\Cr wr x (m.flushTo k) wv/\Kp [x.bb,x.bc] w' wr) (fun i _=>m.blocks.length-(intOf i).toNat)
 case atStart=>exact⟨0,by omega,rfl,by rw[m.flushTo_zero h.same];exact h,Kp.refl _ _⟩
 case round=>
  obtain⟨k,hk,rfl,hd,p⟩:=hrel;by_cases b:k<m.blocks.length
  ·have c0:=hd.c0;have c1:=hd.c1;have c:=m.flushTo_len k;have t:=hd.rc.cell (i:=k) (by rw[hd.same,c];exact b);have hb:=hd.rb.cell (i:=k) (by rw[c];exact b);have M:=hd.rb.frozen k;rw[m.flushTo_c k b]at t;rw[c]at c0 c1;have J:(k:Int)<(m.blocks.length:Int):=by omega
   have G:(m.blocks.length:Int)<=48:=by omega
   obtain⟨C,g⟩:=nmd (m.cache.getD k []);rw[g]at t;obtain⟨B,s⟩:=nmd ((m.flushTo k).blocks.getD k []);rw[s]at hb;by_cases o:C=[]
   ·subst o;have d:=Aa (m.flushTo_skip k b g▸hd:Cr wr x (m.flushTo (k+1)) wv);have f:=Aa b;clear hd h b c g s u hk;generalize m.blocks.length=n at*;go_wp2_with fail
    go_roundw
    case rel=>exact⟨k+1,by have:=f.o;omega,by go_num,d.o,p⟩
    case measure=>have:=f.o;simp[intOf];omega
   ·have L:C.isEmpty=false:=by simpa using o
    have q:m.look k=C:=by unfold DM.look;rw[g,if_neg o]
    have k1:Kp [x.bb,x.bc] wr (wr.setCell ⟨x.bb,k,none⟩ (Ac C)).drew:=((Kp.refl _ wr).setCell x.bb k _ (.inl (by simp))).drew;have r:(wr.setCell ⟨x.bb,k,none⟩ (Ac C)).drew.heap[x.d]?=wr.heap[x.d]?:=k1.block x.d hd.lt (by simp;exact⟨F,z⟩);have l:(wr.setCell ⟨x.bb,k,none⟩ (Ac C)).drew.heap[x.bc]?=wr.heap[x.bc]?:=Nf wr ⟨x.bb,k,none⟩ _ x.bc (Ne.symm y);have I:(wr.setCell ⟨x.bb,k,none⟩ (Ac C)).drew.cell? ⟨x.d,1,none⟩=_:=(Lv (a:=⟨x.d,1,none⟩) r).trans c1;have H:(wr.setCell ⟨x.bb,k,none⟩ (Ac C)).drew.cell? ⟨x.bc,k,none⟩=_:=(Lv (a:=⟨x.bc,k,none⟩) l).trans t;have K:(wr.setCell ⟨x.bb,k,none⟩ (Ac C)).drew.frozen? ⟨x.bc,k,none⟩=false:=(World.frozen?_of_block (a:=⟨x.bc,k,none⟩) l).trans (hd.rc.frozen k)
    have A:Cr ((wr.setCell ⟨x.bb,k,none⟩ (Ac C)).drew.setCell ⟨x.bc,k,none⟩ (Ac [])) x (m.flushTo (k+1)) wv:=by
     refine⟨?_,?_,?_,?_,?_,?_,?_,hd.cl,hd.n1,hd.n2,hd.n3,hd.n4,hd.wl⟩
     ·rw[m.flushTo_len,<-c];exact Va (r.trans hd.blk) _ _ z
     ·have:=hd.rb.set k C;rw[<-q,m.flushTo_blocks k,q]at this;exact Hc.of_block (w:=(wr.setCell ⟨x.bb,k,none⟩ (Ac C)).drew) ⟨this.ex,this.le⟩ (Nf _ ⟨x.bc,k,none⟩ _ x.bb y)
     ·have:=(Hc.of_block hd.rc l).set k [];rw[m.flushTo_cache k]at this;exact this
     ·refine Bm hd.own (k1.setCell x.bc k _ (.inl (by simp))) (fun j E=>?_);have:=hd.n4 j E;simp;exact⟨this.2.1,this.2.2⟩
     ·simp[DM.flushTo]
     ·rw[m.flushTo_len,<-c];exact hd.ge
     ·rw[m.flushTo_len,<-c];exact hd.le
    have d:=Aa (Ab A (k1.setCell x.bc k (Ac []) (.inl (by simp))));have f:=Aa b;clear hd h b c g s u hk A r l k1 o q;generalize m.blocks.length=n at*;go_wp2_with fail
    go_region
    go_wp2_with fail
    go_roundw
    case rel=>exact⟨k+1,by have:=f.o;omega,by go_num,d.o.1,p.trans d.o.2⟩
    case measure=>have:=f.o;simp[intOf];omega
  ·have v:k=m.blocks.length:=by omega
   rw[v,m.flushTo_all]at hd;have c0:=hd.c0;have e0:m.flush.blocks.length=m.blocks.length:=by simp[DM.flush]
   rw[e0]at c0;subst v;have d:=Aa hd;clear hd h b e0;generalize m.blocks.length=n at*;go_wp2_with fail;go_ret;exact⟨rfl,p,d.o⟩
theorem Ao6 (x:DX)(m:DM)(wv:Value)(w:World)(h:Cr w x m wv)(a:m.count<m.ceiling):
  Cl 69 #[.pointer (some ⟨x.d,0,none⟩)] w fun e w'=>e=.returned (.bool true)/\Kp [x.d] w w'/\Cr w' x {m with count:=m.count+1} wv:=by
 refine(A1e x.d w m.count m.ceiling h.c2 h.c3 h.c5 (h.fr 2) a h.cl).mono ?_;rintro e w' ⟨rfl,n,rfl⟩;have k:Kp [x.d] w ((w.drewN n).setCell ⟨x.d,2,none⟩ (.int .i64 (m.count+1:Nat))):=((Kp.refl _ w).drewN n).setCell x.d 2 _ (.inl (by simp));refine⟨rfl,k,?_,h.rb.kp k (by simpa using Ne.symm h.n1),h.rc.kp k (by simpa using Ne.symm h.n2),Bm h.own k (fun j b=>by simpa using(h.n4 j b).1),h.same,h.ge,h.le,h.cl,h.n1,h.n2,h.n3,h.n4,h.wl⟩;rw[Cx (w:=w.drewN n) h.blk 2 _];simp
theorem Adj:(Tryz.prog.info? 9).map (fun i=>(i.zero,i.size,i.bytes))=some (some (.string ⟨#[]⟩),1,16):=by kernel_rfl
def Ii:By:=List.replicate 256 0
def Pe (a b:Value)(c:Nat):Array Value:= #[a,b,.int .i64 0,.int .i64 (c:Int),.slice none 0 0,.int .i64 (-1),.slice none 0 0]
structure Sg (w:World)(c k:Nat)(v0 v1:Value)(wr:World):Prop where
 blk:wr.heap[w.heap.size]?=some (.cells (Pe v0 v1 c) 53 (0,0))
 o0:wr.ownsRow (w.heap.size+1) 9 1 v0 k (List.replicate k (Ac Ii))
 o1:wr.ownsRow (w.heap.size+1) 9 1 v1 k (List.replicate k (Ac []))
 ne:∀i j,v0.ownBlock=some i->v1.ownBlock=some j->i≠j
 bel:Bw w wr
theorem Sg.lt {w wr:World}{c k:Nat}{a b:Value}(h:Sg w c k a b wr):w.heap.size<wr.heap.size:=lt_of_block h.blk
theorem Sg.push0 {w wr b:World}{c k g cap:Nat}{d f:Value}(h:Sg w c k d f wr)
  (q:b.ownsRow (w.heap.size+1) 9 1 (.slice (some ⟨g,0,none⟩) (k+1) cap) (k+1) (List.replicate k (Ac Ii)++[Ac Ii]))
  (m:(wr.alloc (.cells #[Ac Ii] 9)).grownBy b d.ownBlock) (o:d.ownBlock=some g\/g=wr.heap.size+1):
  b.heap[w.heap.size]?=some (.cells (Pe d f c) 53 (0,0))/\
  ((b.setCell ⟨w.heap.size,0,none⟩ (.slice (some ⟨g,0,none⟩) (k+1) cap)).heap[w.heap.size]?=some (.cells (Pe (.slice (some ⟨g,0,none⟩) (k+1) cap) f c) 53 (0,0))/\
   (b.setCell ⟨w.heap.size,0,none⟩ (.slice (some ⟨g,0,none⟩) (k+1) cap)).ownsRow (w.heap.size+1) 9 1 (.slice (some ⟨g,0,none⟩) (k+1) cap) (k+1) (List.replicate (k+1) (Ac Ii))/\
   (b.setCell ⟨w.heap.size,0,none⟩ (.slice (some ⟨g,0,none⟩) (k+1) cap)).ownsRow (w.heap.size+1) 9 1 f k (List.replicate k (Ac []))/\
   (∀j,f.ownBlock=some j->g≠j)/\Bw w (b.setCell ⟨w.heap.size,0,none⟩ (.slice (some ⟨g,0,none⟩) (k+1) cap))):=by
 have p:=h.lt;have i:∀j,d.ownBlock=some j->w.heap.size+1<=j:=fun j a=>(h.o0.lt j a).1;have r:g≥w.heap.size+1:=by rcases o with e|e;exact i g e;omega
 have n:∀j,f.ownBlock=some j->w.heap.size+1<=j/\j<wr.heap.size:=fun j a=>h.o1.lt j a;have k1:Kp d.ownBlock.toList wr b:=((Kp.refl _ wr).alloc _).grown m (fun j a=>.inl (by simp[a]));have hb:b.heap[w.heap.size]?=some (.cells (Pe d f c) 53 (0,0)):=(k1.block _ p (fun e=>by have:=i _ (by simpa using e);omega)).trans h.blk;have l:Kp [w.heap.size] b (b.setCell ⟨w.heap.size,0,none⟩ (.slice (some ⟨g,0,none⟩) (k+1) cap)):=(Kp.refl _ b).setCell _ 0 _ (.inl (by simp));refine⟨hb,?_,?_,?_,?_,?_⟩
 ·rw[Cx hb 0 _];rfl
 ·rw[List.replicate_succ']
  exact Bm q l (fun j a=>by have:g=j:=by simpa [Value.ownBlock]using a
                            subst this;simp;omega)
 ·refine Bm (Bm h.o1 k1 (fun j a e=>h.ne j j (by simpa using e) a rfl)) l (fun j a=>?_);have:=(n j a).1;simp;omega
 ·intro j a;rcases o with e|e
  ·exact h.ne g j e a
  ·have:=(n j a).2;omega
 ·exact((Below.alloc h.bel (by omega) _).grown m (by simp;omega) (fun j a=>by have:=i j a;omega)).setCell (Ak _) _
theorem Sg.push1 {w wr b:World}{c k g cap:Nat}{f d:Value}
  (blk:wr.heap[w.heap.size]?=some (.cells (Pe f d c) 53 (0,0)))
  (o0:wr.ownsRow (w.heap.size+1) 9 1 f (k+1) (List.replicate (k+1) (Ac Ii)))
  (o1:wr.ownsRow (w.heap.size+1) 9 1 d k (List.replicate k (Ac [])))
  (ne:∀i j,f.ownBlock=some i->d.ownBlock=some j->i≠j) (bel:Bw w wr)
  (r:b.ownsRow (w.heap.size+1) 9 1 (.slice (some ⟨g,0,none⟩) (k+1) cap) (k+1) (List.replicate k (Ac [])++[Ac []]))
  (n:(wr.alloc (.cells #[Ac []] 9)).grownBy b d.ownBlock) (p:d.ownBlock=some g\/g=wr.heap.size+1):
  b.heap[w.heap.size]?=some (.cells (Pe f d c) 53 (0,0))/\
   Sg w c (k+1) f (.slice (some ⟨g,0,none⟩) (k+1) cap) (b.setCell ⟨w.heap.size,1,none⟩ (.slice (some ⟨g,0,none⟩) (k+1) cap)):=by
 have q:w.heap.size<wr.heap.size:=lt_of_block blk;have h:∀j,d.ownBlock=some j->w.heap.size+1<=j:=fun j a=>(o1.lt j a).1;have s:g≥w.heap.size+1:=by rcases p with e|e;exact h g e;omega
 have o:∀j,f.ownBlock=some j->w.heap.size+1<=j/\j<wr.heap.size:=fun j a=>o0.lt j a;have k1:Kp d.ownBlock.toList wr b:=((Kp.refl _ wr).alloc _).grown n (fun j a=>.inl (by simp[a]));have hb:b.heap[w.heap.size]?=some (.cells (Pe f d c) 53 (0,0)):=(k1.block _ q (fun e=>by have:=h _ (by simpa using e);omega)).trans blk;have l:Kp [w.heap.size] b (b.setCell ⟨w.heap.size,1,none⟩ (.slice (some ⟨g,0,none⟩) (k+1) cap)):=(Kp.refl _ b).setCell _ 1 _ (.inl (by simp));refine⟨hb,?_,?_,?_,?_,?_⟩
 ·rw[Cx hb 1 _];rfl
 ·refine Bm (Bm o0 k1 (fun j a e=>ne j j a (by simpa using e) rfl)) l (fun j a=>?_);have:=(o j a).1;simp;omega
 ·rw[List.replicate_succ']
  exact Bm r l (fun j a=>by have:g=j:=by simpa [Value.ownBlock]using a
                            subst this;simp;omega)
 ·intro i j m a;have:g=j:=by simpa [Value.ownBlock]using a
  subst this;rcases p with e|e
  ·exact ne i g m e
  ·have:=(o i m).2;omega
 ·exact((Below.alloc bel (by omega) _).grown n (by simp;omega) (fun j a=>by have:=h j a;omega)).setCell (Ak _) _
theorem Sg.done {w wr:World}{c n:Nat}{g l:Value}(h:Sg w c n g l wr)(e:3<=n)(d:n<=48)(i:c<=1048576):
  ∃x:DX,x.d=w.heap.size/\w.heap.size<=x.bb/\w.heap.size<=x.bc/\Cr wr x ⟨List.replicate n Ii,List.replicate n [],0,c,[],.slice none 0 0⟩ (.slice none 0 0):=by
 obtain⟨b,j,rfl⟩:=Xj h.o0 (by omega);obtain⟨a,f,rfl⟩:=Xj h.o1 (by omega);have o:=h.o0.lt b rfl;have m:=h.o1.lt a rfl;refine⟨⟨w.heap.size,b,j,a,f⟩,rfl,by show w.heap.size<=b;omega,by show w.heap.size<=a;omega,?_,Hc.of_own (xs:=List.replicate n Ii) (by rw[List.map_replicate];exact h.o0),Hc.of_own (xs:=List.replicate n []) (by rw[List.map_replicate];exact h.o1),Sn _ _ _ _,?_,?_,?_,i,?_,?_,?_,?_,?_⟩
 ·rw[h.blk];simp[Pe]
 ·simp
 ·simpa using e
 ·simpa using d
 ·show w.heap.size≠b;omega
 ·show w.heap.size≠a;omega
 ·exact h.ne b a rfl rfl
 ·intro k hk;cases hk
 ·simp
theorem Aqs (n c:Nat)(w:World)(P:3<=n)(V:n<=48)(M:c<=1048576):
  Cl 9 #[.int .i64 n,.int .i64 c] w fun e w'=>e=.returned (.tuple #[.pointer (some ⟨w.heap.size,0,none⟩),.int .i64 0])/\Bw w w'/\
   ∃x:DX,x.d=w.heap.size/\w.heap.size<=x.bb/\w.heap.size<=x.bc/\Cr w' x ⟨List.replicate n Ii,List.replicate n [],0,c,[],.slice none 0 0⟩ (.slice none 0 0):=by
 obtain⟨X,d,R,T,E⟩:=info_parts Adj;have Y:∀w,(Instr.makeSlice 54 (.int .i64 256) (.int .i64 256)).run Tryz.prog w=.ok (.slice (some ⟨w.heap.size,0,none⟩) 256 256) (w.alloc (.cells (madeCells #[.int .u8 0] 256) 5)):=Zw 256 (by decide)
 have O:∀w:World,(convert 54 9 (.slice (some ⟨w.heap.size,0,none⟩) 256 256)).run Tryz.prog (w.alloc (.cells (madeCells #[.int .u8 0] 256) 5))=.ok (Ac Ii) (w.alloc (.cells (madeCells #[.int .u8 0] 256) 5)):=fun w=>by have:=Qh (cap:=256) (Bo.made w 5 .u8 256);rw[Tu,List.map_replicate]at this;exact this
 have o:(convert 54 9 (.slice (some ⟨w.heap.size+1,0,none⟩) 256 256)).run Tryz.prog ((w.alloc (.cells (Pe (.slice none 0 0) (.slice none 0 0) c) 53)).alloc (.cells (madeCells #[.int .u8 0] 256) 5))=.ok (Ac Ii) ((w.alloc (.cells (Pe (.slice none 0 0) (.slice none 0 0) c) 53)).alloc (.cells (madeCells #[.int .u8 0] 256) 5)):=by
  have:=O (w.alloc (.cells (Pe (.slice none 0 0) (.slice none 0 0) c) 53))
  rwa [World.size_alloc]at this
 have z:=Aa (show Sg w c 0 (.slice none 0 0) (.slice none 0 0) ((w.alloc (.cells (Pe (.slice none 0 0) (.slice none 0 0) c) 53)).alloc (.cells (madeCells #[.int .u8 0] 256) 5))from
  ⟨(((Kp.refl [] _).alloc _).block _ (by simp) (by simp)).trans (heap_alloc_new w _),Sn _ _ _ _,Sn _ _ _ _,(by intro i j d;cases d),((Ah _ _).alloc (Ak _) _).alloc (by simp) _⟩)
 unfold Pe at o;have am:decide ((c:Int)<0)=false:=by simp
 have e1:decide ((n:Int)<3)=false:=by simp;omega
 have e2:decide ((48:Int)<n)=false:=by simp;omega
 have e3:decide ((1048576:Int)<c)=false:=by simp;omega
 have an:(c:Int)<=1048576:=by omega
 have al:(n:Int)<=48:=by omega
 have s:=Aa (Ab P (Ab V M));clear P V M;clear O;generalize F:Ii=Z at o;go_enter Tryz.func9,Tryz.ntmps9;go_wp2_with fail
 go_loopw [8] (fun i wr=>∃(k:Nat) (l h:Value),k<=n/\i=.int .i64 (k:Int)/\Sg w c k l h wr) (fun i _=>n-(intOf i).toNat)
 case atStart=>exact⟨0,_,_,by omega,rfl,z.o⟩
 case round=>
  obtain⟨k,l,h,hk,rfl,f⟩:=hrel;by_cases C:k<n
  ·have ao:(k:Int)<(n:Int):=by omega
   have c0:wr.cell? ⟨w.heap.size,0,none⟩=some l:=by rw[cell_of_row _ _ _ _ _ _ f.blk];rfl
   have p:=Aa f;have D:=Aa C;have ai:k<=48:=by omega
   clear f C hk o z Y;go_wp2_with (at_builtin;refine wpList_append_lies _ rfl _ _ 36 rfl (w.heap.size+1) 9 X (.string ⟨#[]⟩) 1 16 Tryz.underlying36 d R T E rfl (by decide) l k (List.replicate k (Ac Ii)) rfl ?own ⟨wr.heap.size,0,none⟩ 1 1 [Ac Z] rfl rfl ?c1 ?c2 (by decide) ?c3 ?c4 ?c5 _ rfl ?_)
   case own=>exact Bm p.o.o0 ((Kp.refl [] _).alloc _) (fun j y=>by simp)
   case c1=>exact Qt (cs:= #[Ac Z]) (heap_alloc_new _ _)
   case c2=>intro u m;simp at m;subst m;rfl
   case c3=>unfold maxLen;omega
   case c4=>omega
   case c5=>have:=p.o.lt;simp;omega
   intro g cap a U J W af;subst F;obtain⟨r,q,I,S,L,v⟩:=p.o.push0 U J (by simpa using W);have ah:a.cell? ⟨w.heap.size,0,none⟩=some l:=crw r rfl;have ak:a.frozen? ⟨w.heap.size,0,none⟩=false:=by simp[World.frozen?,r]
   have c14:(a.setCell ⟨w.heap.size,0,none⟩ (.slice (some ⟨g,0,none⟩) (k+1) cap)).cell? ⟨w.heap.size,1,none⟩=some h:=crw q rfl;have b:=Aa (Ab q (Ab I (Ab S (Ab L v))));have ad:=v.size;have A:(a.setCell ⟨w.heap.size,0,none⟩ (.slice (some ⟨g,0,none⟩) (k+1) cap)).heap.size=a.heap.size:=by simp[World.setCell]
   rw[A]at ad;have ac:w.heap.size<(a.setCell ⟨w.heap.size,0,none⟩ (.slice (some ⟨g,0,none⟩) (k+1) cap)).heap.size:=lt_of_block q;rw[A]at ac;clear U J W af r q I S L v p;go_wp2_with (at_builtin;refine wpList_append_lies _ rfl _ _ 36 rfl (w.heap.size+1) 9 X (.string ⟨#[]⟩) 1 16 Tryz.underlying36 d R T E rfl (by decide) h k (List.replicate k (Ac [])) rfl ?own ⟨a.heap.size,0,none⟩ 1 1 [Ac []] rfl rfl ?c1 ?c2 (by decide) ?c3 ?c4 ?c5 _ rfl ?_)
   case own=>exact Bm b.o.2.2.1 ((Kp.refl [] _).alloc _) (fun j y=>by simp)
   case c1=>exact Qt (cs:= #[Ac []]) (by have:=heap_alloc_new (a.setCell ⟨w.heap.size,0,none⟩ (.slice (some ⟨g,0,none⟩) (k+1) cap)) (.cells #[Ac []] 9);rwa [A]at this)
   case c2=>intro u m;simp at m;subst m;rfl
   case c3=>unfold maxLen;omega
   case c4=>omega
   case c5=>simp;omega
   intro aj aq Q K G N ab
   obtain⟨t,H⟩:=Sg.push1 b.o.1 b.o.2.1 b.o.2.2.1 (fun i j d y=>by have:g=i:=by simpa [Value.ownBlock]using d
                                                                  subst this;exact b.o.2.2.2.1 j y) b.o.2.2.2.2 K G (by simpa using N)
   have c15:Q.cell? ⟨w.heap.size,1,none⟩=some h:=crw t rfl;have ap:Q.frozen? ⟨w.heap.size,1,none⟩=false:=by simp[World.frozen?,t]
   have ag:=Aa H;clear K G N ab t H b;go_wp2_with fail
   go_roundw
   case rel=>exact⟨k+1,_,_,by have:=D.o;omega,by go_num,ag.o⟩
   case measure=>have:=D.o;simp[intOf];omega
  ·have ae:k=n:=by omega
   subst ae;have aa:=Aa (Ab (f.done s.o.1 s.o.2.1 s.o.2.2) f.bel);clear f C hk o z Y;subst F;go_wp2_with fail;go_ret2;exact⟨rfl,aa.o.2,aa.o.1⟩
def Qj:St:=⟨0,0,0,0,0,0,0,0⟩
theorem Ee.whole {w:World}{b:Nat}{st:St}{a:By}{n:Nat}(h:Ee w b st a n):w.rangeAt b 0 (Di st a n):=by intro j v c;rw[Dq,cell_of_row _ _ _ _ _ _ h.blk];simpa using c
theorem Ahw (st:St)(b:By)(n:Nat):∀v∈Di st b n,v.oneCell'=true:=by
 intro v a;simp only[Di,As,Jc]at a;rcases a with(a|a)|a
 ·exact Nk _ _ v a
 ·rw[<-Dw]at a;exact Nk _ _ v a
 ·subst a;rfl
theorem Ahb (b:Nat)(st:St)(c:By)(T:By)(w:World)(hh:Ee w b st c T.length)(N:Ho st c T)(ad:st.ok)(hk:Br w 1 .u32 Gk)(V:T.length<=900000):
  Cl 73 #[.pointer (some ⟨b,0,none⟩)] w fun e w'=>e=.returned (.string ⟨(Dz T).toArray⟩)/\Bw w w':=by
 obtain⟨n,o⟩:=nmd (T.length);have aj:(n:Int)<=900000:=by omega
 rw[o]at hh;have s:=Aa o;have f:=Qi st c n hh.len;have L:=Ahw st c n;have t:=hh.whole;have cs:=hh.size;have Q:=hh.lt;obtain⟨a,v⟩:=nmd (Di st c n);have S:=Aa hh;rw[v]at f L t;have Z:=Aa (show(Tryz.prog.info? 151).map (·.size)=some a.length from by rw[f];kernel_rfl);have P:=Aa (show(Tryz.prog.info? 151).map (·.size)=some a.toArray.size from by rw[Uv,f];kernel_rfl);have W:=Aa t;have z:=Aa f;have M:=Aa v;have ab:∀w,(zeroValue 151).run Tryz.prog w=.ok (.agg (Di Qj (List.replicate 64 0) 0).toArray) w:=fun _=>by kernel_rfl
 obtain⟨d,q⟩:=nmd ((Di Qj (List.replicate 64 0) 0).toArray);rw[q]at ab;have J:d.size=73:=by rw[<-q];rfl
 clear o t f v hh V q;have K:=Agk w 151 d a (by rw[J,z.o]);have m:Bw w ((w.alloc (.cells d 151)).setCells w.heap.size 0 a):=((Ah _ _).alloc (Ak _) _).trans (Ec _ _ _ _ _ (Ak _));have X:((w.alloc (.cells d 151)).setCells w.heap.size 0 a).cell? ⟨b,72,none⟩=some (.int .u64 (n:Int)):=(m.cell (p:=⟨b,72,none⟩) Q).trans cs;have R:=Aa K;have F:=Aa m;clear K m cs;go_enter Tryz.func73,Tryz.ntmps73;go_wp2_with (first|refine wpList_load_mid rfl 151 _ rfl b 0 rfl a _ W.o Tryz.underlying151 rfl Z.o ?_|refine wpList_store_mid rfl 151 _ _ rfl w.heap.size 0 a.toArray rfl rfl ?c1 P.o (all_oneCell_toArray L) ?_)
 case c1=>
  have e:a.toArray.size=d.size:=by rw[J];simpa using z.o
  rw[e];exact Iy w _ _
 refine(Auk n _ (by omega)).mono ?_;rintro e A ⟨rfl,g⟩;have j:=Ag8 n;obtain⟨l,x⟩:=nmd (Vo n);have y:Ee ((w.alloc (.cells d 151)).setCells w.heap.size 0 a) w.heap.size st c T.length:=⟨by rw[s.o,M.o];exact R.o,S.o.len⟩;have i:((w.alloc (.cells d 151)).setCells w.heap.size 0 a).heap.size=w.heap.size+1:=by rw[(Np _ _ _ _).1];simp
 have u:=y.below g (by rw[i];omega);have U:=(hk.below F.o hk.lt).below g (by rw[i];have:=hk.lt;omega);have ag:Bw w A:=F.o.trans (g.mono (by rw[i];omega));have ap:=u.lt;have ak:=hk.lt;rw[x]at j⊢;have H:(ByteArray.mk l.toArray).size=Vt n+9:=by simpa [ByteArray.size]using j
 have al:=Ak1 n;have Y:=Aa x;have D:=Yn w.heap.size st c T ⟨l.toArray⟩ A u N ad U (by omega) (by rw[H,s.o];omega);have E:=Aa D;clear D y u g x j H i X;go_wp2_with fail;refine E.o.mono ?_;rintro e ai ⟨rfl,h,an,r,k,ah,C⟩;have G:=r.words;have O:=Aa (show(Tryz.prog.info? 147).map (·.size)=some (Aj .u32 h.list).length from by kernel_rfl)
 have I:digest h=Dz T:=by
  have h1:l=Vo T.length:=by rw[s.o,Y.o]
  rw[h1]at k;exact Ho.digest k
 have ae:=Aa I;have aa:=Aa G;have af:=C.below ag (Ak _) (by omega);have ao:=r.lt;clear I G C E r k;go_wp2_with (refine wpList_load_mid rfl 147 _ rfl w.heap.size 0 rfl (Aj .u32 h.list) _ aa.o Tryz.underlying147 rfl O.o ?_);refine(Avc h _ ah).mono ?_;rintro e am ⟨rfl,ac⟩;go_wp2_with fail;go_ret;exact⟨by rw[ae.o];rfl,af.trans (ac.mono (by omega))⟩
theorem Ad3 (s:ByteArray)(w:World)(hk:Br w 1 .u32 Gk)(h0:Br w 0 .u32 Jv)(l:s.size<=900000):
  Cl 46 #[.string s] w fun e w'=>e=.returned (.string ⟨(Dz s.data.toList).toArray⟩)/\Bw w w':=by
 have r:=hk.lt;go_enter Tryz.func46,Tryz.ntmps46;go_wp2_with fail;refine(Ah1 _ h0).mono ?_;rintro e w1 ⟨rfl,b,g⟩;have t:=b.lt;have d:=hk.below g hk.lt;go_wp2_with fail;refine(Yn w.heap.size Tm _ [] s w1 b Ho.start Air d (by omega) (by simpa using(by omega:s.size<=1000000))).mono ?_;rintro e w2 ⟨rfl,i,k,c,f,m,a⟩;rw[Hu]at f;have o:=a.cells d (by omega);have q:=c.lt;have n:=a.below g (Ak _) (by omega);have h:([]:By).length+s.size=s.data.toList.length:=by simp
 rw[h]at c;clear h b a;go_wp2_with fail;refine(Ahb w.heap.size i k s.data.toList w2 c f m o (by simpa using l)).mono ?_;rintro e p ⟨rfl,j⟩;go_wp2_with fail;go_ret;exact⟨rfl,n.trans (j.mono (by omega))⟩
end Go.Proofs.YtojgilcdgccojaaGreatDoor
