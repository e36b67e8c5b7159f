import Derived.Lib.ConvBytes
import Derived.Test.YtojgilcdgccojaaGreatDoorAl
import Derived.Test.YtojgilcdgccojaaGreatDoorMAh
import Derived.Test.YtojgilcdgccojaaGreatDoorMAb
set_option linter.unusedSimpArgs false
set_option maxRecDepth 100000
set_option maxHeartbeats 8000000
namespace Go.Proofs.YtojgilcdgccojaaGreatDoor
open Go.RowKit
structure BR (wr:World)(b:Nat)(xs:By):Prop where
 lt:b<wr.heap.size
 cell:∀i,i<xs.length->wr.cell? ⟨b,i,none⟩=some (.int .u8 (((xs.getD i 0).toNat:Nat):Int))
 frz:∀i,i<xs.length->wr.frozen? ⟨b,i,none⟩=false
theorem BR.set {wr:World}{b:Nat}{xs:By}(h:BR wr b xs)(i:Nat)(x:UInt8)(c:i<xs.length):BR (wr.setCell ⟨b,i,none⟩ (.int .u8 ((x.toNat:Nat):Int))) b (xs.set i x):=by
 refine⟨by simpa [World.setCell]using h.lt,fun j a=>?_,fun j a=>?_⟩
 ·rw[Ht]at a;by_cases e:i=j
  ·subst e;rw[World.cell?_setCell_same _ _ _ (h.cell i c)];simp[List.getElem?_set_self c]
  ·rw[World.cell?_setCell_other _ _ _ _ (by intro h2;apply e;injection h2),h.cell j a];simp[List.getElem?_set_ne e]
 ·rw[Ht]at a;rw[World.frozen?_setCell];exact h.frz j a
theorem BR.of_block {wr a:World}{b:Nat}{xs:By}(h:BR wr b xs)(e:a.heap[b]?=wr.heap[b]?)(d:b<a.heap.size):BR a b xs:=
 ⟨d,fun i c=>by rw[Lv e];exact h.cell i c,fun i c=>by rw[World.frozen?_of_block e];exact h.frz i c⟩
theorem BR.below {wr a:World}{b B:Nat}{xs:By}(h:BR wr b xs)(hb:Below B wr a)(c:b<B):BR a b xs:=h.of_block (hb.block b c) (Eu h.lt hb.size)
theorem BR.drew {wr:World}{b:Nat}{xs:By}(h:BR wr b xs):BR wr.drew b xs:=⟨h.lt,h.cell,h.frz⟩
theorem BR.conv {wr:World}{b cap n:Nat}{xs:By}(h:BR wr b xs)(c:xs.length=n):(convert 54 9 (.slice (some ⟨b,0,none⟩) n cap)).run Tryz.prog wr=.ok (.string ⟨xs.toArray⟩) wr:=by subst c;refine run_convert_bytes_back (P:=Tryz.prog) wr 54 9 5 ⟨b,0,none⟩ cap xs Tryz.underlying54 Tryz.underlying5 Tryz.underlying9 (fun j a=>?_);rw[Addr.add_mid,Dq,h.cell j a];simp[Az a]
theorem BR.bytes (w:World)(t:By):BR (Lib.bytesWorld w 5 ⟨t.toArray⟩) w.heap.size t/\Bw w (Lib.bytesWorld w 5 ⟨t.toArray⟩):=by
 have b:(ByteArray.mk t.toArray).size=t.length:=by simp[ByteArray.size]
 refine⟨⟨by rw[Lib.bytesWorld_size];omega,fun i a=>?_,fun i a=>?_⟩,⟨rfl,rfl,rfl,by rw[Lib.bytesWorld_size];omega,fun j c=>Lib.bytesWorld_at_old w _ _ j c⟩⟩
 ·have:=Lib.bytesWorld_cell w 5 ⟨t.toArray⟩ i (by rw[b];exact a);simpa using this
 ·have h:=Lib.bytesWorld_at_new w 5 ⟨t.toArray⟩;have d:t.length<=(Lib.bytesCells w 5 ⟨t.toArray⟩).size:=by simp[Lib.bytesCells]
  unfold World.frozen?;simp only[h];simp;omega
theorem A2r (w:World)(t:By)(n:Nat)(b:t.length=n):(convert 9 54 (.string ⟨t.toArray⟩)).run Tryz.prog w=.ok (.slice (some ⟨w.heap.size,0,none⟩) n (grownCap w n 0 5)) (Lib.bytesWorld w 5 ⟨t.toArray⟩):=by
 have a:(ByteArray.mk t.toArray).size=n:=by simp[ByteArray.size,b]
 have:=Lib.run_convert_string_bytes (P:=Tryz.prog) w 9 54 5 ⟨t.toArray⟩ Tryz.underlying9 Tryz.underlying54 Tryz.underlying5;rw[this,a]
theorem A3v (rk a:By)(hw:rk.length=240)(g:a.length=12):∀(k:Nat) (t:By) (n j:Nat),j<16->16*k+j<t.length->(Fk rk a n t).getD (16*k+j) 0=t.getD (16*k+j) 0^^^(Cy rk (a++Af (n+k) 4)).getD j 0:=by
 intro k
 induction k with
 |zero=>
  intro t n j f c;have b:t≠[]:=by intro e;subst e;simp at c
  have d:=Wd rk (a++Af n 4) hw (Aho a n g);rw[Aat _ _ _ _ b,Nat.mul_zero,Dq,Pp];have i:(Dh (t.take 16) (Cy rk (a++Af n 4))).length=(t.take 16).length:=Aeu _ _ (by rw[d];simp;omega);have l:j<(t.take 16).length:=by simp;omega
  rw[Ea,Ja (by omega)];simp only[Dh,List.getElem?_zipWith,Az l,Az (by omega:j<(Cy rk (a++Af n 4)).length),Ea,Az (by omega:j<t.length)];simp[Az (by omega:j<(Cy rk (a++Af n 4)).length)]
 |succ k ih=>
  intro t n j f c;have b:t≠[]:=by intro e;subst e;simp at c
  have d:=Wd rk (a++Af n 4) hw (Aho a n g);have i:(Dh (t.take 16) (Cy rk (a++Af n 4))).length=16:=by rw[Aeu _ _ (by rw[d];simp;omega)];simp;omega
  have h:=ih (t.drop 16) (n+1) j f (by simp;omega);rw[Aat _ _ _ _ b,Ea,If (by omega),i,show 16*(k+1)+j-16=16*k+j by omega,<-Ea,h]
  congr 1
  ·rw[Ea,Ea,Sm];congr 2;omega
  ·rw[show n+1+k=n+(k+1)by omega]
theorem Aif (A B:By)(k:Nat)(h:A.length=B.length)(hk:B.length<=k):Ev A B k=A:=by unfold Ev;rw[Du (by omega),Xu hk,Ff]
theorem Ayg (A B:By)(k:Nat)(h:A.length=B.length)(hk:k<B.length):(Ev A B k).set k (A.getD k 0)=Ev A B (k+1):=by
 unfold Ev;rw[Lu k _ (by simp;omega)];have h0:k-(A.take k).length=0:=by simp;omega
 rw[h0,Kh hk,Co,Lr (by omega:k<A.length),Cw]
 congr 1
 rw[Ea,Az (by omega:k<A.length)];rfl
theorem Aja (aa:Nat)(rk d t:By)(w:World)(hk:Eh w aa rk)(ht:t.length<=4096):
  Cl 139 #[.pointer (some ⟨aa,0,none⟩),.string ⟨d.toArray⟩,.string ⟨t.toArray⟩] w fun x w'=>x=.returned (.string ⟨(Fk rk (Ar d 12) 2 t).toArray⟩)/\Bw w w':=by
 have bi:∀w,(zeroValue 203).run Tryz.prog w=.ok (.agg (Ae (List.replicate 16 0)).toArray) w:=fun _=>by kernel_rfl
 have af:=hk.len;have bc:=hk.lt;have au:=Jm d 12;have bd:=Aa (A3v rk (Ar d 12) af au);have J:=Aa1 rk (Ar d 12) af au 2 t;obtain⟨n,O⟩:=nmd (t.length);have a9:=A2r w t n O;obtain⟨am,az⟩:=BR.bytes w t;generalize Lib.bytesWorld w 5 ⟨t.toArray⟩=w1 at*;obtain⟨C,V⟩:=nmd (Fk rk (Ar d 12) 2 t);rw[V]at J;have ar:=Aa V;have bk:(n:Int)<=4096:=by omega
 rw[O]at J;have f:=Aa (Ab O J);have Y:=Aa (Ab am az);generalize grownCap w n 0 5=cap at*;obtain⟨l,S⟩:=nmd (List.replicate 16 (0:UInt8));have aw:l.length=16:=by rw[<-S];simp
 rw[S]at bi;clear V O J am az ht S;go_enter Tryz.func139,Tryz.ntmps139;go_wp2_with fail
 go_loopw [8,9] (fun nn i wr=>∃k:Nat,16*k<n+16/\nn=.int .u32 ((2+k:Nat):Int)/\i=.int .i64 ((16*k:Nat):Int)/\BR wr w.heap.size (Ev C t (16*k))/\Bw w wr) (fun _ i _=>(5017-intOf i).toNat)
 case atStart=>exact⟨0,by omega,rfl,rfl,by rw[Nat.mul_zero,Aav];exact Y.o.1,Y.o.2⟩
 case round=>
  clear Y a9;obtain⟨k,ag,rfl,rfl,hr,c⟩:=hrel;by_cases ah:16*k<n
  ·have ac:((16*k:Nat):Int)<(n:Int):=by omega
   have ax:2+k<4294967296:=by omega
   have r:=Aa (Ab ag ah);obtain⟨m,u⟩:=nmd (16*k);have g:=Aa u;rw[u]at ac hr⊢;obtain⟨q,ad⟩:=nmd (2+k);have ae:=Aa ad;rw[ad]at ax⊢;have X:=hk.below c bc;clear ag ah u ad;go_wp2_with fail;refine(Agm d q _ ax).mono ?_;rintro e w2 ⟨rfl,L⟩;have a0:=X.below L X.lt;have T:=hr.below L hr.lt;have s:=c.trans (L.mono c.size);have ab:(Ar d 12++Af q 4).length=16:=by simp[Jm,Cb]
   clear hr c L X;go_wp2_with fail;refine(Abf aa rk (Ar d 12++Af q 4) _ a0 ab).mono ?_;rintro e b ⟨rfl,W⟩;have K:=T.below W T.lt;have ai:=s.trans (W.mono s.size);have H:=Wd rk (Ar d 12++Af q 4) af ab
   have a6:Hid (∀j,j<16->m+j<n->C.getD (m+j) 0=t.getD (m+j) 0^^^(Cy rk (Ar d 12++Af q 4)).getD j 0):=fun j v bh=>by have h:=bd.o k t 2 j v (by rw[f.o.1,g.o];exact bh);rw[g.o,ar.o,ae.o]at h;exact h
   clear T s W a0 ab;generalize Cy rk (Ar d 12++Af q 4)=P at*;go_wp2_with (refine Ow rfl 203 _ _ rfl b.heap.size 0 (Ae P).toArray rfl rfl ?ht (Tr P H) (Tf P) ?_)
   case ht=>
    have h:=Iy b (Ae l).toArray 203;have e1:(Ae l).toArray.size=(Ae P).toArray.size:=by simp[Ae,aw,H]
    rw[e1]at h;exact h
   intro a2 av;have ao:Bo (b.alloc (.cells (Ae l).toArray 203)) b.heap.size 203 .u8 (Ap l):=Bo.new b _ _ _ _ (by simp[Ae,Ap]) (fun i ba=>by rw[<-Dw];exact Mr .u8 _ i ba);have F:=ao.setAll (Ap P) (by rw[Dt,Dt,H,aw]);rw[Dw]at F;have Q:Bw b ((b.alloc (.cells (Ae l).toArray 203)).setCells b.heap.size 0 (Ae P)):=((Ah b.heap.size b).alloc (Ak _) (.cells (Ae l).toArray 203)).trans (Ec _ _ _ 0 (Ae P) (Ak _));have a1:a2=(b.alloc (.cells (Ae l).toArray 203)).setCells b.heap.size 0 (Ae P):=av.o;rw[<-a1]at F Q;have al:=K.below Q K.lt;have ay:=ai.trans (Q.mono ai.size);have a5:=K.lt;obtain⟨aq,an⟩:=nmd (b.heap.size);rw[an]at F a5⊢;have N:=Aa (Ab F (Ab al ay));clear av a1 ao F Q al ay K ai an;go_wp2_with fail
   go_loopw [11] (fun Z wr=>∃j:Nat,j<=16/\m+j<=n/\Z=.int .i64 (j:Int)/\Bo wr aq 203 .u8 (Ap P)/\BR wr w.heap.size (Ev C t (m+j))/\Bw w wr) (fun Z _=>(17-intOf Z).toNat)
   case atStart=>exact⟨0,by omega,by have:=r.o.2;have:=g.o;omega,rfl,N.o.1,N.o.2.1,N.o.2.2⟩
   case round=>
    clear N;obtain⟨j,a4,be,rfl,D,hr,c⟩:=hrel;have A:C.length=t.length:=by rw[f.o.1,f.o.2]
    by_cases v:j<16
    ·have bj:(j:Int)<16:=by omega
     by_cases o:m+j<n
     ·have M:(Ev C t (m+j)).length=n:=by rw[Auq C t _ A,f.o.1]
      have ap:=hr.cell (m+j) (by rw[M];exact o);have a8:=hr.frz (m+j) (by rw[M];exact o);rw[Ada C t _ _ A (Ak _) (by rw[f.o.1];exact o)]at ap;have a3:=D.cell (i:=j) (by rw[Dt,H];exact v);rw[Ro]at a3;have a7:=u8_xor_nat (t.getD (m+j) 0).toNat (P.getD j 0).toNat (Ki _) (Ki _);rw[<-UInt8.toNat_xor,<-a6.o j v o]at a7;have R:=hr.set (m+j) (C.getD (m+j) 0) (by rw[M];exact o);rw[Ayg C t (m+j) A (by rw[f.o.1];exact o)]at R;have ak:=D.setOther (a:=⟨w.heap.size,m+j,none⟩) (show aq≠w.heap.size by omega) (.int .u8 (((C.getD (m+j) 0).toNat:Nat):Int));have s:Bw w (wr.setCell ⟨w.heap.size,m+j,none⟩ (.int .u8 (((C.getD (m+j) 0).toNat:Nat):Int))):=c.setCell (Ak _) _;have I:=Aa (Ab ak (Ab R s));generalize(C.getD (m+j) 0).toNat=z at*;generalize(t.getD (m+j) 0).toNat=y at*;generalize(P.getD j 0).toNat=x at*;obtain⟨p,aj⟩:=nmd (m+j);have bf:=Aa aj;have hw:IntKind.i64.wrap ((m:Int)+(j:Int))=(p:Int):=by rw[show(m:Int)+(j:Int)=(p:Int)by omega];exact Iq _ (by omega)
      have bb:(m:Int)+(j:Int)=(p:Int):=by omega
      have bm:(p:Int)<(n:Int):=by omega
      rw[aj]at ap a8 I;have U:=Aa (Ab v o);clear R ak s hr c D aj M v o a4 be A;go_wp2_with fail
      go_region
      go_wp2_with fail
      go_roundw
      case rel=>exact⟨j+1,by have:=U.o;omega,by have:=U.o;omega,by go_num,I.o.1.drew,by rw[show m+(j+1)=m+j+1 by omega];exact(show BR _ _ _ from by have h:=I.o.2.1;rw[<-bf.o]at h⊢;exact h).drew,I.o.2.2.drew⟩
      case measure=>have:=U.o;simp[intOf];omega
     ·have bb:¬((m:Int)+(j:Int)<(n:Int)):=by omega
      have G:Ev C t (m+j)=Ev C t (m+16):=by rw[Aif C t _ A (by rw[f.o.1];omega),Aif C t _ A (by rw[f.o.1];omega)]
      rw[G]at hr;have E:=Aa (Ab hr c);clear G hr c D;go_wp2_with fail
      go_roundw
      case rel=>exact⟨k+1,by have:=r.o;have:=g.o;omega,Pm (by have:=ae.o;have:=r.o;omega),Pm (by have:=g.o;omega),by rw[show 16*(k+1)=m+16 by have:=g.o;omega];exact E.o.1,E.o.2⟩
      case measure=>have:=r.o;have:=g.o;simp[intOf];omega
    ·have bg:j=16:=by omega
     subst bg
     have G:Ev C t (m+16)=Ev C t (m+16):=by rfl
     rw[G]at hr;have E:=Aa (Ab hr c);clear G hr c D;go_wp2_with fail
     go_roundw
     case rel=>exact⟨k+1,by have:=r.o;have:=g.o;omega,Pm (by have:=ae.o;have:=r.o;omega),Pm (by have:=g.o;omega),by rw[show 16*(k+1)=m+16 by have:=g.o;omega];exact E.o.1,E.o.2⟩
     case measure=>have:=r.o;have:=g.o;simp[intOf];omega
  ·have hd:Ev C t (16*k)=C:=Aif C t _ (by rw[f.o.1,f.o.2]) (by rw[f.o.1];omega);rw[hd]at hr;have bl:=hr.conv (cap:=cap) f.o.2;have ac:¬(((16*k:Nat):Int)<(n:Int)):=by omega
   obtain⟨m,u⟩:=nmd (16*k);rw[u]at ac⊢;clear u hd hr ah ag;go_wp2_with fail;go_ret;exact⟨by rw[ar.o];rfl,c⟩
theorem Akj (b:Nat):∀(c:List Value) (a:Nat) (x:World),x.drew.setCells b a c=(x.setCells b a c).drew
 | [],_,_=>rfl
 |v::c,a,x=>Akj b c (a+1) (x.setCell ⟨b,a,none⟩ v)
structure XM (w:World)(xs:List Nat)(wr:World):Prop where
 box:Br wr w.heap.size .u8 Gc
 res:wr.there (w.heap.size+1+1) 0 240
 row:Bo wr (w.heap.size+1+1+1) 162 .u8 xs
 len:xs.length=240
 bel:Bw w wr
theorem XM.set {w:World}{xs:List Nat}{wr:World}(h:XM w xs wr)(i x:Nat):XM w (xs.set i x) (wr.setCell ⟨w.heap.size+1+1+1,i,none⟩ (.int .u8 (x:Int))):=by have hb:Below (w.heap.size+3) wr (wr.setCell ⟨w.heap.size+1+1+1,i,none⟩ (.int .u8 (x:Int))):=Below.setCell (B:=w.heap.size+3) (Ah _ _) (Ak (w.heap.size+3)) _;exact⟨h.box.below hb (by omega),Qe h.res hb (by omega),h.row.set i x,by simp[h.len],h.bel.setCell (by simp;omega) _⟩
theorem XM.drew {w:World}{xs:List Nat}{wr:World}(h:XM w xs wr):XM w xs wr.drew:=⟨⟨h.box.lt,h.box.at_⟩,h.res,h.row,h.len,h.bel.drew⟩
theorem XM.drewN {w:World}{xs:List Nat}{wr:World}(h:XM w xs wr)(n:Nat):XM w xs (wr.drewN n):=⟨⟨h.box.lt,h.box.at_⟩,h.res,h.row.drewN n,h.len,Bp h.bel n⟩
theorem XM.cell {w:World}{xs:List Nat}{wr:World}(h:XM w xs wr)(i:Nat)(a:i<240):wr.cell? ⟨w.heap.size+1+1+1,i,none⟩=some (.int .u8 ((xs.getD i 0:Nat):Int)):=h.row.cell (by rw[h.len];exact a)
theorem XM.boxAt {w:World}{xs:List Nat}{wr:World}(h:XM w xs wr)(i:Nat)(a:i<256):wr.cell? ⟨w.heap.size,i,none⟩=some (.int .u8 ((Hd i:Nat):Int)):=by have b:=Aaw;rw[h.box.at_ i (by omega),Al0 i a]
theorem XM.start (w:World)(d b:TypeId)(key:By)(a:By)(l:a=List.replicate 240 0)(hk:key.length=32):
  XM w (Ap (key++List.replicate 208 0)) (((((w.alloc (.cells (Aj .u8 Gc).toArray d)).alloc (.cells (Ae key).toArray b)).alloc (.cells (Ae a).toArray 162)).alloc (.cells (Ae a).toArray 162)).setCells (w.heap.size+1+1+1) 0 (Ae key)):=by
 have f:a.length=240:=by rw[l,Tu]
 have v:=(((((Ah w.heap.size w).alloc (Ak _) (.cells (Aj .u8 Gc).toArray d)).alloc (by simp) (.cells (Ae key).toArray b)).alloc (by simp;omega) (.cells (Ae a).toArray 162)).alloc (by simp;omega) (.cells (Ae a).toArray 162)).trans (Ec _ _ (w.heap.size+1+1+1) 0 (Ae key) (by omega));have y:=Akc w (.cells (Aj .u8 Gc).toArray d) (.cells (Ae key).toArray b) (.cells (Ae a).toArray 162) (.cells (Ae a).toArray 162);have D:=Abi w (.cells (Aj .u8 Gc).toArray d) (.cells (Ae key).toArray b) (.cells (Ae a).toArray 162);have G:((((w.alloc (.cells (Aj .u8 Gc).toArray d)).alloc (.cells (Ae key).toArray b)).alloc (.cells (Ae a).toArray 162)).alloc (.cells (Ae a).toArray 162)).heap.size=w.heap.size+4:=by simp
 have r:Br ((((w.alloc (.cells (Aj .u8 Gc).toArray d)).alloc (.cells (Ae key).toArray b)).alloc (.cells (Ae a).toArray 162)).alloc (.cells (Ae a).toArray 162)) w.heap.size .u8 Gc:=(((Br.of_block (heap_alloc_new w _)).alloc _).alloc _).alloc _;have z:Bo ((((w.alloc (.cells (Aj .u8 Gc).toArray d)).alloc (.cells (Ae key).toArray b)).alloc (.cells (Ae a).toArray 162)).alloc (.cells (Ae a).toArray 162)) (w.heap.size+1+1+1) 162 .u8 (Ap a):=⟨_,y,by simp[Ae,Ap],fun i e=>by rw[<-Dw];exact Mr .u8 _ i e⟩;have t:Bo ((((w.alloc (.cells (Aj .u8 Gc).toArray d)).alloc (.cells (Ae key).toArray b)).alloc (.cells (Ae a).toArray 162)).alloc (.cells (Ae a).toArray 162)) (w.heap.size+1+1) 162 .u8 (Ap a):=⟨_,(Mn _ _ _ (by simp)).trans D,by simp[Ae,Ap],fun i e=>by rw[<-Dw];exact Mr .u8 _ i e⟩;generalize(((w.alloc (.cells (Aj .u8 Gc).toArray d)).alloc (.cells (Ae key).toArray b)).alloc (.cells (Ae a).toArray 162)).alloc (.cells (Ae a).toArray 162)=w4 at*;obtain⟨s1,s2,H,E,F⟩:=Np (w.heap.size+1+1+1) (Ae key) 0 w4;have n:Below (w.heap.size+3) w4 (w4.setCells (w.heap.size+1+1+1) 0 (Ae key)):=Ec _ _ _ _ _ (Ak _);have k:(Ap (key++List.replicate 208 0)).length=240:=by rw[Dt,Bb,Tu,hk]
 refine⟨r.below n (by omega),?_,?_,k,v⟩
 ·have q:=t.below n (by omega);intro i e;rw[Dq];exact⟨by rw[q.cell (by rw[Dt,f];exact e)];rfl,q.frozen i⟩
 ·obtain⟨c,h1,h2,m⟩:=z;obtain⟨h,p,C⟩:=Yr (w.heap.size+1+1+1) 162 (Ae key) 0 w4 c h1;have A:h.size=240:=by rw[C,h2,Dt,f]
  refine⟨h,p,by rw[A,k],fun i e=>?_⟩;have o:i<240:=by rw[k]at e;exact e
  have s:(w4.setCells (w.heap.size+1+1+1) 0 (Ae key)).cell? ⟨w.heap.size+1+1+1,i,none⟩=h[i]?:=cell_of_row _ _ _ _ _ _ p;rw[<-s];by_cases g:i<32
  ·have:=Vw (w.heap.size+1+1+1) (Ae key) 0 w4 (fun j x=>by
    rw[Jo,hk]at x
    rw[Dq,cell_of_row _ _ _ _ _ _ h1,m j (by rw[Dt,f];omega)];rfl) i (by rw[Jo,hk];exact g)
   rw[Dq]at this;rw[this]
   have e3:(Ap (key++List.replicate 208 (0:UInt8))).getD i 0=(key.getD i 0).toNat:=by rw[Ro,Ea,Ja (by rw[hk];exact g),<-Ea]
   dsimp only;rw[e3];have u:i<key.length:=by rw[hk];exact g
   simp[Ae,Az u]
  ·rw[World.cell?_setCells_out _ _ _ _ _ (fun _ _=>Or.inr (by rw[Jo,hk];simp;omega)),cell_of_row _ _ _ _ _ _ h1,m i (by rw[Dt,f];exact o),l];have e1:(Ap (List.replicate 240 (0:UInt8))).getD i 0=0:=by rw[Ro,Ea,Ab6];simp[o]
   have e2:(Ap (key++List.replicate 208 (0:UInt8))).getD i 0=0:=by rw[Ro,Ea,If (by omega),Ab6];split<;>rfl
   dsimp only;rw[e1,e2]
theorem Aow (a:By)(n:Nat)(h:n+4<=a.length):(a.drop n).take 4=[a.getD n 0,a.getD (n+1) 0,a.getD (n+2) 0,a.getD (n+3) 0]:=by
 have h0:n<a.length:=by omega
 have h1:n+1<a.length:=by omega
 have h2:n+1+1<a.length:=by omega
 have b:n+1+1+1<a.length:=by omega
 rw[Kh h0,Kh h1,Kh h2,Kh b];simp only[List.take_succ_cons,Wb,Ea,Az h0,Az h1,Option.getD_some];have c:a[n+2]?=some a[n+1+1]:=Az h2;have d:a[n+3]?=some a[n+1+1+1]:=Az b;rw[c,d];rfl
theorem set4 (e f:List Nat)(a b c d i g j h n:Nat)(k:e.length=n):((((e++a::b::c::d::f).set n i).set (n+1) g).set (n+2) j).set (n+3) h=e++i::g::j::h::f:=by subst k;rw[Lu _ _ (Ak _),Po,Co,Lu _ _ (by omega),show e.length+1-e.length=1 by omega,Lu _ _ (by omega),show e.length+2-e.length=2 by omega,Lu _ _ (by omega),show e.length+3-e.length=3 by omega];rfl
theorem Ax1 (key:By)(j P c d S:Nat)(hk:key.length=32)(l:j<52)(e:P<256)(h:c<256)(i:d<256)(g:S<256)
  (hw:Ri (Ct key j) (j+8)=[UInt8.ofNat P,UInt8.ofNat c,UInt8.ofNat d,UInt8.ofNat S]):
  ((((Ap (Ct key j++List.replicate (208-4*j) 0)).set (32+4*j) (((Ct key j).getD (4*j) 0).toNat^^^P)).set (32+4*j+1) (((Ct key j).getD (4*j+1) 0).toNat^^^c)).set (32+4*j+2) (((Ct key j).getD (4*j+2) 0).toNat^^^d)).set (32+4*j+3) (((Ct key j).getD (4*j+3) 0).toNat^^^S)=
   Ap (Ct key (j+1)++List.replicate (208-4*(j+1)) 0):=by
 have k:=Ae1 key hk j;have f:208-4*j=208-4*(j+1)+1+1+1+1:=by omega
 have e1:Ap (Ct key j++List.replicate (208-4*j) 0)=Ap (Ct key j)++0::0::0::0::Ap (List.replicate (208-4*(j+1)) 0):=by rw[f];simp[Ap,Aai]
 rw[e1,set4 (Ap (Ct key j)) _ 0 0 0 0 _ _ _ _ (32+4*j) (by rw[Dt,k])];rw[Ct,hw];have hd:=Aow (Ct key j) (4*j) (by omega);rw[hd]
 have b:∀(a:UInt8) (P:Nat),P<256->(UInt8.ofNat P^^^a).toNat=a.toNat^^^P:=fun a P e=>by rw[UInt8.toNat_xor,UInt8.toNat_ofNat',Xz e,Nat.xor_comm]
 simp[Ap,Dh,b _ _ e,b _ _ h,b _ _ i,b _ _ g]
theorem Afe (a:By)(j:Nat)(b:a.length=32+4*j):Vd a (j+8)=[a.getD (4*j+28) 0,a.getD (4*j+29) 0,a.getD (4*j+30) 0,a.getD (4*j+31) 0]:=by
 unfold Vd;have e:4*(j+8)-4=4*j+28:=by omega
 rw[e,Aow a (4*j+28) (by omega)]
theorem Asu (a:By)(j:Nat)(b:a.length=32+4*j)(h:j%8=0):
  Ri a (j+8)=[UInt8.ofNat (Hd (a.getD (4*j+29) 0).toNat^^^Mw ((j+7)/8)),UInt8.ofNat (Hd (a.getD (4*j+30) 0).toNat),UInt8.ofNat (Hd (a.getD (4*j+31) 0).toNat),UInt8.ofNat (Hd (a.getD (4*j+28) 0).toNat)]:=by
 have e:(j+8)/8-1=(j+7)/8:=by omega
 unfold Ri;rw[if_pos (by omega),Afe a j b,e];simp[Is,Dh]
theorem Ath (a:By)(j:Nat)(b:a.length=32+4*j)(h:j%8=4):
  Ri a (j+8)=[UInt8.ofNat (Hd (a.getD (4*j+28) 0).toNat),UInt8.ofNat (Hd (a.getD (4*j+29) 0).toNat),UInt8.ofNat (Hd (a.getD (4*j+30) 0).toNat),UInt8.ofNat (Hd (a.getD (4*j+31) 0).toNat)]:=by
 unfold Ri;rw[if_neg (by omega),if_pos (by omega),Afe a j b];simp[Is]
theorem Aw9 (a:By)(j:Nat)(b:a.length=32+4*j)(h:j%8≠0)(c:j%8≠4):
  Ri a (j+8)=[UInt8.ofNat (a.getD (4*j+28) 0).toNat,UInt8.ofNat (a.getD (4*j+29) 0).toNat,UInt8.ofNat (a.getD (4*j+30) 0).toNat,UInt8.ofNat (a.getD (4*j+31) 0).toNat]:=by
 unfold Ri;rw[if_neg (by omega),if_neg (by omega),Afe a j b];simp
theorem Ay0 (j:Nat)(h:j%8=0):Hp (Mw ((j+7)/8))=Mw ((j+1+7)/8):=by
 have e:(j+1+7)/8=(j+7)/8+1:=by omega
 rw[e];show _=Ox (Mw ((j+7)/8)) 2;exact(As3 ⟨Mw ((j+7)/8),Ahk _⟩).symm
theorem Aoy (j:Nat)(h:j%8≠0):Mw ((j+7)/8)=Mw ((j+1+7)/8):=by
 have e:(j+1+7)/8=(j+7)/8:=by omega
 rw[e]
theorem Vp (a b:By)(i:Nat)(h:i<a.length):(Ap (a++b)).getD i 0=(a.getD i 0).toNat:=by rw[Ro,Ea,Ja h,<-Ea]
theorem Lm (xs:List Nat)(a b i:Nat)(h:a≠i):(xs.set a b).getD i 0=xs.getD i 0:=by rw[Ea,Ea,List.getElem?_set_ne h]
theorem A02 (key:By)(w:World)(ap:key.length=32):
  Cl 103 #[.agg (Aj .u8 Gc).toArray,.agg (Ae key).toArray] w fun x w'=>x=.returned (.agg (Ae (Fc key)).toArray)/\Bw w w':=by
 have cq:∀w,(zeroValue 162).run Tryz.prog w=.ok (.agg (Ae (List.replicate 240 0)).toArray) w:=fun _=>by kernel_rfl
 obtain⟨k,b4⟩:=nmd (List.replicate 240 (0:UInt8));rw[b4]at cq;have bg:=XM.start w 160 155 key k b4.symm ap
 have cr:∀ci,(Builtin.copy_ #[54,54] ci #[.slice (some ⟨w.heap.size+1+1+1,0,none⟩) 240 240,.slice (some ⟨w.heap.size+1,0,none⟩) 32 32]).run Tryz.prog ((((w.alloc (.cells (Aj .u8 Gc).toArray 160)).alloc (.cells (Ae key).toArray 155)).alloc (.cells (Ae k).toArray 162)).alloc (.cells (Ae k).toArray 162)).drew=.ok (goInt 32) (((((w.alloc (.cells (Aj .u8 Gc).toArray 160)).alloc (.cells (Ae key).toArray 155)).alloc (.cells (Ae k).toArray 162)).alloc (.cells (Ae k).toArray 162)).setCells (w.heap.size+1+1+1) 0 (Ae key)).drew:=fun ci=>by
  have cv:(Ae key).length=32:=by rw[Jo,ap]
  have M:((((w.alloc (.cells (Aj .u8 Gc).toArray 160)).alloc (.cells (Ae key).toArray 155)).alloc (.cells (Ae k).toArray 162)).alloc (.cells (Ae k).toArray 162)).drew.there (w.heap.size+1+1+1) 0 240:=by
   have h:=Iy (((w.alloc (.cells (Aj .u8 Gc).toArray 160)).alloc (.cells (Ae key).toArray 155)).alloc (.cells (Ae k).toArray 162)) (Ae k).toArray 162;have dy:(Ae k).toArray.size=240:=by rw[Uv,Jo,<-b4,Tu]
   have bq:(((w.alloc (.cells (Aj .u8 Gc).toArray 160)).alloc (.cells (Ae key).toArray 155)).alloc (.cells (Ae k).toArray 162)).heap.size=w.heap.size+1+1+1:=by simp
   rw[dy,bq]at h;exact h
  have c8:((((w.alloc (.cells (Aj .u8 Gc).toArray 160)).alloc (.cells (Ae key).toArray 155)).alloc (.cells (Ae k).toArray 162)).alloc (.cells (Ae k).toArray 162)).drew.rangeAt (w.heap.size+1) 0 (Ae key):=by refine Xd (c:=(Ae key).toArray) (t:=155) (fr:=(0,0)) ?_;show((((w.alloc (.cells (Aj .u8 Gc).toArray 160)).alloc (.cells (Ae key).toArray 155)).alloc (.cells (Ae k).toArray 162)).alloc (.cells (Ae k).toArray 162)).heap[w.heap.size+1]?=_;rw[Mn _ _ _ (by simp)];exact Aac w _ _ _
  have h:=run_copy_cells (P:=Tryz.prog) ((((w.alloc (.cells (Aj .u8 Gc).toArray 160)).alloc (.cells (Ae key).toArray 155)).alloc (.cells (Ae k).toArray 162)).alloc (.cells (Ae k).toArray 162)).drew 54 54 ci 5 (w.heap.size+1+1+1) 0 240 240 ⟨w.heap.size+1,0,none⟩ 32 32 (Ae key) Tryz.underlying54 (by kernel_rfl) (by rw[cv];rfl)
   (fun j v dt=>by rw[Addr.add_mid];exact c8 j v dt) (fun j bu=>(M j (by omega)).1) (fun j bu=>(M j (by omega)).2) (Za key)
  rw[cv]at h;have e:∀(x:World),x.drew.setCells (w.heap.size+1+1+1) 0 (Ae key)=(x.setCells (w.heap.size+1+1+1) 0 (Ae key)).drew:=fun x=>Akj _ _ _ x;rw[e]at h;exact h
 obtain⟨dz,ax⟩:=nmd ((Aj .u8 Gc).toArray);obtain⟨dd,az⟩:=nmd ((Ae key).toArray);rw[ax,az];rw[ax,az]at bg cr;have de:dz.size=256:=by rw[<-ax,Uv,Aj,Fi,Aaw]
 have bq:dd.size=32:=by rw[<-az];simp[Ae,ap]
 have cx:=Aa bg.drew;have cd:=Aa ap;clear bg ax az ap;go_enter Tryz.func103,Tryz.ntmps103;go_wp2_with fail
 go_region
 go_wp2_with fail
 go_loopw [6,7] (fun A i wr=>∃j:Nat,j<=52/\A=.int .u8 ((Mw ((j+7)/8):Nat):Int)/\i=.int .i64 ((32+4*j:Nat):Int)/\XM w (Ap (Ct key j++List.replicate (208-4*j) 0)) wr) (fun _ i _=>(241-intOf i).toNat)
 case atStart=>exact⟨0,by omega,rfl,rfl,cx.o⟩
 case round=>
  clear cx cq cr de bq;obtain⟨j,c5,rfl,rfl,hr⟩:=hrel;have an:=Ae1 key cd.o j;by_cases a1:j<52
  ·have K:=Aa a1;have H:Hid (∀P p o S,P<256->p<256->o<256->S<256->Ri (Ct key j) (j+8)=[UInt8.ofNat P,UInt8.ofNat p,UInt8.ofNat o,UInt8.ofNat S]->_):=fun P p o S h1 h2 db dq dw=>Ax1 key j P p o S cd.o a1 h1 h2 db dq dw;have a4:=Aa (Asu (Ct key j) j an);have ba:=Aa (Ath (Ct key j) j an);have bd:=Aa (Aw9 (Ct key j) j an);have a7:=Vp (Ct key j) (List.replicate (208-4*j) 0) (4*j+28) (by omega);have a2:=Vp (Ct key j) (List.replicate (208-4*j) 0) (4*j+29) (by omega);have bb:=Vp (Ct key j) (List.replicate (208-4*j) 0) (4*j+30) (by omega);have a6:=Vp (Ct key j) (List.replicate (208-4*j) 0) (4*j+31) (by omega);have F:=Vp (Ct key j) (List.replicate (208-4*j) 0) (4*j) (by omega);have G:=Vp (Ct key j) (List.replicate (208-4*j) 0) (4*j+1) (by omega);have I:=Vp (Ct key j) (List.replicate (208-4*j) 0) (4*j+2) (by omega);have J:=Vp (Ct key j) (List.replicate (208-4*j) 0) (4*j+3) (by omega);have b6:((Ct key j).getD (4*j+28) 0).toNat<256:=Ki _;have b9:((Ct key j).getD (4*j+29) 0).toNat<256:=Ki _;have bv:((Ct key j).getD (4*j+30) 0).toNat<256:=Ki _;have bh:((Ct key j).getD (4*j+31) 0).toNat<256:=Ki _;have cb:((Ct key j).getD (4*j) 0).toNat<256:=Ki _;have ce:((Ct key j).getD (4*j+1) 0).toNat<256:=Ki _;have bj:((Ct key j).getD (4*j+2) 0).toNat<256:=Ki _;have bi:((Ct key j).getD (4*j+3) 0).toNat<256:=Ki _;generalize((Ct key j).getD (4*j+28) 0).toNat=p0 at*;generalize((Ct key j).getD (4*j+29) 0).toNat=q0 at*;generalize((Ct key j).getD (4*j+30) 0).toNat=r0 at*;generalize((Ct key j).getD (4*j+31) 0).toNat=s0 at*;generalize((Ct key j).getD (4*j) 0).toNat=k0 at*;generalize((Ct key j).getD (4*j+1) 0).toNat=k1 at*;generalize((Ct key j).getD (4*j+2) 0).toNat=k2 at*;generalize((Ct key j).getD (4*j+3) 0).toNat=k3 at*;obtain⟨xs,b5⟩:=nmd (Ap (Ct key j++List.replicate (208-4*j) 0));obtain⟨n0,au⟩:=nmd (32+4*j);obtain⟨n1,Y⟩:=nmd (n0+1);obtain⟨n2,ao⟩:=nmd (n0+2);obtain⟨n3,ah⟩:=nmd (n0+3);obtain⟨aw,R⟩:=nmd (4*j+28);obtain⟨bc,cy⟩:=nmd (4*j+29);obtain⟨a8,c4⟩:=nmd (4*j+30);obtain⟨ay,cn⟩:=nmd (4*j+31);obtain⟨c1,ac⟩:=nmd (4*j+1);obtain⟨c2,af⟩:=nmd (4*j+2);obtain⟨c3,ai⟩:=nmd (4*j+3);obtain⟨c0,Z⟩:=nmd (4*j);simp only[b5,au,Y,ao,ah]at H;rw[b5]at hr a6 bb a2 a7 F G I J;rw[R]at a7;rw[cy]at a2;rw[c4]at bb;rw[cn]at a6;rw[Z]at F;rw[ac]at G;rw[af]at I;rw[ai]at J;have l:=Aa (Ab F (Ab G (Ab I J)));have cm:=hr.cell aw (by omega);have cz:=hr.cell bc (by omega);have cp:=hr.cell a8 (by omega);have cj:=hr.cell ay (by omega);rw[a7]at cm;rw[a2]at cz;rw[bb]at cp;rw[a6]at cj;have L:=Aa au;rw[au];have a3:(n0:Int)-4=(aw:Int):=by omega
   have cc:IntKind.i64.wrap ((n0:Int)-4)=(aw:Int):=by rw[a3];exact Iq _ (by omega)
   have a0:(n0:Int)-3=(bc:Int):=by omega
   have b1:IntKind.i64.wrap ((n0:Int)-3)=(bc:Int):=by rw[a0];exact Iq _ (by omega)
   have a9:(n0:Int)-2=(a8:Int):=by omega
   have ca:IntKind.i64.wrap ((n0:Int)-2)=(a8:Int):=by rw[a9];exact Iq _ (by omega)
   have a5:(n0:Int)-1=(ay:Int):=by omega
   have bp:IntKind.i64.wrap ((n0:Int)-1)=(ay:Int):=by rw[a5];exact Iq _ (by omega)
   have dk:(n0:Int)+1=(n1:Int):=by omega
   have bw:IntKind.i64.wrap ((n0:Int)+1)=(n1:Int):=by rw[dk];exact Iq _ (by omega)
   have dv:(n0:Int)+2=(n2:Int):=by omega
   have b2:IntKind.i64.wrap ((n0:Int)+2)=(n2:Int):=by rw[dv];exact Iq _ (by omega)
   have df:(n0:Int)+3=(n3:Int):=by omega
   have b3:IntKind.i64.wrap ((n0:Int)+3)=(n3:Int):=by rw[df];exact Iq _ (by omega)
   have dn:(n0:Int)-32=(c0:Int):=by omega
   have bm:IntKind.i64.wrap ((n0:Int)-32)=(c0:Int):=by rw[dn];exact Iq _ (by omega)
   have dj:(n1:Int)-32=(c1:Int):=by omega
   have b0:IntKind.i64.wrap ((n1:Int)-32)=(c1:Int):=by rw[dj];exact Iq _ (by omega)
   have dl:(n2:Int)-32=(c2:Int):=by omega
   have b7:IntKind.i64.wrap ((n2:Int)-32)=(c2:Int):=by rw[dl];exact Iq _ (by omega)
   have c9:(n3:Int)-32=(c3:Int):=by omega
   have bo:IntKind.i64.wrap ((n3:Int)-32)=(c3:Int):=by rw[c9];exact Iq _ (by omega)
   have d5:(n3:Int)<240:=by omega
   have l2:(n2:Int)<240:=by omega
   have l1:(n1:Int)<240:=by omega
   have d4:(n0:Int)<240:=by omega
   have bn:(aw:Int)<240:=by omega
   have bs:(bc:Int)<240:=by omega
   have bf:(a8:Int)<240:=by omega
   have cf:(ay:Int)<240:=by omega
   have d8:(c0:Int)<240:=by omega
   have d1:(c1:Int)<240:=by omega
   have d7:(c2:Int)<240:=by omega
   have d3:(c3:Int)<240:=by omega
   have be:(p0:Int)<256:=by omega
   have bk:(q0:Int)<256:=by omega
   have lr:(r0:Int)<256:=by omega
   have br:(s0:Int)<256:=by omega
   have N:=Ahk ((j+7)/8);have D:=Aa (show n0%32=4*(j%8)by omega);have c6:=Aa hr;clear a6 bb a2 a7 F G I J hr b5 an c5 a1;have d2:=Aa (Ab Y (Ab ao (Ab ah (Ab R (Ab Z (Ab ac (Ab af ai)))))));generalize ct:Mw ((j+7)/8)=A at*;have bl:=Aa ct;clear ct cn c4 cy au;go_wp2_with fail;go_quiet (fail);have a:=c6.o.drewN nq;clear c6 cj cp cz cm;generalize wr.drewN nq=wd at*;by_cases ad:j%8=0
   ·have cs:((n0:Int)%32==0)=true:=by have:=D.o;simp;omega
    have hw:=a4.o ad;have ag:=Aa (show Hp A=Mw ((j+1+7)/8)by rw[<-bl.o];exact Ay0 j ad);have bz:=a.boxAt p0 (by omega);have bt:=a.boxAt q0 (by omega);have ch:=a.boxAt r0 (by omega);have bx:=a.boxAt s0 (by omega);have dm:=Ug p0;have dx:=Ug q0;have c7:=Ug r0;have da:=Ug s0;have dp:=u8_xor_nat (Hd q0) A (by omega) N;have d6:Hd q0^^^A<256:=Ou (n:=8) (by omega) N;have T:=Aa hw;clear hw;generalize Hd q0^^^A=P at*;generalize Hd q0=sq at*;generalize Hd r0=p at*;generalize Hd s0=o at*;generalize Hd p0=S at*;have ab:=Aa a;clear a;go_wp2_with fail;go_quiet (fail);have a:=ab.o.drewN nq;clear ab bz bt ch bx dp;generalize wd.drewN nq=we at*;go_wp2_with fail;refine(Zk A _ N).mono ?_;rintro e w' ⟨rfl,rfl⟩;rw[ag.o];obtain⟨b,u⟩:=nmd (k0^^^P);obtain⟨m,y⟩:=nmd (k1^^^p);obtain⟨z,q⟩:=nmd (k2^^^o);obtain⟨E,r⟩:=nmd (k3^^^S);have C:=Aa (show(((xs.set n0 b).set n1 m).set n2 z).set n3 E=Ap (Ct key (j+1)++List.replicate (208-4*(j+1)) 0)by rw[<-u,<-y,<-q,<-r];exact H.o P p o S (by omega) (by omega) (by omega) (by omega) T.o);have aa:=a.cell c0 (by omega);rw[l.o.1]at aa;have O:=a.cell n0 (by omega);have cl:=a.row.frozen n0;have U:=u8_xor_nat k0 P (by omega) (by omega);rw[u]at U;have f:=a.set n0 b;generalize(xs).getD n0 0=F at O;have W:=f.cell c1 (by omega);rw[Lm _ _ _ _ (by omega),l.o.2.1]at W;have ae:=f.cell n1 (by omega);have cu:=f.row.frozen n1;have X:=u8_xor_nat k1 p (by omega) (by omega);rw[y]at X;have g:=f.set n1 m;generalize((xs).set n0 b).getD n1 0=G at ae;have al:=g.cell c2 (by omega);rw[Lm _ _ _ _ (by omega),Lm _ _ _ _ (by omega),l.o.2.2.1]at al;have ar:=g.cell n2 (by omega);have ck:=g.row.frozen n2;have aj:=u8_xor_nat k2 o (by omega) (by omega);rw[q]at aj;have d:=g.set n2 z;generalize(((xs).set n0 b).set n1 m).getD n2 0=I at ar;have am:=d.cell c3 (by omega);rw[Lm _ _ _ _ (by omega),Lm _ _ _ _ (by omega),Lm _ _ _ _ (by omega),l.o.2.2.2]at am;have ak:=d.cell n3 (by omega);have cw:=d.row.frozen n3;have Q:=u8_xor_nat k3 S (by omega) (by omega);rw[r]at Q;have s:=d.set n3 E;generalize((((xs).set n0 b).set n1 m).set n2 z).getD n3 0=J at ak;rw[C.o]at s;have aq:=Aa s;clear a f g d s u y q r H a4 ba bd C a3 a0 a9 a5 cc b1 ca bp bn bs bf cf bw b2 b3 bm b0 b7 bo be bk lr br bh bv b9 b6 cb ce bj bi D l Y ao ah R Z ac af ai N;go_wp2_with fail
    go_roundw
    case rel=>exact⟨j+1,by have:=K.o;omega,rfl,Pm (by have:=L.o;omega),aq.o⟩
    case measure=>have:=K.o;have:=L.o;simp[intOf];omega
   ·by_cases co:j%8=4
    ·have cs:((n0:Int)%32==0)=false:=by have:=D.o;simp;omega
     have dr:((n0:Int)%32==16)=true:=by have:=D.o;simp;omega
     have hw:=ba.o co;have ag:=Aa (show A=Mw ((j+1+7)/8)by rw[<-bl.o];exact Aoy j ad);have bz:=a.boxAt p0 (by omega);have bt:=a.boxAt q0 (by omega);have ch:=a.boxAt r0 (by omega);have bx:=a.boxAt s0 (by omega);have dm:=Ug p0;have dx:=Ug q0;have c7:=Ug r0;have da:=Ug s0;have T:=Aa hw;clear hw;generalize Hd p0=P at*;generalize Hd q0=p at*;generalize Hd r0=o at*;generalize Hd s0=S at*;have ab:=Aa a;clear a;go_wp2_with fail;go_quiet (fail);have a:=ab.o.drewN nq;clear ab bz bt ch bx;generalize wd.drewN nq=we at*;obtain⟨b,u⟩:=nmd (k0^^^P);obtain⟨m,y⟩:=nmd (k1^^^p);obtain⟨z,q⟩:=nmd (k2^^^o);obtain⟨E,r⟩:=nmd (k3^^^S);have C:=Aa (show(((xs.set n0 b).set n1 m).set n2 z).set n3 E=Ap (Ct key (j+1)++List.replicate (208-4*(j+1)) 0)by rw[<-u,<-y,<-q,<-r];exact H.o P p o S (by omega) (by omega) (by omega) (by omega) T.o);have aa:=a.cell c0 (by omega);rw[l.o.1]at aa;have O:=a.cell n0 (by omega);have cl:=a.row.frozen n0;have U:=u8_xor_nat k0 P (by omega) (by omega);rw[u]at U;have f:=a.set n0 b;generalize(xs).getD n0 0=F at O;have W:=f.cell c1 (by omega);rw[Lm _ _ _ _ (by omega),l.o.2.1]at W;have ae:=f.cell n1 (by omega);have cu:=f.row.frozen n1;have X:=u8_xor_nat k1 p (by omega) (by omega);rw[y]at X;have g:=f.set n1 m;generalize((xs).set n0 b).getD n1 0=G at ae;have al:=g.cell c2 (by omega);rw[Lm _ _ _ _ (by omega),Lm _ _ _ _ (by omega),l.o.2.2.1]at al;have ar:=g.cell n2 (by omega);have ck:=g.row.frozen n2;have aj:=u8_xor_nat k2 o (by omega) (by omega);rw[q]at aj;have d:=g.set n2 z;generalize(((xs).set n0 b).set n1 m).getD n2 0=I at ar;have am:=d.cell c3 (by omega);rw[Lm _ _ _ _ (by omega),Lm _ _ _ _ (by omega),Lm _ _ _ _ (by omega),l.o.2.2.2]at am;have ak:=d.cell n3 (by omega);have cw:=d.row.frozen n3;have Q:=u8_xor_nat k3 S (by omega) (by omega);rw[r]at Q;have s:=d.set n3 E;generalize((((xs).set n0 b).set n1 m).set n2 z).getD n3 0=J at ak;rw[C.o]at s;have aq:=Aa s;clear a f g d s u y q r H a4 ba bd C a3 a0 a9 a5 cc b1 ca bp bn bs bf cf bw b2 b3 bm b0 b7 bo be bk lr br bh bv b9 b6 cb ce bj bi D l Y ao ah R Z ac af ai N;go_wp2_with fail
     go_roundw
     case rel=>exact⟨j+1,by have:=K.o;omega,by rw[ag.o],Pm (by have:=L.o;omega),aq.o⟩
     case measure=>have:=K.o;have:=L.o;simp[intOf];omega
    ·have cs:((n0:Int)%32==0)=false:=by have:=D.o;simp;omega
     have dr:((n0:Int)%32==16)=false:=by have:=D.o;simp;omega
     have hw:=bd.o ad co;have ag:=Aa (show A=Mw ((j+1+7)/8)by rw[<-bl.o];exact Aoy j ad);have T:=Aa hw;clear hw;obtain⟨b,u⟩:=nmd (k0^^^p0);obtain⟨m,y⟩:=nmd (k1^^^q0);obtain⟨z,q⟩:=nmd (k2^^^r0);obtain⟨E,r⟩:=nmd (k3^^^s0);have C:=Aa (show(((xs.set n0 b).set n1 m).set n2 z).set n3 E=Ap (Ct key (j+1)++List.replicate (208-4*(j+1)) 0)by rw[<-u,<-y,<-q,<-r];exact H.o p0 q0 r0 s0 (by omega) (by omega) (by omega) (by omega) T.o);have aa:=a.cell c0 (by omega);rw[l.o.1]at aa;have O:=a.cell n0 (by omega);have cl:=a.row.frozen n0;have U:=u8_xor_nat k0 p0 (by omega) (by omega);rw[u]at U;have f:=a.set n0 b;generalize(xs).getD n0 0=F at O;have W:=f.cell c1 (by omega);rw[Lm _ _ _ _ (by omega),l.o.2.1]at W;have ae:=f.cell n1 (by omega);have cu:=f.row.frozen n1;have X:=u8_xor_nat k1 q0 (by omega) (by omega);rw[y]at X;have g:=f.set n1 m;generalize((xs).set n0 b).getD n1 0=G at ae;have al:=g.cell c2 (by omega);rw[Lm _ _ _ _ (by omega),Lm _ _ _ _ (by omega),l.o.2.2.1]at al;have ar:=g.cell n2 (by omega);have ck:=g.row.frozen n2;have aj:=u8_xor_nat k2 r0 (by omega) (by omega);rw[q]at aj;have d:=g.set n2 z;generalize(((xs).set n0 b).set n1 m).getD n2 0=I at ar;have am:=d.cell c3 (by omega);rw[Lm _ _ _ _ (by omega),Lm _ _ _ _ (by omega),Lm _ _ _ _ (by omega),l.o.2.2.2]at am;have ak:=d.cell n3 (by omega);have cw:=d.row.frozen n3;have Q:=u8_xor_nat k3 s0 (by omega) (by omega);rw[r]at Q;have s:=d.set n3 E;generalize((((xs).set n0 b).set n1 m).set n2 z).getD n3 0=J at ak;rw[C.o]at s;have aq:=Aa s;clear a f g d s u y q r H a4 ba bd C a3 a0 a9 a5 cc b1 ca bp bn bs bf cf bw b2 b3 bm b0 b7 bo be bk lr br bh bv b9 b6 cb ce bj bi D l Y ao ah R Z ac af ai N;go_wp2_with fail
     go_roundw
     case rel=>exact⟨j+1,by have:=K.o;omega,by rw[ag.o],Pm (by have:=L.o;omega),aq.o⟩
     case measure=>have:=K.o;have:=L.o;simp[intOf];omega
  ·have bu:j=52:=by omega
   subst bu;have e1:Ct key 52++List.replicate (208-4*52) 0=Fc key:=by simp[Fc]
   rw[e1]at hr;have b8:=Ta hr.row;rw[Dw]at b8;have M:=hr.res;have av:(Ae (Fc key)).length=240:=by rw[Jo];exact Acn key cd.o
   have hb:=hr.bel;have dc:=Za (Fc key);generalize d0:Ae (Fc key)=V at*;have cg:=Aa (show(Tryz.prog.info? 162).map (·.size)=some V.length from by rw[av];kernel_rfl);have dg:Bw w (wr.setCells (w.heap.size+1+1) 0 V):=hb.trans (Ec wr w.heap.size _ 0 V (by omega));have dh:=Oq wr (w.heap.size+1+1) 0 V (by rw[av];exact M);have du:=Aa av;have di:=Aa b8;have ds:=Aa M;clear av hr a1 c5 an e1 b8 M;simp only[show((32+4*52:Nat):Int)=240 from rfl];go_wp2_with (first|refine wpList_load_mid rfl 162 _ rfl (w.heap.size+1+1+1) 0 rfl V _ di.o Tryz.underlying162 rfl cg.o ?_|refine wpList_store_mid rfl 162 _ _ rfl (w.heap.size+1+1) 0 V.toArray rfl rfl (by simpa [du.o]using ds.o) (by simpa using cg.o) (all_oneCell_toArray dc) ?_);exact bodyPost_ret (v:=.agg V.toArray) (Mf Tryz.results103 _ _ (w.heap.size+1+1) 0 V _ rfl dh Tryz.underlying162 rfl cg.o) rfl ⟨by rw[d0],dg⟩
def Rp (rk b a t:By):By:=Fk rk b 2 t++Mp rk b a (Fk rk b 2 t)
theorem A1p (c:Nat)(rk b a t:By)(w:World)(hk:Eh w c rk)(ha:a.length<=4096)(m:t.length<=4096):
  Cl 143 #[.pointer (some ⟨c,0,none⟩),.string ⟨b.toArray⟩,.string ⟨a.toArray⟩,.string ⟨t.toArray⟩] w fun x w'=>x=.returned (.string ⟨(Rp rk (Ar b 12) a t).toArray⟩)/\Bw w w':=by
 have q:=Aa1 rk (Ar b 12) hk.len (Jm b 12) 2 t;have f:=Aja c rk b t w hk m;have h:Rp rk (Ar b 12) a t=Fk rk (Ar b 12) 2 t++Mp rk (Ar b 12) a (Fk rk (Ar b 12) 2 t):=rfl;rw[h];generalize Fk rk (Ar b 12) 2 t=C at*;have o:=Ah5 rk (Ar b 12) a C;have g:=fun w hk=>Aqu c rk b a C w hk ha (by omega);have p:=fun w=>Xo C (Mp rk (Ar b 12) a C) (by omega) w;generalize Mp rk (Ar b 12) a C=T at*;have i:=Aa f;have k:=Aa g;clear h f g;generalize n:C++T=CT at*;clear n;go_enter Tryz.func143,Tryz.ntmps143;go_wp2_with fail;refine i.o.mono ?_;rintro e w1 ⟨rfl,d⟩;have l:=hk.below d hk.lt;go_wp2_with fail;refine(k.o w1 l).mono ?_;rintro e w2 ⟨rfl,j⟩;go_wp2_with fail;go_ret;exact⟨rfl,d.trans (j.mono d.size)⟩
theorem Atk (d:Nat)(rk b a c g:By)(w:World)(hk:Eh w d rk)(ha:a.length<=4096)(s:c.length<=4096)(q:g.length=16):
  Cl 126 #[.pointer (some ⟨d,0,none⟩),.string ⟨b.toArray⟩,.string ⟨a.toArray⟩,.string ⟨(c++g).toArray⟩] w fun x w'=>x=.returned (if Mp rk (Ar b 12) a c=g then .tuple #[.string ⟨(Fk rk (Ar b 12) 2 c).toArray⟩,.bool true]else .tuple #[.string ⟨#[]⟩,.bool false])/\Bw w w':=by
 obtain⟨n,i⟩:=nmd (c.length);obtain⟨m,r⟩:=nmd (n+16);have J:(ByteArray.mk (c++g).toArray).size=m:=by simp[ByteArray.size,i,q,r]
 have L:(ByteArray.mk (c++g).toArray).extract 0 n=⟨c.toArray⟩:=by rw[ByteArray.extract_mk,List.drop_zero,Nat.sub_zero,List.take_left' i]
 have N:(ByteArray.mk (c++g).toArray).extract n m=⟨g.toArray⟩:=by rw[ByteArray.extract_mk,List.drop_left' i,Du (by omega)]
 have v:=Ah5 rk (Ar b 12) a c;have p:=Aqu d rk b a c w hk ha s;have o:=fun w hk=>Aja d rk b c w hk s;generalize F:Mp rk (Ar b 12) a c=T at*;generalize A:Fk rk (Ar b 12) 2 c=C at*;have P:(m:Int)<=4112:=by omega
 have K:¬(m:Int)<16:=by omega
 have I:(m:Int)-16=(n:Int):=by omega
 have M:(n:Int)<=(m:Int):=by omega
 have O:n<=m:=by omega
 have z:=Aa p;have u:=Aa o;have E:=Aa (fun w=>Atg T g w v q);generalize c++g=D at*;clear F A p o i r;go_enter Tryz.func126,Tryz.ntmps126;go_wp2_with fail;refine z.o.mono ?_;rintro e w1 ⟨rfl,j⟩;have k:=hk.below j hk.lt;go_wp2_with fail;refine(E.o w1).mono ?_;rintro e w2 ⟨rfl,nn,rfl⟩;have G:Eh (w1.drewN nn) d rk:=⟨⟨k.cells.lt,k.cells.at_⟩,k.len⟩;have l:=Bp j nn;generalize w1.drewN nn=w3 at*;by_cases h:T=g
 ·subst h;have f:decide (T=T)=true:=by simp
  rw[f];clear f j;go_wp2_with fail;refine(u.o w3 G).mono ?_;rintro e H ⟨rfl,y⟩;go_wp2_with fail;go_ret2;exact⟨by first|rfl|(rw[if_pos rfl];rfl),l.trans (y.mono l.size)⟩
 ·have f:decide (T=g)=false:=by simp[h]
  rw[f];have t:=Aa h;clear f h j;go_wp2_with fail;go_ret2;exact⟨by first|rfl|(rw[if_neg t.o];rfl)|(simp[t.o]),l⟩
def Gq:By:=[83,69,65,76]
def Fn (salt:By)(v p:Nat)(d:By):By:=Gq++salt++Af v 8++Af p 1++Ar d 32
def Ci (tk salt:By)(v p:Nat)(d:By):By:=Ar (Fn salt v p d++Jk tk (Fn salt v p d)) 256
def Ll (s n:Nat):By:=Af s 8++Af n 4
def Iv (rk:By)(s n p:Nat)(t:By):By:=Ll s n++Rp rk (Ll s n) (Af p 1) t
def Pi (pass salt:By):By:=Su (Af pass.length 1++pass) salt 3 64
def Bn (pass salt:By):By:=(Pi pass salt).take 32
def Ge (pass salt:By):By:=(Pi pass salt).drop 32
structure Gp where
 key:By
 value:By
 place:Nat
 digest:By
def Dl (leaf:Bool)(e:Gp):By:=Af e.key.length 1++e.key++(if leaf then Af e.value.length 1++e.value else Af e.place 1++e.digest)
def Fm (leaf:Bool)(es:List Gp):By:=Ar (Af (if leaf then 1 else 2) 1++Af es.length 1++es.flatMap (Dl leaf)) 228
theorem Oj (tk salt:By)(v p:Nat)(d:By):(Ci tk salt v p d).length=256:=Jm _ _
theorem Ac7 (s n:Nat):(Ll s n).length=12:=by simp[Ll,Cb]
theorem Afq (leaf:Bool)(es:List Gp):(Fm leaf es).length=228:=Jm _ _
theorem Ai1 (rk b a t:By)(hr:rk.length=240)(c:b.length=12):(Rp rk b a t).length=t.length+16:=by unfold Rp;rw[Bb,Aa1 rk b hr c,Ah5]
theorem Aud (rk:By)(s n p:Nat)(t:By)(hr:rk.length=240):(Iv rk s n p t).length=t.length+28:=by unfold Iv;rw[Bb,Ac7,Ai1 rk _ _ t hr (Ac7 s n)];omega
theorem A1h (n j:Nat):Af n (j+1)=UInt8.ofNat (n/256^j%256)::Af n j:=by have h:=Aoj j 1 n;rw[Nat.add_comm 1 j]at h;rw[h];rfl
theorem Aet (t:By)(n:Nat)(h:t.length<=n):Ar t n=t++List.replicate (n-t.length) 0:=by unfold Ar;rw[Du h]
theorem Zb (n:Nat):Af n 1=[UInt8.ofNat n]:=by
 show [UInt8.ofNat (n%256)]=_
 congr 1
 apply UInt8.toNat_inj.1;simp
def Lt (a b:By):Prop:=Op.bytesLess a b=true
instance (a b:By):Decidable (Lt a b):=inferInstanceAs (Decidable (_=true))
theorem Lt.irrefl:∀a:By,¬Lt a a
 | []=>by simp[Lt,Op.bytesLess]
 |x::a=>by have:=Lt.irrefl a;simp only[Lt,Op.bytesLess,Bool.or_eq_true,Qw,decide_eq_true_eq,beq_self_eq_true,true_and,not_or]at this⊢;exact⟨fun h=>by have:=Qr.1 h;omega,this⟩
theorem Lt.trans:∀ {a b c:By},Lt a b->Lt b c->Lt a c
 |_,[],_,h,_=>by simp[Lt,Op.bytesLess]at h
 |_,_::_,[],_,h=>by simp[Lt,Op.bytesLess]at h
 | [],_::_,_::_,_,_=>by simp[Lt,Op.bytesLess]
 |x::a,y::b,z::c,h,k=>by
  simp only[Lt,Op.bytesLess,Bool.or_eq_true,Qw,decide_eq_true_eq,beq_iff_eq]at h k⊢;rcases h with h|⟨rfl,h⟩
  ·rcases k with k|⟨rfl,k⟩
   ·left;have:=Qr.1 h;have:=Qr.1 k;exact Qr.2 (by omega)
   ·exact .inl h
  ·rcases k with k|⟨rfl,k⟩
   ·exact .inl k
   ·exact .inr ⟨rfl,Lt.trans (a:=a) (b:=b) (c:=c) h k⟩
theorem Lt.tri:∀a b:By,Lt a b\/a=b\/Lt b a
 | [],[]=>.inr (.inl rfl)
 | [],_::_=>.inl rfl
 |_::_,[]=>.inr (.inr rfl)
 |x::a,y::b=>by
  simp only[Lt,Op.bytesLess,Bool.or_eq_true,Qw,decide_eq_true_eq,beq_iff_eq];rcases Nat.lt_trichotomy x.toNat y.toNat with h|h|h
  ·exact .inl (.inl (Qr.2 h))
  ·obtain rfl:x=y:=UInt8.toNat_inj.1 h;rcases Lt.tri a b with g|rfl|g
   ·exact .inl (.inr ⟨rfl,g⟩)
   ·exact .inr (.inl rfl)
   ·exact .inr (.inr (.inr ⟨rfl,g⟩))
  ·exact .inr (.inr (.inl (Qr.2 h)))
theorem Lt.asymm {a b:By}(h:Lt a b):¬Lt b a:=fun k=>Lt.irrefl a (h.trans k)
theorem Lt.ne {a b:By}(h:Lt a b):a≠b:=by rintro rfl;exact Lt.irrefl a h
theorem Ad4 {a b:By}:¬Lt a b↔a=b\/Lt b a:=by
 constructor
 ·intro h;rcases Lt.tri a b with g|g|g
  ·exact absurd g h
  ·exact .inl g
  ·exact .inr g
 ·rintro(rfl|h)
  ·exact Lt.irrefl a
  ·exact h.asymm
theorem Ad8 {a b c:By}(h:Lt a b)(k:¬Lt c b):Lt a c:=by
 rcases Ad4.1 k with rfl|g
 ·exact h
 ·exact h.trans g
abbrev PL:=List (By×By)
def Ba (l:PL):Prop:=l.Pairwise fun a b=>Lt a.1 b.1
def Eb (k s:By):PL->PL
 | []=>[(k,s)]
 |e::l=>if Lt e.1 k then e::Eb k s l else if e.1=k then(k,s)::l else(k,s)::e::l
def Gw (k:By)(l:PL):PL:=l.filter fun e=>decide (e.1≠k)
theorem Aip {k s:By}:∀ {l:PL} {e:By×By},e∈Eb k s l->e=(k,s)\/e∈l
 | [],e,h=>by simp[Eb]at h;exact .inl h
 |a::l,e,h=>by
  unfold Eb at h;split at h
  ·rcases Al.1 h with rfl|h
   ·exact .inr (by simp)
   ·exact(Aip h).imp id (fun h=>Nb _ h)
  ·split at h
   ·rcases Al.1 h with rfl|h
    ·exact .inl rfl
    ·exact .inr (Nb _ h)
   ·rcases Al.1 h with rfl|h
    ·exact .inl rfl
    ·exact .inr h
theorem Agg {k s:By}:∀ {l:PL},Ba l->Ba (Eb k s l)
 | [],_=>by simp[Eb,Ba]
 |a::l,h=>by
  obtain⟨h1,h2⟩:=Er.1 h;unfold Eb;split
  ·rename_i f;refine Er.2 ⟨fun e b=>?_,Agg h2⟩;rcases Aip b with rfl|b
   ·exact f
   ·exact h1 e b
  ·split
   ·rename_i b;subst b;exact Er.2 ⟨h1,h2⟩
   ·rename_i d c
    have hk:Lt k a.1:=by
     rcases Lt.tri a.1 k with g|g|g
     ·exact absurd g d
     ·exact absurd g c
     ·exact g
    exact Er.2 ⟨fun e b=>by
     rcases Al.1 b with rfl|b
     ·exact hk
     ·exact hk.trans (h1 e b),h⟩
theorem Acr {k s:By}:∀ {A B:PL},(∀e∈A,Lt e.1 k)->Eb k s (A++B)=A++Eb k s B
 | [],_,_=>rfl
 |a::A,B,h=>by have:=Acr (k:=k) (s:=s) (A:=A) (B:=B) (fun e b=>h e (by simp[b]));rw[Qv,Eb,if_pos (h a (by simp)),this];rfl
theorem Amt {k s:By}:∀ {B C:PL},(∀e∈C,Lt k e.1)->Eb k s (B++C)=Eb k s B++C
 | [],[],_=>rfl
 | [],c::C,h=>by have a:=h c (by simp);show Eb k s (c::C)=(k,s)::c::C;unfold Eb;rw[if_neg a.asymm,if_neg (fun e=>a.ne e.symm)]
 |b::B,C,h=>by
  have ih:=Amt (k:=k) (s:=s) (B:=B) (C:=C) h;rw[Qv];unfold Eb;split
  ·rw[ih];rfl
  ·split<;>rfl
theorem Aw3 {k:By}{l:PL}(h:Ba l):Ba (Gw k l):=h.filter _
theorem Aa8 (k:By)(A B:PL):Gw k (A++B)=Gw k A++Gw k B:=by simp[Gw]
theorem Uj {k:By}{l:PL}(h:∀e∈l,e.1≠k):Gw k l=l:=by unfold Gw;rw[List.filter_eq_self];intro e a;simpa using h e a
theorem Yi (k s:By):∀l:PL,l.length<=(Eb k s l).length/\(Eb k s l).length<=l.length+1
 | []=>by simp[Eb]
 |a::l=>by
  have:=Yi k s l;unfold Eb;split
  ·simp;omega
  ·split<;>simp
structure Es (α:Type) where
 place:Nat
 dig:By
 es:List (By×α)
@[reducible] def Kz:Nat->Type
 |0=>By
 |h+1=>Es (Kz h)
abbrev Nd (h:Nat):=Es (Kz h)
def Es.least {α:Type}(t:Es α):By:=match t.es with| []=>[]|e::_=>e.1
def Be {α:Type}(es:List (By×α)):List By:=es.map Prod.fst
def Dk (k:By)(a:List By):Nat:=(a.tail.takeWhile fun x=> !Op.bytesLess k x).length
def Bx (k:By)(a:List By):Nat:=(a.takeWhile fun x=>Op.bytesLess x k).length
def Ft {α:Type}(t:Es α):Es α×Option (Es α):=
 if t.es.length<=5 then(t,none)else(⟨t.place,t.dig,t.es.take (t.es.length/2)⟩,some ⟨0,[],t.es.drop (t.es.length/2)⟩)
def Zu {h:Nat}(es:List (By×Nd h))(i:Nat)(r:Nd h×Option (Nd h)):List (By×Nd h):=
 match r.2 with
 |none=>es.set i (r.1.least,r.1)
 |some q=>(es.set i (r.1.least,r.1)).take (i+1)++(q.least,q)::(es.set i (r.1.least,r.1)).drop (i+1)
def Cc (k s:By):(h:Nat)->Nd h->Nd h×Option (Nd h)
 |0,t=>Ft ⟨0,[],Eb k s t.es⟩
 |h+1,t=>
  match t.es[Dk k (Be t.es)]? with
  |none=>(t,none)
  |some e=>Ft ⟨0,[],Zu t.es (Dk k (Be t.es)) (Cc k s h e.2)⟩
def flat:(h:Nat)->Nd h->PL
 |0,t=>t.es
 |h+1,t=>t.es.flatMap fun e=>flat h e.2
def Wf:(h:Nat)->Nd h->Prop
 |0,t=>∀e∈t.es,1<=e.1.length/\e.1.length<=8/\e.2.length<=16
 |h+1,t=>∀e∈t.es,Wf h e.2/\2<=e.2.es.length/\e.2.es.length<=5/\e.1=e.2.least
theorem Amf:∀(h:Nat) (t:Nd h),Wf h t->t.es≠[]->flat h t≠[]
 |0,t,_,h=>h
 |h+1,t,hw,hn=>by
  obtain⟨e,l,a⟩:=Xt hn;have b:e∈t.es:=by rw[a];simp
  have:=Amf h e.2 (hw e b).1 (fun g=>by have:=(hw e b).2.1;rw[g]at this;simp at this);intro g;rw[flat,a,Da]at g;exact this (List.append_eq_nil_iff.1 g).1
theorem Abp:∀(h:Nat) (t:Nd h),Wf h t->t.es≠[]->∃e l,flat h t=e::l/\e.1=t.least
 |0,t,_,hn=>by obtain⟨e,l,a⟩:=Xt hn;exact⟨e,l,a,by unfold Es.least;rw[a]⟩
 |h+1,t,hw,hn=>by
  obtain⟨c,l,a⟩:=Xt hn;have d:c∈t.es:=by rw[a];simp
  have b:=hw c d;obtain⟨e,r,h1,h2⟩:=Abp h c.2 b.1 (fun g=>by have:=b.2.1;rw[g]at this;simp at this);refine⟨e,r++l.flatMap fun e=>flat h e.2,?_,?_⟩
  ·rw[flat,a,Da,h1];rfl
  ·rw[h2,<-b.2.2.2];unfold Es.least;rw[a]
theorem Anp (h:Nat)(t:Nd h)(hw:Wf h t)(a:t.es≠[]):∃e∈flat h t,e.1=t.least:=by obtain⟨e,l,h1,h2⟩:=Abp h t hw a;exact⟨e,by rw[h1];simp,h2⟩
theorem Avv (h:Nat)(t:Nd h)(hw:Wf h t)(c:t.es≠[])(ha:Ba (flat h t)){e:By×By}(b:e∈flat h t):¬Lt e.1 t.least:=by
 obtain⟨a,l,h1,h2⟩:=Abp h t hw c;rw[h1]at b ha;rw[<-h2];rcases Al.1 b with rfl|b
 ·exact Lt.irrefl _
 ·exact((Er.1 ha).1 e b).asymm
def Vc (e:By×By):Prop:=1<=e.1.length/\e.1.length<=8/\e.2.length<=16
theorem Tc (k:By)(h:Nat)(t:Nd (h+1))(hw:Wf (h+1) t)(L:t.es≠[])(ha:Ba (flat (h+1) t)):
  ∃A e B,t.es=A++e::B/\A.length=Dk k (Be t.es)/\(∀x∈A.flatMap (fun e=>flat h e.2),Lt x.1 k)/\(∀x∈B.flatMap (fun e=>flat h e.2),Lt k x.1):=by
 obtain⟨e0,l,j⟩:=Xt L;have hk:Dk k (Be t.es)=((Be l).takeWhile fun x=> !Op.bytesLess k x).length:=by unfold Dk;rw[j];rfl
 obtain⟨q,z⟩:=nmd (((Be l).takeWhile fun x=> !Op.bytesLess k x).length)
 have S:q<=l.length:=by rw[<-z];have:=(List.takeWhile_sublist (l:=Be l) (fun x=> !Op.bytesLess k x)).length_le;simpa [Be]using this
 have v:q<t.es.length:=by rw[j];simp;omega
 have D:t.es=t.es.take q++t.es[q]::t.es.drop (q+1):=by rw[<-Kh v,Jb]
 have G:∀i (d:i<t.es.length),1<=i->i<=q->¬Lt k (t.es[i]).1:=by
  intro i d h1 h2
  have F:(Be l)[i-1]?=some (t.es[i]).1:=by
   have:l[i-1]?=t.es[i]?:=by
    rw[j]
    cases i with
    |zero=>omega
    |succ i=>simp
   unfold Be;rw[Fq,this,Az d];rfl
  have I:∀x∈(Be l).takeWhile (fun x=> !Op.bytesLess k x),(!Op.bytesLess k x)=true:=fun x b=>List.all_takeWhile (p:=fun x=> !Op.bytesLess k x)|>fun h=>(Ya.1 h) x b
  have O:(t.es[i]).1∈(Be l).takeWhile (fun x=> !Op.bytesLess k x):=by
   have R:=List.takeWhile_prefix (l:=Be l) (fun x=> !Op.bytesLess k x);obtain⟨r,hr⟩:=R;have P:i-1<((Be l).takeWhile (fun x=> !Op.bytesLess k x)).length:=by omega
   have:((Be l).takeWhile (fun x=> !Op.bytesLess k x))[i-1]?=some (t.es[i]).1:=by
    rw[<-F]
    conv=>rhs;rw[<-hr]
    rw[Ja P]
   exact Hs this
  have:=I _ O;intro g;rw[Lt]at g;rw[g]at this;simp at this
 have J:∀(d:q+1<t.es.length),Lt k (t.es[q+1]).1:=by
  intro d;have hd:=List.head?_dropWhile_not (fun x=> !Op.bytesLess k x) (Be l)
  have K:(Be l).dropWhile (fun x=> !Op.bytesLess k x)=(Be l).drop q:=by
   have e:=Aes (p:=fun x=> !Op.bytesLess k x) (l:=Be l)
   have:((Be l).takeWhile (fun x=> !Op.bytesLess k x)++(Be l).dropWhile (fun x=> !Op.bytesLess k x)).drop q=(Be l).dropWhile (fun x=> !Op.bytesLess k x):=by rw[Oo (by omega),Io (by omega),Hu]
   rw[<-this,e]
  rw[K]at hd
  have hh:((Be l).drop q).head?=some (t.es[q+1]).1:=by
   rw[List.head?_drop];unfold Be;have:l[q]?=t.es[q+1]?:=by rw[j];simp
   rw[Fq,this,Az d];rfl
  rw[hh]at hd;simpa [Lt]using hd
 have y:flat (h+1) t=(t.es.take q).flatMap (fun e=>flat h e.2)++(flat h (t.es[q]).2++(t.es.drop (q+1)).flatMap (fun e=>flat h e.2)):=by
  show t.es.flatMap _=_
  conv=>lhs;rw[D]
  rw[Gh,Da]
 have s:t.es[q]∈t.es:=List.getElem_mem v;have w:∀c∈t.es,c.2.es≠[]:=fun c Q g=>by have:=(hw c Q).2.1;rw[g]at this;simp at this
 refine⟨t.es.take q,t.es[q],t.es.drop (q+1),D,by rw[hk,z,Fr];omega,fun x b=>?_,fun x b=>?_⟩
 ·--x lies in a child ahead:below the q-th child's least key
  have N:1<=q:=by
   rcases Nat.eq_zero_or_pos q with g|g
   ·rw[g]at b;simp at b
   ·exact g
  rw[y]at ha;obtain⟨_,_,H⟩:=Dc.1 ha;obtain⟨u,hy,n⟩:=Anp h (t.es[q]).2 (hw _ s).1 (w _ s);have h1:=H x b u (by simp[hy]);rw[n,<-(hw _ s).2.2.2]at h1;exact Ad8 h1 (G q v N (Ak _))
 ·have m:q+1<t.es.length:=by
   rcases Hv (q+1) t.es.length with g|g
   ·exact g
   ·rw[Io g]at b;simp at b
  have f:t.es[q+1]∈t.es:=List.getElem_mem m;rw[y]at ha;have C:=(Dc.1 ((Dc.1 ha).2.1)).2.1;rw[Kh m,Da]at b C;have o:=J m;obtain⟨E,T,M⟩:=Dc.1 C;rw[(hw _ f).2.2.2]at o;rcases As.1 b with b|b
  ·exact Ad8 o (Avv h _ (hw _ f).1 (w _ f) E b)
  ·obtain⟨u,hy,n⟩:=Anp h (t.es[q+1]).2 (hw _ f).1 (w _ f);have:=M u hy x b;rw[n]at this;exact o.trans this
def Us (h:Nat)(c:Nd h):Prop:=Wf h c/\2<=c.es.length/\c.es.length<=5
theorem Us.ne {h:Nat}{c:Nd h}(a:Us h c):c.es≠[]:=fun g=>by have:=a.2.1;rw[g]at this;simp at this
theorem Gg {h:Nat}{t:Nd (h+1)}:Wf (h+1) t↔ ∀e∈t.es,Us h e.2/\e.1=e.2.least:=
 ⟨fun hw e a=>⟨⟨(hw e a).1,(hw e a).2.1,(hw e a).2.2.1⟩,(hw e a).2.2.2⟩,fun hw e a=>⟨(hw e a).1.1,(hw e a).1.2.1,(hw e a).1.2.2,(hw e a).2⟩⟩
theorem Nj {α:Type}(A B:List α)(e x:α):(A++e::B).set A.length x=A++x::B:=by simp
theorem Azh {α:Type}(A B:List α)(e:α):(A++e::B)[A.length]?=some e:=by simp
theorem Ahj {h:Nat}(A B:List (By×Nd h))(e:By×Nd h)(r:Nd h×Option (Nd h)):Zu (A++e::B) A.length r=A++(r.1.least,r.1)::(match r.2 with|none=>B|some q=>(q.least,q)::B):=by
 unfold Zu
 cases r.2 with
 |none=>simp only[Nj]
 |some q=>
  simp only[Nj];have h1:A++(r.1.least,r.1)::B=(A++[(r.1.least,r.1)])++B:=by simp
  have h2:A.length+1=(A++[(r.1.least,r.1)]).length:=by simp
  rw[h1,h2,List.take_left,List.drop_left];simp
theorem Aqf {h:Nat}(t:Nd h)(hw:Wf h t):Wf h (Ft t).1/\∀q,(Ft t).2=some q->Wf h q:=by
 unfold Ft;split
 ·exact⟨hw,fun q h=>by cases h⟩
 ·cases h with
  |zero=>exact⟨fun e a=>hw e (Nc a),fun q b=>by cases b;exact fun e a=>hw e (Qs a)⟩
  |succ h=>exact⟨fun e a=>hw e (Nc a),fun q b=>by cases b;exact fun e a=>hw e (Qs a)⟩
theorem Agy (h:Nat)(p q:Nat)(d e:By)(es:List (By×Kz h))(n:Nat):flat h ⟨p,d,es.take n⟩++flat h ⟨q,e,es.drop n⟩=flat h ⟨p,d,es⟩:=by
 cases h with
 |zero=>exact Jb n es
 |succ h=>show(es.take n).flatMap _++(es.drop n).flatMap _=es.flatMap _;rw[<-Gh,Jb]
def Xc (h:Nat):Option (Nd h)->PL
 |none=>[]
 |some q=>flat h q
theorem Ami {h:Nat}(t:Nd h):flat h (Ft t).1++Xc h (Ft t).2=flat h t:=by
 unfold Ft;split
 ·simp[Xc]
 ·exact Agy h _ _ _ _ _ _
structure Asa (h:Nat)(t:Nd h)(k s:By)(r:Nd h×Option (Nd h)):Prop where
 w1:Wf h r.1
 w2:∀q,r.2=some q->Wf h q
 fl:flat h r.1++Xc h r.2=Eb k s (flat h t)
 l1:r.2=none->t.es.length<=r.1.es.length/\r.1.es.length<=5/\1<=r.1.es.length
 l2:∀q,r.2=some q->r.1.es.length=3/\q.es.length=3
theorem Ap9 {h:Nat}(t:Nd h)(n:Nat)(h1:n<=t.es.length)(h2:t.es.length<=6)(h0:1<=t.es.length):((Ft t).2=none->n<=(Ft t).1.es.length/\(Ft t).1.es.length<=5/\1<=(Ft t).1.es.length)/\(∀q,(Ft t).2=some q->(Ft t).1.es.length=3/\q.es.length=3):=by
 unfold Ft;split
 ·exact⟨fun _=>⟨h1,by assumption,h0⟩,fun q h=>by cases h⟩
 ·exact⟨(fun h=>by cases h),fun q a=>by cases a;simp only[Fr,Nw];omega⟩
theorem Ahq (k s:By)(o:Vc (k,s)):∀(h:Nat) (t:Nd h),Wf h t->Ba (flat h t)->t.es≠[]->t.es.length<=5->Asa h t k s (Cc k s h t)
 |0,t,hw,ha,hn,h5=>by
  have w:Wf 0 ⟨0,[],Eb k s t.es⟩:=fun e m=>by
   rcases Aip m with rfl|m
   ·exact o
   ·exact hw e m
  have v:=Yi k s t.es;have f:=Ap9 (h:=0) ⟨0,[],Eb k s t.es⟩ t.es.length v.1 (by show(Eb k s t.es).length<=6;omega) (by have:=Pn.2 hn;show 1<=(Eb k s t.es).length;omega);have i:=Aqf (h:=0) ⟨0,[],Eb k s t.es⟩ w;exact⟨i.1,i.2,Ami (h:=0) _,f.1,f.2⟩
 |h+1,t,hw,ha,hn,h5=>by
  obtain⟨A,e,B,a,y,E,F⟩:=Tc k h t hw hn ha;have d:=Gg.1 hw;have D:e∈t.es:=by rw[a];simp
  have j:=(d e D).1
  have p:flat (h+1) t=A.flatMap (fun e=>flat h e.2)++(flat h e.2++B.flatMap (fun e=>flat h e.2)):=by show t.es.flatMap _=_;rw[a,Gh,Da]
  have H:Ba (flat h e.2):=by rw[p]at ha;exact(Dc.1 (Dc.1 ha).2.1).1
  have ih:=Ahq k s o h e.2 j.1 H j.ne j.2.2
  have n:Cc k s (h+1) t=Ft ⟨0,[],A++((Cc k s h e.2).1.least,(Cc k s h e.2).1)::(match (Cc k s h e.2).2 with|none=>B|some q=>(q.least,q)::B)⟩:=by
   rw[Cc,<-y]
   conv=>lhs;rw[a,Azh]
   simp only;rw[Ahj]
  obtain⟨r,hr⟩:=nmd (Cc k s h e.2);rw[hr]at ih n;have I:A.length+1+B.length<=5:=by rw[a]at h5;simp at h5;omega
  obtain⟨N,l⟩:∃N:List (By×Nd h),(A++(r.1.least,r.1)::(match r.2 with|none=>B|some q=>(q.least,q)::B))=N:=⟨_,rfl⟩;rw[l]at n
  have z:Wf (h+1) ⟨0,[],N⟩:=by
   refine Gg.2 fun x G=>?_;have b:x∈N:=G;rw[<-l]at b
   cases c:r.2 with
   |none=>
    rw[c]at b;simp only[As,Al]at b;rcases b with g|rfl|g
    ·exact d x (by rw[a];simp[g])
    ·exact⟨⟨ih.w1,by show 2<=r.1.es.length;have:=ih.l1 c;have:=j.2.1;omega,(ih.l1 c).2.1⟩,rfl⟩
    ·exact d x (by rw[a];simp[g])
   |some q=>
    rw[c]at b;simp only[As,Al]at b;have v:=ih.l2 q c;rcases b with g|rfl|rfl|g
    ·exact d x (by rw[a];simp[g])
    ·exact⟨⟨ih.w1,by show 2<=r.1.es.length;omega,by show r.1.es.length<=5;omega⟩,rfl⟩
    ·exact⟨⟨ih.w2 q c,by show 2<=q.es.length;omega,by show q.es.length<=5;omega⟩,rfl⟩
    ·exact d x (by rw[a];simp[g])
  have C:flat (h+1) ⟨0,[],N⟩=Eb k s (flat (h+1) t):=by
   rw[p,Acr E,Amt F,<-ih.fl];show N.flatMap _=_;rw[<-l]
   cases c:r.2 with
   |none=>simp[Xc]
   |some q=>simp[Xc]
  have u:t.es.length<=N.length/\N.length<=6:=by rw[<-l,a];cases r.2<;>simp<;>omega
  have J:=Pn.2 hn;have f:=Ap9 (h:=h+1) ⟨0,[],N⟩ t.es.length u.1 u.2 (by show 1<=N.length;omega);have i:=Aqf (h:=h+1) ⟨0,[],N⟩ z;rw[n];exact⟨i.1,i.2,(Ami (h:=h+1) _).trans C,f.1,f.2⟩
def Hg {α:Type}(l r:Es α)(a:Bool):List (By×Es α):=
 if l.es.length+r.es.length<=5 then [((⟨0,[],l.es++r.es⟩:Es α).least,⟨0,[],l.es++r.es⟩)]
 else if a then [((⟨0,[],l.es++r.es.take 1⟩:Es α).least,⟨0,[],l.es++r.es.take 1⟩),((⟨0,[],r.es.drop 1⟩:Es α).least,⟨0,[],r.es.drop 1⟩)]
 else [((⟨0,[],l.es.take (l.es.length-1)⟩:Es α).least,⟨0,[],l.es.take (l.es.length-1)⟩),((⟨0,[],l.es.drop (l.es.length-1)++r.es⟩:Es α).least,⟨0,[],l.es.drop (l.es.length-1)++r.es⟩)]
def Jp {α:Type}(es:List α)(i:Nat):Nat:=if i+1=es.length then i-1 else i
def Ti {α:Type}(es:List (By×Es α))(i:Nat):List (By×Es α):=
 match es[Jp es i]?,es[Jp es i+1]? with
 |some l,some r=>es.take (Jp es i)++(Hg l.2 r.2 (Jp es i==i)++es.drop (Jp es i+2))
 |_,_=>es
def Dd (k:By):(h:Nat)->Nd h->Option (Nd h)
 |0,t=>
  match t.es[Bx k (Be t.es)]? with
  |none=>none
  |some e=>if e.1=k then some ⟨0,[],t.es.take (Bx k (Be t.es))++t.es.drop (Bx k (Be t.es)+1)⟩else none
 |h+1,t=>
  match t.es[Dk k (Be t.es)]? with
  |none=>none
  |some e=>
   match Dd k h e.2 with
   |none=>none
   |some c=>some ⟨0,[],if c.es.length<2 then Ti (t.es.set (Dk k (Be t.es)) (e.1,c)) (Dk k (Be t.es))else t.es.set (Dk k (Be t.es)) (c.least,c)⟩
theorem Ag9 (k:By)(es:PL):∃A c,es=A++c/\A.length=Bx k (Be es)/\(∀e∈A,Lt e.1 k)/\(∀e l,c=e::l->¬Lt e.1 k):=by
 induction es with
 |nil=>exact⟨[],[],rfl,rfl,by simp,by simp⟩
 |cons a es ih=>
  by_cases h:Lt a.1 k
  ·obtain⟨A,c,h1,h2,d,f⟩:=ih;refine⟨a::A,c,by rw[h1];rfl,?_,fun e b=>?_,f⟩
   ·unfold Bx Be at h2⊢;rw[Db,Ab5 (p:=fun x=>Op.bytesLess x k) h,Fh,Fh,h2]
   ·rcases Al.1 b with rfl|b
    ·exact h
    ·exact d e b
  ·refine⟨[],a::es,rfl,?_,by simp,fun e l b=>?_⟩
   ·unfold Bx Be;rw[Db,Aaf (p:=fun x=>Op.bytesLess x k) h];rfl
   ·injection b with h1 _
    rw[<-h1];exact h
structure A0q (h:Nat)(t:Nd h)(k:By)(t':Nd h):Prop where
 wf:Wf h t'
 fl:flat h t'=Gw k (flat h t)
 l1:t.es.length<=t'.es.length+1
 l2:t'.es.length<=t.es.length
 mem:∃e∈flat h t,e.1=k
theorem Afi {h:Nat}{p q r:Nat}{d e f:By}{A B:List (By×Kz h)}:Wf h ⟨p,d,A++B⟩↔Wf h ⟨q,e,A⟩/\Wf h ⟨r,f,B⟩:=by
 cases h with
 |zero=>simp only[Wf,As];exact⟨fun h=>⟨fun e a=>h e (.inl a),fun e a=>h e (.inr a)⟩,fun h e a=>a.elim (h.1 e) (h.2 e)⟩
 |succ h=>simp only[Wf,As];exact⟨fun h=>⟨fun e a=>h e (.inl a),fun e a=>h e (.inr a)⟩,fun h e a=>a.elim (h.1 e) (h.2 e)⟩
theorem Agu {h:Nat}{p q r:Nat}{d e f:By}{A B:List (By×Kz h)}:flat h ⟨p,d,A++B⟩=flat h ⟨q,e,A⟩++flat h ⟨r,f,B⟩:=by
 cases h with
 |zero=>rfl
 |succ h=>exact Gh
theorem Ac0 {h:Nat}{p q:Nat}{d e:By}{A B:List (By×Kz h)}(b:∀x∈B,x∈A)(hw:Wf h ⟨p,d,A⟩):Wf h ⟨q,e,B⟩:=by
 cases h with
 |zero=>exact fun x a=>hw x (b x a)
 |succ h=>exact fun x a=>hw x (b x a)
theorem A0u {h:Nat}{t u:Nd h}(a:t.es=u.es):Wf h t↔Wf h u:=by
 cases h with
 |zero=>simp only[Wf,a]
 |succ h=>simp only[Wf,a]
theorem A20 {h:Nat}{t u:Nd h}(a:t.es=u.es):flat h t=flat h u:=by
 cases h with
 |zero=>exact a
 |succ h=>simp only[flat,a]
theorem Apz {h:Nat}(l r:Nd h)(b:Bool)(i:Wf h l)(hr:Wf h r)(hb:if b then l.es.length=1/\2<=r.es.length/\r.es.length<=5 else r.es.length=1/\2<=l.es.length/\l.es.length<=5):
  (∀e∈Hg l r b,Us h e.2/\e.1=e.2.least)/\(Hg l r b).flatMap (fun e=>flat h e.2)=flat h l++flat h r/\1<=(Hg l r b).length/\(Hg l r b).length<=2:=by
 have g:∀t:Nd h,flat h ⟨0,[],t.es⟩=flat h t:=fun t=>A20 rfl;have c:∀t:Nd h,Wf h t->Wf h ⟨0,[],t.es⟩:=fun t m=>(A0u (t:=t) (u:=⟨0,[],t.es⟩) rfl).1 m
 have o:3<=l.es.length+r.es.length/\l.es.length+r.es.length<=6/\(6=l.es.length+r.es.length->if b then l.es.length=1/\r.es.length=5 else r.es.length=1/\l.es.length=5):=by
  cases b
  ·simp only[Ng,if_false]at hb⊢;omega
  ·simp only[if_true]at hb⊢;omega
 unfold Hg;split
 ·rename_i p;refine⟨fun e a=>?_,?_,by simp,by simp⟩
  ·simp at a;subst a;exact⟨⟨Afi.2 ⟨c l i,c r hr⟩,by show 2<=(l.es++r.es).length;rw[Bb];omega,by show(l.es++r.es).length<=5;rw[Bb];omega⟩,rfl⟩
  ·simp only[Da,List.flatMap_nil,Ff];rw[Agu (q:=0) (e:=[]) (r:=0) (f:=[]),g,g]
 ·rename_i p;have j:=o.2.2 (by omega)
  cases b with
  |true=>
   simp only[if_true]at j⊢;have k:Wf h ⟨0,[],r.es.take 1⟩:=Ac0 (A:=r.es) (fun x d=>Nc d) (c r hr);have n:Wf h ⟨0,[],r.es.drop 1⟩:=Ac0 (A:=r.es) (fun x d=>Qs d) (c r hr);refine⟨fun e a=>?_,?_,by simp,by simp⟩
   ·simp only[Al,Cq,or_false]at a;rcases a with rfl|rfl
    ·exact⟨⟨Afi.2 ⟨c l i,k⟩,by show 2<=(l.es++r.es.take 1).length;rw[Bb,Fr];omega,by show(l.es++r.es.take 1).length<=5;rw[Bb,Fr];omega⟩,rfl⟩
    ·exact⟨⟨n,by show 2<=(r.es.drop 1).length;rw[Nw];omega,by show(r.es.drop 1).length<=5;rw[Nw];omega⟩,rfl⟩
   ·simp only[Da,List.flatMap_nil,Ff];rw[Agu (q:=0) (e:=[]) (r:=0) (f:=[]),g,Cw,Agy,g]
  |false=>
   simp only[Ng,if_false]at j⊢;have v:Wf h ⟨0,[],l.es.take (l.es.length-1)⟩:=Ac0 (A:=l.es) (fun x d=>Nc d) (c l i);have s:Wf h ⟨0,[],l.es.drop (l.es.length-1)⟩:=Ac0 (A:=l.es) (fun x d=>Qs d) (c l i);refine⟨fun e a=>?_,?_,by simp,by simp⟩
   ·simp only[Al,Cq,or_false]at a;rcases a with rfl|rfl
    ·exact⟨⟨v,by show 2<=(l.es.take (l.es.length-1)).length;rw[Fr];omega,by show(l.es.take (l.es.length-1)).length<=5;rw[Fr];omega⟩,rfl⟩
    ·exact⟨⟨Afi.2 ⟨s,c r hr⟩,by show 2<=(l.es.drop (l.es.length-1)++r.es).length;rw[Bb,Nw];omega,by show(l.es.drop (l.es.length-1)++r.es).length<=5;rw[Bb,Nw];omega⟩,rfl⟩
   ·simp only[Da,List.flatMap_nil,Ff];rw[Agu (q:=0) (e:=[]) (r:=0) (f:=[]),<-Cw,Agy,g,g]
theorem Add {α:Type}(es A B:List (By×Es α))(l r:By×Es α)(i:Nat)(a:es=A++l::r::B)(ha:Jp es i=A.length):Ti es i=A++(Hg l.2 r.2 (A.length==i)++B):=by
 unfold Ti;have h1:es[A.length]?=some l:=by rw[a];simp
 have h2:es[A.length+1]?=some r:=by rw[a];simp
 have c:es.take A.length=A:=by rw[a];simp
 have b:es.drop (A.length+2)=B:=by rw[a,<-Wc];simp
 rw[ha,h1,h2,c,b]
theorem Aj0 (k:By):∀(h:Nat) (t:Nd h),Wf h t->Ba (flat h t)->t.es≠[]->Dd k h t=none->∀e∈flat h t,e.1≠k
 |0,t,hw,ha,hn,hr=>by
  obtain⟨A,b,h1,h2,x,q⟩:=Ag9 k t.es;intro e d f;have j:e∈t.es:=d;rw[h1]at j;rcases As.1 j with g|g
  ·exact(x e g).ne f
  ·cases b with
   |nil=>cases g
   |cons a b=>
    have n:a.1=k:=by
     rcases Al.1 g with rfl|g
     ·exact f
     ·have s:Ba (A++a::b):=h1▸ha;have:=(Er.1 (Dc.1 s).2.1).1 e g;rw[f]at this;exact absurd this (q a b rfl)
    unfold Dd at hr;rw[<-h2]at hr;have:t.es[A.length]?=some a:=by rw[h1];simp
    rw[this]at hr;simp only at hr;rw[if_pos n]at hr;cases hr
 |h+1,t,hw,ha,hn,hr=>by
  obtain⟨A,c,B,i,u,z,p⟩:=Tc k h t hw hn ha
  have v:flat (h+1) t=A.flatMap (fun e=>flat h e.2)++(flat h c.2++B.flatMap (fun e=>flat h e.2)):=by show t.es.flatMap _=_;rw[i,Gh,Da]
  have r:c∈t.es:=by rw[i];simp
  have l:=((Gg.1 hw) c r).1;rw[v]at ha⊢;have m:=(Dc.1 (Dc.1 ha).2.1).1;have y:t.es[A.length]?=some c:=by rw[i];simp
  have o:Dd k h c.2=none:=by
   unfold Dd at hr;rw[<-u,y]at hr;simp only at hr;split at hr
   ·assumption
   ·cases hr
  have ih:=Aj0 k h c.2 l.1 m l.ne o;intro e d;rcases As.1 d with g|g
  ·exact(z e g).ne
  ·rcases As.1 g with g|g
   ·exact ih e g
   ·exact fun w=>(p e g).ne w.symm
theorem Acf (k:By):∀(h:Nat) (t n:Nd h),Wf h t->Ba (flat h t)->t.es≠[]->(h=0\/2<=t.es.length)->Dd k h t=some n->A0q h t k n
 |0,t,n,hw,ha,hn,_,hr=>by
  obtain⟨A,j,h1,h2,O,ab⟩:=Ag9 k t.es;unfold Dd at hr;rw[<-h2]at hr
  cases j with
  |nil=>
   have:t.es[A.length]?=none:=by rw[h1];simp
   rw[this]at hr;cases hr
  |cons a j=>
   have s:t.es[A.length]?=some a:=by rw[h1];simp
   rw[s]at hr;simp only at hr;split at hr
   ·rename_i w;have e1:t.es.take A.length=A:=by rw[h1];simp
    have e2:t.es.drop (A.length+1)=j:=by rw[h1,<-Wc];simp
    rw[e1,e2]at hr;cases hr;have M:Ba (A++a::j):=h1▸ha;have P:=(Er.1 (Dc.1 M).2.1).1;refine⟨fun e f=>hw e (by rw[h1];rcases As.1 f with g|g<;>simp[g]),?_,by rw[h1];simp;omega,by rw[h1];simp,a,by show a∈t.es;rw[h1];simp,w⟩;show A++j=Gw k t.es;rw[h1,Aa8,Uj (fun e f=>(O e f).ne)]
    congr 1
    have:Gw k (a::j)=Gw k j:=by simp[Gw,w]
    rw[this,Uj (fun e f=>by
     have:=P e f;rw[w]at this
     exact fun D=>this.ne D.symm)]
   ·cases hr
 |h+1,t,n,hw,ha,hn,h2,hr=>by
  obtain⟨A,c,B,d,L,R,U⟩:=Tc k h t hw hn ha;have i:=Gg.1 hw;have V:c∈t.es:=by rw[d];simp
  have o:=(i c V).1
  have q:flat (h+1) t=A.flatMap (fun e=>flat h e.2)++(flat h c.2++B.flatMap (fun e=>flat h e.2)):=by show t.es.flatMap _=_;rw[d,Gh,Da]
  have K:Ba (flat h c.2):=by rw[q]at ha;exact(Dc.1 (Dc.1 ha).2.1).1
  have s:t.es[A.length]?=some c:=by rw[d];simp
  unfold Dd at hr;rw[<-L,s]at hr;simp only at hr
  cases z:Dd k h c.2 with
  |none=>rw[z]at hr;cases hr
  |some b=>
   rw[z]at hr;simp only[Option.some.injEq]at hr;have ih:=Acf k h c.2 b o.1 K o.ne (.inr o.2.1) z
   have G:2<=t.es.length:=by
    rcases h2 with g|g
    ·cases g
    ·exact g
   have E:Gw k (flat (h+1) t)=A.flatMap (fun e=>flat h e.2)++(flat h b++B.flatMap (fun e=>flat h e.2)):=by rw[q,Aa8,Aa8,Uj (fun e f=>(R e f).ne),Uj (l:=B.flatMap _) (fun e f=>fun D=>(U e f).ne D.symm),ih.fl]
   have u:∃e∈flat (h+1) t,e.1=k:=by obtain⟨e,f,W⟩:=ih.mem;exact⟨e,by rw[q];simp[f],W⟩
   have H:∀x,t.es.set A.length x=A++x::B:=fun x=>by rw[d];simp
   have aa:=ih.l1;have ac:=ih.l2;have Z:=o.2;rw[H,H]at hr;by_cases J:b.es.length<2
   ·rw[if_pos J]at hr;subst hr;have I:b.es.length=1:=by omega
    cases B with
    |cons r B'=>
     have T:r∈t.es:=by rw[d];simp
     have v:=(i r T).1
     have p:Jp (A++(c.1,b)::r::B') A.length=A.length:=by unfold Jp;rw[if_neg (by simp)]
     rw[Add _ A B' (c.1,b) r A.length rfl p];obtain⟨C,m2,N,S⟩:=Apz b r.2 (A.length==A.length) ih.wf v.1 (by simp;exact⟨I,v.2.1,v.2.2⟩);refine⟨Gg.2 fun e f=>?_,?_,?_,?_,u⟩
     ·have m:e∈A++(Hg b r.2 (A.length==A.length)++B'):=f;rcases As.1 m with g|g
      ·exact i e (by rw[d];simp[g])
      ·rcases As.1 g with g|g
       ·exact C e g
       ·exact i e (by rw[d];simp[g])
     ·rw[E];show(A++(Hg b r.2 (A.length==A.length)++B')).flatMap _=_;rw[Gh,Gh,m2,Da];simp
     ·rw[d];simp only[Bb,Fh];omega
     ·rw[d];simp only[Bb,Fh];omega
    |nil=>
     rcases List.eq_nil_or_concat A with rfl|⟨A',l,F⟩
     ·rw[d]at G;simp at G
     ·rw[List.concat_eq_append]at F;subst F;have Y:l∈t.es:=by rw[d];simp
      have y:=(i l Y).1
      have p:Jp (A'++[l]++[(c.1,b)]) (A'++[l]).length=A'.length:=by unfold Jp;rw[if_pos (by simp)];simp
      have Q:A'++[l]++[(c.1,b)]=A'++l::(c.1,b)::[]:=by simp
      rw[Add _ A' [] l (c.1,b) (A'++[l]).length Q p];have X:(A'.length==(A'++[l]).length)=false:=by simp
      rw[X];obtain⟨C,m2,N,S⟩:=Apz l.2 b false y.1 ih.wf (by simp;exact⟨I,y.2.1,y.2.2⟩);refine⟨Gg.2 fun e f=>?_,?_,?_,?_,u⟩
      ·have m:e∈A'++(Hg l.2 b false++[]):=f;rcases As.1 m with g|g
       ·exact i e (by rw[d];simp[g])
       ·exact C e (by simpa using g)
      ·rw[E];show(A'++(Hg l.2 b false++[])).flatMap _=_;rw[Ff,Gh,m2,Gh];simp
      ·rw[d];simp only[Bb,Fh,Ov];omega
      ·rw[d];simp only[Bb,Fh,Ov];omega
   ·rw[if_neg J]at hr;subst hr;refine⟨Gg.2 fun e f=>?_,?_,?_,?_,u⟩
    ·have m:e∈A++(b.least,b)::B:=f;rcases As.1 m with g|g
     ·exact i e (by rw[d];simp[g])
     ·rcases Al.1 g with rfl|g
      ·exact⟨⟨ih.wf,by show 2<=b.es.length;omega,by show b.es.length<=5;omega⟩,rfl⟩
      ·exact i e (by rw[d];simp[g])
    ·rw[E];show(A++(b.least,b)::B).flatMap _=_;rw[Gh,Da]
    ·rw[d];simp
    ·rw[d];simp
def one (b:Bool):Nat:=if b then 1 else 0
def cnt (a:Nat):(h:Nat)->Nd h->Nat
 |0,t=>one (t.place==a)
 |h+1,t=>one (t.place==a)+(t.es.map fun e=>cnt a h e.2).sum
def Vv (a h:Nat):Option (Nd h)->Nat
 |none=>0
 |some q=>cnt a h q
def nz (p:Nat):List Nat:=if p=0 then []else [p]
def Fv (a:Nat):(h:Nat)->List (By×Kz h)->Nat
 |0,_=>0
 |h+1,es=>(es.map fun e=>cnt a h e.2).sum
theorem Js (a h:Nat)(t:Nd h):cnt a h t=one (t.place==a)+Fv a h t.es:=by
 cases h<;>simp[cnt,Fv]
theorem Sh (a h:Nat)(A B:List (By×Kz h)):Fv a h (A++B)=Fv a h A+Fv a h B:=by
 cases h<;>simp[Fv]
theorem Lz (a h:Nat)(e:By×Nd h)(B:List (By×Nd h)):Fv a (h+1) (e::B)=cnt a h e.2+Fv a (h+1) B:=by simp[Fv]
theorem Aib (a h:Nat)(es:List (By×Kz h))(n:Nat):Fv a h (es.take n)+Fv a h (es.drop n)=Fv a h es:=by rw[<-Sh,Jb]
theorem Mx {a:Nat}(ha:2<=a):one ((0:Nat)==a)=0:=by
 have:((0:Nat)==a)=false:=by rw[beq_eq_false_iff_ne];omega
 rw[this];rfl
theorem Yz {a:Nat}(ha:2<=a)(p:Nat):(nz p).count a=one (p==a):=by
 unfold nz;split
 ·rename_i h;subst h;rw[Mx ha];rfl
 ·by_cases h:p=a
  ·subst h;simp[one]
  ·have:(p==a)=false:=by simpa using h
   rw[this];simp[one,h]
theorem Alv {h:Nat}(a:Nat)(t:Nd h)(ha:2<=a):cnt a h (Ft t).1+Vv a h (Ft t).2=cnt a h t:=by
 unfold Ft;split
 ·simp[Vv]
 ·simp only[Vv];rw[Js,Js,Js];have:=Aib a h t.es (t.es.length/2);simp only;rw[Mx ha];omega
def Jw (k:By):(h:Nat)->Nd h->List Nat
 |0,t=>nz t.place
 |h+1,t=>nz t.place++(match t.es[Dk k (Be t.es)]? with|none=>[]|some e=>Jw k h e.2)
theorem Aqk (k s:By)(a:Nat)(ha:2<=a):∀(h:Nat) (t:Nd h),t.es≠[]->Wf h t->Ba (flat h t)->cnt a h (Cc k s h t).1+Vv a h (Cc k s h t).2+(Jw k h t).count a=cnt a h t
 |0,t,_,_,_=>by unfold Cc Jw;rw[Alv a _ ha,Yz ha,Js,Js,Mx ha];simp[Fv]
 |h+1,t,hn,hw,hasc=>by
  obtain⟨A,e,B,b,d,_,_⟩:=Tc k h t hw hn hasc;have j:e∈t.es:=by rw[b];simp
  have c:=((Gg.1 hw) e j).1
  have n:Ba (flat h e.2):=by
   have i:flat (h+1) t=A.flatMap (fun e=>flat h e.2)++(flat h e.2++B.flatMap (fun e=>flat h e.2)):=by show t.es.flatMap _=_;rw[b,Gh,Da]
   rw[i]at hasc;exact(Dc.1 (Dc.1 hasc).2.1).1
  have ih:=Aqk k s a ha h e.2 c.ne c.1 n;have f:t.es[Dk k (Be t.es)]?=some e:=by rw[<-d,b];simp
  have m:Cc k s (h+1) t=Ft ⟨0,[],Zu t.es (Dk k (Be t.es)) (Cc k s h e.2)⟩:=by rw[Cc,f]
  have l:Jw k (h+1) t=nz t.place++Jw k h e.2:=by rw[Jw,f]
  rw[m,l,Alv a _ ha,List.count_append,Yz ha,<-d];have g:Zu t.es A.length (Cc k s h e.2)=A++((Cc k s h e.2).1.least,(Cc k s h e.2).1)::(match (Cc k s h e.2).2 with|none=>B|some q=>(q.least,q)::B):=by rw[b];exact Ahj A B e (Cc k s h e.2)
  rw[g,Js a (h+1) t,Js a (h+1),Mx ha];rw[b,Sh,Sh,Lz,Lz]
  cases hr:(Cc k s h e.2).2 with
  |none=>rw[hr]at ih;simp only[Vv]at ih⊢;omega
  |some q=>rw[hr]at ih;simp only[Vv]at ih⊢;rw[Lz];simp only;omega
theorem A0n {h:Nat}(a:Nat)(l r:Nd h)(b:Bool)(ha:2<=a):Fv a (h+1) (Hg l r b)+one (l.place==a)+one (r.place==a)=cnt a h l+cnt a h r:=by
 have e:=Js a h l;have hr:=Js a h r;have c:=Aib a h r.es 1;have d:=Aib a h l.es (l.es.length-1);have nil:Fv a (h+1) ([]:List (By×Nd h))=0:=rfl;unfold Hg;split
 ·rw[Lz,nil];simp only;rw[Js a h ⟨0,[],l.es++r.es⟩,Mx ha,Sh];omega
 ·split
  ·rw[Lz,Lz,nil];simp only;rw[Js a h ⟨0,[],l.es++r.es.take 1⟩,Js a h ⟨0,[],r.es.drop 1⟩,Mx ha,Sh];simp only;omega
  ·rw[Lz,Lz,nil];simp only;rw[Js a h ⟨0,[],l.es.take (l.es.length-1)⟩,Js a h ⟨0,[],l.es.drop (l.es.length-1)++r.es⟩,Mx ha,Sh];simp only;omega
def Ua {α:Type}(es:List (By×Es α))(i:Nat):List Nat:=
 match es[Jp es i]?,es[Jp es i+1]? with
 |some l,some r=>nz l.2.place++nz r.2.place
 |_,_=>[]
def Nh (k:By):(h:Nat)->Nd h->List Nat
 |0,t=>nz t.place
 |h+1,t=>
  match t.es[Dk k (Be t.es)]? with
  |none=>[]
  |some e=>
   match Dd k h e.2 with
   |none=>[]
   |some c=>Nh k h e.2++(nz t.place++(if c.es.length<2 then Ua (t.es.set (Dk k (Be t.es)) (e.1,c)) (Dk k (Be t.es))else []))
theorem Ayd {h:Nat}(a:Nat)(es:List (By×Nd h))(i:Nat)(ha:2<=a):Fv a (h+1) (Ti es i)+(Ua es i).count a=Fv a (h+1) es:=by
 unfold Ti Ua;obtain⟨j,b⟩:=nmd (Jp es i);rw[b]
 cases h1:es[j]? with
 |none=>simp
 |some l=>
  cases h2:es[j+1]? with
  |none=>simp
  |some r=>
   simp only
   have d:es=es.take j++l::r::es.drop (j+2):=by obtain⟨c,e1⟩:=Ds.1 h1;obtain⟨e,e2⟩:=Ds.1 h2;rw[<-e1,<-e2,<-Kh e,<-Kh c,Jb]
   have g:=A0n a l.2 r.2 (j==i) ha
   have f:Fv a (h+1) es=Fv a (h+1) (es.take j)+(cnt a h l.2+(cnt a h r.2+Fv a (h+1) (es.drop (j+2)))):=by
    conv=>lhs;rw[d]
    rw[Sh,Lz,Lz]
   rw[Sh,Sh,List.count_append,Yz ha,Yz ha,f];omega
theorem Af6 (k:By)(a:Nat)(ha:2<=a):∀(h:Nat) (t b:Nd h),t.es≠[]->Wf h t->Ba (flat h t)->Dd k h t=some b->cnt a h b+(Nh k h t).count a=cnt a h t/\b.place=0
 |0,t,b,_,_,_,hr=>by
  unfold Dd at hr;split at hr
  ·cases hr
  ·split at hr
   ·cases hr;rw[Nh,Yz ha,Js,Js,Mx ha];simp[Fv]
   ·cases hr
 |h+1,t,b,hn,hw,hasc,hr=>by
  obtain⟨A,e,B,d,i,_,_⟩:=Tc k h t hw hn hasc;have o:e∈t.es:=by rw[d];simp
  have g:=((Gg.1 hw) e o).1
  have n:Ba (flat h e.2):=by
   have m:flat (h+1) t=A.flatMap (fun e=>flat h e.2)++(flat h e.2++B.flatMap (fun e=>flat h e.2)):=by show t.es.flatMap _=_;rw[d,Gh,Da]
   rw[m]at hasc;exact(Dc.1 (Dc.1 hasc).2.1).1
  have l:t.es[Dk k (Be t.es)]?=some e:=by rw[<-i,d];simp
  unfold Dd at hr;rw[l]at hr;simp only at hr
  cases f:Dd k h e.2 with
  |none=>rw[f]at hr;cases hr
  |some c=>
   rw[f]at hr;simp only[Option.some.injEq]at hr;have ih:=Af6 k a ha h e.2 c g.ne g.1 n f;have p:Nh k (h+1) t=Nh k h e.2++(nz t.place++(if c.es.length<2 then Ua (t.es.set (Dk k (Be t.es)) (e.1,c)) (Dk k (Be t.es))else [])):=by rw[Nh,l];simp only[f]
   have j:∀x:By×Nd h,Fv a (h+1) (t.es.set (Dk k (Be t.es)) x)+cnt a h e.2=Fv a (h+1) t.es+cnt a h x.2:=fun x=>by
    rw[<-i]
    conv=>lhs;rw[d]
    rw[Nj,d,Sh,Sh,Lz,Lz];omega
   rw[p,List.count_append,List.count_append,Yz ha,Js a (h+1) t];subst hr;refine⟨?_,rfl⟩;rw[Js a (h+1),Mx ha];simp only;split
   ·have q:=Ayd a (t.es.set (Dk k (Be t.es)) (e.1,c)) (Dk k (Be t.es)) ha;have:=j (e.1,c);simp only at this;have h0:=ih.1;omega
   ·have:=j (c.least,c);simp only at this;have h0:=ih.1;rw[List.count_nil];omega
def nn:(h:Nat)->Nd h->Nat
 |0,_=>1
 |h+1,t=>1+(t.es.map fun e=>nn h e.2).sum
def De:(h:Nat)->Nd h->Nat
 |0,t=>if t.place=0 then 1 else 0
 |h+1,t=>if t.place=0 then 1+(t.es.map fun e=>De h e.2).sum else 0
theorem Af9:∀(h:Nat) (t:Nd h),De h t<=nn h t
 |0,t=>by unfold De nn;split<;>omega
 |h+1,t=>by
  unfold De nn;split
  ·have:∀es:List (By×Nd h),(es.map fun e=>De h e.2).sum<=(es.map fun e=>nn h e.2).sum:=by
    intro es
    induction es with
    |nil=>simp
    |cons a l ih=>have:=Af9 h a.2;simp;omega
   exact Nat.add_le_add_left (this t.es) 1
  ·omega
theorem Ag2 (h:Nat)(f:Nd h->Nat)(b:∀c,Us h c->f c+1<=(flat h c).length):∀es:List (By×Kz (h+1)),(∀e∈es,Us h e.2)->(es.map fun e=>f e.2).sum+es.length<=(es.flatMap fun e=>flat h e.2).length
 | [],_=>by simp
 |a::l,hk=>by have ih:=Ag2 h f b l (fun e d=>hk e (by simp[d]));have:=b a.2 (hk a (by simp));simp only[Db,Jy,Fh,Da,Bb];omega
theorem Aov:∀(h:Nat) (c:Nd h),Us h c->nn h c+1<=(flat h c).length
 |0,c,hk=>hk.2.1
 |h+1,c,hk=>by have:=Ag2 h (nn h) (Aov h) c.es (fun e a=>((Gg.1 hk.1) e a).1);have b:=hk.2.1;show 1+_+1<=(c.es.flatMap _).length;omega
structure Kn (h:Nat)(t:Nd h):Prop where
 wf:Wf h t
 ne:t.es≠[]
 le:t.es.length<=5
 two:h=0\/2<=t.es.length
 asc:Ba (flat h t)
theorem Afk (h:Nat)(t:Nd h)(hr:Kn h t):nn h t<=(flat h t).length:=by
 cases h with
 |zero=>exact Pn.2 hr.ne
 |succ h=>
  have b:2<=t.es.length:=by
   rcases hr.two with g|g
   ·cases g
   ·exact g
  have:=Ag2 h (nn h) (Aov h) t.es (fun e a=>((Gg.1 hr.wf) e a).1);show 1+_<=(t.es.flatMap _).length;omega
end Go.Proofs.YtojgilcdgccojaaGreatDoor
