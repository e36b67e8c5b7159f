import Derived.Laws.CopyOwn
import Derived.Test.YtojgilcdgccojaaGreatDoorAl
import Derived.Test.YtojgilcdgccojaaGreatDoorMAj
set_option linter.unusedSimpArgs false
set_option maxRecDepth 100000
set_option maxHeartbeats 8000000
namespace Go.Proofs.YtojgilcdgccojaaGreatDoor
open Go.RowKit
def Ni (a U:By)(k:Nat):By:=Dh (a.take k) (U.take k)++a.drop k
theorem Agc (a U:By)(k:Nat)(h:a.length=U.length)(hk:k<=a.length):(Dh (a.take k) (U.take k)).length=k:=by rw[Uh _ _ (by simp;omega)];simp;omega
theorem Awu (a U:By)(k:Nat)(h:a.length=U.length)(hk:k<=a.length):(Ni a U k).length=a.length:=by unfold Ni;rw[Bb,Agc a U k h hk];simp;omega
theorem Axo (a U:By)(k:Nat)(h:a.length=U.length)(hk:k<a.length):(Ap (Ni a U k)).getD k 0=a[k].toNat:=by
 have b:=Agc a U k h (by omega)
 have e:(Ni a U k)[k]?=some a[k]:=by unfold Ni;rw[If (by omega),b,Po,Sm,Pp,Az hk]
 simp[Ap,e]
theorem Axb (a U:By)(k:Nat)(h:a.length=U.length)(hk:k<a.length):(Ap (Ni a U k)).set k (a[k].toNat^^^U[k].toNat)=Ap (Ni a U (k+1)):=by
 have b:=Agc a U k h (by omega)
 have e:(Ni a U k).set k (a[k]^^^U[k])=Ni a U (k+1):=by unfold Ni;rw[Lu k _ (by omega),b,Po,Kh hk,Co,Lr hk,Lr (by omega:k<U.length)];unfold Dh;rw[List.zipWith_append (by simp;omega),Cw];rfl
 rw[<-e];simp[Ap,List.map_set]
theorem Axq (a U:By)(n:Nat)(c:a.length=n)(b:U.length=n):Ni a U n=Dh a U:=by unfold Ni;rw[Du (by omega),Du (by omega),Xu (by omega),Ff]
theorem A3f (U:By)(e:U.length=32)(w:World)(g:Nat)(t b a:TypeId)(c:Array Value)(h:c.size=32)(f:w.heap[g]?=some (.cells c t (0,0))):
  (Builtin.copy_ #[54,b] a #[.slice (some ⟨g,0,none⟩) 32 32,.string ⟨U.toArray⟩]).run Tryz.prog w=
   .ok (.int .i64 32) (w.setRow g (Aj .u8 (Ap U)).toArray):=by
 have d:(ByteArray.mk U.toArray).size=32:=by simpa [ByteArray.size]using e
 have:=Lib.run_copy_row_string (P:=Tryz.prog) w 54 b a 5 g 0 32 32 ⟨U.toArray⟩ c t Tryz.underlying54 (by kernel_rfl) f (by omega) (by omega);rw[this,d,Dq,Xu (by simp;omega)]
 have e2:Aj .u8 (Ap U)=Lib.byteCells U:=by simp[Aj,Ap,Lib.byteCells,Function.comp_def]
 rw[e2];simp;rfl
structure SG (w:World)(F:By)(wr:World):Prop where
 res:wr.there w.heap.size 0 32
 row:Bo wr (w.heap.size+1) 155 .u8 (Ap F)
 bel:Bw w wr
 sz:w.heap.size+2<=wr.heap.size
theorem SG.set {w:World}{a:By}{wr:World}(h:SG w a wr)(i x:Nat)(b:By)(c:(Ap a).set i x=Ap b):SG w b (wr.setCell ⟨w.heap.size+1,i,none⟩ (.int .u8 (x:Int))):=by have hb:Below (w.heap.size+1) wr (wr.setCell ⟨w.heap.size+1,i,none⟩ (.int .u8 (x:Int))):=Below.setCell (B:=w.heap.size+1) (Ah _ _) (Ak (w.heap.size+1)) _;exact⟨Qe h.res hb (by omega),by rw[<-c];exact h.row.set i x,h.bel.setCell (by simp) _,Hb h.sz hb.size⟩
theorem SG.drew {w:World}{a:By}{wr:World}(h:SG w a wr):SG w a wr.drew:=⟨h.res,h.row,h.bel.drew,h.sz⟩
theorem SG.below {w:World}{a:By}{wr w':World}(h:SG w a wr)(hb:Bw wr w'):SG w a w':=
 ⟨Qe h.res hb (by have:=h.sz;omega),h.row.below hb h.row.lt,h.bel.trans (hb.mono (by have:=h.sz;omega)),Hb h.sz hb.size⟩
theorem SG.start {w w':World}{a:Array Value}(U:By)(c:a.size=32)(hb:Below ((w.alloc (.cells a 155)).alloc (.cells a 155)).heap.size ((w.alloc (.cells a 155)).alloc (.cells a 155)) w'):
  w'.heap[w.heap.size+1]?=some (.cells a 155 (0,0))/\SG w U (w'.setRow (w.heap.size+1) (Aj .u8 (Ap U)).toArray):=by
 have hz:((w.alloc (.cells a 155)).alloc (.cells a 155)).heap.size=w.heap.size+2:=by simp
 rw[hz]at hb
 have h1:w'.heap[w.heap.size+1]?=some (.cells a 155 (0,0)):=by rw[hb.block (w.heap.size+1) (by omega)];have:=heap_alloc_new (w.alloc (.cells a 155)) (.cells a 155);simpa using this
 have h2:w'.there w.heap.size 0 32:=by have h:=Iy w a 155;rw[c]at h;exact Qe (World.there_alloc h (.cells a 155)) hb (by omega)
 have d:Bw w w':=(((Ah _ _).alloc (Ak _) _).alloc (by simp) _).trans (hb.mono (by omega));have b:Below (w.heap.size+1) w' (w'.setRow (w.heap.size+1) (Aj .u8 (Ap U)).toArray):=below_setRow (Ah _ _) (Ak _) _;refine⟨h1,Qe h2 b (by omega),⟨_,setRow_heap w' _ _ _ _ _ h1,by simp[Aj],fun i e=>Mr _ _ i e⟩,d.trans (b.mono (by omega)),?_⟩;have:=hb.size;simp at this⊢;omega
theorem A0b (b:Nat)(t C:St)(E F pass salt:By)(a:Nat)(g:Int)(w:World)(A:Og w b t E C F)(a6:Ho t E (Pr pass))(bc:Ho C F (Qm pass))(ai:t.ok)(ar:C.ok)
  (hk:Br w 1 .u32 Gk) (ak:salt.length<=65536) (b1:a<=8) (hr: -1<=g/\g<=8):
  Cl 100 #[.pointer (some ⟨b,0,none⟩),.string ⟨salt.toArray⟩,.int .u32 (a:Int),.int .i64 g] w fun e w'=>e=.returned (.agg (Ae (Mb pass salt a (Wx g))).toArray)/\Bw w w':=by
 obtain⟨b9,b4⟩:=hr;have bp:∀w,(zeroValue 155).run Tryz.prog w=.ok (.agg (Aj .u8 (List.replicate 32 0)).toArray) w:=fun _=>by kernel_rfl
 obtain⟨o,Q⟩:=nmd ((Aj .u8 (List.replicate 32 0)).toArray);rw[Q]at bp;have ap:o.size=32:=by rw[<-Q];rfl
 have a3:=hk.lt;have b6:(a:Int)<=8:=by omega
 have bb:=Aa ak;have af:=fun w=>Xo salt (Af a 4) (by rw[Cb];have:=bb.o;omega) w;clear Q ak;go_enter Tryz.func100,Tryz.ntmps100;go_wp2_with fail;refine(Aei a _ (by omega)).mono ?_;rintro e w1 ⟨rfl,m⟩;go_wp2_with fail;have M:(salt++Af a 4).length<=70000:=by rw[Bb,Cb];have:=bb.o;omega
 have K:Jk pass (salt++Af a 4)=Nl pass salt a 0:=rfl;have au:Mb pass salt a 0=Nl pass salt a 0:=rfl;obtain⟨bk,aj⟩:=nmd (salt++Af a 4);rw[aj]at af M K⊢;have V:((w.alloc (.cells o 155)).alloc (.cells o 155)).heap.size=w.heap.size+2:=by simp
 have O:Bw w ((w.alloc (.cells o 155)).alloc (.cells o 155)):=(((Ah _ _).alloc (Ak _) _).alloc (by simp) _);have av:=(A.below O A.lt).below m (by rw[V];have:=A.lt;omega);have aq:=(hk.below O a3).below m (by rw[V];omega);have be:=A.lt;have a7:=m.size;refine(Afw b t C E F pass bk w1 av a6 bc ai ar aq M).mono ?_;rintro e w2 ⟨rfl,an⟩;rw[K];have ao:=Abu pass salt a 0;have ax:=m.trans (an.mono a7);obtain⟨a5,c⟩:=SG.start (Nl pass salt a 0) ap ax;have ad:=fun bl bu=>A3f (Nl pass salt a 0) ao w2 (w.heap.size+1) 155 bl bu o ap a5;obtain⟨bx,P⟩:=nmd (Nl pass salt a 0);rw[P]at c ad⊢;generalize bm:w2.setRow (w.heap.size+1) (Aj .u8 (Ap bx)).toArray=w3 at c ad;obtain⟨T,ae⟩:=nmd (Wx g);have ay:∀j:Nat,j<T↔(j:Int)+1<g:=fun j=>by rw[<-ae];unfold Wx;omega
 have a9:=Aa ay;have ag:=Aa ae;have a8:=Aa P;have bg:=Aa au;have ah:=Aa c;clear bm ae ay M K au aj af V O av aq a7 m an ax a5 c ao P;go_wp2_with fail
 go_loopw [10,11,12] (fun l r _ wr=>∃j:Nat,j<=T/\r=.int .i64 ((j:Int)+1)/\l=.string ⟨(Nl pass salt a j).toArray⟩/\SG w (Mb pass salt a j) wr) (fun _ r _ _=>(20-intOf r).toNat)
 case atStart=>exact⟨0,by omega,rfl,by rw[a8.o],by rw[bg.o,a8.o];exact ah.o⟩
 case round=>
  clear ah ad;obtain⟨j,b5,rfl,rfl,c⟩:=hrel;have X:=A.below c.bel be;have Y:=hk.below c.bel a3;have H:=Abu pass salt a j;have G:=Abu pass salt a (j+1);have s:=Af1 pass salt a j;have q:Dh (Mb pass salt a j) (Nl pass salt a (j+1))=Mb pass salt a (j+1):=rfl;have x:Jk pass (Nl pass salt a j)=Nl pass salt a (j+1):=rfl;by_cases bi:j<T
  ·have a2:=(a9.o j).1 bi;have hd:decide ((j:Int)+1<g)=true:=by simpa using a2
   have bs:(j:Int)<=7:=by omega
   obtain⟨U,L⟩:=nmd (Nl pass salt a j);obtain⟨f,u⟩:=nmd (Mb pass salt a j);obtain⟨d,ac⟩:=nmd (Nl pass salt a (j+1));obtain⟨bz,S⟩:=nmd (Mb pass salt a (j+1));rw[L];rw[L]at H x;rw[ac]at G x q;rw[u]at s q c;rw[S]at q;have I:=Aa (Ab ac S);have p:=Aa (Ab H (Ab G s));have aw:=Aa (Ab x q);clear L u ac S H G s x q a2;go_wp2_with fail;refine(Afw b t C E F pass U wr X a6 bc ai ar Y (by rw[p.o.1];decide)).mono ?_;rintro e b0 ⟨rfl,a4⟩;rw[aw.o.1];have al:=c.below a4;have am:(ByteArray.mk d.toArray).size=32:=by simpa [ByteArray.size]using p.o.2.1
   obtain⟨D,Z⟩:=nmd (ByteArray.mk d.toArray);rw[Z]at am⊢;have N:=Aa Z;clear c X Y a4 Z;go_wp2_with fail
   go_loopw [12] (fun k wr=>∃n:Nat,n<=32/\k=.int .i64 (n:Int)/\SG w (Ni f d n) wr) (fun k _=>(40-intOf k).toNat)
   case atStart=>exact⟨0,by omega,rfl,by simpa [Ni,Dh]using al⟩
   case round=>
    clear al;obtain⟨n,b7,rfl,c⟩:=hrel;by_cases bv:n<32
    ·have b2:(n:Int)<32:=by omega
     have bq:f.length=32:=p.o.2.2;have bh:d.length=32:=p.o.2.1;have ba:=c.row.cell (i:=n) (by rw[Dt,Awu f d n (by omega) (by omega)];omega);rw[Axo f d n (by omega) (by omega)]at ba;have b3:=c.row.frozen n;have R:=c.set n (f[n].toNat^^^d[n].toNat) (Ni f d (n+1)) (Axb f d n (by omega) (by omega));have b8:n<D.size:=by rw[am];exact bv
     have a1:D[n].toNat=d[n].toNat:=by have h1:=N.o;subst h1;rfl
     have bt:=u8_xor_nat f[n].toNat D[n].toNat f[n].toNat_lt D[n].toNat_lt;rw[<-a1]at R;have W:=Aa R;obtain⟨y,hy⟩:=nmd (f[n].toNat);rw[hy]at ba bt W;clear R c a1 hy bq bh;go_wp2_with fail
     first
      |(go_region
        go_wp2_with fail
        go_roundw
        case rel=>exact⟨n+1,by omega,by go_num,W.o.drew⟩
        case measure=>simp[intOf];omega)
      |(go_roundw
        case rel=>exact⟨n+1,by omega,by go_num,W.o⟩
        case measure=>simp[intOf];omega)
    ·have bo:n=32:=by omega
     subst bo;rw[Axq f d 32 p.o.2.2 p.o.2.1,aw.o.2]at c;go_wp2_with fail
     go_roundw
     case rel=>first
      |exact⟨j+1,by omega,by go_num,by rw[I.o.1,N.o],by rw[I.o.2];exact c⟩
      |((repeat apply Exists.intro);exact⟨⟨j+1,by omega,by go_num,by rw[I.o.1,N.o],by rw[I.o.2];exact c⟩,rfl⟩)
     case measure=>simp[intOf];omega
  ·have br:j=T:=by omega
   subst br
   have hd:decide ((j:Int)+1<g)=false:=by have:=a9.o j;simp only[Nat.lt_irrefl,false_iff]at this;simpa using this
   have bs:(j:Int)<=8:=by have:=ag.o;unfold Wx at this;omega
   have J:=Ta c.row;rw[Dw]at J;have a0:=c.res;have bj:=c.bel;have u:Mb pass salt a (Wx g)=Mb pass salt a j:=by rw[ag.o]
   have az:∀v∈Ae (Mb pass salt a j),v.oneCell'=true:=by rw[<-Dw];exact Nk _ _
   have z:(Ae (Mb pass salt a j)).length=32:=by rw[Jo,s]
   obtain⟨h,ab⟩:=nmd (Ae (Mb pass salt a j));rw[ab]at J az z;have aa:=Aa (show(Tryz.prog.info? 155).map (·.size)=some h.length from by rw[z];kernel_rfl);have m:Bw w (wr.setCells w.heap.size 0 h):=bj.trans (Ec wr w.heap.size _ 0 h (Ak _));have bw:=Oq wr w.heap.size 0 h (by rw[z];exact a0);have bn:=Aa z;have bd:=Aa (Ab u ab);have bf:=Aa J;clear z H G s q x u ab J c X Y;go_wp2_with (first|refine wpList_load_mid rfl 155 _ rfl (w.heap.size+1) 0 rfl h _ bf.o Tryz.underlying155 rfl aa.o ?_|refine wpList_store_mid rfl 155 _ _ rfl w.heap.size 0 h.toArray rfl rfl (by simpa [bn.o]using a0) (by simpa using aa.o) (all_oneCell_toArray az) ?_);exact bodyPost_ret (v:=.agg h.toArray) (Mf Tryz.results100 _ _ w.heap.size 0 h _ rfl bw Tryz.underlying155 rfl aa.o) rfl ⟨by rw[bd.o.1,bd.o.2],m⟩
theorem At7 {w:World}{base g cap n k:Nat}{e:TypeId}{l:By}(h:w.ownsRow base e 1 (.slice (some ⟨g,0,none⟩) n cap) n (Ae l))(c:l.length=n)(hk:k<=n):
  (convert 54 9 (.slice (some ⟨g,0,none⟩) k cap)).run Tryz.prog w=.ok (.string ⟨(l.take k).toArray⟩) w:=by
 subst c;have a:(l.take k).length=k:=by simp;omega
 have:=run_convert_bytes_back (P:=Tryz.prog) w 54 9 5 ⟨g,0,none⟩ cap (l.take k) Tryz.underlying54 Tryz.underlying5 Tryz.underlying9 (fun j b=>by
  rw[a]at b;rw[Addr.add_mid,Dq,h.cellAt j (by omega)]
  simp[Ae,Az (by omega:j<l.length)])
 rw[a]at this;exact this
theorem Ap1 (pass salt:By)(d size:Int)(w:World)(hk:Br w 1 .u32 Gk)(h0:Br w 0 .u32 Jv)(ah:pass.length<=65536)(aj:salt.length<=65536)(hr: -1<=d/\d<=8)(bt: -2<=size/\size<=200):
  Cl 74 #[.string ⟨pass.toArray⟩,.string ⟨salt.toArray⟩,.int .i64 d,.int .i64 size] w fun e w'=>e=.returned (.string ⟨(Su pass salt d size.toNat).toArray⟩)/\Bw w w':=by
 obtain⟨bu,bg,bl,bm,bd⟩:=info_parts Ab2;obtain⟨bs,be⟩:=bt;obtain⟨n,a5⟩:=nmd (size.toNat);rw[a5];have ca:n<=200:=by omega
 have b6:(n:Int)<=200:=by omega
 have b1:=Aa hr;have b3:=Aa aj;have C:=Aa (Ag4 pass w hk h0 ah);have bv:∀w,(zeroValue 155).run Tryz.prog w=.ok (.agg (Aj .u8 (List.replicate 32 0)).toArray) w:=fun _=>by kernel_rfl
 obtain⟨l,Q⟩:=nmd ((Aj .u8 (List.replicate 32 0)).toArray);rw[Q]at bv;have ao:l.size=32:=by rw[<-Q];rfl
 have bp:=hk.lt;have cj:∀w,(convert 54 9 (.slice none 0 0)).run Tryz.prog w=.ok (.string ⟨#[]⟩) w:=fun _=>by kernel_rfl
 clear hr aj ah Q;go_enter Tryz.func74,Tryz.ntmps74;by_cases K:size<0
 ·have hd:decide (size<0)=true:=by simpa using K
  have N:n=0:=by omega
  subst N;go_wp2_with fail;refine C.o.mono ?_;rintro e w1 ⟨b,ap,au,a7,av,rfl,ae,ai,Y,ac,ag,M,V,y⟩;clear C ae ac ag M V ai Y hd K;go_wp2_with fail
  go_loopw [10,11,12] (fun t i _ wr=>t=.slice none 0 0/\i=.int .u32 1/\Bw w wr) (fun _ _ _ _=>0)
  case atStart=>exact⟨rfl,rfl,y⟩
  case round=>obtain⟨rfl,rfl,c⟩:=hrel;go_wp2_with fail;go_ret;exact⟨rfl,c⟩
 ·have hd:decide (size<0)=false:=by simpa using K
  have bz:size=(n:Int):=by omega
  subst bz;go_wp2_with fail;refine C.o.mono ?_;rintro e w1 ⟨b,ap,au,a7,av,rfl,ae,ai,Y,ac,ag,M,V,y⟩;have aq:=hk.below y bp;clear C hd K bs be a5;have b4:=y.size;go_wp2_with fail;obtain⟨T,ba⟩:=nmd (Wx d);have a9:=Aa ba;clear ba
  go_loopw [10,11,12] (fun t i _ wr=>∃(m:Nat) (I:Option Addr) (cap:Nat),m<=(n+31)/32/\i=.int .u32 ((m+1:Nat):Int)/\t=.slice I (32*m) cap/\Hid (m=0->I=none/\cap=0)/\wr.ownsRow w1.heap.size 5 1 (.slice I (32*m) cap) (32*m) (Ae (Uq pass salt T m))/\Bw w1 wr) (fun _ i _ _=>(10-intOf i).toNat)
  case atStart=>exact⟨0,none,0,by omega,rfl,rfl,fun _=>⟨rfl,rfl⟩,Sn _ _ _ _,Ah _ _⟩
  case round=>
   obtain⟨m,I,cap,b9,rfl,rfl,aa,f,c⟩:=hrel;have J:=ae.below c Y;have H:=aq.below c aq.lt;have bf:=c.size;obtain⟨q,ay⟩:=nmd (32*m);obtain⟨p,j⟩:=nmd (m+1);rw[ay]at f⊢;rw[j];by_cases ci:q<n
   ·have cb:(q:Int)<(n:Int):=by omega
    have bo:p<=8:=by omega
    have cd:(p:Int)<=8:=by omega
    have P:=A0b b ap a7 au av pass salt p d wr J ac ag M V H b3.o bo b1.o;rw[a9.o]at P;have G:=Aa P;have u:Uq pass salt T (m+1)=Uq pass salt T m++Mb pass salt (m+1) T:=rfl;have S:=Af1 pass salt p T;rw[j]at u;obtain⟨s,az⟩:=nmd (Mb pass salt p T);rw[az]at u G S;have X:∀v∈Ae s,v.oneCell'=true:=by rw[<-Dw];exact Nk _ _
    have W:∀v∈Ae s,v.cells= #[v]:=by intro v o;simp only[Ae,Kj]at o;obtain⟨x,_,rfl⟩:=o;rfl
    have F:(Ae s).length=32:=by rw[Jo,S]
    have z:=Aa7 (Uq pass salt T m) s;rw[<-u]at z;obtain⟨a,a6⟩:=nmd (Ae s);rw[a6]at X W F z G;have bc:=Aa (show(Tryz.prog.info? 155).map (·.size)=some a.toArray.size from by rw[Uv,F];kernel_rfl);have Z:=Aa F;have am:=Aa z;have b2:=Aa u;have bq:=Aa W;clear P u S az a6 F z W J H;go_wp2_with fail;refine G.o.mono ?_;rintro e w2 ⟨rfl,r⟩;clear G;have aw:=Agk w2 155 l a (by rw[ao,Z.o])
    have ad:Bw wr ((w2.alloc (.cells l 155)).setCells w2.heap.size 0 a):=
     (r.alloc r.size _).trans (Ec _ _ _ _ _ r.size)
    have a2:=Ac8 f ad;have a0:((w2.alloc (.cells l 155)).setCells w2.heap.size 0 a).heap.size=w2.heap.size+1:=by rw[(Np _ _ _ _).1];simp
    have a8:Bw w1 ((w2.alloc (.cells l 155)).setCells w2.heap.size 0 a):=c.trans (ad.mono bf);have ch:=r.size;have a3:=Aa aw;have an:=Aa a8;have ab:=Aa a2;have af:=Aa a0;clear aw ad a2 a0 a8 f c r;go_wp2_with (first|refine wpList_store_mid rfl 155 _ _ rfl w2.heap.size 0 a.toArray rfl rfl ?c0 bc.o (all_oneCell_toArray X) ?_|(at_builtin;refine wpList_append_lies _ rfl _ _ 54 rfl w1.heap.size 5 bu (.int .u8 0) 1 1 Tryz.underlying54 bg bl bm bd rfl (by decide) _ _ _ rfl ab.o ⟨w2.heap.size,0,none⟩ 32 32 a rfl (by rw[Z.o]) ?c1 ?c2 (by decide) ?c3 ?c4 ?c5 _ rfl ?_))
    case c0=>
     have e:a.toArray.size=l.size:=by rw[ao];simpa using Z.o
     rw[e];exact Iy w2 _ _
    case c1=>exact Qt (cs:=a.toArray) a3.o
    case c2=>exact X
    case c3=>unfold maxLen;omega
    case c4=>omega
    case c5=>rw[af.o];omega
    intro a4 ar bb E a1 bh ce;have ax:Bw w1 bb:=Below.grown an.o a1 (by rw[af.o];omega) (fun k hk=>(ab.o.lt k hk).1);rw[<-am.o]at E;have bk:q+32=32*p:=by omega
    rw[bk]at E⊢;have D:=Aa (Ab E ax);clear E ax a1 bh am b2 bq a3 an ab af;go_wp2_with fail
    go_roundw
    case rel=>first
     |exact⟨m+1,some ⟨a4,0,none⟩,ar,by omega,by go_num,by rw[j],fun h=>by omega,by rw[j];exact D.o.1,D.o.2⟩
     |((repeat apply Exists.intro);exact⟨⟨m+1,some ⟨a4,0,none⟩,ar,by omega,by go_num,by rw[j],fun h=>by omega,by rw[j];exact D.o.1,D.o.2⟩,rfl⟩)
    case measure=>simp[intOf];omega
   ·have O:m=(n+31)/32:=by omega
    have A:=Apx pass salt T m;rw[ay]at A;have L:(Uq pass salt T m).take n=Su pass salt d n:=by unfold Su;rw[a9.o,<-O]
    have ak:Bw w wr:=y.trans (c.mono b4);have bn:¬(q:Int)<(n:Int):=by omega
    have br:(q:Int)<=300:=by omega
    have b0:(n:Int)<=(q:Int):=by omega
    rcases Nat.eq_zero_or_pos m with bi|cg
    ·have N:n=0:=by omega
     have bj:q=0:=by omega
     obtain⟨rfl,rfl⟩:=aa.o bi;subst N;subst bj;clear L O A f bn b0 br J H;go_wp2_with fail;go_ret;exact⟨rfl,ak⟩
    ·obtain⟨g,cl,o⟩:=Xj f (by omega);cases o;have al:=At7 f A (by omega:n<=q);rw[L]at al
     have b8:q<=cap:=by
      rcases f.2 with⟨_,h0⟩|⟨b5,cf,cur,o,h1,h2,b7,ck⟩
      ·omega
      ·cases o;omega
     have cc:(n:Int)<=(cap:Int):=by omega
     have bx:=aa;clear L O A f J H aa bx;obtain⟨R,U⟩:=nmd (Su pass salt d n);rw[U]at al;have bw:=Aa U;clear U;go_wp2_with fail;go_ret;exact⟨by rw[bw.o];rfl,ak⟩
end Go.Proofs.YtojgilcdgccojaaGreatDoor
