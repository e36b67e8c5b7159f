import Derived.Deep.MidRow
import Derived.Deep.RegionHeld
import Derived.Deep.RegionLaw
import Derived.Laws.BitsAllLaws
import Derived.Lib.AppendStr
import Derived.Lib.Strings
import Derived.Test.YtojgilcdgccojaaGreatDoorAl
import Derived.Test.YtojgilcdgccojaaGreatDoorMAd
import Derived.Test.YtojgilcdgccojaaGreatDoorMAb
set_option linter.unusedSimpArgs false
set_option maxRecDepth 100000
set_option maxHeartbeats 8000000
namespace Go.Proofs.YtojgilcdgccojaaGreatDoor
open Go.RowKit
structure Br (w:World)(g:Nat)(k:IntKind)(xs:List Nat):Prop where
 lt:g<w.heap.size
 at_:∀i,i<xs.length->w.cell? ⟨g,i,none⟩=some (.int k ((xs.getD i 0:Nat):Int))
theorem Br.below {w w':World}{g B:Nat}{k:IntKind}{xs:List Nat}(h:Br w g k xs)(hb:Below B w w')(a:g<B):Br w' g k xs:=
 ⟨Eu h.lt hb.size,fun i b=>(hb.cell (p:=⟨g,i,none⟩) a).trans (h.at_ i b)⟩
theorem Br.of_own {w:World}{base g cap:Nat}{e:TypeId}{k:IntKind}{xs:List Nat}(h:w.ownsRow base e 1 (.slice (some ⟨g,0,none⟩) xs.length cap) xs.length (Aj k xs)):Br w g k xs:=by refine⟨(h.lt g rfl).2,fun i a=>?_⟩;rw[h.cellAt i (by omega)];simp[Aj,Az a]
theorem Ary (k:IntKind)(xs:List Nat)(i x:Nat):Aj k (xs.set i x)=(Aj k xs).set i (.int k (x:Int)):=by simp[Aj,List.map_set]
theorem Nk (k:IntKind)(xs:List Nat):∀u∈Aj k xs,u.oneCell'=true:=by intro u a;obtain⟨n,_,rfl⟩:=Kj.1 a;rfl
theorem Br.grown {w w':World}{g:Nat}{k:IntKind}{xs:List Nat}{v:Value}(h:Br w g k xs)(a:w.grownBy w' v.ownBlock)(b:v.ownBlock≠some g:=by simp[Value.ownBlock]):Br w' g k xs:=
 ⟨Eu h.lt a.size,fun i c=>(a.cell_far ⟨g,i,none⟩ h.lt (fun e=>b e.symm)).trans (h.at_ i c)⟩
def Ae (l:By):List Value:=l.map fun b=>.int .u8 (b.toNat:Int)
def Ap (l:By):List Nat:=l.map UInt8.toNat
theorem Dt (l:By):(Ap l).length=l.length:=by simp[Ap]
theorem Aem (l:By)(i:Nat):(Ap l).getD i 0<256:=by
 by_cases h:i<l.length
 ·simp[Ap,Az h];exact(l[i]).toNat_lt
 ·simp[Ap,Sk (by omega:l.length<=i)]
theorem Dw (l:By):Aj .u8 (Ap l)=Ae l:=by simp[Aj,Ap,Ae,Function.comp_def]
theorem Br.of_block {w:World}{g:Nat}{t:TypeId}{fr:Nat×Nat}{k:IntKind}{xs:List Nat}(h:w.heap[g]?=some (.cells (Aj k xs).toArray t fr)):Br w g k xs:=by refine⟨lt_of_block h,fun i a=>?_⟩;rw[cell_of_row _ _ _ _ _ _ h];simp[Aj,Az a]
theorem Br.alloc {w:World}{g:Nat}{k:IntKind}{xs:List Nat}(h:Br w g k xs)(a:Obj):Br (w.alloc a) g k xs:=h.below ((Ah _ _).alloc (Ak _) a) h.lt
theorem Iy (w:World)(c:Array Value)(t:TypeId):(w.alloc (.cells c t)).there w.heap.size 0 c.size:=by
 intro j a;rw[Dq];refine⟨?_,?_⟩
 ·rw[Xv _ _ _ _ rfl];simp[a]
 ·exact World.frozen?_alloc_at _ _ _ _ rfl
theorem Qe {w w':World}{b a n B:Nat}(h:w.there b a n)(hb:Below B w w')(c:b<B):w'.there b a n:=by intro j d;rw[hb.cell (p:=⟨b,a+j,none⟩) c,hb.frozen (p:=⟨b,a+j,none⟩) c];exact h j d
theorem Mr (k:IntKind)(xs:List Nat)(i:Nat)(a:i<xs.length):(Aj k xs).toArray[i]?=some (.int k ((xs.getD i 0:Nat):Int)):=by simp[Aj,Az a]
theorem Ac6 (w:World)(a p:Addr)(v:Value)(h:p.block≠a.block):(w.setCell a v).drew.cell? p=w.cell? p:=
 Lv (w:=w) (Nf w a v p.block h)
theorem Ah7 (a b i:Nat)(ha:a%2^i=0)(hb:b<2^i):a|||b=a+b:=nat_join i a b ha hb
theorem Ta {w:World}{b:Nat}{t:TypeId}{k:IntKind}{xs:List Nat}(h:Bo w b t k xs):w.rangeAt b 0 (Aj k xs):=by
 intro j v d;obtain⟨e,c⟩:=Ds.1 d;have a:j<xs.length:=by simpa [Aj]using e
 rw[Dq,h.cell a,<-c];simp[Aj,Az a]
theorem Np (b:Nat):∀(c:List Value) (a:Nat) (w:World),(w.setCells b a c).heap.size=w.heap.size/\(w.setCells b a c).os=w.os/\(w.setCells b a c).tape=w.tape/\(w.setCells b a c).output=w.output/\∀k,k≠b->(w.setCells b a c).heap[k]?=w.heap[k]?
 | [],a,w=>⟨rfl,rfl,rfl,rfl,fun _ _=>rfl⟩
 |v::c,a,w=>by obtain⟨h1,h2,e,f,d⟩:=Np b c (a+1) (w.setCell ⟨b,a,none⟩ v);refine⟨h1.trans (by simp[World.setCell]),h2,e,f,fun k hk=>(d k hk).trans (Nf w ⟨b,a,none⟩ v k hk)⟩
theorem Ec (w:World)(B b a:Nat)(c:List Value)(hb:B<=b):Below B w (w.setCells b a c):=by obtain⟨h1,h2,e,f,d⟩:=Np b c a w;exact⟨h2,e,f,by omega,fun k hk=>d k (by omega)⟩
theorem Mf {P:Program}{f:Func}{p:Tmp}{c:TypeId}(h:f.results= #[.cell p c])(e:Array Value)(w:World)(b a:Nat)(cs:List Value)(d:TypeDesc)
  (l:e.getD p undef=.pointer (some ⟨b,a,none⟩)) (g:w.rangeAt b a cs)
  (i:P.underlying c=some d) (hd:d.isRow=true) (k:(P.info? c).map (·.size)=some cs.length):
  (results f e).run P w=.ok (.agg cs.toArray) w:=by
 have j:e[p]?.getD undef=.pointer (some ⟨b,a,none⟩):=by simpa using l
 simp[results,h,j,asAddr,run_loadVar_mid w b a c cs d g i hd k]
theorem Ab2:(Tryz.prog.info? 5).map (fun i=>(i.zero,i.size,i.bytes))=some (some (.int .u8 0),1,1):=by kernel_rfl
theorem Aig (l:By):Lib.strCells ⟨l.toArray⟩=Ae l:=by simp[Lib.strCells,Ae]
theorem Aa7 (a b:By):Ae (a++b)=Ae a++Ae b:=by simp[Ae]
theorem Jo (a:By):(Ae a).length=a.length:=by simp[Ae]
theorem Aqn {w:World}{base g cap n:Nat}{e:TypeId}{l:By}(h:w.ownsRow base e 1 (.slice (some ⟨g,0,none⟩) n cap) n (Ae l))(b:l.length=n):
  (convert 54 9 (.slice (some ⟨g,0,none⟩) n cap)).run Tryz.prog w=.ok (.string ⟨l.toArray⟩) w:=by
 subst b;refine run_convert_bytes_back (P:=Tryz.prog) w 54 9 5 ⟨g,0,none⟩ cap l Tryz.underlying54 Tryz.underlying5 Tryz.underlying9 (fun j a=>?_);rw[Addr.add_mid,Dq,h.cellAt j (by omega)];simp[Ae,Az a]
theorem Xj {w:World}{base:Nat}{e:TypeId}{v:Value}{n:Nat}{xs:List Value}(h:w.ownsRow base e 1 v n xs)(b:0<n):∃g cap,v=.slice (some ⟨g,0,none⟩) n cap:=by
 rcases h.2 with⟨_,h0⟩|⟨g,cap,cur,a,_⟩
 ·omega
 ·exact⟨g,cap,a⟩
theorem Yr (b:Nat)(t:TypeId):∀(e:List Value) (a:Nat) (w:World) (c:Array Value),w.heap[b]?=some (.cells c t (0,0))->∃d,(w.setCells b a e).heap[b]?=some (.cells d t (0,0))/\d.size=c.size
 | [],a,w,c,h=>⟨c,h,rfl⟩
 |v::e,a,w,c,h=>by obtain⟨d,h1,h2⟩:=Yr b t e (a+1) (w.setCell ⟨b,a,none⟩ v) _ (Cx h a v);exact⟨d,h1,by simpa using h2⟩
theorem Agk (w:World)(t:TypeId)(c:Array Value)(a:List Value)(h:c.size=a.length):((w.alloc (.cells c t)).setCells w.heap.size 0 a).heap[w.heap.size]?=some (.cells a.toArray t (0,0)):=by
 obtain⟨b,h1,h2⟩:=Yr w.heap.size t a 0 (w.alloc (.cells c t)) c (heap_alloc_new w _)
 have e:b=a.toArray:=by
  apply Array.ext';apply List.ext_getElem?;intro i;have g:((w.alloc (.cells c t)).setCells w.heap.size 0 a).cell? ⟨w.heap.size,i,none⟩=b[i]?:=cell_of_row _ _ _ _ _ _ h1;by_cases d:i<a.length
  ·have f:=Vw w.heap.size a 0 (w.alloc (.cells c t)) (fun k hk=>(Iy w c t k (by omega)).1) i d;rw[Dq,g]at f;simp[f,Az d]
  ·simp[Ot (by omega:b.size<=i),Sk (by omega:a.length<=i)]
 rw[h1,e]
theorem Agv (l:By):(l.map UInt8.toNat).map UInt8.ofNat=l:=by simp[Function.comp_def]
theorem Zw (n:Nat)(a:n<=1000)(w:World):(Instr.makeSlice 54 (.int .i64 (n:Int)) (.int .i64 (n:Int))).run Tryz.prog w=.ok (.slice (some ⟨w.heap.size,0,none⟩) n n) (w.alloc (.cells (madeCells #[.int .u8 0] n) 5)):=
 run_make_row' (P:=Tryz.prog) 54 5 (.int .u8 0) 1 Tryz.underlying54 Ab2 rfl .i64 .i64 n (by omega) (by omega) w
theorem Az2:∀x:Fin 256,128<=x.val->Hp x.val=(x.val*2%256)^^^27:=by decide+kernel
theorem Ars (x:Nat)(h:¬128<=x):Hp x=x*2:=by unfold Hp;rw[if_neg (by omega)];omega
theorem Zk (x:Nat)(w:World)(a:x<256):
  Cl 120 #[.int .u8 (x:Int)] w fun e w'=>e=.returned (.int .u8 ((Hp x:Nat):Int))/\w'=w:=by
 have c:(x:Int)<256:=by omega
 by_cases h:128<=x
 ·have b:(128:Int)<=(x:Int):=by omega
  have e:bits .xor .u8 ((x:Int)*2%256) 27=((Hp x:Nat):Int):=by
   have h1:(x:Int)*2%256=((x*2%256:Nat):Int):=by omega
   have h2:=u8_xor_nat (x*2%256) 27 (by omega) (by decide);rw[h1];exact h2.trans (by rw[<-Az2 ⟨x,a⟩ h])
  go_enter Tryz.func120,Tryz.ntmps120
  go_wp2
  go_ret;exact⟨Tb rfl,rfl⟩
 ·have b:¬(128:Int)<=(x:Int):=by omega
  have e:=Ars x h;go_enter Tryz.func120,Tryz.ntmps120
  go_wp2
  go_ret;exact⟨Tb (by omega),rfl⟩
theorem Ay8 (x:Nat)(n:Int)(a:x<256)(c:1<=n)(b:n<=7):bits .or .u8 ((x:Int)*2^n.toNat%256) ((x:Int)/2^(8-n).toNat)=((Nm x n.toNat:Nat):Int):=by
 have e1:(x:Int)/2^(8-n.toNat)=((x/2^(8-n.toNat):Nat):Int):=by simp
 have e2:(8-n).toNat=8-n.toNat:=by omega
 have e3:(x:Int)*2^n.toNat%256=((x*2^n.toNat%256:Nat):Int):=by simp
 rw[e2,e1,e3,u8_or_nat _ _ (Gs _ (by decide)) (Nat.lt_of_le_of_lt (Nat.div_le_self _ _) a)];rfl
theorem Aek (x:Nat)(n:Int)(w:World)(a:x<256)(b:1<=n)(c:n<=7):
  Cl 122 #[.int .u8 (x:Int),.int .u32 n] w fun e w'=>e=.returned (.int .u8 ((Nm x n.toNat:Nat):Int))/\w'=w:=by
 have d:(x:Int)<256:=by omega
 go_enter Tryz.func122,Tryz.ntmps122
 go_wp2
 go_ret;exact⟨Tb (Ay8 x n a b c),rfl⟩
theorem Asf (x:Nat)(w:World)(a:x<256):Cl 122 #[.int .u8 (x:Int),.int .u32 1] w fun e w'=>e=.returned (.int .u8 ((Nm x 1:Nat):Int))/\w'=w:=Aek x 1 w a (by decide) (by decide)
theorem Azk (x:Nat)(w:World)(a:x<256):Cl 122 #[.int .u8 (x:Int),.int .u32 2] w fun e w'=>e=.returned (.int .u8 ((Nm x 2:Nat):Int))/\w'=w:=Aek x 2 w a (by decide) (by decide)
theorem Asw (x:Nat)(w:World)(a:x<256):Cl 122 #[.int .u8 (x:Int),.int .u32 3] w fun e w'=>e=.returned (.int .u8 ((Nm x 3:Nat):Int))/\w'=w:=Aek x 3 w a (by decide) (by decide)
theorem A2w (x:Nat)(w:World)(a:x<256):Cl 122 #[.int .u8 (x:Int),.int .u32 4] w fun e w'=>e=.returned (.int .u8 ((Nm x 4:Nat):Int))/\w'=w:=Aek x 4 w a (by decide) (by decide)
theorem Agw (x c:Nat)(a:x<256):bits .xor .u8 (x:Int) ((x:Int)*(c:Int)%256)=((x^^^c*x%256:Nat):Int):=by
 have h1:(x:Int)*(c:Int)%256=((c*x%256:Nat):Int):=by rw[Int.mul_comm];simp
 rw[h1,u8_xor_nat _ _ a (Gs _ (by decide))]
theorem A10 (x:Nat)(w:World)(k:x<256):
  Cl 121 #[.int .u8 (x:Int)] w fun e w'=>e=.returned (.int .u8 ((Ab4 x:Nat):Int))/\w'=w:=by
 have o:(x:Int)<256:=by omega
 have e1:bits .xor .u8 (x:Int) ((x:Int)*2%256)=((Abo x:Nat):Int):=Agw x 2 k;have la:Abo x<256:=Jr k (Gs _ (by decide));have j:Ab4 x=Aim (Abm (Abb (Abo x))):=rfl;rw[j];clear j;generalize Abo x=a at*;have e2:bits .xor .u8 (a:Int) ((a:Int)*4%256)=((Abb a:Nat):Int):=Agw a 4 la;have g:Abb a<256:=Jr la (Gs _ (by decide));generalize Abb a=b at*;have e3:bits .xor .u8 (b:Int) ((b:Int)*16%256)=((Abm b:Nat):Int):=Agw b 16 g;have i:Abm b<256:=Jr g (Gs _ (by decide));generalize Abm b=c at*;have p:(a:Int)<256:=by omega
 have m:(b:Int)<256:=by omega
 have n:(c:Int)<256:=by omega
 have f:=u8_xor_nat c 9 i (by decide);have d:Aim c=if 128<=c then c^^^9 else c:=rfl;clear la g;by_cases h:128<=c
 ·have l:(128:Int)<=(c:Int):=by omega
  rw[if_pos h]at d;rw[d];have q:bits .xor .u8 (c:Int) 9=((c^^^9:Nat):Int):=f;clear d f h i;go_enter Tryz.func121,Tryz.ntmps121
  go_wp2
  go_ret;exact⟨Tb rfl,rfl⟩
 ·have l:¬(128:Int)<=(c:Int):=by omega
  rw[if_neg h]at d;rw[d];clear d f h i;go_enter Tryz.func121,Tryz.ntmps121
  go_wp2
  go_ret;exact⟨Tb rfl,rfl⟩
structure RR (w:World)(t:TypeId)(n:Nat)(xs:List Nat)(wr:World):Prop where
 res:wr.there w.heap.size 0 n
 row:Bo wr (w.heap.size+1) t .u8 xs
 len:xs.length=n
 bel:Bw w wr
theorem RR.start (w:World)(t:TypeId)(n:Nat)(a C:Array Value)(xs:List Nat)(c:a.size=n)(b:C=(Aj .u8 xs).toArray)(e:xs.length=n):
  RR w t n xs ((w.alloc (.cells a t)).alloc (.cells C t)):=by
 refine⟨?_,?_,e,((Ah _ _).alloc (Ak _) _).alloc (by simp) _⟩
 ·have h:=Iy w a t;rw[c]at h;exact World.there_alloc h _
 ·have h:=Bo.new (w.alloc (.cells a t)) t .u8 xs C (by rw[b];simp[Aj]) (fun i d=>by rw[b];exact Mr .u8 _ i d);simpa using h
theorem RR.set {w:World}{t:TypeId}{n:Nat}{xs:List Nat}{wr:World}(h:RR w t n xs wr)(i x:Nat):RR w t n (xs.set i x) (wr.setCell ⟨w.heap.size+1,i,none⟩ (.int .u8 (x:Int))):=by have hb:Below (w.heap.size+1) wr (wr.setCell ⟨w.heap.size+1,i,none⟩ (.int .u8 (x:Int))):=Below.setCell (B:=w.heap.size+1) (Ah _ _) (Ak (w.heap.size+1)) _;exact⟨Qe h.res hb (by omega),h.row.set i x,by simp[h.len],h.bel.setCell (by simp) _⟩
theorem RR.cell {w:World}{t:TypeId}{n:Nat}{xs:List Nat}{wr:World}(h:RR w t n xs wr)(i:Nat)(a:i<n):wr.cell? ⟨w.heap.size+1,i,none⟩=some (.int .u8 ((xs.getD i 0:Nat):Int)):=h.row.cell (by rw[h.len];exact a)
theorem A3u (q:Nat)(a:q<256):
  bits .xor .u8 (bits .xor .u8 (bits .xor .u8 (bits .xor .u8 (bits .xor .u8 99 (q:Int)) ((Nm q 1:Nat):Int)) ((Nm q 2:Nat):Int)) ((Nm q 3:Nat):Int)) ((Nm q 4:Nat):Int)=((Aak q:Nat):Int):=by
 have hr:∀n,1<=n->n<=7->Nm q n<256:=fun n h1 h2=>Nat.or_lt_two_pow (n:=8) (Gs _ (by decide)) (Nat.lt_of_le_of_lt (Nat.div_le_self _ _) a);have h0:bits .xor .u8 99 (q:Int)=((99^^^q:Nat):Int):=u8_xor_nat 99 q (by decide) a;have b:99^^^q<256:=Jr (by decide) a;have l1:=Jr b (hr 1 (by decide) (by decide));have l2:=Jr l1 (hr 2 (by decide) (by decide));have c:=Jr l2 (hr 3 (by decide) (by decide));rw[h0,u8_xor_nat _ _ b (hr 1 (by decide) (by decide)),u8_xor_nat _ _ l1 (hr 2 (by decide) (by decide)),u8_xor_nat _ _ l2 (hr 3 (by decide) (by decide)),u8_xor_nat _ _ c (hr 4 (by decide) (by decide))];rfl
theorem Av9 (w:World):
  Cl 102 #[] w fun e w'=>e=.returned (.agg (Aj .u8 Gc).toArray)/\Bw w w':=by
 have s:∀w,(zeroValue 160).run Tryz.prog w=.ok (.agg (Aj .u8 (List.replicate 256 0)).toArray) w:=fun _=>by kernel_rfl
 obtain⟨f,b⟩:=nmd ((Aj .u8 (List.replicate 256 0)).toArray);rw[b]at s;have x:f.size=256:=by rw[<-b];simp[Aj]
 have j:=RR.start w 160 256 f (f.setIfInBounds 0 (.int .u8 99)) (Pj 0) x (by rw[<-b,Pj,Ary];simp) (Agp 0);have o:=Aa j;rw[<-Ajb];clear j b;go_enter Tryz.func102,Tryz.ntmps102;go_wp2_with fail
 go_loopw [2,3,4] (fun p q i wr=>∃k:Nat,k<=255/\p=.int .u8 ((Ob k:Nat):Int)/\q=.int .u8 ((Sb k:Nat):Int)/\i=.int .i64 (k:Int)/\RR w 160 256 (Pj k) wr) (fun _ _ i _=>(256-intOf i).toNat)
 case atStart=>exact⟨0,by omega,rfl,rfl,rfl,o.o⟩
 case round=>
  clear o s;obtain⟨k,hk,rfl,rfl,rfl,hr⟩:=hrel;by_cases F:k<255
  ·have O:(k:Int)<255:=by omega
   have d:=Aos k;have H:=Aos (k+1);have A:=Al2 k;have a:=Al2 (k+1);have P:bits .xor .u8 ((Ob k:Nat):Int) ((Hp (Ob k):Nat):Int)=((Ob (k+1):Nat):Int):=u8_xor_nat _ _ d (Yc _ d);have z:Ab4 (Sb k)=Sb (k+1):=rfl;have Q:=hr.cell (Ob (k+1)) H;have L:=hr.row.frozen (Ob (k+1));have g:=hr.set (Ob (k+1)) (Aak (Sb (k+1)));have l:(Pj k).set (Ob (k+1)) (Aak (Sb (k+1)))=Pj (k+1):=rfl;have N:=A3u _ a;rw[l]at g;have D:=Aa g;clear g l;generalize t:Ob (k+1)=p' at*;generalize m:Sb (k+1)=q' at*;have r:=Aa (Ab t m);clear t m;generalize Ob k=p at*;generalize Sb k=q at*;have M:(p':Int)<256:=by omega
   generalize(Pj k).getD p' 0=y at*;go_wp2_with fail;refine(Zk p _ d).mono ?_;rintro e w1 ⟨rfl,rfl⟩;go_wp2_with fail;refine(A10 q _ A).mono ?_;rintro e w1 ⟨rfl,rfl⟩;rw[z];go_wp2_with fail;refine(Asf q' _ a).mono ?_;rintro e w1 ⟨rfl,rfl⟩;go_wp2_with fail;refine(Azk q' _ a).mono ?_;rintro e w1 ⟨rfl,rfl⟩;go_wp2_with fail;refine(Asw q' _ a).mono ?_;rintro e w1 ⟨rfl,rfl⟩;go_wp2_with fail;refine(A2w q' _ a).mono ?_;rintro e w1 ⟨rfl,rfl⟩;go_wp2_with fail
   go_roundw
   case rel=>exact⟨k+1,by omega,by rw[r.o.1],by rw[r.o.2],by go_num,D.o⟩
   case measure=>simp[intOf];omega
  ·have I:k=255:=by omega
   subst I;have G:=Ta hr.row;have n:=hr.res;have c:(Aj .u8 (Pj 255)).length=256:=by rw[Aj,Fi,Agp]
   have hb:=hr.bel;generalize u:Aj .u8 (Pj 255)=V at*;have C:∀v∈V,v.oneCell'=true:=by rw[<-u];exact Nk _ _
   have h:=Aa (show(Tryz.prog.info? 160).map (·.size)=some V.length from by rw[c];kernel_rfl);have J:Bw w (wr.setCells w.heap.size 0 V):=hb.trans (Ec wr w.heap.size _ 0 V (by omega));have K:=Oq wr w.heap.size 0 V (by rw[c];exact n);have E:=Aa c;clear c hr F;go_wp2_with (first|refine wpList_load_mid rfl 160 _ rfl (w.heap.size+1) 0 rfl V _ G Tryz.underlying160 rfl h.o ?_|refine wpList_store_mid rfl 160 _ _ rfl w.heap.size 0 V.toArray rfl rfl (by simpa [E.o]using n) (by simpa using h.o) (all_oneCell_toArray C) ?_);exact bodyPost_ret (v:=.agg V.toArray) (Mf Tryz.results102 _ _ w.heap.size 0 V _ rfl K Tryz.underlying160 rfl h.o) rfl ⟨by rw[u],J⟩
def At (e:Nat):Array Value:= #[.int .u64 ((e/2^64:Nat):Int),.int .u64 ((e%2^64:Nat):Int)]
theorem Xd {w:World}{b:Nat}{t:TypeId}{fr:Nat×Nat}{c:Array Value}(h:w.heap[b]?=some (.cells c t fr)):w.rangeAt b 0 c.toList:=by intro j v a;rw[Dq,cell_of_row _ _ _ _ _ _ h];simpa using a
theorem Awr (x a:Value):(Tryz.prog.info? 201).map (·.size)=some [x,a].length:=by kernel_rfl
theorem Zv {d:Func}{p:Tmp}(h:d.results= #[.cell p 201])(c:Array Value)(w:World)(b:Nat)(x a:Value){t:TypeId}{fr:Nat×Nat}
  (e:c.getD p undef=.pointer (some ⟨b,0,none⟩)) (f:w.heap[b]?=some (.cells #[x,a] t fr)):(results d c).run Tryz.prog w=.ok (.agg #[x,a]) w:=
 Mf h c w b 0 [x,a] _ e (Xd f) Tryz.underlying201 rfl (Awr x a)
theorem Aqr (w:World)(a p:Obj):((w.alloc a).alloc p).heap[w.heap.size+1]?=some p:=by have:=heap_alloc_new (w.alloc a) p;simpa using this
theorem Abi (w:World)(a p q:Obj):(((w.alloc a).alloc p).alloc q).heap[w.heap.size+1+1]?=some q:=by have:=heap_alloc_new ((w.alloc a).alloc p) q;simpa using this
theorem Aac (w:World)(a p q:Obj):(((w.alloc a).alloc p).alloc q).heap[w.heap.size+1]?=some p:=by rw[Mn _ _ _ (by simp)];exact Aqr w a p
theorem Zn (w:World)(a p q:Obj):Bw w (((w.alloc a).alloc p).alloc q):=(((Ah _ _).alloc (Ak _) _).alloc (by simp) _).alloc (by simp;omega) _
theorem Ach (n:Nat):IntKind.u64.wrap (n:Int)=((n%18446744073709551616:Nat):Int):=by simp[IntKind.wrap,IntKind.bits,IntKind.signed]
theorem Vf (a b:Nat)(w:World)(ha:a<2^128)(hb:b<2^128):
  Cl 148 #[.agg (At a),.agg (At b)] w fun e w'=>e=.returned (.agg (At (a^^^b)))/\Bw w w':=by
 unfold At;have h1:a/2^64<18446744073709551616:=by omega
 have h2:b/2^64<18446744073709551616:=by omega
 have d:a%2^64<18446744073709551616:=Gs _ (by decide);have c:b%2^64<18446744073709551616:=Gs _ (by decide);have g:=u64_xor_nat _ _ h1 h2;have f:=u64_xor_nat _ _ d c;rw[Ap7,Ale];generalize a/2^64=ah at*;generalize b/2^64=bh at*;generalize a%2^64=al at*;generalize b%2^64=bl at*;clear h1 h2 d c;go_enter Tryz.func148,Tryz.ntmps148;go_wp2_with fail;exact bodyPost_ret (Zv Tryz.results148 _ _ _ _ _ rfl (Abi w _ _ _)) rfl ⟨rfl,Zn w _ _ _⟩
theorem Amj (a:Nat)(w:World)(ha:a<2^128):
  Cl 155 #[.agg (At a)] w fun e w'=>e=.returned (.agg (At (sh a)))/\Bw w w':=by
 unfold At;have h1:a/2^64<18446744073709551616:=by omega
 have f:a%2^64<18446744073709551616:=Gs _ (by decide);rw[Atb,As0];generalize a/2^64=ah at*;generalize a%2^64=al at*;clear ha;have d:ah%2*9223372036854775808<18446744073709551616:=by omega
 have hw:IntKind.u64.wrap ((ah:Int)*9223372036854775808)=((ah%2*9223372036854775808:Nat):Int):=by
  rw[show(ah:Int)*9223372036854775808=((ah*9223372036854775808:Nat):Int)by simp,Ach]
  congr 1;omega
 have k:bits .or .u64 ((ah%2*9223372036854775808:Nat):Int) ((al:Int)/2)=((ah%2*9223372036854775808|||al/2:Nat):Int):=by rw[show(al:Int)/2=((al/2:Nat):Int)by omega];exact u64_or_nat _ _ d (by omega)
 have b:bits .and .u64 (al:Int) 1=((al%2:Nat):Int):=by have:=u64_and_nat al 1 f (by decide);rw[Nat.and_one_is_mod]at this;exact this
 have i:bits .xor .u64 ((ah:Int)/2) 16212958658533785600=((ah/2^^^16212958658533785600:Nat):Int):=by rw[show(ah:Int)/2=((ah/2:Nat):Int)by omega];exact u64_xor_nat _ 16212958658533785600 (by omega) (by decide)
 have g:(2:Nat)^63=9223372036854775808:=rfl;have h:225*(2:Nat)^56=16212958658533785600:=rfl;rw[g,h];clear h1 f d g h;generalize ah%2*9223372036854775808|||al/2=lo at*;generalize ah%2*9223372036854775808=mm at*;by_cases c:al%2=1
 ·rw[if_pos c];rw[c]at b;have j:bits .and .u64 (al:Int) 1=1:=b;clear b c;generalize ah/2^^^16212958658533785600=hi at*;go_enter Tryz.func155,Tryz.ntmps155;go_wp2_with fail;exact bodyPost_ret (Zv Tryz.results155 _ _ _ _ _ rfl (Aac w _ _ _)) rfl ⟨rfl,Zn w _ _ _⟩
 ·rw[if_neg c];have h0:al%2=0:=by omega
  rw[h0]at b;have j:bits .and .u64 (al:Int) 1=0:=b;clear b c h0 i;go_enter Tryz.func155,Tryz.ntmps155;go_wp2_with fail;exact bodyPost_ret (Zv Tryz.results155 _ _ _ _ _ rfl (Aac w _ _ _)) rfl ⟨rfl,Zn w _ _ _⟩
def El (w:World)(b e:Nat):Prop:=w.heap[b]?=some (.cells (At e) 201 (0,0))
theorem El.lt {w:World}{b e:Nat}(h:El w b e):b<w.heap.size:=lt_of_block h
theorem El.hi {w:World}{b e:Nat}(h:El w b e):w.cell? ⟨b,0,none⟩=some (.int .u64 ((e/2^64:Nat):Int)):=cell_of_row _ _ _ _ _ _ h
theorem El.lo {w:World}{b e:Nat}(h:El w b e):w.cell? ⟨b,1,none⟩=some (.int .u64 ((e%2^64:Nat):Int)):=cell_of_row _ _ _ _ _ _ h
theorem El.frozen {w:World}{b e:Nat}(h:El w b e)(i:Nat):w.frozen? ⟨b,i,none⟩=false:=by
 have:w.rowIs b 201 2 (fun i=>(At e).getD i undef):=⟨At e,h,rfl,fun i a=>by
  match i,a with
  |0,_=>rfl
  |1,_=>rfl⟩
 exact World.rowIs.frozen this i
theorem El.range {w:World}{b e:Nat}(h:El w b e):w.rangeAt b 0 (At e).toList:=Xd h
theorem El.there {w:World}{b e:Nat}(h:El w b e):w.there b 0 2:=by
 intro j a;refine⟨?_,h.frozen _⟩
 match j,a with
 |0,_=>rw[h.hi];rfl
 |1,_=>rw[h.lo];rfl
theorem El.of_block {w w':World}{b e:Nat}(h:El w b e)(hb:w'.heap[b]?=w.heap[b]?):El w' b e:=hb.trans h
theorem El.below {w w':World}{b e B:Nat}(h:El w b e)(hb:Below B w w')(a:b<B):El w' b e:=h.of_block (hb.block b a)
theorem Agf {w:World}{b:Nat}{t:TypeId}{c:Array Value}(h:w.heap[b]?=some (.cells c t (0,0)))(a:List Value)(l:c.size=a.length):(w.setCells b 0 a).heap[b]?=some (.cells a.toArray t (0,0)):=by
 obtain⟨d,h1,h2⟩:=Yr b t a 0 w c h
 have e:d=a.toArray:=by
  apply Array.ext';apply List.ext_getElem?;intro i;have j:(w.setCells b 0 a).cell? ⟨b,i,none⟩=d[i]?:=cell_of_row _ _ _ _ _ _ h1;by_cases f:i<a.length
  ·have g:=Vw b a 0 w (fun k hk=>by rw[Dq,cell_of_row _ _ _ _ _ _ h];simp[l,hk]) i f;rw[Dq,j]at g;simp[g,Az f]
  ·simp[Ot (by omega:d.size<=i),Sk (by omega:a.length<=i)]
 rw[h1,e]
theorem El.store {w:World}{b e:Nat}(h:El w b e)(a:Nat):El (w.setCells b 0 (At a).toList) b a:=Agf h (At a).toList rfl
theorem El.other {w:World}{b c e:Nat}(h:El w b e)(a:List Value)(d:b≠c):El (w.setCells c 0 a) b e:=h.of_block ((Np c a 0 w).2.2.2.2 b d)
theorem Il (e:Nat):(Tryz.prog.info? 201).map (·.size)=some (At e).toList.length:=by kernel_rfl
theorem Ms (e:Nat):(Tryz.prog.info? 201).map (·.size)=some (At e).size:=by kernel_rfl
theorem Mg (e:Nat):(At e).all (·.oneCell')=true:=all_oneCell_toArray (cs:=(At e).toList) (by intro v a;simp[At]at a;rcases a with rfl|rfl<;>rfl)
structure TM (w:World)(a b z:Nat)(wr:World):Prop where
 ha:El wr w.heap.size a
 hb:El wr (w.heap.size+1) b
 hr:∃e,El wr (w.heap.size+1+1) e
 hz:El wr (w.heap.size+1+1+1) z
 bel:Bw w wr
theorem TM.lt {w:World}{a b z:Nat}{wr:World}(h:TM w a b z wr):w.heap.size+1+1+1<wr.heap.size:=h.hz.lt
theorem TM.below {w:World}{a b z:Nat}{wr c:World}(h:TM w a b z wr)(hb:Bw wr c):TM w a b z c:=by have f:=h.lt;obtain⟨e,d⟩:=h.hr;exact⟨h.ha.below hb (by omega),h.hb.below hb (by omega),⟨e,d.below hb (by omega)⟩,h.hz.below hb f,h.bel.trans (hb.mono (by omega))⟩
theorem TM.setA {w:World}{a b z:Nat}{wr:World}(h:TM w a b z wr)(x:Nat):TM w x b z (wr.setCells w.heap.size 0 (At x).toList):=by obtain⟨e,c⟩:=h.hr;exact⟨h.ha.store x,h.hb.other _ (by omega),⟨e,c.other _ (by omega)⟩,h.hz.other _ (by omega),h.bel.trans (Ec _ _ _ _ _ (Ak _))⟩
theorem TM.setB {w:World}{a b z:Nat}{wr:World}(h:TM w a b z wr)(x:Nat):TM w a x z (wr.setCells (w.heap.size+1) 0 (At x).toList):=by obtain⟨e,c⟩:=h.hr;exact⟨h.ha.other _ (by omega),h.hb.store x,⟨e,c.other _ (by omega)⟩,h.hz.other _ (by omega),h.bel.trans (Ec _ _ _ _ _ (by omega))⟩
theorem TM.setZ {w:World}{a b z:Nat}{wr:World}(h:TM w a b z wr)(x:Nat):TM w a b x (wr.setCells (w.heap.size+1+1+1) 0 (At x).toList):=by obtain⟨e,c⟩:=h.hr;exact⟨h.ha.other _ (by omega),h.hb.other _ (by omega),⟨e,c.other _ (by omega)⟩,h.hz.store x,h.bel.trans (Ec _ _ _ _ _ (by omega))⟩
theorem Akc (w:World)(a p q r:Obj):((((w.alloc a).alloc p).alloc q).alloc r).heap[w.heap.size+1+1+1]?=some r:=by
 have:=heap_alloc_new (((w.alloc a).alloc p).alloc q) r;have e:(((w.alloc a).alloc p).alloc q).heap.size=w.heap.size+1+1+1:=by simp
 rwa [e]at this
theorem TM.start (w:World)(a b:Nat):TM w a b 0 ((((w.alloc (.cells (At a) 201)).alloc (.cells (At b) 201)).alloc (.cells #[.int .u64 0,.int .u64 0] 201)).alloc (.cells #[.int .u64 0,.int .u64 0] 201)):=by
 refine⟨?_,?_,⟨0,?_⟩,?_,((((Ah _ _).alloc (Ak _) _).alloc (by simp) _).alloc (by simp;omega) _).alloc (by simp;omega) _⟩
 ·unfold El;rw[Mn _ _ _ (by simp;omega),Mn _ _ _ (by simp;omega),Mn _ _ _ (by simp)];exact heap_alloc_new w _
 ·unfold El;rw[Mn _ _ _ (by simp)];exact Aac w _ _ _
 ·unfold El;rw[Mn _ _ _ (by simp)];exact Abi w _ _ _
 ·exact Akc w _ _ _ _
theorem Ow {P:Program}{ops:Array Oper}{rest:List Oper}{op:Oper}{a:Act}{w:World}{f:Exit->Act->World->Prop}(k:op.guard=none)(e:TypeId)(x d:Operand)(i:op.op=.store e x d)
  (b c:Nat) (cells:Array Value) (j:a.eval x=.pointer (some ⟨b,c,none⟩)) (hy:a.eval d=.agg cells)
  (g:w.there b c cells.size) (l:(P.info? e).map (·.size)=some cells.size) (h1:cells.all (·.oneCell')=true)
  (h:∀w',Hid (w'=w.setCells b c cells.toList)->wpList P ops f rest (a.put op.dst undef) w'):wpList P ops f (op::rest) a w:=
 wpList_store_mid k e x d i b c cells j hy g l h1 (h _ rfl)
theorem Awn (a k:Nat)(hk:k<128):Fx a k/2^64/9223372036854775808=if a.testBit (127-k)then 1 else 0:=by rw[<-Aty a k hk];have:=Af8 a k;omega
theorem Ah9 (a b:Nat)(w:World)(ha:a<2^128)(hb:b<2^128):
  Cl 147 #[.agg (At a),.agg (At b)] w fun e w'=>e=.returned (.agg (At (Hk a b)))/\Bw w w':=by
 have u:=Aa (Ab ha hb);have ap:(At a).size=2:=rfl;have ar:(At b).size=2:=rfl;have c:=TM.start w a b;clear ha hb;generalize ao:At a=A at*;generalize am:At b=B at*;have j:=Aa c;clear c ao am;go_enter Tryz.func147,Tryz.ntmps147;go_wp2_with fail
 go_loopw [6] (fun i wr=>∃k:Nat,k<=128/\i=.int .i64 (k:Int)/\TM w (Fx a k) (Ks b k) (Kt a b k) wr) (fun i _=>(129-intOf i).toNat)
 case atStart=>exact⟨0,by omega,rfl,by rw[A2y a u.o.1];exact j.o⟩
 case round=>
  clear j ap ar;obtain⟨k,hk,rfl,hr⟩:=hrel;by_cases I:k<128
  ·have au:(k:Int)<128:=by omega
   have aa:=Awn a k I;have h:((Fx a k/2^64:Nat):Int)/9223372036854775808=((Fx a k/2^64/9223372036854775808:Nat):Int):=by omega
   rw[aa]at h;have J:=hr.ha.hi;have Q:=Ax6 (Fx a k) (Af8 a k);have K:=A1t (Fx a k);have Y:Fx a k/2^64<18446744073709551616:=by have:=Af8 a k;omega
   have ab:Fx a k%2^64<18446744073709551616:=by have:=Gs (Fx a k) (show 0<2^64 by decide);omega
   obtain⟨g,G⟩:=nmd (Fx a k/2^64);obtain⟨lo,t⟩:=nmd (Fx a k%2^64);rw[<-Akq,G,t]at Q;rw[<-Akq,t]at K;rw[G]at h J Y;rw[t]at ab
   have w1:IntKind.u64.wrap ((g:Int)*2)=((g*2%2^64:Nat):Int):=by rw[show(g:Int)*2=((g*2:Nat):Int)by simp,Ach]
   have w2:IntKind.u64.wrap ((lo:Int)*2)=((lo*2%2^64:Nat):Int):=by rw[show(lo:Int)*2=((lo*2:Nat):Int)by simp,Ach]
   have o1:bits .or .u64 ((g*2%2^64:Nat):Int) ((lo:Int)/9223372036854775808)=((g*2%2^64|||lo/2^63:Nat):Int):=by rw[show(lo:Int)/9223372036854775808=((lo/2^63:Nat):Int)by simp];exact u64_or_nat _ _ (Gs _ (by decide)) (by omega)
   rw[<-Q]at o1;rw[<-K]at w2;have y:=Aa (show At (Fx a (k+1))= #[.int .u64 ((Fx a (k+1)/2^64:Nat):Int),.int .u64 ((Fx a (k+1)%2^64:Nat):Int)]from rfl);obtain⟨o,ac⟩:=nmd (Fx a (k+1)/2^64);obtain⟨n,V⟩:=nmd (Fx a (k+1)%2^64);rw[ac]at o1 y;rw[V]at w2 y;generalize g*2%2^64=m at*;have af:(Tryz.prog.info? 201).map (·.size)=some (#[Value.int .u64 (o:Int),.int .u64 (n:Int)]:Array Value).size:=by kernel_rfl
   have X:(#[Value.int .u64 (o:Int),.int .u64 (n:Int)]:Array Value).all (·.oneCell')=true:=by rw[<-y.o];exact Mg _
   have U:=Aa af;have ad:=Aa X;have ai:=Aa (show(At (Fx a (k+1))).toList=[.int .u64 (o:Int),.int .u64 (n:Int)]by rw[y.o]);have H:=Aa I;have F:=Aa (Ab G t);clear G t aa I hk Q K Y ab af X y ac V;by_cases p:a.testBit (127-k)=true
   ·rw[if_pos p]at h;have L:((g:Int)/9223372036854775808==1)=true:=by rw[h];rfl
    have C:Kt a b (k+1)=Kt a b k^^^Ks b k:=by rw[Kt,if_pos p]
    have E:=Aa hr.hz.range;have l:=Aa hr.hb.range;have ag:=Aa hr;clear h hr p;go_wp2_with (first|refine wpList_load_mid rfl 201 _ rfl (w.heap.size+1+1+1) 0 rfl (At (Kt a b k)).toList _ E.o Tryz.underlying201 rfl (Il _) ?_|refine wpList_load_mid rfl 201 _ rfl (w.heap.size+1) 0 rfl (At (Ks b k)).toList _ l.o Tryz.underlying201 rfl (Il _) ?_);refine(Vf (Kt a b k) (Ks b k) _ (Apc a b k u.o.2) (Aco b k u.o.2)).mono ?_;rintro e w2 ⟨rfl,S⟩;rw[<-C];have M:=ag.o.below S;have f:=M.setZ (Kt a b (k+1));have T:=Aa M.hz.there;have ae:=Aa f;clear S M f ag E l J C;go_wp2_with (refine Ow rfl 201 _ _ rfl (w.heap.size+1+1+1) 0 (At (Kt a b (k+1))) rfl rfl T.o (Ms _) (Mg _) ?_);intro aj Z;have d:=ae;rw[<-Z.o]at d;clear ae T Z;have ch:=d.o.ha.hi;have cl:=d.o.ha.lo;rw[F.o.1]at ch;rw[F.o.2]at cl;have s:=Aa d.o.ha.there;go_wp2_with (refine Ow rfl 201 _ _ rfl w.heap.size 0 #[.int .u64 (o:Int),.int .u64 (n:Int)] rfl rfl s.o U.o ad.o ?_);intro O q;have c:=d.o.setA (Fx a (k+1));rw[ai.o]at c;have D:O=aj.setCells w.heap.size 0 [.int .u64 (o:Int),.int .u64 (n:Int)]:=q.o;rw[<-D]at c;have l:=Aa c.hb.range;have j:=Aa c;clear d c q D ch cl s w1 w2 o1 L;go_wp2_with (refine wpList_load_mid rfl 201 _ rfl (w.heap.size+1) 0 rfl (At (Ks b k)).toList _ l.o Tryz.underlying201 rfl (Il _) ?_);refine(Amj (Ks b k) _ (Aco b k u.o.2)).mono ?_;rintro e an ⟨rfl,z⟩;have f:=j.o.below z;have v:=f.setB (sh (Ks b k));have P:=Aa f.hb.there;have x:=Aa v;have r:sh (Ks b k)=Ks b (k+1):=rfl;rw[r]at x⊢;clear z f v j l r;go_wp2_with (refine wpList_store_mid rfl 201 _ _ rfl (w.heap.size+1) 0 (At (Ks b (k+1))) rfl rfl P.o (Ms _) (Mg _) ?_)
    go_roundw
    case rel=>exact⟨k+1,by have:=H.o;omega,by go_num,x.o⟩
    case measure=>have:=H.o;simp[intOf];omega
   ·rw[if_neg p]at h;have L:((g:Int)/9223372036854775808==1)=false:=by rw[h];rfl
    have C:Kt a b (k+1)=Kt a b k:=by rw[Kt,if_neg p]
    have al:=Aa C;have d:=Aa hr;clear h hr p C J;have ch:=d.o.ha.hi;have cl:=d.o.ha.lo;rw[F.o.1]at ch;rw[F.o.2]at cl;have s:=Aa d.o.ha.there;go_wp2_with (refine Ow rfl 201 _ _ rfl w.heap.size 0 #[.int .u64 (o:Int),.int .u64 (n:Int)] rfl rfl s.o U.o ad.o ?_);intro O q;have c:=d.o.setA (Fx a (k+1));rw[ai.o]at c;have D:O=wr.setCells w.heap.size 0 [.int .u64 (o:Int),.int .u64 (n:Int)]:=q.o;rw[<-D]at c;have l:=Aa c.hb.range;have j:=Aa c;clear d c q D ch cl s w1 w2 o1 L;go_wp2_with (refine wpList_load_mid rfl 201 _ rfl (w.heap.size+1) 0 rfl (At (Ks b k)).toList _ l.o Tryz.underlying201 rfl (Il _) ?_);refine(Amj (Ks b k) _ (Aco b k u.o.2)).mono ?_;rintro e an ⟨rfl,z⟩;have f:=j.o.below z;have v:=f.setB (sh (Ks b k));have P:=Aa f.hb.there;have x:=Aa v;have r:sh (Ks b k)=Ks b (k+1):=rfl;rw[r]at x⊢;clear z f v j l r;go_wp2_with (refine wpList_store_mid rfl 201 _ _ rfl (w.heap.size+1) 0 (At (Ks b (k+1))) rfl rfl P.o (Ms _) (Mg _) ?_)
    go_roundw
    case rel=>exact⟨k+1,by have:=H.o;omega,by go_num,by rw[al.o];exact x.o⟩
    case measure=>have:=H.o;simp[intOf];omega
  ·have ak:k=128:=by omega
   subst ak;obtain⟨e,N⟩:=hr.hr;have E:=Aa hr.hz.range;have aq:=Aa N.there;have ah:Bw w (wr.setCells (w.heap.size+1+1) 0 (At (Kt a b 128)).toList):=hr.bel.trans (Ec _ _ _ _ _ (by omega));have W:=N.store (Kt a b 128);have R:Kt a b 128=Hk a b:=rfl;rw[R]at E ah W;clear hr N I hk R;go_wp2_with (first|refine wpList_load_mid rfl 201 _ rfl (w.heap.size+1+1+1) 0 rfl (At (Hk a b)).toList _ E.o Tryz.underlying201 rfl (Il _) ?_|refine wpList_store_mid rfl 201 _ _ rfl (w.heap.size+1+1) 0 (At (Hk a b)) rfl rfl aq.o (Ms _) (Mg _) ?_);exact bodyPost_ret (Zv Tryz.results147 _ _ _ _ _ rfl W) rfl ⟨rfl,ah⟩
theorem Yu (l:By):(Ap l).map UInt8.ofNat=l:=Agv l
theorem Ro (l:By)(i:Nat):(Ap l).getD i 0=(l.getD i 0).toNat:=by simp only[Ap,Ea,Fq];cases l[i]?<;>simp
structure Eh (w:World)(b:Nat)(rk:By):Prop where
 cells:Br w b .u8 (Gc++Ap rk)
 len:rk.length=240
theorem Eh.below {w w':World}{b B:Nat}{rk:By}(h:Eh w b rk)(hb:Below B w w')(a:b<B):Eh w' b rk:=⟨h.cells.below hb a,h.len⟩
theorem Eh.lt {w:World}{b:Nat}{rk:By}(h:Eh w b rk):b<w.heap.size:=h.cells.lt
theorem Aaw:Gc.length=256:=by rw[<-Ajb];exact Agp 255
theorem Eh.box {w:World}{b:Nat}{rk:By}(h:Eh w b rk)(i:Nat)(a:i<256):w.cell? ⟨b,i,none⟩=some (.int .u8 ((Hd i:Nat):Int)):=by have c:=Aaw;have:=h.cells.at_ i (by rw[Bb];omega);rw[this,Ea,Ja (by omega),<-Ea,Al0 i a]
theorem Eh.round {w:World}{b:Nat}{rk:By}(h:Eh w b rk)(i:Nat)(c:i<240):w.cell? ⟨b,256+i,none⟩=some (.int .u8 (((rk.getD i 0).toNat:Nat):Int)):=by have a:=Aaw;have:=h.cells.at_ (256+i) (by rw[Bb,Dt,h.len];omega);rw[this,Ea,If (by omega),a,Nat.add_sub_cancel_left,<-Ea,Ro]
structure PR (w:World)(t:TypeId)(n:Nat)(xs:List Nat)(wr:World):Prop where
 row:Bo wr w.heap.size t .u8 xs
 res:wr.there (w.heap.size+1) 0 n
 len:xs.length=n
 bel:Bw w wr
theorem PR.start (w:World)(t:TypeId)(n:Nat)(C a:Array Value)(xs:List Nat)(b:C=(Aj .u8 xs).toArray)(c:a.size=n)(e:xs.length=n):
  PR w t n xs ((w.alloc (.cells C t)).alloc (.cells a t)):=by
 refine⟨?_,?_,e,((Ah _ _).alloc (Ak _) _).alloc (by simp) _⟩
 ·exact(Bo.new w t .u8 xs C (by rw[b];simp[Aj]) (fun i d=>by rw[b];exact Mr .u8 _ i d)).alloc _
 ·have h:=Iy (w.alloc (.cells C t)) a t;rw[c]at h;simpa using h
theorem PR.set {w:World}{t:TypeId}{n:Nat}{xs:List Nat}{wr:World}(h:PR w t n xs wr)(i x:Nat):PR w t n (xs.set i x) (wr.setCell ⟨w.heap.size,i,none⟩ (.int .u8 (x:Int))):=by refine⟨h.row.set i x,?_,by simp[h.len],h.bel.setCell (Ak _) _⟩;intro j a;obtain⟨h1,h2⟩:=h.res j a;have e:(wr.setCell ⟨w.heap.size,i,none⟩ (.int .u8 (x:Int))).heap[w.heap.size+1]?=wr.heap[w.heap.size+1]?:=Nf wr ⟨w.heap.size,i,none⟩ _ _ (by simp);exact⟨by rw[Lv e];exact h1,by rw[World.frozen?_of_block e];exact h2⟩
theorem PR.drew {w:World}{t:TypeId}{n:Nat}{xs:List Nat}{wr:World}(h:PR w t n xs wr):PR w t n xs wr.drew:=⟨h.row,h.res,h.len,h.bel.drew⟩
theorem PR.cell {w:World}{t:TypeId}{n:Nat}{xs:List Nat}{wr:World}(h:PR w t n xs wr)(i:Nat)(a:i<n):wr.cell? ⟨w.heap.size,i,none⟩=some (.int .u8 ((xs.getD i 0:Nat):Int)):=h.row.cell (by rw[h.len];exact a)
def Ev (A B:By)(k:Nat):By:=A.take k++B.drop k
theorem Auq (A B:By)(k:Nat)(h:A.length=B.length):(Ev A B k).length=B.length:=by simp[Ev];omega
theorem Aav (A B:By):Ev A B 0=B:=by simp[Ev]
theorem Adk (A B:By)(h:A.length=B.length):Ev A B A.length=A:=by simp[Ev];omega
theorem Ada (A B:By)(k i:Nat)(h:A.length=B.length)(hk:k<=i)(a:i<B.length):(Ev A B k).getD i 0=B.getD i 0:=by
 simp only[Ev,Ea];rw[If (by simp;omega),Sm]
 congr 2
 simp;omega
theorem Wn (A B:By)(k:Nat)(h:A.length=B.length)(hk:k<B.length):(Ap (Ev A B k)).set k (A.getD k 0).toNat=Ap (Ev A B (k+1)):=by
 have e:(Ev A B k).set k (A.getD k 0)=Ev A B (k+1):=by
  unfold Ev;rw[Lu k _ (by simp;omega)];have h0:k-(A.take k).length=0:=by simp;omega
  rw[h0,Kh hk,Co,Lr (by omega:k<A.length),Cw]
  congr 1
  rw[Ea,Az (by omega:k<A.length)];rfl
 rw[<-e];simp[Ap,List.map_set]
theorem Az8 (A B:By)(i:Nat)(h:A.length=B.length)(a:i<A.length):(Dh A B).getD i 0=A.getD i 0^^^B.getD i 0:=by simp only[Dh,Ea,List.getElem?_zipWith,Az a,Az (by omega:i<B.length)];rfl
theorem Ar9 (rk:By)(r i:Nat)(a:i<16):(Ol rk r).getD i 0=rk.getD (16*r+i) 0:=by simp only[Ol,Ea,Ml a,Sm]
theorem Ag1 (D:Nat)(rk B:By)(r:Nat)(w:World)(hk:Eh w D rk)(a:B.length=16)(hr:r<=14):
  Cl 151 #[.pointer (some ⟨D,0,none⟩),.agg (Ae B).toArray,.int .i64 (r:Int)] w fun e w'=>e=.returned (.agg (Ae (Dh B (Ol rk r))).toArray)/\Bw w w':=by
 have E:∀w,(zeroValue 203).run Tryz.prog w=.ok (.agg (Aj .u8 (List.replicate 16 0)).toArray) w:=fun _=>by kernel_rfl
 obtain⟨s,m⟩:=nmd ((Aj .u8 (List.replicate 16 0)).toArray);rw[m]at E;have L:s.size=16:=by rw[<-m];simp[Aj]
 have o:=Agb rk r hk.len hr;have d:(Dh B (Ol rk r)).length=B.length:=Uh _ _ (by rw[a,o]);have h:=PR.start w 203 16 (Ae B).toArray s (Ap B) (by rw[Dw]) L (by rw[Dt,a]);have M:(Ae B).toArray.size=16:=by simp[Ae,a]
 obtain⟨C,H⟩:=nmd ((Ae B).toArray);rw[H]at h M⊢;have g:∀i,i<16->(Dh B (Ol rk r)).getD i 0=B.getD i 0^^^rk.getD (16*r+i) 0:=fun i K=>by rw[Az8 _ _ _ (by rw[a,o]) (by omega),Ar9 _ _ _ K]
 obtain⟨A,q⟩:=nmd (Dh B (Ol rk r));rw[q]at d g⊢;have I:A.length=16:=by rw[d,a]
 have p:=Aa h;have t:=Aa g;have b:=Aa (Ab d (Ab a I));have W:(r:Int)<=14:=by omega
 have S:=hk.lt;clear h g d I a q o H m;go_enter Tryz.func151,Tryz.ntmps151;go_wp2_with fail
 go_loopw [7] (fun i wr=>∃k:Nat,k<=16/\i=.int .i64 (k:Int)/\PR w 203 16 (Ap (Ev A B k)) wr) (fun i _=>(17-intOf i).toNat)
 case atStart=>exact⟨0,by omega,rfl,by rw[Aav];exact p.o⟩
 case round=>
  clear p E;obtain⟨k,u,rfl,hr⟩:=hrel;by_cases c:k<16
  ·have ab:(k:Int)<16:=by omega
   have N:=hr.cell k c;rw[Ro,Ada A B k k b.o.1 (Ak _) (by rw[b.o.2.1];exact c)]at N;have X:=hr.row.frozen k;have l:=hr.set k (A.getD k 0).toNat;rw[Wn A B k b.o.1 (by rw[b.o.2.1];exact c)]at l;have O:=u8_xor_nat (B.getD k 0).toNat (rk.getD (16*r+k) 0).toNat (Ki _) (Ki _);rw[<-UInt8.toNat_xor,<-t.o k c]at O;have aa:=(hk.below hr.bel S).round (16*r+k) (by omega);have Q:=Aa l;have ad:(r:Int)*16+(k:Int)=((16*r+k:Nat):Int):=by omega
   have ac:16*r+k<240:=by omega
   generalize(A.getD k 0).toNat=z at*;generalize(B.getD k 0).toNat=y at*;generalize(rk.getD (16*r+k) 0).toNat=x at*;generalize 16*r+k=j at*;have Y:(j:Int)<240:=by omega
   have Z:(256:Int)+(j:Int)=((256+j:Nat):Int):=by omega
   clear l hr;go_wp2_with fail
   go_region
   go_wp2_with fail
   go_roundw
   case rel=>exact⟨k+1,by omega,by go_num,Q.o.drew⟩
   case measure=>simp[intOf];omega
  ·have u:k=16:=by omega
   subst u
   have hd:Ev A B 16=A:=by
    have:=Adk A B b.o.1
    rwa [b.o.2.2]at this
   rw[hd]at hr;have G:=Ta hr.row;rw[Dw]at G;have F:=hr.res;have f:(Ae A).length=16:=by rw[Jo];exact b.o.2.2
   have hb:=hr.bel;have P:∀v∈Ae A,v.oneCell'=true:=by rw[<-Dw];exact Nk _ _
   generalize U:Ae A=V at*;have n:=Aa (show(Tryz.prog.info? 203).map (·.size)=some V.length from by rw[f];kernel_rfl);have R:Bw w (wr.setCells (w.heap.size+1) 0 V):=hb.trans (Ec wr w.heap.size _ 0 V (by omega));have T:=Oq wr (w.heap.size+1) 0 V (by rw[f];exact F);have J:=Aa f;clear f hr c hd t;go_wp2_with (first|refine wpList_load_mid rfl 203 _ rfl w.heap.size 0 rfl V _ G Tryz.underlying203 rfl n.o ?_|refine wpList_store_mid rfl 203 _ _ rfl (w.heap.size+1) 0 V.toArray rfl rfl (by simpa [J.o]using F) (by simpa using n.o) (all_oneCell_toArray P) ?_);exact bodyPost_ret (v:=.agg V.toArray) (Mf Tryz.results151 _ _ (w.heap.size+1) 0 V _ rfl T Tryz.underlying203 rfl n.o) rfl ⟨by rw[U],R⟩
theorem Au8 (B:By)(i:Nat)(a:i<B.length):((Is B).getD i 0).toNat=Hd (B.getD i 0).toNat:=by simp only[Is,Ea,Fq,Az a,Sp,Option.getD_some];exact(UInt8.toNat_ofNat' ..).trans (Xz (Ug _))
theorem Amx (o:Nat)(rk B:By)(w:World)(hk:Eh w o rk)(b:B.length=16):
  Cl 152 #[.pointer (some ⟨o,0,none⟩),.agg (Ae B).toArray] w fun e w'=>e=.returned (.agg (Ae (Is B)).toArray)/\Bw w w':=by
 have x:∀w,(zeroValue 203).run Tryz.prog w=.ok (.agg (Aj .u8 (List.replicate 16 0)).toArray) w:=fun _=>by kernel_rfl
 obtain⟨n,j⟩:=nmd ((Aj .u8 (List.replicate 16 0)).toArray);rw[j]at x;have F:n.size=16:=by rw[<-j];simp[Aj]
 have d:(Is B).length=B.length:=Aa2 B;have g:=PR.start w 203 16 (Ae B).toArray n (Ap B) (by rw[Dw]) F (by rw[Dt,b]);have G:(Ae B).toArray.size=16:=by simp[Ae,b]
 obtain⟨C,p⟩:=nmd ((Ae B).toArray);rw[p]at g G⊢;have l:∀i,i<16->((Is B).getD i 0).toNat=Hd (B.getD i 0).toNat:=fun i R=>Au8 B i (by omega);obtain⟨A,s⟩:=nmd (Is B);rw[s]at d l⊢;have E:A.length=16:=by rw[d,b]
 have r:=Aa g;have t:=Aa l;have a:=Aa (Ab d (Ab b E));have J:=hk.lt;clear g l d E b s p j;go_enter Tryz.func152,Tryz.ntmps152;go_wp2_with fail
 go_loopw [5] (fun i wr=>∃k:Nat,k<=16/\i=.int .i64 (k:Int)/\PR w 203 16 (Ap (Ev A B k)) wr) (fun i _=>(17-intOf i).toNat)
 case atStart=>exact⟨0,by omega,rfl,by rw[Aav];exact r.o⟩
 case round=>
  clear r x;obtain⟨k,u,rfl,hr⟩:=hrel;by_cases c:k<16
  ·have S:(k:Int)<16:=by omega
   have M:=hr.cell k c;rw[Ro,Ada A B k k a.o.1 (Ak _) (by rw[a.o.2.1];exact c)]at M;have Q:=hr.row.frozen k;have h:=hr.set k (A.getD k 0).toNat;rw[Wn A B k a.o.1 (by rw[a.o.2.1];exact c)]at h;have L:=(hk.below hr.bel J).box (B.getD k 0).toNat (Ki _);rw[<-t.o k c]at L;have hy:(B.getD k 0).toNat<256:=Ki _;have I:=Aa h;generalize(A.getD k 0).toNat=z at*;generalize(B.getD k 0).toNat=y at*;have T:(y:Int)<256:=by omega
   clear h hr;go_wp2_with fail
   go_region
   go_wp2_with fail
   go_roundw
   case rel=>exact⟨k+1,by omega,by go_num,I.o.drew⟩
   case measure=>simp[intOf];omega
  ·have u:k=16:=by omega
   subst u
   have hd:Ev A B 16=A:=by
    have:=Adk A B a.o.1
    rwa [a.o.2.2]at this
   rw[hd]at hr;have D:=Ta hr.row;rw[Dw]at D;have q:=hr.res;have f:(Ae A).length=16:=by rw[Jo];exact a.o.2.2
   have hb:=hr.bel;have H:∀v∈Ae A,v.oneCell'=true:=by rw[<-Dw];exact Nk _ _
   generalize P:Ae A=V at*;have m:=Aa (show(Tryz.prog.info? 203).map (·.size)=some V.length from by rw[f];kernel_rfl);have N:Bw w (wr.setCells (w.heap.size+1) 0 V):=hb.trans (Ec wr w.heap.size _ 0 V (by omega));have O:=Oq wr (w.heap.size+1) 0 V (by rw[f];exact q);have K:=Aa f;clear f hr c hd t;go_wp2_with (first|refine wpList_load_mid rfl 203 _ rfl w.heap.size 0 rfl V _ D Tryz.underlying203 rfl m.o ?_|refine wpList_store_mid rfl 203 _ _ rfl (w.heap.size+1) 0 V.toArray rfl rfl (by simpa [K.o]using q) (by simpa using m.o) (all_oneCell_toArray H) ?_);exact bodyPost_ret (v:=.agg V.toArray) (Mf Tryz.results152 _ _ (w.heap.size+1) 0 V _ rfl O Tryz.underlying203 rfl m.o) rfl ⟨by rw[P],N⟩
structure Qz (w:World)(t:TypeId)(n:Nat)(B:By)(xs:List Nat)(wr:World):Prop where
 blk:Br wr w.heap.size .u8 (Ap B)
 res:wr.there (w.heap.size+1) 0 n
 row:Bo wr (w.heap.size+1+1) t .u8 xs
 len:xs.length=n
 bel:Bw w wr
theorem Qz.start (w:World)(b t:TypeId)(n:Nat)(B:By)(a C:Array Value)(xs:List Nat)(d:a.size=n)(c:C=(Aj .u8 xs).toArray)(f:xs.length=n):
  Qz w t n B xs (((w.alloc (.cells (Ae B).toArray b)).alloc (.cells a t)).alloc (.cells C t)):=by
 rw[<-Dw];refine⟨((Br.of_block (heap_alloc_new w _)).alloc _).alloc _,?_,?_,f,(((Ah _ _).alloc (Ak _) _).alloc (by simp) _).alloc (by simp;omega) _⟩
 ·have h:=Iy (w.alloc (.cells (Aj .u8 (Ap B)).toArray b)) a t;rw[d]at h;have h2:=World.there_alloc h (.cells C t);simpa using h2
 ·have h:=Bo.new ((w.alloc (.cells (Aj .u8 (Ap B)).toArray b)).alloc (.cells a t)) t .u8 xs C (by rw[c];simp[Aj]) (fun i e=>by rw[c];exact Mr .u8 _ i e);simpa using h
theorem Qz.set {w:World}{t:TypeId}{n:Nat}{B:By}{xs:List Nat}{wr:World}(h:Qz w t n B xs wr)(i x:Nat):Qz w t n B (xs.set i x) (wr.setCell ⟨w.heap.size+1+1,i,none⟩ (.int .u8 (x:Int))):=by have hb:Below (w.heap.size+2) wr (wr.setCell ⟨w.heap.size+1+1,i,none⟩ (.int .u8 (x:Int))):=Below.setCell (B:=w.heap.size+2) (Ah _ _) (Ak (w.heap.size+2)) _;exact⟨h.blk.below hb (by omega),Qe h.res hb (by omega),h.row.set i x,by simp[h.len],h.bel.setCell (by simp;omega) _⟩
theorem Qz.at_ {w:World}{t:TypeId}{n:Nat}{B:By}{xs:List Nat}{wr:World}(h:Qz w t n B xs wr)(i:Nat)(a:i<B.length):wr.cell? ⟨w.heap.size,i,none⟩=some (.int .u8 (((B.getD i 0).toNat:Nat):Int)):=by rw[<-Ro];exact h.blk.at_ i (by rw[Dt];exact a)
theorem Qz.cell {w:World}{t:TypeId}{n:Nat}{B:By}{xs:List Nat}{wr:World}(h:Qz w t n B xs wr)(i:Nat)(a:i<n):wr.cell? ⟨w.heap.size+1+1,i,none⟩=some (.int .u8 ((xs.getD i 0:Nat):Int)):=h.row.cell (by rw[h.len];exact a)
theorem Aua (B:By)(i:Nat)(a:i<16):(Mc B).getD i 0=B.getD ((i+4*(i%4))%16) 0:=by unfold Mc;rw[Ea,Fq,List.getElem?_range a];rfl
theorem Ajx (B:By)(w:World)(g:B.length=16):
  Cl 154 #[.agg (Ae B).toArray] w fun e w'=>e=.returned (.agg (Ae (Mc B)).toArray)/\Bw w w':=by
 have x:∀w,(zeroValue 203).run Tryz.prog w=.ok (.agg (Aj .u8 (List.replicate 16 0)).toArray) w:=fun _=>by kernel_rfl
 obtain⟨m,c⟩:=nmd ((Aj .u8 (List.replicate 16 0)).toArray);rw[c]at x;have J:m.size=16:=by rw[<-c];simp[Aj]
 have h:=Ace B;have l:∀i,i<16->(Mc B).getD i 0=B.getD ((i+4*(i%4))%16) 0:=fun i I=>Aua B i I;obtain⟨A,r⟩:=nmd (Mc B);rw[r]at h l⊢;have p:(List.replicate 16 (0:UInt8)).length=16:=by simp
 have b:=Qz.start w 203 203 16 B m m (Ap (List.replicate 16 0)) J (by rw[<-c];simp[Ap]) (by simp[Ap]);have K:(Ae B).toArray.size=16:=by simp[Ae,g]
 obtain⟨C,F⟩:=nmd ((Ae B).toArray);rw[F]at b K⊢;obtain⟨N,s⟩:=nmd (List.replicate 16 (0:UInt8));rw[s]at p b;have t:=Aa l;have a:=Aa (Ab h (Ab g p));have q:=Aa b;clear l h r b F p s c g;go_enter Tryz.func154,Tryz.ntmps154;go_wp2_with fail
 go_loopw [4] (fun i wr=>∃k:Nat,k<=16/\i=.int .i64 (k:Int)/\Qz w 203 16 B (Ap (Ev A N k)) wr) (fun i _=>(17-intOf i).toNat)
 case atStart=>exact⟨0,by omega,rfl,by rw[Aav];exact q.o⟩
 case round=>
  clear q x;obtain⟨k,u,rfl,hr⟩:=hrel;by_cases d:k<16
  ·have U:(k:Int)<16:=by omega
   have G:A.length=N.length:=by rw[a.o.1,a.o.2.2]
   have W:=hr.cell k d;have S:=hr.row.frozen k;have n:=hr.set k (A.getD k 0).toNat;rw[Wn A N k G (by rw[a.o.2.2];exact d)]at n;have L:(k+4*(k%4))%16<16:=Gs _ (by decide);have ha:=hr.at_ ((k+4*(k%4))%16) (by rw[a.o.2.1];exact L);rw[<-t.o k d]at ha;have O:=Aa n;have X:((k:Int)+4*((k:Int)%4))%16=(((k+4*(k%4))%16:Nat):Int):=by omega
   generalize(Ap (Ev A N k)).getD k 0=y at*;generalize(A.getD k 0).toNat=z at*;generalize(k+4*(k%4))%16=j at*;have T:(j:Int)<16:=by omega
   clear n hr G;go_wp2_with fail
   go_roundw
   case rel=>exact⟨k+1,by omega,by go_num,O.o⟩
   case measure=>simp[intOf];omega
  ·have u:k=16:=by omega
   subst u
   have hd:Ev A N 16=A:=by
    have:=Adk A N (by rw[a.o.1,a.o.2.2])
    rwa [a.o.1]at this
   rw[hd]at hr;have E:=Ta hr.row;rw[Dw]at E;have D:=hr.res;have f:(Ae A).length=16:=by rw[Jo];exact a.o.1
   have hb:=hr.bel;have M:∀v∈Ae A,v.oneCell'=true:=by rw[<-Dw];exact Nk _ _
   generalize R:Ae A=V at*;have o:=Aa (show(Tryz.prog.info? 203).map (·.size)=some V.length from by rw[f];kernel_rfl);have P:Bw w (wr.setCells (w.heap.size+1) 0 V):=hb.trans (Ec wr w.heap.size _ 0 V (by omega));have Q:=Oq wr (w.heap.size+1) 0 V (by rw[f];exact D);have H:=Aa f;clear f hr d hd t;go_wp2_with (first|refine wpList_load_mid rfl 203 _ rfl (w.heap.size+1+1) 0 rfl V _ E Tryz.underlying203 rfl o.o ?_|refine wpList_store_mid rfl 203 _ _ rfl (w.heap.size+1) 0 V.toArray rfl rfl (by simpa [H.o]using D) (by simpa using o.o) (all_oneCell_toArray M) ?_);exact bodyPost_ret (v:=.agg V.toArray) (Mf Tryz.results154 _ _ (w.heap.size+1) 0 V _ rfl Q Tryz.underlying203 rfl o.o) rfl ⟨by rw[R],P⟩
structure EM (w:World)(B:By)(hi lo:Nat)(wr:World):Prop where
 blk:Br wr w.heap.size .u8 (Ap B)
 res:El wr (w.heap.size+1) 0
 row:wr.heap[w.heap.size+1+1]?=some (.cells #[.int .u64 (hi:Int),.int .u64 (lo:Int)] 201 (0,0))
 bel:Bw w wr
theorem EM.start (w:World)(a:TypeId)(B:By):EM w B 0 0 (((w.alloc (.cells (Ae B).toArray a)).alloc (.cells #[.int .u64 0,.int .u64 0] 201)).alloc (.cells #[.int .u64 0,.int .u64 0] 201)):=by rw[<-Dw];exact⟨((Br.of_block (heap_alloc_new w _)).alloc _).alloc _,Aac w _ _ _,Abi w _ _ _,Zn w _ _ _⟩
theorem EM.setHi {w:World}{B:By}{a lo:Nat}{wr:World}(h:EM w B a lo wr)(x:Nat):EM w B x lo (wr.setCell ⟨w.heap.size+1+1,0,none⟩ (.int .u64 (x:Int))):=by have hb:Below (w.heap.size+2) wr (wr.setCell ⟨w.heap.size+1+1,0,none⟩ (.int .u64 (x:Int))):=Below.setCell (B:=w.heap.size+2) (Ah _ _) (Ak (w.heap.size+2)) _;exact⟨h.blk.below hb (by omega),h.res.below hb (by omega),(Cx h.row 0 _).trans (by simp),h.bel.setCell (by simp;omega) _⟩
theorem EM.setLo {w:World}{B:By}{a lo:Nat}{wr:World}(h:EM w B a lo wr)(x:Nat):EM w B a x (wr.setCell ⟨w.heap.size+1+1,1,none⟩ (.int .u64 (x:Int))):=by have hb:Below (w.heap.size+2) wr (wr.setCell ⟨w.heap.size+1+1,1,none⟩ (.int .u64 (x:Int))):=Below.setCell (B:=w.heap.size+2) (Ah _ _) (Ak (w.heap.size+2)) _;exact⟨h.blk.below hb (by omega),h.res.below hb (by omega),(Cx h.row 1 _).trans (by simp),h.bel.setCell (by simp;omega) _⟩
theorem EM.drew {w:World}{B:By}{a lo:Nat}{wr:World}(h:EM w B a lo wr):EM w B a lo wr.drew:=⟨⟨h.blk.lt,h.blk.at_⟩,h.res,h.row,h.bel.drew⟩
theorem EM.c0 {w:World}{B:By}{a lo:Nat}{wr:World}(h:EM w B a lo wr):wr.cell? ⟨w.heap.size+1+1,0,none⟩=some (.int .u64 (a:Int)):=cell_of_row _ _ _ _ _ _ h.row
theorem EM.c1 {w:World}{B:By}{a lo:Nat}{wr:World}(h:EM w B a lo wr):wr.cell? ⟨w.heap.size+1+1,1,none⟩=some (.int .u64 (lo:Int)):=cell_of_row _ _ _ _ _ _ h.row
theorem EM.frozen {w:World}{B:By}{a lo:Nat}{wr:World}(h:EM w B a lo wr)(i:Nat):wr.frozen? ⟨w.heap.size+1+1,i,none⟩=false:=by
 have:wr.rowIs (w.heap.size+1+1) 201 2 (fun i=>(#[Value.int .u64 (a:Int),.int .u64 (lo:Int)]:Array Value).getD i undef):=⟨_,h.row,rfl,fun i a=>by
  match i,a with
  |0,_=>rfl
  |1,_=>rfl⟩
 exact World.rowIs.frozen this i
theorem EM.at_ {w:World}{B:By}{a lo:Nat}{wr:World}(h:EM w B a lo wr)(i:Nat)(b:i<B.length):wr.cell? ⟨w.heap.size,i,none⟩=some (.int .u8 (((B.getD i 0).toNat:Nat):Int)):=by rw[<-Ro];exact h.blk.at_ i (by rw[Dt];exact b)
theorem App (l:By)(k:Nat)(hk:k<l.length):Bh (l.take (k+1))=Bh (l.take k)*256+(l.getD k 0).toNat:=by rw[Lr hk,Apy,Ea,Az hk];rfl
theorem Aiy (l:By)(k:Nat)(hk:k<=7):Bh (l.take k)<72057594037927936:=by have h:=Ady (l.take k);have h2:256^(l.take k).length<=256^7:=Nat.pow_le_pow_right (by decide) (by simp;omega);exact Eu h h2
theorem Ap6 (x a:Nat)(b:x<72057594037927936)(hy:a<256):IntKind.u64.wrap ((x:Int)*256)=((x*256:Nat):Int)/\bits .or .u64 ((x*256:Nat):Int) (a:Int)=((x*256+a:Nat):Int):=by
 constructor
 ·rw[show(x:Int)*256=((x*256:Nat):Int)by simp,Ach,Xz (by omega)]
 ·rw[u64_or_nat _ _ (by omega) (by omega),Af4 _ _ 8 (by omega) hy]
theorem Xs (B:By)(w:World)(a:B.length=16):
  Cl 144 #[.agg (Ae B).toArray] w fun e w'=>e=.returned (.agg (At (Bh B)))/\Bw w w':=by
 have c:=EM.start w 203 B;have H:(Ae B).toArray.size=16:=by simp[Ae,a]
 obtain⟨C,q⟩:=nmd ((Ae B).toArray);rw[q]at c H⊢;have v:=Aa c;have f:=Aa a;clear c q a;go_enter Tryz.func144,Tryz.ntmps144;go_wp2_with fail
 go_loopw [4] (fun i wr=>∃k:Nat,k<=8/\i=.int .i64 (k:Int)/\EM w B (Bh (B.take k)) (Bh ((B.drop 8).take k)) wr) (fun i _=>(9-intOf i).toNat)
 case atStart=>exact⟨0,by omega,rfl,v.o⟩
 case round=>
  clear v;obtain⟨k,hk,rfl,hr⟩:=hrel;by_cases d:k<8
  ·have R:(k:Int)<8:=by omega
   have a:=f.o;have h:=Aiy B k (by omega);have z:=Aiy (B.drop 8) k (by omega);have n1:=App B k (by omega);have n2:=App (B.drop 8) k (by simp;omega);have y:(B.drop 8).getD k 0=B.getD (8+k) 0:=by rw[Ea,Ea,Sm]
   rw[y]at n2;have F:=hr.at_ k (by omega);have s1:=(hr.setHi (Bh (B.take (k+1)))).drew;have o:=s1.at_ (8+k) (by omega);have s2:=s1.setLo (Bh ((B.drop 8).take (k+1)));have m:(B.getD k 0).toNat<256:=Ki _;have s:(B.getD (8+k) 0).toNat<256:=Ki _;obtain⟨o1,x⟩:=Ap6 _ _ h m;obtain⟨Q,I⟩:=Ap6 _ _ z s;rw[<-n1]at x;rw[<-n2]at I;have c0:=hr.c0;have M:=hr.frozen 0;have c1:=s1.c1;have f1:=s1.frozen 1;have t:=Aa s2;clear s1 s2 hr a h z n1 n2 y;generalize D:Bh (B.take (k+1))=h' at*;generalize u:Bh ((B.drop 8).take (k+1))=l' at*;have l:=Aa (Ab D u);clear D u;generalize Bh (B.take k)=h0 at*;generalize Bh ((B.drop 8).take k)=l0 at*;generalize(B.getD k 0).toNat=y1 at*;generalize(B.getD (8+k) 0).toNat=y2 at*;generalize h0*256=m1 at*;generalize l0*256=m2 at*;obtain⟨j,r⟩:=nmd (8+k);rw[r]at o;have K:(8:Int)+(k:Int)=(j:Int):=by omega
   have P:IntKind.i64.wrap (8+(k:Int))=(j:Int):=by rw[K];exact Iq _ (by omega)
   have W:(j:Int)<16:=by omega
   have T:(k:Int)<16:=by omega
   have S:(y1:Int)<256:=by omega
   have V:(y2:Int)<256:=by omega
   have A:=Aa (Ab hk d);clear r d hk m s;obtain⟨U,b⟩:=nmd ((wr.setCell ⟨w.heap.size+1+1,0,none⟩ (.int .u64 (h':Int))).drew);rw[b]at o c1 f1 t;have n:=Aa b;clear b;go_wp2_with fail
   go_region
   rw[n.o];clear c0 M F o1 x n;go_wp2_with fail
   go_region
   go_wp2_with fail
   go_roundw
   case rel=>exact⟨k+1,by have:=A.o.2;omega,by go_num,by rw[l.o.1,l.o.2];exact t.o.drew⟩
   case measure=>have:=A.o.2;simp[intOf];omega
  ·have G:k=8:=by omega
   subst G;have g:=A0x B f.o;have E:(B.drop 8).take 8=B.drop 8:=Du (by simp[f.o]);rw[E,<-g.1,<-g.2]at hr;have p:El wr (w.heap.size+1+1) (Bh B):=hr.row;have L:=Aa p.range;have N:=Aa hr.res.there;have O:Bw w (wr.setCells (w.heap.size+1) 0 (At (Bh B)).toList):=hr.bel.trans (Ec _ _ _ _ _ (by omega));have J:=hr.res.store (Bh B);clear hr p d hk g E;go_wp2_with (first|refine wpList_load_mid rfl 201 _ rfl (w.heap.size+1+1) 0 rfl (At (Bh B)).toList _ L.o Tryz.underlying201 rfl (Il _) ?_|refine wpList_store_mid rfl 201 _ _ rfl (w.heap.size+1) 0 (At (Bh B)) rfl rfl N.o (Ms _) (Mg _) ?_);exact bodyPost_ret (Zv Tryz.results144 _ _ _ _ _ rfl J) rfl ⟨rfl,O⟩
theorem Awd (B:By)(k:Nat)(hk:k<4):
  ((Lk B).getD (4*k) 0).toNat=Ph (B.getD (4*k) 0).toNat (B.getD (4*k+1) 0).toNat (B.getD (4*k+2) 0).toNat (B.getD (4*k+3) 0).toNat/\
  ((Lk B).getD (4*k+1) 0).toNat=Ph (B.getD (4*k+1) 0).toNat (B.getD (4*k+2) 0).toNat (B.getD (4*k+3) 0).toNat (B.getD (4*k) 0).toNat/\
  ((Lk B).getD (4*k+2) 0).toNat=Ph (B.getD (4*k+2) 0).toNat (B.getD (4*k+3) 0).toNat (B.getD (4*k) 0).toNat (B.getD (4*k+1) 0).toNat/\
  ((Lk B).getD (4*k+3) 0).toNat=Ph (B.getD (4*k+3) 0).toNat (B.getD (4*k) 0).toNat (B.getD (4*k+1) 0).toNat (B.getD (4*k+2) 0).toNat:=by
 have h:∀i,i<16->((Lk B).getD i 0).toNat=Abh B i:=fun i j=>A3t B i j;rw[h _ (by omega),h _ (by omega),h _ (by omega),h _ (by omega)];unfold Abh Xh;have l:4*k/4*4=4*k:=by omega
 have m:(4*k+1)/4*4=4*k:=by omega
 have d:(4*k+2)/4*4=4*k:=by omega
 have g:(4*k+3)/4*4=4*k:=by omega
 have f:4*k%4=0:=by omega
 have n:(4*k+1)%4=1:=by omega
 have m2:(4*k+2)%4=2:=by omega
 have a:(4*k+3)%4=3:=by omega
 have b:(4*k+4)%4=0:=by omega
 have e:(4*k+5)%4=1:=by omega
 have c:(4*k+6)%4=2:=by omega
 rw[l,m,d,g];simp only[Nat.add_assoc,Nat.reduceAdd,f,n,m2,a,b,e,c,Pp,and_self]
theorem A29 (p q r s:Nat)(b:p<256)(c:q<256)(hr:r<256)(a:s<256):
  ∃f l e h rs i o j k m:Nat,f<256/\h<256/\rs<256/\i<256/\
  bits .xor .u8 (p:Int) (q:Int)=(f:Int)/\bits .xor .u8 (f:Int) (r:Int)=(l:Int)/\bits .xor .u8 (l:Int) (s:Int)=(e:Int)/\
  bits .xor .u8 (q:Int) (r:Int)=(h:Int)/\bits .xor .u8 (r:Int) (s:Int)=(rs:Int)/\bits .xor .u8 (s:Int) (p:Int)=(i:Int)/\
  bits .xor .u8 (p:Int) (e:Int)=(o:Int)/\bits .xor .u8 (q:Int) (e:Int)=(j:Int)/\bits .xor .u8 (r:Int) (e:Int)=(k:Int)/\bits .xor .u8 (s:Int) (e:Int)=(m:Int)/\
  bits .xor .u8 (o:Int) ((Hp f:Nat):Int)=((Ph p q r s:Nat):Int)/\bits .xor .u8 (j:Int) ((Hp h:Nat):Int)=((Ph q r s p:Nat):Int)/\
  bits .xor .u8 (k:Int) ((Hp rs:Nat):Int)=((Ph r s p q:Nat):Int)/\bits .xor .u8 (m:Int) ((Hp i:Nat):Int)=((Ph s p q r:Nat):Int):=by
 have g:=Jr b c;have n:=Jr g hr;have d:=Jr n a
 refine⟨p^^^q,p^^^q^^^r,p^^^q^^^r^^^s,q^^^r,r^^^s,s^^^p,p^^^(p^^^q^^^r^^^s),q^^^(p^^^q^^^r^^^s),r^^^(p^^^q^^^r^^^s),s^^^(p^^^q^^^r^^^s),g,Jr c hr,Jr hr a,Jr a b,
  u8_xor_nat _ _ b c,u8_xor_nat _ _ g hr,u8_xor_nat _ _ n a,u8_xor_nat _ _ c hr,u8_xor_nat _ _ hr a,u8_xor_nat _ _ a b,u8_xor_nat _ _ b d,u8_xor_nat _ _ c d,u8_xor_nat _ _ hr d,u8_xor_nat _ _ a d,?_,?_,?_,?_⟩
 ·rw[u8_xor_nat _ _ (Jr b d) (Yc _ g),Aeh p q r s b c hr a]
 ·rw[u8_xor_nat _ _ (Jr c d) (Yc _ (Jr c hr)),<-Aeh q r s p c hr a b,show p^^^q^^^r^^^s=q^^^r^^^s^^^p by ac_rfl]
 ·rw[u8_xor_nat _ _ (Jr hr d) (Yc _ (Jr hr a)),<-Aeh r s p q hr a b c,show p^^^q^^^r^^^s=r^^^s^^^p^^^q by ac_rfl]
 ·rw[u8_xor_nat _ _ (Jr a d) (Yc _ (Jr a b)),<-Aeh s p q r a b c hr,show p^^^q^^^r^^^s=s^^^p^^^q^^^r by ac_rfl]
theorem Arr (B:By)(w:World)(b:B.length=16):
  Cl 153 #[.agg (Ae B).toArray] w fun e w'=>e=.returned (.agg (Ae (Lk B)).toArray)/\Bw w w':=by
 have ag:∀w,(zeroValue 203).run Tryz.prog w=.ok (.agg (Aj .u8 (List.replicate 16 0)).toArray) w:=fun _=>by kernel_rfl
 obtain⟨Z,r⟩:=nmd ((Aj .u8 (List.replicate 16 0)).toArray);rw[r]at ag;have av:Z.size=16:=by rw[<-r];simp[Aj]
 have h:(Lk B).length=B.length:=by rw[Afg,b]
 have q:=PR.start w 203 16 (Ae B).toArray Z (Ap B) (by rw[Dw]) av (by rw[Dt,b]);have aj:(Ae B).toArray.size=16:=by simp[Ae,b]
 obtain⟨C,M⟩:=nmd ((Ae B).toArray);rw[M]at q aj⊢;have u:=Awd B;obtain⟨A,R⟩:=nmd (Lk B);rw[R]at h u⊢;have ai:A.length=16:=by rw[h,b]
 have ac:=Aa q;have af:=Aa u;have f:=Aa (Ab h (Ab b ai));clear q u h ai b R M r;go_enter Tryz.func153,Tryz.ntmps153;go_wp2_with fail
 go_loopw [3] (fun i wr=>∃k:Nat,k<=4/\i=.int .i64 ((4*k:Nat):Int)/\PR w 203 16 (Ap (Ev A B (4*k))) wr) (fun i _=>(17-intOf i).toNat)
 case atStart=>exact⟨0,by omega,rfl,by rw[Nat.mul_zero,Aav];exact ac.o⟩
 case round=>
  clear ac ag;obtain⟨k,L,rfl,hr⟩:=hrel;by_cases o:k<4
  ·have d:=f.o.1;have b:=f.o.2.1;obtain⟨X,S,ae,ah⟩:=af.o k o;have c0:=hr.cell (4*k) (by omega);have c1:=hr.cell (4*k+1) (by omega);have c2:=hr.cell (4*k+2) (by omega);have c3:=hr.cell (4*k+3) (by omega);rw[Ro,Ada A B _ _ d (by omega) (by omega)]at c0 c1 c2 c3;obtain⟨ap,bn,bi,a2,rs,a5,bb,bf,bm,bg,ar,au,aw,an,e1,e2,e3,aq,al,bd,e7,a7,e9,bc,s,x,U,K⟩:=A29 _ _ _ _ (Ki (B.getD (4*k) 0)) (Ki (B.getD (4*k+1) 0)) (Ki (B.getD (4*k+2) 0)) (Ki (B.getD (4*k+3) 0));rw[<-X]at s;rw[<-S]at x;rw[<-ae]at U;rw[<-ah]at K;clear X S ae ah;obtain⟨c,D⟩:=nmd ((A.getD (4*k) 0).toNat);obtain⟨g,F⟩:=nmd ((A.getD (4*k+1) 0).toNat);obtain⟨H,p⟩:=nmd ((A.getD (4*k+2) 0).toNat);obtain⟨a4,z⟩:=nmd ((A.getD (4*k+3) 0).toNat);rw[D]at s;rw[F]at x;rw[p]at U;rw[z]at K
   have W:∀a,PR w 203 16 (Ap (Ev A B (4*k))) a->∃aa Y ab P:Nat,
     a.cell? ⟨w.heap.size,4*k,none⟩=some (.int .u8 (aa:Int))/\a.frozen? ⟨w.heap.size,4*k,none⟩=false/\
     (a.setCell ⟨w.heap.size,4*k,none⟩ (.int .u8 (c:Int))).cell? ⟨w.heap.size,4*k+1,none⟩=some (.int .u8 (Y:Int))/\(a.setCell ⟨w.heap.size,4*k,none⟩ (.int .u8 (c:Int))).frozen? ⟨w.heap.size,4*k+1,none⟩=false/\
     ((a.setCell ⟨w.heap.size,4*k,none⟩ (.int .u8 (c:Int))).setCell ⟨w.heap.size,4*k+1,none⟩ (.int .u8 (g:Int))).cell? ⟨w.heap.size,4*k+2,none⟩=some (.int .u8 (ab:Int))/\((a.setCell ⟨w.heap.size,4*k,none⟩ (.int .u8 (c:Int))).setCell ⟨w.heap.size,4*k+1,none⟩ (.int .u8 (g:Int))).frozen? ⟨w.heap.size,4*k+2,none⟩=false/\
     (((a.setCell ⟨w.heap.size,4*k,none⟩ (.int .u8 (c:Int))).setCell ⟨w.heap.size,4*k+1,none⟩ (.int .u8 (g:Int))).setCell ⟨w.heap.size,4*k+2,none⟩ (.int .u8 (H:Int))).cell? ⟨w.heap.size,4*k+3,none⟩=some (.int .u8 (P:Int))/\(((a.setCell ⟨w.heap.size,4*k,none⟩ (.int .u8 (c:Int))).setCell ⟨w.heap.size,4*k+1,none⟩ (.int .u8 (g:Int))).setCell ⟨w.heap.size,4*k+2,none⟩ (.int .u8 (H:Int))).frozen? ⟨w.heap.size,4*k+3,none⟩=false/\
     PR w 203 16 (Ap (Ev A B (4*(k+1)))) ((((a.setCell ⟨w.heap.size,4*k,none⟩ (.int .u8 (c:Int))).setCell ⟨w.heap.size,4*k+1,none⟩ (.int .u8 (g:Int))).setCell ⟨w.heap.size,4*k+2,none⟩ (.int .u8 (H:Int))).setCell ⟨w.heap.size,4*k+3,none⟩ (.int .u8 (a4:Int))):=by
    intro a hd;have m:=hd.set (4*k) (A.getD (4*k) 0).toNat;rw[Wn A B _ d (by omega),D]at m;have s1:=m.set (4*k+1) (A.getD (4*k+1) 0).toNat;rw[Wn A B _ d (by omega),F]at s1;have s2:=s1.set (4*k+2) (A.getD (4*k+2) 0).toNat;rw[Wn A B (4*k+2) d (by omega),p]at s2;have ad:=s2.set (4*k+3) (A.getD (4*k+3) 0).toNat;rw[Wn A B (4*k+3) d (by omega),z]at ad;exact⟨_,_,_,_,hd.cell (4*k) (by omega),hd.row.frozen _,m.cell (4*k+1) (by omega),m.row.frozen _,s1.cell (4*k+2) (by omega),s1.row.frozen _,s2.cell (4*k+3) (by omega),s2.row.frozen _,ad⟩
   have J:=Aa W;clear W D F p z;have I:=Aa hr;clear hr d b;generalize(B.getD (4*k) 0).toNat=b0 at*;generalize(B.getD (4*k+1) 0).toNat=b1 at*;generalize(B.getD (4*k+2) 0).toNat=b2 at*;generalize(B.getD (4*k+3) 0).toNat=b3 at*;obtain⟨n1,y⟩:=nmd (4*k+1);obtain⟨n2,E⟩:=nmd (4*k+2);obtain⟨n3,t⟩:=nmd (4*k+3);obtain⟨n,j⟩:=nmd (4*k);have ax:=Aa (show((4*(k+1):Nat):Int)=(n:Int)+4 by omega);rw[t,E,y,j]at J;rw[j]at I;rw[y]at c1;rw[E]at c2;rw[t]at c3;rw[j]at c0⊢;have am:(n:Int)+1=(n1:Int):=by omega
   have ao:(n:Int)+2=(n2:Int):=by omega
   have az:(n:Int)+3=(n3:Int):=by omega
   have bj:IntKind.i64.wrap ((n:Int)+1)=(n1:Int):=by rw[am];exact Iq _ (by omega)
   have bk:IntKind.i64.wrap ((n:Int)+2)=(n2:Int):=by rw[ao];exact Iq _ (by omega)
   have bh:IntKind.i64.wrap ((n:Int)+3)=(n3:Int):=by rw[az];exact Iq _ (by omega)
   have be:(n:Int)<16:=by omega
   have l1:(n1:Int)<16:=by omega
   have l2:(n2:Int)<16:=by omega
   have bl:(n3:Int)<16:=by omega
   have ak:=Aa (Ab L o);clear j y E t L o;go_wp2_with fail
   go_region
   have N:=I.o.drew;clear I c0 c1 c2 c3;generalize wr.drew=a at*;obtain⟨aa,Y,ab,P,c0,a6,c1,f1,c2,f2,c3,bo,O⟩:=J.o a N;have ay:=Aa O;clear J N O;go_wp2_with fail;refine(Zk ap _ ar).mono ?_;rintro e w1 ⟨rfl,rfl⟩;clear e1 e2 e3 e7;go_wp2_with fail;refine(Zk a2 _ au).mono ?_;rintro e w1 ⟨rfl,rfl⟩;clear aq a7 c0 a6 s;go_wp2_with fail;refine(Zk rs _ aw).mono ?_;rintro e w1 ⟨rfl,rfl⟩;clear al e9 c1 f1 x;go_wp2_with fail;refine(Zk a5 _ an).mono ?_;rintro e w1 ⟨rfl,rfl⟩;go_wp2_with fail
   go_roundw
   case rel=>exact⟨k+1,by have:=ak.o.2;omega,by rw[ax.o],ay.o⟩
   case measure=>simp[intOf];omega
  ·have a3:k=4:=by omega
   subst a3
   have hd:Ev A B (4*4)=A:=by
    have:=Adk A B f.o.1
    rwa [f.o.2.2]at this
   rw[hd]at hr;have T:=Ta hr.row;rw[Dw]at T;have Q:=hr.res;have l:(Ae A).length=16:=by rw[Jo];exact f.o.2.2
   have hb:=hr.bel;have a0:∀v∈Ae A,v.oneCell'=true:=by rw[<-Dw];exact Nk _ _
   generalize ba:Ae A=V at*;have G:=Aa (show(Tryz.prog.info? 203).map (·.size)=some V.length from by rw[l];kernel_rfl);have a8:Bw w (wr.setCells (w.heap.size+1) 0 V):=hb.trans (Ec wr w.heap.size _ 0 V (by omega));have a9:=Oq wr (w.heap.size+1) 0 V (by rw[l];exact Q);have a1:=Aa l;clear l hr o hd af;simp only[show((4*4:Nat):Int)=16 from rfl];go_wp2_with (first|refine wpList_load_mid rfl 203 _ rfl w.heap.size 0 rfl V _ T Tryz.underlying203 rfl G.o ?_|refine wpList_store_mid rfl 203 _ _ rfl (w.heap.size+1) 0 V.toArray rfl rfl (by simpa [a1.o]using Q) (by simpa using G.o) (all_oneCell_toArray a0) ?_);exact bodyPost_ret (v:=.agg V.toArray) (Mf Tryz.results153 _ _ (w.heap.size+1) 0 V _ rfl a9 Tryz.underlying203 rfl G.o) rfl ⟨by rw[ba],a8⟩
theorem Bo.setAll {w:World}{b:Nat}{t:TypeId}{k:IntKind}{xs:List Nat}(h:Bo w b t k xs)(a:List Nat)(f:a.length=xs.length):Bo (w.setCells b 0 (Aj k a)) b t k a:=by
 obtain⟨c,h1,h2,m⟩:=h;obtain⟨l,e,g⟩:=Yr b t (Aj k a) 0 w c h1;refine⟨l,e,by rw[g,h2,f],fun i d=>?_⟩
 have:=Vw b (Aj k a) 0 w (fun j n=>by rw[Dq,cell_of_row _ _ _ _ _ _ h1,m j (by rw[<-f];simpa [Aj]using n)];rfl) i (by simpa [Aj]using d)
 rw[Dq,cell_of_row _ _ _ _ _ _ e]at this;rw[this];simp[Aj,Az d]
theorem Au6 {w:World}{b a n:Nat}(h:w.there b a n)(c:0<n):b<w.heap.size:=by
 obtain⟨h1,_⟩:=h 0 c;rcases Hv b w.heap.size with g|g
 ·exact g
 ·have:w.cell? ⟨b,a+0,none⟩=none:=by
   unfold World.cell?;simp[Ot g]
  rw[this]at h1;cases h1
theorem PR.lt {w:World}{t:TypeId}{n:Nat}{xs:List Nat}{wr:World}(h:PR w t n xs wr)(a:0<n):w.heap.size+1<wr.heap.size:=Au6 h.res a
theorem PR.below {w:World}{t:TypeId}{n:Nat}{xs:List Nat}{wr a:World}(h:PR w t n xs wr)(b:0<n)(hb:Bw wr a):PR w t n xs a:=by have c:=h.lt b;exact⟨h.row.below hb (by omega),Qe h.res hb c,h.len,h.bel.trans (hb.mono (by omega))⟩
theorem PR.setAll {w:World}{t:TypeId}{n:Nat}{xs:List Nat}{wr:World}(h:PR w t n xs wr)(a:List Nat)(b:a.length=n):PR w t n a (wr.setCells w.heap.size 0 (Aj .u8 a)):=by obtain⟨h1,h2,i,k,g⟩:=Np w.heap.size (Aj .u8 a) 0 wr;refine⟨h.row.setAll a (by rw[b,h.len]),?_,b,h.bel.trans (Ec _ _ _ _ _ (Ak _))⟩;intro j d;obtain⟨f,c⟩:=h.res j d;have e:=g (w.heap.size+1) (by omega);exact⟨by rw[Lv e];exact f,by rw[World.frozen?_of_block e];exact c⟩
theorem PR.there {w:World}{t:TypeId}{n:Nat}{xs:List Nat}{wr:World}(h:PR w t n xs wr):wr.there w.heap.size 0 n:=by intro j a;rw[Dq,h.cell j a];exact⟨rfl,h.row.frozen j⟩
theorem Za (l:By):∀v∈Ae l,v.oneCell'=true:=by rw[<-Dw];exact Nk _ _
theorem Tf (l:By):(Ae l).toArray.all (·.oneCell')=true:=all_oneCell_toArray (Za l)
theorem Ye (l:By)(h:l.length=16):(Tryz.prog.info? 203).map (·.size)=some (Ae l).length:=by rw[Jo,h];kernel_rfl
theorem Tr (l:By)(h:l.length=16):(Tryz.prog.info? 203).map (·.size)=some (Ae l).toArray.size:=by rw[Uv,Jo,h];kernel_rfl
theorem PR.range {w:World}{t:TypeId}{n:Nat}{B:By}{wr:World}(h:PR w t n (Ap B) wr):wr.rangeAt w.heap.size 0 (Ae B):=by
 have:=Ta h.row
 rwa [Dw]at this
theorem Abf (f:Nat)(rk T:By)(w:World)(hk:Eh w f rk)(I:T.length=16):
  Cl 145 #[.pointer (some ⟨f,0,none⟩),.agg (Ae T).toArray] w fun e w'=>e=.returned (.agg (Ae (Cy rk T)).toArray)/\Bw w w':=by
 have a4:∀w,(zeroValue 203).run Tryz.prog w=.ok (.agg (Aj .u8 (List.replicate 16 0)).toArray) w:=fun _=>by kernel_rfl
 obtain⟨Z,Q⟩:=nmd ((Aj .u8 (List.replicate 16 0)).toArray);rw[Q]at a4;have bd:Z.size=16:=by rw[<-Q];simp[Aj]
 have F:=PR.start w 203 16 (Ae T).toArray Z (Ap T) (by rw[Dw]) bd (by rw[Dt,I]);have h:=hk.lt;have aq:=F.range;have j:=Aa (Ye T I);have be:=hk.below F.bel h;have a1:=Aa F;have a6:=Aa I;have c:=Aa aq;clear F Q I aq;go_enter Tryz.func145,Tryz.ntmps145;go_wp2_with (refine wpList_load_mid rfl 203 _ rfl w.heap.size 0 rfl (Ae T) _ c.o Tryz.underlying203 rfl j.o ?_);have h0:=Ag1 f rk T 0 _ be a6.o (by decide);refine h0.mono ?_;rintro e w1 ⟨rfl,M⟩;have X:=a1.o.below (by decide) M;have n:Dh T (Ol rk 0)=Ju rk T 0:=rfl;rw[n];have P:∀r,r<=14->(Ju rk T r).length=16:=fun r hr=>Amq rk T r hk.len a6.o hr;have x:=P 0 (by decide);have ar:=X.there;have R:=X.setAll (Ap (Ju rk T 0)) (by rw[Dt,x]);rw[Dw]at R;have ae:=Aa (Tr _ x);have W:=Aa P;have ag:=Aa R;clear n M X h0 a1 c j R a4;obtain⟨O,n⟩:=nmd (Ju rk T 0);have ap:=Aa n;rw[n]at x ae ag⊢;have ao:(Ae O).toArray.size=16:=by simp[Ae,x]
 clear n P;go_wp2_with (refine wpList_store_mid rfl 203 _ _ rfl w.heap.size 0 (Ae O).toArray rfl rfl (by rw[ao];exact ar) ae.o (Tf O) ?_)
 go_loopw [5] (fun i wr=>∃r:Nat,r<14/\i=.int .i64 ((r+1:Nat):Int)/\PR w 203 16 (Ap (Ju rk T r)) wr) (fun i _=>(15-intOf i).toNat)
 case atStart=>exact⟨0,by omega,rfl,by rw[ap.o];exact ag.o⟩
 case round=>
  clear ag ae ar ao ap x;obtain⟨r,af,rfl,hr⟩:=hrel;obtain⟨S,k⟩:=nmd (Ju rk T r);have s:=W.o r (by omega);rw[k]at hr s;have c:=Aa hr.range;have j:=Aa (Ye S s);have au:=hk.below hr.bel h;have L:=Aa hr;have ba:=Aa k;have l:(Is S).length=16:=by rw[Aa2,s]
  by_cases K:r+1<14
  ·have bg:((r+1:Nat):Int)<14:=by omega
   have e1:Ju rk T (r+1)=Dh (Lk (Mc (Is S))) (Ol rk (r+1)):=by rw[Ju,if_pos K,k]
   have H:=Aa e1;have Y:=Aa (Ab af K);obtain⟨q,ab⟩:=nmd (r+1);rw[ab]at bg⊢;have ac:=Aa ab;clear hr k e1 af K ab;go_wp2_with (refine wpList_load_mid rfl 203 _ rfl w.heap.size 0 rfl (Ae S) _ c.o Tryz.underlying203 rfl j.o ?_);refine(Amx f rk S _ au s).mono ?_;rintro e w2 ⟨rfl,y⟩;have m:=L.o.below (by decide) y;have o:=m.setAll (Ap (Is S)) (by rw[Dt,l]);rw[Dw]at o;have ak:=m.there;have a3:=Aa (Tr _ l);have aj:=Aa (Ye _ l);have a2:(Ae (Is S)).toArray.size=16:=by simp[Ae,l]
   have a0:=Aa o.range;have az:=Aa o;have bm:=hk.below o.bel h;clear L c j y m o;generalize Is S=S2 at*;go_wp2_with (first|refine wpList_store_mid rfl 203 _ _ rfl w.heap.size 0 (Ae S2).toArray rfl rfl (by rw[a2];exact ak) a3.o (Tf S2) ?_|refine wpList_load_mid rfl 203 _ rfl w.heap.size 0 rfl (Ae S2) _ a0.o Tryz.underlying203 rfl aj.o ?_);refine(Ajx S2 _ l).mono ?_;rintro e a8 ⟨rfl,C⟩;have g:=az.o.below (by decide) C;have bl:=hk.below g.bel h;have bb:=Ace S2;have al:=Aa g;clear az a3 aj a0 C g ak a2;generalize Mc S2=S4 at*;go_wp2_with fail;refine(Arr S4 _ bb).mono ?_;rintro e bn ⟨rfl,ax⟩;have J:=al.o.below (by decide) ax;have a:=Afg S4;have bo:=hk.below J.bel h;have b:=J.setAll (Ap (Lk S4)) (by rw[Dt,a]);rw[Dw]at b;have t:=J.there;have p:=Aa (Tr _ a);have D:=Aa (Ye _ a);have A:(Ae (Lk S4)).toArray.size=16:=by simp[Ae,a]
   have z:=Aa b.range;have E:=Aa b;have U:=hk.below b.bel h;clear al ax J b;generalize Lk S4=S5 at*;go_wp2_with (first|refine wpList_store_mid rfl 203 _ _ rfl w.heap.size 0 (Ae S5).toArray rfl rfl (by rw[A];exact t) p.o (Tf S5) ?_|refine wpList_load_mid rfl 203 _ rfl w.heap.size 0 rfl (Ae S5) _ z.o Tryz.underlying203 rfl D.o ?_);refine(Ag1 f rk S5 q _ U a (by have:=Y.o;have:=ac.o;omega)).mono ?_;rintro e w7 ⟨rfl,u⟩;have d:=E.o.below (by decide) u;have a5:Dh S5 (Ol rk q)=Ju rk T (r+1):=by rw[H.o,ac.o]
   have N:=W.o (r+1) (by have:=Y.o;omega);rw[a5];have ad:=d.setAll (Ap (Ju rk T (r+1))) (by rw[Dt,N]);rw[Dw]at ad;have a9:=d.there;have ah:=Aa (Tr _ N);have ai:(Ae (Ju rk T (r+1))).toArray.size=16:=by simp[Ae,N]
   have am:=Aa ad;clear E z p D t A u d ad a5 H;obtain⟨a7,aa⟩:=nmd (Ju rk T (r+1));rw[aa]at N ah ai am⊢;have bi:=Aa aa;clear aa;go_wp2_with (first|refine wpList_store_mid rfl 203 _ _ rfl w.heap.size 0 (Ae a7).toArray rfl rfl (by rw[ai];exact a9) ah.o (Tf a7) ?_)
   go_roundw
   case rel=>exact⟨r+1,Y.o.2,by have:=ac.o;exact Pm (by omega),by rw[bi.o];exact am.o⟩
   case measure=>simp[intOf];omega
  ·have bc:r=13:=by omega
   subst bc
   have e1:Cy rk T=Dh (Mc (Is S)) (Ol rk 14):=by show Ju rk T (13+1)=_;rw[Ju,if_neg (by decide),k]
   have aw:=W.o 14 (by decide);have e2:Ju rk T 14=Cy rk T:=rfl;rw[e2]at aw;have H:=Aa e1;simp only[show((13+1:Nat):Int)=14 from rfl];clear hr k e1 e2 af K ba;go_wp2_with (refine wpList_load_mid rfl 203 _ rfl w.heap.size 0 rfl (Ae S) _ c.o Tryz.underlying203 rfl j.o ?_);refine(Amx f rk S _ au s).mono ?_;rintro e w2 ⟨rfl,y⟩;have m:=L.o.below (by decide) y;have av:=Aa m;clear L c j y m;generalize Is S=S2 at*;go_wp2_with fail;refine(Ajx S2 _ l).mono ?_;rintro e a8 ⟨rfl,C⟩;have g:=av.o.below (by decide) C;have a:=Ace S2;have b:=g.setAll (Ap (Mc S2)) (by rw[Dt,a]);rw[Dw]at b;have t:=g.there;have p:=Aa (Tr _ a);have D:=Aa (Ye _ a);have A:(Ae (Mc S2)).toArray.size=16:=by simp[Ae,a]
   have z:=Aa b.range;have E:=Aa b;have U:=hk.below b.bel h;clear av C g b;generalize Mc S2=S5 at*;go_wp2_with (first|refine wpList_store_mid rfl 203 _ _ rfl w.heap.size 0 (Ae S5).toArray rfl rfl (by rw[A];exact t) p.o (Tf S5) ?_|refine wpList_load_mid rfl 203 _ rfl w.heap.size 0 rfl (Ae S5) _ z.o Tryz.underlying203 rfl D.o ?_);refine(Ag1 f rk S5 14 _ U a (by decide)).mono ?_;rintro e w7 ⟨rfl,u⟩;have d:=E.o.below (by decide) u;rw[<-H.o];have G:(Ae (Cy rk T)).length=16:=by rw[Jo];exact aw
   have bf:=Za (Cy rk T);have an:=d.res;have hb:=d.bel;generalize bk:Ae (Cy rk T)=V at*;have ay:=Aa (show(Tryz.prog.info? 203).map (·.size)=some V.length from by rw[G];kernel_rfl);have M:Bw w (w7.setCells (w.heap.size+1) 0 V):=hb.trans (Ec w7 w.heap.size _ 0 V (by omega));have bj:=Oq w7 (w.heap.size+1) 0 V (by rw[G];exact an);have bh:=Aa G;clear G E z p D t A u d;go_wp2_with (refine wpList_store_mid rfl 203 _ _ rfl (w.heap.size+1) 0 V.toArray rfl rfl (by simpa [bh.o]using an) (by simpa using ay.o) (all_oneCell_toArray bf) ?_);exact bodyPost_ret (v:=.agg V.toArray) (Mf Tryz.results145 _ _ (w.heap.size+1) 0 V _ rfl bj Tryz.underlying203 rfl ay.o) rfl ⟨by rw[bk],M⟩
theorem A0d:∀(n v i:Nat),i<n->(Af v n).getD i 0=UInt8.ofNat (v/256^(n-1-i)%256):=by
 intro n
 induction n with
 |zero=>intro v i h;omega
 |succ n ih=>
  intro v i h;rw[Af,Ea];by_cases a:i<n
  ·rw[Ja (by rw[Cb];exact a),<-Ea,ih _ _ a,Aag,<-Nat.pow_succ',show(n-1-i).succ=n+1-1-i by omega]
  ·have:i=n:=by omega
   subst this;rw[If (by rw[Cb];exact Ak _),Cb,Po];simp
def Rr (A:By):Nat->By
 |0=>List.replicate 16 0
 |k+1=>((Rr A k).set k (A.getD k 0)).set (8+k) (A.getD (8+k) 0)
theorem Ave (A:By)(h:A.length=16):Rr A 8=A:=by
 match A,h with
 | [_,_,_,_,_,_,_,_,_,_,_,_,_,_,_,_],_=>rfl
theorem Ai3 (v k:Nat)(hk:k<8):(v:Int)/2^(56-8*k)%256=((((Af v 8).getD k 0).toNat:Nat):Int):=by
 rw[A0d 8 v k hk];have h1:(UInt8.ofNat (v/256^(8-1-k)%256)).toNat=v/256^(8-1-k)%256:=by rw[UInt8.toNat_ofNat'];omega
 have h2:(256:Nat)^(8-1-k)=2^(56-8*k):=by rw[show(256:Nat)=2^8 from rfl,<-Nat.pow_mul];congr 1;omega
 rw[h1,h2];simp
theorem A1f (A:By)(k:Nat):((Ap (Rr A k)).set k (A.getD k 0).toNat).set (8+k) (A.getD (8+k) 0).toNat=Ap (Rr A (k+1)):=by simp[Rr,Ap,List.map_set]
theorem Ayu (e k:Nat)(hk:k<8):(Af (e/2^64) 8).getD k 0=(Af e 16).getD k 0/\(Af (e%2^64) 8).getD k 0=(Af e 16).getD (8+k) 0:=by
 rw[<-Ato e];constructor
 ·rw[Ea,Ea,Ja (by rw[Cb];exact hk)]
 ·rw[Ea,Ea,If (by rw[Cb];omega),Cb,Nat.add_sub_cancel_left]
structure BM (w:World)(e:Nat)(xs:List Nat)(wr:World):Prop where
 el:El wr w.heap.size e
 res:wr.there (w.heap.size+1) 0 16
 row:Bo wr (w.heap.size+1+1) 203 .u8 xs
 len:xs.length=16
 bel:Bw w wr
theorem BM.start (w:World)(e:Nat)(a:Array Value)(c:(Aj .u8 (List.replicate 16 0)).toArray=a):BM w e (Ap (Rr (Af e 16) 0)) (((w.alloc (.cells (At e) 201)).alloc (.cells a 203)).alloc (.cells a 203)):=by
 have b:a.size=16:=by rw[<-c];simp[Aj]
 have d:Ap (Rr (Af e 16) 0)=List.replicate 16 0:=by simp[Rr,Ap]
 rw[d];refine⟨?_,?_,?_,by simp,Zn w _ _ _⟩
 ·unfold El;rw[Mn _ _ _ (by simp;omega),Mn _ _ _ (by simp)];exact heap_alloc_new w _
 ·have h:=Iy (w.alloc (.cells (At e) 201)) a 203;rw[b]at h;have h2:=World.there_alloc h (.cells a 203);simpa using h2
 ·have h:=Bo.new ((w.alloc (.cells (At e) 201)).alloc (.cells a 203)) 203 .u8 (List.replicate 16 0) a (by rw[b];simp) (fun i f=>by rw[<-c];exact Mr .u8 _ i f);simpa using h
theorem BM.set {w:World}{e:Nat}{xs:List Nat}{wr:World}(h:BM w e xs wr)(i x:Nat):BM w e (xs.set i x) (wr.setCell ⟨w.heap.size+1+1,i,none⟩ (.int .u8 (x:Int))):=by have hb:Below (w.heap.size+2) wr (wr.setCell ⟨w.heap.size+1+1,i,none⟩ (.int .u8 (x:Int))):=Below.setCell (B:=w.heap.size+2) (Ah _ _) (Ak (w.heap.size+2)) _;exact⟨h.el.below hb (by omega),Qe h.res hb (by omega),h.row.set i x,by simp[h.len],h.bel.setCell (by simp;omega) _⟩
theorem BM.cell {w:World}{e:Nat}{xs:List Nat}{wr:World}(h:BM w e xs wr)(i:Nat)(a:i<16):wr.cell? ⟨w.heap.size+1+1,i,none⟩=some (.int .u8 ((xs.getD i 0:Nat):Int)):=h.row.cell (by rw[h.len];exact a)
theorem Ac5 (e:Nat)(w:World)(_he:e<2^128):
  Cl 150 #[.agg (At e)] w fun x w'=>x=.returned (.agg (Ae (Af e 16)).toArray)/\Bw w w':=by
 have n:∀w,(zeroValue 203).run Tryz.prog w=.ok (.agg (Aj .u8 (List.replicate 16 0)).toArray) w:=fun _=>by kernel_rfl
 obtain⟨f,b⟩:=nmd ((Aj .u8 (List.replicate 16 0)).toArray);rw[b]at n;have q:f.size=16:=by rw[<-b];simp[Aj]
 have g:=BM.start w e f b;have z:(At e).size=2:=rfl;generalize y:At e=C at*;have j:=Aa g;clear g b y;go_enter Tryz.func150,Tryz.ntmps150;go_wp2_with fail
 go_loopw [4] (fun i wr=>∃k:Nat,k<=8/\i=.int .i64 (k:Int)/\BM w e (Ap (Rr (Af e 16) k)) wr) (fun i _=>(9-intOf i).toNat)
 case atStart=>exact⟨0,by omega,rfl,j.o⟩
 case round=>
  clear j n q z;obtain⟨k,hk,rfl,hr⟩:=hrel;by_cases a:k<8
  ·have G:(k:Int)<8:=by omega
   have c0:=hr.el.hi;have c1:=hr.el.lo;have c2:=hr.cell k (by omega);have f2:=hr.row.frozen k;obtain⟨m,l⟩:=Ayu e k a;have F:=Ai3 (e/2^64) k a;have r:=Ai3 (e%2^64) k a;rw[m]at F;rw[l]at r;have s1:=hr.set k ((Af e 16).getD k 0).toNat;have s2:=s1.set (8+k) ((Af e 16).getD (8+k) 0).toNat;rw[A1f]at s2;have c3:=s1.cell (8+k) (by omega);have I:=s1.row.frozen (8+k);have t:=Aa s2;clear s1 s2 hr m l;generalize e/2^64=hi at*;generalize e%2^64=lo at*;generalize((Af e 16).getD k 0).toNat=z1 at*;generalize((Af e 16).getD (8+k) 0).toNat=z2 at*;generalize((Ap (Rr (Af e 16) k)).set k z1).getD (8+k) 0=q1 at*;generalize(Ap (Rr (Af e 16) k)).getD k 0=q2 at*;have H:=Aa (Ab hk a);clear _he;go_wp2_with fail
   go_roundw
   case rel=>exact⟨k+1,by omega,by go_num,t.o⟩
   case measure=>simp[intOf];omega
  ·have p:k=8:=by omega
   subst p;rw[Ave _ (Cb 16 e)]at hr;have o:=Ta hr.row;rw[Dw]at o;have h:=hr.res;have c:(Ae (Af e 16)).length=16:=by rw[Jo];exact Cb 16 e
   have hb:=hr.bel;have s:=Za (Af e 16);generalize A:Ae (Af e 16)=V at*;have d:=Aa (show(Tryz.prog.info? 203).map (·.size)=some V.length from by rw[c];kernel_rfl);have D:Bw w (wr.setCells (w.heap.size+1) 0 V):=hb.trans (Ec wr w.heap.size _ 0 V (by omega));have E:=Oq wr (w.heap.size+1) 0 V (by rw[c];exact h);have u:=Aa c;clear c hr a _he;go_wp2_with (first|refine wpList_load_mid rfl 203 _ rfl (w.heap.size+1+1) 0 rfl V _ o Tryz.underlying203 rfl d.o ?_|refine wpList_store_mid rfl 203 _ _ rfl (w.heap.size+1) 0 V.toArray rfl rfl (by simpa [u.o]using h) (by simpa using d.o) (all_oneCell_toArray s) ?_);exact bodyPost_ret (v:=.agg V.toArray) (Mf Tryz.results150 _ _ (w.heap.size+1) 0 V _ rfl E Tryz.underlying203 rfl d.o) rfl ⟨by rw[A],D⟩
theorem Br.st {w:World}{g:Nat}{k:IntKind}{s:St}(h:Br w g k s.list):w.cell? ⟨g,0,none⟩=some (.int k (s.a:Int))/\w.cell? ⟨g,1,none⟩=some (.int k (s.b:Int))/\w.cell? ⟨g,2,none⟩=some (.int k (s.c:Int))/\w.cell? ⟨g,3,none⟩=some (.int k (s.d:Int))/\w.cell? ⟨g,4,none⟩=some (.int k (s.e:Int))/\w.cell? ⟨g,5,none⟩=some (.int k (s.f:Int))/\w.cell? ⟨g,6,none⟩=some (.int k (s.g:Int))/\w.cell? ⟨g,7,none⟩=some (.int k (s.h:Int)):=
 ⟨h.at_ 0 (by simp[St.list]),h.at_ 1 (by simp[St.list]),h.at_ 2 (by simp[St.list]),h.at_ 3 (by simp[St.list]),h.at_ 4 (by simp[St.list]),h.at_ 5 (by simp[St.list]),h.at_ 6 (by simp[St.list]),h.at_ 7 (by simp[St.list])⟩
def Atq (a st:St)(k:Nat):List Nat:=(Zx a st).list.take k++a.list.drop k
theorem Aw8 (a st:St)(k:Nat)(hk:k<8)(g:a.ok):(Atq a st k).getD k 0=a.list.getD k 0/\a.list.getD k 0<4294967296:=by
 obtain⟨ba,bb,bc,c,f,d,b,e⟩:=g
 match k,hk with
 |0,_=>exact⟨rfl,ba⟩
 |1,_=>exact⟨rfl,bb⟩
 |2,_=>exact⟨rfl,bc⟩
 |3,_=>exact⟨rfl,c⟩
 |4,_=>exact⟨rfl,f⟩
 |5,_=>exact⟨rfl,d⟩
 |6,_=>exact⟨rfl,b⟩
 |7,_=>exact⟨rfl,e⟩
theorem Az0 (st:St)(h:st.ok)(k:Nat)(hk:k<8):st.list.getD k 0<4294967296:=(Aw8 st st k hk h).2
theorem A0r:∀x∈Gk,x<4294967296:=by decide+kernel
theorem A23 {w:World}{g:Nat}{k:IntKind}{xs:List Nat}(h:Br w g k xs):∀j u,(Aj k xs)[j]?=some u->w.cell? ((⟨g,0,none⟩:Addr).add j)=some u:=by
 intro j u d;have e:(⟨g,0,none⟩:Addr).add j=⟨g,j,none⟩:=by unfold Addr.add;split<;>simp_all
 obtain⟨c,b⟩:=Ds.1 d;have a:j<xs.length:=by simpa [Aj]using c
 rw[e,h.at_ j a,<-b];simp[Aj,Az a]
theorem Tl (x:Nat)(n:Int)(w:World)(a:x<4294967296)(b:1<=n)(c:n<=31):
  Cl 118 #[.int .u32 x,.int .u32 n] w fun e w'=>e=.returned (.int .u32 (Dp x n.toNat:Nat))/\w'=w:=by
 have d:(x:Int)<4294967296:=by omega
 go_enter Tryz.func118,Tryz.ntmps118
 go_wp2
 go_ret;exact⟨Tb (Aui x n a b c),rfl⟩
theorem Axn (x:Nat)(w:World)(a:x<4294967296):Cl 118 #[.int .u32 x,.int .u32 2] w fun e w'=>e=.returned (.int .u32 (Dp x 2:Nat))/\w'=w:=Tl x 2 w a (by decide) (by decide)
theorem Az9 (x:Nat)(w:World)(a:x<4294967296):Cl 118 #[.int .u32 x,.int .u32 6] w fun e w'=>e=.returned (.int .u32 (Dp x 6:Nat))/\w'=w:=Tl x 6 w a (by decide) (by decide)
theorem Axm (x:Nat)(w:World)(a:x<4294967296):Cl 118 #[.int .u32 x,.int .u32 7] w fun e w'=>e=.returned (.int .u32 (Dp x 7:Nat))/\w'=w:=Tl x 7 w a (by decide) (by decide)
theorem A1n (x:Nat)(w:World)(a:x<4294967296):Cl 118 #[.int .u32 x,.int .u32 11] w fun e w'=>e=.returned (.int .u32 (Dp x 11:Nat))/\w'=w:=Tl x 11 w a (by decide) (by decide)
theorem A0j (x:Nat)(w:World)(a:x<4294967296):Cl 118 #[.int .u32 x,.int .u32 13] w fun e w'=>e=.returned (.int .u32 (Dp x 13:Nat))/\w'=w:=Tl x 13 w a (by decide) (by decide)
theorem Atx (x:Nat)(w:World)(a:x<4294967296):Cl 118 #[.int .u32 x,.int .u32 17] w fun e w'=>e=.returned (.int .u32 (Dp x 17:Nat))/\w'=w:=Tl x 17 w a (by decide) (by decide)
theorem As7 (x:Nat)(w:World)(a:x<4294967296):Cl 118 #[.int .u32 x,.int .u32 18] w fun e w'=>e=.returned (.int .u32 (Dp x 18:Nat))/\w'=w:=Tl x 18 w a (by decide) (by decide)
theorem A2a (x:Nat)(w:World)(a:x<4294967296):Cl 118 #[.int .u32 x,.int .u32 19] w fun e w'=>e=.returned (.int .u32 (Dp x 19:Nat))/\w'=w:=Tl x 19 w a (by decide) (by decide)
theorem Azn (x:Nat)(w:World)(a:x<4294967296):Cl 118 #[.int .u32 x,.int .u32 22] w fun e w'=>e=.returned (.int .u32 (Dp x 22:Nat))/\w'=w:=Tl x 22 w a (by decide) (by decide)
theorem A2k (x:Nat)(w:World)(a:x<4294967296):Cl 118 #[.int .u32 x,.int .u32 25] w fun e w'=>e=.returned (.int .u32 (Dp x 25:Nat))/\w'=w:=Tl x 25 w a (by decide) (by decide)
theorem Adl (a b c:Nat)(ha:a<4294967296)(hb:b<4294967296)(d:c<4294967296):bits .xor .u32 (bits .xor .u32 (a:Int) (b:Int)) (c:Int)=((a^^^b^^^c:Nat):Int):=by rw[u32_xor_nat a b ha hb,u32_xor_nat _ c (Th ha hb) d]
theorem A3r (x:Nat)(a:x<4294967296):bits .xor .u32 (bits .xor .u32 ((Dp x 7:Nat):Int) ((Dp x 18:Nat):Int)) ((x:Int)/8)=((Acq x:Nat):Int):=by rw[show(x:Int)/8=((x/8:Nat):Int)from by simp,Adl _ _ _ (Ka x 7 a (by decide) (by decide)) (Ka x 18 a (by decide) (by decide)) (by omega)];rfl
theorem Avp (x:Nat)(a:x<4294967296):bits .xor .u32 (bits .xor .u32 ((Dp x 17:Nat):Int) ((Dp x 19:Nat):Int)) ((x:Int)/1024)=((Adz x:Nat):Int):=by rw[show(x:Int)/1024=((x/1024:Nat):Int)from by simp,Adl _ _ _ (Ka x 17 a (by decide) (by decide)) (Ka x 19 a (by decide) (by decide)) (by omega)];rfl
theorem Aur (x:Nat)(a:x<4294967296):Af x 4=[x/16777216,x/65536%256,x/256%256,x%256].map UInt8.ofNat:=by
 simp only[Af,Db,Lc,Hu,Qv,Aag];have h:x/16777216%256=x/16777216:=by omega
 show [UInt8.ofNat (x/16777216%256),_,_,_]=_;rw[h]
theorem Aei (x:Nat)(w:World)(c:x<4294967296):
  Cl 119 #[.int .u32 (x:Int)] w fun e w'=>e=.returned (.string ⟨(Af x 4).toArray⟩)/\Bw w w':=by
 have f:(x:Int)<4294967296:=by omega
 have a:Bo (w.alloc (.cells #[.int .u8 ((x:Int)/16777216),.int .u8 ((x:Int)/65536%256),.int .u8 ((x:Int)/256%256),.int .u8 ((x:Int)%256)] 5)) w.heap.size 5 .u8 [x/16777216,x/65536%256,x/256%256,x%256]:=Bo.new w _ _ _ _ rfl (fun i d=>by
   match i,d with
   |0,_=>simp
   |1,_=>simp
   |2,_=>simp
   |3,_=>simp)
 have b:=Qh (cap:=4) a;rw[<-Aur x c]at b;simp only[Fh,Ov,Dq]at b;clear a;go_enter Tryz.func119,Tryz.ntmps119;go_wp2_with fail;go_ret;exact⟨rfl,(Ah _ _).alloc (Ak _) _⟩
structure SP (w:World)(b:By)(xs:List Nat)(wr:World):Prop where
 blk:Br wr w.heap.size .u8 (Ap b)
 res:wr.there (w.heap.size+1) 0 64
 row:Bo wr (w.heap.size+1+1) 178 .u32 xs
 len:xs.length=64
 bel:Bw w wr
theorem Ava (a c b d:Nat)(h0:a<256)(h1:c<256)(h2:b<256)(e:d<256):
  bits .or .u32 (bits .or .u32 (bits .or .u32 ((a:Int)*16777216) ((c:Int)*65536)) ((b:Int)*256)) (d:Int)=((a*16777216+c*65536+b*256+d:Nat):Int):=by
 have e0:(a:Int)*16777216=((a*16777216:Nat):Int):=by omega
 have e1:(c:Int)*65536=((c*65536:Nat):Int):=by omega
 have e2:(b:Int)*256=((b*256:Nat):Int):=by omega
 rw[e0,e1,e2,u32_or_nat _ _ (by omega) (by omega),Ah7 _ _ 24 (by omega) (by omega),u32_or_nat _ _ (by omega) (by omega),Ah7 _ _ 16 (by omega) (by omega),u32_or_nat _ _ (by omega) (by omega),Ah7 _ _ 8 (by omega) (by omega)]
theorem Axr (b:By)(k:Nat)(h:4*k+4<=b.length):Wz b k=(Ap b).getD (4*k) 0*16777216+(Ap b).getD (4*k+1) 0*65536+(Ap b).getD (4*k+2) 0*256+(Ap b).getD (4*k+3) 0:=by
 have hd:((b.drop (4*k)).take 4)=[b[4*k],b[4*k+1],b[4*k+2],b[4*k+3]]:=by
  apply Vy
  ·simp;omega
  ·intro i h1 h2;simp only[List.getElem_take,List.getElem_drop]
   match i,h2 with
   |0,_=>rfl
   |1,_=>rfl
   |2,_=>rfl
   |3,_=>rfl
 have a:∀i (c:i<b.length),(Ap b).getD i 0=b[i].toNat:=fun i c=>by simp[Ap,Az c]
 unfold Wz;rw[hd,a _ (by omega),a _ (by omega),a _ (by omega),a _ (by omega)];simp only[Bh,So,List.foldl_nil];omega
theorem A2b (b:By)(k:Nat)(hk:k<64):(Qc b k++List.replicate (64-k) 0).set k (Wz b k)=Qc b (k+1)++List.replicate (64-(k+1)) 0:=by have a:=Ahn b k;rw[Lu _ _ (by omega),a,Po,show 64-k=(64-(k+1))+1 from by omega,Aai,Co,Qc];simp
theorem A2q (b:By)(n:Nat)(c:n<48):(It b n++List.replicate (48-n) 0).set (n+16) (Ad7 (It b n) (n+16))=It b (n+1)++List.replicate (48-(n+1)) 0:=by have a:=Ab1 b n;rw[Lu _ _ (by omega),a,Po,show 48-n=(48-(n+1))+1 from by omega,Aai,Co,It];simp
theorem SP.start (w:World)(b:By)(t:TypeId)(a:Array Value)(d:a=(Aj .u32 (List.replicate 64 0)).toArray):
  SP w b (List.replicate 64 0) (((w.alloc (.cells (Aj .u8 (Ap b)).toArray t)).alloc (.cells a 178)).alloc (.cells a 178)):=by
 have c:a.size=64:=by rw[d];simp[Aj]
 refine⟨((Br.of_block (heap_alloc_new w _)).alloc _).alloc _,?_,?_,by simp,(((Ah _ _).alloc (Ak _) _).alloc (by simp) _).alloc (by simp;omega) _⟩
 ·have h:=Iy (w.alloc (.cells (Aj .u8 (Ap b)).toArray t)) a 178;rw[c]at h;have h2:=World.there_alloc h (.cells a 178);simpa using h2
 ·have h:=Bo.new ((w.alloc (.cells (Aj .u8 (Ap b)).toArray t)).alloc (.cells a 178)) 178 .u32 (List.replicate 64 0) a (by rw[c];simp) (fun i e=>by rw[d];exact Mr .u32 _ i e);simpa using h
theorem SP.set {w:World}{b:By}{xs:List Nat}{wr:World}(h:SP w b xs wr)(i x:Nat):SP w b (xs.set i x) (wr.setCell ⟨w.heap.size+1+1,i,none⟩ (.int .u32 (x:Int))):=by have hb:Below (w.heap.size+2) wr (wr.setCell ⟨w.heap.size+1+1,i,none⟩ (.int .u32 (x:Int))):=Below.setCell (B:=w.heap.size+2) (Ah _ _) (Ak (w.heap.size+2)) _;exact⟨h.blk.below hb (by omega),Qe h.res hb (by omega),h.row.set i x,by simp[h.len],h.bel.setCell (by simp;omega) _⟩
theorem SP.drew {w:World}{b:By}{xs:List Nat}{wr:World}(h:SP w b xs wr):SP w b xs wr.drew:=
 ⟨⟨h.blk.lt,h.blk.at_⟩,h.res,h.row,h.len,h.bel.drew⟩
theorem At9 (b:By)(w:World)(hb:b.length=64):
  Cl 117 #[.agg (Ae b).toArray] w fun e w'=>e=.returned (.agg (Aj .u32 (Si b)).toArray)/\Bw w w':=by
 have r:=fun Z an=>SP.start w b 148 Z an;rw[Dw]at r;have ax:(Ae b).toArray.size=64:=by simp[Ae,hb]
 have p:=Aa hb;obtain⟨C,W⟩:=nmd ((Ae b).toArray);rw[W]at ax r⊢;have ac:=Aa r;clear hb W r;go_enter Tryz.func117,Tryz.ntmps117;go_wp2_with fail
 go_loopw [4] (fun i wr=>∃k:Nat,k<=16/\i=.int .i64 (k:Int)/\SP w b (Qc b k++List.replicate (64-k) 0) wr) (fun i _=>(17-intOf i).toNat)
 case atStart=>exact⟨0,by omega,rfl,ac.o _ rfl⟩
 case round=>
  clear ac;obtain⟨k,hk,rfl,a⟩:=hrel;by_cases I:k<16
  ·have aq:(k:Int)<16:=by omega
   have c0:=a.blk.at_ (4*k) (by rw[Dt,p.o];omega);have c1:=a.blk.at_ (4*k+1) (by rw[Dt,p.o];omega);have c2:=a.blk.at_ (4*k+2) (by rw[Dt,p.o];omega);have c3:=a.blk.at_ (4*k+3) (by rw[Dt,p.o];omega);have cw:=a.row.cell (i:=k) (by rw[a.len];omega);have ao:=a.row.frozen k;have ag:=Aem b (4*k);have S:=Aem b (4*k+1);have f:=Aem b (4*k+2);have ai:=Aem b (4*k+3);have K:=Axr b k (by rw[p.o];omega);have d:=a.set k (Wz b k);rw[A2b b k (by omega),K,<-Ava _ _ _ _ ag S f ai]at d;generalize(Ap b).getD (4*k) 0=x0 at*;generalize(Ap b).getD (4*k+1) 0=x1 at*;generalize(Ap b).getD (4*k+2) 0=x2 at*;generalize(Ap b).getD (4*k+3) 0=x3 at*;generalize(Qc b k++List.replicate (64-k) 0).getD k 0=y at*;have m:=Aa d;have x:Hid (w.heap.size≠w.heap.size+1+1):=by show w.heap.size≠w.heap.size+1+1;omega
   clear d K a;have bj:(x0:Int)<256:=by omega
   have bg:(x1:Int)<256:=by omega
   have bk:(x2:Int)<256:=by omega
   have be:(x3:Int)<256:=by omega
   obtain⟨c,Y⟩:=nmd (4*k);obtain⟨l,X⟩:=nmd (4*k+1);obtain⟨m2,Q⟩:=nmd (4*k+2);obtain⟨o,ae⟩:=nmd (4*k+3);rw[Y]at c0;rw[X]at c1;rw[Q]at c2;rw[ae]at c3;have ba:IntKind.i64.wrap (4*(k:Int))=(c:Int):=by rw[show 4*(k:Int)=(c:Int)from by omega];exact Iq _ (by omega)
   have a9:IntKind.i64.wrap ((c:Int)+1)=(l:Int):=by rw[show(c:Int)+1=(l:Int)from by omega];exact Iq _ (by omega)
   have bc:IntKind.i64.wrap ((c:Int)+2)=(m2:Int):=by rw[show(c:Int)+2=(m2:Int)from by omega];exact Iq _ (by omega)
   have bi:IntKind.i64.wrap ((c:Int)+3)=(o:Int):=by rw[show(c:Int)+3=(o:Int)from by omega];exact Iq _ (by omega)
   have E:(c:Int)<64:=by omega
   have l1:(l:Int)<64:=by omega
   have l2:(m2:Int)<64:=by omega
   have bd:(o:Int)<64:=by omega
   have lk:(k:Int)<64:=by omega
   clear ag S f ai Y X Q ae;go_wp2_with fail
   go_region_held (fun w'=>w'.cell? ⟨w.heap.size,c,none⟩=some (.int .u8 (x0:Int))/\w'.cell? ⟨w.heap.size,l,none⟩=some (.int .u8 (x1:Int))/\w'.cell? ⟨w.heap.size,m2,none⟩=some (.int .u8 (x2:Int))/\w'.cell? ⟨w.heap.size,o,none⟩=some (.int .u8 (x3:Int))) (first|exact⟨(Ac6 _ _ ⟨w.heap.size,c,none⟩ _ x.o).trans c0,(Ac6 _ _ ⟨w.heap.size,l,none⟩ _ x.o).trans c1,(Ac6 _ _ ⟨w.heap.size,m2,none⟩ _ x.o).trans c2,(Ac6 _ _ ⟨w.heap.size,o,none⟩ _ x.o).trans c3⟩|go_keep) (fail)
   go_wp2_with fail
   go_roundw
   case rel=>exact⟨k+1,by omega,by go_num,m.o.drew⟩
   case measure=>simp[intOf];omega
  ·have G:k=16:=by omega
   subst G;have R:SP w b (It b 0++List.replicate (48-0) 0) wr:=a;clear a I hk;go_wp2_with fail
   go_loopw [5,6,7,8,9] (fun i _ _ _ _ wr=>∃n k:Nat,n<=48/\16<=k/\k<=64/\i=.int .i64 (k:Int)/\Hid (n+16=k)/\SP w b (It b n++List.replicate (48-n) 0) wr) (fun i _ _ _ _ _=>(65-intOf i).toNat)
   case atStart=>exact⟨0,16,by omega,by omega,by omega,rfl,rfl,R⟩
   case round=>
    clear R;obtain⟨n,k,a3,G,ap,rfl,g,a⟩:=hrel;by_cases I:k<64
    ·--<A>
     have aq:(k:Int)<64:=by omega
     have N:=Ab1 b n;rw[g.o]at N;have j:=Ah0 b n
     have af:∀i,i<k->(It b n++List.replicate (48-n) 0).getD i 0=(It b n).getD i 0:=fun i bb=>by simp[Ja (by omega:i<(It b n).length)]
     have hr:=a.row;have c15:=hr.cell (i:=k-15) (by rw[a.len];omega);have c2:=hr.cell (i:=k-2) (by rw[a.len];omega);have ad:=hr.cell (i:=k-7) (by rw[a.len];omega);have O:=hr.cell (i:=k-16) (by rw[a.len];omega);have bh:=hr.cell (i:=k) (by rw[a.len];omega);have ao:=hr.frozen k;rw[af _ (by omega)]at c15 c2 ad O;have h:=Yp (i:=k-15) j;have f:=Yp (i:=k-2) j;have u:=Yp (i:=k-7) j;have s:=Yp (i:=k-16) j;have z:=A2q b n (by have:=g.o;omega);have d:=a.set k (Ad7 (It b n) (n+16));rw[g.o]at z d;rw[z]at d;unfold Ad7 at d;generalize(It b n).getD (k-15) 0=x15 at*;generalize(It b n).getD (k-2) 0=x2 at*;generalize(It b n).getD (k-7) 0=x7 at*;generalize(It b n).getD (k-16) 0=x16 at*;generalize(It b n++List.replicate (48-n) 0).getD k 0=y at*;have m:=Aa d;have a1:=Aa (Ab h (Ab f (Ab u s)));have a6:=A3r x15 h;have a2:=Avp x2 f;have E:=Arq x15 h;have l1:=Ayw x2 f;have L:=fun w=>Axm x15 w h;have ah:=fun w=>As7 x15 w h;have T:=fun w=>Atx x2 w f;have U:=fun w=>A2a x2 w f;generalize Acq x15=A at*;generalize Adz x2=D at*;generalize Dp x15 7=r7 at*;generalize Dp x15 18=r18 at*;generalize Dp x2 17=r17 at*;generalize Dp x2 19=r19 at*;have am:=Aa L;have a4:=Aa ah;have a0:=Aa T;have ar:=Aa U;have al:=Aa (Ab E l1);clear d z af j N hr a h f u s L ah T U E l1;go_wp2_with fail;refine(am.o _).mono ?_;rintro e w1 ⟨rfl,rfl⟩;go_wp2_with fail;refine(a4.o _).mono ?_;rintro e w1 ⟨rfl,rfl⟩;go_wp2_with fail;refine(a0.o _).mono ?_;rintro e w1 ⟨rfl,rfl⟩;go_wp2_with fail;refine(ar.o _).mono ?_;rintro e w1 ⟨rfl,rfl⟩;go_wp2_with fail;obtain⟨_,_,u,s⟩:=a1.o;obtain⟨ay,aw⟩:=al.o;obtain⟨F,aj⟩:=nmd (k-7);obtain⟨J,M⟩:=nmd (k-16);rw[aj]at ad;rw[M]at O;have w7:IntKind.i64.wrap ((k:Int)-7)=(F:Int):=by rw[show(k:Int)-7=(F:Int)from by omega];exact Iq _ (by omega)
     have bl:IntKind.i64.wrap ((k:Int)-16)=(J:Int):=by rw[show(k:Int)-16=(J:Int)from by omega];exact Iq _ (by omega)
     have bm:(F:Int)<64:=by omega
     have bf:(J:Int)<64:=by omega
     have aa:(((D+x7+A+x16)%4294967296:Nat):Int)=((x16:Int)+(A:Int)+(x7:Int)+(D:Int))%4294967296:=by omega
     rw[aa]at m;clear aj M aa a6 a2 c15 c2 ay aw u s
     go_region
     go_wp2_with fail
     go_roundw
     case rel=>first
      |exact⟨n+1,k+1,by have:=g.o;omega,by omega,by omega,by go_num,by have:=g.o;show _=_;omega,m.o.drew⟩
      |((repeat apply Exists.intro);exact⟨⟨n+1,k+1,by have:=g.o;omega,by omega,by omega,by go_num,by have:=g.o;show _=_;omega,m.o.drew⟩,rfl⟩)
     case measure=>simp[intOf];omega
    ·have hk:k=64:=by omega
     subst hk;have av:n=48:=by have:=g.o;omega
     subst av
     have q:SP w b (Si b) wr:=by have:=a;simp only[Po,List.replicate_zero,Ff]at this;exact this
     clear a g ap G I a3;have a5:=Ta q.row;have P:=q.len;have ab:=q.res;have t:(Aj .u32 (Si b)).length=64:=by simp[Aj,P]
     generalize ak:Aj .u32 (Si b)=V at*;have au:∀v∈V,v.oneCell'=true:=by rw[<-ak];exact Nk _ _
     have H:=Aa (show(Tryz.prog.info? 178).map (·.size)=some V.length from by rw[t];kernel_rfl);have a7:Bw w (wr.setCells (w.heap.size+1) 0 V):=q.bel.trans (Ec wr w.heap.size _ 0 V (by omega));have a8:=Oq wr (w.heap.size+1) 0 V (by rw[t];exact ab);have az:=Aa t;clear t P;go_wp2_with (first|refine wpList_load_mid rfl 178 _ rfl (w.heap.size+1+1) 0 rfl V _ a5 Tryz.underlying178 rfl H.o ?_|refine wpList_store_mid rfl 178 _ _ rfl (w.heap.size+1) 0 V.toArray rfl rfl (by simpa [az.o]using ab) (by simpa using H.o) (all_oneCell_toArray au) ?_);exact bodyPost_ret (v:=.agg V.toArray) (Mf Tryz.results117 _ _ (w.heap.size+1) 0 V _ rfl a8 Tryz.underlying178 rfl H.o) rfl ⟨by rw[ak],a7⟩
theorem A0t (v:Nat):Af v 8=Af (v/4294967296) 4++Af v 4:=by simp only[Af,Hu,Qv,Aag]
theorem A01 (w:World):(Instr.makeSlice 54 (.int .i64 0) (.int .i64 32)).run Tryz.prog w=.ok (.slice (some ⟨w.heap.size,0,none⟩) 0 32) (w.alloc (.cells (madeCells #[.int .u8 0] 32) 5)):=by obtain⟨a,b,c,e,d⟩:=info_parts Ab2;have hr:=run_make (P:=Tryz.prog) w 54 5 a (.int .u8 0) Tryz.underlying54 b c .i64 .i64 0 32 (by omega) (by omega) (by rw[d];decide) (by decide);rw[hr];simp[e];rfl
theorem Auk (n:Nat)(w:World)(ab:n<=1000000):
  Cl 98 #[.int .u64 (n:Int)] w fun e w'=>e=.returned (.string ⟨(Vo n).toArray⟩)/\Bw w w':=by
 obtain⟨E,x,A,C,o⟩:=info_parts Ab2;have af:(n:Int)<=1000000:=by omega
 obtain⟨z,hz⟩:=nmd (Vt n);have an:z<64:=by rw[<-hz];exact Ak1 n
 have L:(119-(n:Int)%64)%64=(z:Int):=by rw[<-hz];unfold Vt;omega
 have I:=Aa hz;clear ab hz;go_enter Tryz.func98,Tryz.ntmps98;go_wp2_with fail;rw[L];clear L
 go_loopw [4,5] (fun v i wr=>∃k g cap:Nat,k<=z/\i=.int .u64 (k:Int)/\v=.slice (some ⟨g,0,none⟩) (k+1) cap/\wr.ownsRow w.heap.size 5 1 (.slice (some ⟨g,0,none⟩) (k+1) cap) (k+1) (Ae (128::List.replicate k 0))/\Bw w wr) (fun _ i _=>(65-intOf i).toNat)
 case atStart=>exact⟨0,w.heap.size,1,by omega,rfl,rfl,World.ownsRow_lit (size:=1) w _ 1 (Ak _) (by decide) rfl,(Ah _ _).alloc (Ak _) _⟩
 case round=>
  obtain⟨k,g,cap,hk,rfl,rfl,d,f⟩:=hrel;have q:=f.size;by_cases ad:k<z
  ·have ak:(k:Int)<(z:Int):=by omega
   go_wp2_with (at_builtin;refine wpList_append_lies _ rfl _ _ 54 rfl w.heap.size 5 E (.int .u8 0) 1 1 Tryz.underlying54 x A C o rfl (by decide) _ _ _ rfl (d.alloc _) ⟨wr.heap.size,0,none⟩ 1 1 [.int .u8 0] rfl rfl ?c1 ?c2 (by decide) ?c3 ?c4 ?c5 _ rfl ?_)
   case c1=>exact Qt (cs:= #[.int .u8 0]) (heap_alloc_new wr _)
   case c2=>intro u Q;simp at Q;subst Q;rfl
   case c3=>unfold maxLen;omega
   case c4=>omega
   case c5=>simp;omega
   intro g2 h w2 a M S al;have b:Bw w w2:=Below.grown (f.alloc q _) M (by simp;omega) (fun k hk=>(d.lt k hk).1)
   have c:w2.ownsRow w.heap.size 5 1 (.slice (some ⟨g2,0,none⟩) (k+1+1) h) (k+1+1) (Ae (128::List.replicate (k+1) 0)):=by
    have e:(128::List.replicate (k+1) 0:By)=(128::List.replicate k 0)++[0]:=by simp[List.replicate_succ']
    rw[e,Aa7];exact a
   clear a M S d f;go_wp2_with fail
   go_roundw
   case rel=>first
    |exact⟨k+1,g2,h,by omega,by go_num,rfl,c,b⟩
    |((repeat apply Exists.intro);exact⟨⟨k+1,g2,h,by omega,by go_num,rfl,c,b⟩,rfl⟩)
   case measure=>simp[intOf];omega
  ·have ac:k=z:=by omega
   subst ac;go_wp2_with fail;have e1:(n:Int)*8/4294967296=((8*n/4294967296:Nat):Int):=by omega
   rw[e1];refine(Aei _ _ (by omega)).mono ?_;rintro e w1 ⟨rfl,G⟩;have y:=Ac8 d G;have F:=f.trans (G.mono q);have P:=F.size;clear e1 d f q G ad hk;obtain⟨o1,m⟩:=nmd (Af (8*n/4294967296) 4);have U:o1.length=4:=by rw[<-m,Cb]
   rw[m];have D:(ByteArray.mk o1.toArray).size=4:=by simpa [ByteArray.size]using U
   go_wp2_with (at_builtin;refine Lib.wpList_append_own_string _ rfl _ _ 54 9 rfl w.heap.size 5 E Tryz.underlying54 Tryz.underlying9 x A C o _ _ _ rfl y ⟨o1.toArray⟩ rfl ?f1 ?f2 P ?_)
   case f1=>rw[D];unfold maxLen;omega
   case f2=>rw[D];omega
   intro aj w2 a H X;rw[Aig,<-Aa7]at a;have b:Bw w w2:=Below.grown F H P (fun k hk=>(y.lt k hk).1);have O:=b.size;obtain⟨g2,h,Y⟩:=Xj a (by omega);subst Y;clear y F H X D;go_wp2_with fail;have e1:(n:Int)*8=((8*n:Nat):Int):=by omega
   rw[e1];refine(Aei _ _ (by omega)).mono ?_;rintro e am ⟨rfl,r⟩;have c:=Ac8 a r;have s:=b.trans (r.mono O);have K:=s.size;clear e1 a b O r;obtain⟨j,l⟩:=nmd (Af (8*n) 4);have V:j.length=4:=by rw[<-l,Cb]
   rw[l];have t:(ByteArray.mk j.toArray).size=4:=by simpa [ByteArray.size]using V
   have J:(128::(List.replicate k 0++o1))++j=Vo n:=by rw[Anl,I.o,A0t,m,l];simp
   have aa:=Aa J;clear J m l;go_wp2_with (at_builtin;refine Lib.wpList_append_own_string _ rfl _ _ 54 9 rfl w.heap.size 5 E Tryz.underlying54 Tryz.underlying9 x A C o _ _ _ rfl c ⟨j.toArray⟩ rfl ?g1 ?g2 K ?_)
   case g1=>rw[t];unfold maxLen;omega
   case g2=>rw[t];omega
   intro ag R p N W;rw[Aig,<-Aa7,aa.o]at p;have Z:Bw w R:=Below.grown s N K (fun k hk=>(c.lt k hk).1);obtain⟨ae,ah,T⟩:=Xj p (by omega);subst T;have ai:=Aqn p (by rw[Ag8,I.o]);clear c s N W t;go_wp2_with fail;go_ret;exact⟨rfl,Z⟩
def Aeb (s:St):Array Value:= #[.int .u32 (s.a:Int),.int .u32 (s.b:Int),.int .u32 (s.c:Int),.int .u32 (s.d:Int),.int .u32 (s.e:Int),.int .u32 (s.f:Int),.int .u32 (s.g:Int),.int .u32 (s.h:Int)]
theorem Avc (st:St)(w:World)(N:st.ok):
  Cl 99 #[.agg (Aeb st)] w fun e w'=>e=.returned (.string ⟨(digest st).toArray⟩)/\Bw w w':=by
 obtain⟨L,J,P,T,I⟩:=info_parts Ab2;have Q:∀w,(Instr.makeSlice 54 (.int .i64 0) (.int .i64 32)).run Tryz.prog w=.ok (.slice (some ⟨w.heap.size,0,none⟩) 0 32) (w.alloc (.cells (madeCells #[.int .u8 0] 32) 5)):=fun w=>A01 w
 have s:∀u,(((w.alloc (.cells (Aeb st) 147)).alloc u)).heap[w.heap.size]?=some (.cells (Aj .u32 st.list).toArray 147 (0,0)):=fun u=>by rw[Mn _ _ _ (by simp)];exact heap_alloc_new w _
 have r:=Aa s;clear s;have X:(Aeb st).size=8:=rfl;generalize Aeb st=SV at*;go_enter Tryz.func99,Tryz.ntmps99;go_wp2_with fail
 go_loopw [3,4] (fun v i wr=>∃k g cap:Nat,k<=8/\i=.int .i64 (k:Int)/\v=.slice (some ⟨g,0,none⟩) (4*k) cap/\wr.ownsRow (w.heap.size+1) 5 1 (.slice (some ⟨g,0,none⟩) (4*k) cap) (4*k) (Ae (Ze st k))/\Br wr w.heap.size .u32 st.list/\Bw w wr) (fun _ i _=>(9-intOf i).toNat)
 case atStart=>refine⟨0,w.heap.size+1,32,by omega,rfl,rfl,?_,Br.of_block (r.o _),((Ah _ _).alloc (Ak _) _).alloc (by simp) _⟩;have:=World.ownsRow_made (base:=w.heap.size+1) (e:=5) (size:=1) (w.alloc (.cells SV 147)) (madeCells #[.int .u8 0] 32) 32 (by simp) (by decide) (by simp[size_madeCells]);simpa [Ze,Ae]using this
 case round=>
  clear r Q;obtain⟨k,g,cap,hk,rfl,rfl,o,b,d⟩:=hrel;have q:=d.size;by_cases l:k<8
  ·have W:(k:Int)<8:=by omega
   have H:=b.at_ k (by simpa [St.list]using l);have z:=Az0 st N k l;have E:=Aiz st k l;generalize st.list.getD k 0=x at*;have R:=Aa z;have F:=Aa E;clear z E;go_wp2_with fail;refine(Aei x _ R.o).mono ?_;rintro e w1 ⟨rfl,f⟩;have c:=Ac8 o f;have n:=b.below f b.lt;have D:=d.trans (f.mono q);have M:w.heap.size+1<=w1.heap.size:=by have:=n.lt;omega
   obtain⟨o1,p⟩:=nmd (Af x 4);have S:o1.length=4:=by rw[<-p,Cb]
   rw[p]at F⊢;have m:(ByteArray.mk o1.toArray).size=4:=by simpa [ByteArray.size]using S
   clear o b d q f H p;go_wp2_with (at_builtin;refine Lib.wpList_append_own_string _ rfl _ _ 54 9 rfl (w.heap.size+1) 5 L Tryz.underlying54 Tryz.underlying9 J P T I _ _ _ rfl c ⟨o1.toArray⟩ rfl ?f1 ?f2 M ?_)
   case f1=>rw[m];unfold maxLen;omega
   case f2=>rw[m];omega
   intro V w2 a j O;rw[Aig,<-Aa7,<-F.o]at a;have A:Bw w w2:=Below.grown D j (by omega) (fun k hk=>by have:=(c.lt k hk).1;omega);have C:Br w2 w.heap.size .u32 st.list:=n.grown j (fun e=>by have:=(c.lt _ e).1;omega);obtain⟨t,y,G⟩:=Xj a (by omega);subst G;clear c D j O m n;have h:4*k+4=4*(k+1):=by omega
   rw[h]at a;go_wp2_with fail
   go_roundw
   case rel=>first
    |exact⟨k+1,t,y,by omega,by go_num,by rw[h],a,C,A⟩
    |((repeat apply Exists.intro);exact⟨⟨k+1,t,y,by omega,by go_num,by rw[h],a,C,A⟩,rfl⟩)
   case measure=>simp[intOf];omega
  ·have K:k=8:=by omega
   subst K;have U:=Aqn o (by rw[Apa st 8 (by omega)]);go_wp2_with fail;go_ret;exact⟨rfl,d⟩
end Go.Proofs.YtojgilcdgccojaaGreatDoor
