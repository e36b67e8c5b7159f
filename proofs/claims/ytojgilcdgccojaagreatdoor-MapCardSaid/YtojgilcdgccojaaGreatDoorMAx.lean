import Derived.ArgAppend
import Derived.Test.YtojgilcdgccojaaGreatDoorAl
import Derived.Test.YtojgilcdgccojaaGreatDoorMAw
import Derived.Test.YtojgilcdgccojaaGreatDoorMAq
set_option linter.unusedSimpArgs false
set_option maxRecDepth 100000
set_option maxHeartbeats 8000000
namespace Go.Proofs.YtojgilcdgccojaaGreatDoor
open Go.RowKit
def Iu (w:World)(sv:Value)(a:List By):Prop:=(sv=.slice none 0 0/\a=[])\/∃(g b cap:Nat) (c:Array Value),sv=.slice (some ⟨g,b,none⟩) a.length cap/\w.heap[g]?=some (.cells c 9 (0,0))/\b+cap<=c.size/\a.length<=cap/\cap<=maxLen/\∀i t,a[i]?=some t->c[b+i]?=some (Ac t)
theorem Iu.lt {w:World}{sv:Value}{b:List By}(h:Iu w sv b)(j:Nat)(a:sv.ownBlock=some j):j<w.heap.size:=by
 rcases h with⟨rfl,_⟩|⟨g,d,cap,c,rfl,hb,_⟩
 ·cases a
 ·cases a;exact lt_of_block hb
theorem Iu.kp {w w':World}{sv:Value}{a:List By}{S:List Nat}(h:Iu w sv a)(hk:Kp S w w')(b:∀j,sv.ownBlock=some j->j∉S):Iu w' sv a:=by
 rcases h with h|⟨g,d,cap,c,rfl,hb,h⟩
 ·exact .inl h
 ·exact .inr ⟨g,d,cap,c,rfl,(hk.block g (lt_of_block hb) (b g rfl)).trans hb,h⟩
theorem Cr.setS {w:World}{x:DX}{m:DM}{wv:Value}(h:Cr w x m wv)(sv:Value):Cr (w.setCell ⟨x.d,4,none⟩ sv) x {m with sv:=sv} wv:=by have k:Kp [x.d] w (w.setCell ⟨x.d,4,none⟩ sv):=(Kp.refl _ w).setCell x.d 4 _ (.inl (by simp));refine⟨?_,h.rb.kp k (by simpa using Ne.symm h.n1),h.rc.kp k (by simpa using Ne.symm h.n2),Bm h.own k (fun j a=>by simpa using(h.n4 j a).1),h.same,h.ge,h.le,h.cl,h.n1,h.n2,h.n3,h.n4,h.wl⟩;rw[Cx h.blk 4 _];simp
theorem Av2 (x:DX)(m:DM)(wv:Value)(s:By)(a:List By)(w:World)(h:Cr w x m wv)(E:Iu w m.sv (s::a)):
  ∃p,Iu w p a/\(∀j,p.ownBlock=some j->m.sv.ownBlock=some j)/\Cl 49 #[.pointer (some ⟨x.d,0,none⟩)] w fun e w'=>e=.returned (.tuple #[Ac s,.bool true])/\w'=w.setCell ⟨x.d,4,none⟩ p:=by
 rcases E with⟨_,h0⟩|⟨g,b,cap,c,d,hb,y,n,q,l⟩
 ·cases h0
 have k:=Aa (Wq x.d w h.c5);have c4:=h.c4;have F:=h.fr 4;rw[d]at c4;have k0:w.cell? ⟨g,b,none⟩=some (Ac s):=by rw[cell_of_row _ _ _ _ _ _ hb];exact l 0 s rfl
 have u:(s::a).length=a.length+1:=rfl;rw[u]at c4 d n;have h1:(1:Int)<=((a.length+1:Nat):Int):=by omega
 have h2:=Tj q;have v:((a.length+1:Nat):Int)<=(cap:Int):=by omega
 have A:(((a.length+1:Nat):Int)==0)=false:=by rw[beq_eq_false_iff_ne];omega
 simp only[Ac]at k0;by_cases C:cap=1
 ·have D:a=[]:=Ls.1 (by omega);subst D;subst C;refine⟨.slice (some ⟨g,b,none⟩) 0 0,.inr ⟨g,b,0,c,rfl,hb,by omega,by simp,by omega,fun i t o=>by simp at o⟩,fun j r=>by rw[d];exact r,?_⟩;clear h d hb y n q l u h1 h2 v A;go_enter Tryz.func49,Tryz.ntmps49;go_wp2_with fail;refine k.o.mono ?_;rintro e w' ⟨rfl,f⟩;rw[f];clear f w' k;go_wp2_with fail;go_ret2;exact⟨rfl,rfl⟩
 ·refine⟨.slice (some ⟨g,b+1,none⟩) a.length (cap-1),.inr ⟨g,b+1,cap-1,c,rfl,hb,by omega,by omega,by omega,fun i t o=>by rw[show b+1+i=b+(i+1)by omega];exact l (i+1) t o⟩,fun j r=>by rw[d];exact r,?_⟩;obtain⟨n1,z⟩:=nmd (a.length+1);have e1:a.length=n1-1:=by omega
  rw[e1];rw[z]at c4 h1 v A;clear h d hb y n q l u e1 z;go_enter Tryz.func49,Tryz.ntmps49;go_wp2_with fail;refine k.o.mono ?_;rintro e w' ⟨rfl,f⟩;rw[f];clear f w' k;go_wp2_with fail;go_ret2;exact⟨rfl,rfl⟩
theorem Ays (x:DX)(m:DM)(wv:Value)(w:World)(h:Cr w x m wv)(b:Iu w m.sv []):
  Cl 49 #[.pointer (some ⟨x.d,0,none⟩)] w fun e w'=>e=.returned (.tuple #[Ac (List.replicate 16 0),.bool true])/\Bw w w':=by
 have i:=Aa (Wq x.d w h.c5);have c4:=h.c4
 obtain⟨a,cap,d⟩:∃a cap,m.sv=.slice a 0 cap:=by
  rcases b with⟨h,_⟩|⟨g,k,cap,c,h,_⟩
  ·exact⟨none,0,h⟩
  ·exact⟨_,_,h⟩
 rw[d]at c4;have j:∀w,(Instr.makeSlice 54 (.int .i64 16) (.int .i64 16)).run Tryz.prog w=.ok (.slice (some ⟨w.heap.size,0,none⟩) 16 16) (w.alloc (.cells (madeCells #[.int .u8 0] 16) 5)):=Zw 16 (by decide);have f:=Qh (cap:=16) (Bo.made w 5 .u8 16);rw[Tu,List.map_replicate]at f;clear h b d;go_enter Tryz.func49,Tryz.ntmps49;go_wp2_with fail;refine i.o.mono ?_;rintro e w' ⟨rfl,rfl⟩;go_wp2_with fail;go_ret2;exact⟨rfl,(Ah _ _).alloc (Ak _) _⟩
theorem Iu.of_row {w:World}{v:Value}{b:List By}(h:Lo w v b):Iu w v b:=by
 rcases h.2 with⟨a,f⟩|⟨g,cap,cur,a,_,hb,e,j,k,d⟩
 ·exact .inl ⟨a,Ls.1 f⟩
 ·refine .inr ⟨g,0,cap,cur,a,hb,by omega,e,j,fun i t c=>?_⟩;have l:=(Ds.1 c).1;have h1:(b.map Ac)[i]?=some (Ac t):=by rw[Fq,c];rfl
  rw[<-d,Ml (by omega)]at h1;rw[Dq];simpa using h1
structure Ax9 (w:World)(sv:Value)(ss:List By)(y:By)(a:Option Addr)(cap:Nat)(w2:World):Prop where
 run:(Builtin.append_ #[36,36] 36 #[sv,.slice (some ⟨w.heap.size,0,none⟩) 1 1]).run Tryz.prog (w.alloc (.cells #[Ac y] 9))=.ok (.slice a (ss.length+1) cap) w2
 row:Iu w2 (.slice a (ss.length+1) cap) (ss++[y])
 kp:Kp sv.ownBlock.toList w w2
 own:∀j,(Value.slice a (ss.length+1) cap).ownBlock=some j->sv.ownBlock=some j\/w.heap.size<=j
theorem Atu {w:World}{sv:Value}{b:List By}(h:Iu w sv b)(e:By)(ac:b.length<=1000000):∃a cap w2,Ax9 w sv b e a cap w2:=by
 obtain⟨G,C,Q,p,K⟩:=info_parts Adj;have o:Bw w (w.alloc (.cells #[Ac e] 9)):=(Ah _ _).alloc (Ak _) _;have f:(w.alloc (.cells #[Ac e] 9)).heap[w.heap.size]?=some (.cells #[Ac e] 9 (0,0)):=heap_alloc_new w _;rcases h with⟨rfl,rfl⟩|⟨g,l,cap,c,rfl,hb,R,aa,N,H⟩
 ·obtain⟨a,cap,w2,A⟩:=Apm (w:=w) (v:=.slice none 0 0) (O:=[]) ⟨rfl,.inl ⟨rfl,rfl⟩⟩ e (by simp);exact⟨a,cap,w2,A.run,Iu.of_row A.row,A.kp,A.own⟩
 ·have X:=lt_of_block hb;have n:=(o.block g X).trans hb;obtain⟨w1,x⟩:=nmd (w.alloc (.cells #[Ac e] 9));rw[x]at o f n
  have E:∀j u,[Ac e][j]?=some u->w1.cell? ((⟨w.heap.size,0,none⟩:Addr).add j)=some u:=fun j u d=>by
   match j,d with
   |0,d=>simp at d;subst d;rw[Addr.add_lit,cell_of_row _ _ _ _ _ _ f];rfl
  by_cases F:b.length+1<=cap
  ·have hr:=run_append_room_cells (P:=Tryz.prog) w1 36 36 9 G Tryz.underlying36 C g l b.length cap ⟨w.heap.size,0,none⟩ 1 1 [Ac e] (by rw[p];rfl) E (fun u I=>by simp at I;subst I;rfl) F (fun j d=>by
    rw[p,Nat.mul_one,cell_of_row _ _ _ _ _ _ n];have:j=0:=by simpa using d
    subst this;rw[Pp,Array.getElem?_eq_getElem (by omega)]
    rfl) (fun j _=>by simp[World.frozen?,n])
   rw[p,Nat.mul_one]at hr;have J:Kp [g] w1 (w1.setCell ⟨g,l+b.length,none⟩ (Ac e)):=(Kp.refl _ w1).setCell g _ _ (.inl (by simp));refine⟨some ⟨g,l,none⟩,cap,_,by rw[x];exact hr,?_,(Kp.of_below o).trans J,fun j d=>.inl d⟩;refine .inr ⟨g,l,cap,c.setIfInBounds (l+b.length) (Ac e),by rw[Bb];rfl,Cx n _ _,by simpa using R,by simpa using F,N,fun i t m=>?_⟩;rcases Nat.lt_trichotomy i b.length with q|q|q
   ·rw[Ja q]at m;rw[Array.getElem?_setIfInBounds_ne (by omega)];exact H i t m
   ·subst q;simp at m;subst m;rw[Array.getElem?_setIfInBounds_self_of_lt (by omega)]
   ·rw[Sk (by simp;omega)]at m;cases m
  ·obtain⟨D,w',hr,s,V⟩:=run_append_arg_grows (P:=Tryz.prog) w1 36 36 9 G _ 1 16 Tryz.underlying36 C Q p K rfl (by decide) ⟨g,l,none⟩ b.length cap (b.map Ac) (by simp) (fun j u d=>by
    rw[Addr.add_lit,cell_of_row _ _ _ _ _ _ n];rw[Fq]at d
    cases r:b[j]? with
    |none=>rw[r]at d;cases d
    |some t=>rw[r]at d;cases d;exact H j t r) ⟨w.heap.size,0,none⟩ 1 1 [Ac e] rfl E (by omega) (by unfold maxLen;omega) (by omega)
   have M:Lo w' D (b++[e]):=by
    have h0:w'.ownsRow 0 9 1 D (b.length+1) (b.map Ac++[Ac e]):=by obtain⟨U,W⟩:=s;refine⟨U,W.imp id ?_⟩;rintro⟨z,y,cur,f,_,Z⟩;exact⟨z,y,cur,f,Cu _,Z⟩
    have e1:(b++[e]).length=b.length+1:=by simp
    have e2:(b++[e]).map Ac=b.map Ac++[Ac e]:=by simp
    unfold Lo;rw[e1,e2];exact h0
   obtain⟨a,y,T⟩:=Aao s;subst T;refine⟨a,y,w',by rw[x];exact hr,Iu.of_row M,((Kp.of_below (S:=[g]) o).grown V (fun k hk=>by cases hk)),fun j d=>.inr ?_⟩;rcases s.2 with⟨Y,_⟩|⟨z,ab,cur,f,L,_⟩
   ·cases Y
   ·cases f;cases d;exact Hb o.size L
theorem A1o (x:DX)(m:DM)(wv:Value)(t:By)(a:List By)(w:World)(h:Cr w x m wv)(G:Iu w m.sv a)(V:a.length<=1000000)(J:∀j,m.sv.ownBlock=some j->j∉x.set wv):
  Cl 44 #[.pointer (some ⟨x.d,0,none⟩),.string ⟨t.toArray⟩] w fun e w'=>e=.returned (.tuple #[])/\∃E,Cr w' x {m with sv:=E} wv/\Iu w' E (a++[Ar t 16])/\Kp (x.d::m.sv.ownBlock.toList) w w'/\(∀j,E.ownBlock=some j->m.sv.ownBlock=some j\/w.heap.size<=j):=by
 have U:(Instr.makeSlice 54 (.int .i64 16) (.int .i64 16)).run Tryz.prog w=.ok (.slice (some ⟨w.heap.size,0,none⟩) 16 16) (w.alloc (.cells (madeCells #[.int .u8 0] 16) 5)):=Zw 16 (by decide) w
 have R:∀M L,(Builtin.copy_ #[54,M] L #[.slice (some ⟨w.heap.size,0,none⟩) 16 16,.string ⟨t.toArray⟩]).run Tryz.prog (w.alloc (.cells (madeCells #[.int .u8 0] 16) 5))=.ok (goInt (t.take 16).length) (w.alloc (.cells (Ae (Ar t 16)).toArray 5)):=fun M L=>by rw[Aev];exact Abx t 16 w M L 5
 have l:=Jm t 16;generalize Ar t 16=F at*;obtain⟨w0,p⟩:=nmd ((w.alloc (.cells (Ae F).toArray 5)).drew);have n:Bw w w0:=p▸((Ah _ _).alloc (Ak _) _).drew;have c:w0.heap[w.heap.size]?=some (.cells (Ae F).toArray 5 (0,0)):=p▸heap_alloc_new w _;have r:=h.kp (S:=[]) (Kp.of_below n) (by simp);have O:=G.kp (S:=[]) (Kp.of_below n) (by simp);obtain⟨d,f,w2,A⟩:=Atu O F V;have Y:=n.size;have v:=r.kp A.kp (fun j o g=>J j (by simpa using g) o);have D:=v.setS (.slice d (a.length+1) f);have H:Kp (x.d::m.sv.ownBlock.toList) w (w2.setCell ⟨x.d,4,none⟩ (.slice d (a.length+1) f)):=Aaa ((Kp.of_below n).trans A.kp) x.d 4 _;have aa:=h.lt;have C:∀j,(Value.slice d (a.length+1) f).ownBlock=some j->m.sv.ownBlock=some j\/w.heap.size<=j:=fun j o=>(A.own j o).imp id (fun g=>by omega)
 have z:Iu (w2.setCell ⟨x.d,4,none⟩ (.slice d (a.length+1) f)) (.slice d (a.length+1) f) (a++[F]):=A.row.kp ((Kp.refl [x.d] w2).setCell x.d 4 _ (.inl (by simp))) (fun j o=>by
  simp;rintro rfl;rcases C _ o with g|g
  ·exact J _ g (by simp[DX.set])
  ·omega)
 obtain⟨w1,u⟩:=nmd (w0.alloc (.cells #[Ac F] 9));have K:Bw w0 w1:=u▸(Ah _ _).alloc (Ak _) _;have P:=r.kp (S:=[]) (Kp.of_below K) (by simp);obtain⟨i,y⟩:=nmd (w2.setCell ⟨x.d,4,none⟩ (.slice d (a.length+1) f));rw[y]at D H z;have I:=A.run;rw[u]at I;have N:w.heap.size∉m.sv.ownBlock.toList:=fun g=>by have:=G.lt _ (by simpa using g);omega
 have e1:=K.block w.heap.size (lt_of_block c);have e2:=A.kp.block w.heap.size (lt_of_block c) N;have Q:Kp [x.d] w2 i:=y▸(Kp.refl [x.d] w2).setCell x.d 4 _ (.inl (by simp));have e3:i.heap[w.heap.size]?=w0.heap[w.heap.size]?:=(Q.block w.heap.size (Eu (lt_of_block c) A.kp.size) (by simp;omega)).trans e2
 have b:=Aa (Ab p (Ab u (Ab I (Ab y (Ab (show ∀w'∈[w0,w1,w2],w'.cell? ⟨x.d,4,none⟩=some m.sv from fun w' k=>by
  simp only[Al,Cq,or_false]at k;rcases k with rfl|rfl|rfl
  ·exact r.c4
  ·exact P.c4
  ·exact v.c4) (Ab (show ∀w'∈[w0,w1,w2,i],(convert 54 9 (.slice (some ⟨w.heap.size,0,none⟩) 16 16)).run Tryz.prog w'=.ok (Ac F) w' from fun w' k=>by
  simp only[Al,Cq,or_false]at k;rcases k with rfl|rfl|rfl|rfl
  ·exact Zi c rfl l
  ·exact Zi c e1 l
  ·exact Zi c e2 l
  ·exact Zi c e3 l) (v.fr 4)))))))
 have Z:=Aa (Ab D (Ab z (Ab H C)));obtain⟨s,W⟩:=nmd (w.heap.size);rw[W]at b R U;clear h G V J l p n c r O A Y v D H aa C z u K P y I N e1 e2 Q e3;generalize a.length+1=NS at*;go_enter Tryz.func44,Tryz.ntmps44;go_wp2_with fail;refine Gf (Ek [w0,w1,w2,i]) [7,8,11] (by kernel_rfl) (by kernel_rfl) (by rw[<-b.o.1];rfl) ?_;refine Am 0 (.pointer (some ⟨x.d,0,none⟩)) ?_;refine Am 1 (.pointer (some ⟨x.d,0,none⟩)) ?_;refine Am 2 (.pointer (some ⟨x.d,0,none⟩)) ?_;refine Am 3 (.pointer (some ⟨x.d,4,none⟩)) ?_;refine Mh 4 2 (m.sv) Ad5 (fun q X w hw=>b.o.2.2.2.2.1 w (hw.upto X (by simp))) ?_;refine Am 5 (.slice (some ⟨s,0,none⟩) 16 16) ?_;refine Em 6 (Ac F) rfl (by kernel_rfl) rfl (fun q=>My fun w hw=>Anm _ _ _ s 16 16 F rfl (by kernel_rfl) w (b.o.2.2.2.2.2.1 w hw.mem)) ?_;refine Gr 7 (.slice (some ⟨w0.heap.size,0,none⟩) 1 1) rfl (by kernel_rfl) rfl (Qb w0 w1 rfl rfl (by rw[<-b.o.2.1];exact Al5 _ _ _ F rfl (by kernel_rfl) w0)) ?_;refine Gr 8 (.slice d NS f) rfl (by kernel_rfl) rfl (Qb w1 w2 rfl rfl (Abd _ _ _ _ _ _ _ rfl (by kernel_rfl) (by kernel_rfl) b.o.2.2.1)) ?_;refine Am 9 (.pointer (some ⟨x.d,0,none⟩)) ?_;refine Am 10 (.pointer (some ⟨x.d,4,none⟩)) ?_;refine Kr 11 rfl (by kernel_rfl) rfl (Kv w2 i rfl rfl (by rw[<-b.o.2.2.2.1];exact Aoh _ _ _ _ x.d 4 _ _ _ _ rfl (by kernel_rfl) (by kernel_rfl) w2 (b.o.2.2.2.2.1 w2 (by simp)) b.o.2.2.2.2.2.2)) ?_;refine Cj.done (by kernel_rfl) fun ab T=>?_;simp only[Act.put,Cz,Dg,Co];obtain rfl:=T.eq (w0:=i) rfl;clear T b U R;go_wp2_with fail
 first|go_end0|((try simp only[Exit.inBlock,Exit.then]);refine bodyPost_ret (results_none rfl _ _ _) rfl ?_)
 exact⟨rfl,_,Z.o⟩
structure Ei where
 k:Int
 a:Int
 b:Int
 c:Int
 s:By
 t:By
def Ei.cells (a:Ei):List Value:=[.int .i64 a.k,.int .i64 a.a,.int .i64 a.b,.int .i64 a.c,Ac a.s,Ac a.t]
def Qg (c:Int):Prop:= -9223372036854775808<=c/\c<=9223372036854775807
section
variable {bW d b:Nat}{l:LS}{lv:Value}{may:Option (By×PL)}{ops:List Ag}{w:World}
theorem A0y (a:Ei)(bb cb n:Nat)(h:Hh w bW d b l)(hd:d<w.heap.size)(h0:w.cell? ⟨d,0,none⟩=some (.slice (some ⟨bb,0,none⟩) n cb))(k:0<n)(s:n<=48)(ha:Qg a.a)(hk:∀i:Int,11<=i->i<=18->a.k≠i):
  Cl 18 #[.pointer (some ⟨bW,0,none⟩),.agg a.cells.toArray] w fun e w'=>e=.returned (.tuple #[])/\Bw w w':=by
 obtain⟨w0,g⟩:=nmd (w.alloc (.cells a.cells.toArray 29));have f:Bw w w0:=g▸(Ah _ _).alloc (Ak _) _;have j:w0.heap[w.heap.size]?=some (.cells a.cells.toArray 29 (0,0)):=g▸heap_alloc_new w _;have c0:w0.cell? ⟨bW,0,none⟩=some (.pointer (some ⟨d,0,none⟩)):=(f.cell (p:=⟨bW,0,none⟩) h.lt).trans (h.c 0);have o:=Aa (Ui d bb cb n w0 ((f.cell (p:=⟨d,0,none⟩) hd).trans h0));have m:=Aa (Abt a.a n w0 k (by omega) ha.1 ha.2);have k0:w0.cell? ⟨w.heap.size,0,none⟩=some (.int .i64 a.k):=crw j rfl;have k1:w0.cell? ⟨w.heap.size,1,none⟩=some (.int .i64 a.a):=crw j rfl;have e11:(a.k==11)=false:=by rw[beq_eq_false_iff_ne];exact hk 11 (by decide) (by decide)
 have e12:(a.k==12)=false:=by rw[beq_eq_false_iff_ne];exact hk 12 (by decide) (by decide)
 have y:(a.k==13)=false:=by rw[beq_eq_false_iff_ne];exact hk 13 (by decide) (by decide)
 have e14:(a.k==14)=false:=by rw[beq_eq_false_iff_ne];exact hk 14 (by decide) (by decide)
 have x:(a.k==15)=false:=by rw[beq_eq_false_iff_ne];exact hk 15 (by decide) (by decide)
 have u:(a.k==16)=false:=by rw[beq_eq_false_iff_ne];exact hk 16 (by decide) (by decide)
 have v:(a.k==17)=false:=by rw[beq_eq_false_iff_ne];exact hk 17 (by decide) (by decide)
 have t:(a.k==18)=false:=by rw[beq_eq_false_iff_ne];exact hk 18 (by decide) (by decide)
 have q:=Aa f;obtain⟨r,hr⟩:=nmd (w.heap.size);rw[hr]at k0 k1;simp only[Ei.cells,Ac]at g;clear h hd h0 k s ha hk f j;unfold Ei.cells;simp only[Ac];go_enter Tryz.func18,Tryz.ntmps18;go_wp2_with fail;refine o.o.mono ?_;rintro e w1 ⟨rfl,c⟩;rw[c];clear c w1 o;go_wp2_with fail;refine m.o.mono ?_;rintro e w1 ⟨z,rfl,_,c⟩;rw[c];clear c w1 m;go_wp2_with fail
 first|go_end0|((try simp only[Exit.inBlock,Exit.then]);refine bodyPost_ret (results_none rfl _ _ _) rfl ?_)
 exact⟨rfl,q.o⟩
theorem Av6 (a:Ei)(bb cb n:Nat)(s:World->Prop)(h:Hh w bW d b l)(hd:d<w.heap.size)(h0:w.cell? ⟨d,0,none⟩=some (.slice (some ⟨bb,0,none⟩) n cb))(k:0<n)(x:n<=48)(ha:Qg a.a)(hk:a.k=18)
  (t:∀u,Bw w u->Cl 45 #[.pointer (some ⟨bW,0,none⟩)] u fun e w'=>e=.returned (.tuple #[])/\s w'):
  Cl 18 #[.pointer (some ⟨bW,0,none⟩),.agg a.cells.toArray] w fun e w'=>e=.returned (.tuple #[])/\s w':=by
 obtain⟨w0,f⟩:=nmd (w.alloc (.cells a.cells.toArray 29));have g:Bw w w0:=f▸(Ah _ _).alloc (Ak _) _;have i:w0.heap[w.heap.size]?=some (.cells a.cells.toArray 29 (0,0)):=f▸heap_alloc_new w _;have c0:w0.cell? ⟨bW,0,none⟩=some (.pointer (some ⟨d,0,none⟩)):=(g.cell (p:=⟨bW,0,none⟩) h.lt).trans (h.c 0);have q:=Aa (Ui d bb cb n w0 ((g.cell (p:=⟨d,0,none⟩) hd).trans h0));have m:=Aa (Abt a.a n w0 k (by omega) ha.1 ha.2);have j:=Aa (t w0 g);have k0:w0.cell? ⟨w.heap.size,0,none⟩=some (.int .i64 18):=by rw[cell_of_row _ _ _ _ _ _ i,<-hk];rfl
 have k1:w0.cell? ⟨w.heap.size,1,none⟩=some (.int .i64 a.a):=crw i rfl;obtain⟨r,hr⟩:=nmd (w.heap.size);rw[hr]at k0 k1;simp only[Ei.cells,Ac]at f;rw[hk]at f;clear h hd h0 k x ha g i t;unfold Ei.cells;simp only[Ac];rw[hk];clear hk;go_enter Tryz.func18,Tryz.ntmps18;go_wp2_with fail;refine q.o.mono ?_;rintro e w1 ⟨rfl,c⟩;rw[c];clear c w1 q;go_wp2_with fail;refine m.o.mono ?_;rintro e w1 ⟨y,rfl,_,c⟩;rw[c];clear c w1 m;go_wp2_with fail;refine j.o.mono ?_;rintro e w1 ⟨rfl,o⟩;have v:=Aa o;clear o j;go_wp2_with fail
 first|go_end0|((try simp only[Exit.inBlock,Exit.then]);refine bodyPost_ret (results_none rfl _ _ _) rfl ?_)
 exact⟨rfl,v.o⟩
theorem Axh (a:Ei)(bb cb n:Nat)(m:World->Prop)(h:Hh w bW d b l)(hd:d<w.heap.size)(h0:w.cell? ⟨d,0,none⟩=some (.slice (some ⟨bb,0,none⟩) n cb))(x:0<n)(F:n<=48)(ha:Qg a.a)(hk:a.k=17)
  (A:∀o,Bw w o->Cl 44 #[.pointer (some ⟨d,0,none⟩),.string ⟨a.s.toArray⟩] o fun e w'=>e=.returned (.tuple #[])/\m w'):
  Cl 18 #[.pointer (some ⟨bW,0,none⟩),.agg a.cells.toArray] w fun e w'=>e=.returned (.tuple #[])/\m w':=by
 obtain⟨w0,k⟩:=nmd (w.alloc (.cells a.cells.toArray 29));have j:Bw w w0:=k▸(Ah _ _).alloc (Ak _) _;have i:w0.heap[w.heap.size]?=some (.cells a.cells.toArray 29 (0,0)):=k▸heap_alloc_new w _;have c0:w0.cell? ⟨bW,0,none⟩=some (.pointer (some ⟨d,0,none⟩)):=(j.cell (p:=⟨bW,0,none⟩) h.lt).trans (h.c 0);have z:=Aa (Ui d bb cb n w0 ((j.cell (p:=⟨d,0,none⟩) hd).trans h0));have y:=Aa (Abt a.a n w0 x (by omega) ha.1 ha.2);have k0:w0.cell? ⟨w.heap.size,0,none⟩=some (.int .i64 17):=by rw[cell_of_row _ _ _ _ _ _ i,<-hk];rfl
 have k1:w0.cell? ⟨w.heap.size,1,none⟩=some (.int .i64 a.a):=crw i rfl;obtain⟨c,v⟩:=nmd (w0.drew);have t:Bw w0 c:=v▸(Ah _ _).drew;have D:=(t.block w.heap.size (lt_of_block i)).trans i;have s:Bw w c:=j.trans (t.mono j.size);have f:=Aa (Ab v (Ab (show ∀w',w'=c->w'.cell? ⟨bW,0,none⟩=some (.pointer (some ⟨d,0,none⟩))from fun w' e=>e▸(s.cell (p:=⟨bW,0,none⟩) h.lt).trans (h.c 0)) (Ab (show ∀w',w'=c->w'.cell? ⟨w.heap.size,4,none⟩=some (Ac a.s)from fun w' e=>by rw[e,cell_of_row _ _ _ _ _ _ D];rfl) (A c s))));obtain⟨r,hr⟩:=nmd (w.heap.size);rw[hr]at k0 k1 f;simp only[Ei.cells,Ac]at k;rw[hk]at k;clear h hd h0 x F ha j i A v t D s;unfold Ei.cells;simp only[Ac];rw[hk];clear hk;go_enter Tryz.func18,Tryz.ntmps18;go_wp2_with fail;refine z.o.mono ?_;rintro e w1 ⟨rfl,g⟩;rw[g];clear g w1 z;go_wp2_with fail;refine y.o.mono ?_;rintro e w1 ⟨G,rfl,_,g⟩;rw[g];clear g w1 y;go_wp2_with fail;refine Gf (Wj c m) [6] (by kernel_rfl) (by kernel_rfl) (by rw[<-f.o.1];rfl) ?_;refine Am 0 (.pointer (some ⟨bW,0,none⟩)) ?_;refine Am 1 (.pointer (some ⟨bW,0,none⟩)) ?_;refine Am 2 (.pointer (some ⟨bW,0,none⟩)) ?_;refine Mh 3 0 (.pointer (some ⟨d,0,none⟩)) Ad0 (fun q u w hw=>f.o.2.1 w (hw.at0 u)) ?_;refine Am 4 (.pointer (some ⟨r,4,none⟩)) ?_;refine Mh 5 0 (Ac a.s) Im (fun q u w hw=>f.o.2.2.1 w (hw.at0 u)) ?_;refine Gr 6 (.tuple #[]) rfl (by kernel_rfl) rfl (Afp c 44 #[.pointer (some ⟨d,0,none⟩),.string ⟨a.s.toArray⟩] (fun _=>by kernel_rfl) f.o.2.2.2) ?_;refine Cj.done (by kernel_rfl) fun o C=>?_;simp only[Act.put,Cz,Dg,Co];have E:=Aa (show m o from C);clear C f;go_wp2_with fail
 first|go_end0|((try simp only[Exit.inBlock,Exit.then]);refine bodyPost_ret (results_none rfl _ _ _) rfl ?_)
 exact⟨rfl,E.o⟩
end
inductive Pz (bW:Nat)(o:Ei):FuncId->Array Value->Bool->Prop
 |fmt:o.k=2->Pz bW o 11 #[.pointer (some ⟨bW,0,none⟩),.string ⟨o.s.toArray⟩] false
 |opn:o.k=3->Pz bW o 12 #[.pointer (some ⟨bW,0,none⟩),.string ⟨o.s.toArray⟩] false
 |cls:o.k=4->Pz bW o 13 #[.pointer (some ⟨bW,0,none⟩),.bool true] false
 |abt:o.k=9->Pz bW o 13 #[.pointer (some ⟨bW,0,none⟩),.bool false] false
 |get:o.k=5->Pz bW o 14 #[.pointer (some ⟨bW,0,none⟩),.string ⟨o.s.toArray⟩] false
 |scn:o.k=6->Pz bW o 15 #[.pointer (some ⟨bW,0,none⟩),.string ⟨o.s.toArray⟩,.string ⟨o.t.toArray⟩] false
 |put:o.k=7->Pz bW o 16 #[.pointer (some ⟨bW,0,none⟩),.agg #[.string ⟨o.s.toArray⟩,.string ⟨o.t.toArray⟩,.bool false]] false
 |del:o.k=8->Pz bW o 16 #[.pointer (some ⟨bW,0,none⟩),.agg #[.string ⟨o.s.toArray⟩,.string ⟨#[]⟩,.bool true]] false
 |com:o.k=10->Pz bW o 17 #[.pointer (some ⟨bW,0,none⟩)] false
 |hap:(∀i:Int,2<=i->i<=10->o.k≠i)->Pz bW o 18 #[.pointer (some ⟨bW,0,none⟩),.agg o.cells.toArray] true
def Adb (a ok:Bool):Value:=if a then .tuple #[]else .bool ok
section
variable {bW d b:Nat}{l:LS}{w:World}
theorem At6 (c:Ei)(h:Hh w bW d b l)(g:l.lost=true):
  Cl 8 #[.pointer (some ⟨bW,0,none⟩),.agg c.cells.toArray] w fun e w'=>e=.returned (.bool true)/\Bw w w':=by
 obtain⟨w0,f⟩:=nmd (w.alloc (.cells c.cells.toArray 29));have a:Bw w w0:=f▸(Ah _ _).alloc (Ak _) _;have j:w0.cell? ⟨bW,7,none⟩=some (.bool true):=by rw[<-g];exact(a.cell (p:=⟨bW,7,none⟩) h.lt).trans (h.c 7)
 have i:=Aa a;simp only[Ei.cells,Ac]at f;clear h g a;unfold Ei.cells;simp only[Ac];go_enter Tryz.func8,Tryz.ntmps8;go_wp2_with fail;go_ret;exact⟨rfl,i.o⟩
def Avy (ok:Bool)(a b:World->Prop)(w':World):Prop:=(ok=true->a w')/\(ok=false->b w')
theorem Amm (a:Ei)(f:FuncId)(x:Array Value)(s ok:Bool)(z v y:World->Prop)(h:Hh w bW d b l)(G:l.lost=false)(L:Pz bW a f x s)(t:s=true->ok=true)
  (E:∀F,Bw w F->Cl f x F fun e w'=>e=.returned (Adb s ok)/\z w')
  (A:∀w1,z w1->Cl 19 #[.pointer (some ⟨bW,0,none⟩)] w1 fun e w'=>e=.returned (.bool true)/\v w')
  (H:ok=false->∀w2,v w2->w2.cell? ⟨bW,16,none⟩=some (.bool true)/\Cl 20 #[.pointer (some ⟨bW,0,none⟩)] w2 fun e w'=>e=.returned (.bool true)/\w'.cell? ⟨bW,7,none⟩=some (.bool false)/\w'.frozen? ⟨bW,7,none⟩=false/\y (w'.setCell ⟨bW,7,none⟩ (.bool true))):
  Cl 8 #[.pointer (some ⟨bW,0,none⟩),.agg a.cells.toArray] w fun e w'=>e=.returned (.bool true)/\Avy ok v y w':=by
 obtain⟨w0,n⟩:=nmd (w.alloc (.cells a.cells.toArray 29));have u:Bw w w0:=n▸(Ah _ _).alloc (Ak _) _;have g:w0.heap[w.heap.size]?=some (.cells a.cells.toArray 29 (0,0)):=n▸heap_alloc_new w _;have R:w0.cell? ⟨bW,7,none⟩=some (.bool false):=by rw[<-G];exact(u.cell (p:=⟨bW,7,none⟩) h.lt).trans (h.c 7)
 have i:=Aa (E w0 u);have o:=Aa A;have q:=Aa H;have k0:w0.cell? ⟨w.heap.size,0,none⟩=some (.int .i64 a.k):=crw g rfl;have k1:w0.cell? ⟨w.heap.size,1,none⟩=some (.int .i64 a.a):=crw g rfl;have J:w0.cell? ⟨w.heap.size,2,none⟩=some (.int .i64 a.b):=crw g rfl;have O:w0.cell? ⟨w.heap.size,3,none⟩=some (.int .i64 a.c):=crw g rfl;have I:w0.cell? ⟨w.heap.size,4,none⟩=some (.string ⟨a.s.toArray⟩):=crw g rfl;have M:w0.cell? ⟨w.heap.size,5,none⟩=some (.string ⟨a.t.toArray⟩):=crw g rfl;obtain⟨r,hr⟩:=nmd (w.heap.size);rw[hr]at k0 k1 J O I M;simp only[Ei.cells,Ac]at n;clear h G u g E A H;unfold Ei.cells;simp only[Ac]
 cases L with
 |fmt hk|opn hk|cls hk|abt hk|get hk|scn hk|put hk|del hk|com hk=>
  rw[hk]at k0 n⊢;clear hk;go_enter Tryz.func8,Tryz.ntmps8;go_wp2_with fail;refine i.o.mono ?_;rintro e w1 ⟨rfl,k⟩;have j:=Aa (o.o w1 k);simp only[Adb,Ng,if_false];clear k i o t;go_wp2_with fail;refine j.o.mono ?_;rintro e w2 ⟨rfl,c⟩
  cases ok with
  |true=>have m:=Aa c;clear c j q;go_wp2_with fail;go_ret;exact⟨rfl,fun _=>m.o,fun h=>(by cases h)⟩
  |false=>obtain⟨K,hw⟩:=q.o rfl w2 c;have C:=Aa hw;clear hw c j q;go_wp2_with fail;refine C.o.mono ?_;rintro e P ⟨rfl,T,U,D⟩;have m:=Aa D;clear D C K;go_wp2_with fail;go_ret;exact⟨rfl,fun h=>(by cases h),fun _=>m.o⟩
 |hap hk=>
  have N:ok=true:=t rfl;subst N;have e2:(a.k==2)=false:=by rw[beq_eq_false_iff_ne];exact hk 2 (by decide) (by decide)
  have e3:(a.k==3)=false:=by rw[beq_eq_false_iff_ne];exact hk 3 (by decide) (by decide)
  have Q:(a.k==4)=false:=by rw[beq_eq_false_iff_ne];exact hk 4 (by decide) (by decide)
  have X:(a.k==5)=false:=by rw[beq_eq_false_iff_ne];exact hk 5 (by decide) (by decide)
  have V:(a.k==6)=false:=by rw[beq_eq_false_iff_ne];exact hk 6 (by decide) (by decide)
  have e7:(a.k==7)=false:=by rw[beq_eq_false_iff_ne];exact hk 7 (by decide) (by decide)
  have W:(a.k==8)=false:=by rw[beq_eq_false_iff_ne];exact hk 8 (by decide) (by decide)
  have e9:(a.k==9)=false:=by rw[beq_eq_false_iff_ne];exact hk 9 (by decide) (by decide)
  have S:(a.k==10)=false:=by rw[beq_eq_false_iff_ne];exact hk 10 (by decide) (by decide)
  clear hk;unfold Ei.cells at i;simp only[Ac]at i;go_enter Tryz.func8,Tryz.ntmps8;go_wp2_with fail;refine i.o.mono ?_;rintro e w1 ⟨rfl,k⟩;have j:=Aa (o.o w1 k);simp only[Adb,if_true];clear k i o t;go_wp2_with fail;refine j.o.mono ?_;rintro e w2 ⟨rfl,c⟩;have m:=Aa c;clear c j q;go_wp2_with fail;go_ret;exact⟨rfl,fun _=>m.o,fun h=>(by cases h)⟩
end
def Wv (w:World)(v:Value)(os:List Ei):Prop:=∃c cap,v=.slice c os.length cap/\os.length<=maxLen/\∀i a,os[i]?=some a->Qg a.a/\Qg a.b/\a.s.length<=maxLen/\a.t.length<=maxLen/\∃g b,c=some ⟨g,b,none⟩/\g<w.heap.size/\∀j u,a.cells[j]?=some u->w.cell? ⟨g,b+i*6+j,none⟩=some u
theorem Wv.below {w w':World}{v:Value}{os:List Ei}(h:Wv w v os)(hb:Bw w w'):Wv w' v os:=by obtain⟨n,cap,c,o,h⟩:=h;refine⟨n,cap,c,o,fun i d m=>?_⟩;obtain⟨h1,h2,l,e,g,a,ha,b,f⟩:=h i d m;exact⟨h1,h2,l,e,g,a,ha,Eu b hb.size,fun j u k=>(hb.cell (p:=⟨g,a+i*6+j,none⟩) b).trans (f j u k)⟩
theorem Ard (v:Value)(os:List Ei)(w:World)(h:Wv w v os):
  Cl 5 #[v] w fun e w'=>∃s,e=.returned (.bool s)/\(s=true->os.length<=65536)/\Bw w w':=by
 have T:=h;obtain⟨Z,cap,rfl,q,c⟩:=T;have x:=Tj q;by_cases Q:65536<os.length
 ·have hd:decide ((65536:Int)<(os.length:Int))=true:=by simp;omega
  clear h q c x;generalize os.length=b at*;go_enter Tryz.func5,Tryz.ntmps5;go_wp2_with fail;go_ret;exact⟨false,rfl,fun h=>(by cases h),Ah _ _⟩
 ·have hd:decide ((65536:Int)<(os.length:Int))=false:=by simp;omega
  have p:os.length<=65536:=by omega
  have E:=Aa (fun wr (hb:Bw w wr)=>h.below hb);obtain⟨b,d⟩:=nmd (os.length);have H:=Aa d;rw[d]at hd p E;have P:=Aa p;have Y:(b:Int)<=65536:=by omega
  rw[d];clear h q c x Q d p;go_enter Tryz.func5,Tryz.ntmps5;go_wp2_with fail
  go_loopw [3,4] (fun n i wr=>∃(k:Nat) (N:Int),k<=b/\i=.int .i64 (k:Int)/\n=.int .i64 N/\Bw w wr) (fun _ i _=>(100000-intOf i).toNat)
  case atStart=>exact⟨0,(b:Int),by omega,rfl,rfl,Ah _ _⟩
  case round=>
   obtain⟨k,N,hk,rfl,rfl,hb⟩:=hrel;by_cases l:k<b
   ·have aa:(k:Int)<(b:Int):=by omega
    obtain⟨a,A⟩:∃a,os[k]?=some a:=⟨os[k]'(by rw[H.o];exact l),Az _⟩;obtain⟨ab,ac,r,_,c⟩:=E.o wr hb;obtain⟨_,_,y,z,g,u,V,_,j⟩:=c k a A;simp only[Value.slice.injEq]at r;obtain⟨rfl,-,rfl⟩:=r;subst V;have L:wr.cell? ⟨g,u+k*6+4,none⟩=some (.string ⟨a.s.toArray⟩):=j 4 _ rfl;have R:wr.cell? ⟨g,u+k*6+5,none⟩=some (.string ⟨a.t.toArray⟩):=j 5 _ rfl;have J:(ByteArray.mk a.s.toArray).size=a.s.length:=rfl;have S:(ByteArray.mk a.t.toArray).size=a.t.length:=rfl;have I:=Tj y;have G:=Tj z;obtain⟨U,D⟩:=nmd (a.s.length);obtain⟨F,t⟩:=nmd (a.t.length);rw[D]at J I;rw[t]at S G;have m:=Aa hb;clear hb c j y z D t A l;go_wp2_with fail;go_quiet (fail);obtain⟨K,o⟩:=nmd (wr.drewN nq);rw[o];have C:Bw wr K:=o▸Bp (Ah _ _) nq;have f:=Aa (m.o.trans (C.mono m.o.size));clear o C m L R;generalize wrap64 (wrap64 (N+(U:Int))+(F:Int))=M
    cases W:decide ((65536:Int)<M)with
    |true=>go_wp2_with fail;go_ret;exact⟨false,rfl,fun h=>(by cases h),f.o⟩
    |false=>go_wp2_with fail;exact⟨⟨k+1,M,by omega,by first|rfl|push_cast;rfl,rfl,f.o⟩,by simp only[intOf];omega⟩
   ·have O:k=b:=by omega
    subst O;have X:decide ((k:Int)<(k:Int))=false:=by simp
    have f:=Aa hb;clear hb l;go_wp2_with fail;go_ret;exact⟨true,rfl,fun _=>P.o,f.o⟩
def Ai7 (w:World)(g:Nat):Prop:=g<w.heap.size/\∀j,j<6->w.cell? ⟨g,j,none⟩=some (.int .i64 ((11+j:Nat):Int))
def Tq (k:Int)(q:Nat):Bool:=decide (11<=k/\k<11+(q:Int))
theorem A2h (k:Int)(q:Nat):Tq k (q+1)=(Tq k q||(k==((11+q:Nat):Int))):=by unfold Tq;rw[Bool.eq_iff_iff];simp;omega
structure Afj (w:World)(os:List Ei)(Eg:Nat->Nat->World->Prop):Prop where
 bel:∀ {k bW wr},Eg k bW wr->Bw w wr
 stay:∀ {k bW wr w'},Eg k bW wr->Bw wr w'->Eg k bW w'
 skip:∀ {k bW wr},Eg k bW wr->Eg (k+1) bW wr
 first:∀wr,Bw w wr->Cl 6 #[.int .i64 48,.int .i64 100] wr fun e w'=>∃bW,e=.returned (.pointer (some ⟨bW,0,none⟩))/\Eg 0 bW w'
 world:∀ {k bW wr},Eg k bW wr->∀n c:Nat,3<=n->n<=48->4<=c->c<=1048576->Cl 6 #[.int .i64 (n:Int),.int .i64 (c:Int)] wr fun e w'=>∃bW',e=.returned (.pointer (some ⟨bW',0,none⟩))/\Eg (k+1) bW' w'
 step:∀ {k bW wr o},Eg k bW wr->os[k]?=some o->k<65536->Tq o.k 6=false->o.k≠1->∃x y,wr.cell? ⟨bW,16,none⟩=some (.bool x)/\wr.frozen? ⟨bW,16,none⟩=false/\(wr.setCell ⟨bW,16,none⟩ (.bool true)).cell? ⟨bW,17,none⟩=some (.bool y)/\(wr.setCell ⟨bW,16,none⟩ (.bool true)).frozen? ⟨bW,17,none⟩=false/\
  Bw w ((wr.setCell ⟨bW,16,none⟩ (.bool true)).setCell ⟨bW,17,none⟩ (.bool false))/\
  Cl 8 #[.pointer (some ⟨bW,0,none⟩),.agg o.cells.toArray] ((wr.setCell ⟨bW,16,none⟩ (.bool true)).setCell ⟨bW,17,none⟩ (.bool false)) fun e w'=>e=.returned (.bool true)/\Eg (k+1) bW w'
theorem Azc (v:Value)(os:List Ei)(S:Nat)(Eg:Nat->Nat->World->Prop)(w:World)(h:Wv w v os)(af:Ai7 w S)(P:Afj w os Eg):
  Cl 4 #[v,.slice (some ⟨S,0,none⟩) 6 6,.bool true,.bool false] w fun e w'=>e=.returned (.bool true)/\Bw w w':=by
 have X:=Aa (Ard v os w h);have ae:=Aa (fun wr (hb:Bw w wr)=>h.below hb);have bb:=Aa (show ∀wr,Bw w wr->∀j,j<6->wr.cell? ⟨S,j,none⟩=some (.int .i64 ((11+j:Nat):Int))from fun wr hb j ac=>(hb.cell (p:=⟨S,j,none⟩) af.1).trans (af.2 j ac));have A:=Aa P;have bq:=h;obtain⟨bc,cap,rfl,aq,-⟩:=bq;have a1:=Tj aq;obtain⟨H,ad⟩:=nmd (os.length);have a7:=Aa ad;rw[ad]at X ae a1⊢;clear h af P aq ad;go_enter Tryz.func4,Tryz.ntmps4;go_wp2_with fail;refine X.o.mono ?_;rintro e w1 ⟨R,rfl,Z,Y⟩
 cases R with
 |false=>have bn:=Aa Y;clear Y Z X;go_wp2_with fail;go_ret;exact⟨rfl,bn.o⟩
 |true=>
  have am:=Z rfl;have be:=Aa am;have b0:(H:Int)<=65536:=by omega
  have f:=Aa (A.o.first w1 Y);clear am Z Y X a1;go_wp2_with fail;refine f.o.mono ?_;rintro e w2 ⟨bp,rfl,an⟩;have a4:=Aa an;clear an f;go_wp2_with fail
  go_loopw [10,11] (fun p i wr=>∃k t:Nat,k<=H/\p=.pointer (some ⟨t,0,none⟩)/\i=.int .i64 (k:Int)/\Eg k t wr) (fun _ i _=>(100000-intOf i).toNat)
  case atStart=>exact⟨0,bp,by omega,rfl,rfl,a4.o⟩
  case round=>
   clear a4;obtain⟨k,t,hk,rfl,rfl,d⟩:=hrel;by_cases m:k<H
   ·have bv:(k:Int)<(H:Int):=by omega
    obtain⟨a,J⟩:∃a,os[k]?=some a:=⟨os[k]'(by rw[a7.o];exact m),Az _⟩
    have bf:∃g b,bc=some ⟨g,b,none⟩/\∀wr,Bw w wr->∀j u,a.cells[j]?=some u->wr.cell? ⟨g,b+k*6+j,none⟩=some u:=by obtain⟨bo,bg,ab,_,Q⟩:=ae.o w (Ah _ _);simp only[Value.slice.injEq]at ab;obtain⟨rfl,-,rfl⟩:=ab;obtain⟨_,_,_,_,g,b,br,bk,N⟩:=Q k a J;exact⟨g,b,br,fun wr hb j u ac=>(hb.cell (p:=⟨g,b+k*6+j,none⟩) bk).trans (N j u ac)⟩
    have ay:Qg a.a/\Qg a.b:=by obtain⟨bo,bg,ab,_,Q⟩:=ae.o w (Ah _ _);exact⟨(Q k a J).1,(Q k a J).2.1⟩
    obtain⟨g,b,rfl,N⟩:=bf;have o:=Aa N;have W:=Aa ay;have L:=Aa (Ab J m);have D:=Aa d;clear N ay J m d hk;go_wp2_with fail
    go_loopw [12,13] (fun o j wr=>∃q:Nat,q<=6/\j=.int .i64 (q:Int)/\o=.bool (Tq a.k q)/\Eg k t wr) (fun _ j _=>(100-intOf j).toNat)
    case atStart=>exact⟨0,by omega,rfl,by unfold Tq;congr 1;simp,D.o⟩
    case round=>
     clear D;obtain⟨q,V,rfl,rfl,d⟩:=hrel;have hb:=A.o.bel d;have I:wr.cell? ⟨g,b+k*6,none⟩=some (.int .i64 a.k):=o.o wr hb 0 _ rfl;by_cases m:q<6
     ·have bx:(q:Int)<6:=by omega
      have pw:=bb.o wr hb q m;have a5:=A2h a.k q;have ai:=Aa a5;have D:=Aa d;clear a5 d hb m V;obtain⟨T,ah⟩:=nmd (Tq a.k q);obtain⟨E,a3⟩:=nmd ((a.k==((11+q:Nat):Int)));rw[ah,a3]at ai;rw[ah];obtain⟨bw,al⟩:∃z:Int,((11+q:Nat):Int)=z:=⟨_,rfl⟩;rw[al]at pw a3;clear ah al
      cases T with
      |true=>go_wp2_with fail;go_quiet (fail);obtain⟨ag,C⟩:=nmd (wr.drewN nq);rw[C];have M:Bw wr ag:=C▸Bp (Ah _ _) nq;have f:=Aa (A.o.stay D.o M);clear C M D I pw;go_wp2_with fail;exact⟨⟨q+1,by omega,by first|rfl|push_cast;rfl,by rw[ai.o];rfl,f.o⟩,by simp only[intOf];omega⟩
      |false=>go_wp2_with fail;go_quiet (fail);obtain⟨ag,C⟩:=nmd (wr.drewN nq);rw[C];have M:Bw wr ag:=C▸Bp (Ah _ _) nq;have f:=Aa (A.o.stay D.o M);clear C M D I pw;go_wp2_with fail;exact⟨⟨q+1,by omega,by first|rfl|push_cast;rfl,by rw[ai.o];rfl,f.o⟩,by simp only[intOf];omega⟩
     ·have bj:q=6:=by omega
      subst bj
      cases a8:Tq a.k 6 with
      |true=>have f:=Aa (A.o.skip d);have az:=L.o.2;clear d hb m V I;go_wp2_with fail;exact⟨⟨k+1,t,by omega,rfl,by first|rfl|push_cast;rfl,f.o⟩,by simp only[intOf];omega⟩
      |false=>
       have au:wr.cell? ⟨g,b+k*6+1,none⟩=some (.int .i64 a.a):=o.o wr hb 1 _ rfl;have aw:wr.cell? ⟨g,b+k*6+2,none⟩=some (.int .i64 a.b):=o.o wr hb 2 _ rfl
       cases bh:(a.k==1)with
       |true=>
        have aj:=Aa (show Cl 7 #[.int .i64 a.a,.int .i64 46] wr fun e w'=>∃k:Nat,e=.returned (.int .i64 (k:Int))/\k<46/\w'=wr from Abt a.a 46 wr (by decide) (by decide) W.o.1.1 W.o.1.2);have a2:=Aa (show Cl 7 #[.int .i64 a.b,.int .i64 1048573] wr fun e w'=>∃k:Nat,e=.returned (.int .i64 (k:Int))/\k<1048573/\w'=wr from Abt a.b 1048573 wr (by decide) (by decide) W.o.2.1 W.o.2.2);have ar:=Aa (fun n c=>A.o.world d n c);clear d hb m V;go_wp2_with fail;refine aj.o.mono ?_;rintro e G ⟨O,rfl,ax,s⟩;rw[s];clear s G aj;have bz:(O:Int)<46:=by omega
        have bi:=Aa ax;clear ax;go_wp2_with fail;refine a2.o.mono ?_;rintro e G ⟨U,rfl,ba,s⟩;rw[s];clear s G a2;have bs:(U:Int)<1048573:=by omega
        have aa:=ar.o (3+O) (4+U) (by omega) (by have:=bi.o;omega) (by omega) (by omega);have e1:((3+O:Nat):Int)=3+(O:Int):=by push_cast;rfl
        have e2:((4+U:Nat):Int)=4+(U:Int):=by push_cast;rfl
        rw[e1,e2]at aa;have ak:=Aa aa;clear aa ar e1 e2 ba;go_wp2_with fail;refine ak.o.mono ?_;rintro e G ⟨bl,rfl,K⟩;have f:=Aa K;have az:=L.o.2;clear K ak I au aw;go_wp2_with fail;exact⟨⟨k+1,bl,by omega,rfl,by first|rfl|push_cast;rfl,f.o⟩,by simp only[intOf];omega⟩
       |false=>obtain⟨x,y,a9,a6,ao,a0,r,F⟩:=A.o.step d L.o.1 (by have:=be.o;have:=L.o.2;omega) a8 (by simpa using bh);obtain⟨G,s⟩:=nmd (wr.setCell ⟨t,16,none⟩ (.bool true));rw[s]at ao a0 r F;obtain⟨l,ap⟩:=nmd (G.setCell ⟨t,17,none⟩ (.bool false));rw[ap]at r F;have r0:l.cell? ⟨g,b+k*6,none⟩=some (.int .i64 a.k):=o.o l r 0 _ rfl;have r1:l.cell? ⟨g,b+k*6+1,none⟩=some (.int .i64 a.a):=o.o l r 1 _ rfl;have r2:l.cell? ⟨g,b+k*6+2,none⟩=some (.int .i64 a.b):=o.o l r 2 _ rfl;have r3:l.cell? ⟨g,b+k*6+3,none⟩=some (.int .i64 a.c):=o.o l r 3 _ rfl;have r4:l.cell? ⟨g,b+k*6+4,none⟩=some (.string ⟨a.s.toArray⟩):=o.o l r 4 _ rfl;have bd:l.cell? ⟨g,b+k*6+5,none⟩=some (.string ⟨a.t.toArray⟩):=o.o l r 5 _ rfl;unfold Ei.cells at F;simp only[Ac]at F;have av:=Aa F;clear d hb m V r F au aw;go_wp2_with fail;refine av.o.mono ?_;rintro e bu ⟨rfl,K⟩;have f:=Aa K;have az:=L.o.2;clear K av r0 r1 r2 r3 r4 bd I a9 a6 ao a0 s ap;go_wp2_with fail;exact⟨⟨k+1,t,by omega,rfl,by first|rfl|push_cast;rfl,f.o⟩,by simp only[intOf];omega⟩
   ·have bm:k=H:=by omega
    subst bm;have bt:decide ((k:Int)<(k:Int))=false:=by simp
    have f:=Aa (A.o.bel d);clear d m hk;go_wp2_with fail;go_ret;exact⟨rfl,f.o⟩
theorem Ax7 (v:Value)(os:List Ei)(w:World)(h:Wv w v os)(i:∀w1,Bw w w1->∃Eg,Afj w1 os Eg):
  Cl 3 #[v] w fun e w'=>e=.returned (.bool true)/\Bw w w':=by
 obtain⟨w1,f⟩:=nmd (w.alloc (.cells #[.int .i64 11,.int .i64 12,.int .i64 13,.int .i64 14,.int .i64 15,.int .i64 16] 3));have a:Bw w w1:=f▸(Ah _ _).alloc (Ak _) _;have b:w1.heap[w.heap.size]?=some (.cells #[.int .i64 11,.int .i64 12,.int .i64 13,.int .i64 14,.int .i64 15,.int .i64 16] 3 (0,0)):=f▸heap_alloc_new w _;obtain⟨Eg,k⟩:=i w1 a
 have l:Ai7 w1 w.heap.size:=⟨lt_of_block b,fun j m=>by
  rw[cell_of_row _ _ _ _ _ _ b]
  match j,m with
  |0,_|1,_|2,_|3,_|4,_|5,_=>rfl⟩
 have c:=Aa (Azc v os w.heap.size Eg w1 (h.below a) l k);have d:=Aa a;obtain⟨r,hr⟩:=nmd (w.heap.size);rw[hr]at c;clear h i a b k l;go_enter Tryz.func3,Tryz.ntmps3;go_wp2_with fail;refine c.o.mono ?_;rintro e w2 ⟨rfl,g⟩;have n:=Aa (d.o.trans (g.mono d.o.size));clear g c d;go_wp2_with fail;go_ret;exact⟨rfl,n.o⟩
theorem Aum {k s:By}:∀ {l:PL},Ba l->∀e:By×By,e∈Eb k s l↔e=(k,s)\/(e∈l/\e.1≠k):=by
 intro l ha e;have h:=Aki l ha ⟨k,s,false⟩;have h1:Ca l ⟨k,s,false⟩=Eb k s l:=by simp[Ca]
 rw[h1]at h;have a:=Adt k l;have b:l=l.takeWhile (bel k)++l.dropWhile (bel k):=(Aes).symm
 have hd:Ba (l.dropWhile (bel k)):=by have h2:=ha;rw[b]at h2;exact(Dc.1 h2).2.1
 have d:∀e,e∈Lh k (l.dropWhile (bel k))↔e∈l.dropWhile (bel k)/\e.1≠k:=fun e=>by rw[<-Ahr k _ hd a.2];simp[Gw]
 rw[h];simp only[Fs,As,d]
 have c:e∈l↔e∈l.takeWhile (bel k)\/e∈l.dropWhile (bel k):=by rw[<-As,<-b]
 rw[c];constructor
 ·rintro(g|g|g)
  ·exact .inr ⟨.inl g,(a.1 e g).ne⟩
  ·exact .inl (by simpa using g)
  ·exact .inr ⟨.inr g.1,g.2⟩
 ·rintro(g|⟨g|g,q⟩)
  ·exact .inr (.inl (by simpa using g))
  ·exact .inl g
  ·exact .inr (.inr ⟨g,q⟩)
theorem Ata {l:PL}(ha:Ba l)(c:Ag)(e:By×By):e∈Ca l c↔(c.gone=false/\e=(c.key,c.value))\/(e∈l/\e.1≠c.key):=by
 unfold Ca
 cases a:c.gone with
 |true=>simp[Gw]
 |false=>simp[Aum ha e]
theorem Aqj:∀ {l1 l2:PL},Ba l1->Ba l2->(∀e,e∈l1↔e∈l2)->l1=l2
 | [],[],_,_,_=>rfl
 | [],b::l2,_,_,h=>by have:=(h b).2 (by simp);cases this
 |a::l1,[],_,_,h=>by have:=(h a).1 (by simp);cases this
 |a::l1,b::l2,h1,h2,h=>by
  obtain⟨f,k⟩:=Er.1 h1;obtain⟨i,l⟩:=Er.1 h2
  have j:a=b:=by
   have ha:=(h a).1 (by simp);have hb:=(h b).2 (by simp);rcases Al.1 ha with g|g
   ·exact g
   ·rcases Al.1 hb with d|d
    ·exact d.symm
    ·exact absurd (i a g) (Lt.asymm (f b d))
  subst j;rw[Aqj k l (fun e=>?_)];have c:=h e;simp only[Al]at c;constructor
  ·intro g;rcases c.1 (.inr g)with q|q
   ·subst q;exact absurd (f e g) (Lt.irrefl _)
   ·exact q
  ·intro g;rcases c.2 (.inr g)with q|q
   ·subst q;exact absurd (i e g) (Lt.irrefl _)
   ·exact q
def Sa (cs:List Ag):Prop:=cs.Pairwise fun a b=>a.key≠b.key
theorem Nr.dif {cs:List Ag}(h:Nr cs):Sa cs:=h.imp (fun g=>g.ne)
theorem Yq:∀(cs:List Ag) (l:PL),Ba l->Sa cs->∀e,e∈cs.foldl Ca l↔(∃c∈cs,c.gone=false/\e=(c.key,c.value))\/(e∈l/\∀c∈cs,e.1≠c.key)
 | [],l,_,_,e=>by simp
 |c::cs,l,ha,hd,e=>by
  obtain⟨d,i⟩:=Er.1 hd;rw[So,Yq cs (Ca l c) (Amp ha) i e,Ata ha];constructor
  ·rintro(⟨x,a,h⟩|⟨⟨b,rfl⟩|⟨h1,h2⟩,f⟩)
   ·exact .inl ⟨x,by simp[a],h⟩
   ·exact .inl ⟨c,by simp,b,rfl⟩
   ·exact .inr ⟨h1,fun x a=>by
     rcases Al.1 a with rfl|a
     ·exact h2
     ·exact f x a⟩
  ·rintro(⟨x,a,b,rfl⟩|⟨h1,h2⟩)
   ·rcases Al.1 a with rfl|a
    ·exact .inr ⟨.inl ⟨b,rfl⟩,fun g hy=>d g hy⟩
    ·exact .inl ⟨x,a,b,rfl⟩
   ·exact .inr ⟨.inr ⟨h1,h2 c (by simp)⟩,fun x a=>h2 x (by simp[a])⟩
theorem As2 {cs ops:List Ag}{l:PL}(ha:Ba l)(h1:Sa cs)(h2:Sa ops)(h:∀c,c∈cs↔c∈ops):cs.foldl Ca l=ops.foldl Ca l:=by refine Aqj (Acd cs l ha) (Acd ops l ha) (fun e=>?_);rw[Yq cs l ha h1,Yq ops l ha h2];simp only[h]
theorem Aqv:∀ {cs ops:List Ag},Sa cs->Sa ops->(∀c,c∈cs↔c∈ops)->cs.length=ops.length
 | [],ops,_,_,h=>by
  cases ops with
  |nil=>rfl
  |cons a l=>have:=(h a).2 (by simp);cases this
 |c::cs,ops,h1,h2,h=>by
  obtain⟨k,hd⟩:=Er.1 h1;obtain⟨A,B,d⟩:=List.append_of_mem ((h c).1 (by simp));subst d;have e:Sa (A++B):=List.Pairwise.sublist (by simp) h2
  have i:∀x∈A++B,x.key≠c.key:=fun x b=>by
   obtain⟨_,f,j⟩:=Dc.1 h2;rcases As.1 b with g|g
   ·exact j x g c (by simp)
   ·exact Ne.symm ((Er.1 f).1 x g)
  have m:=Aqv hd e (fun x=>by
   have b:=h x;simp only[Al,As]at b⊢;constructor
   ·intro g;rcases b.1 (.inr g)with q|q|q
    ·exact .inl q
    ·exact absurd (congrArg Ag.key q) (Ne.symm (k x g))
    ·exact .inr q
   ·intro g;rcases b.2 (g.elim .inl (fun q=>.inr (.inr q)))with q|q
    ·exact absurd (congrArg Ag.key q) (i x (by simpa using g))
    ·exact q)
  simp only[Fh,Bb]at m⊢;omega
def Ib (k:By)(c:Ag):Bool:=Op.bytesLess c.key k
theorem Apr (k:By)(cs:List Ag):Bx k (Ia cs)=(cs.takeWhile (Ib k)).length:=by
 unfold Bx Ia
 induction cs with
 |nil=>rfl
 |cons a l ih=>
  simp only[Db,List.takeWhile_cons];by_cases hb:Op.bytesLess a.key k=true
  ·rw[if_pos hb,if_pos (show Ib k a=true from hb),Fh,Fh,ih]
  ·rw[if_neg hb,if_neg (show ¬Ib k a=true from hb)];rfl
theorem Aq6 {cs:List Ag}(h:Nr cs)(k:By):cs=cs.takeWhile (Ib k)++cs.dropWhile (Ib k)/\(∀e∈cs.takeWhile (Ib k),Lt e.key k)/\(∀e∈cs.dropWhile (Ib k),¬Lt e.key k)/\Nr (cs.takeWhile (Ib k))/\Nr (cs.dropWhile (Ib k)):=by
 have d:cs=cs.takeWhile (Ib k)++cs.dropWhile (Ib k):=(Aes).symm
 have h1:∀e∈cs.takeWhile (Ib k),Lt e.key k:=fun e a=>by have:=List.all_takeWhile (p:=Ib k) (l:=cs);exact Ya.1 this e a
 have h2:=h;rw[d]at h2;obtain⟨f,c,_⟩:=Dc.1 h2;refine⟨d,h1,fun e a=>?_,f,c⟩
 cases hd:cs.dropWhile (Ib k)with
 |nil=>rw[hd]at a;cases a
 |cons b r=>
  have hb:¬Lt b.key k:=by have:=List.head_dropWhile_not (Ib k) (l:=cs) (by rw[hd];simp);simp only[hd,List.head_cons,Ib]at this;intro g;rw[show Op.bytesLess b.key k=true from g]at this;cases this
  rw[hd]at a c;rcases Al.1 a with rfl|g
  ·exact hb
  ·intro q;exact hb (((Er.1 c).1 e g).trans q)
theorem Ahg {cs:List Ag}(h:Nr cs)(k:By):Kx k cs=cs.any (fun c=>c.key==k):=by
 obtain⟨g,h1,h2,n,f⟩:=Aq6 h k;unfold Kx;rw[Apr]
 have m:cs.any (fun c=>c.key==k)=(cs.dropWhile (Ib k)).any (fun c=>c.key==k):=by
  conv=>lhs;rw[g]
  rw[List.any_append]
  have:(cs.takeWhile (Ib k)).any (fun c=>c.key==k)=false:=by rw[List.any_eq_false];intro e a;simpa using(h1 e a).ne
  rw[this,Bool.false_or]
 have l:∀A B:List Ag,cs=A++B->cs[A.length]?=B[0]?:=fun A B e=>by rw[e,If (Ak _),Po]
 have j:=l _ _ g;rw[m,j]
 cases hd:cs.dropWhile (Ib k)with
 |nil=>rfl
 |cons b r=>
  rw[hd]at h2 f
  have hr:r.any (fun c=>c.key==k)=false:=by rw[List.any_eq_false];intro e a;have d:=(Er.1 f).1 e a;have i:=h2 b (by simp);simp only[beq_iff_eq];intro q;rw[q]at d;exact i d
  simp[hr]
theorem Ao4 {cs cs':List Ag}{c:Ag}(h:Nr cs)(f:Lx c cs=some cs'):Nr cs'/\∀d,d∈cs'↔d=c\/(d∈cs/\d.key≠c.key):=by
 obtain⟨j,h1,h2,s,k⟩:=Aq6 h c.key;unfold Lx at f;have H:=Ahg h c.key;rw[Apr]at f;have l:∀d,d∈cs↔d∈cs.takeWhile (Ib c.key)\/d∈cs.dropWhile (Ib c.key):=fun d=>by rw[<-As,<-j]
 have z:cs.any (fun e=>e.key==c.key)=(cs.dropWhile (Ib c.key)).any (fun e=>e.key==c.key):=by
  conv=>lhs;rw[j]
  rw[List.any_append]
  have:(cs.takeWhile (Ib c.key)).any (fun e=>e.key==c.key)=false:=by rw[List.any_eq_false];intro e a;simpa using(h1 e a).ne
  rw[this,Bool.false_or]
 obtain⟨A,v⟩:=nmd (cs.takeWhile (Ib c.key));obtain⟨B,t⟩:=nmd (cs.dropWhile (Ib c.key));rw[v,t]at j l;rw[v]at h1 s f;rw[t]at h2 k z;rw[H,z]at f
 have G:∀e∈B,e.key≠c.key->Lt c.key e.key:=fun e a m=>by
  rcases Ad4.1 (h2 e a)with g|g
  ·exact absurd g m
  ·exact g
 have u:∀r:List Ag,Nr r->(∀e∈r,Lt c.key e.key)->Nr (A++c::r):=fun r hr y=>by
  refine Dc.2 ⟨s,Er.2 ⟨y,hr⟩,fun x C F hy=>?_⟩;rcases Al.1 hy with rfl|g
  ·exact h1 x C
  ·exact(h1 x C).trans (y F g)
 cases i:B.any (fun e=>e.key==c.key)with
 |true=>
  rw[i,if_pos rfl]at f;cases f
  cases w:B with
  |nil=>rw[w]at i;cases i
  |cons b r=>
   rw[w]at h2 k l j i;have o:=(Er.1 k).1
   have p:b.key=c.key:=by
    rw[List.any_eq_true]at i;obtain⟨e,a,n⟩:=i;have n:e.key=c.key:=by simpa using n
    rcases Al.1 a with rfl|g
    ·exact n
    ·exact absurd (n▸o e g) (h2 b (by simp))
   have E:cs.set A.length c=A++c::r:=by rw[j];exact Nj A r b c
   rw[E];refine⟨u r (Er.1 k).2 (fun e a=>p▸o e a),fun d=>?_⟩;rw[l];simp only[As,Al];constructor
   ·rintro(g|g|g)
    ·exact .inr ⟨.inl g,(h1 d g).ne⟩
    ·exact .inl g
    ·exact .inr ⟨.inr (.inr g),Ne.symm (p▸o d g).ne⟩
   ·rintro(g|⟨g|g|g,q⟩)
    ·exact .inr (.inl g)
    ·exact .inl g
    ·subst g;exact absurd p q
    ·exact .inr (.inr g)
 |false=>
  rw[i,if_neg (by decide)]at f;split at f
  ·cases f
  ·cases f
   have m:∀e∈B,e.key≠c.key:=fun e a=>by have:=List.any_eq_false.1 i e a;simpa using this
   have D:cs.take A.length=A:=by conv=>lhs;rw[j]
                                 simp
   have I:cs.drop A.length=B:=by conv=>lhs;rw[j]
                                 simp
   rw[D,I];refine⟨u B k (fun e a=>G e a (m e a)),fun d=>?_⟩;rw[l];simp only[As,Al];constructor
   ·rintro(g|g|g)
    ·exact .inr ⟨.inl g,(h1 d g).ne⟩
    ·exact .inl g
    ·exact .inr ⟨.inr g,m d g⟩
   ·rintro(g|⟨g|g,q⟩)
    ·exact .inr (.inl g)
    ·exact .inl g
    ·exact .inr (.inr g)
theorem A3m {cs:List Ag}{c:Ag}(h:Nr cs):Lx c cs=none↔cs.any (fun e=>e.key==c.key)=false/\12<=cs.length:=by
 unfold Lx;rw[Ahg h]
 cases cs.any (fun e=>e.key==c.key)with
 |true=>simp
 |false=>simp
theorem Awh {ops:List Ag}(c:Ag)(h:Sa ops):Sa (ops.filter (fun e=>e.key !=c.key)++[c])/\∀d,d∈ops.filter (fun e=>e.key !=c.key)++[c]↔d=c\/(d∈ops/\d.key≠c.key):=by
 refine⟨Dc.2 ⟨h.filter _,by simp,fun x a b hy=>?_⟩,fun d=>?_⟩
 ·simp at a hy;rw[hy];exact a.2
 ·simp only[As,List.mem_filter,Jc,bne_iff_ne];exact⟨fun g=>g.elim .inr .inl,fun g=>g.elim .inr .inl⟩
structure Kw (cs ops:List Ag):Prop where
 asc:Nr cs
 dif:Sa ops
 mem:∀c,c∈cs↔c∈ops
theorem Kw.nil:Kw [] []:=⟨List.Pairwise.nil,List.Pairwise.nil,fun _=>Iff.rfl⟩
theorem Kw.len {cs ops:List Ag}(h:Kw cs ops):cs.length=ops.length:=Aqv h.asc.dif h.dif h.mem
theorem Kw.fold {cs ops:List Ag}(h:Kw cs ops){l:PL}(ha:Ba l):cs.foldl Ca l=ops.foldl Ca l:=As2 ha h.asc.dif h.dif h.mem
theorem A2l {cs ops:List Ag}(h:∀c,c∈cs↔c∈ops)(k:By):cs.any (fun e=>e.key==k)=ops.any (fun e=>e.key==k):=by rw[Bool.eq_iff_iff,List.any_eq_true,List.any_eq_true];simp only[h]
theorem Kw.note {cs ops cs':List Ag}{c:Ag}(h:Kw cs ops)(g:Lx c cs=some cs'):Kw cs' (ops.filter (fun e=>e.key !=c.key)++[c]):=by obtain⟨a,b⟩:=Ao4 h.asc g;obtain⟨f,m2⟩:=Awh c h.dif;exact⟨a,f,fun d=>by rw[b,m2,h.mem]⟩
theorem Kw.none_iff {cs ops:List Ag}{c:Ag}(h:Kw cs ops)(a:ops.length<=12):Lx c cs=none↔ops.any (fun e=>e.key==c.key)=false/\ops.length=12:=by rw[A3m h.asc,A2l h.mem,h.len];exact⟨fun g=>⟨g.1,by omega⟩,fun g=>⟨g.1,by omega⟩⟩
theorem Ys {l:PL}(ha:Ba l)(k v:By):Gm k l=some v↔(k,v)∈l:=by
 unfold Gm;constructor
 ·intro h
  cases b:l.find? (fun e=>e.1==k)with
  |none=>rw[b]at h;cases h
  |some e=>
   rw[b]at h;have h1:=List.find?_some b;have h2:=List.mem_of_find?_eq_some b;have d:e.1=k:=by simpa using h1
   have f:e.2=v:=by simpa using h
   rw[<-d,<-f];exact h2
 ·intro h
  induction l with
  |nil=>cases h
  |cons a l ih=>
   obtain⟨p,q⟩:=Er.1 ha;rcases Al.1 h with rfl|g
   ·simp
   ·have c:a.1≠k:=fun e=>absurd (p _ g) (by rw[e];exact Lt.irrefl k);rw[List.find?_cons_of_neg (by simpa using c)];exact ih q g
theorem A1w {l1 l2:PL}(h1:Ba l1)(h2:Ba l2)(k:By)(h:∀v,(k,v)∈l1↔(k,v)∈l2):Gm k l1=Gm k l2:=by
 cases a:Gm k l1 with
 |some v=>exact((Ys h2 k v).2 ((h v).1 ((Ys h1 k v).1 a))).symm
 |none=>
  cases b:Gm k l2 with
  |none=>rfl
  |some v=>have:=(Ys h1 k v).2 ((h v).2 ((Ys h2 k v).1 b));rw[a]at this;cases this
theorem Axu {cs:List Ag}{k:By}(h:Kx k cs=true):∃c,cs[Bx k (Ia cs)]?=some c/\c∈cs/\c.key=k:=by
 unfold Kx at h
 cases a:cs[Bx k (Ia cs)]? with
 |none=>rw[a]at h;cases h
 |some c=>rw[a]at h;exact⟨c,rfl,Hs a,by simpa using h⟩
theorem Auc {cs:List Ag}(h:Sa cs){a b:Ag}(ha:a∈cs)(hb:b∈cs)(hk:a.key=b.key):a=b:=by
 induction cs with
 |nil=>cases ha
 |cons c cs ih=>
  obtain⟨p,q⟩:=Er.1 h;rcases Al.1 ha with rfl|e
  ·rcases Al.1 hb with rfl|d
   ·rfl
   ·exact absurd hk (p b d)
  ·rcases Al.1 hb with rfl|d
   ·exact absurd hk.symm (p a e)
   ·exact ih q e d
theorem Av7 {cs:List Ag}{l:PL}(ha:Ba l)(b:Nr cs)(k:By):Xr k cs l=Kg (Gm k (cs.foldl Ca l)):=by
 have f:=Acd cs l ha;unfold Xr
 cases i:Kx k cs with
 |true=>
  rw[if_pos rfl];obtain⟨c,o,a,hk⟩:=Axu i;rw[o];show(if c.gone then Kg none else Kg (some c.value))=_
  cases j:c.gone with
  |true=>
   rw[if_pos rfl]
   congr 1
   cases p:Gm k (cs.foldl Ca l)with
   |none=>rfl
   |some v=>
    exfalso;have:=(Ys f k v).1 p;rw[Yq cs l ha b.dif]at this;rcases this with⟨d,hd,m,g⟩|⟨_,h⟩
    ·have:d=c:=Auc b.dif hd a (by rw[hk];exact(congrArg Prod.fst g).symm);subst this;rw[j]at m;cases m
    ·exact h c a hk.symm
  |false=>
   rw[if_neg (by decide)]
   congr 1
   refine((Ys f k c.value).2 ?_).symm;rw[Yq cs l ha b.dif];exact .inl ⟨c,a,j,by rw[hk]⟩
 |false=>
  rw[if_neg (by decide)]
  congr 1
  refine A1w ha f k (fun v=>?_);rw[Yq cs l ha b.dif];rw[Ahg b]at i
  have n:∀c∈cs,k≠c.key:=fun c a e=>by have:=List.any_eq_false.1 i c a;rw[e]at this;simp at this
  constructor
  ·exact fun h=>.inr ⟨h,n⟩
  ·rintro(⟨c,a,_,g⟩|⟨h,_⟩)
   ·exact absurd (congrArg Prod.fst g) (n c a)
   ·exact h
theorem Alk {T:Ay}(h:Ep T):Gt T<=(Df T).length:=by
 cases T with
 |none=>simp[Gt]
 |some q=>obtain⟨hh,t⟩:=q;exact Afk hh t h
theorem Azi (T:Ay):Gn T<=Gt T:=by
 cases T with
 |none=>simp[Gn,Gt]
 |some q=>obtain⟨hh,t⟩:=q;exact Af9 hh t
theorem Axy {m:DM}{rk:By}{v:VM}{T:Ay}{cs:List Ag}{c:Nat}(b:Hy m rk v T)(d:Tp v.used T)(hr:Ep T)(e:∀c∈cs,Sy c)(f:(Df T).length<=300)(h:cs.length<=16)(g:v.version=m.count)(i:m.count<=m.ceiling)(n:3<=m.blocks.length)(l:0<c)
  (a:Ku m v (Gn (Bt ⟨T,[],false⟩ cs).top)=c):Zs m.count m.ceiling m.blocks.length v.done (Df T).length (cs.foldl Ca (Df T)).length c:=by
 obtain⟨r1,r2,_,_⟩:=Zo ⟨T,[],false⟩ cs 300 e hr f (by omega);have h1:=Azi (Bt ⟨T,[],false⟩ cs).top;have h2:=Alk r1;have o:=Alk hr;rw[r2]at h2;have j:=Awi b d;have k:Gn (Bt ⟨T,[],false⟩ cs).top<=(cs.foldl Ca (Df T)).length:=Hb h1 h2;unfold Ku at a;split at a
 ·subst a;exact .counter (by omega)
 ·split at a
  ·subst a;exact .session (by omega)
  ·split at a
   ·subst a;exact .space (by omega)
   ·omega
def Wr (c:Nat)(u:By):Prop:=u.getD 0 1=0\/∃tk salt v p d,salt.length=16/\v<=c/\u=Ci tk salt v p d
theorem Wr.mono {c a:Nat}{u:By}(h:Wr c u)(e:c<=a):Wr a u:=h.imp id (fun⟨tk,salt,v,p,d,h1,h2,b⟩=>⟨tk,salt,v,p,d,h1,by omega,b⟩)
theorem Aoa (tk salt:By)(v p:Nat)(d:By):(Ci tk salt v p d).getD 0 1=83:=by simp[Ci,Fn,Gq,Ar,List.getD]
theorem Ao7 (t:By):(t.take 128).getD 0 1=t.getD 0 1:=by
 cases t<;>simp[List.getD]
theorem Ae4 (tk salt:By)(v p:Nat)(d:By)(a:salt.length=16):((Ci tk salt v p d).drop 20).take 8=Af v 8:=by rw[Aab _ _ _ _ _ a 20 8 (by omega),Ags _ _ _ _ a]
theorem Anx (t:By):((t.take 128).drop 20).take 8=(t.drop 20).take 8:=by
 rw[List.drop_take,List.take_take]
 congr 1
theorem A2v {c a:Nat}{u tk salt d:By}{p:Nat}(h:Wr c u)(b:salt.length=16)(k:c<a)(hb:a<256^8):u.take 128≠(Ci tk salt a p d).take 128:=by
 intro e;rcases h with h|⟨l,i,v,m,j,f,g,rfl⟩
 ·have h1:=congrArg (fun x:By=>x.getD 0 1) e;simp only[Ao7,Aoa]at h1;rw[h]at h1;exact absurd h1 (by decide)
 ·have h1:=congrArg (fun x:By=>(x.drop 20).take 8) e;simp only[Anx,Ae4 _ _ _ _ _ b,Ae4 _ _ _ _ _ f]at h1;have:=Agl 8 v a (by omega) hb h1;omega
structure Rj (ws:List (Nat×By))(ow:List By)(c:Nat)(pass:Option By)(t:By):Prop where
 hist:∀y∈ws,Wr c y.2
 len:ow.length=ws.length
 own:∀p,pass=some p->(∃y∈ws,Prod.snd y=t)/\∀(i:Nat) (y:Nat×By),ws[i]?=some y->y.2.take 128=t.take 128->ow[i]?=some p
theorem Rj.grow {j nw:List (Nat×By)}{k:List By}{c b:Nat}{q:Option By}{t f pass:By}(h:Rj j k c q t)(x:c<=b)(o:∀a∈nw,Wr b a.2)(v:∃a∈nw,a.2=f)(s:∃tk salt p d,salt.length=16/\f=Ci tk salt b p d)(r:c<b)(hb:b<256^8):Rj (j++nw) (k++List.replicate nw.length pass) b (some pass) f:=by
 refine⟨fun a hy=>?_,by simp[h.len],fun p m=>?_⟩
 ·rcases As.1 hy with g|g
  ·exact(h.hist a g).mono x
  ·exact o a g
 ·cases m;obtain⟨n,w,e0⟩:=v;refine⟨⟨n,Bg _ w,e0⟩,fun i a e u=>?_⟩;rcases Hv i j.length with g|g
  ·exfalso;rw[Ja g]at e;obtain⟨tk,salt,p,d,l,rfl⟩:=s;exact A2v (h.hist a (Hs e)) l r hb u
  ·rw[If g]at e;have y:=(Ds.1 e).1;rw[If (by rw[h.len];exact g),h.len,Ab6,if_pos y]
theorem Rj.start (c:Nat)(t:By):Rj [] [] c none t:=⟨fun _ h=>(by cases h),rfl,fun _ h=>(by cases h)⟩
structure GI (w0 wr:World)(bW b:Nat)(x:DX)(m:DM)(v:VM)(wv:Value)(l:LS)(lv:Value)(may:Option (By×PL))(ops:List Ag)(ss:List By)(pr:List Nat):Prop where
 sys:Ai wr x b m v wv
 st:Bi wr bW x.d b l lv may ops
 sal:Iu wr m.sv ss
 s16:∀s∈ss,s.length=16
 bel:Bw w0 wr
 nS:∀j∈Ai.set x b wv,w0.heap.size<=j
 nL:∀j∈Gj bW l lv,w0.heap.size<=j/\Ce x b wv j/\j∉pr/\m.sv.ownBlock≠some j
 nV:∀j,m.sv.ownBlock=some j->w0.heap.size<=j/\Ce x b wv j/\j∉pr
 nP:∀j∈pr,w0.heap.size<=j/\Ce x b wv j/\j<wr.heap.size
section
variable {w0 wr:World}{bW b:Nat}{x:DX}{m:DM}{v:VM}{wv:Value}{l:LS}{lv:Value}{may:Option (By×PL)}{ops:List Ag}{ss:List By}{pr:List Nat}
theorem GI.below (h:GI w0 wr bW b x m v wv l lv may ops ss pr){w':World}(hb:Bw wr w'):GI w0 w' bW b x m v wv l lv may ops ss pr:=
 ⟨h.sys.later hb,h.st.below hb,h.sal.kp (S:=[]) (Kp.of_below hb) (by simp),h.s16,h.bel.trans (hb.mono h.bel.size),h.nS,h.nL,h.nV,fun j a=>⟨(h.nP j a).1,(h.nP j a).2.1,Eu (h.nP j a).2.2 hb.size⟩⟩
def Ir (x:DX)(b:Nat)(wv:Value)(pr:List Nat):List Nat:=Ai.set x b wv++pr
theorem GI.apart (h:GI w0 wr bW b x m v wv l lv may ops ss pr):∀j∈Ir x b wv pr,j∉Gj bW l lv/\j<wr.heap.size:=fun j a=>by
 rcases As.1 a with g|g
 ·exact⟨fun q=>(h.nL j q).2.1.1 g,h.sys.bound g⟩
 ·exact⟨fun q=>(h.nL j q).2.2.1 g,(h.nP j g).2.2⟩
theorem GI.gen (h:GI w0 wr bW b x m v wv l lv may ops ss pr){w':World}{k:DM}{y:VM}{c:Value}{pr' z:List Nat}{n:List By}(hk:Kp z wr w')(A:∀j∈z,w0.heap.size<=j/\j∉Gj bW l lv)(E:Ai w' x b k y c)(H:Cd wv c wr.heap.size)(G:Iu w' k.sv n)(F:∀s∈n,s.length=16)(u:∀j,k.sv.ownBlock=some j->m.sv.ownBlock=some j\/(wr.heap.size<=j/\Ce x b c j/\j∉pr'))(r:∀j∈pr',(j∈pr\/wr.heap.size<=j)/\Ce x b c j/\j<w'.heap.size):GI w0 w' bW b x k y c l lv may ops n pr':=by
 have hz:=h.bel.size
 have w:∀j∈Ai.set x b c,j∈Ai.set x b wv\/wr.heap.size<=j:=fun j a=>by
  simp only[Ai.set,DX.set,As,Al,Cq,or_false,Bf]at a⊢;rcases a with g|g|g
  ·exact .inl (.inl g)
  ·exact .inl (.inr (.inl g))
  ·exact(H j g).imp (fun q=>.inr (.inr q)) id
 have t:∀j,j<wr.heap.size->Ce x b wv j->Ce x b c j:=fun j a p=>⟨fun g=>by
  rcases w j g with q|q
  ·exact p.1 q
  ·omega,p.2⟩
 have o:∀j,j<wr.heap.size->j∉pr->j∉pr':=fun j a D g=>by
  rcases(r j g).1 with q|q
  ·exact D q
  ·omega
 refine⟨E,h.st.kp hk (fun j a g=>(A j g).2 a),G,F,h.bel.trans (Kp.toBelow hk hz (fun j a=>(A j a).1)),fun j a=>?_,fun j a=>?_,fun j a=>?_,fun j a=>?_⟩
 ·rcases w j a with q|q
  ·exact h.nS j q
  ·omega
 ·obtain⟨d,e,f,C⟩:=h.nL j a;have i:=h.st.bound a;refine⟨d,t j i e,o j i f,fun g=>?_⟩;rcases u j g with q|q
  ·exact C q
  ·have:=q.1;omega
 ·rcases u j a with q|q
  ·obtain⟨d,e,f⟩:=h.nV j q;have i:=h.sal.lt j q;exact⟨d,t j i e,o j i f⟩
  ·exact⟨Hb hz q.1,q.2⟩
 ·obtain⟨d,e,f⟩:=r j a;refine⟨?_,e,f⟩;rcases d with q|q
  ·exact(h.nP j q).1
  ·omega
theorem GI.lowK (h:GI w0 wr bW b x m v wv l lv may ops ss pr):∀j∈Ir x b wv pr,w0.heap.size<=j/\j∉Gj bW l lv:=fun j a=>by
 refine⟨?_,(h.apart j a).1⟩;rcases As.1 a with q|q
 ·exact h.nS j q
 ·exact(h.nP j q).1
theorem GI.vault (h:GI w0 wr bW b x m v wv l lv may ops ss pr){w':World}{d:DM}{e:VM}{c:Value}{pr':List Nat}(hk:Kp (Ir x b wv pr) wr w')(i:Ai w' x b d e c)(n:Cd wv c wr.heap.size)(f:d.sv=m.sv)(k:∀j∈pr',(j∈pr\/wr.heap.size<=j)/\Ce x b c j/\j<w'.heap.size):GI w0 w' bW b x d e c l lv may ops ss pr':=by
 refine h.gen hk h.lowK i n ?_ h.s16 (fun j a=>.inl (f▸a)) k;rw[f];refine h.sal.kp hk (fun j a g=>?_);rcases As.1 g with q|q
 ·exact(h.nV j a).2.1.1 q
 ·exact(h.nV j a).2.2 q
theorem GI.law (h:GI w0 wr bW b x m v wv l lv may ops ss pr){w':World}{l':LS}{d:Value}{i:Option (By×PL)}{k:List Ag}(n:Bi w' bW x.d b l' d i k)(c:Bu wr w' bW l l' lv d):GI w0 w' bW b x m v wv l' d i k ss pr:=by
 have hz:=h.bel.size;have f:∀j∈Hw bW l,j∈Gj bW l lv:=fun j a=>Bl _ a;refine⟨h.sys.kp c.kp (fun j a=>(h.nL j (f j a)).2.1),n,h.sal.kp c.kp (fun j a g=>(h.nL j (f j g)).2.2.2 a),h.s16,h.bel.trans (Kp.toBelow c.kp hz (fun j a=>(h.nL j (f j a)).1)),h.nS,fun j a=>?_,h.nV,fun j a=>⟨(h.nP j a).1,(h.nP j a).2.1,Eu (h.nP j a).2.2 c.kp.size⟩⟩;rcases c.new j a with q|q
 ·exact h.nL j q
 ·exact⟨by omega,Ce.new h.sys q,fun g=>by have:=(h.nP j g).2.2;omega,fun e=>by have:=h.sal.lt j e;omega⟩
end
structure Mj (m:DM)(p salt:By)(place:Nat)(dig:By)(L:PL)(T:Ay):Prop where
 s16:salt.length=16
 pl:place<256
 slot:m.look (m.count%2)=Ci (Bn p salt) salt m.count place dig
 dl:if place=0 then dig=[]else dig.length=32
 root:Ep T
 flat:Df T=L
 sto:∀v:VM,v.place=place->v.digest=dig->Hy m (Fc (Ge p salt)) v T
 cnt:∀a,2<=a->Fj a T<=1
structure Lj (m:DM)(ws:List (Nat×By))(ow:List By)(may:Option (By×PL)):Prop where
 no:∀pass,Ew pass (m.look ((m.count+1)%2)) (m.count+1)=false
 nil:may=none->∀pass,Ew pass (m.look (m.count%2)) m.count=false
 tree:∀p L,may=some (p,L)->∃salt place dig T,Mj m p salt place dig L T
 slh:Rj ws ow m.count (may.map Prod.fst) (m.look (m.count%2))
theorem A26 (tk salt:By)(v p:Nat)(d:By):Ci tk salt v p d=Ci tk salt v p (Ar d 32):=by unfold Ci Fn;rw[Vh (Ar d 32) 32 (Jm d 32)]
theorem Mj.own {m:DM}{p salt:By}{place:Nat}{dig:By}{a:PL}{T:Ay}(h:Mj m p salt place dig a T):Ew p (m.look (m.count%2)) m.count=true:=by rw[h.slot,A26];exact Awt p salt m.count place (Ar dig 32) h.s16 h.pl (Jm _ _)
theorem Mj.parts {m:DM}{p salt:By}{place:Nat}{dig:By}{a:PL}{T:Ay}(h:Mj m p salt place dig a T):Bs (m.look (m.count%2))=salt/\Eq (m.look (m.count%2))=place/\Lb (m.look (m.count%2))=dig:=by
 have h1:Eq (m.look (m.count%2))=place:=by rw[h.slot];exact Ait _ _ _ _ _ h.s16 h.pl
 refine⟨by rw[h.slot];exact Alm _ _ _ _ _ h.s16,h1,?_⟩;unfold Lb;rw[h1];have hd:=h.dl;by_cases h0:place=0
 ·rw[if_pos h0]at hd⊢;exact hd.symm
 ·rw[if_neg h0]at hd⊢;rw[h.slot,Ala _ _ _ _ _ h.s16,Vh dig 32 hd]
theorem Mj.open {m:DM}{p salt:By}{place:Nat}{dig:By}{d:PL}{T:Ay}(h:Mj m p salt place dig d T)(hb:m.blocks.length<=48)(v:VM)(a:v.place=place)(hd:v.digest=dig)(f:T=none->dig=[]):∃u,Mu p m (m.look (m.count%2))=some u/\u.length=48/\Tp u T:=by obtain⟨b,c,g⟩:=h.parts;obtain⟨u,h1,h2,i⟩:=Asz (h.sto v a hd) h.root h.cnt hb (fun e=>hd.trans (f e));refine⟨u,?_,h2,i⟩;unfold Mu;rw[if_pos h.own,b,c,g,<-a,<-hd];exact h1
theorem Lj.none_bad {m:DM}{a:List (Nat×By)}{b:List By}(h:Lj m a b none)(pass:By):Mu pass m (m.look (m.count%2))=none:=by unfold Mu;rw[h.nil rfl pass,if_neg (by decide)]
structure Gi (l:LS)(n:Nat)(ws:List (Nat×By))(se tr ow tx:List By)(kw kt:Nat):Prop where
 non:∃v0 v1 v3,l=Ko l n v0 v1 v3 ws se ow
 r2:∃tv,l.r2=Cv tv tr
 r4:∃xv,l.r4=Cv xv tx
 lost:l.lost=false
 w256:∀e:Nat×By,e∈ws->e.2.length=256
 x256:∀e∈tx,List.length e=256
 t40:∀e∈tr,List.length e<=40
 bw:ws.length<=60*kw
 bs:se.length<=60*kw
 bt:tr.length<=kt
 bx:tx.length<=48*kt
theorem Gi.skip {l:LS}{n:Nat}{a:List (Nat×By)}{se tr b tx:List By}{k:Nat}(h:Gi l n a se tr b tx k k):Gi l n a se tr b tx (k+1) (k+1):=
 ⟨h.non,h.r2,h.r4,h.lost,h.w256,h.x256,h.t40,by have:=h.bw;omega,by have:=h.bs;omega,by have:=h.bt;omega,by have:=h.bx;omega⟩
structure Nt (m:DM)(ss:List By)(k:Nat):Prop where
 bl:∀p,p<m.blocks.length->(m.look p).length=256
 sl:ss.length<=k
 cc:m.count<=m.ceiling
 wl:m.wrote.length<=60*k+48
theorem Nt.skip {m:DM}{a:List By}{k:Nat}(h:Nt m a k):Nt m a (k+1):=⟨h.bl,by have:=h.sl;omega,h.cc,by have:=h.wl;omega⟩
structure Acs (wr:World)(x:DX)(b bt bp:Nat)(m:DM)(v:VM)(wv:Value)(l:LS)(ops:List Ag)(se:List By)(p:By)(L:PL)(T:Ay)(cs:List Ag):Prop where
 cm:In wr x b bt bp m v wv (Bn p v.salt) (Fc (Ge p v.salt)) T cs
 tx:Kw cs ops
 le:ops.length<=12
 nil:cs=[]->v.cv=.slice none 0 0
 tree:Mj m p v.salt v.place v.digest L T
 dn:v.done=se.length-l.base
 ba:l.base<=se.length
 pw:l.pass=p
 asc:Ba L
 sn:v.session<=1048576
inductive Ix (wr:World)(x:DX)(b:Nat)(m:DM)(v:VM)(wv:Value)(l:LS)(may:Option (By×PL))(ops:List Ag)(ws:List (Nat×By))(se ow:List By):List Nat->Prop
 |shut (hv:v=Dr) (ho:l.opened=false) (hs:Lj m ws ow may) (hz:ops=[]):Ix wr x b m v wv l may ops ws se ow []
 |op (bt bp:Nat) (p:By) (L:PL) (T:Ay) (cs:List Ag) (hm:may=some (p,L)) (ho:l.opened=true) (hs:Lj m ws ow may) (hp:Acs wr x b bt bp m v wv l ops se p L T cs):Ix wr x b m v wv l may ops ws se ow (bt::bp::v.cv.ownBlock.toList)
structure Aal (w0 wr:World)(bW:Nat):Prop where
 o:∃d b l,Hh wr bW d b l/\l.lost=true
 bel:Bw w0 wr
 new:w0.heap.size<=bW
 hk:Br wr 1 .u32 Gk
 h0:Br wr 0 .u32 Jv
 k0:1<w0.heap.size
 k1:0<w0.heap.size
def Eg (w0:World)(k a:Nat)(wr:World):Prop:=Aal w0 wr a\/∃b x m v wv l lv may ops c e d se tr f tx,GI w0 wr a b x m v wv l lv may ops c e/\Gi l m.wrote.length d se tr f tx k k/\Nt m c k/\Ix wr x b m v wv l may ops d se f e
theorem In.below {w w':World}{x:DX}{b bt bp:Nat}{m:DM}{v:VM}{wv:Value}{tk rk:By}{T:Ay}{cs:List Ag}(h:In w x b bt bp m v wv tk rk T cs)(hb:Bw w w'):In w' x b bt bp m v wv tk rk T cs:=
 ⟨h.kit.below hb,h.op,h.bl,h.sto,h.root,h.pl,h.row.below hb,h.ok,h.len,h.nn,h.fl,h.dn,h.se,h.ve,h.ct,h.wr,h.cw⟩
theorem Ix.below {wr w':World}{x:DX}{b:Nat}{m:DM}{v:VM}{wv:Value}{l:LS}{may:Option (By×PL)}{ops:List Ag}{e:List (Nat×By)}{se g:List By}{f:List Nat}(h:Ix wr x b m v wv l may ops e se g f)(hb:Bw wr w'):Ix w' x b m v wv l may ops e se g f:=by
 cases h with
 |shut i d c hz=>exact .shut i d c hz
 |op bt bp p k T cs j d c a=>exact .op bt bp p k T cs j d c ⟨a.cm.below hb,a.tx,a.le,a.nil,a.tree,a.dn,a.ba,a.pw,a.asc,a.sn⟩
theorem Eg.bel {w0 wr:World}{k a:Nat}(h:Eg w0 k a wr):Bw w0 wr:=by
 rcases h with h|⟨b,x,m,v,wv,l,lv,may,ops,c,e,d,se,tr,f,tx,h,_⟩
 ·exact h.bel
 ·exact h.bel
theorem Eg.stay {w0 wr w':World}{k a:Nat}(h:Eg w0 k a wr)(hb:Bw wr w'):Eg w0 k a w':=by
 rcases h with h|⟨b,x,m,v,wv,l,lv,may,ops,c,f,e,se,tr,j,tx,h,h1,h2,g⟩
 ·obtain⟨d,b,l,ha,i⟩:=h.o;exact .inl ⟨⟨d,b,l,ha.of_block (hb.block a ha.lt),i⟩,h.bel.trans (hb.mono h.bel.size),h.new,h.hk.below hb h.hk.lt,h.h0.below hb h.h0.lt,h.k0,h.k1⟩
 ·exact .inr ⟨b,x,m,v,wv,l,lv,may,ops,c,f,e,se,tr,j,tx,h.below hb,h1,h2,g.below hb⟩
theorem Eg.skip {w0 wr:World}{k a:Nat}(h:Eg w0 k a wr):Eg w0 (k+1) a wr:=by
 rcases h with h|⟨b,x,m,v,wv,l,lv,may,ops,c,e,d,se,tr,g,tx,h,h1,h2,f⟩
 ·exact .inl h
 ·exact .inr ⟨b,x,m,v,wv,l,lv,may,ops,c,e,d,se,tr,g,tx,h,h1.skip,h2.skip,f⟩
theorem Eg.consts {w0 wr:World}{k a:Nat}(h:Eg w0 k a wr):Br wr 1 .u32 Gk/\Br wr 0 .u32 Jv:=by
 rcases h with h|⟨b,x,m,v,wv,l,lv,may,ops,c,e,d,se,tr,f,tx,h,_⟩
 ·exact⟨h.hk,h.h0⟩
 ·exact⟨h.sys.hk,h.sys.h0⟩
def Zz:LS:=⟨.slice none 0 0,false,.slice none 0 0,false,0,0,[],false,Vb (.slice none 0 0) [],Cv (.slice none 0 0) [],Cv (.slice none 0 0) [],Cv (.slice none 0 0) [],Cv (.slice none 0 0) []⟩
theorem Arj (n c:Nat)(w:World)(p:3<=n)(s:n<=48)(v:c<=1048576)(hk:Br w 1 .u32 Gk)(h0:Br w 0 .u32 Jv):
  Cl 6 #[.int .i64 n,.int .i64 c] w fun e w'=>∃x b g,e=.returned (.pointer (some ⟨g,0,none⟩))/\Ai w' x b ⟨List.replicate n Ii,List.replicate n [],0,c,[],.slice none 0 0⟩ Wi (.slice none 0 0)/\Hh w' g x.d b Zz/\Ce x b (.slice none 0 0) g/\w.heap.size<=g/\Bw w w'/\(∀j∈Ai.set x b (.slice none 0 0),w.heap.size<=j):=by
 have m:=Aa (Aqs n c w p s v);have E:=hk.lt;have C:=h0.lt;have k:=Aa (Ab hk h0);clear p s v hk h0;go_enter Tryz.func6,Tryz.ntmps6;go_wp2_with fail;refine m.o.mono ?_;rintro e w1 ⟨rfl,f,x,z,H,K,a⟩;have F:=Aa z;have y:=Aa (Ane w.heap.size w1);have r:=Aa (Ab f a);clear f a m;go_wp2_with fail;refine y.o.mono ?_;rintro e w2 ⟨rfl,l,i,A⟩;obtain⟨f,a⟩:=r.o;have t:=a.kp (S:=[]) (Kp.of_below i) (by simp);have h:=f.trans (i.mono f.size);have I:=a.lt;have G:=a.rb.lt;have J:=a.rc.lt
 have s2:Ai w2 x w1.heap.size ⟨List.replicate n Ii,List.replicate n [],0,c,[],.slice none 0 0⟩ Wi (.slice none 0 0):=
  ⟨t,z▸l,k.o.1.below h E,k.o.2.below h C,by simp[DX.set,Value.ownBlock];omega,⟨by simp[DX.set,Value.ownBlock];omega,by omega⟩,⟨by simp[DX.set,Value.ownBlock];omega,by omega⟩⟩
 have q:∀j∈Ai.set x w1.heap.size (.slice none 0 0),w.heap.size<=j:=fun j D=>by simp[Ai.set,DX.set,Value.ownBlock]at D;omega
 have d:=Aa (Ab s2 (Ab h q));clear q f a t h s2 l i y r k A;go_wp2_with fail;go_ret;have o:∀u,Bw w2 (w2.alloc u):=fun u=>(Ah _ _).alloc (Ak _) _;exact⟨x,w1.heap.size,w2.heap.size,rfl,d.o.1.later (o _),⟨(heap_alloc_new w2 _).trans (by rw[F.o];rfl)⟩,Ce.new d.o.1 (Ak _),d.o.2.1.size,d.o.2.1.trans ((o _).mono d.o.2.1.size),d.o.2.2⟩
theorem A1a {w:World}{g d b:Nat}(h:Hh w g d b Zz):Bi w g d b Zz (.slice none 0 0) none []:=by
 have f:∀i,i<5->(Zz.row i).v=.slice none 0 0:=fun i a=>by
  match i,a with
  |0,_|1,_|2,_|3,_|4,_=>rfl
 refine⟨h,⟨rfl,rfl⟩,Jz.nil w,fun i a=>?_,fun i k a hk _ j c=>?_,fun i a e=>?_,fun j c=>?_⟩
 ·match i,a with
  |0,_|1,_|2,_|3,_|4,_=>exact⟨rfl,.inl ⟨rfl,rfl⟩⟩
 ·rw[f i a]at c;cases c
 ·rw[f i a]at e;cases e
 ·rcases Ha.1 c with e|e|e<;>cases e
theorem Ais:Ii.length=256:=by unfold Ii;rw[Tu]
theorem Ao0 (pass:By)(n:Nat):Ew pass Ii n=false:=by
 cases h:Ew pass Ii n with
 |false=>rfl
 |true=>exfalso;rw[Adx _ _ _ Ais]at h;have h1:=congrArg (fun x:By=>x.getD 0 1) h;simp only[Ao7,Aoa]at h1;exact absurd h1 (by decide)
theorem Afb (n c k:Nat)(hk:k<n):(⟨List.replicate n Ii,List.replicate n [],0,c,[],.slice none 0 0⟩:DM).look k=Ii:=by unfold DM.look;simp[List.getD,hk]
theorem Ant (w0:World)(n c:Nat)(wr:World)(k:Nat)(hb:Bw w0 wr)(o:3<=n)(m:n<=48)(v:c<=1048576)(hk:Br wr 1 .u32 Gk)(h0:Br wr 0 .u32 Jv):
  Cl 6 #[.int .i64 n,.int .i64 c] wr fun e w'=>∃d,e=.returned (.pointer (some ⟨d,0,none⟩))/\Eg w0 k d w':=by
 refine(Arj n c wr o m v hk h0).mono ?_;rintro e w' ⟨x,b,d,rfl,s,ha,f,w,u,r⟩;have hz:=hb.size;have st:=A1a ha
 have t:∀j∈Gj d Zz (.slice none 0 0),j=d:=fun j a=>by
  rcases As.1 a with g|g
  ·rcases Ey.1 g with rfl|⟨i,q,e⟩
   ·rfl
   ·match i,q with
    |0,_|1,_|2,_|3,_|4,_=>cases e
  ·rcases Ha.1 g with e|e|e<;>cases e
 refine⟨d,rfl,.inr ⟨b,x,_,_,_,Zz,.slice none 0 0,none,[],[],[],[],[],[],[],[],⟨s,st,.inl ⟨rfl,rfl⟩,fun _ h=>(by cases h),hb.trans (u.mono hz),fun j a=>Hb hz (r j a),fun j a=>?_,fun j a=>(by cases a),fun j a=>(by cases a)⟩,⟨⟨_,_,_,rfl⟩,⟨_,rfl⟩,⟨_,rfl⟩,rfl,fun _ h=>(by cases h),fun _ h=>(by cases h),fun _ h=>(by cases h),by simp,by simp,by simp,by simp⟩,⟨fun p l=>?_,by simp,by simp,by simp⟩,.shut rfl rfl ⟨fun pass=>?_,fun _ pass=>?_,fun p y h=>(by cases h),Rj.start _ _⟩ rfl⟩⟩
 ·rw[t j a];exact⟨by omega,f,by simp,fun e=>(by cases e)⟩
 ·rw[Afb n c p (by simpa using l)];exact Ais
 ·rw[Afb n c _ (by simp;omega)];exact Ao0 _ _
 ·rw[Afb n c _ (by simp;omega)];exact Ao0 _ _
theorem Hm.kpF {w w':World}{x:DX}{b:Nat}{m:DM}{v:VM}{wv:Value}{bt bp:Nat}{tk rk:By}{S:List Nat}(h:Hm w x b m v wv bt bp tk rk)(hk:Kp S w w')(c:∀j∈S,Ce x b wv j/\j≠bt/\j≠bp):Hm w' x b m v wv bt bp tk rk:=
 ⟨h.sys.kp hk (fun j a=>(c j a).1),h.tv,h.pv,h.mac.of_block (hk.block bt h.mac.lt (fun g=>(c bt g).2.1 rfl)),h.key.of_block (hk.block bp h.key.lt (fun g=>(c bp g).2.2 rfl)) hk.size,h.abt.step (fun _ a=>.inl a) hk.size,h.abp.step (fun _ a=>.inl a) hk.size,h.sl⟩
theorem In.kpF {w w':World}{x:DX}{b bt bp:Nat}{m:DM}{v:VM}{wv:Value}{tk rk:By}{T:Ay}{cs:List Ag}{S:List Nat}(h:In w x b bt bp m v wv tk rk T cs)(hk:Kp S w w')(c:∀j∈S,Ce x b wv j/\j∉bt::bp::v.cv.ownBlock.toList):In w' x b bt bp m v wv tk rk T cs:=
 ⟨h.kit.kpF hk (fun j a=>⟨(c j a).1,fun e=>(c j a).2 (by simp[e]),fun e=>(c j a).2 (by simp[e])⟩),h.op,h.bl,h.sto,h.root,h.pl,Bm h.row hk (fun j a g=>(c j g).2 (by simp[a])),h.ok,h.len,h.nn,h.fl,h.dn,h.se,h.ve,h.ct,h.wr,h.cw⟩
theorem Ix.law {w0 wr w':World}{g b:Nat}{x:DX}{m:DM}{v:VM}{wv:Value}{l c:LS}{lv q:Value}{y may:Option (By×PL)}{w ops:List Ag}{s:List By}{i:List (Nat×By)}{se k:List By}{f:List Nat}{l':LS}(r:GI w0 wr g b x m v wv l lv y w s f)(h:Ix wr x b m v wv c may ops i se k f)(z:Bu wr w' g l l' lv q)(e1:l'.opened=c.opened)(e2:l'.base=c.base)(e3:l'.pass=c.pass):Ix w' x b m v wv l' may ops i se k f:=by
 cases h with
 |shut n e d hz=>exact .shut n (e1.trans e) d hz
 |op bt bp p o T cs t e d a=>refine .op bt bp p o T cs t (e1.trans e) d ⟨a.cm.kpF z.kp (fun j u=>?_),a.tx,a.le,a.nil,a.tree,by rw[e2];exact a.dn,by rw[e2];exact a.ba,e3.trans a.pw,a.asc,a.sn⟩;have:=r.nL j (Bl _ u);exact⟨this.2.1,this.2.2.1⟩
def Zh (w0:World)(k a:Nat)(wr:World):Prop:=Aal w0 wr a\/∃b x m v wv l lv may ops c e d se tr f tx,GI w0 wr a b x m v wv l lv may ops c e/\Gi l m.wrote.length d se tr f tx k k/\Nt m c k/\Ix wr x b m v wv l may ops d se f e/\l.ans=true
theorem Zh.inv {w0 wr:World}{k a:Nat}(h:Zh w0 k a wr):Eg w0 k a wr:=by
 rcases h with h|⟨b,x,m,v,wv,l,lv,may,ops,c,e,d,se,tr,g,tx,h,h1,h2,f,_⟩
 ·exact .inl h
 ·exact .inr ⟨b,x,m,v,wv,l,lv,may,ops,c,e,d,se,tr,g,tx,h,h1,h2,f⟩
theorem Eg.ans {w0 wr:World}{k a:Nat}(h:Eg w0 k a wr):∃x s,wr.cell? ⟨a,16,none⟩=some (.bool x)/\wr.frozen? ⟨a,16,none⟩=false/\(wr.setCell ⟨a,16,none⟩ (.bool true)).cell? ⟨a,17,none⟩=some (.bool s)/\(wr.setCell ⟨a,16,none⟩ (.bool true)).frozen? ⟨a,17,none⟩=false/\Zh w0 k a ((wr.setCell ⟨a,16,none⟩ (.bool true)).setCell ⟨a,17,none⟩ (.bool false)):=by
 rcases h with h|⟨b,x,m,v,wv,l,lv,may,ops,t,o,w,se,tr,y,tx,h,h1,h2,i⟩
 ·obtain⟨d,b,l,ha,q⟩:=h.o;have c:Hh (wr.setCell ⟨a,16,none⟩ (.bool true)) a d b {l with ans:=true}:=ha.set 16 _ rfl;have j:Hh ((wr.setCell ⟨a,16,none⟩ (.bool true)).setCell ⟨a,17,none⟩ (.bool false)) a d b {l with ans:=true}:=c.set 17 _ rfl;have hk:Kp [a] wr ((wr.setCell ⟨a,16,none⟩ (.bool true)).setCell ⟨a,17,none⟩ (.bool false)):=((Kp.refl _ wr).setCell a 16 _ (.inl (by simp))).setCell a 17 _ (.inl (by simp));have hz:=h.bel.size;refine⟨l.ans,false,ha.c 16,ha.fr 16,c.c 17,c.fr 17,.inl ⟨⟨d,b,_,j,q⟩,h.bel.trans (hk.toBelow hz (by simpa using h.new)),h.new,?_,?_,h.k0,h.k1⟩⟩
  ·exact hk.cells h.hk (fun g=>by simp at g;have:=h.new;have:=h.k0;omega)
  ·exact hk.cells h.h0 (fun g=>by simp at g;have:=h.new;have:=h.k1;omega)
 ·have s1:=h.st.cell (l':={l with ans:=true}) 16 (.bool true) rfl rfl rfl (Nz rfl rfl rfl rfl rfl);have u:Bu wr (wr.setCell ⟨a,16,none⟩ (.bool true)) a l {l with ans:=true} lv lv:=Bu.cell 16 (.bool true) rfl rfl (Nz rfl rfl rfl rfl rfl);have s2:=s1.cell (l':={l with ans:=true}) 17 (.bool false) rfl rfl rfl (Nz rfl rfl rfl rfl rfl);have e:=u.trans (Bu.cell (l':={l with ans:=true}) 17 (.bool false) rfl rfl (Nz rfl rfl rfl rfl rfl));refine⟨l.ans,false,h.st.at_.c 16,h.st.at_.fr 16,s1.at_.c 17,s1.at_.fr 17,.inr ⟨b,x,m,v,wv,_,lv,may,ops,t,o,w,se,tr,y,tx,h.law s2 e,?_,h2,i.law h e rfl rfl rfl,rfl⟩⟩;obtain⟨n,f,p,r⟩:=h1.non
  exact⟨⟨n,f,p,by conv=>lhs;rw[r]
                  rfl⟩,h1.r2,h1.r4,h1.lost,h1.w256,h1.x256,h1.t40,h1.bw,h1.bs,h1.bt,h1.bx⟩
def Ga (w0:World)(k g:Nat)(w1:World):Prop:=∃b x m v wv l lv may ops a d c se tr f tx n0,GI w0 w1 g b x m v wv l lv may ops a d/\Gi l n0 c se tr f tx k (k+1)/\n0<=m.wrote.length/\m.wrote.length<=n0+60/\(∀e:Nat×By,e∈m.wrote.drop n0->e.2.length=256)/\Nt m a (k+1)/\
 Ix w1 x b m v wv l may ops (c++m.wrote.drop n0) (se++Hi (m.wrote.drop n0)) (f++List.replicate (m.wrote.length-n0) l.pass) d/\l.ans=true
theorem An3:∀a:List (Nat×By),(Hi a).length<=a.length:=fun a=>by unfold Hi;rw[Fi];exact Tv _ a
theorem Aww {w0 w1:World}{k c:Nat}(hk:k<65536)(h:Ga w0 k c w1):Cl 19 #[.pointer (some ⟨c,0,none⟩)] w1 fun e w'=>e=.returned (.bool true)/\Zh w0 (k+1) c w':=by
 obtain⟨b,x,m,v,wv,l,lv,may,ops,z,F,i,se,tr,d,tx,n0,a,hr,u,J,o,hd,n,ha⟩:=h;obtain⟨C,s,G,w⟩:=hr.non;have K:=hr.bw;have I:=hr.bs
 have D:d.length<=4000000:=by
  have:d.length+(m.wrote.length-n0)=i.length+(m.wrote.length-n0):=by
   have H:(d++List.replicate (m.wrote.length-n0) l.pass).length=(i++m.wrote.drop n0).length:=by
    cases n with
    |shut _ _ f _=>exact f.slh.len
    |op _ _ _ _ _ _ _ _ f _=>exact f.slh.len
   simpa using H
  omega
 refine(Ai9 x b c m v wv l lv may ops i se d n0 C s G w1 a.sys (fun j E g=>(a.nL j g).2.1.1 E) a.st w u o (by omega) (by omega) D).mono ?_;rintro e w' ⟨rfl,t,r,y,p⟩;have q:m.wrote.take m.wrote.length=m.wrote:=Du (Ak _);have st:=p.st;have go:=p.go;rw[q]at st go;refine⟨rfl,.inr ⟨b,x,m,v,wv,_,lv,may,ops,z,F,_,_,tr,_,tx,a.law st go,⟨⟨t,r,y,rfl⟩,hr.r2,hr.r4,hr.lost,fun e A=>?_,hr.x256,hr.t40,?_,?_,hr.bt,hr.bx⟩,hd,n.law a go rfl rfl rfl,ha⟩⟩
 ·rcases As.1 A with g|g
  ·exact hr.w256 e g
  ·exact o e g
 ·simp only[Bb,Nw];omega
 ·have:=An3 (m.wrote.drop n0);simp only[Bb,Nw]at this⊢;omega
structure Kf (w0 wr:World)(k bW b:Nat)(x:DX)(m:DM)(v:VM)(wv:Value)(l:LS)(lv:Value)(may:Option (By×PL))(ops:List Ag)(ss:List By)(pr:List Nat)(ws:List (Nat×By))(se tr ow tx:List By):Prop where
 g:GI w0 wr bW b x m v wv l lv may ops ss pr
 r:Gi l m.wrote.length ws se tr ow tx k k
 d:Nt m ss k
 v:Ix wr x b m v wv l may ops ws se ow pr
 a:l.ans=true
theorem Gi.to {l l':LS}{n i:Nat}{ws:List (Nat×By)}{se tr ow tx b a:List By}{k s c:Nat}(h:Gi l n ws se tr ow tx k s)(e0:l'.r0=l.r0)(e1:l'.r1=l.r1)(e3:l'.r3=l.r3)(en:l'.n=i)(e2:∃tv,l'.r2=Cv tv b)(m:∃r,l'.r4=Cv r a)(el:l'.lost=false)(x256:∀e∈a,List.length e=256)(t40:∀e∈b,List.length e<=40)(bt:b.length<=c)(bx:a.length<=48*c):Gi l' i ws se b ow a k c:=by obtain⟨j,g,q,d⟩:=h.non;have o:l'.r0=Vb j ws:=e0.trans (congrArg LS.r0 d);have f:l'.r1=Cv g se:=e1.trans (congrArg LS.r1 d);have p:l'.r3=Cv q ow:=e3.trans (congrArg LS.r3 d);refine⟨⟨j,g,q,?_⟩,e2,m,el,h.w256,x256,t40,h.bw,h.bs,bt,bx⟩;clear e2 m el e0 e1 e3;cases l';dsimp only at o f p en;subst o f p en;rfl
theorem Gi.same {l l':LS}{n:Nat}{ws:List (Nat×By)}{se tr ow tx:List By}{a b:Nat}(h:Gi l n ws se tr ow tx a b)(e0:l'.r0=l.r0)(e1:l'.r1=l.r1)(e2:l'.r2=l.r2)(e3:l'.r3=l.r3)(c:l'.r4=l.r4)(en:l'.n=l.n)(el:l'.lost=l.lost):Gi l' n ws se tr ow tx a b:=by obtain⟨f,e,g,d⟩:=h.non;exact h.to e0 e1 e3 (en.trans (congrArg LS.n d)) (h.r2.imp (fun _ h=>e2.trans h)) (h.r4.imp (fun _ h=>c.trans h)) (el.trans h.lost) h.x256 h.t40 h.bt h.bx
theorem Gi.up {l:LS}{n:Nat}{ws:List (Nat×By)}{se tr ow tx:List By}{a b:Nat}(h:Gi l n ws se tr ow tx a b):Gi l n ws se tr ow tx a (b+1):=
 ⟨h.non,h.r2,h.r4,h.lost,h.w256,h.x256,h.t40,h.bw,h.bs,by have:=h.bt;omega,by have:=h.bx;omega⟩
theorem Sf {w0 w1:World}{k bW b:Nat}{x:DX}{m:DM}{v:VM}{wv:Value}{l:LS}{lv:Value}{may:Option (By×PL)}{ops:List Ag}{ss:List By}{pr:List Nat}{ws:List (Nat×By)}{se tr ow tx:List By}(c:GI w0 w1 bW b x m v wv l lv may ops ss pr)(hr:Gi l m.wrote.length ws se tr ow tx k (k+1))(hd:Nt m ss (k+1))(a:Ix w1 x b m v wv l may ops ws se ow pr)(ha:l.ans=true):Ga w0 k bW w1:=by
 refine⟨b,x,m,v,wv,l,lv,may,ops,ss,pr,ws,se,tr,ow,tx,m.wrote.length,c,hr,Ak _,Nat.le_add_right _ _,?_,hd,?_,ha⟩
 ·simp
 ·simpa [Hi]using a
section
variable {w0 wr:World}{k bW b:Nat}{x:DX}{m:DM}{v:VM}{wv:Value}{l:LS}{lv:Value}{may:Option (By×PL)}{ops:List Ag}{ss:List By}{pr:List Nat}{ws:List (Nat×By)}{se tr ow tx:List By}
theorem Kf.below (h:Kf w0 wr k bW b x m v wv l lv may ops ss pr ws se tr ow tx){w':World}(hb:Bw wr w'):Kf w0 w' k bW b x m v wv l lv may ops ss pr ws se tr ow tx:=
 ⟨h.g.below hb,h.r,h.d,h.v.below hb,h.a⟩
theorem Kf.mid (h:Kf w0 wr k bW b x m v wv l lv may ops ss pr ws se tr ow tx):Ga w0 k bW wr:=Sf h.g h.r.up h.d.skip h.v h.a
theorem Kf.law (h:Kf w0 wr k bW b x m v wv l lv may ops ss pr ws se tr ow tx){w':World}{l':LS}(c:Bi w' bW x.d b l' lv may ops)(a:Bu wr w' bW l l' lv lv)(hr:Gi l' m.wrote.length ws se tr ow tx k (k+1))(e1:l'.opened=l.opened)(e2:l'.base=l.base)(e3:l'.pass=l.pass)(d:l'.ans=l.ans):Ga w0 k bW w':=
 Sf (h.g.law c a) hr h.d.skip (h.v.law h.g a e1 e2 e3) (d.trans h.a)
theorem Ix.shutP (h:Ix wr x b m v wv l may ops ws se ow pr):Lj m ws ow may:=by
 cases h with
 |shut _ _ a _=>exact a
 |op _ _ _ _ _ _ _ _ a _=>exact a
theorem In.note {w w':World}{bt bp:Nat}{tk rk:By}{T:Ay}{cs cs':List Ag}{cv:Value}(h:In w x b bt bp m v wv tk rk T cs)(f:Ai w' x b m {v with cv:=cv} wv)(hk:Kp (b::v.cv.ownBlock.toList) w w')(hr:Hq w' cv cs')(i:∀c∈cs',Sy c)(d:cs'.length<=16)(a:∀j,cv.ownBlock=some j->v.cv.ownBlock=some j\/w.heap.size<=j):In w' x b bt bp m {v with cv:=cv} wv tk rk T cs':=by
 have hb:b∈Ai.set x b wv:=Qu
 have n:bt∉b::v.cv.ownBlock.toList:=fun g=>by
  rcases Al.1 g with q|q
  ·exact h.kit.abt.2 (q▸hb)
  ·exact(h.cw bt (Bf.1 q)).2 rfl
 have k:bp∉b::v.cv.ownBlock.toList:=fun g=>by
  rcases Al.1 g with q|q
  ·exact h.kit.abp.2 (q▸hb)
  ·exact(h.cw bp (Bf.1 q)).1.2 rfl
 refine⟨⟨f,h.kit.tv,h.kit.pv,h.kit.mac.of_block (hk.block bt h.kit.mac.lt n),h.kit.key.of_block (hk.block bp h.kit.key.lt k) hk.size,h.kit.abt.step (Cd.refl _ _) hk.size,h.kit.abp.step (Cd.refl _ _) hk.size,h.kit.sl⟩,h.op,h.bl,h.sto.keep rfl rfl rfl (fun _ _ _=>rfl),h.root,h.pl,hr,i,d,h.nn,h.fl,h.dn,h.se,h.ve,h.ct,h.wr,fun j l=>?_⟩;rcases a j l with q|q
 ·exact h.cw j q
 ·exact⟨⟨Ce.new h.kit.sys q,fun e=>by have:=h.kit.key.lt;omega⟩,fun e=>by have:=h.kit.mac.lt;omega⟩
theorem In.priv {w:World}{bt bp:Nat}{tk rk:By}{T:Ay}{cs:List Ag}(h:In w x b bt bp m v wv tk rk T cs)(c:GI w0 w bW b x m v wv l lv may ops ss pr)(a:bt∈pr/\bp∈pr){w':World}{cv:Value}(hz:w.heap.size<=w'.heap.size)(i:∀j,cv.ownBlock=some j->j<w'.heap.size)(d:∀j,cv.ownBlock=some j->v.cv.ownBlock=some j\/w.heap.size<=j)(e:∀j,v.cv.ownBlock=some j->j∈pr):∀j∈bt::bp::cv.ownBlock.toList,(j∈pr\/w.heap.size<=j)/\Ce x b wv j/\j<w'.heap.size:=fun j f=>by
 simp only[Al,Bf]at f;rcases f with rfl|rfl|q
 ·exact⟨.inl a.1,(c.nP _ a.1).2.1,Eu (c.nP _ a.1).2.2 hz⟩
 ·exact⟨.inl a.2,(c.nP _ a.2).2.1,Eu (c.nP _ a.2).2.2 hz⟩
 ·refine⟨(d j q).imp (e j) id,?_,i j q⟩;rcases d j q with g|g
  ·exact(c.nP j (e j g)).2.1
  ·exact Ce.new h.kit.sys g
theorem Aej {pr a:List Nat}{w w':World}(h:Kp a w w')(c:∀j∈a,j=b\/j∈pr):Kp (Ir x b wv pr) w w':=h.mono fun j d=>by
 rcases c j d with rfl|g
 ·exact Bl _ Qu
 ·exact Bg _ g
theorem Amg (h:Kf w0 wr k bW b x m v wv l lv may ops ss pr ws se tr ow tx)(cl:Bool):Cl 13 #[.pointer (some ⟨bW,0,none⟩),.bool cl] wr fun e w'=>e=.returned (.bool true)/\Ga w0 k bW w':=by
 have z:=h.mid;obtain⟨g,r,d,o,a⟩:=h
 cases o with
 |shut o n s hz=>
  refine(Arl cl g.st n ?_).mono ?_
  ·cases cl with
   |true=>exact Aq9 x b m v wv wr g.sys (by rw[o];rfl)
   |false=>exact Asl x b m v wv wr g.sys (by rw[o];rfl)
  ·rintro e w' ⟨rfl,rfl⟩;exact⟨rfl,z⟩
 |op bt bp p u T cs y n s i=>
  have w:bt∈bt::bp::v.cv.ownBlock.toList/\bp∈bt::bp::v.cv.ownBlock.toList:=by simp
  have t:∀j∈[b],j∉Gj bW l lv:=fun j f=>(g.apart j (Bl _ (by simp at f;subst f;exact Qu))).1
  cases cl with
  |true=>refine(Alf true (fun w'=>Ai w' x b m Dr wv) [b] g.st n t (A4b x b m v wv wr g.sys i.cm.op)).mono ?_;rintro e w' ⟨rfl,w1,s1,k1,st,go⟩;refine⟨rfl,?_⟩;have q:=g.vault (pr':=[]) (Aej k1 (fun j f=>.inl (by simpa using f))) s1 (Cd.refl _ _) rfl (fun j f=>(by cases f));exact Sf (q.law st go) (r.up.same rfl rfl rfl rfl rfl rfl rfl) d.skip (.shut rfl rfl s rfl) a
  |false=>refine(Alf false (fun w'=>Ai w' x b m {v with cv:=.slice none 0 0} wv) [b] g.st n t (Aru x b m v wv wr g.sys i.cm.op)).mono ?_;rintro e w' ⟨rfl,w1,s1,k1,st,go⟩;refine⟨rfl,?_⟩;have q:=g.vault (pr':=bt::bp::(Value.slice none 0 0).ownBlock.toList) (Aej k1 (fun j f=>.inl (by simpa using f))) s1 (Cd.refl _ _) rfl (i.cm.priv g w k1.size (fun j f=>(by cases f)) (fun j f=>(by cases f)) (fun j f=>by simp[f]));have c1:=i.cm.note (cs':=[]) s1 (k1.mono (fun j f=>by simp at f;simp[f])) ⟨rfl,.inl ⟨rfl,rfl⟩⟩ (fun c A=>(by cases A)) (Cu _) (fun j f=>(by cases f));have C:Ix w1 x b m {v with cv:=.slice none 0 0} wv l may [] ws se ow _:=.op bt bp p u T [] y n s ⟨c1,Kw.nil,Cu _,fun _=>rfl,i.tree,i.dn,i.ba,i.pw,i.asc,i.sn⟩;exact Sf (q.law st go) (r.up.same rfl rfl rfl rfl rfl rfl rfl) d.skip (C.law q go n.symm rfl rfl) a
theorem Aw6 (h:Kf w0 wr k bW b x m v wv l lv may ops ss pr ws se tr ow tx)(key:By):Cl 14 #[.pointer (some ⟨bW,0,none⟩),.string ⟨key.toArray⟩] wr fun e w'=>e=.returned (.bool true)/\Ga w0 k bW w':=by
 have hb:∀w',Bw wr w'->Ga w0 k bW w':=fun w' g=>(h.below g).mid;obtain⟨g,r,d,i,a⟩:=h
 cases i with
 |shut i f j hz=>refine(A37 key g.st f (Auo x b m v wv key wr g.sys (by rw[i];rfl))).mono ?_;rintro e w' ⟨rfl,rfl⟩;exact⟨rfl,hb _ (Ah _ _)⟩
 |op bt bp p n T cs s f j c=>
  by_cases hk:1<=key.length/\key.length<=8
  ·subst s;have o:=c.cm.fl;have u:=c.le;have t:=c.cm.len;rw[c.tree.flat]at o;refine(As4 key (Gm key (cs.foldl Ca (Df T))) g.st f hk.1 hk.2 ?_ ?_ c.asc (by show n.length<=1000;omega) (by omega)).mono ?_
   ·rw[<-Av7 (by rw[c.tree.flat];exact c.asc) c.tx.asc key];exact A3p x b bt bp m v wv _ _ key T cs wr c.cm.kit c.cm.op c.cm.sto c.cm.root c.cm.bl c.cm.nn c.cm.row (by omega) hk.1 hk.2
   ·rw[c.tree.flat,c.tx.fold c.asc];rfl
   ·rintro e w' ⟨rfl,q⟩;exact⟨rfl,hb _ q⟩
  ·refine(A08 key g.st f hk (A1i x b m v wv key wr g.sys c.cm.op hk)).mono ?_;rintro e w' ⟨rfl,rfl⟩;exact⟨rfl,hb _ (Ah _ _)⟩
theorem Aya (h:Kf w0 wr k bW b x m v wv l lv may ops ss pr ws se tr ow tx)(lo f:By):Cl 15 #[.pointer (some ⟨bW,0,none⟩),.string ⟨lo.toArray⟩,.string ⟨f.toArray⟩] wr fun e w'=>e=.returned (.bool true)/\Ga w0 k bW w':=by
 have hb:∀w',Bw wr w'->Ga w0 k bW w':=fun w' g=>(h.below g).mid;obtain⟨g,r,d,i,a⟩:=h
 cases i with
 |shut i j o hz=>refine(Ay2 lo f g.st j (A00 x b m v wv lo f wr g.sys (by rw[i];rfl))).mono ?_;rintro e w' ⟨rfl,rfl⟩;exact⟨rfl,hb _ (Ah _ _)⟩
 |op bt bp p s T cs u j o c=>
  subst u;have n:=c.cm.fl;have t:=n;have y:=c.le;have w:=c.cm.len;have z:=c.cm.nn;rw[c.tree.flat]at n;refine(Ar5 lo f g.st j ?_ c.asc (by show s.length<=1000;omega) (by omega)).mono ?_
  ·have:=Akz x b bt bp m v wv _ _ lo f T cs wr c.cm.kit c.cm.op c.cm.sto c.cm.root c.cm.bl (by omega) t c.cm.row (by omega) c.tx.asc;rw[c.tree.flat,c.tx.fold c.asc]at this;exact this
  ·rintro e w' ⟨rfl,q⟩;exact⟨rfl,hb _ q⟩
end
theorem Aon {c:Ag}{cs cs':List Ag}(h:Lx c cs=some cs')(a:cs.length<=12):cs'.length<=12:=by
 unfold Lx at h;split at h
 ·cases h;rw[Ht];exact a
 ·split at h
  ·cases h
  ·cases h;have:=Ajw c.key cs;rw[Bb,Fh,Fr,Nw];omega
def Lf (a:Ag)(cs:List Ag):Nat:=if(Lx a cs).isNone then 7 else 0
section
variable {w0 wr:World}{k bW b:Nat}{x:DX}{m:DM}{v:VM}{wv:Value}{l:LS}{lv:Value}{may:Option (By×PL)}{ops:List Ag}{ss:List By}{pr:List Nat}{ws:List (Nat×By)}{se tr ow tx:List By}
def Adm (w0:World)(bW b:Nat)(x:DX)(m:DM)(v:VM)(wv:Value)(l:LS)(lv:Value)(may:Option (By×PL))(ops:List Ag)(ss:List By)(bt bp:Nat)(tk rk:By)(T:Ay)(cs:List Ag)(a:Ag)(w1:World):Prop:=
 ∃cs' cv,((Lx a cs=none/\cs'=cs)\/Lx a cs=some cs')/\GI w0 w1 bW b x m {v with cv:=cv} wv l lv may ops ss (bt::bp::cv.ownBlock.toList)/\In w1 x b bt bp m {v with cv:=cv} wv tk rk T cs'/\(cs'=[]->cv=.slice none 0 0)
theorem Ajk {bt bp:Nat}{p:By}{s:PL}{T:Ay}{cs:List Ag}(g:GI w0 wr bW b x m v wv l lv may ops ss (bt::bp::v.cv.ownBlock.toList))(d:Acs wr x b bt bp m v wv l ops se p s T cs){i w':World}(hb:Bw wr i){h:Ag}{e:Ending}(u:Sy h)(o:ChO i w' x b m v wv h cs e):
  e=.returned (.int .i64 (Lf h cs:Int))/\Adm w0 bW b x m v wv l lv may ops ss bt bp (Bn p v.salt) (Fc (Ge p v.salt)) T cs h w'/\Kp (Ir x b wv (bt::bp::v.cv.ownBlock.toList)) i w':=by
 have n:=g.below hb;have c1:=d.cm.below hb;rcases o with⟨a,rfl,k⟩|⟨cs',cv,a,rfl,N⟩
 ·exact⟨by simp[Lf,a],⟨cs,v.cv,.inl ⟨a,rfl⟩,n.below k,c1.below k,d.nil⟩,Kp.of_below k⟩
 ·have r:Kp (Ir x b wv (bt::bp::v.cv.ownBlock.toList)) i w':=Aej N.kp (fun j f=>by
   rcases Al.1 f with q|q
   ·exact .inl q
   ·exact .inr (Nb _ (Nb _ q)))
  have w:=d.le;have t:cs.length<=12:=by rw[d.tx.len];exact w
  have y:=Aon a t;refine⟨by simp[Lf,a],⟨cs',cv,.inr a,?_,?_,N.nil⟩,r⟩
  ·exact n.vault r N.sys (Cd.refl _ _) rfl (c1.priv n (by simp) N.kp.size (fun j f=>Hl N.row j f) N.own (fun j f=>by simp[f]))
  ·refine c1.note N.sys N.kp N.row (fun c o=>?_) (by omega) N.own;rcases(Ao4 d.tx.asc a).2 c|>.1 o with rfl|q
   ·exact u
   ·exact c1.ok c q.1
theorem Ana {w':World}{bt bp:Nat}{p:By}{i:PL}{T:Ay}{cs:List Ag}{e:Ag}(r:Gi l m.wrote.length ws se tr ow tx k k)(d:Nt m ss k)(a:l.ans=true)(w:may=some (p,i))(u:l.opened=true)(q:Lj m ws ow may)(f:Acs wr x b bt bp m v wv l ops se p i T cs)
  (h:Aad wr w' bW x.d b l lv may (Of (Lf e cs) e ops) (Adm w0 bW b x m v wv l lv may ops ss bt bp (Bn p v.salt) (Fc (Ge p v.salt)) T cs e) (Ir x b wv (bt::bp::v.cv.ownBlock.toList))):Ga w0 k bW w':=by
 obtain⟨w1,ov,⟨cs',cv,g,j,c1,t⟩,-,st,go⟩:=h.o;have o:=f.le
 have n:Kw cs' (Of (Lf e cs) e ops)/\(Of (Lf e cs) e ops).length<=12:=by
  rcases g with⟨g,rfl⟩|g
  ·have e1:Of (Lf e cs') e ops=ops:=by simp[Lf,g,Of]
   rw[e1];exact⟨f.tx,o⟩
  ·have e1:Of (Lf e cs) e ops=ops.filter (fun c=>c.key !=e.key)++[e]:=by simp[Lf,g,Of]
   rw[e1];have:=f.tx.note g;exact⟨this,by rw[<-this.len];exact Aon g (by rw[f.tx.len];exact o)⟩
 have s:Ix w1 x b m {v with cv:=cv} wv l may (Of (Lf e cs) e ops) ws se ow (bt::bp::cv.ownBlock.toList):=.op bt bp p i T cs' w u q ⟨c1,n.1,n.2,t,f.tree,f.dn,f.ba,f.pw,f.asc,f.sn⟩;exact Sf (j.law st go) (r.up.same rfl rfl rfl rfl rfl rfl rfl) d.skip (s.law j go rfl rfl rfl) a
theorem Aly (h:Kf w0 wr k bW b x m v wv l lv may ops ss pr ws se tr ow tx){w':World}{a:Ag}{e0:Nat}(h0:e0≠0)(c:Aad wr w' bW x.d b l lv may (Of e0 a ops) (fun w1=>Bw wr w1) []):Ga w0 k bW w':=by
 obtain⟨w1,ov,hb,-,st,go⟩:=c.o;have e1:Of e0 a ops=ops:=by simp[Of,h0]
 rw[e1]at st;exact(h.below hb).law st go (h.r.up.same rfl rfl rfl rfl rfl rfl rfl) rfl rfl rfl rfl
theorem Ap2 {cs:List Ag}{a:Ag}(d:l.opened=true)(h1:1<=a.key.length)(h:a.key.length<=8)(f:a.value.length<=16)(tx:Kw cs ops)(i:ops.length<=12):Rz l.opened a ops (Lf a cs):=by
 cases b:Lx a cs with
 |none=>
  have:=(tx.none_iff (c:=a) i).1 b;have e:Lf a cs=7:=by simp[Lf,b]
  rw[e];exact .full d h1 h f this.1 this.2
 |some cs'=>
  have e:Lf a cs=0:=by simp[Lf,b]
  rw[e];refine .ok d h1 h f (fun g=>?_);rw[(tx.none_iff (c:=a) i).2 g]at b;cases b
theorem Arc (h:Kf w0 wr k bW b x m v wv l lv may ops ss pr ws se tr ow tx)(key s:By):Cl 16 #[.pointer (some ⟨bW,0,none⟩),.agg #[Ac key,Ac s,.bool false]] wr fun e w'=>e=.returned (.bool true)/\Ga w0 k bW w':=by
 have A:=h;obtain⟨g,r,d,o,a⟩:=h
 have same:∀e0,e0≠0->ops.length<=12->Rz l.opened ⟨key,s,false⟩ ops e0->(∀f,Bw wr f->Cl 36 #[.pointer (some ⟨b,0,none⟩),.string ⟨key.toArray⟩,.string ⟨s.toArray⟩] f fun e w'=>e=.returned (.int .i64 (e0:Int))/\w'=f)->Cl 16 #[.pointer (some ⟨bW,0,none⟩),.agg #[Ac key,Ac s,.bool false]] wr fun e w'=>e=.returned (.bool true)/\Ga w0 k bW w':=fun e0 h0 z w C=>by
  refine(Aix ⟨key,s,false⟩ e0 (fun w1=>Bw wr w1) [] g.st z rfl (fun j q=>(by cases q)) w (fun f hb=>(C f hb).mono ?_)).mono ?_
  ·rintro e w' ⟨rfl,rfl⟩;exact⟨rfl,hb,Kp.refl _ _⟩
  ·rintro e w' ⟨rfl,n⟩;exact⟨rfl,Aly A h0 n⟩
 cases o with
 |shut o i u hz=>exact same 3 (by decide) (by simp[hz]) (.shut i) (fun f hb=>Aza x b m v wv key s f (g.below hb).sys (by rw[o];rfl))
 |op bt bp p D T cs y i u c=>
  by_cases hk:1<=key.length/\key.length<=8
  ·by_cases t:s.length<=16
   ·refine(Aix ⟨key,s,false⟩ (Lf ⟨key,s,false⟩ cs) (Adm w0 bW b x m v wv l lv may ops ss bt bp (Bn p v.salt) (Fc (Ge p v.salt)) T cs ⟨key,s,false⟩) _ g.st c.le rfl g.apart (Ap2 i hk.1 hk.2 t c.tx c.le) (fun f hb=>?_)).mono ?_
    ·have c1:=c.cm.below hb;refine(Auh x b m v wv key s cs f c1.kit.sys c1.op c1.row c.nil (by rw[c.tx.len];exact c.le) (fun j q=>(c1.cw j q).1.1) hk.1 hk.2 t).mono ?_;exact fun e w' n=>Ajk g c hb (fun _=>⟨hk.1,hk.2,t⟩) n
    ·rintro e w' ⟨rfl,n⟩;exact⟨rfl,Ana r d a y i u c n⟩
   ·exact same 5 (by decide) c.le (.long i hk.1 hk.2 (by show 16<s.length;omega)) (fun f hb=>Ara x b m v wv key s f (g.below hb).sys c.cm.op hk.1 hk.2 (by omega))
  ·exact same 4 (by decide) c.le (.key i hk) (fun f hb=>Au9 x b m v wv key s f (g.below hb).sys c.cm.op hk)
theorem At5 (h:Kf w0 wr k bW b x m v wv l lv may ops ss pr ws se tr ow tx)(key:By):Cl 16 #[.pointer (some ⟨bW,0,none⟩),.agg #[Ac key,Ac [],.bool true]] wr fun e w'=>e=.returned (.bool true)/\Ga w0 k bW w':=by
 have z:=h;obtain⟨g,r,d,o,a⟩:=h
 have same:∀e0,e0≠0->ops.length<=12->Rz l.opened ⟨key,[],true⟩ ops e0->(∀f,Bw wr f->Cl 35 #[.pointer (some ⟨b,0,none⟩),.string ⟨key.toArray⟩] f fun e w'=>e=.returned (.int .i64 (e0:Int))/\w'=f)->Cl 16 #[.pointer (some ⟨bW,0,none⟩),.agg #[Ac key,Ac [],.bool true]] wr fun e w'=>e=.returned (.bool true)/\Ga w0 k bW w':=fun e0 h0 y u A=>by
  refine(Akw ⟨key,[],true⟩ e0 (fun w1=>Bw wr w1) [] g.st y rfl (fun j s=>(by cases s)) u (fun f hb=>(A f hb).mono ?_)).mono ?_
  ·rintro e w' ⟨rfl,rfl⟩;exact⟨rfl,hb,Kp.refl _ _⟩
  ·rintro e w' ⟨rfl,i⟩;exact⟨rfl,Aly z h0 i⟩
 cases o with
 |shut o n t hz=>exact same 3 (by decide) (by simp[hz]) (.shut n) (fun f hb=>Av8 x b m v wv key f (g.below hb).sys (by rw[o];rfl))
 |op bt bp p C T cs w n t c=>
  by_cases hk:1<=key.length/\key.length<=8
  ·refine(Akw ⟨key,[],true⟩ (Lf ⟨key,[],true⟩ cs) (Adm w0 bW b x m v wv l lv may ops ss bt bp (Bn p v.salt) (Fc (Ge p v.salt)) T cs ⟨key,[],true⟩) _ g.st c.le rfl g.apart (Ap2 n hk.1 hk.2 (Cu _) c.tx c.le) (fun f hb=>?_)).mono ?_
   ·have c1:=c.cm.below hb;refine(Ayf x b m v wv key cs f c1.kit.sys c1.op c1.row c.nil (by rw[c.tx.len];exact c.le) (fun j s=>(c1.cw j s).1.1) hk.1 hk.2).mono ?_;exact fun e w' i=>Ajk g c hb (fun q=>(by cases q)) i
   ·rintro e w' ⟨rfl,i⟩;exact⟨rfl,Ana r d a w n t c i⟩
  ·exact same 4 (by decide) c.le (.key n hk) (fun f hb=>Axt x b m v wv key f (g.below hb).sys c.cm.op hk)
end
theorem Mj.look {m b:DM}{p salt:By}{place:Nat}{dig:By}{c:PL}{T:Ay}(h:Mj m p salt place dig c T)(f:b.count=m.count)(hb:b.blocks.length=m.blocks.length)(h2:2<=m.blocks.length)(d:∀a,a<m.blocks.length->b.look a=m.look a):Mj b p salt place dig c T:=
 ⟨h.s16,h.pl,by rw[f,d _ (by omega)];exact h.slot,h.dl,h.root,h.flat,fun v e1 e2=>(h.sto v e1 e2).keep hb rfl rfl (fun a _ e=>d a (Aa0 (h.sto v e1 e2) a e).2),h.cnt⟩
theorem Lj.look {m b:DM}{ws:List (Nat×By)}{ow:List By}{may:Option (By×PL)}(h:Lj m ws ow may)(c:b.count=m.count)(hb:b.blocks.length=m.blocks.length)(h2:2<=m.blocks.length)(d:∀a,a<m.blocks.length->b.look a=m.look a):Lj b ws ow may:=by
 refine⟨fun pass=>?_,fun e pass=>?_,fun p g e=>?_,?_⟩
 ·rw[c,d _ (by omega)];exact h.no pass
 ·rw[c,d _ (by omega)];exact h.nil e pass
 ·obtain⟨salt,place,dig,T,f⟩:=h.tree p g e;exact⟨salt,place,dig,T,f.look c hb h2 d⟩
 ·rw[c,d _ (by omega)];exact h.slh
section
variable {w0 wr:World}{k bW b:Nat}{x:DX}{m:DM}{v:VM}{wv:Value}{l:LS}{lv:Value}{may:Option (By×PL)}{ops:List Ag}{ss:List By}{pr:List Nat}{ws:List (Nat×By)}{se tr ow tx:List By}
theorem Aue (h:Kf w0 wr k bW b x m v wv l lv may ops ss pr ws se tr ow tx)(a:Ei)(ha:Qg a.a)(hk:∀i:Int,11<=i->i<=18->a.k≠i):Cl 18 #[.pointer (some ⟨bW,0,none⟩),.agg a.cells.toArray] wr fun e w'=>e=.returned (.tuple #[])/\Ga w0 k bW w':=by have c:=h.g.sys.disk.ge;refine(A0y a x.bb x.cb m.blocks.length h.g.st.at_ h.g.sys.disk.lt h.g.sys.disk.c0 (by omega) h.g.sys.disk.le ha hk).mono ?_;rintro e w' ⟨rfl,hb⟩;exact⟨rfl,(h.below hb).mid⟩
theorem In.setS {w w':World}{bt bp:Nat}{tk rk:By}{T:Ay}{cs:List Ag}{c:Value}{S:List Nat}(h:In w x b bt bp m v wv tk rk T cs)(d:Ai w' x b {m with sv:=c} v wv)(hk:Kp S w w')(a:∀j∈bt::bp::v.cv.ownBlock.toList,j∉S):In w' x b bt bp {m with sv:=c} v wv tk rk T cs:=
 ⟨⟨d,h.kit.tv,h.kit.pv,h.kit.mac.of_block (hk.block bt h.kit.mac.lt (a bt (by simp))),h.kit.key.of_block (hk.block bp h.kit.key.lt (a bp (by simp))) hk.size,h.kit.abt.step (Cd.refl _ _) hk.size,h.kit.abp.step (Cd.refl _ _) hk.size,h.kit.sl⟩,h.op,h.bl,h.sto.keep rfl rfl rfl (fun _ _ _=>rfl),h.root,h.pl,Bm h.row hk (fun j e=>a j (by simp[e])),h.ok,h.len,h.nn,h.fl,h.dn,h.se,h.ve,h.ct,h.wr,h.cw⟩
theorem Azx (h:Kf w0 wr k bW b x m v wv l lv may ops ss pr ws se tr ow tx)(L:k<65536)(i:Ei)(ha:Qg i.a)(hk:i.k=17):Cl 18 #[.pointer (some ⟨bW,0,none⟩),.agg i.cells.toArray] wr fun e w'=>e=.returned (.tuple #[])/\Ga w0 k bW w':=by
 have K:=h.g.sys.disk.ge;refine Axh i x.bb x.cb m.blocks.length (Ga w0 k bW) h.g.st.at_ h.g.sys.disk.lt h.g.sys.disk.c0 (by omega) h.g.sys.disk.le ha hk (fun I hb=>?_);have J:=h.d.sl;obtain⟨g,r,d,t,a⟩:=h.below hb;refine(A1o x m wv i.s ss I g.sys.disk g.sal (by omega) (fun j c q=>(g.nV j c).2.1.1 (Px q))).mono ?_;rintro e w' ⟨rfl,w,hd,o,n,H⟩;refine⟨rfl,?_⟩;have A:x.d∈Ai.set x b wv:=by simp[Ai.set,DX.set]
 have u:∀j,j∉x.set wv->m.sv.ownBlock≠some j->j∉x.d::m.sv.ownBlock.toList:=fun j h1 h2 q=>by
  simp only[Al,Bf]at q;rcases q with rfl|q
  ·exact h1 (by simp[DX.set])
  ·exact h2 q
 have s1:Ai w' x b {m with sv:=w} v wv:=
  ⟨hd,g.sys.vault.of_block (n.block b g.sys.vault.lt (u b g.sys.nb (fun e=>(g.nV b e).2.1.1 Qu))),n.cells g.sys.hk (u _ g.sys.nk.1 (fun e=>(g.nV _ e).2.1.2.1 rfl)),n.cells g.sys.h0 (u _ g.sys.n0.1 (fun e=>(g.nV _ e).2.1.2.2 rfl)),g.sys.nb,g.sys.nk,g.sys.n0⟩
 have C:∀j∈pr,j∉x.d::m.sv.ownBlock.toList:=fun j c=>u j (fun q=>(g.nP j c).2.1.1 (Px q)) (fun e=>(g.nV j e).2.2 c)
 have G:GI w0 w' bW b x {m with sv:=w} v wv l lv may ops (ss++[Ar i.s 16]) pr:=by
  refine g.gen n (fun j c=>?_) s1 (Cd.refl _ _) o (fun s o=>?_) (fun j c=>?_) (fun j c=>⟨.inl c,(g.nP j c).2.1,Eu (g.nP j c).2.2 n.size⟩)
  ·simp only[Al,Bf]at c;rcases c with rfl|q
   ·exact⟨g.nS _ A,(g.apart _ (Bl _ A)).1⟩
   ·exact⟨(g.nV j q).1,fun e=>(g.nL j e).2.2.2 q⟩
  ·rcases As.1 o with q|q
   ·exact g.s16 s q
   ·simp at q;subst q;exact Jm _ _
  ·rcases H j c with q|q
   ·exact .inl q
   ·exact .inr ⟨q,Ce.new g.sys q,fun e=>by have:=(g.nP j e).2.2;omega⟩
 have F:Nt {m with sv:=w} (ss++[Ar i.s 16]) (k+1):=⟨d.bl,by simp;omega,d.cc,by have:=d.wl;show m.wrote.length<=_;omega⟩;refine Sf G r.up F ?_ a;have z:Lj {m with sv:=w} ws ow may:=t.shutP.look rfl rfl (by omega) (fun _ _=>rfl)
 cases t with
 |shut t y o hz=>exact .shut t y z hz
 |op bt bp p D T cs E y o f=>exact .op bt bp p D T cs E y z ⟨f.cm.setS s1 n C,f.tx,f.le,f.nil,f.tree.look rfl rfl (by omega) (fun _ _=>rfl),f.dn,f.ba,f.pw,f.asc,f.sn⟩
theorem Asy (h:Kf w0 wr k bW b x m v wv l lv may ops ss pr ws se tr ow tx)(T:k<65536)(s:Ei)(ha:Qg s.a)(hk:s.k=18):Cl 18 #[.pointer (some ⟨bW,0,none⟩),.agg s.cells.toArray] wr fun e w'=>e=.returned (.tuple #[])/\Ga w0 k bW w':=by
 have R:=h.g.sys.disk.ge;have Q:=h.g.sys.disk.le;refine Av6 s x.bb x.cb m.blocks.length (Ga w0 k bW) h.g.st.at_ h.g.sys.disk.lt h.g.sys.disk.c0 (by omega) h.g.sys.disk.le ha hk (fun P hb=>?_);obtain⟨g,r,d,K,a⟩:=h.below hb;obtain⟨tv,L⟩:=r.r4;have V:=r.bx;have W:=r.bt;refine(Ayz x m wv tv tx g.st g.sys.disk (fun j c q=>(g.nL j c).2.1.1 (Px q)) L (by omega) d.cc).mono ?_;rintro e w' ⟨rfl,⟨p,o,n,C,st,I,J,u,E,M,D,go⟩⟩;refine⟨rfl,?_⟩;have hz:=g.bel.size;have t:∀j∈Hw bW l,j∈Gj bW l lv:=fun j c=>Bl _ c;have U:=g.sys.hk.lt;have S:=g.sys.h0.lt
 have F:∀j∈Ai.set p o n,P.heap.size<=j:=fun j c=>by
  rcases Al.1 c with rfl|q
  ·exact E
  ·exact u j q
 have z:∀q,q<m.blocks.length->(Fg m m.blocks.length m.blocks.length m.count m.blocks.length).look q=m.look q:=fun q f=>by rw[Alb m _ q _ _ f];exact Vh _ _ (d.bl q f)
 have y:(Fg m m.blocks.length m.blocks.length m.count m.blocks.length).blocks.length=m.blocks.length:=Aea m _ _ (Ak _);have A:(Fg m m.blocks.length m.blocks.length m.count m.blocks.length).wrote.length=m.blocks.length:=by simp[Fg,Xl]
 have s1:Ai w' p o (Fg m m.blocks.length m.blocks.length m.count m.blocks.length) Wi n:=
  ⟨I,J,go.kp.cells g.sys.hk (fun q=>(g.nL _ (t _ q)).2.1.2.1 rfl),go.kp.cells g.sys.h0 (fun q=>(g.nL _ (t _ q)).2.1.2.2 rfl),M,⟨fun q=>by have:=u _ q;omega,by omega⟩,⟨fun q=>by have:=u _ q;omega,by omega⟩⟩
 have O:GI w0 w' bW o p (Fg m m.blocks.length m.blocks.length m.count m.blocks.length) Wi n (l.moved C (tx++Fo m m.blocks.length) m.blocks.length) lv may [] [] []:=by
  refine⟨s1,st,.inl ⟨rfl,rfl⟩,fun _ N=>(by cases N),g.bel.trans (Kp.toBelow go.kp hz (fun j c=>(g.nL j (t j c)).1)),fun j c=>Hb hz (F j c),fun j c=>?_,fun j c=>(by cases c),fun j c=>(by cases c)⟩
  have w:j∉Ai.set p o n:=fun q=>by
   rcases Al.1 q with e|q
   ·exact(D j c).2 e
   ·exact(D j c).1 q
  rcases go.new j c with q|q
  ·exact⟨(g.nL j q).1,⟨w,(g.nL j q).2.1.2⟩,by simp,fun e=>(by cases e)⟩
  ·exact⟨by omega,⟨w,by omega,by omega⟩,by simp,fun e=>(by cases e)⟩
 refine Sf (se:=se) (tr:=tr) (tx:=tx++Fo m m.blocks.length) O ?_ ⟨fun q f=>?_,by simp,d.cc,?_⟩ (.shut rfl rfl (K.shutP.look rfl y (by omega) z) rfl) a
 ·refine r.to rfl rfl rfl ?_ r.r2 ⟨C,rfl⟩ r.lost (fun e H=>?_) r.t40 (by omega) ?_
  ·rw[A];rfl
  ·rcases As.1 H with q|q
   ·exact r.x256 e q
   ·simp only[Fo,Kj,List.mem_range]at q;obtain⟨i,G,rfl⟩:=q;exact d.bl i G
  ·simp[Fo];omega
 ·rw[y]at f;rw[z q f];exact d.bl q f
 ·rw[A];omega
end
theorem Afc (tk salt:By)(v p:Nat)(d:By):Ci tk salt v p d≠[]:=fun e=>by have:=Oj tk salt v p d;rw[e]at this;cases this
structure Xg (m m2:DM)(tk salt:By)(place:Nat)(dig:By):Prop where
 ct:m2.count=m.count+2
 ce:m2.ceiling=m.ceiling
 sv:m2.sv=m.sv
 bl:m2.blocks.length=m.blocks.length
 wr:m2.wrote=m.wrote++[((m.count+1)%2,Ci tk salt (m.count+1) place dig),((m.count+2)%2,Ci tk salt (m.count+2) place dig)]
 l2:∀a,2<=a->a<m.blocks.length->m2.look a=m.look a
 cur:m2.look (m2.count%2)=Ci tk salt (m.count+2) place dig
 oth:m2.look ((m2.count+1)%2)=Ci tk salt (m.count+1) place dig
theorem Ack (m:DM)(tk salt:By)(place:Nat)(dig:By)(b:m.cache.length=m.blocks.length)(h2:2<=m.blocks.length):Xg m (m.begin tk salt place dig) tk salt place dig:=by
 have e1:(m.advance (m.count+1) (Ci tk salt (m.count+1) place dig)).blocks.length=m.blocks.length:=Aay _ _ _;have e2:(m.advance (m.count+1) (Ci tk salt (m.count+1) place dig)).cache.length=m.blocks.length:=by simp[DM.advance,DM.settle,DM.flush,DM.write]
 refine⟨rfl,rfl,rfl,?_,?_,fun a h2 ha=>?_,?_,?_⟩
 ·unfold DM.begin;rw[Aay,Aay]
 ·show(m.wrote++[_])++[_]=_;rw[Cw];rfl
 ·unfold DM.begin;rw[Aap _ _ _ _ (by rw[e1];exact ha) (by omega),Aap _ _ _ _ ha (by omega)]
 ·show(m.begin tk salt place dig).look ((m.count+2)%2)=_;unfold DM.begin;exact Age _ _ _ (Afc _ _ _ _ _) (by rw[e1];omega) (by rw[e1,e2])
 ·show(m.begin tk salt place dig).look ((m.count+2+1)%2)=_;have e3:(m.count+2+1)%2=(m.count+1)%2:=by omega
  rw[e3];unfold DM.begin;rw[Aap _ _ _ _ (by rw[e1];omega) (by omega)];exact Age _ _ _ (Afc _ _ _ _ _) (by omega) b
theorem Xg.all {m m2:DM}{tk salt:By}{place:Nat}{dig:By}(B:Xg m m2 tk salt place dig)(b:∀p,p<m.blocks.length->(m.look p).length=256):∀p,p<m2.blocks.length->(m2.look p).length=256:=fun p a=>by
 rw[B.bl]at a;by_cases h:2<=p
 ·rw[B.l2 p h a];exact b p a
 ·have c:=B.ct;have:p=m2.count%2\/p=(m2.count+1)%2:=by omega
  rcases this with rfl|rfl
  ·rw[B.cur];exact Oj _ _ _ _ _
  ·rw[B.oth];exact Oj _ _ _ _ _
theorem Xg.shutP {m m2:DM}{p salt:By}{place:Nat}{dig:By}(B:Xg m m2 (Bn p salt) salt place dig){d:List (Nat×By)}{f:List By}{q:Option By}{t:By}(h:Rj d f m.count q t)(j:m.count+2<=1048576){b:PL}{T:Ay}(c:Mj m2 p salt place dig b T):Lj m2 (d++[((m.count+1)%2,Ci (Bn p salt) salt (m.count+1) place dig),((m.count+2)%2,Ci (Bn p salt) salt (m.count+2) place dig)]) (f++List.replicate 2 p) (some (p,b)):=by
 have a:=c.s16;refine⟨fun pass=>?_,fun e=>(by cases e),fun k g e=>?_,?_⟩
 ·rw[B.oth,B.ct];exact Aoe pass _ _ _ _ _ _ a (by omega) (by omega) (by omega)
 ·cases e;exact⟨salt,place,dig,T,c⟩
 ·rw[B.cur,B.ct];refine Rj.grow (pass:=p) h (by omega) (fun i hy=>?_) ⟨_,Nb _ Qu,rfl⟩ ⟨_,_,_,_,a,rfl⟩ (by omega) (by omega);simp only[Al,Cq,or_false]at hy;rcases hy with rfl|rfl
  ·exact .inr ⟨_,_,_,_,_,a,by omega,rfl⟩
  ·exact .inr ⟨_,_,_,_,_,a,by omega,rfl⟩
theorem Akf (c:Nat)(a b:By):Hi [((c+1)%2,a),((c+2)%2,b)]=[]:=by have h1:decide (2<=(c+1)%2)=false:=decide_eq_false (by omega);have h2:decide (2<=(c+2)%2)=false:=decide_eq_false (by omega);simp only[Hi,List.filter_cons,h1,h2];rfl
structure Ps (st st':Ax):Prop where
 se:st'.v.session=st.v.session
 wr:∃W,st'.m.wrote=st.m.wrote++W/\∀e∈W,2<=e.1/\e.2.length=256/\e.2.take 8=Af st.v.session 8
theorem Ps.refl (st:Ax):Ps st st:=⟨rfl,[],by simp,by simp⟩
theorem Ps.trans (a b c:Ax)(h:Ps a b)(k:Ps b c):Ps a c:=by obtain⟨W,h1,h2⟩:=h.wr;obtain⟨f,k1,i⟩:=k.wr;exact⟨k.se.trans h.se,W++f,by rw[k1,h1,Cw],fun e d=>(As.1 d).elim (h2 e) (fun g=>by rw[<-h.se];exact i e g)⟩
theorem Ax2 {rk:By}(c:rk.length=240)(leaf:Bool)(ems:List Gp)(st:Ax)(r:(Nat×By)×Ax)(hw:Nq rk leaf ems st=some r):Ps st r.2:=by
 unfold Nq at hw;split at hw
 ·cases hw
 ·rename_i q rest b;obtain⟨f1,f2,d⟩:=Zj (used:=st.v.used) (n:=st.m.blocks.length) (p:=q) (by rw[b];simp);cases hw;refine⟨rfl,[(q,_)],rfl,fun e a=>?_⟩;simp only[Al,Cq,or_false]at a;subst a;refine⟨f1,Ad6 rk leaf ems _ _ _ c,?_⟩;simp[Iv,Ll,Af]
theorem Axe {rk:By}(e:rk.length=240)(T:Ay)(st:Ax)(P:Nat)(b:By)(a:Ax)(hw:Un rk T st=some ((P,b),a)):Ps st a:=by
 cases T with
 |none=>cases hw;exact Ps.refl _
 |some q=>obtain⟨h,t⟩:=q;unfold Un at hw;simp only[Ig]at hw;obtain⟨⟨d,g⟩,f,c⟩:=hw;cases c;exact Ahm Ps Ps.refl Ps.trans (Ax2 e) h t st d _ f
theorem Awv {u:By}{s c:Nat}(h:u.take 8=Af s 8)(b:s<=1048576):Wr c u:=by
 left;have h1:(u.take 8).getD 0 1=u.getD 0 1:=by cases u<;>simp[List.getD]
 rw[<-h1,h];have a:s/256/256/256/256/256/256/256=0:=by omega
 simp[Af,a,List.getD]
theorem Alw:∀(n:Nat) (k:By),k.length<n->Op.bytesLess (List.replicate n 255) k=false
 |0,_,h=>by omega
 |n+1,[],_=>by simp[Op.bytesLess]
 |n+1,y::k,h=>by
  have ih:=Alw n k (by simpa using h)
  have hy:¬((255:UInt8)<y):=by have:=y.toNat_lt;rw[Qr];have e:(255:UInt8).toNat=255:=rfl;omega
  simp[Aai,Op.bytesLess,ih,hy]
theorem Akh:∀(h:Nat) (t:Nd h),Wf h t->∀e∈flat h t,e.1.length<=8
 |0,t,hw,e,a=>(hw e a).2.1
 |h+1,t,hw,e,a=>by obtain⟨c,b,a⟩:=Vz.1 a;exact Akh h c.2 (hw c b).1 e a
theorem Ax8 {T:Ay}(hr:Ep T):Bk [] hiK (Df T)=Df T:=by
 refine List.filter_eq_self.2 (fun e a=>?_)
 have b:e.1.length<=8:=by
  cases T with
  |none=>cases a
  |some q=>obtain⟨h,t⟩:=q;exact Akh h t hr.wf e a
 have h1:Op.bytesLess e.1 []=false:=by cases e.1<;>rfl
 have h2:Op.bytesLess hiK e.1=false:=Alw 9 e.1 (by omega);simp[Km,h1,h2]
theorem Adh {pass:By}{tr:List By}:pass∈Ky pass tr/\(∀e∈Ky pass tr,e∈tr\/e=pass)/\(Ky pass tr).length<=tr.length+1:=by
 unfold Ky;split
 ·rename_i h;exact⟨h,fun e a=>.inl a,Nat.le_succ _⟩
 ·refine⟨by simp,fun e a=>?_,by simp⟩;simpa using a
theorem Gi.tries {l l':LS}{n:Nat}{ws:List (Nat×By)}{se tr ow tx:List By}{k:Nat}{pass:By}{tv:Value}(h:Gi l n ws se tr ow tx k k)(b:pass.length<=40)(e0:l'.r0=l.r0)(e1:l'.r1=l.r1)(e3:l'.r3=l.r3)(c:l'.r4=l.r4)(e2:l'.r2=Cv tv (Ky pass tr))(en:l'.n=l.n)(el:l'.lost=l.lost):Gi l' n ws se (Ky pass tr) ow tx k (k+1):=by
 obtain⟨g,f,i,d⟩:=h.non;refine h.to e0 e1 e3 (en.trans (congrArg LS.n d)) ⟨tv,e2⟩ (h.r4.imp (fun _ h=>c.trans h)) (el.trans h.lost) h.x256 (fun e a=>?_) ?_ (by have:=h.bx;omega)
 ·rcases Adh.2.1 e a with q|rfl
  ·exact h.t40 e q
  ·exact b
 ·have:=(Adh (pass:=pass) (tr:=tr)).2.2;have:=h.bt;omega
theorem Gi.seal {l:LS}{n:Nat}{ws:List (Nat×By)}{se tr ow tx:List By}{d e:Nat}(h:Gi l n ws se tr ow tx d e):∃a,l.r1=Cv a se:=by obtain⟨f,c,g,b⟩:=h.non;exact⟨c,congrArg LS.r1 b⟩
theorem At3 (x:DX)(b:Nat)(m:DM)(v:VM)(wv:Value)(ss:List By)(w:World)(h:Ai w x b m v wv)(c:Iu w m.sv ss)(d:∀s∈ss,List.length s=16):
  ∃(g:By) (a:Value) (f:List By),g.length=16/\Iu w a f/\(∀j,a.ownBlock=some j->m.sv.ownBlock=some j)/\(∀s∈f,List.length s=16)/\f.length<=ss.length/\Cl 49 #[.pointer (some ⟨x.d,0,none⟩)] w fun e w'=>e=.returned (.tuple #[Ac g,.bool true])/\Ai w' x b {m with sv:=a} v wv/\Kp [x.d] w w':=by
 cases ss with
 |nil=>refine⟨List.replicate 16 0,m.sv,[],by simp,c,fun _ h=>h,d,Ak _,(Ays x m wv w h.disk c).mono ?_⟩;rintro e w' ⟨rfl,hb⟩;exact⟨rfl,h.later hb,Kp.of_below hb⟩
 |cons s ss=>obtain⟨a,i,k,l⟩:=Av2 x m wv s ss w h.disk c;refine⟨s,a,ss,d s Qu,i,k,fun e n=>d e (Nb _ n),by simp,l.mono ?_⟩;rintro e w' ⟨rfl,rfl⟩;exact⟨rfl,h.ofDisk ((Kp.refl _ w).setCell x.d 4 _ (.inl (by simp[DX.set]))) (h.disk.setS a) (Cd.refl _ _),(Kp.refl _ w).setCell x.d 4 _ (.inl (by simp))⟩
theorem Aij {w0 w1:World}{k bW b:Nat}{x:DX}{m:DM}{v:VM}{wv:Value}{l:LS}{lv:Value}{may:Option (By×PL)}{ops:List Ag}{ss:List By}{pr:List Nat}{ws a nw:List (Nat×By)}{se tr ow tx:List By}(f:GI w0 w1 bW b x m v wv l lv may ops ss pr)(hw:m.wrote=a++nw)(hr:Gi l a.length ws se tr ow tx k (k+1))(g:nw.length<=60)(d:∀e:Nat×By,e∈nw->e.2.length=256)(hd:Nt m ss (k+1))(c:Ix w1 x b m v wv l may ops (ws++nw) (se++Hi nw) (ow++List.replicate nw.length l.pass) pr)(ha:l.ans=true):Ga w0 k bW w1:=by
 have e1:m.wrote.drop a.length=nw:=by rw[hw];simp
 have e2:m.wrote.length-a.length=nw.length:=by rw[hw];simp
 exact⟨b,x,m,v,wv,l,lv,may,ops,ss,pr,ws,se,tr,ow,tx,a.length,f,hr,by rw[hw];simp,by rw[hw];simp;omega,by rw[e1];exact d,hd,by rw[e1,e2];exact c,ha⟩
theorem A0o (n a:Nat):(List.replicate n false).getD a false=false:=by rw[Ea,Ab6];split<;>rfl
def Aeg (salt:By)(bt bp c:Nat):VM:=⟨true,salt,.pointer (some ⟨bt,0,none⟩),.pointer (some ⟨bp,0,none⟩),c+2,c+2,0,0,[],List.replicate 48 false,.slice none 0 0⟩
def Aq5 (x:DX)(b:Nat)(m:DM)(wv:Value)(pass:By)(ss:List By)(c w1:World):Prop:=
 ∃(a:By) (e:Value) (d:List By) (f:Value) (bt bp:Nat),Iu w1 e d/\(∀j,e.ownBlock=some j->m.sv.ownBlock=some j)/\(∀s∈d,List.length s=16)/\d.length<=ss.length/\Hm w1 x b (({m with sv:=e}:DM).begin (Bn pass a) a 0 []) (Aeg a bt bp m.count) f bt bp (Bn pass a) (Fc (Ge pass a))/\Kp (Ai.set x b wv) c w1/\Cd wv f c.heap.size/\c.heap.size<=bt/\bt<bp
section
variable {w0 wr:World}{k bW b:Nat}{x:DX}{m:DM}{v:VM}{wv:Value}{l:LS}{lv:Value}{may:Option (By×PL)}{ops:List Ag}{ss:List By}{pr:List Nat}{ws:List (Nat×By)}{se tr ow tx:List By}
theorem GI.mutF (g:GI w0 wr bW b x m v wv l lv may ops ss pr){c:World}(hk:Kp (Hw bW l) wr c):Ai c x b m v wv/\Iu c m.sv ss:=
 ⟨g.sys.kp hk (fun j a=>(g.nL j (Bl _ a)).2.1),g.sal.kp hk (fun j a q=>(g.nL j (Bl _ q)).2.2.2 a)⟩
theorem A3c (g:GI w0 wr bW b x m Dr wv l lv may ops ss [])(r:Gi l m.wrote.length ws se tr ow tx k k)(d:Nt m ss k)(a:l.ans=true)(I:Lj m ws ow may)(Q:k<65536){pass:By}(C:pass.length<=40)(q:m.count+2<=m.ceiling){w':World}{o z:Value}
  (run:Abe wr w' bW x.d b l (l.tries pass o tr) {l.tries pass o tr with may:=z,opened:=true,ops:=.slice none 0 0,base:=se.length} lv (.slice none 0 0) may (some (pass,[])) ops [] (Aq5 x b m wv pass ss) (Ir x b wv [])):Ga w0 k bW w':=by
 obtain⟨S,w1,F,E,⟨f,n,T,t,bt,bp,L,J,K,N,kit,kp,lt,n1,n2⟩,-,st,go⟩:=run.o;have P:=g.sys.disk.ge;have R:=g.sys.disk.cl;have O:=d.wl;have i:=g.law F E;have B:=Ack {m with sv:=n} (Bn pass f) f 0 [] g.sys.disk.same (by show 2<=m.blocks.length;omega);have G:∀j∈Ai.set x b wv,w0.heap.size<=j/\j∉Gj bW (l.tries pass o tr) lv:=fun j h=>i.lowK j (Bl _ h)
 have u:=i.gen (pr':=bt::bp::(Value.slice none 0 0).ownBlock.toList) kp G kit.sys lt L K (fun j h=>.inl (J j h)) (fun j h=>by
  have H:j=bt\/j=bp:=by simpa [Value.ownBlock]using h
  rcases H with rfl|rfl
  ·exact⟨.inr n1,⟨kit.abt.2,(Ce.new i.sys n1).2⟩,kit.abt.1⟩
  ·exact⟨.inr (by omega),⟨kit.abp.2,(Ce.new i.sys (by omega)).2⟩,kit.abp.1⟩)
 have s:=B.all d.bl;have y:Mj (({m with sv:=n}:DM).begin (Bn pass f) f 0 []) pass f 0 [] [] none:=⟨kit.sl,by decide,B.cur,rfl,trivial,rfl,fun v e1 _=>e1,fun a _=>Cu _⟩;have A:=B.shutP I.slh (by show m.count+2<=_;omega) y;have p:=B.wr;have D:=B.ct
 have cm:In w1 x b bt bp (({m with sv:=n}:DM).begin (Bn pass f) f 0 []) (Aeg f bt bp m.count) t (Bn pass f) (Fc (Ge pass f)) none []:=
  ⟨kit,rfl,s,rfl,trivial,fun a _=>by show 0=one ((List.replicate 48 false).getD a false);rw[A0o];rfl,⟨rfl,.inl ⟨rfl,rfl⟩⟩,fun c q=>(by cases q),Cu _,Cu _,Cu _,Cu _,by show m.count+2<_;omega,by show m.count+2<_;omega,rfl,by rw[p];simp;omega,fun j h=>(by cases h)⟩
 have M:Ix w1 x b (({m with sv:=n}:DM).begin (Bn pass f) f 0 []) (Aeg f bt bp m.count) t {l.tries pass o tr with may:=z,opened:=true,ops:=.slice none 0 0,base:=se.length} (some (pass,[])) [] _ (se++Hi [((m.count+1)%2,Ci (Bn pass f) f (m.count+1) 0 []),((m.count+2)%2,Ci (Bn pass f) f (m.count+2) 0 [])]) _ (bt::bp::(Value.slice none 0 0).ownBlock.toList):=
  .op bt bp pass [] none [] rfl rfl A ⟨cm,Kw.nil,Cu _,fun _=>rfl,y,by rw[Akf];simp[Aeg],by simp,rfl,List.Pairwise.nil,by show m.count+2<=_;omega⟩
 refine Aij (u.law st go) p (r.tries C rfl rfl rfl rfl rfl rfl rfl) (by simp) (fun e w=>?_) ⟨s,by have:=d.sl;omega,by rw[D];exact q,by rw[p];simp;omega⟩ (M.law u go rfl rfl rfl) a;simp at w;rcases w with rfl|rfl
 ·exact Oj _ _ _ _ _
 ·exact Oj _ _ _ _ _
theorem A05 (h:Kf w0 wr k bW b x m v wv l lv may ops ss pr ws se tr ow tx)(K:k<65536)(pass:By):Cl 11 #[.pointer (some ⟨bW,0,none⟩),.string ⟨pass.toArray⟩] wr fun e w'=>e=.returned (.bool true)/\Ga w0 k bW w':=by
 have G:=h.mid;obtain⟨g,r,d,t,a⟩:=h;have U:=g.sys.disk.cl;have X:=d.cc;have V:=d.wl;have Z:=r.bt
 cases t with
 |op bt bp p S T cs W n w f=>refine(Atc pass m.count g.st n g.sys.disk.c2 (Avq x b m v wv pass wr g.sys f.cm.op)).mono ?_;rintro e w' ⟨rfl,rfl⟩;exact⟨rfl,G⟩
 |shut t n w hz=>
  subst t;by_cases f:pass.length<=40
  ·obtain⟨tv,F⟩:=r.r2;obtain⟨C,E⟩:=r.seal;by_cases H:m.count+2<=m.ceiling
   ·refine(Ai8 pass m.count m.ceiling 0 tv C tr se (Aq5 x b m wv pass ss) (Ir x b wv []) g.st n f F (by omega) E (by omega) g.sys.disk.c2 ?_ g.apart (.inl rfl) (fun c hk=>?_)).mono ?_
    ·rintro c w1 ⟨u,o,D,z,bt,bp,_,_,_,_,kit,_⟩;exact⟨kit.sys.disk.c3,kit.sys.disk.lt⟩
    ·obtain⟨i,O⟩:=g.mutF hk;obtain⟨u,o,D,y,I,A,Q,M,L⟩:=At3 x b m Dr wv ss c i O g.s16;refine(A1z x b m Dr wv pass c i rfl f H (by decide) (by omega) u y o L).mono ?_;rintro e w' ⟨rfl,z,bt,bp,s1,mac,key,abt,abp,kp,lt,n1,n2⟩;exact⟨rfl,⟨u,o,D,z,bt,bp,I.kp kp (fun j s q=>(g.nV j (A j s)).2.1.1 q),A,Q,M,⟨s1,rfl,rfl,mac,key,abt,abp,y⟩,kp,lt,n1,n2⟩,kp.mono (fun j s=>Bl _ s)⟩
    ·rintro e w' ⟨rfl,R,h0,-⟩;obtain⟨Y,run⟩:=h0 rfl;exact⟨rfl,A3c g r d a w K f H run⟩
   ·refine(Ai8 pass m.count m.ceiling 10 tv C tr se (fun c w1=>w1=c/\Ai c x b m Dr wv) (Ir x b wv []) g.st n f F (by omega) E (by omega) g.sys.disk.c2 ?_ g.apart (.inr ⟨rfl,by omega⟩) (fun c hk=>?_)).mono ?_
    ·rintro c w1 ⟨rfl,i⟩;exact⟨i.disk.c3,i.disk.lt⟩
    ·obtain⟨i,-⟩:=g.mutF hk;refine(A0l x b m Dr wv pass c i rfl f (by omega) (by omega)).mono ?_;rintro e w' ⟨rfl,rfl⟩;exact⟨rfl,⟨rfl,i⟩,Kp.refl _ _⟩
    ·rintro e w' ⟨rfl,R,-,h1⟩;obtain⟨c,w1,N,J,⟨rfl,-⟩,-,st,go⟩:=(h1 (by decide)).o;have P:=g.law N J;exact⟨rfl,Sf (P.law st go) (r.tries f rfl rfl rfl rfl rfl rfl rfl) d.skip (.shut rfl n w hz) a⟩
  ·refine(Awc pass m.count g.st n (by omega) g.sys.disk.c2 (Awf x b m Dr wv pass wr g.sys rfl (by omega))).mono ?_;rintro e w' ⟨rfl,rfl⟩;exact⟨rfl,G⟩
end
theorem Aom {T:Ay}(h:Ep T):Ba (Df T):=by
 cases T with
 |none=>exact List.Pairwise.nil
 |some q=>exact h.asc
theorem Aq7 {ws nw:List (Nat×By)}{ow:List By}{c:Nat}{p t pass:By}(h:Rj ws ow c (some p) t)(e:p≠pass)(f:(Jk (Bn pass (Bs t)) (t.take 61)==(t.drop 61).take 32)=true)(j:∀a∈nw,a.2.take 128≠t.take 128):Py (ws++nw) (ow++List.replicate nw.length pass) t pass=true:=by
 unfold Py;rw[if_neg]
 ·exact f
 ·rintro⟨i,k,a,d,hy,b,rfl⟩;rcases Hv i ws.length with g|g
  ·rw[Ja g]at hy;rw[Ja (by rw[h.len];exact g)]at d;have:=(h.own p rfl).2 i a hy b;rw[d]at this;exact e (by simpa using this.symm)
  ·rw[If g]at hy;exact j a (Hs hy) b
def Af2 (w0:World)(k bW:Nat)(w1:World):Prop:=∃b x m v wv l lv may ops ss pr ws se tr ow tx n0 t pass,GI w0 w1 bW b x m v wv l lv may ops ss pr/\Gi l n0 ws se tr ow tx k (k+1)/\n0<=m.wrote.length/\m.wrote.length<=n0+60/\(∀e:Nat×By,e∈m.wrote.drop n0->e.2.length=256)/\l.ans=true/\ow.length=ws.length/\(∃a∈ws,Prod.snd a=t)/\pass∈tr/\Py (ws++m.wrote.drop n0) (ow++List.replicate (m.wrote.length-n0) l.pass) t pass=true
def Afh (w0:World)(k bW:Nat)(w1:World):Prop:=∃b x m v wv l lv may ops ss pr ws se tr ow tx n t pass,GI w0 w1 bW b x m v wv l lv may ops ss pr/\Gi l n ws se tr ow tx (k+1) (k+1)/\l.ans=true/\ow.length=ws.length/\(∃a∈ws,Prod.snd a=t)/\pass∈tr/\Py ws ow t pass=true
theorem Au2 {w0 w1:World}{k bW:Nat}(hk:k<65536)(h:Af2 w0 k bW w1):Cl 19 #[.pointer (some ⟨bW,0,none⟩)] w1 fun e w'=>e=.returned (.bool true)/\Afh w0 k bW w':=by
 obtain⟨b,x,m,v,wv,l,lv,may,ops,ss,pr,ws,se,tr,ow,tx,n0,t,pass,a,hr,q,H,c,ha,C,hy,p,w⟩:=h;obtain⟨z,n,F,r⟩:=hr.non;have I:=hr.bw;have G:=hr.bs;refine(Ai9 x b bW m v wv l lv may ops ws se ow n0 z n F w1 a.sys (fun j E g=>(a.nL j g).2.1.1 E) a.st r q c (by omega) (by omega) (by omega)).mono ?_;rintro e w' ⟨rfl,o,i,u,d⟩;have f:m.wrote.take m.wrote.length=m.wrote:=Du (Ak _);have st:=d.st;have go:=d.go;rw[f]at st go;obtain⟨s,A,D⟩:=hy;refine⟨rfl,b,x,m,v,wv,_,lv,may,ops,ss,pr,_,_,tr,_,tx,_,t,pass,a.law st go,⟨⟨o,i,u,rfl⟩,hr.r2,hr.r4,hr.lost,fun e y=>?_,hr.x256,hr.t40,?_,?_,hr.bt,hr.bx⟩,ha,?_,⟨s,Bl _ A,D⟩,p,w⟩
 ·rcases As.1 y with g|g
  ·exact hr.w256 e g
  ·exact c e g
 ·simp only[Bb,Nw];omega
 ·have:=An3 (m.wrote.drop n0);simp only[Bb,Nw]at this⊢;omega
 ·simp[C]
theorem A21 {w0 w2:World}{k bW:Nat}(hk:k<65536)(F:1<w0.heap.size)(w:0<w0.heap.size)(h:Afh w0 k bW w2):w2.cell? ⟨bW,16,none⟩=some (.bool true)/\Cl 20 #[.pointer (some ⟨bW,0,none⟩)] w2 fun e w'=>e=.returned (.bool true)/\w'.cell? ⟨bW,7,none⟩=some (.bool false)/\w'.frozen? ⟨bW,7,none⟩=false/\Aal w0 (w'.setCell ⟨bW,7,none⟩ (.bool true)) bW:=by
 obtain⟨b,x,m,v,wv,l,lv,may,ops,ss,pr,ws,se,tr,ow,tx,n,t,pass,d,hr,ha,C,⟨I,y,E⟩,q,u⟩:=h;obtain⟨J,G,M,o⟩:=hr.non;obtain⟨tv,s⟩:=hr.r2;obtain⟨D,r⟩:=hr.r4;have L:=hr.bw;have K:=hr.bt;have H:=hr.bx;refine⟨by rw[d.st.at_.c 16,<-ha];rfl,?_⟩;have ww:=d.st.ww (congrArg LS.r0 o) s (congrArg LS.r3 o) r;obtain⟨i,p⟩:=List.mem_iff_getElem?.1 y;obtain⟨c,A⟩:=List.mem_iff_getElem?.1 q
 have z:(ws.map (·.2)++tx)[i]?=some t:=by rw[Ja (by rw[Fi];exact(Ds.1 p).1),Fq,p];exact congrArg some E
 refine(A1r bW _ tv _ D ws tr ow tx i c t pass w2 ww d.sys.hk d.sys.h0 hr.w256 hr.t40 C (by omega) (by omega) (by omega) hr.x256 z A u).mono ?_;rintro e w' ⟨rfl,hb⟩;have a:=d.below hb;have hz:=a.bel.size;have j:w0.heap.size<=bW:=(a.nL bW (Bl _ (Ey.2 (.inl rfl)))).1;have f:Kp [bW] w' (w'.setCell ⟨bW,7,none⟩ (.bool true)):=(Kp.refl _ w').setCell bW 7 _ (.inl (by simp));refine⟨rfl,by rw[a.st.at_.c 7,<-hr.lost];rfl,a.st.at_.fr 7,⟨⟨x.d,b,{l with lost:=true},a.st.at_.set 7 _ rfl,rfl⟩,a.bel.trans (f.toBelow hz (by simpa using j)),j,?_,?_,F,w⟩⟩
 ·exact f.cells a.sys.hk (fun g=>by simp at g;omega)
 ·exact f.cells a.sys.h0 (fun g=>by simp at g;omega)
def Yf (x:DX)(b bW:Nat)(m:DM)(wv:Value)(pass t:By)(u:List Bool)(a w1:World):Prop:=
 ∃(c:Value) (bt bp:Nat),Hm w1 x b (m.begin (Bn pass (Bs t)) (Bs t) (Eq t) (Lb t)) (VM.opU t bt bp m.count u) c bt bp (Bn pass (Bs t)) (Fc (Ge pass (Bs t)))/\Kp (Ai.set x b wv) a w1/\Cd wv c a.heap.size/\a.heap.size<=bt/\a.heap.size<=bp/\bW<a.heap.size/\Ce x b c bW
section
variable {w0 wr:World}{k bW b:Nat}{x:DX}{m:DM}{v:VM}{wv:Value}{l:LS}{lv:Value}{may:Option (By×PL)}{ops:List Ag}{ss:List By}{pr:List Nat}{ws:List (Nat×By)}{se tr ow tx:List By}
theorem Xg.sto {m2:DM}{tk salt:By}{place:Nat}{dig:By}(B:Xg m m2 tk salt place dig){rk:By}{v b:VM}{T:Ay}(h:Hy m rk v T)(e1:b.place=v.place)(e2:b.digest=v.digest):Hy m2 rk b T:=h.keep B.bl e1 e2 (fun a h2 c=>B.l2 a h2 (Aa0 h a c).2)
theorem Ame {pass t:By}{u:List Bool}(q:3<=m.blocks.length)(i:m.cache.length=m.blocks.length)(f:∀p,p<m.blocks.length->(m.look p).length=256){T:Ay}(hr:Ep T)(l:Gt T<=48)(d:∀v:VM,v.place=Eq t->v.digest=Lb t->Hy m (Fc (Ge pass (Bs t))) v T){n w1 a:World}(h:Yf x b bW m wv pass t u n w1)(hk:Kp [bW] w1 a):Ael b (Df T) a:=by obtain⟨k,bt,bp,kit,kp,lt,n1,n2,nb,e⟩:=h;have B:=Ack m (Bn pass (Bs t)) (Bs t) (Eq t) (Lb t) i (by omega);have g:=kit.kpF hk (fun j c=>by simp at c;subst c;exact⟨e,by omega,by omega⟩);have o:=Ads hr;have:=Akz x b bt bp _ _ k _ _ [] hiK T [] a g rfl (B.sto (d (VM.opU t bt bp m.count u) rfl rfl) rfl rfl) hr (B.all f) l (by omega) ⟨rfl,.inl ⟨rfl,rfl⟩⟩ (Cu _) List.Pairwise.nil;rw[List.foldl_nil,Ax8 hr]at this;exact this
theorem Ajd {pass t:By}{u:List Bool}{e w1:World}(d:GI w0 e bW b x m Dr wv l lv may ops ss [])(h:Yf x b bW m wv pass t u e w1):∃a bt bp,Hm w1 x b (m.begin (Bn pass (Bs t)) (Bs t) (Eq t) (Lb t)) (VM.opU t bt bp m.count u) a bt bp (Bn pass (Bs t)) (Fc (Ge pass (Bs t)))/\GI w0 w1 bW b x (m.begin (Bn pass (Bs t)) (Bs t) (Eq t) (Lb t)) (VM.opU t bt bp m.count u) a l lv may ops ss (bt::bp::(Value.slice none 0 0).ownBlock.toList):=by
 obtain⟨a,bt,bp,kit,kp,lt,n1,n2,nb,g⟩:=h;refine⟨a,bt,bp,kit,d.vault (kp.mono (fun j c=>Bl _ c)) kit.sys lt rfl (fun j c=>?_)⟩;have f:j=bt\/j=bp:=by simpa [Value.ownBlock]using c
 rcases f with rfl|rfl
 ·exact⟨.inr n1,⟨kit.abt.2,(Ce.new d.sys n1).2⟩,kit.abt.1⟩
 ·exact⟨.inr n2,⟨kit.abp.2,(Ce.new d.sys n2).2⟩,kit.abp.1⟩
theorem Alj {p:By}{b:PL}{salt:By}{place:Nat}{dig:By}{T:Ay}(a:Mj m p salt place dig b T)(hb:m.blocks.length<=48):∃u,Mu p m (m.look (m.count%2))=some u/\u.length=48/\Tp u T:=
 a.open hb {Dr with place:=place,digest:=dig} rfl rfl (fun e=>by
  have h:=a.sto {Dr with place:=place,digest:=dig} rfl rfl;have hd:=a.dl;subst e;have h0:place=0:=h;rw[if_pos h0]at hd
  exact hd)
theorem Az7 {p:By}{g:PL}{salt:By}{place:Nat}{dig:By}{T:Ay}{u:List Bool}{F w1 w':World}{i q sv:Value}(r:Gi l m.wrote.length ws se tr ow tx k k)(d:Nt m ss k)(a:l.ans=true)(M:Lj m ws ow (some (p,g)))(X:k<65536)(L:p.length<=40)(s:m.count+2<=m.ceiling)
  (h:GI w0 F bW b x m Dr wv (l.tries p i tr) lv (some (p,g)) ops ss []) (f:Mj m p salt place dig g T) (P:Mu p m (m.look (m.count%2))=some u) (N:Yf x b bW m wv p (m.look (m.count%2)) u F w1)
  (st:Bi w' bW x.d b {(l.tries p i tr).op se.length with may:=q} sv (some (p,g)) []) (go:Bu w1 w' bW (l.tries p i tr) {(l.tries p i tr).op se.length with may:=q} lv sv):Ga w0 k bW w':=by
 have V:=h.sys.disk.ge;have S:=h.sys.disk.le;have Y:=h.sys.disk.cl;have Q:=d.wl;obtain⟨W,E,Z,K⟩:=Alj f h.sys.disk.le;obtain⟨t,y,C⟩:=f.parts;rw[P]at E;cases E;obtain⟨A,bt,bp,kit,n⟩:=Ajd h N;rw[t,y,C]at kit n;have B:=Ack m (Bn p salt) salt place dig h.sys.disk.same (by omega);have w:=B.all d.bl;have o:=B.wr;have z:=B.ct;have G:Mj (m.begin (Bn p salt) salt place dig) p salt place dig g T:=⟨f.s16,f.pl,by rw[B.cur,z],f.dl,f.root,f.flat,fun v e1 e2=>B.sto (f.sto v e1 e2) rfl rfl,f.cnt⟩;have J:=B.shutP M.slh (by omega) G;have H:VM.opU (m.look (m.count%2)) bt bp m.count u=⟨true,salt,.pointer (some ⟨bt,0,none⟩),.pointer (some ⟨bp,0,none⟩),m.count+2,m.count+2,0,place,dig,u,.slice none 0 0⟩:=by unfold VM.opU;rw[t,y,C]
 rw[H]at kit n;have sto:=f.sto ⟨true,salt,.pointer (some ⟨bt,0,none⟩),.pointer (some ⟨bp,0,none⟩),m.count+2,m.count+2,0,place,dig,u,.slice none 0 0⟩ rfl rfl;have U:=Abn sto f.cnt;have R:=Ads f.root
 have cm:In w1 x b bt bp (m.begin (Bn p salt) salt place dig) ⟨true,salt,.pointer (some ⟨bt,0,none⟩),.pointer (some ⟨bp,0,none⟩),m.count+2,m.count+2,0,place,dig,u,.slice none 0 0⟩ A (Bn p salt) (Fc (Ge p salt)) T []:=
  ⟨kit,rfl,w,B.sto sto rfl rfl,f.root,K,⟨rfl,.inl ⟨rfl,rfl⟩⟩,fun c s=>(by cases s),Cu _,by omega,by omega,Cu _,by show m.count+2<_;omega,by show m.count+2<_;omega,rfl,by rw[o];simp;omega,fun j O=>(by cases O)⟩
 have I:Ix w1 x b (m.begin (Bn p salt) salt place dig) ⟨true,salt,.pointer (some ⟨bt,0,none⟩),.pointer (some ⟨bp,0,none⟩),m.count+2,m.count+2,0,place,dig,u,.slice none 0 0⟩ A {(l.tries p i tr).op se.length with may:=q} (some (p,g)) [] _ (se++Hi [((m.count+1)%2,Ci (Bn p salt) salt (m.count+1) place dig),((m.count+2)%2,Ci (Bn p salt) salt (m.count+2) place dig)]) _ (bt::bp::(Value.slice none 0 0).ownBlock.toList):=
  .op bt bp p g T [] rfl rfl J ⟨cm,Kw.nil,Cu _,fun _=>rfl,G,by rw[Akf];simp[LS.op],by simp[LS.op],rfl,f.flat▸Aom f.root,by show m.count+2<=_;omega⟩
 refine Aij (n.law st go) o (r.tries L rfl rfl rfl rfl rfl rfl rfl) (by simp) (fun e D=>?_) ⟨w,by have:=d.sl;omega,by rw[z];exact s,by rw[o];simp;omega⟩ (I.law n go rfl rfl rfl) a;simp at D;rcases D with rfl|rfl
 ·exact Oj _ _ _ _ _
 ·exact Oj _ _ _ _ _
end
theorem Lj.mayl {m:DM}{ws:List (Nat×By)}{ow:List By}{may:Option (By×PL)}(h:Lj m ws ow may)(hb:m.blocks.length<=48):(Ic may).length<=300:=by
 cases may with
 |none=>exact Cu _
 |some q=>obtain⟨p,b⟩:=q;obtain⟨salt,place,dig,T,a⟩:=h.tree p b rfl;have h1:=Abn (a.sto {Dr with place:=place,digest:=dig} rfl rfl) a.cnt;have h2:=Ads a.root;rw[a.flat]at h2;show b.length<=300;omega
theorem Are {pass:By}{m:DM}{t:By}{u:List Bool}(h:Mu pass m t=some u):Ew pass t m.count=true/\Mi (Fc (Ge pass (Bs t))) m (Eq t) (Lb t) Ns=some u:=by
 unfold Mu at h;split at h
 ·rename_i a;exact⟨a,h⟩
 ·cases h
theorem Ao3 {pass t:By}{c n:Nat}{tk salt d:By}{p:Nat}(g:t.length=256)(h:Ew pass t c=true)(a:salt.length=16)(i:c<256^8)(f:n<256^8)(b:n≠c):(Ci tk salt n p d).take 128≠t.take 128:=fun e=>by have h1:=congrArg (fun x:By=>(x.drop 20).take 8) e;simp only[Anx,Ae4 _ _ _ _ _ a,Aoz g h]at h1;exact b (Agl 8 n c f i h1)
section
variable {w0 wr:World}{k bW b:Nat}{x:DX}{m:DM}{v:VM}{wv:Value}{l:LS}{lv:Value}{may:Option (By×PL)}{ops:List Ag}{ss:List By}{pr:List Nat}{ws:List (Nat×By)}{se tr ow tx:List By}
theorem Aiu {pass:By}{w':World}{a:Value}(g:GI w0 wr bW b x m Dr wv l lv may ops ss [])(run:Abe wr w' bW x.d b l (l.tries pass a tr) (l.tries pass a tr) lv lv may may ops ops (fun _ w1=>Ai w1 x b m Dr wv) (Ir x b wv [])):GI w0 w' bW b x m Dr wv (l.tries pass a tr) lv may ops ss []:=by obtain⟨f,w1,d,e,s1,kp,st,go⟩:=run.o;exact((g.law d e).vault kp s1 (Cd.refl _ _) rfl (fun j c=>(by cases c))).law st go
theorem Ae3 {pass t:By}(g:GI w0 wr bW b x m Dr wv l lv may ops ss [])(d:Nt m ss k)(i:k<65536)(c:Lj m ws ow may)(h:pass.length<=40)(f:m.look (m.count%2)=t){a:World}(hk:Kp (Hw bW l) wr a):Cl 25 #[.pointer (some ⟨b,0,none⟩),.string ⟨pass.toArray⟩] a fun e w'=>OpO a w' x b m wv pass t e:=by have j:=d.wl;exact A4a x b m wv pass t a (g.mutF hk).1 h d.bl d.cc (by omega) f (c.no pass)
theorem Aok {w w':World}(h:Kp [b] w w'):Kp (Ir x b wv []) w w':=Aej h (fun j a=>.inl (by simpa using a))
theorem Avf (h:Kf w0 wr k bW b x m v wv l lv may ops ss pr ws se tr ow tx)(L:k<65536)(pass:By):∃ok,∀c,Bw wr c->Cl 12 #[.pointer (some ⟨bW,0,none⟩),.string ⟨pass.toArray⟩] c fun e w'=>e=.returned (.bool ok)/\(ok=true->Ga w0 k bW w')/\(ok=false->Af2 w0 k bW w'):=by
 have ah:∀c,Bw wr c->Ga w0 k bW c:=fun c hb=>(h.below hb).mid;obtain⟨g,r,d,W,a⟩:=h;have az:=g.sys.disk.cl;have Z:=g.sys.disk.le;have af:=g.sys.disk.ge;have V:=g.sys.disk.same;have a1:=d.cc;have aw:=d.wl;have a2:=r.bt
 cases W with
 |op bt bp p E T cs ax z n o=>refine⟨true,fun c hb=>(Aze pass m.count (g.below hb).st z (g.below hb).sys.disk.c2 (A2o x b m v wv pass c (g.below hb).sys o.cm.op)).mono ?_⟩;rintro e w' ⟨rfl,rfl⟩;exact⟨rfl,fun _=>ah _ hb,fun q=>(by cases q)⟩
 |shut W z n hz=>
  subst W;by_cases o:pass.length<=40
  ·obtain⟨tv,R⟩:=r.r2;obtain⟨P,Q⟩:=r.seal;have a0:=n.mayl Z;have H:(m.look (m.count%2)).length=256:=d.bl _ (by omega)
   cases w:Mu pass m (m.look (m.count%2))with
   |none=>
    refine⟨true,fun c hb=>(Adp pass m.count m.ceiling 8 [] tv P tr se (fun _ w1=>Ai w1 x b m Dr wv) (Ir x b wv []) (g.below hb).st z o R (by omega) Q (by omega) (by omega) (g.below hb).sys.disk.c2 (fun _ _ s=>s.disk.c3) (g.below hb).apart (.inr (.inr ⟨rfl,?_⟩)) (fun i hk=>(Ae3 (g.below hb) d L n o rfl hk).mono ?_) (fun q=>(by cases q))).mono ?_⟩
    ·cases may with
     |none=>rfl
     |some q=>obtain⟨p,E⟩:=q;obtain⟨salt,place,dig,T,t⟩:=n.tree p E rfl;obtain⟨u,f,-⟩:=Alj t Z;show(p==pass)=false;rw[beq_eq_false_iff_ne];rintro rfl;rw[w]at f;cases f
    ·intro e w' J
     cases J with
     |bad _ A s F=>exact⟨A,s,Aok F⟩
     |full u f _ _ _ _=>rw[w]at f;cases f
     |done u f _ _ _ _ _ _ _ _ _ _=>rw[w]at f;cases f
    ·rintro e w' ⟨rfl,Y,C,-⟩;exact⟨rfl,fun _=>Sf (Aiu (g.below hb) (C (by decide))) (r.tries o rfl rfl rfl rfl rfl rfl rfl) d.skip (.shut rfl z n hz) a,fun q=>(by cases q)⟩
   |some u=>
    obtain⟨O,aj⟩:=Are w
    cases may with
    |none=>rw[n.none_bad pass]at w;cases w
    |some q=>
     obtain⟨p,E⟩:=q;by_cases an:m.count+2<=m.ceiling
     ·have N:∀c,Bw wr c->∀i,Kp (Hw bW l) c i->Cl 25 #[.pointer (some ⟨b,0,none⟩),.string ⟨pass.toArray⟩] i fun e w'=>e=.returned (.int .i64 ((0:Nat):Int))/\Yf x b bW m wv pass (m.look (m.count%2)) u i w'/\Kp (Ir x b wv []) i w':=fun c hb i hk=>(Ae3 (g.below hb) d L n o rfl hk).mono fun e w' J=>by
       cases J with
       |bad f _ _ _=>rw[w]at f;cases f
       |full X f ab _ _ _=>omega
       |done X f _ A I bt bp kit F lt n1 n2=>rw[w]at f;cases f;have ad:bW<i.heap.size:=Eu (g.below hb).st.at_.lt hk.size;exact⟨A,⟨I,bt,bp,kit,F,lt,n1,n2,ad,((g.below hb).nL bW (Bl _ (Ey.2 (.inl rfl)))).2.1.later lt ad⟩,F.mono (fun j ap=>Bl _ ap)⟩
      by_cases K:p=pass
      ·subst K;obtain⟨salt,place,dig,T,t⟩:=n.tree p E rfl;obtain⟨ar,au,ak⟩:=t.parts;have G:Wt 0 (some (p,E)) p (Df T)=true:=by simp[Wt,Tz,t.flat]
       have aa:=Abn (t.sto {Dr with place:=place,digest:=dig} rfl rfl) t.cnt;refine⟨true,fun c hb=>(Adp p m.count m.ceiling 0 (Df T) tv P tr se (Yf x b bW m wv p (m.look (m.count%2)) u) (Ir x b wv []) (g.below hb).st z o R (by omega) Q (by omega) (by omega) (g.below hb).sys.disk.c2 ?_ (g.below hb).apart (.inl rfl) (N c hb) (fun _ i w1 D al hk=>?_)).mono ?_⟩
       ·rintro i w1 ⟨I,bt,bp,kit,_⟩;exact kit.sys.disk.c3
       ·exact Ame af V d.bl t.root (by omega) (fun v e1 e2=>by rw[ar];exact t.sto v (e1.trans au) (e2.trans ak)) D hk
       ·rintro e w' ⟨rfl,Y,-,C⟩;obtain⟨i,w1,U,S,D,kp,fd⟩:=C rfl;rw[G];obtain⟨ay,sv,st,go⟩:=fd.yes G;rw[t.flat]at st;exact⟨rfl,fun _=>Az7 r d a n L o an ((g.below hb).law U S) t w D st go,fun q=>(by cases q)⟩
      ·obtain⟨T,ao,aa,aq⟩:=Ayh aj;have G:Wt 0 (some (p,E)) pass (Df T)=false:=by simp[Wt,Tz,K]
       refine⟨false,fun c hb=>(Adp pass m.count m.ceiling 0 (Df T) tv P tr se (Yf x b bW m wv pass (m.look (m.count%2)) u) (Ir x b wv []) (g.below hb).st z o R (by omega) Q (by omega) (by omega) (g.below hb).sys.disk.c2 ?_ (g.below hb).apart (.inl rfl) (N c hb) (fun _ i w1 D al hk=>Ame af V d.bl ao aa aq D hk)).mono ?_⟩
       ·rintro i w1 ⟨I,bt,bp,kit,_⟩;exact kit.sys.disk.c3
       ·rintro e w' ⟨rfl,Y,-,C⟩;obtain⟨i,w1,U,S,D,kp,fd⟩:=C rfl;rw[G];obtain⟨st,go⟩:=fd.no G;refine⟨rfl,fun q=>(by cases q),fun _=>?_⟩;have ai:=(g.below hb).law U S;obtain⟨I,bt,bp,kit,M⟩:=Ajd ai D;have B:=Ack m (Bn pass (Bs (m.look (m.count%2)))) (Bs (m.look (m.count%2))) (Eq (m.look (m.count%2))) (Lb (m.look (m.count%2))) V (by omega);have ae:=B.wr;have ag:=Zl H;have ac:(m.begin (Bn pass (Bs (m.look (m.count%2)))) (Bs (m.look (m.count%2))) (Eq (m.look (m.count%2))) (Lb (m.look (m.count%2)))).wrote.drop m.wrote.length=[((m.count+1)%2,Ci (Bn pass (Bs (m.look (m.count%2)))) (Bs (m.look (m.count%2))) (m.count+1) (Eq (m.look (m.count%2))) (Lb (m.look (m.count%2)))),((m.count+2)%2,Ci (Bn pass (Bs (m.look (m.count%2)))) (Bs (m.look (m.count%2))) (m.count+2) (Eq (m.look (m.count%2))) (Lb (m.look (m.count%2))))]:=by rw[ae,List.drop_left]
        have av:(m.begin (Bn pass (Bs (m.look (m.count%2)))) (Bs (m.look (m.count%2))) (Eq (m.look (m.count%2))) (Lb (m.look (m.count%2)))).wrote.length=m.wrote.length+2:=by rw[ae];simp
        refine⟨b,x,_,_,I,_,lv,_,[],ss,_,ws,se,Ky pass tr,ow,tx,m.wrote.length,m.look (m.count%2),pass,M.law st go,r.tries o rfl rfl rfl rfl rfl rfl rfl,by omega,by omega,fun e A=>?_,a,n.slh.len,(n.slh.own p rfl).1,Adh.1,?_⟩
        ·rw[ac]at A;simp at A;rcases A with rfl|rfl
         ·exact Oj _ _ _ _ _
         ·exact Oj _ _ _ _ _
        ·rw[ac,av];have e2:m.wrote.length+2-m.wrote.length=2:=by omega
         rw[e2];refine Aq7 (nw:=[_,_]) n.slh K (Alo H O) (fun y hy=>?_);simp at hy;rcases hy with rfl|rfl
         ·exact Ao3 H O ag (by omega) (by omega) (by omega)
         ·exact Ao3 H O ag (by omega) (by omega) (by omega)
     ·have N:∀c,Bw wr c->∀i,Kp (Hw bW l) c i->Cl 25 #[.pointer (some ⟨b,0,none⟩),.string ⟨pass.toArray⟩] i fun e w'=>e=.returned (.int .i64 ((10:Nat):Int))/\Ai w' x b m Dr wv/\Kp (Ir x b wv []) i w':=fun c hb i hk=>(Ae3 (g.below hb) d L n o rfl hk).mono fun e w' J=>by
       cases J with
       |bad f _ _ _=>rw[w]at f;cases f
       |full X f ab A s F=>exact⟨A,s,Aok F⟩
       |done X f ab _ _ _ _ _ _ _ _ _=>omega
      refine⟨p==pass,fun c hb=>(Adp pass m.count m.ceiling 10 [] tv P tr se (fun _ w1=>Ai w1 x b m Dr wv) (Ir x b wv []) (g.below hb).st z o R (by omega) Q (by omega) (by omega) (g.below hb).sys.disk.c2 (fun _ _ s=>s.disk.c3) (g.below hb).apart (.inr (.inl ⟨rfl,by omega⟩)) (N c hb) (fun q=>(by cases q))).mono ?_⟩;rintro e w' ⟨rfl,Y,C,-⟩;have M:=Aiu (g.below hb) (C (by decide));refine⟨rfl,fun _=>Sf M (r.tries o rfl rfl rfl rfl rfl rfl rfl) d.skip (.shut rfl z n hz) a,fun am=>?_⟩;have K:p≠pass:=by simpa using am
      refine⟨b,x,m,_,wv,_,lv,_,ops,ss,_,ws,se,Ky pass tr,ow,tx,m.wrote.length,m.look (m.count%2),pass,M,r.tries o rfl rfl rfl rfl rfl rfl rfl,Ak _,by omega,by simp,a,n.slh.len,(n.slh.own p rfl).1,Adh.1,?_⟩;have:=Aq7 (nw:=[]) n.slh K (Alo H O) (fun y hy=>(by cases hy));simpa using this
  ·refine⟨true,fun c hb=>(A16 pass m.count (g.below hb).st z (by omega) (g.below hb).sys.disk.c2 (Ar4 x b m Dr wv pass c (g.below hb).sys rfl (by omega))).mono ?_⟩;rintro e w' ⟨rfl,rfl⟩;exact⟨rfl,fun _=>ah _ hb,fun q=>(by cases q)⟩
end
structure A3q (m m2:DM)(n P:Nat)(slot:By)(W:List (Nat×By)):Prop where
 ct:m2.count=m.count+1
 ce:m2.ceiling=m.ceiling
 sv:m2.sv=m.sv
 bl:m2.blocks.length=m.blocks.length
 wr:m2.wrote=m.wrote++(W++[((m.count+1)%2,slot)])
 wl:W.length=n
 cur:m2.look (m2.count%2)=slot
 oth:m2.look ((m2.count+1)%2)=m.look (m.count%2)
 all:∀p,p<m2.blocks.length->(m2.look p).length=256
theorem Aol {rk tk:By}{T T':Ay}{m:DM}{v:VM}{st:Ax}{P:Nat}{b:By}(z:Zy rk T ⟨m,v⟩ st P b T')(r:rk.length=240)(h2:2<=m.blocks.length)(o:v.version=m.count)(n:∀p,p<m.blocks.length->(m.look p).length=256):∃W,A3q m (Kc tk P b st) (Gn T) P (Ci tk v.salt (m.count+1) P b) W/\∀e∈W,2<=e.1/\e.2.length=256/\e.2.take 8=Af v.session 8:=by
 obtain⟨W,g,q⟩:=(Axe r T ⟨m,v⟩ P b st z.w).wr;obtain⟨u,k⟩:=z.vx.v;obtain⟨c1,c2,c3⟩:=z.vx.c;have s:=z.vx.w;have e1:st.v.version=m.count:=by rw[k];exact o
 have e2:st.v.salt=v.salt:=by rw[k]
 have hb:st.m.blocks.length=m.blocks.length:=congrArg List.length z.vx.b;have f:st.m.flush.blocks.length=m.blocks.length:=by simp[DM.flush,hb]
 have t:st.m.flush.cache.length=st.m.flush.blocks.length:=by simp[DM.flush]
 have l:∀a,a<m.blocks.length->st.m.flush.look a=st.m.look a:=fun a ha=>st.m.look_flush a (by rw[hb];exact ha)
 have j:(Kc tk P b st).look ((m.count+1)%2)=Ci tk v.salt (m.count+1) P b:=by unfold Kc;rw[e1,e2];exact Age _ _ _ (Afc _ _ _ _ _) (by rw[f];omega) t
 have i:∀a,a<m.blocks.length->(m.count+1)%2≠a->(Kc tk P b st).look a=st.m.look a:=fun a ha c=>by unfold Kc;rw[e1,Aap _ _ _ _ (by rw[f];exact ha) c,l a ha]
 have d:(Kc tk P b st).count=m.count+1:=by show st.m.count+1=_;rw[c1]
 have h:(Kc tk P b st).blocks.length=m.blocks.length:=by unfold Kc;rw[Aay,f]
 refine⟨W,⟨d,c2,c3,h,?_,?_,by rw[d];exact j,?_,fun a ha=>?_⟩,q⟩
 ·show st.m.wrote++[_]=_;rw[g,Cw,e1,e2]
 ·rw[g,Bb]at s;have:(⟨m,v⟩:Ax).m.wrote.length=m.wrote.length:=rfl;omega
 ·rw[d];have e3:(m.count+1+1)%2=m.count%2:=by omega
  rw[e3,i _ (by omega) (by omega)];exact(z.x.lk _).1 (by omega)
 ·rw[h]at ha;by_cases c:(m.count+1)%2=a
  ·rw[<-c,j];exact Oj _ _ _ _ _
  ·rw[i a ha c];exact(z.x.lk a).2 (n a ha)
theorem Azg {W:List (Nat×By)}{c:Nat}{t:By}(h:∀e∈W,2<=e.1):(Hi (W++[((c+1)%2,t)])).length=W.length:=by have h1:decide (2<=(c+1)%2)=false:=decide_eq_false (by omega);unfold Hi;rw[Fi,Xw,List.filter_eq_self.2 (fun e a=>by simpa using h e a)];simp[h1]
section
variable {w0 wr:World}{k bW b:Nat}{x:DX}{m:DM}{v:VM}{wv:Value}{l:LS}{lv:Value}{may:Option (By×PL)}{ops:List Ag}{ss:List By}{pr:List Nat}{ws:List (Nat×By)}{se tr ow tx:List By}
def Ap5 (x:DX)(b bt bp:Nat)(m:DM)(v:VM)(wv:Value)(tk rk:By)(T:Ay)(cs:List Ag)(w w1:World):Prop:=
 ∃(P:Nat) (a:By) (st:Ax) (T':Ay) (c:Value),Zy rk (Bt ⟨T,[],false⟩ cs).top ⟨m,v⟩ st P a T'/\Hm w1 x b (Kc tk P a st) {Ut P a st (Bt ⟨T,[],false⟩ cs).rl with cv:=.slice none 0 0} c bt bp tk rk/\Kp (Ai.set x b wv) w w1/\Cd wv c w.heap.size
theorem Axv {bt bp:Nat}{p:By}{n:PL}{T:Ay}{cs:List Ag}{w1 w':World}{O Z:Value}(g:GI w0 wr bW b x m v wv l lv (some (p,n)) ops ss (bt::bp::v.cv.ownBlock.toList))(r:Gi l m.wrote.length ws se tr ow tx k k)(d:Nt m ss k)(a:l.ans=true)(a4:k<65536)(ai:l.opened=true)(ao:Lj m ws ow (some (p,n)))(f:Acs wr x b bt bp m v wv l ops se p n T cs)(w:Ku m v (Gn (Bt ⟨T,[],false⟩ cs).top)=0)
  (ah:Ap5 x b bt bp m v wv (Bn p v.salt) (Fc (Ge p v.salt)) T cs wr w1) (ak:Bi w' bW x.d b {l with may:=Z,ops:=.slice none 0 0} O (some (p,ops.foldl Ca n)) []) (go:Bu w1 w' bW l {l with may:=Z,ops:=.slice none 0 0} lv O):Ga w0 k bW w':=by
 obtain⟨P,i,st,T',M,z,kit,kp,lt⟩:=ah;have a1:=g.sys.disk.ge;have az:=g.sys.disk.le;have a5:=g.sys.disk.cl;have ba:=d.wl;have ae:=f.cm.ct;have Q:=f.cm.fl;have a8:=f.cm.len;have ar:=f.sn;have a9:=f.dn;have a0:=f.ba
 have bb:m.count<m.ceiling/\v.done+Gn (Bt ⟨T,[],false⟩ cs).top<=40:=by
  unfold Ku at w;split at w
  ·cases w
  ·split at w
   ·cases w
   ·exact⟨by omega,by omega⟩
 obtain⟨W,S,E⟩:=Aol (tk:=Bn p v.salt) z (Acn _ (Ag0 _ _)) (by omega) ae d.bl;obtain⟨u,au⟩:=z.vx.v;have aj:st.v.opened=v.opened/\st.v.salt=v.salt/\st.v.session=v.session/\st.v.version=v.version/\st.v.done=v.done+Gn (Bt ⟨T,[],false⟩ cs).top:=by rw[au];exact⟨rfl,rfl,rfl,rfl,rfl⟩
 obtain⟨u1,u2,u3,u4,u5⟩:=aj;have A:=S.ct
 have X:Tp (Mz (Bt ⟨T,[],false⟩ cs).rl st.v.used) T':=f.cm.pl.save (fun a ha=>by
  have:=Af0 a ha cs ⟨T,[],false⟩ f.cm.ok f.cm.root
  simpa using this) z.nx.mono z.cn
 have aa:∀a,2<=a->Fj a T'<=1:=fun a ha=>by rw[X a ha];unfold one;split<;>omega
 have o:=z.saved (tk:=Bn p v.salt) (Bt ⟨T,[],false⟩ cs).rl
 have U:Df T'=ops.foldl Ca n:=by rw[z.fl,(Zo ⟨T,[],false⟩ cs 300 f.cm.ok f.cm.root Q (by omega)).2.1];show cs.foldl Ca (Df T)=_;rw[f.tree.flat,f.tx.fold f.asc]
 have R:P<256/\(if P=0 then i=[]else i.length=32):=by
  cases J:T' with
  |none=>
   rw[J]at o;have h0:P=0:=o;have hw:=z.w
   cases G:(Bt ⟨T,[],false⟩ cs).top with
   |none=>rw[G]at hw;cases hw;exact⟨by decide,rfl⟩
   |some q=>exfalso;have L:=z.fl;rw[J,G]at L;have K:=(Zo ⟨T,[],false⟩ cs 300 f.cm.ok f.cm.root Q (by omega)).1;rw[G]at K;obtain⟨h,t⟩:=q;exact Amf h t K.wf K.ne L.symm
  |some q=>
   obtain⟨h,t⟩:=q;rw[J]at o;obtain⟨an,af,av⟩:=o;have aw:=Oi av;have bc:P=t.place:=an;have ap:i=t.dig:=af;obtain⟨H,al,I⟩:=aw;rw[S.bl]at al;refine⟨by omega,?_⟩;rw[if_neg (by omega),ap];unfold Nu at I;split at I
   ·rename_i e;rw[<-e];exact Yg _
   ·cases I
 have V:Mj (Kc (Bn p v.salt) P i st) p v.salt P i (ops.foldl Ca n) T':=⟨f.tree.s16,R.1,by rw[S.cur,A],R.2,z.root,U,fun a6 e1 e2=>o.keep rfl e1 e2 (fun _ _ _=>rfl),aa⟩
 have ac:Lj (Kc (Bn p v.salt) P i st) (ws++(W++[((m.count+1)%2,Ci (Bn p v.salt) v.salt (m.count+1) P i)])) (ow++List.replicate (W++[((m.count+1)%2,Ci (Bn p v.salt) v.salt (m.count+1) P i)]).length p) (some (p,ops.foldl Ca n)):=by
  refine⟨fun pass=>?_,fun e=>(by cases e),fun be ay e=>?_,?_⟩
  ·rw[S.oth,A,f.tree.slot];exact Aoe pass _ _ _ _ _ _ f.tree.s16 (by omega) (by omega) (by omega)
  ·cases e;exact⟨v.salt,P,i,T',V⟩
  ·rw[S.cur,A];refine Rj.grow (pass:=p) ao.slh (by omega) (fun y hy=>?_) ⟨_,Bg _ Qu,rfl⟩ ⟨_,_,_,_,f.tree.s16,rfl⟩ (by omega) (by omega);rcases As.1 hy with q|q
   ·exact Awv (E y q).2.2 ar
   ·simp at q;subst q;exact .inr ⟨_,_,_,_,_,f.tree.s16,Ak _,rfl⟩
 have a2:=Abn o aa;have a3:=Ads z.root;have bd:=S.bl;have D:=S.wr;have a7:=S.wl
 have cm:In w1 x b bt bp (Kc (Bn p v.salt) P i st) {Ut P i st (Bt ⟨T,[],false⟩ cs).rl with cv:=.slice none 0 0} M (Bn p v.salt) (Fc (Ge p v.salt)) T' []:=
  ⟨kit,u1.trans f.cm.op,S.all,o.keep rfl rfl rfl (fun _ _ _=>rfl),z.root,X,⟨rfl,.inl ⟨rfl,rfl⟩⟩,fun c aq=>(by cases aq),Cu _,by omega,by omega,by show st.v.done<=40;omega,by show st.v.session<_;omega,by show st.v.version+1<_;omega,by show st.v.version+1=_;omega,by rw[D];simp;omega,fun j s=>(by cases s)⟩
 have C:bt∈bt::bp::v.cv.ownBlock.toList/\bp∈bt::bp::v.cv.ownBlock.toList:=by simp
 have H:=g.vault (pr':=bt::bp::(Value.slice none 0 0).ownBlock.toList) (kp.mono (fun j s=>Bl _ s)) kit.sys lt S.sv (fun j s=>by
  have am:j=bt\/j=bp:=by simpa [Value.ownBlock]using s
  rcases am with rfl|rfl
  ·exact⟨.inl C.1,⟨kit.abt.2,(g.nP _ C.1).2.1.2⟩,kit.abt.1⟩
  ·exact⟨.inl C.2,⟨kit.abp.2,(g.nP _ C.2).2.1.2⟩,kit.abp.1⟩)
 have ad:=Azg (W:=W) (c:=m.count) (t:=Ci (Bn p v.salt) v.salt (m.count+1) P i) (fun e F=>(E e F).1);have Y:({Ut P i st (Bt ⟨T,[],false⟩ cs).rl with cv:=.slice none 0 0}:VM).salt=v.salt:=u2
 have ax:Ix w1 x b (Kc (Bn p v.salt) P i st) {Ut P i st (Bt ⟨T,[],false⟩ cs).rl with cv:=.slice none 0 0} M l (some (p,ops.foldl Ca n)) [] _ (se++Hi (W++[((m.count+1)%2,Ci (Bn p v.salt) v.salt (m.count+1) P i)])) _ (bt::bp::(Value.slice none 0 0).ownBlock.toList):=
  .op bt bp p (ops.foldl Ca n) T' [] rfl ai ac ⟨by rw[Y];exact cm,Kw.nil,Cu _,fun _=>rfl,by rw[Y];exact V,by show st.v.done=_;rw[Bb,ad];omega,by rw[Bb];omega,f.pw,U▸Aom z.root,by show st.v.session<=_;omega⟩
 have ab:=ax.law H go rfl rfl rfl;refine Aij (H.law ak go) D (r.up.same rfl rfl rfl rfl rfl rfl rfl) (by simp;omega) (fun e F=>?_) ⟨S.all,by have:=d.sl;omega,by rw[A,S.ce];omega,by rw[D];simp;omega⟩ ?_ a
 ·rcases As.1 F with q|q
  ·exact(E e q).2.1
  ·simp at q;subst q;exact Oj _ _ _ _ _
 ·show Ix _ _ _ _ _ _ _ _ _ _ _ (ow++List.replicate _ l.pass) _;have ag:∀N,ow++List.replicate N l.pass=ow++List.replicate N p:=fun N=>by rw[f.pw]
  rw[ag];exact ab
theorem A3s (h:Kf w0 wr k bW b x m v wv l lv may ops ss pr ws se tr ow tx)(Z:k<65536):Cl 17 #[.pointer (some ⟨bW,0,none⟩)] wr fun e w'=>e=.returned (.bool true)/\Ga w0 k bW w':=by
 have R:∀K,Bw wr K->Ga w0 k bW K:=fun K hb=>(h.below hb).mid;obtain⟨g,r,d,F,a⟩:=h
 cases F with
 |shut F o H hz=>refine(Avt m.count g.st o g.sys.disk.c2 (Axz x b m v wv wr g.sys (by rw[F];rfl))).mono ?_;rintro e w' ⟨rfl,rfl⟩;exact⟨rfl,R _ (Ah _ _)⟩
 |op bt bp p n T cs ab o H f=>
  subst ab;obtain⟨E,G⟩:=r.seal;have Y:=g.sys.disk.ge;have ag:=g.sys.disk.le;have N:=f.cm.fl;have af:=N;have ai:=f.le;have ah:=r.bs;rw[f.tree.flat]at N;have J:∀j∈Ir x b wv (bt::bp::v.cv.ownBlock.toList),j∉Gj bW l lv:=fun j i=>(g.apart j i).1;have D:∀ {w w':World},Kp (Ai.set x b wv) w w'->Kp (Ir x b wv (bt::bp::v.cv.ownBlock.toList)) w w':=fun q=>q.mono (fun j i=>Bl _ i)
  cases u:(Bt ⟨T,[],false⟩ cs).ch with
  |false=>
   have ac:=(Anc cs ⟨T,[],false⟩ f.cm.ok f.cm.root u).2
   have aa:ops.foldl Ca n=n:=by rw[<-f.tx.fold f.asc,<-f.tree.flat];exact ac
   refine(Ae6 m.count m.ceiling m.blocks.length 0 p n E se (fun w1=>Hm w1 x b m {v with cv:=.slice none 0 0} wv bt bp (Bn p v.salt) (Fc (Ge p v.salt))/\Kp (Ai.set x b wv) wr w1) (Ir x b wv (bt::bp::v.cv.ownBlock.toList)) g.st o G (by omega) f.ba f.asc (by omega) (by omega) (by omega) g.sys.disk.c2 (fun w1 t=>⟨t.1.sys.disk.lt,t.1.sys.disk.c3,x.bb,x.cb,t.1.sys.disk.c0⟩) J .ok ((Ae5 x b bt bp m v wv _ _ T cs wr f.cm).mono fun e w' y=>?_)).mono ?_
   ·cases y with
    |same _ s kit kp=>exact⟨s,⟨kit,kp⟩,D kp⟩
    |full h1=>rw[u]at h1;cases h1
    |done h1=>rw[u]at h1;cases h1
   ·rintro e w' ⟨rfl,w1,⟨kit,kp⟩,-,C⟩;rcases C with⟨-,V,ad,st,go⟩|⟨h0,-⟩
    ·rw[aa]at st;have U:=g.vault (pr':=bt::bp::(Value.slice none 0 0).ownBlock.toList) (D kp) kit.sys (Cd.refl _ _) rfl (f.cm.priv g (by simp) kp.size (fun j i=>(by cases i)) (fun j i=>(by cases i)) (fun j i=>by simp[i]))
     have cm:In w1 x b bt bp m {v with cv:=.slice none 0 0} wv (Bn p v.salt) (Fc (Ge p v.salt)) T []:=
      ⟨kit,f.cm.op,f.cm.bl,f.cm.sto.keep rfl rfl rfl (fun _ _ _=>rfl),f.cm.root,f.cm.pl,⟨rfl,.inl ⟨rfl,rfl⟩⟩,fun c I=>(by cases I),Cu _,f.cm.nn,f.cm.fl,f.cm.dn,f.cm.se,f.cm.ve,f.cm.ct,f.cm.wr,fun j i=>(by cases i)⟩
     have ae:Ix w1 x b m {v with cv:=.slice none 0 0} wv l (some (p,n)) [] ws se ow (bt::bp::(Value.slice none 0 0).ownBlock.toList):=.op bt bp p n T [] rfl o H ⟨cm,Kw.nil,Cu _,fun _=>rfl,f.tree,f.dn,f.ba,f.pw,f.asc,f.sn⟩;exact⟨rfl,Sf (U.law st go) (r.up.same rfl rfl rfl rfl rfl rfl rfl) d.skip (ae.law U go rfl rfl rfl) a⟩
    ·exact absurd rfl h0
  |true=>
   by_cases A:Ku m v (Gn (Bt ⟨T,[],false⟩ cs).top)=0
   ·refine(Ae6 m.count m.ceiling m.blocks.length 0 p n E se (Ap5 x b bt bp m v wv (Bn p v.salt) (Fc (Ge p v.salt)) T cs wr) (Ir x b wv (bt::bp::v.cv.ownBlock.toList)) g.st o G (by omega) f.ba f.asc (by omega) (by omega) (by omega) g.sys.disk.c2 ?_ J .ok ((Ae5 x b bt bp m v wv _ _ T cs wr f.cm).mono fun e w' y=>?_)).mono ?_
    ·rintro w1 ⟨P,Q,st,T',M,z,kit,-,-⟩;obtain⟨W,S,-⟩:=Aol (tk:=Bn p v.salt) z (Acn _ (Ag0 _ _)) (by omega) f.cm.ct d.bl;have O:=kit.sys.disk.c3;have h0:=kit.sys.disk.c0;rw[S.ce]at O;rw[S.bl]at h0;exact⟨kit.sys.disk.lt,O,x.bb,x.cb,h0⟩
    ·cases y with
     |same h1=>rw[u]at h1;cases h1
     |full h1 c I hr=>rw[A]at hr;omega
     |done _ _ s P Q st T' M z kit kp lt=>exact⟨s,⟨P,Q,st,T',M,z,kit,kp,lt⟩,D kp⟩
    ·rintro e w' ⟨rfl,w1,t,-,C⟩;rcases C with⟨-,V,ad,st,go⟩|⟨h0,-⟩
     ·exact⟨rfl,Axv g r d a Z o H f A t st go⟩
     ·exact absurd rfl h0
   ·have L:=Axy f.cm.sto f.cm.pl f.cm.root f.cm.ok f.cm.fl f.cm.len f.cm.ct d.cc Y (Nat.pos_of_ne_zero A) rfl;rw[f.dn,f.tree.flat,f.tx.fold f.asc]at L;refine(Ae6 m.count m.ceiling m.blocks.length _ p n E se (fun w1=>Bw wr w1) (Ir x b wv (bt::bp::v.cv.ownBlock.toList)) g.st o G (by omega) f.ba f.asc (by omega) (by omega) (by omega) g.sys.disk.c2 (fun w1 hb=>⟨(g.below hb).sys.disk.lt,(g.below hb).sys.disk.c3,x.bb,x.cb,(g.below hb).sys.disk.c0⟩) J L ((Ae5 x b bt bp m v wv _ _ T cs wr f.cm).mono fun e w' y=>?_)).mono ?_
    ·cases y with
     |same h1=>rw[u]at h1;cases h1
     |full h1 c I hr s hb=>exact⟨by rw[s,<-hr],hb,Kp.of_below hb⟩
     |done _ hr=>exact absurd hr A
    ·rintro e w' ⟨rfl,w1,hb,-,C⟩;rcases C with⟨h0,-⟩|⟨-,-,X⟩
     ·exact absurd h0 A
     ·exact⟨rfl,R _ (hb.trans (X.mono hb.size))⟩
end
theorem Auf {w0 wr:World}{k n:Nat}{c:Ei}(N:1<w0.heap.size)(J:0<w0.heap.size)(G:Zh w0 k n wr)(hk:k<65536)(C:Tq c.k 6=false)(ha:Qg c.a):
  Cl 8 #[.pointer (some ⟨n,0,none⟩),.agg c.cells.toArray] wr fun e w'=>e=.returned (.bool true)/\Eg w0 (k+1) n w':=by
 rcases G with h|⟨b,x,m,v,wv,l,lv,may,ops,I,P,L,se,tr,S,tx,g,r,d,z,a⟩
 ·obtain⟨d,b,l,D,R⟩:=h.o;refine(At6 c D R).mono ?_;rintro e w' ⟨rfl,hb⟩;exact⟨rfl,((Eg.stay (k:=k) (.inl h) hb)).skip⟩
 ·have h:Kf w0 wr k n b x m v wv l lv may ops I P L se tr S tx:=⟨g,r,d,z,a⟩
  have o:∀f t u,Pz n c f t u->(∀j,Bw wr j->Cl f t j fun e w'=>e=.returned (Adb u true)/\Ga w0 k n w')->Cl 8 #[.pointer (some ⟨n,0,none⟩),.agg c.cells.toArray] wr fun e w'=>e=.returned (.bool true)/\Eg w0 (k+1) n w':=fun f t u p y=>by refine(Amm c f t u true (Ga w0 k n) (Zh w0 (k+1) n) (fun w=>Aal w0 w n) g.st.at_ r.lost p (fun _=>rfl) y (fun w1 s=>Aww hk s) (fun q=>(by cases q))).mono ?_;rintro e w' ⟨rfl,p,-⟩;exact⟨rfl,(p rfl).inv⟩
  by_cases e2:c.k=2
  ·exact o _ _ _ (.fmt e2) (fun j hb=>A05 (h.below hb) hk c.s)
  by_cases e3:c.k=3
  ·obtain⟨ok,y⟩:=Avf h hk c.s
   cases ok with
   |true=>exact o _ _ _ (.opn e3) (fun j hb=>(y j hb).mono (fun e w' q=>⟨q.1,q.2.1 rfl⟩))
   |false=>refine(Amm c _ _ false false (Af2 w0 k n) (Afh w0 k n) (fun w=>Aal w0 w n) g.st.at_ r.lost (.opn e3) (fun q=>(by cases q)) (fun j hb=>(y j hb).mono (fun e w' q=>⟨q.1,q.2.2 rfl⟩)) (fun w1 s=>Au2 hk s) (fun _ w2 s=>A21 hk N J s)).mono ?_;rintro e w' ⟨rfl,-,p⟩;exact⟨rfl,.inl (p rfl)⟩
  by_cases F:c.k=4
  ·exact o _ _ _ (.cls F) (fun j hb=>Amg (h.below hb) true)
  by_cases Q:c.k=5
  ·exact o _ _ _ (.get Q) (fun j hb=>Aw6 (h.below hb) c.s)
  by_cases M:c.k=6
  ·exact o _ _ _ (.scn M) (fun j hb=>Aya (h.below hb) c.s c.t)
  by_cases e7:c.k=7
  ·exact o _ _ _ (.put e7) (fun j hb=>Arc (h.below hb) c.s c.t)
  by_cases O:c.k=8
  ·exact o _ _ _ (.del O) (fun j hb=>At5 (h.below hb) c.s)
  by_cases e9:c.k=9
  ·exact o _ _ _ (.abt e9) (fun j hb=>Amg (h.below hb) false)
  by_cases H:c.k=10
  ·exact o _ _ _ (.com H) (fun j hb=>A3s (h.below hb) hk)
  have hh:∀i:Int,2<=i->i<=10->c.k≠i:=fun i h2 K e=>by omega
  have T:¬(11<=c.k/\c.k<17):=by simpa [Tq]using C
  by_cases E:c.k=17
  ·exact o _ _ _ (.hap hh) (fun j hb=>Azx (h.below hb) hk c ha E)
  by_cases A:c.k=18
  ·exact o _ _ _ (.hap hh) (fun j hb=>Asy (h.below hb) hk c ha A)
  exact o _ _ _ (.hap hh) (fun j hb=>Aue (h.below hb) c ha (fun i h2 K e=>by omega))
theorem A3d (w0:World)(os:List Ei)(hk:Br w0 1 .u32 Gk)(h0:Br w0 0 .u32 Jv)(m:∀b∈os,Qg b.a):Afj w0 os (Eg w0) where
 bel:=Eg.bel
 stay:=Eg.stay
 skip:=Eg.skip
 first:=fun wr hb=>Ant w0 48 100 wr 0 hb (by decide) (by decide) (by decide) (hk.below hb hk.lt) (h0.below hb h0.lt)
 world:=fun {k bW wr} a n c o i _ j=>Ant w0 n c wr (k+1) a.bel o i j a.consts.1 a.consts.2
 step:=fun {k bW wr b} a g f h _=>by obtain⟨x,q,e,p,r,l,d⟩:=a.ans;exact⟨x,q,e,p,r,l,d.inv.bel,Auf hk.lt h0.lt d f h (m b (Hs g))⟩
end Go.Proofs.YtojgilcdgccojaaGreatDoor
