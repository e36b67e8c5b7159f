import Derived.Laws.StructEq
import Derived.Test.YtojgilcdgccojaaGreatDoorAl
import Derived.Test.YtojgilcdgccojaaGreatDoorMAu
import Derived.Test.YtojgilcdgccojaaGreatDoorMAq
set_option linter.unusedSimpArgs false
set_option maxRecDepth 100000
set_option maxHeartbeats 8000000
namespace Go.Proofs.YtojgilcdgccojaaGreatDoor
open Go.RowKit
theorem Vn {w:World}{v:Value}{l:PL}(h:Do w v l)(h0:l≠[]):∃g cap,v=.slice (some ⟨g,0,none⟩) l.length cap/\∀i e,l[i]?=some e->w.cell? ⟨g,i*2,none⟩=some (Ac e.1)/\w.cell? ⟨g,i*2+1,none⟩=some (Ac e.2):=by obtain⟨g,cap,c,_,_,_,b,_⟩:=Rv Hz 2 Acv h h0;exact⟨g,cap,c,fun i e a=>⟨b i e a 0 (by decide),b i e a 1 (by decide)⟩⟩
theorem Axf (a b c d:By)(w:World):(Op.equalIn 10000 78 (.agg #[.string ⟨a.toArray⟩,.string ⟨b.toArray⟩]) (.agg #[.string ⟨c.toArray⟩,.string ⟨d.toArray⟩])).run Tryz.prog w=.ok (a==c&&b==d) w:=by
 have e:Tryz.prog.underlying 78=some (.struct (Tryz.prog.fieldsOf 78)):=by kernel_rfl
 rw[show(10000:Nat)=9999+1 from rfl,run_equalIn_struct w 9999 78 _ _ e (by kernel_rfl)];simp only[Program.fieldsOf,Tryz.underlying78]
 go_simp
 by_cases h1:a=c<;>by_cases h2:b=d<;>simp[h1,h2]
theorem Amy (L D:Value)(a b:PL)(w:World)(h1:Do w L a)(h2:Do w D b)(E:a.length<=100000):
  Cl 34 #[L,D] w fun e w'=>e=.returned (.bool (decide (a=b)))/\Bw w w':=by
 obtain⟨M,c1,rfl⟩:=Aao h1;obtain⟨R,c2,rfl⟩:=Aao h2;by_cases C:a.length=b.length
 ·have Y:=Aa (show a≠[]->∃g,M=some ⟨g,0,none⟩/\∀w',Bw w w'->∀i e,a[i]?=some e->w'.cell? ⟨g,i*2,none⟩=some (Ac e.1)/\w'.cell? ⟨g,i*2+1,none⟩=some (Ac e.2)from fun h0=>by
   obtain⟨g,cap,u,_⟩:=Vn h1 h0;cases u;refine⟨g,rfl,fun w' hb=>?_⟩;obtain⟨N,Z,p,x⟩:=Vn (h1.below hb) h0;cases p
   exact x)
  have O:=Aa (show b≠[]->∃g,R=some ⟨g,0,none⟩/\∀w',Bw w w'->∀i e,b[i]?=some e->w'.cell? ⟨g,i*2,none⟩=some (Ac e.1)/\w'.cell? ⟨g,i*2+1,none⟩=some (Ac e.2)from fun h0=>by
   obtain⟨g,cap,u,_⟩:=Vn h2 h0;cases u;refine⟨g,rfl,fun w' hb=>?_⟩;obtain⟨N,Z,p,x⟩:=Vn (h2.below hb) h0;cases p
   exact x)
  obtain⟨k,t⟩:=nmd (a.length);have s:b.length=k:=by omega
  have l:=Aa (Ab t s);have af:(k:Int)<=100000:=by omega
  rw[t,s];obtain⟨Q,q⟩:=nmd (decide (a=b));rw[q];have K:=Aa q;clear h1 h2 E C t s q;go_enter Tryz.func34,Tryz.ntmps34;go_wp2_with fail
  go_loopw [5] (fun i wr=>∃j:Nat,i=.int .i64 (j:Int)/\j<=k/\Bw w wr/\a.take j=b.take j) (fun i _=>(200000-intOf i).toNat)
  case atStart=>exact⟨0,rfl,Cu _,Ah _ _,by simp⟩
  case round=>
   obtain⟨j,rfl,ad,f,h⟩:=hrel;by_cases v:j<k
   ·have ae:(j:Int)<(k:Int):=by omega
    obtain⟨e1,c⟩:∃e,a[j]?=some e:=⟨a[j]'(by rw[l.o.1];exact v),Az _⟩;obtain⟨e2,d⟩:∃e,b[j]?=some e:=⟨b[j]'(by rw[l.o.2];exact v),Az _⟩;obtain⟨I,rfl,r⟩:=Y.o (by rintro rfl;simp at c);obtain⟨G,rfl,o⟩:=O.o (by rintro rfl;simp at d);have S:wr.cell? ⟨I,j*2,none⟩=some (Ac e1.1):=(r wr f j e1 c).1;have U:wr.cell? ⟨I,j*2+1,none⟩=some (Ac e1.2):=(r wr f j e1 c).2;have X:wr.cell? ⟨G,j*2,none⟩=some (Ac e2.1):=(o wr f j e2 d).1;have W:wr.cell? ⟨G,j*2+1,none⟩=some (Ac e2.2):=(o wr f j e2 d).2;have m:=Aa f;have F:=Aa (Ab c (Ab d h));clear r o c d h f;simp only[Ac]at S U X W;have ac:=Axf e1.1 e1.2 e2.1 e2.2;go_wp2_with fail;go_quiet (fail);go_wp2_with fail
    ·rename_i y;go_ret;refine⟨?_,Bp m.o _⟩;obtain⟨c,d,_⟩:=F.o
     have n:a≠b:=fun e=>by rw[e,d]at c;cases c;simp at y
     rw[<-K.o];simp[n]
    ·rename_i y;obtain⟨c,d,h⟩:=F.o;refine⟨⟨j+1,by first|rfl|push_cast;rfl,by omega,Bp m.o _,?_⟩,by simp only[intOf];omega⟩
     have P:e1=e2:=by obtain⟨H,J⟩:=y;simp at H J;exact Prod.ext H J
     rw[Nv,Nv,c,d,h,P]
   ·have V:j=k:=by omega
    subst V
    have z:a=b:=by rw[Du (by rw[l.o.1];exact Ak _),Du (by rw[l.o.2];exact Ak _)]at h;exact h
    have T:Q=true:=by rw[<-K.o];simpa using z
    subst T;have m:=Aa f;have aa:decide ((j:Int)<(j:Int))=false:=by simp
    clear h z f v;go_wp2_with fail;go_ret;exact⟨rfl,m.o⟩
 ·have n:decide (a=b)=false:=by simpa using fun e=>C (congrArg List.length e)
  rw[n];have ab:((a.length:Int)!=(b.length:Int))=true:=by simp;omega
  have ag:((a.length:Int)==(b.length:Int))=false:=by rw[beq_eq_false_iff_ne];omega
  clear h1 h2 E n;generalize a.length=A at*;generalize b.length=B at*;go_enter Tryz.func34,Tryz.ntmps34;go_wp2_with fail;go_ret;exact⟨rfl,Ah _ _⟩
def Gy (l:PL)(c:Ag)(i:Nat)(d:Bool):PL:=if d then Gw c.key (l.drop i)else Ca (l.drop i) c
theorem Amp {l:PL}{c:Ag}(h:Ba l):Ba (Ca l c):=by
 unfold Ca;split
 ·exact Aw3 h
 ·exact Agg h
theorem Ajv (k:By)(e:By×By)(l:PL):Gw k (e::l)=if e.1=k then Gw k l else e::Gw k l:=by unfold Gw;rw[List.filter_cons];by_cases h:e.1=k<;>simp[h]
section
variable {l:PL}{c:Ag}{i:Nat}{e:By×By}
theorem A3h (d:Bool)(a:l.length<i)(hd:d=true):Gy l c i d=[]:=by unfold Gy;rw[if_pos hd,Io (by omega)];rfl
theorem Aq2 (a:l[i]?=some e)(hk:(e.1==c.key)=true):Gy l c i true=Gy l c (i+1) true:=by unfold Gy;rw[if_pos rfl,if_pos rfl,Lg a,Ajv,if_pos (by simpa using hk)]
theorem Alp (a:l[i]?=some e)(hk:(e.1==c.key)=false):Gy l c i true=e::Gy l c (i+1) true:=by unfold Gy;rw[if_pos rfl,if_pos rfl,Lg a,Ajv,if_neg (by simpa using hk)]
theorem Ald (a:l.length<=i):Gy l c i true=Gy l c (i+1) true:=by unfold Gy;rw[if_pos rfl,if_pos rfl,Io a,Io (by omega)]
theorem Axl (d:c.gone=false)(b:l[i]?=some e)(hb:Op.bytesLess e.1 c.key=true):Gy l c i false=e::Gy l c (i+1) false:=by
 have a:∀q:PL,Ca q c=Eb c.key c.value q:=fun q=>by unfold Ca;rw[d,if_neg (by decide)]
 unfold Gy;rw[if_neg (by decide),if_neg (by decide),a,a,Lg b,Eb,if_pos (show Lt e.1 c.key from hb)]
theorem Avk (f:c.gone=false)(ha:Ba l)(b:l[i]?=some e)(hb:Op.bytesLess e.1 c.key=false):Gy l c i false=(c.key,c.value)::Gy l c i true:=by
 unfold Gy Ca;have d:¬Lt e.1 c.key:=by unfold Lt;rw[hb];decide
 have hd:Ba (l.drop i):=List.Pairwise.sublist (List.drop_sublist i l) ha;rw[if_neg (by decide),if_pos rfl,f,if_neg (by decide)]
 have h2:∀x r,l.drop i=x::r->¬Lt x.1 c.key:=fun x r a=>by rw[Lg b]at a;cases a;exact d
 rw[Ai0 _ _ _ h2,Ahr _ _ hd h2]
theorem Ayi (a:c.gone=false)(b:l.length<=i):Gy l c i false=(c.key,c.value)::Gy l c i true:=by unfold Gy Ca;rw[if_neg (by decide),if_pos rfl,a,if_neg (by decide),Io b];rfl
end
structure Qo (w wr:World)(r:Nat)(lv0:Value)(l:PL)(c:Ag)(lv:Value)(O:PL):Prop where
 bel:Bw w wr
 lr:Do wr lv0 l
 q:wr.heap[r]?=some (.cells #[Ac c.key,Ac c.value,.bool c.gone] 49 (0,0))
 orow:Do wr lv O
 own:∀j,lv.ownBlock=some j->w.heap.size<=j/\j≠r
 lt:(∀j,lv0.ownBlock=some j->j<w.heap.size)/\w.heap.size<=r
section
variable {w wr w':World}{r:Nat}{lv0:Value}{l:PL}{c:Ag}{lv:Value}{O:PL}
theorem Qo.below (h:Qo w wr r lv0 l c lv O)(hb:Bw wr w'):Qo w w' r lv0 l c lv O:=⟨h.bel.trans (hb.mono h.bel.size),h.lr.below hb,(hb.block r (lt_of_block h.q)).trans h.q,h.orow.below hb,h.own,h.lt⟩
theorem Qo.add (h:Qo w wr r lv0 l c lv O){d:By×By}{a:Option Addr}{cap:Nat}{w2:World}(A:Aba 68 78 Hz wr lv O d 2 a cap w2):Qo w w2 r lv0 l c (.slice a (O.length+1) cap) (O++[d]):=by
 have hz:=h.bel.size;refine⟨h.bel.trans (A.kp.toBelow hz (fun j b=>(h.own j (by simpa using b)).1)),Bm h.lr A.kp (fun j b g=>?_),(A.kp.block r (lt_of_block h.q) (fun g=>(h.own r (by simpa using g)).2 rfl)).trans h.q,A.row,fun j b=>?_,h.lt⟩
 ·have:=h.lt.1 j b;have:=(h.own j (by simpa using g)).1;omega
 ·rcases A.own j b with g|g
  ·exact h.own j g
  ·have:=lt_of_block h.q;exact⟨by omega,by omega⟩
theorem Qo.cells (h:Qo w wr r lv0 l c lv O):wr.cell? ⟨r,0,none⟩=some (Ac c.key)/\wr.cell? ⟨r,1,none⟩=some (Ac c.value)/\wr.cell? ⟨r,2,none⟩=some (.bool c.gone):=by
 refine⟨?_,?_,?_⟩
 all_goals (rw[cell_of_row _ _ _ _ _ _ h.q];rfl)
end
def WiI (w wr:World)(r:Nat)(lv0:Value)(l:PL)(c:Ag)(v:Value)(rest b:PL):Prop:=∃la ln a O,v=.slice la ln a/\Qo w wr r lv0 l c (.slice la ln a) O/\O++rest=b
theorem Qo.i {w wr:World}{r:Nat}{lv0:Value}{l:PL}{c:Ag}{lv:Value}{O rest b:PL}(h:Qo w wr r lv0 l c lv O)(d:O++rest=b):WiI w wr r lv0 l c lv rest b:=by obtain⟨a,c,rfl⟩:=Aao h.orow;exact⟨_,_,_,O,rfl,h,d⟩
theorem Ax0 (lv0:Value)(l:PL)(c:Ag)(w:World)(h:Do w lv0 l)(ha:Ba l)(a1:l.length<=100000):
  Cl 61 #[lv0,.agg #[Ac c.key,Ac c.value,.bool c.gone]] w fun e w'=>∃lv,e=.returned lv/\Do w' lv (Ca l c)/\(∀j,lv.ownBlock=some j->w.heap.size<=j)/\Bw w w':=by
 obtain⟨ai,c0,rfl⟩:=Aao h;obtain⟨w0,ac⟩:=nmd (w.alloc (.cells #[Ac c.key,Ac c.value,.bool c.gone] 49));have ap:Bw w w0:=ac▸(Ah _ _).alloc (Ak _) _;have Z:w0.heap[w.heap.size]?=some (.cells #[Ac c.key,Ac c.value,.bool c.gone] 49 (0,0)):=ac▸heap_alloc_new w _;obtain⟨r,hr⟩:=nmd (w.heap.size);have ad:Qo w w0 r (.slice ai l.length c0) l c (.slice none 0 0) []:=⟨ap,h.below ap,hr▸Z,Do.nil _,fun j X=>(by cases X),fun j X=>Hl h j X,by omega⟩
 have al:=Aa (show ∀(e:By×By) (i:Nat),l[i]?=some e->∃g,ai=some ⟨g,0,none⟩/\∀w',Do w' (.slice ai l.length c0) l->w'.cell? ⟨g,i*2,none⟩=some (Ac e.1)/\w'.cell? ⟨g,i*2+1,none⟩=some (Ac e.2)from fun e i A=>by
  obtain⟨g,cap,a8,_⟩:=Vn h (by rintro rfl;simp at A);cases a8;refine⟨g,rfl,fun w' a3=>?_⟩;obtain⟨be,bn,a4,bc⟩:=Vn a3 (by rintro rfl;simp at A);cases a4
  exact bc i e A)
 have a9:=ad.cells.2.2;obtain⟨x,ah⟩:=nmd (l.length);rw[ah]at ad al a1⊢;have U:=Aa (Ab ah ha);have bm:(x:Int)<=100000:=by omega
 obtain⟨R,af⟩:=nmd (Ca l c);rw[af]
 have ay:R.length<=x+1:=by
  rw[<-af,<-ah];unfold Ca;split
  ·have:=Afl c.key l;omega
  ·exact(Yi c.key c.value l).2
 have a2:Gy l c 0 c.gone=R:=by
  rw[<-af];unfold Gy;rw[List.drop_zero]
  cases bb:c.gone with
  |true=>unfold Ca;rw[if_pos rfl,if_pos bb]
  |false=>rfl
 have ar:=Aa (Ab ad a2);have a6:=Aa ay;have am:=Aa ac;clear h ha ah af ay a2 ap Z ad ac a1;simp only[Ac]at am;simp only[Ac];go_enter Tryz.func61,Tryz.ntmps61;go_wp2_with fail;rw[am.o];clear a9
 go_loopw [5,6,7] (fun v d i wr=>∃(j:Nat) (b:Bool),i=.int .i64 (j:Int)/\d=.bool b/\j<=x+1/\(b=false->c.gone=false)/\(j=x+1->b=true)/\WiI w wr r (.slice ai x c0) l c v (Gy l c j b) R) (fun _ _ i _=>(200000-intOf i).toNat)
 case atStart=>exact⟨0,c.gone,rfl,rfl,by omega,id,fun h=>by omega,ar.o.1.i ar.o.2⟩
 case round=>
  obtain⟨i,d,rfl,rfl,bi,ag,aj,la,ln,bk,O,rfl,S,C⟩:=hrel;clear ar am
  have G:O.length<=300000:=by have h1:=congrArg List.length C;have:=a6.o;rw[Bb]at h1;omega
  by_cases bd:i<=x
  ·have bl:(i:Int)<=(x:Int):=by omega
   cases d with
   |true=>
    clear ag aj;by_cases ab:i<x
    ·
     obtain⟨e,A⟩:∃e,l[i]?=some e:=⟨l[i]'(by rw[U.o.1];exact ab),Az _⟩;obtain⟨g,rfl,p⟩:=al.o e i A;have a5:(i:Int)<(x:Int):=by omega
     cases hk:(e.1==c.key)with
     |true=>have o:=C;rw[Aq2 A hk]at o;have z:=Aa (Ab S (Ab o G));have J:=Aa p;clear S C o p A G;go_wp2_with fail;go_quiet (fail);obtain⟨t,k⟩:=nmd (wr.drewN nq);rw[k];have y:Bw wr t:=k▸Bp (Ah _ _) nq;obtain⟨f,n,u⟩:=z.o;have a:=f.below y;have p:=J.o;have k0:=a.cells.1;have k1:=a.cells.2.1;simp only[Ac]at k0 k1;obtain⟨q,s⟩:=p _ a.lr;simp only[Ac]at q s;have H:=Aa (Ab a (Ab n u));clear f n u a z k y p;go_wp2_with fail;go_quiet (fail);have m:=Aa (Ab (H.o.1.below (Bp (Ah t.heap.size t) nq)) H.o.2.1);clear H;go_wp2_with fail;exact⟨⟨i+1,true,by first|rfl|push_cast;rfl,rfl,by omega,by first|(intro _;exact N.o)|(intro h;cases h),by first|(intro _;rfl)|(intro h;omega),m.o.1.i m.o.2⟩,by simp only[intOf];omega⟩
     |false=>
      have o:=C;rw[Alp A hk]at o;have z:=Aa (Ab S (Ab o G));have J:=Aa p;clear S C o p A G;go_wp2_with fail;go_quiet (fail);obtain⟨t,k⟩:=nmd (wr.drewN nq);rw[k];have y:Bw wr t:=k▸Bp (Ah _ _) nq;obtain⟨f,n,u⟩:=z.o;have a:=f.below y;have p:=J.o;have k0:=a.cells.1;have k1:=a.cells.2.1;simp only[Ac]at k0 k1;obtain⟨q,s⟩:=p _ a.lr;simp only[Ac]at q s;have H:=Aa (Ab a (Ab n u));clear f n u a z k y p;go_wp2_with fail;go_quiet (fail);obtain⟨W,L⟩:=nmd (t.drewN nq);rw[L];have T:Bw t W:=L▸Bp (Ah _ _) nq;obtain⟨f,n,u⟩:=H.o;have F:=f.below T;obtain⟨q,s⟩:=J.o _ F.lr;simp only[Ac]at q s;obtain⟨av,ao,P,E⟩:=Rx F.orow e (by omega);have I:=F.add E;have D:=E.run;have K:(O++[e])++Gy l c (i+1) true=R:=by rw[<-n,Cw];rfl
      generalize O.length+1=NL at*;have m:=Aa (Ab I K);simp only[Hz,Ac]at D;have Q:=Aa D;clear f n u F E I K D H L T k0 k1;go_wp2_with (at_builtin;refine Hr rfl _ _ rfl _ _ rfl rfl Q.o ?_);exact⟨⟨i+1,true,by first|rfl|push_cast;rfl,rfl,by omega,by first|(intro _;exact N.o)|(intro h;cases h),by first|(intro _;rfl)|(intro h;omega),m.o.1.i m.o.2⟩,by simp only[intOf];omega⟩
    ·
     have aa:i=x:=by omega
     have o:=C;rw[Ald (by rw[U.o.1];omega)]at o;have z:=Aa (Ab S (Ab o G));have ax:decide ((i:Int)<(i:Int))=false:=by simp
     subst aa;clear S C o G ab;go_wp2_with fail;go_quiet (fail);obtain⟨t,k⟩:=nmd (wr.drewN nq);rw[k];have y:Bw wr t:=k▸Bp (Ah _ _) nq;obtain⟨f,n,u⟩:=z.o;have a:=f.below y;have H:=Aa (Ab a (Ab n u));clear f n u a z k y;go_wp2_with fail;go_quiet (fail);have m:=Aa (Ab (H.o.1.below (Bp (Ah t.heap.size t) nq)) H.o.2.1);clear H;go_wp2_with fail;exact⟨⟨i+1,true,by first|rfl|push_cast;rfl,rfl,by omega,by first|(intro _;exact N.o)|(intro h;cases h),by first|(intro _;rfl)|(intro h;omega),m.o.1.i m.o.2⟩,by simp only[intOf];omega⟩
   |false=>
    have N:=Aa (ag rfl);clear ag aj;by_cases ab:i<x
    ·
     obtain⟨e,A⟩:∃e,l[i]?=some e:=⟨l[i]'(by rw[U.o.1];exact ab),Az _⟩;obtain⟨g,rfl,p⟩:=al.o e i A;have a5:(i:Int)<(x:Int):=by omega
     have bg:((i:Int)==(x:Int))=false:=by rw[beq_eq_false_iff_ne];omega
     have Y:=Mk c.key e.1;have ae:(Op.bytesLess c.key e.1||e.1==c.key)= !Op.bytesLess e.1 c.key:=by rw[<-Y];congr 1;exact Bool.beq_comm
     have k0:=S.cells.1;have k1:=S.cells.2.1;simp only[Ac]at k0 k1;obtain⟨q,s⟩:=p _ S.lr;simp only[Ac]at q s
     cases hb:Op.bytesLess e.1 c.key with
     |true=>
      rw[hb]at Y ae;simp only[Qy]at Y ae
      have hk:(e.1==c.key)=false:=by have h0:Lt e.1 c.key:=hb;simpa using h0.ne
      have o:=C;rw[Axl N.o A hb]at o;have z:=Aa (Ab S (Ab o G));have J:=Aa p;clear S C o p A G;go_wp2_with fail;go_quiet (fail);obtain⟨t,k⟩:=nmd (wr.drewN nq);rw[k];have y:Bw wr t:=k▸Bp (Ah _ _) nq;obtain⟨f,n,u⟩:=z.o;have a:=f.below y;have p:=J.o;clear k0 k1 q s;have k0:=a.cells.1;have k1:=a.cells.2.1;simp only[Ac]at k0 k1;obtain⟨q,s⟩:=p _ a.lr;simp only[Ac]at q s;have H:=Aa (Ab a (Ab n u));clear f n u a z k y p;go_wp2_with fail;go_quiet (fail);obtain⟨W,L⟩:=nmd (t.drewN nq);rw[L];have T:Bw t W:=L▸Bp (Ah _ _) nq;obtain⟨f,n,u⟩:=H.o;have F:=f.below T;clear k0 k1 q s;obtain⟨q,s⟩:=J.o _ F.lr;simp only[Ac]at q s;obtain⟨av,ao,P,E⟩:=Rx F.orow e (by omega);have I:=F.add E;have D:=E.run;have K:(O++[e])++Gy l c (i+1) false=R:=by rw[<-n,Cw];rfl
      generalize O.length+1=NL at*;have m:=Aa (Ab I K);simp only[Hz,Ac]at D;have Q:=Aa D;clear f n u F E I K D H L T;go_wp2_with (at_builtin;refine Hr rfl _ _ rfl _ _ rfl rfl Q.o ?_);exact⟨⟨i+1,false,by first|rfl|push_cast;rfl,rfl,by omega,by first|(intro _;exact N.o)|(intro h;cases h),by first|(intro _;rfl)|(intro h;omega),m.o.1.i m.o.2⟩,by simp only[intOf];omega⟩
     |false=>
      rw[hb]at Y ae;simp only[Qx]at Y ae;have o:=C;rw[Avk N.o U.o.2 A hb]at o;have z:=Aa (Ab S (Ab o G));have J:=Aa (Ab p A);clear S C o p A G;go_wp2_with fail;go_quiet (fail);obtain⟨t,k⟩:=nmd (wr.drewN nq);rw[k];have y:Bw wr t:=k▸Bp (Ah _ _) nq;obtain⟨f,n,u⟩:=z.o;have a:=f.below y;clear k0 k1 q s;have k0:=a.cells.1;have k1:=a.cells.2.1;simp only[Ac]at k0 k1;obtain⟨av,ao,P,E⟩:=Rx a.orow (c.key,c.value) (by omega);have I:=a.add E;have D:=E.run;have K:(O++[(c.key,c.value)])++Gy l c i true=R:=by rw[<-n,Cw];rfl
      have M:=Aa (Ab I (Ab K u));have Z:=I.cells.1;obtain⟨q,s⟩:=J.o.1 _ I.lr;simp only[Ac]at Z q s;obtain⟨au,aq⟩:=nmd (O++[(c.key,c.value)]);rw[aq]at M;have a7:=Aa (show au.length<=300001 from by rw[<-aq];simp;omega);generalize O.length+1=NL at*;simp only[Hz,Ac]at D;have Q:=Aa D;clear f n a E I K D z k y aq
      cases hk:(e.1==c.key)with
      |true=>go_wp2_with (at_builtin;refine Hr rfl _ _ rfl _ _ rfl rfl Q.o ?_);go_quiet (fail);have V:=M.o.2.1;rw[Aq2 J.o.2 hk]at V;have m:=Aa (Ab (M.o.1.below (Bp (Ah P.heap.size P) nq)) V);clear M V;go_wp2_with fail;exact⟨⟨i+1,true,by first|rfl|push_cast;rfl,rfl,by omega,by first|(intro _;exact N.o)|(intro h;cases h),by first|(intro _;rfl)|(intro h;omega),m.o.1.i m.o.2⟩,by simp only[intOf];omega⟩
      |false=>
       go_wp2_with (at_builtin;refine Hr rfl _ _ rfl _ _ rfl rfl Q.o ?_);go_quiet (fail);obtain⟨W,L⟩:=nmd (P.drewN nq);rw[L];have T:Bw P W:=L▸Bp (Ah _ _) nq;obtain⟨aw,V,bh⟩:=M.o;rw[Alp J.o.2 hk]at V;have F:=aw.below T;clear k0 k1 q s Z;obtain⟨q,s⟩:=J.o.1 _ F.lr;simp only[Ac]at q s;have bp:=a7.o;obtain⟨bf,bo,bj,an⟩:=Rx F.orow e (by omega);have az:=F.add an;have ak:=an.run;have a0:(au++[e])++Gy l c (i+1) true=R:=by rw[<-V,Cw];rfl
       generalize au.length+1=NL5 at*;have m:=Aa (Ab az a0);simp only[Hz,Ac]at ak;have ba:=Aa ak;clear aw V F an az a0 ak M L T Q;go_wp2_with (at_builtin;refine Hr rfl _ _ rfl _ _ rfl rfl ba.o ?_);exact⟨⟨i+1,true,by first|rfl|push_cast;rfl,rfl,by omega,by first|(intro _;exact N.o)|(intro h;cases h),by first|(intro _;rfl)|(intro h;omega),m.o.1.i m.o.2⟩,by simp only[intOf];omega⟩
    ·
     have aa:i=x:=by omega
     have o:=C;rw[Ayi N.o (by rw[U.o.1];omega)]at o;have z:=Aa (Ab S (Ab o G));have ax:decide ((i:Int)<(i:Int))=false:=by simp
     subst aa;clear S C o G ab;go_wp2_with fail;go_quiet (fail);obtain⟨t,k⟩:=nmd (wr.drewN nq);rw[k];have y:Bw wr t:=k▸Bp (Ah _ _) nq;obtain⟨f,n,u⟩:=z.o;have a:=f.below y;have k0:=a.cells.1;have k1:=a.cells.2.1;simp only[Ac]at k0 k1;obtain⟨av,ao,P,E⟩:=Rx a.orow (c.key,c.value) (by omega);have I:=a.add E;have D:=E.run;have K:(O++[(c.key,c.value)])++Gy l c (i+1) true=R:=by rw[<-Ald (by rw[U.o.1];omega),<-n,Cw];rfl
     generalize O.length+1=NL at*;have M:=Aa (Ab I K);simp only[Hz,Ac]at D;have Q:=Aa D;clear f n u a E I K D z k y;go_wp2_with (at_builtin;refine Hr rfl _ _ rfl _ _ rfl rfl Q.o ?_);go_quiet (fail);have m:=Aa (Ab (M.o.1.below (Bp (Ah P.heap.size P) nq)) M.o.2);clear M;go_wp2_with fail;exact⟨⟨i+1,true,by first|rfl|push_cast;rfl,rfl,by omega,by first|(intro _;exact N.o)|(intro h;cases h),by first|(intro _;rfl)|(intro h;omega),m.o.1.i m.o.2⟩,by simp only[intOf];omega⟩
  ·have aa:i=x+1:=by omega
   have hd:=aj aa;subst hd;rw[A3h true (by rw[U.o.1];omega) rfl,Ff]at C;have m:=Aa (Ab (C▸S.orow) (Ab (fun j X=>(S.own j X).1) S.bel));have ax:decide ((i:Int)<=(x:Int))=false:=by simp;omega
   have bq:¬((i:Int)<=(x:Int)):=by omega
   clear S C G ag aj;go_wp2_with fail;go_ret;rw[hr]at m;exact⟨_,rfl,m.o⟩
structure Md where
 v:Value
 e:TypeId
 s:Nat
 n:Nat
 xs:List Value
def Md.on (r:Md)(w:World):Prop:=w.ownsRow 0 r.e r.s r.v r.n r.xs
def Vb (v:Value)(l:List (Nat×By)):Md:=⟨v,87,2,l.length,Rw l⟩
def Cv (v:Value)(l:List By):Md:=⟨v,9,1,l.length,l.map Ac⟩
structure LS where
 may:Value
 opened:Bool
 ops:Value
 lost:Bool
 n:Nat
 base:Nat
 pass:By
 ans:Bool
 r0:Md
 r1:Md
 r2:Md
 r3:Md
 r4:Md
def LS.row (l:LS):Nat->Md
 |0=>l.r0
 |1=>l.r1
 |2=>l.r2
 |3=>l.r3
 |_=>l.r4
def LS.setRow (l:LS)(i:Nat)(r:Md):LS:=match i with
 |0=>{l with r0:=r}
 |1=>{l with r1:=r}
 |2=>{l with r2:=r}
 |3=>{l with r3:=r}
 |_=>{l with r4:=r}
def Tg:Nat->Nat
 |0=>9
 |1=>11
 |2=>13
 |3=>14
 |_=>15
def Sv (d b:Nat)(l:LS):List Value:=[.pointer (some ⟨d,0,none⟩),.pointer (some ⟨b,0,none⟩),l.may,.bool l.opened,l.ops,.bool false,.bool false,.bool l.lost,.int .i64 l.n,l.r0.v,.int .i64 l.base,l.r1.v,Ac l.pass,l.r2.v,l.r3.v,l.r4.v,.bool l.ans,.bool false]
structure Hh (w:World)(bW d b:Nat)(l:LS):Prop where
 blk:w.heap[bW]?=some (.cells (Sv d b l).toArray 38 (0,0))
section
variable {w w':World}{bW d b:Nat}{l:LS}
theorem Hh.lt (h:Hh w bW d b l):bW<w.heap.size:=lt_of_block h.blk
theorem Hh.fr (h:Hh w bW d b l)(i:Nat):w.frozen? ⟨bW,i,none⟩=false:=by simp[World.frozen?,h.blk]
theorem Hh.c (h:Hh w bW d b l)(i:Nat):w.cell? ⟨bW,i,none⟩=(Sv d b l)[i]?:=by rw[cell_of_row _ _ _ _ _ _ h.blk];simp
theorem Hh.of_block (h:Hh w bW d b l)(e:w'.heap[bW]?=w.heap[bW]?):Hh w' bW d b l:=⟨e.trans h.blk⟩
theorem Hh.set (h:Hh w bW d b l)(i:Nat)(a:Value){c f:Nat}{l':LS}(e:(Sv d b l).set i a=Sv c f l'):Hh (w.setCell ⟨bW,i,none⟩ a) bW c f l':=⟨by rw[Cx h.blk i _,Cz,e]⟩
end
def Hw (bW:Nat)(l:LS):List Nat:=bW::(l.r0.v.ownBlock.toList++(l.r1.v.ownBlock.toList++(l.r2.v.ownBlock.toList++(l.r3.v.ownBlock.toList++l.r4.v.ownBlock.toList))))
theorem Ey {bW:Nat}{l:LS}{j:Nat}:j∈Hw bW l↔j=bW\/∃i,i<5/\(l.row i).v.ownBlock=some j:=by
 simp only[Hw,Al,As,Bf];constructor
 ·rintro(h|h|h|h|h|h)
  ·exact .inl h
  ·exact .inr ⟨0,by decide,h⟩
  ·exact .inr ⟨1,by decide,h⟩
  ·exact .inr ⟨2,by decide,h⟩
  ·exact .inr ⟨3,by decide,h⟩
  ·exact .inr ⟨4,by decide,h⟩
 ·rintro(h|⟨i,a,h⟩)
  ·exact .inl h
  ·match i,a with
   |0,_=>exact .inr (.inl h)
   |1,_=>exact .inr (.inr (.inl h))
   |2,_=>exact .inr (.inr (.inr (.inl h)))
   |3,_=>exact .inr (.inr (.inr (.inr (.inl h))))
   |4,_=>exact .inr (.inr (.inr (.inr (.inr h))))
def Wl (w:World)(a lv:Value):Option (By×PL)->Prop
 |none=>a=.slice none 0 0/\lv=.slice none 0 0
 |some (p,l)=>∃g cap,a=.slice (some ⟨g,0,none⟩) 1 cap/\w.heap[g]?=some (.cells #[Ac p,lv] 70 (0,0))/\Do w lv l
abbrev Jz (w:World)(v:Value)(cs:List Ag):Prop:=w.ownsRow 0 49 3 v cs.length (Pt cs)
theorem Wl.kp {w w':World}{a lv:Value}{b:Option (By×PL)}{S:List Nat}(h:Wl w a lv b)(hk:Kp S w w')(h1:∀j,a.ownBlock=some j->j∉S)(h2:∀j,lv.ownBlock=some j->j∉S):Wl w' a lv b:=by
 cases b with
 |none=>exact h
 |some q=>obtain⟨p,l⟩:=q;obtain⟨g,cap,c,hb,hr⟩:=h;exact⟨g,cap,c,(hk.block g (lt_of_block hb) (h1 g (by rw[c];rfl))).trans hb,Bm hr hk h2⟩
theorem Wl.lt {w:World}{b lv:Value}{c:Option (By×PL)}(h:Wl w b lv c):(∀j,b.ownBlock=some j->j<w.heap.size)/\(∀j,lv.ownBlock=some j->j<w.heap.size):=by
 cases c with
 |none=>obtain⟨rfl,rfl⟩:=h;exact⟨fun j a=>(by cases a),fun j a=>(by cases a)⟩
 |some q=>obtain⟨p,l⟩:=q;obtain⟨g,cap,d,hb,hr⟩:=h;refine⟨fun j a=>?_,fun j a=>Hl hr j a⟩;rw[d]at a;cases a;exact lt_of_block hb
def Ij (l:LS)(lv:Value):List Nat:=l.may.ownBlock.toList++(lv.ownBlock.toList++l.ops.ownBlock.toList)
theorem Ha {l:LS}{lv:Value}{j:Nat}:j∈Ij l lv↔l.may.ownBlock=some j\/lv.ownBlock=some j\/l.ops.ownBlock=some j:=by simp[Ij,As,Bf]
structure Bi (w:World)(bW d b:Nat)(l:LS)(lv:Value)(may:Option (By×PL))(ops:List Ag):Prop where
 at_:Hh w bW d b l
 may:Wl w l.may lv may
 ops:Jz w l.ops ops
 row:∀i,i<5->(l.row i).on w
 dis:∀i k,i<5->k<5->i≠k->Sep (l.row i).v (l.row k).v
 nb:∀i,i<5->(l.row i).v.ownBlock≠some bW
 ro:∀j∈Ij l lv,j∉Hw bW l
section
variable {w w':World}{bW d b:Nat}{l:LS}{lv:Value}{may:Option (By×PL)}{ops:List Ag}
def Gj (bW:Nat)(l:LS)(lv:Value):List Nat:=Hw bW l++Ij l lv
theorem Bi.bound (h:Bi w bW d b l lv may ops){j:Nat}(a:j∈Gj bW l lv):j<w.heap.size:=by
 rcases As.1 a with g|g
 ·rcases Ey.1 g with rfl|⟨i,c,e⟩
  ·exact h.at_.lt
  ·exact Hl (h.row i c) j e
 ·rcases Ha.1 g with e|e|e
  ·exact h.may.lt.1 j e
  ·exact h.may.lt.2 j e
  ·exact Hl h.ops j e
theorem Bi.kp {S:List Nat}(h:Bi w bW d b l lv may ops)(hk:Kp S w w')(c:∀j∈Gj bW l lv,j∉S):Bi w' bW d b l lv may ops:=by have e:∀j,j∈Hw bW l->j∉S:=fun j a=>c j (Bl _ a);have hr:∀j,j∈Ij l lv->j∉S:=fun j a=>c j (Bg _ a);exact⟨h.at_.of_block (hk.block bW h.at_.lt (e bW (Ey.2 (.inl rfl)))),h.may.kp hk (fun j a=>hr j (Ha.2 (.inl a))) (fun j a=>hr j (Ha.2 (.inr (.inl a)))),Bm h.ops hk (fun j a=>hr j (Ha.2 (.inr (.inr a)))),fun i f=>Bm (h.row i f) hk (fun j a=>e j (Ey.2 (.inr ⟨i,f,a⟩))),h.dis,h.nb,h.ro⟩
theorem Bi.below (h:Bi w bW d b l lv may ops)(hb:Bw w w'):Bi w' bW d b l lv may ops:=h.kp (S:=[]) (Kp.of_below hb) (by simp)
theorem Bi.cell {n m:Nat}{l':LS}(h:Bi w bW d b l lv may ops)(i:Nat)(f:Value)(e:(Sv d b l).set i f=Sv n m l')(e1:l'.may=l.may)(e2:l'.ops=l.ops)(e3:∀i,i<5->l'.row i=l.row i):Bi (w.setCell ⟨bW,i,none⟩ f) bW n m l' lv may ops:=by
 have hk:Kp [bW] w (w.setCell ⟨bW,i,none⟩ f):=(Kp.refl _ w).setCell bW i _ (.inl (by simp))
 have o:∀j,j∈Hw bW l'↔j∈Hw bW l:=fun j=>by
  rw[Ey,Ey];constructor
  ·rintro(g|⟨i,a,g⟩)
   ·exact .inl g
   ·exact .inr ⟨i,a,by rw[<-e3 i a];exact g⟩
  ·rintro(g|⟨i,a,g⟩)
   ·exact .inl g
   ·exact .inr ⟨i,a,by rw[e3 i a];exact g⟩
 have q:Ij l' lv=Ij l lv:=by unfold Ij;rw[e1,e2]
 have hb:∀j,j∈Ij l lv->j∉[bW]:=fun j c g=>by simp at g;subst g;exact h.ro _ c (Ey.2 (.inl rfl))
 refine⟨h.at_.set i f e,by rw[e1];exact h.may.kp hk (fun j c=>hb j (Ha.2 (.inl c))) (fun j c=>hb j (Ha.2 (.inr (.inl c)))),by rw[e2];exact Bm h.ops hk (fun j c=>hb j (Ha.2 (.inr (.inr c)))),fun i a=>by
  rw[e3 i a]
  exact Bm (h.row i a) hk (fun j c g=>by simp at g;subst g;exact h.nb i a c),fun i k a hk p=>by rw[e3 i a,e3 k hk];exact h.dis i k a hk p,fun i a=>by rw[e3 i a];exact h.nb i a,fun j c=>by
  rw[q]at c;rw[o]
  exact h.ro j c⟩
theorem An7 (l:LS)(i k:Nat)(r:Md)(a:i<5)(hk:k<5):(l.setRow i r).row k=if k=i then r else l.row k:=by
 match i,a with
 |0,_=>match k,hk with
  |0,_|1,_|2,_|3,_|4,_=>rfl
 |1,_=>match k,hk with
  |0,_|1,_|2,_|3,_|4,_=>rfl
 |2,_=>match k,hk with
  |0,_|1,_|2,_|3,_|4,_=>rfl
 |3,_=>match k,hk with
  |0,_|1,_|2,_|3,_|4,_=>rfl
 |4,_=>match k,hk with
  |0,_|1,_|2,_|3,_|4,_=>rfl
theorem Alg (d b:Nat)(l:LS)(i:Nat)(r:Md)(a:i<5):(Sv d b l).set (Tg i) r.v=Sv d b (l.setRow i r)/\(l.setRow i r).may=l.may/\(l.setRow i r).ops=l.ops:=by
 match i,a with
 |0,_|1,_|2,_|3,_|4,_=>exact⟨rfl,rfl,rfl⟩
theorem Bi.grow (h:Bi w bW d b l lv may ops)(i:Nat)(f:i<5)(r:Md)(hk:Kp (l.row i).v.ownBlock.toList w w')(u:∀j,r.v.ownBlock=some j->(l.row i).v.ownBlock=some j\/w.heap.size<=j)(hr:r.on w'):
  Bi (w'.setCell ⟨bW,Tg i,none⟩ r.v) bW d b (l.setRow i r) lv may ops:=by
 have o:Kp (bW::(l.row i).v.ownBlock.toList) w (w'.setCell ⟨bW,Tg i,none⟩ r.v):=Aaa hk bW (Tg i) r.v;have D:=h.at_.lt;obtain⟨F,A,x⟩:=Alg d b l i r f
 have C:r.v.ownBlock≠some bW:=fun e=>by
  rcases u bW e with g|g
  ·exact h.nb i f g
  ·omega
 have t:∀j,j∈Ij l lv->j∉bW::(l.row i).v.ownBlock.toList:=fun j a g=>by
  rcases Al.1 g with rfl|g
  ·exact h.ro _ a (Ey.2 (.inl rfl))
  ·exact h.ro j a (Ey.2 (.inr ⟨i,f,by simpa using g⟩))
 have m:∀k,k<5->(l.setRow i r).row k=if k=i then r else l.row k:=fun k hk=>An7 l i k r f hk;refine⟨(h.at_.of_block (hk.block bW D (by simpa using h.nb i f))).set _ _ F,by rw[A];exact h.may.kp o (fun j a=>t j (Ha.2 (.inl a))) (fun j a=>t j (Ha.2 (.inr (.inl a)))),by rw[x];exact Bm h.ops o (fun j a=>t j (Ha.2 (.inr (.inr a)))),fun k c=>?_,fun k q c s p=>?_,fun k c=>?_,fun j a g=>?_⟩
 ·rw[m k c];by_cases e:k=i
  ·rw[if_pos e];exact Bm hr ((Kp.refl [bW] w').setCell bW (Tg i) r.v (.inl (by simp))) (fun j a=>by simp;rintro rfl;exact C a)
  ·rw[if_neg e]
   exact Bm (h.row k c) o (fun j a g=>by
    rcases Al.1 g with rfl|g
    ·exact h.nb k c a
    ·exact h.dis k i c f e j a (by simpa using g))
 ·rw[m k c,m q s]
  have y:∀z,z<5->z≠i->Sep r.v (l.row z).v:=fun z hz E j h1 h2=>by
   rcases u j h1 with g|g
   ·exact h.dis i z f hz (Ne.symm E) j g h2
   ·have:=Hl (h.row z hz) j h2;omega
  by_cases e1:k=i
  ·rw[if_pos e1,if_neg (fun e2=>p (e1.trans e2.symm))];exact y q s (fun e2=>p (e1.trans e2.symm))
  ·by_cases e2:q=i
   ·rw[if_neg e1,if_pos e2];exact(y k c e1).symm
   ·rw[if_neg e1,if_neg e2];exact h.dis k q c s p
 ·rw[m k c];by_cases e:k=i
  ·rw[if_pos e];exact C
  ·rw[if_neg e];exact h.nb k c
 ·have n:j∈Ij l lv:=by
   unfold Ij at a⊢;rw[A,x]at a;exact a
  have G:j<w.heap.size:=h.bound (Bg _ n);rcases Ey.1 g with rfl|⟨k,c,e⟩
  ·exact h.ro _ n (Ey.2 (.inl rfl))
  ·rw[m k c]at e;by_cases e1:k=i
   ·rw[if_pos e1]at e;rcases u j e with q|q
    ·exact h.ro j n (Ey.2 (.inr ⟨i,f,q⟩))
    ·omega
   ·rw[if_neg e1]at e;exact h.ro j n (Ey.2 (.inr ⟨k,c,e⟩))
theorem Bi.lists {l':LS}{f:Value}{n:Option (By×PL)}{o:List Ag}(h:Bi w bW d b l lv may ops){S:List Nat}(hk:Kp (bW::S) w w')(p:∀j∈S,w.heap.size<=j)(ha:Hh w' bW d b l')(e3:∀i,i<5->l'.row i=l.row i)(t:Wl w' l'.may f n)(u:Jz w' l'.ops o)(r:∀j∈Ij l' f,j∈Ij l lv\/w.heap.size<=j):Bi w' bW d b l' f n o:=by
 have v:=h.at_.lt;refine⟨ha,t,u,fun i a=>?_,fun i k a hk s=>by rw[e3 i a,e3 k hk];exact h.dis i k a hk s,fun i a=>by rw[e3 i a];exact h.nb i a,fun j c g=>?_⟩
 ·rw[e3 i a]
  exact Bm (h.row i a) hk (fun j c g=>by
   rcases Al.1 g with rfl|g
   ·exact h.nb i a c
   ·have:=Hl (h.row i a) j c;have:=p j g;omega)
 ·have m:j∈Hw bW l:=by
   rcases Ey.1 g with rfl|⟨i,a,e⟩
   ·exact Ey.2 (.inl rfl)
   ·exact Ey.2 (.inr ⟨i,a,by rw[<-e3 i a];exact e⟩)
  rcases r j c with q|q
  ·exact h.ro j q m
  ·have:=h.bound (Bl _ m);omega
end
def Ic:Option (By×PL)->PL
 |none=>[]
 |some (_,l)=>l
theorem Acd (cs:List Ag):∀l:PL,Ba l->Ba (cs.foldl Ca l):=by
 induction cs with
 |nil=>intro l h;exact h
 |cons c cs ih=>intro l h;exact ih _ (Amp h)
theorem Axj (l:PL)(c:Ag):(Ca l c).length<=l.length+1:=by
 unfold Ca;split
 ·have:=Afl c.key l;omega
 ·exact(Yi c.key c.value l).2
theorem Aci (cs:List Ag):∀l:PL,(cs.foldl Ca l).length<=l.length+cs.length:=by
 induction cs with
 |nil=>intro l;exact Ak _
 |cons c cs ih=>intro l;have h1:=ih (Ca l c);have h2:=Axj l c;rw[So,Fh];omega
theorem Ahs (E d b:Nat)(l:LS)(lv:Value)(may:Option (By×PL))(ops:List Ag)(w:World)(h:Bi w E d b l lv may ops)(ha:Ba (Ic may))(N:(Ic may).length<=1000)(ao:ops.length<=1000):
  Cl 32 #[.pointer (some ⟨E,0,none⟩)] w fun e w'=>∃n,e=.returned n/\Do w' n (ops.foldl Ca (Ic may))/\(∀j,n.ownBlock=some j->lv.ownBlock=some j\/w.heap.size<=j)/\Bw w w':=by
 have c2:w.cell? ⟨E,2,none⟩=some l.may:=h.at_.c 2;have c4:∀w',Bw w w'->w'.cell? ⟨E,4,none⟩=some l.ops:=fun w' hb=>(hb.cell (p:=⟨E,4,none⟩) h.at_.lt).trans (h.at_.c 4);obtain⟨Y,ap,W⟩:=Aao h.ops;have L:=h.ops;rw[W]at c4 L;have K:=Aa c4
 have U:=Aa (show ∀w',Bw w w'->∀i c,ops[i]?=some c->∃g,Y=some ⟨g,0,none⟩/\w'.cell? ⟨g,i*3,none⟩=some (Ac c.key)/\w'.cell? ⟨g,i*3+1,none⟩=some (Ac c.value)/\w'.cell? ⟨g,i*3+2,none⟩=some (.bool c.gone)from fun w' hb i c f=>by
  have hr:Jz w' (.slice Y ops.length ap) ops:=Bm (S:=[]) L (Kp.of_below hb) (by simp);obtain⟨g,cap,O,_,_,_,A,_⟩:=Rv Ag.cells 3 Ag.cells_len hr (by rintro rfl;simp at f);cases O
  exact⟨g,rfl,A i c f 0 (by decide),A i c f 1 (by decide),A i c f 2 (by decide)⟩)
 have J:Do w lv (Ic may):=by
  have:=h.may
  cases may with
  |none=>obtain⟨_,rfl⟩:=this;exact Do.nil w
  |some q=>obtain⟨p,ah⟩:=q;obtain⟨_,_,_,_,hr⟩:=this;exact hr
 obtain⟨au,av,I⟩:=Aao J
 have ak:(l.may=.slice none 0 0/\lv=.slice none 0 0)\/(∃g cap,l.may=.slice (some ⟨g,0,none⟩) 1 cap/\w.cell? ⟨g,1,none⟩=some lv):=by
  have:=h.may
  cases may with
  |none=>exact .inl this
  |some q=>obtain⟨p,ah⟩:=q;obtain⟨g,cap,O,hb,_⟩:=this;exact .inr ⟨g,cap,O,crw hb rfl⟩
 obtain⟨m,Q⟩:=nmd (ops.length);rw[Q]at K ao;have H:=Aa Q;have ar:(m:Int)<=1000:=by omega
 have M:=Aa (Ab J (Ab ha N));clear h W L J ha N Q;have X:=Aa (show ∀(wr:World) (t:Value),Do wr t ((ops.take m).foldl Ca (Ic may))->Do wr t (ops.foldl Ca (Ic may))from fun wr t a=>by rw[Du (by rw[H.o];exact Ak _)]at a;exact a);clear c4
 have T:∀(wr:World) (j:Nat) (t:Value),Bw w wr->Do wr t ((ops.take j).foldl Ca (Ic may))->∀c,ops[j]?=some c->Cl 61 #[t,.agg #[Ac c.key,Ac c.value,.bool c.gone]] wr fun e w'=>∃n,e=.returned n/\Do w' n ((ops.take (j+1)).foldl Ca (Ic may))/\(∀q,n.ownBlock=some q->w.heap.size<=q)/\Bw w w':=fun wr j t hb a c f=>by
  obtain⟨J,ha,N⟩:=M.o;have Z:=Aci (ops.take j) (Ic may);have aq:=H.o;rw[Fr]at Z;refine(Ax0 t _ c wr a (Acd _ _ ha) (by omega)).mono ?_;rintro e w' ⟨n,rfl,al,r,ab⟩;refine⟨n,rfl,?_,fun q s=>Hb hb.size (r q s),hb.trans (ab.mono hb.size)⟩;have ai:ops.take (j+1)=ops.take j++[c]:=by rw[Nv,f];rfl
  rw[ai,List.foldl_append];exact al
 have V:=Aa T;clear T;rcases ak with⟨G,ae⟩|⟨g,cap,G,A⟩
 ·rw[G]at c2;have x:=M.o.1;rw[ae]at x;have z:=Aa x;clear G I x;go_enter Tryz.func32,Tryz.ntmps32;go_wp2_with fail
  go_loopw [3,4] (fun v i wr=>∃(j:Nat) (la:Option Addr) (ln o:Nat),i=.int .i64 (j:Int)/\j<=m/\v=.slice la ln o/\Do wr (.slice la ln o) ((ops.take j).foldl Ca (Ic may))/\(∀q,(Value.slice la ln o).ownBlock=some q->lv.ownBlock=some q\/w.heap.size<=q)/\Bw w wr) (fun _ i _=>(2000-intOf i).toNat)
  case atStart=>exact⟨0,_,_,_,rfl,Cu _,rfl,by simpa using z.o,fun q s=>(by cases s),Ah _ _⟩
  case round=>
   obtain⟨j,la,ln,o,rfl,ag,rfl,a,r,hb⟩:=hrel;have aa:=K.o wr hb;by_cases F:j<m
   ·have aj:(j:Int)<(m:Int):=by omega
    obtain⟨c,f⟩:∃c,ops[j]?=some c:=⟨ops[j]'(by rw[H.o];exact F),Az _⟩;obtain⟨go,rfl,o0,o1,P⟩:=U.o wr hb j c f;have y:=Aa (V.o wr j _ hb a c f);simp only[Ac]at o0 o1 P y;clear a r hb f z;go_wp2_with fail;refine y.o.mono ?_;rintro e w2 ⟨af,rfl,u,C,D⟩;obtain⟨ac,an,rfl⟩:=Aao u;have k:=Aa (Ab u (Ab C D));clear u C D y;go_wp2_with fail;exact⟨⟨j+1,_,_,_,by first|rfl|push_cast;rfl,by omega,rfl,k.o.1,fun q s=>.inr (k.o.2.1 q s),k.o.2.2⟩,by simp only[intOf];omega⟩
   ·have R:j=m:=by omega
    subst R;have k:=Aa (Ab (X.o wr _ a) (Ab r hb));have ad:decide ((j:Int)<(j:Int))=false:=by simp
    clear a r hb F z;go_wp2_with fail;go_ret;exact⟨_,rfl,k.o⟩
 ·rw[G]at c2;have x:=M.o.1;rw[I]at x A;have z:=Aa x;have am:=Aa I;clear G I x;generalize(Ic may).length=ML at*;go_enter Tryz.func32,Tryz.ntmps32;go_wp2_with fail
  go_loopw [3,4] (fun v i wr=>∃(j:Nat) (la:Option Addr) (ln o:Nat),i=.int .i64 (j:Int)/\j<=m/\v=.slice la ln o/\Do wr (.slice la ln o) ((ops.take j).foldl Ca (Ic may))/\(∀q,(Value.slice la ln o).ownBlock=some q->lv.ownBlock=some q\/w.heap.size<=q)/\Bw w wr) (fun _ i _=>(2000-intOf i).toNat)
  case atStart=>exact⟨0,_,_,_,rfl,Cu _,rfl,by simpa using z.o,fun q s=>.inl (by rw[am.o];exact s),Ah _ _⟩
  case round=>
   obtain⟨j,la,ln,o,rfl,ag,rfl,a,r,hb⟩:=hrel;have aa:=K.o wr hb;by_cases F:j<m
   ·have aj:(j:Int)<(m:Int):=by omega
    obtain⟨c,f⟩:∃c,ops[j]?=some c:=⟨ops[j]'(by rw[H.o];exact F),Az _⟩;obtain⟨go,rfl,o0,o1,P⟩:=U.o wr hb j c f;have y:=Aa (V.o wr j _ hb a c f);simp only[Ac]at o0 o1 P y;clear a r hb f z;go_wp2_with fail;refine y.o.mono ?_;rintro e w2 ⟨af,rfl,u,C,D⟩;obtain⟨ac,an,rfl⟩:=Aao u;have k:=Aa (Ab u (Ab C D));clear u C D y;go_wp2_with fail;exact⟨⟨j+1,_,_,_,by first|rfl|push_cast;rfl,by omega,rfl,k.o.1,fun q s=>.inr (k.o.2.1 q s),k.o.2.2⟩,by simp only[intOf];omega⟩
   ·have R:j=m:=by omega
    subst R;have k:=Aa (Ab (X.o wr _ a) (Ab r hb));have ad:decide ((j:Int)<(j:Int))=false:=by simp
    clear a r hb F z;go_wp2_with fail;go_ret;exact⟨_,rfl,k.o⟩
structure Bu (w w':World)(bW:Nat)(l l':LS)(lv lv':Value):Prop where
 kp:Kp (Hw bW l) w w'
 mu:∀j∈Hw bW l',j∈Hw bW l\/w.heap.size<=j
 new:∀j∈Gj bW l' lv',j∈Gj bW l lv\/w.heap.size<=j
theorem Bu.refl (w:World)(a:Nat)(l:LS)(lv:Value):Bu w w a l l lv lv:=⟨Kp.refl _ _,fun _ h=>.inl h,fun _ h=>.inl h⟩
theorem Bu.of_below {w w':World}(hb:Bw w w')(a:Nat)(l:LS)(lv:Value):Bu w w' a l l lv lv:=⟨Kp.of_below hb,fun _ h=>.inl h,fun _ h=>.inl h⟩
theorem Bu.trans {w w1 w2:World}{b:Nat}{l l1 l2:LS}{lv d c:Value}(h:Bu w w1 b l l1 lv d)(k:Bu w1 w2 b l1 l2 d c):Bu w w2 b l l2 lv c:=by
 have hz:=h.kp.size;refine⟨h.kp.step k.kp h.mu,fun j a=>?_,fun j a=>?_⟩
 ·rcases k.mu j a with g|g
  ·exact h.mu j g
  ·exact .inr (by omega)
 ·rcases k.new j a with g|g
  ·exact h.new j g
  ·exact .inr (by omega)
theorem Bu.cell {w:World}{a:Nat}{l l':LS}{lv:Value}(i:Nat)(e:Value)(e1:l'.may=l.may)(e2:l'.ops=l.ops)(e3:∀i,i<5->l'.row i=l.row i):Bu w (w.setCell ⟨a,i,none⟩ e) a l l' lv lv:=by
 have c:∀j,j∈Hw a l'->j∈Hw a l:=fun j b=>by
  rcases Ey.1 b with rfl|⟨i,d,g⟩
  ·exact Ey.2 (.inl rfl)
  ·exact Ey.2 (.inr ⟨i,d,by rw[<-e3 i d];exact g⟩)
 have f:Ij l' lv=Ij l lv:=by unfold Ij;rw[e1,e2]
 refine⟨(Kp.refl _ w).setCell a i _ (.inl (Ey.2 (.inl rfl))),fun j b=>.inl (c j b),fun j b=>.inl ?_⟩;rcases As.1 b with g|g
 ·exact Bl _ (c j g)
 ·rw[f]at g;exact Bg _ g
theorem Bu.grow {w w':World}{a:Nat}{l:LS}{lv:Value}(i:Nat)(c:i<5)(r:Md)(hk:Kp (l.row i).v.ownBlock.toList w w')(m:∀j,r.v.ownBlock=some j->(l.row i).v.ownBlock=some j\/w.heap.size<=j):Bu w (w'.setCell ⟨a,Tg i,none⟩ r.v) a l (l.setRow i r) lv lv:=by
 obtain⟨_,h,n⟩:=Alg 0 0 l i r c
 have d:∀j,j∈Hw a (l.setRow i r)->j∈Hw a l\/w.heap.size<=j:=fun j b=>by
  rcases Ey.1 b with rfl|⟨k,f,g⟩
  ·exact .inl (Ey.2 (.inl rfl))
  ·rw[An7 l i k r c f]at g;by_cases e:k=i
   ·rw[if_pos e]at g;exact(m j g).imp (fun q=>Ey.2 (.inr ⟨i,c,q⟩)) id
   ·rw[if_neg e]at g;exact .inl (Ey.2 (.inr ⟨k,f,g⟩))
 have o:Ij (l.setRow i r) lv=Ij l lv:=by unfold Ij;rw[h,n]
 refine⟨(Aaa hk a (Tg i) r.v).mono (fun j b=>?_),d,fun j b=>?_⟩
 ·rcases Al.1 b with rfl|g
  ·exact Ey.2 (.inl rfl)
  ·exact Ey.2 (.inr ⟨i,c,by simpa using g⟩)
 ·rcases As.1 b with g|g
  ·exact(d j g).imp (Bl _) id
  ·rw[o]at g;exact .inl (Bg _ g)
theorem Ahu:Vq 36 9 1:=by obtain⟨a,b,c,e,d⟩:=info_parts Adj;exact⟨Tryz.underlying36,⟨a,_,16,b,c,e,d,rfl,by decide⟩,by decide⟩
theorem Acw (l:List By):l.flatMap (fun x=>[Ac x])=l.map Ac:=by induction l with
 |nil=>rfl
 |cons a l ih=>simp[ih]
structure Aye (w:World)(v:Value)(O:List By)(y:By)(a:Option Addr)(cap:Nat)(w2:World):Prop where
 run:(Builtin.append_ #[36,36] 36 #[v,.slice (some ⟨w.heap.size,0,none⟩) 1 1]).run Tryz.prog (w.alloc (.cells #[Ac y] 9))=.ok (.slice a (O.length+1) cap) w2
 row:Lo w2 (.slice a (O.length+1) cap) (O++[y])
 kp:Kp v.ownBlock.toList w w2
 own:∀j,(Value.slice a (O.length+1) cap).ownBlock=some j->v.ownBlock=some j\/w.heap.size<=j
theorem Apm {w:World}{v:Value}{O:List By}(h:Lo w v O)(c:By)(e:O.length<=10000000):∃a cap w2,Aye w v O c a cap w2:=by
 have d:w.ownsRow 0 9 1 v O.length (O.flatMap fun x=>[Ac x]):=by rw[Acw];exact h
 obtain⟨a,cap,w2,A⟩:=Aer Ahu (fun x:By=>[Ac x]) (fun _=>rfl) (fun a u b=>by simp at b;subst b;rfl) d c e;refine⟨a,cap,w2,A.run,?_,A.kp,A.own⟩;have:=A.row;rw[Acw]at this;exact this
def Ts (a:Bool)(pass:By):Bool:= !a&&decide (pass.length<=40)
def Ky (pass:By)(tr:List By):List By:=if pass∈tr then tr else tr++[pass]
theorem Ac2 (f d b:Nat)(l:LS)(lv:Value)(may:Option (By×PL))(ops:List Ag)(pass:By)(w:World)(h:Bi w f d b l lv may ops)(a:Ts l.opened pass=false):
  Cl 22 #[.pointer (some ⟨f,0,none⟩),.string ⟨pass.toArray⟩] w fun e w'=>e=.returned (.tuple #[])/\w'=w:=by
 have c3:w.cell? ⟨f,3,none⟩=some (.bool l.opened):=h.at_.c 3;have g:(ByteArray.mk pass.toArray).size=pass.length:=rfl;unfold Ts at a;clear h
 cases c:l.opened with
 |true=>
  rw[c]at c3;clear a c;generalize pass.length=L at*;go_enter Tryz.func22,Tryz.ntmps22;go_wp2_with fail
  first|go_end0|((try simp only[Exit.inBlock,Exit.then]);refine bodyPost_ret (results_none rfl _ _ _) rfl ?_)
  exact⟨rfl,rfl⟩
 |false=>
  rw[c]at c3 a;have hd:decide ((40:Int)<(pass.length:Int))=true:=by simp at a⊢;omega
  clear a c;generalize pass.length=L at*;go_enter Tryz.func22,Tryz.ntmps22;go_wp2_with fail
  first|go_end0|((try simp only[Exit.inBlock,Exit.then]);refine bodyPost_ret (results_none rfl _ _ _) rfl ?_)
  exact⟨rfl,rfl⟩
theorem Ani (a d b:Nat)(l:LS)(lv:Value)(may:Option (By×PL))(ops:List Ag)(tv:Value)(tr:List By)(pass:By)(w:World)(h:Bi w a d b l lv may ops)(hr:l.r2=Cv tv tr)(J:Ts l.opened pass=true)(ae:tr.length<=1000000):
  Cl 22 #[.pointer (some ⟨a,0,none⟩),.string ⟨pass.toArray⟩] w fun e w'=>e=.returned (.tuple #[])/\∃aa,Bi w' a d b {l with pass:=pass,r2:=Cv aa (Ky pass tr)} lv may ops/\Bu w w' a l {l with pass:=pass,r2:=Cv aa (Ky pass tr)} lv lv:=by
 have V:l.opened=false/\pass.length<=40:=by unfold Ts at J;simpa using J
 have c3:w.cell? ⟨a,3,none⟩=some (.bool false):=by rw[<-V.1];exact h.at_.c 3
 have af:w.cell? ⟨a,12,none⟩=some (Ac l.pass):=h.at_.c 12;have ad:=h.at_.fr 12;have hd:decide ((40:Int)<(pass.length:Int))=false:=by simp;omega
 have ap:(ByteArray.mk pass.toArray).size=pass.length:=rfl;have h1:Bi (w.setCell ⟨a,12,none⟩ (Ac pass)) a d b {l with pass:=pass} lv may ops:=h.cell 12 (Ac pass) rfl rfl rfl (fun i _=>by match i with|0|1|2|3|_+4=>rfl);have D:Bu w (w.setCell ⟨a,12,none⟩ (Ac pass)) a l {l with pass:=pass} lv lv:=Bu.cell 12 (Ac pass) rfl rfl (fun i _=>by match i with|0|1|2|3|_+4=>rfl);obtain⟨w1,W⟩:=nmd (w.setCell ⟨a,12,none⟩ (Ac pass));rw[W]at h1 D
 have A:Lo w1 tv tr:=by have:=h1.row 2 (by decide);have e:({l with pass:=pass}:LS).row 2=Cv tv tr:=hr;rw[e]at this;exact this
 obtain⟨T,ah,t⟩:=Aao A
 have c13:w1.cell? ⟨a,13,none⟩=some tv:=by have:=h1.at_.c 13;rw[this];show some l.r2.v=_;rw[hr];rfl
 rw[t]at c13;have au:=h1.at_.fr 13
 have ak:=Aa (show tr≠[]->∃g,T=some ⟨g,0,none⟩/\∀i x,tr[i]?=some x->w1.cell? ⟨g,i,none⟩=some (Ac x)from fun h0=>by
  obtain⟨g,cap,U,_,_,_,F⟩:=Abc A h0;rw[t]at U;cases U
  exact⟨g,rfl,F⟩)
 obtain⟨f,p⟩:=nmd (tr.length);have ab:=Aa p;rw[p]at c13;have ar:(f:Int)<=1000000:=by omega
 obtain⟨o,n,r,m⟩:=Apm A pass (by omega);have z:=m.run;rw[t,p]at z
 have R:pass∉tr->Bi (r.setCell ⟨a,13,none⟩ (.slice o (f+1) n)) a d b {l with pass:=pass,r2:=Cv (.slice o (f+1) n) (Ky pass tr)} lv may ops/\Bu w (r.setCell ⟨a,13,none⟩ (.slice o (f+1) n)) a l {l with pass:=pass,r2:=Cv (.slice o (f+1) n) (Ky pass tr)} lv lv:=fun s=>by
  have H:Ky pass tr=tr++[pass]:=by unfold Ky;rw[if_neg s]
  rw[H,<-p];have e2:({l with pass:=pass}:LS).row 2=Cv tv tr:=hr;have S:Kp (({l with pass:=pass}:LS).row 2).v.ownBlock.toList w1 r:=by rw[e2];exact m.kp
  have P:∀j,(Cv (.slice o (tr.length+1) n) (tr++[pass])).v.ownBlock=some j->(({l with pass:=pass}:LS).row 2).v.ownBlock=some j\/w1.heap.size<=j:=by rw[e2];exact m.own
  exact⟨h1.grow 2 (by decide) (Cv (.slice o (tr.length+1) n) (tr++[pass])) S P m.row,D.trans (Bu.grow 2 (by decide) (Cv (.slice o (tr.length+1) n) (tr++[pass])) S P)⟩
 have ao:r.cell? ⟨a,13,none⟩=some (.slice T f ah):=by
  have G:=h1.at_.lt
  have M:tv.ownBlock≠some a:=by have:=h1.nb 2 (by decide);have e:({l with pass:=pass}:LS).row 2=Cv tv tr:=hr;rw[e]at this;exact this
  have hk:r.heap[a]?=w1.heap[a]?:=m.kp.block a G (by simpa using M);have:=(h1.at_.of_block hk).c 13;rw[this];show some l.r2.v=_;rw[hr,<-p,<-t];rfl
 have aq:r.frozen? ⟨a,13,none⟩=false:=by
  have G:=h1.at_.lt
  have M:tv.ownBlock≠some a:=by have:=h1.nb 2 (by decide);have e:({l with pass:=pass}:LS).row 2=Cv tv tr:=hr;rw[e]at this;exact this
  exact(h1.at_.of_block (m.kp.block a G (by simpa using M))).fr 13
 have I:=Aa R
 have Y:pass∈tr->Bi w1 a d b {l with pass:=pass,r2:=Cv tv (Ky pass tr)} lv may ops/\Bu w w1 a l {l with pass:=pass,r2:=Cv tv (Ky pass tr)} lv lv:=fun s=>by
  have H:Ky pass tr=tr:=by unfold Ky;rw[if_pos s]
  rw[H,<-hr];exact⟨h1,D⟩
 have O:=Aa Y;simp only[Ac]at z;have aj:=Aa z;clear h hr J ae h1 D A t p m z R Y V;generalize al:pass.length=PL at*;clear al;go_enter Tryz.func22,Tryz.ntmps22;go_wp2_with fail
 go_loopw [4] (fun i wr=>∃k:Nat,k<=f/\i=.int .i64 (k:Int)/\wr=w1/\∀j x,j<k->tr[j]?=some x->x≠pass) (fun i _=>(2000000-intOf i).toNat)
 case atStart=>exact⟨0,by omega,rfl,by first|rfl|exact W,fun j x h=>by omega⟩
 case round=>
  obtain⟨k,hk,rfl,ac,C⟩:=hrel;subst ac;clear c3 af ad;by_cases X:k<f
  ·obtain⟨u,hy⟩:∃u,tr[k]?=some u:=⟨tr[k]'(by rw[ab.o];exact X),Az _⟩;obtain⟨g,rfl,F⟩:=ak.o (by rintro rfl;simp at hy);have ag:=F k u hy;have an:(k:Int)<(f:Int):=by omega
   have y:=Aa (Ab C hy);clear F C hy;simp only[Ac]at ag
   cases Q:(u==pass)with
   |true=>
    have E:pass∈tr:=by
     have:u=pass:=by simpa using Q
     rw[<-this];exact Hs y.o.2
    have L:=Aa (O.o E);clear E O I y;go_wp2_with fail
    first|go_end0|((try simp only[Exit.inBlock,Exit.then]);refine bodyPost_ret (results_none rfl _ _ _) rfl ?_)
    exact⟨rfl,_,L.o⟩
   |false=>
    go_wp2_with fail;refine⟨⟨k+1,by omega,by first|rfl|push_cast;rfl,by first|trivial|rfl,fun j x K N=>?_⟩,by simp only[intOf];omega⟩;rcases Xx (Xy K)with q|rfl
    ·exact y.o.1 j x q N
    ·rw[y.o.2]at N;cases N;simpa using Q
  ·have ai:k=f:=by omega
   subst ai
   have s:pass∉tr:=fun E=>by obtain⟨j,Z,K⟩:=List.getElem_of_mem E;exact C j pass (by rw[<-ab.o];exact Z) (by rw[Az Z,K]) rfl
   have L:=Aa (I.o s);have am:decide ((k:Int)<(k:Int))=false:=by simp
   clear s O I C X;go_wp2_with (at_builtin;refine Hr rfl _ _ rfl _ _ rfl rfl aj.o ?_)
   first|go_end0|((try simp only[Exit.inBlock,Exit.then]);refine bodyPost_ret (results_none rfl _ _ _) rfl ?_)
   exact⟨rfl,_,L.o⟩
theorem Az4:Vq 35 87 2:=by obtain⟨a,b,c,e,d⟩:=info_parts Ams;exact⟨Tryz.underlying35,⟨a,_,24,b,c,e,d,rfl,by decide⟩,by decide⟩
structure Acm (t e:TypeId)(lit:List Value)(w0 w1 w2 w3:World)(bW d b:Nat)(l:LS)(lv:Value)(may:Option (By×PL))(ops:List Ag)(i:Nat)(r':Md)(a:Option Addr)(n cap:Nat):Prop where
 e1:w0.alloc (.cells lit.toArray e)=w1
 run:(Builtin.append_ #[t,t] t #[(l.row i).v,.slice (some ⟨w0.heap.size,0,none⟩) 1 1]).run Tryz.prog w1=.ok (.slice a n cap) w2
 e3:w2.setCell ⟨bW,Tg i,none⟩ (.slice a n cap)=w3
 rv:r'.v=.slice a n cap
 st:Bi w3 bW d b (l.setRow i r') lv may ops
 go:Bu w0 w3 bW l (l.setRow i r') lv lv
 at_:∀w'∈[w0,w1,w2],Hh w' bW d b l
 kp:∀w'∈[w0,w1,w2,w3],Kp (bW::(l.row i).v.ownBlock.toList) w0 w'
section
variable {w:World}{bW d b:Nat}{l:LS}{lv:Value}{may:Option (By×PL)}{ops:List Ag}
theorem Als {t e:TypeId}{s:Nat}(D:Vq t e s){α:Type}(f:α->List Value)(q:∀a,(f a).length=s)(h1:∀a,∀u∈f a,u.oneCell'=true)(h:Bi w bW d b l lv may ops)(i:Nat)(m:i<5)(v:Value)(O:List α)(hr:l.row i=⟨v,e,s,O.length,O.flatMap f⟩)(c:α)(E:O.length<=10000000):
  ∃w1 w2 r a cap,Acm t e (f c) w w1 w2 r bW d b l lv may ops i ⟨.slice a (O.length+1) cap,e,s,(O++[c]).length,(O++[c]).flatMap f⟩ a (O.length+1) cap:=by
 have z:w.ownsRow 0 e s v O.length (O.flatMap f):=by have:=h.row i m;rw[hr]at this;exact this
 obtain⟨a,cap,w2,A⟩:=Aer D f q h1 z c E;have n:(l.row i).v=v:=by rw[hr]
 have k:Kp (l.row i).v.ownBlock.toList w w2:=by rw[n];exact A.kp
 have o:∀j,(Value.slice a (O.length+1) cap).ownBlock=some j->(l.row i).v.ownBlock=some j\/w.heap.size<=j:=by rw[n];exact A.own
 have p:Bw w (w.alloc (.cells (f c).toArray e)):=(Ah _ _).alloc (Ak _) _;have x:=h.nb i m;have y:Kp (bW::(l.row i).v.ownBlock.toList) w (w2.setCell ⟨bW,Tg i,none⟩ (.slice a (O.length+1) cap)):=Aaa k bW (Tg i) _;refine⟨_,w2,_,a,cap,rfl,by rw[n];exact A.run,rfl,rfl,h.grow i m ⟨.slice a (O.length+1) cap,e,s,(O++[c]).length,(O++[c]).flatMap f⟩ k o A.row,Bu.grow i m ⟨.slice a (O.length+1) cap,e,s,(O++[c]).length,(O++[c]).flatMap f⟩ k o,fun w' g=>?_,fun w' g=>?_⟩
 ·simp only[Al,Cq,or_false]at g;rcases g with rfl|rfl|rfl
  ·exact h.at_
  ·exact h.at_.of_block (p.block bW h.at_.lt)
  ·exact h.at_.of_block (k.block bW h.at_.lt (by simpa using x))
 ·simp only[Al,Cq,or_false]at g;rcases g with rfl|rfl|rfl|rfl
  ·exact Kp.refl _ _
  ·exact Kp.of_below p
  ·exact k.mono (fun j C=>Nb _ C)
  ·exact y
end
def Ah6 (p:Nat×By):List Value:=[.int .i64 (p.1:Int),Ac p.2]
theorem Aut {w:World}{bW d b:Nat}{l:LS}{lv:Value}{may:Option (By×PL)}{ops:List Ag}(h:Bi w bW d b l lv may ops)(v:Value)(O:List (Nat×By))(hr:l.r0=Vb v O)(c:Nat×By)(g:O.length<=10000000):
  ∃w1 w2 f a cap,Acm 35 87 (Ah6 c) w w1 w2 f bW d b l lv may ops 0 (Vb (.slice a (O.length+1) cap) (O++[c])) a (O.length+1) cap:=
 Als Az4 Ah6 (fun _=>rfl) (fun a u e=>by simp[Ah6]at e;rcases e with rfl|rfl<;>rfl) h 0 (by decide) v O hr c g
theorem Aha {w:World}{bW d b:Nat}{l:LS}{lv:Value}{may:Option (By×PL)}{ops:List Ag}(h:Bi w bW d b l lv may ops)(i:Nat)(j:i<5)(v:Value)(O:List By)(hr:l.row i=Cv v O)(e:By)(k:O.length<=10000000):
  ∃w1 w2 c a cap,Acm 36 9 [Ac e] w w1 w2 c bW d b l lv may ops i (Cv (.slice a (O.length+1) cap) (O++[e])) a (O.length+1) cap:=by
 have g:l.row i=⟨v,9,1,O.length,O.flatMap fun x=>[Ac x]⟩:=by rw[Acw];exact hr
 obtain⟨w1,w2,c,a,cap,A⟩:=Als Ahu (fun x:By=>[Ac x]) (fun _=>rfl) (fun a u f=>by simp at f;subst f;rfl) h i j v O g e k;rw[Acw]at A;exact⟨w1,w2,c,a,cap,A⟩
theorem Aoh (e:Oper)(a:Act)(x f:Operand)(b d:Nat)(old:Value)(g:Option Addr)(n c:Nat)(h:e.op=.store 36 x f)(i:a.eval x=.pointer (some ⟨b,d,none⟩))(hy:a.eval f=.slice g n c)(w:World)(k:w.cell? ⟨b,d,none⟩=some old)(j:w.frozen? ⟨b,d,none⟩=false):
  (execOp a.eval e).run Tryz.prog w=.ok .skip (w.setCell ⟨b,d,none⟩ (.slice g n c)):=by
 unfold execOp;simp only[h,i,hy];clear i hy h
 go_simp
theorem Asp (e:Oper)(a:Act)(x f:Operand)(b d:Nat)(old:Value)(g:Option Addr)(n c:Nat)(h:e.op=.store 35 x f)(i:a.eval x=.pointer (some ⟨b,d,none⟩))(hy:a.eval f=.slice g n c)(w:World)(k:w.cell? ⟨b,d,none⟩=some old)(j:w.frozen? ⟨b,d,none⟩=false):
  (execOp a.eval e).run Tryz.prog w=.ok .skip (w.setCell ⟨b,d,none⟩ (.slice g n c)):=by
 unfold execOp;simp only[h,i,hy];clear i hy h
 go_simp
theorem Ask (d:Oper)(a:Act)(x:Operand)(b c:Nat)(v:Value)(e:d.op=.load 35 x)(f:a.eval x=.pointer (some ⟨b,c,none⟩))(w:World)(g:w.cell? ⟨b,c,none⟩=some v):
  (execOp a.eval d).run Tryz.prog w=.ok (.value v) w:=by
 unfold execOp;simp only[e,f];clear f e
 go_simp
theorem Aso (b:Oper)(a:Act)(x:Operand)(k:Int)(s:By)(c:b.op=.buildSlice 35 1 #[(0,x)])(d:a.eval x=.agg #[.int .i64 k,Ac s])(w:World):
  (execOp a.eval b).run Tryz.prog w=.ok (.value (.slice (some ⟨w.heap.size,0,none⟩) 1 1)) (w.alloc (.cells #[.int .i64 k,Ac s] 87)):=by
 unfold execOp;simp only[c,Wa,Db,Lc,d];clear d c
 go_simp
theorem Al5 (b:Oper)(a:Act)(x:Operand)(s:By)(c:b.op=.buildSlice 36 1 #[(0,x)])(d:a.eval x=Ac s)(w:World):
  (execOp a.eval b).run Tryz.prog w=.ok (.value (.slice (some ⟨w.heap.size,0,none⟩) 1 1)) (w.alloc (.cells #[Ac s] 9)):=by
 unfold execOp;simp only[c,Wa,Db,Lc,d,Ac];clear d c
 go_simp
def Hi (W:List (Nat×By)):List By:=(W.filter fun e=>decide (2<=e.1)).map fun e=>e.2.take 12
def Ko (l:LS)(k:Nat)(b a c:Value)(wr:List (Nat×By))(se d:List By):LS:={l with n:=k,r0:=Vb b wr,r1:=Cv a se,r3:=Cv c d}
structure Te (w wr:World)(bW d b:Nat)(l:LS)(lv:Value)(may:Option (By×PL))(ops:List Ag)(W0:List (Nat×By))(S0 O0:List By)(M:List (Nat×By))(n0 k:Nat)(v0 v1 v3:Value):Prop where
 st:Bi wr bW d b (Ko l k v0 v1 v3 (W0++(M.take k).drop n0) (S0++Hi ((M.take k).drop n0)) (O0++List.replicate (k-n0) l.pass)) lv may ops
 go:Bu w wr bW l (Ko l k v0 v1 v3 (W0++(M.take k).drop n0) (S0++Hi ((M.take k).drop n0)) (O0++List.replicate (k-n0) l.pass)) lv lv
 le:n0<=k
theorem Te.below {w wr w':World}{a d b:Nat}{l:LS}{lv:Value}{may:Option (By×PL)}{ops:List Ag}{g:List (Nat×By)}{e f:List By}{m:List (Nat×By)}{n0 k:Nat}{c j i:Value}(h:Te w wr a d b l lv may ops g e f m n0 k c j i)(hb:Bw wr w'):Te w w' a d b l lv may ops g e f m n0 k c j i:=
 ⟨h.st.below hb,h.go.trans (Bu.of_below hb a _ lv),h.le⟩
def lwN (a:Nat)(w:World):Nat:=(intOf ((w.cell? ⟨a,8,none⟩).getD undef)).toNat
theorem Te.n {w wr:World}{a d b:Nat}{l:LS}{lv:Value}{may:Option (By×PL)}{ops:List Ag}{g:List (Nat×By)}{e f:List By}{m:List (Nat×By)}{n0 k:Nat}{c j i:Value}(h:Te w wr a d b l lv may ops g e f m n0 k c j i):lwN a wr=k:=by unfold lwN;rw[h.st.at_.c 8];simp[Sv,Ko,intOf]
theorem A0k {α:Type}(a:List α)(n0 k:Nat)(e:α)(b:a[k]?=some e)(d:n0<=k):(a.take (k+1)).drop n0=(a.take k).drop n0++[e]:=by
 have c:=(Ds.1 b).1;have h1:a.take (k+1)=a.take k++[e]:=by rw[Nv,b];rfl
 rw[h1,Oo (by rw[Fr];omega)]
theorem A1c (n0 k:Nat)(p:By)(a:n0<=k):List.replicate (k+1-n0) p=List.replicate (k-n0) p++[p]:=by rw[show k+1-n0=(k-n0)+1 by omega,List.replicate_succ']
theorem Axi (W:List (Nat×By))(e:Nat×By):Hi (W++[e])=Hi W++(if 2<=e.1 then [e.2.take 12]else []):=by
 unfold Hi;rw[Xw,Lw]
 congr 1
 by_cases h:2<=e.1<;>simp[h]
theorem Ank (l:LS)(k:Nat)(f b d:Value)(wr:List (Nat×By))(se e:List By)(c:Value)(a:List (Nat×By)):(Ko l k f b d wr se e).setRow 0 (Vb c a)=Ko l k c b d a se e:=rfl
theorem Al8 (l:LS)(k:Nat)(a f b:Value)(wr:List (Nat×By))(se d:List By)(c:Value)(e:List By):(Ko l k a f b wr se d).setRow 1 (Cv c e)=Ko l k a c b wr e d:=rfl
theorem Apg (l:LS)(k:Nat)(c b e:Value)(wr:List (Nat×By))(se f:List By)(a:Value)(d:List By):(Ko l k c b e wr se f).setRow 3 (Cv a d)=Ko l k c b a wr se d:=rfl
theorem Ai9 (x:DX)(b a:Nat)(m:DM)(v:VM)(wv:Value)(l:LS)(lv:Value)(may:Option (By×PL))(ops:List Ag)(p:List (Nat×By))(n o:List By)(n0:Nat)(s u t:Value)(w:World)(a5:Ai w x b m v wv)(ck:∀j∈Ai.set x b wv,j∉Gj a l lv)(h:Bi w a x.d b l lv may ops)(df:l=Ko l n0 s u t p n o)(b7:n0<=m.wrote.length)(co:∀e∈m.wrote.drop n0,e.2.length=256)
  (c2:p.length<=4000000) (aj:n.length<=4000000) (dh:o.length<=4000000):
  Cl 19 #[.pointer (some ⟨a,0,none⟩)] w fun e w'=>e=.returned (.bool true)/\∃s u t,Te w w' a x.d b l lv may ops p n o m.wrote n0 m.wrote.length s u t:=by
 have da:Te w w a x.d b l lv may ops p n o m.wrote n0 n0 s u t:=by
  have e1:(m.wrote.take n0).drop n0=[]:=Io (by rw[Fr];omega)
  have e2:Ko l n0 s u t (p++(m.wrote.take n0).drop n0) (n++Hi ((m.wrote.take n0).drop n0)) (o++List.replicate (n0-n0) l.pass)=l:=by rw[e1,Po];show Ko l n0 s u t (p++[]) (n++[]) (o++[])=l;rw[Ff,Ff,Ff];exact df.symm
  exact⟨by rw[e2];exact h,by rw[e2];exact Bu.refl w a l lv,Ak _⟩
 obtain⟨dd,bz,a9⟩:=Aao a5.disk.own;have ea:=a5.disk.wl
 have c1:=Aa (show ∀wr k s u t,Te w wr a x.d b l lv may ops p n o m.wrote n0 k s u t->wr.cell? ⟨x.d,6,none⟩=some (.slice dd m.wrote.length bz)/\∀i e,m.wrote[i]?=some e->∃g,dd=some ⟨g,0,none⟩/\g<wr.heap.size/\wr.cell? ⟨g,i*2,none⟩=some (.int .i64 (e.1:Int))/\wr.cell? ⟨g,i*2+1,none⟩=some (Ac e.2)from fun wr k s u t D=>by
  have dw:∀j∈Ai.set x b wv,j∉Hw a l:=fun j Q g=>ck j Q (Bl _ g);have c5:Cr wr x m wv:=a5.disk.kp D.go.kp (fun j Q=>dw j (Px Q));refine⟨by rw[<-a9];exact c5.c6,fun i e ay=>?_⟩;obtain⟨g,cap,al,ar,_,_,V⟩:=Afu c5.own (by intro h0;rw[h0]at ay;simp at ay);rw[a9]at al;cases al
  exact⟨g,rfl,ar,V i e ay⟩)
 have bb:=Aa (Ab da (Ab co (Ab c2 (Ab aj dh))));obtain⟨K,br⟩:=nmd (m.wrote.length);have c4:=Aa br;rw[br]at c1 ea b7⊢;have ex:(K:Int)<=5000000:=by omega
 clear a5 ck h df co c2 aj dh da a9 br;go_enter Tryz.func19,Tryz.ntmps19;go_wp2_with fail
 go_loopw [3,4,5] (fun _ _ _ wr=>∃k s u t,k<=K/\Te w wr a x.d b l lv may ops p n o m.wrote n0 k s u t) (fun _ _ _ wr=>K-lwN a wr)
 case atStart=>exact⟨n0,s,u,t,b7,bb.o.1⟩
 case round=>
  obtain⟨k,J,C,F,hk,D⟩:=hrel;have c0:wr.cell? ⟨a,0,none⟩=some (.pointer (some ⟨x.d,0,none⟩)):=D.st.at_.c 0;have dp:wr.cell? ⟨a,8,none⟩=some (.int .i64 (k:Int)):=D.st.at_.c 8;obtain⟨bo,bl⟩:=c1.o wr k J C F D;by_cases cy:k<K
  ·obtain⟨⟨d,tx⟩,a0⟩:∃e,m.wrote[k]?=some e:=⟨m.wrote[k]'(by rw[c4.o];exact cy),Az _⟩;obtain⟨g,rfl,ar,bt,bv⟩:=bl k _ a0
   have dr:tx.length=256:=bb.o.2.1 (d,tx) (by
    have dq:=D.le;rw[List.mem_iff_getElem?]
    exact⟨k-n0,by rw[Sm,show n0+(k-n0)=k by omega];exact a0⟩)
   have eh:(k:Int)<(K:Int):=by omega
   have ab:=Aa (Ab D (Ab a0 dr));have c3:x.d<wr.heap.size:=Ab8 wr _ bo;have dn:=D.st.at_.lt;clear D bl a0 dr hk;simp only[Ac]at bt bv;go_wp2_with fail;go_quiet (fail);obtain⟨w1,E⟩:=nmd (wr.drewN nq);have cg:Bw wr w1:=E▸Bp (Ah wr.heap.size wr) nq;have c6:w1.cell? ⟨a,0,none⟩=some (.pointer (some ⟨x.d,0,none⟩)):=E▸c0;have cl:w1.cell? ⟨a,8,none⟩=some (.int .i64 (k:Int)):=E▸dp;have dc:w1.cell? ⟨x.d,6,none⟩=some (.slice (some ⟨g,0,none⟩) K bz):=E▸bo;have ci:w1.cell? ⟨g,k*2,none⟩=some (.int .i64 (d:Int)):=E▸bt;have cs:w1.cell? ⟨g,k*2+1,none⟩=some (.string ⟨tx.toArray⟩):=E▸bv;have bd:g<w1.heap.size:=E▸ar;have bw:a<w1.heap.size:=E▸dn;have ce:x.d<w1.heap.size:=E▸c3;have o0:∀f,(w1.alloc f).cell? ⟨a,0,none⟩=some (.pointer (some ⟨x.d,0,none⟩)):=fun f=>(Uu w1 f ⟨a,0,none⟩ bw).trans c6;have d6:∀f,(w1.alloc f).cell? ⟨a,8,none⟩=some (.int .i64 (k:Int)):=fun f=>(Uu w1 f ⟨a,8,none⟩ bw).trans cl;have d5:∀f,(w1.alloc f).cell? ⟨x.d,6,none⟩=some (.slice (some ⟨g,0,none⟩) K bz):=fun f=>(Uu w1 f ⟨x.d,6,none⟩ ce).trans dc;have ef:∀f,(w1.alloc f).cell? ⟨g,k*2,none⟩=some (.int .i64 (d:Int)):=fun f=>(Uu w1 f ⟨g,k*2,none⟩ bd).trans ci;have dz:∀f,(w1.alloc f).cell? ⟨g,k*2+1,none⟩=some (.string ⟨tx.toArray⟩):=fun f=>(Uu w1 f ⟨g,k*2+1,none⟩ bd).trans cs;rw[E];have b2:=Aa (ab.o.1.below cg);clear E c0 dp bo bt bv cg;go_wp2_with fail
   go_region
   obtain⟨w2,a6⟩:=nmd ((w1.alloc (.cells #[.int .i64 (d:Int),.string ⟨tx.toArray⟩] 87)).drew);have aj:Bw w1 w2:=a6▸((Ah _ _).alloc (Ak _) _).drew;have bx:w2.heap[w1.heap.size]?=some (.cells #[.int .i64 (d:Int),.string ⟨tx.toArray⟩] 87 (0,0)):=a6▸heap_alloc_new w1 _;obtain⟨r,hr⟩:=nmd (w1.heap.size);have ad:=b2.o.below aj;have em:w2.cell? ⟨a,8,none⟩=some (.int .i64 (k:Int)):=ad.st.at_.c 8;have ey:=ad.st.at_.fr 8;rw[a6];rw[hr]at bx⊢;have W:r≠a:=by omega
   have a1:∀j∈Hw a (Ko l k J C F (p++(m.wrote.take k).drop n0) (n++Hi ((m.wrote.take k).drop n0)) (o++List.replicate (k-n0) l.pass)),j<r:=fun j Q=>by rw[<-hr];exact b2.o.st.bound (Bl _ Q)
   have bf:Bi (w2.setCell ⟨a,8,none⟩ (.int .i64 ((k+1:Nat):Int))) a x.d b (Ko l (k+1) J C F (p++(m.wrote.take k).drop n0) (n++Hi ((m.wrote.take k).drop n0)) (o++List.replicate (k-n0) l.pass)) lv may ops:=ad.st.cell 8 _ rfl rfl rfl (fun i _=>by match i with|0|1|2|3|_+4=>rfl);have b3:Bu w (w2.setCell ⟨a,8,none⟩ (.int .i64 ((k+1:Nat):Int))) a l (Ko l (k+1) J C F (p++(m.wrote.take k).drop n0) (n++Hi ((m.wrote.take k).drop n0)) (o++List.replicate (k-n0) l.pass)) lv lv:=ad.go.trans (Bu.cell 8 _ rfl rfl (fun i _=>by match i with|0|1|2|3|_+4=>rfl));obtain⟨aq,cf⟩:=nmd (w2.setCell ⟨a,8,none⟩ (.int .i64 ((k:Int)+1)));have dm:w2.setCell ⟨a,8,none⟩ (.int .i64 ((k+1:Nat):Int))=aq:=cf;rw[dm]at bf b3;have bj:aq.heap[r]?=some (.cells #[.int .i64 (d:Int),.string ⟨tx.toArray⟩] 87 (0,0)):=cf▸Va bx _ _ W;have a7:=ab.o.1.le;have a8:=A0k m.wrote n0 k (d,tx) ab.o.2.1 a7;have bq:=A1c n0 k l.pass a7;have b0:=Axi ((m.wrote.take k).drop n0) (d,tx)
   have O:(p++(m.wrote.take k).drop n0).length<=9000000/\(n++Hi ((m.wrote.take k).drop n0)).length<=9000000/\(o++List.replicate (k-n0) l.pass).length<=9000000:=by
    have h1:=bb.o.2.2;have h2:(Hi ((m.wrote.take k).drop n0)).length<=((m.wrote.take k).drop n0).length:=by unfold Hi;rw[Fi];exact Tv _ _
    have eq:=c4.o;have ew:((m.wrote.take k).drop n0).length<=k:=by rw[Nw,Fr];omega
    rw[Bb,Bb,Bb,Tu];omega
   have db:∀w' am ap a4,Bi w' a x.d b (Ko l (k+1) am ap a4 ((p++(m.wrote.take k).drop n0)++[(d,tx)]) ((n++Hi ((m.wrote.take k).drop n0))++(if 2<=d then [tx.take 12]else [])) ((o++List.replicate (k-n0) l.pass)++[l.pass])) lv may ops->Bu w w' a l (Ko l (k+1) am ap a4 ((p++(m.wrote.take k).drop n0)++[(d,tx)]) ((n++Hi ((m.wrote.take k).drop n0))++(if 2<=d then [tx.take 12]else [])) ((o++List.replicate (k-n0) l.pass)++[l.pass])) lv lv->Te w w' a x.d b l lv may ops p n o m.wrote n0 (k+1) am ap a4:=fun w' am ap a4 dy d9=>by
    refine⟨?_,?_,by omega⟩
    ·rw[a8,b0,bq,<-Cw,<-Cw,<-Cw];exact dy
    ·rw[a8,b0,bq,<-Cw,<-Cw,<-Cw];exact d9
   generalize p++(m.wrote.take k).drop n0=WW at*;generalize n++Hi ((m.wrote.take k).drop n0)=SS at*;generalize o++List.replicate (k-n0) l.pass=OO at*;have ca:=Aa db;have cm:=ab.o.1.n;have di:=Aa cm;have ek:(ByteArray.mk tx.toArray).size=256:=ab.o.2.2;obtain⟨S,bh⟩:=nmd (aq.drew);have a2:Bw aq S:=bh▸(Ah _ _).drew;have af:=(a2.block r (lt_of_block bj)).trans bj;obtain⟨ak,I,w7,av,aw,A⟩:=Aut (bf.below a2) J WW rfl (d,tx) (by omega)
   have Z:r∉a::J.ownBlock.toList:=fun g=>by
    rcases Al.1 g with e|e
    ·exact W e
    ·have:=a1 r (Ey.2 (.inr ⟨0,by decide,show J.ownBlock=some r from by simpa using e⟩));omega
   have ds:∀w'∈[S,ak,I,w7],w'.rangeAt r 0 [.int .i64 (d:Int),Ac tx]:=fun w' N=>Xa (((A.kp w' N).block r (lt_of_block af) Z).trans af);have X:=((A.kp w7 (by simp)).block r (lt_of_block af) Z).trans af;have c9:∀w'∈[S,ak,I],w'.cell? ⟨a,9,none⟩=some J:=fun w' N=>(A.at_ w' N).c 9;have dg:I.frozen? ⟨a,9,none⟩=false:=(A.at_ I (by simp)).fr 9;have bc:=A.st;rw[Ank]at bc;have be:=(b3.trans (Bu.of_below a2 a _ lv)).trans A.go;rw[Ank]at be;have cb:=A.run;have b9:=A.e1;have cd:=A.e3;have ej:WW.length+1<=9000001:=by omega
   generalize WW.length+1=NW at*;have M:=Aa (Ab bh (Ab b9 (Ab cb (Ab cd (Ab c9 dg)))));have dk:=Aa ds;have R:∀j,F.ownBlock=some j\/C.ownBlock=some j->j<r:=fun j Q=>Q.elim (fun e=>a1 j (Ey.2 (.inr ⟨3,by decide,e⟩))) (fun e=>a1 j (Ey.2 (.inr ⟨1,by decide,e⟩)));have c8:=Aa (Ab bc (Ab be (Ab X (Ab R (Ab W O)))));clear ad aj bx a6 bf b3 dm bj a7 a8 b0 bq O db cm bh a2 af A Z ds X c9 dg bc be cb b9 cd ab b2 a1 c6 cl dc ci cs o0 d6 d5 ef dz bd bw ce ar dn c3 hr;go_wp2_with fail;refine Gf (Ek [S,ak,I,w7]) [6,7,10] (by kernel_rfl) (by kernel_rfl) (by rw[M.o.1];rfl) ?_;refine Am 0 (.pointer (some ⟨a,0,none⟩)) ?_;refine Am 1 (.pointer (some ⟨a,0,none⟩)) ?_;refine Am 2 (.pointer (some ⟨a,0,none⟩)) ?_;refine Am 3 (.pointer (some ⟨a,9,none⟩)) ?_;refine Mh 4 2 (J) Ask (fun q bg w hw=>M.o.2.2.2.2.1 w (hw.upto bg (by simp))) ?_;refine Em 5 (.agg #[.int .i64 (d:Int),Ac tx]) rfl (by kernel_rfl) rfl (fun q=>My fun w hw=>Tn _ _ 87 _ r 0 [.int .i64 (d:Int),Ac tx] rfl (by kernel_rfl) _ Tryz.underlying87 rfl (by kernel_rfl) w (dk.o w hw.mem)) ?_;refine Gr 6 (.slice (some ⟨S.heap.size,0,none⟩) 1 1) rfl (by kernel_rfl) rfl (Qb S ak rfl rfl (by rw[<-M.o.2.1];exact Aso _ _ _ (d:Int) tx rfl (by kernel_rfl) S)) ?_;refine Gr 7 (.slice av NW aw) rfl (by kernel_rfl) rfl (Qb ak I rfl rfl (Abd _ _ _ _ _ _ _ rfl (by kernel_rfl) (by kernel_rfl) M.o.2.2.1)) ?_;refine Am 8 (.pointer (some ⟨a,0,none⟩)) ?_;refine Am 9 (.pointer (some ⟨a,9,none⟩)) ?_;refine Kr 10 rfl (by kernel_rfl) rfl (Kv I w7 rfl rfl (by rw[<-M.o.2.2.2.1];exact Asp _ _ _ _ a 9 _ _ _ _ rfl (by kernel_rfl) (by kernel_rfl) I (M.o.2.2.2.2.1 I (by simp)) M.o.2.2.2.2.2)) ?_;refine Cj.done (by kernel_rfl) fun du ct=>?_;simp only[Act.put,Cz,Dg,Co];obtain rfl:=ct.eq (w0:=w7) rfl;clear ct M dk;obtain⟨b8,dt,X,R,W,O⟩:=c8.o;obtain⟨T,bk⟩:=nmd (du.drew);have az:Bw du T:=bk▸(Ah _ _).drew;have bi:=(az.block r (lt_of_block X)).trans X;obtain⟨ag,H,ac,ao,au,A⟩:=Aha (b8.below az) 3 (by decide) F OO rfl l.pass (by omega)
   have Z:r∉a::F.ownBlock.toList:=fun g=>by
    rcases Al.1 g with e|e
    ·exact W e
    ·have:=R r (.inl (by simpa using e));omega
   have U:=((A.kp ac (by simp)).block r (lt_of_block bi) Z).trans bi;have cc:∀w'∈[T,ag,H],w'.cell? ⟨a,14,none⟩=some F:=fun w' N=>(A.at_ w' N).c 14
   have b6:∀w'∈[T,ag,H,ac],w'.cell? ⟨a,12,none⟩=some (Ac l.pass):=fun w' N=>by
    simp only[Al,Cq,or_false]at N;rcases N with rfl|rfl|rfl|rfl
    ·exact(A.at_ _ (by simp)).c 12
    ·exact(A.at_ _ (by simp)).c 12
    ·exact(A.at_ _ (by simp)).c 12
    ·exact A.st.at_.c 12
   have c7:H.frozen? ⟨a,14,none⟩=false:=(A.at_ H (by simp)).fr 14;have bm:=A.st;rw[Apg]at bm;have bs:=(dt.trans (Bu.of_below az a _ lv)).trans A.go;rw[Apg]at bs;have cn:=A.run;have cq:=A.e1;have dl:=A.e3;generalize OO.length+1=NO at*;have G:=Aa (Ab bk (Ab cq (Ab cn (Ab dl (Ab cc (Ab c7 b6))))));have bn:=Aa (Ab bm (Ab bs (Ab U (Ab R (Ab W O)))));clear b8 dt X R O bk az bi A Z U cc b6 c7 bm bs cn cq dl c8;go_wp2_with fail;refine Gf (Ek [T,ag,H,ac]) [9,10,13] (by kernel_rfl) (by kernel_rfl) (by rw[G.o.1];rfl) ?_;refine Am 0 (.pointer (some ⟨a,0,none⟩)) ?_;refine Am 1 (.pointer (some ⟨a,0,none⟩)) ?_;refine Am 2 (.pointer (some ⟨a,0,none⟩)) ?_;refine Am 3 (.pointer (some ⟨a,14,none⟩)) ?_;refine Mh 4 2 (F) Ad5 (fun q bg w hw=>G.o.2.2.2.2.1 w (hw.upto bg (by simp))) ?_;refine Am 5 (.pointer (some ⟨a,0,none⟩)) ?_;refine Am 6 (.pointer (some ⟨a,0,none⟩)) ?_;refine Am 7 (.pointer (some ⟨a,12,none⟩)) ?_;refine Gv 8 (Ac l.pass) Im (fun q w hw=>G.o.2.2.2.2.2.2 w hw.mem) ?_;refine Gr 9 (.slice (some ⟨T.heap.size,0,none⟩) 1 1) rfl (by kernel_rfl) rfl (Qb T ag rfl rfl (by rw[<-G.o.2.1];exact Al5 _ _ _ l.pass rfl (by kernel_rfl) T)) ?_;refine Gr 10 (.slice ao NO au) rfl (by kernel_rfl) rfl (Qb ag H rfl rfl (Abd _ _ _ _ _ _ _ rfl (by kernel_rfl) (by kernel_rfl) G.o.2.2.1)) ?_;refine Am 11 (.pointer (some ⟨a,0,none⟩)) ?_;refine Am 12 (.pointer (some ⟨a,14,none⟩)) ?_;refine Kr 13 rfl (by kernel_rfl) rfl (Kv H ac rfl rfl (by rw[<-G.o.2.2.2.1];exact Aoh _ _ _ _ a 14 _ _ _ _ rfl (by kernel_rfl) (by kernel_rfl) H (G.o.2.2.2.2.1 H (by simp)) G.o.2.2.2.2.2.1)) ?_;refine Cj.done (by kernel_rfl) fun P ch=>?_;simp only[Act.put,Cz,Dg,Co];obtain rfl:=ch.eq (w0:=ac) rfl;clear ch G;obtain⟨L,a3,U,R,_,O⟩:=bn.o;have eu:P.cell? ⟨r,0,none⟩=some (.int .i64 (d:Int)):=crw U rfl;have ei:P.cell? ⟨r,1,none⟩=some (.string ⟨tx.toArray⟩):=crw U rfl;by_cases cv:d<2
   ·have d4:decide ((d:Int)<2)=true:=by simp;omega
    have ai:=ca.o P (.slice av NW aw) C (.slice ao NO au) (by rw[if_neg (by omega),Ff];exact L) (by rw[if_neg (by omega),Ff];exact a3);have ae:=Aa ai;clear L a3 U R O ai bn cv;go_wp2_with fail;refine⟨⟨k+1,_,_,_,by omega,ae.o⟩,?_⟩;rw[ae.o.n,di.o];omega
   ·have d4:decide ((d:Int)<2)=false:=by simp;omega
    have er:(ByteArray.mk tx.toArray).extract 0 12=⟨(tx.take 12).toArray⟩:=by apply ByteArray.ext;simp[ByteArray.data_extract]
    have b1:Lo P C SS:=L.row 1 (by decide);obtain⟨eb,sc,ax⟩:=Aao b1;have dv:P.cell? ⟨a,11,none⟩=some C:=L.at_.c 11;have eo:P.cell? ⟨a,17,none⟩=some (.bool false):=L.at_.c 17;have ev:=L.at_.fr 11
    have d7:=Aa (show SS≠[]->∃g,eb=some ⟨g,0,none⟩/\∀i z,SS[i]?=some z->P.cell? ⟨g,i,none⟩=some (Ac z)from fun h0=>by
     obtain⟨g,cap,al,_,_,_,V⟩:=Abc b1 h0;rw[ax]at al;cases al
     exact⟨g,rfl,V⟩)
    obtain⟨et,ah,cp,b5,cr,A⟩:=Aha L 1 (by decide) C SS rfl (tx.take 12) (by omega);have bp:=A.st;rw[Al8]at bp;have ba:=a3.trans A.go;rw[Al8]at ba;have Y:=A.run;have cz:=A.e1;have b4:=A.e3;have an:ah.cell? ⟨a,11,none⟩=some C:=(A.at_ ah (by simp)).c 11;have cj:ah.frozen? ⟨a,11,none⟩=false:=(A.at_ ah (by simp)).fr 11;have cx:((Ko l (k+1) (.slice av NW aw) C (.slice ao NO au) (WW++[(d,tx)]) SS (OO++[l.pass])).row 1).v=C:=rfl;rw[cx,ax]at Y;rw[ax]at dv an;have ai:=ca.o cp (.slice av NW aw) (.slice b5 (SS.length+1) cr) (.slice ao NO au) (by rw[if_pos (by omega)];exact bp) (by rw[if_pos (by omega)];exact ba);have ae:=Aa ai;obtain⟨aa,bu⟩:=nmd (SS.length);rw[bu]at Y dv an b4;have d1:=Aa bu;have eg:(aa:Int)<=9000000:=by omega
    rw[<-cz]at Y;simp only[Ac]at Y;have ee:=Aa Y;have de:ah.setCell ⟨a,11,none⟩ (.slice b5 (aa+1) cr)=cp:=b4;have d3:=Aa de;have cw:=Aa (Ab an cj);generalize tx.take 12=TS at*;clear L a3 U R O b1 ax A bp ba Y cz cx ai bu bn cv b4 de an cj;go_wp2_with fail
    go_loopw [5] (fun i d8=>∃j:Nat,j<=aa/\i=.int .i64 (j:Int)/\d8=P) (fun i _=>(20000000-intOf i).toNat)
    case atStart=>exact⟨0,by omega,rfl,rfl⟩
    case round=>
     obtain⟨j,Q,rfl,d2⟩:=hrel;subst d2;by_cases dj:j<aa
     ·obtain⟨y,hy⟩:∃y,SS[j]?=some y:=⟨SS[j]'(by rw[d1.o];exact dj),Az _⟩;obtain⟨en,rfl,V⟩:=d7.o (by rintro rfl;simp at hy);have ed:=V j y hy;have ep:(j:Int)<(aa:Int):=by omega
      clear V hy;simp only[Ac]at ed
      cases ay:(y==TS)with
      |true=>go_wp2_with fail;exact⟨⟨j+1,by omega,by first|rfl|push_cast;rfl,by first|trivial|rfl⟩,by simp only[intOf];omega⟩
      |false=>go_wp2_with fail;exact⟨⟨j+1,by omega,by first|rfl|push_cast;rfl,by first|trivial|rfl⟩,by simp only[intOf];omega⟩
     ·have ec:j=aa:=by omega
      subst ec;have dq:decide ((j:Int)<(j:Int))=false:=by simp
      have es:=cw.o.1;have el:=cw.o.2;clear dj;go_wp2_with (at_builtin;refine Hr rfl _ _ rfl _ _ rfl rfl ee.o ?_);rw[d3.o];refine⟨⟨k+1,_,_,_,by omega,ae.o⟩,?_⟩;rw[ae.o.n,di.o];omega
  ·have d0:k=K:=by omega
   subst d0;have cu:=Aa D;have dq:decide ((k:Int)<(k:Int))=false:=by simp
   clear D bl cy hk;go_wp2_with fail;go_quiet (fail);have dx:=Aa (cu.o.below (Bp (Ah wr.heap.size wr) nq));clear cu;go_wp2_with fail;go_ret;exact⟨rfl,_,_,_,dx.o⟩
structure Yd (w:World)(bW:Nat)(wv tv ov xv:Value)(wr:List (Nat×By))(tr ow tx:List By):Prop where
 lt:bW<w.heap.size
 c9:w.cell? ⟨bW,9,none⟩=some wv
 c13:w.cell? ⟨bW,13,none⟩=some tv
 c14:w.cell? ⟨bW,14,none⟩=some ov
 c15:w.cell? ⟨bW,15,none⟩=some xv
 w_:Amv w wv wr
 t_:Lo w tv tr
 o_:Lo w ov ow
 x_:Lo w xv tx
theorem Yd.below {w w':World}{a:Nat}{wv tv ov b:Value}{wr:List (Nat×By)}{tr c tx:List By}(h:Yd w a wv tv ov b wr tr c tx)(hb:Bw w w'):Yd w' a wv tv ov b wr tr c tx:=
 ⟨Eu h.lt hb.size,(hb.cell (p:=⟨a,9,none⟩) h.lt).trans h.c9,(hb.cell (p:=⟨a,13,none⟩) h.lt).trans h.c13,(hb.cell (p:=⟨a,14,none⟩) h.lt).trans h.c14,(hb.cell (p:=⟨a,15,none⟩) h.lt).trans h.c15,Bm (S:=[]) h.w_ (Kp.of_below hb) (by simp),Bm (S:=[]) h.t_ (Kp.of_below hb) (by simp),Bm (S:=[]) h.o_ (Kp.of_below hb) (by simp),Bm (S:=[]) h.x_ (Kp.of_below hb) (by simp)⟩
theorem Bi.ww {w:World}{f d b:Nat}{l:LS}{lv:Value}{may:Option (By×PL)}{ops:List Ag}(h:Bi w f d b l lv may ops){wv tv ov a:Value}{wr:List (Nat×By)}{tr c tx:List By}(e0:l.r0=Vb wv wr)(e2:l.r2=Cv tv tr)(e3:l.r3=Cv ov c)(e:l.r4=Cv a tx):Yd w f wv tv ov a wr tr c tx:=by
 have r0:=h.row 0 (by decide);have r2:=h.row 2 (by decide);have r3:=h.row 3 (by decide);have r4:=h.row 4 (by decide);rw[show l.row 0=Vb wv wr from e0]at r0;rw[show l.row 2=Cv tv tr from e2]at r2;rw[show l.row 3=Cv ov c from e3]at r3;rw[show l.row 4=Cv a tx from e]at r4;refine⟨h.at_.lt,?_,?_,?_,?_,r0,r2,r3,r4⟩
 ·rw[h.at_.c 9];show some l.r0.v=_;rw[e0];rfl
 ·rw[h.at_.c 13];show some l.r2.v=_;rw[e2];rfl
 ·rw[h.at_.c 14];show some l.r3.v=_;rw[e3];rfl
 ·rw[h.at_.c 15];show some l.r4.v=_;rw[e];rfl
theorem Awo (q:Nat)(wv tv ov a8:Value)(wr:List (Nat×By))(tr a tx:List By)(t pass:By)(w:World)(p:Yd w q wv tv ov a8 wr tr a tx)(hk:Br w 1 .u32 Gk)(h0:Br w 0 .u32 Jv)(o:t.length=256)(y:pass.length<=40)(Q:∀e∈wr,e.2.length=256)(P:a.length=wr.length)(ar:a.length<=9000000):
  Cl 47 #[.pointer (some ⟨q,0,none⟩),.string ⟨t.toArray⟩,.string ⟨pass.toArray⟩] w fun e w'=>e=.returned (.bool (Py wr a t pass))/\Bw w w':=by
 have b2:(ByteArray.mk t.toArray).size=256:=o;have ca:(ByteArray.mk pass.toArray).size=pass.length:=rfl;have c9:w.cell? ⟨q,9,none⟩=some wv:=p.c9;have c14:w.cell? ⟨q,14,none⟩=some ov:=p.c14;obtain⟨bh,ax,F⟩:=Abl p.o_;rw[F]at c14;have bi:(ByteArray.mk t.toArray).extract 0 128=⟨(t.take 128).toArray⟩:=by rw[Zd];simp
 have bl:(ByteArray.mk t.toArray).extract 4 20=⟨(Bs t).toArray⟩:=by rw[Zd];rfl
 have az:(ByteArray.mk t.toArray).extract 0 61=⟨(t.take 61).toArray⟩:=by rw[Zd];simp
 have br:(ByteArray.mk t.toArray).extract 61 93=⟨((t.drop 61).take 32).toArray⟩:=by rw[Zd]
 have d:=Aa (Ab p (Ab Q (Ab P (Ab ar F))));have bp:=Aa (Ab hk (Ab h0 (Ab o y)));have b5:(a.length:Int)<=9000000:=by omega
 have b7:(pass.length:Int)<=40:=by omega
 clear p hk h0 o y Q P ar F;go_enter Tryz.func47,Tryz.ntmps47;go_wp2_with fail
 go_loopw [7] (fun i ba=>∃k n:Nat,k<=a.length/\i=.int .i64 (k:Int)/\ba=w.drewN n/\∀i,i<k->¬Aik wr a t pass i) (fun i _=>a.length-(intOf i).toNat)
 case atStart=>exact⟨0,0,by omega,rfl,rfl,fun i b=>by omega⟩
 case round=>
  obtain⟨k,n,bg,rfl,rfl,N⟩:=hrel;have E:=Aa N;clear N;by_cases r:k<a.length
  ·obtain⟨j,H⟩:∃j,a[k]?=some j:=⟨a[k],Az r⟩;obtain⟨⟨b4,f⟩,hy⟩:∃f,wr[k]?=some f:=⟨wr[k]'(by have:=d.o.2.2.1;omega),Az _⟩;have bx:(ByteArray.mk f.toArray).size=256:=d.o.2.1 _ (Hs hy);obtain⟨g,cc,D,bf,a3,b6,K⟩:=Abc d.o.1.o_ (by rintro rfl;simp at r);rw[d.o.2.2.2.2]at D;simp only[Value.slice.injEq,true_and]at D;obtain⟨rfl,rfl⟩:=D;obtain⟨bu,cw,X,a9,a5,b1,O⟩:=Afu d.o.1.w_ (by rintro rfl;have h:=d.o.2.2.1;rw[Ov]at h;omega);rw[X,<-d.o.2.2.1]at c9;have b9:=K k j H;have a0:=(O k _ hy).2;simp only at a0;have cd:(ByteArray.mk f.toArray).extract 0 128=⟨(f.take 128).toArray⟩:=by rw[Zd];simp
   have b0:(k:Int)<(a.length:Int):=by omega
   have z:=Aa r;have v:=Aa (Ab H hy);clear K O r H hy a3 a5 bf a9 X bl az br;generalize b8:a.length=L at*;generalize aa:f.take 128=Y at*;generalize au:t.take 128=T at*;have aj:=Aa aa;have ae:=Aa au;clear aa au;by_cases h1:(Y==T)=true
   ·by_cases h2:(j==pass)=true
    ·go_wp2_with fail;go_quiet (fail);go_wp2_with fail;go_ret;refine⟨?_,Bp (Bp (Ah _ _) _) _⟩
     have:Py wr a t pass=false:=by unfold Py;rw[if_pos ⟨k,j,_,v.o.1,v.o.2,by rw[aj.o,ae.o];exact beq_iff_eq.1 h1,beq_iff_eq.1 h2⟩]
     rw[this];rfl
    ·have bd:(j==pass)=false:=by simpa using h2
     clear h2;go_wp2_with fail;go_quiet (fail);go_wp2_with fail
     go_roundw
     case rel=>exact⟨k+1,n+nq,by have:=z.o;omega,by go_num,by simp[World.drewN],fun i b=>by
      rcases Xx (Xy b)with e|rfl
      ·exact E.o i e
      ·rintro⟨bb,ay,m,s,_,rfl⟩;rw[v.o.1]at m
       injection m with m
       subst m
       simp at bd⟩
     case measure=>have:=z.o;simp[intOf];omega
   ·have a2:(Y==T)=false:=by simpa using h1
    clear h1;go_wp2_with fail;go_quiet (fail);go_wp2_with fail
    go_roundw
    case rel=>exact⟨k+1,n+nq,by have:=z.o;omega,by go_num,by simp[World.drewN],fun i b=>by
      rcases Xx (Xy b)with e|rfl
      ·exact E.o i e
      ·rintro⟨bb,ay,m,s,am,_⟩;rw[v.o.2]at s
       injection s with s
       subst s;rw[aj.o,ae.o]at am;subst am
       simp at a2⟩
    case measure=>have:=z.o;simp[intOf];omega
  ·obtain rfl:k=a.length:=by omega
   have bv:decide ((a.length:Int)<(a.length:Int))=false:=by simp
   obtain⟨w1,A⟩:=nmd (w.drewN n);have u:Bw w w1:=A▸Bp (Ah _ _) n;have bw:w1.cell? ⟨q,14,none⟩=some (.slice bh a.length ax):=A▸c14;obtain⟨hk,h0,o,y⟩:=bp.o;have G:=hk.below u hk.lt;have C:=h0.below u h0.lt;obtain⟨w2,av⟩:=nmd (w1.alloc (.cells #[.int .u8 (pass.length:Int)] 5))
   have R:Bo w2 w1.heap.size 5 .u8 [pass.length]:=av▸Bo.new w1 _ _ [pass.length] _ rfl (fun i b=>by
    match i,b with
    |0,_=>simp)
   have ag:=Qh (cap:=1) R;simp only[Db,Lc,Fh,Ov,Dq]at ag;have c:Bw w1 w2:=av▸(Ah _ _).alloc (Ak _) _;have U:=fun w=>Xo [UInt8.ofNat pass.length] pass (by simp;omega) w;have bm:[UInt8.ofNat pass.length]++pass=Af pass.length 1++pass:=by rw[Zb]
   rw[bm]at U;have I:=Aa (Ap1 (Af pass.length 1++pass) (Bs t) 3 64 w2 (G.below c G.lt) (C.below c C.lt) (by simp[Cb];omega) (by simp[Bs];omega) (by decide) (by decide));have W:Su (Af pass.length 1++pass) (Bs t) 3 64=Pi pass (Bs t):=rfl;rw[show(64:Int).toNat=64 from rfl,W]at I;have bs:(ByteArray.mk (Pi pass (Bs t)).toArray).size=64:=Adn _ _ _ _;have cb:(ByteArray.mk (Pi pass (Bs t)).toArray).extract 0 32=⟨(Bn pass (Bs t)).toArray⟩:=by rw[Zd];rfl
   have ai:=Ai6 pass (Bs t);have ao:=Aa (Ab (u.trans (c.mono u.size)) (Ab hk h0));have bj:=Aa ai;generalize V:Bn pass (Bs t)=TT at*;generalize Pi pass (Bs t)=ST at*;have be:=Aa V;clear V W;generalize Z:Bs t=SA at*;have bn:=Aa Z;clear Z;generalize Af pass.length 1++pass=PP at*;clear hk h0 o y u c G C R c9 c14 bi r bg ai;rw[A];clear A;go_wp2_with fail;refine I.o.mono ?_;rintro e bc ⟨rfl,l⟩;obtain⟨c,hk,h0⟩:=ao.o;have x:=c.trans (l.mono c.size);have S:=Aa (Ag4 TT bc (hk.below x hk.lt) (h0.below x h0.lt) (by rw[bj.o];decide));have aq:=Aa (Ab x (Ab hk h0));clear c hk h0 l x I ao ag U;go_wp2_with fail;refine S.o.mono ?_;rintro e M ⟨bt,a4,a6,bk,a7,rfl,al,ce,b3,ac,ad,af,ak,an⟩;obtain⟨l,hk,h0⟩:=aq.o;have ap:Ln M bt TT:=⟨a4,a6,bk,a7,al,ac,ad,af,ak⟩;have J:=l.trans (an.mono l.size);have ab:=Aa (Alz bt TT (t.take 61) M ap (hk.below J hk.lt) (by simp;omega));have ah:=Aa J;clear l hk h0 al ac ad af ak an J ap S aq;go_wp2_with fail;refine ab.o.mono ?_;rintro e bz ⟨rfl,aw⟩;have a1:=ah.o.trans (aw.mono ah.o.size);clear ab aw;go_wp2_with fail;go_ret;refine⟨?_,a1⟩
   have bo:¬ ∃i,Aik wr a t pass i:=by
    rintro⟨i,b⟩
    have bq:i<a.length:=by obtain⟨j,f,h1,_⟩:=b;exact(Ds.1 h1).1
    exact E.o i bq b
   have:Py wr a t pass=(Jk TT (t.take 61)==(t.drop 61).take 32):=by unfold Py;rw[if_neg bo,bn.o,be.o]
   rw[this];rfl
theorem A1r (l:Nat)(ba a9 di bo:Value)(f:List (Nat×By))(tr ae tx:List By)(a c:Nat)(t pass:By)(w:World)(an:Yd w l ba a9 di bo f tr ae tx)(hk:Br w 1 .u32 Gk)(h0:Br w 0 .u32 Jv)(bf:∀e∈f,e.2.length=256)(ca:∀e∈tr,e.length<=40)(bs:ae.length=f.length)(c6:ae.length<=4000000)(ci:tr.length<=4000000)(cn:tx.length<=4000000)(ck:∀e∈tx,e.length=256)
  (ha:(f.map (·.2)++tx)[a]?=some t) (b8:tr[c]?=some pass) (cb:Py f ae t pass=true):
  Cl 20 #[.pointer (some ⟨l,0,none⟩)] w fun e w'=>e=.returned (.bool true)/\Bw w w':=by
 obtain⟨cj,W,dc,df,bt⟩:=info_parts Adj;have c9:w.cell? ⟨l,9,none⟩=some ba:=an.c9;have av:=an.lt;obtain⟨ep,cw,bm⟩:=Abl an.w_;rw[bm]at c9;have dh:f.length<=4000000:=by omega
 have ex:(f.length:Int)<=4000000:=by omega
 have e0:(tr.length:Int)<=4000000:=by omega
 have m:=Aa (Ab an (Ab hk (Ab h0 (Ab bf (Ab ca (Ab bs (Ab c6 bm)))))));have ax:=Aa (Ab dh ci);obtain⟨d,ai⟩:∃d:List By,f.map (·.2)++tx=d:=⟨_,rfl⟩;rw[ai]at ha;have co:d.length=f.length+tx.length:=by rw[<-ai,Bb,Fi]
 have bx:∀(i:Nat) (b:By),d[i]?=some b->b.length=256:=fun i b W=>by
  rw[<-ai]at W;rcases As.1 (Hs W)with g|g
  ·obtain⟨e,ec,rfl⟩:=Kj.1 g;exact bf e ec
  ·exact ck b g
 have ct:∀(i a2:Nat) (b:By),f[i]?=some (a2,b)->d[i]?=some b:=fun i a2 b W=>by have dp:=(Ds.1 W).1;rw[<-ai,Ja (by rw[Fi];exact dp),Fq,W];rfl
 have b9:(d.map Ac).take f.length++tx.map Ac=d.map Ac:=by rw[<-ai,Lw,Sj (by simp),Du (by simp)]
 have ah:=Aa (Ab ha (Ab b8 cb));have a5:=Aa (Ab co (Ab bx ct));have bb:=Aa (Ab b9 cn);clear an hk h0 bf ca bs c6 ci cn ck ha b8 cb bm dh ai co bx ct b9;go_enter Tryz.func20,Tryz.ntmps20;go_wp2_with fail
 go_loopw [3,4] (fun b5 i w'=>∃k:Nat,k<=f.length/\i=.int .i64 (k:Int)/\w'.ownsRow 0 9 1 b5 k ((d.map Ac).take k)/\(∀j,b5.ownBlock=some j->w.heap.size<=j)/\Bw w w') (fun _ i _=>f.length-(intOf i).toNat)
 case atStart=>exact⟨0,by omega,rfl,by rw[Wb];exact Sn _ _ _ _,(fun j Z=>by cases Z),Ah _ _⟩
 case round=>
  obtain⟨k,hk,rfl,D,r,hb⟩:=hrel;obtain⟨d4,dv,ds⟩:=Abl D;subst ds;by_cases o:k<f.length
  ·obtain⟨⟨a2,b⟩,hy⟩:∃b,f[k]?=some b:=⟨f[k],Az o⟩;obtain⟨dl,eq,bh,b1,d0,ee,cd⟩:=Afu m.o.1.w_ (by rintro rfl;simp at o);rw[m.o.2.2.2.2.2.2.2]at bh;simp only[Value.slice.injEq,true_and]at bh;obtain⟨rfl,rfl⟩:=bh;have c8:=(hb.cell (p:=⟨dl,k*2+1,none⟩) b1).trans (cd k _ hy).2;have cq:=(hb.cell (p:=⟨l,9,none⟩) av).trans c9;simp only at c8;have eo:(k:Int)<(f.length:Int):=by omega
   have cx:=a5.o.2.2 k a2 b hy
   have V:(d.map Ac).take (k+1)=(d.map Ac).take k++[Ac b]:=by
    have am:k<(d.map Ac).length:=by rw[Fi,a5.o.1];omega
    rw[Lr am]
    congr 1
    have:(d.map Ac)[k]?=some (Ac b):=by rw[Fq,cx];rfl
    rw[Az am]at this;rw[Option.some.inj this]
   have P:=Aa (Ab D (Ab r (Ab hb (Ab V o))));clear D r hb V o cd d0 ee b1 hy hk c9 cx;generalize cg:f.length=WL at*;go_wp2_with (at_builtin;refine wpList_append_lies _ rfl _ _ 36 rfl 0 9 cj _ 1 16 Tryz.underlying36 W dc df bt rfl (by decide) (.slice d4 k dv) k ((d.map Ac).take k) rfl ?own ⟨wr.heap.size,0,none⟩ 1 1 [Ac b] rfl rfl ?c1 ?c2 (by decide) ?c3 ?c4 (Cu _) _ rfl ?_)
   case own=>exact P.o.1.alloc _
   case c1=>exact Qt (cs:= #[Ac b]) (heap_alloc_new _ _)
   case c2=>intro u ac;simp at ac;subst ac;rfl
   case c3=>have:=ax.o.1;have:=P.o.2.2.2.2;unfold maxLen;omega
   case c4=>have:=ax.o.1;have:=P.o.2.2.2.2;omega
   intro ap b0 w2 br b4 bz ef;obtain⟨D,r,hb,V,o⟩:=P.o;have az:=hb.size;have ao:Bw w w2:=Below.grown (Below.alloc hb az _) b4 (by simp;omega) r
   have cu:w2.ownsRow 0 9 1 (.slice (some ⟨ap,0,none⟩) (k+1) b0) (k+1) ((d.map Ac).take (k+1)):=by rw[V];exact br
   have cf:∀j,(Value.slice (some ⟨ap,0,none⟩) (k+1) b0).ownBlock=some j->w.heap.size<=j:=fun j Z=>by
    have e:ap=j:=by simpa [Value.ownBlock]using Z
    subst e;rcases bz with e|e
    ·exact r ap e
    ·have:ap=wr.heap.size+1:=by simpa using e
     omega
   have C:=Aa (Ab cu (Ab cf (Ab ao o)));clear D r hb V o br b4 bz ef ao cu cf az P c8 cq;go_wp2_with fail
   go_roundw
   case rel=>first
    |exact⟨k+1,by have:=C.o.2.2.2;omega,by go_num,C.o.1,C.o.2.1,C.o.2.2.1⟩
    |((repeat apply Exists.intro);exact⟨⟨k+1,by have:=C.o.2.2.2;omega,by go_num,C.o.1,C.o.2.1,C.o.2.2.1⟩,rfl⟩)
   case measure=>have:=C.o.2.2.2;simp[intOf];omega
  ·have bg:k=f.length:=by omega
   have cq:=(hb.cell (p:=⟨l,9,none⟩) av).trans c9;have bn:Lo wr bo tx:=Bm (S:=[]) m.o.1.x_ (Kp.of_below hb) (by simp);obtain⟨dn,du,be⟩:=Aao bn;have er:wr.cell? ⟨l,15,none⟩=some (.slice dn tx.length du):=by rw[<-be];exact(hb.cell (p:=⟨l,15,none⟩) av).trans m.o.1.c15
   obtain⟨ea,w1,a8,c7,cl,d6,_⟩:=Yh Ahu 36 D (Kq.of_own bn) (fun u ac=>by obtain⟨z,_,rfl⟩:=Kj.1 ac;rfl) (by have:=ax.o.1;have:=bb.o.2;omega);have cz:Below w.heap.size wr w1:=Zt cl hb.size r;have cm:Bw w w1:=hb.trans cz;have O:d.length=k+tx.length:=by rw[a5.o.1,bg]
   have da:Lo w1 ea d:=by rw[Lo,O,<-bb.o.1,<-bg];exact c7
   have b6:d≠[]:=fun e=>by have h:=ah.o.1;rw[e]at h;simp at h
   obtain⟨E,c0,cv,H,dw,d1,G⟩:=Abc da b6;have N:a<d.length:=(Ds.1 ah.o.1).1;have cr:d.length<=8000000:=by have:=ax.o.1;have:=bb.o.2;omega
   rw[cv,be]at a8;obtain⟨af,bk⟩:=nmd (d.length);rw[bk]at a8 N cr;have dz:=Aa a8;have ek:(af:Int)<=8000000:=by omega
   have P:=Aa (Ab cm (Ab G (Ab bk (Ab N H))));clear D r hb hk c9 b6 G O N H dw d1 da cz cm c7 cl d6 bn a8 cv be bg bk cr;generalize cg:f.length=WL at*;go_wp2_with (at_builtin;refine Hr rfl _ _ rfl _ _ rfl rfl dz.o ?_)
   go_loopw [5,6,7,8,9,10] (fun sv i _ _ _ _ w'=>∃q:Nat,q<=a/\i=.int .i64 (q:Int)/\w'.ownsRow 0 9 1 sv q ((d.map (fun b=>Ac (Dz b))).take q)/\(∀j,sv.ownBlock=some j->w1.heap.size<=j)/\Bw w1 w') (fun _ i _ _ _ _ _=>a+1-(intOf i).toNat)
   case atStart=>exact⟨0,by omega,rfl,by rw[Wb];exact Sn _ _ _ _,(fun j Z=>by cases Z),Ah _ _⟩
   case round=>
    obtain⟨q,A,rfl,D,r,hb⟩:=hrel;obtain⟨d7,dm,eb⟩:=Abl D;subst eb;obtain⟨M,G,O,N,H⟩:=P.o;obtain⟨b,hy⟩:∃b,d[q]?=some b:=⟨d[q]'(by omega),Az _⟩;have y:=a5.o.2.1 q b hy;have d5:wr.cell? ⟨E,q,none⟩=some (Ac b):=(hb.cell (p:=⟨E,q,none⟩) H).trans (G q b hy);have dt:(q:Int)<(af:Int):=by omega
    have d2:q<af:=by omega
    have ag:Bw w wr:=M.trans (hb.mono M.size);have bp:=Aa (Ad3 ⟨b.toArray⟩ wr (m.o.2.1.below ag m.o.2.1.lt) (m.o.2.2.1.below ag m.o.2.2.1.lt) (by show b.length<=_;omega));have bl:Dz (ByteArray.mk b.toArray).data.toList=Dz b:=by simp
    rw[bl]at bp;have bj:=Aa (Ab D (Ab r (Ab hb (Ab A (Ab hy (Ab d2 (Ab y ag)))))));clear M G O N H D r hb A hy y ag bl;generalize bw:Dz b=SY at*;have dq:=Aa bw;clear bw;go_wp2_with fail;refine bp.o.mono ?_;rintro e w2 ⟨rfl,ao⟩;have a0:=Aa ao;clear ao bp d5;go_wp2_with (at_builtin;refine wpList_append_lies _ rfl _ _ 36 rfl 0 9 cj _ 1 16 Tryz.underlying36 W dc df bt rfl (by decide) (.slice d7 q dm) q ((d.map (fun b=>Ac (Dz b))).take q) rfl ?own ⟨w2.heap.size,0,none⟩ 1 1 [Ac SY] rfl rfl ?c1 ?c2 (by decide) ?c3 ?c4 (Cu _) _ rfl ?_)
    case own=>exact Bm bj.o.1 ((Kp.of_below a0.o:Kp [] wr w2).alloc _) (by simp)
    case c1=>exact Qt (cs:= #[Ac SY]) (heap_alloc_new _ _)
    case c2=>intro u ac;simp at ac;subst ac;rfl
    case c3=>unfold maxLen;omega
    case c4=>omega
    intro Q a6 J ch bu dd d8;obtain⟨D,r,hb,A,hy,d9,y,ag⟩:=bj.o;obtain⟨M,G,O,N,H⟩:=P.o;have az:=hb.size;have dy:=a0.o.size;have L:Bw w1 J:=Below.grown (Below.alloc (hb.trans (a0.o.mono hb.size)) (by omega) _) bu (by simp;omega) r
    have V:(d.map (fun b=>Ac (Dz b))).take (q+1)=(d.map (fun b=>Ac (Dz b))).take q++[Ac SY]:=by
     have am:q<(d.map (fun b=>Ac (Dz b))).length:=by rw[Fi];omega
     rw[Lr am]
     congr 1
     have:(d.map (fun b=>Ac (Dz b)))[q]?=some (Ac SY):=by rw[Fq,hy,<-dq.o];rfl
     rw[Az am]at this;rw[Option.some.inj this]
    have aa:J.ownsRow 0 9 1 (.slice (some ⟨Q,0,none⟩) (q+1) a6) (q+1) ((d.map (fun b=>Ac (Dz b))).take (q+1)):=by rw[V];exact ch
    have K:∀j,(Value.slice (some ⟨Q,0,none⟩) (q+1) a6).ownBlock=some j->w1.heap.size<=j:=fun j Z=>by
     have e:Q=j:=by simpa [Value.ownBlock]using Z
     subst e;rcases dd with e|e
     ·exact r Q e
     ·have:Q=w2.heap.size+1:=by simpa using e
      omega
    have aj:∀i x,i<q+1->((d.map (fun b=>Ac (Dz b))).take (q+1))[i]?=some x->J.cell? ⟨Q,i,none⟩=some x:=by obtain⟨el,es,ce,_,hh⟩:=Ax5 aa (by omega);simp only[Value.slice.injEq,Option.some.injEq,Addr.mk.injEq,and_true,true_and]at ce;obtain⟨rfl,rfl⟩:=ce;exact hh
    have C:=Aa (Ab aa (Ab K (Ab L (Ab aj (Ab A (Ab hy (Ab y (M.trans (L.mono M.size)))))))));clear D r hb A hy d9 y ag M G O N H ch bu dd d8 L V aa K aj az dy bj a0;go_wp2_with fail
    go_loopw [8] (fun j w'=>∃i n:Nat,i<=q/\j=.int .i64 (i:Int)/\w'=J.drewN n) (fun j _=>q-(intOf j).toNat)
    case atStart=>exact⟨0,0,by omega,rfl,rfl⟩
    case round=>
     obtain⟨i,n,bv,rfl,rfl⟩:=hrel;obtain⟨aa,K,L,aj,A,hy,y,a7⟩:=C.o;obtain⟨M,G,O,N,H⟩:=P.o;have dj:J.cell? ⟨E,q,none⟩=some (Ac b):=(L.cell (p:=⟨E,q,none⟩) H).trans (G q b hy);by_cases o:i<q
     ·obtain⟨z,hz⟩:∃z,d[i]?=some z:=⟨d[i]'(by omega),Az _⟩;have eu:J.cell? ⟨E,i,none⟩=some (Ac z):=(L.cell (p:=⟨E,i,none⟩) H).trans (G i z hz);have ew:J.cell? ⟨Q,i,none⟩=some (Ac (Dz z)):=aj i _ (by omega) (by rw[Ml (by omega),Fq,hz];rfl);have ez:(i:Int)<(q:Int):=by omega
      have eh:(i:Int)<(af:Int):=by omega
      have em:(i:Int)<(q:Int)+1:=by omega
      have ei:i<af:=by omega
      have au:=Aa o;clear aa K L aj A hy y a7 M G O N H hz bv;generalize Dz z=SZ at*;by_cases e1:(SZ==SY)=true
      ·by_cases e2:(b==z)=true
       ·go_wp2_with fail;go_quiet (fail);go_wp2_with fail
        go_roundw
        case rel=>exact⟨i+1,n+nq,by have:=au.o;omega,by go_num,by simp[World.drewN]⟩
        case measure=>have:=au.o;simp[intOf];omega
       ·have ey:(b==z)=false:=by simpa using e2
        clear e2;go_wp2_with fail;go_quiet (fail);go_wp2_with fail;go_ret;exact⟨rfl,Bp (Bp C.o.2.2.2.2.2.2.2 _) _⟩
      ·have e3:(SZ==SY)=false:=by simpa using e1
       clear e1;go_wp2_with fail;go_quiet (fail);go_wp2_with fail
       go_roundw
       case rel=>exact⟨i+1,n+nq,by have:=au.o;omega,by go_num,by simp[World.drewN]⟩
       case measure=>have:=au.o;simp[intOf];omega
     ·obtain rfl:i=q:=by omega
      have bl:decide ((i:Int)<(i:Int))=false:=by simp
      have bd:J.cell? ⟨l,13,none⟩=some a9:=(a7.cell (p:=⟨l,13,none⟩) av).trans m.o.1.c13;obtain⟨cy,a3,Y⟩:=Abl m.o.1.t_;rw[Y]at bd;obtain⟨I,T⟩:=nmd (J.drewN n);have v:Bw w I:=T▸Bp a7 n;have a4:I.cell? ⟨l,13,none⟩=some (.slice cy tr.length a3):=T▸bd;have bi:I.cell? ⟨E,i,none⟩=some (Ac b):=T▸dj;have ad:E<I.heap.size:=by rw[<-T];have:=L.size;show E<J.heap.size;omega
      have X:c<tr.length:=(Ds.1 ah.o.2.1).1;have ab:I.ownsRow 0 9 1 (.slice (some ⟨Q,0,none⟩) (i+1) a6) (i+1) ((d.map (fun b=>Ac (Dz b))).take (i+1)):=T▸Bm aa ((Kp.refl [] J).drewN n) (by simp);have U:Bw w1 I:=T▸Bp L n;have ak:=Aa (Ab v (Ab ad (Ab X (Ab Y (Ab A (Ab hy (Ab y (Ab ab (Ab K U)))))))));have b2:=Aa (Ab a4 bi);have b3:l<I.heap.size:=by have:=v.size;omega
      clear aa K L aj A hy y a7 M G O N H o bv bd dj Y ad v X ab U C;rw[T];clear T;go_wp2_with fail
      go_loopw [9,10] (fun j _ w'=>∃s:Nat,s<=(if i=a then c else tr.length)/\j=.int .i64 (s:Int)/\Bw I w') (fun j _ _=>tr.length-(intOf j).toNat)
      case atStart=>exact⟨0,by omega,rfl,Ah _ _⟩
      case round=>
       obtain⟨s,aq,rfl,al⟩:=hrel;have dx:wr.cell? ⟨l,13,none⟩=some (.slice cy tr.length a3):=(al.cell (p:=⟨l,13,none⟩) b3).trans a4;by_cases o:s<tr.length
       ·obtain⟨p,ar⟩:∃p,tr[s]?=some p:=⟨tr[s],Az o⟩;obtain⟨v,ad,X,Y,A,hy,y,ab,K,U⟩:=ak.o;obtain⟨a1,ej,bc,b7,ed,d3,c5⟩:=Abc m.o.1.t_ (by rintro rfl;simp at o);rw[Y]at bc;simp only[Value.slice.injEq,true_and]at bc;obtain⟨rfl,rfl⟩:=bc;have bq:p.length<=40:=m.o.2.2.2.2.1 p (Hs ar);have dr:(s:Int)<(tr.length:Int):=by omega
        have ay:=Aa (fun w' (hw:Bw I w')=>Ab ((hw.cell (p:=⟨E,i,none⟩) ad).trans b2.o.2) (Ab ((hw.cell (p:=⟨l,13,none⟩) b3).trans b2.o.1) (((v.trans (hw.mono v.size)).cell (p:=⟨a1,s,none⟩) b7).trans (c5 s p ar))));have dg:=Aa (fun w' (hw:Bw I w')=>Awo l ba a9 di bo f tr ae tx b p w' (m.o.1.below (v.trans (hw.mono v.size))) (m.o.2.1.below (v.trans (hw.mono v.size)) m.o.2.1.lt) (m.o.2.2.1.below (v.trans (hw.mono v.size)) m.o.2.2.1.lt) y bq m.o.2.2.2.1 (by rw[cg];exact m.o.2.2.2.2.2.1) (by have:=m.o.2.2.2.2.2.2.1;omega))
        have cp:i=a->s=c->Py f ae b p=true:=by rintro rfl rfl;have h1:=ah.o.1;rw[hy]at h1;obtain rfl:=Option.some.inj h1;have h2:=ah.o.2.1;rw[ar]at h2;obtain rfl:=Option.some.inj h2;exact ah.o.2.2
        have de:=Aa (Ab cp (Ab aq (Ab o X)));have eg:=Aa al;generalize Py f ae b p=F at*;clear v ad X Y A hy y ab K U b7 ed d3 c5 ar bq cp aq o a4 bi;go_wp2_with fail;refine Jx (fun w'=>Bw I w') (by kernel_rfl) (by kernel_rfl) eg.o.drew ?_;refine Aq 0 (.pointer (some ⟨l,0,none⟩)) ?_;refine Aq 1 (.slice (some ⟨E,0,none⟩) af c0) ?_;refine Aq 2 (.int .i64 i) ?_;refine Cf 3 (.pointer (some ⟨E,i,none⟩)) rfl (by kernel_rfl) rfl (Cp fun w=>Ahf _ _ _ _ E af c0 i rfl (by kernel_rfl) (by kernel_rfl) dt w) ?_;refine Fp 4 (Ac b) Im (fun w hw=>(ay.o w hw).1) ?_;refine Aq 5 (.pointer (some ⟨l,0,none⟩)) ?_;refine Aq 6 (.pointer (some ⟨l,0,none⟩)) ?_;refine Aq 7 (.pointer (some ⟨l,13,none⟩)) ?_;refine Cf 8 (.slice (some ⟨a1,0,none⟩) tr.length a3) rfl (by kernel_rfl) rfl (My fun w hw=>Ad5 _ _ _ _ _ _ rfl (by kernel_rfl) w ((ay.o w hw).2.1)) ?_;refine Aq 9 (.int .i64 s) ?_;refine Cf 10 (.pointer (some ⟨a1,s,none⟩)) rfl (by kernel_rfl) rfl (Cp fun w=>Ahf _ _ _ _ a1 tr.length a3 s rfl (by kernel_rfl) (by kernel_rfl) dr w) ?_;refine Fp 11 (Ac p) Im (fun w hw=>(ay.o w hw).2.2) ?_;refine Cf 12 (.bool F) rfl (by kernel_rfl) rfl (Gb (47) (#[.pointer (some ⟨l,0,none⟩),.string ⟨b.toArray⟩,.string ⟨p.toArray⟩]) (fun _=>by kernel_rfl) fun w hw=>(dg.o w hw).mono fun e w2 h=>⟨h.1,hw.trans (h.2.mono hw.size)⟩) ?_;refine Aq 13 (.bool F) ?_;refine Dv.done (by kernel_rfl) fun ev dk=>?_;simp only[Act.put,Cz,Dg,Co];have db:=Aa dk;clear dk ay dg dx
        cases F with
        |true=>go_wp2_with fail;go_ret;exact⟨rfl,ak.o.1.trans (db.o.mono ak.o.1.size)⟩
        |false=>
         go_wp2_with fail
         go_roundw
         case rel=>
          refine⟨s+1,?_,by go_num,db.o⟩;obtain⟨h1,h2,en,et⟩:=de.o;split
          ·rename_i e;rw[if_pos e]at h2;have:s≠c:=fun e2=>by simpa using h1 e e2
           omega
          ·omega
         case measure=>have:=de.o.2.2.1;simp[intOf];omega
       ·have aw:i≠a/\s=tr.length:=by
         have X:=ak.o.2.2.1;by_cases e:i=a
         ·rw[if_pos e]at aq;omega
         ·rw[if_neg e]at aq;exact⟨e,by omega⟩
        obtain⟨aw,rfl⟩:=aw;have e4:decide ((tr.length:Int)<(tr.length:Int))=false:=by simp
        obtain⟨v,ad,X,Y,A,hy,y,ab,K,U⟩:=ak.o;have cc:wr.ownsRow 0 9 1 (.slice (some ⟨Q,0,none⟩) (i+1) a6) (i+1) ((d.map (fun b=>Ac (Dz b))).take (i+1)):=Bm ab (Kp.of_below al:Kp [] I wr) (by simp);have R:=Aa (Ab cc (Ab K (Ab (U.trans (al.mono U.size)) (Ab aw A))));clear v ad X Y A hy y ab K U cc al o aq aw a4 bi;go_wp2_with fail
        go_roundw
        case rel=>first
         |exact⟨i+1,by have:=R.o.2.2.2;omega,by go_num,R.o.1,R.o.2.1,R.o.2.2.1⟩
         |((repeat apply Exists.intro);exact⟨⟨i+1,by have:=R.o.2.2.2;omega,by go_num,R.o.1,R.o.2.1,R.o.2.2.1⟩,rfl⟩)
        case measure=>have:=R.o.2.2.2;simp[intOf];omega
theorem Afm (bW d b:Nat)(l:LS)(e:Nat)(w:World)(h:Hh w bW d b l):
  Cl 26 #[.pointer (some ⟨bW,0,none⟩),.int .i64 e] w fun r w'=>r=.returned (.bool false)/\w'=w:=by
 have i:w.cell? ⟨bW,5,none⟩=some (.bool false):=h.c 5;have j:w.cell? ⟨bW,6,none⟩=some (.bool false):=h.c 6;clear h;by_cases a:e=12
 ·subst a;go_enter Tryz.func26,Tryz.ntmps26;go_wp2_with fail;go_ret;exact⟨rfl,rfl⟩
 ·have f:((e:Int)==12)=false:=by rw[beq_eq_false_iff_ne];omega
  by_cases c:e=8
  ·subst c;go_enter Tryz.func26,Tryz.ntmps26;go_wp2_with fail;go_ret;exact⟨rfl,rfl⟩
  ·have g:((e:Int)==8)=false:=by rw[beq_eq_false_iff_ne];omega
   have k:¬((e:Int)=12):=by omega
   have m:¬((e:Int)=8):=by omega
   clear a c;go_enter Tryz.func26,Tryz.ntmps26;go_wp2_with fail;go_ret;exact⟨rfl,rfl⟩
theorem Aj1 (bW:Nat)(e:Nat)(w:World)(a:e≠12):
  Cl 31 #[.pointer (some ⟨bW,0,none⟩),.int .i64 e] w fun r w'=>r=.returned (.tuple #[])/\w'=w:=by
 have b:((e:Int)==12)=false:=by rw[beq_eq_false_iff_ne];omega
 have c:¬((e:Int)=12):=by omega
 clear a;go_enter Tryz.func31,Tryz.ntmps31;go_wp2_with fail
 first|go_end0|((try simp only[Exit.inBlock,Exit.then]);refine bodyPost_ret (results_none rfl _ _ _) rfl ?_)
 exact⟨rfl,rfl⟩
section
variable {bW d b:Nat}{l:LS}{lv:Value}{may:Option (By×PL)}{ops:List Ag}{w:World}
theorem A37 (key:By)(h:Bi w bW d b l lv may ops)(f:l.opened=false)(c:Cl 30 #[.pointer (some ⟨b,0,none⟩),.string ⟨key.toArray⟩] w fun e w'=>e=.returned (.tuple #[Ac [],.int .i64 3])/\w'=w):
  Cl 14 #[.pointer (some ⟨bW,0,none⟩),.string ⟨key.toArray⟩] w fun e w'=>e=.returned (.bool true)/\w'=w:=by
 have c1:w.cell? ⟨bW,1,none⟩=some (.pointer (some ⟨b,0,none⟩)):=h.at_.c 1;have c3:w.cell? ⟨bW,3,none⟩=some (.bool false):=by rw[<-f];exact h.at_.c 3
 have a:=Aa c;clear h f c;go_enter Tryz.func14,Tryz.ntmps14;go_wp2_with fail;refine a.o.mono ?_;rintro e w1 ⟨rfl,g⟩;rw[g];clear g w1 a;go_wp2_with fail;go_ret;exact⟨rfl,rfl⟩
theorem A08 (key:By)(h:Bi w bW d b l lv may ops)(g:l.opened=true)(hk:¬(1<=key.length/\key.length<=8))(f:Cl 30 #[.pointer (some ⟨b,0,none⟩),.string ⟨key.toArray⟩] w fun e w'=>e=.returned (.tuple #[Ac [],.int .i64 4])/\w'=w):
  Cl 14 #[.pointer (some ⟨bW,0,none⟩),.string ⟨key.toArray⟩] w fun e w'=>e=.returned (.bool true)/\w'=w:=by
 have c1:w.cell? ⟨bW,1,none⟩=some (.pointer (some ⟨b,0,none⟩)):=h.at_.c 1;have c3:w.cell? ⟨bW,3,none⟩=some (.bool true):=by rw[<-g];exact h.at_.c 3
 have c:=Aa f;have k:(ByteArray.mk key.toArray).size=key.length:=rfl;clear h g f;by_cases h0:key=[]
 ·subst h0;clear hk;go_enter Tryz.func14,Tryz.ntmps14;go_wp2_with fail;refine c.o.mono ?_;rintro e w1 ⟨rfl,a⟩;rw[a];clear a w1 c;go_wp2_with fail;go_ret;exact⟨rfl,rfl⟩
 ·have j:(key==[])=false:=by simpa using h0
  have i:1<=key.length:=Pn.2 h0;have hd:decide ((8:Int)<(key.length:Int))=true:=by simp;omega
  clear hk i;generalize key.length=KL at*;go_enter Tryz.func14,Tryz.ntmps14;go_wp2_with fail;refine c.o.mono ?_;rintro e w1 ⟨rfl,a⟩;rw[a];clear a w1 c;go_wp2_with fail;go_ret;exact⟨rfl,rfl⟩
theorem As4 (key:By)(f:Option By)(h:Bi w bW d b l lv may ops)(W:l.opened=true)(h1:1<=key.length)(ah:key.length<=8)(F:Cl 30 #[.pointer (some ⟨b,0,none⟩),.string ⟨key.toArray⟩] w fun e w'=>e=.returned (Kg f)/\Bw w w')
  (C:f=Gm key (ops.foldl Ca (Ic may))) (ha:Ba (Ic may)) (T:(Ic may).length<=1000) (X:ops.length<=1000):
  Cl 14 #[.pointer (some ⟨bW,0,none⟩),.string ⟨key.toArray⟩] w fun e w'=>e=.returned (.bool true)/\Bw w w':=by
 have c1:w.cell? ⟨bW,1,none⟩=some (.pointer (some ⟨b,0,none⟩)):=h.at_.c 1;have az:(ByteArray.mk key.toArray).size=key.length:=rfl
 have ax:(key==[])=false:=by
  cases key with
  |nil=>simp at h1
  |cons _ _=>rfl
 have hd:decide ((8:Int)<(key.length:Int))=false:=by simp;omega
 have U:=Aci ops (Ic may);obtain⟨c,y⟩:=nmd (ops.foldl Ca (Ic may));rw[y]at C U;have af:=Aa (fun w' (hb:Bw w w')=>Ab (h.below hb) (Ahs bW d b l lv may ops w' (h.below hb) ha T X));have Y:∀w',Bw w w'->w'.cell? ⟨bW,3,none⟩=some (.bool true):=fun w' hb=>by rw[<-W];exact(h.below hb).at_.c 3
 have ae:=Aa Y;have M:=Aa C;have ad:=Aa y
 obtain⟨v,e0,D⟩:∃(v:By) (e0:Nat),(Kg f=.tuple #[Ac v,.int .i64 (e0:Int)]/\e0≠12/\(f=none->e0=6/\v=[])/\(∀a,f=some a->e0=0/\v=a)):=by
  cases f with
  |none=>exact⟨[],6,rfl,by decide,fun _=>⟨rfl,rfl⟩,fun a hy=>by cases hy⟩
  |some a=>exact⟨a,0,rfl,by decide,fun hy=>(by cases hy),fun z hz=>by cases hz;exact⟨rfl,rfl⟩⟩
 rw[D.1]at F;have K:=Aa F;have x:=Aa D.2;have ai:c.length<=2000:=by omega
 clear h W h1 ah F C y ha T X U Y D;generalize key.length=KL at*;go_enter Tryz.func14,Tryz.ntmps14;go_wp2_with fail;refine K.o.mono ?_;rintro e w1 ⟨rfl,s⟩;obtain⟨h1,aa⟩:=af.o w1 s;have ag:=ae.o w1 s;have P:=Aa (Afm bW d b l e0 w1 h1.at_);have J:=Aa (Aj1 bW e0 w1 x.o.1);have O:=Aa aa;have H:=Aa s;clear h1 aa s K;go_wp2_with fail;refine P.o.mono ?_;rintro r w2 ⟨rfl,n⟩;rw[n];clear n w2 P;go_wp2_with fail;refine J.o.mono ?_;rintro r w2 ⟨rfl,n⟩;rw[n];clear n w2 J;go_wp2_with fail;refine O.o.mono ?_;rintro r w2 ⟨a1,rfl,u,_,R⟩;rw[ad.o]at u;obtain⟨la,a0,an⟩:=Aao u;subst an;have Q:=H.o.trans (R.mono H.o.size)
 have ac:=Aa (show ∀i a,c[i]?=some a->∃g,la=some ⟨g,0,none⟩/\w2.cell? ⟨g,i*2,none⟩=some (Ac a.1)/\w2.cell? ⟨g,i*2+1,none⟩=some (Ac a.2)from fun i a hy=>by
  obtain⟨g,cap,ap,aj⟩:=Vn u (by rintro rfl;simp at hy);cases ap
  exact⟨g,rfl,aj i a hy⟩)
 have I:=Aa Q;clear u R Q O ag;obtain⟨N,A⟩:=nmd (c.length);have L:=Aa A;rw[A]at ai⊢;clear A;have av:(N:Int)<=2000:=by omega
 go_wp2_with fail
 go_loopw [9] (fun i wr=>∃k:Nat,k<=N/\i=.int .i64 (k:Int)/\wr=w2/\∀j a,j<k->c[j]?=some a->a.1≠key) (fun i _=>(5000-intOf i).toNat)
 case atStart=>exact⟨0,by omega,rfl,rfl,fun j a h=>by omega⟩
 case round=>
  obtain⟨k,hk,rfl,aq,p⟩:=hrel;subst aq;by_cases V:k<N
  ·obtain⟨a,hy⟩:∃a,c[k]?=some a:=⟨c[k]'(by rw[L.o];exact V),Az _⟩;obtain⟨g,rfl,ar,au⟩:=ac.o k a hy;have ay:(k:Int)<(N:Int):=by omega
   simp only[Ac]at ar au;have o:=Aa (Ab p hy);clear p hy
   cases Z:(a.1==key)with
   |true=>
    have ab:a.1=key:=by simpa using Z
    have m:f=some a.2:=by
     rw[M.o];unfold Gm;have ao:c=c.take k++a::c.drop (k+1):=by rw[<-Lg o.o.2,Jb]
     have ak:c.find? (fun e=>e.1==key)=some a:=by
      rw[ao,List.find?_append]
      have h0:(c.take k).find? (fun e=>e.1==key)=none:=List.find?_eq_none.2 (fun z hz=>by
       obtain⟨j,t,al⟩:=List.mem_take_iff_getElem.1 hz;have:=o.o.1 j z (by omega) (by rw[Az (by omega),al])
       simpa using this)
      rw[h0,List.find?_cons_of_pos (by simpa using ab)];rfl
     rw[ak];rfl
    obtain⟨E,G⟩:=x.o.2.2 a.2 m;subst E;subst G;clear ab m;go_wp2_with fail;go_ret;exact⟨by simp,I.o⟩
   |false=>
    go_wp2_with fail;refine⟨⟨k+1,by omega,by first|rfl|push_cast;rfl,by first|trivial|rfl,fun j z t hz=>?_⟩,by simp only[intOf];omega⟩;rcases Xx (Xy t)with q|rfl
    ·exact o.o.1 j z q hz
    ·rw[o.o.2]at hz;cases hz;simpa using Z
  ·have am:k=N:=by omega
   subst am
   have m:f=none:=by
    rw[M.o]
    exact Abv (fun z hz=>by
     obtain⟨j,S,t⟩:=List.getElem_of_mem hz
     exact p j z (by rw[<-L.o];exact S) (by rw[Az S,t]))
   obtain⟨E,G⟩:=x.o.2.1 m;subst E;subst G;have aw:decide ((k:Int)<(k:Int))=false:=by simp
   clear p m V;go_wp2_with fail;go_ret;exact⟨rfl,I.o⟩
end
end Go.Proofs.YtojgilcdgccojaaGreatDoor
