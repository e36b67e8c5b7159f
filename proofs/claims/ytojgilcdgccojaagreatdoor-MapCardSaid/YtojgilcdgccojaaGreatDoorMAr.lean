import Derived.Deep.AppendLies
import Derived.Laws.OwnMore
import Derived.Test.YtojgilcdgccojaaGreatDoorAl
import Derived.Test.YtojgilcdgccojaaGreatDoorMAq
import Derived.Test.YtojgilcdgccojaaGreatDoorMAg
import Derived.Test.YtojgilcdgccojaaGreatDoorMAk
set_option linter.unusedSimpArgs false
set_option maxRecDepth 100000
set_option maxHeartbeats 8000000
namespace Go.Proofs.YtojgilcdgccojaaGreatDoor
open Go.RowKit
structure EG where
 key:By
 value:By
 place:Nat
 digest:By
 child:Option Nat
def Jg (c:Option Nat):Value:=.pointer (c.map fun c=>⟨c,0,none⟩)
def EG.cells (e:EG):List Value:=Oh e.key e.value e.place e.digest (Jg e.child)
def Dy (es:List EG):List Value:=es.flatMap EG.cells
theorem EG.cells_len (e:EG):e.cells.length=5:=rfl
theorem EG.one (e:EG):∀u∈e.cells,u.oneCell'=true:=by intro u a;simp[EG.cells,Oh,Jg]at a;rcases a with rfl|rfl|rfl|rfl|rfl<;>rfl
theorem Vs (es:List EG):(Dy es).length=es.length*5:=by
 induction es with
 |nil=>rfl
 |cons a l ih=>simp only[Dy,Da,Bb,Fh,EG.cells_len]at ih⊢;omega
theorem A38 (es:List EG):∀u∈Dy es,u.oneCell'=true:=fun u a=>by obtain⟨e,_,h⟩:=Vz.1 a;exact e.one u h
theorem Aq1:∀(es:List EG) (i j:Nat) (e:EG),es[i]?=some e->j<5->(Dy es)[i*5+j]?=e.cells[j]?
 | [],i,j,e,h,_=>by simp at h
 |a::es,0,j,e,h,hj=>by
  simp at h;subst h;simp only[Dy,Da];rw[Ja (by rw[EG.cells_len];omega)]
  congr 1;omega
 |a::es,i+1,j,e,h,hj=>by
  simp only[Ab7]at h;have ih:=Aq1 es i j e h hj;simp only[Dy,Da]at ih⊢;rw[If (by rw[EG.cells_len];omega),EG.cells_len,<-ih]
  congr 1
  omega
theorem Ae2 (a b:List EG):Dy (a++b)=Dy a++Dy b:=by simp[Dy]
theorem Arp (es:List EG)(i:Nat):(Dy es).take (i*5)=Dy (es.take i):=by
 rcases Hv i es.length with h|h
 ·have e:Dy es=Dy (es.take i)++Dy (es.drop i):=by rw[<-Ae2,Jb]
  have a:(Dy (es.take i)).length=i*5:=by rw[Vs,Fr,Ss (by omega)]
  rw[e,Sj (by omega),Du (by omega)]
 ·rw[Du (by rw[Vs];omega),Du h]
theorem Avo (es:List EG)(i:Nat):(Dy es).drop (i*5)=Dy (es.drop i):=by
 rcases Hv i es.length with h|h
 ·have e:Dy es=Dy (es.take i)++Dy (es.drop i):=by rw[<-Ae2,Jb]
  have a:(Dy (es.take i)).length=i*5:=by rw[Vs,Fr,Ss (by omega)]
  rw[e,Oo (by omega),Io (by omega),Hu]
 ·rw[Io (by rw[Vs];omega),Io h];rfl
theorem Ao2:∀(es:List EG) (i j:Nat) (e b:EG) (v:Value),es[i]?=some e->j<5->b.cells=e.cells.set j v->(Dy es).set (i*5+j) v=Dy (es.set i b)
 | [],i,j,e,b,v,h,_,_=>by simp at h
 |a::es,0,j,e,b,v,h,hj,he=>by
  simp at h;subst h;simp only[Dy,Da,Co];rw[List.set_append_left _ _ (by rw[EG.cells_len];omega),he]
  congr 2;omega
 |a::es,i+1,j,e,b,v,h,hj,he=>by
  simp only[Ab7]at h;have ih:=Ao2 es i j e b v h hj he;simp only[Dy,Da,Dg]at ih⊢;rw[Lu _ _ (by rw[EG.cells_len];omega),EG.cells_len,<-ih]
  congr 2
  omega
structure Av (w:World)(n:Nat)(leaf:Bool)(place:Nat)(digest:By)(es:List EG)(ev:Value):Prop where
 node:Hf w n leaf place digest ev
 own:w.ownsRow 0 142 5 ev es.length (Dy es)
 ne:∀j,ev.ownBlock=some j->j≠n
def Aw.eg (e:Aw):EG:=⟨e.key,e.value,e.place,e.digest,none⟩
theorem Arv (es:List Aw):Dy (es.map Aw.eg)=Uo es:=by
 induction es with
 |nil=>rfl
 |cons a l ih=>simp only[Dy,Uo,Db,Da]at ih⊢;rw[ih];rfl
section
variable {w w':World}{n:Nat}{leaf:Bool}{place:Nat}{digest:By}{es:List EG}{ev:Value}
theorem Gx.nd {es:List Aw}(h:Gx w n leaf place digest es ev):Av w n leaf place digest (es.map Aw.eg) ev:=⟨h.node,by rw[Arv,Fi];exact h.own,h.ne⟩
theorem Av.blk (h:Av w n leaf place digest es ev)(h0:es≠[]):∃a cap cur,ev=.slice (some ⟨a,0,none⟩) es.length cap/\w.heap[a]?=some (.cells cur 142 (0,0))/\es.length<=cap/\cap<=maxLen/\cur.size=cap*5/\cur.toList.take (es.length*5)=Dy es/\a≠n:=by
 rcases h.own.2 with⟨_,e⟩|⟨g,cap,cur,b,_,hb,i,f,d,c⟩
 ·exact absurd (Ls.1 e) h0
 ·exact⟨g,cap,cur,b,hb,i,f,d,c,h.ne g (by rw[b];rfl)⟩
theorem Av.row (h:Av w n leaf place digest es ev)(h0:es≠[]):∃a cap,ev=.slice (some ⟨a,0,none⟩) es.length cap/\a<w.heap.size/\a≠n/\es.length<=cap/\cap<=maxLen/\
  (∀i e,es[i]?=some e->∀j,j<5->w.cell? ⟨a,i*5+j,none⟩=e.cells[j]?)/\(∀i,w.frozen? ⟨a,i,none⟩=false):=by
 obtain⟨g,cap,cur,d,hb,f,l,o,c,k⟩:=h.blk h0;refine⟨g,cap,d,lt_of_block hb,k,f,l,?_,fun i=>by simp[World.frozen?,hb]⟩;intro i e b j m;have p:i<es.length:=(Ds.1 b).1;rw[cell_of_row _ _ _ _ _ _ hb,<-Aq1 es i j e b m,<-c,Ml (by omega)];simp
theorem Av.kp {S:List Nat}(h:Av w n leaf place digest es ev)(hk:Kp S w w')(h1:n∉S)(h2:∀j,ev.ownBlock=some j->j∉S):Av w' n leaf place digest es ev:=
 ⟨h.node.of_block (hk.block n h.node.lt h1),Bm h.own hk h2,h.ne⟩
theorem Av.below (h:Av w n leaf place digest es ev)(hb:Bw w w'):Av w' n leaf place digest es ev:=h.kp (S:=[]) (Kp.of_below hb) (by simp) (by simp)
theorem Av.cell (h:Av w n leaf place digest es ev){b cap:Nat}(f:ev=.slice (some ⟨b,0,none⟩) es.length cap)(i j:Nat)(e c:EG)(v:Value)(d:es[i]?=some e)(r:j<5)(k:c.cells=e.cells.set j v):
  Av (w.setCell ⟨b,i*5+j,none⟩ v) n leaf place digest (es.set i c) ev:=by
 have s:i<es.length:=(Ds.1 d).1;obtain⟨g,t,cur,a,hb,q,p,o,l,m⟩:=h.blk (by rintro rfl;simp at s);rw[f]at a;simp only[Value.slice.injEq,Option.some.injEq,Addr.mk.injEq,and_true,true_and]at a;obtain⟨rfl,rfl⟩:=a;refine⟨h.node.of_block (Nf _ _ _ _ (Ne.symm m)),⟨by rw[Vs,Ht],.inr ⟨b,cap,cur.setIfInBounds (i*5+j) v,by rw[f,Ht],Cu _,Cx hb _ _,by rw[Ht];exact q,p,by simpa using o,?_⟩⟩,h.ne⟩;rw[Ht,<-Ao2 es i j e c v d r k,<-l];rw[Aae,List.take_set]
theorem Av.link (h:Av w n leaf place digest es ev)(p:Nat)(d:By):Av ((w.setCell ⟨n,1,none⟩ (.int .i64 p)).setCell ⟨n,2,none⟩ (Ac d)) n leaf p d es ev:=by have b:Kp [n] w ((w.setCell ⟨n,1,none⟩ (.int .i64 p)).setCell ⟨n,2,none⟩ (Ac d)):=((Kp.refl [n] w).setCell n 1 _ (.inl (by simp))).setCell n 2 _ (.inl (by simp));exact⟨(h.node.set1 p).set2 d,Bm h.own b (fun j a=>by have:=h.ne j a;simpa using this),h.ne⟩
theorem Av.row3 (h:Av w n leaf place digest es ev){es':List EG}{ev':Value}(b:w.ownsRow 0 142 5 ev' es'.length (Dy es'))(a:∀j,ev'.ownBlock=some j->j≠n):Av (w.setCell ⟨n,3,none⟩ ev') n leaf place digest es' ev':=by have d:Kp [n] w (w.setCell ⟨n,3,none⟩ ev'):=(Kp.refl [n] w).setCell n 3 _ (.inl (by simp));exact⟨h.node.set3 ev',Bm b d (fun j c=>by have:=a j c;simpa using this),a⟩
def Ad (n:Nat)(ev:Value):List Nat:=n::ev.ownBlock.toList
theorem Av.bound (h:Av w n leaf place digest es ev){j:Nat}(a:j∈Ad n ev):j<w.heap.size:=by
 simp only[Ad,Al,Bf]at a;rcases a with rfl|e
 ·exact h.node.lt
 ·exact Hl h.own j e
end
theorem Aao {w:World}{B T s n:Nat}{v:Value}{xs:List Value}(h:w.ownsRow B T s v n xs):∃a cap,v=.slice a n cap:=by
 rcases h.2 with⟨b,c⟩|⟨g,cap,cur,b,_⟩
 ·exact⟨none,0,by rw[b,c]⟩
 ·exact⟨_,cap,b⟩
def Fe (w:World)(v:Value)(es:List EG):Prop:=(v=.slice none 0 0/\es=[])\/∃a c,v=.slice (some a) es.length c/\∀j u,(Dy es)[j]?=some u->w.cell? (a.add j)=some u
theorem Fe.below {w w':World}{v:Value}{es:List EG}(h:Fe w v es)(hb:Bw w w'):Fe w' v es:=by
 rcases h with h|⟨e,c,a,b⟩
 ·exact .inl h
 ·refine .inr ⟨e,c,a,fun j u d=>?_⟩;have h1:=b j u d;exact(hb.cell (Ab8 w _ h1)).trans h1
theorem Fe.of_own {w:World}{v:Value}{es:List EG}(h:w.ownsRow 0 142 5 v es.length (Dy es)):Fe w v es:=by
 rcases h.2 with⟨a,d⟩|⟨g,cap,cur,a,_,hb,f,k,e,c⟩
 ·exact .inl ⟨a,Ls.1 d⟩
 ·refine .inr ⟨_,cap,a,fun j u b=>?_⟩;have i:j<es.length*5:=by rw[<-Vs];exact(Ds.1 b).1
  rw[show(⟨g,0,none⟩:Addr).add j=⟨g,j,none⟩from by simp[Addr.add];omega,cell_of_row _ _ _ _ _ _ hb,<-b,<-c,Ml (by omega)];simp
theorem An0 (w:World)(a:TypeInfo)(f:Tryz.prog.info? 142=some a)(z:Value)(o:a.zero=some z)(l:z.cells.size=5)(p:a.size=5)(g:a.bytes=64)(e:TypeId)(v x:Value)(n:Nat)(xs:List Value)(es:List EG)(d:w.ownsRow 0 142 5 v n xs)(k:Fe w x es)(q:n+es.length<=1000):
  ∃b w',(Builtin.append_ #[136,136] e #[v,x]).run Tryz.prog w=.ok b w'/\w'.ownsRow 0 142 5 b (n+es.length) (xs++Dy es)/\w.grownBy w' v.ownBlock/\(b.ownBlock=v.ownBlock\/b.ownBlock=some w.heap.size):=by
 rcases k with⟨rfl,rfl⟩|⟨j,c,rfl,m⟩
 ·refine⟨v,w,run_append_owned_none w 0 136 e 142 a 5 Tryz.underlying136 f v n xs d,by simpa [Dy]using d,World.grownBy.refl _ _,.inl rfl⟩
 ·obtain⟨b,w',h1,h2,i,_,h⟩:=run_append_own_at w 0 136 e 142 a z 5 64 Tryz.underlying136 f o p g l (by decide) v n xs d j es.length c (Dy es) (Vs es) m (A38 es) (by unfold maxLen;omega) (by omega) (Cu _);exact⟨b,w',h1,h2,i,h⟩
theorem Zt {H:Nat}{w w':World}{row:Option Nat}(b:w.grownBy w' row)(a:H<=w.heap.size)(hr:∀k,row=some k->H<=k):Below H w w':=Below.grown (Ah H w) b a hr
theorem Hr {w w':World}{c:Value}{t:TypeId}{ops:Array Oper}{rest:List Oper}{b:Oper}{a:Act}{d:Exit->Act->World->Prop}(k:b.guard=none)(s x:Operand)(g:b.op=.call {callee:=.builtin .append,args:= #[s,x],argTypes:= #[t,t]})
  (v e:Value) (f:a.eval s=v) (i:a.eval x=e) (hr:(Builtin.append_ #[t,t] b.type #[v,e]).run Tryz.prog w=.ok c w') (h:wpList Tryz.prog ops d rest (a.put b.dst c) w'):wpList Tryz.prog ops d (b::rest) a w:=by
 refine wpList_plain k fun l j=>?_;unfold Oper.wp execOp;simp only[g,resolve,invoke,builtin,Sem.run_bind,Sem.run_pure,Result.andThen_ok,Wa,Db,Lc,f,i,hr];exact j _ _ h
theorem Vl (l m:Value)(b c:List EG)(w:World)(ha:Fe w l b)(hb:Fe w m c)(F:b.length+c.length<=1000):
  ∃v w',w'.ownsRow 0 142 5 v (b++c).length (Dy (b++c))/\(∀j,v.ownBlock=some j->w.heap.size<=j)/\Bw w w'/\
   Cl 141 #[l,m] w fun e w2=>e=.returned v/\w2=w':=by
 obtain⟨q,n,i,p,g⟩:=info_parts Aj3;obtain⟨o,w1,y,x,D,C⟩:=An0 w q n _ i rfl p g 136 (.slice none 0 0) l 0 [] b (Sn _ _ _ _) ha (by omega);have d:Bw w w1:=Zt D (Ak _) (fun k hk=>by cases hk)
 have h:∀j,o.ownBlock=some j->w.heap.size<=j:=fun j a=>by
  rcases C with e|e
  ·rw[e]at a;cases a
  ·rw[e]at a;cases a;exact Ak _
 obtain⟨E,w2,t,u,s,r⟩:=An0 w1 q n _ i rfl p g 136 o m (0+b.length) ([]++Dy b) c x (hb.below d) (by omega);have f:=d.size;have z:Bw w w2:=d.trans (Zt s f h);refine⟨E,w2,?_,fun j a=>?_,z,?_⟩
 ·rw[Ae2,Bb];simpa using u
 ·rcases r with e|e
  ·exact h j (e▸a)
  ·rw[e]at a;cases a;exact f
 ·have A:=Aa (Ab y t);clear y t x D C d h u s r f z ha hb F n i p g;go_enter Tryz.func141,Tryz.ntmps141;go_wp2_with (at_builtin;first|refine Hr rfl _ _ rfl (.slice none 0 0) l rfl rfl A.o.1 ?_|refine Hr rfl _ _ rfl o m rfl rfl A.o.2 ?_);go_ret;exact⟨rfl,rfl⟩
theorem Afr (c:Oper)(a:Act)(x d:Operand)(be n cap i:Nat)(e:c.op=.slice 136 x none (some d) none)(f:a.eval x=.slice (some ⟨be,0,none⟩) n cap)(hy:a.eval d=.int .i64 (i:Int))(h:i<=n)(g:n<=cap)(b:cap<=maxLen)(w:World):
  (execOp a.eval c).run Tryz.prog w=.ok (.value (.slice (some ⟨be,0,none⟩) i cap)) w:=by
 have h1:(i:Int)<=(cap:Int):=by omega
 have h2:=Tj b;unfold execOp;simp only[e,f,Sp,hy];clear f e hy h g b
 go_simp
theorem Aed (b:Oper)(a:Act)(x c:Operand)(be n cap i d:Nat)(k:(if cap=i then 0 else i*5)=d)(f:b.op=.slice 136 x (some c) none none)(g:a.eval x=.slice (some ⟨be,0,none⟩) n cap)(hy:a.eval c=.int .i64 (i:Int))(j:i<=n)(h:n<=cap)(e:cap<=maxLen)(w:World):
  (execOp a.eval b).run Tryz.prog w=.ok (.value (.slice (some ⟨be,d,none⟩) (n-i) (cap-i))) w:=by
 subst k;have h1:(i:Int)<=(n:Int):=by omega
 have l:(n:Int)<=(cap:Int):=by omega
 have h2:=Tj e;unfold execOp;simp only[f,g,Sp,hy];clear g f hy j h e
 go_simp
 split<;>rfl
section
variable {w:World}{es:List EG}{be cap:Nat}
theorem Fe.lo (h:Fe w (.slice (some ⟨be,0,none⟩) es.length cap) es)(i:Nat)(e:i<=es.length):Fe w (.slice (some ⟨be,0,none⟩) i cap) (es.take i):=by
 rcases h with⟨h,_⟩|⟨g,c,d,f⟩
 ·cases h
 ·cases d;refine .inr ⟨_,cap,by rw[Fr,Ss e],fun j u a=>f j u ?_⟩;rw[<-Arp]at a
  have b:j<i*5:=by have:=(Ds.1 a).1;rw[Fr]at this;omega
  rwa [Ml b]at a
theorem Fe.hi (h:Fe w (.slice (some ⟨be,0,none⟩) es.length cap) es)(i:Nat)(g:es.length<=cap):Fe w (.slice (some ⟨be,if cap=i then 0 else i*5,none⟩) (es.length-i) (cap-i)) (es.drop i):=by
 rcases h with⟨h,_⟩|⟨k,c,d,f⟩
 ·cases h
 ·cases d;refine .inr ⟨_,cap-i,by rw[Nw],fun j u a=>?_⟩;rw[<-Avo,Sm]at a;have b:=(Ds.1 a).1;rw[Vs]at b;have e:¬cap=i:=by omega
  have ha:(⟨be,i*5,none⟩:Addr).add j=(⟨be,0,none⟩:Addr).add (i*5+j):=by
   unfold Addr.add;split
   ·subst_vars
    split
    ·rename_i h0;rw[Pp]at h0;rw[h0]
    ·simp
   ·rw[if_neg (by omega)];simp
  rw[if_neg e,ha];exact f _ u a
end
theorem Abw (b:Oper)(a:Act)(x c:Operand)(U:TypeId)(i j:Int)(d:b.op=.binOp .add 3 x c U)(e:a.eval x=.int .i64 i)(hy:a.eval c=.int .i64 j)(h1: -9223372036854775808<=i+j)(h2:i+j<=9223372036854775807)(w:World):
  (execOp a.eval b).run Tryz.prog w=.ok (.value (.int .i64 (i+j))) w:=by
 unfold execOp;simp only[d,e,hy];clear e hy d
 go_simp
 rw[IntKind.wrap_i64];omega
def two (w0 w1:World)(p:Nat)(w:World):Prop:=(p=0/\w=w0)\/(0<p/\w=w1)
theorem Az6 {P:Program}{w0 w1:World}{m:Sem Next}{v:Value}(f:FuncId)(a:Array Value)(hr:∀w,m.run P w=.ok (.enter f a) w)(b:Calls P f a w0 fun e w2=>e=.returned v/\w2=w1):Rm P (two w0 w1 0) (two w0 w1 (0+1)) m v:=
 Agt f a hr fun w hw=>by
  rcases hw with⟨_,rfl⟩|⟨h,_⟩
  ·exact b.mono fun e w2 h=>⟨h.1,.inr ⟨by omega,h.2⟩⟩
  ·omega
theorem Atw {w0 w1 w:World}{p:Nat}(h:two w0 w1 (p+1) w):w=w1:=by
 rcases h with⟨h,_⟩|⟨_,h⟩
 ·cases h
 ·exact h
theorem Adw (be cap i:Nat)(es:List EG)(w:World)(h:Fe w (.slice (some ⟨be,0,none⟩) es.length cap) es)(q:i<es.length)(d:es.length<=cap)(l:cap<=maxLen)(t:es.length<=100):
  ∃v w',w'.ownsRow 0 142 5 v (es.take i++es.drop (i+1)).length (Dy (es.take i++es.drop (i+1)))/\(∀j,v.ownBlock=some j->w.heap.size<=j)/\Bw w w'/\
   Cl 130 #[.slice (some ⟨be,0,none⟩) es.length cap,.int .i64 (i:Int)] w fun e w2=>e=.returned v/\w2=w':=by
 have hd:Bw w w.drew:=(Ah _ _).drew;have h1:=(h.lo i (by omega)).below hd;have h2:=(h.hi (i+1) d).below hd;obtain⟨v,w1,m,g,hb,b⟩:=Vl _ _ _ _ w.drew h1 h2 (by simp;omega);refine⟨v,w1,m,g,hd.trans hb,?_⟩;obtain⟨f,c⟩:=nmd ((if cap=i+1 then 0 else(i+1)*5));rw[c]at b;have k:=Aa b;have n:=Aa c;have p:(i:Int)+1<=9223372036854775807:=by omega
 have a:=Aa (Ab q (Ab d l));have s:(i:Int)+1=((i+1:Nat):Int):=by omega
 clear h1 h2 h q d l t m g hb b hd c;generalize r:es.length=L at*;go_enter Tryz.func130,Tryz.ntmps130;go_wp2_with fail;refine Gf (two w.drew w1) [7] (by kernel_rfl) (by kernel_rfl) (.inl ⟨rfl,rfl⟩) ?_;refine Am 0 (.slice (some ⟨be,0,none⟩) L cap) ?_;refine Am 1 (.int .i64 i) ?_;refine Em 2 (.slice (some ⟨be,0,none⟩) i cap) rfl (by kernel_rfl) rfl (fun _=>Cp (fun w=>Afr _ _ _ _ be L cap i rfl (by kernel_rfl) (by kernel_rfl) (by have:=a.o;omega) a.o.2.1 a.o.2.2 w)) ?_;refine Am 3 (.slice (some ⟨be,0,none⟩) L cap) ?_;refine Am 4 (.int .i64 i) ?_;refine Em 5 (.int .i64 ((i+1:Nat):Int)) rfl (by kernel_rfl) rfl (fun _=>Cp (fun w=>(Abw _ _ _ _ _ i 1 rfl (by kernel_rfl) (by kernel_rfl) (by omega) p w))) ?_;refine Em 6 (.slice (some ⟨be,f,none⟩) (L-(i+1)) (cap-(i+1))) rfl (by kernel_rfl) rfl (fun _=>Cp (fun w=>Aed _ _ _ _ be L cap (i+1) f n.o rfl (by kernel_rfl) (by kernel_rfl) (by have:=a.o;omega) a.o.2.1 a.o.2.2 w)) ?_;refine Gr 7 (v) rfl (by kernel_rfl) rfl (Az6 141 #[.slice (some ⟨be,0,none⟩) i cap,.slice (some ⟨be,f,none⟩) (L-(i+1)) (cap-(i+1))] (fun _=>by kernel_rfl) k.o) ?_;refine Am 8 (v) ?_;refine Cj.done (by kernel_rfl) fun w2 o=>?_;simp only[Act.put,Cz,Dg,Co];obtain rfl:=Atw o;clear p s a k n o r;go_wp2_with fail;go_ret;exact⟨rfl,rfl⟩
def Ek (l:List World)(p:Nat)(w:World):Prop:=l[min p (l.length-1)]?=some w
theorem Ek.mem {l:List World}{p:Nat}{w:World}(h:Ek l p w):w∈l:=Hs h
theorem Ek.upto {l:List World}{p B:Nat}{w:World}(h:Ek l p w)(b:p<=B)(a:B<l.length):w∈l.take (B+1):=by unfold Ek at h;rw[Ss (by omega)]at h;exact Hs (i:=p) (by rw[Ml (by omega)];exact h)
theorem Ek.eq {l:List World}{p:Nat}{w w0:World}(h:Ek l p w)(h0:l[min p (l.length-1)]?=some w0):w=w0:=Option.some.inj (h.symm.trans h0)
theorem Qb {P:Program}{l:List World}{p:Nat}{m:Sem Next}{v:Value}(w0 w1:World)(h0:l[min p (l.length-1)]?=some w0)(h1:l[min (p+1) (l.length-1)]?=some w1)(hr:m.run P w0=.ok (.value v) w1):Rm P (Ek l p) (Ek l (p+1)) m v:=
 Aym fun w hw=>by rw[hw.eq h0];exact⟨w1,hr,h1⟩
theorem Kv {P:Program}{l:List World}{p:Nat}{m:Sem Next}(w0 w1:World)(h0:l[min p (l.length-1)]?=some w0)(h1:l[min (p+1) (l.length-1)]?=some w1)(hr:m.run P w0=.ok .skip w1):Rm P (Ek l p) (Ek l (p+1)) m undef:=
 Avd fun w hw=>by rw[hw.eq h0];exact⟨w1,hr,h1⟩
theorem Pk {P:Program}{l:List World}{p:Nat}{m:Sem Next}{v:Value}(w0 w1:World)(h0:l[min p (l.length-1)]?=some w0)(h1:l[min (p+1) (l.length-1)]?=some w1)(f:FuncId)(a:Array Value)(hr:∀w,m.run P w=.ok (.enter f a) w)(b:Calls P f a w0 fun e w2=>e=.returned v/\w2=w1):Rm P (Ek l p) (Ek l (p+1)) m v:=
 Agt f a hr fun w hw=>by rw[hw.eq h0];exact b.mono fun e w2 h=>⟨h.1,by rw[h.2];exact h1⟩
theorem Ar8 (b:Oper)(a:Act)(x:Operand)(c0 c1 c2 c3 c4:Value)(c:b.op=.buildSlice 136 1 #[(0,x)])(d:a.eval x=.agg #[c0,c1,c2,c3,c4])(w:World):
  (execOp a.eval b).run Tryz.prog w=.ok (.value (.slice (some ⟨w.heap.size,0,none⟩) 1 1)) (w.alloc (.cells #[c0,c1,c2,c3,c4] 142)):=by
 unfold execOp;simp only[c,Wa,Db,Lc,d];clear d c
 go_simp
theorem Xa {w:World}{b:Nat}{cs:List Value}{t:TypeId}{c:Nat×Nat}(h:w.heap[b]?=some (.cells cs.toArray t c)):w.rangeAt b 0 cs:=fun j d a=>by rw[Dq,cell_of_row _ _ _ _ _ _ h];simpa using a
theorem Aqc {w w':World}{v:Value}{ops:Array Oper}{rest:List Oper}{b:Oper}{a:Act}{c:Exit->Act->World->Prop}(e:b.guard=none)(hr:(execOp a.eval b).run Tryz.prog w=.ok (.value v) w')(h:wpList Tryz.prog ops c rest (a.put b.dst v) w'):wpList Tryz.prog ops c (b::rest) a w:=by refine wpList_plain e fun f d=>?_;unfold Oper.wp;rw[hr,Oper.upon_value];exact d _ _ h
theorem Ak7 (d cap i:Nat)(es:List EG)(e:EG)(w:World)(h:Fe w (.slice (some ⟨d,0,none⟩) es.length cap) es)(F:i<=es.length)(D:es.length<=cap)(S:cap<=maxLen)(ah:es.length<=100):
  ∃v w',w'.ownsRow 0 142 5 v (es.take i++e::es.drop i).length (Dy (es.take i++e::es.drop i))/\(∀j,v.ownBlock=some j->w.heap.size<=j)/\Bw w w'/\
   Cl 134 #[.slice (some ⟨d,0,none⟩) es.length cap,.int .i64 (i:Int),.agg e.cells.toArray] w fun r w2=>r=.returned v/\w2=w':=by
 obtain⟨w1,m⟩:=nmd (w.alloc (.cells e.cells.toArray 142));have V:Bw w w1:=m▸(Ah _ _).alloc (Ak _) _;have P:w1.heap[w.heap.size]?=some (.cells e.cells.toArray 142 (0,0)):=m▸heap_alloc_new w _;obtain⟨w2,s⟩:=nmd (w1.drew);have C:Bw w w2:=s▸V.drew;have p:w2.heap[w.heap.size]?=some (.cells e.cells.toArray 142 (0,0)):=s▸P;obtain⟨b,t⟩:=nmd (w2.alloc (.cells e.cells.toArray 142));have H:Bw w2 b:=t▸(Ah _ _).alloc (Ak _) _;have g:Bw w b:=C.trans (H.mono C.size);have W:b.heap[w2.heap.size]?=some (.cells e.cells.toArray 142 (0,0)):=t▸heap_alloc_new w2 _;have l:b.heap[w.heap.size]?=some (.cells e.cells.toArray 142 (0,0)):=(H.block w.heap.size (lt_of_block p)).trans p;have s1:Fe b (.slice (some ⟨w2.heap.size,0,none⟩) 1 1) [e]:=.inr ⟨_,1,rfl,fun j u J=>Qt W j u (by simpa [Dy]using J)⟩;obtain⟨z,f,N,ae,o,O⟩:=Vl _ _ _ _ b ((h.lo i F).below g) s1 (by simp;omega);have y:Bw w f:=g.trans (o.mono g.size);obtain⟨ag,aa,T,Q,X,E⟩:=Vl z _ _ _ f (Fe.of_own N) ((h.hi i D).below y) (by simp;omega);have Y:=g.size;have ad:=o.size;refine⟨ag,aa,by simpa using T,fun j J=>by have:=Q j J;omega,y.trans (X.mono y.size),?_⟩;obtain⟨Z,I⟩:=nmd ((if cap=i then 0 else i*5));rw[I]at E;have A:=Aa (Ab O E);have c:=Aa (Ab F (Ab D (Ab S I)));have n:=Aa (Ab m (Ab s t));have k:=Aa (Ab p (Ab l ((o.block w.heap.size (lt_of_block l)).trans l)));clear h F D S ah N ae o O y T Q X E Y ad I m s t V C H g P p W l s1;generalize af:es.length=L at*;go_enter Tryz.func134,Tryz.ntmps134;go_wp2_with fail;rw[n.o.1];refine Gf (Ek [w2,b,f]) [4,5] (by kernel_rfl) (by kernel_rfl) (by rw[n.o.2.1];rfl) ?_
 have K:=Aa (show ∀w'∈[w2,b,f],w'.rangeAt w.heap.size 0 e.cells from fun w' hw=>by
  simp only[Al,Cq,or_false]at hw;rcases hw with rfl|rfl|rfl
  ·exact Xa k.o.1
  ·exact Xa k.o.2.1
  ·exact Xa k.o.2.2)
 refine Am 0 (.slice (some ⟨d,0,none⟩) L cap) ?_;refine Am 1 (.int .i64 i) ?_;refine Em 2 (.slice (some ⟨d,0,none⟩) i cap) rfl (by kernel_rfl) rfl (fun _=>Cp (fun w=>Afr _ _ _ _ d L cap i rfl (by kernel_rfl) (by kernel_rfl) c.o.1 c.o.2.1 c.o.2.2.1 w)) ?_;refine Em 3 (.agg e.cells.toArray) rfl (by kernel_rfl) rfl (fun q=>My fun w hw=>Tn _ _ 142 _ _ 0 e.cells rfl (by kernel_rfl) _ Tryz.underlying142 rfl (by kernel_rfl) w (K.o w hw.mem)) ?_;refine Gr 4 (.slice (some ⟨w2.heap.size,0,none⟩) 1 1) rfl (by kernel_rfl) rfl (Qb w2 b rfl rfl (by rw[<-n.o.2.2];exact Ar8 _ _ _ _ _ _ _ _ rfl (by kernel_rfl) w2)) ?_;refine Gr 5 (z) rfl (by kernel_rfl) rfl (Pk b f rfl rfl 141 #[.slice (some ⟨d,0,none⟩) i cap,.slice (some ⟨w2.heap.size,0,none⟩) 1 1] (fun _=>by kernel_rfl) A.o.1) ?_;refine Am 6 (z) ?_;refine Cj.done (by kernel_rfl) fun w' M=>?_;simp only[Act.put,Cz,Dg,Co];obtain rfl:=M.eq (w0:=f) rfl;have U:=Aa (fun(R:Oper) (a:Act) (x G:Operand) (ab:R.op=.slice 136 x (some G) none none) (ac:a.eval x=.slice (some ⟨d,0,none⟩) L cap) (hy:a.eval G=.int .i64 (i:Int)) (w:World)=>Aed R a x G d L cap i Z c.o.2.2.2 ab ac hy c.o.1 c.o.2.1 c.o.2.2.1 w);clear n k K M af;go_wp2_with (refine Aqc rfl (U.o _ _ _ _ rfl (by kernel_rfl) (by kernel_rfl) _) ?_);refine A.o.2.mono ?_;rintro r ai ⟨rfl,rfl⟩;clear U A c;go_wp2_with fail;go_ret;exact⟨rfl,rfl⟩
def Yl (es:List EG):By:=match es with| []=>[]|e::_=>e.key
def En (es:List EG):List By:=es.map EG.key
theorem Ado {α:Type}(p:α->Bool):∀(l:List α) (q:Nat),(∀i x,i<q->l[i]?=some x->p x=true)->q<=l.length->(∀x,l[q]?=some x->p x=false)->(l.takeWhile p).length=q
 | [],q,_,h,_=>by simp at h;subst h;rfl
 |a::l,0,_,_,h=>by rw[Aaf (by simpa using h a rfl)];rfl
 |a::l,q+1,h1,h2,h3=>by rw[Ab5 (h1 0 a (by omega) rfl),Fh,Ado p l q (fun i x c b=>h1 (i+1) x (by omega) (by simpa using b)) (by simpa using h2) (fun x b=>h3 x (by simpa using b))]
theorem Alt (n:Nat)(leaf:Bool)(p:Nat)(d:By)(es:List EG)(ev:Value)(w:World)(h:Av w n leaf p d es ev):
  Cl 109 #[.pointer (some ⟨n,0,none⟩)] w fun e w'=>e=.returned (Ac (Yl es))/\w'=w:=by
 have c3:=h.node.c3
 cases es with
 |nil=>
  have b:ev=.slice none 0 0\/∃g cap,ev=.slice (some ⟨g,0,none⟩) 0 cap:=by
   rcases h.own.2 with⟨b,_⟩|⟨g,cap,_,b,_⟩
   ·exact .inl b
   ·exact .inr ⟨g,cap,b⟩
  clear h;rcases b with rfl|⟨g,cap,rfl⟩
  ·go_enter Tryz.func109,Tryz.ntmps109;go_wp2_with fail;go_ret;exact⟨rfl,rfl⟩
  ·go_enter Tryz.func109,Tryz.ntmps109;go_wp2_with fail;go_ret;exact⟨rfl,rfl⟩
 |cons a es=>
  obtain⟨j,cap,rfl,s,m,l,k,c,i⟩:=h.row (by simp);have r:w.cell? ⟨j,0,none⟩=some (Ac a.key):=c 0 a rfl 0 (by decide);have f:(a::es).length=es.length+1:=rfl;rw[f]at c3;have hz:((((es.length+1:Nat):Int))==0)=false:=by rw[beq_eq_false_iff_ne];omega
  have q:¬(es.length+1=0):=by omega
  have o:(0:Int)<((es.length+1:Nat):Int):=by omega
  clear h c i l k f;generalize es.length+1=L at*;go_enter Tryz.func109,Tryz.ntmps109;go_wp2_with fail;go_ret;exact⟨rfl,rfl⟩
theorem Ahv (n:Nat)(leaf:Bool)(p:Nat)(d:By)(es:List EG)(ev:Value)(k:By)(w:World)(h:Av w n leaf p d es ev)(h0:es≠[])(O:es.length<=100):
  Cl 86 #[.pointer (some ⟨n,0,none⟩),.string ⟨k.toArray⟩] w fun e w'=>e=.returned (.int .i64 (Dk k (En es)))/\w'=w:=by
 have c3:=h.node.c3;obtain⟨K,cap,rfl,T,U,F,N,s,J⟩:=h.row h0;have D:=Pn.2 h0;have R:(es.length:Int)<=100:=by omega
 have E:=Aa s
 have v:∀q,1<=q->q<=es.length->(∀i e,1<=i->i<q->es[i]?=some e->Op.bytesLess k e.key=false)->(∀e,es[q]?=some e->Op.bytesLess k e.key=true)->Dk k (En es)=q-1:=by
  intro q h1 h2 G M;unfold Dk En;rw[<-List.map_tail];refine Ado _ _ _ (fun i x S j=>?_) (by rw[Fi,List.length_tail];omega) (fun x j=>?_)
  ·rw[Fq,List.getElem?_tail,Ig]at j;obtain⟨e,a,rfl⟩:=j;rw[G (i+1) e (by omega) (by omega) a];rfl
  ·rw[Fq,List.getElem?_tail,Ig]at j;obtain⟨e,a,rfl⟩:=j;rw[M e (by rw[<-a];congr 1;omega)];rfl
 have u:=Aa v;have H:=Aa D;clear h s J F N h0 O v D;generalize C:es.length=L at*;have t:=Aa C;clear C;go_enter Tryz.func86,Tryz.ntmps86;go_wp2_with fail
 go_loopw [5,6] (fun I i wr=>∃q:Nat,1<=q/\q<=L/\i=.int .i64 (q:Int)/\I=.int .i64 ((q-1:Nat):Int)/\wr=w/\∀i e,1<=i->i<q->es[i]?=some e->Op.bytesLess k e.key=false) (fun _ i _=>L-(intOf i).toNat)
 case atStart=>exact⟨1,by omega,H.o,rfl,rfl,rfl,fun i e h1 h2=>by omega⟩
 case round=>
  obtain⟨q,y,z,rfl,rfl,rfl,m⟩:=hrel;by_cases o:q<L
  ·obtain⟨e,a⟩:∃e,es[q]?=some e:=⟨es[q]'(by rw[t.o];exact o),Az _⟩;have r:=E.o q e a 0 (by decide);rw[Pp]at r;have V:wr.cell? ⟨K,q*5,none⟩=some (Ac e.key):=r;have P:(q:Int)<(L:Int):=by omega
   have l:=Mk e.key k;have f:=Aa m;have c:=Aa (Ab a (Ab y o));clear r m z a
   cases hb:Op.bytesLess k e.key with
   |true=>rw[hb]at l;simp only[Qy]at l;go_wp2_with fail;go_ret;refine⟨?_,rfl⟩;have:=u.o q c.o.2.1 (by have:=c.o.2.2;omega) f.o (fun A b=>by rw[c.o.1]at b;cases b;exact hb);rw[this];rfl
   |false=>
    rw[hb]at l;simp only[Qx]at l;go_wp2_with fail
    go_roundw
    case rel=>exact⟨q+1,by omega,c.o.2.2,by go_num,by simp,by trivial,fun i A h1 h2 b=>by
     rcases Xx (Xy h2)with g|rfl
     ·exact f.o i A h1 g b
     ·rw[c.o.1]at b;cases b;exact hb⟩
    case measure=>have:=c.o.2.2;simp[intOf];omega
  ·obtain rfl:q=L:=by omega
   have Q:decide ((q:Int)<(q:Int))=false:=by simp
   have f:=Aa (Ab m y);clear m o z;go_wp2_with fail;go_ret;refine⟨?_,rfl⟩
   have:=u.o q f.o.2 (Ak _) f.o.1 (fun e a=>by
    have:=(Ds.1 a).1;rw[t.o]at this
    omega)
   rw[this];rfl
def La (k:By)(es:List EG):Bool:=match es[Bx k (En es)]? with|some e=>e.key==k|none=>false
theorem A3j (k:By)(es:List EG)(q:Nat)(h2:q<=es.length)(d:∀i e,i<q->es[i]?=some e->Op.bytesLess e.key k=true)(c:∀e,es[q]?=some e->Op.bytesLess e.key k=false):Bx k (En es)=q:=by
 unfold Bx En;refine Ado _ _ _ (fun i x f a=>?_) (by rw[Fi];omega) (fun x a=>?_)
 ·rw[Fq,Ig]at a;obtain⟨e,b,rfl⟩:=a;exact d i e f b
 ·rw[Fq,Ig]at a;obtain⟨e,b,rfl⟩:=a;exact c e b
theorem Ahc (n:Nat)(leaf:Bool)(p:Nat)(d:By)(es:List EG)(ev:Value)(k:By)(w:World)(h:Av w n leaf p d es ev)(h0:es≠[])(I:es.length<=100):
  Cl 88 #[.pointer (some ⟨n,0,none⟩),.string ⟨k.toArray⟩] w fun e w'=>e=.returned (.tuple #[.int .i64 (Bx k (En es)),.bool (La k es)])/\∃m,w'=w.drewN m:=by
 have c3:=h.node.c3;obtain⟨G,cap,rfl,N,O,E,H,u,F⟩:=h.row h0;have M:(es.length:Int)<=100:=by omega
 have D:=Aa u;have y:=Aa (A3j k es);clear h u F E H h0 I;generalize C:es.length=L at*;have v:=Aa C;clear C;go_enter Tryz.func88,Tryz.ntmps88;go_wp2_with fail
 go_loopw [6] (fun i wr=>∃q:Nat,q<=L/\i=.int .i64 (q:Int)/\wr=w/\∀i e,i<q->es[i]?=some e->Op.bytesLess e.key k=true) (fun i _=>L-(intOf i).toNat)
 case atStart=>exact⟨0,by omega,rfl,rfl,fun i e h2=>by omega⟩
 case round=>
  obtain⟨q,z,rfl,rfl,o⟩:=hrel;by_cases t:q<L
  ·obtain⟨e,f⟩:∃e,es[q]?=some e:=⟨es[q]'(by rw[v.o];exact t),Az _⟩;have s:=D.o q e f 0 (by decide);rw[Pp]at s;have P:wr.cell? ⟨G,q*5,none⟩=some (Ac e.key):=s;have J:(q:Int)<(L:Int):=by omega
   have x:=Aa o;have j:=Aa (Ab f t);clear s o z f
   cases hb:Op.bytesLess e.key k with
   |true=>
    go_wp2_with fail
    go_roundw
    case rel=>exact⟨q+1,j.o.2,by go_num,by trivial,fun i A h2 c=>by
     rcases Xx (Xy h2)with g|rfl
     ·exact x.o i A g c
     ·rw[j.o.1]at c;cases c;exact hb⟩
    case measure=>have:=j.o.2;simp[intOf];omega
   |false=>
    have b:=y.o q (by have:=j.o.2;omega) x.o (fun A c=>by rw[j.o.1]at c;cases c;exact hb);have l:La k es=(e.key==k):=by unfold La;rw[b,j.o.1]
    have a:=Aa (Ab b l);clear b l
    cases hk:(e.key==k)with
    |true=>go_wp2_with fail;go_quiet (fail);go_wp2_with fail;go_ret2;rw[a.o.1,a.o.2,hk];exact⟨rfl,_,rfl⟩
    |false=>go_wp2_with fail;go_quiet (fail);go_wp2_with fail;go_ret2;rw[a.o.1,a.o.2,hk];exact⟨rfl,_,rfl⟩
  ·obtain rfl:q=L:=by omega
   have K:decide ((q:Int)<(q:Int))=false:=by simp
   have r:es[q]?=none:=by rw[List.getElem?_eq_none_iff,v.o];exact Ak _
   have b:=y.o q (Ak _) o (fun e f=>by rw[r]at f;cases f);have l:La k es=false:=by unfold La;rw[b,r]
   have a:=Aa (Ab b l);clear o t z b l r;go_wp2_with fail;go_quiet (fail);go_wp2_with fail;go_ret2;rw[a.o.1,a.o.2];exact⟨rfl,_,rfl⟩
def Ws (k s:By)(es:List EG):List EG:=
 match es[Bx k (En es)]? with
 |some e=>if e.key=k then es.set (Bx k (En es)) {e with value:=s}else es.take (Bx k (En es))++⟨k,s,0,[],none⟩::es.drop (Bx k (En es))
 |none=>es.take (Bx k (En es))++⟨k,s,0,[],none⟩::es.drop (Bx k (En es))
theorem A1u (k:By)(a:List By):Bx k a<=a.length:=by unfold Bx;exact(List.takeWhile_sublist _).length_le
def Hn (w:World)(ev ev':Value):Prop:=∀j,ev'.ownBlock=some j->ev.ownBlock=some j\/w.heap.size<=j
theorem A2x (n:Nat)(leaf:Bool)(p:Nat)(d:By)(es:List EG)(ev:Value)(k s:By)(w:World)(h:Av w n leaf p d es ev)(h0:es≠[])(x:es.length<=50):
  Cl 132 #[.pointer (some ⟨n,0,none⟩),.string ⟨k.toArray⟩,.string ⟨s.toArray⟩] w fun e w'=>e=.returned (.tuple #[])/\∃ev',Av w' n leaf p d (Ws k s es) ev'/\Kp (Ad n ev) w w'/\Hn w ev ev':=by
 have A:=Aa (Ahc n leaf p d es ev k w h h0 (by omega));obtain⟨a,cap,rfl,aj,z,i,o,f,l⟩:=h.row h0;have al:=h.node.lt;have O:Bx k (En es)<=es.length:=by have:=A1u k (En es);simpa [En]using this
 have J:=Aa (Ab h (Ab x (Ab i (Ab o (Ab z (Ab f l))))));clear h h0 x i o z f l;by_cases I:La k es=true
 ·have u:=I;unfold La at u
  obtain⟨e,C⟩:∃e,es[Bx k (En es)]?=some e:=by
   cases T:es[Bx k (En es)]? with
   |none=>rw[T]at u;cases u
   |some e=>exact⟨e,rfl⟩
  rw[C]at u;have N:e.key=k:=by simpa using u
  have D:Ws k s es=es.set (Bx k (En es)) {e with value:=s}:=by unfold Ws;rw[C];simp only;rw[if_pos N]
  rw[I]at A;generalize R:Bx k (En es)=q at*;have ac:q<es.length:=(Ds.1 C).1;have ah:(q:Int)<(es.length:Int):=by omega
  have G:=Aa (Ab C D);clear u C D N I O ac R;generalize F:es.length=L at*;have g:=Aa F;clear F;go_enter Tryz.func132,Tryz.ntmps132;go_wp2_with fail;refine A.o.mono ?_;rintro r w1 ⟨rfl,m,rfl⟩;obtain⟨h,x,i,o,z,f,l⟩:=J.o;have b:=h.below (Bp (Ah _ _) m);have c3:=b.node.c3;have c1:=f q e G.o.1 1 (by decide);have ad:(w.drewN m).cell? ⟨a,q*5+1,none⟩=some (Ac e.value):=c1;have f1:(w.drewN m).frozen? ⟨a,q*5+1,none⟩=false:=l (q*5+1);obtain⟨w1,t⟩:=nmd (w.drewN m);have c:=b.cell (by rw[g.o]) q 1 e {e with value:=s} (Ac s) G.o.1 (by decide) rfl;have y:Kp (Ad n (.slice (some ⟨a,0,none⟩) L cap)) w ((w.drewN m).setCell ⟨a,q*5+1,none⟩ (Ac s)):=((Kp.refl _ w).drewN m).setCell a _ _ (.inl (by simp[Ad,Value.ownBlock]));rw[t]at c3 ad f1 c y;have v:=Aa (Ab c y);clear h x i o z f l b c1 c y A J;rw[t];clear t;go_wp2_with fail
  first|go_end0|((try simp only[Exit.inBlock,Exit.then]);refine bodyPost_ret (results_none rfl _ _ _) rfl ?_)
  exact⟨rfl,_,by rw[G.o.2];exact v.o.1,v.o.2,fun j E=>.inl E⟩
 ·have H:La k es=false:=by simpa using I
  rw[H]at A
  have D:Ws k s es=es.take (Bx k (En es))++⟨k,s,0,[],none⟩::es.drop (Bx k (En es)):=by
   unfold Ws
   cases T:es[Bx k (En es)]? with
   |none=>rfl
   |some e=>simp only;rw[if_neg];intro N;unfold La at H;rw[T]at H;simp[N]at H
  have G:=Aa D;generalize R:Bx k (En es)=q at*;have ae:=Aa O;clear I H D O R;generalize F:es.length=L at*;have g:=Aa F;clear F;go_enter Tryz.func132,Tryz.ntmps132;go_wp2_with fail;refine A.o.mono ?_;rintro r w1 ⟨rfl,m,rfl⟩;obtain⟨h,x,i,o,z,f,l⟩:=J.o;obtain⟨w1,t⟩:=nmd (w.drewN m);have M:Bw w w1:=t▸Bp (Ah _ _) m;have b:=h.below M;have c3:=b.node.c3;have Y:Fe w1 (.slice (some ⟨a,0,none⟩) es.length cap) es:=by rw[g.o];exact Fe.of_own b.own
  obtain⟨ag,w2,K,U,Q,P⟩:=Ak7 a cap q es ⟨k,s,0,[],none⟩ w1 Y (by rw[g.o];exact ae.o) (by rw[g.o];exact i) o (by rw[g.o];omega);obtain⟨Z,S⟩:=nmd (es.take q++(⟨k,s,0,[],none⟩:EG)::es.drop q);rw[S]at K;obtain⟨W,X,rfl⟩:=Aao K;have ab:=Aa S;clear S;rw[g.o]at P;have c:=b.below Q;have ak:=c.node.c3;have af:=c.node.fr 3;have hz:=M.size;have aa:=c.row3 K (fun j E=>by have:=U j E;omega);have y:Kp (Ad n (.slice (some ⟨a,0,none⟩) L cap)) w (w2.setCell ⟨n,3,none⟩ (.slice W Z.length X)):=((Kp.of_below M).trans (Kp.of_below Q)).setCell n 3 _ (.inl (by simp[Ad]));have V:=Aa P;have v:=Aa (Ab aa (Ab y (show Hn w (.slice (some ⟨a,0,none⟩) L cap) (.slice W Z.length X)from fun j E=>.inr (by have:=U j E;omega))));clear h x i o z f l b Y K U Q P c aa y A J hz M;rw[t];clear t;go_wp2_with fail;refine V.o.mono ?_;rintro r ai ⟨rfl,rfl⟩;clear V c3;go_wp2_with fail
  first|go_end0|((try simp only[Exit.inBlock,Exit.then]);refine bodyPost_ret (results_none rfl _ _ _) rfl ?_)
  exact⟨rfl,_,by rw[G.o,ab.o];exact v.o.1,v.o.2.1,v.o.2.2⟩
theorem Ah2 (d:Oper)(a:Act)(x:Operand)(b c:Nat)(v:Value)(e:d.op=.load 4 x)(f:a.eval x=.pointer (some ⟨b,c,none⟩))(w:World)(g:w.cell? ⟨b,c,none⟩=some v):
  (execOp a.eval d).run Tryz.prog w=.ok (.value v) w:=by
 unfold execOp;simp only[e,f];clear f e
 go_simp
theorem Jt (d:Oper)(a:Act)(x:Operand)(b c:Nat)(v:Value)(e:d.op=.load 136 x)(f:a.eval x=.pointer (some ⟨b,c,none⟩))(w:World)(g:w.cell? ⟨b,c,none⟩=some v):
  (execOp a.eval d).run Tryz.prog w=.ok (.value v) w:=by
 unfold execOp;simp only[e,f];clear f e
 go_simp
theorem A0e (b:Oper)(a:Act)(x:Operand)(c0 c1 c2 c3:Value)(c:b.op=.box 138 x)(d:a.eval x=.agg #[c0,c1,c2,c3])(w:World):
  (execOp a.eval b).run Tryz.prog w=.ok (.value (.pointer (some ⟨w.heap.size,0,none⟩))) (w.alloc (.cells #[c0,c1,c2,c3] 138)):=by
 unfold execOp;simp only[c,d];clear d c
 go_simp
theorem Asd (n:Nat)(leaf:Bool)(p:Nat)(d:By)(es:List EG)(ev:Value)(w:World)(h:Av w n leaf p d es ev)(c:es.length<=5):
  Cl 133 #[.pointer (some ⟨n,0,none⟩)] w fun e w'=>e=.returned (.pointer none)/\w'=w:=by
 have c3:=h.node.c3;obtain⟨a,cap,rfl⟩:=Aao h.own;have b:(es.length:Int)<=5:=by omega
 clear h;generalize es.length=L at*;go_enter Tryz.func133,Tryz.ntmps133;go_wp2_with fail;go_ret;exact⟨rfl,rfl⟩
theorem Am3 (n:Nat)(leaf:Bool)(p:Nat)(d:By)(es:List EG)(ev:Value)(w:World)(h:Av w n leaf p d es ev)(J:es.length=6):
  Cl 133 #[.pointer (some ⟨n,0,none⟩)] w fun e w'=>∃r f a,e=.returned (.pointer (some ⟨r,0,none⟩))/\Av w' n leaf p d (es.take 3) f/\Av w' r leaf 0 [] (es.drop 3) a/\Kp [n] w w'/\w.heap.size<=r/\(∀j,f.ownBlock=some j->w.heap.size<=j/\j∉Ad r a)/\(∀j,a.ownBlock=some j->w.heap.size<=j):=by
 have c3:=h.node.c3;have c0:=h.node.c0;have a0:=h.node.lt;obtain⟨l,cap,rfl,az,aw,G,an,ah,aj⟩:=h.row (by rintro rfl;simp at J);have b:Bw w w.drew:=(Ah _ _).drew;obtain⟨w0,N⟩:=nmd (w.drew);rw[N]at b;have Q:Fe w (.slice (some ⟨l,0,none⟩) es.length cap) es:=Fe.of_own h.own;obtain⟨T,I⟩:=nmd ((if cap=3 then 0 else 3*5));have O:=(Q.hi 3 G).below b;rw[I]at O;obtain⟨ay,w1,m,R,ag,ac⟩:=Vl _ (.slice none 0 0) _ [] w0 O (.inl ⟨rfl,rfl⟩) (by simp;omega);rw[Ff]at m;obtain⟨g,V⟩:=nmd (es.drop 3);rw[V]at m;obtain⟨s,v,rfl⟩:=Aao m;have k:Bw w w1:=b.trans (ag.mono b.size);obtain⟨w2,F⟩:=nmd (w1.alloc (.cells #[.bool leaf,.int .i64 0,.string ⟨#[]⟩,.slice s g.length v] 138));have C:Bw w1 w2:=F▸(Ah _ _).alloc (Ak _) _;have i:Bw w w2:=k.trans (C.mono k.size);have ad:w2.heap[w1.heap.size]?=some (.cells #[.bool leaf,.int .i64 0,.string ⟨#[]⟩,.slice s g.length v] 138 (0,0)):=F▸heap_alloc_new w1 _;have W:Av w2 w1.heap.size leaf 0 [] g (.slice s g.length v):=⟨⟨ad⟩,Bm m (Kp.of_below C:Kp [] w1 w2) (by simp),fun j c=>by have:=Hl m j c;omega⟩;have af:=(Q.lo 3 (by omega)).below i;obtain⟨av,u,o,P,K,Y⟩:=Vl _ (.slice none 0 0) _ [] w2 af (.inl ⟨rfl,rfl⟩) (by simp;omega);rw[Ff]at o;obtain⟨t,M⟩:=nmd (es.take 3);rw[M]at o;obtain⟨E,A,rfl⟩:=Aao o;have L:Bw w u:=i.trans (K.mono i.size);have x:=h.below L;have ax:=x.node.fr 3;have am:=x.node.c3;have e3:=(h.below i).node.c3;have ae:=k.size;have ai:=C.size;have aa:=x.row3 o (fun j c=>by have:=P j c;omega);have ab:=(W.below K).kp (S:=[n]) ((Kp.refl [n] u).setCell n 3 (.slice E t.length A) (.inl (by simp))) (by simp;omega) (fun j c=>by have:=R j c;have:=b.size;simp;omega);have y:Kp [n] w (u.setCell ⟨n,3,none⟩ (.slice E t.length A)):=(Kp.of_below L).setCell n 3 _ (.inl (by simp))
 have Z:∃r f a,Av (u.setCell ⟨n,3,none⟩ (.slice E t.length A)) n leaf p d t f/\Av (u.setCell ⟨n,3,none⟩ (.slice E t.length A)) r leaf 0 [] g a/\r=w1.heap.size/\w.heap.size<=r/\(∀j,f.ownBlock=some j->w.heap.size<=j/\j∉Ad r a)/\(∀j,a.ownBlock=some j->w.heap.size<=j):=
  ⟨_,_,_,aa,ab,rfl,ae,fun j c=>by
   have h1:=P j c;refine⟨by omega,fun ak=>?_⟩;have:=W.bound ak
   omega,fun j c=>by have:=R j c;have:=b.size;omega⟩
 have ao:=Aa (Ab Z (Ab y (Ab M V)));have z:=Aa (Ab ac Y);have H:=Aa (Ab N F);have D:=Aa (Ab G (Ab an I))
 have cells:∀w'∈[w0,w1,w2],w'.cell? ⟨n,0,none⟩=some (.bool leaf)/\w'.cell? ⟨n,3,none⟩=some (.slice (some ⟨l,0,none⟩) 6 cap):=fun w' hw=>by
  simp only[Al,Cq,or_false]at hw;rw[<-J];rcases hw with rfl|rfl|rfl
  ·exact⟨(h.below b).node.c0,(h.below b).node.c3⟩
  ·exact⟨(h.below k).node.c0,(h.below k).node.c3⟩
  ·exact⟨(h.below i).node.c0,(h.below i).node.c3⟩
 have U:=Aa cells;rw[J]at c3 am e3 z;have au:(6:Int)<=(cap:Int):=by omega
 clear h ah aj Q O m R ag ac k C i ad W af o P K Y L x ae ai aa ab y Z b N F M V I cells G;go_enter Tryz.func133,Tryz.ntmps133;go_wp2_with fail;refine Gf (Ek [w0,w1,w2]) [10,12] (by kernel_rfl) (by kernel_rfl) (by rw[H.o.1];rfl) ?_;refine Am 0 (.pointer (some ⟨n,0,none⟩)) ?_;refine Am 1 (.pointer (some ⟨n,0,none⟩)) ?_;refine Am 2 (.pointer (some ⟨n,0,none⟩)) ?_;refine Gv 3 (.bool leaf) Ah2 (fun q w hw=>(U.o w hw.mem).1) ?_;refine Am 4 (.pointer (some ⟨n,0,none⟩)) ?_;refine Am 5 (.pointer (some ⟨n,0,none⟩)) ?_;refine Am 6 (.pointer (some ⟨n,3,none⟩)) ?_;refine Gv 7 (.slice (some ⟨l,0,none⟩) 6 cap) Jt (fun q w hw=>(U.o w hw.mem).2) ?_;refine Am 8 (.int .i64 3) ?_;refine Em 9 (.slice (some ⟨l,T,none⟩) (6-3) (cap-3)) rfl (by kernel_rfl) rfl (fun _=>Cp (fun w=>Aed _ _ _ _ l 6 cap 3 T D.o.2.2 rfl (by kernel_rfl) (by kernel_rfl) (by decide) (by have:=D.o.1;omega) D.o.2.1 w)) ?_;refine Gr 10 (.slice s g.length v) rfl (by kernel_rfl) rfl (Pk w0 w1 rfl rfl 141 #[.slice (some ⟨l,T,none⟩) (6-3) (cap-3),.slice none 0 0] (fun _=>by kernel_rfl) z.o.1) ?_;refine Am 11 (.agg #[.bool leaf,.int .i64 0,.string ⟨#[]⟩,.slice s g.length v]) ?_;refine Gr 12 (.pointer (some ⟨w1.heap.size,0,none⟩)) rfl (by kernel_rfl) rfl (Qb w1 w2 rfl rfl (by rw[<-H.o.2];exact A0e _ _ _ _ _ _ _ rfl (by kernel_rfl) w1)) ?_;refine Am 13 (.pointer (some ⟨w1.heap.size,0,none⟩)) ?_;refine Cj.done (by kernel_rfl) fun w' X=>?_;simp only[Act.put,Cz,Dg,Co];obtain rfl:=X.eq (w0:=w2) rfl;clear H U X;go_wp2_with fail;refine z.o.2.mono ?_;rintro r ar ⟨rfl,rfl⟩;clear z D;go_wp2_with fail;go_ret;obtain⟨⟨r,f,a,h1,h2,rfl,al,aq,ap⟩,y,rfl,rfl⟩:=ao.o;exact⟨_,f,a,rfl,h1,h2,y,al,aq,ap⟩
theorem Up (d:Oper)(a:Act)(T:TypeId)(x e:Operand)(b c:Nat)(cs:List Value)(h:d.op=.store T x e)(i:a.eval x=.pointer (some ⟨b,c,none⟩))(hy:a.eval e=.agg cs.toArray)(g:(Tryz.prog.info? T).map (·.size)=some cs.length)(h1:∀u∈cs,u.oneCell'=true)(w:World)(f:w.there b c cs.length):
  (execOp a.eval d).run Tryz.prog w=.ok .skip (w.setCells b c cs):=by
 unfold execOp;simp only[h,i,hy];have:=run_storeAt_mid (P:=Tryz.prog) w b c T cs.toArray (by simpa using f) (by simpa using g) (all_oneCell_toArray h1);simp only[this,Sem.run_bind,Sem.run_pure,Result.andThen_ok]
theorem Ail {w:World}{b:Nat}{c:Array Value}{t:TypeId}(h:w.heap[b]?=some (.cells c t (0,0)))(a n:Nat)(e:a+n<=c.size):w.there b a n:=fun j d=>by
 refine⟨?_,by simp[World.frozen?,h]⟩;rw[cell_of_row _ _ _ _ _ _ h];have:a+j<c.size:=by omega
 simp[this]
def entFor (n:Nat)(p:Nat)(d:By)(es:List EG):EG:=⟨Yl es,[],p,d,some n⟩
theorem Abz (n:Nat)(leaf:Bool)(p:Nat)(d:By)(es:List EG)(ev:Value)(w:World)(h:Av w n leaf p d es ev):
  ∃w',Bw w w'/\Cl 114 #[.pointer (some ⟨n,0,none⟩)] w fun e w2=>e=.returned (.agg (entFor n p d es).cells.toArray)/\w2=w':=by
 obtain⟨w0,c⟩:=nmd (w.alloc (.cells #[.string ⟨#[]⟩,.string ⟨#[]⟩,.int .i64 0,.string ⟨#[]⟩,.pointer none] 142));have r:Bw w w0:=c▸(Ah _ _).alloc (Ak _) _;have k:w0.heap[w.heap.size]?=some (.cells #[.string ⟨#[]⟩,.string ⟨#[]⟩,.int .i64 0,.string ⟨#[]⟩,.pointer none] 142 (0,0)):=c▸heap_alloc_new w _;obtain⟨w1,f⟩:=nmd (w0.drew);have b:Bw w w1:=f▸r.drew;have j:w1.heap[w.heap.size]?=some (.cells #[.string ⟨#[]⟩,.string ⟨#[]⟩,.int .i64 0,.string ⟨#[]⟩,.pointer none] 142 (0,0)):=f▸k;obtain⟨w2,g⟩:=nmd (w1.setCells w.heap.size 0 (entFor n p d es).cells);have a:Bw w w2:=g▸b.trans (Ec w1 w.heap.size w.heap.size 0 _ (Ak _));have t:w2.heap[w.heap.size]?=some (.cells (entFor n p d es).cells.toArray 142 (0,0)):=g▸Agf j _ rfl;refine⟨w2,a,?_⟩
 have l:=Aa (fun w' (hw:w'∈[w1,w2])=>Alt n leaf p d es ev w' (by
  simp only[Al,Cq,or_false]at hw;rcases hw with rfl|rfl
  ·exact h.below b
  ·exact h.below a))
 have s:=Aa (fun w' (hw:w'∈[w1,w2])=>show w'.rangeAt n 1 [.int .i64 (p:Int),Ac d]from by
  simp only[Al,Cq,or_false]at hw;rcases hw with rfl|rfl
  ·exact Uy (h.below b).node.c1 (h.below b).node.c2
  ·exact Uy (h.below a).node.c1 (h.below a).node.c2)
 have i:=Aa (Ab c (Ab f g));have u:=Aa (Ab j t);have o:=Aa (entFor n p d es).one;clear h r k b j a t c f g;go_enter Tryz.func114,Tryz.ntmps114;go_wp2_with fail;rw[i.o.1];refine Gf (Ek [w1,w2]) [8] (by kernel_rfl) (by kernel_rfl) (by rw[i.o.2.1];rfl) ?_;refine Am 0 (.pointer (some ⟨n,0,none⟩)) ?_;refine Em 1 (Ac (Yl es)) rfl (by kernel_rfl) rfl (fun q=>Gb (109) (#[.pointer (some ⟨n,0,none⟩)]) (fun _=>by kernel_rfl) fun w hw=>(l.o w hw.mem).mono fun e w2 h=>⟨h.1,h.2▸hw⟩) ?_;refine Am 2 (.pointer (some ⟨n,0,none⟩)) ?_;refine Am 3 (.pointer (some ⟨n,0,none⟩)) ?_;refine Am 4 (.pointer (some ⟨n,1,none⟩)) ?_;refine Em 5 (.agg #[.int .i64 (p:Int),Ac d]) rfl (by kernel_rfl) rfl (fun q=>My fun w hw=>Tn _ _ 60 _ n 1 [.int .i64 (p:Int),Ac d] rfl (by kernel_rfl) _ Tryz.underlying60 rfl (by kernel_rfl) w (s.o w hw.mem)) ?_;refine Am 6 (.pointer (some ⟨n,0,none⟩)) ?_;refine Am 7 (.agg (entFor n p d es).cells.toArray) ?_;refine Kr 8 rfl (by kernel_rfl) rfl (Kv w1 w2 rfl rfl (by rw[<-i.o.2.2];exact Up _ _ 142 _ _ w.heap.size 0 _ rfl (by kernel_rfl) (by kernel_rfl) (by kernel_rfl) o.o w1 (Ail u.o.1 0 5 (by decide)))) ?_;refine Cj.done (by kernel_rfl) fun w' m=>?_;simp only[Act.put,Cz,Dg,Co];obtain rfl:=m.eq (w0:=w2) rfl;clear l s i o m;go_wp2_with fail;exact bodyPost_ret (v:=.agg (entFor n p d es).cells.toArray) (Mf Tryz.results114 _ _ w.heap.size 0 _ _ rfl (Xa u.o.2) Tryz.underlying142 rfl (by kernel_rfl)) rfl ⟨rfl,rfl⟩
theorem Abd {w w':World}{c:Value}(b:Oper)(a:Act)(s x:Operand)(t:TypeId)(v d:Value)(f:b.op=.call {callee:=.builtin .append,args:= #[s,x],argTypes:= #[t,t]})(e:a.eval s=v)(g:a.eval x=d)(hr:(Builtin.append_ #[t,t] b.type #[v,d]).run Tryz.prog w=.ok c w'):
  (execOp a.eval b).run Tryz.prog w=.ok (.value c) w':=by
 unfold execOp;simp only[f,resolve,invoke,builtin,Sem.run_bind,Sem.run_pure,Result.andThen_ok,Wa,Db,Lc,e,g,hr]
theorem Ax4 (d:Oper)(a:Act)(x:Operand)(b c:Nat)(v:Value)(e:d.op=.load 24 x)(f:a.eval x=.pointer (some ⟨b,c,none⟩))(w:World)(g:w.cell? ⟨b,c,none⟩=some v):
  (execOp a.eval d).run Tryz.prog w=.ok (.value v) w:=by
 unfold execOp;simp only[e,f];clear f e
 go_simp
theorem A3b (e:Oper)(a:Act)(x f:Operand)(b d:Nat)(s:Option Addr)(n c:Nat)(u:Value)(g:e.op=.store 24 x f)(h:a.eval x=.pointer (some ⟨b,d,none⟩))(hy:a.eval f=.slice s n c)(w:World)(j:w.cell? ⟨b,d,none⟩=some u)(i:w.frozen? ⟨b,d,none⟩=false):
  (execOp a.eval e).run Tryz.prog w=.ok .skip (w.setCell ⟨b,d,none⟩ (.slice s n c)):=by
 unfold execOp;simp only[g,h,hy];clear h g hy
 go_simp
theorem A1s (b:Oper)(a:Act)(x:Operand)(i:Int)(c:b.op=.buildSlice 24 1 #[(0,x)])(d:a.eval x=.int .i64 i)(w:World):
  (execOp a.eval b).run Tryz.prog w=.ok (.value (.slice (some ⟨w.heap.size,0,none⟩) 1 1)) (w.alloc (.cells #[.int .i64 i] 3)):=by
 unfold execOp;simp only[c,Wa,Db,Lc,d];clear d c
 go_simp
abbrev Pv (w:World)(v:Value)(l:List Nat):Prop:=w.ownsRow 0 3 1 v l.length (Aj .i64 l)
theorem Aan (bw b lk:Nat)(top rv:Value)(ch:Bool)(rl:List Nat)(n:Nat)(leaf:Bool)(p:Nat)(d:By)(es:List EG)(ev:Value)(w:World)(hw:Dj w bw b lk top rv ch)(hr:Pv w rv rl)(h:Av w n leaf p d es ev)
  (h1:bw≠n) (h2:∀j,rv.ownBlock=some j->j≠bw/\j∉Ad n ev) (G:∀j,ev.ownBlock=some j->j≠bw) (au:rl.length<=100000):
  Cl 129 #[.pointer (some ⟨bw,0,none⟩),.pointer (some ⟨n,0,none⟩)] w fun e w'=>e=.returned (.tuple #[])/\∃f,Dj w' bw b lk top f ch/\Pv w' f (rl++nz p)/\Av w' n leaf 0 [] es ev/\Kp (bw::n::rv.ownBlock.toList) w w'/\Hn w rv f/\(∀j,f.ownBlock=some j->j≠bw/\j∉Ad n ev):=by
 have c1:=h.node.c1;have ax:=h.node.lt;have D:=hw.lt;obtain⟨i,cr,an⟩:=Aao hr;subst an
 have W:∀(c:World) (f:Value),Dj c bw b lk top f ch->Pv c f (rl++nz p)->Av c n leaf p d es ev->Kp (bw::n::(Value.slice i rl.length cr).ownBlock.toList) w c->Hn w (.slice i rl.length cr) f->(∀j,f.ownBlock=some j->j≠bw/\j∉Ad n ev)->
   ∃f,Dj ((c.setCell ⟨n,1,none⟩ (.int .i64 (0:Nat))).setCell ⟨n,2,none⟩ (Ac [])) bw b lk top f ch/\Pv ((c.setCell ⟨n,1,none⟩ (.int .i64 (0:Nat))).setCell ⟨n,2,none⟩ (Ac [])) f (rl++nz p)/\Av ((c.setCell ⟨n,1,none⟩ (.int .i64 (0:Nat))).setCell ⟨n,2,none⟩ (Ac [])) n leaf 0 [] es ev/\Kp (bw::n::(Value.slice i rl.length cr).ownBlock.toList) w ((c.setCell ⟨n,1,none⟩ (.int .i64 (0:Nat))).setCell ⟨n,2,none⟩ (Ac []))/\Hn w (.slice i rl.length cr) f/\(∀j,f.ownBlock=some j->j≠bw/\j∉Ad n ev):=by
  intro c f P k ao am ak V;have K:Kp [n] c ((c.setCell ⟨n,1,none⟩ (.int .i64 (0:Nat))).setCell ⟨n,2,none⟩ (Ac [])):=((Kp.refl [n] c).setCell n 1 _ (.inl (by simp))).setCell n 2 _ (.inl (by simp));exact⟨f,P.of_block (K.block bw P.lt (by simpa using h1)),Bm k K (fun j a=>by have:=(V j a).2;simp[Ad]at this;simpa using this.1),ao.link 0 [],am.trans (K.mono (fun j a=>by simp at a;simp[a])),ak,V⟩
 have x:=Aa W;clear W;by_cases F:p=0
 ·subst F;have I:=Aa (x.o w (.slice i rl.length cr) hw (by simpa [nz]using hr) h (Kp.refl _ _) (fun j a=>.inl a) h2);have c2:=h.node.c2;have f1:=h.node.fr 1;have f2:=h.node.fr 2;clear hw hr h h1 h2 G x;go_enter Tryz.func129,Tryz.ntmps129;go_wp2_with fail
  first|go_end0|((try simp only[Exit.inBlock,Exit.then]);refine bodyPost_ret (results_none rfl _ _ _) rfl ?_)
  exact⟨rfl,I.o⟩
 ·have aq:((p:Int)==0)=false:=by rw[beq_eq_false_iff_ne];omega
  obtain⟨ap,T,X,aa,R⟩:=info_parts Akr;obtain⟨w0,E⟩:=nmd (w.drew);have s:Bw w w0:=E▸(Ah _ _).drew;obtain⟨w1,z⟩:=nmd (w0.alloc (.cells #[.int .i64 (p:Int)] 3));have S:Bw w0 w1:=z▸(Ah _ _).alloc (Ak _) _;have r:Bw w w1:=s.trans (S.mono s.size);have ae:w1.heap[w0.heap.size]?=some (.cells #[.int .i64 (p:Int)] 3 (0,0)):=z▸heap_alloc_new w0 _;have af:Pv w1 (.slice i rl.length cr) rl:=Bm hr (Kp.of_below r:Kp [] w w1) (by simp);obtain⟨ar,w2,U,L,ab,_,Q⟩:=run_append_own_at w1 0 24 24 3 ap _ 1 8 Tryz.underlying24 T X aa R rfl (by decide) (.slice i rl.length cr) rl.length (Aj .i64 rl) af ⟨w0.heap.size,0,none⟩ 1 1 [.int .i64 (p:Int)] rfl (Qt (cs:= #[.int .i64 (p:Int)]) ae) (by intro u ai;simp at ai;subst ai;rfl) (by unfold maxLen;omega) (by omega) (Cu _);obtain⟨k,o,rfl⟩:=Aao L;have aj:=r.size;have y:Kp (Value.slice i rl.length cr).ownBlock.toList w w2:=(Kp.of_below r).grown ab (fun j a=>.inl (by simp[a]))
  have H:Hn w (.slice i rl.length cr) (.slice k (rl.length+1) o):=fun j a=>by
   rcases Q with e|e
   ·exact .inl (e▸a)
   ·rw[e]at a;cases a;exact .inr aj
  have N:∀j,(Value.slice k (rl.length+1) o).ownBlock=some j->j≠bw/\j∉Ad n ev:=fun j a=>by
   rcases H j a with e|e
   ·exact h2 j e
   ·refine⟨by omega,fun g=>?_⟩;have:=h.bound g;omega
  have C:=hw.of_block (y.block bw D (fun g=>(h2 bw (by simpa using g)).1 rfl));have M:Av w2 n leaf p d es ev:=h.kp y (fun g=>(h2 n (by simpa using g)).2 (by simp[Ad])) (fun j a g=>(h2 j (by simpa using g)).2 (by simp[Ad,a]));have J:=C.set3 (.slice k (rl.length+1) o);obtain⟨c,v⟩:=nmd (w2.setCell ⟨bw,3,none⟩ (.slice k (rl.length+1) o));rw[v]at J;have A:Kp [bw] w2 c:=v▸(Kp.refl [bw] w2).setCell bw 3 _ (.inl (by simp));have m:Av c n leaf p d es ev:=M.kp A (by simpa using Ne.symm h1) (fun j a=>by simpa using G j a)
  have Z:Pv c (.slice k (rl.length+1) o) (rl++nz p):=by
   have:nz p=[p]:=by unfold nz;rw[if_neg F]
   rw[this,Pv,Bb];have e:Aj .i64 (rl++[p])=Aj .i64 rl++[.int .i64 (p:Int)]:=by simp[Aj]
   rw[e];exact Bm L A (fun j a=>by simpa using(N j a).1)
  have I:=Aa (x.o c _ J Z m ((y.mono (fun j a=>by simp[a])).trans (A.mono (fun j a=>by simp at a;simp[a]))) H N);have Y:=C.c3;have ad:=C.fr 3;have n1:=m.node.c1;have n2:=m.node.c2;have aw:=m.node.fr 1;have av:=m.node.fr 2
  have cells:∀w'∈[w0,w1,w2,c],w'.cell? ⟨n,1,none⟩=some (.int .i64 (p:Int)):=fun w' t=>by
   simp only[Al,Cq,or_false]at t;rcases t with rfl|rfl|rfl|rfl
   ·exact(h.below s).node.c1
   ·exact(h.below r).node.c1
   ·exact M.node.c1
   ·exact m.node.c1
  have ag:=Aa cells;have l:=Aa (Ab E (Ab z (Ab U (Ab v (Ab Y ad)))));have O:=Aa (Ab (hw.of_block (s.block bw D)).c3 (hw.of_block (r.block bw D)).c3);clear hw hr h h1 h2 G x s S r ae af L ab Q aj y H N C M J A m Z Y ad cells E z U v F T X aa R;go_enter Tryz.func129,Tryz.ntmps129;go_wp2_with fail;refine Gf (Ek [w0,w1,w2,c]) [10,11,14] (by kernel_rfl) (by kernel_rfl) (by rw[l.o.1];rfl) ?_
  have ah:=Aa (show ∀w'∈[w0,w1,w2],w'.cell? ⟨bw,3,none⟩=some (.slice i rl.length cr)from fun w' t=>by
   simp only[Al,Cq,or_false]at t;rcases t with rfl|rfl|rfl
   ·exact O.o.1
   ·exact O.o.2
   ·exact l.o.2.2.2.2.1)
  refine Am 0 (.pointer (some ⟨bw,0,none⟩)) ?_;refine Am 1 (.pointer (some ⟨bw,0,none⟩)) ?_;refine Am 2 (.pointer (some ⟨bw,0,none⟩)) ?_;refine Am 3 (.pointer (some ⟨bw,3,none⟩)) ?_;refine Mh 4 2 (.slice i rl.length cr) Ax4 (fun q al w hw=>ah.o w (hw.upto al (by simp))) ?_;refine Am 5 (.pointer (some ⟨n,0,none⟩)) ?_;refine Am 6 (.pointer (some ⟨n,0,none⟩)) ?_;refine Am 7 (.pointer (some ⟨n,1,none⟩)) ?_;refine Am 8 (.pointer (some ⟨n,1,none⟩)) ?_;refine Gv 9 (.int .i64 (p:Int)) Qd (fun q w hw=>ag.o w hw.mem) ?_;refine Gr 10 (.slice (some ⟨w0.heap.size,0,none⟩) 1 1) rfl (by kernel_rfl) rfl (Qb w0 w1 rfl rfl (by rw[<-l.o.2.1];exact A1s _ _ _ _ rfl (by kernel_rfl) w0)) ?_;refine Gr 11 (.slice k (rl.length+1) o) rfl (by kernel_rfl) rfl (Qb w1 w2 rfl rfl (Abd _ _ _ _ _ _ _ rfl (by kernel_rfl) (by kernel_rfl) l.o.2.2.1)) ?_;refine Am 12 (.pointer (some ⟨bw,0,none⟩)) ?_;refine Am 13 (.pointer (some ⟨bw,3,none⟩)) ?_;refine Kr 14 rfl (by kernel_rfl) rfl (Kv w2 c rfl rfl (by rw[<-l.o.2.2.2.1];exact A3b _ _ _ _ bw 3 _ _ _ _ rfl (by kernel_rfl) (by kernel_rfl) w2 l.o.2.2.2.2.1 l.o.2.2.2.2.2)) ?_;refine Cj.done (by kernel_rfl) fun w' ac=>?_;simp only[Act.put,Cz,Dg,Co];obtain rfl:=ac.eq (w0:=c) rfl;clear l O ah ag ac c1 aq;go_wp2_with fail
  first|go_end0|((try simp only[Exit.inBlock,Exit.then]);refine bodyPost_ret (results_none rfl _ _ _) rfl ?_)
  exact⟨rfl,I.o⟩
def Fd (rk:By)(m:DM)(lk p:Nat)(d:By):Option (Bool×List Aw):=if 2<=p/\p<m.blocks.length/\lk<48 then Nu rk d (m.look p) p else none
def Fa (m:DM)(lk p:Nat):Nat:=if 2<=p/\p<m.blocks.length/\lk<48 then lk+1 else lk
def Gd (w w':World)(vb lk:Nat):Prop:=w'.heap[vb]?=(w.setCell ⟨vb,1,none⟩ (.int .i64 lk)).heap[vb]?
theorem Azl {w:World}{b a:Nat}{v:Value}(h:w.cell? ⟨b,a,none⟩=some v):(w.setCell ⟨b,a,none⟩ v).heap[b]?=w.heap[b]?:=by
 simp only[World.setCell,Array.getElem?_modify,if_true]
 cases hb:w.heap[b]? with
 |none=>rfl
 |some d=>
  simp only[Sp]
  congr 1
  cases d with
  |cells c t f=>
   rw[cell_of_row _ _ _ _ _ _ hb]at h
   have:c.setIfInBounds a v=c:=by apply Array.ext';obtain⟨g,e⟩:=Array.getElem?_eq_some_iff.1 h;rw[Aae,<-e,<-Array.getElem_toList];exact List.set_getElem_self _
   simp[this]
  |_=>simp[World.cell?,hb]at h
theorem Gd.same {w w':World}{vb lk:Nat}(h:w.cell? ⟨vb,1,none⟩=some (.int .i64 lk))(e:w'.heap[vb]?=w.heap[vb]?):Gd w w' vb lk:=e.trans (Azl h).symm
theorem Gd.from {w w1 w':World}{vb lk:Nat}(h:Gd w1 w' vb lk)(e:w1.heap[vb]?=w.heap[vb]?):Gd w w' vb lk:=by unfold Gd at*;rw[h];simp only[World.setCell,Array.getElem?_modify,if_true];rw[e]
theorem Gd.to {w w1 w':World}{vb lk:Nat}(h:Gd w w1 vb lk)(e:w'.heap[vb]?=w1.heap[vb]?):Gd w w' vb lk:=e.trans h
structure Ma (w:World)(vb b lk:Nat):Prop where
 c0:w.cell? ⟨vb,0,none⟩=some (.pointer (some ⟨b,0,none⟩))
 c1:w.cell? ⟨vb,1,none⟩=some (.int .i64 lk)
 fr:w.frozen? ⟨vb,1,none⟩=false
theorem Ma.lt {w:World}{vb b lk:Nat}(h:Ma w vb b lk):vb<w.heap.size:=Ab8 w ⟨vb,0,none⟩ h.c0
theorem Ma.below {w w':World}{vb b lk:Nat}(h:Ma w vb b lk)(hb:Bw w w'):Ma w' vb b lk:=
 ⟨(hb.cell (p:=⟨vb,0,none⟩) h.lt).trans h.c0,(hb.cell (p:=⟨vb,1,none⟩) h.lt).trans h.c1,(hb.frozen (p:=⟨vb,1,none⟩) h.lt).trans h.fr⟩
theorem Ak8 (x:DX)(b bp vb:Nat)(m:DM)(v:VM)(wv:Value)(rk d:By)(p lk:Nat)(w:World)(h:Ai w x b m v wv)(g:v.pv=.pointer (some ⟨bp,0,none⟩))(hk:Eh w bp rk)
  (a:Ma w vb b lk) (l:Ce x b wv vb) (o:bp≠vb) (i:lk<=1000) (k:∀p,p<m.blocks.length->(m.look p).length=256):
  Cl 89 #[.pointer (some ⟨vb,0,none⟩),.agg #[.int .i64 p,.string ⟨d.toArray⟩]] w fun e w'=>Kp [vb] w w'/\Gd w w' vb (Fa m lk p)/\
   ((Fd rk m lk p d=none/\e=.returned (.tuple #[.pointer none,.int .i64 8]))\/
    (∃leaf es n ev,Fd rk m lk p d=some (leaf,es)/\e=.returned (.tuple #[.pointer (some ⟨n,0,none⟩),.int .i64 0])/\Gx w' n leaf p d es ev/\w.heap.size<=n/\(∀j,ev.ownBlock=some j->w.heap.size<=j))):=by
 by_cases c:2<=p/\p<m.blocks.length/\lk<48
 ·have e1:Fd rk m lk p d=Nu rk d (m.look p) p:=by unfold Fd;rw[if_pos c]
  have e2:Fa m lk p=lk+1:=by unfold Fa;rw[if_pos c]
  rw[e1,e2];exact Avn x b bp vb m v wv rk d p lk w h g hk a.c0 a.c1 a.fr l o c.2.2 c.1 c.2.1 (k p c.2.1)
 ·have e1:Fd rk m lk p d=none:=by unfold Fd;rw[if_neg c]
  have e2:Fa m lk p=lk:=by unfold Fa;rw[if_neg c]
  have f:∀(e:Ending) (w':World),e=.returned (.tuple #[.pointer none,.int .i64 8])/\Bw w w'->Kp [vb] w w'/\Gd w w' vb (Fa m lk p)/\
   ((Fd rk m lk p d=none/\e=.returned (.tuple #[.pointer none,.int .i64 8]))\/
    (∃leaf es n ev,Fd rk m lk p d=some (leaf,es)/\e=.returned (.tuple #[.pointer (some ⟨n,0,none⟩),.int .i64 0])/\Gx w' n leaf p d es ev/\w.heap.size<=n/\(∀j,ev.ownBlock=some j->w.heap.size<=j))):=fun e w' hh=>by
   rw[e2];exact⟨Kp.of_below hh.2,Gd.same a.c1 (hh.2.block vb a.lt),.inl ⟨e1,hh.1⟩⟩
  by_cases h2:2<=p/\p<m.blocks.length
  ·exact(Au0 x b vb m v wv d p lk w h a.c0 a.c1 h2.1 h2.2 (by omega) i).mono f
  ·exact(Aul x b vb m v wv d p w h a.c0 (by omega)).mono f
def Yv:List Aw->By
 | []=>[]
 |e::_=>e.key
def Qf (key:By)(es:List Aw):Bool:=Yv es==key&&decide (2<=es.length)
def Ie (rk:By)(m:DM)(lk:Nat)(e:EG):Option (Bool×List Aw):=(Fd rk m lk e.place e.digest).bind fun r=>if Qf e.key r.2 then some r else none
theorem Ay7 (es:List Aw):Yl (es.map Aw.eg)=Yv es:=by cases es<;>rfl
section
variable (x:DX)(b bp vb:Nat)(m:DM)(v:VM)(wv:Value)(rk:By)(lk n:Nat)(leaf:Bool)(p:Nat)(d:By)(es:List EG)(ev:Value)(i:Nat)(e:EG)(w:World)
theorem Aht (c:Nat)(g:Av w n leaf p d es ev)(a:es[i]?=some e)(h:e.child=some c)(m:es.length<=100):
  Cl 87 #[.pointer (some ⟨vb,0,none⟩),.pointer (some ⟨n,0,none⟩),.int .i64 (i:Int)] w fun r w'=>r=.returned (.tuple #[.pointer (some ⟨c,0,none⟩),.int .i64 0])/\Bw w w':=by
 have j:i<es.length:=(Ds.1 a).1;obtain⟨f,cap,rfl,q,t,k,l,b,o⟩:=g.row (by rintro rfl;simp at j);have c3:=g.node.c3;have e0:w.cell? ⟨f,i*5,none⟩=some (Ac e.key):=b i e a 0 (by decide);have e1:w.cell? ⟨f,i*5+1,none⟩=some (Ac e.value):=b i e a 1 (by decide);have e2:w.cell? ⟨f,i*5+2,none⟩=some (.int .i64 (e.place:Int)):=b i e a 2 (by decide);have e3:w.cell? ⟨f,i*5+3,none⟩=some (Ac e.digest):=b i e a 3 (by decide)
 have s:w.cell? ⟨f,i*5+4,none⟩=some (.pointer (some ⟨c,0,none⟩)):=by have:=b i e a 4 (by decide);rw[this];simp[EG.cells,Oh,Jg,h]
 have x:(i:Int)<(es.length:Int):=by omega
 have v:¬((es.length:Int)<=(i:Int)):=by omega
 have u:(es.length:Int)<=100:=by omega
 clear g a j k l b o m h;generalize es.length=L at*;simp only[Ac]at*;go_enter Tryz.func87,Tryz.ntmps87;go_wp2_with fail;go_ret2;exact⟨rfl,(Ah _ _).alloc (Ak _) _⟩
theorem Aen (h:Ai w x b m v wv)(aw:v.pv=.pointer (some ⟨bp,0,none⟩))(hk:Eh w bp rk)
  (ao:Ma w vb b lk) (a2:Ce x b wv vb) (bb:bp≠vb) (av:lk<=1000) (ax:∀p,p<m.blocks.length->(m.look p).length=256)
  (E:Av w n leaf p d es ev) (k:es[i]?=some e) (ba:e.child=none) (bi:es.length<=100) (l:vb∉Ad n ev):
  Cl 87 #[.pointer (some ⟨vb,0,none⟩),.pointer (some ⟨n,0,none⟩),.int .i64 (i:Int)] w fun r w'=>Gd w w' vb (Fa m lk e.place)/\
   ((Ie rk m lk e=none/\r=.returned (.tuple #[.pointer none,.int .i64 8])/\Kp [vb] w w')\/
    (∃lf es' c ev',Ie rk m lk e=some (lf,es')/\r=.returned (.tuple #[.pointer (some ⟨c,0,none⟩),.int .i64 0])/\Gx w' c lf e.place e.digest es' ev'/\Av w' n leaf p d (es.set i {e with child:=some c}) ev/\Kp (vb::ev.ownBlock.toList) w w'/\w.heap.size<=c/\(∀j,ev'.ownBlock=some j->w.heap.size<=j))):=by
 have bc:i<es.length:=(Ds.1 k).1;obtain⟨f,cap,rfl,am,Z,bh,bl,J,bj⟩:=E.row (by rintro rfl;simp at bc);have c3:=E.node.c3;have e0:w.cell? ⟨f,i*5,none⟩=some (Ac e.key):=J i e k 0 (by decide);have e1:w.cell? ⟨f,i*5+1,none⟩=some (Ac e.value):=J i e k 1 (by decide);have e2:w.cell? ⟨f,i*5+2,none⟩=some (.int .i64 (e.place:Int)):=J i e k 2 (by decide);have e3:w.cell? ⟨f,i*5+3,none⟩=some (Ac e.digest):=J i e k 3 (by decide)
 have bf:w.cell? ⟨f,i*5+4,none⟩=some (.pointer none):=by have:=J i e k 4 (by decide);rw[this];simp[EG.cells,Oh,Jg,ba]
 have bs:(i:Int)<(es.length:Int):=by omega
 have bt:¬((es.length:Int)<=(i:Int)):=by omega
 have bn:(es.length:Int)<=100:=by omega
 obtain⟨w1,U⟩:=nmd (w.alloc (.cells #[Ac e.key,Ac e.value,.int .i64 (e.place:Int),Ac e.digest,.pointer none] 142));have A:Bw w w1:=U▸(Ah _ _).alloc (Ak _) _;have bk:w1.heap.size=w.heap.size+1:=by rw[<-U];simp
 have O:w1.heap[w.heap.size]?=some (.cells #[Ac e.key,Ac e.value,.int .i64 (e.place:Int),Ac e.digest,.pointer none] 142 (0,0)):=U▸heap_alloc_new w _;have an:=ao.lt;have ai:=Aa (Ak8 x b bp vb m v wv rk e.digest e.place lk w1 (h.later A) aw (hk.below A hk.lt) (ao.below A) a2 bb av ax);have ar:=Aa U;have ak:=Aa (Ab E (Ab k (Ab l (Ab A (Ab O (Ab Z (Ab an am)))))));clear h aw hk ao a2 bb av ax E k ba bc bh bl J bj bi U A O l Z;generalize M:es.length=L at*;simp only[Ac]at e0 e1 e2 e3 ar;go_enter Tryz.func87,Tryz.ntmps87;go_wp2_with fail;rw[ar.o];refine ai.o.mono ?_;rintro r w2 ⟨S,al,hr⟩;obtain⟨E,k,l,A,O,Z,an,am⟩:=ak.o;have P:Kp [vb] w w2:=(Kp.of_below A).trans S;have ae:Gd w w2 vb (Fa m lk e.place):=al.from (A.block vb an);rcases hr with⟨F,rfl⟩|⟨lf,es',c,ev',z,rfl,ab,ag,K⟩
 ·have y:=Aa (Ab ae (Ab P (show Ie rk m lk e=none from by unfold Ie;rw[F];rfl)));clear E k l A O Z S al P ae F ai ak;go_wp2_with fail;go_ret2;exact⟨y.o.1,.inl ⟨y.o.2.2,rfl,y.o.2.1⟩⟩
 ·have Y:=ab.nd;have a4:=(S.block w.heap.size (by rw[bk];omega) (by simp;omega)).trans O;have a1:w2.cell? ⟨w.heap.size,0,none⟩=some (.string ⟨e.key.toArray⟩):=crw a4 rfl;have n3:=Y.node.c3;obtain⟨ac,ah,a0⟩:=Aao Y.own;rw[a0]at n3;rw[Fi]at n3;have bg:=S.size;have bd:=Aa (fun w'=>Alt c lf e.place e.digest (es'.map Aw.eg) ev' w');have a5:=Aa (Ay7 es');have au:Av w2 n leaf p d es (.slice (some ⟨f,0,none⟩) L cap):=E.kp P (by simp[Ad]at l;simpa using fun g:n=vb=>l.1 g.symm) (fun j u=>by simp[Ad,Value.ownBlock]at l u;subst u;simpa using fun g:f=vb=>l.2 g.symm);obtain⟨o,ad⟩:=nmd (w2.drew);have H:Bw w2 o:=ad▸(Ah _ _).drew;have be:o.cell? ⟨w.heap.size,0,none⟩=some (.string ⟨e.key.toArray⟩):=ad▸a1;have a3:o.cell? ⟨c,3,none⟩=some (.slice ac es'.length ah):=ad▸n3
  have t:=Aa (show ∀w'∈[o],w'.cell? ⟨w.heap.size,0,none⟩=some (.string ⟨e.key.toArray⟩)/\w'.cell? ⟨c,3,none⟩=some (.slice ac es'.length ah)/\Cl 109 #[.pointer (some ⟨c,0,none⟩)] w' (fun r w2=>r=.returned (Ac (Yl (es'.map Aw.eg)))/\w2=w')from fun w' hw=>by
   simp only[Jc]at hw;subst hw
   exact Ab be (Ab a3 (bd.o w' (Y.below H))))
  rw[a5.o]at t;have a9:Ie rk m lk e=if Qf e.key es' then some (lf,es')else none:=by unfold Ie;rw[z];rfl
  have R:=Aa a9
  have bv:es'.length<=5:=by
   unfold Fd at z;split at z
   ·unfold Nu at z;split at z
    ·obtain⟨T,_,bm⟩:=Option.bind_eq_some_iff.1 z;exact(An9 bm).2
    ·cases z
   ·cases z
  have W:Gd w o vb (Fa m lk e.place):=ae.to (H.block vb (by have:=P.size;omega));have G:=au.below H;have I:Kp [vb] w o:=P.trans (Kp.of_below H);have V:Gx o c lf e.place e.digest es' ev':=⟨(Y.below H).node,Bm ab.own (Kp.of_below H:Kp [] w2 o) (by simp),ab.ne⟩;obtain⟨C,aq⟩:=nmd (Yv es');rw[aq]at t;have a7:Qf e.key es'=(C==e.key&&decide (2<=es'.length)):=by unfold Qf;rw[aq]
  have Q:=Aa a7;have bu:=G.node.c3
  have bo:o.cell? ⟨f,i*5+4,none⟩=some (.pointer none):=by have:=(I.block f am (by simp[Ad,Value.ownBlock]at l;simpa using fun g:f=vb=>l.2 g.symm));rw[Lv (a:=⟨f,i*5+4,none⟩) this];exact bf
  obtain⟨_,_,aj,_,_,_,_,_,az⟩:=G.row (by rintro rfl;have:=(Ds.1 k).1;simp at this);rw[M]at aj;simp only[Value.slice.injEq,Option.some.injEq,Addr.mk.injEq,and_true,true_and]at aj;obtain⟨rfl,rfl⟩:=aj;have bq:=az (i*5+4);have y:=Aa (Ab W (Ab I (Ab G (Ab V (Ab k (Ab (show w.heap.size<=c from by omega) (Ab (show ∀j,ev'.ownBlock=some j->w.heap.size<=j from fun j u=>by have:=K j u;omega) (Ab M l))))))));have br:decide ((i:Int)<0)=false:=by simp
  have N:=Aa ad;clear E k l A O Z S al P ae z ab Y a4 a1 n3 a0 bd a5 au H be a3 a9 W G I V aq a7 az ag K ai ak e0 e1 e2 e3 c3 ar M bg;have ap:(es'.length:Int)<=5:=by omega
  generalize es'.length=L' at*;go_wp2_with fail;by_cases aa:C=e.key
  ·by_cases h2:2<=L'
   ·have X:decide ((L':Int)<2)=false:=by simp;omega
    refine Gf (Ek [o]) [] (by kernel_rfl) (by kernel_rfl) (by rw[N.o];rfl) ?_;refine Am 0 (.pointer (some ⟨c,0,none⟩)) ?_;refine Em 1 (Ac C) rfl (by kernel_rfl) rfl (fun q=>Gb (109) (#[.pointer (some ⟨c,0,none⟩)]) (fun _=>by kernel_rfl) fun w hw=>(t.o w hw.mem).2.2.mono fun e w2 h=>⟨h.1,h.2▸hw⟩) ?_;refine Am 2 (.pointer (some ⟨w.heap.size,0,none⟩)) ?_;refine Gv 3 (.string ⟨e.key.toArray⟩) Im (fun q w hw=>(t.o w hw.mem).1) ?_;refine Em 4 (.bool false) rfl (by kernel_rfl) rfl (fun _=>Cp (fun w=>Acc _ _ _ _ _ C rfl (by kernel_rfl) (by rw[aa];kernel_rfl) w)) ?_;refine Am 5 (.bool false) ?_;refine Am 6 (.pointer (some ⟨c,0,none⟩)) ?_;refine Am 7 (.pointer (some ⟨c,0,none⟩)) ?_;refine Am 8 (.pointer (some ⟨c,3,none⟩)) ?_;refine Gv 9 (.slice ac L' ah) Jt (fun q w hw=>(t.o w hw.mem).2.1) ?_;refine Am 10 (.int .i64 (L':Int)) ?_;refine Em 11 (.bool false) rfl (by kernel_rfl) rfl (fun _=>Cp (fun w=>Afv _ _ _ _ _ (L':Int) 2 false rfl (by kernel_rfl) (by kernel_rfl) X w)) ?_;refine Am 12 (.bool false) ?_;refine Cj.done (by kernel_rfl) fun w' D=>?_;simp only[Act.put,Cz,Dg,Co];obtain rfl:=D.eq (w0:=o) rfl
    have z:Ie rk m lk e=some (lf,es'):=by rw[R.o,Q.o,aa];simp[h2]
    obtain⟨W,I,G,V,k,ag,K,M,l⟩:=y.o;have ay:f∈vb::(Value.slice (some ⟨f,0,none⟩) L cap).ownBlock.toList:=by simp[Value.ownBlock]
    have af:Kp [f] w' (w'.setCell ⟨f,i*5+4,none⟩ (.pointer (some ⟨c,0,none⟩))):=(Kp.refl _ w').setCell f _ _ (.inl (by simp));have a6:=G.cell (by rw[M]) i 4 e {e with child:=some c} (.pointer (some ⟨c,0,none⟩)) k (by decide) rfl;have a8:Gx (w'.setCell ⟨f,i*5+4,none⟩ (.pointer (some ⟨c,0,none⟩))) c lf e.place e.digest es' ev':=V.kp af (by simp;omega) (fun j u=>by have:=K j u;simp;omega);have s:=Aa (Ab z (Ab (W.to (af.block vb (by have:=I.size;omega) (by simp[Ad,Value.ownBlock]at l;simpa using l.2))) (Ab a6 (Ab a8 (Ab (show Kp (vb::(Value.slice (some ⟨f,0,none⟩) L cap).ownBlock.toList) w _ from(I.mono (fun j u=>by simp at u;simp[u])).trans (af.mono (fun j u=>by simp at u;subst u;exact ay))) (Ab ag K))))));clear z W I G V k ag K M l ay af a6 a8 y R Q t N D X ap;go_wp2_with fail;go_ret2;exact⟨s.o.2.1,.inr ⟨lf,es',c,ev',s.o.1,rfl,s.o.2.2.2.1,s.o.2.2.1,s.o.2.2.2.2.1,s.o.2.2.2.2.2.1,s.o.2.2.2.2.2.2⟩⟩
   ·have X:decide ((L':Int)<2)=true:=by simp;omega
    have F:Ie rk m lk e=none:=by rw[R.o,Q.o];simp[h2]
    refine Gf (Ek [o]) [] (by kernel_rfl) (by kernel_rfl) (by rw[N.o];rfl) ?_;refine Am 0 (.pointer (some ⟨c,0,none⟩)) ?_;refine Em 1 (Ac C) rfl (by kernel_rfl) rfl (fun q=>Gb (109) (#[.pointer (some ⟨c,0,none⟩)]) (fun _=>by kernel_rfl) fun w hw=>(t.o w hw.mem).2.2.mono fun e w2 h=>⟨h.1,h.2▸hw⟩) ?_;refine Am 2 (.pointer (some ⟨w.heap.size,0,none⟩)) ?_;refine Gv 3 (.string ⟨e.key.toArray⟩) Im (fun q w hw=>(t.o w hw.mem).1) ?_;refine Em 4 (.bool false) rfl (by kernel_rfl) rfl (fun _=>Cp (fun w=>Acc _ _ _ _ _ C rfl (by kernel_rfl) (by rw[aa];kernel_rfl) w)) ?_;refine Am 5 (.bool false) ?_;refine Am 6 (.pointer (some ⟨c,0,none⟩)) ?_;refine Am 7 (.pointer (some ⟨c,0,none⟩)) ?_;refine Am 8 (.pointer (some ⟨c,3,none⟩)) ?_;refine Gv 9 (.slice ac L' ah) Jt (fun q w hw=>(t.o w hw.mem).2.1) ?_;refine Am 10 (.int .i64 (L':Int)) ?_;refine Em 11 (.bool true) rfl (by kernel_rfl) rfl (fun _=>Cp (fun w=>Afv _ _ _ _ _ (L':Int) 2 true rfl (by kernel_rfl) (by kernel_rfl) X w)) ?_;refine Am 12 (.bool true) ?_;refine Cj.done (by kernel_rfl) fun w' D=>?_;simp only[Act.put,Cz,Dg,Co];obtain rfl:=D.eq (w0:=o) rfl;have s:=Aa (Ab F (Ab y.o.1 y.o.2.1));clear F y R Q t N D X ap;go_wp2_with fail;go_ret2;exact⟨s.o.2.1,.inl ⟨s.o.1,rfl,s.o.2.2⟩⟩
  ·have F:Ie rk m lk e=none:=by
    rw[R.o,Q.o];simp[aa]
   refine Gf (Ek [o]) [] (by kernel_rfl) (by kernel_rfl) (by rw[N.o];rfl) ?_;refine Am 0 (.pointer (some ⟨c,0,none⟩)) ?_;refine Em 1 (Ac C) rfl (by kernel_rfl) rfl (fun q=>Gb (109) (#[.pointer (some ⟨c,0,none⟩)]) (fun _=>by kernel_rfl) fun w hw=>(t.o w hw.mem).2.2.mono fun e w2 h=>⟨h.1,h.2▸hw⟩) ?_;refine Am 2 (.pointer (some ⟨w.heap.size,0,none⟩)) ?_;refine Gv 3 (.string ⟨e.key.toArray⟩) Im (fun q w hw=>(t.o w hw.mem).1) ?_;refine Em 4 (.bool true) rfl (by kernel_rfl) rfl (fun _=>Cp (fun w=>Aqp _ _ _ _ _ C e.key aa rfl (by kernel_rfl) (by kernel_rfl) w)) ?_;refine Am 5 (.bool true) ?_;refine Zr 6 rfl (by kernel_rfl) rfl ?_;refine Zr 7 rfl (by kernel_rfl) rfl ?_;refine Zr 8 rfl (by kernel_rfl) rfl ?_;refine Zr 9 rfl (by kernel_rfl) rfl ?_;refine Zr 10 rfl (by kernel_rfl) rfl ?_;refine Zr 11 rfl (by kernel_rfl) rfl ?_;refine Am 12 (.bool true) ?_;refine Cj.done (by kernel_rfl) fun w' D=>?_;simp only[Act.put,Cz,Dg,Co];obtain rfl:=D.eq (w0:=o) rfl;have s:=Aa (Ab F (Ab y.o.1 y.o.2.1));clear F y R Q t N D ap;go_wp2_with fail;go_ret2;exact⟨s.o.2.1,.inl ⟨s.o.1,rfl,s.o.2.2⟩⟩
end
def Cg:(h:Nat)->Nd h->List Aw
 |0,t=>t.es.map fun e=>⟨e.1,e.2,0,[]⟩
 |_+1,t=>t.es.map fun e=>⟨e.1,[],e.2.place,e.2.dig⟩
def Ab0 (m:DM)(rk:By)(leaf:Bool)(p:Nat)(d:By)(es:List Aw):Prop:=2<=p/\p<m.blocks.length/\Nu rk d (m.look p) p=some (leaf,es)
def Cm (m:DM)(rk:By):(h:Nat)->Nd h->Prop
 |0,t=>Ab0 m rk true t.place t.dig (Cg 0 t)
 |h+1,t=>Ab0 m rk false t.place t.dig (Cg (h+1) t)/\∀e∈t.es,Cm m rk h e.2
structure Kd where
 c:Option Nat
 S:List Nat
 U:Nat
def Ck (A B:List Nat):Prop:=∀j∈A,j∉B
theorem Ck.symm {A B:List Nat}(h:Ck A B):Ck B A:=fun j a hk=>h j hk a
abbrev EK (h:Nat):=(By×Nd h)×Kd
def Ao {h:Nat}(x:EK h):EG:=⟨x.1.1,[],x.1.2.place,x.1.2.dig,x.2.c⟩
structure Ke {h:Nat}(K:Nd h->Kd->Prop)(w:World)(n p:Nat)(d:By)(ev:Value)(L:List (EK h)):Prop where
 nd:Av w n false p d (L.map Ao) ev
 kid:∀x∈L,K x.1.2 x.2
 s1:∀x∈L,Ck x.2.S (Ad n ev)
 s2:L.Pairwise fun x y=>Ck x.2.S y.2.S
def Eo {h:Nat}(A:Nat->Nd h->List Nat->Nat->Prop)(St:Nd h->Prop)(c:Nd h)(k:Kd):Prop:=
 match k.c with
 |none=>St c/\k.S=[]/\k.U=nn h c
 |some n=>A n c k.S k.U
def Dn {h:Nat}(a:List (EK h)):List Nat:=a.flatMap fun x=>x.2.S
def Cs {h:Nat}(a:List (EK h)):Nat:=(a.map fun x=>x.2.U).sum
def Dm (e:By×By):EG:=⟨e.1,e.2,0,[],none⟩
def Au (w:World)(m:DM)(rk:By):(h:Nat)->Nat->Nd h->List Nat->Nat->Prop
 |0,n,t,S,U=>∃ev,Av w n true t.place t.dig (t.es.map Dm) ev/\S=Ad n ev/\U=0
 |h+1,n,t,S,U=>∃ev a,t.es=a.map Prod.fst/\Ke (Eo (Au w m rk h) (Cm m rk h)) w n t.place t.dig ev a/\S=Ad n ev++Dn a/\U=Cs a
theorem Au.bound {w:World}{m:DM}{rk:By}:∀(h n:Nat) (t:Nd h) (S:List Nat) (U:Nat),Au w m rk h n t S U->∀j∈S,j<w.heap.size
 |0,n,t,S,U,⟨ev,hn,hS,_⟩,j,hj=>by subst hS;exact hn.bound hj
 |h+1,n,t,S,U,⟨ev,L,_,hi,hS,_⟩,j,hj=>by
  subst hS;rcases As.1 hj with g|g
  ·exact hi.nd.bound g
  ·obtain⟨x,b,a⟩:=Vz.1 g;have hk:=hi.kid x b;unfold Eo at hk;split at hk
   ·rw[hk.2.1]at a;cases a
   ·exact Au.bound h _ _ _ _ hk j a
theorem Au.kp {w w':World}{m:DM}{rk:By}{X:List Nat}(b:Kp X w w'):∀(h n:Nat) (t:Nd h) (S:List Nat) (U:Nat),Au w m rk h n t S U->Ck S X->Au w' m rk h n t S U
 |0,n,t,S,U,⟨ev,hn,hS,hU⟩,hd=>⟨ev,hn.kp b (hd n (by rw[hS];simp[Ad])) (fun j a=>hd j (by rw[hS];simp[Ad,a])),hS,hU⟩
 |h+1,n,t,S,U,⟨ev,L,he,hi,hS,hU⟩,hd=>by
  refine⟨ev,L,he,⟨hi.nd.kp b (hd n (by rw[hS];simp[Ad])) (fun j a=>hd j (by rw[hS];simp[Ad,a])),fun x c=>?_,hi.s1,hi.s2⟩,hS,hU⟩;have hk:=hi.kid x c;unfold Eo at hk⊢;split at hk
  ·exact hk
  ·exact Au.kp b h _ _ _ _ hk (fun j a=>hd j (by rw[hS];exact Bg _ (Vz.2 ⟨x,c,a⟩)))
theorem Au.below {w w':World}{m:DM}{rk:By}{h n:Nat}{t:Nd h}{S:List Nat}{U:Nat}(a:Au w m rk h n t S U)(hb:Bw w w'):Au w' m rk h n t S U:=Au.kp (Kp.of_below hb:Kp [] w w') h n t S U a (fun _ _=>by simp)
theorem Eo.kp {w w':World}{m:DM}{rk:By}{X:List Nat}{h:Nat}{c:Nd h}{k:Kd}(a:Kp X w w')(hk:Eo (Au w m rk h) (Cm m rk h) c k)(hd:Ck k.S X):Eo (Au w' m rk h) (Cm m rk h) c k:=by
 unfold Eo at hk⊢;split at hk
 ·exact hk
 ·exact Au.kp a h _ _ _ _ hk hd
theorem Eo.bound {w:World}{m:DM}{rk:By}{h:Nat}{c:Nd h}{k:Kd}(hk:Eo (Au w m rk h) (Cm m rk h) c k):∀j∈k.S,j<w.heap.size:=by
 unfold Eo at hk;split at hk
 ·rw[hk.2.1];simp
 ·exact Au.bound h _ _ _ _ hk
theorem Au.top {w:World}{m:DM}{rk:By}{h n:Nat}{t:Nd h}{S:List Nat}{U:Nat}(e:Au w m rk h n t S U):∃a ev,Av w n (h==0) t.place t.dig a ev/\(∀j∈Ad n ev,j∈S)/\a.length=t.es.length/\En a=Be t.es/\Yl a=t.least:=by
 cases h with
 |zero=>obtain⟨ev,g,d,_⟩:=e;refine⟨_,ev,g,fun j c=>by rw[d];exact c,by simp,by simp[En,Be,Dm,Function.comp_def],?_⟩;unfold Es.least;cases t.es<;>rfl
 |succ h=>obtain⟨ev,f,b,i,d,_⟩:=e;refine⟨_,ev,i.nd,fun j c=>by rw[d];exact Bl _ c,by rw[b];simp,by rw[b];simp[En,Be,Ao,Function.comp_def],?_⟩;unfold Es.least;rw[b];cases f<;>rfl
section
variable {h:Nat}
theorem Ano (a:List (EK h)):En (a.map Ao)=Be (a.map Prod.fst):=by simp[En,Be,Ao,Function.comp_def]
theorem At0 (x:EK h)(B:List (EK h)):Dn (x::B)=x.2.S++Dn B:=by simp[Dn]
theorem Ly (A B:List (EK h)):Cs (A++B)=Cs A+Cs B:=by simp[Cs]
theorem Rq (x:EK h)(B:List (EK h)):Cs (x::B)=x.2.U+Cs B:=by simp[Cs]
theorem Iw {a:List (EK h)}{j:Nat}:j∈Dn a↔ ∃x∈a,j∈x.2.S:=by simp[Dn]
theorem Ke.swap {o K':Nd h->Kd->Prop}{w w':World}{n p u:Nat}{d s:By}{ev ev':Value}{A B N:List (EK h)}{x:EK h}{H:Nat}(i:Ke o w n p d ev (A++x::B))
  (z:Av w' n false u s ((A++(N++B)).map Ao) ev') (hk:∀c,c∈A\/c∈B->o c.1.2 c.2->K' c.1.2 c.2) (G:∀c∈N,K' c.1.2 c.2) (y:N.Pairwise fun x c=>Ck x.2.S c.2.S)
  (C:∀c∈N,∀j∈c.2.S,j∈x.2.S\/H<=j) (m:∀c,c∈A\/c∈B->∀j∈c.2.S,j<H) (q:∀j∈Ad n ev',(j∈Ad n ev\/H<=j)/\∀c∈N,j∉c.2.S):Ke K' w' n u s ev' (A++(N++B)):=by
 obtain⟨E,k,t⟩:=Dc.1 i.s2;obtain⟨k,D⟩:=Er.1 k;have old:∀c,c∈A\/c∈B->c∈A++x::B:=fun c hy=>by rcases hy with g|g<;>simp[g]
 refine⟨z,fun c hy=>?_,fun c hy j f r=>?_,?_⟩
 ·rcases As.1 hy with g|g
  ·exact hk c (.inl g) (i.kid c (old c (.inl g)))
  ·rcases As.1 g with g|g
   ·exact G c g
   ·exact hk c (.inr g) (i.kid c (old c (.inr g)))
 ·have F:(c∈A\/c∈B)\/c∈N:=by
   rcases As.1 hy with g|g
   ·exact .inl (.inl g)
   ·rcases As.1 g with g|g
    ·exact .inr g
    ·exact .inl (.inr g)
  rcases F with g|g
  ·rcases(q j r).1 with e|e
   ·exact i.s1 c (old c g) j f e
   ·have:=m c g j f;omega
  ·exact(q j r).2 c g f
 ·have v:∀a∈N,∀c,c∈A\/c∈B->Ck a.2.S c.2.S:=fun a ha c hy j f l=>by
   rcases C a ha j f with e|e
   ·rcases hy with g|g
    ·exact t c g x (by simp) j l e
    ·exact k c g j e l
   ·have:=m c hy j l;omega
  refine Dc.2 ⟨E,Dc.2 ⟨y,D,fun a ha b hb=>v a ha b (.inr hb)⟩,fun a ha b hb=>?_⟩;rcases As.1 hb with g|g
  ·exact(v b g a (.inl ha)).symm
  ·exact t a ha b (by simp[g])
end
theorem Yk (h:Nat)(t:Nd h):1<=nn h t:=by cases h<;>simp[nn]
theorem Au.load {w:World}{m:DM}{rk:By}{h n:Nat}{c:Nd h}{ev:Value}(q:Gx w n (h==0) c.place c.dig (Cg h c) ev)(r:Cm m rk h c):∃S U,Au w m rk h n c S U/\U+1=nn h c/\(∀j∈S,j∈Ad n ev):=by
 have i:=q.nd
 cases h with
 |zero=>
  refine⟨Ad n ev,0,⟨ev,?_,rfl,rfl⟩,rfl,fun j d=>d⟩;have e:(Cg 0 c).map Aw.eg=c.es.map Dm:=by simp[Cg,Aw.eg,Dm,Function.comp_def]
  rw[e]at i;exact i
 |succ h=>
  obtain⟨b,g⟩:∃b:List (EK h),c.es.map (fun e=>(e,(⟨none,[],nn h e.2⟩:Kd)))=b:=⟨_,rfl⟩
  have e1:c.es=b.map Prod.fst:=by
   have:∀l:List (By×Nd h),l=(l.map (fun e=>(e,(⟨none,[],nn h e.2⟩:Kd)))).map Prod.fst:=fun l=>by
    induction l with
    |nil=>rfl
    |cons a l ih=>simp only[Db,<-ih]
   rw[<-g];exact this c.es
  have e2:(Cg (h+1) c).map Aw.eg=b.map Ao:=by rw[<-g];simp[Cg,Aw.eg,Ao,Function.comp_def]
  have e3:Dn b=[]:=by
   have:∀l:List (By×Nd h),Dn (l.map (fun e=>(e,(⟨none,[],nn h e.2⟩:Kd))))=[]:=fun l=>by
    induction l with
    |nil=>rfl
    |cons a l ih=>rw[Db,At0,ih];rfl
   rw[<-g];exact this c.es
  have o:Cs b=(c.es.map fun e=>nn h e.2).sum:=by rw[<-g];simp[Cs,Function.comp_def]
  have k:∀x∈b,x.2=⟨none,[],nn h x.1.2⟩/\x.1∈c.es:=fun x f=>by rw[<-g]at f;obtain⟨e,s,rfl⟩:=Kj.1 f;exact⟨rfl,s⟩
  rw[e2]at i;refine⟨Ad n ev++Dn b,Cs b,⟨ev,b,e1,⟨i,fun x f=>?_,fun x f j d=>?_,?_⟩,rfl,rfl⟩,by rw[o];show _=1+_;omega,fun j d=>by rw[e3,Ff]at d;exact d⟩
  ·obtain⟨t,p⟩:=k x f;rw[t];exact⟨r.2 x.1 p,rfl,rfl⟩
  ·rw[(k x f).1]at d;cases d
  ·refine List.pairwise_of_forall_mem_list fun x f u _ j d=>?_;rw[(k x f).1]at d;cases d
def Gl {h:Nat}(e:By×Nd h):Prop:=Us h e.2/\e.1=e.2.least
theorem Oi {m:DM}{rk:By}{h:Nat}{c:Nd h}(a:Cm m rk h c):Ab0 m rk (h==0) c.place c.dig (Cg h c):=by
 cases h with
 |zero=>exact a
 |succ h=>exact a.1
theorem Aqw {α:Type}(l:List (By×α))(f:By×α->Aw)(b:∀a,(f a).key=a.1)(p:Nat)(d:By):Yv (l.map f)=(⟨p,d,l⟩:Es α).least:=by
 cases l with
 |nil=>rfl
 |cons a l=>exact b a
theorem Anj (h:Nat)(t:Nd h):Yv (Cg h t)=t.least:=by
 cases h with
 |zero=>exact Aqw t.es _ (fun _=>rfl) t.place t.dig
 |succ h=>exact Aqw t.es _ (fun _=>rfl) t.place t.dig
theorem Aee {h:Nat}{e:By×Nd h}(a:Gl e):Qf e.1 (Cg h e.2)=true:=by
 have h2:=a.1.2.1;have b:(Cg h e.2).length=e.2.es.length:=by cases h<;>simp[Cg]
 unfold Qf;rw[Anj,b,a.2];simp[h2]
structure Id (w:World)(x:DX)(b bp vb:Nat)(m:DM)(v:VM)(wv:Value)(rk:By)(lk:Nat):Prop where
 sys:Ai w x b m v wv
 pv:v.pv=.pointer (some ⟨bp,0,none⟩)
 key:Eh w bp rk
 vw:Ma w vb b lk
 fv:Ce x b wv vb
 bv:bp≠vb
 bl:∀p,p<m.blocks.length->(m.look p).length=256
def Dx (x:DX)(b bp:Nat)(wv:Value)(j:Nat):Prop:=Ce x b wv j/\j≠bp
theorem Id.kp {w w':World}{x:DX}{b bp c:Nat}{m:DM}{v:VM}{wv:Value}{rk:By}{lk d:Nat}{X:List Nat}(h:Id w x b bp c m v wv rk lk)(a:Kp X w w')(e:∀j∈X,Dx x b bp wv j)(f:Ma w' c b d):Id w' x b bp c m v wv rk d:=
 ⟨h.sys.kp a (fun j i=>(e j i).1),h.pv,h.key.of_block (a.block bp h.key.lt (fun g=>(e bp g).2 rfl)) a.size,f,h.fv,h.bv,h.bl⟩
theorem Id.new {w:World}{x:DX}{b bp a:Nat}{m:DM}{v:VM}{wv:Value}{rk:By}{lk:Nat}(h:Id w x b bp a m v wv rk lk){j:Nat}(c:w.heap.size<=j):Dx x b bp wv j:=⟨Ce.new h.sys c,fun e=>by have:=h.key.lt;omega⟩
theorem Id.o {w:World}{x:DX}{b bp a:Nat}{m:DM}{v:VM}{wv:Value}{rk:By}{lk:Nat}(h:Id w x b bp a m v wv rk lk):Dx x b bp wv a:=⟨h.fv,Ne.symm h.bv⟩
theorem Ma.up {w w':World}{c b lk f:Nat}(h:Ma w c b lk)(g:Gd w w' c f):Ma w' c b f:=by
 unfold Gd at g;have e:∀d,w'.cell? ⟨c,d,none⟩=(w.setCell ⟨c,1,none⟩ (.int .i64 f)).cell? ⟨c,d,none⟩:=fun d=>Lv (a:=⟨c,d,none⟩) g;have hb:=h.lt;refine⟨(e 0).trans ?_,(e 1).trans ?_,?_⟩
 ·rw[World.cell?_setCell_other _ _ _ _ (by simp)];exact h.c0
 ·exact World.cell?_setCell_same _ _ _ h.c1
 ·have h1:=h.fr;have:w'.frozen? ⟨c,1,none⟩=(w.setCell ⟨c,1,none⟩ (.int .i64 f)).frozen? ⟨c,1,none⟩:=by simp only[World.frozen?,g]
  rw[this];simp only[World.frozen?,World.setCell,Array.getElem?_modify,if_true]at h1⊢
  cases j:w.heap[c]? with
  |none=>rfl
  |some i=>rw[j]at h1;cases i<;>simp_all
theorem Aqx {w:World}{x:DX}{b bp l:Nat}{m:DM}{v:VM}{wv:Value}{rk:By}{lk:Nat}(o:Id w x b bp l m v wv rk lk){h n p:Nat}{d:By}{ev:Value}{A B:List (EK h)}{a:EK h}
  (i:Ke (Eo (Au w m rk h) (Cm m rk h)) w n p d ev (A++a::B)) (hy:Gl a.1) (ap:(A++a::B).length<=50) (ak:lk+a.2.U<=46) (ai:l∉Ad n ev) (R:∀z∈A++a::B,l∉z.2.S):
  Cl 87 #[.pointer (some ⟨l,0,none⟩),.pointer (some ⟨n,0,none⟩),.int .i64 (A.length:Int)] w fun r w'=>∃c S U G,r=.returned (.tuple #[.pointer (some ⟨c,0,none⟩),.int .i64 0])/\
   Au w' m rk h c a.1.2 S U/\Ke (Eo (Au w' m rk h) (Cm m rk h)) w' n p d ev (A++((a.1,⟨some c,S,U⟩)::B))/\Gd w w' l G/\G+U=lk+a.2.U/\Kp (l::ev.ownBlock.toList) w w'/\(∀j∈S,j∈a.2.S\/w.heap.size<=j):=by
 have aa:a∈A++a::B:=by simp
 have hk:=i.kid a aa;have L:((A++a::B).map Ao)[A.length]?=some (Ao a):=by simp
 have D:((A++a::B).map Ao).length<=100:=by rw[Fi];omega
 have ad:∀z∈A++a::B,∀j∈z.2.S,j<w.heap.size:=fun z hz=>(i.kid z hz).bound
 cases q:a.2.c with
 |some c=>
  have y:Au w m rk h c a.1.2 a.2.S a.2.U:=by unfold Eo at hk;rw[q]at hk;exact hk
  refine(Aht l n false p d _ ev A.length (Ao a) w c i.nd L q D).mono ?_;rintro r w' ⟨rfl,hb⟩
  have af:(a.1,(⟨some c,a.2.S,a.2.U⟩:Kd))=a:=by obtain⟨e,k⟩:=a;obtain⟨al,ks,aj⟩:=k;simp only at q;rw[q]
  refine⟨c,a.2.S,a.2.U,lk,rfl,y.below hb,?_,Gd.same o.vw.c1 (hb.block l o.vw.lt),rfl,Kp.of_below hb,fun j f=>.inl f⟩;rw[af];exact⟨i.nd.below hb,fun z hz=>(i.kid z hz).kp (Kp.of_below hb:Kp [] w w') (fun _ _=>by simp),i.s1,i.s2⟩
 |none=>
  have y:Cm m rk h a.1.2/\a.2.S=[]/\a.2.U=nn h a.1.2:=by unfold Eo at hk;rw[q]at hk;exact hk
  obtain⟨F,am,V⟩:=y;have s:=Oi F;have an:=Yk h a.1.2
  have Z:Fd rk m lk a.1.2.place a.1.2.dig=some (h==0,Cg h a.1.2):=by unfold Fd;rw[if_pos ⟨s.1,s.2.1,by omega⟩];exact s.2.2
  have E:Ie rk m lk (Ao a)=some (h==0,Cg h a.1.2):=by unfold Ie;show(Fd rk m lk a.1.2.place a.1.2.dig).bind _=_;rw[Z];show(if Qf a.1.1 (Cg h a.1.2)then _ else _)=_;rw[Aee hy];rfl
  have ab:Fa m lk a.1.2.place=lk+1:=by unfold Fa;rw[if_pos ⟨s.1,s.2.1,by omega⟩]
  refine(Aen x b bp l m v wv rk lk n false p d _ ev A.length (Ao a) w o.sys o.pv o.key o.vw o.fv o.bv (by omega) o.bl i.nd L q D ai).mono ?_;rintro r w' ⟨K,hr⟩;rcases hr with⟨O,_⟩|⟨lf,es',t,ev',M,rfl,W,J,C,ah,T⟩
  ·rw[E]at O;cases O
  ·rw[E]at M;cases M;obtain⟨S,U,I,ao,X⟩:=Au.load W F
   have u:∀j∈S,w.heap.size<=j:=fun j f=>by
    have:=X j f;simp only[Ad,Al,Bf]at this;rcases this with rfl|e
    ·exact ah
    ·exact T j e
   have Y:((A++a::B).map Ao).set A.length {Ao a with child:=some t}=(A++([(a.1,(⟨some t,S,U⟩:Kd))]++B)).map Ao:=by
    rw[Lw,Db];have:A.length=(A.map (Ao (h:=h))).length:=by simp
    rw[this,Nj];simp[Ao]
   rw[Y]at J
   have ac:Gd w w' l (lk+1):=by have:Fa m lk (Ao a).place=lk+1:=ab;rw[this]at K;exact K
   refine⟨t,S,U,lk+1,rfl,I,?_,ac,by rw[V];omega,C,fun j f=>.inr (u j f)⟩
   have ag:=Ke.swap (K':=Eo (Au w' m rk h) (Cm m rk h)) (N:=[(a.1,(⟨some t,S,U⟩:Kd))]) (H:=w.heap.size) i J (fun z hz ae=>ae.kp C (fun j f P=>by
     have Q:z∈A++a::B:=by rcases hz with g|g<;>simp[g]
     simp only[Al,Bf]at P;rcases P with rfl|e
     ·exact R z Q f
     ·exact i.s1 z Q j f (by simp[Ad,e]))) (fun z hz=>by
     simp at hz;subst hz
     exact I) (by simp) (fun z hz j f=>by
     simp at hz;subst hz
     exact .inr (u j f)) (fun z hz=>ad z (by rcases hz with g|g<;>simp[g])) (fun j f=>⟨.inl f,fun z hz=>by
     simp at hz;subst hz;intro g;have:=i.nd.bound f;have:=u j g
     omega⟩)
   exact ag
theorem Aks (k s:By):∀es:PL,Ws k s (es.map Dm)=(Eb k s es).map Dm
 | []=>rfl
 |a::es=>by
  have ih:=Aks k s es;have c:∀l:PL,En (l.map Dm)=l.map Prod.fst:=fun l=>by simp[En,Dm,Function.comp_def]
  unfold Ws at ih⊢;unfold Eb;rw[c]at ih⊢;by_cases h:Lt a.1 k
  ·have b:Bx k ((a::es).map Prod.fst)=Bx k (es.map Prod.fst)+1:=by
    unfold Bx;rw[Db,Ab5 (p:=fun x=>Op.bytesLess x k) h,Fh]
   rw[if_pos h,b,Db];simp only[Ab7,Dg,List.take_succ_cons,List.drop_succ_cons,Qv];rw[Db,<-ih];split<;>rename_i d
   ·split<;>rfl
   ·rfl
  ·have b:Bx k ((a::es).map Prod.fst)=0:=by
    unfold Bx;rw[Db,Aaf (p:=fun x=>Op.bytesLess x k) h];rfl
   rw[if_neg h,b];simp only[Db,List.getElem?_cons_zero,Co,Wb,List.drop_zero,Hu];by_cases hk:a.1=k
   ·rw[if_pos (show(Dm a).key=k from hk),if_pos hk];subst hk;rfl
   ·rw[if_neg (show ¬(Dm a).key=k from hk),if_neg hk];rfl
structure Wk (w:World)(x:DX)(b bp bw:Nat)(m:DM)(v:VM)(wv:Value)(rk:By)(lk:Nat)(top rv:Value)(ch:Bool)(rl:List Nat):Prop where
 env:Id w x b bp bw m v wv rk lk
 wk:Dj w bw b lk top rv ch
 row:Pv w rv rl
 rne:∀j,rv.ownBlock=some j->j≠bw
 rout:∀j,rv.ownBlock=some j->Dx x b bp wv j
def An (bw:Nat)(rv:Value):List Nat:=bw::rv.ownBlock.toList
section
variable {w w':World}{x:DX}{b bp bw:Nat}{m:DM}{v:VM}{wv:Value}{rk:By}{lk lk':Nat}{top rv rv':Value}{ch:Bool}{rl rl':List Nat}
theorem Wk.o (h:Wk w x b bp bw m v wv rk lk top rv ch rl):∀j∈An bw rv,Dx x b bp wv j:=fun j a=>by
 simp only[An,Al,Bf]at a;rcases a with rfl|e
 ·exact h.env.o
 ·exact h.rout j e
theorem Wk.bound (h:Wk w x b bp bw m v wv rk lk top rv ch rl):∀j∈An bw rv,j<w.heap.size:=fun j a=>by
 simp only[An,Al,Bf]at a;rcases a with rfl|e
 ·exact h.wk.lt
 ·exact Hl h.row j e
theorem Dj.vw (h:Dj w bw b lk top rv ch):Ma w bw b lk:=⟨h.c0,h.c1,h.fr 1⟩
theorem Dj.up (h:Dj w bw b lk top rv ch)(a:Gd w w' bw lk'):Dj w' bw b lk' top rv ch:=(h.set1 lk').of_block a
theorem Wk.kp {X:List Nat}(h:Wk w x b bp bw m v wv rk lk top rv ch rl)(a:Kp X w w')(c:∀j∈X,Dx x b bp wv j)(hd:Ck X (An bw rv)):Wk w' x b bp bw m v wv rk lk top rv ch rl:=by have hb:bw∉X:=fun g=>hd bw g (by simp[An]);have hw:=h.wk.of_block (a.block bw h.wk.lt hb);exact⟨h.env.kp a c hw.vw,hw,Bm h.row a (fun j d g=>hd j g (by simp[An,d])),h.rne,h.rout⟩
theorem Wk.step {X:List Nat}{c:Value}{d:Bool}(h:Wk w x b bp bw m v wv rk lk top rv ch rl)(g:Kp X w w')(i:∀j∈X,Dx x b bp wv j\/w.heap.size<=j)(hw:Dj w' bw b lk' c rv' d)(hr:Pv w' rv' rl')(f:Hn w rv rv')(e:∀j,rv'.ownBlock=some j->j≠bw):Wk w' x b bp bw m v wv rk lk' c rv' d rl':=
 ⟨h.env.kp g (fun j a=>(i j a).elim id h.env.new) hw.vw,hw,hr,e,fun j a=>(f j a).elim (h.rout j) h.env.new⟩
end
def Ahp (w:World)(m:DM)(rk:By)(h n:Nat)(r:Nd h×Option (Nd h))(q:Option Nat)(b a:List Nat)(e d:Nat):Prop:=
 Au w m rk h n r.1 b e/\Ck b a/\(match r.2,q with|none,none=>a=[]/\d=0|some f,some c=>Au w m rk h c f a d|_,_=>False)
theorem Ar1 {α:Type}{t:Es α}(h:t.es.length<=5):Ft t=(t,none):=by unfold Ft;rw[if_pos h]
theorem A0h {α:Type}{t:Es α}(h:t.es.length=6):Ft t=(⟨t.place,t.dig,t.es.take 3⟩,some ⟨0,[],t.es.drop 3⟩):=by unfold Ft;rw[if_neg (by omega),h]
theorem Ke.part {h:Nat}{w w':World}{m:DM}{rk:By}{n p k q:Nat}{d l:By}{ev ev':Value}{o i:List (EK h)}(c:Ke (Eo (Au w m rk h) (Cm m rk h)) w n p d ev o)(a:i.Sublist o)(hk:Kp [n] w w')(r:Av w' k false q l (i.map Ao) ev')(s:∀j∈Ad k ev',j=n\/w.heap.size<=j):Ke (Eo (Au w' m rk h) (Cm m rk h)) w' k q l ev' i:=
 ⟨r,fun x b=>(c.kid x (a.subset b)).kp hk (fun j f g=>by
   simp at g;subst g
   exact c.s1 x (a.subset b) j f (by simp[Ad])),fun x b j f g=>by
  have hb:=(c.kid x (a.subset b)).bound j f;rcases s j g with rfl|e
  ·exact c.s1 x (a.subset b) j f (by simp[Ad])
  ·omega,c.s2.sublist a⟩
theorem Aj2 {w:World}{m:DM}{rk:By}{h n:Nat}{T:Nd h}{S:List Nat}{U:Nat}(v:Au w m rk h n T S U)(ab:T.es.length<=6):
  Cl 133 #[.pointer (some ⟨n,0,none⟩)] w fun r w'=>∃q G L I J,r=.returned (Jg q)/\Ahp w' m rk h n (Ft T) q G L I J/\I+J=U/\Kp [n] w w'/\(∀j,(j∈G\/j∈L)->j∈S\/w.heap.size<=j):=by
 by_cases Q:T.es.length<=5
 ·obtain⟨W,ev,t,_,aa,_⟩:=v.top;refine(Asd n _ _ _ W ev w t (by omega)).mono ?_;rintro r w' ⟨rfl,rfl⟩;rw[Ar1 Q];exact⟨none,S,[],U,0,rfl,⟨v,fun _ _=>by simp,rfl,rfl⟩,rfl,Kp.refl _ _,fun j b=>by simpa using b.imp_right (fun g=>by cases g)|>.elim .inl .inl⟩
 ·have y:T.es.length=6:=by omega
  rw[A0h y]
  cases h with
  |zero=>
   obtain⟨ev,t,rfl,rfl⟩:=v;refine(Am3 n true _ _ _ ev w t (by simpa using y)).mono ?_;rintro r w' ⟨k,f,i,rfl,h1,h2,hk,hr,s,u⟩;have Y:=t.node.lt
   have D:Ck (Ad n f) (Ad k i):=fun j b g=>by
    simp only[Ad,Al,Bf]at b g;rcases b with rfl|e
    ·rcases g with g|g
     ·omega
     ·have:=u _ g;omega
    ·exact(s j e).2 (by simpa [Ad]using g)
   refine⟨some k,Ad n f,Ad k i,0,0,rfl,⟨⟨f,by rw[<-Uw]at h1;exact h1,rfl,rfl⟩,D,i,by rw[<-List.map_drop]at h2;exact h2,rfl,rfl⟩,rfl,hk,fun j b=>?_⟩;simp only[Ad,Al,Bf]at b⊢;rcases b with(rfl|e)|(rfl|e)
   ·exact .inl (.inl rfl)
   ·exact .inr (s j e).1
   ·exact .inr hr
   ·exact .inr (u j e)
  |succ h=>
   obtain⟨ev,d,C,p,rfl,rfl⟩:=v;have O:d.length=6:=by rw[C]at y;simpa using y
   refine(Am3 n false _ _ _ ev w p.nd (by simpa using O)).mono ?_;rintro r w' ⟨k,f,i,rfl,h1,h2,hk,hr,s,u⟩;have Y:=p.nd.node.lt
   have A:∀j∈Ad n f,j=n\/w.heap.size<=j:=fun j b=>by simp only[Ad,Al,Bf]at b;exact b.imp id (fun e=>(s j e).1)
   have z:∀j∈Ad k i,w.heap.size<=j:=fun j b=>by
    simp only[Ad,Al,Bf]at b;rcases b with rfl|e
    ·exact hr
    ·exact u j e
   rw[<-Uw]at h1;rw[<-List.map_drop]at h2;have P:=p.part (List.take_sublist 3 d) hk h1 A;have V:=p.part (List.drop_sublist 3 d) hk h2 (fun j b=>.inr (z j b))
   have E:∀j∈Dn d,j<w.heap.size/\j∉Ad n ev:=fun j b=>by obtain⟨x,l,o⟩:=Iw.1 b;exact⟨(p.kid x l).bound j o,p.s1 x l j o⟩
   have K:∀j∈Dn (d.take 3),j∈Dn d:=fun j b=>by obtain⟨x,l,o⟩:=Iw.1 b;exact Iw.2 ⟨x,Nc l,o⟩
   have F:∀j∈Dn (d.drop 3),j∈Dn d:=fun j b=>by obtain⟨x,l,o⟩:=Iw.1 b;exact Iw.2 ⟨x,Qs l,o⟩
   have M:Ck (Dn (d.take 3)) (Dn (d.drop 3)):=fun j b g=>by obtain⟨x,l,o⟩:=Iw.1 b;obtain⟨R,hy,X⟩:=Iw.1 g;have H:=p.s2;rw[<-Jb 3 d]at H;exact(Dc.1 H).2.2 x l R hy j o X
   have D:Ck (Ad n f++Dn (d.take 3)) (Ad k i++Dn (d.drop 3)):=fun j b g=>by
    rcases As.1 b with a|a
    ·rcases As.1 g with c|c
     ·have:=z j c;simp only[Ad,Al,Bf]at a;rcases a with rfl|e
      ·omega
      ·exact(s j e).2 c
     ·have:=E j (F j c);rcases A j a with rfl|e
      ·exact this.2 (by simp[Ad])
      ·omega
    ·have Z:=E j (K j a);rcases As.1 g with c|c
     ·have:=z j c;omega
     ·exact M j a c
   have N:Cs (d.take 3)+Cs (d.drop 3)=Cs d:=by rw[<-Ly,Jb]
   refine⟨some k,Ad n f++Dn (d.take 3),Ad k i++Dn (d.drop 3),Cs (d.take 3),Cs (d.drop 3),rfl,⟨⟨f,d.take 3,by show T.es.take 3=_;rw[C,Uw],P,rfl,rfl⟩,D,i,d.drop 3,by show T.es.drop 3=_;rw[C,List.map_drop],V,rfl,rfl⟩,N,hk,fun j b=>?_⟩;rcases b with g|g
   ·rcases As.1 g with g|g
    ·rcases A j g with rfl|e
     ·exact .inl (by simp[Ad])
     ·exact .inr e
    ·exact .inl (Bg _ (K j g))
   ·rcases As.1 g with g|g
    ·exact .inr (z j g)
    ·exact .inl (Bg _ (F j g))
def Ad2 (x:DX)(b bp bw:Nat)(m:DM)(v:VM)(wv:Value)(rk:By)(top:Value)(ch:Bool)(k s:By)(h:Nat):Prop:=
 ∀(n:Nat) (t:Nd h) (S:List Nat) (U lk:Nat) (rv:Value) (rl:List Nat) (w:World),Wk w x b bp bw m v wv rk lk top rv ch rl->Au w m rk h n t S U->Ck S (An bw rv)->(∀j∈S,Dx x b bp wv j)->Wf h t->Ba (flat h t)->t.es≠[]->t.es.length<=5->lk+U<=46->rl.length+h<=90000->
  Cl 113 #[.pointer (some ⟨bw,0,none⟩),.pointer (some ⟨n,0,none⟩),.string ⟨k.toArray⟩,.string ⟨s.toArray⟩] w fun r w'=>∃q g a c d e f,r=.returned (.tuple #[Jg q,.int .i64 0])/\Wk w' x b bp bw m v wv rk g top a ch (rl++Jw k h t)/\Ahp w' m rk h n (Cc k s h t) q c d e f/\g+e+f=lk+U/\Kp (An bw rv++S) w w'/\(∀j,(j∈c\/j∈d)->(j∈S\/w.heap.size<=j)/\j∉An bw a)/\Hn w rv a
theorem Hn.trans {w w':World}{a b c:Value}(h:Hn w a b)(k:Hn w' b c)(hz:w.heap.size<=w'.heap.size):Hn w a c:=fun j d=>by
 rcases k j d with e|e
 ·exact h j e
 ·exact .inr (by omega)
theorem A2p (x:DX)(b bp bw:Nat)(m:DM)(v:VM)(wv:Value)(rk:By)(top:Value)(ch:Bool)(k s:By):Ad2 x b bp bw m v wv rk top ch k s 0:=by
 intro n t S U lk rv rl w hw aj hd d p y i A o ao;obtain⟨ev,l,rfl,rfl⟩:=aj;have c:bw∉Ad n ev:=fun g=>hd bw g (by simp[An]);have X:bw≠n:=fun e=>c (by simp[Ad,e]);have M:∀j,rv.ownBlock=some j->j≠bw/\j∉Ad n ev:=fun j a=>⟨hw.rne j a,fun g=>hd j g (by simp[An,a])⟩;have h:∀j,ev.ownBlock=some j->j≠bw:=fun j a e=>c (by simp[Ad,<-e,a]);have ae:=Aa (Aan bw b lk top rv ch rl n true t.place t.dig _ ev w hw.wk hw.row l X M h (by omega));have J:=Aa (Ab hw (Ab l (Ab hd (Ab d (Ab p (Ab y (Ab i (Ab A (Ab o (Ab c h))))))))));clear hw l hd d p y i A o ao c X M h;go_enter Tryz.func113,Tryz.ntmps113;go_wp2_with fail;refine ae.o.mono ?_;rintro r w1 ⟨rfl,ac,wk1,af,K,k1,u,f⟩;obtain⟨hw,l,hd,d,p,y,i,A,o,c,h⟩:=J.o;have aq:=k1.size
 have ag:∀j∈bw::n::rv.ownBlock.toList,Dx x b bp wv j\/w.heap.size<=j:=fun j a=>by
  simp only[Al,Bf]at a;rcases a with rfl|rfl|e
  ·exact .inl hw.env.o
  ·exact .inl (d _ (by simp[Ad]))
  ·exact .inl (hw.rout j e)
 have z:=hw.step k1 ag wk1 af u (fun j a=>(f j a).1);have c0:=K.node.c0;have ab:t.es.map Dm≠[]:=by simpa using i
 have ah:=Aa (A2x n true 0 [] _ ev k s w1 K ab (by simp;omega));have ad:=Aa (Ab z (Ab k1 (Ab u f)));clear hw l hd d p y i A o c h wk1 af K k1 u f ag z ab ae;go_wp2_with fail;refine ah.o.mono ?_;rintro r w2 ⟨rfl,I,E,C,G⟩;obtain⟨hw,l,hd,d,p,y,i,A,o,c,h⟩:=J.o;obtain⟨z,k1,u,f⟩:=ad.o;have ap:=C.size
 have H:=z.kp C d (fun j a g=>by
  simp only[An,Al,Bf]at g;rcases g with rfl|g
  ·exact c a
  ·exact(f j g).2 a)
 rw[Aks]at E;have V:Au w2 m rk 0 n ⟨0,[],Eb k s t.es⟩ (Ad n I) 0:=⟨I,E,rfl,rfl⟩;have al:=Yi k s t.es;have O:=Aa (Aj2 V (by show(Eb k s t.es).length<=6;omega));have ak:=Aa (Ab H (Ab C (Ab G E)));clear hw l hd d p y i A o c h z k1 u f E C G H V ah c0 al;go_wp2_with fail;refine O.o.mono ?_;rintro r an ⟨q,N,Z,aa,P,rfl,W,am,L,n3⟩;obtain⟨hw,l,hd,d,p,y,i,A,o,c,h⟩:=J.o;obtain⟨z,k1,u,f⟩:=ad.o;obtain⟨H,C,G,E⟩:=ak.o;have F:n∈Ad n ev:=by simp[Ad]
 have Y:=H.kp L (fun j a=>by simp at a;subst a;exact d _ F) (fun j a g=>by
  simp at a;subst a;simp only[An,Al,Bf]at g;rcases g with rfl|g
  ·exact c F
  ·exact(f _ g).2 F)
 have T:∀j∈Ad n I,j∈Ad n ev\/w1.heap.size<=j:=fun j a=>by
  simp only[Ad,Al,Bf]at a⊢;rcases a with rfl|e
  ·exact .inl (.inl rfl)
  ·exact(G j e).imp .inr id
 have R:Kp (An bw rv++Ad n ev) w an:=((k1.mono (fun j a=>by
   simp only[Al,Bf]at a;simp only[An,Ad,As,Al,Bf];rcases a with e|e|e
   ·exact .inl (.inl e)
   ·exact .inr (.inl e)
   ·exact .inl (.inr e))).trans (C.mono (fun j a=>Bg _ a))).trans (L.mono (fun j a=>by simp at a;subst a;exact Bg _ F))
 have Q:∀j,(j∈N\/j∈Z)->(j∈Ad n ev\/w.heap.size<=j)/\j∉An bw ac:=fun j a=>by
  have ai:=z.bound;rcases n3 j a with g|g
  ·rcases T j g with e|e
   ·refine⟨.inl e,fun g=>?_⟩;simp only[An,Al,Bf]at g;rcases g with rfl|g
    ·exact c e
    ·exact(f j g).2 e
   ·exact⟨.inr (by omega),fun g=>by have:=ai j g;omega⟩
  ·exact⟨.inr (by omega),fun g=>by have:=ai j g;omega⟩
 have D:=Aa (Ab Y (Ab W (Ab (show lk+aa+P=lk+0 from by omega) (Ab R (Ab Q u)))));clear hw l hd d p y i A o c h z k1 u f H C G E F Y T R Q W am L n3 O;go_wp2_with fail;go_ret2;exact⟨q,lk,ac,N,Z,aa,P,rfl,D.o.1,D.o.2.1,D.o.2.2.1,D.o.2.2.2.1,D.o.2.2.2.2.1,D.o.2.2.2.2.2⟩
theorem Xp (b:Oper)(a:Act)(x i:Operand)(g n c k:Nat)(e:b.op=.indexAddr 136 x i)(f:a.eval x=.slice (some ⟨g,0,none⟩) n c)(d:a.eval i=.int .i64 (k:Int))(hk:(k:Int)<(n:Int))(w:World):
  (execOp a.eval b).run Tryz.prog w=.ok (.value (.pointer (some ⟨g,k*5,none⟩))) w:=by
 unfold execOp;simp only[e,f,d];clear f e d
 go_simp
theorem Adv (e:Oper)(a:Act)(x f:Operand)(b d:Nat)(s:Option Addr)(n c:Nat)(u:Value)(g:e.op=.store 136 x f)(h:a.eval x=.pointer (some ⟨b,d,none⟩))(hy:a.eval f=.slice s n c)(w:World)(j:w.cell? ⟨b,d,none⟩=some u)(i:w.frozen? ⟨b,d,none⟩=false):
  (execOp a.eval e).run Tryz.prog w=.ok .skip (w.setCell ⟨b,d,none⟩ (.slice s n c)):=by
 unfold execOp;simp only[g,h,hy];clear h g hy
 go_simp
theorem Av.put {w:World}{n:Nat}{leaf:Bool}{place:Nat}{digest:By}{es:List EG}{ev:Value}(h:Av w n leaf place digest es ev){c cap:Nat}(k:ev=.slice (some ⟨c,0,none⟩) es.length cap)(i:Nat)(e a:EG)(f:es[i]?=some e):
  Av (w.setCells c (i*5) a.cells) n leaf place digest (es.set i a) ev:=by
 have l:=(Ds.1 f).1;have g:∀b:EG,(es.set i b)[i]?=some b:=fun b=>by rw[List.getElem?_set_self l]
 have e1:∀b:EG,ev=.slice (some ⟨c,0,none⟩) (es.set i b).length cap:=fun b=>by rw[Ht];exact k
 have h0:=h.cell k i 0 e {e with key:=a.key} (Ac a.key) f (by decide) rfl;have h1:=h0.cell (e1 _) i 1 _ {e with key:=a.key,value:=a.value} (Ac a.value) (g _) (by decide) rfl;rw[List.set_set]at h1;have h2:=h1.cell (e1 _) i 2 _ {e with key:=a.key,value:=a.value,place:=a.place} (.int .i64 (a.place:Int)) (g _) (by decide) rfl;rw[List.set_set]at h2;have d:=h2.cell (e1 _) i 3 _ {e with key:=a.key,value:=a.value,place:=a.place,digest:=a.digest} (Ac a.digest) (g _) (by decide) rfl;rw[List.set_set]at d;have j:=d.cell (e1 _) i 4 _ a (Jg a.child) (g _) (by decide) rfl;rw[List.set_set]at j;exact j
theorem Av.there5 {w:World}{n:Nat}{leaf:Bool}{place:Nat}{digest:By}{es:List EG}{ev:Value}(h:Av w n leaf place digest es ev){b cap:Nat}(d:ev=.slice (some ⟨b,0,none⟩) es.length cap)(i:Nat)(c:i<es.length):w.there b (i*5) 5:=by obtain⟨g,m,cur,a,hb,l,k,j,e,f⟩:=h.blk (by rintro rfl;simp at c);rw[d]at a;simp only[Value.slice.injEq,Option.some.injEq,Addr.mk.injEq,and_true,true_and]at a;obtain⟨rfl,rfl⟩:=a;exact Ail hb (i*5) 5 (by omega)
theorem Au.entFor {w:World}{m:DM}{rk:By}{h c:Nat}{t:Nd h}{S:List Nat}{U:Nat}(d:Au w m rk h c t S U):∃leaf a ev,Av w c leaf t.place t.dig a ev/\Proofs.YtojgilcdgccojaaGreatDoor.entFor c t.place t.dig a=Ao ((t.least,t),(⟨some c,S,U⟩:Kd)):=by obtain⟨a,ev,b,_,_,_,e⟩:=d.top;exact⟨_,a,ev,b,by simp[Proofs.YtojgilcdgccojaaGreatDoor.entFor,Ao,e]⟩
theorem An1 {α:Type}(a:List α)(i:Nat)(c:i<a.length):∃A b B,a=A++b::B/\A.length=i:=
 ⟨a.take i,a[i],a.drop (i+1),by rw[<-Kh c,Jb],by rw[Fr];omega⟩
theorem A0w (x:DX)(b bp bw:Nat)(m:DM)(v:VM)(wv:Value)(rk:By)(top:Value)(ch:Bool)(k s:By)(fe:Vc (k,s))(h:Nat)(ih:Ad2 x b bp bw m v wv rk top ch k s h):Ad2 x b bp bw m v wv rk top ch k s (h+1):=by
 intro n t S U lk rv rl w hw cq hd P co bv d3 f4 ap eq;obtain⟨ev,L,aq,M,rfl,rfl⟩:=cq;have cw:Ck (Ad n ev) (An bw rv):=fun j a=>hd j (Bl _ a);have fl:Ck (Dn L) (An bw rv):=fun j a=>hd j (Bg _ a);have J:bw∉Ad n ev:=fun g=>cw bw g (by simp[An]);have d2:bw≠n:=fun e=>J (by simp[Ad,e]);have dq:∀j,rv.ownBlock=some j->j≠bw/\j∉Ad n ev:=fun j a=>⟨hw.rne j a,fun g=>cw j g (by simp[An,a])⟩;have aj:∀j,ev.ownBlock=some j->j≠bw:=fun j a e=>J (by simp[Ad,<-e,a]);obtain⟨cf,e0,dm,cg,ct,e7,e9⟩:=Tc k h t co d3 bv;have dv:L.length=t.es.length:=by rw[aq];simp
 obtain⟨A,d,B,fb,a8⟩:=An1 L (Dk k (Be t.es)) (by rw[dv,<-ct,cg];simp);subst fb
 have d7:d.1=e0/\A.map Prod.fst=cf/\B.map Prod.fst=dm:=by
  have e:A.map Prod.fst++d.1::B.map Prod.fst=cf++e0::dm:=by rw[<-cg,aq];simp
  have fc:(A.map Prod.fst).length=cf.length:=by rw[Fi,a8,ct]
  obtain⟨h1,h2⟩:=List.append_inj e fc
  injection h2 with fu fi
  exact⟨fu,h1,fi⟩
 have bc:Gl d.1:=(Gg.1 co) d.1 (by rw[aq];simp)
 have c4:Ba (flat h d.1.2):=by
  have ft:flat (h+1) t=cf.flatMap (fun e=>flat h e.2)++(flat h e0.2++dm.flatMap (fun e=>flat h e.2)):=by show t.es.flatMap _=_;rw[cg,Gh,Da]
  rw[ft]at bv;rw[d7.1];exact(Dc.1 (Dc.1 bv).2.1).1
 have dx:Jw k (h+1) t=nz t.place++Jw k h d.1.2:=by
  have dk:t.es[Dk k (Be t.es)]?=some d.1:=by rw[<-a8,aq];simp
  rw[Jw,dk]
 have ec:Cc k s (h+1) t=Ft ⟨0,[],A.map Prod.fst++((Cc k s h d.1.2).1.least,(Cc k s h d.1.2).1)::(match (Cc k s h d.1.2).2 with|none=>B.map Prod.fst|some q=>(q.least,q)::B.map Prod.fst)⟩:=by
  have dk:t.es[Dk k (Be t.es)]?=some d.1:=by rw[<-a8,aq];simp
  rw[Cc,dk];simp only
  congr 2
  have:t.es=A.map Prod.fst++d.1::B.map Prod.fst:=by rw[aq];simp
  rw[<-a8,this];have f9:A.length=(A.map Prod.fst).length:=by simp
  rw[f9];exact Ahj _ _ _ _
 have es:En ((A++d::B).map Ao)=Be t.es:=by rw[Ano,aq]
 have a5:(A++d::B).length<=5:=by omega
 have ax:=Ahq k s fe h d.1.2 bc.1.1 c4 bc.1.ne bc.1.2.2;have et:=Aa (Aan bw b lk top rv ch rl n false t.place t.dig _ ev w hw.wk hw.row M.nd d2 dq aj (by omega));have a2:=Aa (Ab hw (Ab M (Ab hd (Ab P (Ab J (Ab aj ap))))));have E:=Aa (Ab bc (Ab c4 (Ab dx (Ab ec (Ab a5 (Ab ax eq))))));have dj:=Aa (Ab es a8);clear hw M hd P co bv d3 f4 ap eq J d2 dq aj cw fl cg ct e7 e9 dv d7 bc c4 dx ec es a5 ax aq a8;go_enter Tryz.func113,Tryz.ntmps113;go_wp2_with fail;refine et.o.mono ?_;rintro r w1 ⟨rfl,ai,wk1,eu,cc,k1,aa,T⟩;obtain⟨hw,M,hd,P,J,aj,ap⟩:=a2.o;have dh:=k1.size;have y:n∈Ad n ev:=by simp[Ad]
 have ey:∀j∈bw::n::rv.ownBlock.toList,Dx x b bp wv j\/w.heap.size<=j:=fun j a=>by
  simp only[Al,Bf]at a;rcases a with rfl|rfl|e
  ·exact .inl hw.env.o
  ·exact .inl (P _ (Bl _ y))
  ·exact .inl (hw.rout j e)
 have K:=hw.step k1 ey wk1 eu aa (fun j a=>(T j a).1)
 have ds:∀z∈A++d::B,Ck z.2.S (bw::n::rv.ownBlock.toList):=fun z hz j a g=>by
  have a7:j∈Dn (A++d::B):=Iw.2 ⟨z,hz,a⟩;simp only[Al,Bf]at g;rcases g with rfl|rfl|e
  ·exact hd _ (Bg _ a7) (by simp[An])
  ·exact M.s1 z hz _ a y
  ·exact hd j (Bg _ a7) (by simp[An,e])
 have O:Ke (Eo (Au w1 m rk h) (Cm m rk h)) w1 n 0 [] ev (A++d::B):=⟨cc,fun z hz=>(M.kid z hz).kp k1 (ds z hz),M.s1,M.s2⟩
 have Q:∀z∈A++d::B,∀j∈z.2.S,j∉An bw ai/\Dx x b bp wv j:=fun z hz j a=>by
  have a7:j∈Dn (A++d::B):=Iw.2 ⟨z,hz,a⟩;refine⟨fun g=>?_,P j (Bg _ a7)⟩;simp only[An,Al,Bf]at g;rcases g with rfl|g
  ·exact hd _ (Bg _ a7) (by simp[An])
  ·rcases aa j g with e|e
   ·exact hd j (Bg _ a7) (by simp[An,e])
   ·have:=(M.kid z hz).bound j a;omega
 have c0:=cc.node.c0;have cu:=Aa (Ahv n false 0 [] _ ev k w1 cc (by simp) (by have:=E.o.2.2.2.2.1;rw[Fi];omega));rw[dj.o.1,<-dj.o.2]at cu;have cp:d.2.U<=Cs (A++d::B):=by rw[Ly,Rq];omega
 have ed:=Aa (Aqx K.env O E.o.1 (by have:=E.o.2.2.2.2.1;omega) (by omega) J (fun z hz g=>(Q z hz bw g).1 (by simp[An])));have ba:=Aa (Ab K (Ab O (Ab Q (Ab k1 (Ab aa T)))));clear hw M hd P J aj ap ey wk1 eu cc k1 aa T K ds O Q cp et dj y;go_wp2_with fail;refine cu.o.mono ?_;rintro r fq ⟨rfl,dy⟩;rw[dy];clear dy fq cu;go_wp2_with fail;refine ed.o.mono ?_;rintro r w2 ⟨c,p,av,ep,rfl,ee,am,ef,cd,al,nSc⟩;obtain⟨K,O,Q,k1,aa,T⟩:=ba.o;obtain⟨hw,M,hd,P,J,aj,ap⟩:=a2.o;have cm:=al.size
 have bo:Wk w2 x b bp bw m v wv rk ep top ai ch (rl++nz t.place):=K.step al (fun j a=>by
   simp only[Al,Bf]at a;rcases a with rfl|e
   ·exact .inl K.env.o
   ·exact .inl (P j (Bl _ (by simp[Ad,e])))) (K.wk.up ef) (Bm K.row al (fun j a g=>by
   simp only[Al,Bf]at g;rcases g with e|e
   ·exact(T j a).1 e
   ·exact(T j a).2 (by simp[Ad,e]))) (fun j a=>.inl a) K.rne
 have c7:d∈A++d::B:=by simp
 have be:Ck p (An bw ai):=fun j a g=>by
  rcases nSc j a with e|e
  ·exact(Q d c7 j e).1 g
  ·have:=K.bound j g;omega
 have ew:∀j∈p,Dx x b bp wv j:=fun j a=>by
  rcases nSc j a with e|e
  ·exact(Q d c7 j e).2
  ·exact K.env.new e
 have cp:d.2.U<=Cs (A++d::B):=by rw[Ly,Rq];omega
 have f0:(nz t.place).length<=1:=by unfold nz;split<;>simp
 have d9:=Aa (ih c d.1.2 p av ep ai _ w2 bo ee be ew E.o.1.1.1 E.o.2.1 E.o.1.1.ne E.o.1.1.2.2 (by omega) (by have:=E.o.2.2.2.2.2.2;rw[Bb];omega));have bx:=Aa (Ab bo (Ab am (Ab cd (Ab al (Ab nSc be)))));clear K O Q k1 aa T hw M hd P J aj ap ee am ef cd al nSc bo c7 be ew cp f0 ed c0 ih dh cm;go_wp2_with fail;refine d9.o.mono ?_;rintro r az ⟨q,a0,Z,G,C,ae,W,rfl,c2,R,b3,cj,n3,ak⟩;obtain⟨K,O,Q,k1,aa,T⟩:=ba.o;obtain⟨hw,M,hd,P,J,aj,ap⟩:=a2.o;obtain⟨bo,am,cd,al,nSc,be⟩:=bx.o;have dh:=k1.size;have cm:=al.size;have fo:=cj.size;have df:(d.1,(⟨some c,p,av⟩:Kd))∈A++((d.1,(⟨some c,p,av⟩:Kd))::B):=by simp
 have cr:∀j∈Ad n ev,j∉An bw ai++p:=fun j a g=>by
  rcases As.1 g with g|g
  ·simp only[An,Al,Bf]at g;rcases g with rfl|g
   ·exact J a
   ·exact(T j g).2 a
  ·exact am.s1 _ df j g a
 have b1:=am.nd.kp cj (cr n (by simp[Ad])) (fun j a=>cr j (by simp[Ad,a]));obtain⟨I,a6⟩:=nmd (Cc k s h d.1.2);rw[a6]at R;have ax:=E.o.2.2.2.2.2.1;rw[a6]at ax;obtain⟨a4,dc⟩:=nmd (az.drew);have bt:Bw az a4:=dc▸(Ah _ _).drew;obtain⟨lf,fa,fx,eg,eh⟩:=(R.1.below bt).entFor;obtain⟨F,er,bz⟩:=Abz c lf I.1.place I.1.dig fa fx a4 eg;rw[eh]at bz;obtain⟨i,ac⟩:∃i:EK h,((I.1.least,I.1),(⟨some c,G,ae⟩:Kd))=i:=⟨_,rfl⟩;rw[ac]at bz;have ab:Bw az F:=bt.trans (er.mono bt.size);have b5:=b1.below ab;obtain⟨l,cap,V,fz,fs,a9,br,_,_⟩:=b1.row (by simp);have c9:=V;have dd:((A++((d.1,(⟨some c,p,av⟩:Kd))::B)).map Ao).length=A.length+(B.length+1):=by simp
 obtain⟨ag,dw⟩:=nmd (A.length+(B.length+1));rw[dd,dw]at V a9;have en:((A++((d.1,(⟨some c,p,av⟩:Kd))::B)).map Ao)[A.length]?=some (Ao (d.1,(⟨some c,p,av⟩:Kd))):=by simp
 obtain⟨o,b2⟩:=nmd (F.setCells l (A.length*5) (Ao i).cells);have Y:=b5.put c9 A.length _ (Ao i) en
 have ei:((A++((d.1,(⟨some c,p,av⟩:Kd))::B)).map Ao).set A.length (Ao i)=(A++([i]++B)).map Ao:=by
  rw[Lw,Db];have:A.length=(A.map (Ao (h:=h))).length:=by simp
  rw[this,Nj];simp
 rw[b2,ei]at Y;have dt:=b5.there5 c9 A.length (by rw[dd];omega);have ah:Kp [l] F o:=b2▸(Kp.refl [l] F).setCells l _ _ (.inl (by simp));have ad:l∈Ad n ev:=by simp[Ad,V,Value.ownBlock]
 have cells:∀w'∈[a4,F,o],w'.cell? ⟨n,3,none⟩=some (.slice (some ⟨l,0,none⟩) ag cap):=fun w' f=>by
  simp only[Al,Cq,or_false]at f;rw[<-V];rcases f with rfl|rfl|rfl
  ·exact(b1.below bt).node.c3
  ·exact b5.node.c3
  ·exact Y.node.c3
 have c6:(A.length:Int)<(ag:Int):=by omega
 have b0:∀z,z∈A\/z∈B->z∈A++d::B/\z∈A++((d.1,(⟨some c,p,av⟩:Kd))::B):=fun z hz=>by rcases hz with g|g<;>simp[g]
 have dz:∀z,z∈A\/z∈B->Ck z.2.S p:=fun z hz j a g=>by
  obtain⟨gg,fv,f6⟩:=Dc.1 am.s2;obtain⟨e6,gi⟩:=Er.1 fv;rcases hz with e|e
  ·exact f6 z e _ Qu j a g
  ·exact e6 z e j g a
 have bh:∀z,z∈A\/z∈B->Ck z.2.S (bw::Ad n ev++(An bw ai++p)):=fun z hz j a g=>by
  have ay:=(b0 z hz).1;rcases As.1 g with g|g
  ·rcases Al.1 g with rfl|g
   ·exact(Q z ay _ a).1 (by simp[An])
   ·exact O.s1 z ay j a g
  ·rcases As.1 g with g|g
   ·exact(Q z ay j a).1 g
   ·exact dz z hz j a g
 have bb:∀j,(j∈G\/j∈C)->(j∈d.2.S\/w1.heap.size<=j):=fun j a=>by
  rcases(n3 j a).1 with g|g
  ·exact nSc j g
  ·exact .inr (by omega)
 have ao:∀j,(j∈G\/j∈C)->j∉Ad n ev:=fun j a g=>by
  rcases(n3 j a).1 with e|e
  ·exact am.s1 _ df j e g
  ·have:=am.nd.bound g;omega
 have bq:∀j,(j∈G\/j∈C)->j<az.heap.size:=fun j a=>by
  rcases a with g|g
  ·exact Au.bound _ _ _ _ _ R.1 j g
  ·have f:=R.2.2
   cases D:I.2 with
   |none=>
    cases X:q with
    |none=>rw[D,X]at f;rw[f.1]at g;cases g
    |some _=>rw[D,X]at f;exact f.elim
   |some r2=>
    cases X:q with
    |none=>rw[D,X]at f;exact f.elim
    |some rc=>rw[D,X]at f;exact Au.bound _ _ _ _ _ f j g
 have bi:Kp (bw::Ad n ev++(An bw ai++p)) w1 o:=(((al.mono (fun j a=>by
   simp only[Al,Bf]at a;rcases a with rfl|e
   ·simp
   ·simp[Ad,e])).trans (cj.mono (fun j a=>Bg _ a))).trans (Kp.of_below ab)).trans (ah.mono (fun j a=>by simp at a;subst a;exact Bl _ (Nb _ ad)))
 have bu:Wk o x b bp bw m v wv rk a0 top Z ch (rl++nz t.place++Jw k h d.1.2):=(c2.kp (Kp.of_below ab:Kp [] az F) (by simp) (fun _ h=>by cases h)).kp ah (fun j a=>by simp at a;subst a;exact P _ (Bl _ ad)) (fun j a g=>by
  simp at a;subst a;simp only[An,Al,Bf]at g;rcases g with e|e
  ·exact J (e▸ad)
  ·rcases ak _ e with e|e
   ·exact(T _ e).2 ad
   ·have:=O.nd.bound ad;omega)
 have d5:∀(wf:World) (evf:Value) (N:List (EK h)),Av wf n false 0 [] ((A++(N++B)).map Ao) evf->(∀z∈N,Eo (Au wf m rk h) (Cm m rk h) z.1.2 z.2)->(N.Pairwise fun x d=>Ck x.2.S d.2.S)->(∀z∈N,∀j∈z.2.S,j∈G\/j∈C)->
   N.map Prod.fst=(I.1.least,I.1)::(match I.2 with|none=>[]|some q=>[(q.least,q)])->Cs N=ae+W->Kp (bw::Ad n ev++(An bw ai++p)) w1 wf->(∀j∈Ad n evf,j∈Ad n ev\/az.heap.size<=j)->Wk wf x b bp bw m v wv rk a0 top Z ch (rl++nz t.place++Jw k h d.1.2)->
   Cl 133 #[.pointer (some ⟨n,0,none⟩)] wf fun r w'=>∃q G C ae W,r=.returned (Jg q)/\Wk w' x b bp bw m v wv rk a0 top Z ch (rl++Jw k (h+1) t)/\Ahp w' m rk (h+1) n (Cc k s (h+1) t) q G C ae W/\a0+ae+W=lk+Cs (A++d::B)/\Kp (An bw rv++(Ad n ev++Dn (A++d::B))) w w'/\(∀j,(j∈G\/j∈C)->(j∈Ad n ev++Dn (A++d::B)\/w.heap.size<=j)/\j∉An bw Z)/\Hn w rv Z:=by
  intro wf evf N f8 f7 fy cl d1 gh dl c8 Wf;have gd:=dl.size;have y:n∈Ad n ev:=by simp[Ad]
  have dp:∀j∈Ad n ev,j∉An bw Z:=fun j a g=>by
   simp only[An,Al,Bf]at g;rcases g with e|e
   ·exact J (e▸a)
   ·rcases ak _ e with e|e
    ·exact(T _ e).2 a
    ·have:=O.nd.bound a;omega
  have inf:Ke (Eo (Au wf m rk h) (Cm m rk h)) wf n 0 [] evf (A++(N++B)):=Ke.swap (H:=w1.heap.size) O f8 (fun z hz f5=>f5.kp dl (bh z hz)) f7 fy (fun z hz j a=>bb j (cl z hz j a)) (fun z hz=>(O.kid z (b0 z hz).1).bound) (fun j a=>⟨(c8 j a).imp id (fun e=>by omega),fun z hz g=>by
   have:=cl z hz j g;rcases c8 j a with e|e
   ·exact ao j this e
   ·have:=bq j this;omega⟩)
  have fh:Au wf m rk (h+1) n ⟨0,[],(A++(N++B)).map Prod.fst⟩ (Ad n evf++Dn (A++(N++B))) (Cs (A++(N++B))):=⟨evf,_,rfl,inf,rfl,rfl⟩
  have ge:N.length<=2:=by have:=congrArg List.length d1;rw[Fi]at this;rw[this];cases I.2<;>simp
  have e4:Cc k s (h+1) t=Ft ⟨0,[],(A++(N++B)).map Prod.fst⟩:=by rw[E.o.2.2.2.1,a6,Lw,Lw,d1];cases I.2<;>simp
  have a5:=E.o.2.2.2.2.1;rw[e4,E.o.2.2.1]
  refine(Aj2 fh (by
   show((A++(N++B)).map Prod.fst).length<=6;simp only[Fi,Bb,Fh]at a5⊢
   omega)).mono ?_
  rintro r w' ⟨fr,fw,fk,f2,f1,rfl,gb,gf,d8,fp⟩
  have ej:Wk w' x b bp bw m v wv rk a0 top Z ch (rl++nz t.place++Jw k h d.1.2):=Wf.kp d8 (fun j a=>by simp at a;subst a;exact P _ (Bl _ y)) (fun j a g=>by
   simp at a;subst a
   exact dp _ y g)
  rw[Cw]at ej;refine⟨fr,fw,fk,f2,f1,rfl,ej,gb,?_,?_,fun j a=>?_,aa.trans ak (by omega)⟩
  ·have e1:Cs (A++(N++B))=Cs A+(Cs N+Cs B):=by rw[Ly,Ly]
   have e2:Cs (A++d::B)=Cs A+(d.2.U+Cs B):=by rw[Ly,Rq]
   omega
  ·have fm:Kp (An bw rv++(Ad n ev++Dn (A++d::B))) w w1:=k1.mono (fun j a=>by
    simp only[Al,Bf]at a;simp only[An,Ad,As,Al,Bf];rcases a with e|e|e
    ·exact .inl (.inl e)
    ·exact .inr (.inl (.inl e))
    ·exact .inl (.inr e))
   refine(fm.step (dl.trans (d8.mono (fun j a=>by simp at a;subst a;exact Bl _ (Nb _ y)))) (fun j a=>?_));rcases As.1 a with g|g
   ·rcases Al.1 g with rfl|g
    ·exact .inl (Bl _ (by simp[An]))
    ·exact .inl (Bg _ (Bl _ g))
   ·rcases As.1 g with g|g
    ·simp only[An,Al,Bf]at g;rcases g with rfl|g
     ·exact .inl (Bl _ (by simp[An]))
     ·rcases aa j g with e|e
      ·exact .inl (Bl _ (by simp[An,e]))
      ·exact .inr e
    ·rcases nSc j g with e|e
     ·exact .inl (Bg _ (Bg _ (Iw.2 ⟨d,by simp,e⟩)))
     ·exact .inr (by omega)
  ·have base:∀j∈Ad n evf++Dn (A++(N++B)),(j∈Ad n ev++Dn (A++d::B)\/w.heap.size<=j)/\j∉An bw Z:=fun j a=>by
    rcases As.1 a with g|g
    ·rcases c8 j g with e|e
     ·exact⟨.inl (Bl _ e),dp j e⟩
     ·exact⟨.inr (by omega),fun g=>by have:=c2.bound j g;omega⟩
    ·obtain⟨z,hz,bn⟩:=Iw.1 g
     have bm:(z∈A\/z∈B)\/z∈N:=by
      rcases As.1 hz with g|g
      ·exact .inl (.inl g)
      ·rcases As.1 g with g|g
       ·exact .inr g
       ·exact .inl (.inr g)
     rcases bm with bm|bm
     ·have ay:=(b0 z bm).1;refine⟨.inl (Bg _ (Iw.2 ⟨z,ay,bn⟩)),fun g=>?_⟩;simp only[An,Al,Bf]at g;rcases g with e|e
      ·exact(Q z ay j bn).1 (by simp[An,e])
      ·rcases ak _ e with e|e
       ·exact(Q z ay j bn).1 (by simp[An,e])
       ·have:=(O.kid z ay).bound j bn;omega
     ·have du:=cl z bm j bn;refine⟨?_,(n3 j du).2⟩;rcases bb j du with e|e
      ·exact .inl (Bg _ (Iw.2 ⟨d,by simp,e⟩))
      ·exact .inr (by omega)
   rcases fp j a with g|g
   ·exact base j g
   ·exact⟨.inr (by have:=k1.size;omega),fun f3=>by have:=Wf.bound j f3;omega⟩
 have b7:=Aa d5;have af:=Aa (Ab dc (Ab bz (Ab b2 dt)));have ce:=Aa cells;have u:=Aa (Ab bu (Ab R (Ab Y (Ab bi (Ab bh (Ab bb (Ab ao (Ab bq (Ab ax (Ab a6 (Ab ac (Ab b3 (Ab n3 (Ab ak (Ab V (Ab a9 (Ab br (Ab ab ah))))))))))))))))));have b8:=Aa (Ao i).one
 have cv:=Aa (show(I.2=none/\q=none)\/∃r2 rc,I.2=some r2/\q=some rc from by
  have f:=R.2.2
  cases D:I.2 with
  |none=>
   cases X:q with
   |none=>exact .inl ⟨rfl,rfl⟩
   |some _=>rw[D,X]at f;exact f.elim
  |some r2=>
   cases X:q with
   |none=>rw[D,X]at f;exact f.elim
   |some rc=>exact .inr ⟨r2,rc,rfl,rfl⟩)
 clear K O Q k1 aa T hw M hd P J aj ap bo am cd al nSc be dh cm fo df cr b1 ax bt eg eh er bz ab b5 fz fs a9 br V c9 dd en Y ei dt d5 ah ad cells b0 dz bh bb ao bq bi bu R n3 ak cj c2 b3 dc b2 a6 ac dw d9;rcases cv.o with⟨D,rfl⟩|⟨r2,rc,D,rfl⟩
 ·have bl:=Aa D;clear cv D;simp only[Jg,Option.map_none];go_wp2_with fail;refine Gf (Ek [a4,F,o]) [6,8] (by kernel_rfl) (by kernel_rfl) (by rw[af.o.1];rfl) ?_;refine Am 0 (.pointer (some ⟨n,0,none⟩)) ?_;refine Am 1 (.pointer (some ⟨n,0,none⟩)) ?_;refine Am 2 (.pointer (some ⟨n,3,none⟩)) ?_;refine Gv 3 (.slice (some ⟨l,0,none⟩) ag cap) Jt (fun q w hw=>ce.o w hw.mem) ?_;refine Am 4 (.int .i64 (A.length:Int)) ?_;refine Am 5 (.pointer (some ⟨c,0,none⟩)) ?_;refine Gr 6 (.agg (Ao i).cells.toArray) rfl (by kernel_rfl) rfl (Pk a4 F rfl rfl 114 #[.pointer (some ⟨c,0,none⟩)] (fun _=>by kernel_rfl) af.o.2.1) ?_;refine Em 7 (.pointer (some ⟨l,A.length*5,none⟩)) rfl (by kernel_rfl) rfl (fun _=>Cp (fun w=>Xp _ _ _ _ l ag cap A.length rfl (by kernel_rfl) (by kernel_rfl) c6 w)) ?_;refine Kr 8 rfl (by kernel_rfl) rfl (Kv F o rfl rfl (by rw[<-af.o.2.2.1];exact Up _ _ 142 _ _ l (A.length*5) _ rfl (by kernel_rfl) (by kernel_rfl) (by kernel_rfl) b8.o F af.o.2.2.2)) ?_;refine Cj.done (by kernel_rfl) fun w' au=>?_;simp only[Act.put,Cz,Dg,Co];obtain rfl:=au.eq (w0:=o) rfl
  have bd:=Aa (b7.o w' ev [i] u.o.2.2.1 (fun z hz=>by
   simp at hz;subst hz;rw[<-u.o.2.2.2.2.2.2.2.2.2.2.1]
   exact Au.kp u.o.2.2.2.2.2.2.2.2.2.2.2.2.2.2.2.2.2.2 _ _ _ _ _ (u.o.2.1.1.below u.o.2.2.2.2.2.2.2.2.2.2.2.2.2.2.2.2.2.1) (fun j a g=>by
    simp at g;subst g
    exact u.o.2.2.2.2.2.2.1 _ (.inl a) (by simp[Ad,u.o.2.2.2.2.2.2.2.2.2.2.2.2.2.2.1,Value.ownBlock]))) (by simp) (fun z hz j a=>by
   simp at hz;subst hz;rw[<-u.o.2.2.2.2.2.2.2.2.2.2.1]at a
   exact .inl a) (by rw[<-u.o.2.2.2.2.2.2.2.2.2.2.1,bl.o];rfl) (by
   have f:=u.o.2.1.2.2;rw[bl.o]at f;rw[<-u.o.2.2.2.2.2.2.2.2.2.2.1,f.2]
   simp[Cs]) u.o.2.2.2.1 (fun j a=>.inl a) u.o.1)
  clear af ce b8 au b7 u bl a2 E ba bx;go_wp2_with fail;refine bd.o.mono ?_;rintro r aw ⟨q,G,C,ae,W,rfl,bj⟩;have dg:=Aa bj;clear bj bd;go_wp2_with fail;go_ret2;exact⟨q,a0,Z,G,C,ae,W,rfl,dg.o⟩
 ·have bl:=Aa D;obtain⟨bu,R,Y,bi,bh,bb,ao,bq,ax,a6,ac,b3,n3,ak,V,a9,br,ab,ah⟩:=u.o;have ad:l∈Ad n ev:=by simp[Ad,V,Value.ownBlock]
  have ex:Au az m rk h rc r2 C W:=by have f:=R.2.2;rw[D]at f;exact f
  have cy:Au o m rk h rc r2 C W:=Au.kp ah _ _ _ _ _ (ex.below ab) (fun j a g=>by
   simp at g;subst g
   exact ao _ (.inr a) ad)
  have dr:Au o m rk h c I.1 G ae:=Au.kp ah _ _ _ _ _ (R.1.below ab) (fun j a g=>by
   simp at g;subst g
   exact ao _ (.inl a) ad)
  obtain⟨bf,di⟩:=nmd (o.drew);have bg:Bw o bf:=di▸(Ah _ _).drew;obtain⟨fj,ga,ff,ea,eb⟩:=(cy.below bg).entFor;obtain⟨aw,el,ca⟩:=Abz rc fj r2.place r2.dig ga ff bf ea;rw[eb]at ca;obtain⟨an,a3⟩:∃an:EK h,((r2.least,r2),(⟨some rc,C,W⟩:Kd))=an:=⟨_,rfl⟩;rw[a3]at ca;have bs:Bw o aw:=bg.trans (el.mono bg.size);have b4:=Y.below bs
  have ci:((A++([i]++B)).map Ao).length=ag:=by
   have h1:=Y.own.1;have h2:=V▸Y.own;rcases h2.2 with⟨g,_⟩|⟨g,gj,_,eo,_⟩
   ·cases g
   ·simp only[Value.slice.injEq,Option.some.injEq,Addr.mk.injEq,and_true]at eo;exact eo.2.1.symm
  have d0:Fe aw (.slice (some ⟨l,0,none⟩) ((A++([i]++B)).map Ao).length cap) ((A++([i]++B)).map Ao):=by have:=Fe.of_own b4.own;rw[V,<-ci]at this;exact this
  have a5:=E.o.2.2.2.2.1;have fn:A.length+(1+B.length)<=5:=by simp at a5;omega
  have cx:((A++([i]++B)).map Ao).length=A.length+(1+B.length):=by simp;omega
  obtain⟨gc,w7,bk,cz,da,c1⟩:=Ak7 l cap (A.length+1) _ (Ao an) aw d0 (by rw[cx];omega) (by rw[ci];exact a9) br (by rw[cx];omega);rw[ci]at c1
  have e3:((A++([i]++B)).map Ao).take (A.length+1)++Ao an::((A++([i]++B)).map Ao).drop (A.length+1)=(A++([i,an]++B)).map Ao:=by
   have e1:(A++([i]++B)).map Ao=(A.map Ao++[Ao i])++B.map Ao:=by simp
   have e2:A.length+1=(A.map Ao++[Ao i]).length:=by simp
   rw[e1,e2,List.take_left,List.drop_left];simp
  rw[e3]at bk;obtain⟨c5,db⟩:=nmd ((A++([i,an]++B)).map Ao);rw[db]at bk;obtain⟨cs,c3,rfl⟩:=Aao bk;have b6:=b4.below da;obtain⟨ar,ck⟩:=nmd (w7.setCell ⟨n,3,none⟩ (.slice cs c5.length c3));have e8:=bs.size;have fg:=Y.node.lt;have dn:=b6.row3 bk (fun j a=>by have:=cz j a;omega);rw[ck]at dn;have b9:Kp [n] w7 ar:=ck▸(Kp.refl [n] w7).setCell n 3 _ (.inl (by simp));have cb:Bw o w7:=bs.trans (da.mono bs.size);have y:n∈Ad n ev:=by simp[Ad]
  have d4:Wk ar x b bp bw m v wv rk a0 top Z ch (rl++nz t.place++Jw k h d.1.2):=(bu.kp (Kp.of_below cb:Kp [] o w7) (by simp) (fun _ h=>by cases h)).kp b9 (fun j a=>by simp at a;subst a;exact a2.o.2.2.2.1 _ (Bl _ y)) (fun j a g=>by
   simp at a;subst a;simp only[An,Al,Bf]at g;rcases g with e|e
   ·exact a2.o.2.2.2.2.1 (e▸y)
   ·rcases ak _ e with e|e
    ·exact(ba.o.2.2.2.2.2 _ e).2 y
    ·have:=ba.o.2.1.nd.bound y;have:=bx.o.2.2.2.1.size
     omega)
  have ez:Kp (bw::Ad n ev++(An bw ai++p)) w1 ar:=(bi.trans (Kp.of_below cb)).trans (b9.mono (fun j a=>by simp at a;subst a;exact Bl _ (Nb _ y)));have fd:az.heap.size<=o.heap.size:=Hb ab.size ah.size
  have de:∀(c:Nat) (t:Nd h) (S:List Nat) (U:Nat),Au o m rk h c t S U->(∀j∈S,j∈G\/j∈C)->Au ar m rk h c t S U:=fun c t S U cq e5=>Au.kp b9 _ _ _ _ _ (cq.below cb) (fun j a g=>by
   simp at g;subst g
   exact ao _ (e5 _ a) y)
  have bd:=Aa (b7.o ar (.slice cs c5.length c3) [i,an] (by rw[db];exact dn) (fun z hz=>by
   simp only[Al,Cq,or_false]at hz;rcases hz with rfl|rfl
   ·rw[<-ac];exact de _ _ _ _ dr (fun j a=>.inl a)
   ·rw[<-a3];exact de _ _ _ _ cy (fun j a=>.inr a)) (by
   rw[<-ac,<-a3];simp only[Er,Jc,Cq,false_implies,implies_true,List.Pairwise.nil,and_true];intro z hz;subst hz
   exact R.2.1) (fun z hz j a=>by
   simp only[Al,Cq,or_false]at hz;rcases hz with rfl|rfl
   ·rw[<-ac]at a;exact .inl a
   ·rw[<-a3]at a;exact .inr a) (by rw[<-ac,<-a3,D];rfl) (by rw[<-ac,<-a3];simp[Cs]) ez (fun j a=>by
   simp only[Ad,Al,Bf]at a;rcases a with rfl|e
   ·exact .inl y
   ·exact .inr (by have:=cz j e;omega)) d4)
  have cn:=b6.node.c3;have ek:=b6.node.fr 3
  have d6:∀w'∈[bf,aw,w7],w'.cell? ⟨n,3,none⟩=some (.slice (some ⟨l,0,none⟩) ag cap):=fun w' f=>by
   simp only[Al,Cq,or_false]at f;rw[<-V];rcases f with rfl|rfl|rfl
   ·exact(Y.below bg).node.c3
   ·exact b4.node.c3
   ·exact cn
  have em:=Aa d6;have a1:=Aa (Ab di (Ab ca (Ab c1 (Ab ck (Ab cn ek)))));clear cv D bu R Y bi bh bb ao bq ax a6 ac b3 n3 ak V a9 br ab ah ad ex cy dr bg ea eb el ca a3 bs b4 ci d0 a5 cx bk cz da c1 e3 db b6 e8 fg dn b9 cb y d4 ez fd de cn ek d6 di ck;simp only[Jg,Sp];go_wp2_with fail;refine Gf (Ek [a4,F,o]) [6,8] (by kernel_rfl) (by kernel_rfl) (by rw[af.o.1];rfl) ?_;refine Am 0 (.pointer (some ⟨n,0,none⟩)) ?_;refine Am 1 (.pointer (some ⟨n,0,none⟩)) ?_;refine Am 2 (.pointer (some ⟨n,3,none⟩)) ?_;refine Gv 3 (.slice (some ⟨l,0,none⟩) ag cap) Jt (fun q w hw=>ce.o w hw.mem) ?_;refine Am 4 (.int .i64 (A.length:Int)) ?_;refine Am 5 (.pointer (some ⟨c,0,none⟩)) ?_;refine Gr 6 (.agg (Ao i).cells.toArray) rfl (by kernel_rfl) rfl (Pk a4 F rfl rfl 114 #[.pointer (some ⟨c,0,none⟩)] (fun _=>by kernel_rfl) af.o.2.1) ?_;refine Em 7 (.pointer (some ⟨l,A.length*5,none⟩)) rfl (by kernel_rfl) rfl (fun _=>Cp (fun w=>Xp _ _ _ _ l ag cap A.length rfl (by kernel_rfl) (by kernel_rfl) c6 w)) ?_;refine Kr 8 rfl (by kernel_rfl) rfl (Kv F o rfl rfl (by rw[<-af.o.2.2.1];exact Up _ _ 142 _ _ l (A.length*5) _ rfl (by kernel_rfl) (by kernel_rfl) (by kernel_rfl) b8.o F af.o.2.2.2)) ?_;refine Cj.done (by kernel_rfl) fun w' au=>?_;simp only[Act.put,Cz,Dg,Co];obtain rfl:=au.eq (w0:=o) rfl;clear af ce b8 au b7 u bl a2 E ba bx;go_wp2_with fail;refine Gf (Ek [bf,aw,w7,ar]) [8,9,12] (by kernel_rfl) (by kernel_rfl) (by rw[a1.o.1];rfl) ?_;refine Am 0 (.pointer (some ⟨n,0,none⟩)) ?_;refine Am 1 (.pointer (some ⟨n,0,none⟩)) ?_;refine Am 2 (.pointer (some ⟨n,0,none⟩)) ?_;refine Am 3 (.pointer (some ⟨n,3,none⟩)) ?_;refine Mh 4 2 (.slice (some ⟨l,0,none⟩) ag cap) Jt (fun q X w hw=>em.o w (hw.upto X (by simp))) ?_;refine Am 5 (.int .i64 (A.length:Int)) ?_;refine Em 6 (.int .i64 ((A.length+1:Nat):Int)) rfl (by kernel_rfl) rfl (fun _=>Cp (fun w=>Abw _ _ _ _ _ (A.length:Int) 1 rfl (by kernel_rfl) (by kernel_rfl) (by omega) (by omega) w)) ?_;refine Am 7 (.pointer (some ⟨rc,0,none⟩)) ?_;refine Gr 8 (.agg (Ao an).cells.toArray) rfl (by kernel_rfl) rfl (Pk bf aw rfl rfl 114 #[.pointer (some ⟨rc,0,none⟩)] (fun _=>by kernel_rfl) a1.o.2.1) ?_;refine Gr 9 (.slice cs c5.length c3) rfl (by kernel_rfl) rfl (Pk aw w7 rfl rfl 134 #[.slice (some ⟨l,0,none⟩) ag cap,.int .i64 ((A.length+1:Nat):Int),.agg (Ao an).cells.toArray] (fun _=>by kernel_rfl) a1.o.2.2.1) ?_;refine Am 10 (.pointer (some ⟨n,0,none⟩)) ?_;refine Am 11 (.pointer (some ⟨n,3,none⟩)) ?_;refine Kr 12 rfl (by kernel_rfl) rfl (Kv w7 ar rfl rfl (by rw[<-a1.o.2.2.2.1];exact Adv _ _ _ _ n 3 _ _ _ _ rfl (by kernel_rfl) (by kernel_rfl) w7 a1.o.2.2.2.2.1 a1.o.2.2.2.2.2)) ?_;refine Cj.done (by kernel_rfl) fun w' au=>?_;simp only[Act.put,Cz,Dg,Co];obtain rfl:=au.eq (w0:=ar) rfl;clear a1 em au c6 fn;go_wp2_with fail;refine bd.o.mono ?_;rintro r gk ⟨q,G,C,ae,W,rfl,bj⟩;have dg:=Aa bj;clear bj bd;go_wp2_with fail;go_ret2;exact⟨q,a0,Z,G,C,ae,W,rfl,dg.o⟩
theorem Aje (x:DX)(b bp bw:Nat)(m:DM)(v:VM)(wv:Value)(rk:By)(top:Value)(ch:Bool)(k s:By)(a:Vc (k,s)):∀h,Ad2 x b bp bw m v wv rk top ch k s h
 |0=>A2p x b bp bw m v wv rk top ch k s
 |h+1=>A0w x b bp bw m v wv rk top ch k s a h (Aje x b bp bw m v wv rk top ch k s a h)
abbrev Ay:=Option ((h:Nat)×Nd h)
def Qk (w:World)(m:DM)(rk:By)(top:Value):Ay->List Nat->Nat->Prop
 |none,S,U=>top=.pointer none/\S=[]/\U=0
 |some ⟨h,t⟩,S,U=>∃n,top=.pointer (some ⟨n,0,none⟩)/\Au w m rk h n t S U
def Fl (k s:By):Ay->(h:Nat)×Nd h
 |none=>⟨0,⟨0,[],[(k,s)]⟩⟩
 |some ⟨h,t⟩=>match (Cc k s h t).2 with
  |none=>⟨h,(Cc k s h t).1⟩
  |some q=>⟨h+1,⟨0,[],[((Cc k s h t).1.least,(Cc k s h t).1),(q.least,q)]⟩⟩
def Uk (k:By):Ay->List Nat
 |none=>[]
 |some ⟨h,t⟩=>Jw k h t
theorem Qk.kp {w w':World}{m:DM}{rk:By}{top:Value}{T:Ay}{S X:List Nat}{U:Nat}(h:Qk w m rk top T S U)(a:Kp X w w')(hd:Ck S X):Qk w' m rk top T S U:=by
 cases T with
 |none=>exact h
 |some t=>obtain⟨n,h1,h2⟩:=h;exact⟨n,h1,Au.kp a _ _ _ _ _ h2 hd⟩
theorem Qk.bound {w:World}{m:DM}{rk:By}{top:Value}{T:Ay}{S:List Nat}{U:Nat}(h:Qk w m rk top T S U):∀j∈S,j<w.heap.size:=by
 cases T with
 |none=>rw[h.2.1];simp
 |some t=>obtain⟨n,h1,h2⟩:=h;exact Au.bound _ _ _ _ _ h2
theorem A14 (d:Oper)(a:Act)(x e:Operand)(c0 c1 c2 c3 c4 g h c f b:Value)(i:d.op=.buildSlice 136 2 #[(0,x),(1,e)])(j:a.eval x=.agg #[c0,c1,c2,c3,c4])(hy:a.eval e=.agg #[g,h,c,f,b])(w:World):
  (execOp a.eval d).run Tryz.prog w=.ok (.value (.slice (some ⟨w.heap.size,0,none⟩) 2 2)) (w.alloc (.cells #[c0,c1,c2,c3,c4,g,h,c,f,b] 142)):=by
 unfold execOp;simp only[i,Wa,Db,Lc,j,hy];clear j hy i
 go_simp
def Ep:Ay->Prop
 |none=>True
 |some ⟨h,t⟩=>Kn h t
theorem Arb (x:DX)(b bp bw:Nat)(m:DM)(v:VM)(wv:Value)(rk:By)(ch:Bool)(k s:By)(lk:Nat)(rv:Value)(rl:List Nat)(w:World)(hw:Wk w x b bp bw m v wv rk lk (.pointer none) rv ch rl):
  Cl 91 #[.pointer (some ⟨bw,0,none⟩),.string ⟨k.toArray⟩,.string ⟨s.toArray⟩] w fun r w'=>∃n S,r=.returned (.int .i64 0)/\Wk w' x b bp bw m v wv rk lk (.pointer (some ⟨n,0,none⟩)) rv true rl/\Au w' m rk 0 n ⟨0,[],[(k,s)]⟩ S 0/\Kp (An bw rv) w w'/\(∀j∈S,w.heap.size<=j):=by
 have J:=hw.wk.lt;obtain⟨w1,l⟩:=nmd (w.setCell ⟨bw,4,none⟩ (.bool true));have wk1:=hw.wk.set4 true;rw[l]at wk1;have k1:Kp [bw] w w1:=l▸(Kp.refl _ w).setCell bw 4 _ (.inl (by simp));have I:w1.heap.size=w.heap.size:=by rw[<-l];simp[World.setCell]
 have L:=wk1.fr 2;have K:=wk1.c2;obtain⟨w2,e⟩:=nmd (w1.setCell ⟨bw,2,none⟩ (.pointer (some ⟨w.heap.size+1,0,none⟩)));have o:=wk1.set2 (.pointer (some ⟨w.heap.size+1,0,none⟩));rw[e]at o;have C:Kp [bw] w1 w2:=e▸(Kp.refl _ w1).setCell bw 2 _ (.inl (by simp));have i:w2.heap.size=w.heap.size:=by rw[<-e,<-I];simp[World.setCell]
 obtain⟨d,f⟩:=nmd (w2.alloc (.cells #[.string ⟨k.toArray⟩,.string ⟨s.toArray⟩,.int .i64 0,.string ⟨#[]⟩,.pointer none] 142));have t:Bw w2 d:=f▸(Ah _ _).alloc (Ak _) _;have G:d.heap.size=w.heap.size+1:=by rw[<-f,<-i];simp
 have E:d.heap[w.heap.size]?=some (.cells #[.string ⟨k.toArray⟩,.string ⟨s.toArray⟩,.int .i64 0,.string ⟨#[]⟩,.pointer none] 142 (0,0)):=by rw[<-i];exact f▸heap_alloc_new w2 _
 obtain⟨c,g⟩:=nmd (d.alloc (.cells #[.bool true,.int .i64 0,.string ⟨#[]⟩,.slice (some ⟨w.heap.size,0,none⟩) 1 1] 138));have u:Bw d c:=g▸(Ah _ _).alloc (Ak _) _;have F:c.heap[w.heap.size+1]?=some (.cells #[.bool true,.int .i64 0,.string ⟨#[]⟩,.slice (some ⟨w.heap.size,0,none⟩) 1 1] 138 (0,0)):=by rw[<-G];exact g▸heap_alloc_new d _
 have q:Bw w2 c:=t.trans (u.mono t.size);have z:=(u.block w.heap.size (by omega)).trans E;have H:Av c (w.heap.size+1) true 0 [] ([(k,s)].map Dm) (.slice (some ⟨w.heap.size,0,none⟩) 1 1):=⟨⟨F⟩,⟨rfl,.inr ⟨w.heap.size,1,_,rfl,Cu _,z,by simp,by unfold maxLen;omega,rfl,rfl⟩⟩,fun j a=>by simp[Value.ownBlock]at a;omega⟩;have A:=o.of_block (q.block bw (by omega));have h:Kp [bw] w c:=(k1.trans C).trans (Kp.of_below q);have D:Wk c x b bp bw m v wv rk lk (.pointer (some ⟨w.heap.size+1,0,none⟩)) rv true rl:=hw.step h (fun j a=>by simp at a;subst a;exact .inl hw.env.o) A (Bm hw.row h (fun j a=>by simpa using hw.rne j a)) (fun j a=>.inl a) hw.rne;have y:=Aa (Ab D (Ab H h));have c4:=hw.wk.c4;have M:=hw.wk.fr 4;have p:=Aa (Ab e (Ab f g));have N:=Aa I;clear hw wk1 k1 o C i t G E u F q z H A h D e f g;go_enter Tryz.func91,Tryz.ntmps91;go_wp2_with fail;rw[p.o.1,p.o.2.1,p.o.2.2];go_ret
 exact⟨w.heap.size+1,Ad (w.heap.size+1) (.slice (some ⟨w.heap.size,0,none⟩) 1 1),rfl,y.o.1,⟨_,y.o.2.1,rfl,rfl⟩,y.o.2.2.mono (fun j a=>by simp at a;simp[An,a]),fun j a=>by
  simp[Ad,Value.ownBlock]at a
  omega⟩
theorem Avb {w0 w:World}{m:DM}{rk:By}{h:Nat}{a b:Nd h}{c1 c2 e k:Nat}{c d:List Nat}{f i:Nat}(h1:Au w m rk h c1 a c f)(h2:Au w m rk h c2 b d i)(hd:Ck c d)(n:Av w e false 0 [] ([((a.least,a),(⟨some c1,c,f⟩:Kd)),((b.least,b),(⟨some c2,d,i⟩:Kd))].map Ao) (.slice (some ⟨k,0,none⟩) 2 2))
  (hb:∀j,(j∈c\/j∈d)->j<w0.heap.size) (p:w0.heap.size<=e) (o:w0.heap.size<=k):Au w m rk (h+1) e ⟨0,[],[(a.least,a),(b.least,b)]⟩ (Ad e (.slice (some ⟨k,0,none⟩) 2 2)++(c++(d++[]))) (f+(i+0)):=by
 refine⟨_,[((a.least,a),(⟨some c1,c,f⟩:Kd)),((b.least,b),(⟨some c2,d,i⟩:Kd))],rfl,⟨n,fun z hz=>?_,fun z hz j l g=>?_,?_⟩,rfl,rfl⟩
 ·simp only[Al,Cq,or_false]at hz;rcases hz with rfl|rfl
  ·exact h1
  ·exact h2
 ·have q:j<w0.heap.size:=by
   simp only[Al,Cq,or_false]at hz;rcases hz with rfl|rfl
   ·exact hb j (.inl l)
   ·exact hb j (.inr l)
  simp[Ad,Value.ownBlock]at g;omega
 ·simp only[Er,Jc,Cq,false_implies,implies_true,List.Pairwise.nil,and_true];intro z hz;subst hz;exact hd
theorem Aw0 (x:DX)(b bp bw:Nat)(m:DM)(v:VM)(wv:Value)(rk:By)(ch:Bool)(k s:By)(bg:Vc (k,s))(h n:Nat)(t:Nd h)(S:List Nat)(U lk:Nat)(rv:Value)(rl:List Nat)(w:World)(hw:Wk w x b bp bw m v wv rk lk (.pointer (some ⟨n,0,none⟩)) rv ch rl)(a2:Au w m rk h n t S U)(hd:Ck S (An bw rv))(D:∀j∈S,Dx x b bp wv j)(hr:Kn h t)(aw:lk+U<=46)(bb:rl.length+h<=90000):
  Cl 91 #[.pointer (some ⟨bw,0,none⟩),.string ⟨k.toArray⟩,.string ⟨s.toArray⟩] w fun r w'=>∃ax bm a3 a0 au,r=.returned (.int .i64 0)/\Wk w' x b bp bw m v wv rk a0 (.pointer (some ⟨ax,0,none⟩)) au true (rl++Jw k h t)/\Au w' m rk (Fl k s (some ⟨h,t⟩)).1 ax (Fl k s (some ⟨h,t⟩)).2 bm a3/\a0+a3=lk+U/\Kp (An bw rv++S) w w'/\(∀j∈bm,(j∈S\/w.heap.size<=j)/\j∉An bw au)/\Hn w rv au:=by
 obtain⟨w1,X⟩:=nmd (w.setCell ⟨bw,4,none⟩ (.bool true));have wk1:=hw.wk.set4 true;rw[X]at wk1;have k1:Kp [bw] w w1:=X▸(Kp.refl _ w).setCell bw 4 _ (.inl (by simp));have y:w1.heap.size=w.heap.size:=by rw[<-X];simp[World.setCell]
 have bt:Wk w1 x b bp bw m v wv rk lk (.pointer (some ⟨n,0,none⟩)) rv true rl:=hw.step k1 (fun j c=>by simp at c;subst c;exact .inl hw.env.o) wk1 (Bm hw.row k1 (fun j c=>by simpa using hw.rne j c)) (fun j c=>.inl c) hw.rne;have bh:=Au.kp k1 _ _ _ _ _ a2 (fun j c g=>by simp at g;subst g;exact hd _ c (by simp[An]));have ar:=Aa (Aje x b bp bw m v wv rk (.pointer (some ⟨n,0,none⟩)) true k s bg h n t S U lk rv rl w1 bt bh hd D hr.wf hr.asc hr.ne hr.le aw bb);have c4:=hw.wk.c4;have b8:=hw.wk.fr 4;have ba:=wk1.c2;have aj:=Aa (Ab k1 (Ab y (Ab hd D)));clear hw wk1 k1 y bt bh a2 hd D hr aw bb bg;go_enter Tryz.func91,Tryz.ntmps91;go_wp2_with fail;clear X c4 b8;refine ar.o.mono ?_;rintro r w2 ⟨q,J,A,z,G,H,ae,rfl,e,i,bk,W,n2,ab⟩;obtain⟨k1,y,hd,D⟩:=aj.o;have az:=W.size;have R:Kp (An bw rv++S) w w2:=(k1.mono (fun j c=>by simp at c;simp[An,c])).trans W;obtain⟨p,K⟩:=nmd (Cc k s h t);rw[K]at i
 have b4:(p.2=none/\q=none)\/∃r2 rc,p.2=some r2/\q=some rc:=by
  have o:=i.2.2
  cases u:p.2 with
  |none=>
   cases ag:q with
   |none=>exact .inl ⟨rfl,rfl⟩
   |some _=>rw[u,ag]at o;exact o.elim
  |some r2=>
   cases ag:q with
   |none=>rw[u,ag]at o;exact o.elim
   |some rc=>exact .inr ⟨r2,rc,rfl,rfl⟩
 rcases b4 with⟨u,rfl⟩|⟨r2,rc,u,rfl⟩
 ·have o:=i.2.2;rw[u]at o;have L:Fl k s (some ⟨h,t⟩)=⟨h,p.1⟩:=by unfold Fl;simp only[K,u]
  have ah:=Aa (Ab e (Ab (show Au w2 m rk (Fl k s (some ⟨h,t⟩)).1 n (Fl k s (some ⟨h,t⟩)).2 z H from by rw[L];exact i.1) (Ab (show J+H=lk+U from by have:=o.2;omega) (Ab R (Ab (show ∀j∈z,(j∈S\/w.heap.size<=j)/\j∉An bw A from fun j c=>⟨by have:=(n2 j (.inl c)).1;rw[y]at this;exact this,(n2 j (.inl c)).2⟩) (show Hn w rv A from fun j c=>by have:=ab j c;rw[y]at this;exact this))))));simp only[Jg,Option.map_none];clear k1 y hd D az R i K u o L e bk W n2 ab ar aj ba;go_wp2_with fail;go_ret;exact⟨n,z,H,J,A,rfl,ah.o⟩
 ·have O:Au w2 m rk h rc r2 G ae:=by have o:=i.2.2;rw[u]at o;exact o
  have L:Fl k s (some ⟨h,t⟩)=⟨h+1,⟨0,[],[(p.1.least,p.1),(r2.least,r2)]⟩⟩:=by unfold Fl;simp only[K,u]
  obtain⟨b1,bx,b3,bj,a8⟩:=i.1.entFor;obtain⟨b0,T,V⟩:=Abz n b1 p.1.place p.1.dig bx b3 w2 bj;rw[a8]at V;obtain⟨b9,cb,b6,br,bn⟩:=(O.below T).entFor;obtain⟨d,be,Y⟩:=Abz rc b9 r2.place r2.dig cb b6 b0 br;rw[bn]at Y;have aa:Bw w2 d:=T.trans (be.mono T.size);have ai:=e.kp (Kp.of_below aa:Kp [] w2 d) (by simp) (fun _ h=>by cases h);obtain⟨f,al⟩:∃f:EK h,((p.1.least,p.1),(⟨some n,z,H⟩:Kd))=f:=⟨_,rfl⟩;obtain⟨l,ad⟩:∃l:EK h,((r2.least,r2),(⟨some rc,G,ae⟩:Kd))=l:=⟨_,rfl⟩;rw[al]at V;rw[ad]at Y;have I:=ai.wk;have cc:=I.c2;have ce:=I.fr 2;have cd:=I.lt;obtain⟨E,M⟩:=nmd (d.setCell ⟨bw,2,none⟩ (.pointer (some ⟨d.heap.size+1,0,none⟩)));have an:=I.set2 (.pointer (some ⟨d.heap.size+1,0,none⟩));rw[M]at an;have bf:Kp [bw] d E:=M▸(Kp.refl _ d).setCell bw 2 _ (.inl (by simp));have ap:E.heap.size=d.heap.size:=by rw[<-M];simp[World.setCell]
  obtain⟨C,N⟩:=nmd (E.alloc (.cells #[Ac (Ao f).key,Ac (Ao f).value,.int .i64 ((Ao f).place:Int),Ac (Ao f).digest,Jg (Ao f).child,Ac (Ao l).key,Ac (Ao l).value,.int .i64 ((Ao l).place:Int),Ac (Ao l).digest,Jg (Ao l).child] 142));have am:Bw E C:=N▸(Ah _ _).alloc (Ak _) _;have bc:C.heap.size=d.heap.size+1:=by rw[<-N,<-ap];simp
  have bd:C.heap[d.heap.size]?=some (.cells ((Ao f).cells++(Ao l).cells).toArray 142 (0,0)):=by rw[<-ap];exact N▸heap_alloc_new E _
  obtain⟨w7,Q⟩:=nmd (C.alloc (.cells #[.bool false,.int .i64 0,.string ⟨#[]⟩,.slice (some ⟨d.heap.size,0,none⟩) 2 2] 138));have ak:Bw C w7:=Q▸(Ah _ _).alloc (Ak _) _;have a5:w7.heap[d.heap.size+1]?=some (.cells #[.bool false,.int .i64 0,.string ⟨#[]⟩,.slice (some ⟨d.heap.size,0,none⟩) 2 2] 138 (0,0)):=by rw[<-bc];exact Q▸heap_alloc_new C _
  have ao:Bw E w7:=am.trans (ak.mono am.size);have a6:=(ak.block d.heap.size (by omega)).trans bd;have a1:Av w7 (d.heap.size+1) false 0 [] ([f,l].map Ao) (.slice (some ⟨d.heap.size,0,none⟩) 2 2):=⟨⟨a5⟩,⟨rfl,.inr ⟨d.heap.size,2,_,rfl,Cu _,a6,by simp,by unfold maxLen;omega,rfl,by simp[Dy,EG.cells,Oh]⟩⟩,fun j c=>by simp[Value.ownBlock]at c;omega⟩;have F:Kp [bw] w2 w7:=((Kp.of_below aa).trans bf).trans (Kp.of_below ao);have aq:∀j,(j∈z\/j∈G)->j∉[bw]:=fun j c g=>by simp at g;subst g;exact(n2 _ c).2 (by simp[An])
  have a7:=Au.kp F _ _ _ _ _ i.1 (fun j c=>aq j (.inl c));have a4:=Au.kp F _ _ _ _ _ O (fun j c=>aq j (.inr c));have bo:=aa.size;have a9:∀j,(j∈z\/j∈G)->j<w2.heap.size:=fun j c=>c.elim (Au.bound _ _ _ _ _ i.1 j) (Au.bound _ _ _ _ _ O j);have bs:=Avb (w0:=w2) a7 a4 i.2.1 (by rw[al,ad];exact a1) a9 (by omega) bo;have bi:Wk w7 x b bp bw m v wv rk J (.pointer (some ⟨d.heap.size+1,0,none⟩)) A true (rl++Jw k h t):=e.step F (fun j c=>by simp at c;subst c;exact .inl e.env.o) (an.of_block (ao.block bw (by have:=ai.wk.lt;omega))) (Bm e.row F (fun j c=>by simpa using e.rne j c)) (fun j c=>.inl c) e.rne;have bu:Kp (An bw rv++S) w w7:=R.trans (F.mono (fun j c=>by simp at c;simp[An,c]));have av:=e.bound
  have ah:=Aa (Ab bi (Ab (show Au w7 m rk (Fl k s (some ⟨h,t⟩)).1 (d.heap.size+1) (Fl k s (some ⟨h,t⟩)).2 _ _ from by rw[L];exact bs) (Ab (show J+(H+(ae+0))=lk+U from by omega) (Ab bu (Ab (show ∀j∈Ad (d.heap.size+1) (.slice (some ⟨d.heap.size,0,none⟩) 2 2)++(z++(G++[])),(j∈S\/w.heap.size<=j)/\j∉An bw A from fun j c=>by
   rcases As.1 c with g|g
   ·simp[Ad,Value.ownBlock]at g;exact⟨.inr (by omega),fun b5=>by have:=av j b5;omega⟩
   ·have ay:j∈z\/j∈G:=by simpa using g
    exact⟨by have:=(n2 j ay).1;rw[y]at this;exact this,(n2 j ay).2⟩) (show Hn w rv A from fun j c=>by have:=ab j c;rw[y]at this;exact this))))))
  have ac:=Aa (Ab V Y);have af:=Aa (Ab M (Ab N Q));have cf:=e.wk.c2;have b7:=Aa (fun P a x Z bz ca hy w=>A14 P a x Z _ _ _ _ _ _ _ _ _ _ bz ca hy w:∀(P:Oper) (a:Act) (x Z:Operand),P.op=.buildSlice 136 2 #[(0,x),(1,Z)]->a.eval x=.agg (Ao f).cells.toArray->a.eval Z=.agg (Ao l).cells.toArray->∀w:World,(execOp a.eval P).run Tryz.prog w=.ok (.value (.slice (some ⟨w.heap.size,0,none⟩) 2 2)) (w.alloc (.cells ((Ao f).cells++(Ao l).cells).toArray 142)));simp only[Jg,Sp];clear k1 y hd D az R i K u L e bk W n2 ab ar aj ba O bj a8 T V br bn be Y aa ai al ad I M an bf ap N am bc bd Q ak a5 ao a6 a1 F aq a7 a4 bo a9 bs bi bu av;go_wp2_with fail;refine ac.o.1.mono ?_;rintro r bv ⟨rfl,bl⟩;rw[bl];clear bl bv;go_wp2_with fail;refine ac.o.2.mono ?_;rintro r b2 ⟨rfl,bq⟩;rw[bq];clear bq b2 ac;go_wp2_with (refine Aqc rfl (b7.o _ _ _ _ rfl (by kernel_rfl) (by kernel_rfl) _) ?_);rw[af.o.1,af.o.2.1,af.o.2.2];go_ret;exact⟨d.heap.size+1,_,_,J,A,rfl,ah.o⟩
def Xm (w w':World)(l r:Nat)(leaf:Bool)(d f:Nat)(g c:By)(e h:List EG):Prop:=
 ∃b a,Av w' l leaf d g e b/\Av w' r leaf f c h a/\Kp [l,r] w w'/\(∀j,b.ownBlock=some j->w.heap.size<=j)/\(∀j,a.ownBlock=some j->w.heap.size<=j)/\Ck (Ad l b) (Ad r a)
theorem Axa (l r:Nat)(leaf:Bool)(y z:Nat)(C D:By)(i b:List EG)(ag aj:Value)(w:World)(h1:Av w l leaf y C i ag)(h2:Av w r leaf z D b aj)(hd:Ck (Ad l ag) (Ad r aj))(n1:i≠[])(n2:b≠[])(a0:i.length<=10/\b.length<=10):
  Cl 142 #[.pointer (some ⟨l,0,none⟩),.pointer (some ⟨r,0,none⟩),.bool true] w fun e w'=>e=.returned (.tuple #[])/\Xm w w' l r leaf y z C D (i++b.take 1) (b.drop 1):=by
 have L:l≠r:=fun e=>hd l (by simp[Ad]) (by simp[Ad,e]);have av:=h1.node.lt;have a4:=h2.node.lt;obtain⟨p,W,rfl,a3,a2,aq,au,_,_⟩:=h1.row n1;obtain⟨d,h,rfl,a5,a7,P,T,_,_⟩:=h2.row n2;have a6:p≠r:=fun e=>hd p (by simp[Ad,Value.ownBlock]) (by simp[Ad,e]);have ab:d≠l:=fun e=>hd l (by simp[Ad]) (by simp[Ad,Value.ownBlock,e]);have Q:1<=b.length:=by cases b with|nil=>exact absurd rfl n2|cons a l=>simp
 have f:Bw w w.drew:=(Ah _ _).drew;obtain⟨w0,N⟩:=nmd (w.drew);rw[N]at f;have s1:=(Fe.of_own h1.own).below f;have s2:Fe w (.slice (some ⟨d,0,none⟩) b.length h) b:=Fe.of_own h2.own;obtain⟨be,w1,x,A,ap,Y⟩:=Vl _ _ _ _ w0 s1 ((s2.lo 1 Q).below f) (by simp;omega);obtain⟨k,O⟩:=nmd (i++b.take 1);rw[O]at x;obtain⟨E,c1,rfl⟩:=Aao x;have o:Bw w w1:=f.trans (ap.mono f.size);have az:=f.size;have a1:=o.size;have u:=h1.below o;have m2:=h2.below o;obtain⟨w2,M⟩:=nmd (w1.setCell ⟨l,3,none⟩ (.slice E k.length c1));have K:Kp [l] w1 w2:=M▸(Kp.refl [l] w1).setCell l 3 _ (.inl (by simp));have ak:Av w2 l leaf y C k (.slice E k.length c1):=M▸u.row3 x (fun j c=>by have:=A j c;omega);have s:Av w2 r leaf z D b (.slice (some ⟨d,0,none⟩) b.length h):=m2.kp K (by simpa using L.symm) (fun j c=>by simp[Value.ownBlock]at c;subst c;simpa using ab);have ar:=K.size;obtain⟨ba,U,F,t,H,ah⟩:=Adw d h 0 b w2 (Fe.of_own s.own) (by omega) P T (by omega);obtain⟨v,R⟩:=nmd (b.drop 1);have e2:b.take 0++b.drop (0+1)=v:=by rw[<-R];rfl
 rw[e2]at F;obtain⟨am,c3,rfl⟩:=Aao F;have an:=ak.below H;have J:=s.below H;obtain⟨m,G⟩:=nmd (U.setCell ⟨r,3,none⟩ (.slice am v.length c3));have V:Kp [r] U m:=G▸(Kp.refl [r] U).setCell r 3 _ (.inl (by simp));have Z:Av m r leaf z D v (.slice am v.length c3):=G▸J.row3 F (fun j c=>by have:=t j c;omega);have X:Av m l leaf y C k (.slice E k.length c1):=an.kp V (by simpa using L) (fun j c=>by have:=A j c;simp;omega);have af:=Hl x;have ac:Kp [l,r] w m:=(((Kp.of_below o).trans (K.mono (by simp))).trans (Kp.of_below H)).trans (V.mono (by simp))
 have ax:=Aa (show Xm w m l r leaf y z C D k v from⟨_,_,X,Z,ac,fun j c=>by have:=A j c;omega,fun j c=>by have:=t j c;omega,fun j c g=>by
  simp only[Ad,Al,Bf]at c g;rcases c with rfl|c
  ·rcases g with g|g
   ·exact L g
   ·have:=t _ g;omega
  ·have bb:=A j c;have bc:=af j c;rcases g with rfl|g
   ·omega
   ·have:=t j g;omega⟩)
 have ai:=Aa (Ab O R);have n:=Aa (Ab N (Ab Y (Ab M (Ab ah G))));have I:=Aa (Ab Q (Ab P T));have S:=Aa (Ab u.node.c3 (u.node.fr 3))
 have cells:∀w'∈[w0,w1],w'.cell? ⟨l,3,none⟩=some (.slice (some ⟨p,0,none⟩) i.length W):=fun w' hw=>by
  simp only[Al,Cq,or_false]at hw;rcases hw with rfl|rfl
  ·exact(h1.below f).node.c3
  ·exact u.node.c3
 have ad:∀w'∈[w0,w1,w2],w'.cell? ⟨r,3,none⟩=some (.slice (some ⟨d,0,none⟩) b.length h):=fun w' hw=>by
  simp only[Al,Cq,or_false]at hw;rcases hw with rfl|rfl|rfl
  ·exact(h2.below f).node.c3
  ·exact m2.node.c3
  ·exact s.node.c3
 have al:=Aa cells;have aa:=Aa ad;have a9:=s.node.c3;have a8:=J.node.c3;have bd:=J.node.fr 3;clear h1 h2 hd n1 n2 a0 L av a4 a2 aq au a7 P T a6 ab Q f N s1 s2 x A ap Y O o az a1 u m2 M K ak s ar F t H ah R e2 an J G V X Z af ac cells ad a3 a5;generalize i.length=L1 at*;generalize b.length=L2 at*;go_enter Tryz.func142,Tryz.ntmps142;go_wp2_with fail;refine Gf (Ek [w0,w1,w2]) [10,13] (by kernel_rfl) (by kernel_rfl) (by rw[n.o.1];rfl) ?_;refine Am 0 (.pointer (some ⟨l,0,none⟩)) ?_;refine Am 1 (.pointer (some ⟨l,0,none⟩)) ?_;refine Am 2 (.pointer (some ⟨l,0,none⟩)) ?_;refine Am 3 (.pointer (some ⟨l,3,none⟩)) ?_;refine Mh 4 1 (.slice (some ⟨p,0,none⟩) L1 W) Jt (fun q ay w hw=>al.o w (hw.upto ay (by simp))) ?_;refine Am 5 (.pointer (some ⟨r,0,none⟩)) ?_;refine Am 6 (.pointer (some ⟨r,0,none⟩)) ?_;refine Am 7 (.pointer (some ⟨r,3,none⟩)) ?_;refine Gv 8 (.slice (some ⟨d,0,none⟩) L2 h) Jt (fun q w hw=>aa.o w hw.mem) ?_;refine Em 9 (.slice (some ⟨d,0,none⟩) 1 h) rfl (by kernel_rfl) rfl (fun _=>Cp (fun w=>Afr _ _ _ _ d L2 h 1 rfl (by kernel_rfl) (by kernel_rfl) I.o.1 I.o.2.1 I.o.2.2 w)) ?_;refine Gr 10 (.slice E k.length c1) rfl (by kernel_rfl) rfl (Pk w0 w1 rfl rfl 141 #[.slice (some ⟨p,0,none⟩) L1 W,.slice (some ⟨d,0,none⟩) 1 h] (fun _=>by kernel_rfl) n.o.2.1) ?_;refine Am 11 (.pointer (some ⟨l,0,none⟩)) ?_;refine Am 12 (.pointer (some ⟨l,3,none⟩)) ?_;refine Kr 13 rfl (by kernel_rfl) rfl (Kv w1 w2 rfl rfl (by rw[<-n.o.2.2.1];exact Adv _ _ _ _ l 3 _ _ _ _ rfl (by kernel_rfl) (by kernel_rfl) w1 S.o.1 S.o.2)) ?_;refine Cj.done (by kernel_rfl) fun w' ae=>?_;simp only[Act.put,Cz,Dg,Co];obtain rfl:=ae.eq (w0:=w2) rfl;clear al aa S I ae;go_wp2_with fail;refine n.o.2.2.2.1.mono ?_;rintro r aw ⟨rfl,ao⟩;rw[ao];clear ao aw;go_wp2_with fail
 first|go_end0|((try simp only[Exit.inBlock,Exit.then]);refine bodyPost_ret (results_none rfl _ _ _) rfl ?_)
 rw[n.o.2.2.2.2,ai.o.1,ai.o.2];exact⟨rfl,ax.o⟩
theorem A28 (l r:Nat)(leaf:Bool)(v x:Nat)(A D:By)(b k:List EG)(al ao:Value)(w:World)(h1:Av w l leaf v A b al)(h2:Av w r leaf x D k ao)(hd:Ck (Ad l al) (Ad r ao))(n1:b≠[])(n2:k≠[])(ag:b.length<=10/\k.length<=10):
  Cl 142 #[.pointer (some ⟨l,0,none⟩),.pointer (some ⟨r,0,none⟩),.bool false] w fun e w'=>e=.returned (.tuple #[])/\Xm w w' l r leaf v x A D (b.take (b.length-1)) (b.drop (b.length-1)++k):=by
 have M:l≠r:=fun e=>hd l (by simp[Ad]) (by simp[Ad,e]);have a1:=h1.node.lt;have bc:=h2.node.lt;obtain⟨f,i,rfl,ba,a9,F,R,_,_⟩:=h1.row n1;obtain⟨H,S,rfl,bd,be,az,a7,_,_⟩:=h2.row n2;have ar:f≠r:=fun e=>hd f (by simp[Ad,Value.ownBlock]) (by simp[Ad,e]);have a6:H≠l:=fun e=>hd l (by simp[Ad]) (by simp[Ad,Value.ownBlock,e]);have bb:1<=b.length:=by cases b with|nil=>exact absurd rfl n1|cons a l=>simp
 have h:Bw w w.drew:=(Ah _ _).drew;obtain⟨w0,O⟩:=nmd (w.drew);rw[O]at h;have s2:=(Fe.of_own h2.own).below h;have s1:Fe w (.slice (some ⟨f,0,none⟩) b.length i) b:=Fe.of_own h1.own;obtain⟨c,aw⟩:=nmd (b.length-1);have ab:c+1=b.length:=by omega
 rw[aw];obtain⟨Z,T⟩:=nmd ((if i=c then 0 else c*5));have P:=(s1.hi c F).below h;rw[T]at P;obtain⟨bn,w1,u,y,ax,ac⟩:=Vl _ _ _ _ w0 P s2 (by simp;omega);obtain⟨m,V⟩:=nmd (b.drop c++k);rw[V]at u;obtain⟨E,c1,rfl⟩:=Aao u;have p:Bw w w1:=h.trans (ax.mono h.size);have a5:=h.size;have a8:=p.size;have U:=h1.below p;have m2:=h2.below p;obtain⟨w2,N⟩:=nmd (w1.setCell ⟨r,3,none⟩ (.slice E m.length c1));have L:Kp [r] w1 w2:=N▸(Kp.refl [r] w1).setCell r 3 _ (.inl (by simp));have ad:Av w2 r leaf x D m (.slice E m.length c1):=N▸m2.row3 u (fun j d=>by have:=y j d;omega);have z:Av w2 l leaf v A b (.slice (some ⟨f,0,none⟩) b.length i):=U.kp L (by simpa using M) (fun j d=>by simp[Value.ownBlock]at d;subst d;simpa using ar);have a0:=L.size;obtain⟨bj,X,G,s,J,am⟩:=Adw f i c b w2 (Fe.of_own z.own) (by omega) F R (by omega);obtain⟨t,Q⟩:=nmd (b.take c);have e1:b.take c++b.drop (c+1)=t:=by rw[ab,List.drop_length,Ff,Q]
 rw[e1]at G;obtain⟨ap,c3,rfl⟩:=Aao G;have K:=z.below J;have av:=ad.below J;obtain⟨n,I⟩:=nmd (X.setCell ⟨l,3,none⟩ (.slice ap t.length c3));have Y:Kp [l] X n:=I▸(Kp.refl [l] X).setCell l 3 _ (.inl (by simp));have aa:Av n l leaf v A t (.slice ap t.length c3):=I▸K.row3 G (fun j d=>by have:=s j d;omega);have ae:Av n r leaf x D m (.slice E m.length c1):=av.kp Y (by simpa using M.symm) (fun j d=>by have:=y j d;simp;omega);have ak:=Hl u;have ah:Kp [l,r] w n:=(((Kp.of_below p).trans (L.mono (by simp))).trans (Kp.of_below J)).trans (Y.mono (by simp))
 have a3:=Aa (show Xm w n l r leaf v x A D t m from⟨_,_,aa,ae,ah,fun j d=>by have:=s j d;omega,fun j d=>by have:=y j d;omega,fun j d g=>by
  simp only[Ad,Al,Bf]at d g;rcases g with rfl|g
  ·rcases d with g|g
   ·exact M g.symm
   ·have:=s _ g;omega
  ·have bk:=y j g;have bl:=ak j g;rcases d with rfl|g
   ·omega
   ·have:=s j g;omega⟩)
 have an:=Aa (Ab Q V);have o:=Aa (Ab O (Ab ac (Ab N (Ab am I))));have C:=Aa (Ab (show c<=b.length from by omega) (Ab F (Ab R T)));have W:=Aa (Ab m2.node.c3 (m2.node.fr 3))
 have cells:∀w'∈[w0,w1,w2],w'.cell? ⟨l,3,none⟩=some (.slice (some ⟨f,0,none⟩) b.length i):=fun w' hw=>by
  simp only[Al,Cq,or_false]at hw;rcases hw with rfl|rfl|rfl
  ·exact(h1.below h).node.c3
  ·exact U.node.c3
  ·exact z.node.c3
 have ai:∀w'∈[w0,w1],w'.cell? ⟨r,3,none⟩=some (.slice (some ⟨H,0,none⟩) k.length S):=fun w' hw=>by
  simp only[Al,Cq,or_false]at hw;rcases hw with rfl|rfl
  ·exact(h2.below h).node.c3
  ·exact m2.node.c3
 have aq:=Aa cells;have af:=Aa ai;have ay:=h1.node.c3;have bi:=z.node.c3;have bf:=K.node.c3;have bm:=K.node.fr 3;have bh:(b.length:Int)-1=(c:Int):=by omega
 have bg:b.length<=10:=ag.1;clear h1 h2 hd n1 n2 ag M a1 bc a9 F R be az a7 ar a6 bb h O s1 s2 u y ax ac Q p a5 a8 U m2 N L z ad a0 G s J am V e1 K av I Y aa ae ak ah cells ai ba bd P T aw ab;generalize b.length=L1 at*;generalize k.length=L2 at*;go_enter Tryz.func142,Tryz.ntmps142;go_wp2_with fail;refine Gf (Ek [w0,w1,w2]) [11,14] (by kernel_rfl) (by kernel_rfl) (by rw[o.o.1];rfl) ?_;refine Am 0 (.pointer (some ⟨r,0,none⟩)) ?_;refine Am 1 (.pointer (some ⟨l,0,none⟩)) ?_;refine Am 2 (.pointer (some ⟨l,0,none⟩)) ?_;refine Am 3 (.pointer (some ⟨l,3,none⟩)) ?_;refine Gv 4 (.slice (some ⟨f,0,none⟩) L1 i) Jt (fun q w hw=>aq.o w hw.mem) ?_;refine Am 5 (.int .i64 (c:Int)) ?_;refine Em 6 (.slice (some ⟨f,Z,none⟩) (L1-c) (i-c)) rfl (by kernel_rfl) rfl (fun _=>Cp (fun w=>Aed _ _ _ _ f L1 i c Z C.o.2.2.2 rfl (by kernel_rfl) (by kernel_rfl) C.o.1 C.o.2.1 C.o.2.2.1 w)) ?_;refine Am 7 (.pointer (some ⟨r,0,none⟩)) ?_;refine Am 8 (.pointer (some ⟨r,0,none⟩)) ?_;refine Am 9 (.pointer (some ⟨r,3,none⟩)) ?_;refine Mh 10 1 (.slice (some ⟨H,0,none⟩) L2 S) Jt (fun q a4 w hw=>af.o w (hw.upto a4 (by simp))) ?_;refine Gr 11 (.slice E m.length c1) rfl (by kernel_rfl) rfl (Pk w0 w1 rfl rfl 141 #[.slice (some ⟨f,Z,none⟩) (L1-c) (i-c),.slice (some ⟨H,0,none⟩) L2 S] (fun _=>by kernel_rfl) o.o.2.1) ?_;refine Am 12 (.pointer (some ⟨r,0,none⟩)) ?_;refine Am 13 (.pointer (some ⟨r,3,none⟩)) ?_;refine Kr 14 rfl (by kernel_rfl) rfl (Kv w1 w2 rfl rfl (by rw[<-o.o.2.2.1];exact Adv _ _ _ _ r 3 _ _ _ _ rfl (by kernel_rfl) (by kernel_rfl) w1 W.o.1 W.o.2)) ?_;refine Cj.done (by kernel_rfl) fun w' aj=>?_;simp only[Act.put,Cz,Dg,Co];obtain rfl:=aj.eq (w0:=w2) rfl;clear aq af W C aj ay;go_wp2_with fail;refine o.o.2.2.2.1.mono ?_;rintro r a2 ⟨rfl,au⟩;rw[au];clear au a2;go_wp2_with fail
 first|go_end0|((try simp only[Exit.inBlock,Exit.then]);refine bodyPost_ret (results_none rfl _ _ _) rfl ?_)
 rw[o.o.2.2.2.2,an.o.1,an.o.2];exact⟨rfl,a3.o⟩
end Go.Proofs.YtojgilcdgccojaaGreatDoor
