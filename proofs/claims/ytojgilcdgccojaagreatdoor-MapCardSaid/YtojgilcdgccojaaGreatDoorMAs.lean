import Derived.Test.YtojgilcdgccojaaGreatDoorAl
import Derived.Test.YtojgilcdgccojaaGreatDoorMAr
import Derived.Test.YtojgilcdgccojaaGreatDoorMAq
set_option linter.unusedSimpArgs false
set_option maxRecDepth 100000
set_option maxHeartbeats 8000000
namespace Go.Proofs.YtojgilcdgccojaaGreatDoor
open Go.RowKit
abbrev PK (h:Nat):=(By×Kz h)×Kd
def Jj:(h:Nat)->PK h->EG
 |0,x=>Dm x.1
 |_+1,x=>Ao x
def Xn (w:World)(m:DM)(rk:By):(h:Nat)->PK h->Prop
 |0,x=>x.2=⟨none,[],0⟩
 |h+1,x=>Eo (Au w m rk h) (Cm m rk h) x.1.2 x.2
def Ed {h:Nat}(a:List (PK h)):List Nat:=a.flatMap fun x=>x.2.S
def Fb {h:Nat}(a:List (PK h)):Nat:=(a.map fun x=>x.2.U).sum
structure Gu (w:World)(m:DM)(rk:By)(h n p:Nat)(d:By)(ev:Value)(L:List (PK h)):Prop where
 nd:Av w n (h==0) p d (L.map (Jj h)) ev
 kid:∀x∈L,Xn w m rk h x
 s1:∀x∈L,Ck x.2.S (Ad n ev)
 s2:L.Pairwise fun x y=>Ck x.2.S y.2.S
section
variable {w w':World}{m:DM}{rk:By}{h:Nat}
theorem Hx {a:List (PK h)}{j:Nat}:j∈Ed a↔ ∃x∈a,j∈x.2.S:=by simp[Ed]
theorem Agi (A B:List (PK h)):Fb (A++B)=Fb A+Fb B:=by simp[Fb]
theorem Xn.kp {X:List Nat}{x:PK h}(a:Kp X w w')(hk:Xn w m rk h x)(hd:Ck x.2.S X):Xn w' m rk h x:=by
 cases h with
 |zero=>exact hk
 |succ h=>exact Eo.kp a hk hd
theorem Xn.bound {x:PK h}(hk:Xn w m rk h x):∀j∈x.2.S,j<w.heap.size:=by
 cases h with
 |zero=>have:x.2=⟨none,[],0⟩:=hk;rw[this];simp
 |succ h=>exact Eo.bound hk
theorem Au.ck {n:Nat}{t:Nd h}{S:List Nat}{U:Nat}(q:Au w m rk h n t S U):∃ev b,t.es=b.map Prod.fst/\Gu w m rk h n t.place t.dig ev b/\S=Ad n ev++Ed b/\U=Fb b:=by
 cases h with
 |zero=>
  obtain⟨ev,y,rfl,rfl⟩:=q;obtain⟨b,k⟩:∃b:List (PK 0),t.es.map (fun e=>(e,(⟨none,[],0⟩:Kd)))=b:=⟨_,rfl⟩
  have d:∀x∈b,x.2=⟨none,[],0⟩:=fun x c=>by rw[<-k]at c;obtain⟨e,p,rfl⟩:=Kj.1 c;rfl
  have e1:t.es=b.map Prod.fst:=by rw[<-k,Pq];exact(List.map_id _).symm
  have e2:b.map (Jj 0)=t.es.map Dm:=by rw[<-k,Pq];rfl
  have e3:Ed b=[]:=by unfold Ed;rw[List.flatMap_eq_nil_iff];intro x c;rw[d x c]
  have u:Fb b=0:=by
   have:∀l:List (PK 0),(∀x∈l,x.2=⟨none,[],0⟩)->Fb l=0:=fun l=>by
    induction l with
    |nil=>intro _;rfl
    |cons a l ih=>intro g;have:=ih (fun x c=>g x (by simp[c]));simp only[Fb,Db,Jy]at this⊢;rw[this,g a (by simp)]
   exact this b d
  exact⟨ev,b,e1,⟨by rw[e2];exact y,fun x c=>d x c,fun x c j f=>(by rw[d x c]at f;cases f),List.pairwise_of_forall_mem_list (r:=fun x o:PK 0=>Ck x.2.S o.2.S) (fun x c o _ j f=>(by rw[d x c]at f;cases f))⟩,by rw[e3,Ff],u.symm⟩
 |succ h=>obtain⟨ev,b,p,i,v,s⟩:=q;exact⟨ev,b,p,⟨i.nd,i.kid,i.s1,i.s2⟩,v,s⟩
theorem Gu.tr {n p:Nat}{d:By}{ev:Value}{b:List (PK h)}(c:Gu w m rk h n p d ev b):Au w m rk h n ⟨p,d,b.map Prod.fst⟩ (Ad n ev++Ed b) (Fb b):=by
 cases h with
 |zero=>
  have f:∀x∈b,x.2=⟨none,[],0⟩:=c.kid;have e2:b.map (Jj 0)=(b.map Prod.fst).map Dm:=by rw[Pq];rfl
  have e3:Ed b=[]:=by unfold Ed;rw[List.flatMap_eq_nil_iff];intro x e;rw[f x e]
  have i:Fb b=0:=by
   have:∀l:List (PK 0),(∀x∈l,x.2=⟨none,[],0⟩)->Fb l=0:=fun l=>by
    induction l with
    |nil=>intro _;rfl
    |cons a l ih=>intro g;have:=ih (fun x e=>g x (by simp[e]));simp only[Fb,Db,Jy]at this⊢;rw[this,g a (by simp)]
   exact this b f
  exact⟨ev,by have:=c.nd;rw[e2]at this;exact this,by rw[e3,Ff],i⟩
 |succ h=>exact⟨ev,b,rfl,⟨c.nd,c.kid,c.s1,c.s2⟩,rfl,rfl⟩
theorem Gu.kp {X:List Nat}{n p:Nat}{d:By}{ev:Value}{c:List (PK h)}(a:Gu w m rk h n p d ev c)(e:Kp X w w')(hd:Ck (Ad n ev++Ed c) X):Gu w' m rk h n p d ev c:=
 ⟨a.nd.kp e (hd n (by simp[Ad])) (fun j b=>hd j (by simp[Ad,b])),fun x f=>(a.kid x f).kp e (fun j b=>hd j (Bg _ (Hx.2 ⟨x,f,b⟩))),a.s1,a.s2⟩
theorem Gu.below {n p:Nat}{d:By}{ev:Value}{a:List (PK h)}(b:Gu w m rk h n p d ev a)(hb:Bw w w'):Gu w' m rk h n p d ev a:=b.kp (Kp.of_below hb:Kp [] w w') (fun _ _=>by simp)
theorem Gu.same {X:List Nat}{n p e:Nat}{d c:By}{ev:Value}{a:List (PK h)}(b:Gu w m rk h n p d ev a)(k:Kp X w w')(hd:Ck (Ed a) X)(i:Av w' n (h==0) e c (a.map (Jj h)) ev):Gu w' m rk h n e c ev a:=
 ⟨i,fun x f=>(b.kid x f).kp k (fun j g=>hd j (Hx.2 ⟨x,f,g⟩)),b.s1,b.s2⟩
theorem Gu.bound {n p:Nat}{d:By}{ev:Value}{a:List (PK h)}(b:Gu w m rk h n p d ev a):∀j∈Ad n ev++Ed a,j<w.heap.size:=fun j e=>by
 rcases As.1 e with g|g
 ·exact b.nd.bound g
 ·obtain⟨x,c,f⟩:=Hx.1 g;exact(b.kid x c).bound j f
theorem Gu.deal {l r v y k t:Nat}{A u q:By}{e1 e2 ev':Value}{o n i:List (PK h)}(h1:Gu w m rk h l v A e1 o)(h2:Gu w m rk h r y u e2 n)(p:Ck (Ad l e1++Ed o) (Ad r e2++Ed n))(hk:Kp [l,r] w w')(s:i.Sublist (o++n))
  (z:Av w' k (h==0) t q (i.map (Jj h)) ev') (C:∀j∈Ad k ev',j=l\/j=r\/w.heap.size<=j):Gu w' m rk h k t q ev' i:=by
 have old:∀x∈i,(Xn w m rk h x/\l∉x.2.S/\r∉x.2.S):=fun x c=>by
  rcases As.1 (s.subset c)with g|g
  ·exact⟨h1.kid x g,fun f=>h1.s1 x g l f (by simp[Ad]),fun f=>p r (Bg _ (Hx.2 ⟨x,g,f⟩)) (by simp[Ad])⟩
  ·exact⟨h2.kid x g,fun f=>p l (by simp[Ad]) (Bg _ (Hx.2 ⟨x,g,f⟩)),fun f=>h2.s1 x g r f (by simp[Ad])⟩
 refine⟨z,fun x c=>(old x c).1.kp hk (fun j d g=>?_),fun x c j d g=>?_,?_⟩
 ·simp only[Al,Cq,or_false]at g;rcases g with rfl|rfl
  ·exact(old x c).2.1 d
  ·exact(old x c).2.2 d
 ·rcases C j g with rfl|rfl|e
  ·exact(old x c).2.1 d
  ·exact(old x c).2.2 d
  ·have:=(old x c).1.bound j d;omega
 ·refine List.Pairwise.sublist s (Dc.2 ⟨h1.s2,h2.s2,fun a ha b hb j d g=>?_⟩);exact p j (Bg _ (Hx.2 ⟨a,ha,d⟩)) (Bg _ (Hx.2 ⟨b,hb,g⟩))
def Om (w:World)(m:DM)(rk:By)(h:Nat)(a:EG)(t:Nd h)(S:List Nat)(U:Nat):Prop:=
 (∃c,a.child=some c/\Au w m rk h c t S U)\/(a=Ao ((a.key,t),(⟨none,[],nn h t⟩:Kd))/\Gl (a.key,t)/\Cm m rk h t/\S=[]/\U=nn h t)
theorem Om.of {a:EK h}(hk:Eo (Au w m rk h) (Cm m rk h) a.1.2 a.2)(hy:Gl a.1):Om w m rk h (Ao a) a.1.2 a.2.S a.2.U:=by
 unfold Eo at hk
 cases b:a.2.c with
 |some c=>rw[b]at hk;exact .inl ⟨c,b,hk⟩
 |none=>rw[b]at hk;refine .inr ⟨?_,hy,hk.1,hk.2.1,hk.2.2⟩;simp only[Ao,b]
theorem Om.kp {X:List Nat}{a:EG}{t:Nd h}{S:List Nat}{U:Nat}(hk:Om w m rk h a t S U)(d:Kp X w w')(hd:Ck S X):Om w' m rk h a t S U:=by
 rcases hk with⟨c,e,b⟩|g
 ·exact .inl ⟨c,e,Au.kp d _ _ _ _ _ b hd⟩
 ·exact .inr g
theorem Om.bound {b:EG}{t:Nd h}{S:List Nat}{U:Nat}(hk:Om w m rk h b t S U):∀j∈S,j<w.heap.size:=by
 rcases hk with⟨c,d,a⟩|g
 ·exact Au.bound _ _ _ _ _ a
 ·rw[g.2.2.2.1];simp
theorem Azd {x:DX}{b bp k:Nat}{v:VM}{wv:Value}{lk:Nat}(f:Id w x b bp k m v wv rk lk){n p i:Nat}{d:By}{ev:Value}{g:List EG}{a:EG}{t:Nd h}{S:List Nat}{U:Nat}
  (z:Av w n false p d g ev) (C:g[i]?=some a) (hk:Om w m rk h a t S U) (K:g.length<=100) (ab:lk+U<=46) (aa:k∉Ad n ev):
  Cl 87 #[.pointer (some ⟨k,0,none⟩),.pointer (some ⟨n,0,none⟩),.int .i64 (i:Int)] w fun r w'=>∃c q o H,r=.returned (.tuple #[.pointer (some ⟨c,0,none⟩),.int .i64 0])/\
   Au w' m rk h c t q o/\Av w' n false p d (g.set i {a with child:=some c}) ev/\Gd w w' k H/\H+o=lk+U/\Kp (k::ev.ownBlock.toList) w w'/\(∀j∈q,j∈S\/w.heap.size<=j):=by
 rcases hk with⟨c,D,u⟩|⟨A,hy,F,ac,Q⟩
 ·refine(Aht k n false p d g ev i a w c z C D K).mono ?_;rintro r w' ⟨rfl,hb⟩;refine⟨c,S,U,lk,rfl,u.below hb,?_,Gd.same f.vw.c1 (hb.block k f.vw.lt),rfl,Kp.of_below hb,fun j y=>.inl y⟩
  have:g.set i {a with child:=some c}=g:=by
   have e:({a with child:=some c}:EG)=a:=by cases a;simp only at D;rw[D]
   rw[e];obtain⟨af,Y⟩:=Ds.1 C;rw[<-Y,List.set_getElem_self]
  rw[this];exact z.below hb
 ·have l:=Oi F;have ad:=Yk h t;have s:a.place=t.place:=by rw[A];rfl
  have I:a.digest=t.dig:=by rw[A];rfl
  have T:a.child=none:=by rw[A];rfl
  have V:Fd rk m lk t.place t.dig=some (h==0,Cg h t):=by unfold Fd;rw[if_pos ⟨l.1,l.2.1,by omega⟩];exact l.2.2
  have G:Ie rk m lk a=some (h==0,Cg h t):=by unfold Ie;rw[s,I,V];show(if Qf a.key (Cg h t)then _ else _)=_;rw[Aee (e:=(a.key,t)) hy];rfl
  have W:Fa m lk a.place=lk+1:=by unfold Fa;rw[s,if_pos ⟨l.1,l.2.1,by omega⟩]
  refine(Aen x b bp k m v wv rk lk n false p d g ev i a w f.sys f.pv f.key f.vw f.fv f.bv (by omega) f.bl z C T K aa).mono ?_;rintro r w' ⟨J,hr⟩;rcases hr with⟨M,_⟩|⟨lf,es',O,ev',L,rfl,E,X,N,Z,P⟩
  ·rw[G]at M;cases M
  ·rw[G]at L;cases L;rw[s,I]at E;obtain⟨q,o,u,ae,R⟩:=Au.load E F;rw[W]at J
   exact⟨O,q,o,lk+1,rfl,u,X,J,by rw[Q];omega,N,fun j y=>by
    have:=R j y;simp only[Ad,Al,Bf]at this;rcases this with rfl|e
    ·exact .inr Z
    ·exact .inr (P j e)⟩
end
theorem Asv (b:Oper)(a:Act)(x d:Operand)(U:TypeId)(c:Bool)(e:b.op=.binOp .neq 4 x d U)(f:a.eval x=.bool c)(hy:a.eval d=.bool c)(w:World):
  (execOp a.eval b).run Tryz.prog w=.ok (.value (.bool false)) w:=by
 unfold execOp;simp only[e,f,hy];clear f hy e;cases c<;>go_simp
theorem Aqi (b:Oper)(a:Act)(x d:Operand)(U:TypeId)(i j:Int)(c:Bool)(e:b.op=.binOp .leq 3 x d U)(f:a.eval x=.int .i64 i)(hy:a.eval d=.int .i64 j)(g:decide (i<=j)=c)(w:World):
  (execOp a.eval b).run Tryz.prog w=.ok (.value (.bool c)) w:=by
 subst g;unfold execOp;simp only[e,f,hy];clear f hy e
 go_simp
structure Ae7 (w w0 w1 w2:World)(m:DM)(rk:By)(h n i:Nat)(p:Nat)(d:By)(rows:List EG)(ev:Value)(c:Nat)(t:Nd h)(S:List Nat)(U be cap:Nat)(cs:List Value):Prop where
 e0:w.drew=w0
 eev:ev=.slice (some ⟨be,0,none⟩) rows.length cap
 call:Cl 114 #[.pointer (some ⟨c,0,none⟩)] w0 fun e w'=>e=.returned (.agg cs.toArray)/\w'=w1
 e2:w1.setCells be (i*5) cs=w2
 one:∀u∈cs,u.oneCell'=true
 len:cs.length=5
 cells:∀w'∈[w0,w1,w2],w'.cell? ⟨n,3,none⟩=some (.slice (some ⟨be,0,none⟩) rows.length cap)
 there:w1.there be (i*5) 5
 nd:Av w2 n false p d (rows.set i (Ao ((t.least,t),(⟨some c,S,U⟩:Kd)))) ev
 kp:Kp [be] w w2
 mem:be∈Ad n ev
theorem Acp {w:World}{m:DM}{rk:By}{h n i p:Nat}{d:By}{f:List EG}{ev:Value}{c:Nat}{t:Nd h}{S:List Nat}{U:Nat}(g:Av w n false p d f ev)(j:i<f.length)(y:Au w m rk h c t S U):∃w0 w1 w2 a cap cs,Ae7 w w0 w1 w2 m rk h n i p d f ev c t S U a cap cs:=by
 obtain⟨w0,l⟩:=nmd (w.drew);have e:Bw w w0:=l▸(Ah _ _).drew;obtain⟨lf,rs,v,s,x⟩:=(y.below e).entFor;obtain⟨w1,z,q⟩:=Abz c lf t.place t.dig rs v w0 s;rw[x]at q;have o:Bw w w1:=e.trans (z.mono e.size);obtain⟨a,cap,b,F,D,E,C,_,_⟩:=g.row (by rintro rfl;simp at j);have n1:=g.below o;have u:a∈Ad n ev:=by simp[Ad,b,Value.ownBlock]
 obtain⟨w2,k⟩:=nmd (w1.setCells a (i*5) (Ao ((t.least,t),(⟨some c,S,U⟩:Kd))).cells);have n2:=n1.put b i f[i] (Ao ((t.least,t),(⟨some c,S,U⟩:Kd))) (Az j);rw[k]at n2;have A:Kp [a] w1 w2:=k▸(Kp.refl [a] w1).setCells a _ _ (.inl (by simp))
 exact⟨w0,w1,w2,a,cap,_,l,b,q,k,EG.one _,rfl,fun w' r=>by
  simp only[Al,Cq,or_false]at r;rw[<-b];rcases r with rfl|rfl|rfl
  ·exact(g.below e).node.c3
  ·exact n1.node.c3
  ·exact n2.node.c3,n1.there5 b i j,n2,(Kp.of_below o).trans A,u⟩
theorem Auj (b:Bool)(l r:Nat)(leaf:Bool)(f g:Nat)(j d:By)(a c:List EG)(h i:Value)(w:World)(h1:Av w l leaf f j a h)(h2:Av w r leaf g d c i)(hd:Ck (Ad l h) (Ad r i))(n1:a≠[])(n2:c≠[])(k:a.length<=10/\c.length<=10):
  Cl 142 #[.pointer (some ⟨l,0,none⟩),.pointer (some ⟨r,0,none⟩),.bool b] w fun e w'=>e=.returned (.tuple #[])/\Xm w w' l r leaf f g j d (if b then a++c.take 1 else a.take (a.length-1)) (if b then c.drop 1 else a.drop (a.length-1)++c):=by
 cases b
 ·exact A28 l r leaf f g j d a c h i w h1 h2 hd n1 n2 k
 ·exact Axa l r leaf f g j d a c h i w h1 h2 hd n1 n2 k
structure Aby (w w':World)(x:DX)(b bp bw:Nat)(m:DM)(v:VM)(wv:Value)(rk:By)(lk:Nat)(top rv:Value)(ch:Bool)(rl:List Nat)(h n:Nat)(ev:Value)(RA RB:List EG)(l r:Nd h)(Sl Sr:List Nat)(Ul Ur:Nat)(toL:Bool)(N:List (EK h))(lk':Nat)(rv' ev':Value):Prop where
 fst:N.map Prod.fst=Hg l r toL
 wk:Wk w' x b bp bw m v wv rk lk' top rv' ch (rl++(nz l.place++nz r.place))
 nd:Av w' n false 0 [] (RA++(N.map Ao++RB)) ev'
 kid:∀z∈N,Eo (Au w' m rk h) (Cm m rk h) z.1.2 z.2
 pw:N.Pairwise fun x y=>Ck x.2.S y.2.S
 new:∀z∈N,∀j∈z.2.S,(j∈Sl\/j∈Sr\/w.heap.size<=j)/\j∉An bw rv'/\j∉Ad n ev'
 lk:lk'+Cs N=lk+Ul+Ur
 kp:Kp (An bw rv++(Ad n ev++(Sl++Sr))) w w'
 rnew:Hn w rv rv'
 evn:∀j∈Ad n ev',(j∈Ad n ev\/w.heap.size<=j)/\j∉An bw rv'
 ld:∀z∈N,z.2.c≠none
structure Vr (w w':World)(x:DX)(b bp bw:Nat)(m:DM)(v:VM)(wv:Value)(rk:By)(lk:Nat)(top rv:Value)(ch:Bool)(rl:List Nat)(h n:Nat)(ev:Value)(rows:List EG)(l r:Nd h)(Sl Sr:List Nat)(Ul Ur:Nat)(lc rc:Nat)(L1 L2:List (PK h))(e1 e2:Value)(lk':Nat)(rv':Value):Prop where
 wk:Wk w' x b bp bw m v wv rk lk' top rv' ch (rl++(nz l.place++nz r.place))
 nd:Av w' n false 0 [] rows ev
 f1:l.es=L1.map Prod.fst
 f2:r.es=L2.map Prod.fst
 c1:Gu w' m rk h lc 0 [] e1 L1
 c2:Gu w' m rk h rc 0 [] e2 L2
 dd:Ck (Ad lc e1++Ed L1) (Ad rc e2++Ed L2)
 new:∀j,(j∈Ad lc e1++Ed L1\/j∈Ad rc e2++Ed L2)->(j∈Sl\/j∈Sr\/w.heap.size<=j)/\j∉An bw rv'/\j∉Ad n ev
 lk:lk'+Fb L1+Fb L2=lk+Ul+Ur
 kp:Kp (An bw rv++(Ad n ev++(Sl++Sr))) w w'
 rnew:Hn w rv rv'
 evn:∀j∈Ad n ev,j∉An bw rv'
 o:∀j,(j∈Ad n ev\/j∈Ad lc e1++Ed L1\/j∈Ad rc e2++Ed L2)->Dx x b bp wv j
section
variable {w w' w2:World}{x:DX}{b bp bw:Nat}{m:DM}{v:VM}{wv:Value}{rk:By}{lk:Nat}{top rv:Value}{ch:Bool}{rl:List Nat}{h n:Nat}{ev:Value}{RA RB rows:List EG}{l r:Nd h}{Sl Sr:List Nat}{Ul Ur:Nat}{lc rc:Nat}{L1 L2:List (PK h)}{e1 e2:Value}{lk':Nat}{rv':Value}
theorem Vr.fin (a:Vr w w' x b bp bw m v wv rk lk top rv ch rl h n ev rows l r Sl Sr Ul Ur lc rc L1 L2 e1 e2 lk' rv'){p:Bool}{N:List (EK h)}{ev':Value}(q:N.map Prod.fst=Hg l r p){X:List Nat}(hk:Kp X w' w2)(k:∀j∈X,j∈Ad n ev\/j=lc\/j=rc)
  (A:Av w2 n false 0 [] (RA++(N.map Ao++RB)) ev') (y:∀z∈N,Eo (Au w2 m rk h) (Cm m rk h) z.1.2 z.2) (D:N.Pairwise fun x s=>Ck x.2.S s.2.S) (E:∀j∈Ad n ev',j∈Ad n ev\/w'.heap.size<=j)
  (C:∀z∈N,∀j∈z.2.S,(j∈Ad lc e1++Ed L1\/j∈Ad rc e2++Ed L2\/w'.heap.size<=j)/\j∉Ad n ev') (G:Cs N=Fb L1+Fb L2) (t:∀z∈N,z.2.c≠none):
  Aby w w2 x b bp bw m v wv rk lk top rv ch rl h n ev RA RB l r Sl Sr Ul Ur p N lk' rv' ev':=by
 have hz:=a.kp.size;have o:lc∈Ad lc e1++Ed L1:=by simp[Ad]
 have d:rc∈Ad rc e2++Ed L2:=by simp[Ad]
 refine⟨q,a.wk.kp hk (fun j c=>?_) (fun j c g=>?_),A,y,D,fun z F j c=>?_,by have:=a.lk;omega,a.kp.step hk (fun j c=>?_),a.rnew,fun j c=>?_,t⟩
 ·rcases k j c with g|rfl|rfl
  ·exact a.o j (.inl g)
  ·exact a.o _ (.inr (.inl o))
  ·exact a.o _ (.inr (.inr d))
 ·rcases k j c with e|rfl|rfl
  ·exact a.evn j e g
  ·exact(a.new _ (.inl o)).2.1 g
  ·exact(a.new _ (.inr d)).2.1 g
 ·obtain⟨u,f⟩:=C z F j c;rcases u with g|g|g
  ·exact⟨(a.new j (.inl g)).1,(a.new j (.inl g)).2.1,f⟩
  ·exact⟨(a.new j (.inr g)).1,(a.new j (.inr g)).2.1,f⟩
  ·exact⟨.inr (.inr (by omega)),fun i=>by have:=a.wk.bound j i;omega,f⟩
 ·rcases k j c with e|rfl|rfl
  ·exact .inl (Bg _ (Bl _ e))
  ·rcases(a.new _ (.inl o)).1 with g|g|g
   ·exact .inl (Bg _ (Bg _ (Bl _ g)))
   ·exact .inl (Bg _ (Bg _ (Bg _ g)))
   ·exact .inr g
  ·rcases(a.new _ (.inr d)).1 with g|g|g
   ·exact .inl (Bg _ (Bg _ (Bl _ g)))
   ·exact .inl (Bg _ (Bg _ (Bg _ g)))
   ·exact .inr g
 ·rcases E j c with g|g
  ·exact⟨.inl g,a.evn j g⟩
  ·exact⟨.inr (by omega),fun i=>by have:=a.wk.bound j i;omega⟩
structure MS (w w':World)(x:DX)(b bp bw:Nat)(m:DM)(v:VM)(wv:Value)(rk:By)(lk:Nat)(top rv:Value)(ch:Bool)(h n:Nat)(ev:Value)(rows:List EG)(el er:EG)(l r:Nd h)(Sl Sr:List Nat)(Ul Ur:Nat)(Sl' Sr':List Nat)(Ul' Ur' lk':Nat)(rv':Value)(rl':List Nat):Prop where
 wk:Wk w' x b bp bw m v wv rk lk' top rv' ch rl'
 nd:Av w' n false 0 [] rows ev
 kl:Om w' m rk h el l Sl' Ul'
 kr:Om w' m rk h er r Sr' Ur'
 dd:Ck Sl' Sr'
 new:∀j,(j∈Sl'\/j∈Sr')->(j∈Sl\/j∈Sr\/w.heap.size<=j)/\j∉An bw rv'/\j∉Ad n ev/\Dx x b bp wv j
 lk:lk'+Ul'+Ur'=lk+Ul+Ur
 kp:Kp (An bw rv++(Ad n ev++(Sl++Sr))) w w'
 rnew:Hn w rv rv'
 evn:∀j∈Ad n ev,j∉An bw rv'/\Dx x b bp wv j
end
section
variable {w w' w2:World}{x:DX}{b bp bw:Nat}{m:DM}{v:VM}{wv:Value}{rk:By}{lk:Nat}{top rv:Value}{ch:Bool}{h n:Nat}{ev:Value}{rows:List EG}{el er:EG}{l r:Nd h}{Sl Sr:List Nat}{Ul Ur:Nat}{Sl' Sr':List Nat}{Ul' Ur' lk':Nat}{rv':Value}{rl':List Nat}
theorem MS.swap (a:MS w w' x b bp bw m v wv rk lk top rv ch h n ev rows el er l r Sl Sr Ul Ur Sl' Sr' Ul' Ur' lk' rv' rl'):MS w w' x b bp bw m v wv rk lk top rv ch h n ev rows er el r l Sr Sl Ur Ul Sr' Sl' Ur' Ul' lk' rv' rl':=
 ⟨a.wk,a.nd,a.kr,a.kl,a.dd.symm,fun j c=>by
  obtain⟨e,d⟩:=a.new j c.symm;refine⟨?_,d⟩;rcases e with g|g|g
  ·exact .inr (.inl g)
  ·exact .inl g
  ·exact .inr (.inr g),by have:=a.lk;omega,a.kp.mono (fun j c=>by
  simp only[As]at c⊢;rcases c with g|g|g|g
  ·exact .inl g
  ·exact .inr (.inl g)
  ·exact .inr (.inr (.inr g))
  ·exact .inr (.inr (.inl g))),a.rnew,a.evn⟩
theorem MS.child (a:MS w w' x b bp bw m v wv rk lk top rv ch h n ev rows el er l r Sl Sr Ul Ur Sl' Sr' Ul' Ur' lk' rv' rl'){c:Nat}{o:List Nat}{k f:Nat}{q:List EG}(t:Au w2 m rk h c l o k)(u:Av w2 n false 0 [] q ev)(z:Gd w' w2 bw f)(A:f+k=lk'+Ul')(hk:Kp (bw::ev.ownBlock.toList) w' w2)(p:∀j∈o,j∈Sl'\/w'.heap.size<=j):
  MS w w2 x b bp bw m v wv rk lk top rv ch h n ev q {el with child:=some c} er l r Sl Sr Ul Ur o Sr' k Ur' f rv' rl':=by
 have hz:=a.kp.size
 have i:∀j∈bw::ev.ownBlock.toList,j=bw\/j∈Ad n ev:=fun j d=>by simp only[Al,Bf]at d;exact d.imp id (fun e=>by simp[Ad,e])
 have s:Wk w2 x b bp bw m v wv rk f top rv' ch rl':=a.wk.step hk (fun j d=>by
  rcases i j d with rfl|g
  ·exact .inl a.wk.env.o
  ·exact .inl (a.evn j g).2) (a.wk.wk.up z) (Bm a.wk.row hk (fun j d g=>by
  rcases i j g with e|e
  ·exact a.wk.rne j d e
  ·exact(a.evn j e).1 (by simp[An,d]))) (fun j d=>.inl d) a.wk.rne
 refine⟨s,u,.inl ⟨c,rfl,t⟩,a.kr.kp hk (fun j d g=>?_),fun j d g=>?_,fun j d=>?_,by have:=a.lk;omega,a.kp.step hk (fun j d=>?_),a.rnew,a.evn⟩
 ·rcases i j g with rfl|e
  ·exact(a.new _ (.inr d)).2.1 (by simp[An])
  ·exact(a.new _ (.inr d)).2.2.1 e
 ·rcases p j d with e|e
  ·exact a.dd j e g
  ·have:=a.kr.bound j g;omega
 ·have y:∀j,w'.heap.size<=j->(j∈Sl\/j∈Sr\/w.heap.size<=j)/\j∉An bw rv'/\j∉Ad n ev/\Dx x b bp wv j:=fun j e=>⟨.inr (.inr (by omega)),fun g=>by have:=a.wk.bound j g;omega,fun g=>by have:=a.nd.bound g;omega,a.wk.env.new e⟩;rcases d with g|g
  ·rcases p j g with e|e
   ·exact a.new j (.inl e)
   ·exact y j e
  ·exact a.new j (.inr g)
 ·rcases i j d with rfl|e
  ·exact .inl (Bl _ (by simp[An]))
  ·exact .inl (Bg _ (Bl _ e))
theorem MS.renew (f:MS w w' x b bp bw m v wv rk lk top rv ch h n ev rows el er l r Sl Sr Ul Ur Sl' Sr' Ul' Ur' lk' rv' rl'){c:Nat}(P:el.child=some c){o:List (PK h)}{e1 i:Value}{y:List Nat}(Q:l.es=o.map Prod.fst)(C:Gu w' m rk h c l.place l.dig e1 o)(q:Sl'=Ad c e1++Ed o)(F:Ul'=Fb o)
  (G:Dj w2 bw b lk' top i ch) (N:Pv w2 i y) (E:Av w2 c (h==0) 0 [] (o.map (Jj h)) e1) (hk:Kp (bw::c::rv'.ownBlock.toList) w' w2) (s:Hn w' rv' i) (J:∀j,i.ownBlock=some j->j≠bw/\j∉Ad c e1):
  MS w w2 x b bp bw m v wv rk lk top rv ch h n ev rows el er ⟨0,[],l.es⟩ r Sl Sr Ul Ur Sl' Sr' Ul' Ur' lk' i y:=by
 have hz:=f.kp.size;have p:c∈Sl':=by rw[q];simp[Ad]
 have k:∀j∈bw::c::rv'.ownBlock.toList,j∈An bw rv'\/j=c:=fun j d=>by
  simp only[Al,Bf]at d;rcases d with e|e|e
  ·exact .inl (by simp[An,e])
  ·exact .inr e
  ·exact .inl (by simp[An,e])
 have A:∀j,j∈An bw i->j∈An bw rv'\/w'.heap.size<=j:=fun j d=>by
  simp only[An,Al,Bf]at d⊢;rcases d with e|e
  ·exact .inl (.inl e)
  ·exact(s j e).imp .inr id
 have K:=f.wk.step hk (fun j d=>by
  rcases k j d with g|rfl
  ·exact .inl (f.wk.o j g)
  ·exact .inl (f.new _ (.inl p)).2.2.2) G N s (fun j d=>(J j d).1)
 have R:=C.same hk (fun j d g=>by
  have M:j∈Sl':=by rw[q];exact Bg _ d
  rcases k j g with e|rfl
  ·exact(f.new j (.inl M)).2.1 e
  ·obtain⟨z,hz,H⟩:=Hx.1 d
   exact C.s1 z hz _ H (by simp[Ad])) E
 have t:=R.tr;rw[<-Q,<-q,<-F]at t;refine⟨K,f.nd.kp hk (fun g=>?_) (fun j d g=>?_),.inl ⟨c,P,t⟩,f.kr.kp hk (fun j d g=>?_),f.dd,fun j d=>?_,f.lk,f.kp.step hk (fun j d=>?_),f.rnew.trans s hz,fun j d=>⟨fun g=>?_,(f.evn j d).2⟩⟩
 ·have u:n∈Ad n ev:=by simp[Ad]
  rcases k n g with e|e
  ·exact(f.evn n u).1 e
  ·exact(f.new c (.inl p)).2.2.1 (e▸u)
 ·have D:j∈Ad n ev:=by simp[Ad,d]
  rcases k j g with e|e
  ·exact(f.evn j D).1 e
  ·exact(f.new c (.inl p)).2.2.1 (e▸D)
 ·rcases k j g with e|rfl
  ·exact(f.new j (.inr d)).2.1 e
  ·exact f.dd _ p d
 ·obtain⟨L,I,O⟩:=f.new j d;refine⟨L,fun g=>?_,O⟩;rcases A j g with e|e
  ·exact I e
  ·rcases d with a|a
   ·have:=f.kl.bound j a;omega
   ·have:=f.kr.bound j a;omega
 ·rcases k j d with g|rfl
  ·simp only[An,Al,Bf]at g;rcases g with rfl|g
   ·exact .inl (Bl _ (by simp[An]))
   ·rcases f.rnew j g with e|e
    ·exact .inl (Bl _ (by simp[An,e]))
    ·exact .inr e
  ·rcases(f.new _ (.inl p)).1 with g|g|g
   ·exact .inl (Bg _ (Bg _ (Bl _ g)))
   ·exact .inl (Bg _ (Bg _ (Bg _ g)))
   ·exact .inr g
 ·rcases A j g with e|e
  ·exact(f.evn j d).1 e
  ·have:=f.nd.bound d;omega
theorem MS.mm {rl:List Nat}{p q:Nat}{s u:By}{e1 e2:List (By×Kz h)}(a:MS w w' x b bp bw m v wv rk lk top rv ch h n ev rows el er (⟨0,[],e1⟩:Nd h) (⟨0,[],e2⟩:Nd h) Sl Sr Ul Ur Sl' Sr' Ul' Ur' lk' rv' (rl++(nz p++nz q))){lc rc:Nat}(l:el.child=some lc)(i:er.child=some rc):
  ∃L1 L2 o k,Vr w w' x b bp bw m v wv rk lk top rv ch rl h n ev rows (⟨p,s,e1⟩:Nd h) (⟨q,u,e2⟩:Nd h) Sl Sr Ul Ur lc rc L1 L2 o k lk' rv':=by
 have t:Au w' m rk h lc ⟨0,[],e1⟩ Sl' Ul':=by
  rcases a.kl with⟨c,e,f⟩|g
  ·rw[l]at e;cases e;exact f
  ·have:=g.1;rw[this]at l;cases l
 have r:Au w' m rk h rc ⟨0,[],e2⟩ Sr' Ur':=by
  rcases a.kr with⟨c,e,f⟩|g
  ·rw[i]at e;cases e;exact f
  ·have:=g.1;rw[this]at i;cases i
 obtain⟨o,L1,f1,c1,rfl,rfl⟩:=t.ck;obtain⟨k,L2,f2,c2,rfl,rfl⟩:=r.ck
 exact⟨L1,L2,o,k,a.wk,a.nd,f1,f2,c1,c2,a.dd,fun j d=>⟨(a.new j d).1,(a.new j d).2.1,(a.new j d).2.2.1⟩,a.lk,a.kp,a.rnew,fun j d=>(a.evn j d).1,fun j d=>by
  rcases d with g|g|g
  ·exact(a.evn j g).2
  ·exact(a.new j (.inl g)).2.2.2
  ·exact(a.new j (.inr g)).2.2.2⟩
end
section
variable {w w' w2:World}{x:DX}{b bp bw:Nat}{m:DM}{v:VM}{wv:Value}{rk:By}{lk:Nat}{top rv:Value}{ch:Bool}{h n:Nat}{ev:Value}{rows:List EG}{el er:EG}{l r:Nd h}{Sl Sr:List Nat}{Ul Ur:Nat}{Sl' Sr':List Nat}{Ul' Ur' lk':Nat}{rv':Value}{rl':List Nat}
theorem MS.below (a:MS w w' x b bp bw m v wv rk lk top rv ch h n ev rows el er l r Sl Sr Ul Ur Sl' Sr' Ul' Ur' lk' rv' rl')(hb:Bw w' w2):MS w w2 x b bp bw m v wv rk lk top rv ch h n ev rows el er l r Sl Sr Ul Ur Sl' Sr' Ul' Ur' lk' rv' rl':=
 ⟨a.wk.kp (Kp.of_below hb:Kp [] w' w2) (by simp) (fun _ h=>by cases h),a.nd.below hb,a.kl.kp (Kp.of_below hb:Kp [] w' w2) (fun _ _=>by simp),a.kr.kp (Kp.of_below hb:Kp [] w' w2) (fun _ _=>by simp),a.dd,a.new,a.lk,a.kp.trans (Kp.of_below hb),a.rnew,a.evn⟩
theorem MS.callChild (a:MS w w' x b bp bw m v wv rk lk top rv ch h n ev rows el er l r Sl Sr Ul Ur Sl' Sr' Ul' Ur' lk' rv' rl'){i:Nat}(t:rows[i]?=some el)(y:rows.length<=50)(u:lk+Ul+Ur<=46):
  Cl 87 #[.pointer (some ⟨bw,0,none⟩),.pointer (some ⟨n,0,none⟩),.int .i64 (i:Int)] w' fun e w2=>∃c f j d,e=.returned (.tuple #[.pointer (some ⟨c,0,none⟩),.int .i64 0])/\
   MS w w2 x b bp bw m v wv rk lk top rv ch h n ev (rows.set i {el with child:=some c}) {el with child:=some c} er l r Sl Sr Ul Ur f Sr' j Ur' d rv' rl':=by
 refine(Azd a.wk.env a.nd t a.kl (by omega) (by have:=a.lk;omega) (fun g=>(a.evn bw g).1 (by simp[An]))).mono ?_;rintro e w2 ⟨c,f,j,d,rfl,k,s,q,o,p,n2⟩;exact⟨c,f,j,d,rfl,a.child k s q o p n2⟩
theorem MS.callRenew (a:MS w w' x b bp bw m v wv rk lk top rv ch h n ev rows el er l r Sl Sr Ul Ur Sl' Sr' Ul' Ur' lk' rv' rl'){c:Nat}(f:el.child=some c)(D:rl'.length<=100000):
  Cl 129 #[.pointer (some ⟨bw,0,none⟩),.pointer (some ⟨c,0,none⟩)] w' fun e w2=>e=.returned (.tuple #[])/\∃i,MS w w2 x b bp bw m v wv rk lk top rv ch h n ev rows el er ⟨0,[],l.es⟩ r Sl Sr Ul Ur Sl' Sr' Ul' Ur' lk' i (rl'++nz l.place):=by
 have y:Au w' m rk h c l Sl' Ul':=by
  rcases a.kl with⟨G,p,z⟩|g
  ·rw[f]at p;cases p;exact z
  ·have:=g.1;rw[this]at f;cases f
 obtain⟨e1,F,A,q,o,s⟩:=y.ck;have k:∀j∈Ad c e1,j∉An bw rv':=fun j d=>(a.new j (.inl (by rw[o];exact Bl _ d))).2.1;refine(Aan bw b lk' top rv' ch rl' c (h==0) l.place l.dig _ e1 w' a.wk.wk a.wk.row q.nd (fun e=>k c (by simp[Ad]) (by simp[An,e])) (fun j d=>⟨a.wk.rne j d,fun g=>k j g (by simp[An,d])⟩) (fun j d e=>k j (by simp[Ad,d]) (by simp[An,e])) D).mono ?_;rintro e w2 ⟨rfl,i,u,E,C,t,n2,s2⟩;exact⟨rfl,i,a.renew f A q o s u E C t n2 s2⟩
end
section
variable {w w' w2:World}{x:DX}{b bp bw:Nat}{m:DM}{v:VM}{wv:Value}{rk:By}{lk:Nat}{top rv:Value}{ch:Bool}{rl:List Nat}{h n:Nat}{ev:Value}{RA RB:List EG}{el er:EG}{l r:Nd h}{Sl Sr:List Nat}{Ul Ur:Nat}{lc rc:Nat}{L1 L2:List (PK h)}{e1 e2:Value}{lk':Nat}{rv':Value}
structure Axd (w6 w7 w8 w9 w10 w11 w12 w13 w14:World)(m:DM)(rk:By)(h n K:Nat)(ev e1 e2:Value)(NL lc rc:Nat)(a8:Option Addr)(n8 c8:Nat)(a10:Option Addr)(n10 c10 bo co be cap:Nat)(cs:List Value):Prop where
 e7:w6.drew=w7
 call8:Cl 141 #[e1,e2] w7 fun e w'=>e=.returned (.slice a8 n8 c8)/\w'=w8
 e9:w8.setCell ⟨lc,3,none⟩ (.slice a8 n8 c8)=w9
 c1:∀w'∈[w7,w8],w'.cell? ⟨lc,3,none⟩=some e1
 f1:w8.frozen? ⟨lc,3,none⟩=false
 c2:∀w'∈[w7,w8,w9],w'.cell? ⟨rc,3,none⟩=some e2
 ev:ev=.slice (some ⟨bo,0,none⟩) NL co
 cn:w9.cell? ⟨n,3,none⟩=some (.slice (some ⟨bo,0,none⟩) NL co)
 call10:Cl 130 #[.slice (some ⟨bo,0,none⟩) NL co,.int .i64 ((K+1:Nat):Int)] w9 fun e w'=>e=.returned (.slice a10 n10 c10)/\w'=w10
 cn10:w10.cell? ⟨n,3,none⟩=some (.slice (some ⟨bo,0,none⟩) NL co)
 fn10:w10.frozen? ⟨n,3,none⟩=false
 e11:w10.setCell ⟨n,3,none⟩ (.slice a10 n10 c10)=w11
 e12:w11.drew=w12
 v10:(Value.slice a10 n10 c10)=.slice (some ⟨be,0,none⟩) n10 cap
 call13:Cl 114 #[.pointer (some ⟨lc,0,none⟩)] w12 fun e w'=>e=.returned (.agg cs.toArray)/\w'=w13
 e14:w13.setCells be (K*5) cs=w14
 one:∀u∈cs,u.oneCell'=true
 len:cs.length=5
 cells:∀w'∈[w12,w13,w14],w'.cell? ⟨n,3,none⟩=some (.slice (some ⟨be,0,none⟩) n10 cap)
 there:w13.there be (K*5) 5
 lt:K<n10
theorem Vr.one (f:Vr w w' x b bp bw m v wv rk lk top rv ch rl h n ev (RA++el::er::RB) l r Sl Sr Ul Ur lc rc L1 L2 e1 e2 lk' rv')(ao:Bool)(ay:l.es.length+r.es.length<=5)(a4:(RA++el::er::RB).length<=50):
  ∃w7 t s H E Z S L q o p u a0 y C D G cap cs,Axd w' w7 t s H E Z S L m rk h n RA.length ev e1 e2 (RA++el::er::RB).length lc rc q o p u a0 y C D G cap cs/\∃N ev',Aby w L x b bp bw m v wv rk lk top rv ch rl h n ev RA RB l r Sl Sr Ul Ur ao N lk' rv' ev':=by
 have a6:L1.length=l.es.length:=by rw[f.f1,Fi]
 have a7:L2.length=r.es.length:=by rw[f.f2,Fi]
 have af:lc∉Ad n ev:=(f.new lc (.inl (by simp[Ad]))).2.2;have a5:rc∉Ad n ev:=(f.new rc (.inr (by simp[Ad]))).2.2;have ak:lc≠rc:=fun e=>f.dd lc (by simp[Ad]) (by simp[Ad,e]);obtain⟨w7,e7⟩:=nmd (w'.drew);have A:Bw w' w7:=e7▸(Ah _ _).drew;obtain⟨bf,t,P,K,au,call8⟩:=Vl e1 e2 _ _ w7 ((Fe.of_own f.c1.nd.own).below A) ((Fe.of_own f.c2.nd.own).below A) (by simp only[Fi];omega);rw[<-Lw]at P;obtain⟨q,p,rfl⟩:=Aao P;obtain⟨o,ai⟩:=nmd (((L1++L2).map (Jj h)).length);rw[ai]at call8 K P;have F:Bw w' t:=A.trans (au.mono A.size);have ba:=A.size;have bg:=F.size;have V:=f.c1.nd.below F;have m2:=f.c2.nd.below F;obtain⟨s,e9⟩:=nmd (t.setCell ⟨lc,3,none⟩ (.slice q o p));have I:Kp [lc] t s:=e9▸(Kp.refl [lc] t).setCell lc 3 _ (.inl (by simp))
 have az:Av s lc (h==0) 0 [] ((L1++L2).map (Jj h)) (.slice q o p):=by have:=V.row3 (es':=(L1++L2).map (Jj h)) (ev':=.slice q o p) (by rw[ai];exact P) (fun j d=>by have:=K j d;have:=f.c1.nd.node.lt;omega);rw[e9]at this;exact this
 have ap:Av s rc (h==0) 0 [] (L2.map (Jj h)) e2:=m2.kp I (by simpa using ak.symm) (fun j d=>by
  simp only[Jc];rintro rfl
  exact f.dd j (by simp[Ad]) (by simp[Ad,d]))
 have J:Av s n false 0 [] (RA++el::er::RB) ev:=(f.nd.below F).kp I (by simp only[Jc];rintro rfl;exact af (by simp[Ad])) (fun j d=>by
  simp only[Jc];rintro rfl
  exact af (by simp[Ad,d]))
 have aj:Kp [lc,rc] w' s:=(Kp.of_below F).trans (I.mono (by simp))
 have U:Gu s m rk h lc 0 [] (.slice q o p) (L1++L2):=Gu.deal f.c1 f.c2 f.dd aj (List.Sublist.refl _) az (fun j d=>by
  simp only[Ad,Al,Bf]at d;rcases d with e|e
  ·exact .inl e
  ·exact .inr (.inr (by have:=K j e;omega)))
 obtain⟨C,D,av,be,a3,aq,ax,_,_⟩:=J.row (by simp);subst av;have bh:=aj.size;have bc:C∈Ad n (.slice (some ⟨C,0,none⟩) (RA++el::er::RB).length D):=by simp[Ad,Value.ownBlock]
 obtain⟨v10,H,ad,R,Q,call10⟩:=Adw C D (RA.length+1) _ s (Fe.of_own J.own) (by simp) aq ax (by omega)
 have am:(RA++el::er::RB).take (RA.length+1)++(RA++el::er::RB).drop (RA.length+1+1)=RA++el::RB:=by
  have e1:RA++el::er::RB=(RA++[el])++er::RB:=by simp
  have e2:RA.length+1=(RA++[el]).length:=by simp
  rw[e1,e2,List.take_left,<-Wc,List.drop_left];simp
 rw[am]at ad;obtain⟨u,y,rfl⟩:=Aao ad;have ac:=J.below Q;obtain⟨E,e11⟩:=nmd (H.setCell ⟨n,3,none⟩ (.slice u (RA++el::RB).length y));have aa:Kp [n] H E:=e11▸(Kp.refl [n] H).setCell n 3 _ (.inl (by simp));have a2:Av E n false 0 [] (RA++el::RB) (.slice u (RA++el::RB).length y):=e11▸ac.row3 ad (fun j d=>by have:=R j d;have:=J.node.lt;omega);have bb:=Q.size
 have ag:Ck (Ad lc (.slice q o p)++Ed (L1++L2)) (Ad n (.slice (some ⟨C,0,none⟩) (RA++el::er::RB).length D)):=fun j d g=>by
  rcases As.1 d with a|a
  ·simp only[Ad,Al,Bf]at a;rcases a with rfl|a
   ·exact af g
   ·have:=K j a;have:=f.nd.bound g;omega
  ·obtain⟨z,hz,M⟩:=Hx.1 a;rcases As.1 hz with c|c
   ·exact(f.new j (.inl (Bg _ (Hx.2 ⟨z,c,M⟩)))).2.2 g
   ·exact(f.new j (.inr (Bg _ (Hx.2 ⟨z,c,M⟩)))).2.2 g
 have an:Gu E m rk h lc 0 [] (.slice q o p) (L1++L2):=(U.below Q).kp aa (fun j d g=>by
  simp at g;subst g
  exact ag _ d (by simp[Ad]))
 obtain⟨O,W⟩:=nmd (Ad lc (.slice q o p)++Ed (L1++L2));have ab:=an.tr;rw[W]at ab;obtain⟨Z,S,L,G,cap,cs,k⟩:=Acp (i:=RA.length) a2 (by simp) ab;have a1:(Value.slice u (RA++el::RB).length y).ownBlock=some G:=by rw[k.eev];rfl
 have a8:s.heap.size<=G:=R G a1;have a9:=aa.size;have bd:=I.size;refine⟨w7,t,s,H,E,Z,S,L,q,o,p,u,(RA++el::RB).length,y,C,D,G,cap,cs,⟨e7,call8,e9,fun w' hw=>?_,V.node.fr 3,fun w' hw=>?_,rfl,J.node.c3,call10,ac.node.c3,ac.node.fr 3,e11,k.e0,k.eev,k.call,k.e2,k.one,k.len,k.cells,k.there,by simp⟩,?_⟩
 ·simp only[Al,Cq,or_false]at hw;rcases hw with rfl|rfl
  ·exact(f.c1.nd.below A).node.c3
  ·exact V.node.c3
 ·simp only[Al,Cq,or_false]at hw;rcases hw with rfl|rfl|rfl
  ·exact(f.c2.nd.below A).node.c3
  ·exact m2.node.c3
  ·exact ap.node.c3
 ·obtain⟨T,Y⟩:∃T:Nd h,(⟨0,[],(L1++L2).map Prod.fst⟩:Nd h)=T:=⟨_,rfl⟩;have ar:(⟨0,[],l.es++r.es⟩:Nd h)=T:=by rw[<-Y,f.f1,f.f2,Lw]
  have aw:Au L m rk h lc T O (Fb (L1++L2)):=by rw[<-Y];refine Au.kp k.kp _ _ _ _ _ ab (fun j d g=>?_);simp at g;subst g;have:=U.bound j (by rw[W];exact d);omega
  have ah:=k.nd;have al:(RA++el::RB).set RA.length (Ao (((⟨0,[],(L1++L2).map Prod.fst⟩:Nd h).least,(⟨0,[],(L1++L2).map Prod.fst⟩:Nd h)),(⟨some lc,O,Fb (L1++L2)⟩:Kd)))=RA++([((T.least,T),(⟨some lc,O,Fb (L1++L2)⟩:Kd))].map Ao++RB):=by rw[Nj,Y];simp
  rw[al]at ah;refine⟨[((T.least,T),⟨some lc,O,Fb (L1++L2)⟩)],.slice u (RA++el::RB).length y,f.fin (X:=[lc,n]) ?_ ((((Kp.of_below F).trans (I.mono (by simp))).trans (Kp.of_below Q)).trans (aa.mono (by simp))|>.step k.kp (fun j d=>.inr (by simp at d;subst d;omega))) (fun j d=>?_) ah (fun z hz=>?_) (by simp) (fun j d=>?_) (fun z hz j d=>?_) (by simp[Cs,Agi]) (by simp)⟩
  ·unfold Hg;rw[if_pos ay];simp only[Db,Lc];rw[ar]
  ·simp only[Al,Cq,or_false]at d;rcases d with rfl|rfl
   ·exact .inr (.inl rfl)
   ·exact .inl (by simp[Ad])
  ·simp at hz;subst hz;exact aw
  ·simp only[Ad,Al,Bf]at d;rcases d with rfl|e
   ·exact .inl (by simp[Ad])
   ·exact .inr (by have:=R j e;omega)
  ·simp at hz;subst hz;have ae:j∈Ad lc (.slice q o p)++Ed (L1++L2):=by rw[W];exact d
   refine⟨?_,fun g=>?_⟩
   ·rcases As.1 ae with a|a
    ·simp only[Ad,Al,Bf]at a;rcases a with rfl|a
     ·exact .inl (by simp[Ad])
     ·exact .inr (.inr (by have:=K j a;omega))
    ·obtain⟨z,hz,M⟩:=Hx.1 a;rcases As.1 hz with c|c
     ·exact .inl (Bg _ (Hx.2 ⟨z,c,M⟩))
     ·exact .inr (.inl (Bg _ (Hx.2 ⟨z,c,M⟩)))
   ·simp only[Ad,Al,Bf]at g;rcases g with rfl|g
    ·exact ag _ ae (by simp[Ad])
    ·have:=R j g;have:=U.bound j ae;omega
end
def Ru {α:Type}(b:Bool)(L1 L2:List α):List α:=if b then L1++L2.take 1 else L1.take (L1.length-1)
def Rt {α:Type}(b:Bool)(L1 L2:List α):List α:=if b then L2.drop 1 else L1.drop (L1.length-1)++L2
theorem Azj {α:Type}(b:Bool)(L1 L2:List α):Ru b L1 L2++Rt b L1 L2=L1++L2:=by
 unfold Ru Rt;cases b
 ·simp only[Ng,if_false];rw[<-Cw,Jb]
 ·simp only[if_true];rw[Cw,Jb]
theorem Apv {α β:Type}(f:α->β)(b:Bool)(L1 L2:List α):Ru b (L1.map f) (L2.map f)=(Ru b L1 L2).map f:=by
 unfold Ru;cases b
 ·simp[Uw]
 ·simp[Uw]
theorem Am1 {α β:Type}(f:α->β)(b:Bool)(L1 L2:List α):Rt b (L1.map f) (L2.map f)=(Rt b L1 L2).map f:=by
 unfold Rt;cases b
 ·simp[List.map_drop]
 ·simp
theorem Awz {α:Type}(l r:Es α)(b:Bool)(h:¬l.es.length+r.es.length<=5):Hg l r b=[((⟨0,[],Ru b l.es r.es⟩:Es α).least,⟨0,[],Ru b l.es r.es⟩),((⟨0,[],Rt b l.es r.es⟩:Es α).least,⟨0,[],Rt b l.es r.es⟩)]:=by unfold Hg Ru Rt;rw[if_neg h];cases b<;>simp
section
variable {w w' w7:World}{x:DX}{b bp bw:Nat}{m:DM}{v:VM}{wv:Value}{rk:By}{lk:Nat}{top rv:Value}{ch:Bool}{rl:List Nat}{h n:Nat}{ev:Value}{RA RB:List EG}{el er:EG}{l r:Nd h}{Sl Sr:List Nat}{Ul Ur:Nat}{lc rc:Nat}{L1 L2:List (PK h)}{e1 e2:Value}{lk':Nat}{rv':Value}
theorem Vr.two (f:Vr w w' x b bp bw m v wv rk lk top rv ch rl h n ev (RA++el::er::RB) l r Sl Sr Ul Ur lc rc L1 L2 e1 e2 lk' rv')(q:Bool)(bb:¬l.es.length+r.es.length<=5)(a3:Xm w' w7 lc rc (h==0) 0 0 [] [] (Ru q (L1.map (Jj h)) (L2.map (Jj h))) (Rt q (L1.map (Jj h)) (L2.map (Jj h)))):
  ∃R ai O U ac H k p a7 o y a2 L cap cs J ag cs' D,Ae7 w7 R ai O m rk h n RA.length 0 [] (RA++el::er::RB) ev lc k p a7 L cap cs/\Ae7 O U ac H m rk h n (RA.length+1) 0 [] D ev rc o y a2 J ag cs'/\D.length=(RA++el::er::RB).length/\∃N ev',Aby w H x b bp bw m v wv rk lk top rv ch rl h n ev RA RB l r Sl Sr Ul Ur q N lk' rv' ev':=by
 obtain⟨F,G,au,ap,E,f1,f2,az⟩:=a3;rw[Apv]at au;rw[Am1]at ap;have C:=Azj q L1 L2;have ao:=Apv (Prod.fst:PK h->By×Kz h) q L1 L2;have am:=Am1 (Prod.fst:PK h->By×Kz h) q L1 L2;rw[<-f.f1,<-f.f2]at ao am;have I:=Awz l r q bb;rw[ao,am]at I;generalize Ru q L1 L2=P1 at*;generalize Rt q L1 L2=P2 at*;have av:lc∉Ad n ev:=(f.new lc (.inl (by simp[Ad]))).2.2;have al:rc∉Ad n ev:=(f.new rc (.inr (by simp[Ad]))).2.2;have bf:=E.size
 have Y:∀j∈Ad lc F,j=lc\/w'.heap.size<=j:=fun j d=>by simp only[Ad,Al,Bf]at d;exact d.imp id (f1 j)
 have ad:∀j∈Ad rc G,j=rc\/w'.heap.size<=j:=fun j d=>by simp only[Ad,Al,Bf]at d;exact d.imp id (f2 j)
 have k1:Gu w7 m rk h lc 0 [] F P1:=Gu.deal f.c1 f.c2 f.dd E (by rw[<-C];exact List.sublist_append_left _ _) au (fun j d=>(Y j d).elim .inl (fun e=>.inr (.inr e)));have ba:Gu w7 m rk h rc 0 [] G P2:=Gu.deal f.c1 f.c2 f.dd E (by rw[<-C];exact List.sublist_append_right _ _) ap (fun j d=>.inr (ad j d))
 have a6:Av w7 n false 0 [] (RA++el::er::RB) ev:=f.nd.kp E (fun g=>by
  simp only[Al,Cq,or_false]at g;rcases g with rfl|rfl
  ·exact av (by simp[Ad])
  ·exact al (by simp[Ad])) (fun j d g=>by
  simp only[Al,Cq,or_false]at g;rcases g with rfl|rfl
  ·exact av (by simp[Ad,d])
  ·exact al (by simp[Ad,d]))
 have old:∀z∈L1++L2,∀j∈z.2.S,(j∈Ad lc e1++Ed L1\/j∈Ad rc e2++Ed L2)/\j<w'.heap.size:=fun z hz j d=>by
  rcases As.1 hz with g|g
  ·exact⟨.inl (Bg _ (Hx.2 ⟨z,g,d⟩)),(f.c1.kid z g).bound j d⟩
  ·exact⟨.inr (Bg _ (Hx.2 ⟨z,g,d⟩)),(f.c2.kid z g).bound j d⟩
 have Z:∀z∈P1,z∈L1++L2:=fun z hz=>by rw[<-C];simp[hz]
 have ae:∀z∈P2,z∈L1++L2:=fun z hz=>by rw[<-C];simp[hz]
 have Q:∀j∈Ad lc F++Ed P1,j∈Ad lc e1++Ed L1\/j∈Ad rc e2++Ed L2\/w'.heap.size<=j:=fun j d=>by
  rcases As.1 d with g|g
  ·rcases Y j g with rfl|e
   ·exact .inl (by simp[Ad])
   ·exact .inr (.inr e)
  ·obtain⟨z,hz,u⟩:=Hx.1 g;rcases(old z (Z z hz) j u).1 with e|e
   ·exact .inl e
   ·exact .inr (.inl e)
 have af:∀j∈Ad rc G++Ed P2,j∈Ad lc e1++Ed L1\/j∈Ad rc e2++Ed L2\/w'.heap.size<=j:=fun j d=>by
  rcases As.1 d with g|g
  ·rcases ad j g with rfl|e
   ·exact .inr (.inl (by simp[Ad]))
   ·exact .inr (.inr e)
  ·obtain⟨z,hz,u⟩:=Hx.1 g;rcases(old z (ae z hz) j u).1 with e|e
   ·exact .inl e
   ·exact .inr (.inl e)
 have ar:∀j,(j∈Ad lc e1++Ed L1\/j∈Ad rc e2++Ed L2\/w'.heap.size<=j)->j∉Ad n ev:=fun j d g=>by
  rcases d with e|e|e
  ·exact(f.new j (.inl e)).2.2 g
  ·exact(f.new j (.inr e)).2.2 g
  ·have:=f.nd.bound g;omega
 have W:Ck (Ad lc F++Ed P1) (Ad rc G++Ed P2):=fun j d g=>by
  have ax:(P1++P2).Pairwise fun x A:PK h=>Ck x.2.S A.2.S:=by rw[C];exact Dc.2 ⟨f.c1.s2,f.c2.s2,fun a ha c aa j d g=>f.dd j (Bg _ (Hx.2 ⟨a,ha,d⟩)) (Bg _ (Hx.2 ⟨c,aa,g⟩))⟩
  have aq:∀z∈L1++L2,lc∉z.2.S/\rc∉z.2.S:=fun z hz=>by
   rcases As.1 hz with c|c
   ·exact⟨fun e=>f.c1.s1 z c lc e (by simp[Ad]),fun e=>f.dd rc (Bg _ (Hx.2 ⟨z,c,e⟩)) (by simp[Ad])⟩
   ·exact⟨fun e=>f.dd lc (by simp[Ad]) (Bg _ (Hx.2 ⟨z,c,e⟩)),fun e=>f.c2.s1 z c rc e (by simp[Ad])⟩
  rcases As.1 d with a|a
  ·rcases As.1 g with c|c
   ·exact az j a c
   ·obtain⟨z,hz,u⟩:=Hx.1 c;rcases Y j a with rfl|e
    ·exact(aq z (ae z hz)).1 u
    ·have:=(old z (ae z hz) j u).2;omega
  ·obtain⟨A,hy,T⟩:=Hx.1 a;rcases As.1 g with c|c
   ·rcases ad j c with rfl|e
    ·exact(aq A (Z A hy)).2 T
    ·have:=(old A (Z A hy) j T).2;omega
   ·obtain⟨z,hz,u⟩:=Hx.1 c;exact(Dc.1 ax).2.2 A hy z hz j T u
 have be:Fb P1+Fb P2=Fb L1+Fb L2:=by rw[<-Agi,C,Agi]
 obtain⟨p,a4⟩:=nmd (Ad lc F++Ed P1);obtain⟨y,a8⟩:=nmd (Ad rc G++Ed P2);obtain⟨k,bd⟩:∃k:Nd h,(⟨0,[],P1.map Prod.fst⟩:Nd h)=k:=⟨_,rfl⟩;obtain⟨o,ay⟩:∃o:Nd h,(⟨0,[],P2.map Prod.fst⟩:Nd h)=o:=⟨_,rfl⟩;have K:=k1.tr;have V:=ba.tr;rw[a4]at K Q W;rw[a8]at V af W;rw[bd]at K I;rw[ay]at V I;obtain⟨R,ai,O,L,cap,cs,t⟩:=Acp (i:=RA.length) a6 (by simp) K;have ab:Ck p (Ad n ev):=fun j d=>ar j (Q j d);have ah:Ck y (Ad n ev):=fun j d=>ar j (af j d)
 have M:∀S:List Nat,Ck S (Ad n ev)->∀c,c∈Ad n ev->Ck S [c]:=fun S a0 c aa j d g=>by simp at g;subst g;exact a0 _ d aa
 have bc:=Au.kp t.kp _ _ _ _ _ K (M _ ab _ t.mem);have an:=Au.kp t.kp _ _ _ _ _ V (M _ ah _ t.mem);obtain⟨D,P⟩:=nmd ((RA++el::er::RB).set RA.length (Ao ((k.least,k),(⟨some lc,p,Fb P1⟩:Kd))));have aw:=t.nd;rw[P]at aw;have aj:D.length=(RA++el::er::RB).length:=by rw[<-P,Ht]
 obtain⟨U,ac,H,J,ag,cs',s⟩:=Acp (i:=RA.length+1) aw (by rw[aj];simp) an;have a5:=Au.kp s.kp _ _ _ _ _ bc (M _ ab _ s.mem);have a9:=Au.kp s.kp _ _ _ _ _ an (M _ ah _ s.mem);refine⟨R,ai,O,U,ac,H,k,p,Fb P1,o,y,Fb P2,L,cap,cs,J,ag,cs',D,t,s,aj,?_⟩;have ak:=s.nd
 have a1:D.set (RA.length+1) (Ao ((o.least,o),(⟨some rc,y,Fb P2⟩:Kd)))=RA++([((k.least,k),(⟨some lc,p,Fb P1⟩:Kd)),((o.least,o),(⟨some rc,y,Fb P2⟩:Kd))].map Ao++RB):=by
  rw[<-P,Nj];have e1:RA++Ao ((k.least,k),(⟨some lc,p,Fb P1⟩:Kd))::er::RB=(RA++[Ao ((k.least,k),(⟨some lc,p,Fb P1⟩:Kd))])++er::RB:=by simp
  have e2:RA.length+1=(RA++[Ao ((k.least,k),(⟨some lc,p,Fb P1⟩:Kd))]).length:=by simp
  rw[e1,e2,Nj];simp
 rw[a1]at ak;refine⟨[((k.least,k),⟨some lc,p,Fb P1⟩),((o.least,o),⟨some rc,y,Fb P2⟩)],ev,f.fin (X:=lc::rc::L::[J]) ?_ (((E.mono (by simp)).trans (t.kp.mono (by simp))).trans (s.kp.mono (by simp))) (fun j d=>?_) ak (fun z hz=>?_) ?_ (fun j d=>.inl d) (fun z hz j d=>?_) ?_ (by simp)⟩
 ·rw[I];rfl
 ·simp only[Al,Cq,or_false]at d;rcases d with rfl|rfl|rfl|rfl
  ·exact .inr (.inl rfl)
  ·exact .inr (.inr rfl)
  ·exact .inl t.mem
  ·exact .inl s.mem
 ·simp only[Al,Cq,or_false]at hz;rcases hz with rfl|rfl
  ·exact a5
  ·exact a9
 ·simp only[Er,Jc,Cq,false_implies,implies_true,List.Pairwise.nil,and_true];intro z hz;subst hz;exact W
 ·simp only[Al,Cq,or_false]at hz;rcases hz with rfl|rfl
  ·exact⟨Q j d,ab j d⟩
  ·exact⟨af j d,ah j d⟩
 ·simp only[Cs,Db,Lc,Jy,List.sum_nil];omega
end
theorem Om.tr {w:World}{m:DM}{rk:By}{h:Nat}{b:EG}{t:Nd h}{S:List Nat}{U c:Nat}(hk:Om w m rk h b t S U)(a:b.child=some c):Au w m rk h c t S U:=by
 rcases hk with⟨f,d,e⟩|g
 ·rw[a]at d;cases d;exact e
 ·have:=g.1;rw[this]at a;cases a
theorem Ap4 {w:World}{x:DX}{b bp bw:Nat}{m:DM}{v:VM}{wv:Value}{rk:By}{lk:Nat}{top rv:Value}{ch:Bool}{rl:List Nat}{h n:Nat}{ev:Value}{k s:List EG}{el t:EG}{l r:Nd h}{am ar:List Nat}{ae aa:Nat}(o:Bool)(M:Nat)
  (ao:MS w w x b bp bw m v wv rk lk top rv ch h n ev (k++el::t::s) el t l r am ar ae aa am ar ae aa lk rv rl) (D:if o then M=k.length else M=k.length+1/\s=[]) (a5:(k++el::t::s).length<=50) (a4:lk+ae+aa<=46) (cm:rl.length<=90000) (n1:l.es≠[]) (n2:r.es≠[]) (h1:l.es.length<=5) (h2:r.es.length<=5):
  Cl 131 #[.pointer (some ⟨bw,0,none⟩),.pointer (some ⟨n,0,none⟩),.int .i64 (M:Int)] w fun e w'=>e=.returned (.int .i64 0)/\∃N cx c1 ev',Aby w w' x b bp bw m v wv rk lk top rv ch rl h n ev k s l r am ar ae aa o N cx c1 ev':=by
 have be:=Aa (ao.callChild (i:=k.length) (by simp) a5 a4);have c3:=ao.nd.node.c3;obtain⟨dx,ce,cj⟩:=Aao ao.nd.own;obtain⟨A,ai⟩:=nmd ((k++el::t::s).length);obtain⟨d,a0⟩:=nmd (k.length);have a6:A=d+2+s.length:=by rw[<-ai,<-a0];simp;omega
 rw[cj,ai]at c3;have dv:A<=50:=by omega
 have F:=Aa (Ab a5 (Ab a4 (Ab cm (Ab n1 (Ab n2 (Ab h1 h2))))));have y:=Aa (Ab ai a0);obtain⟨J,dl⟩:∃J:Nat,(A:Int)-1=(J:Int):=⟨A-1,by omega⟩;rw[a0]at be;have dt:d<=50:=by omega
 obtain⟨C,c2⟩:∃C:Nat,(d:Int)+1=(C:Int):=⟨d+1,by omega⟩;have av:=Aa (show d+1=C from by omega)
 have b1:((d:Int)==(M:Int))=o:=by
  cases o
  ·simp only[Ng,if_false]at D;rw[beq_eq_false_iff_ne];omega
  ·simp only[if_true]at D;rw[beq_iff_eq];omega
 have cy:=Aa b1
 have ap:((M:Int)==(J:Int))= !o:=by
  cases o
  ·simp only[Ng,if_false]at D;rw[D.2]at a6;simp only[Ov]at a6;simp only[Qx];rw[beq_iff_eq];omega
  ·simp only[if_true]at D;simp only[Qy];rw[beq_eq_false_iff_ne];omega
 have bo:o=false->(M:Int)-1=(d:Int):=fun e=>by subst e;simp only[Ng,if_false]at D;omega
 have bq:o=true->M=d:=fun e=>by subst e;simp only[if_true]at D;omega
 have df:M<=50:=by
  cases o
  ·simp only[Ng,if_false]at D;omega
  ·simp only[if_true]at D;omega
 clear ao D a5 a4 cm n1 n2 h1 h2 cj ai a0 a6 b1;go_enter Tryz.func131,Tryz.ntmps131;rcases Bool.eq_false_or_eq_true o with P|P
 case' inl=>have b9:=(bq P).symm;subst b9;rw[P]at ap;simp only[Qy]at ap;clear bo bq;go_wp2_with fail
 case' inr=>have b9:=bo P;have dr:=cy.o.trans P;rw[P]at ap;simp only[Qx]at ap;clear bo bq;go_wp2_with fail
 all_goals
  have c0:=Aa P;clear P c3;refine be.o.mono ?_;rintro ab w1 ⟨a,du,dm,da,rfl,bm⟩;have bt:(k++el::t::s).set d {el with child:=some a}=k++ {el with child:=some a}::t::s:=by rw[<-y.o.2,Nj]
  rw[bt]at bm;have b5:=Aa (bm.swap.callChild (i:=C) (by rw[<-av.o,<-y.o.2,If (by omega)];simp) (by have:=F.o.1;simp at this⊢;omega) (by have:=F.o.2.1;omega));clear bm bt be;go_wp2_with fail;refine b5.o.mono ?_;rintro ab w2 ⟨rc,dj,di,c9,rfl,bc⟩
  have b8:(k++ {el with child:=some a}::t::s).set C {t with child:=some rc}=k++ {el with child:=some a}:: {t with child:=some rc}::s:=by
   have e1:k++ {el with child:=some a}::t::s=(k++[{el with child:=some a}])++t::s:=by simp
   have e2:C=(k++[{el with child:=some a}]).length:=by rw[<-av.o,<-y.o.2];simp
   rw[e1,e2,Nj];simp
  rw[b8]at bc;obtain⟨aw,bb⟩:=nmd (w2.drew);have b3:Bw w2 aw:=bb▸(Ah _ _).drew;have ax:=bc.swap.below b3;obtain⟨_,_,cp,_⟩:=(ax.kl.tr rfl).top;obtain⟨_,_,ct,_⟩:=(ax.kr.tr rfl).top;have b2:=Aa (ax.callRenew (c:=a) rfl (by have:=F.o.2.2.1;omega));have au:=Aa (Ab bb (show ∀w'∈[aw],w'.cell? ⟨a,0,none⟩=some (.bool (h==0))/\w'.cell? ⟨rc,0,none⟩=some (.bool (h==0))from fun w' hw=>by rw[Jc.1 hw];exact⟨cp.node.c0,ct.node.c0⟩));clear bc b8 b3 ax cp ct bb b5;go_wp2_with fail;refine Gf (Ek [aw]) [] (by kernel_rfl) (by kernel_rfl) (by rw[au.o.1];rfl) ?_;refine Am 0 (.pointer (some ⟨a,0,none⟩)) ?_;refine Am 1 (.pointer (some ⟨a,0,none⟩)) ?_;refine Am 2 (.pointer (some ⟨a,0,none⟩)) ?_;refine Gv 3 (.bool (h==0)) Ah2 (fun q w hw=>(au.o.2 w hw.mem).1) ?_;refine Am 4 (.pointer (some ⟨rc,0,none⟩)) ?_;refine Am 5 (.pointer (some ⟨rc,0,none⟩)) ?_;refine Am 6 (.pointer (some ⟨rc,0,none⟩)) ?_;refine Gv 7 (.bool (h==0)) Ah2 (fun q w hw=>(au.o.2 w hw.mem).2) ?_;refine Em 8 (.bool false) rfl (by kernel_rfl) rfl (fun _=>Cp (fun w=>Asv _ _ _ _ _ (h==0) rfl (by kernel_rfl) (by kernel_rfl) w)) ?_;refine Cj.done (by kernel_rfl) fun w' f=>?_;simp only[Act.put,Cz,Dg,Co];obtain rfl:=f.eq (w0:=aw) rfl;clear au f;go_wp2_with fail;refine b2.o.mono ?_;rintro ab db ⟨rfl,dg,bz⟩;have b0:∀p,(nz p).length<=1:=fun p=>by unfold nz;split<;>simp
  have ck:=Aa (bz.swap.callRenew (c:=rc) rfl (by have:=F.o.2.2.1;have:=b0 l.place;rw[Bb];omega));clear bz b2 b0;go_wp2_with fail;refine ck.o.mono ?_;rintro ab cf ⟨rfl,cz,bj⟩;rw[Cw]at bj;obtain⟨E,a2⟩:=nmd (cf.drew);have b4:Bw cf E:=a2▸(Ah _ _).drew;have bs:=bj.swap.below b4;obtain⟨T,S,b6,cg,u⟩:∃T S b6 cg,Vr w E x b bp bw m v wv rk lk top rv ch rl h n ev (k++ {el with child:=some a}:: {t with child:=some rc}::s) l r am ar ae aa a rc T S b6 cg c9 cz:=bs.mm rfl rfl;clear bj bs b4 ck;have V:(T.map (Jj h)).length=l.es.length:=by rw[u.f1];simp
  have W:(S.map (Jj h)).length=r.es.length:=by rw[u.f2];simp
  have a7:T.map (Jj h)≠[]:=fun e=>F.o.2.2.2.1 (Ls.1 (by rw[<-V,e];rfl));have a9:S.map (Jj h)≠[]:=fun e=>F.o.2.2.2.2.1 (Ls.1 (by rw[<-W,e];rfl));obtain⟨ad,af,cc⟩:=Aao u.c1.nd.own;obtain⟨ag,ac,b7⟩:=Aao u.c2.nd.own;rw[V]at cc;rw[W]at b7;subst cc;subst b7;have L:=Aa (Ab a2 (show ∀w'∈[E],w'.cell? ⟨a,3,none⟩=some (.slice ad l.es.length af)/\w'.cell? ⟨rc,3,none⟩=some (.slice ag r.es.length ac)from fun w' hw=>by rw[Jc.1 hw];exact⟨u.c1.nd.node.c3,u.c2.nd.node.c3⟩));have bv:(l.es.length:Int)+(r.es.length:Int)<=10:=by have:=F.o.2.2.2.2.2;omega
  have aj:=Aa (Ab V (Ab W (Ab a7 a9)));by_cases ay:l.es.length+r.es.length<=5
  ·have Y:decide ((l.es.length:Int)+(r.es.length:Int)<=5)=true:=by rw[decide_eq_true_iff];omega
   obtain⟨w7,I,Q,a3,ba,R,H,bi,c5,cv,c4,dh,br,dk,dp,dc,G,cap,cs,one,Z⟩:=u.one o ay (by have:=F.o.1;simp at this⊢;omega);have z:=Aa one;have bk:=Aa Z;have cn:(d:Int)<(br:Int):=by have:=one.lt;rw[y.o.2]at this;omega
   have X:(k++ {el with child:=some a}:: {t with child:=some rc}::s).length=A:=by rw[<-y.o.1];simp
   have cl:=one.cn;have ca:=one.cn10;have cw:=one.fn10;have ah:=one.call10;rw[X]at cl ca ah;rw[y.o.2,av.o]at ah;have bu:=Aa ah;have a8:=Aa (Ab one.e11 one.e12);have a1:=Aa (Ab one.e14 one.there);rw[y.o.2]at a1;clear one Z u a2 V W a7 a9 ay X ah;generalize l.es.length=A1 at*;generalize r.es.length=A2 at*;go_wp2_with fail;refine Gf (Ek [E]) [] (by kernel_rfl) (by kernel_rfl) (by rw[L.o.1];rfl) ?_;refine Am 0 (.pointer (some ⟨a,0,none⟩)) ?_;refine Am 1 (.pointer (some ⟨a,0,none⟩)) ?_;refine Am 2 (.pointer (some ⟨a,3,none⟩)) ?_;refine Gv 3 (.slice ad A1 af) Jt (fun q w hw=>(L.o.2 w hw.mem).1) ?_;refine Am 4 (.int .i64 (A1:Int)) ?_;refine Am 5 (.pointer (some ⟨rc,0,none⟩)) ?_;refine Am 6 (.pointer (some ⟨rc,0,none⟩)) ?_;refine Am 7 (.pointer (some ⟨rc,3,none⟩)) ?_;refine Gv 8 (.slice ag A2 ac) Jt (fun q w hw=>(L.o.2 w hw.mem).2) ?_;refine Am 9 (.int .i64 (A2:Int)) ?_;refine Em 10 (.int .i64 ((A1:Int)+(A2:Int))) rfl (by kernel_rfl) rfl (fun _=>Cp (fun w=>Abw _ _ _ _ _ (A1:Int) (A2:Int) rfl (by kernel_rfl) (by kernel_rfl) (by omega) (by omega) w)) ?_;refine Em 11 (.bool true) rfl (by kernel_rfl) rfl (fun _=>Cp (fun w=>Aqi _ _ _ _ _ ((A1:Int)+(A2:Int)) 5 true rfl (by kernel_rfl) (by kernel_rfl) Y w)) ?_;refine Cj.done (by kernel_rfl) fun w' f=>?_;simp only[Act.put,Cz,Dg,Co];obtain rfl:=f.eq (w0:=E) rfl;clear L f Y bv;go_wp2_with fail;refine Gf (Ek [w7,I,Q]) [9,12] (by kernel_rfl) (by kernel_rfl) (by rw[z.o.e7];rfl) ?_;refine Am 0 (.pointer (some ⟨a,0,none⟩)) ?_;refine Am 1 (.pointer (some ⟨a,0,none⟩)) ?_;refine Am 2 (.pointer (some ⟨a,0,none⟩)) ?_;refine Am 3 (.pointer (some ⟨a,3,none⟩)) ?_;refine Mh 4 1 (.slice ad A1 af) Jt (fun q c6 w hw=>z.o.c1 w (hw.upto c6 (by simp))) ?_;refine Am 5 (.pointer (some ⟨rc,0,none⟩)) ?_;refine Am 6 (.pointer (some ⟨rc,0,none⟩)) ?_;refine Am 7 (.pointer (some ⟨rc,3,none⟩)) ?_;refine Gv 8 (.slice ag A2 ac) Jt (fun q w hw=>z.o.c2 w hw.mem) ?_;refine Gr 9 (.slice c5 cv c4) rfl (by kernel_rfl) rfl (Pk w7 I rfl rfl 141 #[.slice ad A1 af,.slice ag A2 ac] (fun _=>by kernel_rfl) z.o.call8) ?_;refine Am 10 (.pointer (some ⟨a,0,none⟩)) ?_;refine Am 11 (.pointer (some ⟨a,3,none⟩)) ?_;refine Kr 12 rfl (by kernel_rfl) rfl (Kv I Q rfl rfl (by rw[<-z.o.e9];exact Adv _ _ _ _ a 3 _ _ _ _ rfl (by kernel_rfl) (by kernel_rfl) I (z.o.c1 I (by simp)) z.o.f1)) ?_;refine Cj.done (by kernel_rfl) fun w' f=>?_;simp only[Act.put,Cz,Dg,Co];obtain rfl:=f.eq (w0:=Q) rfl;clear f;go_wp2_with fail;refine bu.o.mono ?_;rintro ab c8 ⟨rfl,ci⟩;rw[ci];clear ci c8 bu;go_wp2_with fail;refine Gf (Ek [R,H,bi]) [6,8] (by kernel_rfl) (by kernel_rfl) (by rw[a8.o.1,a8.o.2];rfl) ?_;refine Am 0 (.pointer (some ⟨n,0,none⟩)) ?_;refine Am 1 (.pointer (some ⟨n,0,none⟩)) ?_;refine Am 2 (.pointer (some ⟨n,3,none⟩)) ?_;refine Gv 3 (.slice (some ⟨G,0,none⟩) br cap) Jt (fun q w hw=>z.o.cells w hw.mem) ?_;refine Am 4 (.int .i64 (d:Int)) ?_;refine Am 5 (.pointer (some ⟨a,0,none⟩)) ?_;refine Gr 6 (.agg cs.toArray) rfl (by kernel_rfl) rfl (Pk R H rfl rfl 114 #[.pointer (some ⟨a,0,none⟩)] (fun _=>by kernel_rfl) z.o.call13) ?_;refine Em 7 (.pointer (some ⟨G,d*5,none⟩)) rfl (by kernel_rfl) rfl (fun _=>Cp (fun w=>Xp _ _ _ _ G br cap d rfl (by kernel_rfl) (by kernel_rfl) cn w)) ?_;refine Kr 8 rfl (by kernel_rfl) rfl (Kv H bi rfl rfl (by rw[<-a1.o.1];exact Up _ _ 142 _ _ G (d*5) cs rfl (by kernel_rfl) (by kernel_rfl) (by rw[z.o.len];kernel_rfl) z.o.one H (by rw[z.o.len];exact a1.o.2))) ?_;refine Cj.done (by kernel_rfl) fun w' f=>?_;simp only[Act.put,Cz,Dg,Co];obtain rfl:=f.eq (w0:=bi) rfl;clear f z a1 a8 cn cl ca cw;go_wp2_with fail;go_ret;obtain⟨N,ev',bh⟩:=bk.o;exact⟨rfl,N,_,_,ev',bh⟩
  ·have Y:decide ((l.es.length:Int)+(r.es.length:Int)<=5)=false:=by rw[decide_eq_false_iff_not];omega
   obtain⟨ak,bn⟩:∃ak,ak=o:=⟨_,rfl⟩;have bd:=Aa ((Auj ak a rc (h==0) 0 0 [] [] _ _ _ _ E u.c1.nd u.c2.nd (fun j c7 g=>u.dd j (Bl _ c7) (Bl _ g)) aj.o.2.2.1 aj.o.2.2.2 (by have:=F.o.2.2.2.2.2;rw[aj.o.1,aj.o.2.1];omega)).mono (R':=fun e w'=>e=.returned (.tuple #[])/\Xm E w' a rc (h==0) 0 0 [] [] (Ru o (T.map (Jj h)) (S.map (Jj h))) (Rt o (T.map (Jj h)) (S.map (Jj h)))) (fun e w' cd=>by rw[bn]at cd;exact cd));have cb:=bn.trans c0.o;rw[cb]at bd;clear bn cb ak;have cr:=Aa (fun(w7:World) two=>u.two (w7:=w7) o ay two);clear u a2 V W a7 a9 ay;generalize l.es.length=A1 at*;generalize r.es.length=A2 at*;go_wp2_with fail;refine Gf (Ek [E]) [] (by kernel_rfl) (by kernel_rfl) (by rw[L.o.1];rfl) ?_;refine Am 0 (.pointer (some ⟨a,0,none⟩)) ?_;refine Am 1 (.pointer (some ⟨a,0,none⟩)) ?_;refine Am 2 (.pointer (some ⟨a,3,none⟩)) ?_;refine Gv 3 (.slice ad A1 af) Jt (fun q w hw=>(L.o.2 w hw.mem).1) ?_;refine Am 4 (.int .i64 (A1:Int)) ?_;refine Am 5 (.pointer (some ⟨rc,0,none⟩)) ?_;refine Am 6 (.pointer (some ⟨rc,0,none⟩)) ?_;refine Am 7 (.pointer (some ⟨rc,3,none⟩)) ?_;refine Gv 8 (.slice ag A2 ac) Jt (fun q w hw=>(L.o.2 w hw.mem).2) ?_;refine Am 9 (.int .i64 (A2:Int)) ?_;refine Em 10 (.int .i64 ((A1:Int)+(A2:Int))) rfl (by kernel_rfl) rfl (fun _=>Cp (fun w=>Abw _ _ _ _ _ (A1:Int) (A2:Int) rfl (by kernel_rfl) (by kernel_rfl) (by omega) (by omega) w)) ?_;refine Em 11 (.bool false) rfl (by kernel_rfl) rfl (fun _=>Cp (fun w=>Aqi _ _ _ _ _ ((A1:Int)+(A2:Int)) 5 false rfl (by kernel_rfl) (by kernel_rfl) Y w)) ?_;refine Cj.done (by kernel_rfl) fun w' f=>?_;simp only[Act.put,Cz,Dg,Co];obtain rfl:=f.eq (w0:=E) rfl;clear L f Y bv;go_wp2_with fail;refine bd.o.mono ?_;rintro ab w7 ⟨rfl,two⟩;obtain⟨I,Q,a3,ba,R,H,dn,dd,ds,dw,dq,de,G,cap,cs,al,cq,cs',dy,O,K,bx,Z⟩:=cr.o w7 two;have X:(k++ {el with child:=some a}:: {t with child:=some rc}::s).length=A:=by rw[<-y.o.1];simp
   have bf:=Aa (Ab O.e0 K.e0);have bg:=Aa (Ab O.call K.call);have an:=Aa (Ab O.e2 K.e2);have aq:=Aa (Ab O.there K.there);rw[y.o.2,av.o]at an aq;have bl:=Aa (Ab O.one K.one);have U:=Aa (Ab O.len K.len);have az:=Aa (Ab O.cells K.cells);rw[bx,X]at az;have cu:(d:Int)<(A:Int):=by have:=y.o.1;have h2:=y.o.2;simp at this;omega
   have co:(C:Int)<(A:Int):=by have:=y.o.1;have h2:=y.o.2;simp at this;omega
   have bk:=Aa Z;clear O K Z bx X two cr bd;go_wp2_with fail;refine Gf (Ek [I,Q,a3]) [6,8] (by kernel_rfl) (by kernel_rfl) (by rw[bf.o.1];rfl) ?_;refine Am 0 (.pointer (some ⟨n,0,none⟩)) ?_;refine Am 1 (.pointer (some ⟨n,0,none⟩)) ?_;refine Am 2 (.pointer (some ⟨n,3,none⟩)) ?_;refine Gv 3 (.slice (some ⟨G,0,none⟩) A cap) Jt (fun q w hw=>az.o.1 w hw.mem) ?_;refine Am 4 (.int .i64 (d:Int)) ?_;refine Am 5 (.pointer (some ⟨a,0,none⟩)) ?_;refine Gr 6 (.agg cs.toArray) rfl (by kernel_rfl) rfl (Pk I Q rfl rfl 114 #[.pointer (some ⟨a,0,none⟩)] (fun _=>by kernel_rfl) bg.o.1) ?_;refine Em 7 (.pointer (some ⟨G,d*5,none⟩)) rfl (by kernel_rfl) rfl (fun _=>Cp (fun w=>Xp _ _ _ _ G A cap d rfl (by kernel_rfl) (by kernel_rfl) cu w)) ?_;refine Kr 8 rfl (by kernel_rfl) rfl (Kv Q a3 rfl rfl (by rw[<-an.o.1];exact Up _ _ 142 _ _ G (d*5) cs rfl (by kernel_rfl) (by kernel_rfl) (by rw[U.o.1];kernel_rfl) bl.o.1 Q (by rw[U.o.1];exact aq.o.1))) ?_;refine Cj.done (by kernel_rfl) fun w' f=>?_;simp only[Act.put,Cz,Dg,Co];obtain rfl:=f.eq (w0:=a3) rfl;clear f cu;go_wp2_with fail;refine Gf (Ek [ba,R,H]) [7,9] (by kernel_rfl) (by kernel_rfl) (by rw[bf.o.2];rfl) ?_;refine Am 0 (.pointer (some ⟨n,0,none⟩)) ?_;refine Am 1 (.pointer (some ⟨n,0,none⟩)) ?_;refine Am 2 (.pointer (some ⟨n,3,none⟩)) ?_;refine Gv 3 (.slice (some ⟨al,0,none⟩) A cq) Jt (fun q w hw=>az.o.2 w hw.mem) ?_;refine Am 4 (.int .i64 (d:Int)) ?_;refine Em 5 (.int .i64 (C:Int)) rfl (by kernel_rfl) rfl (fun _=>Cp (fun w=>by rw[<-c2];exact Abw _ _ _ _ _ (d:Int) 1 rfl (by kernel_rfl) (by kernel_rfl) (by omega) (by omega) w)) ?_;refine Am 6 (.pointer (some ⟨rc,0,none⟩)) ?_;refine Gr 7 (.agg cs'.toArray) rfl (by kernel_rfl) rfl (Pk ba R rfl rfl 114 #[.pointer (some ⟨rc,0,none⟩)] (fun _=>by kernel_rfl) bg.o.2) ?_;refine Em 8 (.pointer (some ⟨al,C*5,none⟩)) rfl (by kernel_rfl) rfl (fun _=>Cp (fun w=>Xp _ _ _ _ al A cq C rfl (by kernel_rfl) (by kernel_rfl) co w)) ?_;refine Kr 9 rfl (by kernel_rfl) rfl (Kv R H rfl rfl (by rw[<-an.o.2];exact Up _ _ 142 _ _ al (C*5) cs' rfl (by kernel_rfl) (by kernel_rfl) (by rw[U.o.2];kernel_rfl) bl.o.2 R (by rw[U.o.2];exact aq.o.2))) ?_;refine Cj.done (by kernel_rfl) fun w' f=>?_;simp only[Act.put,Cz,Dg,Co];obtain rfl:=f.eq (w0:=H) rfl;clear f bf bg an aq bl U az co;go_wp2_with fail;go_ret;obtain⟨N,ev',bh⟩:=bk.o;exact⟨rfl,N,_,_,ev',bh⟩
def Jq (k:By)(h:Nat)(t:Nd h):List Nat:=if(Dd k h t).isSome then Nh k h t else []
def Awx (w:World)(m:DM)(rk:By):(h:Nat)->Nat->Nd h->List Nat->Nat->Prop
 |0,_,_,_,_=>True
 |h+1,n,t,S,U=>t.es.length=1->∃ev e c b a,t.es=[e]/\Ke (Eo (Au w m rk h) (Cm m rk h)) w n t.place t.dig ev [(e,(⟨some c,b,a⟩:Kd))]/\S=Ad n ev++b/\U=a
structure To (w w':World)(x:DX)(b bp bw:Nat)(m:DM)(v:VM)(wv:Value)(rk:By)(lk:Nat)(top rv:Value)(ch:Bool)(rl:List Nat)(k:By)(h n:Nat)(t:Nd h)(S:List Nat)(U lk':Nat)(rv':Value)(S':List Nat)(U':Nat):Prop where
 wk:Wk w' x b bp bw m v wv rk lk' top rv' ch (rl++Jq k h t)
 tr:Au w' m rk h n ((Dd k h t).getD t) S' U'
 lk:lk'+U'=lk+U
 kp:Kp (An bw rv++S) w w'
 new:∀j∈S',(j∈S\/w.heap.size<=j)/\j∉An bw rv'
 rnew:Hn w rv rv'
 lone:Awx w' m rk h n ((Dd k h t).getD t) S' U'
def Adq (x:DX)(b bp bw:Nat)(m:DM)(v:VM)(wv:Value)(rk:By)(top:Value)(ch:Bool)(k:By)(h:Nat):Prop:=
 ∀(n:Nat) (t:Nd h) (S:List Nat) (U lk:Nat) (rv:Value) (rl:List Nat) (w:World),Wk w x b bp bw m v wv rk lk top rv ch rl->Au w m rk h n t S U->Ck S (An bw rv)->(∀j∈S,Dx x b bp wv j)->Wf h t->Ba (flat h t)->t.es≠[]->(h=0\/2<=t.es.length)->t.es.length<=5->lk+U<=46->rl.length+3*h<=80000->
  Cl 112 #[.pointer (some ⟨bw,0,none⟩),.pointer (some ⟨n,0,none⟩),.string ⟨k.toArray⟩] w fun r w'=>r=.returned (.tuple #[.bool (Dd k h t).isSome,.int .i64 0])/\
   ∃d e c a,To w w' x b bp bw m v wv rk lk top rv ch rl k h n t S U d e c a
theorem A19 (k:By)(t:Nd 0):La k (t.es.map Dm)=(Dd k 0 t).isSome/\(La k (t.es.map Dm)=true->Bx k (Be t.es)<t.es.length/\Dd k 0 t=some ⟨0,[],t.es.take (Bx k (Be t.es))++t.es.drop (Bx k (Be t.es)+1)⟩):=by
 have c:En (t.es.map Dm)=Be t.es:=by simp[En,Be,Dm,Function.comp_def]
 unfold La Dd;rw[c,Fq]
 cases b:t.es[Bx k (Be t.es)]? with
 |none=>simp
 |some e=>
  simp only[Sp];by_cases a:e.1=k
  ·have:(Dm e).key==k:=by simpa [Dm]using a
   rw[this,if_pos a];exact⟨rfl,fun _=>⟨(Ds.1 b).1,rfl⟩⟩
  ·have:((Dm e).key==k)=false:=by simpa [Dm]using a
   rw[this,if_neg a];exact⟨rfl,fun h=>by cases h⟩
theorem Ayy (x:DX)(b bp bw:Nat)(m:DM)(v:VM)(wv:Value)(rk:By)(top:Value)(ch:Bool)(k:By):Adq x b bp bw m v wv rk top ch k 0:=by
 intro n t S U lk rv rl w hw ba hd l an ap ab a0 F am E;obtain⟨ev,d,rfl,rfl⟩:=ba;have c0:=d.node.c0;have af:t.es.map Dm≠[]:=by simpa using ab
 obtain⟨A,W⟩:=A19 k t;have al:En (t.es.map Dm)=Be t.es:=by simp[En,Be,Dm,Function.comp_def]
 have f:=Aa (Ahc n true t.place t.dig _ ev k w d af (by simp;omega));have c:bw∉Ad n ev:=fun g=>hd bw g (by simp[An]);have Z:bw≠n:=fun e=>c (by simp[Ad,e]);have V:∀j,rv.ownBlock=some j->j≠bw/\j∉Ad n ev:=fun j a=>⟨hw.rne j a,fun g=>hd j g (by simp[An,a])⟩;have q:∀j,ev.ownBlock=some j->j≠bw:=fun j a e=>c (by simp[Ad,<-e,a]);have ae:=Aa (Ab hw (Ab d (Ab hd (Ab l (Ab c q)))))
 cases D:La k (t.es.map Dm)with
 |false=>
  rw[D]at A f
  have K:Dd k 0 t=none:=by
   cases hr:Dd k 0 t with
   |none=>rfl
   |some _=>rw[hr]at A;cases A
  rw[K]
  have a1:=Aa (fun(w1:World) (hb:Bw w w1)=>show To w w1 x b bp bw m v wv rk lk top rv ch rl k 0 n t (Ad n ev) 0 lk rv (Ad n ev) 0 from⟨by
    unfold Jq;rw[K];simp only[Option.isSome_none,Ng,if_false,Ff]
    exact hw.kp (Kp.of_below hb:Kp [] w w1) (by simp) (fun _ h=>by cases h),by rw[K];exact⟨ev,d.below hb,rfl,rfl⟩,rfl,Kp.of_below hb,fun j a=>⟨.inl a,fun g=>hd j a g⟩,fun j a=>.inl a,trivial⟩)
  generalize Bx k (En (t.es.map Dm))=P at*;clear hw d hd l an ap ab a0 F am E af A W al c Z V q D K ae;go_enter Tryz.func112,Tryz.ntmps112;go_wp2_with fail;refine f.o.mono ?_;rintro r w1 ⟨rfl,aa,C⟩;have ah:=Aa (a1.o w1 (C▸Bp (Ah _ _) aa));clear C a1 f;go_wp2_with fail;go_ret2;exact⟨rfl,lk,rv,Ad n ev,0,ah.o⟩
 |true=>
  rw[D]at f;obtain⟨z,p⟩:=W D;rw[p];rw[al]at f;obtain⟨P,s⟩:=nmd (Bx k (Be t.es));rw[s]at f z;have bh:(P:Int)<=5:=by omega
  have a3:=Aa (Ab p (Ab z (Ab s (Ab E F))));have a7:=Aa (fun(w1:World) (hb:Bw w w1)=>Aan bw b lk top rv ch rl n true t.place t.dig _ ev w1 (hw.wk.of_block (hb.block bw hw.wk.lt)) (Bm hw.row (Kp.of_below hb:Kp [] w w1) (by simp)) (d.below hb) Z V q (by omega));clear hw d hd l an ap ab a0 F am E af A W al c Z V q D p z s;go_enter Tryz.func112,Tryz.ntmps112;go_wp2_with fail;refine f.o.mono ?_;rintro r w1 ⟨rfl,aa,C⟩;have i:=Bp (Ah w.heap.size w) aa;rw[<-C]at i;have a5:=Aa (a7.o w1 i);have ax:=Aa i;clear C i a7 f;go_wp2_with fail;refine a5.o.mono ?_;rintro r w2 ⟨rfl,Y,ar,av,y,aj,au,Q⟩;obtain⟨hw,d,hd,l,c,q⟩:=ae.o;have i:=ax.o;have bg:=i.size;have a9:=aj.size;have ac:Kp (bw::n::rv.ownBlock.toList) w w2:=(Kp.of_below i).trans aj;have nw:Hn w rv Y:=fun j a=>(au j a).imp id (fun e=>by omega)
  have a8:∀j∈bw::n::rv.ownBlock.toList,Dx x b bp wv j\/w.heap.size<=j:=fun j a=>by
   simp only[Al,Bf]at a;rcases a with rfl|rfl|e
   ·exact .inl hw.env.o
   ·exact .inl (l _ (by simp[Ad]))
   ·exact .inl (hw.rout j e)
  have ag:=hw.step ac a8 ar av nw (fun j a=>(Q j a).1);obtain⟨p,z,s,E,F⟩:=a3.o;have u:(t.es.map Dm).length=t.es.length:=by simp
  obtain⟨N,cap,ai,be,bd,az,a6,_,_⟩:=y.row (by intro e;rw[e]at u;simp at u;omega);have bc:=ai;rw[u]at ai az;subst ai;obtain⟨bj,R,M,T,J,I⟩:=Adw N cap P _ w2 (by rw[u];exact Fe.of_own y.own) (by omega) (by omega) a6 (by omega);rw[u]at I;have ao:(t.es.map Dm).take P++(t.es.map Dm).drop (P+1)=(t.es.take P++t.es.drop (P+1)).map Dm:=by rw[Lw,Uw,List.map_drop]
  rw[ao]at M;obtain⟨ak,c3,rfl⟩:=Aao M;obtain⟨n3,X⟩:=nmd (((t.es.take P++t.es.drop (P+1)).map Dm).length);have H:=y.below J;obtain⟨G,O⟩:=nmd (R.setCell ⟨n,3,none⟩ (.slice ak n3 c3));have ad:Kp [n] R G:=O▸(Kp.refl [n] R).setCell n 3 _ (.inl (by simp));have bb:=y.node.lt
  have aw:Av G n true 0 [] ((t.es.take P++t.es.drop (P+1)).map Dm) (.slice ak n3 c3):=by have:=H.row3 M (fun j a=>by have:=T j a;omega);rw[X,O]at this;exact this
  rw[X]at I T;have o:n∈Ad n (.slice (some ⟨N,0,none⟩) t.es.length cap):=by simp[Ad]
  have a4:=(ag.kp (Kp.of_below J:Kp [] w2 R) (by simp) (fun _ h=>by cases h)).kp ad (fun j a=>by simp at a;subst a;exact l _ o) (fun j a g=>by
   simp at a;subst a;simp only[An,Al,Bf]at g;rcases g with rfl|g
   ·exact c o
   ·exact(Q _ g).2 o)
  have aq:Kp (An bw rv++Ad n (.slice (some ⟨N,0,none⟩) t.es.length cap)) w G:=((ac.mono (fun j a=>by
   simp only[Al,Bf]at a;simp only[An,Ad,As,Al,Bf];rcases a with e|e|e
   ·exact .inl (.inl e)
   ·exact .inr (.inl e)
   ·exact .inl (.inr e))).trans (Kp.of_below J)).trans (ad.mono (fun j a=>by simp at a;subst a;exact Bg _ o))
  have ah:=Aa (show To w G x b bp bw m v wv rk lk top rv ch rl k 0 n t (Ad n (.slice (some ⟨N,0,none⟩) t.es.length cap)) 0 lk Y (Ad n (.slice ak n3 c3)) 0 from⟨by
    unfold Jq;rw[p]
    exact a4,by rw[p,s];exact⟨_,aw,rfl,rfl⟩,rfl,aq,fun j a=>by
    simp only[Ad,Al,Bf]at a;rcases a with rfl|e
    ·refine⟨.inl (by simp[Ad]),fun g=>?_⟩;simp only[An,Al,Bf]at g;rcases g with rfl|g
     ·exact c o
     ·exact(Q _ g).2 o
    ·have bl:=T j e
     exact⟨.inr (by omega),fun g=>by have:=ag.bound j g;omega⟩,nw,trivial⟩)
  have bk:=y.node.c3;have bm:=H.node.c3;have bi:=H.node.fr 3;have ay:=Aa (Ab I O);clear hw d hd l c q i bg a9 ac nw a8 ag p z s E F u be bd az a6 bc M T J I ao X H O ad bb aw o a4 aq ar av y aj au Q a5 ax a3 ae;generalize t.es.length=L at*;go_wp2_with fail;refine ay.o.1.mono ?_;rintro r bf ⟨rfl,a2⟩;rw[a2];clear a2 bf;go_wp2_with fail;rw[ay.o.2];go_ret2;exact⟨rfl,lk,Y,_,0,ah.o⟩
section
variable {h:Nat}
theorem Ke.swapL {l K':Nd h->Kd->Prop}{w w':World}{n p t:Nat}{d q:By}{ev ev':Value}{A B X N:List (EK h)}{H:Nat}(f:Ke l w n p d ev (A++(X++B)))
  (C:Av w' n false t q ((A++(N++B)).map Ao) ev') (hk:∀y,y∈A\/y∈B->l y.1.2 y.2->K' y.1.2 y.2) (I:∀y∈N,K' y.1.2 y.2) (z:N.Pairwise fun x y=>Ck x.2.S y.2.S)
  (D:∀y∈N,∀j∈y.2.S,(∃x∈X,j∈x.2.S)\/H<=j) (k:∀y,y∈A\/y∈B->∀j∈y.2.S,j<H) (m:∀j∈Ad n ev',(j∈Ad n ev\/H<=j)/\∀y∈N,j∉y.2.S):Ke K' w' n t q ev' (A++(N++B)):=by
 obtain⟨F,v,s⟩:=Dc.1 f.s2;obtain⟨K,E,J⟩:=Dc.1 v;have old:∀y,y∈A\/y∈B->y∈A++(X++B):=fun y hy=>by rcases hy with g|g<;>simp[g]
 refine⟨C,fun y hy=>?_,fun y hy j c o=>?_,?_⟩
 ·rcases As.1 hy with g|g
  ·exact hk y (.inl g) (f.kid y (old y (.inl g)))
  ·rcases As.1 g with g|g
   ·exact I y g
   ·exact hk y (.inr g) (f.kid y (old y (.inr g)))
 ·have G:(y∈A\/y∈B)\/y∈N:=by
   rcases As.1 hy with g|g
   ·exact .inl (.inl g)
   ·rcases As.1 g with g|g
    ·exact .inr g
    ·exact .inl (.inr g)
  rcases G with g|g
  ·rcases(m j o).1 with e|e
   ·exact f.s1 y (old y g) j c e
   ·have:=k y g j c;omega
  ·exact(m j o).2 y g c
 ·have u:∀a∈N,∀y,y∈A\/y∈B->Ck a.2.S y.2.S:=fun a ha y hy j c i=>by
   rcases D a ha j c with⟨x,r,e⟩|e
   ·rcases hy with g|g
    ·exact s y g x (by simp[r]) j i e
    ·exact J x r y g j e i
   ·have:=k y hy j i;omega
  refine Dc.2 ⟨F,Dc.2 ⟨z,E,fun a ha b hb=>u a ha b (.inr hb)⟩,fun a ha b hb=>?_⟩;rcases As.1 hb with g|g
  ·exact(u b g a (.inl ha)).symm
  ·exact s a ha b (by simp[g])
end
structure Vg (w w1:World)(x:DX)(b bp bw:Nat)(m:DM)(v:VM)(wv:Value)(rk:By)(lk:Nat)(top rv:Value)(ch:Bool)(rl:List Nat)(h n:Nat)(t:Nd (h+1))(ev:Value)(A B:List (EK h))(y:EK h)(c:Nat)(Sc:List Nat)(Uc lk1:Nat):Prop where
 wk:Wk w x b bp bw m v wv rk lk top rv ch rl
 wk1:Wk w1 x b bp bw m v wv rk lk1 top rv ch rl
 inn:Ke (Eo (Au w1 m rk h) (Cm m rk h)) w1 n t.place t.dig ev (A++((y.1,(⟨some c,Sc,Uc⟩:Kd))::B))
 es:t.es=(A++((y.1,(⟨some c,Sc,Uc⟩:Kd))::B)).map Prod.fst
 nSc:∀j∈Sc,j∈y.2.S\/w.heap.size<=j
 k01:Kp (bw::ev.ownBlock.toList) w w1
 hd:Ck (Ad n ev++Dn (A++y::B)) (An bw rv)
 o:∀j∈Ad n ev++Dn (A++y::B),Dx x b bp wv j
 lke:lk1+Uc=lk+y.2.U
 lid:lk+Cs (A++y::B)<=46
section
variable {w w1 wf:World}{x:DX}{b bp bw:Nat}{m:DM}{v:VM}{wv:Value}{rk:By}{lk:Nat}{top rv:Value}{ch:Bool}{rl:List Nat}{h n:Nat}{t:Nd (h+1)}{ev:Value}{A B:List (EK h)}{y:EK h}{c:Nat}{Sc:List Nat}{Uc lk1:Nat}
theorem Vg.src (hr:Vg w w1 x b bp bw m v wv rk lk top rv ch rl h n t ev A B y c Sc Uc lk1){z:EK h}(hz:z∈A++((y.1,(⟨some c,Sc,Uc⟩:Kd))::B)){j:Nat}(a:j∈z.2.S):(j∈Dn (A++y::B)\/w.heap.size<=j)/\j∉An bw rv/\Dx x b bp wv j/\j<w1.heap.size:=by
 have hb:=(hr.inn.kid z hz).bound j a;have old:∀j,j∈Dn (A++y::B)->(j∈Dn (A++y::B)\/w.heap.size<=j)/\j∉An bw rv/\Dx x b bp wv j:=fun j g=>⟨.inl g,hr.hd j (Bg _ g),hr.o j (Bg _ g)⟩;have new:∀j,w.heap.size<=j->(j∈Dn (A++y::B)\/w.heap.size<=j)/\j∉An bw rv/\Dx x b bp wv j:=fun j g=>⟨.inr g,fun f=>by have:=hr.wk.bound j f;omega,hr.wk.env.new g⟩
 have d:(j∈Dn (A++y::B)\/w.heap.size<=j)/\j∉An bw rv/\Dx x b bp wv j:=by
  rcases As.1 hz with g|g
  ·exact old j (Iw.2 ⟨z,by simp[g],a⟩)
  ·rcases Al.1 g with rfl|g
   ·rcases hr.nSc j a with e|e
    ·exact old j (Iw.2 ⟨y,by simp,e⟩)
    ·exact new j e
   ·exact old j (Iw.2 ⟨z,by simp[g],a⟩)
 exact⟨d.1,d.2.1,d.2.2,hb⟩
theorem Vg.fin (hr:Vg w w1 x b bp bw m v wv rk lk top rv ch rl h n t ev A B y c Sc Uc lk1){k:By}{T:Nd (h+1)}{A' B' X N:List (EK h)}{evf i:Value}{C:Nat}(S:A++((y.1,(⟨some c,Sc,Uc⟩:Kd))::B)=A'++(X++B'))(I:(Dd k (h+1) t).getD t=T)(q:T.es=(A'++(N++B')).map Prod.fst)
  (V:Av wf n false T.place T.dig ((A'++(N++B')).map Ao) evf) (U:∀z∈N,Eo (Au wf m rk h) (Cm m rk h) z.1.2 z.2) (Q:N.Pairwise fun x y=>Ck x.2.S y.2.S) (J:∀z∈N,∀j∈z.2.S,((∃x∈X,j∈x.2.S)\/w1.heap.size<=j)/\j∉An bw i) (ac:C+Cs N=lk1+Cs X)
  (hk:Kp (An bw rv++(Ad n ev++Dn X)) w1 wf) (s:∀j∈Ad n evf,(j∈Ad n ev\/w1.heap.size<=j)/\(∀z∈N,j∉z.2.S)/\j∉An bw i) (hw:Wk wf x b bp bw m v wv rk C top i ch (rl++Jq k (h+1) t)) (F:Hn w1 rv i) (W:∀z,A'++(N++B')=[z]->z.2.c≠none):
  To w wf x b bp bw m v wv rk lk top rv ch rl k (h+1) n t (Ad n ev++Dn (A++y::B)) (Cs (A++y::B)) C i (Ad n evf++Dn (A'++(N++B'))) (Cs (A'++(N++B'))):=by
 have ag:=hr.k01.size;have l:=hr.inn;have o:∀ {z:EK h},z∈A++((y.1,(⟨some c,Sc,Uc⟩:Kd))::B)->∀ {j:Nat},j∈z.2.S->(j∈Dn (A++y::B)\/w.heap.size<=j)/\j∉An bw rv/\Dx x b bp wv j/\j<w1.heap.size:=fun hz _ a=>hr.src hz a;have K:Cs (A++((y.1,(⟨some c,Sc,Uc⟩:Kd))::B))=Cs A+(Uc+Cs B):=by rw[Ly,Rq]
 rw[S]at l o K;have old:∀z,z∈A'\/z∈B'->z∈A'++(X++B'):=fun z hz=>by rcases hz with g|g<;>simp[g]
 obtain⟨ad,M,Z⟩:=Dc.1 l.s2;obtain⟨_,aa,Y⟩:=Dc.1 M
 have R:∀z,z∈A'\/z∈B'->Ck z.2.S (An bw rv++(Ad n ev++Dn X)):=fun z hz j a g=>by
  rcases As.1 g with g|g
  ·exact(o (old z hz) a).2.1 g
  ·rcases As.1 g with g|g
   ·exact l.s1 z (old z hz) j a g
   ·obtain⟨x,f,r⟩:=Iw.1 g;rcases hz with e|e
    ·exact Z z e x (by simp[f]) j a r
    ·exact Y x f z e j r a
 have inf:Ke (Eo (Au wf m rk h) (Cm m rk h)) wf n T.place T.dig evf (A'++(N++B')):=Ke.swapL (H:=w1.heap.size) l V (fun z hz O=>O.kp hk (R z hz)) U Q (fun z hz j a=>(J z hz j a).1) (fun z hz=>(l.kid z (old z hz)).bound) (fun j a=>⟨(s j a).1,(s j a).2.1⟩);refine⟨hw,by rw[I];exact⟨evf,A'++(N++B'),q,inf,rfl,rfl⟩,?_,?_,fun j a=>?_,fun j a=>(F j a).imp id (fun e=>by omega),fun u=>?_⟩
 ·have h1:=hr.lke;rw[Ly,Ly]at K;rw[Ly,Ly,Ly,Rq];omega
 ·refine(hr.k01.mono (fun j a=>?_)).step hk (fun j a=>?_)
  ·simp only[Al,Bf]at a;simp only[An,Ad,As,Al,Bf];rcases a with e|e
   ·exact .inl (.inl e)
   ·exact .inr (.inl (.inr e))
  ·rcases As.1 a with g|g
   ·exact .inl (Bl _ g)
   ·rcases As.1 g with g|g
    ·exact .inl (Bg _ (Bl _ g))
    ·obtain⟨x,f,r⟩:=Iw.1 g;rcases(o (by simp[f]) r).1 with e|e
     ·exact .inl (Bg _ (Bg _ e))
     ·exact .inr e
 ·rcases As.1 a with g|g
  ·exact⟨(s j g).1.imp (Bl _) (fun e=>by omega),(s j g).2.2⟩
  ·obtain⟨z,hz,D⟩:=Iw.1 g
   have d:(z∈A'\/z∈B')\/z∈N:=by
    rcases As.1 hz with g|g
    ·exact .inl (.inl g)
    ·rcases As.1 g with g|g
     ·exact .inr g
     ·exact .inl (.inr g)
   rcases d with d|d
   ·obtain⟨s1,s2,_,af⟩:=o (old z d) D;refine⟨s1.imp (Bg _) id,fun p=>?_⟩;simp only[An,Al,Bf]at p;rcases p with e|e
    ·exact s2 (by simp[An,e])
    ·rcases F j e with e|e
     ·exact s2 (by simp[An,e])
     ·omega
   ·obtain⟨P,p⟩:=J z d j D;refine⟨?_,p⟩;rcases P with⟨x,f,e⟩|e
    ·exact(o (by simp[f]) e).1.imp (Bg _) id
    ·exact .inr (by omega)
 ·rw[I]at u⊢;rw[q,Fi]at u;obtain⟨z,hz⟩:=List.length_eq_one_iff.1 u;have d:=W z hz;obtain⟨E,G⟩:=Option.ne_none_iff_exists'.1 d
  have L:z=(z.1,(⟨some E,z.2.S,z.2.U⟩:Kd)):=by obtain⟨e,k⟩:=z;obtain⟨ae,ks,ab⟩:=k;simp only at G;rw[G]
  rw[hz]at inf q;refine⟨evf,z.1,E,z.2.S,z.2.U,by rw[q];rfl,L▸inf,?_,?_⟩
  ·rw[hz];simp[Dn]
  ·rw[hz];simp[Cs]
end
theorem Aqo {α:Type}(es A B:List (By×Es α))(l r:By×Es α)(i:Nat)(a:es=A++l::r::B)(ha:Jp es i=A.length):Ua es i=nz l.2.place++nz r.2.place:=by
 unfold Ua;have h1:es[A.length]?=some l:=by rw[a];simp
 have h2:es[A.length+1]?=some r:=by rw[a];simp
 rw[ha,h1,h2]
theorem Ax3 {α:Type}(A B:List α)(l r:α):Jp (A++l::r::B) A.length=A.length:=by unfold Jp;rw[if_neg (by simp)]
theorem A1x {α:Type}(A:List α)(l r:α):Jp (A++[l,r]) (A.length+1)=A.length:=by unfold Jp;rw[if_pos (by simp)];simp
theorem Axs {k:By}{h:Nat}{t:Nd (h+1)}{e:By×Nd h}(a:t.es[Dk k (Be t.es)]?=some e):
  Dd k (h+1) t=(Dd k h e.2).map (fun c=>⟨0,[],if c.es.length<2 then Ti (t.es.set (Dk k (Be t.es)) (e.1,c)) (Dk k (Be t.es))else t.es.set (Dk k (Be t.es)) (c.least,c)⟩):=by
 rw[Dd,a];simp only;cases Dd k h e.2<;>rfl
theorem A07 {k:By}{h:Nat}{t:Nd (h+1)}{e:By×Nd h}{c:Nd h}(a:t.es[Dk k (Be t.es)]?=some e)(b:Dd k h e.2=some c):
  Nh k (h+1) t=Nh k h e.2++(nz t.place++(if c.es.length<2 then Ua (t.es.set (Dk k (Be t.es)) (e.1,c)) (Dk k (Be t.es))else [])):=by rw[Nh,a];simp only[b]
theorem Akb (k:By)(h:Nat)(t a:Nd h)(hr:Dd k h t=some a):a.place=0:=by
 cases h with
 |zero=>
  unfold Dd at hr;split at hr
  ·cases hr
  ·split at hr
   ·cases hr;rfl
   ·cases hr
 |succ h=>
  unfold Dd at hr;split at hr
  ·cases hr
  ·split at hr
   ·cases hr
   ·cases hr;rfl
structure Mo (w w1 w2:World)(x:DX)(b bp bw:Nat)(m:DM)(v:VM)(wv:Value)(rk:By)(lk:Nat)(top rv:Value)(ch:Bool)(rl rl2:List Nat)(h n:Nat)(t:Nd (h+1))(ev:Value)(A B:List (EK h))(y:EK h)(c:Nat)(Sc:List Nat)(Uc lk1:Nat)(p2:Nat)(d2:By)(t2:Nd h)(S2:List Nat)(U2 lk2:Nat)(rv2:Value):Prop where
 ri:Vg w w1 x b bp bw m v wv rk lk top rv ch rl h n t ev A B y c Sc Uc lk1
 wk:Wk w2 x b bp bw m v wv rk lk2 top rv2 ch rl2
 tr:Au w2 m rk h c t2 S2 U2
 lke:lk2+U2=lk1+Uc
 kp:Kp (An bw rv++(Ad n ev++Sc)) w1 w2
 new:∀j∈S2,(j∈Sc\/w1.heap.size<=j)/\j∉An bw rv2/\j∉Ad n ev
 rnew:Hn w1 rv rv2
 nd:Av w2 n false p2 d2 ((A++((y.1,(⟨some c,Sc,Uc⟩:Kd))::B)).map Ao) ev
 evn:∀j∈Ad n ev,j∉An bw rv2
section
variable {w w1 w2 wf:World}{x:DX}{b bp bw:Nat}{m:DM}{v:VM}{wv:Value}{rk:By}{lk:Nat}{top rv:Value}{ch:Bool}{rl rl2:List Nat}{h n:Nat}{t:Nd (h+1)}{ev:Value}{A B:List (EK h)}{y:EK h}{c:Nat}{Sc:List Nat}{Uc lk1:Nat}{p2:Nat}{d2:By}{t2:Nd h}{S2:List Nat}{U2 lk2:Nat}{rv2:Value}
theorem Vg.below (hr:Vg w w1 x b bp bw m v wv rk lk top rv ch rl h n t ev A B y c Sc Uc lk1){k:By}{o:List Nat}{i p:Nat}{q:Value}(d:To w1 w2 x b bp bw m v wv rk lk1 top rv ch rl k h c y.1.2 Sc Uc p q o i):
  Mo w w1 w2 x b bp bw m v wv rk lk top rv ch rl (rl++Jq k h y.1.2) h n t ev A B y c Sc Uc lk1 t.place t.dig ((Dd k h y.1.2).getD y.1.2) o i p q:=by
 have f:(y.1,(⟨some c,Sc,Uc⟩:Kd))∈A++((y.1,(⟨some c,Sc,Uc⟩:Kd))::B):=by simp
 have l:∀j∈Ad n ev,j∉An bw rv++Sc:=fun j a g=>by
  rcases As.1 g with g|g
  ·exact hr.hd j (Bl _ a) g
  ·exact hr.inn.s1 _ f j g a
 refine⟨hr,d.wk,d.tr,d.lk,d.kp.mono (fun j a=>?_),fun j a=>⟨(d.new j a).1,(d.new j a).2,fun g=>?_⟩,d.rnew,hr.inn.nd.kp d.kp (l n (by simp[Ad])) (fun j a=>l j (by simp[Ad,a])),fun j a g=>?_⟩
 ·rcases As.1 a with g|g
  ·exact Bl _ g
  ·exact Bg _ (Bg _ g)
 ·rcases(d.new j a).1 with e|e
  ·exact hr.inn.s1 _ f j e g
  ·have:=hr.inn.nd.bound g;omega
 ·simp only[An,Al,Bf]at g;rcases g with e|e
  ·exact hr.hd j (Bl _ a) (by simp[An,e])
  ·rcases d.rnew j e with e|e
   ·exact hr.hd j (Bl _ a) (by simp[An,e])
   ·have:=hr.inn.nd.bound a;omega
theorem Mo.callRenew (d:Mo w w1 w2 x b bp bw m v wv rk lk top rv ch rl rl2 h n t ev A B y c Sc Uc lk1 p2 d2 t2 S2 U2 lk2 rv2)(C:rl2.length<=90000):
  Cl 129 #[.pointer (some ⟨bw,0,none⟩),.pointer (some ⟨n,0,none⟩)] w2 fun e p=>e=.returned (.tuple #[])/\∃i,Mo w w1 p x b bp bw m v wv rk lk top rv ch rl (rl2++nz p2) h n t ev A B y c Sc Uc lk1 0 [] t2 S2 U2 lk2 i:=by
 have f:n∈Ad n ev:=by simp[Ad]
 refine(Aan bw b lk2 top rv2 ch rl2 n false p2 d2 _ ev w2 d.wk.wk d.wk.row d.nd (fun e=>d.evn n f (by simp[An,e])) (fun j a=>⟨d.wk.rne j a,fun g=>d.evn j g (by simp[An,a])⟩) (fun j a e=>d.evn j (by simp[Ad,a]) (by simp[An,e])) (by omega)).mono ?_;rintro e p ⟨rfl,i,u,r,s,o,l,z⟩;refine⟨rfl,i,?_⟩;have hz:=d.kp.size
 have k:∀j∈bw::n::rv2.ownBlock.toList,j∈An bw rv2\/j=n:=fun j a=>by
  simp only[Al,Bf]at a;rcases a with e|e|e
  ·exact .inl (by simp[An,e])
  ·exact .inr e
  ·exact .inl (by simp[An,e])
 have q:∀j,j∈An bw i->j∈An bw rv2\/w2.heap.size<=j:=fun j a=>by
  simp only[An,Al,Bf]at a⊢;rcases a with e|e
  ·exact .inl (.inl e)
  ·exact(l j e).imp .inr id
 refine⟨d.ri,d.wk.step o (fun j a=>?_) u r l (fun j a=>(z j a).1),Au.kp o _ _ _ _ _ d.tr (fun j a g=>?_),d.lke,d.kp.step o (fun j a=>?_),fun j a=>⟨(d.new j a).1,fun g=>?_,(d.new j a).2.2⟩,d.rnew.trans l hz,s,fun j a g=>?_⟩
 ·rcases k j a with g|rfl
  ·exact .inl (d.wk.o j g)
  ·exact .inl (d.ri.o _ (Bl _ f))
 ·rcases k j g with e|rfl
  ·exact(d.new j a).2.1 e
  ·exact(d.new _ a).2.2 f
 ·rcases k j a with g|rfl
  ·simp only[An,Al,Bf]at g;rcases g with rfl|g
   ·exact .inl (Bl _ (by simp[An]))
   ·rcases d.rnew j g with e|e
    ·exact .inl (Bl _ (by simp[An,e]))
    ·exact .inr e
  ·exact .inl (Bg _ (Bl _ f))
 ·rcases q j g with e|e
  ·exact(d.new j a).2.1 e
  ·have:=Au.bound _ _ _ _ _ d.tr j a;omega
 ·rcases q j g with e|e
  ·exact d.evn j a e
  ·have:=d.nd.bound a;omega
theorem Mo.one (d:Mo w w1 w2 x b bp bw m v wv rk lk top rv ch rl rl2 h n t ev A B y c Sc Uc lk1 p2 d2 t2 S2 U2 lk2 rv2){k key:By}{X:List Nat}(hk:Kp X w2 wf)(f:∀j∈X,j∈Ad n ev)(i:rl2=rl++Jq k (h+1) t){T:Nd (h+1)}(q:(Dd k (h+1) t).getD t=T)(r:T.es=(A++([((key,t2),(⟨some c,S2,U2⟩:Kd))]++B)).map Prod.fst)
  (p:Av wf n false T.place T.dig ((A++([((key,t2),(⟨some c,S2,U2⟩:Kd))]++B)).map Ao) ev):∃o l,To w wf x b bp bw m v wv rk lk top rv ch rl k (h+1) n t (Ad n ev++Dn (A++y::B)) (Cs (A++y::B)) lk2 rv2 o l:=by
 subst i;refine⟨_,_,d.ri.fin (X:=[(y.1,(⟨some c,Sc,Uc⟩:Kd))]) (by simp) q r p (fun z hz=>?_) (by simp) (fun z hz j a=>?_) (by have:=d.lke;simp[Cs];omega) ((d.kp.mono (fun j a=>by simpa [Dn]using a)).trans (hk.mono (fun j a=>Bg _ (Bl _ (f j a))))) (fun j a=>⟨.inl a,fun z hz g=>?_,d.evn j a⟩) (d.wk.kp hk (fun j a=>d.ri.o j (Bl _ (f j a))) (fun j a=>d.evn j (f j a))) d.rnew (fun z hz=>?_)⟩
 ·rw[Jc.1 hz];exact Au.kp hk _ _ _ _ _ d.tr (fun j a g=>(d.new j a).2.2 (f j g))
 ·rw[Jc.1 hz]at a;exact⟨(d.new j a).1.imp (fun e=>⟨_,Jc.2 rfl,e⟩) id,(d.new j a).2.1⟩
 ·rw[Jc.1 hz]at g;exact(d.new j g).2.2 a
 ·have:((key,t2),(⟨some c,S2,U2⟩:Kd))∈[z]:=by rw[<-hz];simp
  rw[<-Jc.1 this];simp
end
section
variable {w w1 w2 wf:World}{x:DX}{b bp bw:Nat}{m:DM}{v:VM}{wv:Value}{rk:By}{lk:Nat}{top rv:Value}{ch:Bool}{rl rl2:List Nat}{h n:Nat}{t:Nd (h+1)}{ev:Value}{A B:List (EK h)}{y:EK h}{c:Nat}{Sc:List Nat}{Uc lk1:Nat}{p2:Nat}{d2:By}{t2:Nd h}{S2:List Nat}{U2 lk2:Nat}{rv2:Value}
theorem Mo.nb (d:Mo w w1 w2 x b bp bw m v wv rk lk top rv ch rl rl2 h n t ev A B y c Sc Uc lk1 p2 d2 t2 S2 U2 lk2 rv2){z:EK h}(hz:z∈A\/z∈B)(hk:Gl z.1):
  Om w2 m rk h (Ao z) z.1.2 z.2.S z.2.U/\Ck S2 z.2.S/\(∀j∈z.2.S,j∉An bw rv2/\j∉Ad n ev/\Dx x b bp wv j):=by
 have i:z∈A++((y.1,(⟨some c,Sc,Uc⟩:Kd))::B):=by rcases hz with g|g<;>simp[g]
 have k:Ck z.2.S Sc:=by
  obtain⟨q,o,p⟩:=Dc.1 d.ri.inn.s2;obtain⟨l,r⟩:=Er.1 o;rcases hz with e|e
  ·exact p z e _ Qu
  ·exact(l z e).symm
 have f:∀j∈z.2.S,_:=fun j a=>d.ri.src i a;refine⟨Om.of ((d.ri.inn.kid z i).kp d.kp (fun j a g=>?_)) hk,fun j a g=>?_,fun j a=>⟨fun g=>?_,d.ri.inn.s1 z i j a,(f j a).2.2.1⟩⟩
 ·rcases As.1 g with g|g
  ·exact(f j a).2.1 g
  ·rcases As.1 g with g|g
   ·exact d.ri.inn.s1 z i j a g
   ·exact k j a g
 ·rcases(d.new j a).1 with e|e
  ·exact k j g e
  ·have:=(f j g).2.2.2;omega
 ·simp only[An,Al,Bf]at g;rcases g with e|e
  ·exact(f j a).2.1 (by simp[An,e])
  ·rcases d.rnew j e with e|e
   ·exact(f j a).2.1 (by simp[An,e])
   ·have:=(f j a).2.2.2;omega
theorem Mo.s2out (a:Mo w w1 w2 x b bp bw m v wv rk lk top rv ch rl rl2 h n t ev A B y c Sc Uc lk1 p2 d2 t2 S2 U2 lk2 rv2):∀j∈S2,Dx x b bp wv j:=fun j d=>by
 rcases(a.new j d).1 with e|e
 ·exact(a.ri.src (z:=(y.1,(⟨some c,Sc,Uc⟩:Kd))) (by simp) e).2.2.1
 ·exact a.ri.wk1.env.new e
theorem Mo.msR {z:EK h}{B':List (EK h)}(a:Mo w w1 w2 x b bp bw m v wv rk lk top rv ch rl rl2 h n t ev A (z::B') y c Sc Uc lk1 0 [] t2 S2 U2 lk2 rv2)(hk:Gl z.1):
  MS w2 w2 x b bp bw m v wv rk lk2 top rv2 ch h n ev (A.map Ao++Ao (y.1,(⟨some c,Sc,Uc⟩:Kd))::Ao z::B'.map Ao) (Ao (y.1,(⟨some c,Sc,Uc⟩:Kd))) (Ao z) t2 z.1.2 S2 z.2.S U2 z.2.U S2 z.2.S U2 z.2.U lk2 rv2 rl2:=by
 obtain⟨n1,n2,n3⟩:=a.nb (z:=z) (.inr (by simp)) hk;refine⟨a.wk,by have:=a.nd;simpa using this,.inl ⟨c,rfl,a.tr⟩,n1,n2,fun j d=>?_,rfl,Kp.refl _ _,fun j d=>.inl d,fun j d=>⟨a.evn j d,a.ri.o j (Bl _ d)⟩⟩;rcases d with g|g
 ·exact⟨.inl g,(a.new j g).2.1,(a.new j g).2.2,a.s2out j g⟩
 ·exact⟨.inr (.inl g),n3 j g⟩
theorem Mo.msL {z:EK h}{A':List (EK h)}(a:Mo w w1 w2 x b bp bw m v wv rk lk top rv ch rl rl2 h n t ev (A'++[z]) [] y c Sc Uc lk1 0 [] t2 S2 U2 lk2 rv2)(hk:Gl z.1):
  MS w2 w2 x b bp bw m v wv rk lk2 top rv2 ch h n ev (A'.map Ao++Ao z::Ao (y.1,(⟨some c,Sc,Uc⟩:Kd))::([]:List (EK h)).map Ao) (Ao z) (Ao (y.1,(⟨some c,Sc,Uc⟩:Kd))) z.1.2 t2 z.2.S S2 z.2.U U2 z.2.S S2 z.2.U U2 lk2 rv2 rl2:=by
 obtain⟨n1,n2,n3⟩:=a.nb (z:=z) (.inl (by simp)) hk;refine⟨a.wk,by have:=a.nd;simpa using this,n1,.inl ⟨c,rfl,a.tr⟩,n2.symm,fun j d=>?_,rfl,Kp.refl _ _,fun j d=>.inl d,fun j d=>⟨a.evn j d,a.ri.o j (Bl _ d)⟩⟩;rcases d with g|g
 ·exact⟨.inl g,n3 j g⟩
 ·exact⟨.inr (.inl g),(a.new j g).2.1,(a.new j g).2.2,a.s2out j g⟩
theorem Mo.mend (o:Mo w w1 w2 x b bp bw m v wv rk lk top rv ch rl rl2 h n t ev A B y c Sc Uc lk1 p2 d2 t2 S2 U2 lk2 rv2){k:By}{A' B' X N:List (EK h)}{l r:Nd h}{C u:List Nat}{q E s:Nat}{D:Bool}{F ev':Value}(d:Aby w2 wf x b bp bw m v wv rk lk2 top rv2 ch rl2 h n ev (A'.map Ao) (B'.map Ao) l r C u q E D N s F ev')
  (H:A++((y.1,(⟨some c,Sc,Uc⟩:Kd))::B)=A'++(X++B')) (K:(y.1,(⟨some c,Sc,Uc⟩:Kd))∈X) (p:∀j,(j∈C\/j∈u)->(∃x∈X,j∈x.2.S)\/w1.heap.size<=j) (S:lk2+q+E=lk1+Cs X) {T:Nd (h+1)} (R:(Dd k (h+1) t).getD t=T) (J:T.place=0) (M:T.dig=[]) (I:T.es=A'.map Prod.fst++(Hg l r D++B'.map Prod.fst))
  (L:rl2++(nz l.place++nz r.place)=rl++Jq k (h+1) t):∃Q G,To w wf x b bp bw m v wv rk lk top rv ch rl k (h+1) n t (Ad n ev++Dn (A++y::B)) (Cs (A++y::B)) s F Q G:=by
 have hz:=o.kp.size;have nd:=d.nd;refine⟨_,_,o.ri.fin (A':=A') (B':=B') (X:=X) (N:=N) (evf:=ev') H R (by rw[I,<-d.fst];simp) (by rw[J,M];simpa using nd) d.kid d.pw (fun z i j f=>⟨?_,(d.new z i j f).2.1⟩) (by have:=d.lk;omega) ?_ (fun j f=>⟨?_,fun z i g=>(d.new z i j g).2.2 f,(d.evn j f).2⟩) (L▸d.wk) (o.rnew.trans d.rnew hz) (fun z i=>?_)⟩
 ·rcases(d.new z i j f).1 with g|g|g
  ·exact p j (.inl g)
  ·exact p j (.inr g)
  ·exact .inr (by omega)
 ·refine(o.kp.mono (fun j f=>?_)).step d.kp (fun j f=>?_)
  ·rcases As.1 f with g|g
   ·exact Bl _ g
   ·rcases As.1 g with g|g
    ·exact Bg _ (Bl _ g)
    ·exact Bg _ (Bg _ (Iw.2 ⟨_,K,g⟩))
  ·rcases As.1 f with g|g
   ·simp only[An,Al,Bf]at g;rcases g with rfl|g
    ·exact .inl (Bl _ (by simp[An]))
    ·rcases o.rnew j g with e|e
     ·exact .inl (Bl _ (by simp[An,e]))
     ·exact .inr e
   ·rcases As.1 g with g|g
    ·exact .inl (Bg _ (Bl _ g))
    ·rcases p j (As.1 g)with⟨x,P,e⟩|e
     ·exact .inl (Bg _ (Bg _ (Iw.2 ⟨x,P,e⟩)))
     ·exact .inr e
 ·exact(d.evn j f).1.imp id (fun e=>by omega)
 ·have O:N≠[]:=fun e=>by
   have:=d.fst;rw[e]at this;unfold Hg at this;split at this
   ·cases this
   ·split at this<;>cases this
  obtain⟨a,U,rfl⟩:=Xt O;have:a∈[z]:=by rw[<-i];simp
  rw[<-Jc.1 this];exact d.ld a (by simp)
end
theorem Xe (p:Nat):(nz p).length<=1:=by unfold nz;split<;>simp
theorem Ari {α:Type}(es:List (By×Es α))(i:Nat):(Ua es i).length<=2:=by
 unfold Ua;split
 ·rename_i l r _ _;have:=Xe l.2.place;have:=Xe r.2.place;rw[Bb];omega
 ·simp
theorem Aju (k:By):∀(h:Nat) (t:Nd h),(Nh k h t).length<=3*h+1
 |0,t=>by rw[Nh];have:=Xe t.place;omega
 |h+1,t=>by
  rw[Nh];split
  ·simp
  ·rename_i e _;split
   ·simp
   ·rename_i c _;have h1:=Aju k h e.2;have h2:=Xe t.place;have a:=Ari (t.es.set (Dk k (Be t.es)) (e.1,c)) (Dk k (Be t.es));simp only[Bb];split
    ·omega
    ·simp only[Ov];omega
theorem Aob (k:By)(h:Nat)(t:Nd h):(Jq k h t).length<=3*h+1:=by
 unfold Jq;split
 ·exact Aju k h t
 ·simp
theorem Avj (x:DX)(b bp bw:Nat)(m:DM)(v:VM)(wv:Value)(rk:By)(top:Value)(ch:Bool)(k:By)(h:Nat)(ih:Adq x b bp bw m v wv rk top ch k h):Adq x b bp bw m v wv rk top ch k (h+1):=by
 intro n t S U lk rv rl w hw ck hd Q ap aq b2 ca cy ac I;obtain⟨ev,L,u,O,rfl,rfl⟩:=ck;have c0:=O.nd.node.c0;have ai:bw∉Ad n ev:=fun g=>hd bw (Bl _ g) (by simp[An]);obtain⟨az,e0,bk,a0,a8,cj,cl⟩:=Tc k h t ap b2 aq;have a4:L.length=t.es.length:=by rw[u];simp
 obtain⟨A,a,B,cm,ag⟩:=An1 L (Dk k (Be t.es)) (by rw[a4,<-a8,a0];simp);subst cm
 have b3:a.1=e0/\A.map Prod.fst=az/\B.map Prod.fst=bk:=by
  have e:A.map Prod.fst++a.1::B.map Prod.fst=az++e0::bk:=by rw[<-a0,u];simp
  have cn:(A.map Prod.fst).length=az.length:=by rw[Fi,ag,a8]
  obtain⟨h1,h2⟩:=List.append_inj e cn
  injection h2 with ct cp
  exact⟨ct,h1,cp⟩
 have aj:∀z,z∈A\/z∈B->Gl z.1:=fun z hz=>(Gg.1 ap) z.1 (by rw[u];exact List.mem_map_of_mem (by rcases hz with g|g<;>simp[g]));have ao:Gl a.1:=(Gg.1 ap) a.1 (by rw[u];simp)
 have bf:Ba (flat h a.1.2):=by
  have cr:flat (h+1) t=az.flatMap (fun e=>flat h e.2)++(flat h e0.2++bk.flatMap (fun e=>flat h e.2)):=by show t.es.flatMap _=_;rw[a0,Gh,Da]
  rw[cr]at aq;rw[b3.1];exact(Dc.1 (Dc.1 aq).2.1).1
 have bi:t.es[Dk k (Be t.es)]?=some a.1:=by rw[<-ag,u];simp
 have ay:2<=(A++a::B).length:=by
  rcases ca with g|g
  ·cases g
  ·rw[a4];exact g
 have cf:En ((A++a::B).map Ao)=Be t.es:=by rw[Ano,u]
 have al:(A++a::B).length<=5:=by omega
 have a5:a.2.U<=Cs (A++a::B):=by rw[Ly,Rq];omega
 have a9:=Aa (Ahv n false t.place t.dig _ ev k w O.nd (by simp) (by rw[Fi];omega));rw[cf,<-ag]at a9;have b7:=Aa (Aqx hw.env O ao (by omega) (by omega) ai (fun z hz g=>hd bw (Bg _ (Iw.2 ⟨z,hz,g⟩)) (by simp[An])));have Y:=Aa (Ab hw (Ab O (Ab hd (Ab Q (Ab ai (Ab ac I))))));have o:=Aa (Ab ao (Ab bf (Ab aj (Ab bi (Ab ay (Ab al u))))));have ae:=Aa ag;clear hw O hd Q ap aq b2 ca cy ac I ai a0 a8 cj cl a4 b3 aj ao bf bi ay cf al u ag a5;go_enter Tryz.func112,Tryz.ntmps112;go_wp2_with fail;refine a9.o.mono ?_;rintro r cq ⟨rfl,bu⟩;rw[bu];clear bu cq a9;go_wp2_with fail;refine b7.o.mono ?_;rintro r w1 ⟨c,E,H,a1,rfl,bx,br,b0,cb,k1,nSc⟩;obtain⟨hw,O,hd,Q,ai,ac,I⟩:=Y.o;have cu:=k1.size
 have be:Wk w1 x b bp bw m v wv rk a1 top rv ch rl:=hw.step k1 (fun j l=>by
   simp only[Al,Bf]at l;rcases l with rfl|e
   ·exact .inl hw.env.o
   ·exact .inl (Q j (Bl _ (by simp[Ad,e])))) (hw.wk.up b0) (Bm hw.row k1 (fun j l g=>by
   simp only[Al,Bf]at g;rcases g with e|e
   ·exact hw.rne j l e
   ·exact hd j (Bl _ (by simp[Ad,e])) (by simp[An,l]))) (fun j l=>.inl l) hw.rne
 have bs:t.es=(A++((a.1,(⟨some c,E,H⟩:Kd))::B)).map Prod.fst:=by rw[o.o.2.2.2.2.2.2];simp
 have bh:Vg w w1 x b bp bw m v wv rk lk top rv ch rl h n t ev A B a c E H a1:=⟨hw,be,br,bs,nSc,k1,hd,Q,cb,ac⟩;have bm:=fun j (l:j∈E)=>bh.src (z:=(a.1,(⟨some c,E,H⟩:Kd))) (by simp) l;have a5:a.2.U<=Cs (A++a::B):=by rw[Ly,Rq];omega
 have bc:=Aa (ih c a.1.2 E H a1 rv rl w1 be bx (fun j l=>(bm j l).2.1) (fun j l=>(bm j l).2.2.1) o.o.1.1.1 o.o.2.1 o.o.1.1.ne (.inr o.o.1.1.2.1) o.o.1.1.2.2 (by omega) (by omega));have am:=Aa bh;clear hw O hd Q ai ac I bx br b0 cb k1 nSc cu be bs bh bm a5 b7 ih c0;go_wp2_with fail;refine bc.o.mono ?_;rintro r w2 ⟨rfl,cd,co,b6,bo,ro⟩;have G:=am.o.below ro;have f:=Axs o.o.2.2.2.1
 cases hr:Dd k h a.1.2 with
 |none=>
  rw[hr]at G f;simp only[Option.getD_none]at G;simp only[Option.map_none]at f;have ci:Jq k h a.1.2=[]:=by unfold Jq;rw[hr];rfl
  have b4:Jq k (h+1) t=[]:=by unfold Jq;rw[f];rfl
  obtain⟨D,C,y⟩:=G.one (wf:=w2) (k:=k) (key:=a.1.1) (X:=[]) (T:=t) (Kp.refl _ _) (by simp) (by rw[ci,b4]) (by rw[f];rfl) (by rw[am.o.es];simp) (by have:=G.nd;simpa [Ao]using this);have Z:=Aa (Ab f y);simp only[Option.isSome_none];clear G f ci b4 y ro bc Y o ae am;go_wp2_with fail;go_ret2;rw[Z.o.1];exact⟨rfl,cd,co,D,C,Z.o.2⟩
 |some d=>
  rw[hr]at G f;simp only[Sp]at f;have K:=Acf k h a.1.2 d o.o.1.1.1 o.o.2.1 o.o.1.1.ne (.inr o.o.1.1.2.1) hr;have s:=A07 o.o.2.2.2.1 hr;have ad:=Akb k h _ _ hr;have V:=Aob k h a.1.2;have aa:Jq k h a.1.2=Nh k h a.1.2:=by unfold Jq;rw[hr];rfl
  have ba:=Aa (G.callRenew (by have:=Y.o.2.2.2.2.2.2;rw[Bb];omega));have bl:=Aa (Ab hr (Ab f (Ab K (Ab s (Ab ad (Ab V aa))))));simp only[Option.isSome_some];clear G f K s ad V aa ro hr bc;go_wp2_with fail;refine ba.o.mono ?_;rintro r cw ⟨rfl,cz,p⟩;obtain⟨hr,f,K,s,ad,V,aa⟩:=bl.o;rw[aa]at p V;simp only[Option.getD_some]at p;obtain⟨c2,c6,av,_,I,_,_⟩:=p.tr.top;obtain⟨c4,cc,a6⟩:=Aao av.own;have ce:=av.node.c3;rw[a6,I]at ce;have ah:Jq k (h+1) t=Nh k (h+1) t:=by unfold Jq;rw[f];rfl
  have ar:=K.l1;have b1:=K.l2;have bt:=o.o.1.1.2;by_cases W:d.es.length<2
  ·rw[if_pos W]at s
   have bn:=Aa (show Cl 131 #[.pointer (some ⟨bw,0,none⟩),.pointer (some ⟨n,0,none⟩),.int .i64 (A.length:Int)] cw fun e w'=>e=.returned (.int .i64 0)/\∃J M D C,To w w' x b bp bw m v wv rk lk top rv ch rl k (h+1) n t (Ad n ev++Dn (A++a::B)) (Cs (A++a::B)) J M D C from by
    obtain⟨ao,bf,aj,bi,ay,al,u⟩:=o.o;have ab:=ae.o;have c7:=p.ri.lid;have c9:=p.ri.lke;have c8:=p.lke;have c3:=Y.o.2.2.2.2.2.2;have c5:=Xe t.place;have b5:d.es≠[]:=fun e=>by rw[e]at ar;simp at ar;omega
    have af:t.es.set (Dk k (Be t.es)) (a.1.1,d)=A.map Prod.fst++(a.1.1,d)::B.map Prod.fst:=by
     rw[<-ab,u,Lw,Db];have:A.length=(A.map (Prod.fst:EK h->By×Nd h)).length:=by simp
     rw[this,Nj]
    rw[if_pos W,af,<-ab]at f;rw[af,<-ab]at s
    cases B with
    |cons z B'=>
     have P:=aj z (.inr (by simp))
     have ha:Jp (A.map Prod.fst++(a.1.1,d)::(z::B').map Prod.fst) A.length=(A.map (Prod.fst:EK h->By×Nd h)).length:=by have:=Ax3 (A.map (Prod.fst:EK h->By×Nd h)) (B'.map Prod.fst) (a.1.1,d) z.1;simpa using this
     have ak:=Add (A.map Prod.fst++(a.1.1,d)::(z::B').map Prod.fst) (A.map Prod.fst) (B'.map Prod.fst) (a.1.1,d) z.1 A.length (by simp) ha;have bg:=Aqo (A.map Prod.fst++(a.1.1,d)::(z::B').map Prod.fst) (A.map Prod.fst) (B'.map Prod.fst) (a.1.1,d) z.1 A.length (by simp) ha;have a3:((A.map (Prod.fst:EK h->By×Nd h)).length==A.length)=true:=by simp
     rw[a3]at ak;rw[ak]at f;rw[bg]at s;have cv:a.2.U+z.2.U<=Cs (A++a::z::B'):=by rw[Ly,Rq,Rq];omega
     refine(Ap4 true A.length (p.msR P) (by simp) (by simp at al⊢;omega) (by omega) (by simp only[Bb];omega) b5 P.1.ne (by omega) P.1.2.2).mono ?_;rintro e w' ⟨rfl,N,J,M,ev',bd⟩
     obtain⟨D,C,y⟩:=p.mend bd (k:=k) (A':=A) (B':=B') (X:=[(a.1,(⟨some c,E,H⟩:Kd)),z]) (by simp) (by simp) (fun j l=>by
      rcases l with g|g
      ·exact(p.new j g).1.imp (fun e=>⟨_,Qu,e⟩) id
      ·exact .inl ⟨z,by simp,g⟩) (by simp only[Cs,Db,Lc,Jy,List.sum_nil];omega) (T:=⟨0,[],A.map Prod.fst++(Hg d z.1.2 true++B'.map Prod.fst)⟩) (by rw[f];rfl) rfl rfl rfl (by rw[ah,s];simp only[Cw])
     exact⟨rfl,J,M,D,C,y⟩
    |nil=>
     rcases List.eq_nil_or_concat A with rfl|⟨A',z,an⟩
     ·simp at ay
     ·rw[List.concat_eq_append]at an;subst an;have P:=aj z (.inl (by simp));have an:(A'++[z]).length=A'.length+1:=by simp
      rw[an]at f s⊢;have bb:(A'++[z]).map Prod.fst++(a.1.1,d)::([]:List (EK h)).map Prod.fst=A'.map Prod.fst++z.1::(a.1.1,d)::[]:=by simp
      have ha:Jp ((A'++[z]).map Prod.fst++(a.1.1,d)::([]:List (EK h)).map Prod.fst) (A'.length+1)=(A'.map (Prod.fst:EK h->By×Nd h)).length:=by have:=A1x (A'.map (Prod.fst:EK h->By×Nd h)) z.1 (a.1.1,d);rw[bb];simpa using this
      have ak:=Add ((A'++[z]).map Prod.fst++(a.1.1,d)::([]:List (EK h)).map Prod.fst) (A'.map Prod.fst) [] z.1 (a.1.1,d) (A'.length+1) bb ha;have bg:=Aqo ((A'++[z]).map Prod.fst++(a.1.1,d)::([]:List (EK h)).map Prod.fst) (A'.map Prod.fst) [] z.1 (a.1.1,d) (A'.length+1) bb ha;have a3:((A'.map (Prod.fst:EK h->By×Nd h)).length==A'.length+1)=false:=by simp
      rw[a3]at ak;rw[ak]at f;rw[bg]at s;have cv:a.2.U+z.2.U<=Cs (A'++[z]++[a]):=by rw[Ly,Ly,Rq,Rq];omega
      refine(Ap4 false (A'.length+1) (p.msL P) (by simp) (by simp at al⊢;omega) (by omega) (by simp only[Bb];omega) P.1.ne b5 P.1.2.2 (by omega)).mono ?_;rintro e w' ⟨rfl,N,J,M,ev',bd⟩
      obtain⟨D,C,y⟩:=p.mend bd (k:=k) (A':=A') (B':=[]) (X:=[z,(a.1,(⟨some c,E,H⟩:Kd))]) (by simp) (by simp) (fun j l=>by
       rcases l with g|g
       ·exact .inl ⟨z,by simp,g⟩
       ·exact(p.new j g).1.imp (fun e=>⟨_,Nb _ Qu,e⟩) id) (by simp only[Cs,Db,Lc,Jy,List.sum_nil];omega) (T:=⟨0,[],A'.map Prod.fst++(Hg z.1.2 d false++[])⟩) (by rw[f];rfl) rfl rfl rfl (by rw[ah,s];simp only[Cw])
      exact⟨rfl,J,M,D,C,y⟩)
   have c1:(d.es.length:Int)<2:=by omega
   have a7:=Aa f;clear p hr f K s ad V aa av I a6 ah ar b1 bt W ba bl Y o ae am;generalize d.es.length=CL at*;go_wp2_with fail;refine bn.o.mono ?_;rintro r a2 ⟨rfl,J,M,D,C,y⟩;have Z:=Aa y;clear y bn;go_wp2_with fail;go_ret2;rw[a7.o];exact⟨rfl,J,M,D,C,Z.o⟩
  ·rw[if_neg W]at s;obtain⟨a2,aw,au,ax,cap,cs,R⟩:=Acp (i:=A.length) p.nd (by simp) p.tr;have ab:=ae.o;have u:=o.o.2.2.2.2.2.2
   have af:t.es.set (Dk k (Be t.es)) (d.least,d)=A.map Prod.fst++(d.least,d)::B.map Prod.fst:=by
    rw[<-ab,u,Lw,Db];have:A.length=(A.map (Prod.fst:EK h->By×Nd h)).length:=by simp
    rw[this,Nj]
   rw[if_neg W,af]at f
   obtain⟨D,C,y⟩:=p.one (wf:=au) (k:=k) (key:=d.least) (T:=⟨0,[],A.map Prod.fst++(d.least,d)::B.map Prod.fst⟩) R.kp (fun j l=>by simp at l;subst l;exact R.mem) (by rw[ah,s];simp) (by rw[f];rfl) (by simp) (by
    have bv:=R.nd
    have e:((A++((a.1,(⟨some c,E,H⟩:Kd))::B)).map Ao).set A.length (Ao ((d.least,d),(⟨some c,b6,bo⟩:Kd)))=(A++([((d.least,d),(⟨some c,b6,bo⟩:Kd))]++B)).map Ao:=by
     rw[Lw,Db];have:A.length=(A.map (Ao (h:=h))).length:=by simp
     rw[this,Nj];simp
    rw[e]at bv
    exact bv)
   have cx:¬(d.es.length:Int)<2:=by omega
   have a7:=Aa f;have Z:=Aa y;have b9:((A++((a.1,(⟨some c,E,H⟩:Kd))::B)).map Ao).length=A.length+(B.length+1):=by simp
   obtain⟨bj,bq⟩:=nmd (A.length+(B.length+1));have Di:=R.cells;rw[b9,bq]at Di;have cg:=Aa Di;have F:=Aa R;have b8:(A.length:Int)<(bj:Int):=by omega
   clear p hr f K s ad V aa av I a6 ah ar b1 bt W ba bl Y o ae am R y af u ab b9 bq Di;generalize d.es.length=CL at*;go_wp2_with fail;refine Gf (Ek [a2,aw,au]) [6,8] (by kernel_rfl) (by kernel_rfl) (by rw[F.o.e0];rfl) ?_;refine Am 0 (.pointer (some ⟨n,0,none⟩)) ?_;refine Am 1 (.pointer (some ⟨n,0,none⟩)) ?_;refine Am 2 (.pointer (some ⟨n,3,none⟩)) ?_;refine Gv 3 (.slice (some ⟨ax,0,none⟩) bj cap) Jt (fun q w hw=>cg.o w hw.mem) ?_;refine Am 4 (.int .i64 (A.length:Int)) ?_;refine Am 5 (.pointer (some ⟨c,0,none⟩)) ?_;refine Gr 6 (.agg cs.toArray) rfl (by kernel_rfl) rfl (Pk a2 aw rfl rfl 114 #[.pointer (some ⟨c,0,none⟩)] (fun _=>by kernel_rfl) F.o.call) ?_;refine Em 7 (.pointer (some ⟨ax,A.length*5,none⟩)) rfl (by kernel_rfl) rfl (fun _=>Cp (fun w=>Xp _ _ _ _ ax bj cap A.length rfl (by kernel_rfl) (by kernel_rfl) b8 w)) ?_;refine Kr 8 rfl (by kernel_rfl) rfl (Kv aw au rfl rfl (by rw[<-F.o.e2];exact Up _ _ 142 _ _ ax (A.length*5) cs rfl (by kernel_rfl) (by kernel_rfl) (by rw[F.o.len];kernel_rfl) F.o.one aw (by rw[F.o.len];exact F.o.there))) ?_;refine Cj.done (by kernel_rfl) fun w' bz=>?_;simp only[Act.put,Cz,Dg,Co];obtain rfl:=bz.eq (w0:=au) rfl;clear bz F cg b8 cx ce;go_wp2_with fail;go_ret2;rw[a7.o];exact⟨rfl,cd,cz,D,C,Z.o⟩
theorem Aj9 (x:DX)(b bp bw:Nat)(m:DM)(v:VM)(wv:Value)(rk:By)(top:Value)(ch:Bool)(k:By):∀h,Adq x b bp bw m v wv rk top ch k h
 |0=>Ayy x b bp bw m v wv rk top ch k
 |h+1=>Avj x b bp bw m v wv rk top ch k h (Aj9 x b bp bw m v wv rk top ch k h)
def Cn:(h:Nat)->Nd h->Ay
 |0,t=>if t.es=[]then none else some ⟨0,t⟩
 |h+1,t=>match t.es with
  | []=>none
  | [e]=>some ⟨h,e.2⟩
  |_=>some ⟨h+1,t⟩
def Gz (k:By):Ay->Ay
 |none=>none
 |some ⟨h,t⟩=>match Dd k h t with
  |none=>some ⟨h,t⟩
  |some a=>Cn h a
def Qp (k:By):Ay->List Nat
 |none=>[]
 |some ⟨h,t⟩=>Jq k h t
def gone (k:By):Ay->Bool
 |none=>false
 |some ⟨h,t⟩=>(Dd k h t).isSome
def Df:Ay->PL
 |none=>[]
 |some ⟨h,t⟩=>flat h t
theorem A4d (h:Nat)(t:Nd h)(hw:Wf h t)(ha:Ba (flat h t))(b:t.es.length<=5):Ep (Cn h t)/\Df (Cn h t)=flat h t:=by
 cases h with
 |zero=>
  by_cases e:t.es=[]
  ·have a:Cn 0 t=none:=by simp only[Cn,e,if_true]
   rw[a];exact⟨trivial,by show []=t.es;rw[e]⟩
  ·have a:Cn 0 t=some ⟨0,t⟩:=by simp only[Cn,e,if_false]
   rw[a];exact⟨⟨hw,e,b,.inl rfl,ha⟩,rfl⟩
 |succ h=>
  match hes:t.es with
  | []=>
   have a:Cn (h+1) t=none:=by simp only[Cn,hes]
   rw[a];exact⟨trivial,by show []=t.es.flatMap _;rw[hes];rfl⟩
  | [e]=>
   have a:Cn (h+1) t=some ⟨h,e.2⟩:=by simp only[Cn,hes]
   rw[a];have hk:=((Gg.1 hw) e (by rw[hes];simp)).1;have c:flat (h+1) t=flat h e.2:=by show t.es.flatMap _=_;rw[hes];simp
   rw[c]at ha⊢;exact⟨⟨hk.1,hk.ne,hk.2.2,.inr hk.2.1,ha⟩,rfl⟩
  |e::e'::l=>
   have a:Cn (h+1) t=some ⟨h+1,t⟩:=by simp only[Cn,hes]
   rw[a];exact⟨⟨hw,by rw[hes];simp,b,.inr (by rw[hes];simp),ha⟩,rfl⟩
theorem Au7 {k:By}{l:PL}(h:Ba l):Ba (Gw k l):=List.Pairwise.sublist List.filter_sublist h
theorem Azy (k:By)(T:Ay)(hr:Ep T):Ep (Gz k T)/\Df (Gz k T)=Gw k (Df T):=by
 cases T with
 |none=>exact⟨trivial,rfl⟩
 |some f=>
  obtain⟨h,t⟩:=f;have a:Kn h t:=hr;unfold Gz;simp only
  cases d:Dd k h t with
  |none=>exact⟨hr,(Uj (Aj0 k h t a.wf a.asc a.ne d)).symm⟩
  |some e=>have b:=Acf k h t e a.wf a.asc a.ne a.two d;have c:=A4d h e b.wf (by rw[b.fl];exact Au7 a.asc) (by have:=b.l2;have:=a.le;omega);exact⟨c.1,c.2.trans b.fl⟩
structure WT (w:World)(x:DX)(b bp bw:Nat)(m:DM)(v:VM)(wv:Value)(rk:By)(lk:Nat)(top rv:Value)(ch:Bool)(rl:List Nat)(T:Ay)(S:List Nat)(U:Nat):Prop where
 wk:Wk w x b bp bw m v wv rk lk top rv ch rl
 tr:Qk w m rk top T S U
 dd:Ck S (An bw rv)
 o:∀j∈S,Dx x b bp wv j
structure Ux (w w':World)(x:DX)(b bp bw:Nat)(m:DM)(v:VM)(wv:Value)(rk:By)(lk:Nat)(rv:Value)(S:List Nat)(U:Nat)(lk':Nat)(top' rv':Value)(ch':Bool)(rl':List Nat)(T':Ay)(S':List Nat)(U':Nat):Prop where
 wt:WT w' x b bp bw m v wv rk lk' top' rv' ch' rl' T' S' U'
 lke:lk'+U'<=lk+U
 kp:Kp (An bw rv++S) w w'
 new:∀j∈S',j∈S\/w.heap.size<=j
 rnew:Hn w rv rv'
theorem A0p (d:Oper)(a:Act)(x:Operand)(b c:Nat)(v:Value)(e:d.op=.load 107 x)(f:a.eval x=.pointer (some ⟨b,c,none⟩))(w:World)(g:w.cell? ⟨b,c,none⟩=some v):
  (execOp a.eval d).run Tryz.prog w=.ok (.value v) w:=by
 unfold execOp;simp only[e,f];clear f e
 go_simp
section
variable {w w1 w2:World}{x:DX}{b bp bw:Nat}{m:DM}{v:VM}{wv:Value}{rk:By}{lk:Nat}{top rv:Value}{ch:Bool}{rl:List Nat}{k:By}{h n:Nat}{t:Nd h}{S:List Nat}{U lk1:Nat}{rv1:Value}{S1:List Nat}{U1:Nat}
theorem To.step (ro:To w w1 x b bp bw m v wv rk lk top rv ch rl k h n t S U lk1 rv1 S1 U1)(o:∀j∈S,Dx x b bp wv j)(hw:Wk w x b bp bw m v wv rk lk top rv ch rl)(hk:Kp [bw] w1 w2){c:Value}{i:Bool}{T':Ay}{f:List Nat}{e:Nat}(p:Dj w2 bw b lk1 c rv1 i)(l:Qk w2 m rk c T' f e)(d:∀j∈f,j∈S1)(q:e<=U1):
  Ux w w2 x b bp bw m v wv rk lk rv S U lk1 c rv1 i (rl++Jq k h t) T' f e:=by
 refine⟨⟨ro.wk.step hk (fun j a=>by simp at a;subst a;exact .inl ro.wk.env.o) p (Bm ro.wk.row hk (fun j a=>by simpa using ro.wk.rne j a)) (fun j a=>.inl a) ro.wk.rne,l,fun j a=>(ro.new j (d j a)).2,fun j a=>?_⟩,by have:=ro.lk;omega,ro.kp.trans (hk.mono (fun j a=>by simp at a;simp[An,a])),fun j a=>(ro.new j (d j a)).1,ro.rnew⟩;rcases(ro.new j (d j a)).1 with g|g
 ·exact o j g
 ·exact hw.env.new g
end
def Wy:Ay->Nat
 |none=>0
 |some ⟨h,_⟩=>h
theorem A3x (x:DX)(b bp bw:Nat)(m:DM)(v:VM)(wv:Value)(rk:By)(ch:Bool)(k:By)(T:Ay)(S:List Nat)(U lk:Nat)(top rv:Value)(rl:List Nat)(w:World)(hw:WT w x b bp bw m v wv rk lk top rv ch rl T S U)(ad:Ep T)(ab:lk+U<=46)(af:rl.length+3*Wy T<=80000):
  Cl 90 #[.pointer (some ⟨bw,0,none⟩),.string ⟨k.toArray⟩] w fun r w'=>r=.returned (.int .i64 0)/\
   ∃ar O az V N,Ux w w' x b bp bw m v wv rk lk rv S U ar O az (ch||gone k T) (rl++Qp k T) (Gz k T) V N:=by
 have c2:=hw.wk.wk.c2
 cases T with
 |none=>
  obtain⟨rfl,rfl,rfl⟩:=hw.tr
  have s:=Aa (show Ux w w x b bp bw m v wv rk lk rv [] 0 lk (.pointer none) rv (ch||gone k none) (rl++Qp k none) (Gz k none) [] 0 from⟨⟨by
   simp only[gone,Qp,Ff,Bool.or_false]
   exact hw.wk,⟨rfl,rfl,rfl⟩,fun _ h=>(by cases h),fun _ h=>(by cases h)⟩,Ak _,Kp.refl _ _,fun _ h=>(by cases h),fun j a=>.inl a⟩)
  clear hw ad ab af;go_enter Tryz.func90,Tryz.ntmps90;go_wp2_with fail;go_ret;exact⟨rfl,lk,_,rv,[],0,s.o⟩
 |some au=>
  obtain⟨h,t⟩:=au;obtain⟨n,rfl,A⟩:=hw.tr;have f:Kn h t:=ad;have P:=Aa (Aj9 x b bp bw m v wv rk (.pointer (some ⟨n,0,none⟩)) ch k h n t S U lk rv rl w hw.wk A hw.dd hw.o f.wf f.asc f.ne f.two f.le ab af);have Q:=Aa (Ab hw (Ab f A));clear hw ad ab af f A;go_enter Tryz.func90,Tryz.ntmps90;go_wp2_with fail;refine P.o.mono ?_;rintro r w1 ⟨rfl,C,H,D,q,ro⟩;obtain⟨hw,f,A⟩:=Q.o;have z:Ck D [bw]:=fun j a g=>by simp at g;subst g;exact(ro.new _ a).2 (by simp[An])
  cases hr:Dd k h t with
  |none=>
   have F:(ch||gone k (some ⟨h,t⟩))=ch:=by simp only[gone,hr,Option.isSome_none,Bool.or_false]
   have G:Gz k (some ⟨h,t⟩)=some ⟨h,t⟩:=by simp only[Gz,hr]
   have p:=ro.tr;rw[hr]at p;have st:=ro.step hw.o hw.wk (w2:=w1) (Kp.refl _ _) (T':=some ⟨h,t⟩) ro.wk.wk ⟨n,rfl,p⟩ (fun j a=>a) (Ak _);have s:=Aa (show Ux w w1 x b bp bw m v wv rk lk rv S U C (.pointer (some ⟨n,0,none⟩)) H (ch||gone k (some ⟨h,t⟩)) (rl++Qp k (some ⟨h,t⟩)) (Gz k (some ⟨h,t⟩)) D q from by rw[F,G];exact st);simp only[Option.isSome_none];clear hw f A z hr F G p st ro P Q c2;go_wp2_with fail;go_ret;exact⟨rfl,C,_,H,D,q,s.o⟩
  |some i=>
   have F:(ch||gone k (some ⟨h,t⟩))=true:=by simp only[gone,hr,Option.isSome_some,Bool.or_true]
   have G:Gz k (some ⟨h,t⟩)=Cn h i:=by simp only[Gz,hr]
   have p:=ro.tr;have lone:=ro.lone;rw[hr]at p lone;simp only[Option.getD_some]at p lone;have aa:=Acf k h t i f.wf f.asc f.ne f.two hr;obtain⟨w2,ag⟩:=nmd (w1.setCell ⟨bw,4,none⟩ (.bool true));have I:Kp [bw] w1 w2:=ag▸(Kp.refl _ w1).setCell bw 4 _ (.inl (by simp));have d:=ro.wk.wk.set4 true;rw[ag]at d;have c4:=ro.wk.wk.c4;have ay:=ro.wk.wk.fr 4;have J:=Au.kp I _ _ _ _ _ p z;have a3:=d.c2;have a1:=d.fr 2;obtain⟨a4,ev,L,_,X,_,_⟩:=J.top;obtain⟨a8,a7,Y⟩:=Aao L.own;have c3:=L.node.c3;have c0:=L.node.c0;rw[Y,X]at c3
   have key:∀(o:World) (O:Value) (T':Ay) (V:List Nat) (N:Nat),Cn h i=T'->Kp [bw] w2 o->Dj o bw b C O H true->Qk o m rk O T' V N->(∀j∈V,j∈D)->N<=q->Ux w o x b bp bw m v wv rk lk rv S U C O H (ch||gone k (some ⟨h,t⟩)) (rl++Qp k (some ⟨h,t⟩)) (Gz k (some ⟨h,t⟩)) V N:=fun o O T' V N e0 e1 e2 e3 a0 av=>by rw[F,G,e0];exact ro.step hw.o hw.wk (I.trans e1) e2 e3 a0 av
   simp only[Option.isSome_some];by_cases y:i.es=[]
   ·have u:Cn h i=none:=by cases h<;>simp[Cn,y]
    obtain⟨o,E⟩:=nmd (w2.setCell ⟨bw,2,none⟩ (.pointer none));have aq:Kp [bw] w2 o:=E▸(Kp.refl _ w2).setCell bw 2 _ (.inl (by simp));have ae:=d.set2 (.pointer none);rw[E]at ae;have s:=Aa (key o (.pointer none) none [] 0 u aq ae ⟨rfl,rfl,rfl⟩ (fun _ h=>by cases h) (Cu _));rw[y]at c3;simp only[Ov]at c3;have aw:=Aa E;clear hw f A z hr F G p lone aa I d J L X Y key y u aq ae ro P Q c2 E c0;go_wp2_with fail;rw[aw.o];go_ret;exact⟨rfl,C,_,H,[],0,s.o⟩
   ·have a2:((i.es.length:Int)==0)=false:=by
     rw[beq_eq_false_iff_ne];have:=Pn.2 y;omega
    cases h with
    |zero=>
     have u:Cn 0 i=some ⟨0,i⟩:=by simp only[Cn,y,if_false]
     have s:=Aa (key w2 _ _ D q u (Kp.refl _ _) d ⟨n,rfl,J⟩ (fun j a=>a) (Ak _));have al:w2.cell? ⟨n,0,none⟩=some (.bool true):=c0;clear hw f A z hr F G p lone aa I d J L X Y key y u ro P Q c2 c0;generalize i.es.length=CL at*;go_wp2_with fail;go_ret;exact⟨rfl,C,_,H,D,q,s.o⟩
    |succ h=>
     have al:w2.cell? ⟨n,0,none⟩=some (.bool false):=c0;by_cases R:i.es.length=1
     ·obtain⟨am,e,c,W,a5,M,inn,rfl,rfl⟩:=lone R;have u:Cn (h+1) i=some ⟨h,e.2⟩:=by simp only[Cn,M]
      have ac:∀j∈Ad n am,j∉[bw]:=fun j a=>z j (Bl _ a);have ao:=inn.nd.kp I (ac n (by simp[Ad])) (fun j a=>ac j (by simp[Ad,a]));have aj:Au w1 m rk h c e.2 W q:=inn.kid (e,(⟨some c,W,q⟩:Kd)) (by simp);have ap:=Au.kp I _ _ _ _ _ aj (fun j a=>z j (Bg _ a));have ak:=Aa (fun(w':World) (hb:Bw w2 w')=>Aht bw n false _ _ _ am 0 (Ao (e,(⟨some c,W,q⟩:Kd))) w' c (ao.below hb) (by simp) rfl (by simp));have an:=Aa (fun(w':World) (hb:Bw w2 w')=>(d.of_block (hb.block bw d.lt)).c2);have ah:=Aa (fun(o Z:World) (hb:Bw w2 o) (K:o.setCell ⟨bw,2,none⟩ (.pointer (some ⟨c,0,none⟩))=Z)=>key Z (.pointer (some ⟨c,0,none⟩)) (some ⟨h,e.2⟩) W q u ((Kp.of_below hb).trans (K▸(Kp.refl _ o).setCell bw 2 _ (.inl (by simp)))) (K▸(d.of_block (hb.block bw d.lt)).set2 _) ⟨c,rfl,Au.kp ((Kp.of_below hb).trans (K▸(Kp.refl _ o).setCell bw 2 _ (.inl (by simp)))) _ _ _ _ _ ap (fun j a=>z j (Bg _ a))⟩ (fun j a=>Bg _ a) (Ak _));have ai:=Aa (fun(w':World) (hb:Bw w2 w')=>Ab (d.of_block (hb.block bw d.lt)).c2 ((d.of_block (hb.block bw d.lt)).fr 2));rw[R]at c3;clear hw f A z hr F G p lone aa I d J L X Y key y u ro P Q c2 c0 ac ao aj ap M inn R a2;go_wp2_with fail;refine Jx (fun w'=>Bw w2 w') (by kernel_rfl) (by kernel_rfl) (Ah _ _).drew ?_;refine Aq 0 (.pointer (some ⟨bw,0,none⟩)) ?_;refine Aq 1 (.pointer (some ⟨bw,0,none⟩)) ?_;refine Aq 2 (.pointer (some ⟨bw,0,none⟩)) ?_;refine Aq 3 (.pointer (some ⟨bw,0,none⟩)) ?_;refine Aq 4 (.pointer (some ⟨bw,0,none⟩)) ?_;refine Aq 5 (.pointer (some ⟨bw,2,none⟩)) ?_;refine Fp 6 (.pointer (some ⟨n,0,none⟩)) A0p (fun w hw=>an.o w hw) ?_;refine Cf 7 (.tuple #[.pointer (some ⟨c,0,none⟩),.int .i64 0]) rfl (by kernel_rfl) rfl (Gb (87) (#[.pointer (some ⟨bw,0,none⟩),.pointer (some ⟨n,0,none⟩),.int .i64 ((0:Nat):Int)]) (fun _=>by kernel_rfl) fun w hw=>(ak.o w hw).mono fun e w2 h=>⟨h.1,hw.trans (h.2.mono hw.size)⟩) ?_;refine Aq 8 (.tuple #[.pointer (some ⟨c,0,none⟩),.int .i64 0]) ?_;refine Aq 9 (.pointer (some ⟨c,0,none⟩)) ?_;refine Aq 10 (.int .i64 0) ?_;refine Aq 11 (.pointer (some ⟨c,0,none⟩)) ?_;refine Aq 12 (.int .i64 0) ?_;refine Dv.done (by kernel_rfl) fun o E=>?_;simp only[Act.put,Cz,Dg,Co];obtain⟨Z,K⟩:=nmd (o.setCell ⟨bw,2,none⟩ (.pointer (some ⟨c,0,none⟩)));have s:=Aa (ah.o o Z E K);obtain⟨e2,e3⟩:=ai.o o E;have ax:=Aa K;clear ah ak an ai E c3 al a3 a1 c4 ay K ag;go_wp2_with fail;rw[ax.o];go_ret;exact⟨rfl,C,_,H,W,_,s.o⟩
     ·have h2:2<=i.es.length:=by
       have:=Pn.2 y;omega
      have u:Cn (h+1) i=some ⟨h+1,i⟩:=by
       match M:i.es with
       | []=>exact absurd M y
       | [e]=>rw[M]at R;exact absurd rfl R
       |e::e'::l=>simp only[Cn,M]
      have s:=Aa (key w2 _ _ D q u (Kp.refl _ _) d ⟨n,rfl,J⟩ (fun j a=>a) (Ak _));have a6:(1:Int)<(i.es.length:Int):=by omega
      clear hw f A z hr F G p lone aa I d J L X Y key y u ro P Q c2 c0 h2 R;generalize i.es.length=CL at*;go_wp2_with fail;go_ret;exact⟨rfl,C,_,H,D,q,s.o⟩
theorem At4 (k s:By)(m:Vc (k,s))(T:Ay)(hr:Ep T):Ep (some (Fl k s T))/\Df (some (Fl k s T))=Eb k s (Df T):=by
 cases T with
 |none=>exact⟨⟨fun e i=>by rw[Jc.1 i];exact m,by simp,by simp,.inl rfl,List.pairwise_singleton _ _⟩,rfl⟩
 |some o=>
  obtain⟨h,t⟩:=o;have c:Kn h t:=hr;have a:=Ahq k s m h t c.wf c.asc c.ne c.le;have n:=Agg (k:=k) (s:=s) c.asc
  cases b:(Cc k s h t).2 with
  |none=>
   have l:Fl k s (some ⟨h,t⟩)=⟨h,(Cc k s h t).1⟩:=by simp only[Fl,b]
   have j:=a.l1 b;have f:=a.fl;rw[b]at f;have d:flat h (Cc k s h t).1=Eb k s (flat h t):=by simpa [Xc]using f
   rw[l];refine⟨⟨a.w1,fun e=>by rw[e]at j;simp at j,j.2.1,?_,by rw[d];exact n⟩,d⟩;rcases c.two with g|g
   ·exact .inl g
   ·exact .inr (by omega)
  |some q=>
   have l:Fl k s (some ⟨h,t⟩)=⟨h+1,⟨0,[],[((Cc k s h t).1.least,(Cc k s h t).1),(q.least,q)]⟩⟩:=by simp only[Fl,b]
   have j:=a.l2 q b;have f:=a.fl;rw[b]at f;have d:flat (h+1) ⟨0,[],[((Cc k s h t).1.least,(Cc k s h t).1),(q.least,q)]⟩=Eb k s (flat h t):=by rw[<-f];simp[flat,Xc]
   rw[l];refine⟨⟨Gg.2 fun e i=>?_,by simp,by simp,.inr (by simp),by rw[d];exact n⟩,d⟩;simp only[Al,Cq,or_false]at i;rcases i with rfl|rfl
   ·exact⟨⟨a.w1,by show 2<=(Cc k s h t).1.es.length;omega,by show(Cc k s h t).1.es.length<=5;omega⟩,rfl⟩
   ·exact⟨⟨a.w2 q b,by show 2<=q.es.length;omega,by show q.es.length<=5;omega⟩,rfl⟩
theorem A0m (x:DX)(b bp bw:Nat)(m:DM)(v:VM)(wv:Value)(rk:By)(ch:Bool)(k s:By)(E:Vc (k,s))(T:Ay)(S:List Nat)(U lk:Nat)(top rv:Value)(rl:List Nat)(w:World)(hw:WT w x b bp bw m v wv rk lk top rv ch rl T S U)(C:Ep T)(u:lk+U<=46)(H:rl.length+3*Wy T<=80000):
  Cl 91 #[.pointer (some ⟨bw,0,none⟩),.string ⟨k.toArray⟩,.string ⟨s.toArray⟩] w fun r w'=>r=.returned (.int .i64 0)/\
   ∃f D p d i,Ux w w' x b bp bw m v wv rk lk rv S U f D p true (rl++Uk k T) (some (Fl k s T)) d i:=by
 cases T with
 |none=>obtain⟨rfl,rfl,rfl⟩:=hw.tr;refine(Arb x b bp bw m v wv rk ch k s lk rv rl w hw.wk).mono ?_;rintro r w' ⟨n,d,rfl,o,l,e,c⟩;have hz:=e.size;exact⟨rfl,lk,_,rv,d,0,⟨⟨by simpa [Uk]using o,⟨n,rfl,l⟩,fun j a g=>by have:=c j a;have:=hw.wk.bound j g;omega,fun j a=>hw.wk.env.new (c j a)⟩,Ak _,e.mono (fun j a=>by simp[a]),fun j a=>.inr (c j a),fun j a=>.inl a⟩⟩
 |some A=>
  obtain⟨h,t⟩:=A;obtain⟨n,rfl,q⟩:=hw.tr;have z:Kn h t:=C;refine(Aw0 x b bp bw m v wv rk ch k s E h n t S U lk rv rl w hw.wk q hw.dd hw.o z u (by have:Wy (some ⟨h,t⟩)=h:=rfl;omega)).mono ?_;rintro r w' ⟨y,d,i,f,p,rfl,o,l,G,e,c,F⟩;refine⟨rfl,f,_,p,d,i,⟨⟨o,⟨y,rfl,l⟩,fun j a=>(c j a).2,fun j a=>?_⟩,by omega,e,fun j a=>(c j a).1,F⟩⟩;rcases(c j a).1 with g|g
  ·exact hw.o j g
  ·exact hw.wk.env.new g
def Hy (m:DM)(rk:By)(v:VM):Ay->Prop
 |none=>v.place=0
 |some ⟨h,t⟩=>v.place=t.place/\v.digest=t.dig/\Cm m rk h t
def Gt:Ay->Nat
 |none=>0
 |some ⟨h,t⟩=>nn h t
theorem Ahi (x:DX)(b bp c:Nat)(m:DM)(v:VM)(wv:Value)(rk:By)(lk:Nat)(w:World)(h:Ai w x b m v wv)(o:v.pv=.pointer (some ⟨bp,0,none⟩))(hk:Eh w bp rk)
  (k:Ma w c b lk) (r:Ce x b wv c) (u:bp≠c) (l:lk<=1000) (q:∀p,p<m.blocks.length->(m.look p).length=256) (hz:v.place≠0):
  Cl 62 #[.pointer (some ⟨c,0,none⟩)] w fun e w'=>Kp [c] w w'/\Gd w w' c (Fa m lk v.place)/\
   ((Fd rk m lk v.place v.digest=none/\e=.returned (.tuple #[.pointer none,.int .i64 8]))\/
    (∃leaf es n ev,Fd rk m lk v.place v.digest=some (leaf,es)/\e=.returned (.tuple #[.pointer (some ⟨n,0,none⟩),.int .i64 0])/\Gx w' n leaf v.place v.digest es ev/\w.heap.size<=n/\(∀j,ev.ownBlock=some j->w.heap.size<=j))):=by
 have y:=h.vault.c8;have c9:=h.vault.c9;have z:=k.c0;have i:=Aa (Ak8 x b bp c m v wv rk v.digest v.place lk w h o hk k r u l q);have A:((v.place:Int)==0)=false:=by rw[beq_eq_false_iff_ne];omega
 clear h o hk k r l q;generalize v.place=p at*;generalize v.digest=d at*;go_enter Tryz.func62,Tryz.ntmps62;go_wp2_with fail;refine i.o.mono ?_;rintro e w1 ⟨f,g,hr⟩;rcases hr with⟨s,rfl⟩|⟨leaf,es,n,ev,t,rfl,hr⟩
 ·have a:=Aa (Ab f (Ab g s));clear f g s i;go_wp2_with fail;go_ret2;exact⟨a.o.1,a.o.2.1,.inl ⟨a.o.2.2,rfl⟩⟩
 ·have a:=Aa (Ab f (Ab g (Ab t hr)));clear f g t hr i;go_wp2_with fail;go_ret2;exact⟨a.o.1,a.o.2.1,.inr ⟨leaf,es,n,ev,a.o.2.2.1,rfl,a.o.2.2.2⟩⟩
theorem Atz {w:World}{x:DX}{b bp d:Nat}{m:DM}{v:VM}{wv:Value}{rk:By}{lk:Nat}(c:Id w x b bp d m v wv rk lk)(T:Ay)(u:Hy m rk v T)(H:lk+Gt T<=46):
  Cl 62 #[.pointer (some ⟨d,0,none⟩)] w fun e w'=>∃top S U q,e=.returned (.tuple #[top,.int .i64 0])/\Gd w w' d q/\Qk w' m rk top T S U/\q+U=lk+Gt T/\Kp [d] w w'/\(∀j∈S,w.heap.size<=j)/\∃a,top=.pointer a:=by
 cases T with
 |none=>refine(Ade x b d m v wv w c.sys u c.vw.c0).mono ?_;rintro e w' ⟨rfl,rfl⟩;exact⟨.pointer none,[],0,lk,rfl,Gd.same c.vw.c1 rfl,⟨rfl,rfl,rfl⟩,rfl,Kp.refl _ _,fun _ h=>(by cases h),none,rfl⟩
 |some i=>
  obtain⟨h,t⟩:=i;obtain⟨g,hd,o⟩:=u;have f:=Oi o;have I:=Yk h t;have A:Gt (some ⟨h,t⟩)=nn h t:=rfl;have r:lk<48:=by omega
  have s:Fd rk m lk v.place v.digest=some (h==0,Cg h t):=by unfold Fd;rw[g,hd,if_pos ⟨f.1,f.2.1,r⟩];exact f.2.2
  have F:Fa m lk v.place=lk+1:=by unfold Fa;rw[g,if_pos ⟨f.1,f.2.1,r⟩]
  refine(Ahi x b bp d m v wv rk lk w c.sys c.pv c.key c.vw c.fv c.bv (by omega) c.bl (by rw[g];have:=f.1;omega)).mono ?_;rintro e w' ⟨D,k,hr⟩;rcases hr with⟨p,_⟩|⟨leaf,es,n,ev,y,rfl,l,E,z⟩
  ·rw[s]at p;cases p
  ·rw[s]at y;cases y;rw[g,hd]at l;rw[F]at k;obtain⟨S,U,i,J,C⟩:=Au.load l o
   exact⟨_,S,U,lk+1,rfl,k,⟨n,rfl,i⟩,by rw[A];omega,D,fun j G=>by
    have:=C j G;simp only[Ad,Al,Bf]at this;rcases this with rfl|e
    ·exact E
    ·exact z j e,_,rfl⟩
structure Ag where
 key:By
 value:By
 gone:Bool
def Ag.cells (c:Ag):List Value:=[Ac c.key,Ac c.value,.bool c.gone]
def Pt (cs:List Ag):List Value:=cs.flatMap Ag.cells
theorem Aod:∀(cs:List Ag) (i j:Nat) (c:Ag),cs[i]?=some c->j<3->(Pt cs)[i*3+j]?=c.cells[j]?
 | [],i,j,c,h,_=>by simp at h
 |a::cs,0,j,c,h,hj=>by
  simp at h;subst h;simp only[Pt,Da];rw[Ja (by show 0*3+j<3;omega)]
  congr 1;omega
 |a::cs,i+1,j,c,h,hj=>by
  simp only[Ab7]at h;have ih:=Aod cs i j c h hj;simp only[Pt,Da]at ih⊢;rw[If (by show 3<=(i+1)*3+j;omega),<-ih]
  congr 1
  show(i+1)*3+j-3=_;omega
abbrev Hq (w:World)(cv:Value)(cs:List Ag):Prop:=w.ownsRow 0 100 3 cv cs.length (Pt cs)
theorem Hq.row {w:World}{cv:Value}{cs:List Ag}(h:Hq w cv cs)(h0:cs≠[]):∃g cap,cv=.slice (some ⟨g,0,none⟩) cs.length cap/\(∀i c,cs[i]?=some c->∀j,j<3->w.cell? ⟨g,i*3+j,none⟩=c.cells[j]?):=by
 rcases h.2 with⟨_,f⟩|⟨g,cap,cur,d,_,hb,m,l,k,b⟩
 ·exact absurd (Ls.1 f) h0
 ·refine⟨g,cap,d,fun i c a j e=>?_⟩;have n:i<cs.length:=(Ds.1 a).1;rw[cell_of_row _ _ _ _ _ _ hb,<-Aod cs i j c a e,<-b,Ml (by omega)];simp
structure Kl where
 top:Ay
 rl:List Nat
 ch:Bool
def Hj (s:Kl)(c:Ag):Kl:=if c.gone then⟨Gz c.key s.top,s.rl++Qp c.key s.top,s.ch||gone c.key s.top⟩else⟨some (Fl c.key c.value s.top),s.rl++Uk c.key s.top,true⟩
def Bt (s:Kl)(cs:List Ag):Kl:=cs.foldl Hj s
theorem A3z (s:Kl)(cs:List Ag)(j:Nat)(c:Ag)(h:cs[j]?=some c):Bt s (cs.take (j+1))=Hj (Bt s (cs.take j)) c:=by
 have:cs.take (j+1)=cs.take j++[c]:=by rw[Nv,h];rfl
 unfold Bt;rw[this,List.foldl_append];rfl
def Ca (l:PL)(c:Ag):PL:=if c.gone then Gw c.key l else Eb c.key c.value l
theorem Adr:∀(h:Nat) (t:Nd h),Wf h t->t.es≠[]->h+1<=nn h t
 |0,t,_,_=>by simp[nn]
 |h+1,t,hw,hn=>by obtain⟨e,l,a⟩:=Xt hn;have hk:=((Gg.1 hw) e (by rw[a];simp)).1;have ih:=Adr h e.2 hk.1 hk.ne;unfold nn;rw[a,Db,Jy];omega
theorem Apj (T:Ay)(hr:Ep T):Wy T<=(Df T).length:=by
 cases T with
 |none=>exact Cu _
 |some b=>obtain⟨h,t⟩:=b;have a:Kn h t:=hr;have h1:=Adr h t a.wf a.ne;have h2:=Afk h t a;show h<=(flat h t).length;omega
theorem Akg (k:By):∀(h:Nat) (t:Nd h),(Jw k h t).length<=h+1
 |0,t=>by rw[Jw];have:=Xe t.place;omega
 |h+1,t=>by
  rw[Jw,Bb];have:=Xe t.place;split
  ·simp only[Ov];omega
  ·rename_i e _;have:=Akg k h e.2;omega
def Sy (c:Ag):Prop:=c.gone=false->Vc (c.key,c.value)
theorem Afl (k:By)(l:PL):(Gw k l).length<=l.length:=Tv _ _
theorem Adg (s:Kl)(c:Ag)(e:Sy c)(hr:Ep s.top):Ep (Hj s c).top/\Df (Hj s c).top=Ca (Df s.top) c/\(Df (Hj s c).top).length<=(Df s.top).length+1/\(Hj s c).rl.length<=s.rl.length+(3*Wy s.top+1):=by
 unfold Hj Ca
 cases d:c.gone with
 |true=>
  simp only[if_true];obtain⟨h1,h2⟩:=Azy c.key s.top hr;refine⟨h1,h2,?_,?_⟩
  ·rw[h2];have:=Afl c.key (Df s.top);omega
  ·rw[Bb]
   cases b:s.top with
   |none=>simp[Qp]
   |some a=>obtain⟨h,t⟩:=a;have:=Aob c.key h t;simp only[Qp,Wy];omega
 |false=>
  simp only[Ng,if_false];obtain⟨h1,h2⟩:=At4 c.key c.value (e d) s.top hr;refine⟨h1,h2,?_,?_⟩
  ·rw[h2];have:=Yi c.key c.value (Df s.top);omega
  ·rw[Bb]
   cases b:s.top with
   |none=>simp[Uk]
   |some a=>obtain⟨h,t⟩:=a;have:=Akg c.key h t;simp only[Uk,Wy];omega
theorem Zo (s:Kl):∀(cs:List Ag) (n:Nat),(∀c∈cs,Sy c)->Ep s.top->(Df s.top).length<=n->n+cs.length<=1000->Ep (Bt s cs).top/\Df (Bt s cs).top=cs.foldl Ca (Df s.top)/\(Df (Bt s cs).top).length<=n+cs.length/\(Bt s cs).rl.length<=s.rl.length+cs.length*3001
 | [],n,_,hr,hn,_=>⟨hr,rfl,hn,by simp[Bt]⟩
 |c::cs,n,hc,hr,hn,hl=>by obtain⟨h1,h2,f,i⟩:=Adg s c (hc c (by simp)) hr;simp only[Fh]at hl;have hh:=Apj s.top hr;obtain⟨b,a,h,g⟩:=Zo (Hj s c) cs (n+1) (fun d hd=>hc d (by simp[hd])) h1 (by omega) (by omega);have e:Bt s (c::cs)=Bt (Hj s c) cs:=rfl;rw[e];refine⟨b,by rw[a,h2];rfl,by simp only[Fh];omega,?_⟩;simp only[Fh];omega
structure Oe (w w':World)(x:DX)(b bp bw:Nat)(m:DM)(v:VM)(wv:Value)(rk:By)(lid:Nat)(rv:Value)(s:Kl)(lk:Nat)(top rv':Value)(S:List Nat)(U:Nat):Prop where
 wt:WT w' x b bp bw m v wv rk lk top rv' s.ch s.rl s.top S U
 lke:lk+U<=lid
 kp:Kp (An bw rv) w w'
 new:∀j∈S,w.heap.size<=j
 rnew:Hn w rv rv'
section
variable {w w' w2:World}{x:DX}{b bp bw:Nat}{m:DM}{v:VM}{wv:Value}{rk:By}{lid:Nat}{rv:Value}{s s':Kl}{lk:Nat}{top rv':Value}{S:List Nat}{U:Nat}
theorem WT.below {top:Value}{ch:Bool}{rl:List Nat}{T:Ay}(h:WT w x b bp bw m v wv rk lk top rv ch rl T S U)(hb:Bw w w2):WT w2 x b bp bw m v wv rk lk top rv ch rl T S U:=
 ⟨h.wk.kp (Kp.of_below hb:Kp [] w w2) (by simp) (fun _ h=>by cases h),h.tr.kp (Kp.of_below hb:Kp [] w w2) (fun _ _=>by simp),h.dd,h.o⟩
theorem Oe.below (h:Oe w w' x b bp bw m v wv rk lid rv s lk top rv' S U)(hb:Bw w' w2):Oe w w2 x b bp bw m v wv rk lid rv s lk top rv' S U:=⟨h.wt.below hb,h.lke,h.kp.trans (Kp.of_below hb),h.new,h.rnew⟩
theorem Oe.step (h:Oe w w' x b bp bw m v wv rk lid rv s lk top rv' S U){f:Nat}{i d:Value}{k:List Nat}{l:Nat}(a:Ux w' w2 x b bp bw m v wv rk lk rv' S U f i d s'.ch s'.rl s'.top k l):Oe w w2 x b bp bw m v wv rk lid rv s' f i d k l:=by
 have hz:=h.kp.size;refine⟨a.wt,by have:=a.lke;have:=h.lke;omega,h.kp.step a.kp (fun j c=>?_),fun j c=>?_,h.rnew.trans a.rnew hz⟩
 ·rcases As.1 c with g|g
  ·simp only[An,Al,Bf]at g⊢;rcases g with e|e
   ·exact .inl (.inl e)
   ·exact(h.rnew j e).imp .inr id
  ·exact .inr (h.new j g)
 ·rcases a.new j c with g|g
  ·exact h.new j g
  ·omega
end
theorem Au5 (x:DX)(b bp bw:Nat)(m:DM)(v:VM)(wv:Value)(rk:By)(ch:Bool)(T:Ay)(cs:List Ag)(lk:Nat)(top rv cv:Value)(rl:List Nat)(w:World)(hw:Wk w x b bp bw m v wv rk lk top rv ch rl)(ay:Hy m rk v T)(u:Ep T)(p:lk+Gt T<=46)(o:Hq w cv cs)(q:∀j,cv.ownBlock=some j->j∉An bw rv)(l:cs≠[])(n:∀c∈cs,Sy c)(y:cs.length<=16)(t:(Df T).length<=300)(z:rl.length<=1000):
  Cl 66 #[.pointer (some ⟨bw,0,none⟩),cv] w fun r w'=>r=.returned (.int .i64 0)/\∃d k rv' h f,Oe w w' x b bp bw m v wv rk (lk+Gt T) rv (Bt ⟨T,rl,ch⟩ cs) d k rv' h f:=by
 obtain⟨g,cap,au,_⟩:=o.row l;have a3:1<=cs.length:=Pn.2 l;have U:((cs.length:Int)==0)=false:=by rw[beq_eq_false_iff_ne];omega
 have az:=Aa (Atz hw.env T ay p);have M:=Aa (Ab hw (Ab o (Ab q (Ab l (Ab n (Ab y (Ab t (Ab z (Ab u p)))))))));obtain⟨N,ao⟩:=nmd (cs.length);rw[ao]at au U;have K:=Aa ao;have bc:N<=16:=by omega
 subst au;clear hw ay u p o q l n y t z a3 ao;go_enter Tryz.func66,Tryz.ntmps66;go_wp2_with fail;refine az.o.mono ?_;rintro r w1 ⟨bd,a2,a7,a1,rfl,ar,ap,a8,k1,n1,⟨ai,rfl⟩⟩;obtain⟨hw,o,q,l,n,y,t,z,u,p⟩:=M.o;have wk1:=hw.wk.up ar;have c2:=wk1.c2;have f2:=wk1.fr 2;obtain⟨w2,X⟩:=nmd (w1.setCell ⟨bw,2,none⟩ (.pointer ai));have al:Kp [bw] w1 w2:=X▸(Kp.refl _ w1).setCell bw 2 _ (.inl (by simp));have af:=wk1.set2 (.pointer ai);rw[X]at af;have V:=k1.trans al;have a6:=hw.wk.lt;have a0:Oe w w2 x b bp bw m v wv rk (lk+Gt T) rv ⟨T,rl,ch⟩ a1 (.pointer ai) rv a2 a7:=⟨⟨hw.step V (fun j a=>by simp at a;subst a;exact .inl hw.env.o) af (Bm hw.row V (fun j a=>by simpa using hw.rne j a)) (fun j a=>.inl a) hw.rne,ap.kp al (fun j a g=>by simp at g;subst g;have:=n1 _ a;omega),fun j a g=>by have:=n1 j a;have:=hw.bound j g;omega,fun j a=>hw.env.new (n1 j a)⟩,by omega,V.mono (fun j a=>by simp at a;simp[An,a]),n1,fun j a=>.inl a⟩;have Y:=Aa (show ∃d k rv' h f,Oe w w2 x b bp bw m v wv rk (lk+Gt T) rv (Bt ⟨T,rl,ch⟩ (cs.take 0)) d k rv' h f from⟨_,_,_,_,_,a0⟩);have aq:=Aa X;clear hw o q l n y t z u p wk1 al af V a0 ar ap a8 k1 n1 az a6;go_wp2_with fail
 go_loopw [6,7,8] (fun e i _ wr=>e=.int .i64 0/\∃j:Nat,i=.int .i64 (j:Int)/\j<=N/\∃d k rv' h f,Oe w wr x b bp bw m v wv rk (lk+Gt T) rv (Bt ⟨T,rl,ch⟩ (cs.take j)) d k rv' h f) (fun _ i _ _=>(20-intOf i).toNat)
 case atStart=>exact⟨rfl,0,rfl,Cu _,by first|exact Y.o|(rw[aq.o];exact Y.o)⟩
 case round=>
  obtain⟨rfl,j,rfl,a,d,k,rv',h,f,C⟩:=hrel;clear Y aq c2 f2 X;obtain⟨hw,o,q,l,n,y,t,z,u,p⟩:=M.o;obtain⟨r1,r2,r3,r4⟩:=Zo ⟨T,rl,ch⟩ (cs.take j) 300 (fun c ba=>n c (Nc ba)) u t (by rw[Fr];omega);rw[Fr]at r3 r4;dsimp only at r4;have aj:=Apj _ r1;by_cases R:j<N
  ·have an:j<cs.length:=by rw[K.o];exact R
   obtain⟨c,F⟩:∃c,cs[j]?=some c:=⟨_,Az an⟩;have aa:Hq wr (.slice (some ⟨g,0,none⟩) N cap) cs:=Bm o C.kp q;obtain⟨bf,bg,a9,H⟩:=aa.row l;cases a9;have o0:wr.cell? ⟨g,j*3,none⟩=some (Ac c.key):=H j c F 0 (by decide);have o1:wr.cell? ⟨g,j*3+1,none⟩=some (Ac c.value):=H j c F 1 (by decide);have G:wr.cell? ⟨g,j*3+2,none⟩=some (.bool c.gone):=H j c F 2 (by decide);have be:(j:Int)<(cs.length:Int):=by omega
   have ac:=n c (Hs F);have ad:=A3z ⟨T,rl,ch⟩ cs j c F;obtain⟨S,s⟩:=nmd (wr.alloc (.cells #[Ac c.key,Ac c.value,.bool c.gone] 100));have Z:Bw wr S:=s▸(Ah _ _).alloc (Ak _) _;have L:=C.below Z
   have ag:∀E s',Hj (Bt ⟨T,rl,ch⟩ (cs.take j)) c=s'->(∃ak am ae ah ab,Ux S E x b bp bw m v wv rk d rv' h f ak am ae s'.ch s'.rl s'.top ah ab)->∃d k rv' h f,Oe w E x b bp bw m v wv rk (lk+Gt T) rv (Bt ⟨T,rl,ch⟩ (cs.take (j+1))) d k rv' h f:=fun E s' bb A=>by obtain⟨ak,am,ae,ah,ab,a4⟩:=A;rw[ad,bb];exact⟨ak,am,ae,ah,ab,L.step a4⟩
   have W:=Aa ag;have Q:d+f<=46:=by have:=L.lke;omega
   have P:=L.wt
   cases D:c.gone with
   |true=>have ax:=Aa (A3x x b bp bw m v wv rk _ c.key _ h f d k rv' _ S P r1 Q (by omega));have I:=Aa (show Hj (Bt ⟨T,rl,ch⟩ (cs.take j)) c=_ from by unfold Hj;rw[if_pos D]);rw[D]at G s;simp only[Ac]at o0 o1 G s;have J:=Aa s;clear s hw o q l n y t z u p r1 r2 r3 r4 aj an aa H ac ad Z C L ag P Q D M F K U R;go_wp2_with fail;rw[J.o];refine ax.o.mono ?_;rintro r E ⟨rfl,A⟩;have O:=Aa (W.o E _ I.o A);clear A ax W I J o0 o1 G;go_wp2_with fail;exact⟨⟨rfl,j+1,by first|rfl|push_cast;rfl,by omega,O.o⟩,by simp only[intOf];omega⟩
   |false=>have av:=Aa (A0m x b bp bw m v wv rk _ c.key c.value (ac D) _ h f d k rv' _ S P r1 Q (by omega));have I:=Aa (show Hj (Bt ⟨T,rl,ch⟩ (cs.take j)) c=_ from by unfold Hj;rw[if_neg (by rw[D];decide)]);rw[D]at G s;simp only[Ac]at o0 o1 G s;have J:=Aa s;clear s hw o q l n y t z u p r1 r2 r3 r4 aj an aa H ac ad Z C L ag P Q D M F K U R;go_wp2_with fail;rw[J.o];refine av.o.mono ?_;rintro r E ⟨rfl,A⟩;have O:=Aa (W.o E _ I.o A);clear A av W I J o0 o1 G;go_wp2_with fail;exact⟨⟨rfl,j+1,by first|rfl|push_cast;rfl,by omega,O.o⟩,by simp only[intOf];omega⟩
  ·have a5:j=N:=by omega
   subst a5;have aw:cs.take j=cs:=by rw[<-K.o,Yb]
   rw[aw]at C;have O:=Aa (show ∃d k rv' h f,Oe w wr x b bp bw m v wv rk (lk+Gt T) rv (Bt ⟨T,rl,ch⟩ cs) d k rv' h f from⟨_,_,_,_,_,C⟩);clear hw o q l n y t z u p r1 r2 r3 r4 aj aw C M K U R;go_wp2_with fail;go_ret;exact⟨rfl,O.o⟩
def EG.em (e:EG):Gp:=⟨e.key,e.value,e.place,e.digest⟩
structure EG.Fit (e:EG):Prop where
 k:e.key.length<=8
 v:e.value.length<=16
 p:e.place<=255
 d:e.digest.length<=32
theorem A22 (leaf:Bool)(e:EG)(h:e.Fit):(Dl leaf e.em).length<=42:=by have h1:=h.k;have h2:=h.v;have a:=h.d;unfold Dl EG.em;simp only[Bb,Cb];split<;>simp only[Bb,Cb]<;>omega
theorem Agh (leaf:Bool):∀es:List EG,(∀e∈es,e.Fit)->((es.map EG.em).flatMap (Dl leaf)).length<=es.length*42
 | [],_=>by simp
 |e::es,h=>by have h1:=A22 leaf e (h e (by simp));have h2:=Agh leaf es (fun x a=>h x (by simp[a]));simp only[Db,Da,Bb,Fh];omega
theorem Azm (n p:Nat)(d:By)(es:List EG)(ev:Value)(w:World)(h:Av w n true p d es ev)(h0:es≠[])(D:∀e∈es,e.Fit)(ah:es.length<=10):
  Cl 135 #[.pointer (some ⟨n,0,none⟩)] w fun e w'=>e=.returned (Ac (Fm true (es.map EG.em)))/\Bw w w':=by
 have c0:=h.node.c0;obtain⟨l,cap,I,k,am,ad,aj,_,_⟩:=h.row h0;obtain⟨a,y⟩:=nmd (es.length);have av:a<=10:=by omega
 have H:=Aa (fun w' (hw:Bw w w')=>show w'.cell? ⟨n,3,none⟩=some (.slice (some ⟨l,0,none⟩) a cap)/\w'.cell? ⟨n,0,none⟩=some (.bool true)/\(∀i e,es[i]?=some e->∀j,j<5->w'.cell? ⟨l,i*5+j,none⟩=e.cells[j]?)from by
  have K:=h.below hw;have c3:=K.node.c3;rw[I,y]at c3;refine⟨c3,K.node.c0,?_⟩;obtain⟨aq,aw,L,_,_,_,_,f,_⟩:=K.row h0;rw[I]at L;cases L
  exact f)
 obtain⟨b,s⟩:∃b:Nat->By,(fun i=>Af 1 1++Af a 1++((es.take i).map EG.em).flatMap (Dl true))=b:=⟨_,rfl⟩;have M:Af 1 1++Af a 1=b 0:=by rw[<-s];simp
 have Q:Ar (b a) 228=Fm true (es.map EG.em):=by rw[<-s];simp only;rw[<-y,Yb];unfold Fm;simp
 have X:∀i,(b i).length<=1000:=fun i=>by rw[<-s];have h1:=Agh true (es.take i) (fun e ac=>D e (Nc ac));rw[Fr]at h1;simp only[Bb,Cb];omega
 have P:∀i e,es[i]?=some e->b (i+1)=b i++(Af e.key.length 1++e.key)++(Af e.value.length 1++e.value):=fun i e ab=>by
  have e1:es.take (i+1)=es.take i++[e]:=by rw[Nv,ab];rfl
  rw[<-s];simp only;rw[e1,Lw,Gh];simp[Dl,EG.em,Cw]
 have r:=Aa (Ab M (Ab Q (Ab X (Ab P (Ab D y)))));clear h h0 D ah I k am ad aj s M Q X P y;go_enter Tryz.func135,Tryz.ntmps135;go_wp2_with fail;refine Jx (fun w'=>Bw w w') (by kernel_rfl) (by kernel_rfl) (Ah _ _).drew ?_;refine Aq 0 (.int .i64 1) ?_;refine Cf 1 (Ac (Af 1 1)) rfl (by kernel_rfl) rfl (Gb (79) (#[.int .i64 1,.int .i64 1]) (fun _=>by kernel_rfl) fun w hw=>(No 1 1 w (by decide) (by decide)).mono fun e w2 h=>⟨h.1,hw.trans (h.2.mono hw.size)⟩) ?_;refine Aq 2 (.pointer (some ⟨n,0,none⟩)) ?_;refine Aq 3 (.pointer (some ⟨n,0,none⟩)) ?_;refine Aq 4 (.pointer (some ⟨n,3,none⟩)) ?_;refine Fp 5 (.slice (some ⟨l,0,none⟩) a cap) Aln (fun w hw=>(H.o w hw).1) ?_;refine Aq 6 (.int .i64 (a:Int)) ?_;refine Cf 7 (Ac (Af a 1)) rfl (by kernel_rfl) rfl (Gb (79) (#[.int .i64 (a:Int),.int .i64 1]) (fun _=>by kernel_rfl) fun w hw=>(No a 1 w (by omega) (by decide)).mono fun e w2 h=>⟨h.1,hw.trans (h.2.mono hw.size)⟩) ?_;refine Cf 8 (Ac (Af 1 1++Af a 1)) rfl (by kernel_rfl) rfl (Cp fun w=>Nn _ _ _ _ _ (Af 1 1) (Af a 1) rfl (by kernel_rfl) (by kernel_rfl) (by simp[Cb]) w) ?_;refine Aq 9 (Ac (Af 1 1++Af a 1)) ?_;refine Dv.done (by kernel_rfl) fun w1 U=>?_;simp only[Act.put,Cz,Dg,Co];rw[r.o.1];clear c0;go_wp2_with fail
 go_loopw [4,5,6] (fun t i _ wr=>Bw w wr/\∃j:Nat,i=.int .i64 (j:Int)/\j<=a/\t=Ac (b j)) (fun _ i _ _=>(20-intOf i).toNat)
 case atStart=>exact⟨U,0,rfl,Cu _,rfl⟩
 case round=>
  obtain⟨k,j,rfl,af,rfl⟩:=hrel;obtain⟨n3,n0,f⟩:=H.o wr k;by_cases W:j<a
  ·have T:j<es.length:=by rw[r.o.2.2.2.2.2];exact W
   obtain⟨e,m⟩:∃e,es[j]?=some e:=⟨_,Az T⟩;have J:=r.o.2.2.2.2.1 e (Hs m);have e0:wr.cell? ⟨l,j*5,none⟩=some (Ac e.key):=f j e m 0 (by decide);have e1:wr.cell? ⟨l,j*5+1,none⟩=some (Ac e.value):=f j e m 1 (by decide);have e2:wr.cell? ⟨l,j*5+2,none⟩=some (.int .i64 (e.place:Int)):=f j e m 2 (by decide);have e3:wr.cell? ⟨l,j*5+3,none⟩=some (Ac e.digest):=f j e m 3 (by decide);obtain⟨z,Y⟩:=nmd ((e.child.map fun c=>(⟨c,0,none⟩:Addr)));have ap:wr.cell? ⟨l,j*5+4,none⟩=some (.pointer z):=by rw[<-Y];exact f j e m 4 (by decide)
   have ar:(j:Int)<(a:Int):=by omega
   obtain⟨w2,x⟩:=nmd (wr.alloc (.cells #[Ac e.key,Ac e.value,.int .i64 (e.place:Int),Ac e.digest,(.pointer z)] 142));have N:w2.heap[wr.heap.size]?=some (.cells #[Ac e.key,Ac e.value,.int .i64 (e.place:Int),Ac e.digest,(.pointer z)] 142 (0,0)):=x▸heap_alloc_new wr _;have o:Bw w w2:=x▸k.alloc k.size _;have aa:w2.heap.size=wr.heap.size+1:=by rw[<-x];simp
   have v:=Aa (fun w' (hw:Bw w2 w') (i:Nat) (u:Value) (an: #[Ac e.key,Ac e.value,.int .i64 (e.place:Int),Ac e.digest,(.pointer z)][i]?=some u)=>(hw.cell (p:=⟨wr.heap.size,i,none⟩) (by rw[aa];simp)).trans (by rw[cell_of_row _ _ _ _ _ _ N];exact an:w2.cell? ⟨wr.heap.size,i,none⟩=some u));have O:=Aa (fun w' (hw:Bw w2 w')=>(H.o w' (o.trans (hw.mono o.size))).2.1);have ae:=Aa x;have V:=Aa o;obtain⟨q,C⟩:=nmd (b j++(Af e.key.length 1++e.key));obtain⟨au,E⟩:=nmd (q++(Af e.value.length 1++e.value));have F:=r.o.2.2.2.1 j e m;rw[C,E]at F;have R:=r.o.2.2.1 j;have l1:q.length<=1020:=by rw[<-C];have:=J.k;simp only[Bb,Cb];omega
   have A:=Aa (Ab C (Ab E F));have g:=Aa (Ab J (Ab R l1));clear Y N o x k U f T m J C E F R l1 n0;go_wp2_with fail;rw[ae.o];refine Jx (fun w'=>Bw w2 w') (by kernel_rfl) (by kernel_rfl) (Ah _ _).drew ?_;refine Aq 0 (Ac (b j)) ?_;refine Aq 1 (.pointer (some ⟨wr.heap.size,0,none⟩)) ?_;refine Fp 2 (Ac e.key) Im (fun w hw=>v.o w hw 0 _ rfl) ?_;refine Aq 3 (.int .i64 e.key.length) ?_;refine Cf 4 (Ac (Af e.key.length 1)) rfl (by kernel_rfl) rfl (Gb (79) (#[.int .i64 e.key.length,.int .i64 1]) (fun _=>by kernel_rfl) fun w hw=>(No e.key.length 1 w (by have:=g.o.1.k;omega) (by decide)).mono fun e w2 h=>⟨h.1,hw.trans (h.2.mono hw.size)⟩) ?_;refine Aq 5 (.pointer (some ⟨wr.heap.size,0,none⟩)) ?_;refine Fp 6 (Ac e.key) Im (fun w hw=>v.o w hw 0 _ rfl) ?_;refine Cf 7 (Ac (Af e.key.length 1++e.key)) rfl (by kernel_rfl) rfl (Cp fun w=>Nn _ _ _ _ _ (Af e.key.length 1) (e.key) rfl (by kernel_rfl) (by kernel_rfl) (by rw[Cb];have:=g.o.1.k;omega) w) ?_;refine Cf 8 (Ac (b j++(Af e.key.length 1++e.key))) rfl (by kernel_rfl) rfl (Cp fun w=>Nn _ _ _ _ _ (b j) ((Af e.key.length 1++e.key)) rfl (by kernel_rfl) (by kernel_rfl) (by have:=g.o.2.1;have:=g.o.1.k;simp only[Bb,Cb];omega) w) ?_;refine Aq 9 (Ac (b j++(Af e.key.length 1++e.key))) ?_;refine Dv.done (by kernel_rfl) fun ai G=>?_;simp only[Act.put,Cz,Dg,Co];rw[A.o.1];have Z:=O.o ai G;go_wp2_with fail;refine Jx (fun w'=>Bw w2 w') (by kernel_rfl) (by kernel_rfl) G.drew ?_;refine Aq 0 (Ac q) ?_;refine Aq 1 (.pointer (some ⟨wr.heap.size,1,none⟩)) ?_;refine Fp 2 (Ac e.value) Im (fun w hw=>v.o w hw 1 _ rfl) ?_;refine Aq 3 (.int .i64 e.value.length) ?_;refine Cf 4 (Ac (Af e.value.length 1)) rfl (by kernel_rfl) rfl (Gb (79) (#[.int .i64 e.value.length,.int .i64 1]) (fun _=>by kernel_rfl) fun w hw=>(No e.value.length 1 w (by have:=g.o.1.v;omega) (by decide)).mono fun e w2 h=>⟨h.1,hw.trans (h.2.mono hw.size)⟩) ?_;refine Aq 5 (.pointer (some ⟨wr.heap.size,1,none⟩)) ?_;refine Fp 6 (Ac e.value) Im (fun w hw=>v.o w hw 1 _ rfl) ?_;refine Cf 7 (Ac (Af e.value.length 1++e.value)) rfl (by kernel_rfl) rfl (Cp fun w=>Nn _ _ _ _ _ (Af e.value.length 1) (e.value) rfl (by kernel_rfl) (by kernel_rfl) (by rw[Cb];have:=g.o.1.v;omega) w) ?_;refine Cf 8 (Ac (q++(Af e.value.length 1++e.value))) rfl (by kernel_rfl) rfl (Cp fun w=>Nn _ _ _ _ _ (q) ((Af e.value.length 1++e.value)) rfl (by kernel_rfl) (by kernel_rfl) (by have:=g.o.2.2;have:=g.o.1.v;simp only[Bb,Cb];omega) w) ?_;refine Aq 9 (Ac (q++(Af e.value.length 1++e.value))) ?_;refine Dv.done (by kernel_rfl) fun ao S=>?_;simp only[Act.put,Cz,Dg,Co];rw[A.o.2.1,<-A.o.2.2];have al:=V.o.trans (S.mono V.o.size);clear v O g A Z G S;go_wp2_with fail;exact⟨⟨al,j+1,by first|rfl|push_cast;rfl,by omega,rfl⟩,by simp only[intOf];omega⟩
  ·have ak:j=a:=by omega
   subst ak;have ag:=Aa (Aa9 (b j) 228 wr (by decide));clear f n0 W af;go_wp2_with fail;refine ag.o.mono ?_;rintro e w2 ⟨rfl,o⟩;go_wp2_with fail;go_ret;exact⟨by rw[<-r.o.2.1];rfl,k.trans (o.mono k.size)⟩
theorem Asi (n p:Nat)(d:By)(es:List EG)(ev:Value)(w:World)(h:Av w n false p d es ev)(h0:es≠[])(D:∀e∈es,e.Fit)(ah:es.length<=10):
  Cl 135 #[.pointer (some ⟨n,0,none⟩)] w fun e w'=>e=.returned (Ac (Fm false (es.map EG.em)))/\Bw w w':=by
 have c0:=h.node.c0;obtain⟨l,cap,I,k,am,ad,aj,_,_⟩:=h.row h0;obtain⟨a,y⟩:=nmd (es.length);have av:a<=10:=by omega
 have H:=Aa (fun w' (hw:Bw w w')=>show w'.cell? ⟨n,3,none⟩=some (.slice (some ⟨l,0,none⟩) a cap)/\w'.cell? ⟨n,0,none⟩=some (.bool false)/\(∀i e,es[i]?=some e->∀j,j<5->w'.cell? ⟨l,i*5+j,none⟩=e.cells[j]?)from by
  have K:=h.below hw;have c3:=K.node.c3;rw[I,y]at c3;refine⟨c3,K.node.c0,?_⟩;obtain⟨aq,aw,L,_,_,_,_,f,_⟩:=K.row h0;rw[I]at L;cases L
  exact f)
 obtain⟨b,s⟩:∃b:Nat->By,(fun i=>Af 2 1++Af a 1++((es.take i).map EG.em).flatMap (Dl false))=b:=⟨_,rfl⟩;have M:Af 2 1++Af a 1=b 0:=by rw[<-s];simp
 have Q:Ar (b a) 228=Fm false (es.map EG.em):=by rw[<-s];simp only;rw[<-y,Yb];unfold Fm;simp
 have X:∀i,(b i).length<=1000:=fun i=>by rw[<-s];have h1:=Agh false (es.take i) (fun e ac=>D e (Nc ac));rw[Fr]at h1;simp only[Bb,Cb];omega
 have P:∀i e,es[i]?=some e->b (i+1)=b i++(Af e.key.length 1++e.key)++(Af e.place 1++e.digest):=fun i e ab=>by
  have e1:es.take (i+1)=es.take i++[e]:=by rw[Nv,ab];rfl
  rw[<-s];simp only;rw[e1,Lw,Gh];simp[Dl,EG.em,Cw]
 have r:=Aa (Ab M (Ab Q (Ab X (Ab P (Ab D y)))));clear h h0 D ah I k am ad aj s M Q X P y;go_enter Tryz.func135,Tryz.ntmps135;go_wp2_with fail;refine Jx (fun w'=>Bw w w') (by kernel_rfl) (by kernel_rfl) (Ah _ _).drew ?_;refine Aq 0 (.int .i64 2) ?_;refine Cf 1 (Ac (Af 2 1)) rfl (by kernel_rfl) rfl (Gb (79) (#[.int .i64 2,.int .i64 1]) (fun _=>by kernel_rfl) fun w hw=>(No 2 1 w (by decide) (by decide)).mono fun e w2 h=>⟨h.1,hw.trans (h.2.mono hw.size)⟩) ?_;refine Aq 2 (.pointer (some ⟨n,0,none⟩)) ?_;refine Aq 3 (.pointer (some ⟨n,0,none⟩)) ?_;refine Aq 4 (.pointer (some ⟨n,3,none⟩)) ?_;refine Fp 5 (.slice (some ⟨l,0,none⟩) a cap) Aln (fun w hw=>(H.o w hw).1) ?_;refine Aq 6 (.int .i64 (a:Int)) ?_;refine Cf 7 (Ac (Af a 1)) rfl (by kernel_rfl) rfl (Gb (79) (#[.int .i64 (a:Int),.int .i64 1]) (fun _=>by kernel_rfl) fun w hw=>(No a 1 w (by omega) (by decide)).mono fun e w2 h=>⟨h.1,hw.trans (h.2.mono hw.size)⟩) ?_;refine Cf 8 (Ac (Af 2 1++Af a 1)) rfl (by kernel_rfl) rfl (Cp fun w=>Nn _ _ _ _ _ (Af 2 1) (Af a 1) rfl (by kernel_rfl) (by kernel_rfl) (by simp[Cb]) w) ?_;refine Aq 9 (Ac (Af 2 1++Af a 1)) ?_;refine Dv.done (by kernel_rfl) fun w1 U=>?_;simp only[Act.put,Cz,Dg,Co];rw[r.o.1];clear c0;go_wp2_with fail
 go_loopw [4,5,6] (fun t i _ wr=>Bw w wr/\∃j:Nat,i=.int .i64 (j:Int)/\j<=a/\t=Ac (b j)) (fun _ i _ _=>(20-intOf i).toNat)
 case atStart=>exact⟨U,0,rfl,Cu _,rfl⟩
 case round=>
  obtain⟨k,j,rfl,af,rfl⟩:=hrel;obtain⟨n3,n0,f⟩:=H.o wr k;by_cases W:j<a
  ·have T:j<es.length:=by rw[r.o.2.2.2.2.2];exact W
   obtain⟨e,m⟩:∃e,es[j]?=some e:=⟨_,Az T⟩;have J:=r.o.2.2.2.2.1 e (Hs m);have e0:wr.cell? ⟨l,j*5,none⟩=some (Ac e.key):=f j e m 0 (by decide);have e1:wr.cell? ⟨l,j*5+1,none⟩=some (Ac e.value):=f j e m 1 (by decide);have e2:wr.cell? ⟨l,j*5+2,none⟩=some (.int .i64 (e.place:Int)):=f j e m 2 (by decide);have e3:wr.cell? ⟨l,j*5+3,none⟩=some (Ac e.digest):=f j e m 3 (by decide);obtain⟨z,Y⟩:=nmd ((e.child.map fun c=>(⟨c,0,none⟩:Addr)));have ap:wr.cell? ⟨l,j*5+4,none⟩=some (.pointer z):=by rw[<-Y];exact f j e m 4 (by decide)
   have ar:(j:Int)<(a:Int):=by omega
   obtain⟨w2,x⟩:=nmd (wr.alloc (.cells #[Ac e.key,Ac e.value,.int .i64 (e.place:Int),Ac e.digest,(.pointer z)] 142));have N:w2.heap[wr.heap.size]?=some (.cells #[Ac e.key,Ac e.value,.int .i64 (e.place:Int),Ac e.digest,(.pointer z)] 142 (0,0)):=x▸heap_alloc_new wr _;have o:Bw w w2:=x▸k.alloc k.size _;have aa:w2.heap.size=wr.heap.size+1:=by rw[<-x];simp
   have v:=Aa (fun w' (hw:Bw w2 w') (i:Nat) (u:Value) (an: #[Ac e.key,Ac e.value,.int .i64 (e.place:Int),Ac e.digest,(.pointer z)][i]?=some u)=>(hw.cell (p:=⟨wr.heap.size,i,none⟩) (by rw[aa];simp)).trans (by rw[cell_of_row _ _ _ _ _ _ N];exact an:w2.cell? ⟨wr.heap.size,i,none⟩=some u));have O:=Aa (fun w' (hw:Bw w2 w')=>(H.o w' (o.trans (hw.mono o.size))).2.1);have ae:=Aa x;have V:=Aa o;obtain⟨q,C⟩:=nmd (b j++(Af e.key.length 1++e.key));obtain⟨au,E⟩:=nmd (q++(Af e.place 1++e.digest));have F:=r.o.2.2.2.1 j e m;rw[C,E]at F;have R:=r.o.2.2.1 j;have l1:q.length<=1020:=by rw[<-C];have:=J.k;simp only[Bb,Cb];omega
   have A:=Aa (Ab C (Ab E F));have g:=Aa (Ab J (Ab R l1));clear Y N o x k U f T m J C E F R l1 n0;go_wp2_with fail;rw[ae.o];refine Jx (fun w'=>Bw w2 w') (by kernel_rfl) (by kernel_rfl) (Ah _ _).drew ?_;refine Aq 0 (Ac (b j)) ?_;refine Aq 1 (.pointer (some ⟨wr.heap.size,0,none⟩)) ?_;refine Fp 2 (Ac e.key) Im (fun w hw=>v.o w hw 0 _ rfl) ?_;refine Aq 3 (.int .i64 e.key.length) ?_;refine Cf 4 (Ac (Af e.key.length 1)) rfl (by kernel_rfl) rfl (Gb (79) (#[.int .i64 e.key.length,.int .i64 1]) (fun _=>by kernel_rfl) fun w hw=>(No e.key.length 1 w (by have:=g.o.1.k;omega) (by decide)).mono fun e w2 h=>⟨h.1,hw.trans (h.2.mono hw.size)⟩) ?_;refine Aq 5 (.pointer (some ⟨wr.heap.size,0,none⟩)) ?_;refine Fp 6 (Ac e.key) Im (fun w hw=>v.o w hw 0 _ rfl) ?_;refine Cf 7 (Ac (Af e.key.length 1++e.key)) rfl (by kernel_rfl) rfl (Cp fun w=>Nn _ _ _ _ _ (Af e.key.length 1) (e.key) rfl (by kernel_rfl) (by kernel_rfl) (by rw[Cb];have:=g.o.1.k;omega) w) ?_;refine Cf 8 (Ac (b j++(Af e.key.length 1++e.key))) rfl (by kernel_rfl) rfl (Cp fun w=>Nn _ _ _ _ _ (b j) ((Af e.key.length 1++e.key)) rfl (by kernel_rfl) (by kernel_rfl) (by have:=g.o.2.1;have:=g.o.1.k;simp only[Bb,Cb];omega) w) ?_;refine Aq 9 (Ac (b j++(Af e.key.length 1++e.key))) ?_;refine Dv.done (by kernel_rfl) fun ai G=>?_;simp only[Act.put,Cz,Dg,Co];rw[A.o.1];have Z:=O.o ai G;go_wp2_with fail;refine Jx (fun w'=>Bw w2 w') (by kernel_rfl) (by kernel_rfl) G.drew ?_;refine Aq 0 (Ac q) ?_;refine Aq 1 (.pointer (some ⟨wr.heap.size,2,none⟩)) ?_;refine Aq 2 (.pointer (some ⟨wr.heap.size,2,none⟩)) ?_;refine Fp 3 (.int .i64 (e.place:Int)) Qd (fun w hw=>v.o w hw 2 _ rfl) ?_;refine Cf 4 (Ac (Af e.place 1)) rfl (by kernel_rfl) rfl (Gb (79) (#[.int .i64 (e.place:Int),.int .i64 1]) (fun _=>by kernel_rfl) fun w hw=>(No e.place 1 w (by have:=g.o.1.p;omega) (by decide)).mono fun e w2 h=>⟨h.1,hw.trans (h.2.mono hw.size)⟩) ?_;refine Aq 5 (.pointer (some ⟨wr.heap.size,2,none⟩)) ?_;refine Aq 6 (.pointer (some ⟨wr.heap.size,3,none⟩)) ?_;refine Fp 7 (Ac e.digest) Im (fun w hw=>v.o w hw 3 _ rfl) ?_;refine Cf 8 (Ac (Af e.place 1++e.digest)) rfl (by kernel_rfl) rfl (Cp fun w=>Nn _ _ _ _ _ (Af e.place 1) (e.digest) rfl (by kernel_rfl) (by kernel_rfl) (by rw[Cb];have:=g.o.1.d;omega) w) ?_;refine Cf 9 (Ac (q++(Af e.place 1++e.digest))) rfl (by kernel_rfl) rfl (Cp fun w=>Nn _ _ _ _ _ (q) ((Af e.place 1++e.digest)) rfl (by kernel_rfl) (by kernel_rfl) (by have:=g.o.2.2;have:=g.o.1.d;simp only[Bb,Cb];omega) w) ?_;refine Aq 10 (Ac (q++(Af e.place 1++e.digest))) ?_;refine Dv.done (by kernel_rfl) fun ao S=>?_;simp only[Act.put,Cz,Dg,Co];rw[A.o.2.1,<-A.o.2.2];have al:=V.o.trans (S.mono V.o.size);clear v O g A Z G S;go_wp2_with fail;exact⟨⟨al,j+1,by first|rfl|push_cast;rfl,by omega,rfl⟩,by simp only[intOf];omega⟩
  ·have ak:j=a:=by omega
   subst ak;have ag:=Aa (Aa9 (b j) 228 wr (by decide));clear f n0 W af;go_wp2_with fail;refine ag.o.mono ?_;rintro e w2 ⟨rfl,o⟩;go_wp2_with fail;go_ret;exact⟨by rw[<-r.o.2.1];rfl,k.trans (o.mono k.size)⟩
theorem Apn (l:List Nat)(j r:Nat)(h:l[j]?=some r):(l.take (j+1)).sum=(l.take j).sum+r:=by
 have:l.take (j+1)=l.take j++[r]:=by rw[Nv,h];rfl
 rw[this,List.sum_append];simp
theorem Ab3:∀(l:List Nat) (j:Nat),(l.take j).sum<=l.sum
 | [],j=>by simp
 |a::l,0=>by simp
 |a::l,j+1=>by have:=Ab3 l j;simp only[List.take_succ_cons,Jy];omega
theorem Ad9 {a:Nat}:∀ {l:List Nat},a∈l->a<=l.sum
 | [],h=>by cases h
 |b::l,h=>by
  rw[Jy];rcases Al.1 h with rfl|h
  ·omega
  ·have:=Ad9 h;omega
theorem Aql (n p:Nat)(leaf:Bool)(d:By)(a:List EG)(ev:Value)(w:World)(h:Av w n leaf p d a ev)(b:p≠0):
  Cl 92 #[.pointer (some ⟨n,0,none⟩)] w fun e w'=>e=.returned (.int .i64 0)/\w'=w:=by
 have c1:=h.node.c1;have c:((p:Int)==0)=false:=by rw[beq_eq_false_iff_ne];omega
 clear h;go_enter Tryz.func92,Tryz.ntmps92;go_wp2_with fail;go_ret;exact⟨rfl,rfl⟩
theorem Am4 (n:Nat)(leaf:Bool)(d:By)(b:List EG)(ev:Value)(w:World)(h:Av w n leaf 0 d b ev)(h0:b≠[])(rs:List Nat)(a:rs.length=b.length)(R:b.length<=100)(k:rs.sum<=100000)
  (hr:∀(i:Nat) (e:EG) (r:Nat),b[i]?=some e->rs[i]?=some r->Cl 92 #[Jg e.child] w fun e w'=>e=.returned (.int .i64 (r:Int))/\w'=w):
  Cl 92 #[.pointer (some ⟨n,0,none⟩)] w fun e w'=>e=.returned (.int .i64 ((1+rs.sum:Nat):Int))/\w'=w:=by
 have c1:=h.node.c1;have c3:=h.node.c3;obtain⟨L,cap,E,K,N,J,F,f,_⟩:=h.row h0;rw[E]at c3;obtain⟨l,g⟩:=nmd (b.length);rw[g]at c3 a R;have P:=Aa (Ab hr (Ab f (Ab g (Ab a k))));clear h h0 E K N J F f g a k hr;go_enter Tryz.func92,Tryz.ntmps92;go_wp2_with fail
 go_loopw [3,4] (fun c i wr=>wr=w/\∃j:Nat,i=.int .i64 (j:Int)/\j<=l/\c=.int .i64 ((1+(rs.take j).sum:Nat):Int)) (fun _ i _=>(200-intOf i).toNat)
 case atStart=>exact⟨rfl,0,rfl,Cu _,rfl⟩
 case round=>
  obtain⟨y,j,rfl,O,rfl⟩:=hrel;rw[y];clear y wr;obtain⟨hr,f,g,a,k⟩:=P.o;by_cases I:j<l
  ·obtain⟨e,p⟩:∃e,b[j]?=some e:=⟨_,Az (by omega)⟩;obtain⟨r,o⟩:∃r,rs[j]?=some r:=⟨_,Az (by omega)⟩;obtain⟨x,s⟩:=nmd ((e.child.map fun c=>(⟨c,0,none⟩:Addr)));have U:w.cell? ⟨L,j*5+4,none⟩=some (.pointer x):=by rw[<-s];exact f j e p 4 (by decide)
   have m:=Aa (hr j e r p o);have D:Jg e.child=.pointer x:=by rw[<-s];rfl
   rw[D]at m;have t:=Apn rs j r o;have G:=Ab3 rs (j+1);obtain⟨A,M⟩:=nmd ((rs.take j).sum);rw[M]at t⊢;have S:(j:Int)<(l:Int):=by omega
   have hb:A+r<=100000:=by omega
   have Q:=Aa t;obtain⟨q,z⟩:∃q:Nat,1+A=q:=⟨_,rfl⟩;rw[z];have T:q+r<=100001:=by omega
   clear hr f g a k p o s D t G;go_wp2_with fail;refine m.o.mono ?_;rintro v w2 ⟨rfl,C⟩;rw[C];clear C w2 m;go_wp2_with fail;refine⟨⟨by first|trivial|rfl,j+1,by first|rfl|push_cast;rfl,by omega,?_⟩,by simp only[intOf];omega⟩;rw[Q.o,<-Nat.add_assoc,z]
   push_cast
   rfl
  ·have H:j=l:=by omega
   subst H;have u:rs.take j=rs:=by rw[<-a,Yb]
   rw[u];clear hr f g a k u I O;go_wp2_with fail;go_ret;exact⟨rfl,rfl⟩
theorem Alc {w:World}{m:DM}{rk:By}:∀(h n:Nat) (t:Nd h) (S:List Nat) (U:Nat),Au w m rk h n t S U->Wf h t->t.es≠[]->t.es.length<=100->De h t<=100000->
  Cl 92 #[.pointer (some ⟨n,0,none⟩)] w fun e w'=>e=.returned (.int .i64 (De h t:Int))/\w'=w
 |0,n,t,S,U,ht,_,hne,hl,_=>by
  obtain⟨ev,k,_,_⟩:=ht;unfold De;by_cases a:t.place=0
  ·rw[if_pos a];rw[a]at k;refine(Am4 n true t.dig _ ev w k (by simpa using hne) (List.replicate t.es.length 0) (by simp) (by simpa using hl) (by simp) (fun i e r d hr=>?_)).mono ?_
   ·have v:r=0:=by have:=Hs hr;simp at this;exact this.2
    subst v;have:e∈t.es.map Dm:=Hs d;obtain⟨e0,_,rfl⟩:=Kj.1 this;exact Afa w
   ·rintro e w' ⟨rfl,rfl⟩;exact⟨by simp,rfl⟩
  ·rw[if_neg a];exact Aql n t.place true t.dig _ ev w k a
 |h+1,n,t,S,U,ht,hw,hne,hl,hb=>by
  obtain⟨ev,q,b,g,_,_⟩:=ht;have u:q.length=t.es.length:=by rw[b];simp
  unfold De at hb⊢;by_cases a:t.place=0
  ·rw[if_pos a]at hb⊢;have p:=g.nd;rw[a]at p;refine(Am4 n false t.dig _ ev w p (fun e=>hne (by rw[b];simpa using e)) (t.es.map fun e=>De h e.2) (by simp[u]) (by simp;omega) (by omega) (fun i e r d hr=>?_)).mono ?_
   ·rw[Fq,Ig]at d hr;obtain⟨z,hz,rfl⟩:=d;obtain⟨e1,o,rfl⟩:=hr;have j:=Hs hz
    have x:e1=z.1:=by rw[b,Fq,hz]at o;simpa using o.symm
    subst x;have l:=((Gg.1 hw) z.1 (by rw[b];exact List.mem_map_of_mem j)).1;have hk:=g.kid z j
    have s:De h z.1.2<=100000:=by have:De h z.1.2<=(t.es.map fun e=>De h e.2).sum:=Ad9 (Kj.2 ⟨z.1,by rw[b];exact List.mem_map_of_mem j,rfl⟩);omega
    unfold Eo at hk
    cases f:z.2.c with
    |none=>
     rw[f]at hk;have y:=(Oi hk.1).1
     have h0:De h z.1.2=0:=by
      cases h with
      |zero=>unfold De;rw[if_neg (by omega)]
      |succ h=>unfold De;rw[if_neg (by omega)]
     rw[h0];have:Jg (Ao z).child=.pointer none:=by simp[Ao,f,Jg]
     rw[this];exact Afa w
    |some c=>
     rw[f]at hk;have:Jg (Ao z).child=.pointer (some ⟨c,0,none⟩):=by simp[Ao,f,Jg]
     rw[this];exact Alc h c z.1.2 z.2.S z.2.U hk l.1 l.ne (by have:=l.2.2;omega) s
   ·rintro e w' ⟨rfl,rfl⟩;exact⟨rfl,rfl⟩
  ·rw[if_neg a];exact Aql n t.place false t.dig _ ev w g.nd a
theorem Ad6 (rk:By)(leaf:Bool)(es:List Gp)(a c p:Nat)(hr:rk.length=240):(Iv rk a c p (Fm leaf es)).length=256:=by rw[Aud _ _ _ _ _ hr,Afq]
theorem Aus (n p:Nat)(leaf:Bool)(d:By)(es:List EG)(ev:Value)(w:World)(h:Av w n leaf p d es ev)(h0:es≠[])(a:∀e∈es,e.Fit)(b:es.length<=10):
  Cl 135 #[.pointer (some ⟨n,0,none⟩)] w fun e w'=>e=.returned (Ac (Fm leaf (es.map EG.em)))/\Bw w w':=by
 cases leaf
 ·exact Asi n p d es ev w h h0 a b
 ·exact Azm n p d es ev w h h0 a b
theorem Azb {af:By}(x:DX)(b bp:Nat)(m:DM)(v:VM)(wv:Value)(rk:By)(n p:Nat)(leaf:Bool)(es:List EG)(ev:Value)(rest:List Nat)(w:World)(h:Ai w x b m v wv)(bb:v.pv=.pointer (some ⟨bp,0,none⟩))(hk:Eh w bp rk)(a4:Mt w x b wv bp)(N:Av w n leaf 0 af es ev)(a0:Ce x b wv n)(ah:∀j,ev.ownBlock=some j->Ce x b wv j)
  (I:Et v.used m.blocks.length=p::rest) (ag:p<m.blocks.length) (hd:v.done<1000) (ar:v.session<9223372036854775808) (aj:m.wrote.length<5000000) (a7:es≠[]) (a6:(∀e∈es,e.Fit)/\es.length<=10):
  Cl 116 #[.pointer (some ⟨b,0,none⟩),.pointer (some ⟨n,0,none⟩)] w fun e w'=>e=.returned (.int .i64 0)/\∃ai,Ai w' x b (m.write p (Iv rk v.session (v.done+1) p (Fm leaf (es.map EG.em)))) {v with done:=v.done+1,used:=v.used.set p true} ai/\
   Av w' n leaf p (Dz (Iv rk v.session (v.done+1) p (Fm leaf (es.map EG.em)))) es ev/\Kp (n::Ai.set x b wv) w w'/\Cd wv ai w.heap.size:=by
 have L:=h.disk.le;have bj:=N.node.lt;have X:=Aa (Ali x b m v wv w h);have bd:(p::rest).length<=48:=by rw[<-I];exact Hb (Alh _ _) L
 rw[I]at X;have bn:(v.done:Int)<1000:=by omega
 have c:=Aa (Ab h (Ab hk (Ab a4 (Ab N (Ab a0 ah)))));have d:=Aa (Ab ag (Ab hd (Ab ar (Ab aj (Ab a7 (Ab a6 L))))));have a3:=Aa (Ad6 rk leaf (es.map EG.em) v.session (v.done+1) p hk.len);obtain⟨T,Z⟩:=nmd (Iv rk v.session (v.done+1) p (Fm leaf (es.map EG.em)));rw[Z]at a3⊢;have bi:=Aa Z;clear h hk a4 N a0 ah I ag hd ar aj a7 a6 L Z;go_enter Tryz.func116,Tryz.ntmps116;go_wp2_with fail;refine X.o.mono ?_;rintro e w1 ⟨fv,rfl,z,H⟩;obtain⟨g,bt,bk⟩:=Xj z (by simp);subst bk;have ba:w1.cell? ⟨g,0,none⟩=some (.int .i64 p):=(Br.of_own (xs:=p::rest) z).at_ 0 (by simp);have bf:w.heap.size<=g:=(z.lt g rfl).1;obtain⟨K,C⟩:=nmd ((p::rest).length);rw[C]at bd⊢;have bm:((K:Int)==0)=false:=by rw[beq_eq_false_iff_ne];simp at C;omega
 have bo:¬(K=0):=by simp at C;omega
 have bl:(0:Int)<(K:Int):=by omega
 have s1:=c.o.1.later H;have bq:=s1.vault.c7;have bu:=s1.vault.fr 7;have kv:Kp [b] w1 (w1.setCell ⟨b,7,none⟩ (.int .i64 (v.done+1:Nat))):=(Kp.refl _ w1).setCell b 7 _ (.inl (by simp));have s2:=s1.ofVault kv (s1.vault.set7 (v.done+1));have a5:b≠n:=fun e=>c.o.2.2.2.2.1.1 (by simp[Ai.set,e]);have al:∀j,ev.ownBlock=some j->j∉[b]:=fun j a e=>(c.o.2.2.2.2.2 j a).1 (by simp at e;simp[Ai.set,e]);have bs:bp≠b:=fun e=>c.o.2.2.1.2 (by simp[Ai.set,e]);have l2:=(c.o.2.2.2.1.kp (S:=[]) (Kp.of_below H) (by simp) (by simp)).kp kv (by simpa using Ne.symm a5) al;have q:Kp (Ai.set x b wv) w (w1.setCell ⟨b,7,none⟩ (.int .i64 (v.done+1:Nat))):=(Kp.of_below H).setCell b 7 _ (.inl (by simp[Ai.set]));have U:=c.o.2.1.of_block (c.o.2.2.1.block q) q.size;obtain⟨w2,aa⟩:=nmd (w1.setCell ⟨b,7,none⟩ (.int .i64 (v.done+1:Nat)));rw[aa]at s2 l2 q U;have bh:w1.setCell ⟨b,7,none⟩ (.int .i64 ((v.done:Int)+1))=w2:=aa;have bg:=Aa (Aus n 0 leaf af es ev w2 l2 d.o.2.2.2.2.1 d.o.2.2.2.2.2.1.1 d.o.2.2.2.2.2.1.2);have f:=Aa (Ab s2 (Ab l2 (Ab q U)));have J:=Aa c.o.2.2.2.2;have br:=Aa c.o.2.2.1;clear s1 s2 l2 q U kv z H X c aa C bf;go_wp2_with fail;refine bg.o.mono ?_;rintro e F ⟨rfl,o⟩;have ay:=f.o.1.later o;have av:=f.o.2.1.kp (S:=[]) (Kp.of_below o) (by simp) (by simp);have a9:Kp (Ai.set x b wv) w F:=f.o.2.2.1.trans (Kp.of_below o);have Q:=f.o.2.2.2.below o f.o.2.2.2.lt;have V:=fun w' (hw:Bw F w')=>Axx bp v.tv rk (Fm leaf (es.map EG.em)) v.session (v.done+1) p w' (Q.below hw Q.lt) d.o.2.2.1 (by have:=d.o;omega) (by have:=d.o;omega) (by rw[Afq];decide);rw[bi.o]at V;have M:=Aa V;have i:=Aa (fun w' (hw:Bw F w')=>ay.later hw);obtain⟨au,a8⟩:=nmd (Fm leaf (es.map EG.em));rw[a8]at M⊢;have O:=Aa (Ab av a9);clear ay av a9 Q V f o a8 bh ba;go_wp2_with fail;refine Jx (fun w'=>Bw F w') (by kernel_rfl) (by kernel_rfl) (Ah _ _).drew ?_;refine Aq 0 (.pointer (some ⟨b,0,none⟩)) ?_;refine Aq 1 (.pointer (some ⟨b,0,none⟩)) ?_;refine Aq 2 (.pointer (some ⟨b,3,none⟩)) ?_;refine Cf 3 (.agg #[v.tv,.pointer (some ⟨bp,0,none⟩)]) rfl (by kernel_rfl) rfl (My fun w hw=>Tn _ _ 58 _ b 3 [v.tv,.pointer (some ⟨bp,0,none⟩)] rfl (by kernel_rfl) _ Tryz.underlying58 rfl (by kernel_rfl) w (Uy (i.o w hw).vault.c3 (by rw[(i.o w hw).vault.c4];exact congrArg some bb))) ?_;refine Aq 4 (.pointer (some ⟨b,0,none⟩)) ?_;refine Aq 5 (.pointer (some ⟨b,0,none⟩)) ?_;refine Aq 6 (.pointer (some ⟨b,6,none⟩)) ?_;refine Fp 7 (.int .i64 v.session) Qd (fun w hw=>(i.o w hw).vault.c6) ?_;refine Aq 8 (.pointer (some ⟨b,0,none⟩)) ?_;refine Aq 9 (.pointer (some ⟨b,0,none⟩)) ?_;refine Aq 10 (.pointer (some ⟨b,7,none⟩)) ?_;refine Fp 11 (.int .i64 (v.done+1:Nat)) Qd (fun w hw=>(i.o w hw).vault.c7) ?_;refine Aq 12 (.int .i64 p) ?_;refine Aq 13 (Ac au) ?_;refine Cf 14 (Ac T) rfl (by kernel_rfl) rfl (Gb (136) (#[.agg #[v.tv,.pointer (some ⟨bp,0,none⟩)],.int .i64 v.session,.int .i64 (v.done+1:Nat),.int .i64 p,.string ⟨au.toArray⟩]) (fun _=>by kernel_rfl) fun w hw=>(M.o w hw).mono fun e w2 h=>⟨h.1,hw.trans (h.2.mono hw.size)⟩) ?_;refine Aq 15 (Ac T) ?_;refine Dv.done (by kernel_rfl) fun ab D=>?_;simp only[Act.put,Cz,Dg,Co];have u:=i.o ab D;have bc:=u.vault.c0;have aw:=Aa (Aff x m wv p T ab u.disk d.o.1 d.o.2.2.2.1);have r:=Aa (Ab u (Ab (O.o.1.kp (S:=[]) (Kp.of_below D) (by simp) (by simp)) (O.o.2.trans (Kp.of_below D))));clear u O i M D;go_wp2_with fail;refine aw.o.mono ?_;rintro e an ⟨rfl,y,t,ad,P⟩;have am:=r.o.1.ofDisk y ad P;have ak:=r.o.2.1.kp y (fun e=>J.o.1.1 (Px e)) (fun j a e=>(J.o.2 j a).1 (Px e));have a1:Kp (Ai.set x b wv) w an:=r.o.2.2.trans (y.mono (fun j=>Px));have be:=r.o.2.2.size;have ao:Cd wv t w.heap.size:=fun j a=>(P j a).imp id (fun g=>Hb be g);have ax:=Aa (Af3 x b _ _ t p true an am (by have:=d.o;omega));have l:=Aa (Ab ak (Ab a1 ao));clear am ak a1 ao ad P y aw bc r;go_wp2_with fail;refine ax.o.mono ?_;rintro e ac ⟨rfl,A,R⟩;have a2:=l.o.1.kp R (by simpa using Ne.symm a5) al;have ap:Kp (Ai.set x b wv) w ac:=l.o.2.1.trans (R.mono (fun j a=>by simp at a;simp[Ai.set,a]));have Y:=Aa (Ad3 ⟨T.toArray⟩ ac A.hk A.h0 (by show T.length<=_;rw[a3.o];decide));have ae:Dz (ByteArray.mk T.toArray).data.toList=Dz T:=by simp
 rw[ae]at Y;have G:=Aa (Ab A (Ab a2 ap));clear A a2 ap R ax ae;go_wp2_with fail;refine Y.o.mono ?_;rintro e w7 ⟨rfl,s⟩;have k:=G.o.2.1.kp (S:=[]) (Kp.of_below s) (by simp) (by simp);have c1:=k.node.c1;have c2:=k.node.c2;have f1:=k.node.fr 1;have f2:=k.node.fr 2;have W:Kp [n] w7 ((w7.setCell ⟨n,1,none⟩ (.int .i64 p)).setCell ⟨n,2,none⟩ (Ac (Dz T))):=((Kp.refl [n] w7).setCell n 1 _ (.inl (by simp))).setCell n 2 _ (.inl (by simp));have aq:Ce x b t n:=J.o.1.later l.o.2.2 bj;have lf:=k.link p (Dz T);have az:=(G.o.1.later s).kp W (fun j a=>by simp at a;subst a;exact aq);have k8:Kp (n::Ai.set x b wv) w ((w7.setCell ⟨n,1,none⟩ (.int .i64 p)).setCell ⟨n,2,none⟩ (Ac (Dz T))):=((G.o.2.2.trans (Kp.of_below s)).mono (fun j a=>Nb _ a)).trans (W.mono (fun j a=>by simp at a;simp[a]));have E:=Aa (Ab az (Ab lf (Ab k8 l.o.2.2)));clear k W lf az k8 aq s Y G l;go_wp2_with fail;go_ret;exact⟨rfl,t,E.o.1,E.o.2.1,E.o.2.2.1,E.o.2.2.2⟩
end Go.Proofs.YtojgilcdgccojaaGreatDoor
