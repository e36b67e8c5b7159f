import Derived.OrdersHeld
import Derived.Test.YtojgilcdgccojaaGreatDoorAl
import Derived.Test.YtojgilcdgccojaaGreatDoorMAf
set_option linter.unusedSimpArgs false
set_option maxRecDepth 100000
set_option maxHeartbeats 8000000
namespace Go.Proofs.YtojgilcdgccojaaGreatDoor
open Go.RowKit
section
variable {P:Program}{md:Region.Mode}{ops:Array Oper}{Q:Exit->Act->World->Prop}{S:World->Prop}
def Wm (P:Program)(S:World->Prop)(m:Sem Next)(v:Value):Prop:=
 ∀w,S w->(∃w',m.run P w=.ok (.value v) w'/\S w')\/(∃f a,m.run P w=.ok (.enter f a) w/\Calls P f a w fun e w'=>e=.returned v/\S w')
def Oc (P:Program)(ops:Array Oper)(S:World->Prop)(b:Oper)(v:Value)(a:Act):Prop:=
 (Region.wanted b (yielded ops a.tmps)=true/\Wm P S (execOp a.eval b) v)\/(Region.wanted b (yielded ops a.tmps)=false/\v=undef)
theorem Oc.of_same {b:Oper}{v:Value}{a c:Act}(hy:Oc P ops S b v a)(d:execOp c.eval b=execOp a.eval b)
  (hw:Region.wanted b (yielded ops c.tmps)=Region.wanted b (yielded ops a.tmps)):Oc P ops S b v c:=by
 unfold Oc at*;rw[d,hw];exact hy
theorem Oc.wpOp {i:Nat}{b:Oper}{v:Value}{a:Act}(k:ops[i]?=some b)(hy:Oc P ops S b v a)
  {g:Act->World->Prop} {w:World} (d:S w) (h:∀w',S w'->g (a.put b.dst v) w'):wpOp P ops Q i g a w:=by
 unfold Go.wpOp;simp only[k];rcases hy with⟨hw,j⟩|⟨hw,rfl⟩
 ·simp only[hw,if_true];refine .inl ?_;unfold Oper.wp;rcases j w d with⟨w',hr,c⟩|⟨f,m,hr,l⟩
  ·rw[hr,Oper.upon_value];exact h w' c
  ·rw[hr,Oper.upon_enter];refine l.mono ?_;rintro e w' ⟨rfl,c⟩;exact h w' c
 ·simp only[hw,Ng,if_false];exact h w d
def Dv (P:Program)(md:Region.Mode)(ops:Array Oper)(Q:Exit->Act->World->Prop)(S:World->Prop):Nat->Array Bool->Act->Prop
 |0,listed,a=>Region.ready md ops listed=[]/\∀w,S w->Q .normal a w
 |fuel+1,listed,a=>(Region.ready md ops listed=[]/\∀w,S w->Q .normal a w)\/
   ∃i b v,ops[i]?=some b/\
    (∀j c,ops[j]?=some c->j≠i->listed.getD j true=false->(∀e∈c.after,Region.binds md e=true->e.on≠i)->b.apart ops c=true)/\
    i∈Region.ready md ops listed/\Oc P ops S b v a/\Dv P md ops Q S fuel (listed.setIfInBounds i true) (a.put b.dst v)
theorem Dv.done {b:Nat}{c:Array Bool}{a:Act}(hr:Region.ready md ops c=[])(h:∀w,S w->Q .normal a w):Dv P md ops Q S b c a:=by
 cases b with
 |zero=>exact⟨hr,h⟩
 |succ b=>exact .inl ⟨hr,h⟩
theorem Dv.take {f:Nat}{c:Array Bool}{a:Act}(i:Nat)(b:Oper)(v:Value)(g:ops[i]?=some b)
  (k:∀j d,ops[j]?=some d->j≠i->c.getD j true=false->(∀e∈d.after,Region.binds md e=true->e.on≠i)->b.apart ops d=true)
  (hr:i∈Region.ready md ops c) (hy:Oc P ops S b v a) (h:Dv P md ops Q S f (c.setIfInBounds i true) (a.put b.dst v)):Dv P md ops Q S (f+1) c a:=
 .inr ⟨i,b,v,g,k,hr,hy,h⟩
theorem Dv.swap (x:∀(j:Nat) (w:Oper) cs b,ops[j]?=some w->w.op≠.select cs b):
  ∀(l:Nat) (f:Array Bool) (a:Act),Dv P md ops Q S l f a->∀j,j∈Region.ready md ops f->∃o c v,l=o+1/\ops[j]?=some c/\Oc P ops S c v a/\Dv P md ops Q S o (f.setIfInBounds j true) (a.put c.dst v):=by
 intro l
 induction l with
 |zero=>intro f a W j g;rw[W.1]at g;cases g
 |succ l ih=>
  intro f a W j g;rcases W with⟨hr,_⟩|⟨i,d,v,p,A,hr,hy,h⟩
  ·rw[hr]at g;cases g
  ·by_cases m:j=i
   ·subst m;exact⟨l,d,v,rfl,p,hy,h⟩
   ·obtain⟨o,c,u,C,n,D,J⟩:=ih _ _ h j (ready_mono g m);obtain⟨z,R,r,K⟩:=mem_ready.1 g;rw[n]at r;cases r
    have N:∀e∈c.after,Region.binds md e=true->e.on≠i:=fun e I hb G=>by
     have h1:=K e I hb;have h0:=(mem_ready.1 hr).1;rw[G]at h1;rcases Hv i f.size with q|q
     ·simp[q]at h0 h1;rw[h0]at h1;cases h1
     ·simp[Ot q]at h1
    have O:=A j c n m z N;obtain⟨h1,h2,t⟩:=Oper.apart_spec O;have H:Oc P ops S c u a:=D.of_same (execOp_put c (fun cs b=>x j c cs b n) a d.dst v h1).symm (wanted_put c a d.dst v h1).symm;have F:Oc P ops S d v (a.put c.dst u):=hy.of_same (execOp_put d (fun cs b=>x i d cs b p) a c.dst u t) (wanted_put d a c.dst u t)
    have E:∀k ok,ops[k]?=some ok->k≠i->(f.setIfInBounds j true).getD k true=false->
      (∀e∈ok.after,Region.binds md e=true->e.on≠i)->d.apart ops ok=true:=fun k ok hk L y M=>by
     refine A k ok hk L ?_ M;by_cases s:j=k
     ·subst s;exact z
     ·rw[getD_set_ne true s]at y;exact y
    subst C;refine⟨o+1,c,u,rfl,n,H,Dv.take i d v p E (ready_mono hr (Ne.symm m)) F ?_⟩;rw[Array.setIfInBounds_comm _ _ m,<-Act.put_comm a v u h2];exact J
theorem Dv.any (n:∀(j:Nat) (g:Oper) cs b,ops[j]?=some g->g.op≠.select cs b):
  ∀(c:Nat) (e:Array Bool) (a:Act),Dv P md ops Q S c e a->∀w,S w->wpAny P md ops Q c e a w:=by
 intro c
 induction c with
 |zero=>intro e a W w d;exact⟨W.1,W.2 w d⟩
 |succ c ih=>
  intro e a W w d;refine⟨fun hr=>?_,fun j q=>?_⟩
  ·rcases W with⟨_,h⟩|⟨i,r,v,s,y,f,hy,h⟩
   ·exact h w d
   ·rw[hr]at f;cases f
  ·obtain⟨t,x,u,k,l,m,p⟩:=Dv.swap n _ _ _ W j q;cases k;exact m.wpOp l d (fun w' o=>ih _ _ p w' o)
theorem Jx {id:Nat}{a:Act}{w:World}(S:World->Prop)(d:P.follows .mixedOrders=true)(b:Region.noSelect ops=true)(c:S w.drew)
  (h:Dv P .any ops Q S ops.size (Array.replicate ops.size false) a):(Code.region id ops true).wp P Q a w:=
 wp_region_any d (Dv.any (Region.noSelect_spec b) _ _ _ h _ c)
theorem Cf {f:Nat}{c:Array Bool}{a:Act}(i:Nat){b:Oper}{d:Tmp}(v:Value)(e:ops[i]?=some b)(hb:(Region.free md ops c i&&(Region.ready md ops c).contains i&&Region.wanted b (yielded ops a.tmps))=true)(hd:b.dst=some d)(hy:Wm P S (execOp a.eval b) v)(h:Dv P md ops Q S f (c.setIfInBounds i true) (a.put (some d) v)):Dv P md ops Q S (f+1) c a:=by
 obtain⟨⟨g,hr⟩,hw⟩:(_/\_)/\_:=by simpa only[Qw]using hb
 exact Dv.take i b v e (Region.free_spec e g) (by simpa using hr) (.inl ⟨hw,hy⟩) (hd▸h)
theorem Cp {m:Sem Next}{v:Value}(h:∀w,m.run P w=.ok (.value v) w):Wm P S m v:=fun w a=>.inl ⟨w,h w,a⟩
theorem My {m:Sem Next}{v:Value}(h:∀w,S w->m.run P w=.ok (.value v) w):Wm P S m v:=fun w a=>.inl ⟨w,h w a,a⟩
theorem Gb {m:Sem Next}{v:Value}(f:FuncId)(a:Array Value)(hr:∀w,m.run P w=.ok (.enter f a) w)(b:∀w,S w->Calls P f a w fun e w'=>e=.returned v/\S w'):Wm P S m v:=fun w c=>.inr ⟨f,a,hr w,b w c⟩
theorem Aq {e:Nat}{c:Array Bool}{a:Act}(i:Nat){b:Oper}{d:Tmp}(v:Value)(h:Dv P md ops Q S e (c.setIfInBounds i true) (a.put (some d) v))(f:ops[i]?=some b:=by rfl)(hb:(Region.free md ops c i&&(Region.ready md ops c).contains i&&Region.wanted b (yielded ops a.tmps))=true:=by kernel_rfl)(hd:b.dst=some d:=by rfl)(hy:∀w,(execOp a.eval b).run P w=.ok (.value v) w:=by intro _;kernel_rfl):Dv P md ops Q S (e+1) c a:=Cf i v f hb hd (Cp hy) h
theorem Fp {g:Nat}{f:Array Bool}{a:Act}(i:Nat){c:Oper}{d:Tmp}(v:Value){T:TypeId}{x:Operand}{b e:Nat}(n:∀(c:Oper) (a:Act) (x:Operand) (b e:Nat) (v:Value),c.op=.load T x->a.eval x=.pointer (some ⟨b,e,none⟩)->∀w:World,w.cell? ⟨b,e,none⟩=some v->(execOp a.eval c).run P w=.ok (.value v) w)(k:∀w,S w->w.cell? ⟨b,e,none⟩=some v)(h:Dv P md ops Q S g (f.setIfInBounds i true) (a.put (some d) v))(m:ops[i]?=some c:=by rfl)(hb:(Region.free md ops f i&&(Region.ready md ops f).contains i&&Region.wanted c (yielded ops a.tmps))=true:=by kernel_rfl)(hd:c.dst=some d:=by rfl)(j:c.op=.load T x:=by rfl)(l:a.eval x=.pointer (some ⟨b,e,none⟩):=by kernel_rfl):Dv P md ops Q S (g+1) f a:=Cf i v m hb hd (My fun w hw=>n c a x b e v j l w (k w hw)) h
end
theorem Nn (c:Oper)(a:Act)(x d:Operand)(U:TypeId)(X b:By)(e:c.op=.binOp .add 9 x d U)(f:a.eval x=.string ⟨X.toArray⟩)(hy:a.eval d=.string ⟨b.toArray⟩)(g:X.length+b.length<=9223372036854775807)(w:World):
  (execOp a.eval c).run Tryz.prog w=.ok (.value (.string ⟨(X++b).toArray⟩)) w:=by
 have h:=Xo X b g w;unfold execOp;simp only[e,f,hy];clear f hy e
 go_simp
theorem Im (d:Oper)(a:Act)(x:Operand)(b c:Nat)(v:Value)(e:d.op=.load 9 x)(f:a.eval x=.pointer (some ⟨b,c,none⟩))(w:World)(g:w.cell? ⟨b,c,none⟩=some v):
  (execOp a.eval d).run Tryz.prog w=.ok (.value v) w:=by
 unfold execOp;simp only[e,f];clear f e
 go_simp
theorem Qd (d:Oper)(a:Act)(x:Operand)(b c:Nat)(v:Value)(e:d.op=.load 3 x)(f:a.eval x=.pointer (some ⟨b,c,none⟩))(w:World)(g:w.cell? ⟨b,c,none⟩=some v):
  (execOp a.eval d).run Tryz.prog w=.ok (.value v) w:=by
 unfold execOp;simp only[e,f];clear f e
 go_simp
theorem Ake (d:Oper)(a:Act)(x:Operand)(b c:Nat)(v:Value)(e:d.op=.load 56 x)(f:a.eval x=.pointer (some ⟨b,c,none⟩))(w:World)(g:w.cell? ⟨b,c,none⟩=some v):
  (execOp a.eval d).run Tryz.prog w=.ok (.value v) w:=by
 unfold execOp;simp only[e,f];clear f e
 go_simp
theorem Afv (b:Oper)(a:Act)(x c:Operand)(U:TypeId)(i j:Int)(r:Bool)(d:b.op=.binOp .lss 3 x c U)(e:a.eval x=.int .i64 i)(hy:a.eval c=.int .i64 j)(hr:decide (i<j)=r)(w:World):
  (execOp a.eval b).run Tryz.prog w=.ok (.value (.bool r)) w:=by
 subst hr;unfold execOp;simp only[d,e,hy];clear e hy d
 go_simp
theorem Aii (b:Oper)(a:Act)(x c:Operand)(U:TypeId)(i j:Int)(r:Bool)(d:b.op=.binOp .geq 3 x c U)(e:a.eval x=.int .i64 i)(hy:a.eval c=.int .i64 j)(hr:decide (j<=i)=r)(w:World):
  (execOp a.eval b).run Tryz.prog w=.ok (.value (.bool r)) w:=by
 subst hr;unfold execOp;simp only[d,e,hy];clear e hy d
 go_simp
theorem Aou (d:Oper)(a:Act)(x:Operand)(b c:Nat)(v:Value)(e:d.op=.load 32 x)(f:a.eval x=.pointer (some ⟨b,c,none⟩))(w:World)(g:w.cell? ⟨b,c,none⟩=some v):
  (execOp a.eval d).run Tryz.prog w=.ok (.value v) w:=by
 unfold execOp;simp only[e,f];clear f e
 go_simp
theorem Ad0 (d:Oper)(a:Act)(x:Operand)(b c:Nat)(v:Value)(e:d.op=.load 31 x)(f:a.eval x=.pointer (some ⟨b,c,none⟩))(w:World)(g:w.cell? ⟨b,c,none⟩=some v):
  (execOp a.eval d).run Tryz.prog w=.ok (.value v) w:=by
 unfold execOp;simp only[e,f];clear f e
 go_simp
theorem Aj8 (b:Oper)(a:Act)(x:Operand)(n:Nat)(X:By)(c:b.op=.slice 9 x none (some (.const (.int .i64 n))) none)(d:a.eval x=.string ⟨X.toArray⟩)(g:n<=X.length)(j:X.length<=100000)(w:World):
  (execOp a.eval b).run Tryz.prog w=.ok (.value (.string ⟨(X.take n).toArray⟩)) w:=by
 have e:(ByteArray.mk X.toArray).size=X.length:=rfl;have f:(ByteArray.mk X.toArray).extract 0 n=⟨(X.take n).toArray⟩:=by rw[ByteArray.extract_mk];simp
 have h:(n:Int)<=(X.length:Int):=by omega
 have i:(X.length:Int)<=100000:=by omega
 generalize X.length=L at*;unfold execOp;simp only[c,d];clear d c
 go_simp
theorem Ama (b:Oper)(a:Act)(x:Operand)(n:Nat)(X:By)(c:b.op=.slice 9 x (some (.const (.int .i64 n))) none none)(d:a.eval x=.string ⟨X.toArray⟩)(g:n<=X.length)(j:X.length<=100000)(w:World):
  (execOp a.eval b).run Tryz.prog w=.ok (.value (.string ⟨(X.drop n).toArray⟩)) w:=by
 have e:(ByteArray.mk X.toArray).size=X.length:=rfl;have f:(ByteArray.mk X.toArray).extract n X.length=⟨(X.drop n).toArray⟩:=by rw[ByteArray.extract_mk,Du (by simp)]
 have h:(n:Int)<=(X.length:Int):=by omega
 have i:(X.length:Int)<=100000:=by omega
 generalize X.length=L at*;unfold execOp;simp only[c,d];clear d c
 go_simp
section
variable {P:Program}{md:Region.Mode}{ops:Array Oper}{Q:Exit->Act->World->Prop}{T:Nat->World->Prop}
def Rm (P:Program)(S b:World->Prop)(m:Sem Next)(v:Value):Prop:=
 ∀w,S w->(∃w',(m.run P w=.ok (.value v) w'\/(m.run P w=.ok .skip w'/\v=undef))/\b w')\/(∃f a,m.run P w=.ok (.enter f a) w/\Calls P f a w fun e w'=>e=.returned v/\b w')
def Ud (P:Program)(ops:Array Oper)(S c:World->Prop)(b:Oper)(v:Value)(a:Act):Prop:=
 Region.wanted b (yielded ops a.tmps)=true/\Rm P S c (execOp a.eval b) v
theorem Ud.of_same {S d:World->Prop}{b:Oper}{v:Value}{a c:Act}(hy:Ud P ops S d b v a)(e:execOp c.eval b=execOp a.eval b)
  (hw:Region.wanted b (yielded ops c.tmps)=Region.wanted b (yielded ops a.tmps)):Ud P ops S d b v c:=by
 unfold Ud at*;rw[e,hw];exact hy
theorem Ud.wpOp {S g:World->Prop}{i:Nat}{c:Oper}{v:Value}{a:Act}(l:ops[i]?=some c)(hy:Ud P ops S g c v a)
  {d:Act->World->Prop} {w:World} (k:S w) (h:∀w',g w'->d (a.put c.dst v) w'):wpOp P ops Q i d a w:=by
 unfold Go.wpOp;simp only[l];obtain⟨hw,j⟩:=hy;simp only[hw,if_true];refine .inl ?_;unfold Oper.wp;rcases j w k with⟨w',hr|⟨hr,rfl⟩,b⟩|⟨f,n,hr,m⟩
 ·rw[hr,Oper.upon_value];exact h w' b
 ·rw[hr,Oper.upon_skip];exact h w' b
 ·rw[hr,Oper.upon_enter];refine m.mono ?_;rintro e w' ⟨rfl,b⟩;exact h w' b
def Rk (md:Region.Mode)(ops:Array Oper):Nat->Nat->Nat->Bool
 |0,_,_=>false
 |f+1,k,i=>match ops[k]? with
  |none=>false
  |some ok=>ok.after.any fun e=>Region.binds md e&&(e.on==i||Rk md ops f e.on i)
def Ub (md:Region.Mode)(ops:Array Oper)(b:Array Bool):Prop:=∀j a,ops[j]?=some a->b.getD j false=true->∀e∈a.after,Region.binds md e=true->b.getD e.on false=true
theorem Ahx {b:Array Bool}(l:Ub md ops b):∀(f k i:Nat) (ok:Oper),Rk md ops f k i=true->ops[k]?=some ok->(∀e∈ok.after,Region.binds md e=true->b.getD e.on false=true)->b.getD i false=true
 |0,_,_,_,h,_,_=>by cases h
 |f+1,k,i,ok,h,hk,hall=>by
  unfold Rk at h;rw[hk]at h;simp only[Array.any_eq_true']at h;obtain⟨e,m,h⟩:=h;rw[Qw,Bool.or_eq_true]at h;have j:=hall e m h.1;rcases h.2 with g|g
  ·rw[<-(beq_iff_eq.1 g)];exact j
  ·have a:=g
   cases f with
   |zero=>cases a
   |succ f=>
    unfold Rk at a
    cases c:ops[e.on]? with
    |none=>rw[c]at a;cases a
    |some d=>exact Ahx l (f+1) e.on i d g c (l e.on d c j)
theorem Ub.next {a:Array Bool}(n:Ub md ops a){j:Nat}(f:j∈Region.ready md ops a):Ub md ops (a.setIfInBounds j true):=by
 obtain⟨_,o,l,m⟩:=mem_ready.1 f
 have c:∀k,a.getD k false=true->(a.setIfInBounds j true).getD k false=true:=fun k hk=>by
  by_cases h:j=k
  ·subst h;rcases Hv j a.size with g|g
   ·simp[g]
   ·simp[Ot g]at hk
  ·rw[getD_set_ne false h];exact hk
 intro k i hk d e b hb;by_cases h:j=k
 ·subst h;rw[l]at hk;cases hk;exact c _ (m e b hb)
 ·rw[getD_set_ne false h]at d;exact c _ (n k i hk d e b hb)
theorem Ub.start (n:Nat):Ub md ops (Array.replicate n false):=fun j b _ a=>by
 rcases Hv j n with g|g
 ·simp[g]at a
 ·simp[g]at a
def Cj (P:Program)(md:Region.Mode)(ops:Array Oper)(Q:Exit->Act->World->Prop)(T:Nat->World->Prop):Nat->Nat->List Nat->Array Bool->Act->Prop
 |0,p,_,listed,a=>Region.ready md ops listed=[]/\∀w,T p w->Q .normal a w
 |fuel+1,p,E,listed,a=>(Region.ready md ops listed=[]/\∀w,T p w->Q .normal a w)\/
   (∃i b v B,ops[i]?=some b/\i∉E/\
    (∀j c,ops[j]?=some c->j≠i->listed.getD j true=false->(∀e∈c.after,Region.binds md e=true->e.on≠i)->b.apart ops c=true)/\
    i∈Region.ready md ops listed/\p<=B/\(∀q,q<=B->Oc P ops (T q) b v a)/\(∀k∈E.drop (B-p),Rk md ops ops.size k i=true)/\Cj P md ops Q T fuel p E (listed.setIfInBounds i true) (a.put b.dst v))\/
   (∃i d b v,E=i::d/\ops[i]?=some b/\
    (∀j c,ops[j]?=some c->j≠i->listed.getD j true=false->(∀e∈c.after,Region.binds md e=true->e.on≠i)->b.apart ops c=true)/\
    i∈Region.ready md ops listed/\(∀j∈d,Rk md ops ops.size j i=true)/\Ud P ops (T p) (T (p+1)) b v a/\Cj P md ops Q T fuel (p+1) d (listed.setIfInBounds i true) (a.put b.dst v))
theorem Cj.done {b p:Nat}{d:List Nat}{c:Array Bool}{a:Act}(hr:Region.ready md ops c=[])(h:∀w,T p w->Q .normal a w):Cj P md ops Q T b p d c a:=by
 cases b with
 |zero=>exact⟨hr,h⟩
 |succ b=>exact .inl ⟨hr,h⟩
theorem Cj.swap (L:∀(j:Nat) (o:Oper) cs b,ops[j]?=some o->o.op≠.select cs b):
  ∀(x p:Nat) (y:List Nat) (m:Array Bool) (a:Act),Ub md ops m->Cj P md ops Q T x p y m a->∀j,j∈Region.ready md ops m->∃w c v,x=w+1/\ops[j]?=some c/\
   ((j∉y/\(∃B,p<=B/\(∀q,q<=B->Oc P ops (T q) c v a)/\(∀k∈y.drop (B-p),Rk md ops ops.size k j=true))/\Cj P md ops Q T w p y (m.setIfInBounds j true) (a.put c.dst v))\/
    (∃s,y=j::s/\Ud P ops (T p) (T (p+1)) c v a/\Cj P md ops Q T w (p+1) s (m.setIfInBounds j true) (a.put c.dst v))):=by
 intro x
 induction x with
 |zero=>intro p y m a A W j r;rw[W.1]at r;cases r
 |succ x ih=>
  intro p y m a A W j r;rcases W with⟨hr,_⟩|⟨i,d,v,B,t,ae,J,hr,ah,hy,F,h⟩|⟨i,s,d,v,rfl,t,J,hr,ag,hy,h⟩
  ·rw[hr]at r;cases r
  ·by_cases l:j=i
   ·subst l;exact⟨x,d,v,rfl,t,.inl ⟨ae,⟨B,ah,hy,F⟩,h⟩⟩
   ·obtain⟨w,c,u,V,n,ab⟩:=ih _ _ _ _ (A.next hr) h j (ready_mono r l);obtain⟨I,al,z,O⟩:=mem_ready.1 r;rw[n]at z;cases z
    have aa:∀e∈c.after,Region.binds md e=true->e.on≠i:=fun e Y hb ac=>by
     have h1:=O e Y hb;have h0:=(mem_ready.1 hr).1;rw[ac]at h1;rcases Hv i m.size with f|f
     ·simp[f]at h0 h1;rw[h0]at h1;cases h1
     ·simp[Ot f]at h1
    have af:=J j c n l I aa;obtain⟨h1,h2,D⟩:=Oper.apart_spec af
    have S:∀k ok,ops[k]?=some ok->k≠i->(m.setIfInBounds j true).getD k true=false->
      (∀e∈ok.after,Region.binds md e=true->e.on≠i)->d.apart ops ok=true:=fun k ok hk Z H ad=>by
     refine J k ok hk Z ?_ ad;by_cases C:j=k
     ·subst C;exact I
     ·rw[getD_set_ne true C]at H;exact H
    have N:∀q,q<=B->Oc P ops (T q) d v (a.put c.dst u):=fun q G=>(hy q G).of_same (execOp_put d (fun cs b=>L i d cs b t) a c.dst u D) (wanted_put d a c.dst u D);subst V;rcases ab with⟨U,⟨E,ai,K,X⟩,M⟩|⟨s,rfl,K,M⟩
    ·refine⟨w+1,c,u,rfl,n,.inl ⟨U,⟨E,ai,fun q G=>(K q G).of_same (execOp_put c (fun cs b=>L j c cs b n) a d.dst v h1).symm (wanted_put c a d.dst v h1).symm,X⟩,.inr (.inl ⟨i,d,v,B,t,ae,S,ready_mono hr (Ne.symm l),ah,N,F,?_⟩)⟩⟩;rw[Array.setIfInBounds_comm _ _ l,<-Act.put_comm a v u h2];exact M
    ·have am:p+1<=B:=by
      rcases Hv p B with g|g
      ·exact g
      ·exfalso;have:B-p=0:=by omega
       rw[this]at F;have R:=Ahx A _ j i c (F j (by simp)) n O;have h0:=(mem_ready.1 hr).1;rcases Hv i m.size with f|f
       ·simp[f]at h0 R;rw[h0]at R;cases R
       ·simp[Ot f]at R
     refine⟨w+1,c,u,rfl,n,.inr ⟨s,rfl,K.of_same (execOp_put c (fun cs b=>L j c cs b n) a d.dst v h1).symm (wanted_put c a d.dst v h1).symm,.inr (.inl ⟨i,d,v,B,t,fun g=>ae (Nb _ g),S,ready_mono hr (Ne.symm l),am,N,fun k hk=>F k (by
      have e:B-p=(B-(p+1))+1:=by omega
      rw[e,List.drop_succ_cons];exact hk),?_⟩)⟩⟩
     rw[Array.setIfInBounds_comm _ _ l,<-Act.put_comm a v u h2];exact M
  ·by_cases l:j=i
   ·subst l;exact⟨x,d,v,rfl,t,.inr ⟨s,rfl,hy,h⟩⟩
   ·obtain⟨w,c,u,V,n,ab⟩:=ih _ _ _ _ (A.next hr) h j (ready_mono r l);obtain⟨I,al,z,O⟩:=mem_ready.1 r;rw[n]at z;cases z
    have U:j∉s:=fun g=>by
     obtain⟨_,aj,an,ak⟩:=mem_ready.1 r;have h1:=Ahx A _ j i aj (ag j g) an ak;have h0:=(mem_ready.1 hr).1;rcases Hv i m.size with f|f
     ·simp[f]at h0 h1;rw[h0]at h1;cases h1
     ·simp[Ot f]at h1
    have aa:∀e∈c.after,Region.binds md e=true->e.on≠i:=fun e Y hb ac=>by
     have h1:=O e Y hb;have h0:=(mem_ready.1 hr).1;rw[ac]at h1;rcases Hv i m.size with f|f
     ·simp[f]at h0 h1;rw[h0]at h1;cases h1
     ·simp[Ot f]at h1
    have af:=J j c n l I aa;obtain⟨h1,h2,D⟩:=Oper.apart_spec af
    have S:∀k ok,ops[k]?=some ok->k≠i->(m.setIfInBounds j true).getD k true=false->
      (∀e∈ok.after,Region.binds md e=true->e.on≠i)->d.apart ops ok=true:=fun k ok hk Z H ad=>by
     refine J k ok hk Z ?_ ad;by_cases C:j=k
     ·subst C;exact I
     ·rw[getD_set_ne true C]at H;exact H
    subst V;rcases ab with⟨_,⟨E,ai,K,X⟩,M⟩|⟨ao,rfl,_,_⟩
    ·have N:Ud P ops (T p) (T (p+1)) d v (a.put c.dst u):=hy.of_same (execOp_put d (fun cs b=>L i d cs b t) a c.dst u D) (wanted_put d a c.dst u D)
     refine⟨w+1,c,u,rfl,n,.inl ⟨fun g=>(Al.1 g).elim l U,⟨E,by omega,fun q G=>(K q G).of_same (execOp_put c (fun cs b=>L j c cs b n) a d.dst v h1).symm (wanted_put c a d.dst v h1).symm,fun k hk=>X k (by
      have e:E-p=(E-(p+1))+1:=by omega
      rw[e,List.drop_succ_cons]at hk;exact hk)⟩,.inr (.inr ⟨i,s,d,v,rfl,t,S,ready_mono hr (Ne.symm l),ag,N,?_⟩)⟩⟩
     rw[Array.setIfInBounds_comm _ _ l,<-Act.put_comm a v u h2];exact M
    ·exact absurd (Qu) U
theorem Cj.any (C:∀(j:Nat) (r:Oper) cs b,ops[j]?=some r->r.op≠.select cs b):
  ∀(f p:Nat) (o:List Nat) (e:Array Bool) (a:Act),Ub md ops e->Cj P md ops Q T f p o e a->∀w,T p w->wpAny P md ops Q f e a w:=by
 intro f
 induction f with
 |zero=>intro p o e a _ W w c;exact⟨W.1,W.2 w c⟩
 |succ f ih=>
  intro p o e a g W w c;refine⟨fun hr=>?_,fun j n=>?_⟩
  ·rcases W with⟨_,h⟩|⟨i,y,v,B,z,H,D,d,s,hy,G,h⟩|⟨i,A,y,v,rfl,z,D,d,I,hy,h⟩
   ·exact h w c
   ·rw[hr]at d;cases d
   ·rw[hr]at d;cases d
  ·obtain⟨E,F,u,t,q,x⟩:=Cj.swap C _ _ _ _ _ g W j n;cases t;rcases x with⟨_,⟨B,s,k,_⟩,l⟩|⟨A,rfl,k,l⟩
   ·exact(k p s).wpOp q c (fun w' m=>ih _ _ _ _ (g.next n) l w' m)
   ·exact k.wpOp q c (fun w' m=>ih _ _ _ _ (g.next n) l w' m)
theorem Gf {id:Nat}{a:Act}{w:World}(T:Nat->World->Prop)(c:List Nat)(e:P.follows .mixedOrders=true)(b:Region.noSelect ops=true)(d:T 0 w.drew)
  (h:Cj P .any ops Q T ops.size 0 c (Array.replicate ops.size false) a):(Code.region id ops true).wp P Q a w:=
 wp_region_any e (Cj.any (Region.noSelect_spec b) _ _ _ _ _ (Ub.start _) h _ d)
theorem Em {g p:Nat}{c:List Nat}{e:Array Bool}{a:Act}(i:Nat){b:Oper}{d:Tmp}(v:Value)(f:ops[i]?=some b)(hb:(!c.contains i&&Region.free md ops e i&&(Region.ready md ops e).contains i&&Region.wanted b (yielded ops a.tmps))=true)(hd:b.dst=some d)(hy:∀q,Wm P (T q) (execOp a.eval b) v)(h:Cj P md ops Q T g p c (e.setIfInBounds i true) (a.put (some d) v)):Cj P md ops Q T (g+1) p c e a:=by
 obtain⟨⟨⟨k,j⟩,hr⟩,hw⟩:((_/\_)/\_)/\_:=by simpa only[Qw]using hb
 exact .inr (.inl ⟨i,b,v,p+c.length,f,by simpa using k,Region.free_spec f j,by simpa using hr,by omega,fun q _=>.inl ⟨hw,hy q⟩,by simp,hd▸h⟩)
theorem Am {f p:Nat}{e:List Nat}{c:Array Bool}{a:Act}(i:Nat){b:Oper}{d:Tmp}(v:Value)(h:Cj P md ops Q T f p e (c.setIfInBounds i true) (a.put (some d) v))(g:ops[i]?=some b:=by rfl)(hb:(!e.contains i&&Region.free md ops c i&&(Region.ready md ops c).contains i&&Region.wanted b (yielded ops a.tmps))=true:=by kernel_rfl)(hd:b.dst=some d:=by rfl)(hy:∀w,(execOp a.eval b).run P w=.ok (.value v) w:=by intro _;kernel_rfl):Cj P md ops Q T (f+1) p e c a:=Em i v g hb hd (fun _=>Cp hy) h
theorem Gv {k p:Nat}{g:List Nat}{f:Array Bool}{a:Act}(i:Nat){c:Oper}{d:Tmp}(v:Value){j:TypeId}{x:Operand}{b e:Nat}(r:∀(c:Oper) (a:Act) (x:Operand) (b e:Nat) (v:Value),c.op=.load j x->a.eval x=.pointer (some ⟨b,e,none⟩)->∀w:World,w.cell? ⟨b,e,none⟩=some v->(execOp a.eval c).run P w=.ok (.value v) w)(l:∀q w,T q w->w.cell? ⟨b,e,none⟩=some v)(h:Cj P md ops Q T k p g (f.setIfInBounds i true) (a.put (some d) v))(o:ops[i]?=some c:=by rfl)(hb:(!g.contains i&&Region.free md ops f i&&(Region.ready md ops f).contains i&&Region.wanted c (yielded ops a.tmps))=true:=by kernel_rfl)(hd:c.dst=some d:=by rfl)(m:c.op=.load j x:=by rfl)(n:a.eval x=.pointer (some ⟨b,e,none⟩):=by kernel_rfl):Cj P md ops Q T (k+1) p g f a:=Em i v o hb hd (fun q=>My fun w hw=>r c a x b e v m n w (l q w hw)) h
theorem Amc {g p:Nat}{e:List Nat}{c:Array Bool}{a:Act}(i B:Nat){b:Oper}{d:Tmp}(v:Value)(f:ops[i]?=some b)(hb:(!e.contains i&&Region.free md ops c i&&(Region.ready md ops c).contains i&&Region.wanted b (yielded ops a.tmps))=true)(hd:b.dst=some d)(j:p<=B)(m:(e.drop (B-p)).all (fun k=>Rk md ops ops.size k i)=true)(hy:∀q,q<=B->Wm P (T q) (execOp a.eval b) v)(h:Cj P md ops Q T g p e (c.setIfInBounds i true) (a.put (some d) v)):Cj P md ops Q T (g+1) p e c a:=by
 obtain⟨⟨⟨n,l⟩,hr⟩,hw⟩:((_/\_)/\_)/\_:=by simpa only[Qw]using hb
 exact .inr (.inl ⟨i,b,v,B,f,by simpa using n,Region.free_spec f l,by simpa using hr,j,fun q o=>.inl ⟨hw,hy q o⟩,fun k hk=>Ya.1 m k hk,hd▸h⟩)
theorem Mh {l p:Nat}{f:List Nat}{g:Array Bool}{a:Act}(i B:Nat){c:Oper}{d:Tmp}(v:Value){j:TypeId}{x:Operand}{b e:Nat}(y:∀(c:Oper) (a:Act) (x:Operand) (b e:Nat) (v:Value),c.op=.load j x->a.eval x=.pointer (some ⟨b,e,none⟩)->∀w:World,w.cell? ⟨b,e,none⟩=some v->(execOp a.eval c).run P w=.ok (.value v) w)(n:∀q,q<=B->∀w,T q w->w.cell? ⟨b,e,none⟩=some v)(h:Cj P md ops Q T l p f (g.setIfInBounds i true) (a.put (some d) v))(u:ops[i]?=some c:=by rfl)(hb:(!f.contains i&&Region.free md ops g i&&(Region.ready md ops g).contains i&&Region.wanted c (yielded ops a.tmps))=true:=by kernel_rfl)(hd:c.dst=some d:=by rfl)(m:p<=B:=by decide)(t:(f.drop (B-p)).all (fun k=>Rk md ops ops.size k i)=true:=by kernel_rfl)(o:c.op=.load j x:=by rfl)(r:a.eval x=.pointer (some ⟨b,e,none⟩):=by kernel_rfl):Cj P md ops Q T (l+1) p f g a:=Amc i B v u hb hd m t (fun q s=>My fun w hw=>y c a x b e v o r w (n q s w hw)) h
theorem Zr {g p:Nat}{b:List Nat}{e:Array Bool}{a:Act}(i:Nat){c:Oper}{d:Tmp}(f:ops[i]?=some c)(hb:(!b.contains i&&Region.free md ops e i&&(Region.ready md ops e).contains i&& !Region.wanted c (yielded ops a.tmps))=true)(hd:c.dst=some d)(h:Cj P md ops Q T g p b (e.setIfInBounds i true) (a.put (some d) undef)):Cj P md ops Q T (g+1) p b e a:=by
 obtain⟨⟨⟨k,j⟩,hr⟩,hw⟩:((_/\_)/\_)/\_:=by simpa only[Qw]using hb
 exact .inr (.inl ⟨i,c,undef,p+b.length,f,by simpa using k,Region.free_spec f j,by simpa using hr,by omega,fun _ _=>.inr ⟨by simpa using hw,rfl⟩,by simp,hd▸h⟩)
theorem Gr {g p:Nat}{c:List Nat}{e:Array Bool}{a:Act}(i:Nat){b:Oper}{d:Tmp}(v:Value)(f:ops[i]?=some b)(hb:(Region.free md ops e i&&(Region.ready md ops e).contains i&&c.all (fun j=>Rk md ops ops.size j i)&&Region.wanted b (yielded ops a.tmps))=true)(hd:b.dst=some d)(hy:Rm P (T p) (T (p+1)) (execOp a.eval b) v)(h:Cj P md ops Q T g (p+1) c (e.setIfInBounds i true) (a.put (some d) v)):Cj P md ops Q T (g+1) p (i::c) e a:=by
 obtain⟨⟨⟨k,hr⟩,m⟩,hw⟩:((_/\_)/\_)/\_:=by simpa only[Qw]using hb
 exact .inr (.inr ⟨i,c,b,v,rfl,f,Region.free_spec f k,by simpa using hr,fun j l=>Ya.1 m j l,⟨hw,hy⟩,hd▸h⟩)
theorem Kr {f p:Nat}{c:List Nat}{d:Array Bool}{a:Act}(i:Nat){b:Oper}(e:ops[i]?=some b)(hb:(Region.free md ops d i&&(Region.ready md ops d).contains i&&c.all (fun j=>Rk md ops ops.size j i)&&Region.wanted b (yielded ops a.tmps))=true)(hd:b.dst=none)(hy:Rm P (T p) (T (p+1)) (execOp a.eval b) undef)(h:Cj P md ops Q T f (p+1) c (d.setIfInBounds i true) a):Cj P md ops Q T (f+1) p (i::c) d a:=by
 obtain⟨⟨⟨l,hr⟩,k⟩,hw⟩:((_/\_)/\_)/\_:=by simpa only[Qw]using hb
 exact .inr (.inr ⟨i,c,b,undef,rfl,e,Region.free_spec e l,by simpa using hr,fun j g=>Ya.1 k j g,⟨hw,hy⟩,by rw[hd];exact h⟩)
theorem Aym {S a:World->Prop}{m:Sem Next}{v:Value}(h:∀w,S w->∃w',m.run P w=.ok (.value v) w'/\a w'):Rm P S a m v:=fun w b=>.inl ((h w b).imp fun _ h=>⟨.inl h.1,h.2⟩)
theorem Avd {S a:World->Prop}{m:Sem Next}(h:∀w,S w->∃w',m.run P w=.ok .skip w'/\a w'):Rm P S a m undef:=fun w b=>.inl ((h w b).imp fun _ h=>⟨.inr ⟨h.1,rfl⟩,h.2⟩)
theorem Agt {S b:World->Prop}{m:Sem Next}{v:Value}(f:FuncId)(a:Array Value)(hr:∀w,m.run P w=.ok (.enter f a) w)(c:∀w,S w->Calls P f a w fun e w'=>e=.returned v/\b w'):Rm P S b m v:=fun w d=>.inr ⟨f,a,hr w,c w d⟩
end
end Go.Proofs.YtojgilcdgccojaaGreatDoor
