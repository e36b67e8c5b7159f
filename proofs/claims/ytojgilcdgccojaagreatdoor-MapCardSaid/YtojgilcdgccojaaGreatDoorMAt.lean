import Derived.Test.YtojgilcdgccojaaGreatDoorAl
import Derived.Test.YtojgilcdgccojaaGreatDoorMAs
import Derived.Test.YtojgilcdgccojaaGreatDoorMAq
set_option linter.unusedSimpArgs false
set_option maxRecDepth 100000
set_option maxHeartbeats 8000000
namespace Go.Proofs.YtojgilcdgccojaaGreatDoor
open Go.RowKit
def Fz (m:DM)(rk:By):(h:Nat)->Nd h->Prop
 |0,t=>t.place=0\/Cm m rk 0 t
 |h+1,t=>(t.place=0/\∀e∈t.es,Fz m rk h e.2)\/Cm m rk (h+1) t
def Me (m:DM)(rk:By):(h:Nat)->List (By×Kz h)->Prop
 |0,_=>True
 |h+1,es=>∀e∈es,Fz m rk h e.2
section
variable {m:DM}{rk:By}
theorem Ajt {h:Nat}{t:Nd h}(a:Cm m rk h t):Fz m rk h t:=by
 cases h with
 |zero=>exact .inr a
 |succ h=>exact .inr a
theorem Fz.kids {h:Nat}{t:Nd h}(c:Fz m rk h t):Me m rk h t.es:=by
 cases h with
 |zero=>exact trivial
 |succ h=>
  rcases c with⟨_,hk⟩|a
  ·exact hk
  ·exact fun e b=>Ajt (a.2 e b)
theorem Me.new {h:Nat}{d:By}{es:List (By×Kz h)}(a:Me m rk h es):Fz m rk h ⟨0,d,es⟩:=by
 cases h with
 |zero=>exact .inl rfl
 |succ h=>exact .inl ⟨rfl,a⟩
theorem Me.sub {h:Nat}{A B:List (By×Kz h)}(c:Me m rk h A)(a:∀x∈B,x∈A):Me m rk h B:=by
 cases h with
 |zero=>exact trivial
 |succ h=>exact fun e b=>c e (a e b)
theorem Me.app {h:Nat}{A B:List (By×Kz h)}(h1:Me m rk h A)(h2:Me m rk h B):Me m rk h (A++B):=by
 cases h with
 |zero=>exact trivial
 |succ h=>exact fun e a=>(As.1 a).elim (h1 e) (h2 e)
theorem Aky {h:Nat}{d:By}{es:List (By×Kz h)}(a:Me m rk h es):Fz m rk h (Ft (⟨0,d,es⟩:Nd h)).1/\∀q,(Ft (⟨0,d,es⟩:Nd h)).2=some q->Fz m rk h q:=by
 unfold Ft;split
 ·exact⟨a.new,fun q c=>by cases c⟩
 ·exact⟨(a.sub (fun x b=>Nc b)).new,fun q c=>by
   cases c
   exact(a.sub (fun x b=>Qs b)).new⟩
theorem Aoq (k s:By):∀(h:Nat) (t:Nd h),Fz m rk h t->Fz m rk h (Cc k s h t).1/\∀q,(Cc k s h t).2=some q->Fz m rk h q
 |0,t,_=>Aky (h:=0) trivial
 |h+1,t,ho=>by
  unfold Cc;split
  ·exact⟨ho,fun q c=>by cases c⟩
  ·rename_i e d;have hk:=ho.kids;have ih:=Aoq k s h e.2 (hk e (Hs d))
   have b:∀x∈t.es.set (Dk k (Be t.es)) ((Cc k s h e.2).1.least,(Cc k s h e.2).1),Fz m rk h x.2:=fun x a=>by
    rcases List.mem_or_eq_of_mem_set a with g|rfl
    ·exact hk x g
    ·exact ih.1
   refine Aky (h:=h+1) fun x a=>?_;unfold Zu at a;split at a
   ·exact b x a
   ·rename_i q c;rcases As.1 a with g|g
    ·exact b x (Nc g)
    ·rcases Al.1 g with rfl|g
     ·exact ih.2 q c
     ·exact b x (Qs g)
theorem Azq {h:Nat}{l r:Nd h}(b:Bool)(d:Fz m rk h l)(hr:Fz m rk h r):Me m rk (h+1) (Hg l r b):=by
 have l1:=d.kids;have r1:=hr.kids;intro e a;unfold Hg at a;split at a
 ·rw[Jc.1 a];exact(l1.app r1).new
 ·split at a
  ·simp only[Al,Cq,or_false]at a;rcases a with rfl|rfl
   ·exact(l1.app (r1.sub (fun x c=>Nc c))).new
   ·exact(r1.sub (fun x c=>Qs c)).new
  ·simp only[Al,Cq,or_false]at a;rcases a with rfl|rfl
   ·exact(l1.sub (fun x c=>Nc c)).new
   ·exact((l1.sub (fun x c=>Qs c)).app r1).new
theorem A1b {h:Nat}{es:List (By×Nd h)}(i:Nat)(a:Me m rk (h+1) es):Me m rk (h+1) (Ti es i):=by
 unfold Ti;split
 ·rename_i l r c hr;have h1:=a l (Hs c);have h2:=a r (Hs hr);exact(a.sub (fun x b=>Nc b)).app ((Azq _ h1 h2).app (a.sub (fun x b=>Qs b)))
 ·exact a
theorem Al7 (k:By):∀(h:Nat) (t a:Nd h),Fz m rk h t->Dd k h t=some a->Fz m rk h a
 |0,t,a,_,hr=>.inl (Akb k 0 t a hr)
 |h+1,t,a,ho,hr=>by
  have hk:=ho.kids;unfold Dd at hr;split at hr
  ·cases hr
  ·rename_i e f;split at hr
   ·cases hr
   ·rename_i c j;cases hr;have ih:=Al7 k h e.2 c (hk e (Hs f)) j
    have b:∀d:By,Me m rk (h+1) (t.es.set (Dk k (Be t.es)) (d,c)):=fun d x i=>by
     rcases List.mem_or_eq_of_mem_set i with g|rfl
     ·exact hk x g
     ·exact ih
    refine Me.new ?_;split
    ·exact A1b _ (b e.1)
    ·exact b _
def Ql (m:DM)(rk:By):Ay->Prop
 |none=>True
 |some ⟨h,t⟩=>Fz m rk h t
theorem Axw (k s:By)(T:Ay)(g:Ql m rk T):Ql m rk (some (Fl k s T)):=by
 cases T with
 |none=>exact .inl rfl
 |some f=>
  obtain⟨h,t⟩:=f;have b:=Aoq k s h t g
  cases c:(Cc k s h t).2 with
  |none=>
   have a:Fl k s (some ⟨h,t⟩)=⟨h,(Cc k s h t).1⟩:=by simp only[Fl,c]
   rw[a];exact b.1
  |some q=>
   have a:Fl k s (some ⟨h,t⟩)=⟨h+1,⟨0,[],[((Cc k s h t).1.least,(Cc k s h t).1),(q.least,q)]⟩⟩:=by simp only[Fl,c]
   rw[a];refine Me.new (h:=h+1) fun e d=>?_;simp only[Al,Cq,or_false]at d;rcases d with rfl|rfl
   ·exact b.1
   ·exact b.2 q c
theorem A0g (h:Nat)(t:Nd h)(b:Fz m rk h t):Ql m rk (Cn h t):=by
 cases h with
 |zero=>
  by_cases e:t.es=[]
  ·have a:Cn 0 t=none:=by simp only[Cn,e,if_true]
   rw[a];exact trivial
  ·have a:Cn 0 t=some ⟨0,t⟩:=by simp only[Cn,e,if_false]
   rw[a];exact b
 |succ h=>
  match hes:t.es with
  | []=>
   have a:Cn (h+1) t=none:=by simp only[Cn,hes]
   rw[a];exact trivial
  | [e]=>
   have a:Cn (h+1) t=some ⟨h,e.2⟩:=by simp only[Cn,hes]
   rw[a];exact b.kids e (by rw[hes];simp)
  |e::e'::l=>
   have a:Cn (h+1) t=some ⟨h+1,t⟩:=by simp only[Cn,hes]
   rw[a];exact b
theorem Ati (k:By)(T:Ay)(c:Ql m rk T):Ql m rk (Gz k T):=by
 cases T with
 |none=>exact trivial
 |some d=>
  obtain⟨h,t⟩:=d
  cases hr:Dd k h t with
  |none=>have a:Gz k (some ⟨h,t⟩)=some ⟨h,t⟩:=by simp only[Gz,hr]
         rw[a];exact c
  |some b=>
   have a:Gz k (some ⟨h,t⟩)=Cn h b:=by simp only[Gz,hr]
   rw[a];exact A0g h b (Al7 k h t b c hr)
theorem A31 (s:Kl):∀cs:List Ag,Ql m rk s.top->Ql m rk (Bt s cs).top:=by
 intro cs
 induction cs generalizing s with
 |nil=>exact fun h=>h
 |cons c cs ih=>
  intro a;have e:Bt s (c::cs)=Bt (Hj s c) cs:=rfl;rw[e];refine ih _ ?_;unfold Hj;split
  ·exact Ati c.key s.top a
  ·exact Axw c.key c.value s.top a
theorem Hy.old {v:VM}{T:Ay}(a:Hy m rk v T):Ql m rk T:=by
 cases T with
 |none=>exact trivial
 |some b=>exact Ajt a.2.2
end
structure Ax where
 m:DM
 v:VM
def Sd (st:Ax)(a:Nat):Prop:=st.v.used.getD a false=true
def Nq (rk:By)(leaf:Bool)(ems:List Gp)(st:Ax):Option ((Nat×By)×Ax):=
 match Et st.v.used st.m.blocks.length with
 | []=>none
 |p::_=>some ((p,Dz (Iv rk st.v.session (st.v.done+1) p (Fm leaf ems))),⟨st.m.write p (Iv rk st.v.session (st.v.done+1) p (Fm leaf ems)),{st.v with done:=st.v.done+1,used:=st.v.used.set p true}⟩)
def Ez {h:Nat}(f:Nd h->Ax->Option (Nd h×Ax)):List (By×Nd h)->Ax->Option (List (By×Nd h)×Ax)
 | [],st=>some ([],st)
 |e::es,st=>if e.2.place=0 then(f e.2 st).bind fun r=>(Ez f es r.2).map fun q=>((e.1,r.1)::q.1,q.2)else(Ez f es st).map fun q=>(e::q.1,q.2)
def Wh (e:By×By):Gp:=⟨e.1,e.2,0,[]⟩
def Tx {h:Nat}(e:By×Nd h):Gp:=⟨e.1,[],e.2.place,e.2.dig⟩
def Ex (rk:By):(h:Nat)->Nd h->Ax->Option (Nd h×Ax)
 |0,t,st=>(Nq rk true (t.es.map Wh) st).map fun r=>(⟨r.1.1,r.1.2,t.es⟩,r.2)
 |h+1,t,st=>(Ez (Ex rk h) t.es st).bind fun r=>(Nq rk false (r.1.map Tx) r.2).map fun q=>(⟨q.1.1,q.1.2,r.1⟩,q.2)
structure Nx (st st':Ax):Prop where
 bl:st'.m.blocks.length=st.m.blocks.length
 ca:st'.m.cache.length=st.m.cache.length
 us:st'.v.used.length=st.v.used.length
 mono:∀a,Sd st a->Sd st' a
 keep:∀a,Sd st a->st'.m.look a=st.m.look a
theorem Nx.refl (st:Ax):Nx st st:=⟨rfl,rfl,rfl,fun _ h=>h,fun _ _=>rfl⟩
theorem Nx.trans {a b c:Ax}(h:Nx a b)(k:Nx b c):Nx a c:=⟨k.bl.trans h.bl,k.ca.trans h.ca,k.us.trans h.us,fun x d=>k.mono x (h.mono x d),fun x d=>(k.keep x (h.mono x d)).trans (h.keep x d)⟩
structure Kb (rk:By)(st:Ax):Prop where
 ca:st.m.cache.length=st.m.blocks.length
 us:st.m.blocks.length<=st.v.used.length
 le:st.m.blocks.length<=255
 rk:rk.length=240
theorem Kb.nx {rk:By}{st a:Ax}(h:Kb rk st)(k:Nx st a):Kb rk a:=⟨by rw[k.ca,k.bl];exact h.ca,by rw[k.bl,k.us];exact h.us,by rw[k.bl];exact h.le,h.rk⟩
theorem Zj {used:List Bool}{n p:Nat}(h:p∈Et used n):2<=p/\p<n/\used.getD p false=false:=by unfold Et at h;rw[List.mem_filter,List.mem_range]at h;simp only[Qw,decide_eq_true_eq,Bool.not_eq_true']at h;exact⟨h.2.1,h.1,h.2.2⟩
theorem Ah8 {rk:By}{leaf:Bool}{ems:List Gp}{st b:Ax}{p:Nat}{d:By}(c:Kb rk st)(hw:Nq rk leaf ems st=some ((p,d),b)):
  Nx st b/\2<=p/\p<st.m.blocks.length/\¬Sd st p/\Sd b p/\d.length=32/\(∀es,Lq (Fm leaf ems)=some (leaf,es)->Ab0 b.m rk leaf p d es):=by
 unfold Nq at hw;split at hw
 ·cases hw
 ·rename_i q rest j;obtain⟨f1,f2,f⟩:=Zj (used:=st.v.used) (n:=st.m.blocks.length) (p:=q) (by rw[j];simp);cases hw;obtain⟨T,g⟩:=nmd (Iv rk st.v.session (st.v.done+1) p (Fm leaf ems));have h:T.length=256:=by rw[<-g];exact Ad6 rk leaf ems _ _ _ c.rk
  have k:T≠[]:=fun e=>by rw[e]at h;simp at h
  have i:(st.m.write p T).look p=T:=DM.look_write_same st.m p T (by rw[c.ca];exact f2) k;have o:p<st.v.used.length:=Eu f2 c.us;rw[g];refine⟨⟨rfl,by simp[DM.write],by simp,fun a ha=>?_,fun a ha=>?_⟩,f1,f2,by unfold Sd;rw[f];simp,?_,Yg _,fun es l=>⟨f1,f2,?_⟩⟩
  ·unfold Sd at ha⊢;by_cases e:p=a
   ·subst e;rw[f]at ha;cases ha
   ·simpa [List.getD,e]using ha
  ·have m:p≠a:=fun e=>by subst e;unfold Sd at ha;rw[f]at ha;cases ha
   exact DM.look_write_ne st.m p a T m
  ·unfold Sd;simp[List.getD,o]
  ·show Nu rk (Dz T) ((st.m.write p T).look p) p=some (leaf,es);rw[i];unfold Nu;rw[if_pos rfl,<-g,Ay6 rk _ _ _ _ c.rk (Afq leaf ems)];exact l
theorem Cm.keep {m b:DM}{rk:By}(hb:b.blocks.length=m.blocks.length):∀(h:Nat) (t:Nd h),Cm m rk h t->(∀a,2<=a->0<cnt a h t->b.look a=m.look a)->Cm b rk h t
 |0,t,hs,hk=>by obtain⟨h1,h2,c⟩:=hs;exact⟨h1,by rw[hb];exact h2,by rw[hk t.place h1 (by simp[cnt,one])];exact c⟩
 |h+1,t,hs,hk=>by obtain⟨⟨h1,h2,c⟩,f⟩:=hs;refine⟨⟨h1,by rw[hb];exact h2,by rw[hk t.place h1 (by simp only[cnt,one,beq_self_eq_true,if_true];omega)];exact c⟩,fun e d=>Cm.keep hb h e.2 (f e d) (fun a ha g=>hk a ha ?_)⟩;have:cnt a h e.2<=(t.es.map fun e=>cnt a h e.2).sum:=Ad9 (Kj.2 ⟨e,d,rfl⟩);simp only[cnt];omega
def Ik (st:Ax)(h:Nat)(t:Nd h):Prop:=∀a,2<=a->0<cnt a h t->Sd st a
theorem Ik.kid {st:Ax}{h:Nat}{t:Nd (h+1)}(c:Ik st (h+1) t){e:By×Nd h}(b:e∈t.es):Ik st h e.2:=fun a ha d=>c a ha (by
 have:cnt a h e.2<=(t.es.map fun e=>cnt a h e.2).sum:=Ad9 (Kj.2 ⟨e,b,rfl⟩);simp only[cnt]
 omega)
theorem Ik.nx {st b:Ax}{h:Nat}{t:Nd h}(d:Ik st h t)(k:Nx st b):Ik b h t:=fun a ha c=>k.mono a (d a ha c)
theorem Cm.nx {st b:Ax}{rk:By}{h:Nat}{t:Nd h}(c:Cm st.m rk h t)(e:Ik st h t)(k:Nx st b):Cm b.m rk h t:=Cm.keep k.bl h t c (fun a ha d=>k.keep a (e a ha d))
theorem Fz.nx {st c:Ax}{rk:By}(k:Nx st c):∀(h:Nat) (t:Nd h),Fz st.m rk h t->Ik st h t->Fz c.m rk h t
 |0,t,ho,hu=>ho.imp id (fun a=>a.nx hu k)
 |h+1,t,ho,hu=>by
  rcases ho with⟨h0,hk⟩|a
  ·exact .inl ⟨h0,fun e b=>Fz.nx k h e.2 (hk e b) (hu.kid b)⟩
  ·exact .inr (a.nx hu k)
theorem Ag3:∀l:List Gp,l.Pairwise (fun a b=>Lt a.key b.key)->Aca l
 | [],_=>trivial
 | [_],_=>trivial
 |a::b::l,h=>by obtain⟨h1,h2⟩:=Er.1 h;exact⟨h1 b (by simp),Ag3 (b::l) h2⟩
theorem Ac9:∀(h:Nat) (t:Nd h),Wf h t->∀e∈flat h t,Vc e
 |0,t,hw,e,he=>hw e he
 |h+1,t,hw,e,he=>by obtain⟨c,b,a⟩:=Vz.1 he;exact Ac9 h c.2 ((Gg.1 hw) c b).1.1 e a
theorem Aa3 {h:Nat}{t:Nd h}(hk:Us h t):∃e∈flat h t,e.1=t.least:=by obtain⟨e,l,h1,h2⟩:=Abp h t hk.1 hk.ne;exact⟨e,by rw[h1];simp,h2⟩
theorem An4 {h:Nat}:∀es:List (By×Nd h),(∀e∈es,Gl e)->Ba (es.flatMap fun e=>flat h e.2)->es.Pairwise fun a b=>Lt a.1 b.1
 | [],_,_=>.nil
 |a::es,hk,ha=>by rw[Da]at ha;obtain⟨_,h2,g⟩:=Dc.1 ha;refine Er.2 ⟨fun b hb=>?_,An4 es (fun e c=>hk e (by simp[c])) h2⟩;obtain⟨x,d,ex⟩:=Aa3 (hk a (by simp)).1;obtain⟨i,hy,f⟩:=Aa3 (hk b (by simp[hb])).1;rw[(hk a (by simp)).2,(hk b (by simp[hb])).2,<-ex,<-f];exact g x d i (Vz.2 ⟨b,hb,hy⟩)
theorem Ajn {m:DM}{rk:By}{h:Nat}{t:Nd h}(b:Cm m rk h t):t.dig.length=32:=by
 have a:=(Oi b).2.2;unfold Nu at a;split at a
 ·rename_i e;rw[<-e];exact Yg _
 ·cases a
theorem Aga (leaf:Bool)(b:Nat):∀ems:List Gp,(∀e∈ems,(Dl leaf e).length<=b)->(ems.flatMap (Dl leaf)).length<=ems.length*b
 | [],_=>by simp
 |e::ems,h=>by have h1:=h e (by simp);have h2:=Aga leaf b ems (fun x a=>h x (by simp[a]));simp only[Da,Bb,Fh,Nat.add_mul];omega
structure WrO (rk:By)(st st':Ax)(h:Nat)(t t':Nd h):Prop where
 nx:Nx st st'
 sto:Cm st'.m rk h t'
 us:Ik st' h t'
 fl:flat h t'=flat h t
 wf:Wf h t'
 ln:t'.es.length=t.es.length
 le:t'.least=t.least
structure Rn (rk:By)(st:Ax)(h:Nat)(t:Nd h):Prop where
 old:Fz st.m rk h t
 us:Ik st h t
 wf:Wf h t
 ne:t.es≠[]
 le:t.es.length<=5
 two:h=0\/2<=t.es.length
 asc:Ba (flat h t)
theorem Xf {rk:By}{h:Nat}(ih:∀(t:Nd h) (st:Ax) (q:Nd h) (c:Ax),Rn rk st h t->Kb rk st->t.place=0->Ex rk h t st=some (q,c)->WrO rk st c h t q):
  ∀(es:List (By×Nd h)) (st:Ax) (es':List (By×Nd h)) (c:Ax),(∀e∈es,Gl e/\Fz st.m rk h e.2/\Ik st h e.2/\Ba (flat h e.2))->Kb rk st->Ez (Ex rk h) es st=some (es',c)->
   Nx st c/\es'.length=es.length/\es'.map Prod.fst=es.map Prod.fst/\(∀e∈es',Gl e/\Cm c.m rk h e.2/\Ik c h e.2)/\(es'.flatMap fun e=>flat h e.2)=es.flatMap fun e=>flat h e.2
 | [],st,es',c,_,_,hw=>by
  cases hw;exact⟨Nx.refl _,rfl,rfl,by simp,rfl⟩
 |e::es,st,es',c,hk,hi,hw=>by
  obtain⟨k1,l,p,w⟩:=hk e (by simp);unfold Ez at hw;by_cases d:e.2.place=0
  ·rw[if_pos d]at hw
   cases j:Ex rk h e.2 st with
   |none=>rw[j]at hw;cases hw
   |some r=>
    obtain⟨f,u⟩:=r;rw[j]at hw;simp only[Ip,Ig]at hw;obtain⟨⟨k,i⟩,o,m⟩:=hw;cases m;have a:=ih e.2 st f u ⟨l,p,k1.1.1,k1.1.ne,k1.1.2.2,.inr k1.1.2.1,w⟩ hi d j
    obtain⟨n1,n2,n3,n4,n⟩:=Xf ih es u k i (fun x b=>by
     obtain⟨v,A,s,y⟩:=hk x (by simp[b])
     exact⟨v,A.nx a.nx h x.2 s,s.nx a.nx,y⟩) (hi.nx a.nx) o
    refine⟨a.nx.trans n1,by simp[n2],by simp[n3],fun x b=>?_,by simp only[Da];rw[n,a.fl]⟩;rcases Al.1 b with rfl|b
    ·exact⟨⟨⟨a.wf,by show 2<=f.es.length;rw[a.ln];exact k1.1.2.1,by show f.es.length<=5;rw[a.ln];exact k1.1.2.2⟩,by show e.1=f.least;rw[a.le];exact k1.2⟩,a.sto.nx a.us n1,a.us.nx n1⟩
    ·exact n4 x b
  ·rw[if_neg d]at hw;simp only[Ig]at hw;obtain⟨⟨k,i⟩,o,m⟩:=hw;cases m
   have z:Cm st.m rk h e.2:=by
    cases h with
    |zero=>exact l.resolve_left d
    |succ h=>exact l.resolve_left (fun g=>d g.1)
   obtain⟨n1,n2,n3,n4,n⟩:=Xf ih es st k i (fun x b=>hk x (by simp[b])) hi o;refine⟨n1,by simp[n2],by simp[n3],fun x b=>?_,by simp only[Da];rw[n]⟩;rcases Al.1 b with rfl|b
   ·exact⟨k1,z.nx p n1,p.nx n1⟩
   ·exact n4 x b
theorem Um (rk:By):∀(h:Nat) (t:Nd h) (st:Ax) (j:Nd h) (k:Ax),Rn rk st h t->Kb rk st->t.place=0->Ex rk h t st=some (j,k)->WrO rk st k h t j
 |0,t,st,j,k,hI,hi,hp,hw=>by
  unfold Ex at hw;simp only[Ig]at hw;obtain⟨⟨⟨p,d⟩,C⟩,w,u⟩:=hw;cases u;obtain⟨nx,G,pl,F,q,dl,s⟩:=Ah8 hi w;have D:∀e∈t.es,1<=e.1.length/\e.1.length<=8/\e.2.length<=16:=hI.wf
  have o:Lq (Fm true (t.es.map Wh))=some (true,Cg 0 t):=by
   have:=Apd true (t.es.map Wh) (fun e c=>by
    obtain⟨x,i,rfl⟩:=Kj.1 c;have:=D x i
    exact⟨this.1,this.2.1,fun _=>this.2.2,fun g=>(by cases g),fun g=>(by cases g)⟩) (Ag3 _ (List.pairwise_map.2 hI.asc)) (by simpa using hI.le) (by simp;exact Pn.2 hI.ne) (by
    have:=Aga true 26 (t.es.map Wh) (fun e c=>by
     obtain⟨x,i,rfl⟩:=Kj.1 c;have:=D x i;simp only[Dl,Wh,if_true,Bb,Cb]
     omega)
    have J:=hI.le;rw[Fi]at this
    omega)
   rw[this,Pq];rfl
  refine⟨nx,s _ o,fun a ha m=>?_,rfl,hI.wf,rfl,rfl⟩
  have:a=p:=by
   simp only[cnt,one]at m;split at m
   ·rename_i g;exact(beq_iff_eq.1 g).symm
   ·omega
  subst this;exact q
 |h+1,t,st,j,k,hI,hi,hp,hw=>by
  unfold Ex at hw
  cases y:Ez (Ex rk h) t.es st with
  |none=>rw[y]at hw;cases hw
  |some r=>
   obtain⟨f,C⟩:=r;rw[y]at hw;simp only[Ip,Ig]at hw;obtain⟨⟨⟨p,d⟩,S⟩,w,u⟩:=hw;cases u;have hk:=hI.old.kids;have H:flat (h+1) t=t.es.flatMap fun e=>flat h e.2:=rfl
   obtain⟨n1,n2,n3,n4,A⟩:=Xf (fun t st j k=>Um rk h t st j k) t.es st f C (fun e c=>⟨(Gg.1 hI.wf) e c,hk e c,hI.us.kid c,by
    have ha:=hI.asc;rw[H]at ha
    exact(List.pairwise_flatMap.1 ha).1 e c⟩) hi y
   obtain⟨nx,G,pl,F,q,dl,s⟩:=Ah8 (hi.nx n1) w
   have h2:2<=f.length:=by
    rw[n2];rcases hI.two with g|g
    ·cases g
    ·exact g
   have T:=(hi.nx n1).le
   have key:∀e∈f,1<=e.1.length/\e.1.length<=8:=fun e c=>by obtain⟨n,_,_⟩:=n4 e c;obtain⟨M,hy,K⟩:=Aa3 n.1;have:=Ac9 h e.2 n.1.1 M hy;rw[n.2,<-K];exact⟨this.1,this.2.1⟩
   have I:∀e∈f,e.2.place<256:=fun e c=>by obtain⟨_,L,_⟩:=n4 e c;have:=(Oi L).2.1;omega
   have E:∀e∈f,e.2.dig.length=32:=fun e c=>Ajn (n4 e c).2.1;have O:Ba (f.flatMap fun e=>flat h e.2):=by rw[A];exact hI.asc
   have o:Lq (Fm false (f.map Tx))=some (false,Cg (h+1) ⟨p,d,f⟩):=by
    have:=Apd false (f.map Tx) (fun e c=>by
     obtain⟨x,i,rfl⟩:=Kj.1 c
     exact⟨(key x i).1,(key x i).2,fun g=>(by cases g),fun _=>I x i,fun _=>E x i⟩) (Ag3 _ (List.pairwise_map.2 (An4 f (fun e c=>(n4 e c).1) O))) (by rw[Fi,n2];exact hI.le) (by simpa using h2) (by
     have:=Aga false 42 (f.map Tx) (fun e c=>by
      obtain⟨x,i,rfl⟩:=Kj.1 c;have h1:=key x i;have v:=E x i;simp only[Dl,Tx,Ng,if_false,Bb,Cb]
      omega)
     have J:=hI.le;rw[Fi,n2]at this
     omega)
    rw[this,Pq];rfl
   refine⟨n1.trans nx,⟨s _ o,fun e c=>(n4 e c).2.1.nx (n4 e c).2.2 nx⟩,fun a ha m=>?_,A,Gg.2 (fun e c=>(n4 e c).1),n2,?_⟩
   ·simp only[cnt]at m;by_cases z:p=a
    ·subst z;exact q
    ·have hz:one (p==a)=0:=by simp[one,z]
     rw[hz]at m
     obtain⟨e,c,R⟩:∃e∈f,0<cnt a h e.2:=by
      refine Classical.byContradiction fun Q=>?_;have N:∀e∈f,cnt a h e.2=0:=fun e c=>Nat.eq_zero_of_not_pos (fun g=>Q ⟨e,c,g⟩)
      have:(f.map fun e=>cnt a h e.2).sum=0:=List.sum_eq_zero_iff_forall_eq_nat.2 (fun x i=>by
       obtain⟨e,c,rfl⟩:=Kj.1 i
       exact N e c)
      have P:0<0+(f.map fun e=>cnt a h e.2).sum:=m;rw[this]at P;omega
     exact nx.mono a ((n4 e c).2.2 a ha R)
   ·show(⟨p,d,f⟩:Nd (h+1)).least=t.least;unfold Es.least
    cases h1:f with
    |nil=>rw[h1]at h2;simp at h2
    |cons a l=>
     cases v:t.es with
     |nil=>exact absurd v hI.ne
     |cons b l'=>rw[h1,v]at n3;simp only[Db,List.cons.injEq]at n3;exact n3.1
def Tt (st:Ax):Nat:=(Et st.v.used st.m.blocks.length).length
theorem Att (used:List Bool)(n:Nat):(Et used n).Nodup:=List.Pairwise.sublist List.filter_sublist List.nodup_range
theorem As8 (used:List Bool)(n p:Nat)(rest:List Nat)(f:p<used.length)(a:Et used n=p::rest):Et (used.set p true) n=rest:=by
 have h1:Et (used.set p true) n=(Et used n).filter (fun q=>q !=p):=by
  unfold Et;rw[List.filter_filter];refine List.filter_congr fun q b=>?_;by_cases e:p=q
  ·subst e;simp[List.getD,f]
  ·have h:(q !=p)=true:=by simpa using fun g=>e g.symm
   simp[List.getD,e,h]
 have c:=Att used n;rw[a]at c;have d:=(List.nodup_cons.1 c).1;rw[h1,a,List.filter_cons_of_neg (by simp)]
 exact List.filter_eq_self.2 (fun q b=>by
  have:q≠p:=fun e=>d (e▸b)
  simpa using this)
structure Vx (st st':Ax)(n:Nat):Prop where
 v:∃u,st'.v={st.v with done:=st.v.done+n,used:=u}
 b:st'.m.blocks=st.m.blocks
 c:st'.m.count=st.m.count/\st'.m.ceiling=st.m.ceiling/\st'.m.sv=st.m.sv
 w:st'.m.wrote.length=st.m.wrote.length+n
 f:Tt st'+n=Tt st
theorem Vx.refl (st:Ax):Vx st st 0:=⟨⟨_,rfl⟩,rfl,⟨rfl,rfl,rfl⟩,rfl,rfl⟩
theorem Vx.trans {a b c:Ax}{i j:Nat}(h:Vx a b i)(k:Vx b c j):Vx a c (i+j):=
 ⟨by obtain⟨u,e⟩:=h.v;obtain⟨f,d⟩:=k.v;exact⟨f,by rw[d,e,Nat.add_assoc]⟩,k.b.trans h.b,⟨k.c.1.trans h.c.1,k.c.2.1.trans h.c.2.1,k.c.2.2.trans h.c.2.2⟩,by rw[k.w,h.w];omega,by have:=h.f;have:=k.f;omega⟩
theorem Ak3 {rk:By}(leaf:Bool)(ems:List Gp){st:Ax}(f:Kb rk st)(b:0<Tt st):∃p d c,Nq rk leaf ems st=some ((p,d),c)/\Vx st c 1:=by
 cases a:Et st.v.used st.m.blocks.length with
 |nil=>unfold Tt at b;rw[a]at b;simp at b
 |cons p rest=>obtain⟨f1,f2,g⟩:=Zj (used:=st.v.used) (n:=st.m.blocks.length) (p:=p) (by rw[a];simp);refine⟨p,Dz (Iv rk st.v.session (st.v.done+1) p (Fm leaf ems)),⟨st.m.write p (Iv rk st.v.session (st.v.done+1) p (Fm leaf ems)),{st.v with done:=st.v.done+1,used:=st.v.used.set p true}⟩,by unfold Nq;rw[a],⟨⟨_,rfl⟩,rfl,⟨rfl,rfl,rfl⟩,by simp[DM.write],?_⟩⟩;have e:=As8 st.v.used st.m.blocks.length p rest (Eu f2 f.us) a;show(Et (st.v.used.set p true) st.m.blocks.length).length+1=(Et st.v.used st.m.blocks.length).length;rw[e,a];rfl
theorem A36 {h:Nat}{t:Nd h}(a:t.place≠0):De h t=0:=by
 cases h with
 |zero=>unfold De;rw[if_neg a]
 |succ h=>unfold De;rw[if_neg a]
theorem Aef {rk:By}{h:Nat}(ih:∀(t:Nd h) (st:Ax),Rn rk st h t->Kb rk st->t.place=0->De h t<=Tt st->∃q b,Ex rk h t st=some (q,b)/\Vx st b (De h t)):
  ∀(es:List (By×Nd h)) (st:Ax),(∀e∈es,Gl e/\Fz st.m rk h e.2/\Ik st h e.2/\Ba (flat h e.2))->Kb rk st->(es.map fun e=>De h e.2).sum<=Tt st->∃es' b,Ez (Ex rk h) es st=some (es',b)/\Vx st b (es.map fun e=>De h e.2).sum
 | [],st,_,_,_=>⟨[],st,rfl,Vx.refl _⟩
 |e::es,st,hk,hi,hn=>by
  obtain⟨k1,s,w,r⟩:=hk e (by simp);simp only[Db,Jy]at hn⊢;unfold Ez;by_cases a:e.2.place=0
  ·have n:Rn rk st h e.2:=⟨s,w,k1.1.1,k1.1.ne,k1.1.2.2,.inr k1.1.2.1,r⟩;obtain⟨k,o,l,vx⟩:=ih e.2 st n hi a (by omega);have d:=Um rk h e.2 st k o n hi a l
   obtain⟨g,c,j,f⟩:=Aef ih es o (fun x i=>by
    obtain⟨p,v,m,u⟩:=hk x (by simp[i])
    exact⟨p,v.nx d.nx h x.2 m,m.nx d.nx,u⟩) (hi.nx d.nx) (by have:=vx.f;omega)
   rw[if_pos a,l];exact⟨(e.1,k)::g,c,by simp[j],vx.trans f⟩
  ·have h0:De h e.2=0:=A36 a;obtain⟨g,c,j,f⟩:=Aef ih es st (fun x i=>hk x (by simp[i])) hi (by omega);rw[if_neg a,h0,Dq];exact⟨e::g,c,by simp[j],f⟩
theorem Agx (rk:By):∀(h:Nat) (t:Nd h) (st:Ax),Rn rk st h t->Kb rk st->t.place=0->De h t<=Tt st->∃c a,Ex rk h t st=some (c,a)/\Vx st a (De h t)
 |0,t,st,hI,hi,hp,hn=>by
  have h1:De 0 t=1:=by unfold De;rw[if_pos hp]
  rw[h1]at hn⊢;obtain⟨p,d,a,hw,vx⟩:=Ak3 true (t.es.map Wh) hi hn;exact⟨_,a,by unfold Ex;rw[hw];rfl,vx⟩
 |h+1,t,st,hI,hi,hp,hn=>by
  have h1:De (h+1) t=1+(List.map (fun e:By×Nd h=>De h e.2) t.es).sum:=by rw[De,if_pos hp]
  rw[h1]at hn⊢;have hk:=hI.old.kids;have g:∀e∈t.es,Gl e/\Fz st.m rk h e.2/\Ik st h e.2/\Ba (flat h e.2):=fun e b=>⟨(Gg.1 hI.wf) e b,hk e b,hI.us.kid b,(List.pairwise_flatMap.1 (show Ba (t.es.flatMap fun e=>flat h e.2)from hI.asc)).1 e b⟩;obtain⟨f,m,i,vx⟩:=Aef (fun t st=>Agx rk h t st) t.es st g hi (by have:=hn;have h2:=h1;exact Hb (Nat.le_add_left _ 1) hn);obtain⟨n1,_⟩:=Xf (fun t st c a=>Um rk h t st c a) t.es st f m g hi i;obtain⟨p,d,a,hw,k⟩:=Ak3 false (f.map Tx) (hi.nx n1) (by have j:=vx.f;have l:=Eu (Nat.lt_of_lt_of_eq (Nat.lt_succ_self _) (Nat.add_comm _ 1)) hn;rw[<-j]at l;omega);refine⟨⟨p,d,f⟩,a,by unfold Ex;rw[i];simp[hw],?_⟩;rw[Nat.add_comm];exact vx.trans k
def Aw1 (b n g j:Nat)(f:Nat->World->Prop)(wr:World):Prop:=
 ∃a cap,wr.cell? ⟨n,3,none⟩=some (.slice (some ⟨a,0,none⟩) g cap)/\(j<g->
  (wr.cell? ⟨a,j*5+4,none⟩=some (.pointer none)/\f (j+1) wr)\/
  (∃c pl:Nat,wr.cell? ⟨a,j*5+4,none⟩=some (.pointer (some ⟨c,0,none⟩))/\wr.cell? ⟨c,1,none⟩=some (.int .i64 (pl:Int))/\pl≠0/\f (j+1) wr)\/
  (∃c:Nat,wr.cell? ⟨a,j*5+4,none⟩=some (.pointer (some ⟨c,0,none⟩))/\wr.cell? ⟨c,1,none⟩=some (.int .i64 0)/\
   Cl 94 #[.pointer (some ⟨b,0,none⟩),.pointer (some ⟨c,0,none⟩)] wr fun e w1=>e=.returned (.int .i64 0)/\∃(h i p:Nat) (d:By),
    w1.cell? ⟨n,3,none⟩=some (.slice (some ⟨h,0,none⟩) g i)/\w1.rangeAt c 1 [.int .i64 (p:Int),Ac d]/\w1.there h (j*5+2) 2/\f (j+1) (w1.drew.setCells h (j*5+2) [.int .i64 (p:Int),Ac d])))
theorem Ak9 (b n a:Nat)(o:Nat->World->Prop)(P:World->Prop)(w:World)(ae:a<=100)(K:∀j wr,o j wr->Aw1 b n a j o wr)
  (T:∀wr,o a wr->Cl 116 #[.pointer (some ⟨b,0,none⟩),.pointer (some ⟨n,0,none⟩)] wr fun e w'=>e=.returned (.int .i64 0)/\P w') (h0:o 0 w):
  Cl 94 #[.pointer (some ⟨b,0,none⟩),.pointer (some ⟨n,0,none⟩)] w fun e w'=>e=.returned (.int .i64 0)/\P w':=by
 have O:=Aa K;have s:=Aa T;have m:=Aa h0;clear K T h0;go_enter Tryz.func94,Tryz.ntmps94;go_wp2_with fail
 go_loopw [5,6,7] (fun i _ _ wr=>∃j:Nat,i=.int .i64 (j:Int)/\j<=a/\o j wr) (fun i _ _ _=>(200-intOf i).toNat)
 case atStart=>exact⟨0,rfl,Cu _,m.o⟩
 case round=>
  obtain⟨j,rfl,ad,l⟩:=hrel;obtain⟨ac,cap,c3,v⟩:=O.o j wr l;by_cases Y:j<a
  ·have W:(j:Int)<(a:Int):=by omega
   rcases v Y with⟨c4,f⟩|⟨c,pl,c4,I,aa,f⟩|⟨c,c4,I,R⟩
   ·have t:=Aa f;clear l v f s m;go_wp2_with fail;exact⟨⟨j+1,by first|rfl|push_cast;rfl,by omega,t.o⟩,by simp only[intOf];omega⟩
   ·have ab:((pl:Int)==0)=false:=by rw[beq_eq_false_iff_ne];omega
    have t:=Aa f;clear l v f s m;go_wp2_with fail;exact⟨⟨j+1,by first|rfl|push_cast;rfl,by omega,t.o⟩,by simp only[intOf];omega⟩
   ·have H:=Aa R;clear l v R s m;go_wp2_with fail;refine H.o.mono ?_;rintro r w1 ⟨rfl,g,x,p,d,L,Q,U,f⟩;obtain⟨w2,k⟩:=nmd (w1.drew);rw[k]at f;have z:w2.cell? ⟨n,3,none⟩=some (.slice (some ⟨g,0,none⟩) a x):=by rw[<-k];exact L
    have A:w2.rangeAt c 1 [.int .i64 (p:Int),Ac d]:=by rw[<-k];exact Q
    have J:w2.there g (j*5+2) 2:=by rw[<-k];exact U
    obtain⟨C,E⟩:=nmd (w2.setCells g (j*5+2) [.int .i64 (p:Int),Ac d]);rw[E]at f;have y:=Aa (Ab k (Ab z (Ab A (Ab J E))));have N:=Aa (show ∀w'∈[w2],w'.cell? ⟨n,3,none⟩=some (.slice (some ⟨g,0,none⟩) a x)from fun w' D=>by rw[Jc.1 D];exact z);have F:=Aa (show ∀w'∈[w2],w'.rangeAt c 1 [.int .i64 (p:Int),Ac d]from fun w' D=>by rw[Jc.1 D];exact A)
    have V:=Aa (show ∀u∈[Value.int .i64 (p:Int),Ac d],u.oneCell'=true from fun u S=>by
     simp only[Al,Cq,or_false]at S
     rcases S with rfl|rfl<;>rfl)
    have t:=Aa f;clear L Q U k f z A J E H c3 c4 I;go_wp2_with fail;refine Gf (Ek [w2,C]) [11] (by kernel_rfl) (by kernel_rfl) (by rw[y.o.1];rfl) ?_;refine Am 0 (.pointer (some ⟨n,0,none⟩)) ?_;refine Am 1 (.pointer (some ⟨n,0,none⟩)) ?_;refine Am 2 (.pointer (some ⟨n,3,none⟩)) ?_;refine Mh 3 0 (.slice (some ⟨g,0,none⟩) a x) Jt (fun q h w hw=>N.o w (hw.upto h (by simp))) ?_;refine Am 4 (.int .i64 (j:Int)) ?_;refine Am 5 (.pointer (some ⟨c,0,none⟩)) ?_;refine Am 6 (.pointer (some ⟨c,0,none⟩)) ?_;refine Am 7 (.pointer (some ⟨c,1,none⟩)) ?_;refine Amc 8 0 (.agg #[.int .i64 (p:Int),Ac d]) rfl (by kernel_rfl) rfl (by decide) (by kernel_rfl) (fun q h=>My fun w hw=>Tn _ _ 60 _ c 1 [.int .i64 (p:Int),Ac d] rfl (by kernel_rfl) _ Tryz.underlying60 rfl (by kernel_rfl) w (F.o w (hw.upto h (by simp)))) ?_;refine Em 9 (.pointer (some ⟨g,j*5,none⟩)) rfl (by kernel_rfl) rfl (fun _=>Cp (fun w=>Xp _ _ _ _ g a x j rfl (by kernel_rfl) (by kernel_rfl) W w)) ?_;refine Am 10 (.pointer (some ⟨g,j*5+2,none⟩)) ?_;refine Kr 11 rfl (by kernel_rfl) rfl (Kv w2 C rfl rfl (by rw[<-y.o.2.2.2.2];exact Up _ _ 60 _ _ g (j*5+2) [.int .i64 (p:Int),Ac d] rfl (by kernel_rfl) (by kernel_rfl) (by kernel_rfl) V.o w2 y.o.2.2.2.1)) ?_;refine Cj.done (by kernel_rfl) fun w' G=>?_;simp only[Act.put,Cz,Dg,Co];obtain rfl:=G.eq (w0:=C) rfl;clear y N F V G;go_wp2_with fail;exact⟨⟨j+1,by first|rfl|push_cast;rfl,by omega,t.o⟩,by simp only[intOf];omega⟩
  ·have X:j=a:=by omega
   subst X;have M:=Aa (s.o wr l);clear l v s O m;go_wp2_with fail;refine M.o.mono ?_;rintro r w2 ⟨rfl,h⟩;have Z:=Aa h;clear h M;go_wp2_with fail;go_ret;exact⟨rfl,Z.o⟩
theorem Au.nx {w:World}{st b:Ax}{rk:By}(k:Nx st b):∀(h n:Nat) (t:Nd h) (S:List Nat) (U:Nat),Au w st.m rk h n t S U->Ik st h t->Au w b.m rk h n t S U
 |0,n,t,S,U,ht,_=>ht
 |h+1,n,t,S,U,⟨ev,L,he,hi,hS,hU⟩,hu=>by
  refine⟨ev,L,he,⟨hi.nd,fun z hz=>?_,hi.s1,hi.s2⟩,hS,hU⟩;have hk:=hi.kid z hz;have a:Ik st h z.1.2:=hu.kid (by rw[he];exact List.mem_map_of_mem hz);unfold Eo at hk⊢;split at hk
  ·exact⟨hk.1.nx a k,hk.2⟩
  ·exact Au.nx k h _ _ _ _ hk a
theorem Eo.nx {w:World}{st a:Ax}{rk:By}(k:Nx st a){h:Nat}{t:Nd h}{c:Kd}(hk:Eo (Au w st.m rk h) (Cm st.m rk h) t c)(b:Ik st h t):Eo (Au w a.m rk h) (Cm a.m rk h) t c:=by
 unfold Eo at hk⊢;split at hk
 ·exact⟨hk.1.nx b k,hk.2⟩
 ·exact Au.nx k h _ _ _ _ hk b
theorem Acb {h:Nat}(f:Nd h->Ax->Option (Nd h×Ax)):∀(A B:List (By×Nd h)) (st:Ax),Ez f (A++B) st=(Ez f A st).bind fun r=>(Ez f B r.2).map fun q=>(r.1++q.1,q.2)
 | [],B,st=>by simp only[Hu,Ez,Ip];cases Ez f B st<;>rfl
 |e::A,B,st=>by
  simp only[Qv,Ez];split
  ·cases f e.2 st with
   |none=>rfl
   |some r=>
    simp only[Ip];rw[Acb f A B r.2]
    cases Ez f A r.2 with
    |none=>rfl
    |some a=>simp only[Ip,Sp];cases Ez f B a.2<;>rfl
  ·rw[Acb f A B st]
   cases Ez f A st with
   |none=>rfl
   |some a=>simp only[Ip,Sp];cases Ez f B a.2<;>rfl
theorem Ang {h:Nat}{f:Nd h->Ax->Option (Nd h×Ax)}{es es' D:List (By×Nd h)}{st k a:Ax}{j:Nat}{e:By×Nd h}(hw:Ez f es st=some (es',k))(m:Ez f (es.take j) st=some (D,a))(l:es[j]?=some e):
  if e.2.place=0 then ∃i d,f e.2 a=some (i,d)/\Ez f (es.take (j+1)) st=some (D++[(e.1,i)],d)else Ez f (es.take (j+1)) st=some (D++[e],a):=by
 have e1:es.take (j+1)=es.take j++[e]:=by rw[Nv,l];rfl
 have e2:es=es.take (j+1)++es.drop (j+1):=(Jb _ _).symm
 have h1:Ez f (es.take (j+1)) st=(Ez f [e] a).map fun q=>(D++q.1,q.2):=by rw[e1,Acb,m];rfl
 have h2:Ez f (es.take (j+1)) st≠none:=fun g=>by rw[e2,Acb,g]at hw;cases hw
 rw[h1]at h2;split
 ·rename_i b;simp only[Ez,b,if_true]at h1 h2
  cases c:f e.2 a with
  |none=>rw[c]at h2;exact absurd rfl h2
  |some r=>rw[c]at h1;exact⟨r.1,r.2,rfl,h1⟩
 ·rename_i b;simp only[Ez,b,if_false]at h1;exact h1
structure Yt (w:World)(x:DX)(b bp:Nat)(rk:By)(h n:Nat)(t:Nd h)(S:List Nat)(U:Nat)(st:Ax)(wv:Value):Prop where
 sys:Ai w x b st.m st.v wv
 pv:st.v.pv=.pointer (some ⟨bp,0,none⟩)
 key:Eh w bp rk
 ap:bp∉Ai.set x b wv
 tr:Au w st.m rk h n t S U
 fo:∀j∈S,Ce x b wv j/\j≠bp
 wi:Rn rk st h t
 inv:Kb rk st
 pl:t.place=0
 se:st.v.session<9223372036854775808
 dn:st.v.done+De h t<=999
 wr:st.m.wrote.length+De h t<=4999999
 nf:De h t<=Tt st
structure Xk (w w':World)(x:DX)(b h n:Nat)(t':Nd h)(S:List Nat)(st':Ax)(wv wv':Value):Prop where
 sys:Ai w' x b st'.m st'.v wv'
 nd:∃rows ev,Av w' n (h==0) t'.place t'.dig rows ev
 kp:Kp (S++Ai.set x b wv) w w'
 la:Cd wv wv' w.heap.size
theorem Akm {l:By}{x:DX}{b bp:Nat}{rk:By}{st c:Ax}{wv:Value}{w:World}{n:Nat}{leaf:Bool}{a:List EG}{ev:Value}{ems:List Gp}{p:Nat}{d:By}(r:Ai w x b st.m st.v wv)(i:st.v.pv=.pointer (some ⟨bp,0,none⟩))(hk:Eh w bp rk)(u:bp∉Ai.set x b wv)(m:Av w n leaf 0 l a ev)(g:∀j∈Ad n ev,Ce x b wv j)
  (s:a.map EG.em=ems) (hw:Nq rk leaf ems st=some ((p,d),c)) (hd:st.v.done<1000) (t:st.v.session<9223372036854775808) (o:st.m.wrote.length<5000000) (h0:a≠[]) (k:∀e∈a,e.Fit) (y:a.length<=10):
  Cl 116 #[.pointer (some ⟨b,0,none⟩),.pointer (some ⟨n,0,none⟩)] w fun e w'=>e=.returned (.int .i64 0)/\∃f,Ai w' x b c.m c.v f/\Av w' n leaf p d a ev/\Kp (n::Ai.set x b wv) w w'/\Cd wv f w.heap.size:=by
 subst s;unfold Nq at hw;split at hw
 ·cases hw
 ·rename_i q rest h;obtain⟨f1,f2,z⟩:=Zj (used:=st.v.used) (n:=st.m.blocks.length) (p:=q) (by rw[h];simp);cases hw;exact Azb x b bp st.m st.v wv rk n p leaf a ev rest w r i hk ⟨hk.lt,u⟩ m (g n (by simp[Ad])) (fun j v=>g j (by simp[Ad,v])) h f2 hd t o h0 ⟨k,y⟩
theorem Aq8 (x:DX)(b bp:Nat)(rk:By)(n:Nat)(t:Nd 0)(S:List Nat)(U:Nat)(st:Ax)(wv:Value)(w:World)(a:Yt w x b bp rk 0 n t S U st wv)(i:Nd 0)(l:Ax)(hw:Ex rk 0 t st=some (i,l)):
  Cl 94 #[.pointer (some ⟨b,0,none⟩),.pointer (some ⟨n,0,none⟩)] w fun e w'=>e=.returned (.int .i64 0)/\∃c,Xk w w' x b 0 n i S l wv c:=by
 obtain⟨ev,f,rfl,rfl⟩:=a.tr;have k:=a.pl;rw[k]at f;have m:t.es.map Dm≠[]:=by simpa using a.wi.ne
 have h1:De 0 t=1:=by unfold De;rw[if_pos k]
 have r:=a.dn;have C:=a.wr;rw[h1]at r C;unfold Ex at hw;simp only[Ig]at hw;obtain⟨⟨⟨p,d⟩,y⟩,G,s⟩:=hw;cases s;refine Ak9 b n t.es.length (fun _ wr=>wr=w) (fun w'=>∃c,Xk w w' x b 0 n ⟨p,d,t.es⟩ (Ad n ev) y wv c) w (by have:=a.wi.le;omega) ?_ ?_ rfl
 ·rintro j wr rfl;obtain⟨E,cap,I,_,_,_,_,o,_⟩:=f.row m;have c3:=f.node.c3;rw[I,Fi]at c3;refine⟨E,cap,c3,fun A=>.inl ⟨?_,rfl⟩⟩;have v:(t.es.map Dm)[j]?=some (Dm t.es[j]):=by rw[Fq,Az A];rfl
  exact o j _ v 4 (by decide)
 ·rintro wr rfl;have F:∀e∈t.es,1<=e.1.length/\e.1.length<=8/\e.2.length<=16:=a.wi.wf
  refine(Akm (ems:=t.es.map Wh) a.sys a.pv a.key a.ap f (fun j h=>(a.fo j h).1) (by rw[Pq];rfl) G (by omega) a.se (by omega) m (fun e z=>by
   obtain⟨u,hy,rfl⟩:=Kj.1 z;have:=F u hy
   exact⟨this.2.1,this.2.2,Cu _,Cu _⟩) (by rw[Fi];have:=a.wi.le;omega)).mono ?_
  rintro e w' ⟨rfl,c,H,q,D,l'⟩
  exact⟨rfl,c,H,⟨_,ev,q⟩,D.mono (fun j h=>by
   rcases Al.1 h with rfl|g
   ·exact Bl _ (by simp[Ad])
   ·exact Bg _ g),l'⟩
structure WnJ (w wr:World)(x:DX)(b:Nat)(rk:By)(h n:Nat)(t:Nd (h+1))(S:List Nat)(st:Ax)(wv:Value)(ev:Value)(d0:By)(L:List (EK h))(j:Nat)(D:List (By×Nd h))(KD:List Kd)(stj:Ax)(wvj:Value):Prop where
 hw:Ez (Ex rk h) (t.es.take j) st=some (D,stj)
 l1:D.length=j
 l2:KD.length=j
 le:j<=L.length
 sys:Ai wr x b stj.m stj.v wvj
 la:Cd wv wvj w.heap.size
 kp:Kp (S++Ai.set x b wv) w wr
 nd:Av wr n false 0 d0 ((D.zip KD).map Ao++(L.drop j).map Ao) ev
 kid:∀z∈L.drop j,Eo (Au wr stj.m rk h) (Cm stj.m rk h) z.1.2 z.2
theorem Ao1 {α β:Type}(A:List α)(B:List β)(a:α)(c:β)(h:A.length=B.length):(A++[a]).zip (B++[c])=A.zip B++[(a,c)]:=by rw[List.zip_append h];rfl
theorem A2f (x:DX)(b bp:Nat)(rk:By)(h:Nat)(ih:∀(n:Nat) (t:Nd h) (S:List Nat) (U:Nat) (st:Ax) (wv:Value) (w:World),Yt w x b bp rk h n t S U st wv->∀(O:Nd h) (K:Ax),Ex rk h t st=some (O,K)->
   Cl 94 #[.pointer (some ⟨b,0,none⟩),.pointer (some ⟨n,0,none⟩)] w fun e w'=>e=.returned (.int .i64 0)/\∃N,Xk w w' x b h n O S K wv N)
  (n:Nat) (t:Nd (h+1)) (S:List Nat) (U:Nat) (st:Ax) (wv:Value) (w:World) (f:Yt w x b bp rk (h+1) n t S U st wv) (O:Nd (h+1)) (K:Ax) (hw:Ex rk (h+1) t st=some (O,K)):
  Cl 94 #[.pointer (some ⟨b,0,none⟩),.pointer (some ⟨n,0,none⟩)] w fun e w'=>e=.returned (.int .i64 0)/\∃N,Xk w w' x b (h+1) n O S K wv N:=by
 have b6:=Au.bound _ _ _ _ _ f.tr;obtain⟨ev,k,R,V,a5,_⟩:=f.tr;have aq:=f.pl;have bx:De (h+1) t=1+(List.map (fun e:By×Nd h=>De h e.2) t.es).sum:=by rw[De,if_pos aq]
 have bn:=f.dn;have b7:=f.wr;have a2:=f.nf;rw[bx]at bn b7 a2;have bw:k.length=t.es.length:=by rw[R];simp
 have cr:=f.wi.le;unfold Ex at hw
 cases T:Ez (Ex rk h) t.es st with
 |none=>rw[T]at hw;cases hw
 |some r=>
  obtain⟨E,ci⟩:=r;rw[T]at hw;simp only[Ip,Ig]at hw;obtain⟨⟨⟨p,d⟩,be⟩,b9,ca⟩:=hw;cases ca;have hk:=f.wi.old.kids;have aa:∀e∈t.es,Gl e/\Fz st.m rk h e.2/\Ik st h e.2/\Ba (flat h e.2):=fun e A=>⟨(Gg.1 f.wi.wf) e A,hk e A,f.wi.us.kid A,(List.pairwise_flatMap.1 (show Ba (t.es.flatMap fun e=>flat h e.2)from f.wi.asc)).1 e A⟩
  have a1:∀j D l,Ez (Ex rk h) (t.es.take j) st=some (D,l)->Nx st l/\Vx st l (List.map (fun e:By×Nd h=>De h e.2) (t.es.take j)).sum/\(∀e∈D,Gl e/\Cm l.m rk h e.2/\Ik l h e.2):=fun j D l hw=>by
   obtain⟨n1,n2,n3,n4,cs⟩:=Xf (fun t st O K=>Um rk h t st O K) (t.es.take j) st D l (fun e A=>aa e (Nc A)) f.inv hw
   have bg:(List.map (fun e:By×Nd h=>De h e.2) (t.es.take j)).sum<=Tt st:=by rw[Uw];exact Hb (Ab3 _ j) (Hb (Nat.le_add_left _ 1) a2)
   obtain⟨cq,cl,aw,vx⟩:=Aef (fun t st=>Agx rk h t st) (t.es.take j) st (fun e A=>aa e (Nc A)) f.inv bg;rw[hw]at aw;cases aw;exact⟨n1,vx,n4⟩
  have fo:∀v,Cd wv v w.heap.size->∀j∈S,Ce x b v j:=fun v cc j C=>(f.fo j C).1.later cc (b6 j C);have Z:∀j∈Ad n ev,j∈S:=fun j C=>by rw[a5];exact Bl _ C
  have a9:∀z∈k,∀j∈z.2.S,j∈S:=fun z hz j C=>by rw[a5];exact Bg _ (Iw.2 ⟨z,hz,C⟩)
  refine Ak9 b n k.length (fun j wr=>∃D o l v,WnJ w wr x b rk h n t S st wv ev t.dig k j D o l v) (fun w'=>∃N,Xk w w' x b (h+1) n ⟨p,d,E⟩ S be wv N) w (by omega) ?_ ?_ ?_
  ·rintro j wr ⟨D,o,l,v,a⟩;obtain⟨nx,vx,ar⟩:=a1 j D l a.hw;have P:((D.zip o).map Ao++(k.drop j).map Ao).length=k.length:=by have:=a.le;simp[a.l1,a.l2];omega
   have br:((D.zip o).map Ao++(k.drop j).map Ao)≠[]:=fun e=>by have aj:k≠[]:=fun g=>f.wi.ne (by rw[R,g];rfl);have bz:=Pn.2 aj;rw[e]at P;simp at P;omega
   obtain⟨I,cap,ae,co,cm,_,_,bd,_⟩:=a.nd.row br;have c3:=a.nd.node.c3;rw[ae,P]at c3;refine⟨I,cap,c3,fun L=>?_⟩;obtain⟨z,hz⟩:∃z,k[j]?=some z:=⟨_,Az L⟩
   have M:k.drop j=z::k.drop (j+1):=by rw[Kh L];rw[Az L]at hz;cases hz;rfl
   have a3:z∈k:=Hs hz;have af:t.es[j]?=some z.1:=by rw[R,Fq,hz];rfl
   have b4:z.1∈t.es:=Hs af
   have au:((D.zip o).map Ao++(k.drop j).map Ao)[j]?=some (Ao z):=by rw[If (by simp[a.l1,a.l2])];simp[a.l1,a.l2,M]
   have c4:=bd j (Ao z) au 4 (by decide);have J:=a.kid z (by rw[M];simp)
   have same:z.1.2.place≠0->∃D o l v,WnJ w wr x b rk h n t S st wv ev t.dig k (j+1) D o l v:=fun H=>by have Y:=Ang T a.hw af;rw[if_neg H]at Y;refine⟨D++[z.1],o++[z.2],l,v,Y,by simp[a.l1],by simp[a.l2],L,a.sys,a.la,a.kp,?_,fun y hy=>a.kid y (by rw[M];simp[hy])⟩;have:=a.nd;rw[M]at this;rw[Ao1 _ _ _ _ (a.l1.trans a.l2.symm)];simpa using this
   cases ab:z.2.c with
   |none=>unfold Eo at J;rw[ab]at J;have cg:=(Oi J.1).1;refine .inl ⟨?_,same (by omega)⟩;rw[c4];simp[EG.cells,Oh,Ao,ab,Jg]
   |some c=>
    unfold Eo at J;rw[ab]at J
    have a7:wr.cell? ⟨I,j*5+4,none⟩=some (.pointer (some ⟨c,0,none⟩)):=by rw[c4];simp[EG.cells,Oh,Ao,ab,Jg]
    obtain⟨cf,ch,a4,_⟩:=Au.top J;by_cases H:z.1.2.place=0
    ·have Y:=Ang T a.hw af;rw[if_pos H]at Y;obtain⟨s,ah,ac,bt⟩:=Y;have a6:=a4.node.c1;rw[H]at a6;refine .inr (.inr ⟨c,a7,a6,?_⟩);obtain⟨G,ad,ao,bo⟩:=aa z.1 b4;obtain⟨u,F⟩:=vx.v;have cj:=Apn (List.map (fun e:By×Nd h=>De h e.2) t.es) j (De h z.1.2) (by rw[Fq,af];rfl);have bi:=Ab3 (List.map (fun e:By×Nd h=>De h e.2) t.es) (j+1);have bh:=vx.f;have X:=vx.w;rw[Uw]at bh X F;have am:∀i∈z.2.S,i∈S:=a9 z a3
     have an:bp∉S++Ai.set x b wv:=fun g=>by
      rcases As.1 g with g|g
      ·exact(f.fo bp g).2 rfl
      ·exact f.ap g
     have az:Rn rk l h z.1.2:=⟨Fz.nx nx h z.1.2 ad ao,ao.nx nx,G.1.1,G.1.ne,G.1.2.2,.inr G.1.2.1,bo⟩;have b1:Yt wr x b bp rk h c z.1.2 z.2.S z.2.U l v:=⟨a.sys,by rw[F];exact f.pv,f.key.of_block (a.kp.block bp f.key.lt an) a.kp.size,fun g=>(a.la.sub g).elim f.ap (fun e=>by have:=f.key.lt;omega),J,fun i m=>⟨fo v a.la i (am i m),(f.fo i (am i m)).2⟩,az,f.inv.nx nx,H,by rw[F];exact f.se,by rw[F];show st.v.done+_+_<=999;omega,by rw[X];omega,by omega⟩;refine(ih c z.1.2 z.2.S z.2.U l v wr b1 s ah ac).mono ?_;rintro e w1 ⟨rfl,ak,Q⟩;refine⟨rfl,?_⟩;obtain⟨cp,cn,ax⟩:=Q.nd;have b5:=Um rk h z.1.2 l s ah az (f.inv.nx nx) H ac
     have ba:∀i∈Ad n ev,i∉z.2.S++Ai.set x b v:=fun i m g=>by
      rcases As.1 g with g|g
      ·exact V.s1 z a3 i g m
      ·exact(fo v a.la i (Z i m)).1 g
     have n1:=a.nd.kp Q.kp (ba n (by simp[Ad])) (fun i m=>ba i (by simp[Ad,m]));have al:=ae;have bb:=n1.node.c3;rw[ae,P]at bb;have bk:=n1.there5 al j (by rw[P];exact L);have b2:Bw w1 w1.drew:=(Ah _ _).drew;have n2:=n1.below b2;have n3:=n2.cell al j 2 (Ao z) {Ao z with place:=s.place} (.int .i64 (s.place:Int)) au (by decide) rfl;have n4:=n3.cell (by rw[Ht];exact al) j 3 {Ao z with place:=s.place} {Ao z with place:=s.place,digest:=s.dig} (Ac s.dig) (by rw[List.getElem?_set_self (by rw[P];exact L)]) (by decide) rfl;rw[List.set_set]at n4
     have bv:((D.zip o).map Ao++(k.drop j).map Ao).set j {Ao z with place:=s.place,digest:=s.dig}=((D++[(z.1.1,s)]).zip (o++[z.2])).map Ao++(k.drop (j+1)).map Ao:=by
      rw[Ao1 _ _ _ _ (a.l1.trans a.l2.symm),M,Db];have W:((D.zip o).map Ao).length=j:=by simp[a.l1,a.l2]
      have ay:=Nj ((D.zip o).map Ao) ((k.drop (j+1)).map Ao) (Ao z) {Ao z with place:=s.place,digest:=s.dig};rw[W]at ay;rw[ay];simp[Ao]
     rw[bv]at n4;have ag:I∈Ad n ev:=by simp[Ad,ae,Value.ownBlock]
     have ai:Kp [I] w1 (w1.drew.setCells I (j*5+2) [.int .i64 (s.place:Int),Ac s.dig]):=((Kp.refl [I] w1).drew).setCells I _ _ (.inl (by simp));have b3:=a.kp.size;have a8:Cd wv ak w.heap.size:=a.la.trans Q.la b3;refine⟨I,cap,s.place,s.dig,bb,Uy ax.node.c1 ax.node.c2,fun i m=>?_,D++[(z.1.1,s)],o++[z.2],ah,ak,bt,by simp[a.l1],by simp[a.l2],L,Q.sys.kp ai (fun i m=>?_),a8,(a.kp.step Q.kp (fun i m=>?_)).trans (ai.mono (fun i m=>?_)),n4,fun y hy=>?_⟩
     ·have:=bk (i+2) (by omega);have e:j*5+(i+2)=j*5+2+i:=by omega
      rw[e]at this;exact this
     ·simp at m;subst m;exact fo ak a8 _ (Z _ ag)
     ·rcases As.1 m with g|g
      ·exact .inl (Bl _ (am i g))
      ·exact(a.la.sub g).imp (Bg _) id
     ·simp at m;subst m;exact Bl _ (Z _ ag)
     ·have ap:y∈k:=Qs hy;have bq:=a.kid y (by rw[M];simp[hy])
      have b8:Ck y.2.S z.2.S:=by have a0:=List.Pairwise.sublist (List.drop_sublist j k) V.s2;rw[M]at a0;exact((Er.1 a0).1 y hy).symm
      have bj:Ik l h y.1.2:=(aa y.1 (by rw[R];exact List.mem_map_of_mem ap)).2.2.1.nx nx;refine((bq.kp Q.kp (fun i m g=>?_)).kp ai (fun i m g=>?_)).nx b5.nx bj
      ·rcases As.1 g with g|g
       ·exact b8 i m g
       ·exact(fo v a.la i (a9 y ap i m)).1 g
      ·simp at g;subst g;exact V.s1 y ap _ m ag
    ·exact .inr (.inl ⟨c,z.1.2.place,a7,a4.node.c1,H,same H⟩)
  ·rintro wr ⟨D,o,l,v,a⟩;obtain⟨nx,vx,ar⟩:=a1 k.length D l a.hw;have bc:=a.hw;rw[bw,Yb,T]at bc;cases bc;have cd:(E.zip o).map Ao++(k.drop k.length).map Ao=(E.zip o).map Ao:=by simp
   have av:=a.nd;rw[cd]at av;have W:((E.zip o).map Ao).length=k.length:=by simp[a.l1,a.l2]
   have aj:k≠[]:=fun g=>f.wi.ne (by rw[R,g];rfl);have bz:=Pn.2 aj;obtain⟨u,F⟩:=vx.v;have X:=vx.w;have bi:=Ab3 (List.map (fun e:By×Nd h=>De h e.2) t.es) k.length;rw[Uw]at X F
   have an:bp∉S++Ai.set x b wv:=fun g=>by
    rcases As.1 g with g|g
    ·exact(f.fo bp g).2 rfl
    ·exact f.ap g
   have bs:((E.zip o).map Ao).map EG.em=E.map Tx:=by
    have ac:∀q:EK h,(Ao q).em=Tx q.1:=fun q=>rfl;have hz:=List.map_fst_zip (l₁:=E) (l₂:=o) (by rw[a.l1,a.l2];exact Ak _);rw[Pq]
    conv=>rhs;rw[<-hz,Pq]
    exact Aaj (fun q _=>ac q)
   have ck:=(f.inv.nx nx).le;refine(Akm (ems:=E.map Tx) a.sys (by rw[F];exact f.pv) (f.key.of_block (a.kp.block bp f.key.lt an) a.kp.size) (fun g=>(a.la.sub g).elim f.ap (fun e=>by have:=f.key.lt;omega)) av (fun j C=>fo v a.la j (Z j C)) bs b9 (by rw[F];show st.v.done+_<1000;omega) (by rw[F];exact f.se) (by rw[X];omega) (fun e=>by rw[e]at W;simp at W;omega) (fun e A=>?_) (by rw[W];omega)).mono ?_
   ·obtain⟨q,bl,rfl⟩:=Kj.1 A;have ce:q.1∈E:=(List.of_mem_zip bl).1;obtain⟨G,ad,ao⟩:=ar q.1 ce;obtain⟨y,hy,cb⟩:=Aa3 G.1;have bf:=Ac9 h q.1.2 G.1.1 y hy;have ct:=(Oi ad).2.1;exact⟨by show q.1.1.length<=8;rw[G.2,<-cb];exact bf.2.1,Cu _,by show q.1.2.place<=255;omega,by show q.1.2.dig.length<=32;rw[Ajn ad];exact Ak _⟩
   ·rintro e w' ⟨rfl,N,bm,b0,bu,l'⟩;refine⟨rfl,N,bm,⟨_,ev,b0⟩,a.kp.step bu (fun j C=>?_),a.la.trans l' a.kp.size⟩;rcases Al.1 C with rfl|g
    ·exact .inl (Bl _ (Z _ (by simp[Ad])))
    ·exact(a.la.sub g).imp (Bg _) id
  ·refine⟨[],[],st,wv,rfl,rfl,rfl,Cu _,f.sys,Cd.refl _ _,Kp.refl _ _,?_,fun z hz=>V.kid z hz⟩;have:=V.nd;rw[aq]at this;exact this
theorem Apb (x:DX)(b bp:Nat)(rk:By):∀(h n:Nat) (t:Nd h) (S:List Nat) (U:Nat) (st:Ax) (wv:Value) (w:World),Yt w x b bp rk h n t S U st wv->∀(c:Nd h) (a:Ax),Ex rk h t st=some (c,a)->
   Cl 94 #[.pointer (some ⟨b,0,none⟩),.pointer (some ⟨n,0,none⟩)] w fun e w'=>e=.returned (.int .i64 0)/\∃d,Xk w w' x b h n c S a wv d
 |0,n,t,S,U,st,wv,w,hi,c,a,hw=>Aq8 x b bp rk n t S U st wv w hi c a hw
 |h+1,n,t,S,U,st,wv,w,hi,c,a,hw=>A2f x b bp rk h (fun n t S U st wv w=>Apb x b bp rk h n t S U st wv w) n t S U st wv w hi c a hw
def Fj (a:Nat):Ay->Nat
 |none=>0
 |some ⟨h,t⟩=>cnt a h t
theorem A0a (k s:By)(a:Nat)(ha:2<=a)(T:Ay)(hr:Ep T):Fj a (some (Fl k s T))+(Uk k T).count a=Fj a T:=by
 cases T with
 |none=>simp[Fj,Fl,Uk,cnt,Mx ha]
 |some f=>
  obtain⟨h,t⟩:=f;have e:Kn h t:=hr;have b:=Aqk k s a ha h t e.ne e.wf e.asc
  cases c:(Cc k s h t).2 with
  |none=>
   have d:Fl k s (some ⟨h,t⟩)=⟨h,(Cc k s h t).1⟩:=by simp only[Fl,c]
   rw[d];rw[c]at b;simpa [Fj,Uk,Vv]using b
  |some q=>
   have d:Fl k s (some ⟨h,t⟩)=⟨h+1,⟨0,[],[((Cc k s h t).1.least,(Cc k s h t).1),(q.least,q)]⟩⟩:=by simp only[Fl,c]
   rw[d];rw[c]at b;simp only[Vv]at b;simp only[Fj,Uk,cnt,Db,Lc,Jy,List.sum_nil];rw[Mx ha];omega
theorem A06 (a:Nat)(ha:2<=a)(h:Nat)(t:Nd h)(c:t.place=0):Fj a (Cn h t)=cnt a h t:=by
 cases h with
 |zero=>
  have h0:cnt a 0 t=0:=by simp only[cnt];rw[c];exact Mx ha
  by_cases e:t.es=[]
  ·have b:Cn 0 t=none:=by simp only[Cn,e,if_true]
   rw[b,h0];rfl
  ·have b:Cn 0 t=some ⟨0,t⟩:=by simp only[Cn,e,if_false]
   rw[b];rfl
 |succ h=>
  match hes:t.es with
  | []=>
   have b:Cn (h+1) t=none:=by simp only[Cn,hes]
   rw[b];simp only[cnt,hes,Lc,List.sum_nil];rw[c,Mx ha];rfl
  | [e]=>
   have b:Cn (h+1) t=some ⟨h,e.2⟩:=by simp only[Cn,hes]
   rw[b];simp only[cnt,hes,Db,Lc,Jy,List.sum_nil];rw[c,Mx ha,Dq];rfl
  |e::e'::l=>
   have b:Cn (h+1) t=some ⟨h+1,t⟩:=by simp only[Cn,hes]
   rw[b];rfl
theorem Ay1 (k:By)(a:Nat)(ha:2<=a)(T:Ay)(hr:Ep T):Fj a (Gz k T)+(Qp k T).count a=Fj a T:=by
 cases T with
 |none=>simp[Fj,Gz,Qp]
 |some f=>
  obtain⟨h,t⟩:=f;have e:Kn h t:=hr
  cases b:Dd k h t with
  |none=>
   have c:Gz k (some ⟨h,t⟩)=some ⟨h,t⟩:=by simp only[Gz,b]
   rw[c];simp[Qp,Jq,b]
  |some d=>
   have c:Gz k (some ⟨h,t⟩)=Cn h d:=by simp only[Gz,b]
   obtain⟨c1,c2⟩:=Af6 k a ha h t d e.ne e.wf e.asc b;rw[c,A06 a ha h d c2];simpa [Qp,Jq,b,Fj]using c1
theorem Af0 (a:Nat)(ha:2<=a):∀(cs:List Ag) (s:Kl),(∀c∈cs,Sy c)->Ep s.top->Fj a (Bt s cs).top+(Bt s cs).rl.count a=Fj a s.top+s.rl.count a
 | [],s,_,_=>rfl
 |c::cs,s,hc,hr=>by
  obtain⟨h1,_⟩:=Adg s c (hc c (by simp)) hr;have ih:=Af0 a ha cs (Hj s c) (fun d hd=>hc d (by simp[hd])) h1;have e:Bt s (c::cs)=Bt (Hj s c) cs:=rfl;rw[e,ih];unfold Hj;split
  ·have:=Ay1 c.key a ha s.top hr;simp only[List.count_append];omega
  ·have:=A0a c.key c.value a ha s.top hr;simp only[List.count_append];omega
def nw (st b:Ax)(a:Nat):Nat:=if st.v.used.getD a false then 0 else if b.v.used.getD a false then 1 else 0
theorem Apk (st:Ax)(a:Nat):nw st st a=0:=by unfold nw;cases st.v.used.getD a false<;>rfl
theorem Ajq {a b c:Ax}(h:Nx a b)(k:Nx b c)(i:Nat):nw a c i=nw a b i+nw b c i:=by have h1:=h.mono i;have h2:=k.mono i;unfold Sd at h1 h2;unfold nw;cases ha:a.v.used.getD i false<;>cases hb:b.v.used.getD i false<;>cases d:c.v.used.getD i false<;>simp_all
theorem Alr {rk:By}{leaf:Bool}{ems:List Gp}{st b:Ax}{p:Nat}{d:By}(f:Kb rk st)(hw:Nq rk leaf ems st=some ((p,d),b))(a:Nat):nw st b a=one (p==a):=by
 unfold Nq at hw;split at hw
 ·cases hw
 ·rename_i q rest c;obtain⟨f1,f2,g⟩:=Zj (used:=st.v.used) (n:=st.m.blocks.length) (p:=q) (by rw[c];simp);cases hw;have h:p<st.v.used.length:=Eu f2 f.us;unfold nw one;by_cases e:p=a
  ·subst e;rw[g];simp[List.getD,h]
  ·have e2:(p==a)=false:=by simpa using e
   rw[e2];have e3:(st.v.used.set p true).getD a false=st.v.used.getD a false:=by simp[List.getD,e]
   show(if st.v.used.getD a false then 0 else if(st.v.used.set p true).getD a false then 1 else 0)=_;rw[e3];cases st.v.used.getD a false<;>rfl
theorem Ahz {rk:By}{h:Nat}{a:Nat}(ih:∀(t:Nd h) (st:Ax) (g:Nd h) (b:Ax),Rn rk st h t->Kb rk st->t.place=0->Ex rk h t st=some (g,b)->cnt a h g=cnt a h t+nw st b a):
  ∀(es:List (By×Nd h)) (st:Ax) (es':List (By×Nd h)) (b:Ax),(∀e∈es,Gl e/\Fz st.m rk h e.2/\Ik st h e.2/\Ba (flat h e.2))->Kb rk st->Ez (Ex rk h) es st=some (es',b)->Fv a (h+1) es'=Fv a (h+1) es+nw st b a
 | [],st,es',b,_,_,hw=>by
  cases hw;rw[Apk];rfl
 |e::es,st,es',b,hk,hi,hw=>by
  obtain⟨k1,w,A,v⟩:=hk e (by simp);unfold Ez at hw;by_cases j:e.2.place=0
  ·rw[if_pos j]at hw
   cases i:Ex rk h e.2 st with
   |none=>rw[i]at hw;cases hw
   |some r=>
    obtain⟨n,c⟩:=r;rw[i]at hw;simp only[Ip,Ig]at hw;obtain⟨⟨k,f⟩,l,m⟩:=hw;cases m;have s:Rn rk st h e.2:=⟨w,A,k1.1.1,k1.1.ne,k1.1.2.2,.inr k1.1.2.1,v⟩;have d:=Um rk h e.2 st n c s hi j i;have c1:=ih e.2 st n c s hi j i
    have q:∀x∈es,Gl x/\Fz c.m rk h x.2/\Ik c h x.2/\Ba (flat h x.2):=fun x o=>by obtain⟨u,z,p,y⟩:=hk x (by simp[o]);exact⟨u,z.nx d.nx h x.2 p,p.nx d.nx,y⟩
    have c2:=Ahz ih es c k f q (hi.nx d.nx) l;obtain⟨n1,_⟩:=Xf (fun t st g b=>Um rk h t st g b) es c k f q (hi.nx d.nx) l;rw[Lz,Lz,c2,Ajq d.nx n1];show cnt a h n+_=_;rw[c1];omega
  ·rw[if_neg j]at hw;simp only[Ig]at hw;obtain⟨⟨k,f⟩,l,m⟩:=hw;cases m;have c2:=Ahz ih es st k f (fun x o=>hk x (by simp[o])) hi l;rw[Lz,Lz,c2,Nat.add_assoc]
theorem Anw (rk:By)(a:Nat)(ha:2<=a):∀(h:Nat) (t:Nd h) (st:Ax) (b:Nd h) (c:Ax),Rn rk st h t->Kb rk st->t.place=0->Ex rk h t st=some (b,c)->cnt a h b=cnt a h t+nw st c a
 |0,t,st,b,c,hI,hi,hp,hw=>by unfold Ex at hw;simp only[Ig]at hw;obtain⟨⟨⟨p,d⟩,k⟩,g,j⟩:=hw;cases j;rw[Alr hi g];simp only[cnt];rw[hp,Mx ha,Dq]
 |h+1,t,st,b,c,hI,hi,hp,hw=>by
  unfold Ex at hw
  cases i:Ez (Ex rk h) t.es st with
  |none=>rw[i]at hw;cases hw
  |some r=>obtain⟨m,k⟩:=r;rw[i]at hw;simp only[Ip,Ig]at hw;obtain⟨⟨⟨p,d⟩,n⟩,g,j⟩:=hw;cases j;have hk:=hI.old.kids;have l:∀e∈t.es,Gl e/\Fz st.m rk h e.2/\Ik st h e.2/\Ba (flat h e.2):=fun e f=>⟨(Gg.1 hI.wf) e f,hk e f,hI.us.kid f,(List.pairwise_flatMap.1 (show Ba (t.es.flatMap fun e=>flat h e.2)from hI.asc)).1 e f⟩;have c2:=Ahz (fun t st b c=>Anw rk a ha h t st b c) t.es st m k l hi i;obtain⟨n1,_⟩:=Xf (fun t st b c=>Um rk h t st b c) t.es st m k l hi i;obtain⟨nx,_⟩:=Ah8 (hi.nx n1) g;rw[Ajq n1 nx,Alr (hi.nx n1) g,Js a (h+1),Js a (h+1) t];simp only;rw[c2,hp,Mx ha];omega
theorem Aqt:∀(rl:List Nat) (u:List Bool) (a:Nat),(Mz rl u).getD a false=(u.getD a false&& !rl.contains a)
 | [],u,a=>by simp[Mz]
 |q::rl,u,a=>by
  have ih:=Aqt rl (u.set q false) a;have e:Mz (q::rl) u=Mz rl (u.set q false):=rfl;rw[e,ih];by_cases h:q=a
  ·subst h
   have h1:(u.set q false).getD q false=false:=by
    rcases Hv q u.length with g|g
    ·simp[List.getD,g]
    ·simp[List.getD,g]
   rw[h1];simp
  ·have h1:(u.set q false).getD a false=u.getD a false:=by simp[List.getD,h]
   have h2:(q::rl).contains a=rl.contains a:=by
    rw[List.contains_cons];have:(a==q)=false:=by simpa using fun g=>h g.symm
    rw[this,Bool.false_or]
   rw[h1,h2]
def Tp (used:List Bool)(T:Ay):Prop:=∀a,2<=a->Fj a T=one (used.getD a false)
theorem Tp.save {used e:List Bool}{T f h:Ay}{rl:List Nat}(i:Tp used T)(hr:∀a,2<=a->Fj a f+rl.count a=Fj a T)(j:∀a,used.getD a false=true->e.getD a false=true)(hw:∀a,2<=a->Fj a h=Fj a f+(if used.getD a false then 0 else if e.getD a false then 1 else 0)):Tp (Mz rl e) h:=fun a ha=>by
 have h1:=i a ha;have h2:=hr a ha;have c:=hw a ha;rw[Aqt]
 cases g:used.getD a false with
 |true=>
  rw[g]at h1 c;rw[j a g];simp only[one,if_true]at h1 c⊢;by_cases b:a∈rl
  ·have:=List.count_pos_iff.2 b;have d:rl.contains a=true:=by simpa using b
   rw[d];simp;omega
  ·have h0:rl.count a=0:=List.count_eq_zero.2 b;have d:rl.contains a=false:=by simpa using b
   rw[d];simp;omega
 |false=>
  rw[g]at h1 c;simp only[one,Ng,if_false]at h1 c⊢;have h0:rl.count a=0:=by omega
  have b:a∉rl:=List.count_eq_zero.1 h0;have d:rl.contains a=false:=by simpa using b
  rw[d,c,show Fj a f=0 from by omega];cases e.getD a false<;>rfl
def Gm (k:By)(l:PL):Option By:=(l.find? fun e=>e.1==k).map Prod.snd
theorem Ahe (k:By)(A B:PL):Gm k (A++B)=(Gm k A).or (Gm k B):=by unfold Gm;rw[List.find?_append];cases A.find? (fun e=>e.1==k)<;>simp
theorem Abv {k:By}{l:PL}(h:∀e∈l,e.1≠k):Gm k l=none:=by unfold Gm;rw[List.find?_eq_none.2 (fun e a=>by simpa using h e a)];rfl
def Xi (k:By):(h:Nat)->Nd h->Option By
 |0,t=>match t.es[Bx k (Be t.es)]? with
  |none=>none
  |some e=>if e.1=k then some e.2 else none
 |h+1,t=>match t.es[Dk k (Be t.es)]? with
  |none=>none
  |some e=>Xi k h e.2
theorem Aq4 (k:By):∀(h:Nat) (t:Nd h),Wf h t->Ba (flat h t)->t.es≠[]->Xi k h t=Gm k (flat h t)
 |0,t,hw,ha,hn=>by
  obtain⟨A,f,h1,h2,s,w⟩:=Ag9 k t.es;have d:Gm k A=none:=Abv (fun e b=>(s e b).ne);show _=Gm k t.es;unfold Xi;rw[<-h2]
  cases f with
  |nil=>
   have:t.es[A.length]?=none:=by rw[h1];simp
   rw[this,h1,Ff,d]
  |cons a f=>
   have j:t.es[A.length]?=some a:=by rw[h1];simp
   rw[j,h1,Ahe,d,Option.none_or];simp only;by_cases i:a.1=k
   ·rw[if_pos i];unfold Gm;rw[List.find?_cons_of_pos (by simpa using i)];rfl
   ·rw[if_neg i];refine(Abv fun e b p=>?_).symm;rcases Al.1 b with rfl|g
    ·exact i p
    ·have r:Ba (A++a::f):=h1▸ha;have:=(Er.1 (Dc.1 r).2.1).1 e g;rw[p]at this;exact absurd this (w a f rfl)
 |h+1,t,hw,ha,hn=>by
  obtain⟨A,c,B,m,d,u,v⟩:=Tc k h t hw hn ha
  have n:flat (h+1) t=A.flatMap (fun e=>flat h e.2)++(flat h c.2++B.flatMap (fun e=>flat h e.2)):=by show t.es.flatMap _=_;rw[m,Gh,Da]
  have o:=((Gg.1 hw) c (by rw[m];simp)).1;have j:t.es[A.length]?=some c:=by rw[m];simp
  rw[n]at ha;have q:=(Dc.1 (Dc.1 ha).2.1).1;have ih:=Aq4 k h c.2 o.1 q o.ne;unfold Xi;rw[<-d,j,n,Ahe,Ahe,Abv (l:=A.flatMap _) (fun e b=>(u e b).ne),Abv (l:=B.flatMap _) (fun e b x=>(v e b).ne x.symm)];simp only[Option.none_or,Option.or_none];exact ih
def Gn:Ay->Nat
 |none=>0
 |some ⟨h,t⟩=>De h t
theorem Amh {w:World}{m:DM}{rk:By}{top:Value}{T:Ay}{S:List Nat}{U:Nat}(b:Qk w m rk top T S U)(hr:Ep T)(d:Gn T<=1000):
  Cl 92 #[top] w fun e w'=>e=.returned (.int .i64 (Gn T:Int))/\w'=w:=by
 cases T with
 |none=>obtain⟨rfl,_,_⟩:=b;exact Afa w
 |some q=>obtain⟨h,t⟩:=q;obtain⟨n,rfl,c⟩:=b;have a:Kn h t:=hr;have f:De h t<=1000:=d;exact Alc h n t S U c a.wf a.ne (by have:=a.le;omega) (by omega)
theorem A2d (x:DX)(b bw lk:Nat)(m:DM)(v:VM)(wv rv:Value)(rk:By)(a:Option Addr)(T:Ay)(S:List Nat)(U c:Nat)(ch:Bool)(w:World)(h:Ai w x b m v wv)(hw:Dj w bw b lk (.pointer a) rv ch)(f:Qk w m rk (.pointer a) T S U)(hr:Ep T)(j:Gn T<=1000)
  (k:Ku m v (Gn T)=c) (p:0<c) (hd:v.done<1000):
  Cl 67 #[.pointer (some ⟨b,0,none⟩),.pointer (some ⟨bw,0,none⟩)] w fun e w'=>e=.returned (.int .i64 c)/\Bw w w':=by
 have c2:=hw.c2;have g:=Aa (Amh f hr j);have d:=Anz x b m v wv (Gn T) w h (by omega) (by omega);rw[k]at d;have l:=Aa d;have q:((c:Int)==0)=false:=by rw[beq_eq_false_iff_ne];omega
 have o:¬(c=0):=by omega
 clear h hw f hr k d hd j;generalize Gn T=N at*;go_enter Tryz.func67,Tryz.ntmps67;go_wp2_with fail;refine g.o.mono ?_;rintro e w0 ⟨rfl,i⟩;rw[i];clear i w0 g;go_wp2_with fail;refine l.o.mono ?_;rintro e w1 ⟨rfl,n⟩;go_wp2_with fail;go_ret;exact⟨rfl,n⟩
def Wg:Ay->Prop
 |none=>True
 |some ⟨_,t⟩=>t.place=0
theorem Awj {α:Type}(l r:Es α)(b:Bool):Hg l r b≠[]/\∀e∈Hg l r b,e.2.place=0:=by
 unfold Hg;split
 ·simp
 ·split<;>simp
theorem A30 {α:Type}(es:List (By×Es α))(i:Nat)(e:By×Es α)(h2:2<=es.length)(h:Ti es i=[e]):e.2.place=0:=by
 unfold Ti at h;split at h
 ·rename_i l r _ _;obtain⟨c,d⟩:=Awj l.2 r.2 (Jp es i==i);obtain⟨x,f,b⟩:=Xt c;have a:x∈([e]:List (By×Es α)):=by rw[<-h,b];simp
  simp at a;subst a;exact d x (by rw[b];simp)
 ·rw[h]at h2;simp at h2
theorem Ats (k:By)(h:Nat)(t b:Nd (h+1))(h2:2<=t.es.length)(hr:Dd k (h+1) t=some b)(e:By×Nd h)(a:b.es=[e]):e.2.place=0:=by
 unfold Dd at hr;split at hr
 ·cases hr
 ·split at hr
  ·cases hr
  ·cases hr;simp only at a;split at a
   ·exact A30 _ _ e (by rw[Ht];exact h2) a
   ·have:=congrArg List.length a;rw[Ht]at this;simp at this;omega
theorem Atl (k:By)(T:Ay)(hr:Ep T)(m:gone k T=true):Wg (Gz k T):=by
 cases T with
 |none=>trivial
 |some j=>
  obtain⟨h,t⟩:=j;have d:Kn h t:=hr;have i:(Dd k h t).isSome=true:=m
  cases c:Dd k h t with
  |none=>rw[c]at i;cases i
  |some a=>
   have b:Gz k (some ⟨h,t⟩)=Cn h a:=by simp only[Gz,c]
   obtain⟨_,f⟩:=Af6 k 2 (by decide) h t a d.ne d.wf d.asc c;rw[b]
   cases h with
   |zero=>
    by_cases e:a.es=[]
    ·have b:Cn 0 a=none:=by simp only[Cn,e,if_true]
     rw[b];trivial
    ·have b:Cn 0 a=some ⟨0,a⟩:=by simp only[Cn,e,if_false]
     rw[b];exact f
   |succ h=>
    match hes:a.es with
    | []=>
     have b:Cn (h+1) a=none:=by simp only[Cn,hes]
     rw[b];trivial
    | [e]=>
     have b:Cn (h+1) a=some ⟨h,e.2⟩:=by simp only[Cn,hes]
     rw[b]
     exact Ats k h t a (by rcases d.two with g|g;· cases g
                           ·exact g) c e hes
    |e::e'::l=>
     have b:Cn (h+1) a=some ⟨h+1,a⟩:=by simp only[Cn,hes]
     rw[b];exact f
theorem Anr {α:Type}(t:Es α):(Ft t).1.place=t.place:=by unfold Ft;split<;>rfl
theorem Azs (k s:By)(h:Nat)(t:Nd h)(hw:Wf h t)(a:t.es≠[])(ha:Ba (flat h t)):(Cc k s h t).1.place=0:=by
 cases h with
 |zero=>unfold Cc;rw[Anr]
 |succ h=>
  obtain⟨A,e,B,d,b,_,_⟩:=Tc k h t hw a ha;have c:t.es[Dk k (Be t.es)]?=some e:=by rw[<-b,d];simp
  unfold Cc;rw[c];simp only;rw[Anr]
theorem Awm (k s:By)(T:Ay)(hr:Ep T):Wg (some (Fl k s T)):=by
 cases T with
 |none=>rfl
 |some d=>
  obtain⟨h,t⟩:=d;have b:Kn h t:=hr
  cases c:(Cc k s h t).2 with
  |none=>
   have a:Fl k s (some ⟨h,t⟩)=⟨h,(Cc k s h t).1⟩:=by simp only[Fl,c]
   rw[a];exact Azs k s h t b.wf b.ne b.asc
  |some q=>
   have a:Fl k s (some ⟨h,t⟩)=⟨h+1,⟨0,[],[((Cc k s h t).1.least,(Cc k s h t).1),(q.least,q)]⟩⟩:=by simp only[Fl,c]
   rw[a];rfl
theorem Ajj (k:By)(T:Ay)(d:gone k T=false):Gz k T=T:=by
 cases T with
 |none=>rfl
 |some c=>
  obtain⟨h,t⟩:=c;have a:(Dd k h t).isSome=false:=d
  cases b:Dd k h t with
  |none=>simp only[Gz,b]
  |some e=>rw[b]at a;cases a
theorem Aof:∀(cs:List Ag) (s:Kl),(∀c∈cs,Sy c)->Ep s.top->(s.ch=true->Wg s.top)->(Bt s cs).ch=true->Wg (Bt s cs).top
 | [],s,_,_,hn,hc=>hn hc
 |c::cs,s,hok,hr,hn,hc=>by
  obtain⟨h1,_⟩:=Adg s c (hok c (by simp)) hr;refine Aof cs (Hj s c) (fun d hd=>hok d (by simp[hd])) h1 (fun a=>?_) hc;unfold Hj at a⊢;split at a
  ·rename_i e;rw[if_pos e];simp only at a⊢
   cases b:gone c.key s.top with
   |true=>exact Atl c.key s.top hr b
   |false=>rw[Ajj c.key s.top b];rw[b,Bool.or_false]at a;exact hn a
  ·rename_i e;rw[if_neg e];exact Awm c.key c.value s.top hr
theorem Anc:∀(cs:List Ag) (s:Kl),(∀c∈cs,Sy c)->Ep s.top->(Bt s cs).ch=false->(Bt s cs).top=s.top/\cs.foldl Ca (Df s.top)=Df s.top
 | [],s,_,_,_=>⟨rfl,rfl⟩
 |c::cs,s,hok,hr,hc=>by
  obtain⟨h1,h2,_⟩:=Adg s c (hok c (by simp)) hr;obtain⟨f,e⟩:=Anc cs (Hj s c) (fun d hd=>hok d (by simp[hd])) h1 hc
  have g:∀(cs:List Ag) (s:Kl),(Bt s cs).ch=false->s.ch=false:=by
   intro cs
   induction cs with
   |nil=>intro s h;exact h
   |cons d cs ih=>
    intro s h;have:=ih (Hj s d) h;unfold Hj at this;split at this
    ·simp only[Bool.or_eq_false_iff]at this;exact this.1
    ·cases this
  have a:=g cs (Hj s c) hc
  have b:(Hj s c).top=s.top:=by
   unfold Hj at a⊢;split at a
   ·rename_i i;rw[if_pos i];simp only[Bool.or_eq_false_iff]at a;exact Ajj c.key s.top a.2
   ·cases a
  refine⟨f.trans b,?_⟩;rw[So,<-h2,e,b]
def Un (rk:By):Ay->Ax->Option ((Nat×By)×Ax)
 |none,st=>some ((0,[]),st)
 |some ⟨h,t⟩,st=>(Ex rk h t st).map fun r=>((r.1.place,r.1.dig),r.2)
def Adf (st:Ax):Ay->Prop
 |none=>True
 |some ⟨h,t⟩=>Ik st h t
def Kc (tk:By)(P:Nat)(DG:By)(st:Ax):DM:=st.m.flush.advance (st.v.version+1) (Ci tk st.v.salt (st.v.version+1) P DG)
def Ut (P:Nat)(DG:By)(st:Ax)(rl:List Nat):VM:={st.v with place:=P,digest:=DG,version:=st.v.version+1,used:=Mz rl st.v.used}
structure Ve (w:World)(x:DX)(b bt bp bw lk:Nat)(m:DM)(v:VM)(wv:Value)(a:Option Addr)(rv:Value)(tk rk:By)(T:Ay)(S:List Nat)(U:Nat)(rl:List Nat):Prop where
 kit:Hm w x b m v wv bt bp tk rk
 wk:Dj w bw b lk (.pointer a) rv true
 tr:Qk w m rk (.pointer a) T S U
 row:Pv w rv rl
 fw:Ce x b wv bw
 fS:∀j∈S,Ce x b wv j/\j≠bp/\j≠bt/\j≠bw
 fr:∀j,rv.ownBlock=some j->Ce x b wv j/\j∉S
 root:Ep T
 new:Wg T
 old:Ql m rk T
 us:Adf ⟨m,v⟩ T
 inv:Kb rk ⟨m,v⟩
 nn:Gn T<=999
 room:Ku m v (Gn T)=0
 dn:v.done<=40
 se:v.session<9223372036854775808
 ve:v.version<1048576
 ct:m.count<m.ceiling
 wr:m.wrote.length<4998000
 rlt:∀q∈rl,q<48
 rll:rl.length<=100000
structure Pa (w w4:World)(x:DX)(b bt bp bw lk:Nat)(wv wv3:Value)(a:Option Addr)(rv:Value)(tk rk:By)(rl S:List Nat)(st:Ax)(P:Nat)(DG:By)(r:Nat):Prop where
 kit:Hm w4 x b st.m st.v wv3 bt bp tk rk
 wk:Dj w4 bw b lk (.pointer a) rv true
 row:Pv w4 rv rl
 q:w4.heap[r]?=some (.cells #[.int .i64 P,Ac DG] 60 (0,0))
 kp:Kp (S++Ai.set x b wv) w w4
 la:Cd wv wv3 w.heap.size
 fr:Ce x b wv3 r
 fw:Ce x b wv3 bw
 frv:∀j,rv.ownBlock=some j->Ce x b wv3 j
section
variable {w w4 w5:World}{x:DX}{b bt bp bw lk:Nat}{wv wv3:Value}{a:Option Addr}{rv:Value}{tk rk:By}{rl S:List Nat}{st:Ax}{P:Nat}{DG:By}{r:Nat}
theorem Pa.disk (h:Pa w w4 x b bt bp bw lk wv wv3 a rv tk rk rl S st P DG r){f:DM}(c:Kp (x.set wv3) w4 w5)(hd:Cr w5 x f wv3):Pa w w5 x b bt bp bw lk wv wv3 a rv tk rk rl S ⟨f,st.v⟩ P DG r:=by have d:∀j,j∉Ai.set x b wv3->j∉x.set wv3:=fun j h1 h2=>h1 (Px h2);have g:=h.kit.sys.ofDisk c hd (Cd.refl _ _);exact⟨h.kit.step g c (Cd.refl _ _) (d _ h.kit.abt.2) (d _ h.kit.abp.2) rfl rfl rfl,h.wk.of_block (c.block bw h.wk.lt (d bw h.fw.1)),Bm h.row c (fun j e=>d j (h.frv j e).1),(c.block r (lt_of_block h.q) (d r h.fr.1)).trans h.q,h.kp.step c (fun j e=>(h.la.sub (b:=b) (Px e)).imp (Bg _) id),h.la,h.fr,h.fw,h.frv⟩
theorem Pa.vault (h:Pa w w4 x b bt bp bw lk wv wv3 a rv tk rk rl S st P DG r):Pa w ((w4.setCell ⟨b,8,none⟩ (.int .i64 P)).setCell ⟨b,9,none⟩ (Ac DG)) x b bt bp bw lk wv wv3 a rv tk rk rl S ⟨st.m,{st.v with place:=P,digest:=DG}⟩ P DG r:=by
 have kv:Kp [b] w4 ((w4.setCell ⟨b,8,none⟩ (.int .i64 P)).setCell ⟨b,9,none⟩ (Ac DG)):=((Kp.refl [b] w4).setCell b 8 _ (.inl (by simp))).setCell b 9 _ (.inl (by simp));have e:=h.kit.sys.ofVault kv ((h.kit.sys.vault.set8 P).set9 DG);have f:b∈Ai.set x b wv3:=by simp[Ai.set]
 have c:∀j,j∉Ai.set x b wv3->j∉[b]:=fun j h1 h2=>by simp at h2;subst h2;exact h1 f
 exact⟨h.kit.step e kv (Cd.refl _ _) (c _ h.kit.abt.2) (c _ h.kit.abp.2) rfl rfl rfl,h.wk.of_block (kv.block bw h.wk.lt (c bw h.fw.1)),Bm h.row kv (fun j d=>c j (h.frv j d).1),(kv.block r (lt_of_block h.q) (c r h.fr.1)).trans h.q,h.kp.trans (kv.mono (fun j d=>by simp at d;simp[Ai.set,d])),h.la,h.fr,h.fw,h.frv⟩
theorem Pa.adv {g:Value}{i:DM}{d:VM}(h:Pa w w4 x b bt bp bw lk wv wv3 a rv tk rk rl S st P DG r)(k:Ai w5 x b i d g)(e:Kp (Ai.set x b wv3) w4 w5)(f:Cd wv3 g w4.heap.size)(e1:d.tv=st.v.tv)(e2:d.pv=st.v.pv)(e3:d.salt=st.v.salt):Pa w w5 x b bt bp bw lk wv g a rv tk rk rl S ⟨i,d⟩ P DG r:=
 ⟨h.kit.step k e f h.kit.abt.2 h.kit.abp.2 e1 e2 e3,h.wk.of_block (e.block bw h.wk.lt h.fw.1),Bm h.row e (fun j c=>(h.frv j c).1),(e.block r (lt_of_block h.q) h.fr.1).trans h.q,h.kp.step e (fun _ c=>(h.la.sub c).imp (Bg _) id),h.la.trans f h.kp.size,h.fr.later f (lt_of_block h.q),h.fw.later f h.wk.lt,fun j c=>(h.frv j c).later f (Hl h.row j c)⟩
theorem Ve.start {m:DM}{v:VM}{T:Ay}{U:Nat}(h:Ve w x b bt bp bw lk m v wv a rv tk rk T S U rl)(hb:Bw w w4)(hz:w.heap.size<=r)(c:w4.heap[r]?=some (.cells #[.int .i64 (0:Nat),Ac []] 60 (0,0))):Pa w w4 x b bt bp bw lk wv wv a rv tk rk rl S ⟨m,v⟩ 0 [] r:=
 ⟨h.kit.below hb,h.wk.of_block (hb.block bw h.wk.lt),Bm (S:=[]) h.row (Kp.of_below hb) (by simp),c,Kp.of_below hb,Cd.refl _ _,Ce.new h.kit.sys hz,h.fw,fun j d=>(h.fr j d).1⟩
theorem Ve.page {m:DM}{v:VM}{T:Ay}{U:Nat}{w2 i:World}{h n:Nat}{d:Nd h}(H:Ve w x b bt bp bw lk m v wv a rv tk rk T S U rl)(hb:Bw w w2)(hz:w.heap.size<=r)(k:w2.heap[r]?=some (.cells #[.int .i64 (0:Nat),Ac []] 60 (0,0)))
  (e:Xk w2 i x b h n d S st wv wv3) (l:st.v.tv=v.tv/\st.v.pv=v.pv/\st.v.salt=v.salt):Pa w ((i.setCell ⟨r,0,none⟩ (.int .i64 d.place)).setCell ⟨r,1,none⟩ (Ac d.dig)) x b bt bp bw lk wv wv3 a rv tk rk rl S st d.place d.dig r:=by
 have f:=H.start hb hz k;have A:=H.tr.bound;have o:∀j,Ce x b wv j->j∉S->j∉S++Ai.set x b wv:=fun j h1 h2=>by simp only[As,not_or];exact⟨h2,h1.1⟩
 have p:Cd wv wv3 w.heap.size:=fun j c=>(e.la j c).imp id (fun g=>Hb hb.size g);have E:r∉S:=fun g=>by have:=A r g;omega
 have t:Hm i x b st.m st.v wv3 bt bp tk rk:=f.kit.step e.sys e.kp e.la (by simp only[As,not_or];exact⟨fun g=>(H.fS _ g).2.2.1 rfl,f.kit.abt.2⟩) (by simp only[As,not_or];exact⟨fun g=>(H.fS _ g).2.1 rfl,f.kit.abp.2⟩) l.1 l.2.1 l.2.2;have u:bw∉S:=fun g=>(H.fS _ g).2.2.2 rfl;have s:=f.wk.of_block (e.kp.block bw f.wk.lt (o bw H.fw u));have y:=Bm f.row e.kp (fun j c=>o j (H.fr j c).1 (H.fr j c).2);have C:=(e.kp.block r (lt_of_block k) (o r f.fr E)).trans k;have q:Ce x b wv3 r:=f.fr.later e.la (lt_of_block k);have kr:Kp [r] i ((i.setCell ⟨r,0,none⟩ (.int .i64 d.place)).setCell ⟨r,1,none⟩ (Ac d.dig)):=((Kp.refl [r] i).setCell r 0 _ (.inl (by simp))).setCell r 1 _ (.inl (by simp))
 have D:((i.setCell ⟨r,0,none⟩ (.int .i64 d.place)).setCell ⟨r,1,none⟩ (Ac d.dig)).heap[r]?=some (.cells #[.int .i64 d.place,Ac d.dig] 60 (0,0)):=by rw[Cx (Cx C 0 _) 1 _];simp
 have F:=H.wk.lt;have I:=H.kit.mac.lt;have G:=H.kit.key.lt;have z:=t.sys.kp kr (fun j c=>by simp at c;subst c;exact q);exact⟨t.step z kr (Cd.refl _ _) (by simp;omega) (by simp;omega) rfl rfl rfl,s.of_block (kr.block bw s.lt (by simp;omega)),Bm y kr (fun j c=>by have:=Hl H.row j c;simp;omega),D,((Kp.of_below hb).trans e.kp).step kr (fun j c=>by simp at c;subst c;exact .inr hz),p,q,H.fw.later p H.wk.lt,fun j c=>(H.fr j c).1.later p (Hl H.row j c)⟩
end
theorem Aep {m:DM}{v:VM}{c:Nat}(h:Ku m v c=0):v.version<m.ceiling/\v.done+c<=40/\c<=(Et v.used m.blocks.length).length:=by
 unfold Ku at h;split at h
 ·cases h
 ·split at h
  ·cases h
  ·split at h
   ·cases h
   ·omega
theorem Ve.wn {w w2:World}{x:DX}{b bt bp bw lk:Nat}{m:DM}{v:VM}{wv:Value}{a:Option Addr}{rv:Value}{tk rk:By}{h:Nat}{t:Nd h}{S:List Nat}{U:Nat}{rl:List Nat}{n:Nat}(H:Ve w x b bt bp bw lk m v wv a rv tk rk (some ⟨h,t⟩) S U rl)(g:Au w m rk h n t S U)(hb:Bw w w2):Yt w2 x b bp rk h n t S U ⟨m,v⟩ wv:=by have d:=H.kit.below hb;have c:Kn h t:=H.root;obtain⟨r1,r2,r3⟩:=Aep H.room;have e:Gn (some ⟨h,t⟩)=De h t:=rfl;rw[e]at r2 r3;have i:De h t<=999:=H.nn;have k:=H.wr;exact⟨d.sys,d.pv,d.key,d.abp.2,Au.kp (Kp.of_below hb:Kp [] w w2) _ _ _ _ _ g (fun _ _=>by simp),fun j f=>⟨(H.fS j f).1,(H.fS j f).2.1⟩,⟨H.old,H.us,c.wf,c.ne,c.le,c.two,c.asc⟩,H.inv,H.new,H.se,by show v.done+_<=_;omega,by show m.wrote.length+_<=_;omega,r3⟩
theorem A2z (x:DX)(b bt bp bw lk:Nat)(m:DM)(v:VM)(wv:Value)(a:Option Addr)(rv:Value)(tk rk:By)(T:Ay)(S:List Nat)(U:Nat)(rl:List Nat)(w:World)(H:Ve w x b bt bp bw lk m v wv a rv tk rk T S U rl)(P:Nat)(c:By)(st:Ax)(f:Un rk T ⟨m,v⟩=some ((P,c),st))(vx:Vx ⟨m,v⟩ st (Gn T))(y:P<1000):
  Cl 67 #[.pointer (some ⟨b,0,none⟩),.pointer (some ⟨bw,0,none⟩)] w fun e w'=>e=.returned (.int .i64 0)/\∃bu,Ai w' x b (Kc tk P c st) (Ut P c st rl) bu/\Kp (S++Ai.set x b wv) w w'/\Cd wv bu w.heap.size:=by
 have c2:=H.wk.c2;have bj:=H.wk.lt;have be:=Aa (Amh H.tr H.root (by have:=H.nn;omega));have an:=Anz x b m v wv (Gn T) w H.kit.sys (by have:=H.nn;omega) (by have:=H.dn;omega);rw[H.room]at an;have bd:=Aa an;obtain⟨u1,b1⟩:=vx.v;have k:st.v.tv=v.tv/\st.v.pv=v.pv/\st.v.salt=v.salt/\st.v.version=v.version:=by rw[b1];exact⟨rfl,rfl,rfl,rfl⟩
 have Y:=Aa (Ab H (Ab f (Ab vx (Ab y k))));have c6:=H.nn;clear H f vx y an b1 u1 k;generalize da:Gn T=NT at*;go_enter Tryz.func67,Tryz.ntmps67;go_wp2_with fail;refine be.o.mono ?_;rintro e w0 ⟨rfl,bs⟩;rw[bs];clear bs w0 be;go_wp2_with fail;refine bd.o.mono ?_;rintro e w1 ⟨rfl,J⟩;obtain⟨H,f,vx,y,k⟩:=Y.o;obtain⟨w2,I⟩:=nmd (w1.alloc (.cells #[.int .i64 0,.string ⟨#[]⟩] 60));have F:Bw w w2:=J.trans ((I▸(Ah _ _).alloc (Ak _) _:Bw w1 w2).mono J.size);have G:w2.heap[w1.heap.size]?=some (.cells #[.int .i64 (0:Nat),Ac []] 60 (0,0)):=I▸heap_alloc_new w1 _;have ae:=J.size;obtain⟨d,a0⟩:=nmd (w1.heap.size);rw[a0]at G ae;have wk1:=H.wk.of_block (J.block bw bj);have aa:=H.wk.of_block (F.block bw bj);have ar:=wk1.c2;have a3:(w1.alloc (.cells #[.int .i64 0,.string ⟨#[]⟩] 60)).cell? ⟨bw,2,none⟩=some (.pointer a):=by rw[I];exact aa.c2
 have b0:(w1.alloc (.cells #[.int .i64 0,.string ⟨#[]⟩] 60)).cell? ⟨b,0,none⟩=some (.pointer (some ⟨x.d,0,none⟩)):=by rw[I];exact(H.kit.below F).sys.vault.c0
 have c5:=Aa a0;have M:=Aa I
 have cv:(a=none/\∃o,Pa w w2 x b bt bp bw lk wv o a rv tk rk rl S st P c d)\/(∃n,a=some ⟨n,0,none⟩/\Cl 94 #[.pointer (some ⟨b,0,none⟩),.pointer (some ⟨n,0,none⟩)] w2 fun e l=>e=.returned (.int .i64 0)/\l.cell? ⟨bw,2,none⟩=some (.pointer (some ⟨n,0,none⟩))/\l.cell? ⟨n,1,none⟩=some (.int .i64 P)/\l.cell? ⟨n,2,none⟩=some (Ac c)/\l.cell? ⟨d,0,none⟩=some (.int .i64 0)/\l.cell? ⟨d,1,none⟩=some (.string ⟨#[]⟩)/\l.frozen? ⟨d,0,none⟩=false/\l.frozen? ⟨d,1,none⟩=false/\∃o,Pa w ((l.setCell ⟨d,0,none⟩ (.int .i64 P)).setCell ⟨d,1,none⟩ (Ac c)) x b bt bp bw lk wv o a rv tk rk rl S st P c d):=by
  cases T with
  |none=>have ha:=H.tr.1;cases ha;cases f;exact .inl ⟨rfl,wv,H.start F ae G⟩
  |some q=>
   obtain⟨h,t⟩:=q;obtain⟨n,ha,cj⟩:=H.tr;cases ha;refine .inr ⟨n,rfl,?_⟩;unfold Un at f;simp only[Ig]at f;obtain⟨⟨ce,cz⟩,ai,cw⟩:=f;cases cw;refine(Apb x b bp rk h n t S U ⟨m,v⟩ wv w2 (H.wn cj F) ce _ ai).mono ?_;rintro e l ⟨rfl,o,W⟩;have co:=H.tr.bound;have ch:d∉S:=fun g=>by have:=co d g;omega
   have b9:Ce x b wv d:=Ce.new H.kit.sys ae;have R:=(W.kp.block d (lt_of_block G) (by simp only[As,not_or];exact⟨ch,b9.1⟩)).trans G;have cc:=aa.of_block (W.kp.block bw aa.lt (by simp only[As,not_or];exact⟨fun g=>(H.fS _ g).2.2.2 rfl,H.fw.1⟩));obtain⟨cy,ev,bi⟩:=W.nd;exact⟨rfl,cc.c2,bi.node.c1,bi.node.c2,crw R rfl,crw R rfl,by simp[World.frozen?,R],by simp[World.frozen?,R],o,H.page F ae G W ⟨k.1,k.2.1,k.2.2.1⟩⟩
 clear H f vx k I F G wk1 aa bd J;rcases cv with⟨rfl,cr⟩|⟨n,rfl,a5⟩
 case' inl=>obtain⟨o,C⟩:=cr;have D:=Aa C;clear C;go_wp2_with fail;rw[M.o];obtain⟨aj,E⟩:=nmd (w2);rw[E];rw[E]at D;clear E M a3 b0 ar
 case' inr=>have az:=Aa a5;clear a5;go_wp2_with fail;rw[M.o];refine az.o.mono ?_;rintro e l ⟨rfl,b6,n1,n2,ag,am,cx,cs,o,C⟩;have au:=C.kit.sys.vault.c0;obtain⟨aj,E⟩:=nmd ((l.setCell ⟨d,0,none⟩ (.int .i64 P)).setCell ⟨d,1,none⟩ (Ac c));rw[E]at C au;have D:=Aa C;clear C az M a3 b0 ar c2;go_wp2_with fail;clear E b6 n1 n2 ag am cx cs au
 all_goals
  have b4:=D.o.kit.sys.vault.c0;have a4:=Aa (Ajh x _ o aj D.o.kit.sys.disk);refine a4.o.mono ?_;rintro e ac ⟨rfl,bx,bf⟩;obtain⟨H,f,vx,y,k⟩:=Y.o;have bo:Kp (x.set o) aj ac:=bx.mono (fun j N=>by simp at N;simp[DX.set];rcases N with e|e<;>simp[e]);have p:=D.o.disk bo bf;have ag:ac.cell? ⟨d,0,none⟩=some (.int .i64 P):=by rw[cell_of_row _ _ _ _ _ _ p.q];rfl
  have am:ac.cell? ⟨d,1,none⟩=some (Ac c):=by rw[cell_of_row _ _ _ _ _ _ p.q];rfl
  have cq:=p.kit.sys.vault.c8;have c9:=p.kit.sys.vault.c9;have b8:=p.kit.sys.vault.fr 8;have cf:=p.kit.sys.vault.fr 9;have r:=p.vault;obtain⟨br,b3⟩:=nmd ((ac.setCell ⟨b,8,none⟩ (.int .i64 P)).setCell ⟨b,9,none⟩ (Ac c));rw[b3]at r;have b2:=r.kit.sys.vault.c5;have Z:st.v.version=v.version:=k.2.2.2;have b7:=Aep H.room;have ai:=H.wr;have ci:=H.ve;have av:=H.ct;have ct:=H.nn;have bz:=vx.w;have a6:=Aa (Ah4 x b bt tk _ _ o (v.version+1) br r.kit.sys (by show st.m.count<st.m.ceiling;rw[vx.c.1,vx.c.2.1];exact av) r.kit.tv r.kit.mac r.kit.sl (by omega) (by show P<_;omega) (by show st.m.wrote.length<_;rw[bz];show m.wrote.length+_<_;omega));have cu:br.cell? ⟨b,5,none⟩=some (.int .i64 (v.version:Int)):=by rw[<-Z];exact b2
  have bk:=Aa r;have a8:=Aa (show((v.version:Int)<1048576)from by omega);clear H f vx y k bx bo bf p r a4 D b2 b7 ai ci av ct bz b4;have cd:=a8.o;go_wp2_with fail;have ev:(v.version:Int)+1=((v.version+1:Nat):Int):=by omega
  rw[ev];refine a6.o.mono ?_;rintro e w7 ⟨rfl,K,ao,a2,bh⟩;obtain⟨H,f,vx,y,k⟩:=Y.o;have s:=bk.o.adv ao a2 bh rfl rfl rfl
  obtain⟨al,O,bb⟩:∃al O,rv=.slice al rl.length O:=by
   rcases s.row.2 with⟨L,bc⟩|⟨g,O,cur,L,_⟩
   ·exact⟨none,0,by rw[L,bc]⟩
   ·exact⟨_,O,L⟩
  have ah:Kc tk P c st=st.m.flush.advance (v.version+1) (Ci tk st.v.salt (v.version+1) P c):=by unfold Kc;rw[Z]
  have a9:Ut P c st rl={st.v with place:=P,digest:=c,version:=v.version+1,used:=Mz rl st.v.used}:=by unfold Ut;rw[Z]
  obtain⟨V,af⟩:=nmd (st.m.flush.advance (v.version+1) (Ci tk st.v.salt (v.version+1) P c));have ax:Ai w7 x b V {st.v with place:=P,digest:=c,version:=v.version+1,used:=Mz [] st.v.used} K:=af▸ao;rw[af]at ah;have a7:=Aa (Ab ah a9);obtain⟨u,X⟩:=nmd (rl.length);have ak:=Aa X;have bn:=s.row;have bv:w7.ownsRow 0 3 1 rv u (Aj .i64 rl):=by rw[<-X];exact bn
  rw[X]at bb;have ca:=H.rll;have c1:(u:Int)<=100000:=by omega
  have A:=Aa (Ab ax (Ab s.wk (Ab bv (Ab s.kp s.la))));have bq:=Aa (Ab s.fw s.frv);have b5:=Aa H.rlt;subst bb;clear ao ax a2 bh s bk a6 ag am cq c9 b8 cf af ah a9 b3 ev X cd a8 H f vx y k bn bv ca Y cu Z;go_wp2_with fail
  go_loopw [9] (fun i wr=>∃j:Nat,j<=u/\i=.int .i64 (j:Int)/\Ai wr x b V {st.v with place:=P,digest:=c,version:=v.version+1,used:=Mz (rl.take j) st.v.used} K/\Kp [b] w7 wr) (fun i _=>u-(intOf i).toNat)
  case atStart=>exact⟨0,by omega,rfl,by simpa using A.o.1,Kp.refl _ _⟩
  case round=>
   obtain⟨j,N,rfl,ad,kr⟩:=hrel;have cp:b≠bw:=fun e=>bq.o.1.1 (by simp[Ai.set,e]);have ap:=A.o.2.1.of_block (kr.block bw A.o.2.1.lt (by simpa using Ne.symm cp));have c3:=ap.c3;by_cases Q:j<u
   ·have c7:(j:Int)<(u:Int):=by omega
    obtain⟨g,cm⟩:∃g,al=some ⟨g,0,none⟩:=by
     rcases A.o.2.2.1.2 with⟨_,bc⟩|⟨g,c8,cur,L,_⟩
     ·omega
     ·cases L;exact⟨g,rfl⟩
    subst cm;have c0:g≠b:=fun e=>(bq.o.2 g rfl).1 (by simp[Ai.set,e]);have ab:j<rl.length:=by rw[ak.o];exact Q
    have aq:=Bm A.o.2.2.1 kr (fun q z=>by
     have e:g=q:=by simpa [Value.ownBlock]using z
     simp;omega)
    rw[<-ak.o]at aq;have cl:=(Br.of_own aq).at_ j ab;have z:rl.getD j 0=rl[j]:=by simp[ab]
    rw[z]at cl;have ay:=Aa (Af3 x b V _ K rl[j] false wr ad (b5.o _ (List.getElem_mem ab)));have bg:Mz (rl.take (j+1)) st.v.used=(Mz (rl.take j) st.v.used).set rl[j] false:=by rw[Lr ab,Ay3]
    have cb:=Aa bg;have cg:=Aa kr;have aw:=Aa Q;generalize c4:rl[j]=q at*;clear ad kr ap aq z bg Q N;go_wp2_with fail;refine ay.o.mono ?_;rintro e ck ⟨rfl,a1,k8⟩;have bm:Ai ck x b V {st.v with place:=P,digest:=c,version:=v.version+1,used:=Mz (rl.take (j+1)) st.v.used} K:=by rw[cb.o];exact a1
    have ba:=Aa (Ab bm (cg.o.trans k8));clear a1 bm k8 ay;go_wp2_with fail
    go_roundw
    case rel=>exact⟨j+1,by have:=aw.o;omega,by go_num,ba.o.1,ba.o.2⟩
    case measure=>have:=aw.o;simp[intOf];omega
   ·have cn:j=u:=by omega
    subst cn;have bl:=Aa (Ab ad kr);clear ad kr ap Q;go_wp2_with fail;go_ret;refine⟨rfl,K,?_,A.o.2.2.2.1.trans (bl.o.2.mono (fun q z=>by simp at z;simp[Ai.set,z])),A.o.2.2.2.2⟩;have e:=bl.o.1;rw[Du (by rw[ak.o];exact Ak _)]at e;rw[a7.o.1,a7.o.2];exact e
theorem Anb {w:World}{x:DX}{b bp f:Nat}{m:DM}{v:VM}{wv:Value}{rk:By}{lk:Nat}(a:Id w x b bp f m v wv rk lk){h n p:Nat}{d:By}{ev:Value}{g:List EG}{i:Nat}{e:By×Nd h}
  (H:Av w n false p d g ev) (C:g[i]?=some ⟨e.1,[],e.2.place,e.2.dig,none⟩) (A:Cm m rk h e.2) (hy:Gl e) (G:g.length<=100) (l:lk<48) (J:f∉Ad n ev):
  Cl 87 #[.pointer (some ⟨f,0,none⟩),.pointer (some ⟨n,0,none⟩),.int .i64 (i:Int)] w fun r w'=>∃c ev',r=.returned (.tuple #[.pointer (some ⟨c,0,none⟩),.int .i64 0])/\Gd w w' f (lk+1)/\
   Gx w' c (h==0) e.2.place e.2.dig (Cg h e.2) ev'/\Av w' n false p d (g.set i ⟨e.1,[],e.2.place,e.2.dig,some c⟩) ev/\Kp (f::ev.ownBlock.toList) w w'/\w.heap.size<=c/\(∀j,ev'.ownBlock=some j->w.heap.size<=j):=by
 have k:=Oi A
 have D:Fd rk m lk e.2.place e.2.dig=some (h==0,Cg h e.2):=by unfold Fd;rw[if_pos ⟨k.1,k.2.1,l⟩];exact k.2.2
 have o:Ie rk m lk ⟨e.1,[],e.2.place,e.2.dig,none⟩=some (h==0,Cg h e.2):=by unfold Ie;show(Fd rk m lk e.2.place e.2.dig).bind _=_;rw[D];show(if Qf e.1 (Cg h e.2)then _ else _)=_;rw[Aee hy];rfl
 have E:Fa m lk e.2.place=lk+1:=by unfold Fa;rw[if_pos ⟨k.1,k.2.1,l⟩]
 refine(Aen x b bp f m v wv rk lk n false p d g ev i _ w a.sys a.pv a.key a.vw a.fv a.bv (by omega) a.bl H C rfl G J).mono ?_;rintro r w' ⟨q,hr⟩;rcases hr with⟨t,_⟩|⟨lf,es',c,ev',s,rfl,z,F,u,I,y⟩
 ·rw[o]at t;cases t
 ·rw[o]at s;cases s;rw[show Fa m lk (⟨e.1,[],e.2.place,e.2.dig,none⟩:EG).place=lk+1 from E]at q;exact⟨c,ev',rfl,q,z,F,u,I,y⟩
theorem Aiw {w:World}{x:DX}{b bp d:Nat}{m:DM}{v:VM}{wv:Value}{rk:By}{lk:Nat}(a:Id w x b bp d m v wv rk lk){h:Nat}{t:Nd h}(s:Hy m rk v (some ⟨h,t⟩))(i:lk<48):
  Cl 62 #[.pointer (some ⟨d,0,none⟩)] w fun e w'=>∃n ev,e=.returned (.tuple #[.pointer (some ⟨n,0,none⟩),.int .i64 0])/\Gd w w' d (lk+1)/\Gx w' n (h==0) t.place t.dig (Cg h t) ev/\Kp [d] w w'/\w.heap.size<=n/\(∀j,ev.ownBlock=some j->w.heap.size<=j):=by
 obtain⟨f,hd,r⟩:=s;have c:=Oi r
 have o:Fd rk m lk v.place v.digest=some (h==0,Cg h t):=by unfold Fd;rw[f,hd,if_pos ⟨c.1,c.2.1,i⟩];exact c.2.2
 have z:Fa m lk v.place=lk+1:=by unfold Fa;rw[f,if_pos ⟨c.1,c.2.1,i⟩]
 refine(Ahi x b bp d m v wv rk lk w a.sys a.pv a.key a.vw a.fv a.bv (by omega) a.bl (by rw[f];have:=c.1;omega)).mono ?_;rintro e w' ⟨u,g,hr⟩;rcases hr with⟨l,_⟩|⟨leaf,es,n,ev,p,rfl,k,y,q⟩
 ·rw[o]at l;cases l
 ·rw[o]at p;cases p;rw[f,hd]at k;rw[z]at g;exact⟨n,ev,rfl,g,k,u,y,q⟩
theorem Abg (h:Nat)(t:Nd h):En ((Cg h t).map Aw.eg)=Be t.es:=by
 cases h<;>simp[En,Cg,Be,Aw.eg,Function.comp_def]
theorem Yx (h:Nat)(t:Nd h):((Cg h t).map Aw.eg).length=t.es.length:=by
 cases h<;>simp[Cg]
structure FnI (w wr:World)(x:DX)(b bp vb:Nat)(m:DM)(v:VM)(wv:Value)(rk k:By)(lk h n:Nat)(t:Nd h)(ev:Value)(lid:Nat)(r:Option By):Prop where
 env:Id wr x b bp vb m v wv rk lk
 nd:Gx wr n (h==0) t.place t.dig (Cg h t) ev
 st:Cm m rk h t
 wf:Wf h t
 asc:Ba (flat h t)
 ne:t.es≠[]
 le:t.es.length<=5
 lke:lk+h<=lid
 fd:Xi k h t=r
 kp:Kp [] w wr
 vn:w.heap.size<=vb
 new:∀j∈Ad n ev,w.heap.size<=j/\j≠vb
 fo:∀j,w.heap.size<=j->Dx x b bp wv j
theorem FnI.step {w wr:World}{x:DX}{b bp d:Nat}{m:DM}{v:VM}{wv:Value}{rk k:By}{lk h n:Nat}{t:Nd (h+1)}{ev:Value}{lid:Nat}{r:Option By}(H:FnI w wr x b bp d m v wv rk k lk (h+1) n t ev lid r)(G:lid<=46):
  Cl 87 #[.pointer (some ⟨d,0,none⟩),.pointer (some ⟨n,0,none⟩),.int .i64 (Dk k (Be t.es):Nat)] wr fun o w'=>∃c,o=.returned (.tuple #[.pointer (some ⟨c,0,none⟩),.int .i64 0])/\∃(C:Nd h) (ev':Value),FnI w w' x b bp d m v wv rk k (lk+1) h c C ev' lid r:=by
 obtain⟨A,e,B,i,D,E,F⟩:=Tc k h t H.wf H.ne H.asc;have f:e∈t.es:=by rw[i];simp
 have hk:Gl e:=(Gg.1 H.wf) e f;have p:t.es[Dk k (Be t.es)]?=some e:=by rw[<-D,i];simp
 have y:((Cg (h+1) t).map Aw.eg)[Dk k (Be t.es)]?=some ⟨e.1,[],e.2.place,e.2.dig,none⟩:=by simp only[Cg,Pq,Fq,p];rfl
 have L:=H.lke;refine(Anb H.env H.nd.nd y (H.st.2 e f) hk (by rw[Yx];have:=H.le;omega) (by omega) (fun g=>(H.new d g).2 rfl)).mono ?_;rintro o w' ⟨c,ev',rfl,z,s,I,l,K,q⟩;have hz:=H.kp.size;have J:=H.env.vw.lt;refine⟨c,rfl,e.2,ev',⟨H.env.kp l (fun j a=>?_) (H.env.vw.up z),s,H.st.2 e f,hk.1.1,?_,hk.1.ne,hk.1.2.2,by omega,?_,?_,H.vn,fun j a=>?_,H.fo⟩⟩
 ·rcases Al.1 a with rfl|g
  ·exact H.env.o
  ·exact H.fo j (H.new j (by simp only[Ad,Al];exact .inr g)).1
 ·have u:flat (h+1) t=A.flatMap (fun e=>flat h e.2)++(flat h e.2++B.flatMap (fun e=>flat h e.2)):=by
   show t.es.flatMap _=_;rw[i,Gh,Da]
  have ha:=H.asc;rw[u]at ha;exact(Dc.1 (Dc.1 ha).2.1).1
 ·have:=H.fd;unfold Xi at this;rw[p]at this;exact this
 ·exact H.kp.step l (fun j a=>by
   rcases Al.1 a with rfl|g
   ·exact .inr H.vn
   ·exact .inr (H.new j (by simp only[Ad,Al];exact .inr g)).1)
 ·simp only[Ad,Al,Bf]at a;rcases a with rfl|e
  ·exact⟨by omega,by omega⟩
  ·have:=q j e;exact⟨by omega,by omega⟩
def Aey (w:World)(a:Nat):Nat:=match w.cell? ⟨a,1,none⟩with
 |some (.int .i64 k)=>k.toNat
 |_=>0
theorem Al6 {w:World}{a b lk:Nat}(h:Ma w a b lk):Aey w a=lk:=by unfold Aey;rw[h.c1];simp
def Kg:Option By->Value
 |none=>.tuple #[Ac [],.int .i64 6]
 |some s=>.tuple #[Ac s,.int .i64 0]
theorem A0v (x:DX)(b bt bp:Nat)(m:DM)(v:VM)(wv:Value)(tk rk k:By)(T:Ay)(w:World)(h:Hm w x b m v wv bt bp tk rk)(o:Hy m rk v T)(U:Ep T)(S:∀p,p<m.blocks.length->(m.look p).length=256)(A:Gt T<=46):
  Cl 60 #[.pointer (some ⟨b,0,none⟩),.string ⟨k.toArray⟩] w fun e w'=>e=.returned (Kg (Gm k (Df T)))/\Below w.heap.size w w':=by
 obtain⟨w0,C⟩:=nmd (w.alloc (.cells #[.pointer (some ⟨b,0,none⟩),.int .i64 0] 104));have V:Below w.heap.size w w0:=C▸(Ah _ _).alloc (Ak _) _;have az:w0.heap.size=w.heap.size+1:=by rw[<-C];simp
 have D:w0.heap[w.heap.size]?=some (.cells #[.pointer (some ⟨b,0,none⟩),.int .i64 0] 104 (0,0)):=C▸heap_alloc_new w _;have H:=h.below V;obtain⟨s,K⟩:=nmd (w.heap.size);rw[K]at D;have J:∀j,w.heap.size<=j->Dx x b bp wv j:=fun j g=>⟨Ce.new h.sys g,fun e=>by have:=h.key.lt;omega⟩;have ag:Id w0 x b bp s m v wv rk 0:=⟨H.sys,H.pv,H.key,⟨crw D rfl,crw D rfl,by simp[World.frozen?,D]⟩,(J s (by omega)).1,Ne.symm (J s (by omega)).2,S⟩;have W:=Aa J;have N:=Aa V;have M:=Aa C;have ap:=Aa K;have l:=Aa ag;clear H D ag S J V C h
 cases T with
 |none=>
  have E:=Aa (Ade x b s m v wv w0 l.o.sys o l.o.vw.c0);clear o U A W l;go_enter Tryz.func60,Tryz.ntmps60;go_wp2_with fail;rw[M.o];refine E.o.mono ?_;rintro e w1 ⟨rfl,ae⟩;rw[ae];clear ae w1 E;go_wp2_with fail
  go_loopw [7,8,9] (fun nn e _ wr=>nn=.pointer none/\e=.int .i64 0/\wr=w0) (fun _ _ _ _=>0)
  case atStart=>exact⟨rfl,rfl,rfl⟩
  case round=>obtain⟨rfl,rfl,ak⟩:=hrel;rw[ak];clear ak;go_wp2_with fail;go_ret2;exact⟨rfl,ap.o▸N.o⟩
 |some ar=>
  obtain⟨h,t⟩:=ar;have f:Kn h t:=U;have d:=Aq4 k h t f.wf f.asc f.ne;have I:=Adr h t f.wf f.ne;have al:Gt (some ⟨h,t⟩)=nn h t:=rfl;have E:=Aa (Aiw l.o o (by decide));have ai:=Aa (Ab o (Ab f (Ab d (Ab I (al▸A)))));clear o U A f d I al;go_enter Tryz.func60,Tryz.ntmps60;go_wp2_with fail;rw[M.o];refine E.o.mono ?_;rintro e w1 ⟨n,ev,rfl,aa,aj,L,a3,ah⟩;obtain⟨o,f,d,I,A⟩:=ai.o;have au:=l.o.vw.lt;have K:=ap.o
  have am:FnI w w1 x b bp s m v wv rk k 1 h n t ev 46 (Gm k (flat h t)):=⟨l.o.kp L (fun j g=>by simp at g;subst g;exact W.o _ (by omega)) (l.o.vw.up aa),aj,o.2.2,f.wf,f.asc,f.ne,f.le,by omega,d,(Kp.of_below N.o:Kp [] w w0).step L (fun j g=>by simp at g;subst g;exact .inr (by omega)),by omega,fun j g=>by
   simp only[Ad,Al,Bf]at g;rcases g with rfl|e
   ·exact⟨by omega,by omega⟩
   ·have:=ah j e;exact⟨by omega,by omega⟩,W.o⟩
  have X:=Aa am;clear o f d I A am au K aa aj L a3 ah E ai l M az;go_wp2_with fail
  go_loopw [7,8,9] (fun nn e _ wr=>e=.int .i64 0/\∃lk h n,∃(a1:Nd h) (ev':Value),nn=.pointer (some ⟨n,0,none⟩)/\FnI w wr x b bp s m v wv rk k lk h n a1 ev' 46 (Gm k (flat _ t))) (fun _ _ _ wr=>50-Aey wr s)
  case atStart=>exact⟨rfl,_,_,_,_,_,rfl,X.o⟩
  case round=>
   obtain⟨rfl,lk,h1,n1,c,ad,rfl,a⟩:=hrel;clear X N;have c0:=a.nd.node.c0;have G:=a.lke;have z:=Al6 a.env.vw
   have h0:((Cg h1 c).map Aw.eg)≠[]:=fun e=>by have:=congrArg List.length e;rw[Yx]at this;exact a.ne (Ls.1 this)
   cases h1 with
   |succ h1=>have R:=Ahv n1 false c.place c.dig _ ad k wr a.nd.nd h0 (by rw[Yx];have:=a.le;omega);rw[Abg]at R;have Z:=Aa R;have ab:=Aa (a.step (by decide));have aw:=Aa (Ab z G);have ac:wr.cell? ⟨n1,0,none⟩=some (.bool false):=c0;clear c0 a G z h0 R;go_wp2_with fail;refine Z.o.mono ?_;rintro e w2 ⟨rfl,aq⟩;rw[aq];clear aq w2 Z ac;go_wp2_with fail;refine ab.o.mono ?_;rintro e w2 ⟨n2,rfl,a4,a5,P⟩;have ao:=Al6 P.env.vw;have a2:=Aa P;have av:=Aa ao;clear P ao ab;go_wp2_with fail;exact⟨⟨rfl,_,_,_,_,_,rfl,a2.o⟩,by have:=aw.o;have:=av.o;omega⟩
   |zero=>
    have q:=Aa (Ahc n1 true c.place c.dig _ ad k wr a.nd.nd h0 (by rw[Yx];have:=a.le;omega));have ac:wr.cell? ⟨n1,0,none⟩=some (.bool true):=c0;have hb:Below w.heap.size w wr:=⟨a.kp.os,a.kp.tape,a.kp.output,a.kp.size,fun j g=>a.kp.block j g (by simp)⟩;have d:=a.fd;unfold Xi at d;rw[Abg]at q;have X:=Aa a;have O:=Aa hb
    cases r:c.es[Bx k (Be c.es)]? with
    |none=>
     rw[r]at d;simp only at d
     have i:La k ((Cg 0 c).map Aw.eg)=false:=by unfold La;rw[Abg];simp only[Cg,Pq,Fq,r];rfl
     rw[i]at q;have F:=Aa d;clear c0 a hb d i z G h0 r;generalize Bx k (Be c.es)=Q at*;go_wp2_with fail;refine q.o.mono ?_;rintro e w2 ⟨rfl,af,rfl⟩;go_wp2_with fail;go_ret2;refine⟨?_,Bp O.o _⟩;show _=Ending.returned (Kg (Gm k (flat _ t)));rw[<-F.o];rfl
    |some e=>
     rw[r]at d;simp only at d
     have u:((Cg 0 c).map Aw.eg)[Bx k (Be c.es)]?=some ⟨e.1,e.2,0,[],none⟩:=by simp only[Cg,Pq,Fq,r];rfl
     by_cases y:e.1=k
     ·rw[if_pos y]at d
      have i:La k ((Cg 0 c).map Aw.eg)=true:=by unfold La;rw[Abg,u];simpa using y
      rw[i]at q;have F:=Aa d;obtain⟨ay,cap,an,S,a6,ax,a8,Y,a0⟩:=a.nd.nd.row h0;have c3:=a.nd.node.c3;rw[an]at c3;have e1:wr.cell? ⟨ay,Bx k (Be c.es)*5+1,none⟩=some (Ac e.2):=Y _ _ u 1 (by decide);have a7:Bx k (Be c.es)<((Cg 0 c).map Aw.eg).length:=(Ds.1 u).1;have a9:((Cg 0 c).map Aw.eg).length<=5:=by rw[Yx];exact a.le
      clear c0 a hb d i z G h0 r u Y a0 an y ax;generalize Bx k (Be c.es)=Q at*;generalize((Cg 0 c).map Aw.eg).length=QL at*;go_wp2_with fail;refine q.o.mono ?_;rintro e w2 ⟨rfl,af,rfl⟩;go_wp2_with fail;go_ret2;refine⟨?_,Bp O.o _⟩;show _=Ending.returned (Kg (Gm k (flat _ t)));rw[<-F.o];rfl
     ·rw[if_neg y]at d
      have i:La k ((Cg 0 c).map Aw.eg)=false:=by unfold La;rw[Abg,u];simpa using y
      rw[i]at q;have F:=Aa d;clear c0 a hb d i z G h0 r u y;generalize Bx k (Be c.es)=Q at*;go_wp2_with fail;refine q.o.mono ?_;rintro e w2 ⟨rfl,af,rfl⟩;go_wp2_with fail;go_ret2;refine⟨?_,Bp O.o _⟩;show _=Ending.returned (Kg (Gm k (flat _ t)));rw[<-F.o];rfl
theorem Aic {rk:By}{h:Nat}(d:Ax->Ax->Prop)(hr:∀st,d st st)(g:∀a b c,d a b->d b c->d a c)(ih:∀(t:Nd h) (st:Ax) (q:Nd h) (f:Ax),Ex rk h t st=some (q,f)->d st f):
  ∀(es:List (By×Nd h)) (st:Ax) (es':List (By×Nd h)) (f:Ax),Ez (Ex rk h) es st=some (es',f)->d st f
 | [],st,es',f,hw=>by cases hw;exact hr st
 |e::es,st,es',f,hw=>by
  unfold Ez at hw;by_cases m:e.2.place=0
  ·rw[if_pos m]at hw
   cases i:Ex rk h e.2 st with
   |none=>rw[i]at hw;cases hw
   |some r=>obtain⟨o,n⟩:=r;rw[i]at hw;simp only[Ip,Ig]at hw;obtain⟨⟨j,p⟩,k,l⟩:=hw;cases l;exact g _ _ _ (ih e.2 st o n i) (Aic d hr g ih es n j _ k)
  ·rw[if_neg m]at hw;simp only[Ig]at hw;obtain⟨⟨j,p⟩,k,l⟩:=hw;cases l;exact Aic d hr g ih es st j _ k
theorem Ahm {rk:By}(e:Ax->Ax->Prop)(hr:∀st,e st st)(i:∀a b c,e a b->e b c->e a c)(l:∀leaf ems st r,Nq rk leaf ems st=some r->e st r.2):∀(h:Nat) (t:Nd h) (st:Ax) (g:Nd h) (f:Ax),Ex rk h t st=some (g,f)->e st f
 |0,t,st,g,f,hw=>by unfold Ex at hw;simp only[Ig]at hw;obtain⟨⟨⟨p,d⟩,n⟩,j,k⟩:=hw;cases k;exact l _ _ _ _ j
 |h+1,t,st,g,f,hw=>by
  unfold Ex at hw
  cases m:Ez (Ex rk h) t.es st with
  |none=>rw[m]at hw;cases hw
  |some r=>obtain⟨o,n⟩:=r;rw[m]at hw;simp only[Ip,Ig]at hw;obtain⟨⟨⟨p,d⟩,q⟩,j,k⟩:=hw;cases k;exact i _ _ _ (Aic e hr i (fun t st g f=>Ahm e hr i l h t st g f) t.es st o n m) (l _ _ _ _ j)
structure Ny (st st':Ax):Prop where
 wr:∃W,st'.m.wrote=st.m.wrote++W/\∀e∈W,2<=e.1/\e.2.length=256
 lk:∀a,(a<2->st'.m.look a=st.m.look a)/\((st.m.look a).length=256->(st'.m.look a).length=256)
theorem Ny.refl (st:Ax):Ny st st:=⟨⟨[],by simp,by simp⟩,fun _=>⟨fun _=>rfl,id⟩⟩
theorem Ny.trans (a b c:Ax)(h:Ny a b)(k:Ny b c):Ny a c:=by obtain⟨W,h1,h2⟩:=h.wr;obtain⟨g,k1,l⟩:=k.wr;exact⟨⟨W++g,by rw[k1,h1,Cw],fun e f=>(As.1 f).elim (h2 e) (l e)⟩,fun i=>⟨fun d=>((k.lk i).1 d).trans ((h.lk i).1 d),fun j=>(k.lk i).2 ((h.lk i).2 j)⟩⟩
theorem A1g {rk:By}(j:rk.length=240)(leaf:Bool)(ems:List Gp)(st:Ax)(r:(Nat×By)×Ax)(hw:Nq rk leaf ems st=some r):Ny st r.2:=by
 unfold Nq at hw;split at hw
 ·cases hw
 ·rename_i q rest g;obtain⟨f1,f2,k⟩:=Zj (used:=st.v.used) (n:=st.m.blocks.length) (p:=q) (by rw[g];simp);cases hw;obtain⟨T,f⟩:=nmd (Iv rk st.v.session (st.v.done+1) q (Fm leaf ems));have b:T.length=256:=by rw[<-f];exact Ad6 rk leaf ems _ _ _ j
  have h:T≠[]:=fun e=>by rw[e]at b;simp at b
  rw[f];refine⟨⟨[(q,T)],rfl,fun e c=>?_⟩,fun a=>⟨fun ha=>DM.look_write_ne st.m q a T (by omega),fun d=>?_⟩⟩
  ·simp at c;subst c;exact⟨f1,b⟩
  ·by_cases e:q=a
   ·subst e;show((st.m.write q T).look q).length=256;by_cases i:q<st.m.cache.length
    ·rw[DM.look_write_same st.m q T i h];exact b
    ·have:(st.m.write q T).look q=st.m.look q:=by
      unfold DM.look DM.write;simp only;rw[List.set_eq_of_length_le (by omega)]
     rw[this];exact d
   ·show((st.m.write q T).look a).length=256;rw[DM.look_write_ne st.m q a T e];exact d
theorem A17 {rk:By}(e:rk.length=240)(T:Ay)(st:Ax)(P:Nat)(b:By)(a:Ax)(hw:Un rk T st=some ((P,b),a)):Ny st a:=by
 cases T with
 |none=>cases hw;exact Ny.refl _
 |some q=>obtain⟨h,t⟩:=q;unfold Un at hw;simp only[Ig]at hw;obtain⟨⟨d,g⟩,f,c⟩:=hw;cases c;exact Ahm Ny Ny.refl Ny.trans (A1g e) h t st d _ f
structure Zy (rk:By)(T:Ay)(st0 st:Ax)(P:Nat)(DG:By)(T':Ay):Prop where
 w:Un rk T st0=some ((P,DG),st)
 vx:Vx st0 st (Gn T)
 nx:Nx st0 st
 x:Ny st0 st
 root:Ep T'
 fl:Df T'=Df T
 cn:∀a,2<=a->Fj a T'=Fj a T+nw st0 st a
 pl:P<1000
 sto:Hy st.m rk {st.v with place:=P,digest:=DG} T'
theorem A4c (rk:By)(T:Ay)(b:Ax)(hr:Ep T)(i:Wg T)(o:Ql b.m rk T)(p:Adf b T)(g:Kb rk b)(m:Gn T<=Tt b):∃P l st T',Zy rk T b st P l T':=by
 cases T with
 |none=>exact⟨0,[],b,none,rfl,Vx.refl _,Nx.refl _,Ny.refl _,trivial,rfl,fun a _=>by rw[Apk];rfl,by decide,rfl⟩
 |some q=>
  obtain⟨h,t⟩:=q;have d:Kn h t:=hr;have j:Rn rk b h t:=⟨o,p,d.wf,d.ne,d.le,d.two,d.asc⟩;obtain⟨f,st,hw,vx⟩:=Agx rk h t b j g i m;have c:=Um rk h t b f st j g i hw;have k:Un rk (some ⟨h,t⟩) b=some ((f.place,f.dig),st):=by unfold Un;simp only[hw,Sp]
  have n:=(Oi c.sto).2.1;have r:=g.le;rw[c.nx.bl]at n;refine⟨f.place,f.dig,st,some ⟨h,f⟩,k,vx,c.nx,A17 g.rk _ _ _ _ _ k,⟨c.wf,fun e=>d.ne ?_,by rw[c.ln];exact d.le,by rw[c.ln];exact d.two,by rw[c.fl];exact d.asc⟩,c.fl,fun a ha=>Anw rk a ha h t b f st j g i hw,by omega,rfl,rfl,c.sto⟩;have:=c.ln;rw[e]at this;exact Ls.1 this.symm
theorem Aap (m:DM)(n:Nat)(t:By)(a:Nat)(ha:a<m.blocks.length)(h:n%2≠a):(m.advance n t).look a=m.look a:=by unfold DM.advance;rw[DM.look_settle (m.write (n%2) t) a ha,DM.look_write_ne _ _ _ _ h]
theorem Age (m:DM)(n:Nat)(t:By)(a:t≠[])(ha:n%2<m.blocks.length)(b:m.cache.length=m.blocks.length):(m.advance n t).look (n%2)=t:=by unfold DM.advance;rw[DM.look_settle (m.write (n%2) t) _ ha,DM.look_write_same _ _ _ (by omega) a]
theorem Aay (m:DM)(n:Nat)(t:By):(m.advance n t).blocks.length=m.blocks.length:=by simp[DM.advance,DM.settle,DM.write,DM.flush]
theorem Hy.keep {m b:DM}{rk:By}{v c:VM}{T:Ay}(h:Hy m rk v T)(hb:b.blocks.length=m.blocks.length)(e1:c.place=v.place)(e2:c.digest=v.digest)(hk:∀a,2<=a->0<Fj a T->b.look a=m.look a):Hy b rk c T:=by
 cases T with
 |none=>exact e1.trans h
 |some q=>obtain⟨h1,t⟩:=q;exact⟨e1.trans h.1,e2.trans h.2.1,Cm.keep hb h1 t h.2.2 hk⟩
theorem Aqh {m:DM}{rk:By}:∀(h:Nat) (t:Nd h),Cm m rk h t->∀a,0<cnt a h t->2<=a/\a<m.blocks.length
 |0,t,hs,a,b=>by
  simp only[cnt,one]at b;split at b
  ·rename_i e;simp only[beq_iff_eq]at e;subst e;exact⟨hs.1,hs.2.1⟩
  ·omega
 |h+1,t,hs,a,b=>by
  simp only[cnt,one]at b;split at b
  ·rename_i e;simp only[beq_iff_eq]at e;subst e;exact⟨hs.1.1,hs.1.2.1⟩
  ·have:0<(t.es.map fun e:By×Nd h=>cnt a h e.2).sum:=by simpa using b
   obtain⟨c,j,k⟩:∃c∈t.es.map (fun e:By×Nd h=>cnt a h e.2),0<c:=by
    by_cases g:∃c∈t.es.map (fun e:By×Nd h=>cnt a h e.2),0<c
    ·exact g
    ·exfalso
     have hz:∀l:List Nat,(∀c∈l,¬0<c)->l.sum=0:=by
      intro l
      induction l with
      |nil=>intro _;rfl
      |cons x l ih=>intro d;rw[Jy,ih (fun c b=>d c (by simp[b]))];have:=d x (by simp);omega
     have:=hz _ (fun c b i=>g ⟨c,b,i⟩);omega
   obtain⟨e,f,rfl⟩:=Kj.1 j;exact Aqh h e.2 (hs.2 e f) a k
theorem Aa0 {m:DM}{rk:By}{v:VM}{T:Ay}(h:Hy m rk v T)(a:Nat)(b:0<Fj a T):2<=a/\a<m.blocks.length:=by
 cases T with
 |none=>cases b
 |some q=>obtain⟨h1,t⟩:=q;exact Aqh h1 t h.2.2 a b
theorem Zy.saved {rk tk:By}{T T':Ay}{d st:Ax}{P:Nat}{b:By}(z:Zy rk T d st P b T')(rl:List Nat):Hy (Kc tk P b st) rk (Ut P b st rl) T':=by refine z.sto.keep (by unfold Kc;rw[Aay];simp[DM.flush]) rfl rfl (fun a ha e=>?_);have c:=(Aa0 z.sto a e).2;unfold Kc;rw[Aap _ _ _ _ (by simpa [DM.flush]using c) (by omega),DM.look_flush _ _ c]
theorem A1v (bw:Nat)(a:Option Addr)(cap:Nat)(w:World):
  Cl 66 #[.pointer (some ⟨bw,0,none⟩),.slice a 0 cap] w fun r w'=>r=.returned (.int .i64 0)/\w'=w:=by
 go_enter Tryz.func66,Tryz.ntmps66;go_wp2_with fail;go_ret;exact⟨rfl,rfl⟩
theorem Hq.nil {w:World}{cv:Value}(h:Hq w cv []):∃a cap,cv=.slice a 0 cap:=by
 rcases h.2 with⟨b,_⟩|⟨g,cap,cur,b,_⟩
 ·exact⟨none,0,b⟩
 ·exact⟨_,cap,b⟩
structure In (w:World)(x:DX)(b bt bp:Nat)(m:DM)(v:VM)(wv:Value)(tk rk:By)(T:Ay)(cs:List Ag):Prop where
 kit:Hm w x b m v wv bt bp tk rk
 op:v.opened=true
 bl:∀p,p<m.blocks.length->(m.look p).length=256
 sto:Hy m rk v T
 root:Ep T
 pl:Tp v.used T
 row:Hq w v.cv cs
 ok:∀c∈cs,Sy c
 len:cs.length<=16
 nn:Gt T<=46
 fl:(Df T).length<=300
 dn:v.done<=40
 se:v.session<9223372036854775808
 ve:v.version<1048577
 ct:v.version=m.count
 wr:m.wrote.length<4998000
 cw:∀j,v.cv.ownBlock=some j->Dx x b bp wv j/\j≠bt
theorem A1y {w:World}{x:DX}{b bt bp:Nat}{m:DM}{v:VM}{wv:Value}{tk rk:By}{T:Ay}{cs:List Ag}(H:In w x b bt bp m v wv tk rk T cs):
  Cl 66 #[.pointer (some ⟨w.heap.size,0,none⟩),v.cv] (w.alloc (Od b)) fun e w'=>e=.returned (.int .i64 0)/\∃lk top rv,Dj w' w.heap.size b lk top rv (Bt ⟨T,[],false⟩ cs).ch/\Kp [w.heap.size] (w.alloc (Od b)) w'/\((Bt ⟨T,[],false⟩ cs).ch=true->∃S U,Oe (w.alloc (Od b)) w' x b bp w.heap.size m v wv rk (Gt T) (.slice none 0 0) (Bt ⟨T,[],false⟩ cs) lk top rv S U):=by
 have k:Bw w (w.alloc (Od b)):=(Ah _ _).alloc (Ak _) _;have i:=H.kit.below k;have f:=Av1 w b
 cases cs with
 |nil=>obtain⟨a,cap,l⟩:=H.row.nil;rw[l];refine(A1v w.heap.size a cap _).mono ?_;rintro e w' ⟨rfl,rfl⟩;exact⟨rfl,_,_,_,f,Kp.refl _ _,fun h=>by cases h⟩
 |cons c cs=>
  have fw:Dx x b bp wv w.heap.size:=⟨Ce.new H.kit.sys (Ak _),fun e=>by have:=H.kit.key.lt;omega⟩;have n:Wk (w.alloc (Od b)) x b bp w.heap.size m v wv rk 0 (.pointer none) (.slice none 0 0) false []:=⟨⟨i.sys,i.pv,i.key,f.vw,fw.1,Ne.symm fw.2,H.bl⟩,f,⟨rfl,.inl ⟨rfl,rfl⟩⟩,fun j d=>(by cases d),fun j d=>(by cases d)⟩
  refine(Au5 x b bp w.heap.size m v wv rk false T (c::cs) 0 (.pointer none) (.slice none 0 0) v.cv [] _ n H.sto H.root (by have:=H.nn;omega) (Bm (S:=[]) H.row (Kp.of_below k) (by simp)) (fun j d g=>by
   simp[An,Value.ownBlock]at g;have:=Hl H.row j d
   omega) (by simp) H.ok H.len H.fl (by simp)).mono ?_
  rintro e w' ⟨rfl,lk,top,rv,S,U,A⟩;exact⟨rfl,lk,top,rv,A.wt.wk.wk,A.kp,fun _=>⟨S,U,by rw[Dq]at A;exact A⟩⟩
theorem Ape {b:Bool}(h:0<one b):b=true:=by cases b;· cases h
                                           ·rfl
theorem In.save {w w1:World}{x:DX}{b bt bp:Nat}{m:DM}{v:VM}{wv:Value}{tk rk:By}{T:Ay}{cs:List Ag}(H:In w x b bt bp m v wv tk rk T cs)(D:(Bt ⟨T,[],false⟩ cs).ch=true){lk:Nat}{top rv:Value}{S:List Nat}{U:Nat}(A:Oe (w.alloc (Od b)) w1 x b bp w.heap.size m v wv rk (Gt T) (.slice none 0 0) (Bt ⟨T,[],false⟩ cs) lk top rv S U):
  (∃a,top=.pointer a)/\(∀a,top=.pointer a->Ku m v (Gn (Bt ⟨T,[],false⟩ cs).top)=0->Ve w1 x b bt bp w.heap.size lk m v wv a rv tk rk (Bt ⟨T,[],false⟩ cs).top S U (Bt ⟨T,[],false⟩ cs).rl)/\Ep (Bt ⟨T,[],false⟩ cs).top/\Gn (Bt ⟨T,[],false⟩ cs).top<=999/\Wg (Bt ⟨T,[],false⟩ cs).top/\Ql m rk (Bt ⟨T,[],false⟩ cs).top/\Adf ⟨m,v⟩ (Bt ⟨T,[],false⟩ cs).top/\Kb rk ⟨m,v⟩:=by
 have L:Bw w (w.alloc (Od b)):=(Ah _ _).alloc (Ak _) _;have X:(w.alloc (Od b)).heap.size=w.heap.size+1:=by simp
 have I:=H.kit.below L;obtain⟨r1,r2,r3,r4⟩:=Zo ⟨T,[],false⟩ cs 300 H.ok H.root H.fl (by have:=H.len;omega);have z:=Aof cs ⟨T,[],false⟩ H.ok H.root (fun h=>by cases h) D;have o:Ql m rk (Bt ⟨T,[],false⟩ cs).top:=A31 _ cs H.sto.old;have G:=fun a ha=>Af0 a ha cs ⟨T,[],false⟩ H.ok H.root;have Q:=H.len;have k:=H.kit.sys.disk;have ad:=H.kit.sys.vault.ul;have F:Kb rk ⟨m,v⟩:=⟨k.same,by show m.blocks.length<=v.used.length;have:=k.le;omega,by show m.blocks.length<=_;have:=k.le;omega,H.kit.key.len⟩
 have r:Adf ⟨m,v⟩ (Bt ⟨T,[],false⟩ cs).top:=by
  cases d:(Bt ⟨T,[],false⟩ cs).top with
  |none=>trivial
  |some q=>obtain⟨h,t⟩:=q;intro a ha aa;have h1:=G a ha;rw[d]at h1;have h2:=H.pl a ha;have y:Fj a (some ⟨h,t⟩)=cnt a h t:=rfl;have f:(⟨T,[],false⟩:Kl).rl.count a=0:=rfl;have l:(⟨T,[],false⟩:Kl).top=T:=rfl;rw[f,l]at h1;exact Ape (b:=v.used.getD a false) (by omega)
 have u:Gn (Bt ⟨T,[],false⟩ cs).top<=999:=by
  cases d:(Bt ⟨T,[],false⟩ cs).top with
  |none=>exact Cu _
  |some q=>obtain⟨h,t⟩:=q;rw[d]at r1 r3;have h1:=Af9 h t;have h2:=Afk h t r1;have y:Df (some ⟨h,t⟩)=flat h t:=rfl;rw[y]at r3;show De h t<=999;omega
 refine⟨?_,fun a ha E=>?_,r1,u,z,o,r,F⟩
 ·have i:=A.wt.tr
  cases d:(Bt ⟨T,[],false⟩ cs).top with
  |none=>rw[d]at i;exact⟨none,i.1⟩
  |some q=>obtain⟨h,t⟩:=q;rw[d]at i;obtain⟨n,M,_⟩:=i;exact⟨_,M⟩
 ·subst ha;have s:=A.wt.wk.wk;rw[D]at s;have p:=A.kp;have fw:Dx x b bp wv w.heap.size:=⟨Ce.new H.kit.sys (Ak _),fun e=>by have:=H.kit.key.lt;omega⟩;have ac:=H.kit.mac.lt;have ab:=H.kit.key.lt;have N:An w.heap.size (.slice none 0 0)=[w.heap.size]:=rfl;rw[N]at p;have J:Hm w1 x b m v wv bt bp tk rk:=I.step A.wt.wk.env.sys p (Cd.refl _ _) (by simp;omega) (by simp;omega) rfl rfl rfl;obtain⟨O,V,Y⟩:=Aep E;have P:=H.ct;have R:=k.cl;refine⟨J,s,A.wt.tr,A.wt.wk.row,fw.1,fun j c=>⟨(A.wt.o j c).1,(A.wt.o j c).2,fun e=>?_,fun e=>?_⟩,fun j c=>⟨(A.wt.wk.rout j c).1,fun g=>A.wt.dd j g (by simp[An,c])⟩,r1,z,o,r,F,u,E,H.dn,H.se,by omega,by omega,H.wr,fun q K=>?_,?_⟩
  ·have:=A.new j c;omega
  ·exact A.wt.dd j c (by simp[An,e])
  ·by_cases h2:2<=q
   ·have h1:=G q h2;have Z:=H.pl q h2;have f:(⟨T,[],false⟩:Kl).rl.count q=0:=rfl;have l:(⟨T,[],false⟩:Kl).top=T:=rfl;have W:=List.count_pos_iff.2 K;rw[f,l]at h1;have C:=Ape (b:=v.used.getD q false) (by omega);by_cases g:q<v.used.length
    ·omega
    ·rw[Ea,Sk (by omega)]at C;cases C
   ·omega
  ·have f:(⟨T,[],false⟩:Kl).rl.length=0:=rfl;rw[f]at r4;omega
inductive CmO (w w':World)(x:DX)(b bt bp:Nat)(m:DM)(v:VM)(wv:Value)(tk rk:By)(T:Ay)(cs:List Ag)(e:Ending):Prop where
 |same (h:(Bt ⟨T,[],false⟩ cs).ch=false) (he:e=.returned (.int .i64 0)) (k:Hm w' x b m {v with cv:=.slice none 0 0} wv bt bp tk rk) (p:Kp (Ai.set x b wv) w w')
 |full (h:(Bt ⟨T,[],false⟩ cs).ch=true) (c:Nat) (hc:0<c) (hr:Ku m v (Gn (Bt ⟨T,[],false⟩ cs).top)=c) (he:e=.returned (.int .i64 c)) (p:Bw w w')
 |done (h:(Bt ⟨T,[],false⟩ cs).ch=true) (hr:Ku m v (Gn (Bt ⟨T,[],false⟩ cs).top)=0) (he:e=.returned (.int .i64 0)) (P:Nat) (DG:By) (st:Ax) (T':Ay) (wv':Value) (z:Zy rk (Bt ⟨T,[],false⟩ cs).top ⟨m,v⟩ st P DG T')
   (k:Hm w' x b (Kc tk P DG st) {Ut P DG st (Bt ⟨T,[],false⟩ cs).rl with cv:=.slice none 0 0} wv' bt bp tk rk) (p:Kp (Ai.set x b wv) w w') (l:Cd wv wv' w.heap.size)
theorem Ae5 (x:DX)(b bt bp:Nat)(m:DM)(v:VM)(wv:Value)(tk rk:By)(T:Ay)(cs:List Ag)(w:World)(H:In w x b bt bp m v wv tk rk T cs):
  Cl 37 #[.pointer (some ⟨b,0,none⟩)] w fun e w'=>CmO w w' x b bt bp m v wv tk rk T cs e:=by
 have c1:=H.kit.sys.vault.c1;rw[H.op]at c1;have o:Bw w (w.alloc (Od b)):=(Ah _ _).alloc (Ak _) _;have t:(w.alloc (Od b)).heap.size=w.heap.size+1:=by simp
 have n:=H.kit.below o;have R:=n.sys.vault.c58;have L:=H.kit.mac.lt;have N:=H.kit.key.lt;have y:=Aa (A1y H);have E:=Aa (Ab H (Ab o n));clear H n o;unfold Od at R;obtain⟨F,i⟩:=nmd ((Bt ⟨T,[],false⟩ cs).ch);go_enter Tryz.func37,Tryz.ntmps37;go_wp2_with fail;unfold Od at y;refine y.o.mono ?_;rintro e w1 ⟨rfl,lk,top,rv,wk1,k1,C⟩;obtain⟨H,o,n⟩:=E.o;have G:=k1.size;rw[show(w.alloc (.cells #[.pointer (some ⟨b,0,none⟩),.int .i64 0,.pointer none,.slice none 0 0,.bool false] 115)).heap.size=w.heap.size+1 from t]at G;have c4:=wk1.c4;have fw:Ce x b wv w.heap.size:=Ce.new H.kit.sys (Ak _);have s1:=n.sys.kp k1 (fun j d=>by simp at d;subst d;exact fw);have f:Hm w1 x b m v wv bt bp tk rk:=n.step s1 k1 (Cd.refl _ _) (by simp;omega) (by simp;omega) rfl rfl rfl;have k01:Kp [] w w1:=(Kp.of_below o:Kp [] w _).step k1 (fun j d=>by simp at d;subst d;exact .inr (Ak _));have l:Bw w w1:=⟨k01.os,k01.tape,k01.output,k01.size,fun j d=>k01.block j d (by simp)⟩
 cases F with
 |false=>
  rw[i]at c4;have R:=f.sys.vault.c58;have al:=f.sys.vault.fr 58;have kv:Kp [b] w1 (w1.setCell ⟨b,58,none⟩ (.slice none 0 0)):=(Kp.refl [b] w1).setCell b 58 _ (.inl (by simp));have s2:=f.sys.ofVault kv (f.sys.vault.set58 (.slice none 0 0));have Q:b∈Ai.set x b wv:=by simp[Ai.set]
  have Z:=f.step s2 kv (Cd.refl _ _) (by simp;rintro rfl;exact f.abt.2 Q) (by simp;rintro rfl;exact f.abp.2 Q) rfl rfl rfl;have r:=Aa (CmO.same (w:=w) (wv:=wv) (T:=T) (cs:=cs) i rfl Z ((k01.mono (fun _ h=>by cases h)).trans (kv.mono (fun j d=>by simp at d;simp[Ai.set,d]))));clear H o n G t fw s1 f k01 l kv s2 Q Z i y E C wk1 k1 L N;go_wp2_with fail;go_ret;exact r.o
 |true=>
  rw[i]at c4;obtain⟨S,U,A⟩:=C i;obtain⟨⟨a,rfl⟩,V,D,Y,X,J,K,O⟩:=H.save i A;have I:=wk1;rw[i]at I;obtain⟨c,k⟩:=nmd (Ku m v (Gn (Bt ⟨T,[],false⟩ cs).top));by_cases ak:c=0
  ·subst ak;obtain⟨P,ag,st,T',z⟩:=A4c rk _ ⟨m,v⟩ D X J K O (Aep k).2.2;have p:=V a rfl k;have s:=Aa (A2z x b bt bp w.heap.size lk m v wv a rv tk rk _ S U _ w1 p P ag st z.w z.vx z.pl);have q:st.v.tv=v.tv/\st.v.pv=v.pv/\st.v.salt=v.salt:=by obtain⟨u,am⟩:=z.vx.v;rw[am];exact⟨rfl,rfl,rfl⟩
   have af:=Aa (Ab f (Ab l (Ab i (Ab k (Ab z (Ab q (Ab p A)))))));clear H o n G fw s1 f k01 l y E C wk1 k1 A V D Y X J K O I i k z q p;go_wp2_with fail;refine s.o.mono ?_;rintro e w2 ⟨rfl,ab,s2,ai,W⟩;obtain⟨f,l,i,k,z,q,p,A⟩:=af.o;have R:=s2.vault.c58;have al:=s2.vault.fr 58;have kv:Kp [b] w2 (w2.setCell ⟨b,58,none⟩ (.slice none 0 0)):=(Kp.refl [b] w2).setCell b 58 _ (.inl (by simp));have ah:=s2.ofVault kv (s2.vault.set58 (.slice none 0 0));have M:Kp (S++Ai.set x b wv) w1 (w2.setCell ⟨b,58,none⟩ (.slice none 0 0)):=ai.trans (kv.mono (fun j d=>by simp at d;simp[Ai.set,d]));have aa:=f.step ah M W (by simp only[As,not_or];exact⟨fun g=>(p.fS _ g).2.2.1 rfl,f.abt.2⟩) (by simp only[As,not_or];exact⟨fun g=>(p.fS _ g).2.1 rfl,f.abp.2⟩) q.1 q.2.1 q.2.2
   have ad:Kp (Ai.set x b wv) w (w2.setCell ⟨b,58,none⟩ (.slice none 0 0)):=(Kp.of_below l:Kp (Ai.set x b wv) w w1).step M (fun j d=>by
    rcases As.1 d with e|e
    ·right;have h1:(w.alloc (Od b)).heap.size<=j:=A.new j e;rw[t]at h1;omega
    ·exact .inl e)
   have ac:Cd wv ab w.heap.size:=fun j d=>(W j d).imp id (fun g=>by have:=l.size;omega);have r:=Aa (CmO.done (w:=w) i k rfl P ag st T' ab z aa ad ac);clear f l i k z q p A s2 ai W kv ah M aa ad ac af s c4 t L N;go_wp2_with fail;go_ret;exact r.o
  ·have an:((c:Int)==0)=false:=by rw[beq_eq_false_iff_ne];omega
   have s:=Aa (A2d x b w.heap.size lk m v wv rv rk a _ S U c true w1 s1 I A.wt.tr D (by omega) k (by omega) (by have:=H.dn;omega));have r:=Aa (fun(w2:World) (hb:Bw w1 w2)=>CmO.full (w:=w) (w':=w2) (x:=x) (b:=b) (bt:=bt) (bp:=bp) (wv:=wv) (tk:=tk) (rk:=rk) i c (by omega) k rfl (l.trans (hb.mono l.size)));clear H o n G t fw s1 f k01 l y E C wk1 k1 A V D Y X J K O I i k L N;go_wp2_with fail;refine s.o.mono ?_;rintro e w2 ⟨rfl,ae⟩;have aj:=Aa (r.o w2 ae);clear r ae s;go_wp2_with fail;go_ret;exact aj.o
structure Vq (t e:TypeId)(s:Nat):Prop where
 un:Tryz.prog.underlying t=some (.slice e)
 inf:∃i z k,Tryz.prog.info? e=some i/\i.zero=some z/\i.size=s/\i.bytes=k/\z.cells.size=s/\k<=1000
 pos:0<s
def Kq (w:World)(s:Nat)(a:Value)(m:Nat)(b:List Value):Prop:=b.length=m*s/\((a=.slice none 0 0/\m=0)\/∃d c,a=.slice (some d) m c/\∀j u,b[j]?=some u->w.cell? (d.add j)=some u)
theorem Kq.below {w w':World}{s:Nat}{a:Value}{m:Nat}{b:List Value}(h:Kq w s a m b)(hb:Bw w w'):Kq w' s a m b:=by
 obtain⟨h0,h⟩:=h;refine⟨h0,?_⟩;rcases h with h|⟨f,c,e,g⟩
 ·exact .inl h
 ·refine .inr ⟨f,c,e,fun j u d=>?_⟩;have h1:=g j u d;exact(hb.cell (Ab8 w _ h1)).trans h1
theorem Kq.of_own {w:World}{e:TypeId}{s:Nat}{c:Value}{m:Nat}{d:List Value}(h:w.ownsRow 0 e s c m d):Kq w s c m d:=by
 refine⟨h.1,?_⟩;rcases h.2 with⟨a,i⟩|⟨g,cap,cur,a,_,hb,o,n,k,f⟩
 ·exact .inl ⟨a,i⟩
 ·refine .inr ⟨_,cap,a,fun j u b=>?_⟩;have l:j<m*s:=by rw[<-h.1];exact(Ds.1 b).1
  rw[show(⟨g,0,none⟩:Addr).add j=⟨g,j,none⟩from by simp[Addr.add];omega,cell_of_row _ _ _ _ _ _ hb,<-b,<-f,Ml (by omega)];simp
theorem Kq.lo {w:World}{s:Nat}{g cap m:Nat}{a:List Value}(h:Kq w s (.slice (some ⟨g,0,none⟩) m cap) m a)(i:Nat)(e:i<=m):Kq w s (.slice (some ⟨g,0,none⟩) i cap) i (a.take (i*s)):=by
 have h1:=Tw s e;refine⟨by rw[Fr,h.1,Ss h1],?_⟩;rcases h.2 with⟨h,_⟩|⟨l,c,d,k⟩
 ·cases h
 ·cases d;refine .inr ⟨_,cap,rfl,fun j u b=>k j u ?_⟩
  have f:j<i*s:=by have:=(Ds.1 b).1;rw[Fr]at this;omega
  rwa [Ml f]at b
theorem Kq.hi {w:World}{s:Nat}{g cap m:Nat}{b:List Value}(h:Kq w s (.slice (some ⟨g,0,none⟩) m cap) m b)(i:Nat)(e:m<=cap):Kq w s (.slice (some ⟨g,if cap=i then 0 else i*s,none⟩) (m-i) (cap-i)) (m-i) (b.drop (i*s)):=by
 refine⟨by rw[Nw,h.1,Nat.sub_mul],?_⟩;rcases h.2 with⟨h,_⟩|⟨n,c,d,l⟩
 ·cases h
 ·cases d;refine .inr ⟨_,cap-i,rfl,fun j u a=>?_⟩;rw[Sm]at a;have k:=(Ds.1 a).1;rw[h.1]at k
  have f:¬cap=i:=by rintro rfl;have:=Tw s e;omega
  have ha:(⟨g,i*s,none⟩:Addr).add j=(⟨g,0,none⟩:Addr).add (i*s+j):=by
   unfold Addr.add;split
   ·subst_vars
    split
    ·rename_i h0;rw[Pp]at h0;rw[h0]
    ·simp
   ·rw[if_neg (by omega)];simp
  rw[if_neg f,ha];exact l _ u a
theorem Kq.lit {w:World}{s:Nat}{e:TypeId}(cs:List Value)(b:cs.length=s){r:Nat}(hb:w.heap[r]?=some (.cells cs.toArray e (0,0))):Kq w s (.slice (some ⟨r,0,none⟩) 1 1) 1 cs:=by refine⟨by omega,.inr ⟨_,1,rfl,fun j u a=>?_⟩⟩;rw[show(⟨r,0,none⟩:Addr).add j=⟨r,j,none⟩from by simp[Addr.add];omega,cell_of_row _ _ _ _ _ _ hb,<-a];simp
theorem Yh {t e:TypeId}{s:Nat}(d:Vq t e s){w:World}{v j:Value}{n m:Nat}{xs b:List Value}(h:TypeId)(g:w.ownsRow 0 e s v n xs)(f:Kq w s j m b)(h1:∀u∈b,u.oneCell'=true)(F:n+m<=100000000):
  ∃a w',(Builtin.append_ #[t,t] h #[v,j]).run Tryz.prog w=.ok a w'/\w'.ownsRow 0 e s a (n+m) (xs++b)/\w.grownBy w' v.ownBlock/\(a.ownBlock=v.ownBlock\/a.ownBlock=some w.heap.size)/\(a=.slice none 0 0↔v=.slice none 0 0/\m=0):=by
 obtain⟨i,z,k,l,E,G,p,A,hk⟩:=d.inf;obtain⟨o,f⟩:=f;rcases f with⟨rfl,rfl⟩|⟨y,c,rfl,D⟩
 ·have x:b=[]:=Ls.1 (by omega);subst x;exact⟨v,w,run_append_owned_none w 0 t h e i s d.un l v n xs g,by simpa using g,World.grownBy.refl _ _,.inl rfl,by simp⟩
 ·obtain⟨a,w',h1,h2,r,C,q⟩:=run_append_own_at w 0 t h e i z s k d.un l E G p A d.pos v n xs g y m c b o D h1 (by unfold maxLen;omega) (by
   have:=Nat.mul_le_mul F hk
   omega) (Cu _)
  exact⟨a,w',h1,h2,r,q,C⟩
section
variable {α:Type}(f:α->List Value)(s:Nat)(hf:∀a,(f a).length=s)
include hf
theorem Zp (l:List α):(l.flatMap f).length=l.length*s:=by
 induction l with
 |nil=>simp
 |cons a l ih=>rw[Da,Bb,ih,hf,Fh,Nat.add_mul,Nat.one_mul,Nat.add_comm]
theorem Aj7 (l:List α)(i:Nat):(l.flatMap f).take (i*s)=(l.take i).flatMap f:=by
 rcases Hv i l.length with h|h
 ·have e:l.flatMap f=(l.take i).flatMap f++(l.drop i).flatMap f:=by rw[<-Gh,Jb]
  have a:((l.take i).flatMap f).length=i*s:=by rw[Zp f s hf,Fr,Ss (by omega)]
  rw[e,Sj (by omega),Du (by omega)]
 ·rw[Du (by rw[Zp f s hf];exact Tw s h),Du h]
theorem Agq (l:List α)(i:Nat):(l.flatMap f).drop (i*s)=(l.drop i).flatMap f:=by
 rcases Hv i l.length with h|h
 ·have e:l.flatMap f=(l.take i).flatMap f++(l.drop i).flatMap f:=by rw[<-Gh,Jb]
  have a:((l.take i).flatMap f).length=i*s:=by rw[Zp f s hf,Fr,Ss (by omega)]
  rw[e,Oo (by omega),Io (by omega),Hu]
 ·rw[Io (by rw[Zp f s hf];exact Tw s h),Io h];rfl
theorem Av5 (l:List α)(i j:Nat)(a:α)(b:l[i]?=some a)(d:j<s):(l.flatMap f)[i*s+j]?=(f a)[j]?:=by
 have c:=(Ds.1 b).1;have h1:l.drop i=a::l.drop (i+1):=by rw[Kh c];congr 1;rw[Az c]at b;exact Option.some.inj b
 rw[<-Sm,Agq f s hf,h1,Da,Ja (by rw[hf];exact d)]
theorem Rv {w:World}{e:TypeId}{v:Value}{l:List α}(h:w.ownsRow 0 e s v l.length (l.flatMap f))(h0:l≠[]):∃g cap,v=.slice (some ⟨g,0,none⟩) l.length cap/\g<w.heap.size/\l.length<=cap/\cap<=maxLen/\(∀i a,l[i]?=some a->∀j,j<s->w.cell? ⟨g,i*s+j,none⟩=(f a)[j]?)/\(∀i,i<l.length->w.there g (i*s) s):=by
 rcases h.2 with⟨_,o⟩|⟨g,cap,cur,d,_,hb,m,k,q,c⟩
 ·exact absurd (Ls.1 o) h0
 ·refine⟨g,cap,d,lt_of_block hb,m,k,fun i a b j n=>?_,fun i b=>?_⟩
  ·have p:i<l.length:=(Ds.1 b).1;have h1:(i+1)*s<=l.length*s:=Tw s p;rw[Nat.add_mul,Nat.one_mul]at h1;rw[cell_of_row _ _ _ _ _ _ hb,<-Av5 f s hf l i j a b n,<-c,Ml (by omega)];simp
  ·refine Ail hb _ _ ?_;have h1:(i+1)*s<=cap*s:=Tw s (by omega);rw[Nat.add_mul,Nat.one_mul]at h1;omega
end
theorem Ae9:Vq 62 100 3:=by obtain⟨a,b,c,e,d⟩:=info_parts An2;exact⟨Tryz.underlying62,⟨a,_,40,b,c,e,d,rfl,by decide⟩,by decide⟩
theorem Ag.cells_len (c:Ag):c.cells.length=3:=rfl
theorem Acu (cs:List Ag):∀u∈Pt cs,u.oneCell'=true:=fun u a=>by obtain⟨c,_,h⟩:=Vz.1 a;simp[Ag.cells]at h;rcases h with rfl|rfl|rfl<;>rfl
def Aam:List Value->Nat->List Value->List Value
 |l,_,[]=>l
 |l,o,v::vs=>Aam (l.set o v) (o+1) vs
theorem Ao5:∀(b l:List Value) (a:Nat),a+b.length<=l.length->Aam l a b=l.take a++(b++l.drop (a+b.length))
 | [],l,a,_=>by simp[Aam]
 |v::b,l,a,h=>by
  simp only[Fh]at h;rw[Aam,Ao5 b (l.set a v) (a+1) (by rw[Ht];omega)]
  have h1:(l.set a v).take (a+1)=l.take a++[v]:=by rw[Lr (by rw[Ht];omega),List.take_set_of_le (Ak _)];simp
  have h2:(l.set a v).drop (a+1+b.length)=l.drop (a+1+b.length):=by rw[List.drop_set_of_lt (by omega)]
  rw[h1,h2,Cw,Fh];have c:a+1+b.length=a+(b.length+1):=by omega
  rw[c];rfl
theorem An8 {g:Nat}{e:TypeId}:∀(b:List Value) (a:Nat) (w:World) (cur:List Value),w.heap[g]?=some (.cells cur.toArray e (0,0))->(w.setCells g a b).heap[g]?=some (.cells (Aam cur a b).toArray e (0,0))
 | [],a,w,cur,h=>h
 |v::b,a,w,cur,h=>by have h1:=Cx h a v;rw[Cz]at h1;exact An8 b (a+1) _ _ h1
theorem Arw {α:Type}(f:α->List Value)(s:Nat)(hf:∀a,(f a).length=s){w:World}{e:TypeId}{g cap:Nat}{l:List α}(h:w.ownsRow 0 e s (.slice (some ⟨g,0,none⟩) l.length cap) l.length (l.flatMap f))(i:Nat)(j:i<l.length)(a:α):(w.setCells g (i*s) (f a)).ownsRow 0 e s (.slice (some ⟨g,0,none⟩) l.length cap) (l.set i a).length ((l.set i a).flatMap f):=by
 rcases h.2 with⟨b,_⟩|⟨z,A,cur,b,p,hb,d,v,n,c⟩
 ·cases b
 ·cases b;have h1:(i+1)*s<=l.length*s:=Tw s j;have h2:l.length*s<=cap*s:=Tw s d;rw[Nat.add_mul,Nat.one_mul]at h1;have k:cur.toList.length=cap*s:=by simpa using n
  have q:w.heap[g]?=some (.cells cur.toList.toArray e (0,0)):=by simpa using hb
  have m:=An8 (f a) (i*s) w cur.toList q;rw[Ao5 (f a) cur.toList (i*s) (by rw[hf,k];omega),hf]at m;refine⟨by rw[Zp f s hf],.inr ⟨g,cap,_,by rw[Ht],p,m,by rw[Ht];exact d,v,?_,?_⟩⟩
  ·simp only[Uv,Bb,Fr,Nw,hf,k];rw[Ss (by omega)];omega
  ·have r:l.set i a=l.take i++a::l.drop (i+1):=by rw[List.set_eq_take_append_cons_drop,if_pos j]
   have t:cur.toList.take (i*s)=(l.take i).flatMap f:=by rw[<-Aj7 f s hf,<-c,List.take_take,Ss (by omega)]
   have o:(cur.toList.drop (i*s+s)).take (l.length*s-(i*s+s))=(l.drop (i+1)).flatMap f:=by rw[<-Agq f s hf,<-c,Nat.add_mul,Nat.one_mul,<-List.drop_take]
   have y:((l.take i).flatMap f).length=i*s:=by rw[Zp f s hf,Fr,Ss (by omega)]
   rw[Ht,r,Gh,Da];have x:(f a).take (l.length*s-i*s)=f a:=Du (by rw[hf];omega);have u:((l.take i).flatMap f).take (l.length*s)=(l.take i).flatMap f:=Du (by omega);rw[List.toList_toArray,t,List.take_append,u,y,List.take_append,x,hf,<-o,Nat.sub_sub]
def Ia (cs:List Ag):List By:=cs.map Ag.key
def Kx (k:By)(cs:List Ag):Bool:=match cs[Bx k (Ia cs)]? with|some e=>e.key==k|none=>false
theorem Aws (k:By)(es:List Ag)(q:Nat)(h2:q<=es.length)(d:∀i e,i<q->es[i]?=some e->Op.bytesLess e.key k=true)(c:∀e,es[q]?=some e->Op.bytesLess e.key k=false):Bx k (Ia es)=q:=by
 unfold Bx Ia;refine Ado _ _ _ (fun i x f a=>?_) (by rw[Fi];omega) (fun x a=>?_)
 ·rw[Fq,Ig]at a;obtain⟨e,b,rfl⟩:=a;exact d i e f b
 ·rw[Fq,Ig]at a;obtain⟨e,b,rfl⟩:=a;exact c e b
theorem All (x:DX)(b:Nat)(m:DM)(v:VM)(wv:Value)(k:By)(cs:List Ag)(w:World)(h:Ai w x b m v wv)(hr:Hq w v.cv cs)(G:cs.length<=100):
  Cl 59 #[.pointer (some ⟨b,0,none⟩),.string ⟨k.toArray⟩] w fun e w'=>e=.returned (.tuple #[.int .i64 (Bx k (Ia cs)),.bool (Kx k cs)])/\∃m,w'=w.drewN m:=by
 have A:=h.vault.c58;have K:(cs.length:Int)<=100:=by omega
 by_cases h0:cs=[]
 ·subst h0;obtain⟨a,cap,n⟩:=hr.nil;rw[n]at A;clear h hr n G;have e1:Bx k (Ia [])=0:=rfl;have e2:Kx k []=false:=rfl;rw[e1,e2];clear e1 e2;go_enter Tryz.func59,Tryz.ntmps59;go_wp2_with fail
  go_loopw [6] (fun i wr=>i=.int .i64 0/\wr=w) (fun _ _=>0)
  case atStart=>exact⟨rfl,rfl⟩
  case round=>obtain⟨rfl,rfl⟩:=hrel;go_wp2_with fail;go_quiet (fail);go_wp2_with fail;go_ret2;exact⟨rfl,_,rfl⟩
 ·obtain⟨g,cap,n,_,_,_,u,_⟩:=Rv Ag.cells 3 Ag.cells_len hr h0;rw[n]at A;have H:=Aa u;have C:=Aa (Aws k cs);clear h u hr n h0 G;generalize F:cs.length=L at*;have y:=Aa F;clear F;go_enter Tryz.func59,Tryz.ntmps59;go_wp2_with fail
  go_loopw [6] (fun i wr=>∃q:Nat,q<=L/\i=.int .i64 (q:Int)/\wr=w/\∀i e,i<q->cs[i]?=some e->Op.bytesLess e.key k=true) (fun i _=>L-(intOf i).toNat)
  case atStart=>exact⟨0,by omega,rfl,rfl,fun i e h2=>by omega⟩
  case round=>
   obtain⟨q,D,rfl,rfl,p⟩:=hrel;by_cases t:q<L
   ·obtain⟨e,j⟩:∃e,cs[q]?=some e:=⟨cs[q]'(by rw[y.o];exact t),Az _⟩;have s:=H.o q e j 0 (by decide);rw[Pp]at s;have M:wr.cell? ⟨g,q*3,none⟩=some (Ac e.key):=s;have I:(q:Int)<(L:Int):=by omega
    have z:=Aa p;have l:=Aa (Ab j t);clear s p D j
    cases hb:Op.bytesLess e.key k with
    |true=>
     go_wp2_with fail
     go_roundw
     case rel=>exact⟨q+1,l.o.2,by go_num,by trivial,fun i E h2 f=>by
      rcases Xx (Xy h2)with g|rfl
      ·exact z.o i E g f
      ·rw[l.o.1]at f;cases f;exact hb⟩
     case measure=>have:=l.o.2;simp[intOf];omega
    |false=>
     have d:=C.o q (by have:=l.o.2;omega) z.o (fun E f=>by rw[l.o.1]at f;cases f;exact hb);have o:Kx k cs=(e.key==k):=by unfold Kx;rw[d,l.o.1]
     have c:=Aa (Ab d o);clear d o
     cases hk:(e.key==k)with
     |true=>go_wp2_with fail;go_quiet (fail);go_wp2_with fail;go_ret2;rw[c.o.1,c.o.2,hk];exact⟨rfl,_,rfl⟩
     |false=>go_wp2_with fail;go_quiet (fail);go_wp2_with fail;go_ret2;rw[c.o.1,c.o.2,hk];exact⟨rfl,_,rfl⟩
   ·obtain rfl:q=L:=by omega
    have J:decide ((q:Int)<(q:Int))=false:=by simp
    have r:cs[q]?=none:=by rw[List.getElem?_eq_none_iff,y.o];exact Ak _
    have d:=C.o q (Ak _) p (fun e j=>by rw[r]at j;cases j);have o:Kx k cs=false:=by unfold Kx;rw[d,r]
    have c:=Aa (Ab d o);clear p t D d o r;go_wp2_with fail;go_quiet (fail);go_wp2_with fail;go_ret2;rw[c.o.1,c.o.2];exact⟨rfl,_,rfl⟩
def Lx (c:Ag)(cs:List Ag):Option (List Ag):=
 if Kx c.key cs then some (cs.set (Bx c.key (Ia cs)) c)else if 12<=cs.length then none else some (cs.take (Bx c.key (Ia cs))++c::cs.drop (Bx c.key (Ia cs)))
theorem Ayk (d:Oper)(a:Act)(x:Operand)(b c:Nat)(v:Value)(e:d.op=.load 62 x)(f:a.eval x=.pointer (some ⟨b,c,none⟩))(w:World)(g:w.cell? ⟨b,c,none⟩=some v):
  (execOp a.eval d).run Tryz.prog w=.ok (.value v) w:=by
 unfold execOp;simp only[e,f];clear f e
 go_simp
theorem Asg (b:Oper)(a:Act)(x i:Operand)(g n c k:Nat)(e:b.op=.indexAddr 62 x i)(f:a.eval x=.slice (some ⟨g,0,none⟩) n c)(d:a.eval i=.int .i64 (k:Int))(hk:(k:Int)<(n:Int))(w:World):
  (execOp a.eval b).run Tryz.prog w=.ok (.value (.pointer (some ⟨g,k*3,none⟩))) w:=by
 unfold execOp;simp only[e,f,d];clear f d e
 go_simp
theorem Ajw (k:By)(cs:List Ag):Bx k (Ia cs)<=cs.length:=by
 have:(Ia cs).length=cs.length:=by simp[Ia]
 unfold Bx;rw[<-this];exact List.takeWhile_sublist _|>.length_le
structure NtO (w w':World)(x:DX)(b:Nat)(m:DM)(v:VM)(wv:Value)(cs':List Ag)(cv:Value):Prop where
 sys:Ai w' x b m {v with cv:=cv} wv
 row:Hq w' cv cs'
 nil:cs'=[]->cv=.slice none 0 0
 own:∀j,cv.ownBlock=some j->v.cv.ownBlock=some j\/w.heap.size<=j
 kp:Kp (b::v.cv.ownBlock.toList) w w'
theorem Aoi (x:DX)(b:Nat)(m:DM)(v:VM)(wv:Value)(c:Ag)(cs:List Ag)(w:World)(h:Ai w x b m v wv)(hr:Hq w v.cv cs)(bw:cs=[]->v.cv=.slice none 0 0)(cg:cs.length<=12)(bu:∀j,v.cv.ownBlock=some j->Ce x b wv j):
  Cl 65 #[.pointer (some ⟨b,0,none⟩),.agg #[Ac c.key,Ac c.value,.bool c.gone]] w fun e w'=>(Lx c cs=none/\e=.returned (.int .i64 7)/\Bw w w')\/(∃cs' cv,Lx c cs=some cs'/\e=.returned (.int .i64 0)/\NtO w w' x b m v wv cs' cv):=by
 by_cases h0:cs=[]
 ·subst h0;refine(Avl x b m v wv c.key c.value c.gone w h (bw rfl)).mono ?_;rintro e w' ⟨rfl,cv,b4,ce,cc,hk⟩;exact .inr ⟨[c],cv,rfl,rfl,b4,ce,fun h=>(by cases h),fun j d=>.inr (cc j d),hk.mono (fun j d=>by simp at d;simp[d])⟩
 ·have cp:=h.vault.lt;obtain⟨w0,W⟩:=nmd (w.alloc (.cells #[Ac c.key,Ac c.value,.bool c.gone] 100));have f:Bw w w0:=W▸(Ah _ _).alloc (Ak _) _;have cw:w0.heap.size=w.heap.size+1:=by rw[<-W];simp
  have t:w0.heap[w.heap.size]?=some (.cells #[Ac c.key,Ac c.value,.bool c.gone] 100 (0,0)):=W▸heap_alloc_new w _;have p:=h.later f;have o:Hq w0 v.cv cs:=Bm (S:=[]) hr (Kp.of_below f) (by simp);have k0:w0.cell? ⟨w.heap.size,0,none⟩=some (Ac c.key):=crw t rfl;have A:=Aa (All x b m v wv c.key cs w0 p o (by omega));obtain⟨g,cap,ao,aw,H,av,b2,C⟩:=Rv Ag.cells 3 Ag.cells_len o h0;have ar:=Ajw c.key cs;have cr:g<w.heap.size:=Hl hr g (by rw[ao];rfl);have F:=bu g (by rw[ao];rfl);have P:=Aa (Ab p (Ab o (Ab f (Ab t (Ab F (Ab C (Ab h0 H)))))));have r:Lx c cs=if Kx c.key cs then some (cs.set (Bx c.key (Ia cs)) c)else if 12<=cs.length then none else some (cs.take (Bx c.key (Ia cs))++c::cs.drop (Bx c.key (Ia cs))):=rfl
  have Y:Kx c.key cs=true->Bx c.key (Ia cs)<cs.length:=fun l=>by
   unfold Kx at l;split at l
   ·rename_i e cb;exact(Ds.1 cb).1
   ·cases l
  obtain⟨a,bm⟩:=nmd (Bx c.key (Ia cs));rw[bm]at A r ar Y;have bt:=Tj av;have y:=Aa ao;have O:=Aa W;clear h hr bw bu f t p o b2 C bm h0 W
  cases l:Kx c.key cs with
  |true=>
   rw[l,if_pos rfl]at r;rw[l]at A;have Q:=Aa r;have b6:(a:Int)<(cs.length:Int):=by have:=Y l;omega
   clear r l Y;go_enter Tryz.func65,Tryz.ntmps65;go_wp2_with fail;rw[O.o];refine A.o.mono ?_;rintro e w1 ⟨rfl,T,D⟩;obtain⟨p,o,f,t,F,C,h0,H⟩:=P.o;have i:Bw w0 w1:=D▸Bp (Ah _ _) T;obtain⟨w2,a1⟩:=nmd (w1.drew);have s:Bw w0 w2:=i.trans (a1▸((Ah _ _).drew:Below w0.heap.size w1 _));obtain⟨n,z⟩:=nmd (w2.setCells g (a*3) c.cells);have Z:Hq w2 v.cv cs:=Bm (S:=[]) o (Kp.of_below s) (by simp);rw[y.o]at Z;have aj:=Arw Ag.cells 3 Ag.cells_len Z a (by omega) c;rw[z]at aj;have ac:Kp [g] w2 n:=z▸(Kp.refl [g] w2).setCells g _ _ (.inl (by simp));have s2:=p.later s;have au:=s2.kp ac (fun j d=>by simp at d;subst d;exact F);have a5:w2.cell? ⟨b,58,none⟩=some (.slice (some ⟨g,0,none⟩) cs.length cap):=by rw[<-y.o];exact s2.vault.c58
   have bd:n.cell? ⟨b,58,none⟩=some (.slice (some ⟨g,0,none⟩) cs.length cap):=by rw[<-y.o];exact au.vault.c58
   have E:=(s.block w.heap.size (by omega)).trans t;have bh:=(ac.block w.heap.size (by have:=s.size;omega) (by simp;omega)).trans E
   have a7:w2.there g (a*3) 3:=by obtain⟨cm,cu,b8,_,_,_,_,b5⟩:=Rv Ag.cells 3 Ag.cells_len Z h0;cases b8;exact b5 a (by omega)
   have bk:=Aa (show ∀w'∈[w2,n],w'.cell? ⟨b,58,none⟩=some (.slice (some ⟨g,0,none⟩) cs.length cap)from fun w' U=>by
    simp only[Al,Cq,or_false]at U;rcases U with rfl|rfl
    ·exact a5
    ·exact bd)
   have bj:=Aa (show ∀w'∈[w2,n],w'.rangeAt w.heap.size 0 [Ac c.key,Ac c.value,.bool c.gone]from fun w' U=>by
    simp only[Al,Cq,or_false]at U;rcases U with rfl|rfl
    ·exact Xa E
    ·exact Xa bh)
   have az:=Aa (Ab a7 z);have bz:=Aa a1;have bn:=Aa (show ∀u∈c.cells,u.oneCell'=true from fun u I=>by simp[Ag.cells]at I;rcases I with rfl|rfl|rfl<;>rfl);have cj:({v with cv:=v.cv}:VM)=v:=rfl
   have ad:=Aa (show NtO w n x b m v wv (cs.set a c) v.cv from⟨au,by rw[y.o];exact aj,fun e=>(by
    have:=congrArg List.length e;rw[Ht]at this
    exact absurd (Ls.1 this) h0),fun j d=>.inl d,((Kp.of_below f).trans (Kp.of_below s)).trans (ac.mono (fun j d=>by simp at d;subst d;rw[y.o];simp[Value.ownBlock]))⟩)
   clear p o f t F C h0 H i s Z aj ac s2 au a5 bd E bh a7 P A D a1 z k0 O ar av bt aw;go_wp2_with fail;refine Gf (Ek [w2,n]) [7] (by kernel_rfl) (by kernel_rfl) (by rw[bz.o];rfl) ?_;refine Am 0 (.pointer (some ⟨b,0,none⟩)) ?_;refine Am 1 (.pointer (some ⟨b,0,none⟩)) ?_;refine Am 2 (.pointer (some ⟨b,58,none⟩)) ?_;refine Gv 3 (.slice (some ⟨g,0,none⟩) cs.length cap) Ayk (fun q w hw=>bk.o w hw.mem) ?_;refine Am 4 (.int .i64 (a:Int)) ?_;refine Em 5 (.agg #[Ac c.key,Ac c.value,.bool c.gone]) rfl (by kernel_rfl) rfl (fun q=>My fun w hw=>Tn _ _ 100 _ _ 0 [Ac c.key,Ac c.value,.bool c.gone] rfl (by kernel_rfl) _ Tryz.underlying100 rfl (by kernel_rfl) w (bj.o w hw.mem)) ?_;refine Em 6 (.pointer (some ⟨g,a*3,none⟩)) rfl (by kernel_rfl) rfl (fun _=>Cp (fun w=>Asg _ _ _ _ g cs.length cap a rfl (by kernel_rfl) (by kernel_rfl) b6 w)) ?_;refine Kr 7 rfl (by kernel_rfl) rfl (Kv w2 n rfl rfl (by rw[<-az.o.2];exact Up _ _ 100 _ _ g (a*3) c.cells rfl (by kernel_rfl) (by kernel_rfl) (by kernel_rfl) bn.o w2 az.o.1)) ?_;refine Cj.done (by kernel_rfl) fun w' bc=>?_;simp only[Act.put,Cz,Dg,Co];obtain rfl:=bc.eq (w0:=n) rfl;clear bc bk bj az bz bn;go_wp2_with fail;go_ret;exact .inr ⟨_,_,Q.o,rfl,ad.o⟩
  |false=>
   rw[l,if_neg (by decide)]at r;rw[l]at A;by_cases a3:12<=cs.length
   ·rw[if_pos a3]at r;have Q:=Aa r;have b9:(12:Int)<=(cs.length:Int):=by omega
    clear r l Y ar av bt aw;go_enter Tryz.func65,Tryz.ntmps65;go_wp2_with fail;rw[O.o];refine A.o.mono ?_;rintro e w1 ⟨rfl,T,D⟩;obtain⟨p,o,f,t,F,C,h0,H⟩:=P.o;have i:Bw w0 w1:=D▸Bp (Ah _ _) T;have s1:=p.later i;have ca:w1.cell? ⟨b,58,none⟩=some (.slice (some ⟨g,0,none⟩) cs.length cap):=by rw[<-y.o];exact s1.vault.c58
    have b7:=Aa (f.trans (i.mono f.size));clear p o f t F C h0 H i s1 P A D O k0;generalize cs.length=L at*;go_wp2_with fail;go_ret;exact .inl ⟨Q.o,rfl,b7.o⟩
   ·rw[if_neg a3]at r;have Q:=Aa r;have b9:(cs.length:Int)<12:=by omega
    have ch:(a:Int)<=(cs.length:Int):=by omega
    have cn:(cs.length:Int)<=(cap:Int):=by omega
    clear r l Y aw;go_enter Tryz.func65,Tryz.ntmps65;go_wp2_with fail;rw[O.o];refine A.o.mono ?_;rintro e w1 ⟨rfl,T,D⟩;obtain⟨p,o,f,t,F,C,h0,H⟩:=P.o;have i:Bw w0 w1:=D▸Bp (Ah _ _) T;have s1:=p.later i;have ca:w1.cell? ⟨b,58,none⟩=some (.slice (some ⟨g,0,none⟩) cs.length cap):=by rw[<-y.o];exact s1.vault.c58
    have am:Hq w1 v.cv cs:=Bm (S:=[]) o (Kp.of_below i) (by simp);rw[y.o]at am;have al:=Kq.of_own am;obtain⟨ap,w2,b1,bg,bo,bq,_⟩:=Yh Ae9 62 (Sn _ _ _ _) (al.lo a (by omega)) (fun u I=>Acu cs u (Nc I)) (by omega);have s:Bw w1 w2:=Zt bo (Ak _) (fun k hk=>by cases hk);obtain⟨n,z⟩:=nmd (w2.alloc (.cells #[Ac c.key,Ac c.value,.bool c.gone] 100));have aa:Bw w2 n:=z▸(Ah _ _).alloc (Ak _) _;have b0:n.heap[w2.heap.size]?=some (.cells c.cells.toArray 100 (0,0)):=z▸heap_alloc_new w2 _;obtain⟨an,ae,ax,bp,ba,a6,_⟩:=Yh Ae9 62 (Bm (S:=[]) bg (Kp.of_below aa) (by simp)) (Kq.lit c.cells rfl b0) (fun u I=>Acu [c] u (by simpa [Pt]using I)) (by omega)
    have ah:∀k,ap.ownBlock=some k->w1.heap.size<=k:=fun k hk=>by
     rcases bq with e|e
     ·rw[e]at hk;cases hk
     ·rw[e]at hk;cases hk;exact Ak _
    have bs:=s.size;have cd:=aa.size;have br:Below w1.heap.size n ae:=Zt ba (by omega) ah;have V:Bw w1 ae:=(s.trans (aa.mono bs)).trans br
    have ai:∀k,an.ownBlock=some k->w1.heap.size<=k:=fun k hk=>by
     rcases a6 with e|e
     ·rw[e]at hk;exact ah k hk
     ·rw[e]at hk;cases hk;omega
    have bf:=V.size;obtain⟨ct,ag⟩:=nmd ((if cap=a then 0 else a*3));have ak:=(al.hi a H).below V;rw[ag]at ak;obtain⟨cl,K,bi,ab,be,bb,_⟩:=Yh Ae9 62 bp ak (fun u I=>Acu cs u (Qs I)) (by omega);obtain⟨G,a0⟩:=nmd (0+a+1+(cs.length-a));rw[a0]at ab;obtain⟨J,M,rfl⟩:=Aao ab;have ay:Bw w1 K:=V.trans (Zt be bf ai)
    have aq:∀k,(Value.slice J G M).ownBlock=some k->w1.heap.size<=k:=fun k hk=>by
     rcases bb with e|e
     ·rw[e]at hk;exact ai k hk
     ·rw[e]at hk;cases hk;omega
    have a8:=s1.later V;have X:=s1.later ay;have ck:ae.cell? ⟨b,58,none⟩=some (.slice (some ⟨g,0,none⟩) cs.length cap):=by rw[<-y.o];exact a8.vault.c58
    have ci:K.cell? ⟨b,58,none⟩=some (.slice (some ⟨g,0,none⟩) cs.length cap):=by rw[<-y.o];exact X.vault.c58
    have co:=X.vault.fr 58;have bv:=(i.block w.heap.size (by omega)).trans t;have b3:=i.size;have E:=(s.block w.heap.size (by omega)).trans bv;have cf:w2.cell? ⟨w.heap.size,0,none⟩=some (Ac c.key):=crw E rfl;have l1:w2.cell? ⟨w.heap.size,1,none⟩=some (Ac c.value):=crw E rfl;have l2:w2.cell? ⟨w.heap.size,2,none⟩=some (.bool c.gone):=crw E rfl;have kv:Kp [b] K (K.setCell ⟨b,58,none⟩ (.slice J G M)):=(Kp.refl [b] K).setCell b 58 _ (.inl (by simp));have bl:=X.ofVault kv (X.vault.set58 (.slice J G M))
    have a9:Pt (cs.take a++c::cs.drop a)=[]++(Pt cs).take (a*3)++c.cells++(Pt cs).drop (a*3):=by unfold Pt;rw[Aj7 Ag.cells 3 Ag.cells_len,Agq Ag.cells 3 Ag.cells_len,Gh,Da];simp
    have a4:(cs.take a++c::cs.drop a).length=G:=by rw[<-a0];simp;omega
    have a2:Hq (K.setCell ⟨b,58,none⟩ (.slice J G M)) (.slice J G M) (cs.take a++c::cs.drop a):=by show World.ownsRow _ _ _ _ _ _ _;rw[a9,a4];exact Bm ab kv (fun j d=>by have:=aq j d;simp;omega)
    have ad:=Aa (show NtO w (K.setCell ⟨b,58,none⟩ (.slice J G M)) x b m v wv (cs.take a++c::cs.drop a) (.slice J G M)from⟨bl,a2,fun e=>(by simp at e),fun j d=>.inr (by have:=aq j d;omega),(((Kp.of_below f).trans (Kp.of_below i)).trans (Kp.of_below (ay.mono (Ak _)))).trans (kv.mono (fun j d=>by simp at d;simp[d]))⟩);rw[<-z]at ax;have N:=Aa (Ab b1 (Ab ax bi));have bx:=Aa ag;have cq:=Aa z;clear p o f t F C h0 H i s1 am al b1 bg bo bq s aa b0 ax bp ba a6 ah bs cd br V ai bf ag ak bi ab be bb ay aq a8 X bv b3 E kv bl a9 a4 a2 a0 z D P A O k0;by_cases af:cap=a
    ·have R:=bx.o;rw[if_pos af]at R;subst R;subst af;rw[Po,show cs.length-cap=0 from by omega]at N;go_wp2_with (at_builtin;first|refine Hr rfl _ _ rfl (.slice none 0 0) (.slice (some ⟨g,0,none⟩) cap cap) rfl rfl N.o.1 ?_|refine Hr rfl _ _ rfl ap (.slice (some ⟨w2.heap.size,0,none⟩) 1 1) rfl rfl N.o.2.1 ?_|refine Hr rfl _ _ rfl an (.slice (some ⟨g,0,none⟩) 0 0) rfl rfl N.o.2.2 ?_);go_ret;exact .inr ⟨_,_,Q.o,rfl,ad.o⟩
    ·have R:=bx.o;rw[if_neg af]at R;subst R;go_wp2_with (at_builtin;first|refine Hr rfl _ _ rfl (.slice none 0 0) (.slice (some ⟨g,0,none⟩) a cap) rfl rfl N.o.1 ?_|refine Hr rfl _ _ rfl ap (.slice (some ⟨w2.heap.size,0,none⟩) 1 1) rfl rfl N.o.2.1 ?_|refine Hr rfl _ _ rfl an (.slice (some ⟨g,a*3,none⟩) (cs.length-a) (cap-a)) rfl rfl N.o.2.2 ?_);go_ret;exact .inr ⟨_,_,Q.o,rfl,ad.o⟩
theorem Auo (x:DX)(b:Nat)(m:DM)(v:VM)(wv:Value)(k:By)(w:World)(h:Ai w x b m v wv)(a:v.opened=false):
  Cl 30 #[.pointer (some ⟨b,0,none⟩),.string ⟨k.toArray⟩] w fun e w'=>e=.returned (.tuple #[Ac [],.int .i64 3])/\w'=w:=by
 have c1:=h.vault.c1;rw[a]at c1;clear h;go_enter Tryz.func30,Tryz.ntmps30;go_wp2_with fail;go_ret2;exact⟨rfl,rfl⟩
theorem Aza (x:DX)(b:Nat)(m:DM)(v:VM)(wv:Value)(k s:By)(w:World)(h:Ai w x b m v wv)(a:v.opened=false):
  Cl 36 #[.pointer (some ⟨b,0,none⟩),.string ⟨k.toArray⟩,.string ⟨s.toArray⟩] w fun e w'=>e=.returned (.int .i64 3)/\w'=w:=by
 have c1:=h.vault.c1;rw[a]at c1;clear h;go_enter Tryz.func36,Tryz.ntmps36;go_wp2_with fail;go_ret;exact⟨rfl,rfl⟩
theorem Av8 (x:DX)(b:Nat)(m:DM)(v:VM)(wv:Value)(k:By)(w:World)(h:Ai w x b m v wv)(a:v.opened=false):
  Cl 35 #[.pointer (some ⟨b,0,none⟩),.string ⟨k.toArray⟩] w fun e w'=>e=.returned (.int .i64 3)/\w'=w:=by
 have c1:=h.vault.c1;rw[a]at c1;clear h;go_enter Tryz.func35,Tryz.ntmps35;go_wp2_with fail;go_ret;exact⟨rfl,rfl⟩
theorem Asl (x:DX)(b:Nat)(m:DM)(v:VM)(wv:Value)(w:World)(h:Ai w x b m v wv)(a:v.opened=false):
  Cl 29 #[.pointer (some ⟨b,0,none⟩)] w fun e w'=>e=.returned (.int .i64 3)/\w'=w:=by
 have c1:=h.vault.c1;rw[a]at c1;clear h;go_enter Tryz.func29,Tryz.ntmps29;go_wp2_with fail;go_ret;exact⟨rfl,rfl⟩
theorem Aq9 (x:DX)(b:Nat)(m:DM)(v:VM)(wv:Value)(w:World)(h:Ai w x b m v wv)(a:v.opened=false):
  Cl 28 #[.pointer (some ⟨b,0,none⟩)] w fun e w'=>e=.returned (.int .i64 3)/\w'=w:=by
 have c1:=h.vault.c1;rw[a]at c1;clear h;go_enter Tryz.func28,Tryz.ntmps28;go_wp2_with fail;go_ret;exact⟨rfl,rfl⟩
theorem Axz (x:DX)(b:Nat)(m:DM)(v:VM)(wv:Value)(w:World)(h:Ai w x b m v wv)(a:v.opened=false):
  Cl 37 #[.pointer (some ⟨b,0,none⟩)] w fun e w'=>e=.returned (.int .i64 3)/\w'=w:=by
 have c1:=h.vault.c1;rw[a]at c1;clear h;go_enter Tryz.func37,Tryz.ntmps37;go_wp2_with fail;go_ret;exact⟨rfl,rfl⟩
theorem A00 (x:DX)(b:Nat)(m:DM)(v:VM)(wv:Value)(k s:By)(w:World)(h:Ai w x b m v wv)(a:v.opened=false):
  Cl 33 #[.pointer (some ⟨b,0,none⟩),.string ⟨k.toArray⟩,.string ⟨s.toArray⟩] w fun e w'=>e=.returned (.tuple #[.slice none 0 0,.int .i64 3])/\w'=w:=by
 have c1:=h.vault.c1;rw[a]at c1;clear h;go_enter Tryz.func33,Tryz.ntmps33;go_wp2_with fail;go_ret2;exact⟨rfl,rfl⟩
theorem Agz (k:By)(w:World)(hk:¬(1<=k.length/\k.length<=8)):
  Cl 58 #[.string ⟨k.toArray⟩] w fun e w'=>e=.returned (.bool false)/\w'=w:=by
 have b:(ByteArray.mk k.toArray).size=k.length:=rfl;by_cases h1:1<=k.length
 ·have a:(1:Int)<=(k.length:Int):=by omega
  have c:decide ((k.length:Int)<=8)=false:=by simp;omega
  clear h1 hk;generalize k.length=n at*;go_enter Tryz.func58,Tryz.ntmps58;go_wp2_with fail;go_ret;exact⟨rfl,rfl⟩
 ·have a:decide ((1:Int)<=(k.length:Int))=false:=by simp;omega
  clear h1 hk;generalize k.length=n at*;go_enter Tryz.func58,Tryz.ntmps58;go_wp2_with fail;go_ret;exact⟨rfl,rfl⟩
theorem A1i (x:DX)(b:Nat)(m:DM)(v:VM)(wv:Value)(k:By)(w:World)(h:Ai w x b m v wv)(d:v.opened=true)(hk:¬(1<=k.length/\k.length<=8)):
  Cl 30 #[.pointer (some ⟨b,0,none⟩),.string ⟨k.toArray⟩] w fun e w'=>e=.returned (.tuple #[Ac [],.int .i64 4])/\w'=w:=by
 have c1:=h.vault.c1;rw[d]at c1;have c:=Aa (Agz k w hk);clear h hk;go_enter Tryz.func30,Tryz.ntmps30;go_wp2_with fail;refine c.o.mono ?_;rintro e w1 ⟨rfl,a⟩;rw[a];clear a w1 c;go_wp2_with fail;go_ret2;exact⟨rfl,rfl⟩
theorem Au9 (x:DX)(b:Nat)(m:DM)(v:VM)(wv:Value)(k s:By)(w:World)(h:Ai w x b m v wv)(d:v.opened=true)(hk:¬(1<=k.length/\k.length<=8)):
  Cl 36 #[.pointer (some ⟨b,0,none⟩),.string ⟨k.toArray⟩,.string ⟨s.toArray⟩] w fun e w'=>e=.returned (.int .i64 4)/\w'=w:=by
 have c1:=h.vault.c1;rw[d]at c1;have c:=Aa (Agz k w hk);clear h hk;go_enter Tryz.func36,Tryz.ntmps36;go_wp2_with fail;refine c.o.mono ?_;rintro e w1 ⟨rfl,a⟩;rw[a];clear a w1 c;go_wp2_with fail;go_ret;exact⟨rfl,rfl⟩
theorem Axt (x:DX)(b:Nat)(m:DM)(v:VM)(wv:Value)(k:By)(w:World)(h:Ai w x b m v wv)(d:v.opened=true)(hk:¬(1<=k.length/\k.length<=8)):
  Cl 35 #[.pointer (some ⟨b,0,none⟩),.string ⟨k.toArray⟩] w fun e w'=>e=.returned (.int .i64 4)/\w'=w:=by
 have c1:=h.vault.c1;rw[d]at c1;have c:=Aa (Agz k w hk);clear h hk;go_enter Tryz.func35,Tryz.ntmps35;go_wp2_with fail;refine c.o.mono ?_;rintro e w1 ⟨rfl,a⟩;rw[a];clear a w1 c;go_wp2_with fail;go_ret;exact⟨rfl,rfl⟩
theorem Ara (x:DX)(b:Nat)(m:DM)(v:VM)(wv:Value)(k s:By)(w:World)(h:Ai w x b m v wv)(d:v.opened=true)(h1:1<=k.length)(f:k.length<=8)(g:16<s.length):
  Cl 36 #[.pointer (some ⟨b,0,none⟩),.string ⟨k.toArray⟩,.string ⟨s.toArray⟩] w fun e w'=>e=.returned (.int .i64 5)/\w'=w:=by
 have c1:=h.vault.c1;rw[d]at c1;have c:=Aa (Adu k w h1 f);have i:(ByteArray.mk s.toArray).size=s.length:=rfl;have hd:decide ((16:Int)<(s.length:Int))=true:=by simp;omega
 clear h d h1 f g;generalize s.length=n at*;go_enter Tryz.func36,Tryz.ntmps36;go_wp2_with fail;refine c.o.mono ?_;rintro e w1 ⟨rfl,a⟩;rw[a];clear a w1 c;go_wp2_with fail;go_ret;exact⟨rfl,rfl⟩
def ChO (w w':World)(x:DX)(b:Nat)(m:DM)(v:VM)(wv:Value)(c:Ag)(cs:List Ag)(e:Ending):Prop:=
 (Lx c cs=none/\e=.returned (.int .i64 7)/\Bw w w')\/(∃cs' cv,Lx c cs=some cs'/\e=.returned (.int .i64 0)/\NtO w w' x b m v wv cs' cv)
theorem Auh (x:DX)(b:Nat)(m:DM)(v:VM)(wv:Value)(k s:By)(cs:List Ag)(w:World)(h:Ai w x b m v wv)(p:v.opened=true)(hr:Hq w v.cv cs)(o:cs=[]->v.cv=.slice none 0 0)(r:cs.length<=12)(l:∀j,v.cv.ownBlock=some j->Ce x b wv j)(h1:1<=k.length)(q:k.length<=8)(t:s.length<=16):
  Cl 36 #[.pointer (some ⟨b,0,none⟩),.string ⟨k.toArray⟩,.string ⟨s.toArray⟩] w fun e w'=>ChO w w' x b m v wv ⟨k,s,false⟩ cs e:=by
 have c1:=h.vault.c1;rw[p]at c1;have i:=Aa (Adu k w h1 q);have d:=Aoi x b m v wv ⟨k,s,false⟩ cs w h hr o r l;simp only[Ac]at d;have f:=Aa d;clear h p hr o r l h1 q d;have u:(ByteArray.mk s.toArray).size=s.length:=rfl;have hd:decide ((16:Int)<(s.length:Int))=false:=by simp;omega
 clear t;generalize s.length=n at*;go_enter Tryz.func36,Tryz.ntmps36;go_wp2_with fail;refine i.o.mono ?_;rintro e w1 ⟨rfl,g⟩;rw[g];clear g w1 i;go_wp2_with fail;refine f.o.mono ?_;rintro e w2 hr;rcases hr with⟨a,rfl,hb⟩|⟨cs',cv,a,rfl,hb⟩
 ·have c:=Aa (Ab a hb);clear a hb f;go_wp2_with fail;go_ret;exact .inl ⟨c.o.1,rfl,c.o.2⟩
 ·have c:=Aa (Ab a hb);clear a hb f;go_wp2_with fail;go_ret;exact .inr ⟨cs',cv,c.o.1,rfl,c.o.2⟩
theorem Ayf (x:DX)(b:Nat)(m:DM)(v:VM)(wv:Value)(k:By)(cs:List Ag)(w:World)(h:Ai w x b m v wv)(o:v.opened=true)(hr:Hq w v.cv cs)(n:cs=[]->v.cv=.slice none 0 0)(q:cs.length<=12)(l:∀j,v.cv.ownBlock=some j->Ce x b wv j)(h1:1<=k.length)(p:k.length<=8):
  Cl 35 #[.pointer (some ⟨b,0,none⟩),.string ⟨k.toArray⟩] w fun e w'=>ChO w w' x b m v wv ⟨k,[],true⟩ cs e:=by
 have c1:=h.vault.c1;rw[o]at c1;have i:=Aa (Adu k w h1 p);have d:=Aoi x b m v wv ⟨k,[],true⟩ cs w h hr n q l;simp only[Ac]at d;have f:=Aa d;clear h o hr n q l h1 p d;go_enter Tryz.func35,Tryz.ntmps35;go_wp2_with fail;refine i.o.mono ?_;rintro e w1 ⟨rfl,g⟩;rw[g];clear g w1 i;go_wp2_with fail;refine f.o.mono ?_;rintro e w2 hr;rcases hr with⟨a,rfl,hb⟩|⟨cs',cv,a,rfl,hb⟩
 ·have c:=Aa (Ab a hb);clear a hb f;go_wp2_with fail;go_ret;exact .inl ⟨c.o.1,rfl,c.o.2⟩
 ·have c:=Aa (Ab a hb);clear a hb f;go_wp2_with fail;go_ret;exact .inr ⟨cs',cv,c.o.1,rfl,c.o.2⟩
theorem Aru (x:DX)(b:Nat)(m:DM)(v:VM)(wv:Value)(w:World)(h:Ai w x b m v wv)(a:v.opened=true):
  Cl 29 #[.pointer (some ⟨b,0,none⟩)] w fun e w'=>e=.returned (.int .i64 0)/\Ai w' x b m {v with cv:=.slice none 0 0} wv/\Kp [b] w w':=by
 have c1:=h.vault.c1;rw[a]at c1;have f:=h.vault.c58;have d:=h.vault.fr 58;have kv:Kp [b] w (w.setCell ⟨b,58,none⟩ (.slice none 0 0)):=(Kp.refl [b] w).setCell b 58 _ (.inl (by simp));have c:=Aa (Ab (h.ofVault kv (h.vault.set58 (.slice none 0 0))) kv);clear h kv;go_enter Tryz.func29,Tryz.ntmps29;go_wp2_with fail;go_ret;exact⟨rfl,c.o⟩
def Xr (k:By)(cs:List Ag)(l:PL):Value:=
 if Kx k cs then(match cs[Bx k (Ia cs)]? with|some c=>if c.gone then Kg none else Kg (some c.value)|none=>Kg none)else Kg (Gm k l)
theorem A3p (x:DX)(b bt bp:Nat)(m:DM)(v:VM)(wv:Value)(tk rk k:By)(T:Ay)(cs:List Ag)(w:World)(h:Hm w x b m v wv bt bp tk rk)(D:v.opened=true)(j:Hy m rk v T)(C:Ep T)(u:∀p,p<m.blocks.length->(m.look p).length=256)(z:Gt T<=46)(hr:Hq w v.cv cs)(F:cs.length<=100)(h1:1<=k.length)(H:k.length<=8):
  Cl 30 #[.pointer (some ⟨b,0,none⟩),.string ⟨k.toArray⟩] w fun e w'=>e=.returned (Xr k cs (Df T))/\Bw w w':=by
 have c1:=h.sys.vault.c1;rw[D]at c1;have o:=Aa (Adu k w h1 H);have i:=Aa (All x b m v wv k cs w h.sys hr F)
 cases d:Kx k cs with
 |false=>
  rw[d]at i;have ha:Xr k cs (Df T)=Kg (Gm k (Df T)):=by unfold Xr;rw[d];rfl
  rw[ha];have U:=Aa (fun w' (hw:Bw w w')=>A0v x b bt bp m v wv tk rk k T w' (h.below hw) j C u z);clear h D j C u z hr F h1 H d ha;generalize Bx k (Ia cs)=I at*;generalize Gm k (Df T)=K at*;go_enter Tryz.func30,Tryz.ntmps30;go_wp2_with fail;refine o.o.mono ?_;rintro e w0 ⟨rfl,l⟩;rw[l];clear l w0 o;go_wp2_with fail;refine i.o.mono ?_;rintro e w1 ⟨rfl,G,n⟩;have a:Bw w w1:=n▸Bp (Ah _ _) G;have M:=Aa (U.o w1 a);clear i U n
  cases K with
  |none=>go_wp2_with fail;refine M.o.mono ?_;rintro e w2 ⟨rfl,y⟩;have E:=a.trans (y.mono a.size);unfold Kg;go_wp2_with fail;go_ret2;exact⟨rfl,E⟩
  |some s=>go_wp2_with fail;refine M.o.mono ?_;rintro e w2 ⟨rfl,y⟩;have E:=a.trans (y.mono a.size);unfold Kg;go_wp2_with fail;go_ret2;exact⟨rfl,E⟩
 |true=>
  rw[d]at i
  obtain⟨c,f⟩:∃c,cs[Bx k (Ia cs)]?=some c:=by
   unfold Kx at d;split at d
   ·rename_i e W;exact⟨e,W⟩
   ·cases d
  have ha:Xr k cs (Df T)=if c.gone then Kg none else Kg (some c.value):=by unfold Xr;rw[d,f];rfl
  rw[ha];obtain⟨K,A⟩:=nmd ((if c.gone then Kg none else Kg (some c.value)));rw[A];have r:=Aa A;clear A;have O:=(Ds.1 f).1;have h0:cs≠[]:=by rintro rfl;simp at O
  have N:=Aa (Ab h.sys (Ab hr (Ab h0 f)));have X:((Bx k (Ia cs):Nat):Int)<(cs.length:Int):=by omega
  clear h D j C u z hr F h1 H d ha f h0 O;generalize Bx k (Ia cs)=I at*;go_enter Tryz.func30,Tryz.ntmps30;go_wp2_with fail;refine o.o.mono ?_;rintro e w0 ⟨rfl,l⟩;rw[l];clear l w0 o;go_wp2_with fail;refine i.o.mono ?_;rintro e w1 ⟨rfl,G,n⟩;have a:Bw w w1:=n▸Bp (Ah _ _) G;obtain⟨j,hr,h0,f⟩:=N.o;have s1:=j.later a;have R:Hq w1 v.cv cs:=Bm (S:=[]) hr (Kp.of_below a) (by simp);obtain⟨g,cap,J,_,_,_,t,_⟩:=Rv Ag.cells 3 Ag.cells_len R h0;have V:=s1.vault.c58;rw[J]at V;have o1:w1.cell? ⟨g,I*3+1,none⟩=some (Ac c.value):=t I c f 1 (by decide);have P:w1.cell? ⟨g,I*3+2,none⟩=some (.bool c.gone):=t I c f 2 (by decide);have Q:=Aa a;clear j hr h0 f s1 R t J n a i N;generalize cs.length=L at*
  cases q:c.gone with
  |true=>rw[q]at P r;clear q;go_wp2_with fail;go_ret2;refine⟨?_,Q.o⟩;rw[<-r.o];rfl
  |false=>rw[q]at P r;clear q;go_wp2_with fail;go_ret2;refine⟨?_,Q.o⟩;rw[<-r.o];rfl
def Km (lo hi:By)(e:By×By):Bool:= !Op.bytesLess e.1 lo&& !Op.bytesLess hi e.1
def Bk (lo hi:By)(l:PL):PL:=l.filter (Km lo hi)
theorem Qq (lo hi:By)(a b:PL):Bk lo hi (a++b)=Bk lo hi a++Bk lo hi b:=Xw _ _
theorem Yw {lo hi:By}{l:PL}(h:∀e∈l,Km lo hi e=false):Bk lo hi l=[]:=List.filter_eq_nil_iff.2 (fun e a=>by rw[h e a];decide)
theorem Aoo {lo hi:By}{l:PL}(h:∀e∈l,Lt hi e.1):Bk lo hi l=[]:=Yw (fun e a=>by
 have:=h e a;unfold Lt at this;unfold Km;rw[this]
 simp)
theorem A27 {lo hi:By}{l:PL}(h:∀e∈l,Lt e.1 lo):Bk lo hi l=[]:=Yw (fun e a=>by
 have:=h e a;unfold Lt at this;unfold Km;rw[this]
 simp)
def Hz (e:By×By):List Value:=[Ac e.1,Ac e.2]
def Xb (l:PL):List Value:=l.flatMap Hz
theorem Acv (e:By×By):(Hz e).length=2:=rfl
theorem Apw (l:PL):∀u∈Xb l,u.oneCell'=true:=fun u a=>by obtain⟨c,_,h⟩:=Vz.1 a;simp[Hz]at h;rcases h with rfl|rfl<;>rfl
abbrev Do (w:World)(v:Value)(l:PL):Prop:=w.ownsRow 0 78 2 v l.length (Xb l)
theorem Auy:(Tryz.prog.info? 78).map (fun i=>(i.zero,i.size,i.bytes))=some (some (.agg #[.string ⟨#[]⟩,.string ⟨#[]⟩]),2,32):=by kernel_rfl
theorem Api:Vq 68 78 2:=by obtain⟨a,hi,b,d,c⟩:=info_parts Auy;exact⟨Tryz.underlying68,⟨a,_,32,hi,b,d,c,rfl,by decide⟩,by decide⟩
structure Fy (w:World)(sb b lk:Nat)(lo hi:By)(fv:Value):Prop where
 blk:w.heap[sb]?=some (.cells #[.pointer (some ⟨b,0,none⟩),.int .i64 lk,Ac lo,Ac hi,fv] 106 (0,0))
section
variable {w w':World}{sb b lk:Nat}{lo hi:By}{fv:Value}
theorem Fy.lt (h:Fy w sb b lk lo hi fv):sb<w.heap.size:=lt_of_block h.blk
theorem Fy.fr (h:Fy w sb b lk lo hi fv)(i:Nat):w.frozen? ⟨sb,i,none⟩=false:=by simp[World.frozen?,h.blk]
theorem Fy.c0 (h:Fy w sb b lk lo hi fv):w.cell? ⟨sb,0,none⟩=some (.pointer (some ⟨b,0,none⟩)):=by rw[cell_of_row _ _ _ _ _ _ h.blk];rfl
theorem Fy.c1 (h:Fy w sb b lk lo hi fv):w.cell? ⟨sb,1,none⟩=some (.int .i64 lk):=by rw[cell_of_row _ _ _ _ _ _ h.blk];rfl
theorem Fy.c2 (h:Fy w sb b lk lo hi fv):w.cell? ⟨sb,2,none⟩=some (Ac lo):=by rw[cell_of_row _ _ _ _ _ _ h.blk];rfl
theorem Fy.c3 (h:Fy w sb b lk lo hi fv):w.cell? ⟨sb,3,none⟩=some (Ac hi):=by rw[cell_of_row _ _ _ _ _ _ h.blk];rfl
theorem Fy.c4 (h:Fy w sb b lk lo hi fv):w.cell? ⟨sb,4,none⟩=some fv:=by rw[cell_of_row _ _ _ _ _ _ h.blk];rfl
theorem Fy.of_block (h:Fy w sb b lk lo hi fv)(e:w'.heap[sb]?=w.heap[sb]?):Fy w' sb b lk lo hi fv:=⟨e.trans h.blk⟩
theorem Fy.set1 (h:Fy w sb b lk lo hi fv)(k:Nat):Fy (w.setCell ⟨sb,1,none⟩ (.int .i64 k)) sb b k lo hi fv:=⟨by rw[Cx h.blk 1 _];simp⟩
theorem Fy.set4 (h:Fy w sb b lk lo hi fv)(a:Value):Fy (w.setCell ⟨sb,4,none⟩ a) sb b lk lo hi a:=⟨by rw[Cx h.blk 4 _];simp⟩
theorem Fy.vw (h:Fy w sb b lk lo hi fv):Ma w sb b lk:=⟨h.c0,h.c1,h.fr 1⟩
theorem Fy.up {lk':Nat}(h:Fy w sb b lk lo hi fv)(a:Gd w w' sb lk'):Fy w' sb b lk' lo hi fv:=(h.set1 lk').of_block a
end
structure Oy (w:World)(x:DX)(b bp sb:Nat)(m:DM)(v:VM)(wv:Value)(rk:By)(lk:Nat)(lo hi:By)(F:PL)(fv:Value):Prop where
 env:Id w x b bp sb m v wv rk lk
 sc:Fy w sb b lk lo hi fv
 row:Do w fv F
 sep:∀j,fv.ownBlock=some j->j≠sb/\Dx x b bp wv j
section
variable {w w':World}{x:DX}{b bp sb:Nat}{m:DM}{v:VM}{wv:Value}{rk:By}{lk lk':Nat}{lo hi:By}{F:PL}{fv:Value}
theorem Oy.kp {X:List Nat}(h:Oy w x b bp sb m v wv rk lk lo hi F fv)(c:Kp X w w')(e:∀j∈X,Dx x b bp wv j)(a:Fy w' sb b lk' lo hi fv)(d:∀j,fv.ownBlock=some j->j∉X):Oy w' x b bp sb m v wv rk lk' lo hi F fv:=
 ⟨h.env.kp c e a.vw,a,Bm h.row c d,h.sep⟩
theorem Oy.below (h:Oy w x b bp sb m v wv rk lk lo hi F fv)(hb:Bw w w'):Oy w' x b bp sb m v wv rk lk lo hi F fv:=
 h.kp (X:=[]) (Kp.of_below hb) (by simp) (h.sc.of_block (hb.block sb h.sc.lt)) (by simp)
structure Ayr (w w0 w1 w2 w3:World)(x:DX)(b bp sb:Nat)(m:DM)(v:VM)(wv:Value)(rk:By)(lk:Nat)(lo hi:By)(F:PL)(fv:Value)(e:By×By)(a:Option Addr)(cap:Nat):Prop where
 e0:w.drew=w0
 e1:w0.alloc (.cells #[Ac e.1,Ac e.2] 78)=w1
 run:(Builtin.append_ #[68,68] 68 #[fv,.slice (some ⟨w0.heap.size,0,none⟩) 1 1]).run Tryz.prog w1=.ok (.slice a (F.length+1) cap) w2
 e3:w2.setCell ⟨sb,4,none⟩ (.slice a (F.length+1) cap)=w3
 c:∀w'∈[w0,w1,w2],w'.cell? ⟨sb,4,none⟩=some fv
 fr:w2.frozen? ⟨sb,4,none⟩=false
 gas:Oy w3 x b bp sb m v wv rk lk lo hi (F++[e]) (.slice a (F.length+1) cap)
 kp:∀w'∈[w0,w1,w2,w3],Kp (sb::fv.ownBlock.toList) w w'
 own:∀j,(Value.slice a (F.length+1) cap).ownBlock=some j->fv.ownBlock=some j\/w.heap.size<=j
theorem A3l (h:Oy w x b bp sb m v wv rk lk lo hi F fv)(e:By×By)(P:F.length<=1000000):∃w0 w1 w2 d a cap,Ayr w w0 w1 w2 d x b bp sb m v wv rk lk lo hi F fv e a cap:=by
 obtain⟨w0,q⟩:=nmd (w.drew);have i:Bw w w0:=q▸(Ah _ _).drew;obtain⟨w1,n⟩:=nmd (w0.alloc (.cells #[Ac e.1,Ac e.2] 78));have H:Bw w0 w1:=n▸(Ah _ _).alloc (Ak _) _;have k:Bw w w1:=i.trans (H.mono i.size);have L:w1.heap[w0.heap.size]?=some (.cells (Hz e).toArray 78 (0,0)):=n▸heap_alloc_new w0 _;have C:=h.below k;obtain⟨O,w2,N,z,I,K,_⟩:=Yh Api 68 C.row (Kq.lit (Hz e) rfl L) (fun u M=>Apw [e] u (by simpa [Xb]using M)) (by omega);obtain⟨a,cap,rfl⟩:=Aao z;have J:=k.size;have t:Kp fv.ownBlock.toList w w2:=(Kp.of_below k).grown I (fun j c=>.inl (by simp[c]));have E:=h.sc.lt;have p:=h.sc.of_block (t.block sb E (fun g=>(h.sep sb (by simpa using g)).1 rfl))
 have s:∀j,(Value.slice a (F.length+1) cap).ownBlock=some j->fv.ownBlock=some j\/w.heap.size<=j:=fun j c=>by
  rcases K with e|e
  ·exact .inl (e▸c)
  ·rw[e]at c;cases c;exact .inr J
 obtain⟨d,l⟩:=nmd (w2.setCell ⟨sb,4,none⟩ (.slice a (F.length+1) cap));have A:Kp [sb] w2 d:=l▸(Kp.refl [sb] w2).setCell sb 4 _ (.inl (by simp));have o:=p.set4 (.slice a (F.length+1) cap);rw[l]at o;have r:Kp (sb::fv.ownBlock.toList) w w2:=t.mono (fun j c=>by simp[c]);have D:Kp (sb::fv.ownBlock.toList) w d:=r.trans (A.mono (fun j c=>by simp at c;simp[c]))
 have G:∀j∈sb::fv.ownBlock.toList,Dx x b bp wv j:=fun j c=>by
  simp only[Al,Bf]at c;rcases c with rfl|g
  ·exact h.env.o
  ·exact(h.sep j g).2
 have y:∀j,(Value.slice a (F.length+1) cap).ownBlock=some j->j≠sb/\Dx x b bp wv j:=fun j c=>by
  rcases s j c with g|g
  ·exact h.sep j g
  ·exact⟨by omega,h.env.new g⟩
 refine⟨w0,w1,w2,d,a,cap,q,n,N,l,fun w' f=>?_,p.fr 4,⟨h.env.kp D G o.vw,o,?_,y⟩,fun w' f=>?_,s⟩
 ·simp only[Al,Cq,or_false]at f;rcases f with rfl|rfl|rfl
  ·exact(h.below i).sc.c4
  ·exact C.sc.c4
  ·exact p.c4
 ·show World.ownsRow _ _ _ _ _ _ _;have e1:Xb (F++[e])=Xb F++Hz e:=by unfold Xb;rw[Gh];simp
  rw[e1,Bb];exact Bm z A (fun j c=>by simpa using(y j c).1)
 ·simp only[Al,Cq,or_false]at f;rcases f with rfl|rfl|rfl|rfl
  ·exact Kp.of_below i
  ·exact Kp.of_below k
  ·exact r
  ·exact D
end
end Go.Proofs.YtojgilcdgccojaaGreatDoor
