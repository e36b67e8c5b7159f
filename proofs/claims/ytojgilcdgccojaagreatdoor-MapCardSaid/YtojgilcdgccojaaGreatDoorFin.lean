import Derived.ChangeOld
import Derived.ChangeSame
import Derived.Deep.DeepHandedRow
import Derived.Deep.Slices
import Derived.Lib.LaidTab
import Derived.OpenShut
import Derived.ProofKit
import Derived.ShutString
import Derived.Test.YtojgilcdgccojaaGreatDoorCards
import Derived.Test.YtojgilcdgccojaaGreatDoorTie
import Derived.Test.YtojgilcdgccojaaGreatDoorAl
import Derived.Test.YtojgilcdgccojaaGreatDoorMAx
set_option linter.unusedSimpArgs false
set_option maxRecDepth 100000
set_option maxHeartbeats 8000000
namespace Go.Proofs.YtojgilcdgccojaaGreatDoor.mapc
open Go.ChangeShapes Go.WideShapes Go.ChangeAt Go.RowKit Go.Deep
theorem own:ownKnob Tryz.prog.godebug=none:=by kernel_rfl
theorem Ai4:Tryz.prog.globalNamed "keystore/sha.startWords" =some 0:=by kernel_rfl
theorem Ajy:Tryz.prog.globalNamed "keystore/sha.stepWords" =some 1:=by kernel_rfl
theorem Atp:(Tryz.prog.globals[0]?).map (·.type)=some 147:=by kernel_rfl
theorem Awy:(Tryz.prog.globals[1]?).map (·.type)=some 178:=by kernel_rfl
theorem Arf:Tryz.prog.cellsOf 147=8:=by kernel_rfl
theorem Awl:Tryz.prog.cellsOf 178=64:=by kernel_rfl
theorem Ak5:Tryz.prog.cellsOf 146=1:=by kernel_rfl
theorem Aph:Tryz.prog.cellsOf 3=1:=by kernel_rfl
theorem Apo:Tryz.prog.cellsOf 9=1:=by kernel_rfl
theorem Aeq:Tryz.prog.cellsOf 29=6:=by kernel_rfl
theorem Ar0 {P:Program}{W:World}{x:String×DataW Unit}{a:String}{k:IntKind}{zs:List Int}{rest:List (String×DataW Unit)}{g:Nat}{t e:TypeId}{n:Nat}
  (f:P.globalNamed a=some g) (d:(P.globals[g]?).map (·.type)=some t) (l:P.underlying t=some (.array n e)) (i:P.underlying e=some (.int k)) (o:P.cellsOf e=1) (c:P.cellsOf t=n)
  (h:laidMet P (x::(a,Lib.tabData k zs)::rest) W):Lib.TabIs P W a k zs:=by
 obtain⟨A,⟨D,v,C,y,w,z,_,_,_,_,⟨s,r,cs,u,p,q,m,j,b,hd,_,_⟩,_⟩,_⟩:=h;obtain rfl:=Option.some.inj (f.symm.trans m);obtain rfl:=Option.some.inj (d.symm.trans j);unfold Lib.TabIs;rw[b,<-Lib.cells_of_tab l i o c hd]
theorem Aox {P:Program}{W:World}{a:String}{k:IntKind}{xs:List Nat}{g:Nat}(h:Lib.TabIs P W a k (xs.map fun n:Nat=>(n:Int)))(e:P.globalNamed a=some g)(d:0<xs.length):Br W g k xs:=by
 have c:∀i,i<xs.length->W.cell? ⟨g,i,none⟩=some (.int k ((xs.getD i 0:Nat):Int)):=fun i b=>by rw[h.cell e i (by simpa using b)];simp[Az b]
 exact⟨Ab8 W ⟨g,0,none⟩ (c 0 d),c⟩
theorem Au4 {W:World}(h:laidMetH Tryz.prog Rows.mapRow.laid W):Br W 0 .u32 Jv:=
 Aox (Lib.tabIs_of_head (k:=.u32) (zs:=Jv.map fun n:Nat=>(n:Int)) (rest:=[("keystore/sha.stepWords",Rows.laid_keystore_sha_stepWords)]) Ai4 Atp Tryz.underlying147 Tryz.underlying146 Ak5 Arf h) Ai4 (by decide)
theorem Avg {W:World}(h:laidMetH Tryz.prog Rows.mapRow.laid W):Br W 1 .u32 Gk:=
 Aox (Ar0 (k:=.u32) (zs:=Gk.map fun n:Nat=>(n:Int)) (rest:=[]) (x:=("keystore/sha.startWords",Rows.laid_keystore_sha_startWords)) Ajy Awy Tryz.underlying178 Tryz.underlying146 Ak5 Awl h) Ajy (by decide)
section
variable {H:Type}{enc:TypeId×Value->H}{w:World}{base:Nat}{spare:Nat->Bool}{held:Bool}
def opD (a:Ei):DataW H:=.agg [.lit (.int .i64 a.k),.lit (.int .i64 a.a),.lit (.int .i64 a.b),.lit (.int .i64 a.c),.lit (.string a.s),.lit (.string a.t)]
structure Ahd (o:Ei):Prop where
 k:(Lit.int .i64 o.k).wf=true
 a:(Lit.int .i64 o.a).wf=true
 b:(Lit.int .i64 o.b).wf=true
 c:(Lit.int .i64 o.c).wf=true
 s:o.s.length<=maxLen
 t:o.t.length<=maxLen
theorem Ai2 {α:Type}{l:List α}(h:l.length=6):∃a b c d e f,l=[a,b,c,d,e,f]:=by
 match l,h with
 | [a,b,c,d,e,f],_=>exact⟨a,b,c,d,e,f,rfl⟩
theorem Auz {n:Nat}{cs:List Value}{x:DataW H×List MemPlace}(h:DataW.trod enc Tryz.prog w base spare held n 29 cs=some x):∃b:Ei,cs=b.cells/\x=(opD b,[])/\Ahd b:=by obtain⟨xs,m,rfl,z,e,C,a⟩:=DataW.trod_struct Tryz.underlying29 h;rw[Aeq]at e;obtain⟨c0,c1,c2,c3,c4,E,rfl⟩:=Ai2 e;obtain⟨I,F,K,J,L,G,rfl⟩:=Ai2 C;have l:=a 0 _ rfl;have i:=a 1 _ rfl;have f:=a 2 _ rfl;have k:=a 3 _ rfl;have g:=a 4 _ rfl;have d:=a 5 _ rfl;simp[Aph,Apo]at l i f k g d;obtain⟨k0,e0,t,w0⟩:=DataW.trod_int Tryz.underlying3 l;obtain⟨k1,e1,f1,w1⟩:=DataW.trod_int Tryz.underlying3 i;obtain⟨q,e2,f2,w2⟩:=DataW.trod_int Tryz.underlying3 f;obtain⟨D,e3,r,p⟩:=DataW.trod_int Tryz.underlying3 k;obtain⟨s,c,y,o⟩:=DataW.trod_string Tryz.underlying9 g;obtain⟨u,j,A,v⟩:=DataW.trod_string Tryz.underlying9 d;simp only[List.cons.injEq,and_true]at e0 e1 e2 e3 c j;subst e0 e1 e2 e3 c j t f1 f2 r y A;exact⟨⟨k0,k1,q,D,s.data.toList,u.data.toList⟩,by simp[Ei.cells,Ac],by rw[z];rfl,⟨w0,w1,w2,p,o,v⟩⟩
theorem A11 {a:Ei}(h:Ahd a):∃n,DataW.trod enc Tryz.prog w base spare held n 29 a.cells=some (opD a,[]):=by
 have d:∀k:Int,(Lit.int .i64 k).wf=true->∃n,DataW.trod enc Tryz.prog w base spare held n 3 [.int .i64 k]=some (.lit (.int .i64 k),[]):=fun k hk=>by obtain⟨n,e⟩:=shut_int (enc:=enc) (w:=w) (base:=base) (spare:=spare) (held:=held) Tryz.underlying3 hk;exact⟨n,by simpa [Value.cells]using e⟩
 have c:∀s:By,s.length<=maxLen->∃n,DataW.trod enc Tryz.prog w base spare held n 9 [Ac s]=some (.lit (.string s),[]):=fun s c=>by obtain⟨n,e⟩:=shut_string_cell (enc:=enc) (w:=w) (base:=base) (spare:=spare) (held:=held) Tryz.underlying9 (s:=⟨s.toArray⟩) c;exact⟨n,by simpa [Ac]using e⟩
 obtain⟨n0,h0⟩:=d a.k h.k;obtain⟨n1,h1⟩:=d a.a h.a;obtain⟨n2,h2⟩:=d a.b h.b;obtain⟨n3,o⟩:=d a.c h.c;obtain⟨n4,i⟩:=c a.s h.s;obtain⟨b,m⟩:=c a.t h.t;have p:=DataW.trod_le (show n0<=n0+n1+n2+n3+n4+b by omega) h0;have j:=DataW.trod_le (show n1<=n0+n1+n2+n3+n4+b by omega) h1;have g:=DataW.trod_le (show n2<=n0+n1+n2+n3+n4+b by omega) h2;have f:=DataW.trod_le (show n3<=n0+n1+n2+n3+n4+b by omega) o;have l:=DataW.trod_le (show n4<=n0+n1+n2+n3+n4+b by omega) i;have q:=DataW.trod_le (show b<=n0+n1+n2+n3+n4+b by omega) m;have:=trod_struct_mk (enc:=enc) (w:=w) (base:=base) (spare:=spare) (held:=held) (n:=n0+n1+n2+n3+n4+b) (cs:=a.cells) (xs:=[(.lit (.int .i64 a.k),[]),(.lit (.int .i64 a.a),[]),(.lit (.int .i64 a.b),[]),(.lit (.int .i64 a.c),[]),(.lit (.string a.s),[]),(.lit (.string a.t),[])]) Tryz.underlying29 (by rw[Aeq];rfl) (by simp[Ei.cells,Aph,Apo,p,j,g,f,l,q]);exact⟨_,this⟩
end
theorem Ark {W b:World}(hb:Bw W b){a:Addr}(ha:a.block<W.heap.size)(n:Nat):b.cells? 0 a n=W.cells? 0 a n:=by unfold World.cells?;have h:(fun i=>b.cell? (a.add i))=fun i=>W.cell? (a.add i):=funext fun i=>hb.cell (p:=a.add i) (by unfold Addr.add;split<;>exact ha);rw[h]
theorem At2 {H:Type}{enc:TypeId×Value->H}{W:World}{L:Nat}{v:Value}{d:DataW H}{p:List MemPlace}(G:DataW.trod enc Tryz.prog W 0 (fun _=>true) true L 22 [v]=some (d,p)):
  ∃os,Wv W v os/\∀l,Bw W l->DataW.Trod enc Tryz.prog l 0 (fun b=>decide (b<W.heap.size)) true 22 v d p:=by
 rcases open_slice Tryz.underlying22 G with⟨q,o⟩|⟨a,len,cap,m,n,D,r,q,_,V,C,z,o,A⟩
 ·simp only[List.cons.injEq,and_true]at q;subst q;simp only[Prod.mk.injEq]at o;obtain⟨rfl,rfl⟩:=o;exact⟨[],⟨none,0,rfl,Cu _,fun i k h=>(by cases h)⟩,fun l _=>shut_slice_nil Tryz.underlying22⟩
 ·simp only[List.cons.injEq,and_true]at q;subst q;simp only[Prod.mk.injEq]at o;have M:=o.1;have T:=o.2;clear o;subst M T;simp only[if_true]at z;subst z;rw[Aeq]at A;haveI:Inhabited Ei:=⟨⟨0,0,0,0,[],[]⟩⟩
  obtain⟨O,s⟩:=choose_lt (α:=Ei) (p:=fun i k=>W.cells? 0 (a.add (i*6)) 6=some k.cells/\(D i,r i)=(opD k,[])/\Ahd k) (fun i c=>by
   obtain⟨cs',h1,h2⟩:=A i c;obtain⟨k,rfl,f,P⟩:=Auz h2
   exact⟨k,h1,f,P⟩)
  refine⟨(List.range len).map O,⟨some a,m,by simp,by simp;omega,fun i k c=>?_⟩,fun l hb=>?_⟩
  ·have U:i<len:=by simpa using(Ds.1 c).1
   have R:k=O i:=by rw[Fq,List.getElem?_range U]at c;simpa using c.symm
   subst R;obtain⟨h1,-,f⟩:=s i (by omega)
   have t:a.block<W.heap.size:=by
    have:=World.cells?_block h1 (by decide);have e:(a.add (i*6)).block=a.block:=by unfold Addr.add;split<;>rfl
    rwa [e]at this
   have F:a.spot=none:=by
    obtain⟨h0,-,-⟩:=s 0 (by omega);have:=(World.cells?_some h0).2.2 0 (by decide);have e:(a.add (0*6)).add 0=a:=by simp[Addr.add]
    rw[e]at this;exact World.cell?_spot this
   obtain⟨g,K,X⟩:=a;dsimp only at F t;subst F;refine⟨bounds_i64 f.a,bounds_i64 f.b,f.s,f.t,g,K,rfl,t,fun j u E=>?_⟩;have S:j<6:=by simpa [Ei.cells]using(Ds.1 E).1
   have:=(World.cells?_some h1).2.2 j S;rw[add_add,add_plain,E]at this;rw[Nat.add_assoc];exact this
  ·have N:∀(x:Nat->Bool) i,i<m->∃cs n,l.cells? 0 (a.add (i*Tryz.prog.cellsOf 29)) (Tryz.prog.cellsOf 29)=some cs/\DataW.trod enc Tryz.prog l 0 x true n 29 cs=some (D i,r i):=fun x i c=>by
    obtain⟨h1,h2,f⟩:=s i c;have t:(a.add (i*6)).block<W.heap.size:=World.cells?_block h1 (by decide);obtain⟨n,J⟩:=A11 (enc:=enc) (w:=l) (base:=0) (spare:=x) (held:=true) f;rw[Aeq];exact⟨_,n,by rw[Ark hb t];exact h1,by rw[h2];exact J⟩
   cases y:decide (a.block<W.heap.size)with
   |true=>exact shut_slice_whole Tryz.underlying22 (Cu _) V C y D r (N _)
   |false=>
    have Q:m=0:=by
     rcases Nat.eq_zero_or_pos m with h|h
     ·exact h
     ·exfalso;obtain⟨h0,-,-⟩:=s 0 h;have:=World.cells?_block h0 (by decide);have e:(a.add (0*6)).block=a.block:=by simp[Addr.add]
      rw[e]at this;simp at y;omega
    subst Q;have I:len=0:=by omega
    subst I;have:=shut_slice (enc:=enc) (w:=l) (base:=0) (held:=true) (spare:=fun b=>decide (b<W.heap.size)) (a:=a) (len:=0) (cap:=0) Tryz.underlying22 (Cu _) (Ak _) C y D r (fun i c=>absurd c (Nat.not_lt_zero _));simpa using this
theorem Arh (H:Type)(enc:TypeId×Value->H)(W:World)(base:Nat)(a:Array Value)(l C:List (DataW H))(A:List MemPlace)
  (b:∀(j:Nat) t v,Tryz.f3.params[j]?=some t->a[j]?=some v->Value.okWide Tryz.prog W .any base t v)
  (f:DataW.Whole enc Tryz.prog Tryz.f3.params.toList Rows.mapSpec.vars false W a.toList l C A) (g:laidMetH Tryz.prog Rows.mapRow.laid W):
  Cl 3 a W fun e d=>∃v,e=.returned v/\Rows.mapSpec.post enc Tryz.prog Tryz.f3 false true false false W a v d:=by
 have y:=f;obtain⟨p,q,k,D,rfl,J,I⟩:=f;have c:DataW.TrodAll enc Tryz.prog W 0 (fun _=>true) true Tryz.f3.params.toList a.toList l p:=k;rw[Tryz.params3]at c b;obtain⟨s,E,rfl,rfl,h0⟩:=trodAll_one c;obtain⟨rfl,rfl⟩:=trodVars_none D;obtain⟨L,len,cap,rfl⟩:=okWide_slice Tryz.underlying22 (b 0 22 s rfl rfl);obtain⟨G,n⟩:=h0;clear k c b;obtain⟨os,m,u⟩:=At2 (by simpa [Value.cells]using n);have hk:=Avg g;have h0:=Au4 g;refine(Ax7 _ os W m (fun w1 hb=>⟨_,A3d w1 os (hk.below hb hk.lt) (h0.below hb h0.lt) (fun z w=>?_)⟩)).mono fun e d ⟨r,bel⟩=>?_
 ·obtain⟨F,K,_,_,x⟩:=m;obtain⟨i,o⟩:=List.mem_iff_getElem?.1 w;exact(x i z o).1
 ·subst r;exact⟨_,rfl,_,_,_,[],_,[],y,trodAll_mk1 (shut_bool Tryz.underlying4 _),trodAll_mk1 (u d bel),rfl,bel.frame _,fun h=>by cases h⟩
def Ajm (xs:List Nat):Obj->Obj
 | .cells _ t frozen=>.cells (Aj .u32 xs).toArray t frozen
 |o=>o
def Ae8 (W:World):World:=
 {W with a:=(W.heap.modify 0 (Ajm Jv)).modify 1 (Ajm Gk)}
theorem A2s (os:Os):laidMet Tryz.prog Rows.mapRow.laid ((Ae8 (World.holding Tryz.prog os ⟨#[],#[],[]⟩)).forCall (fun _ _=>0) ⟨#[],#[.slice none 0 0],[]⟩).memory:=
 laidMet_of_run' 8 (by kernel_rfl) (by kernel_rfl)
theorem Aux (os:Os){H:Type}(enc:TypeId×Value->H):∃a,DataW.whole enc Tryz.prog ((Ae8 (World.holding Tryz.prog os ⟨#[],#[],[]⟩)).forCall (fun _ _=>0) ⟨#[],#[.slice none 0 0],[]⟩).memory Tryz.f3.params.toList Rows.mapSpec.vars false #[Value.slice none 0 0].toList 8=some ([.nil],[],a):=
 ⟨[],by kernel_rfl⟩
theorem A1k (os:Os)(e:os.Started)(H:Type)(enc:TypeId×Value->H)(b:Stop.Interp):
  ReturnsInHanded {} Tryz.checked os 3 .any ((OpenSpec.ofChange Rows.mapSpec).preRow enc Tryz.prog Tryz.f3 Rows.mapRow.domain false Rows.mapRow.laid) (((OpenSpec.ofChange Rows.mapSpec).at b).post enc Tryz.prog Tryz.f3 false true false false):=by
 obtain⟨l,g⟩:=Aux os enc
 refine returnsInHanded_of_row (C:=Tryz.checked) (s:=OpenSpec.ofChange Rows.mapSpec) own e (by kernel_rfl) Tryz.func3
  (witness_row_at (enc:=enc) (C:=Tryz.checked) false (Ae8 (World.holding Tryz.prog os ⟨#[],#[],[]⟩)) #[.slice none 0 0] rfl (by kernel_rfl) (by kernel_rfl) (by kernel_rfl)
   (OpenSpec.preRow_of_cond 8 g (by kernel_rfl) (fun k hk=>by cases hk) (by kernel_rfl) (A2s os))) ?_
 intro W base a d j f i c _ _ _ h _ _;exact Arh H enc W base a d j f i c h
theorem said:Rows.MapSaid:=
 OpenClaim.holds_of_cond 3 Tryz.f3 rfl rfl rfl rfl rfl rfl rfl ⟨rfl,rfl,rfl,rfl,rfl⟩ rfl rfl rfl rfl rfl (by kernel_rfl) Tryz.func3 (by kernel_rfl)
  (of_decide_eq_true (by kernel_rfl)) (by unfold Func.isWrapper;first|(rw[if_pos (by decide+kernel)];kernel_rfl)|(rw[if_neg (by decide+kernel)];exact⟨rfl,rfl⟩))
  (fun os b H enc _ a=>by rw[OpenClaim.pre_eq_preRow];exact A1k os b H enc a)
theorem plain (f:FuncId)(a:Func)(c:Tryz.pinned.checked.prog.funcNamed "keystore/keystorekeep.Map" =some f)(g:Tryz.pinned.checked.prog.funcs[f]?=some a):
  false=Tryz.pinned.checked.prog.looks []/\∀(j:Nat) t,a.params[j]?=some t->Tryz.pinned.checked.prog.wantsStandIn t=false:=by
 obtain rfl:f=3:=Option.some.inj ((show Tryz.prog.funcNamed "keystore/keystorekeep.Map" =some 3 by kernel_rfl).symm.trans c)|>.symm;obtain rfl:a=Tryz.f3:=(Option.some.inj (Tryz.func3.symm.trans g)).symm;refine⟨by kernel_rfl,fun j t b=>?_⟩;rw[Tryz.params3]at b;have d:t∈[22]:=by simpa using Array.mem_of_getElem? b
 have e:([22].all fun u=> !Tryz.prog.wantsStandIn u)=true:=by kernel_rfl
 exact(show Tryz.prog.wantsStandIn t=false by simpa using Ya.1 e t d)
end Go.Proofs.YtojgilcdgccojaaGreatDoor.mapc
namespace Go.Proofs.YtojgilcdgccojaaGreatDoor
theorem map_card:Rows.MapCardSaid:=
 Claim7.holds_tied_plain_at .later [] _ _ _ _ mapc.said (fun _ h=>by cases h) (by kernel_rfl) (fun _ h=>by cases h) map_row_tie rfl ⟨rfl,rfl⟩ (by kernel_rfl) rfl mapc.plain (by kernel_rfl)
#print axioms map_card
end Go.Proofs.YtojgilcdgccojaaGreatDoor
