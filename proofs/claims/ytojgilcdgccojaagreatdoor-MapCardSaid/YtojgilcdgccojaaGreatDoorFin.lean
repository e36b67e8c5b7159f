import Derived.ChangeOld
import Derived.ChangeSame
import Derived.Deep.DeepHandedRow
import Derived.Deep.Slices
import Derived.Lib.LaidTab
import Derived.OpenShut
import Derived.ProofKit
import Derived.ShutString
import Derived.Test.YtojgilcdgccojaaGreatDoorCards
import Derived.Test.YtojgilcdgccojaaGreatDoorTie
import Derived.Test.YtojgilcdgccojaaGreatDoorAl
import Derived.Test.YtojgilcdgccojaaGreatDoorMAx
set_option linter.unusedSimpArgs false
set_option maxRecDepth 100000
set_option maxHeartbeats 8000000
namespace Go.Proofs.YtojgilcdgccojaaGreatDoor.mapc
open Go.ChangeShapes Go.WideShapes Go.ChangeAt Go.RowKit Go.Deep
theorem own:ownKnob Tryz.prog.godebug=none:=by kernel_rfl
theorem Ai4:Tryz.prog.globalNamed "keystore/sha.startWords" =some 0:=by kernel_rfl
theorem Ajy:Tryz.prog.globalNamed "keystore/sha.stepWords" =some 1:=by kernel_rfl
theorem Atp:(Tryz.prog.globals[0]?).map (·.type)=some 147:=by kernel_rfl
theorem Awy:(Tryz.prog.globals[1]?).map (·.type)=some 178:=by kernel_rfl
theorem Arf:Tryz.prog.cellsOf 147=8:=by kernel_rfl
theorem Awl:Tryz.prog.cellsOf 178=64:=by kernel_rfl
theorem Ak5:Tryz.prog.cellsOf 146=1:=by kernel_rfl
theorem Aph:Tryz.prog.cellsOf 3=1:=by kernel_rfl
theorem Apo:Tryz.prog.cellsOf 9=1:=by kernel_rfl
theorem Aeq:Tryz.prog.cellsOf 29=6:=by kernel_rfl
theorem Ar0 {P:Program}{W:World}{x:String×DataW Unit}{name:String}{k:IntKind}{zs:List Int}{rest:List (String×DataW Unit)}{g:Nat}{t e:TypeId}{n:Nat}
  (hg:P.globalNamed name=some g) (hty:(P.globals[g]?).map (·.type)=some t) (ht:P.underlying t=some (.array n e)) (he:P.underlying e=some (.int k)) (hce:P.cellsOf e=1) (hct:P.cellsOf t=n)
  (h:laidMet P (x::(name,Lib.tabData k zs)::rest) W):Lib.TabIs P W name k zs:=by
 obtain⟨ps,⟨g0,t0,cs0,f0,p0,q0,_,_,_,_,⟨g',t',cs,fuel,p,q,hg',ht',hvar,hd,_,_⟩,_⟩,_⟩:=h;obtain rfl:=Option.some.inj (hg.symm.trans hg');obtain rfl:=Option.some.inj (hty.symm.trans ht');unfold Lib.TabIs;rw[hvar,<-Lib.cells_of_tab ht he hce hct hd]
theorem Aox {P:Program}{W:World}{name:String}{k:IntKind}{xs:List Nat}{g:Nat}(h:Lib.TabIs P W name k (xs.map fun n:Nat=>(n:Int)))(hg:P.globalNamed name=some g)(hp:0<xs.length):Br W g k xs:=by
 have hc:∀i,i<xs.length->W.cell? ⟨g,i,none⟩=some (.int k ((xs.getD i 0:Nat):Int)):=fun i hi=>by rw[h.cell hg i (by simpa using hi)];simp[Az hi]
 exact⟨Ab8 W ⟨g,0,none⟩ (hc 0 hp),hc⟩
theorem Au4 {W:World}(h:laidMetH Tryz.prog Rows.mapRow.laid W):Br W 0 .u32 Jv:=
 Aox (Lib.tabIs_of_head (k:=.u32) (zs:=Jv.map fun n:Nat=>(n:Int)) (rest:=[("keystore/sha.stepWords",Rows.laid_keystore_sha_stepWords)]) Ai4 Atp Tryz.underlying147 Tryz.underlying146 Ak5 Arf h) Ai4 (by decide)
theorem Avg {W:World}(h:laidMetH Tryz.prog Rows.mapRow.laid W):Br W 1 .u32 Gk:=
 Aox (Ar0 (k:=.u32) (zs:=Gk.map fun n:Nat=>(n:Int)) (rest:=[]) (x:=("keystore/sha.startWords",Rows.laid_keystore_sha_startWords)) Ajy Awy Tryz.underlying178 Tryz.underlying146 Ak5 Awl h) Ajy (by decide)
section
variable {H:Type}{enc:TypeId×Value->H}{w:World}{base:Nat}{spare:Nat->Bool}{held:Bool}
def opD (o:Ei):DataW H:=.agg [.lit (.int .i64 o.k),.lit (.int .i64 o.a),.lit (.int .i64 o.b),.lit (.int .i64 o.c),.lit (.string o.s),.lit (.string o.t)]
structure Ahd (o:Ei):Prop where
 k:(Lit.int .i64 o.k).wf=true
 a:(Lit.int .i64 o.a).wf=true
 b:(Lit.int .i64 o.b).wf=true
 c:(Lit.int .i64 o.c).wf=true
 s:o.s.length<=maxLen
 t:o.t.length<=maxLen
theorem Ai2 {α:Type}{l:List α}(h:l.length=6):∃a b c d e f,l=[a,b,c,d,e,f]:=by
 match l,h with
 | [a,b,c,d,e,f],_=>exact⟨a,b,c,d,e,f,rfl⟩
theorem Auz {n:Nat}{cs:List Value}{x:DataW H×List MemPlace}(h:DataW.trod enc Tryz.prog w base spare held n 29 cs=some x):∃o:Ei,cs=o.cells/\x=(opD o,[])/\Ahd o:=by obtain⟨xs,m,rfl,hx,hlen,hxl,hf⟩:=DataW.trod_struct Tryz.underlying29 h;rw[Aeq]at hlen;obtain⟨c0,c1,c2,c3,c4,c5,rfl⟩:=Ai2 hlen;obtain⟨y0,y1,y2,y3,y4,y5,rfl⟩:=Ai2 hxl;have g0:=hf 0 _ rfl;have g1:=hf 1 _ rfl;have g2:=hf 2 _ rfl;have g3:=hf 3 _ rfl;have g4:=hf 4 _ rfl;have g5:=hf 5 _ rfl;simp[Aph,Apo]at g0 g1 g2 g3 g4 g5;obtain⟨k0,e0,f0,w0⟩:=DataW.trod_int Tryz.underlying3 g0;obtain⟨k1,e1,f1,w1⟩:=DataW.trod_int Tryz.underlying3 g1;obtain⟨k2,e2,f2,w2⟩:=DataW.trod_int Tryz.underlying3 g2;obtain⟨k3,e3,f3,w3⟩:=DataW.trod_int Tryz.underlying3 g3;obtain⟨s4,e4,f4,w4⟩:=DataW.trod_string Tryz.underlying9 g4;obtain⟨s5,e5,f5,w5⟩:=DataW.trod_string Tryz.underlying9 g5;simp only[List.cons.injEq,and_true]at e0 e1 e2 e3 e4 e5;subst e0 e1 e2 e3 e4 e5 f0 f1 f2 f3 f4 f5;exact⟨⟨k0,k1,k2,k3,s4.data.toList,s5.data.toList⟩,by simp[Ei.cells,Ac],by rw[hx];rfl,⟨w0,w1,w2,w3,w4,w5⟩⟩
theorem A11 {o:Ei}(h:Ahd o):∃n,DataW.trod enc Tryz.prog w base spare held n 29 o.cells=some (opD o,[]):=by
 have hi:∀k:Int,(Lit.int .i64 k).wf=true->∃n,DataW.trod enc Tryz.prog w base spare held n 3 [.int .i64 k]=some (.lit (.int .i64 k),[]):=fun k hk=>by obtain⟨n,hn⟩:=shut_int (enc:=enc) (w:=w) (base:=base) (spare:=spare) (held:=held) Tryz.underlying3 hk;exact⟨n,by simpa [Value.cells]using hn⟩
 have hs:∀s:By,s.length<=maxLen->∃n,DataW.trod enc Tryz.prog w base spare held n 9 [Ac s]=some (.lit (.string s),[]):=fun s hs=>by obtain⟨n,hn⟩:=shut_string_cell (enc:=enc) (w:=w) (base:=base) (spare:=spare) (held:=held) Tryz.underlying9 (s:=⟨s.toArray⟩) hs;exact⟨n,by simpa [Ac]using hn⟩
 obtain⟨n0,h0⟩:=hi o.k h.k;obtain⟨n1,h1⟩:=hi o.a h.a;obtain⟨n2,h2⟩:=hi o.b h.b;obtain⟨n3,h3⟩:=hi o.c h.c;obtain⟨n4,h4⟩:=hs o.s h.s;obtain⟨n5,h5⟩:=hs o.t h.t;have h0':=DataW.trod_le (show n0<=n0+n1+n2+n3+n4+n5 by omega) h0;have h1':=DataW.trod_le (show n1<=n0+n1+n2+n3+n4+n5 by omega) h1;have h2':=DataW.trod_le (show n2<=n0+n1+n2+n3+n4+n5 by omega) h2;have h3':=DataW.trod_le (show n3<=n0+n1+n2+n3+n4+n5 by omega) h3;have h4':=DataW.trod_le (show n4<=n0+n1+n2+n3+n4+n5 by omega) h4;have h5':=DataW.trod_le (show n5<=n0+n1+n2+n3+n4+n5 by omega) h5;have:=trod_struct_mk (enc:=enc) (w:=w) (base:=base) (spare:=spare) (held:=held) (n:=n0+n1+n2+n3+n4+n5) (cs:=o.cells) (xs:=[(.lit (.int .i64 o.k),[]),(.lit (.int .i64 o.a),[]),(.lit (.int .i64 o.b),[]),(.lit (.int .i64 o.c),[]),(.lit (.string o.s),[]),(.lit (.string o.t),[])]) Tryz.underlying29 (by rw[Aeq];rfl) (by simp[Ei.cells,Aph,Apo,h0',h1',h2',h3',h4',h5']);exact⟨_,this⟩
end
theorem Ark {W W':World}(hb:Bw W W'){a:Addr}(ha:a.block<W.heap.size)(n:Nat):W'.cells? 0 a n=W.cells? 0 a n:=by unfold World.cells?;have h:(fun i=>W'.cell? (a.add i))=fun i=>W.cell? (a.add i):=funext fun i=>hb.cell (p:=a.add i) (by unfold Addr.add;split<;>exact ha);rw[h]
theorem At2 {H:Type}{enc:TypeId×Value->H}{W:World}{fuel:Nat}{v:Value}{d:DataW H}{p:List MemPlace}(hf:DataW.trod enc Tryz.prog W 0 (fun _=>true) true fuel 22 [v]=some (d,p)):
  ∃os,Wv W v os/\∀W',Bw W W'->DataW.Trod enc Tryz.prog W' 0 (fun b=>decide (b<W.heap.size)) true 22 v d p:=by
 rcases open_slice Tryz.underlying22 hf with⟨hcs,hx⟩|⟨a,len,cap,m,n,D,Pl,hcs,_,hl,hm,hmm,hx,hcell⟩
 ·simp only[List.cons.injEq,and_true]at hcs;subst hcs;simp only[Prod.mk.injEq]at hx;obtain⟨rfl,rfl⟩:=hx;exact⟨[],⟨none,0,rfl,Cu _,fun i o h=>(by cases h)⟩,fun W' _=>shut_slice_nil Tryz.underlying22⟩
 ·simp only[List.cons.injEq,and_true]at hcs;subst hcs;simp only[Prod.mk.injEq]at hx;have hx1:=hx.1;have hx2:=hx.2;clear hx;subst hx1 hx2;simp only[if_true]at hmm;subst hmm;rw[Aeq]at hcell;haveI:Inhabited Ei:=⟨⟨0,0,0,0,[],[]⟩⟩
  obtain⟨O,hO⟩:=choose_lt (α:=Ei) (p:=fun i o=>W.cells? 0 (a.add (i*6)) 6=some o.cells/\(D i,Pl i)=(opD o,[])/\Ahd o) (fun i hi=>by
   obtain⟨cs',h1,h2⟩:=hcell i hi;obtain⟨o,rfl,h3,h4⟩:=Auz h2
   exact⟨o,h1,h3,h4⟩)
  refine⟨(List.range len).map O,⟨some a,m,by simp,by simp;omega,fun i o hi=>?_⟩,fun W' hb=>?_⟩
  ·have hil:i<len:=by simpa using(Ds.1 hi).1
   have ho:o=O i:=by rw[Fq,List.getElem?_range hil]at hi;simpa using hi.symm
   subst ho;obtain⟨h1,-,h3⟩:=hO i (by omega)
   have hblk:a.block<W.heap.size:=by
    have:=World.cells?_block h1 (by decide);have e:(a.add (i*6)).block=a.block:=by unfold Addr.add;split<;>rfl
    rwa [e]at this
   have hspot:a.spot=none:=by
    obtain⟨h0,-,-⟩:=hO 0 (by omega);have:=(World.cells?_some h0).2.2 0 (by decide);have e:(a.add (0*6)).add 0=a:=by simp[Addr.add]
    rw[e]at this;exact World.cell?_spot this
   obtain⟨g,off,spot⟩:=a;dsimp only at hspot hblk;subst hspot;refine⟨bounds_i64 h3.a,bounds_i64 h3.b,h3.s,h3.t,g,off,rfl,hblk,fun j u hu=>?_⟩;have hj:j<6:=by simpa [Ei.cells]using(Ds.1 hu).1
   have:=(World.cells?_some h1).2.2 j hj;rw[add_add,add_plain,hu]at this;rw[Nat.add_assoc];exact this
  ·have hxx:∀(sp:Nat->Bool) i,i<m->∃cs n,W'.cells? 0 (a.add (i*Tryz.prog.cellsOf 29)) (Tryz.prog.cellsOf 29)=some cs/\DataW.trod enc Tryz.prog W' 0 sp true n 29 cs=some (D i,Pl i):=fun sp i hi=>by
    obtain⟨h1,h2,h3⟩:=hO i hi;have hblk:(a.add (i*6)).block<W.heap.size:=World.cells?_block h1 (by decide);obtain⟨n,hn⟩:=A11 (enc:=enc) (w:=W') (base:=0) (spare:=sp) (held:=true) h3;rw[Aeq];exact⟨_,n,by rw[Ark hb hblk];exact h1,by rw[h2];exact hn⟩
   cases hsp:decide (a.block<W.heap.size)with
   |true=>exact shut_slice_whole Tryz.underlying22 (Cu _) hl hm hsp D Pl (hxx _)
   |false=>
    have hm0:m=0:=by
     rcases Nat.eq_zero_or_pos m with h|h
     ·exact h
     ·exfalso;obtain⟨h0,-,-⟩:=hO 0 h;have:=World.cells?_block h0 (by decide);have e:(a.add (0*6)).block=a.block:=by simp[Addr.add]
      rw[e]at this;simp at hsp;omega
    subst hm0;have hl0:len=0:=by omega
    subst hl0;have:=shut_slice (enc:=enc) (w:=W') (base:=0) (held:=true) (spare:=fun b=>decide (b<W.heap.size)) (a:=a) (len:=0) (cap:=0) Tryz.underlying22 (Cu _) (Ak _) hm hsp D Pl (fun i hi=>absurd hi (Nat.not_lt_zero _));simpa using this
theorem Arh (H:Type)(enc:TypeId×Value->H)(W:World)(base:Nat)(args:Array Value)(ds gs:List (DataW H))(before:List MemPlace)
  (hval:∀(j:Nat) t v,Tryz.f3.params[j]?=some t->args[j]?=some v->Value.okWide Tryz.prog W .any base t v)
  (hW:DataW.Whole enc Tryz.prog Tryz.f3.params.toList Rows.mapSpec.vars false W args.toList ds gs before) (hL:laidMetH Tryz.prog Rows.mapRow.laid W):
  Cl 3 args W fun e W'=>∃v,e=.returned v/\Rows.mapSpec.post enc Tryz.prog Tryz.f3 false true false false W args v W':=by
 have hW':=hW;obtain⟨p,q,hA0,hV,rfl,hfz,hnd⟩:=hW;have hA:DataW.TrodAll enc Tryz.prog W 0 (fun _=>true) true Tryz.f3.params.toList args.toList ds p:=hA0;rw[Tryz.params3]at hA hval;obtain⟨v0,d0,rfl,rfl,h0⟩:=trodAll_one hA;obtain⟨rfl,rfl⟩:=trodVars_none hV;obtain⟨a0,len,cap,rfl⟩:=okWide_slice Tryz.underlying22 (hval 0 22 v0 rfl rfl);obtain⟨fuel,hf⟩:=h0;clear hA0 hA hval;obtain⟨os,hs,hag⟩:=At2 (by simpa [Value.cells]using hf);have hk:=Avg hL;have h0:=Au4 hL;refine(Ax7 _ os W hs (fun w1 hb=>⟨_,A3d w1 os (hk.below hb hk.lt) (h0.below hb h0.lt) (fun o ho=>?_)⟩)).mono fun e W' ⟨he,bel⟩=>?_
 ·obtain⟨ad,cp,_,_,hel⟩:=hs;obtain⟨i,hi⟩:=List.mem_iff_getElem?.1 ho;exact(hel i o hi).1
 ·subst he;exact⟨_,rfl,_,_,_,[],_,[],hW',trodAll_mk1 (shut_bool Tryz.underlying4 _),trodAll_mk1 (hag W' bel),rfl,bel.frame _,fun h=>by cases h⟩
def Ajm (xs:List Nat):Obj->Obj
 | .cells _ t frozen=>.cells (Aj .u32 xs).toArray t frozen
 |o=>o
def Ae8 (W:World):World:=
 {W with heap:=(W.heap.modify 0 (Ajm Jv)).modify 1 (Ajm Gk)}
theorem A2s (os:Os):laidMet Tryz.prog Rows.mapRow.laid ((Ae8 (World.holding Tryz.prog os ⟨#[],#[],[]⟩)).forCall (fun _ _=>0) ⟨#[],#[.slice none 0 0],[]⟩).memory:=
 laidMet_of_run' 8 (by kernel_rfl) (by kernel_rfl)
theorem Aux (os:Os){H:Type}(enc:TypeId×Value->H):∃places,DataW.whole enc Tryz.prog ((Ae8 (World.holding Tryz.prog os ⟨#[],#[],[]⟩)).forCall (fun _ _=>0) ⟨#[],#[.slice none 0 0],[]⟩).memory Tryz.f3.params.toList Rows.mapSpec.vars false #[Value.slice none 0 0].toList 8=some ([.nil],[],places):=
 ⟨[],by kernel_rfl⟩
theorem A1k (os:Os)(started:os.Started)(H:Type)(enc:TypeId×Value->H)(F:Stop.Interp):
  ReturnsInHanded {} Tryz.checked os 3 .any ((OpenSpec.ofChange Rows.mapSpec).preRow enc Tryz.prog Tryz.f3 Rows.mapRow.domain false Rows.mapRow.laid) (((OpenSpec.ofChange Rows.mapSpec).at F).post enc Tryz.prog Tryz.f3 false true false false):=by
 obtain⟨places,hx⟩:=Aux os enc
 refine returnsInHanded_of_row (C:=Tryz.checked) (s:=OpenSpec.ofChange Rows.mapSpec) own started (by kernel_rfl) Tryz.func3
  (witness_row_at (enc:=enc) (C:=Tryz.checked) false (Ae8 (World.holding Tryz.prog os ⟨#[],#[],[]⟩)) #[.slice none 0 0] rfl (by kernel_rfl) (by kernel_rfl) (by kernel_rfl)
   (OpenSpec.preRow_of_cond 8 hx (by kernel_rfl) (fun k hk=>by cases hk) (by kernel_rfl) (A2s os))) ?_
 intro W base args ds gs before hval hW _ _ _ hL _ _;exact Arh H enc W base args ds gs before hval hW hL
theorem said:Rows.MapSaid:=
 OpenClaim.holds_of_cond 3 Tryz.f3 rfl rfl rfl rfl rfl rfl rfl ⟨rfl,rfl,rfl,rfl,rfl⟩ rfl rfl rfl rfl rfl (by kernel_rfl) Tryz.func3 (by kernel_rfl)
  (of_decide_eq_true (by kernel_rfl)) (by unfold Func.isWrapper;first|(rw[if_pos (by decide+kernel)];kernel_rfl)|(rw[if_neg (by decide+kernel)];exact⟨rfl,rfl⟩))
  (fun os started H enc _ F=>by rw[OpenClaim.pre_eq_preRow];exact A1k os started H enc F)
theorem plain (f:FuncId)(fn:Func)(hf:Tryz.pinned.checked.prog.funcNamed "keystore/keystorekeep.Map" =some f)(hfn:Tryz.pinned.checked.prog.funcs[f]?=some fn):
  false=Tryz.pinned.checked.prog.looks []/\∀(j:Nat) t,fn.params[j]?=some t->Tryz.pinned.checked.prog.wantsStandIn t=false:=by
 obtain rfl:f=3:=Option.some.inj ((show Tryz.prog.funcNamed "keystore/keystorekeep.Map" =some 3 by kernel_rfl).symm.trans hf)|>.symm;obtain rfl:fn=Tryz.f3:=(Option.some.inj (Tryz.func3.symm.trans hfn)).symm;refine⟨by kernel_rfl,fun j t ht=>?_⟩;rw[Tryz.params3]at ht;have hm:t∈[22]:=by simpa using Array.mem_of_getElem? ht
 have hall:([22].all fun u=> !Tryz.prog.wantsStandIn u)=true:=by kernel_rfl
 exact(show Tryz.prog.wantsStandIn t=false by simpa using Ya.1 hall t hm)
end Go.Proofs.YtojgilcdgccojaaGreatDoor.mapc
namespace Go.Proofs.YtojgilcdgccojaaGreatDoor
theorem map_card:Rows.MapCardSaid:=
 Claim7.holds_tied_plain_at .later [] _ _ _ _ mapc.said (fun _ h=>by cases h) (by kernel_rfl) (fun _ h=>by cases h) map_row_tie rfl ⟨rfl,rfl⟩ (by kernel_rfl) rfl mapc.plain (by kernel_rfl)
#print axioms map_card
end Go.Proofs.YtojgilcdgccojaaGreatDoor
