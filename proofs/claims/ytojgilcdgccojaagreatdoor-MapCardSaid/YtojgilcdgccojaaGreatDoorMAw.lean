import Derived.Laws.Cover3
import Derived.Test.YtojgilcdgccojaaGreatDoorAl
import Derived.Test.YtojgilcdgccojaaGreatDoorMAv
set_option linter.unusedSimpArgs false
set_option maxRecDepth 100000
set_option maxHeartbeats 8000000
namespace Go.Proofs.YtojgilcdgccojaaGreatDoor
open Go.RowKit
theorem Aun (w:World):(binOp .eql 68 (.slice none 0 0) (.slice none 0 0)).run Tryz.prog w=.ok (.bool true) w:=by have h:=run_equal_slice_nil w 68 78 none 0 0 Tryz.underlying68;simp[binOp,h]
section
variable {bW d b:Nat}{l:LS}{lv:Value}{may:Option (By×PL)}{ops:List Ag}{w:World}
theorem Ay2 (lo i:By)(h:Bi w bW d b l lv may ops)(c:l.opened=false)(a:Cl 33 #[.pointer (some ⟨b,0,none⟩),.string ⟨lo.toArray⟩,.string ⟨i.toArray⟩] w fun e w'=>e=.returned (.tuple #[.slice none 0 0,.int .i64 3])/\w'=w):
  Cl 15 #[.pointer (some ⟨bW,0,none⟩),.string ⟨lo.toArray⟩,.string ⟨i.toArray⟩] w fun e w'=>e=.returned (.bool true)/\w'=w:=by
 have c1:w.cell? ⟨bW,1,none⟩=some (.pointer (some ⟨b,0,none⟩)):=h.at_.c 1;have c3:w.cell? ⟨bW,3,none⟩=some (.bool false):=by rw[<-c];exact h.at_.c 3
 have g:=Aa a;have j:=Aun;clear h c a;go_enter Tryz.func15,Tryz.ntmps15;go_wp2_with fail;refine g.o.mono ?_;rintro e w1 ⟨rfl,f⟩;rw[f];clear f w1 g;go_wp2_with fail;go_ret;exact⟨rfl,rfl⟩
theorem Ar5 (lo c:By)(h:Bi w bW d b l lv may ops)(ae:l.opened=true)(T:Cl 33 #[.pointer (some ⟨b,0,none⟩),.string ⟨lo.toArray⟩,.string ⟨c.toArray⟩] w fun e w'=>∃sv,e=.returned (.tuple #[sv,.int .i64 0])/\Do w' sv (Bk lo c (ops.foldl Ca (Ic may)))/\(∀j,sv.ownBlock=some j->w.heap.size<=j)/\Bw w w')
  (ha:Ba (Ic may)) (aj:(Ic may).length<=1000) (az:ops.length<=1000):
  Cl 15 #[.pointer (some ⟨bW,0,none⟩),.string ⟨lo.toArray⟩,.string ⟨c.toArray⟩] w fun e w'=>e=.returned (.bool true)/\Bw w w':=by
 have c1:w.cell? ⟨bW,1,none⟩=some (.pointer (some ⟨b,0,none⟩)):=h.at_.c 1;have aa:=Aci ops (Ic may);have a2:=Aa (fun w' (hb:Bw w w')=>Ab (h.below hb) (Ahs bW d b l lv may ops w' (h.below hb) ha aj az));have ak:∀w',Bw w w'->w'.cell? ⟨bW,3,none⟩=some (.bool true):=fun w' hb=>by rw[<-ae];exact(h.below hb).at_.c 3
 have bb:=Aa ak;obtain⟨a,U⟩:=nmd (ops.foldl Ca (Ic may));rw[U]at T aa;have a4:=Aa U;have ap:=Aa T;have a7:a.length<=2000:=by omega
 clear h ae T U ha aj az aa ak;go_enter Tryz.func15,Tryz.ntmps15;go_wp2_with fail;refine ap.o.mono ?_;rintro e w1 ⟨sv,rfl,W,_,Q⟩;obtain⟨a6,sc,a3⟩:=Aao W;subst a3;obtain⟨aq,I⟩:=nmd ((Bk lo c a).length);rw[I];obtain⟨h1,ax⟩:=a2.o w1 Q;have bc:=bb.o w1 Q;have ai:=Aa (Afm bW d b l 0 w1 h1.at_);have ah:=Aa ax;have K:=Aa (Ab Q (Ab W I));clear h1 ax Q ap W I;go_wp2_with fail;refine ai.o.mono ?_;rintro r w2 ⟨rfl,a0⟩;rw[a0];clear a0 w2 ai;go_wp2_with fail;refine ah.o.mono ?_;rintro r w2 ⟨bg,rfl,L,_,R⟩;rw[a4.o]at L;obtain⟨la,bh,a5⟩:=Aao L;subst a5;have ao:=Aa (Aj1 bW 0 w2 (by decide));have ay:=K.o.1.trans (R.mono K.o.1.size);have C:=K.o.2.1.below R;rw[K.o.2.2]at C;have G:=Aa (Ab L (Ab C ay));clear L R ay C ah bc K;obtain⟨N,Y⟩:=nmd (a.length);have X:=Aa Y;rw[Y]at a7⊢;go_wp2_with fail;refine ao.o.mono ?_;rintro r P ⟨rfl,ag⟩;rw[ag];clear ag P ao;have bj:(N:Int)<=2000:=by omega
 have bd:=Aa (show ∀wr,Bw w2 wr->∀i f,a[i]?=some f->∃g,la=some ⟨g,0,none⟩/\wr.cell? ⟨g,i*2,none⟩=some (Ac f.1)/\wr.cell? ⟨g,i*2+1,none⟩=some (Ac f.2)from fun wr hb i f hy=>by
  obtain⟨g,cap,O,ba⟩:=Vn (G.o.1.below hb) (by rintro rfl;simp at hy);cases O
  exact⟨g,rfl,ba i f hy⟩)
 clear Y;go_wp2_with fail
 go_loopw [11,12] (fun v i wr=>∃(k:Nat) (t:Option Addr) (p x:Nat),k<=N/\i=.int .i64 (k:Int)/\v=.slice t p x/\Do wr (.slice t p x) (Bk lo c (a.take k))/\(∀j,(Value.slice t p x).ownBlock=some j->w2.heap.size<=j)/\Bw w2 wr) (fun _ i _=>(5000-intOf i).toNat)
 case atStart=>exact⟨0,none,0,0,by omega,rfl,rfl,by rw[Wb];exact Do.nil _,fun j F=>(by cases F),Ah _ _⟩
 case round=>
  obtain⟨k,t,p,x,hk,rfl,rfl,o,s,hb⟩:=hrel;by_cases au:k<N
  ·obtain⟨f,hy⟩:∃f,a[k]?=some f:=⟨a[k]'(by rw[X.o];exact au),Az _⟩;obtain⟨g,rfl,ac,am⟩:=bd.o wr hb k f hy;have bi:(k:Int)<(N:Int):=by omega
   have H:a.take (k+1)=a.take k++[f]:=by rw[Nv,hy];rfl
   have V:(Bk lo c (a.take k)).length<=5000:=by have h1:(Bk lo c (a.take k)).length<=(a.take k).length:=Tv _ _;rw[Fr]at h1;omega
   have u:=Mk lo f.1;have y:(Op.bytesLess lo f.1||f.1==lo)= !Op.bytesLess f.1 lo:=by rw[<-u];congr 1;exact Bool.beq_comm
   have E:=Mk f.1 c
   cases m:Km lo c f with
   |true=>
    have D:Op.bytesLess f.1 lo=false:=by
     unfold Km at m;cases h:Op.bytesLess f.1 lo
     ·rfl
     ·rw[h]at m;simp at m
    have M:Op.bytesLess c f.1=false:=by
     unfold Km at m;cases h:Op.bytesLess c f.1
     ·rfl
     ·rw[h]at m;simp at m
    rw[D]at u y;rw[M]at E;simp only[Qx]at u y E
    have A:Bk lo c (a.take (k+1))=Bk lo c (a.take k)++[f]:=by
     rw[H,Qq]
     congr 1
     unfold Bk;rw[Ab9 m];rfl
    obtain⟨av,af,P,J⟩:=Rx o f (by omega);have S:=J.run;have ad:=J.row;have al:Bw w2 P:=hb.trans (J.kp.toBelow hb.size (fun j F=>s j (by simpa using F)))
    have an:∀j,(Value.slice av ((Bk lo c (a.take k)).length+1) af).ownBlock=some j->w2.heap.size<=j:=fun j F=>by
     rcases J.own j F with q|q
     ·exact s j q
     ·have:=hb.size;omega
    have ab:Do P (.slice av ((Bk lo c (a.take k)).length+1) af) (Bk lo c (a.take (k+1))):=by rw[A];exact ad
    generalize(Bk lo c (a.take k)).length+1=NL at*;have n:=Aa (Ab ab (Ab an al));simp only[Hz,Ac]at S;simp only[Ac]at ac am;have a9:=Aa S;clear o s hb hy H V m A J S ad al an ab;go_wp2_with (at_builtin;refine Hr rfl _ _ rfl _ _ rfl rfl a9.o ?_);exact⟨⟨k+1,_,_,_,by omega,by first|rfl|push_cast;rfl,rfl,n.o.1,n.o.2.1,n.o.2.2⟩,by simp only[intOf];omega⟩
   |false=>
    have A:Bk lo c (a.take (k+1))=Bk lo c (a.take k):=by rw[H,Qq,Yw (l:=[f]) (fun z hz=>by simp at hz;subst hz;exact m),Ff]
    have n:=Aa (show Do wr (.slice t p x) (Bk lo c (a.take (k+1)))/\(∀j,(Value.slice t p x).ownBlock=some j->w2.heap.size<=j)/\Bw w2 wr from⟨by rw[A];exact o,s,hb⟩);simp only[Ac]at ac am;unfold Km at m
    cases D:Op.bytesLess f.1 lo with
    |true=>rw[D]at u y;simp only[Qy]at u y;clear o s hb hy H V A m E;go_wp2_with fail;exact⟨⟨k+1,_,_,_,by omega,by first|rfl|push_cast;rfl,rfl,n.o.1,n.o.2.1,n.o.2.2⟩,by simp only[intOf];omega⟩
    |false=>
     have M:Op.bytesLess c f.1=true:=by rw[D]at m;simpa using m
     rw[D]at u y;rw[M]at E;simp only[Qy]at E;simp only[Qx]at u y;clear o s hb hy H V A m M;go_wp2_with fail;exact⟨⟨k+1,_,_,_,by omega,by first|rfl|push_cast;rfl,rfl,n.o.1,n.o.2.1,n.o.2.2⟩,by simp only[intOf];omega⟩
  ·have a8:k=N:=by omega
   subst a8;rw[Du (by rw[X.o];exact Ak _)]at o
   have I:(Bk lo c a).length=aq:=by
    obtain⟨_,C,_⟩:=G.o;rcases C.2 with⟨h,_⟩|⟨g,cap,cur,O,_⟩
    ·simp only[Value.slice.injEq]at h;have:=C.1;omega
    ·simp only[Value.slice.injEq]at O;exact O.2.1.symm
   have Z:=Amy (.slice a6 aq sc) (.slice t p x) (Bk lo c a) (Bk lo c a) wr (G.o.2.1.below hb) o (by
    have h1:(Bk lo c a).length<=a.length:=Tv _ _;rw[X.o]at h1
    omega)
   rw[decide_eq_true rfl]at Z;have a1:=Aa Z;have aw:=Aa (G.o.2.2.trans (hb.mono G.o.2.2.size));have bf:decide ((k:Int)<(k:Int))=false:=by simp
   clear o s hb Z I au;go_wp2_with fail;refine a1.o.mono ?_;rintro r be ⟨rfl,ar⟩;have n:=Aa (aw.o.trans (ar.mono aw.o.size));clear ar a1;go_wp2_with fail;go_ret;exact⟨rfl,n.o⟩
end
theorem Asj:(Tryz.prog.info? 49).map (fun i=>(i.zero,i.size,i.bytes))=some (some (.agg #[.string ⟨#[]⟩,.string ⟨#[]⟩,.bool false]),3,40):=by kernel_rfl
theorem Ar2:Vq 34 49 3:=by obtain⟨a,b,c,e,d⟩:=info_parts Asj;exact⟨Tryz.underlying34,⟨a,_,40,b,c,e,d,rfl,by decide⟩,by decide⟩
theorem Anu {w:World}{lv:Value}{O:List Ag}(hr:Jz w lv O)(b:Ag)(e:O.length<=10000000):∃a cap w2,Aba 34 49 Ag.cells w lv O b 3 a cap w2:=Aer Ar2 Ag.cells Ag.cells_len (fun c=>Acu [c]|>fun h u d=>h u (by simpa [Pt]using d)) hr b e
theorem Jz.nil (w:World):Jz w (.slice none 0 0) []:=⟨rfl,.inl ⟨rfl,rfl⟩⟩
theorem Jz.below {w w':World}{v:Value}{l:List Ag}(h:Jz w v l)(hb:Bw w w'):Jz w' v l:=Bm (S:=[]) h (Kp.of_below hb) (by simp)
def Wj (w0:World)(S:World->Prop)(p:Nat)(w:World):Prop:=match p with|0=>w=w0|_+1=>S w
theorem Wj.at0 {w0 w:World}{S:World->Prop}{q:Nat}(h:Wj w0 S q w)(a:q<=0):w=w0:=by
 obtain rfl:q=0:=by omega
 exact h
theorem Afp {P:Program}{S:World->Prop}{m:Sem Next}{v:Value}(w0:World)(f:FuncId)(a:Array Value)(hr:∀w,m.run P w=.ok (.enter f a) w)(b:Calls P f a w0 fun e w2=>e=.returned v/\S w2):Rm P (Wj w0 S 0) (Wj w0 S (0+1)) m v:=
 Agt f a hr fun w hw=>by rw[show w=w0 from hw];exact b
inductive Rz (op:Bool)(o:Ag)(ops:List Ag):Nat->Prop
 |shut:op=false->Rz op o ops 3
 |key:op=true->¬(1<=o.key.length/\o.key.length<=8)->Rz op o ops 4
 |long:op=true->1<=o.key.length->o.key.length<=8->16<o.value.length->Rz op o ops 5
 |full:op=true->1<=o.key.length->o.key.length<=8->o.value.length<=16->ops.any (fun c=>c.key==o.key)=false->ops.length=12->Rz op o ops 7
 |ok:op=true->1<=o.key.length->o.key.length<=8->o.value.length<=16->¬(ops.any (fun c=>c.key==o.key)=false/\ops.length=12)->Rz op o ops 0
def Of (e0:Nat)(a:Ag)(ops:List Ag):List Ag:=if e0=0 then ops.filter (fun c=>c.key !=a.key)++[a]else ops
structure Aad (w w':World)(bW d b:Nat)(l:LS)(lv:Value)(may:Option (By×PL))(ops':List Ag)(PS:World->Prop)(K:List Nat):Prop where
 o:∃w1 ov,PS w1/\Kp K w w1/\Bi w' bW d b {l with ops:=ov} lv may ops'/\Bu w1 w' bW l {l with ops:=ov} lv lv
theorem Bu.ops {w w':World}{b:Nat}{l:LS}{lv ov:Value}(hk:Kp [b] w w')(c:∀j,ov.ownBlock=some j->w.heap.size<=j):Bu w w' b l {l with ops:=ov} lv lv:=by
 refine⟨hk.mono (fun j a=>by simp at a;subst a;exact Ey.2 (.inl rfl)),fun j a=>.inl a,fun j a=>?_⟩;rcases As.1 a with g|g
 ·exact .inl (Bl _ g)
 ·rcases Ha.1 g with e|e|e
  ·exact .inl (Bg _ (Ha.2 (.inl e)))
  ·exact .inl (Bg _ (Ha.2 (.inr (.inl e))))
  ·exact .inr (c j e)
theorem Bi.newOps {w f:World}{a d b:Nat}{l:LS}{lv ov:Value}{may:Option (By×PL)}{ops n:List Ag}(h:Bi w a d b l lv may ops)(hb:Bw w f)(hr:Jz f ov n)(k:∀j,ov.ownBlock=some j->w.heap.size<=j):Bi (f.setCell ⟨a,4,none⟩ ov) a d b {l with ops:=ov} lv may n/\Bu w (f.setCell ⟨a,4,none⟩ ov) a l {l with ops:=ov} lv lv:=by
 have hk:Kp [a] w (f.setCell ⟨a,4,none⟩ ov):=Aaa (Kp.of_below (S:=[]) hb) a 4 ov;have q:=h.at_.lt;have p:∀j,ov.ownBlock=some j->j≠a:=fun j c e=>by have:=k j c;omega
 have m:∀j∈Ij l lv,j∉[a]:=fun j c g=>by simp at g;subst g;exact h.ro _ c (Ey.2 (.inl rfl))
 refine⟨h.lists (S:=[]) hk (by simp) ((h.below hb).at_.set 4 ov rfl) (fun i o=>by match i,o with|0,_|1,_|2,_|3,_|4,_=>rfl) (h.may.kp hk (fun j c=>m j (Ha.2 (.inl c))) (fun j c=>m j (Ha.2 (.inr (.inl c))))) (Bm hr ((Kp.refl [a] f).setCell a 4 ov (.inl (by simp))) (fun j c=>by simpa using p j c)) (fun j c=>?_),Bu.ops hk k⟩;rcases Ha.1 c with e|e|e
 ·exact .inl (Ha.2 (.inl e))
 ·exact .inl (Ha.2 (.inr (.inl e)))
 ·exact .inr (k j e)
def chF:Bool->FuncId
 |true=>35
 |false=>36
def chA (c:Bool)(a:Ag)(b:Nat):Array Value:=match c with
 |true=> #[.pointer (some ⟨b,0,none⟩),.string ⟨a.key.toArray⟩]
 |false=> #[.pointer (some ⟨b,0,none⟩),.string ⟨a.key.toArray⟩,.string ⟨a.value.toArray⟩]
theorem Aor {m d b:Nat}{l:LS}{lv:Value}{may:Option (By×PL)}{ops:List Ag}{w:World}(av:Bool)(a:Ag)(e0:Nat)(ag:World->Prop)(M:List Nat)(h:Bi w m d b l lv may ops)(b7:ops.length<=12)(bc:a.gone=av)(be:∀j∈M,j∉Gj m l lv/\j<w.heap.size)(ax:Rz l.opened a ops e0)
  (br:∀bf,Bw w bf->Cl (chF av) (chA av a b) bf fun e w'=>e=.returned (.int .i64 (e0:Int))/\ag w'/\Kp M bf w'):
  Cl 16 #[.pointer (some ⟨m,0,none⟩),.agg #[Ac a.key,Ac a.value,.bool a.gone]] w fun e w'=>e=.returned (.bool true)/\Aad w w' m d b l lv may (Of e0 a ops) ag M:=by
 obtain⟨w0,aw⟩:=nmd ((w.alloc (.cells #[Ac a.key,Ac a.value,.bool a.gone] 49)).drew);have bt:Bw w (w.alloc (.cells #[Ac a.key,Ac a.value,.bool a.gone] 49)):=(Ah _ _).alloc (Ak _) _;have az:Bw w w0:=aw▸bt.drew;have ar:w0.heap[w.heap.size]?=some (.cells #[Ac a.key,Ac a.value,.bool a.gone] 49 (0,0)):=aw▸heap_alloc_new w _;have a3:=h.below az;have c1:∀w',w'=w0->w'.cell? ⟨m,1,none⟩=some (.pointer (some ⟨b,0,none⟩)):=fun w' e=>e▸a3.at_.c 1;have k0:∀w',w'=w0->w'.cell? ⟨w.heap.size,0,none⟩=some (Ac a.key):=fun w' e=>by rw[e,cell_of_row _ _ _ _ _ _ ar];rfl
 have k1:∀w',w'=w0->w'.cell? ⟨w.heap.size,1,none⟩=some (Ac a.value):=fun w' e=>by rw[e,cell_of_row _ _ _ _ _ _ ar];rfl
 have z:=Aa (Ab aw (Ab c1 (Ab k0 (Ab k1 (br w0 az)))))
 have bx:∀w1,Kp M w0 w1->Bi w1 m d b l lv may ops/\w1.heap[w.heap.size]?=some (.cells #[Ac a.key,Ac a.value,.bool a.gone] 49 (0,0))/\Kp M w w1:=fun w1 hk=>by refine⟨a3.kp hk (fun j P g=>(be j g).1 P),(hk.block _ (lt_of_block ar) (fun g=>by have:=(be _ g).2;omega)).trans ar,(Kp.of_below az).trans hk⟩
 have a7:=Aa bx;obtain⟨r,hr⟩:=nmd (w.heap.size);obtain⟨a9,b1,bk⟩:=Aao h.ops;have bs:=Aa bk;obtain⟨Z,bp⟩:=nmd (ops.length);have K:=Aa bp;have cl:(Z:Int)<=12:=by omega
 rw[hr]at z a7;have b0:=Aa ax;rw[bc];rw[bc]at z;clear h b7 bc be ax br aw bt az ar a3 c1 k0 k1 bx bk bp;cases av
 all_goals
  go_enter Tryz.func16,Tryz.ntmps16;go_wp2_with fail
 refine Gf (Wj w0 (fun w'=>ag w'/\Kp M w0 w')) [8] (by kernel_rfl) (by kernel_rfl) (by rw[<-z.o.1];rfl) ?_;refine Am 0 (.pointer (some ⟨m,0,none⟩)) ?_;refine Am 1 (.pointer (some ⟨m,0,none⟩)) ?_;refine Am 2 (.pointer (some ⟨m,1,none⟩)) ?_;refine Mh 3 0 (.pointer (some ⟨b,0,none⟩)) Aou (fun q f w hw=>z.o.2.1 w (hw.at0 f)) ?_;refine Am 4 (.pointer (some ⟨r,0,none⟩)) ?_;refine Mh 5 0 (Ac a.key) Im (fun q f w hw=>z.o.2.2.1 w (hw.at0 f)) ?_;refine Am 6 (.pointer (some ⟨r,1,none⟩)) ?_;refine Mh 7 0 (Ac a.value) Im (fun q f w hw=>z.o.2.2.2.1 w (hw.at0 f)) ?_;refine Gr 8 (.int .i64 (e0:Int)) rfl (by kernel_rfl) rfl (Afp w0 36 #[.pointer (some ⟨b,0,none⟩),.string ⟨a.key.toArray⟩,.string ⟨a.value.toArray⟩] (fun _=>by kernel_rfl) z.o.2.2.2.2) ?_;refine Am 9 (.int .i64 (e0:Int)) ?_;refine Cj.done (by kernel_rfl) fun w1 bo=>?_;simp only[Act.put,Cz,Dg,Co];rotate_left;refine Gf (Wj w0 (fun w'=>ag w'/\Kp M w0 w')) [6] (by kernel_rfl) (by kernel_rfl) (by rw[<-z.o.1];rfl) ?_;refine Am 0 (.pointer (some ⟨m,0,none⟩)) ?_;refine Am 1 (.pointer (some ⟨m,0,none⟩)) ?_;refine Am 2 (.pointer (some ⟨m,1,none⟩)) ?_;refine Mh 3 0 (.pointer (some ⟨b,0,none⟩)) Aou (fun q f w hw=>z.o.2.1 w (hw.at0 f)) ?_;refine Am 4 (.pointer (some ⟨r,0,none⟩)) ?_;refine Mh 5 0 (Ac a.key) Im (fun q f w hw=>z.o.2.2.1 w (hw.at0 f)) ?_;refine Gr 6 (.int .i64 (e0:Int)) rfl (by kernel_rfl) rfl (Afp w0 35 #[.pointer (some ⟨b,0,none⟩),.string ⟨a.key.toArray⟩] (fun _=>by kernel_rfl) z.o.2.2.2.2) ?_;refine Am 7 (.int .i64 (e0:Int)) ?_;refine Cj.done (by kernel_rfl) fun w1 bo=>?_;simp only[Act.put,Cz,Dg,Co]
 all_goals
  obtain⟨ac,bg⟩:ag w1/\Kp M w0 w1:=bo;obtain⟨G,ba,ae⟩:=a7.o w1 bg;clear bg z a7
  have O:=Aa (show ∀w',Bw w1 w'->w'.cell? ⟨r,0,none⟩=some (Ac a.key)/\w'.cell? ⟨r,1,none⟩=some (Ac a.value)/\w'.cell? ⟨r,2,none⟩=some (.bool a.gone)from fun w' hb=>by
   have q:=(hb.block r (lt_of_block ba)).trans ba
   exact⟨crw q rfl,crw q rfl,crw q rfl⟩)
  have L:=Aa (show ∀w',Bw w1 w'->w'.cell? ⟨m,4,none⟩=some (.slice a9 Z b1)/\w'.cell? ⟨m,3,none⟩=some (.bool l.opened)/\w'.frozen? ⟨m,4,none⟩=false from fun w' hb=>⟨by rw[(G.below hb).at_.c 4,<-K.o,<-bs.o];rfl,(G.below hb).at_.c 3,(G.below hb).at_.fr 4⟩)
  have N:=Aa (show ∀w',Bw w1 w'->∀i c,ops[i]?=some c->∃g,a9=some ⟨g,0,none⟩/\w'.cell? ⟨g,i*3,none⟩=some (Ac c.key)/\w'.cell? ⟨g,i*3+1,none⟩=some (Ac c.value)/\w'.cell? ⟨g,i*3+2,none⟩=some (.bool c.gone)from fun w' hb i c n=>by
   have b3:Jz w' (.slice a9 ops.length b1) ops:=by rw[<-bs.o];exact(G.below hb).ops
   obtain⟨g,cap,cb,_,_,_,ak,_⟩:=Rv Ag.cells 3 Ag.cells_len b3 (by rintro rfl;simp at n);cases cb
   exact⟨g,rfl,ak i c n 0 (by decide),ak i c n 1 (by decide),ak i c n 2 (by decide)⟩)
  have V:=Aa (Ab G (Ab ac ae));have bw:=Aa (show ∀w',Bw w1 w'->Aad w w' m d b l lv may ops ag M from fun w' hb=>⟨w1,l.ops,ac,ae,G.below hb,Bu.of_below hb m l lv⟩);clear G ac ae ba;go_wp2_with fail
  go_loopw [6,7] (fun t i wr=>∃k:Nat,k<=Z/\i=.int .i64 (k:Int)/\t=.bool ((ops.take k).any fun c=>c.key==a.key)/\Bw w1 wr) (fun _ i _=>(100-intOf i).toNat)
  case atStart=>exact⟨0,by omega,rfl,by simp,Ah _ _⟩
  case round=>
   obtain⟨k,hk,rfl,rfl,hb⟩:=hrel;obtain⟨c4,c3,af⟩:=L.o wr hb;by_cases aj:k<Z
   ·obtain⟨c,n⟩:∃c,ops[k]?=some c:=⟨ops[k]'(by rw[K.o];exact aj),Az _⟩;obtain⟨g,rfl,U,_,_⟩:=N.o wr hb k c n;have b9:(k:Int)<(Z:Int):=by omega
    have H:((ops.take (k+1)).any fun c=>c.key==a.key)=(((ops.take k).any fun c=>c.key==a.key)||c.key==a.key):=by rw[Nv,n,List.any_append];simp
    obtain⟨I,J,ai⟩:=O.o wr hb;have a0:=Aa H;have ad:=Aa hb;simp only[Ac]at U I J;clear c3 af J ai n H hb aj;obtain⟨T,R⟩:=nmd (((ops.take k).any fun c=>c.key==a.key));rw[R]at a0;rw[R];clear R
    cases T with
    |true=>go_wp2_with fail;go_quiet (fail);obtain⟨D,p⟩:=nmd (wr.drewN nq);rw[p];have y:Bw wr D:=p▸Bp (Ah _ _) nq;have F:=Aa (ad.o.trans (y.mono ad.o.size));clear p y ad c4 U I;go_wp2_with fail;exact⟨⟨k+1,by omega,by first|rfl|push_cast;rfl,by rw[a0.o];rfl,F.o⟩,by simp only[intOf];omega⟩
    |false=>obtain⟨cm,b2⟩:=nmd ((c.key==a.key));rw[b2]at a0;go_wp2_with fail;go_quiet (fail);obtain⟨D,p⟩:=nmd (wr.drewN nq);rw[p];have y:Bw wr D:=p▸Bp (Ah _ _) nq;have F:=Aa (ad.o.trans (y.mono ad.o.size));clear p y ad c4 U I;go_wp2_with fail;exact⟨⟨k+1,by omega,by first|rfl|push_cast;rfl,by rw[a0.o];rfl,F.o⟩,by simp only[intOf];omega⟩
   ·have b5:k=Z:=by omega
    subst b5;have bu:decide ((k:Int)<(k:Int))=false:=by simp
    obtain⟨T,R⟩:=nmd ((ops.any fun c=>c.key==a.key));have H:((ops.take k).any fun c=>c.key==a.key)=T:=by rw[Du (by rw[K.o];exact Ak _)];exact R
    rw[H];obtain⟨I,J,ai⟩:=O.o wr hb;simp only[Ac]at I J;have cf:(ByteArray.mk a.key.toArray).size=a.key.length:=rfl;have cd:(ByteArray.mk a.value.toArray).size=a.value.length:=rfl;have F:=Aa (Ab hb (bw.o wr hb));clear hb H bw aj;obtain⟨s,aq⟩:=nmd (a.key.length);obtain⟨ah,a5⟩:=nmd (a.value.length)
    have ax:(l.opened=false/\e0=3)\/(l.opened=true/\¬(1<=s/\s<=8)/\e0=4)\/(l.opened=true/\1<=s/\s<=8/\16<ah/\e0=5)\/(l.opened=true/\1<=s/\s<=8/\ah<=16/\T=false/\ops.length=12/\e0=7)\/(l.opened=true/\1<=s/\s<=8/\ah<=16/\¬(T=false/\ops.length=12)/\e0=0):=by
     rw[<-aq,<-a5,<-R]
     cases b0.o with
     |shut h=>exact .inl ⟨h,rfl⟩
     |key h h1=>exact .inr (.inl ⟨h,h1,rfl⟩)
     |long h h1 h2 am=>exact .inr (.inr (.inl ⟨h,h1,h2,am,rfl⟩))
     |full h h1 h2 am a6 cc=>exact .inr (.inr (.inr (.inl ⟨h,h1,h2,am,a6,cc,rfl⟩)))
     |ok h h1 h2 am a6=>exact .inr (.inr (.inr (.inr ⟨h,h1,h2,am,a6,rfl⟩)))
    clear b0 R;rw[aq]at cf;rw[a5]at cd
    have bh:1<=s->(a.key==[])=false:=fun h=>by rw[<-aq]at h;cases hk:a.key with
     |nil=>rw[hk]at h;simp at h
     |cons _ _=>rfl
    have bz:¬1<=s->(a.key==[])=true:=fun h=>by rw[<-aq]at h;cases hk:a.key with
     |nil=>rfl
     |cons _ _=>rw[hk]at h;simp at h
    have E:=Aa (Ab bh bz);clear aq a5 bh bz;rcases ax with⟨o,rfl⟩|⟨o,bj,rfl⟩|⟨o,h1,al,au,rfl⟩|⟨o,h1,al,au,ap,bi,rfl⟩|⟨o,h1,al,au,ap,a2⟩
    ·rw[o]at c3;clear E O L N V o;go_wp2_with fail;go_ret;exact⟨rfl,F.o.2⟩
    ·rw[o]at c3;by_cases h1:1<=s
     ·have ay:=E.o.1 h1;have hd:decide ((8:Int)<(s:Int))=true:=by simp;omega
      clear E O L N V o bj h1;go_wp2_with fail;go_ret;exact⟨rfl,F.o.2⟩
     ·have ay:=E.o.2 h1;clear E O L N V o bj h1;go_wp2_with fail;go_ret;exact⟨rfl,F.o.2⟩
    ·rw[o]at c3;have ay:=E.o.1 h1;have hd:decide ((8:Int)<(s:Int))=false:=by simp;omega
     have bn:decide ((16:Int)<(ah:Int))=true:=by simp;omega
     clear E O L N V o h1 al au;go_wp2_with fail;go_ret;exact⟨rfl,F.o.2⟩
    ·rw[o]at c3;have ay:=E.o.1 h1;have hd:decide ((8:Int)<(s:Int))=false:=by simp;omega
     have bn:decide ((16:Int)<(ah:Int))=false:=by simp;omega
     have bd:k=12:=by rw[<-K.o];exact bi
     rw[bd]at c4;have cj:decide ((k:Int)<12)=false:=by simp;omega
     subst ap;clear E O L N V o h1 al au bi;subst bd;go_wp2_with fail;go_ret;exact⟨rfl,F.o.2⟩
    ·rw[o]at c3;have ay:=E.o.1 h1;have hd:decide ((8:Int)<(s:Int))=false:=by simp;omega
     have bn:decide ((16:Int)<(ah:Int))=false:=by simp;omega
     have ak:=c4
     have b4:T=true\/(T=false/\((k:Int)==12)=false):=by
      cases T with
      |true=>exact .inl rfl
      |false=>exact .inr ⟨rfl,by rw[beq_eq_false_iff_ne];have:=K.o;rw[K.o]at ap;intro e;exact ap ⟨rfl,by omega⟩⟩
     have b6:=Aa a2;have ci:((e0:Int)==0)=true:=by rw[a2];rfl
     clear E o h1 al au ap a2;rcases b4 with rfl|⟨rfl,bd⟩
     all_goals
      go_wp2_with fail
      go_loopw [8,9] (fun v i wr=>∃(j:Nat) (la:Option Addr) (ln X:Nat),j<=k/\i=.int .i64 (j:Int)/\v=.slice la ln X/\Jz wr (.slice la ln X) ((ops.take j).filter fun c=>c.key !=a.key)/\(∀q,(Value.slice la ln X).ownBlock=some q->w1.heap.size<=q)/\Bw w1 wr) (fun _ i _=>(100-intOf i).toNat)
      case atStart=>exact⟨0,none,0,0,by omega,rfl,rfl,by rw[Wb];exact Jz.nil _,fun j P=>(by cases P),F.o.1⟩
      case round=>
       clear c4 c3 af I J ai ak bu;obtain⟨j,la,ln,X,P,rfl,rfl,x,u,hb⟩:=hrel;obtain⟨c4,c3,af⟩:=L.o wr hb;obtain⟨I,J,ai⟩:=O.o wr hb;simp only[Ac]at I J
       have S:((ops.take j).filter fun c=>c.key !=a.key).length<=10000:=by have h1:((ops.take j).filter fun c=>c.key !=a.key).length<=(ops.take j).length:=Tv _ _;rw[Fr,K.o]at h1;omega
       by_cases aj:j<k
       ·obtain⟨c,n⟩:∃c,ops[j]?=some c:=⟨ops[j]'(by rw[K.o];exact aj),Az _⟩;obtain⟨g,rfl,U,_,_⟩:=N.o wr hb j c n;have b9:(j:Int)<(k:Int):=by omega
        have H:ops.take (j+1)=ops.take j++[c]:=by rw[Nv,n];rfl
        simp only[Ac]at U
        cases f:(c.key==a.key)with
        |true=>
         have A:((ops.take (j+1)).filter fun c=>c.key !=a.key)=(ops.take j).filter fun c=>c.key !=a.key:=by rw[H,Xw,List.filter_cons_of_neg (by simpa using f)];simp
         have ce:(c.key !=a.key)=false:=by rw[bne,f];rfl
         have an:=Aa (Ab x (Ab u (Ab hb A)));clear x u hb S n H A J ai c3 af;go_wp2_with fail;go_quiet (fail);obtain⟨D,p⟩:=nmd (wr.drewN nq);rw[p];have y:Bw wr D:=p▸Bp (Ah _ _) nq;obtain⟨x,u,hb,A⟩:=an.o;have ab:=Aa (show Jz D (.slice la ln X) ((ops.take (j+1)).filter fun c=>c.key !=a.key)/\(∀q,(Value.slice la ln X).ownBlock=some q->w1.heap.size<=q)/\Bw w1 D from⟨by rw[A];exact x.below y,u,hb.trans (y.mono hb.size)⟩);clear an x u hb A p y c4 U I;go_wp2_with fail;exact⟨⟨j+1,_,_,_,by omega,by first|rfl|push_cast;rfl,rfl,ab.o⟩,by simp only[intOf];omega⟩
        |false=>
         have A:((ops.take (j+1)).filter fun c=>c.key !=a.key)=((ops.take j).filter fun c=>c.key !=a.key)++[c]:=by rw[H,Xw,Ab9 (by simpa using f)];rfl
         have ce:(c.key !=a.key)=true:=by rw[bne,f];rfl
         have an:=Aa (Ab x (Ab u (Ab hb (Ab A (Ab S n)))));clear x u hb S n H A J ai c3 af;go_wp2_with fail;go_quiet (fail);obtain⟨D,p⟩:=nmd (wr.drewN nq);rw[p];have y:Bw wr D:=p▸Bp (Ah _ _) nq;obtain⟨x,u,hb,A,S,n⟩:=an.o;have Y:=hb.trans (y.mono hb.size);obtain⟨bb,a8,a1,C⟩:=Anu (x.below y) c (by omega);have Q:=C.run;have W:=C.row;rw[<-A]at W;have aa:Bw w1 a1:=Y.trans (C.kp.toBelow Y.size (fun j P=>u j (by simpa using P)))
         have ao:∀q,(Value.slice bb (((ops.take j).filter fun c=>c.key !=a.key).length+1) a8).ownBlock=some q->w1.heap.size<=q:=fun q f=>by
          rcases C.own q f with g|g
          ·exact u q g
          ·have:=Y.size;omega
         obtain⟨ck,ca,r0,r1,r2⟩:=N.o D Y j c n;obtain⟨b8,_,_⟩:=L.o D Y;cases ca;generalize((ops.take j).filter fun c=>c.key !=a.key).length+1=NL at*;have ab:=Aa (Ab W (Ab ao aa));simp only[Ag.cells,Ac]at Q;simp only[Ac]at r0 r1 r2;have a4:=Aa Q;clear an x u hb A p y c4 U I S n Y C Q W aa ao;go_wp2_with (at_builtin;refine Hr rfl _ _ rfl _ _ rfl rfl a4.o ?_);exact⟨⟨j+1,_,_,_,by omega,by first|rfl|push_cast;rfl,rfl,ab.o⟩,by simp only[intOf];omega⟩
       ·have cg:j=k:=by omega
        have bl:ops.take j=ops:=Du (by rw[K.o];omega);rw[bl]at x S;have bu:decide ((j:Int)<(k:Int))=false:=by simp;omega
        obtain⟨bb,a8,a1,C⟩:=Anu x a (by omega);have Q:=C.run;have W:=C.row;have aa:Bw w1 a1:=hb.trans (C.kp.toBelow hb.size (fun j P=>u j (by simpa using P)))
        have ao:∀q,(Value.slice bb ((ops.filter fun c=>c.key !=a.key).length+1) a8).ownBlock=some q->w1.heap.size<=q:=fun q f=>by
         rcases C.own q f with g|g
         ·exact u q g
         ·have:=hb.size;omega
        obtain⟨G,ac,ae⟩:=V.o;obtain⟨bv,bq⟩:=G.newOps aa W ao;obtain⟨b8,_,ch⟩:=L.o a1 aa;generalize(ops.filter fun c=>c.key !=a.key).length+1=NL at*;have ab:=Aa (Ab bv bq);have bm:=Aa (Ab ac ae);simp only[Ag.cells,Ac]at Q;have a4:=Aa Q;clear x u hb S C Q W aa ao G ac ae bv bq F V c3 af bl aj;go_wp2_with (at_builtin;refine Hr rfl _ _ rfl _ _ rfl rfl a4.o ?_);go_ret;refine⟨rfl,w1,_,bm.o.1,bm.o.2,?_,ab.o.2⟩;rw[b6.o];exact ab.o.1
theorem Aix {c d b:Nat}{l:LS}{lv:Value}{may:Option (By×PL)}{ops:List Ag}{w:World}(a:Ag)(e0:Nat)(g:World->Prop)(f:List Nat)(h:Bi w c d b l lv may ops)(n:ops.length<=12)(m:a.gone=false)(o:∀j∈f,j∉Gj c l lv/\j<w.heap.size)(k:Rz l.opened a ops e0)
  (p:∀i,Bw w i->Cl 36 #[.pointer (some ⟨b,0,none⟩),.string ⟨a.key.toArray⟩,.string ⟨a.value.toArray⟩] i fun e w'=>e=.returned (.int .i64 (e0:Int))/\g w'/\Kp f i w'):
  Cl 16 #[.pointer (some ⟨c,0,none⟩),.agg #[Ac a.key,Ac a.value,.bool a.gone]] w fun e w'=>e=.returned (.bool true)/\Aad w w' c d b l lv may (Of e0 a ops) g f:=Aor false a e0 g f h n m o k p
theorem Akw {c d b:Nat}{l:LS}{lv:Value}{may:Option (By×PL)}{ops:List Ag}{w:World}(a:Ag)(e0:Nat)(g:World->Prop)(f:List Nat)(h:Bi w c d b l lv may ops)(n:ops.length<=12)(m:a.gone=true)(o:∀j∈f,j∉Gj c l lv/\j<w.heap.size)(k:Rz l.opened a ops e0)
  (p:∀i,Bw w i->Cl 35 #[.pointer (some ⟨b,0,none⟩),.string ⟨a.key.toArray⟩] i fun e w'=>e=.returned (.int .i64 (e0:Int))/\g w'/\Kp f i w'):
  Cl 16 #[.pointer (some ⟨c,0,none⟩),.agg #[Ac a.key,Ac a.value,.bool a.gone]] w fun e w'=>e=.returned (.bool true)/\Aad w w' c d b l lv may (Of e0 a ops) g f:=Aor true a e0 g f h n m o k p
def Aqg (cl:Bool):FuncId:=if cl then 28 else 29
section
variable {bW d b:Nat}{l:LS}{lv:Value}{may:Option (By×PL)}{ops:List Ag}{w:World}
theorem Arl (cl:Bool)(h:Bi w bW d b l lv may ops)(g:l.opened=false)(f:Cl (Aqg cl) #[.pointer (some ⟨b,0,none⟩)] w fun e w'=>e=.returned (.int .i64 3)/\w'=w):
  Cl 13 #[.pointer (some ⟨bW,0,none⟩),.bool cl] w fun e w'=>e=.returned (.bool true)/\w'=w:=by
 have c1:w.cell? ⟨bW,1,none⟩=some (.pointer (some ⟨b,0,none⟩)):=h.at_.c 1;have c3:w.cell? ⟨bW,3,none⟩=some (.bool false):=by rw[<-g];exact h.at_.c 3
 have c:=Aa f;clear h g f
 cases cl with
 |true=>go_enter Tryz.func13,Tryz.ntmps13;go_wp2_with fail;refine c.o.mono ?_;rintro e w1 ⟨rfl,a⟩;rw[a];clear a w1 c;go_wp2_with fail;go_ret;exact⟨rfl,rfl⟩
 |false=>go_enter Tryz.func13,Tryz.ntmps13;go_wp2_with fail;refine c.o.mono ?_;rintro e w1 ⟨rfl,a⟩;rw[a];clear a w1 c;go_wp2_with fail;go_ret;exact⟨rfl,rfl⟩
theorem Alf (cl:Bool)(o:World->Prop)(a:List Nat)(h:Bi w bW d b l lv may ops)(p:l.opened=true)(y:∀j∈a,j∉Gj bW l lv)(z:Cl (Aqg cl) #[.pointer (some ⟨b,0,none⟩)] w fun e w'=>e=.returned (.int .i64 0)/\o w'/\Kp a w w'):
  Cl 13 #[.pointer (some ⟨bW,0,none⟩),.bool cl] w fun e w'=>e=.returned (.bool true)/\∃w1,o w1/\Kp a w w1/\Bi w' bW d b {l with ops:=.slice none 0 0,opened:= !cl} lv may []/\Bu w1 w' bW l {l with ops:=.slice none 0 0,opened:= !cl} lv lv:=by
 have c1:w.cell? ⟨bW,1,none⟩=some (.pointer (some ⟨b,0,none⟩)):=h.at_.c 1
 have v:∀w1,Kp a w w1->w1.cell? ⟨bW,3,none⟩=some (.bool true)/\w1.cell? ⟨bW,4,none⟩=some l.ops/\w1.frozen? ⟨bW,4,none⟩=false/\(Bi (w1.setCell ⟨bW,4,none⟩ (.slice none 0 0)) bW d b {l with ops:=.slice none 0 0} lv may []/\Bu w1 (w1.setCell ⟨bW,4,none⟩ (.slice none 0 0)) bW l {l with ops:=.slice none 0 0} lv lv):=fun w1 hk=>by have h1:=h.kp hk (fun j q g=>y j g q);exact⟨by rw[<-p];exact h1.at_.c 3,h1.at_.c 4,h1.at_.fr 4,h1.newOps (Ah _ _) (Jz.nil _) (fun j q=>(by cases q))⟩
 have f:=Aa v;have k:=Aa z;have x:=Aa p;obtain⟨E,H,u⟩:=Aao h.ops;have A:=Aa u;generalize ops.length=OL at*;clear h p z v y u
 cases cl with
 |true=>
  go_enter Tryz.func13,Tryz.ntmps13;go_wp2_with fail;refine k.o.mono ?_;rintro e w1 ⟨rfl,c,hk⟩;obtain⟨c3,c4,C,st,go⟩:=f.o w1 hk;rw[A.o]at c4;obtain⟨w2,D⟩:=nmd (w1.setCell ⟨bW,4,none⟩ (.slice none 0 0));rw[D]at st go;have F:w2.cell? ⟨bW,3,none⟩=some (.bool true):=by rw[<-x.o];exact st.at_.c 3
  have G:w2.frozen? ⟨bW,3,none⟩=false:=st.at_.fr 3;have t:=st.cell (l':={l with ops:=.slice none 0 0,opened:=false}) 3 (.bool false) rfl rfl rfl (fun i m=>by match i,m with|0,_|1,_|2,_|3,_|4,_=>rfl);have s:=go.trans (Bu.cell (w:=w2) (l':={l with ops:=.slice none 0 0,opened:=false}) 3 (.bool false) rfl rfl (fun i m=>by match i,m with|0,_|1,_|2,_|3,_|4,_=>rfl));have r:=Aa (Ab c (Ab hk (Ab t s)));clear c hk st go t s f k;go_wp2_with fail;go_ret;exact⟨rfl,w1,r.o⟩
 |false=>
  go_enter Tryz.func13,Tryz.ntmps13;go_wp2_with fail;refine k.o.mono ?_;rintro e w1 ⟨rfl,c,hk⟩;obtain⟨c3,c4,C,st,go⟩:=f.o w1 hk;rw[A.o]at c4;have n:({l with ops:=.slice none 0 0,opened:=true}:LS)={l with ops:=.slice none 0 0}:=by rw[<-x.o]
  have r:=Aa (show o w1/\Kp a w w1/\Bi (w1.setCell ⟨bW,4,none⟩ (.slice none 0 0)) bW d b {l with ops:=.slice none 0 0,opened:=true} lv may []/\Bu w1 (w1.setCell ⟨bW,4,none⟩ (.slice none 0 0)) bW l {l with ops:=.slice none 0 0,opened:=true} lv lv from⟨c,hk,by rw[n];exact st,by rw[n];exact go⟩);clear c hk st go f k n;go_wp2_with fail;go_ret;exact⟨rfl,w1,r.o⟩
end
theorem Bi.newMay {w c:World}{bW d b:Nat}{l:LS}{lv f:Value}{may:Option (By×PL)}{ops:List Ag}{p:By}{k:PL}{g:Nat}(cap:Nat)(h:Bi w bW d b l lv may ops)(hb:Bw w c)(hr:Do c f k)(o:∀j,f.ownBlock=some j->lv.ownBlock=some j\/w.heap.size<=j)(s:c.heap[g]?=some (.cells #[Ac p,f] 70 (0,0)))(u:w.heap.size<=g):
  Bi (c.setCell ⟨bW,2,none⟩ (.slice (some ⟨g,0,none⟩) 1 cap)) bW d b {l with may:=.slice (some ⟨g,0,none⟩) 1 cap} f (some (p,k)) ops/\Bu w (c.setCell ⟨bW,2,none⟩ (.slice (some ⟨g,0,none⟩) 1 cap)) bW l {l with may:=.slice (some ⟨g,0,none⟩) 1 cap} lv f:=by
 have hk:Kp [bW] w (c.setCell ⟨bW,2,none⟩ (.slice (some ⟨g,0,none⟩) 1 cap)):=Aaa (Kp.of_below (S:=[]) hb) bW 2 _;have n:Kp [bW] c (c.setCell ⟨bW,2,none⟩ (.slice (some ⟨g,0,none⟩) 1 cap)):=(Kp.refl [bW] c).setCell bW 2 _ (.inl (by simp));have x:=h.at_.lt;have m:∀j∈Ij l lv,j∉[bW]:=fun j a q=>by simp at q;subst q;exact h.ro _ a (Ey.2 (.inl rfl))
 have t:∀j,f.ownBlock=some j->j∉[bW]:=fun j a=>by
  rcases o j a with q|q
  ·exact m j (Ha.2 (.inr (.inl q)))
  ·simp;omega
 have r:∀j∈Ij {l with may:=.slice (some ⟨g,0,none⟩) 1 cap} f,j∈Ij l lv\/w.heap.size<=j:=fun j a=>by
  rcases Ha.1 a with e|e|e
  ·simp only[Value.ownBlock,Option.some.injEq]at e;exact .inr (by subst e;exact u)
  ·exact(o j e).imp (fun q=>Ha.2 (.inr (.inl q))) id
  ·exact .inl (Ha.2 (.inr (.inr e)))
 refine⟨h.lists (S:=[]) hk (by simp) ((h.below hb).at_.set 2 _ rfl) (fun i v=>by match i,v with|0,_|1,_|2,_|3,_|4,_=>rfl) ⟨g,cap,rfl,(n.block g (lt_of_block s) (by simp;omega)).trans s,Bm hr n t⟩ (Bm h.ops hk (fun j a=>m j (Ha.2 (.inr (.inr a))))) r,⟨hk.mono (fun j a=>by simp at a;subst a;exact Ey.2 (.inl rfl)),fun j a=>.inl a,fun j a=>?_⟩⟩;rcases As.1 a with q|q
 ·exact .inl (Bl _ q)
 ·exact(r j q).imp (Bg _) id
section
variable {bW d b:Nat}{l:LS}{lv:Value}{may:Option (By×PL)}{ops:List Ag}{w:World}
theorem Avt (c:Nat)(h:Bi w bW d b l lv may ops)(f:l.opened=false)(h2:w.cell? ⟨d,2,none⟩=some (.int .i64 c))(g:Cl 37 #[.pointer (some ⟨b,0,none⟩)] w fun e w'=>e=.returned (.int .i64 3)/\w'=w):
  Cl 17 #[.pointer (some ⟨bW,0,none⟩)] w fun e w'=>e=.returned (.bool true)/\w'=w:=by
 have c0:w.cell? ⟨bW,0,none⟩=some (.pointer (some ⟨d,0,none⟩)):=h.at_.c 0;have c1:w.cell? ⟨bW,1,none⟩=some (.pointer (some ⟨b,0,none⟩)):=h.at_.c 1;have c3:w.cell? ⟨bW,3,none⟩=some (.bool false):=by rw[<-f];exact h.at_.c 3
 have i:=Aa g;have j:=Aa (Ty d w c h2);clear h f g h2;go_enter Tryz.func17,Tryz.ntmps17;go_wp2_with fail;refine j.o.mono ?_;rintro e w1 ⟨rfl,a⟩;rw[a];clear a w1 j;go_wp2_with fail;refine i.o.mono ?_;rintro e w1 ⟨rfl,a⟩;rw[a];clear a w1 i;go_wp2_with fail;go_ret;exact⟨rfl,rfl⟩
inductive Zs (tal ceil n sealed a b:Nat):Nat->Prop
 |ok:Zs tal ceil n sealed a b 0
 |counter:tal=ceil->Zs tal ceil n sealed a b 10
 |session:40<sealed+b->Zs tal ceil n sealed a b 11
 |space:n<a+b+2->Zs tal ceil n sealed a b 9
def Atn (w w':World)(bW d b:Nat)(l:LS)(lv:Value)(c:By×PL)(ops:List Ag)(g:PL)(e0:Nat)(f:World->Prop)(h:List Nat):Prop:=
 ∃w1,f w1/\Kp h w w1/\((e0=0/\∃a e,Bi w' bW d b {l with may:=e,ops:=.slice none 0 0} a (some (c.1,g)) []/\Bu w1 w' bW l {l with may:=e,ops:=.slice none 0 0} lv a)\/(e0≠0/\Bi w' bW d b l lv (some c) ops/\Bw w1 w'))
theorem Ae6 (Z U n e0:Nat)(p:By)(f:PL)(ap:Value)(sl:List By)(aq:World->Prop)(P:List Nat)(h:Bi w bW d b l lv (some (p,f)) ops)(a0:l.opened=true)(am:l.r1=Cv ap sl)(br:sl.length<=10000000)(ab:l.base<=sl.length)(ha:Ba f)(ah:f.length<=1000)(a5:ops.length<=1000)(ca:n<=1000)
  (h2:w.cell? ⟨d,2,none⟩=some (.int .i64 Z)) (a8:∀w1,aq w1->d<w1.heap.size/\w1.cell? ⟨d,3,none⟩=some (.int .i64 U)/\∃bb cb,w1.cell? ⟨d,0,none⟩=some (.slice (some ⟨bb,0,none⟩) n cb))
  (bt:∀j∈P,j∉Gj bW l lv) (C:Zs Z U n (sl.length-l.base) f.length (ops.foldl Ca f).length e0)
  (a6:Cl 37 #[.pointer (some ⟨b,0,none⟩)] w fun e w'=>e=.returned (.int .i64 (e0:Int))/\aq w'/\Kp P w w'):
  Cl 17 #[.pointer (some ⟨bW,0,none⟩)] w fun e w'=>e=.returned (.bool true)/\Atn w w' bW d b l lv (p,f) ops (ops.foldl Ca f) e0 aq P:=by
 have c0:w.cell? ⟨bW,0,none⟩=some (.pointer (some ⟨d,0,none⟩)):=h.at_.c 0;have c1:w.cell? ⟨bW,1,none⟩=some (.pointer (some ⟨b,0,none⟩)):=h.at_.c 1;have V:=Aci ops f;have au:∀w1,Kp P w w1->Bi w1 bW d b l lv (some (p,f)) ops:=fun w1 hk=>h.kp hk (fun j ar g=>bt j g ar);have bo:∀w1,Kp P w w1->Cl 32 #[.pointer (some ⟨bW,0,none⟩)] w1 fun e w'=>∃an,e=.returned an/\Do w' an (ops.foldl Ca f)/\(∀j,an.ownBlock=some j->lv.ownBlock=some j\/w1.heap.size<=j)/\Bw w1 w':=fun w1 hk=>Ahs bW d b l lv (some (p,f)) ops w1 (au w1 hk) ha ah a5;have b6:=h.may;obtain⟨ak,b3,aw,_,bu⟩:=b6;obtain⟨ce,cf,bd⟩:=Aao bu
 have bi:Lo w ap sl:=by have:=h.row 1 (by decide);have e:l.row 1=Cv ap sl:=am;rw[e]at this;exact this
 obtain⟨b1,b4,bj⟩:=Aao bi;obtain⟨cc,ac⟩:=nmd (ops.foldl Ca f)
 have a1:∀w2,Bi w2 bW d b l lv (some (p,f)) ops->w2.cell? ⟨bW,2,none⟩=some (.slice (some ⟨ak,0,none⟩) 1 b3)/\w2.cell? ⟨ak,0,none⟩=some (Ac p)/\w2.cell? ⟨ak,1,none⟩=some (.slice ce f.length cf)/\w2.cell? ⟨bW,11,none⟩=some (.slice b1 sl.length b4)/\w2.cell? ⟨bW,10,none⟩=some (.int .i64 (l.base:Int))/\w2.cell? ⟨bW,0,none⟩=some (.pointer (some ⟨d,0,none⟩))/\w2.cell? ⟨bW,3,none⟩=some (.bool true)/\w2.frozen? ⟨bW,2,none⟩=false:=fun w2 h2=>by obtain⟨ck,cs,bf,bz,_⟩:=h2.may;rw[aw]at bf;cases bf;refine⟨by rw[h2.at_.c 2,<-aw];rfl,crw bz rfl,by rw[cell_of_row _ _ _ _ _ _ bz,<-bd];rfl,?_,h2.at_.c 10,h2.at_.c 0,by rw[<-a0];exact h2.at_.c 3,h2.at_.fr 2⟩;rw[h2.at_.c 11];show some l.r1.v=_;rw[am,<-bj];rfl
 have t:=Aa a1;have bk:=Aa a6;have bw:=Aa (Ty d w Z h2);have a9:=Aa au;have ao:=Aa bo;have a7:=Aa a8;obtain⟨av,ba⟩:=nmd (sl.length);obtain⟨bv,a3⟩:=nmd (f.length);obtain⟨z,ai⟩:=nmd (cc.length);obtain⟨bs,ay⟩:=nmd (l.base);rw[ac]at C V ao;rw[ac];rw[ba]at br ab t C;rw[a3]at ah t C V;rw[ai]at C V;rw[ay]at ab t C;have b0:=Aa (Ab ai ac);have T:=Aa C;have ci:(av:Int)<=10000000:=by omega
 have cl:(bs:Int)<=(av:Int):=by omega
 have cq:(bv:Int)<=1000:=by omega
 have ch:(z:Int)<=2000:=by omega
 have cj:(n:Int)<=1000:=by omega
 have cd:=Aa ab;clear h a6 bt aw bu bd bi bj am a1 au bo a8 h2 ac ba a3 ai ay C V ha ah a5 ca br ab a0;go_enter Tryz.func17,Tryz.ntmps17;go_wp2_with fail;refine bw.o.mono ?_;rintro e w1 ⟨rfl,a4⟩;rw[a4];clear a4 w1 bw;go_wp2_with fail;refine bk.o.mono ?_;rintro e w1 ⟨rfl,i,hk⟩;obtain⟨o,r,bb,cb,q⟩:=a7.o w1 i;have c:=a9.o w1 hk;have a2:=Aa (ao.o w1 hk);obtain⟨_,_,_,_,_,_,c3,_⟩:=t.o w1 c;have bh:=Aa (Ab i (Ab hk (Ab c (Ab o (Ab r q)))));clear i hk c o r q bk a7 a9 ao c0 c1;go_wp2_with fail;refine a2.o.mono ?_;rintro e w2 ⟨co,rfl,aa,ag,O⟩;obtain⟨la,K,b9⟩:=Aao aa;subst b9;obtain⟨i,hk,c,o,r,q⟩:=bh.o;rw[b0.o.1]at aa ag⊢;obtain⟨r2,r3,r4,_,_,_,_,_⟩:=t.o w2 (c.below O);obtain⟨R,A⟩:=nmd (w2.alloc (.cells #[Ac p,.slice la z K] 70));have aj:Bw w2 R:=A▸(Ah _ _).alloc (Ak _) _;have u:R.heap[w2.heap.size]?=some (.cells #[Ac p,.slice la z K] 70 (0,0)):=A▸heap_alloc_new w2 _;have s:=O.trans (aj.mono O.size);have be:=c.below s;obtain⟨s2,S,W,X,ad,Y,_,_⟩:=t.o R be;obtain⟨g,bn⟩:=nmd (w2.heap.size);have D:w1.heap.size<=g:=by rw[<-bn];exact O.size
 rw[bn]at u;have L:=Aa (Ab i (Ab hk (Ab c (Ab s (Ab (aa.below aj) (Ab ag (Ab u (Ab D (Ab o (Ab r q))))))))));simp only[Ac]at A r3 S;clear aa ag O i hk c o r q a2 c3 aj u s be D bh;go_wp2_with fail;go_quiet (fail);obtain⟨k,H⟩:=nmd (R.drewN nq);rw[H];have E:Bw R k:=H▸Bp (Ah _ _) nq;obtain⟨i,hk,c,s,J,M,u,D,o,r,q⟩:=L.o;have m:=s.trans (E.mono s.size);have v:=c.below m;obtain⟨_,_,_,_,_,bc,_,af⟩:=t.o k v;have I:=(E.block g (lt_of_block u)).trans u;have Q:=J.below E
 cases T.o with
 |ok=>
  obtain⟨b5,_,_,_,_,_,_,_⟩:=t.o k v;obtain⟨y,x⟩:=nmd (k.alloc (.cells #[Ac p,.slice la z K] 70));have al:Bw k y:=x▸(Ah _ _).alloc (Ak _) _;have bx:y.heap[k.heap.size]?=some (.cells #[Ac p,.slice la z K] 70 (0,0)):=x▸heap_alloc_new k _;have ae:=m.trans (al.mono m.size);obtain⟨F,m2⟩:=c.newMay 1 ae (Q.below al) M bx m.size;obtain⟨b7,cg⟩:=nmd (y.setCell ⟨bW,2,none⟩ (.slice (some ⟨k.heap.size,0,none⟩) 1 1));rw[cg]at F m2;obtain⟨n1,n2⟩:=F.newOps (Ah _ _) (Jz.nil _) (fun j ar=>(by cases ar));have u2:=(t.o y (c.below ae)).1;have cr:=(t.o y (c.below ae)).2.2.2.2.2.2.2;have u4:=F.at_.c 4;have cn:=F.at_.fr 4;obtain⟨bg,bq,az⟩:=Aao F.ops;have bp:l.ops=.slice bg ops.length bq:=az;have cp:b7.cell? ⟨bW,4,none⟩=some (.slice bg ops.length bq):=by rw[u4,<-bp];rfl
  have b8:k.cell? ⟨g,0,none⟩=some (Ac p):=crw I rfl;have cm:k.cell? ⟨g,1,none⟩=some (.slice la z K):=crw I rfl;have a:=Aa (Ab i (Ab hk (Ab n1 (m2.trans n2))));simp only[Ac]at x b8;clear i hk c s J M u D o r q m v bc af I Q b5 al bx ae F m2 n1 n2 u4 az bp L T E H A r2 r3 r4 s2 S W X ad Y;generalize ops.length=OL at*;go_wp2_with fail;go_ret;refine⟨rfl,?_⟩;exact⟨w1,a.o.1,a.o.2.1,.inl ⟨rfl,_,_,a.o.2.2.1,a.o.2.2.2⟩⟩
 |counter G=>
  have bm:k.cell? ⟨d,3,none⟩=some (.int .i64 (U:Int)):=(m.cell (p:=⟨d,3,none⟩) o).trans r;have N:=Aa (Vu d k U bm);have a:=Aa (Ab i (Ab hk (Ab v m)));have bl:((Z:Int)==(U:Int))=true:=by rw[G];simp
  clear i hk c s J M u D o r q m v af I Q L T E H A r2 r3 r4 s2 S W X ad Y bm G;go_wp2_with fail;refine N.o.mono ?_;rintro e y ⟨rfl,x⟩;rw[x];clear x y N;go_wp2_with fail;go_ret;refine⟨rfl,?_⟩;exact⟨w1,a.o.1,a.o.2.1,.inr ⟨by decide,a.o.2.2.1,a.o.2.2.2⟩⟩
 |session G=>
  have a:=Aa (Ab i (Ab hk (Ab v m)));have b2:=cd.o;have bl:decide ((40:Int)<(av:Int)-(bs:Int)+(z:Int))=true:=by simp;omega
  clear i hk c s J M u D o r q m v af I Q L T E H A r2 r3 r4 s2 S W X ad Y bc G b2;go_wp2_with fail;go_ret;refine⟨rfl,?_⟩;exact⟨w1,a.o.1,a.o.2.1,.inr ⟨by decide,a.o.2.2.1,a.o.2.2.2⟩⟩
 |space G=>
  have ax:k.cell? ⟨d,0,none⟩=some (.slice (some ⟨bb,0,none⟩) n cb):=(m.cell (p:=⟨d,0,none⟩) o).trans q;have N:=Aa (Ui d bb cb n k ax);have a:=Aa (Ab i (Ab hk (Ab v m)));have bl:decide ((n:Int)-2<(bv:Int)+(z:Int))=true:=by simp;omega
  clear i hk c s J M u D o r q m v af I Q L T E H A r2 r3 r4 s2 S W X ad Y ax G;go_wp2_with fail;refine N.o.mono ?_;rintro e y ⟨rfl,x⟩;rw[x];clear x y N;go_wp2_with fail;go_ret;refine⟨rfl,?_⟩;exact⟨w1,a.o.1,a.o.2.1,.inr ⟨by decide,a.o.2.2.1,a.o.2.2.2⟩⟩
end
structure Abe (w w':World)(bW d b:Nat)(l l1 l':LS)(lv lv':Value)(may may':Option (By×PL))(ops ops':List Ag)(PS:World->World->Prop)(K:List Nat):Prop where
 o:∃wA w1,Bi wA bW d b l1 lv may ops/\Bu w wA bW l l1 lv lv/\PS wA w1/\Kp K wA w1/\Bi w' bW d b l' lv' may' ops'/\Bu w1 w' bW l1 l' lv lv'
section
variable {bW d b:Nat}{l:LS}{lv:Value}{may:Option (By×PL)}{ops:List Ag}{w:World}
theorem Atc (pass:By)(f:Nat)(h:Bi w bW d b l lv may ops)(c:l.opened=true)(h2:w.cell? ⟨d,2,none⟩=some (.int .i64 f))(g:Cl 23 #[.pointer (some ⟨b,0,none⟩),.string ⟨pass.toArray⟩] w fun e w'=>e=.returned (.int .i64 2)/\w'=w):
  Cl 11 #[.pointer (some ⟨bW,0,none⟩),.string ⟨pass.toArray⟩] w fun e w'=>e=.returned (.bool true)/\w'=w:=by
 have c0:w.cell? ⟨bW,0,none⟩=some (.pointer (some ⟨d,0,none⟩)):=h.at_.c 0;have c1:w.cell? ⟨bW,1,none⟩=some (.pointer (some ⟨b,0,none⟩)):=h.at_.c 1;have c3:w.cell? ⟨bW,3,none⟩=some (.bool true):=by rw[<-c];exact h.at_.c 3
 have i:=Aa g;have j:=Aa (Ty d w f h2);have k:=Aa (Ac2 bW d b l lv may ops pass w h (by unfold Ts;rw[c];rfl));clear h c g h2;go_enter Tryz.func11,Tryz.ntmps11;go_wp2_with fail;refine j.o.mono ?_;rintro e w1 ⟨rfl,a⟩;rw[a];clear a w1 j;go_wp2_with fail;refine k.o.mono ?_;rintro e w1 ⟨rfl,a⟩;rw[a];clear a w1 k;go_wp2_with fail;refine i.o.mono ?_;rintro e w1 ⟨rfl,a⟩;rw[a];clear a w1 i;go_wp2_with fail;go_ret;exact⟨rfl,rfl⟩
theorem Awc (pass:By)(c:Nat)(h:Bi w bW d b l lv may ops)(f:l.opened=false)(m:40<pass.length)(h2:w.cell? ⟨d,2,none⟩=some (.int .i64 c))(g:Cl 23 #[.pointer (some ⟨b,0,none⟩),.string ⟨pass.toArray⟩] w fun e w'=>e=.returned (.int .i64 1)/\w'=w):
  Cl 11 #[.pointer (some ⟨bW,0,none⟩),.string ⟨pass.toArray⟩] w fun e w'=>e=.returned (.bool true)/\w'=w:=by
 have c0:w.cell? ⟨bW,0,none⟩=some (.pointer (some ⟨d,0,none⟩)):=h.at_.c 0;have c1:w.cell? ⟨bW,1,none⟩=some (.pointer (some ⟨b,0,none⟩)):=h.at_.c 1;have c3:w.cell? ⟨bW,3,none⟩=some (.bool false):=by rw[<-f];exact h.at_.c 3
 have i:=Aa g;have j:=Aa (Ty d w c h2);have k:=Aa (Ac2 bW d b l lv may ops pass w h (by unfold Ts;simp;omega));have n:(ByteArray.mk pass.toArray).size=pass.length:=rfl;have hd:decide ((40:Int)<(pass.length:Int))=true:=by simp;omega
 clear h f g h2 m;generalize pass.length=PL at*;go_enter Tryz.func11,Tryz.ntmps11;go_wp2_with fail;refine j.o.mono ?_;rintro e w1 ⟨rfl,a⟩;rw[a];clear a w1 j;go_wp2_with fail;refine k.o.mono ?_;rintro e w1 ⟨rfl,a⟩;rw[a];clear a w1 k;go_wp2_with fail;refine i.o.mono ?_;rintro e w1 ⟨rfl,a⟩;rw[a];clear a w1 i;go_wp2_with fail;go_ret;exact⟨rfl,rfl⟩
def LS.tries (l:LS)(pass:By)(tv:Value)(tr:List By):LS:={l with pass:=pass,r2:=Cv tv (Ky pass tr)}
def Av0 (w w':World)(bW d b:Nat)(l:LS)(lv:Value)(may:Option (By×PL))(ops:List Ag)(pass:By)(tr:List By)(g e0:Nat)(c:World->World->Prop)(e:List Nat):Prop:=
 ∃a,
  (e0=0->∃f,Abe w w' bW d b l (l.tries pass a tr) {l.tries pass a tr with may:=f,opened:=true,ops:=.slice none 0 0,base:=g} lv (.slice none 0 0) may (some (pass,[])) ops [] c e)/\
  (e0≠0->Abe w w' bW d b l (l.tries pass a tr) (l.tries pass a tr) lv lv may may ops ops c e)
theorem Ai8 (pass:By)(z L e0:Nat)(tv R:Value)(tr sl:List By)(aa:World->World->Prop)(T:List Nat)(h:Bi w bW d b l lv may ops)(v:l.opened=false)(al:pass.length<=40)(hr:l.r2=Cv tv tr)(ax:tr.length<=1000000)(t:l.r1=Cv R sl)(bj:z<=1048576)(h2:w.cell? ⟨d,2,none⟩=some (.int .i64 z))(n:∀a w1,aa a w1->w1.cell? ⟨d,3,none⟩=some (.int .i64 L)/\d<w1.heap.size)
  (A:∀j∈T,j∉Gj bW l lv/\j<w.heap.size) (r:e0=0\/(e0=10/\L<z+2))
  (N:∀a,Kp (Hw bW l) w a->Cl 23 #[.pointer (some ⟨b,0,none⟩),.string ⟨pass.toArray⟩] a fun e w'=>e=.returned (.int .i64 (e0:Int))/\aa a w'/\Kp T a w'):
  Cl 11 #[.pointer (some ⟨bW,0,none⟩),.string ⟨pass.toArray⟩] w fun e w'=>e=.returned (.bool true)/\Av0 w w' bW d b l lv may ops pass tr sl.length e0 aa T:=by
 have c0:w.cell? ⟨bW,0,none⟩=some (.pointer (some ⟨d,0,none⟩)):=h.at_.c 0;have a4:=Aa (Ty d w z h2);have a5:=Aa (Ani bW d b l lv may ops tv tr pass w h hr (by unfold Ts;rw[v];simpa using al) ax);have bd:(ByteArray.mk pass.toArray).size=pass.length:=rfl;have hd:decide ((40:Int)<(pass.length:Int))=false:=by simp;omega
 have au:Lo w R sl:=by have:=h.row 1 (by decide);have e:l.row 1=Cv R sl:=t;rw[e]at this;exact this
 obtain⟨am,ar,J⟩:=Aao au;have V:=fun j k=>h.bound (j:=j) k;have a0:=Aa (Ab v (Ab t (Ab J (Ab A (Ab N (Ab n (Ab r V)))))));have bo:(z:Int)<=1048576:=by omega
 clear h v N h2 al hr ax t bj n A r au J V;obtain⟨bz,ap⟩:=nmd (pass.length);rw[ap]at bd hd;clear ap;obtain⟨x,Y⟩:=nmd (sl.length);have bl:=Aa Y;rw[Y];clear Y;go_enter Tryz.func11,Tryz.ntmps11;go_wp2_with fail;refine a4.o.mono ?_;rintro e w1 ⟨rfl,ay⟩;rw[ay];clear ay w1 a4;go_wp2_with fail;refine a5.o.mono ?_;rintro e a ⟨rfl,M,f,c⟩;have f:Bi a bW d b (l.tries pass M tr) lv may ops:=f;have c:Bu w a bW l (l.tries pass M tr) lv lv:=c;obtain⟨l1,F⟩:=nmd (l.tries pass M tr);obtain⟨v,t,J,A,N,n,r,V⟩:=a0.o;have e1:l1.opened=false:=by rw[<-F];exact v
 have e2:l1.r1.v=.slice am x ar:=by rw[<-F,<-bl.o,<-J];show l.r1.v=R;rw[t];rfl
 rw[F]at f c;have a7:=Aa F;have ak:a.cell? ⟨bW,1,none⟩=some (.pointer (some ⟨b,0,none⟩)):=f.at_.c 1;have ag:=Aa (N a c.kp)
 have y:∀j∈T,j∉Gj bW l1 lv:=fun j k q=>by
  rcases c.new j q with g|g
  ·exact(A j k).1 g
  ·have:=(A j k).2;omega
 have ab:=Aa (Ab f (Ab c (Ab y (Ab e1 (Ab e2 (Ab n r))))));clear f c F v t J A N n r V e1 e2 y a0 a5 c0;go_wp2_with fail;refine ag.o.mono ?_;rintro e w1 ⟨rfl,K,hk⟩;obtain⟨f,c,y,e1,e2,n,r⟩:=ab.o;have m:=f.kp hk (fun j k g=>y j g k);have bu:w1.cell? ⟨bW,3,none⟩=some (.bool false):=by rw[<-e1];exact m.at_.c 3
 obtain⟨u,ae⟩:=nmd (w1.alloc (.cells #[Ac pass,.slice none 0 0] 70));have ad:Bw w1 u:=ae▸(Ah _ _).alloc (Ak _) _;have U:u.heap[w1.heap.size]?=some (.cells #[Ac pass,.slice none 0 0] 70 (0,0)):=ae▸heap_alloc_new w1 _;obtain⟨w2,ai⟩:=nmd (u.setCell ⟨w1.heap.size,1,none⟩ (.slice none 0 0));have o:Bw w1 w2:=ad.trans (Kp.toBelow (S:=[w1.heap.size]) (ai▸(Kp.refl _ u).setCell _ 1 _ (.inl (by simp))) ad.size (by simp));have C:w2.heap[w1.heap.size]?=some (.cells #[Ac pass,.slice none 0 0] 70 (0,0)):=by rw[<-ai,Cx U 1 _];rfl
 have bh:u.frozen? ⟨w1.heap.size,1,none⟩=false:=by simp[World.frozen?,U]
 have bc:u.cell? ⟨w1.heap.size,1,none⟩=some (.slice none 0 0):=crw U rfl;have O:=m.below o;obtain⟨g,be⟩:=nmd (w1.heap.size);rw[be]at C ai bh bc;simp only[Ac]at ae;clear ad U;obtain⟨aj,Z⟩:=n a w1 K;rcases r with rfl|⟨rfl,ba⟩
 ·have a9:w2.cell? ⟨g,0,none⟩=some (Ac pass):=crw C rfl;have b0:w2.cell? ⟨g,1,none⟩=some (.slice none 0 0):=crw C rfl;obtain⟨H,ac⟩:=nmd (w2.alloc (.cells #[Ac pass,.slice none 0 0] 70));have a2:Bw w2 H:=ac▸(Ah _ _).alloc (Ak _) _;have a6:H.heap[w2.heap.size]?=some (.cells #[Ac pass,.slice none 0 0] 70 (0,0)):=ac▸heap_alloc_new w2 _;have G:=o.trans (a2.mono o.size);obtain⟨E,m2⟩:=m.newMay 1 G (Do.nil _) (fun j k=>(by cases k)) a6 o.size;obtain⟨P,bb⟩:=nmd (H.setCell ⟨bW,2,none⟩ (.slice (some ⟨w2.heap.size,0,none⟩) 1 1));rw[bb]at E m2;have n1:=E.cell (l':={l1 with may:=.slice (some ⟨w2.heap.size,0,none⟩) 1 1,opened:=true}) 3 (.bool true) rfl rfl rfl (fun i s=>by match i,s with|0,_|1,_|2,_|3,_|4,_=>rfl);have n2:=m2.trans (Bu.cell (w:=P) (l':={l1 with may:=.slice (some ⟨w2.heap.size,0,none⟩) 1 1,opened:=true}) 3 (.bool true) rfl rfl (fun i s=>by match i,s with|0,_|1,_|2,_|3,_|4,_=>rfl));obtain⟨D,W⟩:=nmd (P.setCell ⟨bW,3,none⟩ (.bool true));rw[W]at n1 n2;obtain⟨o1,I⟩:=n1.newOps (Ah _ _) (Jz.nil _) (fun j k=>(by cases k));have I:=n2.trans I;obtain⟨Q,bk⟩:=nmd (D.setCell ⟨bW,4,none⟩ (.slice none 0 0));rw[bk]at o1 I;have av:=o1.cell (l':={l1 with may:=.slice (some ⟨w2.heap.size,0,none⟩) 1 1,opened:=true,ops:=.slice none 0 0,base:=x}) 10 (.int .i64 (x:Int)) rfl rfl rfl (fun i s=>by match i,s with|0,_|1,_|2,_|3,_|4,_=>rfl);have aw:=I.trans (Bu.cell (w:=Q) (l':={l1 with may:=.slice (some ⟨w2.heap.size,0,none⟩) 1 1,opened:=true,ops:=.slice none 0 0,base:=x}) 10 (.int .i64 (x:Int)) rfl rfl (fun i s=>by match i,s with|0,_|1,_|2,_|3,_|4,_=>rfl));have ah:∃X,H.cell? ⟨bW,2,none⟩=some X:=⟨_,(m.below G).at_.c 2⟩;obtain⟨X,ah⟩:=ah;have f2:H.frozen? ⟨bW,2,none⟩=false:=(m.below G).at_.fr 2;have bm:P.cell? ⟨bW,3,none⟩=some (.bool false):=by rw[E.at_.c 3,<-e1];rfl
  have bt:P.frozen? ⟨bW,3,none⟩=false:=E.at_.fr 3;have a8:D.cell? ⟨bW,4,none⟩=some l1.ops:=n1.at_.c 4;have bv:D.frozen? ⟨bW,4,none⟩=false:=n1.at_.fr 4;have bq:Q.cell? ⟨bW,11,none⟩=some (.slice am x ar):=by rw[o1.at_.c 11,<-e2];rfl
  have br:Q.cell? ⟨bW,10,none⟩=some (.int .i64 (l1.base:Int)):=o1.at_.c 10;have bn:Q.frozen? ⟨bW,10,none⟩=false:=o1.at_.fr 10;have af:=Aa (Ab f (Ab c (Ab K (Ab hk (Ab av aw)))));obtain⟨bp,bw,ao⟩:=Aao m.ops;rw[ao]at a8
  obtain⟨aq,a3,an,bg⟩:∃aq a3 an,X=.slice aq a3 an:=by
   have e:=(m.below G).at_.c 2;rw[ah]at e;have bi:X=l1.may:=by injection e
   rw[bi];have:=m.may
   cases may with
   |none=>exact⟨_,_,_,this.1⟩
   |some q=>obtain⟨_,_,bf,_⟩:=this;exact⟨_,_,_,bf⟩
  subst bg;simp only[Ac]at ac a9;clear f c y e1 e2 n K hk m O o a2 G C a6 E m2 n1 n2 o1 I av aw aj Z ab ag ao ak;generalize ops.length=OL at*;go_wp2_with fail;go_ret;refine⟨rfl,M,fun _=>⟨.slice (some ⟨w2.heap.size,0,none⟩) 1 1,?_⟩,fun h=>absurd rfl h⟩;rw[a7.o];exact⟨a,w1,af.o⟩
 ·have az:w2.cell? ⟨d,3,none⟩=some (.int .i64 (L:Int)):=(o.cell (p:=⟨d,3,none⟩) Z).trans aj;have a1:=Aa (Vu d w2 L az);have bx:w2.cell? ⟨bW,0,none⟩=some (.pointer (some ⟨d,0,none⟩)):=O.at_.c 0;have bs:decide ((L:Int)<(z:Int)+2)=true:=by simp;omega
  have af:=Aa (Ab f (Ab c (Ab K (Ab hk (Ab O (Bu.of_below o bW l1 lv))))));clear f c y e1 e2 n K hk m O o C aj Z ab ag az ba ak;go_wp2_with fail;refine a1.o.mono ?_;rintro e D ⟨rfl,W⟩;rw[W];clear W D a1;go_wp2_with fail;go_ret;refine⟨rfl,M,fun h=>(by cases h),fun _=>?_⟩;rw[a7.o];exact⟨a,w1,af.o⟩
end
def hiK:By:=[255,255,255,255,255,255,255,255,255]
def Ael (b:Nat)(a:PL)(w:World):Prop:=Cl 33 #[.pointer (some ⟨b,0,none⟩),.string ⟨(List.toArray [])⟩,.string ⟨hiK.toArray⟩] w fun e w'=>∃sv,e=.returned (.tuple #[sv,.int .i64 0])/\Do w' sv a/\(∀j,sv.ownBlock=some j->w.heap.size<=j)/\Bw w w'
section
variable {bW d b:Nat}{l:LS}{lv:Value}{may:Option (By×PL)}{ops:List Ag}{w:World}
theorem Ar6 (g:PL)(h:Hh w bW d b l)(a:Ael b g w):
  Cl 56 #[.pointer (some ⟨bW,0,none⟩)] w fun e w'=>∃sv,e=.returned (.tuple #[sv,.int .i64 0])/\Do w' sv g/\(∀j,sv.ownBlock=some j->w.heap.size<=j)/\Bw w w':=by
 have c1:w.cell? ⟨bW,1,none⟩=some (.pointer (some ⟨b,0,none⟩)):=h.c 1;have f:=Aa a;clear h a;go_enter Tryz.func56,Tryz.ntmps56;go_wp2_with fail;refine f.o.mono ?_;rintro e w1 ⟨sv,rfl,i,c,hb⟩;have k:=Aa (Ab i (Ab c hb));clear i c hb f;go_wp2_with fail;go_ret2;exact⟨sv,rfl,k.o⟩
def Tz (may:Option (By×PL))(pass:By)(a:PL):Bool:=match may with|none=>false|some (p,L0)=>p==pass&&decide (L0=a)
def LS.op (l:LS)(a:Nat):LS:={l with opened:=true,ops:=.slice none 0 0,base:=a}
structure Aqm (w w':World)(bW d b:Nat)(l:LS)(lv:Value)(may:Option (By×PL))(pass:By)(L:PL)(SL:Nat)(R:Bool):Prop where
 yes:R=true->∃mv sv,Bi w' bW d b {l.op SL with may:=mv} sv (some (pass,L)) []/\Bu w w' bW l {l.op SL with may:=mv} lv sv
 no:R=false->Bi w' bW d b (l.op SL) lv may []/\Bu w w' bW l (l.op SL) lv lv
theorem Nz {l l':LS}(h0:l'.r0=l.r0)(h1:l'.r1=l.r1)(h2:l'.r2=l.r2)(b:l'.r3=l.r3)(a:l'.r4=l.r4):∀i,i<5->l'.row i=l.row i:=fun i c=>by
 match i,c with
 |0,_=>exact h0
 |1,_=>exact h1
 |2,_=>exact h2
 |3,_=>exact b
 |4,_=>exact a
theorem Awe (pass:By)(k:PL)(V:Value)(sl:List By)(h:Bi w bW d b l lv may ops)(Q:l.r1=Cv V sl)(ax:(Ic may).length<=5000)(ap:∀ak,Kp [bW] w ak->Ael b k ak):
  Cl 27 #[.pointer (some ⟨bW,0,none⟩),.string ⟨pass.toArray⟩] w fun e w'=>e=.returned (.bool (Tz may pass k))/\Aqm w w' bW d b l lv may pass k sl.length (Tz may pass k):=by
 obtain⟨n,R⟩:=nmd (sl.length)
 have az:Lo w V sl:=by have:=h.row 1 (by decide);have e:l.row 1=Cv V sl:=Q;rw[e]at this;exact this
 obtain⟨am,ay,a0⟩:=Aao az;have e2:l.r1.v=.slice am n ay:=by rw[Q,<-R,<-a0];rfl
 have c3:w.cell? ⟨bW,3,none⟩=some (.bool l.opened):=h.at_.c 3;have bo:w.frozen? ⟨bW,3,none⟩=false:=h.at_.fr 3;have G:=h.cell (l':={l with opened:=true}) 3 (.bool true) rfl rfl rfl (Nz rfl rfl rfl rfl rfl);have Z:Bu w (w.setCell ⟨bW,3,none⟩ (.bool true)) bW l {l with opened:=true} lv lv:=Bu.cell 3 (.bool true) rfl rfl (Nz rfl rfl rfl rfl rfl);have ad:Kp [bW] w (w.setCell ⟨bW,3,none⟩ (.bool true)):=(Kp.refl _ w).setCell bW 3 _ (.inl (by simp));obtain⟨w1,a2⟩:=nmd (w.setCell ⟨bW,3,none⟩ (.bool true));rw[a2]at G Z ad;obtain⟨bj,bs,aq⟩:=Aao h.ops;have c4:w1.cell? ⟨bW,4,none⟩=some (.slice bj ops.length bs):=by rw[G.at_.c 4,<-aq];rfl
 have bq:w1.frozen? ⟨bW,4,none⟩=false:=G.at_.fr 4;obtain⟨v,F⟩:=G.newOps (Ah _ _) (Jz.nil _) (fun j W=>(by cases W));have F:=Z.trans F;have X:Kp [bW] w (w1.setCell ⟨bW,4,none⟩ (.slice none 0 0)):=ad.setCell bW 4 _ (.inl (by simp));obtain⟨w2,a9⟩:=nmd (w1.setCell ⟨bW,4,none⟩ (.slice none 0 0));rw[a9]at v F X;have bh:w2.cell? ⟨bW,11,none⟩=some (.slice am n ay):=by rw[v.at_.c 11,<-e2];rfl
 have bl:w2.cell? ⟨bW,10,none⟩=some (.int .i64 (l.base:Int)):=v.at_.c 10;have bf:w2.frozen? ⟨bW,10,none⟩=false:=v.at_.fr 10;have a:Bi (w2.setCell ⟨bW,10,none⟩ (.int .i64 (n:Int))) bW d b (l.op n) lv may []:=v.cell (l':=l.op n) 10 (.int .i64 (n:Int)) rfl rfl rfl (Nz rfl rfl rfl rfl rfl);have f:=F.trans (Bu.cell (w:=w2) (l':=l.op n) 10 (.int .i64 (n:Int)) rfl rfl (Nz rfl rfl rfl rfl rfl));have ac:Kp [bW] w (w2.setCell ⟨bW,10,none⟩ (.int .i64 (n:Int))):=X.setCell bW 10 _ (.inl (by simp));obtain⟨bk,aw⟩:=nmd (w2.setCell ⟨bW,10,none⟩ (.int .i64 (n:Int)));rw[aw]at a f ac;have al:=Aa (Ar6 k a.at_ (ap bk ac));have Y:=Aa (Ab a f);have ao:=Aa ax;rw[R];clear h Q az a0 e2 G Z ad aq v F X a f ac ap R ax;generalize ops.length=OL at*;obtain⟨y,T⟩:=nmd (Tz may pass k);have ag:=Aa T;rw[T];clear T;go_enter Tryz.func27,Tryz.ntmps27;go_wp2_with fail;refine al.o.mono ?_;rintro e t ⟨sv,rfl,o,s,m⟩;obtain⟨aa,sc,be⟩:=Aao o;subst be;obtain⟨a,f⟩:=Y.o;have c:=a.below m;have r:=f.trans (Bu.of_below m bW _ lv);clear c3 bo c4 bq bh bl bf a2 a9 aw al;obtain⟨a6,E⟩:=nmd (k.length);rw[E]
 cases may with
 |none=>
  have u:y=false:=by rw[<-ag.o];rfl
  subst u;have c2:t.cell? ⟨bW,2,none⟩=some (.slice none 0 0):=by rw[c.at_.c 2,<-c.may.1];rfl
  have L:=Aa (Ab c r);clear a f c r o s m Y E;go_wp2_with fail
  go_loopw [7] (fun i wr=>i=.int .i64 0/\wr=t) (fun _ _=>0)
  case atStart=>exact⟨rfl,rfl⟩
  case round=>obtain⟨rfl,S⟩:=hrel;subst S;go_wp2_with fail;go_ret;exact⟨rfl,⟨fun h=>(by cases h),fun _=>L.o⟩⟩
 |some q=>
  obtain⟨p,x⟩:=q;obtain⟨g,cap,ba,a4,af⟩:=c.may;have c2:t.cell? ⟨bW,2,none⟩=some (.slice (some ⟨g,0,none⟩) 1 cap):=by rw[c.at_.c 2,<-ba];rfl
  obtain⟨br,bt,U⟩:=Aao af;have P:t.cell? ⟨g,1,none⟩=some (.slice br x.length bt):=by rw[cell_of_row _ _ _ _ _ _ a4,<-U];rfl
  have bn:x.length<=5000:=ao.o;have ai:=Amy lv (.slice aa k.length sc) x k t af o (by omega);rw[U,E]at ai;have aj:=Aa ai;have L:=Aa (Ab c (Ab r (Ab a (Ab f (Ab m (Ab o s))))));have a1:y=(p==pass&&decide (x=k)):=by rw[<-ag.o];rfl
  have O:=Aa a1;have bm:=Aa E;clear a f c r o s m Y ba a4 af ai bn a1 E ag ao U;generalize x.length=N0 at*;have an:=Aa (Ab c2 P);clear c2 P;go_wp2_with fail
  go_loopw [7] (fun i wr=>(i=.int .i64 0/\wr=t)\/(i=.int .i64 1/\y=false/\Bw t wr)) (fun i _=>(10-intOf i).toNat)
  case atStart=>exact .inl ⟨rfl,rfl⟩
  case round=>
   rcases hrel with⟨rfl,S⟩|⟨rfl,u,N⟩
   ·subst S;obtain⟨c2,P⟩:=an.o;go_wp2_with fail;refine aj.o.mono ?_;rintro e z ⟨rfl,I⟩;obtain⟨c,r,a,f,m,o,s⟩:=L.o;have C:=m.trans (I.mono m.size);have K:=a.below C;have a5:z.cell? ⟨bW,2,none⟩=some (.slice (some ⟨g,0,none⟩) 1 cap):=(I.cell (p:=⟨bW,2,none⟩) c.at_.lt).trans c2
    have bc:z.cell? ⟨g,0,none⟩=some (Ac p):=by
     obtain⟨bb,bu,bg,bd,_⟩:=K.may;have e:=K.at_.c 2;rw[a5]at e;have a8:(Value.slice (some ⟨g,0,none⟩) 1 cap)=l.may:=by injection e
     have bp:l.may=.slice (some ⟨bb,0,none⟩) 1 bu:=bg;rw[bp]at a8;cases a8;rw[cell_of_row _ _ _ _ _ _ bd];rfl
    have ab:=o.below I;rw[bm.o]at ab s;obtain⟨D,ar⟩:=nmd (decide (x=k));rw[ar]at O⊢;obtain⟨J,H⟩:=nmd (z.alloc (.cells #[Ac pass,.slice aa a6 sc] 70));have M:Bw z J:=H▸(Ah _ _).alloc (Ak _) _;have a3:J.heap[z.heap.size]?=some (.cells #[Ac pass,.slice aa a6 sc] 70 (0,0)):=H▸heap_alloc_new z _;have ae:=C.trans (M.mono C.size);obtain⟨av,m2⟩:=a.newMay 1 ae (ab.below M) (fun j W=>.inr (s j W)) a3 C.size;have m2:=f.trans m2;have a7:J.cell? ⟨bW,2,none⟩=some (.slice (some ⟨g,0,none⟩) 1 cap):=(M.cell (p:=⟨bW,2,none⟩) K.at_.lt).trans a5;have au:J.frozen? ⟨bW,2,none⟩=false:=(a.below ae).at_.fr 2;have A:=Aa (Ab av (Ab m2 I));simp only[Ac]at H bc;clear c r a f m o s C K ab M a3 ae av m2 I aj ar c2 P
    cases ah:(p==pass)with
    |true=>
     cases D with
     |true=>
      have bi:y=true:=by rw[O.o,ah];rfl
      subst bi;go_wp2_with fail;go_ret;exact⟨rfl,⟨fun _=>⟨_,_,A.o.1,A.o.2.1⟩,fun h=>(by cases h)⟩⟩
     |false=>
      have u:y=false:=by rw[O.o,ah];rfl
      clear a7 au H;go_wp2_with fail;exact⟨.inr ⟨rfl,u,A.o.2.2⟩,by simp only[intOf];omega⟩
    |false=>
     have u:y=false:=by rw[O.o,ah];rfl
     clear a7 au H;go_wp2_with fail;exact⟨.inr ⟨rfl,u,A.o.2.2⟩,by simp only[intOf];omega⟩
   ·subst u;obtain⟨c,r,a,f,m,o,s⟩:=L.o;have c2:wr.cell? ⟨bW,2,none⟩=some (.slice (some ⟨g,0,none⟩) 1 cap):=(N.cell (p:=⟨bW,2,none⟩) c.at_.lt).trans an.o.1;have A:=Aa (Ab (c.below N) (r.trans (Bu.of_below N bW _ lv)));clear c r a f m o s N aj;go_wp2_with fail;go_ret;exact⟨rfl,⟨fun h=>(by cases h),fun _=>A.o⟩⟩
end
section
variable {bW d b:Nat}{l:LS}{lv:Value}{may:Option (By×PL)}{ops:List Ag}{w:World}
theorem Aze (pass:By)(f:Nat)(h:Bi w bW d b l lv may ops)(c:l.opened=true)(h2:w.cell? ⟨d,2,none⟩=some (.int .i64 f))(g:Cl 25 #[.pointer (some ⟨b,0,none⟩),.string ⟨pass.toArray⟩] w fun e w'=>e=.returned (.int .i64 2)/\w'=w):
  Cl 12 #[.pointer (some ⟨bW,0,none⟩),.string ⟨pass.toArray⟩] w fun e w'=>e=.returned (.bool true)/\w'=w:=by
 have c0:w.cell? ⟨bW,0,none⟩=some (.pointer (some ⟨d,0,none⟩)):=h.at_.c 0;have c1:w.cell? ⟨bW,1,none⟩=some (.pointer (some ⟨b,0,none⟩)):=h.at_.c 1;have c3:w.cell? ⟨bW,3,none⟩=some (.bool true):=by rw[<-c];exact h.at_.c 3
 have i:=Aa g;have j:=Aa (Ty d w f h2);have k:=Aa (Ac2 bW d b l lv may ops pass w h (by unfold Ts;rw[c];rfl));clear h c g h2;go_enter Tryz.func12,Tryz.ntmps12;go_wp2_with fail;refine j.o.mono ?_;rintro e w1 ⟨rfl,a⟩;rw[a];clear a w1 j;go_wp2_with fail;refine k.o.mono ?_;rintro e w1 ⟨rfl,a⟩;rw[a];clear a w1 k;go_wp2_with fail;refine i.o.mono ?_;rintro e w1 ⟨rfl,a⟩;rw[a];clear a w1 i;go_wp2_with fail;go_ret;exact⟨rfl,rfl⟩
theorem A16 (pass:By)(c:Nat)(h:Bi w bW d b l lv may ops)(f:l.opened=false)(m:40<pass.length)(h2:w.cell? ⟨d,2,none⟩=some (.int .i64 c))(g:Cl 25 #[.pointer (some ⟨b,0,none⟩),.string ⟨pass.toArray⟩] w fun e w'=>e=.returned (.int .i64 1)/\w'=w):
  Cl 12 #[.pointer (some ⟨bW,0,none⟩),.string ⟨pass.toArray⟩] w fun e w'=>e=.returned (.bool true)/\w'=w:=by
 have c0:w.cell? ⟨bW,0,none⟩=some (.pointer (some ⟨d,0,none⟩)):=h.at_.c 0;have c1:w.cell? ⟨bW,1,none⟩=some (.pointer (some ⟨b,0,none⟩)):=h.at_.c 1;have c3:w.cell? ⟨bW,3,none⟩=some (.bool false):=by rw[<-f];exact h.at_.c 3
 have i:=Aa g;have j:=Aa (Ty d w c h2);have k:=Aa (Ac2 bW d b l lv may ops pass w h (by unfold Ts;simp;omega));have n:(ByteArray.mk pass.toArray).size=pass.length:=rfl;have hd:decide ((40:Int)<(pass.length:Int))=true:=by simp;omega
 clear h f g h2 m;generalize pass.length=PL at*;go_enter Tryz.func12,Tryz.ntmps12;go_wp2_with fail;refine j.o.mono ?_;rintro e w1 ⟨rfl,a⟩;rw[a];clear a w1 j;go_wp2_with fail;refine k.o.mono ?_;rintro e w1 ⟨rfl,a⟩;rw[a];clear a w1 k;go_wp2_with fail;refine i.o.mono ?_;rintro e w1 ⟨rfl,a⟩;rw[a];clear a w1 i;go_wp2_with fail;go_ret;exact⟨rfl,rfl⟩
def Agr (may:Option (By×PL))(pass:By):Bool:=match may with|none=>false|some (p,_)=>p==pass
def Wt (e0:Nat)(may:Option (By×PL))(pass:By)(a:PL):Bool:=if e0=0 then Tz may pass a else if e0=10 then Agr may pass else true
def Az1 (w w':World)(bW d b:Nat)(l:LS)(lv:Value)(may:Option (By×PL))(ops:List Ag)(pass:By)(tr:List By)(h e0:Nat)(g:PL)(e:World->World->Prop)(f:List Nat)(i:Bool):Prop:=
 ∃a,(e0≠0->Abe w w' bW d b l (l.tries pass a tr) (l.tries pass a tr) lv lv may may ops ops e f)/\
  (e0=0->∃c w1,Bi c bW d b (l.tries pass a tr) lv may ops/\Bu w c bW l (l.tries pass a tr) lv lv/\e c w1/\Kp f c w1/\Aqm w1 w' bW d b (l.tries pass a tr) lv may pass g h i)
theorem Adp (pass:By)(F Q e0:Nat)(v:PL)(tv aj:Value)(tr sl:List By)(ac:World->World->Prop)(K:List Nat)(h:Bi w bW d b l lv may ops)(O:l.opened=false)(am:pass.length<=40)(hr:l.r2=Cv tv tr)(ap:tr.length<=1000000)(S:l.r1=Cv aj sl)(C:(Ic may).length<=5000)(a2:F<=1048576)(h2:w.cell? ⟨d,2,none⟩=some (.int .i64 F))(I:∀a w1,ac a w1->w1.cell? ⟨d,3,none⟩=some (.int .i64 Q))
  (R:∀j∈K,j∉Gj bW l lv/\j<w.heap.size) (x:e0=0\/(e0=10/\Q<F+2)\/(e0=8/\Agr may pass=false))
  (ab:∀a,Kp (Hw bW l) w a->Cl 25 #[.pointer (some ⟨b,0,none⟩),.string ⟨pass.toArray⟩] a fun e w'=>e=.returned (.int .i64 (e0:Int))/\ac a w'/\Kp K a w')
  (z:e0=0->∀a w1,ac a w1->∀al,Kp [bW] w1 al->Ael b v al):
  Cl 12 #[.pointer (some ⟨bW,0,none⟩),.string ⟨pass.toArray⟩] w fun e w'=>e=.returned (.bool (Wt e0 may pass v))/\Az1 w w' bW d b l lv may ops pass tr sl.length e0 v ac K (Wt e0 may pass v):=by
 have c0:w.cell? ⟨bW,0,none⟩=some (.pointer (some ⟨d,0,none⟩)):=h.at_.c 0;have aw:=Aa (Ty d w F h2);have ax:=Aa (Ani bW d b l lv may ops tv tr pass w h hr (by unfold Ts;rw[O];simpa using am) ap);have a0:(ByteArray.mk pass.toArray).size=pass.length:=rfl;have hd:decide ((40:Int)<(pass.length:Int))=false:=by simp;omega
 have au:=Aa (Ab O (Ab S (Ab R (Ab ab (Ab I (Ab x (Ab z C)))))));have a3:(F:Int)<=1048576:=by omega
 obtain⟨y,ai⟩:=nmd (Wt e0 may pass v);have k:=Aa ai;rw[ai];clear h O ab h2 am hr ap S a2 I R x z C ai;obtain⟨a6,ao⟩:=nmd (pass.length);rw[ao]at a0 hd;clear ao;go_enter Tryz.func12,Tryz.ntmps12;go_wp2_with fail;refine aw.o.mono ?_;rintro e w1 ⟨rfl,aq⟩;rw[aq];clear aq w1 aw;go_wp2_with fail;refine ax.o.mono ?_;rintro e a ⟨rfl,r,u,t⟩;have u:Bi a bW d b (l.tries pass r tr) lv may ops:=u;have t:Bu w a bW l (l.tries pass r tr) lv lv:=t;obtain⟨l1,W⟩:=nmd (l.tries pass r tr);obtain⟨O,S,R,ab,I,x,z,C⟩:=au.o;have e1:l1.opened=false:=by rw[<-W];exact O
 have e2:l1.r1=Cv aj sl:=by rw[<-W];exact S
 rw[W]at u t;have J:=Aa W;have az:a.cell? ⟨bW,1,none⟩=some (.pointer (some ⟨b,0,none⟩)):=u.at_.c 1;have ar:=Aa (ab a t.kp)
 have Z:∀j∈K,j∉Gj bW l1 lv:=fun j ad q=>by
  rcases t.new j q with g|g
  ·exact(R j ad).1 g
  ·have:=(R j ad).2;omega
 have an:=Aa (Ab u (Ab t (Ab Z (Ab e1 (Ab e2 (Ab I (Ab x (Ab z C))))))));clear u t W O S R ab I x e1 e2 Z au ax c0 z C;go_wp2_with fail;refine ar.o.mono ?_;rintro e w1 ⟨rfl,af,hk⟩;obtain⟨u,t,Z,e1,e2,I,x,z,C⟩:=an.o;have E:=u.kp hk (fun j ad g=>Z j g ad);have a5:w1.cell? ⟨bW,3,none⟩=some (.bool false):=by rw[<-e1];exact E.at_.c 3
 have a4:w1.cell? ⟨bW,0,none⟩=some (.pointer (some ⟨d,0,none⟩)):=E.at_.c 0;have n:=Aa (Vu d w1 Q (I a w1 af));have P:=Aa (Afm bW d b l1 e0 w1 E.at_);have s:=Aa (show e0=0->_ from fun h0=>Awe pass v aj sl E e2 C (z h0 a w1 af));have o:=Aa x;have f:=Aa (Ab u (Ab t (Ab af (Ab hk (Ab E (Bu.refl w1 bW l1 lv))))));have ae:=Aa (Ab E.may (Ab (E.at_.c 2) (show(Sv d b l1)[2]?=some l1.may from rfl)));clear u t Z e1 e2 I x z C af hk E an ar az
 cases may with
 |none=>
  obtain⟨Y,T,aa⟩:=ae.o;have c2:w1.cell? ⟨bW,2,none⟩=some (.slice none 0 0):=by rw[T,aa,Y.1]
  clear Y T aa ae;go_wp2_with fail
  go_loopw [7,8] (fun M i wr=>M=.int .i64 0/\i=.int .i64 0/\wr=w1) (fun _ _ _=>0)
  case atStart=>exact⟨rfl,rfl,rfl⟩
  case round=>
   obtain⟨rfl,rfl,L⟩:=hrel;subst L;go_wp2_with fail;refine P.o.mono ?_;rintro e w2 ⟨rfl,H⟩;rw[H];clear H w2 P;rcases o.o with h0|⟨U,V⟩|⟨ag,N⟩
   ·subst h0;have c:y=Tz none pass v:=by rw[<-k.o];rfl
    have m:=Aa (s.o rfl);rw[<-c]at m;clear s o n c k;go_wp2_with fail;refine m.o.mono ?_;rintro e D ⟨rfl,G⟩;have X:=Aa G;clear G m;go_wp2_with fail;go_ret;refine⟨rfl,r,fun h=>absurd rfl h,fun _=>?_⟩;rw[J.o];exact⟨a,wr,f.o.1,f.o.2.1,f.o.2.2.1,f.o.2.2.2.1,X.o⟩
   ·subst U;have c:y=false:=by rw[<-k.o];rfl
    subst c;have av:decide ((F:Int)+2<=(Q:Int))=false:=by simp;omega
    clear s o V k;go_wp2_with fail;refine n.o.mono ?_;rintro e D ⟨rfl,A⟩;rw[A];clear A D n;go_wp2_with fail;go_ret;refine⟨rfl,r,fun _=>?_,fun h=>(by cases h)⟩;rw[J.o];exact⟨a,wr,f.o⟩
   ·subst ag;have c:y=true:=by rw[<-k.o];rfl
    subst c;clear s o n N k;go_wp2_with fail;go_ret;refine⟨rfl,r,fun _=>?_,fun h=>(by cases h)⟩;rw[J.o];exact⟨a,wr,f.o⟩
 |some q=>
  obtain⟨p,ah⟩:=q;obtain⟨⟨g,cap,Y,ay,_⟩,T,aa⟩:=ae.o;have c2:w1.cell? ⟨bW,2,none⟩=some (.slice (some ⟨g,0,none⟩) 1 cap):=by rw[T,aa,Y]
  have a1:w1.cell? ⟨g,0,none⟩=some (Ac p):=crw ay rfl;simp only[Ac]at a1;clear Y ay T aa ae
  cases ak:(p==pass)with
  |true=>
   go_wp2_with fail
   go_loopw [7,8] (fun M i wr=>((M=.int .i64 0/\i=.int .i64 0)\/(M=.int .i64 1/\i=.int .i64 1))/\wr=w1) (fun _ i _=>(10-intOf i).toNat)
   case atStart=>exact⟨.inl ⟨rfl,rfl⟩,rfl⟩
   case round=>
    obtain⟨⟨rfl,rfl⟩|⟨rfl,rfl⟩,L⟩:=hrel
    ·subst L;go_wp2_with fail;exact⟨⟨.inr ⟨rfl,rfl⟩,by first|trivial|rfl⟩,by simp only[intOf];omega⟩
    ·subst L;go_wp2_with fail;refine P.o.mono ?_;rintro e w2 ⟨rfl,H⟩;rw[H];clear H w2 P;rcases o.o with h0|⟨U,V⟩|⟨ag,N⟩
     ·subst h0;have c:y=Tz (some (p,ah)) pass v:=by rw[<-k.o];rfl
      have m:=Aa (s.o rfl);rw[<-c]at m;clear s o n c k;go_wp2_with fail;refine m.o.mono ?_;rintro e D ⟨rfl,G⟩;have X:=Aa G;clear G m;go_wp2_with fail;go_ret;refine⟨rfl,r,fun h=>absurd rfl h,fun _=>?_⟩;rw[J.o];exact⟨a,wr,f.o.1,f.o.2.1,f.o.2.2.1,f.o.2.2.2.1,X.o⟩
     ·subst U;have c:y=true:=by rw[<-k.o];exact ak
      subst c;have av:decide ((F:Int)+2<=(Q:Int))=false:=by simp;omega
      clear s o V k;go_wp2_with fail;refine n.o.mono ?_;rintro e D ⟨rfl,A⟩;rw[A];clear A D n;go_wp2_with fail;go_ret;refine⟨rfl,r,fun _=>?_,fun h=>(by cases h)⟩;rw[J.o];exact⟨a,wr,f.o⟩
     ·exfalso;rw[show Agr (some (p,ah)) pass=true from ak]at N;cases N
  |false=>
   go_wp2_with fail
   go_loopw [7,8] (fun M i wr=>((M=.int .i64 0/\i=.int .i64 0)\/(M=.int .i64 0/\i=.int .i64 1))/\wr=w1) (fun _ i _=>(10-intOf i).toNat)
   case atStart=>exact⟨.inl ⟨rfl,rfl⟩,rfl⟩
   case round=>
    obtain⟨⟨rfl,rfl⟩|⟨rfl,rfl⟩,L⟩:=hrel
    ·subst L;go_wp2_with fail;exact⟨⟨.inr ⟨rfl,rfl⟩,by first|trivial|rfl⟩,by simp only[intOf];omega⟩
    ·subst L;go_wp2_with fail;refine P.o.mono ?_;rintro e w2 ⟨rfl,H⟩;rw[H];clear H w2 P;rcases o.o with h0|⟨U,V⟩|⟨ag,N⟩
     ·subst h0;have c:y=Tz (some (p,ah)) pass v:=by rw[<-k.o];rfl
      have m:=Aa (s.o rfl);rw[<-c]at m;clear s o n c k;go_wp2_with fail;refine m.o.mono ?_;rintro e D ⟨rfl,G⟩;have X:=Aa G;clear G m;go_wp2_with fail;go_ret;refine⟨rfl,r,fun h=>absurd rfl h,fun _=>?_⟩;rw[J.o];exact⟨a,wr,f.o.1,f.o.2.1,f.o.2.2.1,f.o.2.2.2.1,X.o⟩
     ·subst U;have c:y=false:=by rw[<-k.o];exact ak
      subst c;have av:decide ((F:Int)+2<=(Q:Int))=false:=by simp;omega
      clear s o V k;go_wp2_with fail;refine n.o.mono ?_;rintro e D ⟨rfl,A⟩;rw[A];clear A D n;go_wp2_with fail;go_ret;refine⟨rfl,r,fun _=>?_,fun h=>(by cases h)⟩;rw[J.o];exact⟨a,wr,f.o⟩
     ·subst ag;have c:y=true:=by rw[<-k.o];rfl
      subst c;clear s o n N k;go_wp2_with fail;go_ret;refine⟨rfl,r,fun _=>?_,fun h=>(by cases h)⟩;rw[J.o];exact⟨a,wr,f.o⟩
end
def DM.poke (m:DM)(k:Nat)(t:By):DM:={m with blocks:=m.blocks.set k (Ar t 256),cache:=m.cache.set k []}
theorem Anm (d:Oper)(a:Act)(x:Operand)(s n c:Nat)(b:By)(e:d.op=.convert 54 9 x)(f:a.eval x=.slice (some ⟨s,0,none⟩) n c)(w:World)(g:(convert 54 9 (.slice (some ⟨s,0,none⟩) n c)).run Tryz.prog w=.ok (Ac b) w):
  (execOp a.eval d).run Tryz.prog w=.ok (.value (Ac b)) w:=by
 unfold execOp;simp only[e,f];clear f e
 go_simp
theorem A33 (d:Oper)(a:Act)(x e:Operand)(b c:Nat)(old:Value)(t:By)(f:d.op=.store 9 x e)(g:a.eval x=.pointer (some ⟨b,c,none⟩))(hy:a.eval e=Ac t)(w:World)(i:w.cell? ⟨b,c,none⟩=some old)(h:w.frozen? ⟨b,c,none⟩=false):
  (execOp a.eval d).run Tryz.prog w=.ok .skip (w.setCell ⟨b,c,none⟩ (Ac t)):=by
 unfold execOp;simp only[f,g,hy,Ac];clear g hy f
 go_simp
theorem Zi {w w':World}{s n c:Nat}{a:By}(h:w.heap[s]?=some (.cells (Ae a).toArray 5 (0,0)))(e:w'.heap[s]?=w.heap[s]?)(d:a.length=n):(convert 54 9 (.slice (some ⟨s,0,none⟩) n c)).run Tryz.prog w'=.ok (Ac a) w':=by
 have f:Bo w' s 5 .u8 (Ap a):=by refine⟨(Ae a).toArray,e.trans h,by simp[Ae,Ap],fun i g=>?_⟩;rw[<-Dw];exact Mr .u8 _ i g
 have b:=Qh (cap:=c) f;rw[Dt,d,Yu]at b;exact b
theorem Ajg (x:DX)(m:DM)(wv:Value)(k:Nat)(t:By)(w:World)(h:Cr w x m wv)(hk:k<m.blocks.length):
  Cl 68 #[.pointer (some ⟨x.d,0,none⟩),.int .i64 k,.string ⟨t.toArray⟩] w fun e w'=>e=.returned (.tuple #[])/\Cr w' x (m.poke k t) wv/\Kp [x.bb,x.bc] w w':=by
 have J:(Instr.makeSlice 54 (.int .i64 256) (.int .i64 256)).run Tryz.prog w=.ok (.slice (some ⟨w.heap.size,0,none⟩) 256 256) (w.alloc (.cells (madeCells #[.int .u8 0] 256) 5)):=Zw 256 (by decide) w
 have H:∀u z,(Builtin.copy_ #[54,u] z #[.slice (some ⟨w.heap.size,0,none⟩) 256 256,.string ⟨t.toArray⟩]).run Tryz.prog (w.alloc (.cells (madeCells #[.int .u8 0] 256) 5))=.ok (goInt (t.take 256).length) (w.alloc (.cells (Ae (Ar t 256)).toArray 5)):=fun u z=>by rw[Aev];exact Abx t 256 w u z 5
 have v:=Jm t 256;unfold DM.poke;generalize Ar t 256=F at*;obtain⟨w0,f⟩:=nmd ((w.alloc (.cells (Ae F).toArray 5)).drew);have p:Bw w w0:=f▸((Ah _ _).alloc (Ak _) _).drew;have n:w0.heap[w.heap.size]?=some (.cells (Ae F).toArray 5 (0,0)):=f▸heap_alloc_new w _;have a:=h.kp (S:=[]) (Kp.of_below p) (by simp);obtain⟨w1,l⟩:=nmd (w0.setCell ⟨x.bb,k,none⟩ (Ac F));have c:Kp [x.bb] w0 w1:=l▸(Kp.refl _ w0).setCell x.bb k _ (.inl (by simp));have K:=h.rb.lt;have M:=h.rc.lt;have L:=h.lt;have e1:w1.heap[w.heap.size]?=w0.heap[w.heap.size]?:=c.block _ (lt_of_block n) (by simp;omega);obtain⟨w2,y⟩:=nmd (w1.setCell ⟨x.bc,k,none⟩ (Ac []));have r:Kp [x.bc] w1 w2:=y▸(Kp.refl _ w1).setCell x.bc k _ (.inl (by simp));have E:Hc w1 x.bb x.cb (m.blocks.set k F):=l▸a.rb.set k F;have o:=a.rc.kp c (by simpa using Ne.symm h.n3);have G:Hc w2 x.bc x.cc (m.cache.set k []):=y▸o.set k [];have I:=E.kp r (by simpa using h.n3);have g:Kp [x.bb,x.bc] w0 w2:=(c.mono (by simp)).trans (r.mono (by simp))
 have C:Cr w2 x ⟨m.blocks.set k F,m.cache.set k [],m.count,m.ceiling,m.wrote,m.sv⟩ wv:=by refine⟨?_,I,G,Bm a.own g (fun j P=>by have:=h.n4 j P;simp[this.2.1,this.2.2]),by simpa using h.same,by simpa using h.ge,by simpa using h.le,h.cl,h.n1,h.n2,h.n3,h.n4,h.wl⟩;rw[Ht];exact(g.block x.d a.lt (by simp[h.n1,h.n2])).trans a.blk
 have A:Kp [x.bb,x.bc] w w2:=(Kp.of_below p).trans g
 have b:=Aa (Ab f (Ab l (Ab (show ∀w'∈[w0,w1],w'.cell? ⟨x.d,0,none⟩=some (.slice (some ⟨x.bb,0,none⟩) m.blocks.length x.cb)from fun w' d=>by
  simp only[Al,Cq,or_false]at d;rcases d with rfl|rfl
  ·exact a.c0
  ·rw[cell_of_row _ _ _ _ _ _ ((c.block x.d a.lt (by simpa using h.n1)).trans a.blk)];rfl) (Ab (show ∀w'∈[w0,w1],(convert 54 9 (.slice (some ⟨w.heap.size,0,none⟩) 256 256)).run Tryz.prog w'=.ok (Ac F) w' from fun w' d=>by
  simp only[Al,Cq,or_false]at d;rcases d with rfl|rfl
  ·exact Zi n rfl v
  ·exact Zi n e1 v) (Ab (a.rb.cell hk) (a.rb.frozen k))))))
 have c1:w1.cell? ⟨x.d,1,none⟩=some (.slice (some ⟨x.bc,0,none⟩) m.blocks.length x.cc):=by rw[cell_of_row _ _ _ _ _ _ ((c.block x.d a.lt (by simpa using h.n1)).trans a.blk)];rfl
 have cc:=o.cell (i:=k) (by rw[h.same];exact hk);have U:=o.frozen k;have O:(k:Int)<(m.blocks.length:Int):=by omega
 have Q:=Aa (Ab C A);have R:=Aa O;simp only[Ac]at y cc;obtain⟨s,T⟩:=nmd (w.heap.size);rw[T]at b H J;clear h hk v f p n a l c K M L e1 r E o G I g C A;generalize m.blocks.length=N at*;go_enter Tryz.func68,Tryz.ntmps68;go_wp2_with fail;refine Gf (Ek [w0,w1]) [8] (by kernel_rfl) (by kernel_rfl) (by rw[<-b.o.1];rfl) ?_;refine Am 0 (.pointer (some ⟨x.d,0,none⟩)) ?_;refine Am 1 (.pointer (some ⟨x.d,0,none⟩)) ?_;refine Am 2 (.pointer (some ⟨x.d,0,none⟩)) ?_;refine Gv 3 (.slice (some ⟨x.bb,0,none⟩) N x.cb) Ad5 (fun q w hw=>b.o.2.2.1 w hw.mem) ?_;refine Am 4 (.int .i64 (k:Int)) ?_;refine Am 5 (.slice (some ⟨s,0,none⟩) 256 256) ?_;refine Em 6 (Ac F) rfl (by kernel_rfl) rfl (fun q=>My fun w hw=>Anm _ _ _ s 256 256 F rfl (by kernel_rfl) w (b.o.2.2.2.1 w hw.mem)) ?_;refine Em 7 (.pointer (some ⟨x.bb,k,none⟩)) rfl (by kernel_rfl) rfl (fun _=>Cp (fun w=>Ahf _ _ _ _ x.bb N x.cb k rfl (by kernel_rfl) (by kernel_rfl) R.o w)) ?_;refine Kr 8 rfl (by kernel_rfl) rfl (Kv w0 w1 rfl rfl (by rw[<-b.o.2.1];exact A33 _ _ _ _ x.bb k _ F rfl (by kernel_rfl) (by kernel_rfl) w0 b.o.2.2.2.2.1 b.o.2.2.2.2.2)) ?_;refine Cj.done (by kernel_rfl) fun w' D=>?_;simp only[Act.put,Cz,Dg,Co];obtain rfl:=D.eq (w0:=w1) rfl;clear D b J H;go_wp2_with fail
 first|go_end0|((try simp only[Exit.inBlock,Exit.then]);refine bodyPost_ret (results_none rfl _ _ _) rfl ?_)
 exact⟨rfl,Q.o⟩
def Rs (m:DM)(i:Nat):By:=Ar (m.look i) 256
def Oa (m:DM)(n k:Nat):List By:=(List.range k).map (Rs m)++List.replicate (n-k) Ii
theorem A0f (m:DM)(n:Nat):Oa m n 0=List.replicate n Ii:=by simp[Oa]
theorem Aea (m:DM)(n k:Nat)(h:k<=n):(Oa m n k).length=n:=by simp[Oa];omega
theorem A2e (m:DM)(n k:Nat)(h:k<n):(Oa m n k).set k (Rs m k)=Oa m n (k+1):=by
 unfold Oa;obtain⟨r,hr⟩:∃r,n-k=r+1:=⟨n-k-1,by omega⟩;have h2:n-(k+1)=r:=by omega
 rw[hr,h2,Aai,List.range_succ,Lw,Lu _ _ (by simp)];simp
theorem Ajz (m:DM)(n k:Nat)(h:k<n):(Oa m n n).getD k []=Rs m k:=by unfold Oa;rw[Po,List.replicate_zero,Ff];simp[List.getD,h]
theorem Arz (m:DM)(n k:Nat)(h:k<n):(Oa m n n).set k (Ar (Rs m k) 256)=Oa m n n:=by
 rw[show Ar (Rs m k) 256=Rs m k from Vh _ _ (Jm _ _)];have c:=Aea m n n (Ak _);have b:=Ajz m n k h
 have a:(Oa m n n)[k]'(by omega)=Rs m k:=by rw[<-b];simp[List.getD,show k<(Oa m n n).length by omega]
 rw[<-a,List.set_getElem_self]
def Aa5:By:=[97,110,111,116,104,101,114,32,116,101,120,116]
def Xl (k:Nat):List (Nat×By):=(List.range k).map fun i=>(i,Aa5)
theorem Axc (k:Nat):Xl (k+1)=Xl k++[(k,Aa5)]:=by simp[Xl,List.range_succ]
def Fo (m:DM)(k:Nat):List By:=(List.range k).map m.look
theorem Azw (m:DM)(k:Nat):Fo m (k+1)=Fo m k++[m.look k]:=by simp[Fo,List.range_succ]
theorem Cr.bound {w:World}{x:DX}{m:DM}{wv:Value}(h:Cr w x m wv){j:Nat}(a:j∈x.set wv):j<w.heap.size:=by
 simp only[DX.set,As,Al,Cq,or_false,Bf]at a;rcases a with(rfl|rfl|rfl)|a
 ·exact h.lt
 ·exact h.rb.lt
 ·exact h.rc.lt
 ·exact Hl h.own j a
structure Td (w wr:World)(bW b:Nat)(x x':DX)(m m':DM)(wv wv':Value)(l l':LS)(lv:Value)(may:Option (By×PL))(ops:List Ag):Prop where
 st:Bi wr bW x.d b l' lv may ops
 old:Cr wr x m wv
 new:Cr wr x' m' wv'
 lo:∀j∈x.set wv,j<w.heap.size
 fr:∀j∈x'.set wv',w.heap.size<=j
 s1:∀j∈Gj bW l' lv,j∉x.set wv
 s2:∀j∈Gj bW l' lv,j∉x'.set wv'
 go:Bu w wr bW l l' lv lv
section
variable {w wr:World}{bW b:Nat}{x x':DX}{m m':DM}{wv wv':Value}{l l':LS}{lv:Value}{may:Option (By×PL)}{ops:List Ag}
theorem Td.newD (h:Td w wr bW b x x' m m' wv wv' l l' lv may ops){w2:World}{m2:DM}{c:Value}(hk:Kp (x'.set wv') wr w2)(hd:Cr w2 x' m2 c)(e:∀j,c.ownBlock=some j->wv'.ownBlock=some j\/wr.heap.size<=j):Td w w2 bW b x x' m m2 wv c l l' lv may ops:=by
 have hz:=h.go.kp.size
 have d:∀j∈x'.set c,j∈x'.set wv'\/wr.heap.size<=j:=fun j a=>by
  simp only[DX.set,As,Bf]at a⊢;rcases a with g|g
  ·exact .inl (.inl g)
  ·exact(e j g).imp .inr id
 refine⟨h.st.kp hk (fun j a=>h.s2 j a),h.old.kp hk (fun j a g=>by have:=h.lo j a;have:=h.fr j g;omega),hd,h.lo,fun j a=>?_,h.s1,fun j a g=>?_,⟨h.go.kp.step hk (fun j a=>.inr (h.fr j a)),h.go.mu,h.go.new⟩⟩
 ·rcases d j a with g|g
  ·exact h.fr j g
  ·omega
 ·rcases d j g with q|q
  ·exact h.s2 j a q
  ·have:=h.st.bound a;omega
theorem Td.text (h:Td w wr bW b x x' m m' wv wv' l l' lv may ops){w1 w2 d:World}{t e:TypeId}{k:List Value}{i:Md}{a:Option Addr}{n cap:Nat}(A:Acm t e k wr w1 w2 d bW x.d b l' lv may ops 4 i a n cap):Td w d bW b x x' m m' wv wv' l (l'.setRow 4 i) lv may ops:=by
 have hz:=h.go.kp.size;have hk:=A.kp d (by simp)
 have f:∀j∈bW::(l'.row 4).v.ownBlock.toList,j∈Gj bW l' lv:=fun j c=>by
  refine Bl _ (Ey.2 ?_);rcases Al.1 c with g|g
  ·exact .inl g
  ·exact .inr ⟨4,by decide,by simpa using g⟩
 refine⟨A.st,h.old.kp hk (fun j c g=>h.s1 j (f j g) c),h.new.kp hk (fun j c g=>h.s2 j (f j g) c),h.lo,h.fr,fun j c g=>?_,fun j c g=>?_,h.go.trans A.go⟩
 ·rcases A.go.new j c with q|q
  ·exact h.s1 j q g
  ·have:=h.lo j g;omega
 ·rcases A.go.new j c with q|q
  ·exact h.s2 j q g
  ·have:=h.new.bound g;omega
end
def LS.txt (l:LS)(tv:Value)(tx:List By):LS:={l with r4:=Cv tv tx}
def LS.moved (l:LS)(tv:Value)(tx:List By)(n:Nat):LS:={l with r4:=Cv tv tx,n:=n,opened:=false,ops:=.slice none 0 0}
def Fg (m:DM)(n k c q:Nat):DM:=⟨Oa m n k,List.replicate n [],c,m.ceiling,Xl q,.slice none 0 0⟩
structure Akd (w w':World)(bW:Nat)(m:DM)(l:LS)(lv:Value)(may:Option (By×PL))(tx:List By):Prop where
 o:∃x' b' wv' tv',Bi w' bW x'.d b' (l.moved tv' (tx++Fo m m.blocks.length) m.blocks.length) lv may []/\Cr w' x' (Fg m m.blocks.length m.blocks.length m.count m.blocks.length) wv'/\Bz w' b' x'.d Wi/\
  (∀j∈x'.set wv',w.heap.size<=j)/\w.heap.size<=b'/\b'∉x'.set wv'/\(∀j∈Gj bW (l.moved tv' (tx++Fo m m.blocks.length) m.blocks.length) lv,j∉x'.set wv'/\j≠b')/\Bu w w' bW l (l.moved tv' (tx++Fo m m.blocks.length) m.blocks.length) lv lv
theorem A0s (n k:Nat)(t:By):((List.replicate n ([]:By)).set k t).set k []=List.replicate n []:=by
 rw[List.set_set];apply Vy
 ·simp
 ·intro i h1 h2;simp
theorem Aug (n k:Nat):(List.replicate n ([]:By)).set k []=List.replicate n []:=by
 apply Vy
 ·simp
 ·intro i h1 h2;simp
theorem As6 (m:DM)(n k c q:Nat)(h:k<n):(Fg m n k c q).poke k (m.look k)=Fg m n (k+1) c q:=by unfold DM.poke Fg;have:=A2e m n k h;unfold Rs at this;simp only[this,Aug]
theorem Alb (m:DM)(n k c q:Nat)(h:k<n):(Fg m n n c q).look k=Rs m k:=by
 have h1:(Fg m n n c q).cache.getD k []=[]:=by simp[Fg,List.getD,h]
 unfold DM.look;rw[if_pos h1];exact Ajz m n k h
theorem Asr (m:DM)(n k c:Nat)(h:k<n):((Fg m n n c k).write k Aa5).poke k (Rs m k)=Fg m n n c (k+1):=by unfold DM.poke DM.write Fg;simp only[Arz m n k h,A0s,Axc]
section
variable {bW b:Nat}{l:LS}{lv:Value}{may:Option (By×PL)}{ops:List Ag}{w:World}
theorem Ayz (x:DX)(m:DM)(wv tv:Value)(tx:List By)(h:Bi w bW x.d b l lv may ops)(hd:Cr w x m wv)(ai:∀j∈Gj bW l lv,j∉x.set wv)(hr:l.r4=Cv tv tx)(ae:tx.length<=5000000)(Y:m.count<=m.ceiling):
  Cl 45 #[.pointer (some ⟨bW,0,none⟩)] w fun e w'=>e=.returned (.tuple #[])/\Akd w w' bW m l lv may tx:=by
 obtain⟨N,I⟩:=nmd (m.blocks.length);have c0:w.cell? ⟨bW,0,none⟩=some (.pointer (some ⟨x.d,0,none⟩)):=h.at_.c 0;have J:=hd.ge;have G:=hd.le;have bv:=hd.cl;have aw:=Aa (Ui x.d x.bb x.cb m.blocks.length w hd.c0);have br:=Aa (Vu x.d w m.ceiling hd.c3);have b8:=Aa (Ty x.d w m.count hd.c2);have am:=Aa (Aqs m.blocks.length m.ceiling w J G bv);rw[I]at aw am J G;have c4:(N:Int)<=48:=by omega
 have cl:(m.count:Int)<=1048576:=by omega
 have b5:=Aa (Ab h (Ab hd (Ab ai hr)));have ab:=Aa (Ab ae (Ab Y (Ab I (Ab J G))));clear h hd ai hr ae Y I bv J G;go_enter Tryz.func45,Tryz.ntmps45;go_wp2_with fail;refine aw.o.mono ?_;rintro e w1 ⟨rfl,r⟩;rw[r];clear r w1 aw;go_wp2_with fail;refine br.o.mono ?_;rintro e w1 ⟨rfl,r⟩;rw[r];clear r w1 br;go_wp2_with fail;refine b8.o.mono ?_;rintro e w1 ⟨rfl,r⟩;rw[r];clear r w1 b8;go_wp2_with fail;refine am.o.mono ?_;rintro e w1 ⟨rfl,ak,f,bp,bs,bz,bo⟩;rw[<-bp]
 have b2:Td w w1 bW b x f m (Fg m N 0 0 0) wv (.slice none 0 0) l (l.txt tv (tx++Fo m 0)) lv may ops:=by
  obtain⟨h,hd,ai,hr⟩:=b5.o;have ce:l.txt tv (tx++Fo m 0)=l:=by unfold LS.txt Fo;rw[List.range_zero,Lc,Ff,<-hr]
  have cn:Fg m N 0 0 0=⟨List.replicate N Ii,List.replicate N [],0,m.ceiling,[],.slice none 0 0⟩:=by unfold Fg;rw[A0f];rfl
  have P:∀j∈f.set (.slice none 0 0),w.heap.size<=j:=fun j a=>by
   simp only[DX.set,Value.ownBlock,Option.toList_none,Ff,Al,Cq,or_false]at a;rcases a with rfl|rfl|rfl
   ·omega
   ·exact bs
   ·exact bz
  rw[ce,cn];exact⟨h.below ak,hd.kp (S:=[]) (Kp.of_below ak) (by simp),bo,fun j a=>hd.bound a,P,ai,fun j a g=>by have:=h.bound a;have:=P j g;omega,Bu.of_below ak bW l lv⟩
 have b6:=Aa b2;clear b2 bp bs bz bo ak am b5 c0;go_wp2_with fail
 go_loopw [7] (fun i wr=>∃(k:Nat) (p:Value),k<=N/\i=.int .i64 (k:Int)/\Td w wr bW b x f m (Fg m N k 0 0) wv (.slice none 0 0) l (l.txt p (tx++Fo m k)) lv may ops) (fun i _=>(100-intOf i).toNat)
 case atStart=>exact⟨0,tv,by omega,rfl,b6.o⟩
 case round=>
  clear b6;obtain⟨k,p,hk,rfl,d⟩:=hrel;by_cases o:k<N
  ·have c8:(k:Int)<(N:Int):=by omega
   obtain⟨ae,Y,I,J,G⟩:=ab.o;have c0:wr.cell? ⟨bW,0,none⟩=some (.pointer (some ⟨x.d,0,none⟩)):=d.st.at_.c 0;have M:=Aa (Ahy x m wv k wr d.old (by rw[I];exact o));have ca:(tx++Fo m k).length<=6000000:=by simp[Fo];omega
   have bh:Lo wr p (tx++Fo m k):=d.st.row 4 (by decide);obtain⟨a5,ar,ah⟩:=Aao bh;obtain⟨w1,w2,t,a8,a3,A⟩:=Aha d.st 4 (by decide) p (tx++Fo m k) rfl (m.look k) (by omega);have aj:=d.text A;have bd:(l.txt p (tx++Fo m k)).setRow 4 (Cv (.slice a8 ((tx++Fo m k).length+1) a3) (tx++Fo m k++[m.look k]))=l.txt (.slice a8 ((tx++Fo m k).length+1) a3) (tx++Fo m (k+1)):=by rw[Azw,<-Cw];rfl
   rw[bd]at aj;have c15:wr.cell? ⟨bW,15,none⟩=some (.slice a5 (tx++Fo m k).length ar):=by rw[d.st.at_.c 15,<-ah];rfl
   have cg:w2.cell? ⟨bW,15,none⟩=some (.slice a5 (tx++Fo m k).length ar):=by rw[(A.at_ w2 (by simp)).c 15,<-ah];rfl
   have cu:w2.frozen? ⟨bW,15,none⟩=false:=(A.at_ w2 (by simp)).fr 15;have X:=A.run;have b3:((l.txt p (tx++Fo m k)).row 4).v=.slice a5 (tx++Fo m k).length ar:=ah;rw[b3]at X;have e1:=A.e1;have e3:=A.e3;have D:(Fg m N k 0 0).blocks.length=N:=Aea m N k hk;have u:=Aa (Ajg f (Fg m N k 0 0) (.slice none 0 0) k (m.look k) t aj.new (by rw[D];exact o));rw[As6 m N k 0 0 o]at u;have y:=Aa aj;simp only[Ac]at e1;rw[<-e1]at X;have bm:=Aa X;have ch:w2.setCell ⟨bW,15,none⟩ (.slice a8 ((tx++Fo m k).length+1) a3)=t:=e3;generalize(tx++Fo m k).length=TL at*;clear d ae Y I J G ca bh ah A aj bd X b3 e1 e3 D o;go_wp2_with fail;refine M.o.mono ?_;rintro e az ⟨rfl,V⟩;rw[V];clear V az M;go_wp2_with (at_builtin;refine Hr rfl _ _ rfl _ _ rfl rfl bm.o ?_);refine u.o.mono ?_;rintro e s ⟨rfl,C,z⟩;have L:=Aa (y.o.newD (z.mono (fun j a=>by simp at a;rcases a with rfl|rfl<;>simp[DX.set])) C (fun _ a=>.inl a));clear C z y u bm c0 c15 cg cu ch;go_wp2_with fail;exact⟨⟨k+1,_,by omega,by first|rfl|push_cast;rfl,L.o⟩,by simp only[intOf];omega⟩
  ·have ci:k=N:=by omega
   subst ci;have ad:decide ((k:Int)<(k:Int))=false:=by simp
   obtain⟨af,a2⟩:=nmd (m.count);have bw:=Aa d;have bc:=Aa a2;rw[a2]at cl⊢;clear d o hk a2;go_wp2_with fail
   go_loopw [9] (fun i wr=>∃c:Nat,c<=af/\i=.int .i64 (c:Int)/\Td w wr bW b x f m (Fg m k k c 0) wv (.slice none 0 0) l (l.txt p (tx++Fo m k)) lv may ops) (fun i _=>(2000000-intOf i).toNat)
   case atStart=>exact⟨0,by omega,rfl,bw.o⟩
   case round=>
    clear bw ad;obtain⟨c,ck,rfl,d⟩:=hrel;by_cases o:c<af
    ·have dd:(c:Int)<(af:Int):=by omega
     have u:=Aa (Ao6 f (Fg m k k c 0) (.slice none 0 0) wr d.new (by
      have:=ab.o.2.1;have:=bc.o;show c<m.ceiling
      omega))
     have y:=Aa d;clear d o;go_wp2_with fail;refine u.o.mono ?_;rintro e s ⟨rfl,z,C⟩;have L:=Aa (y.o.newD (m2:=Fg m k k (c+1) 0) (z.mono (fun j a=>by simp at a;subst a;simp[DX.set])) C (fun _ a=>.inl a));clear C z y u;go_wp2_with fail;exact⟨⟨c+1,by omega,by first|rfl|push_cast;rfl,L.o⟩,by simp only[intOf];omega⟩
    ·have cs:c=af:=by omega
     subst cs;have ad:decide ((c:Int)<(c:Int))=false:=by simp
     have bf:=Aa d;clear d o ck;go_wp2_with fail
     go_loopw [10] (fun i wr=>∃(q:Nat) (H:Value),q<=k/\i=.int .i64 (q:Int)/\Td w wr bW b x f m (Fg m k k c q) wv H l (l.txt p (tx++Fo m k)) lv may ops) (fun i _=>(100-intOf i).toNat)
     case atStart=>exact⟨0,_,by omega,rfl,bf.o⟩
     case round=>
      clear bf ad;obtain⟨q,H,co,rfl,d⟩:=hrel;have D:∀q,(Fg m k k c q).blocks.length=k:=fun q=>Aea m k k (Ak _);by_cases o:q<k
      ·have da:(q:Int)<(k:Int):=by omega
       have a1:=Ahy f (Fg m k k c q) H q wr d.new (by rw[D];exact o);rw[Alb m k q c q o]at a1;have M:=Aa a1
       have b1:=Aa (Aff f (Fg m k k c q) H q Aa5 wr d.new (by rw[D];exact o) (by
        have h1:(Fg m k k c q).wrote.length=q:=by simp[Fg,Xl]
        have:=ab.o.2.2.2.2
        omega))
       have y:=Aa d;have ag:=Aa (Ab D o);clear d o D a1;go_wp2_with fail;refine M.o.mono ?_;rintro e az ⟨rfl,V⟩;rw[V];clear V az M;go_wp2_with fail;refine b1.o.mono ?_;rintro e s ⟨rfl,z,cr,C,bl⟩;have aq:=y.o.newD z C bl;have a4:=Ajg f ((Fg m k k c q).write q Aa5) cr q (Rs m q) s aq.new (by show q<(Fg m k k c q).blocks.length;rw[ag.o.1];exact ag.o.2);rw[Asr m k q c ag.o.2]at a4;have u:=Aa a4;have L:=Aa aq;clear C z y a4 aq bl b1;go_wp2_with fail;refine u.o.mono ?_;rintro e R ⟨rfl,bb,b9⟩;have cd:=Aa (L.o.newD (b9.mono (fun j a=>by simp at a;rcases a with rfl|rfl<;>simp[DX.set])) bb (fun _ a=>.inl a));clear bb b9 L u ag;go_wp2_with fail;exact⟨⟨q+1,_,by omega,by first|rfl|push_cast;rfl,cd.o⟩,by simp only[intOf];omega⟩
      ·have ct:q=k:=by omega
       subst ct;have ad:decide ((q:Int)<(q:Int))=false:=by simp
       clear o co D;have c0:wr.cell? ⟨bW,0,none⟩=some (.pointer (some ⟨x.d,0,none⟩)):=d.st.at_.c 0;have cv:wr.frozen? ⟨bW,0,none⟩=false:=d.st.at_.fr 0;obtain⟨l1,an⟩:=nmd (l.txt p (tx++Fo m q));rw[an]at d;have s1:Bi (wr.setCell ⟨bW,0,none⟩ (.pointer (some ⟨f.d,0,none⟩))) bW f.d b l1 lv may ops:=d.st.cell 0 _ rfl rfl rfl (fun _ _=>rfl);have F:Bu w (wr.setCell ⟨bW,0,none⟩ (.pointer (some ⟨f.d,0,none⟩))) bW l l1 lv lv:=d.go.trans (Bu.cell 0 _ rfl rfl (fun _ _=>rfl));have bt:Kp [bW] wr (wr.setCell ⟨bW,0,none⟩ (.pointer (some ⟨f.d,0,none⟩))):=(Kp.refl _ wr).setCell bW 0 _ (.inl (by simp));have E:bW∉f.set H:=d.s2 bW (Bl _ (Ey.2 (.inl rfl)));have n1:=d.new.kp bt (fun j a g=>by simp at g;subst g;exact E a);obtain⟨w1,r⟩:=nmd (wr.setCell ⟨bW,0,none⟩ (.pointer (some ⟨f.d,0,none⟩)));rw[r]at s1 F n1;have b7:=Aa (Ane f.d w1);have bx:=Aa (Ab s1 (Ab F (Ab n1 (Ab d.fr (Ab d.s2 E)))));have bq:=Aa an;clear d an s1 F n1 bt E;go_wp2_with fail;refine b7.o.mono ?_;rintro e w2 ⟨rfl,aa,ac,cb⟩;obtain⟨s1,F,n1,P,bu,E⟩:=bx.o;obtain⟨B',cw⟩:=nmd (w1.heap.size);rw[cw]at aa⊢;have s2:=s1.below ac;have b4:=F.trans (Bu.of_below ac bW l1 lv);have n2:=n1.kp (S:=[]) (Kp.of_below ac) (by simp);have Z:∀j,j<w1.heap.size->j≠B':=fun j a e=>by omega
       have bk:bW≠B':=Z bW s1.at_.lt;have c3:w2.cell? ⟨bW,1,none⟩=some (.pointer (some ⟨b,0,none⟩)):=s2.at_.c 1;have f1:w2.frozen? ⟨bW,1,none⟩=false:=s2.at_.fr 1;have W:Bi (w2.setCell ⟨bW,1,none⟩ (.pointer (some ⟨B',0,none⟩))) bW f.d B' l1 lv may ops:=s2.cell 1 _ rfl rfl rfl (fun _ _=>rfl);have ba:=b4.trans (Bu.cell (w:=w2) (l:=l1) (l':=l1) (lv:=lv) 1 (.pointer (some ⟨B',0,none⟩)) rfl rfl (fun _ _=>rfl));have al:Kp [bW] w2 (w2.setCell ⟨bW,1,none⟩ (.pointer (some ⟨B',0,none⟩))):=(Kp.refl _ w2).setCell bW 1 _ (.inl (by simp));obtain⟨t,cc⟩:=nmd (w2.setCell ⟨bW,1,none⟩ (.pointer (some ⟨B',0,none⟩)));rw[cc]at W ba al;have n3:=n2.kp al (fun j a g=>by simp at g;subst g;exact E a);obtain⟨cf,cm,a7⟩:=Aao n3.own;have bi:(Fg m q q c q).wrote.length=q:=by simp[Fg,Xl]
       rw[bi]at a7;have c1:t.cell? ⟨f.d,6,none⟩=some (.slice cf q cm):=by rw[n3.c6,a7]
       have c2:t.cell? ⟨bW,8,none⟩=some (.int .i64 (l1.n:Int)):=W.at_.c 8;have c6:t.frozen? ⟨bW,8,none⟩=false:=W.at_.fr 8;have O:=W.cell (l':={l1 with n:=q}) 8 (.int .i64 (q:Int)) rfl rfl rfl (Nz rfl rfl rfl rfl rfl);have au:=ba.trans (Bu.cell (w:=t) (l':={l1 with n:=q}) 8 (.int .i64 (q:Int)) rfl rfl (Nz rfl rfl rfl rfl rfl));have ay:Kp [bW] w2 (t.setCell ⟨bW,8,none⟩ (.int .i64 (q:Int))):=al.setCell bW 8 _ (.inl (by simp));obtain⟨s,cq⟩:=nmd (t.setCell ⟨bW,8,none⟩ (.int .i64 (q:Int)));rw[cq]at O au ay;have db:s.cell? ⟨bW,3,none⟩=some (.bool l1.opened):=O.at_.c 3;have dc:s.frozen? ⟨bW,3,none⟩=false:=O.at_.fr 3;have K:=O.cell (l':={l1 with n:=q,opened:=false}) 3 (.bool false) rfl rfl rfl (Nz rfl rfl rfl rfl rfl);have a6:=au.trans (Bu.cell (w:=s) (l':={l1 with n:=q,opened:=false}) 3 (.bool false) rfl rfl (Nz rfl rfl rfl rfl rfl));have av:Kp [bW] w2 (s.setCell ⟨bW,3,none⟩ (.bool false)):=ay.setCell bW 3 _ (.inl (by simp));obtain⟨R,cj⟩:=nmd (s.setCell ⟨bW,3,none⟩ (.bool false));rw[cj]at K a6 av;obtain⟨cp,cy,bg⟩:=Aao K.ops;have c7:R.cell? ⟨bW,4,none⟩=some (.slice cp ops.length cy):=by rw[K.at_.c 4,<-bg];rfl
       have c5:R.frozen? ⟨bW,4,none⟩=false:=K.at_.fr 4;obtain⟨T,U⟩:=K.newOps (Ah _ _) (Jz.nil _) (fun j a=>(by cases a));have U:=a6.trans U;have ao:Kp [bW] w2 (R.setCell ⟨bW,4,none⟩ (.slice none 0 0)):=av.setCell bW 4 _ (.inl (by simp));obtain⟨Q,cz⟩:=nmd (R.setCell ⟨bW,4,none⟩ (.slice none 0 0));rw[cz]at T U ao;have de:Q.cell? ⟨bW,5,none⟩=some (.bool false):=T.at_.c 5;have c9:Q.frozen? ⟨bW,5,none⟩=false:=T.at_.fr 5;have a0:=T.cell (l':={l1 with n:=q,opened:=false,ops:=.slice none 0 0}) 5 (.bool false) rfl rfl rfl (Nz rfl rfl rfl rfl rfl);have ap:=U.trans (Bu.cell (w:=Q) (l':={l1 with n:=q,opened:=false,ops:=.slice none 0 0}) 5 (.bool false) rfl rfl (Nz rfl rfl rfl rfl rfl));have ax:Kp [bW] w2 (Q.setCell ⟨bW,5,none⟩ (.bool false)):=ao.setCell bW 5 _ (.inl (by simp));have bn:=n2.kp ax (fun j a g=>by simp at g;subst g;exact E a);have be:=aa.of_block (ax.block B' aa.lt (by simpa using Ne.symm bk));have a9:({l1 with n:=q,opened:=false,ops:=.slice none 0 0}:LS)=l.moved p (tx++Fo m q) q:=by rw[<-bq.o];rfl
       rw[a9]at a0 ap;have bj:w.heap.size<=B':=by have:=F.kp.size;omega
       have cx:=Aa (show Akd w (Q.setCell ⟨bW,5,none⟩ (.bool false)) bW m l lv may tx from by
        refine⟨f,B',H,p,?_⟩;rw[ab.o.2.2.1,bc.o];refine⟨a0,bn,be,P,bj,fun g=>Z B' (n1.bound g) rfl,fun j a=>?_,ap⟩
        have b0:j∈Gj bW l1 lv:=by
         rw[<-a9]at a;rcases As.1 a with g|g
         ·exact Bl _ g
         ·rcases Ha.1 g with e|e|e
          ·exact Bg _ (Ha.2 (.inl e))
          ·exact Bg _ (Ha.2 (.inr (.inl e)))
          ·cases e
        exact⟨bu j b0,Z j (s1.bound b0)⟩)
       clear s1 F n1 P bu E s2 b4 n2 Z bk W ba al n3 bi a7 O au ay K a6 av bg T U ao a0 ap ax bn be a9 bj aa ac cb bx b7 bq c0 cv;generalize ops.length=OL at*;go_wp2_with fail
       first|go_end0|((try simp only[Exit.inBlock,Exit.then]);refine bodyPost_ret (results_none rfl _ _ _) rfl ?_)
       exact⟨rfl,cx.o⟩
end
theorem Aqd (x:DX)(b:Nat)(m:DM)(v:VM)(wv:Value)(pass:By)(w:World)(h:Ai w x b m v wv)(a:v.opened=true):
  Cl 48 #[.pointer (some ⟨b,0,none⟩),.string ⟨pass.toArray⟩] w fun e w'=>e=.returned (.tuple #[.int .i64 0,.int .i64 2])/\w'=w:=by
 have c1:=h.vault.c1;rw[a]at c1;clear h a;go_enter Tryz.func48,Tryz.ntmps48;go_wp2_with fail;go_ret2;exact⟨rfl,rfl⟩
theorem Aqe (x:DX)(b:Nat)(m:DM)(v:VM)(wv:Value)(pass:By)(w:World)(h:Ai w x b m v wv)(a:v.opened=false)(c:40<pass.length):
  Cl 48 #[.pointer (some ⟨b,0,none⟩),.string ⟨pass.toArray⟩] w fun e w'=>e=.returned (.tuple #[.int .i64 0,.int .i64 1])/\w'=w:=by
 have c1:=h.vault.c1;rw[a]at c1;have d:(ByteArray.mk pass.toArray).size=pass.length:=rfl;have hd:decide ((40:Int)<(pass.length:Int))=true:=by simp;omega
 clear h a c;generalize pass.length=n at*;go_enter Tryz.func48,Tryz.ntmps48;go_wp2_with fail;go_ret2;exact⟨rfl,rfl⟩
theorem Avq (x:DX)(b:Nat)(m:DM)(v:VM)(wv:Value)(pass:By)(w:World)(h:Ai w x b m v wv)(d:v.opened=true):
  Cl 23 #[.pointer (some ⟨b,0,none⟩),.string ⟨pass.toArray⟩] w fun e w'=>e=.returned (.int .i64 2)/\w'=w:=by
 have c:=Aa (Aqd x b m v wv pass w h d);clear h d;go_enter Tryz.func23,Tryz.ntmps23;go_wp2_with fail;refine c.o.mono ?_;rintro e w1 ⟨rfl,a⟩;rw[a];clear a w1 c;go_wp2_with fail;go_ret;exact⟨rfl,rfl⟩
theorem Awf (x:DX)(b:Nat)(m:DM)(v:VM)(wv:Value)(pass:By)(w:World)(h:Ai w x b m v wv)(f:v.opened=false)(d:40<pass.length):
  Cl 23 #[.pointer (some ⟨b,0,none⟩),.string ⟨pass.toArray⟩] w fun e w'=>e=.returned (.int .i64 1)/\w'=w:=by
 have c:=Aa (Aqe x b m v wv pass w h f d);clear h f d;go_enter Tryz.func23,Tryz.ntmps23;go_wp2_with fail;refine c.o.mono ?_;rintro e w1 ⟨rfl,a⟩;rw[a];clear a w1 c;go_wp2_with fail;go_ret;exact⟨rfl,rfl⟩
theorem A2o (x:DX)(b:Nat)(m:DM)(v:VM)(wv:Value)(pass:By)(w:World)(h:Ai w x b m v wv)(d:v.opened=true):
  Cl 25 #[.pointer (some ⟨b,0,none⟩),.string ⟨pass.toArray⟩] w fun e w'=>e=.returned (.int .i64 2)/\w'=w:=by
 have c:=Aa (Aqd x b m v wv pass w h d);clear h d;go_enter Tryz.func25,Tryz.ntmps25;go_wp2_with fail;refine c.o.mono ?_;rintro e w1 ⟨rfl,a⟩;rw[a];clear a w1 c;go_wp2_with fail;go_ret;exact⟨rfl,rfl⟩
theorem Ar4 (x:DX)(b:Nat)(m:DM)(v:VM)(wv:Value)(pass:By)(w:World)(h:Ai w x b m v wv)(f:v.opened=false)(d:40<pass.length):
  Cl 25 #[.pointer (some ⟨b,0,none⟩),.string ⟨pass.toArray⟩] w fun e w'=>e=.returned (.int .i64 1)/\w'=w:=by
 have c:=Aa (Aqe x b m v wv pass w h f d);clear h f d;go_enter Tryz.func25,Tryz.ntmps25;go_wp2_with fail;refine c.o.mono ?_;rintro e w1 ⟨rfl,a⟩;rw[a];clear a w1 c;go_wp2_with fail;go_ret;exact⟨rfl,rfl⟩
theorem A0l (x:DX)(b:Nat)(m:DM)(v:VM)(wv:Value)(pass:By)(w:World)(h:Ai w x b m v wv)(g:v.opened=false)(f:pass.length<=40)(k:m.ceiling<m.count+2)(j:m.count<=1048576):
  Cl 23 #[.pointer (some ⟨b,0,none⟩),.string ⟨pass.toArray⟩] w fun e w'=>e=.returned (.int .i64 10)/\w'=w:=by
 have c0:=h.vault.c0;have l:(m.count:Int)<=1048576:=by omega
 have hd:decide ((m.ceiling:Int)<(m.count:Int)+2)=true:=by simp;omega
 have d:=Aa (Agd x b m v wv pass w h g f);have i:=Aa (Vu x.d w m.ceiling h.disk.c3);clear h g f k j;generalize m.count=c at*;generalize m.ceiling=ce at*;go_enter Tryz.func23,Tryz.ntmps23;go_wp2_with fail;refine d.o.mono ?_;rintro e w1 ⟨rfl,a⟩;rw[a];clear a w1 d;go_wp2_with fail;refine i.o.mono ?_;rintro e w1 ⟨rfl,a⟩;rw[a];clear a w1 i;go_wp2_with fail;go_ret;exact⟨rfl,rfl⟩
theorem A1z (x:DX)(b:Nat)(m:DM)(v:VM)(wv:Value)(pass:By)(w:World)(h:Ai w x b m v wv)(X:v.opened=false)(D:pass.length<=40)(ac:m.count+2<=m.ceiling)(R:v.place<9223372036854775808)(aa:m.wrote.length<4999000)(a:By)(ai:a.length=16)(F:Value)(Z:Cl 49 #[.pointer (some ⟨x.d,0,none⟩)] w fun e w'=>e=.returned (.tuple #[Ac a,.bool true])/\Ai w' x b {m with sv:=F} v wv/\Kp [x.d] w w'):
  Cl 23 #[.pointer (some ⟨b,0,none⟩),.string ⟨pass.toArray⟩] w fun e w'=>e=.returned (.int .i64 0)/\∃r bt bp,Ai w' x b (({m with sv:=F}:DM).begin (Bn pass a) a v.place v.digest) {v with salt:=a,tv:=.pointer (some ⟨bt,0,none⟩),pv:=.pointer (some ⟨bp,0,none⟩),version:=m.count+2,session:=m.count+2,opened:=true} r/\
   Ln w' bt (Bn pass a)/\Eh w' bp (Fc (Ge pass a))/\Mt w' x b r bt/\Mt w' x b r bp/\Kp (Ai.set x b wv) w w'/\Cd wv r w.heap.size/\w.heap.size<=bt/\bt<bp:=by
 have c0:=h.vault.c0;have au:=h.disk.cl;have ar:(m.count:Int)<=1048576:=by omega
 have hd:decide ((m.ceiling:Int)<(m.count:Int)+2)=false:=by simp;omega
 have L:=Aa (Agd x b m v wv pass w h X D);have ao:=Aa (Vu x.d w m.ceiling h.disk.c3);have G:=Aa Z;have ay:=Aa h;have o:=Aa (Ab ac (Ab D (Ab R aa)));have ah:=Aa ai;clear h X ac D R aa au ai Z;obtain⟨m2,E⟩:∃m2:DM,({m with sv:=F}:DM)=m2:=⟨_,rfl⟩;have ad:m2.count=m.count/\m2.ceiling=m.ceiling/\m2.wrote=m.wrote:=by rw[<-E];exact⟨rfl,rfl,rfl⟩
 have t:=Aa ad;rw[E]at G⊢;clear ad E;obtain⟨c,N⟩:=nmd (m.count);rw[N]at ar hd L o⊢;have af:=Aa N;clear N;go_enter Tryz.func23,Tryz.ntmps23;go_wp2_with fail;refine L.o.mono ?_;rintro e w1 ⟨rfl,rfl⟩;clear L;go_wp2_with fail;refine ao.o.mono ?_;rintro e w1 ⟨rfl,rfl⟩;clear ao;go_wp2_with fail;refine G.o.mono ?_;rintro e w2 ⟨rfl,h2,P⟩;have c2:=h2.vault.c2;have f2:=h2.vault.fr 2;have s:=h2.ofVault ((Kp.refl [b] w2).setCell b 2 (Ac a) (.inl (by simp))) (h2.vault.set2 a);have am:=Aa (Akk pass a _ s.hk s.h0 o.o.2.1 ah.o);have n:=Aa s;have S:=P.size;have U:Kp (Ai.set x b wv) w1 (w2.setCell ⟨b,2,none⟩ (Ac a)):=(P.mono (fun j u=>by simp at u;subst u;simp[Ai.set,DX.set])).setCell b 2 _ (.inl (by simp[Ai.set]));have aj:=Aa U;clear G h2 s P U hd;go_wp2_with fail;refine am.o.mono ?_;rintro e l ⟨bt,bp,rfl,y,q,A,ae,z⟩;have d:=n.o.later z;have c3:=d.vault.c3;have c4:=d.vault.c4;have az:=d.vault.fr 3;have ax:=d.vault.fr 4;have M:=d.ofVault ((Kp.refl [b] l).setCell b 3 (.pointer (some ⟨bt,0,none⟩)) (.inl (by simp))) (d.vault.set3 _);have al:=M.ofVault ((Kp.refl [b] _).setCell b 4 (.pointer (some ⟨bp,0,none⟩)) (.inl (by simp))) (M.vault.set4 _);clear am c2 f2;go_wp2_with fail;have ap:=z.size;have K:(w2.setCell ⟨b,2,none⟩ (Ac a)).heap.size=w2.heap.size:=by simp[World.setCell]
 have aq:=n.o.vault.lt;rw[K]at aq A ap;have i:Kp [b] l ((l.setCell ⟨b,3,none⟩ (.pointer (some ⟨bt,0,none⟩))).setCell ⟨b,4,none⟩ (.pointer (some ⟨bp,0,none⟩))):=((Kp.refl [b] l).setCell b 3 _ (.inl (by simp))).setCell b 4 _ (.inl (by simp));have O:=y.of_block (i.block bt y.lt (by simp;omega));have W:=q.of_block (i.block bp q.lt (by simp;omega)) i.size;have p:Mt _ x b wv bt:=n.o.apart (by rw[K];exact A) (Eu y.lt i.size);have H:Mt _ x b wv bp:=n.o.apart (by rw[K];omega) (Eu q.lt i.size);have J:Kp (Ai.set x b wv) w1 ((l.setCell ⟨b,3,none⟩ (.pointer (some ⟨bt,0,none⟩))).setCell ⟨b,4,none⟩ (.pointer (some ⟨bp,0,none⟩))):=(aj.o.trans (Kp.of_below z)).trans (i.mono (fun k hk=>by simp at hk;simp[Ai.set,hk]));have I:=Aps x b bt (Bn pass a) m2 _ wv _ al (by rw[t.o.1,t.o.2.1,af.o];exact o.o.1) rfl O p ah.o o.o.2.2.1 (by rw[t.o.2.2];exact o.o.2.2.2);rw[t.o.1,af.o]at I;refine I.mono ?_;rintro e w7 ⟨rfl,V,Y,f,C⟩;have aw:=J.size;have T:Cd wv V w1.heap.size:=fun j u=>(C j u).imp id (fun g=>Hb aw g);have an:=J.trans f;have ab:=p.step C f.size;have ak:=H.step C f.size;have ag:=O.of_block (p.block f);have Q:=W.of_block (H.block f) f.size;have av:=Aa (Ab Y (Ab ag (Ab Q (Ab ab (Ab ak (Ab an (Ab T (Ab (Hb S A) ae))))))));clear S A ae d M al Y y q O W p H J I f C T an ab ak ag Q i aj n z;go_wp2_with fail;go_ret;exact⟨rfl,V,bt,bp,av.o⟩
end Go.Proofs.YtojgilcdgccojaaGreatDoor
