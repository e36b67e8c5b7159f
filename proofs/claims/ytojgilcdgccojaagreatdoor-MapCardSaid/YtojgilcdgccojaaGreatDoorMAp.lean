import Derived.Test.YtojgilcdgccojaaGreatDoorAl
import Derived.Test.YtojgilcdgccojaaGreatDoorMAo
import Derived.Test.YtojgilcdgccojaaGreatDoorMAm
import Derived.Test.YtojgilcdgccojaaGreatDoorMAl
set_option linter.unusedSimpArgs false
set_option maxRecDepth 100000
set_option maxHeartbeats 8000000
namespace Go.Proofs.YtojgilcdgccojaaGreatDoor
open Go.RowKit
theorem Eh.of_block {w w':World}{b:Nat}{rk:By}(h:Eh w b rk)(e:w'.heap[b]?=w.heap[b]?)(hz:w.heap.size<=w'.heap.size):Eh w' b rk:=
 ⟨⟨Eu h.lt hz,fun i c=>(Lv (a:=⟨b,i,none⟩) e).trans (h.cells.at_ i c)⟩,h.len⟩
theorem Axx (bp:Nat)(tv:Value)(rk t:By)(s n p:Nat)(w:World)(hk:Eh w bp rk)(D:s<9223372036854775808)(y:n<9223372036854775808)(r:p<9223372036854775808)(E:t.length<=4096):
  Cl 136 #[.agg #[tv,.pointer (some ⟨bp,0,none⟩)],.int .i64 s,.int .i64 n,.int .i64 p,.string ⟨t.toArray⟩] w fun e w'=>e=.returned (Ac (Iv rk s n p t))/\Bw w w':=by
 have z:=hk.lt;have k:=Aa (show Iv rk s n p t=Ll s n++Rp rk (Ll s n) (Af p 1) t from rfl);have g:=Ac7 s n;have j:=Ai1 rk (Ll s n) (Af p 1) t hk.len g;have C:=Aa (fun w=>No s 8 w D (by decide));have v:=Aa (fun w=>No n 4 w y (by decide));have A:∀w,(Op.stringOp .add ⟨(Af s 8).toArray⟩ ⟨(Af n 4).toArray⟩).run Tryz.prog w=.ok (.string ⟨(Ll s n).toArray⟩) w:=fun w=>Xo (Af s 8) (Af n 4) (by simp[Cb]) w;have f:=fun w hk=>A1p bp rk (Ll s n) (Af p 1) t w hk (by rw[Cb];decide) E;rw[Vh _ _ g]at f;have i:=Aa f;rw[k.o];obtain⟨a,l⟩:=nmd (Ll s n);rw[l]at g j A i⊢;obtain⟨b,m⟩:=nmd (Rp rk a (Af p 1) t);rw[m]at j i⊢;obtain⟨w0,d⟩:=nmd (w.alloc (.cells #[tv,.pointer (some ⟨bp,0,none⟩)] 58));have G:w0.heap.size=w.heap.size+1:=by rw[<-d];simp
 have c:Bw w w0:=d▸(Ah _ _).alloc (Ak _) _
 have k0:w0.cell? ⟨w.heap.size,1,none⟩=some (.pointer (some ⟨bp,0,none⟩)):=by rw[<-d,Xv _ _ _ _ rfl];rfl
 have u:=Aa hk;clear hk l m k f;go_enter Tryz.func136,Tryz.ntmps136;go_wp2_with fail;refine(C.o w0).mono ?_;rintro e w1 ⟨rfl,o⟩;go_wp2_with fail;refine(v.o w1).mono ?_;rintro e w2 ⟨rfl,x⟩;have F:=o.trans (x.mono o.size);go_wp2_with fail;have q:=Aa (fun w' (h:Bw w0 w')=>Ab ((h.cell (p:=⟨w.heap.size,1,none⟩) (by rw[G];simp)).trans k0) (u.o.below (c.trans (h.mono c.size)) z));refine Jx (fun w'=>Bw w0 w') (by kernel_rfl) (by kernel_rfl) F.drew ?_;refine Aq 0 (Ac a) ?_;refine Aq 1 (.pointer (some ⟨w.heap.size,1,none⟩)) ?_;refine Fp 2 (.pointer (some ⟨bp,0,none⟩)) Ake (fun w hw=>(q.o w hw).1) ?_;refine Aq 3 (Ac a) ?_;refine Aq 4 (.int .i64 p) ?_;refine Cf 5 (Ac (Af p 1)) rfl (by kernel_rfl) rfl (Gb (79) (#[.int .i64 p,.int .i64 1]) (fun _=>by kernel_rfl) fun w hw=>(No p 1 w r (by decide)).mono fun e w2 h=>⟨h.1,hw.trans (h.2.mono hw.size)⟩) ?_;refine Aq 6 (Ac t) ?_;refine Cf 7 (Ac b) rfl (by kernel_rfl) rfl (Gb (143) (#[.pointer (some ⟨bp,0,none⟩),.string ⟨a.toArray⟩,.string ⟨(Af p 1).toArray⟩,.string ⟨t.toArray⟩]) (fun _=>by kernel_rfl) fun w hw=>(i.o w (q.o w hw).2).mono fun e w2 h=>⟨h.1,hw.trans (h.2.mono hw.size)⟩) ?_;refine Cf 8 (Ac (a++b)) rfl (by kernel_rfl) rfl (Cp fun w=>Nn _ _ _ _ _ (a) (b) rfl (by kernel_rfl) (by kernel_rfl) (by omega) w) ?_;refine Aq 9 (Ac (a++b)) ?_;refine Dv.done (by kernel_rfl) fun I H=>?_;go_wp2_with fail;go_ret;exact⟨by kernel_rfl,c.trans (H.mono c.size)⟩
def Pc (rk block:By)(p:Nat):Option By:=if Mp rk (block.take 12) (Af p 1) ((block.drop 12).take 228)=block.drop 240 then some (Fk rk (block.take 12) 2 ((block.drop 12).take 228))else none
theorem Ay6 (rk:By)(s n p:Nat)(t:By)(hr:rk.length=240)(c:t.length=228):Pc rk (Iv rk s n p t) p=some t:=by
 have a:=Ac7 s n;have d:=Aa1 rk (Ll s n) hr a 2 t;have e1:(Iv rk s n p t).take 12=Ll s n:=by unfold Iv;rw[List.take_left' a]
 have e2:(Iv rk s n p t).drop 12=Rp rk (Ll s n) (Af p 1) t:=by unfold Iv;rw[List.drop_left' a]
 have e3:(Iv rk s n p t).drop 240=Mp rk (Ll s n) (Af p 1) (Fk rk (Ll s n) 2 t):=by
  have:(Iv rk s n p t).drop 240=((Iv rk s n p t).drop 12).drop 228:=by rw[Wc]
  rw[this,e2];unfold Rp;rw[List.drop_left' (by omega)]
 have b:(Rp rk (Ll s n) (Af p 1) t).take 228=Fk rk (Ll s n) 2 t:=by unfold Rp;rw[List.take_left' (by omega)]
 unfold Pc;rw[e1,e2,e3,b,if_pos rfl,Azz rk _ hr a]
def Acz (a:Option By):Value:=match a with
 |some t=>.tuple #[Ac t,.bool true]
 |none=>.tuple #[Ac [],.bool false]
theorem A13 (bp:Nat)(tv:Value)(rk block:By)(p:Nat)(w:World)(hk:Eh w bp rk)(l:p<9223372036854775808)(hb:block.length=256):
  Cl 110 #[.agg #[tv,.pointer (some ⟨bp,0,none⟩)],.string ⟨block.toArray⟩,.int .i64 p] w fun e w'=>e=.returned (Acz (Pc rk block p))/\Bw w w':=by
 have o:=hk.lt;have c:=fun w hk=>Atk bp rk (block.take 12) (Af p 1) ((block.drop 12).take 228) (block.drop 240) w hk (by rw[Cb];decide) (by simp;omega) (by simp;omega)
 have e1:(block.drop 12).take 228++block.drop 240=block.drop 12:=by
  have:block.drop 240=(block.drop 12).drop 228:=by rw[Wc]
  rw[this,Jb]
 rw[e1,Vh _ _ (by simp;omega)]at c;have r:(ByteArray.mk block.toArray).size=256:=hb
 obtain⟨v,b,i,g⟩:∃v b,Acz (Pc rk block p)=.tuple #[Ac v,.bool b]/\(if Mp rk (block.take 12) (Af p 1) ((block.drop 12).take 228)=block.drop 240 then Value.tuple #[.string ⟨(Fk rk (block.take 12) 2 ((block.drop 12).take 228)).toArray⟩,.bool true]else .tuple #[.string ⟨#[]⟩,.bool false])=.tuple #[Ac v,.bool b]:=by
  unfold Pc;by_cases h:Mp rk (block.take 12) (Af p 1) ((block.drop 12).take 228)=block.drop 240
  ·exact⟨_,true,by rw[if_pos h];rfl,by rw[if_pos h]⟩
  ·exact⟨[],false,by rw[if_neg h];rfl,by rw[if_neg h]⟩
 rw[i];rw[g]at c;have k:=Aa c;obtain⟨w0,f⟩:=nmd (w.alloc (.cells #[tv,.pointer (some ⟨bp,0,none⟩)] 58));have m:w0.heap.size=w.heap.size+1:=by rw[<-f];simp
 have d:Bw w w0:=f▸(Ah _ _).alloc (Ak _) _
 have k0:w0.cell? ⟨w.heap.size,1,none⟩=some (.pointer (some ⟨bp,0,none⟩)):=by rw[<-f,Xv _ _ _ _ rfl];rfl
 have j:=Aa (fun w' (h:Bw w0 w')=>Ab ((h.cell (p:=⟨w.heap.size,1,none⟩) (by rw[m];simp)).trans k0) (hk.below (d.trans (h.mono d.size)) o));have a:=Aa hb;clear hk c i g e1 hb;go_enter Tryz.func110,Tryz.ntmps110;go_wp2_with fail;refine Jx (fun w'=>Bw w0 w') (by kernel_rfl) (by kernel_rfl) (Ah _ _).drew ?_;refine Aq 0 (.pointer (some ⟨w.heap.size,1,none⟩)) ?_;refine Fp 1 (.pointer (some ⟨bp,0,none⟩)) Ake (fun w hw=>(j.o w hw).1) ?_;refine Aq 2 (Ac block) ?_;refine Cf 3 (Ac (block.take 12)) rfl (by kernel_rfl) rfl (Cp fun w=>Aj8 _ _ _ 12 block rfl (by kernel_rfl) (by rw[a.o];decide) (by rw[a.o];decide) w) ?_;refine Aq 4 (.int .i64 p) ?_;refine Cf 5 (Ac (Af p 1)) rfl (by kernel_rfl) rfl (Gb (79) (#[.int .i64 p,.int .i64 1]) (fun _=>by kernel_rfl) fun w hw=>(No p 1 w l (by decide)).mono fun e w2 h=>⟨h.1,hw.trans (h.2.mono hw.size)⟩) ?_;refine Aq 6 (Ac block) ?_;refine Cf 7 (Ac (block.drop 12)) rfl (by kernel_rfl) rfl (Cp fun w=>Ama _ _ _ 12 block rfl (by kernel_rfl) (by rw[a.o];decide) (by rw[a.o];decide) w) ?_;refine Cf 8 (.tuple #[Ac v,.bool b]) rfl (by kernel_rfl) rfl (Gb (126) (#[.pointer (some ⟨bp,0,none⟩),.string ⟨(block.take 12).toArray⟩,.string ⟨(Af p 1).toArray⟩,.string ⟨(block.drop 12).toArray⟩]) (fun _=>by kernel_rfl) fun w hw=>(k.o w (j.o w hw).2).mono fun e w2 h=>⟨h.1,hw.trans (h.2.mono hw.size)⟩) ?_;refine Aq 9 (Ac v) ?_;refine Aq 10 (.bool b) ?_;refine Aq 11 (Ac v) ?_;refine Aq 12 (.bool b) ?_;refine Dv.done (by kernel_rfl) fun q n=>?_;go_wp2_with fail;go_ret2;exact⟨by kernel_rfl,d.trans (n.mono d.size)⟩
theorem Adn (pass salt:By)(r:Int)(n:Nat):(Su pass salt r n).length=n:=by unfold Su;rw[Fr,Apx];omega
theorem Ai6 (pass salt:By):(Bn pass salt).length=32:=by unfold Bn Pi;rw[Fr,Adn];decide
theorem Ag0 (pass salt:By):(Ge pass salt).length=32:=by unfold Ge Pi;rw[Nw,Adn]
theorem Akk (pass salt:By)(w:World)(hk:Br w 1 .u32 Gk)(h0:Br w 0 .u32 Jv)(af:pass.length<=40)(a1:salt.length=16):
  Cl 51 #[.string ⟨pass.toArray⟩,.string ⟨salt.toArray⟩] w fun e w'=>∃bt bp,e=.returned (.agg #[.pointer (some ⟨bt,0,none⟩),.pointer (some ⟨bp,0,none⟩)])/\Ln w' bt (Bn pass salt)/\Eh w' bp (Fc (Ge pass salt))/\w.heap.size<=bt/\bt<bp/\Bw w w':=by
 have W:=hk.lt;have L:=h0.lt;have az:(ByteArray.mk pass.toArray).size=pass.length:=rfl;have aq:=Aa (fun w=>No pass.length 1 w (by omega) (by decide));have ag:=fun w=>Xo (Af pass.length 1) pass (by rw[Cb];omega) w;have S:=Aa (fun w hk h0=>Ap1 (Af pass.length 1++pass) salt 3 64 w hk h0 (by simp[Cb];omega) (by omega) (by decide) (by decide));have t:(Pi pass salt).length=64:=Adn _ _ _ _;have x:=Aa (show Su (Af pass.length 1++pass) salt 3 64=Pi pass salt from rfl);have l:(Pi pass salt).take 32=Bn pass salt:=rfl;have hd:(Pi pass salt).drop 32=Ge pass salt:=rfl;have D:=Ai6 pass salt;have r:=Ag0 pass salt;obtain⟨T,ab⟩:=nmd (Pi pass salt);obtain⟨A,ae⟩:=nmd (Bn pass salt);obtain⟨O,Y⟩:=nmd (Ge pass salt);rw[ab]at t x l hd;rw[ae]at l D⊢;rw[Y]at hd r⊢;have u:=Aa (fun w hk h0=>(S.o w hk h0:Calls _ _ _ _ fun e w'=>e=.returned (.string ⟨(Su (Af pass.length 1++pass) salt 3 64).toArray⟩)/\_));rw[show(64:Int).toNat=64 from rfl,x.o]at u;obtain⟨a0,Z⟩:=nmd (Af pass.length 1++pass);rw[Z]at ag u;have ay:(pass.length:Int)<=40:=by omega
 have a2:∀w,(zeroValue 58).run Tryz.prog w=.ok (.agg #[.pointer none,.pointer none]) w:=fun _=>by kernel_rfl
 obtain⟨w0,s⟩:=nmd (w.alloc (.cells #[.pointer none,.pointer none] 58));have ax:w0.heap.size=w.heap.size+1:=by rw[<-s];simp
 have c:Bw w w0:=s▸(Ah _ _).alloc (Ak _) _;have N:w0.there w.heap.size 0 2:=s▸Iy w #[.pointer none,.pointer none] 58;have Q:=Aa N;have b:=Aa (Ab D (Ab r t));have H:=Aa (Ab l hd);have d:=Aa (Ab hk h0);clear af ab ae Y Z S x l hd D r t N hk h0;generalize pass.length=n at*;go_enter Tryz.func51,Tryz.ntmps51;go_wp2_with fail;refine(aq.o w0).mono ?_;rintro e w1 ⟨rfl,q⟩;have C:=c.trans (q.mono c.size);have M:=d.o.1.below C W;have I:=d.o.2.below C L;go_wp2_with fail;refine(u.o w1 M I).mono ?_;rintro e w2 ⟨rfl,K⟩;have o:=q.trans (K.mono q.size);have P:=c.trans (o.mono c.size);have ad:=d.o.1.below P W;have J:=d.o.2.below P L;clear M I q C K;go_wp2_with fail;refine wp_region_any (by kernel_rfl) ?_;refine wpAny_take (i:=0) (v:=Ac T) rfl (by kernel_rfl) (by kernel_rfl) (by kernel_rfl) (fun _ _ _ h=>h) (Or.inl ⟨by kernel_rfl,fun w=>by kernel_rfl⟩) ?_;refine wpAny_take (i:=1) (v:=Ac (T.take 32)) rfl (by kernel_rfl) (by kernel_rfl) (by kernel_rfl) (fun _ _ _ h=>h) (Or.inl ⟨by kernel_rfl,fun w=>Aj8 _ _ _ 32 T rfl (by kernel_rfl) (by rw[b.o.2.2];decide) (by rw[b.o.2.2];decide) w⟩) ?_;refine wpAny_take (i:=3) (v:=Ac T) rfl (by kernel_rfl) (by kernel_rfl) (by kernel_rfl) (fun _ _ _ h=>h) (Or.inl ⟨by kernel_rfl,fun w=>by kernel_rfl⟩) ?_;refine wpAny_take (i:=4) (v:=Ac (T.drop 32)) rfl (by kernel_rfl) (by kernel_rfl) (by kernel_rfl) (fun _ _ _ h=>h) (Or.inl ⟨by kernel_rfl,fun w=>Ama _ _ _ 32 T rfl (by kernel_rfl) (by rw[b.o.2.2];decide) (by rw[b.o.2.2];decide) w⟩) ?_;rw[H.o.1,H.o.2];refine wpAny_ready (rs:=[2]) (by kernel_rfl) (by simp) ?_;refine Acj rfl (by kernel_rfl) 75 #[.string ⟨A.toArray⟩] (by kernel_rfl) ?_ AllReady.nil;refine(Ag4 A w2.drew ⟨ad.lt,ad.at_⟩ ⟨J.lt,J.at_⟩ (by rw[b.o.1];decide)).mono ?_;rintro e U ⟨bt,ah,ai,ar,aj,rfl,V,au,ak,al,am,an,ao,R⟩;have G:Bw w0 U:=o.drew.trans (R.mono o.size);refine⟨_,rfl,?_⟩;refine wpAny_ready (rs:=[5]) (by kernel_rfl) (by simp) ?_;refine Acj rfl (by kernel_rfl) 80 #[.string ⟨O.toArray⟩] (by kernel_rfl) ?_ AllReady.nil;refine(Ash O U).mono ?_;rintro e a ⟨bp,rfl,f,a3,F⟩;rw[Vh _ _ b.o.2.1]at f;have m:Bw w0 a:=G.trans (F.mono G.size);have E:Ln a bt A:=⟨ah,ai,ar,aj,V.below F ak,al,am,an,ao⟩;refine⟨_,rfl,?_⟩;refine wpAny_ready (rs:=[6]) (by kernel_rfl) (by simp) ?_;refine Abk rfl (by kernel_rfl) (.agg #[.pointer (some ⟨bt,0,none⟩),.pointer (some ⟨bp,0,none⟩)]) (w':=a) (by kernel_rfl) ?_ AllReady.nil;refine wpAny_ready (rs:=[7]) (by kernel_rfl) (by simp) ?_;refine Aex rfl (by kernel_rfl) 58 _ _ rfl w.heap.size 0 #[.pointer (some ⟨bt,0,none⟩),.pointer (some ⟨bp,0,none⟩)] (by kernel_rfl) (by kernel_rfl) (Qe Q.o m (by omega)) (by kernel_rfl) (by kernel_rfl) ?_ AllReady.nil;refine wpAny_done (by kernel_rfl) ?_ _;have aw:=o.size;have a4:w2.heap.size<=bt:=au
 have av:(a.setCells w.heap.size 0 [.pointer (some ⟨bt,0,none⟩),.pointer (some ⟨bp,0,none⟩)]).rangeAt w.heap.size 0 [.pointer (some ⟨bt,0,none⟩),.pointer (some ⟨bp,0,none⟩)]:=by
  intro j v z
  have ap:j<2:=by
   rcases Hv j 2 with g|g
   ·exact g
   ·rw[Sk (by simpa using g)]at z;cases z
  have:=Vw w.heap.size [.pointer (some ⟨bt,0,none⟩),.pointer (some ⟨bp,0,none⟩)] 0 a (fun k hk=>(Qe Q.o m (by omega) k (by simpa using hk)).1) j (by simpa using ap);rw[this,<-z,Az]
 have p:Kp [w.heap.size] a (a.setCells w.heap.size 0 [.pointer (some ⟨bt,0,none⟩),.pointer (some ⟨bp,0,none⟩)]):=(Kp.refl _ a).setCells _ 0 _ (.inl (by simp));have aa:=E.of_block (p.block bt E.lt (by simp;omega));have ac:=f.of_block (p.block bp f.lt (by simp;omega)) p.size;have X:Bw w (a.setCells w.heap.size 0 [.pointer (some ⟨bt,0,none⟩),.pointer (some ⟨bp,0,none⟩)]):=(c.trans (m.mono c.size)).trans (Ec _ _ _ _ _ (Ak _));have y:=Aa (Ab aa (Ab ac X));clear aa ac X p E f F m R G V;go_wp2_with fail;refine bodyPost_ret (v:=.agg #[.pointer (some ⟨bt,0,none⟩),.pointer (some ⟨bp,0,none⟩)]) (Mf Tryz.results51 _ _ w.heap.size 0 [.pointer (some ⟨bt,0,none⟩),.pointer (some ⟨bp,0,none⟩)] _ (by kernel_rfl) av Tryz.underlying58 rfl (by kernel_rfl)) (by kernel_rfl) ⟨bt,bp,rfl,y.o.1,y.o.2.1,by omega,by omega,y.o.2.2⟩
structure VM where
 opened:Bool
 salt:By
 tv:Value
 pv:Value
 version:Nat
 session:Nat
 done:Nat
 place:Nat
 digest:By
 used:List Bool
 cv:Value
def Fw (d:Nat)(v:VM):List Value:=[.pointer (some ⟨d,0,none⟩),.bool v.opened,Ac v.salt,v.tv,v.pv,.int .i64 v.version,.int .i64 v.session,.int .i64 v.done,.int .i64 v.place,Ac v.digest]++(v.used.map Value.bool++[v.cv])
structure Bz (w:World)(b d:Nat)(v:VM):Prop where
 blk:w.heap[b]?=some (.cells (Fw d v).toArray 64 (0,0))
 ul:v.used.length=48
section
variable {w:World}{b d:Nat}{v:VM}
theorem Bz.lt (h:Bz w b d v):b<w.heap.size:=lt_of_block h.blk
theorem Bz.fr (h:Bz w b d v)(i:Nat):w.frozen? ⟨b,i,none⟩=false:=by simp[World.frozen?,h.blk]
theorem Bz.c0 (h:Bz w b d v):w.cell? ⟨b,0,none⟩=some (.pointer (some ⟨d,0,none⟩)):=by rw[cell_of_row _ _ _ _ _ _ h.blk];simp[Fw]
theorem Bz.c1 (h:Bz w b d v):w.cell? ⟨b,1,none⟩=some (.bool v.opened):=by rw[cell_of_row _ _ _ _ _ _ h.blk];simp[Fw]
theorem Bz.c2 (h:Bz w b d v):w.cell? ⟨b,2,none⟩=some (Ac v.salt):=by rw[cell_of_row _ _ _ _ _ _ h.blk];simp[Fw]
theorem Bz.c3 (h:Bz w b d v):w.cell? ⟨b,3,none⟩=some v.tv:=by rw[cell_of_row _ _ _ _ _ _ h.blk];simp[Fw]
theorem Bz.c4 (h:Bz w b d v):w.cell? ⟨b,4,none⟩=some v.pv:=by rw[cell_of_row _ _ _ _ _ _ h.blk];simp[Fw]
theorem Bz.c5 (h:Bz w b d v):w.cell? ⟨b,5,none⟩=some (.int .i64 v.version):=by rw[cell_of_row _ _ _ _ _ _ h.blk];simp[Fw]
theorem Bz.c6 (h:Bz w b d v):w.cell? ⟨b,6,none⟩=some (.int .i64 v.session):=by rw[cell_of_row _ _ _ _ _ _ h.blk];simp[Fw]
theorem Bz.c7 (h:Bz w b d v):w.cell? ⟨b,7,none⟩=some (.int .i64 v.done):=by rw[cell_of_row _ _ _ _ _ _ h.blk];simp[Fw]
theorem Bz.c8 (h:Bz w b d v):w.cell? ⟨b,8,none⟩=some (.int .i64 v.place):=by rw[cell_of_row _ _ _ _ _ _ h.blk];simp[Fw]
theorem Bz.c9 (h:Bz w b d v):w.cell? ⟨b,9,none⟩=some (Ac v.digest):=by rw[cell_of_row _ _ _ _ _ _ h.blk];simp[Fw]
theorem Bz.cu (h:Bz w b d v)(p:Nat)(c:p<48):w.cell? ⟨b,10+p,none⟩=some (.bool (v.used.getD p false)):=by have a:=h.ul;rw[cell_of_row _ _ _ _ _ _ h.blk,Aah,Fw,If (by simp),Ja (by simp[a];omega)];simp[Az (by omega:p<v.used.length)]
theorem Bz.c58 (h:Bz w b d v):w.cell? ⟨b,58,none⟩=some v.cv:=by have a:=h.ul;rw[cell_of_row _ _ _ _ _ _ h.blk,Aah,Fw,If (by simp),If (by simp[a])];simp[a]
theorem Bz.of_block {w':World}(h:Bz w b d v)(e:w'.heap[b]?=w.heap[b]?):Bz w' b d v:=⟨e.trans h.blk,h.ul⟩
theorem Bz.set1 (h:Bz w b d v)(a:Bool):Bz (w.setCell ⟨b,1,none⟩ (.bool a)) b d {v with opened:=a}:=⟨by rw[Cx h.blk 1 _];simp[Fw],h.ul⟩
theorem Bz.set2 (h:Bz w b d v)(a:By):Bz (w.setCell ⟨b,2,none⟩ (Ac a)) b d {v with salt:=a}:=⟨by rw[Cx h.blk 2 _];simp[Fw],h.ul⟩
theorem Bz.set3 (h:Bz w b d v)(a:Value):Bz (w.setCell ⟨b,3,none⟩ a) b d {v with tv:=a}:=⟨by rw[Cx h.blk 3 _];simp[Fw],h.ul⟩
theorem Bz.set4 (h:Bz w b d v)(a:Value):Bz (w.setCell ⟨b,4,none⟩ a) b d {v with pv:=a}:=⟨by rw[Cx h.blk 4 _];simp[Fw],h.ul⟩
theorem Bz.set5 (h:Bz w b d v)(a:Nat):Bz (w.setCell ⟨b,5,none⟩ (.int .i64 a)) b d {v with version:=a}:=⟨by rw[Cx h.blk 5 _];simp[Fw],h.ul⟩
theorem Bz.set6 (h:Bz w b d v)(a:Nat):Bz (w.setCell ⟨b,6,none⟩ (.int .i64 a)) b d {v with session:=a}:=⟨by rw[Cx h.blk 6 _];simp[Fw],h.ul⟩
theorem Bz.set7 (h:Bz w b d v)(a:Nat):Bz (w.setCell ⟨b,7,none⟩ (.int .i64 a)) b d {v with done:=a}:=⟨by rw[Cx h.blk 7 _];simp[Fw],h.ul⟩
theorem Bz.set8 (h:Bz w b d v)(a:Nat):Bz (w.setCell ⟨b,8,none⟩ (.int .i64 a)) b d {v with place:=a}:=⟨by rw[Cx h.blk 8 _];simp[Fw],h.ul⟩
theorem Bz.set9 (h:Bz w b d v)(a:By):Bz (w.setCell ⟨b,9,none⟩ (Ac a)) b d {v with digest:=a}:=⟨by rw[Cx h.blk 9 _];simp[Fw],h.ul⟩
theorem Bz.setu (h:Bz w b d v)(p:Nat)(e:p<48)(a:Bool):Bz (w.setCell ⟨b,10+p,none⟩ (.bool a)) b d {v with used:=v.used.set p a}:=by have c:=h.ul;refine⟨?_,by simpa using c⟩;rw[Cx h.blk (10+p) _];simp only[Fw,Cz];rw[Lu _ _ (by simp),List.set_append_left _ _ (by simp[c];omega)];simp[List.map_set]
theorem Bz.set58 (h:Bz w b d v)(c:Value):Bz (w.setCell ⟨b,58,none⟩ c) b d {v with cv:=c}:=by have a:=h.ul;refine⟨?_,a⟩;rw[Cx h.blk 58 _];simp only[Fw,Cz];rw[Lu _ _ (by simp),Lu _ _ (by simp[a])];simp[a]
end
structure Ai (w:World)(x:DX)(b:Nat)(m:DM)(v:VM)(wv:Value):Prop where
 disk:Cr w x m wv
 vault:Bz w b x.d v
 hk:Br w 1 .u32 Gk
 h0:Br w 0 .u32 Jv
 nb:b∉x.set wv
 nk:1∉x.set wv/\1≠b
 n0:0∉x.set wv/\0≠b
def Ai.set (x:DX)(b:Nat)(wv:Value):List Nat:=b::x.set wv
def Cd (wv a:Value)(n:Nat):Prop:=∀j,a.ownBlock=some j->wv.ownBlock=some j\/n<=j
theorem Cd.refl (wv:Value)(n:Nat):Cd wv wv n:=fun _ h=>.inl h
theorem Cd.trans {a b c:Value}{n m:Nat}(h:Cd a b n)(k:Cd b c m)(d:n<=m):Cd a c n:=fun j f=>by
 rcases k j f with e|e
 ·exact h j e
 ·exact .inr (Hb d e)
theorem Cd.o {x:DX}{wv a:Value}{n k:Nat}(h:Cd wv a n)(hk:k∉x.set wv)(b:k<n):k∉x.set a:=by
 intro e;simp only[DX.set,As,Al,Bf,Cq,or_false]at e hk;rcases e with e|e
 ·exact hk (.inl e)
 ·rcases h k e with g|g
  ·exact hk (.inr g)
  ·omega
theorem Cd.sub {x:DX}{wv a:Value}{n:Nat}(h:Cd wv a n){b k:Nat}(hk:k∈Ai.set x b a):k∈Ai.set x b wv\/n<=k:=by
 simp only[Ai.set,DX.set,As,Al,Bf,Cq,or_false]at hk⊢;rcases hk with e|e|e
 ·exact .inl (.inl e)
 ·exact .inl (.inr (.inl e))
 ·rcases h k e with g|g
  ·exact .inl (.inr (.inr g))
  ·exact .inr g
def Mt (w:World)(x:DX)(b:Nat)(wv:Value)(k:Nat):Prop:=k<w.heap.size/\k∉Ai.set x b wv
theorem Mt.step {w w':World}{x:DX}{b:Nat}{wv a:Value}{k:Nat}(h:Mt w x b wv k)(c:Cd wv a w.heap.size)(hz:w.heap.size<=w'.heap.size):Mt w' x b a k:=
 ⟨Eu h.1 hz,fun e=>(c.sub e).elim h.2 (fun g=>by have:=h.1;omega)⟩
theorem Mt.block {w w':World}{x:DX}{b:Nat}{wv:Value}{k:Nat}(h:Mt w x b wv k)(a:Kp (Ai.set x b wv) w w'):w'.heap[k]?=w.heap[k]?:=a.block k h.1 h.2
theorem Ai.later {w w':World}{x:DX}{b:Nat}{m:DM}{v:VM}{wv:Value}(h:Ai w x b m v wv)(hb:Bw w w'):Ai w' x b m v wv:=
 ⟨h.disk.kp (S:=[]) (Kp.of_below hb) (by simp),h.vault.of_block (hb.block b h.vault.lt),h.hk.below hb h.hk.lt,h.h0.below hb h.h0.lt,h.nb,h.nk,h.n0⟩
theorem Ai.ofDisk {w w':World}{x:DX}{b:Nat}{m e:DM}{v:VM}{wv d:Value}(h:Ai w x b m v wv)(a:Kp (x.set wv) w w')(hd:Cr w' x e d)(c:Cd wv d w.heap.size):Ai w' x b e v d:=
 ⟨hd,h.vault.of_block (a.block b h.vault.lt h.nb),a.cells h.hk h.nk.1,a.cells h.h0 h.n0.1,c.o h.nb h.vault.lt,⟨c.o h.nk.1 h.hk.lt,h.nk.2⟩,⟨c.o h.n0.1 h.h0.lt,h.n0.2⟩⟩
theorem Ai.ofVault {w w':World}{x:DX}{b:Nat}{m:DM}{v c:VM}{wv:Value}(h:Ai w x b m v wv)(a:Kp [b] w w')(e:Bz w' b x.d c):Ai w' x b m c wv:=
 ⟨h.disk.kp a (fun j d=>by simp;rintro rfl;exact h.nb d),e,a.cells h.hk (by simpa using h.nk.2),a.cells h.h0 (by simpa using h.n0.2),h.nb,h.nk,h.n0⟩
theorem Px {x:DX}{b:Nat}{wv:Value}{k:Nat}(h:k∈x.set wv):k∈Ai.set x b wv:=Nb _ h
theorem Ai.bound {w:World}{x:DX}{b:Nat}{m:DM}{v:VM}{wv:Value}(h:Ai w x b m v wv){k:Nat}(hk:k∈Ai.set x b wv):k<w.heap.size:=by
 simp only[Ai.set,DX.set,As,Al,Bf,Cq,or_false]at hk;rcases hk with rfl|(rfl|rfl|rfl)|e
 ·exact h.vault.lt
 ·exact h.disk.lt
 ·exact h.disk.rb.lt
 ·exact h.disk.rc.lt
 ·exact Hl h.disk.own k e
theorem Ai.apart {w w':World}{x:DX}{b:Nat}{m:DM}{v:VM}{wv:Value}(h:Ai w x b m v wv){k:Nat}(hk:w.heap.size<=k)(a:k<w'.heap.size):Mt w' x b wv k:=⟨a,fun e=>by have:=h.bound e;omega⟩
def DM.settle (m:DM):DM:={m.flush with count:=m.count+1}
theorem A04 (x:DX)(b:Nat)(m:DM)(v:VM)(wv:Value)(w:World)(h:Ai w x b m v wv)(g:m.count<m.ceiling):
  Cl 82 #[.pointer (some ⟨b,0,none⟩)] w fun e w'=>e=.returned (.int .i64 0)/\Ai w' x b m.settle v wv/\Kp (x.set wv) w w':=by
 have c0:=h.vault.c0;have l:=Aa (Ajh x m wv w h.disk);have q:=Aa h;clear h;go_enter Tryz.func82,Tryz.ntmps82;go_wp2_with fail;refine l.o.mono ?_;rintro e w1 ⟨rfl,c,a⟩;have i:Kp (x.set wv) w w1:=c.mono (fun k hk=>by simp at hk;simp[DX.set];rcases hk with e|e<;>simp[e]);have h1:=q.o.ofDisk i a (Cd.refl _ _);have n:=h1.vault.c0;have r:=Aa (Ao6 x m.flush wv w1 a g);have o:=Aa h1;clear h1 a c c0 l g;go_wp2_with fail;refine r.o.mono ?_;rintro e w2 ⟨rfl,d,j⟩;have f:Kp (x.set wv) w1 w2:=d.mono (fun k hk=>by simp at hk;simp[DX.set,hk]);have h2:=o.o.ofDisk f j (Cd.refl _ _);have p:=Aa h2;clear h2 j d n;go_wp2_with fail;go_ret;exact⟨rfl,p.o,i.trans f⟩
theorem Tn (e:Oper)(a:Act)(T:TypeId)(x:Operand)(b c:Nat)(cs:List Value)(i:e.op=.load T x)(j:a.eval x=.pointer (some ⟨b,c,none⟩))(d:TypeDesc)(g:Tryz.prog.underlying T=some d)(hd:d.isRow=true)(h:(Tryz.prog.info? T).map (·.size)=some cs.length)(w:World)(f:w.rangeAt b c cs):
  (execOp a.eval e).run Tryz.prog w=.ok (.value (.agg cs.toArray)) w:=by
 unfold execOp;simp only[i,j];simp only[Instr.loadAt,Instr.sureAddr,Sem.run_bind,Sem.run_pure,Result.andThen_ok,run_loadVar_mid w b c T cs d f g hd h]
theorem Uy {w:World}{b c:Nat}{u v:Value}(h1:w.cell? ⟨b,c,none⟩=some u)(h2:w.cell? ⟨b,c+1,none⟩=some v):w.rangeAt b c [u,v]:=by
 intro j d a
 match j,a with
 |0,a=>simpa using h1.trans (by simpa using a)
 |1,a=>simpa using h2.trans (by simpa using a)
def DM.advance (m:DM)(n:Nat)(t:By):DM:=(m.write (n%2) t).settle
theorem Ah4 (x:DX)(b bt:Nat)(tk:By)(m:DM)(v:VM)(wv:Value)(n:Nat)(w:World)(h:Ai w x b m v wv)(O:m.count<m.ceiling)(S:v.tv=.pointer (some ⟨bt,0,none⟩))(u:Ln w bt tk)(L:v.salt.length=16)(r:n<9223372036854775808)(D:v.place<9223372036854775808)(R:m.wrote.length<5000000):
  Cl 81 #[.pointer (some ⟨b,0,none⟩),.int .i64 n] w fun e w'=>e=.returned (.int .i64 0)/\∃E,Ai w' x b (m.advance n (Ci tk v.salt n v.place v.digest)) {v with version:=n} E/\Kp (Ai.set x b wv) w w'/\Cd wv E w.heap.size:=by
 have H:=h.disk.ge
 have o:=Aa (show ∀w',Bw w w'->w'.rangeAt b 3 [.pointer (some ⟨bt,0,none⟩),v.pv]/\w'.cell? ⟨b,2,none⟩=some (Ac v.salt)/\w'.rangeAt b 8 [.int .i64 v.place,Ac v.digest]from fun w' i=>by
  have d:=(h.later i).vault
  exact⟨Uy (by rw[d.c3,S]) d.c4,d.c2,Uy d.c8 d.c9⟩)
 have a:=Aa (fun w' (i:Bw w w')=>Aka bt v.pv tk v.salt v.digest n v.place w' (u.of_block (i.block bt u.lt)) (h.hk.below i h.hk.lt) L r D);have Y:(n:Int)<9223372036854775808:=by omega
 obtain⟨T,P⟩:=nmd (Ci tk v.salt n v.place v.digest);rw[P]at a⊢;have C:=Aa h;have s:=Aa (Ab O (Ab R H));have aa:=Aa r;clear h u L D R O H P r;go_enter Tryz.func81,Tryz.ntmps81;go_wp2_with fail;refine Jx (fun w'=>Bw w w') (by kernel_rfl) (by kernel_rfl) (Ah _ _).drew ?_;refine Aq 0 (.pointer (some ⟨b,0,none⟩)) ?_;refine Aq 1 (.pointer (some ⟨b,0,none⟩)) ?_;refine Aq 2 (.pointer (some ⟨b,3,none⟩)) ?_;refine Cf 3 (.agg #[.pointer (some ⟨bt,0,none⟩),v.pv]) rfl (by kernel_rfl) rfl (My fun w hw=>Tn _ _ 58 _ b 3 [.pointer (some ⟨bt,0,none⟩),v.pv] rfl (by kernel_rfl) _ Tryz.underlying58 rfl (by kernel_rfl) w (o.o w hw).1) ?_;refine Aq 4 (.pointer (some ⟨b,0,none⟩)) ?_;refine Aq 5 (.pointer (some ⟨b,0,none⟩)) ?_;refine Aq 6 (.pointer (some ⟨b,2,none⟩)) ?_;refine Fp 7 (Ac v.salt) Im (fun w hw=>(o.o w hw).2.1) ?_;refine Aq 8 (.int .i64 n) ?_;refine Aq 9 (.pointer (some ⟨b,0,none⟩)) ?_;refine Aq 10 (.pointer (some ⟨b,0,none⟩)) ?_;refine Aq 11 (.pointer (some ⟨b,8,none⟩)) ?_;refine Cf 12 (.agg #[.int .i64 v.place,Ac v.digest]) rfl (by kernel_rfl) rfl (My fun w hw=>Tn _ _ 60 _ b 8 [.int .i64 v.place,Ac v.digest] rfl (by kernel_rfl) _ Tryz.underlying60 rfl (by kernel_rfl) w (o.o w hw).2.2) ?_;refine Cf 13 (Ac T) rfl (by kernel_rfl) rfl (Gb (104) (#[.agg #[.pointer (some ⟨bt,0,none⟩),v.pv],.string ⟨v.salt.toArray⟩,.int .i64 n,.agg #[.int .i64 v.place,.string ⟨v.digest.toArray⟩]]) (fun _=>by kernel_rfl) fun w hw=>(a.o w hw).mono fun e w2 h=>⟨h.1,hw.trans (h.2.mono hw.size)⟩) ?_;refine Aq 14 (Ac T) ?_;refine Dv.done (by kernel_rfl) fun w1 l=>?_;have h1:=C.o.later l;have U:=h1.vault.c0;have I:=Aa (Aff x m wv (n%2) T w1 h1.disk (by have:=s.o.2.2;omega) s.o.2.1);have F:=Aa h1;clear h1 o a C;go_wp2_with fail;have e2:(n:Int)%2=((n%2:Nat):Int):=by simp
 rw[e2];refine I.o.mono ?_;rintro e w2 ⟨rfl,f,z,G,q⟩;have h2:=F.o.ofDisk f G q;have a:=Aa (A04 x b _ v z w2 h2 (by exact s.o.1));clear G h2 e2 I U;go_wp2_with fail;refine a.o.mono ?_;rintro e p ⟨rfl,c,K⟩;have X:=c.vault.c5;have ab:=c.vault.fr 5;have A:=c.vault.set5 n;have N:=c.ofVault ((Kp.refl [b] p).setCell b 5 (.int .i64 n) (.inl (by simp))) A;have W:=l.size;have Z:=f.size;have M:Kp (Ai.set x b wv) w w2:=(Kp.of_below l).trans (f.mono (fun k=>Px));have t:Cd wv z w.heap.size:=fun j V=>(q j V).imp id (fun g=>Hb W g);have J:Kp (Ai.set x b wv) w p:=M.step K (fun k hk=>t.sub (b:=b) (Px hk));have Q:Kp (Ai.set x b wv) w (p.setCell ⟨b,5,none⟩ (.int .i64 n)):=J.setCell b 5 _ (.inl (by simp[Ai.set]));have y:=Aa (Ab N (Ab Q t));clear c N A K M t J Q q f l a F;go_wp2_with fail;go_ret;exact⟨rfl,z,y.o.1,y.o.2.1,y.o.2.2⟩
theorem DM.advance_count (m:DM)(n:Nat)(t:By):(m.advance n t).count=m.count+1:=rfl
theorem DM.advance_ceiling (m:DM)(n:Nat)(t:By):(m.advance n t).ceiling=m.ceiling:=rfl
theorem DM.advance_wrote (m:DM)(n:Nat)(t:By):(m.advance n t).wrote=m.wrote++[(n%2,t)]:=rfl
def DM.begin (m:DM)(tk salt:By)(place:Nat)(digest:By):DM:=
 (m.advance (m.count+1) (Ci tk salt (m.count+1) place digest)).advance (m.count+2) (Ci tk salt (m.count+2) place digest)
theorem Aps (x:DX)(b bt:Nat)(tk:By)(m:DM)(v:VM)(wv:Value)(w:World)(h:Ai w x b m v wv)(E:m.count+2<=m.ceiling)(u:v.tv=.pointer (some ⟨bt,0,none⟩))(n:Ln w bt tk)(G:Mt w x b wv bt)(y:v.salt.length=16)(r:v.place<9223372036854775808)(I:m.wrote.length<4999000):
  Cl 52 #[.pointer (some ⟨b,0,none⟩),.int .i64 m.count,.int .i64 m.count] w fun e w'=>e=.returned (.int .i64 0)/\∃s,Ai w' x b (m.begin tk v.salt v.place v.digest) {v with version:=m.count+2,session:=m.count+2,opened:=true} s/\Kp (Ai.set x b wv) w w'/\Cd wv s w.heap.size:=by
 have C:=h.disk.cl;have j:=Aa (Ah4 x b bt tk m v wv (m.count+1) w h (by omega) u n y (by omega) r (by omega));have J:(m.count:Int)<=1048576:=by omega
 have g:=Aa (Ab E (Ab C I));have f:=Aa (Ab n G);have F:=Aa (show m.begin tk v.salt v.place v.digest=(m.advance (m.count+1) (Ci tk v.salt (m.count+1) v.place v.digest)).advance (m.count+2) (Ci tk v.salt (m.count+2) v.place v.digest)from rfl);obtain⟨c,l⟩:=nmd (m.count);rw[l]at J j g F⊢;have M:=Aa l;clear h E n G I C l;go_enter Tryz.func52,Tryz.ntmps52;go_wp2_with fail;have e1:(c:Int)+1=((c+1:Nat):Int):=by omega
 rw[e1];refine j.o.mono ?_;rintro e w1 ⟨rfl,K,h1,d,i⟩;have Q:=f.o.2.step i d.size;have L:=f.o.1.of_block (f.o.2.block d);have q:=Aa (Ah4 x b bt tk _ _ K (c+2) w1 h1 (by rw[DM.advance_count,DM.advance_ceiling,M.o];have:=g.o.1;omega) u L y (by have:=g.o;omega) r (by rw[DM.advance_wrote];simp;have:=g.o;omega));clear h1 j e1;go_wp2_with fail;have e2:(c:Int)+2=((c+2:Nat):Int):=by omega
 rw[e2];refine q.o.mono ?_;rintro e w2 ⟨rfl,N,h2,p,t⟩;clear q e2;have z:Kp (Ai.set x b wv) w w2:=d.step p (fun k hk=>i.sub hk);have A:=i.trans t d.size;have P:=h2.vault.c6;have O:=h2.vault.fr 6;have a:=h2.ofVault ((Kp.refl [b] w2).setCell b 6 (.int .i64 (c+2:Nat)) (.inl (by simp))) (h2.vault.set6 (c+2));have c1:=a.vault.c1;have f1:=a.vault.fr 1;have D:=a.ofVault ((Kp.refl [b] _).setCell b 1 (.bool true) (.inl (by simp))) (a.vault.set1 true);have H:Kp (Ai.set x b wv) w ((w2.setCell ⟨b,6,none⟩ (.int .i64 (c+2:Nat))).setCell ⟨b,1,none⟩ (.bool true)):=(z.setCell b 6 _ (.inl (by simp[Ai.set]))).setCell b 1 _ (.inl (by simp[Ai.set]));have o:=Aa (Ab D (Ab H A));have e3:((c+2:Nat):Int)=(c:Int)+2:=by omega
 rw[e3]at c1 f1;clear h2 a D H z A d p i t f e3;go_wp2_with fail;go_ret;exact⟨rfl,N,by rw[F.o];exact o.o.1,o.o.2.1,o.o.2.2⟩
theorem Agd (x:DX)(b:Nat)(m:DM)(v:VM)(wv:Value)(pass:By)(w:World)(h:Ai w x b m v wv)(a:v.opened=false)(c:pass.length<=40):
  Cl 48 #[.pointer (some ⟨b,0,none⟩),.string ⟨pass.toArray⟩] w fun e w'=>e=.returned (.tuple #[.int .i64 m.count,.int .i64 0])/\w'=w:=by
 have c1:=h.vault.c1;rw[a]at c1;have c0:=h.vault.c0;have d:=Aa (Asq x.d w m.count h.disk.c2 h.disk.c5);have f:(ByteArray.mk pass.toArray).size=pass.length:=rfl;have hd:decide ((40:Int)<(pass.length:Int))=false:=by simp;omega
 clear h a c;generalize pass.length=n at*;go_enter Tryz.func48,Tryz.ntmps48;go_wp2_with fail;refine d.o.mono ?_;rintro e w1 ⟨rfl,rfl⟩;go_wp2_with fail;go_ret2;exact⟨rfl,rfl⟩
end Go.Proofs.YtojgilcdgccojaaGreatDoor
