import Derived.Laws.AppendOwnNone
import Derived.Deep.AppendLies
import Derived.Test.YtojgilcdgccojaaGreatDoorAl
import Derived.Test.YtojgilcdgccojaaGreatDoorMAp
import Derived.Test.YtojgilcdgccojaaGreatDoorMAk
set_option linter.unusedSimpArgs false
set_option maxRecDepth 100000
set_option maxHeartbeats 8000000
namespace Go.Proofs.YtojgilcdgccojaaGreatDoor
open Go.RowKit
theorem Auu (x:DX)(b:Nat)(m:DM)(v:VM)(wv:Value)(k:By)(w:World)(h:Ai w x b m v wv)(c:v.cv=.slice none 0 0):
  Cl 59 #[.pointer (some ⟨b,0,none⟩),.string ⟨k.toArray⟩] w fun e w'=>e=.returned (.tuple #[.int .i64 0,.bool false])/\Bw w w':=by
 have a:=h.vault.c58;rw[c]at a;clear h c;go_enter Tryz.func59,Tryz.ntmps59;go_wp2_with fail
 go_loopw [6] (fun i wr=>i=.int .i64 0/\∃n,wr=w.drewN n) (fun _ _=>0)
 case atStart=>exact⟨rfl,0,rfl⟩
 case round=>obtain⟨rfl,n,rfl⟩:=hrel;have d:(w.drewN n).cell? ⟨b,58,none⟩=some (.slice none 0 0):=a;go_wp2_with fail;go_quiet (fail);go_wp2_with fail;go_ret2;exact⟨rfl,Bp (Bp (Ah _ _) n) nq⟩
theorem Adu (k:By)(w:World)(h1:1<=k.length)(a:k.length<=8):
  Cl 58 #[.string ⟨k.toArray⟩] w fun e w'=>e=.returned (.bool true)/\w'=w:=by
 have b:(ByteArray.mk k.toArray).size=k.length:=rfl;have d:(1:Int)<=(k.length:Int):=by omega
 have c:(k.length:Int)<=8:=by omega
 clear h1 a;generalize k.length=n at*;go_enter Tryz.func58,Tryz.ntmps58;go_wp2_with fail;go_ret;exact⟨rfl,rfl⟩
theorem An2:(Tryz.prog.info? 100).map (fun i=>(i.zero,i.size,i.bytes))=some (some (.agg #[.string ⟨#[]⟩,.string ⟨#[]⟩,.bool false]),3,40):=by kernel_rfl
def A35 (w:World)(cv:Value)(k s:By)(gone:Bool):Prop:=w.ownsRow 0 100 3 cv 1 [Ac k,Ac s,.bool gone]
theorem Avl (x:DX)(b:Nat)(m:DM)(v:VM)(wv:Value)(k s:By)(gone:Bool)(w:World)(h:Ai w x b m v wv)(p:v.cv=.slice none 0 0):
  Cl 65 #[.pointer (some ⟨b,0,none⟩),.agg #[.string ⟨k.toArray⟩,.string ⟨s.toArray⟩,.bool gone]] w fun e w'=>e=.returned (.int .i64 0)/\∃cv,Ai w' x b m {v with cv:=cv} wv/\A35 w' cv k s gone/\(∀j,cv.ownBlock=some j->w.heap.size<=j)/\Kp [b] w w':=by
 obtain⟨G,z,K,O,I⟩:=info_parts An2;have R:=h.vault.lt;obtain⟨w0,n⟩:=nmd (w.alloc (.cells #[.string ⟨k.toArray⟩,.string ⟨s.toArray⟩,.bool gone] 100));have A:Bw w w0:=n▸(Ah _ _).alloc (Ak _) _;have T:w0.heap.size=w.heap.size+1:=by rw[<-n];simp
 have q:w0.heap[w.heap.size]?=some (.cells #[.string ⟨k.toArray⟩,.string ⟨s.toArray⟩,.bool gone] 100 (0,0)):=n▸heap_alloc_new w _;have h0:=h.later A;have k0:w0.cell? ⟨w.heap.size,0,none⟩=some (.string ⟨k.toArray⟩):=crw q rfl;have C:=Aa (Auu x b m v wv k w0 h0 p);have Q:=Aa q;have r:=Aa (Ab h0 p);clear h p h0 q;go_enter Tryz.func65,Tryz.ntmps65;go_wp2_with fail;refine C.o.mono ?_;rintro e w1 ⟨rfl,l⟩;have h1:=r.o.1.later l;have y:=h1.vault.c58;rw[r.o.2]at y;have U:=l.size;have i:=(l.block w.heap.size (by omega)).trans Q.o;have L:w1.cell? ⟨w.heap.size,0,none⟩=some (.string ⟨k.toArray⟩):=crw i rfl;have l1:w1.cell? ⟨w.heap.size,1,none⟩=some (.string ⟨s.toArray⟩):=crw i rfl;have l2:w1.cell? ⟨w.heap.size,2,none⟩=some (.bool gone):=crw i rfl;have N:=Aa h1;clear h1 i C k0;go_wp2_with (at_builtin;refine wpList_append_lies _ rfl _ _ 62 rfl 0 100 G _ 3 40 Tryz.underlying62 z K O I rfl (by decide) (.slice none 0 0) 0 [] rfl (Sn _ _ _ _) ⟨w1.heap.size,0,none⟩ 1 1 [Ac k,Ac s,.bool gone] rfl rfl ?c1 ?c2 (by decide) ?c3 (by decide) (Cu _) _ rfl ?_)
 case c1=>exact Qt (cs:= #[Ac k,Ac s,.bool gone]) (heap_alloc_new _ _)
 case c2=>intro u H;simp at H;rcases H with rfl|rfl|rfl<;>rfl
 case c3=>decide
 intro g cap f t E F M
 have J:g=w1.heap.size+1:=by
  rcases F with e|e
  ·cases e
  ·simpa using e
 have c:Bw w1 f:=((Ah _ _).alloc (Ak _) _).grown E (by simp) (fun j d=>by cases d);have a:=N.o.later c;have P:=a.vault.c58;rw[r.o.2]at P;have S:=a.vault.fr 58;have D:=Aa (Ab a (Ab c t));clear a c E F M y L l1 l2;go_wp2_with (at_builtin;refine wpList_append_own_none rfl _ _ 62 rfl 0 100 G 3 Tryz.underlying62 z _ _ _ rfl D.o.2.2 rfl ?_);go_ret;obtain⟨a,c,t⟩:=D.o;subst J;have o:Kp [b] f (f.setCell ⟨b,58,none⟩ (.slice (some ⟨w1.heap.size+1,0,none⟩) 1 cap)):=(Kp.refl [b] f).setCell b 58 _ (.inl (by simp));have V:=c.size;refine⟨rfl,.slice (some ⟨w1.heap.size+1,0,none⟩) 1 cap,a.ofVault o (a.vault.set58 _),?_,?_,?_⟩
 ·exact Bm t o (fun j d=>by
   have:w1.heap.size+1=j:=by simpa [Value.ownBlock]using d
   simp;omega)
 ·intro j d;have:w1.heap.size+1=j:=by simpa [Value.ownBlock]using d
  omega
 ·exact((Kp.of_below A).trans ((Kp.of_below l).trans (Kp.of_below c))).trans o
structure Bv (w:World)(c:Nat)(t:By)(p:Nat)(r:Bool):Prop where
 blk:w.heap[c]?=some (.cells #[Ac t,.int .i64 p,.bool r] 187 (0,0))
theorem Bv.lt {w:World}{c:Nat}{t:By}{p:Nat}{r:Bool}(h:Bv w c t p r):c<w.heap.size:=lt_of_block h.blk
theorem Bv.fr {w:World}{c:Nat}{t:By}{p:Nat}{r:Bool}(h:Bv w c t p r)(i:Nat):w.frozen? ⟨c,i,none⟩=false:=by simp[World.frozen?,h.blk]
theorem Bv.c0 {w:World}{c:Nat}{t:By}{p:Nat}{r:Bool}(h:Bv w c t p r):w.cell? ⟨c,0,none⟩=some (Ac t):=by rw[cell_of_row _ _ _ _ _ _ h.blk];rfl
theorem Bv.c1 {w:World}{c:Nat}{t:By}{p:Nat}{r:Bool}(h:Bv w c t p r):w.cell? ⟨c,1,none⟩=some (.int .i64 p):=by rw[cell_of_row _ _ _ _ _ _ h.blk];rfl
theorem Bv.c2 {w:World}{c:Nat}{t:By}{p:Nat}{r:Bool}(h:Bv w c t p r):w.cell? ⟨c,2,none⟩=some (.bool r):=by rw[cell_of_row _ _ _ _ _ _ h.blk];rfl
theorem Bv.set1 {w:World}{c:Nat}{t:By}{p:Nat}{r:Bool}(h:Bv w c t p r)(a:Nat):Bv (w.setCell ⟨c,1,none⟩ (.int .i64 a)) c t a r:=⟨by rw[Cx h.blk 1 _];simp⟩
theorem Bv.of_block {w w':World}{c:Nat}{t:By}{p:Nat}{r:Bool}(h:Bv w c t p r)(e:w'.heap[c]?=w.heap[c]?):Bv w' c t p r:=⟨e.trans h.blk⟩
theorem Yo (c:Nat)(t:By)(p n:Nat)(r:Bool)(w:World)(h:Bv w c t p r)(g:p+n<=t.length)(k:t.length<=1000):
  Cl 124 #[.pointer (some ⟨c,0,none⟩),.int .i64 n] w fun e w'=>e=.returned (Ac ((t.drop p).take n))/\Bv w' c t (p+n) r/\Kp [c] w w':=by
 have c0:=h.c0;have c1:=h.c1;have f1:=h.fr 1;have y:(ByteArray.mk t.toArray).size=t.length:=rfl;have o:(ByteArray.mk t.toArray).extract p (p+n)=⟨((t.drop p).take n).toArray⟩:=by rw[ByteArray.extract_mk,Nat.add_sub_cancel_left]
 have x:(p:Int)+(n:Int)<=(t.length:Int):=by omega
 have z:(t.length:Int)<=1000:=by omega
 have j:¬((t.length:Int)-(p:Int)<(n:Int)):=by omega
 have v:decide ((t.length:Int)-(p:Int)<(n:Int))=false:=by simpa using j
 have d:=Aa h;generalize q:(t.drop p).take n=T at*;generalize s:t.length=L at*;have u:=Aa (Ab g k);clear g k h q s j;go_enter Tryz.func124,Tryz.ntmps124;go_wp2_with fail;go_quiet (fail);obtain⟨w1,a⟩:=nmd (w.drewN nq);have h1:Bv w1 c t p r:=a▸(⟨d.o.blk⟩:Bv (w.drewN nq) c t p r);have k1:Kp [c] w w1:=a▸(Kp.refl [c] w).drewN nq;rw[a];clear a c0 c1 f1 d;have c0:=h1.c0;have c1:=h1.c1;have l:=Aa h1;clear h1;go_wp2_with fail;have m:IntKind.i64.wrap ((p:Int)+(n:Int))=(p:Int)+(n:Int):=by rw[show(p:Int)+(n:Int)=((p+n:Nat):Int)from by omega];exact Iq _ (by omega)
 go_quiet (fail);obtain⟨w2,b⟩:=nmd (w1.drewN nq);have h2:Bv w2 c t p r:=b▸(⟨l.o.blk⟩:Bv (w1.drewN nq) c t p r);have f:Kp [c] w w2:=b▸k1.drewN nq;rw[b,o];clear b c0 c1 l k1;have c1:=h2.c1;have f1:=h2.fr 1;have i:=Aa (Ab (h2.set1 (p+n)) (f.setCell c 1 (.int .i64 (p+n:Nat)) (.inl (by simp))));clear h2 f m;go_wp2_with fail;go_ret;exact⟨rfl,i.o.1,i.o.2⟩
theorem A3g (t:By)(p:Nat)(h:p<t.length):(t.drop p).take 1=[t.getD p 0]:=by
 have e:t.getD p 0=t[p]:=by simp[h]
 rw[e,Kh h];rfl
theorem Acy (c:Nat)(t:By)(p:Nat)(r:Bool)(w:World)(h:Bv w c t p r)(b:p<t.length)(f:t.length<=1000):
  Cl 125 #[.pointer (some ⟨c,0,none⟩)] w fun e w'=>e=.returned (.int .i64 ((t.getD p 0).toNat:Int))/\Bv w' c t (p+1) r/\Kp [c] w w':=by
 have a:=Yo c t p 1 r w h (by omega) f;rw[A3g t p b]at a;have d:=Aa a;clear a h b f;generalize t.getD p 0=y at*;go_enter Tryz.func125,Tryz.ntmps125;go_wp2_with fail;refine d.o.mono ?_;rintro e w1 ⟨rfl,h1,k1⟩;have g:=Aa (Ab h1 k1);clear h1 k1 d;go_wp2_with fail;go_ret;exact⟨Tb (by show wrap64 ((y.toNat:Nat):Int)=_;have:=y.toNat_lt;unfold wrap64;omega),g.o⟩
theorem Bv.set2 {w:World}{c:Nat}{t:By}{p:Nat}{r:Bool}(h:Bv w c t p r)(a:Bool):Bv (w.setCell ⟨c,2,none⟩ (.bool a)) c t p a:=⟨by rw[Cx h.blk 2 _];simp⟩
def Mv (t:By)(p n:Nat)(r:Bool):By×Nat×Bool:=if p+n<=t.length then((t.drop p).take n,p+n,r)else([],p,false)
theorem Aqy (c:Nat)(t:By)(p n:Nat)(r:Bool)(w:World)(h:Bv w c t p r)(f:¬p+n<=t.length)(i:t.length<=1000)(j:p<=t.length):
  Cl 124 #[.pointer (some ⟨c,0,none⟩),.int .i64 n] w fun e w'=>e=.returned (Ac [])/\Bv w' c t p false/\Kp [c] w w':=by
 have c0:=h.c0;have c1:=h.c1;have f1:=h.fr 1;have m:(ByteArray.mk t.toArray).size=t.length:=rfl;have l:(p:Int)<=(t.length:Int):=by omega
 have o:(t.length:Int)<=1000:=by omega
 have k:decide ((t.length:Int)-(p:Int)<(n:Int))=true:=by simp;omega
 have b:=Aa h;generalize g:t.length=L at*;clear f i h g;go_enter Tryz.func124,Tryz.ntmps124;go_wp2_with fail;go_quiet (fail);obtain⟨w1,a⟩:=nmd (w.drewN nq);have h1:Bv w1 c t p r:=a▸(⟨b.o.blk⟩:Bv (w.drewN nq) c t p r);have k1:Kp [c] w w1:=a▸(Kp.refl [c] w).drewN nq;rw[a];clear a c0 c1 f1 b;have c2:=h1.c2;have f2:=h1.fr 2;have d:=Aa (Ab (h1.set2 false) (k1.setCell c 2 (.bool false) (.inl (by simp))));clear h1 k1;go_wp2_with fail;go_ret;exact⟨rfl,d.o.1,d.o.2⟩
theorem Aj6 (c:Nat)(t:By)(p n:Nat)(r:Bool)(w:World)(h:Bv w c t p r)(b:t.length<=1000)(d:p<=t.length):
  Cl 124 #[.pointer (some ⟨c,0,none⟩),.int .i64 n] w fun e w'=>e=.returned (Ac (Mv t p n r).1)/\Bv w' c t (Mv t p n r).2.1 (Mv t p n r).2.2/\Kp [c] w w':=by
 by_cases a:p+n<=t.length
 ·simp only[Mv,a,if_true];exact Yo c t p n r w h a b
 ·simp only[Mv,a,if_false];exact Aqy c t p n r w h a b d
theorem Ajr {t:By}{p n:Nat}{r:Bool}(a:p<=t.length):(Mv t p n r).2.1<=t.length:=by unfold Mv;split<;>assumption
def Ih (t:By)(p:Nat)(r:Bool):Nat×Nat×Bool:=if p<t.length then((t.getD p 0).toNat,p+1,r)else(0,p,false)
theorem Adi {t:By}{p:Nat}{r:Bool}(a:p<=t.length):(Ih t p r).2.1<=t.length:=by unfold Ih;split<;>simp only<;>omega
theorem Ak0 (c:Nat)(t:By)(p:Nat)(r:Bool)(w:World)(h:Bv w c t p r)(b:t.length<=1000)(d:p<=t.length):
  Cl 125 #[.pointer (some ⟨c,0,none⟩)] w fun e w'=>e=.returned (.int .i64 ((Ih t p r).1:Int))/\Bv w' c t (Ih t p r).2.1 (Ih t p r).2.2/\Kp [c] w w':=by
 by_cases a:p<t.length
 ·simp only[Ih,a,if_true];exact Acy c t p r w h a b
 ·simp only[Ih,a,if_false];have f:=Aa (Aqy c t p 1 r w h (by omega) b d);clear h a b d;go_enter Tryz.func125,Tryz.ntmps125;go_wp2_with fail;refine f.o.mono ?_;rintro e w1 ⟨rfl,h1,k1⟩;have g:=Aa (Ab h1 k1);clear h1 k1 f;go_wp2_with fail;go_ret;exact⟨rfl,g.o⟩
def On (t:By)(p lo b:Nat)(r:Bool):By×Nat×Bool:=
 let a:=Ih t p r
 if a.1<lo\/b<a.1 then([],a.2.1,false)else Mv t a.2.1 a.1 a.2.2
theorem Yj {t:By}{p lo a:Nat}{r:Bool}(b:p<=t.length):(On t p lo a r).2.1<=t.length:=by
 have:=Adi (r:=r) b;unfold On;simp only;split
 ·exact this
 ·exact Ajr this
theorem Agj (c:Nat)(t:By)(p lo a:Nat)(r:Bool)(w:World)(h:Bv w c t p r)(l:t.length<=1000)(k:p<=t.length):
  Cl 140 #[.pointer (some ⟨c,0,none⟩),.int .i64 lo,.int .i64 a] w fun e w'=>e=.returned (Ac (On t p lo a r).1)/\Bv w' c t (On t p lo a r).2.1 (On t p lo a r).2.2/\Kp [c] w w':=by
 have f:=Aa (Ak0 c t p r w h l k);have d:=Aa (show On t p lo a r=if(Ih t p r).1<lo\/a<(Ih t p r).1 then([],(Ih t p r).2.1,false)else Mv t (Ih t p r).2.1 (Ih t p r).1 (Ih t p r).2.2 from rfl);have u:=Adi (r:=r) k;generalize(Ih t p r).1=n at*;generalize(Ih t p r).2.1=q at*;generalize(Ih t p r).2.2=r1 at*;have j:=Aa (fun w h=>Aj6 c t q n r1 w h l u);clear h l k u;by_cases b:n<lo
 ·have s:decide (n<lo)=true:=by simpa using b
  rw[d.o,if_pos (.inl b)];clear j d b;go_enter Tryz.func140,Tryz.ntmps140;go_wp2_with fail;refine f.o.mono ?_;rintro e w1 ⟨rfl,h1,k1⟩;have c2:=h1.c2;have f2:=h1.fr 2;have i:=Aa (Ab (h1.set2 false) (k1.setCell c 2 (.bool false) (.inl (by simp))));clear f h1 k1;go_wp2_with fail;go_ret;exact⟨rfl,i.o⟩
 ·by_cases g:a<n
  ·have s:decide (n<lo)=false:=by simpa using b
   have v:decide (a<n)=true:=by simpa using g
   rw[d.o,if_pos (.inr g)];clear j d b g;go_enter Tryz.func140,Tryz.ntmps140;go_wp2_with fail;refine f.o.mono ?_;rintro e w1 ⟨rfl,h1,k1⟩;have c2:=h1.c2;have f2:=h1.fr 2;have i:=Aa (Ab (h1.set2 false) (k1.setCell c 2 (.bool false) (.inl (by simp))));clear f h1 k1;go_wp2_with fail;go_ret;exact⟨rfl,i.o⟩
  ·have s:decide (n<lo)=false:=by simpa using b
   have v:decide (a<n)=false:=by simpa using g
   rw[d.o,if_neg (by simp[b,g])];clear d b g;go_enter Tryz.func140,Tryz.ntmps140;go_wp2_with fail;refine f.o.mono ?_;rintro e w1 ⟨rfl,h1,k1⟩;have m:=Aa (j.o w1 h1);clear f j h1;go_wp2_with fail;refine m.o.mono ?_;rintro e w2 ⟨rfl,h2,o⟩;have i:=Aa (Ab h2 (k1.trans o));clear m h2 k1 o;go_wp2_with fail;go_ret;exact⟨rfl,i.o⟩
def Oh (k s:By)(p:Nat)(d:By)(c:Value):List Value:=[Ac k,Ac s,.int .i64 p,Ac d,c]
theorem Ayt (c:Nat)(t k s:By)(p C x:Nat)(r r1 r2:Bool)(w:World)(h:Bv w c t p r)
  (G:∀w,Bv w c t p r->Cl 140 #[.pointer (some ⟨c,0,none⟩),.int .i64 (1:Nat),.int .i64 (8:Nat)] w fun e w'=>e=.returned (Ac k)/\Bv w' c t C r1/\Kp [c] w w')
  (d:∀w,Bv w c t C r1->Cl 140 #[.pointer (some ⟨c,0,none⟩),.int .i64 (0:Nat),.int .i64 (16:Nat)] w fun e w'=>e=.returned (Ac s)/\Bv w' c t x r2/\Kp [c] w w'):
  Cl 127 #[.pointer (some ⟨c,0,none⟩),.bool true] w fun e w'=>e=.returned (.agg (Oh k s 0 [] (.pointer none)).toArray)/\Bv w' c t x r2/\Kp [c] w w':=by
 have Z:=h.lt;have Q:=Aa G;have F:=Aa d;have W:=Aa h;clear G d h;obtain⟨w0,i⟩:=nmd ((w.alloc (.cells #[.string ⟨#[]⟩,.string ⟨#[]⟩,.int .i64 0,.string ⟨#[]⟩,.pointer none] 142)).alloc (.cells #[.string ⟨#[]⟩,.string ⟨#[]⟩,.int .i64 0,.string ⟨#[]⟩,.pointer none] 142));have ah:w0.heap.size=w.heap.size+2:=by rw[<-i];simp
 have M:Bw w w0:=i▸((Ah _ _).alloc (Ak _) _).alloc (by simp) _;have f:w0.heap[w.heap.size]?=some (.cells #[.string ⟨#[]⟩,.string ⟨#[]⟩,.int .i64 0,.string ⟨#[]⟩,.pointer none] 142 (0,0)):=i▸(((Kp.refl [] _).alloc _).block _ (by simp) (by simp)).trans (heap_alloc_new w _)
 have b:w0.heap[w.heap.size+1]?=some (.cells #[.string ⟨#[]⟩,.string ⟨#[]⟩,.int .i64 0,.string ⟨#[]⟩,.pointer none] 142 (0,0)):=by have:=heap_alloc_new (w.alloc (.cells #[.string ⟨#[]⟩,.string ⟨#[]⟩,.int .i64 0,.string ⟨#[]⟩,.pointer none] 142)) (.cells #[.string ⟨#[]⟩,.string ⟨#[]⟩,.int .i64 0,.string ⟨#[]⟩,.pointer none] 142);rw[World.size_alloc]at this;rw[<-i];exact this
 have z:=Aa (Ab f b);have h0:Bv w0 c t p r:=W.o.of_block (M.block c Z);have K:=Aa (Q.o w0 h0);have T:=Aa i;clear f b Q h0 i;go_enter Tryz.func127,Tryz.ntmps127;go_wp2_with fail;rw[T.o];refine K.o.mono ?_;rintro e w1 ⟨rfl,h1,k1⟩;have f:=(k1.block w.heap.size (by omega) (by simp;omega)).trans z.o.1;have b:=(k1.block (w.heap.size+1) (by omega) (by simp;omega)).trans z.o.2;have e0:w1.cell? ⟨w.heap.size+1,0,none⟩=some (.string ⟨#[]⟩):=crw b rfl;have ak:w1.frozen? ⟨w.heap.size+1,0,none⟩=false:=by simp[World.frozen?,b]
 obtain⟨w2,d⟩:=nmd (w1.setCell ⟨w.heap.size+1,0,none⟩ (Ac k));have N:w2.heap[w.heap.size+1]?=some (.cells #[Ac k,.string ⟨#[]⟩,.int .i64 0,.string ⟨#[]⟩,.pointer none] 142 (0,0)):=by rw[<-d,Cx b 0 _];simp
 have E:w2.heap[w.heap.size]?=_:=d▸Va f _ _ (by simp);have ai:=k1.size;have h2:Bv w2 c t C r1:=d▸h1.of_block (Nf _ _ _ _ (by simp;omega));have P:Kp [c] w w2:=d▸((Kp.of_below M).trans k1).setCell _ 0 _ (.inr (by omega));have ac:w2.heap.size=w1.heap.size:=by rw[<-d];simp[World.setCell]
 have I:=Aa (F.o w2 h2);have y:=Aa (Ab E N);clear K F z f b E N h1 h2 k1;go_wp2_with fail;refine I.o.mono ?_;rintro e D ⟨rfl,L,n⟩;have f:=(n.block w.heap.size (by omega) (by simp;omega)).trans y.o.1;have b:=(n.block (w.heap.size+1) (by omega) (by simp;omega)).trans y.o.2;have e1:D.cell? ⟨w.heap.size+1,1,none⟩=some (.string ⟨#[]⟩):=crw b rfl;have f1:D.frozen? ⟨w.heap.size+1,1,none⟩=false:=by simp[World.frozen?,b]
 obtain⟨a,o⟩:=nmd (D.setCell ⟨w.heap.size+1,1,none⟩ (Ac s));have l:a.heap[w.heap.size+1]?=some (.cells #[Ac k,Ac s,.int .i64 0,.string ⟨#[]⟩,.pointer none] 142 (0,0)):=by rw[<-o,Cx b 1 _];simp
 have A:a.heap[w.heap.size]?=_:=o▸Va f _ _ (by simp);have H:Bv a c t x r2:=o▸L.of_block (Nf _ _ _ _ (by simp;omega));have J:Kp [c] w a:=o▸(P.trans n).setCell _ 1 _ (.inr (by omega));have af:a.cell? ⟨w.heap.size+1,0,none⟩=some (Ac k):=crw l rfl;have ae:a.cell? ⟨w.heap.size+1,1,none⟩=some (Ac s):=crw l rfl;have aj:a.cell? ⟨w.heap.size+1,2,none⟩=some (.int .i64 0):=crw l rfl;have al:a.cell? ⟨w.heap.size+1,3,none⟩=some (.string ⟨#[]⟩):=crw l rfl;have ad:a.cell? ⟨w.heap.size+1,4,none⟩=some (.pointer none):=crw l rfl
 have r0:a.there w.heap.size 0 5:=by intro j m;rw[Dq];exact⟨by rw[cell_of_row _ _ _ _ _ _ A];simp[m],by simp[World.frozen?,A]⟩
 have R:=Aa r0;have X:=Aa (all_oneCell_toArray (cs:=[Ac k,Ac s,.int .i64 0,.string ⟨#[]⟩,.pointer none]) (by intro u S;simp at S;rcases S with rfl|rfl|rfl|rfl|rfl<;>rfl));have ag:=n.size;have O:=Aa (Ab H J);clear L n H J f b A l I y P r0;go_wp2_with (first|refine wpList_store_mid rfl 142 _ _ rfl w.heap.size 0 #[Ac k,Ac s,.int .i64 0,.string ⟨#[]⟩,.pointer none] rfl rfl R.o (by kernel_rfl) X.o ?_)
 have ab:(a.setCells w.heap.size 0 [Ac k,Ac s,.int .i64 0,.string ⟨#[]⟩,.pointer none]).rangeAt w.heap.size 0 [Ac k,Ac s,.int .i64 0,.string ⟨#[]⟩,.pointer none]:=by
  intro j v m
  have V:j<5:=by
   rcases Hv j 5 with g|g
   ·exact g
   ·rw[Sk (by simpa using g)]at m;cases m
  have:=Vw w.heap.size [Ac k,Ac s,.int .i64 0,.string ⟨#[]⟩,.pointer none] 0 a (fun q Y=>(R.o q (by simpa using Y)).1) j (by simpa using V);rw[this,<-m,Az]
 have U:Kp [c] w (a.setCells w.heap.size 0 [Ac k,Ac s,.int .i64 0,.string ⟨#[]⟩,.pointer none]):=O.o.2.setCells _ 0 _ (.inr (Ak _));have aa:Bv (a.setCells w.heap.size 0 [Ac k,Ac s,.int .i64 0,.string ⟨#[]⟩,.pointer none]) c t x r2:=O.o.1.of_block ((Np _ _ _ _).2.2.2.2 c (by omega));exact bodyPost_ret (v:=.agg #[Ac k,Ac s,.int .i64 0,.string ⟨#[]⟩,.pointer none]) (Mf Tryz.results127 _ _ w.heap.size 0 [Ac k,Ac s,.int .i64 0,.string ⟨#[]⟩,.pointer none] _ (by kernel_rfl) ab Tryz.underlying142 rfl (by kernel_rfl)) (by kernel_rfl) ⟨rfl,aa,U⟩
theorem A1j (c:Nat)(t k d:By)(pl p I J A:Nat)(r r1 r2 r3:Bool)(w:World)(h:Bv w c t p r)
  (P:∀w,Bv w c t p r->Cl 140 #[.pointer (some ⟨c,0,none⟩),.int .i64 (1:Nat),.int .i64 (8:Nat)] w fun e w'=>e=.returned (Ac k)/\Bv w' c t I r1/\Kp [c] w w')
  (l:∀w,Bv w c t I r1->Cl 125 #[.pointer (some ⟨c,0,none⟩)] w fun e w'=>e=.returned (.int .i64 (pl:Int))/\Bv w' c t J r2/\Kp [c] w w')
  (R:∀w,Bv w c t J r2->Cl 124 #[.pointer (some ⟨c,0,none⟩),.int .i64 (32:Nat)] w fun e w'=>e=.returned (Ac d)/\Bv w' c t A r3/\Kp [c] w w'):
  Cl 127 #[.pointer (some ⟨c,0,none⟩),.bool false] w fun e w'=>e=.returned (.agg (Oh k [] pl d (.pointer none)).toArray)/\Bv w' c t A r3/\Kp [c] w w':=by
 have am:=h.lt;have ad:=Aa P;have M:=Aa l;have ab:=Aa R;have aj:=Aa h;clear P l R h;obtain⟨w0,s⟩:=nmd ((w.alloc (.cells #[.string ⟨#[]⟩,.string ⟨#[]⟩,.int .i64 0,.string ⟨#[]⟩,.pointer none] 142)).alloc (.cells #[.string ⟨#[]⟩,.string ⟨#[]⟩,.int .i64 0,.string ⟨#[]⟩,.pointer none] 142));have ay:w0.heap.size=w.heap.size+2:=by rw[<-s];simp
 have X:Bw w w0:=s▸((Ah _ _).alloc (Ak _) _).alloc (by simp) _;have f:w0.heap[w.heap.size]?=some (.cells #[.string ⟨#[]⟩,.string ⟨#[]⟩,.int .i64 0,.string ⟨#[]⟩,.pointer none] 142 (0,0)):=s▸(((Kp.refl [] _).alloc _).block _ (by simp) (by simp)).trans (heap_alloc_new w _)
 have a:w0.heap[w.heap.size+1]?=some (.cells #[.string ⟨#[]⟩,.string ⟨#[]⟩,.int .i64 0,.string ⟨#[]⟩,.pointer none] 142 (0,0)):=by have:=heap_alloc_new (w.alloc (.cells #[.string ⟨#[]⟩,.string ⟨#[]⟩,.int .i64 0,.string ⟨#[]⟩,.pointer none] 142)) (.cells #[.string ⟨#[]⟩,.string ⟨#[]⟩,.int .i64 0,.string ⟨#[]⟩,.pointer none] 142);rw[World.size_alloc]at this;rw[<-s];exact this
 have G:=Aa (Ab f a);have h0:Bv w0 c t p r:=aj.o.of_block (X.block c am);have U:=Aa (ad.o w0 h0);have ag:=Aa s;clear f a ad h0 s;go_enter Tryz.func127,Tryz.ntmps127;go_wp2_with fail;rw[ag.o];refine U.o.mono ?_;rintro e w1 ⟨rfl,h1,k1⟩;have f:=(k1.block w.heap.size (by omega) (by simp;omega)).trans G.o.1;have a:=(k1.block (w.heap.size+1) (by omega) (by simp;omega)).trans G.o.2;have e0:w1.cell? ⟨w.heap.size+1,0,none⟩=some (.string ⟨#[]⟩):=crw a rfl;have a2:w1.frozen? ⟨w.heap.size+1,0,none⟩=false:=by simp[World.frozen?,a]
 obtain⟨w2,l⟩:=nmd (w1.setCell ⟨w.heap.size+1,0,none⟩ (Ac k));have Y:w2.heap[w.heap.size+1]?=some (.cells #[Ac k,.string ⟨#[]⟩,.int .i64 0,.string ⟨#[]⟩,.pointer none] 142 (0,0)):=by rw[<-l,Cx a 0 _];simp
 have L:w2.heap[w.heap.size]?=_:=l▸Va f _ _ (by simp);have az:=k1.size;have h2:Bv w2 c t I r1:=l▸h1.of_block (Nf _ _ _ _ (by simp;omega));have aa:Kp [c] w w2:=l▸((Kp.of_below X).trans k1).setCell _ 0 _ (.inr (by omega));have ap:w2.heap.size=w1.heap.size:=by rw[<-l];simp[World.setCell]
 have S:=Aa (M.o w2 h2);have F:=Aa (Ab L Y);clear U M G f a L Y h1 h2 k1;go_wp2_with fail;refine S.o.mono ?_;rintro e D ⟨rfl,V,z⟩;have f:=(z.block w.heap.size (by omega) (by simp;omega)).trans F.o.1;have a:=(z.block (w.heap.size+1) (by omega) (by simp;omega)).trans F.o.2;have e1:D.cell? ⟨w.heap.size+1,2,none⟩=some (.int .i64 0):=crw a rfl;have f1:D.frozen? ⟨w.heap.size+1,2,none⟩=false:=by simp[World.frozen?,a]
 obtain⟨n,m⟩:=nmd (D.setCell ⟨w.heap.size+1,2,none⟩ (.int .i64 (pl:Int)));have i:n.heap[w.heap.size+1]?=some (.cells #[Ac k,.string ⟨#[]⟩,.int .i64 (pl:Int),.string ⟨#[]⟩,.pointer none] 142 (0,0)):=by rw[<-m,Cx a 2 _];simp
 have o:n.heap[w.heap.size]?=_:=m▸Va f _ _ (by simp);have Q:Bv n c t J r2:=m▸V.of_block (Nf _ _ _ _ (by simp;omega));have T:Kp [c] w n:=m▸(aa.trans z).setCell _ 2 _ (.inr (by omega));have ax:=z.size;have aq:n.heap.size=D.heap.size:=by rw[<-m];simp[World.setCell]
 have K:=Aa (ab.o n Q);have C:=Aa (Ab o (Ab i T));have N:=Aa m;clear S ab F f a o i V Q aa z T m;go_wp2_with fail;rw[N.o];refine K.o.mono ?_;rintro e H ⟨rfl,ac,x⟩;have ar:=x.size;have f:=(x.block w.heap.size (by omega) (by simp;omega)).trans C.o.1;have a:=(x.block (w.heap.size+1) (by omega) (by simp;omega)).trans C.o.2.1;have e3:H.cell? ⟨w.heap.size+1,3,none⟩=some (.string ⟨#[]⟩):=crw a rfl;have a1:H.frozen? ⟨w.heap.size+1,3,none⟩=false:=by simp[World.frozen?,a]
 obtain⟨b,E⟩:=nmd (H.setCell ⟨w.heap.size+1,3,none⟩ (Ac d));have i:b.heap[w.heap.size+1]?=some (.cells #[Ac k,.string ⟨#[]⟩,.int .i64 (pl:Int),Ac d,.pointer none] 142 (0,0)):=by rw[<-E,Cx a 3 _];simp
 have o:b.heap[w.heap.size]?=_:=E▸Va f _ _ (by simp);have W:Bv b c t A r3:=E▸ac.of_block (Nf _ _ _ _ (by simp;omega));have O:Kp [c] w b:=E▸(C.o.2.2.trans x).setCell _ 3 _ (.inr (by omega));have aw:b.cell? ⟨w.heap.size+1,0,none⟩=some (Ac k):=crw i rfl;have av:b.cell? ⟨w.heap.size+1,1,none⟩=some (.string ⟨#[]⟩):=crw i rfl;have a0:b.cell? ⟨w.heap.size+1,2,none⟩=some (.int .i64 (pl:Int)):=crw i rfl;have a3:b.cell? ⟨w.heap.size+1,3,none⟩=some (Ac d):=crw i rfl;have au:b.cell? ⟨w.heap.size+1,4,none⟩=some (.pointer none):=crw i rfl
 have r0:b.there w.heap.size 0 5:=by intro j y;rw[Dq];exact⟨by rw[cell_of_row _ _ _ _ _ _ o];simp[y],by simp[World.frozen?,o]⟩
 have ae:=Aa r0;have ak:=Aa (all_oneCell_toArray (cs:=[Ac k,.string ⟨#[]⟩,.int .i64 (pl:Int),Ac d,.pointer none]) (by intro u af;simp at af;rcases af with rfl|rfl|rfl|rfl|rfl<;>rfl));have Z:=Aa (Ab W O);clear ac x W O f a o i K C N r0;go_wp2_with (first|refine wpList_store_mid rfl 142 _ _ rfl w.heap.size 0 #[Ac k,.string ⟨#[]⟩,.int .i64 (pl:Int),Ac d,.pointer none] rfl rfl ae.o (by kernel_rfl) ak.o ?_)
 have ao:(b.setCells w.heap.size 0 [Ac k,.string ⟨#[]⟩,.int .i64 (pl:Int),Ac d,.pointer none]).rangeAt w.heap.size 0 [Ac k,.string ⟨#[]⟩,.int .i64 (pl:Int),Ac d,.pointer none]:=by
  intro j v y
  have ai:j<5:=by
   rcases Hv j 5 with g|g
   ·exact g
   ·rw[Sk (by simpa using g)]at y;cases y
  have:=Vw w.heap.size [Ac k,.string ⟨#[]⟩,.int .i64 (pl:Int),Ac d,.pointer none] 0 b (fun q al=>(ae.o q (by simpa using al)).1) j (by simpa using ai);rw[this,<-y,Az]
 have ah:Kp [c] w (b.setCells w.heap.size 0 [Ac k,.string ⟨#[]⟩,.int .i64 (pl:Int),Ac d,.pointer none]):=Z.o.2.setCells _ 0 _ (.inr (Ak _));have an:Bv (b.setCells w.heap.size 0 [Ac k,.string ⟨#[]⟩,.int .i64 (pl:Int),Ac d,.pointer none]) c t A r3:=Z.o.1.of_block ((Np _ _ _ _).2.2.2.2 c (by omega));exact bodyPost_ret (v:=.agg #[Ac k,.string ⟨#[]⟩,.int .i64 (pl:Int),Ac d,.pointer none]) (Mf Tryz.results127 _ _ w.heap.size 0 [Ac k,.string ⟨#[]⟩,.int .i64 (pl:Int),Ac d,.pointer none] _ (by kernel_rfl) ao Tryz.underlying142 rfl (by kernel_rfl)) (by kernel_rfl) ⟨rfl,an,ah⟩
structure Hf (w:World)(n:Nat)(leaf:Bool)(place:Nat)(digest:By)(ev:Value):Prop where
 blk:w.heap[n]?=some (.cells #[.bool leaf,.int .i64 place,Ac digest,ev] 138 (0,0))
section
variable {w:World}{n:Nat}{leaf:Bool}{place:Nat}{digest:By}{ev:Value}
theorem Hf.lt (h:Hf w n leaf place digest ev):n<w.heap.size:=lt_of_block h.blk
theorem Hf.fr (h:Hf w n leaf place digest ev)(i:Nat):w.frozen? ⟨n,i,none⟩=false:=by simp[World.frozen?,h.blk]
theorem Hf.c0 (h:Hf w n leaf place digest ev):w.cell? ⟨n,0,none⟩=some (.bool leaf):=by rw[cell_of_row _ _ _ _ _ _ h.blk];rfl
theorem Hf.c1 (h:Hf w n leaf place digest ev):w.cell? ⟨n,1,none⟩=some (.int .i64 place):=by rw[cell_of_row _ _ _ _ _ _ h.blk];rfl
theorem Hf.c2 (h:Hf w n leaf place digest ev):w.cell? ⟨n,2,none⟩=some (Ac digest):=by rw[cell_of_row _ _ _ _ _ _ h.blk];rfl
theorem Hf.c3 (h:Hf w n leaf place digest ev):w.cell? ⟨n,3,none⟩=some ev:=by rw[cell_of_row _ _ _ _ _ _ h.blk];rfl
theorem Hf.of_block {w':World}(h:Hf w n leaf place digest ev)(e:w'.heap[n]?=w.heap[n]?):Hf w' n leaf place digest ev:=⟨e.trans h.blk⟩
theorem Hf.set1 (h:Hf w n leaf place digest ev)(a:Nat):Hf (w.setCell ⟨n,1,none⟩ (.int .i64 a)) n leaf a digest ev:=⟨by rw[Cx h.blk 1 _];simp⟩
theorem Hf.set2 (h:Hf w n leaf place digest ev)(a:By):Hf (w.setCell ⟨n,2,none⟩ (Ac a)) n leaf place a ev:=⟨by rw[Cx h.blk 2 _];simp⟩
theorem Hf.set3 (h:Hf w n leaf place digest ev)(a:Value):Hf (w.setCell ⟨n,3,none⟩ a) n leaf place digest a:=⟨by rw[Cx h.blk 3 _];simp⟩
end
theorem Aj3:(Tryz.prog.info? 142).map (fun i=>(i.zero,i.size,i.bytes))=some (some (.agg #[.string ⟨#[]⟩,.string ⟨#[]⟩,.int .i64 0,.string ⟨#[]⟩,.pointer none]),5,64):=by kernel_rfl
def Ce (x:DX)(b:Nat)(wv:Value)(j:Nat):Prop:=j∉Ai.set x b wv/\j≠1/\j≠0
theorem Ai.kp {w w':World}{x:DX}{b:Nat}{m:DM}{v:VM}{wv:Value}{S:List Nat}(h:Ai w x b m v wv)(k:Kp S w w')(a:∀j∈S,Ce x b wv j):Ai w' x b m v wv:=
 ⟨h.disk.kp k (fun j c e=>(a j e).1 (Px c)),h.vault.of_block (k.block b h.vault.lt (fun e=>(a b e).1 (by simp[Ai.set]))),k.cells h.hk (fun e=>(a _ e).2.1 rfl),k.cells h.h0 (fun e=>(a _ e).2.2 rfl),h.nb,h.nk,h.n0⟩
theorem Ce.new {w:World}{x:DX}{b:Nat}{m:DM}{v:VM}{wv:Value}(h:Ai w x b m v wv){j:Nat}(a:w.heap.size<=j):Ce x b wv j:=
 ⟨fun e=>by have:=h.bound e;omega,by have:=h.hk.lt;omega,by have:=h.h0.lt;omega⟩
theorem Acc (b:Oper)(a:Act)(x c:Operand)(U:TypeId)(X:By)(d:b.op=.binOp .neq 9 x c U)(e:a.eval x=.string ⟨X.toArray⟩)(hy:a.eval c=.string ⟨X.toArray⟩)(w:World):
  (execOp a.eval b).run Tryz.prog w=.ok (.value (.bool false)) w:=by
 unfold execOp;simp only[d,e,hy];clear e hy d
 go_simp
def Ry (t:By)(p:Nat):Bool:=(t.drop p).all (· ==0)
theorem Azp (l:By)(k:Nat)(h:k<l.length):(l.take (k+1)).all (· ==0)=((l.take k).all (· ==0)&&l[k]==0):=by rw[Lr h,List.all_append];simp
theorem A1m (c:Nat)(t:By)(p:Nat)(r:Bool)(w:World)(h:Bv w c t p r)(x:p<=t.length)(E:t.length<=1000):
  Cl 128 #[.pointer (some ⟨c,0,none⟩)] w fun e w'=>e=.returned (.tuple #[])/\Bv w' c t p (r&&Ry t p)/\Kp [c] w w':=by
 have c0:=h.c0;have c1:=h.c1;have F:(ByteArray.mk t.toArray).size=t.length:=rfl;have D:(t.length:Int)<=1000:=by omega
 have s:=Aa (show Ry t p=(t.drop p).all (· ==0)from rfl);have n:=Aa h;clear h;go_enter Tryz.func128,Tryz.ntmps128;go_wp2_with fail
 go_loopw [2] (fun i wr=>∃k:Nat,p+k<=t.length/\i=.int .i64 ((p+k:Nat):Int)/\Bv wr c t p (r&&((t.drop p).take k).all (· ==0))/\Kp [c] w wr) (fun i _=>t.length-(intOf i).toNat)
 case atStart=>exact⟨0,by omega,by simp,by simpa using n.o,Kp.refl _ _⟩
 case round=>
  clear c0 c1;obtain⟨k,A,rfl,a,d⟩:=hrel;have c0:=a.c0;have c1:=a.c1;have c2:=a.c2;have f2:=a.fr 2;by_cases l:p+k<t.length
  ·have z:((p+k:Nat):Int)<(t.length:Int):=by omega
   obtain⟨q,g⟩:=nmd (p+k);have f:=Azp (t.drop p) k (by simp;omega);rw[List.getElem_drop]at f;simp only[g]at f l z⊢;obtain⟨j,hy⟩:=nmd (t[q]);have hb:(ByteArray.mk t.toArray)[q]'(by show q<t.length;exact l)=j:=hy;rw[hy]at f;have o:=Aa l;have u:=Aa f;have v:=Aa g;by_cases m:j=0
   ·subst m;have b:=Aa (Ab a d);clear a d f hy g c2 f2;go_wp2_with fail;have g:=v.o;have y:=o.o;refine⟨⟨k+1,by omega,by rw[show((p+(k+1):Nat):Int)=(q:Int)+1 from by omega],?_,b.o.2⟩,by simp[intOf];omega⟩;rw[u.o];simpa using b.o.1
   ·have b:=Aa (Ab (a.set2 false) (d.setCell c 2 (.bool false) (.inl (by simp))));have C:(j==0)=false:=by simpa using m
    have G:((j.toNat:Int)==0)=false:=by rw[beq_eq_false_iff_ne];intro e;apply m;exact UInt8.toNat_inj.mp (by simp;omega)
    clear a d f hy g;go_wp2_with fail;have g:=v.o;have y:=o.o;refine⟨⟨k+1,by omega,by rw[show((p+(k+1):Nat):Int)=(q:Int)+1 from by omega],?_,b.o.2⟩,by simp[intOf];omega⟩;rw[u.o];simpa [C]using b.o.1
  ·obtain rfl:k=t.length-p:=by omega
   rw[Du (by simp),<-s.o]at a;have b:=Aa (Ab a d);clear a d c2 f2 s n x;rw[show p+(t.length-p)=t.length from by omega];clear l A;generalize t.length=L at*;go_wp2_with fail;go_end0;exact⟨rfl,b.o⟩
structure Aw where
 key:By
 value:By
 place:Nat
 digest:By
def Aw.cells (e:Aw):List Value:=Oh e.key e.value e.place e.digest (.pointer none)
def Lp (t:By)(leaf:Bool)(p:Nat)(r:Bool):Aw×Nat×Bool:=
 let a:=On t p 1 8 r
 if leaf then
  let b:=On t a.2.1 0 16 a.2.2
  (⟨a.1,b.1,0,[]⟩,b.2.1,b.2.2)
 else
  let n:=Ih t a.2.1 a.2.2
  let d:=Mv t n.2.1 32 n.2.2
  (⟨a.1,[],n.1,d.1⟩,d.2.1,d.2.2)
theorem Ayl {t:By}{leaf:Bool}{p:Nat}{r:Bool}(a:p<=t.length):(Lp t leaf p r).2.1<=t.length:=by
 unfold Lp;cases leaf
 ·exact Ajr (Adi (Yj a))
 ·exact Yj (Yj a)
theorem Awa (c:Nat)(t:By)(leaf:Bool)(p:Nat)(r:Bool)(w:World)(h:Bv w c t p r)(b:t.length<=1000)(a:p<=t.length):
  Cl 127 #[.pointer (some ⟨c,0,none⟩),.bool leaf] w fun e w'=>e=.returned (.agg (Lp t leaf p r).1.cells.toArray)/\Bv w' c t (Lp t leaf p r).2.1 (Lp t leaf p r).2.2/\Kp [c] w w':=by
 cases leaf
 ·exact A1j c t _ _ _ p _ _ _ r _ _ _ w h (fun w h=>Agj c t p 1 8 r w h b a) (fun w h=>Ak0 c t _ _ w h b (Yj a)) (fun w h=>Aj6 c t _ 32 _ w h b (Adi (Yj a)))
 ·exact Ayt c t _ _ p _ _ r _ _ w h (fun w h=>Agj c t p 1 8 r w h b a) (fun w h=>Agj c t _ 0 16 _ w h b (Yj a))
def Uo (es:List Aw):List Value:=es.flatMap Aw.cells
theorem Aw.cells_len (e:Aw):e.cells.length=5:=rfl
theorem Ao9:∀(es:List Aw) (i j:Nat) (e:Aw),es[i]?=some e->j<5->(Uo es)[i*5+j]?=e.cells[j]?
 | [],_,_,_,h,_=>by simp at h
 |a::es,0,j,e,h,hj=>by simp only[List.getElem?_cons_zero,Option.some.injEq]at h;subst h;simp only[Uo,Da,Nat.zero_mul,Dq];rw[Ja (by rw[Aw.cells_len];exact hj)]
 |a::es,i+1,j,e,h,hj=>by
  simp only[Ab7]at h;have ih:=Ao9 es i j e h hj;simp only[Uo,Da]at ih⊢;rw[If (by rw[Aw.cells_len];omega),Aw.cells_len,<-ih]
  congr 1
  omega
theorem Ar7 (es:List Aw)(e:Aw):Uo (es++[e])=Uo es++e.cells:=by simp[Uo]
structure Gx (w:World)(n:Nat)(leaf:Bool)(place:Nat)(digest:By)(es:List Aw)(ev:Value):Prop where
 node:Hf w n leaf place digest ev
 own:w.ownsRow 0 142 5 ev es.length (Uo es)
 ne:∀j,ev.ownBlock=some j->j≠n
section
variable {w:World}{n:Nat}{leaf:Bool}{place:Nat}{digest:By}{es:List Aw}{ev:Value}
theorem Gx.row (h:Gx w n leaf place digest es ev)(h0:es≠[]):∃a cap,ev=.slice (some ⟨a,0,none⟩) es.length cap/\a<w.heap.size/\a≠n/\es.length<=cap/\cap<=maxLen/\
  (∀i e,es[i]?=some e->∀j,j<5->w.cell? ⟨a,i*5+j,none⟩=e.cells[j]?)/\(∀i,w.frozen? ⟨a,i,none⟩=false):=by
 rcases h.own.2 with⟨_,k⟩|⟨g,cap,cur,b,_,hb,f,l,o,d⟩
 ·exact absurd (Ls.1 k) h0
 ·refine⟨g,cap,b,lt_of_block hb,h.ne g (by rw[b];rfl),f,l,?_,fun i=>by simp[World.frozen?,hb]⟩;intro i e c j m;have p:i<es.length:=(Ds.1 c).1;rw[cell_of_row _ _ _ _ _ _ hb,<-Ao9 es i j e c m,<-d,Ml (by omega)];simp
theorem Gx.kp {S:List Nat}{w':World}(h:Gx w n leaf place digest es ev)(hk:Kp S w w')(h1:n∉S)(h2:∀j,ev.ownBlock=some j->j∉S):Gx w' n leaf place digest es ev:=
 ⟨h.node.of_block (hk.block n h.node.lt h1),Bm h.own hk h2,h.ne⟩
end
theorem Mk:∀a b:By,(Op.bytesLess a b||a==b)= !Op.bytesLess b a
 | [],[]=>rfl
 | [],_::_=>rfl
 |_::_,[]=>rfl
 |x::a,y::b=>by
  have ih:=Mk a b;rcases Nat.lt_trichotomy x.toNat y.toNat with h|h|h
  ·have h1:x<y:=Qr.2 h;have h2:¬y<x:=fun g=>by have:=Qr.1 g;omega
   have c:¬y=x:=by rintro rfl;omega
   simp[Op.bytesLess,h1,h2,c]
  ·obtain rfl:x=y:=UInt8.toNat_inj.1 h;have h1:¬x<x:=fun g=>by have:=Qr.1 g;omega
   have e:((x::a)==(x::b))=(a==b):=by simp[List.cons_beq_cons]
   simp only[Op.bytesLess,h1,decide_false,Bool.false_or,beq_self_eq_true,Bool.true_and,e];exact ih
  ·have h1:y<x:=Qr.2 h;have h2:¬x<y:=fun g=>by have:=Qr.1 g;omega
   have c:¬x=y:=by rintro rfl;omega
   simp[Op.bytesLess,h1,h2,c]
theorem Aqb {n:Nat}{w w1 w2:World}{S:List Nat}(h:Below n w w1)(k:Kp S w1 w2)(b:∀j∈S,n<=j)(c:n<=w1.heap.size):Below n w w2:=
 ⟨k.os.trans h.os,k.tape.trans h.tape,k.output.trans h.output,Hb h.size k.size,fun j a=>(k.block j (Eu a c) (fun e=>by have:=b j e;omega)).trans (h.block j a)⟩
def Zq (es:List Aw):By:=match es.getLast? with|some e=>e.key|none=>[]
theorem A0z (es:List Aw)(e:Aw):Zq (es++[e])=e.key:=by simp[Zq]
def Iz (t:By)(leaf:Bool):Nat->List Aw->Nat->Bool->Option (List Aw×Nat×Bool)
 |0,es,p,r=>some (es,p,r)
 |m+1,es,p,r=>
  if es≠[]/\Op.bytesLess (Zq es) (Lp t leaf p r).1.key=false then none
  else Iz t leaf m (es++[(Lp t leaf p r).1]) (Lp t leaf p r).2.1 (Lp t leaf p r).2.2
def Lq (t:By):Option (Bool×List Aw):=
 let k:=(t.getD 0 0).toNat
 let c:=(t.getD 1 0).toNat
 if(k=1/\1<=c\/k=2/\2<=c)/\c<=5 then
  match Iz t (k==1) c [] 2 true with
  |none=>none
  |some (es,p,r)=>if r&&Ry t p then some (k==1,es)else none
 else none
theorem Afo {t:By}{leaf:Bool}:∀ {m:Nat} {es:List Aw} {p:Nat} {r:Bool} {x:List Aw×Nat×Bool},Iz t leaf m es p r=some x->x.1.length=es.length+m
 |0,es,p,r,x,h=>by simp[Iz]at h;subst h;rfl
 |m+1,es,p,r,x,h=>by
  unfold Iz at h;split at h
  ·cases h
  ·have:=Afo h;simp at this;omega
theorem An9 {t:By}{leaf:Bool}{es:List Aw}(h:Lq t=some (leaf,es)):1<=es.length/\es.length<=5:=by
 unfold Lq at h;simp only at h;split at h
 ·rename_i hk;split at h
  ·cases h
  ·rename_i es' p r a;have b:=Afo a;split at h
   ·simp only[Option.some.injEq,Prod.mk.injEq]at h;rw[<-h.2,b];simp only[Ov,Dq];omega
   ·cases h
 ·cases h
def Gp.read (leaf:Bool)(e:Gp):Aw:=if leaf then⟨e.key,e.value,0,[]⟩else⟨e.key,[],e.place,e.digest⟩
structure Gp.Ok (leaf:Bool)(e:Gp):Prop where
 k1:1<=e.key.length
 k8:e.key.length<=8
 lv:leaf=true->e.value.length<=16
 ip:leaf=false->e.place<256
 id:leaf=false->e.digest.length=32
theorem Akp (a b:By)(x:UInt8):(a++x::b).getD a.length 0=x:=by simp
theorem Aia (a w b:By)(lo c:Nat)(r:Bool)(h1:lo<=w.length)(h2:w.length<=c)(e:w.length<256):
  On (a++(UInt8.ofNat w.length::(w++b))) a.length lo c r=(w,a.length+1+w.length,r):=by
 have d:Ih (a++(UInt8.ofNat w.length::(w++b))) a.length r=(w.length,a.length+1,r):=by unfold Ih;rw[if_pos (by simp),Akp];simp;omega
 unfold On;simp only[d];rw[if_neg (by omega)];unfold Mv;rw[if_pos (by simp;omega)]
 have:(a++(UInt8.ofNat w.length::(w++b))).drop (a.length+1)=w++b:=by rw[<-Wc];simp
 rw[this];simp
theorem Ayx (leaf:Bool)(e:Gp)(d f:By)(r:Bool)(h:e.Ok leaf):
  Lp (d++(Dl leaf e++f)) leaf d.length r=(e.read leaf,d.length+(Dl leaf e).length,r):=by
 cases leaf with
 |true=>
  have g:Dl true e=UInt8.ofNat e.key.length::(e.key++(UInt8.ofNat e.value.length::e.value)):=by simp[Dl,Zb]
  have h1:d++(Dl true e++f)=d++(UInt8.ofNat e.key.length::(e.key++(UInt8.ofNat e.value.length::(e.value++f)))):=by rw[g];simp
  have h2:d++(Dl true e++f)=(d++(UInt8.ofNat e.key.length::e.key))++(UInt8.ofNat e.value.length::(e.value++f)):=by rw[g];simp
  have a:=Aia d e.key (UInt8.ofNat e.value.length::(e.value++f)) 1 8 r h.k1 h.k8 (by have:=h.k8;omega);rw[<-h1]at a;have b:=Aia (d++(UInt8.ofNat e.key.length::e.key)) e.value f 0 16 r (Cu _) (h.lv rfl) (by have:=h.lv rfl;omega);rw[<-h2]at b;have i:(d++(UInt8.ofNat e.key.length::e.key)).length=d.length+1+e.key.length:=by simp;omega
  rw[i]at b;unfold Lp;simp only[a,b,if_true,Gp.read];rw[g];simp;omega
 |false=>
  have g:Dl false e=UInt8.ofNat e.key.length::(e.key++(UInt8.ofNat e.place::e.digest)):=by simp[Dl,Zb]
  have h1:d++(Dl false e++f)=d++(UInt8.ofNat e.key.length::(e.key++(UInt8.ofNat e.place::(e.digest++f)))):=by rw[g];simp
  have h2:d++(Dl false e++f)=(d++(UInt8.ofNat e.key.length::e.key))++(UInt8.ofNat e.place::(e.digest++f)):=by rw[g];simp
  have k:d++(Dl false e++f)=(d++(UInt8.ofNat e.key.length::e.key)++[UInt8.ofNat e.place])++(e.digest++f):=by rw[g];simp
  have a:=Aia d e.key (UInt8.ofNat e.place::(e.digest++f)) 1 8 r h.k1 h.k8 (by have:=h.k8;omega);rw[<-h1]at a;have i:(d++(UInt8.ofNat e.key.length::e.key)).length=d.length+1+e.key.length:=by simp;omega
  have b:Ih (d++(Dl false e++f)) (d.length+1+e.key.length) r=(e.place,d.length+1+e.key.length+1,r):=by unfold Ih;rw[h2,<-i,if_pos (by simp),Akp];have:=h.ip rfl;simp;omega
  have j:(d++(UInt8.ofNat e.key.length::e.key)++[UInt8.ofNat e.place]).length=d.length+1+e.key.length+1:=by simp;omega
  have hd:=h.id rfl
  have c:Mv (d++(Dl false e++f)) (d.length+1+e.key.length+1) 32 r=(e.digest,d.length+1+e.key.length+1+32,r):=by unfold Mv;rw[k,<-j,if_pos (by simp;omega),List.drop_left,Sj (by omega),Du (by omega)]
  unfold Lp;simp only[a,b,c,Gp.read];rw[g];simp[hd];omega
def Aca:List Gp->Prop
 | []=>True
 | [_]=>True
 |a::b::l=>Op.bytesLess a.key b.key=true/\Aca (b::l)
theorem Amr (leaf:Bool)(e:Gp):(e.read leaf).key=e.key:=by cases leaf<;>rfl
theorem Ak2 (leaf:Bool):∀(es:List Gp) (d:List Aw) (a c:By) (r:Bool),(∀e∈es,e.Ok leaf)->Aca es->(d≠[]->∀e,es.head?=some e->Op.bytesLess (Zq d) e.key=true)->
  Iz (a++(es.flatMap (Dl leaf)++c)) leaf es.length d a.length r=some (d++es.map (Gp.read leaf),a.length+(es.flatMap (Dl leaf)).length,r)
 | [],d,a,c,r,_,_,_=>by simp[Iz]
 |e::es,d,a,c,r,hok,hr,hl=>by
  have g:=hok e (by simp);have e1:a++((e::es).flatMap (Dl leaf)++c)=a++(Dl leaf e++(es.flatMap (Dl leaf)++c)):=by simp
  have e2:a++(Dl leaf e++(es.flatMap (Dl leaf)++c))=(a++Dl leaf e)++(es.flatMap (Dl leaf)++c):=by simp
  have i:=Ayx leaf e a (es.flatMap (Dl leaf)++c) r g;rw[e1,Fh];unfold Iz;rw[i];simp only
  rw[if_neg (by
   rintro⟨h1,h2⟩;rw[Amr,hl h1 e rfl]at h2
   cases h2)]
  have h:a.length+(Dl leaf e).length=(a++Dl leaf e).length:=by simp
  rw[e2,h,Ak2 leaf es (d++[e.read leaf]) (a++Dl leaf e) c r (fun x f=>hok x (by simp[f])) (by
   cases es with
   |nil=>trivial
   |cons b l=>exact hr.2) (fun _ x f=>by
   rw[A0z,Amr]
   cases es with
   |nil=>cases f
   |cons b l=>simp at f;subst f;exact hr.1)]
  simp;omega
theorem Apd (leaf:Bool)(es:List Gp)(m:∀e∈es,e.Ok leaf)(hr:Aca es)(g:es.length<=5)(h1:(if leaf then 1 else 2)<=es.length)(l:(es.flatMap (Dl leaf)).length<=226):
  Lq (Fm leaf es)=some (leaf,es.map (Gp.read leaf)):=by
 obtain⟨k,i⟩:=nmd (es.flatMap (Dl leaf))
 have b:Fm leaf es=[UInt8.ofNat (if leaf then 1 else 2),UInt8.ofNat es.length]++(es.flatMap (Dl leaf)++List.replicate (226-(es.flatMap (Dl leaf)).length) 0):=by
  unfold Fm;rw[i]at l⊢;rw[Zb,Zb,Aet _ _ (by simp;omega)];simp only[Qv,Hu,Fh,List.cons.injEq,true_and,List.append_cancel_left_eq]
  congr 1
  omega
 clear i k;have j:((Fm leaf es).getD 0 0).toNat=if leaf then 1 else 2:=by rw[b];cases leaf<;>rfl
 have f:((Fm leaf es).getD 1 0).toNat=es.length:=by rw[b];simp;omega
 have a:=Ak2 leaf es [] [UInt8.ofNat (if leaf then 1 else 2),UInt8.ofNat es.length] (List.replicate (226-(es.flatMap (Dl leaf)).length) 0) true m hr (fun h=>absurd rfl h);rw[<-b]at a
 have hz:Ry (Fm leaf es) (2+(es.flatMap (Dl leaf)).length)=true:=by unfold Ry;rw[b,<-Cw,Oo (by simp;omega),Io (by simp;omega)];simp
 unfold Lq;simp only[j]
 cases leaf with
 |true=>simp only[reduceIte]at h1⊢;rw[f,if_pos ⟨.inl ⟨trivial,h1⟩,g⟩];simp only[reduceIte]at a;have c:Iz (Fm true es) (1==1) es.length [] 2 true=_:=a;rw[c];simp only[Fh,Ov,Dq,Hu];have d:Ry (Fm true es) (1+1+(es.flatMap (Dl true)).length)=true:=hz;rw[d];rfl
 |false=>simp only[reduceIte,Ng]at h1⊢;rw[f,if_pos ⟨.inr ⟨trivial,h1⟩,g⟩];simp only[reduceIte,Ng]at a;have c:Iz (Fm false es) (2==1) es.length [] 2 true=_:=a;rw[c];simp only[Fh,Ov,Dq,Hu];have d:Ry (Fm false es) (1+1+(es.flatMap (Dl false)).length)=true:=hz;rw[d];rfl
theorem Ay9 (t:By)(w:World)(bf:t.length=228):
  Cl 111 #[.string ⟨t.toArray⟩] w fun e w'=>Bw w w'/\
   ((Lq t=none/\e=.returned (.tuple #[.pointer none,.bool false]))\/
    (∃leaf es n ev,Lq t=some (leaf,es)/\e=.returned (.tuple #[.pointer (some ⟨n,0,none⟩),.bool true])/\Gx w' n leaf 0 [] es ev/\w.heap.size<=n/\(∀j,ev.ownBlock=some j->w.heap.size<=j))):=by
 obtain⟨c6,dk,dm,dn,cy⟩:=info_parts Aj3;have co:=fun c leaf p r w h R=>Awa c t leaf p r w (h:Bv w c t p r) (by omega) (R:p<=t.length);have b0:=fun c p r w h R=>A1m c t p r w (h:Bv w c t p r) (R:p<=t.length) (by omega);have au:=Aa co;have a7:=Aa b0;have dp:(ByteArray.mk t.toArray).size=228:=bf;have ah:=Aa bf;clear co b0 bf
 have hk:Lq t=(if((t.getD 0 0).toNat=1/\1<=(t.getD 1 0).toNat\/(t.getD 0 0).toNat=2/\2<=(t.getD 1 0).toNat)/\(t.getD 1 0).toNat<=5 then
  match Iz t ((t.getD 0 0).toNat==1) (t.getD 1 0).toNat [] 2 true with
  |none=>none
  |some (es,p,r)=>if r&&Ry t p then some ((t.getD 0 0).toNat==1,es)else none
 else none):=rfl
 have cc:=(t.getD 0 0).toNat_lt;have I:=(t.getD 1 0).toNat_lt;obtain⟨w0,aj⟩:=nmd (w.alloc (.cells #[Ac t,.int .i64 0,.bool true] 187));have b6:Bw w w0:=aj▸(Ah _ _).alloc (Ak _) _;have dv:w0.heap.size=w.heap.size+1:=by rw[<-aj];simp
 have b3:Bv w0 w.heap.size t 0 true:=⟨aj▸heap_alloc_new w _⟩;have ct:=Aa (Acy w.heap.size t 0 true w0 b3 (by rw[ah.o];decide) (by rw[ah.o];decide));have af:=Aa (fun w1 ap=>Acy w.heap.size t 1 true w1 ap (by rw[ah.o];decide) (by rw[ah.o];decide));generalize(t.getD 0 0).toNat=K at*;generalize(t.getD 1 0).toNat=C at*;have av:=Aa hk;have Z:=Aa (Ab cc I);clear b3 hk cc I;have br:=Aa aj;clear aj;go_enter Tryz.func111,Tryz.ntmps111;go_wp2_with fail;rw[br.o];refine ct.o.mono ?_;rintro e w1 ⟨rfl,ap,k1⟩;have dz:=k1.size;have af:=Aa (af.o w1 ap);clear ap ct br;go_wp2_with fail;refine af.o.mono ?_;rintro e w2 ⟨rfl,cg,bk⟩;have dt:=bk.size;clear af;have bv:∀w',Kp [w.heap.size] w w'->Bw w w':=fun w' h=>⟨h.os,h.tape,h.output,h.size,fun j d=>h.block j d (by simp;omega)⟩;have al:=Aa bv;have bx:Kp [w.heap.size] w w2:=(Kp.of_below b6).trans (k1.trans bk);have X:=Aa (Ab cg bx);clear cg bx k1 bk b6 bv;by_cases L:((K=1/\1<=C\/K=2/\2<=C)/\C<=5)
 case neg=>
  have T:=av.o;rw[if_neg L]at T;have D:=Aa T;have ae:=Aa (al.o _ X.o.2);clear av X T au a7 al;by_cases ao:K=1
  ·subst ao;rcases(show C=0\/5<C by omega)with rfl|I
   ·obtain⟨f,a⟩:=nmd (w2.alloc (.cells #[.bool true,.int .i64 0,.string ⟨#[]⟩,.slice none 0 0] 138));have c0:f.cell? ⟨w2.heap.size,0,none⟩=some (.bool true):=a▸(by rw[cell_of_row _ _ _ _ _ _ (heap_alloc_new w2 _)];rfl);have l:Bw w f:=a▸ae.o.alloc (by omega) _;have G:=Aa l;clear l Z L;go_wp2_with fail;go_ret2;exact⟨G.o,.inl ⟨D.o,rfl⟩⟩
   ·obtain⟨f,a⟩:=nmd (w2.alloc (.cells #[.bool true,.int .i64 0,.string ⟨#[]⟩,.slice none 0 0] 138));have c0:f.cell? ⟨w2.heap.size,0,none⟩=some (.bool true):=a▸(by rw[cell_of_row _ _ _ _ _ _ (heap_alloc_new w2 _)];rfl);have l:Bw w f:=a▸ae.o.alloc (by omega) _;have G:=Aa l;have W:decide ((C:Int)<1)=false:=by simp;omega
    have ax:decide ((5:Int)<(C:Int))=true:=by simp;omega
    clear l Z L;go_wp2_with fail;go_ret2;exact⟨G.o,.inl ⟨D.o,rfl⟩⟩
  ·by_cases az:K=2
   ·subst az;rcases(show C<2\/5<C by omega)with I|I
    ·obtain⟨f,a⟩:=nmd (w2.alloc (.cells #[.bool false,.int .i64 0,.string ⟨#[]⟩,.slice none 0 0] 138));have c0:f.cell? ⟨w2.heap.size,0,none⟩=some (.bool false):=a▸(by rw[cell_of_row _ _ _ _ _ _ (heap_alloc_new w2 _)];rfl);have l:Bw w f:=a▸ae.o.alloc (by omega) _;have G:=Aa l;have W:decide ((C:Int)<2)=true:=by simp;omega
     clear l Z L;go_wp2_with fail;go_ret2;exact⟨G.o,.inl ⟨D.o,rfl⟩⟩
    ·obtain⟨f,a⟩:=nmd (w2.alloc (.cells #[.bool false,.int .i64 0,.string ⟨#[]⟩,.slice none 0 0] 138));have c0:f.cell? ⟨w2.heap.size,0,none⟩=some (.bool false):=a▸(by rw[cell_of_row _ _ _ _ _ _ (heap_alloc_new w2 _)];rfl);have l:Bw w f:=a▸ae.o.alloc (by omega) _;have G:=Aa l;have W:decide ((C:Int)<2)=false:=by simp;omega
     have ax:decide ((5:Int)<(C:Int))=true:=by simp;omega
     clear l Z L;go_wp2_with fail;go_ret2;exact⟨G.o,.inl ⟨D.o,rfl⟩⟩
   ·obtain⟨f,a⟩:=nmd (w2.alloc (.cells #[.bool false,.int .i64 0,.string ⟨#[]⟩,.slice none 0 0] 138));have c0:f.cell? ⟨w2.heap.size,0,none⟩=some (.bool false):=a▸(by rw[cell_of_row _ _ _ _ _ _ (heap_alloc_new w2 _)];rfl);have l:Bw w f:=a▸ae.o.alloc (by omega) _;have G:=Aa l;have dw:((K:Int)==1)=false:=by rw[beq_eq_false_iff_ne];omega
    have W:((K:Int)!=1)=true:=by simp;omega
    have ax:((K:Int)!=2)=true:=by simp;omega
    have d3:¬(K=1):=ao;have ds:¬(K=2):=az;clear l Z L;go_wp2_with fail;go_ret2;exact⟨G.o,.inl ⟨D.o,rfl⟩⟩
 have a5:=av.o;rw[if_pos L]at a5;obtain⟨cv,dd⟩:=L;have bc:=Aa (al.o _ X.o.2);have bb:=X.o.1.lt;rcases cv with⟨ao,I⟩|⟨az,I⟩
 case' inl=>
  subst ao;have c1:1<=C:=I;obtain⟨leaf,aa⟩:∃leaf:Bool,leaf=true:=⟨_,rfl⟩;obtain⟨f,a⟩:=nmd (w2.alloc (.cells #[.bool leaf,.int .i64 0,.string ⟨#[]⟩,.slice none 0 0] 138));have bm:Lq t=match Iz t leaf C [] 2 true with|none=>none|some (es,p,r)=>if r&&Ry t p then some (leaf,es)else none:=by rw[aa];exact a5
  have W:decide ((C:Int)<1)=false:=by simp;omega
 case' inr=>
  subst az;have c1:1<=C:=by omega
  obtain⟨leaf,aa⟩:∃leaf:Bool,leaf=false:=⟨_,rfl⟩;obtain⟨f,a⟩:=nmd (w2.alloc (.cells #[.bool leaf,.int .i64 0,.string ⟨#[]⟩,.slice none 0 0] 138));have bm:Lq t=match Iz t leaf C [] 2 true with|none=>none|some (es,p,r)=>if r&&Ry t p then some (leaf,es)else none:=by rw[aa];exact a5
  have W:decide ((C:Int)<2)=false:=by simp;omega
 all_goals
  have ax:decide ((5:Int)<(C:Int))=false:=by simp;omega
  have dx:f.heap.size=w2.heap.size+1:=by rw[<-a];simp
  have bg:Hf f w2.heap.size leaf 0 [] (.slice none 0 0):=⟨a▸heap_alloc_new w2 _⟩;have a8:Bw w2 f:=a▸(Ah _ _).alloc (Ak _) _;have cj:=X.o.1.of_block (a8.block _ bb);have l:=bc.o.trans (a8.mono bc.o.size);have c0:=bg.c0;have a1:=Aa (Ab bg (Ab cj l));have a0:=Aa bm;rw[aa]at c0 a;clear bg cj l bm a5 av Z a8 X bc;go_wp2_with fail;have d0:=Aa aa;clear c0 a W ax aa af
  go_loopw [9,10] (fun i _ wr=>∃es ev p r,i=.int .i64 (es.length:Int)/\es.length<=C/\Gx wr w2.heap.size leaf 0 [] es ev/\(∀j,ev.ownBlock=some j->w2.heap.size<j)/\Bv wr w.heap.size t p r/\p<=t.length/\Bw w wr/\Iz t leaf (C-es.length) es p r=Iz t leaf C [] 2 true) (fun i _ _=>C-(intOf i).toNat)
  case atStart=>exact⟨[],.slice none 0 0,2,true,rfl,by simp,⟨a1.o.1,Sn _ _ _ _,fun j h=>by cases h⟩,(fun j h=>by cases h),a1.o.2.1,(by rw[ah.o];decide),a1.o.2.2,rfl⟩
  case round=>
   obtain⟨es,ev,p,r,rfl,a6,y,a3,an,R,hb,b⟩:=hrel;have b2:=Aa al.o;clear a1 al;by_cases aw:es.length<C
   ·obtain⟨q,aq⟩:∃q,C-es.length=q+1:=⟨C-es.length-1,by omega⟩;rw[aq]at b;simp only[Iz]at b;have be:=Ayl (leaf:=leaf) (r:=r) R;have bh:=Aa (au.o w.heap.size leaf p r wr an R);generalize Lp t leaf p r=E at*;obtain⟨⟨m,Q,P,M⟩,di,dc⟩:=E;simp only[Aw.cells,Oh]at bh;simp only at b be;have db:=y.node.c0;have bp:(es.length:Int)<(C:Int):=by omega
    have c7:=y.node.lt;have H:=Aa (Ab y (Ab a3 (Ab hb (Ab b (Ab be (Ab aq a6))))));have dy:(C:Int)<=5:=by omega
    clear y a3 hb b an au be aq a6;have cw:=Aa aw;clear aw;go_wp2_with fail;refine bh.o.mono ?_;rintro e g ⟨rfl,ad,O⟩;have F:=H.o.1.kp O (by simp;omega) (fun j d=>by have:=H.o.2.1 j d;simp;omega);have dq:=O.size;have ab:Bw w g:=b2.o _ ((Kp.of_below H.o.2.2.1:Kp [w.heap.size] w wr).trans O);have de:=F.node.lt;have bs:=F.node.c3;have b1:∀z,(g.alloc z).cell? ⟨w2.heap.size,3,none⟩=some ev:=fun z=>(Uu g z ⟨w2.heap.size,3,none⟩ de).trans bs;have N:=Aa (Ab F (Ab ad ab));clear ad O ab bh db;rcases Nat.eq_zero_or_pos es.length with hz|hz
    case' inl=>have bt:es=[]:=Ls.1 hz;have b:=H.o.2.2.2.1;rw[if_neg (by simp[bt])]at b;have U:=Aa b;rw[hz]at bp⊢;have bz:=Aa hz;clear F b hz bt;simp only[Ac]at*;go_wp2_with fail;go_quiet (fail)
    case' inr=>
     obtain⟨k,hk⟩:∃k,es.length=k+1:=⟨es.length-1,by omega⟩;obtain⟨la,bd⟩:∃la,es[k]?=some la:=⟨es[k],Az (by omega)⟩;have a9:es≠[]:=by rintro rfl;simp at hz
     have ci:Zq es=la.key:=by unfold Zq;rw[List.getLast?_eq_getElem?,hk,Nat.add_sub_cancel,bd]
     obtain⟨bi,cap,cq,dh,dr,bb,d2,cf,c5⟩:=F.row a9;have ck:g.cell? ⟨bi,k*5,none⟩=some (.string ⟨la.key.toArray⟩):=by have:=cf k la bd 0 (by decide);simpa [Aw.cells,Oh]using this
     have dj:∀z,(g.alloc z).cell? ⟨bi,k*5,none⟩=some (.string ⟨la.key.toArray⟩):=fun z=>(Uu g z ⟨bi,k*5,none⟩ dh).trans ck;rw[cq,hk]at b1;rw[hk]at bp⊢;have b:=H.o.2.2.2.1;rw[ci]at b;have U:=Aa b;have bj:=Aa (Ab hk a9);generalize la.key=lk at*;clear F b hz ci cf c5 bd bb hk a9 ck bs cq;by_cases ac:Op.bytesLess lk m=false
     case pos=>
      have y:=U.o;rw[if_pos ⟨bj.o.2,ac⟩]at y;have T:=a0.o;rw[<-y]at T;have D:=Aa (Ab T N.o.2.2);clear y T U a0 N;simp only[Ac]at*;go_wp2_with fail;go_quiet (fail);go_wp2_with fail
      ·go_ret2;exact⟨Bp (D.o.2.alloc D.o.2.size _) _,.inl ⟨D.o.1,rfl⟩⟩
      ·rename_i cm;have:=Mk m lk;rw[cm.1,cm.2,ac]at this;cases this
     have b5:Op.bytesLess lk m=true:=by simpa using ac
     have V:=Mk m lk;rw[b5]at V
     have cz:Op.bytesLess m lk=false:=by
      cases h:Op.bytesLess m lk
      ·rfl
      ·rw[h]at V;cases V
     have dl:(m==lk)=false:=by
      cases h:(m==lk)
      ·rfl
      ·rw[h]at V;simp at V
     clear V;have b:=U.o;rw[if_neg (fun h=>ac h.2)]at b;clear ac U;have U:=Aa b;clear b;simp only[Ac]at*;go_wp2_with fail;go_quiet (fail);have bz:=Aa bj.o.1;clear dj cz dl b5 bj
    all_goals
     clear b1;obtain⟨o,ak⟩:=nmd ((g.alloc (.cells #[.string ⟨m.toArray⟩,.string ⟨Q.toArray⟩,.int .i64 (P:Int),.string ⟨M.toArray⟩,.pointer none] 142)).drewN nq);rw[ak];have a2:Bw g o:=ak▸Bp ((Ah _ _).alloc (Ak _) _) nq;have du:o.heap.size=g.heap.size+1:=by rw[<-ak];show(g.alloc _).heap.size=_;simp
     have Y:o.heap[g.heap.size]?=some (.cells #[.string ⟨m.toArray⟩,.string ⟨Q.toArray⟩,.int .i64 (P:Int),.string ⟨M.toArray⟩,.pointer none] 142 (0,0)):=ak▸heap_alloc_new g _;have e0:o.cell? ⟨g.heap.size,0,none⟩=some (.string ⟨m.toArray⟩):=crw Y rfl;have e1:o.cell? ⟨g.heap.size,1,none⟩=some (.string ⟨Q.toArray⟩):=crw Y rfl;have e2:o.cell? ⟨g.heap.size,2,none⟩=some (.int .i64 (P:Int)):=crw Y rfl;have e3:o.cell? ⟨g.heap.size,3,none⟩=some (.string ⟨M.toArray⟩):=crw Y rfl;have c4:o.cell? ⟨g.heap.size,4,none⟩=some (.pointer none):=crw Y rfl;have ag:=N.o.1.kp (S:=[]) (Kp.of_below a2) (by simp) (by simp);have n3:=ag.node.c3;have a4:=ag.node.lt;have ce:=ag.own;have da:∀z,(o.alloc z).cell? ⟨w2.heap.size,3,none⟩=some ev:=fun z=>(Uu o z ⟨w2.heap.size,3,none⟩ a4).trans n3;have b7:=N.o.2.1.of_block (a2.block _ N.o.2.1.lt);have bo:=N.o.2.2.trans (a2.mono N.o.2.2.size);have bq:∀j,ev.ownBlock=some j->w2.heap.size<j:=H.o.2.1;have cu:=H.o.2.2.2.2.2.2;have s:=Aa (Ab ag (Ab b7 (Ab bo (Ab bq (Ab ce (Ab cu dd))))));clear ak a2 Y ag b7 bo N bq ce cu;go_wp2_with fail
     go_region_law (refine step_append_lies _ rfl (.tmp 76) (.tmp 78) 136 rfl 0 142 c6 _ 5 64 Tryz.underlying136 dk dm dn cy rfl (by decide) ev _ _ (by simp[Act.eval]) (by exact Bm s.o.2.2.2.2.1 (((Kp.refl [] o).drewN _).alloc _) (by simp)) ⟨o.heap.size,0,none⟩ 1 1 [.string ⟨m.toArray⟩,.string ⟨Q.toArray⟩,.int .i64 (P:Int),.string ⟨M.toArray⟩,.pointer none] (by simp[Act.eval]) rfl (by exact Qt (cs:= #[.string ⟨m.toArray⟩,.string ⟨Q.toArray⟩,.int .i64 (P:Int),.string ⟨M.toArray⟩,.pointer none]) (heap_alloc_new (o.drewN _) _)) (by intro u cd;simp at cd;rcases cd with rfl|rfl|rfl|rfl|rfl<;>rfl) (by decide) (by have:=s.o.2.2.2.2.2;unfold maxLen;omega) (by have:=s.o.2.2.2.2.2;omega) (Cu _) _ rfl ?_;intro v ai w7 ca b9 ch df;have J:Kp ev.ownBlock.toList o w7:=(((Kp.refl _ o).drewN _).alloc _).grown b9 (fun j d=>.inl (by simp[d]));have ay:w2.heap.size∉ev.ownBlock.toList:=(fun ba=>s.o.1.ne _ (by simpa using ba) rfl);have c9:=(s.o.1.node.of_block (J.block _ a4 ay)).c3;have dg:=(s.o.1.node.of_block (J.block _ a4 ay)).fr 3)
     all_goals
      have cr:=s.o.2.2.1.size
      have b4:v≠w2.heap.size/\w2.heap.size<v:=by
       rcases ch with e|e
       ·have:=s.o.2.2.2.1 v e;omega
       ·have:v=o.heap.size+1:=by simpa using e
        omega
      have cn:=(s.o.1.node.of_block (J.block _ a4 ay)).set3 (.slice (some ⟨v,0,none⟩) (es.length+1) ai);have am:Kp [w2.heap.size] w7 (w7.setCell ⟨w2.heap.size,3,none⟩ (.slice (some ⟨v,0,none⟩) (es.length+1) ai)):=(Kp.refl _ w7).setCell _ 3 _ (.inl (by simp))
      have bw:=Bm ca am (fun j d=>by
       have:v=j:=by simpa [Value.ownBlock]using d
       simp;omega)
      have cp:=s.o.2.1.lt;have cl:=(s.o.2.1.of_block (J.block _ cp (fun ba=>by have:=s.o.2.2.2.1 _ (by simpa using ba);omega))).of_block (am.block _ (Eu cp J.size) (by simp;omega));have b8:=Aqb (Aqb s.o.2.2.1 J (fun j d=>by have:=s.o.2.2.2.1 _ (by simpa using d);omega) cr) am (fun j d=>by simp at d;omega) (Hb cr J.size)
      have bu:Gx (w7.setCell ⟨w2.heap.size,3,none⟩ (.slice (some ⟨v,0,none⟩) (es.length+1) ai)) w2.heap.size leaf 0 [] (es++[⟨m,Q,P,M⟩]) (.slice (some ⟨v,0,none⟩) (es.length+1) ai):=
       ⟨cn,by rw[Bb,Ar7];exact bw,fun j d=>by
        have:v=j:=by simpa [Value.ownBlock]using d
        omega⟩
      have A:=Aa (Ab bu (Ab b4.2 (Ab cl b8)));clear bu b4 cn am bw cl b8 ca b9 ch df c9 dg s J ay n3 da e0 e1 e2 e3 c4;go_wp2_with fail;have cx:=bz.o;have aw:=cw.o
      refine⟨⟨es++[⟨m,Q,P,M⟩],.slice (some ⟨v,0,none⟩) (es.length+1) ai,di,dc,?_,by simp;omega,A.o.1,(fun j d=>by
        have:v=j:=by simpa [Value.ownBlock]using d
        have:=A.o.2.1
        omega),A.o.2.2.1,H.o.2.2.2.2.1,A.o.2.2.2,?_⟩,by simp[intOf];omega⟩
      ·simp[cx]
      ·have aq:=H.o.2.2.2.2.2.1;rw[<-U.o,Bb,show C-(es.length+[(⟨m,Q,P,M⟩:Aw)].length)=q from by simp;omega]
   ·have c8:C=es.length:=by omega
    rw[show C-es.length=0 by omega]at b;simp only[Iz]at b;have x:=a0.o;rw[<-b]at x;simp only at x;have cb:=Aa (a7.o w.heap.size p r wr an R);have c7:=y.node.lt;have d1:decide ((es.length:Int)<(C:Int))=false:=by simp;omega
    have A:=Aa (Ab y (Ab a3 (Ab hb x)));clear y a3 an hb x b a7 au a0 aw a6;subst c8;go_wp2_with fail;refine cb.o.mono ?_;rintro e g ⟨rfl,ad,O⟩;have c2:=ad.c2;have ab:Bw w g:=b2.o _ ((Kp.of_below A.o.2.2.1:Kp [w.heap.size] w wr).trans O);have F:=A.o.1.kp O (by simp;omega) (fun j d=>by have:=A.o.2.1 j d;simp;omega);have bl:=Aa (Ab ab F);have x:=A.o.2.2.2;clear ad O ab F cb;cases ar:(r&&Ry t p)
    ·rw[ar]at x c2;have bn:=Aa x;clear x ar;go_wp2_with fail;go_ret2;exact⟨bl.o.1,.inl ⟨by rw[bn.o];simp,rfl⟩⟩
    ·rw[ar]at x c2;have bn:=Aa x;clear x ar;go_wp2_with fail;go_ret2;exact⟨bl.o.1,.inr ⟨leaf,es,w2.heap.size,ev,by rw[bn.o];simp,rfl,bl.o.2,by omega,fun j d=>by have:=A.o.2.1 j d;omega⟩⟩
theorem Aqp (c:Oper)(a:Act)(x d:Operand)(U:TypeId)(X b:By)(g:X≠b)(e:c.op=.binOp .neq 9 x d U)(f:a.eval x=.string ⟨X.toArray⟩)(hy:a.eval d=.string ⟨b.toArray⟩)(w:World):
  (execOp a.eval c).run Tryz.prog w=.ok (.value (.bool true)) w:=by
 have hb:(X==b)=false:=by simpa using g
 unfold execOp;simp only[e,f,hy];clear f hy e
 go_simp
theorem At8 {rk block:By}{p:Nat}{t:By}(hr:rk.length=240)(hb:block.length=256)(h:Pc rk block p=some t):t.length=228:=by
 unfold Pc at h;split at h
 ·simp only[Option.some.injEq]at h;rw[<-h,Aa1 rk _ hr (by simp[hb]) 2];simp[hb]
 ·cases h
def Nu (rk d block:By)(p:Nat):Option (Bool×List Aw):=if Dz block=d then(Pc rk block p).bind Lq else none
theorem Avn (x:DX)(b bp a:Nat)(m:DM)(v:VM)(wv:Value)(rk d:By)(p lk:Nat)(w:World)(h:Ai w x b m v wv)(aq:v.pv=.pointer (some ⟨bp,0,none⟩))(hk:Eh w bp rk)
  (ay:w.cell? ⟨a,0,none⟩=some (.pointer (some ⟨b,0,none⟩))) (bj:w.cell? ⟨a,1,none⟩=some (.int .i64 lk)) (bh:w.frozen? ⟨a,1,none⟩=false) (bm:Ce x b wv a) (bo:bp≠a) (ap:lk<48)
  (h2:2<=p) (ar:p<m.blocks.length) (ac:(m.look p).length=256):
  Cl 89 #[.pointer (some ⟨a,0,none⟩),.agg #[.int .i64 p,.string ⟨d.toArray⟩]] w fun e w'=>Kp [a] w w'/\w'.heap[a]?=(w.setCell ⟨a,1,none⟩ (.int .i64 (lk+1:Nat))).heap[a]?/\
   ((Nu rk d (m.look p) p=none/\e=.returned (.tuple #[.pointer none,.int .i64 8]))\/
    (∃leaf es n ev,Nu rk d (m.look p) p=some (leaf,es)/\e=.returned (.tuple #[.pointer (some ⟨n,0,none⟩),.int .i64 0])/\Gx w' n leaf p d es ev/\w.heap.size<=n/\(∀j,ev.ownBlock=some j->w.heap.size<=j))):=by
 have K:a<w.heap.size:=by
  rcases Hv a w.heap.size with g|g
  ·exact g
  ·simp[World.cell?,Ot g]at ay
 have au:=h.disk.le;obtain⟨w0,U⟩:=nmd (w.alloc (.cells #[.int .i64 (p:Int),.string ⟨d.toArray⟩] 60));have F:Bw w w0:=U▸(Ah _ _).alloc (Ak _) _;have H:w0.heap.size=w.heap.size+1:=by rw[<-U];simp
 have ak:w0.heap[w.heap.size]?=some (.cells #[.int .i64 (p:Int),.string ⟨d.toArray⟩] 60 (0,0)):=U▸heap_alloc_new w _;have a2:w0.cell? ⟨w.heap.size,0,none⟩=some (.int .i64 (p:Int)):=crw ak rfl;have bq:w0.cell? ⟨a,0,none⟩=some (.pointer (some ⟨b,0,none⟩)):=(F.cell (p:=⟨a,0,none⟩) K).trans ay;have aj:w0.cell? ⟨a,1,none⟩=some (.int .i64 lk):=(F.cell (p:=⟨a,1,none⟩) K).trans bj;have be:w0.frozen? ⟨a,1,none⟩=false:=(F.frozen (p:=⟨a,1,none⟩) K).trans bh;have h0:=h.later F;have c0:=h0.vault.c0;have I:=Aa (fun w' (hw:Bw w0 w')=>Ab ((hw.cell (p:=⟨w.heap.size,0,none⟩) (by rw[H];simp)).trans a2) (Ab ((h0.later hw).vault.c0) (Ab ((hw.cell (p:=⟨a,1,none⟩) (by rw[H];show a<_;omega)).trans aj) (Ui x.d x.bb x.cb m.blocks.length w' (h0.later hw).disk.c0))));have a9:¬((p:Int)<2):=by omega
 have bd:¬((m.blocks.length:Int)<=(p:Int)):=by omega
 have a3:¬((48:Int)<=(lk:Int)):=by omega
 have bb:decide ((p:Int)<2)=false:=by simpa using a9
 have bc:decide ((m.blocks.length:Int)<=(p:Int))=false:=by simpa using bd
 have ba:decide ((48:Int)<=(lk:Int))=false:=by simpa using a3
 have ad:=Aa (Ab h (Ab h0 ak));have u:=Aa (Ab ap (Ab h2 (Ab ar (Ab au K))));clear h h0 ak ap h2 ar au a9 bd a3;generalize bn:m.blocks.length=N at*;go_enter Tryz.func89,Tryz.ntmps89;go_wp2_with fail;refine Jx (fun w'=>Bw w0 w') (by kernel_rfl) (by kernel_rfl) (Ah _ _).drew ?_;refine Aq 0 (.pointer (some ⟨w.heap.size,0,none⟩)) ?_;refine Fp 1 (.int .i64 p) Qd (fun w hw=>(I.o w hw).1) ?_;refine Cf 2 (.bool false) rfl (by kernel_rfl) rfl (Cp fun w=>Afv _ _ _ _ _ (p) (2) false rfl (by kernel_rfl) (by kernel_rfl) (bb) w) ?_;refine Aq 3 (.bool false) ?_;refine Aq 4 (.pointer (some ⟨w.heap.size,0,none⟩)) ?_;refine Fp 5 (.int .i64 p) Qd (fun w hw=>(I.o w hw).1) ?_;refine Aq 6 (.pointer (some ⟨b,0,none⟩)) ?_;refine Aq 7 (.pointer (some ⟨b,0,none⟩)) ?_;refine Aq 8 (.pointer (some ⟨b,0,none⟩)) ?_;refine Fp 9 (.pointer (some ⟨x.d,0,none⟩)) Ad0 (fun w hw=>(I.o w hw).2.1) ?_;refine Cf 10 (.int .i64 N) rfl (by kernel_rfl) rfl (Gb (38) (#[.pointer (some ⟨x.d,0,none⟩)]) (fun _=>by kernel_rfl) fun w hw=>((I.o w hw).2.2.2).mono fun e w2 h=>⟨h.1,h.2▸hw⟩) ?_;refine Cf 11 (.bool false) rfl (by kernel_rfl) rfl (Cp fun w=>Aii _ _ _ _ _ (p) (N) false rfl (by kernel_rfl) (by kernel_rfl) (bc) w) ?_;refine Aq 12 (.bool false) ?_;refine Aq 13 (.bool false) ?_;refine Aq 14 (.pointer (some ⟨a,0,none⟩)) ?_;refine Aq 15 (.pointer (some ⟨a,0,none⟩)) ?_;refine Aq 16 (.pointer (some ⟨a,1,none⟩)) ?_;refine Fp 17 (.int .i64 lk) Qd (fun w hw=>(I.o w hw).2.2.1) ?_;refine Cf 18 (.bool false) rfl (by kernel_rfl) rfl (Cp fun w=>Aii _ _ _ _ _ (lk) (48) false rfl (by kernel_rfl) (by kernel_rfl) (ba) w) ?_;refine Aq 19 (.bool false) ?_;refine Dv.done (by kernel_rfl) fun w1 L=>?_;have a8:=L.cell (p:=⟨a,1,none⟩) (by rw[H];show a<_;omega);have bs:w1.cell? ⟨a,1,none⟩=some (.int .i64 lk):=a8.trans aj;have bv:w1.frozen? ⟨a,1,none⟩=false:=(L.frozen (p:=⟨a,1,none⟩) (by rw[H];show a<_;omega)).trans be;obtain⟨w2,O⟩:=nmd (w1.setCell ⟨a,1,none⟩ (.int .i64 (lk+1:Nat)));have af:Bw w w1:=F.trans (L.mono F.size);have P:Kp [a] w w2:=O▸(Kp.of_below af).setCell a 1 _ (.inl (by simp));have ae:w2.heap.size=w1.heap.size:=by rw[<-O];simp[World.setCell]
 have bl:=L.size;have s2:Ai w2 x b m v wv:=ad.o.1.kp P (fun j G=>by simp at G;subst G;exact bm)
 have ah:w2.heap[w.heap.size]?=some (.cells #[.int .i64 (p:Int),.string ⟨d.toArray⟩] 60 (0,0)):=by rw[<-O];exact Va ((L.block w.heap.size (by rw[H];omega)).trans ad.o.2.2) _ _ (by show w.heap.size≠a;omega)
 have a0:w2.heap[a]?=(w.setCell ⟨a,1,none⟩ (.int .i64 (lk+1:Nat))).heap[a]?:=by have e:=af.block a K;rw[<-O];simp only[World.setCell,Array.getElem?_modify,if_true];rw[e]
 have R:=hk.of_block (P.block bp hk.lt (by simpa using bo)) P.size;have c:=Aa (fun w' (hw:Bw w2 w')=>Ab ((hw.cell (p:=⟨w.heap.size,0,none⟩) (by rw[ae];show w.heap.size<_;omega)).trans (crw ah rfl:w2.cell? ⟨w.heap.size,0,none⟩=some (.int .i64 (p:Int)))) (Ab ((hw.cell (p:=⟨w.heap.size,1,none⟩) (by rw[ae];show w.heap.size<_;omega)).trans (crw ah rfl:w2.cell? ⟨w.heap.size,1,none⟩=some (.string ⟨d.toArray⟩))) (Ab (s2.later hw) (R.below hw R.lt))));have aw:=Aa (fun w' (hw:Bw w2 w')=>Afn x m wv p w' (s2.later hw).disk (by rw[bn];exact u.o.2.2.1));have M:=Aa (fun w' (hw:Bw w2 w')=>Ad3 ⟨(m.look p).toArray⟩ w' (s2.later hw).hk (s2.later hw).h0 (by show(m.look p).length<=_;omega));have av:Dz (ByteArray.mk (m.look p).toArray).data.toList=Dz (m.look p):=by simp
 rw[av]at M;have a7:=fun w' (hw:Bw w2 w')=>A13 bp v.tv rk (m.look p) p w' (R.below hw R.lt) (by have:=u.o;omega) ac;have A:=Aa a7;have a4:=hk.len;obtain⟨B,Z⟩:=nmd (m.look p);have am:=fun t (bk:Pc rk (m.look p) p=some t)=>At8 a4 ac bk;rw[Z]at aw M A;rw[Z]at am;have al:Nu rk d (m.look p) p=if Dz B=d then(Pc rk B p).bind Lq else none:=by rw[Z];rfl
 obtain⟨D,az⟩:=nmd (Dz B);rw[az]at M al;have ab:=Aa al;have a1:=Aa am;have r:=Aa (Ab P a0);have W:=Aa (Ab ae (Ab bl H));have bz:(lk:Int)<48:=by have:=u.o.1;omega
 clear I a8 P s2 ah a0 R bb bc ba bq aj be a2 c0 U af L ad av a7 Z ac az al a4 am;have b0:w1.setCell ⟨a,1,none⟩ (.int .i64 ((lk:Int)+1))=w2:=O;clear O;simp only[Act.put,Cz,Dg,Co];go_wp2_with fail;refine Jx (fun w'=>Bw w2 w') (by kernel_rfl) (by kernel_rfl) (Ah _ _).drew ?_;refine Aq 0 (.pointer (some ⟨b,0,none⟩)) ?_;refine Aq 1 (.pointer (some ⟨b,0,none⟩)) ?_;refine Aq 2 (.pointer (some ⟨b,0,none⟩)) ?_;refine Fp 3 (.pointer (some ⟨x.d,0,none⟩)) Ad0 (fun w hw=>(c.o w hw).2.2.1.vault.c0) ?_;refine Aq 4 (.pointer (some ⟨w.heap.size,0,none⟩)) ?_;refine Fp 5 (.int .i64 p) Qd (fun w hw=>(c.o w hw).1) ?_;refine Cf 6 (.tuple #[Ac B,.bool true]) rfl (by kernel_rfl) rfl (Gb (83) (#[.pointer (some ⟨x.d,0,none⟩),.int .i64 p]) (fun _=>by kernel_rfl) fun w hw=>(aw.o w hw).mono fun e w2 h=>⟨h.1,h.2▸hw⟩) ?_;refine Aq 7 (.tuple #[Ac B,.bool true]) ?_;refine Aq 8 (Ac B) ?_;refine Aq 9 (.bool true) ?_;refine Aq 10 (Ac B) ?_;refine Aq 11 (.bool true) ?_;refine Dv.done (by kernel_rfl) fun bu X=>?_;simp only[Act.put,Cz,Dg,Co];go_wp2_with fail;by_cases an:D=d
 ·subst an;have E:=ab.o;rw[if_pos rfl]at E;have y:=Aa E;clear E ab
  cases Q:Pc rk B p with
  |none=>rw[Q]at A y;simp only[Acz]at A;clear Q;refine Jx (fun w'=>Bw w2 w') (by kernel_rfl) (by kernel_rfl) X.drew ?_;refine Aq 0 (Ac B) ?_;refine Cf 1 (Ac D) rfl (by kernel_rfl) rfl (Gb (46) (#[.string ⟨B.toArray⟩]) (fun _=>by kernel_rfl) fun w hw=>(M.o w hw).mono fun e w2 h=>⟨h.1,hw.trans (h.2.mono hw.size)⟩) ?_;refine Aq 2 (.pointer (some ⟨w.heap.size,1,none⟩)) ?_;refine Fp 3 (Ac D) Im (fun w hw=>(c.o w hw).2.1) ?_;refine Cf 4 (.bool false) rfl (by kernel_rfl) rfl (Cp fun w=>Acc _ _ _ _ _ D rfl (by kernel_rfl) (by kernel_rfl) w) ?_;refine Dv.done (by kernel_rfl) fun S C=>?_;simp only[Act.put,Cz,Dg,Co];go_wp2_with fail;refine Jx (fun w'=>Bw w2 w') (by kernel_rfl) (by kernel_rfl) C.drew ?_;refine Aq 0 (.pointer (some ⟨b,0,none⟩)) ?_;refine Aq 1 (.pointer (some ⟨b,0,none⟩)) ?_;refine Aq 2 (.pointer (some ⟨b,3,none⟩)) ?_;refine Cf 3 (.agg #[v.tv,.pointer (some ⟨bp,0,none⟩)]) rfl (by kernel_rfl) rfl (My fun w hw=>Tn _ _ 58 _ b 3 [v.tv,.pointer (some ⟨bp,0,none⟩)] rfl (by kernel_rfl) _ Tryz.underlying58 rfl (by kernel_rfl) w (Uy (c.o w hw).2.2.1.vault.c3 (by rw[(c.o w hw).2.2.1.vault.c4,aq]))) ?_;refine Aq 4 (Ac B) ?_;refine Aq 5 (.pointer (some ⟨w.heap.size,0,none⟩)) ?_;refine Fp 6 (.int .i64 p) Qd (fun w hw=>(c.o w hw).1) ?_;refine Cf 7 (.tuple #[Ac [],.bool false]) rfl (by kernel_rfl) rfl (Gb (110) (#[.agg #[v.tv,.pointer (some ⟨bp,0,none⟩)],.string ⟨B.toArray⟩,.int .i64 p]) (fun _=>by kernel_rfl) fun w hw=>(A.o w hw).mono fun e w2 h=>⟨h.1,hw.trans (h.2.mono hw.size)⟩) ?_;refine Aq 8 (.tuple #[Ac [],.bool false]) ?_;refine Aq 9 (Ac []) ?_;refine Aq 10 (.bool false) ?_;refine Aq 11 (Ac []) ?_;refine Aq 12 (.bool false) ?_;refine Dv.done (by kernel_rfl) fun V k=>?_;simp only[Act.put,Cz,Dg,Co];have o:Kp [a] w V:=r.o.1.trans (Kp.of_below k);have q:V.heap[a]?=_:=(k.block a (by have:=W.o;have:=u.o.2.2.2.2;omega)).trans r.o.2;have s:=Aa (Ab o q);clear o q;go_wp2_with fail;go_ret2;exact⟨s.o.1,s.o.2,.inl ⟨y.o,rfl⟩⟩
  |some T=>
   have bi:=a1.o T Q;rw[Q]at A y;simp only[Acz]at A;clear Q a1;refine Jx (fun w'=>Bw w2 w') (by kernel_rfl) (by kernel_rfl) X.drew ?_;refine Aq 0 (Ac B) ?_;refine Cf 1 (Ac D) rfl (by kernel_rfl) rfl (Gb (46) (#[.string ⟨B.toArray⟩]) (fun _=>by kernel_rfl) fun w hw=>(M.o w hw).mono fun e w2 h=>⟨h.1,hw.trans (h.2.mono hw.size)⟩) ?_;refine Aq 2 (.pointer (some ⟨w.heap.size,1,none⟩)) ?_;refine Fp 3 (Ac D) Im (fun w hw=>(c.o w hw).2.1) ?_;refine Cf 4 (.bool false) rfl (by kernel_rfl) rfl (Cp fun w=>Acc _ _ _ _ _ D rfl (by kernel_rfl) (by kernel_rfl) w) ?_;refine Dv.done (by kernel_rfl) fun S C=>?_;simp only[Act.put,Cz,Dg,Co];go_wp2_with fail;refine Jx (fun w'=>Bw w2 w') (by kernel_rfl) (by kernel_rfl) C.drew ?_;refine Aq 0 (.pointer (some ⟨b,0,none⟩)) ?_;refine Aq 1 (.pointer (some ⟨b,0,none⟩)) ?_;refine Aq 2 (.pointer (some ⟨b,3,none⟩)) ?_;refine Cf 3 (.agg #[v.tv,.pointer (some ⟨bp,0,none⟩)]) rfl (by kernel_rfl) rfl (My fun w hw=>Tn _ _ 58 _ b 3 [v.tv,.pointer (some ⟨bp,0,none⟩)] rfl (by kernel_rfl) _ Tryz.underlying58 rfl (by kernel_rfl) w (Uy (c.o w hw).2.2.1.vault.c3 (by rw[(c.o w hw).2.2.1.vault.c4,aq]))) ?_;refine Aq 4 (Ac B) ?_;refine Aq 5 (.pointer (some ⟨w.heap.size,0,none⟩)) ?_;refine Fp 6 (.int .i64 p) Qd (fun w hw=>(c.o w hw).1) ?_;refine Cf 7 (.tuple #[Ac T,.bool true]) rfl (by kernel_rfl) rfl (Gb (110) (#[.agg #[v.tv,.pointer (some ⟨bp,0,none⟩)],.string ⟨B.toArray⟩,.int .i64 p]) (fun _=>by kernel_rfl) fun w hw=>(A.o w hw).mono fun e w2 h=>⟨h.1,hw.trans (h.2.mono hw.size)⟩) ?_;refine Aq 8 (.tuple #[Ac T,.bool true]) ?_;refine Aq 9 (Ac T) ?_;refine Aq 10 (.bool true) ?_;refine Aq 11 (Ac T) ?_;refine Aq 12 (.bool true) ?_;refine Dv.done (by kernel_rfl) fun V k=>?_;simp only[Act.put,Cz,Dg,Co];have ag:=Aa (Ay9 T V bi);go_wp2_with fail;refine ag.o.mono ?_;rintro e f ⟨Y,aa|⟨leaf,es,n,ev,aa,rfl,i,bx,bf⟩⟩
   ·obtain⟨a6,rfl⟩:=aa;have l:=k.trans (Y.mono k.size);have z:=y.o;rw[Ip,a6]at z;have ao:=Aa z;clear z a6 Y ag;have o:Kp [a] w f:=r.o.1.trans (Kp.of_below l);have q:f.heap[a]?=_:=(l.block a (by have:=W.o;have:=u.o.2.2.2.2;omega)).trans r.o.2;have s:=Aa (Ab o q);clear o q;go_wp2_with fail;go_ret2;exact⟨s.o.1,s.o.2,.inl ⟨ao.o,rfl⟩⟩
   ·have l:=k.trans (Y.mono k.size);have z:=y.o;rw[Ip,aa]at z;have ao:=Aa z;clear z aa;have b1:=(c.o f l).1;have br:=(c.o f l).2.1;have c1:=i.node.c1;have c2:=i.node.c2;have f1:=i.node.fr 1;have f2:=i.node.fr 2;have bw:=k.size;have bt:=W.o;have bg:=(i.node.set1 p).set2 D;have ai:Kp [n] f ((f.setCell ⟨n,1,none⟩ (.int .i64 p)).setCell ⟨n,2,none⟩ (Ac D)):=((Kp.refl [n] f).setCell n 1 _ (.inl (by simp))).setCell n 2 _ (.inl (by simp));have K:=u.o.2.2.2.2
    have a5:=Bm i.own ai (fun j G=>by
     have:=i.ne j G
     simp;omega)
    have kv:Kp [a] w ((f.setCell ⟨n,1,none⟩ (.int .i64 p)).setCell ⟨n,2,none⟩ (Ac D)):=((r.o.1.trans (Kp.of_below l)).setCell n 1 _ (.inr (by omega))).setCell n 2 _ (.inr (by omega));have ax:((f.setCell ⟨n,1,none⟩ (.int .i64 p)).setCell ⟨n,2,none⟩ (Ac D)).heap[a]?=_:=(ai.block a (by have:=l.size;omega) (by simp;omega)).trans ((l.block a (by omega)).trans r.o.2);have J:=Aa (Ab bg (Ab a5 (Ab i.ne (Ab kv (Ab ax bf)))));clear i bg ai a5 kv ax Y l k C X bf ag;go_wp2_with fail;go_ret2;exact⟨J.o.2.2.2.1,J.o.2.2.2.2.1,.inr ⟨leaf,es,n,ev,ao.o,rfl,⟨J.o.1,J.o.2.1,J.o.2.2.1⟩,by omega,fun j G=>by have:=J.o.2.2.2.2.2 j G;omega⟩⟩
 ·have E:=ab.o;rw[if_neg an]at E;have y:=Aa E;clear E ab;refine Jx (fun w'=>Bw w2 w') (by kernel_rfl) (by kernel_rfl) X.drew ?_;refine Aq 0 (Ac B) ?_;refine Cf 1 (Ac D) rfl (by kernel_rfl) rfl (Gb (46) (#[.string ⟨B.toArray⟩]) (fun _=>by kernel_rfl) fun w hw=>(M.o w hw).mono fun e w2 h=>⟨h.1,hw.trans (h.2.mono hw.size)⟩) ?_;refine Aq 2 (.pointer (some ⟨w.heap.size,1,none⟩)) ?_;refine Fp 3 (Ac d) Im (fun w hw=>(c.o w hw).2.1) ?_;refine Cf 4 (.bool true) rfl (by kernel_rfl) rfl (Cp fun w=>Aqp _ _ _ _ _ D d an rfl (by kernel_rfl) (by kernel_rfl) w) ?_;refine Dv.done (by kernel_rfl) fun S C=>?_;simp only[Act.put,Cz,Dg,Co];have o:Kp [a] w S:=r.o.1.trans (Kp.of_below C);have q:S.heap[a]?=_:=(C.block a (by have:=W.o;have:=u.o.2.2.2.2;omega)).trans r.o.2;have s:=Aa (Ab o q);clear o q;go_wp2_with fail;go_ret2;exact⟨s.o.1,s.o.2,.inl ⟨y.o,rfl⟩⟩
theorem Ade (x:DX)(b a:Nat)(m:DM)(v:VM)(wv:Value)(w:World)(h:Ai w x b m v wv)(c:v.place=0)
  (f:w.cell? ⟨a,0,none⟩=some (.pointer (some ⟨b,0,none⟩))):
  Cl 62 #[.pointer (some ⟨a,0,none⟩)] w fun e w'=>e=.returned (.tuple #[.pointer none,.int .i64 0])/\w'=w:=by
 have d:=h.vault.c8;rw[c]at d;clear h c;go_enter Tryz.func62,Tryz.ntmps62;go_wp2_with fail;go_ret2;exact⟨rfl,rfl⟩
section
variable {w:World}{n place:Nat}{digest k s:By}{be cap:Nat}
end
theorem Tj {cap:Nat}(h:cap<=maxLen):(cap:Int)<=9223372036854775807:=by unfold maxLen at h;omega
structure Dj (w:World)(bw b lk:Nat)(top rv:Value)(ch:Bool):Prop where
 blk:w.heap[bw]?=some (.cells #[.pointer (some ⟨b,0,none⟩),.int .i64 lk,top,rv,.bool ch] 115 (0,0))
section
variable {w:World}{bw b lk:Nat}{top rv:Value}{ch:Bool}
theorem Dj.lt (h:Dj w bw b lk top rv ch):bw<w.heap.size:=lt_of_block h.blk
theorem Dj.fr (h:Dj w bw b lk top rv ch)(i:Nat):w.frozen? ⟨bw,i,none⟩=false:=by simp[World.frozen?,h.blk]
theorem Dj.c0 (h:Dj w bw b lk top rv ch):w.cell? ⟨bw,0,none⟩=some (.pointer (some ⟨b,0,none⟩)):=by rw[cell_of_row _ _ _ _ _ _ h.blk];rfl
theorem Dj.c1 (h:Dj w bw b lk top rv ch):w.cell? ⟨bw,1,none⟩=some (.int .i64 lk):=by rw[cell_of_row _ _ _ _ _ _ h.blk];rfl
theorem Dj.c2 (h:Dj w bw b lk top rv ch):w.cell? ⟨bw,2,none⟩=some top:=by rw[cell_of_row _ _ _ _ _ _ h.blk];rfl
theorem Dj.c3 (h:Dj w bw b lk top rv ch):w.cell? ⟨bw,3,none⟩=some rv:=by rw[cell_of_row _ _ _ _ _ _ h.blk];rfl
theorem Dj.c4 (h:Dj w bw b lk top rv ch):w.cell? ⟨bw,4,none⟩=some (.bool ch):=by rw[cell_of_row _ _ _ _ _ _ h.blk];rfl
theorem Dj.of_block {w':World}(h:Dj w bw b lk top rv ch)(e:w'.heap[bw]?=w.heap[bw]?):Dj w' bw b lk top rv ch:=⟨e.trans h.blk⟩
theorem Dj.set1 (h:Dj w bw b lk top rv ch)(a:Nat):Dj (w.setCell ⟨bw,1,none⟩ (.int .i64 a)) bw b a top rv ch:=⟨by rw[Cx h.blk 1 _];simp⟩
theorem Dj.set2 (h:Dj w bw b lk top rv ch)(a:Value):Dj (w.setCell ⟨bw,2,none⟩ a) bw b lk a rv ch:=⟨by rw[Cx h.blk 2 _];simp⟩
theorem Dj.set3 (h:Dj w bw b lk top rv ch)(a:Value):Dj (w.setCell ⟨bw,3,none⟩ a) bw b lk top a ch:=⟨by rw[Cx h.blk 3 _];simp⟩
theorem Dj.set4 (h:Dj w bw b lk top rv ch)(a:Bool):Dj (w.setCell ⟨bw,4,none⟩ (.bool a)) bw b lk top rv a:=⟨by rw[Cx h.blk 4 _];simp⟩
end
def Et (used:List Bool)(q:Nat):List Nat:=(List.range q).filter (fun p=>decide (2<=p)&& !used.getD p false)
theorem Anv (used:List Bool)(q:Nat):Et used (q+1)=Et used q++(if(decide (2<=q)&& !used.getD q false)=true then [q]else []):=by
 unfold Et;rw[List.range_succ,Xw]
 congr 1
 by_cases h:(decide (2<=q)&& !used.getD q false)=true
 ·rw[if_pos h];simp only[List.filter_cons,h,if_true,List.filter_nil]
 ·rw[if_neg h];simp only[List.filter_cons,h,List.filter_nil];rfl
theorem Alh (used:List Bool)(q:Nat):(Et used q).length<=q:=by have:=Tv (fun p=>decide (2<=p)&& !used.getD p false) (List.range q);simpa [Et]using this
theorem Ali (x:DX)(b:Nat)(m:DM)(v:VM)(wv:Value)(w:World)(h:Ai w x b m v wv):
  Cl 115 #[.pointer (some ⟨b,0,none⟩)] w fun e w'=>∃fv,e=.returned fv/\w'.ownsRow w.heap.size 3 1 fv (Et v.used m.blocks.length).length (Aj .i64 (Et v.used m.blocks.length))/\Bw w w':=by
 obtain⟨V,O,Q,R,M⟩:=info_parts Akr;have X:=h.disk.ge;have W:=h.disk.le;have L:=Aa h;clear h;generalize T:m.blocks.length=n at*;go_enter Tryz.func115,Tryz.ntmps115;go_wp2_with fail
 go_loopw [3,4] (fun l p wr=>∃(q:Nat) (t:Option Addr) (ln cap:Nat),2<=q/\q<=n/\p=.int .i64 (q:Int)/\l=.slice t ln cap/\ln=(Et v.used q).length/\wr.ownsRow w.heap.size 3 1 (.slice t ln cap) ln (Aj .i64 (Et v.used q))/\Bw w wr) (fun _ p _=>n-(intOf p).toNat)
 case atStart=>exact⟨2,none,0,0,by omega,by omega,rfl,rfl,rfl,Sn _ _ _ _,Ah _ _⟩
 case round=>
  obtain⟨q,t,ln,cap,U,aa,rfl,rfl,A,f,c⟩:=hrel;have z:=Aa A;have Y:ln<=q:=by rw[A];exact Alh _ _
  clear A;have i:=L.o.later c;have c0:=i.vault.c0;have s:=Aa (Ui x.d x.bb x.cb m.blocks.length wr i.disk.c0);rw[T]at s;have N:=c.size;by_cases r:q<n
  ·have Z:(q:Int)<(n:Int):=by omega
   have ab:(q:Int)<48:=by omega
   have G:=i.vault.cu q (by omega);have j:=Aa r;by_cases d:v.used.getD q false=true
   ·have o:Et v.used (q+1)=Et v.used q:=by rw[Anv,d];simp
    rw[d]at G;have a:=Aa (Ab o (Ab f c));clear i d r o f c;go_wp2_with fail;refine s.o.mono ?_;rintro e w1 ⟨rfl,rfl⟩;go_wp2_with fail
    go_roundw
    case rel=>exact⟨q+1,t,ln,cap,by omega,by have:=j.o;omega,by go_num,rfl,by rw[a.o.1];exact z.o,by rw[a.o.1];exact a.o.2.1,a.o.2.2⟩
    case measure=>have:=j.o;simp[intOf];omega
   ·have C:v.used.getD q false=false:=by simpa using d
    have o:Et v.used (q+1)=Et v.used q++[q]:=by rw[Anv,C];simp[U]
    rw[C]at G;have a:=Aa (Ab o (Ab f c));clear i d C r o f c;go_wp2_with fail;refine s.o.mono ?_;rintro e w1 ⟨rfl,rfl⟩;go_wp2_with (at_builtin;refine wpList_append_lies _ rfl _ _ 24 rfl w.heap.size 3 V (.int .i64 0) 1 8 Tryz.underlying24 O Q R M rfl (by decide) _ _ (Aj .i64 (Et v.used q)) rfl (a.o.2.1.alloc _) ⟨w1.heap.size,0,none⟩ 1 1 [.int .i64 q] rfl rfl ?c1 ?c2 (by decide) ?c3 ?c4 ?c5 _ rfl ?_)
    case c1=>exact Qt (cs:= #[.int .i64 (q:Int)]) (heap_alloc_new _ _)
    case c2=>intro u d;simp at d;subst d;rfl
    case c3=>unfold maxLen;omega
    case c4=>omega
    case c5=>simp;omega
    intro J F w2 y I P S;have E:Bw w w2:=Below.grown (Below.alloc a.o.2.2 N _) I (by simp;omega) (fun k hk=>(a.o.2.1.lt k hk).1);have H:Aj .i64 (Et v.used (q+1))=Aj .i64 (Et v.used q)++[.int .i64 q]:=by rw[a.o.1];simp[Aj]
    rw[<-H]at y;have D:ln+1=(Et v.used (q+1)).length:=by rw[a.o.1,Bb,z.o];rfl
    have g:=Aa (Ab y (Ab E D));clear y E I P S H D a;go_wp2_with fail
    go_roundw
    case rel=>first
     |exact⟨q+1,some ⟨J,0,none⟩,ln+1,F,by omega,by have:=j.o;omega,by go_num,rfl,g.o.2.2,g.o.1,g.o.2.1⟩
     |((repeat apply Exists.intro);exact⟨⟨q+1,some ⟨J,0,none⟩,ln+1,F,by omega,by have:=j.o;omega,by go_num,rfl,g.o.2.2,g.o.1,g.o.2.1⟩,rfl⟩)
    case measure=>have:=j.o;simp[intOf];omega
  ·have K:q=n:=by omega
   subst K;have a:=Aa (Ab f c);clear i r f c;go_wp2_with fail;refine s.o.mono ?_;rintro e w1 ⟨rfl,rfl⟩;go_wp2_with fail;go_ret;exact⟨_,rfl,z.o▸a.o.1,a.o.2⟩
theorem Af3 (x:DX)(b:Nat)(m:DM)(v:VM)(wv:Value)(p:Nat)(u:Bool)(w:World)(h:Ai w x b m v wv)(a:p<48):
  Cl 96 #[.pointer (some ⟨b,0,none⟩),.int .i64 p,.bool u] w fun e w'=>e=.returned (.tuple #[])/\Ai w' x b m {v with used:=v.used.set p u} wv/\Kp [b] w w':=by
 have d:=h.vault.cu p a;have f:=h.vault.fr (10+p);have g:(p:Int)<48:=by omega
 have k1:Kp [b] w (w.setCell ⟨b,10+p,none⟩ (.bool u)):=(Kp.refl _ w).setCell b _ _ (.inl (by simp));have c:=Aa (Ab (h.ofVault k1 (h.vault.setu p a u)) k1);clear h k1 a;go_enter Tryz.func96,Tryz.ntmps96;go_wp2_with fail;go_end0;exact⟨rfl,c.o⟩
theorem Afa (w:World):Cl 92 #[.pointer none] w fun e w'=>e=.returned (.int .i64 0)/\w'=w:=by go_enter Tryz.func92,Tryz.ntmps92;go_wp2_with fail;go_ret;exact⟨rfl,rfl⟩
def Ku (m:DM)(v:VM)(c:Nat):Nat:=if m.ceiling<=v.version then 10 else if 40<v.done+c then 11 else if(Et v.used m.blocks.length).length<c then 9 else 0
theorem Anz (x:DX)(b:Nat)(m:DM)(v:VM)(wv:Value)(c:Nat)(w:World)(h:Ai w x b m v wv)(C:c<=1000)(hd:v.done<=1000):
  Cl 93 #[.pointer (some ⟨b,0,none⟩),.int .i64 c] w fun e w'=>e=.returned (.int .i64 (Ku m v c))/\Bw w w':=by
 have k:=Aa (fun w' (hw:Bw w w')=>(h.later hw));have G:(c:Int)<=1000:=by omega
 have J:(v.done:Int)<=1000:=by omega
 have d:=Aa (show Ku m v c=if m.ceiling<=v.version then 10 else if 40<v.done+c then 11 else if(Et v.used m.blocks.length).length<c then 9 else 0 from rfl);clear h C hd;obtain⟨j,o⟩:=nmd (decide (m.ceiling<=v.version));have y:decide ((m.ceiling:Int)<=(v.version:Int))=j:=by rw[<-o];simp
 go_enter Tryz.func93,Tryz.ntmps93;go_wp2_with fail;refine Jx (fun w'=>Bw w w') (by kernel_rfl) (by kernel_rfl) (Ah _ _).drew ?_;refine Aq 0 (.pointer (some ⟨b,0,none⟩)) ?_;refine Aq 1 (.pointer (some ⟨b,0,none⟩)) ?_;refine Aq 2 (.pointer (some ⟨b,5,none⟩)) ?_;refine Fp 3 (.int .i64 v.version) Qd (fun w hw=>(k.o w hw).vault.c5) ?_;refine Aq 4 (.pointer (some ⟨b,0,none⟩)) ?_;refine Aq 5 (.pointer (some ⟨b,0,none⟩)) ?_;refine Aq 6 (.pointer (some ⟨b,0,none⟩)) ?_;refine Fp 7 (.pointer (some ⟨x.d,0,none⟩)) Ad0 (fun w hw=>(k.o w hw).vault.c0) ?_;refine Cf 8 (.int .i64 m.ceiling) rfl (by kernel_rfl) rfl (Gb (24) (#[.pointer (some ⟨x.d,0,none⟩)]) (fun _=>by kernel_rfl) fun w hw=>(Vu x.d w m.ceiling (k.o w hw).disk.c3).mono fun e w2 h=>⟨h.1,h.2▸hw⟩) ?_;refine Cf 9 (.bool j) rfl (by kernel_rfl) rfl (Cp fun w=>Aii _ _ _ _ _ (v.version) (m.ceiling) j rfl (by kernel_rfl) (by kernel_rfl) (y) w) ?_;refine Dv.done (by kernel_rfl) fun w1 f=>?_;simp only[Act.put,Cz,Dg,Co];have h1:=k.o w1 f;have E:=h1.vault.c7
 cases j with
 |true=>have a:=Aa (show Ku m v c=10 from by rw[d.o,if_pos (by simpa using o)]);clear h1;go_wp2_with fail;go_ret;exact⟨by rw[a.o];rfl,f⟩
 |false=>
  rw[if_neg (by simpa using o)]at d;obtain⟨t,i⟩:=nmd (decide (40<v.done+c));have H:decide ((40:Int)<(v.done:Int)+(c:Int))=t:=by rw[<-i];simp;omega
  cases t with
  |true=>have a:=Aa (show Ku m v c=11 from by rw[d.o,if_pos (by simpa using i)]);clear h1 i;go_wp2_with fail;go_ret;exact⟨by rw[a.o];rfl,f⟩
  |false=>
   rw[if_neg (by simpa using i)]at d;have q:=Aa (Ali x b m v wv w1 h1);clear h1 i;go_wp2_with fail;refine q.o.mono ?_;rintro e w2 ⟨fv,rfl,n,D⟩;have s:=f.trans (D.mono f.size);clear q;generalize I:Et v.used m.blocks.length=F at*
   obtain⟨r,cap,u⟩:∃r cap,fv=.slice r F.length cap:=by
    rcases n.2 with⟨l,z⟩|⟨g,cap,cur,l,_⟩
    ·exact⟨none,0,by rw[l,z]⟩
    ·exact⟨_,cap,l⟩
   subst u;obtain⟨A,p⟩:=nmd (decide (F.length<c));generalize F.length=L at*
   cases A with
   |true=>have a:=Aa (show Ku m v c=9 from by rw[d.o,if_pos (by simpa using p)]);clear n;go_wp2_with fail;go_ret;exact⟨by rw[a.o];rfl,s⟩
   |false=>have a:=Aa (show Ku m v c=0 from by rw[d.o,if_neg (by simpa using p)]);clear n;go_wp2_with fail;go_ret;exact⟨by rw[a.o];rfl,s⟩
theorem Aln (d:Oper)(a:Act)(x:Operand)(b c:Nat)(v:Value)(e:d.op=.load 136 x)(f:a.eval x=.pointer (some ⟨b,c,none⟩))(w:World)(g:w.cell? ⟨b,c,none⟩=some v):
  (execOp a.eval d).run Tryz.prog w=.ok (.value v) w:=by
 unfold execOp;simp only[e,f];clear f e
 go_simp
theorem Ce.later {x:DX}{b:Nat}{wv a:Value}{n z:Nat}(h:Ce x b wv n)(c:Cd wv a z)(d:n<z):Ce x b a n:=
 ⟨fun e=>(c.sub e).elim h.1 (fun g=>by omega),h.2⟩
def Mz (rl:List Nat)(u:List Bool):List Bool:=rl.foldl (fun u q=>u.set q false) u
theorem Ay3 (rl:List Nat)(q:Nat)(u:List Bool):Mz (rl++[q]) u=(Mz rl u).set q false:=by simp[Mz]
structure Hm (w:World)(x:DX)(b:Nat)(m:DM)(v:VM)(wv:Value)(bt bp:Nat)(tk rk:By):Prop where
 sys:Ai w x b m v wv
 tv:v.tv=.pointer (some ⟨bt,0,none⟩)
 pv:v.pv=.pointer (some ⟨bp,0,none⟩)
 mac:Ln w bt tk
 key:Eh w bp rk
 abt:Mt w x b wv bt
 abp:Mt w x b wv bp
 sl:v.salt.length=16
theorem Hm.below {w w':World}{x:DX}{b:Nat}{m:DM}{v:VM}{wv:Value}{bt bp:Nat}{tk rk:By}(h:Hm w x b m v wv bt bp tk rk)(hb:Bw w w'):Hm w' x b m v wv bt bp tk rk:=
 ⟨h.sys.later hb,h.tv,h.pv,h.mac.of_block (hb.block bt h.mac.lt),h.key.below hb h.key.lt,h.abt.step (Cd.refl _ _) hb.size,h.abp.step (Cd.refl _ _) hb.size,h.sl⟩
theorem Hm.step {w w':World}{x:DX}{b:Nat}{m e:DM}{v a:VM}{wv d:Value}{bt bp:Nat}{tk rk:By}{S:List Nat}(h:Hm w x b m v wv bt bp tk rk)(g:Ai w' x b e a d)(c:Kp S w w')(f:Cd wv d w.heap.size)(h1:bt∉S)(h2:bp∉S)(e1:a.tv=v.tv)(e2:a.pv=v.pv)(e3:a.salt=v.salt):Hm w' x b e a d bt bp tk rk:=
 ⟨g,e1.trans h.tv,e2.trans h.pv,h.mac.of_block (c.block bt h.mac.lt h1),h.key.of_block (c.block bp h.key.lt h2) c.size,h.abt.step f c.size,h.abp.step f c.size,by rw[e3];exact h.sl⟩
def Od (b:Nat):Obj:=.cells #[.pointer (some ⟨b,0,none⟩),.int .i64 0,.pointer none,.slice none 0 0,.bool false] 115
theorem Av1 (w:World)(b:Nat):Dj (w.alloc (Od b)) w.heap.size b 0 (.pointer none) (.slice none 0 0) false:=⟨heap_alloc_new w _⟩
def Dr:VM:=⟨false,[],.pointer none,.pointer none,0,0,0,0,[],List.replicate 48 false,.slice none 0 0⟩
theorem Av3 (d:Nat):∀u∈Fw d Dr,u.oneCell'=true:=by intro u a;simp[Fw,Dr]at a;rcases a with rfl|rfl|rfl|rfl|rfl|rfl|rfl|rfl|rfl|rfl|rfl|rfl<;>rfl
theorem Ann (x:DX)(b:Nat)(m:DM)(v:VM)(wv:Value)(w:World)(h:Ai w x b m v wv):
  Cl 55 #[.pointer (some ⟨b,0,none⟩)] w fun e w'=>e=.returned (.tuple #[])/\Ai w' x b m Dr wv/\Kp [b] w w':=by
 have c0:=h.vault.c0
 have c:w.there b 0 59:=by
  intro j i;rw[Dq];refine⟨?_,h.vault.fr j⟩;rw[cell_of_row _ _ _ _ _ _ h.vault.blk];have:j<(Fw x.d v).length:=by simp[Fw,h.vault.ul];omega
  simp[this]
 have f:=Aa c;have g:=Aa (all_oneCell_toArray (Av3 x.d));have a:=Aa h;clear h c;go_enter Tryz.func55,Tryz.ntmps55;go_wp2_with (refine wpList_store_mid rfl 64 _ _ rfl b 0 (Fw x.d Dr).toArray rfl (by kernel_rfl) f.o (by kernel_rfl) g.o ?_);have hk:Kp [b] w (w.setCells b 0 (Fw x.d Dr)):=(Kp.refl [b] w).setCells b 0 _ (.inl (by simp));have d:Bz (w.setCells b 0 (Fw x.d Dr)) b x.d Dr:=⟨Agf a.o.vault.blk _ (by simp[Fw,a.o.vault.ul,Dr]),by simp[Dr]⟩;go_end0;exact⟨rfl,a.o.ofVault hk d,hk⟩
theorem A4b (x:DX)(b:Nat)(m:DM)(v:VM)(wv:Value)(w:World)(h:Ai w x b m v wv)(a:v.opened=true):
  Cl 28 #[.pointer (some ⟨b,0,none⟩)] w fun e w'=>e=.returned (.int .i64 0)/\Ai w' x b m Dr wv/\Kp [b] w w':=by
 have c1:=h.vault.c1;rw[a]at c1;have c:=Aa (Ann x b m v wv w h);clear h;go_enter Tryz.func28,Tryz.ntmps28;go_wp2_with fail;refine c.o.mono ?_;rintro e w1 ⟨rfl,h1,k1⟩;have d:=Aa (Ab h1 k1);clear h1 k1;go_wp2_with fail;go_ret;exact⟨rfl,d.o⟩
theorem As5 {P:Program}{f:Func}{t p:Tmp}{e:TypeId}(h:f.results= #[.tmp t,.cell p e])(a:Array Value)(w:World)(b c:Nat)(cs:List Value)(d:TypeDesc)(v:Value)
  (g:a.getD t undef=v) (i:a.getD p undef=.pointer (some ⟨b,c,none⟩)) (j:w.rangeAt b c cs)
  (l:P.underlying e=some d) (hd:d.isRow=true) (n:(P.info? e).map (·.size)=some cs.length):
  (results f a).run P w=.ok (.tuple #[v,.agg cs.toArray]) w:=by
 have m:a[p]?.getD undef=.pointer (some ⟨b,c,none⟩):=by simpa using i
 have k:a[t]?.getD undef=v:=by simpa using g
 simp[results,h,m,k,asAddr,run_loadVar_mid w b c e cs d j l hd n]
def Bs (t:By):By:=(t.drop 4).take 16
def Eq (t:By):Nat:=(t.getD 28 0).toNat
def Pb (t:By):By:=(t.drop 29).take 32
theorem Axk (t:By)(w:World)(N:t.length=256):
  Cl 105 #[.string ⟨t.toArray⟩] w fun e w'=>e=.returned (.tuple #[Ac (Bs t),.agg #[.int .i64 (Eq t),Ac (Pb t)]])/\Bw w w':=by
 obtain⟨w0,q⟩:=nmd ((w.alloc (.cells #[.int .i64 0,.string ⟨#[]⟩] 60)).alloc (.cells #[Ac t,.int .i64 0,.bool false] 187));have a9:w0.heap.size=w.heap.size+2:=by rw[<-q];simp
 have ab:Bw w w0:=q▸((Ah _ _).alloc (Ak _) _).alloc (by simp) _;have al:w0.heap[w.heap.size]?=some (.cells #[.int .i64 0,.string ⟨#[]⟩] 60 (0,0)):=q▸(((Kp.refl [] _).alloc _).block _ (by simp) (by simp)).trans (heap_alloc_new w _)
 have X:Bv w0 (w.heap.size+1) t 0 false:=⟨by
  have:=heap_alloc_new (w.alloc (.cells #[.int .i64 0,.string ⟨#[]⟩] 60)) (.cells #[Ac t,.int .i64 0,.bool false] 187);rw[World.size_alloc]at this
  rw[<-q];exact this⟩
 have k:=Aa N;have V:=Aa (Yo (w.heap.size+1) t 0 4 false w0 X (by omega) (by omega));have m:=Aa (Ab ab al);have K:=Aa q;clear X ab al q N;go_enter Tryz.func105,Tryz.ntmps105;go_wp2_with fail;rw[K.o];refine V.o.mono ?_;rintro e w1 ⟨rfl,Z,k1⟩;have T:=Aa (Yo (w.heap.size+1) t 4 16 false w1 Z (by rw[k.o];decide) (by rw[k.o];decide));clear Z V K;go_wp2_with fail;refine T.o.mono ?_;rintro e w2 ⟨rfl,J,ad⟩;have U:=Aa (Yo (w.heap.size+1) t 20 8 false w2 J (by rw[k.o];decide) (by rw[k.o];decide));clear J T;go_wp2_with fail;refine U.o.mono ?_;rintro e a ⟨rfl,D,am⟩;have f:=(k1.trans ad).trans am;have a8:=f.size;obtain⟨r,v⟩:=nmd (a.alloc (.cells #[.int .i64 0,.string ⟨#[]⟩] 60));have z:Bw a r:=v▸(Ah _ _).alloc (Ak _) _;have a5:r.heap.size=a.heap.size+1:=by rw[<-v];simp
 have R:r.heap[a.heap.size]?=some (.cells #[.int .i64 0,.string ⟨#[]⟩] 60 (0,0)):=v▸heap_alloc_new a _;have S:=D.of_block (z.block _ D.lt);have L:=Aa (Acy (w.heap.size+1) t 28 false r S (by rw[k.o];decide) (by rw[k.o];decide));have Q:=(z.block w.heap.size (by omega)).trans ((f.block w.heap.size (by omega) (by simp)).trans m.o.2);have O:Bw w r:=(⟨f.os.trans m.o.1.os,f.tape.trans m.o.1.tape,f.output.trans m.o.1.output,Hb m.o.1.size f.size,fun j o=>(f.block j (by omega) (by simp;omega)).trans (m.o.1.block j o)⟩:Bw w a).trans (z.mono (by omega));have h:=Aa (Ab Q (Ab R O));have P:=Aa v;clear D k1 ad am f z R S Q O v U m;go_wp2_with fail;rw[P.o];refine L.o.mono ?_;rintro e u ⟨rfl,af,d⟩;have I:Eq t=(t.getD 28 0).toNat:=rfl;generalize(t.getD 28 0).toNat=p at I⊢;have a7:=d.size;have aw:u.frozen? ⟨a.heap.size,0,none⟩=false:=by simp[World.frozen?,(d.block a.heap.size (by omega) (by simp;omega)).trans h.o.2.1]
 have F:=(d.block a.heap.size (by omega) (by simp;omega)).trans h.o.2.1;have aa:=(d.block w.heap.size (by omega) (by simp)).trans h.o.1;obtain⟨x,A⟩:=nmd (u.setCell ⟨a.heap.size,0,none⟩ (.int .i64 (p:Int)));have c:Kp [a.heap.size] u x:=A▸(Kp.refl _ u).setCell _ _ _ (.inl (by simp));have E:=Cx F 0 (.int .i64 (p:Int));rw[A]at E;have ae:=af.of_block (c.block (w.heap.size+1) (by omega) (by simp;omega));have ac:=Aa (Yo (w.heap.size+1) t 29 32 false x ae (by rw[k.o];decide) (by rw[k.o];decide));have ap:u.cell? ⟨a.heap.size,0,none⟩=some (.int .i64 0):=crw F rfl;have M:=Aa A;have Y:Bw w x:=⟨c.os.trans (d.os.trans h.o.2.2.os),c.tape.trans (d.tape.trans h.o.2.2.tape),c.output.trans (d.output.trans h.o.2.2.output),by have:=c.size;omega,fun j o=>(c.block j (by omega) (by simp;omega)).trans ((d.block j (by omega) (by simp;omega)).trans (h.o.2.2.block j o))⟩;have ai:=(c.block w.heap.size (by omega) (by simp;omega)).trans aa;have ba:a.heap.size+1<=x.heap.size:=by have:=c.size;omega
 have n:=Aa (Ab ai (Ab E Y));clear F aa af c E ae Y ai A L P h d;go_wp2_with fail;rw[M.o];refine ac.o.mono ?_;rintro e w7 ⟨rfl,ax,g⟩;have a6:=g.size;have W:=(g.block w.heap.size (by omega) (by simp)).trans n.o.1;have y:=(g.block a.heap.size (by omega) (by simp;omega)).trans n.o.2.1;have s:Bw w w7:=⟨g.os.trans n.o.2.2.os,g.tape.trans n.o.2.2.tape,g.output.trans n.o.2.2.output,by omega,fun j o=>(g.block j (by omega) (by simp;omega)).trans (n.o.2.2.block j o)⟩;have a1:w7.frozen? ⟨a.heap.size,1,none⟩=false:=by simp[World.frozen?,y]
 have ar:w7.cell? ⟨a.heap.size,1,none⟩=some (.string ⟨#[]⟩):=crw y rfl;obtain⟨b,C⟩:=nmd (w7.setCell ⟨a.heap.size,1,none⟩ (Ac ((t.drop 29).take 32)));have G:=Cx y 1 (Ac ((t.drop 29).take 32));rw[C]at G;have k8:Kp [a.heap.size] w7 b:=C▸(Kp.refl _ w7).setCell _ _ _ (.inl (by simp));have ah:=(k8.block w.heap.size (by omega) (by simp;omega)).trans W;have an:Bw w b:=⟨k8.os.trans s.os,k8.tape.trans s.tape,k8.output.trans s.output,by have:=k8.size;omega,fun j o=>(k8.block j (by omega) (by simp;omega)).trans (s.block j o)⟩;have i:=Aa (Ab ah (Ab G an));have ao:=Aa C;clear W y s ax g ah an G k8 C ac M n;go_wp2_with fail;rw[ao.o];clear ao ar a1 ap aw;have av:b.cell? ⟨a.heap.size,0,none⟩=some (.int .i64 (p:Int)):=by rw[cell_of_row _ _ _ _ _ _ i.o.2.1];simp
 have a0:b.cell? ⟨a.heap.size,1,none⟩=some (Ac ((t.drop 29).take 32)):=by rw[cell_of_row _ _ _ _ _ _ i.o.2.1];simp
 have aq:b.cell? ⟨w.heap.size,0,none⟩=some (.int .i64 0):=by rw[cell_of_row _ _ _ _ _ _ i.o.1];simp
 have a3:b.cell? ⟨w.heap.size,1,none⟩=some (.string ⟨#[]⟩):=by rw[cell_of_row _ _ _ _ _ _ i.o.1];simp
 have au:b.frozen? ⟨w.heap.size,0,none⟩=false:=by simp[World.frozen?,i.o.1]
 have ay:b.frozen? ⟨w.heap.size,1,none⟩=false:=by simp[World.frozen?,i.o.1]
 go_region
 have a2:=Aa I;have ag:=Cx (Cx i.o.1 0 (.int .i64 (p:Int))) 1 (Ac ((t.drop 29).take 32));have aj:Bw w ((b.setCell ⟨w.heap.size,0,none⟩ (.int .i64 (p:Int))).setCell ⟨w.heap.size,1,none⟩ (Ac ((t.drop 29).take 32))):=(i.o.2.2.setCell (p:=⟨w.heap.size,0,none⟩) (Ak _) _).setCell (p:=⟨w.heap.size,1,none⟩) (Ak _) _;obtain⟨ak,H⟩:=nmd (((b.setCell ⟨w.heap.size,0,none⟩ (.int .i64 (p:Int))).setCell ⟨w.heap.size,1,none⟩ (Ac ((t.drop 29).take 32))).drew);have az:ak.heap[w.heap.size]?=some (.cells #[.int .i64 (p:Int),Ac ((t.drop 29).take 32)] 60 (0,0)):=by rw[<-H];exact ag
 have a4:Bw w ak:=H▸aj.drew;clear av a0 aq a3 au ay ag aj;rw[show ∀l:By,Value.string {data:=l.toArray}=Ac l from fun _=>rfl,H];go_wp2_with fail;exact bodyPost_ret (As5 Tryz.results105 _ _ w.heap.size 0 [.int .i64 (p:Int),Ac ((t.drop 29).take 32)] _ (Ac ((t.drop 4).take 16)) rfl rfl (Xd az) Tryz.underlying60 rfl (by kernel_rfl)) rfl ⟨by rw[a2.o];rfl,a4⟩
theorem Ate (t s:By)(w:World)(b:t.length=256):
  Cl 106 #[.string ⟨t.toArray⟩,.string ⟨s.toArray⟩] w fun e w'=>e=.returned (.bool (Ar (t.take 128) 256==s))/\Bw w w':=by
 have d:(ByteArray.mk t.toArray).size=256:=b;have c:=Aa (fun w=>Aa9 (t.take 128) 256 w (by decide));go_enter Tryz.func106,Tryz.ntmps106;go_wp2_with fail
 rw[show(ByteArray.mk t.toArray).extract 0 128=⟨(t.take 128).toArray⟩from by
  apply ByteArray.ext
  simp[ByteArray.data_extract]]
 refine(c.o w).mono ?_;rintro e w1 ⟨rfl,a⟩;go_wp2_with fail;go_ret;exact⟨rfl,a⟩
theorem DM.look_write_same (m:DM)(k:Nat)(t:By)(hk:k<m.cache.length)(a:t≠[]):(m.write k t).look k=t:=by simp[DM.look,DM.write,hk,a]
theorem DM.look_write_ne (m:DM)(k j:Nat)(t:By)(h:k≠j):(m.write k t).look j=m.look j:=by simp[DM.look,DM.write,h]
theorem DM.look_flush (m:DM)(k:Nat)(hk:k<m.blocks.length):m.flush.look k=m.look k:=by
 have h1:m.flush.cache.getD k []=[]:=by simp[DM.flush,hk]
 have h2:m.flush.blocks.getD k []=m.look k:=by simp[DM.flush,hk]
 unfold DM.look at*;rw[h1,if_pos rfl];exact h2
theorem DM.look_settle (m:DM)(k:Nat)(hk:k<m.blocks.length):m.settle.look k=m.look k:=m.look_flush k hk
def Ew (pass t:By)(n:Nat):Bool:=Ar (t.take 128) 256==Ci (Bn pass (Bs t)) (Bs t) n (Eq t) (Pb t)
def VM.taken (v:VM)(t:By)(bt bp:Nat):VM:={v with salt:=Bs t,tv:=.pointer (some ⟨bt,0,none⟩),pv:=.pointer (some ⟨bp,0,none⟩),place:=if Eq t=0 then v.place else Eq t,digest:=if Eq t=0 then v.digest else Pb t}
theorem Zl {t:By}(a:t.length=256):(Bs t).length=16:=by simp[Bs,a]
theorem A2t (x:DX)(b:Nat)(m:DM)(v:VM)(wv:Value)(pass t:By)(n:Nat)(w:World)(h:Ai w x b m v wv)(aa:pass.length<=40)(P:t.length=256)(aq:n<9223372036854775808):
  Cl 84 #[.pointer (some ⟨b,0,none⟩),.string ⟨pass.toArray⟩,.string ⟨t.toArray⟩,.int .i64 n] w fun e w'=>e=.returned (.bool (Ew pass t n))/\Kp [b] w w'/\
   (Ew pass t n=false->Ai w' x b m v wv)/\
   (Ew pass t n=true->∃bt bp,Ai w' x b m (v.taken t bt bp) wv/\Ln w' bt (Bn pass (Bs t))/\Eh w' bp (Fc (Ge pass (Bs t)))/\w.heap.size<=bt/\bt<bp):=by
 have T:=Zl P;have Z:Eq t<256:=by simpa [Eq]using(t.getD 28 0).toNat_lt
 have a6:=Aa Z;have G:=Aa h;have ad:=Aa (Axk t w P);have aw:=Aa (fun s w=>Ate t s w P);have ar:=Aa (fun w hk h0=>Akk pass (Bs t) w hk h0 aa T);have am:=Aa (fun bt pv w a5 hk=>Aka bt pv (Bn pass (Bs t)) (Bs t) (Pb t) n (Eq t) w a5 hk T aq (by have:=a6.o;omega));clear h aa aq T Z;have a3:Ew pass t n=(Ar (t.take 128) 256==Ci (Bn pass (Bs t)) (Bs t) n (Eq t) (Pb t)):=rfl;have bk:=G.o.vault.lt;generalize ab:Bs t=salt at*;generalize a2:Pb t=dig at*;generalize ah:Eq t=p at*;go_enter Tryz.func84,Tryz.ntmps84;go_wp2_with fail;refine ad.o.mono ?_;rintro e w0 ⟨rfl,av⟩;have W:=Aa av;clear av ad;go_wp2_with fail;obtain⟨w1,r⟩:=nmd (w0.alloc (.cells #[.int .i64 (p:Int),Ac dig] 60));have au:w1.heap[w0.heap.size]?=some (.cells #[.int .i64 (p:Int),Ac dig] 60 (0,0)):=r▸heap_alloc_new w0 _;have bn:w1.heap.size=w0.heap.size+1:=by rw[<-r];simp
 have a7:w.heap.size<=w0.heap.size:=W.o.size;have O:Bw w w1:=r▸W.o.alloc a7 _;have s1:=G.o.later O;have an:=Aa (ar.o w1 s1.hk s1.h0);have V:=Aa (Ab au (Ab O s1));have ay:=Aa r;clear au O s1 r ar W;rw[show ∀l:By,Value.string {data:=l.toArray}=Ac l from fun _=>rfl];rw[ay.o];refine an.o.mono ?_;rintro e w2 ⟨bt,bp,rfl,N,Y,az,ag,I⟩;obtain⟨f,q⟩:=nmd (w2.alloc (.cells #[.pointer (some ⟨bt,0,none⟩),.pointer (some ⟨bp,0,none⟩)] 58));have bb:=I.size;have bi:f.heap.size=w2.heap.size+1:=by rw[<-q];simp
 have u:Bw w2 f:=q▸(Ah _ _).alloc (Ak _) _;have C:f.heap[w2.heap.size]?=some (.cells #[.pointer (some ⟨bt,0,none⟩),.pointer (some ⟨bp,0,none⟩)] 58 (0,0)):=q▸heap_alloc_new w2 _;have E:=(u.block w0.heap.size (by omega)).trans ((I.block w0.heap.size (by omega)).trans V.o.1);have Q:=N.of_block (u.block bt N.lt);have ae:=Y.of_block (u.block bp Y.lt) (by omega);have R:Bw w f:=(V.o.2.1.trans (I.mono (by omega))).trans (u.mono (by omega));have ao:=G.o.later R;have ai:=Aa (am.o bt (.pointer (some ⟨bp,0,none⟩)) f Q ao.hk);have ba:f.cell? ⟨w2.heap.size,0,none⟩=some (.pointer (some ⟨bt,0,none⟩)):=crw C rfl;have a4:f.cell? ⟨w2.heap.size,1,none⟩=some (.pointer (some ⟨bp,0,none⟩)):=crw C rfl;have a9:f.cell? ⟨w0.heap.size,0,none⟩=some (.int .i64 (p:Int)):=crw E rfl;have a8:f.cell? ⟨w0.heap.size,1,none⟩=some (Ac dig):=crw E rfl;have g:=Aa (Ab C (Ab E (Ab Q (Ab ae R))));have ap:=Aa q;have j:=Aa (Ab az ag);clear N Y az ag I u C E Q ae R ao am V ay an q;go_wp2_with (rw[ap.o]);refine ai.o.mono ?_;rintro e a0 ⟨rfl,D⟩;have bd:=D.size;have ac:=g.o.2.2.2.2.trans (D.mono (by omega));have ax:=Aa (aw.o (Ci (Bn pass salt) salt n p dig) a0);have J:=Aa (Ab D ac);clear D ac ba a4 a9 a8 ai aw ap;go_wp2_with fail;refine ax.o.mono ?_;rintro e i ⟨rfl,L⟩;rw[<-a3];have bh:=L.size;have a:=G.o.later (J.o.2.trans (L.mono (by omega)));have y:=J.o.1.trans (L.mono (by omega));have F:=J.o.2.trans (L.mono (by omega));have H:=(y.block w2.heap.size (by omega)).trans g.o.1;have K:=(y.block w0.heap.size (by omega)).trans g.o.2.1;have S:=g.o.2.2.1.of_block (y.block bt g.o.2.2.1.lt);have X:=g.o.2.2.2.1.of_block (y.block bp g.o.2.2.2.1.lt) (by omega);clear y J ax g
 cases k:Ew pass t n with
 |false=>have ak:=Aa (Ab F a);clear F a H K S X;go_wp2_with fail;go_ret;exact⟨by rw[k];rfl,Kp.of_below ak.o.1,fun _=>ak.o.2,fun e=>by rw[k]at e;cases e⟩
 |true=>
  have bs:i.cell? ⟨w2.heap.size,0,none⟩=some (.pointer (some ⟨bt,0,none⟩)):=crw H rfl;have bo:i.cell? ⟨w2.heap.size,1,none⟩=some (.pointer (some ⟨bp,0,none⟩)):=crw H rfl;have bf:i.cell? ⟨w0.heap.size,0,none⟩=some (.int .i64 (p:Int)):=crw K rfl;have bq:i.cell? ⟨w0.heap.size,1,none⟩=some (Ac dig):=crw K rfl;have n2:(⟨w2.heap.size,0,none⟩:Addr)≠⟨b,2,none⟩:=by intro e;injection e;omega
  have bm:=a.vault.c2;have bg:=a.vault.c3;have bj:=a.vault.c4;have br:=a.vault.c8;have be:=a.vault.c9;have u2:=a.vault.fr 2;have u3:=a.vault.fr 3;have u4:=a.vault.fr 4;have u8:=a.vault.fr 8;have u9:=a.vault.fr 9;have bl:w2.heap.size≠b:=by omega
  have bc:w0.heap.size≠b:=by omega
  have d:=Aa (Ab F (Ab a (Ab S X)));clear H K a F S X;have A:=((d.o.2.1.vault.set2 salt).set3 (.pointer (some ⟨bt,0,none⟩))).set4 (.pointer (some ⟨bp,0,none⟩));have M:Kp [b] i (((i.setCell ⟨b,2,none⟩ (Ac salt)).setCell ⟨b,3,none⟩ (.pointer (some ⟨bt,0,none⟩))).setCell ⟨b,4,none⟩ (.pointer (some ⟨bp,0,none⟩))):=(((Kp.refl _ _).setCell b 2 _ (.inl (by simp))).setCell b 3 _ (.inl (by simp))).setCell b 4 _ (.inl (by simp));have al:=Aa (show Kp [b] w i from Kp.of_below d.o.1);have z:=Aa (Ab (show bt≠b from by have:=j.o.1;omega) (show bp≠b from by have:=j.o;omega));by_cases o:p=0
  ·have a1:((p:Int)!=0)=false:=by simp[o]
   have c:=Aa (Ab A M);have U:=Aa o;clear A M o;go_wp2_with fail;go_ret;refine⟨by rw[k];rfl,al.o.trans c.o.2,(fun e=>by rw[k]at e;cases e),fun _=>⟨bt,bp,?_,?_,?_,?_,j.o.2⟩⟩
   ·exact(show v.taken t bt bp=_ from by simp[VM.taken,ab,ah,U.o];rfl)▸d.o.2.1.ofVault c.o.2 c.o.1
   ·exact d.o.2.2.1.of_block (c.o.2.block bt d.o.2.2.1.lt (by simpa using z.o.1))
   ·exact d.o.2.2.2.of_block (c.o.2.block bp d.o.2.2.2.lt (by simpa using z.o.2)) c.o.2.size
   ·have:=j.o.1;omega
  ·have a1:((p:Int)!=0)=true:=by simp;exact o
   have aj:=(A.set8 p).set9 dig;have af:=(M.setCell b 8 (.int .i64 (p:Int)) (.inl (by simp))).setCell b 9 (Ac dig) (.inl (by simp));have c:=Aa (Ab aj af);have U:=Aa o;clear A M aj af o;go_wp2_with fail;go_ret;refine⟨by rw[k];rfl,al.o.trans c.o.2,(fun e=>by rw[k]at e;cases e),fun _=>⟨bt,bp,?_,?_,?_,?_,j.o.2⟩⟩
   ·exact(show v.taken t bt bp=_ from by simp[VM.taken,ab,a2,ah,U.o];rfl)▸d.o.2.1.ofVault c.o.2 c.o.1
   ·exact d.o.2.2.1.of_block (c.o.2.block bt d.o.2.2.1.lt (by simpa using z.o.1))
   ·exact d.o.2.2.2.of_block (c.o.2.block bp d.o.2.2.2.lt (by simpa using z.o.2)) c.o.2.size
   ·have:=j.o.1;omega
def Vm (pass:By)(m:DM)(c:Nat):Option Nat:=if Ew pass (m.look ((c+1)%2)) (c+1)then some (c+1)else if Ew pass (m.look (c%2)) c then some c else none
def Am8 (w w':World)(x:DX)(b:Nat)(m:DM)(v:VM)(wv:Value)(pass:By)(n:Nat):Prop:=
 ∃bt bp,Ai w' x b m (v.taken (m.look (n%2)) bt bp) wv/\Ln w' bt (Bn pass (Bs (m.look (n%2))))/\Eh w' bp (Fc (Ge pass (Bs (m.look (n%2)))))/\w.heap.size<=bt/\bt<bp
theorem Aup (x:DX)(b:Nat)(m:DM)(v:VM)(wv:Value)(pass:By)(c:Nat)(w:World)(h:Ai w x b m v wv)(J:pass.length<=40)(h0:(m.look 0).length=256)(h1:(m.look 1).length=256)(W:2<=m.blocks.length)(U:c<=2000000):
  Cl 53 #[.pointer (some ⟨b,0,none⟩),.string ⟨pass.toArray⟩,.int .i64 c] w fun e w'=>Kp [b] w w'/\
   ((Vm pass m c=none/\e=.returned (.tuple #[.int .i64 0,.int .i64 8])/\Ai w' x b m v wv)\/
    (∃n,Vm pass m c=some n/\n%2<2/\e=.returned (.tuple #[.int .i64 n,.int .i64 0])/\Am8 w w' x b m v wv pass n)):=by
 have c0:=h.vault.c0;have O:=Aa (Afn x m wv 0 w h.disk (by omega));have K:=Aa (Afn x m wv 1 w h.disk (by omega));have V:=Aa (fun t n w h a r=>A2t x b m v wv pass t n w h J a r);have P:=Aa h;clear h W J;generalize H:m.look 0=t0 at*;generalize G:m.look 1=t1 at*;go_enter Tryz.func53,Tryz.ntmps53;go_wp2_with fail;refine O.o.mono ?_;rintro e w1 ⟨rfl,q⟩;rw[q];clear q w1;go_wp2_with fail;refine K.o.mono ?_;rintro e w1 ⟨rfl,q⟩;rw[q];clear q w1;go_wp2_with fail
 go_loopw [9,11,12] (fun _ i _ wr=>∃k:Nat,k<=2/\i=.int .i64 ((c:Int)+1-k)/\(1<=k->Ew pass (m.look ((c+1)%2)) (c+1)=false)/\(2<=k->Ew pass (m.look (c%2)) c=false)/\Ai wr x b m v wv/\Kp [b] w wr) (fun _ i _ _=>(intOf i+2-c).toNat)
 case atStart=>exact⟨0,by omega,by simp,by omega,by omega,P.o,Kp.refl _ _⟩
 case round=>
  obtain⟨k,hk,rfl,g,s,p,d⟩:=hrel;by_cases E:k=2
  ·subst E;have hd:decide ((c:Int)<=(c:Int)+1-((2:Nat):Int))=false:=by simp;omega
   have D:=Aa (Ab (g (by omega)) (Ab (s (by omega)) (Ab p d)));clear g s p d;go_wp2_with fail;go_ret2;exact⟨D.o.2.2.2,.inl ⟨by simp[Vm,D.o.1,D.o.2.1],rfl,D.o.2.2.1⟩⟩
  ·obtain⟨n,r⟩:=nmd (c+1-k);have I:(c:Int)+1-(k:Int)=(n:Int):=by omega
   have hd:decide (c<=n)=true:=by simp;omega
   rw[I];have N:n<9223372036854775808:=by omega
   obtain⟨t,a⟩:=nmd (m.look (n%2))
   have L:t.length=256:=by
    rcases Nat.mod_two_eq_zero_or_one n with e|e
    ·rw[<-a,e,H];exact h0
    ·rw[<-a,e,G];exact h1
   have C:=Aa (V.o t n wr p L N);have u:=Aa (Ab r (Ab a (Ab g (Ab s (Ab p d)))));have X:(n:Int)<=2000001:=by omega
   have Q:=Aa (Ab E hk);have M:=Aa (Ab H G);have Y:=Aa (Ab h0 h1);clear r a g s p d L N I E hk H G h0 h1 U O K
   have step:∀w2:World,Kp [b] wr w2/\(Ew pass t n=false->Ai w2 x b m v wv)/\(Ew pass t n=true->∃bt bp,Ai w2 x b m (v.taken t bt bp) wv/\Ln w2 bt (Bn pass (Bs t))/\Eh w2 bp (Fc (Ge pass (Bs t)))/\wr.heap.size<=bt/\bt<bp)->
     (Ew pass t n=true->Kp [b] w w2/\Vm pass m c=some n/\Am8 w w2 x b m v wv pass n)/\
     (Ew pass t n=false->∃f:Nat,f<=2/\(n:Int)-1=(c:Int)+1-f/\(1<=f->Ew pass (m.look ((c+1)%2)) (c+1)=false)/\(2<=f->Ew pass (m.look (c%2)) c=false)/\Ai w2 x b m v wv/\Kp [b] w w2):=by
    intro w2 ⟨hk2',hfa,htr⟩;obtain⟨r,a,g,s,p,d⟩:=u.o;obtain⟨E,hk⟩:=Q.o;refine⟨fun e=>⟨d.trans hk2',?_,?_⟩,fun e=>⟨k+1,by omega,by omega,?_,?_,hfa e,d.trans hk2'⟩⟩
    ·have:k=0\/k=1:=by omega
     rcases this with rfl|rfl
     ·obtain rfl:n=c+1:=by omega
      simp[Vm,a,e]
     ·obtain rfl:n=c:=by omega
      simp[Vm,g (by omega),a,e]
    ·obtain⟨bt,bp,h1,h2,S,Z,R⟩:=htr e;have:=d.size;exact⟨bt,bp,a▸h1,a▸h2,a▸S,by omega,R⟩
    ·intro _;by_cases aa:k=0
     ·obtain rfl:n=c+1:=by omega
      rw[a];exact e
     ·exact g (by omega)
    ·intro _;obtain rfl:n=c:=by omega
     rw[a];exact e
   have F:=Aa step;clear step;rcases Nat.mod_two_eq_zero_or_one n with y|y
   ·have T:((n:Int)%2==1)=false:=by rw[beq_eq_false_iff_ne];omega
    obtain rfl:t0=t:=M.o.1.symm.trans (y▸u.o.2.1);clear y;go_wp2_with fail;refine C.o.mono ?_;rintro e w2 ⟨rfl,hr⟩;have z:=Aa (F.o w2 hr);clear hr F C
    cases A:Ew pass t0 n with
    |true=>go_wp2_with fail;go_ret2;obtain⟨l,j,o⟩:=z.o.1 A;exact⟨l,.inr ⟨n,j,Gs _ (by decide),rfl,o⟩⟩
    |false=>go_wp2_with fail;obtain⟨f,l,j,o⟩:=z.o.2 A;have:=u.o.1;exact⟨⟨f,l,by rw[j],o⟩,by simp[intOf];omega⟩
   ·have T:((n:Int)%2==1)=true:=by rw[beq_iff_eq];omega
    obtain rfl:t1=t:=M.o.2.symm.trans (y▸u.o.2.1);clear y;go_wp2_with fail;refine C.o.mono ?_;rintro e w2 ⟨rfl,hr⟩;have z:=Aa (F.o w2 hr);clear hr F C
    cases A:Ew pass t1 n with
    |true=>go_wp2_with fail;go_ret2;obtain⟨l,j,o⟩:=z.o.1 A;exact⟨l,.inr ⟨n,j,Gs _ (by decide),rfl,o⟩⟩
    |false=>go_wp2_with fail;obtain⟨f,l,j,o⟩:=z.o.2 A;have:=u.o.1;exact⟨⟨f,l,by rw[j],o⟩,by simp[intOf];omega⟩
theorem Aaz (k t:By):(Jk k t).length=32:=Ain k t
theorem Vj (salt:By)(v p:Nat)(d:By)(a:salt.length=16):(Fn salt v p d).length=61:=by simp[Fn,Gq,Cb,Jm,a]
theorem Aiq (tk salt:By)(v p:Nat)(d:By)(a:salt.length=16):Ci tk salt v p d=Fn salt v p d++(Jk tk (Fn salt v p d)++List.replicate 163 0):=by unfold Ci;rw[Aet _ _ (by rw[Bb,Vj _ _ _ _ a,Aaz];decide),Bb,Vj _ _ _ _ a,Aaz,Cw]
theorem Amz (tk salt:By)(v p:Nat)(d:By)(a:salt.length=16):(Ci tk salt v p d).take 61=Fn salt v p d:=by rw[Aiq _ _ _ _ _ a,Sj (by rw[Vj _ _ _ _ a];omega),Du (by rw[Vj _ _ _ _ a];omega)]
theorem A09 (tk salt:By)(v p:Nat)(d:By)(a:salt.length=16):((Ci tk salt v p d).drop 61).take 32=Jk tk (Fn salt v p d):=by rw[Aiq _ _ _ _ _ a,Oo (by rw[Vj _ _ _ _ a];omega),Io (by rw[Vj _ _ _ _ a];omega),Hu,Sj (by rw[Aaz];omega),Du (by rw[Aaz];omega)]
theorem Atm (tk salt:By)(v p:Nat)(d:By)(a:salt.length=16):(Ci tk salt v p d).drop 93=List.replicate 163 0:=by
 have b:(Fn salt v p d++Jk tk (Fn salt v p d)).length=93:=by rw[Bb,Vj _ _ _ _ a,Aaz]
 rw[Aiq _ _ _ _ _ a,<-Cw,Oo (by omega),Io (by omega),Hu]
theorem Ac1 {t u:By}{n a b:Nat}(h:t.take n=u.take n)(c:a+b<=n):(t.drop a).take b=(u.drop a).take b:=by
 have e:∀l:By,(l.drop a).take b=(((l.take n).drop a)).take b:=fun l=>by rw[List.drop_take,List.take_take,Ss (by omega)]
 rw[e t,e u,h]
theorem Asm (salt:By)(v p:Nat)(d:By)(a:salt.length=16):((Fn salt v p d).drop 4).take 16=salt:=by
 have:Fn salt v p d=Gq++(salt++(Af v 8++Af p 1++Ar d 32)):=by simp[Fn]
 rw[this,Oo (by simp[Gq]),Io (by simp[Gq]),Hu,Sj (by omega),Du (by omega)]
theorem Ags (salt:By)(v p:Nat)(d:By)(a:salt.length=16):((Fn salt v p d).drop 20).take 8=Af v 8:=by
 have:Fn salt v p d=(Gq++salt)++(Af v 8++(Af p 1++Ar d 32)):=by simp[Fn]
 rw[this,Oo (by simp[Gq,a]),Io (by simp[Gq,a]),Hu,Sj (by rw[Cb];omega),Du (by rw[Cb];omega)]
theorem Ayj (salt:By)(v p:Nat)(d:By)(a:salt.length=16):((Fn salt v p d).drop 28).take 1=Af p 1:=by
 have:Fn salt v p d=(Gq++salt++Af v 8)++(Af p 1++Ar d 32):=by simp[Fn]
 rw[this,Oo (by simp[Gq,a,Cb]),Io (by simp[Gq,a,Cb]),Hu,Sj (by rw[Cb];omega),Du (by rw[Cb];omega)]
theorem Awg (salt:By)(v p:Nat)(d:By)(a:salt.length=16):((Fn salt v p d).drop 29).take 32=Ar d 32:=by
 have:Fn salt v p d=(Gq++salt++Af v 8++Af p 1)++Ar d 32:=by simp[Fn]
 rw[this,Oo (by simp[Gq,a,Cb]),Io (by simp[Gq,a,Cb]),Hu,Du (by rw[Jm];omega)]
theorem Aab (tk salt:By)(v p:Nat)(d:By)(c:salt.length=16)(a b:Nat)(h:a+b<=61):((Ci tk salt v p d).drop a).take b=((Fn salt v p d).drop a).take b:=
 Ac1 (n:=61) (by rw[Amz _ _ _ _ _ c,Du (by rw[Vj _ _ _ _ c];omega)]) h
theorem Alm (tk salt:By)(v p:Nat)(d:By)(a:salt.length=16):Bs (Ci tk salt v p d)=salt:=by unfold Bs;rw[Aab _ _ _ _ _ a 4 16 (by omega),Asm _ _ _ _ a]
theorem Ala (tk salt:By)(v p:Nat)(d:By)(a:salt.length=16):Pb (Ci tk salt v p d)=Ar d 32:=by unfold Pb;rw[Aab _ _ _ _ _ a 29 32 (by omega),Awg _ _ _ _ a]
theorem Atj (l:By)(a:Nat)(x:UInt8)(h:(l.drop a).take 1=[x]):l.getD a 0=x:=by
 have:(l.drop a)[0]?=some x:=by have e:=congrArg (fun z=>z[0]?) h;simpa using e
 rw[Sm]at this;simp at this;simp[this]
theorem Ait (tk salt:By)(v p:Nat)(d:By)(a:salt.length=16)(b:p<256):Eq (Ci tk salt v p d)=p:=by unfold Eq;have h:=Aab tk salt v p d a 28 1 (by omega);rw[Ayj _ _ _ _ a,Zb]at h;rw[Atj _ _ _ h];simp;omega
theorem Adx (pass t:By)(n:Nat)(c:t.length=256):Ew pass t n=true↔t.take 128=(Ci (Bn pass (Bs t)) (Bs t) n (Eq t) (Pb t)).take 128:=by
 have a:=Zl c
 have b:∀S:By,S.length=256->S.drop 128=List.replicate 128 0->(Ar (t.take 128) 256=S↔t.take 128=S.take 128):=fun S d hd=>by
  have h1:(t.take 128).length=128:=by rw[Fr];omega
  rw[Aet _ _ (by omega),h1];constructor
  ·intro e;rw[<-e,Sj (by omega),List.take_take,Nat.min_self]
  ·intro e;rw[e,<-hd,Jb]
 unfold Ew;rw[beq_iff_eq];refine b _ (Oj _ _ _ _ _) ?_;have:=congrArg (List.drop 35) (Atm (Bn pass (Bs t)) (Bs t) n (Eq t) (Pb t) a);rw[Wc,List.drop_replicate]at this;exact this
theorem Alo {pass t:By}{n:Nat}(d:t.length=256)(h:Ew pass t n=true):(Jk (Bn pass (Bs t)) (t.take 61)==(t.drop 61).take 32)=true:=by
 have c:=Zl d;rw[Adx _ _ _ d]at h
 have h1:t.take 61=Fn (Bs t) n (Eq t) (Pb t):=by have:=Ac1 (a:=0) (b:=61) h (by omega);rw[List.drop_zero,List.drop_zero,Amz _ _ _ _ _ c]at this;exact this
 have h2:(t.drop 61).take 32=Jk (Bn pass (Bs t)) (Fn (Bs t) n (Eq t) (Pb t)):=by rw[Ac1 (a:=61) (b:=32) h (by omega),A09 _ _ _ _ _ c]
 rw[h1,h2];simp
theorem Aoz {pass t:By}{n:Nat}(d:t.length=256)(h:Ew pass t n=true):(t.drop 20).take 8=Af n 8:=by have c:=Zl d;rw[Adx _ _ _ d]at h;rw[Ac1 (a:=20) (b:=8) h (by omega),Aab _ _ _ _ _ c 20 8 (by omega),Ags _ _ _ _ c]
theorem Aoe (pass tk salt:By)(v p:Nat)(d:By)(n:Nat)(a:salt.length=16)(c:v<256^8)(e:n<256^8)(b:v≠n):Ew pass (Ci tk salt v p d) n=false:=by
 cases h:Ew pass (Ci tk salt v p d) n with
 |false=>rfl
 |true=>have:=Aoz (Oj _ _ _ _ _) h;rw[Aab _ _ _ _ _ a 20 8 (by omega),Ags _ _ _ _ a]at this;exact absurd (Agl 8 v n c e this) b
theorem Awt (pass salt:By)(v p:Nat)(d:By)(a:salt.length=16)(b:p<256)(hd:d.length=32):Ew pass (Ci (Bn pass salt) salt v p d) v=true:=by rw[Adx _ _ _ (Oj _ _ _ _ _),Alm _ _ _ _ _ a,Ait _ _ _ _ _ a b,Ala _ _ _ _ _ a,Vh d 32 hd]
theorem Aw2 (x:DX)(b:Nat)(m:DM)(v:VM)(wv:Value)(p:Nat)(w:World)(h:Ai w x b m v wv):
  Cl 108 #[.pointer (some ⟨b,0,none⟩),.int .i64 p] w fun e w'=>e=.returned (.bool (v.used.getD p false))/\w'=w:=by
 by_cases c:p<48
 ·have d:=h.vault.cu p c;have hd:decide ((p:Int)<48)=true:=by simp;omega
  generalize v.used.getD p false=u at*;clear h;go_enter Tryz.func108,Tryz.ntmps108;go_wp2_with fail;go_ret;exact⟨rfl,rfl⟩
 ·have hd:decide ((p:Int)<48)=false:=by simp;omega
  have a:v.used.getD p false=false:=by simp[List.getD,Sk (show v.used.length<=p by rw[h.vault.ul];omega)]
  rw[a];clear h a;go_enter Tryz.func108,Tryz.ntmps108;go_wp2_with fail;go_ret;exact⟨rfl,rfl⟩
theorem Aul (x:DX)(b a:Nat)(m:DM)(v:VM)(wv:Value)(d:By)(p:Nat)(w:World)(h:Ai w x b m v wv)
  (f:w.cell? ⟨a,0,none⟩=some (.pointer (some ⟨b,0,none⟩))) (j:p<2\/m.blocks.length<=p):
  Cl 89 #[.pointer (some ⟨a,0,none⟩),.agg #[.int .i64 p,.string ⟨d.toArray⟩]] w fun e w'=>e=.returned (.tuple #[.pointer none,.int .i64 8])/\Bw w w':=by
 have q:a<w.heap.size:=by
  rcases Hv a w.heap.size with g|g
  ·exact g
  ·simp[World.cell?,Ot g]at f
 obtain⟨w0,i⟩:=nmd (w.alloc (.cells #[.int .i64 (p:Int),.string ⟨d.toArray⟩] 60));have c:Bw w w0:=i▸(Ah _ _).alloc (Ak _) _;have n:w0.heap[w.heap.size]?=some (.cells #[.int .i64 (p:Int),.string ⟨d.toArray⟩] 60 (0,0)):=i▸heap_alloc_new w _;have C:w0.cell? ⟨w.heap.size,0,none⟩=some (.int .i64 (p:Int)):=crw n rfl;have A:w0.cell? ⟨a,0,none⟩=some (.pointer (some ⟨b,0,none⟩)):=(c.cell (p:=⟨a,0,none⟩) q).trans f;have h0:=h.later c;have c0:=h0.vault.c0;have u:=h0.disk.c0;have l:=Aa (fun w (hd:w.cell? ⟨x.d,0,none⟩=some (.slice (some ⟨x.bb,0,none⟩) m.blocks.length x.cb))=>Ui x.d x.bb x.cb m.blocks.length w hd);have k:=Aa c;have s:=h.disk.le;have t:=h.disk.ge;clear h h0 n c f;by_cases r:p<2
 ·have o:decide ((p:Int)<2)=true:=by simp;omega
  clear j;go_enter Tryz.func89,Tryz.ntmps89;go_wp2_with fail;go_quiet (first|(go_at_call 38;refine Calls.quiet_of_same (l.o _ (by assumption))));go_wp2_with fail;go_ret2;exact⟨rfl,Bp k.o _⟩
 ·have o:decide ((p:Int)<2)=false:=by simp;omega
  have z:m.blocks.length<=p:=by omega
  have y:decide ((m.blocks.length:Int)<=(p:Int))=true:=by simp;omega
  clear j;generalize m.blocks.length=N at*;go_enter Tryz.func89,Tryz.ntmps89;go_wp2_with fail;go_quiet (first|(go_at_call 38;refine Calls.quiet_of_same (l.o _ (by assumption))));go_wp2_with fail;go_ret2;exact⟨rfl,Bp k.o _⟩
theorem Au0 (x:DX)(b a:Nat)(m:DM)(v:VM)(wv:Value)(d:By)(p lk:Nat)(w:World)(h:Ai w x b m v wv)
  (i:w.cell? ⟨a,0,none⟩=some (.pointer (some ⟨b,0,none⟩))) (j:w.cell? ⟨a,1,none⟩=some (.int .i64 lk)) (h2:2<=p) (r:p<m.blocks.length) (q:48<=lk) (C:lk<=1000):
  Cl 89 #[.pointer (some ⟨a,0,none⟩),.agg #[.int .i64 p,.string ⟨d.toArray⟩]] w fun e w'=>e=.returned (.tuple #[.pointer none,.int .i64 8])/\Bw w w':=by
 have l:a<w.heap.size:=by
  rcases Hv a w.heap.size with g|g
  ·exact g
  ·simp[World.cell?,Ot g]at i
 obtain⟨w0,f⟩:=nmd (w.alloc (.cells #[.int .i64 (p:Int),.string ⟨d.toArray⟩] 60));have c:Bw w w0:=f▸(Ah _ _).alloc (Ak _) _;have k:w0.heap[w.heap.size]?=some (.cells #[.int .i64 (p:Int),.string ⟨d.toArray⟩] 60 (0,0)):=f▸heap_alloc_new w _;have F:w0.cell? ⟨w.heap.size,0,none⟩=some (.int .i64 (p:Int)):=crw k rfl;have D:w0.cell? ⟨a,0,none⟩=some (.pointer (some ⟨b,0,none⟩)):=(c.cell (p:=⟨a,0,none⟩) l).trans i;have z:w0.cell? ⟨a,1,none⟩=some (.int .i64 lk):=(c.cell (p:=⟨a,1,none⟩) l).trans j;have h0:=h.later c;have c0:=h0.vault.c0;have y:=h0.disk.c0;have o:=Aa (fun w (hd:w.cell? ⟨x.d,0,none⟩=some (.slice (some ⟨x.bb,0,none⟩) m.blocks.length x.cb))=>Ui x.d x.bb x.cb m.blocks.length w hd);have n:=Aa c;have s:=h.disk.le;have u:decide ((p:Int)<2)=false:=by simp;omega
 have A:decide ((m.blocks.length:Int)<=(p:Int))=false:=by simp;omega
 have t:decide ((48:Int)<=(lk:Int))=true:=by simp;omega
 have E:w0.heap.size=w.heap.size+1:=by rw[<-f];simp
 clear h h0 k c i j;generalize m.blocks.length=N at*;go_enter Tryz.func89,Tryz.ntmps89;go_wp2_with fail;go_quiet (first|(go_at_call 38;refine Calls.quiet_of_same (o.o _ (by assumption))));go_wp2_with fail;go_ret2;exact⟨rfl,Bp n.o _⟩
structure Ef (w:World)(sb b lk dp:Nat)(last:By):Prop where
 blk:w.heap[sb]?=some (.cells #[.pointer (some ⟨b,0,none⟩),.int .i64 lk,.int .i64 dp,Ac last] 133 (0,0))
section
variable {w:World}{sb b lk dp:Nat}{last:By}
theorem Ef.lt (h:Ef w sb b lk dp last):sb<w.heap.size:=lt_of_block h.blk
theorem Ef.fr (h:Ef w sb b lk dp last)(i:Nat):w.frozen? ⟨sb,i,none⟩=false:=by simp[World.frozen?,h.blk]
theorem Ef.c0 (h:Ef w sb b lk dp last):w.cell? ⟨sb,0,none⟩=some (.pointer (some ⟨b,0,none⟩)):=by rw[cell_of_row _ _ _ _ _ _ h.blk];rfl
theorem Ef.c1 (h:Ef w sb b lk dp last):w.cell? ⟨sb,1,none⟩=some (.int .i64 lk):=by rw[cell_of_row _ _ _ _ _ _ h.blk];rfl
theorem Ef.c2 (h:Ef w sb b lk dp last):w.cell? ⟨sb,2,none⟩=some (.int .i64 dp):=by rw[cell_of_row _ _ _ _ _ _ h.blk];rfl
theorem Ef.c3 (h:Ef w sb b lk dp last):w.cell? ⟨sb,3,none⟩=some (Ac last):=by rw[cell_of_row _ _ _ _ _ _ h.blk];rfl
theorem Ef.of_block {w':World}(h:Ef w sb b lk dp last)(e:w'.heap[sb]?=w.heap[sb]?):Ef w' sb b lk dp last:=⟨e.trans h.blk⟩
theorem Ef.set1 (h:Ef w sb b lk dp last)(a:Nat):Ef (w.setCell ⟨sb,1,none⟩ (.int .i64 a)) sb b a dp last:=⟨by rw[Cx h.blk 1 _];simp⟩
theorem Ef.set2 (h:Ef w sb b lk dp last)(a:Nat):Ef (w.setCell ⟨sb,2,none⟩ (.int .i64 a)) sb b lk a last:=⟨by rw[Cx h.blk 2 _];simp⟩
theorem Ef.set3 (h:Ef w sb b lk dp last)(a:By):Ef (w.setCell ⟨sb,3,none⟩ (Ac a)) sb b lk dp a:=⟨by rw[Cx h.blk 3 _];simp⟩
end
def Li:By->List Aw->Option By
 |last,[]=>some last
 |last,e::es=>if Op.bytesLess last e.key=true then Li e.key es else none
theorem Avs (sb b lk n p dp:Nat)(last d:By)(es:List Aw)(ev:Value)(w:World)(h:Ef w sb b lk 0 last)(f:Gx w n true p d es ev)(I:es≠[])(y:sb≠n)(E:∀j,ev.ownBlock=some j->j≠sb)(S:es.length<=5):
  Cl 107 #[.pointer (some ⟨sb,0,none⟩),.pointer (some ⟨n,0,none⟩),.int .i64 dp] w fun e w'=>Kp [sb] w w'/\
   ((Li last es=none/\e=.returned (.int .i64 8))\/(∃l',Li last es=some l'/\e=.returned (.int .i64 0)/\Ef w' sb b lk dp l')):=by
 have c2:=h.c2;have f2:=h.fr 2;have h1:=h.set2 dp;have k1:Kp [sb] w (w.setCell ⟨sb,2,none⟩ (.int .i64 dp)):=(Kp.refl _ w).setCell sb 2 _ (.inl (by simp));have z:=f.kp k1 (by simpa using Ne.symm y) (fun j D=>by simpa using E j D);obtain⟨w1,K⟩:=nmd (w.setCell ⟨sb,2,none⟩ (.int .i64 (dp:Int)));rw[K]at h1 k1 z;have F:=Aa (Ab h1 (Ab k1 z));have s:=Aa (Ab I (Ab y E));have X:(es.length:Int)<=5:=by omega
 clear h f I y E S h1 k1 z;go_enter Tryz.func107,Tryz.ntmps107;go_wp2_with fail
 go_loopw [7] (fun i wr=>∃(k:Nat) (lt:By),k<=es.length/\i=.int .i64 (k:Int)/\Ef wr sb b lk dp lt/\Gx wr n true p d es ev/\Kp [sb] w wr/\Li lt (es.drop k)=Li last es) (fun i _=>es.length-(intOf i).toNat)
 case atStart=>exact⟨0,last,by omega,rfl,F.o.1,F.o.2.2,F.o.2.1,rfl⟩
 case round=>
  obtain⟨k,lt,hk,rfl,o,f,r,c⟩:=hrel;clear c2 f2 K;obtain⟨u,cap,G,ab,aa,P,V,x,Q⟩:=f.row s.o.1;have c3:=f.node.c3;rw[G]at c3;by_cases m:k<es.length
  ·obtain⟨en,A⟩:∃en,es[k]?=some en:=⟨es[k],Az m⟩
   have O:es.drop k=en::es.drop (k+1):=by
    rw[Kh m]
    congr 1
    exact(List.getElem_eq_iff m).2 A
   rw[O]at c;simp only[Li]at c;have M:wr.cell? ⟨u,k*5,none⟩=some (Ac en.key):=by have:=x k en A 0 (by decide);simpa [Aw.cells,Oh]using this
   have U:=o.c3;have W:=o.fr 3;have ae:(k:Int)<(es.length:Int):=by omega
   have H:=Aa m;have a:=Aa (Ab o (Ab f (Ab r (Ab c M))));have ac:u≠sb:=s.o.2.2 u (by rw[G];rfl);have R:=s.o.2.1;clear o f r c x Q O A hk m P;generalize es.length=L at*;generalize en.key=ek at*
   cases t:Op.bytesLess lt ek with
   |false=>
    have ha:=a.o.2.2.2.1;rw[t]at ha;have v:=Aa (Ab a.o.2.2.1 ha);clear ha a;go_wp2_with fail;go_quiet (fail);go_wp2_with fail
    ·go_ret;exact⟨v.o.1.drewN _,.inl ⟨by rw[<-v.o.2];simp,rfl⟩⟩
    ·rename_i N;have:=Mk ek lt;rw[N.1,N.2,t]at this;cases this
   |true=>
    have ha:=a.o.2.2.2.1;rw[t,if_pos rfl]at ha;have v:=Aa ha;have l:=Mk ek lt;rw[t]at l
    have Z:Op.bytesLess ek lt=false:=by
     cases h:Op.bytesLess ek lt
     ·rfl
     ·rw[h]at l;cases l
    have ad:(ek==lt)=false:=by
     cases h:(ek==lt)
     ·rfl
     ·rw[h]at l;simp at l
    clear l ha;go_wp2_with fail;go_quiet (fail);obtain⟨w2,q⟩:=nmd (wr.drewN nq);have J:Kp [sb] wr w2:=q▸(Kp.refl [sb] wr).drewN nq;have C:Kp [] wr w2:=q▸(Kp.refl [] wr).drewN nq;have s2:=a.o.1.of_block (C.block sb a.o.1.lt (by simp));have n2:=a.o.2.1.kp C (by simp) (by simp);have T:=n2.node.c3;rw[G]at T;have ah:w2.cell? ⟨u,k*5,none⟩=some (Ac ek):=q▸a.o.2.2.2.2;have af:=s2.c3;have Y:=s2.fr 3;rw[q];have ks:Kp [sb] w2 (w2.setCell ⟨sb,3,none⟩ (Ac ek)):=(Kp.refl _ w2).setCell sb 3 _ (.inl (by simp));have g:=Aa (Ab (s2.set3 ek) (Ab (n2.kp ks (by simpa using Ne.symm R) (fun j D=>by simpa using s.o.2.2 j D)) ((a.o.2.2.1.trans J).trans ks)));clear M U W c3 J C s2 n2 ks q a;have ag:=Tj V;go_wp2_with fail
    go_roundw
    case rel=>exact⟨k+1,ek,by have:=H.o;omega,by go_num,g.o.1,g.o.2.1,g.o.2.2,v.o⟩
    case measure=>have:=H.o;simp[intOf];omega
  ·obtain rfl:k=es.length:=by omega
   rw[List.drop_length]at c;simp only[Li]at c;have g:=Aa (Ab o (Ab r c));clear o f r c x Q m hk P;generalize es.length=L at*;go_wp2_with fail;go_ret;exact⟨g.o.2.1,.inr ⟨lt,g.o.2.2.symm,rfl,g.o.1⟩⟩
theorem Ajc {S T:List Nat}{w w1 w2:World}(h:Kp S w w1)(k:Kp T w1 w2)(a:∀j∈T,j∈S\/w.heap.size<=j):Kp S w w2:=h.step k a
theorem Abt (c:Int)(n:Nat)(w:World)(d:0<n)(f:n<=1048576)(h1: -9223372036854775808<=c)(h2:c<=9223372036854775807):
  Cl 7 #[.int .i64 c,.int .i64 (n:Int)] w fun e w'=>∃k:Nat,e=.returned (.int .i64 (k:Int))/\k<n/\w'=w:=by
 have b:(0:Int)<(n:Int):=by omega
 have j:(n:Int)<=1048576:=by omega
 have g:((n:Int)==0)=false:=by rw[beq_eq_false_iff_ne];omega
 have i:¬(n=0):=by omega
 clear d f;by_cases h:c<0
 ·go_enter Tryz.func7,Tryz.ntmps7;go_wp2_with fail;have hk:(-(c+1))%(n:Int)<(n:Int):=Int.emod_lt_of_pos _ b;have a:0<=(-(c+1))%(n:Int):=Int.emod_nonneg _ (by omega)
  have e: -((c+1).tmod (n:Int))=(((-(c+1))%(n:Int)).toNat:Int):=by rw[<-Int.neg_tmod,Int.tmod_eq_emod_of_nonneg (by omega),Int.toNat_of_nonneg a]
  go_ret;exact⟨((-(c+1))%(n:Int)).toNat,Tb e,by omega,rfl⟩
 ·go_enter Tryz.func7,Tryz.ntmps7;go_wp2_with fail;have hk:c%(n:Int)<(n:Int):=Int.emod_lt_of_pos _ b;have a:0<=c%(n:Int):=Int.emod_nonneg _ (by omega);go_ret;exact⟨(c%(n:Int)).toNat,Tb (by rw[Int.toNat_of_nonneg a]),by omega,rfl⟩
def Wi:VM:=⟨false,[],.pointer none,.pointer none,0,0,0,0,[],List.replicate 48 false,.slice none 0 0⟩
theorem Ane (d:Nat)(w:World):
  Cl 10 #[.pointer (some ⟨d,0,none⟩)] w fun e w'=>e=.returned (.pointer (some ⟨w.heap.size,0,none⟩))/\Bz w' w.heap.size d Wi/\Bw w w'/\w'.heap.size=w.heap.size+1:=by
 go_enter Tryz.func10,Tryz.ntmps10;go_wp2_with fail;go_ret;exact⟨rfl,⟨(heap_alloc_new w _).trans (by kernel_rfl),by simp[Wi]⟩,(Ah _ _).alloc (Ak _) _,by simp⟩
structure LM where
 may:Value
 opened:Bool
 n:Nat
 wv:Value
 base:Nat
 sv:Value
 pass:By
 tv:Value
 ov:Value
section
variable {w:World}{bW d b:Nat}{l:LM}
end
def Sep (a b:Value):Prop:=∀j,a.ownBlock=some j->b.ownBlock≠some j
theorem Sep.symm {a b:Value}(h:Sep a b):Sep b a:=fun j h1 h2=>h j h2 h1
abbrev Lo (w:World)(v:Value)(l:List By):Prop:=w.ownsRow 0 9 1 v l.length (l.map Ac)
abbrev Amv (w:World)(v:Value)(l:List (Nat×By)):Prop:=w.ownsRow 0 87 2 v l.length (Rw l)
section
variable {w w':World}{bW d b:Nat}{l:LM}{wr:List (Nat×By)}{sl tr ow:List By}
end
section
variable {w w':World}{bW d b:Nat}{l:LM}{wr:List (Nat×By)}{sl tr ow:List By}
theorem Aaa {S:List Nat}(hk:Kp S w w')(bW i:Nat)(a:Value):Kp (bW::S) w (w'.setCell ⟨bW,i,none⟩ a):=(hk.mono (fun _ h=>Nb _ h)).setCell bW i a (.inl (by simp))
end
theorem Abl {w:World}{B T s n:Nat}{v:Value}{xs:List Value}(h:w.ownsRow B T s v n xs):∃a cap,v=.slice a n cap:=by
 rcases h.2 with⟨b,c⟩|⟨g,cap,cur,b,_⟩
 ·exact⟨none,0,by rw[b,c]⟩
 ·exact⟨_,cap,b⟩
theorem Abc {w:World}{v:Value}{l:List By}(h:Lo w v l)(h0:l≠[]):∃g cap,v=.slice (some ⟨g,0,none⟩) l.length cap/\g<w.heap.size/\l.length<=cap/\cap<=maxLen/\∀i x,l[i]?=some x->w.cell? ⟨g,i,none⟩=some (Ac x):=by
 rcases h.2 with⟨_,j⟩|⟨g,cap,cur,c,_,hb,f,d,k,b⟩
 ·exact absurd (Ls.1 j) h0
 ·refine⟨g,cap,c,lt_of_block hb,f,d,fun i x a=>?_⟩;have m:i<l.length:=(Ds.1 a).1;have e:(l.map Ac)[i]?=some (Ac x):=by simp[a]
  rw[cell_of_row _ _ _ _ _ _ hb,<-e,<-b,Ml (by omega)];simp
theorem Afu {w:World}{v:Value}{l:List (Nat×By)}(h:Amv w v l)(h0:l≠[]):∃g cap,v=.slice (some ⟨g,0,none⟩) l.length cap/\g<w.heap.size/\l.length<=cap/\cap<=maxLen/\∀i x,l[i]?=some x->w.cell? ⟨g,i*2,none⟩=some (.int .i64 (x.1:Int))/\w.cell? ⟨g,i*2+1,none⟩=some (Ac x.2):=by
 rcases h.2 with⟨_,j⟩|⟨g,cap,cur,d,_,hb,f,e,m,b⟩
 ·exact absurd (Ls.1 j) h0
 ·refine⟨g,cap,d,lt_of_block hb,f,e,fun i x c=>?_⟩;have n:i<l.length:=(Ds.1 c).1
  have key:∀(l:List (Nat×By)) (i:Nat) (x:Nat×By),l[i]?=some x->(Rw l)[i*2]?=some (.int .i64 (x.1:Int))/\(Rw l)[i*2+1]?=some (Ac x.2):=by
   intro l
   induction l with
   |nil=>intro i x h;simp at h
   |cons a l ih=>
    intro i x h
    cases i with
    |zero=>simp at h;subst h;simp[Rw]
    |succ i=>simp at h;have:=ih i x h;simp only[Rw,Da]at this⊢;rw[If (by simp;omega),If (by simp;omega)];simp only[Fh,Ov];rw[show(i+1)*2-(0+1+1)=i*2 from by omega,show(i+1)*2+1-(0+1+1)=i*2+1 from by omega];exact this
  have k:=key l i x c;refine⟨?_,?_⟩
  ·rw[cell_of_row _ _ _ _ _ _ hb,<-k.1,<-b,Ml (by omega)];simp
  ·rw[cell_of_row _ _ _ _ _ _ hb,<-k.2,<-b,Ml (by omega)];simp
theorem Ty (d:Nat)(w:World)(c:Nat)(h2:w.cell? ⟨d,2,none⟩=some (.int .i64 c)):
  Cl 21 #[.pointer (some ⟨d,0,none⟩)] w fun e w'=>e=.returned (.int .i64 c)/\w'=w:=by
 go_enter Tryz.func21,Tryz.ntmps21;go_wp2_with fail;go_ret;exact⟨rfl,rfl⟩
theorem Zd (t:By)(a b:Nat):(ByteArray.mk t.toArray).extract a b=⟨((t.drop a).take (b-a)).toArray⟩:=by apply ByteArray.ext;simp[ByteArray.data_extract]
def Aik (wr:List (Nat×By))(c:List By)(t pass:By)(i:Nat):Prop:=∃b a,c[i]?=some b/\wr[i]?=some a/\a.2.take 128=t.take 128/\b=pass
open Classical in
noncomputable def Py (wr:List (Nat×By))(a:List By)(t pass:By):Bool:=if ∃i,Aik wr a t pass i then false else(Jk (Bn pass (Bs t)) (t.take 61)==(t.drop 61).take 32)
theorem Ahf (b:Oper)(a:Act)(x i:Operand)(g n c k:Nat)(e:b.op=.indexAddr 36 x i)(f:a.eval x=.slice (some ⟨g,0,none⟩) n c)(d:a.eval i=.int .i64 (k:Int))(hk:(k:Int)<(n:Int))(w:World):
  (execOp a.eval b).run Tryz.prog w=.ok (.value (.pointer (some ⟨g,k,none⟩))) w:=by
 unfold execOp;simp only[e,f,d];clear f e d
 go_simp
theorem Ad5 (d:Oper)(a:Act)(x:Operand)(b c:Nat)(v:Value)(e:d.op=.load 36 x)(f:a.eval x=.pointer (some ⟨b,c,none⟩))(w:World)(g:w.cell? ⟨b,c,none⟩=some v):
  (execOp a.eval d).run Tryz.prog w=.ok (.value v) w:=by
 unfold execOp;simp only[e,f];clear f e
 go_simp
theorem Ax5 {w:World}{v:Value}{n:Nat}{xs:List Value}(h:w.ownsRow 0 9 1 v n xs)(h0:0<n):∃g cap,v=.slice (some ⟨g,0,none⟩) n cap/\g<w.heap.size/\∀i x,i<n->xs[i]?=some x->w.cell? ⟨g,i,none⟩=some x:=by
 rcases h.2 with⟨_,j⟩|⟨g,cap,cur,b,_,hb,f,e,d,a⟩
 ·omega
 ·refine⟨g,cap,b,lt_of_block hb,fun i x k c=>?_⟩;rw[cell_of_row _ _ _ _ _ _ hb,<-c,<-a,Ml (by omega)];simp
end Go.Proofs.YtojgilcdgccojaaGreatDoor
