import Derived.Test.YtojgilcdgccojaaGreatDoorAl
import Derived.Test.YtojgilcdgccojaaGreatDoorMAf
import Derived.Test.YtojgilcdgccojaaGreatDoorMAk
set_option linter.unusedSimpArgs false
set_option maxRecDepth 100000
set_option maxHeartbeats 8000000
namespace Go.Proofs.YtojgilcdgccojaaGreatDoor
open Go.RowKit
theorem Ar3 (k:Nat)(x:Nat)(l:List Nat):(List.replicate (k+1) 0++l).set k x=List.replicate k 0++(x::l):=by rw[List.replicate_succ',Cw,Lu _ _ (by simp)];simp
theorem No (v n:Nat)(w:World)(p:v<9223372036854775808)(r:n<=8):
  Cl 79 #[.int .i64 v,.int .i64 n] w fun e w'=>e=.returned (Ac (Af v n))/\Bw w w':=by
 have t:=Zw n (by omega);have E:(n:Int)<=8:=by omega
 have H:(v:Int)<9223372036854775808:=by omega
 have I:=Aa r;have x:=Aa p;clear r p;go_enter Tryz.func79,Tryz.ntmps79;go_wp2_with fail
 go_loopw [0,6] (fun C i wr=>∃k:Nat,k<=n/\i=.int .i64 ((k:Int)-1)/\C=.int .i64 ((v/256^(n-k):Nat):Int)/\Bo wr w.heap.size 5 .u8 (List.replicate k 0++Ap (Af v (n-k)))/\Bw w wr) (fun _ i _=>(intOf i+1).toNat)
 case atStart=>exact⟨n,by omega,rfl,by simp,by simpa [Ap,Af]using Bo.made w 5 .u8 n,(Ah _ _).alloc (Ak _) _⟩
 case round=>
  obtain⟨k,hk,rfl,rfl,a,h⟩:=hrel;rcases k with _|k
  ·simp only[Nat.sub_zero,List.replicate_zero,Hu]at a;have u:=Qh (cap:=n) a;rw[Dt,Cb,Ap,Agv]at u;clear a t;go_wp2_with fail;go_ret;exact⟨rfl,h⟩
  ·have e1:n-k=(n-(k+1))+1:=by omega
   obtain⟨j,m⟩:=nmd (n-(k+1));have o:(List.replicate (k+1) 0++Ap (Af v j)).length=n:=by simp[Dt,Cb];omega
   rw[m]at a e1⊢;obtain⟨q,b⟩:=nmd (v/256^j);rw[b];have z:q<=v:=by rw[<-b];exact Nat.div_le_self _ _
   have J:=a.cell (i:=k) (by rw[o];omega);have D:=a.frozen k;have c:=a.set k (q%256)
   have f:(List.replicate (k+1) 0++Ap (Af v j)).set k (q%256)=List.replicate k 0++Ap (Af v (j+1)):=by rw[Ar3,A1h,b];simp[Ap]
   rw[f,<-e1]at c;have s:v/256^(n-k)=q/256:=by rw[e1,Nat.pow_succ,<-Aag,b]
   have g:Bw w (wr.setCell ⟨w.heap.size,k,none⟩ (.int .u8 ((q%256:Nat):Int))):=h.setCell (Ak _) _;have l:(((k+1:Nat):Int)-1)=(k:Int):=by omega
   rw[l];have F:(k:Int)<(n:Int):=by omega
   have G:(q:Int)<9223372036854775808:=by have:=x.o;omega
   have d:=Aa (Ab c (Ab g s));have A:=Aa hk;generalize(List.replicate (k+1) 0++Ap (Af v j)).getD k 0=y at*;clear c g s f o a l z b m e1 hk t;go_wp2_with fail;refine⟨⟨k,by have:=A.o;omega,rfl,by rw[d.o.2.2];simp,?_,?_⟩,by simp[intOf]⟩
   ·exact d.o.1
   ·exact d.o.2.1
theorem Aev (n:Nat):madeCells #[.int .u8 0] n=(Aj .u8 (List.replicate n 0)).toArray:=by
 apply Array.ext
 ·simp[madeCells,Aj]
 ·intro i h1 h2;simp[madeCells,Aj,Nat.mod_one]
theorem Aa9 (t:By)(n:Nat)(w:World)(c:n<=1000):
  Cl 123 #[.string ⟨t.toArray⟩,.int .i64 (n:Int)] w fun e w'=>e=.returned (Ac (Ar t n))/\Bw w w':=by
 have k:=Zw n c;have l:(n:Int)<=1000:=by omega
 have j:∀b a,(Builtin.copy_ #[54,b] a #[.slice (some ⟨w.heap.size,0,none⟩) n n,.string ⟨t.toArray⟩]).run Tryz.prog (w.alloc (.cells (madeCells #[.int .u8 0] n) 5))=.ok (goInt (t.take n).length) (w.alloc (.cells (Ae (Ar t n)).toArray 5)):=fun b a=>by rw[Aev];exact Abx t n w b a 5
 have f:=Jm t n;generalize Ar t n=F at*;have d:Bo (w.alloc (.cells (Ae F).toArray 5)) w.heap.size 5 .u8 (Ap F):=Bo.new w _ _ _ _ (by simp[Ae,Ap]) (fun i g=>by rw[<-Dw];exact Mr .u8 _ i g);have h:=Qh (cap:=n) d;rw[Dt,f,Yu]at h;clear d f c;go_enter Tryz.func123,Tryz.ntmps123;go_wp2_with fail;go_ret;exact⟨rfl,(Ah _ _).alloc (Ak _) _⟩
end Go.Proofs.YtojgilcdgccojaaGreatDoor
