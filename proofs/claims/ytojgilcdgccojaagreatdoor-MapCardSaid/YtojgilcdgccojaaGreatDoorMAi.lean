import Derived.Deep.WholeRow
import Derived.Lib.BufferWrite
import Derived.Test.YtojgilcdgccojaaGreatDoorAl
import Derived.Test.YtojgilcdgccojaaGreatDoorMAf
import Derived.Test.YtojgilcdgccojaaGreatDoorMAe
set_option linter.unusedSimpArgs false
set_option maxRecDepth 100000
set_option maxHeartbeats 8000000
namespace Go.Proofs.YtojgilcdgccojaaGreatDoor
open Go.RowKit
def Kk (B:By)(c:UInt8)(k:Nat):By:=(B.take k).map (fun x=>x^^^c)++B.drop k
theorem Apl (B:By)(c:UInt8)(k:Nat):(Kk B c k).length=B.length:=by simp[Kk];omega
theorem A2g (B:By)(c:UInt8)(k:Nat)(h:k<B.length):(Ap (Kk B c k)).getD k 0=B[k].toNat:=by
 have a:((B.take k).map (fun x=>x^^^c)).length=k:=by simp;omega
 have e:(Kk B c k)[k]?=some B[k]:=by unfold Kk;rw[If (by omega),a,Po,Sm,Pp,Az h]
 simp[Ap,e]
theorem A3y (B:By)(c:UInt8)(k:Nat)(h:k<B.length):(Ap (Kk B c k)).set k (B[k].toNat^^^c.toNat)=Ap (Kk B c (k+1)):=by
 have a:((B.take k).map (fun x=>x^^^c)).length=k:=by simp;omega
 have e:(Kk B c k).set k (B[k]^^^c)=Kk B c (k+1):=by unfold Kk;rw[Lu k _ (by omega),a,Po,Kh h,Co,Lr h,Lw,Cw];rfl
 rw[<-e];simp[Ap,List.map_set]
theorem Aog (c:UInt8):∀(B:By),B.map (fun x=>x^^^c)=List.zipWith (fun x a=>x^^^a) B (List.replicate B.length c)
 | []=>rfl
 |x::B=>by simp[Aai,Aog c B]
theorem Atv (B:By)(c:UInt8)(h:B.length=64):Kk B c 64=Dh B (List.replicate 64 c):=by unfold Kk Dh;rw[Du (by omega),Xu (by omega),Ff,Aog,h]
theorem Aew (m n:Nat):(Aj .u8 (List.replicate m 0)).drop n=Aj .u8 (Ap (List.replicate (m-n) 0)):=by simp[Aj,Ap]
theorem Ayq (a:By)(n:Nat)(f:a.length=n)(g:n<=64)(w:World)(d c t:TypeId):
  (Builtin.copy_ #[54,d] c #[.slice (some ⟨w.heap.size,0,none⟩) 64 64,.string ⟨a.toArray⟩]).run Tryz.prog (w.alloc (.cells (Aj .u8 (List.replicate 64 0)).toArray t))=
   .ok (goInt n) (w.alloc (.cells (Aj .u8 (Ap (a++List.replicate (64-n) 0))).toArray t)):=by
 have b:(ByteArray.mk a.toArray).size=n:=by simpa [ByteArray.size]using f
 have:=Lib.run_copy_row_string (P:=Tryz.prog) (w.alloc (.cells (Aj .u8 (List.replicate 64 0)).toArray t)) 54 d c 5 w.heap.size 0 64 64 ⟨a.toArray⟩ (Aj .u8 (List.replicate 64 0)).toArray t Tryz.underlying54 (by kernel_rfl) (heap_alloc_new w _) (by omega) (by rw[b];simp[Aj];omega);rw[this,b,World.setRow_alloc_new];have e:=Aew 64 n
 have e2:Aj .u8 (Ap (a++List.replicate (64-n) 0))=Lib.byteCells a++Aj .u8 (Ap (List.replicate (64-n) 0)):=by simp[Aj,Ap,Lib.byteCells,Function.comp_def]
 rw[e2,<-e];simp only[Dq,Wb,Hu]
theorem Am0 (a:By)(c:UInt8)(w:World)(p:a.length<=64):
  Cl 101 #[.string ⟨a.toArray⟩,.int .u8 (c.toNat:Int)] w fun e w'=>e=.returned (.string ⟨(Dh (a++List.replicate (64-a.length) 0) (List.replicate 64 c)).toArray⟩)/\Bw w w':=by
 obtain⟨n,f⟩:=nmd (a.length);rw[f]at p⊢;have o:=fun G M t=>Ayq a n f p w G M t;have d:(a++List.replicate (64-n) 0).length=64:=by simp[f];omega
 obtain⟨B,z⟩:=nmd (a++List.replicate (64-n) 0);rw[z]at o d⊢;have I:∀w,(zeroValue 148).run Tryz.prog w=.ok (.agg (Aj .u8 (List.replicate 64 0)).toArray) w:=fun _=>by kernel_rfl
 obtain⟨O,r⟩:=nmd ((Aj .u8 (List.replicate 64 0)).toArray);rw[r]at I o;have s:=Atv B c d;rw[<-s];have A:=Aa d;have E:(Aj .u8 (Ap B)).toArray.size=64:=by simp[Aj,Ap,d]
 have l:Bo (w.alloc (.cells (Aj .u8 (Ap B)).toArray 148)) w.heap.size 148 .u8 (Ap (Kk B c 0)):=by
  have e0:Kk B c 0=B:=by simp[Kk]
  rw[e0];exact Bo.new w _ _ _ _ (by simp[Aj]) (fun i D=>Mr _ _ i D)
 obtain⟨C,v⟩:=nmd ((Aj .u8 (Ap B)).toArray);rw[v]at o l;have L:=Aa l;clear r s z d f v E l p;go_enter Tryz.func101,Tryz.ntmps101;go_wp2_with fail
 go_loopw [6] (fun i wr=>∃k:Nat,k<=64/\i=.int .i64 (k:Int)/\Bo wr w.heap.size 148 .u8 (Ap (Kk B c k))/\Bw w wr) (fun i _=>(65-intOf i).toNat)
 case atStart=>exact⟨0,by omega,rfl,L.o,(Ah _ _).alloc (Ak _) _⟩
 case round=>
  obtain⟨k,hk,rfl,b,u⟩:=hrel;by_cases H:k<64
  ·have Q:(k:Int)<64:=by omega
   have m:k<B.length:=by rw[A.o];exact H
   have K:=b.cell (i:=k) (by rw[Dt,Apl];exact m);rw[A2g B c k m]at K;have N:=b.frozen k;have h:=b.set k (B[k].toNat^^^c.toNat);rw[A3y B c k m]at h;have R:=u8_xor_nat B[k].toNat c.toNat B[k].toNat_lt c.toNat_lt;have q:Bw w (wr.setCell ⟨w.heap.size,k,none⟩ (.int .u8 ((B[k].toNat^^^c.toNat:Nat):Int))):=u.setCell (Ak _) _;have x:=Aa (Ab h q);generalize B[k].toNat=y at*;clear h q b;go_wp2_with fail
   go_roundw
   case rel=>exact⟨k+1,by omega,by go_num,x.o.1,x.o.2⟩
   case measure=>simp[intOf];omega
  ·have F:k=64:=by omega
   subst F;have g:=Qh (cap:=64) b;rw[Dt,Apl,A.o]at g;have e:(Ap (Kk B c 64)).map UInt8.ofNat=Kk B c 64:=Agv _;rw[e]at g;clear b e;obtain⟨P,j⟩:=nmd (Kk B c 64);rw[j]at g;have J:=Aa j;clear j;go_wp2_with fail;go_ret;exact⟨by rw[J.o];rfl,u⟩
end Go.Proofs.YtojgilcdgccojaaGreatDoor
