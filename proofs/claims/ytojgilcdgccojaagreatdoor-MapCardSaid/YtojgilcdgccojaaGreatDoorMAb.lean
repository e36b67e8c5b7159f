import Derived.WalkKit
import Derived.Test.YtojgilcdgccojaaGreatDoorAl
set_option linter.unusedSimpArgs false
set_option maxRecDepth 100000
set_option maxHeartbeats 8000000
namespace Go.Proofs.YtojgilcdgccojaaGreatDoor
open Go.RowKit
def B (k:Nat):Nat:=65536^k
theorem Iq (n:Nat)(h:n<9223372036854775808):IntKind.i64.wrap (n:Int)=(n:Int):=by simp[IntKind.wrap,IntKind.bits,IntKind.signed];omega
def Ag5 (a b v k:Nat):Nat:=
 let u:=if 256<=2*v then(2*v)^^^283 else 2*v
 if b/2^(7-k)%2=1 then u^^^a else u
def Ag7 (a b:Nat):Nat->Nat
 |0=>0
 |k+1=>Ag5 a b (Ag7 a b k) k
def Ox (a b:Nat):Nat:=Ag7 a b 8
theorem Arx (v:Nat)(a:v<256):(if 256<=2*v then(2*v)^^^283 else 2*v)<256:=by
 have:∀v:Fin 256,(if 256<=2*v.val then(2*v.val)^^^283 else 2*v.val)<256:=by decide+kernel
 exact this ⟨v,a⟩
theorem Ay4 (a b v k:Nat)(ha:a<256)(c:v<256):Ag5 a b v k<256:=by
 unfold Ag5;have h:=Arx v c;dsimp only;split
 ·exact Ou (n:=8) h ha
 ·exact h
theorem Avi (a b k:Nat)(ha:a<256):Ag7 a b k<256:=by
 induction k with
 |zero=>exact Nat.zero_lt_succ _
 |succ k ih=>exact Ay4 a b _ k ha ih
def Aop (a:Nat):Nat->Nat->Nat
 |0,_=>0
 |f+1,b=>if Ox a b=1 then b else Aop a f (b+1)
def A2u (a:Nat):Nat:=Aop a 255 1
def Amu (n:Nat):Nat->Nat->Bool
 |0,_=>true
 |f+1,d=>if n<d*d then true else if n%d=0 then false else Amu n f (d+1)
def Au1 (n:Nat):Bool:=Amu n n 2
theorem Yy (a b:Nat)(ha:a<256):Ox a b<256:=Avi a b 8 ha
def ghR:Nat:=225*2^120
def sh (v:Nat):Nat:=if v%2=1 then v/2^^^ghR else v/2
def Ks (v:Nat):Nat->Nat
 |0=>v
 |k+1=>sh (Ks v k)
def Kt (x v:Nat):Nat->Nat
 |0=>0
 |k+1=>if x.testBit (127-k)then Kt x v k^^^Ks v k else Kt x v k
def Hk (x v:Nat):Nat:=Kt x v 128
theorem Ast (v:Nat)(h:v<2^128):sh v<2^128:=by
 unfold sh;split
 ·exact Ou (by omega) (by decide)
 ·omega
theorem Aco (v k:Nat)(h:v<2^128):Ks v k<2^128:=by
 induction k with
 |zero=>exact h
 |succ k ih=>exact Ast _ ih
theorem Apc (x v k:Nat)(h:v<2^128):Kt x v k<2^128:=by
 induction k with
 |zero=>exact Nat.two_pow_pos _
 |succ k ih=>
  rw[Kt];split
  ·exact Ou ih (Aco _ _ h)
  ·exact ih
theorem Ac3 (x v:Nat)(h:v<2^128):Hk x v<2^128:=Apc x v 128 h
theorem Ap7 (x a:Nat):(x^^^a)/2^64=x/2^64^^^a/2^64:=by rw[<-Nat.shiftRight_eq_div_pow,<-Nat.shiftRight_eq_div_pow,<-Nat.shiftRight_eq_div_pow,Nat.shiftRight_xor_distrib]
theorem Ale (x a:Nat):(x^^^a)%2^64=x%2^64^^^a%2^64:=Nat.xor_mod_two_pow
theorem Af4 (a b:Nat)(i:Nat)(ha:a%2^i=0)(hb:b<2^i):a|||b=a+b:=by
 have h:a=2^i*(a/2^i):=by have:=Nat.div_add_mod a (2^i);omega
 rw[h,Nat.two_pow_add_eq_or_of_lt hb]
theorem Atb (e:Nat):sh e/2^64=if e%2^64%2=1 then e/2^64/2^^^225*2^56 else e/2^64/2:=by
 have h1:e%2^64%2=e%2:=by omega
 have h2:e/2/2^64=e/2^64/2:=by omega
 rw[h1];unfold sh;split
 ·rw[Ap7,h2];rfl
 ·exact h2
theorem As0 (e:Nat):sh e%2^64=(e/2^64%2)*2^63|||e%2^64/2:=by
 have a:(e/2)%2^64=(e/2^64%2)*2^63+e%2^64/2:=by omega
 rw[Af4 _ _ 63 (Nat.mul_mod_left _ _) (by omega),<-a];unfold sh;split
 ·rw[Ale];have:ghR%2^64=0:=by decide
  rw[this,Nat.xor_zero]
 ·rfl
def Fx (x k:Nat):Nat:=x*2^k%2^128
theorem A2y (x:Nat)(h:x<2^128):Fx x 0=x:=by unfold Fx;rw[Nat.pow_zero,Nat.mul_one,Xz h]
theorem Af8 (x k:Nat):Fx x k<2^128:=Gs _ (by decide)
theorem Akq (x k:Nat):Fx x (k+1)=2*Fx x k%2^128:=by unfold Fx;rw[Nat.pow_succ,<-Nat.mul_assoc,Nat.mul_mod,Nat.mul_comm 2 (_%_),Nat.mul_mod (x*2^k%2^128) 2,Nat.mod_mod]
theorem Aty (x k:Nat)(hk:k<128):Fx x k/2^127%2=if x.testBit (127-k)then 1 else 0:=by
 have h1:(Fx x k).testBit 127=x.testBit (127-k):=by unfold Fx;rw[Nat.testBit_mod_two_pow,Nat.testBit_mul_two_pow];simp;omega
 have h2:(Fx x k).testBit 127=decide (Fx x k/2^127%2=1):=Nat.testBit_eq_decide_div_mod_eq;rw[<-h1,h2];by_cases h:Fx x k/2^127%2=1
 ·simp[h]
 ·have:Fx x k/2^127%2=0:=by omega
  simp[this]
theorem Ax6 (a:Nat)(_ha:a<2^128):(2*a%2^128)/2^64=(a/2^64*2%2^64|||a%2^64/2^63):=by
 have b:(2*a%2^128)/2^64=a/2^64*2%2^64+a%2^64/2^63:=by omega
 rw[b,Af4 _ _ 1 (by omega) (by omega)]
theorem A1t (a:Nat):(2*a%2^128)%2^64=a%2^64*2%2^64:=by omega
def Na (h z:Nat):List Nat->Nat
 | []=>z
 |b::bs=>Na h (Hk (z^^^b) h) bs
theorem Akt (h z:Nat)(b bs:List Nat):Na h z (b++bs)=Na h (Na h z b) bs:=by
 induction b generalizing z with
 |nil=>rfl
 |cons a b ih=>exact ih _
theorem Al4 (h z:Nat)(bs:List Nat)(hh:h<2^128)(hz:z<2^128):Na h z bs<2^128:=by
 induction bs generalizing z with
 |nil=>exact hz
 |cons b bs ih=>exact ih _ (Ac3 _ _ hh)
def Dp (x n:Nat):Nat:=x/2^n+x*2^(32-n)%4294967296
theorem Ka (x n:Nat)(b:x<4294967296)(d:1<=n)(f:n<=31):Dp x n<4294967296:=by
 unfold Dp
 have h1:x/2^n<2^(32-n):=by
  rw[Nat.div_lt_iff_lt_mul (by exact Nat.two_pow_pos n),<-Nat.pow_add];have:32-n+n=32:=by omega
  rw[this];simpa using b
 have e:(4294967296:Nat)=2^(32-n)*2^n:=by
  rw[<-Nat.pow_add];have:32-n+n=32:=by omega
  rw[this]
 have h2:x*2^(32-n)%4294967296=2^(32-n)*(x%2^n):=by rw[e,Nat.mul_comm x,Nat.mul_mod_mul_left]
 have c:x%2^n+1<=2^n:=Gs _ (Nat.two_pow_pos n);have a:2^(32-n)*(x%2^n+1)<=2^(32-n)*2^n:=Nat.mul_le_mul_left _ c;rw[<-e,Nat.mul_add,Nat.mul_one]at a;rw[h2];omega
theorem A25 (x n:Nat)(a:x<4294967296)(_hn:1<=n)(b:n<=31):(x/2^n)|||(x*2^(32-n)%4294967296)=Dp x n:=by
 have h1:x/2^n<2^(32-n):=by
  rw[Nat.div_lt_iff_lt_mul (by exact Nat.two_pow_pos n),<-Nat.pow_add];have:32-n+n=32:=by omega
  rw[this];simpa using a
 have e:(4294967296:Nat)=2^(32-n)*2^n:=by
  rw[<-Nat.pow_add];have:32-n+n=32:=by omega
  rw[this]
 have h2:x*2^(32-n)%4294967296=2^(32-n)*(x%2^n):=by rw[e,Nat.mul_comm x,Nat.mul_mod_mul_left]
 rw[Nat.or_comm,nat_join (32-n) _ _ (by rw[h2];exact Nat.mul_mod_right _ _) h1,Dp,Nat.add_comm]
theorem Aui (x:Nat)(n:Int)(a:x<4294967296)(c:1<=n)(b:n<=31):
  bits .or .u32 ((x:Int)/2^n.toNat) ((x:Int)*2^(32-n).toNat%4294967296)=((Dp x n.toNat:Nat):Int):=by
 have e1:(x:Int)/2^n.toNat=((x/2^n.toNat:Nat):Int):=by simp
 have e2:(32-n).toNat=32-n.toNat:=by omega
 have e3:(x:Int)*2^(32-n.toNat)%4294967296=((x*2^(32-n.toNat)%4294967296:Nat):Int):=by simp
 rw[e2,e1,e3,u32_or_nat _ _ (Nat.lt_of_le_of_lt (Nat.div_le_self _ _) a) (Gs _ (by decide)),A25 x n.toNat a (by omega) (by omega)]
def Art (p a v b:Nat):Nat:=if(v+b)^a<=p*B (2*a)then v+b else v
def Am5 (p a:Nat):Nat->Nat->Nat
 |0,v=>v
 |n+1,v=>Am5 p a n (Art p a v (2^n))
def Aku (p a:Nat):Nat:=Am5 p a 41 0%4294967296
def Azt (n:Nat)(hk:List Nat×List Nat):List Nat×List Nat:=
 if Au1 n then(if hk.1.length<8 then hk.1++[Aku n 2]else hk.1,hk.2++[Aku n 3])else hk
def A39:Nat->List Nat×List Nat
 |0=>([],[])
 |m+1=>Azt (m+2) (A39 m)
def Jv:List Nat:=[1779033703,3144134277,1013904242,2773480762,1359893119,2600822924,528734635,1541459225]
def Gk:List Nat:=[1116352408,1899447441,3049323471,3921009573,961987163,1508970993,2453635748,2870763221,3624381080,310598401,607225278,1426881987,1925078388,2162078206,2614888103,3248222580,3835390401,4022224774,264347078,604807628,770255983,1249150122,1555081692,1996064986,2554220882,2821834349,2952996808,3210313671,3336571891,3584528711,113926993,338241895,666307205,773529912,1294757372,1396182291,1695183700,1986661051,2177026350,2456956037,2730485921,2820302411,3259730800,3345764771,3516065817,3600352804,4094571909,275423344,430227734,506948616,659060556,883997877,958139571,1322822218,1537002063,1747873779,1955562222,2024104815,2227730452,2361852424,2428436474,2756734187,3204031479,3329325298]
def Am2 (x i:Nat):Nat:=x/2^i^^^x/2^((i+4)%8)^^^x/2^((i+5)%8)^^^x/2^((i+6)%8)^^^x/2^((i+7)%8)^^^99/2^i
def sTo (x:Nat):Nat->Nat
 |0=>0
 |i+1=>sTo x i+Am2 x i%2*2^i
def Hd (b:Nat):Nat:=sTo (A2u b) 8
def Ap8 (n:Nat):List Nat:=(List.range n).map Hd
theorem Az5 (x i:Nat):sTo x i<2^i:=by
 induction i with
 |zero=>simp[sTo]
 |succ i ih=>rw[sTo,Nat.pow_succ];have h1:Am2 x i%2*2^i<=1*2^i:=Tw _ (by omega);omega
theorem Ug (b:Nat):Hd b<256:=Az5 _ 8
def Hp (v:Nat):Nat:=if 256<=2*v then(2*v)^^^283 else 2*v
theorem Aw7:∀u v:Fin 256,Hp (u.val^^^v.val)=Hp u.val^^^Hp v.val:=by decide+kernel
theorem Aw4 (u v:Nat)(a:u<256)(b:v<256):Hp (u^^^v)=Hp u^^^Hp v:=Aw7 ⟨u,a⟩ ⟨v,b⟩
def Ph (a b c d:Nat):Nat:=Ox 2 a^^^Ox 3 b^^^Ox 1 c^^^Ox 1 d
def Gc:List Nat:=[99,124,119,123,242,107,111,197,48,1,103,43,254,215,171,118,202,130,201,125,250,89,71,240,173,212,162,175,156,164,114,192,183,253,147,38,54,63,247,204,52,165,229,241,113,216,49,21,4,199,35,195,24,150,5,154,7,18,128,226,235,39,178,117,9,131,44,26,27,110,90,160,82,59,214,179,41,227,47,132,83,209,0,237,32,252,177,91,106,203,190,57,74,76,88,207,208,239,170,251,67,77,51,133,69,249,2,127,80,60,159,168,81,163,64,143,146,157,56,245,188,182,218,33,16,255,243,210,205,12,19,236,95,151,68,23,196,167,126,61,100,93,25,115,96,129,79,220,34,42,144,136,70,238,184,20,222,94,11,219,224,50,58,10,73,6,36,92,194,211,172,98,145,149,228,121,231,200,55,109,141,213,78,169,108,86,244,234,101,122,174,8,186,120,37,46,28,166,180,198,232,221,116,31,75,189,139,138,112,62,181,102,72,3,246,14,97,53,87,185,134,193,29,158,225,248,152,17,105,217,142,148,155,30,135,233,206,85,40,223,140,161,137,13,191,230,66,104,65,153,45,15,176,84,187,22]
theorem Avm:Ap8 256=Gc:=by decide+kernel
theorem Al0 (b:Nat)(hb:b<256):Gc.getD b 0=Hd b:=by rw[<-Avm];simp[Ap8,Fq,List.getElem?_range hb]
def Af:Nat->Nat->By
 |_,0=>[]
 |v,n+1=>Af (v/256) n++[UInt8.ofNat (v%256)]
theorem Cb:∀n v,(Af v n).length=n
 |0,_=>rfl
 |n+1,v=>by simp[Af,Cb n]
def Bh (l:By):Nat:=l.foldl (fun v b=>v*256+b.toNat) 0
theorem Apy (l:By)(b:UInt8):Bh (l++[b])=Bh l*256+b.toNat:=by simp[Bh]
theorem Amd:∀(l:By) (v:Nat),l.foldl (fun v b=>v*256+b.toNat) v<(v+1)*256^l.length
 | [],v=>by simp
 |b::l,v=>by
  have h:=Amd l (v*256+b.toNat);have hb:v*256+b.toNat+1<=(v+1)*256:=by have:=b.toNat_lt;omega
  have h2:=Tw (256^l.length) hb;rw[So,Fh,Nat.pow_succ,Nat.mul_comm (256^l.length),<-Nat.mul_assoc];exact Eu h h2
theorem Ady (l:By):Bh l<256^l.length:=by have:=Amd l 0;simpa [Bh]using this
structure St where
 a:Nat
 b:Nat
 c:Nat
 d:Nat
 e:Nat
 f:Nat
 g:Nat
 h:Nat
def St.list (s:St):List Nat:=[s.a,s.b,s.c,s.d,s.e,s.f,s.g,s.h]
structure St.ok (s:St):Prop where
 a:s.a<4294967296
 b:s.b<4294967296
 c:s.c<4294967296
 d:s.d<4294967296
 e:s.e<4294967296
 f:s.f<4294967296
 g:s.g<4294967296
 h:s.h<4294967296
def Acq (x:Nat):Nat:=Dp x 7^^^Dp x 18^^^x/8
def Adz (x:Nat):Nat:=Dp x 17^^^Dp x 19^^^x/1024
def Wp (x:Nat):Nat:=Dp x 6^^^Dp x 11^^^Dp x 25
def Abr (x:Nat):Nat:=Dp x 2^^^Dp x 13^^^Dp x 22
def Uz (e f g:Nat):Nat:=(e&&& f)|||((4294967295-e)&&& g)
def Zg (a b c:Nat):Nat:=(a&&& b)|||(a&&& c)|||(b&&& c)
theorem Th {a b:Nat}(ha:a<4294967296)(hb:b<4294967296):a^^^b<4294967296:=Ou (n:=32) ha hb
theorem Aid {a b:Nat}(ha:a<4294967296)(hb:b<4294967296):a|||b<4294967296:=Nat.or_lt_two_pow (n:=32) ha hb
theorem Tk {a b:Nat}(ha:a<4294967296):a&&& b<4294967296:=Nat.lt_of_le_of_lt Nat.and_le_left ha
theorem Arq (x:Nat)(h:x<4294967296):Acq x<4294967296:=Th (Th (Ka x 7 h (by decide) (by decide)) (Ka x 18 h (by decide) (by decide))) (by omega)
theorem Ayw (x:Nat)(h:x<4294967296):Adz x<4294967296:=Th (Th (Ka x 17 h (by decide) (by decide)) (Ka x 19 h (by decide) (by decide))) (by omega)
theorem A1d (x:Nat)(h:x<4294967296):Wp x<4294967296:=Th (Th (Ka x 6 h (by decide) (by decide)) (Ka x 11 h (by decide) (by decide))) (Ka x 25 h (by decide) (by decide))
theorem A3k (x:Nat)(h:x<4294967296):Abr x<4294967296:=Th (Th (Ka x 2 h (by decide) (by decide)) (Ka x 13 h (by decide) (by decide))) (Ka x 22 h (by decide) (by decide))
theorem Avw (e f g:Nat)(a:e<4294967296):Uz e f g<4294967296:=Aid (Tk a) (Tk (by omega))
theorem Asb (a b c:Nat)(ha:a<4294967296)(hb:b<4294967296):Zg a b c<4294967296:=Aid (Aid (Tk ha) (Tk ha)) (Tk hb)
def Wz (t:By)(i:Nat):Nat:=Bh ((t.drop (4*i)).take 4)
def Qc (t:By):Nat->List Nat
 |0=>[]
 |n+1=>Qc t n++[Wz t n]
def Ad7 (w:List Nat)(i:Nat):Nat:=(Adz (w.getD (i-2) 0)+w.getD (i-7) 0+Acq (w.getD (i-15) 0)+w.getD (i-16) 0)%4294967296
def It (t:By):Nat->List Nat
 |0=>Qc t 16
 |n+1=>It t n++[Ad7 (It t n) (n+16)]
def Si (t:By):List Nat:=It t 48
theorem Ahn (t:By):∀n,(Qc t n).length=n
 |0=>rfl
 |n+1=>by simp[Qc,Ahn t n]
theorem Ab1 (t:By):∀n,(It t n).length=n+16
 |0=>Ahn t 16
 |n+1=>by simp[It,Ab1 t n]
theorem Atr (t:By)(i:Nat):Wz t i<4294967296:=by
 have h:=Ady ((t.drop (4*i)).take 4);have a:((t.drop (4*i)).take 4).length<=4:=by rw[Fr];omega
 have b:256^((t.drop (4*i)).take 4).length<=256^4:=Nat.pow_le_pow_right (by decide) a;unfold Wz;omega
theorem Ajl (t:By):∀n,∀x∈Qc t n,x<4294967296
 |0,x,a=>by simp[Qc]at a
 |n+1,x,a=>by
  rw[Qc,As]at a;rcases a with a|a
  ·exact Ajl t n x a
  ·simp at a;rw[a];exact Atr t n
theorem Ah0 (t:By):∀n,∀x∈It t n,x<4294967296
 |0,x,a=>Ajl t 16 x a
 |n+1,x,a=>by
  rw[It,As]at a;rcases a with a|a
  ·exact Ah0 t n x a
  ·simp at a;rw[a];exact Gs _ (by decide)
theorem Yp {l:List Nat}{i:Nat}(h:∀x∈l,x<4294967296):l.getD i 0<4294967296:=by
 by_cases a:i<l.length
 ·have:=h l[i] (List.getElem_mem a);simpa [Az a]using this
 ·simp[Sk (by omega:l.length<=i)]
def rnd (k w:Nat)(s:St):St:=
 {a:=(s.h+Wp s.e+Uz s.e s.f s.g+k+w+(Abr s.a+Zg s.a s.b s.c))%4294967296,b:=s.a,c:=s.b,d:=s.c,
  e:=(s.d+(s.h+Wp s.e+Uz s.e s.f s.g+k+w))%4294967296,f:=s.e,g:=s.f,h:=s.g}
def Zm (w:List Nat)(s:St):Nat->St
 |0=>s
 |n+1=>rnd (Gk.getD n 0) (w.getD n 0) (Zm w s n)
def Zx (x i:St):St:=
 {a:=(x.a+i.a)%4294967296,b:=(x.b+i.b)%4294967296,c:=(x.c+i.c)%4294967296,d:=(x.d+i.d)%4294967296,
  e:=(x.e+i.e)%4294967296,f:=(x.f+i.f)%4294967296,g:=(x.g+i.g)%4294967296,h:=(x.h+i.h)%4294967296}
def Mq (s:St)(t:By):St:=Zx (Zm (Si t) s 64) s
theorem Azo (k w:Nat){s:St}(h:s.ok):(rnd k w s).ok:=⟨Gs _ (by decide),h.a,h.b,h.c,Gs _ (by decide),h.e,h.f,h.g⟩
theorem Aqq (w:List Nat){s:St}(h:s.ok):∀n,(Zm w s n).ok
 |0=>h
 |n+1=>Azo _ _ (Aqq w h n)
theorem A32 (x a:St):(Zx x a).ok:=⟨Gs _ (by decide),Gs _ (by decide),Gs _ (by decide),Gs _ (by decide),Gs _ (by decide),Gs _ (by decide),Gs _ (by decide),Gs _ (by decide)⟩
theorem Amb (s:St)(t:By):(Mq s t).ok:=A32 _ _
def Tm:St:=⟨1779033703,3144134277,1013904242,2773480762,1359893119,2600822924,528734635,1541459225⟩
theorem Air:Tm.ok:=by constructor<;>decide
def Wo (s:St)(t:By):Nat->St
 |0=>s
 |n+1=>Mq (Wo s t n) ((t.drop (64*n)).take 64)
def Vo (n:Nat):By:=128::List.replicate ((119-n%64)%64) 0++Af (8*n) 8
def digest (s:St):By:=s.list.flatMap fun x=>Af x 4
def Dz (t:By):By:=digest (Wo Tm (t++Vo t.length) ((t.length+72)/64))
def Vt (n:Nat):Nat:=(119-n%64)%64
theorem Anl (n:Nat):Vo n=(128::List.replicate (Vt n) 0)++Af (8*n) 8:=rfl
theorem Ag8 (n:Nat):(Vo n).length=Vt n+9:=by simp[Anl,Cb]
theorem Ak1 (n:Nat):Vt n<64:=Gs _ (by decide)
theorem Avr (n:Nat):n+(Vt n+9)=64*((n+72)/64):=by unfold Vt;omega
def Ze (s:St)(k:Nat):By:=(s.list.take k).flatMap fun x=>Af x 4
theorem Aiz (s:St)(k:Nat)(hk:k<8):Ze s (k+1)=Ze s k++Af (s.list.getD k 0) 4:=by
 have a:k<s.list.length:=by simpa [St.list]using hk
 unfold Ze;rw[Lr a,Gh];simp[Az a]
theorem Apa (s:St)(k:Nat)(hk:k<=8):(Ze s k).length=4*k:=by
 induction k with
 |zero=>rfl
 |succ k ih=>rw[Aiz s k (by omega),Bb,ih (by omega),Cb];omega
theorem Azf (s:St):(digest s).length=32:=Apa s 8 (by omega)
theorem Yg (t:By):(Dz t).length=32:=Azf _
structure Ho (st:St)(buf:By)(T:By):Prop where
 st_:st=Wo Tm T (T.length/64)
 len:buf.length=64
 buf_:buf.take (T.length%64)=T.drop (64*(T.length/64))
theorem Aez (s:St)(T t:By):∀n,64*n<=T.length->Wo s (T++t) n=Wo s T n
 |0,_=>rfl
 |n+1,h=>by have ih:=Aez s T t n (by omega);simp only[Wo];rw[ih,Oo (by omega),Sj (by simp;omega)]
theorem Ho.start:Ho Tm (List.replicate 64 0) []:=⟨rfl,by simp,by simp⟩
theorem Ho.step {st:St}{a T:By}(h:Ho st a T)(c:UInt8)(d:(T.length+1)%64≠0):Ho st (a.set (T.length%64) c) (T++[c]):=by
 have hd:(T.length+1)/64=T.length/64:=by omega
 have b:(T.length+1)%64=T.length%64+1:=by omega
 refine⟨?_,by simp[h.len],?_⟩
 ·rw[Bb,List.length_singleton,hd,Aez _ _ _ _ (by omega)];exact h.st_
 ·rw[Bb,List.length_singleton,hd,b,Oo (by omega),<-h.buf_];rw[Lr (by simp[h.len];omega)];simp[List.take_set_of_le]
theorem Ho.full {st:St}{a T:By}(h:Ho st a T)(c:UInt8)(hz:(T.length+1)%64=0):Ho (Mq st (a.set (T.length%64) c)) (a.set (T.length%64) c) (T++[c]):=by
 have hd:(T.length+1)/64=T.length/64+1:=by omega
 have d:T.length%64=63:=by omega
 have hb:a.set (T.length%64) c=T.drop (64*(T.length/64))++[c]:=by
  rw[<-h.buf_,d];have b:=h.len;apply Vy
  ·simp[b]
  ·intro i h1 h2;by_cases e:i=63
   ·subst e;simp[b]
   ·have f:i<63:=by simp[b]at h1;omega
    rw[List.getElem_set_ne (by omega),List.getElem_append_left (by simp[b];omega)];simp
 refine⟨?_,by simp[h.len],?_⟩
 ·rw[Bb,List.length_singleton,hd,Wo,Aez _ _ _ _ (by omega),<-h.st_,hb]
  congr 1
  rw[Oo (by omega),Du];simp;omega
 ·rw[Bb,List.length_singleton,hd,hz];simp;omega
theorem Ho.digest {st:St}{a T:By}(h:Ho st a (T++Vo T.length)):digest st=Dz T:=by rw[Dz,h.st_,Bb,Ag8,Avr,Nat.mul_div_cancel_left _ (by decide)]
def Dh (a b:By):By:=List.zipWith (fun x c=>x^^^c) a b
theorem Uh (a b:By)(h:a.length=b.length):(Dh a b).length=a.length:=by simp[Dh,h]
def Ww (key:By):By:=if 64<key.length then Dz key else key
theorem Aoc (key:By):(Ww key).length<=64:=by
 unfold Ww;split
 ·rw[Yg];omega
 ·omega
def Zc (key:By):By:=Ww key++List.replicate (64-(Ww key).length) 0
theorem Adc (key:By):(Zc key).length=64:=by have:=Aoc key;simp[Zc];omega
def Pr (key:By):By:=Dh (Zc key) (List.replicate 64 54)
def Qm (key:By):By:=Dh (Zc key) (List.replicate 64 92)
theorem Ajs (key:By):(Pr key).length=64:=by unfold Pr;rw[Uh _ _ (by rw[Adc];simp),Adc]
theorem Ak4 (key:By):(Qm key).length=64:=by unfold Qm;rw[Uh _ _ (by rw[Adc];simp),Adc]
def Jk (key t:By):By:=Dz (Qm key++Dz (Pr key++t))
theorem Ain (key t:By):(Jk key t).length=32:=Yg _
def Nl (pass salt:By)(i:Nat):Nat->By
 |0=>Jk pass (salt++Af i 4)
 |r+1=>Jk pass (Nl pass salt i r)
def Mb (pass salt:By)(i:Nat):Nat->By
 |0=>Nl pass salt i 0
 |r+1=>Dh (Mb pass salt i r) (Nl pass salt i (r+1))
theorem Abu (pass salt:By)(i r:Nat):(Nl pass salt i r).length=32:=by cases r<;>exact Ain _ _
theorem Af1 (pass salt:By)(i r:Nat):(Mb pass salt i r).length=32:=by
 induction r with
 |zero=>exact Abu _ _ _ _
 |succ r ih=>show(Dh _ _).length=32;rw[Uh _ _ (by rw[ih,Abu]),ih]
def Uq (pass salt:By)(r:Nat):Nat->By
 |0=>[]
 |m+1=>Uq pass salt r m++Mb pass salt (m+1) r
theorem Apx (pass salt:By)(r m:Nat):(Uq pass salt r m).length=32*m:=by
 induction m with
 |zero=>rfl
 |succ m ih=>rw[Uq,Bb,ih,Af1];omega
def Wx (a:Int):Nat:=(a-1).toNat
def Su (pass salt:By)(a:Int)(size:Nat):By:=(Uq pass salt (Wx a) ((size+31)/32)).take size
def Xh (t:By)(i:Nat):Nat:=(t.getD i 0).toNat
def Is (t:By):By:=t.map fun b=>UInt8.ofNat (Hd b.toNat)
theorem Aa2 (t:By):(Is t).length=t.length:=by simp[Is]
def Mc (t:By):By:=(List.range 16).map fun i=>t.getD ((i+4*(i%4))%16) 0
theorem Ace (t:By):(Mc t).length=16:=by simp[Mc]
def Abh (t:By)(i:Nat):Nat:=Ph (Xh t (i/4*4+i%4)) (Xh t (i/4*4+(i+1)%4)) (Xh t (i/4*4+(i+2)%4)) (Xh t (i/4*4+(i+3)%4))
def Lk (t:By):By:=(List.range 16).map fun i=>UInt8.ofNat (Abh t i)
theorem Afg (t:By):(Lk t).length=16:=by simp[Lk]
theorem A0i (a b c d:Nat):Ph a b c d<256:=by unfold Ph;exact Ou (n:=8) (Ou (n:=8) (Ou (n:=8) (Yy _ _ (by decide)) (Yy _ _ (by decide))) (Yy _ _ (by decide))) (Yy _ _ (by decide))
theorem A3t (t:By)(i:Nat)(a:i<16):Xh (Lk t) i=Abh t i:=by unfold Xh Lk;rw[Ea,Fq,List.getElem?_range a];show(UInt8.ofNat (Abh t i)).toNat=_;exact(UInt8.toNat_ofNat' ..).trans (Xz (A0i _ _ _ _))
def Ol (w:By)(r:Nat):By:=(w.drop (16*r)).take 16
theorem Agb (w:By)(r:Nat)(hw:w.length=240)(hr:r<=14):(Ol w r).length=16:=by simp[Ol,hw];omega
def Ju (w t:By):Nat->By
 |0=>Dh t (Ol w 0)
 |r+1=>Dh (if r+1<14 then Lk (Mc (Is (Ju w t r)))else Mc (Is (Ju w t r))) (Ol w (r+1))
def Cy (w t:By):By:=Ju w t 14
theorem Anh (s:By)(r:Nat):(if r+1<14 then Lk (Mc (Is s))else Mc (Is s)).length=16:=by
 split
 ·exact Afg _
 ·exact Ace _
theorem Amq (w t:By)(r:Nat)(hw:w.length=240)(a:t.length=16)(hr:r<=14):(Ju w t r).length=16:=by
 cases r with
 |zero=>rw[Ju,Uh _ _ (by rw[a,Agb w 0 hw (by omega)]),a]
 |succ r=>rw[Ju,Uh _ _ (by rw[Anh,Agb w _ hw hr]),Anh]
theorem Wd (w t:By)(hw:w.length=240)(a:t.length=16):(Cy w t).length=16:=Amq w t 14 hw a (Ak _)
theorem Amk:∀a:Fin 256,Ox 2 a.val=Hp a.val:=by decide+kernel
theorem Ass:∀a:Fin 256,Ox 3 a.val=Hp a.val^^^a.val:=by decide+kernel
theorem Aq0:∀a:Fin 256,Ox 1 a.val=a.val:=by decide+kernel
theorem As3:∀a:Fin 256,Ox a.val 2=Hp a.val:=by decide+kernel
theorem Yc (v:Nat)(h:v<256):Hp v<256:=by have:=Amk ⟨v,h⟩;dsimp only at this;rw[<-this];exact Yy _ _ (by decide)
theorem Jr {a b:Nat}(ha:a<256)(hb:b<256):a^^^b<256:=Ou (n:=8) ha hb
theorem Aeh (a b c d:Nat)(ha:a<256)(hb:b<256)(g:c<256)(hd:d<256):a^^^(a^^^b^^^c^^^d)^^^Hp (a^^^b)=Ph a b c d:=by
 have f1:=Amk ⟨a,ha⟩;have f2:=Ass ⟨b,hb⟩;have f:=Aq0 ⟨c,g⟩;have e:=Aq0 ⟨d,hd⟩;dsimp only at f1 f2 f e;unfold Ph;rw[f1,f2,f,e,Aw4 a b ha hb];generalize Hp a=x;generalize Hp b=y;have:a^^^(a^^^b^^^c^^^d)^^^(x^^^y)=(a^^^a)^^^(x^^^(y^^^b)^^^c^^^d):=by ac_rfl
 rw[this,Nat.xor_self,Nat.zero_xor]
def Abo (x:Nat):Nat:=x^^^2*x%256
def Abb (x:Nat):Nat:=x^^^4*x%256
def Abm (x:Nat):Nat:=x^^^16*x%256
def Aim (x:Nat):Nat:=if 128<=x then x^^^9 else x
def Ab4 (x:Nat):Nat:=Aim (Abm (Abb (Abo x)))
def Nm (x n:Nat):Nat:=x*2^n%256|||x/2^(8-n)
def Aak (q:Nat):Nat:=99^^^q^^^Nm q 1^^^Nm q 2^^^Nm q 3^^^Nm q 4
def Ob:Nat->Nat
 |0=>1
 |k+1=>Ob k^^^Hp (Ob k)
def Sb:Nat->Nat
 |0=>1
 |k+1=>Ab4 (Sb k)
def Pj:Nat->List Nat
 |0=>(List.replicate 256 0).set 0 99
 |k+1=>(Pj k).set (Ob (k+1)) (Aak (Sb (k+1)))
theorem A15:∀a:Fin 256,Ab4 a.val<256/\Aak a.val<256:=by decide+kernel
theorem Aos (k:Nat):Ob k<256:=by
 induction k with
 |zero=>decide
 |succ k ih=>exact Jr ih (Yc _ ih)
theorem Al2 (k:Nat):Sb k<256:=by
 induction k with
 |zero=>decide
 |succ k ih=>exact(A15 ⟨Sb k,ih⟩).1
theorem Agp (k:Nat):(Pj k).length=256:=by
 induction k with
 |zero=>rw[Pj,Ht,Tu]
 |succ k ih=>rw[Pj,Ht,ih]
theorem Ajb:Pj 255=Gc:=by decide+kernel
def Ar (t:By)(n:Nat):By:=t.take n++List.replicate (n-t.length) 0
theorem Jm (t:By)(n:Nat):(Ar t n).length=n:=by simp[Ar];omega
theorem Vh (t:By)(n:Nat)(h:t.length=n):Ar t n=t:=by simp[Ar,<-h]
def Mw:Nat->Nat
 |0=>1
 |q+1=>Ox (Mw q) 2
theorem Ahk (q:Nat):Mw q<256:=by
 cases q with
 |zero=>decide
 |succ q=>show Ox (Mw q) 2<256;exact Yy _ _ (Ahk q)
def Vd (w:By)(i:Nat):By:=(w.drop (4*i-4)).take 4
def Ri (w:By)(i:Nat):By:=
 if i%8=0 then Dh (Is ((Vd w i).drop 1++(Vd w i).take 1)) [UInt8.ofNat (Mw (i/8-1)),0,0,0]
 else if i%4=0 then Is (Vd w i)else Vd w i
def Ct (key:By):Nat->By
 |0=>key
 |j+1=>Ct key j++Dh (Ri (Ct key j) (j+8)) (((Ct key j).drop (4*j)).take 4)
def Fc (key:By):By:=Ct key 52
theorem Ayn (w:By)(i:Nat)(hw:w.length=4*i)(a:1<=i):(Vd w i).length=4:=by simp[Vd,hw];omega
theorem Auw (w:By)(i:Nat)(hw:w.length=4*i)(a:1<=i):(Ri w i).length=4:=by
 have h:=Ayn w i hw a;unfold Ri;split
 ·rw[Uh _ _ (by rw[Aa2];simp[h]),Aa2];simp[h]
 ·split
  ·rw[Aa2,h]
  ·exact h
theorem Ae1 (key:By)(hk:key.length=32):∀j,(Ct key j).length=32+4*j:=by
 intro j
 induction j with
 |zero=>simpa [Ct]using hk
 |succ j ih=>have h1:=Auw (Ct key j) (j+8) (by omega) (by omega);rw[Ct,Bb,Uh _ _ (by rw[h1];simp[ih]),h1,ih];omega
theorem Acn (key:By)(hk:key.length=32):(Fc key).length=240:=Ae1 key hk 52
def Ld (l:By):List Nat:=
 match _h:l with
 | []=>[]
 |_::_=>Bh (Ar l 16)::Ld (l.drop 16)
termination_by l.length
decreasing_by subst _h;simp;omega
theorem Avh:Ld []=[]:=by rw[Ld]
theorem A3a (l:By)(h:l≠[]):Ld l=Bh (Ar l 16)::Ld (l.drop 16):=by
 cases l with
 |nil=>exact absurd rfl h
 |cons a l=>rw[Ld]
def Fk (w a:By)(n:Nat)(l:By):By:=
 match _h:l with
 | []=>[]
 |_::_=>Dh (l.take 16) (Cy w (a++Af n 4))++Fk w a (n+1) (l.drop 16)
termination_by l.length
decreasing_by subst _h;simp;omega
theorem Zf (w a:By)(n:Nat):Fk w a n []=[]:=by rw[Fk]
theorem Aat (w b:By)(n:Nat)(l:By)(h:l≠[]):Fk w b n l=Dh (l.take 16) (Cy w (b++Af n 4))++Fk w b (n+1) (l.drop 16):=by
 cases l with
 |nil=>exact absurd rfl h
 |cons a l=>rw[Fk]
def Acx (w:By):Nat:=Bh (Cy w (List.replicate 16 0))
def Ym (a b:By):Nat:=8*a.length*2^64+8*b.length
def Pf (w a c:By):Nat:=Na (Acx w) 0 (Ld a++Ld c++[Ym a c])
def Se (w a:By):Nat:=Bh (Cy w (a++Af 1 4))
def Mp (w b a c:By):By:=Af (Pf w a c^^^Se w b) 16
theorem Ah5 (w b a c:By):(Mp w b a c).length=16:=Cb 16 _
theorem Ajf:∀(n v:Nat),Bh (Af v n)=v%256^n:=by
 intro n
 induction n with
 |zero=>intro v;simp[Af,Bh,Nat.mod_one]
 |succ n ih=>intro v;rw[Af,Apy,ih,Nat.pow_succ,Nat.mul_comm (256^n) 256,Nat.mod_mul];simp;omega
theorem Agl (n u v:Nat)(a:u<256^n)(b:v<256^n)(h:Af u n=Af v n):u=v:=by
 have:=congrArg Bh h
 rwa [Ajf,Ajf,Xz a,Xz b]at this
theorem Ayp (a b:By):Bh (a++b)=Bh a*256^b.length+Bh b:=by
 have go:∀(b:By) (v:Nat),b.foldl (fun v b=>v*256+b.toNat) v=v*256^b.length+Bh b:=by
  intro b
  induction b with
  |nil=>intro v;simp[Bh]
  |cons x b ih=>intro v;have h1:=ih (v*256+x.toNat);have h2:=ih (0*256+x.toNat);unfold Bh;rw[So,So,h1,h2,Fh,Nat.pow_succ,Nat.mul_comm (256^b.length) 256,<-Nat.mul_assoc];generalize 256^b.length=p;rw[Nat.add_mul,Nat.zero_mul,Dq];omega
 unfold Bh;rw[List.foldl_append,go];rfl
theorem Aoj:∀(b a v:Nat),Af v (a+b)=Af (v/256^b) a++Af v b:=by
 intro b
 induction b with
 |zero=>intro a v;simp[Af]
 |succ b ih=>intro a v;rw[show a+(b+1)=(a+b)+1 by omega,Af,ih,Af,Aag,Nat.pow_succ,Nat.mul_comm 256,Cw]
theorem Ayv:∀(n v:Nat),Af (v%256^n) n=Af v n:=by
 intro n
 induction n with
 |zero=>intro v;rfl
 |succ n ih=>
  intro v;rw[Af,Af];have h1:v%256^(n+1)/256=v/256%256^n:=by rw[Nat.pow_succ,Nat.mul_comm,Nat.mod_mul_right_div_self]
  have h2:v%256^(n+1)%256=v%256:=by rw[Nat.pow_succ];exact Nat.mod_mul_left_mod _ _ _
  rw[h1,h2,ih]
theorem Ato (e:Nat):Af (e/2^64) 8++Af (e%2^64) 8=Af e 16:=by have c1:=Aoj 8 8 e;rw[show 8+8=16 from rfl]at c1;rw[c1,show(2:Nat)^64=256^8 from rfl,Ayv 8]
theorem A0x (t:By)(b:t.length=16):Bh t/2^64=Bh (t.take 8)/\Bh t%2^64=Bh (t.drop 8):=by
 have e:t=t.take 8++t.drop 8:=by simp
 have l2:(t.drop 8).length=8:=by simp[b]
 have a:=Ady (t.drop 8);rw[l2]at a;have c:Bh t=Bh (t.take 8)*256^8+Bh (t.drop 8):=by conv=>lhs;rw[e];rw[Ayp,l2]
 have:(256:Nat)^8=2^64:=rfl;rw[this]at c a;omega
theorem Aeu (a b:By)(h:a.length<=b.length):(Dh a b).length=a.length:=by simp[Dh];omega
theorem Ahl:∀(a b:By),a.length<=b.length->Dh (Dh a b) b=a
 | [],b,_=>by simp[Dh]
 |x::a,[],h=>by simp at h
 |x::a,y::b,h=>by have ih:=Ahl a b (by simpa using h);unfold Dh at ih⊢;rw[List.zipWith_cons_cons,List.zipWith_cons_cons,ih,UInt8.xor_assoc,UInt8.xor_self,UInt8.xor_zero]
theorem Aho (a:By)(n:Nat)(h:a.length=12):(a++Af n 4).length=16:=by simp[Cb,h]
theorem Aiv (w a:By)(hw:w.length=240)(m:a.length=12):∀(k:Nat) (l:By) (n:Nat),l.length<=k->(Fk w a n l).length=l.length/\Fk w a n (Fk w a n l)=l:=by
 intro k
 induction k with
 |zero=>intro l n h;have:l=[]:=Ls.1 (by omega);subst this;rw[Zf,Zf];exact⟨rfl,rfl⟩
 |succ k ih=>
  intro l n h;by_cases c:l=[]
  ·subst c;rw[Zf,Zf];exact⟨rfl,rfl⟩
  ·obtain⟨h1,h2⟩:=ih (l.drop 16) (n+1) (by have:0<l.length:=Pn.2 c;simp;omega);have f:=Wd w (a++Af n 4) hw (Aho a n m);have j:(Dh (l.take 16) (Cy w (a++Af n 4))).length=(l.take 16).length:=Aeu _ _ (by rw[f];simp;omega)
   have b:(Fk w a n l).length=l.length:=by rw[Aat _ _ _ _ c,Bb,j,h1];simp;omega
   have o:Fk w a n l≠[]:=by intro e;rw[e]at b;exact c (Ls.1 b.symm)
   refine⟨b,?_⟩;rw[Aat _ _ _ _ o];have e:=Aat w a n l c;by_cases q:16<=l.length
   ·have i:(Dh (l.take 16) (Cy w (a++Af n 4))).length=16:=by rw[j];simp;omega
    have g:(Fk w a n l).take 16=Dh (l.take 16) (Cy w (a++Af n 4)):=by rw[e,List.take_left' i]
    have d:(Fk w a n l).drop 16=Fk w a (n+1) (l.drop 16):=by rw[e,List.drop_left' i]
    rw[g,d,Ahl _ _ (by rw[f];simp;omega),h2,Jb]
   ·have hd:l.drop 16=[]:=Xu (by omega);have p:l.take 16=l:=Du (by omega);rw[hd,Zf,Ff,p]at e;have g:(Fk w a n l).take 16=Fk w a n l:=Du (by rw[b];omega);have d:(Fk w a n l).drop 16=[]:=Xu (by rw[b];omega);rw[g,d,Zf,Ff,e,Ahl _ _ (by rw[f];omega)]
theorem Aa1 (w a:By)(hw:w.length=240)(b:a.length=12)(n:Nat)(l:By):(Fk w a n l).length=l.length:=(Aiv w a hw b l.length l n (Ak _)).1
theorem Azz (w a:By)(hw:w.length=240)(b:a.length=12)(n:Nat)(l:By):Fk w a n (Fk w a n l)=l:=(Aiv w a hw b l.length l n (Ak _)).2
theorem Ah3 (l:By)(h:l.length=16):Bh l<2^128:=by have:=Ady l;rw[h]at this;exact this
theorem Aro (w:By)(hw:w.length=240):Acx w<2^128:=Ah3 _ (Wd w _ hw (by simp))
end Go.Proofs.YtojgilcdgccojaaGreatDoor
