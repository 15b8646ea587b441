import Derived.Test.YtleegaihbgbcjabGreatDoorT13
import Derived.WalkMore
set_option linter.unusedVariables false
set_option linter.unusedSimpArgs false
set_option maxRecDepth 100000
set_option maxHeartbeats 16000000
open Go.Proofs.Tryz
namespace Go.Proofs.YtleegaihbgbcjabGreatDoor
open Go.RowKit Num Bn Ow
theorem DG(x:Nat)(n:Int)(hx:x<18446744073709551616)(hn: -9223372036854775808<=n/\n<=9223372036854775807)(w:World):
  Qq 178 #[.int .u64 x,.int .i64 n] w (.tuple #[.int .i64 (gI x n),.int .u64 (gH x n)]):=by
 by_cases hw:n<0\/62<n
 .rw[show gI x n=0 by unfold gI;rw[if_pos hw],show gH x n=0 by unfold gH;rw[if_pos hw]];have W:Hid (∀w,Qx 198 #[.int .i64 n] w (.bool false)):=sN n hw
  clear hw;go_enter func178,ntmps178;go_wp2_with fail;refine mr (W.out _) fun w1 hw1=>?_;rw[hw1];clear hw1 w1;go_wp2;go_ret2;exact⟨rfl,Below.refl _ _⟩
 have W:Hid (∀w,Qx 198 #[.int .i64 n] w (.bool true)):=sO n (by omega) (by omega)
 rw[show gI x n=cnt x n.toNat by unfold gI;rw[if_neg hw],show gH x n=off x n.toNat by unfold gH;rw[if_neg hw]];obtain⟨m,rfl⟩:=Int.eq_ofNat_of_zero_le (show 0<=n by omega);rw[Int.toNat_natCast]
 have hm:m<=62:=by omega
 clear hw;have R:Hid (∀w,Qq 199 #[.int .i64 0] w (.agg (wv (rowP 62 0)).toArray)):=p9 0 (by omega)
 have G:Hid (∀(g i:Nat),i<62->∀w,aa w g (wv (rowP 62 i)) 225->Calls prog 200 #[.pointer (some ⟨g,0,none⟩),.int .i64 i] w fun e w'=>e=.returned (.tuple #[])/\aa w' g (wv (rowP 62 (i+1))) 225/\Below g w w'):=wG
 have x0:(0:Int)<=(x:Int):=by omega
 go_enter func178,ntmps178;go_wp2_with fail;refine mr (W.out _) fun w1 hw1=>?_;rw[hw1];clear hw1 w1 W;go_wp2_with fail;refine mr (R.out _) fun w1 hb1=>?_;go_wp2_with (refine nF ?_)
 intro w2 hc2 hb2 hs2;go_wp2_with (refine mB w1.heap.size _ _ rfl rfl hc2 (by simp) (length_rowP 62 0) ?_);intro w3 hc3 hb3;have hB:=(bg hb1 hb2).trans (hb3.mono hb1.size)
 have hg:w.heap.size<=w1.heap.size:=hb1.size;clear hb1 hc2 hb2 hs2 hb3 w2 R;go_wp2;generalize w1.heap.size=g at *;clear w1
 go_loopw [6,7,9,15] (fun c l _ i wr=>∃p:Nat,p<=m/\i=.int .i64 p/\c=.int .i64 (cnt x p)/\l=.int .u64 (off x p)/\aa wr g (wv (rowP 62 p)) 225/\Below w.heap.size w wr) (fun _ _ _ i _=>m-(intOf i).toNat)
 case atStart=>exact⟨0,Nat.zero_le _,rfl,rfl,rfl,hc3,hB⟩
 case round=>
  obtain⟨q,hq,rfl,rfl,rfl,hc,hb⟩:=hrel;clear hc3 hB;obtain⟨c,hcq⟩:∃c,Hid (c=cnt x q):=⟨_,rfl⟩;obtain⟨O,hOq⟩:∃O,Hid (O=off x q):=⟨_,rfl⟩;have c62:c<=q:=by rw[hcq.out];exact dL x q
  have lt:=ou x q;have l62:=gW q (cnt x q) (by omega);have bO:O<4611686018427387904:=by rw[hOq.out];omega
  rw[<-hcq.out,<-hOq.out];clear lt l62;by_cases hp:q<m
  .have hp2:(q:Int)<(m:Int):=by omega
   have q64:(q:Int)<64:=by omega
   have D:Hid (∀w,aa w g (wv (rowP 62 q)) 225->Calls prog 200 #[.pointer (some ⟨g,0,none⟩),.int .i64 q] w fun e w'=>e=.returned (.tuple #[])/\aa w' g (wv (rowP 62 (q+1))) 225/\Below g w w'):=G.out g q (by omega)
   by_cases hbit:x/2^q%2=1
   .have T:bits .and .u64 ((x:Int)/2^q) 1=1:=by rw[kQ _ _ x0 (by omega),Int.toNat_natCast,hbit];rfl
    have ec:cnt x (q+1)=c+1:=by rw[cnt,hbit,hcq.out]
    have eo:off x (q+1)=O+ch q (c+1):=by rw[off,if_pos hbit,ec,hOq.out]
    have e1:=kM hc (c+1) (by rw[length_rowP];omega);rw[m6 _ _ _ (by omega)]at e1;have b1:=gW q (c+1) (by omega);have HC:Hid (cnt x (q+1)=c+1):=ec;have l1:(c:Int)+1<63:=by omega
    have ez:((c:Int)+1).toNat=c+1:=by omega
    generalize ch q (c+1)=Z at *;have HO:Hid (off x (q+1)=O+Z):=eo;clear ec eo;have HCel:Hid (aa wr g (wv (rowP 62 q)) 225):=hc;clear hc G;go_wp2_with fail;refine(D.out _ HCel.out).mono ?_
    rintro e w4 ⟨rfl,hc4,hb4⟩;have hb5:=hb.trans (hb4.mono hg);clear hb hb4 e1;go_wp2;exact⟨⟨q+1,by omega,by go_num,by rw[HC.out];go_num,by rw[HO.out];go_num,hc4,hb5⟩,by simp only[intOf];omega⟩
   .have T:bits .and .u64 ((x:Int)/2^q) 1=0:=by rw[kQ _ _ x0 (by omega),Int.toNat_natCast,show x/2^q%2=0 by omega];rfl
    have HC:Hid (cnt x (q+1)=c):=by show _=_;rw[cnt,hcq.out];omega
    have HO:Hid (off x (q+1)=O):=by show _=_;rw[off,if_neg hbit,hOq.out,Nat.add_zero]
    have HCel:Hid (aa wr g (wv (rowP 62 q)) 225):=hc;clear hc G;go_wp2_with fail;refine(D.out _ HCel.out).mono ?_;rintro e w4 ⟨rfl,hc4,hb4⟩;have hb5:=hb.trans (hb4.mono hg);clear hb hb4;go_wp2
    exact⟨⟨q+1,by omega,by go_num,by rw[HC.out],by rw[HO.out],hc4,hb5⟩,by simp only[intOf];omega⟩
  .obtain rfl:q=m:=by omega
   clear G;go_wp2;go_ret2;rw[<-hcq.out,<-hOq.out];exact⟨rfl,hb⟩
theorem zk(a b o:Nat)(ha:a<=62)(hba:b<=a)(ho:o<ch a b)(w:World):
  Qq 186 #[.int .i64 a,.int .i64 b,.int .u64 o] w (.int .u64 (blk a b o)):=by
 have R:Hid (∀w,Qq 199 #[.int .i64 a] w (.agg (wv (rowP 62 a)).toArray)):=p9 a ha;have HSo:Hid (o<ch a b):=ho;clear ho
 go_enter func186,ntmps186;go_wp2_with fail;go_step3;go_wp2_with fail;refine mr (R.out _) fun w1 hb1=>?_;go_wp2_with (refine nF ?_);intro w2 hc2 hb2 hs2
 go_wp2_with (refine mB w1.heap.size _ _ rfl rfl hc2 (by simp) (length_rowP 62 a) ?_);intro w3 hc3 hb3;have hB:=(bg hb1 hb2).trans (hb3.mono hb1.size);have hg:w.heap.size<=w1.heap.size:=hb1.size
 clear hb1 hc2 hb2 hs2 hb3 w2 R;simp only[Act.put,ah,List.set];go_wp2;go_step3;go_wp2;generalize w1.heap.size=g at *;clear w1
 go_loopw [1,2,7,8] (fun kv ov xv pv wr=>∃P K O X:Nat,P<=a/\K<=62/\kv=.int .i64 K/\ov=.int .u64 O/\xv=.int .u64 X/\pv=.int .i64 P/\Hid (O<ch P K/\X+blk P K O=blk a b o/\X%2^P=0)/\aa wr g (wv (rowP 62 P)) 225/\Below w.heap.size w wr) (fun kv _ _ _ _=>(intOf kv).toNat)
 case atStart=>exact⟨a,b,o,0,Nat.le_refl _,by omega,rfl,rfl,rfl,rfl,⟨HSo.out,by omega,by simp⟩,hc3,hB⟩
 case round=>
  obtain⟨P,K,O,X,hP,hK,rfl,rfl,rfl,rfl,hinv,hc,hb⟩:=hrel;clear hc3 hB HSo;by_cases hK0:K=0
  .subst hK0
   have HX:Hid (X=blk a b o):=by
    have:=hinv.out.2.1;rw[kO]at this;exact this
   clear hinv;go_wp2
   (try rw[Exit.noGoto_ret]);go_ret;rw[<-HX.out];exact⟨rfl,hb⟩
  have hK1:(0:Int)<(K:Int):=by omega
  have hK2:0<K:=by omega
  have k63:(K:Int)<63:=by omega
  go_wp2
  go_loopw [2,7,8] (fun ov xv pv wz=>∃P:Nat,P<=a/\ov=.int .u64 O/\xv=.int .u64 X/\pv=.int .i64 P/\Hid (O<ch P K/\X+blk P K O=blk a b o/\X%2^P=0)/\aa wz g (wv (rowP 62 P)) 225/\Below w.heap.size w wz) (fun _ _ pv _=>(intOf pv).toNat)
  case atStart=>exact⟨P,hP,rfl,rfl,rfl,hinv,hc,hb⟩
  case round=>
   obtain⟨Q,hQ,rfl,rfl,rfl,hin2,hcz,hbz⟩:=hrel;clear hinv hc hb
   have Q0:Q≠0:=by
    intro e;subst e;have:=hin2.out.1;rw[nj 0 K (by omega)]at this;omega
   obtain⟨q,rfl⟩:∃q,Q=q+1:=⟨Q-1,by omega⟩;have q0:(0:Int)<((q+1:Nat):Int):=by omega
   have S:Hid (∀w,aa w g (wv (rowP 62 (q+1))) 225->Calls prog 206 #[.pointer (some ⟨g,0,none⟩),.int .i64 ((q+1:Nat):Int)] w fun e w'=>e=.returned (.tuple #[])/\aa w' g (wv (rowP 62 q)) 225/\Below g w w'):=fun w h=>zM g (q+1) (by omega) (by omega) w h
   have HCz:Hid (aa wr g (wv (rowP 62 (q+1))) 225):=hcz;clear hcz;go_wp2_with fail;refine(S.out _ HCz.out).mono ?_;rintro e w4 ⟨rfl,hc4,hb4⟩;have hb5:=hbz.trans (hb4.mono hg);clear hbz hb4 HCz S
   have ez:((q+1:Nat):Int)=(q:Int)+1:=by omega
   rw[ez];have q64:(q:Int)<64:=by omega
   have e1:=kM hc4 K (by rw[length_rowP];omega);rw[m6 _ _ _ (by omega)]at e1;have HC4:Hid (aa w4 g (wv (rowP 62 q)) 225):=hc4;clear hc4;obtain⟨hlt,hX,hM⟩:=hin2.out;clear hin2
   have bO:O<4611686018427387904:=by have:=gW (q+1) K (by omega);omega
   have bX:X<4611686018427387904:=by
    have:=jY a b o;have:2^a<=2^62:=Nat.pow_le_pow_right (by decide) ha;omega
   by_cases hge:ch q K<=O
   .have H:Hid (O-ch q K<ch q (K-1)/\X+2^q+blk q (K-1) (O-ch q K)=blk a b o/\(X+2^q)%2^q=0):=by
     refine⟨?_,?_,uU X q hM⟩
     .obtain⟨j,rfl⟩:∃j,K=j+1:=⟨K-1,by omega⟩;rw[i9]at hlt;rw[Nat.add_sub_cancel];omega
     .rw[nB q K O hK0 hge]at hX;omega
    have HR:Hid (bits .or .u64 (X:Int) (IntKind.u64.wrap (2^q))=((X+2^q:Nat):Int)):=by
     show bits .or .u64 (X:Int) (IntKind.u64.wrap (2^q))=((X+2^q:Nat):Int);rw[shl_one q (by omega),u64_or_nat _ _ (by omega) (fu q (by omega)),ux X q hM]
    have hge2:((ch q K:Nat):Int)<=(O:Int):=by omega
    clear hX hM hlt;generalize ch q K=Z at *;go_wp2;exact⟨⟨q,K-1,O-Z,X+2^q,by omega,by omega,by go_num,by go_num,congrArg (Value.int .u64) HR.out,by go_num,H,HC4.out,hb5⟩,by simp only[intOf];omega⟩
   .have H:Hid (O<ch q K/\X+blk q K O=blk a b o/\X%2^q=0):=by
     refine⟨by omega,?_,qC X q hM⟩;rw[nA q K O hK0 hge]at hX;exact hX
    have hge2:¬((ch q K:Nat):Int)<=(O:Int):=by omega
    clear hX hM hlt;generalize hZ:ch q K=Z at *;go_wp2;exact⟨⟨q,by omega,rfl,rfl,by go_num,hZ ▸ H,HC4.out,hb5⟩,by simp only[intOf];omega⟩
theorem Jl(n k:Int)(o:Nat)(hn: -9223372036854775808<=n/\n<=9223372036854775807)(hk: -9223372036854775808<=k/\k<=9223372036854775807)(ho:o<18446744073709551616)(w:World):
  Qq 158 #[.int .i64 n,.int .i64 k,.int .u64 o] w (.tuple #[.int .u64 (bkX n k o),.bool (bkB n k o)]):=by
 have C:Hid (∀w0,Qq 185 #[.int .i64 n,.int .i64 k] w0 (.int .u64 (chN n k))):=fun w0=>IG n k hn hk w0;by_cases hc:chN n k<=o
 .rw[show bkX n k o=0 by unfold bkX;rw[if_pos hc],show bkB n k o=false by unfold bkB;simp;omega];have hc2:(chN n k:Int)<=(o:Int):=by omega
  generalize chN n k=Z at *;go_enter func158,ntmps158;go_wp2_with fail;refine mr (C.out _) fun w1 hb=>?_;go_wp2;go_ret2;exact⟨rfl,hb⟩
 .have hin:¬(n<0\/62<n\/k<0\/n<k):=by
   intro h;apply hc;unfold chN;rw[if_pos h];omega
  have eC:chN n k=ch n.toNat k.toNat:=by unfold chN;rw[if_neg hin]
  rw[show bkX n k o=blk n.toNat k.toNat o by unfold bkX;rw[if_neg hc],show bkB n k o=true by unfold bkB;simp;omega];obtain⟨a,rfl⟩:=Int.eq_ofNat_of_zero_le (show 0<=n by omega)
  obtain⟨b,rfl⟩:=Int.eq_ofNat_of_zero_le (show 0<=k by omega);rw[Int.toNat_natCast,Int.toNat_natCast]at *
  have S:Hid (∀w,Qq 186 #[.int .i64 a,.int .i64 b,.int .u64 o] w (.int .u64 (blk a b o))):=zk a b o (by omega) (by omega) (by omega)
  have hc2:¬((chN a b:Nat):Int)<=(o:Int):=by omega
  clear hin eC;generalize chN a b=Z at *;obtain⟨B,hB⟩:∃B,Hid (B=blk a b o):=⟨_,rfl⟩;rw[<-hB.out]at S;go_enter func158,ntmps158;go_wp2_with fail;refine mr (C.out _) fun w1 hb=>?_;clear C
  go_wp2_with fail;refine mr (S.out _) fun w2 hb2=>?_;have hb3:=bg hb hb2;clear S hb hb2;go_wp2;go_ret2;rw[<-hB.out];exact⟨rfl,hb3⟩
end Go.Proofs.YtleegaihbgbcjabGreatDoor
namespace Go.Proofs.YtleegaihbgbcjabGreatDoor
open Go.RowKit Num Bit Bn
theorem ud(m:Nat)(hm:m<=1048576)(w:World):
  Qx 139 #[.int .i64 m] w (.int .i64 (nb m)):=by
 go_enter func139,ntmps139;go_wp2;go_ret;exact⟨dy (by unfold nb;omega),rfl⟩
theorem ua(n:Nat)(hn:n<=1048576)(w:World):
  Qx 142 #[.int .i64 n] w (.int .i64 ((max 1 n+7)/8:Nat)):=by
 go_enter func142,ntmps142;go_wp2
 .go_ret;exact⟨dy (by omega),rfl⟩
 .go_ret;exact⟨dy (by omega),rfl⟩
theorem nU(bit:Bool)(i n:Nat)(h:n<=i)(hi:i<=2097152)(w:World):
  Qx 174 #[.bool bit,.int .i64 i,.int .i64 n] w (.int .i64 (obI bit i n:Nat)):=by
 unfold obI;cases bit with
 | true=>
  go_enter func174,ntmps174;go_wp2;go_ret;exact⟨rfl,rfl⟩
 | false=>
  go_enter func174,ntmps174;go_wp2;go_ret;exact⟨dy (by omega),rfl⟩
theorem ug(s p c wd o:Nat)(hs:s<=16777216)(hp:p<=16777216)(hc:c<=15)(hw:wd<=15)(w:World):
  Qq 143 #[.agg #[.int .i64 s,.int .i64 p],.agg #[.int .i64 c,.int .u64 o],.int .i64 wd] w (.agg #[.int .i64 (s+c:Nat),.int .i64 (p+wd:Nat)]):=by
 have e1:IntKind.i64.wrap ((s:Int)+(c:Int))=((s+c:Nat):Int):=by rw[IntKind.wrap_i64];omega
 have e2:IntKind.i64.wrap ((p:Int)+(wd:Int))=((p+wd:Nat):Int):=by rw[IntKind.wrap_i64];omega
 go_enter func143,ntmps143;go_wp2;refine bodyPost_ret (v:=.agg #[.int .i64 (s+c:Nat),.int .i64 (p+wd:Nat)]) (by simp[results,Tryz.results143,go_sem]) rfl ⟨rfl,?_⟩
 exact((below_alloc w _).alloc (by simp) _).alloc (by simp;omega) _
theorem mE(c o:Nat)(hc:c<=15)(ho:o<ch 15 c)(w:World):
  Qq 102 #[.agg #[.int .i64 c,.int .u64 o]] w (.int .u64 (blk 15 c o:Nat)):=by
 have o62:=gW 15 c (by decide);have e:chN (15:Int) (c:Int)=ch 15 c:=np 15 c (by decide)
 have ex:bkX 15 (c:Int) o=blk 15 c o:=by
  unfold bkX;rw[e,if_neg (by omega)];rfl
 have C:Hid (∀w0,Qq 158 #[.int .i64 15,.int .i64 (c:Int),.int .u64 o] w0 (.tuple #[.int .u64 (blk 15 c o:Nat),.bool (bkB 15 c o)])):=fun w0=>by
  have:=Jl 15 (c:Int) o (by decide) (by omega) (by omega) w0;rw[ex]at this;exact this
 generalize blk 15 c o=X at *;generalize bkB 15 (c:Int) o=Y at *;go_enter func102,ntmps102;go_wp2_with fail;refine mr (C.out _) fun w1 hb=>?_
 have hw1:Below w.heap.size w w1:=(below_alloc w _).trans (hb.mono (by simp));clear hb;go_wp2;go_ret;exact⟨rfl,hw1⟩
theorem ue(x:Nat)(hx:x<18446744073709551616)(w:World):
  Qq 141 #[.int .u64 x] w (.agg #[.int .i64 (cnt x 15:Nat),.int .u64 (off x 15:Nat)]):=by
 have C:Hid (∀w0,Qq 178 #[.int .u64 x,.int .i64 15] w0 (.tuple #[.int .i64 (cnt x 15:Nat),.int .u64 (off x 15:Nat)])):=fun w0=>DG x 15 hx (by decide) w0
 generalize cnt x 15=X at *;generalize off x 15=Y at *;obtain⟨W,hW⟩:∃W,W=w.alloc (.cells #[.int .i64 0,.int .u64 0] 150):=⟨_,rfl⟩;have bW:=aU hW;have B1:=bn hW;go_enter func141,ntmps141
 go_wp2_with fail;rw[<-hW];refine mr (C.out _) fun w1 hb=>?_;have hw1:=bg bW hb;replace B1:=B1.kept hb;have f0:=B1.frozen 0;have f1:=B1.frozen 1;have c0:=B1.cell 0 rfl
 have c1:=B1.cell 1 rfl;clear hb hW C;go_wp2;refine bodyPost_ret (v:=.agg #[.int .i64 (X:Nat),.int .u64 (Y:Nat)]) (by simp[results,Tryz.results141,go_sem,c0,c1]) rfl ⟨rfl,?_⟩
 exact(hw1.setCell (by simp) _).setCell (by simp) _
theorem BW(ys:List Nat)(g cap p x:Nat)(w:World)(hO:Own w g ys)(hp:p<=2097152)(hf:aA ys)(hx:x<18446744073709551616)
  (hR:j_ ys p x):
  Calls prog 133 #[.slice (some ⟨g,0,none⟩) ys.length cap,.int .i64 p,.int .u64 x] w fun e w'=>e=.returned (.tuple #[])/\Own w' g (eH ys p x)/\bh g w w':=by
 obtain⟨h1,h2⟩:=hR;by_cases c1:x*2^(p%64)%18446744073709551616=0
 .by_cases c2:x/2^(64-p%64)=0
  .have A:(IntKind.u64.wrap ((x:Int)*2^(p%64)) != 0)=false:=by rw[ii,jW];simpa using c1
   have B:((x:Int)/2^(64-p%64) != 0)=false:=by rw[iJ,jW];simpa using c2
   have R:Hid (eH ys p x=ys):=by
    unfold eH Hid;simp only[if_pos c1,if_pos c2]
   have S1:=trivial;have S2:=trivial;have S3:Hid (True):=S1;have S4:Hid (True):=S2;clear h1 h2 c1 c2 S1 S2;go_enter func133,ntmps133;go_wp2;go_end0;rw[R.out];exact⟨rfl,hO,bh.refl _ _⟩
  .have l2:=h2 c2;have l2':(p:Int)/64+1<(ys.length:Int):=by omega
   have e2:=hO.cell (p/64+1) l2;have f2:=hO.frozen (p/64+1);have A:(IntKind.u64.wrap ((x:Int)*2^(p%64)) != 0)=false:=by rw[ii,jW];simpa using c1
   have B:((x:Int)/2^(64-p%64) != 0)=true:=by rw[iJ,jW];simpa using c2
   have R:Hid (eH ys p x=(ys.set (p/64+1) (gt ys (p/64+1)|||x/2^(64-p%64)))):=by
    unfold eH Hid;simp only[if_pos c1,if_neg c2]
   have S1:=trivial;have S2:=u64_or_nat (gt ys (p/64+1)) _ (hf _) (Nat.lt_of_le_of_lt (Nat.div_le_self x (2^(64-p%64))) hx);have S3:Hid (True):=S1
   have S4:Hid (bits .or .u64 (gt ys (p/64+1):Int) ((x/2^(64-p%64):Nat):Int)=((gt ys (p/64+1)|||x/2^(64-p%64):Nat):Int)):=S2;clear h1 h2 c1 c2 S1 S2;go_enter func133,ntmps133
   go_wp2;go_end0;rw[R.out,iJ,S4.out];exact⟨rfl,hO.set _ _,(bh.refl _ _).set _ _⟩
 .by_cases c2:x/2^(64-p%64)=0
  .have l1:=h1 c1;have l1':(p:Int)/64<(ys.length:Int):=by omega
   have e1:=hO.cell (p/64) l1;have f1:=hO.frozen (p/64);have A:(IntKind.u64.wrap ((x:Int)*2^(p%64)) != 0)=true:=by rw[ii,jW];simpa using c1
   have B:((x:Int)/2^(64-p%64) != 0)=false:=by rw[iJ,jW];simpa using c2
   have R:Hid (eH ys p x=(ys.set (p/64) (gt ys (p/64)|||x*2^(p%64)%18446744073709551616))):=by
    unfold eH Hid;simp only[if_neg c1,if_pos c2]
   have S1:=u64_or_nat (gt ys (p/64)) _ (hf _) (Nat.mod_lt (x*2^(p%64)) (show 0<18446744073709551616 by decide));have S2:=trivial
   have S3:Hid (bits .or .u64 (gt ys (p/64):Int) ((x*2^(p%64)%18446744073709551616:Nat):Int)=((gt ys (p/64)|||x*2^(p%64)%18446744073709551616:Nat):Int)):=S1;have S4:Hid (True):=S2
   clear h1 h2 c1 c2 S1 S2;go_enter func133,ntmps133;go_wp2;go_end0;rw[R.out,ii,S3.out];exact⟨rfl,hO.set _ _,(bh.refl _ _).set _ _⟩
  .have l1:=h1 c1;have l1':(p:Int)/64<(ys.length:Int):=by omega
   have e1:=hO.cell (p/64) l1;have f1:=hO.frozen (p/64);have l2:=h2 c2;have l2':(p:Int)/64+1<(ys.length:Int):=by omega
   have e2:=hO.cell (p/64+1) l2;have f2:=hO.frozen (p/64+1);have A:(IntKind.u64.wrap ((x:Int)*2^(p%64)) != 0)=true:=by rw[ii,jW];simpa using c1
   have B:((x:Int)/2^(64-p%64) != 0)=true:=by rw[iJ,jW];simpa using c2
   have R:Hid (eH ys p x=((ys.set (p/64) (gt ys (p/64)|||x*2^(p%64)%18446744073709551616)).set (p/64+1) (gt ys (p/64+1)|||x/2^(64-p%64)))):=by
    unfold eH Hid;simp only[if_neg c1,if_neg c2];rw[gt_set ys _ _ _ l1,if_neg (by omega)]
   have S1:=u64_or_nat (gt ys (p/64)) _ (hf _) (Nat.mod_lt (x*2^(p%64)) (show 0<18446744073709551616 by decide))
   have S2:=u64_or_nat (gt ys (p/64+1)) _ (hf _) (Nat.lt_of_le_of_lt (Nat.div_le_self x (2^(64-p%64))) hx)
   have S3:Hid (bits .or .u64 (gt ys (p/64):Int) ((x*2^(p%64)%18446744073709551616:Nat):Int)=((gt ys (p/64)|||x*2^(p%64)%18446744073709551616:Nat):Int)):=S1
   have S4:Hid (bits .or .u64 (gt ys (p/64+1):Int) ((x/2^(64-p%64):Nat):Int)=((gt ys (p/64+1)|||x/2^(64-p%64):Nat):Int)):=S2;clear h1 h2 c1 c2 S1 S2;go_enter func133,ntmps133
   go_wp2;go_end0;rw[R.out,ii,S3.out,iJ,S4.out];exact⟨rfl,(hO.set _ _).set _ _,((bh.refl _ _).set _ _).set _ _⟩
theorem t_(ys:List Nat)(l g cap p x:Nat)(w:World)(hl:ys.length=l)(hO:Own w g ys)(hp:p<=2097152)(hf:aA ys)(hx:x<18446744073709551616)(hR:j_ ys p x):
  Calls prog 133 #[.slice (some ⟨g,0,none⟩) l cap,.int .i64 p,.int .u64 x] w fun e w'=>e=.returned (.tuple #[])/\Own w' g (eH ys p x)/\bh g w w':=by
 subst hl;exact BW ys g cap p x w hO hp hf hx hR
theorem BH(c o n:Nat)(hc:c<=15)(ho:o<ch 15 c)(hn:n<=64)(w:World):
  Qq 156 #[.agg #[.int .i64 c,.int .u64 o],.int .i64 n] w (.agg #[.int .i64 (cnt (blk 15 c o%2^n) 15:Nat),.int .u64 (off (blk 15 c o%2^n) 15:Nat)]):=by
 have C1:Hid (∀w0,Qq 102 #[.agg #[.int .i64 c,.int .u64 o]] w0 (.int .u64 (blk 15 c o:Nat))):=fun w0=>mE c o hc ho w0;have hb0:=jY 15 c o
 have C2:Hid (∀w0,Qx 148 #[.int .i64 n] w0 (.int .u64 ((2^n-1:Nat):Int))):=fun w0=>qE n _ (vf n hn) w0
 have p64:=Nat.pow_le_pow_right (n:=2) (by decide) hn
 have A:Hid (bits .and .u64 ((blk 15 c o:Nat):Int) ((2^n-1:Nat):Int)=((blk 15 c o%2^n:Nat):Int)):=by
  show bits .and .u64 ((blk 15 c o:Nat):Int) ((2^n-1:Nat):Int)=_;rw[u64_and_nat _ _ (by omega) (by omega),Nat.and_two_pow_sub_one_eq_mod]
 have hmod:=Nat.mod_le (blk 15 c o) (2^n)
 have C3:Hid (∀w0,Qq 141 #[.int .u64 ((blk 15 c o%2^n:Nat):Int)] w0 (.agg #[.int .i64 (cnt (blk 15 c o%2^n) 15:Nat),.int .u64 (off (blk 15 c o%2^n) 15:Nat)])):=fun w0=>ue _ (by omega) w0
 generalize blk 15 c o=X at *;generalize X%2^n=Y at *;generalize 2^n-1=M at *;generalize cnt Y 15=K at *;generalize off Y 15=O at *
 obtain⟨W,hW⟩:∃W,W=(w.alloc (.cells #[.int .i64 c,.int .u64 o] 150)).alloc (.cells #[.int .i64 0,.int .u64 0] 150):=⟨_,rfl⟩;have bW:=cZ hW;have B1:=cQ hW;clear hmod p64 hb0;go_enter func156,ntmps156
 go_wp2_with fail;rw[<-hW];refine mr (C1.out _) fun w1 hb=>?_;have hw1:=bg bW hb;replace B1:=B1.kept hb;clear hb hW;go_wp2_with fail;refine(C2.out _).mono ?_;rintro e w2 ⟨rfl,rfl⟩
 go_wp2_with fail;rw[A.out];refine mr (C3.out _) fun w3 hb=>?_;have hw3:=bg hw1 hb;replace B1:=B1.kept hb;have f0:=B1.frozen 0;have f1:=B1.frozen 1;have c0:=B1.cell 0 rfl
 have c1:=B1.cell 1 rfl;clear hb C1 C2 C3 A;go_wp2;refine bodyPost_ret (v:=.agg #[.int .i64 (K:Nat),.int .u64 (O:Nat)]) (by simp[results,Tryz.results156,go_sem,c0,c1]) rfl ⟨rfl,?_⟩
 exact(hw3.setCell (by simp) _).setCell (by simp) _
theorem tZ(n k:Nat)(hn:n<=1048576)(hk:k=(n+63)/64)(w:World):
  Calls prog 130 #[.int .i64 n] w fun e w'=>∃g,e=.returned (.agg #[.int .i64 n,.slice (some ⟨g,0,none⟩) k k])/\w.heap.size<=g/\Own w' g (rowOf n fun _=>false)/\Below w.heap.size w w':=by
 rw[<-ld n k hk]
 have C:Hid (∀w0,Calls prog 95 #[.int .i64 n] w0 fun e w'=>∃g,e=.returned (.tuple #[.agg #[.int .i64 n,.slice (some ⟨g,0,none⟩) k k],.int .i64 0])/\w0.heap.size<=g/\g<w'.heap.size/\Own w' g (List.replicate k 0)/\Below w0.heap.size w0 w'):=fun w0=>mL n k w0 (by omega) (by omega) (by omega)
 obtain⟨W,hW⟩:∃W,W=w.alloc (.cells #[.int .i64 0,.slice none 0 0] 53):=⟨_,rfl⟩;have bW:=aU hW;have B1:=bn hW;have zW:W.heap.size=w.heap.size+1:=by rw[hW];simp
 clear hk;go_enter func130,ntmps130;go_wp2_with fail;rw[<-hW];refine(C.out _).mono ?_;rintro e w1 ⟨g,rfl,hg1,hg2,hO,hb⟩;have hw1:=bg bW hb;replace B1:=B1.kept hb;have f0:=B1.frozen 0
 have f1:=B1.frozen 1;have c0:=B1.cell 0 rfl;have c1:=B1.cell 1 rfl;have hlt:=B1.lt;clear hb C hW;have HO:Hid (Own w1 g (List.replicate k 0)):=hO;clear hO;go_wp2
 refine bodyPost_ret (fZ rfl w.heap.size [.int .i64 (n:Nat),.slice (some ⟨g,0,none⟩) k k] rfl (((B1.set 0 _).set 1 _).alloc _) underlying53 eh) rfl ⟨g,rfl,by omega,?_,?_⟩
 .refine Own.keep (Own.set_other (Own.set_other HO.out ?_ _) ?_ _) (below_alloc _ _)
  .simp;omega
  .simp;omega
 .refine Below.alloc (Below.setCell (Below.setCell hw1 ?_ _) ?_ _) ?_ _
  .simp
  .simp
  .simp;omega
theorem qh(cs:List Value)(a:aP)(g:Nat)(w:World)(h:bm w cs a)(h1:g<a.S.length)(h2:g<a.T.length):
  Qq 154 #[.agg cs.toArray,.int .i64 g] w (.agg #[.int .i64 (gi a.S g),.int .i64 (gi a.T g)]):=by
 obtain⟨⟨ao,cap,qo,dap,so,sc,tO,tc,rfl,_,a1,a2,a3,a4,a5,a6,a7,a8,a9,a10⟩,_,_,sl,tl⟩:=h;obtain⟨N,k,V,M,xs,L,ys,S,T⟩:=a;dsimp only at *;obtain⟨b1,o1,rfl,hb1,hc1⟩:=a7 (by omega)
 obtain⟨b2,o2,rfl,hb2,hc2⟩:=a9 (by omega);have i1:(g:Int)<(S.length:Int):=by omega
 have i2:(g:Int)<(T.length:Int):=by omega
 have e1:=hc1 g h1;have e2:=hc2 g h2;generalize gi S g=s at *;generalize gi T g=t at *;clear a1 a2 a4 a5 hc1 hc2
 obtain⟨W,hW⟩:∃W,W=(w.alloc (.cells #[.int .i64 N,.int .i64 k,.int .i64 V,.int .i64 M,.slice ao xs.length cap,.int .i64 L,.slice qo ys.length dap,.slice (some ⟨b1,o1,none⟩) S.length sc,.slice (some ⟨b2,o2,none⟩) T.length tc] 59)).alloc (.cells #[.int .i64 0,.int .i64 0] 137):=⟨_,rfl⟩
 have bW:=cZ hW;have B1:=dj hW;have B2:=cQ hW;have E1:W.cell? ⟨b1,o1+g,none⟩=some (.int .i64 s):=(bW.cell (p:=⟨b1,o1+g,none⟩) hb1).trans e1
 have E2:W.cell? ⟨b2,o2+g,none⟩=some (.int .i64 t):=(bW.cell (p:=⟨b2,o2+g,none⟩) hb2).trans e2;go_enter func154,ntmps154;go_wp2;rw[<-hW];clear hW
 refine ba [11] (fun w'=>aa w' w.heap.size [.int .i64 N,.int .i64 k,.int .i64 V,.int .i64 M,.slice ao xs.length cap,.int .i64 L,.slice qo ys.length dap,.slice (some ⟨b1,o1,none⟩) S.length sc,.slice (some ⟨b2,o2,none⟩) T.length tc] 59/\w'.cell? ⟨b1,o1+g,none⟩=some (.int .i64 s)/\w'.cell? ⟨b2,o2+g,none⟩=some (.int .i64 t)) (by kernel_rfl) ?_
 have hS:aa W.drew w.heap.size [.int .i64 N,.int .i64 k,.int .i64 V,.int .i64 M,.slice ao xs.length cap,.int .i64 L,.slice qo ys.length dap,.slice (some ⟨b1,o1,none⟩) S.length sc,.slice (some ⟨b2,o2,none⟩) T.length tc] 59/\W.drew.cell? ⟨b1,o1+g,none⟩=some (.int .i64 s)/\W.drew.cell? ⟨b2,o2+g,none⟩=some (.int .i64 t):=⟨B1,E1,E2⟩
 have bV:Below w.heap.size w W.drew:=bW.drew;have B3:aa W.drew (w.heap.size+1) [.int .i64 0,.int .i64 0] 137:=B2;generalize W.drew=Y at *;clear B1 B2 E1 E2 e1 e2 bW;refine aK 0 hS ?_
 refine aF 1 hS rfl (fun w0 h0=>by have c7:=h0.1.cell 7 rfl;go_simp;try with_reducible rfl) ?_;refine aK 2 hS ?_;refine aK 3 hS ?_
 refine aF 4 hS rfl (fun w0 h0=>by have e1:=h0.2.1;go_simp;try with_reducible rfl) ?_;refine aK 5 hS ?_;refine aF 6 hS rfl (fun w0 h0=>by have c8:=h0.1.cell 8 rfl;go_simp;try with_reducible rfl) ?_
 refine aK 7 hS ?_;refine aK 8 hS ?_;refine aF 9 hS rfl (fun w0 h0=>by have e2:=h0.2.2;go_simp;try with_reducible rfl) ?_;refine aK 10 hS ?_;refine aO 11 ?_;intro K hK;have f0:=B3.frozen 0
 have f1:=B3.frozen 1;have c0:=B3.cell 0 rfl;have c1:=B3.cell 1 rfl;have HB:Hid (aa Y (w.heap.size+1) [.int .i64 0,.int .i64 0] 137):=B3;clear hS B3;go_simp;refine hK.out _ _ (fun h=>absurd (by decide) h) ?_
 clear hK K;try simp only[Act.put,ar,an,am,ah,aj,ai]
 refine aw.done (by kernel_rfl) ?_ _;go_wp2;refine bodyPost_ret (fZ rfl (w.heap.size+1) [.int .i64 s,.int .i64 t] rfl ((HB.out.set 0 _).set 1 _) underlying137 (by kernel_rfl)) rfl ⟨rfl,?_⟩
 exact(bV.setCell (by simp) _).setCell (by simp) _
theorem pF{T:TypeId}{zs:List Value}{n:Nat}(hi:(prog.info? T).map (fun i=>(i.zero,i.size))=some (some (.agg zs.toArray),n)){ops:Array Oper}{rest:List Oper}{d:Option Tmp}{ty:TypeId}{ps:String}{af:Array Edge}{a:Act}{w:World}{Q:Exit->Act->World->Prop}
  (h:∀w1,aa w1 w.heap.size zs T->Below w.heap.size w w1->w1.heap.size=w.heap.size+1->wpList prog ops Q rest (a.put d (.pointer (some ⟨w.heap.size,0,none⟩))) w1):
  wpList prog ops Q (⟨d,.alloc T,ty,ps,af,none⟩::rest) a w:=by
 refine wpList_plain rfl fun K hK=>?_;unfold Oper.wp execOp;have z:=(zero_of_info hi).1;have nw:=h _ (aa.new w _ _) (below_alloc w _) (by simp);refine cast ?_ (hK _ _ nw)
 simp[Instr.alloc,Sem.run_bind,z,newVar,Value.cells,go_sem]
theorem aB.tb{g b:Nat}{w w':World}{cs:List Value}(h:aB g w w')(hc:Tb w b cs)(hb:b≠g):Tb w' b cs:=by
 obtain⟨T,hc⟩:=hc;exact⟨T,h.cel hc hb⟩
structure aT (lo hi:Nat) (w w':World):Prop where
 below:Below lo w w'
 high:∀b,hi<=b->b<w.heap.size->w'.heap[b]?=w.heap[b]?
theorem aT.of{lo hi:Nat}{w w':World}(hb:Below w.heap.size w w')(hl:lo<=w.heap.size):aT lo hi w w':=⟨hb.mono hl,fun b _ h=>hb.block b h⟩
theorem aT.trans{lo hi:Nat}{a b c:World}(h:aT lo hi a b)(k:aT lo hi b c):aT lo hi a c:=⟨h.below.trans k.below,fun x h1 h2=>(k.high x h1 (Nat.lt_of_lt_of_le h2 h.below.size)).trans (h.high x h1 h2)⟩
theorem aT.cel{lo hi b:Nat}{w w':World}{cs:List Value}{T:TypeId}(h:aT lo hi w w')(hc:aa w b cs T)(hb:hi<=b):aa w' b cs T:=(h.high b hb hc.lt).trans hc
theorem aT.size{lo hi:Nat}{w w':World}(h:aT lo hi w w'):w.heap.size<=w'.heap.size:=h.below.size
theorem aT.setCell{lo hi:Nat}{w w':World}{a:Addr}(h:aT lo hi w w')(h1:w.heap.size<=a.block)(h2:lo<=a.block)(v:Value):aT lo hi w (w'.setCell a v):=
 ⟨h.below.setCell h2 v,fun b hb hl=>(Below.heap_setCell w' a v b (by omega)).trans (h.high b hb hl)⟩
theorem bm.parts{w:World}{N k V M L:Int}{xs ys:List Nat}{S T:List Int}{ao:Option Addr}{cap:Nat}{qo:Option Addr}{dap:Nat}{so:Option Addr}{sc:Nat}{tO:Option Addr}{tc:Nat}(h:bm w [.int .i64 N,.int .i64 k,.int .i64 V,.int .i64 M,.slice ao xs.length cap,.int .i64 L,.slice qo ys.length dap,.slice so S.length sc,.slice tO T.length tc] ⟨N,k,V,M,xs,L,ys,S,T⟩):
  Wd w ao xs/\aA xs/\Wd w qo ys/\aA ys/\Nd w so S/\Nd w tO T:=by
 obtain⟨⟨ao',cap',qo',dap',so',sc',tO',tc',e,_,a1,a2,a3,a4,a5,a6,a7,a8,a9,a10⟩,_⟩:=h;simp only[List.cons.injEq,Value.slice.injEq,true_and,and_true]at e
 obtain⟨⟨rfl,rfl⟩,⟨rfl,rfl⟩,⟨rfl,rfl⟩,rfl,rfl⟩:=e;exact⟨a1,a2,a4,a5,a7,a9⟩
def Kj(cs:List Value)(a:aP)(g n lo hi F:Nat)(caps:Array Value)(Inv Fin:Nat->World->Prop):Prop:=
 ∀i w1,8*g<=i->i<n->iP a.L a.ys a.xs i=0->Inv i w1->hi<=w1.heap.size->
  Calls prog F (#[.int .i64 i,.agg #[.int .i64 (cls a.xs i:Nat),.int .u64 (cOff a.L a.ys a.xs i:Nat)],.agg #[.int .i64 (cOn a.xs i:Nat),.int .i64 (cAt a.xs i:Nat)]]++caps) w1 fun e w2=>∃b:Bool,e=.returned (.bool b)/\(b=true->Inv (i+1) w2)/\(b=false->Fin i w2)/\aT lo hi w1 w2
theorem nW(cs:List Value)(a:aP)(g n lo hi F:Nat)(caps:Array Value)(Inv Fin:Nat->World->Prop)(w:World)
  (hk:a.k=(n:Int)) (hV:a.V=4) (ic:aQ a.k a.V a.M a.xs=true) (hg:8*g<=n) (hgs:g<a.S.length) (hgt:g<a.T.length) (hs:gi a.S g=cOn a.xs (8*g)) (ht:gi a.T g=cAt a.xs (8*g))
  (hlo:lo<=hi) (hhi:hi<=w.heap.size) (h0:Inv (8*g) w) (hK:Hid (∀i w1,Inv i w1->bm w1 cs a)) (hkeep:Hid (∀i w1 w2,Inv i w1->Below hi w1 w2->Inv i w2)) (hfin:Hid (∀i w1 w2,Fin i w1->Below hi w1 w2->Fin i w2))
  (hcf:Hid (∀args w,(callFunc F args).run prog w=.ok (.enter F args) w)) (hf:Hid (Kj cs a g n lo hi F caps Inv Fin)):
  Calls prog 131 #[.agg cs.toArray,.int .i64 g,.func (.func F) #[] caps] w fun e w'=>∃(q:Nat) (b:Bool),e=.returned (.tuple #[.agg #[.int .i64 (cOn a.xs q:Nat),.int .i64 (cAt a.xs q:Nat)],.bool b])/\8*g<=q/\q<=n/\(b=true->q=n/\Inv n w')/\(b=false->q<n/\((iP a.L a.ys a.xs q≠0/\Inv q w')\/(iP a.L a.ys a.xs q=0/\Fin q w')))/\aT lo hi w w':=by
 obtain⟨⟨ao,cap,qo,dap,so,sc,tO,tc,rfl,⟨_,_,_,_,hLL,_,_⟩,_⟩,xl,yl,sl,tl⟩:=hK.out _ _ h0;obtain⟨N,k,V,M,xs,L,ys,S,T⟩:=a;dsimp only at *;subst hk hV
 obtain⟨_,_,_,hM,_,hM0,hM1,hnM⟩:=dZ _ _ _ _ ic;have hn:n<=262144:=by omega
 obtain⟨W,hW⟩:∃W,W=(w.alloc (.cells #[.int .i64 N,.int .i64 (n:Int),.int .i64 4,.int .i64 M,.slice ao xs.length cap,.int .i64 L,.slice qo ys.length dap,.slice so S.length sc,.slice tO T.length tc] 59)).alloc (.cells #[.int .i64 0,.int .i64 0] 137):=⟨_,rfl⟩
 have bW:=cZ hW;have zW:W.heap.size=w.heap.size+2:=by rw[hW];simp
 have B1:=dj hW;have B2:=cQ hW;have HG:GV w:=(hK.out _ _ h0).gv
 have HM:Hid (Qz w 154 #[.agg #[.int .i64 N,.int .i64 (n:Int),.int .i64 4,.int .i64 M,.slice ao xs.length cap,.int .i64 L,.slice qo ys.length dap,.slice so S.length sc,.slice tO T.length tc],.int .i64 g] (.agg #[.int .i64 (cOn xs (8*g):Nat),.int .i64 (cAt xs (8*g):Nat)])):=by
  intro w0 hb
  have:=qh [.int .i64 N,.int .i64 (n:Int),.int .i64 4,.int .i64 M,.slice ao xs.length cap,.int .i64 L,.slice qo ys.length dap,.slice so S.length sc,.slice tO T.length tc] ⟨N,n,4,M,xs,L,ys,S,T⟩ g w0 ((hK.out _ _ h0).keep hb) hgs hgt
  dsimp only at this;rw[hs,ht]at this;exact this
 have m1:IntKind.i64.wrap ((g:Int)*8)=((8*g:Nat):Int):=by rw[IntKind.wrap_i64];omega
 have HI:Hid (Inv (8*g) w):=h0;clear hs ht h0 hgs hgt;go_enter func131,ntmps131;go_wp2_with fail;rw[<-hW];have q0:=B1.cell 0 rfl;have q1:=B1.cell 1 rfl;have q2:=B1.cell 2 rfl;have q3:=B1.cell 3 rfl
 have q4:=B1.cell 4 rfl;have q5:=B1.cell 5 rfl;have q6:=B1.cell 6 rfl;have q7:=B1.cell 7 rfl;have q8:=B1.cell 8 rfl;go_wp2_with fail;clear q0 q1 q2 q3 q4 q5 q6 q7 q8;refine mr (HM.out _ bW) fun w4 hb=>?_
 have bw4:=bg bW hb;have z4:=hb.size;replace B1:=B1.kept hb;replace B2:=B2.kept hb;have B4:Tb w4 0 (vI cm):=HG.wd.kept bw4;have L0:=HG.two;clear hb HM hW bW HG;go_wp2
 generalize hG2:w4.heap.size=G2 at *;have LG:w.heap.size+2<=G2:=by omega
 go_loopw [9] (fun s wr=>∃q:Nat,8*g<=q/\q<=n/\s=.int .i64 q/\aa wr w.heap.size [.int .i64 N,.int .i64 (n:Int),.int .i64 4,.int .i64 M,.slice ao xs.length cap,.int .i64 L,.slice qo ys.length dap,.slice so S.length sc,.slice tO T.length tc] 59/\aa wr (w.heap.size+1) [.int .i64 0,.int .i64 0] 137/\Tb wr 0 (vI cm)/\aa wr G2 [.int .i64 (cOn xs q:Nat),.int .i64 (cAt xs q:Nat)] 137/\Inv q wr/\aT lo hi w wr) (fun s _=>n-(intOf s).toNat)
 case atStart=>
  have hb:=below_alloc w4 (.cells #[.int .i64 (cOn xs (8*g):Nat),.int .i64 (cAt xs (8*g):Nat)] 137)
  have hB:Below w.heap.size w (w4.alloc (.cells #[.int .i64 (cOn xs (8*g):Nat),.int .i64 (cAt xs (8*g):Nat)] 137)):=bg bw4 hb
  refine⟨8*g,Nat.le_refl _,hg,?_,B1.kept hb,B2.kept hb,B4.kept hb,?_,hkeep.out _ _ _ HI.out (hB.mono hhi),aT.of hB (by omega)⟩
  .exact congrArg (Value.int IntKind.i64) (by omega)
  .rw[<-hG2];exact aa.new w4 _ _
 case round=>
  obtain⟨q,hq0,hq,rfl,B1,B2,B3,B4,hI,hF⟩:=hrel;have zr:=hF.size;have KP:=(hK.out q _ hI).parts;obtain⟨p1,p2,p3,p4,_,_⟩:=KP;have q1:=B1.cell 1 rfl;by_cases hqn:q<n
  .have hqn2:(q:Int)<(n:Int):=by omega
   have cl:=iZ xs q;have on:=IX xs q;have at_:=IZ xs q;have kw:=kG (cls xs q) cl
   have HGt:Hid (Qq 175 #[.agg #[.int .i64 (n:Int),.int .i64 4,.int .i64 M,.slice ao xs.length cap],.int .i64 (q:Int)] wr (.tuple #[.int .u64 (cls xs q:Nat),.int .i64 0])):=by
    have e0:dJ (n:Int) 4 M xs (q:Int)=0:=by unfold dJ;rw[if_neg (by rw[ic];simp),if_neg (by omega)]
    have:=Gn (n:Int) 4 M ao xs cap (q:Int) wr p1 p2 e0;unfold igX at this;rw[if_pos e0,e0,Int.toNat_natCast]at this;exact this
   have HSl:Hid (Qz wr 140 #[.agg #[.int .i64 L,.slice qo ys.length dap],.int .i64 (cAt xs q:Nat),.int .i64 (kwd (cls xs q):Nat)] (.tuple #[.int .u64 (cOff L ys xs q:Nat),.int .i64 (iP L ys xs q)])):=fun w0 hb=>nP L qo ys dap (cAt xs q:Nat) (kwd (cls xs q):Nat) w0 (p3.keep hb) p4 (by omega) (by omega) (by omega) (by omega)
   have HBh:Hid (∀w0,Qq 143 #[.agg #[.int .i64 (cOn xs q:Nat),.int .i64 (cAt xs q:Nat)],.agg #[.int .i64 (cls xs q:Nat),.int .u64 (cOff L ys xs q:Nat)],.int .i64 (kwd (cls xs q):Nat)] w0 (.agg #[.int .i64 (cOn xs (q+1):Nat),.int .i64 (cAt xs (q+1):Nat)])):=fun w0=>ug (cOn xs q) (cAt xs q) (cls xs q) (kwd (cls xs q)) (cOff L ys xs q) (by omega) (by omega) cl (by omega) w0
   have HWd:Hid ((vI cm)[cls xs q]?=some (.int .i64 (kwd (cls xs q):Nat))):=by
    show(vI cm)[cls xs q]?=_;rw[pL cm (cls xs q) (by rw[qO];omega),ri _ cl]
   have HC:Hid (∀w1,iP L ys xs q=0->Inv q w1->hi<=w1.heap.size->Calls prog F (#[.int .i64 q,.agg #[.int .i64 (cls xs q:Nat),.int .u64 (cOff L ys xs q:Nat)],.agg #[.int .i64 (cOn xs q:Nat),.int .i64 (cAt xs q:Nat)]]++caps) w1 fun e w2=>∃b:Bool,e=.returned (.bool b)/\(b=true->Inv (q+1) w2)/\(b=false->Fin q w2)/\aT lo hi w1 w2):=fun w1 h1 h2 h3=>hf.out q w1 hq0 hqn h1 h2 h3
   have q2:=B1.cell 2 rfl;have q3:=B1.cell 3 rfl;have q4:=B1.cell 4 rfl;clear p1 p2 p3 p4 hf;have cli:((cls xs q:Nat):Int)<16:=by omega
   generalize hc0:cls xs q=c at *;generalize hs0:cOn xs q=s0 at *;generalize ha0:cAt xs q=a0 at *;generalize hw0:kwd c=wd at *;generalize ho0:cOff L ys xs q=o at *;generalize hE0:iP L ys xs q=E at *
   go_wp2_with fail;refine HGt.out.mono ?_;rintro e w5 ⟨rfl,hb⟩;have hb5:=hb;have hI5:=hkeep.out _ _ _ hI (hb.mono (by omega));have hF5:=hF.trans (aT.of hb (by omega));have z5:=hb.size;replace B1:=B1.kept hb
   replace B2:=B2.kept hb;replace B3:=B3.kept hb;replace B4:=B4.kept hb;clear hb q1 q2 q3 q4 HGt hI hF;go_wp2
   refine ba [] (fun w'=>aa w' w.heap.size [.int .i64 N,.int .i64 (n:Int),.int .i64 4,.int .i64 M,.slice ao xs.length cap,.int .i64 L,.slice qo ys.length dap,.slice so S.length sc,.slice tO T.length tc] 59/\Tb w' 0 (vI cm)/\aa w' G2 [.int .i64 (s0:Nat),.int .i64 (a0:Nat)] 137) (by kernel_rfl) ?_
   have hS:aa w5.drew w.heap.size [.int .i64 N,.int .i64 (n:Int),.int .i64 4,.int .i64 M,.slice ao xs.length cap,.int .i64 L,.slice qo ys.length dap,.slice so S.length sc,.slice tO T.length tc] 59/\Tb w5.drew 0 (vI cm)/\aa w5.drew G2 [.int .i64 (s0:Nat),.int .i64 (a0:Nat)] 137:=⟨B1,B3,B4⟩
   have bV:Below w5.heap.size w5 w5.drew:=(Below.refl _ _).drew;have hbV:Below wr.heap.size wr w5.drew:=hb5.drew;replace B2:aa w5.drew (w.heap.size+1) [.int .i64 0,.int .i64 0] 137:=B2
   have hI6:=hkeep.out _ _ _ hI5 (bV.mono (by omega));have hF6:=hF5.trans (aT.of bV (by omega));have z6:=bV.size;generalize w5.drew=Y at *;clear B1 B3 B4 hI5 hF5 hb5 bV;refine aK 0 hS ?_
   refine aF 1 hS rfl (fun w0 h0=>by have c5:=h0.1.cell 5 rfl;have c6:=h0.1.cell 6 rfl;go_simp;try with_reducible rfl) ?_;refine aK 2 hS ?_
   refine aF 3 hS rfl (fun w0 h0=>by have c1:=h0.2.2.cell 1 rfl;go_simp;try with_reducible rfl) ?_;refine aK 4 hS ?_;refine aK 5 hS ?_
   refine aF 6 hS rfl (fun w0 h0=>by have cw:=h0.2.1.cell c HWd.out;go_simp;try with_reducible rfl) ?_;refine aO 7 ?_;intro K hK;go_simp;refine mr (HSl.out _ hbV) fun w7 hb=>?_
   have hS7:aa w7 w.heap.size [.int .i64 N,.int .i64 (n:Int),.int .i64 4,.int .i64 M,.slice ao xs.length cap,.int .i64 L,.slice qo ys.length dap,.slice so S.length sc,.slice tO T.length tc] 59/\Tb w7 0 (vI cm)/\aa w7 G2 [.int .i64 (s0:Nat),.int .i64 (a0:Nat)] 137:=⟨hS.1.kept hb,hS.2.1.kept hb,hS.2.2.kept hb⟩
   replace B2:=B2.kept hb;have hI7:=hkeep.out _ _ _ hI6 (hb.mono (by omega));have hF7:=hF6.trans (aT.of hb (by omega));have z7:=hb.size;clear hb hI6 hF6 hS;refine hK.out _ _ (fun _=>hS7) ?_;clear hK K
   try simp only[Act.put,ar,an,am,ah,aj,ai]
   refine aK 8 hS7 ?_;refine aK 9 hS7 ?_;refine aK 10 hS7 ?_;refine aK 11 hS7 ?_;refine aK 12 hS7 ?_;refine aw.done (by kernel_rfl) ?_ _;obtain⟨B1,B3,B4⟩:=hS7;have m0:=B4.cell 0 rfl
   have m1:=B4.cell 1 rfl;have l4:=B4.lt;have hb:=below_alloc w7 (.cells #[.int .i64 (c:Nat),.int .u64 (o:Nat)] 150)
   obtain⟨W8,hW8⟩:∃W8,W8=w7.alloc (.cells #[.int .i64 (c:Nat),.int .u64 (o:Nat)] 150):=⟨_,rfl⟩;rw[<-hW8]at hb
   have B5:aa W8 w7.heap.size [.int .i64 (c:Nat),.int .u64 (o:Nat)] 150:=by rw[hW8];exact aa.new w7 _ _
   have hI8:=hkeep.out _ _ _ hI7 (hb.mono (by omega));have hF8:=hF7.trans (aT.of hb (by omega));have z8:=hb.size;replace B1:=B1.kept hb;replace B2:=B2.kept hb;replace B3:=B3.kept hb;replace B4:=B4.kept hb
   have h56:hi<=w7.heap.size:=by omega
   clear hb hI7 hF7;rcases Decidable.em (E=0)with rfl | hE
   .go_wp2_with fail;rw[<-hW8];rw[hcf.out,Oper.upon_enter];refine(HC.out _ (by simp) hI8 (by omega)).mono ?_;rintro e w9 ⟨b,rfl,hb1,hb0,hfr⟩;have hF9:=hF8.trans hfr;have z9:=hfr.size
    replace B1:=hfr.cel B1 (by omega);replace B2:=hfr.cel B2 (by omega);clear B3;replace B4:=hfr.cel B4 (by omega);replace B5:=hfr.cel B5 (by omega);have HF9:Hid (aT lo hi w w9):=hF9
    clear hfr hF8 hF9 hI8 hW8 m0 m1 HC;cases b with
    | false=>
     have hfin9:Hid (Fin q w9):=hb0 rfl;clear hb0 hb1;have m0:=B4.cell 0 rfl;have m1:=B4.cell 1 rfl;have n0:=B2.cell 0 rfl;have n1:=B2.cell 1 rfl;have f0:=B2.frozen 0;have f1:=B2.frozen 1;go_wp2
     refine bodyPost_ret (bj rfl (w.heap.size+1) [.int .i64 (s0:Nat),.int .i64 (a0:Nat)] rfl ((B2.set 0 _).set 1 _) underlying137 (by kernel_rfl)) rfl ⟨q,false,by rw[hs0,ha0];rfl,hq0,hq,nofun,fun _=>⟨hqn,.inr ⟨hE0,hfin.out _ _ _ hfin9.out (((Below.refl hi w9).setCell (by show hi<=w.heap.size+1;omega) _).setCell (by show hi<=w.heap.size+1;omega) _)⟩⟩,(HF9.out.setCell (by show w.heap.size<=w.heap.size+1;omega) (by show lo<=w.heap.size+1;omega) _).setCell (by show w.heap.size<=w.heap.size+1;omega) (by show lo<=w.heap.size+1;omega) _⟩
    | true=>
     have hI9:=hb1 rfl;have B3:Tb w9 0 (vI cm):=(hK.out _ _ hI9).gv.wd;clear hb0 hb1;go_wp2
     refine ba [6] (fun w'=>Tb w' 0 (vI cm)/\aa w' G2 [.int .i64 (s0:Nat),.int .i64 (a0:Nat)] 137/\aa w' w7.heap.size [.int .i64 (c:Nat),.int .u64 (o:Nat)] 150) (by kernel_rfl) ?_
     have hS:Tb w9.drew 0 (vI cm)/\aa w9.drew G2 [.int .i64 (s0:Nat),.int .i64 (a0:Nat)] 137/\aa w9.drew w7.heap.size [.int .i64 (c:Nat),.int .u64 (o:Nat)] 150:=⟨B3,B4,B5⟩
     have bV:Below w9.heap.size w9 w9.drew:=(Below.refl _ _).drew
     replace B1:aa w9.drew w.heap.size [.int .i64 N,.int .i64 (n:Int),.int .i64 4,.int .i64 M,.slice ao xs.length cap,.int .i64 L,.slice qo ys.length dap,.slice so S.length sc,.slice tO T.length tc] 59:=B1
     replace B2:aa w9.drew (w.heap.size+1) [.int .i64 0,.int .i64 0] 137:=B2;replace hI9:=hkeep.out _ _ _ hI9 (bV.mono (by omega));have hF9:=HF9.out.trans (aT.of bV (by omega));have z10:=bV.size
     generalize w9.drew=Y2 at *;clear B3 B4 B5 bV HF9;refine aF 0 hS rfl (fun w0 h0=>by have c0:=h0.2.1.cell 0 rfl;have c1:=h0.2.1.cell 1 rfl;go_simp;try with_reducible rfl) ?_
     refine aF 1 hS rfl (fun w0 h0=>by have c0:=h0.2.2.cell 0 rfl;have c1:=h0.2.2.cell 1 rfl;go_simp;try with_reducible rfl) ?_;refine aK 2 hS ?_;refine aK 3 hS ?_
     refine aF 4 hS rfl (fun w0 h0=>by have cw:=h0.1.cell c HWd.out;go_simp;try with_reducible rfl) ?_;refine aO 5 ?_;intro K hK;go_simp;refine mr (HBh.out _) fun w11 hb=>?_
     have hS11:Tb w11 0 (vI cm)/\aa w11 G2 [.int .i64 (s0:Nat),.int .i64 (a0:Nat)] 137/\aa w11 w7.heap.size [.int .i64 (c:Nat),.int .u64 (o:Nat)] 150:=⟨hS.1.kept hb,hS.2.1.kept hb,hS.2.2.kept hb⟩
     replace B1:=B1.kept hb;replace B2:=B2.kept hb;have hI11:=hkeep.out _ _ _ hI9 (hb.mono (by omega));have hF11:=hF9.trans (aT.of hb (by omega));clear hb hS hI9 hF9;refine hK.out _ _ (fun _=>hS11) ?_;clear hK K
     try simp only[Act.put,ar,an,am,ah,aj,ai]
     refine aO 6 ?_;intro K hK;obtain⟨B3,B4,B5⟩:=hS11;have f0:=B4.frozen 0;have f1:=B4.frozen 1;have c0:=B4.cell 0 rfl;have c1:=B4.cell 1 rfl
     have HQ:Hid (aa w11 w.heap.size [.int .i64 N,.int .i64 (n:Int),.int .i64 4,.int .i64 M,.slice ao xs.length cap,.int .i64 L,.slice qo ys.length dap,.slice so S.length sc,.slice tO T.length tc] 59/\aa w11 (w.heap.size+1) [.int .i64 0,.int .i64 0] 137/\Tb w11 0 (vI cm)/\aa w11 G2 [.int .i64 (s0:Nat),.int .i64 (a0:Nat)] 137/\Inv (q+1) w11/\aT lo hi w w11):=⟨B1,B2,B3,B4,hI11,hF11⟩
     clear B1 B2 B3 B4 B5 hI11 hF11;go_simp;refine hK.out _ _ (fun h=>absurd (by decide) h) ?_;clear hK K;try simp only[Act.put,ar,an,am,ah,aj,ai]
     refine aw.done (by kernel_rfl) ?_ _;go_wp2;obtain⟨B1,B2,B3,B4,hI11,hF11⟩:=HQ.out
     refine⟨⟨q+1,by omega,by omega,by go_num,(B1.other (by show w.heap.size≠G2;omega) _).other (by show w.heap.size≠G2;omega) _,(B2.other (by show w.heap.size+1≠G2;omega) _).other (by show w.heap.size+1≠G2;omega) _,(B3.other (by show(0:Nat)≠G2;omega) _).other (by show(0:Nat)≠G2;omega) _,(B4.set 0 _).set 1 _,hkeep.out _ _ _ hI11 (((Below.refl hi w11).setCell (by show hi<=G2;omega) _).setCell (by show hi<=G2;omega) _),(hF11.setCell (by show w.heap.size<=G2;omega) (by show lo<=G2;omega) _).setCell (by show w.heap.size<=G2;omega) (by show lo<=G2;omega) _⟩,by simp only[intOf];omega⟩
   .have hE2:(E != 0)=true:=by simpa using hE
    have n0:=B2.cell 0 rfl;have n1:=B2.cell 1 rfl;have f0:=B2.frozen 0;have f1:=B2.frozen 1;replace m0:=B4.cell 0 rfl;replace m1:=B4.cell 1 rfl;clear HC HBh HWd;rw[hW8]at B2 hI8 hF8 n0 n1 f0 f1 m0 m1;go_wp2
    refine bodyPost_ret (bj rfl (w.heap.size+1) [.int .i64 (s0:Nat),.int .i64 (a0:Nat)] rfl ((B2.set 0 _).set 1 _) underlying137 (by kernel_rfl)) rfl ⟨q,false,by rw[hs0,ha0];rfl,hq0,hq,nofun,fun _=>⟨hqn,.inl ⟨by rw[hE0];exact hE,hkeep.out _ _ _ hI8 (((Below.refl hi _).setCell (by show hi<=w.heap.size+1;omega) _).setCell (by show hi<=w.heap.size+1;omega) _)⟩⟩,(hF8.setCell (by show w.heap.size<=w.heap.size+1;omega) (by show lo<=w.heap.size+1;omega) _).setCell (by show w.heap.size<=w.heap.size+1;omega) (by show lo<=w.heap.size+1;omega) _⟩
  .obtain rfl:q=n:=by omega
   have n0:=B2.cell 0 rfl;have n1:=B2.cell 1 rfl;have f0:=B2.frozen 0;have f1:=B2.frozen 1;have m0:=B4.cell 0 rfl;have m1:=B4.cell 1 rfl;have HI2:Hid (Inv q wr):=hI;have HF2:Hid (aT lo hi w wr):=hF
   clear hf hI hF;go_wp2
   refine bodyPost_ret (bj rfl (w.heap.size+1) [.int .i64 (cOn xs q:Nat),.int .i64 (cAt xs q:Nat)] rfl ((B2.set 0 _).set 1 _) underlying137 (by kernel_rfl)) rfl ⟨q,true,rfl,hq0,hq,fun _=>⟨rfl,hkeep.out _ _ _ HI2.out (((Below.refl hi _).setCell (by show hi<=w.heap.size+1;omega) _).setCell (by show hi<=w.heap.size+1;omega) _)⟩,nofun,(HF2.out.setCell (by show w.heap.size<=w.heap.size+1;omega) (by show lo<=w.heap.size+1;omega) _).setCell (by show w.heap.size<=w.heap.size+1;omega) (by show lo<=w.heap.size+1;omega) _⟩
end Go.Proofs.YtleegaihbgbcjabGreatDoor
