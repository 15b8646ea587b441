import Derived.Test.YtfnkklkdajlhlaaGreatDoorU03
import Derived.Laws.Rows
import Derived.Laws.Tables
set_option linter.unusedVariables false
set_option linter.unusedSimpArgs false
set_option maxRecDepth 100000
set_option maxHeartbeats 16000000
namespace Go.Proofs.YtfnkklkdajlhlaaGreatDoor
open Go.RowKit Num Bn
namespace Ow
theorem rchoose_out(n k:Int)(h:n<0∨62<n∨k<0∨n<k)(w:World):
  Calls Tryz.prog 178 #[.int .i64 n,.int .i64 k] w fun e w'=>e=.returned (.int .u64 0)∧Below w.heap.size w w':=by
 by_cases h1:n<0
 ·go_enter Tryz.func178,Tryz.ntmps178;go_wp2;go_ret;exact⟨rfl,Below.refl _ _⟩
 by_cases h2:62<n
 ·go_enter Tryz.func178,Tryz.ntmps178;go_wp2;go_ret;exact⟨rfl,Below.refl _ _⟩
 by_cases h3:k<0
 ·go_enter Tryz.func178,Tryz.ntmps178;go_wp2;go_ret;exact⟨rfl,Below.refl _ _⟩
 ·have h4:n<k:=by omega
  clear h;go_enter Tryz.func178,Tryz.ntmps178;go_wp2;go_ret;exact⟨rfl,Below.refl _ _⟩
theorem rchoose_in(n k:Nat)(hn:n≤62)(hk:k≤n)(w:World):
  Calls Tryz.prog 178 #[.int .i64 n,.int .i64 k] w fun e w'=>e=.returned (.int .u64 (ch n k))∧Below w.heap.size w w':=by
 obtain⟨i0,hi,hz0,hz1,hz2⟩:=info_parts info64;have hn2:(n:Int)≤62:=by omega
 have hk2:(k:Int)≤n:=by omega
 go_enter Tryz.func178,Tryz.ntmps178;go_wp2_with (at_make;refine wpList_make_full _ rfl _ _ 31 rfl w.heap.size 110 i0 (.int .u64 0) 1 Tryz.underlying31 hi hz0 hz1 .i64 .i64 _ _ (n+1) rfl rfl rfl rfl ?b2 ?b3 ?b4 ?_)
 case b2=>rw[hz2];omega
 case b3=>unfold maxLen;omega
 case b4=>omega
 intro w1 hown hgr;have hO:Own w1 w.heap.size (List.replicate (n+1) 0):=own_made hown;have hb1:Below w.heap.size w w1:=(Below.refl _ _).grown hgr (Nat.le_refl _) (fun k h=>by cases h);clear hown hgr hi hz0 hz1 hz2
 have c0:=hO.cell 0 (by simp);have f0:=hO.frozen 0;have hO2:=hO.set 0 1;rw[row_start]at hO2;have hb2:Below w.heap.size w (w1.setCell ⟨w.heap.size,0,none⟩ (.int .u64 ((1:Nat):Int))):=hb1.setCell (Nat.le_refl _) _
 have hl:(0:Int)<(n:Int)+1:=by omega
 go_wp2;go_loopw [6,7] (fun i j wr=>∃p:Nat,1≤p∧p≤n+1∧i=.int .i64 p∧Own wr w.heap.size (rowP n (p-1))∧Below w.heap.size w wr) (fun i _ _=>n+1-(intOf i).toNat)
 case atStart=>exact⟨1,Nat.le_refl _,by omega,rfl,hO2,hb2⟩
 case round=>
  obtain⟨p,hp1,hp2,rfl,hOr,hwr⟩:=hrel;clear hO hO2 hb1 hb2 c0 f0;by_cases hlt:p≤n
  ·have hlt2:(p:Int)≤(n:Int):=by omega
   go_wp2;go_loopw [7] (fun j wz=>∃q:Nat,q≤p∧j=.int .i64 q∧Own wz w.heap.size (pas n p q)∧Below w.heap.size w wz) (fun j _=>(intOf j).toNat)
   case atStart=>exact⟨p,Nat.le_refl _,rfl,by rw[pas_first];exact hOr,hwr⟩
   case round=>
    obtain⟨q,hq,rfl,hOz,hwz⟩:=hrel;clear hOr hwr;by_cases h0:q=0
    ·subst h0;rw[pas_last]at hOz;have HO:Hid (Own wr w.heap.size (rowP n p)):=hOz;clear hOz;go_wp2;exact⟨⟨p+1,by omega,by omega,by go_num,HO.out,hwz⟩,by simp only[intOf];omega⟩
    ·have q0:(0:Int)<(q:Int):=by omega
     have e1:=hOz.cell q (by rw[length_pas];omega);have e2:=hOz.cell (q-1) (by rw[length_pas];omega);have fz:=hOz.frozen q;have l1:(q:Int)<(n:Int)+1:=by omega
     have l2:(q:Int)-1<(n:Int)+1:=by omega
     rw[gt_pas _ _ _ _ (by omega),if_neg (by omega)]at e1 e2;have b1:=ch62 (p-1) q (by omega);have b2:=ch62 (p-1) (q-1) (by omega);have st:=hOz.set q (ch (p-1) q+ch (p-1) (q-1))
     rw[pas_step n p q hp1 (by omega) (by omega)]at st;have HO:Hid (Own (wr.setCell ⟨w.heap.size,q,none⟩ (.int .u64 ((ch (p-1) q+ch (p-1) (q-1):Nat):Int))).drew w.heap.size (pas n p (q-1))):=st
     have HB:Hid (Below w.heap.size w (wr.setCell ⟨w.heap.size,q,none⟩ (.int .u64 ((ch (p-1) q+ch (p-1) (q-1):Nat):Int))).drew):=(hwz.setCell (Nat.le_refl _) _).drew
     have ez:((q:Int)-1).toNat=q-1:=by omega
     have ad:IntKind.u64.wrap ((ch (p-1) q:Int)+(ch (p-1) (q-1):Int))=((ch (p-1) q+ch (p-1) (q-1):Nat):Int):=by rw[IntKind.wrap_u64];omega
     clear st hOz;generalize ch (p-1) q=A at *;generalize ch (p-1) (q-1)=B at *;go_wp2;go_region;go_wp2;exact⟨⟨q-1,by omega,by go_num,HO.out,HB.out⟩,by simp only[intOf];omega⟩
  ·obtain rfl:p=n+1:=by omega
   have e1:=hOr.cell k (by rw[length_rowP];omega);rw[Nat.add_sub_cancel,gt_rowP _ _ _ hk]at e1;have l1:(k:Int)<(n:Int)+1:=by omega
   obtain⟨Z,hZ⟩:∃Z,Hid (Z=ch n k):=⟨_,rfl⟩;rw[←hZ.out]at e1;go_wp2;go_ret;rw[←hZ.out];exact⟨rfl,hwr⟩
theorem rchoose_c(n k:Int)(w:World):
  Calls Tryz.prog 178 #[.int .i64 n,.int .i64 k] w fun e w'=>e=.returned (.int .u64 (chN n k))∧Below w.heap.size w w':=by
 unfold chN;by_cases h:n<0∨62<n∨k<0∨n<k
 ·rw[if_pos h];exact rchoose_out n k h w
 ·rw[if_neg h];obtain⟨a,rfl⟩:=Int.eq_ofNat_of_zero_le (show 0≤n by omega);obtain⟨b,rfl⟩:=Int.eq_ofNat_of_zero_le (show 0≤k by omega);exact rchoose_in a b (by omega) (by omega) w
end Ow
namespace Ow
theorem rwidth_c(n k:Int)(w:World):
  Calls Tryz.prog 126 #[.int .i64 n,.int .i64 k] w fun e w'=>e=.returned (.int .i64 (wdN n k))∧Below w.heap.size w w':=by
 have C:Hid (∀w0,Calls Tryz.prog 178 #[.int .i64 n,.int .i64 k] w0 fun e w'=>e=.returned (.int .u64 (chN n k))∧Below w0.heap.size w0 w'):=fun w0=>rchoose_c n k w0;have b:=chN_le n k;unfold wdN
 generalize chN n k=c at *;by_cases h0:c=0
 ·subst h0;rw[if_pos rfl];go_enter Tryz.func126,Tryz.ntmps126;go_wp2_with fail;refine(C.out _).mono ?_;rintro e w1 ⟨rfl,hb⟩;go_wp2;go_ret;exact⟨rfl,hb⟩
 ·rw[if_neg h0];obtain⟨d,rfl⟩:∃d,c=d+1:=⟨c-1,by omega⟩;rw[Nat.add_sub_cancel]
  have L:Hid (∀w0,Calls Tryz.prog 179 #[.int .u64 d] w0 fun e w'=>e=.returned (.int .i64 (Go.bitLen d))∧w'=w0):=fun w0=>by
   have:=reflen_c (d:Int) (by omega) (by omega) w0;unfold lenI at this;rw[Int.toNat_natCast]at this;exact this
  have c1:(((d+1:Nat):Int)==0)=false:=by simp;omega
  generalize Go.bitLen d=Z at *;go_enter Tryz.func126,Tryz.ntmps126;go_wp2_with fail;refine(C.out _).mono ?_;rintro e w1 ⟨rfl,hb⟩;have e2:((d+1:Nat):Int)=(d:Int)+1:=by omega
  rw[e2];go_wp2_with fail;refine(L.out _).mono ?_;rintro e w2 ⟨rfl,h2⟩;rw[h2];clear h2 w2;go_wp2;go_ret;exact⟨rfl,hb⟩
theorem roffset_c(x:Nat)(n:Int)(hx:x<18446744073709551616)(h0: -9223372036854775808≤n)(h1:n≤9223372036854775807)(w:World):
  Calls Tryz.prog 123 #[.int .u64 x,.int .i64 n] w fun e w'=>e=.returned (.tuple #[.int .i64 (ofK x n),.int .u64 (ofO x n)])∧Below w.heap.size w w':=by
 by_cases hn:n<0
 ·rw[show ofK x n=0 by unfold ofK;rw[if_pos (.inl hn)],show ofO x n=0 by unfold ofO;rw[if_pos (.inl hn)]];go_enter Tryz.func123,Tryz.ntmps123;go_wp2;go_ret2;exact⟨rfl,Below.refl _ _⟩
 by_cases hn2:62<n
 ·rw[show ofK x n=0 by unfold ofK;rw[if_pos (.inr hn2)],show ofO x n=0 by unfold ofO;rw[if_pos (.inr hn2)]];go_enter Tryz.func123,Tryz.ntmps123;go_wp2;go_ret2;exact⟨rfl,Below.refl _ _⟩
 rw[show ofK x n=cnt x n.toNat by unfold ofK;rw[if_neg (by omega)],show ofO x n=off x n.toNat by unfold ofO;rw[if_neg (by omega)]];obtain⟨m,rfl⟩:=Int.eq_ofNat_of_zero_le (show 0≤n by omega);rw[Int.toNat_natCast]
 have hm:m≤62:=by omega
 have R:Hid (∀w0,Calls Tryz.prog 177 #[.int .u64 x,.int .i64 m] w0 fun e w'=>e=.returned (.int .i64 (cnt x m))∧w'=w0):=fun w0=>by
  have:=refrank_c (x:Int) (m:Int) (by omega) (by omega) (by omega) (by omega) w0;unfold rankI at this;rw[Int.toNat_natCast,Int.toNat_natCast,Nat.min_eq_left (by omega)]at this;exact this
 have x0:(0:Int)≤(x:Int):=by omega
 have C:Hid (∀w0 (p:Nat),p<m→Calls Tryz.prog 178 #[.int .i64 p,.int .i64 (cnt x (p+1))] w0 fun e w'=>e=.returned (.int .u64 (ch p (cnt x (p+1))))∧Below w0.heap.size w0 w'):=fun w0 p hp=>by
  have:=rchoose_c p (cnt x (p+1)) w0;rw[chN_in p _ (by omega)]at this;exact this
 go_enter Tryz.func123,Tryz.ntmps123;go_wp2_with fail;refine(R.out _).mono ?_;rintro e w1 ⟨rfl,hw1⟩;rw[hw1];clear hw1 w1 R;obtain⟨K,hK⟩:∃K,Hid (K=cnt x m):=⟨_,rfl⟩;rw[←hK.out];go_wp2
 go_loopw [7,8,9] (fun o l i wr=>∃p O:Nat,p≤m∧i=.int .i64 ((p:Int)-1)∧l=.int .i64 (cnt x p)∧o=.int .u64 O∧O+off x p=off x m∧Below w.heap.size w wr) (fun _ _ i _=>(intOf i+1).toNat)
 case atStart=>exact⟨m,0,Nat.le_refl _,by go_num,by rw[hK.out],rfl,by omega,Below.refl _ _⟩
 case round=>
  obtain⟨p,O,hp,rfl,rfl,rfl,hO,hwr⟩:=hrel;by_cases hp0:p=0
  ·subst hp0;have HO:Hid (O=off x m):=hO;clear hO;go_wp2;go_ret2;rw[←HO.out,←hK.out];exact⟨rfl,hwr⟩
  ·obtain⟨q,rfl⟩:∃q,p=q+1:=⟨p-1,by omega⟩;have e1:((q+1:Nat):Int)-1=(q:Int):=by omega
   rw[e1];have q64:(q:Int)<64:=by omega
   have lt:=off_lt x m;have l62:=ch62 m (cnt x m) hm;by_cases hb:x/2^q%2=1
   ·have T:((x:Int)/2^q).tmod 2=1:=by rw[bit_tmod _ _ x0,Int.toNat_natCast,hb];rfl
    have ec:cnt x (q+1)=cnt x q+1:=by rw[cnt,hb]
    have eo:off x (q+1)=off x q+ch q (cnt x (q+1)):=by rw[off,if_pos hb]
    have D:Hid (∀w0,Calls Tryz.prog 178 #[.int .i64 q,.int .i64 (cnt x (q+1))] w0 fun e w'=>e=.returned (.int .u64 (ch q (cnt x (q+1))))∧Below w0.heap.size w0 w'):=fun w0=>C.out w0 q (by omega);rw[eo]at hO
    generalize ch q (cnt x (q+1))=Z at *;have HO:Hid (O+Z+off x q=off x m):=by show O+Z+off x q=off x m;omega
    have bO:O+Z<4611686018427387904:=by omega
    obtain⟨c,hc⟩:∃c,Hid (c=cnt x q):=⟨_,rfl⟩;have ec2:((cnt x (q+1):Nat):Int)=(c:Int)+1:=by rw[hc.out,ec];omega
    rw[ec2]at D;rw[ec2];have c64:c≤62:=by rw[hc.out];have:=cnt_le x q;omega
    clear ec eo hO lt l62 C ec2;go_wp2_with fail;refine(D.out _).mono ?_;rintro e w2 ⟨rfl,hb2⟩;have hw2:=hwr.trans (hb2.mono hwr.size);clear D hb2 hwr;go_wp2
    exact⟨⟨q,O+Z,by omega,by go_num,by rw[←hc.out],by go_num,HO.out,hw2⟩,by simp only[intOf];omega⟩
   ·have T:((x:Int)/2^q).tmod 2=0:=by rw[bit_tmod _ _ x0,Int.toNat_natCast,show x/2^q%2=0 by omega];rfl
    have ec:cnt x (q+1)=cnt x q:=by rw[cnt];omega
    have HO:Hid (O+off x q=off x m):=by
     rw[off,if_neg hb]at hO;exact hO
    rw[ec];clear ec hO lt l62 C;go_wp2;exact⟨⟨q,O,by omega,by go_num,rfl,rfl,HO.out,hwr⟩,by simp only[intOf];omega⟩
theorem shl_one(k:Nat)(h:k<64):IntKind.u64.wrap ((2:Int)^k)=((2^k:Nat):Int):=by
 have e:((2:Int)^k)=((2^k:Nat):Int):=by rw[Int.natCast_pow];rfl
 have:=two_pow_lt k h;rw[e,IntKind.wrap_u64];generalize (2^k:Nat)=Z at *;omega
theorem or_high(X p:Nat)(h:X%2^(p+1)=0):X|||2^p=X+2^p:=by
 have e:X=2^(p+1)*(X/2^(p+1)):=by
  have:=Nat.div_add_mod X (2^(p+1));omega
 have lt:2^p<2^(p+1):=by rw[Nat.pow_succ];have:=Nat.two_pow_pos p;omega
 rw[e];exact(Nat.two_pow_add_eq_or_of_lt lt _).symm
theorem mod_down(X p:Nat)(h:X%2^(p+1)=0):X%2^p=0:=by
 have:=mod_bit X p;have q:=Nat.two_pow_pos p;omega
theorem mod_plus(X p:Nat)(h:X%2^(p+1)=0):(X+2^p)%2^p=0:=by
 rw[Nat.add_mod_right];exact mod_down X p h
theorem rblock_c(n k:Int)(o:Nat)(ho:o<18446744073709551616)(w:World):
  Calls Tryz.prog 168 #[.int .i64 n,.int .i64 k,.int .u64 o] w fun e w'=>e=.returned (.tuple #[.int .u64 (bkX n k o),.bool (bkB n k o)])∧Below w.heap.size w w':=by
 have C:Hid (∀w0,Calls Tryz.prog 178 #[.int .i64 n,.int .i64 k] w0 fun e w'=>e=.returned (.int .u64 (chN n k))∧Below w0.heap.size w0 w'):=fun w0=>rchoose_c n k w0;by_cases hc:chN n k≤o
 ·rw[show bkX n k o=0 by unfold bkX;rw[if_pos hc],show bkB n k o=false by unfold bkB;simp;omega];have hc2:(chN n k:Int)≤(o:Int):=by omega
  generalize chN n k=Z at *;go_enter Tryz.func168,Tryz.ntmps168;go_wp2_with fail;refine(C.out _).mono ?_;rintro e w1 ⟨rfl,hb⟩;go_wp2;go_ret2;exact⟨rfl,hb⟩
 ·have hin:¬(n<0∨62<n∨k<0∨n<k):=by
   intro h;apply hc;unfold chN;rw[if_pos h];omega
  rw[show bkX n k o=blk n.toNat k.toNat o by unfold bkX;rw[if_neg hc],show bkB n k o=true by unfold bkB;simp;omega];obtain⟨a,rfl⟩:=Int.eq_ofNat_of_zero_le (show 0≤n by omega)
  obtain⟨b,rfl⟩:=Int.eq_ofNat_of_zero_le (show 0≤k by omega);rw[Int.toNat_natCast,Int.toNat_natCast];have ha:a≤62:=by omega
  have hba:b≤a:=by omega
  have hc2:¬((chN a b:Nat):Int)≤(o:Int):=by omega
  clear hin;generalize chN a b=Z at *;go_enter Tryz.func168,Tryz.ntmps168;go_wp2_with fail;refine(C.out _).mono ?_;rintro e w1 ⟨rfl,hb⟩;clear C;go_wp2
  go_loopw [1,2,8,9,10] (fun kv ov xv i cv wr=>∃p K O X:Nat,p≤a∧K≤62∧O<18446744073709551616∧i=.int .i64 ((p:Int)-1)∧kv=.int .i64 K∧ov=.int .u64 O∧xv=.int .u64 X∧(X+blk p K O=blk a b o∧X%2^p=0)∧Below w.heap.size w wr) (fun _ _ _ i _ _=>(intOf i+1).toNat)
  case atStart=>exact⟨a,b,o,0,Nat.le_refl _,by omega,ho,by go_num,rfl,rfl,rfl,⟨by omega,by simp⟩,hb⟩
  case round=>
   obtain⟨p,K,O,X,hp,hK,hO,rfl,rfl,rfl,rfl,⟨hX,hM⟩,hwr⟩:=hrel
   have bX:X<4611686018427387904:=by
    have:=blk_lt a b o;have:2^a≤2^62:=Nat.pow_le_pow_right (by decide) ha;omega
   by_cases hp0:p=0
   ·subst hp0;have HX:Hid (X=blk a b o):=hX;clear hX hM;go_wp2;go_ret2;rw[←HX.out];exact⟨rfl,hwr⟩
   obtain⟨q,rfl⟩:∃q,p=q+1:=⟨p-1,by omega⟩;have e1:((q+1:Nat):Int)-1=(q:Int):=by omega
   rw[e1];have q64:(q:Int)<64:=by omega
   by_cases hK0:K=0
   ·subst hK0;have HX:Hid (X=blk a b o):=by rw[blk_zero]at hX;exact hX
    clear hX hM;go_wp2;go_ret2;rw[←HX.out];exact⟨rfl,hwr⟩
   have hK1:(0:Int)<(K:Int):=by omega
   have D:Hid (∀w0,Calls Tryz.prog 178 #[.int .i64 q,.int .i64 K] w0 fun e w'=>e=.returned (.int .u64 (ch q K))∧Below w0.heap.size w0 w'):=fun w0=>by
    have:=rchoose_c q K w0;rw[chN_in q K (by omega)]at this;exact this
   by_cases hge:ch q K≤O
   ·have HX:Hid (X+2^q+blk q (K-1) (O-ch q K)=blk a b o):=by rw[blk_hi q K O hK0 hge]at hX;show _=_;omega
    have HM:Hid ((X+2^q)%2^q=0):=mod_plus X q hM
    have HR:Hid (bits .or .u64 (X:Int) (IntKind.u64.wrap (2^q))=((X+2^q:Nat):Int)):=by
     show bits .or .u64 (X:Int) (IntKind.u64.wrap (2^q))=((X+2^q:Nat):Int);rw[shl_one q (by omega),u64_or_nat _ _ (by omega) (two_pow_lt q (by omega)),or_high X q hM]
    have hge2:((ch q K:Nat):Int)≤(O:Int):=by omega
    clear hX hM;obtain⟨Z2,hZ2⟩:∃Z2,Hid (Z2=ch q K):=⟨_,rfl⟩;rw[←hZ2.out]at D hge hge2 HX;go_wp2_with fail;refine(D.out _).mono ?_;rintro e w2 ⟨rfl,hb2⟩;have hw2:=hwr.trans (hb2.mono hwr.size);clear D hb2 hwr
    go_wp2;exact⟨⟨q,K-1,O-Z2,X+2^q,by omega,by omega,by omega,by go_num,by go_num,by go_num,congrArg (Value.int .u64) HR.out,⟨HX.out,HM.out⟩,hw2⟩,by simp only[intOf];omega⟩
   ·have HX:Hid (X+blk q K O=blk a b o):=by rw[blk_lo q K O hK0 hge]at hX;exact hX
    have HM:Hid (X%2^q=0):=mod_down X q hM;have hge2:¬((ch q K:Nat):Int)≤(O:Int):=by omega
    clear hX hM;obtain⟨Z2,hZ2⟩:∃Z2,Hid (Z2=ch q K):=⟨_,rfl⟩;rw[←hZ2.out]at D hge hge2;go_wp2_with fail;refine(D.out _).mono ?_;rintro e w2 ⟨rfl,hb2⟩;have hw2:=hwr.trans (hb2.mono hwr.size);clear D hb2 hwr
    go_wp2;exact⟨⟨q,K,O,X,by omega,hK,hO,by go_num,rfl,rfl,rfl,⟨HX.out,HM.out⟩,hw2⟩,by simp only[intOf];omega⟩
end Ow
end Go.Proofs.YtfnkklkdajlhlaaGreatDoor
namespace Go.Proofs.YtfnkklkdajlhlaaGreatDoor
open Go.RowKit Num Bit Bn
def asI(v:Nat):Int:=IntKind.i64.wrap (v:Int)
theorem asI_ch(v:Nat)(h:v<18446744073709551616):chN 15 (asI v)=chN 15 v:=by
 unfold asI;by_cases c:v<9223372036854775808
 ·have e:IntKind.i64.wrap (v:Int)=(v:Int):=by rw[IntKind.wrap_i64];omega
  rw[e]
 ·have e:IntKind.i64.wrap (v:Int)=(v:Int)-18446744073709551616:=by rw[IntKind.wrap_i64];omega
  rw[e];unfold chN;rw[if_pos (by omega),if_pos (by omega)]
theorem asI_wd(v:Nat)(h:v<18446744073709551616):wdN 15 (asI v)=wdN 15 v:=by unfold wdN;rw[asI_ch v h]
theorem asI_bkB(v o:Nat)(h:v<18446744073709551616):bkB 15 (asI v) o=bkB 15 v o:=by unfold bkB;rw[asI_ch v h]
theorem asI_bkX(v o:Nat)(h:v<18446744073709551616):bkX 15 (asI v) o=bkX 15 v o:=by
 unfold bkX;rw[asI_ch v h];by_cases c:chN 15 v≤o
 ·rw[if_pos c,if_pos c]
 ·rw[if_neg c,if_neg c]
  have hv:v≤15:=by
   refine Nat.le_of_not_lt fun hc=>c ?_;unfold chN;rw[if_pos (by omega)];omega
  have:asI v=(v:Int):=by unfold asI;rw[IntKind.wrap_i64];omega
  rw[this]
theorem bits_take(b t:Nat):Bit.bits b (t+1)=Bit.bits b t++[b.testBit t]:=by
 unfold Bit.bits;rw[List.range_succ,List.map_append];rfl
theorem bvl_app(l m:List Bool):bvl l++bvl m=bvl (l++m):=by simp[bvl]
theorem bvl_one(l:List Bool)(b:Bool):bvl l++[.bool b]=bvl (l++[b]):=by simp[bvl]
theorem bl_own{w:World}{base n c:Nat}{ao:Option Addr}{l:List Bool}(h:w.ownsRow base 4 1 (.slice ao n c) n (bvl l)):Bl w ao l:=by
 intro h0;have hlen:(bvl l).length=n*1:=h.1;have hl:l.length=n:=by simp[bvl]at hlen;omega
 have hk:=fun k hk=>h.lt k hk;have hc:=fun g hg=>h.cells (g:=g) hg;obtain⟨_,⟨e,e2⟩ | ⟨g,cap,cur,e,_⟩⟩:=h
 ·omega
 ·simp only[Value.slice.injEq]at e;obtain⟨rfl,_,rfl⟩:=e;refine⟨g,0,rfl,(hk g rfl).2,fun i hi=>?_⟩
  have hu:(bvl l)[i]?=some (.bool (bt l i)):=by
   unfold bvl bt;rw[List.getElem?_map,List.getD_eq_getElem?_getD,List.getElem?_eq_getElem hi];rfl
  rw[←hc g rfl i _ hu];unfold Addr.add;split
  ·subst_vars;rfl
  ·simp
theorem length_decG(N:Nat)(M:Int)(ys:List Nat):∀l a out r,out.length≤N→decG N M ys l a out=some r→r.length≤N:=by
 intro l;induction l with
 | nil=>intro a out r h e;simp only[decG,Option.some.injEq]at e;subst e;exact h
 | cons k l ih=>
  intro a out r h e;rw[decG]at e;split at e
  ·refine ih _ _ r ?_ e;unfold addB;rw[List.length_append,length_bits];omega
  ·cases e
theorem Wd.cellAt{w:World}{ao:Option Addr}{l:List Nat}(h:Wd w ao l)(q:Nat)(hq:q<l.length):∃b off,ao=some ⟨b,off,none⟩∧w.cell? ⟨b,off+q,none⟩=some (.int .u64 (gt l q)):=by
 obtain⟨b,off,e,_,hc⟩:=h (by omega);exact⟨b,off,e,hc q hq⟩
end Go.Proofs.YtfnkklkdajlhlaaGreatDoor
namespace Go.Proofs.YtfnkklkdajlhlaaGreatDoor
open Num Bit Bn
theorem numAt_mk(l:List Nat)(W:Nat)(hW:1≤W)(hl:∀i,gt l i<2^W)(i:Nat)(hi:i<l.length):numAt W (mkS l W l.length) i=gt l i:=by
 unfold numAt;refine(eq_numOf W (gt l i) _ fun k=>?_).symm;by_cases c:k<W
 ·unfold mkS
  have e1:(i*W+k)/W=i:=by
   rw[Nat.mul_comm,Nat.mul_add_div (by omega),Nat.div_eq_of_lt c];omega
  have e2:(i*W+k)%W=k:=by rw[Nat.mul_comm,Nat.mul_add_mod,Nat.mod_eq_of_lt c]
  have e3:i*W+k<l.length*W:=by
   have:=mul_next l.length W i hi;omega
  rw[bitAt_rowOf,e1,e2];simp[c,e3]
 ·have:gt l i<2^k:=Nat.lt_of_lt_of_le (hl i) (Nat.pow_le_pow_right (by decide) (by omega));rw[Nat.testBit_lt_two_pow this];simp[c]
theorem ichk_mk(l:List Nat)(W:Nat)(hW:1≤W)(hW2:W≤64)(hl:l.length*W≤1048576):ichk (l.length:Int) (W:Int) ((l.length*W:Nat):Int) (mkS l W l.length)=true:=by
 unfold ichk;rw[Bool.and_eq_true,decide_eq_true_eq];refine⟨⟨by omega,by omega,by omega,by rw[Int.natCast_mul]⟩,?_⟩;exact chk_rowOf _ _ hl
theorem gt_bclP(m:Nat)(f:Nat→Bool)(n i:Nat)(h:i<n):gt (bclP m f n) i=bcl m f i:=by
 unfold bclP gt;rw[List.getD_eq_getElem?_getD,List.getElem?_map,List.getElem?_range h];rfl
theorem bclP_lt(m:Nat)(f:Nat→Bool)(n i:Nat):gt (bclP m f n) i<2^4:=by
 by_cases c:i<n
 ·rw[gt_bclP m f n i c];have:=bcl_le m f i;omega
 ·rw[gt_out _ _ (by rw[length_bclP];omega)];decide
theorem nb_le(m:Nat)(hm:m≤1048576):nb m≤69906:=by unfold nb;omega
theorem list_mk(m:Nat)(f:Nat→Bool):(List.range (nb m)).map (numAt 4 (mkS (bclP m f (nb m)) 4 (nb m)))=bclP m f (nb m):=by
 unfold bclP;refine List.map_congr_left fun i hi=>?_;have hi:=List.mem_range.1 hi;have:=numAt_mk (bclP m f (nb m)) 4 (by decide) (bclP_lt m f (nb m)) i (by rw[length_bclP];exact hi)
 rw[length_bclP,gt_bclP m f _ i hi]at this;unfold bclP at this;exact this
theorem fr_off(m:Nat)(f:Nat→Bool):frL (bofP m f (nb m))=rowOf (bat m f (nb m)) fun j=>(bofP m f (nb m)).getD j false:=by
 unfold frL;rw[length_bofP];rfl
theorem fr_row(m:Nat)(f:Nat→Bool):frL ((List.range m).map f)=rowOf m f:=by
 unfold frL;rw[List.length_map,List.length_range];refine rowOf_congr m _ _ fun i hi=>?_;unfold bt;rw[List.getD_eq_getElem?_getD,List.getElem?_map,List.getElem?_range hi];rfl
theorem dec_built(m:Nat)(f:Nat→Bool)(hm:m≤1048576):
  decG m (bat m f (nb m)) (frL (bofP m f (nb m))) ((List.range (nb m)).map (numAt 4 (mkS (bclP m f (nb m)) 4 (nb m)))) 0 []=some ((List.range m).map f):=by
 rw[list_mk,fr_off];have h:=dec_enc m f (bat m f (nb m)) _ (reads_row m f hm) (nb m) 0 (by omega);rw[show min (15*0) m=0 by omega]at h;rw[←List.range_eq_range']at h;exact h
end Go.Proofs.YtfnkklkdajlhlaaGreatDoor
namespace Go.Proofs.YtfnkklkdajlhlaaGreatDoor
open Go.RowKit Num Bit Bn
theorem info3_8:(Tryz.prog.info? 3).map (fun i=>(i.zero,i.size,i.bytes))=some (some (.int .i64 0),1,8):=by kernel_rfl
def iv8(l:List Int):List Value:=l.map fun n:Int=>Value.int .i64 n
def onL(m:Nat)(f:Nat→Bool)(G:Nat):List Int:=(List.range G).map fun j=>(bon m f (8*j):Int)
def ptL(m:Nat)(f:Nat→Bool)(G:Nat):List Int:=(List.range G).map fun j=>(bat m f (8*j):Int)
theorem onL_succ(m:Nat)(f:Nat→Bool)(G:Nat):iv8 (onL m f G)++[.int .i64 (bon m f (8*G))]=iv8 (onL m f (G+1)):=by
 unfold onL iv8;rw[List.range_succ,List.map_append,List.map_append];rfl
theorem ptL_succ(m:Nat)(f:Nat→Bool)(G:Nat):iv8 (ptL m f G)++[.int .i64 (bat m f (8*G))]=iv8 (ptL m f (G+1)):=by
 unfold ptL iv8;rw[List.range_succ,List.map_append,List.map_append];rfl
theorem bclP_succ(m:Nat)(f:Nat→Bool)(p:Nat):wv (bclP m f p)++[.int .u64 (bcl m f p)]=wv (bclP m f (p+1)):=by
 unfold bclP wv;rw[List.range_succ,List.map_append,List.map_append];rfl
theorem bofP_succ(m:Nat)(f:Nat→Bool)(p:Nat):bvl (bofP m f p)++bvl (Bit.bits (bof m f p) (bwd m f p))=bvl (bofP m f (p+1)):=by
 rw[bvl_app,bofP]
structure R8 (w wr:World) (m n cap:Nat) (ao:Option Addr) (g:Nat) (ov pv:Value):Prop where
 b1:Cel wr w.heap.size [.int .i64 m,.slice ao n cap] 33
 b2:Cel wr (w.heap.size+1) [.int .i64 0,.int .i64 0,.int .i64 0,.int .i64 0,.slice none 0 0,.int .i64 0,.slice none 0 0,.slice none 0 0,.slice none 0 0] 41
 bx:Cel wr g [.int .i64 m,.int .i64 0,.int .i64 0,.int .i64 0,.slice none 0 0,.int .i64 0,.slice none 0 0,ov,pv] 41
 hg:w.heap.size+1<g
 hw:Below w.heap.size w wr
theorem R8.keep{w wr w':World}{m n cap:Nat}{ao:Option Addr}{g:Nat}{ov pv:Value}(h:R8 w wr m n cap ao g ov pv){base:Nat}(hb:Below base wr w')(hg:g<base):R8 w w' m n cap ao g ov pv:=
 have:=h.hg
 ⟨h.b1.keep hb (by omega),h.b2.keep hb (by omega),h.bx.keep hb hg,h.hg,h.hw.trans (hb.mono (by omega))⟩
theorem R8.ones{w wr:World}{m n cap:Nat}{ao:Option Addr}{g:Nat}{ov pv:Value}(h:R8 w wr m n cap ao g ov pv)(v:Value):R8 w (wr.setCell ⟨g,7,none⟩ v) m n cap ao g v pv:=
 have:=h.hg
 ⟨h.b1.other (by show w.heap.size≠g;omega) v,h.b2.other (by show w.heap.size+1≠g;omega) v,h.bx.set 7 v,h.hg,h.hw.setCell (by show w.heap.size≤g;omega) _⟩
theorem R8.pts{w wr:World}{m n cap:Nat}{ao:Option Addr}{g:Nat}{ov pv:Value}(h:R8 w wr m n cap ao g ov pv)(v:Value):R8 w (wr.setCell ⟨g,8,none⟩ v) m n cap ao g ov v:=
 have:=h.hg
 ⟨h.b1.other (by show w.heap.size≠g;omega) v,h.b2.other (by show w.heap.size+1≠g;omega) v,h.bx.set 8 v,h.hg,h.hw.setCell (by show w.heap.size≤g;omega) _⟩
structure RW (wr:World) (b:Nat) (cv fv ov pv:Value) (p1 p2 G1 G2 m:Nat) (f:Nat→Bool):Prop where
 c:wr.ownsRow b 110 1 cv p1 (wv (bclP m f p1))
 o:wr.ownsRow b 4 1 fv (bat m f p2) (bvl (bofP m f p2))
 n:wr.ownsRow b 3 1 ov G1 (iv8 (onL m f G1))
 t:wr.ownsRow b 3 1 pv G2 (iv8 (ptL m f G2))
 co:Ap.Apart cv fv
 cn:Ap.Apart cv ov
 ct:Ap.Apart cv pv
 on:Ap.Apart fv ov
 ot:Ap.Apart fv pv
 nt:Ap.Apart ov pv
theorem RW.keep{wr w2:World}{b:Nat}{cv fv ov pv:Value}{p1 p2 G1 G2 m:Nat}{f:Nat→Bool}(h:RW wr b cv fv ov pv p1 p2 G1 G2 m f)(hb:Below wr.heap.size wr w2):RW w2 b cv fv ov pv p1 p2 G1 G2 m f:=
 ⟨Ap.owns_below h.c hb,Ap.owns_below h.o hb,Ap.owns_below h.n hb,Ap.owns_below h.t hb,h.co,h.cn,h.ct,h.on,h.ot,h.nt⟩
theorem owns_set8{w:World}{base e n:Nat}{v u:Value}{vs:List Value}{a:Addr}(h:w.ownsRow base e 1 v n vs)(ha:a.block<base):(w.setCell a u).ownsRow base e 1 v n vs:=by
 obtain⟨h1,h2 | ⟨g,cap,cur,e1,e2,hh,r⟩⟩:=h
 ·exact⟨h1,.inl h2⟩
 ·exact⟨h1,.inr ⟨g,cap,cur,e1,e2,(Below.heap_setCell w a u g (by omega)).trans hh,r⟩⟩
theorem RW.set{wr:World}{b:Nat}{cv fv ov pv:Value}{p1 p2 G1 G2 m:Nat}{f:Nat→Bool}(h:RW wr b cv fv ov pv p1 p2 G1 G2 m f){a:Addr}(ha:a.block<b)(u:Value):RW (wr.setCell a u) b cv fv ov pv p1 p2 G1 G2 m f:=
 ⟨owns_set8 h.c ha,owns_set8 h.o ha,owns_set8 h.n ha,owns_set8 h.t ha,h.co,h.cn,h.ct,h.on,h.ot,h.nt⟩
theorem RW.c'{wr w2:World}{b:Nat}{cv fv ov pv:Value}{p1 p2 G1 G2 m:Nat}{f:Nat→Bool}(h:RW wr b cv fv ov pv p1 p2 G1 G2 m f){u:Value}(ho:w2.ownsRow b 110 1 u (p1+1) (wv (bclP m f (p1+1))))(hblk:∀k,u.ownBlock=some k→(cv.ownBlock=some k∨k=wr.heap.size)∧k<w2.heap.size)(hkeep:∀k,k<wr.heap.size→cv.ownBlock≠some k→w2.heap[k]?=wr.heap[k]?):RW w2 b u fv ov pv (p1+1) (p2) (G1) (G2) m f:=
 ⟨ho,(Ap.owns_other h.o hkeep h.co.symm),(Ap.owns_other h.n hkeep h.cn.symm),(Ap.owns_other h.t hkeep h.ct.symm),(Ap.apart_new h.o hblk h.co.symm).symm,(Ap.apart_new h.n hblk h.cn.symm).symm,(Ap.apart_new h.t hblk h.ct.symm).symm,h.on,h.ot,h.nt⟩
theorem RW.o'{wr w2:World}{b:Nat}{cv fv ov pv:Value}{p1 p2 G1 G2 m:Nat}{f:Nat→Bool}(h:RW wr b cv fv ov pv p1 p2 G1 G2 m f){u:Value}(ho:w2.ownsRow b 4 1 u (bat m f (p2+1)) (bvl (bofP m f (p2+1))))(hblk:∀k,u.ownBlock=some k→(fv.ownBlock=some k∨k=wr.heap.size)∧k<w2.heap.size)(hkeep:∀k,k<wr.heap.size→fv.ownBlock≠some k→w2.heap[k]?=wr.heap[k]?):RW w2 b cv u ov pv (p1) (p2+1) (G1) (G2) m f:=
 ⟨(Ap.owns_other h.c hkeep h.co),ho,(Ap.owns_other h.n hkeep h.on.symm),(Ap.owns_other h.t hkeep h.ot.symm),(Ap.apart_new h.c hblk h.co),h.cn,h.ct,(Ap.apart_new h.n hblk h.on.symm).symm,(Ap.apart_new h.t hblk h.ot.symm).symm,h.nt⟩
theorem RW.n'{wr w2:World}{b:Nat}{cv fv ov pv:Value}{p1 p2 G1 G2 m:Nat}{f:Nat→Bool}(h:RW wr b cv fv ov pv p1 p2 G1 G2 m f){u:Value}(ho:w2.ownsRow b 3 1 u (G1+1) (iv8 (onL m f (G1+1))))(hblk:∀k,u.ownBlock=some k→(ov.ownBlock=some k∨k=wr.heap.size)∧k<w2.heap.size)(hkeep:∀k,k<wr.heap.size→ov.ownBlock≠some k→w2.heap[k]?=wr.heap[k]?):RW w2 b cv fv u pv (p1) (p2) (G1+1) (G2) m f:=
 ⟨(Ap.owns_other h.c hkeep h.cn),(Ap.owns_other h.o hkeep h.on),ho,(Ap.owns_other h.t hkeep h.nt.symm),h.co,(Ap.apart_new h.c hblk h.cn),h.ct,(Ap.apart_new h.o hblk h.on),h.ot,(Ap.apart_new h.t hblk h.nt.symm).symm⟩
theorem RW.t'{wr w2:World}{b:Nat}{cv fv ov pv:Value}{p1 p2 G1 G2 m:Nat}{f:Nat→Bool}(h:RW wr b cv fv ov pv p1 p2 G1 G2 m f){u:Value}(ho:w2.ownsRow b 3 1 u (G2+1) (iv8 (ptL m f (G2+1))))(hblk:∀k,u.ownBlock=some k→(pv.ownBlock=some k∨k=wr.heap.size)∧k<w2.heap.size)(hkeep:∀k,k<wr.heap.size→pv.ownBlock≠some k→w2.heap[k]?=wr.heap[k]?):RW w2 b cv fv ov u (p1) (p2) (G1) (G2+1) m f:=
 ⟨(Ap.owns_other h.c hkeep h.ct),(Ap.owns_other h.o hkeep h.ot),(Ap.owns_other h.n hkeep h.nt),ho,h.co,h.cn,(Ap.apart_new h.c hblk h.ct),h.on,(Ap.apart_new h.o hblk h.ot),(Ap.apart_new h.n hblk h.nt)⟩
theorem wd_own8{w:World}{base n c:Nat}{ao:Option Addr}{l:List Nat}(h:w.ownsRow base 110 1 (.slice ao n c) n (wv l)):Wd w ao l:=by
 intro h0;have hlen:(wv l).length=n*1:=h.1;have hl:l.length=n:=by simp[wv]at hlen;omega
 have hk:=fun k hk=>h.lt k hk;have hc:=fun g hg=>h.cells (g:=g) hg;obtain⟨_,⟨e,e2⟩ | ⟨g,cap,cur,e,_⟩⟩:=h
 ·omega
 ·simp only[Value.slice.injEq]at e;obtain⟨rfl,_,rfl⟩:=e;refine⟨g,0,rfl,(hk g rfl).2,fun i hi=>?_⟩
  have hu:(wv l)[i]?=some (.int .u64 (gt l i)):=by
   unfold wv;rw[List.getElem?_map,gt_get l i hi];rfl
  rw[←hc g rfl i _ hu];unfold Addr.add;split
  ·subst_vars;rfl
  ·simp
theorem wd_base{w w1 w2:World}{b:Nat}{ao:Option Addr}{l:List Nat}(h:Wd w ao l)(hb:∀a,0<l.length→ao=some a→a.block<b)(h1:Below w.heap.size w w1)(h2:Below b w1 w2):Wd w2 ao l:=by
 intro h0;obtain⟨c,off,e,hlt,hc⟩:=h h0;have hcb:=hb _ h0 e;refine⟨c,off,e,?_,fun i hi=>((h2.cell (p:=⟨c,off+i,none⟩) hcb).trans (h1.cell (p:=⟨c,off+i,none⟩) hlt)).trans (hc i hi)⟩;have:=h1.size
 have:=h2.size;omega
theorem below_set8{base:Nat}{w w':World}(h:Below base w w')(b i:Nat)(v:Value)(hb:base≤b):Below base w (w'.setCell ⟨b,i,none⟩ v):=h.setCell hb _
def rwN(o:Option (List Bool)):Nat:=(o.map List.length).getD 0
def rwX(o:Option (List Bool)):List Nat:=(o.map frL).getD []
theorem drop_gt(l:List Nat)(q:Nat)(h:q<l.length):l.drop q=gt l q::l.drop (q+1):=by
 rw[List.drop_eq_getElem_cons h];congr 1;unfold gt;rw[List.getD_eq_getElem?_getD,List.getElem?_eq_getElem h];rfl
theorem row_c(m n V:Nat)(M:Int)(ao:Option Addr)(xs:List Nat)(cap:Nat)(L:Int)(qo:Option Addr)(ys:List Nat)(dap:Nat)(so:Option Addr)(sn sc:Nat)(tO:Option Addr)(tn tc:Nat)(w:World)
  (hm:m≤1048576) (hx:Wd w ao xs) (hf:Fit xs) (hik:ichk (n:Int) (V:Int) M xs=true) (hy:Wd w qo ys) (hfy:Fit ys) (O:Option (List Bool)) (hO:decG m L ys ((List.range n).map (numAt V xs)) 0 []=O):
  Calls Tryz.prog 109 #[.agg #[.int .i64 m,.int .i64 n,.int .i64 V,.int .i64 M,.slice ao xs.length cap,.int .i64 L,.slice qo ys.length dap,.slice so sn sc,.slice tO tn tc]] w fun e w'=>∃bo bc,e=.returned (.agg #[.int .i64 (rwN O),.slice bo (rwX O).length bc])∧Wd w' bo (rwX O)∧Fit (rwX O)∧(rwX O).length≤bc∧Below w.heap.size w w':=by
 obtain⟨a1,a2,a3,a4,a5,a6,a7,a8⟩:=ichk_out n V M xs hik;have hn:n≤1048576:=by omega
 obtain⟨i0,hi,hz0,hz1,hz2⟩:=info_parts Tryz.info4
 obtain⟨W,hW⟩:∃W,W=(w.alloc (.cells #[.int .i64 m,.int .i64 n,.int .i64 V,.int .i64 M,.slice ao xs.length cap,.int .i64 L,.slice qo ys.length dap,.slice so sn sc,.slice tO tn tc] 41)).alloc (.cells #[.int .i64 0,.slice none 0 0] 33):=⟨_,rfl⟩
 have bZ:Below w.heap.size w W:=by rw[hW];exact(below_alloc w _).alloc (by simp) _
 have B1:=yc3 hW;have B2:=yc2 hW
 have LI:Hid (∀w0,w0=W→Calls Tryz.prog 166 #[.agg #[.int .i64 n,.int .i64 V,.int .i64 M,.slice ao xs.length cap]] w0 fun e w'=>∃v,e=.returned v∧w'.ownsRow w0.heap.size 110 1 v n (wv ((List.range n).map (numAt V xs)))∧Below w0.heap.size w0 w'):=fun w0 h=>by subst h;exact reflist_ok M n V ao xs cap w0 (hx.keep bZ) hf hik
 have lC:((List.range n).map (numAt V xs)).length=n:=by simp
 have fC:∀q,gt ((List.range n).map (numAt V xs)) q<18446744073709551616:=by
  intro q;by_cases c:q<n
  ·unfold gt;rw[List.getD_eq_getElem?_getD,List.getElem?_map,List.getElem?_range c];show numAt V xs q<18446744073709551616;unfold numAt;have h1:=numOf_lt V (fun k=>bitAt xs (q*V+k))
   have h2:2^V≤2^64:=Nat.pow_le_pow_right (by decide) (by omega);omega
  ·rw[gt_out _ _ (by rw[lC];omega)];decide
 generalize (List.range n).map (numAt V xs)=CL at *;clear a1 a2 a3 a4 a5 a6 a7 a8 hik;go_enter Tryz.func109,Tryz.ntmps109;go_wp2_with fail;rw[←hW];refine(LI.out _ rfl).mono ?_;rintro e w1 ⟨v1,rfl,own1,hb⟩
 obtain⟨co,cc,rfl,hcc, -⟩:=Ap.owns_shape own1;have hC:=wd_own8 own1;have hw1:=bZ.trans (hb.mono bZ.size);replace B1:=B1.kept hb;replace B2:=B2.kept hb;obtain⟨b,hbd⟩:∃b,b=w1.heap.size:=⟨_,rfl⟩
 have l1:=B1.lt;have l2:=B2.lt
 have hcb:∀a,0<CL.length→co=some a→a.block<b:=fun a h0 e=>by
  obtain⟨c,off,e2,hlt,_⟩:=hC h0;rw[e2]at e;cases e;show c<b;omega
 rw[←hbd]at l1 l2;clear hb LI hW bZ W own1;go_wp2
 go_loopw [3,4,6,7,8,9,10,11,12,13] (fun ov av iv_ _ _ _ _ _ _ _ wr=>∃(q A:Nat) (ot:List Bool) (oo:Option Addr) (oc:Nat),q≤n∧iv_=.int .i64 q∧av=.int .i64 A∧A≤62*q∧ov=.slice oo ot.length oc∧ot.length≤m∧wr.ownsRow b 4 1 (.slice oo ot.length oc) ot.length (bvl ot)∧Hid (decG m L ys (CL.drop q) A ot=O)∧Cel wr w.heap.size [.int .i64 m,.int .i64 n,.int .i64 V,.int .i64 M,.slice ao xs.length cap,.int .i64 L,.slice qo ys.length dap,.slice so sn sc,.slice tO tn tc] 41∧Cel wr (w.heap.size+1) [.int .i64 0,.slice none 0 0] 33∧Wd wr co CL∧b≤wr.heap.size∧Below w.heap.size w wr) (fun _ _ iv_ _ _ _ _ _ _ _ _=>n-(intOf iv_).toNat)
 case atStart=>exact⟨0,0,[],none,0,by omega,rfl,rfl,by omega,rfl,by simp,World.ownsRow_nil _ _ _ _,hO,B1,B2,hC,by omega,hw1⟩
 case round=>
  obtain⟨q,A,ot,oo,oc,hq,rfl,rfl,hA,rfl,hol,hown,HO,X1,X2,XC,hbw,hwr⟩:=hrel;clear B1 B2 hC hw1 hO hbd;by_cases hlt:q<n
  ·have hlt2:(q:Int)<(n:Int):=by omega
   obtain⟨cb,co2,rfl,ce⟩:=XC.cellAt q (by omega);obtain⟨v,hv⟩:∃v,Hid (v=gt CL q):=⟨_,rfl⟩;have v64:v<18446744073709551616:=by rw[hv.out];exact fC q
   rw[←hv.out]at ce;obtain⟨K,hK⟩:∃K,Hid (K=asI v):=⟨_,rfl⟩;have eK:IntKind.i64.wrap (v:Int)=K:=hK.out.symm
   have WD:Hid (∀w0,Calls Tryz.prog 126 #[.int .i64 15,.int .i64 K] w0 fun e w'=>e=.returned (.int .i64 (wdN 15 v))∧Below w0.heap.size w0 w'):=fun w0=>by
    have:=Ow.rwidth_c 15 K w0;rw[hK.out,asI_wd v v64]at this;rw[hK.out];exact this
   have w62:=wd_le 15 (v:Int)
   have SL:Hid (∀w0,Below w.heap.size w w0→Calls Tryz.prog 167 #[.agg #[.int .i64 L,.slice qo ys.length dap],.int .i64 A,.int .i64 (wdN 15 v)] w0 fun e w'=>e=.returned (.tuple #[.int .u64 (slcX L ys A (wdN 15 v)),.int .i64 (slcE L ys A (wdN 15 v))])∧Below w0.heap.size w0 w'):=fun w0 h=>refslice_c L qo ys dap A (wdN 15 v) w0 (hy.keep h) hfy (by omega) (by omega) (by omega) (by omega)
   have BK:Hid (∀w0,Calls Tryz.prog 168 #[.int .i64 15,.int .i64 K,.int .u64 (slcX L ys A (wdN 15 v))] w0 fun e w'=>e=.returned (.tuple #[.int .u64 (bkX 15 v (slcX L ys A (wdN 15 v))),.bool (bkB 15 v (slcX L ys A (wdN 15 v)))])∧Below w0.heap.size w0 w'):=fun w0=>by
    have hs:slcX L ys A (wdN 15 v)<18446744073709551616:=by
     unfold slcX;split
     ·have h1:=numOf_lt (Int.toNat (wdN 15 v:Int)) (fun k=>bitAt ys (Int.toNat (A:Int)+k));have h2:2^(Int.toNat (wdN 15 v:Int))≤2^62:=Nat.pow_le_pow_right (by decide) (by omega);omega
     ·omega
    have:=Ow.rblock_c 15 K (slcX L ys A (wdN 15 v)) hs w0;rw[hK.out,asI_bkX v _ v64,asI_bkB v _ v64]at this;rw[hK.out];exact this
   have HD:Hid ((if slcE L ys A (wdN 15 v)=0∧bkB 15 v (slcX L ys A (wdN 15 v))=true then decG m L ys (CL.drop (q+1)) (A+wdN 15 v) (addB m ot (bkX 15 v (slcX L ys A (wdN 15 v))))else none)=O):=by
    have:=HO.out;rw[drop_gt CL q (by omega),←hv.out,decG]at this;exact this
   have bB:bkX 15 v (slcX L ys A (wdN 15 v))<32768:=by
    unfold bkX;split
    ·omega
    ·have:=blk_lt (15:Int).toNat (v:Int).toNat (slcX L ys A (wdN 15 v));have e:(15:Int).toNat=15:=rfl;rw[e]at this⊢;omega
   generalize bkX 15 v (slcX L ys A (wdN 15 v))=bb at *;generalize bkB 15 v (slcX L ys A (wdN 15 v))=ok at *;generalize slcX L ys A (wdN 15 v)=sx at *;generalize slcE L ys A (wdN 15 v)=se at *
   generalize wdN 15 (v:Int)=wd at *;clear HO;have x0:=X1.cell 0 rfl;have x5:=X1.cell 5 rfl;have x6:=X1.cell 6 rfl;go_wp2_with fail;refine(WD.out _).mono ?_;rintro e wa ⟨rfl,hb⟩;replace X1:=X1.kept hb
   replace X2:=X2.kept hb;replace XC:=XC.keep hb;replace hown:=Ap.owns_below hown hb;replace hwr:=hwr.trans (hb.mono hwr.size);replace hbw:=Nat.le_trans hbw hb.size;clear hb x0 x5 x6 ce;have x5:=X1.cell 5 rfl
   have x6:=X1.cell 6 rfl;go_wp2_with fail;refine(SL.out _ hwr).mono ?_;rintro e wb ⟨rfl,hb⟩;replace X1:=X1.kept hb;replace X2:=X2.kept hb;replace XC:=XC.keep hb;replace hown:=Ap.owns_below hown hb
   replace hwr:=hwr.trans (hb.mono hwr.size);replace hbw:=Nat.le_trans hbw hb.size;clear hb x5 x6;go_wp2_with fail;refine(BK.out _).mono ?_;rintro e wc ⟨rfl,hb⟩;replace X1:=X1.kept hb;replace X2:=X2.kept hb
   replace XC:=XC.keep hb;replace hown:=Ap.owns_below hown hb;replace hwr:=hwr.trans (hb.mono hwr.size);replace hbw:=Nat.le_trans hbw hb.size;clear hb WD SL BK;by_cases hbad:se=0∧ok=true
   ·obtain⟨rfl,rfl⟩:=hbad
    have HD2:Hid (decG m L ys (CL.drop (q+1)) (A+wd) (addB m ot bb)=O):=by
     have:=HD.out;rw[if_pos ⟨rfl,rfl⟩]at this;exact this
    clear HD;go_wp2
    go_loopw [3,13] (fun ov jv wr=>∃(t:Nat) (po:Option Addr) (pc:Nat),t≤15∧jv=.int .i64 t∧ov=.slice po (ot.length+t) pc∧ot.length+t≤m∧wr.ownsRow b 4 1 (.slice po (ot.length+t) pc) (ot.length+t) (bvl (ot++Bit.bits bb t))∧Cel wr w.heap.size [.int .i64 m,.int .i64 n,.int .i64 V,.int .i64 M,.slice ao xs.length cap,.int .i64 L,.slice qo ys.length dap,.slice so sn sc,.slice tO tn tc] 41∧Cel wr (w.heap.size+1) [.int .i64 0,.slice none 0 0] 33∧Wd wr (some ⟨cb,co2,none⟩) CL∧b≤wr.heap.size∧Below w.heap.size w wr) (fun _ jv _=>15-(intOf jv).toNat)
    case atStart=>exact⟨0,oo,oc,by omega,rfl,rfl,hol,by rw[show ot++Bit.bits bb 0=ot by simp[Bit.bits]];exact hown,X1,X2,XC,hbw,hwr⟩
    case round=>
     obtain⟨t,po,pc,ht,rfl,rfl,htl,hown2,Y1,Y2,YC,hbw2,hwr2⟩:=hrel;clear X1 X2 XC hown hwr hbw;have y0:=Y1.cell 0 rfl;by_cases hgo:t<15∧ot.length+t<m
     ·obtain⟨g1,g2⟩:=hgo;have g3:((ot.length+t:Nat):Int)<(m:Int):=by omega
      have t64:(t:Int)<64:=by omega
      have bb0:(0:Int)≤(bb:Int):=by omega
      have T:Hid ((((bb:Int)/2^t).tmod 2==1)=bb.testBit t):=test_end bb t
      go_wp2_with (at_builtin;rw[T.out];refine Ap.wpList_append_u rfl _ _ 85 rfl b 4 i0 (.bool false) 1 Tryz.underlying85 hi hz0 hz1 hz2 rfl _ (ot.length+t) (bvl (ot++Bit.bits bb t)) rfl (hown2.alloc _) (some ⟨wr.heap.size,0,none⟩) 1 1 [.bool (bb.testBit t)] rfl rfl ?e1 ?e2 ?e3 ?e4 ?e5 ?_)
      case e1=>exact fun _=>⟨_,rfl,fun j u hj=>by
       match j,hj with
       | 0,hj=>simp at hj;subst hj;simp[Addr.add]⟩
      case e2=>intro u hu;simp at hu;subst hu;rfl
      case e3=>unfold maxLen;omega
      case e4=>omega
      case e5=>simp;omega
      intro po2 pc2 w4 own4 hle4 hB4;rw[bvl_one,List.append_assoc,←bits_take]at own4;have hA4:=below_alloc wr (.cells #[.bool (bb.testBit t)] 4);have Y1':=(Y1.kept hA4).keep hB4 l1
      have Y2':=(Y2.kept hA4).keep hB4 l2;have hw4:=(hwr2.trans (hA4.mono hwr2.size)).trans (hB4.mono (by omega));have YC':=wd_base YC hcb hA4 hB4
      have hs4:b≤w4.heap.size:=by
       have h1:=hB4.size;simp at h1;omega
      have HOW:Hid (w4.ownsRow b 4 1 (.slice po2 (ot.length+t+1) pc2) (ot.length+t+1) (bvl (ot++Bit.bits bb (t+1)))):=own4;clear own4 hown2 Y1 Y2 YC hwr2 hbw2 hA4 hB4 y0;go_wp2
      exact⟨⟨t+1,po2,pc2,by omega,by go_num,rfl,by omega,HOW.out,Y1',Y2',YC',hs4,hw4⟩,by simp only[intOf];omega⟩
     ·have et:t=min 15 (m-ot.length):=by omega
      have eb:addB m ot bb=ot++Bit.bits bb t:=by unfold addB;rw[←et]
      have el:(addB m ot bb).length=ot.length+t:=by rw[eb,List.length_append,length_bits]
      have HOW:Hid (wr.ownsRow b 4 1 (.slice po (addB m ot bb).length pc) (addB m ot bb).length (bvl (addB m ot bb))):=by
       show wr.ownsRow b 4 1 (.slice po (addB m ot bb).length pc) (addB m ot bb).length (bvl (addB m ot bb));rw[el,eb];exact hown2
      have EL:Hid ((addB m ot bb).length=ot.length+t):=el;have hA2:A+wd≤62*(q+1):=by omega
      clear hown2 eb el et;by_cases g1:t<15
      ·have g2:¬((ot.length+t:Nat):Int)<(m:Int):=by omega
       clear hgo;go_wp2;exact⟨⟨q+1,A+wd,addB m ot bb,po,pc,by omega,by go_num,by go_num,hA2,by rw[EL.out],by rw[EL.out];exact htl,HOW.out,HD2,Y1,Y2,YC,hbw2,hwr2⟩,by simp only[intOf];omega⟩
      ·have g2:¬(t:Int)<15:=by omega
       clear hgo;go_wp2;exact⟨⟨q+1,A+wd,addB m ot bb,po,pc,by omega,by go_num,by go_num,hA2,by rw[EL.out],by rw[EL.out];exact htl,HOW.out,HD2,Y1,Y2,YC,hbw2,hwr2⟩,by simp only[intOf];omega⟩
   ·have HN:Hid (O=none):=by
     have:=HD.out;rw[if_neg hbad]at this;exact this.symm
    have y0:=X2.cell 0 rfl;have y1:=X2.cell 1 rfl;have f0:=X2.frozen 0;have f1:=X2.frozen 1;have hC2:=(X2.set 0 (.int .i64 0)).set 1 (.slice none 0 0)
    have HB:=below_set8 (below_set8 hwr (w.heap.size+1) 0 (.int .i64 0) (Nat.le_succ _)) (w.heap.size+1) 1 (.slice none 0 0) (Nat.le_succ _);have k0:=hC2.cell 0 rfl;have k1:=hC2.cell 1 rfl;by_cases s0:se=0
    ·have o0:ok=false:=by cases ok<;>simp_all
     subst s0 o0;clear hbad HD;go_wp2
     exact bodyPost_ret (v:=.agg #[.int .i64 0,.slice none 0 0]) (by simp[results,Tryz.results109,go_sem,k0,k1]) rfl ⟨none,0,by rw[HN.out];rfl,by rw[HN.out];exact wd0' _ _,by rw[HN.out];exact fun i=>by unfold gt;simp[rwX],by rw[HN.out];exact Nat.le_refl _,HB⟩
    ·have s1:(se != 0)=true:=by simp[s0]
     clear hbad HD;go_wp2
     exact bodyPost_ret (v:=.agg #[.int .i64 0,.slice none 0 0]) (by simp[results,Tryz.results109,go_sem,k0,k1]) rfl ⟨none,0,by rw[HN.out];rfl,by rw[HN.out];exact wd0' _ _,by rw[HN.out];exact fun i=>by unfold gt;simp[rwX],by rw[HN.out];exact Nat.le_refl _,HB⟩
  ·obtain rfl:q=n:=by omega
   have hlt2:¬(q:Int)<(q:Int):=by omega
   have ON:O=some ot:=by
    have:=HO.out;rw[List.drop_eq_nil_of_le (by omega)]at this;exact this.symm
   have FR:Hid (∀w0:World,Bl w0 oo ot→Calls Tryz.prog 39 #[.slice oo ot.length oc] w0 fun e w'=>∃g,e=.returned (.tuple #[.agg #[.int .i64 ot.length,.slice (some ⟨g,0,none⟩) (frL ot).length (frL ot).length],.int .i64 0])∧w0.heap.size≤g∧Own w' g (frL ot)∧Below w0.heap.size w0 w'):=fun w0 h=>by
    refine(reffrom_ok oo ot oc _ w0 h (by omega) rfl).mono ?_;rintro e w' ⟨g,rfl,hg,hOw,hb⟩;rw[fromS_all]at hOw;have e5:(frL ot).length=(ot.length+63)/64:=length_rowOf _ _;exact⟨g,by rw[e5],hg,hOw,hb⟩
   have HBl:=bl_own hown;have hfit:Fit (frL ot):=fit_rowOf _ _;obtain⟨Z,hZ⟩:∃Z,Hid (Z=frL ot):=⟨_,rfl⟩
   have EN:Hid (rwN O=ot.length∧rwX O=Z):=by
    show _∧_;rw[ON,hZ.out];exact⟨rfl,rfl⟩
   rw[←hZ.out]at FR hfit;clear ON HO;clear hown;go_wp2_with fail;refine(FR.out _ HBl).mono ?_;rintro e w2 ⟨g,rfl,hg,hOw,hb⟩;replace X2:=X2.kept hb;replace hwr:=hwr.trans (hb.mono hwr.size);have l3:=X2.lt
   have bA:=below_alloc w2 (.cells #[.int .i64 ot.length,.slice (some ⟨g,0,none⟩) Z.length Z.length] 33);replace X2:=X2.kept bA;replace hwr:=hwr.trans (bA.mono hwr.size);have hOw2:=hOw.keep bA;have y0:=X2.cell 0 rfl
   have y1:=X2.cell 1 rfl;have f0:=X2.frozen 0;have f1:=X2.frozen 1;have hC2:=(X2.set 0 (.int .i64 ot.length)).set 1 (.slice (some ⟨g,0,none⟩) Z.length Z.length)
   have HB:=below_set8 (below_set8 hwr (w.heap.size+1) 0 (.int .i64 ot.length) (Nat.le_succ _)) (w.heap.size+1) 1 (.slice (some ⟨g,0,none⟩) Z.length Z.length) (Nat.le_succ _);have ng:g≠w.heap.size+1:=by omega
   have HW:=((hOw2.set_other (a:=⟨w.heap.size+1,0,none⟩) ng (.int .i64 ot.length)).set_other (a:=⟨w.heap.size+1,1,none⟩) ng (.slice (some ⟨g,0,none⟩) Z.length Z.length)).wd;have k0:=hC2.cell 0 rfl
   have k1:=hC2.cell 1 rfl;clear hb FR HBl bA l3 l1 l2 hg hbw;go_wp2
   exact bodyPost_ret (v:=.agg #[.int .i64 ot.length,.slice (some ⟨g,0,none⟩) Z.length Z.length]) (by simp[results,Tryz.results109,go_sem,k0,k1]) rfl ⟨some ⟨g,0,none⟩,Z.length,by rw[EN.out.1,EN.out.2],by rw[EN.out.2];exact HW,by rw[EN.out.2];exact hfit,by rw[EN.out.2];exact Nat.le_refl _,HB⟩
end Go.Proofs.YtfnkklkdajlhlaaGreatDoor
namespace Go.Proofs.YtfnkklkdajlhlaaGreatDoor
open Go.RowKit
structure Only (g:Nat) (w w':World):Prop where
 os:w'.os=w.os
 tape:w'.tape=w.tape
 output:w'.output=w.output
 size:w'.heap.size=w.heap.size
 block:∀k,k≠g→w'.heap[k]?=w.heap[k]?
theorem Only.refl(g:Nat)(w:World):Only g w w:=⟨rfl,rfl,rfl,rfl,fun _ _=>rfl⟩
theorem Only.trans{g:Nat}{a b c:World}(h:Only g a b)(k:Only g b c):Only g a c:=⟨k.os.trans h.os,k.tape.trans h.tape,k.output.trans h.output,k.size.trans h.size,fun i hi=>(k.block i hi).trans (h.block i hi)⟩
theorem Only.below{g base:Nat}{w w':World}(h:Only g w w')(hb:base≤g):Below base w w':=⟨h.os,h.tape,h.output,by rw[h.size];exact Nat.le_refl _,fun k hk=>h.block k (by omega)⟩
theorem Only.set{g:Nat}{a w:World}(h:Only g a w)(i:Nat)(v:Value):Only g a (w.setCell ⟨g,i,none⟩ v):=
 ⟨h.os,h.tape,h.output,by rw[show(w.setCell ⟨g,i,none⟩ v).heap.size=w.heap.size by simp[World.setCell]];exact h.size,fun k hk=>(Below.heap_setCell w ⟨g,i,none⟩ v k hk).trans (h.block k hk)⟩
theorem Only.row(g:Nat)(w:World)(cs:Array Value):Only g w (w.setRow g cs):=by
 refine⟨rfl,rfl,rfl,?_,fun k hk=>?_⟩
 ·simp[World.setRow]
 ·simp only[World.setRow,Array.getElem?_modify];rw[if_neg (by omega)]
theorem Only.cell{g:Nat}{w w':World}(h:Only g w w'){p:Addr}(hp:p.block≠g):w'.cell? p=w.cell? p:=World.cell?_of_block (w:=w) (h.block p.block hp)
theorem Only.cel{g b:Nat}{w w':World}{cs:List Value}{T:TypeId}(h:Only g w w')(hc:Cel w b cs T)(hb:b≠g):Cel w' b cs T:=(h.block b hb).trans hc
theorem Only.wd{g:Nat}{w w':World}{ao:Option Addr}{xs:List Nat}(h:Only g w w')(hx:Wd w ao xs)(hb:∀a,0<xs.length→ao=some a→a.block≠g):Wd w' ao xs:=by
 intro h0;obtain⟨b,off,e,hlt,hc⟩:=hx h0;have hne:=hb _ h0 e;exact⟨b,off,e,by rw[h.size];exact hlt,fun i hi=>(h.cell (p:=⟨b,off+i,none⟩) hne).trans (hc i hi)⟩
theorem Only.owns{g base e n:Nat}{w w':World}{v:Value}{vs:List Value}(h:Only g w w')(ho:w.ownsRow base e 1 v n vs)(hg:g<base):w'.ownsRow base e 1 v n vs:=by
 obtain⟨h1,h2 | ⟨b,cap,cur,e1,e2,hh,r⟩⟩:=ho
 ·exact⟨h1,.inl h2⟩
 ·exact⟨h1,.inr ⟨b,cap,cur,e1,e2,(h.block b (by omega)).trans hh,r⟩⟩
theorem Wd.apart{w:World}{ao:Option Addr}{xs:List Nat}{b:Nat}{cs:List Value}{T:TypeId}(hx:Wd w ao xs)(hc:Cel w b cs T)(hn:∀v∈cs,∀n,v≠.int .u64 n):∀a,0<xs.length→ao=some a→a.block≠b:=by
 intro a h0 ha he;obtain⟨b',off,e,hlt,hcc⟩:=hx h0;rw[ha]at e;obtain rfl:=Option.some.inj e;have he:b'=b:=he;subst he;have h1:=hcc 0 h0;unfold World.cell? at h1
 rw[show w.heap[({ block:=b',off:=off+0,spot:=none }:Addr).block]?=_ from hc]at h1;have h2:cs[off+0]?=some (.int .u64 (Bit.gt xs 0)):=by simpa using h1
 exact hn _ (List.mem_of_getElem? h2) _ rfl
theorem store_cel{ops:Array Oper}{rest:List Oper}{d:Option Tmp}{ty T:TypeId}{ps:String}{af:Array Edge}{a:Act}{w:World}{Q:Exit→Act→World→Prop}{x y:Operand}
  (g:Nat) (old cs:List Value) (hx:a.eval x=.pointer (some ⟨g,0,none⟩)) (hy:a.eval y=.agg cs.toArray) (hc:Cel w g old T) (lo:old.length=cs.length) (hi:(Tryz.prog.info? T).map (·.size)=some cs.length) (h1:cs.toArray.all (·.oneCell')=true)
  (h:∀w1,Cel w1 g cs T→Only g w w1→wpList Tryz.prog ops Q rest (a.put d undef) w1):
  wpList Tryz.prog ops Q (⟨d,.store T x y,ty,ps,af,none⟩::rest) a w:=
 wpList_store_row rfl _ x y rfl g _ hx hy _ _ hc (by simpa using hi) (by simpa using lo) h1 (h _ (setRow_heap w g _ _ _ _ hc) (Only.row g w _))
theorem load_cel{ops:Array Oper}{rest:List Oper}{d:Option Tmp}{ty T:TypeId}{ps:String}{af:Array Edge}{a:Act}{w:World}{Q:Exit→Act→World→Prop}{x:Operand}
  (g:Nat) (cs:List Value) {fs:Array Field} (hx:a.eval x=.pointer (some ⟨g,0,none⟩)) (hc:Cel w g cs T) (hu:Tryz.prog.underlying T=some (.struct fs)) (hi:(Tryz.prog.info? T).map (·.size)=some cs.length)
  (h:wpList Tryz.prog ops Q rest (a.put d (.agg cs.toArray)) w):
  wpList Tryz.prog ops Q (⟨d,.load T x,ty,ps,af,none⟩::rest) a w:=
 wpList_load_row rfl _ x rfl g hx _ _ _ _ hc hu rfl (by simpa using hi) h
theorem result_cel{fn:Func}{p:Tmp}{T:TypeId}{w:World}{tmps:Array Value}{u:Tmp}(h:fn.results=#[.cell p T,.tmp u])(g:Nat)(cs:List Value){fs:Array Field}(hp:tmps.getD p undef=.pointer (some ⟨g,0,none⟩))(hc:Cel w g cs T)(hu:Tryz.prog.underlying T=some (.struct fs))(hi:(Tryz.prog.info? T).map (·.size)=some cs.length):
  (results fn tmps).run Tryz.prog w=.ok (.tuple #[.agg cs.toArray,tmps.getD u undef]) w:=by
 have hp':tmps[p]?.getD undef=.pointer (some ⟨g,0,none⟩):=by simpa using hp
 have hl:=run_loadVar_row (P:=Tryz.prog) w g T T cs.toArray (0,0) _ hc hu rfl (by simpa using hi);simp[results,h,hp',asAddr,hl]
theorem result_cel1{fn:Func}{p:Tmp}{T:TypeId}{w:World}{tmps:Array Value}(h:fn.results=#[.cell p T])(g:Nat)(cs:List Value){fs:Array Field}(hp:tmps.getD p undef=.pointer (some ⟨g,0,none⟩))(hc:Cel w g cs T)(hu:Tryz.prog.underlying T=some (.struct fs))(hi:(Tryz.prog.info? T).map (·.size)=some cs.length):
  (results fn tmps).run Tryz.prog w=.ok (.agg cs.toArray) w:=by
 have hp':tmps[p]?.getD undef=.pointer (some ⟨g,0,none⟩):=by simpa using hp
 have hl:=run_loadVar_row (P:=Tryz.prog) w g T T cs.toArray (0,0) _ hc hu rfl (by simpa using hi);simp[results,h,hp',asAddr,hl]
theorem hide{p:Prop}(h:p):Hid p:=h
end Go.Proofs.YtfnkklkdajlhlaaGreatDoor
