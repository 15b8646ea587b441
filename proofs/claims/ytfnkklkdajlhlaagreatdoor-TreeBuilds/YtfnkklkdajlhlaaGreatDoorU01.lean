import Derived.Test.YtfnkklkdajlhlaaGreatDoorU00
import Derived.BigRegion
import Derived.RegionTactic
import Derived.Deep.RegionHeld3
import Derived.OrdersHeld
import Derived.Deep.DeepCutAuto
import Derived.Deep.CutBlock
set_option linter.unusedVariables false
set_option linter.unusedSimpArgs false
set_option maxRecDepth 100000
set_option maxHeartbeats 16000000
namespace Go.Proofs.YtfnkklkdajlhlaaGreatDoor
open Go.RowKit Num Bit
theorem get_end(xs:List Nat)(hg:Fit xs)(i:Nat)(j k:Nat)(hj:j=i/64)(hk:k=i%64):(bits BinOp.and IntKind.u64 ((gt xs j:Int)/2^k) 1==1)=bitAt xs i:=by
 subst hj hk;have h:=hg (i/64);rw[bit_and _ _ (by omega) (by omega)];unfold bitAt;rw[bit_test,Int.toNat_natCast,Bool.eq_iff_iff,beq_iff_eq,decide_eq_true_eq];omega
theorem get_c(N:Int)(ao:Option Addr)(xs:List Nat)(cap:Nat)(i:Int)(w:World)(hx:Wd w ao xs)(hg:Fit xs):
  Calls Tryz.prog 51 #[.agg #[.int .i64 N,.slice ao xs.length cap],.int .i64 i] w fun e w'=>e=.returned (.tuple #[.bool (getB N xs i),.int .i64 (getE N xs i)])∧Below w.heap.size w w':=by
 have K:∀o,Wd (w.alloc o) ao xs:=fun o=>hx.keep (below_alloc w o);by_cases hE:getE N xs i=0
 ·have hk:chk N xs=true:=by unfold getE at hE;cases h:chk N xs with | true=>rfl | false=>simp[h]at hE
  have hi:0≤i∧i<N:=by
   unfold getE at hE;rw[if_neg (by simp[hk])]at hE;by_cases h:i<0∨N≤i
   ·rw[if_pos h]at hE;omega
   ·omega
  obtain⟨hc0,hc1,hc2,_⟩:=chk_out N xs hk;obtain⟨n,rfl⟩:=Int.eq_ofNat_of_zero_le hi.1;obtain⟨b,off,rfl,hb,hc⟩:=hx (by omega);have hE':(getE N xs n==0)=true:=by simpa using hE
  have hB:Hid (bitAt xs n=getB N xs n):=by unfold getB;rw[hk,show decide (0≤(n:Int)∧(n:Int)<N)=true by simpa using hi.2];simp[Hid]
  have hcj:=hc (n/64) (by omega);clear hx hk hc;obtain⟨h0,h1⟩:=hi;have hl:(n:Int)/64<(xs.length:Int):=by omega
  clear hc2 ;go_enter Tryz.func51,Tryz.ntmps51
  go_wp2_with (go_at_call 91;refine(place_c _ _ _ _ _ _ (K _)).mono ?_;rintro e w' ⟨rfl,hb⟩;obtain⟨c0,c1,hz,hw⟩:=box_cells hb;have hcw:=(hw.cell (p:=⟨_,off+n/64,none⟩) (by assumption)).trans hcj;clear hb)
  go_ret2;exact⟨ret_pair (congrArg Value.bool ((get_end xs hg n _ _ rfl rfl).trans hB.out)) (congrArg (Value.int IntKind.i64) hE.symm),by assumption⟩
 ·have hE':(getE N xs i==0)=false:=by simpa using hE
  have hB:Hid (false=getB N xs i):=by
   unfold getB getE at *;cases h:chk N xs with
   | false=>simp[Hid]
   | true=>
    simp only[h]at hE;by_cases h2:i<0∨N≤i
    ·have:decide (0≤i∧i<N)=false:=by simp;omega
     rw[this];simp[Hid]
    ·simp[h2]at hE
  clear hE;go_enter Tryz.func51,Tryz.ntmps51;go_wp2_with (go_at_call 91;refine(place_c _ _ _ _ _ _ (K _)).mono ?_;rintro e w' ⟨rfl,hb⟩;obtain⟨c0,c1,hz,hw⟩:=box_cells hb;clear hb);go_ret2
  exact⟨ret_pair (congrArg Value.bool hB.out) rfl,by assumption⟩
theorem slice_c(N:Int)(ao:Option Addr)(xs:List Nat)(cap:Nat)(i n:Int)(w:World)(hx:Wd w ao xs)(hg:Fit xs)(_hi: -9223372036854775808≤i)(_hi2:i≤9223372036854775807)(_hn: -9223372036854775808≤n)(_hn2:n≤9223372036854775807):
  Calls Tryz.prog 155 #[.agg #[.int .i64 N,.slice ao xs.length cap],.int .i64 i,.int .i64 n] w fun e w'=>e=.returned (.tuple #[.int .u64 (slcX N xs i n),.int .i64 (slcE N xs i n)])∧Below w.heap.size w w':=by
 have K:∀o,Wd (w.alloc o) ao xs:=fun o=>hx.keep (below_alloc w o);by_cases hE:slcE N xs i n=0
 ·have hk:chk N xs=true:=by unfold slcE at hE;cases h:chk N xs with | true=>rfl | false=>simp[h]at hE
  have hi:0≤n∧n≤64∧0≤i∧i≤N-n:=by
   unfold slcE at hE;by_cases h:chk N xs=false∨n<0∨64<n
   ·rw[if_pos h]at hE;omega
   ·rw[if_neg h]at hE;by_cases h2:i<0∨N-n<i
    ·rw[if_pos h2]at hE;omega
    ·simp[hk]at h;omega
  obtain⟨hc0,hc1,hc2,_⟩:=chk_out N xs hk;obtain⟨hn0,hn1,hi0,hi1⟩:=hi;by_cases hz:n=0
  ·subst hz;have R:Hid (0=((slcX N xs i 0:Nat):Int)):=by unfold slcX Hid;rw[if_pos hE];rfl
   have RE:Hid (0=slcE N xs i 0):=hE.symm;clear hE hx hc2;go_enter Tryz.func155,Tryz.ntmps155
   go_wp2_with (go_at_call 92;refine(check_c _ _ _ _ _ (K _)).mono ?_;rintro e w' ⟨rfl,hb⟩;obtain⟨c0,c1,hz,hw⟩:=box_cells hb;clear hb);go_ret2
   exact⟨ret_pair (congrArg (Value.int IntKind.u64) R.out) (congrArg (Value.int IntKind.i64) RE.out),by assumption⟩
  ·obtain⟨m,rfl⟩:=Int.eq_ofNat_of_zero_le hi0;obtain⟨b,off,rfl,hb,hc⟩:=hx (by omega);have hz':(n==0)=false:=by simpa using hz
   have hcj:=hc (m/64) (by omega);have RE:Hid (0=slcE N xs m n):=hE.symm;by_cases hl:m/64+1<xs.length
   ·have hcj2:=hc (m/64+1) hl;have hl1:(m:Int)/64<(xs.length:Int):=by omega
    have hl2:(m:Int)/64+1<(xs.length:Int):=by omega
    have hl3:xs.length≤16384:=by omega
    clear hE hx hc2 hc hz;go_enter Tryz.func155,Tryz.ntmps155
    go_wp2_with (first | (go_at_call 92;refine(check_c _ _ _ _ _ (K _)).mono ?_;rintro e w' ⟨rfl,hb⟩;obtain⟨c0,c1,hz,hw⟩:=box_cells hb;have hcw:=(hw.cell (p:=⟨_,off+m/64,none⟩) (by assumption)).trans hcj;have hcw2:=(hw.cell (p:=⟨_,off+(m/64+1),none⟩) (by assumption)).trans hcj2;clear hb) | (go_at_call 163;refine(mask_c _ _).mono ?_;rintro e w' ⟨rfl,rfl⟩))
    go_ret2;refine⟨ret_pair (congrArg (Value.int IntKind.u64) ?_) (congrArg (Value.int IntKind.i64) RE.out),by assumption⟩;rw[slice_two xs hg m n hn1,slcX,if_pos RE.out.symm,Int.toNat_natCast]
   ·have hl2:¬(m:Int)/64+1<(xs.length:Int):=by omega
    have hl1:(m:Int)/64<(xs.length:Int):=by omega
    have hl3:xs.length≤16384:=by omega
    clear hE hx hc2 hc hz;go_enter Tryz.func155,Tryz.ntmps155
    go_wp2_with (first | (go_at_call 92;refine(check_c _ _ _ _ _ (K _)).mono ?_;rintro e w' ⟨rfl,hb⟩;obtain⟨c0,c1,hz,hw⟩:=box_cells hb;have hcw:=(hw.cell (p:=⟨_,off+m/64,none⟩) (by assumption)).trans hcj;clear hb) | (go_at_call 163;refine(mask_c _ _).mono ?_;rintro e w' ⟨rfl,rfl⟩))
    go_ret2;refine⟨ret_pair (congrArg (Value.int IntKind.u64) ?_) (congrArg (Value.int IntKind.i64) RE.out),by assumption⟩;rw[slice_one xs hg m n hn1 (by omega),slcX,if_pos RE.out.symm,Int.toNat_natCast]
 ·have R:Hid (0=((slcX N xs i n:Nat):Int)):=by unfold slcX Hid;rw[if_neg hE];rfl
  cases hk:chk N xs with
  | false=>
   have RE:Hid (2=slcE N xs i n):=by unfold slcE Hid;rw[if_pos (.inl hk)]
   clear hE;go_enter Tryz.func155,Tryz.ntmps155;go_wp2_with (go_at_call 92;refine(check_c _ _ _ _ _ (K _)).mono ?_;rintro e w' ⟨rfl,hb⟩;obtain⟨c0,c1,hz,hw⟩:=box_cells hb;clear hb);go_ret2
   exact⟨ret_pair (congrArg (Value.int IntKind.u64) R.out) (congrArg (Value.int IntKind.i64) RE.out),by assumption⟩
  | true=>
   obtain⟨hc0,hc1,_,_⟩:=chk_out N xs hk;by_cases hn:n<0
   ·have RE:Hid (2=slcE N xs i n):=by unfold slcE Hid;rw[if_pos (.inr (.inl hn))]
    clear hE;go_enter Tryz.func155,Tryz.ntmps155;go_wp2_with (go_at_call 92;refine(check_c _ _ _ _ _ (K _)).mono ?_;rintro e w' ⟨rfl,hb⟩;obtain⟨c0,c1,hz,hw⟩:=box_cells hb;clear hb);go_ret2
    exact⟨ret_pair (congrArg (Value.int IntKind.u64) R.out) (congrArg (Value.int IntKind.i64) RE.out),by assumption⟩
   ·by_cases hn2:64<n
    ·have RE:Hid (2=slcE N xs i n):=by unfold slcE Hid;rw[if_pos (.inr (.inr hn2))]
     clear hE;go_enter Tryz.func155,Tryz.ntmps155;go_wp2_with (go_at_call 92;refine(check_c _ _ _ _ _ (K _)).mono ?_;rintro e w' ⟨rfl,hb⟩;obtain⟨c0,c1,hz,hw⟩:=box_cells hb;clear hb);go_ret2
     exact⟨ret_pair (congrArg (Value.int IntKind.u64) R.out) (congrArg (Value.int IntKind.i64) RE.out),by assumption⟩
    ·have hcond:i<0∨N-n<i:=by
      unfold slcE at hE;rw[if_neg (by simp[hk];omega)]at hE;by_cases h2:i<0∨N-n<i
      ·exact h2
      ·rw[if_neg h2]at hE;exact absurd rfl hE
     have RE:Hid (3=slcE N xs i n):=by unfold slcE Hid;rw[if_neg (by simp[hk];omega),if_pos hcond]
     clear hE;by_cases h3:i<0
     ·go_enter Tryz.func155,Tryz.ntmps155;go_wp2_with (go_at_call 92;refine(check_c _ _ _ _ _ (K _)).mono ?_;rintro e w' ⟨rfl,hb⟩;obtain⟨c0,c1,hz,hw⟩:=box_cells hb;clear hb);go_ret2
      exact⟨ret_pair (congrArg (Value.int IntKind.u64) R.out) (congrArg (Value.int IntKind.i64) RE.out),by assumption⟩
     ·have h4:N-n<i:=by omega
      clear hcond;go_enter Tryz.func155,Tryz.ntmps155;go_wp2_with (go_at_call 92;refine(check_c _ _ _ _ _ (K _)).mono ?_;rintro e w' ⟨rfl,hb⟩;obtain⟨c0,c1,hz,hw⟩:=box_cells hb;clear hb);go_ret2
      exact⟨ret_pair (congrArg (Value.int IntKind.u64) R.out) (congrArg (Value.int IntKind.i64) RE.out),by assumption⟩
theorem refwords_c(n:Int)(h0:0≤n)(h1:n≤2097152)(w:World):
  Calls Tryz.prog 60 #[.int .i64 n] w fun e w'=>e=.returned (.int .i64 ((n+63)/64))∧w'=w:=by
 go_enter Tryz.func60,Tryz.ntmps60;go_wp2;go_ret;exact⟨rfl,rfl⟩
theorem andnot_mask(x k:Nat)(hx:x<18446744073709551616)(hk:k≤64):(bits .andNot .u64 (x:Int) (maskI k)==0)=decide (x<2^k):=by
 unfold maskI;rw[show min (k:Int).toNat 64=k by omega];have hp:=Nat.pow_le_pow_right (n:=2) (j:=64) (by decide) hk;rw[show(2:Nat)^64=18446744073709551616 from rfl]at hp;have hq:=Nat.two_pow_pos k
 rw[u64_andNot_nat _ _ hx (by omega),Bool.eq_iff_iff,beq_iff_eq,decide_eq_true_eq];have e:18446744073709551615-(2^k-1)=18446744073709551616-2^k:=by omega
 rw[e]
 have tb:∀i,(x&&&(18446744073709551616-2^k)).testBit i=(x.testBit i&&decide (k≤i)):=by
  intro i;rw[Nat.testBit_and];by_cases hi:i<64
  ·congr 1;have h:=Nat.testBit_two_pow_sub_succ (n:=64) (x:=2^k-1) (by rw[show(2:Nat)^64=18446744073709551616 from rfl];omega) i
   rw[show 2^k-1+1=2^k by omega,show(2:Nat)^64=18446744073709551616 from rfl]at h;rw[h,Nat.testBit_two_pow_sub_one];by_cases c:i<k
   ·simp[c,show ¬k≤i by omega]
   ·simp[hi,c,show k≤i by omega]
  ·rw[test_big x i hx (by omega)];simp
 constructor
 ·intro h;have h0:x&&&(18446744073709551616-2^k)=0:=by omega
  refine Nat.lt_pow_two_of_testBit _ fun i hi=>?_;have h1:=tb i;rw[h0,Nat.zero_testBit]at h1;simpa [hi]using h1.symm
 ·intro h
  have h0:x&&&(18446744073709551616-2^k)=0:=by
   refine Nat.eq_of_testBit_eq fun i=>?_;rw[tb i,Nat.zero_testBit];by_cases c:k≤i
   ·rw[Nat.testBit_lt_two_pow (Nat.lt_of_lt_of_le h (Nat.pow_le_pow_right (by decide) c))];rfl
   ·simp[c]
  rw[h0];rfl
theorem refchk_end(N:Int)(xs:List Nat)(hf:Fit xs)(h1:0≤N)(h2:N≤1048576)(h3:(xs.length:Int)=(N+63)/64)(h4:¬N%64=0):
  (bits .andNot .u64 (gt xs (xs.length-1):Int) (maskI (N%64))==0)=chk N xs:=by
 have e:N%64=(((N%64).toNat:Nat):Int):=by omega
 rw[e,andnot_mask _ _ (hf _) (by omega)];unfold chk;rw[decide_eq_decide];constructor
 ·intro h;exact⟨h1,h2,h3,.inr (by simpa using h)⟩
 ·rintro⟨_,_,_,h | h⟩
  ·exact absurd h h4
  ·simpa using h
theorem refcheck_c(N:Int)(ao:Option Addr)(xs:List Nat)(cap:Nat)(w:World)(hx:Wd w ao xs)(hf:Fit xs):
  Calls Tryz.prog 30 #[.agg #[.int .i64 N,.slice ao xs.length cap]] w fun e w'=>e=.returned (.bool (chk N xs))∧Below w.heap.size w w':=by
 by_cases h1:N<0
 ·have hd:decide (N<0)=true:=by simpa using h1
  have r:false=chk N xs:=by unfold chk;rw[eq_comm,decide_eq_false_iff_not];omega
  have R:Hid (false=chk N xs):=r;clear r hx;go_enter Tryz.func30,Tryz.ntmps30;go_wp2;go_quiet (fail);go_wp2;go_ret;exact⟨ret_bool R.out,below_drewN ((Below.refl _ _).alloc (Nat.le_refl _) _) _⟩
 have hd:decide (N<0)=false:=by simpa using h1
 by_cases h2:N>1048576
 ·have hd2:decide (1048576<N)=true:=by simpa using h2
  have r:false=chk N xs:=by unfold chk;rw[eq_comm,decide_eq_false_iff_not];omega
  have R:Hid (false=chk N xs):=r;clear r hx;go_enter Tryz.func30,Tryz.ntmps30;go_wp2;go_quiet (fail);go_wp2;go_ret;exact⟨ret_bool R.out,below_drewN ((Below.refl _ _).alloc (Nat.le_refl _) _) _⟩
 have hd2:decide (1048576<N)=false:=by simpa using h2
 by_cases h3:(xs.length:Int)=(N+63)/64
 ·have h3':((xs.length:Int) != (N+63)/64)=false:=by simpa using h3
  by_cases h4:N%64=0
  ·have h4':(N%64==0)=true:=by simpa using h4
   have h4'':N.tmod 64=0:=by rw[Int.tmod_eq_emod_of_nonneg (by omega)];exact h4
   have r:true=chk N xs:=by unfold chk;rw[eq_comm,decide_eq_true_eq];omega
   have R:Hid (true=chk N xs):=r;clear r hx h3 h4;go_enter Tryz.func30,Tryz.ntmps30;go_wp2;go_quiet ((go_at_call 60;exact Calls.quiet_of_same (refwords_c _ (by omega) (by omega) _)));go_wp2;go_quiet (fail);go_wp2;go_ret
   exact⟨ret_bool R.out,below_drewN (below_drewN ((Below.refl _ _).alloc (Nat.le_refl _) _) _) _⟩
  ·have h4':(N%64==0)=false:=by simpa using h4
   have hl:1≤xs.length:=by omega
   have hl2:xs.length≤16384:=by omega
   have hl3:(1:Int)≤(xs.length:Int):=by omega
   obtain⟨b,off,rfl,hb,hc⟩:=hx hl;have R:Hid ((bits .andNot .u64 (gt xs (xs.length-1):Int) (maskI (N%64))==0)=chk N xs):=refchk_end N xs hf (by omega) (by omega) h3 h4
   have hc1:=hc (xs.length-1) (by omega);have ht:N.tmod 64=N%64:=Int.tmod_eq_emod_of_nonneg (by omega);have hs:IntKind.i64.wrap ((xs.length:Int)-1)=(xs.length:Int)-1:=wraps_i64 _ (by omega) (by omega)
   have hn:((xs.length:Int)-1).toNat=xs.length-1:=by omega
   have HM:Hid (∀w0:World,Calls Tryz.prog 61 #[.int .i64 (N%64)] w0 fun e w'=>e=.returned (.int .u64 (maskI (N%64)))∧w'=w0):=fun w0=>refmask_c (N%64) (by omega) (by omega) w0
   have hix:(xs.length:Int)-1<(xs.length:Int):=by omega
   have hix0:(0:Int)≤(xs.length:Int)-1:=by omega
   clear hx h3 h4 hc;go_enter Tryz.func30,Tryz.ntmps30;go_wp2;go_quiet ((go_at_call 60;exact Calls.quiet_of_same (refwords_c _ (by omega) (by omega) _)));go_wp2
   go_region_held3 (fun w'=>w'.cell? ⟨w.heap.size,0,none⟩=some (.int .i64 N)∧w'.cell? ⟨w.heap.size,1,none⟩=some (.slice (some ⟨b,off,none⟩) xs.length cap)∧w'.cell? ⟨b,off+(xs.length-1),none⟩=some (.int .u64 (gt xs (xs.length-1)))) (go_keep) (first | (go_at_call 61;refine(HM.out _).mono ?_;rintro e w2 ⟨rfl,rfl⟩))
   go_wp2;go_ret;exact⟨ret_bool R.out,below_drewN ((Below.refl _ _).alloc (Nat.le_refl _) _) _⟩
 ·have h3':((xs.length:Int) != (N+63)/64)=true:=by simpa using h3
  have r:false=chk N xs:=by unfold chk;rw[eq_comm,decide_eq_false_iff_not];omega
  have R:Hid (false=chk N xs):=r;clear r hx;go_enter Tryz.func30,Tryz.ntmps30;go_wp2;go_quiet ((go_at_call 60;exact Calls.quiet_of_same (refwords_c _ (by omega) (by omega) _)));go_wp2;go_ret
  exact⟨ret_bool R.out,below_drewN ((Below.refl _ _).alloc (Nat.le_refl _) _) _⟩
theorem at_end(xs:List Nat)(i:Nat):(((gt xs (i/64):Int)/2^(i%64)).tmod 2==1)=bitAt xs i:=by
 rw[bit_tmod _ _ (Int.natCast_nonneg _)];unfold bitAt;rw[bit_test,Int.toNat_natCast,Bool.eq_iff_iff,beq_iff_eq,decide_eq_true_eq];omega
theorem at_c(N:Int)(ao:Option Addr)(xs:List Nat)(cap:Nat)(i:Nat)(w:World)(hx:Wd w ao xs)(hi:i/64<xs.length)(hi2:i≤1048576):
  Calls Tryz.prog 31 #[.agg #[.int .i64 N,.slice ao xs.length cap],.int .i64 i] w fun e w'=>e=.returned (.bool (bitAt xs i))∧Below w.heap.size w w':=by
 obtain⟨b,off,rfl,hb,hc⟩:=hx (by omega);have hl:(i:Int)/64<(xs.length:Int):=by omega
 have hcj:=hc (i/64) hi;have R:Hid ((((gt xs (i/64):Int)/2^(i%64)).tmod 2==1)=bitAt xs i):=at_end xs i;clear hx hc;go_enter Tryz.func31,Tryz.ntmps31;go_wp2;go_ret;exact⟨ret_bool R.out,below_alloc w _⟩
theorem at_i(N:Int)(ao:Option Addr)(xs:List Nat)(cap:Nat)(i:Nat)(P:Int)(w:World)(hP:P=(i:Int))(hx:Wd w ao xs)(hi:i/64<xs.length)(hi2:i≤1048576):
  Calls Tryz.prog 31 #[.agg #[.int .i64 N,.slice ao xs.length cap],.int .i64 P] w fun e w'=>e=.returned (.bool (bitAt xs i))∧Below w.heap.size w w':=by
 subst hP;exact at_c N ao xs cap i w hx hi hi2
theorem or_num(q:Nat)(f:Nat→Bool)(hq:q<64)(hf:f q=true):bits .or .u64 (Bit.numOf q f:Int) (IntKind.u64.wrap (2^q))=((Bit.numOf (q+1) f:Nat):Int):=by
 have l:=numOf_lt q f;have l2:=two_pow_lt q hq;rw[shl_one q hq,u64_or_nat _ _ (by omega) l2];congr 1;simp only[Bit.numOf,hf,if_true];have e:=Nat.two_pow_add_eq_or_of_lt l 1;rw[Nat.mul_one]at e
 rw[Nat.or_comm,←e,Nat.add_comm]
theorem refslice_ok(ao:Option Addr)(xs:List Nat)(cap:Nat)(N:Int)(m n:Nat)(w:World)(hx:Wd w ao xs)(hf:Fit xs)(hk:chk N xs=true)(hn:n≤64)(hm:(m:Int)+n≤N):
  Calls Tryz.prog 167 #[.agg #[.int .i64 N,.slice ao xs.length cap],.int .i64 m,.int .i64 n] w fun e w'=>e=.returned (.tuple #[.int .u64 (Bit.numOf n (fun k=>bitAt xs (m+k)):Nat),.int .i64 0])∧Below w.heap.size w w':=by
 obtain⟨hc0,hc1,hc2,_⟩:=chk_out N xs hk;have K:∀o,Wd (w.alloc o) ao xs:=fun o=>hx.keep (below_alloc w o);have HL:Hid ((xs.length:Int)=(N+63)/64):=hc2;have d1:decide ((n:Int)<0)=false:=by simp
 have d2:decide (64<(n:Int))=false:=by simp;omega
 have d3:decide ((m:Int)<0)=false:=by simp
 have d4:decide (N<(m:Int))=false:=by simp;omega
 have d5:decide (N-(m:Int)<(n:Int))=false:=by simp;omega
 have h5:(n:Int)≤N-m:=by omega
 have h6:(m:Int)≤N:=by omega
 clear hc2;go_enter Tryz.func167,Tryz.ntmps167;go_wp2_with fail;refine(refcheck_c _ _ _ _ _ (K _) hf).mono ?_;rintro e w1 ⟨rfl,hb⟩;have KK:=box_cells hb;clear hb;obtain⟨c0,c1,hz,hw⟩:=KK;go_wp2
 go_loopw [8,9] (fun x k wr=>∃q:Nat,q≤n∧k=.int .i64 q∧x=.int .u64 (Bit.numOf q (fun k=>bitAt xs (m+k)):Nat)∧(wr.cell? ⟨w.heap.size,0,none⟩=some (.int .i64 N)∧wr.cell? ⟨w.heap.size,1,none⟩=some (.slice ao xs.length cap))∧w.heap.size<wr.heap.size∧Below w.heap.size w wr) (fun _ k _=>n-(intOf k).toNat)
 case atStart=>exact⟨0,Nat.zero_le _,rfl,rfl,⟨c0,c1⟩,hz,hw⟩
 case round=>
  obtain⟨q,hq,rfl,rfl,⟨r0,r1⟩,hz2,hwr⟩:=hrel;by_cases hlt:q<n
  ·have hlt2:(q:Int)<(n:Int):=by omega
   go_wp2_with fail;refine(at_i _ _ _ _ (m+q) _ _ (by omega) (hx.keep hwr) (by have:=HL.out;omega) (by omega)).mono ?_;rintro e w2 ⟨rfl,hb⟩;have s0:=(hb.cell (p:=⟨w.heap.size,0,none⟩) hz2).trans r0
   have s1:=(hb.cell (p:=⟨w.heap.size,1,none⟩) hz2).trans r1;have hz3:w.heap.size<w2.heap.size:=Nat.lt_of_lt_of_le hz2 hb.size;have hw2:=hwr.trans (hb.mono hwr.size);clear hb r0 r1 hwr hz2
   cases hb:bitAt xs (m+q)with
   | true=>
    have R:Hid (bits .or .u64 (Bit.numOf q (fun k=>bitAt xs (m+k)):Int) (IntKind.u64.wrap (2^q))=((Bit.numOf (q+1) (fun k=>bitAt xs (m+k)):Nat):Int)):=or_num q _ (by omega) hb;go_wp2
    refine⟨⟨q+1,by omega,by go_num,?_,⟨s0,s1⟩,hz3,hw2⟩,by simp only[intOf];omega⟩;rw[←R.out]
   | false=>
    have R:Hid ((Bit.numOf q (fun k=>bitAt xs (m+k)):Nat)=Bit.numOf (q+1) (fun k=>bitAt xs (m+k))):=by unfold Hid;simp[Bit.numOf,hb]
    go_wp2;refine⟨⟨q+1,by omega,by go_num,?_,⟨s0,s1⟩,hz3,hw2⟩,by simp only[intOf];omega⟩;rw[←R.out]
  ·have hq2:q=n:=by omega
   have R:Hid ((Bit.numOf q (fun k=>bitAt xs (m+k)):Nat)=Bit.numOf n (fun k=>bitAt xs (m+k))):=by rw[hq2];rfl
   clear hq2;go_wp2;go_ret2;exact⟨ret_pair (congrArg (fun x:Nat=>Value.int IntKind.u64 (x:Int)) R.out) rfl,hwr⟩
theorem refslice_c(N:Int)(ao:Option Addr)(xs:List Nat)(cap:Nat)(i n:Int)(w:World)(hx:Wd w ao xs)(hf:Fit xs)(_hi: -9223372036854775808≤i)(_hi2:i≤9223372036854775807)(_hn: -9223372036854775808≤n)(_hn2:n≤9223372036854775807):
  Calls Tryz.prog 167 #[.agg #[.int .i64 N,.slice ao xs.length cap],.int .i64 i,.int .i64 n] w fun e w'=>e=.returned (.tuple #[.int .u64 (slcX N xs i n),.int .i64 (slcE N xs i n)])∧Below w.heap.size w w':=by
 have K:∀o,Wd (w.alloc o) ao xs:=fun o=>hx.keep (below_alloc w o);by_cases hE:slcE N xs i n=0
 ·have hk:chk N xs=true:=by unfold slcE at hE;cases h:chk N xs with | true=>rfl | false=>simp[h]at hE
  have hi:0≤n∧n≤64∧0≤i∧i≤N-n:=by
   unfold slcE at hE;by_cases h:chk N xs=false∨n<0∨64<n
   ·rw[if_pos h]at hE;omega
   ·rw[if_neg h]at hE;by_cases h2:i<0∨N-n<i
    ·rw[if_pos h2]at hE;omega
    ·simp[hk]at h;omega
  obtain⟨hn0,hn1,hi0,hi1⟩:=hi;obtain⟨m,rfl⟩:=Int.eq_ofNat_of_zero_le hi0;obtain⟨k,rfl⟩:=Int.eq_ofNat_of_zero_le hn0;refine(refslice_ok ao xs cap N m k w hx hf hk (by omega) (by omega)).mono ?_;rintro e w' ⟨rfl,hb⟩
  refine⟨ret_pair ?_ (congrArg (Value.int IntKind.i64) hE.symm),hb⟩;rw[slcX,if_pos hE,Int.toNat_natCast,Int.toNat_natCast]
 ·have R:Hid (0=((slcX N xs i n:Nat):Int)):=by unfold slcX Hid;rw[if_neg hE];rfl
  cases hk:chk N xs with
  | false=>
   have RE:Hid (2=slcE N xs i n):=by unfold slcE Hid;rw[if_pos (.inl hk)]
   clear hE;go_enter Tryz.func167,Tryz.ntmps167;go_wp2_with (go_at_call 30;refine(refcheck_c _ _ _ _ _ (K _) hf).mono ?_;rintro e w' ⟨rfl,hb⟩;obtain⟨c0,c1,hz,hw⟩:=box_cells hb;clear hb);go_ret2
   exact⟨ret_pair (congrArg (Value.int IntKind.u64) R.out) (congrArg (Value.int IntKind.i64) RE.out),by assumption⟩
  | true=>
   obtain⟨hc0,hc1,_,_⟩:=chk_out N xs hk;by_cases hn:n<0
   ·have RE:Hid (2=slcE N xs i n):=by unfold slcE Hid;rw[if_pos (.inr (.inl hn))]
    clear hE;go_enter Tryz.func167,Tryz.ntmps167;go_wp2_with (go_at_call 30;refine(refcheck_c _ _ _ _ _ (K _) hf).mono ?_;rintro e w' ⟨rfl,hb⟩;obtain⟨c0,c1,hz,hw⟩:=box_cells hb;clear hb);go_ret2
    exact⟨ret_pair (congrArg (Value.int IntKind.u64) R.out) (congrArg (Value.int IntKind.i64) RE.out),by assumption⟩
   ·by_cases hn2:64<n
    ·have RE:Hid (2=slcE N xs i n):=by unfold slcE Hid;rw[if_pos (.inr (.inr hn2))]
     clear hE;go_enter Tryz.func167,Tryz.ntmps167;go_wp2_with (go_at_call 30;refine(refcheck_c _ _ _ _ _ (K _) hf).mono ?_;rintro e w' ⟨rfl,hb⟩;obtain⟨c0,c1,hz,hw⟩:=box_cells hb;clear hb);go_ret2
     exact⟨ret_pair (congrArg (Value.int IntKind.u64) R.out) (congrArg (Value.int IntKind.i64) RE.out),by assumption⟩
    ·have hcond:i<0∨N-n<i:=by
      unfold slcE at hE;rw[if_neg (by simp[hk];omega)]at hE;by_cases h2:i<0∨N-n<i
      ·exact h2
      ·rw[if_neg h2]at hE;exact absurd rfl hE
     have RE:Hid (3=slcE N xs i n):=by unfold slcE Hid;rw[if_neg (by simp[hk];omega),if_pos hcond]
     clear hE;by_cases h3:i<0
     ·clear hcond;go_enter Tryz.func167,Tryz.ntmps167;go_wp2_with (go_at_call 30;refine(refcheck_c _ _ _ _ _ (K _) hf).mono ?_;rintro e w' ⟨rfl,hb⟩;obtain⟨c0,c1,hz,hw⟩:=box_cells hb;clear hb);go_ret2
      exact⟨ret_pair (congrArg (Value.int IntKind.u64) R.out) (congrArg (Value.int IntKind.i64) RE.out),by assumption⟩
     ·have d3:decide (i<0)=false:=by simpa using h3
      by_cases h4:N<i
      ·clear hcond;go_enter Tryz.func167,Tryz.ntmps167;go_wp2_with (go_at_call 30;refine(refcheck_c _ _ _ _ _ (K _) hf).mono ?_;rintro e w' ⟨rfl,hb⟩;obtain⟨c0,c1,hz,hw⟩:=box_cells hb;clear hb);go_ret2
       exact⟨ret_pair (congrArg (Value.int IntKind.u64) R.out) (congrArg (Value.int IntKind.i64) RE.out),by assumption⟩
      ·have d4:decide (N<i)=false:=by simpa using h4
       have h5:N-i<n:=by omega
       clear hcond;go_enter Tryz.func167,Tryz.ntmps167;go_wp2_with (go_at_call 30;refine(refcheck_c _ _ _ _ _ (K _) hf).mono ?_;rintro e w' ⟨rfl,hb⟩;obtain⟨c0,c1,hz,hw⟩:=box_cells hb;clear hb);go_ret2
       exact⟨ret_pair (congrArg (Value.int IntKind.u64) R.out) (congrArg (Value.int IntKind.i64) RE.out),by assumption⟩
theorem refones_c(N:Int)(ao:Option Addr)(xs:List Nat)(cap:Nat)(n:Int)(w:World)(hx:Wd w ao xs)(hf:Fit xs):
  Calls Tryz.prog 11 #[.agg #[.int .i64 N,.slice ao xs.length cap],.int .i64 n] w fun e w'=>e=.returned (.int .i64 (onesI N xs n))∧Below w.heap.size w w':=by
 go_enter Tryz.func11,Tryz.ntmps11;go_wp2
 go_loopw [5,6] (fun c i wr=>∃k t:Nat,i=.int .i64 k∧c=.int .i64 t∧t≤k∧Hid (k=0∨((k:Int)≤n∧(k:Int)≤N∧chk N xs=true))∧k≤1048576∧Hid (t=cntB xs k)∧(wr.cell? ⟨w.heap.size,0,none⟩=some (.int .i64 N)∧wr.cell? ⟨w.heap.size,1,none⟩=some (.slice ao xs.length cap))∧w.heap.size<wr.heap.size∧Below w.heap.size w wr) (fun _ i _=>1048577-(intOf i).toNat)
 case atStart=>exact⟨0,0,rfl,rfl,Nat.le_refl _,.inl rfl,by omega,rfl,⟨by simp,by simp⟩,by simp,below_alloc w _⟩
 case round=>
  obtain⟨k,t,rfl,rfl,ht,HK,hk2,HT,⟨r0,r1⟩,hz,hwr⟩:=hrel;by_cases c1:(k:Int)<n
  ·by_cases c2:(k:Int)<N
   ·cases hk:chk N xs with
    | true=>
     obtain⟨hc0,hc1,hc2,_⟩:=chk_out N xs hk;have H1:Hid (k/64<xs.length):=by unfold Hid;omega
     clear hc2;go_wp2_with fail;refine(refcheck_c _ _ _ _ _ (hx.keep hwr) hf).mono ?_;rintro e w1 ⟨rfl,hb⟩;have s0:=(hb.cell (p:=⟨w.heap.size,0,none⟩) hz).trans r0
     have s1:=(hb.cell (p:=⟨w.heap.size,1,none⟩) hz).trans r1;have hz1:w.heap.size<w1.heap.size:=Nat.lt_of_lt_of_le hz hb.size;have hw1:=hwr.trans (hb.mono hwr.size);clear hb r0 r1 hz hwr;go_wp2_with fail
     refine(at_c _ _ _ _ _ _ (hx.keep hw1) H1.out hk2).mono ?_;rintro e w2 ⟨rfl,hb⟩;have q0:=(hb.cell (p:=⟨w.heap.size,0,none⟩) hz1).trans s0;have q1:=(hb.cell (p:=⟨w.heap.size,1,none⟩) hz1).trans s1
     have hz2:w.heap.size<w2.heap.size:=Nat.lt_of_lt_of_le hz1 hb.size;have hw2:=hw1.trans (hb.mono hw1.size);clear hb s0 s1 hz1 hw1;cases hb:bitAt xs k with
     | true=>
      have R:Hid (t+1=cntB xs (k+1)):=by unfold Hid;simp only[cntB,hb];rw[HT.out];rfl
      go_wp2;exact⟨⟨k+1,t+1,by go_num,by go_num,by omega,.inr ⟨by omega,by omega,by first | trivial | exact hk⟩,by omega,R,⟨q0,q1⟩,hz2,hw2⟩,by simp only[intOf];omega⟩
     | false=>
      have R:Hid (t=cntB xs (k+1)):=by unfold Hid;simp only[cntB,hb];rw[HT.out];rfl
      go_wp2;exact⟨⟨k+1,t,by go_num,rfl,by omega,.inr ⟨by omega,by omega,by first | trivial | exact hk⟩,by omega,R,⟨q0,q1⟩,hz2,hw2⟩,by simp only[intOf];omega⟩
    | false=>
     have R:Hid ((t:Int)=onesI N xs n):=by
      unfold onesI Hid;rw[hk];have:=HT.out;rcases HK.out with h | ⟨_,_,h⟩
      ·subst h;simp[this,cntB]
      ·rw[hk]at h;cases h
     go_wp2_with fail;refine(refcheck_c _ _ _ _ _ (hx.keep hwr) hf).mono ?_;rintro e w1 ⟨rfl,hb⟩;have hw1:=hwr.trans (hb.mono hwr.size);clear hb;go_wp2;go_ret;exact⟨ret_int R.out,hw1⟩
   ·have R:Hid ((t:Int)=onesI N xs n):=by
     unfold onesI Hid;have:=HT.out;rcases HK.out with h | ⟨h1,h2,h3⟩
     ·subst h;split
      ·rw[show(min n N).toNat=0 by omega,this]
      ·simp[this,cntB]
     ·rw[h3,show(min n N).toNat=k by omega,this];rfl
    go_wp2;go_ret;exact⟨ret_int R.out,hwr⟩
  ·have c1':decide ((k:Int)<n)=false:=by simpa using c1
   have R:Hid ((t:Int)=onesI N xs n):=by
    unfold onesI Hid;have:=HT.out;rcases HK.out with h | ⟨h1,h2,h3⟩
    ·subst h;split
     ·rw[show(min n N).toNat=0 by omega,this]
     ·simp[this,cntB]
    ·rw[h3,show(min n N).toNat=k by omega,this];rfl
   go_wp2;go_ret;exact⟨ret_int R.out,hwr⟩
end Go.Proofs.YtfnkklkdajlhlaaGreatDoor
namespace Go.Proofs.YtfnkklkdajlhlaaGreatDoor
open Go.RowKit
def Cel(w:World)(b:Nat)(cs:List Value)(T:TypeId):Prop:=w.heap[b]?=some (.cells cs.toArray T (0,0))
theorem Cel.lt{w:World}{b:Nat}{cs:List Value}{T:TypeId}(h:Cel w b cs T):b<w.heap.size:=(Array.getElem?_eq_some_iff.1 h).1
theorem Cel.cell{w:World}{b:Nat}{cs:List Value}{T:TypeId}(h:Cel w b cs T)(i:Nat){v:Value}(hv:cs[i]?=some v):w.cell? ⟨b,i,none⟩=some v:=by
 unfold World.cell?;rw[show w.heap[({ block:=b,off:=i,spot:=none }:Addr).block]?=_ from h];simpa using hv
theorem Cel.frozen{w:World}{b:Nat}{cs:List Value}{T:TypeId}(h:Cel w b cs T)(i:Nat):w.frozen? ⟨b,i,none⟩=false:=by
 unfold World.frozen?;rw[show w.heap[({ block:=b,off:=i,spot:=none }:Addr).block]?=_ from h];simp
theorem Cel.set{w:World}{b:Nat}{cs:List Value}{T:TypeId}(h:Cel w b cs T)(i:Nat)(v:Value):Cel (w.setCell ⟨b,i,none⟩ v) b (cs.set i v) T:=by
 unfold Cel at h⊢;simp only[World.setCell,Array.getElem?_modify];rw[if_pos trivial,h];simp
theorem Cel.other{w:World}{b:Nat}{cs:List Value}{T:TypeId}(h:Cel w b cs T){a:Addr}(ha:b≠a.block)(v:Value):Cel (w.setCell a v) b cs T:=(Below.heap_setCell w a v b ha).trans h
theorem Cel.keep{w w':World}{b base:Nat}{cs:List Value}{T:TypeId}(h:Cel w b cs T)(hb:Below base w w')(hlt:b<base):Cel w' b cs T:=(hb.block b hlt).trans h
theorem Cel.kept{w w':World}{b:Nat}{cs:List Value}{T:TypeId}(h:Cel w b cs T)(hb:Below w.heap.size w w'):Cel w' b cs T:=h.keep hb h.lt
theorem Cel.drew{w:World}{b:Nat}{cs:List Value}{T:TypeId}(h:Cel w b cs T):Cel w.drew b cs T:=h
theorem Cel.new(w:World)(cs:List Value)(T:TypeId):Cel (w.alloc (.cells cs.toArray T)) w.heap.size cs T:=by
 show(w.heap.push (.cells cs.toArray T))[w.heap.size]?=_;simp
theorem Cel.new2(w:World)(o:Obj)(cs:List Value)(T:TypeId):Cel ((w.alloc o).alloc (.cells cs.toArray T)) (w.heap.size+1) cs T:=by
 have:=Cel.new (w.alloc o) cs T;simpa using this
theorem Cel.alloc{w:World}{b:Nat}{cs:List Value}{T:TypeId}(h:Cel w b cs T)(o:Obj):Cel (w.alloc o) b cs T:=h.kept ((Below.refl _ _).alloc (Nat.le_refl _) _)
theorem yc1{w W:World}{cs:List Value}{T:TypeId}(h:W=w.alloc (.cells cs.toArray T)):Cel W w.heap.size cs T:=h ▸ Cel.new w cs T
theorem yc2{w W:World}{o:Obj}{cs:List Value}{T:TypeId}(h:W=(w.alloc o).alloc (.cells cs.toArray T)):Cel W (w.heap.size+1) cs T:=h ▸ Cel.new2 w o cs T
theorem yc3{w W:World}{o:Obj}{cs:List Value}{T:TypeId}(h:W=(w.alloc (.cells cs.toArray T)).alloc o):Cel W w.heap.size cs T:=h ▸ (Cel.new w cs T).alloc o
end Go.Proofs.YtfnkklkdajlhlaaGreatDoor
namespace Go.Proofs.YtfnkklkdajlhlaaGreatDoor
open Go.RowKit Num Bit
theorem rnum_c(ao:Option Addr)(l:List Int)(cap:Nat)(bo:Option Addr)(m:List Int)(dap:Nat)(w:World)(hx:Nd w ao l)(hy:Nd w bo m)(hl:l.length≤1048576):
  Calls Tryz.prog 171 #[.slice ao l.length cap,.slice bo m.length dap] w fun e w'=>e=.returned (.bool (decide (l=m)))∧Below w.heap.size w w':=by
 by_cases h2:l.length=m.length
 ·have h2':((l.length:Int) != (m.length:Int))=false:=by simp[h2]
  have H2:Hid (l.length=m.length):=h2;have h3:l.length≤m.length:=by omega
  clear h2;go_enter Tryz.func171,Tryz.ntmps171;go_wp2;go_loopw [5] (fun i wr=>∃k:Nat,k≤l.length∧i=.int .i64 k∧Hid (∀j,j<k→gi l j=gi m j)∧Below w.heap.size w wr) (fun i _=>l.length-(intOf i).toNat)
  case atStart=>exact⟨0,by omega,rfl,fun j hj=>absurd hj (by omega),Below.refl _ _⟩
  case round=>
   obtain⟨k,hk,rfl,H,hw⟩:=hrel;by_cases hlt:k<l.length
   ·obtain⟨b,off,rfl,hb,hc⟩:=hx (by omega);obtain⟨d,off2,rfl,hd,hc2⟩:=hy (by omega);have e1:=(hw.cell (p:=⟨b,off+k,none⟩) hb).trans (hc k hlt)
    have e2:=(hw.cell (p:=⟨d,off2+k,none⟩) hd).trans (hc2 k (by omega));have hlt2:k<m.length:=by omega
    have hlt3:(k:Int)<(l.length:Int):=by omega
    have hlt4:(k:Int)<(m.length:Int):=by omega
    clear hc hc2;by_cases hv:gi l k=gi m k
    ·have hne:(gi l k != gi m k)=false:=by simp[hv]
     go_wp2;go_quiet (fail);go_wp2;refine⟨⟨k+1,by omega,by go_num,?_,below_drewN hw _⟩,by simp only[intOf];omega⟩;intro j hj;by_cases e:j=k
     ·subst e;exact hv
     ·exact H.out j (by omega)
    ·have hne:(gi l k != gi m k)=true:=by simp[hv]
     have R:Hid (decide (l=m)=false):=by
      show decide (l=m)=false;simp only[decide_eq_false_iff_not];intro e;subst e;exact hv rfl
     go_wp2;go_quiet (fail);go_wp2;go_ret;rw[R.out];exact⟨rfl,below_drewN hw _⟩
   ·have R:Hid (decide (l=m)=true):=by
     show decide (l=m)=true;simp only[decide_eq_true_eq];exact gi_ext H2.out (fun i hi=>H.out i (by omega))
    go_wp2;go_ret;rw[R.out];exact⟨rfl,hw⟩
 ·have h2':((l.length:Int) != (m.length:Int))=true:=by simp;omega
  have R:Hid (decide (l=m)=false):=by
   show decide (l=m)=false;simp only[decide_eq_false_iff_not];intro e;subst e;exact h2 rfl
  go_enter Tryz.func171,Tryz.ntmps171;go_wp2;go_ret;rw[R.out];exact⟨rfl,Below.refl _ _⟩
theorem rsame_c(N:Int)(ao:Option Addr)(xs:List Nat)(cap:Nat)(so:Option Addr)(su:List Int)(sc:Nat)(tO:Option Addr)(sb:List Int)(tc:Nat)(M:Int)(bo:Option Addr)(ys:List Nat)(dap:Nat)(po:Option Addr)(pu:List Int)(pc:Nat)(qo:Option Addr)(qb:List Int)(qc:Nat)(w:World)
  (hx:Wd w ao xs) (hy:Wd w bo ys) (hl:xs.length≤1048576) (s1:Nd w so su) (s2:Nd w po pu) (sl:su.length≤1048576) (t1:Nd w tO sb) (t2:Nd w qo qb) (tl:sb.length≤1048576):
  Calls Tryz.prog 129 #[.agg #[.int .i64 N,.slice ao xs.length cap,.slice so su.length sc,.slice tO sb.length tc],.agg #[.int .i64 M,.slice bo ys.length dap,.slice po pu.length pc,.slice qo qb.length qc]] w fun e w'=>e=.returned (.bool ((decide (N=M)&&decide (xs=ys))&&(decide (su=pu)&&decide (sb=qb))))∧Below w.heap.size w w':=by
 obtain⟨W,hW⟩:∃W,W=(w.alloc (.cells #[.int .i64 N,.slice ao xs.length cap,.slice so su.length sc,.slice tO sb.length tc] 37)).alloc (.cells #[.int .i64 M,.slice bo ys.length dap,.slice po pu.length pc,.slice qo qb.length qc] 37):=⟨_,rfl⟩
 have bW:=yb2 hW;have B1:=yc3 hW;have B2:=yc2 hW
 have C1:Hid (∀w0,w0=W→Calls Tryz.prog 170 #[.agg #[.int .i64 N,.slice ao xs.length cap],.agg #[.int .i64 M,.slice bo ys.length dap]] w0 fun e w'=>e=.returned (.bool (decide (N=M)&&decide (xs=ys)))∧Below w0.heap.size w0 w'):=fun w0 h=>by subst h;exact same_c N ao xs cap M bo ys dap w0 (hx.keep bW) (hy.keep bW) hl
 have C2:Hid (∀w0,Below w.heap.size w w0→Calls Tryz.prog 171 #[.slice so su.length sc,.slice po pu.length pc] w0 fun e w'=>e=.returned (.bool (decide (su=pu)))∧Below w0.heap.size w0 w'):=fun w0 h=>rnum_c so su sc po pu pc w0 (s1.keep h) (s2.keep h) sl
 have C3:Hid (∀w0,Below w.heap.size w w0→Calls Tryz.prog 171 #[.slice tO sb.length tc,.slice qo qb.length qc] w0 fun e w'=>e=.returned (.bool (decide (sb=qb)))∧Below w0.heap.size w0 w'):=fun w0 h=>rnum_c tO sb tc qo qb qc w0 (t1.keep h) (t2.keep h) tl
 generalize (decide (N=M)&&decide (xs=ys))=b1 at *;generalize decide (su=pu)=b2 at *;generalize decide (sb=qb)=b3 at *;go_enter Tryz.func129,Tryz.ntmps129;go_wp2_with fail;rw[←hW];refine(C1.out _ rfl).mono ?_
 rintro e w1 ⟨rfl,hb⟩;have b1w:=bW.trans (hb.mono bW.size);have c0:=(B1.kept hb).cell 0 rfl;have d0:=(B2.kept hb).cell 0 rfl;have c1:=(B1.kept hb).cell 1 rfl;have d1:=(B2.kept hb).cell 1 rfl
 have c2:=(B1.kept hb).cell 2 rfl;have d2:=(B2.kept hb).cell 2 rfl;have c3:=(B1.kept hb).cell 3 rfl;have d3:=(B2.kept hb).cell 3 rfl;cases b1 with
 | false=>
  go_wp2;go_ret;exact⟨rfl,b1w⟩
 | true=>
  go_wp2_with fail;refine(C2.out _ b1w).mono ?_;rintro e w2 ⟨rfl,hb2⟩;have b2w:=b1w.trans (hb2.mono b1w.size);have c0':=((B1.kept hb).kept hb2).cell 0 rfl;have d0':=((B2.kept hb).kept hb2).cell 0 rfl
  have c1':=((B1.kept hb).kept hb2).cell 1 rfl;have d1':=((B2.kept hb).kept hb2).cell 1 rfl;have c2':=((B1.kept hb).kept hb2).cell 2 rfl;have d2':=((B2.kept hb).kept hb2).cell 2 rfl
  have c3':=((B1.kept hb).kept hb2).cell 3 rfl;have d3':=((B2.kept hb).kept hb2).cell 3 rfl;cases b2 with
  | false=>
   go_wp2;go_ret;exact⟨rfl,b2w⟩
  | true=>
   go_wp2_with fail;refine(C3.out _ b2w).mono ?_;rintro e w3 ⟨rfl,hb3⟩;have b3w:=b2w.trans (hb3.mono b2w.size);go_wp2;go_ret;exact⟨by cases b3<;>rfl,b3w⟩
end Go.Proofs.YtfnkklkdajlhlaaGreatDoor
namespace Go.Proofs.YtfnkklkdajlhlaaGreatDoor
open Go
section
variable {P:Program} {ops:Array Oper} {Q:Exit→Act→World→Prop} {md:Region.Mode} {S:World→Prop} {ns:List Nat}
def AnyG(P:Program)(md:Region.Mode)(ops:Array Oper)(Q:Exit→Act→World→Prop)(S:World→Prop)(ns:List Nat):Nat→Array Bool→Act→World→Prop
 | 0,l,a,w=>Region.ready md ops l=[]∧Q .normal a w
 | f+1,l,a,w=>(Region.ready md ops l=[]→Q .normal a w)∧∀i∈Region.ready md ops l,wpOp P ops Q i (fun a' w'=>(i ∉ ns→S w→S w')∧AnyG P md ops Q S ns f (l.setIfInBounds i true) a' w') a w
theorem AnyG.any:∀f l a w,AnyG P md ops Q S ns f l a w→wpAny P md ops Q f l a w
 | 0,_,_,_,h=>h
 | f+1,_,_,_,h=>⟨h.1,fun i hi=>wpOp_mono (fun a' w' h'=>AnyG.any f _ a' w' h'.2) (h.2 i hi)⟩
def waits(md:Region.Mode)(ops:Array Oper)(n i:Nat):Bool:=
 match ops[n]? with
 | some o=>o.after.any fun e=>Region.binds md e&&e.on==i
 | none=>true
theorem waits_not{n i:Nat}{l:Array Bool}(hw:waits md ops n i=true)(hi:l.getD i true=false):n ∉ Region.ready md ops l:=by
 intro hn;obtain⟨_,o,ho,hall⟩:=mem_ready.1 hn;unfold waits at hw;rw[ho]at hw;obtain⟨e,he,hb⟩:=Array.any_eq_true'.1 hw;simp only[Bool.and_eq_true,beq_iff_eq]at hb;have h1:=hall e he hb.1;rw[hb.2]at h1
 rcases Nat.lt_or_ge i l.size with h' | h'
 ·simp[h']at hi h1;rw[hi]at h1;cases h1
 ·simp[Array.getElem?_eq_none h']at h1
theorem AnyG.first{i:Nat}{oi:Oper}{v:Value}(hi:ops[i]?=some oi)(hsel:Region.noSelect ops=true)(hQ:∀c a w,Q (.panic c) (a.put oi.dst v) w→Q (.panic c) a w)(hw:ns.all (fun n=>waits md ops n i)=true):
  ∀f l a w,(∀j oj,ops[j]?=some oj→j≠i→l.getD j true=false→(∀e∈oj.after,Region.binds md e=true→e.on≠i)→oi.apart ops oj=true)→
   i∈Region.ready md ops l→YieldsIf P ops S oi v a→S w→AnyG P md ops Q S ns f (l.setIfInBounds i true) (a.put oi.dst v) w→AnyG P md ops Q S ns (f+1) l a w:=by
 intro f;induction f with
 | zero=>
  intro l a w _ hr hy hS H;refine⟨fun h=>absurd hr (by rw[h];simp),fun j hj=>?_⟩;by_cases c:j=i
  ·subst c;exact hy.wpOp hi hS ⟨fun _ h=>h,H⟩
  ·have h1:=ready_mono hj c;rw[H.1]at h1;exact absurd h1 (by simp)
 | succ f ih=>
  intro l a w hfree hr hy hS H;refine⟨fun h=>absurd hr (by rw[h];simp),fun j hj=>?_⟩;by_cases c:j=i
  ·subst c;exact hy.wpOp hi hS ⟨fun _ h=>h,H⟩
  have hun:=(mem_ready.1 hr).1;have hjn:j ∉ ns:=fun e=>waits_not (List.all_eq_true.1 hw j e) hun hj;obtain⟨hjun,oj,hoj,hall⟩:=mem_ready.1 hj
  have hnot:∀e∈oj.after,Region.binds md e=true→e.on≠i:=by
   intro e he hb heq;have h1:=hall e he hb;rw[heq]at h1;rcases Nat.lt_or_ge i l.size with h' | h'
   ·simp[h']at hun h1;rw[hun]at h1;cases h1
   ·simp[Array.getElem?_eq_none h']at h1
  have h2:=wpOp_putIf hoj (hfree j oj hoj c hjun hnot) (fun cs b=>Region.noSelect_spec hsel i oi cs b hi) (fun cs b=>Region.noSelect_spec hsel j oj cs b hoj) hQ hy (H.2 j (ready_mono hj c))
  refine wpOp_mono (fun a' w' h3=>⟨h3.2.1,ih (l.setIfInBounds j true) a' w' ?_ (ready_mono hr (Ne.symm c)) h3.1 (h3.2.1 hjn hS) ?_⟩) h2
  ·intro k ok hk hki hku hno;refine hfree k ok hk hki ?_ hno;by_cases e:j=k
   ·subst e;exact hjun
   ·rw[getD_set_ne true e]at hku;exact hku
  ·rw[Array.setIfInBounds_comm _ _ c];exact h3.2.2
theorem AnyG.firstW{i:Nat}{oi:Oper}{v:Value}(hi:ops[i]?=some oi)(hsel:Region.noSelect ops=true)(hQ:∀c a w,Q (.panic c) (a.put oi.dst v) w→Q (.panic c) a w):
  ∀f l a w,(∀j oj,ops[j]?=some oj→j≠i→l.getD j true=false→(∀e∈oj.after,Region.binds md e=true→e.on≠i)→oi.apart ops oj=true)→
   i∈Region.ready md ops l→YieldsIf P ops (fun _=>True) oi v a→AnyG P md ops Q S ns f (l.setIfInBounds i true) (a.put oi.dst v) w→AnyG P md ops Q S ns (f+1) l a w:=by
 intro f;induction f with
 | zero=>
  intro l a w _ hr hy H;refine⟨fun h=>absurd hr (by rw[h];simp),fun j hj=>?_⟩;by_cases c:j=i
  ·subst c;exact hy.wpOp hi trivial ⟨fun _ h=>h,H⟩
  ·have h1:=ready_mono hj c;rw[H.1]at h1;exact absurd h1 (by simp)
 | succ f ih=>
  intro l a w hfree hr hy H;refine⟨fun h=>absurd hr (by rw[h];simp),fun j hj=>?_⟩;by_cases c:j=i
  ·subst c;exact hy.wpOp hi trivial ⟨fun _ h=>h,H⟩
  have hun:=(mem_ready.1 hr).1;obtain⟨hjun,oj,hoj,hall⟩:=mem_ready.1 hj
  have hnot:∀e∈oj.after,Region.binds md e=true→e.on≠i:=by
   intro e he hb heq;have h1:=hall e he hb;rw[heq]at h1;rcases Nat.lt_or_ge i l.size with h' | h'
   ·simp[h']at hun h1;rw[hun]at h1;cases h1
   ·simp[Array.getElem?_eq_none h']at h1
  have h2:=wpOp_putIf hoj (hfree j oj hoj c hjun hnot) (fun cs b=>Region.noSelect_spec hsel i oi cs b hi) (fun cs b=>Region.noSelect_spec hsel j oj cs b hoj) hQ hy (H.2 j (ready_mono hj c))
  refine wpOp_mono (fun a' w' h3=>⟨h3.2.1,ih (l.setIfInBounds j true) a' w' ?_ (ready_mono hr (Ne.symm c)) h3.1 ?_⟩) h2
  ·intro k ok hk hki hku hno;refine hfree k ok hk hki ?_ hno;by_cases e:j=k
   ·subst e;exact hjun
   ·rw[getD_set_ne true e]at hku;exact hku
  ·rw[Array.setIfInBounds_comm _ _ c];exact h3.2.2
theorem AnyG.takeW(i:Nat){oi:Oper}{v:Value}{f:Nat}{l:Array Bool}{a:Act}{w:World}(hi:ops[i]?=some oi)(hs:Region.noSelect ops=true)(hf:Region.free md ops l i=true)(hr:(Region.ready md ops l).contains i=true)
  (hQ:∀c a w,Q (.panic c) (a.put oi.dst v) w→Q (.panic c) a w) (hy:∀w0,(execOp a.eval oi).run P w0=.ok (.value v) w0) (hwn:Region.wanted oi (yielded ops a.tmps)=true)
  (h:AnyG P md ops Q S ns f (l.setIfInBounds i true) (a.put oi.dst v) w):AnyG P md ops Q S ns (f+1) l a w:=
 AnyG.firstW hi hs hQ f l a w (Region.free_spec hi hf) (by simpa using hr) (.inl ⟨hwn,fun w0 _=>hy w0⟩) h
theorem AnyG.take(i:Nat){oi:Oper}{v:Value}{f:Nat}{l:Array Bool}{a:Act}{w:World}(hi:ops[i]?=some oi)(hs:Region.noSelect ops=true)(hf:Region.free md ops l i=true)(hr:(Region.ready md ops l).contains i=true)(hw:ns.all (fun n=>waits md ops n i)=true)
  (hQ:∀c a w,Q (.panic c) (a.put oi.dst v) w→Q (.panic c) a w) (hS:S w) (hy:∀w0,S w0→(execOp a.eval oi).run P w0=.ok (.value v) w0) (hwn:Region.wanted oi (yielded ops a.tmps)=true)
  (h:AnyG P md ops Q S ns f (l.setIfInBounds i true) (a.put oi.dst v) w):AnyG P md ops Q S ns (f+1) l a w:=
 AnyG.first hi hs hQ hw f l a w (Region.free_spec hi hf) (by simpa using hr) (.inl ⟨hwn,hy⟩) hS h
theorem AnyG.tf(i:Nat){oi:Oper}{v:Value}{f:Nat}{l:Array Bool}{a b:Act}{w:World}(hS:S w)(hi:ops[i]?=some oi)(hy:∀w0,S w0→(execOp a.eval oi).run P w0=.ok (.value v) w0)(h:AnyG P md ops Q S ns f (l.setIfInBounds i true) b w)(hs:Region.noSelect ops=true:=by kernel_rfl)(hf:Region.free md ops l i=true:=by kernel_rfl)(hr:(Region.ready md ops l).contains i=true:=by kernel_rfl)(hw:ns.all (fun n=>waits md ops n i)=true:=by kernel_rfl)
  (hQ:∀c a w,Q (.panic c) (a.put oi.dst v) w→Q (.panic c) a w:=by exact fun _ _ _ h=>h) (hwn:Region.wanted oi (yielded ops a.tmps)=true:=by rfl) (ha:a.put oi.dst v=b:=by first | (simp only[Act.put,yq0,yq1,yq2,yq3,yq4,yq5];try with_reducible rfl) | with_reducible rfl):AnyG P md ops Q S ns (f+1) l a w:=
 AnyG.take i hi hs hf hr hw hQ hS hy hwn (ha ▸ h)
theorem AnyG.tk(i:Nat){oi:Oper}{v:Value}{f:Nat}{l:Array Bool}{a b:Act}{w:World}(hS:S w)(h:AnyG P md ops Q S ns f (l.setIfInBounds i true) b w)(hi:ops[i]?=some oi:=by rfl)(hs:Region.noSelect ops=true:=by kernel_rfl)(hf:Region.free md ops l i=true:=by kernel_rfl)(hr:(Region.ready md ops l).contains i=true:=by kernel_rfl)(hw:ns.all (fun n=>waits md ops n i)=true:=by kernel_rfl)
  (hQ:∀c a w,Q (.panic c) (a.put oi.dst v) w→Q (.panic c) a w:=by exact fun _ _ _ h=>h) (hy:∀w0,S w0→(execOp a.eval oi).run P w0=.ok (.value v) w0:=by intro w0 h0;go_simp;try with_reducible rfl) (hwn:Region.wanted oi (yielded ops a.tmps)=true:=by rfl) (ha:a.put oi.dst v=b:=by first | (simp only[Act.put,yq0,yq1,yq2,yq3,yq4,yq5];try with_reducible rfl) | with_reducible rfl):AnyG P md ops Q S ns (f+1) l a w:=
 AnyG.take i hi hs hf hr hw hQ hS hy hwn (ha ▸ h)
theorem AnyG.one(i:Nat){o:Oper}{f:Nat}{l:Array Bool}{a:Act}{w:World}(hr:Region.ready md ops l=[i])(ho:ops[i]?=some o)
  (h:∀K:Act→World→Prop,Shut (∀a' w',(i ∉ ns→S w')→AnyG P md ops Q S ns f (l.setIfInBounds i true) a' w'→K a' w')→if Region.wanted o (yielded ops a.tmps)=true then Oper.wp P o a w K Q else K (a.put o.dst undef) w):
  AnyG P md ops Q S ns (f+1) l a w:=by
 refine⟨fun h0=>absurd (hr.symm.trans h0) (by simp),fun j hj=>?_⟩;rw[hr]at hj;obtain rfl:=List.mem_singleton.1 hj;exact wpOp_step ho (fun K hK=>h K (fun a' w' hS hW=>hK a' w' ⟨fun n _=>hS n,hW⟩))
theorem AnyG.o1(i:Nat){o:Oper}{f:Nat}{l:Array Bool}{a:Act}{w:World}
  (h:∀K:Act→World→Prop,Shut (∀a' w',(i ∉ ns→S w')→AnyG P md ops Q S ns f (l.setIfInBounds i true) a' w'→K a' w')→if Region.wanted o (yielded ops a.tmps)=true then Oper.wp P o a w K Q else K (a.put o.dst undef) w) (hr:Region.ready md ops l=[i]:=by kernel_rfl) (ho:ops[i]?=some o:=by rfl):
  AnyG P md ops Q S ns (f+1) l a w:=AnyG.one i hr ho h
theorem AnyG.two(i j:Nat){o p:Oper}{f:Nat}{l:Array Bool}{a:Act}{w:World}(hr:Region.ready md ops l=[i,j])(ho:ops[i]?=some o)(hp:ops[j]?=some p)
  (h:∀K:Act→World→Prop,Shut (∀a' w',(i ∉ ns→S w')→AnyG P md ops Q S ns f (l.setIfInBounds i true) a' w'→K a' w')→if Region.wanted o (yielded ops a.tmps)=true then Oper.wp P o a w K Q else K (a.put o.dst undef) w)
  (h2:∀K:Act→World→Prop,Shut (∀a' w',(j ∉ ns→S w')→AnyG P md ops Q S ns f (l.setIfInBounds j true) a' w'→K a' w')→if Region.wanted p (yielded ops a.tmps)=true then Oper.wp P p a w K Q else K (a.put p.dst undef) w):
  AnyG P md ops Q S ns (f+1) l a w:=by
 refine⟨fun h0=>absurd (hr.symm.trans h0) (by simp),fun k hk=>?_⟩;rw[hr]at hk;rcases List.mem_cons.1 hk with rfl | hk
 ·exact wpOp_step ho (fun K hK=>h K (fun a' w' hS hW=>hK a' w' ⟨fun n _=>hS n,hW⟩))
 ·obtain rfl:=List.mem_singleton.1 hk;exact wpOp_step hp (fun K hK=>h2 K (fun a' w' hS hW=>hK a' w' ⟨fun n _=>hS n,hW⟩))
theorem AnyG.done{l:Array Bool}{a:Act}{w:World}(hr:Region.ready md ops l=[])(h:Q .normal a w):∀f,AnyG P md ops Q S ns f l a w
 | 0=>⟨hr,h⟩
 | _+1=>⟨fun _=>h,by rw[hr];simp⟩
theorem region_g(ns:List Nat)(S:World→Prop){id:Nat}{a:Act}{w:World}(hm:P.follows .mixedOrders=true)(h:AnyG P .any ops Q S ns ops.size (Array.replicate ops.size false) a w.drew):(Code.region id ops true).wp P Q a w:=
 wp_region_any hm (AnyG.any _ _ _ _ h)
end
section
variable {P:Program} {ops:Array Oper} {Q:Exit→Act→World→Prop} {md:Region.Mode} {S:World→Prop} {ns:List Nat}
theorem AnyG.skip(i:Nat){oi:Oper}{f:Nat}{l:Array Bool}{a:Act}{w:World}(hi:ops[i]?=some oi)(hs:Region.noSelect ops=true)(hf:Region.free md ops l i=true)(hr:(Region.ready md ops l).contains i=true)(hw:ns.all (fun n=>waits md ops n i)=true)
  (hQ:∀c a w,Q (.panic c) (a.put oi.dst undef) w→Q (.panic c) a w) (hS:S w) (hwn:Region.wanted oi (yielded ops a.tmps)=false)
  (h:AnyG P md ops Q S ns f (l.setIfInBounds i true) (a.put oi.dst undef) w):AnyG P md ops Q S ns (f+1) l a w:=
 AnyG.first hi hs hQ hw f l a w (Region.free_spec hi hf) (by simpa using hr) (.inr ⟨hwn,rfl⟩) hS h
theorem AnyG.sk(i:Nat){oi:Oper}{f:Nat}{l:Array Bool}{a b:Act}{w:World}(hS:S w)(h:AnyG P md ops Q S ns f (l.setIfInBounds i true) b w)(hi:ops[i]?=some oi:=by rfl)(hs:Region.noSelect ops=true:=by kernel_rfl)(hf:Region.free md ops l i=true:=by kernel_rfl)(hr:(Region.ready md ops l).contains i=true:=by kernel_rfl)(hw:ns.all (fun n=>waits md ops n i)=true:=by kernel_rfl)
  (hQ:∀c a w,Q (.panic c) (a.put oi.dst undef) w→Q (.panic c) a w:=by exact fun _ _ _ h=>h) (hwn:Region.wanted oi (yielded ops a.tmps)=false:=by rfl) (ha:a.put oi.dst undef=b:=by first | (simp only[Act.put,yq0,yq1,yq2,yq3,yq4,yq5];try with_reducible rfl) | with_reducible rfl):AnyG P md ops Q S ns (f+1) l a w:=
 AnyG.skip i hi hs hf hr hw hQ hS hwn (ha ▸ h)
end
end Go.Proofs.YtfnkklkdajlhlaaGreatDoor
namespace Go.Proofs.YtfnkklkdajlhlaaGreatDoor
open Go.RowKit
namespace Ap
theorem owns_below{w w':World}{base e n:Nat}{v:Value}{vs:List Value}(h:w.ownsRow base e 1 v n vs)(hb:Below w.heap.size w w'):w'.ownsRow base e 1 v n vs:=by
 obtain⟨h1,h2 | ⟨g,cap,cur,e1,e2,hh,r⟩⟩:=h
 ·exact⟨h1,.inl h2⟩
 ·exact⟨h1,.inr ⟨g,cap,cur,e1,e2,(hb.block g ((Array.getElem?_eq_some_iff.1 hh).1)).trans hh,r⟩⟩
theorem owns_shape{w:World}{base e n:Nat}{v:Value}{vs:List Value}(h:w.ownsRow base e 1 v n vs):∃ao cap,v=.slice ao n cap∧n≤cap∧(∀k,v.ownBlock=some k→base≤k∧k<w.heap.size):=by
 have hl:=h.lt;obtain⟨h1,⟨rfl,rfl⟩ | ⟨g,cap,cur,rfl,e2,hh,r,_⟩⟩:=h
 ·exact⟨none,0,rfl,Nat.le_refl _,hl⟩
 ·exact⟨some ⟨g,0,none⟩,cap,rfl,r,hl⟩
theorem run_append_zero(w:World)(base:Nat)(t ty e:TypeId)(i:TypeInfo)(size:Nat)(ht:Tryz.prog.underlying t=some (.slice e))(hi:Tryz.prog.info? e=some i)
  (v:Value) (n:Nat) (vs:List Value) (hown:w.ownsRow base e size v n vs) (xa:Option Addr) (c:Nat):
  (Builtin.append_ #[t,t] ty #[v,.slice xa 0 c]).run Tryz.prog w=.ok v w:=by
 have hc:=fun ad:Addr=>run_firstCells_some (P:=Tryz.prog) w i.size 0 ad 0 c [] (by simp) (by simp);rcases hown.2 with⟨rfl,rfl⟩ | ⟨g,cap,cur,rfl,_,_,hnc,_⟩
 ·cases xa with
  | none=>simp[Builtin.append_,run_underlying ht,sizeOf,typeInfo,hi,Builtin.lenOf,Builtin.firstCells]
  | some ad=>simp[Builtin.append_,run_underlying ht,sizeOf,typeInfo,hi,Builtin.lenOf,hc]
 ·cases xa with
  | none=>simp[Builtin.append_,run_underlying ht,sizeOf,typeInfo,hi,Builtin.lenOf,Builtin.firstCells,hnc,storeCells]
  | some ad=>simp[Builtin.append_,run_underlying ht,sizeOf,typeInfo,hi,Builtin.lenOf,hc,hnc,storeCells]
theorem step_append_u{ops:Array Oper}{o:Oper}{a:Act}{w:World}{K:Act→World→Prop}{Q:Exit→Act→World→Prop}{E:Prop}(hgd:o.guard=none)(s x:Operand)(t:TypeId)
  (ho:o.op=.call { callee:=.builtin .append,args:=#[s,x],argTypes:=#[t,t] })
  (base:Nat) (e:TypeId) (i:TypeInfo) (z:Value) (bytes:Nat) (ht:Tryz.prog.underlying t=some (.slice e)) (hi:Tryz.prog.info? e=some i) (hz:i.zero=some z)
  (hsize:i.size=1) (hby:i.bytes=bytes) (hzs:z.cells.size=1)
  (v:Value) (n:Nat) (vs:List Value) (hs:a.eval s=v) (hown:w.ownsRow base e 1 v n vs)
  (xa:Option Addr) (m c:Nat) (news:List Value) (hx:a.eval x=.slice xa m c) (hl:news.length=m) (hsrc:0<m→∃ad,xa=some ad∧∀j u,news[j]?=some u→w.cell? (ad.add j)=some u) (h1:∀u∈news,u.oneCell'=true)
  (h63:n+m≤maxLen) (hbytes:(n+m)*bytes≤140737488355328) (hbase:base≤w.heap.size)
  (h:∀ao cap w',w'.ownsRow base e 1 (.slice ao (n+m) cap) (n+m) (vs++news)→n+m≤cap→Below base w w'→(∀k,(Value.slice ao (n+m) cap).ownBlock=some k→(v.ownBlock=some k∨k=w.heap.size)∧k<w'.heap.size)→(∀k,k<w.heap.size→v.ownBlock≠some k→w'.heap[k]?=w.heap[k]?)→w.heap.size≤w'.heap.size→K (a.put o.dst (.slice ao (n+m) cap)) w'):
  if Region.wanted o (yielded ops a.tmps)=true then Oper.wp Tryz.prog o a w K Q else E:=by
 have hw:Region.wanted o (yielded ops a.tmps)=true:=by simp[Region.wanted,hgd]
 rw[if_pos hw];by_cases hm:m=0
 ·subst hm;have hn:news=[]:=List.eq_nil_of_length_eq_zero hl;subst hn;have hr:=run_append_zero w base t o.type e i 1 ht hi v n vs hown xa c;obtain⟨ao,cap,rfl,hc,hk⟩:=owns_shape hown;unfold Oper.wp execOp
  simp only[ho,resolve,invoke,builtin,Sem.run_bind,Sem.run_pure,Result.andThen_ok,List.map_toArray,List.map_cons,List.map_nil,hs,hx,hr]
  refine h ao cap w (by simpa using hown) hc (Below.refl _ _) (fun k e=>⟨.inl e,(hk k e).2⟩) (fun _ _ _=>rfl) (Nat.le_refl _)
 ·obtain⟨ad,rfl,hn⟩:=hsrc (by omega);refine wp_append_lies w s x t ho base e i z 1 bytes ht hi hz hsize hby hzs (by decide) v n vs hs hown ad m c news hx (by omega) hn h1 (by omega) h63 hbytes hbase w.heap.size rfl ?_
  intro g cap w' o1 o2 o3 o4;refine h (some ⟨g,0,none⟩) cap w' o1 ?_ ?_ ?_ ?_ o2.size
  ·obtain⟨_,h | ⟨g',cap',cur,e',_,hh,hle,_⟩⟩:=o1
   ·simp at h
   ·simp only[Value.slice.injEq]at e';omega
  ·exact(Below.refl _ _).grown o2 hbase (fun k hk=>(hown.lt k hk).1)
  ·intro k hk;simp only[Value.ownBlock,Option.some.injEq]at hk;subst hk;exact⟨o3,o4⟩
  ·intro k hk hne;exact o2.block k hk (fun q=>hne q.symm)
theorem wpList_append_u{ops:Array Oper}{rest:List Oper}{o:Oper}{a:Act}{w:World}{Q:Exit→Act→World→Prop}(hgd:o.guard=none)(s x:Operand)(t:TypeId)
  (ho:o.op=.call { callee:=.builtin .append,args:=#[s,x],argTypes:=#[t,t] })
  (base:Nat) (e:TypeId) (i:TypeInfo) (z:Value) (bytes:Nat) (ht:Tryz.prog.underlying t=some (.slice e)) (hi:Tryz.prog.info? e=some i) (hz:i.zero=some z)
  (hsize:i.size=1) (hby:i.bytes=bytes) (hzs:z.cells.size=1)
  (v:Value) (n:Nat) (vs:List Value) (hs:a.eval s=v) (hown:w.ownsRow base e 1 v n vs)
  (xa:Option Addr) (m c:Nat) (news:List Value) (hx:a.eval x=.slice xa m c) (hl:news.length=m) (hsrc:0<m→∃ad,xa=some ad∧∀j u,news[j]?=some u→w.cell? (ad.add j)=some u) (h1:∀u∈news,u.oneCell'=true)
  (h63:n+m≤maxLen) (hbytes:(n+m)*bytes≤140737488355328) (hbase:base≤w.heap.size)
  (h:∀ao cap w',w'.ownsRow base e 1 (.slice ao (n+m) cap) (n+m) (vs++news)→n+m≤cap→Below base w w'→wpList Tryz.prog ops Q rest (a.put o.dst (.slice ao (n+m) cap)) w'):wpList Tryz.prog ops Q (o::rest) a w:=
 wpList_plain hgd fun K hK=>by
  have hw:Region.wanted o (yielded ops a.tmps)=true:=by simp[Region.wanted,hgd]
  have:=step_append_u (ops:=ops) (o:=o) (a:=a) (w:=w) (K:=K) (Q:=Q) (E:=True) hgd s x t ho base e i z bytes ht hi hz hsize hby hzs v n vs hs hown xa m c news hx hl hsrc h1 h63 hbytes hbase (fun ao cap w' h1 h2 h3 _ _ _=>hK _ _ (h ao cap w' h1 h2 h3))
  rw[if_pos hw]at this;exact this
def Apart(u v:Value):Prop:=∀k,u.ownBlock=some k→v.ownBlock≠some k
theorem Apart.symm{u v:Value}(h:Apart u v):Apart v u:=fun k hk hu=>h k hu hk
theorem apart_nil(v:Value):Apart v (.slice none 0 0):=fun k _ h=>by cases h
theorem owns_other{w w':World}{base e n:Nat}{v u:Value}{vs:List Value}(h:w.ownsRow base e 1 v n vs)(hkeep:∀k,k<w.heap.size→u.ownBlock≠some k→w'.heap[k]?=w.heap[k]?)(ha:Apart v u):w'.ownsRow base e 1 v n vs:=by
 have hl:=h.lt;obtain⟨h1,h2 | ⟨g,cap,cur,e1,e2,hh,r⟩⟩:=h
 ·exact⟨h1,.inl h2⟩
 ·subst e1;exact⟨h1,.inr ⟨g,cap,cur,rfl,e2,(hkeep g (hl g rfl).2 (ha g rfl)).trans hh,r⟩⟩
theorem apart_new{w w':World}{base e n:Nat}{v u u':Value}{vs:List Value}(h:w.ownsRow base e 1 v n vs)(hn:∀k,u'.ownBlock=some k→(u.ownBlock=some k∨k=w.heap.size)∧k<w'.heap.size)(ha:Apart v u):Apart v u':=by
 intro k hk hu;rcases(hn k hu).1 with c | c
 ·exact ha k hk c
 ·have:=(h.lt k hk).2;omega
theorem wpList_append_x{ops:Array Oper}{rest:List Oper}{o:Oper}{a:Act}{w:World}{Q:Exit→Act→World→Prop}(hgd:o.guard=none)(s x:Operand)(t:TypeId)
  (ho:o.op=.call { callee:=.builtin .append,args:=#[s,x],argTypes:=#[t,t] })
  (base:Nat) (e:TypeId) (i:TypeInfo) (z:Value) (bytes:Nat) (ht:Tryz.prog.underlying t=some (.slice e)) (hi:Tryz.prog.info? e=some i) (hz:i.zero=some z)
  (hsize:i.size=1) (hby:i.bytes=bytes) (hzs:z.cells.size=1)
  (v:Value) (n:Nat) (vs:List Value) (hs:a.eval s=v) (hown:w.ownsRow base e 1 v n vs)
  (xa:Option Addr) (m c:Nat) (news:List Value) (hx:a.eval x=.slice xa m c) (hl:news.length=m) (hsrc:0<m→∃ad,xa=some ad∧∀j u,news[j]?=some u→w.cell? (ad.add j)=some u) (h1:∀u∈news,u.oneCell'=true)
  (h63:n+m≤maxLen) (hbytes:(n+m)*bytes≤140737488355328) (hbase:base≤w.heap.size)
  (h:∀ao cap w',w'.ownsRow base e 1 (.slice ao (n+m) cap) (n+m) (vs++news)→n+m≤cap→Below base w w'→(∀k,(Value.slice ao (n+m) cap).ownBlock=some k→(v.ownBlock=some k∨k=w.heap.size)∧k<w'.heap.size)→(∀k,k<w.heap.size→v.ownBlock≠some k→w'.heap[k]?=w.heap[k]?)→w.heap.size≤w'.heap.size→wpList Tryz.prog ops Q rest (a.put o.dst (.slice ao (n+m) cap)) w'):wpList Tryz.prog ops Q (o::rest) a w:=
 wpList_plain hgd fun K hK=>by
  have hw:Region.wanted o (yielded ops a.tmps)=true:=by simp[Region.wanted,hgd]
  have:=step_append_u (ops:=ops) (o:=o) (a:=a) (w:=w) (K:=K) (Q:=Q) (E:=True) hgd s x t ho base e i z bytes ht hi hz hsize hby hzs v n vs hs hown xa m c news hx hl hsrc h1 h63 hbytes hbase (fun ao cap w' h1 h2 h3 h4 h5 h6=>hK _ _ (h ao cap w' h1 h2 h3 h4 h5 h6))
  rw[if_pos hw]at this;exact this
end Ap
end Go.Proofs.YtfnkklkdajlhlaaGreatDoor
namespace Go.Proofs.YtfnkklkdajlhlaaGreatDoor
open Go.RowKit Num Bit
def iv(l:List Int):List Value:=l.map fun n:Int=>Value.int .i64 n
theorem length_iv(l:List Int):(iv l).length=l.length:=by simp[iv]
theorem iv_snoc(l:List Int)(v:Int):iv l++[.int .i64 v]=iv (l++[v]):=by simp[iv]
theorem iv_get(l:List Int)(i:Nat)(h:i<l.length):(iv l)[i]?=some (.int .i64 (gi l i)):=by
 unfold iv;rw[List.getElem?_map,gi_get l i h];rfl
theorem supP_succ(N:Int)(xs:List Nat)(q:Nat):supP N xs (q+1)=supP N xs q++[supI N xs q]:=by
 unfold supP;rw[List.range_succ,List.map_append];rfl
theorem subP_succ(N:Int)(xs:List Nat)(q:Nat):subP N xs (q+1)=subP N xs q++[subI N xs q]:=by
 unfold subP;rw[List.range_succ,List.map_append];rfl
theorem nd_own{w:World}{base n c:Nat}{ao:Option Addr}{l:List Int}(h:w.ownsRow base 3 1 (.slice ao n c) n (iv l)):Nd w ao l:=by
 intro h0;have hlen:(iv l).length=n*1:=h.1;rw[length_iv]at hlen;have hk:=fun k hk=>h.lt k hk;have hc:=fun g hg=>h.cells (g:=g) hg;obtain⟨_,⟨e,e2⟩ | ⟨g,cap,cur,e,_⟩⟩:=h
 ·omega
 ·simp only[Value.slice.injEq]at e;obtain⟨rfl,_,rfl⟩:=e;refine⟨g,0,rfl,(hk g rfl).2,fun i hi=>?_⟩;rw[←hc g rfl i _ (iv_get l i hi)];unfold Addr.add;split
  ·subst_vars;rfl
  ·simp
theorem owns_set{w:World}{base e n:Nat}{v u:Value}{vs:List Value}{a:Addr}(h:w.ownsRow base e 1 v n vs)(ha:a.block<base):(w.setCell a u).ownsRow base e 1 v n vs:=by
 obtain⟨h1,h2 | ⟨g,cap,cur,e1,e2,hh,r⟩⟩:=h
 ·exact⟨h1,.inl h2⟩
 ·exact⟨h1,.inr ⟨g,cap,cur,e1,e2,(Below.heap_setCell w a u g (by omega)).trans hh,r⟩⟩
def Sup(w:World)(bs:Nat)(l:List Int):Prop:=∀i,i<l.length→w.cell? ⟨bs,i,none⟩=some (.int .i64 (gi l i))
theorem Sup.keep{w w':World}{bs base:Nat}{l:List Int}(h:Sup w bs l)(hb:Below base w w')(hlt:bs<base):Sup w' bs l:=fun i hi=>(hb.cell (p:=⟨bs,i,none⟩) hlt).trans (h i hi)
theorem Sup.other{w:World}{bs:Nat}{l:List Int}(h:Sup w bs l){a:Addr}(ha:bs≠a.block)(v:Value):Sup (w.setCell a v) bs l:=fun i hi=>(World.cell?_of_block (w:=w) (Below.heap_setCell w a v bs ha)).trans (h i hi)
theorem sup_of{w:World}{base n c:Nat}{ao:Option Addr}{l:List Int}(h:w.ownsRow base 3 1 (.slice ao n c) n (iv l))(hn:0<n):∃bs,ao=some ⟨bs,0,none⟩∧base≤bs∧Sup w bs l:=by
 have hlen:(iv l).length=n*1:=h.1;rw[length_iv]at hlen;have hc:=fun g hg=>h.cells (g:=g) hg;obtain⟨_,⟨e,e2⟩ | ⟨g,cap,cur,e,hg,_⟩⟩:=h
 ·omega
 ·simp only[Value.slice.injEq]at e;obtain⟨rfl,_,rfl⟩:=e;refine⟨g,rfl,hg,fun i hi=>?_⟩;rw[←hc g rfl i _ (iv_get l i hi)];unfold Addr.add;split
  ·subst_vars;rfl
  ·simp
theorem below_set{base:Nat}{w w':World}(h:Below base w w')(b i:Nat)(v:Value)(hb:base≤b):Below base w (w'.setCell ⟨b,i,none⟩ v):=h.setCell hb _
theorem sup_nd{w:World}{bs:Nat}{l:List Int}(h:Sup w bs l)(hlt:bs<w.heap.size):Nd w (some ⟨bs,0,none⟩) l:=fun _=>⟨bs,0,rfl,hlt,fun i hi=>by rw[Nat.zero_add];exact h i hi⟩
theorem Hid.mk'{p:Prop}(h:p):Hid p:=h
structure BI (w wr:World) (m n cap:Nat) (ao:Option Addr) (g:Nat) (sv tv:Value):Prop where
 b1:Cel wr w.heap.size [.int .i64 m,.slice ao n cap] 33
 b2:Cel wr (w.heap.size+1) [.int .i64 0,.slice none 0 0,.slice none 0 0,.slice none 0 0] 37
 bx:Cel wr g [.int .i64 m,.slice ao n cap,sv,tv] 37
 hg:w.heap.size+1<g
 hw:Below w.heap.size w wr
theorem BI.keep{w wr w':World}{m n cap:Nat}{ao:Option Addr}{g:Nat}{sv tv:Value}(h:BI w wr m n cap ao g sv tv){base:Nat}(hb:Below base wr w')(hg:g<base):BI w w' m n cap ao g sv tv:=
 have:=h.hg
 ⟨h.b1.keep hb (by omega),h.b2.keep hb (by omega),h.bx.keep hb hg,h.hg,h.hw.trans (hb.mono (by omega))⟩
theorem BI.sup{w wr:World}{m n cap:Nat}{ao:Option Addr}{g:Nat}{sv tv:Value}(h:BI w wr m n cap ao g sv tv)(v:Value):BI w (wr.setCell ⟨g,2,none⟩ v) m n cap ao g v tv:=
 have:=h.hg
 ⟨h.b1.other (by show w.heap.size≠g;omega) v,h.b2.other (by show w.heap.size+1≠g;omega) v,h.bx.set 2 v,h.hg,h.hw.setCell (by show w.heap.size≤g;omega) _⟩
theorem BI.sub{w wr:World}{m n cap:Nat}{ao:Option Addr}{g:Nat}{sv tv:Value}(h:BI w wr m n cap ao g sv tv)(v:Value):BI w (wr.setCell ⟨g,3,none⟩ v) m n cap ao g sv v:=
 have:=h.hg
 ⟨h.b1.other (by show w.heap.size≠g;omega) v,h.b2.other (by show w.heap.size+1≠g;omega) v,h.bx.set 3 v,h.hg,h.hw.setCell (by show w.heap.size≤g;omega) _⟩
theorem rbuild_ok(N:Int)(ao:Option Addr)(xs:List Nat)(cap:Nat)(w:World)(hx:Wd w ao xs)(hf:Fit xs)(hk:chk N xs=true):
  Calls Tryz.prog 69 #[.agg #[.int .i64 N,.slice ao xs.length cap]] w fun e w'=>∃so sc tO tc,e=.returned (.tuple #[.agg #[.int .i64 N,.slice ao xs.length cap,.slice so (supL N xs).length sc,.slice tO (subL N xs).length tc],.int .i64 0])∧Nd w' so (supL N xs)∧(supL N xs).length≤sc∧Nd w' tO (subL N xs)∧(subL N xs).length≤tc∧Below w.heap.size w w'∧Fr w.heap.size so∧Fr w.heap.size tO:=by
 obtain⟨h0,h1,h2,_⟩:=chk_out N xs hk;obtain⟨m,rfl⟩:=Int.eq_ofNat_of_zero_le h0;obtain⟨i0,hi,hz0,hz1,hz2⟩:=info_parts Tryz.info3
 obtain⟨W,hW⟩:∃W,W=(w.alloc (.cells #[.int .i64 m,.slice ao xs.length cap] 33)).alloc (.cells #[.int .i64 0,.slice none 0 0,.slice none 0 0,.slice none 0 0] 37):=⟨_,rfl⟩;have bW:=yb2 hW;have B1:=yc3 hW
 have B2:=yc2 hW
 have C1:Hid (∀w0,w0=W→Calls Tryz.prog 30 #[.agg #[.int .i64 m,.slice ao xs.length cap]] w0 fun e w'=>e=.returned (.bool true)∧Below w0.heap.size w0 w'):=fun w0 h=>by
  subst h;have:=refcheck_c m ao xs cap w0 (hx.keep bW) hf;rw[hk]at this;exact this
 go_enter Tryz.func69,Tryz.ntmps69;go_wp2_with fail;rw[←hW];refine(C1.out _ rfl).mono ?_;rintro e w1 ⟨rfl,hb⟩;have bw1:=bW.trans (hb.mono bW.size);replace B1:=B1.kept hb;replace B2:=B2.kept hb;have z2:=B2.lt
 clear hb C1 hW bW W;have r0:=B1.cell 0 rfl;have r1:=B1.cell 1 rfl;go_wp2
 go_loopw [5] (fun i wr=>∃(q:Nat) (so:Option Addr) (sc:Nat),q≤m/512+1∧i=.int .i64 q∧q≤sc∧BI w wr m xs.length cap ao w1.heap.size (.slice so q sc) (.slice none 0 0)∧wr.ownsRow (w1.heap.size+1) 3 1 (.slice so q sc) q (iv (supP m xs q))) (fun i _=>m/512+1-(intOf i).toNat)
 case atStart=>exact⟨0,none,0,by omega,rfl,Nat.le_refl _,⟨B1.alloc _,B2.alloc _,Cel.new w1 _ _,z2,bw1.alloc (by omega) _⟩,World.ownsRow_nil _ _ _ _⟩
 case round=>
  obtain⟨q,so,sc,hq,rfl,hqc,hB,hown⟩:=hrel;have r0:=hB.b1.cell 0 rfl;have r1:=hB.b1.cell 1 rfl;by_cases hlt:q≤m/512
  ·have hlt2:(q:Int)≤(m:Int)/512:=by omega
   have mu:IntKind.i64.wrap (512*(q:Int))=512*(q:Int):=by rw[IntKind.wrap_i64];omega
   go_wp2;refine region_g [9] (fun w'=>BI w w' m xs.length cap ao w1.heap.size (.slice so q sc) (.slice none 0 0)) (by kernel_rfl) ?_
   have hS:BI w wr.drew m xs.length cap ao w1.heap.size (.slice so q sc) (.slice none 0 0):=⟨hB.b1,hB.b2,hB.bx,hB.hg,hB.hw.drew⟩;refine AnyG.tk 0 hS ?_
   refine AnyG.tf 1 hS rfl (fun w0 h0=>by have c2:=h0.bx.cell 2 rfl;go_simp;try with_reducible rfl) ?_
   refine AnyG.tf 2 hS rfl (fun w0 h0=>by have c0:=h0.b1.cell 0 rfl;have c1:=h0.b1.cell 1 rfl;go_simp;try with_reducible rfl) ?_;refine AnyG.tk 3 hS ?_;refine AnyG.tk 4 hS ?_;refine AnyG.o1 5 ?_;intro K hK;go_simp
   refine(refones_c _ _ _ _ _ _ (hx.keep hS.hw) hf).mono ?_;rintro e w2 ⟨rfl,hb⟩;have g2:w1.heap.size<wr.drew.heap.size:=hS.bx.lt;have hS2:=hS.keep hb g2;have own2:=Ap.owns_below (w:=wr.drew) hown hb
   refine hK.out _ _ (fun _=>hS2) ?_;clear hK K;try simp only[Act.put,yq3,yq4,yq5]
   obtain⟨Z,hZ⟩:∃Z,Hid (Z=supI m xs q):=⟨_,rfl⟩;have eZ:onesI m xs (512*(q:Int))=Z:=hZ.out.symm;rw[eZ];refine AnyG.o1 6 ?_;intro K hK;go_simp
   have hS3:BI w (w2.alloc (.cells #[.int .i64 Z] 3)) m xs.length cap ao w1.heap.size (.slice so q sc) (.slice none 0 0):=hS2.keep (below_alloc w2 _) hS2.bx.lt;refine hK.out _ _ (fun _=>hS3) ?_;clear hK K
   try simp only[Act.put,yq3,yq4,yq5]
   refine AnyG.o1 7 ?_;intro K hK
   refine Ap.step_append_u (by rfl) _ _ _ (by rfl) (w1.heap.size+1) 3 i0 (.int .i64 0) 8 Tryz.underlying35 hi hz0 hz1 hz2 rfl (.slice so q sc) q (iv (supP m xs q)) (by rfl) (own2.alloc _) (some ⟨w2.heap.size,0,none⟩) 1 1 [.int .i64 Z] (by rfl) rfl ?c1 ?c2 ?c3 ?c4 ?c5 ?c6
   case c1=>exact fun _=>⟨_,rfl,fun j u hj=>by
    match j,hj with
    | 0,hj=>simp at hj;subst hj;simp[Addr.add]⟩
   case c2=>intro u hu;simp at hu;subst hu;rfl
   case c3=>unfold maxLen;omega
   case c4=>omega
   case c5=>have:=hS3.bx.lt;omega
   intro so2 sc2 w4 own4 hle4 hB4 _ _ _;have hS4:=hS3.keep hB4 (Nat.lt_succ_self _);refine hK.out _ _ (fun _=>hS4) ?_;clear hK K;try simp only[Act.put,yq3,yq4,yq5]
   rw[iv_snoc,hZ.out,←supP_succ]at own4;refine AnyG.tk 8 hS4 ?_;refine AnyG.o1 9 ?_;intro K hK;have x2:=hS4.bx.cell 2 rfl;have y2:=hS4.bx.frozen 2;go_simp;refine hK.out _ _ (fun h=>absurd (by decide) h) ?_;clear hK K
   try simp only[Act.put,yq3,yq4,yq5]
   refine AnyG.done (by kernel_rfl) ?_ _;have hS5:=hS4.sup (.slice so2 (q+1) sc2)
   have own5:(w4.setCell ⟨w1.heap.size,2,none⟩ (.slice so2 (q+1) sc2)).ownsRow (w1.heap.size+1) 3 1 (.slice so2 (q+1) sc2) (q+1) (iv (supP m xs (q+1))):=owns_set own4 (Nat.lt_succ_self _)
   have HO:Hid ((w4.setCell ⟨w1.heap.size,2,none⟩ (.slice so2 (q+1) sc2)).ownsRow (w1.heap.size+1) 3 1 (.slice so2 (q+1) sc2) (q+1) (iv (supP m xs (q+1)))):=own5
   clear own5 own4 own2 hown hS hS2 hS3 hS4 hB hB4 hi hz0 hz1 hz2;go_wp2;exact⟨⟨q+1,so2,sc2,by omega,by go_num,by omega,hS5,HO.out⟩,by simp only[intOf];omega⟩
  ·obtain rfl:q=m/512+1:=by omega
   have hlt2:¬((m/512+1:Nat):Int)≤(m:Int)/512:=by omega
   obtain⟨bs,rfl,hbs,hSup⟩:=sup_of hown (by omega);rw[show supP m xs (m/512+1)=supL m xs by unfold supL;rw[Int.toNat_natCast]]at hSup;obtain⟨M,hM⟩:∃M,Hid (M=m/512+1):=⟨_,rfl⟩
   rw[←hM.out]at hB hqc hlt2;have lS:(supL m xs).length=M:=by rw[length_supL,Int.toNat_natCast];exact hM.out.symm
   have hbl:bs<wr.heap.size:=(hown.lt bs rfl).2;have hlx:xs.length≤16384:=by omega
   rw[←hM.out];obtain⟨b,hbd⟩:∃b,b=wr.heap.size:=⟨_,rfl⟩;rw[←hbd]at hbl;have hgb:w1.heap.size<b:=by rw[hbd];exact hB.bx.lt
   have hwb:w.heap.size≤b:=by have:=hB.hg;omega
   clear hown hq hlt;go_wp2
   go_loopw [6] (fun i wz=>∃(q:Nat) (tO:Option Addr) (tc:Nat),q≤xs.length∧i=.int .i64 q∧q≤tc∧BI w wz m xs.length cap ao w1.heap.size (.slice (some ⟨bs,0,none⟩) M sc) (.slice tO q tc)∧Sup wz bs (supL m xs)∧b≤wz.heap.size∧wz.ownsRow b 3 1 (.slice tO q tc) q (iv (subP m xs q))) (fun i _=>xs.length-(intOf i).toNat)
   case atStart=>exact⟨0,none,0,by omega,rfl,Nat.le_refl _,hB,hSup,by omega,World.ownsRow_nil _ _ _ _⟩
   case round=>
    obtain⟨q,tO,tc,hq,rfl,hqc2,hB2,hSup2,hbw,hown⟩:=hrel;clear hB hSup;have r0:=hB2.b1.cell 0 rfl;have r1:=hB2.b1.cell 1 rfl;by_cases hlt:q<xs.length
    ·have hlt3:(q:Int)<(xs.length:Int):=by omega
     have mu:IntKind.i64.wrap (64*(q:Int))=64*(q:Int):=by rw[IntKind.wrap_i64];omega
     have q8:(q:Int)/8<(M:Int):=by have:=hM.out;omega
     have q8n:q/8<(supL m xs).length:=by rw[lS];have:=hM.out;omega
     have eS:gi (supL m xs) (q/8)=supI m xs (q/8):=by unfold supL;rw[gi_supP _ _ _ _ (by rw[Int.toNat_natCast];have:=hM.out;omega)]
     have e8:((q:Int)/8).toNat=q/8:=by omega
     have w8:IntKind.i64.wrap ((q:Int)/8)=(q:Int)/8:=by rw[IntKind.wrap_i64];omega
     have p8:(0:Int)≤(q:Int)/8:=by omega
     obtain⟨Y,hY⟩:∃Y,Hid (Y=supI m xs (q/8)):=⟨_,rfl⟩;obtain⟨Z,hZ⟩:∃Z,Hid (Z=onesI m xs (64*(q:Int))):=⟨_,rfl⟩;have bY:=supI_bound m xs (q/8);have bZ:=onesI_bound m xs (64*(q:Int))
     rw[←hY.out]at bY eS;rw[←hZ.out]at bZ;have dif:IntKind.i64.wrap (Z-Y)=Z-Y:=by rw[IntKind.wrap_i64];omega
     have eD:Hid (Z-Y=subI m xs q):=by show Z-Y=subI m xs q;rw[hZ.out,hY.out];rfl
     go_wp2;refine region_g [16] (fun w'=>BI w w' m xs.length cap ao w1.heap.size (.slice (some ⟨bs,0,none⟩) M sc) (.slice tO q tc)∧Sup w' bs (supL m xs)) (by kernel_rfl) ?_
     have hS:BI w wr.drew m xs.length cap ao w1.heap.size (.slice (some ⟨bs,0,none⟩) M sc) (.slice tO q tc)∧Sup wr.drew bs (supL m xs):=⟨⟨hB2.b1,hB2.b2,hB2.bx,hB2.hg,hB2.hw.drew⟩,hSup2⟩
     have hbwd:b≤wr.drew.heap.size:=hbw;refine AnyG.tk 0 hS ?_;refine AnyG.tf 1 hS rfl (fun w0 h0=>by have c3:=h0.1.bx.cell 3 rfl;go_simp;try with_reducible rfl) ?_
     refine AnyG.tf 2 hS rfl (fun w0 h0=>by have c0:=h0.1.b1.cell 0 rfl;have c1:=h0.1.b1.cell 1 rfl;go_simp;try with_reducible rfl) ?_;refine AnyG.tk 3 hS ?_;refine AnyG.tk 4 hS ?_;refine AnyG.tk 6 hS ?_
     refine AnyG.tf 7 hS rfl (fun w0 h0=>by have c2:=h0.1.bx.cell 2 rfl;go_simp;try with_reducible rfl) ?_;refine AnyG.tk 8 hS ?_;refine AnyG.tk 9 hS ?_;refine AnyG.tk 10 hS ?_
     refine AnyG.tf 11 hS rfl (fun w0 h0=>by have c9:=h0.2 _ q8n;rw[eS]at c9;go_simp;try with_reducible rfl) ?_;refine AnyG.o1 5 ?_;intro K hK;go_simp;refine(refones_c _ _ _ _ _ _ (hx.keep hS.1.hw) hf).mono ?_
     rintro e w2 ⟨rfl,hb⟩;have g2:w1.heap.size<wr.drew.heap.size:=hS.1.bx.lt;have hS2:=hS.1.keep hb g2;have hP2:=hS.2.keep hb (Nat.lt_of_lt_of_le hbl hbwd);have own2:=Ap.owns_below (w:=wr.drew) hown hb
     have hbw2:b≤w2.heap.size:=Nat.le_trans hbwd hb.size;refine hK.out _ _ (fun _=>⟨hS2,hP2⟩) ?_;clear hK K;try simp only[Act.put,yq3,yq4,yq5]
     rw[←hZ.out];replace hS:=And.intro hS2 hP2;refine AnyG.tk 12 hS ?_;obtain⟨D,hD⟩:∃D,Hid (D=Z-Y):=⟨_,rfl⟩;rw[←hD.out];refine AnyG.o1 13 ?_;intro K hK;go_simp
     have hS3:BI w (w2.alloc (.cells #[.int .i64 D] 3)) m xs.length cap ao w1.heap.size (.slice (some ⟨bs,0,none⟩) M sc) (.slice tO q tc):=hS2.keep (below_alloc w2 _) hS2.bx.lt
     have hP3:Sup (w2.alloc (.cells #[.int .i64 D] 3)) bs (supL m xs):=hP2.keep (below_alloc w2 _) (Nat.lt_of_lt_of_le hbl hbw2);refine hK.out _ _ (fun _=>⟨hS3,hP3⟩) ?_;clear hK K;try simp only[Act.put,yq3,yq4,yq5]
     refine AnyG.o1 14 ?_;intro K hK
     refine Ap.step_append_u (by rfl) _ _ _ (by rfl) b 3 i0 (.int .i64 0) 8 Tryz.underlying35 hi hz0 hz1 hz2 rfl (.slice tO q tc) q (iv (subP m xs q)) (by rfl) (own2.alloc _) (some ⟨w2.heap.size,0,none⟩) 1 1 [.int .i64 D] (by rfl) rfl ?d1 ?d2 ?d3 ?d4 ?d5 ?d6
     case d1=>exact fun _=>⟨_,rfl,fun j u hj=>by
      match j,hj with
      | 0,hj=>simp at hj;subst hj;simp[Addr.add]⟩
     case d2=>intro u hu;simp at hu;subst hu;rfl
     case d3=>unfold maxLen;omega
     case d4=>omega
     case d5=>simp;omega
     intro to2 tc2 w4 own4 hle4 hB4 _ _ hsz4;have hS4:=hS3.keep hB4 hgb;have hP4:=hP3.keep hB4 hbl;refine hK.out _ _ (fun _=>⟨hS4,hP4⟩) ?_;clear hK K;try simp only[Act.put,yq3,yq4,yq5]
     rw[iv_snoc,hD.out,eD.out,←subP_succ]at own4;replace hS:=And.intro hS4 hP4;refine AnyG.tk 15 hS ?_;refine AnyG.o1 16 ?_;intro K hK;have x3:=hS4.bx.cell 3 rfl;have y3:=hS4.bx.frozen 3;go_simp
     refine hK.out _ _ (fun h=>absurd (by decide) h) ?_;clear hK K;try simp only[Act.put,yq3,yq4,yq5]
     refine AnyG.done (by kernel_rfl) ?_ _;have hS5:=hS4.sub (.slice to2 (q+1) tc2);have hP5:=hP4.other (a:=⟨w1.heap.size,3,none⟩) (show bs≠w1.heap.size by omega) (.slice to2 (q+1) tc2)
     have HO:Hid ((w4.setCell ⟨w1.heap.size,3,none⟩ (.slice to2 (q+1) tc2)).ownsRow b 3 1 (.slice to2 (q+1) tc2) (q+1) (iv (subP m xs (q+1)))):=owns_set own4 hgb
     have hs5:b≤(w4.setCell ⟨w1.heap.size,3,none⟩ (.slice to2 (q+1) tc2)).heap.size:=by
      rw[show(w4.setCell ⟨w1.heap.size,3,none⟩ (.slice to2 (q+1) tc2)).heap.size=w4.heap.size by simp[World.setCell]];have:(w2.alloc (.cells #[.int .i64 D] 3)).heap.size=w2.heap.size+1:=by simp
      omega
     clear own4 own2 hown hS hS2 hS3 hS4 hB2 hB4 hi hz0 hz1 hz2 hP2 hP3 hP4 hSup2;go_wp2;exact⟨⟨q+1,to2,tc2,by omega,by go_num,by omega,hS5,hP5,hs5,HO.out⟩,by simp only[intOf];omega⟩
    ·obtain rfl:q=xs.length:=by omega
     have hlt3:¬((xs.length:Nat):Int)<(xs.length:Int):=by omega
     have x0:=hB2.bx.cell 0 rfl;have x1:=hB2.bx.cell 1 rfl;have x2:=hB2.bx.cell 2 rfl;have x3:=hB2.bx.cell 3 rfl;have y0:=hB2.b2.cell 0 rfl;have y1:=hB2.b2.cell 1 rfl;have y2:=hB2.b2.cell 2 rfl
     have y3:=hB2.b2.cell 3 rfl;have f0:=hB2.b2.frozen 0;have f1:=hB2.b2.frozen 1;have f2:=hB2.b2.frozen 2;have f3:=hB2.b2.frozen 3;have gb:w.heap.size+1<b:=by have:=hB2.hg;omega
     have nb:bs≠w.heap.size+1:=by have:=hB2.hg;omega
     have hC:Cel ((((wr.setCell ⟨w.heap.size+1,0,none⟩ (.int .i64 m)).setCell ⟨w.heap.size+1,1,none⟩ (.slice ao xs.length cap)).setCell ⟨w.heap.size+1,2,none⟩ (.slice (some ⟨bs,0,none⟩) M sc)).setCell ⟨w.heap.size+1,3,none⟩ (.slice tO xs.length tc)) (w.heap.size+1) [.int .i64 m,.slice ao xs.length cap,.slice (some ⟨bs,0,none⟩) M sc,.slice tO xs.length tc] 37:=(((hB2.b2.set 0 (.int .i64 m)).set 1 (.slice ao xs.length cap)).set 2 (.slice (some ⟨bs,0,none⟩) M sc)).set 3 (.slice tO xs.length tc)
     have HT:=nd_own (owns_set (owns_set (owns_set (owns_set hown (a:=⟨w.heap.size+1,0,none⟩) (u:=.int .i64 m) gb) (a:=⟨w.heap.size+1,1,none⟩) (u:=.slice ao xs.length cap) gb) (a:=⟨w.heap.size+1,2,none⟩) (u:=.slice (some ⟨bs,0,none⟩) M sc) gb) (a:=⟨w.heap.size+1,3,none⟩) (u:=.slice tO xs.length tc) gb)
     have HP:=(((hSup2.other (a:=⟨w.heap.size+1,0,none⟩) nb (.int .i64 m)).other (a:=⟨w.heap.size+1,1,none⟩) nb (.slice ao xs.length cap)).other (a:=⟨w.heap.size+1,2,none⟩) nb (.slice (some ⟨bs,0,none⟩) M sc)).other (a:=⟨w.heap.size+1,3,none⟩) nb (.slice tO xs.length tc)
     have HB:=below_set (below_set (below_set (below_set hB2.hw (w.heap.size+1) 0 (.int .i64 m) (Nat.le_succ _)) (w.heap.size+1) 1 (.slice ao xs.length cap) (Nat.le_succ _)) (w.heap.size+1) 2 (.slice (some ⟨bs,0,none⟩) M sc) (Nat.le_succ _)) (w.heap.size+1) 3 (.slice tO xs.length tc) (Nat.le_succ _)
     have HZ:=(below_set (below_set (below_set (below_set (Below.refl w.heap.size wr) (w.heap.size+1) 0 (.int .i64 m) (Nat.le_succ _)) (w.heap.size+1) 1 (.slice ao xs.length cap) (Nat.le_succ _)) (w.heap.size+1) 2 (.slice (some ⟨bs,0,none⟩) M sc) (Nat.le_succ _)) (w.heap.size+1) 3 (.slice tO xs.length tc) (Nat.le_succ _)).size
     have HU:=sup_nd HP (Nat.lt_of_lt_of_le (Nat.lt_of_lt_of_le hbl hbw) HZ)
     have F1:Fr w.heap.size (some ⟨bs,0,none⟩):=fun a ha=>by
      cases ha;have:=hB2.hg;show w.heap.size≤bs;omega
     have F2:Fr w.heap.size tO:=own_fr hown (by omega);have HF:=And.intro HU (And.intro HT (And.intro HB (And.intro F1 F2)));replace HF:=Hid.mk' HF;have k0:=hC.cell 0 rfl;have k1:=hC.cell 1 rfl
     have k2:=hC.cell 2 rfl;have k3:=hC.cell 3 rfl;clear HT HP HB hC hSup2 hown h2 HZ HU F1 F2;go_wp2
     refine bodyPost_ret (v:=.tuple #[.agg #[.int .i64 m,.slice ao xs.length cap,.slice (some ⟨bs,0,none⟩) M sc,.slice tO xs.length tc],.int .i64 0]) (by simp[results,Tryz.results69,go_sem,k0,k1,k2,k3]) rfl ⟨some ⟨bs,0,none⟩,sc,tO,tc,?_,HF.out.1,?_,HF.out.2.1,?_,HF.out.2.2⟩
     ·rw[length_subL]
     ·exact hqc
     ·rw[length_subL];exact hqc2
end Go.Proofs.YtfnkklkdajlhlaaGreatDoor
