/-
  MatrixBack: what is built is the text, and counts and places of symbols go there and back.
-/
import Derived.Test.YtleegaihbgbcjabGreatDoorM25
import Derived.Test.YtleegaihbgbcjabGreatDoorCards
import Derived.Test.YtleegaihbgbcjabGreatDoorTie
import Derived.ChangeOld
import Derived.LaidMore
import Derived.SevenTiedAt
set_option linter.unusedVariables false
set_option linter.unusedSimpArgs false
set_option maxRecDepth 100000
set_option maxHeartbeats 16000000
namespace Go.Proofs.YtleegaihbgbcjabGreatDoor.matrixBack
open Go.ChangeShapes Go.WideShapes Go.ChangeAt Go.RowKit Num Bit
theorem walk(w:World)(G:GV w)(kd:Int)(hkd_: -9223372036854775808≤kd∧kd≤9223372036854775807)(ot:Option Addr)(t:List Nat)(ct:Nat)(Xt:Bd w ot t)(Ft:Bytes t)(Ct:t.length≤ct)(c:Int)(hc_:0≤c∧c<256)(k:Int)(hk_: -9223372036854775808≤k∧k≤9223372036854775807):
  Calls Tryz.prog 6 #[.int .i64 kd,.slice ot t.length ct,.int .u8 c,.int .i64 k] w fun e w'=>e=.returned (.bool true)∧Below w.heap.size w w':=by
 have HH:Hid (∀w0,Below w.heap.size w w0→Calls Tryz.prog 7 #[] w0 fun e w'=>e=.returned (.bool true)∧Below w0.heap.size w0 w'):=fun w0 h=>heads_c w0 (G.keep h);have HG:=hide G;clear G;by_cases hL:600<t.length
 ·have hL2:(600:Int)<(t.length:Int):=by omega
  go_enter Tryz.func6,Tryz.ntmps6;go_wp2_with fail;refine(HH.out _ (Below.refl _ _)).mono ?_;rintro e w9 ⟨rfl,hb⟩;go_wp2;go_ret;exact⟨rfl,hb⟩
 have hL2:¬(600:Int)<(t.length:Int):=by omega
 by_cases k0:kd<1
 ·clear hL;go_enter Tryz.func6,Tryz.ntmps6;go_wp2_with fail;refine(HH.out _ (Below.refl _ _)).mono ?_;rintro e w9 ⟨rfl,hb⟩;go_wp2;go_ret;exact⟨rfl,hb⟩
 by_cases k1:3<kd
 ·have k2:(1:Int)≤kd:=by omega
  clear hL;go_enter Tryz.func6,Tryz.ntmps6;go_wp2_with fail;refine(HH.out _ (Below.refl _ _)).mono ?_;rintro e w9 ⟨rfl,hb⟩;go_wp2;go_ret;exact⟨rfl,hb⟩
 have hB:=Ft.byt;obtain⟨c,rfl⟩:=Int.eq_ofNat_of_zero_le hc_.1;have hc:c<256:=by omega
 obtain⟨m,SA,HXP⟩:=x_mx kd t ⟨by omega,by omega⟩ (by omega) hB;have HK:=hide HXP.keep
 have H1:Hid (∀w0,Below w.heap.size w w0→Calls Tryz.prog 8 #[.int .i64 kd,.slice ot t.length ct] w0 fun e w'=>∃lo lc no nc,e=.returned (.tuple #[.agg #[.int .i64 kd,.int .i64 (t.length:Int),.slice lo 8 lc,.slice no 8 nc],.int .i64 0])∧SA w' lo lc no nc∧Below w0.heap.size w0 w'):=fun w0 h=>HXP.build w0 ot ct (Xt.keep h) (HG.out.keep h)
 obtain⟨M,hM⟩:∃M,Hid (M=Sh.cp (fun d=>decide (d=c)) t t.length):=⟨_,rfl⟩;have hMn:M≤t.length:=by rw[hM.out];exact cp_le' _ _ _
 have HC:Hid (∀w0 lo lc no nc,SA w0 lo lc no nc→Calls Tryz.prog 20 #[.agg #[.int .i64 kd,.int .i64 (t.length:Int),.slice lo 8 lc,.slice no 8 nc]] w0 fun e w'=>e=.returned (.bool true)∧Below w0.heap.size w0 w'):=HXP.check
 have HT:Hid (∀w0 lo lc no nc,SA w0 lo lc no nc→Calls Tryz.prog 22 #[.agg #[.int .i64 kd,.int .i64 (t.length:Int),.slice lo 8 lc,.slice no 8 nc]] w0 fun e w'=>∃bo bc,e=.returned (.slice bo t.length bc)∧(convert 22 9 (.slice bo t.length bc)).run Tryz.prog w'=.ok (.string (strOfNums (nums t))) w'∧Below w0.heap.size w0 w'):=HXP.text
 have CV:Hid (∀w0,Below w.heap.size w w0→(convert 22 9 (.slice ot t.length ct)).run Tryz.prog w0=.ok (.string (strOfNums (nums t))) w0):=fun w0 hb=>conv ct (Xt.keep hb)
 have HR:Hid (∀j:Nat,j≤t.length→∀w0 lo lc no nc,SA w0 lo lc no nc→Calls Tryz.prog 10 #[.agg #[.int .i64 kd,.int .i64 (t.length:Int),.slice lo 8 lc,.slice no 8 nc],.int .u8 (c:Int),.int .i64 (j:Int)] w0 fun e w'=>e=.returned (.tuple #[.int .i64 (Sh.cp (fun d=>decide (d=c)) t j:Nat),.int .i64 0])∧Below w0.heap.size w0 w'):=fun j hj w0 lo lc no nc h=>by
  have:=HXP.rank c j hc ⟨by omega,by omega⟩ w0 lo lc no nc h;rw[(sr_in c hj).1,(sr_in c hj).2]at this;exact this
 have R1:=hide (HR.out t.length (Nat.le_refl _));rw[←hM.out]at R1;have k2:(1:Int)≤kd:=by omega
 by_cases hk:0≤k∧k<(M:Int)
 ·obtain⟨k,rfl⟩:=Int.eq_ofNat_of_zero_le hk.1;obtain⟨i,hi',g1,g2,g3,g4⟩:=ss_in (t:=t) (c:=c) (K:=k) (by rw[←hM.out];omega)
  have HS:Hid (∀w0 lo lc no nc,SA w0 lo lc no nc→Calls Tryz.prog 18 #[.agg #[.int .i64 kd,.int .i64 (t.length:Int),.slice lo 8 lc,.slice no 8 nc],.int .u8 (c:Int),.int .i64 (k:Int)] w0 fun e w'=>e=.returned (.tuple #[.int .i64 (i:Int),.int .i64 0])∧Below w0.heap.size w0 w'):=fun w0 lo lc no nc h=>by
   have:=HXP.select c k hc hk_ w0 lo lc no nc h;rw[g3,g4]at this;exact this
  have R2:=hide (HR.out i (by omega));rw[g2]at R2
  have HA:Hid (∀w0 lo lc no nc,SA w0 lo lc no nc→Calls Tryz.prog 9 #[.agg #[.int .i64 kd,.int .i64 (t.length:Int),.slice lo 8 lc,.slice no 8 nc],.int .i64 (i:Int)] w0 fun e w'=>e=.returned (.tuple #[.int .u8 (c:Nat),.int .i64 0])∧Below w0.heap.size w0 w'):=fun w0 lo lc no nc h=>by
   have:=HXP.access i ⟨by omega,by omega⟩ w0 lo lc no nc h;rw[(sa_in hi').1,(sa_in hi').2,g1]at this;exact this
  have hk3:(k:Int)<(M:Int):=hk.2;have dk:decide (k<M)=true:=decide_eq_true (by omega);clear HXP hM HR Xt Ft hB hL hkd_ hk_ hk g1 g2 g3 g4;generalize strOfNums (nums t)=S at *;go_enter Tryz.func6,Tryz.ntmps6
  go_wp2_with fail;refine(H1.out _ (Below.refl _ _)).mono ?_;rintro e w1 ⟨lo,lc,no,nc,rfl,hP0,hb⟩;have hw:=hide hb
  have b1:=below_alloc w1 (.cells [.int .i64 kd,.int .i64 (t.length:Int),.slice lo 8 lc,.slice no 8 nc].toArray 27);have hX:=hide (Cel.new w1 [.int .i64 kd,.int .i64 (t.length:Int),.slice lo 8 lc,.slice no 8 nc] 27)
  have hP:=hide (HK.out _ _ _ _ _ _ hP0 b1);replace hw:=hide (hw.out.trans (b1.mono hw.out.size));clear H1 hb hP0 b1;go_wp2
  refine region_g [] (fun w'=>Cel w' w1.heap.size [.int .i64 kd,.int .i64 (t.length:Int),.slice lo 8 lc,.slice no 8 nc] 27∧SA w' lo lc no nc∧Below w.heap.size w w') (by kernel_rfl) ?_
  have hS:(fun w'=>Cel w' w1.heap.size [.int .i64 kd,.int .i64 (t.length:Int),.slice lo 8 lc,.slice no 8 nc] 27∧SA w' lo lc no nc∧Below w.heap.size w w') (w1.alloc (.cells [.int .i64 kd,.int .i64 (t.length:Int),.slice lo 8 lc,.slice no 8 nc].toArray 27)).drew:=⟨hX.out.drew,HK.out _ _ _ _ _ _ hP.out ((Below.refl _ _).drew),hw.out.drew⟩
  clear hX hP hw;generalize (w1.alloc (.cells [.int .i64 kd,.int .i64 (t.length:Int),.slice lo 8 lc,.slice no 8 nc].toArray 27)).drew=V at *;refine AnyG.tk 0 hS ?_;refine AnyG.tk 1 hS ?_;refine AnyG.tk 2 hS ?_
  refine AnyG.tf 3 hS rfl (fun w0 h0=>by have y0:=h0.1.cell 0 rfl;have y1:=h0.1.cell 1 rfl;have y2:=h0.1.cell 2 rfl;have y3:=h0.1.cell 3 rfl;go_simp;try with_reducible rfl) ?_;refine AnyG.o1 4 ?_;intro K hK;go_simp
  refine(HC.out _ _ _ _ _ hS.2.1).mono ?_;rintro e w2 ⟨rfl,hb⟩;have hS2:=And.intro (hS.1.kept hb) (And.intro (HK.out _ _ _ _ _ _ hS.2.1 hb) (hS.2.2.trans (hb.mono hS.2.2.size)));clear hb hS;refine hK.out _ _ (fun _=>hS2) ?_
  clear hK K;try simp only[Act.put,yq0,yq1,yq2,yq3,yq4,yq5]
  refine AnyG.tk 5 hS2 ?_;refine AnyG.tk 6 hS2 ?_;refine AnyG.tk 7 hS2 ?_
  refine AnyG.tf 8 hS2 rfl (fun w0 h0=>by have y0:=h0.1.cell 0 rfl;have y1:=h0.1.cell 1 rfl;have y2:=h0.1.cell 2 rfl;have y3:=h0.1.cell 3 rfl;go_simp;try with_reducible rfl) ?_;refine AnyG.tk 11 hS2 ?_
  refine AnyG.tf 12 hS2 rfl (fun w0 h0=>by have cv:=CV.out w0 h0.2.2;go_simp;try with_reducible rfl) ?_;refine AnyG.o1 9 ?_;intro K hK;go_simp;refine(HT.out _ _ _ _ _ hS2.2.1).mono ?_;rintro e w3 ⟨bo,bc,rfl,hcv,hb⟩
  have hS3:=And.intro (hS2.1.kept hb) (And.intro (HK.out _ _ _ _ _ _ hS2.2.1 hb) (hS2.2.2.trans (hb.mono hS2.2.2.size)));clear hb hS2;refine hK.out _ _ (fun _=>hS3) ?_;clear hK K
  try simp only[Act.put,yq0,yq1,yq2,yq3,yq4,yq5]
  refine AnyG.o1 10 ?_;intro K hK;go_simp;refine hK.out _ _ (fun _=>hS3) ?_;clear hK K;try simp only[Act.put,yq0,yq1,yq2,yq3,yq4,yq5]
  refine AnyG.tk 13 hS3 ?_;refine AnyG.tk 14 hS3 ?_;refine AnyG.tk 15 hS3 ?_;refine AnyG.tk 16 hS3 ?_;refine AnyG.done (by kernel_rfl) ?_ _;obtain⟨hX0,hP0,hw0⟩:=hS3;have hX:=hide hX0;have hP:=hide hP0;have hw:=hide hw0
  clear hX0 hP0 hw0 hcv CV HT HC;have y0:=hX.out.cell 0 rfl;have y1:=hX.out.cell 1 rfl;have y2:=hX.out.cell 2 rfl;have y3:=hX.out.cell 3 rfl;go_wp2_with fail;refine(R1.out _ _ _ _ _ hP.out).mono ?_;rintro e w4 ⟨rfl,hb⟩
  replace hP:=hide (HK.out _ _ _ _ _ _ hP.out hb);replace hX:=hide (hX.out.kept hb);replace hw:=hide (hw.out.trans (hb.mono hw.out.size));clear hb R1 y0 y1 y2 y3;have y0:=hX.out.cell 0 rfl;have y1:=hX.out.cell 1 rfl
  have y2:=hX.out.cell 2 rfl;have y3:=hX.out.cell 3 rfl;go_wp2_with fail;refine(HS.out _ _ _ _ _ hP.out).mono ?_;rintro e w5 ⟨rfl,hb⟩;replace hP:=hide (HK.out _ _ _ _ _ _ hP.out hb);replace hX:=hide (hX.out.kept hb)
  replace hw:=hide (hw.out.trans (hb.mono hw.out.size));clear hb HS y0 y1 y2 y3;have y0:=hX.out.cell 0 rfl;have y1:=hX.out.cell 1 rfl;have y2:=hX.out.cell 2 rfl;have y3:=hX.out.cell 3 rfl;go_wp2_with fail
  refine(R2.out _ _ _ _ _ hP.out).mono ?_;rintro e w6 ⟨rfl,hb⟩;replace hP:=hide (HK.out _ _ _ _ _ _ hP.out hb);replace hX:=hide (hX.out.kept hb);replace hw:=hide (hw.out.trans (hb.mono hw.out.size))
  clear hb R2 y0 y1 y2 y3;have y0:=hX.out.cell 0 rfl;have y1:=hX.out.cell 1 rfl;have y2:=hX.out.cell 2 rfl;have y3:=hX.out.cell 3 rfl;go_wp2_with fail;refine(HA.out _ _ _ _ _ hP.out).mono ?_;rintro e w7 ⟨rfl,hb⟩
  replace hw:=hide (hw.out.trans (hb.mono hw.out.size));clear hb HA y0 y1 y2 y3;clear hP hX;go_wp2_with fail;refine(HH.out _ hw.out).mono ?_;rintro e w9 ⟨rfl,hb⟩;replace hw:=hide (hw.out.trans (hb.mono hw.out.size));go_wp2
  go_ret;exact⟨rfl,hw.out⟩
 ·have HS:Hid (∀w0 lo lc no nc,SA w0 lo lc no nc→Calls Tryz.prog 18 #[.agg #[.int .i64 kd,.int .i64 (t.length:Int),.slice lo 8 lc,.slice no 8 nc],.int .u8 (c:Int),.int .i64 k] w0 fun e w'=>e=.returned (.tuple #[.int .i64 0,.int .i64 3])∧Below w0.heap.size w0 w'):=fun w0 lo lc no nc h=>by
   have:=HXP.select c k hc hk_ w0 lo lc no nc h;have q:=ss_out (t:=t) (c:=c) (K:=k) (by rw[←hM.out];exact hk);rw[q.1,q.2]at this;exact this
  clear HXP hM HR Xt Ft hB hL hkd_ hk_;generalize strOfNums (nums t)=S at *;by_cases kk:k<0
  ·have kk2:¬(0:Int)≤k:=by omega
   clear hk;go_enter Tryz.func6,Tryz.ntmps6;go_wp2_with fail;refine(H1.out _ (Below.refl _ _)).mono ?_;rintro e w1 ⟨lo,lc,no,nc,rfl,hP0,hb⟩;have hw:=hide hb
   have b1:=below_alloc w1 (.cells [.int .i64 kd,.int .i64 (t.length:Int),.slice lo 8 lc,.slice no 8 nc].toArray 27)
   have hX:=hide (Cel.new w1 [.int .i64 kd,.int .i64 (t.length:Int),.slice lo 8 lc,.slice no 8 nc] 27);have hP:=hide (HK.out _ _ _ _ _ _ hP0 b1);replace hw:=hide (hw.out.trans (b1.mono hw.out.size));clear H1 hb hP0 b1
   go_wp2;refine region_g [] (fun w'=>Cel w' w1.heap.size [.int .i64 kd,.int .i64 (t.length:Int),.slice lo 8 lc,.slice no 8 nc] 27∧SA w' lo lc no nc∧Below w.heap.size w w') (by kernel_rfl) ?_
   have hS:(fun w'=>Cel w' w1.heap.size [.int .i64 kd,.int .i64 (t.length:Int),.slice lo 8 lc,.slice no 8 nc] 27∧SA w' lo lc no nc∧Below w.heap.size w w') (w1.alloc (.cells [.int .i64 kd,.int .i64 (t.length:Int),.slice lo 8 lc,.slice no 8 nc].toArray 27)).drew:=⟨hX.out.drew,HK.out _ _ _ _ _ _ hP.out ((Below.refl _ _).drew),hw.out.drew⟩
   clear hX hP hw;generalize (w1.alloc (.cells [.int .i64 kd,.int .i64 (t.length:Int),.slice lo 8 lc,.slice no 8 nc].toArray 27)).drew=V at *;refine AnyG.tk 0 hS ?_;refine AnyG.tk 1 hS ?_;refine AnyG.tk 2 hS ?_
   refine AnyG.tf 3 hS rfl (fun w0 h0=>by have y0:=h0.1.cell 0 rfl;have y1:=h0.1.cell 1 rfl;have y2:=h0.1.cell 2 rfl;have y3:=h0.1.cell 3 rfl;go_simp;try with_reducible rfl) ?_;refine AnyG.o1 4 ?_;intro K hK
   go_simp;refine(HC.out _ _ _ _ _ hS.2.1).mono ?_;rintro e w2 ⟨rfl,hb⟩;have hS2:=And.intro (hS.1.kept hb) (And.intro (HK.out _ _ _ _ _ _ hS.2.1 hb) (hS.2.2.trans (hb.mono hS.2.2.size)));clear hb hS
   refine hK.out _ _ (fun _=>hS2) ?_;clear hK K;try simp only[Act.put,yq0,yq1,yq2,yq3,yq4,yq5]
   refine AnyG.tk 5 hS2 ?_;refine AnyG.tk 6 hS2 ?_;refine AnyG.tk 7 hS2 ?_
   refine AnyG.tf 8 hS2 rfl (fun w0 h0=>by have y0:=h0.1.cell 0 rfl;have y1:=h0.1.cell 1 rfl;have y2:=h0.1.cell 2 rfl;have y3:=h0.1.cell 3 rfl;go_simp;try with_reducible rfl) ?_;refine AnyG.tk 11 hS2 ?_
   refine AnyG.tf 12 hS2 rfl (fun w0 h0=>by have cv:=CV.out w0 h0.2.2;go_simp;try with_reducible rfl) ?_;refine AnyG.o1 9 ?_;intro K hK;go_simp;refine(HT.out _ _ _ _ _ hS2.2.1).mono ?_;rintro e w3 ⟨bo,bc,rfl,hcv,hb⟩
   have hS3:=And.intro (hS2.1.kept hb) (And.intro (HK.out _ _ _ _ _ _ hS2.2.1 hb) (hS2.2.2.trans (hb.mono hS2.2.2.size)));clear hb hS2;refine hK.out _ _ (fun _=>hS3) ?_;clear hK K
   try simp only[Act.put,yq0,yq1,yq2,yq3,yq4,yq5]
   refine AnyG.o1 10 ?_;intro K hK;go_simp;refine hK.out _ _ (fun _=>hS3) ?_;clear hK K;try simp only[Act.put,yq0,yq1,yq2,yq3,yq4,yq5]
   refine AnyG.tk 13 hS3 ?_;refine AnyG.tk 14 hS3 ?_;refine AnyG.tk 15 hS3 ?_;refine AnyG.tk 16 hS3 ?_;refine AnyG.done (by kernel_rfl) ?_ _;obtain⟨hX0,hP0,hw0⟩:=hS3;have hX:=hide hX0;have hP:=hide hP0
   have hw:=hide hw0;clear hX0 hP0 hw0 hcv CV HT HC;have y0:=hX.out.cell 0 rfl;have y1:=hX.out.cell 1 rfl;have y2:=hX.out.cell 2 rfl;have y3:=hX.out.cell 3 rfl;go_wp2_with fail;refine(R1.out _ _ _ _ _ hP.out).mono ?_
   rintro e w4 ⟨rfl,hb⟩;replace hP:=hide (HK.out _ _ _ _ _ _ hP.out hb);replace hX:=hide (hX.out.kept hb);replace hw:=hide (hw.out.trans (hb.mono hw.out.size));clear hb R1 y0 y1 y2 y3;have y0:=hX.out.cell 0 rfl
   have y1:=hX.out.cell 1 rfl;have y2:=hX.out.cell 2 rfl;have y3:=hX.out.cell 3 rfl;go_wp2_with fail;refine(HS.out _ _ _ _ _ hP.out).mono ?_;rintro e w5 ⟨rfl,hb⟩;replace hP:=hide (HK.out _ _ _ _ _ _ hP.out hb)
   replace hX:=hide (hX.out.kept hb);replace hw:=hide (hw.out.trans (hb.mono hw.out.size));clear hb HS y0 y1 y2 y3;clear hP hX;go_wp2_with fail;refine(HH.out _ hw.out).mono ?_;rintro e w9 ⟨rfl,hb⟩
   replace hw:=hide (hw.out.trans (hb.mono hw.out.size));go_wp2;go_ret;exact⟨rfl,hw.out⟩
  ·have kk2:(0:Int)≤k:=by omega
   have kk3:¬k<(M:Int):=by omega
   clear hk;go_enter Tryz.func6,Tryz.ntmps6;go_wp2_with fail;refine(H1.out _ (Below.refl _ _)).mono ?_;rintro e w1 ⟨lo,lc,no,nc,rfl,hP0,hb⟩;have hw:=hide hb
   have b1:=below_alloc w1 (.cells [.int .i64 kd,.int .i64 (t.length:Int),.slice lo 8 lc,.slice no 8 nc].toArray 27)
   have hX:=hide (Cel.new w1 [.int .i64 kd,.int .i64 (t.length:Int),.slice lo 8 lc,.slice no 8 nc] 27);have hP:=hide (HK.out _ _ _ _ _ _ hP0 b1);replace hw:=hide (hw.out.trans (b1.mono hw.out.size));clear H1 hb hP0 b1
   go_wp2;refine region_g [] (fun w'=>Cel w' w1.heap.size [.int .i64 kd,.int .i64 (t.length:Int),.slice lo 8 lc,.slice no 8 nc] 27∧SA w' lo lc no nc∧Below w.heap.size w w') (by kernel_rfl) ?_
   have hS:(fun w'=>Cel w' w1.heap.size [.int .i64 kd,.int .i64 (t.length:Int),.slice lo 8 lc,.slice no 8 nc] 27∧SA w' lo lc no nc∧Below w.heap.size w w') (w1.alloc (.cells [.int .i64 kd,.int .i64 (t.length:Int),.slice lo 8 lc,.slice no 8 nc].toArray 27)).drew:=⟨hX.out.drew,HK.out _ _ _ _ _ _ hP.out ((Below.refl _ _).drew),hw.out.drew⟩
   clear hX hP hw;generalize (w1.alloc (.cells [.int .i64 kd,.int .i64 (t.length:Int),.slice lo 8 lc,.slice no 8 nc].toArray 27)).drew=V at *;refine AnyG.tk 0 hS ?_;refine AnyG.tk 1 hS ?_;refine AnyG.tk 2 hS ?_
   refine AnyG.tf 3 hS rfl (fun w0 h0=>by have y0:=h0.1.cell 0 rfl;have y1:=h0.1.cell 1 rfl;have y2:=h0.1.cell 2 rfl;have y3:=h0.1.cell 3 rfl;go_simp;try with_reducible rfl) ?_;refine AnyG.o1 4 ?_;intro K hK
   go_simp;refine(HC.out _ _ _ _ _ hS.2.1).mono ?_;rintro e w2 ⟨rfl,hb⟩;have hS2:=And.intro (hS.1.kept hb) (And.intro (HK.out _ _ _ _ _ _ hS.2.1 hb) (hS.2.2.trans (hb.mono hS.2.2.size)));clear hb hS
   refine hK.out _ _ (fun _=>hS2) ?_;clear hK K;try simp only[Act.put,yq0,yq1,yq2,yq3,yq4,yq5]
   refine AnyG.tk 5 hS2 ?_;refine AnyG.tk 6 hS2 ?_;refine AnyG.tk 7 hS2 ?_
   refine AnyG.tf 8 hS2 rfl (fun w0 h0=>by have y0:=h0.1.cell 0 rfl;have y1:=h0.1.cell 1 rfl;have y2:=h0.1.cell 2 rfl;have y3:=h0.1.cell 3 rfl;go_simp;try with_reducible rfl) ?_;refine AnyG.tk 11 hS2 ?_
   refine AnyG.tf 12 hS2 rfl (fun w0 h0=>by have cv:=CV.out w0 h0.2.2;go_simp;try with_reducible rfl) ?_;refine AnyG.o1 9 ?_;intro K hK;go_simp;refine(HT.out _ _ _ _ _ hS2.2.1).mono ?_;rintro e w3 ⟨bo,bc,rfl,hcv,hb⟩
   have hS3:=And.intro (hS2.1.kept hb) (And.intro (HK.out _ _ _ _ _ _ hS2.2.1 hb) (hS2.2.2.trans (hb.mono hS2.2.2.size)));clear hb hS2;refine hK.out _ _ (fun _=>hS3) ?_;clear hK K
   try simp only[Act.put,yq0,yq1,yq2,yq3,yq4,yq5]
   refine AnyG.o1 10 ?_;intro K hK;go_simp;refine hK.out _ _ (fun _=>hS3) ?_;clear hK K;try simp only[Act.put,yq0,yq1,yq2,yq3,yq4,yq5]
   refine AnyG.tk 13 hS3 ?_;refine AnyG.tk 14 hS3 ?_;refine AnyG.tk 15 hS3 ?_;refine AnyG.tk 16 hS3 ?_;refine AnyG.done (by kernel_rfl) ?_ _;obtain⟨hX0,hP0,hw0⟩:=hS3;have hX:=hide hX0;have hP:=hide hP0
   have hw:=hide hw0;clear hX0 hP0 hw0 hcv CV HT HC;have y0:=hX.out.cell 0 rfl;have y1:=hX.out.cell 1 rfl;have y2:=hX.out.cell 2 rfl;have y3:=hX.out.cell 3 rfl;go_wp2_with fail;refine(R1.out _ _ _ _ _ hP.out).mono ?_
   rintro e w4 ⟨rfl,hb⟩;replace hP:=hide (HK.out _ _ _ _ _ _ hP.out hb);replace hX:=hide (hX.out.kept hb);replace hw:=hide (hw.out.trans (hb.mono hw.out.size));clear hb R1 y0 y1 y2 y3;have y0:=hX.out.cell 0 rfl
   have y1:=hX.out.cell 1 rfl;have y2:=hX.out.cell 2 rfl;have y3:=hX.out.cell 3 rfl;go_wp2_with fail;refine(HS.out _ _ _ _ _ hP.out).mono ?_;rintro e w5 ⟨rfl,hb⟩;replace hP:=hide (HK.out _ _ _ _ _ _ hP.out hb)
   replace hX:=hide (hX.out.kept hb);replace hw:=hide (hw.out.trans (hb.mono hw.out.size));clear hb HS y0 y1 y2 y3;clear hP hX;go_wp2_with fail;refine(HH.out _ hw.out).mono ?_;rintro e w9 ⟨rfl,hb⟩
   replace hw:=hide (hw.out.trans (hb.mono hw.out.size));go_wp2;go_ret;exact⟨rfl,hw.out⟩
theorem door_met(os:Os)(args:Array Value):laidMetH Tryz.prog [("errors.errorType",Rows.laid_errors_errorType),("haystack/rrr.ways",Rows.laid_haystack_rrr_ways),("haystack/rrr.widths",Rows.laid_haystack_rrr_widths)] ((World.doorLaid Tryz.prog 400 os).forCall (fun _ _=>0) ⟨#[],args,[]⟩).memory:=
 laidMetH_of_parts3 (fuel:=8) (laidMet_of_run' 8 (by kernel_rfl) (by kernel_rfl)) (by kernel_rfl) (by kernel_rfl)
theorem lifted(os:Os)(started:os.Started)(H:Type)(enc:TypeId×Value→H):
  ReturnsInHanded {} Tryz.checked os 6 .any (fun w args=>(Rows.matrixBackSpec.pre enc Tryz.prog Tryz.f6 [] false w args∧laidMetH Tryz.prog [("errors.errorType",Rows.laid_errors_errorType),("haystack/rrr.ways",Rows.laid_haystack_rrr_ways),("haystack/rrr.widths",Rows.laid_haystack_rrr_widths)] w)∧sizedMet enc Tryz.prog Tryz.f6 (OpenSpec.ofChange Rows.matrixBackSpec) false w args)
   (Rows.matrixBackSpec.post enc Tryz.prog Tryz.f6 false true false false):=by
 refine returnsInHanded_of_change_and (C:=Tryz.checked) (X:=fun w _=>laidMetH Tryz.prog [("errors.errorType",Rows.laid_errors_errorType),("haystack/rrr.ways",Rows.laid_haystack_rrr_ways),("haystack/rrr.widths",Rows.laid_haystack_rrr_widths)] w) (fun _ _ _ hh h=>h.of_heap hh) own started (by kernel_rfl) Tryz.func6
  (ChangeSpec.witness_shaped (enc:=enc) (C:=Tryz.checked) (os:=os) (X:=fun w _=>laidMetH Tryz.prog [("errors.errorType",Rows.laid_errors_errorType),("haystack/rrr.ways",Rows.laid_haystack_rrr_ways),("haystack/rrr.widths",Rows.laid_haystack_rrr_widths)] w) false (World.doorLaid Tryz.prog 400 os) #[.int .i64 0,.slice none 0 0,.int .u8 0,.int .i64 0] 8 rfl (World.shaped_of_RefB (by kernel_rfl) (by kernel_rfl)) (by kernel_rfl) (by kernel_rfl) (by kernel_rfl) (door_met os _)) ?_
 intro W base args ds gs before hval0 hW _ _ hL _;have hval:∀(j:Nat) t v,Tryz.f6.params[j]?=some t→args[j]?=some v→Value.okWide Tryz.prog W .any base t v:=hval0;have hW':=hW
 obtain⟨p,q,hA0,hV,rfl,hfz,hnd⟩:=hW;have hA:DataW.TrodAll enc Tryz.prog W 0 (fun _=>true) true Tryz.f6.params.toList args.toList ds p:=hA0;rw[Tryz.params6]at hA hval
 obtain⟨v0,vs0,d0,ds0,p0,q0,hargs,rfl,rfl,h0,r0⟩:=trodAll_cons hA;obtain⟨v1,vs1,d1,ds1,p1,q1,rfl,rfl,rfl,h1,r1⟩:=trodAll_cons r0;obtain⟨v2,vs2,d2,ds2,p2,q2,rfl,rfl,rfl,h2,r2⟩:=trodAll_cons r1
 obtain⟨v3,vs3,d3,ds3,p3,q3,rfl,rfl,rfl,h3,r3⟩:=trodAll_cons r2;obtain⟨rfl,rfl,rfl⟩:=trodAll_nil r3;obtain rfl:args=#[v0,v1,v2,v3]:=by cases args;simp_all
 obtain⟨rfl,rfl⟩:=trodVars_none hV;obtain⟨kd,rfl,rfl,rfl,w0⟩:=open_int Tryz.underlying3 (hval 0 3 v0 rfl rfl) h0;have k1:=h1
 have lt1:∀x∈p1,x.block<W.heap.size:=by obtain⟨m,hm⟩:=k1;exact DataW.trod_lt m _ _ _ hm
 obtain⟨ot,t,ct,rfl,b11,b12,b13⟩:=open_bytes (hval 1 22 v1 rfl rfl) h1;obtain⟨c,rfl,rfl,rfl,w2⟩:=open_int Tryz.underlying5 (hval 2 5 v2 rfl rfl) h2
 obtain⟨k,rfl,rfl,rfl,w3⟩:=open_int Tryz.underlying3 (hval 3 3 v3 rfl rfl) h3;clear hA0 hval0;refine(walk W (gv_of_laid hL) kd (i64_wf _ w0) ot t ct b11 b12 b13 c (u8_wf _ w2) k (i64_wf _ w3)).mono fun e W' ⟨he,bel⟩=>?_
 subst he
 exact⟨_,rfl,_,_,_,[],_,[],hW',trodAll_mk1 (shut_bool Tryz.underlying4 _),(trodAll_cons_mk (shut_int Tryz.underlying3 w0) (trodAll_cons_mk (Below.trod laidOut (by kernel_rfl) (of_decide_eq_true (by kernel_rfl)) k1 bel lt1) (trodAll_cons_mk (shut_int Tryz.underlying5 w2) (trodAll_cons_mk (shut_int Tryz.underlying3 w3) trodAll_mk0)))),rfl,bel.frame _,fun h=>by cases h⟩
theorem closed:joinedFacts Tryz.prog 6 Tryz.f6 Rows.matrixBackSpec Rows.matrixBackRow=true:=by
 unfold joinedFacts;repeat' (with_reducible apply and_tt);all_goals decide +kernel
theorem over:Rows.matrixBackRow.holds Tryz.pinned (OpenSpec.ofChange Rows.matrixBackSpec):=
 OpenClaim.holds_of_wide 6 Tryz.f6 rfl rfl rfl rfl rfl rfl rfl ⟨rfl,rfl,rfl,rfl,rfl⟩ rfl rfl rfl rfl rfl (by kernel_rfl) Tryz.func6 closed
  (of_decide_eq_true (by kernel_rfl)) (by unfold Func.isWrapper;first | (rw[if_pos (by decide +kernel)];kernel_rfl) | (rw[if_neg (by decide +kernel)];exact⟨rfl,rfl⟩))
  (fun os started H enc _=>lifted os started H enc)
theorem proved:Rows.MatrixBackCardSaid:=
 Claim7.holds_tied_plain_at .later [] [.handle,.data,.data] true (true, "7b508cc1f8ab7d2856745cbd51bcc22d90ed0c50f55d16c0d4c975af93704cd1") true
  over (fun _ h=>by cases h) (by kernel_rfl) (fun _ h=>by cases h) matrixBack_row_tie rfl ⟨rfl,rfl⟩ (by kernel_rfl) rfl
  (fun f fn hf hfn=>by
   obtain rfl:f=6:=Option.some.inj ((show Tryz.prog.funcNamed "haystack/haystacklaw14.MatrixBack" =some 6 by kernel_rfl).symm.trans hf) |>.symm
   obtain rfl:fn=Tryz.f6:=(Option.some.inj (Tryz.func6.symm.trans hfn)).symm
   exact⟨by kernel_rfl,fun j t ht=>by
    rw[Tryz.params6]at ht;have hm:t∈[3,22,5,3]:=by simpa using Array.mem_of_getElem? ht
    have hall:([3,22,5,3].all fun u=>!Tryz.prog.wantsStandIn u)=true:=by kernel_rfl
    exact(show Tryz.prog.wantsStandIn t=false by simpa using List.all_eq_true.1 hall t hm)⟩)
  (by kernel_rfl)
end Go.Proofs.YtleegaihbgbcjabGreatDoor.matrixBack
namespace Go.Proofs.YtleegaihbgbcjabGreatDoor
theorem matrixBack_holds:Rows.MatrixBackCardSaid:=matrixBack.proved
#print axioms matrixBack_holds
end Go.Proofs.YtleegaihbgbcjabGreatDoor
