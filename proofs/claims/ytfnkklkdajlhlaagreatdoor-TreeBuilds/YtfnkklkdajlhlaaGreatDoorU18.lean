import Derived.Test.YtfnkklkdajlhlaaGreatDoorU17
set_option linter.unusedVariables false
set_option linter.unusedSimpArgs false
set_option maxRecDepth 100000
set_option maxHeartbeats 16000000
namespace Go.Proofs.YtfnkklkdajlhlaaGreatDoor
open Go.RowKit Num Bit Bn
def fitB(a:RA8):Bool:=decide ((0≤a.N∧a.N≤1048576)∧ichk a.k a.V a.M a.xs=true∧chk a.L a.ys=true∧a.V=4∧a.k=(nb a.N.toNat:Int)∧a.S.length=gN a.N.toNat∧a.T.length=gN a.N.toNat)
theorem qfits_c(cs:List Value)(a:RA8)(w:World)(h:KI8 w cs a):
  Calls Tryz.prog 140 #[.agg cs.toArray] w fun e w'=>e=.returned (.bool (fitB a))∧Below w.heap.size w w':=by
 obtain⟨⟨ao,cap,qo,dap,so,sc,tO,tc,rfl,_,a1,a2,a3,a4,a5,a6,a7,a8,a9,a10⟩,xl,yl,sl,tl⟩:=h;obtain⟨N,k,V,M,xs,L,ys,S,T⟩:=a;dsimp only at *
 have HIc:Hid (∀w0,Below w.heap.size w w0→Calls Tryz.prog 187 #[.agg #[.int .i64 k,.int .i64 V,.int .i64 M,.slice ao xs.length cap]] w0 fun e w'=>e=.returned (.bool (ichk k V M xs))∧Below w0.heap.size w0 w'):=fun w0 hb=>icheck_c k V M ao xs cap w0 (a1.keep hb)
 have HBc:Hid (∀w0,Below w.heap.size w w0→Calls Tryz.prog 92 #[.agg #[.int .i64 L,.slice qo ys.length dap]] w0 fun e w'=>e=.returned (.bool (chk L ys))∧Below w0.heap.size w0 w'):=fun w0 hb=>check_c L qo ys dap w0 (a4.keep hb)
 obtain⟨W,hW⟩:∃W,W=w.alloc (.cells #[.int .i64 N,.int .i64 k,.int .i64 V,.int .i64 M,.slice ao xs.length cap,.int .i64 L,.slice qo ys.length dap,.slice so S.length sc,.slice tO T.length tc] 41):=⟨_,rfl⟩
 have bW:=yb1 hW;have B1:=yc1 hW;clear a1 a2 a3 a4 a5 a6 a7 a8 a9 a10;obtain⟨B,hB⟩:∃B,Hid (B=fitB ⟨N,k,V,M,xs,L,ys,S,T⟩):=⟨_,rfl⟩;rw[←hB.out];by_cases n0:N<0
 ·obtain rfl:B=false:=by
   rw[hB.out];unfold fitB;dsimp only;exact decide_eq_false fun h=>by omega
  clear hB HIc HBc B1;go_enter Tryz.func140,Tryz.ntmps140;go_wp2;go_ret;rw[←hW];exact⟨rfl,bW⟩
 by_cases n1:1048576<N
 ·obtain rfl:B=false:=by
   rw[hB.out];unfold fitB;dsimp only;exact decide_eq_false fun h=>by omega
  clear hB HIc HBc B1;go_enter Tryz.func140,Tryz.ntmps140;go_wp2;go_ret;rw[←hW];exact⟨rfl,bW⟩
 obtain⟨m,rfl⟩:=Int.eq_ofNat_of_zero_le (show 0≤N by omega);have hm:m≤1048576:=by omega
 have hm2:(m:Int)≤1048576:=by omega
 cases hk:ichk k V M xs with
 | false=>
  obtain rfl:B=false:=by
   rw[hB.out];unfold fitB;dsimp only;exact decide_eq_false fun h=>by rw[hk]at h;simp at h
  rw[hk]at HIc;clear hB HBc hk;go_enter Tryz.func140,Tryz.ntmps140;go_wp2_with fail;rw[←hW];refine(HIc.out _ bW).mono ?_;rintro e w1 ⟨rfl,hb⟩;have bw1:=bW.trans (hb.mono bW.size);clear hW hb;go_wp2;go_ret
  exact⟨rfl,bw1⟩
 | true=>
 rw[hk]at HIc;cases hc:chk L ys with
 | false=>
  obtain rfl:B=false:=by
   rw[hB.out];unfold fitB;dsimp only;exact decide_eq_false fun h=>by rw[hc]at h;simp at h
  rw[hc]at HBc;clear hB hk hc;go_enter Tryz.func140,Tryz.ntmps140;go_wp2_with fail;rw[←hW];refine(HIc.out _ bW).mono ?_;rintro e w1 ⟨rfl,hb⟩;have bw1:=bW.trans (hb.mono bW.size);replace B1:=B1.kept hb
  have c5:=B1.cell 5 rfl;have c6:=B1.cell 6 rfl;clear hW hb;go_wp2_with fail;refine(HBc.out _ bw1).mono ?_;rintro e w2 ⟨rfl,hb⟩;have bw2:=bw1.trans (hb.mono bw1.size);clear hb;go_wp2;go_ret;exact⟨rfl,bw2⟩
 | true=>
 rw[hc]at HBc;have HN:Hid (∀w0,Calls Tryz.prog 154 #[.int .i64 (m:Int)] w0 fun e w'=>e=.returned (.int .i64 (nb m:Nat))∧w'=w0):=fun w0=>qblocks_c m hm w0;have nbl:=nb_le m hm
 have HGr:Hid (∀w0,Calls Tryz.prog 157 #[.int .i64 (nb m:Nat)] w0 fun e w'=>e=.returned (.int .i64 (gN m:Nat))∧w'=w0):=fun w0=>qgroups_c (nb m) (by omega) w0
 have HB2:Hid (B=decide (V=4∧k=(nb m:Int)∧S.length=gN m∧T.length=gN m)):=by
  show B=_;rw[hB.out];unfold fitB;dsimp only;rw[Int.toNat_natCast];exact decide_eq_decide.2 ⟨fun h=>h.2.2.2,fun h=>⟨by omega,hk,hc,h⟩⟩
 have gl:gN m≤1048576:=by unfold gN;omega
 clear hB hk hc;generalize nb m=nbm at *;generalize gN m=G at *;go_enter Tryz.func140,Tryz.ntmps140;go_wp2_with fail;rw[←hW];refine(HIc.out _ bW).mono ?_;rintro e w1 ⟨rfl,hb⟩;have bw1:=bW.trans (hb.mono bW.size)
 replace B1:=B1.kept hb;have c5:=B1.cell 5 rfl;have c6:=B1.cell 6 rfl;clear hW hb HIc bW;go_wp2_with fail;refine(HBc.out _ bw1).mono ?_;rintro e w2 ⟨rfl,hb⟩;have bw2:=bw1.trans (hb.mono bw1.size);replace B1:=B1.kept hb
 have c0:=B1.cell 0 rfl;clear hb HBc bw1 c5 c6;go_wp2_with fail;refine(HN.out _).mono ?_;rintro e w3 ⟨rfl,rfl⟩;go_wp2_with fail;refine(HGr.out _).mono ?_;rintro e w3 ⟨rfl,rfl⟩;clear c0;go_wp2
 refine region_g [] (fun w'=>Cel w' w.heap.size [.int .i64 (m:Int),.int .i64 k,.int .i64 V,.int .i64 M,.slice ao xs.length cap,.int .i64 L,.slice qo ys.length dap,.slice so S.length sc,.slice tO T.length tc] 41) (by kernel_rfl) ?_
 have hS:Cel w3.drew w.heap.size [.int .i64 (m:Int),.int .i64 k,.int .i64 V,.int .i64 M,.slice ao xs.length cap,.int .i64 L,.slice qo ys.length dap,.slice so S.length sc,.slice tO T.length tc] 41:=B1
 have bV:Below w.heap.size w w3.drew:=bw2.drew;generalize w3.drew=Y at *;clear B1 bw2;by_cases v:V=4
 ·have v2:(V==4)=true:=by simpa using v
  by_cases kk:k=(nbm:Int)
  ·have kk2:(k==(nbm:Int))=true:=by simpa using kk
   by_cases s:S.length=G
   ·have s2:((S.length:Int)==(G:Int))=true:=by simp[s]
    by_cases t:T.length=G
    ·have t2:((T.length:Int)==(G:Int))=true:=by simp[t]
     obtain rfl:B=true:=by
      rw[HB2.out];exact decide_eq_true ⟨v,kk,s,t⟩
     clear HB2 v kk s t;refine AnyG.tk 0 hS ?_;refine AnyG.tk 1 hS ?_;refine AnyG.tf 2 hS rfl (fun w0 h0=>by have c0:=h0.cell 2 rfl;go_simp;try with_reducible rfl) ?_;refine AnyG.tk 3 hS ?_;refine AnyG.tk 4 hS ?_
     refine AnyG.tk 5 hS ?_;refine AnyG.tk 6 hS ?_;refine AnyG.tf 7 hS rfl (fun w0 h0=>by have c0:=h0.cell 1 rfl;go_simp;try with_reducible rfl) ?_;refine AnyG.tk 8 hS ?_
     refine AnyG.tf 9 hS rfl (fun w0 h0=>by have c0:=h0.cell 0 rfl;go_simp;try with_reducible rfl) ?_;refine AnyG.o1 10 ?_;intro K hK;go_simp;refine(HN.out _).mono ?_;rintro e w4 ⟨rfl,rfl⟩
     refine hK.out _ _ (fun _=>hS) ?_;clear hK K;try simp only[Act.put,yq0,yq1,yq2,yq3,yq4,yq5]
     refine AnyG.tk 11 hS ?_;refine AnyG.tk 12 hS ?_;refine AnyG.tk 13 hS ?_;refine AnyG.tk 14 hS ?_;refine AnyG.tf 15 hS rfl (fun w0 h0=>by have c0:=h0.cell 7 rfl;go_simp;try with_reducible rfl) ?_
     refine AnyG.tk 16 hS ?_;refine AnyG.tk 17 hS ?_;refine AnyG.tk 18 hS ?_;refine AnyG.tk 19 hS ?_;refine AnyG.tk 20 hS ?_;refine AnyG.tk 21 hS ?_
     refine AnyG.tf 22 hS rfl (fun w0 h0=>by have c0:=h0.cell 8 rfl;go_simp;try with_reducible rfl) ?_;refine AnyG.tk 23 hS ?_;refine AnyG.tk 24 hS ?_;refine AnyG.tk 25 hS ?_;refine AnyG.tk 26 hS ?_
     refine AnyG.tk 27 hS ?_;refine AnyG.done (by kernel_rfl) ?_ _;clear hS HN HGr;go_wp2;go_ret;exact⟨rfl,bV⟩
    ·have t2:((T.length:Int)==(G:Int))=false:=by simp;omega
     obtain rfl:B=false:=by
      rw[HB2.out];exact decide_eq_false fun h=>by omega
     clear HB2 v kk s t;refine AnyG.tk 0 hS ?_;refine AnyG.tk 1 hS ?_;refine AnyG.tf 2 hS rfl (fun w0 h0=>by have c0:=h0.cell 2 rfl;go_simp;try with_reducible rfl) ?_;refine AnyG.tk 3 hS ?_;refine AnyG.tk 4 hS ?_
     refine AnyG.tk 5 hS ?_;refine AnyG.tk 6 hS ?_;refine AnyG.tf 7 hS rfl (fun w0 h0=>by have c0:=h0.cell 1 rfl;go_simp;try with_reducible rfl) ?_;refine AnyG.tk 8 hS ?_
     refine AnyG.tf 9 hS rfl (fun w0 h0=>by have c0:=h0.cell 0 rfl;go_simp;try with_reducible rfl) ?_;refine AnyG.o1 10 ?_;intro K hK;go_simp;refine(HN.out _).mono ?_;rintro e w4 ⟨rfl,rfl⟩
     refine hK.out _ _ (fun _=>hS) ?_;clear hK K;try simp only[Act.put,yq0,yq1,yq2,yq3,yq4,yq5]
     refine AnyG.tk 11 hS ?_;refine AnyG.tk 12 hS ?_;refine AnyG.tk 13 hS ?_;refine AnyG.tk 14 hS ?_;refine AnyG.tf 15 hS rfl (fun w0 h0=>by have c0:=h0.cell 7 rfl;go_simp;try with_reducible rfl) ?_
     refine AnyG.tk 16 hS ?_;refine AnyG.tk 17 hS ?_;refine AnyG.tk 18 hS ?_;refine AnyG.tk 19 hS ?_;refine AnyG.tk 20 hS ?_;refine AnyG.tk 21 hS ?_
     refine AnyG.tf 22 hS rfl (fun w0 h0=>by have c0:=h0.cell 8 rfl;go_simp;try with_reducible rfl) ?_;refine AnyG.tk 23 hS ?_;refine AnyG.tk 24 hS ?_;refine AnyG.tk 25 hS ?_;refine AnyG.tk 26 hS ?_
     refine AnyG.tk 27 hS ?_;refine AnyG.done (by kernel_rfl) ?_ _;clear hS HN HGr;go_wp2;go_ret;exact⟨rfl,bV⟩
   ·have s2:((S.length:Int)==(G:Int))=false:=by simp;omega
    obtain rfl:B=false:=by
     rw[HB2.out];exact decide_eq_false fun h=>by omega
    clear HB2 v kk s;refine AnyG.tk 0 hS ?_;refine AnyG.tk 1 hS ?_;refine AnyG.tf 2 hS rfl (fun w0 h0=>by have c0:=h0.cell 2 rfl;go_simp;try with_reducible rfl) ?_;refine AnyG.tk 3 hS ?_;refine AnyG.tk 4 hS ?_
    refine AnyG.tk 5 hS ?_;refine AnyG.tk 6 hS ?_;refine AnyG.tf 7 hS rfl (fun w0 h0=>by have c0:=h0.cell 1 rfl;go_simp;try with_reducible rfl) ?_;refine AnyG.tk 8 hS ?_
    refine AnyG.tf 9 hS rfl (fun w0 h0=>by have c0:=h0.cell 0 rfl;go_simp;try with_reducible rfl) ?_;refine AnyG.o1 10 ?_;intro K hK;go_simp;refine(HN.out _).mono ?_;rintro e w4 ⟨rfl,rfl⟩
    refine hK.out _ _ (fun _=>hS) ?_;clear hK K;try simp only[Act.put,yq0,yq1,yq2,yq3,yq4,yq5]
    refine AnyG.tk 11 hS ?_;refine AnyG.tk 12 hS ?_;refine AnyG.tk 13 hS ?_;refine AnyG.tk 14 hS ?_;refine AnyG.tf 15 hS rfl (fun w0 h0=>by have c0:=h0.cell 7 rfl;go_simp;try with_reducible rfl) ?_;refine AnyG.tk 16 hS ?_
    refine AnyG.tk 17 hS ?_;refine AnyG.tk 18 hS ?_;refine AnyG.tk 19 hS ?_;refine AnyG.tk 20 hS ?_;refine AnyG.sk 21 hS ?_;refine AnyG.sk 22 hS ?_;refine AnyG.sk 23 hS ?_;refine AnyG.sk 24 hS ?_;refine AnyG.sk 25 hS ?_
    refine AnyG.tk 26 hS ?_;refine AnyG.tk 27 hS ?_;refine AnyG.done (by kernel_rfl) ?_ _;clear hS HN HGr;go_wp2;go_ret;exact⟨rfl,bV⟩
  ·have kk2:(k==(nbm:Int))=false:=by simpa using kk
   obtain rfl:B=false:=by
    rw[HB2.out];exact decide_eq_false fun h=>by omega
   clear HB2 v kk;refine AnyG.tk 0 hS ?_;refine AnyG.tk 1 hS ?_;refine AnyG.tf 2 hS rfl (fun w0 h0=>by have c0:=h0.cell 2 rfl;go_simp;try with_reducible rfl) ?_;refine AnyG.tk 3 hS ?_;refine AnyG.tk 4 hS ?_
   refine AnyG.tk 5 hS ?_;refine AnyG.tk 6 hS ?_;refine AnyG.tf 7 hS rfl (fun w0 h0=>by have c0:=h0.cell 1 rfl;go_simp;try with_reducible rfl) ?_;refine AnyG.tk 8 hS ?_
   refine AnyG.tf 9 hS rfl (fun w0 h0=>by have c0:=h0.cell 0 rfl;go_simp;try with_reducible rfl) ?_;refine AnyG.o1 10 ?_;intro K hK;go_simp;refine(HN.out _).mono ?_;rintro e w4 ⟨rfl,rfl⟩
   refine hK.out _ _ (fun _=>hS) ?_;clear hK K;try simp only[Act.put,yq0,yq1,yq2,yq3,yq4,yq5]
   refine AnyG.tk 11 hS ?_;refine AnyG.tk 12 hS ?_;refine AnyG.tk 13 hS ?_;refine AnyG.sk 14 hS ?_;refine AnyG.sk 15 hS ?_;refine AnyG.sk 16 hS ?_;refine AnyG.sk 17 hS ?_;refine AnyG.sk 18 hS ?_;refine AnyG.tk 19 hS ?_
   refine AnyG.tk 20 hS ?_;refine AnyG.sk 21 hS ?_;refine AnyG.sk 22 hS ?_;refine AnyG.sk 23 hS ?_;refine AnyG.sk 24 hS ?_;refine AnyG.sk 25 hS ?_;refine AnyG.tk 26 hS ?_;refine AnyG.tk 27 hS ?_
   refine AnyG.done (by kernel_rfl) ?_ _;clear hS HN HGr;go_wp2;go_ret;exact⟨rfl,bV⟩
 ·have v2:(V==4)=false:=by simpa using v
  obtain rfl:B=false:=by
   rw[HB2.out];exact decide_eq_false fun h=>by omega
  clear HB2 v;refine AnyG.tk 0 hS ?_;refine AnyG.tk 1 hS ?_;refine AnyG.tf 2 hS rfl (fun w0 h0=>by have c0:=h0.cell 2 rfl;go_simp;try with_reducible rfl) ?_;refine AnyG.tk 3 hS ?_;refine AnyG.tk 4 hS ?_
  refine AnyG.sk 5 hS ?_;refine AnyG.sk 6 hS ?_;refine AnyG.sk 7 hS ?_;refine AnyG.sk 8 hS ?_;refine AnyG.sk 9 hS ?_;refine AnyG.sk 10 hS ?_;refine AnyG.sk 11 hS ?_;refine AnyG.tk 12 hS ?_;refine AnyG.tk 13 hS ?_
  refine AnyG.sk 14 hS ?_;refine AnyG.sk 15 hS ?_;refine AnyG.sk 16 hS ?_;refine AnyG.sk 17 hS ?_;refine AnyG.sk 18 hS ?_;refine AnyG.tk 19 hS ?_;refine AnyG.tk 20 hS ?_;refine AnyG.sk 21 hS ?_;refine AnyG.sk 22 hS ?_
  refine AnyG.sk 23 hS ?_;refine AnyG.sk 24 hS ?_;refine AnyG.sk 25 hS ?_;refine AnyG.tk 26 hS ?_;refine AnyG.tk 27 hS ?_;refine AnyG.done (by kernel_rfl) ?_ _;clear hS HN HGr;go_wp2;go_ret;exact⟨rfl,bV⟩
end Go.Proofs.YtfnkklkdajlhlaaGreatDoor
