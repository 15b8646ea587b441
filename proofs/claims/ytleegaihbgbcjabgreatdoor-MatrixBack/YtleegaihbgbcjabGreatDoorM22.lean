import Derived.Test.YtleegaihbgbcjabGreatDoorM21
set_option linter.unusedVariables false
set_option linter.unusedSimpArgs false
set_option maxRecDepth 100000
set_option maxHeartbeats 16000000
namespace Go.Proofs.YtleegaihbgbcjabGreatDoor
open Go.RowKit Num Bit
structure MR where
 K:Int
 N:Int
 av:List RA
 zs:List Int
def mrw(x:MR)(l:Nat):RA:=x.av.getD l ra0
structure MI (w:World) (lo:Option Addr) (lc:Nat) (zo:Option Addr) (zc:Nat) (x:MR):Prop where
 k:I64 x.K
 n:I64 x.N
 l:Lv w lo x.av
 z:Nd w zo x.zs
 lm:x.av.length≤1048576
 zm:x.zs.length≤1048576
 gv:GV w
theorem MI.keep{w w':World}{lo:Option Addr}{lc:Nat}{zo:Option Addr}{zc:Nat}{x:MR}(h:MI w lo lc zo zc x)(hb:Below w.heap.size w w'):MI w' lo lc zo zc x:=⟨h.k,h.n,h.l.keep hb,h.z.keep hb,h.lm,h.zm,h.gv.keep hb⟩
def mlOk(x:MR)(l:Nat):Bool:=decide (grE (kOk (mrw x l)) (kBN (mrw x l)) x.N=0)&&(decide (grN (kOk (mrw x l)) (kBN (mrw x l)) (kBX (mrw x l)) false x.N=gi x.zs l)&&(decide ((mrw x l).K=x.K)&&decide (kBN (mrw x l)=x.N)))
def mOk(x:MR):Bool:=decide (x.N≤8192)&&(decide (x.av.length=8)&&(decide (x.zs.length=8)&&(List.range 8).all (mlOk x)))
theorem mOk_no{x:MR}(l:Nat)(hl:l<8)(h:mlOk x l=false):mOk x=false:=by
 refine Bool.eq_false_iff.2 fun e=>?_;unfold mOk at e;simp only[Bool.and_eq_true,List.all_eq_true]at e;rw[e.2.2.2 l (List.mem_range.2 hl)]at h;cases h
theorem mOk_yes{x:MR}(h1:x.N≤8192)(h2:x.av.length=8)(h3:x.zs.length=8)(h:∀l,l<8→mlOk x l=true):mOk x=true:=by
 unfold mOk;simp only[Bool.and_eq_true,decide_eq_true_eq,List.all_eq_true];exact⟨h1,h2,h3,fun l hl=>h l (List.mem_range.1 hl)⟩
theorem hzr_at{w w0:World}{b off:Nat}{l:List Int}(h:∀i,i<l.length→w.cell? ⟨b,off+i,none⟩=some (.int .i64 (gi l i)))(hb:Below w.heap.size w w0)(hl:b<w.heap.size)(q:Nat)(hq:q<l.length):w0.cell? ⟨b,off+q,none⟩=some (.int .i64 (gi l q)):=(hb.cell (p:=⟨b,off+q,none⟩) hl).trans (h q hq)
theorem kBN_i64(a:RA)(ok:kOk a=true):I64 (kBN a):=by
 obtain⟨h0,h1⟩:=chk_out _ _ (kB_chk a ok);unfold I64;omega
theorem mcheck_c(lo:Option Addr)(lc:Nat)(zo:Option Addr)(zc:Nat)(x:MR)(w:World)(h:MI w lo lc zo zc x):
  Calls Tryz.prog 20 #[.agg #[.int .i64 x.K,.int .i64 x.N,.slice lo x.av.length lc,.slice zo x.zs.length zc]] w fun e w'=>e=.returned (.bool (mOk x))∧Below w.heap.size w w':=by
 obtain⟨Z,hZ⟩:∃Z,Hid (Z=mOk x):=⟨_,rfl⟩;rw[←hZ.out];have HI:=hide h;obtain⟨K,hK⟩:∃K,Hid (K=x.K):=⟨_,rfl⟩;obtain⟨N,hN⟩:∃N,Hid (N=x.N):=⟨_,rfl⟩
 obtain⟨m,hm⟩:∃m,Hid (m=x.av.length):=⟨_,rfl⟩;obtain⟨z,hz⟩:∃z,Hid (z=x.zs.length):=⟨_,rfl⟩;rw[←hK.out,←hN.out,←hm.out,←hz.out]
 obtain⟨W,hW⟩:∃W,W=w.alloc (.cells #[.int .i64 K,.int .i64 N,.slice lo m lc,.slice zo z zc] 27):=⟨_,rfl⟩;have bW:=yb1 hW
 have B1:=hide (show Cel W w.heap.size [.int .i64 K,.int .i64 N,.slice lo m lc,.slice zo z zc] 27 by rw[hW];exact Cel.new w _ _);have HB:=hide bW;by_cases q1:N≤8192;rotate_left
 ·have E:Hid (Z=false):=by
   show Z=_;rw[hZ.out];unfold mOk;rw[decide_eq_false (by rw[←hN.out];exact q1)];rfl
  have q2:(8192:Int)<N:=by omega
  clear h bW;go_enter Tryz.func20,Tryz.ntmps20;go_wp2;go_ret;rw[E.out,←hW];exact⟨rfl,HB.out⟩
 have q1':¬(8192:Int)<N:=by omega
 by_cases q2:m=8;rotate_left
 ·have E:Hid (Z=false):=by
   show Z=_;rw[hZ.out];unfold mOk;rw[show decide (x.av.length=8)=false from decide_eq_false (by rw[←hm.out];exact q2)];simp
  have q3:((m:Int) != 8)=true:=by simp;omega
  clear h bW;go_enter Tryz.func20,Tryz.ntmps20;go_wp2;go_ret;rw[E.out,←hW];exact⟨rfl,HB.out⟩
 subst q2;by_cases q2:z=8;rotate_left
 ·have E:Hid (Z=false):=by
   show Z=_;rw[hZ.out];unfold mOk;rw[show decide (x.zs.length=8)=false from decide_eq_false (by rw[←hz.out];exact q2)];simp
  have q3:((z:Int) != 8)=true:=by simp;omega
  clear h bW;go_enter Tryz.func20,Tryz.ntmps20;go_wp2;go_ret;rw[E.out,←hW];exact⟨rfl,HB.out⟩
 subst q2;have hk:=h.k;have hn:=h.n;rw[←hK.out]at hk;rw[←hN.out]at hn;obtain⟨b,off,rfl,hbl,hrows⟩:=h.l (by rw[←hm.out];decide);obtain⟨b2,off2,rfl,hbl2,hzer⟩:=h.z (by rw[←hz.out];decide)
 have HR:=hide hrows;have HZr:=hide hzer;clear hrows hzer h bW;go_enter Tryz.func20,Tryz.ntmps20;go_wp2;rw[←hW];clear hW
 go_loopw [25] (fun s wr=>∃q:Nat,q≤8∧s=.int .i64 q∧Hid (∀l,l<q→mlOk x l=true)∧Hid (Cel wr w.heap.size [.int .i64 K,.int .i64 N,.slice (some ⟨b,off,none⟩) 8 lc,.slice (some ⟨b2,off2,none⟩) 8 zc] 27)∧Hid (Below w.heap.size w wr)) (fun s _=>8-(intOf s).toNat)
 case atStart=>exact⟨0,Nat.zero_le _,rfl,fun l hl=>absurd hl (by omega),B1,HB⟩
 case round=>
  clear B1 HB;obtain⟨q,hq,rfl,HA,K1,HB⟩:=hrel;by_cases hi:q<8
  ·have hi2:(q:Int)<8:=by omega
   obtain⟨cs,hr0,hk0⟩:=HR.out q (by rw[←hm.out];exact hi);have HRg:=hide (range_keep hr0 HB.out hbl);have hh0:=hk0.arg.head;have HL:=hide hk0.arg.len;have H1:=hide hk0.arg.one
   have H22:=hide (len_zv.trans hk0.arg.nine);obtain⟨A,hA⟩:∃A,Hid (A=mrw x q):=⟨_,rfl⟩;have hk0':KI w cs A:=by rw[hA.out];exact hk0
   have hhA:cs[0]?=some (.int .i64 A.K):=by rw[hA.out];exact hh0
   have HH:=hide hhA;have hAK:I64 A.K:=by obtain⟨_,_,_,_,g,_⟩:=hk0'.arg;exact g
   have C:Hid (∀w0,Below w.heap.size w w0→Calls Tryz.prog 44 #[.agg cs.toArray,.bool false,.int .i64 N] w0 fun e w'=>e=.returned (.tuple #[.int .i64 (grN (kOk A) (kBN A) (kBX A) false N),.int .i64 (grE (kOk A) (kBN A) N)])∧Below w0.heap.size w0 w'):=fun w0 h=>rank_k cs A false N w0 (hk0'.keep h) hn
   have L0:=hide (fun(ok:kOk A=true) (w0:World) (h:Below w.heap.size w w0)=>mlength_c cs A w0 (hk0'.keep h) ok);have zc1:=hzr_at HZr.out HB.out hbl2 q (by rw[←hz.out];exact hi)
   have eL:Hid (mlOk x q=(decide (grE (kOk A) (kBN A) N=0)&&(decide (grN (kOk A) (kBN A) (kBX A) false N=gi x.zs q)&&(decide (A.K=K)&&decide (kBN A=N))))):=by show mlOk x q=_;unfold mlOk;rw[←hA.out,←hK.out,←hN.out]
   have kN:kOk A=true→I64 (kBN A):=fun ok=>kBN_i64 A ok;clear hk0 hk0' hr0 hhA hA hh0;generalize A.K=AK at *;have zz:=HB.out.size;have lz:=K1.out.lt;have x2:=K1.out.cell 2 rfl
   go_wp2_with (first | refine load_part b (off+q*22) cs (by rfl) rfl HRg.out Tryz.underlying63 HL.out ?_ | refine alloc_any info_zv ?_);intro w1 c1 b1 s1;try simp only[Act.put,yq3,List.set]
   have HB1:=hide b1;clear b1;go_wp2_with (refine store_cel wr.heap.size zv cs rfl rfl c1 H22.out HL.out H1.out ?_);intro w2 c2 o2;try simp only[Act.put,yq3,List.set]
   have K2:=hide (o2.cel (K1.out.kept HB1.out) (by omega));have HB2:=hide ((HB.out.trans (HB1.out.mono zz)).trans (o2.below zz));have C2h:=hide c2;have Z2:=hzr_at HZr.out HB2.out hbl2 q (by rw[←hz.out];exact hi)
   have x1:=K2.out.cell 1 rfl;have c20:=c2.cell 0 HH.out;clear HRg c1 HB1 s1 o2 HB K1 x2 zc1;go_wp2_with (refine load_cel wr.heap.size cs rfl c2 Tryz.underlying63 HL.out ?_);refine(C.out _ HB2.out).mono ?_
   rintro e w3 ⟨rfl,hb3⟩;have K3:=hide (K2.out.kept hb3);have C3h:=hide (C2h.out.kept hb3);have HB3:=hide (HB2.out.trans (hb3.mono HB2.out.size));have g3:=hb3.size;clear hb3 K2 C2h HB2 c2 c20 x1 Z2 C
   obtain⟨EE,hEE⟩:∃EE,Hid (EE=grE (kOk A) (kBN A) N):=⟨_,rfl⟩;obtain⟨NN,hNN⟩:∃NN,Hid (NN=grN (kOk A) (kBN A) (kBX A) false N):=⟨_,rfl⟩;rw[←hEE.out,←hNN.out]at eL⊢
   obtain⟨zq,hzq⟩:∃zq,Hid (zq=gi x.zs q):=⟨_,rfl⟩;rw[←hzq.out]at eL
   have HZq:Hid (∀w0,Below w.heap.size w w0→w0.cell? ⟨b2,off2+q,none⟩=some (.int .i64 zq)):=fun w0 hb=>by rw[hzq.out];exact hzr_at HZr.out hb hbl2 q (by rw[←hz.out];exact hi)
   by_cases d1:EE=0;rotate_left
   ·have d12:(EE != 0)=true:=by simp[d1]
    have E:Hid (Z=false):=by
     show Z=_;rw[hZ.out];refine mOk_no q hi ?_;rw[eL.out,decide_eq_false d1];simp
    clear eL L0;go_wp2
    refine region_g [] (fun w'=>Cel w' wr.heap.size cs 63∧Cel w' w.heap.size [.int .i64 K,.int .i64 N,.slice (some ⟨b,off,none⟩) 8 lc,.slice (some ⟨b2,off2,none⟩) 8 zc] 27∧Below w.heap.size w w') (by kernel_rfl) ?_
    have hS:(fun w'=>Cel w' wr.heap.size cs 63∧Cel w' w.heap.size [.int .i64 K,.int .i64 N,.slice (some ⟨b,off,none⟩) 8 lc,.slice (some ⟨b2,off2,none⟩) 8 zc] 27∧Below w.heap.size w w') w3.drew:=⟨C3h.out.drew,K3.out.drew,HB3.out.drew⟩
    clear C3h K3 HB3;generalize w3.drew=V at *;refine AnyG.tk 0 hS ?_;refine AnyG.tk 1 hS ?_;refine AnyG.tk 2 hS ?_;refine AnyG.sk 3 hS ?_;refine AnyG.sk 4 hS ?_;refine AnyG.sk 5 hS ?_;refine AnyG.sk 6 hS ?_
    refine AnyG.sk 7 hS ?_;refine AnyG.sk 8 hS ?_;refine AnyG.sk 9 hS ?_;refine AnyG.tk 10 hS ?_;refine AnyG.tk 11 hS ?_;refine AnyG.sk 12 hS ?_;refine AnyG.sk 13 hS ?_;refine AnyG.sk 14 hS ?_;refine AnyG.sk 15 hS ?_
    refine AnyG.sk 16 hS ?_;refine AnyG.tk 17 hS ?_;refine AnyG.tk 18 hS ?_;refine AnyG.sk 19 hS ?_;refine AnyG.sk 20 hS ?_;refine AnyG.sk 21 hS ?_;refine AnyG.sk 22 hS ?_;refine AnyG.sk 23 hS ?_;refine AnyG.tk 24 hS ?_
    refine AnyG.done (by kernel_rfl) ?_ _;have HBz:=hide hS.2.2;clear hS;go_wp2;go_ret;rw[E.out];exact⟨rfl,HBz.out⟩
   subst d1
   have ok:kOk A=true:=by
    have:=hEE.out;cases o:kOk A with
    | true=>rfl
    | false=>unfold grE at this;rw[o]at this;simp at this
   have L:=hide (L0.out ok);have kN2:=kN ok;clear hEE kN;by_cases d2:NN=zq;rotate_left
   ·have d22:(NN != zq)=true:=by simp[d2]
    have E:Hid (Z=false):=by
     show Z=_;rw[hZ.out];refine mOk_no q hi ?_;rw[eL.out,decide_eq_false d2];simp
    clear eL L0;go_wp2
    refine region_g [] (fun w'=>Cel w' wr.heap.size cs 63∧Cel w' w.heap.size [.int .i64 K,.int .i64 N,.slice (some ⟨b,off,none⟩) 8 lc,.slice (some ⟨b2,off2,none⟩) 8 zc] 27∧Below w.heap.size w w') (by kernel_rfl) ?_
    have hS:(fun w'=>Cel w' wr.heap.size cs 63∧Cel w' w.heap.size [.int .i64 K,.int .i64 N,.slice (some ⟨b,off,none⟩) 8 lc,.slice (some ⟨b2,off2,none⟩) 8 zc] 27∧Below w.heap.size w w') w3.drew:=⟨C3h.out.drew,K3.out.drew,HB3.out.drew⟩
    clear C3h K3 HB3;generalize w3.drew=V at *;refine AnyG.tk 0 hS ?_;refine AnyG.tk 1 hS ?_;refine AnyG.tk 2 hS ?_;refine AnyG.tk 3 hS ?_;refine AnyG.tk 4 hS ?_
    refine AnyG.tf 5 hS rfl (fun w0 h0=>by have y0:=h0.2.1.cell 0 rfl;have y1:=h0.2.1.cell 1 rfl;have y3:=h0.2.1.cell 3 rfl;have zq1:=HZq.out w0 h0.2.2;have c0:=h0.1.cell 0 HH.out;go_simp;try with_reducible rfl) ?_
    refine AnyG.tk 6 hS ?_;refine AnyG.tk 7 hS ?_
    refine AnyG.tf 8 hS rfl (fun w0 h0=>by have y0:=h0.2.1.cell 0 rfl;have y1:=h0.2.1.cell 1 rfl;have y3:=h0.2.1.cell 3 rfl;have zq1:=HZq.out w0 h0.2.2;have c0:=h0.1.cell 0 HH.out;go_simp;try with_reducible rfl) ?_
    refine AnyG.tk 9 hS ?_;refine AnyG.tk 10 hS ?_;refine AnyG.tk 11 hS ?_;refine AnyG.sk 12 hS ?_;refine AnyG.sk 13 hS ?_;refine AnyG.sk 14 hS ?_;refine AnyG.sk 15 hS ?_;refine AnyG.sk 16 hS ?_;refine AnyG.tk 17 hS ?_
    refine AnyG.tk 18 hS ?_;refine AnyG.sk 19 hS ?_;refine AnyG.sk 20 hS ?_;refine AnyG.sk 21 hS ?_;refine AnyG.sk 22 hS ?_;refine AnyG.sk 23 hS ?_;refine AnyG.tk 24 hS ?_;refine AnyG.done (by kernel_rfl) ?_ _
    have HBz:=hide hS.2.2;clear hS;go_wp2;go_ret;rw[E.out];exact⟨rfl,HBz.out⟩
   subst d2;by_cases d3:AK=K;rotate_left
   ·have d32:(AK != K)=true:=by simp[d3]
    have E:Hid (Z=false):=by
     show Z=_;rw[hZ.out];refine mOk_no q hi ?_;rw[eL.out,decide_eq_false d3];simp
    clear eL L0;go_wp2
    refine region_g [] (fun w'=>Cel w' wr.heap.size cs 63∧Cel w' w.heap.size [.int .i64 K,.int .i64 N,.slice (some ⟨b,off,none⟩) 8 lc,.slice (some ⟨b2,off2,none⟩) 8 zc] 27∧Below w.heap.size w w') (by kernel_rfl) ?_
    have hS:(fun w'=>Cel w' wr.heap.size cs 63∧Cel w' w.heap.size [.int .i64 K,.int .i64 N,.slice (some ⟨b,off,none⟩) 8 lc,.slice (some ⟨b2,off2,none⟩) 8 zc] 27∧Below w.heap.size w w') w3.drew:=⟨C3h.out.drew,K3.out.drew,HB3.out.drew⟩
    clear C3h K3 HB3;generalize w3.drew=V at *;refine AnyG.tk 0 hS ?_;refine AnyG.tk 1 hS ?_;refine AnyG.tk 2 hS ?_;refine AnyG.tk 3 hS ?_;refine AnyG.tk 4 hS ?_
    refine AnyG.tf 5 hS rfl (fun w0 h0=>by have y0:=h0.2.1.cell 0 rfl;have y1:=h0.2.1.cell 1 rfl;have y3:=h0.2.1.cell 3 rfl;have zq1:=HZq.out w0 h0.2.2;have c0:=h0.1.cell 0 HH.out;go_simp;try with_reducible rfl) ?_
    refine AnyG.tk 6 hS ?_;refine AnyG.tk 7 hS ?_
    refine AnyG.tf 8 hS rfl (fun w0 h0=>by have y0:=h0.2.1.cell 0 rfl;have y1:=h0.2.1.cell 1 rfl;have y3:=h0.2.1.cell 3 rfl;have zq1:=HZq.out w0 h0.2.2;have c0:=h0.1.cell 0 HH.out;go_simp;try with_reducible rfl) ?_
    refine AnyG.tk 9 hS ?_;refine AnyG.tk 10 hS ?_;refine AnyG.tk 11 hS ?_;refine AnyG.tk 12 hS ?_
    refine AnyG.tf 13 hS rfl (fun w0 h0=>by have y0:=h0.2.1.cell 0 rfl;have y1:=h0.2.1.cell 1 rfl;have y3:=h0.2.1.cell 3 rfl;have zq1:=HZq.out w0 h0.2.2;have c0:=h0.1.cell 0 HH.out;go_simp;try with_reducible rfl) ?_
    refine AnyG.tk 14 hS ?_
    refine AnyG.tf 15 hS rfl (fun w0 h0=>by have y0:=h0.2.1.cell 0 rfl;have y1:=h0.2.1.cell 1 rfl;have y3:=h0.2.1.cell 3 rfl;have zq1:=HZq.out w0 h0.2.2;have c0:=h0.1.cell 0 HH.out;go_simp;try with_reducible rfl) ?_
    refine AnyG.tk 16 hS ?_;refine AnyG.tk 17 hS ?_;refine AnyG.tk 18 hS ?_;refine AnyG.sk 19 hS ?_;refine AnyG.sk 20 hS ?_;refine AnyG.sk 21 hS ?_;refine AnyG.sk 22 hS ?_;refine AnyG.sk 23 hS ?_;refine AnyG.tk 24 hS ?_
    refine AnyG.done (by kernel_rfl) ?_ _;have HBz:=hide hS.2.2;clear hS;go_wp2;go_ret;rw[E.out];exact⟨rfl,HBz.out⟩
   have d3':=d3.symm;subst d3';generalize kBN A=M at *;by_cases d4:M=N
   ·have d4':=d4.symm;subst d4';have E:Hid (mlOk x q=true):=by show mlOk x q=true;rw[eL.out];simp
    clear eL L0;go_wp2
    refine region_g [] (fun w'=>Cel w' wr.heap.size cs 63∧Cel w' w.heap.size [.int .i64 K,.int .i64 N,.slice (some ⟨b,off,none⟩) 8 lc,.slice (some ⟨b2,off2,none⟩) 8 zc] 27∧Below w.heap.size w w') (by kernel_rfl) ?_
    have hS:(fun w'=>Cel w' wr.heap.size cs 63∧Cel w' w.heap.size [.int .i64 K,.int .i64 N,.slice (some ⟨b,off,none⟩) 8 lc,.slice (some ⟨b2,off2,none⟩) 8 zc] 27∧Below w.heap.size w w') w3.drew:=⟨C3h.out.drew,K3.out.drew,HB3.out.drew⟩
    clear C3h K3 HB3;generalize w3.drew=V at *;refine AnyG.tk 0 hS ?_;refine AnyG.tk 1 hS ?_;refine AnyG.tk 2 hS ?_;refine AnyG.tk 3 hS ?_;refine AnyG.tk 4 hS ?_
    refine AnyG.tf 5 hS rfl (fun w0 h0=>by have y0:=h0.2.1.cell 0 rfl;have y1:=h0.2.1.cell 1 rfl;have y3:=h0.2.1.cell 3 rfl;have zq1:=HZq.out w0 h0.2.2;have c0:=h0.1.cell 0 HH.out;go_simp;try with_reducible rfl) ?_
    refine AnyG.tk 6 hS ?_;refine AnyG.tk 7 hS ?_
    refine AnyG.tf 8 hS rfl (fun w0 h0=>by have y0:=h0.2.1.cell 0 rfl;have y1:=h0.2.1.cell 1 rfl;have y3:=h0.2.1.cell 3 rfl;have zq1:=HZq.out w0 h0.2.2;have c0:=h0.1.cell 0 HH.out;go_simp;try with_reducible rfl) ?_
    refine AnyG.tk 9 hS ?_;refine AnyG.tk 10 hS ?_;refine AnyG.tk 11 hS ?_;refine AnyG.tk 12 hS ?_
    refine AnyG.tf 13 hS rfl (fun w0 h0=>by have y0:=h0.2.1.cell 0 rfl;have y1:=h0.2.1.cell 1 rfl;have y3:=h0.2.1.cell 3 rfl;have zq1:=HZq.out w0 h0.2.2;have c0:=h0.1.cell 0 HH.out;go_simp;try with_reducible rfl) ?_
    refine AnyG.tk 14 hS ?_
    refine AnyG.tf 15 hS rfl (fun w0 h0=>by have y0:=h0.2.1.cell 0 rfl;have y1:=h0.2.1.cell 1 rfl;have y3:=h0.2.1.cell 3 rfl;have zq1:=HZq.out w0 h0.2.2;have c0:=h0.1.cell 0 HH.out;go_simp;try with_reducible rfl) ?_
    refine AnyG.tk 16 hS ?_;refine AnyG.tk 17 hS ?_;refine AnyG.tk 18 hS ?_
    refine AnyG.take 19 (v:=.agg (cs).toArray) rfl (by kernel_rfl) (by kernel_rfl) (by kernel_rfl) (by kernel_rfl) (fun _ _ _ h=>h) hS (fun w0 h0=>run_load_obj wr.heap.size _ rfl h0.1 Tryz.underlying63 HL.out) (by rfl) ?rest63
    simp only[Act.put,yq0,yq1,yq2,yq3,yq4,yq5];refine AnyG.tk 21 hS ?_
    refine AnyG.tf 22 hS rfl (fun w0 h0=>by have y0:=h0.2.1.cell 0 rfl;have y1:=h0.2.1.cell 1 rfl;have y3:=h0.2.1.cell 3 rfl;have zq1:=HZq.out w0 h0.2.2;have c0:=h0.1.cell 0 HH.out;go_simp;try with_reducible rfl) ?_
    refine AnyG.o1 20 ?_;intro K hK;go_simp;refine(L.out _ hS.2.2).mono ?_;rintro e w4 ⟨rfl,hb⟩;replace hS:=And.intro (hS.1.kept hb) (And.intro (hS.2.1.kept hb) (hS.2.2.trans (hb.mono hS.2.2.size)));clear hb
    refine hK.out _ _ (fun _=>hS) ?_;clear hK K;try simp only[Act.put,yq0,yq1,yq2,yq3,yq4,yq5]
    refine AnyG.tk 23 hS ?_;refine AnyG.tk 24 hS ?_;refine AnyG.done (by kernel_rfl) ?_ _;have K1:=hide hS.2.1;have HB:=hide hS.2.2;clear hS;go_wp2
    refine⟨⟨q+1,by omega,by go_num,?_,K1,HB⟩,by simp only[intOf];omega⟩;intro l hl;by_cases e:l=q
    ·subst e;exact E.out
    ·exact HA.out l (by omega)
   ·have d42:(M != N)=true:=by simp[d4]
    have E:Hid (Z=false):=by
     show Z=_;rw[hZ.out];refine mOk_no q hi ?_;rw[eL.out,decide_eq_false d4];simp
    clear eL L0;go_wp2
    refine region_g [] (fun w'=>Cel w' wr.heap.size cs 63∧Cel w' w.heap.size [.int .i64 K,.int .i64 N,.slice (some ⟨b,off,none⟩) 8 lc,.slice (some ⟨b2,off2,none⟩) 8 zc] 27∧Below w.heap.size w w') (by kernel_rfl) ?_
    have hS:(fun w'=>Cel w' wr.heap.size cs 63∧Cel w' w.heap.size [.int .i64 K,.int .i64 N,.slice (some ⟨b,off,none⟩) 8 lc,.slice (some ⟨b2,off2,none⟩) 8 zc] 27∧Below w.heap.size w w') w3.drew:=⟨C3h.out.drew,K3.out.drew,HB3.out.drew⟩
    clear C3h K3 HB3;generalize w3.drew=V at *;refine AnyG.tk 0 hS ?_;refine AnyG.tk 1 hS ?_;refine AnyG.tk 2 hS ?_;refine AnyG.tk 3 hS ?_;refine AnyG.tk 4 hS ?_
    refine AnyG.tf 5 hS rfl (fun w0 h0=>by have y0:=h0.2.1.cell 0 rfl;have y1:=h0.2.1.cell 1 rfl;have y3:=h0.2.1.cell 3 rfl;have zq1:=HZq.out w0 h0.2.2;have c0:=h0.1.cell 0 HH.out;go_simp;try with_reducible rfl) ?_
    refine AnyG.tk 6 hS ?_;refine AnyG.tk 7 hS ?_
    refine AnyG.tf 8 hS rfl (fun w0 h0=>by have y0:=h0.2.1.cell 0 rfl;have y1:=h0.2.1.cell 1 rfl;have y3:=h0.2.1.cell 3 rfl;have zq1:=HZq.out w0 h0.2.2;have c0:=h0.1.cell 0 HH.out;go_simp;try with_reducible rfl) ?_
    refine AnyG.tk 9 hS ?_;refine AnyG.tk 10 hS ?_;refine AnyG.tk 11 hS ?_;refine AnyG.tk 12 hS ?_
    refine AnyG.tf 13 hS rfl (fun w0 h0=>by have y0:=h0.2.1.cell 0 rfl;have y1:=h0.2.1.cell 1 rfl;have y3:=h0.2.1.cell 3 rfl;have zq1:=HZq.out w0 h0.2.2;have c0:=h0.1.cell 0 HH.out;go_simp;try with_reducible rfl) ?_
    refine AnyG.tk 14 hS ?_
    refine AnyG.tf 15 hS rfl (fun w0 h0=>by have y0:=h0.2.1.cell 0 rfl;have y1:=h0.2.1.cell 1 rfl;have y3:=h0.2.1.cell 3 rfl;have zq1:=HZq.out w0 h0.2.2;have c0:=h0.1.cell 0 HH.out;go_simp;try with_reducible rfl) ?_
    refine AnyG.tk 16 hS ?_;refine AnyG.tk 17 hS ?_;refine AnyG.tk 18 hS ?_
    refine AnyG.take 19 (v:=.agg (cs).toArray) rfl (by kernel_rfl) (by kernel_rfl) (by kernel_rfl) (by kernel_rfl) (fun _ _ _ h=>h) hS (fun w0 h0=>run_load_obj wr.heap.size _ rfl h0.1 Tryz.underlying63 HL.out) (by rfl) ?rest87
    simp only[Act.put,yq0,yq1,yq2,yq3,yq4,yq5];refine AnyG.tk 21 hS ?_
    refine AnyG.tf 22 hS rfl (fun w0 h0=>by have y0:=h0.2.1.cell 0 rfl;have y1:=h0.2.1.cell 1 rfl;have y3:=h0.2.1.cell 3 rfl;have zq1:=HZq.out w0 h0.2.2;have c0:=h0.1.cell 0 HH.out;go_simp;try with_reducible rfl) ?_
    refine AnyG.o1 20 ?_;intro K hK;go_simp;refine(L.out _ hS.2.2).mono ?_;rintro e w4 ⟨rfl,hb⟩;replace hS:=And.intro (hS.1.kept hb) (And.intro (hS.2.1.kept hb) (hS.2.2.trans (hb.mono hS.2.2.size)));clear hb
    refine hK.out _ _ (fun _=>hS) ?_;clear hK K;try simp only[Act.put,yq0,yq1,yq2,yq3,yq4,yq5]
    refine AnyG.tk 23 hS ?_;refine AnyG.tk 24 hS ?_;refine AnyG.done (by kernel_rfl) ?_ _;have HBz:=hide hS.2.2;clear hS;go_wp2;go_ret;rw[E.out];exact⟨rfl,HBz.out⟩
  ·obtain rfl:q=8:=by omega
   have E:Hid (Z=true):=by
    show Z=_;rw[hZ.out];exact mOk_yes (by rw[←hN.out];exact q1) hm.out.symm hz.out.symm HA.out
   go_wp2;go_ret;rw[E.out];exact⟨rfl,HB.out⟩
theorem kB_Km(k N:Int)(xs:List Nat)(h:kE k N xs=0):(kB k N xs).K=k:=by
 unfold kB;rw[if_pos h]
def mRx(k:Int)(t:List Nat):MR:=⟨k,(t.length:Int),mA k t,mI (mZ t)⟩
theorem chk_m{t:List Nat}(hn:t.length≤3000)(l:Nat):chk (t.length:Int) (frL (Mx.rw_ t l))=true:=by
 have:=chk_rowOf (Mx.rw_ t l).length (bt (Mx.rw_ t l)) (by rw[Mx.length_rw];omega);rw[Mx.length_rw]at this;unfold frL;rw[Mx.length_rw];exact this
theorem mok_T{k:Int}(hk:1≤k∧k≤3){t:List Nat}(hn:t.length≤3000):mOk (mRx k t)=true:=by
 refine mOk_yes (by show(t.length:Int)≤8192;omega) (mA_len k t) (by show(mI (mZ t)).length=8;rw[len_mI,mZ_len]) fun l hl=>?_;have e:mrw (mRx k t) l=kB k (t.length:Int) (frL (Mx.rw_ t l)):=mA_get k t hl
 have r:=m_rank hk hn l false (Nat.le_refl _) (mrw (mRx k t) l) e;have eK:(mrw (mRx k t) l).K=k:=by rw[e];exact kB_Km k _ _ (kE_ok k _ _ hk.1 hk.2 (chk_m hn l))
 have eN:kBN (mrw (mRx k t) l)=(t.length:Int):=by rw[e];exact(kB_M hk hn l).2.1
 have eZ:gi (mRx k t).zs l=(Mx.zs t l:Int):=by
  show gi (mI (mZ t)) l=_;rw[gi_mI _ _ (by rw[mZ_len];exact hl),mZ_get t hl]
 unfold mlOk;rw[eZ,eK,eN]
 show(decide (grE (kOk (mrw (mRx k t) l)) (t.length:Int) (t.length:Int)=0)&&(decide (grN (kOk (mrw (mRx k t) l)) (t.length:Int) (kBX (mrw (mRx k t) l)) false (t.length:Int)=(Mx.zs t l:Int))&&(decide (k=k)&&decide ((t.length:Int)=(t.length:Int)))))=true
 rw[eN]at r;rw[r.1,r.2];unfold Mx.zs;rw[Mx.length_rw];simp
theorem MX.mi{w:World}{k:Int}{t:List Nat}{lo:Option Addr}{lc:Nat}{zo:Option Addr}{zc:Nat}(h:MX w [.int .i64 k,.int .i64 (t.length:Int),.slice lo 8 lc,.slice zo 8 zc] k t):MI w lo lc zo zc (mRx k t):=by
 have h0:=h;obtain⟨⟨lo',lc',zo',zc',e,h1,h2⟩,hk,hn,hB,G⟩:=h;simp only[List.cons.injEq,Value.slice.injEq,true_and,and_true]at e;obtain⟨⟨rfl,rfl⟩,rfl,rfl⟩:=e;refine⟨?_,?_,h1,h2,?_,?_,G⟩
 ·show I64 k;unfold I64;omega
 ·show I64 (t.length:Int);unfold I64;omega
 ·show(mA k t).length≤_;rw[mA_len];omega
 ·show(mI (mZ t)).length≤_;rw[len_mI,mZ_len];omega
theorem MX.check{w:World}{cs:List Value}{k:Int}{t:List Nat}(h:MX w cs k t):Calls Tryz.prog 20 #[.agg cs.toArray] w fun e w'=>e=.returned (.bool true)∧Below w.heap.size w w':=by
 have h0:=h;obtain⟨⟨lo,lc,zo,zc,rfl,h1,h2⟩,hk,hn,hB,G⟩:=h;have:=mcheck_c lo lc zo zc (mRx k t) w h0.mi;rw[mok_T hk hn]at this;have e1:(mRx k t).av.length=8:=mA_len k t
 have e2:(mRx k t).zs.length=8:=by show(mI (mZ t)).length=8;rw[len_mI,mZ_len]
 rw[e1,e2]at this;exact this
theorem or8_all:∀a b:Fin 256,bits .or .u8 (a.val:Int) (b.val:Int)=((a.val|||b.val:Nat):Int):=by decide +kernel
theorem or8m(a b:Nat)(ha:a<256)(hb:b<256):bits .or .u8 (a:Int) (b:Int)=((a|||b:Nat):Int):=or8_all ⟨a,ha⟩ ⟨b,hb⟩
theorem mrank_c(cs:List Value)(k:Int)(t:List Nat)(c:Nat)(i:Int)(w:World)(h:MX w cs k t)(hc:c<256)(hi:I64 i):
  Calls Tryz.prog 10 #[.agg cs.toArray,.int .u8 (c:Int),.int .i64 i] w fun e w'=>e=.returned (.tuple #[.int .i64 (srN t c i),.int .i64 (srE t i)])∧Below w.heap.size w w':=by
 have hB:=h.by_;obtain⟨EE,hEE⟩:∃EE,Hid (EE=srE t i):=⟨_,rfl⟩;obtain⟨NN,hNN⟩:∃NN,Hid (NN=srN t c i):=⟨_,rfl⟩;rw[←hEE.out,←hNN.out];have HMX:=hide h;have hkn:=h.kn;have hle:=h.le
 obtain⟨⟨lo,lc,zo,zc,rfl,_,_⟩,_,_,_,_⟩:=h;obtain⟨W,hW⟩:∃W,W=w.alloc (.cells #[.int .i64 k,.int .i64 (t.length:Int),.slice lo 8 lc,.slice zo 8 zc] 27):=⟨_,rfl⟩;have bW:=yb1 hW
 have B1:=hide (show Cel W w.heap.size [.int .i64 k,.int .i64 (t.length:Int),.slice lo 8 lc,.slice zo 8 zc] 27 by rw[hW];exact Cel.new w _ _);have HB:=hide bW;have HM1:=hide (HMX.out.keep bW);clear bW HMX
 have C0:=hide (HM1.out.check);go_enter Tryz.func10,Tryz.ntmps10;go_wp2_with fail;rw[←hW];refine C0.out.mono ?_;rintro e w1 ⟨rfl,hb⟩;have K1:=hide (B1.out.kept hb);have HM:=hide (HM1.out.keep hb)
 have HBa:=hide (HB.out.trans (hb.mono HB.out.size));clear hb C0 B1 HM1 HB hW;have y1:=K1.out.cell 1 rfl;by_cases hbad:i<0∨(t.length:Int)<i
 ·have e1:srE t i=3:=if_pos hbad;obtain rfl:EE=3:=hEE.out.trans e1;obtain rfl:NN=0:=by rw[hNN.out];unfold srN;rw[if_neg (by rw[e1];decide)]
  by_cases h0:i<0
  ·clear hbad e1;go_wp2;go_ret2;exact⟨rfl,HBa.out⟩
  ·have h1:(t.length:Int)<i:=by omega
   have h00:(0:Int)≤i:=by omega
   clear hbad e1;go_wp2;go_ret2;exact⟨rfl,HBa.out⟩
 ·obtain⟨i,rfl⟩:=Int.eq_ofNat_of_zero_le (show 0≤i by omega);have hin:i≤t.length:=by omega
  obtain⟨e1,e2⟩:=sr_in (t:=t) c hin;obtain rfl:EE=0:=hEE.out.trans e1;obtain⟨n,hn⟩:∃n,Hid (n=Sh.cp (fun d=>decide (d=c)) t i):=⟨_,rfl⟩
  have eNN:Hid (NN=(n:Int)):=by show NN=_;rw[hNN.out,e2,hn.out]
  have hr:=Mx.rank8 hB hc hin;have C:=hide (malike_c _ k t c i w1 HM.out hc hin);have lu:=Mx.lw_le t c 8;have cl:=cp_le' t c i;rw[hr,←hn.out]at C;rw[←hn.out]at cl;generalize Mx.lw_ t c 8=L at *
  have h0:¬(i:Int)<0:=by omega
  have h1:¬(t.length:Int)<(i:Int):=by omega
  obtain⟨U,hU⟩:∃U,Hid (U=L+n):=⟨_,rfl⟩;rw[←hU.out]at C;have eU:IntKind.i64.wrap ((U:Int)-(L:Int))=(n:Int):=by rw[hU.out,IntKind.wrap_i64];omega
  have eU2:wrap64 ((U:Int)-(L:Int))=(n:Int):=by rw[hU.out];unfold wrap64;omega
  have hUl:U≤6000:=by rw[hU.out];omega
  have y0:=K1.out.cell 0 rfl;have y2:=K1.out.cell 2 rfl;have y3:=K1.out.cell 3 rfl;clear hbad e1 e2 hr hU;go_wp2_with fail;refine C.out.mono ?_;rintro e w2 ⟨rfl,hb⟩;have HBb:=hide (HBa.out.trans (hb.mono HBa.out.size))
  clear hb C HBa K1 HM y0 y1 y2 y3;go_wp2;go_ret2;exact⟨by rw[eNN.out];rfl,HBb.out⟩
theorem maccess_c(cs:List Value)(k:Int)(t:List Nat)(i:Int)(w:World)(h:MX w cs k t)(hi:I64 i):
  Calls Tryz.prog 9 #[.agg cs.toArray,.int .i64 i] w fun e w'=>e=.returned (.tuple #[.int .u8 (saC t i:Int),.int .i64 (saE t i)])∧Below w.heap.size w w':=by
 have hB:=h.by_;obtain⟨EE,hEE⟩:∃EE,Hid (EE=saE t i):=⟨_,rfl⟩;obtain⟨NN,hNN⟩:∃NN,Hid (NN=saC t i):=⟨_,rfl⟩;rw[←hEE.out,←hNN.out];have HMX:=hide h;have hkn:=h.kn;have hle:=h.le
 obtain⟨⟨lo,lc,zo,zc,rfl,_,_⟩,_,_,_,_⟩:=h;obtain⟨W,hW⟩:∃W,W=w.alloc (.cells #[.int .i64 k,.int .i64 (t.length:Int),.slice lo 8 lc,.slice zo 8 zc] 27):=⟨_,rfl⟩;have bW:=yb1 hW
 have B1:=hide (show Cel W w.heap.size [.int .i64 k,.int .i64 (t.length:Int),.slice lo 8 lc,.slice zo 8 zc] 27 by rw[hW];exact Cel.new w _ _);have HB:=hide bW;have HM1:=hide (HMX.out.keep bW);clear bW HMX
 have C0:=hide (HM1.out.check);go_enter Tryz.func9,Tryz.ntmps9;go_wp2_with fail;rw[←hW];refine C0.out.mono ?_;rintro e w1 ⟨rfl,hb⟩;have K1:=hide (B1.out.kept hb);have HM:=hide (HM1.out.keep hb)
 have HBa:=hide (HB.out.trans (hb.mono HB.out.size));clear hb C0 B1 HM1 HB hW;have y1:=K1.out.cell 1 rfl;by_cases hbad:i<0∨(t.length:Int)≤i
 ·have e1:saE t i=3:=if_pos hbad;obtain rfl:EE=3:=hEE.out.trans e1;obtain rfl:NN=0:=by rw[hNN.out];unfold saC;rw[if_neg (by rw[e1];decide)]
  by_cases h0:i<0
  ·clear hbad e1;go_wp2;go_ret2;exact⟨rfl,HBa.out⟩
  ·have h1:(t.length:Int)≤i:=by omega
   have h2:¬i<(t.length:Int):=by omega
   have h00:(0:Int)≤i:=by omega
   clear hbad e1;go_wp2;go_ret2;exact⟨rfl,HBa.out⟩
 ·obtain⟨j,rfl⟩:=Int.eq_ofNat_of_zero_le (show 0≤i by omega);have hin:j<t.length:=by omega
  obtain⟨e1,e2⟩:=sa_in (t:=t) hin;obtain rfl:EE=0:=hEE.out.trans e1;have e3:NN=gt t j:=hNN.out.trans e2;have h0:¬(j:Int)<0:=by omega
  have h1:¬(t.length:Int)≤(j:Int):=by omega
  have h2:(j:Int)<(t.length:Int):=by omega
  have dl:decide (t.length≤j)=false:=decide_eq_false (by omega);have hcj:=hB j;obtain⟨C,hC⟩:∃C,Hid (C=gt t j):=⟨_,rfl⟩;have hC8:C<256:=by rw[hC.out];exact hcj
  have e4:C=NN:=hC.out.trans e3.symm;subst e4;have HT0:Hid ((0:Nat)=Mx.top 0 C):=(Mx.top_zero hC8).symm
  have HCW:Hid (∀l w0,l<8→Calls Tryz.prog 30 #[.int .i64 (l:Nat)] w0 fun e w'=>e=.returned (.int .u8 ((2^(7-l):Nat):Int))∧w'=w0):=fun l w0 hl=>mwgt_c l hl w0
  have HCB:Hid (∀l b i w0,l<8→i≤t.length→MX w0 [.int .i64 k,.int .i64 (t.length:Int),.slice lo 8 lc,.slice zo 8 zc] k t→Calls Tryz.prog 31 #[.agg #[.int .i64 k,.int .i64 (t.length:Int),.slice lo 8 lc,.slice zo 8 zc],.int .i64 (l:Nat),.bool b,.int .i64 (i:Nat)] w0 fun e w'=>e=.returned (.int .i64 (Mx.be t l b i:Nat))∧Below w0.heap.size w0 w'):=fun l b i w0 hl hi h=>mbelow_c _ k t l b i w0 h hl hi
  clear hbad e1 e2 hEE hNN e3;go_wp2
  go_loopw [1,6,21] (fun vj vc vl wr=>∃l:Nat,l≤8∧vl=.int .i64 l∧vj=.int .i64 (Mx.pos t j l:Nat)∧vc=.int .u8 (Mx.top l C:Nat)∧Hid (Cel wr w.heap.size [.int .i64 k,.int .i64 (t.length:Int),.slice lo 8 lc,.slice zo 8 zc] 27)∧Hid (MX wr [.int .i64 k,.int .i64 (t.length:Int),.slice lo 8 lc,.slice zo 8 zc] k t)∧Hid (Below w.heap.size w wr)) (fun _ _ vl _=>8-(intOf vl).toNat)
  case atStart=>exact⟨0,Nat.zero_le _,rfl,rfl,by rw[←HT0.out];rfl,K1,HM,HBa⟩
  case round=>
   clear K1 HM HBa y1;obtain⟨l,hl,rfl,rfl,rfl,K1,HM,HB⟩:=hrel;have hp:=Mx.pos_lt hin l;by_cases hlt:l<8
   ·have hltz:(l:Int)<8:=by omega
    obtain⟨rb,ro,rs,erb,hrb,hrg,hki⟩:=HM.out.row hlt;obtain⟨A,hA⟩:∃A,A=kB k (t.length:Int) (frL (Mx.rw_ t l)):=⟨_,rfl⟩;rw[←hA]at hki
    have CA:=hide (access_k rs A (Mx.pos t j l:Nat) wr hki (by unfold I64;omega));rw[m_acc hkn hle l hin A hA,←hC.out]at CA
    obtain⟨EE,hEE⟩:∃EE,Hid (EE=gaE (kOk A) (kBN A) (kBX A) (Mx.pos t j l:Nat)):=⟨_,rfl⟩;rw[←hEE.out]at CA;have HL:=hide hki.arg.len;have HR:=hide hrg
    have Ep:Hid (Mx.pos t j (l+1)=Mx.be t l (Mx.tb l C) (Mx.pos t j l)):=by rw[hC.out];exact rfl
    have CB:=hide (fun w0 h=>HCB.out l (Mx.tb l C) (Mx.pos t j l) w0 hlt (Nat.le_of_lt hp) h);rw[←Ep.out]at CB;have CW:=hide (fun w0=>HCW.out l w0 hlt);have T1:=hide (fun h=>Mx.top_on hC8 hlt h)
    have T2:=hide (fun h=>Mx.top_off hC8 hlt h);have tl:=Mx.top_lt (l:=l) hC8;have hw2:(2:Nat)^(7-l)≤128:=Nat.le_trans (Nat.pow_le_pow_right (by decide) (show 7-l≤7 by omega)) (by decide)
    obtain⟨P1,hP1⟩:∃P1,Hid (P1=Mx.pos t j (l+1)):=⟨_,rfl⟩;rw[←hP1.out]at CB;generalize Mx.pos t j l=P at *;obtain⟨T',hT'⟩:∃T',Hid (T'=Mx.top (l+1) C):=⟨_,rfl⟩;rw[←hT'.out]at T1 T2
    generalize Mx.top l C=TT at *;generalize Mx.tb l C=bb at *;have H8:=hide (or8m TT (2^(7-l)) tl (by omega));generalize (2:Nat)^(7-l)=WW at *;subst erb;have y2:=K1.out.cell 2 rfl
    clear hki hA hrg Ep hEE HCB HCW;go_wp2_with (refine load_part rb (ro+l*22) rs (by rfl) rfl HR.out Tryz.underlying63 HL.out ?_);refine CA.out.mono ?_;rintro e w2 ⟨rfl,hb⟩;have K2:=hide (K1.out.kept hb)
    have HM2:=hide (HM.out.keep hb);have HB2:=hide (HB.out.trans (hb.mono HB.out.size));clear hb CA K1 HM HB HR y2;have z0:=K2.out.cell 0 rfl;have z1:=K2.out.cell 1 rfl;have z2:=K2.out.cell 2 rfl
    have z3:=K2.out.cell 3 rfl;cases bb with
    | true=>
     have e5:=T1.out rfl;go_wp2_with fail;refine(CW.out _).mono ?_;rintro e w3 ⟨rfl,h3⟩;rw[h3];clear h3 CW T1 T2;have H8':=H8.out;rw[e5]at H8';clear H8 e5;go_wp2_with fail;refine(CB.out _ HM2.out).mono ?_
     rintro e w4 ⟨rfl,hb⟩;have K3:=hide (K2.out.kept hb);have HM3:=hide (HM2.out.keep hb);have HB3:=hide (HB2.out.trans (hb.mono HB2.out.size));clear hb CB K2 HM2 HB2 z0 z1 z2 z3;go_wp2
     exact⟨⟨l+1,by omega,by go_num,by rw[hP1.out],by rw[hT'.out],K3,HM3,HB3⟩,by simp only[intOf];omega⟩
    | false=>
     have e5:=T2.out rfl;subst e5;clear T1 T2 CW H8;go_wp2_with fail;refine(CB.out _ HM2.out).mono ?_;rintro e w4 ⟨rfl,hb⟩;have K3:=hide (K2.out.kept hb);have HM3:=hide (HM2.out.keep hb)
     have HB3:=hide (HB2.out.trans (hb.mono HB2.out.size));clear hb CB K2 HM2 HB2 z0 z1 z2 z3;go_wp2;exact⟨⟨l+1,by omega,by go_num,by rw[hP1.out],by rw[hT'.out],K3,HM3,HB3⟩,by simp only[intOf];omega⟩
   ·obtain rfl:l=8:=by omega
    rw[Mx.top_eight];clear HCB HCW;go_wp2;go_ret2;exact⟨rfl,HB.out⟩
theorem mselect_c(cs:List Value)(k:Int)(t:List Nat)(c:Nat)(K:Int)(w:World)(h:MX w cs k t)(hc:c<256)(hK:I64 K):
  Calls Tryz.prog 18 #[.agg cs.toArray,.int .u8 (c:Int),.int .i64 K] w fun e w'=>e=.returned (.tuple #[.int .i64 (ssN t c K),.int .i64 (ssE t c K)])∧Below w.heap.size w w':=by
 have hB:=h.by_;obtain⟨EE,hEE⟩:∃EE,Hid (EE=ssE t c K):=⟨_,rfl⟩;obtain⟨NN,hNN⟩:∃NN,Hid (NN=ssN t c K):=⟨_,rfl⟩;rw[←hEE.out,←hNN.out];have HMX:=hide h;have hkn:=h.kn;have hle:=h.le
 obtain⟨⟨lo,lc,zo,zc,rfl,_,_⟩,_,_,_,_⟩:=h;obtain⟨W,hW⟩:∃W,W=w.alloc (.cells #[.int .i64 k,.int .i64 (t.length:Int),.slice lo 8 lc,.slice zo 8 zc] 27):=⟨_,rfl⟩;have bW:=yb1 hW
 have B1:=hide (show Cel W w.heap.size [.int .i64 k,.int .i64 (t.length:Int),.slice lo 8 lc,.slice zo 8 zc] 27 by rw[hW];exact Cel.new w _ _);have HB:=hide bW;have HM1:=hide (HMX.out.keep bW);clear bW HMX
 have C0:=hide (HM1.out.check);go_enter Tryz.func18,Tryz.ntmps18;go_wp2_with fail;rw[←hW];refine C0.out.mono ?_;rintro e w1 ⟨rfl,hb⟩;have K1:=hide (B1.out.kept hb);have HM:=hide (HM1.out.keep hb)
 have HBa:=hide (HB.out.trans (hb.mono HB.out.size));clear hb C0 B1 HM1 HB hW;have y1:=K1.out.cell 1 rfl;have hr:=Mx.rank8 hB hc (Nat.le_refl t.length);have C:=hide (malike_c _ k t c t.length w1 HM.out hc (Nat.le_refl _))
 have lu:=Mx.lw_le t c 8;have cl:=cp_le' t c t.length;rw[hr]at C;obtain⟨M,hM⟩:∃M,Hid (M=Sh.cp (fun d=>decide (d=c)) t t.length):=⟨_,rfl⟩;obtain⟨L,hLe⟩:∃L,Hid (L=Mx.lw_ t c 8):=⟨_,rfl⟩
 rw[←hM.out,←hLe.out]at C;rw[←hM.out]at cl;rw[←hLe.out]at lu;obtain⟨U,hU⟩:∃U,Hid (U=L+M):=⟨_,rfl⟩;rw[←hU.out]at C
 have eU:IntKind.i64.wrap ((U:Int)-(L:Int))=(M:Int):=by rw[hU.out,IntKind.wrap_i64];omega
 have eU2:wrap64 ((U:Int)-(L:Int))=(M:Int):=by rw[hU.out];unfold wrap64;omega
 have hUl:U≤6000:=by rw[hU.out];omega
 have y0:=K1.out.cell 0 rfl;have y2:=K1.out.cell 2 rfl;have y3:=K1.out.cell 3 rfl;clear hr hU;go_wp2_with fail;refine C.out.mono ?_;rintro e w2 ⟨rfl,hb⟩;have K2:=hide (K1.out.kept hb);have HM2:=hide (HM.out.keep hb)
 have HBb:=hide (HBa.out.trans (hb.mono HBa.out.size));clear hb C HBa K1 HM y0 y1 y2 y3;by_cases hk:0≤K∧K<(M:Int);rotate_left
 ·obtain⟨e1,e2⟩:=ss_out (t:=t) (c:=c) (K:=K) (by rw[←hM.out];exact hk);obtain rfl:EE=3:=hEE.out.trans e1;obtain rfl:NN=0:=hNN.out.trans e2;by_cases h0:K<0
  ·clear hk e1 e2;go_wp2;go_ret2;exact⟨rfl,HBb.out⟩
  ·have h1:(M:Int)≤K:=by omega
   have h2:¬K<(M:Int):=by omega
   have h00:(0:Int)≤K:=by omega
   clear hk e1 e2;go_wp2;go_ret2;exact⟨rfl,HBb.out⟩
 ·obtain⟨K,rfl⟩:=Int.eq_ofNat_of_zero_le hk.1;have hkM:K<M:=by omega
  obtain⟨p,hpl,hpc,hpk,e1,e2⟩:=ss_in (t:=t) (c:=c) (K:=K) (by rw[←hM.out];exact hkM)
  have hs:=Mx.sel8 hB hc (k:=K) (p:=p) (by
   have:=Sh.mem_at (fun d=>decide (d=c)) t p t.length hpl (decide_eq_true hpc);rw[hpk]at this
   exact this)
  obtain rfl:EE=0:=hEE.out.trans e1;obtain rfl:NN=(p:Int):=hNN.out.trans e2;have hLK:Hid (L+K=Mx.pos t p 8):=by rw[hLe.out];exact hs.2.2
  have h0:¬(K:Int)<0:=by omega
  have h1:¬(M:Int)≤(K:Int):=by omega
  have h2:(K:Int)<(M:Int):=by omega
  have dl:decide (M≤K)=false:=decide_eq_false (by omega);have dl2:decide (K<M)=true:=decide_eq_true (by omega)
  have CB:Hid (∀l w0,l<8→Calls Tryz.prog 25 #[.int .u8 (c:Nat),.int .i64 (l:Nat)] w0 fun e w'=>e=.returned (.bool (Mx.tb l c))∧w'=w0):=fun l w0 hl=>mbitOf_c c l hc hl w0
  have CU:Hid (∀l w0,l<8→MX w0 [.int .i64 k,.int .i64 (t.length:Int),.slice lo 8 lc,.slice zo 8 zc] k t→Calls Tryz.prog 43 #[.agg #[.int .i64 k,.int .i64 (t.length:Int),.slice lo 8 lc,.slice zo 8 zc],.int .i64 (l:Nat),.bool (Mx.tb l c),.int .i64 (Mx.pos t p (l+1):Nat)] w0 fun e w'=>e=.returned (.int .i64 (Mx.pos t p l:Nat))∧Below w0.heap.size w0 w'):=fun l w0 hl h=>by
   have:=mabove_c _ k t l p w0 h hl hpl;rw[hpc]at this;exact this
  have hp8:=Mx.pos_lt hpl 8;have m5:L+K≤3000:=by rw[hLK.out];omega
  clear hk e1 e2 hs hpk hpc;go_wp2
  go_loopw [10,11] (fun vp vl wr=>∃l:Nat,l≤8∧vl=.int .i64 ((l:Int)-1)∧vp=.int .i64 (Mx.pos t p l:Nat)∧Hid (Cel wr w.heap.size [.int .i64 k,.int .i64 (t.length:Int),.slice lo 8 lc,.slice zo 8 zc] 27)∧Hid (MX wr [.int .i64 k,.int .i64 (t.length:Int),.slice lo 8 lc,.slice zo 8 zc] k t)∧Hid (Below w.heap.size w wr)) (fun _ vl _=>(intOf vl+1).toNat)
  case atStart=>exact⟨8,Nat.le_refl _,rfl,by rw[←hLK.out];rfl,K2,HM2,HBb⟩
  case round=>
   clear K2 HM2 HBb;obtain⟨l,hl,rfl,rfl,K1,HM,HB⟩:=hrel;by_cases hlt:0<l
   ·obtain⟨l,rfl⟩:∃l',l=l'+1:=⟨l-1,by omega⟩;have el:((l+1:Nat):Int)-1=(l:Int):=by omega
    rw[el];have hltz:(0:Int)≤(l:Int):=by omega
    have CBl:=hide (fun w0=>CB.out l w0 (by omega));have CUl:=hide (fun w0 h=>CU.out l w0 (by omega) h);obtain⟨P,hP⟩:∃P,Hid (P=Mx.pos t p l):=⟨_,rfl⟩
    obtain⟨P1,hP1⟩:∃P1,Hid (P1=Mx.pos t p (l+1)):=⟨_,rfl⟩;have hPl:P1≤3000:=by rw[hP1.out];have:=Mx.pos_lt hpl (l+1);omega
    rw[←hP.out,←hP1.out]at CUl;rw[←hP1.out];generalize Mx.tb l c=bb at *;clear CB CU el;go_wp2
    refine region_g [] (fun w'=>Cel w' w.heap.size [.int .i64 k,.int .i64 (t.length:Int),.slice lo 8 lc,.slice zo 8 zc] 27∧MX w' [.int .i64 k,.int .i64 (t.length:Int),.slice lo 8 lc,.slice zo 8 zc] k t∧Below w.heap.size w w') (by kernel_rfl) ?_
    have hS:(fun w'=>Cel w' w.heap.size [.int .i64 k,.int .i64 (t.length:Int),.slice lo 8 lc,.slice zo 8 zc] 27∧MX w' [.int .i64 k,.int .i64 (t.length:Int),.slice lo 8 lc,.slice zo 8 zc] k t∧Below w.heap.size w w') wr.drew:=⟨K1.out.drew,HM.out.keep ((Below.refl _ _).drew),HB.out.drew⟩
    clear K1 HM HB;generalize wr.drew=V at *
    refine AnyG.tf 0 hS rfl (fun w0 h0=>by have y0:=h0.1.cell 0 rfl;have y1:=h0.1.cell 1 rfl;have y2:=h0.1.cell 2 rfl;have y3:=h0.1.cell 3 rfl;go_simp;try with_reducible rfl) ?_;refine AnyG.tk 1 hS ?_
    refine AnyG.tk 2 hS ?_;refine AnyG.tk 3 hS ?_;refine AnyG.tk 5 hS ?_;refine AnyG.o1 4 ?_;intro K hK;go_simp;refine(CBl.out _).mono ?_;rintro e w3 ⟨rfl,h3⟩;rw[h3];clear h3;refine hK.out _ _ (fun _=>hS) ?_;clear hK K
    try simp only[Act.put,yq0,yq1,yq2,yq3,yq4,yq5]
    refine AnyG.o1 6 ?_;intro K hK;go_simp;refine(CUl.out _ hS.2.1).mono ?_;rintro e w4 ⟨rfl,hb⟩;replace hS:=And.intro (hS.1.kept hb) (And.intro (hS.2.1.keep hb) (hS.2.2.trans (hb.mono hS.2.2.size)));clear hb
    refine hK.out _ _ (fun _=>hS) ?_;clear hK K;try simp only[Act.put,yq0,yq1,yq2,yq3,yq4,yq5]
    refine AnyG.tk 7 hS ?_;refine AnyG.done (by kernel_rfl) ?_ _;have K1:=hide hS.1;have HM:=hide hS.2.1;have HB:=hide hS.2.2;clear hS CBl CUl;go_wp2
    exact⟨⟨l,by omega,by go_num,by rw[hP.out],K1,HM,HB⟩,by simp only[intOf];omega⟩
   ·obtain rfl:l=0:=by omega
    have e0:Mx.pos t p 0=p:=rfl;rw[e0];go_wp2;go_ret2;exact⟨rfl,HB.out⟩
end Go.Proofs.YtleegaihbgbcjabGreatDoor
namespace Go.Proofs.YtleegaihbgbcjabGreatDoor
open Go.RowKit
namespace Ag
theorem wp_append{o:Oper}{a:Act}{w:World}{K:Act→World→Prop}{Q:Exit→Act→World→Prop}(s x:Operand)(t:TypeId)
  (ho:o.op=.call { callee:=.builtin .append,args:=#[s,x],argTypes:=#[t,t] })
  (base:Nat) (e:TypeId) (i:TypeInfo) (z:Value) (size bytes:Nat) (ht:Tryz.prog.underlying t=some (.slice e)) (hi:Tryz.prog.info? e=some i) (hz:i.zero=some z)
  (hsize:i.size=size) (hby:i.bytes=bytes) (hzs:z.cells.size=size) (hsz:0<size)
  (v:Value) (n:Nat) (vs:List Value) (hs:a.eval s=v) (hown:w.ownsRow base e size v n vs)
  (ad:Addr) (m c:Nat) (news:List Value) (hx:a.eval x=.slice (some ad) m c) (hl:news.length=m*size) (hm:0<m) (hsrc:∀j u,news[j]?=some u→w.cell? (ad.add j)=some u) (h1:∀u∈news,u.oneCell'=true)
  (h63:n+m≤maxLen) (hbytes:(n+m)*bytes≤140737488355328) (hbase:base≤w.heap.size)
  (h:∀g cap w',w'.ownsRow base e size (.slice (some ⟨g,0,none⟩) (n+m) cap) (n+m) (vs++news)→Below base w w'→(v.ownBlock=some g∨g=w.heap.size)→g<w'.heap.size→(∀k,k<w.heap.size→v.ownBlock≠some k→w'.heap[k]?=w.heap[k]?)→w.heap.size≤w'.heap.size→K (a.put o.dst (.slice (some ⟨g,0,none⟩) (n+m) cap)) w'):
  Oper.wp Tryz.prog o a w K Q:=by
 refine wp_append_lies w s x t ho base e i z size bytes ht hi hz hsize hby hzs hsz v n vs hs hown ad m c news hx hl hsrc h1 hm h63 hbytes hbase w.heap.size rfl ?_;intro g cap w' o1 o2 o3 o4;refine h g cap w' o1 ?_ o3 o4 ?_ o2.size
 ·exact(Below.refl _ _).grown o2 hbase (fun k hk=>(hown.lt k hk).1)
 ·intro k hk hne;exact o2.block k hk (fun q=>hne q.symm)
theorem wpList_append{ops:Array Oper}{rest:List Oper}{o:Oper}{a:Act}{w:World}{Q:Exit→Act→World→Prop}(hgd:o.guard=none)(s x:Operand)(t:TypeId)
  (ho:o.op=.call { callee:=.builtin .append,args:=#[s,x],argTypes:=#[t,t] })
  (base:Nat) (e:TypeId) (i:TypeInfo) (z:Value) (size bytes:Nat) (ht:Tryz.prog.underlying t=some (.slice e)) (hi:Tryz.prog.info? e=some i) (hz:i.zero=some z)
  (hsize:i.size=size) (hby:i.bytes=bytes) (hzs:z.cells.size=size) (hsz:0<size)
  (v:Value) (n:Nat) (vs:List Value) (hs:a.eval s=v) (hown:w.ownsRow base e size v n vs)
  (ad:Addr) (m c:Nat) (news:List Value) (hx:a.eval x=.slice (some ad) m c) (hl:news.length=m*size) (hm:0<m) (hsrc:∀j u,news[j]?=some u→w.cell? (ad.add j)=some u) (h1:∀u∈news,u.oneCell'=true)
  (h63:n+m≤maxLen) (hbytes:(n+m)*bytes≤140737488355328) (hbase:base≤w.heap.size)
  (h:∀g cap w',w'.ownsRow base e size (.slice (some ⟨g,0,none⟩) (n+m) cap) (n+m) (vs++news)→Below base w w'→(v.ownBlock=some g∨g=w.heap.size)→g<w'.heap.size→(∀k,k<w.heap.size→v.ownBlock≠some k→w'.heap[k]?=w.heap[k]?)→w.heap.size≤w'.heap.size→wpList Tryz.prog ops Q rest (a.put o.dst (.slice (some ⟨g,0,none⟩) (n+m) cap)) w'):
  wpList Tryz.prog ops Q (o::rest) a w:=
 wpList_plain hgd fun K hK=>wp_append s x t ho base e i z size bytes ht hi hz hsize hby hzs hsz v n vs hs hown ad m c news hx hl hm hsrc h1 h63 hbytes hbase fun g cap w' a1 a2 a3 a4 a5 a6=>hK _ _ (h g cap w' a1 a2 a3 a4 a5 a6)
theorem owns_of{w w':World}{base e size n:Nat}{v:Value}{vs:List Value}(h:w.ownsRow base e size v n vs)(hb:∀k,v.ownBlock=some k→w'.heap[k]?=w.heap[k]?):w'.ownsRow base e size v n vs:=by
 obtain⟨h1,h | ⟨g,cap,cur,rfl,a1,a2,a3⟩⟩:=h
 ·exact⟨h1,.inl h⟩
 ·exact⟨h1,.inr ⟨g,cap,cur,rfl,a1,(hb g rfl).trans a2,a3⟩⟩
theorem owns_keep{w w':World}{base e size n:Nat}{v:Value}{vs:List Value}(h:w.ownsRow base e size v n vs)(hb:Below w.heap.size w w'):w'.ownsRow base e size v n vs:=owns_of h fun k hk=>hb.block k (h.lt k hk).2
theorem owns_cells{w:World}{base e size n g cap:Nat}{vs:List Value}(h:w.ownsRow base e size (.slice (some ⟨g,0,none⟩) n cap) n vs):g<w.heap.size∧∀j u,vs[j]?=some u→w.cell? ⟨g,j,none⟩=some u:=by
 obtain⟨h1,⟨h,_⟩ | ⟨g',cap',cur,e1,e2,hh,r1,r2,r3,r4⟩⟩:=h
 ·cases h
 ·simp only[Value.slice.injEq,Option.some.injEq,Addr.mk.injEq]at e1;obtain⟨⟨rfl,_,_⟩,_,rfl⟩:=e1;refine⟨(Array.getElem?_eq_some_iff.1 hh).1,fun j u hu=>?_⟩;unfold World.cell?
  rw[show w.heap[({ block:=g,off:=j,spot:=none }:Addr).block]?=_ from hh];rw[←r4]at hu
  have hj:j<n*size:=by
   have:=(List.getElem?_eq_some_iff.1 hu).1;rw[List.length_take]at this;omega
  rw[List.getElem?_take_of_lt hj]at hu;simpa using hu
end Ag
end Go.Proofs.YtleegaihbgbcjabGreatDoor
