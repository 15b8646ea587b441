import Derived.Test.YtleegaihbgbcjabGreatDoorT21
set_option linter.unusedVariables false
set_option linter.unusedSimpArgs false
set_option maxRecDepth 100000
set_option maxHeartbeats 16000000
open Go.Proofs.Tryz
namespace Go.Proofs.YtleegaihbgbcjabGreatDoor
open Go.RowKit Num Bit
structure MR where
 K:Int
 N:Int
 av:List RA
 zs:List Int
def mrw(x:MR)(l:Nat):RA:=x.av.getD l ra0
structure MI (w:World) (lo:Option Addr) (lc:Nat) (zo:Option Addr) (zc:Nat) (x:MR):Prop where
 k:aD x.K
 n:aD x.N
 l:Lv w lo x.av
 z:Nd w zo x.zs
 lm:x.av.length<=1048576
 zm:x.zs.length<=1048576
 gv:GV w
theorem MI.keep{w w':World}{lo:Option Addr}{lc:Nat}{zo:Option Addr}{zc:Nat}{x:MR}(h:MI w lo lc zo zc x)(hb:Below w.heap.size w w'):MI w' lo lc zo zc x:=⟨h.k,h.n,h.l.keep hb,h.z.keep hb,h.lm,h.zm,h.gv.keep hb⟩
def gO(x:MR)(l:Nat):Bool:=decide (grE (aX (mrw x l)) (kBN (mrw x l)) x.N=0)&&(decide (grN (aX (mrw x l)) (kBN (mrw x l)) (aY (mrw x l)) false x.N=gi x.zs l)&&(decide ((mrw x l).K=x.K)&&decide (kBN (mrw x l)=x.N)))
def mOk(x:MR):Bool:=decide (x.N<=8192)&&(decide (x.av.length=8)&&(decide (x.zs.length=8)&&(List.range 8).all (gO x)))
theorem oD{x:MR}(l:Nat)(hl:l<8)(h:gO x l=false):mOk x=false:=by
 refine Bool.eq_false_iff.2 fun e=>?_;unfold mOk at e;simp only[Bool.and_eq_true,List.all_eq_true]at e;rw[e.2.2.2 l (List.mem_range.2 hl)]at h;cases h
theorem vr{x:MR}(h1:x.N<=8192)(h2:x.av.length=8)(h3:x.zs.length=8)(h:∀l,l<8->gO x l=true):mOk x=true:=by
 unfold mOk;simp only[Bool.and_eq_true,decide_eq_true_eq,List.all_eq_true];exact⟨h1,h2,h3,fun l hl=>h l (List.mem_range.1 hl)⟩
theorem oC{x:MR}(h:mOk x=true):x.N<=8192/\x.av.length=8/\x.zs.length=8/\∀l,l<8->gO x l=true:=by
 unfold mOk at h;simp only[Bool.and_eq_true,decide_eq_true_eq,List.all_eq_true]at h;exact⟨h.1,h.2.1,h.2.2.1,fun l hl=>h.2.2.2 l (List.mem_range.2 hl)⟩
theorem tD{T:TypeId}{w:World}{x:Operand}{ρ:Operand->Value}{d:Option Tmp}{ty:TypeId}{ps:String}{af:Array Edge}{gd:Option (Nat×Bool)}
  (g o:Nat) (cs:List Value) {fs:Array Field} (hx:ρ x=.pointer (some ⟨g,o,none⟩)) (hc:w.rangeAt g o cs) (hu:prog.underlying T=some (.struct fs)) (hi:(prog.info? T).map (·.size)=some cs.length):
  (execOp ρ (⟨d,.load T x,ty,ps,af,gd⟩:Oper)).run prog w=.ok (.value (.agg cs.toArray)) w:=by
 have hl:=run_loadVar_mid (P:=prog) w g o T cs _ hc hu rfl hi;unfold execOp;simp only[hx,Instr.loadAt,Instr.sureAddr,Sem.run_bind,Sem.run_pure,Result.andThen_ok,hl]
theorem rh{w w0:World}{b off:Nat}{l:List Int}(h:∀i,i<l.length->w.cell? ⟨b,off+i,none⟩=some (.int .i64 (gi l i)))(hb:Below w.heap.size w w0)(hl:b<w.heap.size)(q:Nat)(hq:q<l.length):w0.cell? ⟨b,off+q,none⟩=some (.int .i64 (gi l q)):=(hb.cell (p:=⟨b,off+q,none⟩) hl).trans (h q hq)
theorem FZ(a:RA)(ok:aX a=true):aD (kBN a):=by
 obtain⟨h0,h1⟩:=bp _ _ (kH a ok);unfold aD;omega
theorem ks(lo:Option Addr)(lc:Nat)(zo:Option Addr)(zc:Nat)(x:MR)(w:World)(h:MI w lo lc zo zc x):
  Qq 20 #[.agg #[.int .i64 x.K,.int .i64 x.N,.slice lo x.av.length lc,.slice zo x.zs.length zc]] w (.bool (mOk x)):=by
 obtain⟨Z,hZ⟩:∃Z,Hid (Z=mOk x):=⟨_,rfl⟩;rw[<-hZ.out];have HI:=ag h;obtain⟨K,hK⟩:∃K,Hid (K=x.K):=⟨_,rfl⟩;obtain⟨N,hN⟩:∃N,Hid (N=x.N):=⟨_,rfl⟩
 obtain⟨m,hm⟩:∃m,Hid (m=x.av.length):=⟨_,rfl⟩;obtain⟨z,hz⟩:∃z,Hid (z=x.zs.length):=⟨_,rfl⟩;rw[<-hK.out,<-hN.out,<-hm.out,<-hz.out]
 obtain⟨W,hW⟩:∃W,W=w.alloc (.cells #[.int .i64 K,.int .i64 N,.slice lo m lc,.slice zo z zc] 27):=⟨_,rfl⟩;have bW:=aU hW
 have B1:=ag (show aa W w.heap.size [.int .i64 K,.int .i64 N,.slice lo m lc,.slice zo z zc] 27 by rw[hW];exact aa.new w _ _);have HB:=ag bW;by_cases q1:N<=8192;rotate_left
 .have E:Hid (Z=false):=by
   show Z=_;rw[hZ.out];unfold mOk;rw[decide_eq_false (by rw[<-hN.out];exact q1)];rfl
  have q2:(8192:Int)<N:=by omega
  clear h bW;go_enter func20,ntmps20;go_wp2;go_ret;rw[E.out,<-hW];exact⟨rfl,HB.out⟩
 have q1':¬(8192:Int)<N:=by omega
 by_cases q2:m=8;rotate_left
 .have E:Hid (Z=false):=by
   show Z=_;rw[hZ.out];unfold mOk;rw[show decide (x.av.length=8)=false from decide_eq_false (by rw[<-hm.out];exact q2)];simp
  have q3:((m:Int) != 8)=true:=by simp;omega
  clear h bW;go_enter func20,ntmps20;go_wp2;go_ret;rw[E.out,<-hW];exact⟨rfl,HB.out⟩
 subst q2;by_cases q2:z=8;rotate_left
 .have E:Hid (Z=false):=by
   show Z=_;rw[hZ.out];unfold mOk;rw[show decide (x.zs.length=8)=false from decide_eq_false (by rw[<-hz.out];exact q2)];simp
  have q3:((z:Int) != 8)=true:=by simp;omega
  clear h bW;go_enter func20,ntmps20;go_wp2;go_ret;rw[E.out,<-hW];exact⟨rfl,HB.out⟩
 subst q2;have hk:=h.k;have hn:=h.n;rw[<-hK.out]at hk;rw[<-hN.out]at hn;obtain⟨b,off,rfl,hbl,hrows⟩:=h.l (by rw[<-hm.out];decide);obtain⟨b2,off2,rfl,hbl2,hzer⟩:=h.z (by rw[<-hz.out];decide)
 have HR:=ag hrows;have HZr:=ag hzer;clear hrows hzer h bW;go_enter func20,ntmps20;go_wp2;rw[<-hW];clear hW
 go_loopw [25] (fun s wr=>∃q:Nat,q<=8/\s=.int .i64 q/\Hid (∀l,l<q->gO x l=true)/\Hid (aa wr w.heap.size [.int .i64 K,.int .i64 N,.slice (some ⟨b,off,none⟩) 8 lc,.slice (some ⟨b2,off2,none⟩) 8 zc] 27)/\Hid (Below w.heap.size w wr)) (fun s _=>8-(intOf s).toNat)
 case atStart=>exact⟨0,Nat.zero_le _,rfl,fun l hl=>absurd hl (by omega),B1,HB⟩
 case round=>
  clear B1 HB;obtain⟨q,hq,rfl,HA,K1,HB⟩:=hrel;by_cases hi:q<8
  .have hi2:(q:Int)<8:=by omega
   obtain⟨cs,hr0,hk0⟩:=HR.out q (by rw[<-hm.out];exact hi);have HRg:=ag (jG hr0 HB.out hbl);have hh0:=hk0.arg.head;have HL:=ag hk0.arg.len;have H1:=ag hk0.arg.one
   have H22:=ag (lQ.trans hk0.arg.nine);obtain⟨A,hA⟩:∃A,Hid (A=mrw x q):=⟨_,rfl⟩;have hk0':KI w cs A:=by rw[hA.out];exact hk0
   have hhA:cs[0]?=some (.int .i64 A.K):=by rw[hA.out];exact hh0
   have HH:=ag hhA;have hAK:aD A.K:=by obtain⟨_,_,_,_,g,_⟩:=hk0'.arg;exact g
   have C:Hid (Qz w 44 #[.agg cs.toArray,.bool false,.int .i64 N] (.tuple #[.int .i64 (grN (aX A) (kBN A) (aY A) false N),.int .i64 (grE (aX A) (kBN A) N)])):=fun w0 h=>tT cs A false N w0 (hk0'.keep h) hn
   have L0:=ag (fun(ok:aX A=true) (w0:World) (h:Below w.heap.size w w0)=>En cs A w0 (hk0'.keep h) ok);have zc1:=rh HZr.out HB.out hbl2 q (by rw[<-hz.out];exact hi)
   have eL:Hid (gO x q=(decide (grE (aX A) (kBN A) N=0)&&(decide (grN (aX A) (kBN A) (aY A) false N=gi x.zs q)&&(decide (A.K=K)&&decide (kBN A=N))))):=by show gO x q=_;unfold gO;rw[<-hA.out,<-hK.out,<-hN.out]
   have kN:aX A=true->aD (kBN A):=fun ok=>FZ A ok;clear hk0 hk0' hr0 hhA hA hh0;generalize A.K=AK at *;have zz:=HB.out.size;have lz:=K1.out.lt;have x2:=K1.out.cell 2 rfl
   go_wp2_with (first | refine aR b (off+q*22) cs (by rfl) rfl HRg.out underlying63 HL.out ?_ | refine pF mY ?_);intro w1 c1 b1 s1;try simp only[Act.put,ah,List.set]
   have HB1:=ag b1;clear b1;go_wp2_with (refine aJ wr.heap.size zv cs rfl rfl c1 H22.out HL.out H1.out ?_);intro w2 c2 o2;try simp only[Act.put,ah,List.set]
   have K2:=ag (o2.cel (K1.out.kept HB1.out) (by omega));have HB2:=ag ((HB.out.trans (HB1.out.mono zz)).trans (o2.below zz));have C2h:=ag c2;have Z2:=rh HZr.out HB2.out hbl2 q (by rw[<-hz.out];exact hi)
   have x1:=K2.out.cell 1 rfl;have c20:=c2.cell 0 HH.out;clear HRg c1 HB1 s1 o2 HB K1 x2 zc1;go_wp2_with (refine fE wr.heap.size cs rfl c2 underlying63 HL.out ?_);refine mr (C.out _ HB2.out) fun w3 hb3=>?_;have K3:=ag (K2.out.kept hb3);have C3h:=ag (C2h.out.kept hb3);have HB3:=ag (bg HB2.out hb3);have g3:=hb3.size;clear hb3 K2 C2h HB2 c2 c20 x1 Z2 C
   obtain⟨EE,hEE⟩:∃EE,Hid (EE=grE (aX A) (kBN A) N):=⟨_,rfl⟩;obtain⟨NN,hNN⟩:∃NN,Hid (NN=grN (aX A) (kBN A) (aY A) false N):=⟨_,rfl⟩;rw[<-hEE.out,<-hNN.out]at eL⊢
   obtain⟨zq,hzq⟩:∃zq,Hid (zq=gi x.zs q):=⟨_,rfl⟩;rw[<-hzq.out]at eL
   have HZq:Hid (∀w0,Below w.heap.size w w0->w0.cell? ⟨b2,off2+q,none⟩=some (.int .i64 zq)):=fun w0 hb=>by rw[hzq.out];exact rh HZr.out hb hbl2 q (by rw[<-hz.out];exact hi)
   by_cases d1:EE=0;rotate_left
   .have d12:(EE != 0)=true:=by simp[d1]
    have E:Hid (Z=false):=by
     show Z=_;rw[hZ.out];refine oD q hi ?_;rw[eL.out,decide_eq_false d1];simp
    clear eL L0;go_wp2
    refine ba [] (fun w'=>aa w' wr.heap.size cs 63/\aa w' w.heap.size [.int .i64 K,.int .i64 N,.slice (some ⟨b,off,none⟩) 8 lc,.slice (some ⟨b2,off2,none⟩) 8 zc] 27/\Below w.heap.size w w') (by kernel_rfl) ?_
    have hS:(fun w'=>aa w' wr.heap.size cs 63/\aa w' w.heap.size [.int .i64 K,.int .i64 N,.slice (some ⟨b,off,none⟩) 8 lc,.slice (some ⟨b2,off2,none⟩) 8 zc] 27/\Below w.heap.size w w') w3.drew:=⟨C3h.out.drew,K3.out.drew,HB3.out.drew⟩
    clear C3h K3 HB3;generalize w3.drew=V at *;refine aK 0 hS ?_;refine aK 1 hS ?_;refine aK 2 hS ?_;refine aS 3 hS ?_;refine aS 4 hS ?_;refine aS 5 hS ?_;refine aS 6 hS ?_
    refine aS 7 hS ?_;refine aS 8 hS ?_;refine aS 9 hS ?_;refine aK 10 hS ?_;refine aK 11 hS ?_;refine aS 12 hS ?_;refine aS 13 hS ?_;refine aS 14 hS ?_;refine aS 15 hS ?_
    refine aS 16 hS ?_;refine aK 17 hS ?_;refine aK 18 hS ?_;refine aS 19 hS ?_;refine aS 20 hS ?_;refine aS 21 hS ?_;refine aS 22 hS ?_;refine aS 23 hS ?_;refine aK 24 hS ?_
    refine aw.done (by kernel_rfl) ?_ _;have HBz:=ag hS.2.2;clear hS;go_wp2;go_ret;rw[E.out];exact⟨rfl,HBz.out⟩
   subst d1
   have ok:aX A=true:=by
    have:=hEE.out;cases o:aX A with
    | true=>rfl
    | false=>unfold grE at this;rw[o]at this;simp at this
   have L:=ag (L0.out ok);have kN2:=kN ok;clear hEE kN;by_cases d2:NN=zq;rotate_left
   .have d22:(NN != zq)=true:=by simp[d2]
    have E:Hid (Z=false):=by
     show Z=_;rw[hZ.out];refine oD q hi ?_;rw[eL.out,decide_eq_false d2];simp
    clear eL L0;go_wp2
    refine ba [] (fun w'=>aa w' wr.heap.size cs 63/\aa w' w.heap.size [.int .i64 K,.int .i64 N,.slice (some ⟨b,off,none⟩) 8 lc,.slice (some ⟨b2,off2,none⟩) 8 zc] 27/\Below w.heap.size w w') (by kernel_rfl) ?_
    have hS:(fun w'=>aa w' wr.heap.size cs 63/\aa w' w.heap.size [.int .i64 K,.int .i64 N,.slice (some ⟨b,off,none⟩) 8 lc,.slice (some ⟨b2,off2,none⟩) 8 zc] 27/\Below w.heap.size w w') w3.drew:=⟨C3h.out.drew,K3.out.drew,HB3.out.drew⟩
    clear C3h K3 HB3;generalize w3.drew=V at *;refine aK 0 hS ?_;refine aK 1 hS ?_;refine aK 2 hS ?_;refine aK 3 hS ?_;refine aK 4 hS ?_
    refine aF 5 hS rfl (fun w0 h0=>by have y0:=h0.2.1.cell 0 rfl;have y1:=h0.2.1.cell 1 rfl;have y3:=h0.2.1.cell 3 rfl;have zq1:=HZq.out w0 h0.2.2;have c0:=h0.1.cell 0 HH.out;go_simp;try with_reducible rfl) ?_
    refine aK 6 hS ?_;refine aK 7 hS ?_
    refine aF 8 hS rfl (fun w0 h0=>by have y0:=h0.2.1.cell 0 rfl;have y1:=h0.2.1.cell 1 rfl;have y3:=h0.2.1.cell 3 rfl;have zq1:=HZq.out w0 h0.2.2;have c0:=h0.1.cell 0 HH.out;go_simp;try with_reducible rfl) ?_
    refine aK 9 hS ?_;refine aK 10 hS ?_;refine aK 11 hS ?_;refine aS 12 hS ?_;refine aS 13 hS ?_;refine aS 14 hS ?_;refine aS 15 hS ?_;refine aS 16 hS ?_;refine aK 17 hS ?_
    refine aK 18 hS ?_;refine aS 19 hS ?_;refine aS 20 hS ?_;refine aS 21 hS ?_;refine aS 22 hS ?_;refine aS 23 hS ?_;refine aK 24 hS ?_;refine aw.done (by kernel_rfl) ?_ _
    have HBz:=ag hS.2.2;clear hS;go_wp2;go_ret;rw[E.out];exact⟨rfl,HBz.out⟩
   subst d2;by_cases d3:AK=K;rotate_left
   .have d32:(AK != K)=true:=by simp[d3]
    have E:Hid (Z=false):=by
     show Z=_;rw[hZ.out];refine oD q hi ?_;rw[eL.out,decide_eq_false d3];simp
    clear eL L0;go_wp2
    refine ba [] (fun w'=>aa w' wr.heap.size cs 63/\aa w' w.heap.size [.int .i64 K,.int .i64 N,.slice (some ⟨b,off,none⟩) 8 lc,.slice (some ⟨b2,off2,none⟩) 8 zc] 27/\Below w.heap.size w w') (by kernel_rfl) ?_
    have hS:(fun w'=>aa w' wr.heap.size cs 63/\aa w' w.heap.size [.int .i64 K,.int .i64 N,.slice (some ⟨b,off,none⟩) 8 lc,.slice (some ⟨b2,off2,none⟩) 8 zc] 27/\Below w.heap.size w w') w3.drew:=⟨C3h.out.drew,K3.out.drew,HB3.out.drew⟩
    clear C3h K3 HB3;generalize w3.drew=V at *;refine aK 0 hS ?_;refine aK 1 hS ?_;refine aK 2 hS ?_;refine aK 3 hS ?_;refine aK 4 hS ?_
    refine aF 5 hS rfl (fun w0 h0=>by have y0:=h0.2.1.cell 0 rfl;have y1:=h0.2.1.cell 1 rfl;have y3:=h0.2.1.cell 3 rfl;have zq1:=HZq.out w0 h0.2.2;have c0:=h0.1.cell 0 HH.out;go_simp;try with_reducible rfl) ?_
    refine aK 6 hS ?_;refine aK 7 hS ?_
    refine aF 8 hS rfl (fun w0 h0=>by have y0:=h0.2.1.cell 0 rfl;have y1:=h0.2.1.cell 1 rfl;have y3:=h0.2.1.cell 3 rfl;have zq1:=HZq.out w0 h0.2.2;have c0:=h0.1.cell 0 HH.out;go_simp;try with_reducible rfl) ?_
    refine aK 9 hS ?_;refine aK 10 hS ?_;refine aK 11 hS ?_;refine aK 12 hS ?_
    refine aF 13 hS rfl (fun w0 h0=>by have y0:=h0.2.1.cell 0 rfl;have y1:=h0.2.1.cell 1 rfl;have y3:=h0.2.1.cell 3 rfl;have zq1:=HZq.out w0 h0.2.2;have c0:=h0.1.cell 0 HH.out;go_simp;try with_reducible rfl) ?_
    refine aK 14 hS ?_
    refine aF 15 hS rfl (fun w0 h0=>by have y0:=h0.2.1.cell 0 rfl;have y1:=h0.2.1.cell 1 rfl;have y3:=h0.2.1.cell 3 rfl;have zq1:=HZq.out w0 h0.2.2;have c0:=h0.1.cell 0 HH.out;go_simp;try with_reducible rfl) ?_
    refine aK 16 hS ?_;refine aK 17 hS ?_;refine aK 18 hS ?_;refine aS 19 hS ?_;refine aS 20 hS ?_;refine aS 21 hS ?_;refine aS 22 hS ?_;refine aS 23 hS ?_;refine aK 24 hS ?_
    refine aw.done (by kernel_rfl) ?_ _;have HBz:=ag hS.2.2;clear hS;go_wp2;go_ret;rw[E.out];exact⟨rfl,HBz.out⟩
   have d3':=d3.symm;subst d3';generalize kBN A=M at *;by_cases d4:M=N
   .have d4':=d4.symm;subst d4';have E:Hid (gO x q=true):=by show gO x q=true;rw[eL.out];simp
    clear eL L0;go_wp2
    refine ba [] (fun w'=>aa w' wr.heap.size cs 63/\aa w' w.heap.size [.int .i64 K,.int .i64 N,.slice (some ⟨b,off,none⟩) 8 lc,.slice (some ⟨b2,off2,none⟩) 8 zc] 27/\Below w.heap.size w w') (by kernel_rfl) ?_
    have hS:(fun w'=>aa w' wr.heap.size cs 63/\aa w' w.heap.size [.int .i64 K,.int .i64 N,.slice (some ⟨b,off,none⟩) 8 lc,.slice (some ⟨b2,off2,none⟩) 8 zc] 27/\Below w.heap.size w w') w3.drew:=⟨C3h.out.drew,K3.out.drew,HB3.out.drew⟩
    clear C3h K3 HB3;generalize w3.drew=V at *;refine aK 0 hS ?_;refine aK 1 hS ?_;refine aK 2 hS ?_;refine aK 3 hS ?_;refine aK 4 hS ?_
    refine aF 5 hS rfl (fun w0 h0=>by have y0:=h0.2.1.cell 0 rfl;have y1:=h0.2.1.cell 1 rfl;have y3:=h0.2.1.cell 3 rfl;have zq1:=HZq.out w0 h0.2.2;have c0:=h0.1.cell 0 HH.out;go_simp;try with_reducible rfl) ?_
    refine aK 6 hS ?_;refine aK 7 hS ?_
    refine aF 8 hS rfl (fun w0 h0=>by have y0:=h0.2.1.cell 0 rfl;have y1:=h0.2.1.cell 1 rfl;have y3:=h0.2.1.cell 3 rfl;have zq1:=HZq.out w0 h0.2.2;have c0:=h0.1.cell 0 HH.out;go_simp;try with_reducible rfl) ?_
    refine aK 9 hS ?_;refine aK 10 hS ?_;refine aK 11 hS ?_;refine aK 12 hS ?_
    refine aF 13 hS rfl (fun w0 h0=>by have y0:=h0.2.1.cell 0 rfl;have y1:=h0.2.1.cell 1 rfl;have y3:=h0.2.1.cell 3 rfl;have zq1:=HZq.out w0 h0.2.2;have c0:=h0.1.cell 0 HH.out;go_simp;try with_reducible rfl) ?_
    refine aK 14 hS ?_
    refine aF 15 hS rfl (fun w0 h0=>by have y0:=h0.2.1.cell 0 rfl;have y1:=h0.2.1.cell 1 rfl;have y3:=h0.2.1.cell 3 rfl;have zq1:=HZq.out w0 h0.2.2;have c0:=h0.1.cell 0 HH.out;go_simp;try with_reducible rfl) ?_
    refine aK 16 hS ?_;refine aK 17 hS ?_;refine aK 18 hS ?_
    refine aw.take 19 (v:=.agg (cs).toArray) rfl (by kernel_rfl) (by kernel_rfl) (by kernel_rfl) (by kernel_rfl) (fun _ _ _ h=>h) hS (fun w0 h0=>k6 wr.heap.size _ rfl h0.1 underlying63 HL.out) (by rfl) ?rest63
    simp only[Act.put,ar,an,am,ah,aj,ai];refine aK 21 hS ?_
    refine aF 22 hS rfl (fun w0 h0=>by have y0:=h0.2.1.cell 0 rfl;have y1:=h0.2.1.cell 1 rfl;have y3:=h0.2.1.cell 3 rfl;have zq1:=HZq.out w0 h0.2.2;have c0:=h0.1.cell 0 HH.out;go_simp;try with_reducible rfl) ?_
    refine aO 20 ?_;intro K hK;go_simp;refine mr (L.out _ hS.2.2) fun w4 hb=>?_;replace hS:=And.intro (hS.1.kept hb) (And.intro (hS.2.1.kept hb) (hS.2.2.trans (hb.mono hS.2.2.size)));clear hb
    refine hK.out _ _ (fun _=>hS) ?_;clear hK K;try simp only[Act.put,ar,an,am,ah,aj,ai]
    refine aK 23 hS ?_;refine aK 24 hS ?_;refine aw.done (by kernel_rfl) ?_ _;have K1:=ag hS.2.1;have HB:=ag hS.2.2;clear hS;go_wp2
    refine⟨⟨q+1,by omega,by go_num,?_,K1,HB⟩,by simp only[intOf];omega⟩;intro l hl;by_cases e:l=q
    .subst e;exact E.out
    .exact HA.out l (by omega)
   .have d42:(M != N)=true:=by simp[d4]
    have E:Hid (Z=false):=by
     show Z=_;rw[hZ.out];refine oD q hi ?_;rw[eL.out,decide_eq_false d4];simp
    clear eL L0;go_wp2
    refine ba [] (fun w'=>aa w' wr.heap.size cs 63/\aa w' w.heap.size [.int .i64 K,.int .i64 N,.slice (some ⟨b,off,none⟩) 8 lc,.slice (some ⟨b2,off2,none⟩) 8 zc] 27/\Below w.heap.size w w') (by kernel_rfl) ?_
    have hS:(fun w'=>aa w' wr.heap.size cs 63/\aa w' w.heap.size [.int .i64 K,.int .i64 N,.slice (some ⟨b,off,none⟩) 8 lc,.slice (some ⟨b2,off2,none⟩) 8 zc] 27/\Below w.heap.size w w') w3.drew:=⟨C3h.out.drew,K3.out.drew,HB3.out.drew⟩
    clear C3h K3 HB3;generalize w3.drew=V at *;refine aK 0 hS ?_;refine aK 1 hS ?_;refine aK 2 hS ?_;refine aK 3 hS ?_;refine aK 4 hS ?_
    refine aF 5 hS rfl (fun w0 h0=>by have y0:=h0.2.1.cell 0 rfl;have y1:=h0.2.1.cell 1 rfl;have y3:=h0.2.1.cell 3 rfl;have zq1:=HZq.out w0 h0.2.2;have c0:=h0.1.cell 0 HH.out;go_simp;try with_reducible rfl) ?_
    refine aK 6 hS ?_;refine aK 7 hS ?_
    refine aF 8 hS rfl (fun w0 h0=>by have y0:=h0.2.1.cell 0 rfl;have y1:=h0.2.1.cell 1 rfl;have y3:=h0.2.1.cell 3 rfl;have zq1:=HZq.out w0 h0.2.2;have c0:=h0.1.cell 0 HH.out;go_simp;try with_reducible rfl) ?_
    refine aK 9 hS ?_;refine aK 10 hS ?_;refine aK 11 hS ?_;refine aK 12 hS ?_
    refine aF 13 hS rfl (fun w0 h0=>by have y0:=h0.2.1.cell 0 rfl;have y1:=h0.2.1.cell 1 rfl;have y3:=h0.2.1.cell 3 rfl;have zq1:=HZq.out w0 h0.2.2;have c0:=h0.1.cell 0 HH.out;go_simp;try with_reducible rfl) ?_
    refine aK 14 hS ?_
    refine aF 15 hS rfl (fun w0 h0=>by have y0:=h0.2.1.cell 0 rfl;have y1:=h0.2.1.cell 1 rfl;have y3:=h0.2.1.cell 3 rfl;have zq1:=HZq.out w0 h0.2.2;have c0:=h0.1.cell 0 HH.out;go_simp;try with_reducible rfl) ?_
    refine aK 16 hS ?_;refine aK 17 hS ?_;refine aK 18 hS ?_
    refine aw.take 19 (v:=.agg (cs).toArray) rfl (by kernel_rfl) (by kernel_rfl) (by kernel_rfl) (by kernel_rfl) (fun _ _ _ h=>h) hS (fun w0 h0=>k6 wr.heap.size _ rfl h0.1 underlying63 HL.out) (by rfl) ?rest87
    simp only[Act.put,ar,an,am,ah,aj,ai];refine aK 21 hS ?_
    refine aF 22 hS rfl (fun w0 h0=>by have y0:=h0.2.1.cell 0 rfl;have y1:=h0.2.1.cell 1 rfl;have y3:=h0.2.1.cell 3 rfl;have zq1:=HZq.out w0 h0.2.2;have c0:=h0.1.cell 0 HH.out;go_simp;try with_reducible rfl) ?_
    refine aO 20 ?_;intro K hK;go_simp;refine mr (L.out _ hS.2.2) fun w4 hb=>?_;replace hS:=And.intro (hS.1.kept hb) (And.intro (hS.2.1.kept hb) (hS.2.2.trans (hb.mono hS.2.2.size)));clear hb
    refine hK.out _ _ (fun _=>hS) ?_;clear hK K;try simp only[Act.put,ar,an,am,ah,aj,ai]
    refine aK 23 hS ?_;refine aK 24 hS ?_;refine aw.done (by kernel_rfl) ?_ _;have HBz:=ag hS.2.2;clear hS;go_wp2;go_ret;rw[E.out];exact⟨rfl,HBz.out⟩
  .obtain rfl:q=8:=by omega
   have E:Hid (Z=true):=by
    show Z=_;rw[hZ.out];exact vr (by rw[<-hN.out];exact q1) hm.out.symm hz.out.symm HA.out
   go_wp2;go_ret;rw[E.out];exact⟨rfl,HB.out⟩
theorem FY(k N:Int)(xs:List Nat)(h:kE k N xs=0):(kB k N xs).K=k:=by
 unfold kB;rw[if_pos h]
def mRx(k:Int)(t:List Nat):MR:=⟨k,(t.length:Int),mA k t,mI (mZ t)⟩
theorem mj{t:List Nat}(hn:t.length<=3000)(l:Nat):az (t.length:Int) (aC (Mx.rw_ t l))=true:=by
 have:=gB (Mx.rw_ t l).length (bt (Mx.rw_ t l)) (by rw[Mx.length_rw];omega);rw[Mx.length_rw]at this;unfold aC;rw[Mx.length_rw];exact this
theorem qB{k:Int}(hk:1<=k/\k<=3){t:List Nat}(hn:t.length<=3000):mOk (mRx k t)=true:=by
 refine vr (by show(t.length:Int)<=8192;omega) (iA k t) (by show(mI (mZ t)).length=8;rw[dt,iz]) fun l hl=>?_;have e:mrw (mRx k t) l=kB k (t.length:Int) (aC (Mx.rw_ t l)):=lI k t hl
 have r:=qG hk hn l false (Nat.le_refl _) (mrw (mRx k t) l) e;have eK:(mrw (mRx k t) l).K=k:=by rw[e];exact FY k _ _ (oN k _ _ hk.1 hk.2 (mj hn l))
 have eN:kBN (mrw (mRx k t) l)=(t.length:Int):=by rw[e];exact(lV hk hn l).2.1
 have eZ:gi (mRx k t).zs l=(Mx.zs t l:Int):=by
  show gi (mI (mZ t)) l=_;rw[iN _ _ (by rw[iz];exact hl),qH t hl]
 unfold gO;rw[eZ,eK,eN]
 show(decide (grE (aX (mrw (mRx k t) l)) (t.length:Int) (t.length:Int)=0)&&(decide (grN (aX (mrw (mRx k t) l)) (t.length:Int) (aY (mrw (mRx k t) l)) false (t.length:Int)=(Mx.zs t l:Int))&&(decide (k=k)&&decide ((t.length:Int)=(t.length:Int)))))=true
 rw[eN]at r;rw[r.1,r.2];unfold Mx.zs;rw[Mx.length_rw];simp
theorem MX.mi{w:World}{k:Int}{t:List Nat}{lo:Option Addr}{lc:Nat}{zo:Option Addr}{zc:Nat}(h:MX w [.int .i64 k,.int .i64 (t.length:Int),.slice lo 8 lc,.slice zo 8 zc] k t):MI w lo lc zo zc (mRx k t):=by
 have h0:=h;obtain⟨⟨lo',lc',zo',zc',e,h1,h2⟩,hk,hn,hB,G⟩:=h;simp only[List.cons.injEq,Value.slice.injEq,true_and,and_true]at e;obtain⟨⟨rfl,rfl⟩,rfl,rfl⟩:=e;refine⟨?_,?_,h1,h2,?_,?_,G⟩
 .show aD k;unfold aD;omega
 .show aD (t.length:Int);unfold aD;omega
 .show(mA k t).length<=_;rw[iA];omega
 .show(mI (mZ t)).length<=_;rw[dt,iz];omega
theorem MX.check{w:World}{cs:List Value}{k:Int}{t:List Nat}(h:MX w cs k t):Qq 20 #[.agg cs.toArray] w (.bool true):=by
 have h0:=h;obtain⟨⟨lo,lc,zo,zc,rfl,h1,h2⟩,hk,hn,hB,G⟩:=h;have:=ks lo lc zo zc (mRx k t) w h0.mi;rw[qB hk hn]at this;have e1:(mRx k t).av.length=8:=iA k t
 have e2:(mRx k t).zs.length=8:=by show(mI (mZ t)).length=8;rw[dt,iz]
 rw[e1,e2]at this;exact this
theorem Dp:∀a b:Fin 256,bits .or .u8 (a.val:Int) (b.val:Int)=((a.val|||b.val:Nat):Int):=by decide +kernel
theorem qq(a b:Nat)(ha:a<256)(hb:b<256):bits .or .u8 (a:Int) (b:Int)=((a|||b:Nat):Int):=Dp ⟨a,ha⟩ ⟨b,hb⟩
theorem uR(cs:List Value)(k:Int)(t:List Nat)(c:Nat)(i:Int)(w:World)(h:MX w cs k t)(hc:c<256)(hi:aD i):
  Qq 10 #[.agg cs.toArray,.int .u8 (c:Int),.int .i64 i] w (.tuple #[.int .i64 (fw t c i),.int .i64 (ef t i)]):=by
 have hB:=h.by_;obtain⟨EE,hEE⟩:∃EE,Hid (EE=ef t i):=⟨_,rfl⟩;obtain⟨NN,hNN⟩:∃NN,Hid (NN=fw t c i):=⟨_,rfl⟩;rw[<-hEE.out,<-hNN.out];have HMX:=ag h;have hkn:=h.kn;have hle:=h.le
 obtain⟨⟨lo,lc,zo,zc,rfl,_,_⟩,_,_,_,_⟩:=h;obtain⟨W,hW⟩:∃W,W=w.alloc (.cells #[.int .i64 k,.int .i64 (t.length:Int),.slice lo 8 lc,.slice zo 8 zc] 27):=⟨_,rfl⟩;have bW:=aU hW
 have B1:=ag (show aa W w.heap.size [.int .i64 k,.int .i64 (t.length:Int),.slice lo 8 lc,.slice zo 8 zc] 27 by rw[hW];exact aa.new w _ _);have HB:=ag bW;have HM1:=ag (HMX.out.keep bW);clear bW HMX
 have C0:=ag (HM1.out.check);go_enter func10,ntmps10;go_wp2_with fail;rw[<-hW];refine C0.out.mono ?_;rintro e w1 ⟨rfl,hb⟩;have K1:=ag (B1.out.kept hb);have HM:=ag (HM1.out.keep hb)
 have HBa:=ag (bg HB.out hb);clear hb C0 B1 HM1 HB hW;have y1:=K1.out.cell 1 rfl;by_cases hbad:i<0\/(t.length:Int)<i
 .have e1:ef t i=3:=if_pos hbad;obtain rfl:EE=3:=hEE.out.trans e1;obtain rfl:NN=0:=by rw[hNN.out];unfold fw;rw[if_neg (by rw[e1];decide)]
  by_cases h0:i<0
  .clear hbad e1;go_wp2;go_ret2;exact⟨rfl,HBa.out⟩
  .have h1:(t.length:Int)<i:=by omega
   have h00:(0:Int)<=i:=by omega
   clear hbad e1;go_wp2;go_ret2;exact⟨rfl,HBa.out⟩
 .obtain⟨i,rfl⟩:=Int.eq_ofNat_of_zero_le (show 0<=i by omega);have hin:i<=t.length:=by omega
  obtain⟨e1,e2⟩:=pS (t:=t) c hin;obtain rfl:EE=0:=hEE.out.trans e1;obtain⟨n,hn⟩:∃n,Hid (n=Sh.cp (fun d=>decide (d=c)) t i):=⟨_,rfl⟩
  have eNN:Hid (NN=(n:Int)):=by show NN=_;rw[hNN.out,e2,hn.out]
  have hr:=Mx.rank8 hB hc hin;have C:=ag (vk _ k t c i w1 HM.out hc hin);have lu:=Mx.lw_le t c 8;have cl:=pi t c i;rw[hr,<-hn.out]at C;rw[<-hn.out]at cl;generalize Mx.lw_ t c 8=L at *
  have h0:¬(i:Int)<0:=by omega
  have h1:¬(t.length:Int)<(i:Int):=by omega
  obtain⟨U,hU⟩:∃U,Hid (U=L+n):=⟨_,rfl⟩;rw[<-hU.out]at C;have eU:IntKind.i64.wrap ((U:Int)-(L:Int))=(n:Int):=by rw[hU.out,IntKind.wrap_i64];omega
  have eU2:wrap64 ((U:Int)-(L:Int))=(n:Int):=by rw[hU.out];unfold wrap64;omega
  have hUl:U<=6000:=by rw[hU.out];omega
  have y0:=K1.out.cell 0 rfl;have y2:=K1.out.cell 2 rfl;have y3:=K1.out.cell 3 rfl;clear hbad e1 e2 hr hU;go_wp2_with fail;refine C.out.mono ?_;rintro e w2 ⟨rfl,hb⟩;have HBb:=ag (bg HBa.out hb)
  clear hb C HBa K1 HM y0 y1 y2 y3;go_wp2;go_ret2;exact⟨by rw[eNN.out];rfl,HBb.out⟩
theorem vm(cs:List Value)(k:Int)(t:List Nat)(i:Int)(w:World)(h:MX w cs k t)(hi:aD i):
  Qq 9 #[.agg cs.toArray,.int .i64 i] w (.tuple #[.int .u8 (saC t i:Int),.int .i64 (dR t i)]):=by
 have hB:=h.by_;obtain⟨EE,hEE⟩:∃EE,Hid (EE=dR t i):=⟨_,rfl⟩;obtain⟨NN,hNN⟩:∃NN,Hid (NN=saC t i):=⟨_,rfl⟩;rw[<-hEE.out,<-hNN.out];have HMX:=ag h;have hkn:=h.kn;have hle:=h.le
 obtain⟨⟨lo,lc,zo,zc,rfl,_,_⟩,_,_,_,_⟩:=h;obtain⟨W,hW⟩:∃W,W=w.alloc (.cells #[.int .i64 k,.int .i64 (t.length:Int),.slice lo 8 lc,.slice zo 8 zc] 27):=⟨_,rfl⟩;have bW:=aU hW
 have B1:=ag (show aa W w.heap.size [.int .i64 k,.int .i64 (t.length:Int),.slice lo 8 lc,.slice zo 8 zc] 27 by rw[hW];exact aa.new w _ _);have HB:=ag bW;have HM1:=ag (HMX.out.keep bW);clear bW HMX
 have C0:=ag (HM1.out.check);go_enter func9,ntmps9;go_wp2_with fail;rw[<-hW];refine C0.out.mono ?_;rintro e w1 ⟨rfl,hb⟩;have K1:=ag (B1.out.kept hb);have HM:=ag (HM1.out.keep hb)
 have HBa:=ag (bg HB.out hb);clear hb C0 B1 HM1 HB hW;have y1:=K1.out.cell 1 rfl;by_cases hbad:i<0\/(t.length:Int)<=i
 .have e1:dR t i=3:=if_pos hbad;obtain rfl:EE=3:=hEE.out.trans e1;obtain rfl:NN=0:=by rw[hNN.out];unfold saC;rw[if_neg (by rw[e1];decide)]
  by_cases h0:i<0
  .clear hbad e1;go_wp2;go_ret2;exact⟨rfl,HBa.out⟩
  .have h1:(t.length:Int)<=i:=by omega
   have h2:¬i<(t.length:Int):=by omega
   have h00:(0:Int)<=i:=by omega
   clear hbad e1;go_wp2;go_ret2;exact⟨rfl,HBa.out⟩
 .obtain⟨j,rfl⟩:=Int.eq_ofNat_of_zero_le (show 0<=i by omega);have hin:j<t.length:=by omega
  obtain⟨e1,e2⟩:=pV (t:=t) hin;obtain rfl:EE=0:=hEE.out.trans e1;have e3:NN=gt t j:=hNN.out.trans e2;have h0:¬(j:Int)<0:=by omega
  have h1:¬(t.length:Int)<=(j:Int):=by omega
  have h2:(j:Int)<(t.length:Int):=by omega
  have dl:decide (t.length<=j)=false:=decide_eq_false (by omega);have hcj:=hB j;obtain⟨C,hC⟩:∃C,Hid (C=gt t j):=⟨_,rfl⟩;have hC8:C<256:=by rw[hC.out];exact hcj
  have e4:C=NN:=hC.out.trans e3.symm;subst e4;have HT0:Hid ((0:Nat)=Mx.top 0 C):=(Mx.top_zero hC8).symm
  have HCW:Hid (∀l w0,l<8->Qx 30 #[.int .i64 (l:Nat)] w0 (.int .u8 ((2^(7-l):Nat):Int))):=fun l w0 hl=>qA l hl w0
  have HCB:Hid (∀l b i w0,l<8->i<=t.length->MX w0 [.int .i64 k,.int .i64 (t.length:Int),.slice lo 8 lc,.slice zo 8 zc] k t->Qq 31 #[.agg #[.int .i64 k,.int .i64 (t.length:Int),.slice lo 8 lc,.slice zo 8 zc],.int .i64 (l:Nat),.bool b,.int .i64 (i:Nat)] w0 (.int .i64 (Mx.be t l b i:Nat))):=fun l b i w0 hl hi h=>va _ k t l b i w0 h hl hi
  clear hbad e1 e2 hEE hNN e3;go_wp2
  go_loopw [1,6,21] (fun vj vc vl wr=>∃l:Nat,l<=8/\vl=.int .i64 l/\vj=.int .i64 (Mx.pos t j l:Nat)/\vc=.int .u8 (Mx.top l C:Nat)/\Hid (aa wr w.heap.size [.int .i64 k,.int .i64 (t.length:Int),.slice lo 8 lc,.slice zo 8 zc] 27)/\Hid (MX wr [.int .i64 k,.int .i64 (t.length:Int),.slice lo 8 lc,.slice zo 8 zc] k t)/\Hid (Below w.heap.size w wr)) (fun _ _ vl _=>8-(intOf vl).toNat)
  case atStart=>exact⟨0,Nat.zero_le _,rfl,rfl,by rw[<-HT0.out];rfl,K1,HM,HBa⟩
  case round=>
   clear K1 HM HBa y1;obtain⟨l,hl,rfl,rfl,rfl,K1,HM,HB⟩:=hrel;have hp:=Mx.pos_lt hin l;by_cases hlt:l<8
   .have hltz:(l:Int)<8:=by omega
    obtain⟨rb,ro,rs,erb,hrb,hrg,hki⟩:=HM.out.row hlt;obtain⟨A,hA⟩:∃A,A=kB k (t.length:Int) (aC (Mx.rw_ t l)):=⟨_,rfl⟩;rw[<-hA]at hki
    have CA:=ag (Ke rs A (Mx.pos t j l:Nat) wr hki (by unfold aD;omega));rw[E5 hkn hle l hin A hA,<-hC.out]at CA
    obtain⟨EE,hEE⟩:∃EE,Hid (EE=gaE (aX A) (kBN A) (aY A) (Mx.pos t j l:Nat)):=⟨_,rfl⟩;rw[<-hEE.out]at CA;have HL:=ag hki.arg.len;have HR:=ag hrg
    have Ep:Hid (Mx.pos t j (l+1)=Mx.be t l (Mx.tb l C) (Mx.pos t j l)):=by rw[hC.out];exact rfl
    have CB:=ag (fun w0 h=>HCB.out l (Mx.tb l C) (Mx.pos t j l) w0 hlt (Nat.le_of_lt hp) h);rw[<-Ep.out]at CB;have CW:=ag (fun w0=>HCW.out l w0 hlt);have T1:=ag (fun h=>Mx.top_on hC8 hlt h)
    have T2:=ag (fun h=>Mx.top_off hC8 hlt h);have tl:=Mx.top_lt (l:=l) hC8;have hw2:(2:Nat)^(7-l)<=128:=Nat.le_trans (Nat.pow_le_pow_right (by decide) (show 7-l<=7 by omega)) (by decide)
    obtain⟨P1,hP1⟩:∃P1,Hid (P1=Mx.pos t j (l+1)):=⟨_,rfl⟩;rw[<-hP1.out]at CB;generalize Mx.pos t j l=P at *;obtain⟨T',hT'⟩:∃T',Hid (T'=Mx.top (l+1) C):=⟨_,rfl⟩;rw[<-hT'.out]at T1 T2
    generalize Mx.top l C=TT at *;generalize Mx.tb l C=bb at *;have H8:=ag (qq TT (2^(7-l)) tl (by omega));generalize (2:Nat)^(7-l)=WW at *;subst erb;have y2:=K1.out.cell 2 rfl
    clear hki hA hrg Ep hEE HCB HCW;go_wp2_with (refine aR rb (ro+l*22) rs (by rfl) rfl HR.out underlying63 HL.out ?_);refine CA.out.mono ?_;rintro e w2 ⟨rfl,hb⟩;have K2:=ag (K1.out.kept hb)
    have HM2:=ag (HM.out.keep hb);have HB2:=ag (bg HB.out hb);clear hb CA K1 HM HB HR y2;have z0:=K2.out.cell 0 rfl;have z1:=K2.out.cell 1 rfl;have z2:=K2.out.cell 2 rfl
    have z3:=K2.out.cell 3 rfl;cases bb with
    | true=>
     have e5:=T1.out rfl;go_wp2_with fail;refine mr (CW.out _) fun w3 h3=>?_;rw[h3];clear h3 CW T1 T2;have H8':=H8.out;rw[e5]at H8';clear H8 e5;go_wp2_with fail;refine mr (CB.out _ HM2.out) fun w4 hb=>?_;have K3:=ag (K2.out.kept hb);have HM3:=ag (HM2.out.keep hb);have HB3:=ag (bg HB2.out hb);clear hb CB K2 HM2 HB2 z0 z1 z2 z3;go_wp2
     exact⟨⟨l+1,by omega,by go_num,by rw[hP1.out],by rw[hT'.out],K3,HM3,HB3⟩,by simp only[intOf];omega⟩
    | false=>
     have e5:=T2.out rfl;subst e5;clear T1 T2 CW H8;go_wp2_with fail;refine mr (CB.out _ HM2.out) fun w4 hb=>?_;have K3:=ag (K2.out.kept hb);have HM3:=ag (HM2.out.keep hb)
     have HB3:=ag (bg HB2.out hb);clear hb CB K2 HM2 HB2 z0 z1 z2 z3;go_wp2;exact⟨⟨l+1,by omega,by go_num,by rw[hP1.out],by rw[hT'.out],K3,HM3,HB3⟩,by simp only[intOf];omega⟩
   .obtain rfl:l=8:=by omega
    rw[Mx.top_eight];clear HCB HCW;go_wp2;go_ret2;exact⟨rfl,HB.out⟩
theorem uP(cs:List Value)(k:Int)(t:List Nat)(c:Nat)(K:Int)(w:World)(h:MX w cs k t)(hc:c<256)(hK:aD K):
  Qq 18 #[.agg cs.toArray,.int .u8 (c:Int),.int .i64 K] w (.tuple #[.int .i64 (ssN t c K),.int .i64 (ssE t c K)]):=by
 have hB:=h.by_;obtain⟨EE,hEE⟩:∃EE,Hid (EE=ssE t c K):=⟨_,rfl⟩;obtain⟨NN,hNN⟩:∃NN,Hid (NN=ssN t c K):=⟨_,rfl⟩;rw[<-hEE.out,<-hNN.out];have HMX:=ag h;have hkn:=h.kn;have hle:=h.le
 obtain⟨⟨lo,lc,zo,zc,rfl,_,_⟩,_,_,_,_⟩:=h;obtain⟨W,hW⟩:∃W,W=w.alloc (.cells #[.int .i64 k,.int .i64 (t.length:Int),.slice lo 8 lc,.slice zo 8 zc] 27):=⟨_,rfl⟩;have bW:=aU hW
 have B1:=ag (show aa W w.heap.size [.int .i64 k,.int .i64 (t.length:Int),.slice lo 8 lc,.slice zo 8 zc] 27 by rw[hW];exact aa.new w _ _);have HB:=ag bW;have HM1:=ag (HMX.out.keep bW);clear bW HMX
 have C0:=ag (HM1.out.check);go_enter func18,ntmps18;go_wp2_with fail;rw[<-hW];refine C0.out.mono ?_;rintro e w1 ⟨rfl,hb⟩;have K1:=ag (B1.out.kept hb);have HM:=ag (HM1.out.keep hb)
 have HBa:=ag (bg HB.out hb);clear hb C0 B1 HM1 HB hW;have y1:=K1.out.cell 1 rfl;have hr:=Mx.rank8 hB hc (Nat.le_refl t.length);have C:=ag (vk _ k t c t.length w1 HM.out hc (Nat.le_refl _))
 have lu:=Mx.lw_le t c 8;have cl:=pi t c t.length;rw[hr]at C;obtain⟨M,hM⟩:∃M,Hid (M=Sh.cp (fun d=>decide (d=c)) t t.length):=⟨_,rfl⟩;obtain⟨L,hLe⟩:∃L,Hid (L=Mx.lw_ t c 8):=⟨_,rfl⟩
 rw[<-hM.out,<-hLe.out]at C;rw[<-hM.out]at cl;rw[<-hLe.out]at lu;obtain⟨U,hU⟩:∃U,Hid (U=L+M):=⟨_,rfl⟩;rw[<-hU.out]at C
 have eU:IntKind.i64.wrap ((U:Int)-(L:Int))=(M:Int):=by rw[hU.out,IntKind.wrap_i64];omega
 have eU2:wrap64 ((U:Int)-(L:Int))=(M:Int):=by rw[hU.out];unfold wrap64;omega
 have hUl:U<=6000:=by rw[hU.out];omega
 have y0:=K1.out.cell 0 rfl;have y2:=K1.out.cell 2 rfl;have y3:=K1.out.cell 3 rfl;clear hr hU;go_wp2_with fail;refine C.out.mono ?_;rintro e w2 ⟨rfl,hb⟩;have K2:=ag (K1.out.kept hb);have HM2:=ag (HM.out.keep hb)
 have HBb:=ag (bg HBa.out hb);clear hb C HBa K1 HM y0 y1 y2 y3;by_cases hk:0<=K/\K<(M:Int);rotate_left
 .obtain⟨e1,e2⟩:=th (t:=t) (c:=c) (K:=K) (by rw[<-hM.out];exact hk);obtain rfl:EE=3:=hEE.out.trans e1;obtain rfl:NN=0:=hNN.out.trans e2;by_cases h0:K<0
  .clear hk e1 e2;go_wp2;go_ret2;exact⟨rfl,HBb.out⟩
  .have h1:(M:Int)<=K:=by omega
   have h2:¬K<(M:Int):=by omega
   have h00:(0:Int)<=K:=by omega
   clear hk e1 e2;go_wp2;go_ret2;exact⟨rfl,HBb.out⟩
 .obtain⟨K,rfl⟩:=Int.eq_ofNat_of_zero_le hk.1;have hkM:K<M:=by omega
  obtain⟨p,hpl,hpc,hpk,e1,e2⟩:=ze (t:=t) (c:=c) (K:=K) (by rw[<-hM.out];exact hkM)
  have hs:=Mx.sel8 hB hc (k:=K) (p:=p) (by
   have:=Sh.mem_at (fun d=>decide (d=c)) t p t.length hpl (decide_eq_true hpc);rw[hpk]at this
   exact this)
  obtain rfl:EE=0:=hEE.out.trans e1;obtain rfl:NN=(p:Int):=hNN.out.trans e2;have hLK:Hid (L+K=Mx.pos t p 8):=by rw[hLe.out];exact hs.2.2
  have h0:¬(K:Int)<0:=by omega
  have h1:¬(M:Int)<=(K:Int):=by omega
  have h2:(K:Int)<(M:Int):=by omega
  have dl:decide (M<=K)=false:=decide_eq_false (by omega);have dl2:decide (K<M)=true:=decide_eq_true (by omega)
  have CB:Hid (∀l w0,l<8->Qx 25 #[.int .u8 (c:Nat),.int .i64 (l:Nat)] w0 (.bool (Mx.tb l c))):=fun l w0 hl=>oA c l hc hl w0
  have CU:Hid (∀l w0,l<8->MX w0 [.int .i64 k,.int .i64 (t.length:Int),.slice lo 8 lc,.slice zo 8 zc] k t->Qq 43 #[.agg #[.int .i64 k,.int .i64 (t.length:Int),.slice lo 8 lc,.slice zo 8 zc],.int .i64 (l:Nat),.bool (Mx.tb l c),.int .i64 (Mx.pos t p (l+1):Nat)] w0 (.int .i64 (Mx.pos t p l:Nat))):=fun l w0 hl h=>by
   have:=EZ _ k t l p w0 h hl hpl;rw[hpc]at this;exact this
  have hp8:=Mx.pos_lt hpl 8;have m5:L+K<=3000:=by rw[hLK.out];omega
  clear hk e1 e2 hs hpk hpc;go_wp2
  go_loopw [10,11] (fun vp vl wr=>∃l:Nat,l<=8/\vl=.int .i64 ((l:Int)-1)/\vp=.int .i64 (Mx.pos t p l:Nat)/\Hid (aa wr w.heap.size [.int .i64 k,.int .i64 (t.length:Int),.slice lo 8 lc,.slice zo 8 zc] 27)/\Hid (MX wr [.int .i64 k,.int .i64 (t.length:Int),.slice lo 8 lc,.slice zo 8 zc] k t)/\Hid (Below w.heap.size w wr)) (fun _ vl _=>(intOf vl+1).toNat)
  case atStart=>exact⟨8,Nat.le_refl _,rfl,by rw[<-hLK.out];rfl,K2,HM2,HBb⟩
  case round=>
   clear K2 HM2 HBb;obtain⟨l,hl,rfl,rfl,K1,HM,HB⟩:=hrel;by_cases hlt:0<l
   .obtain⟨l,rfl⟩:∃l',l=l'+1:=⟨l-1,by omega⟩;have el:((l+1:Nat):Int)-1=(l:Int):=by omega
    rw[el];have hltz:(0:Int)<=(l:Int):=by omega
    have CBl:=ag (fun w0=>CB.out l w0 (by omega));have CUl:=ag (fun w0 h=>CU.out l w0 (by omega) h);obtain⟨P,hP⟩:∃P,Hid (P=Mx.pos t p l):=⟨_,rfl⟩
    obtain⟨P1,hP1⟩:∃P1,Hid (P1=Mx.pos t p (l+1)):=⟨_,rfl⟩;have hPl:P1<=3000:=by rw[hP1.out];have:=Mx.pos_lt hpl (l+1);omega
    rw[<-hP.out,<-hP1.out]at CUl;rw[<-hP1.out];generalize Mx.tb l c=bb at *;clear CB CU el;go_wp2
    refine ba [] (fun w'=>aa w' w.heap.size [.int .i64 k,.int .i64 (t.length:Int),.slice lo 8 lc,.slice zo 8 zc] 27/\MX w' [.int .i64 k,.int .i64 (t.length:Int),.slice lo 8 lc,.slice zo 8 zc] k t/\Below w.heap.size w w') (by kernel_rfl) ?_
    have hS:(fun w'=>aa w' w.heap.size [.int .i64 k,.int .i64 (t.length:Int),.slice lo 8 lc,.slice zo 8 zc] 27/\MX w' [.int .i64 k,.int .i64 (t.length:Int),.slice lo 8 lc,.slice zo 8 zc] k t/\Below w.heap.size w w') wr.drew:=⟨K1.out.drew,HM.out.keep ((Below.refl _ _).drew),HB.out.drew⟩
    clear K1 HM HB;generalize wr.drew=V at *
    refine aF 0 hS rfl (fun w0 h0=>by have y0:=h0.1.cell 0 rfl;have y1:=h0.1.cell 1 rfl;have y2:=h0.1.cell 2 rfl;have y3:=h0.1.cell 3 rfl;go_simp;try with_reducible rfl) ?_;refine aK 1 hS ?_
    refine aK 2 hS ?_;refine aK 3 hS ?_;refine aK 5 hS ?_;refine aO 4 ?_;intro K hK;go_simp;refine mr (CBl.out _) fun w3 h3=>?_;rw[h3];clear h3;refine hK.out _ _ (fun _=>hS) ?_;clear hK K
    try simp only[Act.put,ar,an,am,ah,aj,ai]
    refine aO 6 ?_;intro K hK;go_simp;refine mr (CUl.out _ hS.2.1) fun w4 hb=>?_;replace hS:=And.intro (hS.1.kept hb) (And.intro (hS.2.1.keep hb) (hS.2.2.trans (hb.mono hS.2.2.size)));clear hb
    refine hK.out _ _ (fun _=>hS) ?_;clear hK K;try simp only[Act.put,ar,an,am,ah,aj,ai]
    refine aK 7 hS ?_;refine aw.done (by kernel_rfl) ?_ _;have K1:=ag hS.1;have HM:=ag hS.2.1;have HB:=ag hS.2.2;clear hS CBl CUl;go_wp2
    exact⟨⟨l,by omega,by go_num,by rw[hP.out],K1,HM,HB⟩,by simp only[intOf];omega⟩
   .obtain rfl:l=0:=by omega
    have e0:Mx.pos t p 0=p:=rfl;rw[e0];go_wp2;go_ret2;exact⟨rfl,HB.out⟩
end Go.Proofs.YtleegaihbgbcjabGreatDoor
namespace Go.Proofs.YtleegaihbgbcjabGreatDoor
open Go.RowKit
namespace Ag
theorem yj{o:Oper}{a:Act}{w:World}{K:Act->World->Prop}{Q:Exit->Act->World->Prop}(s x:Operand)(t:TypeId)
  (ho:o.op=.call { callee:=.builtin .append,args:=#[s,x],argTypes:=#[t,t] })
  (base:Nat) (e:TypeId) (i:TypeInfo) (z:Value) (size bytes:Nat) (ht:prog.underlying t=some (.slice e)) (hi:prog.info? e=some i) (hz:i.zero=some z)
  (hsize:i.size=size) (hby:i.bytes=bytes) (hzs:z.cells.size=size) (hsz:0<size)
  (v:Value) (n:Nat) (vs:List Value) (hs:a.eval s=v) (hown:w.ownsRow base e size v n vs)
  (ad:Addr) (m c:Nat) (news:List Value) (hx:a.eval x=.slice (some ad) m c) (hl:news.length=m*size) (hm:0<m) (hsrc:∀j u,news[j]?=some u->w.cell? (ad.add j)=some u) (h1:∀u∈news,u.oneCell'=true)
  (h63:n+m<=maxLen) (hbytes:(n+m)*bytes<=140737488355328) (hbase:base<=w.heap.size)
  (h:∀g cap w',w'.ownsRow base e size (.slice (some ⟨g,0,none⟩) (n+m) cap) (n+m) (vs++news)->Below base w w'->(v.ownBlock=some g\/g=w.heap.size)->g<w'.heap.size->(∀k,k<w.heap.size->v.ownBlock≠some k->w'.heap[k]?=w.heap[k]?)->w.heap.size<=w'.heap.size->K (a.put o.dst (.slice (some ⟨g,0,none⟩) (n+m) cap)) w'):
  Oper.wp prog o a w K Q:=by
 refine wp_append_lies w s x t ho base e i z size bytes ht hi hz hsize hby hzs hsz v n vs hs hown ad m c news hx hl hsrc h1 hm h63 hbytes hbase w.heap.size rfl ?_;intro g cap w' o1 o2 o3 o4;refine h g cap w' o1 ?_ o3 o4 ?_ o2.size
 .exact(Below.refl _ _).grown o2 hbase (fun k hk=>(hown.lt k hk).1)
 .intro k hk hne;exact o2.block k hk (fun q=>hne q.symm)
theorem wpList_append{ops:Array Oper}{rest:List Oper}{o:Oper}{a:Act}{w:World}{Q:Exit->Act->World->Prop}(hgd:o.guard=none)(s x:Operand)(t:TypeId)
  (ho:o.op=.call { callee:=.builtin .append,args:=#[s,x],argTypes:=#[t,t] })
  (base:Nat) (e:TypeId) (i:TypeInfo) (z:Value) (size bytes:Nat) (ht:prog.underlying t=some (.slice e)) (hi:prog.info? e=some i) (hz:i.zero=some z)
  (hsize:i.size=size) (hby:i.bytes=bytes) (hzs:z.cells.size=size) (hsz:0<size)
  (v:Value) (n:Nat) (vs:List Value) (hs:a.eval s=v) (hown:w.ownsRow base e size v n vs)
  (ad:Addr) (m c:Nat) (news:List Value) (hx:a.eval x=.slice (some ad) m c) (hl:news.length=m*size) (hm:0<m) (hsrc:∀j u,news[j]?=some u->w.cell? (ad.add j)=some u) (h1:∀u∈news,u.oneCell'=true)
  (h63:n+m<=maxLen) (hbytes:(n+m)*bytes<=140737488355328) (hbase:base<=w.heap.size)
  (h:∀g cap w',w'.ownsRow base e size (.slice (some ⟨g,0,none⟩) (n+m) cap) (n+m) (vs++news)->Below base w w'->(v.ownBlock=some g\/g=w.heap.size)->g<w'.heap.size->(∀k,k<w.heap.size->v.ownBlock≠some k->w'.heap[k]?=w.heap[k]?)->w.heap.size<=w'.heap.size->wpList prog ops Q rest (a.put o.dst (.slice (some ⟨g,0,none⟩) (n+m) cap)) w'):
  wpList prog ops Q (o::rest) a w:=
 wpList_plain hgd fun K hK=>yj s x t ho base e i z size bytes ht hi hz hsize hby hzs hsz v n vs hs hown ad m c news hx hl hm hsrc h1 h63 hbytes hbase fun g cap w' a1 a2 a3 a4 a5 a6=>hK _ _ (h g cap w' a1 a2 a3 a4 a5 a6)
theorem owns_of{w w':World}{base e size n:Nat}{v:Value}{vs:List Value}(h:w.ownsRow base e size v n vs)(hb:∀k,v.ownBlock=some k->w'.heap[k]?=w.heap[k]?):w'.ownsRow base e size v n vs:=by
 obtain⟨h1,h | ⟨g,cap,cur,rfl,a1,a2,a3⟩⟩:=h
 .exact⟨h1,.inl h⟩
 .exact⟨h1,.inr ⟨g,cap,cur,rfl,a1,(hb g rfl).trans a2,a3⟩⟩
theorem owns_keep{w w':World}{base e size n:Nat}{v:Value}{vs:List Value}(h:w.ownsRow base e size v n vs)(hb:Below w.heap.size w w'):w'.ownsRow base e size v n vs:=owns_of h fun k hk=>hb.block k (h.lt k hk).2
theorem owns_cells{w:World}{base e size n g cap:Nat}{vs:List Value}(h:w.ownsRow base e size (.slice (some ⟨g,0,none⟩) n cap) n vs):g<w.heap.size/\∀j u,vs[j]?=some u->w.cell? ⟨g,j,none⟩=some u:=by
 obtain⟨h1,⟨h,_⟩ | ⟨g',cap',cur,e1,e2,hh,r1,r2,r3,r4⟩⟩:=h
 .cases h
 .simp only[Value.slice.injEq,Option.some.injEq,Addr.mk.injEq]at e1;obtain⟨⟨rfl,_,_⟩,_,rfl⟩:=e1;refine⟨(Array.getElem?_eq_some_iff.1 hh).1,fun j u hu=>?_⟩;unfold World.cell?
  rw[show w.heap[({ block:=g,off:=j,spot:=none }:Addr).block]?=_ from hh];rw[<-r4]at hu
  have hj:j<n*size:=by
   have:=(List.getElem?_eq_some_iff.1 hu).1;rw[List.length_take]at this;omega
  rw[List.getElem?_take_of_lt hj]at hu;simpa using hu
end Ag
end Go.Proofs.YtleegaihbgbcjabGreatDoor
