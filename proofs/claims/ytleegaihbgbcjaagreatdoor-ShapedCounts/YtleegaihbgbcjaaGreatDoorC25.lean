import Derived.Test.YtleegaihbgbcjaaGreatDoorC20
import Derived.Shelf.SlSortCmp.NoneTotal
set_option linter.unusedVariables false
set_option linter.unusedSimpArgs false
set_option maxRecDepth 100000
set_option maxHeartbeats 16000000
open Go.Proofs.Tryz
namespace Go.Proofs.YtleegaihbgbcjaaGreatDoor
open Go.RowKit Num Bit
theorem Gc(N M k V LM H:Int)(ao:Option Addr)(xs:List Nat)(cap:Nat)(qo:Option Addr)(ys:List Nat)(dap:Nat)(w:World)(hx:Wd w ao xs)(fx:Fit xs)(hy:Wd w qo ys)(fy:Fit ys)(xl:xs.length<=cap)(yl:ys.length<=dap)(h:¬((0<=M/\M<=N/\N<=1048576)/\aZ k V LM xs=true/\ar H ys=true)):
  Qq 245 #[.agg #[.int .i64 N,.int .i64 M,.int .i64 k,.int .i64 V,.int .i64 LM,.slice ao xs.length cap,.int .i64 H,.slice qo ys.length dap]] w (.bool false):=by
 have C1:Hid (Qz w 273 #[.agg #[.int .i64 k,.int .i64 V,.int .i64 LM,.slice ao xs.length cap]] (.bool (aZ k V LM xs))):=fun w0 hb=>qE k V LM ao xs cap w0 (hx.keep hb)
 have C2:Hid (Qz w 147 #[.agg #[.int .i64 H,.slice qo ys.length dap]] (.bool (ar H ys))):=fun w0 hb=>bi H qo ys dap w0 (hy.keep hb)
 obtain⟨W,hW⟩:∃W,W=w.alloc (.cells #[.int .i64 N,.int .i64 M,.int .i64 k,.int .i64 V,.int .i64 LM,.slice ao xs.length cap,.int .i64 H,.slice qo ys.length dap] 42):=⟨_,rfl⟩;have bW:=aM hW;have B1:=aU hW
 clear hx hy fx fy;by_cases m0:M<0
 .clear C1 C2 h;go_enter func245,ntmps245;go_wp2;go_ret;rw[<-hW];exact⟨rfl,bW⟩
 by_cases m1:N<M
 .clear C1 C2 h;go_enter func245,ntmps245;go_wp2;go_ret;rw[<-hW];exact⟨rfl,bW⟩
 by_cases n1:1048576<N
 .clear C1 C2 h;go_enter func245,ntmps245;go_wp2;go_ret;rw[<-hW];exact⟨rfl,bW⟩
 cases hk:aZ k V LM xs with
 | false=>
  rw[hk]at C1;clear C2 h hk;go_enter func245,ntmps245;go_wp2_with fail;rw[<-hW];refine mr (C1.out _ bW) fun w1 hb=>?_;have bw1:=bg bW hb;clear hW hb;go_wp2;go_ret;exact⟨rfl,bw1⟩
 | true=>
  have hc:ar H ys=false:=by
   cases hc:ar H ys with
   | false=>rfl
   | true=>exact absurd ⟨by omega,hk,hc⟩ h
  rw[hk]at C1;rw[hc]at C2;clear h hk hc;go_enter func245,ntmps245;go_wp2_with fail;rw[<-hW];refine mr (C1.out _ bW) fun w1 hb=>?_;have bw1:=bg bW hb;replace B1:=B1.kept hb
  have q6:=B1.cell 6 rfl;have q7:=B1.cell 7 rfl;clear hW hb;go_wp2_with fail;refine mr (C2.out _ bw1) fun w2 hb=>?_;have bw2:=bg bw1 hb;clear hb;go_wp2;go_ret;exact⟨rfl,bw2⟩
theorem wn(n mm:Nat)(k V LM H:Int)(ao:Option Addr)(xs:List Nat)(cap:Nat)(qo:Option Addr)(ys:List Nat)(dap:Nat)(w:World)(hx:Wd w ao xs)(fx:Fit xs)(hy:Wd w qo ys)(fy:Fit ys)(xl:xs.length<=cap)(yl:ys.length<=dap)(hn:n<=1048576)(hm:mm<=n)(ik:aZ k V LM xs=true)(ck:ar H ys=true)(B:Bool)(hB:B=true↔(k=(loN n mm:Int)/\V=(max (wdF n mm) 1:Nat)/\H=((mm+n/2^wdF n mm+1:Nat):Int)/\onesI H ys H=(mm:Int))):
  Qq 245 #[.agg #[.int .i64 (n:Nat),.int .i64 (mm:Nat),.int .i64 k,.int .i64 V,.int .i64 LM,.slice ao xs.length cap,.int .i64 H,.slice qo ys.length dap]] w (.bool B):=by
 have C1:Hid (Qz w 273 #[.agg #[.int .i64 k,.int .i64 V,.int .i64 LM,.slice ao xs.length cap]] (.bool true)):=fun w0 hb=>by
  have:=qE k V LM ao xs cap w0 (hx.keep hb);rw[ik]at this;exact this
 have C2:Hid (Qz w 147 #[.agg #[.int .i64 H,.slice qo ys.length dap]] (.bool true)):=fun w0 hb=>by
  have:=bi H qo ys dap w0 (hy.keep hb);rw[ck]at this;exact this
 have C3:Hid (∀w0,Qx 226 #[.int .i64 n,.int .i64 mm] w0 (.tuple #[.int .i64 (loN n mm),.int .i64 (max (wdF n mm) 1:Nat)])):=fun w0=>qJ n mm hn hm w0
 have C4:Hid (∀w0,Qx 229 #[.int .i64 n,.int .i64 mm] w0 (.int .i64 ((mm+n/2^wdF n mm+1:Nat):Int))):=fun w0=>wl n mm hn hm w0
 have C5:Hid (Qz w 156 #[.agg #[.int .i64 H,.slice qo ys.length dap],.int .i64 H] (.int .i64 (onesI H ys H))):=fun w0 hb=>xz H qo ys dap H w0 (hy.keep hb) fy yl
 have HB:=aG hB;obtain⟨W,hW⟩:∃W,W=w.alloc (.cells #[.int .i64 (n:Nat),.int .i64 (mm:Nat),.int .i64 k,.int .i64 V,.int .i64 LM,.slice ao xs.length cap,.int .i64 H,.slice qo ys.length dap] 42):=⟨_,rfl⟩
 have bW:=aM hW;have B1:=aU hW;have i2:¬(1048576:Int)<(n:Int):=by omega
 have i4:¬(mm:Int)<0:=by omega
 have i5:¬(n:Int)<(mm:Int):=by omega
 clear hx hy fx fy ik ck hB;generalize loN n mm=a1 at *;generalize max (wdF n mm) 1=a2 at *;generalize mm+n/2^wdF n mm+1=a3 at *;generalize onesI H ys H=a4 at *;go_enter func245,ntmps245;go_wp2_with fail
 rw[<-hW];refine mr (C1.out _ bW) fun w1 hb=>?_;have bw1:=bg bW hb;replace B1:=B1.kept hb;have q6:=B1.cell 6 rfl;have q7:=B1.cell 7 rfl;clear hW hb bW C1;go_wp2_with fail
 refine mr (C2.out _ bw1) fun w2 hb=>?_;have bw2:=bg bw1 hb;replace B1:=B1.kept hb;clear hb bw1 C2 q6 q7;have q0:=B1.cell 0 rfl;have q1:=B1.cell 1 rfl;go_wp2_with fail
 refine mr (C3.out _) fun w3 h3=>?_;rw[h3];clear h3 C3 q0 q1;go_wp2_with fail
 refine aB [] (fun w0=>aa w0 w.heap.size [.int .i64 (n:Nat),.int .i64 (mm:Nat),.int .i64 k,.int .i64 V,.int .i64 LM,.slice ao xs.length cap,.int .i64 H,.slice qo ys.length dap] 42) (by kernel_rfl) ?_
 have hS:=B1.drew;by_cases e1:k=(a1:Int)
 .have e1b:(k==(a1:Int))=true:=by simp[e1]
  by_cases e2:V=(a2:Int)
  .have e2b:(V==(a2:Int))=true:=by simp[e2]
   by_cases e3:H=(a3:Int)
   .have e3b:(H==(a3:Int))=true:=by simp[e3]
    have HE:Hid (B=(a4==(mm:Int))):=by show B=_;rw[Bool.eq_iff_iff,HB.out];simp[e1,e2,e3]
    clear e1 e2 e3 HB;refine aK 0 hS ?_;refine aK 1 hS ?_;refine aF 2 hS rfl (fun w0 h0=>by have:=h0.cell 2 rfl;go_simp;try with_reducible rfl) ?_;refine aK 3 hS ?_;refine aK 4 hS ?_
    refine aK 5 hS ?_;refine aK 6 hS ?_;refine aK 7 hS ?_;refine aF 8 hS rfl (fun w0 h0=>by have:=h0.cell 3 rfl;go_simp;try with_reducible rfl) ?_;refine aK 9 hS ?_;refine aK 10 hS ?_
    refine aK 11 hS ?_;refine aK 12 hS ?_;refine aK 13 hS ?_;refine aK 14 hS ?_;refine aF 15 hS rfl (fun w0 h0=>by have:=h0.cell 6 rfl;go_simp;try with_reducible rfl) ?_;refine aK 16 hS ?_
    refine aF 17 hS rfl (fun w0 h0=>by have:=h0.cell 0 rfl;go_simp;try with_reducible rfl) ?_;refine aK 18 hS ?_
    refine aF 19 hS rfl (fun w0 h0=>by have:=h0.cell 1 rfl;go_simp;try with_reducible rfl) ?_;refine aO 20 ?_;intro K hK;go_simp;refine mr (C4.out _) fun w4 h4=>?_;rw[h4];clear h4
    refine hK.out _ _ (fun _=>hS) ?_;clear hK K;try simp only[Act.put,ak,aj,ai,ae,ah,ag]
    refine aK 21 hS ?_;refine aK 22 hS ?_;refine aK 23 hS ?_;refine aK 24 hS ?_;refine aF 25 hS rfl (fun w0 h0=>by have:=h0.cell 6 rfl;have:=h0.cell 7 rfl;go_simp;try with_reducible rfl) ?_
    refine aK 26 hS ?_;refine aK 27 hS ?_;refine aF 28 hS rfl (fun w0 h0=>by have:=h0.cell 6 rfl;go_simp;try with_reducible rfl) ?_;refine aK 30 hS ?_
    refine aF 31 hS rfl (fun w0 h0=>by have:=h0.cell 1 rfl;go_simp;try with_reducible rfl) ?_;refine aO 29 ?_;intro K hK;go_simp;refine mr (C5.out _ bw2.drew) fun w5 hb=>?_
    have bw5:=bw2.drew.trans (hb.mono bw2.drew.size);have hS5:=hS.kept hb;clear hb;refine hK.out _ _ (fun _=>hS5) ?_;clear hK K;try simp only[Act.put,ak,aj,ai,ae,ah,ag]
    refine aK 32 hS5 ?_;refine aK 33 hS5 ?_;refine aK 34 hS5 ?_;refine aq.done (by kernel_rfl) ?_ _;go_wp2;go_ret;rw[HE.out];exact⟨rfl,bw5⟩
   .have e3b:(H==(a3:Int))=false:=by simp[e3]
    obtain rfl:B=false:=Bool.eq_false_iff.2 fun h=>by have:=HB.out.1 h;omega
    clear e3 HB;refine aK 0 hS ?_;refine aK 1 hS ?_;refine aF 2 hS rfl (fun w0 h0=>by have:=h0.cell 2 rfl;go_simp;try with_reducible rfl) ?_;refine aK 3 hS ?_;refine aK 4 hS ?_
    refine aK 5 hS ?_;refine aK 6 hS ?_;refine aK 7 hS ?_;refine aF 8 hS rfl (fun w0 h0=>by have:=h0.cell 3 rfl;go_simp;try with_reducible rfl) ?_;refine aK 9 hS ?_;refine aK 10 hS ?_
    refine aK 11 hS ?_;refine aK 12 hS ?_;refine aK 13 hS ?_;refine aK 14 hS ?_;refine aF 15 hS rfl (fun w0 h0=>by have:=h0.cell 6 rfl;go_simp;try with_reducible rfl) ?_;refine aK 16 hS ?_
    refine aF 17 hS rfl (fun w0 h0=>by have:=h0.cell 0 rfl;go_simp;try with_reducible rfl) ?_;refine aK 18 hS ?_
    refine aF 19 hS rfl (fun w0 h0=>by have:=h0.cell 1 rfl;go_simp;try with_reducible rfl) ?_;refine aO 20 ?_;intro K hK;go_simp;refine mr (C4.out _) fun w4 h4=>?_;rw[h4];clear h4
    refine hK.out _ _ (fun _=>hS) ?_;clear hK K;try simp only[Act.put,ak,aj,ai,ae,ah,ag]
    refine aK 21 hS ?_;refine aK 22 hS ?_;refine aK 23 hS ?_;refine aS 24 hS ?_;refine aS 25 hS ?_;refine aS 26 hS ?_;refine aS 27 hS ?_;refine aS 28 hS ?_;refine aS 29 hS ?_
    refine aS 30 hS ?_;refine aS 31 hS ?_;refine aS 32 hS ?_;refine aK 33 hS ?_;refine aK 34 hS ?_;refine aq.done (by kernel_rfl) ?_ _;go_wp2;go_ret;exact⟨rfl,bw2.drew⟩
  .have e2b:(V==(a2:Int))=false:=by simp[e2]
   obtain rfl:B=false:=Bool.eq_false_iff.2 fun h=>by have:=HB.out.1 h;omega
   clear e2 HB;refine aK 0 hS ?_;refine aK 1 hS ?_;refine aF 2 hS rfl (fun w0 h0=>by have:=h0.cell 2 rfl;go_simp;try with_reducible rfl) ?_;refine aK 3 hS ?_;refine aK 4 hS ?_
   refine aK 5 hS ?_;refine aK 6 hS ?_;refine aK 7 hS ?_;refine aF 8 hS rfl (fun w0 h0=>by have:=h0.cell 3 rfl;go_simp;try with_reducible rfl) ?_;refine aK 9 hS ?_;refine aK 10 hS ?_
   refine aK 11 hS ?_;refine aK 12 hS ?_;refine aS 13 hS ?_;refine aS 14 hS ?_;refine aS 15 hS ?_;refine aS 16 hS ?_;refine aS 17 hS ?_;refine aS 18 hS ?_;refine aS 19 hS ?_
   refine aS 20 hS ?_;refine aS 21 hS ?_;refine aK 22 hS ?_;refine aK 23 hS ?_;refine aS 24 hS ?_;refine aS 25 hS ?_;refine aS 26 hS ?_;refine aS 27 hS ?_;refine aS 28 hS ?_
   refine aS 29 hS ?_;refine aS 30 hS ?_;refine aS 31 hS ?_;refine aS 32 hS ?_;refine aK 33 hS ?_;refine aK 34 hS ?_;refine aq.done (by kernel_rfl) ?_ _;go_wp2;go_ret;exact⟨rfl,bw2.drew⟩
 .have e1b:(k==(a1:Int))=false:=by simp[e1]
  obtain rfl:B=false:=Bool.eq_false_iff.2 fun h=>by have:=HB.out.1 h;omega
  clear e1 HB;refine aK 0 hS ?_;refine aK 1 hS ?_;refine aF 2 hS rfl (fun w0 h0=>by have:=h0.cell 2 rfl;go_simp;try with_reducible rfl) ?_;refine aK 3 hS ?_;refine aK 4 hS ?_;refine aK 5 hS ?_
  refine aS 6 hS ?_;refine aS 7 hS ?_;refine aS 8 hS ?_;refine aS 9 hS ?_;refine aS 10 hS ?_;refine aK 11 hS ?_;refine aK 12 hS ?_;refine aS 13 hS ?_;refine aS 14 hS ?_
  refine aS 15 hS ?_;refine aS 16 hS ?_;refine aS 17 hS ?_;refine aS 18 hS ?_;refine aS 19 hS ?_;refine aS 20 hS ?_;refine aS 21 hS ?_;refine aK 22 hS ?_;refine aK 23 hS ?_
  refine aS 24 hS ?_;refine aS 25 hS ?_;refine aS 26 hS ?_;refine aS 27 hS ?_;refine aS 28 hS ?_;refine aS 29 hS ?_;refine aS 30 hS ?_;refine aS 31 hS ?_;refine aS 32 hS ?_
  refine aK 33 hS ?_;refine aK 34 hS ?_;refine aq.done (by kernel_rfl) ?_ _;go_wp2;go_ret;exact⟨rfl,bw2.drew⟩
open Go.RowKit Go.Shelf Num Bit
attribute [local go_sem] Oper.semAt_some
def nx(p:Nat->Nat)(q:Nat):Nat:=if q=0 then 0 else p (q-1)+1
theorem CV(p:Nat->Nat)(q:Nat):nx p (q+1)=p q+1:=rfl
theorem BL(n mm:Nat)(xs:List Nat)(hh:Nat)(ys:List Nat)(q:Nat)(hn:n<=1048576)(hy:hh<=1048576)(hq:q<(plc (bitAt ys) hh).length):plq n mm xs hh ys q<=2199023255552:=by
 have h20:=gS n mm (by omega);have p20:2^wdF n mm<=1048576:=Nat.pow_le_pow_right (show 0<2 by decide) h20;have hl:numAt (wdF n mm) xs q<2^wdF n mm:=gI _ _;have h1:=(jb (bitAt ys) hh).1 q hq
 have h2:(gt (plc (bitAt ys) hh) q-q)*2^wdF n mm<=1048576*1048576:=Nat.mul_le_mul (by omega) p20;have h3:1048576*1048576=1099511627776:=by decide
 unfold plq;omega
theorem Gg(n mm kn vn hh:Nat)(LM:Int)(ao:Option Addr)(xs:List Nat)(cap:Nat)(qo:Option Addr)(ys:List Nat)(dap:Nat)(w:World)(F:fE n mm kn vn LM xs hh ys)(hx:Wd w ao xs)(fx:Fit xs)(hy:Wd w qo ys)(fy:Fit ys)(FC:Hid (Qz w 245 #[.agg #[.int .i64 (n:Nat),.int .i64 (mm:Nat),.int .i64 (kn:Nat),.int .i64 (vn:Nat),.int .i64 LM,.slice ao xs.length cap,.int .i64 (hh:Nat),.slice qo ys.length dap]] (.bool true)))(B:Bool)(hB:B=true↔o_ n mm (plq n mm xs hh ys)):
  Qq 176 #[.agg #[.int .i64 (n:Nat),.int .i64 (mm:Nat),.int .i64 (kn:Nat),.int .i64 (vn:Nat),.int .i64 LM,.slice ao xs.length cap,.int .i64 (hh:Nat),.slice qo ys.length dap]] w (.bool B):=by
 have nl:=F.hn;have hb20:=(bp _ _ F.ck).2.1;have PL:Hid (∀q,q<mm->plq n mm xs hh ys q<=2199023255552):=fun q hq=>BL n mm xs hh ys q nl (by omega) (by rw[F.on];exact hq);have HB:=aG hB;clear hB
 refine(callsIn_wide (n:=0)).1 (callsIn_of_wp_marks func176 rfl trivial ?_)
 simp only[ntmps176,List.size_toArray,List.length_cons,List.length_nil,Nat.reduceAdd,Nat.reduceSub,Array.replicate_succ,Array.replicate_zero,List.push_toArray,List.append_toArray,List.nil_append,List.cons_append]
 refine wpIn_wide.2 ?_
 have PC:Hid (∀w0,Calls prog 202 #[.agg #[.int .i64 (n:Nat),.int .i64 (mm:Nat),.int .i64 (kn:Nat),.int .i64 (vn:Nat),.int .i64 LM,.slice ao xs.length cap,.int .i64 (hh:Nat),.slice qo ys.length dap]] w0 fun e w'=>e=.returned (.func (.func 257) #[] #[.pointer (some ⟨w0.heap.size,0,none⟩),.pointer (some ⟨w0.heap.size+1,0,none⟩)])/\aa w' w0.heap.size [.int .i64 (n:Nat),.int .i64 (mm:Nat),.int .i64 (kn:Nat),.int .i64 (vn:Nat),.int .i64 LM,.slice ao xs.length cap,.int .i64 (hh:Nat),.slice qo ys.length dap] 42/\aa w' (w0.heap.size+1) [.int .i64 (wdF n mm:Nat)] 3/\w'.heap.size=w0.heap.size+2/\Below w0.heap.size w0 w'):=fun w0=>kQ n mm kn vn hh LM ao xs cap qo ys dap F.hn F.hm w0
 obtain⟨W1,hW1⟩:∃W1,W1=(w.alloc (.cells #[.int .i64 (n:Nat),.int .i64 (mm:Nat),.int .i64 (kn:Nat),.int .i64 (vn:Nat),.int .i64 LM,.slice ao xs.length cap,.int .i64 (hh:Nat),.slice qo ys.length dap] 42)).alloc (.cells #[.bool false] 4):=⟨_,rfl⟩
 have b1:Below w.heap.size w W1:=by rw[hW1];exact((below_alloc w _).alloc (by simp only[World.size_alloc];omega) _)
 have z1:W1.heap.size=w.heap.size+2:=by rw[hW1];simp
 have c0:aa W1 w.heap.size [.int .i64 (n:Nat),.int .i64 (mm:Nat),.int .i64 (kn:Nat),.int .i64 (vn:Nat),.int .i64 LM,.slice ao xs.length cap,.int .i64 (hh:Nat),.slice qo ys.length dap] 42:=by rw[hW1];exact(aa.new w _ _).alloc _
 have c1:aa W1 (w.heap.size+1) [.bool false] 4:=by rw[hW1];exact aa.new2 w _ _ _
 go_wp2_with fail;rw[<-hW1];clear hW1;refine mr (FC.out _ b1) fun wf hb=>?_;replace b1:=bg b1 hb;replace c0:=c0.kept hb;replace c1:=c1.kept hb
 have zf:w.heap.size+2<=wf.heap.size:=by have:=hb.size;omega
 clear hb FC z1;obtain⟨g1,hg1⟩:∃g,g=wf.heap.size:=⟨_,rfl⟩;obtain⟨W2,hW2⟩:∃W2,W2=wf.alloc (.cells #[.int .i64 0] 3):=⟨_,rfl⟩;have bA:Below wf.heap.size wf W2:=by rw[hW2];exact below_alloc wf _
 have z2:W2.heap.size=g1+1:=by rw[hW2,hg1];simp
 have c2:aa W2 g1 [.int .i64 0] 3:=by rw[hW2,hg1];exact aa.new wf _ _
 have d0:aa (wf.alloc (.cells #[.int .i64 0] 3)) w.heap.size [.int .i64 (n:Nat),.int .i64 (mm:Nat),.int .i64 (kn:Nat),.int .i64 (vn:Nat),.int .i64 LM,.slice ao xs.length cap,.int .i64 (hh:Nat),.slice qo ys.length dap] 42:=c0.alloc _
 have q0:=d0.cell 0 rfl;have q1:=d0.cell 1 rfl;have q2:=d0.cell 2 rfl;have q3:=d0.cell 3 rfl;have q4:=d0.cell 4 rfl;have q5:=d0.cell 5 rfl;have q6:=d0.cell 6 rfl;have q7:=d0.cell 7 rfl;have HG:=aG hg1
 clear hg1;have HW2:=aG hW2;clear hW2;go_wp2_with fail;rw[<-HW2.out];refine(PC.out _).mono ?_;rintro e w' ⟨rfl,cx,cw,z3,b3⟩;rw[z2]at cx cw z3 b3;rw[z2,<-HG.out];rw[<-HG.out]at zf
 have b4:Below w.heap.size w w':=(bg b1 bA).trans (b3.mono (by omega));replace c0:=(c0.kept bA).keep b3 (by omega);replace c1:=(c1.kept bA).keep b3 (by omega);replace c2:=c2.keep b3 (by omega)
 clear b1 bA b3 PC HW2 d0 q0 q1 q2 q3 q4 q5 q6 q7;go_wp2
 have G:=(kh n mm kn vn hh LM ao xs cap qo ys dap (fun b=>(b≠w.heap.size+1/\b≠g1)/\b≠w'.heap.size+1) w' (g1+1) (g1+1+1) F (hx.keep b4) fx (hy.keep b4) fy cx cw (by omega) (by omega) (fun p hp h0=>by have:=hx.blk hp h0;omega) (fun p hp h0=>by have:=hy.blk hp h0;omega))
 generalize plq n mm xs hh ys=p at *
 refine iC (gf:=257) (lb:=#[.pointer (some ⟨g1+1,0,none⟩),.pointer (some ⟨g1+2,0,none⟩)]) (K:=fun b=>b≠w.heap.size+1/\b≠g1) rfl (enters_of func257 (by kernel_rfl) rfl) (fun _=>rfl) G (fun b hb=>by omega)
  (fun q Wc=>az (fun b=>b≠w.heap.size+1/\b≠g1) w' Wc/\aa Wc (w.heap.size+1) [.bool false] 4/\aa Wc g1 [.int .i64 (nx p q:Nat)] 3/\∀j,j<q->p j<n/\(0<j->p (j-1)<p j)) (fun q Wc=>az (fun b=>b≠w.heap.size+1/\b≠g1) w' Wc/\aa Wc (w.heap.size+1) [.bool false] 4/\¬o_ n mm p) (fun q A B h hb=>⟨h.1.more hb (Nat.le_refl _),h.2.1.keep hb (by omega),h.2.2.1.keep hb (by omega),h.2.2.2⟩) (fun q A B h hb=>⟨h.1.more hb (Nat.le_refl _),h.2.1.keep hb (by omega),h.2.2⟩) ⟨az.refl _ _,c1,c2,fun j hj=>absurd hj (by omega)⟩
  (fun q=>{ tmps:=#[.agg #[.int .i64 (n:Nat),.int .i64 (mm:Nat),.int .i64 (kn:Nat),.int .i64 (vn:Nat),.int .i64 LM,.slice ao xs.length cap,.int .i64 (hh:Nat),.slice qo ys.length dap],.pointer (some ⟨w.heap.size,0,none⟩),.pointer (some ⟨w.heap.size+1,0,none⟩),.pointer (some ⟨g1,0,none⟩),undef,.int .i64 (p q:Nat),.agg #[.int .i64 (n:Nat),.int .i64 (mm:Nat),.int .i64 (kn:Nat),.int .i64 (vn:Nat),.int .i64 LM,.slice ao xs.length cap,.int .i64 (hh:Nat),.slice qo ys.length dap],.bool true,.bool false,.agg #[.int .i64 (n:Nat),.int .i64 (mm:Nat),.int .i64 (kn:Nat),.int .i64 (vn:Nat),.int .i64 LM,.slice ao xs.length cap,.int .i64 (hh:Nat),.slice qo ys.length dap],.func (.func 257) #[] #[.pointer (some ⟨g1+1,0,none⟩),.pointer (some ⟨g1+2,0,none⟩)],.int .i64 (q:Nat),.int .i64 (p q:Nat),undef,undef,undef,undef,undef,undef,undef,undef,undef,undef,undef],defers:=[] }) ?assign ?body ?done ?stop
 case assign=>
  intro l1 q Wc K1 hK1;gi_wp2;exact hK1
 case body=>
  rintro l1 q Wc hq ⟨hk,cR,cN,hlt⟩ hz;have m0:=(hk.cel c0 (by omega)).cell 0 rfl;have r0:=cR.cell 0 rfl;have r1:=cR.frozen 0;have s0:=cN.cell 0 rfl;have s1:=cN.frozen 0;have pq:=PL.out q hq
  have NS:=aG (CV p q)
  have NG:Hid (p q<nx p q\/n<=p q->¬o_ n mm p):=fun h hG=>by
   obtain⟨g1,g2⟩:=hG q hq;unfold nx at h;split at h
   .omega
   .have:=g2 (by omega);omega
  have NN:Hid (¬(p q<nx p q\/n<=p q)->∀j,j<q+1->p j<n/\(0<j->p (j-1)<p j)):=fun h j hj=>by
   by_cases e:j=q
   .subst e;unfold nx at h;split at h
    .exact⟨by omega,fun h0=>by omega⟩
    .exact⟨by omega,fun h0=>by omega⟩
   .exact hlt j (by omega)
  have HX:Hid (az (fun b=>b≠w.heap.size+1/\b≠g1) Wc (Wc.setCell ⟨w.heap.size+1,0,none⟩ (.bool false))/\az (fun b=>b≠w.heap.size+1/\b≠g1) w' (Wc.setCell ⟨w.heap.size+1,0,none⟩ (.bool false))/\aa (Wc.setCell ⟨w.heap.size+1,0,none⟩ (.bool false)) (w.heap.size+1) [.bool false] 4):=⟨(az.refl _ _).setCell (fun h=>h.1 rfl) _,hk.setCell (fun h=>h.1 rfl) _,cR.set 0 _⟩
  have HY:Hid (az (fun b=>b≠w.heap.size+1/\b≠g1) Wc (Wc.setCell ⟨g1,0,none⟩ (.int .i64 ((p q:Int)+1)))/\az (fun b=>b≠w.heap.size+1/\b≠g1) w' (Wc.setCell ⟨g1,0,none⟩ (.int .i64 ((p q:Int)+1)))/\aa (Wc.setCell ⟨g1,0,none⟩ (.int .i64 ((p q:Int)+1))) (w.heap.size+1) [.bool false] 4/\aa (Wc.setCell ⟨g1,0,none⟩ (.int .i64 ((p q:Int)+1))) g1 [.int .i64 (nx p (q+1):Nat)] 3):=⟨(az.refl _ _).setCell (fun h=>h.2 rfl) _,hk.setCell (fun h=>h.2 rfl) _,cR.other (show w.heap.size+1≠g1 by omega) _,by rw[NS.out,show((p q+1:Nat):Int)=(p q:Int)+1 by omega];exact cN.set 0 _⟩
  clear G hlt PL;generalize nx p q=a at *;by_cases h1:p q<a
  .have h12:(p q:Int)<(a:Int):=by omega
   gi_wp2;exact⟨HX.out.1,HX.out.2.1,HX.out.2.2,NG.out (.inl h1)⟩
  .have h12:¬(p q:Int)<(a:Int):=by omega
   by_cases h2:n<=p q
   .have h22:(n:Int)<=(p q:Int):=by omega
    gi_wp2;exact⟨HX.out.1,HX.out.2.1,HX.out.2.2,NG.out (.inr h2)⟩
   .have h22:¬(n:Int)<=(p q:Int):=by omega
    gi_wp2;exact⟨HY.out.1,HY.out.2.1,HY.out.2.2.1,HY.out.2.2.2,NN.out (by omega)⟩
 case done=>
  rintro D Wc hD ⟨hk,cR,cN,hlt⟩ hd;have r0:=cR.cell 0 rfl;have r1:=cR.frozen 0
  have hb:=aG (((hk.below (B:=w.heap.size) (fun x h=>by omega) (by omega))).setCell (p:=⟨w.heap.size+1,0,none⟩) (show w.heap.size<=w.heap.size+1 by omega) (.bool true));have cS:=aG (cR.set 0 (.bool true))
  have hd2:=aG ((Below.heap_setCell Wc ⟨w.heap.size+1,0,none⟩ (.bool true) D (show D≠w.heap.size+1 by omega)).trans hd);obtain rfl:B=true:=HB.out.2 hlt;clear hd hk hlt;go_wp2
  have cR2:=(cS.out.put (.deferred none) (show w.heap.size+1≠D by omega)).cell 0 rfl
  exact fc hd2.out (v:=.bool true) (by simp[results,Tryz.results176,go_sem,cR2]) ⟨rfl,b4.trans (hb.out.trans (du (by omega) _))⟩
 case stop=>
  rintro D q Wc hD hq ⟨hk,cR,hn⟩ hd;obtain rfl:B=false:=Bool.eq_false_iff.2 fun h=>hn (HB.out.1 h);go_wp2;have cR2:=(cR.put (.deferred none) (show w.heap.size+1≠D by omega)).cell 0 rfl
  exact fc hd (v:=.bool false) (by simp[results,Tryz.results176,go_sem,cR2]) ⟨rfl,b4.trans ((hk.below (fun x h=>by omega) (by omega)).trans (du (by omega) _))⟩
theorem wF(a0 a1 a2 a3 a4 a5 a6 a7:Value)(w:World)(FC:Hid (Qz w 245 #[.agg #[a0,a1,a2,a3,a4,a5,a6,a7]] (.bool false))):
  Qq 176 #[.agg #[a0,a1,a2,a3,a4,a5,a6,a7]] w (.bool false):=by
 refine(callsIn_wide (n:=0)).1 (callsIn_of_wp_marks func176 rfl trivial ?_)
 simp only[ntmps176,List.size_toArray,List.length_cons,List.length_nil,Nat.reduceAdd,Nat.reduceSub,Array.replicate_succ,Array.replicate_zero,List.push_toArray,List.append_toArray,List.nil_append,List.cons_append]
 refine wpIn_wide.2 ?_;obtain⟨W1,hW1⟩:∃W1,W1=(w.alloc (.cells #[a0,a1,a2,a3,a4,a5,a6,a7] 42)).alloc (.cells #[.bool false] 4):=⟨_,rfl⟩
 have b1:Below w.heap.size w W1:=by rw[hW1];exact((below_alloc w _).alloc (by simp only[World.size_alloc];omega) _)
 have c1:aa W1 (w.heap.size+1) [.bool false] 4:=by rw[hW1];exact aa.new2 w _ _ _
 go_wp2_with fail;rw[<-hW1];clear hW1;refine mr (FC.out _ b1) fun wf hb=>?_;replace b1:=bg b1 hb;replace c1:=c1.kept hb;have r0:=c1.cell 0 rfl;have r1:=c1.frozen 0
 have HZ:=aG (And.intro (c1.set 0 (.bool false)) (b1.setCell (p:=⟨w.heap.size+1,0,none⟩) (show w.heap.size<=w.heap.size+1 by omega) (.bool false)));clear hb FC b1;go_wp2;have r2:=HZ.out.1.cell 0 rfl
 exact⟨.bool false,by simp[results,Tryz.results176,go_sem,r2],rfl,HZ.out.2⟩
theorem kJ(a:bm)(h:kOk9 a=true):∃(n mm kn vn hh:Nat) (LM:Int) (xs ys:List Nat),a=⟨n,mm,kn,vn,LM,xs,hh,ys⟩:=by
 obtain⟨_,e⟩:=qx a h;rw[e];exact⟨_,_,_,_,_,_,_,_,rfl⟩
theorem ID(cs:List Value)(a:bm)(w:World)(h:bK w cs a):
  Qq 176 #[.agg cs.toArray] w (.bool (kOk9 a)):=by
 obtain⟨⟨ao,cap,qo,dap,rfl,ir,a1,a2,a3,a4,a5,a6⟩,n3,xl,yl⟩:=h;obtain⟨N,M,k,V,LM,xs,H,ys⟩:=a;dsimp only at *;by_cases P1:(0<=M/\M<=N/\N<=1048576)/\aZ k V LM xs=true/\ar H ys=true
 .obtain⟨⟨p1,p2,p3⟩,p4,p5⟩:=P1;obtain⟨v1,v2,v3,v4,v5,v6,v7,v8⟩:=iJ _ _ _ _ p4;obtain⟨u1,u2,u3,u4⟩:=bp _ _ p5;obtain⟨n,rfl⟩:=Int.eq_ofNat_of_zero_le (show 0<=N by omega)
  obtain⟨mm,rfl⟩:=Int.eq_ofNat_of_zero_le p1;obtain⟨kn,rfl⟩:=Int.eq_ofNat_of_zero_le v3;obtain⟨vn,rfl⟩:=Int.eq_ofNat_of_zero_le (show 0<=V by omega);obtain⟨hh,rfl⟩:=Int.eq_ofNat_of_zero_le u1
  have on:onesI (hh:Int) ys (hh:Int)=((plc (bitAt ys) hh).length:Int):=by
   rw[ua];unfold onesI;rw[p5,show min (hh:Int) (hh:Int)=(hh:Int)by omega,Int.toNat_natCast];rfl
  by_cases P2:(kn:Int)=(loN n mm:Int)/\(vn:Int)=(max (wdF n mm) 1:Nat)/\(hh:Int)=((mm+n/2^wdF n mm+1:Nat):Int)/\onesI (hh:Int) ys (hh:Int)=(mm:Int)
  .obtain⟨g1,g2,g3,g4⟩:=P2;rw[on]at g4;have F:fE n mm kn vn LM xs hh ys:=⟨by omega,by omega,p4,p5,by omega,by omega,by omega,by omega⟩
   have FC:Hid (Qz w 245 #[.agg #[.int .i64 (n:Nat),.int .i64 (mm:Nat),.int .i64 (kn:Nat),.int .i64 (vn:Nat),.int .i64 LM,.slice ao xs.length cap,.int .i64 (hh:Nat),.slice qo ys.length dap]] (.bool true)):=fun w0 hb=>
    wn n mm kn vn LM hh ao xs cap qo ys dap w0 (a1.keep hb) a2 (a4.keep hb) a5 a3 a6 (by omega) (by omega) p4 p5 true ⟨fun _=>⟨g1,g2,g3,by rw[on];exact g4⟩,fun _=>rfl⟩
   refine Gg n mm kn vn hh LM ao xs cap qo ys dap w F a1 a2 a4 a5 FC _ ⟨fun hk=>?_,fun hG=>GB n mm kn vn hh LM xs ys a2 a5 F hG⟩;obtain⟨_,hl,hg,hr⟩:=ji n mm kn vn hh LM xs ys hk;intro q hq
   rw[hg q hq];refine⟨hr.1 q (by omega),fun h0=>?_⟩;rw[hg (q-1) (by omega)];exact hr.lt (by omega) (by omega)
  .have ko:kOk9 ⟨n,mm,kn,vn,LM,xs,hh,ys⟩=false:=Bool.eq_false_iff.2 fun hk=>by
    obtain⟨F,_⟩:=ji n mm kn vn hh LM xs ys hk;exact P2 ⟨by rw[F.hk],by rw[F.hv],by rw[F.hh],by rw[on,F.on]⟩
   rw[ko];refine wF _ _ _ _ _ _ _ _ w fun w0 hb=>?_
   exact wn n mm kn vn LM hh ao xs cap qo ys dap w0 (a1.keep hb) a2 (a4.keep hb) a5 a3 a6 (by omega) (by omega) p4 p5 false ⟨fun h=>absurd h (by simp),fun h=>absurd h P2⟩
 .have ko:kOk9 ⟨N,M,k,V,LM,xs,H,ys⟩=false:=Bool.eq_false_iff.2 fun hk=>by
   obtain⟨n,mm,kn,vn,hh,LM',xs',ys',e⟩:=kJ _ hk;simp only[FA.mk.injEq]at e;obtain⟨rfl,rfl,rfl,rfl,rfl,rfl,rfl,rfl⟩:=e;obtain⟨F,_⟩:=ji n mm kn vn hh LM xs ys hk
   exact P1 ⟨⟨by omega,by have:=F.hm;omega,by have:=F.hn;omega⟩,F.ik,F.ck⟩
  rw[ko];refine wF _ _ _ _ _ _ _ _ w fun w0 hb=>?_;exact Gc N M k V LM H ao xs cap qo ys dap w0 (a1.keep hb) a2 (a4.keep hb) a5 a3 a6 P1
theorem iq{w:World}{cs:List Value}{a:bm}(h:bK w cs a)(b:Bool)(hb:kOk9 a=b):Hid (Qz w 176 #[.agg cs.toArray] (.bool b)):=fun w0 hw=>by
 have:=ID cs a w0 (h.keep hw);rw[hb]at this;exact this
theorem Jr(cs:List Value)(a:bm)(w:World)(h:bK w cs a):
  Calls prog 131 #[.agg cs.toArray] w fun e w'=>∃bo bc,e=.returned (.agg #[.int .i64 (kBN9 a),.slice bo (kBX9 a).length bc])/\Wd w' bo (kBX9 a)/\(kBX9 a).length<=bc/\Below w.heap.size w w':=by
 cases hk:kOk9 a with
 | false=>
  have CC:=iq h false hk;have e1:kBN9 a=0:=by unfold kBN9;rw[hk];rfl
  have e2:kBX9 a=[]:=by unfold kBX9;rw[hk];rfl
  rw[e1,e2];obtain⟨⟨ao,cap,qo,dap,rfl,_⟩,_⟩:=h;refine mr (Gk _ _ _ _ _ _ _ _ w CC) fun w' hb=>?_;exact⟨none,0,rfl,dW _ _,Nat.zero_le _,hb⟩
 | true=>
  have CC:=iq h true hk;obtain⟨n,mm,kn,vn,hh,LM,xs,ys,rfl⟩:=kJ a hk;obtain⟨F,hl,hg,hr⟩:=ji n mm kn vn hh LM xs ys hk
  have e1:kBN9 ⟨n,mm,kn,vn,LM,xs,hh,ys⟩=(n:Int):=by unfold kBN9;rw[if_pos hk]
  have e2:kBX9 ⟨n,mm,kn,vn,LM,xs,hh,ys⟩=rowOf n (isIn (kRow ⟨n,mm,kn,vn,LM,xs,hh,ys⟩)):=by unfold kBX9;rw[if_pos hk];rfl
  rw[e1,e2];obtain⟨⟨ao,cap,qo,dap,rfl,ir,a1,a2,a3,a4,a5,a6⟩,n3,xl,yl⟩:=h;exact Gj n mm kn vn hh LM ao xs cap qo ys dap _ w F a1 a2 a4 a5 hl hg hr CC
theorem zI(cs:List Value)(a:bm)(w:World)(h:bK w cs a):
  Qq 120 #[.agg cs.toArray] w (.int .i64 (kZ9 a)):=by
 cases hk:kOk9 a with
 | false=>
  have CC:=iq h false hk;have e1:kZ9 a=0:=by unfold kZ9;rw[hk];rfl
  rw[e1];obtain⟨⟨ao,cap,qo,dap,rfl,_⟩,_⟩:=h;obtain⟨N,M,k,V,LM,xs,H,ys⟩:=a;dsimp only at *
  obtain⟨W,hW⟩:∃W,W=w.alloc (.cells #[.int .i64 N,.int .i64 M,.int .i64 k,.int .i64 V,.int .i64 LM,.slice ao xs.length cap,.int .i64 H,.slice qo ys.length dap] 42):=⟨_,rfl⟩;have bW:=aM hW;have B1:=aU hW
  go_enter func120,ntmps120;go_wp2_with fail;rw[<-hW];refine mr (CC.out _ bW) fun w1 hb=>?_;have bw1:=bg bW hb;replace B1:=B1.kept hb;clear hb CC hW bW;go_wp2;go_ret;exact⟨rfl,bw1⟩
 | true=>
  have CC:=iq h true hk;obtain⟨n,mm,kn,vn,hh,LM,xs,ys,rfl⟩:=kJ a hk;obtain⟨F,hl,hg,hr⟩:=ji n mm kn vn hh LM xs ys hk
  have e1:kZ9 ⟨n,mm,kn,vn,LM,xs,hh,ys⟩=LM+(hh:Int)+64:=by unfold kZ9;rw[if_pos hk]
  rw[e1];obtain⟨_,_,_,_,_,l1,l2,_⟩:=iJ _ _ _ _ F.ik;obtain⟨_,l3,_,_⟩:=bp _ _ F.ck;obtain⟨⟨ao,cap,qo,dap,rfl,ir,a1,a2,a3,a4,a5,a6⟩,n3,xl,yl⟩:=h;dsimp only at *
  clear ir a1 a2 a3 a4 a5 a6 F hl hg hr hk
  obtain⟨W,hW⟩:∃W,W=w.alloc (.cells #[.int .i64 (n:Nat),.int .i64 (mm:Nat),.int .i64 (kn:Nat),.int .i64 (vn:Nat),.int .i64 LM,.slice ao xs.length cap,.int .i64 (hh:Nat),.slice qo ys.length dap] 42):=⟨_,rfl⟩
  have bW:=aM hW;have B1:=aU hW;go_enter func120,ntmps120;go_wp2_with fail;rw[<-hW];refine mr (CC.out _ bW) fun w1 hb=>?_;have bw1:=bg bW hb;replace B1:=B1.kept hb
  clear hb CC hW bW;have q4:=B1.cell 4 rfl;have q6:=B1.cell 6 rfl;go_wp2;go_ret;exact⟨rfl,bw1⟩
theorem JZ(cs:List Value)(a:bm)(i:Int)(w:World)(h:bK w cs a)(hi:ax i):
  Qq 105 #[.agg cs.toArray,.int .i64 i] w (.tuple #[.bool (gaB (kOk9 a) (kBN9 a) (kBX9 a) i),.int .i64 (gaE (kOk9 a) (kBN9 a) (kBX9 a) i)]):=by
 obtain⟨P1,hP1⟩:∃P:Bool,Hid (P=gaB (kOk9 a) (kBN9 a) (kBX9 a) i):=⟨gaB (kOk9 a) (kBN9 a) (kBX9 a) i,(rfl:gaB (kOk9 a) (kBN9 a) (kBX9 a) i=gaB (kOk9 a) (kBN9 a) (kBX9 a) i)⟩
 obtain⟨P2,hP2⟩:∃P:Int,Hid (P=gaE (kOk9 a) (kBN9 a) (kBX9 a) i):=⟨gaE (kOk9 a) (kBN9 a) (kBX9 a) i,(rfl:gaE (kOk9 a) (kBN9 a) (kBX9 a) i=gaE (kOk9 a) (kBN9 a) (kBX9 a) i)⟩;rw[<-hP1.out,<-hP2.out]
 cases hk:kOk9 a with
 | false=>
  have CC:=iq h false hk
  have E:Hid (P1=false/\P2=2):=by
   show _/\_;rw[hP1.out,hP2.out];unfold gaB gaE;rw[hk];exact⟨rfl,rfl⟩
  obtain⟨⟨ao,cap,qo,dap,rfl,_⟩,_⟩:=h;obtain⟨N,M,k,V,LM,xs,H,ys⟩:=a;dsimp only at *;clear hP1 hP2
  obtain⟨W,hW⟩:∃W,W=w.alloc (.cells #[.int .i64 N,.int .i64 M,.int .i64 k,.int .i64 V,.int .i64 LM,.slice ao xs.length cap,.int .i64 H,.slice qo ys.length dap] 42):=⟨_,rfl⟩;have bW:=aM hW;have B1:=aU hW
  go_enter func105,ntmps105;go_wp2_with fail;rw[<-hW];refine mr (CC.out _ bW) fun w1 hb=>?_;have bw1:=bg bW hb;replace B1:=B1.kept hb;clear hb CC hW bW;go_wp2;go_ret2
  rw[E.out.1,E.out.2];exact⟨rfl,bw1⟩
 | true=>
  have CC:=iq h true hk;have hck:=oa a hk;obtain⟨n,mm,kn,vn,hh,LM,xs,ys,rfl⟩:=kJ a hk;obtain⟨F,hl,hg,hr⟩:=ji n mm kn vn hh LM xs ys hk
  have e1:kBN9 ⟨n,mm,kn,vn,LM,xs,hh,ys⟩=(n:Int):=by unfold kBN9;rw[if_pos hk]
  have e2:kBX9 ⟨n,mm,kn,vn,LM,xs,hh,ys⟩=rowOf n (isIn (kRow ⟨n,mm,kn,vn,LM,xs,hh,ys⟩)):=by unfold kBX9;rw[if_pos hk];rfl
  rw[e1,e2]at hck;rw[hk,e1,e2]at hP1;rw[hk,e1,e2]at hP2;generalize kRow ⟨n,mm,kn,vn,LM,xs,hh,ys⟩=l at *;obtain⟨⟨ao,cap,qo,dap,rfl,ir,a1,a2,a3,a4,a5,a6⟩,n3,xl,yl⟩:=h;dsimp only at *
  have nl:=F.hn;have ml:=F.hm;clear hk e1 e2 n3 xl yl ir
  obtain⟨W,hW⟩:∃W,W=w.alloc (.cells #[.int .i64 (n:Nat),.int .i64 (mm:Nat),.int .i64 (kn:Nat),.int .i64 (vn:Nat),.int .i64 LM,.slice ao xs.length cap,.int .i64 (hh:Nat),.slice qo ys.length dap] 42):=⟨_,rfl⟩
  have bW:=aM hW;have B1:=aU hW;by_cases i0:i<0\/(n:Int)<=i
  .have E:Hid (P1=false/\P2=3):=by
    show _/\_;rw[hP1.out,hP2.out];unfold gaB gaE dh cH;rw[hck,if_pos rfl,if_neg (by simp),if_pos i0,decide_eq_false (by omega)];exact⟨rfl,rfl⟩
   clear hP1 hP2 hck hl hg hr F a1 a4 a2 a5;rcases i0 with i0 | i0
   .skip;go_enter func105,ntmps105;go_wp2_with fail;rw[<-hW];refine mr (CC.out _ bW) fun w1 hb=>?_;have bw1:=bg bW hb;replace B1:=B1.kept hb;clear hb CC hW bW
    have q0:=B1.cell 0 rfl;go_wp2;go_ret2;rw[E.out.1,E.out.2];exact⟨rfl,bw1⟩
   .skip;have i1:¬i<0:=by omega
    go_enter func105,ntmps105;go_wp2_with fail;rw[<-hW];refine mr (CC.out _ bW) fun w1 hb=>?_;have bw1:=bg bW hb;replace B1:=B1.kept hb;clear hb CC hW bW;have q0:=B1.cell 0 rfl
    go_wp2;go_ret2;rw[E.out.1,E.out.2];exact⟨rfl,bw1⟩
  .obtain⟨j,rfl⟩:=Int.eq_ofNat_of_zero_le (show 0<=i by omega)
   have E:Hid (P1=isIn l j/\P2=0):=by
    show _/\_;rw[hP1.out,hP2.out];unfold gaB gaE dh cH;rw[hck,if_pos rfl,if_neg (by simp),if_neg i0,decide_eq_true (by omega),Int.toNat_natCast,oV n l hr];exact⟨rfl,rfl⟩
   have C2:Hid (Qz w 177 #[.agg #[.int .i64 (n:Nat),.int .i64 (mm:Nat),.int .i64 (kn:Nat),.int .i64 (vn:Nat),.int .i64 LM,.slice ao xs.length cap,.int .i64 (hh:Nat),.slice qo ys.length dap],.int .i64 (j:Nat)] (.bool (isIn l j))):=fun w0 hb=>FZ n mm kn vn hh LM ao xs cap qo ys dap l w0 F (a1.keep hb) a2 (a4.keep hb) a5 hl hg hr j (by omega)
   have i1:¬(j:Int)<0:=by omega
   have i2:¬(n:Int)<=(j:Int):=by omega
   clear hP1 hP2 hck hl hg hr F a1 a4 a2 a5 i0;go_enter func105,ntmps105;go_wp2_with fail;rw[<-hW];refine mr (CC.out _ bW) fun w1 hb=>?_;have bw1:=bg bW hb;replace B1:=B1.kept hb
   clear hb CC hW bW;have q0:=B1.cell 0 rfl;have q1:=B1.cell 1 rfl;have q2:=B1.cell 2 rfl;have q3:=B1.cell 3 rfl;have q4:=B1.cell 4 rfl;have q5:=B1.cell 5 rfl;have q6:=B1.cell 6 rfl;have q7:=B1.cell 7 rfl
   go_wp2_with fail;refine mr (C2.out _ bw1) fun w2 hb=>?_;have bw2:=bg bw1 hb;clear hb;go_wp2;go_ret2;rw[E.out.1,E.out.2];exact⟨rfl,bw2⟩
theorem AZ(cs:List Value)(a:bm)(bit:Bool)(i:Int)(w:World)(h:bK w cs a)(hi:ax i):
  Qq 108 #[.agg cs.toArray,.bool bit,.int .i64 i] w (.tuple #[.int .i64 (grN (kOk9 a) (kBN9 a) (kBX9 a) bit i),.int .i64 (grE (kOk9 a) (kBN9 a) i)]):=by
 obtain⟨P1,hP1⟩:∃P:Int,Hid (P=grN (kOk9 a) (kBN9 a) (kBX9 a) bit i):=⟨grN (kOk9 a) (kBN9 a) (kBX9 a) bit i,(rfl:grN (kOk9 a) (kBN9 a) (kBX9 a) bit i=grN (kOk9 a) (kBN9 a) (kBX9 a) bit i)⟩
 obtain⟨P2,hP2⟩:∃P:Int,Hid (P=grE (kOk9 a) (kBN9 a) i):=⟨grE (kOk9 a) (kBN9 a) i,(rfl:grE (kOk9 a) (kBN9 a) i=grE (kOk9 a) (kBN9 a) i)⟩;rw[<-hP1.out,<-hP2.out];cases hk:kOk9 a with
 | false=>
  have CC:=iq h false hk
  have E:Hid (P1=0/\P2=2):=by
   show _/\_;rw[hP1.out,hP2.out];unfold grN grE;rw[hk];exact⟨rfl,rfl⟩
  obtain⟨⟨ao,cap,qo,dap,rfl,_⟩,_⟩:=h;obtain⟨N,M,k,V,LM,xs,H,ys⟩:=a;dsimp only at *;clear hP1 hP2
  obtain⟨W,hW⟩:∃W,W=w.alloc (.cells #[.int .i64 N,.int .i64 M,.int .i64 k,.int .i64 V,.int .i64 LM,.slice ao xs.length cap,.int .i64 H,.slice qo ys.length dap] 42):=⟨_,rfl⟩;have bW:=aM hW;have B1:=aU hW
  go_enter func108,ntmps108;go_wp2_with fail;rw[<-hW];refine mr (CC.out _ bW) fun w1 hb=>?_;have bw1:=bg bW hb;replace B1:=B1.kept hb;clear hb CC hW bW;go_wp2;go_ret2
  rw[E.out.1,E.out.2];exact⟨rfl,bw1⟩
 | true=>
  have CC:=iq h true hk;have hck:=oa a hk;obtain⟨n,mm,kn,vn,hh,LM,xs,ys,rfl⟩:=kJ a hk;obtain⟨F,hl,hg,hr⟩:=ji n mm kn vn hh LM xs ys hk
  have e1:kBN9 ⟨n,mm,kn,vn,LM,xs,hh,ys⟩=(n:Int):=by unfold kBN9;rw[if_pos hk]
  have e2:kBX9 ⟨n,mm,kn,vn,LM,xs,hh,ys⟩=rowOf n (isIn (kRow ⟨n,mm,kn,vn,LM,xs,hh,ys⟩)):=by unfold kBX9;rw[if_pos hk];rfl
  rw[e1,e2]at hck;rw[hk,e1,e2]at hP1;rw[hk,e1]at hP2;generalize kRow ⟨n,mm,kn,vn,LM,xs,hh,ys⟩=l at *;obtain⟨⟨ao,cap,qo,dap,rfl,ir,a1,a2,a3,a4,a5,a6⟩,n3,xl,yl⟩:=h;dsimp only at *;have nl:=F.hn
  have ml:=F.hm;clear hk e1 e2 n3 xl yl ir
  obtain⟨W,hW⟩:∃W,W=w.alloc (.cells #[.int .i64 (n:Nat),.int .i64 (mm:Nat),.int .i64 (kn:Nat),.int .i64 (vn:Nat),.int .i64 LM,.slice ao xs.length cap,.int .i64 (hh:Nat),.slice qo ys.length dap] 42):=⟨_,rfl⟩
  have bW:=aM hW;have B1:=aU hW;by_cases i0:i<0\/(n:Int)<i
  .have E:Hid (P1=0/\P2=3):=by
    show _/\_;rw[hP1.out,hP2.out];unfold grN grE;rw[if_pos rfl,if_pos i0];exact⟨rfl,rfl⟩
   clear hP1 hP2 hck hl hg hr F a1 a4 a2 a5;rcases i0 with i0 | i0
   .skip;go_enter func108,ntmps108;go_wp2_with fail;rw[<-hW];refine mr (CC.out _ bW) fun w1 hb=>?_;have bw1:=bg bW hb;replace B1:=B1.kept hb;clear hb CC hW bW
    have q0:=B1.cell 0 rfl;go_wp2;go_ret2;rw[E.out.1,E.out.2];exact⟨rfl,bw1⟩
   .skip;have i1:¬i<0:=by omega
    go_enter func108,ntmps108;go_wp2_with fail;rw[<-hW];refine mr (CC.out _ bW) fun w1 hb=>?_;have bw1:=bg bW hb;replace B1:=B1.kept hb;clear hb CC hW bW;have q0:=B1.cell 0 rfl
    go_wp2;go_ret2;rw[E.out.1,E.out.2];exact⟨rfl,bw1⟩
  .obtain⟨j,rfl⟩:=Int.eq_ofNat_of_zero_le (show 0<=i by omega);obtain⟨c,hc⟩:∃c,c=cntB (rowOf n (isIn l)) j:=⟨_,rfl⟩;have cj:c<=j:=by rw[hc];exact eu _ _
   have E:Hid (P1=((if bit then c else j-c:Nat):Int)/\P2=0):=by
    show _/\_;rw[hP1.out,hP2.out];unfold grN grE;rw[if_pos rfl,if_neg i0,if_pos rfl,Int.toNat_natCast];unfold cB;rw[<-hc];exact⟨rfl,rfl⟩
   have C2:Hid (Qz w 181 #[.agg #[.int .i64 (n:Nat),.int .i64 (mm:Nat),.int .i64 (kn:Nat),.int .i64 (vn:Nat),.int .i64 LM,.slice ao xs.length cap,.int .i64 (hh:Nat),.slice qo ys.length dap],.int .i64 (j:Nat)] (.int .i64 (c:Nat))):=fun w0 hb=>FW n mm kn vn hh LM ao xs cap qo ys dap l w0 F (a1.keep hb) a2 (a4.keep hb) a5 hl hg hr j (by omega) c (by rw[hc];exact oG hr j)
   have C3:Hid (∀w0,Qx 180 #[.bool bit,.int .i64 (j:Nat),.int .i64 (c:Nat)] w0 (.int .i64 ((if bit then c else j-c:Nat):Int))):=fun w0=>wj bit j c (by omega) cj w0
   have i1:¬(j:Int)<0:=by omega
   have i2:¬(n:Int)<(j:Int):=by omega
   clear hP1 hP2 hck hl hg hr F a1 a4 a2 a5 i0 hc;generalize (if bit then c else j-c:Nat)=R at *;go_enter func108,ntmps108;go_wp2_with fail;rw[<-hW];refine mr (CC.out _ bW) fun w1 hb=>?_
   have bw1:=bg bW hb;replace B1:=B1.kept hb;clear hb CC hW bW;have q0:=B1.cell 0 rfl;have q1:=B1.cell 1 rfl;have q2:=B1.cell 2 rfl;have q3:=B1.cell 3 rfl;have q4:=B1.cell 4 rfl
   have q5:=B1.cell 5 rfl;have q6:=B1.cell 6 rfl;have q7:=B1.cell 7 rfl;go_wp2_with fail;refine mr (C2.out _ bw1) fun w2 hb=>?_;have bw2:=bg bw1 hb;clear hb;go_wp2_with fail
   refine mr (C3.out _) fun w3 h3=>?_;rw[h3];clear h3 w3;go_wp2;go_ret2;rw[E.out.1,E.out.2];exact⟨rfl,bw2⟩
theorem zS(cs:List Value)(a:bm)(bit:Bool)(k:Int)(w:World)(h:bK w cs a)(hi:ax k):
  Qq 128 #[.agg cs.toArray,.bool bit,.int .i64 k] w (.tuple #[.int .i64 (gsX (kOk9 a) (kBN9 a) (kBX9 a) bit k),.int .i64 (gsE (kOk9 a) (kBN9 a) (kBX9 a) bit k)]):=by
 obtain⟨P1,hP1⟩:∃P:Int,Hid (P=gsX (kOk9 a) (kBN9 a) (kBX9 a) bit k):=⟨gsX (kOk9 a) (kBN9 a) (kBX9 a) bit k,(rfl:gsX (kOk9 a) (kBN9 a) (kBX9 a) bit k=gsX (kOk9 a) (kBN9 a) (kBX9 a) bit k)⟩
 obtain⟨P2,hP2⟩:∃P:Int,Hid (P=gsE (kOk9 a) (kBN9 a) (kBX9 a) bit k):=⟨gsE (kOk9 a) (kBN9 a) (kBX9 a) bit k,(rfl:gsE (kOk9 a) (kBN9 a) (kBX9 a) bit k=gsE (kOk9 a) (kBN9 a) (kBX9 a) bit k)⟩;rw[<-hP1.out,<-hP2.out]
 cases hk:kOk9 a with
 | false=>
  have CC:=iq h false hk
  have E:Hid (P1=0/\P2=2):=by
   show _/\_;rw[hP1.out,hP2.out];unfold gsX gsE;rw[hk];exact⟨rfl,rfl⟩
  obtain⟨⟨ao,cap,qo,dap,rfl,_⟩,_⟩:=h;obtain⟨N,M,k0,V,LM,xs,H,ys⟩:=a;dsimp only at *;clear hP1 hP2
  obtain⟨W,hW⟩:∃W,W=w.alloc (.cells #[.int .i64 N,.int .i64 M,.int .i64 k0,.int .i64 V,.int .i64 LM,.slice ao xs.length cap,.int .i64 H,.slice qo ys.length dap] 42):=⟨_,rfl⟩;have bW:=aM hW;have B1:=aU hW
  go_enter func128,ntmps128;go_wp2_with fail;rw[<-hW];refine mr (CC.out _ bW) fun w1 hb=>?_;have bw1:=bg bW hb;replace B1:=B1.kept hb;clear hb CC hW bW;go_wp2;go_ret2
  rw[E.out.1,E.out.2];exact⟨rfl,bw1⟩
 | true=>
  have CC:=iq h true hk;have hck:=oa a hk;obtain⟨n,mm,kn,vn,hh,LM,xs,ys,rfl⟩:=kJ a hk;obtain⟨F,hl,hg,hr⟩:=ji n mm kn vn hh LM xs ys hk
  have e1:kBN9 ⟨n,mm,kn,vn,LM,xs,hh,ys⟩=(n:Int):=by unfold kBN9;rw[if_pos hk]
  have e2:kBX9 ⟨n,mm,kn,vn,LM,xs,hh,ys⟩=rowOf n (isIn (kRow ⟨n,mm,kn,vn,LM,xs,hh,ys⟩)):=by unfold kBX9;rw[if_pos hk];rfl
  rw[e1,e2]at hck;rw[hk,e1,e2]at hP1;rw[hk,e1,e2]at hP2;generalize kRow ⟨n,mm,kn,vn,LM,xs,hh,ys⟩=l at *;obtain⟨⟨ao,cap,qo,dap,rfl,ir,a1,a2,a3,a4,a5,a6⟩,n3,xl,yl⟩:=h;dsimp only at *
  have nl:=F.hn;have ml:=F.hm;clear hk e1 e2 n3 xl yl ir
  obtain⟨W,hW⟩:∃W,W=w.alloc (.cells #[.int .i64 (n:Nat),.int .i64 (mm:Nat),.int .i64 (kn:Nat),.int .i64 (vn:Nat),.int .i64 LM,.slice ao xs.length cap,.int .i64 (hh:Nat),.slice qo ys.length dap] 42):=⟨_,rfl⟩
  have bW:=aM hW;have B1:=aU hW
  have all:cB (rowOf n (isIn l)) bit n=if bit then mm else n-mm:=by
   unfold cB;rw[G_ hr,hl]
  have IFF:=ja (n:Int) (rowOf n (isIn l)) bit k;rw[Int.toNat_natCast,all]at IFF
  have C3:Hid (∀w0,Qx 180 #[.bool bit,.int .i64 (n:Nat),.int .i64 (mm:Nat)] w0 (.int .i64 ((if bit then mm else n-mm:Nat):Int))):=fun w0=>wj bit n mm nl ml w0
  obtain⟨R,hR⟩:∃R,Hid (R=if bit then mm else n-mm):=⟨_,rfl⟩;rw[<-hR.out]at IFF C3;have RR:R<=1048576:=by rw[hR.out];split<;>omega
  by_cases i0:k<0\/(R:Int)<=k
  .have E:Hid (P1=0/\P2=3):=by
    show _/\_
    have hn:cd (n:Int) (rowOf n (isIn l)) bit k=none:=by
     cases e:cd (n:Int) (rowOf n (isIn l)) bit k with
     | none=>rfl
     | some x=>
      rw[e]at IFF;have:=IFF.1 rfl;omega
    rw[hP1.out,hP2.out];unfold gsX gsE;rw[hn];exact⟨rfl,rfl⟩
   clear hP1 hP2 hck hl hg hr F a1 a4 a2 a5 IFF all;rcases i0 with i0 | i0
   .skip;go_enter func128,ntmps128;go_wp2_with fail;rw[<-hW];refine mr (CC.out _ bW) fun w1 hb=>?_;have bw1:=bg bW hb;replace B1:=B1.kept hb;clear hb CC hW bW
    have q0:=B1.cell 0 rfl;have q1:=B1.cell 1 rfl;go_wp2;go_ret2;rw[E.out.1,E.out.2];exact⟨rfl,bw1⟩
   .by_cases i1:k<0
    .skip;go_enter func128,ntmps128;go_wp2_with fail;rw[<-hW];refine mr (CC.out _ bW) fun w1 hb=>?_;have bw1:=bg bW hb;replace B1:=B1.kept hb;clear hb CC hW bW
     have q0:=B1.cell 0 rfl;have q1:=B1.cell 1 rfl;go_wp2;go_ret2;rw[E.out.1,E.out.2];exact⟨rfl,bw1⟩
    .skip;go_enter func128,ntmps128;go_wp2_with fail;rw[<-hW];refine mr (CC.out _ bW) fun w1 hb=>?_;have bw1:=bg bW hb;replace B1:=B1.kept hb;clear hb CC hW bW
     have q0:=B1.cell 0 rfl;have q1:=B1.cell 1 rfl;go_wp2_with fail;refine mr (C3.out _) fun w3 h3=>?_;rw[h3];clear h3 w3;go_wp2;go_ret2;rw[E.out.1,E.out.2];exact⟨rfl,bw1⟩
  .obtain⟨j,rfl⟩:=Int.eq_ofNat_of_zero_le (show 0<=k by omega);have jR:j<R:=by omega
   have C2:∃p:Nat,Hid (P1=(p:Int)/\P2=0)/\Hid (Qz w 197 #[.agg #[.int .i64 (n:Nat),.int .i64 (mm:Nat),.int .i64 (kn:Nat),.int .i64 (vn:Nat),.int .i64 LM,.slice ao xs.length cap,.int .i64 (hh:Nat),.slice qo ys.length dap],.bool bit,.int .i64 (j:Nat)] (.int .i64 (p:Nat))):=by
    have key:∀p,cd (n:Int) (rowOf n (isIn l)) bit (j:Int)=some p->P1=(p:Int)/\P2=0:=fun p hp=>by
     rw[hP1.out,hP2.out];unfold gsX gsE;rw[hp];exact⟨rfl,rfl⟩
    cases bit with
    | true=>
     have hR':R=mm:=hR.out;obtain⟨b1,b2⟩:=G9 hr j (by omega);have b3:=hr.1 j (by omega)
     refine⟨gt l j,key _ (nq _ _ _ _ _ (by rw[Int.toNat_natCast];exact b3) ?_),fun w0 hb=>FT n mm kn vn hh LM ao xs cap qo ys dap l w0 F (a1.keep hb) a2 (a4.keep hb) a5 hl hg hr j (by omega)⟩
     unfold here cB;rw[b1,if_pos rfl,b2];simp
    | false=>
     have hR':R=n-mm:=hR.out;obtain⟨c,hc,b1,b2,b3⟩:=G7 hr j (by rw[hl];omega)
     refine⟨j+c,key _ (nq _ _ _ _ _ (by rw[Int.toNat_natCast];exact b1) ?_),fun w0 hb=>FU n mm kn vn hh LM ao xs cap qo ys dap l w0 F (a1.keep hb) a2 (a4.keep hb) a5 hl hg hr j (by omega) c hc⟩
     unfold here cB;rw[b2,if_neg (by simp),b3];simp
   obtain⟨p,E,C2⟩:=C2;have i1:¬(j:Int)<0:=by omega
   have i2:¬(R:Int)<=(j:Int):=by omega
   clear hP1 hP2 hck hl hg hr F a1 a4 a2 a5 i0 IFF all hR jR;go_enter func128,ntmps128;go_wp2_with fail;rw[<-hW];refine mr (CC.out _ bW) fun w1 hb=>?_;have bw1:=bg bW hb
   replace B1:=B1.kept hb;clear hb CC hW bW;have q0:=B1.cell 0 rfl;have q1:=B1.cell 1 rfl;have q2:=B1.cell 2 rfl;have q3:=B1.cell 3 rfl;have q4:=B1.cell 4 rfl;have q5:=B1.cell 5 rfl;have q6:=B1.cell 6 rfl
   have q7:=B1.cell 7 rfl;go_wp2_with fail;refine mr (C3.out _) fun w3 h3=>?_;rw[h3];clear h3 w3;go_wp2_with fail;refine mr (C2.out _ bw1) fun w2 hb=>?_;have bw2:=bg bw1 hb
   clear hb;go_wp2;go_ret2;rw[E.out.1,E.out.2];exact⟨rfl,bw2⟩
theorem oA:(prog.info? 42).map (·.size)=some 8:=by kernel_rfl
theorem Gi(N:Int)(ao:Option Addr)(xs:List Nat)(cap:Nat)(w:World)(hx:Wd w ao xs)(hk:ar N xs=false):
  Qq 93 #[.agg #[.int .i64 N,.slice ao xs.length cap]] w (.tuple #[.agg #[.int .i64 0,.int .i64 0,.int .i64 0,.int .i64 0,.int .i64 0,.slice none 0 0,.int .i64 0,.slice none 0 0],.int .i64 2]):=by
 have CC:Hid (Qz w 147 #[.agg #[.int .i64 N,.slice ao xs.length cap]] (.bool false)):=fun w0 hb=>by
  have:=bi N ao xs cap w0 (hx.keep hb);rw[hk]at this;exact this
 obtain⟨W1,hW1⟩:∃W1,W1=(w.alloc (.cells #[.int .i64 N,.slice ao xs.length cap] 33)).alloc (.cells #[.int .i64 0,.int .i64 0,.int .i64 0,.int .i64 0,.int .i64 0,.slice none 0 0,.int .i64 0,.slice none 0 0] 42):=⟨_,rfl⟩
 have b1:Below w.heap.size w W1:=by rw[hW1];exact((below_alloc w _).alloc (by simp only[World.size_alloc];omega) _)
 have c1:aa W1 (w.heap.size+1) [.int .i64 0,.int .i64 0,.int .i64 0,.int .i64 0,.int .i64 0,.slice none 0 0,.int .i64 0,.slice none 0 0] 42:=by rw[hW1];exact aa.new2 w _ _ _
 go_enter func93,ntmps93;go_wp2_with fail;rw[<-hW1];clear hW1 hx;refine mr (CC.out _ b1) fun wf hb=>?_;replace b1:=bg b1 hb;replace c1:=c1.kept hb;clear hb CC
 go_wp2_with (refine aP (w.heap.size+1) [.int .i64 0,.int .i64 0,.int .i64 0,.int .i64 0,.int .i64 0,.slice none 0 0,.int .i64 0,.slice none 0 0] [.int .i64 0,.int .i64 0,.int .i64 0,.int .i64 0,.int .i64 0,.slice none 0 0,.int .i64 0,.slice none 0 0] rfl rfl c1 rfl oA (by simp[Value.oneCell']) ?_)
 intro w3 B3 O3;have HZ:=aG (And.intro B3 (b1.trans (O3.below (Nat.le_succ _))));clear B3 O3 b1 c1;go_wp2
 (try simp only[Exit.inBlock,Exit.then]);exact bodyPost_ret (bJ rfl (w.heap.size+1) _ rfl HZ.out.1 underlying42 oA) rfl ⟨rfl,HZ.out.2⟩
theorem Gh(n:Nat)(ao:Option Addr)(xs:List Nat)(cap:Nat)(w:World)(m:Nat)(k V LM H:Int)(LX LY:List Nat)(xn yn:Nat)(hxn:xn=LX.length)(hyn:yn=LY.length)
  (CC:Hid (Qz w 147 #[.agg #[.int .i64 (n:Nat),.slice ao xs.length cap]] (.bool true)))
  (CO:Hid (Qz w 156 #[.agg #[.int .i64 (n:Nat),.slice ao xs.length cap],.int .i64 (n:Nat)] (.int .i64 (m:Nat))))
  (CL:Hid (∀w0,Below w.heap.size w w0->Calls prog 157 #[.agg #[.int .i64 (n:Nat),.slice ao xs.length cap],.int .i64 (m:Nat)] w0 fun e w'=>∃bo bc,e=.returned (.tuple #[.agg #[.int .i64 k,.int .i64 V,.int .i64 LM,.slice bo xn bc],.int .i64 0])/\Wd w' bo LX/\xn<=bc/\Below w0.heap.size w0 w'))
  (CH:Hid (∀w0,Below w.heap.size w w0->Calls prog 158 #[.agg #[.int .i64 (n:Nat),.slice ao xs.length cap],.int .i64 (m:Nat)] w0 fun e w'=>∃qo qc,e=.returned (.tuple #[.agg #[.int .i64 H,.slice qo yn qc],.int .i64 0])/\Wd w' qo LY/\yn<=qc/\Below w0.heap.size w0 w')):
  Calls prog 93 #[.agg #[.int .i64 (n:Nat),.slice ao xs.length cap]] w fun e w'=>∃bo bc qo qc,e=.returned (.tuple #[.agg #[.int .i64 (n:Nat),.int .i64 (m:Nat),.int .i64 k,.int .i64 V,.int .i64 LM,.slice bo xn bc,.int .i64 H,.slice qo yn qc],.int .i64 0])/\Wd w' bo LX/\xn<=bc/\Wd w' qo LY/\yn<=qc/\Below w.heap.size w w':=by
 have HX:=aG hxn;have HY:=aG hyn;clear hxn hyn
 obtain⟨W1,hW1⟩:∃W1,W1=(w.alloc (.cells #[.int .i64 (n:Nat),.slice ao xs.length cap] 33)).alloc (.cells #[.int .i64 0,.int .i64 0,.int .i64 0,.int .i64 0,.int .i64 0,.slice none 0 0,.int .i64 0,.slice none 0 0] 42):=⟨_,rfl⟩
 have b1:Below w.heap.size w W1:=by rw[hW1];exact((below_alloc w _).alloc (by simp only[World.size_alloc];omega) _)
 have c0:aa W1 w.heap.size [.int .i64 (n:Nat),.slice ao xs.length cap] 33:=by rw[hW1];exact(aa.new w _ _).alloc _
 have c1:aa W1 (w.heap.size+1) [.int .i64 0,.int .i64 0,.int .i64 0,.int .i64 0,.int .i64 0,.slice none 0 0,.int .i64 0,.slice none 0 0] 42:=by rw[hW1];exact aa.new2 w _ _ _
 go_enter func93,ntmps93;go_wp2_with fail;rw[<-hW1];clear hW1;refine mr (CC.out _ b1) fun wf hb=>?_;replace b1:=bg b1 hb;replace c0:=c0.kept hb;replace c1:=c1.kept hb;clear hb CC
 have q0:=c0.cell 0 rfl;have q1:=c0.cell 1 rfl;go_wp2_with fail;refine mr (CO.out _ b1) fun w2 hb=>?_;replace b1:=bg b1 hb;replace c0:=c0.kept hb;replace c1:=c1.kept hb;clear hb CO q0 q1
 have q0:=c0.cell 0 rfl;have q1:=c0.cell 1 rfl;go_wp2_with fail;refine(CL.out _ b1).mono ?_;rintro e w3 ⟨bo,bc,rfl,hX,hxc,hb⟩;replace b1:=bg b1 hb;replace c0:=c0.kept hb;replace c1:=c1.kept hb
 clear hb CL q0 q1;have bA:=below_alloc w3 (.cells #[.int .i64 k,.int .i64 V,.int .i64 LM,.slice bo xn bc] 38);have d5:=aa.new w3 [.int .i64 k,.int .i64 V,.int .i64 LM,.slice bo xn bc] 38;have d0:=c0.kept bA
 have d1:=c1.kept bA;have hX2:=hX.keep bA;have b2:=bg b1 bA;have q0:=d0.cell 0 rfl;have q1:=d0.cell 1 rfl;go_wp2_with fail;refine(CH.out _ b2).mono ?_;rintro e w4 ⟨qo,qc,rfl,hY,hyc,hb⟩
 replace b2:=bg b2 hb;replace d0:=d0.kept hb;replace d1:=d1.kept hb;replace d5:=d5.kept hb;replace hX2:=hX2.keep hb;clear hb CH q0 q1 bA b1 c0 c1 hX
 have bA:=below_alloc w4 (.cells #[.int .i64 H,.slice qo yn qc] 33);have e7:=aa.new w4 [.int .i64 H,.slice qo yn qc] 33;have e0:=d0.kept bA;have e1:=d1.kept bA;have e5:=d5.kept bA;have hX3:=hX2.keep bA
 have hY3:=hY.keep bA;have b3:=bg b2 bA;have q0:=e0.cell 0 rfl;clear bA d0 d1 d5 hX2 hY b2;have ne1:=hX3.apart e1 (by intro v hv n;simp at hv;rcases hv with rfl | rfl | rfl | rfl<;>simp)
 have ne2:=hY3.apart e1 (by intro v hv n;simp at hv;rcases hv with rfl | rfl | rfl | rfl<;>simp);generalize w3.heap.size=g5 at *
 go_wp2_with (first | refine iH g5 _ rfl e5 underlying38 mE ?_ | refine iH w4.heap.size _ rfl e7 underlying33 iL ?_ | refine aP (w.heap.size+1) [.int .i64 0,.int .i64 0,.int .i64 0,.int .i64 0,.int .i64 0,.slice none 0 0,.int .i64 0,.slice none 0 0] [.int .i64 (n:Nat),.int .i64 (m:Nat),.int .i64 k,.int .i64 V,.int .i64 LM,.slice bo xn bc,.int .i64 H,.slice qo yn qc] rfl rfl e1 rfl oA (by simp[Value.oneCell']) ?_)
 intro w5 B3 O3;have HZ:=aG (And.intro B3 (And.intro (O3.wd hX3 ne1) (And.intro (O3.wd hY3 ne2) (b3.trans (O3.below (Nat.le_succ _))))));clear B3 O3 hX3 hY3 b3 e0 e1 e5 e7 ne1 ne2;go_wp2
 (try simp only[Exit.inBlock,Exit.then]);exact bodyPost_ret (bJ rfl (w.heap.size+1) _ rfl HZ.out.1 underlying42 oA) rfl ⟨bo,bc,qo,qc,rfl,HZ.out.2.1,hxc,HZ.out.2.2.1,hyc,HZ.out.2.2.2⟩
theorem I_(N:Int)(ao:Option Addr)(xs:List Nat)(cap:Nat)(w:World)(hN:ax N)(hx:Wd w ao xs)(hf:Fit xs)(hcap:xs.length<=cap)(hl:N<=3000/\xs.length<=1048576):
  Calls prog 93 #[.agg #[.int .i64 N,.slice ao xs.length cap]] w fun e w'=>∃cs:List Value,e=.returned (.tuple #[.agg cs.toArray,.int .i64 (kE9 N xs)])/\bK w' cs (kB9 N xs)/\Below w.heap.size w w':=by
 have z:ax 0:=⟨by decide,by decide⟩;cases hk:ar N xs with
 | false=>
  refine mr (Gi N ao xs cap w hx hk) fun w' hb=>?_;have e1:kE9 N xs=2:=by unfold kE9;rw[hk];rfl
  have e2:kB9 N xs=⟨0,0,0,0,0,[],0,[]⟩:=by unfold kB9;rw[hk];rfl
  rw[e1,e2];have f0:Fit []:=fun i=>by unfold gt;simp
  exact⟨_,rfl,⟨⟨none,0,none,0,rfl,⟨z,z,z,z,z,z⟩,dW _ _,f0,Nat.le_refl _,dW _ _,f0,Nat.le_refl _⟩,by decide,by simp,by simp⟩,hb⟩
 | true=>
  obtain⟨u1,u2,u3,u4⟩:=bp _ _ hk;obtain⟨n,rfl⟩:=Int.eq_ofNat_of_zero_le u1;have hn:n<=3000:=by omega
  obtain⟨L,hL⟩:∃L,L=plc (bitAt xs) n:=⟨_,rfl⟩;obtain⟨v,hv⟩:∃v,v=wdF n L.length:=⟨_,rfl⟩;have RS:aR L n:=by rw[hL];exact jb _ _
  have mn:=RS.len;have v20:v<=20:=by rw[hv];exact gS n _ (by omega)
  have e1:kE9 (n:Int) xs=0:=by unfold kE9;rw[hk];rfl
  have e2:kB9 (n:Int) xs=⟨n,L.length,(loP L v).length,(max v 1:Nat),((loP L v).length:Int)*(max v 1:Nat),mkS (loP L v) (max v 1) (loP L v).length,hiN L n v,rowOf (hiN L n v) (isIn (hiP L v))⟩:=by
   unfold kB9;rw[if_pos hk,Int.toNat_natCast,<-hL];unfold cK;rw[<-hv]
  have CC:Hid (Qz w 147 #[.agg #[.int .i64 (n:Nat),.slice ao xs.length cap]] (.bool true)):=fun w0 hb=>by
   have:=bi n ao xs cap w0 (hx.keep hb);rw[hk]at this;exact this
  have CO:Hid (Qz w 156 #[.agg #[.int .i64 (n:Nat),.slice ao xs.length cap],.int .i64 (n:Nat)] (.int .i64 (L.length:Nat))):=fun w0 hb=>by
   have:=xz n ao xs cap n w0 (hx.keep hb) hf hcap
   have on:onesI (n:Int) xs (n:Int)=(L.length:Int):=by
    rw[hL,ua];unfold onesI;rw[hk,show min (n:Int) (n:Int)=(n:Int)by omega,Int.toNat_natCast];rfl
   rw[on]at this;exact this
  have CL:Hid (∀w0,Below w.heap.size w w0->Calls prog 157 #[.agg #[.int .i64 (n:Nat),.slice ao xs.length cap],.int .i64 (L.length:Nat)] w0 fun e w'=>∃bo bc,e=.returned (.tuple #[.agg #[.int .i64 ((loP L v).length:Nat),.int .i64 (max v 1:Nat),.int .i64 (((loP L v).length:Int)*(max v 1:Nat)),.slice bo (mkS (loP L v) (max v 1) (loP L v).length).length bc],.int .i64 0])/\Wd w' bo (mkS (loP L v) (max v 1) (loP L v).length)/\(mkS (loP L v) (max v 1) (loP L v).length).length<=bc/\Below w0.heap.size w0 w'):=fun w0 hb=>by
   by_cases c:v=0
   .refine(FY n ao xs cap w0 L.length hn mn (by rw[<-hv];exact c)).mono ?_;rintro e w' ⟨bo,bc,rfl,hb2⟩;subst c;have e3:loP L 0=[]:=rfl;have e4:mkS [] 1 0=[]:=by unfold mkS;rfl
    rw[e3];exact⟨bo,bc,rfl,dW _ _,Nat.zero_le _,hb2⟩
   .refine(FX n ao xs cap w0 (hx.keep hb) hf hk hn L hL L.length v rfl hv (by omega)).mono ?_;rintro e w' ⟨g,k,rfl,hk2,hO,hb2⟩;have e3:(loP L v).length=L.length:=jN L v (by omega)
    have e4:max v 1=v:=by omega
    rw[e3,e4];exact⟨some ⟨g,0,none⟩,k,by rw[hk2],hO.wd,by rw[hk2];exact Nat.le_refl _,hb2⟩
  have CH:Hid (∀w0,Below w.heap.size w w0->Calls prog 158 #[.agg #[.int .i64 (n:Nat),.slice ao xs.length cap],.int .i64 (L.length:Nat)] w0 fun e w'=>∃qo qc,e=.returned (.tuple #[.agg #[.int .i64 (hiN L n v:Nat),.slice qo (rowOf (hiN L n v) (isIn (hiP L v))).length qc],.int .i64 0])/\Wd w' qo (rowOf (hiN L n v) (isIn (hiP L v)))/\(rowOf (hiN L n v) (isIn (hiP L v))).length<=qc/\Below w0.heap.size w0 w'):=fun w0 hb=>by
   refine(Gb n ao xs cap w0 (hx.keep hb) hf hk hn L hL L.length v (hiN L n v) ((hiN L n v+63)/64) rfl hv rfl rfl).mono ?_;rintro e w' ⟨g,rfl,hO,_,hb2⟩
   exact⟨some ⟨g,0,none⟩,_,by rw[cU],hO.wd,by rw[cU];exact Nat.le_refl _,hb2⟩
  refine(Gh n ao xs cap w L.length _ _ _ _ _ _ _ _ rfl rfl CC CO CL CH).mono ?_;rintro e w' ⟨bo,bc,qo,qc,rfl,p1,p2,p3,p4,hb⟩;rw[e1,e2];have l1:=qs L v;have hE:n/2^v<=n:=Nat.div_le_self _ _
  have l2:hiN L n v<=6001:=by unfold hiN;omega
  have l3:(loP L v).length*max v 1<=3000*20:=Nat.mul_le_mul (by omega) (by omega);have l4:(mkS (loP L v) (max v 1) (loP L v).length).length<=1048576:=by rw[ky];omega
  have l5:(rowOf (hiN L n v) (isIn (hiP L v))).length<=1048576:=by rw[cU];omega
  have i1:ax (n:Int):=⟨by omega,by omega⟩;have i2:ax (L.length:Int):=⟨by omega,by omega⟩;have i3:ax ((loP L v).length:Int):=⟨by omega,by omega⟩;have i5:ax ((max v 1:Nat):Int):=⟨by omega,by omega⟩
  have i6:ax (hiN L n v:Int):=⟨by omega,by omega⟩
  have i4:ax (((loP L v).length:Int)*(max v 1:Nat)):=by
   rw[<-Int.natCast_mul];exact⟨by omega,by omega⟩
  exact⟨_,rfl,⟨⟨bo,bc,qo,qc,rfl,⟨i1,i2,i3,i5,i4,i6⟩,p1,rd _ _ _,p2,p3,db _ _,p4⟩,hl.1,l4,l5⟩,hb⟩
end Go.Proofs.YtleegaihbgbcjaaGreatDoor
namespace Go.Proofs.YtleegaihbgbcjaaGreatDoor
open Go.RowKit Num Bit
theorem zG(cs:List Value)(a:RA)(w:World)(h:KI w cs a)(o8:kOn a=2):
  Qq 59 #[.agg cs.toArray] w (.int .i64 (kZ a)):=by
 have ON0:=fun(w0:World) (hb:Below w.heap.size w w0)=>gW cs a w0 (h.arg.keep hb);have HL:=Hid.mk8 h.arg.len;have sm:=h.sm;have gv:=h.gv;replace h:=h.arg;obtain⟨cp,cr,cf,rfl,hK,h1,h2,h3⟩:=h
 have l4:=Hid.mk8 h1.four;have l9:=Hid.mk8 h2.nine;have LP:=Hid.mk8 h1.len;have LR:=Hid.mk8 h2.len;have LF:=Hid.mk8 h3.len;obtain⟨K,p,r,f⟩:=a;dsimp only at *;have k7:b9 w cp p:=⟨h1,sm.p1,sm.p2,sm.p3⟩
 have k8:ba w cr r:=⟨h2,sm.r1,sm.r2,sm.r3,sm.r4,gv⟩;have k9:bK w cf f:=⟨h3,sm.f0,sm.f1,sm.f2⟩
 have ON:Hid (Qz w 102 #[.agg (Value.int .i64 K::(cp++(cr++cf))).toArray] (.int .i64 (kOn ⟨K,p,r,f⟩))):=ON0
 clear ON0 h1 h2 h3 sm gv;obtain⟨W,hW⟩:∃W,W=w.alloc (.cells (Value.int .i64 K::(cp++(cr++cf))).toArray 44):=⟨_,rfl⟩;have bw:Below w.heap.size w W:=by rw[hW];exact below_alloc w _
 have B0:=aU hW;subst hW;obtain⟨e1,e2,e3,e4⟩:=gX o8;rw[e4];rw[o8]at ON
 have C:Hid (Qz w 119 #[.agg cr.toArray] (.int .i64 (kZ8 r))):=fun w0 g=>zJ cr r w0 (k8.keep g)
 clear e1 e2 e3 e4 k7 k8 k9;generalize kZ8 r=P0 at *;go_enter func59,ntmps59;go_wp2_with (refine cF w.heap.size _ (by rfl) rfl B0 underlying44 HL.out ?_);refine mr (ON.out _ bw) fun w1 hb=>?_
 replace B0:=B0.kept hb;replace bw:=bg bw hb;clear hb;obtain⟨c0,p1,p2,p3⟩:=parts l4.out l9.out B0;go_wp2_with (refine aN w.heap.size 5 cr (by rfl) rfl p2 underlying40 LR.out ?_)
 refine mr (C.out _ bw) fun w2 hb=>?_;replace bw:=bg bw hb;go_wp2;go_ret;exact⟨rfl,bw⟩
theorem zL(cs:List Value)(a:RA)(w:World)(h:KI w cs a):
  Qq 59 #[.agg cs.toArray] w (.int .i64 (kZ a)):=by
 by_cases o8:kOn a=2
 .exact zG cs a w h o8
 have ON0:=fun(w0:World) (hb:Below w.heap.size w w0)=>gW cs a w0 (h.arg.keep hb);have HL:=Hid.mk8 h.arg.len;have sm:=h.sm;have gv:=h.gv;replace h:=h.arg;obtain⟨cp,cr,cf,rfl,hK,h1,h2,h3⟩:=h
 have l4:=Hid.mk8 h1.four;have l9:=Hid.mk8 h2.nine;have LP:=Hid.mk8 h1.len;have LR:=Hid.mk8 h2.len;have LF:=Hid.mk8 h3.len;obtain⟨K,p,r,f⟩:=a;dsimp only at *;have k7:b9 w cp p:=⟨h1,sm.p1,sm.p2,sm.p3⟩
 have k8:ba w cr r:=⟨h2,sm.r1,sm.r2,sm.r3,sm.r4,gv⟩;have k9:bK w cf f:=⟨h3,sm.f0,sm.f1,sm.f2⟩
 have ON:Hid (Qz w 102 #[.agg (Value.int .i64 K::(cp++(cr++cf))).toArray] (.int .i64 (kOn ⟨K,p,r,f⟩))):=ON0
 clear ON0 h1 h2 h3 sm gv;obtain⟨W,hW⟩:∃W,W=w.alloc (.cells (Value.int .i64 K::(cp++(cr++cf))).toArray 44):=⟨_,rfl⟩;have bw:Below w.heap.size w W:=by rw[hW];exact below_alloc w _
 have B0:=aU hW;subst hW;by_cases o7:kOn ⟨K,p,r,f⟩=1
 .skip;obtain⟨e1,e2,e3,e4⟩:=jf o7;rw[e4];rw[o7]at ON
  have C:Hid (Qz w 118 #[.agg cp.toArray] (.int .i64 (kZ7 p))):=fun w0 g=>zK cp p w0 (k7.keep g)
  clear e1 e2 e3 e4 k7 k8 k9;generalize kZ7 p=P0 at *;go_enter func59,ntmps59;go_wp2_with (refine cF w.heap.size _ (by rfl) rfl B0 underlying44 HL.out ?_);refine mr (ON.out _ bw) fun w1 hb=>?_
  replace B0:=B0.kept hb;replace bw:=bg bw hb;clear hb;obtain⟨c0,p1,p2,p3⟩:=parts l4.out l9.out B0;go_wp2_with (refine aN w.heap.size 1 cp (by rfl) rfl p1 underlying36 LP.out ?_)
  refine mr (C.out _ bw) fun w2 hb=>?_;replace bw:=bg bw hb;go_wp2;go_ret;exact⟨rfl,bw⟩
 by_cases o9:kOn ⟨K,p,r,f⟩=3
 .skip;obtain⟨e1,e2,e3,e4⟩:=jh o9;rw[e4];rw[o9]at ON
  have C:Hid (Qz w 120 #[.agg cf.toArray] (.int .i64 (kZ9 f))):=fun w0 g=>zI cf f w0 (k9.keep g)
  clear e1 e2 e3 e4 k7 k8 k9;generalize kZ9 f=P0 at *;go_enter func59,ntmps59;go_wp2_with (refine cF w.heap.size _ (by rfl) rfl B0 underlying44 HL.out ?_);refine mr (ON.out _ bw) fun w1 hb=>?_
  replace B0:=B0.kept hb;replace bw:=bg bw hb;clear hb;obtain⟨c0,p1,p2,p3⟩:=parts l4.out l9.out B0;go_wp2_with (refine aN w.heap.size 14 cf (by rfl) rfl p3 underlying42 LF.out ?_)
  refine mr (C.out _ bw) fun w2 hb=>?_;replace bw:=bg bw hb;go_wp2;go_ret;exact⟨rfl,bw⟩
 obtain⟨e1,e2,e3,e4⟩:=jg o7 o8 o9;rw[e4];have d7:(kOn ⟨K,p,r,f⟩==1)=false:=by simp[o7]
 have d8:(kOn ⟨K,p,r,f⟩==2)=false:=by simp[o8]
 have d9:(kOn ⟨K,p,r,f⟩==3)=false:=by simp[o9]
 clear e1 e2 e3 e4 k7 k8 k9;generalize kOn ⟨K,p,r,f⟩=O at *;go_enter func59,ntmps59;go_wp2_with (refine cF w.heap.size _ (by rfl) rfl B0 underlying44 HL.out ?_);refine mr (ON.out _ bw) fun w1 hb=>?_;replace B0:=B0.kept hb;replace bw:=bg bw hb;go_wp2;go_ret;exact⟨rfl,bw⟩
theorem JX(cs:List Value)(a:RA)(i:Int)(w:World)(h:KI w cs a)(hi:ax i)(o8:kOn a=2):
  Qq 45 #[.agg cs.toArray,.int .i64 i] w (.tuple #[.bool (gaB (aJ a) (kBN a) (aQ a) i),.int .i64 (gaE (aJ a) (kBN a) (aQ a) i)]):=by
 have ON0:=fun(w0:World) (hb:Below w.heap.size w w0)=>gW cs a w0 (h.arg.keep hb);have HL:=Hid.mk8 h.arg.len;have sm:=h.sm;have gv:=h.gv;replace h:=h.arg;obtain⟨cp,cr,cf,rfl,hK,h1,h2,h3⟩:=h
 have l4:=Hid.mk8 h1.four;have l9:=Hid.mk8 h2.nine;have LP:=Hid.mk8 h1.len;have LR:=Hid.mk8 h2.len;have LF:=Hid.mk8 h3.len;obtain⟨K,p,r,f⟩:=a;dsimp only at *;have k7:b9 w cp p:=⟨h1,sm.p1,sm.p2,sm.p3⟩
 have k8:ba w cr r:=⟨h2,sm.r1,sm.r2,sm.r3,sm.r4,gv⟩;have k9:bK w cf f:=⟨h3,sm.f0,sm.f1,sm.f2⟩
 have ON:Hid (Qz w 102 #[.agg (Value.int .i64 K::(cp++(cr++cf))).toArray] (.int .i64 (kOn ⟨K,p,r,f⟩))):=ON0
 clear ON0 h1 h2 h3 sm gv;obtain⟨W,hW⟩:∃W,W=w.alloc (.cells (Value.int .i64 K::(cp++(cr++cf))).toArray 44):=⟨_,rfl⟩;have bw:Below w.heap.size w W:=by rw[hW];exact below_alloc w _
 have B0:=aU hW;subst hW;obtain⟨e1,e2,e3,e4⟩:=gX o8;rw[e1,e2,e3];rw[o8]at ON
 have C:Hid (Qz w 104 #[.agg cr.toArray,.int .i64 i] (.tuple #[.bool (gaB (kOk8 r) (kBN8 r) (kBX8 r) i),.int .i64 (gaE (kOk8 r) (kBN8 r) (kBX8 r) i)])):=fun w0 g=>J0 cr r i w0 (k8.keep g) hi
 clear e1 e2 e3 e4 k7 k8 k9;generalize gaB (kOk8 r) (kBN8 r) (kBX8 r) i=P0 at *;generalize gaE (kOk8 r) (kBN8 r) (kBX8 r) i=P1 at *;go_enter func45,ntmps45
 go_wp2_with (refine cF w.heap.size _ (by rfl) rfl B0 underlying44 HL.out ?_);refine mr (ON.out _ bw) fun w1 hb=>?_;replace B0:=B0.kept hb;replace bw:=bg bw hb;clear hb
 obtain⟨c0,p1,p2,p3⟩:=parts l4.out l9.out B0;go_wp2_with (refine aN w.heap.size 5 cr (by rfl) rfl p2 underlying40 LR.out ?_);refine mr (C.out _ bw) fun w2 hb=>?_
 replace bw:=bg bw hb;go_wp2;go_ret2;exact⟨rfl,bw⟩
theorem J2(cs:List Value)(a:RA)(i:Int)(w:World)(h:KI w cs a)(hi:ax i):
  Qq 45 #[.agg cs.toArray,.int .i64 i] w (.tuple #[.bool (gaB (aJ a) (kBN a) (aQ a) i),.int .i64 (gaE (aJ a) (kBN a) (aQ a) i)]):=by
 by_cases o8:kOn a=2
 .exact JX cs a i w h hi o8
 have ON0:=fun(w0:World) (hb:Below w.heap.size w w0)=>gW cs a w0 (h.arg.keep hb);have HL:=Hid.mk8 h.arg.len;have sm:=h.sm;have gv:=h.gv;replace h:=h.arg;obtain⟨cp,cr,cf,rfl,hK,h1,h2,h3⟩:=h
 have l4:=Hid.mk8 h1.four;have l9:=Hid.mk8 h2.nine;have LP:=Hid.mk8 h1.len;have LR:=Hid.mk8 h2.len;have LF:=Hid.mk8 h3.len;obtain⟨K,p,r,f⟩:=a;dsimp only at *;have k7:b9 w cp p:=⟨h1,sm.p1,sm.p2,sm.p3⟩
 have k8:ba w cr r:=⟨h2,sm.r1,sm.r2,sm.r3,sm.r4,gv⟩;have k9:bK w cf f:=⟨h3,sm.f0,sm.f1,sm.f2⟩
 have ON:Hid (Qz w 102 #[.agg (Value.int .i64 K::(cp++(cr++cf))).toArray] (.int .i64 (kOn ⟨K,p,r,f⟩))):=ON0
 clear ON0 h1 h2 h3 sm gv;obtain⟨W,hW⟩:∃W,W=w.alloc (.cells (Value.int .i64 K::(cp++(cr++cf))).toArray 44):=⟨_,rfl⟩;have bw:Below w.heap.size w W:=by rw[hW];exact below_alloc w _
 have B0:=aU hW;subst hW;by_cases o7:kOn ⟨K,p,r,f⟩=1
 .skip;obtain⟨e1,e2,e3,e4⟩:=jf o7;rw[e1,e2,e3];rw[o7]at ON
  have C:Hid (Qz w 103 #[.agg cp.toArray,.int .i64 i] (.tuple #[.bool (gaB (kOk7 p) (kBN7 p) (kBX7 p) i),.int .i64 (gaE (kOk7 p) (kBN7 p) (kBX7 p) i)])):=fun w0 g=>J1 cp p i w0 (k7.keep g) hi
  clear e1 e2 e3 e4 k7 k8 k9;generalize gaB (kOk7 p) (kBN7 p) (kBX7 p) i=P0 at *;generalize gaE (kOk7 p) (kBN7 p) (kBX7 p) i=P1 at *;go_enter func45,ntmps45
  go_wp2_with (refine cF w.heap.size _ (by rfl) rfl B0 underlying44 HL.out ?_);refine mr (ON.out _ bw) fun w1 hb=>?_;replace B0:=B0.kept hb;replace bw:=bg bw hb;clear hb
  obtain⟨c0,p1,p2,p3⟩:=parts l4.out l9.out B0;go_wp2_with (refine aN w.heap.size 1 cp (by rfl) rfl p1 underlying36 LP.out ?_);refine mr (C.out _ bw) fun w2 hb=>?_
  replace bw:=bg bw hb;go_wp2;go_ret2;exact⟨rfl,bw⟩
 by_cases o9:kOn ⟨K,p,r,f⟩=3
 .skip;obtain⟨e1,e2,e3,e4⟩:=jh o9;rw[e1,e2,e3];rw[o9]at ON
  have C:Hid (Qz w 105 #[.agg cf.toArray,.int .i64 i] (.tuple #[.bool (gaB (kOk9 f) (kBN9 f) (kBX9 f) i),.int .i64 (gaE (kOk9 f) (kBN9 f) (kBX9 f) i)])):=fun w0 g=>JZ cf f i w0 (k9.keep g) hi
  clear e1 e2 e3 e4 k7 k8 k9;generalize gaB (kOk9 f) (kBN9 f) (kBX9 f) i=P0 at *;generalize gaE (kOk9 f) (kBN9 f) (kBX9 f) i=P1 at *;go_enter func45,ntmps45
  go_wp2_with (refine cF w.heap.size _ (by rfl) rfl B0 underlying44 HL.out ?_);refine mr (ON.out _ bw) fun w1 hb=>?_;replace B0:=B0.kept hb;replace bw:=bg bw hb;clear hb
  obtain⟨c0,p1,p2,p3⟩:=parts l4.out l9.out B0;go_wp2_with (refine aN w.heap.size 14 cf (by rfl) rfl p3 underlying42 LF.out ?_);refine mr (C.out _ bw) fun w2 hb=>?_
  replace bw:=bg bw hb;go_wp2;go_ret2;exact⟨rfl,bw⟩
 obtain⟨e1,e2,e3,e4⟩:=jg o7 o8 o9;rw[e1,e2,e3];have d7:(kOn ⟨K,p,r,f⟩==1)=false:=by simp[o7]
 have d8:(kOn ⟨K,p,r,f⟩==2)=false:=by simp[o8]
 have d9:(kOn ⟨K,p,r,f⟩==3)=false:=by simp[o9]
 clear e1 e2 e3 e4 k7 k8 k9;generalize kOn ⟨K,p,r,f⟩=O at *;go_enter func45,ntmps45;go_wp2_with (refine cF w.heap.size _ (by rfl) rfl B0 underlying44 HL.out ?_);refine mr (ON.out _ bw) fun w1 hb=>?_;replace B0:=B0.kept hb;replace bw:=bg bw hb;go_wp2;go_ret2;exact⟨rfl,bw⟩
theorem AX(cs:List Value)(a:RA)(bit:Bool)(i:Int)(w:World)(h:KI w cs a)(hi:ax i)(o8:kOn a=2):
  Qq 46 #[.agg cs.toArray,.bool bit,.int .i64 i] w (.tuple #[.int .i64 (grN (aJ a) (kBN a) (aQ a) bit i),.int .i64 (grE (aJ a) (kBN a) i)]):=by
 have ON0:=fun(w0:World) (hb:Below w.heap.size w w0)=>gW cs a w0 (h.arg.keep hb);have HL:=Hid.mk8 h.arg.len;have sm:=h.sm;have gv:=h.gv;replace h:=h.arg;obtain⟨cp,cr,cf,rfl,hK,h1,h2,h3⟩:=h
 have l4:=Hid.mk8 h1.four;have l9:=Hid.mk8 h2.nine;have LP:=Hid.mk8 h1.len;have LR:=Hid.mk8 h2.len;have LF:=Hid.mk8 h3.len;obtain⟨K,p,r,f⟩:=a;dsimp only at *;have k7:b9 w cp p:=⟨h1,sm.p1,sm.p2,sm.p3⟩
 have k8:ba w cr r:=⟨h2,sm.r1,sm.r2,sm.r3,sm.r4,gv⟩;have k9:bK w cf f:=⟨h3,sm.f0,sm.f1,sm.f2⟩
 have ON:Hid (Qz w 102 #[.agg (Value.int .i64 K::(cp++(cr++cf))).toArray] (.int .i64 (kOn ⟨K,p,r,f⟩))):=ON0
 clear ON0 h1 h2 h3 sm gv;obtain⟨W,hW⟩:∃W,W=w.alloc (.cells (Value.int .i64 K::(cp++(cr++cf))).toArray 44):=⟨_,rfl⟩;have bw:Below w.heap.size w W:=by rw[hW];exact below_alloc w _
 have B0:=aU hW;subst hW;obtain⟨e1,e2,e3,e4⟩:=gX o8;rw[e1,e2,e3];rw[o8]at ON
 have C:Hid (Qz w 107 #[.agg cr.toArray,.bool bit,.int .i64 i] (.tuple #[.int .i64 (grN (kOk8 r) (kBN8 r) (kBX8 r) bit i),.int .i64 (grE (kOk8 r) (kBN8 r) i)])):=fun w0 g=>A0 cr r bit i w0 (k8.keep g) hi
 clear e1 e2 e3 e4 k7 k8 k9;generalize grN (kOk8 r) (kBN8 r) (kBX8 r) bit i=P0 at *;generalize grE (kOk8 r) (kBN8 r) i=P1 at *;go_enter func46,ntmps46
 go_wp2_with (refine cF w.heap.size _ (by rfl) rfl B0 underlying44 HL.out ?_);refine mr (ON.out _ bw) fun w1 hb=>?_;replace B0:=B0.kept hb;replace bw:=bg bw hb;clear hb
 obtain⟨c0,p1,p2,p3⟩:=parts l4.out l9.out B0;go_wp2_with (refine aN w.heap.size 5 cr (by rfl) rfl p2 underlying40 LR.out ?_);refine mr (C.out _ bw) fun w2 hb=>?_
 replace bw:=bg bw hb;go_wp2;go_ret2;exact⟨rfl,bw⟩
theorem pN(cs:List Value)(a:RA)(bit:Bool)(i:Int)(w:World)(h:KI w cs a)(hi:ax i):
  Qq 46 #[.agg cs.toArray,.bool bit,.int .i64 i] w (.tuple #[.int .i64 (grN (aJ a) (kBN a) (aQ a) bit i),.int .i64 (grE (aJ a) (kBN a) i)]):=by
 by_cases o8:kOn a=2
 .exact AX cs a bit i w h hi o8
 have ON0:=fun(w0:World) (hb:Below w.heap.size w w0)=>gW cs a w0 (h.arg.keep hb);have HL:=Hid.mk8 h.arg.len;have sm:=h.sm;have gv:=h.gv;replace h:=h.arg;obtain⟨cp,cr,cf,rfl,hK,h1,h2,h3⟩:=h
 have l4:=Hid.mk8 h1.four;have l9:=Hid.mk8 h2.nine;have LP:=Hid.mk8 h1.len;have LR:=Hid.mk8 h2.len;have LF:=Hid.mk8 h3.len;obtain⟨K,p,r,f⟩:=a;dsimp only at *;have k7:b9 w cp p:=⟨h1,sm.p1,sm.p2,sm.p3⟩
 have k8:ba w cr r:=⟨h2,sm.r1,sm.r2,sm.r3,sm.r4,gv⟩;have k9:bK w cf f:=⟨h3,sm.f0,sm.f1,sm.f2⟩
 have ON:Hid (Qz w 102 #[.agg (Value.int .i64 K::(cp++(cr++cf))).toArray] (.int .i64 (kOn ⟨K,p,r,f⟩))):=ON0
 clear ON0 h1 h2 h3 sm gv;obtain⟨W,hW⟩:∃W,W=w.alloc (.cells (Value.int .i64 K::(cp++(cr++cf))).toArray 44):=⟨_,rfl⟩;have bw:Below w.heap.size w W:=by rw[hW];exact below_alloc w _
 have B0:=aU hW;subst hW;by_cases o7:kOn ⟨K,p,r,f⟩=1
 .skip;obtain⟨e1,e2,e3,e4⟩:=jf o7;rw[e1,e2,e3];rw[o7]at ON
  have C:Hid (Qz w 106 #[.agg cp.toArray,.bool bit,.int .i64 i] (.tuple #[.int .i64 (grN (kOk7 p) (kBN7 p) (kBX7 p) bit i),.int .i64 (grE (kOk7 p) (kBN7 p) i)])):=fun w0 g=>A3 cp p bit i w0 (k7.keep g) hi
  clear e1 e2 e3 e4 k7 k8 k9;generalize grN (kOk7 p) (kBN7 p) (kBX7 p) bit i=P0 at *;generalize grE (kOk7 p) (kBN7 p) i=P1 at *;go_enter func46,ntmps46
  go_wp2_with (refine cF w.heap.size _ (by rfl) rfl B0 underlying44 HL.out ?_);refine mr (ON.out _ bw) fun w1 hb=>?_;replace B0:=B0.kept hb;replace bw:=bg bw hb;clear hb
  obtain⟨c0,p1,p2,p3⟩:=parts l4.out l9.out B0;go_wp2_with (refine aN w.heap.size 1 cp (by rfl) rfl p1 underlying36 LP.out ?_);refine mr (C.out _ bw) fun w2 hb=>?_
  replace bw:=bg bw hb;go_wp2;go_ret2;exact⟨rfl,bw⟩
 by_cases o9:kOn ⟨K,p,r,f⟩=3
 .skip;obtain⟨e1,e2,e3,e4⟩:=jh o9;rw[e1,e2,e3];rw[o9]at ON
  have C:Hid (Qz w 108 #[.agg cf.toArray,.bool bit,.int .i64 i] (.tuple #[.int .i64 (grN (kOk9 f) (kBN9 f) (kBX9 f) bit i),.int .i64 (grE (kOk9 f) (kBN9 f) i)])):=fun w0 g=>AZ cf f bit i w0 (k9.keep g) hi
  clear e1 e2 e3 e4 k7 k8 k9;generalize grN (kOk9 f) (kBN9 f) (kBX9 f) bit i=P0 at *;generalize grE (kOk9 f) (kBN9 f) i=P1 at *;go_enter func46,ntmps46
  go_wp2_with (refine cF w.heap.size _ (by rfl) rfl B0 underlying44 HL.out ?_);refine mr (ON.out _ bw) fun w1 hb=>?_;replace B0:=B0.kept hb;replace bw:=bg bw hb;clear hb
  obtain⟨c0,p1,p2,p3⟩:=parts l4.out l9.out B0;go_wp2_with (refine aN w.heap.size 14 cf (by rfl) rfl p3 underlying42 LF.out ?_);refine mr (C.out _ bw) fun w2 hb=>?_
  replace bw:=bg bw hb;go_wp2;go_ret2;exact⟨rfl,bw⟩
 obtain⟨e1,e2,e3,e4⟩:=jg o7 o8 o9;rw[e1,e2,e3];have d7:(kOn ⟨K,p,r,f⟩==1)=false:=by simp[o7]
 have d8:(kOn ⟨K,p,r,f⟩==2)=false:=by simp[o8]
 have d9:(kOn ⟨K,p,r,f⟩==3)=false:=by simp[o9]
 clear e1 e2 e3 e4 k7 k8 k9;generalize kOn ⟨K,p,r,f⟩=O at *;go_enter func46,ntmps46;go_wp2_with (refine cF w.heap.size _ (by rfl) rfl B0 underlying44 HL.out ?_);refine mr (ON.out _ bw) fun w1 hb=>?_;replace B0:=B0.kept hb;replace bw:=bg bw hb;go_wp2;go_ret2;exact⟨rfl,bw⟩
theorem zQ(cs:List Value)(a:RA)(bit:Bool)(k:Int)(w:World)(h:KI w cs a)(hi:ax k)(o8:kOn a=2):
  Qq 63 #[.agg cs.toArray,.bool bit,.int .i64 k] w (.tuple #[.int .i64 (gsX (aJ a) (kBN a) (aQ a) bit k),.int .i64 (gsE (aJ a) (kBN a) (aQ a) bit k)]):=by
 have ON0:=fun(w0:World) (hb:Below w.heap.size w w0)=>gW cs a w0 (h.arg.keep hb);have HL:=Hid.mk8 h.arg.len;have sm:=h.sm;have gv:=h.gv;replace h:=h.arg;obtain⟨cp,cr,cf,rfl,hK,h1,h2,h3⟩:=h
 have l4:=Hid.mk8 h1.four;have l9:=Hid.mk8 h2.nine;have LP:=Hid.mk8 h1.len;have LR:=Hid.mk8 h2.len;have LF:=Hid.mk8 h3.len;obtain⟨K,p,r,f⟩:=a;dsimp only at *;have k7:b9 w cp p:=⟨h1,sm.p1,sm.p2,sm.p3⟩
 have k8:ba w cr r:=⟨h2,sm.r1,sm.r2,sm.r3,sm.r4,gv⟩;have k9:bK w cf f:=⟨h3,sm.f0,sm.f1,sm.f2⟩
 have ON:Hid (Qz w 102 #[.agg (Value.int .i64 K::(cp++(cr++cf))).toArray] (.int .i64 (kOn ⟨K,p,r,f⟩))):=ON0
 clear ON0 h1 h2 h3 sm gv;obtain⟨W,hW⟩:∃W,W=w.alloc (.cells (Value.int .i64 K::(cp++(cr++cf))).toArray 44):=⟨_,rfl⟩;have bw:Below w.heap.size w W:=by rw[hW];exact below_alloc w _
 have B0:=aU hW;subst hW;obtain⟨e1,e2,e3,e4⟩:=gX o8;rw[e1,e2,e3];rw[o8]at ON
 have C:Hid (Qz w 127 #[.agg cr.toArray,.bool bit,.int .i64 k] (.tuple #[.int .i64 (gsX (kOk8 r) (kBN8 r) (kBX8 r) bit k),.int .i64 (gsE (kOk8 r) (kBN8 r) (kBX8 r) bit k)])):=fun w0 g=>zT cr r bit k w0 (k8.keep g) hi
 clear e1 e2 e3 e4 k7 k8 k9;generalize gsX (kOk8 r) (kBN8 r) (kBX8 r) bit k=P0 at *;generalize gsE (kOk8 r) (kBN8 r) (kBX8 r) bit k=P1 at *;go_enter func63,ntmps63
 go_wp2_with (refine cF w.heap.size _ (by rfl) rfl B0 underlying44 HL.out ?_);refine mr (ON.out _ bw) fun w1 hb=>?_;replace B0:=B0.kept hb;replace bw:=bg bw hb;clear hb
 obtain⟨c0,p1,p2,p3⟩:=parts l4.out l9.out B0;go_wp2_with (refine aN w.heap.size 5 cr (by rfl) rfl p2 underlying40 LR.out ?_);refine mr (C.out _ bw) fun w2 hb=>?_
 replace bw:=bg bw hb;go_wp2;go_ret2;exact⟨rfl,bw⟩
theorem z_(cs:List Value)(a:RA)(bit:Bool)(k:Int)(w:World)(h:KI w cs a)(hi:ax k):
  Qq 63 #[.agg cs.toArray,.bool bit,.int .i64 k] w (.tuple #[.int .i64 (gsX (aJ a) (kBN a) (aQ a) bit k),.int .i64 (gsE (aJ a) (kBN a) (aQ a) bit k)]):=by
 by_cases o8:kOn a=2
 .exact zQ cs a bit k w h hi o8
 have ON0:=fun(w0:World) (hb:Below w.heap.size w w0)=>gW cs a w0 (h.arg.keep hb);have HL:=Hid.mk8 h.arg.len;have sm:=h.sm;have gv:=h.gv;replace h:=h.arg;obtain⟨cp,cr,cf,rfl,hK,h1,h2,h3⟩:=h
 have l4:=Hid.mk8 h1.four;have l9:=Hid.mk8 h2.nine;have LP:=Hid.mk8 h1.len;have LR:=Hid.mk8 h2.len;have LF:=Hid.mk8 h3.len;obtain⟨K,p,r,f⟩:=a;dsimp only at *;have k7:b9 w cp p:=⟨h1,sm.p1,sm.p2,sm.p3⟩
 have k8:ba w cr r:=⟨h2,sm.r1,sm.r2,sm.r3,sm.r4,gv⟩;have k9:bK w cf f:=⟨h3,sm.f0,sm.f1,sm.f2⟩
 have ON:Hid (Qz w 102 #[.agg (Value.int .i64 K::(cp++(cr++cf))).toArray] (.int .i64 (kOn ⟨K,p,r,f⟩))):=ON0
 clear ON0 h1 h2 h3 sm gv;obtain⟨W,hW⟩:∃W,W=w.alloc (.cells (Value.int .i64 K::(cp++(cr++cf))).toArray 44):=⟨_,rfl⟩;have bw:Below w.heap.size w W:=by rw[hW];exact below_alloc w _
 have B0:=aU hW;subst hW;by_cases o7:kOn ⟨K,p,r,f⟩=1
 .skip;obtain⟨e1,e2,e3,e4⟩:=jf o7;rw[e1,e2,e3];rw[o7]at ON
  have C:Hid (Qz w 126 #[.agg cp.toArray,.bool bit,.int .i64 k] (.tuple #[.int .i64 (gsX (kOk7 p) (kBN7 p) (kBX7 p) bit k),.int .i64 (gsE (kOk7 p) (kBN7 p) (kBX7 p) bit k)])):=fun w0 g=>zZ cp p bit k w0 (k7.keep g) hi
  clear e1 e2 e3 e4 k7 k8 k9;generalize gsX (kOk7 p) (kBN7 p) (kBX7 p) bit k=P0 at *;generalize gsE (kOk7 p) (kBN7 p) (kBX7 p) bit k=P1 at *;go_enter func63,ntmps63
  go_wp2_with (refine cF w.heap.size _ (by rfl) rfl B0 underlying44 HL.out ?_);refine mr (ON.out _ bw) fun w1 hb=>?_;replace B0:=B0.kept hb;replace bw:=bg bw hb;clear hb
  obtain⟨c0,p1,p2,p3⟩:=parts l4.out l9.out B0;go_wp2_with (refine aN w.heap.size 1 cp (by rfl) rfl p1 underlying36 LP.out ?_);refine mr (C.out _ bw) fun w2 hb=>?_
  replace bw:=bg bw hb;go_wp2;go_ret2;exact⟨rfl,bw⟩
 by_cases o9:kOn ⟨K,p,r,f⟩=3
 .skip;obtain⟨e1,e2,e3,e4⟩:=jh o9;rw[e1,e2,e3];rw[o9]at ON
  have C:Hid (Qz w 128 #[.agg cf.toArray,.bool bit,.int .i64 k] (.tuple #[.int .i64 (gsX (kOk9 f) (kBN9 f) (kBX9 f) bit k),.int .i64 (gsE (kOk9 f) (kBN9 f) (kBX9 f) bit k)])):=fun w0 g=>zS cf f bit k w0 (k9.keep g) hi
  clear e1 e2 e3 e4 k7 k8 k9;generalize gsX (kOk9 f) (kBN9 f) (kBX9 f) bit k=P0 at *;generalize gsE (kOk9 f) (kBN9 f) (kBX9 f) bit k=P1 at *;go_enter func63,ntmps63
  go_wp2_with (refine cF w.heap.size _ (by rfl) rfl B0 underlying44 HL.out ?_);refine mr (ON.out _ bw) fun w1 hb=>?_;replace B0:=B0.kept hb;replace bw:=bg bw hb;clear hb
  obtain⟨c0,p1,p2,p3⟩:=parts l4.out l9.out B0;go_wp2_with (refine aN w.heap.size 14 cf (by rfl) rfl p3 underlying42 LF.out ?_);refine mr (C.out _ bw) fun w2 hb=>?_
  replace bw:=bg bw hb;go_wp2;go_ret2;exact⟨rfl,bw⟩
 obtain⟨e1,e2,e3,e4⟩:=jg o7 o8 o9;rw[e1,e2,e3];have d7:(kOn ⟨K,p,r,f⟩==1)=false:=by simp[o7]
 have d8:(kOn ⟨K,p,r,f⟩==2)=false:=by simp[o8]
 have d9:(kOn ⟨K,p,r,f⟩==3)=false:=by simp[o9]
 clear e1 e2 e3 e4 k7 k8 k9;generalize kOn ⟨K,p,r,f⟩=O at *;go_enter func63,ntmps63;go_wp2_with (refine cF w.heap.size _ (by rfl) rfl B0 underlying44 HL.out ?_);refine mr (ON.out _ bw) fun w1 hb=>?_;replace B0:=B0.kept hb;replace bw:=bg bw hb;go_wp2;go_ret2;exact⟨rfl,bw⟩
theorem jo:(prog.info? 33).map (·.size)=some 2:=by kernel_rfl
theorem Jp(cs:List Value)(a:RA)(w:World)(h:KI w cs a)(o8:kOn a=2):
  Calls prog 65 #[.agg cs.toArray] w fun e w'=>∃bo bc,e=.returned (.agg #[.int .i64 (kBN a),.slice bo (aQ a).length bc])/\Wd w' bo (aQ a)/\(aQ a).length<=bc/\Below w.heap.size w w':=by
 have ON0:=fun(w0:World) (hb:Below w.heap.size w w0)=>gW cs a w0 (h.arg.keep hb);have HL:=Hid.mk8 h.arg.len;have sm:=h.sm;have gv:=h.gv;replace h:=h.arg;obtain⟨cp,cr,cf,rfl,hK,h1,h2,h3⟩:=h
 have l4:=Hid.mk8 h1.four;have l9:=Hid.mk8 h2.nine;have LP:=Hid.mk8 h1.len;have LR:=Hid.mk8 h2.len;have LF:=Hid.mk8 h3.len;obtain⟨K,p,r,f⟩:=a;dsimp only at *;have k7:b9 w cp p:=⟨h1,sm.p1,sm.p2,sm.p3⟩
 have k8:ba w cr r:=⟨h2,sm.r1,sm.r2,sm.r3,sm.r4,gv⟩;have k9:bK w cf f:=⟨h3,sm.f0,sm.f1,sm.f2⟩
 have ON:Hid (Qz w 102 #[.agg (Value.int .i64 K::(cp++(cr++cf))).toArray] (.int .i64 (kOn ⟨K,p,r,f⟩))):=ON0
 clear ON0 h1 h2 h3 sm gv;have bw:Below w.heap.size w ((w.alloc (.cells (Value.int .i64 K::(cp++(cr++cf))).toArray 44)).alloc (.cells #[.int .i64 0,.slice none 0 0] 33)):=(below_alloc w _).alloc (by simp) _
 have B0:aa ((w.alloc (.cells (Value.int .i64 K::(cp++(cr++cf))).toArray 44)).alloc (.cells #[.int .i64 0,.slice none 0 0] 33)) w.heap.size (Value.int .i64 K::(cp++(cr++cf))) 44:=(aa.new w _ _).alloc _
 have B2:aa ((w.alloc (.cells (Value.int .i64 K::(cp++(cr++cf))).toArray 44)).alloc (.cells #[.int .i64 0,.slice none 0 0] 33)) (w.heap.size+1) [.int .i64 0,.slice none 0 0] 33:=aa.new2 w _ _ _
 obtain⟨e1,e2,e3,e4⟩:=gX o8;rw[e2,e3];rw[o8]at ON
 have C:Hid (∀w0,Below w.heap.size w w0->Calls prog 130 #[.agg cr.toArray] w0 fun e w'=>∃bo bc,e=.returned (.agg #[.int .i64 (kBN8 r),.slice bo (kBX8 r).length bc])/\Wd w' bo (kBX8 r)/\(kBX8 r).length<=bc/\Below w0.heap.size w0 w'):=fun w0 g=>Js cr r w0 (k8.keep g)
 clear e1 e2 e3 e4 k7 k8 k9;generalize kBN8 r=N at *;generalize kBX8 r=X at *;go_enter func65,ntmps65;go_wp2_with (refine cF w.heap.size _ (by rfl) rfl B0 underlying44 HL.out ?_)
 refine mr (ON.out _ bw) fun w1 hb=>?_;replace B0:=B0.kept hb;replace bw:=bg bw hb;replace B2:=B2.kept hb;clear hb;obtain⟨c0,p1,p2,p3⟩:=parts l4.out l9.out B0
 go_wp2_with (refine aN w.heap.size 5 cr (by rfl) rfl p2 underlying40 LR.out ?_);refine(C.out _ bw).mono ?_;rintro e w2 ⟨bo,bc,rfl,hx,hbc,hb⟩;replace bw:=bg bw hb;replace B2:=B2.kept hb
 clear hb C ON B0 c0 p1 p2 p3;have hne:=hx.apart B2 (by intro v hv n;simp at hv;rcases hv with rfl | rfl<;>simp);go_wp2_with (refine aP (w.heap.size+1) _ _ rfl rfl B2 rfl jo (by simp[Value.oneCell']) ?_)
 intro w3 B3 O3;have HZ:Hid (aa w3 (w.heap.size+1) [.int .i64 N,.slice bo (List.length X) bc] 33/\Wd w3 bo X/\Below w.heap.size w w3):=⟨B3,O3.wd hx hne,bw.trans (O3.below (Nat.le_succ _))⟩;clear B3 O3 hx;go_wp2
 (try simp only[Exit.inBlock,Exit.then]);exact bodyPost_ret (fM rfl (w.heap.size+1) _ rfl HZ.out.1 underlying33 jo) rfl ⟨bo,bc,rfl,HZ.out.2.1,hbc,HZ.out.2.2⟩
theorem Ju(cs:List Value)(a:RA)(w:World)(h:KI w cs a):
  Calls prog 65 #[.agg cs.toArray] w fun e w'=>∃bo bc,e=.returned (.agg #[.int .i64 (kBN a),.slice bo (aQ a).length bc])/\Wd w' bo (aQ a)/\(aQ a).length<=bc/\Below w.heap.size w w':=by
 by_cases o8:kOn a=2
 .exact Jp cs a w h o8
 have ON0:=fun(w0:World) (hb:Below w.heap.size w w0)=>gW cs a w0 (h.arg.keep hb);have HL:=Hid.mk8 h.arg.len;have sm:=h.sm;have gv:=h.gv;replace h:=h.arg;obtain⟨cp,cr,cf,rfl,hK,h1,h2,h3⟩:=h
 have l4:=Hid.mk8 h1.four;have l9:=Hid.mk8 h2.nine;have LP:=Hid.mk8 h1.len;have LR:=Hid.mk8 h2.len;have LF:=Hid.mk8 h3.len;obtain⟨K,p,r,f⟩:=a;dsimp only at *;have k7:b9 w cp p:=⟨h1,sm.p1,sm.p2,sm.p3⟩
 have k8:ba w cr r:=⟨h2,sm.r1,sm.r2,sm.r3,sm.r4,gv⟩;have k9:bK w cf f:=⟨h3,sm.f0,sm.f1,sm.f2⟩
 have ON:Hid (Qz w 102 #[.agg (Value.int .i64 K::(cp++(cr++cf))).toArray] (.int .i64 (kOn ⟨K,p,r,f⟩))):=ON0
 clear ON0 h1 h2 h3 sm gv;have bw:Below w.heap.size w ((w.alloc (.cells (Value.int .i64 K::(cp++(cr++cf))).toArray 44)).alloc (.cells #[.int .i64 0,.slice none 0 0] 33)):=(below_alloc w _).alloc (by simp) _
 have B0:aa ((w.alloc (.cells (Value.int .i64 K::(cp++(cr++cf))).toArray 44)).alloc (.cells #[.int .i64 0,.slice none 0 0] 33)) w.heap.size (Value.int .i64 K::(cp++(cr++cf))) 44:=(aa.new w _ _).alloc _
 have B2:aa ((w.alloc (.cells (Value.int .i64 K::(cp++(cr++cf))).toArray 44)).alloc (.cells #[.int .i64 0,.slice none 0 0] 33)) (w.heap.size+1) [.int .i64 0,.slice none 0 0] 33:=aa.new2 w _ _ _
 by_cases o7:kOn ⟨K,p,r,f⟩=1
 .skip;obtain⟨e1,e2,e3,e4⟩:=jf o7;rw[e2,e3];rw[o7]at ON
  have C:Hid (∀w0,Below w.heap.size w w0->Calls prog 129 #[.agg cp.toArray] w0 fun e w'=>∃bo bc,e=.returned (.agg #[.int .i64 (kBN7 p),.slice bo (kBX7 p).length bc])/\Wd w' bo (kBX7 p)/\(kBX7 p).length<=bc/\Below w0.heap.size w0 w'):=fun w0 g=>Jt cp p w0 (k7.keep g)
  clear e1 e2 e3 e4 k7 k8 k9;generalize kBN7 p=N at *;generalize kBX7 p=X at *;go_enter func65,ntmps65;go_wp2_with (refine cF w.heap.size _ (by rfl) rfl B0 underlying44 HL.out ?_)
  refine mr (ON.out _ bw) fun w1 hb=>?_;replace B0:=B0.kept hb;replace bw:=bg bw hb;replace B2:=B2.kept hb;clear hb;obtain⟨c0,p1,p2,p3⟩:=parts l4.out l9.out B0
  go_wp2_with (refine aN w.heap.size 1 cp (by rfl) rfl p1 underlying36 LP.out ?_);refine(C.out _ bw).mono ?_;rintro e w2 ⟨bo,bc,rfl,hx,hbc,hb⟩;replace bw:=bg bw hb;replace B2:=B2.kept hb
  clear hb C ON B0 c0 p1 p2 p3;have hne:=hx.apart B2 (by intro v hv n;simp at hv;rcases hv with rfl | rfl<;>simp);go_wp2_with (refine aP (w.heap.size+1) _ _ rfl rfl B2 rfl jo (by simp[Value.oneCell']) ?_)
  intro w3 B3 O3;have HZ:Hid (aa w3 (w.heap.size+1) [.int .i64 N,.slice bo (List.length X) bc] 33/\Wd w3 bo X/\Below w.heap.size w w3):=⟨B3,O3.wd hx hne,bw.trans (O3.below (Nat.le_succ _))⟩;clear B3 O3 hx;go_wp2
  (try simp only[Exit.inBlock,Exit.then]);exact bodyPost_ret (fM rfl (w.heap.size+1) _ rfl HZ.out.1 underlying33 jo) rfl ⟨bo,bc,rfl,HZ.out.2.1,hbc,HZ.out.2.2⟩
 by_cases o9:kOn ⟨K,p,r,f⟩=3
 .skip;obtain⟨e1,e2,e3,e4⟩:=jh o9;rw[e2,e3];rw[o9]at ON
  have C:Hid (∀w0,Below w.heap.size w w0->Calls prog 131 #[.agg cf.toArray] w0 fun e w'=>∃bo bc,e=.returned (.agg #[.int .i64 (kBN9 f),.slice bo (kBX9 f).length bc])/\Wd w' bo (kBX9 f)/\(kBX9 f).length<=bc/\Below w0.heap.size w0 w'):=fun w0 g=>Jr cf f w0 (k9.keep g)
  clear e1 e2 e3 e4 k7 k8 k9;generalize kBN9 f=N at *;generalize kBX9 f=X at *;go_enter func65,ntmps65;go_wp2_with (refine cF w.heap.size _ (by rfl) rfl B0 underlying44 HL.out ?_)
  refine mr (ON.out _ bw) fun w1 hb=>?_;replace B0:=B0.kept hb;replace bw:=bg bw hb;replace B2:=B2.kept hb;clear hb;obtain⟨c0,p1,p2,p3⟩:=parts l4.out l9.out B0
  go_wp2_with (refine aN w.heap.size 14 cf (by rfl) rfl p3 underlying42 LF.out ?_);refine(C.out _ bw).mono ?_;rintro e w2 ⟨bo,bc,rfl,hx,hbc,hb⟩;replace bw:=bg bw hb;replace B2:=B2.kept hb
  clear hb C ON B0 c0 p1 p2 p3;have hne:=hx.apart B2 (by intro v hv n;simp at hv;rcases hv with rfl | rfl<;>simp);go_wp2_with (refine aP (w.heap.size+1) _ _ rfl rfl B2 rfl jo (by simp[Value.oneCell']) ?_)
  intro w3 B3 O3;have HZ:Hid (aa w3 (w.heap.size+1) [.int .i64 N,.slice bo (List.length X) bc] 33/\Wd w3 bo X/\Below w.heap.size w w3):=⟨B3,O3.wd hx hne,bw.trans (O3.below (Nat.le_succ _))⟩;clear B3 O3 hx;go_wp2
  (try simp only[Exit.inBlock,Exit.then]);exact bodyPost_ret (fM rfl (w.heap.size+1) _ rfl HZ.out.1 underlying33 jo) rfl ⟨bo,bc,rfl,HZ.out.2.1,hbc,HZ.out.2.2⟩
 obtain⟨e1,e2,e3,e4⟩:=jg o7 o8 o9;rw[e2,e3];have d7:(kOn ⟨K,p,r,f⟩==1)=false:=by simp[o7]
 have d8:(kOn ⟨K,p,r,f⟩==2)=false:=by simp[o8]
 have d9:(kOn ⟨K,p,r,f⟩==3)=false:=by simp[o9]
 clear e1 e2 e3 e4 k7 k8 k9;generalize kOn ⟨K,p,r,f⟩=O at *;go_enter func65,ntmps65;go_wp2_with (refine cF w.heap.size _ (by rfl) rfl B0 underlying44 HL.out ?_);refine mr (ON.out _ bw) fun w1 hb=>?_;replace B0:=B0.kept hb;replace bw:=bg bw hb;replace B2:=B2.kept hb;clear hb ON B0
 go_wp2_with (refine aP (w.heap.size+1) _ _ rfl rfl B2 rfl jo (by simp[Value.oneCell']) ?_);intro w3 B3 O3
 have HZ:Hid (aa w3 (w.heap.size+1) [.int .i64 0,.slice none 0 0] 33/\Below w.heap.size w w3):=⟨B3,bw.trans (O3.below (Nat.le_succ _))⟩;clear B3 O3;go_wp2
 (try simp only[Exit.inBlock,Exit.then]);exact bodyPost_ret (fM rfl (w.heap.size+1) _ rfl HZ.out.1 underlying33 jo) rfl ⟨none,0,rfl,dW _ _,Nat.le_refl _,HZ.out.2⟩
open Go.ChangeShapes Go.WideShapes Go.ChangeAt Go.RowKit Go.Joins Go.Deep Num Bit
theorem EK(N:Int)(xs:List Nat)(hf:Fit xs)(hk:ar N xs=true)(hN:N<=3000):kOk9 (kB9 N xs)=true/\kBN9 (kB9 N xs)=N/\kBX9 (kB9 N xs)=xs:=by
 obtain⟨h0,h1,_,_⟩:=bp N xs hk;obtain⟨n,rfl⟩:=Int.eq_ofNat_of_zero_le h0;have hn:n<=3000:=by omega
 obtain⟨L,hL⟩:∃L,L=plc (bitAt xs) n:=⟨_,rfl⟩;have RS:aR L n:=by rw[hL];exact jb _ _
 have mn:=RS.len;have v20:=gS n L.length (by omega)
 have e:kB9 (n:Int) xs=cK n L:=by
  unfold kB9;rw[if_pos hk,Int.toNat_natCast,<-hL]
 have hE:n/2^wdF n L.length<=n:=Nat.div_le_self _ _
 have hrow:gL (cK n L)=some L:=by
  refine GW RS (by omega) (by unfold hiN;omega) ?_;have l1:=qs L (wdF n L.length);have l3:(loP L (wdF n L.length)).length*max (wdF n L.length) 1<=3000*20:=Nat.mul_le_mul (by omega) (by omega);omega
 have ok:kOk9 (cK n L)=true:=by
  unfold kOk9;rw[hrow];exact(rf _ _).2 rfl
 rw[e];refine⟨ok,?_,?_⟩
 .unfold kBN9;rw[if_pos ok];rfl
 .unfold kBX9 kRow;rw[if_pos ok,hrow];show rowOf n (isIn L)=xs;have hy:=kY (n:Int) xs hf hk;rw[Int.toNat_natCast]at hy
  rw[dd n _ (bitAt xs) fun j hj=>by rw[hL,vB,decide_eq_true hj,Bool.true_and]];exact hy.symm
open Go.ChangeShapes Go.WideShapes Go.ChangeAt Go.RowKit Go.Joins Go.Deep Num Bit Bn
theorem vm(N:Int)(xs:List Nat)(h:kE7 N xs=0):kB 1 N xs=⟨1,kB7 N xs,n8,n9⟩:=by
 have e:kE 1 N xs=0:=h;unfold kB;rw[if_pos e];rfl
theorem nZ(N:Int)(xs:List Nat)(h:kE8 N xs=0):kB 2 N xs=⟨2,n7,kB8 N xs,n9⟩:=by
 have e:kE 2 N xs=0:=h;unfold kB;rw[if_pos e];rfl
theorem vp(N:Int)(xs:List Nat)(h:kE9 N xs=0):kB 3 N xs=⟨3,n7,n8,kB9 N xs⟩:=by
 have e:kE 3 N xs=0:=h;unfold kB;rw[if_pos e];rfl
theorem n_(k N:Int)(xs:List Nat)(h:kE k N xs≠0):kB k N xs=⟨0,n7,n8,n9⟩:=by
 unfold kB;rw[if_neg h]
theorem CA(p:bN):kOn ⟨1,p,n8,n9⟩=1:=by
 have:da ⟨1,p,n8,n9⟩=true:=rfl;unfold kOn;rw[if_pos this]
theorem pY(r:aE):kOn ⟨2,n7,r,n9⟩=2:=by
 have:da ⟨2,n7,r,n9⟩=true:=rfl;unfold kOn;rw[if_pos this]
theorem CD(f:bm):kOn ⟨3,n7,n8,f⟩=3:=by
 have:da ⟨3,n7,n8,f⟩=true:=rfl;unfold kOn;rw[if_pos this]
theorem EM(k N:Int)(xs:List Nat)(h1:1<=k)(h3:k<=3)(hf:Fit xs)(hk:ar N xs=true)(hN:N<=3000):aJ (kB k N xs)=true/\kBN (kB k N xs)=N/\aQ (kB k N xs)=xs:=by
 have e0:=nY k N xs h1 h3 hk;have h:k=1\/k=2\/k=3:=by omega
 rcases h with rfl | rfl | rfl
 .rw[vm N xs e0];obtain⟨e1,e2,e3,_⟩:=jf (CA (kB7 N xs));obtain⟨g1,g2,g3⟩:=EL N xs hk;exact⟨e1.trans g1,e2.trans g2,e3.trans g3⟩
 .rw[nZ N xs e0];obtain⟨e1,e2,e3,_⟩:=gX (pY (kB8 N xs));obtain⟨g1,g2,g3⟩:=qz N xs hf hk;exact⟨e1.trans g1,e2.trans g2,e3.trans g3⟩
 .rw[vp N xs e0];obtain⟨e1,e2,e3,_⟩:=jh (CD (kB9 N xs));obtain⟨g1,g2,g3⟩:=EK N xs hf hk hN;exact⟨e1.trans g1,e2.trans g2,e3.trans g3⟩
theorem EH(N:Int)(xs:List Nat)(hf:Fit xs)(hk:ar N xs=true):0<kZ (kB 2 N xs):=by
 rw[nZ N xs (qy N xs hk),(gX (pY (kB8 N xs))).2.2.2];exact EG N xs hf hk
end Go.Proofs.YtleegaihbgbcjaaGreatDoor
namespace Go.Proofs.YtleegaihbgbcjaaGreatDoor
open Go.RowKit Num Bit
theorem aw.nd{g base:Nat}{w w':World}{ao:Option Addr}{l:List Int}(h:aw g w w')(hx:Nd w ao l)(hf:Fr base ao)(hg:g<base):Nd w' ao l:=by
 intro h0;obtain⟨b,off,rfl,hlt,hc⟩:=hx h0;have hne:base<=b:=hf _ rfl;exact⟨b,off,rfl,by rw[h.size];exact hlt,fun i hi=>(h.cell (p:=⟨b,off+i,none⟩) (show b≠g by omega)).trans (hc i hi)⟩
def bT(cs:List Value):Prop:=∀v∈cs,∀n,v≠.int .u64 n
theorem bT.app{a b:List Value}(h:bT a)(g:bT b):bT (a++b):=fun v hv n=>by
 rcases List.mem_append.1 hv with e | e
 .exact h v e n
 .exact g v e n
theorem eH.nou{w:World}{cs:List Value}{a:bN}(h:eH w cs a):bT cs:=by
 obtain⟨ao,cap,so,sc,tO,tc,rfl,_⟩:=h;intro v hv n;simp at hv;rcases hv with rfl | rfl | rfl | rfl<;>simp
theorem dU.nou{w:World}{cs:List Value}{a:aE}(h:dU w cs a):bT cs:=by
 obtain⟨ao,cap,qo,dap,so,sc,tO,tc,rfl,_⟩:=h;intro v hv n;simp at hv;rcases hv with rfl | rfl | rfl | rfl | rfl | rfl | rfl | rfl | rfl<;>simp
theorem eG.nou{w:World}{cs:List Value}{a:bm}(h:eG w cs a):bT cs:=by
 obtain⟨ao,cap,qo,dap,rfl,_⟩:=h;intro v hv n;simp at hv;rcases hv with rfl | rfl | rfl | rfl | rfl | rfl | rfl | rfl<;>simp
theorem b9.only{w w2:World}{g base:Nat}{cs gs:List Value}{a:bN}{T:TypeId}(h:b9 w cs a)(nf:NF base 2 cs)(hg:g<base)(hc:aa w g gs T)(hn:bT gs)(hO:aw g w w2):b9 w2 cs a:=by
 obtain⟨⟨ao,cap,so,sc,tO,tc,rfl,h⟩,xl,sl,tl⟩:=h
 exact⟨⟨ao,cap,so,sc,tO,tc,rfl,⟨h.n,hO.wd h.x (h.x.apart hc hn),h.f,h.c,hO.nd h.s (nf _ _ _ (.inl rfl)) hg,h.sf,h.sc,hO.nd h.t (nf _ _ _ (.inr rfl)) hg,h.tf,h.tc⟩⟩,xl,sl,tl⟩
theorem ba.only{w w2:World}{g base:Nat}{cs gs:List Value}{a:aE}{T:TypeId}(h:ba w cs a)(nf:NF base 7 cs)(hg:g<base)(hc:aa w g gs T)(hn:bT gs)(hO:aw g w w2)(G2:GV w2):ba w2 cs a:=by
 obtain⟨⟨ao,cap,qo,dap,so,sc,tO,tc,rfl,r,a1,a2,a3,a4,a5,a6,a7,a8,a9,a10⟩,xl,yl,sl,tl,_⟩:=h
 exact⟨⟨ao,cap,qo,dap,so,sc,tO,tc,rfl,r,hO.wd a1 (a1.apart hc hn),a2,a3,hO.wd a4 (a4.apart hc hn),a5,a6,hO.nd a7 (nf _ _ _ (.inl rfl)) hg,a8,hO.nd a9 (nf _ _ _ (.inr rfl)) hg,a10⟩,xl,yl,sl,tl,G2⟩
theorem bK.only{w w2:World}{g:Nat}{cs gs:List Value}{a:bm}{T:TypeId}(h:bK w cs a)(hc:aa w g gs T)(hn:bT gs)(hO:aw g w w2):bK w2 cs a:=by
 obtain⟨⟨ao,cap,qo,dap,rfl,r,a1,a2,a3,a4,a5,a6⟩,n3,xl,yl⟩:=h;exact⟨⟨ao,cap,qo,dap,rfl,r,hO.wd a1 (a1.apart hc hn),a2,a3,hO.wd a4 (a4.apart hc hn),a5,a6⟩,n3,xl,yl⟩
theorem dL:ax 0:=⟨by decide,by decide⟩
theorem z7arg(w:World):b9 w [Value.int .i64 0,.slice none 0 0,.slice none 0 0,.slice none 0 0] n7:=⟨⟨none,0,none,0,none,0,rfl,⟨dL,dW _ _,jW,Nat.le_refl _,jj _ _,kW,Nat.le_refl _,jj _ _,kW,Nat.le_refl _⟩⟩,Nat.zero_le _,Nat.zero_le _,Nat.zero_le _⟩
theorem z8a(w:World):dU w [Value.int .i64 0,.int .i64 0,.int .i64 0,.int .i64 0,.slice none 0 0,.int .i64 0,.slice none 0 0,.slice none 0 0,.slice none 0 0] n8:=⟨none,0,none,0,none,0,none,0,rfl,⟨dL,dL,dL,dL,dL,kW,kW⟩,dW _ _,jW,Nat.le_refl _,dW _ _,jW,Nat.le_refl _,jj _ _,Nat.le_refl _,jj _ _,Nat.le_refl _⟩
theorem z8arg(w:World)(G:GV w):ba w [Value.int .i64 0,.int .i64 0,.int .i64 0,.int .i64 0,.slice none 0 0,.int .i64 0,.slice none 0 0,.slice none 0 0,.slice none 0 0] n8:=⟨z8a w,Nat.zero_le _,Nat.zero_le _,Nat.zero_le _,Nat.zero_le _,G⟩
theorem z9arg(w:World):bK w [Value.int .i64 0,.int .i64 0,.int .i64 0,.int .i64 0,.int .i64 0,.slice none 0 0,.int .i64 0,.slice none 0 0] n9:=⟨⟨none,0,none,0,rfl,⟨dL,dL,dL,dL,dL,dL⟩,dW _ _,jW,Nat.le_refl _,dW _ _,jW,Nat.le_refl _⟩,by decide,Nat.zero_le _,Nat.zero_le _⟩
theorem ki_mk{w:World}{cp cr cf:List Value}{K:Int}{p:bN}{r:aE}{f:bm}(hK:ax K)(h1:b9 w cp p)(h2:ba w cr r)(h3:bK w cf f):KI w (.int .i64 K::(cp++(cr++cf))) ⟨K,p,r,f⟩:=
 ⟨⟨cp,cr,cf,rfl,hK,h1.arg,h2.arg,h3.arg⟩,⟨h1.xl,h1.sl,h1.tl,h2.xl,h2.yl,h2.sl,h2.tl,h3.n3,h3.xl,h3.yl⟩,h2.gv⟩
theorem kI{w:World}{cp cr cf:List Value}{K:Int}{p:bN}{r:aE}{f:bm}(hK:ax K)(h1:eH w cp p)(h2:dU w cr r)(h3:eG w cf f):eU w (.int .i64 K::(cp++(cr++cf))) ⟨K,p,r,f⟩:=⟨cp,cr,cf,rfl,hK,h1,h2,h3⟩
theorem nou_mk{cp cr cf:List Value}{K:Int}(h1:bT cp)(h2:bT cr)(h3:bT cf):bT (.int .i64 K::(cp++(cr++cf))):=fun v hv n=>by
 rcases List.mem_cons.1 hv with rfl | e
 .simp
 .exact(h1.app (h2.app h3)) v e n
theorem IK{w:World}{g:Nat}{T:TypeId}:∀(cs pre old post:List Value),old.length=cs.length->aa w g (pre++(old++post)) T->aa (w.setCells g pre.length cs) g (pre++(cs++post)) T/\aw g w (w.setCells g pre.length cs):=by
 intro cs;induction cs generalizing w with
 | nil=>
  intro pre old post hl h;obtain rfl:=List.eq_nil_of_length_eq_zero hl;exact⟨h,aw.refl _ _⟩
 | cons v r ih=>
  intro pre old post hl h;match old,hl with
  | u::o,hl=>
   have h2:aa (w.setCell ⟨g,pre.length,none⟩ v) g ((pre++[v])++(o++post)) T:=by
    have:=h.set pre.length v
    have e:(pre++(u::o++post)).set pre.length v=(pre++[v])++(o++post):=by
     rw[List.set_append_right _ _ (Nat.le_refl _),Nat.sub_self];simp
    rw[e]at this;exact this
   have k:=ih (pre++[v]) o post (by simpa using hl) h2;rw[List.length_append,List.length_singleton]at k;refine⟨?_,((aw.refl g w).set pre.length v).trans k.2⟩;have k1:=k.1;rw[List.append_assoc]at k1;exact k1
theorem j_{ops:Array Oper}{rest:List Oper}{d:Option Tmp}{ty T TT:TypeId}{ps:String}{af:Array Edge}{a:Act}{w:World}{Q:Exit->Act->World->Prop}{x y:Operand}
  (g:Nat) (pre old post cs:List Value) (hx:a.eval x=.pointer (some ⟨g,pre.length,none⟩)) (hy:a.eval y=.agg cs.toArray) (hc:aa w g (pre++(old++post)) TT) (lo:old.length=cs.length) (hi:(prog.info? T).map (·.size)=some cs.length) (h1:cs.toArray.all (·.oneCell')=true)
  (h:∀w1,aa w1 g (pre++(cs++post)) TT->aw g w w1->wpList prog ops Q rest (a.put d undef) w1):
  wpList prog ops Q (⟨d,.store T x y,ty,ps,af,none⟩::rest) a w:=by
 refine wpList_store_mid rfl T x y rfl g pre.length cs.toArray hx hy ?_ (by simpa using hi) h1 ?_
 .intro j hj;have hj:j<cs.length:=by simpa using hj
  have hl:pre.length+j<(pre++(old++post)).length:=by simp only[List.length_append];omega
  exact⟨by rw[hc.cell (pre.length+j) (List.getElem?_eq_getElem hl)];rfl,hc.frozen _⟩
 .have k:=IK cs pre old post lo hc;exact h _ k.1 k.2
theorem NF.mono{base b0 i:Nat}{cs:List Value}(h:NF base i cs)(hl:b0<=base):NF b0 i cs:=fun ao n c e a ha=>Nat.le_trans hl (h ao n c e a ha)
theorem NF.mid{base i j:Nat}{pre cs post:List Value}(h:NF base i cs)(hl:i+2<=cs.length)(hj:j=pre.length+i):NF base j (pre++(cs++post)):=fun ao n c e=>by
 subst hj;refine h ao n c ?_
 have k:∀q,q<cs.length->(pre++(cs++post))[pre.length+q]?=cs[q]?:=fun q hq=>by
  rw[List.getElem?_append_right (by omega),List.getElem?_append_left (by omega),show pre.length+q-pre.length=q by omega]
 rw[k i (by omega),show pre.length+i+1=pre.length+(i+1)by omega,k (i+1) (by omega)]at e;exact e
def jC(base:Nat)(cs:List Value):Prop:=NF base 3 cs/\NF base 12 cs
theorem I7(N:Int)(ao:Option Addr)(xs:List Nat)(cap:Nat)(w:World)(hN:ax N)(hx:Wd w ao xs)(hf:Fit xs)(hcap:xs.length<=cap)(hl:N<=3000/\xs.length<=1048576)(GG:GV w):
  Calls prog 40 #[.int .i64 2,.agg #[.int .i64 N,.slice ao xs.length cap]] w fun e w'=>∃cs:List Value,e=.returned (.tuple #[.agg cs.toArray,.int .i64 (kE 2 N xs)])/\KI w' cs (kB 2 N xs)/\Below w.heap.size w w'/\jC w.heap.size cs:=by
 obtain⟨W,hW⟩:∃W,W=((w.alloc (.cells #[.int .i64 N,.slice ao xs.length cap] 33)).alloc (.cells [Value.int .i64 0,.int .i64 0,.slice none 0 0,.slice none 0 0,.slice none 0 0,.int .i64 0,.int .i64 0,.int .i64 0,.int .i64 0,.slice none 0 0,.int .i64 0,.slice none 0 0,.slice none 0 0,.slice none 0 0,.int .i64 0,.int .i64 0,.int .i64 0,.int .i64 0,.int .i64 0,.slice none 0 0,.int .i64 0,.slice none 0 0].toArray 44)).alloc (.cells [Value.int .i64 0,.int .i64 0,.slice none 0 0,.slice none 0 0,.slice none 0 0,.int .i64 0,.int .i64 0,.int .i64 0,.int .i64 0,.slice none 0 0,.int .i64 0,.slice none 0 0,.slice none 0 0,.slice none 0 0,.int .i64 0,.int .i64 0,.int .i64 0,.int .i64 0,.int .i64 0,.slice none 0 0,.int .i64 0,.slice none 0 0].toArray 44):=⟨_,rfl⟩
 have bw:Below w.heap.size w W:=by rw[hW];exact((below_alloc w _).alloc (by simp) _).alloc (by simp;omega) _
 have B0:aa W w.heap.size [.int .i64 N,.slice ao xs.length cap] 33:=by rw[hW];exact((aa.new w _ _).alloc _).alloc _
 have B4:aa W (w.heap.size+1) [Value.int .i64 0,.int .i64 0,.slice none 0 0,.slice none 0 0,.slice none 0 0,.int .i64 0,.int .i64 0,.int .i64 0,.int .i64 0,.slice none 0 0,.int .i64 0,.slice none 0 0,.slice none 0 0,.slice none 0 0,.int .i64 0,.int .i64 0,.int .i64 0,.int .i64 0,.int .i64 0,.slice none 0 0,.int .i64 0,.slice none 0 0] 44:=by rw[hW];exact(aa.new2 w _ _ _).alloc _
 have B6:aa W (w.heap.size+2) [Value.int .i64 0,.int .i64 0,.slice none 0 0,.slice none 0 0,.slice none 0 0,.int .i64 0,.int .i64 0,.int .i64 0,.int .i64 0,.slice none 0 0,.int .i64 0,.slice none 0 0,.slice none 0 0,.slice none 0 0,.int .i64 0,.int .i64 0,.int .i64 0,.int .i64 0,.int .i64 0,.slice none 0 0,.int .i64 0,.slice none 0 0] 44:=by rw[hW];exact(aa.new2 (w.alloc _) _ _ _).at (by simp)
 have hIV:=Hid.mk8 qD
 have H8:Hid (∀w0,Below w.heap.size w w0->Calls prog 92 #[.agg #[.int .i64 N,.slice ao xs.length cap]] w0 fun e w'=>∃cs:List Value,e=.returned (.tuple #[.agg cs.toArray,.int .i64 (kE8 N xs)])/\ba w' cs (kB8 N xs)/\NF w0.heap.size 7 cs/\Below w0.heap.size w0 w'):=fun w0 h=>Ja N ao xs cap w0 hN (hx.keep h) hf hcap hl.2 (GG.kept h)
 subst hW;have hK:ax 2:=by unfold ax;decide
 have eE:kE 2 N xs=kE8 N xs:=rfl;rw[eE];by_cases z:kE8 N xs=0
 .have ew:kB 2 N xs=⟨2,n7,kB8 N xs,n9⟩:=nZ N xs z;rw[z]at H8⊢;clear eE z;go_enter func40,ntmps40;go_wp2_with (refine aP (w.heap.size+2) _ _ rfl rfl B6 rfl hIV.out (by simp[Value.oneCell']) ?_)
  intro w1 B6 O1;replace B0:=O1.cel B0 (by omega);replace B4:=O1.cel B4 (by omega);replace bw:=bw.trans (O1.below (by omega));clear O1;have r0:=B0.cell 0 rfl;have r1:=B0.cell 1 rfl;go_wp2_with fail
  refine(H8.out _ bw).mono ?_;rintro e w2 ⟨cs,rfl,hP,hN2,hb⟩;have sz:=B6.lt;have sz2:=hb.size;replace B4:=B4.kept hb;replace B6:=B6.kept hb;replace bw:=bg bw hb;clear hb r0 r1 B0
  go_wp2_with (refine j_ (w.heap.size+2) (Value.int .i64 2::[Value.int .i64 0,.slice none 0 0,.slice none 0 0,.slice none 0 0]) [Value.int .i64 0,.int .i64 0,.int .i64 0,.int .i64 0,.slice none 0 0,.int .i64 0,.slice none 0 0,.slice none 0 0,.slice none 0 0] [Value.int .i64 0,.int .i64 0,.int .i64 0,.int .i64 0,.int .i64 0,.slice none 0 0,.int .i64 0,.slice none 0 0] cs rfl rfl B6 hP.arg.nine hP.arg.len hP.arg.one ?_)
  intro w3 B7 O3;have hQ:=hP.only hN2 (by omega) B6 (nou_mk (z7arg w).arg.nou (z8a w).nou (z9arg w).arg.nou) O3 (GG.kept (bw.trans (O3.below (by omega))));replace B4:=O3.cel B4 (by omega)
  replace bw:=bw.trans (O3.below (by omega))
  have B8:aa w3 (w.heap.size+2) (Value.int .i64 2::([Value.int .i64 0,.slice none 0 0,.slice none 0 0,.slice none 0 0]++(cs++[Value.int .i64 0,.int .i64 0,.int .i64 0,.int .i64 0,.int .i64 0,.slice none 0 0,.int .i64 0,.slice none 0 0]))) 44:=B7
  have HL:=Hid.mk8 (ki_mk hK (z7arg w3) hQ (z9arg w3)).arg.len;have H1:=Hid.mk8 (ki_mk hK (z7arg w3) hQ (z9arg w3)).arg.one;have H9:=Hid.mk8 (ki_mk hK (z7arg w3) hQ (z9arg w3)).arg.nine
  have HNF:Hid (jC w.heap.size (Value.int .i64 2::([Value.int .i64 0,.slice none 0 0,.slice none 0 0,.slice none 0 0]++(cs++[Value.int .i64 0,.int .i64 0,.int .i64 0,.int .i64 0,.int .i64 0,.slice none 0 0,.int .i64 0,.slice none 0 0])))):=⟨eM (bE _) (bE _),(hN2.mono (by omega)).mid (pre:=Value.int .i64 2::[Value.int .i64 0,.slice none 0 0,.slice none 0 0,.slice none 0 0]) (by have:=H9.out;have:=hQ.arg.nine;omega) rfl⟩
  have HQ:=Hid.mk8 (And.intro hQ hN2);clear B7 O3 B6 hP hN2 hQ
  go_wp2_with (first | refine cF (w.heap.size+2) _ (by rfl) rfl B8 underlying44 HL.out ?_ | refine aP (w.heap.size+1) _ _ rfl rfl B4 H9.out HL.out H1.out ?_);intro w9 B9 O9
  have HZ:=Hid.mk8 (And.intro B9 (And.intro (ki_mk hK (z7arg w9) (HQ.out.1.only HQ.out.2 (by omega) B4 (nou_mk (z7arg w).arg.nou (z8a w).nou (z9arg w).arg.nou) O9 (GG.kept (bw.trans (O9.below (by omega))))) (z9arg w9)) (bw.trans (O9.below (by omega)))))
  clear B9 O9 B8 B4 HQ;go_wp2
  (try simp only[Exit.inBlock,Exit.then]);refine bodyPost_ret (bJ rfl (w.heap.size+1) _ rfl HZ.out.1 underlying44 HL.out) rfl ⟨_,rfl,?_,HZ.out.2.2,HNF.out⟩;rw[ew];exact HZ.out.2.1
 .have ew:kB 2 N xs=⟨0,n7,n8,n9⟩:=n_ 2 N xs (by rw[eE];exact z);have zz:(kE8 N xs != 0)=true:=by simp[z]
  clear eE z;generalize kE8 N xs=E1 at *;go_enter func40,ntmps40;go_wp2_with (refine aP (w.heap.size+2) _ _ rfl rfl B6 rfl hIV.out (by simp[Value.oneCell']) ?_);intro w1 B6 O1
  replace B0:=O1.cel B0 (by omega);replace B4:=O1.cel B4 (by omega);replace bw:=bw.trans (O1.below (by omega));clear O1;have r0:=B0.cell 0 rfl;have r1:=B0.cell 1 rfl;go_wp2_with fail;refine(H8.out _ bw).mono ?_
  rintro e w2 ⟨cs,rfl,hP,hN2,hb⟩;have sz:=B6.lt;have sz2:=hb.size;replace B4:=B4.kept hb;replace B6:=B6.kept hb;replace bw:=bg bw hb;clear hb r0 r1 B0
  go_wp2_with (refine j_ (w.heap.size+2) (Value.int .i64 2::[Value.int .i64 0,.slice none 0 0,.slice none 0 0,.slice none 0 0]) [Value.int .i64 0,.int .i64 0,.int .i64 0,.int .i64 0,.slice none 0 0,.int .i64 0,.slice none 0 0,.slice none 0 0,.slice none 0 0] [Value.int .i64 0,.int .i64 0,.int .i64 0,.int .i64 0,.int .i64 0,.slice none 0 0,.int .i64 0,.slice none 0 0] cs rfl rfl B6 hP.arg.nine hP.arg.len hP.arg.one ?_)
  intro w3 B7 O3;replace B4:=O3.cel B4 (by omega);replace bw:=bw.trans (O3.below (by omega));clear B7 O3 B6 hP hN2;go_wp2_with (refine aP (w.heap.size+1) _ _ rfl rfl B4 rfl hIV.out (by simp[Value.oneCell']) ?_)
  intro w9 B9 O9;have HZ:=Hid.mk8 (And.intro B9 (bw.trans (O9.below (by omega))));clear B9 O9;go_wp2
  (try simp only[Exit.inBlock,Exit.then]);refine bodyPost_ret (bJ rfl (w.heap.size+1) _ rfl HZ.out.1 underlying44 hIV.out) rfl ⟨_,rfl,?_,HZ.out.2,eM (bE _) (bE _),eM (bE _) (bE _)⟩;rw[ew]
  exact ki_mk dL (z7arg _) (z8arg _ (GG.kept HZ.out.2)) (z9arg _)
theorem xx(k N:Int)(ao:Option Addr)(xs:List Nat)(cap:Nat)(w:World)(hK:ax k)(hN:ax N)(hx:Wd w ao xs)(hf:Fit xs)(hcap:xs.length<=cap)(hl:N<=3000/\xs.length<=1048576)(GG:GV w):
  Calls prog 40 #[.int .i64 k,.agg #[.int .i64 N,.slice ao xs.length cap]] w fun e w'=>∃cs:List Value,e=.returned (.tuple #[.agg cs.toArray,.int .i64 (kE k N xs)])/\KI w' cs (kB k N xs)/\Below w.heap.size w w'/\jC w.heap.size cs:=by
 by_cases q2:k=2
 .subst q2;exact I7 N ao xs cap w hN hx hf hcap hl GG
 obtain⟨W,hW⟩:∃W,W=((w.alloc (.cells #[.int .i64 N,.slice ao xs.length cap] 33)).alloc (.cells [Value.int .i64 0,.int .i64 0,.slice none 0 0,.slice none 0 0,.slice none 0 0,.int .i64 0,.int .i64 0,.int .i64 0,.int .i64 0,.slice none 0 0,.int .i64 0,.slice none 0 0,.slice none 0 0,.slice none 0 0,.int .i64 0,.int .i64 0,.int .i64 0,.int .i64 0,.int .i64 0,.slice none 0 0,.int .i64 0,.slice none 0 0].toArray 44)).alloc (.cells [Value.int .i64 0,.int .i64 0,.slice none 0 0,.slice none 0 0,.slice none 0 0,.int .i64 0,.int .i64 0,.int .i64 0,.int .i64 0,.slice none 0 0,.int .i64 0,.slice none 0 0,.slice none 0 0,.slice none 0 0,.int .i64 0,.int .i64 0,.int .i64 0,.int .i64 0,.int .i64 0,.slice none 0 0,.int .i64 0,.slice none 0 0].toArray 44):=⟨_,rfl⟩
 have bw:Below w.heap.size w W:=by rw[hW];exact((below_alloc w _).alloc (by simp) _).alloc (by simp;omega) _
 have B0:aa W w.heap.size [.int .i64 N,.slice ao xs.length cap] 33:=by rw[hW];exact((aa.new w _ _).alloc _).alloc _
 have B4:aa W (w.heap.size+1) [Value.int .i64 0,.int .i64 0,.slice none 0 0,.slice none 0 0,.slice none 0 0,.int .i64 0,.int .i64 0,.int .i64 0,.int .i64 0,.slice none 0 0,.int .i64 0,.slice none 0 0,.slice none 0 0,.slice none 0 0,.int .i64 0,.int .i64 0,.int .i64 0,.int .i64 0,.int .i64 0,.slice none 0 0,.int .i64 0,.slice none 0 0] 44:=by rw[hW];exact(aa.new2 w _ _ _).alloc _
 have B6:aa W (w.heap.size+2) [Value.int .i64 0,.int .i64 0,.slice none 0 0,.slice none 0 0,.slice none 0 0,.int .i64 0,.int .i64 0,.int .i64 0,.int .i64 0,.slice none 0 0,.int .i64 0,.slice none 0 0,.slice none 0 0,.slice none 0 0,.int .i64 0,.int .i64 0,.int .i64 0,.int .i64 0,.int .i64 0,.slice none 0 0,.int .i64 0,.slice none 0 0] 44:=by rw[hW];exact(aa.new2 (w.alloc _) _ _ _).at (by simp)
 have hIV:=Hid.mk8 qD
 have H7:Hid (∀w0,Below w.heap.size w w0->Calls prog 91 #[.agg #[.int .i64 N,.slice ao xs.length cap]] w0 fun e w'=>∃cs:List Value,e=.returned (.tuple #[.agg cs.toArray,.int .i64 (kE7 N xs)])/\b9 w' cs (kB7 N xs)/\NF w0.heap.size 2 cs/\Below w0.heap.size w0 w'):=fun w0 h=>Jb N ao xs cap w0 hN (hx.keep h) hf hcap hl.2
 have H9:Hid (∀w0,Below w.heap.size w w0->Calls prog 93 #[.agg #[.int .i64 N,.slice ao xs.length cap]] w0 fun e w'=>∃cs:List Value,e=.returned (.tuple #[.agg cs.toArray,.int .i64 (kE9 N xs)])/\bK w' cs (kB9 N xs)/\Below w0.heap.size w0 w'):=fun w0 h=>I_ N ao xs cap w0 hN (hx.keep h) hf hcap hl
 subst hW;by_cases q1:k=1
 .subst q1;have eE:kE 1 N xs=kE7 N xs:=rfl;rw[eE];by_cases z:kE7 N xs=0
  .have ew:kB 1 N xs=⟨1,kB7 N xs,n8,n9⟩:=vm N xs z;rw[z]at H7⊢;clear eE z;go_enter func40,ntmps40;go_wp2_with (refine aP (w.heap.size+2) _ _ rfl rfl B6 rfl hIV.out (by simp[Value.oneCell']) ?_)
   intro w1 B6 O1;replace B0:=O1.cel B0 (by omega);replace B4:=O1.cel B4 (by omega);replace bw:=bw.trans (O1.below (by omega));clear O1;have r0:=B0.cell 0 rfl;have r1:=B0.cell 1 rfl;go_wp2_with fail
   refine(H7.out _ bw).mono ?_;rintro e w2 ⟨cs,rfl,hP,hN2,hb⟩;have sz:=B6.lt;have sz2:=hb.size;replace B4:=B4.kept hb;replace B6:=B6.kept hb;replace bw:=bg bw hb;clear hb r0 r1 B0
   go_wp2_with (refine j_ (w.heap.size+2) [Value.int .i64 1] [Value.int .i64 0,.slice none 0 0,.slice none 0 0,.slice none 0 0] ([Value.int .i64 0,.int .i64 0,.int .i64 0,.int .i64 0,.slice none 0 0,.int .i64 0,.slice none 0 0,.slice none 0 0,.slice none 0 0]++[Value.int .i64 0,.int .i64 0,.int .i64 0,.int .i64 0,.int .i64 0,.slice none 0 0,.int .i64 0,.slice none 0 0]) cs rfl rfl B6 hP.arg.four.symm hP.arg.len hP.arg.one ?_)
   intro w3 B7 O3;have hQ:=hP.only hN2 (by omega) B6 (nou_mk (z7arg w).arg.nou (z8a w).nou (z9arg w).arg.nou) O3;replace B4:=O3.cel B4 (by omega);replace bw:=bw.trans (O3.below (by omega))
   have B8:aa w3 (w.heap.size+2) (Value.int .i64 1::(cs++([Value.int .i64 0,.int .i64 0,.int .i64 0,.int .i64 0,.slice none 0 0,.int .i64 0,.slice none 0 0,.slice none 0 0,.slice none 0 0]++[Value.int .i64 0,.int .i64 0,.int .i64 0,.int .i64 0,.int .i64 0,.slice none 0 0,.int .i64 0,.slice none 0 0]))) 44:=B7
   have HL:=Hid.mk8 (kI hK hQ.arg (z8a w3) (z9arg w3).arg).len;have H1:=Hid.mk8 (kI hK hQ.arg (z8a w3) (z9arg w3).arg).one;have H9:=Hid.mk8 (kI hK hQ.arg (z8a w3) (z9arg w3).arg).nine
   have HNF:Hid (jC w.heap.size (Value.int .i64 1::(cs++([Value.int .i64 0,.int .i64 0,.int .i64 0,.int .i64 0,.slice none 0 0,.int .i64 0,.slice none 0 0,.slice none 0 0,.slice none 0 0]++[Value.int .i64 0,.int .i64 0,.int .i64 0,.int .i64 0,.int .i64 0,.slice none 0 0,.int .i64 0,.slice none 0 0])))):=⟨(hN2.mono (by omega)).mid (pre:=[Value.int .i64 1]) (by have:=hQ.arg.four;omega) rfl,(show NF w.heap.size 7 [Value.int .i64 0,.int .i64 0,.int .i64 0,.int .i64 0,.slice none 0 0,.int .i64 0,.slice none 0 0,.slice none 0 0,.slice none 0 0]from eM (bE _) (bE _)).mid (pre:=Value.int .i64 1::cs) (by decide) (by have:=hQ.arg.four;simp;omega)⟩
   have HQ:=Hid.mk8 (And.intro hQ hN2);clear B7 O3 B6 hP hN2 hQ
   go_wp2_with (first | refine cF (w.heap.size+2) _ (by rfl) rfl B8 underlying44 HL.out ?_ | refine aP (w.heap.size+1) _ _ rfl rfl B4 H9.out HL.out H1.out ?_);intro w9 B9 O9
   have HZ:=Hid.mk8 (And.intro B9 (And.intro (ki_mk hK (HQ.out.1.only HQ.out.2 (by omega) B4 (nou_mk (z7arg w).arg.nou (z8a w).nou (z9arg w).arg.nou) O9) (z8arg w9 (GG.kept (bw.trans (O9.below (by omega))))) (z9arg w9)) (bw.trans (O9.below (by omega)))))
   clear B9 O9 B8 B4 HQ;go_wp2
   (try simp only[Exit.inBlock,Exit.then]);refine bodyPost_ret (bJ rfl (w.heap.size+1) _ rfl HZ.out.1 underlying44 HL.out) rfl ⟨_,rfl,?_,HZ.out.2.2,HNF.out⟩;rw[ew];exact HZ.out.2.1
  .have ew:kB 1 N xs=⟨0,n7,n8,n9⟩:=n_ 1 N xs (by rw[eE];exact z);have zz:(kE7 N xs != 0)=true:=by simp[z]
   clear eE z;generalize kE7 N xs=E1 at *;go_enter func40,ntmps40;go_wp2_with (refine aP (w.heap.size+2) _ _ rfl rfl B6 rfl hIV.out (by simp[Value.oneCell']) ?_);intro w1 B6 O1
   replace B0:=O1.cel B0 (by omega);replace B4:=O1.cel B4 (by omega);replace bw:=bw.trans (O1.below (by omega));clear O1;have r0:=B0.cell 0 rfl;have r1:=B0.cell 1 rfl;go_wp2_with fail;refine(H7.out _ bw).mono ?_
   rintro e w2 ⟨cs,rfl,hP,hN2,hb⟩;have sz:=B6.lt;have sz2:=hb.size;replace B4:=B4.kept hb;replace B6:=B6.kept hb;replace bw:=bg bw hb;clear hb r0 r1 B0
   go_wp2_with (refine j_ (w.heap.size+2) [Value.int .i64 1] [Value.int .i64 0,.slice none 0 0,.slice none 0 0,.slice none 0 0] ([Value.int .i64 0,.int .i64 0,.int .i64 0,.int .i64 0,.slice none 0 0,.int .i64 0,.slice none 0 0,.slice none 0 0,.slice none 0 0]++[Value.int .i64 0,.int .i64 0,.int .i64 0,.int .i64 0,.int .i64 0,.slice none 0 0,.int .i64 0,.slice none 0 0]) cs rfl rfl B6 hP.arg.four.symm hP.arg.len hP.arg.one ?_)
   intro w3 B7 O3;replace B4:=O3.cel B4 (by omega);replace bw:=bw.trans (O3.below (by omega));clear B7 O3 B6 hP hN2;go_wp2_with (refine aP (w.heap.size+1) _ _ rfl rfl B4 rfl hIV.out (by simp[Value.oneCell']) ?_)
   intro w9 B9 O9;have HZ:=Hid.mk8 (And.intro B9 (bw.trans (O9.below (by omega))));clear B9 O9;go_wp2
   (try simp only[Exit.inBlock,Exit.then]);refine bodyPost_ret (bJ rfl (w.heap.size+1) _ rfl HZ.out.1 underlying44 hIV.out) rfl ⟨_,rfl,?_,HZ.out.2,eM (bE _) (bE _),eM (bE _) (bE _)⟩;rw[ew]
   exact ki_mk dL (z7arg _) (z8arg _ (GG.kept HZ.out.2)) (z9arg _)
 by_cases q3:k=3
 .subst q3;have eE:kE 3 N xs=kE9 N xs:=rfl;rw[eE];by_cases z:kE9 N xs=0
  .have ew:kB 3 N xs=⟨3,n7,n8,kB9 N xs⟩:=vp N xs z;rw[z]at H9⊢;clear eE z;go_enter func40,ntmps40;go_wp2_with (refine aP (w.heap.size+2) _ _ rfl rfl B6 rfl hIV.out (by simp[Value.oneCell']) ?_)
   intro w1 B6 O1;replace B0:=O1.cel B0 (by omega);replace B4:=O1.cel B4 (by omega);replace bw:=bw.trans (O1.below (by omega));clear O1;have r0:=B0.cell 0 rfl;have r1:=B0.cell 1 rfl;go_wp2_with fail
   refine(H9.out _ bw).mono ?_;rintro e w2 ⟨cs,rfl,hP,hb⟩;have sz:=B6.lt;have sz2:=hb.size;replace B4:=B4.kept hb;replace B6:=B6.kept hb;replace bw:=bg bw hb;clear hb r0 r1 B0
   go_wp2_with (refine j_ (w.heap.size+2) (Value.int .i64 3::([Value.int .i64 0,.slice none 0 0,.slice none 0 0,.slice none 0 0]++[Value.int .i64 0,.int .i64 0,.int .i64 0,.int .i64 0,.slice none 0 0,.int .i64 0,.slice none 0 0,.slice none 0 0,.slice none 0 0])) [Value.int .i64 0,.int .i64 0,.int .i64 0,.int .i64 0,.int .i64 0,.slice none 0 0,.int .i64 0,.slice none 0 0] [] cs rfl rfl B6 hP.arg.nine hP.arg.len hP.arg.one ?_)
   intro w3 B7 O3;have hQ:=hP.only B6 (nou_mk (z7arg w).arg.nou (z8a w).nou (z9arg w).arg.nou) O3;replace B4:=O3.cel B4 (by omega);replace bw:=bw.trans (O3.below (by omega))
   have B8:aa w3 (w.heap.size+2) (Value.int .i64 3::([Value.int .i64 0,.slice none 0 0,.slice none 0 0,.slice none 0 0]++([Value.int .i64 0,.int .i64 0,.int .i64 0,.int .i64 0,.slice none 0 0,.int .i64 0,.slice none 0 0,.slice none 0 0,.slice none 0 0]++cs))) 44:=by simpa using B7
   have HL:=Hid.mk8 (kI hK (z7arg w3).arg (z8a w3) hQ.arg).len;have H1:=Hid.mk8 (kI hK (z7arg w3).arg (z8a w3) hQ.arg).one;have H9:=Hid.mk8 (kI hK (z7arg w3).arg (z8a w3) hQ.arg).nine
   have HNF:Hid (jC w.heap.size (Value.int .i64 3::([Value.int .i64 0,.slice none 0 0,.slice none 0 0,.slice none 0 0]++([Value.int .i64 0,.int .i64 0,.int .i64 0,.int .i64 0,.slice none 0 0,.int .i64 0,.slice none 0 0,.slice none 0 0,.slice none 0 0]++cs)))):=⟨eM (bE _) (bE _),eM (bE _) (bE _)⟩
   have HQ:=Hid.mk8 (And.intro hQ trivial);clear B7 O3 B6 hP hQ
   go_wp2_with (first | refine cF (w.heap.size+2) _ (by rfl) rfl B8 underlying44 HL.out ?_ | refine aP (w.heap.size+1) _ _ rfl rfl B4 H9.out HL.out H1.out ?_);intro w9 B9 O9
   have HZ:=Hid.mk8 (And.intro B9 (And.intro (ki_mk hK (z7arg w9) (z8arg w9 (GG.kept (bw.trans (O9.below (by omega))))) (HQ.out.1.only B4 (nou_mk (z7arg w).arg.nou (z8a w).nou (z9arg w).arg.nou) O9)) (bw.trans (O9.below (by omega)))))
   clear B9 O9 B8 B4 HQ;go_wp2
   (try simp only[Exit.inBlock,Exit.then]);refine bodyPost_ret (bJ rfl (w.heap.size+1) _ rfl HZ.out.1 underlying44 HL.out) rfl ⟨_,rfl,?_,HZ.out.2.2,HNF.out⟩;rw[ew];exact HZ.out.2.1
  .have ew:kB 3 N xs=⟨0,n7,n8,n9⟩:=n_ 3 N xs (by rw[eE];exact z);have zz:(kE9 N xs != 0)=true:=by simp[z]
   clear eE z;generalize kE9 N xs=E1 at *;go_enter func40,ntmps40;go_wp2_with (refine aP (w.heap.size+2) _ _ rfl rfl B6 rfl hIV.out (by simp[Value.oneCell']) ?_);intro w1 B6 O1
   replace B0:=O1.cel B0 (by omega);replace B4:=O1.cel B4 (by omega);replace bw:=bw.trans (O1.below (by omega));clear O1;have r0:=B0.cell 0 rfl;have r1:=B0.cell 1 rfl;go_wp2_with fail;refine(H9.out _ bw).mono ?_
   rintro e w2 ⟨cs,rfl,hP,hb⟩;have sz:=B6.lt;have sz2:=hb.size;replace B4:=B4.kept hb;replace B6:=B6.kept hb;replace bw:=bg bw hb;clear hb r0 r1 B0
   go_wp2_with (refine j_ (w.heap.size+2) (Value.int .i64 3::([Value.int .i64 0,.slice none 0 0,.slice none 0 0,.slice none 0 0]++[Value.int .i64 0,.int .i64 0,.int .i64 0,.int .i64 0,.slice none 0 0,.int .i64 0,.slice none 0 0,.slice none 0 0,.slice none 0 0])) [Value.int .i64 0,.int .i64 0,.int .i64 0,.int .i64 0,.int .i64 0,.slice none 0 0,.int .i64 0,.slice none 0 0] [] cs rfl rfl B6 hP.arg.nine hP.arg.len hP.arg.one ?_)
   intro w3 B7 O3;replace B4:=O3.cel B4 (by omega);replace bw:=bw.trans (O3.below (by omega));clear B7 O3 B6 hP;go_wp2_with (refine aP (w.heap.size+1) _ _ rfl rfl B4 rfl hIV.out (by simp[Value.oneCell']) ?_)
   intro w9 B9 O9;have HZ:=Hid.mk8 (And.intro B9 (bw.trans (O9.below (by omega))));clear B9 O9;go_wp2
   (try simp only[Exit.inBlock,Exit.then]);refine bodyPost_ret (bJ rfl (w.heap.size+1) _ rfl HZ.out.1 underlying44 hIV.out) rfl ⟨_,rfl,?_,HZ.out.2,eM (bE _) (bE _),eM (bE _) (bE _)⟩;rw[ew]
   exact ki_mk dL (z7arg _) (z8arg _ (GG.kept HZ.out.2)) (z9arg _)
 have eE:kE k N xs=5:=by unfold kE;rw[if_neg q1,if_neg q2,if_neg q3]
 have ew:kB k N xs=⟨0,n7,n8,n9⟩:=n_ k N xs (by rw[eE];decide);rw[eE];have d1:(k==1)=false:=by simp[q1]
 have d2:(k==2)=false:=by simp[q2]
 have d3:(k==3)=false:=by simp[q3]
 clear eE;go_enter func40,ntmps40;go_wp2_with (refine aP (w.heap.size+2) _ _ rfl rfl B6 rfl hIV.out (by simp[Value.oneCell']) ?_);intro w1 B6 O1;replace B0:=O1.cel B0 (by omega)
 replace B4:=O1.cel B4 (by omega);replace bw:=bw.trans (O1.below (by omega));clear O1;have r0:=B0.cell 0 rfl;have r1:=B0.cell 1 rfl
 go_wp2_with (refine aP (w.heap.size+1) _ _ rfl rfl B4 rfl hIV.out (by simp[Value.oneCell']) ?_);intro w9 B9 O9;have HZ:=Hid.mk8 (And.intro B9 (bw.trans (O9.below (by omega))));clear B9 O9;go_wp2
 (try simp only[Exit.inBlock,Exit.then]);refine bodyPost_ret (bJ rfl (w.heap.size+1) _ rfl HZ.out.1 underlying44 hIV.out) rfl ⟨_,rfl,?_,HZ.out.2,eM (bE _) (bE _),eM (bE _) (bE _)⟩;rw[ew]
 exact ki_mk dL (z7arg _) (z8arg _ (GG.kept HZ.out.2)) (z9arg _)
def cy:RA:=⟨0,n7,n8,n9⟩
def Lv(w:World)(lo:Option Addr)(av:List RA):Prop:=
 0<av.length->∃b off,lo=some ⟨b,off,none⟩/\b<w.heap.size/\∀l,l<av.length->∃cs,w.rangeAt b (off+l*22) cs/\KI w cs (av.getD l cy)
theorem range_keep{w w':World}{b o base:Nat}{cs:List Value}(h:w.rangeAt b o cs)(hb:Below base w w')(hl:b<base):w'.rangeAt b o cs:=fun j v hv=>(hb.cell (p:=⟨b,o+j,none⟩) hl).trans (h j v hv)
theorem Lv.keep{w w':World}{lo:Option Addr}{av:List RA}(h:Lv w lo av)(hb:Below w.heap.size w w'):Lv w' lo av:=by
 intro h0;obtain⟨b,off,e,hlt,hc⟩:=h h0;refine⟨b,off,e,Nat.lt_of_lt_of_le hlt hb.size,fun l hl=>?_⟩;obtain⟨cs,h1,h2⟩:=hc l hl;exact⟨cs,range_keep h1 hb hlt,h2.keep hb⟩
theorem eU.head{w:World}{cs:List Value}{a:RA}(h:eU w cs a):cs[0]?=some (.int .i64 a.K):=by
 obtain⟨cp,cr,cf,rfl,_⟩:=h;rfl
def zv:List Value:=[.int .i64 0,.int .i64 0,.slice none 0 0,.slice none 0 0,.slice none 0 0,.int .i64 0,.int .i64 0,.int .i64 0,.int .i64 0,.slice none 0 0,.int .i64 0,.slice none 0 0,.slice none 0 0,.slice none 0 0,.int .i64 0,.int .i64 0,.int .i64 0,.int .i64 0,.int .i64 0,.slice none 0 0,.int .i64 0,.slice none 0 0]
theorem mB:(prog.info? 44).map (fun i=>(i.zero,i.size))=some (some (.agg zv.toArray),zv.length):=by kernel_rfl
theorem uZ:zv.length=22:=rfl
theorem D4(a:RA)(ok:aJ a=true):a.p.N+a.r.N+a.f.N=kBN a/\0<=a.p.N/\0<=a.r.N/\0<=a.f.N:=by
 have nn:=(bp _ _ (kK a ok)).1
 have kz:da a=true:=by
  cases h:da a with
  | true=>rfl
  | false=>
   have e:kOn a=0:=by unfold kOn;rw[h];rfl
   rw[(jg (by omega) (by omega) (by omega)).1]at ok;cases ok
 have ek:kOn a=a.K:=by unfold kOn;rw[if_pos kz]
 have z7n:z7 a.p=true->a.p.N=0:=fun h=>by unfold z7 dK at h;simp at h;exact h.1.1
 have z8n:z8 a.r=true->a.r.N=0:=fun h=>by unfold z8 at h;simp at h;exact h.1
 have z9n:z9 a.f=true->a.f.N=0:=fun h=>by unfold z9 at h;simp at h;exact h.1
 unfold da at kz;simp only[Bool.and_eq_true,Bool.or_eq_true,decide_eq_true_eq]at kz;obtain⟨k1,k2,k3⟩:=kz;by_cases h1:kOn a=1
 .obtain⟨e1,e2,_,_⟩:=jf h1;have q2:=z8n (k2.resolve_left (by omega));have q3:=z9n (k3.resolve_left (by omega))
  have:kBN7 a.p=a.p.N:=by unfold kBN7 dn;rw[if_pos (show pchk a.p.N a.p.xs a.p.S a.p.T=true from e1.symm.trans ok)]
  omega
 by_cases h2:kOn a=2
 .obtain⟨e1,e2,_,_⟩:=gX h2;have q2:=z7n (k1.resolve_left (by omega));have q3:=z9n (k3.resolve_left (by omega))
  have:kBN8 a.r=a.r.N:=by
   have hr:eb a.r.N a.r.k a.r.V a.r.M a.r.xs a.r.L a.r.ys a.r.S a.r.T=true:=e1.symm.trans ok;obtain⟨_,_,_,g4⟩:=nh _ _ _ _ _ _ _ _ _ hr;obtain⟨g1,_⟩:=tL _ _ _ _ _ _ _ _ _ _ _ g4;unfold kBN8 jJ
   rw[if_pos hr];exact g1.symm
  omega
 by_cases h3:kOn a=3
 .obtain⟨e1,e2,_,_⟩:=jh h3;have q2:=z7n (k1.resolve_left (by omega));have q3:=z8n (k2.resolve_left (by omega))
  have:kBN9 a.f=a.f.N:=by
   unfold kBN9;rw[if_pos (e1.symm.trans ok)]
  omega
 rw[(jg h1 h2 h3).1]at ok;cases ok
theorem zy(cs:List Value)(a:RA)(w:World)(h:KI w cs a)(ok:aJ a=true):
  Qq 99 #[.agg cs.toArray] w (.int .i64 (kBN a)):=by
 obtain⟨e,p0,p1,p2⟩:=D4 a ok;obtain⟨n0,n1,_⟩:=bp _ _ (kK a ok);obtain⟨cp,cr,cf,rfl,_,h1,h2,h3⟩:=h.arg;obtain⟨ao,cap,so,sc,tO,tc,rfl,g1⟩:=h1
 obtain⟨bo,dap,qo,eap,uo,uc,vO,vc,rfl,g2⟩:=h2;obtain⟨fo,fap,ho,hap,rfl,g3⟩:=h3
 have bw:=below_alloc w (.cells (Value.int .i64 a.K::([.int .i64 a.p.N,.slice ao a.p.xs.length cap,.slice so a.p.S.length sc,.slice tO a.p.T.length tc]++([.int .i64 a.r.N,.int .i64 a.r.k,.int .i64 a.r.V,.int .i64 a.r.M,.slice bo a.r.xs.length dap,.int .i64 a.r.L,.slice qo a.r.ys.length eap,.slice uo a.r.S.length uc,.slice vO a.r.T.length vc]++[.int .i64 a.f.N,.int .i64 a.f.M,.int .i64 a.f.k,.int .i64 a.f.V,.int .i64 a.f.LM,.slice fo a.f.xs.length fap,.int .i64 a.f.H,.slice ho a.f.ys.length hap]))).toArray 44)
 clear g1 g2 g3 h;generalize a.p.N=A at *;generalize a.r.N=B at *;generalize a.f.N=C at *;generalize kBN a=M at *;have hAB:IntKind.i64.wrap (A+B)=A+B:=by rw[IntKind.wrap_i64];omega
 have hABC:IntKind.i64.wrap (A+B+C)=M:=by rw[IntKind.wrap_i64];omega
 have HE:=ac e;clear e;go_enter func99,ntmps99;go_wp2;go_ret;exact⟨rfl,bw⟩
theorem EJ(k:Int):kE k 0 []=if 1<=k/\k<=3 then 0 else 5:=by
 by_cases h:1<=k/\k<=3
 .rw[if_pos h];exact nY k 0 [] h.1 h.2 (by decide)
 .rw[if_neg h];unfold kE;rw[if_neg (by omega),if_neg (by omega),if_neg (by omega)]
theorem ta(k:Int)(hK:ax k)(w:World)(G:GV w):
  Qq 33 #[.int .i64 k] w (.bool (decide (1<=k/\k<=3))):=by
 have C:=ac (xx k 0 none [] 0 w hK (by unfold ax;decide) (dW _ _) (fun i=>by unfold gt;simp) (Nat.le_refl _) ⟨by decide,by decide⟩ G);rw[EJ]at C
 obtain⟨r,hr⟩:∃r,Hid (r=decide (1<=k/\k<=3)):=⟨_,rfl⟩;rw[<-hr.out];obtain⟨e5,he5⟩:∃e5:Int,Hid (e5=if 1<=k/\k<=3 then 0 else 5):=⟨_,rfl⟩;rw[<-he5.out]at C
 have H5:Hid ((e5==0)=r):=by
  show(e5==0)=r;rw[hr.out,he5.out];by_cases h:1<=k/\k<=3
  .rw[if_pos h,decide_eq_true h];rfl
  .rw[if_neg h,decide_eq_false h];rfl
 go_enter func33,ntmps33;go_wp2_with fail;refine C.out.mono ?_;rintro e w1 ⟨cs,rfl,hki,hb,_⟩;have HB:=ac hb;have hl:=ac hki.arg.len;have h1:=ac hki.arg.one;have h9:=ac hki.arg.nine;clear hki hb C
 go_wp2_with (refine lj mB ?_);intro w2 B2 hb2 hs2;simp only[Act.put,ae,List.set];go_wp2_with (refine aP w1.heap.size _ _ rfl rfl B2 (by rw[<-h9.out];rfl) hl.out h1.out ?_);intro w3 B3 hO
 have hHB:=ac ((bg HB.out hb2).trans (hO.below HB.out.size));have h5:=H5.out;clear B2 B3 hO hb2;go_wp2;go_ret;exact⟨rfl,hHB.out⟩
def mR:Value:=.agg #[.pointer none,.int .i64 0,.int .i64 0]
theorem lG(w:World):(zeroValue 99).run prog w=.ok mR w:=by kernel_rfl
theorem vK:(prog.info? 99).map (·.size)=some 3:=by kernel_rfl
theorem kf{ops:Array Oper}{d:Option Tmp}{ty T:TypeId}{ps:String}{af:Array Edge}{a:Act}{w:World}{K:Act->World->Prop}{Q:Exit->Act->World->Prop}{E:Prop}{x y:Operand}
  (g:Nat) (old cs:List Value) (hx:a.eval x=.pointer (some ⟨g,0,none⟩)) (hy:a.eval y=.agg cs.toArray) (hc:aa w g old T) (lo:old.length=cs.length) (hi:(prog.info? T).map (·.size)=some cs.length) (h1:cs.toArray.all (·.oneCell')=true)
  (h:∀w1,aa w1 g cs T->aw g w w1->K (a.put d undef) w1):
  if Region.wanted (⟨d,.store T x y,ty,ps,af,none⟩:Oper) (yielded ops a.tmps)=true then Oper.wp prog (⟨d,.store T x y,ty,ps,af,none⟩:Oper) a w K Q else E:=by
 rw[if_pos (by simp[Region.wanted])];exact wp_store_row _ x y rfl g cs.toArray hx hy _ _ hc (by simpa using hi) (by simpa using lo) h1 (h _ (setRow_heap w g _ _ _ _ hc) (aw.row g w _))
theorem yQ(n:Int)(cs bs m:Value)(x:Nat)(hcs:cs.oneCell'=true)(hbs:bs.oneCell'=true)(hm:m.oneCell'=true)(w:World):
  Qq 98 #[.agg #[.int .i64 n,cs,bs,m],cv 0 x] w (.int .i64 n):=by
 unfold cv;go_enter func98,ntmps98;go_wp2;go_ret;exact⟨rfl,(below_alloc w _).alloc (by simp) _⟩
theorem sU(n:Int)(cs bs p:Value)(off on:Int)(gn c L x:Nat)(M:Nat->Nat->Option Value)(w:World)(hcs:cs.oneCell'=true)(hbs:bs.oneCell'=true)(h:CM w gn c M)(hL:0<L)(hL2:L<=64)(hx:x<18446744073709551616)(hM:(M (L-1) (x/2)).getD mR=.agg #[p,.int .i64 off,.int .i64 on])(hp:p.oneCell'=true):
  Qq 98 #[.agg #[.int .i64 n,cs,bs,.map (some gn)],cv L x] w (.int .i64 (if x%2=1 then on else off)):=by
 obtain⟨V,hV⟩:∃V,V=(w.alloc (.cells #[.int .i64 n,cs,bs,.map (some gn)] 94)).alloc (.cells #[.int .i64 (L:Nat),.int .u64 (x:Nat)] 83):=⟨_,rfl⟩
 have bV:Below w.heap.size w V:=by rw[hV];exact(below_alloc w _).alloc (by simp) _
 have B1:aa V w.heap.size [.int .i64 n,cs,bs,.map (some gn)] 94:=by rw[hV];exact(aa.new w _ _).alloc _
 have B2:aa V (w.heap.size+1) [.int .i64 (L:Nat),.int .u64 (x:Nat)] 83:=by rw[hV];exact aa.new2 w _ _ _
 have zV:V.heap.size=w.heap.size+2:=by rw[hV];simp
 have HB:=ac bV;have HMv:=ac (h.kept bV);have x2:x/2<18446744073709551616:=by omega
 have eL:(L:Int)-1=((L-1:Nat):Int):=by omega
 have L0:((L:Int)==0)=false:=by simp;omega
 have EW:IntKind.i64.wrap ((L:Int)-1)=(L:Int)-1:=by rw[IntKind.wrap_i64];omega
 have CB:Hid (∀w0,Qq 84 #[.agg #[.int .i64 (L:Nat),.int .u64 (x:Nat)],.int .i64 ((L:Int)-1)] w0 (.agg #[.int .i64 ((L-1:Nat):Int),.int .u64 ((x/2:Nat):Int)])):=fun w0=>by
  have:=m9 L x (L-1) hL2 (by omega) hx w0;rw[show L-(L-1)=1 by omega,Nat.pow_one,<-eL]at this;rw[<-eL];unfold cv at this;rw[<-eL]at this;exact this
 have CT:Hid (∀w0,Qq 49 #[.agg #[.int .i64 (L:Nat),.int .u64 (x:Nat)],.int .i64 ((L:Int)-1)] w0 (.bool (decide (x%2=1)))):=fun w0=>by
  have:=m8 L x (L-1) hL2 (by omega) hx w0;rw[show L-(L-1+1)=0 by omega,Nat.pow_zero,Nat.div_one,<-eL]at this;exact this
 have HL:Hid (∀w0,CM w0 gn c M->(Instr.lookup 92 (.map (some gn)) (.agg #[.int .i64 ((L-1:Nat):Int),.int .u64 ((x/2:Nat):Int)]) false).run prog w0=.ok (.agg #[p,.int .i64 off,.int .i64 on]) w0):=fun w0 h0=>by
  have:=h0.look underlying92 (lG w0) (L:=L-1) (x:=x/2) (by omega) x2;rw[hM]at this;exact this
 obtain⟨bt,hbt⟩:∃bt,Hid (bt=decide (x%2=1)):=⟨_,rfl⟩;rw[<-hbt.out]at CT;obtain⟨res,hres⟩:∃res,Hid (res=if x%2=1 then on else off):=⟨_,rfl⟩;rw[<-hres.out]
 obtain⟨y,hy⟩:∃y,Hid (y=x/2):=⟨_,rfl⟩;obtain⟨l,hl⟩:∃l,Hid (l=L-1):=⟨_,rfl⟩;rw[<-hy.out,<-hl.out]at CB HL;clear hM h bV eL;unfold cv;go_enter func98,ntmps98;have q0:=B2.cell 0 rfl
 have q1:=B2.cell 1 rfl;go_wp2_with fail;rw[<-hV];clear hV q0 q1
 refine aB [7] (fun w'=>aa w' w.heap.size [.int .i64 n,cs,bs,.map (some gn)] 94/\aa w' (w.heap.size+1) [.int .i64 (L:Nat),.int .u64 (x:Nat)] 83/\CM w' gn c M) (by kernel_rfl) ?_
 have hS:aa V.drew w.heap.size [.int .i64 n,cs,bs,.map (some gn)] 94/\aa V.drew (w.heap.size+1) [.int .i64 (L:Nat),.int .u64 (x:Nat)] 83/\CM V.drew gn c M:=⟨B1,B2,HMv.out.kept ((Below.refl _ _).drew)⟩
 have HB0:Hid (Below w.heap.size w V.drew):=HB.out.drew;have zY:w.heap.size+2<=V.drew.heap.size:=by show w.heap.size+2<=V.heap.size;omega
 generalize V.drew=Y at *;clear B1 B2 HMv HB zV;refine aF 0 hS rfl (fun w0 h0=>by have c3:=h0.1.cell 3 rfl;have d0:=h0.2.1.cell 0 rfl;have d1:=h0.2.1.cell 1 rfl;go_simp;try with_reducible rfl) ?_
 refine aF 1 hS rfl (fun w0 h0=>by have c3:=h0.1.cell 3 rfl;have d0:=h0.2.1.cell 0 rfl;have d1:=h0.2.1.cell 1 rfl;go_simp;try with_reducible rfl) ?_
 refine aF 2 hS rfl (fun w0 h0=>by have c3:=h0.1.cell 3 rfl;have d0:=h0.2.1.cell 0 rfl;have d1:=h0.2.1.cell 1 rfl;go_simp;try with_reducible rfl) ?_
 refine aF 3 hS rfl (fun w0 h0=>by have c3:=h0.1.cell 3 rfl;have d0:=h0.2.1.cell 0 rfl;have d1:=h0.2.1.cell 1 rfl;go_simp;try with_reducible rfl) ?_;refine aq.two 4 6 (by kernel_rfl) rfl rfl ?_ ?_
 .intro K hK;have HBX:=HB0;go_simp;refine mr (CB.out _) fun w4 hb=>?_;replace hS:=And.intro (hS.1.kept hb) (And.intro (hS.2.1.kept hb) (hS.2.2.kept hb));have HB4:=ac (bg HBX.out hb)
  have z4:=hb.size;clear hb HB0 HBX;refine hK.out _ _ (fun _=>hS) ?_;clear hK K;try simp only[Act.put,ak,aj,ai,ae,ah,ag]
  refine aF 5 hS rfl (fun w0 h0=>by have c3:=h0.1.cell 3 rfl;have d0:=h0.2.1.cell 0 rfl;have d1:=h0.2.1.cell 1 rfl;have hlk:=HL.out w0 h0.2.2;go_simp;try with_reducible rfl) ?_;refine aO 6 ?_;intro K hK
  go_simp;have hA:=below_alloc w4 (.cells #[.pointer none,.int .i64 0,.int .i64 0] 99);have B6:=aa.new w4 [.pointer none,.int .i64 0,.int .i64 0] 99
  replace hS:=And.intro (hS.1.kept hA) (And.intro (hS.2.1.kept hA) (hS.2.2.kept hA));have HB6:=ac (bg HB4.out hA);obtain⟨gx,hgx⟩:∃gx,Hid (gx=w4.heap.size):=⟨_,rfl⟩;rw[<-hgx.out]at B6⊢
  have gxl:w.heap.size+2<=gx:=by have:=hgx.out;omega
  generalize w4.alloc (.cells #[.pointer none,.int .i64 0,.int .i64 0] 99)=w6 at *;clear hA HB4;refine hK.out _ _ (fun _=>hS) ?_;clear hK K;try simp only[Act.put,ak,aj,ai,ae,ah,ag]
  refine aO 7 ?_;intro K hK;refine kf gx _ [p,.int .i64 off,.int .i64 on] rfl rfl B6 rfl vK (by rw[List.all_toArray];simp only[List.all_cons,hp,Bool.true_and];rfl) ?_;intro w7 B7 hO7
  have HB7:=ac (HB6.out.trans (hO7.below (by omega)));have B27:=ac (hO7.cel hS.2.1 (by omega));refine hK.out _ _ (fun h=>absurd (by decide) h) ?_;clear hK K;try simp only[Act.put,ak,aj,ai,ae,ah,ag]
  refine aq.done (by kernel_rfl) ?_ _;clear hS B6 hO7;have q0:=B27.out.cell 0 rfl;have q1:=B27.out.cell 1 rfl;go_wp2_with fail;refine mr (CT.out _) fun w8 hb=>?_
  have HB8:=ac (bg HB7.out hb);have B78:=B7.kept hb;have n1:=B78.cell 1 rfl;have n2:=B78.cell 2 rfl;clear hb q0 q1 B7 B27 HB7;cases bt with
  | true=>
   obtain rfl:res=on:=by rw[hres.out,if_pos (of_decide_eq_true hbt.out.symm)]
   go_wp2;go_ret;exact⟨rfl,HB8.out⟩
  | false=>
   obtain rfl:res=off:=by rw[hres.out,if_neg (of_decide_eq_false hbt.out.symm)]
   go_wp2;go_ret;exact⟨rfl,HB8.out⟩
 .intro K hK;go_simp;have hA:=below_alloc Y (.cells #[.pointer none,.int .i64 0,.int .i64 0] 99);have B6:=aa.new Y [.pointer none,.int .i64 0,.int .i64 0] 99
  replace hS:=And.intro (hS.1.kept hA) (And.intro (hS.2.1.kept hA) (hS.2.2.kept hA));have HBX:=ac (bg HB0.out hA);obtain⟨gx,hgx⟩:∃gx,Hid (gx=Y.heap.size):=⟨_,rfl⟩;rw[<-hgx.out]at B6⊢
  have gxl:w.heap.size+2<=gx:=by have:=hgx.out;omega
  generalize Y.alloc (.cells #[.pointer none,.int .i64 0,.int .i64 0] 99)=w6 at *;clear hA HB0;refine hK.out _ _ (fun _=>hS) ?_;clear hK K;try simp only[Act.put,ak,aj,ai,ae,ah,ag]
  refine aO 4 ?_;intro K hK;go_simp;refine mr (CB.out _) fun w4 hb=>?_;replace hS:=And.intro (hS.1.kept hb) (And.intro (hS.2.1.kept hb) (hS.2.2.kept hb));have HB4:=ac (bg HBX.out hb)
  have z4:=hb.size;replace B6:=B6.kept hb;clear hb HBX;refine hK.out _ _ (fun _=>hS) ?_;clear hK K;try simp only[Act.put,ak,aj,ai,ae,ah,ag]
  refine aF 5 hS rfl (fun w0 h0=>by have c3:=h0.1.cell 3 rfl;have d0:=h0.2.1.cell 0 rfl;have d1:=h0.2.1.cell 1 rfl;have hlk:=HL.out w0 h0.2.2;go_simp;try with_reducible rfl) ?_;refine aO 7 ?_;intro K hK
  refine kf gx _ [p,.int .i64 off,.int .i64 on] rfl rfl B6 rfl vK (by rw[List.all_toArray];simp only[List.all_cons,hp,Bool.true_and];rfl) ?_;intro w7 B7 hO7
  have HB7:=ac (HB4.out.trans (hO7.below (by omega)));have B27:=ac (hO7.cel hS.2.1 (by omega));refine hK.out _ _ (fun h=>absurd (by decide) h) ?_;clear hK K;try simp only[Act.put,ak,aj,ai,ae,ah,ag]
  refine aq.done (by kernel_rfl) ?_ _;clear hS B6 hO7;have q0:=B27.out.cell 0 rfl;have q1:=B27.out.cell 1 rfl;go_wp2_with fail;refine mr (CT.out _) fun w8 hb=>?_
  have HB8:=ac (bg HB7.out hb);have B78:=B7.kept hb;have n1:=B78.cell 1 rfl;have n2:=B78.cell 2 rfl;clear hb q0 q1 B7 B27 HB7;cases bt with
  | true=>
   obtain rfl:res=on:=by rw[hres.out,if_pos (of_decide_eq_true hbt.out.symm)]
   go_wp2;go_ret;exact⟨rfl,HB8.out⟩
  | false=>
   obtain rfl:res=off:=by rw[hres.out,if_neg (of_decide_eq_false hbt.out.symm)]
   go_wp2;go_ret;exact⟨rfl,HB8.out⟩
def c_(v sz:Nat->Nat)(q:Nat):List Nat:=(List.range 256).map fun c=>if c<q/\0<v c then sz c else 0
def lsum(v sz:Nat->Nat):Nat->Nat
 | 0=>0
 | q+1=>lsum v sz q+(if 0<v q then sz q else 0)
theorem h_(v sz:Nat->Nat)(q:Nat):(c_ v sz q).length=256:=by simp[c_]
theorem qG(v sz:Nat->Nat)(q c:Nat)(h:c<256):gt (c_ v sz q) c=if c<q/\0<v c then sz c else 0:=by
 unfold c_ gt;rw[List.getD_eq_getElem?_getD,List.getElem?_map,List.getElem?_range h];rfl
theorem El(v sz:Nat->Nat):c_ v sz 0=List.replicate 256 0:=by
 unfold c_;rw[show(fun c=>if c<0/\0<v c then sz c else 0)=fun _=>0 by funext c;rw[if_neg (by omega)],List.map_const'];simp
theorem Em(v sz:Nat->Nat)(q:Nat)(h:q<256)(hv:0<v q):(c_ v sz q).set q (sz q)=c_ v sz (q+1):=by
 refine list_ext _ _ (by simp[h_]) fun c hc=>?_;rw[List.length_set,h_]at hc;rw[gt_set _ _ _ _ (by rw[h_];exact h),qG _ _ _ _ hc,qG _ _ _ _ hc];by_cases e:q=c
 .subst e;rw[if_pos rfl,if_pos ⟨by omega,hv⟩]
 .rw[if_neg e];by_cases d:c<q/\0<v c
  .rw[if_pos d,if_pos ⟨by omega,d.2⟩]
  .rw[if_neg d,if_neg (fun g=>d ⟨by omega,g.2⟩)]
theorem En(v sz:Nat->Nat)(q:Nat)(hv:v q=0):c_ v sz q=c_ v sz (q+1):=by
 unfold c_;refine List.map_congr_left fun c _=>?_;by_cases d:c<q/\0<v c
 .rw[if_pos d,if_pos ⟨by omega,d.2⟩]
 .rw[if_neg d,if_neg];rintro⟨g1,g2⟩;by_cases e:c=q
  .subst e;omega
  .exact d ⟨by omega,g2⟩
theorem uP(v sz:Nat->Nat)(B:Nat)(h:∀c,sz c<=B):∀q,lsum v sz q<=q*B
 | 0=>by simp[lsum]
 | q+1=>by
  have:=uP v sz B h q;have:=h q;rw[lsum,Nat.succ_mul];split<;>omega
def aV(l:List Nat):List Int:=l.map fun n:Nat=>(n:Int)
theorem ma{w:World}{g:Nat}{ys:List Nat}(h:aa w g (aX ys) 3):Nd w (some ⟨g,0,none⟩) (aV ys):=fun _=>by
 refine⟨g,0,rfl,h.lt,fun i hi=>?_⟩;unfold aV at hi⊢;rw[List.length_map]at hi;rw[Nat.zero_add,h.cell i (jU ys i hi)];unfold gi
 rw[List.getD_eq_getElem?_getD,List.getD_eq_getElem?_getD,List.getElem?_map,List.getElem?_eq_getElem hi];rfl
theorem sk(ys:List Nat)(hl:ys.length=256)(h:∀y,y∈ys->y<=1048576):cY (aV ys) 1048576=true:=by
 unfold cY aV;rw[List.length_map,decide_eq_true hl,Bool.true_and,Bool.not_eq_true',List.any_eq_false];intro z hz;obtain⟨y,hy,rfl⟩:=List.mem_map.1 hz;have:=h y hy;unfold bad;simp;omega
def gZ(v sz:Nat->Nat)(n:Int):List Int:=if (lsum v sz 256:Int)=n then aV (fh (aV (c_ v sz 256)))else []
theorem zx(n:Int)(gc gn c:Nat)(bs:Value)(v sz:Nat->Nat)(M:Nat->Nat->Option Value)(w:World)(hbs:bs.oneCell'=true)(hC:aa w gc (cC v) 83)(hM:CM w gn c M)(hv:∀c,v c<=40)(hk:∀c,cod v c<2^v c)(hz:∀c,sz c<=1048576)
  (hS:∀q,q<256->0<v q->∃p off on,(M (v q-1) (cod v q/2)).getD mR=.agg #[p,.int .i64 off,.int .i64 on]/\p.oneCell'=true/\(if cod v q%2=1 then on else off)=(sz q:Int)):
  Calls prog 101 #[.agg #[.int .i64 n,.slice (some ⟨gc,0,none⟩) 256 256,bs,.map (some gn)]] w fun e w'=>∃ao k cap,e=.returned (.slice ao k cap)/\k=(gZ v sz n).length/\Nd w' ao (gZ v sz n)/\Below w.heap.size w w'/\Fr w.heap.size ao:=by
 obtain⟨i0,hi,hz0,hz1,hz2⟩:=info_parts mC;have HC:=ac hC;have HM:=ac hM;have HZ:=ac hz
 have CZ:Hid (∀q w0,q<256->0<v q->CM w0 gn c M->Qq 98 #[.agg #[.int .i64 n,.slice (some ⟨gc,0,none⟩) 256 256,bs,.map (some gn)],.agg #[.int .i64 (v q:Nat),.int .u64 (cod v q:Nat)]] w0 (.int .i64 (sz q:Int))):=fun q w0 hq hq0 h0=>by
  obtain⟨p,off,on,e1,e2,e3⟩:=hS q hq hq0;have:=sU n (.slice (some ⟨gc,0,none⟩) 256 256) bs p off on gn c (v q) (cod v q) M w0 rfl hbs h0 hq0 (by have:=hv q;omega) (iD (hk q) (hv q)) e1 e2;rw[e3]at this
  exact this
 have HSum:=ac (uP v sz 1048576 hz);have lgc:=hC.lt;clear hC hM hz hS;obtain⟨W,hW⟩:∃W,W=w.alloc (.cells #[.int .i64 n,.slice (some ⟨gc,0,none⟩) 256 256,bs,.map (some gn)] 94):=⟨_,rfl⟩;have bW:=aM hW
 have B1:=aU hW;have zW:W.heap.size=w.heap.size+1:=by rw[hW];simp
 go_enter func101,ntmps101;go_wp2_with (at_make;refine wpList_make_full _ rfl _ _ 24 rfl (w.heap.size+1) 3 i0 (.int .i64 0) 1 underlying24 hi hz0 hz1 .i64 .i64 _ _ 256 rfl rfl rfl rfl ?b2 ?b3 ?b4 ?_)
 case b2=>rw[hz2];omega
 case b3=>unfold maxLen;omega
 case b4=>simp
 rw[<-hW];intro w1 hown hgr;have B2:=oN hown;have hb1:Below W.heap.size W w1:=(Below.refl _ _).grown hgr (Nat.le_refl _) (fun k h=>by cases h);rw[<-El v sz]at B2
 have HB1:=ac (bg bW hb1);have HL1:=ac B2;have B11:=ac (B1.kept hb1);have q1:=B11.out.cell 1 rfl;clear hown hgr hb1 hi hz0 hz1 hz2 B1 B2 hW bW;go_wp2
 go_loopw [4,13] (fun vs vi wr=>∃q:Nat,q<=256/\vi=.int .i64 q/\vs=.int .i64 (lsum v sz q:Nat)/\Hid (aa wr (w.heap.size+1) (aX (c_ v sz q)) 3)/\Hid (aa wr w.heap.size [.int .i64 n,.slice (some ⟨gc,0,none⟩) 256 256,bs,.map (some gn)] 94)/\Hid (Below w.heap.size w wr)) (fun _ vi _=>256-(intOf vi).toNat)
 case atStart=>exact⟨0,Nat.zero_le _,rfl,rfl,HL1,B11,HB1⟩
 case round=>
  clear HL1 B11 HB1 q1;obtain⟨q,hq,rfl,rfl,HL,B1,HB⟩:=hrel;by_cases hlt:q<256
  .have hltz:(q:Int)<256:=by omega
   have HCw:=HC.out.kept HB.out;have a1:=HCw.cell (q*2) (gD v _ hlt);have a2:=HCw.cell (q*2+1) (gC v _ hlt);have v40:=hv q;have z8:=HZ.out q;have sm:=HSum.out q;have lgw:=HB.out.size
   have ll:=HL.out.lt;have HM1:=ac (HM.out.kept HB.out)
   have CQ:Hid (∀w0,0<v q->CM w0 gn c M->Qq 98 #[.agg #[.int .i64 n,.slice (some ⟨gc,0,none⟩) 256 256,bs,.map (some gn)],.agg #[.int .i64 (v q:Nat),.int .u64 (cod v q:Nat)]] w0 (.int .i64 (sz q:Int))):=fun w0=>CZ.out q w0 hlt
   have LS:=ac (Em v sz q hlt);have LK:=ac (En v sz q);have S1:lsum v sz (q+1)=lsum v sz q+(if 0<v q then sz q else 0):=rfl;have S1h:=ac S1;clear HCw CZ S1;generalize lsum v sz q=sq at *
   obtain⟨W2,hW2⟩:∃W2,W2=wr.alloc (.cells #[.int .i64 (v q:Nat),.int .u64 (cod v q:Nat)] 83):=⟨_,rfl⟩;have hA:Below wr.heap.size wr W2:=by rw[hW2];exact below_alloc wr _
   have B6:aa W2 wr.heap.size [.int .i64 (v q:Nat),.int .u64 (cod v q:Nat)] 83:=by rw[hW2];exact aa.new wr _ _
   have HL2:=ac (HL.out.kept hA);have B12:=ac (B1.out.kept hA);have HB2:=ac (HB.out.trans (hA.mono lgw));have HM2:=ac (HM1.out.kept hA);have z2:=hA.size;have B6h:=ac B6;by_cases hv0:0<v q
   .rw[if_pos hv0]at S1h;have hv0z:(v q:Int)>0:=by omega
    have r0:=B1.out.cell 0 rfl;have r1:=B1.out.cell 1 rfl;have r2:=B1.out.cell 2 rfl;have r3:=B1.out.cell 3 rfl;have lB:=B1.out.lt;have fL:=HL.out.frozen q
    have nL:=HL.out.cell q (jU _ q (by rw[h_];exact hlt));clear HL B1 HB HM1 hA B6;go_wp2_with fail;rw[<-hW2];refine mr (CQ.out _ hv0 HM2.out) fun w4 hb=>?_;have HL4:=ac (HL2.out.kept hb)
    have B14:=ac (B12.out.kept hb);have HB4:=ac (bg HB2.out hb);have z4:=hb.size;have fL4:=HL4.out.frozen q;have nL4:=HL4.out.cell q (jU _ q (by rw[h_];exact hlt))
    have HL5:Hid (aa (w4.setCell ⟨w.heap.size+1,q,none⟩ (.int .i64 (sz q:Nat))) (w.heap.size+1) (aX (c_ v sz (q+1))) 3):=by
     have:=HL4.out.set q (.int .i64 (sz q:Nat));rw[oe,LS.out hv0]at this;exact this
    have B15:=ac (B14.out.other (a:=⟨w.heap.size+1,q,none⟩) (by show w.heap.size≠w.heap.size+1;omega) (.int .i64 (sz q:Nat)))
    have HB5:Hid (Below w.heap.size w (w4.setCell ⟨w.heap.size+1,q,none⟩ (.int .i64 (sz q:Nat)))):=HB4.out.setCell (by show w.heap.size<=w.heap.size+1;omega) _;have l4:=HL4.out.lt
    clear hb HL2 B12 HB2 HM2 r0 r1 r2 r3 fL nL hW2 B6h HL4 B14 HB4;go_wp2;refine⟨⟨q+1,by omega,rfl,?_,HL5,B15,HB5⟩,by simp only[intOf];omega⟩;rw[S1h.out];rfl
   .have hv0':v q=0:=by omega
    rw[if_neg hv0,Nat.add_zero]at S1h;have hv0z:¬((v q:Int)>0):=by omega
    rw[LK.out hv0']at HL2;have hW3:W2=wr.alloc (.cells #[.int .i64 0,.int .u64 (cod v q:Nat)] 83):=by rw[hW2,hv0'];rfl
    clear HL B1 HB HM1 hA B6 hW2;go_wp2;rw[<-hW3];refine⟨⟨q+1,by omega,rfl,?_,HL2,B12,HB2⟩,by simp only[intOf];omega⟩;rw[S1h.out];rfl
  .obtain rfl:q=256:=by omega
   have r0:=B1.out.cell 0 rfl;have lB:=B1.out.lt;have HN:=ac (ma HL.out)
   have HW:Hid (cY (aV (c_ v sz 256)) 1048576=true):=sk _ (h_ _ _ _) fun y hy=>by
    obtain⟨i,hi,rfl⟩:=List.mem_map.1 hy;have:=HZ.out i;split<;>omega
   have CL:Hid (∀w0,Below wr.heap.size wr w0->Calls prog 34 #[.slice (some ⟨w.heap.size+1,0,none⟩) 256 256] w0 fun e w'=>LO w0 (fh (aV (c_ v sz 256))) e w'):=fun w0 hb=>by
    have:=vv (some ⟨w.heap.size+1,0,none⟩) (aV (c_ v sz 256)) 256 w0 (HN.out.keep hb) (by simp[aV,h_]) HW.out;rw[show(aV (c_ v sz 256)).length=256 by simp[aV,h_]]at this;exact this
   by_cases hs:(lsum v sz 256:Int)=n
   .have hrs:Hid (gZ v sz n=aV (fh (aV (c_ v sz 256)))):=if_pos hs;generalize lsum v sz 256=sq at *;clear HL B1;go_wp2_with fail;refine(CL.out _ (Below.refl _ _)).mono ?_;rintro e w5 ⟨g5,rfl,hc5,hge5,hb5⟩
    have hg5:w.heap.size<=g5:=by omega
    clear hge5;have HB5:=ac (bg HB.out hb5);have HN5:=ac (ma hc5);clear hb5 hc5 CL HN HB;go_wp2;go_ret
    refine⟨some ⟨g5,0,none⟩,256,256,rfl,?_,?_,HB5.out,fun a ha=>by cases ha;exact hg5⟩
    .rw[hrs.out];simp[aV,fh]
    .rw[hrs.out];exact HN5.out
   .have hrs:Hid (gZ v sz n=[]):=if_neg hs;generalize lsum v sz 256=sq at *;clear HL B1 CL HN;go_wp2;go_ret;refine⟨none,0,0,rfl,?_,?_,HB.out,bE _⟩
    .rw[hrs.out];rfl
    .rw[hrs.out];exact fun h=>absurd h (by simp)
namespace Sh
def ixo(p:Nat×Nat):List (Nat×Nat)->Nat
 | []=>0
 | q::l=>if q=p then 0 else ixo p l+1
theorem get_ixo{p:Nat×Nat}:∀{l:List (Nat×Nat)},p∈l->l[ixo p l]?=some p
 | q::l,h=>by
  unfold ixo;by_cases e:q=p
  .rw[if_pos e,e];rfl
  .rw[if_neg e];rcases List.mem_cons.1 h with g | g
   .exact absurd g.symm e
   .simpa using get_ixo g
theorem ixo_lt{p:Nat×Nat}{l:List (Nat×Nat)}(h:p∈l):ixo p l<l.length:=(List.getElem?_eq_some_iff.1 (get_ixo h)).1
theorem ixo_out{p:Nat×Nat}:∀{l:List (Nat×Nat)},p ∉ l->ixo p l=l.length
 | [],_=>rfl
 | q::l,h=>by
  unfold ixo;rw[List.mem_cons,not_or]at h;rw[if_neg (fun e=>h.1 e.symm),ixo_out h.2];rfl
theorem ixo_get:∀{l:List (Nat×Nat)} {i:Nat} {p:Nat×Nat},l.Nodup->l[i]?=some p->ixo p l=i
 | q::l,0,p,_,h=>by
  simp only[List.getElem?_cons_zero,Option.some.injEq]at h;subst h;unfold ixo;rw[if_pos rfl]
 | q::l,i+1,p,hn,h=>by
  rw[List.nodup_cons]at hn;have h':l[i]?=some p:=by simpa using h
  unfold ixo;rw[if_neg,ixo_get hn.2 h'];intro e;subst e;exact hn.1 (List.mem_of_getElem? h')
theorem ixo_before{l:List (Nat×Nat)}(hs:l.Pairwise ltc){i:Nat}{p q:Nat×Nat}(hp:l[i]?=some p)(hq:q∈l)(h:ltc q p):ixo q l<i:=by
 have g:=get_ixo hq;obtain⟨g1,g2⟩:=List.getElem?_eq_some_iff.1 g;obtain⟨p1,p2⟩:=List.getElem?_eq_some_iff.1 hp;rw[List.pairwise_iff_getElem]at hs;by_cases e:ixo q l<i
 .exact e
 .by_cases d:ixo q l=i
  .have:l[ixo q l]'g1=l[i]'p1:=by congr 1
   rw[g2,p2]at this;subst this;exact absurd h (ltc_irrefl _)
  .have:=hs i (ixo q l) p1 g1 (by omega);rw[g2,p2]at this;exact absurd h (uO this)
section
variable (v k:Nat->Nat)
theorem node_up{L x:Nat}(hk:∀c,k c<2^v c)(h:(L,x)∈nds v k)(hL:0<L):(L-1,x/2)∈nds v k:=by
 rw[mem_nds v k _ _ hk]at h⊢;obtain⟨h1,h2⟩:=h;refine⟨by omega,?_⟩;rw[isN_iff]at h2⊢;obtain⟨c,hc,hl,e⟩:=h2;refine⟨c,hc,by omega,?_⟩;have:=tX v k (L:=L-1) (c:=c) (by omega)
 rw[show L-1+1=L by omega,e]at this;exact this.symm
theorem leaf_up{c:Nat}(hk:∀c,k c<2^v c)(hv:∀c,v c<=40)(hc:c<256)(h:0<v c):(v c-1,k c/2)∈nds v k:=by
 rw[mem_nds v k _ _ hk];have:=hv c;refine⟨by omega,?_⟩;rw[isN_iff];refine⟨c,hc,by omega,?_⟩;unfold pre;rw[show v c-(v c-1)=1 by omega,Nat.pow_one]
theorem node_small{L x:Nat}(hk:∀c,k c<2^v c)(hv:∀c,v c<=40)(h:(L,x)∈nds v k):L<=39/\x<18446744073709551616:=by
 rw[mem_nds v k _ _ hk]at h;obtain⟨h1,h2⟩:=h;obtain⟨c,_,_,e⟩:=(isN_iff v k _ _).1 h2;refine⟨by omega,?_⟩;rw[<-e];exact rj (hk c) (hv c)
end
def szN(l:List (Nat×Nat))(a o:Nat->Int)(n:Int)(L x:Nat):Int:=
 if L=0 then n else if x%2=1 then o (ixo (L-1,x/2) l)else a (ixo (L-1,x/2) l)-o (ixo (L-1,x/2) l)
end Sh
def bF(av:List RA)(j:Nat):Int:=kBN (av.getD j cy)
def bM(av:List RA)(j:Nat):Int:=(cB (aQ (av.getD j cy)) true (kBN (av.getD j cy)).toNat:Int)
def fq(l:List (Nat×Nat))(k n:Int)(av:List RA)(i:Nat):Bool:=
 aJ (av.getD i cy)&&(decide ((av.getD i cy).K=k)&&decide (bF av i=Sh.szN l (bF av) (bM av) n (l.getD i (0,0)).1 (l.getD i (0,0)).2))
def szC(v:Nat->Nat)(n:Int)(av:List RA)(c:Nat):Nat:=(Sh.szN (Sh.nds v (cod v)) (bF av) (bM av) n (v c) (cod v c)).toNat
def bn(k n:Int)(l:List Int)(av:List RA):Bool:=
 fd l&&(decide ((Sh.nds (ay l) (cod (ay l))).length=av.length)&&(decide (n<=8192)&&(decide (1<=k/\k<=3)&&((List.range av.length).all (fq (Sh.nds (ay l) (cod (ay l))) k n av)&&decide (gZ (ay l) (szC (ay l) n av) n=l)))))
def nH(b off:Nat)(av:List RA)(j:Nat):Value:=.agg #[.pointer (some ⟨b,off+j*22,none⟩),.int .i64 (bF av j-bM av j),.int .i64 (bM av j)]
def bz(l:List (Nat×Nat))(b off:Nat)(av:List RA)(i:Nat):Nat->Nat->Option Value:=fun L x=>if Sh.ixo (L,x) l<i then some (nH b off av (Sh.ixo (L,x) l))else none
theorem Da{l:List (Nat×Nat)}(hn:l.Nodup){b off:Nat}{av:List RA}{i L x:Nat}(h:l[i]?=some (L,x)):cup (bz l b off av i) L x (nH b off av i)=bz l b off av (i+1):=by
 funext L' x';unfold cup bz;by_cases e:L'=L/\x'=x
 .obtain⟨rfl,rfl⟩:=e;rw[if_pos ⟨rfl,rfl⟩,Sh.ixo_get hn h,if_pos (by omega)]
 .rw[if_neg e];by_cases d:Sh.ixo (L',x') l<i
  .rw[if_pos d,if_pos (by omega)]
  .rw[if_neg d,if_neg];intro g;have hi:Sh.ixo (L',x') l=i:=by omega
   have hil:=(List.getElem?_eq_some_iff.1 h).1
   have hm:(L',x')∈l:=by
    by_cases hm:(L',x')∈l
    .exact hm
    .have:=Sh.ixo_out hm;omega
   have:=Sh.get_ixo hm;rw[hi,h]at this;simp only[Option.some.injEq,Prod.mk.injEq]at this;exact e ⟨this.1.symm,this.2.symm⟩
theorem tK(av:List RA)(j:Nat)(h:aJ (av.getD j cy)=true):0<=bM av j/\bM av j<=bF av j/\bF av j<=1048576:=by
 have hc:=kK _ h;obtain⟨h0,h1,_,_⟩:=bp _ _ hc;unfold bM bF;have:=fu (aQ (av.getD j cy)) true (kBN (av.getD j cy)).toNat;omega
end Go.Proofs.YtleegaihbgbcjaaGreatDoor
namespace Go.Proofs.YtleegaihbgbcjaaGreatDoor
open Go.Shelf
def za:Go.Shelf.Ren:=⟨fun | 6=>85 | 15=>143 | 14=>142 | 28=>215 | 29=>216 | 20=>207 | 21=>208 | 22=>209 | 23=>210 | 24=>211 | 25=>212 | 26=>213 | 27=>214 | 46=>260 | 47=>261 | 48=>262 | 49=>263 | 50=>264 | 57=>278 | n=>n,fun | 22=>75 | 24=>83 | 25=>155 | 3=>3 | 39=>115 | 0=>0 | 53=>276 | 55=>81 | 4=>4 | 46=>269 | 45=>268 | 50=>273 | 5=>5 | 9=>9 | 66=>307 | 70=>311 | 76=>322 | 77=>59 | n=>n,fun | n=>n⟩
theorem s_:Go.Proofs.SlLaysF0.n6 prog za:={
 mixed:=by kernel_rfl
 f6:=⟨Tryz.f85.name,by decide,func85.trans (congrArg some (by kernel_rfl))⟩,f14:=⟨Tryz.f142.name,by decide,func142.trans (congrArg some (by kernel_rfl))⟩,f15:=func143.trans (congrArg some (by kernel_rfl))
 f20:=⟨Tryz.f207.name,by decide,func207.trans (congrArg some (by kernel_rfl))⟩,f21:=⟨Tryz.f208.name,by decide,func208.trans (congrArg some (by kernel_rfl))⟩
 f22:=⟨Tryz.f209.name,by decide,func209.trans (congrArg some (by kernel_rfl))⟩,f23:=⟨Tryz.f210.name,by decide,func210.trans (congrArg some (by kernel_rfl))⟩
 f24:=⟨Tryz.f211.name,by decide,func211.trans (congrArg some (by kernel_rfl))⟩,f25:=⟨Tryz.f212.name,by decide,func212.trans (congrArg some (by kernel_rfl))⟩
 f26:=⟨Tryz.f213.name,by decide,func213.trans (congrArg some (by kernel_rfl))⟩,f27:=⟨Tryz.f214.name,by decide,func214.trans (congrArg some (by kernel_rfl))⟩
 f28:=func215.trans (congrArg some (by kernel_rfl)),f29:=func216.trans (congrArg some (by kernel_rfl)),f46:=⟨Tryz.f260.name,by decide,func260.trans (congrArg some (by kernel_rfl))⟩
 f47:=func261.trans (congrArg some (by kernel_rfl)),f48:=func262.trans (congrArg some (by kernel_rfl)),f49:=⟨Tryz.f263.name,by decide,func263.trans (congrArg some (by kernel_rfl))⟩
 f50:=⟨Tryz.f264.name,by decide,func264.trans (congrArg some (by kernel_rfl))⟩,f57:=⟨Tryz.f278.name,by decide,func278.trans (congrArg some (by kernel_rfl))⟩,t0:=underlying0,a0:=Tryz.isAgg0
 z0:=Tryz.sizeOf0,v0:=Tryz.zeroValue0,t3:=underlying3,a3:=Tryz.isAgg3,z3:=Tryz.sizeOf3,v3:=Tryz.zeroValue3,t4:=underlying4,a4:=Tryz.isAgg4,z4:=Tryz.sizeOf4,v4:=Tryz.zeroValue4,t5:=underlying5
 a5:=Tryz.isAgg5,z5:=Tryz.sizeOf5,v5:=Tryz.zeroValue5,t9:=underlying9,a9:=Tryz.isAgg9,z9:=Tryz.sizeOf9,v9:=Tryz.zeroValue9,t22:=underlying75,a22:=Tryz.isAgg75,z22:=Tryz.sizeOf75
 v22:=Tryz.zeroValue75,t25:=underlying155,a25:=Tryz.isAgg155,z25:=Tryz.sizeOf155,v25:=Tryz.zeroValue155,t39:=underlying115,a39:=Tryz.isAgg115,z39:=Tryz.sizeOf115,v39:=Tryz.zeroValue115
 t45:=underlying268,a45:=Tryz.isAgg268,z45:=Tryz.sizeOf268,v45:=Tryz.zeroValue268,t46:=underlying269,a46:=Tryz.isAgg269,z46:=Tryz.sizeOf269,v46:=Tryz.zeroValue269,t50:=underlying273
 a50:=Tryz.isAgg273,z50:=Tryz.sizeOf273,v50:=Tryz.zeroValue273,t53:=underlying276,a53:=Tryz.isAgg276,z53:=Tryz.sizeOf276,v53:=Tryz.zeroValue276,t55:=underlying81,a55:=Tryz.isAgg81,z55:=Tryz.sizeOf81
 v55:=Tryz.zeroValue81,t66:=underlying307,a66:=Tryz.isAgg307,z66:=Tryz.sizeOf307,v66:=Tryz.zeroValue307,t70:=underlying311,a70:=Tryz.isAgg311,z70:=Tryz.sizeOf311,v70:=Tryz.zeroValue311
 t76:=underlying322,a76:=Tryz.isAgg322,z76:=Tryz.sizeOf322,v76:=Tryz.zeroValue322,t77:=underlying59,a77:=Tryz.isAgg59,z77:=Tryz.sizeOf59
 v77:=Tryz.zeroValue59 }
end Go.Proofs.YtleegaihbgbcjaaGreatDoor
namespace Go.Proofs.YtleegaihbgbcjaaGreatDoor
open Go.RowKit Num Bit
def bQ(a b:Int):Int:=if a<b then -1 else if b<a then 1 else 0
theorem zo(a:Int)(w:World):Qx 144 #[.int .i64 a] w (.bool false):=by
 go_enter func144,ntmps144;go_wp2;go_ret;simp
theorem zm(a:Int)(w:World):Qx 145 #[.int .u64 a] w (.bool false):=by
 go_enter func145,ntmps145;go_wp2;go_ret;simp
theorem Af(a b:Int)(w:World):Qx 88 #[.int .i64 a,.int .i64 b] w (.int .i64 (bQ a b)):=by
 have H:Hid (∀(x:Int) (w0:World),Qx 144 #[.int .i64 x] w0 (.bool false)):=zo;obtain⟨r,hr⟩:∃r,Hid (r=bQ a b):=⟨_,rfl⟩;rw[<-hr.out]
 go_enter func88,ntmps88;go_wp2_with fail;refine(H.out _ _).mono ?_;rintro e w1 ⟨rfl,rfl⟩;go_wp2_with fail;refine(H.out _ _).mono ?_;rintro e w2 ⟨rfl,rfl⟩;clear H;by_cases h1:a<b
 .obtain rfl:r= -1:=by rw[hr.out];unfold bQ;rw[if_pos h1]
  go_wp2;go_ret;exact⟨rfl,rfl⟩
 .by_cases h2:b<a
  .obtain rfl:r=1:=by rw[hr.out];unfold bQ;rw[if_neg h1,if_pos h2]
   go_wp2;go_ret;exact⟨rfl,rfl⟩
  .obtain rfl:r=0:=by rw[hr.out];unfold bQ;rw[if_neg h1,if_neg h2]
   go_wp2;go_ret;exact⟨rfl,rfl⟩
theorem Ae(a b:Int)(w:World):Qx 89 #[.int .u64 a,.int .u64 b] w (.int .i64 (bQ a b)):=by
 have H:Hid (∀(x:Int) (w0:World),Qx 145 #[.int .u64 x] w0 (.bool false)):=zm;obtain⟨r,hr⟩:∃r,Hid (r=bQ a b):=⟨_,rfl⟩;rw[<-hr.out]
 go_enter func89,ntmps89;go_wp2_with fail;refine(H.out _ _).mono ?_;rintro e w1 ⟨rfl,rfl⟩;go_wp2_with fail;refine(H.out _ _).mono ?_;rintro e w2 ⟨rfl,rfl⟩;clear H;by_cases h1:a<b
 .obtain rfl:r= -1:=by rw[hr.out];unfold bQ;rw[if_pos h1]
  go_wp2;go_ret;exact⟨rfl,rfl⟩
 .by_cases h2:b<a
  .obtain rfl:r=1:=by rw[hr.out];unfold bQ;rw[if_neg h1,if_pos h2]
   go_wp2;go_ret;exact⟨rfl,rfl⟩
  .obtain rfl:r=0:=by rw[hr.out];unfold bQ;rw[if_neg h1,if_neg h2]
   go_wp2;go_ret;exact⟨rfl,rfl⟩
theorem zj(g:Nat)(p s:Int)(w:World)(h:aa w g [.int .i64 p,.int .i64 s] 3):Qx 87 #[.slice (some ⟨g,0,none⟩) 2 2] w (.int .i64 (if p≠0 then p else s)):=by
 have c0:=h.cell 0 rfl;have c1:=h.cell 1 rfl;have lg:=h.lt;obtain⟨r,hr⟩:∃r,Hid (r=if p≠0 then p else s):=⟨_,rfl⟩;rw[<-hr.out];go_enter func87,ntmps87;go_wp2
 go_loopw [8] (fun vi wr=>∃q:Nat,q<=2/\vi=.int .i64 q/\wr=w/\(0<q->p=0)/\(1<q->s=0)) (fun vi _=>2-(intOf vi).toNat)
 case atStart=>exact⟨0,by omega,rfl,rfl,by omega,by omega⟩
 case round=>
  obtain⟨q,hq,rfl,rfl,k1,k2⟩:=hrel;have:q=0\/q=1\/q=2:=by omega
  rcases this with rfl | rfl | rfl
  .by_cases e:p=0
   .go_wp2;exact⟨⟨1,by omega,rfl,by simp,by simp[e],by simp⟩,by simp[intOf]⟩
   .obtain rfl:r=p:=by rw[hr.out,if_pos e]
    go_wp2;go_ret;exact⟨rfl,rfl⟩
  .obtain rfl:p=0:=k1 (by omega);obtain rfl:r=s:=by rw[hr.out,if_neg (by simp)]
   by_cases e:r=0
   .go_wp2;exact⟨⟨2,by omega,rfl,by simp,by simp,by simp[e]⟩,by simp[intOf]⟩
   .go_wp2;go_ret;exact⟨rfl,rfl⟩
  .obtain rfl:p=0:=k1 (by omega);obtain rfl:s=0:=k2 (by omega);obtain rfl:r=0:=by rw[hr.out,if_neg (by simp)]
   go_wp2;go_ret;exact⟨rfl,rfl⟩
def jZ(a b:Nat×Nat):Int:=if bQ (a.1:Int) (b.1:Int)≠0 then bQ (a.1:Int) (b.1:Int)else bQ (a.2:Int) (b.2:Int)
theorem Ah(L x M y:Nat)(w:World):
  Calls prog 86 #[cv L x,cv M y] w fun e w'=>e=.returned (.int .i64 (jZ (L,x) (M,y)))/\w'=((w.alloc (.cells #[.int .i64 (L:Int),.int .u64 (x:Int)] 83)).alloc (.cells #[.int .i64 (M:Int),.int .u64 (y:Int)] 83)).drew.alloc (.cells #[.int .i64 (bQ (L:Int) (M:Int)),.int .i64 (bQ (x:Int) (y:Int))] 3):=by
 obtain⟨p,hp⟩:∃p,Hid (p=bQ (L:Int) (M:Int)):=⟨_,rfl⟩;obtain⟨s,hs⟩:∃s,Hid (s=bQ (x:Int) (y:Int)):=⟨_,rfl⟩
 show Calls _ _ _ _ fun e w'=>e=.returned (.int .i64 (if bQ (L:Int) (M:Int)≠0 then bQ (L:Int) (M:Int)else bQ (x:Int) (y:Int)))/\_;rw[<-hp.out,<-hs.out]
 have C1:Hid (∀w0:World,Qx 88 #[.int .i64 (L:Int),.int .i64 (M:Int)] w0 (.int .i64 p)):=fun w0=>by rw[hp.out];exact Af _ _ w0
 have C2:Hid (∀w0:World,Qx 89 #[.int .u64 (x:Int),.int .u64 (y:Int)] w0 (.int .i64 s)):=fun w0=>by rw[hs.out];exact Ae _ _ w0
 have C3:Hid (∀(g:Nat) (w0:World),aa w0 g [.int .i64 p,.int .i64 s] 3->Qx 87 #[.slice (some ⟨g,0,none⟩) 2 2] w0 (.int .i64 (if p≠0 then p else s))):=fun g w0 h=>zj g p s w0 h
 generalize (if p≠0 then p else s)=res at *;obtain⟨V,hV⟩:∃V,V=(w.alloc (.cells #[.int .i64 (L:Int),.int .u64 (x:Int)] 83)).alloc (.cells #[.int .i64 (M:Int),.int .u64 (y:Int)] 83):=⟨_,rfl⟩
 have B1:aa V w.heap.size [.int .i64 (L:Int),.int .u64 (x:Int)] 83:=by rw[hV];exact(aa.new w _ _).alloc _
 have B2:aa V (w.heap.size+1) [.int .i64 (M:Int),.int .u64 (y:Int)] 83:=by rw[hV];exact aa.new2 w _ _ _
 have HV:=ac hV;unfold cv;go_enter func86,ntmps86;go_wp2;rw[<-hV];clear hV
 refine aB [] (fun w'=>aa w' w.heap.size [.int .i64 (L:Int),.int .u64 (x:Int)] 83/\aa w' (w.heap.size+1) [.int .i64 (M:Int),.int .u64 (y:Int)] 83) (by kernel_rfl) ?_
 have hS:aa V.drew w.heap.size [.int .i64 (L:Int),.int .u64 (x:Int)] 83/\aa V.drew (w.heap.size+1) [.int .i64 (M:Int),.int .u64 (y:Int)] 83:=⟨B1,B2⟩;obtain⟨Y,hY⟩:∃Y,Hid (Y=V.drew):=⟨_,rfl⟩
 rw[<-hY.out]at hS⊢;clear B1 B2;refine aF 0 hS rfl (fun w0 h0=>by have c0:=h0.1.cell 0 rfl;have c1:=h0.1.cell 1 rfl;have d0:=h0.2.cell 0 rfl;have d1:=h0.2.cell 1 rfl;go_simp;try with_reducible rfl) ?_
 refine aF 1 hS rfl (fun w0 h0=>by have c0:=h0.1.cell 0 rfl;have c1:=h0.1.cell 1 rfl;have d0:=h0.2.cell 0 rfl;have d1:=h0.2.cell 1 rfl;go_simp;try with_reducible rfl) ?_
 refine aF 2 hS rfl (fun w0 h0=>by have c0:=h0.1.cell 0 rfl;have c1:=h0.1.cell 1 rfl;have d0:=h0.2.cell 0 rfl;have d1:=h0.2.cell 1 rfl;go_simp;try with_reducible rfl) ?_
 refine aF 3 hS rfl (fun w0 h0=>by have c0:=h0.1.cell 0 rfl;have c1:=h0.1.cell 1 rfl;have d0:=h0.2.cell 0 rfl;have d1:=h0.2.cell 1 rfl;go_simp;try with_reducible rfl) ?_
 refine aF 5 hS rfl (fun w0 h0=>by have c0:=h0.1.cell 0 rfl;have c1:=h0.1.cell 1 rfl;have d0:=h0.2.cell 0 rfl;have d1:=h0.2.cell 1 rfl;go_simp;try with_reducible rfl) ?_
 refine aF 6 hS rfl (fun w0 h0=>by have c0:=h0.1.cell 0 rfl;have c1:=h0.1.cell 1 rfl;have d0:=h0.2.cell 0 rfl;have d1:=h0.2.cell 1 rfl;go_simp;try with_reducible rfl) ?_
 refine aF 7 hS rfl (fun w0 h0=>by have c0:=h0.1.cell 0 rfl;have c1:=h0.1.cell 1 rfl;have d0:=h0.2.cell 0 rfl;have d1:=h0.2.cell 1 rfl;go_simp;try with_reducible rfl) ?_
 refine aF 8 hS rfl (fun w0 h0=>by have c0:=h0.1.cell 0 rfl;have c1:=h0.1.cell 1 rfl;have d0:=h0.2.cell 0 rfl;have d1:=h0.2.cell 1 rfl;go_simp;try with_reducible rfl) ?_;refine aO 4 ?_;intro K hK;go_simp
 refine(C1.out _).mono ?_;rintro e w1 ⟨rfl,rfl⟩;refine hK.out _ _ (fun _=>hS) ?_;clear hK K;try simp only[Act.put,ak,aj,ai,ae,ah,ag]
 refine aO 9 ?_;intro K hK;go_simp;refine(C2.out _).mono ?_;rintro e w2 ⟨rfl,rfl⟩;refine hK.out _ _ (fun _=>hS) ?_;clear hK K;try simp only[Act.put,ak,aj,ai,ae,ah,ag]
 refine aO 10 ?_;intro K hK;go_simp;have hc:=aa.new w2 [.int .i64 p,.int .i64 s] 3
 replace hS:=And.intro (hS.1.kept (below_alloc w2 (.cells #[.int .i64 p,.int .i64 s] 3))) (hS.2.kept (below_alloc w2 (.cells #[.int .i64 p,.int .i64 s] 3)))
 obtain⟨Z,hZ⟩:∃Z,Hid (Z=w2.alloc (.cells #[.int .i64 p,.int .i64 s] 3)):=⟨_,rfl⟩;have hc':aa Z w2.heap.size [.int .i64 p,.int .i64 s] 3:=by rw[hZ.out];exact hc
 clear hc;rw[<-hZ.out]at hS⊢;refine hK.out _ _ (fun _=>hS) ?_;clear hK K;try simp only[Act.put,ak,aj,ai,ae,ah,ag]
 refine aO 11 ?_;intro K hK;go_simp;refine(C3.out _ _ hc').mono ?_;rintro e w3 ⟨rfl,rfl⟩;refine hK.out _ _ (fun _=>hS) ?_;clear hK K;try simp only[Act.put,ak,aj,ai,ae,ah,ag]
 refine aK 12 hS ?_;refine aq.done (by kernel_rfl) ?_ _;go_wp2;go_ret;refine⟨rfl,?_⟩;rw[hZ.out,hY.out,HV.out]
def ec(p:Nat×Nat):List Value:=[.int .i64 (p.1:Int),.int .u64 (p.2:Int)]
theorem wP:∀(bl:List (Nat×Nat)) (i:Nat) (p:Nat×Nat),bl[i]?=some p->(eQ bl)[i*2]?=some (.int .i64 (p.1:Int))/\(eQ bl)[i*2+1]?=some (.int .u64 (p.2:Int))
 | q::bl,0,p,h=>by
  simp only[List.getElem?_cons_zero,Option.some.injEq]at h;subst h;exact⟨rfl,rfl⟩
 | q::bl,i+1,p,h=>by
  have:=wP bl i p (by simpa using h);rw[show(i+1)*2=i*2+1+1 by omega];exact this
def Cs(w:World)(ao:Option Addr)(bl:List (Nat×Nat)):Prop:=
 0<bl.length->∃b,ao=some ⟨b,0,none⟩/\b<w.heap.size/\∀i p,bl[i]?=some p->w.cell? ⟨b,i*2,none⟩=some (.int .i64 (p.1:Int))/\w.cell? ⟨b,i*2+1,none⟩=some (.int .u64 (p.2:Int))
theorem Cs.keep{w w':World}{ao:Option Addr}{bl:List (Nat×Nat)}(h:Cs w ao bl)(hb:Below w.heap.size w w'):Cs w' ao bl:=fun hl=>by
 obtain⟨b,e,hlt,hc⟩:=h hl;refine⟨b,e,Nat.lt_of_lt_of_le hlt hb.size,fun i p hp=>?_⟩;exact⟨(hb.cell (p:=⟨b,i*2,none⟩) hlt).trans (hc i p hp).1,(hb.cell (p:=⟨b,i*2+1,none⟩) hlt).trans (hc i p hp).2⟩
theorem xg(a b:Nat):(bQ (a:Int) (b:Int)<0↔a<b)/\(bQ (a:Int) (b:Int)=0↔a=b):=by
 unfold bQ;by_cases h1:a<b
 .rw[if_pos (by omega)];omega
 .rw[if_neg (by omega)];by_cases h2:b<a
  .rw[if_pos (by omega)];omega
  .rw[if_neg (by omega)];omega
theorem nP(a b:Nat×Nat):Go.Proofs.ltOf jZ a b=true↔Sh.ltc a b:=by
 unfold Go.Proofs.ltOf jZ Sh.ltc;rw[decide_eq_true_eq];have:=xg a.1 b.1;have:=xg a.2 b.2;by_cases e:bQ (a.1:Int) (b.1:Int)≠0
 .rw[if_pos e];omega
 .rw[if_neg e];omega
theorem yB:Sort.SWO (Go.Proofs.ltOf jZ) where
 irrefl x:=by
  cases h:Go.Proofs.ltOf jZ x x with
  | false=>rfl
  | true=>exact absurd ((nP x x).1 h) (Sh.ltc_irrefl x)
 trans x y z h1 h2:=by
  rw[nP]at *;unfold Sh.ltc at *;omega
 ntrans x y z h1 h2:=by
  rw[<-Bool.not_eq_true,nP]at *;unfold Sh.ltc at *;omega
theorem FH{w:World}{base g cap:Nat}{bl:List (Nat×Nat)}(h:w.ownsRow base 83 2 (.slice (some ⟨g,0,none⟩) bl.length cap) bl.length (eQ bl)):Sort.HoldsK ec 2 w g 0 bl.toArray:=by
 intro j hj;rw[Sort.size_flatK,List.size_toArray]at hj;rw[Sort.get_flatK ec 2 _ j (by simpa using hj),Nat.zero_add];refine⟨?_,Ag.owns_frozen h j⟩
 have hp:bl[j/2]?=some bl.toArray[j/2]!:=by
  rw[getElem!_pos bl.toArray (j/2) (by simp;omega),List.getElem_toArray];exact List.getElem?_eq_getElem (by omega)
 have e:=wP bl (j/2) _ hp;have:=(Ag.owns_cells h).2;rcases Nat.mod_two_eq_zero_or_one j with q | q
 .rw[q];refine this j _ ?_;rw[show j/2*2=j by omega]at e;exact e.1
 .rw[q];refine this j _ ?_;rw[show j/2*2+1=j by omega]at e;exact e.2
theorem Il(g size:Nat)(w:World):CmpLays prog 86 #[] ec 2 jZ g 0 size w:=fun m os dk _ x y=>by
 refine(Ah x.1 x.2 y.1 y.2 _).mono ?_;rintro e w' ⟨rfl,rfl⟩
 refine⟨rfl,1,#[.cells #[.int .i64 (x.1:Int),.int .u64 (x.2:Int)] 83,.cells #[.int .i64 (y.1:Int),.int .u64 (y.2:Int)] 83,.cells #[.int .i64 (bQ (x.1:Int) (y.1:Int)),.int .i64 (bQ (x.2:Int) (y.2:Int))] 3],?_⟩
 simp only[Sort.alloc_eq_grow,Sort.grow_grow,Sort.drew_grow];rfl
theorem y_{w:World}{g n k:Nat}{d:Array (Nat×Nat)}{os:Array Obj}(hk:k≠g)(hl:k<w.heap.size):(sortWorldK ec 2 w g 0 n d os).heap[k]?=w.heap[k]?:=by
 unfold sortWorldK Sort.putRowK Sort.putRow Sort.mapBlock Sort.grow Sort.ahead;simp only;rw[Array.getElem?_append_left (by simpa using hl),Array.getElem?_modify,if_neg (fun e=>hk e.symm)]
theorem s9{w:World}{g n:Nat}{d:Array (Nat×Nat)}{os:Array Obj}:w.heap.size<=(sortWorldK ec 2 w g 0 n d os).heap.size:=by
 unfold sortWorldK Sort.putRowK Sort.putRow Sort.mapBlock Sort.grow Sort.ahead;simp
theorem yO(base g cap:Nat)(bl:List (Nat×Nat))(w:World)(h:w.ownsRow base 83 2 (.slice (some ⟨g,0,none⟩) bl.length cap) bl.length (eQ bl))(hb:base<=g)(hn:bl.length<=10240):
  Calls prog 85 #[.slice (some ⟨g,0,none⟩) bl.length cap,.func (.func 86) #[] #[]] w fun e w'=>e=.returned (.tuple #[])/\∃bl':List (Nat×Nat),bl'.Perm bl/\bl'.Pairwise (fun a b=>¬Sh.ltc b a)/\Cs w' (some ⟨g,0,none⟩) bl'/\Below base w w':=by
 have hH:=FH h;have hg:=(Ag.owns_cells h).1;have eg:∀args w,(callFunc 86 args).run prog w=.ok (.enter 86 args) w:=enters_of func86 (by kernel_rfl) rfl
 have hc:=AnyQ.slices_SortFunc s_ 2 Tryz.isAgg83 Tryz.sizeOf83 ec (fun _=>rfl) (fun x u hu=>by simp[ec]at hu;rcases hu with rfl | rfl<;>rfl) jZ yB 86 #[] g 0 cap bl.toArray w eg (Il g _ w) hH hg (by simp;omega)
 rw[List.size_toArray]at hc;refine Calls.mono (show Calls prog 85 _ _ _ from hc) ?_;rintro e w' ⟨rfl,d',n,os,hp,hs,rfl⟩;refine⟨rfl,d'.toList,?_,?_,?_,?_⟩
 .have:=hp.2.2;rw[show(bl.toArray.extract 0 bl.length)=bl.toArray by simp]at this;have e1:d'.size=bl.length:=by simpa using hp.1
  rw[<-e1]at this;simpa using this
 .have e1:d'.size=bl.length:=by simpa using hp.1
  rw[List.pairwise_iff_getElem];intro i j hi hj hij;have:=hs i j (Nat.zero_le _) hij (by rw[<-e1];simpa using hj);rw[<-Bool.not_eq_true,nP]at this
  rw[getElem!_pos d' j (by simpa using hj),getElem!_pos d' i (by simpa using hi)]at this;exact this
 .have hK:=holdsK_sortWorldK_c ec 2 w g 0 bl.toArray d' n os hH hg (by simpa using hp.1);intro hl;refine⟨g,rfl,Nat.lt_of_lt_of_le hg s9,fun i p hp2=>?_⟩
  have hi:i<d'.size:=by
   have:=(List.getElem?_eq_some_iff.1 hp2).1;simpa using this
  have hpd:d'[i]! =p:=by
   rw[getElem!_pos d' i hi];have:=(List.getElem?_eq_some_iff.1 hp2).2;simpa using this
  have a0:=(hK.cell (c:=0) hi (by omega)).1;have a1:=(hK.cell (c:=1) hi (by omega)).1;rw[hpd]at a0 a1;simp only[Nat.zero_add,Nat.add_zero]at a0 a1;exact⟨a0,a1⟩
 .exact⟨rfl,rfl,rfl,s9,fun k hk=>y_ (by omega) (by omega)⟩
theorem sT(p:Option Addr)(cap:Nat)(fv:Value)(w:World):Qx 85 #[.slice p 0 cap,fv] w (.tuple #[]):=
 AnyF.slices_SortFunc_none s_ p cap fv w
theorem tq(gc:Nat)(v:Nat->Nat)(w:World)(hC:aa w gc (cC v) 83)(hv:∀c,v c<=40)(hk:∀c,cod v c<2^v c):
  Calls prog 38 #[.slice (some ⟨gc,0,none⟩) 256 256] w fun e w'=>∃ao cap,e=.returned (.slice ao (Sh.nds v (cod v)).length cap)/\Cs w' ao (Sh.nds v (cod v))/\Below w.heap.size w w'/\Fr w.heap.size ao:=by
 refine Ak gc v w hC hv hk _ ?_;intro gm n M bl bv w1 hI hO hg hl hB hn;obtain⟨h1,⟨rfl,h0⟩ | ⟨g,cap,cur,rfl,hbg,r⟩⟩:=id hO
 .refine(sT none 0 _ w1).mono ?_;rintro e w2 ⟨rfl,rfl⟩;have e0:bl=[]:=List.eq_nil_of_length_eq_zero h0;have:=Sh.bl_nds v (cod v) hI hv hk (List.Perm.refl _) (by rw[e0];exact List.Pairwise.nil);rw[<-this,e0]
  exact⟨rfl,none,0,rfl,fun h=>absurd h (by simp),hB,bE _⟩
 .refine(yO (gm+1) g cap bl w1 hO hbg hn).mono ?_;rintro e w2 ⟨rfl,bl',hp,hs,hC2,hB2⟩;have e1:=Sh.bl_nds v (cod v) hI hv hk hp hs;have e2:(Sh.nds v (cod v)).length=bl.length:=by rw[<-e1];exact hp.length_eq
  rw[e1]at hC2;refine⟨rfl,some ⟨g,0,none⟩,cap,by rw[e2],hC2,hB.trans (hB2.mono (by omega)),fun a ha=>by cases ha;show w.heap.size<=g;omega⟩
theorem Al(w:World):Qq 38 #[.slice none 0 0] w (.slice none 0 0):=by
 have hmm:=@run_makeMap prog;have H:=ac (sT none 0 (.func (.func 86) #[] #[]));go_enter func38,ntmps38;go_wp2
 go_loopw [3,12] (fun bv vi wr=>bv=.slice none 0 0/\vi=.int .i64 0/\wr=w.alloc (.map #[] 0)) (fun _ _ _=>0)
 case atStart=>exact⟨rfl,rfl,rfl⟩
 case round=>
  obtain⟨rfl,rfl,rfl⟩:=hrel;go_wp2_with fail;refine(H.out _).mono ?_;rintro e w2 ⟨rfl,rfl⟩;go_wp2;go_ret;exact⟨rfl,below_alloc w _⟩
theorem Ay{t e:TypeId}(ht:prog.underlying t=some (.map 83 e))(n:Nat)(w:World):(Instr.makeMap t (some (.int .i64 (n:Int)))).run prog w=.ok (.map (some w.heap.size)) (w.alloc (.map #[] 0)):=by
 simp[Instr.makeMap,run_underlying ht,asInt,asIntOf,Result.andThen]
theorem DK{l:List Int}(h:fd l=true):(∀c,ay l c<=40)/\∀c,cod (ay l) c<2^ay l c:=by
 unfold fd at h;rw[Bool.and_eq_true]at h;obtain⟨hw,hf⟩:=h;obtain⟨h1,h2⟩:=jE hw
 have hv:∀c,ay l c<=40:=fun c=>by
  unfold ay;by_cases hc:c<l.length
  .have:=h2 c hc;omega
  .unfold gi;rw[List.getD_eq_getElem?_getD,List.getElem?_eq_none (by omega)];decide
 refine⟨hv,fun c=>?_⟩;unfold cod;by_cases h0:0<ay l c
 .rw[if_pos h0]
  have hc:c<256:=by
   by_cases hc:c<l.length
   .omega
   .unfold ay gi at h0;rw[List.getD_eq_getElem?_getD,List.getElem?_eq_none (by omega)]at h0;simp at h0
  exact Hr.code_lt _ _ h0 (hv c) hc (Ka.fit_need hf)
 .rw[if_neg h0];exact Nat.two_pow_pos _
theorem xX{ops:Array Oper}{rest:List Oper}{o:Oper}{a:Act}{w:World}{Q:Exit->Act->World->Prop}{t e:TypeId}(hg:o.guard=none)(m x u:Operand)(hop:o.op=Op.mapUpdate t m x u)
  (b n:Nat) (M:Nat->Nat->Option Value) (L X:Nat) (v:Value) (ht:prog.underlying t=some (.map 83 e)) (hm:a.eval m=.map (some b)) (hx:a.eval x=cv L X) (hu:a.eval u=v) (h:CM w b n M) (hn:n<maxLen) (hL:L<=64) (hX:X<18446744073709551616)
  (hK:∀w',CM w' b (n+1) (cup M L X v)->aw b w w'->wpList prog ops Q rest (a.put o.dst undef) w'):wpList prog ops Q (o::rest) a w:=by
 refine wpList_plain hg fun K' hK'=>?_;obtain⟨w',hrun,r1,r2⟩:=h.store ht hn hL hX v;unfold Oper.wp;simp[execOp,hop,hm,hx,hu,hrun,Result.andThen];exact hK' _ _ (hK w' r1 r2)
theorem sJ{l:List (Nat×Nat)}{k n:Int}{av:List RA}{i:Nat}(hs:l.Pairwise Sh.ltc)(hn:ax n)(hc:∀j,j<i->fq l k n av j=true){L x:Nat}(hj:0<L->Sh.ixo (L-1,x/2) l<i):ax (Sh.szN l (bF av) (bM av) n L x)/\(0<L->0<=Sh.szN l (bF av) (bM av) n L x/\Sh.szN l (bF av) (bM av) n L x<=1048576):=by
 unfold Sh.szN;by_cases h0:L=0
 .rw[if_pos h0];exact⟨hn,by omega⟩
 .rw[if_neg h0];have:=hc _ (hj (by omega));unfold fq at this;rw[Bool.and_eq_true]at this;have:=tK av _ this.1;unfold ax;split<;>omega
theorem yP(n:Int)(cs bs:Value)(gn c b off i L x:Nat)(l:List (Nat×Nat))(av:List RA)(w:World)(hcs:cs.oneCell'=true)(hbs:bs.oneCell'=true)(h:CM w gn c (bz l b off av i))(hL2:L<=64)(hx:x<18446744073709551616)(hj:0<L->Sh.ixo (L-1,x/2) l<i):
  Qq 98 #[.agg #[.int .i64 n,cs,bs,.map (some gn)],.agg #[.int .i64 (L:Int),.int .u64 (x:Int)]] w (.int .i64 (Sh.szN l (bF av) (bM av) n L x)):=by
 unfold Sh.szN;by_cases h0:L=0
 .subst h0;rw[if_pos rfl];exact yQ n cs bs _ x hcs hbs rfl w
 .rw[if_neg h0];exact sU n cs bs _ _ _ gn c L x _ w hcs hbs h (by omega) hL2 hx (by unfold bz;rw[if_pos (hj (by omega))];rfl) rfl
theorem xk{l:List (Nat×Nat)}{k n:Int}{av:List RA}{i L x:Nat}(h:l[i]?=some (L,x)):fq l k n av i=(aJ (av.getD i cy)&&(decide ((av.getD i cy).K=k)&&decide (bF av i=Sh.szN l (bF av) (bM av) n L x))):=by
 unfold fq;rw[show l.getD i (0,0)=(L,x)from by rw[List.getD_eq_getElem?_getD,h];rfl]
theorem pG{k n:Int}{l:List Int}{av:List RA}{i:Nat}(hi:i<av.length)(h:fq (Sh.nds (ay l) (cod (ay l))) k n av i=false):bn k n l av=false:=by
 unfold bn
 rw[show(List.range av.length).all (fq (Sh.nds (ay l) (cod (ay l))) k n av)=false from by
  rw[List.all_eq_false]
  exact⟨i,List.mem_range.2 hi,by rw[h];decide⟩]
 simp
theorem tt{k n:Int}{l:List Int}{av:List RA}(h0:fd l=true)(h1:(Sh.nds (ay l) (cod (ay l))).length=av.length)(h2:n<=8192)(h3:1<=k/\k<=3)(h:∀i,i<av.length->fq (Sh.nds (ay l) (cod (ay l))) k n av i=true):bn k n l av=decide (gZ (ay l) (szC (ay l) n av) n=l):=by
 unfold bn;rw[h0,decide_eq_true h1,decide_eq_true h2,decide_eq_true h3,show(List.range av.length).all (fq (Sh.nds (ay l) (cod (ay l))) k n av)=true from List.all_eq_true.2 fun i hi=>h i (List.mem_range.1 hi)]
 simp
theorem yA{k n:Int}{v:Nat->Nat}{av:List RA}{b off:Nat}(hk:∀c,cod v c<2^v c)(hv:∀c,v c<=40)(h256:∀c,256<=c->v c=0)(hn:ax n)(hn2:n<=8192)(h1:(Sh.nds v (cod v)).length=av.length)(h:∀i,i<av.length->fq (Sh.nds v (cod v)) k n av i=true):
  (∀c,szC v n av c<=1048576)/\∀q,q<256->0<v q->∃p off' on,(bz (Sh.nds v (cod v)) b off av av.length (v q-1) (cod v q/2)).getD mR=.agg #[p,.int .i64 off',.int .i64 on]/\p.oneCell'=true/\(if cod v q%2=1 then on else off')=(szC v n av q:Int):=by
 have key:∀c,0<v c->c<256/\Sh.ixo (v c-1,cod v c/2) (Sh.nds v (cod v))<av.length:=fun c hc=>by
  have c2:c<256:=by
   by_cases g:c<256
   .exact g
   .have:=h256 c (by omega);omega
  have:=Sh.ixo_lt (Sh.leaf_up v (cod v) hk hv c2 hc);exact⟨c2,by omega⟩
 have sz:=fun c=>sJ (i:=av.length) (L:=v c) (x:=cod v c) (Sh.sorted_nds v (cod v)) hn h (fun hc=>(key c hc).2);refine⟨fun c=>?_,fun q hq h0=>?_⟩
 .unfold szC;by_cases h0:0<v c
  .have:=(sz c).2 h0;omega
  .unfold Sh.szN;rw[if_pos (by omega)];omega
 .refine⟨_,_,_,by unfold bz;rw[if_pos (key q h0).2];rfl,rfl,?_⟩;have:=(sz q).2 h0;unfold szC;rw[Int.toNat_of_nonneg this.1];unfold Sh.szN;rw[if_neg (show ¬v q=0 by omega)]
theorem sV{T:TypeId}{w:World}{x:Operand}{ρ:Operand->Value}{d:Option Tmp}{ty:TypeId}{ps:String}{af:Array Edge}{gd:Option (Nat×Bool)}
  (g o:Nat) (cs:List Value) {fs:Array Field} (hx:ρ x=.pointer (some ⟨g,o,none⟩)) (hc:w.rangeAt g o cs) (hu:prog.underlying T=some (.struct fs)) (hi:(prog.info? T).map (·.size)=some cs.length):
  (execOp ρ (⟨d,.load T x,ty,ps,af,gd⟩:Oper)).run prog w=.ok (.value (.agg cs.toArray)) w:=by
 have hl:=run_loadVar_mid (P:=prog) w g o T cs _ hc hu rfl hi;unfold execOp;simp only[hx,Instr.loadAt,Instr.sureAddr,Sem.run_bind,Sem.run_pure,Result.andThen_ok,hl]
theorem FV{ok:Bool}{N i:Int}(h:grE ok N i=0):ok=true/\0<=i/\i<=N:=by
 unfold grE at h;cases ok with
 | false=>simp at h
 | true=>
  simp only[if_true]at h;by_cases g:i<0\/N<i
  .rw[if_pos g]at h;omega
  .exact⟨rfl,by omega,by omega⟩
theorem qI{ok:Bool}{N i:Int}(h:ok=true)(h0:0<=i)(h1:i<=N):grE ok N i=0:=by
 unfold grE;rw[h,if_pos rfl,if_neg (by omega)]
theorem DM{l:List Int}(h:fd l=true):∀c,256<=c->ay l c=0:=fun c hc=>by
 unfold fd at h;rw[Bool.and_eq_true]at h;have:=(jE h.1).1;unfold ay gi;rw[List.getD_eq_getElem?_getD,List.getElem?_eq_none (by omega)];rfl
theorem A4{av:List RA}{i:Nat}{A:RA}{O sz:Int}(hA:A=av.getD i cy)(ok:aJ A=true)(hN:kBN A=sz)(hO:O=grN (aJ A) (kBN A) (aQ A) true sz):O=bM av i/\sz=bF av i:=by
 have hc:=bp _ _ (kK _ ok);have e:grE (aJ A) (kBN A) sz=0:=qI ok (by omega) (by omega);unfold bM bF;rw[<-hA,hO,grN,if_pos e,hN];exact⟨rfl,rfl⟩
structure OP (n:Int) (l:List Int) (no:Option Addr) (av:List RA) (sv:Value) (w:World):Prop where
 ex:∃gc bo bc gn c b off,sv=.agg #[.int .i64 n,.slice (some ⟨gc,0,none⟩) 256 256,.slice bo (Sh.nds (ay l) (cod (ay l))).length bc,.map (some gn)]/\aa w gc (cC (ay l)) 83/\Cs w bo (Sh.nds (ay l) (cod (ay l)))/\CM w gn c (bz (Sh.nds (ay l) (cod (ay l))) b off av (Sh.nds (ay l) (cod (ay l))).length)/\(0<av.length->no=some ⟨b,off,none⟩)
theorem dq:(prog.info? 94).map (·.size)=some 4:=by kernel_rfl
theorem vF:(prog.info? 27).map (·.size)=some 4:=by kernel_rfl
def RQ{α:Type}(F:α->World->Prop)(u:Act->α->Act)(a:Act):Exit->Act->World->Prop
 | .normal,a',w'=>∃g,a'=u a g/\F g w'
 | _,_,_=>False
theorem tG{α:Type}(ns:List Nat)(S:World->Prop)(F:α->World->Prop)(u:Act->α->Act){P:Program}{id:Nat}{ops:Array Oper}{a:Act}{w:World}{Q:Exit->Act->World->Prop}(hm:P.follows .mixedOrders=true)
  (h:aq P .any ops (RQ F u a) S ns ops.size (Array.replicate ops.size false) a w.drew) (hf:∀g V,F g V->Q .normal (u a g) V):(Code.region id ops true).wp P Q a w:=by
 refine Code.wp_mono ?_ (aB ns S hm h);intro e a' w' he;cases e with
 | normal=>
  obtain⟨g,rfl,hF⟩:=he;exact hf g w' hF
 | _=>exact he.elim
structure EX (w:World) (gc gn LEN:Nat) (v:Nat->Nat) (bo:Option Addr) (NL:List (Nat×Nat)) (M:Nat->Nat->Option Value) (sh:List Value) (V:World):Prop where
 s:aa V (w.heap.size+1) sh 94
 c:aa V gc (cC v) 83
 t:Cs V bo NL
 m:CM V gn LEN M
 b:Below w.heap.size w V
theorem EX.keep{w:World}{gc gn LEN:Nat}{v:Nat->Nat}{bo:Option Addr}{NL:List (Nat×Nat)}{M:Nat->Nat->Option Value}{sh:List Value}{V V':World}(h:EX w gc gn LEN v bo NL M sh V)(hb:Below V.heap.size V V'):EX w gc gn LEN v bo NL M sh V':=
 ⟨h.s.kept hb,h.c.kept hb,h.t.keep hb,h.m.kept hb,h.b.trans (hb.mono h.b.size)⟩
theorem EX.only{w:World}{gc gn LEN:Nat}{v:Nat->Nat}{bo:Option Addr}{NL:List (Nat×Nat)}{M:Nat->Nat->Option Value}{sh sh':List Value}{V V':World}(h:EX w gc gn LEN v bo NL M sh V)(hO:aw (w.heap.size+1) V V')(hs:aa V' (w.heap.size+1) sh' 94)(h1:gc≠w.heap.size+1)(h2:gn≠w.heap.size+1)(hf:Fr (w.heap.size+2) bo):EX w gc gn LEN v bo NL M sh' V':=by
 refine⟨hs,hO.cel h.c h1,fun h0=>?_,h.m.only hO h2,h.b.trans (hO.below (by omega))⟩;obtain⟨bb,rfl,e2,e3⟩:=h.t h0;have hne:bb≠w.heap.size+1:=by have:=hf _ rfl;dsimp only at this;omega
 refine⟨bb,rfl,by rw[hO.size];exact e2,fun i p hp=>?_⟩
 have hc:∀j,V'.cell? ⟨bb,j,none⟩=V.cell? ⟨bb,j,none⟩:=fun j=>by
  unfold World.cell?;rw[show V'.heap[({ block:=bb,off:=j,spot:=none }:Addr).block]?=_ from hO.block bb hne]
 rw[hc,hc];exact e3 i p hp
def S4(sv:Value):Prop:=∃a b c d,sv=.agg #[a,b,c,d]/\a.oneCell'=true/\b.oneCell'=true/\c.oneCell'=true/\d.oneCell'=true
theorem pB(k n:Int)(lo:Option Addr)(l:List Int)(lc:Nat)(no:Option Addr)(av:List RA)(nc:Nat)(w:World)(hk:ax k)(hn:ax n)(hx:Nd w lo l)(hl:l.length<=1048576)(hv:Lv w no av)(ha:av.length<=1048576)(G:GV w):
  Calls prog 43 #[.agg #[.int .i64 k,.int .i64 n,.slice lo l.length lc,.slice no av.length nc]] w fun e w'=>∃sv,e=.returned (.tuple #[sv,.bool (bn k n l av)])/\S4 sv/\(bn k n l av=true->OP n l no av sv w')/\Below w.heap.size w w':=by
 obtain⟨W,hW⟩:∃W,W=(w.alloc (.cells #[.int .i64 k,.int .i64 n,.slice lo l.length lc,.slice no av.length nc] 27)).alloc (.cells #[.int .i64 0,.slice none 0 0,.slice none 0 0,.map none] 94):=⟨_,rfl⟩
 have bW:=cW hW;have zW:W.heap.size=w.heap.size+2:=by rw[hW];simp
 have B1:=eV hW;have B2:=dF hW;have hHX:=ac hx;have HVv:=ac hv;have HG:=ac G;have HS:Hid (∀b,bn k n l av=b->bn k n l av=b):=fun _ h=>h;clear hx hv G HS;cases hlk:fd l with
 | false=>
  have hs:Hid (bn k n l av=false):=by show bn k n l av=false;unfold bn;rw[hlk];rfl
  have C1:=ac (Ff lo l lc W (hHX.out.keep bW) hl hlk);have HBW:=ac bW;clear bW;go_enter func43,ntmps43;go_wp2_with fail;rw[<-hW];refine C1.out.mono ?_;rintro e w1 ⟨rfl,hb⟩
  have B11:=ac (B1.kept hb);have B21:=ac (B2.kept hb);have HB1:=ac (bg HBW.out hb);clear hW hb C1 B1 B2 HBW;go_wp2_with fail;refine mr (Al w1) fun w2 hb=>?_
  have B22:=B21.out.kept hb;have HB2:=ac (bg HB1.out hb);clear hb B21 B11 HB1
  go_wp2_with (refine aP (w.heap.size+1) _ [.int .i64 0,.slice none 0 0,.slice none 0 0,.map none] rfl rfl B22 rfl dq (by simp[Value.oneCell']) ?_);intro w9 C9 hO9
  have HB9:=ac (HB2.out.trans (hO9.below (by omega)));have HC9:=ac C9;clear C9 hO9;go_wp2
  exact bodyPost_ret (bJ rfl (w.heap.size+1) [.int .i64 0,.slice none 0 0,.slice none 0 0,.map none] rfl HC9.out underlying94 dq) rfl ⟨_,by rw[hs.out];rfl,⟨_,_,_,_,rfl,rfl,rfl,rfl,rfl⟩,fun h=>absurd (h.symm.trans hs.out) (by decide),HB9.out⟩
 | true=>
  obtain⟨v40,cdl⟩:=DK hlk;have HV40:=ac v40;have HCD:=ac cdl;have C1:=ac (vy lo l lc W (hHX.out.keep bW) hl hlk);have HLK:=ac hlk;have HBW:=ac bW;clear bW v40 cdl hlk
  go_enter func43,ntmps43;go_wp2_with fail;rw[<-hW];refine C1.out.mono ?_;rintro e w1 ⟨gc,rfl,hgc,hgl,hb⟩;have B11:=ac (B1.kept hb);have B21:=ac (B2.kept hb)
  have HB1:=ac (bg HBW.out hb);have z1:=hb.size;clear hW hb C1 B1 B2 HBW;go_wp2_with fail;refine(tq gc (ay l) w1 hgc HV40.out HCD.out).mono ?_;rintro e w2 ⟨bo,bc,rfl,hcs,hb,hfr⟩
  have HFR:=ac hfr;have B12:=ac (B11.out.kept hb);have B22:=ac (B21.out.kept hb);have HB2:=ac (bg HB1.out hb);have HGC:=ac (hgc.kept hb);have HCS:=ac hcs;have z2:=hb.size
  have c0:=B12.out.cell 0 rfl;have c1:=B12.out.cell 1 rfl;have c3:=B12.out.cell 3 rfl;obtain⟨NL,hNL⟩:∃NL,Hid (NL=(Sh.nds (ay l) (cod (ay l)))):=⟨_,rfl⟩;rw[<-hNL.out]at HCS;rw[<-hNL.out]
  clear hb B11 B21 HB1 hgc hcs hfr;by_cases h1:NL.length=av.length
  .have h1f:((NL.length:Int) != (av.length:Int))=false:=by simp;omega
   by_cases h2:n<=8192
   .have h2f:¬(n>8192):=by omega
    have CK:=ac (fun w0 hb=>ta k hk w0 (HG.out.kept hb));go_wp2_with fail;refine mr (CK.out _ HB2.out) fun w3 hb=>?_;have B13:=ac (B12.out.kept hb);have B23:=ac (B22.out.kept hb)
    have HB3:=ac (bg HB2.out hb);have HGC3:=ac (HGC.out.kept hb);have HCS3:=ac (HCS.out.keep hb);have z3:=hb.size;clear hb B12 B22 HB2 HGC HCS c0 c1 c3 CK h1f;by_cases h3:1<=k/\k<=3
    .rw[decide_eq_true h3];go_wp2
     have hmh:∀w0,(Instr.makeMap 92 (some (.int .i64 (av.length:Int)))).run prog w0=.ok (.map (some w0.heap.size)) (w0.alloc (.map #[] 0)):=fun w0=>Ay underlying92 av.length w0
     have HMH:=ac hmh;clear hmh
     refine tG [9] (fun w'=>aa w' w.heap.size [.int .i64 k,.int .i64 n,.slice lo l.length lc,.slice no av.length nc] 27) (fun(g:Nat×Nat) V=>aa V g.1 [.int .i64 n,.slice (some ⟨gc,0,none⟩) 256 256,.slice bo av.length bc,.map (some g.2)] 94/\CM V g.2 0 (fun _ _=>none)/\Below w3.heap.size w3 V/\w3.heap.size<=g.1/\w3.heap.size<=g.2/\g.1≠g.2) (fun a g=>{ a with tmps:=((((((((a.tmps.setIfInBounds 44 (.pointer (some ⟨w.heap.size,1,none⟩))).setIfInBounds 45 (.int .i64 n)).setIfInBounds 46 (.slice (some ⟨gc,0,none⟩) 256 256)).setIfInBounds 47 (.slice bo av.length bc)).setIfInBounds 48 (.slice bo av.length bc)).setIfInBounds 49 (.int .i64 (av.length:Int))).setIfInBounds 50 (.map (some g.2))).setIfInBounds 51 (.agg #[.int .i64 n,.slice (some ⟨gc,0,none⟩) 256 256,.slice bo av.length bc,.map (some g.2)])).setIfInBounds 7 (.pointer (some ⟨g.1,0,none⟩)) }) (by kernel_rfl) ?reg ?fin
     case reg=>
      have hS:aa w3.drew w.heap.size [.int .i64 k,.int .i64 n,.slice lo l.length lc,.slice no av.length nc] 27:=B13.out;have hY:Below w3.heap.size w3 w3.drew:=(Below.refl _ _).drew
      have zY:w3.heap.size<=w3.drew.heap.size:=Nat.le_refl _;generalize w3.drew=Y at *;refine aF 0 hS rfl (fun w0 h0=>by have d1:=h0.cell 1 rfl;go_simp;try with_reducible rfl) ?_
      refine aF 1 hS rfl (fun w0 h0=>by have d1:=h0.cell 1 rfl;go_simp;try with_reducible rfl) ?_;refine aF 2 hS rfl (fun w0 h0=>by have d1:=h0.cell 1 rfl;go_simp;try with_reducible rfl) ?_
      refine aF 3 hS rfl (fun w0 h0=>by have d1:=h0.cell 1 rfl;go_simp;try with_reducible rfl) ?_;refine aF 4 hS rfl (fun w0 h0=>by have d1:=h0.cell 1 rfl;go_simp;try with_reducible rfl) ?_
      refine aF 5 hS rfl (fun w0 h0=>by have d1:=h0.cell 1 rfl;go_simp;try with_reducible rfl) ?_;refine aq.two 6 8 (by kernel_rfl) rfl rfl ?_ ?_
      .intro K hK;have hmh:=HMH.out;go_simp;clear hmh;have hA:=below_alloc Y (.map #[] 0);have HMn:=CM.made Y;replace hS:=hS.kept hA;have hY2:=hY.trans (hA.mono (by omega))
       obtain⟨gn,hgn⟩:∃gn,Hid (gn=Y.heap.size):=⟨_,rfl⟩;rw[<-hgn.out]at HMn⊢;have z6:Y.heap.size<(Y.alloc (.map #[] 0)).heap.size:=by simp
       generalize Y.alloc (.map #[] 0)=Y2 at *;clear hA hY;refine hK.out _ _ (fun _=>hS) ?_;clear hK K;try simp only[Act.put,ak,aj,ai,ae,ah,ag]
       refine aF 7 hS rfl (fun w0 h0=>by have d1:=h0.cell 1 rfl;go_simp;try with_reducible rfl) ?_;refine aO 8 ?_;intro K hK;go_simp
       have hA:=below_alloc Y2 (.cells #[.int .i64 0,.slice none 0 0,.slice none 0 0,.map none] 94);have B8:=aa.new Y2 [.int .i64 0,.slice none 0 0,.slice none 0 0,.map none] 94;replace hS:=hS.kept hA
       replace HMn:=HMn.kept hA;have hY3:=hY2.trans (hA.mono (by omega));obtain⟨gs,hgs⟩:∃gs,Hid (gs=Y2.heap.size):=⟨_,rfl⟩;have hne:gs≠gn:=by have:=hgs.out;have:=hgn.out;omega
       have gsl:w3.heap.size<=gs:=by have:=hgs.out;omega
       have gnl:w3.heap.size<=gn:=by have:=hgn.out;omega
       rw[<-hgs.out]at B8⊢;generalize Y2.alloc (.cells #[.int .i64 0,.slice none 0 0,.slice none 0 0,.map none] 94)=Y3 at *;clear hA hY2;refine hK.out _ _ (fun _=>hS) ?_;clear hK K
       try simp only[Act.put,ak,aj,ai,ae,ah,ag]
       refine aO 9 ?_;intro K hK;refine kf gs _ [.int .i64 n,.slice (some ⟨gc,0,none⟩) 256 256,.slice bo av.length bc,.map (some gn)] rfl rfl B8 rfl dq (by simp[Value.oneCell']) ?_;intro V BV hOV
       refine hK.out _ _ (fun h=>absurd (by decide) h) ?_;clear hK K;try simp only[Act.put,ak,aj,ai,ae,ah,ag]
       refine aq.done (by kernel_rfl) ?_ _;refine⟨(gs,gn),?_,BV,HMn.only hOV (fun e=>hne e.symm),hY3.trans (hOV.below (by omega)),by omega,by omega,hne⟩
       simp only[List.setIfInBounds_toArray,List.set_cons_zero,List.set_cons_succ]
      .intro K hK;go_simp;have hA:=below_alloc Y (.cells #[.int .i64 0,.slice none 0 0,.slice none 0 0,.map none] 94);have B8:=aa.new Y [.int .i64 0,.slice none 0 0,.slice none 0 0,.map none] 94
       replace hS:=hS.kept hA;have hY2:=hY.trans (hA.mono (by omega));obtain⟨gs,hgs⟩:∃gs,Hid (gs=Y.heap.size):=⟨_,rfl⟩;rw[<-hgs.out]at B8⊢
       have z6:Y.heap.size<(Y.alloc (.cells #[.int .i64 0,.slice none 0 0,.slice none 0 0,.map none] 94)).heap.size:=by simp
       generalize Y.alloc (.cells #[.int .i64 0,.slice none 0 0,.slice none 0 0,.map none] 94)=Y2 at *;clear hA hY;refine hK.out _ _ (fun _=>hS) ?_;clear hK K;try simp only[Act.put,ak,aj,ai,ae,ah,ag]
       refine aO 6 ?_;intro K hK;have hmh:=HMH.out;go_simp;clear hmh;have hA:=below_alloc Y2 (.map #[] 0);have HMn:=CM.made Y2;replace hS:=hS.kept hA;replace B8:=B8.kept hA
       have hY3:=hY2.trans (hA.mono (by omega));obtain⟨gn,hgn⟩:∃gn,Hid (gn=Y2.heap.size):=⟨_,rfl⟩;have hne:gs≠gn:=by have:=hgs.out;have:=hgn.out;omega
       have gsl:w3.heap.size<=gs:=by have:=hgs.out;omega
       have gnl:w3.heap.size<=gn:=by have:=hgn.out;omega
       rw[<-hgn.out]at HMn⊢;generalize Y2.alloc (.map #[] 0)=Y3 at *;clear hA hY2;refine hK.out _ _ (fun _=>hS) ?_;clear hK K;try simp only[Act.put,ak,aj,ai,ae,ah,ag]
       refine aF 7 hS rfl (fun w0 h0=>by have d1:=h0.cell 1 rfl;go_simp;try with_reducible rfl) ?_;refine aO 9 ?_;intro K hK
       refine kf gs _ [.int .i64 n,.slice (some ⟨gc,0,none⟩) 256 256,.slice bo av.length bc,.map (some gn)] rfl rfl B8 rfl dq (by simp[Value.oneCell']) ?_;intro V BV hOV
       refine hK.out _ _ (fun h=>absurd (by decide) h) ?_;clear hK K;try simp only[Act.put,ak,aj,ai,ae,ah,ag]
       refine aq.done (by kernel_rfl) ?_ _;refine⟨(gs,gn),?_,BV,HMn.only hOV (fun e=>hne e.symm),hY3.trans (hOV.below (by omega)),by omega,by omega,hne⟩
       simp only[List.setIfInBounds_toArray,List.set_cons_zero,List.set_cons_succ]
     case fin=>
      rintro⟨gs,gn⟩ V ⟨BS,HMV,b3V,gsl,gnl,hne⟩;dsimp only at BS HMV gsl gnl hne;have BSh:=ac BS;have HMh:=ac HMV;have B1V:=ac (B13.out.kept b3V);have B2V:=ac (B23.out.kept b3V)
      have HGV:=ac (HGC3.out.kept b3V);have HCV:=ac (HCS3.out.keep b3V);have HBV:=ac (bg HB3.out b3V);have zV:=b3V.size;have HBV3:=ac b3V;clear BS HMV b3V HMH B1V B2V HGV HCV HBV
      simp only[List.setIfInBounds_toArray,List.set_cons_zero,List.set_cons_succ];go_wp2
      obtain⟨b,off,hbo⟩:∃b off,Hid (0<av.length->no=some ⟨b,off,none⟩/\b<w.heap.size/\∀j,j<av.length->∃cs,w.rangeAt b (off+j*22) cs/\KI w cs (av.getD j cy)):=by
       by_cases h0:0<av.length
       .obtain⟨b,off,e1,e2,e3⟩:=HVv.out h0;exact⟨b,off,fun _=>⟨e1,e2,e3⟩⟩
       .exact⟨0,0,fun h=>absurd h h0⟩
      have HM0:Hid (CM V gn 0 (bz NL b off av 0)):=by
       have e:bz NL b off av 0=fun _ _=>none:=by
        funext L x;unfold bz;rw[if_neg (by omega)]
       show CM V gn 0 (bz NL b off av 0);rw[e];exact HMh.out
      have HNS:Hid (NL.Pairwise Sh.ltc):=by rw[hNL.out];exact Sh.sorted_nds _ _
      have HNN:Hid (NL.Nodup):=by rw[hNL.out];exact Sh.nodup_nds _ _
      have H1:=ac h1;clear h1 HVv
      go_loopw [54] (fun vi wr=>∃i:Nat,i<=av.length/\vi=.int .i64 i/\Hid (CM wr gn i (bz NL b off av i))/\Hid (∀j,j<i->fq NL k n av j=true)/\Hid (aa wr gs [.int .i64 n,.slice (some ⟨gc,0,none⟩) 256 256,.slice bo av.length bc,.map (some gn)] 94)/\Hid (Below w3.heap.size w3 wr)) (fun vi _=>av.length-(intOf vi).toNat)
      case atStart=>exact⟨0,Nat.zero_le _,rfl,HM0,fun j hj=>absurd hj (Nat.not_lt_zero j),BSh,HBV3⟩
      case round=>
       clear HM0 BSh HBV3 HMh zV;obtain⟨i,hi,rfl,HM,HC,BS,HB⟩:=hrel;have swr:=HB.out.size;by_cases hlt:i<av.length
       .have hltz:(i:Int)<(av.length:Int):=by omega
        obtain⟨⟨L,x⟩,hnode⟩:∃p,NL[i]?=some p:=⟨_,List.getElem?_eq_getElem (by have:=H1.out;omega)⟩;obtain⟨bb,rfl,hbl,hcc⟩:=(HCS3.out.keep HB.out) (by have:=H1.out;omega)
        obtain⟨e1,e2⟩:=hcc i _ hnode;dsimp only at e1 e2;have hmem:(L,x)∈(Sh.nds (ay l) (cod (ay l))):=by rw[<-hNL.out];exact List.mem_of_getElem? hnode
        have sm:=Sh.node_small _ _ HCD.out HV40.out hmem;obtain⟨sm1,sm2⟩:=sm
        have hj:Hid (0<L->Sh.ixo (L-1,x/2) NL<i):=fun h0=>Sh.ixo_before HNS.out hnode (by rw[hNL.out];exact Sh.node_up _ _ HCD.out hmem h0) (.inl (by show L-1<L;omega))
        obtain⟨rfl,hbw,hrows⟩:=hbo.out (by omega);obtain⟨cs,hrg,hki⟩:=hrows i hlt;have bwr:Below w.heap.size w wr:=bg HB3.out HB.out;have HRG:=ac (range_keep hrg bwr hbw)
        have HKI:=ac (hki.keep bwr);have hbr:b<wr.heap.size:=Nat.lt_of_lt_of_le hbw bwr.size;have HBW:=ac bwr;obtain⟨sz,hsz⟩:∃sz,Hid (sz=Sh.szN NL (bF av) (bM av) n L x):=⟨_,rfl⟩
        have hszI:Hid (ax sz):=by rw[hsz.out];exact(sJ HNS.out hn HC.out hj.out).1
        have CSz:Hid (∀w0,CM w0 gn i (bz NL b off av i)->Qq 98 #[.agg #[.int .i64 n,.slice (some ⟨gc,0,none⟩) 256 256,.slice (some ⟨bb,0,none⟩) av.length bc,.map (some gn)],.agg #[.int .i64 (L:Nat),.int .u64 (x:Nat)]] w0 (.int .i64 sz)):=fun w0 h0=>by
         rw[hsz.out];exact yP n _ _ gn i b off i L x NL av w0 rfl rfl h0 (by omega) sm2 hj.out
        have HCK:=ac (xk (k:=k) (n:=n) (av:=av) hnode);have HND:=ac hnode;clear hnode hcc hmem hrows hrg hki bwr
        obtain⟨W2,hW2⟩:∃W2,W2=wr.alloc (.cells #[.int .i64 (L:Nat),.int .u64 (x:Nat)] 83):=⟨_,rfl⟩;have hA:Below wr.heap.size wr W2:=by rw[hW2];exact below_alloc wr _
        have B9:=ac (show aa W2 wr.heap.size [.int .i64 (L:Nat),.int .u64 (x:Nat)] 83 by rw[hW2];exact aa.new wr _ _);have BS2:=ac (BS.out.kept hA);have HM2:=ac (HM.out.kept hA)
        have HB2:=ac (HB.out.trans (hA.mono swr));have HRG2:=ac (range_keep HRG.out hA hbr);have HKI2:=ac (HKI.out.keep hA);have z2:=hA.size;clear hA HRG HKI BS HM;go_wp2;rw[<-hW2];clear e1 e2 hW2
        refine aB [] (fun w'=>aa w' w.heap.size [.int .i64 k,.int .i64 n,.slice lo l.length lc,.slice (some ⟨b,off,none⟩) av.length nc] 27/\aa w' gs [.int .i64 n,.slice (some ⟨gc,0,none⟩) 256 256,.slice (some ⟨bb,0,none⟩) av.length bc,.map (some gn)] 94/\aa w' wr.heap.size [.int .i64 (L:Nat),.int .u64 (x:Nat)] 83) (by kernel_rfl) ?_
        have hS:aa W2.drew w.heap.size [.int .i64 k,.int .i64 n,.slice lo l.length lc,.slice (some ⟨b,off,none⟩) av.length nc] 27/\aa W2.drew gs [.int .i64 n,.slice (some ⟨gc,0,none⟩) 256 256,.slice (some ⟨bb,0,none⟩) av.length bc,.map (some gn)] 94/\aa W2.drew wr.heap.size [.int .i64 (L:Nat),.int .u64 (x:Nat)] 83:=⟨B13.out.kept HB2.out.drew,BS2.out,B9.out⟩
        have HM3:Hid (CM W2.drew gn i (bz NL b off av i)):=HM2.out.kept ((Below.refl _ _).drew);have HB3':Hid (Below w3.heap.size w3 W2.drew):=HB2.out.drew
        have HRG3:Hid (W2.drew.rangeAt b (off+i*22) cs):=HRG2.out;have HKI3:Hid (KI W2.drew cs (av.getD i cy)):=HKI2.out.keep ((Below.refl _ _).drew);have z3':wr.heap.size<W2.drew.heap.size:=hS.2.2.lt
        have hbY:b<W2.drew.heap.size:=by omega
        generalize W2.drew=Y at *;clear B9 BS2 HM2 HB2 HRG2 HKI2 z2
        refine aF 0 hS rfl (fun w0 h0=>by have c1:=h0.1.cell 3 rfl;have d0:=h0.2.1.cell 0 rfl;have d1:=h0.2.1.cell 1 rfl;have d2:=h0.2.1.cell 2 rfl;have d3:=h0.2.1.cell 3 rfl;have f0:=h0.2.2.cell 0 rfl;have f1:=h0.2.2.cell 1 rfl;go_simp;try with_reducible rfl) ?_
        refine aF 1 hS rfl (fun w0 h0=>by have c1:=h0.1.cell 3 rfl;have d0:=h0.2.1.cell 0 rfl;have d1:=h0.2.1.cell 1 rfl;have d2:=h0.2.1.cell 2 rfl;have d3:=h0.2.1.cell 3 rfl;have f0:=h0.2.2.cell 0 rfl;have f1:=h0.2.2.cell 1 rfl;go_simp;try with_reducible rfl) ?_
        refine aF 2 hS rfl (fun w0 h0=>by have c1:=h0.1.cell 3 rfl;have d0:=h0.2.1.cell 0 rfl;have d1:=h0.2.1.cell 1 rfl;have d2:=h0.2.1.cell 2 rfl;have d3:=h0.2.1.cell 3 rfl;have f0:=h0.2.2.cell 0 rfl;have f1:=h0.2.2.cell 1 rfl;go_simp;try with_reducible rfl) ?_
        refine aF 3 hS rfl (fun w0 h0=>by have c1:=h0.1.cell 3 rfl;have d0:=h0.2.1.cell 0 rfl;have d1:=h0.2.1.cell 1 rfl;have d2:=h0.2.1.cell 2 rfl;have d3:=h0.2.1.cell 3 rfl;have f0:=h0.2.2.cell 0 rfl;have f1:=h0.2.2.cell 1 rfl;go_simp;try with_reducible rfl) ?_
        refine aF 4 hS rfl (fun w0 h0=>by have c1:=h0.1.cell 3 rfl;have d0:=h0.2.1.cell 0 rfl;have d1:=h0.2.1.cell 1 rfl;have d2:=h0.2.1.cell 2 rfl;have d3:=h0.2.1.cell 3 rfl;have f0:=h0.2.2.cell 0 rfl;have f1:=h0.2.2.cell 1 rfl;go_simp;try with_reducible rfl) ?_
        refine aF 5 hS rfl (fun w0 h0=>by have c1:=h0.1.cell 3 rfl;have d0:=h0.2.1.cell 0 rfl;have d1:=h0.2.1.cell 1 rfl;have d2:=h0.2.1.cell 2 rfl;have d3:=h0.2.1.cell 3 rfl;have f0:=h0.2.2.cell 0 rfl;have f1:=h0.2.2.cell 1 rfl;go_simp;try with_reducible rfl) ?_
        refine aO 6 ?_;intro K hK;go_simp;refine mr (CSz.out _ HM3.out) fun w6 hb=>?_;replace hS:=And.intro (hS.1.kept hb) (And.intro (hS.2.1.kept hb) (hS.2.2.kept hb));have HM6:=ac (HM3.out.kept hb)
        have HB6:=ac (bg HB3'.out hb);have HRG6:=ac (range_keep HRG3.out hb hbY);have HKI6:=ac (HKI3.out.keep hb);have z6:=hb.size;clear hb HM3 HB3' HRG3 HKI3 CSz
        refine hK.out _ _ (fun _=>hS) ?_;clear hK K;try simp only[Act.put,ak,aj,ai,ae,ah,ag]
        refine aF 7 hS rfl (fun w0 h0=>by have c1:=h0.1.cell 3 rfl;have d0:=h0.2.1.cell 0 rfl;have d1:=h0.2.1.cell 1 rfl;have d2:=h0.2.1.cell 2 rfl;have d3:=h0.2.1.cell 3 rfl;have f0:=h0.2.2.cell 0 rfl;have f1:=h0.2.2.cell 1 rfl;go_simp;try with_reducible rfl) ?_
        refine aF 8 hS rfl (fun w0 h0=>by have c1:=h0.1.cell 3 rfl;have d0:=h0.2.1.cell 0 rfl;have d1:=h0.2.1.cell 1 rfl;have d2:=h0.2.1.cell 2 rfl;have d3:=h0.2.1.cell 3 rfl;have f0:=h0.2.2.cell 0 rfl;have f1:=h0.2.2.cell 1 rfl;go_simp;try with_reducible rfl) ?_
        refine aq.done (by kernel_rfl) ?_ _;obtain⟨hS1,hS2,hS3⟩:=hS;have K1:=ac hS1;have K2:=ac hS2;have K3:=ac hS3;clear hS1 hS2 hS3
        go_wp2_with (refine aN b (off+i*22) cs (by rfl) rfl HRG6.out underlying44 HKI6.out.arg.len ?_);obtain⟨A,hA⟩:∃A,Hid (A=av.getD i cy):=⟨_,rfl⟩;rw[<-hA.out]at HKI6 HCK
        refine mr (pN cs A true sz w6 HKI6.out hszI.out) fun w7 hb=>?_;have K17:=ac (K1.out.kept hb);have K27:=ac (K2.out.kept hb);have K37:=ac (K3.out.kept hb)
        have HM7:=ac (HM6.out.kept hb);have HB7:=ac (bg HB6.out hb);have hb6:b<w6.heap.size:=by omega
        have HRG7:=ac (range_keep HRG6.out hb hb6);have HKI7:=ac (HKI6.out.keep hb);have z7:=hb.size;clear hb K1 K2 K3 HM6 HB6 HRG6 HKI6;obtain⟨E,hE⟩:∃E,Hid (E=grE (aJ A) (kBN A) sz):=⟨_,rfl⟩
        obtain⟨O,hO⟩:∃O,Hid (O=grN (aJ A) (kBN A) (aQ A) true sz):=⟨_,rfl⟩;rw[<-hE.out,<-hO.out];have hhead:=ac HKI7.out.arg.head;obtain⟨AK,hAK⟩:∃AK,Hid (AK=A.K):=⟨_,rfl⟩
        rw[<-hAK.out]at hhead
        have HIi:Hid (ax AK):=by
         rw[hAK.out];obtain⟨_,_,_,_,h,_⟩:=HKI7.out.arg;exact h
        go_wp2;by_cases hE0:E=0
        .subst hE0;have ok0:=FV hE.out.symm;obtain⟨ok1,ok2,ok3⟩:=ok0;have HOK:=ac ok1;have hE0n:((0:Int) != 0)=false:=rfl;have hcx:=bp _ _ (kK _ ok1)
         have kb:kBN A<=1048576:=by omega
         clear hcx ok1;by_cases hKk:AK=k
         .have hKn:(AK != k)=false:=by simp;exact hKk
          have HKk:=ac hKk;clear hKk
          have CL:Hid (∀w0,KI w0 cs A->Qq 99 #[.agg cs.toArray] w0 (.int .i64 (kBN A))):=fun w0 h0=>zy cs A w0 h0 HOK.out
          obtain⟨BN,hBN⟩:∃BN,Hid (BN=kBN A):=⟨_,rfl⟩;rw[<-hBN.out]at CL ok3 kb
          refine aB [] (fun w'=>aa w' w.heap.size [.int .i64 k,.int .i64 n,.slice lo l.length lc,.slice (some ⟨b,off,none⟩) av.length nc] 27/\w'.rangeAt b (off+i*22) cs) (by kernel_rfl) ?_
          have hS:aa w7.drew w.heap.size [.int .i64 k,.int .i64 n,.slice lo l.length lc,.slice (some ⟨b,off,none⟩) av.length nc] 27/\w7.drew.rangeAt b (off+i*22) cs:=⟨K17.out,HRG7.out⟩
          have HK7:Hid (KI w7.drew cs A):=HKI7.out.keep ((Below.refl _ _).drew);have HM8:Hid (CM w7.drew gn i (bz NL b off av i)):=HM7.out.kept ((Below.refl _ _).drew)
          have K28:Hid (aa w7.drew gs [.int .i64 n,.slice (some ⟨gc,0,none⟩) 256 256,.slice (some ⟨bb,0,none⟩) av.length bc,.map (some gn)] 94):=K27.out
          have K38:Hid (aa w7.drew wr.heap.size [.int .i64 (L:Nat),.int .u64 (x:Nat)] 83):=K37.out;have HB8:Hid (Below w3.heap.size w3 w7.drew):=HB7.out.drew
          have z8:w7.heap.size<=w7.drew.heap.size:=Nat.le_refl _;generalize w7.drew=Z at *;clear K17 K27 K37 HM7 HB7 HRG7 HKI7
          refine aF 0 hS rfl (fun w0 h0=>by have c0:=h0.1.cell 0 rfl;have e0:w0.cell? ⟨b,off+i*22,none⟩=some (.int .i64 AK):=h0.2 0 _ hhead.out;go_simp;try with_reducible rfl) ?_
          refine aF 1 hS rfl (fun w0 h0=>by have c0:=h0.1.cell 0 rfl;have e0:w0.cell? ⟨b,off+i*22,none⟩=some (.int .i64 AK):=h0.2 0 _ hhead.out;go_simp;try with_reducible rfl) ?_
          refine aF 2 hS rfl (fun w0 h0=>by have c0:=h0.1.cell 0 rfl;have e0:w0.cell? ⟨b,off+i*22,none⟩=some (.int .i64 AK):=h0.2 0 _ hhead.out;go_simp;try with_reducible rfl) ?_
          refine aF 3 hS rfl (fun w0 h0=>by have c0:=h0.1.cell 0 rfl;have e0:w0.cell? ⟨b,off+i*22,none⟩=some (.int .i64 AK):=h0.2 0 _ hhead.out;go_simp;try with_reducible rfl) ?_
          refine aF 4 hS rfl (fun w0 h0=>by have c0:=h0.1.cell 0 rfl;have e0:w0.cell? ⟨b,off+i*22,none⟩=some (.int .i64 AK):=h0.2 0 _ hhead.out;go_simp;try with_reducible rfl) ?_
          refine aF 5 hS rfl (fun w0 h0=>by have c0:=h0.1.cell 0 rfl;have e0:w0.cell? ⟨b,off+i*22,none⟩=some (.int .i64 AK):=h0.2 0 _ hhead.out;go_simp;try with_reducible rfl) ?_
          refine aF 6 hS rfl (fun w0 h0=>by have c0:=h0.1.cell 0 rfl;have e0:w0.cell? ⟨b,off+i*22,none⟩=some (.int .i64 AK):=h0.2 0 _ hhead.out;go_simp;try with_reducible rfl) ?_
          refine aF 7 hS rfl (fun w0 h0=>by have c0:=h0.1.cell 0 rfl;have e0:w0.cell? ⟨b,off+i*22,none⟩=some (.int .i64 AK):=h0.2 0 _ hhead.out;go_simp;try with_reducible rfl) ?_
          refine aF 8 hS rfl (fun w0 h0=>by have c0:=h0.1.cell 0 rfl;have e0:w0.cell? ⟨b,off+i*22,none⟩=some (.int .i64 AK):=h0.2 0 _ hhead.out;go_simp;try with_reducible rfl) ?_
          refine aF 9 hS rfl (fun w0 h0=>by have c0:=h0.1.cell 0 rfl;have e0:w0.cell? ⟨b,off+i*22,none⟩=some (.int .i64 AK):=h0.2 0 _ hhead.out;go_simp;try with_reducible rfl) ?_
          refine aF 10 hS rfl (fun w0 h0=>by have c0:=h0.1.cell 0 rfl;have e0:w0.cell? ⟨b,off+i*22,none⟩=some (.int .i64 AK):=h0.2 0 _ hhead.out;go_simp;try with_reducible rfl) ?_
          refine aF 11 hS rfl (fun w0 h0=>by have c0:=h0.1.cell 0 rfl;have e0:w0.cell? ⟨b,off+i*22,none⟩=some (.int .i64 AK):=h0.2 0 _ hhead.out;go_simp;try with_reducible rfl) ?_
          refine aF 12 hS rfl (fun w0 h0=>by have c0:=h0.1.cell 0 rfl;have e0:w0.cell? ⟨b,off+i*22,none⟩=some (.int .i64 AK):=h0.2 0 _ hhead.out;go_simp;try with_reducible rfl) ?_
          refine aF 13 hS rfl (fun w0 h0=>by have c0:=h0.1.cell 0 rfl;have e0:w0.cell? ⟨b,off+i*22,none⟩=some (.int .i64 AK):=h0.2 0 _ hhead.out;go_simp;try with_reducible rfl) ?_
          refine aq.take 14 (v:=.agg cs.toArray) rfl (by kernel_rfl) (by kernel_rfl) (by kernel_rfl) (by kernel_rfl) (fun _ _ _ h=>h) hS (fun w0 h0=>sV b (off+i*22) cs rfl h0.2 underlying44 HK7.out.arg.len) (by rfl) ?rest50
          simp only[Act.put,ak,aj,ai,ae,ah,ag]
          refine aF 16 hS rfl (fun w0 h0=>by have c0:=h0.1.cell 0 rfl;have e0:w0.cell? ⟨b,off+i*22,none⟩=some (.int .i64 AK):=h0.2 0 _ hhead.out;go_simp;try with_reducible rfl) ?_
          refine aO 15 ?_;intro K hK;go_simp;refine mr (CL.out _ HK7.out) fun w9 hb=>?_;have hbZ:b<Z.heap.size:=by omega
          replace hS:=And.intro (hS.1.kept hb) (range_keep hS.2 hb hbZ);have HM9:=ac (HM8.out.kept hb);have K29:=ac (K28.out.kept hb);have K39:=ac (K38.out.kept hb)
          have HB9':=ac (bg HB8.out hb);clear hb HM8 K28 K38 HB8 CL HK7;refine hK.out _ _ (fun _=>hS) ?_;clear hK K;try simp only[Act.put,ak,aj,ai,ae,ah,ag]
          refine aF 17 hS rfl (fun w0 h0=>by have c0:=h0.1.cell 0 rfl;have e0:w0.cell? ⟨b,off+i*22,none⟩=some (.int .i64 AK):=h0.2 0 _ hhead.out;go_simp;try with_reducible rfl) ?_
          refine aF 18 hS rfl (fun w0 h0=>by have c0:=h0.1.cell 0 rfl;have e0:w0.cell? ⟨b,off+i*22,none⟩=some (.int .i64 AK):=h0.2 0 _ hhead.out;go_simp;try with_reducible rfl) ?_
          refine aq.done (by kernel_rfl) ?_ _;clear hS;by_cases hN:BN=sz
          .have hNn:(BN != sz)=false:=by simp;exact hN
           have HOE:=ac (A4 hA.out HOK.out (hBN.out.symm.trans hN) hO.out);have HN:=ac hN;clear hN;have hOb:=tK av i (by rw[<-hA.out];exact HOK.out);rw[<-HOE.out.1,<-HOE.out.2]at hOb
           have ew:IntKind.i64.wrap (sz-O)=sz-O:=by rw[IntKind.wrap_i64];omega
           have vE:Hid ((Value.agg #[.pointer (some ⟨b,off+i*22,none⟩),.int .i64 (sz-O),.int .i64 O])=nH b off av i):=by
            unfold nH;rw[<-HOE.out.1,<-HOE.out.2];rfl
           have m3:=K29.out.cell 3 rfl;have p0:=K39.out.cell 0 rfl;have p1:=K39.out.cell 1 rfl
           go_wp2_with (refine xX (by rfl) _ _ _ (by rfl) gn i _ L x (.agg #[.pointer (some ⟨b,off+i*22,none⟩),.int .i64 (sz-O),.int .i64 O]) underlying92 (by rfl) (by rfl) (by rfl) HM9.out (by unfold maxLen;omega) (by omega) sm2 ?_)
           intro wA hCM hOA
           have HMA:Hid (CM wA gn (i+1) (bz NL b off av (i+1))):=by
            rw[vE.out,Da HNN.out HND.out]at hCM;exact hCM
           have BSA:=ac (hOA.cel K29.out hne);have HBA:=ac (HB9'.out.trans (hOA.below gnl))
           have HCA:Hid (∀j,j<i+1->fq NL k n av j=true):=fun j hj2=>by
            by_cases e:j<i
            .exact HC.out j e
            .obtain rfl:j=i:=by omega
             rw[HCK.out,HOK.out,<-hAK.out,decide_eq_true HKk.out,<-HOE.out.2,<-hsz.out];simp
           clear hCM hOA HM9 K29 K39 HB9' m3 p0 p1 hOb HCK HC;go_wp2;exact⟨⟨i+1,by omega,rfl,HMA,HCA,BSA,HBA⟩,by simp only[intOf];omega⟩
          .have hNn:(BN != sz)=true:=by simp;exact hN
           have hs:Hid (bn k n l av=false):=by
            refine pG hlt ?_;rw[<-hNL.out,HCK.out];have g3:bF av i=BN:=by unfold bF;rw[<-hA.out];exact hBN.out.symm
            rw[g3,<-hsz.out,decide_eq_false hN];simp
           have B2f:=B23.out.kept HB9'.out;have HBf:=ac (bg HB3.out HB9'.out)
           go_wp2_with (refine aP (w.heap.size+1) _ [.int .i64 0,.slice none 0 0,.slice none 0 0,.map none] rfl rfl B2f rfl dq (by simp[Value.oneCell']) ?_);intro w9 C9 hO9
           have HB9:=ac (HBf.out.trans (hO9.below (by omega)));have HC9:=ac C9;clear C9 hO9;go_wp2
           exact bodyPost_ret (bJ rfl (w.heap.size+1) [.int .i64 0,.slice none 0 0,.slice none 0 0,.map none] rfl HC9.out underlying94 dq) rfl ⟨_,by rw[hs.out];rfl,⟨_,_,_,_,rfl,rfl,rfl,rfl,rfl⟩,fun h=>absurd (h.symm.trans hs.out) (by decide),HB9.out⟩
         .have hKn:(AK != k)=true:=by simp;exact hKk
          have hs:Hid (bn k n l av=false):=by
           refine pG hlt ?_;rw[<-hNL.out,HCK.out];rw[<-hAK.out,decide_eq_false hKk];simp
          refine aB [] (fun w'=>aa w' w.heap.size [.int .i64 k,.int .i64 n,.slice lo l.length lc,.slice (some ⟨b,off,none⟩) av.length nc] 27/\w'.rangeAt b (off+i*22) cs) (by kernel_rfl) ?_
          have hS:aa w7.drew w.heap.size [.int .i64 k,.int .i64 n,.slice lo l.length lc,.slice (some ⟨b,off,none⟩) av.length nc] 27/\w7.drew.rangeAt b (off+i*22) cs:=⟨K17.out,HRG7.out⟩
          have HK7:Hid (KI w7.drew cs A):=HKI7.out.keep ((Below.refl _ _).drew);have HM8:Hid (CM w7.drew gn i (bz NL b off av i)):=HM7.out.kept ((Below.refl _ _).drew)
          have K28:Hid (aa w7.drew gs [.int .i64 n,.slice (some ⟨gc,0,none⟩) 256 256,.slice (some ⟨bb,0,none⟩) av.length bc,.map (some gn)] 94):=K27.out
          have K38:Hid (aa w7.drew wr.heap.size [.int .i64 (L:Nat),.int .u64 (x:Nat)] 83):=K37.out;have HB8:Hid (Below w3.heap.size w3 w7.drew):=HB7.out.drew
          have z8:w7.heap.size<=w7.drew.heap.size:=Nat.le_refl _;generalize w7.drew=Z at *;clear K17 K27 K37 HM7 HB7 HRG7 HKI7
          refine aF 0 hS rfl (fun w0 h0=>by have c0:=h0.1.cell 0 rfl;have e0:w0.cell? ⟨b,off+i*22,none⟩=some (.int .i64 AK):=h0.2 0 _ hhead.out;go_simp;try with_reducible rfl) ?_
          refine aF 1 hS rfl (fun w0 h0=>by have c0:=h0.1.cell 0 rfl;have e0:w0.cell? ⟨b,off+i*22,none⟩=some (.int .i64 AK):=h0.2 0 _ hhead.out;go_simp;try with_reducible rfl) ?_
          refine aF 2 hS rfl (fun w0 h0=>by have c0:=h0.1.cell 0 rfl;have e0:w0.cell? ⟨b,off+i*22,none⟩=some (.int .i64 AK):=h0.2 0 _ hhead.out;go_simp;try with_reducible rfl) ?_
          refine aF 3 hS rfl (fun w0 h0=>by have c0:=h0.1.cell 0 rfl;have e0:w0.cell? ⟨b,off+i*22,none⟩=some (.int .i64 AK):=h0.2 0 _ hhead.out;go_simp;try with_reducible rfl) ?_
          refine aF 4 hS rfl (fun w0 h0=>by have c0:=h0.1.cell 0 rfl;have e0:w0.cell? ⟨b,off+i*22,none⟩=some (.int .i64 AK):=h0.2 0 _ hhead.out;go_simp;try with_reducible rfl) ?_
          refine aF 5 hS rfl (fun w0 h0=>by have c0:=h0.1.cell 0 rfl;have e0:w0.cell? ⟨b,off+i*22,none⟩=some (.int .i64 AK):=h0.2 0 _ hhead.out;go_simp;try with_reducible rfl) ?_
          refine aF 6 hS rfl (fun w0 h0=>by have c0:=h0.1.cell 0 rfl;have e0:w0.cell? ⟨b,off+i*22,none⟩=some (.int .i64 AK):=h0.2 0 _ hhead.out;go_simp;try with_reducible rfl) ?_
          refine aF 7 hS rfl (fun w0 h0=>by have c0:=h0.1.cell 0 rfl;have e0:w0.cell? ⟨b,off+i*22,none⟩=some (.int .i64 AK):=h0.2 0 _ hhead.out;go_simp;try with_reducible rfl) ?_
          refine aF 8 hS rfl (fun w0 h0=>by have c0:=h0.1.cell 0 rfl;have e0:w0.cell? ⟨b,off+i*22,none⟩=some (.int .i64 AK):=h0.2 0 _ hhead.out;go_simp;try with_reducible rfl) ?_
          refine aF 9 hS rfl (fun w0 h0=>by have c0:=h0.1.cell 0 rfl;have e0:w0.cell? ⟨b,off+i*22,none⟩=some (.int .i64 AK):=h0.2 0 _ hhead.out;go_simp;try with_reducible rfl) ?_
          refine aF 10 hS rfl (fun w0 h0=>by have c0:=h0.1.cell 0 rfl;have e0:w0.cell? ⟨b,off+i*22,none⟩=some (.int .i64 AK):=h0.2 0 _ hhead.out;go_simp;try with_reducible rfl) ?_
          refine aF 11 hS rfl (fun w0 h0=>by have c0:=h0.1.cell 0 rfl;have e0:w0.cell? ⟨b,off+i*22,none⟩=some (.int .i64 AK):=h0.2 0 _ hhead.out;go_simp;try with_reducible rfl) ?_
          refine aS 12 hS ?_;refine aS 13 hS ?_;refine aS 14 hS ?_;refine aS 15 hS ?_;refine aS 16 hS ?_;refine aS 17 hS ?_
          refine aF 18 hS rfl (fun w0 h0=>by have c0:=h0.1.cell 0 rfl;have e0:w0.cell? ⟨b,off+i*22,none⟩=some (.int .i64 AK):=h0.2 0 _ hhead.out;go_simp;try with_reducible rfl) ?_
          refine aq.done (by kernel_rfl) ?_ _;clear hS;have B2f:=B23.out.kept HB8.out;have HBf:=ac (bg HB3.out HB8.out)
          go_wp2_with (refine aP (w.heap.size+1) _ [.int .i64 0,.slice none 0 0,.slice none 0 0,.map none] rfl rfl B2f rfl dq (by simp[Value.oneCell']) ?_);intro w9 C9 hO9
          have HB9:=ac (HBf.out.trans (hO9.below (by omega)));have HC9:=ac C9;clear C9 hO9;go_wp2
          exact bodyPost_ret (bJ rfl (w.heap.size+1) [.int .i64 0,.slice none 0 0,.slice none 0 0,.map none] rfl HC9.out underlying94 dq) rfl ⟨_,by rw[hs.out];rfl,⟨_,_,_,_,rfl,rfl,rfl,rfl,rfl⟩,fun h=>absurd (h.symm.trans hs.out) (by decide),HB9.out⟩
        .have hE0n:(E != 0)=true:=by simp;exact hE0
         have hs:Hid (bn k n l av=false):=by
          refine pG hlt ?_;rw[<-hNL.out,HCK.out]
          have:aJ A=false\/bF av i≠Sh.szN NL (bF av) (bM av) n L x:=by
           by_cases g:aJ A=true
           .refine .inr fun g2=>hE0 ?_;rw[hE.out];have hc:=bp _ _ (kK _ g);have g3:bF av i=kBN A:=by unfold bF;rw[hA.out]
            rw[<-hsz.out,g3]at g2;exact qI g (by omega) (by omega)
           .exact .inl (by simpa using g)
          rcases this with g | g
          .rw[g];rfl
          .rw[decide_eq_false g];simp
         refine aB [] (fun w'=>aa w' w.heap.size [.int .i64 k,.int .i64 n,.slice lo l.length lc,.slice (some ⟨b,off,none⟩) av.length nc] 27/\w'.rangeAt b (off+i*22) cs) (by kernel_rfl) ?_
         have hS:aa w7.drew w.heap.size [.int .i64 k,.int .i64 n,.slice lo l.length lc,.slice (some ⟨b,off,none⟩) av.length nc] 27/\w7.drew.rangeAt b (off+i*22) cs:=⟨K17.out,HRG7.out⟩
         have HK7:Hid (KI w7.drew cs A):=HKI7.out.keep ((Below.refl _ _).drew);have HM8:Hid (CM w7.drew gn i (bz NL b off av i)):=HM7.out.kept ((Below.refl _ _).drew)
         have K28:Hid (aa w7.drew gs [.int .i64 n,.slice (some ⟨gc,0,none⟩) 256 256,.slice (some ⟨bb,0,none⟩) av.length bc,.map (some gn)] 94):=K27.out
         have K38:Hid (aa w7.drew wr.heap.size [.int .i64 (L:Nat),.int .u64 (x:Nat)] 83):=K37.out;have HB8:Hid (Below w3.heap.size w3 w7.drew):=HB7.out.drew
         have z8:w7.heap.size<=w7.drew.heap.size:=Nat.le_refl _;generalize w7.drew=Z at *;clear K17 K27 K37 HM7 HB7 HRG7 HKI7
         refine aF 0 hS rfl (fun w0 h0=>by have c0:=h0.1.cell 0 rfl;have e0:w0.cell? ⟨b,off+i*22,none⟩=some (.int .i64 AK):=h0.2 0 _ hhead.out;go_simp;try with_reducible rfl) ?_
         refine aF 1 hS rfl (fun w0 h0=>by have c0:=h0.1.cell 0 rfl;have e0:w0.cell? ⟨b,off+i*22,none⟩=some (.int .i64 AK):=h0.2 0 _ hhead.out;go_simp;try with_reducible rfl) ?_
         refine aF 2 hS rfl (fun w0 h0=>by have c0:=h0.1.cell 0 rfl;have e0:w0.cell? ⟨b,off+i*22,none⟩=some (.int .i64 AK):=h0.2 0 _ hhead.out;go_simp;try with_reducible rfl) ?_
         refine aS 3 hS ?_;refine aS 4 hS ?_;refine aS 5 hS ?_;refine aS 6 hS ?_;refine aS 7 hS ?_;refine aS 8 hS ?_;refine aS 9 hS ?_
         refine aF 10 hS rfl (fun w0 h0=>by have c0:=h0.1.cell 0 rfl;have e0:w0.cell? ⟨b,off+i*22,none⟩=some (.int .i64 AK):=h0.2 0 _ hhead.out;go_simp;try with_reducible rfl) ?_
         refine aF 11 hS rfl (fun w0 h0=>by have c0:=h0.1.cell 0 rfl;have e0:w0.cell? ⟨b,off+i*22,none⟩=some (.int .i64 AK):=h0.2 0 _ hhead.out;go_simp;try with_reducible rfl) ?_
         refine aS 12 hS ?_;refine aS 13 hS ?_;refine aS 14 hS ?_;refine aS 15 hS ?_;refine aS 16 hS ?_;refine aS 17 hS ?_
         refine aF 18 hS rfl (fun w0 h0=>by have c0:=h0.1.cell 0 rfl;have e0:w0.cell? ⟨b,off+i*22,none⟩=some (.int .i64 AK):=h0.2 0 _ hhead.out;go_simp;try with_reducible rfl) ?_
         refine aq.done (by kernel_rfl) ?_ _;clear hS;have B2f:=B23.out.kept HB8.out;have HBf:=ac (bg HB3.out HB8.out)
         go_wp2_with (refine aP (w.heap.size+1) _ [.int .i64 0,.slice none 0 0,.slice none 0 0,.map none] rfl rfl B2f rfl dq (by simp[Value.oneCell']) ?_);intro w9 C9 hO9
         have HB9:=ac (HBf.out.trans (hO9.below (by omega)));have HC9:=ac C9;clear C9 hO9;go_wp2
         exact bodyPost_ret (bJ rfl (w.heap.size+1) [.int .i64 0,.slice none 0 0,.slice none 0 0,.map none] rfl HC9.out underlying94 dq) rfl ⟨_,by rw[hs.out];rfl,⟨_,_,_,_,rfl,rfl,rfl,rfl,rfl⟩,fun h=>absurd (h.symm.trans hs.out) (by decide),HB9.out⟩
       .obtain rfl:i=av.length:=by omega
        have hall:=ac HC.out;have HSY:Hid (bn k n l av=decide (gZ (ay l) (szC (ay l) n av) n=l)):=tt HLK.out (by rw[<-hNL.out];exact H1.out) h2 h3 (by rw[<-hNL.out];exact HC.out)
        obtain⟨zc1,zc2⟩:=yA (b:=b) (off:=off) (k:=k) HCD.out HV40.out (DM HLK.out) hn h2 (by rw[<-hNL.out];exact H1.out) (by rw[<-hNL.out];exact HC.out);have HZ1:=ac zc1;have HZ2:=ac zc2
        clear zc1 zc2 HC;obtain⟨ls,hls'⟩:∃ls,Hid (ls=gZ (ay l) (szC (ay l) n av) n):=⟨_,rfl⟩
        have CLn:Hid (∀w0,CM w0 gn av.length (bz NL b off av av.length)->aa w0 gc (cC (ay l)) 83->Calls prog 101 #[.agg #[.int .i64 n,.slice (some ⟨gc,0,none⟩) 256 256,.slice bo av.length bc,.map (some gn)]] w0 fun e w'=>∃ao k cap,e=.returned (.slice ao k cap)/\k=ls.length/\Nd w' ao ls/\Below w0.heap.size w0 w'/\Fr w0.heap.size ao):=fun w0 h0 hc=>by
         rw[hls'.out];rw[hNL.out]at h0;exact zx n gc gn av.length _ (ay l) (szC (ay l) n av) _ w0 rfl hc h0 HV40.out HCD.out HZ1.out HZ2.out
        have CEq:Hid (∀(ao:Option Addr) (kk cap:Nat) (w0:World),kk=ls.length->Nd w0 ao ls->Below w.heap.size w w0->Qq 100 #[.slice ao kk cap,.slice lo l.length lc] w0 (.bool (decide (ls=l)))):=fun ao kk cap w0 hkk h1 hb=>wM ao ls kk cap hkk lo l l.length lc rfl w0 h1 (hHX.out.keep hb) (by rw[hls'.out];unfold gZ;split<;>simp[aV,fh])
        obtain⟨rs,hrs⟩:∃rs,Hid (rs=decide (ls=l)):=⟨_,rfl⟩;rw[<-hrs.out]at CEq;have HSR:Hid (bn k n l av=rs):=by rw[hrs.out,hls'.out];exact HSY.out
        have HBW:=ac (bg HB3.out HB.out);have HFR2:Hid (Fr (w.heap.size+2) bo):=fun a ha=>by have:=HFR.out a ha;omega
        go_wp2
        refine tG [] (fun w'=>aa w' w.heap.size [.int .i64 k,.int .i64 n,.slice lo l.length lc,.slice no av.length nc] 27/\aa w' gs [.int .i64 n,.slice (some ⟨gc,0,none⟩) 256 256,.slice bo av.length bc,.map (some gn)] 94) (fun(_:Option Addr×Nat×Nat) V=>EX w gc gn av.length (ay l) bo NL (bz NL b off av av.length) [.int .i64 n,.slice (some ⟨gc,0,none⟩) 256 256,.slice bo av.length bc,.map (some gn)] V) (fun a g=>{ a with tmps:=(((((((a.tmps.setIfInBounds 104 (.agg #[.int .i64 n,.slice (some ⟨gc,0,none⟩) 256 256,.slice bo av.length bc,.map (some gn)])).setIfInBounds 105 (.agg #[.int .i64 n,.slice (some ⟨gc,0,none⟩) 256 256,.slice bo av.length bc,.map (some gn)])).setIfInBounds 106 (.slice g.1 g.2.1 g.2.2)).setIfInBounds 107 (.pointer (some ⟨w.heap.size,2,none⟩))).setIfInBounds 108 (.slice lo l.length lc)).setIfInBounds 109 (.bool rs)).setIfInBounds 3 (.bool rs)) }) (by kernel_rfl) ?reg2 ?fin2
        case reg2=>
         have hS:aa wr.drew w.heap.size [.int .i64 k,.int .i64 n,.slice lo l.length lc,.slice no av.length nc] 27/\aa wr.drew gs [.int .i64 n,.slice (some ⟨gc,0,none⟩) 256 256,.slice bo av.length bc,.map (some gn)] 94:=⟨B13.out.kept HB.out.drew,BS.out⟩
         have HE0:Hid (EX w gc gn av.length (ay l) bo NL (bz NL b off av av.length) [.int .i64 0,.slice none 0 0,.slice none 0 0,.map none] wr.drew):=⟨B23.out.kept HB.out.drew,HGC3.out.kept HB.out.drew,HCS3.out.keep HB.out.drew,HM.out.kept ((Below.refl _ _).drew),HBW.out.drew⟩
         generalize wr.drew=Z at *;clear BS HM HB HBW
         refine aF 0 hS rfl (fun w0 h0=>by have c2:=h0.1.cell 2 rfl;have d0:=h0.2.cell 0 rfl;have d1:=h0.2.cell 1 rfl;have d2:=h0.2.cell 2 rfl;have d3:=h0.2.cell 3 rfl;go_simp;try with_reducible rfl) ?_
         refine aF 1 hS rfl (fun w0 h0=>by have c2:=h0.1.cell 2 rfl;have d0:=h0.2.cell 0 rfl;have d1:=h0.2.cell 1 rfl;have d2:=h0.2.cell 2 rfl;have d3:=h0.2.cell 3 rfl;go_simp;try with_reducible rfl) ?_
         refine aF 3 hS rfl (fun w0 h0=>by have c2:=h0.1.cell 2 rfl;have d0:=h0.2.cell 0 rfl;have d1:=h0.2.cell 1 rfl;have d2:=h0.2.cell 2 rfl;have d3:=h0.2.cell 3 rfl;go_simp;try with_reducible rfl) ?_
         refine aF 4 hS rfl (fun w0 h0=>by have c2:=h0.1.cell 2 rfl;have d0:=h0.2.cell 0 rfl;have d1:=h0.2.cell 1 rfl;have d2:=h0.2.cell 2 rfl;have d3:=h0.2.cell 3 rfl;go_simp;try with_reducible rfl) ?_
         refine aO 2 ?_;intro K hK;go_simp;refine(CLn.out _ HE0.out.m HE0.out.c).mono ?_;rintro e w21 ⟨ao,kk,cap,rfl,hkk,hnd,hb,hfa⟩
         have HFA:Hid (Fr (w.heap.size+2) ao):=fun a ha=>by have:=hfa a ha;have:=HE0.out.s.lt;omega
         replace hS:=And.intro (hS.1.kept hb) (hS.2.kept hb);have HE21:=ac (HE0.out.keep hb);have HND9:=ac hnd;have HKK:=ac hkk;clear hb HE0 hnd hkk hfa;refine hK.out _ _ (fun _=>hS) ?_;clear hK K
         try simp only[Act.put,ak,aj,ai,ae,ah,ag]
         refine aO 5 ?_;intro K hK;go_simp;refine mr (CEq.out ao kk cap _ HKK.out HND9.out HE21.out.b) fun w22 hb=>?_;replace hS:=And.intro (hS.1.kept hb) (hS.2.kept hb)
         have HE22:=ac (HE21.out.keep hb);clear hb HE21;refine hK.out _ _ (fun _=>hS) ?_;clear hK K;try simp only[Act.put,ak,aj,ai,ae,ah,ag]
         refine aO 6 ?_;intro K hK
         refine kf (w.heap.size+1) _ [.int .i64 n,.slice (some ⟨gc,0,none⟩) 256 256,.slice bo av.length bc,.map (some gn)] rfl rfl HE22.out.s rfl dq (by simp[Value.oneCell']) ?_;intro w23 BB hOB
         have HE23:=ac (HE22.out.only hOB BB (by omega) (by omega) HFR2.out);replace hS:=And.intro (hOB.cel hS.1 (by omega)) (hOB.cel hS.2 (by omega));clear BB hOB HE22;refine hK.out _ _ (fun _=>hS) ?_;clear hK K
         try simp only[Act.put,ak,aj,ai,ae,ah,ag]
         refine aF 7 hS rfl (fun w0 h0=>by have c2:=h0.1.cell 2 rfl;have d0:=h0.2.cell 0 rfl;have d1:=h0.2.cell 1 rfl;have d2:=h0.2.cell 2 rfl;have d3:=h0.2.cell 3 rfl;go_simp;try with_reducible rfl) ?_
         refine aq.done (by kernel_rfl) ?_ _;refine⟨(ao,kk,cap),?_,HE23.out⟩;simp only[List.setIfInBounds_toArray,List.set_cons_zero,List.set_cons_succ]
        case fin2=>
         rintro⟨ao,kk,cap⟩ wB hEX;have HEX:=ac hEX;clear hEX;simp only[List.setIfInBounds_toArray,List.set_cons_zero,List.set_cons_succ];go_wp2
         refine bodyPost_ret (bJ rfl (w.heap.size+1) [.int .i64 n,.slice (some ⟨gc,0,none⟩) 256 256,.slice bo av.length bc,.map (some gn)] rfl HEX.out.s underlying94 dq) rfl ⟨_,by rw[HSR.out];rfl,⟨_,_,_,_,rfl,rfl,rfl,rfl,rfl⟩,fun _=>⟨gc,bo,bc,gn,av.length,b,off,?_,HEX.out.c,by rw[<-hNL.out];exact HEX.out.t,?_,fun h=>(hbo.out h).1⟩,HEX.out.b⟩
         .rw[<-hNL.out,H1.out]
         .rw[<-hNL.out,H1.out];exact HEX.out.m
    .rw[decide_eq_false h3]
     have hs:Hid (bn k n l av=false):=by
      show bn k n l av=false;unfold bn;rw[decide_eq_false h3];simp
     have B23':=B23.out;go_wp2_with (refine aP (w.heap.size+1) _ [.int .i64 0,.slice none 0 0,.slice none 0 0,.map none] rfl rfl B23' rfl dq (by simp[Value.oneCell']) ?_);intro w9 C9 hO9
     have HB9:=ac (HB3.out.trans (hO9.below (by omega)));have HC9:=ac C9;clear C9 hO9;go_wp2
     exact bodyPost_ret (bJ rfl (w.heap.size+1) [.int .i64 0,.slice none 0 0,.slice none 0 0,.map none] rfl HC9.out underlying94 dq) rfl ⟨_,by rw[hs.out];rfl,⟨_,_,_,_,rfl,rfl,rfl,rfl,rfl⟩,fun h=>absurd (h.symm.trans hs.out) (by decide),HB9.out⟩
   .have h2f:n>8192:=by omega
    have hs:Hid (bn k n l av=false):=by
     show bn k n l av=false;unfold bn;rw[decide_eq_false h2];simp
    have B22':=B22.out;go_wp2_with (refine aP (w.heap.size+1) _ [.int .i64 0,.slice none 0 0,.slice none 0 0,.map none] rfl rfl B22' rfl dq (by simp[Value.oneCell']) ?_);intro w9 C9 hO9
    have HB9:=ac (HB2.out.trans (hO9.below (by omega)));have HC9:=ac C9;clear C9 hO9;go_wp2
    exact bodyPost_ret (bJ rfl (w.heap.size+1) [.int .i64 0,.slice none 0 0,.slice none 0 0,.map none] rfl HC9.out underlying94 dq) rfl ⟨_,by rw[hs.out];rfl,⟨_,_,_,_,rfl,rfl,rfl,rfl,rfl⟩,fun h=>absurd (h.symm.trans hs.out) (by decide),HB9.out⟩
  .have h1f:((NL.length:Int) != (av.length:Int))=true:=by simp;omega
   have hs:Hid (bn k n l av=false):=by
    show bn k n l av=false;unfold bn;rw[<-hNL.out,decide_eq_false h1];simp
   have B22':=B22.out;go_wp2_with (refine aP (w.heap.size+1) _ [.int .i64 0,.slice none 0 0,.slice none 0 0,.map none] rfl rfl B22' rfl dq (by simp[Value.oneCell']) ?_);intro w9 C9 hO9
   have HB9:=ac (HB2.out.trans (hO9.below (by omega)));have HC9:=ac C9;clear C9 hO9;go_wp2
   exact bodyPost_ret (bJ rfl (w.heap.size+1) [.int .i64 0,.slice none 0 0,.slice none 0 0,.map none] rfl HC9.out underlying94 dq) rfl ⟨_,by rw[hs.out];rfl,⟨_,_,_,_,rfl,rfl,rfl,rfl,rfl⟩,fun h=>absurd (h.symm.trans hs.out) (by decide),HB9.out⟩
end Go.Proofs.YtleegaihbgbcjaaGreatDoor
