import Derived.Test.YtfnkklkdajlhlaaGreatDoorU02
set_option linter.unusedVariables false
set_option linter.unusedSimpArgs false
set_option maxRecDepth 100000
set_option maxHeartbeats 16000000
namespace Go.Proofs.YtfnkklkdajlhlaaGreatDoor
open Go.RowKit Num Bit
theorem Turned.drew{g:Nat}{a w:World}(h:Turned g a w):Turned g a w.drew:=⟨h.os,h.tape,h.output,h.size,h.block⟩
theorem Own.drew{w:World}{g:Nat}{ys:List Nat}(h:Own w g ys):Own w.drew g ys:=h
theorem mask_n(W m:Nat)(hm:maskI (W:Int)=(m:Int))(w:World):
  Calls Tryz.prog 163 #[.int .i64 W] w fun e w'=>e=.returned (.int .u64 (m:Int))∧w'=w:=by
 have h:=mask_c (W:Int) w;rw[hm]at h;exact h
theorem mask_is(W:Nat)(h:W≤64):maskI (W:Int)=((2^W-1:Nat):Int):=by
 unfold maskI;rw[Int.toNat_natCast,Nat.min_eq_left h]
theorem lay_c(ys:List Nat)(l g cap p W v:Nat)(w:World)(hl:ys.length=l)(hO:Own w g ys)(hf:Fit ys)(hW:1≤W)(hW2:W≤64)(hv:v<18446744073709551616)(hp:p+W≤64*ys.length)(hpb:p≤1048576):
  Calls Tryz.prog 194 #[.slice (some ⟨g,0,none⟩) l cap,.int .i64 p,.int .i64 W,.int .u64 v] w fun e w'=>e=.returned (.tuple #[])∧Own w' g (layL ys p W v)∧Turned g w w':=by
 subst hl;obtain⟨m,hm⟩:∃m:Nat,m=2^W-1:=⟨_,rfl⟩;have hmm:Hid (maskI (W:Int)=(m:Int)):=by rw[hm];exact mask_is W hW2
 have hmb:Hid (m<18446744073709551616):=by
  have:=Nat.pow_le_pow_right (n:=2) (j:=64) (by decide) hW2;rw[show(2:Nat)^64=18446744073709551616 from rfl]at this;unfold Hid;omega
 have h1:p/64<ys.length:=by omega
 have l1':(p:Int)/64<(ys.length:Int):=by omega
 have e1:=hO.cell (p/64) h1;have f1:=hO.frozen (p/64)
 have A1:Hid (bits .andNot .u64 (gt ys (p/64):Int) ((m*2^(p%64)%18446744073709551616:Nat):Int)=((gt ys (p/64)&&&(18446744073709551615-m*2^(p%64)%18446744073709551616):Nat):Int)):=u64_andNot_nat _ _ (hf _) (Nat.mod_lt _ (by decide))
 have A2:Hid (bits .or .u64 ((gt ys (p/64)&&&(18446744073709551615-m*2^(p%64)%18446744073709551616):Nat):Int) ((v*2^(p%64)%18446744073709551616:Nat):Int)=(((gt ys (p/64)&&&(18446744073709551615-m*2^(p%64)%18446744073709551616))|||v*2^(p%64)%18446744073709551616:Nat):Int)):=u64_or_nat _ _ (Nat.lt_of_le_of_lt Nat.and_le_left (hf _)) (Nat.mod_lt _ (by decide))
 have HM:Hid (m=2^W-1):=hm;clear hm;by_cases c:64-p%64<W
 ·have c':(64:Int)-(p:Int)%64<(W:Int):=by omega
  have h2:p/64+1<ys.length:=by omega
  have l2':(p:Int)/64+1<(ys.length:Int):=by omega
  have e2:=hO.cell (p/64+1) h2;have f2:=hO.frozen (p/64+1)
  have B1:Hid (bits .andNot .u64 (gt ys (p/64+1):Int) ((m/2^(64-p%64):Nat):Int)=((gt ys (p/64+1)&&&(18446744073709551615-m/2^(64-p%64)):Nat):Int)):=u64_andNot_nat _ _ (hf _) (Nat.lt_of_le_of_lt (Nat.div_le_self _ _) hmb.out)
  have B2:Hid (bits .or .u64 ((gt ys (p/64+1)&&&(18446744073709551615-m/2^(64-p%64)):Nat):Int) ((v/2^(64-p%64):Nat):Int)=(((gt ys (p/64+1)&&&(18446744073709551615-m/2^(64-p%64)))|||v/2^(64-p%64):Nat):Int)):=u64_or_nat _ _ (Nat.lt_of_le_of_lt Nat.and_le_left (hf _)) (Nat.lt_of_le_of_lt (Nat.div_le_self _ _) hv)
  have R:Hid (layL ys p W v=((ys.set (p/64) ((gt ys (p/64)&&&(18446744073709551615-m*2^(p%64)%18446744073709551616))|||v*2^(p%64)%18446744073709551616)).set (p/64+1) ((gt ys (p/64+1)&&&(18446744073709551615-m/2^(64-p%64)))|||v/2^(64-p%64)))):=by
   unfold Hid layL lay1;rw[if_pos c,HM.out]
  clear c;go_enter Tryz.func194,Tryz.ntmps194;go_wp2_with (go_at_call 163;refine(mask_n _ _ hmm.out _).mono ?_;rintro e w' ⟨rfl,rfl⟩);go_region;go_wp2;go_region;go_wp2;go_end0
  rw[R.out,shl_nat,shl_nat,A1.out,A2.out,shr_cast,shr_cast,B1.out,B2.out];exact⟨rfl,((hO.set _ _).set _ _).drew.drew,(((Turned.refl _ _).set _ _).set _ _).drew.drew⟩
 ·have c':¬(64:Int)-(p:Int)%64<(W:Int):=by omega
  have R:Hid (layL ys p W v=(ys.set (p/64) ((gt ys (p/64)&&&(18446744073709551615-m*2^(p%64)%18446744073709551616))|||v*2^(p%64)%18446744073709551616))):=by
   unfold Hid layL lay1;rw[if_neg c,HM.out]
  clear c;go_enter Tryz.func194,Tryz.ntmps194;go_wp2_with (go_at_call 163;refine(mask_n _ _ hmm.out _).mono ?_;rintro e w' ⟨rfl,rfl⟩);go_region;go_wp2;go_end0;rw[R.out,shl_nat,shl_nat,A1.out,A2.out]
  exact⟨rfl,(hO.set _ _).drew,((Turned.refl _ _).set _ _).drew⟩
theorem imE_zero(W:Int)(l:List Nat)(h:imE W l=0):1≤W∧W≤64∧(l.length:Int)*W≤1048576∧∀j,j<l.length→lenI (gt l j)≤W:=by
 unfold imE at h;by_cases c:W<1∨64<W∨1048576<(l.length:Int)*W∨¬(∀j,j<l.length→lenI (gt l j)≤W)
 ·rw[if_pos c]at h;omega
 ·refine⟨by omega,by omega,by omega,?_⟩;exact Classical.byContradiction fun hc=>c (.inr (.inr (.inr hc)))
theorem imE_bad(W:Int)(l:List Nat)(h:imE W l≠0):imE W l=2:=by
 unfold imE at *;split at h
 ·rename_i c;rw[if_pos c]
 ·exact absurd rfl h
theorem quo_le(W n:Int)(h0:1≤W):n≤1048576/W↔n*W≤1048576:=Int.le_ediv_iff_mul_le (by omega)
theorem quo_bd(W:Int)(h0:1≤W):0≤1048576/W∧1048576/W≤1048576:=⟨Int.ediv_nonneg (by decide) (by omega),Int.ediv_le_self _ (by decide)⟩
theorem makeable_ok(W:Int)(al:Option Addr)(l:List Nat)(cap:Nat)(w:World)(hx:Wd w al l)(hf:Fit l)(hE:imE W l=0):
  Calls Tryz.prog 192 #[.int .i64 W,.slice al l.length cap] w fun e w'=>e=.returned .nilIface∧w'=w:=by
 obtain⟨a1,a2,a3,a4⟩:=imE_zero W l hE;have q1:(l.length:Int)≤1048576/W:=(quo_le W _ a1).2 a3;obtain⟨q2,q3⟩:=quo_bd W a1;have hll:l.length≤1048576:=by omega
 have HA:Hid (∀j,j<l.length→lenI (gt l j)≤W):=a4;clear hE a3 a4;go_enter Tryz.func192,Tryz.ntmps192;go_wp2_with (go_at_call 205;refine(wide_ok _ ?_ ?_ _).mono ?_;exact a1;exact a2;rintro e w' ⟨rfl,rfl⟩)
 go_loop [23] (fun i=>∃k:Nat,k≤l.length∧i=.int .i64 k) (fun i=>l.length-(intOf i).toNat)
 case atStart=>exact⟨0,by omega,rfl⟩
 case round=>
  obtain⟨k,hk,rfl⟩:=hrel;by_cases hlt:k<l.length
  ·obtain⟨b,off,rfl,hb,hc⟩:=hx (by omega);have e1:=hc k hlt;have hlt3:(k:Int)<(l.length:Int):=by omega
   have F1:Hid ((gt l k:Int)<18446744073709551616):=by unfold Hid;have:=hf k;omega
   clear hc;go_wp2_with (go_at_call 206;refine(narrow_ok _ _ ?_ ?_ ?_ _).mono ?_;(exact Int.natCast_nonneg _);exact F1.out;(exact HA.out k hlt);rintro e w' ⟨rfl,rfl⟩);go_round
   case rel=>exact⟨k+1,by omega,by go_num⟩
   case measure=>simp only[intOf];omega
  ·go_wp2;go_ret;exact⟨rfl,rfl⟩
theorem make_ok(W:Nat)(al:Option Addr)(l:List Nat)(cap k:Nat)(w:World)(hx:Wd w al l)(hf:Fit l)(hE:imE (W:Int) l=0)(hk:k=(l.length*W+63)/64):
  Calls Tryz.prog 159 #[.int .i64 W,.slice al l.length cap] w fun e w'=>∃g,e=.returned (.tuple #[.agg #[.int .i64 l.length,.int .i64 W,.int .i64 ((l.length:Int)*W),.slice (some ⟨g,0,none⟩) k k],.int .i64 0])∧w.heap.size≤g∧Own w' g (mkS l W l.length)∧Below w.heap.size w w':=by
 obtain⟨a1,a2,a3,a4⟩:=imE_zero W l hE;have K:∀o,Wd (w.alloc o) al l:=fun o=>hx.keep (below_alloc w o)
 have hm:l.length*W≤1048576:=by
  have:((l.length*W:Nat):Int)≤1048576:=by rw[Int.natCast_mul];exact a3
  omega
 have hll:l.length≤1048576:=Nat.le_trans (Nat.le_mul_of_pos_right _ (by omega)) hm;have hmi:(0:Int)≤(l.length:Int)*(W:Int):=Int.mul_nonneg (by omega) (by omega)
 have HK:Hid (k=(l.length*W+63)/64):=hk;have HK1:Hid (((l.length:Int)*W+63)/64=(k:Int)):=by unfold Hid;rw[←Int.natCast_mul];omega
 have HE:Hid (imE (W:Int) l=0):=hE;have HA:Hid (∀j,j<l.length→gt l j<2^W):=fun j hj=>(lenI_fit _ _).1 (a4 j hj);clear hk hE a4;go_enter Tryz.func159,Tryz.ntmps159;go_wp2_with fail
 refine(makeable_ok _ _ _ _ _ (K _) hf HE.out).mono ?_;rintro e w' ⟨rfl,hw'⟩;subst hw';go_wp2_with fail;refine(new_ok _ k _ hmi a3 HK1.out).mono ?_;rintro e w1 ⟨g,rfl,hg1,hg2,hO,hb⟩
 have KF:w1.frozen? ⟨w.heap.size,0,none⟩=false∧w1.frozen? ⟨w.heap.size,1,none⟩=false∧w1.frozen? ⟨w.heap.size,2,none⟩=false∧w1.frozen? ⟨w.heap.size,3,none⟩=false:=
  ⟨(hb.frozen (p:=⟨w.heap.size,0,none⟩) (by simp)).trans (by simp),(hb.frozen (p:=⟨w.heap.size,1,none⟩) (by simp)).trans (by simp),(hb.frozen (p:=⟨w.heap.size,2,none⟩) (by simp)).trans (by simp),(hb.frozen (p:=⟨w.heap.size,3,none⟩) (by simp)).trans (by simp)⟩
 have KK:=Box4.new hb;have hg0:w.heap.size+1≤g:=by simpa using hg1
 clear hb hg1 K;obtain⟨⟨hz,k0,k1,k2,k3⟩,hw⟩:=KK;obtain⟨f0,f1,f2,f3⟩:=KF;go_wp2
 go_loopw [33] (fun i wr=>∃q:Nat,q≤l.length∧i=.int .i64 q∧Own wr g (mkS l W q)∧(wr.cell? ⟨w1.heap.size,0,none⟩=some (.int .i64 ((l.length:Int)*W))∧wr.cell? ⟨w1.heap.size,1,none⟩=some (.slice (some ⟨g,0,none⟩) k k))∧(wr.cell? ⟨w.heap.size,0,none⟩=some (.int .i64 0)∧wr.cell? ⟨w.heap.size,1,none⟩=some (.int .i64 0)∧wr.cell? ⟨w.heap.size,2,none⟩=some (.int .i64 0)∧wr.cell? ⟨w.heap.size,3,none⟩=some (.slice none 0 0))∧(wr.frozen? ⟨w.heap.size,0,none⟩=false∧wr.frozen? ⟨w.heap.size,1,none⟩=false∧wr.frozen? ⟨w.heap.size,2,none⟩=false∧wr.frozen? ⟨w.heap.size,3,none⟩=false)∧Below w.heap.size w wr) (fun i _=>l.length-(intOf i).toNat)
 case atStart=>
  have hb:=below_alloc w1 (.cells #[.int .i64 ((l.length:Int)*W),.slice (some ⟨g,0,none⟩) k k] 33)
  refine⟨0,Nat.zero_le _,rfl,?_,⟨by simp,by simp⟩,⟨(hb.cell (p:=⟨w.heap.size,0,none⟩) hz).trans k0,(hb.cell (p:=⟨w.heap.size,1,none⟩) hz).trans k1,(hb.cell (p:=⟨w.heap.size,2,none⟩) hz).trans k2,(hb.cell (p:=⟨w.heap.size,3,none⟩) hz).trans k3⟩,⟨(hb.frozen (p:=⟨w.heap.size,0,none⟩) hz).trans f0,(hb.frozen (p:=⟨w.heap.size,1,none⟩) hz).trans f1,(hb.frozen (p:=⟨w.heap.size,2,none⟩) hz).trans f2,(hb.frozen (p:=⟨w.heap.size,3,none⟩) hz).trans f3⟩,hw.trans (hb.mono (by omega))⟩
  rw[←mkS_zero,←rep_row (l.length*W) k HK.out];exact hO.keep hb
 case round=>
  obtain⟨q,hq,rfl,hOr,⟨r0,r1⟩,⟨s0,s1,s2,s3⟩,⟨t0,t1,t2,t3⟩,hwr⟩:=hrel;by_cases hlt:q<l.length
  ·obtain⟨b,off,rfl,hb,hc⟩:=hx (by omega);have e1:=(hwr.cell (p:=⟨b,off+q,none⟩) hb).trans (hc q hlt);have hlt3:(q:Int)<(l.length:Int):=by omega
   have hn:=mul_next l.length W q hlt;have hqW:q*W≤1048576:=by omega
   have hqi:(0:Int)≤(q:Int)*(W:Int):=Int.mul_nonneg (by omega) (by omega);have hqi2:(q:Int)*(W:Int)≤1048576:=by rw[←Int.natCast_mul];omega
   have FS:Hid (layL (mkS l W q) (q*W) W (gt l q)=mkS l W (q+1)):=mkS_step l W q (by omega) (by omega) hlt (HA.out q hlt) (hf q)
   have HLN:Hid ((mkS l W q).length=k):=by unfold Hid;rw[length_mkS];exact HK.out.symm
   have HP:Hid (q*W+W≤64*(mkS l W q).length):=by unfold Hid;rw[length_mkS];omega
   have HC:Hid ((q:Int)*(W:Int)=((q*W:Nat):Int)):=(Int.natCast_mul q W).symm;clear hc hn;go_wp2_with fail;rw[HC.out]
   refine(lay_c (mkS l W q) k g k (q*W) W (gt l q) _ HLN.out hOr (fit_mkS _ _ _) (by omega) (by omega) (hf q) HP.out hqW).mono ?_;rintro e w4 ⟨rfl,hO4,hT⟩;rw[FS.out]at hO4
   have u0:=(hT.cell (p:=⟨w1.heap.size,0,none⟩) (show w1.heap.size≠g by omega)).trans r0;have u1:=(hT.cell (p:=⟨w1.heap.size,1,none⟩) (show w1.heap.size≠g by omega)).trans r1
   have x0:=(hT.cell (p:=⟨w.heap.size,0,none⟩) (show w.heap.size≠g by omega)).trans s0;have x1:=(hT.cell (p:=⟨w.heap.size,1,none⟩) (show w.heap.size≠g by omega)).trans s1
   have x2:=(hT.cell (p:=⟨w.heap.size,2,none⟩) (show w.heap.size≠g by omega)).trans s2;have x3:=(hT.cell (p:=⟨w.heap.size,3,none⟩) (show w.heap.size≠g by omega)).trans s3
   have y0:=(hT.frozen (p:=⟨w.heap.size,0,none⟩) (show w.heap.size≠g by omega)).trans t0;have y1:=(hT.frozen (p:=⟨w.heap.size,1,none⟩) (show w.heap.size≠g by omega)).trans t1
   have y2:=(hT.frozen (p:=⟨w.heap.size,2,none⟩) (show w.heap.size≠g by omega)).trans t2;have y3:=(hT.frozen (p:=⟨w.heap.size,3,none⟩) (show w.heap.size≠g by omega)).trans t3
   have hw4:=hwr.trans (hT.below (B:=w.heap.size) (by omega));clear hT r0 r1 s0 s1 s2 s3 t0 t1 t2 t3 hwr hOr e1;go_wp2
   exact⟨⟨q+1,by omega,by go_num,hO4,⟨u0,u1⟩,⟨x0,x1,x2,x3⟩,⟨y0,y1,y2,y3⟩,hw4⟩,by simp only[intOf];omega⟩
  ·have hq2:q=l.length:=by omega
   rw[hq2]at hOr;clear hq2;go_wp2
   refine bodyPost_ret (v:=.tuple #[.agg #[.int .i64 l.length,.int .i64 W,.int .i64 ((l.length:Int)*W),.slice (some ⟨g,0,none⟩) k k],.int .i64 0]) (by simp[results,Tryz.results159,go_sem,s0,s1,s2,s3]) rfl ⟨g,rfl,by omega,?_,?_⟩
   ·exact(((hOr.set_other (by simp;omega) _).set_other (by simp;omega) _).set_other (by simp;omega) _).set_other (by simp;omega) _
   ·exact(((hwr.setCell (by simp) _).setCell (by simp) _).setCell (by simp) _).setCell (by simp) _
def OutF(w w':World)(ao:Option Addr)(ys:List Nat)(cap:Nat):Prop:=Wd w' ao ys∧Fit ys∧ys.length≤cap∧(∀a,ao=some a→w.heap.size≤a.block)∧Below w.heap.size w w'
theorem info4:(Tryz.prog.info? 4).map (fun i=>(i.zero,i.size,i.bytes))=some (some (.bool false),1,1):=by kernel_rfl
def bv(l:List Bool):List Value:=l.map fun b=>Value.bool b
def mb(l:List Nat)(W q:Nat):List Bool:=(List.range q).map fun j=>(gt l (j/W)).testBit (j%W)
theorem length_mb(l:List Nat)(W q:Nat):(mb l W q).length=q:=by simp[mb]
theorem bt_mb(l:List Nat)(W q i:Nat)(h:i<q):bt (mb l W q) i=(gt l (i/W)).testBit (i%W):=by
 unfold bt mb;rw[List.getD_eq_getElem?_getD,List.getElem?_map,List.getElem?_range h];rfl
theorem mb_succ(l:List Nat)(W i k:Nat)(hk:k<W):bv (mb l W (i*W+k))++[.bool ((gt l i).testBit k)]=bv (mb l W (i*W+k+1)):=by
 unfold bv mb;rw[List.range_succ,List.map_append,List.map_append];have e1:(i*W+k)/W=i:=by rw[Nat.mul_comm,Nat.mul_add_div (by omega),Nat.div_eq_of_lt hk];omega
 have e2:(i*W+k)%W=k:=by rw[Nat.mul_comm,Nat.mul_add_mod,Nat.mod_eq_of_lt hk]
 simp only[List.map_cons,List.map_nil,e1,e2]
theorem mb_row(l:List Nat)(W:Nat):fromS (mb l W (l.length*W)) (mb l W (l.length*W)).length=mkS l W l.length:=by
 unfold fromS mkS;rw[length_mb];refine rowOf_congr _ _ _ fun i hi=>?_;rw[bt_mb _ _ _ _ hi]
theorem shr_bit(y q:Nat):(((y:Int)/2^q).tmod 2==1)=y.testBit q:=by
 rw[bit_tmod _ _ (Int.natCast_nonneg _),bit_test,Int.toNat_natCast,Bool.eq_iff_iff,beq_iff_eq,decide_eq_true_eq];omega
theorem bl_owns{w:World}{base n:Nat}{v:Value}{l:List Bool}(h:w.ownsRow base 4 1 v n (bv l)):∃ao cap,v=.slice ao n cap∧Bl w ao l∧l.length=n:=by
 have hn:l.length=n:=by have:=h.1;simpa [bv]using this
 obtain⟨h1,⟨rfl,rfl⟩ | ⟨g,cap,cur,rfl,e2,hh,r,_,hs,ht⟩⟩:=h
 ·exact⟨none,0,rfl,fun h=>absurd h (by omega),hn⟩
 ·refine⟨some ⟨g,0,none⟩,cap,rfl,fun _=>⟨g,0,rfl,(Array.getElem?_eq_some_iff.1 hh).1,fun i hi=>?_⟩,hn⟩;unfold World.cell?;rw[show w.heap[({ block:=g,off:=0+i,spot:=none }:Addr).block]?=_ from hh]
  have h3:(cur.toList.take (n*1))[i]?=some (.bool (bt l i)):=by
   rw[ht,bv,List.getElem?_map];unfold bt;rw[List.getD_eq_getElem?_getD,List.getElem?_eq_getElem hi];rfl
  rw[List.getElem?_take_of_lt (by omega)]at h3;simpa using h3
theorem reffrom_n(ao:Option Addr)(l:List Bool)(n cap k:Nat)(w:World)(hn:l.length=n)(hx:Bl w ao l)(hl:n≤1048576)(hk:k=(n+63)/64):
  Calls Tryz.prog 39 #[.slice ao n cap] w fun e w'=>∃g,e=.returned (.tuple #[.agg #[.int .i64 n,.slice (some ⟨g,0,none⟩) k k],.int .i64 0])∧w.heap.size≤g∧Own w' g (fromS l l.length)∧Below w.heap.size w w':=by
 subst hn;exact reffrom_ok ao l cap k w hx hl hk
structure RB (w wr:World):Prop where
 c0:wr.cell? ⟨w.heap.size,0,none⟩=some (.int .i64 0)
 c1:wr.cell? ⟨w.heap.size,1,none⟩=some (.int .i64 0)
 c2:wr.cell? ⟨w.heap.size,2,none⟩=some (.int .i64 0)
 c3:wr.cell? ⟨w.heap.size,3,none⟩=some (.slice none 0 0)
 f0:wr.frozen? ⟨w.heap.size,0,none⟩=false
 f1:wr.frozen? ⟨w.heap.size,1,none⟩=false
 f2:wr.frozen? ⟨w.heap.size,2,none⟩=false
 f3:wr.frozen? ⟨w.heap.size,3,none⟩=false
 lt:w.heap.size<wr.heap.size
 bel:Below w.heap.size w wr
theorem RB.new(w:World):RB w (w.alloc (.cells #[.int .i64 0,.int .i64 0,.int .i64 0,.slice none 0 0] 39)):=⟨by simp,by simp,by simp,by simp,by simp,by simp,by simp,by simp,by simp,below_alloc _ _⟩
theorem RB.keep{w w1 w2:World}(h:RB w w1)(hb:Below (w.heap.size+1) w1 w2):RB w w2:=
  ⟨(hb.cell (p:=⟨w.heap.size,0,none⟩) (by simp)).trans h.c0,(hb.cell (p:=⟨w.heap.size,1,none⟩) (by simp)).trans h.c1,(hb.cell (p:=⟨w.heap.size,2,none⟩) (by simp)).trans h.c2,(hb.cell (p:=⟨w.heap.size,3,none⟩) (by simp)).trans h.c3,
   (hb.frozen (p:=⟨w.heap.size,0,none⟩) (by simp)).trans h.f0,(hb.frozen (p:=⟨w.heap.size,1,none⟩) (by simp)).trans h.f1,(hb.frozen (p:=⟨w.heap.size,2,none⟩) (by simp)).trans h.f2,(hb.frozen (p:=⟨w.heap.size,3,none⟩) (by simp)).trans h.f3,
   Nat.lt_of_lt_of_le h.lt hb.size,h.bel.trans (hb.mono (by omega))⟩
theorem RB.put{w w1:World}(h:RB w w1)(p q r s:Value):Box4 ((((w1.setCell ⟨w.heap.size,0,none⟩ p).setCell ⟨w.heap.size,1,none⟩ q).setCell ⟨w.heap.size,2,none⟩ r).setCell ⟨w.heap.size,3,none⟩ s) w.heap.size p q r s:=
 ⟨by simp only[size_set];exact h.lt,by simp[go_sem,h.c0],by simp[go_sem,h.c1],by simp[go_sem,h.c2],by simp[go_sem,h.c3]⟩
theorem refmake_loop(W:Nat)(al:Option Addr)(l:List Nat)(cap k:Nat)(w:World)(hx:Wd w al l)(hf:Fit l)(a1:1≤W)(a2:W≤64)(hm:l.length*W≤1048576)(hk:k=(l.length*W+63)/64):
    Calls Tryz.prog 127 #[.int .i64 W,.slice al l.length cap] w fun e w'=>
      (imE (W:Int) l=0∧∃g,e=.returned (.tuple #[.agg #[.int .i64 l.length,.int .i64 W,.int .i64 ((l.length:Int)*W),.slice (some ⟨g,0,none⟩) k k],.int .i64 0])∧w.heap.size≤g∧Own w' g (mkS l W l.length)∧Below w.heap.size w w')∨
      (imE (W:Int) l≠0∧e=.returned (.tuple #[.agg #[.int .i64 0,.int .i64 0,.int .i64 0,.slice none 0 0],.int .i64 2])∧Below w.heap.size w w'):=by
  have hll:l.length≤1048576:=Nat.le_trans (Nat.le_mul_of_pos_right _ (by omega)) hm;have hmi:(0:Int)≤(l.length:Int)*(W:Int):=Int.mul_nonneg (by omega) (by omega)
  have hmi2:(l.length:Int)*(W:Int)≤1048576:=by rw[←Int.natCast_mul];omega
  have HK:Hid (k=(l.length*W+63)/64):=hk;have d1:decide ((W:Int)<1)=false:=by simp;omega
  have d2:decide (64<(W:Int))=false:=by simp;omega
  have d3:decide ((1048576:Int)<(l.length:Int))=false:=by simp;omega
  have HI:Hid ((∀j,j<l.length→lenI (gt l j)≤W)→imE (W:Int) l=0):=fun h=>by
    unfold imE;rw[if_neg];rintro(h1 | h1 | h1 | h1)<;>first | omega | exact h1 h
  have HJ:Hid (∀j,j<l.length→(W:Int)<lenI (gt l j)→imE (W:Int) l≠0):=fun j hj h e=>by
    have:=(imE_zero _ l e).2.2.2 j hj;omega
  obtain⟨i0,hi,hz0,hz1,hz2⟩:=info_parts info4;clear hk;go_enter Tryz.func127,Tryz.ntmps127;go_wp2
  go_loopw [6,7] (fun v i wr=>∃q:Nat,q≤l.length∧i=.int .i64 q∧wr.ownsRow (w.heap.size+1) 4 1 v (q*W) (bv (mb l W (q*W)))∧Hid (∀j,j<q→lenI (gt l j)≤W)∧RB w wr) (fun _ i _=>l.length-(intOf i).toNat)
  case atStart=>exact⟨0,Nat.zero_le _,rfl,by rw[Nat.zero_mul];exact World.ownsRow_nil _ _ _ _,fun j hj=>absurd hj (by omega),RB.new w⟩
  case round=>
    obtain⟨q,hq,rfl,hown,HA,rb⟩:=hrel;by_cases hlt:q<l.length
    · obtain⟨b,off,rfl,hb,hc⟩:=hx (by omega)
      have e1:=(rb.bel.cell (p:=⟨b,off+q,none⟩) hb).trans (hc q hlt);have hlt3:(q:Int)<(l.length:Int):=by omega
      have F1:Hid ((gt l q:Int)<18446744073709551616):=by unfold Hid;have:=hf q;omega
      by_cases hfit:lenI (gt l q)≤(W:Int)
      · have dF:decide (lenI (gt l q)≤(W:Int))=true:=by simpa using hfit
        have HF:Hid (lenI (gt l q)≤(W:Int)):=hfit;clear hfit;have hn:=mul_next l.length W q hlt;have hqm:q*W+W≤1048576:=by omega
        clear hc;go_wp2_with (go_at_call 180;refine(reffits_c _ _ ?_ ?_ _).mono ?_;(exact Int.natCast_nonneg _);exact F1.out;rintro e w' ⟨rfl,rfl⟩)
        go_loopw [6,8] (fun v j wr=>∃k:Nat,k≤W∧j=.int .i64 k∧wr.ownsRow (w.heap.size+1) 4 1 v (q*W+k) (bv (mb l W (q*W+k)))∧wr.cell? ⟨b,off+q,none⟩=some (.int .u64 (gt l q))∧RB w wr) (fun _ j _=>W-(intOf j).toNat)
        case atStart=>exact⟨0,Nat.zero_le _,rfl,hown,e1,rb⟩
        case round=>
          clear hown e1 rb;obtain⟨k,hk,rfl,hown,e1,rb⟩:=hrel;by_cases hk2:k<W
          · have hk3:(k:Int)<(W:Int):=by omega
            have hk4:k<64:=by omega
            have rlt:=rb.lt;have hbw:b<w.heap.size:=hb;have BT:Hid ((((gt l q:Int)/2^k).tmod 2==1)=(gt l q).testBit k):=shr_bit _ _
            go_wp2_with (at_builtin;refine wpList_append_own _ rfl _ _ 85 rfl (w.heap.size+1) 4 i0 (.bool false) 1 1 Tryz.underlying85 hi hz0 hz1 hz2 rfl (by decide) _ _ _ rfl (hown.alloc _) ⟨wr.heap.size,0,none⟩ 1 1 [.bool (((gt l q:Int)/2^k).tmod 2==1)] rfl rfl ?c1 ?c2 ?c3 ?c4 ?c5 ?_)
            case c1=>
              intro j u hj;match j,hj with
              | 0,hj=>simp at hj;subst hj;simp[Addr.add]
            case c2=>intro u hu;simp at hu;subst hu;rfl
            case c3=>unfold maxLen;omega
            case c4=>omega
            case c5=>simp;omega
            intro v' w3 hown3 hgrow _;have hrow:∀k,u6.ownBlock=some k→w.heap.size+1≤k:=fun k hk=>(hown.lt k hk).1
            have hb3:Below (w.heap.size+1) (wr.alloc (.cells #[.bool (((gt l q:Int)/2^k).tmod 2==1)] 4)) w3:=(Below.refl _ _).grown hgrow (by simp;omega) hrow
            have hb4:Below (w.heap.size+1) wr w3:=Below.trans ((Below.refl _ _).alloc (by omega) _) hb3;have e3:=(hb4.cell (p:=⟨b,off+q,none⟩) (show b<w.heap.size+1 by omega)).trans e1
            have rb3:=rb.keep hb4;rw[BT.out,mb_succ l W q k hk2]at hown3;have HO:Hid (w3.ownsRow (w.heap.size+1) 4 1 v' (q*W+(k+1)) (bv (mb l W (q*W+(k+1))))):=hown3
            clear hgrow hb3 hb4 hown3 hrow e1 rb hown BT;go_wp2
            first
              | exact⟨⟨k+1,by omega,by go_num,HO.out,e3,rb3⟩,by simp only[intOf];omega⟩
              | (go_roundw
                 case rel=>exact⟨k+1,by omega,by go_num,HO.out,e3,rb3⟩
                 case measure=>simp only[intOf];omega)
          · have hkW:k=W:=by omega
            have HO:Hid (wr.ownsRow (w.heap.size+1) 4 1 u6 ((q+1)*W) (bv (mb l W ((q+1)*W)))):=by
              rw[hkW]at hown;rw[Nat.add_mul,Nat.one_mul];exact hown
            have HA2:Hid (∀j,j<q+1→lenI (gt l j)≤W):=fun j hj=>by
              by_cases e:j=q
              · subst e;exact HF.out
              · exact HA.out j (by omega)
            clear hkW hown e1;go_wp2
            first
              | exact⟨⟨q+1,by omega,by go_num,HO.out,HA2,rb⟩,by simp only[intOf];omega⟩
              | (go_roundw
                 case rel=>exact⟨q+1,by omega,by go_num,HO.out,HA2,rb⟩
                 case measure=>simp only[intOf];omega)
      · have dF:decide (lenI (gt l q)≤(W:Int))=false:=by simpa using hfit
        have HF:Hid (imE (W:Int) l≠0):=HJ.out q hlt (by omega);clear hfit;obtain⟨k0,k1,k2,k3,f0,f1,f2,f3,rl,rbel⟩:=rb
        go_wp2_with (go_at_call 180;refine(reffits_c _ _ ?_ ?_ _).mono ?_;(exact Int.natCast_nonneg _);exact F1.out;rintro e w' ⟨rfl,rfl⟩)
        refine bodyPost_ret (v:=.tuple #[.agg #[.int .i64 0,.int .i64 0,.int .i64 0,.slice none 0 0],.int .i64 2]) (by simp[results,Tryz.results127,go_sem,k0,k1,k2,k3]) rfl (.inr ⟨HF.out,rfl,?_⟩)
        exact(((rbel.setCell (by simp) _).setCell (by simp) _).setCell (by simp) _).setCell (by simp) _
    · have hq2:q=l.length:=by omega
      subst hq2;have HE:Hid (imE (W:Int) l=0):=HI.out HA.out;obtain⟨bo,dap,rfl,hB,hBn⟩:=bl_owns hown;clear hown HI HJ HA hlt;have rlt:=rb.lt;go_wp2_with fail
      refine(reffrom_n _ _ _ _ k _ hBn hB hm HK.out).mono ?_;rintro e w1 ⟨g,rfl,hg1,hO,hb⟩;rw[mb_row]at hO;replace rb:=rb.keep (hb.mono (by omega));have hg0:w.heap.size<g:=by omega
      have HO:Hid (Own w1 g (mkS l W l.length)):=hO;have hgl:=hO.lt;clear hb hB hBn hO
      have PB:=(rb.put (.int .i64 l.length) (.int .i64 W) (.int .i64 ((l.length:Int)*W)) (.slice (some ⟨g,0,none⟩) k k)).keep (below_alloc _ (.cells #[.int .i64 ((l.length:Int)*W),.slice (some ⟨g,0,none⟩) k k] 33))
      have HPB:Hid (Box4 _ _ _ _ _ _):=PB;clear PB;obtain⟨k0,k1,k2,k3,f0,f1,f2,f3,rl,rbel⟩:=rb;go_wp2;obtain⟨_,p0,p1,p2,p3⟩:=HPB.out
      refine bodyPost_ret (v:=.tuple #[.agg #[.int .i64 l.length,.int .i64 W,.int .i64 ((l.length:Int)*W),.slice (some ⟨g,0,none⟩) k k],.int .i64 0]) (by simp[results,Tryz.results127,go_sem,p0,p1,p2,p3]) rfl (.inl ⟨HE.out,g,rfl,by omega,?_,?_⟩)
      · exact((((HO.out.set_other (by simp;omega) _).set_other (by simp;omega) _).set_other (by simp;omega) _).set_other (by simp;omega) _).keep (below_alloc _ _)
      · exact((((rbel.setCell (by simp) _).setCell (by simp) _).setCell (by simp) _).setCell (by simp) _).alloc (by simp only[size_set];omega) _
def lsS(n:Nat)(f:Nat→Nat)(k:Nat):List Nat:=(List.range n).map fun i=>if i<k then f i else 0
theorem length_lsS(n:Nat)(f:Nat→Nat)(k:Nat):(lsS n f k).length=n:=by simp[lsS]
theorem gt_lsS(n:Nat)(f:Nat→Nat)(k j:Nat):gt (lsS n f k) j=if j<n∧j<k then f j else 0:=by
 unfold lsS gt;rw[List.getD_eq_getElem?_getD,List.getElem?_map];by_cases h:j<n
 ·rw[List.getElem?_range h];by_cases c:j<k<;>simp[h,c]
 ·rw[List.getElem?_eq_none (by simp;omega)];simp[h]
theorem lsS_zero(n:Nat)(f:Nat→Nat):List.replicate n 0=lsS n f 0:=by
 refine list_ext _ _ (by rw[length_lsS];simp) fun i hi=>?_;rw[gt_lsS];simp only[List.length_replicate]at hi;unfold gt;rw[List.getD_eq_getElem?_getD,List.getElem?_replicate];simp[hi]
theorem lsS_step(n:Nat)(f:Nat→Nat)(k:Nat)(h:k<n):(lsS n f k).set k (f k)=lsS n f (k+1):=by
 refine list_ext _ _ (by rw[List.length_set,length_lsS,length_lsS]) fun i hi=>?_;rw[gt_set _ _ _ _ (by rw[length_lsS];exact h),gt_lsS,gt_lsS];rw[List.length_set,length_lsS]at hi;by_cases c:k=i
 ·subst c;simp[h]
 ·rw[if_neg c];by_cases d:i<k
  ·simp[hi,d,show i<k+1 by omega]
  ·simp[d,show ¬i<k+1 by omega]
theorem lsS_all(n:Nat)(f:Nat→Nat):lsS n f n=(List.range n).map f:=by
 unfold lsS;refine List.map_congr_left fun i hi=>?_;rw[if_pos (List.mem_range.1 hi)]
theorem numAt_lt(n:Nat)(h:n≤64)(xs:List Nat)(i:Nat):numAt n xs i<18446744073709551616:=by
 have:=numOf_lt n (fun k=>bitAt xs (i*n+k));have h2:=Nat.pow_le_pow_right (n:=2) (j:=64) (by decide) h;rw[show(2:Nat)^64=18446744073709551616 from rfl]at h2;unfold numAt;omega
theorem fit_map(n:Nat)(f:Nat→Nat)(h:∀i,f i<18446744073709551616):Fit ((List.range n).map f):=by
 rw[←lsS_all];intro i;rw[gt_lsS];split
 ·exact h i
 ·decide
theorem gt_map(n:Nat)(f:Nat→Nat)(j:Nat)(h:j<n):gt ((List.range n).map f) j=f j:=by
 rw[←lsS_all,gt_lsS,if_pos ⟨h,h⟩]
theorem refmake_bad(W:Int)(al:Option Addr)(n cap:Nat)(w:World)(hn:n≤1048576)(h:W<1∨64<W∨1048576<(n:Int)*W):
  Calls Tryz.prog 127 #[.int .i64 W,.slice al n cap] w fun e w'=>e=.returned (.tuple #[.agg #[.int .i64 0,.int .i64 0,.int .i64 0,.slice none 0 0],.int .i64 2])∧Below w.heap.size w w':=by
 by_cases a1:W<1
 ·clear h;go_enter Tryz.func127,Tryz.ntmps127;go_wp2
  exact bodyPost_ret (v:=.tuple #[.agg #[.int .i64 0,.int .i64 0,.int .i64 0,.slice none 0 0],.int .i64 2]) (by simp[results,Tryz.results127,go_sem]) rfl ⟨rfl,below_alloc w _⟩
 have d1:decide (W<1)=false:=by simpa using a1
 by_cases a2:64<W
 ·clear h;go_enter Tryz.func127,Tryz.ntmps127;go_wp2
  exact bodyPost_ret (v:=.tuple #[.agg #[.int .i64 0,.int .i64 0,.int .i64 0,.slice none 0 0],.int .i64 2]) (by simp[results,Tryz.results127,go_sem]) rfl ⟨rfl,below_alloc w _⟩
 have d2:decide (64<W)=false:=by simpa using a2
 have d3:decide ((1048576:Int)<(n:Int))=false:=by simp;omega
 have h3:1048576<(n:Int)*W:=by omega
 have b2:(n:Int)*W≤1048576*64:=Int.mul_le_mul (by omega) (by omega) (by omega) (by omega);clear h;go_enter Tryz.func127,Tryz.ntmps127;go_wp2
 exact bodyPost_ret (v:=.tuple #[.agg #[.int .i64 0,.int .i64 0,.int .i64 0,.slice none 0 0],.int .i64 2]) (by simp[results,Tryz.results127,go_sem]) rfl ⟨rfl,below_alloc w _⟩
theorem refmake_c(W:Int)(al:Option Addr)(l:List Nat)(cap:Nat)(w:World)(hx:Wd w al l)(hf:Fit l)(hcap:l.length≤1048576):
  Calls Tryz.prog 127 #[.int .i64 W,.slice al l.length cap] w fun e w'=>∃bo dap,e=.returned (.tuple #[.agg #[.int .i64 (imN W l),.int .i64 (imW W l),.int .i64 (imM W l),.slice bo (imL W l).length dap],.int .i64 (imE W l)])∧OutF w w' bo (imL W l) dap:=by
 have bad:imE W l≠0→∀w':World,Below w.heap.size w w'→∃bo dap,Ending.returned (.tuple #[.agg #[.int .i64 0,.int .i64 0,.int .i64 0,.slice none 0 0],.int .i64 2])=.returned (.tuple #[.agg #[.int .i64 (imN W l),.int .i64 (imW W l),.int .i64 (imM W l),.slice bo (imL W l).length dap],.int .i64 (imE W l)])∧OutF w w' bo (imL W l) dap:=by
  intro hE w' hb;have h1:imL W l=[]:=by unfold imL;rw[if_neg hE]
  have h2:imN W l=0:=by unfold imN;rw[if_neg hE]
  have h3:imW W l=0:=by unfold imW;rw[if_neg hE]
  have h4:imM W l=0:=by unfold imM;rw[if_neg hE]
  rw[h1,h2,h3,h4,imE_bad W l hE];exact⟨none,0,rfl,fun h=>absurd h (by simp),fun i=>by unfold gt;simp,by simp,fun a ha=>(by cases ha),hb⟩
 by_cases h:W<1∨64<W∨1048576<(l.length:Int)*W
 ·have hE:imE W l≠0:=fun e=>by have:=imE_zero W l e;omega
  refine(refmake_bad W al l.length cap w hcap h).mono ?_;rintro e w' ⟨rfl,hb⟩;exact bad hE w' hb
 ·obtain⟨m,rfl⟩:=Int.eq_ofNat_of_zero_le (show 0≤W by omega)
  have hm:l.length*m≤1048576:=by
   have:((l.length*m:Nat):Int)≤1048576:=by rw[Int.natCast_mul];omega
   omega
  refine(refmake_loop m al l cap _ w hx hf (by omega) (by omega) hm rfl).mono ?_;rintro e w' (⟨hE,g,rfl,hg0,hO,hb⟩ | ⟨hE,rfl,hb⟩)
  ·have h1:imL (m:Int) l=mkS l m l.length:=by unfold imL;rw[if_pos hE,Int.toNat_natCast]
   have h2:imN (m:Int) l=l.length:=by unfold imN;rw[if_pos hE]
   have h3:imW (m:Int) l=m:=by unfold imW;rw[if_pos hE]
   have h4:imM (m:Int) l=(l.length:Int)*m:=by unfold imM;rw[if_pos hE]
   rw[h1,h2,h3,h4,hE];exact⟨some ⟨g,0,none⟩,_,by rw[length_mkS],hO.wd,fit_mkS _ _ _,by rw[length_mkS];exact Nat.le_refl _,fun a ha=>by cases ha;exact hg0,hb⟩
  ·exact bad hE w' hb
/-! The document's List: what is appended lies in memory of the call's own,with room behind it. -/
theorem wv_succ(m:Nat)(xs:List Nat)(q:Nat):wv ((List.range q).map (numAt m xs))++[.int .u64 (numAt m xs q)]=wv ((List.range (q+1)).map (numAt m xs)):=by
 unfold wv;rw[List.range_succ,List.map_append,List.map_append];rfl
theorem owns_below{w w':World}{base e n:Nat}{v:Value}{vs:List Value}(h:w.ownsRow base e 1 v n vs)(hb:Below w.heap.size w w'):w'.ownsRow base e 1 v n vs:=by
 obtain⟨h1,h2 | ⟨g,cap,cur,e1,e2,hh,r⟩⟩:=h
 ·exact⟨h1,.inl h2⟩
 ·exact⟨h1,.inr ⟨g,cap,cur,e1,e2,(hb.block g ((Array.getElem?_eq_some_iff.1 hh).1)).trans hh,r⟩⟩
theorem reflist_ok(M:Int)(n m:Nat)(ao:Option Addr)(xs:List Nat)(cap:Nat)(w:World)(hx:Wd w ao xs)(hf:Fit xs)(hk:ichk (n:Int) (m:Int) M xs=true):
    Calls Tryz.prog 166 #[.agg #[.int .i64 n,.int .i64 m,.int .i64 M,.slice ao xs.length cap]] w fun e w'=>∃v,e=.returned v∧w'.ownsRow w.heap.size 110 1 v n (wv ((List.range n).map (numAt m xs)))∧Below w.heap.size w w':=by
  obtain⟨a1,a2,a3,a4,a5,a6,a7,a8⟩:=ichk_out n m M xs hk;have hn:n≤1048576:=by omega
  have HX:Hid (∀k:Nat,k<n→((igX n m M xs k:Nat):Int)=((numAt m xs k:Nat):Int)):=by
    intro k hlt;unfold igX;rw[if_pos (igE_of n m M xs k hk (by omega) (by omega)),Int.toNat_natCast,Int.toNat_natCast]
  obtain⟨i0,hi,hz0,hz1,hz2⟩:=info_parts Tryz.info110;clear a3 a4 a5;go_enter Tryz.func166,Tryz.ntmps166;go_wp2
  go_loopw [3,4] (fun v i wr=>∃q:Nat,q≤n∧i=.int .i64 q∧wr.ownsRow (w.heap.size+1) 110 1 v q (wv ((List.range q).map (numAt m xs)))∧Box4 wr w.heap.size (.int .i64 n) (.int .i64 m) (.int .i64 M) (.slice ao xs.length cap)∧wr.cell? ⟨w.heap.size,0,none⟩=some (.int .i64 n)∧Below w.heap.size w wr) (fun _ i _=>n-(intOf i).toNat)
  case atStart=>exact⟨0,Nat.zero_le _,rfl,World.ownsRow_nil _ _ _ _,⟨by simp,by simp,by simp,by simp,by simp⟩,by simp,below_alloc _ _⟩
  case round=>
    obtain⟨q,hq,rfl,hown,B,r0,hwr⟩:=hrel;have hx':=hx.keep hwr;by_cases hlt:q<n
    · have hlt2:(q:Int)<(n:Int):=by omega
      have R:Hid (((igX n m M xs q:Nat):Int)=((numAt m xs q:Nat):Int)):=HX.out q hlt;obtain⟨bl,b0,b1,b2,b3⟩:=B;have hlt5:decide ((q:Int)<(n:Int))=true:=by simpa using hlt2
      go_wp2_with fail;refine(irefcheck_c _ _ _ _ _ _ _ hx' hf).mono ?_;rintro e w2 ⟨rfl,hb⟩;have B:Box4 w2 w.heap.size _ _ _ _:=Box4.keep ⟨bl,b0,b1,b2,b3⟩ hb;have hx2:=hx'.keep hb
      replace hown:=owns_below hown hb;replace hwr:=hwr.trans (hb.mono hwr.size);clear hb bl b0 b1 b2 b3 hx' r0;obtain⟨bl,b0,b1,b2,b3⟩:=B;go_wp2_with fail;refine(irefget_c _ _ _ _ _ _ _ _ hx2 hf).mono ?_
      rintro e w3 ⟨rfl,hb⟩;have B:Box4 w3 w.heap.size _ _ _ _:=Box4.keep ⟨bl,b0,b1,b2,b3⟩ hb;replace hown:=owns_below hown hb;replace hwr:=hwr.trans (hb.mono hwr.size);clear hb bl b0 b1 b2 b3 hx2;have bl:=B.1
      go_wp2_with (at_builtin;refine wpList_append_own _ rfl _ _ 31 rfl (w.heap.size+1) 110 i0 (.int .u64 0) 1 8 Tryz.underlying31 hi hz0 hz1 hz2 rfl (by decide) _ _ _ rfl (hown.alloc _) ⟨w3.heap.size,0,none⟩ 1 1 [.int .u64 (igX n m M xs q)] rfl rfl ?c1 ?c2 ?c3 ?c4 ?c5 ?_)
      case c1=>
        intro j u hj;match j,hj with
        | 0,hj=>simp at hj;subst hj;simp[Addr.add]
      case c2=>intro u hu;simp at hu;subst hu;rfl
      case c3=>unfold maxLen;omega
      case c4=>omega
      case c5=>simp;omega
      intro v' w4 hown4 hgrow _;have hrow:∀k,u3.ownBlock=some k→w.heap.size+1≤k:=fun k hk=>(hown.lt k hk).1
      have hb3:Below (w.heap.size+1) (w3.alloc (.cells #[.int .u64 (igX n m M xs q)] 110)) w4:=(Below.refl _ _).grown hgrow (by simp;omega) hrow
      have hb4:Below (w.heap.size+1) w3 w4:=Below.trans ((Below.refl _ _).alloc (by omega) _) hb3
      have B4:Box4 w4 w.heap.size (.int .i64 n) (.int .i64 m) (.int .i64 M) (.slice ao xs.length cap):=⟨Nat.lt_of_lt_of_le bl hb4.size,(hb4.cell (p:=⟨w.heap.size,0,none⟩) (by simp)).trans B.2.1,(hb4.cell (p:=⟨w.heap.size,1,none⟩) (by simp)).trans B.2.2.1,(hb4.cell (p:=⟨w.heap.size,2,none⟩) (by simp)).trans B.2.2.2.1,(hb4.cell (p:=⟨w.heap.size,3,none⟩) (by simp)).trans B.2.2.2.2⟩
      have hw4:=hwr.trans (hb4.mono (by omega));rw[R.out,wv_succ]at hown4;have HO:Hid (w4.ownsRow (w.heap.size+1) 110 1 v' (q+1) (wv ((List.range (q+1)).map (numAt m xs)))):=hown4;have s0:=B4.2.1
      clear hgrow hown hb3 hb4 hown4 hrow B bl hwr R;go_wp2
      first
        | exact⟨⟨q+1,by omega,by go_num,HO.out,B4,s0,hw4⟩,by simp only[intOf];omega⟩
        | (go_roundw
           case rel=>exact⟨q+1,by omega,by go_num,HO.out,B4,s0,hw4⟩
           case measure=>simp only[intOf];omega)
    · have hqm:q=n:=by omega
      have hlt5:decide ((q:Int)<(n:Int))=false:=by simp;omega
      have HO:Hid (wr.ownsRow w.heap.size 110 1 u3 n (wv ((List.range n).map (numAt m xs)))):=by
        rw[hqm]at hown;obtain⟨h1,h2 | ⟨g,c,cur,e1,e2,r⟩⟩:=hown
        · exact⟨h1,.inl h2⟩
        · exact⟨h1,.inr ⟨g,c,cur,e1,by omega,r⟩⟩
      clear hqm hown;go_wp2;go_ret;exact⟨u3,rfl,HO.out,hwr⟩
end Go.Proofs.YtfnkklkdajlhlaaGreatDoor
namespace Go.Proofs.YtfnkklkdajlhlaaGreatDoor
open Num
namespace Bn
def ch:Nat→Nat→Nat
 | _,0=>1
 | 0,_+1=>0
 | n+1,k+1=>ch n k+ch n (k+1)
theorem ch_zero(n:Nat):ch n 0=1:=by cases n<;>rfl
theorem ch_succ(n k:Nat):ch (n+1) (k+1)=ch n k+ch n (k+1):=rfl
theorem ch_out:∀n k,n<k→ch n k=0:=by
 intro n;induction n with
 | zero=>intro k h;match k,h with | k+1,_=>rfl
 | succ n ih=>intro k h;match k,h with | k+1,h=>rw[ch_succ,ih k (by omega),ih (k+1) (by omega)]
theorem ch_pos:∀n k,k≤n→0<ch n k:=by
  intro n;induction n with
  | zero => intro k h; obtain rfl : k = 0 := by omega
            exact Nat.one_pos
  | succ n ih=>
    intro k h;match k,h with
    | 0,_=>rw[ch_zero];exact Nat.one_pos
    | k+1,h=>rw[ch_succ];have:=ih k (by omega);omega
theorem ch_le:∀n k,ch n k≤2^n:=by
 intro n;induction n with
 | zero=>intro k;match k with | 0=>exact Nat.le_refl _ | k+1=>exact Nat.zero_le _
 | succ n ih=>
  intro k;match k with
  | 0=>rw[ch_zero];exact Nat.one_le_two_pow
  | k+1=>rw[ch_succ,Nat.pow_succ];have:=ih k;have:=ih (k+1);omega
theorem ch_mono(n k:Nat):ch n k≤ch (n+1) k:=by
 match k with
 | 0=>rw[ch_zero,ch_zero];exact Nat.le_refl _
 | k+1=>rw[ch_succ];omega
def off(x:Nat):Nat→Nat
 | 0=>0
 | n+1=>off x n+if x/2^n%2=1 then ch n (cnt x (n+1))else 0
theorem off_lt(x:Nat):∀n,off x n<ch n (cnt x n):=by
 intro n;induction n with
 | zero=>exact Nat.one_pos
 | succ n ih=>
  rw[off];by_cases hb:x/2^n%2=1
  ·rw[if_pos hb];have e:cnt x (n+1)=cnt x n+1:=by rw[cnt,hb]
   rw[e,ch_succ];omega
  ·rw[if_neg hb];have e:cnt x (n+1)=cnt x n:=by rw[cnt];omega
   rw[e];have:=ch_mono n (cnt x n);omega
theorem off_mod(x m:Nat):∀n,n≤m→off (x%2^m) n=off x n:=by
 intro n;induction n with
 | zero=>intro _;rfl
 | succ n ih=>
  intro h;rw[off,off,ih (by omega),bit_mod x m n (by omega),cnt_mod x m (n+1) h]
def blk:Nat→Nat→Nat→Nat
 | 0,_,_=>0
 | i+1,k,o=>if k=0 then 0 else if ch i k≤o then 2^i+blk i (k-1) (o-ch i k)else blk i k o
theorem blk_zero(n o:Nat):blk n 0 o=0:=by
 cases n with
 | zero=>rfl
 | succ n=>rw[blk,if_pos rfl]
theorem blk_hi(i k o:Nat)(hk:k≠0)(h:ch i k≤o):blk (i+1) k o=2^i+blk i (k-1) (o-ch i k):=by rw[blk,if_neg hk,if_pos h]
theorem blk_lo(i k o:Nat)(hk:k≠0)(h:¬ch i k≤o):blk (i+1) k o=blk i k o:=by rw[blk,if_neg hk,if_neg h]
theorem blk_lt:∀n k o,blk n k o<2^n:=by
 intro n;induction n with
 | zero=>intro k o;exact Nat.one_pos
 | succ n ih=>
  intro k o;have p:2^(n+1)=2^n+2^n:=by rw[Nat.pow_succ];omega
  by_cases hk:k=0
  ·subst hk;rw[blk_zero];exact Nat.two_pow_pos _
  ·by_cases h:ch n k≤o
   ·rw[blk_hi n k o hk h];have:=ih (k-1) (o-ch n k);omega
   ·rw[blk_lo n k o hk h];have:=ih k o;omega
theorem mod_bit(x n:Nat):x%2^(n+1)=x%2^n+2^n*(x/2^n%2):=by rw[Nat.mod_pow_succ]
theorem blk_off(x:Nat):∀n,blk n (cnt x n) (off x n)=x%2^n:=by
 intro n;induction n with
 | zero=>simp[blk,Nat.mod_one]
 | succ n ih=>
  rw[mod_bit];by_cases hb:x/2^n%2=1
  ·have e:cnt x (n+1)=cnt x n+1:=by rw[cnt,hb]
   have eo:off x (n+1)=off x n+ch n (cnt x n+1):=by rw[off,if_pos hb,e]
   rw[e,eo,blk_hi _ _ _ (by omega) (by omega),hb,Nat.add_sub_cancel,Nat.add_sub_cancel,ih];omega
  ·have e:cnt x (n+1)=cnt x n:=by rw[cnt];omega
   have eo:off x (n+1)=off x n:=by rw[off,if_neg hb,Nat.add_zero]
   have h0:x/2^n%2=0:=by omega
   rw[e,eo,h0,Nat.mul_zero];show _=x%2^n;by_cases hk:cnt x n=0
   ·rw[←ih,hk,blk_zero,blk_zero]
   ·have:=off_lt x n;rw[blk_lo _ _ _ hk (by omega),ih]
theorem ch62(n k:Nat)(h:n≤62):ch n k≤4611686018427387904:=by
 have:=ch_le n k;have:2^n≤2^62:=Nat.pow_le_pow_right (by decide) h;omega
def chN(n k:Int):Nat:=if n<0∨62<n∨k<0∨n<k then 0 else ch n.toNat k.toNat
def wdN(n k:Int):Nat:=if chN n k=0 then 0 else Go.bitLen (chN n k-1)
def ofK(x:Nat)(n:Int):Nat:=if n<0∨62<n then 0 else cnt x n.toNat
def ofO(x:Nat)(n:Int):Nat:=if n<0∨62<n then 0 else off x n.toNat
def bkX(n k:Int)(o:Nat):Nat:=if chN n k≤o then 0 else blk n.toNat k.toNat o
def bkB(n k:Int)(o:Nat):Bool:=decide (o<chN n k)
theorem chN_in(n k:Nat)(h:n≤62):chN n k=ch n k:=by
 unfold chN;by_cases c:n<k
 ·rw[if_pos (by omega),ch_out n k c]
 ·rw[if_neg (by omega),Int.toNat_natCast,Int.toNat_natCast]
theorem chN_le(n k:Int):chN n k≤4611686018427387904:=by
 unfold chN;split
 ·omega
 ·exact ch62 _ _ (by omega)
theorem wd_le(n k:Int):wdN n k≤62:=by
 unfold wdN;split
 ·omega
 ·have:=chN_le n k;exact len_le _ 62 (by omega)
theorem lt_len(x:Nat)(h:x<18446744073709551616):x<2^Go.bitLen x:=by
 by_cases h0:x=0
 ·subst h0;exact Nat.two_pow_pos _
 ·obtain⟨p,hp,h1,_,hd,_⟩:=long (x:Int) (by omega) (by omega) (by omega);unfold lenI at hp;rw[Int.toNat_natCast]at hp;have hp2:Go.bitLen x=p:=by omega
  rw[hp2]
  have e:x/2^(p-1)=1:=by
   rw[shr_nat _ _ (by omega),Int.toNat_natCast]at hd;omega
  have e2:2^p=2^(p-1)*2:=by
   obtain⟨m,rfl⟩:∃m,p=m+1:=⟨p-1,by omega⟩;rw[Nat.add_sub_cancel,Nat.pow_succ]
  have q:=Nat.two_pow_pos (p-1);have:=Nat.lt_mul_div_succ x q;rw[e]at this;omega
end Bn
end Go.Proofs.YtfnkklkdajlhlaaGreatDoor
namespace Go.Proofs.YtfnkklkdajlhlaaGreatDoor
open Num Bn
namespace Bit
def nb(N:Nat):Nat:=(N+14)/15
def blv(N:Nat)(f:Nat→Bool)(i:Nat):Nat:=numOf 15 fun k=>decide (15*i+k<N)&&f (15*i+k)
def bcl(N:Nat)(f:Nat→Bool)(i:Nat):Nat:=cnt (blv N f i) 15
def bof(N:Nat)(f:Nat→Bool)(i:Nat):Nat:=off (blv N f i) 15
def kwd(k:Nat):Nat:=Go.bitLen (ch 15 k-1)
def bwd(N:Nat)(f:Nat→Bool)(i:Nat):Nat:=kwd (bcl N f i)
def bat(N:Nat)(f:Nat→Bool):Nat→Nat
 | 0=>0
 | i+1=>bat N f i+bwd N f i
def bon(N:Nat)(f:Nat→Bool):Nat→Nat
 | 0=>0
 | i+1=>bon N f i+bcl N f i
def bits(x n:Nat):List Bool:=(List.range n).map x.testBit
def bofP(N:Nat)(f:Nat→Bool):Nat→List Bool
 | 0=>[]
 | i+1=>bofP N f i++bits (bof N f i) (bwd N f i)
def bclP(N:Nat)(f:Nat→Bool)(i:Nat):List Nat:=(List.range i).map (bcl N f)
theorem length_bits(x n:Nat):(bits x n).length=n:=by simp[bits]
theorem length_bofP(N:Nat)(f:Nat→Bool)(i:Nat):(bofP N f i).length=bat N f i:=by
 induction i with
 | zero=>rfl
 | succ i ih=>rw[bofP,List.length_append,ih,length_bits,bat]
theorem length_bclP(N:Nat)(f:Nat→Bool)(i:Nat):(bclP N f i).length=i:=by simp[bclP]
theorem bcl_le(N:Nat)(f:Nat→Bool)(i:Nat):bcl N f i≤15:=cnt_le _ _
theorem kwd_le(k:Nat):kwd k≤15:=len_le _ 15 (by
 have:=ch_le 15 k;have p:(2:Nat)^15=32768:=by decide
 omega)
theorem bwd_le(N:Nat)(f:Nat→Bool)(i:Nat):bwd N f i≤15:=kwd_le _
theorem kwd_le13(k:Nat)(h:k≤15):kwd k≤13:=by
 match k,h with
 | 0,_ | 1,_ | 2,_ | 3,_ | 4,_ | 5,_ | 6,_ | 7,_ | 8,_ | 9,_ | 10,_ | 11,_ | 12,_ | 13,_ | 14,_ | 15,_=>decide +kernel
theorem bat_le(N:Nat)(f:Nat→Bool)(i:Nat):bat N f i≤13*i:=by
 induction i with
 | zero=>exact Nat.le_refl _
 | succ i ih=>have:=kwd_le13 (bcl N f i) (bcl_le N f i);rw[bat,bwd];omega
theorem bon_le(N:Nat)(f:Nat→Bool)(i:Nat):bon N f i≤15*i:=by
 induction i with
 | zero=>exact Nat.le_refl _
 | succ i ih=>have:=bcl_le N f i;rw[bon];omega
theorem bof_lt(N:Nat)(f:Nat→Bool)(i:Nat):bof N f i<ch 15 (bcl N f i):=off_lt _ _
theorem bof_fit(N:Nat)(f:Nat→Bool)(i:Nat):bof N f i<2^bwd N f i:=by
 have h:=bof_lt N f i;have c:=ch62 15 (bcl N f i) (by decide);have:=lt_len (ch 15 (bcl N f i)-1) (by omega);unfold bwd kwd;omega
theorem num_bits(x n:Nat)(h:x<2^n):numOf n x.testBit=x:=by
 refine(eq_numOf n x _ fun k=>?_).symm;by_cases c:k<n
 ·simp[c]
 ·have:x<2^k:=Nat.lt_of_lt_of_le h (Nat.pow_le_pow_right (by decide) (by omega));rw[Nat.testBit_lt_two_pow this];simp[c]
theorem bofP_get(N:Nat)(f:Nat→Bool):∀n i t,i<n→t<bwd N f i→(bofP N f n)[bat N f i+t]?=some ((bof N f i).testBit t):=by
 intro n;induction n with
 | zero=>intro i t h;omega
 | succ n ih=>
  intro i t hi ht;rw[bofP];by_cases c:i<n
  ·have:=ih i t c ht;have hl:=(List.getElem?_eq_some_iff.1 this).1;rw[List.getElem?_append_left hl,this]
  ·obtain rfl:i=n:=by omega
   rw[List.getElem?_append_right (by rw[length_bofP];omega),length_bofP,Nat.add_sub_cancel_left];unfold bits;rw[List.getElem?_map,List.getElem?_range ht];rfl
def addB(N:Nat)(out:List Bool)(b:Nat):List Bool:=out++bits b (min 15 (N-out.length))
def decG(N:Nat)(M:Int)(ys:List Nat):List Nat→Nat→List Bool→Option (List Bool)
 | [],_,out=>some out
 | k::l,at_,out=>
  if slcE M ys at_ (wdN 15 k)=0∧bkB 15 k (slcX M ys at_ (wdN 15 k))=true then decG N M ys l (at_+wdN 15 k) (addB N out (bkX 15 k (slcX M ys at_ (wdN 15 k))))else none
theorem wdN_k(k:Nat)(h:k≤15):wdN 15 k=kwd k:=by
 unfold wdN kwd;have e:chN (15:Int) (k:Int)=ch 15 k:=chN_in 15 k (by decide);have:=ch_pos 15 k h;rw[e,if_neg (by omega)]
theorem blv_lt(N:Nat)(f:Nat→Bool)(i:Nat):blv N f i<2^15:=numOf_lt _ _
theorem bk_back(N:Nat)(f:Nat→Bool)(i:Nat):bkB 15 (bcl N f i) (bof N f i)=true∧bkX 15 (bcl N f i) (bof N f i)=blv N f i:=by
 have e:chN (15:Int) (bcl N f i:Int)=ch 15 (bcl N f i):=chN_in 15 _ (by decide);have h:=bof_lt N f i;unfold bkB bkX;rw[e,if_neg (by omega)];refine⟨by simpa using h,?_⟩;have:=blk_off (blv N f i) 15
 rw[show((15:Int).toNat)=15 from rfl,Int.toNat_natCast];unfold bcl bof;rw[this,Nat.mod_eq_of_lt (blv_lt N f i)]
theorem addB_step(N:Nat)(f:Nat→Bool)(i:Nat):addB N ((List.range (min (15*i) N)).map f) (blv N f i)=(List.range (min (15*(i+1)) N)).map f:=by
 unfold addB;have e:min (15*(i+1)) N=min (15*i) N+min 15 (N-min (15*i) N):=by omega
 rw[e,List.range_add,List.map_append,List.length_map,List.length_range];congr 1;unfold bits;rw[List.map_map];refine List.map_congr_left fun t ht=>?_;have ht:=List.mem_range.1 ht;simp only[Function.comp];unfold blv
 rw[testBit_numOf];have a1:t<15:=by omega
 have a2:min (15*i) N=15*i:=by omega
 have a3:15*i+t<N:=by omega
 rw[a2];simp[a1,a3]
def Reads(N:Nat)(f:Nat→Bool)(M:Int)(ys:List Nat):Prop:=∀i,i<nb N→slcE M ys (bat N f i) (wdN 15 (bcl N f i))=0∧slcX M ys (bat N f i) (wdN 15 (bcl N f i))=bof N f i
theorem dec_enc(N:Nat)(f:Nat→Bool)(M:Int)(ys:List Nat)(h:Reads N f M ys):∀d i,i+d=nb N→decG N M ys ((List.range' i d).map (bcl N f)) (bat N f i) ((List.range (min (15*i) N)).map f)=some ((List.range N).map f):=by
 intro d;induction d with
 | zero=>
  intro i hi;have:min (15*i) N=N:=by unfold nb at hi;omega
  rw[this];rfl
 | succ d ih=>
  intro i hi;obtain⟨h1,h2⟩:=h i (by omega);obtain⟨b1,b2⟩:=bk_back N f i;rw[List.range'_succ,List.map_cons,decG,h2,if_pos ⟨h1,b1⟩,b2,addB_step]
  have e:bat N f i+wdN 15 (bcl N f i)=bat N f (i+1):=by rw[wdN_k _ (bcl_le N f i)];rfl
  rw[e];exact ih (i+1) (by omega)
theorem reads_row(N:Nat)(f:Nat→Bool)(hN:N≤1048576):Reads N f (bat N f (nb N)) (rowOf (bat N f (nb N)) fun j=>(bofP N f (nb N)).getD j false):=by
 intro i hi;have hb:=bat_le N f (nb N);have hb2:bat N f (nb N)≤1048576:=by unfold nb at hb⊢;omega
 have hw:=bwd_le N f i
 have mono:∀d j,bat N f j≤bat N f (j+d):=by
  intro d;induction d with
  | zero=>intro j;exact Nat.le_refl _
  | succ d ih=>intro j;have:=ih j;rw[show j+(d+1)=j+d+1 by omega,bat];omega
 have hm:bat N f (i+1)≤bat N f (nb N):=by
  have:=mono (nb N-(i+1)) (i+1);rw[show i+1+(nb N-(i+1))=nb N by omega]at this;exact this
 rw[bat]at hm;have ck:=chk_rowOf (bat N f (nb N)) (fun j=>(bofP N f (nb N)).getD j false) hb2;rw[wdN_k _ (bcl_le N f i),show kwd (bcl N f i)=bwd N f i from rfl]
 have e0:slcE (bat N f (nb N)) (rowOf (bat N f (nb N)) fun j=>(bofP N f (nb N)).getD j false) (bat N f i) (bwd N f i)=0:=by
  unfold slcE;rw[if_neg (by rw[ck];simp;omega),if_neg (by omega)]
 refine⟨e0,?_⟩;unfold slcX;rw[if_pos e0,Int.toNat_natCast,Int.toNat_natCast,←num_bits (bof N f i) (bwd N f i) (bof_fit N f i)];rw[num_bits (bof N f i) (bwd N f i) (bof_fit N f i)];refine(eq_numOf _ _ _ fun k=>?_).symm
 by_cases c:k<bwd N f i
 ·rw[bitAt_rowOf,List.getD_eq_getElem?_getD,bofP_get N f (nb N) i k hi c];simp[c,show bat N f i+k<bat N f (nb N)by omega]
 ·have:bof N f i<2^k:=Nat.lt_of_lt_of_le (bof_fit N f i) (Nat.pow_le_pow_right (by decide) (by omega));rw[Nat.testBit_lt_two_pow this];simp[c]
end Bit
end Go.Proofs.YtfnkklkdajlhlaaGreatDoor
namespace Go.Proofs.YtfnkklkdajlhlaaGreatDoor
open Go.RowKit Num Bit
theorem numOf_more(f:Nat→Bool)(q:Nat):∀d,(∀k,q≤k→f k=false)→numOf (q+d) f=numOf q f:=by
 intro d;induction d with
 | zero=>intro _;rfl
 | succ d ih=>
  intro h;rw[show q+(d+1)=q+d+1 by omega,numOf,ih h,h (q+d) (by omega)];simp
def bkf(N:Nat)(xs:List Nat)(at_:Nat)(k:Nat):Bool:=decide (at_+k<N)&&bitAt xs (at_+k)
theorem or_step(f:Nat→Bool)(q:Nat):numOf q f|||2^q=numOf q f+2^q:=by
 have:=Nat.two_pow_add_eq_or_of_lt (numOf_lt q f) 1;rw[Nat.mul_one]at this;rw[Nat.or_comm,←this,Nat.add_comm]
theorem r8block_c(m:Nat)(ao:Option Addr)(xs:List Nat)(cap:Nat)(p:Nat)(w:World)(hx:Wd w ao xs)(hk:chk (m:Int) xs=true)(hp:p≤m):
  Calls Tryz.prog 124 #[.agg #[.int .i64 m,.slice ao xs.length cap],.int .i64 p] w fun e w'=>e=.returned (.int .u64 (numOf 15 (bkf m xs p)))∧Below w.heap.size w w':=by
 obtain⟨h0,h1,h2, -⟩:=chk_out (m:Int) xs hk;have HL:Hid (∀j,j<m→j/64<xs.length):=fun j hj=>by omega
 clear h2;have m20:m≤1048576:=by omega
 go_enter Tryz.func124,Tryz.ntmps124;go_wp2
 go_loopw [5,6] (fun xv i wr=>∃q X:Nat,q≤15∧i=.int .i64 q∧xv=.int .u64 X∧Hid (X=numOf q (bkf m xs p))∧Cel wr w.heap.size [.int .i64 m,.slice ao xs.length cap] 33∧Below w.heap.size w wr) (fun _ i _=>15-(intOf i).toNat)
 case atStart=>exact⟨0,0,by omega,rfl,rfl,rfl,Cel.new w _ _,below_alloc w _⟩
 case round=>
  obtain⟨q,X,hq,rfl,rfl,HX,hC,hwr⟩:=hrel;have r0:=hC.cell 0 rfl;have r1:=hC.cell 1 rfl
  have bX:X<32768:=by
   rw[HX.out];have h:=numOf_lt q (bkf m xs p);have:2^q≤2^15:=Nat.pow_le_pow_right (by decide) hq;omega
  by_cases hlt:q<15
  ·by_cases hin:p+q<m
   ·have hin2:(p:Int)+(q:Int)<(m:Int):=by omega
    have q64:(q:Int)<64:=by omega
    have C2:Hid (∀w0,Below w.heap.size w w0→Calls Tryz.prog 31 #[.agg #[.int .i64 m,.slice ao xs.length cap],.int .i64 ((p:Int)+(q:Int))] w0 fun e w'=>e=.returned (.bool (bitAt xs (p+q)))∧Below w0.heap.size w0 w'):=fun w0 h=>at_c m ao xs cap (p+q) w0 (hx.keep h) (HL.out _ hin) (by omega)
    go_wp2_with fail;refine(C2.out _ hwr).mono ?_;rintro e w2 ⟨rfl,hb2⟩;have hw2:=hwr.trans (hb2.mono hwr.size);have hC2:=hC.kept hb2;clear hb2 r0 r1 C2;cases hbit:bitAt xs (p+q)with
    | true=>
     have HR:Hid (bits .or .u64 (X:Int) (IntKind.u64.wrap (2^q))=((X+2^q:Nat):Int)∧X+2^q=numOf (q+1) (bkf m xs p)):=by
      show _∧_;refine⟨?_,?_⟩
      ·rw[Bit.shl_one q (by omega),u64_or_nat _ _ (by omega) (two_pow_lt q (by omega)),HX.out,or_step]
      ·rw[numOf,←HX.out];unfold bkf;simp[hin,hbit]
     go_wp2;exact⟨⟨q+1,X+2^q,by omega,by go_num,congrArg (Value.int .u64) HR.out.1,HR.out.2,hC2,hw2⟩,by simp only[intOf];omega⟩
    | false=>
     have HR:Hid (X=numOf (q+1) (bkf m xs p)):=by
      show X=_;rw[numOf,←HX.out];unfold bkf;simp[hbit]
     go_wp2;exact⟨⟨q+1,X,by omega,by go_num,rfl,HR,hC2,hw2⟩,by simp only[intOf];omega⟩
   ·have hin2:¬(p:Int)+(q:Int)<(m:Int):=by omega
    have HR:Hid (numOf 15 (bkf m xs p)=X):=by
     show numOf 15 (bkf m xs p)=X;rw[HX.out,show(15:Nat)=q+(15-q)by omega,numOf_more _ q _ (fun k hk=>by unfold bkf;rw[decide_eq_false (by omega)];rfl)]
    go_wp2;go_ret;rw[HR.out];exact⟨rfl,hwr⟩
  ·obtain rfl:q=15:=by omega
   go_wp2;go_ret;rw[←HX.out];exact⟨rfl,hwr⟩
theorem Tryz.info4:(Tryz.prog.info? 4).map (fun i=>(i.zero,i.size,i.bytes))=some (some (.bool false),1,1):=by kernel_rfl
def bvl(l:List Bool):List Value:=l.map fun b=>Value.bool b
theorem bvl_snoc(x q:Nat):bvl (Bit.bits x q)++[.bool (x.testBit q)]=bvl (Bit.bits x (q+1)):=by
 unfold bvl Bit.bits;rw[List.range_succ,List.map_append,List.map_append];rfl
theorem test_end(x q:Nat):(((x:Int)/2^q).tmod 2==1)=x.testBit q:=by
 rw[bit_test,shr_cast];have:((x/2^q:Nat):Int).tmod 2=((x/2^q%2:Nat):Int):=by generalize x/2^q=z;rw[Int.tmod_eq_emod_of_nonneg (by omega)];omega
 rw[this,Bool.eq_iff_iff,beq_iff_eq,decide_eq_true_eq];omega
theorem low8_c(x n:Nat)(hx64:x<18446744073709551616)(hn:n≤64)(w:World):
    Calls Tryz.prog 125 #[.int .u64 x,.int .i64 n] w fun e w'=>∃v,e=.returned v∧w'.ownsRow w.heap.size 4 1 v n (bvl (Bit.bits x n))∧Below w.heap.size w w':=by
  obtain⟨i0,hi,hz0,hz1,hz2⟩:=info_parts Tryz.info4;have x0:(0:Int)≤(x:Int):=by omega
  go_enter Tryz.func125,Tryz.ntmps125;go_wp2;go_loopw [5,6] (fun v i wr=>∃q:Nat,q≤n∧i=.int .i64 q∧wr.ownsRow w.heap.size 4 1 v q (bvl (Bit.bits x q))∧Below w.heap.size w wr) (fun _ i _=>n-(intOf i).toNat)
  case atStart=>exact⟨0,Nat.zero_le _,rfl,World.ownsRow_nil _ _ _ _,Below.refl _ _⟩
  case round=>
    obtain⟨q,hq,rfl,hown,hwr⟩:=hrel;by_cases hlt:q<n
    · have hlt2:(q:Int)<(n:Int):=by omega
      have q64:(q:Int)<64:=by omega
      have T:Hid ((((x:Int)/2^q).tmod 2==1)=x.testBit q):=test_end x q;have hsz:=hwr.size
      go_wp2_with (at_builtin;rw[T.out];refine wpList_append_own _ rfl _ _ 85 rfl w.heap.size 4 i0 (.bool false) 1 1 Tryz.underlying85 hi hz0 hz1 hz2 rfl (by decide) _ _ _ rfl (hown.alloc _) ⟨wr.heap.size,0,none⟩ 1 1 [.bool (x.testBit q)] rfl rfl ?c1 ?c2 ?c3 ?c4 ?c5 ?_)
      case c1=>
        intro j u hj;match j,hj with
        | 0,hj=>simp at hj;subst hj;simp[Addr.add]
      case c2=>intro u hu;simp at hu;subst hu;rfl
      case c3=>unfold maxLen;omega
      case c4=>omega
      case c5=>simp;omega
      intro v' w3 hown3 hgrow _;have hrow:∀k,u5.ownBlock=some k→w.heap.size≤k:=fun k hk=>(hown.lt k hk).1
      have hb3:Below w.heap.size (wr.alloc (.cells #[.bool (x.testBit q)] 4)) w3:=(Below.refl _ _).grown hgrow (by simp;omega) hrow
      have hb4:Below w.heap.size wr w3:=Below.trans ((Below.refl _ _).alloc (by omega) _) hb3;have hw3:=hwr.trans hb4;rw[bvl_snoc]at hown3
      have HO:Hid (w3.ownsRow w.heap.size 4 1 v' (q+1) (bvl (Bit.bits x (q+1)))):=hown3;clear hgrow hown hb3 hb4 hown3 hrow hi hz0 hz1 hz2;go_wp2
      first
        | exact⟨⟨q+1,by omega,by go_num,HO.out,hw3⟩,by simp only[intOf];omega⟩
        | (go_roundw
           case rel=>exact⟨q+1,by omega,by go_num,HO.out,hw3⟩
           case measure=>simp only[intOf];omega)
    · have hqm:q=n:=by omega
      have HO:Hid (wr.ownsRow w.heap.size 4 1 u5 n (bvl (Bit.bits x n))):=by
        rw[hqm]at hown;exact hown
      clear hqm hown;go_wp2;go_ret;exact⟨u5,rfl,HO.out,hwr⟩
theorem isame_c8(aN aW aM:Int)(ao:Option Addr)(ax:List Nat)(ac:Nat)(bN bW bM:Int)(bo:Option Addr)(bx:List Nat)(bc:Nat)(w:World)(hx:Wd w ao ax)(hy:Wd w bo bx)(hl:ax.length≤1048576):
  Calls Tryz.prog 169 #[.agg #[.int .i64 aN,.int .i64 aW,.int .i64 aM,.slice ao ax.length ac],.agg #[.int .i64 bN,.int .i64 bW,.int .i64 bM,.slice bo bx.length bc]] w fun e w'=>e=.returned (.bool (decide (aN=bN)&&(decide (aW=bW)&&(decide (aM=bM)&&decide (ax=bx)))))∧Below w.heap.size w w':=by
 obtain⟨W,hW⟩:∃W,W=(w.alloc (.cells #[.int .i64 aN,.int .i64 aW,.int .i64 aM,.slice ao ax.length ac] 39)).alloc (.cells #[.int .i64 bN,.int .i64 bW,.int .i64 bM,.slice bo bx.length bc] 39):=⟨_,rfl⟩
 have bZ:Below w.heap.size w W:=by rw[hW];exact(below_alloc w _).alloc (by simp) _
 have B1:=yc3 hW;have B2:=yc2 hW
 have C1:Hid (∀w0,w0=W→Calls Tryz.prog 170 #[.agg #[.int .i64 aM,.slice ao ax.length ac],.agg #[.int .i64 bM,.slice bo bx.length bc]] w0 fun e w'=>e=.returned (.bool (decide (aM=bM)&&decide (ax=bx)))∧Below w0.heap.size w0 w'):=fun w0 h=>by subst h;exact same_c aM ao ax ac bM bo bx bc w0 (hx.keep bZ) (hy.keep bZ) hl
 generalize (decide (aM=bM)&&decide (ax=bx))=z at *;by_cases h1:aN=bN
 ·by_cases h2:aW=bW
  ·rw[decide_eq_true h1,decide_eq_true h2];subst h1 h2;go_enter Tryz.func169,Tryz.ntmps169;go_wp2_with fail;rw[←hW];refine(C1.out _ rfl).mono ?_;rintro e w1 ⟨rfl,hb⟩;have bw:=bZ.trans (hb.mono bZ.size);go_wp2;go_ret
   exact⟨by cases z<;>rfl,bw⟩
  ·rw[decide_eq_true h1,decide_eq_false h2];have e2:(aW==bW)=false:=by simpa using h2
   subst h1
   have bw:Below w.heap.size w ((w.alloc (.cells #[.int .i64 aN,.int .i64 aW,.int .i64 aM,.slice ao ax.length ac] 39)).alloc (.cells #[.int .i64 aN,.int .i64 bW,.int .i64 bM,.slice bo bx.length bc] 39)):=(below_alloc w _).alloc (by simp) _
   clear C1 B1 B2 bZ hW W;go_enter Tryz.func169,Tryz.ntmps169;go_wp2;go_ret;exact⟨rfl,bw⟩
 ·rw[decide_eq_false h1];have e1:(aN==bN)=false:=by simpa using h1
  have bw:Below w.heap.size w ((w.alloc (.cells #[.int .i64 aN,.int .i64 aW,.int .i64 aM,.slice ao ax.length ac] 39)).alloc (.cells #[.int .i64 bN,.int .i64 bW,.int .i64 bM,.slice bo bx.length bc] 39)):=(below_alloc w _).alloc (by simp) _
  clear C1 B1 B2 bZ hW W;go_enter Tryz.func169,Tryz.ntmps169;go_wp2;go_ret;exact⟨rfl,bw⟩
theorem r8same_c(aN ak aW aM:Int)(ao:Option Addr)(ax:List Nat)(ac:Nat)(aL:Int)(aq:Option Addr)(ay:List Nat)(ad:Nat)(as_:Option Addr)(au:List Int)(ae:Nat)(at_:Option Addr)(av:List Int)(af:Nat)(bN bk bW bM:Int)(bo:Option Addr)(bx:List Nat)(bc:Nat)(bL:Int)(bq:Option Addr)(b_y:List Nat)(bd:Nat)(bs:Option Addr)(bu:List Int)(be:Nat)(bt:Option Addr)(bv_:List Int)(bf:Nat)(w:World)(hx:Wd w ao ax)(hy:Wd w bo bx)(hl:ax.length≤1048576)(kx:Wd w aq ay)(ky:Wd w bq b_y)(kl:ay.length≤1048576)(s1:Nd w as_ au)(s2:Nd w bs bu)(sl:au.length≤1048576)(t1:Nd w at_ av)(t2:Nd w bt bv_)(tl:av.length≤1048576):
  Calls Tryz.prog 110 #[.agg #[.int .i64 aN,.int .i64 ak,.int .i64 aW,.int .i64 aM,.slice ao ax.length ac,.int .i64 aL,.slice aq ay.length ad,.slice as_ au.length ae,.slice at_ av.length af],.agg #[.int .i64 bN,.int .i64 bk,.int .i64 bW,.int .i64 bM,.slice bo bx.length bc,.int .i64 bL,.slice bq b_y.length bd,.slice bs bu.length be,.slice bt bv_.length bf]] w fun e w'=>e=.returned (.bool (decide (aN=bN)&&((decide (ak=bk)&&(decide (aW=bW)&&(decide (aM=bM)&&decide (ax=bx))))&&((decide (aL=bL)&&decide (ay=b_y))&&(decide (au=bu)&&decide (av=bv_))))))∧Below w.heap.size w w':=by
 obtain⟨W,hW⟩:∃W,W=(w.alloc (.cells #[.int .i64 aN,.int .i64 ak,.int .i64 aW,.int .i64 aM,.slice ao ax.length ac,.int .i64 aL,.slice aq ay.length ad,.slice as_ au.length ae,.slice at_ av.length af] 41)).alloc (.cells #[.int .i64 bN,.int .i64 bk,.int .i64 bW,.int .i64 bM,.slice bo bx.length bc,.int .i64 bL,.slice bq b_y.length bd,.slice bs bu.length be,.slice bt bv_.length bf] 41):=⟨_,rfl⟩
 have bZ:Below w.heap.size w W:=by rw[hW];exact(below_alloc w _).alloc (by simp) _
 have B1:=yc3 hW;have B2:=yc2 hW
 have C1:Hid (∀w0,w0=W→Calls Tryz.prog 169 #[.agg #[.int .i64 ak,.int .i64 aW,.int .i64 aM,.slice ao ax.length ac],.agg #[.int .i64 bk,.int .i64 bW,.int .i64 bM,.slice bo bx.length bc]] w0 fun e w'=>e=.returned (.bool (decide (ak=bk)&&(decide (aW=bW)&&(decide (aM=bM)&&decide (ax=bx)))))∧Below w0.heap.size w0 w'):=fun w0 h=>by subst h;exact isame_c8 ak aW aM ao ax ac bk bW bM bo bx bc w0 (hx.keep bZ) (hy.keep bZ) hl
 have C2:Hid (∀w0,Below w.heap.size w w0→Calls Tryz.prog 170 #[.agg #[.int .i64 aL,.slice aq ay.length ad],.agg #[.int .i64 bL,.slice bq b_y.length bd]] w0 fun e w'=>e=.returned (.bool (decide (aL=bL)&&decide (ay=b_y)))∧Below w0.heap.size w0 w'):=fun w0 h=>same_c aL aq ay ad bL bq b_y bd w0 (kx.keep h) (ky.keep h) kl
 have C3:Hid (∀w0,Below w.heap.size w w0→Calls Tryz.prog 171 #[.slice as_ au.length ae,.slice bs bu.length be] w0 fun e w'=>e=.returned (.bool (decide (au=bu)))∧Below w0.heap.size w0 w'):=fun w0 h=>rnum_c as_ au ae bs bu be w0 (s1.keep h) (s2.keep h) sl
 have C4:Hid (∀w0,Below w.heap.size w w0→Calls Tryz.prog 171 #[.slice at_ av.length af,.slice bt bv_.length bf] w0 fun e w'=>e=.returned (.bool (decide (av=bv_)))∧Below w0.heap.size w0 w'):=fun w0 h=>rnum_c at_ av af bt bv_ bf w0 (t1.keep h) (t2.keep h) tl
 generalize (decide (ak=bk)&&(decide (aW=bW)&&(decide (aM=bM)&&decide (ax=bx))))=z1 at *;generalize (decide (aL=bL)&&decide (ay=b_y))=z2 at *;generalize decide (au=bu)=z3 at *
 generalize decide (av=bv_)=z4 at *;by_cases h1:aN=bN
 ·rw[decide_eq_true h1];subst h1;go_enter Tryz.func110,Tryz.ntmps110;go_wp2_with fail;rw[←hW];refine(C1.out _ rfl).mono ?_;rintro e w1 ⟨rfl,hb⟩;have bw1:=bZ.trans (hb.mono bZ.size);replace B1:=B1.kept hb
  replace B2:=B2.kept hb;clear hb;cases z1 with
  | false=>
   go_wp2;go_ret;exact⟨rfl,bw1⟩
  | true=>
   have c0:=B1.cell 0 rfl;have d0:=B2.cell 0 rfl;have c1:=B1.cell 1 rfl;have d1:=B2.cell 1 rfl;have c2:=B1.cell 2 rfl;have d2:=B2.cell 2 rfl;have c3:=B1.cell 3 rfl;have d3:=B2.cell 3 rfl;have c4:=B1.cell 4 rfl
   have d4:=B2.cell 4 rfl;have c5:=B1.cell 5 rfl;have d5:=B2.cell 5 rfl;have c6:=B1.cell 6 rfl;have d6:=B2.cell 6 rfl;have c7:=B1.cell 7 rfl;have d7:=B2.cell 7 rfl;have c8:=B1.cell 8 rfl;have d8:=B2.cell 8 rfl
   go_wp2_with fail;refine(C2.out _ bw1).mono ?_;rintro e w2 ⟨rfl,hb⟩;have bw2:=bw1.trans (hb.mono bw1.size);replace B1:=B1.kept hb;replace B2:=B2.kept hb;clear hb c0 d0 c1 d1 c2 d2 c3 d3 c4 d4 c5 d5 c6 d6 c7 d7 c8 d8
   cases z2 with
   | false=>
    go_wp2;go_ret;exact⟨rfl,bw2⟩
   | true=>
    have c0:=B1.cell 0 rfl;have d0:=B2.cell 0 rfl;have c1:=B1.cell 1 rfl;have d1:=B2.cell 1 rfl;have c2:=B1.cell 2 rfl;have d2:=B2.cell 2 rfl;have c3:=B1.cell 3 rfl;have d3:=B2.cell 3 rfl
    have c4:=B1.cell 4 rfl;have d4:=B2.cell 4 rfl;have c5:=B1.cell 5 rfl;have d5:=B2.cell 5 rfl;have c6:=B1.cell 6 rfl;have d6:=B2.cell 6 rfl;have c7:=B1.cell 7 rfl;have d7:=B2.cell 7 rfl
    have c8:=B1.cell 8 rfl;have d8:=B2.cell 8 rfl;go_wp2_with fail;refine(C3.out _ bw2).mono ?_;rintro e w3 ⟨rfl,hb⟩;have bw3:=bw2.trans (hb.mono bw2.size);replace B1:=B1.kept hb;replace B2:=B2.kept hb
    clear hb c0 d0 c1 d1 c2 d2 c3 d3 c4 d4 c5 d5 c6 d6 c7 d7 c8 d8;cases z3 with
    | false=>
     go_wp2;go_ret;exact⟨rfl,bw3⟩
    | true=>
     have c0:=B1.cell 0 rfl;have d0:=B2.cell 0 rfl;have c1:=B1.cell 1 rfl;have d1:=B2.cell 1 rfl;have c2:=B1.cell 2 rfl;have d2:=B2.cell 2 rfl;have c3:=B1.cell 3 rfl;have d3:=B2.cell 3 rfl
     have c4:=B1.cell 4 rfl;have d4:=B2.cell 4 rfl;have c5:=B1.cell 5 rfl;have d5:=B2.cell 5 rfl;have c6:=B1.cell 6 rfl;have d6:=B2.cell 6 rfl;have c7:=B1.cell 7 rfl;have d7:=B2.cell 7 rfl
     have c8:=B1.cell 8 rfl;have d8:=B2.cell 8 rfl;go_wp2_with fail;refine(C4.out _ bw3).mono ?_;rintro e w4 ⟨rfl,hb⟩;have bw4:=bw3.trans (hb.mono bw3.size);go_wp2;go_ret;exact⟨by cases z4<;>rfl,bw4⟩
 ·rw[decide_eq_false h1];have e1:(aN==bN)=false:=by simpa using h1
  have bw:Below w.heap.size w ((w.alloc (.cells #[.int .i64 aN,.int .i64 ak,.int .i64 aW,.int .i64 aM,.slice ao ax.length ac,.int .i64 aL,.slice aq ay.length ad,.slice as_ au.length ae,.slice at_ av.length af] 41)).alloc (.cells #[.int .i64 bN,.int .i64 bk,.int .i64 bW,.int .i64 bM,.slice bo bx.length bc,.int .i64 bL,.slice bq b_y.length bd,.slice bs bu.length be,.slice bt bv_.length bf] 41)):=(below_alloc w _).alloc (by simp) _
  clear C1 C2 C3 C4 B1 B2 bZ hW W;go_enter Tryz.func110,Tryz.ntmps110;go_wp2;go_ret;exact⟨rfl,bw⟩
end Go.Proofs.YtfnkklkdajlhlaaGreatDoor
namespace Go.Proofs.YtfnkklkdajlhlaaGreatDoor
open Go.RowKit Num Bn
namespace Ow
theorem info64:(Tryz.prog.info? 110).map (fun i=>(i.zero,i.size,i.bytes))=some (some (.int .u64 0),1,8):=by kernel_rfl
theorem below_alloc(w:World)(o:Obj):Below w.heap.size w (w.alloc o):=(Below.refl _ _).alloc (Nat.le_refl _) _
def gt(xs:List Nat)(i:Nat):Nat:=xs.getD i 0
theorem gt_get(xs:List Nat)(i:Nat)(h:i<xs.length):xs[i]?=some (gt xs i):=by
 unfold gt;rw[List.getD_eq_getElem?_getD,List.getElem?_eq_getElem h];rfl
theorem gt_map(f:Nat→Nat)(n i:Nat)(h:i<n):gt ((List.range n).map f) i=f i:=by
 unfold gt;rw[List.getD_eq_getElem?_getD,List.getElem?_map,List.getElem?_range h];rfl
theorem gt_set(ys:List Nat)(j i v:Nat)(hj:j<ys.length):gt (ys.set j v) i=if j=i then v else gt ys i:=by
 unfold gt;rw[List.getD_eq_getElem?_getD,List.getD_eq_getElem?_getD,List.getElem?_set];by_cases c:j=i
 ·subst c;simp[hj]
 ·simp[c]
theorem list_ext{xs ys:List Nat}(hl:xs.length=ys.length)(h:∀i,i<xs.length→gt xs i=gt ys i):xs=ys:=by
 refine List.ext_getElem? fun i=>?_;by_cases c:i<xs.length
 ·rw[gt_get xs i c,gt_get ys i (by omega),h i c]
 ·rw[List.getElem?_eq_none (by omega),List.getElem?_eq_none (by omega)]
def wv(ys:List Nat):List Value:=ys.map fun y:Nat=>Value.int .u64 (y:Int)
theorem length_wv(ys:List Nat):(wv ys).length=ys.length:=by simp[wv]
def Own(w:World)(g:Nat)(ys:List Nat):Prop:=w.heap[g]?=some (.cells (wv ys).toArray 110 (0,0))
theorem own_made{w:World}{base g n:Nat}(h:w.ownsRow base 110 1 (.slice (some ⟨g,0,none⟩) n n) n (madeCells #[.int .u64 0] n).toList):Own w g (List.replicate n 0):=by
 obtain⟨_,h | ⟨g',cap,cur,e,_,hh,_,_,hs,ht⟩⟩:=h
 ·simp at h
 ·simp only[Value.slice.injEq,Option.some.injEq,Addr.mk.injEq]at e;obtain⟨⟨rfl,_,_⟩,_,rfl⟩:=e;unfold Own;rw[hh]
  have e2:(madeCells #[.int .u64 0] n).toList=wv (List.replicate n 0):=by
   rw[toList_madeCells_one (.int .u64 0) n,wv,List.map_replicate];rfl
  rw[e2]at ht;have e3:cur.toList.take (n*1)=cur.toList:=List.take_of_length_le (by simp;omega);rw[e3]at ht;rw[←ht]
theorem Own.cell{w:World}{g:Nat}{ys:List Nat}(h:Own w g ys)(j:Nat)(hj:j<ys.length):w.cell? ⟨g,j,none⟩=some (.int .u64 (gt ys j)):=by
 unfold World.cell?;rw[show w.heap[({ block:=g,off:=j,spot:=none }:Addr).block]?=_ from h];simp only[List.getElem?_toArray,wv,List.getElem?_map,gt_get ys j hj];rfl
theorem Own.frozen{w:World}{g:Nat}{ys:List Nat}(h:Own w g ys)(j:Nat):w.frozen? ⟨g,j,none⟩=false:=by
 unfold World.frozen?;rw[show w.heap[({ block:=g,off:=j,spot:=none }:Addr).block]?=_ from h];simp
theorem Own.lt{w:World}{g:Nat}{ys:List Nat}(h:Own w g ys):g<w.heap.size:=(Array.getElem?_eq_some_iff.1 h).1
theorem Own.set{w:World}{g:Nat}{ys:List Nat}(h:Own w g ys)(j v:Nat):Own (w.setCell ⟨g,j,none⟩ (.int .u64 v)) g (ys.set j v):=by
 unfold Own at h⊢;simp only[World.setCell,Array.getElem?_modify];rw[if_pos trivial,h];simp[wv,List.map_set]
theorem Own.drew{w:World}{g:Nat}{ys:List Nat}(h:Own w g ys):Own w.drew g ys:=h
def rowP(n i:Nat):List Nat:=(List.range (n+1)).map (ch i)
def pas(n i j:Nat):List Nat:=(List.range (n+1)).map fun t=>if j<t then ch i t else ch (i-1) t
theorem length_pas(n i j:Nat):(pas n i j).length=n+1:=by simp[pas]
theorem length_rowP(n i:Nat):(rowP n i).length=n+1:=by simp[rowP]
theorem pas_first(n i:Nat):pas n i i=rowP n (i-1):=by
 unfold pas rowP;refine List.map_congr_left fun t _=>?_;by_cases c:i<t
 ·rw[if_pos c,ch_out i t c,ch_out (i-1) t (by omega)]
 ·rw[if_neg c]
theorem pas_last(n i:Nat):pas n i 0=rowP n i:=by
 unfold pas rowP;refine List.map_congr_left fun t _=>?_;by_cases c:0<t
 ·rw[if_pos c]
 ·obtain rfl:t=0:=by omega
  rw[if_neg c,ch_zero,ch_zero]
theorem gt_pas(n i j t:Nat)(h:t≤n):gt (pas n i j) t=if j<t then ch i t else ch (i-1) t:=gt_map _ _ _ (by omega)
theorem gt_rowP(n i t:Nat)(h:t≤n):gt (rowP n i) t=ch i t:=gt_map _ _ _ (by omega)
theorem pas_step(n i j:Nat)(hi:1≤i)(hj:1≤j)(hn:j≤n):(pas n i j).set j (ch (i-1) j+ch (i-1) (j-1))=pas n i (j-1):=by
 refine list_ext (by rw[List.length_set,length_pas,length_pas]) fun t ht=>?_;rw[List.length_set,length_pas]at ht;rw[gt_set _ _ _ _ (by rw[length_pas];omega),gt_pas _ _ _ _ (by omega),gt_pas _ _ _ _ (by omega)]
 by_cases c:j=t
 ·subst c;obtain⟨a,rfl⟩:∃a,i=a+1:=⟨i-1,by omega⟩;obtain⟨b,rfl⟩:∃b,j=b+1:=⟨j-1,by omega⟩;rw[if_pos rfl,if_pos (by omega),ch_succ,Nat.add_sub_cancel,Nat.add_sub_cancel];omega
 ·rw[if_neg c];by_cases d:j<t
  ·rw[if_pos d,if_pos (by omega)]
  ·rw[if_neg d,if_neg (by omega)]
theorem row_start(n:Nat):(List.replicate (n+1) 0).set 0 1=rowP n 0:=by
 refine list_ext (by rw[List.length_set,length_rowP,List.length_replicate]) fun t ht=>?_;rw[List.length_set,List.length_replicate]at ht;rw[gt_set _ _ _ _ (by simp),gt_rowP _ _ _ (by omega)];by_cases c:0=t
 ·subst c;rw[if_pos rfl,ch_zero]
 ·rw[if_neg c,ch_out 0 t (by omega)];unfold gt;rw[List.getD_eq_getElem?_getD,List.getElem?_replicate];split<;>rfl
end Ow
end Go.Proofs.YtfnkklkdajlhlaaGreatDoor
