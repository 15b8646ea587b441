import Derived.Test.YtfnkklkdajlhlaaGreatDoorU19
set_option linter.unusedVariables false
set_option linter.unusedSimpArgs false
set_option maxRecDepth 100000
set_option maxHeartbeats 16000000
namespace Go.Proofs.YtfnkklkdajlhlaaGreatDoor
open Go.RowKit Num Bit Bn
theorem ok_ck(a:RA8)(h:kOk8 a=true):∃m,CK a m:=by
 obtain⟨m,h1,h2,h3,h4,e⟩:=ok_kb a h;have:=kb_ck m (kBX8 a) h2 h4;rw[←e]at this;exact⟨m,this⟩
theorem bool_false{b:Bool}(h:b=true→False):b=false:=by
 cases b with
 | false=>rfl
 | true=>exact absurd rfl (fun e=>h e)
theorem ck_fit(a:RA8)(m:Nat)(h:CK a m):fitB a=true:=by
 unfold fitB;refine decide_eq_true ?_;rw[h.nN,Int.toNat_natCast];exact⟨⟨by omega,by have:=h.le;omega⟩,h.ic,h.oc,h.nV,h.nk,h.sl,h.tl⟩
theorem fit_bad(a:RA8)(h:fitB a=false):kOk8 a=false:=bool_false fun hk=>by
 obtain⟨m,c⟩:=ok_ck a hk;rw[ck_fit a m c]at h;cases h
theorem fit_out(a:RA8)(h:fitB a=true):∃m:Nat,a.N=m∧m≤1048576∧ichk a.k a.V a.M a.xs=true∧chk a.L a.ys=true∧a.V=4∧a.k=(nb m:Int)∧a.S.length=gN m∧a.T.length=gN m:=by
 obtain⟨h1,h2,h3,h4,h5,h6,h7⟩:=of_decide_eq_true h;obtain⟨m,e⟩:=Int.eq_ofNat_of_zero_le h1.1;rw[e,Int.toNat_natCast]at h5 h6 h7;exact⟨m,e,by omega,h2,h3,h4,h5,h6,h7⟩
theorem ck_is(a:RA8)(m:Nat)(hN:a.N=m)(h:kOk8 a=true):CK a m:=by
 obtain⟨m',c⟩:=ok_ck a h;have:=c.nN;obtain rfl:m=m':=by omega
 exact c
theorem last_iff(c o r:Nat)(ho:o<ch 15 c):(cnt (blk 15 c o%2^r) 15=c∧off (blk 15 c o%2^r) 15=o)↔blk 15 c o<2^r:=by
 have hb:=blk_lt 15 c o;have hm:=Nat.mod_le (blk 15 c o) (2^r);have P:=Nat.two_pow_pos r;constructor
 ·rintro⟨h1,h2⟩;have:=blk_off (blk 15 c o%2^r) 15;rw[h1,h2,Nat.mod_eq_of_lt (show blk 15 c o%2^r<2^15 by omega)]at this;rw[this];exact Nat.mod_lt _ P
 ·intro h;rw[Nat.mod_eq_of_lt h];exact blk_in 15 c o ho
def lstK(xs:List Nat):Nat→Nat
 | 0=>0
 | i+1=>cls xs i
def lstO(L:Int)(ys xs:List Nat):Nat→Nat
 | 0=>0
 | i+1=>cOff L ys xs i
structure CInv (cs:List Value) (a:RA8) (w0:World) (gx gl i:Nat) (w:World):Prop where
 below:Below w0.heap.size w0 w
 x:Cel w gx cs 41
 last:Cel w gl [.int .i64 (lstK a.xs i:Nat),.int .u64 (lstO a.L a.ys a.xs i:Nat)] 165
 right:∀j,j<i→cSE a.L a.ys a.xs j=0∧Rgt a j
theorem CInv.keep{cs:List Value}{a:RA8}{w0:World}{gx gl i hi:Nat}{w w':World}(h:CInv cs a w0 gx gl i w)(h0:w0.heap.size≤hi)(h1:gx<hi)(h3:gl<hi)(hb:Below hi w w'):CInv cs a w0 gx gl i w':=
 ⟨h.below.trans (hb.mono h0),h.x.keep hb h1,h.last.keep hb h3,h.right⟩
theorem qcheck_c(cs:List Value)(a:RA8)(w:World)(h:KI8 w cs a):
  Calls Tryz.prog 85 #[.agg cs.toArray] w fun e w'=>e=.returned (.bool (kOk8 a))∧Below w.heap.size w w':=by
 obtain⟨B,hB⟩:∃B,Hid (B=kOk8 a):=⟨_,rfl⟩;rw[←hB.out]
 have HF:Hid (∀w0,Below w.heap.size w w0→Calls Tryz.prog 140 #[.agg cs.toArray] w0 fun e w'=>e=.returned (.bool (fitB a))∧Below w0.heap.size w0 w'):=fun w0 hb=>qfits_c cs a w0 (h.keep hb)
 have hmf:∀(fn:Fn) (first cap:Array Value) (w:World),(Instr.makeFunc fn first cap).run Tryz.prog w=.ok (.func fn first cap) w:=fun _ _ _ _=>rfl;cases hf:fitB a with
 | false=>
  obtain rfl:B=false:=by rw[hB.out];exact fit_bad a hf
  rw[hf]at HF;obtain⟨⟨ao,cap,qo,dap,so,sc,tO,tc,rfl,_⟩,_⟩:=h;obtain⟨N,k,V,M,xs,L,ys,S,T⟩:=a;dsimp only at *
  obtain⟨W,hW⟩:∃W,W=w.alloc (.cells #[.int .i64 N,.int .i64 k,.int .i64 V,.int .i64 M,.slice ao xs.length cap,.int .i64 L,.slice qo ys.length dap,.slice so S.length sc,.slice tO T.length tc] 41):=⟨_,rfl⟩
  have bW:=yb1 hW;clear hf hB;go_enter Tryz.func85,Tryz.ntmps85;go_wp2_with fail;rw[←hW];refine(HF.out _ bW).mono ?_;rintro e w1 ⟨rfl,hb⟩;have bw1:=bW.trans (hb.mono bW.size);clear hW hb;go_wp2;go_ret;exact⟨rfl,bw1⟩
 | true=>
 rw[hf]at HF;obtain⟨m,e1,hm,ic,oc,e2,e3,sl,tl⟩:=fit_out a hf;have hCK:Hid (B=true→CK a m):=fun hk=>ck_is a m e1 (by rw[←hB.out];exact hk);have hg:0<gN m:=by unfold gN;omega
 have HM:Hid (∀w0,Below w.heap.size w w0→Calls Tryz.prog 141 #[.agg cs.toArray,.int .i64 0] w0 fun e w'=>e=.returned (.agg #[.int .i64 (gi a.S 0),.int .i64 (gi a.T 0)])∧Below w0.heap.size w0 w'):=fun w0 hb=>qmarkOf_c cs a 0 w0 (h.keep hb) (by omega) (by omega)
 have HB:Hid (∀m',CK a m'→B=true):=fun m' c=>by
  rw[hB.out];obtain⟨⟨ao,cap,qo,dap,so,sc,tO,tc,_,_,_,f1,_,_,f2,_⟩,_⟩:=h;exact ck_ok a m' f1 f2 c
 have nbl:=nb_le m hm
 have HA:Hid (∀(gx gl:Nat) w1,gi a.S 0=0→gi a.T 0=0→CInv cs a w gx gl 0 w1→w.heap.size≤gl→gl≠gx→gx<w1.heap.size→gl<w1.heap.size→
   Calls Tryz.prog 142 #[.agg cs.toArray,.int .i64 0,.func (.func 143) #[] #[.pointer (some ⟨gl,0,none⟩),.pointer (some ⟨gx,0,none⟩)]] w1 fun e w'=>∃(q:Nat) (b:Bool),e=.returned (.tuple #[.agg #[.int .i64 (cOn a.xs q:Nat),.int .i64 (cAt a.xs q:Nat)],.bool b])∧q≤nb m∧(b=true→q=nb m∧CInv cs a w gx gl (nb m) w')∧(b=false→B=false)∧Fr8 w.heap.size w1.heap.size w1 w'):=by
  intro gx gl w1 s0 t0 hI l1 l2 l4 l6
  refine(qalong_c cs a 0 (nb m) w.heap.size w1.heap.size 143 #[.pointer (some ⟨gl,0,none⟩),.pointer (some ⟨gx,0,none⟩)] (fun i w2=>CInv cs a w gx gl i w2) (fun i _=>¬Rgt a i) w1 e3 e2 ic (by omega) (by omega) (by omega) s0 t0 hI.below.size (Nat.le_refl _) hI (fun i w2 hi=>h.keep hi.below) (fun i w2 w3 hi hb=>hi.keep hI.below.size l4 l6 hb) (fun i _ _ hi _=>hi) ?cf ?st).mono ?_
  case cf=>
   intro args w2;kernel_rfl
  case st=>
   intro i w2 _ hin hse hi2 hw2;have i8:i/8<gN m:=by unfold gN;omega
   refine(qcheck1_c cs a i gl gx w.heap.size w1.heap.size _ w w2 h hi2.below rfl (by omega) (by omega) (by omega) hi2.last rfl hi2.x l2 l1 l6 hw2).mono ?_;rintro e w3 ⟨rfl,c1,c2,c3,fr⟩
   refine⟨_,rfl,fun hr=>?_,fun hr=>by have h:=of_decide_eq_false hr;exact h,fr⟩;have hr:=of_decide_eq_true hr;refine⟨hi2.below.trans fr.below,c3,c1,fun j hj=>?_⟩;by_cases c:j=i
   ·subst c;exact⟨hse,hr⟩
   ·exact hi2.right j (by omega)
  ·rintro e w2 ⟨q,b,rfl,_,hq,h1,h2,fr⟩;refine⟨q,b,rfl,hq,h1,fun hb=>?_,fr⟩;obtain⟨hlt,h3⟩:=h2 hb;refine bool_false fun hk=>?_;have ck:=hCK.out hk;have ea:=ck.each q hlt;rcases h3 with⟨h3,_⟩ | ⟨_,h3⟩
   ·exact h3 ea.1
   ·exact h3 ea.2
 have HLa:Hid (∀gx gl w',CInv cs a w gx gl (nb m) w'→lstO a.L a.ys a.xs (nb m)<ch 15 (lstK a.xs (nb m))):=by
  intro gx gl w' hI;by_cases c:nb m=0
  ·rw[c];show 0<ch 15 0;rw[ch_zero];decide
  ·obtain⟨j,hj⟩:∃j,nb m=j+1:=⟨nb m-1,by omega⟩;rw[hj];exact(hI.right j (by omega)).2.1
 have HK1:Hid (∀gx gl w',CInv cs a w gx gl (nb m) w'→gi a.S 0=0→gi a.T 0=0→(cAt a.xs (nb m):Int)=a.L→(B=true↔blk 15 (lstK a.xs (nb m)) (lstO a.L a.ys a.xs (nb m))<2^(15+m-15*nb m))):=by
  intro gx gl w' hI s0 t0 he;by_cases c:nb m=0
  ·rw[c];refine⟨fun _=>?_,fun _=>HB.out m ⟨e1,hm,e3,e2,ic,oc,sl,tl,s0,t0,fun i hi=>by omega,he,fun h0=>by omega⟩⟩;show blk 15 0 0<_;rw[blk_zero];exact Nat.two_pow_pos _
  ·obtain⟨j,hj⟩:∃j,nb m=j+1:=⟨nb m-1,by omega⟩;have ex:15+m-15*nb m=m-15*(nb m-1):=by omega
   have el:blk 15 (lstK a.xs (nb m)) (lstO a.L a.ys a.xs (nb m))=cWd a.L a.ys a.xs (nb m-1):=by rw[hj];rfl
   rw[ex,el];refine⟨fun hk=>(hCK.out hk).last (by omega),fun hl=>HB.out m ⟨e1,hm,e3,e2,ic,oc,sl,tl,s0,t0,fun i hi=>?_,he,fun _=>hl⟩⟩;obtain⟨r1,r2,r3⟩:=hI.right i hi;exact⟨r1,r2,r3⟩
 have lkb:lstK a.xs (nb m)≤15:=by
  cases nb m with
  | zero=>exact Nat.zero_le _
  | succ j=>exact cls_le _ _
 have rb:15+m-15*nb m≤15:=by unfold nb;omega
 have rb2:((15+m-15*nb m:Nat):Int)=(m:Int)-15*((nb m:Int)-1):=by unfold nb;omega
 obtain⟨⟨ao,cap,qo,dap,so,sc,tO,tc,rfl,⟨_,_,_,_,hL64,_,_⟩,_⟩,_⟩:=h;obtain⟨N,k,V,M,xs,L,ys,S,T⟩:=a;dsimp only at *;subst e1 e2 e3
 obtain⟨W,hW⟩:∃W,W=w.alloc (.cells #[.int .i64 (m:Int),.int .i64 (nb m:Nat),.int .i64 4,.int .i64 M,.slice ao xs.length cap,.int .i64 L,.slice qo ys.length dap,.slice so S.length sc,.slice tO T.length tc] 41):=⟨_,rfl⟩
 have bW:=yb1 hW;have B1:=yc1 hW;clear hf hB HB sl tl
 have HC0:Hid (gi S 0≠0∨gi T 0≠0→B=false):=fun hn=>bool_false fun hk=>by
  have ck:=hCK.out hk;have:=ck.s0;have:=ck.t0;dsimp only at *;omega
 have HC1:Hid ((cAt xs (nb m):Int)≠L→B=false):=fun hn=>bool_false fun hk=>hn (hCK.out hk).done;clear hCK;generalize gi S 0=s0 at *;generalize gi T 0=t0 at *;go_enter Tryz.func85,Tryz.ntmps85;go_wp2_with fail
 rw[←hW];refine(HF.out _ bW).mono ?_;rintro e w1 ⟨rfl,hb⟩;have bw1:=bW.trans (hb.mono bW.size);replace B1:=B1.kept hb;clear hW hb HF bW;have q0:=B1.cell 0 rfl;have q1:=B1.cell 1 rfl;have q2:=B1.cell 2 rfl
 have q3:=B1.cell 3 rfl;have q4:=B1.cell 4 rfl;have q5:=B1.cell 5 rfl;have q6:=B1.cell 6 rfl;have q7:=B1.cell 7 rfl;have q8:=B1.cell 8 rfl;go_wp2_with fail;refine(HM.out _ bw1).mono ?_;rintro e w2 ⟨rfl,hb⟩
 have bw2:=bw1.trans (hb.mono bw1.size);replace B1:=B1.kept hb;clear hb HM bw1 q0 q1 q2 q3 q4 q5 q6 q7 q8;by_cases z1:s0=0
 ·by_cases z2:t0=0
  ·subst z1 z2;have lt1:=B1.lt;have z3:=bw2.size;have q0:=B1.cell 0 rfl;have q1:=B1.cell 1 rfl;have q2:=B1.cell 2 rfl;have q3:=B1.cell 3 rfl;have q4:=B1.cell 4 rfl;have q5:=B1.cell 5 rfl;have q6:=B1.cell 6 rfl
   have q7:=B1.cell 7 rfl;have q8:=B1.cell 8 rfl;have l0:=B1.lt;obtain⟨W6,hW6⟩:∃W6,W6=w2.alloc (.cells #[.int .i64 0,.int .u64 0] 165):=⟨_,rfl⟩
   have hb6:Below w2.heap.size w2 W6:=by rw[hW6];exact below_alloc w2 _
   have bw6:=bw2.trans (hb6.mono bw2.size);have z6:W6.heap.size=w2.heap.size+1:=by rw[hW6];simp
   have B5:Cel W6 w2.heap.size [.int .i64 0,.int .u64 0] 165:=by rw[hW6];exact Cel.new w2 _ _
   replace B1:=B1.kept hb6
   have CI:Hid (CInv [.int .i64 (m:Int),.int .i64 (nb m:Nat),.int .i64 4,.int .i64 M,.slice ao xs.length cap,.int .i64 L,.slice qo ys.length dap,.slice so S.length sc,.slice tO T.length tc] ⟨m,nb m,4,M,xs,L,ys,S,T⟩ w w.heap.size w2.heap.size 0 W6):=⟨bw6,B1,B5,fun j hj=>absurd hj (Nat.not_lt_zero j)⟩
   have CIb:Hid (Below w.heap.size w W6):=bw6;clear hb6 bw6 B5 B1;go_wp2_with fail;rw[←hW6];refine(HA.out w.heap.size w2.heap.size W6 (by simp) (by simp) CI.out (by omega) (by omega) (by omega) (by omega)).mono ?_
   clear q0 q1 q2 q3 q4 q5 q6 q7 q8 hW6 HA CI HC0 bw2;rintro e w7 ⟨q,b,rfl,hq,h1,h2,fr⟩;cases b with
   | false=>
    obtain rfl:B=false:=h2 rfl;have bw7:=fr.below;have HBW:Hid (Below w.heap.size w w7):=CIb.out.trans bw7;clear HC1 HK1 HLa h1 h2 fr bw7;go_wp2;refine region_g [] (fun w'=>True) (by kernel_rfl) ?_
    have hS:True:=trivial;have bV:Below w.heap.size w (w7.alloc (.cells #[.int .i64 (cOn xs q:Nat),.int .i64 (cAt xs q:Nat)] 149)).drew:=(HBW.out.alloc HBW.out.size _).drew
    generalize (w7.alloc (.cells #[.int .i64 (cOn xs q:Nat),.int .i64 (cAt xs q:Nat)] 149)).drew=Y at *;refine AnyG.tk 0 hS ?_;refine AnyG.tk 1 hS ?_;refine AnyG.sk 2 hS ?_;refine AnyG.sk 3 hS ?_;refine AnyG.sk 4 hS ?_
    refine AnyG.sk 5 hS ?_;refine AnyG.sk 6 hS ?_;refine AnyG.sk 7 hS ?_;refine AnyG.tk 8 hS ?_;refine AnyG.tk 9 hS ?_;refine AnyG.sk 10 hS ?_;refine AnyG.sk 11 hS ?_;refine AnyG.sk 12 hS ?_;refine AnyG.sk 13 hS ?_
    refine AnyG.sk 14 hS ?_;refine AnyG.sk 15 hS ?_;refine AnyG.sk 16 hS ?_;refine AnyG.sk 17 hS ?_;refine AnyG.sk 18 hS ?_;refine AnyG.sk 19 hS ?_;refine AnyG.sk 20 hS ?_;refine AnyG.sk 21 hS ?_;refine AnyG.tk 22 hS ?_
    refine AnyG.tk 23 hS ?_;refine AnyG.done (by kernel_rfl) ?_ _;go_wp2;go_ret;exact⟨rfl,bV⟩
   | true=>
    obtain⟨rfl,ci⟩:=h1 rfl;have bw7:=fr.below;have HBW:Hid (Below w.heap.size w w7):=CIb.out.trans bw7;have HO:=HLa.out _ _ _ ci
    have HKK:Hid ((cAt xs (nb m):Int)=L→(B=true↔blk 15 (lstK xs (nb m)) (lstO L ys xs (nb m))<2^(15+m-15*nb m))):=fun e=>HK1.out _ _ _ ci (by simp) (by simp) e
    have u1:IntKind.i64.wrap ((nb m:Int)-1)=(nb m:Int)-1:=by rw[IntKind.wrap_i64];omega
    have u2:IntKind.i64.wrap (15*((nb m:Int)-1))=15*((nb m:Int)-1):=by rw[IntKind.wrap_i64];omega
    have u3:IntKind.i64.wrap ((m:Int)-15*((nb m:Int)-1))=((15+m-15*nb m:Nat):Int):=by rw[IntKind.wrap_i64,rb2];omega
    have HWn:Hid (∀w0,Calls Tryz.prog 144 #[.agg #[.int .i64 (lstK xs (nb m):Nat),.int .u64 (lstO L ys xs (nb m):Nat)],.int .i64 ((15+m-15*nb m:Nat):Int)] w0 fun e w'=>e=.returned (.agg #[.int .i64 (cnt (blk 15 (lstK xs (nb m)) (lstO L ys xs (nb m))%2^(15+m-15*nb m)) 15:Nat),.int .u64 (off (blk 15 (lstK xs (nb m)) (lstO L ys xs (nb m))%2^(15+m-15*nb m)) 15:Nat)])∧Below w0.heap.size w0 w'):=fun w0=>qwithin_c _ _ _ lkb HO (by omega) w0
    have HLI:Hid ((cnt (blk 15 (lstK xs (nb m)) (lstO L ys xs (nb m))%2^(15+m-15*nb m)) 15=lstK xs (nb m)∧off (blk 15 (lstK xs (nb m)) (lstO L ys xs (nb m))%2^(15+m-15*nb m)) 15=lstO L ys xs (nb m))↔blk 15 (lstK xs (nb m)) (lstO L ys xs (nb m))<2^(15+m-15*nb m)):=last_iff _ _ _ HO
    have B1:=ci.x;have B5:=ci.last;dsimp only at B5;clear HLa HK1 h1 h2 fr bw7 ci HO rb rb2 ic;generalize cnt (blk 15 (lstK xs (nb m)) (lstO L ys xs (nb m))%2^(15+m-15*nb m)) 15=K at *
    generalize off (blk 15 (lstK xs (nb m)) (lstO L ys xs (nb m))%2^(15+m-15*nb m)) 15=O at *;generalize (blk 15 (lstK xs (nb m)) (lstO L ys xs (nb m))<2^(15+m-15*nb m))=Pr at *
    generalize 15+m-15*nb m=r at *;generalize lstK xs (nb m)=lk at *;generalize lstO L ys xs (nb m)=lo at *;generalize cAt xs (nb m)=pe at *;generalize cOn xs (nb m)=po at *;generalize nb m=n at *;go_wp2
    have hb8:=below_alloc w7 (.cells #[.int .i64 (po:Nat),.int .i64 (pe:Nat)] 149);have B6:=Cel.new w7 [.int .i64 (po:Nat),.int .i64 (pe:Nat)] 149;replace B1:=B1.kept hb8;replace B5:=B5.kept hb8
    have bV:Below w.heap.size w (w7.alloc (.cells #[.int .i64 (po:Nat),.int .i64 (pe:Nat)] 149)).drew:=(HBW.out.alloc HBW.out.size _).drew
    refine region_g [] (fun w'=>Cel w' w.heap.size [.int .i64 (m:Int),.int .i64 (n:Nat),.int .i64 4,.int .i64 M,.slice ao xs.length cap,.int .i64 L,.slice qo ys.length dap,.slice so S.length sc,.slice tO T.length tc] 41∧Cel w' w7.heap.size [.int .i64 (po:Nat),.int .i64 (pe:Nat)] 149∧Cel w' w2.heap.size [.int .i64 (lk:Nat),.int .u64 (lo:Nat)] 165) (by kernel_rfl) ?_
    have hS:Cel (w7.alloc (.cells #[.int .i64 (po:Nat),.int .i64 (pe:Nat)] 149)).drew w.heap.size [.int .i64 (m:Int),.int .i64 (n:Nat),.int .i64 4,.int .i64 M,.slice ao xs.length cap,.int .i64 L,.slice qo ys.length dap,.slice so S.length sc,.slice tO T.length tc] 41∧Cel (w7.alloc (.cells #[.int .i64 (po:Nat),.int .i64 (pe:Nat)] 149)).drew w7.heap.size [.int .i64 (po:Nat),.int .i64 (pe:Nat)] 149∧Cel (w7.alloc (.cells #[.int .i64 (po:Nat),.int .i64 (pe:Nat)] 149)).drew w2.heap.size [.int .i64 (lk:Nat),.int .u64 (lo:Nat)] 165:=⟨B1,B6,B5⟩
    clear B1 B5 B6 hb8;generalize (w7.alloc (.cells #[.int .i64 (po:Nat),.int .i64 (pe:Nat)] 149)).drew=Y at *;by_cases pl:(pe:Int)=L
    ·have pl2:((pe:Int)==L)=true:=by simpa using pl
     have HP:=HKK.out pl;by_cases pr:Pr
     ·obtain rfl:B=true:=HP.2 pr;obtain⟨k1,k2⟩:=HLI.out.2 pr;have k3:(lk:Int)=(K:Int):=by omega
      have k4:(lo:Int)=(O:Int):=by omega
      subst k1 k2;clear k3 k4 HP HKK HLI;refine AnyG.tk 0 hS ?_;refine AnyG.tk 1 hS ?_;refine AnyG.tk 2 hS ?_;refine AnyG.tf 3 hS rfl (fun w0 h0=>by have c0:=h0.2.1.cell 1 rfl;go_simp;try with_reducible rfl) ?_
      refine AnyG.tk 4 hS ?_;refine AnyG.tk 5 hS ?_;refine AnyG.tf 6 hS rfl (fun w0 h0=>by have c0:=h0.1.cell 5 rfl;go_simp;try with_reducible rfl) ?_;refine AnyG.tk 7 hS ?_;refine AnyG.tk 8 hS ?_;refine AnyG.tk 9 hS ?_
      refine AnyG.tf 10 hS rfl (fun w0 h0=>by have c0:=h0.2.2.cell 0 rfl;have c1:=h0.2.2.cell 1 rfl;go_simp;try with_reducible rfl) ?_
      refine AnyG.tf 11 hS rfl (fun w0 h0=>by have c0:=h0.2.2.cell 0 rfl;have c1:=h0.2.2.cell 1 rfl;go_simp;try with_reducible rfl) ?_;refine AnyG.tk 12 hS ?_
      refine AnyG.tf 13 hS rfl (fun w0 h0=>by have c0:=h0.1.cell 0 rfl;go_simp;try with_reducible rfl) ?_;refine AnyG.tk 14 hS ?_;refine AnyG.tk 15 hS ?_
      refine AnyG.tf 16 hS rfl (fun w0 h0=>by have c0:=h0.1.cell 1 rfl;go_simp;try with_reducible rfl) ?_;refine AnyG.tk 17 hS ?_;refine AnyG.tk 18 hS ?_;refine AnyG.tk 19 hS ?_;refine AnyG.o1 20 ?_;intro K hK;go_simp
      refine(HWn.out _).mono ?_;rintro e w9 ⟨rfl,hb⟩;have hS9:=And.intro (hS.1.kept hb) (And.intro (hS.2.1.kept hb) (hS.2.2.kept hb));have bw9:=bV.trans (hb.mono bV.size);clear hb hS bV HWn
      refine hK.out _ _ (fun _=>hS9) ?_;clear hK K;try simp only[Act.put,yq0,yq1,yq2,yq3,yq4,yq5]
      refine AnyG.tk 21 hS9 ?_;refine AnyG.tk 22 hS9 ?_;refine AnyG.tk 23 hS9 ?_;refine AnyG.done (by kernel_rfl) ?_ _;go_wp2;go_ret;exact⟨rfl,bw9⟩
     ·obtain rfl:B=false:=bool_false fun hk=>pr (HP.1 hk);have kn:¬(K=lk∧O=lo):=fun hk=>pr (HLI.out.1 hk);by_cases k1:lk=K
      ·have k2:¬(lo:Int)=(O:Int):=by omega
       have k3:¬lo=O:=by omega
       subst k1;clear HP HKK HLI kn;refine AnyG.tk 0 hS ?_;refine AnyG.tk 1 hS ?_;refine AnyG.tk 2 hS ?_;refine AnyG.tf 3 hS rfl (fun w0 h0=>by have c0:=h0.2.1.cell 1 rfl;go_simp;try with_reducible rfl) ?_
       refine AnyG.tk 4 hS ?_;refine AnyG.tk 5 hS ?_;refine AnyG.tf 6 hS rfl (fun w0 h0=>by have c0:=h0.1.cell 5 rfl;go_simp;try with_reducible rfl) ?_;refine AnyG.tk 7 hS ?_;refine AnyG.tk 8 hS ?_
       refine AnyG.tk 9 hS ?_;refine AnyG.tf 10 hS rfl (fun w0 h0=>by have c0:=h0.2.2.cell 0 rfl;have c1:=h0.2.2.cell 1 rfl;go_simp;try with_reducible rfl) ?_
       refine AnyG.tf 11 hS rfl (fun w0 h0=>by have c0:=h0.2.2.cell 0 rfl;have c1:=h0.2.2.cell 1 rfl;go_simp;try with_reducible rfl) ?_;refine AnyG.tk 12 hS ?_
       refine AnyG.tf 13 hS rfl (fun w0 h0=>by have c0:=h0.1.cell 0 rfl;go_simp;try with_reducible rfl) ?_;refine AnyG.tk 14 hS ?_;refine AnyG.tk 15 hS ?_
       refine AnyG.tf 16 hS rfl (fun w0 h0=>by have c0:=h0.1.cell 1 rfl;go_simp;try with_reducible rfl) ?_;refine AnyG.tk 17 hS ?_;refine AnyG.tk 18 hS ?_;refine AnyG.tk 19 hS ?_;refine AnyG.o1 20 ?_;intro K hK;go_simp
       refine(HWn.out _).mono ?_;rintro e w9 ⟨rfl,hb⟩;have hS9:=And.intro (hS.1.kept hb) (And.intro (hS.2.1.kept hb) (hS.2.2.kept hb));have bw9:=bV.trans (hb.mono bV.size);clear hb hS bV HWn
       refine hK.out _ _ (fun _=>hS9) ?_;clear hK K;try simp only[Act.put,yq0,yq1,yq2,yq3,yq4,yq5]
       refine AnyG.tk 21 hS9 ?_;refine AnyG.tk 22 hS9 ?_;refine AnyG.tk 23 hS9 ?_;refine AnyG.done (by kernel_rfl) ?_ _;go_wp2;go_ret;exact⟨rfl,bw9⟩
      ·have k2:¬(lk:Int)=(K:Int):=by omega
       clear HP HKK HLI kn;refine AnyG.tk 0 hS ?_;refine AnyG.tk 1 hS ?_;refine AnyG.tk 2 hS ?_;refine AnyG.tf 3 hS rfl (fun w0 h0=>by have c0:=h0.2.1.cell 1 rfl;go_simp;try with_reducible rfl) ?_
       refine AnyG.tk 4 hS ?_;refine AnyG.tk 5 hS ?_;refine AnyG.tf 6 hS rfl (fun w0 h0=>by have c0:=h0.1.cell 5 rfl;go_simp;try with_reducible rfl) ?_;refine AnyG.tk 7 hS ?_;refine AnyG.tk 8 hS ?_
       refine AnyG.tk 9 hS ?_;refine AnyG.tf 10 hS rfl (fun w0 h0=>by have c0:=h0.2.2.cell 0 rfl;have c1:=h0.2.2.cell 1 rfl;go_simp;try with_reducible rfl) ?_
       refine AnyG.tf 11 hS rfl (fun w0 h0=>by have c0:=h0.2.2.cell 0 rfl;have c1:=h0.2.2.cell 1 rfl;go_simp;try with_reducible rfl) ?_;refine AnyG.tk 12 hS ?_
       refine AnyG.tf 13 hS rfl (fun w0 h0=>by have c0:=h0.1.cell 0 rfl;go_simp;try with_reducible rfl) ?_;refine AnyG.tk 14 hS ?_;refine AnyG.tk 15 hS ?_
       refine AnyG.tf 16 hS rfl (fun w0 h0=>by have c0:=h0.1.cell 1 rfl;go_simp;try with_reducible rfl) ?_;refine AnyG.tk 17 hS ?_;refine AnyG.tk 18 hS ?_;refine AnyG.tk 19 hS ?_;refine AnyG.o1 20 ?_;intro K hK;go_simp
       refine(HWn.out _).mono ?_;rintro e w9 ⟨rfl,hb⟩;have hS9:=And.intro (hS.1.kept hb) (And.intro (hS.2.1.kept hb) (hS.2.2.kept hb));have bw9:=bV.trans (hb.mono bV.size);clear hb hS bV HWn
       refine hK.out _ _ (fun _=>hS9) ?_;clear hK K;try simp only[Act.put,yq0,yq1,yq2,yq3,yq4,yq5]
       refine AnyG.tk 21 hS9 ?_;refine AnyG.tk 22 hS9 ?_;refine AnyG.tk 23 hS9 ?_;refine AnyG.done (by kernel_rfl) ?_ _;go_wp2;go_ret;exact⟨rfl,bw9⟩
    ·have pl2:((pe:Int)==L)=false:=by simpa using pl
     obtain rfl:B=false:=HC1.out pl;clear HKK HLI;refine AnyG.tk 0 hS ?_;refine AnyG.tk 1 hS ?_;refine AnyG.tk 2 hS ?_
     refine AnyG.tf 3 hS rfl (fun w0 h0=>by have c0:=h0.2.1.cell 1 rfl;go_simp;try with_reducible rfl) ?_;refine AnyG.tk 4 hS ?_;refine AnyG.tk 5 hS ?_
     refine AnyG.tf 6 hS rfl (fun w0 h0=>by have c0:=h0.1.cell 5 rfl;go_simp;try with_reducible rfl) ?_;refine AnyG.tk 7 hS ?_;refine AnyG.tk 8 hS ?_;refine AnyG.tk 9 hS ?_;refine AnyG.sk 10 hS ?_;refine AnyG.sk 11 hS ?_
     refine AnyG.sk 12 hS ?_;refine AnyG.sk 13 hS ?_;refine AnyG.sk 14 hS ?_;refine AnyG.sk 15 hS ?_;refine AnyG.sk 16 hS ?_;refine AnyG.sk 17 hS ?_;refine AnyG.sk 18 hS ?_;refine AnyG.sk 19 hS ?_;refine AnyG.sk 20 hS ?_
     refine AnyG.sk 21 hS ?_;refine AnyG.tk 22 hS ?_;refine AnyG.tk 23 hS ?_;refine AnyG.done (by kernel_rfl) ?_ _;go_wp2;go_ret;exact⟨rfl,bV⟩
  ·obtain rfl:B=false:=HC0.out (.inr z2);clear HC0 HC1 HK1 HLa HA;go_wp2;go_ret;exact⟨rfl,bw2⟩
 ·obtain rfl:B=false:=HC0.out (.inl z1);clear HC0 HC1 HK1 HLa HA;go_wp2;go_ret;exact⟨rfl,bw2⟩
end Go.Proofs.YtfnkklkdajlhlaaGreatDoor
