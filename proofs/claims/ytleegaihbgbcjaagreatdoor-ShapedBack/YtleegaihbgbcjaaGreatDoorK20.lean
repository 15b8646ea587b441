import Derived.Test.YtleegaihbgbcjaaGreatDoorK16
set_option linter.unusedVariables false
set_option linter.unusedSimpArgs false
set_option maxRecDepth 100000
set_option maxHeartbeats 16000000
open Go.Proofs.Tryz
namespace Go.Proofs.YtleegaihbgbcjaaGreatDoor
open Go.RowKit Num Bit Bn
theorem uq(a:aE)(h:kOk8 a=true):∃m,CK a m:=by
 obtain⟨m,h1,h2,h3,h4,e⟩:=un a h;have:=vh m (kBX8 a) h2 h4;rw[<-e]at this;exact⟨m,this⟩
theorem mI{b:Bool}(h:b=true->False):b=false:=by
 cases b with
 | false=>rfl
 | true=>exact absurd rfl (fun e=>h e)
theorem IA(a:aE)(m:Nat)(h:CK a m):fi a=true:=by
 unfold fi;refine decide_eq_true ?_;rw[h.nN,Int.toNat_natCast];exact⟨⟨by omega,by have:=h.le;omega⟩,h.ic,h.oc,h.nV,h.nk,h.sl,h.tl⟩
theorem GK(a:aE)(h:fi a=false):kOk8 a=false:=mI fun hk=>by
 obtain⟨m,c⟩:=uq a hk;rw[IA a m c]at h;cases h
theorem GH(a:aE)(h:fi a=true):∃m:Nat,a.N=m/\m<=1048576/\aZ a.k a.V a.M a.xs=true/\ar a.L a.ys=true/\a.V=4/\a.k=(nb m:Int)/\a.S.length=gN m/\a.T.length=gN m:=by
 obtain⟨h1,h2,h3,h4,h5,h6,h7⟩:=of_decide_eq_true h;obtain⟨m,e⟩:=Int.eq_ofNat_of_zero_le h1.1;rw[e,Int.toNat_natCast]at h5 h6 h7;exact⟨m,e,by omega,h2,h3,h4,h5,h6,h7⟩
theorem Iy(a:aE)(m:Nat)(hN:a.N=m)(h:kOk8 a=true):CK a m:=by
 obtain⟨m',c⟩:=uq a h;have:=c.nN;obtain rfl:m=m':=by omega
 exact c
theorem Et(c o r:Nat)(ho:o<ch 15 c):(cnt (blk 15 c o%2^r) 15=c/\off (blk 15 c o%2^r) 15=o)↔blk 15 c o<2^r:=by
 have hb:=k6 15 c o;have hm:=Nat.mod_le (blk 15 c o) (2^r);have P:=Nat.two_pow_pos r;constructor
 .rintro⟨h1,h2⟩;have:=rG (blk 15 c o%2^r) 15;rw[h1,h2,Nat.mod_eq_of_lt (show blk 15 c o%2^r<2^15 by omega)]at this;rw[this];exact Nat.mod_lt _ P
 .intro h;rw[Nat.mod_eq_of_lt h];exact xB 15 c o ho
def lstK(xs:List Nat):Nat->Nat
 | 0=>0
 | i+1=>cls xs i
def lstO(L:Int)(ys xs:List Nat):Nat->Nat
 | 0=>0
 | i+1=>cOff L ys xs i
structure iV (cs:List Value) (a:aE) (w0:World) (gx gl i:Nat) (w:World):Prop where
 below:Below w0.heap.size w0 w
 x:aa w gx cs 40
 last:aa w gl [.int .i64 (lstK a.xs i:Nat),.int .u64 (lstO a.L a.ys a.xs i:Nat)] 235
 right:∀j,j<i->gQ a.L a.ys a.xs j=0/\xJ a j
theorem iV.keep{cs:List Value}{a:aE}{w0:World}{gx gl i hi:Nat}{w w':World}(h:iV cs a w0 gx gl i w)(h0:w0.heap.size<=hi)(h1:gx<hi)(h3:gl<hi)(hb:Below hi w w'):iV cs a w0 gx gl i w':=
 ⟨h.below.trans (hb.mono h0),h.x.keep hb h1,h.last.keep hb h3,h.right⟩
theorem lP(cs:List Value)(a:aE)(w:World)(h:ba w cs a):
  Qq 173 #[.agg cs.toArray] w (.bool (kOk8 a)):=by
 obtain⟨B,hB⟩:∃B,Hid (B=kOk8 a):=⟨_,rfl⟩;rw[<-hB.out]
 have HF:Hid (Qz w 239 #[.agg cs.toArray] (.bool (fi a))):=fun w0 hb=>Bs cs a w0 (h.keep hb)
 have hmf:∀(fn:Fn) (first cap:Array Value) (w:World),(Instr.makeFunc fn first cap).run prog w=.ok (.func fn first cap) w:=fun _ _ _ _=>rfl;cases hf:fi a with
 | false=>
  obtain rfl:B=false:=by rw[hB.out];exact GK a hf
  rw[hf]at HF;obtain⟨⟨ao,cap,qo,dap,so,sc,tO,tc,rfl,_⟩,_⟩:=h;obtain⟨N,k,V,M,xs,L,ys,S,T⟩:=a;dsimp only at *
  obtain⟨W,hW⟩:∃W,W=w.alloc (.cells #[.int .i64 N,.int .i64 k,.int .i64 V,.int .i64 M,.slice ao xs.length cap,.int .i64 L,.slice qo ys.length dap,.slice so S.length sc,.slice tO T.length tc] 40):=⟨_,rfl⟩
  have bW:=aM hW;clear hf hB;go_enter func173,ntmps173;go_wp2_with fail;rw[<-hW];refine mr (HF.out _ bW) fun w1 hb=>?_;have bw1:=bg bW hb;clear hW hb;go_wp2;go_ret;exact⟨rfl,bw1⟩
 | true=>
 rw[hf]at HF;obtain⟨m,e1,hm,ic,oc,e2,e3,sl,tl⟩:=GH a hf;have hCK:Hid (B=true->CK a m):=fun hk=>Iy a m e1 (by rw[<-hB.out];exact hk);have hg:0<gN m:=by unfold gN;omega
 have HM:Hid (Qz w 240 #[.agg cs.toArray,.int .i64 0] (.agg #[.int .i64 (gi a.S 0),.int .i64 (gi a.T 0)])):=fun w0 hb=>pO cs a 0 w0 (h.keep hb) (by omega) (by omega)
 have HB:Hid (∀m',CK a m'->B=true):=fun m' c=>by
  rw[hB.out];obtain⟨⟨ao,cap,qo,dap,so,sc,tO,tc,_,_,_,f1,_,_,f2,_⟩,_⟩:=h;exact Iv a m' f1 f2 c
 have nbl:=gK m hm
 have HA:Hid (∀(gx gl:Nat) w1,gi a.S 0=0->gi a.T 0=0->iV cs a w gx gl 0 w1->w.heap.size<=gl->gl≠gx->gx<w1.heap.size->gl<w1.heap.size->
   Calls prog 199 #[.agg cs.toArray,.int .i64 0,.func (.func 241) #[] #[.pointer (some ⟨gl,0,none⟩),.pointer (some ⟨gx,0,none⟩)]] w1 fun e w'=>∃(q:Nat) (b:Bool),e=.returned (.tuple #[.agg #[.int .i64 (cOn a.xs q:Nat),.int .i64 (cAt a.xs q:Nat)],.bool b])/\q<=nb m/\(b=true->q=nb m/\iV cs a w gx gl (nb m) w')/\(b=false->B=false)/\aD w.heap.size w1.heap.size w1 w'):=by
  intro gx gl w1 s0 t0 hI l1 l2 l4 l6
  refine(nj cs a 0 (nb m) w.heap.size w1.heap.size 241 #[.pointer (some ⟨gl,0,none⟩),.pointer (some ⟨gx,0,none⟩)] (fun i w2=>iV cs a w gx gl i w2) (fun i _=>¬xJ a i) w1 e3 e2 ic (by omega) (by omega) (by omega) s0 t0 hI.below.size (Nat.le_refl _) hI (fun i w2 hi=>h.keep hi.below) (fun i w2 w3 hi hb=>hi.keep hI.below.size l4 l6 hb) (fun i _ _ hi _=>hi) ?cf ?st).mono ?_
  case cf=>
   intro args w2;kernel_rfl
  case st=>
   intro i w2 _ hin hse hi2 hw2;have i8:i/8<gN m:=by unfold gN;omega
   refine(Bu cs a i gl gx w.heap.size w1.heap.size _ w w2 h hi2.below rfl (by omega) (by omega) (by omega) hi2.last rfl hi2.x l2 l1 l6 hw2).mono ?_;rintro e w3 ⟨rfl,c1,c2,c3,fr⟩
   refine⟨_,rfl,fun hr=>?_,fun hr=>by have h:=of_decide_eq_false hr;exact h,fr⟩;have hr:=of_decide_eq_true hr;refine⟨hi2.below.trans fr.below,c3,c1,fun j hj=>?_⟩;by_cases c:j=i
   .subst c;exact⟨hse,hr⟩
   .exact hi2.right j (by omega)
  .rintro e w2 ⟨q,b,rfl,_,hq,h1,h2,fr⟩;refine⟨q,b,rfl,hq,h1,fun hb=>?_,fr⟩;obtain⟨hlt,h3⟩:=h2 hb;refine mI fun hk=>?_;have ck:=hCK.out hk;have ea:=ck.each q hlt;rcases h3 with⟨h3,_⟩ | ⟨_,h3⟩
   .exact h3 ea.1
   .exact h3 ea.2
 have HLa:Hid (∀gx gl w',iV cs a w gx gl (nb m) w'->lstO a.L a.ys a.xs (nb m)<ch 15 (lstK a.xs (nb m))):=by
  intro gx gl w' hI;by_cases c:nb m=0
  .rw[c];show 0<ch 15 0;rw[ix];decide
  .obtain⟨j,hj⟩:∃j,nb m=j+1:=⟨nb m-1,by omega⟩;rw[hj];exact(hI.right j (by omega)).2.1
 have HK1:Hid (∀gx gl w',iV cs a w gx gl (nb m) w'->gi a.S 0=0->gi a.T 0=0->(cAt a.xs (nb m):Int)=a.L->(B=true↔blk 15 (lstK a.xs (nb m)) (lstO a.L a.ys a.xs (nb m))<2^(15+m-15*nb m))):=by
  intro gx gl w' hI s0 t0 he;by_cases c:nb m=0
  .rw[c];refine⟨fun _=>?_,fun _=>HB.out m ⟨e1,hm,e3,e2,ic,oc,sl,tl,s0,t0,fun i hi=>by omega,he,fun h0=>by omega⟩⟩;show blk 15 0 0<_;rw[k5];exact Nat.two_pow_pos _
  .obtain⟨j,hj⟩:∃j,nb m=j+1:=⟨nb m-1,by omega⟩;have ex:15+m-15*nb m=m-15*(nb m-1):=by omega
   have el:blk 15 (lstK a.xs (nb m)) (lstO a.L a.ys a.xs (nb m))=jx a.L a.ys a.xs (nb m-1):=by rw[hj];rfl
   rw[ex,el];refine⟨fun hk=>(hCK.out hk).last (by omega),fun hl=>HB.out m ⟨e1,hm,e3,e2,ic,oc,sl,tl,s0,t0,fun i hi=>?_,he,fun _=>hl⟩⟩;obtain⟨r1,r2,r3⟩:=hI.right i hi;exact⟨r1,r2,r3⟩
 have lkb:lstK a.xs (nb m)<=15:=by
  cases nb m with
  | zero=>exact Nat.zero_le _
  | succ j=>exact iu _ _
 have rb:15+m-15*nb m<=15:=by unfold nb;omega
 have rb2:((15+m-15*nb m:Nat):Int)=(m:Int)-15*((nb m:Int)-1):=by unfold nb;omega
 obtain⟨⟨ao,cap,qo,dap,so,sc,tO,tc,rfl,⟨_,_,_,_,hL64,_,_⟩,_⟩,_⟩:=h;obtain⟨N,k,V,M,xs,L,ys,S,T⟩:=a;dsimp only at *;subst e1 e2 e3
 obtain⟨W,hW⟩:∃W,W=w.alloc (.cells #[.int .i64 m,.int .i64 (nb m:Nat),.int .i64 4,.int .i64 M,.slice ao xs.length cap,.int .i64 L,.slice qo ys.length dap,.slice so S.length sc,.slice tO T.length tc] 40):=⟨_,rfl⟩
 have bW:=aM hW;have B1:=aU hW;clear hf hB HB sl tl
 have HC0:Hid (gi S 0≠0\/gi T 0≠0->B=false):=fun hn=>mI fun hk=>by
  have ck:=hCK.out hk;have:=ck.s0;have:=ck.t0;dsimp only at *;omega
 have HC1:Hid ((cAt xs (nb m):Int)≠L->B=false):=fun hn=>mI fun hk=>hn (hCK.out hk).done;clear hCK;generalize gi S 0=s0 at *;generalize gi T 0=t0 at *;go_enter func173,ntmps173;go_wp2_with fail
 rw[<-hW];refine mr (HF.out _ bW) fun w1 hb=>?_;have bw1:=bg bW hb;replace B1:=B1.kept hb;clear hW hb HF bW;have q0:=B1.cell 0 rfl;have q1:=B1.cell 1 rfl;have q2:=B1.cell 2 rfl
 have q3:=B1.cell 3 rfl;have q4:=B1.cell 4 rfl;have q5:=B1.cell 5 rfl;have q6:=B1.cell 6 rfl;have q7:=B1.cell 7 rfl;have q8:=B1.cell 8 rfl;go_wp2_with fail;refine mr (HM.out _ bw1) fun w2 hb=>?_
 have bw2:=bg bw1 hb;replace B1:=B1.kept hb;clear hb HM bw1 q0 q1 q2 q3 q4 q5 q6 q7 q8;by_cases z1:s0=0
 .by_cases z2:t0=0
  .subst z1 z2;have lt1:=B1.lt;have z3:=bw2.size;have q0:=B1.cell 0 rfl;have q1:=B1.cell 1 rfl;have q2:=B1.cell 2 rfl;have q3:=B1.cell 3 rfl;have q4:=B1.cell 4 rfl;have q5:=B1.cell 5 rfl;have q6:=B1.cell 6 rfl
   have q7:=B1.cell 7 rfl;have q8:=B1.cell 8 rfl;have l0:=B1.lt;obtain⟨W6,hW6⟩:∃W6,W6=w2.alloc (.cells #[.int .i64 0,.int .u64 0] 235):=⟨_,rfl⟩
   have hb6:Below w2.heap.size w2 W6:=by rw[hW6];exact below_alloc w2 _
   have bw6:=bg bw2 hb6;have z6:W6.heap.size=w2.heap.size+1:=by rw[hW6];simp
   have B5:aa W6 w2.heap.size [.int .i64 0,.int .u64 0] 235:=by rw[hW6];exact aa.new w2 _ _
   replace B1:=B1.kept hb6
   have CI:Hid (iV [.int .i64 m,.int .i64 (nb m:Nat),.int .i64 4,.int .i64 M,.slice ao xs.length cap,.int .i64 L,.slice qo ys.length dap,.slice so S.length sc,.slice tO T.length tc] ⟨m,nb m,4,M,xs,L,ys,S,T⟩ w w.heap.size w2.heap.size 0 W6):=⟨bw6,B1,B5,fun j hj=>absurd hj (Nat.not_lt_zero j)⟩
   have CIb:Hid (Below w.heap.size w W6):=bw6;clear hb6 bw6 B5 B1;go_wp2_with fail;rw[<-hW6];refine(HA.out w.heap.size w2.heap.size W6 (by simp) (by simp) CI.out (by omega) (by omega) (by omega) (by omega)).mono ?_
   clear q0 q1 q2 q3 q4 q5 q6 q7 q8 hW6 HA CI HC0 bw2;rintro e w7 ⟨q,b,rfl,hq,h1,h2,fr⟩;cases b with
   | false=>
    obtain rfl:B=false:=h2 rfl;have bw7:=fr.below;have HBW:Hid (Below w.heap.size w w7):=CIb.out.trans bw7;clear HC1 HK1 HLa h1 h2 fr bw7;go_wp2;refine aB [] (fun w'=>True) (by kernel_rfl) ?_
    have hS:True:=trivial;have bV:Below w.heap.size w (w7.alloc (.cells #[.int .i64 (cOn xs q:Nat),.int .i64 (cAt xs q:Nat)] 216)).drew:=(HBW.out.alloc HBW.out.size _).drew
    generalize (w7.alloc (.cells #[.int .i64 (cOn xs q:Nat),.int .i64 (cAt xs q:Nat)] 216)).drew=Y at *;refine aK 0 hS ?_;refine aK 1 hS ?_;refine aS 2 hS ?_;refine aS 3 hS ?_;refine aS 4 hS ?_
    refine aS 5 hS ?_;refine aS 6 hS ?_;refine aS 7 hS ?_;refine aK 8 hS ?_;refine aK 9 hS ?_;refine aS 10 hS ?_;refine aS 11 hS ?_;refine aS 12 hS ?_;refine aS 13 hS ?_
    refine aS 14 hS ?_;refine aS 15 hS ?_;refine aS 16 hS ?_;refine aS 17 hS ?_;refine aS 18 hS ?_;refine aS 19 hS ?_;refine aS 20 hS ?_;refine aS 21 hS ?_;refine aK 22 hS ?_
    refine aK 23 hS ?_;refine aq.done (by kernel_rfl) ?_ _;go_wp2;go_ret;exact⟨rfl,bV⟩
   | true=>
    obtain⟨rfl,ci⟩:=h1 rfl;have bw7:=fr.below;have HBW:Hid (Below w.heap.size w w7):=CIb.out.trans bw7;have HO:=HLa.out _ _ _ ci
    have HKK:Hid ((cAt xs (nb m):Int)=L->(B=true↔blk 15 (lstK xs (nb m)) (lstO L ys xs (nb m))<2^(15+m-15*nb m))):=fun e=>HK1.out _ _ _ ci (by simp) (by simp) e
    have u1:IntKind.i64.wrap ((nb m:Int)-1)=(nb m:Int)-1:=by rw[IntKind.wrap_i64];omega
    have u2:IntKind.i64.wrap (15*((nb m:Int)-1))=15*((nb m:Int)-1):=by rw[IntKind.wrap_i64];omega
    have u3:IntKind.i64.wrap ((m:Int)-15*((nb m:Int)-1))=((15+m-15*nb m:Nat):Int):=by rw[IntKind.wrap_i64,rb2];omega
    have HWn:Hid (∀w0,Qq 242 #[.agg #[.int .i64 (lstK xs (nb m):Nat),.int .u64 (lstO L ys xs (nb m):Nat)],.int .i64 ((15+m-15*nb m:Nat):Int)] w0 (.agg #[.int .i64 (cnt (blk 15 (lstK xs (nb m)) (lstO L ys xs (nb m))%2^(15+m-15*nb m)) 15:Nat),.int .u64 (off (blk 15 (lstK xs (nb m)) (lstO L ys xs (nb m))%2^(15+m-15*nb m)) 15:Nat)])):=fun w0=>Ba _ _ _ lkb HO (by omega) w0
    have HLI:Hid ((cnt (blk 15 (lstK xs (nb m)) (lstO L ys xs (nb m))%2^(15+m-15*nb m)) 15=lstK xs (nb m)/\off (blk 15 (lstK xs (nb m)) (lstO L ys xs (nb m))%2^(15+m-15*nb m)) 15=lstO L ys xs (nb m))↔blk 15 (lstK xs (nb m)) (lstO L ys xs (nb m))<2^(15+m-15*nb m)):=Et _ _ _ HO
    have B1:=ci.x;have B5:=ci.last;dsimp only at B5;clear HLa HK1 h1 h2 fr bw7 ci HO rb rb2 ic;generalize cnt (blk 15 (lstK xs (nb m)) (lstO L ys xs (nb m))%2^(15+m-15*nb m)) 15=K at *
    generalize off (blk 15 (lstK xs (nb m)) (lstO L ys xs (nb m))%2^(15+m-15*nb m)) 15=O at *;generalize (blk 15 (lstK xs (nb m)) (lstO L ys xs (nb m))<2^(15+m-15*nb m))=Pr at *
    generalize 15+m-15*nb m=r at *;generalize lstK xs (nb m)=lk at *;generalize lstO L ys xs (nb m)=lo at *;generalize cAt xs (nb m)=pe at *;generalize cOn xs (nb m)=po at *;generalize nb m=n at *;go_wp2
    have hb8:=below_alloc w7 (.cells #[.int .i64 po,.int .i64 pe] 216);have B6:=aa.new w7 [.int .i64 po,.int .i64 pe] 216;replace B1:=B1.kept hb8;replace B5:=B5.kept hb8
    have bV:Below w.heap.size w (w7.alloc (.cells #[.int .i64 po,.int .i64 pe] 216)).drew:=(HBW.out.alloc HBW.out.size _).drew
    refine aB [] (fun w'=>aa w' w.heap.size [.int .i64 m,.int .i64 n,.int .i64 4,.int .i64 M,.slice ao xs.length cap,.int .i64 L,.slice qo ys.length dap,.slice so S.length sc,.slice tO T.length tc] 40/\aa w' w7.heap.size [.int .i64 po,.int .i64 pe] 216/\aa w' w2.heap.size [.int .i64 lk,.int .u64 lo] 235) (by kernel_rfl) ?_
    have hS:aa (w7.alloc (.cells #[.int .i64 po,.int .i64 pe] 216)).drew w.heap.size [.int .i64 m,.int .i64 n,.int .i64 4,.int .i64 M,.slice ao xs.length cap,.int .i64 L,.slice qo ys.length dap,.slice so S.length sc,.slice tO T.length tc] 40/\aa (w7.alloc (.cells #[.int .i64 po,.int .i64 pe] 216)).drew w7.heap.size [.int .i64 po,.int .i64 pe] 216/\aa (w7.alloc (.cells #[.int .i64 po,.int .i64 pe] 216)).drew w2.heap.size [.int .i64 lk,.int .u64 lo] 235:=⟨B1,B6,B5⟩
    clear B1 B5 B6 hb8;generalize (w7.alloc (.cells #[.int .i64 po,.int .i64 pe] 216)).drew=Y at *;by_cases pl:(pe:Int)=L
    .have pl2:((pe:Int)==L)=true:=by simpa using pl
     have HP:=HKK.out pl;by_cases pr:Pr
     .obtain rfl:B=true:=HP.2 pr;obtain⟨k1,k2⟩:=HLI.out.2 pr;have k3:(lk:Int)=(K:Int):=by omega
      have k4:(lo:Int)=(O:Int):=by omega
      subst k1 k2;clear k3 k4 HP HKK HLI;refine aK 0 hS ?_;refine aK 1 hS ?_;refine aK 2 hS ?_;refine aF 3 hS rfl (fun w0 h0=>by have c0:=h0.2.1.cell 1 rfl;go_simp;try with_reducible rfl) ?_
      refine aK 4 hS ?_;refine aK 5 hS ?_;refine aF 6 hS rfl (fun w0 h0=>by have c0:=h0.1.cell 5 rfl;go_simp;try with_reducible rfl) ?_;refine aK 7 hS ?_;refine aK 8 hS ?_;refine aK 9 hS ?_
      refine aF 10 hS rfl (fun w0 h0=>by have c0:=h0.2.2.cell 0 rfl;have c1:=h0.2.2.cell 1 rfl;go_simp;try with_reducible rfl) ?_
      refine aF 11 hS rfl (fun w0 h0=>by have c0:=h0.2.2.cell 0 rfl;have c1:=h0.2.2.cell 1 rfl;go_simp;try with_reducible rfl) ?_;refine aK 12 hS ?_
      refine aF 13 hS rfl (fun w0 h0=>by have c0:=h0.1.cell 0 rfl;go_simp;try with_reducible rfl) ?_;refine aK 14 hS ?_;refine aK 15 hS ?_
      refine aF 16 hS rfl (fun w0 h0=>by have c0:=h0.1.cell 1 rfl;go_simp;try with_reducible rfl) ?_;refine aK 17 hS ?_;refine aK 18 hS ?_;refine aK 19 hS ?_;refine aO 20 ?_;intro K hK;go_simp
      refine mr (HWn.out _) fun w9 hb=>?_;have hS9:=And.intro (hS.1.kept hb) (And.intro (hS.2.1.kept hb) (hS.2.2.kept hb));have bw9:=bg bV hb;clear hb hS bV HWn
      refine hK.out _ _ (fun _=>hS9) ?_;clear hK K;try simp only[Act.put,ak,aj,ai,ae,ah,ag]
      refine aK 21 hS9 ?_;refine aK 22 hS9 ?_;refine aK 23 hS9 ?_;refine aq.done (by kernel_rfl) ?_ _;go_wp2;go_ret;exact⟨rfl,bw9⟩
     .obtain rfl:B=false:=mI fun hk=>pr (HP.1 hk);have kn:¬(K=lk/\O=lo):=fun hk=>pr (HLI.out.1 hk);by_cases k1:lk=K
      .have k2:¬(lo:Int)=(O:Int):=by omega
       have k3:¬lo=O:=by omega
       subst k1;clear HP HKK HLI kn;refine aK 0 hS ?_;refine aK 1 hS ?_;refine aK 2 hS ?_;refine aF 3 hS rfl (fun w0 h0=>by have c0:=h0.2.1.cell 1 rfl;go_simp;try with_reducible rfl) ?_
       refine aK 4 hS ?_;refine aK 5 hS ?_;refine aF 6 hS rfl (fun w0 h0=>by have c0:=h0.1.cell 5 rfl;go_simp;try with_reducible rfl) ?_;refine aK 7 hS ?_;refine aK 8 hS ?_
       refine aK 9 hS ?_;refine aF 10 hS rfl (fun w0 h0=>by have c0:=h0.2.2.cell 0 rfl;have c1:=h0.2.2.cell 1 rfl;go_simp;try with_reducible rfl) ?_
       refine aF 11 hS rfl (fun w0 h0=>by have c0:=h0.2.2.cell 0 rfl;have c1:=h0.2.2.cell 1 rfl;go_simp;try with_reducible rfl) ?_;refine aK 12 hS ?_
       refine aF 13 hS rfl (fun w0 h0=>by have c0:=h0.1.cell 0 rfl;go_simp;try with_reducible rfl) ?_;refine aK 14 hS ?_;refine aK 15 hS ?_
       refine aF 16 hS rfl (fun w0 h0=>by have c0:=h0.1.cell 1 rfl;go_simp;try with_reducible rfl) ?_;refine aK 17 hS ?_;refine aK 18 hS ?_;refine aK 19 hS ?_;refine aO 20 ?_;intro K hK;go_simp
       refine mr (HWn.out _) fun w9 hb=>?_;have hS9:=And.intro (hS.1.kept hb) (And.intro (hS.2.1.kept hb) (hS.2.2.kept hb));have bw9:=bg bV hb;clear hb hS bV HWn
       refine hK.out _ _ (fun _=>hS9) ?_;clear hK K;try simp only[Act.put,ak,aj,ai,ae,ah,ag]
       refine aK 21 hS9 ?_;refine aK 22 hS9 ?_;refine aK 23 hS9 ?_;refine aq.done (by kernel_rfl) ?_ _;go_wp2;go_ret;exact⟨rfl,bw9⟩
      .have k2:¬(lk:Int)=(K:Int):=by omega
       clear HP HKK HLI kn;refine aK 0 hS ?_;refine aK 1 hS ?_;refine aK 2 hS ?_;refine aF 3 hS rfl (fun w0 h0=>by have c0:=h0.2.1.cell 1 rfl;go_simp;try with_reducible rfl) ?_
       refine aK 4 hS ?_;refine aK 5 hS ?_;refine aF 6 hS rfl (fun w0 h0=>by have c0:=h0.1.cell 5 rfl;go_simp;try with_reducible rfl) ?_;refine aK 7 hS ?_;refine aK 8 hS ?_
       refine aK 9 hS ?_;refine aF 10 hS rfl (fun w0 h0=>by have c0:=h0.2.2.cell 0 rfl;have c1:=h0.2.2.cell 1 rfl;go_simp;try with_reducible rfl) ?_
       refine aF 11 hS rfl (fun w0 h0=>by have c0:=h0.2.2.cell 0 rfl;have c1:=h0.2.2.cell 1 rfl;go_simp;try with_reducible rfl) ?_;refine aK 12 hS ?_
       refine aF 13 hS rfl (fun w0 h0=>by have c0:=h0.1.cell 0 rfl;go_simp;try with_reducible rfl) ?_;refine aK 14 hS ?_;refine aK 15 hS ?_
       refine aF 16 hS rfl (fun w0 h0=>by have c0:=h0.1.cell 1 rfl;go_simp;try with_reducible rfl) ?_;refine aK 17 hS ?_;refine aK 18 hS ?_;refine aK 19 hS ?_;refine aO 20 ?_;intro K hK;go_simp
       refine mr (HWn.out _) fun w9 hb=>?_;have hS9:=And.intro (hS.1.kept hb) (And.intro (hS.2.1.kept hb) (hS.2.2.kept hb));have bw9:=bg bV hb;clear hb hS bV HWn
       refine hK.out _ _ (fun _=>hS9) ?_;clear hK K;try simp only[Act.put,ak,aj,ai,ae,ah,ag]
       refine aK 21 hS9 ?_;refine aK 22 hS9 ?_;refine aK 23 hS9 ?_;refine aq.done (by kernel_rfl) ?_ _;go_wp2;go_ret;exact⟨rfl,bw9⟩
    .have pl2:((pe:Int)==L)=false:=by simpa using pl
     obtain rfl:B=false:=HC1.out pl;clear HKK HLI;refine aK 0 hS ?_;refine aK 1 hS ?_;refine aK 2 hS ?_
     refine aF 3 hS rfl (fun w0 h0=>by have c0:=h0.2.1.cell 1 rfl;go_simp;try with_reducible rfl) ?_;refine aK 4 hS ?_;refine aK 5 hS ?_
     refine aF 6 hS rfl (fun w0 h0=>by have c0:=h0.1.cell 5 rfl;go_simp;try with_reducible rfl) ?_;refine aK 7 hS ?_;refine aK 8 hS ?_;refine aK 9 hS ?_;refine aS 10 hS ?_;refine aS 11 hS ?_
     refine aS 12 hS ?_;refine aS 13 hS ?_;refine aS 14 hS ?_;refine aS 15 hS ?_;refine aS 16 hS ?_;refine aS 17 hS ?_;refine aS 18 hS ?_;refine aS 19 hS ?_;refine aS 20 hS ?_
     refine aS 21 hS ?_;refine aK 22 hS ?_;refine aK 23 hS ?_;refine aq.done (by kernel_rfl) ?_ _;go_wp2;go_ret;exact⟨rfl,bV⟩
  .obtain rfl:B=false:=HC0.out (.inr z2);clear HC0 HC1 HK1 HLa HA;go_wp2;go_ret;exact⟨rfl,bw2⟩
 .obtain rfl:B=false:=HC0.out (.inl z1);clear HC0 HC1 HK1 HLa HA;go_wp2;go_ret;exact⟨rfl,bw2⟩
structure KV (a:aE) (m:Nat) (X:List Nat):Prop where
 nN:a.N=m
 nk:a.k=nb m
 nV:a.V=4
 le:m<=1048576
 ic:aZ a.k a.V a.M a.xs=true
 sl:a.S.length=gN m
 tl:a.T.length=gN m
 fit:Fit X
 ck:ar (m:Int) X=true
 cl:∀i,i<nb m->cls a.xs i=bcl m (bitAt X) i
 on:∀i,i<=nb m->cOn a.xs i=bon m (bitAt X) i
 se:∀i,i<nb m->gQ a.L a.ys a.xs i=0
 off:∀i,i<nb m->cOff a.L a.ys a.xs i<ch 15 (cls a.xs i)
 wd:∀i,i<nb m->blk 15 (cls a.xs i) (cOff a.L a.ys a.xs i)=blv m (bitAt X) i
 gs:∀g,g<gN m->gi a.S g=cOn a.xs (8*g)
 gt:∀g,g<gN m->gi a.T g=cAt a.xs (8*g)
theorem nE(a:aE)(h:kOk8 a=true):∃m:Nat,kBN8 a=(m:Int)/\KV a m (kBX8 a):=by
 obtain⟨m,h1,h2,h3,h4,e⟩:=un a h;have c:=vh m (kBX8 a) h2 h4;obtain⟨r1,r2,r3⟩:=vg m (kBX8 a) h2 h4;have k:=nW m (kBX8 a) h4;rw[<-e]at c;rw[<-e]at k
 have exs:a.xs=rC m (bitAt (kBX8 a)):=congrArg aE.xs k;have eys:a.ys=rO m (bitAt (kBX8 a)):=congrArg aE.ys k;have eL:a.L=(bat m (bitAt (kBX8 a)) (nb m):Int):=congrArg aE.L k
 refine⟨m,h1,c.nN,c.nk,c.nV,h2,c.ic,c.sl,c.tl,h3,h4,?_,?_,?_,?_,?_,?_,?_⟩
 .intro i hi;rw[exs];exact r1 i hi
 .intro i hi;rw[exs];exact(r2 i hi).2
 .intro i hi;exact(c.each i hi).1
 .intro i hi;exact(c.each i hi).2.1
 .intro i hi;rw[exs,eys,eL];exact(r3 i hi).2.2
 .intro g hg;by_cases z:g=0
  .subst z;exact c.s0
  .have h8:=ju m g hg z;have:=((c.each (8*g) h8).2.2 (by omega)).1;rw[show 8*g/8=g by omega]at this;exact this
 .intro g hg;by_cases z:g=0
  .subst z;exact c.t0
  .have h8:=ju m g hg z;have:=((c.each (8*g) h8).2.2 (by omega)).2;rw[show 8*g/8=g by omega]at this;exact this
theorem AP{fn:Func}{p u:Tmp}{T U:TypeId}{w:World}{tmps:Array Value}(h:fn.results=#[.cell p T,.cell u U])(g k:Nat)(cs ds:List Value){fs gs:Array Field}(hp:tmps.getD p undef=.pointer (some ⟨g,0,none⟩))(hu:tmps.getD u undef=.pointer (some ⟨k,0,none⟩))(hc:aa w g cs T)(hd:aa w k ds U)(h1:prog.underlying T=some (.struct fs))(h2:prog.underlying U=some (.struct gs))(i1:(prog.info? T).map (·.size)=some cs.length)(i2:(prog.info? U).map (·.size)=some ds.length):
  (results fn tmps).run prog w=.ok (.tuple #[.agg cs.toArray,.agg ds.toArray]) w:=by
 have hp':tmps[p]?.getD undef=.pointer (some ⟨g,0,none⟩):=by simpa using hp
 have hu':tmps[u]?.getD undef=.pointer (some ⟨k,0,none⟩):=by simpa using hu
 have hl:=run_loadVar_row (P:=prog) w g T T cs.toArray (0,0) _ hc h1 rfl (by simpa using i1);have hm:=run_loadVar_row (P:=prog) w k U U ds.toArray (0,0) _ hd h2 rfl (by simpa using i2)
 simp[results,h,hp',hu',asAddr,hl,hm]
theorem sD{l:List Value}(h:l.length=2):∃v0 v1,l=[v0,v1]:=by
 match l,h with
 | [v0,v1],_=>exact⟨v0,v1,rfl⟩
theorem BA(j c o s p i gf gb gi lo hi:Nat)(of ob:List Value)(w:World)(hof:of.length=2)(hob:ob.length=2)
  (hcf:aa w gf of 235) (hcb:aa w gb ob 216) (hci:aa w gi [.int .i64 i] 3) (h1:gf≠gb) (h2:gf≠gi) (h3:gb≠gi) (l1:lo<=gf) (l2:lo<=gb) (l3:gf<hi) (l4:gb<hi) (l5:hi<=w.heap.size) (l6:lo<=w.heap.size):
  Calls prog 243 #[.int .i64 j,.agg #[.int .i64 c,.int .u64 o],.agg #[.int .i64 s,.int .i64 p],.pointer (some ⟨gf,0,none⟩),.pointer (some ⟨gb,0,none⟩),.pointer (some ⟨gi,0,none⟩)] w
   fun e w'=>e=.returned (.bool (decide (j<i)))/\aa w' gf [.int .i64 c,.int .u64 o] 235/\aa w' gb [.int .i64 s,.int .i64 p] 216/\aa w' gi [.int .i64 i] 3/\aD lo hi w w'/\(∀b,b≠gf->b≠gb->b<w.heap.size->w'.heap[b]?=w.heap[b]?):=by
 obtain⟨v0,v1,rfl⟩:=sD hof;obtain⟨u0,u1,rfl⟩:=sD hob
 obtain⟨W,hW⟩:∃W,W=(w.alloc (.cells #[.int .i64 c,.int .u64 o] 235)).alloc (.cells #[.int .i64 s,.int .i64 p] 216):=⟨_,rfl⟩;have bW:=cW hW;have B1:=eU hW;have B2:=dE hW
 have F1:aD lo hi w W:=aD.of bW l6;replace hcf:=hcf.kept bW;replace hcb:=hcb.kept bW;replace hci:=hci.kept bW;go_enter func243,ntmps243;go_wp2;rw[<-hW]
 refine aB [3] (fun w'=>aa w' w.heap.size [.int .i64 c,.int .u64 o] 235/\aa w' (w.heap.size+1) [.int .i64 s,.int .i64 p] 216) (by kernel_rfl) ?_
 have hS:aa W.drew w.heap.size [.int .i64 c,.int .u64 o] 235/\aa W.drew (w.heap.size+1) [.int .i64 s,.int .i64 p] 216:=⟨B1,B2⟩;replace hcf:aa W.drew gf [v0,v1] 235:=hcf
 replace hcb:aa W.drew gb [u0,u1] 216:=hcb;replace hci:aa W.drew gi [.int .i64 i] 3:=hci;replace F1:aD lo hi w W.drew:=F1.trans (aD.of (Below.refl _ _).drew (by have:=bW.size;omega))
 have G1:∀b,b<w.heap.size->W.drew.heap[b]?=w.heap[b]?:=fun b hb=>bW.block b hb;generalize W.drew=Y at *;clear B1 B2 hW bW
 refine aF 0 hS rfl (fun w0 h0=>by have c0:=h0.1.cell 0 rfl;have c1:=h0.1.cell 1 rfl;go_simp;try with_reducible rfl) ?_
 refine aF 1 hS rfl (fun w0 h0=>by have c0:=h0.2.cell 0 rfl;have c1:=h0.2.cell 1 rfl;go_simp;try with_reducible rfl) ?_;refine aO 2 ?_;intro K hK;have f0:=hcf.frozen 0;have f1:=hcf.frozen 1
 have n0:=hcf.cell 0 rfl;have n1:=hcf.cell 1 rfl;go_simp
 refine hK.out _ _ (fun _=>⟨(hS.1.other (by show w.heap.size≠gf;omega) _).other (by show w.heap.size≠gf;omega) _,(hS.2.other (by show w.heap.size+1≠gf;omega) _).other (by show w.heap.size+1≠gf;omega) _⟩) ?_
 clear hK K f0 f1 n0 n1;have F2:aD lo hi w ((Y.setCell ⟨gf,0,none⟩ (.int .i64 c)).setCell ⟨gf,1,none⟩ (.int .u64 o)):=F1.trans ((((aw.refl gf Y).set 0 _).set 1 _).fr l1 l3)
 replace hcf:aa ((Y.setCell ⟨gf,0,none⟩ (.int .i64 c)).setCell ⟨gf,1,none⟩ (.int .u64 o)) gf [.int .i64 c,.int .u64 o] 235:=(hcf.set 0 _).set 1 _
 replace hcb:=(hcb.other (a:=⟨gf,0,none⟩) (Ne.symm h1) (.int .i64 c)).other (a:=⟨gf,1,none⟩) (Ne.symm h1) (.int .u64 o)
 replace hci:=(hci.other (a:=⟨gf,0,none⟩) (Ne.symm h2) (.int .i64 c)).other (a:=⟨gf,1,none⟩) (Ne.symm h2) (.int .u64 o)
 replace G1:∀b,b≠gf->b<w.heap.size->((Y.setCell ⟨gf,0,none⟩ (.int .i64 c)).setCell ⟨gf,1,none⟩ (.int .u64 o)).heap[b]?=w.heap[b]?:=fun b hb hl=>((((aw.refl gf Y).set 0 _).set 1 _).block b hb).trans (G1 b hl)
 generalize (Y.setCell ⟨gf,0,none⟩ (.int .i64 c)).setCell ⟨gf,1,none⟩ (.int .u64 o)=Z at *;try simp only[Act.put,ak,aj,ai,ae,ah,ag]
 refine aO 3 ?_;intro K hK;have f0:=hcb.frozen 0;have f1:=hcb.frozen 1;have n0:=hcb.cell 0 rfl;have n1:=hcb.cell 1 rfl;go_simp;refine hK.out _ _ (fun h=>absurd (by decide) h) ?_;clear hK K
 try simp only[Act.put,ak,aj,ai,ae,ah,ag]
 refine aq.done (by kernel_rfl) ?_ _;clear f0 f1 n0 n1
 have F3:aD lo hi w ((Z.setCell ⟨gb,0,none⟩ (.int .i64 s)).setCell ⟨gb,1,none⟩ (.int .i64 p)):=F2.trans ((((aw.refl gb Z).set 0 _).set 1 _).fr l2 l4)
 replace hcb:aa ((Z.setCell ⟨gb,0,none⟩ (.int .i64 s)).setCell ⟨gb,1,none⟩ (.int .i64 p)) gb [.int .i64 s,.int .i64 p] 216:=(hcb.set 0 _).set 1 _
 replace hcf:=(hcf.other (a:=⟨gb,0,none⟩) h1 (.int .i64 s)).other (a:=⟨gb,1,none⟩) h1 (.int .i64 p)
 replace hci:=(hci.other (a:=⟨gb,0,none⟩) (Ne.symm h3) (.int .i64 s)).other (a:=⟨gb,1,none⟩) (Ne.symm h3) (.int .i64 p)
 replace G1:∀b,b≠gf->b≠gb->b<w.heap.size->((Z.setCell ⟨gb,0,none⟩ (.int .i64 s)).setCell ⟨gb,1,none⟩ (.int .i64 p)).heap[b]?=w.heap[b]?:=fun b hb hb2 hl=>((((aw.refl gb Z).set 0 _).set 1 _).block b hb2).trans (G1 b hb hl)
 generalize (Z.setCell ⟨gb,0,none⟩ (.int .i64 s)).setCell ⟨gb,1,none⟩ (.int .i64 p)=Z2 at *;have m0:=hci.cell 0 rfl
 have HH:Hid (aa Z2 gf [.int .i64 c,.int .u64 o] 235/\aa Z2 gb [.int .i64 s,.int .i64 p] 216/\aa Z2 gi [.int .i64 i] 3/\aD lo hi w Z2/\(∀b,b≠gf->b≠gb->b<w.heap.size->Z2.heap[b]?=w.heap[b]?)):=⟨hcf,hcb,hci,F3,G1⟩
 clear G1 hcf hcb hci F3 F2 F1 hS;go_wp2;go_ret;exact⟨i_ (by simp),HH.out⟩
structure lz (w0:World) (i gf gb gi gr j:Nat) (w:World):Prop where
 below:Below w0.heap.size w0 w
 le:j<=i
 f:∃l,aa w gf l 235/\l.length=2
 b:∃l,aa w gb l 216/\l.length=2
 i:aa w gi [.int .i64 i] 3
 r1:aa w gr [.int .i64 0,.int .u64 0] 235
 r2:aa w (gr+1) [.int .i64 0,.int .i64 0] 216
theorem lz.keep{w0:World}{i gf gb gi gr j hi:Nat}{w w':World}(h:lz w0 i gf gb gi gr j w)(h0:w0.heap.size<=hi)(h1:gf<hi)(h2:gb<hi)(h3:gi<hi)(h4:gr+1<hi)(hb:Below hi w w'):lz w0 i gf gb gi gr j w':=by
 obtain⟨l,c,e⟩:=h.f;obtain⟨k,d,e2⟩:=h.b;exact⟨h.below.trans (hb.mono h0),h.le,⟨l,c.keep hb h1,e⟩,⟨k,d.keep hb h2,e2⟩,h.i.keep hb h3,h.r1.keep hb (by omega),h.r2.keep hb h4⟩
theorem tU(cs:List Value)(a:aE)(m i:Nat)(Y:List Nat)(w:World)(h:ba w cs a)(v:KV a m Y)(hi:i<nb m):
  Qq 174 #[.agg cs.toArray,.int .i64 i] w (.tuple #[.agg #[.int .i64 (cls a.xs i:Nat),.int .u64 (cOff a.L a.ys a.xs i:Nat)],.agg #[.int .i64 (cOn a.xs i:Nat),.int .i64 (cAt a.xs i:Nat)]]):=by
 have nbl:=gK m v.le;have ig:i/8<gN m:=by unfold gN;omega
 have HA:Hid (∀(gf gb gi gr:Nat) w1,lz w i gf gb gi gr (8*(i/8)) w1->gr≠gf->gr≠gb->gr+1≠gf->gr+1≠gb->gr+1<w1.heap.size->w.heap.size<=gf->w.heap.size<=gb->gf≠gb->gf≠gi->gb≠gi->gf<w1.heap.size->gb<w1.heap.size->gi<w1.heap.size->
   Calls prog 199 #[.agg cs.toArray,.int .i64 ((i:Int)/8),.func (.func 243) #[] #[.pointer (some ⟨gf,0,none⟩),.pointer (some ⟨gb,0,none⟩),.pointer (some ⟨gi,0,none⟩)]] w1 fun e w'=>∃r,e=.returned r/\aa w' gf [.int .i64 (cls a.xs i:Nat),.int .u64 (cOff a.L a.ys a.xs i:Nat)] 235/\aa w' gb [.int .i64 (cOn a.xs i:Nat),.int .i64 (cAt a.xs i:Nat)] 216/\aa w' gr [.int .i64 0,.int .u64 0] 235/\aa w' (gr+1) [.int .i64 0,.int .i64 0] 216/\aD w.heap.size w1.heap.size w1 w'):=by
  intro gf gb gi gr w1 hI n1 n2 n3 n4 n5 l1 l2 l3 l4 l5 l6 l7 l8;have e8:((i:Int)/8)=((i/8:Nat):Int):=by omega
  rw[e8]
  refine(nj cs a (i/8) (nb m) w.heap.size w1.heap.size 243 #[.pointer (some ⟨gf,0,none⟩),.pointer (some ⟨gb,0,none⟩),.pointer (some ⟨gi,0,none⟩)] (fun j w2=>lz w i gf gb gi gr j w2) (fun j w2=>j=i/\(aa w2 gr [.int .i64 0,.int .u64 0] 235/\aa w2 (gr+1) [.int .i64 0,.int .i64 0] 216)/\aa w2 gf [.int .i64 (cls a.xs j:Nat),.int .u64 (cOff a.L a.ys a.xs j:Nat)] 235/\aa w2 gb [.int .i64 (cOn a.xs j:Nat),.int .i64 (cAt a.xs j:Nat)] 216) w1 v.nk v.nV v.ic (by omega) (by rw[v.sl];exact ig) (by rw[v.tl];exact ig) (v.gs _ ig) (v.gt _ ig) hI.below.size (Nat.le_refl _) hI (fun j w2 hj=>h.keep hj.below) (fun j w2 w3 hj hb=>hj.keep hI.below.size l6 l7 l8 n5 hb) (fun j w2 w3 hj hb=>⟨hj.1,⟨hj.2.1.1.keep hb (by omega),hj.2.1.2.keep hb n5⟩,hj.2.2.1.keep hb l6,hj.2.2.2.keep hb l7⟩) ?cf ?st).mono ?_
  case cf=>
   intro args w2;kernel_rfl
  case st=>
   intro j w2 _ hjn hse hj hw2;obtain⟨lf,c1,e1⟩:=hj.f;obtain⟨lb,c2,e2⟩:=hj.b;refine(BA j _ _ _ _ i gf gb gi w.heap.size w1.heap.size lf lb w2 e1 e2 c1 c2 hj.i l3 l4 l5 l1 l2 l6 l7 hw2 hj.below.size).mono ?_
   rintro e w3 ⟨rfl,d1,d2,d3,fr,gg⟩;have r1:aa w3 gr [.int .i64 0,.int .u64 0] 235:=(gg gr n1 n2 hj.r1.lt).trans hj.r1
   have r2:aa w3 (gr+1) [.int .i64 0,.int .i64 0] 216:=(gg (gr+1) n3 n4 hj.r2.lt).trans hj.r2;refine⟨_,rfl,fun hr=>?_,fun hr=>?_,fr⟩
   .have hr:=of_decide_eq_true hr;exact⟨hj.below.trans fr.below,by omega,⟨_,d1,rfl⟩,⟨_,d2,rfl⟩,d3,r1,r2⟩
   .have hr:=of_decide_eq_false hr;have:=hj.le;exact⟨by omega,⟨r1,r2⟩,d1,d2⟩
  .rintro e w2 ⟨q,b,rfl,_,hq,h1,h2,fr⟩;cases b with
   | true=>
    obtain⟨rfl,hI2⟩:=h1 rfl;have:=hI2.le;omega
   | false=>
    obtain⟨hlt,h3⟩:=h2 rfl;rcases h3 with⟨h3,_⟩ | ⟨_,rfl,⟨r1,r2⟩,h4,h5⟩
    .exact absurd (v.se q hlt) h3
    .exact⟨_,rfl,h4,h5,r1,r2,fr⟩
 have hmf:∀(fn:Fn) (first cap:Array Value) (w:World),(Instr.makeFunc fn first cap).run prog w=.ok (.func fn first cap) w:=fun _ _ _ _=>rfl;have hib:i<=69906:=by omega
 clear v;obtain⟨⟨ao,cap,qo,dap,so,sc,tO,tc,rfl,_⟩,_⟩:=h;obtain⟨N,k,V,M,xs,L,ys,S,T⟩:=a;dsimp only at *;generalize cls xs i=c at *;generalize cOff L ys xs i=o at *;generalize cOn xs i=s at *
 generalize cAt xs i=p at *
 obtain⟨W,hW⟩:∃W,W=(((((w.alloc (.cells #[.int .i64 N,.int .i64 k,.int .i64 V,.int .i64 M,.slice ao xs.length cap,.int .i64 L,.slice qo ys.length dap,.slice so S.length sc,.slice tO T.length tc] 40)).alloc (.cells #[.int .i64 i] 3)).alloc (.cells #[.int .i64 0,.int .u64 0] 235)).alloc (.cells #[.int .i64 0,.int .i64 0] 216)).alloc (.cells #[.int .i64 0,.int .u64 0] 235)).alloc (.cells #[.int .i64 0,.int .i64 0] 216):=⟨_,rfl⟩
 obtain⟨⟨bW,zW⟩,C1,C2,C3,C4,C5⟩:(Below w.heap.size w W/\W.heap.size=w.heap.size+6)/\aa W (w.heap.size+1) [.int .i64 i] 3/\aa W (w.heap.size+2) [.int .i64 0,.int .u64 0] 235/\aa W (w.heap.size+3) [.int .i64 0,.int .i64 0] 216/\aa W (w.heap.size+4) [.int .i64 0,.int .u64 0] 235/\aa W (w.heap.size+5) [.int .i64 0,.int .i64 0] 216:=by
  rw[hW]
  have e1:=aa.new (w.alloc (.cells #[.int .i64 N,.int .i64 k,.int .i64 V,.int .i64 M,.slice ao xs.length cap,.int .i64 L,.slice qo ys.length dap,.slice so S.length sc,.slice tO T.length tc] 40)) [.int .i64 i] 3
  have e2:=aa.new ((w.alloc (.cells #[.int .i64 N,.int .i64 k,.int .i64 V,.int .i64 M,.slice ao xs.length cap,.int .i64 L,.slice qo ys.length dap,.slice so S.length sc,.slice tO T.length tc] 40)).alloc (.cells #[.int .i64 i] 3)) [.int .i64 0,.int .u64 0] 235
  have e3:=aa.new (((w.alloc (.cells #[.int .i64 N,.int .i64 k,.int .i64 V,.int .i64 M,.slice ao xs.length cap,.int .i64 L,.slice qo ys.length dap,.slice so S.length sc,.slice tO T.length tc] 40)).alloc (.cells #[.int .i64 i] 3)).alloc (.cells #[.int .i64 0,.int .u64 0] 235)) [.int .i64 0,.int .i64 0] 216
  have e4:=aa.new ((((w.alloc (.cells #[.int .i64 N,.int .i64 k,.int .i64 V,.int .i64 M,.slice ao xs.length cap,.int .i64 L,.slice qo ys.length dap,.slice so S.length sc,.slice tO T.length tc] 40)).alloc (.cells #[.int .i64 i] 3)).alloc (.cells #[.int .i64 0,.int .u64 0] 235)).alloc (.cells #[.int .i64 0,.int .i64 0] 216)) [.int .i64 0,.int .u64 0] 235
  have e5:=aa.new (((((w.alloc (.cells #[.int .i64 N,.int .i64 k,.int .i64 V,.int .i64 M,.slice ao xs.length cap,.int .i64 L,.slice qo ys.length dap,.slice so S.length sc,.slice tO T.length tc] 40)).alloc (.cells #[.int .i64 i] 3)).alloc (.cells #[.int .i64 0,.int .u64 0] 235)).alloc (.cells #[.int .i64 0,.int .i64 0] 216)).alloc (.cells #[.int .i64 0,.int .u64 0] 235)) [.int .i64 0,.int .i64 0] 216
  simp only[World.size_alloc]at e1 e2 e3 e4 e5
  refine⟨⟨(((((below_alloc w _).alloc (by simp) _).alloc (by simp;omega) _).alloc (by simp;omega) _).alloc (by simp;omega) _).alloc (by simp;omega) _,by simp⟩,(((e1.alloc _).alloc _).alloc _).alloc _,((e2.alloc _).alloc _).alloc _,(e3.alloc _).alloc _,e4.alloc _,e5⟩
 have HI:Hid (lz w i (w.heap.size+4) (w.heap.size+5) (w.heap.size+1) (w.heap.size+2) (8*(i/8)) W):=⟨bW,by omega,⟨_,C4,rfl⟩,⟨_,C5,rfl⟩,C1,C2,C3⟩;go_enter func174,ntmps174;go_wp2_with fail
 rw[<-hW]
 refine(HA.out (w.heap.size+4) (w.heap.size+5) (w.heap.size+1) (w.heap.size+2) W HI.out (by omega) (by omega) (by omega) (by omega) (by omega) (by omega) (by omega) (by omega) (by omega) (by omega) (by omega) (by omega) (by omega)).mono ?_
 rintro e w2 ⟨r,rfl,d1,d2,r1,r2,fr⟩;have bw2:=bW.trans fr.below;clear HA HI fr hW bW C1 C2 C3 C4 C5;go_wp2
 refine aB [3] (fun w'=>aa w' (w.heap.size+4) [.int .i64 c,.int .u64 o] 235/\aa w' (w.heap.size+5) [.int .i64 s,.int .i64 p] 216) (by kernel_rfl) ?_
 have hS:aa w2.drew (w.heap.size+4) [.int .i64 c,.int .u64 o] 235/\aa w2.drew (w.heap.size+5) [.int .i64 s,.int .i64 p] 216:=⟨d1,d2⟩
 replace r1:aa w2.drew (w.heap.size+2) [.int .i64 0,.int .u64 0] 235:=r1;replace r2:aa w2.drew (w.heap.size+3) [.int .i64 0,.int .i64 0] 216:=r2;replace bw2:Below w.heap.size w w2.drew:=bw2.drew
 generalize w2.drew=U at *;clear d1 d2;refine aF 0 hS rfl (fun w0 h0=>by have c0:=h0.1.cell 0 rfl;have c1:=h0.1.cell 1 rfl;go_simp;try with_reducible rfl) ?_
 refine aF 1 hS rfl (fun w0 h0=>by have c0:=h0.2.cell 0 rfl;have c1:=h0.2.cell 1 rfl;go_simp;try with_reducible rfl) ?_;refine aO 2 ?_;intro K hK;have f0:=r1.frozen 0;have f1:=r1.frozen 1
 have n0:=r1.cell 0 rfl;have n1:=r1.cell 1 rfl;go_simp
 refine hK.out _ _ (fun _=>⟨(hS.1.other (by show w.heap.size+4≠w.heap.size+2;omega) _).other (by show w.heap.size+4≠w.heap.size+2;omega) _,(hS.2.other (by show w.heap.size+5≠w.heap.size+2;omega) _).other (by show w.heap.size+5≠w.heap.size+2;omega) _⟩) ?_
 clear hK K f0 f1 n0 n1
 replace r2:=(r2.other (a:=⟨w.heap.size+2,0,none⟩) (by show w.heap.size+3≠w.heap.size+2;omega) (.int .i64 c)).other (a:=⟨w.heap.size+2,1,none⟩) (by show w.heap.size+3≠w.heap.size+2;omega) (.int .u64 o)
 replace r1:=(r1.set 0 (.int .i64 c)).set 1 (.int .u64 o)
 replace bw2:Below w.heap.size w ((U.setCell ⟨w.heap.size+2,0,none⟩ (.int .i64 c)).setCell ⟨w.heap.size+2,1,none⟩ (.int .u64 o)):=(bw2.setCell (by show w.heap.size<=w.heap.size+2;omega) _).setCell (by show w.heap.size<=w.heap.size+2;omega) _
 generalize (U.setCell ⟨w.heap.size+2,0,none⟩ (.int .i64 c)).setCell ⟨w.heap.size+2,1,none⟩ (.int .u64 o)=Z at *;try simp only[Act.put,ak,aj,ai,ae,ah,ag]
 refine aO 3 ?_;intro K hK;have f0:=r2.frozen 0;have f1:=r2.frozen 1;have n0:=r2.cell 0 rfl;have n1:=r2.cell 1 rfl;go_simp;refine hK.out _ _ (fun h=>absurd (by decide) h) ?_;clear hK K
 try simp only[Act.put,ak,aj,ai,ae,ah,ag]
 refine aq.done (by kernel_rfl) ?_ _;clear f0 f1 n0 n1
 replace r1:=(r1.other (a:=⟨w.heap.size+3,0,none⟩) (by show w.heap.size+2≠w.heap.size+3;omega) (.int .i64 s)).other (a:=⟨w.heap.size+3,1,none⟩) (by show w.heap.size+2≠w.heap.size+3;omega) (.int .i64 p)
 replace r2:=(r2.set 0 (.int .i64 s)).set 1 (.int .i64 p)
 replace bw2:Below w.heap.size w ((Z.setCell ⟨w.heap.size+3,0,none⟩ (.int .i64 s)).setCell ⟨w.heap.size+3,1,none⟩ (.int .i64 p)):=(bw2.setCell (by show w.heap.size<=w.heap.size+3;omega) _).setCell (by show w.heap.size<=w.heap.size+3;omega) _
 generalize (Z.setCell ⟨w.heap.size+3,0,none⟩ (.int .i64 s)).setCell ⟨w.heap.size+3,1,none⟩ (.int .i64 p)=Z2 at *;go_wp2
 exact bodyPost_ret (AP rfl (w.heap.size+2) (w.heap.size+3) _ _ rfl rfl r1 r2 underlying235 underlying216 FB vM) rfl ⟨rfl,bw2⟩
theorem mJ(m:Nat)(f:Nat->Bool)(i:Nat):blv m f i<18446744073709551616:=by have:=j3 m f i;omega
theorem Hs(m:Nat)(Y:List Nat)(bit:Bool)(i j:Nat)(h0:0<i)(hj:j=(i-1)/15)(hi:i<=m):bon m (bitAt Y) j+cnt (blv m (bitAt Y) j) (i-15*j)=cntB Y i:=by
 have a:=xA m Y j (by omega);have b:=rF m Y j (i-15*j) (by omega) (by omega);rw[show 15*j+(i-15*j)=i by omega]at b;omega
theorem tR(cs:List Value)(a:aE)(m i:Nat)(Y:List Nat)(bit:Bool)(w:World)(h:ba w cs a)(v:KV a m Y)(hi:i<=m):
  Qq 179 #[.agg cs.toArray,.bool bit,.int .i64 i] w (.int .i64 (cB Y bit i:Nat)):=by
 have hm:=v.le;obtain⟨j,hj⟩:∃j,j=(i-1)/15:=⟨_,rfl⟩
 have HB:Hid (0<i->Qz w 174 #[.agg cs.toArray,.int .i64 (j:Int)] (.tuple #[.agg #[.int .i64 (cls a.xs j:Nat),.int .u64 (cOff a.L a.ys a.xs j:Nat)],.agg #[.int .i64 (cOn a.xs j:Nat),.int .i64 (cAt a.xs j:Nat)]])):=by
  intro h0 w0 hb;exact tU cs a m j Y w0 (h.keep hb) v (by unfold nb;omega)
 have HW:Hid (0<i->∀w0,Qq 175 #[.agg #[.int .i64 (cls a.xs j:Nat),.int .u64 (cOff a.L a.ys a.xs j:Nat)]] w0 (.int .u64 (blv m (bitAt Y) j:Nat))):=by
  intro h0 w0;have hjn:j<nb m:=by unfold nb;omega
  have:=lN (cls a.xs j) (cOff a.L a.ys a.xs j) (iu _ _) (v.off j hjn) w0;rw[v.wd j hjn]at this;exact this
 have HR:Hid (0<i->∀w0,Qx 225 #[.int .u64 (blv m (bitAt Y) j:Nat),.int .i64 ((i:Int)-(j:Int)*15)] w0 (.int .i64 (cnt (blv m (bitAt Y) j) (i-15*j):Nat))):=by
  intro h0 w0;have:=na (blv m (bitAt Y) j:Nat) ((i:Int)-(j:Int)*15) (by omega) (by have:=mJ m (bitAt Y) j;omega) w0;unfold dH at this
  rw[Int.toNat_natCast,show min ((i:Int)-(j:Int)*15).toNat 64=i-15*j by omega]at this;exact this
 have HS:Hid (0<i->cOn a.xs j+cnt (blv m (bitAt Y) j) (i-15*j)=cntB Y i):=by
  intro h0;rw[v.on j (by unfold nb;omega)];exact Hs m Y bit i j h0 hj hi
 have cl:=et Y i
 have HO:Hid (∀w0,Qx 246 #[.bool bit,.int .i64 i,.int .i64 (cntB Y i:Nat)] w0 (.int .i64 (cB Y bit i:Nat))):=fun w0=>ni bit i (cntB Y i) cl (by omega) w0;clear v
 obtain⟨⟨ao,cap,qo,dap,so,sc,tO,tc,rfl,_⟩,_⟩:=h;obtain⟨N,k,V,M,xs,L,ys,S,T⟩:=a;dsimp only at *
 obtain⟨W,hW⟩:∃W,W=w.alloc (.cells #[.int .i64 N,.int .i64 k,.int .i64 V,.int .i64 M,.slice ao xs.length cap,.int .i64 L,.slice qo ys.length dap,.slice so S.length sc,.slice tO T.length tc] 40):=⟨_,rfl⟩
 have bW:=aM hW;by_cases h0:i=0
 .subst h0;have z:cB Y bit 0=0:=by have:=fq Y bit 0;omega
  rw[z];clear HB HW HR HS HO;go_enter func179,ntmps179;go_wp2;go_ret;rw[<-hW];exact⟨rfl,bW⟩
 .have h1:0<i:=by omega
  have HS2:=HS.out h1;clear HS;have hji:j*15<=i:=by omega
  have i0:((i:Int)==0)=false:=by simp;omega
  have cv:=dh (blv m (bitAt Y) j) (i-15*j);have hjd:((i:Int)-1)/15=(j:Int):=by omega
  have hjb:j<=1048576:=by omega
  generalize cls xs j=c at *;generalize cOff L ys xs j=o at *;generalize cOn xs j=s at *;generalize cAt xs j=p at *;generalize cnt (blv m (bitAt Y) j) (i-15*j)=rk at *;generalize blv m (bitAt Y) j=bw at *
  generalize cB Y bit i=res at *;generalize cntB Y i=cn at *;have hj2:((i-1:Nat):Int)/15=(j:Int):=by omega
  have u2:Hid (IntKind.i64.wrap ((i:Int)-IntKind.i64.wrap (((i-1:Nat):Int)/15*15))=(i:Int)-(j:Int)*15):=by
   have w1:IntKind.i64.wrap ((j:Int)*15)=(j:Int)*15:=by rw[IntKind.wrap_i64];omega
   have w2:IntKind.i64.wrap ((i:Int)-(j:Int)*15)=(i:Int)-(j:Int)*15:=by rw[IntKind.wrap_i64];omega
   show IntKind.i64.wrap ((i:Int)-IntKind.i64.wrap (((i-1:Nat):Int)/15*15))=(i:Int)-(j:Int)*15;rw[hj2,w1,w2]
  clear hj2;have u3:IntKind.i64.wrap ((s:Int)+(rk:Int))=(cn:Int):=by rw[IntKind.wrap_i64];omega
  go_enter func179,ntmps179;go_wp2_with fail;rw[<-hW,show((i-1:Nat):Int)/15=(j:Int)by omega,hjd];refine mr (HB.out (by first | exact h1 | trivial) _ bW) fun w1 hb=>?_
  have bw1:=bg bW hb;clear hW hb HB bW;go_wp2;have hb8:=below_alloc w1 (.cells #[.int .i64 c,.int .u64 o] 235)
  have hb9:=below_alloc (w1.alloc (.cells #[.int .i64 c,.int .u64 o] 235)) (.cells #[.int .i64 s,.int .i64 p] 216)
  have B1:=(aa.new w1 [.int .i64 c,.int .u64 o] 235).kept hb9;have B2:=aa.new2 w1 (.cells #[.int .i64 c,.int .u64 o] 235) [.int .i64 s,.int .i64 p] 216
  have bV:=bw1.trans ((hb8.trans (hb9.mono (by simp))).mono bw1.size);clear hb8 hb9 bw1
  refine aB [] (fun w'=>aa w' w1.heap.size [.int .i64 c,.int .u64 o] 235/\aa w' (w1.heap.size+1) [.int .i64 s,.int .i64 p] 216) (by kernel_rfl) ?_
  generalize (w1.alloc (.cells #[.int .i64 c,.int .u64 o] 235)).alloc (.cells #[.int .i64 s,.int .i64 p] 216)=U at *
  have hS:aa U.drew w1.heap.size [.int .i64 c,.int .u64 o] 235/\aa U.drew (w1.heap.size+1) [.int .i64 s,.int .i64 p] 216:=⟨B1,B2⟩;replace bV:Below w.heap.size w U.drew:=bV.drew
  generalize U.drew=Z at *;clear B1 B2;refine aK 0 hS ?_;refine aK 1 hS ?_;refine aK 2 hS ?_;refine aF 3 hS rfl (fun w0 h0=>by have c0:=h0.2.cell 0 rfl;go_simp;try with_reducible rfl) ?_
  refine aF 4 hS rfl (fun w0 h0=>by have c0:=h0.1.cell 0 rfl;have c1:=h0.1.cell 1 rfl;go_simp;try with_reducible rfl) ?_;refine aK 6 hS ?_;refine aK 7 hS ?_;refine aK 8 hS ?_;refine aK 9 hS ?_
  refine aO 5 ?_;intro K hK;go_simp;refine mr (HW.out (by first | exact h1 | trivial) _) fun w3 hb=>?_;have hS3:=And.intro (hS.1.kept hb) (hS.2.kept hb);have bw3:=bg bV hb;clear hb hS bV HW
  refine hK.out _ _ (fun _=>hS3) ?_;clear hK K;try simp only[Act.put,ak,aj,ai,ae,ah,ag]
  refine aO 10 ?_;intro K hK;go_simp;rw[u2.out];refine(HR.out (by first | exact h1 | trivial) _).mono ?_;rintro e w4 ⟨rfl,rfl⟩;refine hK.out _ _ (fun _=>hS3) ?_;clear hK K
  try simp only[Act.put,ak,aj,ai,ae,ah,ag]
  refine aK 11 hS3 ?_;refine aO 12 ?_;intro K hK;go_simp
  (try rw[u3]);refine(HO.out _).mono ?_;rintro e w5 ⟨rfl,rfl⟩;refine hK.out _ _ (fun _=>hS3) ?_;clear hK K;try simp only[Act.put,ak,aj,ai,ae,ah,ag]
  refine aK 13 hS3 ?_;refine aq.done (by kernel_rfl) ?_ _;go_wp2;go_ret;exact⟨rfl,bw3⟩
theorem Jy(x:Nat)(hx:x<18446744073709551616)(k:Nat):(bits BinOp.and IntKind.u64 ((x:Int)/2^k) 1==1)=x.testBit k:=by
 rw[jz _ _ (by omega) (by omega),oT,Int.toNat_natCast,Bool.eq_iff_iff,beq_iff_eq,decide_eq_true_eq];omega
theorem Jg(m:Nat)(Y:List Nat)(n:Nat)(h:n<m):(blv m (bitAt Y) (n/15)).testBit (n%15)=bitAt Y n:=by
 unfold blv;rw[fF,show 15*(n/15)+n%15=n by omega];simp[h,show n%15<15 by omega]
theorem AN{a b c d:Value}(h:a=b)(h2:c=d):Ending.returned (.tuple #[a,c])=.returned (.tuple #[b,d]):=by rw[h,h2]
theorem J1(cs:List Value)(a:aE)(i:Int)(w:World)(h:ba w cs a)(hi:ax i):
  Qq 104 #[.agg cs.toArray,.int .i64 i] w (.tuple #[.bool (gaB (kOk8 a) (kBN8 a) (kBX8 a) i),.int .i64 (gaE (kOk8 a) (kBN8 a) (kBX8 a) i)]):=by
 have C:=fun(w0:World) (hb:Below w.heap.size w w0)=>lP cs a w0 (h.keep hb);cases hk:kOk8 a with
 | false=>
  rw[hk]at C;have CH:Hid (Qz w 173 #[.agg cs.toArray] (.bool false)):=C
  show Calls _ _ _ _ fun e w'=>e=.returned (.tuple #[.bool false,.int .i64 2])/\Below w.heap.size w w';clear C hk;obtain⟨⟨ao,cap,qo,dap,so,sc,tO,tc,rfl,_⟩,_⟩:=h;obtain⟨N,k,V,M,xs,L,ys,S,T⟩:=a
  dsimp only at *
  obtain⟨W,hW⟩:∃W,W=w.alloc (.cells #[.int .i64 N,.int .i64 k,.int .i64 V,.int .i64 M,.slice ao xs.length cap,.int .i64 L,.slice qo ys.length dap,.slice so S.length sc,.slice tO T.length tc] 40):=⟨_,rfl⟩
  have bW:=aM hW;go_enter func104,ntmps104;go_wp2_with fail;rw[<-hW];refine mr (CH.out _ bW) fun w1 hb=>?_;have bw1:=bg bW hb;clear hW hb;go_wp2;go_ret2;exact⟨rfl,bw1⟩
 | true=>
 rw[hk]at C;have CH:Hid (Qz w 173 #[.agg cs.toArray] (.bool true)):=C;obtain⟨m,eN,v⟩:=nE a hk;have hm:=v.le
 have vN:=v.nN;have hck:=v.ck;clear C hk;rw[eN];generalize kBX8 a=Y at *;have ga:gaE true (m:Int) Y i=if i<0\/(m:Int)<=i then 3 else 0:=by unfold gaE cH;rw[hck];simp
 have gb:gaB true (m:Int) Y i=(decide (0<=i/\i<(m:Int))&&bitAt Y i.toNat):=by unfold gaB dg;rw[hck];simp
 by_cases hr:i<0\/(m:Int)<=i
 .rw[ga,gb,if_pos hr,decide_eq_false (by omega),Bool.false_and];clear v ga gb;obtain⟨⟨ao,cap,qo,dap,so,sc,tO,tc,rfl,_⟩,_⟩:=h;obtain⟨N,k,V,M,xs,L,ys,S,T⟩:=a;dsimp only at *;subst vN
  obtain⟨W,hW⟩:∃W,W=w.alloc (.cells #[.int .i64 m,.int .i64 k,.int .i64 V,.int .i64 M,.slice ao xs.length cap,.int .i64 L,.slice qo ys.length dap,.slice so S.length sc,.slice tO T.length tc] 40):=⟨_,rfl⟩
  have bW:=aM hW;have B1:=aU hW;go_enter func104,ntmps104;go_wp2_with fail;rw[<-hW];refine mr (CH.out _ bW) fun w1 hb=>?_;have bw1:=bg bW hb;have q0:=(B1.kept hb).cell 0 rfl
  clear hW hb;by_cases h0:i<0
  .go_wp2;go_ret2;exact⟨rfl,bw1⟩
  .have h1:(m:Int)<=i:=by omega
   go_wp2;go_ret2;exact⟨rfl,bw1⟩
 .obtain⟨n,rfl⟩:=Int.eq_ofNat_of_zero_le (show 0<=i by omega);rw[ga,gb,if_neg hr,decide_eq_true (by omega),Bool.true_and,Int.toNat_natCast];have hn:n<m:=by omega
  have h0:¬(n:Int)<0:=by omega
  have h1:¬(m:Int)<=(n:Int):=by omega
  have hnb:n/15<nb m:=by unfold nb;omega
  have HB:Hid (Qz w 174 #[.agg cs.toArray,.int .i64 ((n:Int)/15)] (.tuple #[.agg #[.int .i64 (cls a.xs (n/15):Nat),.int .u64 (cOff a.L a.ys a.xs (n/15):Nat)],.agg #[.int .i64 (cOn a.xs (n/15):Nat),.int .i64 (cAt a.xs (n/15):Nat)]])):=by
   intro w0 hb;rw[show(n:Int)/15=((n/15:Nat):Int)by omega];exact tU cs a m (n/15) Y w0 (h.keep hb) v hnb
  have HW:Hid (∀w0,Qq 175 #[.agg #[.int .i64 (cls a.xs (n/15):Nat),.int .u64 (cOff a.L a.ys a.xs (n/15):Nat)]] w0 (.int .u64 (blv m (bitAt Y) (n/15):Nat))):=by
   intro w0;have:=lN (cls a.xs (n/15)) (cOff a.L a.ys a.xs (n/15)) (iu _ _) (v.off _ hnb) w0;rw[v.wd _ hnb]at this;exact this
  have HE:Hid ((bits BinOp.and IntKind.u64 ((blv m (bitAt Y) (n/15):Nat)/2^(n%15)) 1==1)=bitAt Y n):=by
   show(bits BinOp.and IntKind.u64 (((blv m (bitAt Y) (n/15):Nat):Int)/2^(n%15)) 1==1)=bitAt Y n;rw[Jy _ (mJ _ _ _),Jg m Y n hn]
  clear v ga gb hr hck;generalize bitAt Y n=R at *;generalize blv m (bitAt Y) (n/15)=bw at *;obtain⟨⟨ao,cap,qo,dap,so,sc,tO,tc,rfl,_⟩,_⟩:=h;obtain⟨N,k,V,M,xs,L,ys,S,T⟩:=a;dsimp only at *;subst vN
  generalize cls xs (n/15)=c at *;generalize cOff L ys xs (n/15)=o at *;generalize cOn xs (n/15)=s at *;generalize cAt xs (n/15)=p at *
  obtain⟨W,hW⟩:∃W,W=w.alloc (.cells #[.int .i64 m,.int .i64 k,.int .i64 V,.int .i64 M,.slice ao xs.length cap,.int .i64 L,.slice qo ys.length dap,.slice so S.length sc,.slice tO T.length tc] 40):=⟨_,rfl⟩
  have bW:=aM hW;have B1:=aU hW;go_enter func104,ntmps104;go_wp2_with fail;rw[<-hW];refine mr (CH.out _ bW) fun w1 hb=>?_;have bw1:=bg bW hb;replace B1:=B1.kept hb
  have q0:=B1.cell 0 rfl;have q1:=B1.cell 1 rfl;have q2:=B1.cell 2 rfl;have q3:=B1.cell 3 rfl;have q4:=B1.cell 4 rfl;have q5:=B1.cell 5 rfl;have q6:=B1.cell 6 rfl;have q7:=B1.cell 7 rfl;have q8:=B1.cell 8 rfl
  clear hW hb;go_wp2_with fail;refine mr (HB.out _ bw1) fun w2 hb=>?_;have bw2:=bg bw1 hb;clear hb bw1 q0 q1 q2 q3 q4 q5 q6 q7 q8 B1 HB;go_wp2_with fail
  have bw3:Below w.heap.size w ((w2.alloc (.cells #[.int .i64 c,.int .u64 o] 235)).alloc (.cells #[.int .i64 s,.int .i64 p] 216)):=(bw2.alloc bw2.size _).alloc (by have:=bw2.size;simp;omega) _
  generalize (w2.alloc (.cells #[.int .i64 c,.int .u64 o] 235)).alloc (.cells #[.int .i64 s,.int .i64 p] 216)=U at *;refine mr (HW.out _) fun w4 hb=>?_
  have bw4:=bg bw3 hb;clear hb bw3 HW;go_wp2;go_ret2;exact⟨AN (congrArg Value.bool HE.out) rfl,bw4⟩
theorem A3(cs:List Value)(a:aE)(bit:Bool)(i:Int)(w:World)(h:ba w cs a)(hi:ax i):
  Qq 107 #[.agg cs.toArray,.bool bit,.int .i64 i] w (.tuple #[.int .i64 (grN (kOk8 a) (kBN8 a) (kBX8 a) bit i),.int .i64 (grE (kOk8 a) (kBN8 a) i)]):=by
 have C:=fun(w0:World) (hb:Below w.heap.size w w0)=>lP cs a w0 (h.keep hb);cases hk:kOk8 a with
 | false=>
  rw[hk]at C;have CH:Hid (Qz w 173 #[.agg cs.toArray] (.bool false)):=C
  show Calls _ _ _ _ fun e w'=>e=.returned (.tuple #[.int .i64 0,.int .i64 2])/\Below w.heap.size w w';clear C hk;obtain⟨⟨ao,cap,qo,dap,so,sc,tO,tc,rfl,_⟩,_⟩:=h;obtain⟨N,k,V,M,xs,L,ys,S,T⟩:=a
  dsimp only at *
  obtain⟨W,hW⟩:∃W,W=w.alloc (.cells #[.int .i64 N,.int .i64 k,.int .i64 V,.int .i64 M,.slice ao xs.length cap,.int .i64 L,.slice qo ys.length dap,.slice so S.length sc,.slice tO T.length tc] 40):=⟨_,rfl⟩
  have bW:=aM hW;go_enter func107,ntmps107;go_wp2_with fail;rw[<-hW];refine mr (CH.out _ bW) fun w1 hb=>?_;have bw1:=bg bW hb;clear hW hb;go_wp2;go_ret2;exact⟨rfl,bw1⟩
 | true=>
 rw[hk]at C;have CH:Hid (Qz w 173 #[.agg cs.toArray] (.bool true)):=C;obtain⟨m,eN,v⟩:=nE a hk;have hm:=v.le
 have vN:=v.nN;clear C hk;rw[eN];generalize kBX8 a=Y at *;have ga:grE true (m:Int) i=if i<0\/(m:Int)<i then 3 else 0:=rfl
 by_cases hr:i<0\/(m:Int)<i
 .have gb:grN true (m:Int) Y bit i=0:=by unfold grN;rw[ga,if_pos hr];rfl
  rw[ga,gb,if_pos hr];clear v ga gb;obtain⟨⟨ao,cap,qo,dap,so,sc,tO,tc,rfl,_⟩,_⟩:=h;obtain⟨N,k,V,M,xs,L,ys,S,T⟩:=a;dsimp only at *;subst vN
  obtain⟨W,hW⟩:∃W,W=w.alloc (.cells #[.int .i64 m,.int .i64 k,.int .i64 V,.int .i64 M,.slice ao xs.length cap,.int .i64 L,.slice qo ys.length dap,.slice so S.length sc,.slice tO T.length tc] 40):=⟨_,rfl⟩
  have bW:=aM hW;have B1:=aU hW;go_enter func107,ntmps107;go_wp2_with fail;rw[<-hW];refine mr (CH.out _ bW) fun w1 hb=>?_;have bw1:=bg bW hb;have q0:=(B1.kept hb).cell 0 rfl
  clear hW hb;by_cases h0:i<0
  .go_wp2;go_ret2;exact⟨rfl,bw1⟩
  .have h1:(m:Int)<i:=by omega
   go_wp2;go_ret2;exact⟨rfl,bw1⟩
 .obtain⟨n,rfl⟩:=Int.eq_ofNat_of_zero_le (show 0<=i by omega);have hn:n<=m:=by omega
  have gb:grN true (m:Int) Y bit (n:Int)=(cB Y bit n:Nat):=by unfold grN;rw[ga,if_neg hr,if_pos rfl,Int.toNat_natCast]
  rw[ga,gb,if_neg hr];have h0:¬(n:Int)<0:=by omega
  have h1:¬(m:Int)<(n:Int):=by omega
  have HB:Hid (Qz w 179 #[.agg cs.toArray,.bool bit,.int .i64 n] (.int .i64 (cB Y bit n:Nat))):=fun w0 hb=>tR cs a m n Y bit w0 (h.keep hb) v hn
  clear v ga gb hr;generalize cB Y bit n=R at *;obtain⟨⟨ao,cap,qo,dap,so,sc,tO,tc,rfl,_⟩,_⟩:=h;obtain⟨N,k,V,M,xs,L,ys,S,T⟩:=a;dsimp only at *;subst vN
  obtain⟨W,hW⟩:∃W,W=w.alloc (.cells #[.int .i64 m,.int .i64 k,.int .i64 V,.int .i64 M,.slice ao xs.length cap,.int .i64 L,.slice qo ys.length dap,.slice so S.length sc,.slice tO T.length tc] 40):=⟨_,rfl⟩
  have bW:=aM hW;have B1:=aU hW;go_enter func107,ntmps107;go_wp2_with fail;rw[<-hW];refine mr (CH.out _ bW) fun w1 hb=>?_;have bw1:=bg bW hb;replace B1:=B1.kept hb
  have q0:=B1.cell 0 rfl;have q1:=B1.cell 1 rfl;have q2:=B1.cell 2 rfl;have q3:=B1.cell 3 rfl;have q4:=B1.cell 4 rfl;have q5:=B1.cell 5 rfl;have q6:=B1.cell 6 rfl;have q7:=B1.cell 7 rfl;have q8:=B1.cell 8 rfl
  clear hW hb;go_wp2_with fail;refine mr (HB.out _ bw1) fun w2 hb=>?_;have bw2:=bg bw1 hb;clear hb bw1 q0 q1 q2 q3 q4 q5 q6 q7 q8 B1 HB;go_wp2;go_ret2;exact⟨rfl,bw2⟩
theorem zK(cs:List Value)(a:aE)(w:World)(h:ba w cs a):
  Qq 119 #[.agg cs.toArray] w (.int .i64 (kZ8 a)):=by
 have C:=fun(w0:World) (hb:Below w.heap.size w w0)=>lP cs a w0 (h.keep hb);obtain⟨⟨ao,cap,qo,dap,so,sc,tO,tc,rfl,_⟩,_,_,sl,tl⟩:=h;obtain⟨N,k,V,M,xs,L,ys,S,T⟩:=a;dsimp only at *
 obtain⟨Z,hZ⟩:∃Z,Hid (Z=kZ8 ⟨N,k,V,M,xs,L,ys,S,T⟩):=⟨_,rfl⟩;rw[<-hZ.out]
 obtain⟨W,hW⟩:∃W,W=w.alloc (.cells #[.int .i64 N,.int .i64 k,.int .i64 V,.int .i64 M,.slice ao xs.length cap,.int .i64 L,.slice qo ys.length dap,.slice so S.length sc,.slice tO T.length tc] 40):=⟨_,rfl⟩
 have bW:=aM hW;have B1:=aU hW
 have CH:Hid (Qz w 173 #[.agg #[.int .i64 N,.int .i64 k,.int .i64 V,.int .i64 M,.slice ao xs.length cap,.int .i64 L,.slice qo ys.length dap,.slice so S.length sc,.slice tO T.length tc]] (.bool (kOk8 ⟨N,k,V,M,xs,L,ys,S,T⟩))):=C
 clear C;cases hk:kOk8 ⟨N,k,V,M,xs,L,ys,S,T⟩with
 | false=>
  rw[hk]at CH
  have E:Hid (Z=0):=by
   show Z=0;rw[hZ.out];unfold kZ8 m9;rw[show d_ N k V M xs L ys S T=false from hk];rfl
  clear hk hZ;go_enter func119,ntmps119;go_wp2_with fail;rw[<-hW];refine mr (CH.out _ bW) fun w1 hb=>?_;have bw1:=bg bW hb;clear hW;go_wp2;go_ret;rw[E.out];exact⟨rfl,bw1⟩
 | true=>
  rw[hk]at CH
  have E:Hid (Z=M+L+64*(S.length:Int)):=by
   show Z=_;rw[hZ.out];unfold kZ8 m9;rw[show d_ N k V M xs L ys S T=true from hk];rfl
  obtain⟨_,i2,i3,_⟩:=ng N k V M xs L ys S T hk;obtain⟨_,_,_,_,_,m1,m2,_⟩:=iL k V M xs i2;obtain⟨l1,l2,_,_⟩:=bp L ys i3;clear hk hZ;go_enter func119,ntmps119;go_wp2_with fail
  rw[<-hW];refine mr (CH.out _ bW) fun w1 hb=>?_;have bw1:=bg bW hb;replace B1:=B1.kept hb;have r3:=B1.cell 3 rfl;have r5:=B1.cell 5 rfl;have r7:=B1.cell 7 rfl;clear hW hb;go_wp2;go_ret
  rw[E.out];exact⟨rfl,bw1⟩
theorem Ic(x:Nat):∀d r,cnt x r<=cnt x (r+d):=by
 intro d;induction d with
 | zero=>intro r;exact Nat.le_refl _
 | succ d ih=>intro r;have:=ih r;rw[show r+(d+1)=r+d+1 by omega,cnt];omega
theorem yh(m:Nat)(X:List Nat)(bit:Bool)(i:Nat):cnt (wbk m X bit i) 15=obI bit 15 (bcl m (bitAt X) i):=by
 unfold wbk obI bcl;cases bit with
 | true=>rfl
 | false=>
  have hb:=j3 m (bitAt X) i;have f:=oL (blv m (bitAt X) i) 15 64 (by omega) (by omega);rw[show(2^64-1-blv m (bitAt X) i)=18446744073709551615-blv m (bitAt X) i by omega]at f;exact f
theorem Dl(m:Nat)(X:List Nat)(bit:Bool)(k i:Nat)(hk:k<cB X bit m)(hi:i<nb m)(h:cB X bit (15*i)+obI bit 15 (bcl m (bitAt X) i)<=k):i+1<nb m/\cB X bit (15*(i+1))<=k:=by
 rw[<-yh m X bit i]at h;by_cases c:15*(i+1)<=m
 .have w:=j7 m X bit i 15 (Nat.le_refl _) (by omega);rw[show 15*i+15=15*(i+1)by omega]at w;have h2:cB X bit (15*(i+1))<=k:=by omega
  refine⟨?_,h2⟩;have:15*(i+1)≠m:=by intro e;rw[e]at h2;omega
  unfold nb;omega
 .have hr:m-15*i<=15:=by omega
  have hm:15*i<=m:=by unfold nb at hi;omega
  have w:=j7 m X bit i (m-15*i) hr (by omega);rw[show 15*i+(m-15*i)=m by omega]at w;have u:=Ic (wbk m X bit i) (15-(m-15*i)) (m-15*i)
  rw[show m-15*i+(15-(m-15*i))=15 by omega]at u;omega
theorem ve(a:aE)(m:Nat)(Y:List Nat)(v:KV a m Y)(i:Nat)(hi:15*i<=m):cOn a.xs i=cntB Y (15*i):=by
 rw[v.on i (by unfold nb;omega)];exact xA m Y i hi
theorem Gm(m g:Nat)(h:g<gN m):120*g<=m:=by
 by_cases c:g=0
 .omega
 .have:=ju m g h c;unfold nb at this;omega
theorem Bj(n:Nat)(hn:n<=1048576)(c1 c2 c3:Addr)(p:Nat->Bool)(w:World)
  (hf:Hid (∀(i:Nat) w0,i<n->Below w.heap.size w w0->Qq 254 #[.int .i64 i,.pointer (some c1),.pointer (some c2),.pointer (some c3)] w0 (.bool (p i)))) (hp:Hid (∀i j,i<=j->p i=true->p j=true)):
  Calls prog 251 #[.int .i64 n,.func (.func 254) #[] #[.pointer (some c1),.pointer (some c2),.pointer (some c3)]] w fun e w'=>∃j:Nat,e=.returned (.int .i64 j)/\j<=n/\(∀i,i<j->p i=false)/\(∀i,j<=i->i<n->p i=true)/\Below w.heap.size w w':=by
 go_enter func251,ntmps251;go_wp2
 go_loopw [5,6] (fun s t wr=>∃i j:Nat,i<=j/\j<=n/\s=.int .i64 i/\t=.int .i64 j/\Hid (∀q,q<i->p q=false)/\Hid (∀q,j<=q->q<n->p q=true)/\Below w.heap.size w wr) (fun s t _=>(intOf t).toNat-(intOf s).toNat)
 case atStart=>exact⟨0,n,by omega,by omega,rfl,rfl,fun q hq=>absurd hq (by omega),fun q h1 h2=>absurd h1 (by omega),Below.refl _ _⟩
 case round=>
  obtain⟨i,j,hij,hj,rfl,rfl,H1,H2,hw⟩:=hrel;by_cases hlt:i<j
  .have hlt2:(i:Int)<(j:Int):=by omega
   have hm:(((i+j)/2:Nat):Int)=((i:Int)+(j:Int))/2:=by omega
   have C:Hid (Qq 254 #[.int .i64 (((i:Int)+(j:Int))/2),.pointer (some c1),.pointer (some c2),.pointer (some c3)] wr (.bool (p ((i+j)/2)))):=by
    have:=hf.out ((i+j)/2) wr (by omega) hw;rw[hm]at this;exact this
   have mu:IntKind.i64.wrap (((i:Int)+(j:Int))/2+1)=((i:Int)+(j:Int))/2+1:=by rw[IntKind.wrap_i64];omega
   clear hf;go_wp2_with fail;refine C.out.mono ?_;rintro e w1 ⟨rfl,hb⟩;have hw1:=bg hw hb;clear hb C;cases hq:p ((i+j)/2)with
   | true=>
    go_wp2;refine⟨⟨i,(i+j)/2,by omega,by omega,rfl,by rw[hm],H1,?_,hw1⟩,by simp only[intOf];omega⟩;intro q h1 h2;exact hp.out _ _ h1 hq
   | false=>
    go_wp2;refine⟨⟨(i+j)/2+1,j,by omega,by omega,by rw[<-hm];rfl,rfl,?_,H2,hw1⟩,by simp only[intOf];omega⟩;intro q h1;cases hq2:p q with
    | false=>rfl
    | true=>
     have:=hp.out q ((i+j)/2) (by omega) hq2;rw[hq]at this;exact this.symm
  .have hlt2:¬(i:Int)<(j:Int):=by omega
   go_wp2;go_ret;exact⟨i,rfl,by omega,H1.out,fun q h1 h2=>H2.out q (by omega) h2,hw⟩
theorem Bi(cs:List Value)(a:aE)(m i k gb gx gk:Nat)(Y:List Nat)(bit:Bool)(w:World)(h:ba w cs a)(v:KV a m Y)(hi:i<gN m)(hk:k<=1048576)(c1:aa w gb [.bool bit] 4)(c2:aa w gx cs 40)(c3:aa w gk [.int .i64 k] 3):
  Qq 254 #[.int .i64 i,.pointer (some ⟨gb,0,none⟩),.pointer (some ⟨gx,0,none⟩),.pointer (some ⟨gk,0,none⟩)] w (.bool (decide (k<cB Y bit (120*i)))):=by
 have hm:=v.le;have him:=Gm m i hi;have es:=v.gs i hi;rw[ve a m Y v (8*i) (by omega),show 15*(8*i)=120*i by omega]at es
 have HO:Hid (∀w0,Qx 246 #[.bool bit,.int .i64 ((120*i:Nat):Int),.int .i64 (cntB Y (120*i):Nat)] w0 (.int .i64 (cB Y bit (120*i):Nat))):=fun w0=>ni bit (120*i) (cntB Y (120*i)) (et _ _) (by omega) w0
 have sl:=v.sl;obtain⟨⟨ao,cap,qo,dap,so,sc,tO,tc,rfl,_,_,_,_,_,_,_,a7,_⟩,_⟩:=h;obtain⟨N,kk,V,M,xs,L,ys,S,T⟩:=a;dsimp only at *;clear v;obtain⟨b1,o1,rfl,hb1,hc1⟩:=a7 (by omega)
 have e1:=hc1 i (by omega);rw[es]at e1;have i1:(i:Int)<(S.length:Int):=by omega
 have il:i<=1048576:=by omega
 clear sl hc1 es;generalize cntB Y (120*i)=cn at *;generalize cB Y bit (120*i)=res at *
 have u1:Hid (IntKind.i64.wrap (IntKind.i64.wrap ((i:Int)*8)*15)=((120*i:Nat):Int)):=by
  have w1:IntKind.i64.wrap ((i:Int)*8)=(i:Int)*8:=by rw[IntKind.wrap_i64];omega
  have w2:IntKind.i64.wrap ((i:Int)*8*15)=((120*i:Nat):Int):=by rw[IntKind.wrap_i64];omega
  show IntKind.i64.wrap (IntKind.i64.wrap ((i:Int)*8)*15)=((120*i:Nat):Int);rw[w1,w2]
 go_enter func254,ntmps254;go_wp2
 refine aB [] (fun w'=>aa w' gb [.bool bit] 4/\aa w' gx [.int .i64 N,.int .i64 kk,.int .i64 V,.int .i64 M,.slice ao xs.length cap,.int .i64 L,.slice qo ys.length dap,.slice (some ⟨b1,o1,none⟩) S.length sc,.slice tO T.length tc] 40/\aa w' gk [.int .i64 k] 3/\w'.cell? ⟨b1,o1+i,none⟩=some (.int .i64 cn)) (by kernel_rfl) ?_
 have hS:aa w.drew gb [.bool bit] 4/\aa w.drew gx [.int .i64 N,.int .i64 kk,.int .i64 V,.int .i64 M,.slice ao xs.length cap,.int .i64 L,.slice qo ys.length dap,.slice (some ⟨b1,o1,none⟩) S.length sc,.slice tO T.length tc] 40/\aa w.drew gk [.int .i64 k] 3/\w.drew.cell? ⟨b1,o1+i,none⟩=some (.int .i64 cn):=⟨c1,c2,c3,e1⟩
 have bV:Below w.heap.size w w.drew:=(Below.refl _ _).drew;generalize w.drew=U at *;clear c1 c2 c3 e1;refine aF 0 hS rfl (fun w0 h0=>by have c0:=h0.1.cell 0 rfl;go_simp;try with_reducible rfl) ?_
 refine aK 1 hS ?_;refine aK 2 hS ?_;refine aK 3 hS ?_;refine aK 4 hS ?_;refine aF 5 hS rfl (fun w0 h0=>by have c0:=h0.2.1.cell 7 rfl;go_simp;try with_reducible rfl) ?_;refine aK 6 hS ?_
 refine aK 7 hS ?_;refine aF 8 hS rfl (fun w0 h0=>by have c0:=h0.2.2.2;go_simp;try with_reducible rfl) ?_
 refine aF 10 hS rfl (fun w0 h0=>by have c0:=h0.2.2.1.cell 0 rfl;go_simp;try with_reducible rfl) ?_;refine aO 9 ?_;intro K hK;go_simp;rw[u1.out];refine(HO.out _).mono ?_;rintro e w2 ⟨rfl,rfl⟩
 refine hK.out _ _ (fun _=>hS) ?_;clear hK K;try simp only[Act.put,ak,aj,ai,ae,ah,ag]
 refine aK 11 hS ?_;refine aK 12 hS ?_;refine aq.done (by kernel_rfl) ?_ _;go_wp2;go_ret;exact⟨i_ (by simp),bV⟩
theorem ye(m:Nat)(X:List Nat)(bit:Bool)(i:Nat):wbk m X bit i<18446744073709551616:=by
 have:=j3 m (bitAt X) i;unfold wbk;split<;>omega
theorem GA(x:Nat)(h:x<18446744073709551616):Go.bits .xor .u64 18446744073709551615 (x:Int)=((18446744073709551615-x:Nat):Int):=by
 rw[wI _ (by omega) (by omega),Int.toNat_natCast]
theorem Bh(a:aE)(m i k gb gk gp lo hi:Nat)(Y:List Nat)(bit:Bool)(w:World)(v:KV a m Y)(hi2:i<nb m)(hk:k<cB Y bit m)(hle:cB Y bit (15*i)<=k)(c1:aa w gb [.bool bit] 4)(c2:aa w gk [.int .i64 k] 3)(c3:aa w gp [.int .i64 0] 3)(n1:gp≠gb)(n2:gp≠gk)(l1:lo<=gp)(l2:gp<hi)(l3:hi<=w.heap.size):
  Calls prog 255 #[.int .i64 i,.agg #[.int .i64 (cls a.xs i:Nat),.int .u64 (cOff a.L a.ys a.xs i:Nat)],.agg #[.int .i64 (cOn a.xs i:Nat),.int .i64 (cAt a.xs i:Nat)],.pointer (some ⟨gb,0,none⟩),.pointer (some ⟨gk,0,none⟩),.pointer (some ⟨gp,0,none⟩)] w
   fun e w'=>∃b:Bool,e=.returned (.bool b)/\(b=true->(i+1<nb m/\cB Y bit (15*(i+1))<=k)/\aa w' gp [.int .i64 0] 3)/\(b=false->∃q,cd (m:Int) Y bit (k:Int)=some q/\aa w' gp [.int .i64 (q:Nat)] 3)/\aa w' gb [.bool bit] 4/\aa w' gk [.int .i64 k] 3/\aD lo hi w w':=by
 have hm:=v.le;have him:15*i<=m:=by unfold nb at hi2;omega
 have eo:=ve a m Y v i him;have cl:=iu a.xs i;have NX:=Dl m Y bit k i hk hi2;have SO:=y6 m Y bit k i hk hi2 hle;have kb:=fq Y bit m;rw[<-v.cl i hi2]at NX SO
 have HO1:Hid (∀w0,Qx 246 #[.bool bit,.int .i64 (15*(i:Int)),.int .i64 (cOn a.xs i:Nat)] w0 (.int .i64 (cB Y bit (15*i):Nat))):=by
  intro w0;rw[eo];have:=ni bit (15*i) (cntB Y (15*i)) (et _ _) (by omega) w0;rw[show((15*i:Nat):Int)=15*(i:Int)by omega]at this;exact this
 have HO2:Hid (∀w0,Qx 246 #[.bool bit,.int .i64 15,.int .i64 (cls a.xs i:Nat)] w0 (.int .i64 (obI bit 15 (cls a.xs i):Nat))):=fun w0=>ni bit 15 (cls a.xs i) cl (by omega) w0
 have HW:Hid (∀w0,Qq 175 #[.agg #[.int .i64 (cls a.xs i:Nat),.int .u64 (cOff a.L a.ys a.xs i:Nat)]] w0 (.int .u64 (blv m (bitAt Y) i:Nat))):=by
  intro w0;have:=lN (cls a.xs i) (cOff a.L a.ys a.xs i) cl (v.off i hi2) w0;rw[v.wd i hi2]at this;exact this
 have HSe:Hid (∀w0,Qx 253 #[.int .u64 (wbk m Y bit i:Nat),.int .i64 ((k:Int)-(cB Y bit (15*i):Nat))] w0 (.int .i64 (iD (wbk m Y bit i:Nat) ((k:Int)-(cB Y bit (15*i):Nat))))):=fun w0=>ti _ _ (by omega) (by have:=ye m Y bit i;omega) w0
 have HFl:Hid (bit=false->Go.bits .xor .u64 18446744073709551615 (blv m (bitAt Y) i:Nat)=((wbk m Y bit i:Nat):Int)):=by
  intro hb;rw[GA _ (mJ _ _ _),hb];rfl
 have HTr:Hid (bit=true->wbk m Y bit i=blv m (bitAt Y) i):=by
  intro hb;rw[hb];rfl
 have ob:obI bit 15 (cls a.xs i)<=15:=by unfold obI;split<;>omega
 have ib:i<=69906:=by have:=gK m hm;omega
 have blb:=fq Y bit (15*i);clear eo v hk;generalize cls a.xs i=c at *;generalize cOff a.L a.ys a.xs i=o at *;generalize cOn a.xs i=s at *;generalize cAt a.xs i=p at *;generalize obI bit 15 c=ob15 at *
 generalize wbk m Y bit i=wk at *;generalize blv m (bitAt Y) i=bw at *;obtain⟨bf,hbf⟩:∃bf,bf=cB Y bit (15*i):=⟨_,rfl⟩;rw[<-hbf]at NX SO HO1 HSe hle blb
 have HP:Hid (∃q:Nat,cd (m:Int) Y bit (k:Int)=some q\/True):=⟨0,.inr trivial⟩;clear hbf HP
 obtain⟨W,hW⟩:∃W,W=(w.alloc (.cells #[.int .i64 c,.int .u64 o] 235)).alloc (.cells #[.int .i64 s,.int .i64 p] 216):=⟨_,rfl⟩;have bW:=cW hW;have B1:=eU hW;have B2:=dE hW
 have F1:aD lo hi w W:=aD.of bW (by omega);have t1:=c1.cell 0 rfl;have lt1:=c1.lt;replace c1:=c1.kept bW;replace c2:=c2.kept bW;replace c3:=c3.kept bW
 have u1:IntKind.i64.wrap ((i:Int)*15)=((15*i:Nat):Int):=by rw[IntKind.wrap_i64];omega
 go_enter func255,ntmps255;go_wp2_with fail;rw[<-hW];refine(HO1.out _).mono ?_;rintro e w1 ⟨rfl,rfl⟩;clear HO1 u1 hW t1;go_wp2
 refine aB [] (fun w'=>aa w' w.heap.size [.int .i64 c,.int .u64 o] 235/\aa w' gb [.bool bit] 4/\aa w' gk [.int .i64 k] 3) (by kernel_rfl) ?_
 have hS:aa w1.drew w.heap.size [.int .i64 c,.int .u64 o] 235/\aa w1.drew gb [.bool bit] 4/\aa w1.drew gk [.int .i64 k] 3:=⟨B1,c1,c2⟩;replace c3:aa w1.drew gp [.int .i64 0] 3:=c3
 replace F1:aD lo hi w w1.drew:=F1.trans (aD.of (Below.refl _ _).drew (by have:=bW.size;omega));have z1:w.heap.size<=w1.drew.heap.size:=bW.size;generalize w1.drew=U at *;clear B1 B2 c1 c2 bW
 by_cases hq:bf+ob15<=k
 .have hd:decide ((bf:Int)+(ob15:Int)<=(k:Int))=true:=decide_eq_true (by omega);have hd2:IntKind.i64.wrap ((bf:Int)+(ob15:Int))=(bf:Int)+(ob15:Int):=by rw[IntKind.wrap_i64];omega
  refine aK 0 hS ?_;refine aF 1 hS rfl (fun w0 h0=>by have c0:=h0.2.1.cell 0 rfl;go_simp;try with_reducible rfl) ?_;refine aK 2 hS ?_
  refine aF 3 hS rfl (fun w0 h0=>by have c0:=h0.1.cell 0 rfl;go_simp;try with_reducible rfl) ?_;refine aF 6 hS rfl (fun w0 h0=>by have c0:=h0.2.2.cell 0 rfl;go_simp;try with_reducible rfl) ?_
  refine aO 4 ?_;intro K hK;go_simp;refine(HO2.out _).mono ?_;rintro e w2 ⟨rfl,rfl⟩;refine hK.out _ _ (fun _=>hS) ?_;clear hK K;try simp only[Act.put,ak,aj,ai,ae,ah,ag]
  refine aK 5 hS ?_;refine aK 7 hS ?_;refine aq.done (by kernel_rfl) ?_ _;have HN:=NX hq;clear HW HSe HFl HTr SO NX;go_wp2;go_ret;exact⟨true,rfl,fun _=>⟨HN,c3⟩,nofun,hS.2.1,hS.2.2,F1⟩
 .have hd:decide ((bf:Int)+(ob15:Int)<=(k:Int))=false:=decide_eq_false (by omega);have hd2:IntKind.i64.wrap ((bf:Int)+(ob15:Int))=(bf:Int)+(ob15:Int):=by rw[IntKind.wrap_i64];omega
  obtain⟨r,hr,hsel,hps⟩:=SO (by omega);rw[hsel]at HSe;refine aK 0 hS ?_;refine aF 1 hS rfl (fun w0 h0=>by have c0:=h0.2.1.cell 0 rfl;go_simp;try with_reducible rfl) ?_;refine aK 2 hS ?_
  refine aF 3 hS rfl (fun w0 h0=>by have c0:=h0.1.cell 0 rfl;go_simp;try with_reducible rfl) ?_;refine aF 6 hS rfl (fun w0 h0=>by have c0:=h0.2.2.cell 0 rfl;go_simp;try with_reducible rfl) ?_
  refine aO 4 ?_;intro K hK;go_simp;refine(HO2.out _).mono ?_;rintro e w2 ⟨rfl,rfl⟩;refine hK.out _ _ (fun _=>hS) ?_;clear hK K;try simp only[Act.put,ak,aj,ai,ae,ah,ag]
  refine aK 5 hS ?_;refine aK 7 hS ?_;refine aq.done (by kernel_rfl) ?_ _;clear NX hd hd2 SO hsel;have b0:=hS.1.cell 0 rfl;have b1:=hS.1.cell 1 rfl;go_wp2_with fail;refine mr (HW.out _) fun w3 hb=>?_
  have hS3:=And.intro (hS.2.1.kept hb) (hS.2.2.kept hb);have F3:=F1.trans (aD.of hb (by omega));replace c3:=c3.kept hb;clear hb hS F1 b0 b1;have t0:=hS3.1.cell 0 rfl;have t1:=hS3.2.cell 0 rfl;have g0:=c3.cell 0 rfl
  have g1:=c3.frozen 0;cases bit with
  | true=>
   have HT:=HTr.out rfl;subst HT;clear HFl HTr HW;go_wp2_with fail;refine(HSe.out _).mono ?_;rintro e w4 ⟨rfl,rfl⟩;clear HSe t0 t1;go_wp2;go_ret;have ev:(i:Int)*15+(r:Int)=((15*i+r:Nat):Int):=by omega
   rw[ev];exact⟨false,rfl,nofun,fun _=>⟨15*i+r,hps,c3.set 0 _⟩,hS3.1.other (by show gb≠gp;omega) _,hS3.2.other (by show gk≠gp;omega) _,F3.trans (((aw.refl gp w4).set 0 _).fr l1 l2)⟩
  | false=>
   have HF:bits BinOp.xor IntKind.u64 IntKind.u64.max (bw:Int)=(wk:Int):=HFl.out rfl;clear HFl HTr HW;go_wp2_with fail;refine(HSe.out _).mono ?_;rintro e w4 ⟨rfl,rfl⟩;clear HSe t0 t1;go_wp2;go_ret
   have ev:(i:Int)*15+(r:Int)=((15*i+r:Nat):Int):=by omega
   rw[ev];exact⟨false,rfl,nofun,fun _=>⟨15*i+r,hps,c3.set 0 _⟩,hS3.1.other (by show gb≠gp;omega) _,hS3.2.other (by show gk≠gp;omega) _,F3.trans (((aw.refl gp w4).set 0 _).fr l1 l2)⟩
structure o5 (w0:World) (m k gb gk gp:Nat) (Y:List Nat) (bit:Bool) (i:Nat) (w:World):Prop where
 below:Below w0.heap.size w0 w
 lt:i<nb m
 le:cB Y bit (15*i)<=k
 c1:aa w gb [.bool bit] 4
 c2:aa w gk [.int .i64 k] 3
 c3:aa w gp [.int .i64 0] 3
theorem o5.keep{w0:World}{m k gb gk gp hi i:Nat}{Y:List Nat}{bit:Bool}{w w':World}(h:o5 w0 m k gb gk gp Y bit i w)(h0:w0.heap.size<=hi)(h1:gb<hi)(h2:gk<hi)(h3:gp<hi)(hb:Below hi w w'):o5 w0 m k gb gk gp Y bit i w':=
 ⟨h.below.trans (hb.mono h0),h.lt,h.le,h.c1.keep hb h1,h.c2.keep hb h2,h.c3.keep hb h3⟩
theorem Bg(cs:List Value)(a:aE)(m k q:Nat)(Y:List Nat)(bit:Bool)(w:World)(h:ba w cs a)(v:KV a m Y)(hq:cd (m:Int) Y bit (k:Int)=some q):
  Qq 196 #[.agg cs.toArray,.bool bit,.int .i64 k] w (.int .i64 q):=by
 have hm:=v.le
 have hk:k<cB Y bit m:=by
  have:=(jb (m:Int) Y bit (k:Int)).1 (by rw[hq];rfl);rw[Int.toNat_natCast]at this;omega
 have hkm:=fq Y bit m;have hm0:0<nb m:=by unfold nb;omega
 have g8:gN m<=8739:=by have:=gK m hm;unfold gN;omega
 have g1:0<gN m:=by unfold gN;omega
 have HS:Hid (∀(gb gx gk:Nat) w1,Below w.heap.size w w1->aa w1 gb [.bool bit] 4->aa w1 gx cs 40->aa w1 gk [.int .i64 k] 3->Calls prog 251 #[.int .i64 (gN m:Nat),.func (.func 254) #[] #[.pointer (some ⟨gb,0,none⟩),.pointer (some ⟨gx,0,none⟩),.pointer (some ⟨gk,0,none⟩)]] w1 fun e w'=>∃g:Nat,e=.returned (.int .i64 ((g+1:Nat):Int))/\g<gN m/\cB Y bit (120*g)<=k/\Below w1.heap.size w1 w'):=by
  intro gb gx gk w1 hb c1 c2 c3;refine(Bj (gN m) (by omega) ⟨gb,0,none⟩ ⟨gx,0,none⟩ ⟨gk,0,none⟩ (fun i=>decide (k<cB Y bit (120*i))) w1 ?_ ?_).mono ?_
  .intro i w2 hi hb2;exact Bi cs a m i k gb gx gk Y bit w2 (h.keep (bg hb hb2)) v hi (by omega) (c1.kept hb2) (c2.kept hb2) (c3.kept hb2)
  .intro i j hij hi;simp only[decide_eq_true_eq]at hi⊢;have:=iS Y bit (120*i) (120*j-120*i);rw[show 120*i+(120*j-120*i)=120*j by omega]at this;omega
  .rintro e w2 ⟨j,rfl,hj,h1,h2,hb2⟩
   have j0:j≠0:=by
    intro e;have:=h2 0 (by omega) g1;simp only[decide_eq_true_eq]at this;have:=fq Y bit (120*0);omega
   obtain⟨g,rfl⟩:∃g,j=g+1:=⟨j-1,by omega⟩;have:=h1 g (by omega);simp only[decide_eq_false_iff_not]at this;exact⟨g,rfl,by omega,by omega,hb2⟩
 have HA:Hid (∀(g gb gk gp:Nat) w1,g<gN m->cB Y bit (120*g)<=k->Below w.heap.size w w1->aa w1 gb [.bool bit] 4->aa w1 gk [.int .i64 k] 3->aa w1 gp [.int .i64 0] 3->gp≠gb->gp≠gk->w.heap.size<=gp->Calls prog 199 #[.agg cs.toArray,.int .i64 g,.func (.func 255) #[] #[.pointer (some ⟨gb,0,none⟩),.pointer (some ⟨gk,0,none⟩),.pointer (some ⟨gp,0,none⟩)]] w1 fun e w'=>∃r,e=.returned r/\aa w' gp [.int .i64 q] 3/\aD w.heap.size w1.heap.size w1 w'):=by
  intro g gb gk gp w1 hg hle hb c1 c2 c3 n1 n2 n3
  have hg8:8*g<nb m:=by
   by_cases c:g=0
   .omega
   .exact ju m g hg c
  refine(nj cs a g (nb m) w.heap.size w1.heap.size 255 #[.pointer (some ⟨gb,0,none⟩),.pointer (some ⟨gk,0,none⟩),.pointer (some ⟨gp,0,none⟩)] (fun i w2=>o5 w m k gb gk gp Y bit i w2) (fun _ w2=>aa w2 gp [.int .i64 q] 3) w1 v.nk v.nV v.ic (by omega) (by rw[v.sl];exact hg) (by rw[v.tl];exact hg) (v.gs _ hg) (v.gt _ hg) hb.size (Nat.le_refl _) ⟨hb,hg8,by rw[show 15*(8*g)=120*g by omega];exact hle,c1,c2,c3⟩ (fun i w2 hi=>h.keep hi.below) (fun i w2 w3 hi hb2=>hi.keep hb.size c1.lt c2.lt c3.lt hb2) (fun i w2 w3 hi hb2=>hi.keep hb2 c3.lt) ?cf ?st).mono ?_
  case cf=>
   intro args w2;kernel_rfl
  case st=>
   intro i w2 _ hin hse hi hw2;refine(Bh a m i k gb gk gp w.heap.size w1.heap.size Y bit w2 v hin hk hi.le hi.c1 hi.c2 hi.c3 n1 n2 n3 c3.lt hw2).mono ?_;rintro e w3 ⟨b,rfl,h1,h2,d1,d2,fr⟩
   refine⟨b,rfl,fun hb=>?_,fun hb=>?_,fr⟩
   .obtain⟨⟨a1,a2⟩,a3⟩:=h1 hb;exact⟨hi.below.trans fr.below,a1,a2,d1,d2,a3⟩
   .obtain⟨q',e1,e2⟩:=h2 hb;rw[hq]at e1;obtain rfl:=Option.some.inj e1;exact e2
  .rintro e w2 ⟨i,b,rfl,_,hi,h1,h2,fr⟩;cases b with
   | true=>
    obtain⟨rfl,hI⟩:=h1 rfl;exact absurd hI.lt (Nat.lt_irrefl _)
   | false=>
    obtain⟨hlt,h3⟩:=h2 rfl;rcases h3 with⟨h3,_⟩ | ⟨_,h4⟩
    .exact absurd (v.se i hlt) h3
    .exact⟨_,rfl,h4,fr⟩
 have hmf:∀(fn:Fn) (first cap:Array Value) (w:World),(Instr.makeFunc fn first cap).run prog w=.ok (.func fn first cap) w:=fun _ _ _ _=>rfl;have sl:=v.sl;clear v
 obtain⟨⟨ao,cap,qo,dap,so,sc,tO,tc,rfl,_⟩,_⟩:=h;obtain⟨N,kk,V,M,xs,L,ys,S,T⟩:=a;dsimp only at *;rw[<-sl]at HS HA;have lb:S.length<=8739:=by omega
 clear sl hq
 obtain⟨W,hW⟩:∃W,W=((w.alloc (.cells #[.int .i64 N,.int .i64 kk,.int .i64 V,.int .i64 M,.slice ao xs.length cap,.int .i64 L,.slice qo ys.length dap,.slice so S.length sc,.slice tO T.length tc] 40)).alloc (.cells #[.bool bit] 4)).alloc (.cells #[.int .i64 k] 3):=⟨_,rfl⟩
 have bW:Below w.heap.size w W:=by rw[hW];exact((below_alloc w _).alloc (by simp) _).alloc (by simp;omega) _
 have zW:W.heap.size=w.heap.size+3:=by rw[hW];simp
 have B1:aa W w.heap.size [.int .i64 N,.int .i64 kk,.int .i64 V,.int .i64 M,.slice ao xs.length cap,.int .i64 L,.slice qo ys.length dap,.slice so S.length sc,.slice tO T.length tc] 40:=by rw[hW];exact((aa.new w _ _).alloc _).alloc _
 have B2:aa W (w.heap.size+1) [.bool bit] 4:=by rw[hW];exact(aa.new2 w _ _ _).alloc _
 have B3:aa W (w.heap.size+2) [.int .i64 k] 3:=by
  have:=aa.new2 (w.alloc (.cells #[.int .i64 N,.int .i64 kk,.int .i64 V,.int .i64 M,.slice ao xs.length cap,.int .i64 L,.slice qo ys.length dap,.slice so S.length sc,.slice tO T.length tc] 40)) (.cells #[.bool bit] 4) [.int .i64 k] 3
  rw[hW];simpa using this
 go_enter func196,ntmps196;go_wp2_with fail;rw[<-hW];refine(HS.out (w.heap.size+1) w.heap.size (w.heap.size+2) W bW B2 B1 B3).mono ?_;rintro e w1 ⟨g,rfl,hg,hle,hb⟩;have bw1:=bg bW hb
 have z1:=hb.size;replace B1:=B1.kept hb;replace B2:=B2.kept hb;replace B3:=B3.kept hb;clear hb hW HS bW;have q0:=B1.cell 0 rfl;have q1:=B1.cell 1 rfl;have q2:=B1.cell 2 rfl;have q3:=B1.cell 3 rfl
 have q4:=B1.cell 4 rfl;have q5:=B1.cell 5 rfl;have q6:=B1.cell 6 rfl;have q7:=B1.cell 7 rfl;have q8:=B1.cell 8 rfl;have l1:=B1.lt;obtain⟨W2,hW2⟩:∃W2,W2=w1.alloc (.cells #[.int .i64 0] 3):=⟨_,rfl⟩
 have hb2:Below w1.heap.size w1 W2:=by rw[hW2];exact below_alloc w1 _
 have B4:aa W2 w1.heap.size [.int .i64 0] 3:=by rw[hW2];exact aa.new w1 _ _
 have bw2:=bg bw1 hb2;replace B2:=B2.kept hb2;replace B3:=B3.kept hb2;go_wp2_with fail;rw[<-hW2]
 refine(HA.out g (w.heap.size+1) (w.heap.size+1+1) w1.heap.size W2 hg hle bw2 B2 B3 B4 (by omega) (by omega) (by omega)).mono ?_;rintro e w3 ⟨r,rfl,d,fr⟩;have bw3:=bw2.trans fr.below;have d0:=d.cell 0 rfl
 clear q0 q1 q2 q3 q4 q5 q6 q7 q8 hW2 hb2 B1 B2 B3 B4 HA fr bw2;go_wp2;go_ret;exact⟨rfl,bw3⟩
theorem zZ(cs:List Value)(a:aE)(bit:Bool)(k:Int)(w:World)(h:ba w cs a)(hk2:ax k):
  Qq 127 #[.agg cs.toArray,.bool bit,.int .i64 k] w (.tuple #[.int .i64 (gsX (kOk8 a) (kBN8 a) (kBX8 a) bit k),.int .i64 (gsE (kOk8 a) (kBN8 a) (kBX8 a) bit k)]):=by
 have C:=fun(w0:World) (hb:Below w.heap.size w w0)=>lP cs a w0 (h.keep hb);cases hk:kOk8 a with
 | false=>
  rw[hk]at C;have CH:Hid (Qz w 173 #[.agg cs.toArray] (.bool false)):=C
  show Calls _ _ _ _ fun e w'=>e=.returned (.tuple #[.int .i64 0,.int .i64 2])/\Below w.heap.size w w';clear C hk;obtain⟨⟨ao,cap,qo,dap,so,sc,tO,tc,rfl,_⟩,_⟩:=h;obtain⟨N,kk,V,M,xs,L,ys,S,T⟩:=a
  dsimp only at *
  obtain⟨W,hW⟩:∃W,W=w.alloc (.cells #[.int .i64 N,.int .i64 kk,.int .i64 V,.int .i64 M,.slice ao xs.length cap,.int .i64 L,.slice qo ys.length dap,.slice so S.length sc,.slice tO T.length tc] 40):=⟨_,rfl⟩
  have bW:=aM hW;go_enter func127,ntmps127;go_wp2_with fail;rw[<-hW];refine mr (CH.out _ bW) fun w1 hb=>?_;have bw1:=bg bW hb;clear hW hb;go_wp2;go_ret2;exact⟨rfl,bw1⟩
 | true=>
 rw[hk]at C;have CH:Hid (Qz w 173 #[.agg cs.toArray] (.bool true)):=C;obtain⟨m,eN,v⟩:=nE a hk;have hm:=v.le
 have vN:=v.nN;clear C hk;rw[eN];generalize kBX8 a=Y at *
 have HB:Hid (Qz w 179 #[.agg cs.toArray,.bool bit,.int .i64 m] (.int .i64 (cB Y bit m:Nat))):=fun w0 hb=>tR cs a m m Y bit w0 (h.keep hb) v (Nat.le_refl _)
 have HQ:Hid (∀(n q:Nat) w0,cd (m:Int) Y bit (n:Int)=some q->Below w.heap.size w w0->Qq 196 #[.agg cs.toArray,.bool bit,.int .i64 (n:Int)] w0 (.int .i64 (q:Nat))):=fun n q w0 hq hb=>Bg cs a m n q Y bit w0 (h.keep hb) v hq
 have PI:=jb (m:Int) Y bit k;rw[Int.toNat_natCast]at PI;have cb:=fq Y bit m;clear v;obtain⟨⟨ao,cap,qo,dap,so,sc,tO,tc,rfl,_⟩,_⟩:=h;obtain⟨N,kk,V,M,xs,L,ys,S,T⟩:=a;dsimp only at *;subst vN
 obtain⟨W,hW⟩:∃W,W=w.alloc (.cells #[.int .i64 m,.int .i64 kk,.int .i64 V,.int .i64 M,.slice ao xs.length cap,.int .i64 L,.slice qo ys.length dap,.slice so S.length sc,.slice tO T.length tc] 40):=⟨_,rfl⟩
 have bW:=aM hW;have B1:=aU hW;unfold gsX gsE;rw[if_pos rfl,if_pos rfl];cases hp:cd (m:Int) Y bit k with
 | none=>
  have hn:¬(0<=k/\k<(cB Y bit m:Int)):=fun c=>by
   have:=PI.2 c;rw[hp]at this;cases this
  show Calls _ _ _ _ fun e w'=>e=.returned (.tuple #[.int .i64 0,.int .i64 3])/\Below w.heap.size w w';clear HQ PI hp;generalize cB Y bit m=cn at *;go_enter func127,ntmps127;go_wp2_with fail;rw[<-hW]
  refine mr (CH.out _ bW) fun w1 hb=>?_;have bw1:=bg bW hb;replace B1:=B1.kept hb;have q0:=B1.cell 0 rfl;have q1:=B1.cell 1 rfl;have q2:=B1.cell 2 rfl;have q3:=B1.cell 3 rfl
  have q4:=B1.cell 4 rfl;have q5:=B1.cell 5 rfl;have q6:=B1.cell 6 rfl;have q7:=B1.cell 7 rfl;have q8:=B1.cell 8 rfl;clear hW hb;by_cases h0:k<0
  .go_wp2;go_ret2;exact⟨rfl,bw1⟩
  .have h1:(cn:Int)<=k:=by omega
   go_wp2_with fail;refine mr (HB.out _ bw1) fun w2 hb=>?_;have bw2:=bg bw1 hb;clear hb bw1 q0 q1 q2 q3 q4 q5 q6 q7 q8 B1 HB;go_wp2;go_ret2;exact⟨rfl,bw2⟩
 | some q=>
  have hn:=PI.1 (by rw[hp];rfl);obtain⟨n,rfl⟩:=Int.eq_ofNat_of_zero_le hn.1
  have HQ2:Hid (Qz w 196 #[.agg #[.int .i64 m,.int .i64 kk,.int .i64 V,.int .i64 M,.slice ao xs.length cap,.int .i64 L,.slice qo ys.length dap,.slice so S.length sc,.slice tO T.length tc],.bool bit,.int .i64 (n:Int)] (.int .i64 (q:Nat))):=fun w0 hb=>HQ.out n q w0 hp hb
  show Calls _ _ _ _ fun e w'=>e=.returned (.tuple #[.int .i64 (q:Nat),.int .i64 0])/\Below w.heap.size w w';clear HQ PI hp;generalize cB Y bit m=cn at *;have h0:¬(n:Int)<0:=by omega
  have h1:¬(cn:Int)<=(n:Int):=by omega
  go_enter func127,ntmps127;go_wp2_with fail;rw[<-hW];refine mr (CH.out _ bW) fun w1 hb=>?_;have bw1:=bg bW hb;replace B1:=B1.kept hb;have q0:=B1.cell 0 rfl
  have q1:=B1.cell 1 rfl;have q2:=B1.cell 2 rfl;have q3:=B1.cell 3 rfl;have q4:=B1.cell 4 rfl;have q5:=B1.cell 5 rfl;have q6:=B1.cell 6 rfl;have q7:=B1.cell 7 rfl;have q8:=B1.cell 8 rfl;clear hW hb
  go_wp2_with fail;refine mr (HB.out _ bw1) fun w2 hb=>?_;have bw2:=bg bw1 hb;replace B1:=B1.kept hb;clear hb bw1 q0 q1 q2 q3 q4 q5 q6 q7 q8 HB;have q0:=B1.cell 0 rfl;have q1:=B1.cell 1 rfl
  have q2:=B1.cell 2 rfl;have q3:=B1.cell 3 rfl;have q4:=B1.cell 4 rfl;have q5:=B1.cell 5 rfl;have q6:=B1.cell 6 rfl;have q7:=B1.cell 7 rfl;have q8:=B1.cell 8 rfl;go_wp2_with fail;refine mr (HQ2.out _ bw2) fun w3 hb=>?_;have bw3:=bg bw2 hb;clear hb bw2 q0 q1 q2 q3 q4 q5 q6 q7 q8 HQ2 B1;go_wp2;go_ret2;exact⟨rfl,bw3⟩
def rowP(n:Nat)(F:Nat->Bool)(p:Nat):List Nat:=rowOf n fun j=>decide (j<p)&&F j
theorem length_rowP(n:Nat)(F:Nat->Bool)(p:Nat):(rowP n F p).length=(n+63)/64:=cU _ _
theorem q9(n:Nat)(F:Nat->Bool)(p:Nat):Fit (rowP n F p):=db _ _
theorem tD(n:Nat)(F:Nat->Bool):rowP n F 0=rowOf n fun _=>false:=dc _ _ _ fun i _=>by simp
theorem AF(n:Nat)(F:Nat->Bool):rowP n F n=rowOf n F:=dc _ _ _ fun i hi=>by simp[hi]
theorem pJ(n:Nat)(F:Nat->Bool)(p d x:Nat)(hd:d<=64)(hp:p+d<=n)(hx:x<2^d):jC (rowP n F p) p x:=
 AH _ _ _ d hx hd (by rw[length_rowP];omega)
theorem tE(n:Nat)(F:Nat->Bool)(p d x:Nat)(hd:d<=64)(hp:p+d<=n)(hx:x<2^d)(hb:∀t,t<d->x.testBit t=F (p+t)):dj (rowP n F p) p x=rowP n F (p+d):=by
 have hR:=pJ n F p d x hd hp hx;have h64:x<18446744073709551616:=Nat.lt_of_lt_of_le hx (Nat.pow_le_pow_right (n:=2) (j:=64) (by decide) hd)
 refine jW n _ _ (GF _ (q9 _ _ _) _ _ h64 hR) (by rw[DZ,length_rowP]) fun i _=>?_;rw[JA _ _ _ h64 hR];unfold rowP;rw[eD];by_cases c:i<p
 .simp[c,show i<p+d by omega,show ¬p<=i by omega]
 .by_cases e:i<p+d
  .have:=hb (i-p) (by omega);rw[show p+(i-p)=i by omega]at this;simp[c,e,show p<=i by omega,this,show i<n by omega]
  .have:x<2^(i-p):=Nat.lt_of_lt_of_le hx (Nat.pow_le_pow_right (by decide) (by omega));rw[Nat.testBit_lt_two_pow this];simp[c,e]
theorem Jf(m:Nat)(f:Nat->Bool)(i:Nat):blv m f i<2^(min 15 (m-15*i)):=by
 unfold blv
 have e:cO 15 (fun k=>decide (15*i+k<m)&&f (15*i+k))=cO (min 15 (m-15*i)) (fun k=>decide (15*i+k<m)&&f (15*i+k)):=by
  refine io _ _ _ fun t=>?_;rw[fF];by_cases c:t<min 15 (m-15*i)
  .simp[c,show t<15 by omega]
  .by_cases d:t<15
   .simp[c,show ¬15*i+t<m by omega]
   .simp[c,d]
 rw[e];exact gJ _ _
theorem Jp(m:Nat)(Y:List Nat)(i:Nat)(hi:i<nb m):jC (rowP m (bitAt Y) (15*i)) (15*i) (blv m (bitAt Y) i)/\dj (rowP m (bitAt Y) (15*i)) (15*i) (blv m (bitAt Y) i)=rowP m (bitAt Y) (15*(i+1)):=by
 have hm:15*i<m:=by unfold nb at hi;omega
 have hx:=Jf m (bitAt Y) i;refine⟨pJ m _ _ (min 15 (m-15*i)) _ (by omega) (by omega) hx,?_⟩;rw[tE m (bitAt Y) (15*i) (min 15 (m-15*i)) _ (by omega) (by omega) hx fun t ht=>?_]
 .refine dc _ _ _ fun j hj=>?_;by_cases c:j<15*(i+1)
  .simp[c,show j<15*i+min 15 (m-15*i)by omega]
  .simp[c,show ¬j<15*i+min 15 (m-15*i)by omega]
 .unfold blv;rw[fF];simp[show t<15 by omega,show 15*i+t<m by omega]
theorem Jw(m:Nat)(Y:List Nat)(hf:Fit Y)(hk:ar (m:Int) Y=true):rowP m (bitAt Y) (15*nb m)=Y:=by
 rw[<-pI m Y hf hk];refine dc _ _ _ fun j hj=>?_;rw[pI m Y hf hk];simp[show j<15*nb m by unfold nb;omega]
theorem aL.fr{g lo hi:Nat}{w w':World}(h:aL g w w')(h1:lo<=g)(h2:g<hi):aD lo hi w w':=⟨h.below h1,fun b hb _=>h.block b (by omega)⟩
theorem aL.tb{g b:Nat}{w w':World}{cs:List Value}(h:aL g w w')(hc:Tb w b cs)(hb:b≠g):Tb w' b cs:=by
 obtain⟨T,hc⟩:=hc;exact⟨T,(h.block b hb).trans hc⟩
theorem aL.cel{g b:Nat}{w w':World}{cs:List Value}{T:TypeId}(h:aL g w w')(hc:aa w b cs T)(hb:b≠g):aa w' b cs T:=(h.block b hb).trans hc
theorem BC(a:aE)(m i n gr gw lo hi:Nat)(Y:List Nat)(w:World)(v:KV a m Y)(hi2:i<nb m)(hn:n=(m+63)/64)(c1:aa w gr [.int .i64 m,.slice (some ⟨gw,0,none⟩) n n] 33)(c2:Own w gw (rowP m (bitAt Y) (15*i)))(l1:lo<=gw)(l2:gw<hi)(l3:hi<=w.heap.size)(l4:gr≠gw):
  Calls prog 200 #[.int .i64 i,.agg #[.int .i64 (cls a.xs i:Nat),.int .u64 (cOff a.L a.ys a.xs i:Nat)],.agg #[.int .i64 (cOn a.xs i:Nat),.int .i64 (cAt a.xs i:Nat)],.pointer (some ⟨gr,0,none⟩)] w
   fun e w'=>e=.returned (.bool true)/\Own w' gw (rowP m (bitAt Y) (15*(i+1)))/\aD lo hi w w'/\(∀b,b≠gw->b<w.heap.size->w'.heap[b]?=w.heap[b]?):=by
 have hm:=v.le;have him:15*i<=m:=by unfold nb at hi2;omega
 have cl:=iu a.xs i
 have HW:Hid (∀w0,Qq 175 #[.agg #[.int .i64 (cls a.xs i:Nat),.int .u64 (cOff a.L a.ys a.xs i:Nat)]] w0 (.int .u64 (blv m (bitAt Y) i:Nat))):=by
  intro w0;have:=lN (cls a.xs i) (cOff a.L a.ys a.xs i) cl (v.off i hi2) w0;rw[v.wd i hi2]at this;exact this
 obtain⟨st1,st2⟩:=Jp m Y i hi2
 have HL:Hid (∀w0,Own w0 gw (rowP m (bitAt Y) (15*i))->Calls prog 201 #[.slice (some ⟨gw,0,none⟩) n n,.int .i64 ((15*i:Nat):Int),.int .u64 (blv m (bitAt Y) i:Nat)] w0 fun e w'=>e=.returned (.tuple #[])/\Own w' gw (rowP m (bitAt Y) (15*(i+1)))/\aL gw w0 w'):=by
  intro w0 h0;have:=tP (rowP m (bitAt Y) (15*i)) n gw n (15*i) (blv m (bitAt Y) i) w0 (by rw[length_rowP,hn]) h0 (by omega) (q9 _ _ _) (mJ _ _ _) st1;rw[st2]at this;exact this
 have u1:Hid (IntKind.i64.wrap ((i:Int)*15)=((15*i:Nat):Int)):=by show _=_;rw[IntKind.wrap_i64];omega
 have ib:i<=69906:=by have:=gK m hm;omega
 clear v st1 st2 hn;generalize cls a.xs i=c at *;generalize cOff a.L a.ys a.xs i=o at *;generalize cOn a.xs i=s at *;generalize cAt a.xs i=p at *;generalize blv m (bitAt Y) i=bw at *
 generalize rowP m (bitAt Y) (15*(i+1))=R2 at *;generalize rowP m (bitAt Y) (15*i)=R1 at *
 obtain⟨W,hW⟩:∃W,W=(w.alloc (.cells #[.int .i64 c,.int .u64 o] 235)).alloc (.cells #[.int .i64 s,.int .i64 p] 216):=⟨_,rfl⟩;have bW:=cW hW;have B1:=eU hW
 have F1:aD lo hi w W:=aD.of bW (by omega);have G1:∀b,b<w.heap.size->W.heap[b]?=w.heap[b]?:=fun b hb=>bW.block b hb;replace c1:=c1.kept bW;replace c2:=c2.keep bW;have z1:=bW.size;clear bW
 go_enter func200,ntmps200;go_wp2;rw[<-hW];clear hW
 refine aB [] (fun w'=>aa w' w.heap.size [.int .i64 c,.int .u64 o] 235/\aa w' gr [.int .i64 m,.slice (some ⟨gw,0,none⟩) n n] 33) (by kernel_rfl) ?_
 have hS:aa W.drew w.heap.size [.int .i64 c,.int .u64 o] 235/\aa W.drew gr [.int .i64 m,.slice (some ⟨gw,0,none⟩) n n] 33:=⟨B1,c1⟩;replace c2:Own W.drew gw R1:=c2
 replace F1:aD lo hi w W.drew:=F1.trans (aD.of (Below.refl _ _).drew (by omega));replace G1:∀b,b<w.heap.size->W.drew.heap[b]?=w.heap[b]?:=G1;have z2:w.heap.size<=W.drew.heap.size:=z1
 generalize W.drew=U at *;clear B1 c1;refine aK 0 hS ?_;refine aF 1 hS rfl (fun w0 h0=>by have c0:=h0.2.cell 1 rfl;go_simp;try with_reducible rfl) ?_;refine aK 2 hS ?_;refine aK 3 hS ?_
 refine aF 4 hS rfl (fun w0 h0=>by have c0:=h0.1.cell 0 rfl;have c1:=h0.1.cell 1 rfl;go_simp;try with_reducible rfl) ?_;refine aO 5 ?_;intro K hK;go_simp;refine mr (HW.out _) fun w3 hb=>?_
 have hS3:=And.intro (hS.1.kept hb) (hS.2.kept hb);have F3:=F1.trans (aD.of hb (by omega));have G3:∀b,b<w.heap.size->w3.heap[b]?=w.heap[b]?:=fun b h=>(hb.block b (by omega)).trans (G1 b h)
 replace c2:=c2.keep hb;clear hb hS F1 G1 HW;refine hK.out _ _ (fun _=>hS3) ?_;clear hK K;try simp only[Act.put,ak,aj,ai,ae,ah,ag]
 refine aO 6 ?_;intro K hK;go_simp;rw[u1.out];refine(HL.out _ c2).mono ?_;rintro e w4 ⟨rfl,hO,hT⟩;have hS4:=And.intro (hT.cel hS3.1 (by omega)) (hT.cel hS3.2 l4);have F4:=F3.trans (hT.fr l1 l2)
 have G4:∀b,b≠gw->b<w.heap.size->w4.heap[b]?=w.heap[b]?:=fun b h0 h=>(hT.block b h0).trans (G3 b h);clear c2 hT hS3 F3 G3 HL;refine hK.out _ _ (fun _=>hS4) ?_;clear hK K
 try simp only[Act.put,ak,aj,ai,ae,ah,ag]
 refine aq.done (by kernel_rfl) ?_ _;clear hS4;go_wp2;go_ret;exact⟨rfl,hO,F4,G4⟩
structure jB (w0:World) (m n gr gw gz:Nat) (Y:List Nat) (i:Nat) (w:World):Prop where
 below:Below w0.heap.size w0 w
 row:aa w gr [.int .i64 m,.slice (some ⟨gw,0,none⟩) n n] 33
 z:aa w gz [.int .i64 0,.slice none 0 0] 33
 own:Own w gw (rowP m (bitAt Y) (15*i))
theorem jB.keep{w0:World}{m n gr gw gz hi i:Nat}{Y:List Nat}{w w':World}(h:jB w0 m n gr gw gz Y i w)(h0:w0.heap.size<=hi)(h1:gr<hi)(h2:gw<hi)(h3:gz<hi)(hb:Below hi w w'):jB w0 m n gr gw gz Y i w':=
 ⟨h.below.trans (hb.mono h0),h.row.keep hb h1,h.z.keep hb h3,(hb.block gw h2).trans h.own⟩
theorem Jt(cs:List Value)(a:aE)(w:World)(h:ba w cs a):
  Calls prog 130 #[.agg cs.toArray] w fun e w'=>∃bo bc,e=.returned (.agg #[.int .i64 (kBN8 a),.slice bo (kBX8 a).length bc])/\Wd w' bo (kBX8 a)/\(kBX8 a).length<=bc/\Below w.heap.size w w':=by
 have C:=fun(w0:World) (hb:Below w.heap.size w w0)=>lP cs a w0 (h.keep hb);cases hk:kOk8 a with
 | false=>
  rw[hk]at C;have CH:Hid (Qz w 173 #[.agg cs.toArray] (.bool false)):=C
  have hr:d_ a.N a.k a.V a.M a.xs a.L a.ys a.S a.T=false:=hk;have e1:kBN8 a=0:=by unfold kBN8 jJ;rw[hr];rfl
  have e2:kBX8 a=[]:=by unfold kBX8 ja;rw[hr];rfl
  rw[e1,e2];clear C hk hr e1 e2;obtain⟨⟨ao,cap,qo,dap,so,sc,tO,tc,rfl,_⟩,_⟩:=h;obtain⟨N,k,V,M,xs,L,ys,S,T⟩:=a;dsimp only at *
  obtain⟨W,hW⟩:∃W,W=(w.alloc (.cells #[.int .i64 N,.int .i64 k,.int .i64 V,.int .i64 M,.slice ao xs.length cap,.int .i64 L,.slice qo ys.length dap,.slice so S.length sc,.slice tO T.length tc] 40)).alloc (.cells #[.int .i64 0,.slice none 0 0] 33):=⟨_,rfl⟩
  have bW:=cW hW;have B2:=dE hW;go_enter func130,ntmps130;go_wp2_with fail;rw[<-hW];refine mr (CH.out _ bW) fun w1 hb=>?_;have bw1:=bg bW hb;replace B2:=B2.kept hb
  have f0:=B2.frozen 0;have f1:=B2.frozen 1;have n0:=B2.cell 0 rfl;have n1:=B2.cell 1 rfl;clear hW hb;go_wp2
  refine bodyPost_ret (fM rfl (w.heap.size+1) [.int .i64 0,.slice none 0 0] rfl ((B2.set 0 _).set 1 _) underlying33 nh) rfl ⟨none,0,rfl,fun h=>absurd h (Nat.lt_irrefl _),Nat.le_refl _,?_⟩
  exact(bw1.setCell (by show w.heap.size<=w.heap.size+1;omega) _).setCell (by show w.heap.size<=w.heap.size+1;omega) _
 | true=>
  rw[hk]at C;have CH:Hid (Qz w 173 #[.agg cs.toArray] (.bool true)):=C;obtain⟨m,eN,v⟩:=nE a hk;have hm:=v.le
  have vN:=v.nN;clear C hk;rw[eN];generalize kBX8 a=Y at *;obtain⟨n,hn⟩:∃n,n=(m+63)/64:=⟨_,rfl⟩
  have hYl:Y.length=n:=by
   obtain⟨_,_,q,_⟩:=bp _ _ v.ck;omega
  have HN:Hid (∀w0,Calls prog 198 #[.int .i64 m] w0 fun e w'=>∃g,e=.returned (.agg #[.int .i64 m,.slice (some ⟨g,0,none⟩) n n])/\w0.heap.size<=g/\Own w' g (rowP m (bitAt Y) (15*0))/\Below w0.heap.size w0 w'):=by
   intro w0;have:=tN m n hm hn w0;rw[<-tD m (bitAt Y)]at this;exact this
  have g1:0<gN m:=by unfold gN;omega
  have HA:Hid (∀(gr gw gz:Nat) w1,jB w m n gr gw gz Y 0 w1->w.heap.size<=gw->gr≠gw->gz≠gw->gr<w1.heap.size->gz<w1.heap.size->Calls prog 199 #[.agg cs.toArray,.int .i64 0,.func (.func 200) #[] #[.pointer (some ⟨gr,0,none⟩)]] w1 fun e w'=>∃r,e=.returned r/\jB w m n gr gw gz Y (nb m) w'):=by
   intro gr gw gz w1 hI l1 l2 l3 l4 l5;have l6:gw<w1.heap.size:=hI.own.lt
   refine(nj cs a 0 (nb m) w.heap.size w1.heap.size 200 #[.pointer (some ⟨gr,0,none⟩)] (fun i w2=>jB w m n gr gw gz Y i w2) (fun _ _=>False) w1 v.nk v.nV v.ic (by omega) (by rw[v.sl];exact g1) (by rw[v.tl];exact g1) (v.gs _ g1) (v.gt _ g1) hI.below.size (Nat.le_refl _) hI (fun i w2 hi=>h.keep hi.below) (fun i w2 w3 hi hb=>hi.keep hI.below.size l4 l6 l5 hb) (fun _ _ _ hf _=>hf) ?cf ?st).mono ?_
   case cf=>
    intro args w2;kernel_rfl
   case st=>
    intro i w2 _ hin hse hi hw2;refine(BC a m i n gr gw w.heap.size w1.heap.size Y w2 v hin hn hi.row hi.own l1 l6 hw2 l2).mono ?_;rintro e w3 ⟨rfl,d1,fr,gg⟩
    refine⟨true,rfl,fun _=>⟨hi.below.trans fr.below,(gg gr l2 hi.row.lt).trans hi.row,(gg gz l3 hi.z.lt).trans hi.z,d1⟩,nofun,fr⟩
   .rintro e w2 ⟨q,b,rfl,_,hq,h1,h2,fr⟩;cases b with
    | true=>exact⟨_,rfl,(h1 rfl).2⟩
    | false=>
     obtain⟨hlt,h3⟩:=h2 rfl;rcases h3 with⟨h3,_⟩ | ⟨_,h4⟩
     .exact absurd (v.se q hlt) h3
     .exact absurd h4 id
  have hmf:∀(fn:Fn) (first cap:Array Value) (w:World),(Instr.makeFunc fn first cap).run prog w=.ok (.func fn first cap) w:=fun _ _ _ _=>rfl
  have HE:Hid (rowP m (bitAt Y) (15*nb m)=Y):=Jw m Y v.fit v.ck;clear v hn;obtain⟨⟨ao,cap,qo,dap,so,sc,tO,tc,rfl,_⟩,_⟩:=h;obtain⟨N,k,V,M,xs,L,ys,S,T⟩:=a;dsimp only at *;subst vN
  obtain⟨W,hW⟩:∃W,W=(w.alloc (.cells #[.int .i64 m,.int .i64 k,.int .i64 V,.int .i64 M,.slice ao xs.length cap,.int .i64 L,.slice qo ys.length dap,.slice so S.length sc,.slice tO T.length tc] 40)).alloc (.cells #[.int .i64 0,.slice none 0 0] 33):=⟨_,rfl⟩
  have bW:=cW hW;have zW:W.heap.size=w.heap.size+2:=by rw[hW];simp
  have B1:=eU hW;have B2:=dE hW;go_enter func130,ntmps130;go_wp2_with fail;rw[<-hW];refine mr (CH.out _ bW) fun w1 hb=>?_;have bw1:=bg bW hb;have z1:=hb.size
  replace B1:=B1.kept hb;replace B2:=B2.kept hb;have q0:=B1.cell 0 rfl;clear hW hb bW CH;go_wp2_with fail;refine(HN.out _).mono ?_;rintro e w2 ⟨g,rfl,hg,hO,hb⟩;have bw2:=bg bw1 hb
  have z2:=hb.size;replace B1:=B1.kept hb;replace B2:=B2.kept hb;have lg:=hO.lt;clear q0 hb bw1 HN;have q0:=B1.cell 0 rfl;have q1:=B1.cell 1 rfl;have q2:=B1.cell 2 rfl;have q3:=B1.cell 3 rfl
  have q4:=B1.cell 4 rfl;have q5:=B1.cell 5 rfl;have q6:=B1.cell 6 rfl;have q7:=B1.cell 7 rfl;have q8:=B1.cell 8 rfl;have l1:=B1.lt
  obtain⟨W3,hW3⟩:∃W3,W3=w2.alloc (.cells #[.int .i64 m,.slice (some ⟨g,0,none⟩) n n] 33):=⟨_,rfl⟩;have hb3:Below w2.heap.size w2 W3:=by rw[hW3];exact below_alloc w2 _
  have z3:W3.heap.size=w2.heap.size+1:=by rw[hW3];simp
  have B3:aa W3 w2.heap.size [.int .i64 m,.slice (some ⟨g,0,none⟩) n n] 33:=by rw[hW3];exact aa.new w2 _ _
  have HI:Hid (jB w m n w2.heap.size g (w.heap.size+1) Y 0 W3):=⟨bg bw2 hb3,B3,B2.kept hb3,hO.keep hb3⟩;clear hO B2 B3 bw2 hb3;go_wp2_with fail;rw[<-hW3]
  refine(HA.out w2.heap.size g (w.heap.size+1) W3 HI.out (by omega) (by omega) (by omega) (by omega) (by omega)).mono ?_;rintro e w4 ⟨r,rfl,hI⟩;have r0:=hI.row.cell 0 rfl;have r1:=hI.row.cell 1 rfl
  have f0:=hI.z.frozen 0;have f1:=hI.z.frozen 1;have n0:=hI.z.cell 0 rfl;have n1:=hI.z.cell 1 rfl;have HI4:Hid (jB w m n w2.heap.size g (w.heap.size+1) Y (nb m) w4):=hI
  clear hI HI HA q0 q1 q2 q3 q4 q5 q6 q7 q8 B1 hW3;go_wp2;obtain⟨i1,i2,i3,i4⟩:=HI4.out;rw[HE.out]at i4
  have i5:Own ((w4.setCell ⟨w.heap.size+1,0,none⟩ (.int .i64 m)).setCell ⟨w.heap.size+1,1,none⟩ (.slice (some ⟨g,0,none⟩) n n)) g Y:=(i4.set_other (by show g≠w.heap.size+1;omega) _).set_other (by show g≠w.heap.size+1;omega) _
  refine bodyPost_ret (fM rfl (w.heap.size+1) [.int .i64 m,.slice (some ⟨g,0,none⟩) n n] rfl ((i3.set 0 _).set 1 _) underlying33 nh) rfl ⟨some ⟨g,0,none⟩,n,by rw[hYl],i5.wd,by omega,?_⟩
  exact(i1.setCell (by show w.heap.size<=w.heap.size+1;omega) _).setCell (by show w.heap.size<=w.heap.size+1;omega) _
def br(n:Nat)(c o:Nat->Nat)(q:Nat):List Value:=cL n (fun i=>.int .i64 ((if i<q then c i else 0:Nat):Int)) (fun i=>.int .u64 ((if i<q then o i else 0:Nat):Int))
theorem Jk(n:Nat)(c o:Nat->Nat):br n c o 0=cL n (fun _=>.int .i64 0) (fun _=>.int .u64 0):=by unfold br;simp
theorem Jl(n:Nat)(c o:Nat->Nat)(q:Nat)(h:q<n):((br n c o q).set (q*2) (.int .i64 (c q:Nat))).set (q*2+1) (.int .u64 (o q:Nat))=br n c o (q+1):=by
 have e:=rJ n (fun i=>.int .i64 ((if i<q then c i else 0:Nat):Int)) (fun i=>.int .u64 ((if i<q then o i else 0:Nat):Int)) (fun i=>.int .i64 ((if i<q+1 then c i else 0:Nat):Int)) (fun i=>.int .u64 ((if i<q+1 then o i else 0:Nat):Int)) q h
  (fun j hj=>by by_cases d:j<q<;>simp[d,show(j<q+1↔j<q)by omega]) (fun j hj=>by by_cases d:j<q<;>simp[d,show(j<q+1↔j<q)by omega])
 rw[if_pos (show q<q+1 by omega),if_pos (show q<q+1 by omega)]at e;exact e
theorem zF(m:Nat)(X:List Nat)(hk:ar (m:Int) X=true)(i:Nat)(hi:i<nb m):bk (m:Int) X ((15*i:Nat):Int) ((min 15 (m-15*i):Nat):Int)=0/\slcX (m:Int) X ((15*i:Nat):Int) ((min 15 (m-15*i):Nat):Int)=blv m (bitAt X) i:=by
 have e:bk (m:Int) X ((15*i:Nat):Int) ((min 15 (m-15*i):Nat):Int)=0:=by
  unfold bk;unfold nb at hi;rw[if_neg (by rw[hk];simp;omega),if_neg (by omega)]
 refine⟨e,?_⟩;unfold slcX;rw[if_pos e,Int.toNat_natCast,Int.toNat_natCast];unfold blv;refine(io _ _ _ fun t=>?_).symm;rw[fF];by_cases c:t<min 15 (m-15*i)
 .simp[c,show t<15 by omega,show 15*i+t<m by omega]
 .by_cases d:t<15
  .simp[c,show ¬15*i+t<m by omega]
  .simp[c,d]
theorem Bm(m:Nat)(ao:Option Addr)(X:List Nat)(cap:Nat)(w:World)(hm:m<=1048576)(hx:Wd w ao X)(hf:Fit X)(hk:ar (m:Int) X=true):
  Calls prog 152 #[.agg #[.int .i64 m,.slice ao X.length cap]] w fun e w'=>∃g,e=.returned (.slice (some ⟨g,0,none⟩) (nb m) (nb m))/\aa w' g (br (nb m) (bcl m (bitAt X)) (bof m (bitAt X)) (nb m)) 235/\w.heap.size<=g/\Below w.heap.size w w':=by
 obtain⟨i0,hi,hz0,hz1,hz2⟩:=info_parts (show(prog.info? 235).map (fun i=>(i.zero,i.size,i.bytes))=some (some (.agg #[.int .i64 0,.int .u64 0]),2,16)by kernel_rfl);have nbl:=gK m hm
 have HN:Hid (∀w0,Qx 219 #[.int .i64 m] w0 (.int .i64 (nb m:Nat))):=fun w0=>tS m hm w0
 obtain⟨W,hW⟩:∃W,W=w.alloc (.cells #[.int .i64 m,.slice ao X.length cap] 33):=⟨_,rfl⟩;have bW:=aM hW;have zW:W.heap.size=w.heap.size+1:=by rw[hW];simp
 have B1:=aU hW
 have HSl:Hid (∀(i:Nat) w0,i<nb m->Below w.heap.size w w0->Qq 220 #[.agg #[.int .i64 m,.slice ao X.length cap],.int .i64 ((15*i:Nat):Int),.int .i64 ((min 15 (m-15*i):Nat):Int)] w0 (.tuple #[.int .u64 (blv m (bitAt X) i:Nat),.int .i64 0])):=by
  intro i w0 hi hb;have:=mZ (m:Int) ao X cap ((15*i:Nat):Int) ((min 15 (m-15*i):Nat):Int) w0 (hx.keep hb) hf (by omega) (by omega) (by omega) (by omega);obtain⟨e1,e2⟩:=zF m X hk i hi
  rw[e1,e2]at this;exact this
 have HBo:Hid (∀(i:Nat) w0,Qq 221 #[.int .u64 (blv m (bitAt X) i:Nat)] w0 (.agg #[.int .i64 (bcl m (bitAt X) i:Nat),.int .u64 (bof m (bitAt X) i:Nat)])):=fun i w0=>tT _ (mJ _ _ _) w0
 have ST:Hid (∀q,q<nb m->((br (nb m) (bcl m (bitAt X)) (bof m (bitAt X)) q).set (q*2) (.int .i64 (bcl m (bitAt X) q:Nat))).set (q*2+1) (.int .u64 (bof m (bitAt X) q:Nat))=br (nb m) (bcl m (bitAt X)) (bof m (bitAt X)) (q+1)):=fun q hq=>Jl _ _ _ q hq
 have HNB:Hid (∀q,q<nb m->15*q<m):=fun q hq=>by unfold nb at hq;omega
 have HZ:Hid (∀c o,cL (nb m) (fun _=>.int .i64 0) (fun _=>.int .u64 0)=br (nb m) c o 0):=fun c o=>(Jk _ c o).symm;clear hx hf hk;generalize nb m=n at *;go_enter func152,ntmps152;go_wp2_with fail
 rw[<-hW];refine(HN.out _).mono ?_;rintro e w1 ⟨rfl,rfl⟩;clear HN hW
 go_wp2_with (at_make;refine wpList_make_full _ rfl _ _ 212 rfl w1.heap.size 235 i0 (.agg #[.int .i64 0,.int .u64 0]) 2 underlying212 hi hz0 hz1 .i64 .i64 _ _ n rfl rfl rfl rfl ?b2 ?b3 ?b4 ?_)
 case b2=>rw[hz2];omega
 case b3=>unfold maxLen;omega
 case b4=>simp
 intro w2 hown hgr;have B2:=ry hown;have hb2:Below w1.heap.size w1 w2:=(Below.refl _ _).grown hgr (Nat.le_refl _) (fun k h=>by cases h);have bw2:=bg bW hb2;replace B1:=B1.kept hb2
 rw[HZ.out (bcl m (bitAt X)) (bof m (bitAt X))]at B2;clear hown hgr hb2 hi hz0 hz1 hz2 HZ;go_wp2
 go_loopw [13] (fun s wr=>∃q:Nat,q<=n/\s=.int .i64 q/\aa wr w.heap.size [.int .i64 m,.slice ao X.length cap] 33/\aa wr (w.heap.size+1) (br n (bcl m (bitAt X)) (bof m (bitAt X)) q) 235/\Below w.heap.size w wr) (fun s _=>n-(intOf s).toNat)
 case atStart=>exact⟨0,Nat.zero_le _,rfl,B1,B2,bw2⟩
 case round=>
  obtain⟨q,hq,rfl,B1,B2,hb⟩:=hrel;by_cases hqn:q<n
  .have hqn2:(q:Int)<(n:Int):=by omega
   have hqm:=HNB.out q hqn;have hqm2:15*(q:Int)<=(m:Int):=by omega
   have q0:=B1.cell 0 rfl;have q1:=B1.cell 1 rfl
   have HSx:Hid (∀x y:Int,x=((15*q:Nat):Int)->y=((min 15 (m-15*q):Nat):Int)->Qq 220 #[.agg #[.int .i64 m,.slice ao X.length cap],.int .i64 x,.int .i64 y] wr (.tuple #[.int .u64 (blv m (bitAt X) q:Nat),.int .i64 0])):=by
    intro x y hx hy;rw[hx,hy];exact HSl.out q wr hqn hb
   have HBq:=HBo.out q
   have HB:Hid (∀w0,Qq 221 #[.int .u64 (blv m (bitAt X) q:Nat)] w0 (.agg #[.int .i64 (bcl m (bitAt X) q:Nat),.int .u64 (bof m (bitAt X) q:Nat)])):=HBq
   have ST2:=ac (ST.out q hqn)
   have e0:(br n (bcl m (bitAt X)) (bof m (bitAt X)) q)[q*2]?=some (.int .i64 0):=by
    unfold br;rw[ld _ _ _ _ hqn,if_neg (by omega)];rfl
   have e1:(br n (bcl m (bitAt X)) (bof m (bitAt X)) q)[q*2+1]?=some (.int .u64 0):=by
    unfold br;rw[k_ _ _ _ _ hqn,if_neg (by omega)];rfl
   clear HBq HSl ST;generalize bcl m (bitAt X) q=cq at *;generalize bof m (bitAt X) q=oq at *;generalize blv m (bitAt X) q=bq at *;go_wp2_with fail
   all_goals
    refine mr (HSx.out _ _ (by omega) (by omega)) fun w3 hb3=>?_;have bw3:=bg hb hb3;replace B1:=B1.kept hb3;replace B2:=B2.kept hb3;clear hb3 hb q0 q1 HSx;go_wp2_with fail
    refine mr (HB.out _) fun w4 hb4=>?_;have bw4:=bg bw3 hb4;replace B1:=B1.kept hb4;replace B2:=B2.kept hb4;have n0:=B2.cell (q*2) e0;have n1:=B2.cell (q*2+1) e1
    have f0:=B2.frozen (q*2);have f1:=B2.frozen (q*2+1);clear hb4 bw3 HB;go_wp2;have C2:=(B2.set (q*2) (.int .i64 cq)).set (q*2+1) (.int .u64 oq);rw[ST2.out]at C2
    exact⟨⟨q+1,by omega,by go_num,(B1.other (by show w.heap.size≠w.heap.size+1;omega) _).other (by show w.heap.size≠w.heap.size+1;omega) _,C2,(bw4.setCell (by show w.heap.size<=w.heap.size+1;omega) _).setCell (by show w.heap.size<=w.heap.size+1;omega) _⟩,by simp only[intOf];omega⟩
  .obtain rfl:q=n:=by omega
   go_wp2;go_ret;exact⟨w.heap.size+1,rfl,B2,by omega,hb⟩
theorem rI(n:Nat)(c o:Nat->Nat)(i:Nat)(h:i<n):(br n c o n)[i*2]?=some (.int .i64 (c i:Nat)):=by
 unfold br;rw[ld _ _ _ _ h,if_pos h]
theorem rH(n:Nat)(c o:Nat->Nat)(i:Nat)(h:i<n):(br n c o n)[i*2+1]?=some (.int .u64 (o i:Nat)):=by
 unfold br;rw[k_ _ _ _ _ h,if_pos h]
def cg(G:Nat)(s p:Nat->Nat)(q:Nat):List Value:=cL G (fun j=>.int .i64 ((if 8*j<q then s (8*j)else 0:Nat):Int)) (fun j=>.int .i64 ((if 8*j<q then p (8*j)else 0:Nat):Int))
theorem Dw(G:Nat)(s p:Nat->Nat):cg G s p 0=cL G (fun _=>.int .i64 0) (fun _=>.int .i64 0):=by unfold cg;simp
theorem Jn(n:Nat)(a b a' b':Nat->Value)(ha:∀j,j<n->a' j=a j)(hb:∀j,j<n->b' j=b j):cL n a b=cL n a' b':=by
 unfold cL;refine List.map_congr_left fun j hj=>?_;have:=List.mem_range.1 hj;rw[ha (j/2) (by omega),hb (j/2) (by omega)]
theorem Dy(G:Nat)(s p:Nat->Nat)(q:Nat)(h:q%8≠0):cg G s p q=cg G s p (q+1):=by
 unfold cg;refine Jn _ _ _ _ _ (fun j _=>?_) (fun j _=>?_)
 .by_cases d:8*j<q<;>simp[d,show(8*j<q+1↔8*j<q)by omega]
 .by_cases d:8*j<q<;>simp[d,show(8*j<q+1↔8*j<q)by omega]
theorem Dx(G:Nat)(s p:Nat->Nat)(q:Nat)(h:q%8=0)(hG:q/8<G):((cg G s p q).set (q/8*2) (.int .i64 (s q:Nat))).set (q/8*2+1) (.int .i64 (p q:Nat))=cg G s p (q+1):=by
 have e:=rJ G (fun j=>.int .i64 ((if 8*j<q then s (8*j)else 0:Nat):Int)) (fun j=>.int .i64 ((if 8*j<q then p (8*j)else 0:Nat):Int)) (fun j=>.int .i64 ((if 8*j<q+1 then s (8*j)else 0:Nat):Int)) (fun j=>.int .i64 ((if 8*j<q+1 then p (8*j)else 0:Nat):Int)) (q/8) hG
  (fun j hj=>by by_cases d:8*j<q<;>simp[d,show(8*j<q+1↔8*j<q)by omega]) (fun j hj=>by by_cases d:8*j<q<;>simp[d,show(8*j<q+1↔8*j<q)by omega])
 rw[show 8*(q/8)=q by omega,if_pos (show q<q+1 by omega),if_pos (show q<q+1 by omega)]at e;exact e
theorem uG(G:Nat)(s p:Nat->Nat)(q i:Nat)(h:i<G):(cg G s p q)[i*2]?=some (.int .i64 ((if 8*i<q then s (8*i)else 0:Nat):Int)):=by unfold cg;rw[ld _ _ _ _ h]
theorem uF(G:Nat)(s p:Nat->Nat)(q i:Nat)(h:i<G):(cg G s p q)[i*2+1]?=some (.int .i64 ((if 8*i<q then p (8*i)else 0:Nat):Int)):=by unfold cg;rw[k_ _ _ _ _ h]
theorem AO{fn:Func}{p u:Tmp}{T:TypeId}{w:World}{tmps:Array Value}(h:fn.results=#[.tmp u,.cell p T])(g:Nat)(cs:List Value){fs:Array Field}(hp:tmps.getD p undef=.pointer (some ⟨g,0,none⟩))(hc:aa w g cs T)(hu:prog.underlying T=some (.struct fs))(hi:(prog.info? T).map (·.size)=some cs.length):
  (results fn tmps).run prog w=.ok (.tuple #[tmps.getD u undef,.agg cs.toArray]) w:=by
 have hp':tmps[p]?.getD undef=.pointer (some ⟨g,0,none⟩):=by simpa using hp
 have hl:=run_loadVar_row (P:=prog) w g T T cs.toArray (0,0) _ hc hu rfl (by simpa using hi);simp[results,h,hp',asAddr,hl]
theorem Bp(n G gl:Nat)(c o s p:Nat->Nat)(w:World)(hn:n<=69906)(hG:G=(max 1 n+7)/8)(hl:aa w gl (br n c o n) 235)(hc:∀i,i<n->c i<=15)(s0:s 0=0)(p0:p 0=0)(hs:∀i,i<n->s (i+1)=s i+c i)(hp:∀i,i<n->p (i+1)=p i+kwd (c i))(hsb:∀i,i<=n->s i<=15*i)(hpb:∀i,i<=n->p i<=13*i)(HG:GV w):
  Calls prog 153 #[.slice (some ⟨gl,0,none⟩) n n] w fun e w'=>∃g,e=.returned (.tuple #[.slice (some ⟨g,0,none⟩) G G,.agg #[.int .i64 (s n:Nat),.int .i64 (p n:Nat)]])/\aa w' g (cg G s p n) 216/\w.heap.size<=g/\Below w.heap.size w w':=by
 obtain⟨i0,hi,hz0,hz1,hz2⟩:=info_parts (show(prog.info? 216).map (fun i=>(i.zero,i.size,i.bytes))=some (some (.agg #[.int .i64 0,.int .i64 0]),2,16)by kernel_rfl)
 have HGr:Hid (∀w0,Qx 222 #[.int .i64 n] w0 (.int .i64 G)):=by
  intro w0;rw[hG];exact tQ n (by omega) w0
 have hGb:G<=8739:=by omega
 have HQ8:Hid (∀q,q<n->q/8<G):=fun q hq=>by omega
 have HC:=ac hc;have HSs:=ac hs;have HPs:=ac hp;have HSB:=ac hsb;have HPB:=ac hpb;have lgl:=hl.lt;have HS0:=ac s0;have HP0:=ac p0;clear hc hs hp hsb hpb hG s0 p0
 obtain⟨W,hW⟩:∃W,W=w.alloc (.cells #[.int .i64 0,.int .i64 0] 216):=⟨_,rfl⟩;have bW:=aM hW;have zW:W.heap.size=w.heap.size+1:=by rw[hW];simp
 have B1:Tb W 0 (vI bj):=HG.wd.kept bW;have L0:=HG.two;have B2:=aU hW;replace hl:=hl.kept bW;go_enter func153,ntmps153;go_wp2_with fail;rw[<-hW];refine(HGr.out _).mono ?_;rintro e w1 ⟨rfl,rfl⟩
 clear HGr hW;go_wp2_with (at_make;refine wpList_make_full _ rfl _ _ 214 rfl w1.heap.size 216 i0 (.agg #[.int .i64 0,.int .i64 0]) 2 underlying214 hi hz0 hz1 .i64 .i64 _ _ G rfl rfl rfl rfl ?b2 ?b3 ?b4 ?_)
 case b2=>rw[hz2];omega
 case b3=>unfold maxLen;omega
 case b4=>simp
 intro w2 hown hgr;have B3:=ry hown;have hb2:Below w1.heap.size w1 w2:=(Below.refl _ _).grown hgr (Nat.le_refl _) (fun k h=>by cases h);have bw2:=bg bW hb2;have z2:=hb2.size
 replace B1:=B1.kept hb2;replace B2:=B2.kept hb2;replace hl:=hl.kept hb2;rw[<-Dw G s p]at B3;have l3:=B3.lt;clear hown hgr hb2 hi hz0 hz1 hz2 bW;go_wp2;generalize hg3:w2.heap.size=g3 at *
 go_loopw [15] (fun t wr=>∃q:Nat,q<=n/\t=.int .i64 q/\Tb wr 0 (vI bj)/\aa wr w.heap.size [.int .i64 0,.int .i64 0] 216/\aa wr (w.heap.size+1) (cg G s p q) 216/\aa wr g3 [.int .i64 (s q:Nat),.int .i64 (p q:Nat)] 216/\aa wr gl (br n c o n) 235/\Below w.heap.size w wr) (fun t _=>n-(intOf t).toNat)
 case atStart=>
  have hb3:=below_alloc w2 (.cells #[.int .i64 0,.int .i64 0] 216);refine⟨0,Nat.zero_le _,rfl,B1.kept hb3,B2.kept hb3,B3.kept hb3,?_,hl.kept hb3,bw2.trans (hb3.mono (by omega))⟩;rw[HS0.out,HP0.out,<-hg3]
  exact aa.new w2 _ _
 case round=>
  obtain⟨q,hq,rfl,B1,B2,B3,B4,hl,hb⟩:=hrel;by_cases hqn:q<n
  .have hqn2:(q:Int)<(n:Int):=by omega
   have cq15:=HC.out q hqn;have sb:=HSB.out q hq;have pb:=HPB.out q hq;have kb:=jQ (c q) cq15;have h8:=HQ8.out q hqn
   have HBh:Hid (∀w0,Qq 223 #[.agg #[.int .i64 (s q:Nat),.int .i64 (p q:Nat)],.agg #[.int .i64 (c q:Nat),.int .u64 (o q:Nat)],.int .i64 (kwd (c q):Nat)] w0 (.agg #[.int .i64 (s (q+1):Nat),.int .i64 (p (q+1):Nat)])):=by
    intro w0;rw[HSs.out q hqn,HPs.out q hqn];exact tV (s q) (p q) (c q) (kwd (c q)) (o q) (by omega) (by omega) cq15 (by omega) w0
   have HWd:Hid ((vI bj)[c q]?=some (.int .i64 (kwd (c q):Nat))):=by
    show(vI bj)[c q]?=_;rw[pj bj (c q) (by rw[ql];omega),qE _ cq15]
   have x0:=hl.cell (q*2) (rI n c o q hqn);have x1:=hl.cell (q*2+1) (rH n c o q hqn);have SK:=Dy G s p q;have ST:=Dx G s p q;have M1:=uG G s p q (q/8) h8
   have M2:=uF G s p q (q/8) h8;have cli:((c q:Nat):Int)<16:=by omega
   have i8G:(q:Int)/8<(G:Int):=by omega
   generalize hs1:s (q+1)=s1 at *;generalize hp1:p (q+1)=p1 at *;generalize hc0:c q=cq at *;generalize ho0:o q=oq at *;generalize hsq:s q=sq at *;generalize hpq:p q=pq at *;generalize kwd cq=kq at *
   have m0:=B4.cell 0 rfl;have m1:=B4.cell 1 rfl;have l4:=B4.lt;have n0:=B3.cell _ M1;have n1:=B3.cell _ M2;have f0:=B3.frozen (q/8*2);have f1:=B3.frozen (q/8*2+1);have l3:=B3.lt;have zr:=hb.size
   by_cases e8:q%8=0
   .have e82:((q:Int)%8==0)=true:=by simp;omega
    go_wp2;have C3:=(B3.set (q/8*2) (.int .i64 sq)).set (q/8*2+1) (.int .i64 pq);rw[ST e8 h8]at C3
    have hO:aw (w.heap.size+1) wr ((wr.setCell ⟨w.heap.size+1,q/8*2,none⟩ (.int .i64 sq)).setCell ⟨w.heap.size+1,q/8*2+1,none⟩ (.int .i64 pq)):=((aw.refl _ wr).set _ _).set _ _
    generalize (wr.setCell ⟨w.heap.size+1,q/8*2,none⟩ (.int .i64 sq)).setCell ⟨w.heap.size+1,q/8*2+1,none⟩ (.int .i64 pq)=V0 at *;replace B1:=hO.tb B1 (by omega)
    replace B2:=hO.cel B2 (by omega);replace B4:=hO.cel B4 (by omega);replace hl:=hO.cel hl (by omega);have hb5:=hb.trans (hO.below (base:=w.heap.size) (by omega));have zO:=hO.size;clear hO B3 hb
    clear n0 n1 f0 f1 m0 m1 x0 x1 SK ST M1 M2;have hbA:=below_alloc V0 (.cells #[.int .i64 cq,.int .u64 oq] 235)
    have B5:aa (V0.alloc (.cells #[.int .i64 cq,.int .u64 oq] 235)) wr.heap.size [.int .i64 cq,.int .u64 oq] 235:=by rw[<-zO];exact aa.new V0 _ _
    replace B1:=B1.kept hbA;replace B2:=B2.kept hbA;replace B4:=B4.kept hbA;replace hl:=hl.kept hbA;replace C3:=C3.kept hbA;replace hb5:=bg hb5 hbA;have zA:=hbA.size;clear hbA
    generalize V0.alloc (.cells #[.int .i64 cq,.int .u64 oq] 235)=V at *
    refine aB [7] (fun w'=>Tb w' 0 (vI bj)/\aa w' g3 [.int .i64 sq,.int .i64 pq] 216/\aa w' wr.heap.size [.int .i64 cq,.int .u64 oq] 235) (by kernel_rfl) ?_
    have hS:Tb V.drew 0 (vI bj)/\aa V.drew g3 [.int .i64 sq,.int .i64 pq] 216/\aa V.drew wr.heap.size [.int .i64 cq,.int .u64 oq] 235:=⟨B1,B4,B5⟩
    replace B2:aa V.drew w.heap.size [.int .i64 0,.int .i64 0] 216:=B2;replace C3:aa V.drew (w.heap.size+1) (cg G s p (q+1)) 216:=C3;replace hl:aa V.drew gl (br n c o n) 235:=hl
    replace hb5:Below w.heap.size w V.drew:=hb5.drew;generalize V.drew=Y at *;clear B1 B4 B5
    refine aF 0 hS rfl (fun w0 h0=>by have c0:=h0.2.1.cell 0 rfl;have c1:=h0.2.1.cell 1 rfl;go_simp;try with_reducible rfl) ?_
    refine aF 1 hS rfl (fun w0 h0=>by have c0:=h0.2.2.cell 0 rfl;have c1:=h0.2.2.cell 1 rfl;go_simp;try with_reducible rfl) ?_;refine aK 2 hS ?_
    refine aF 3 hS rfl (fun w0 h0=>by have c0:=h0.2.2.cell 0 rfl;go_simp;try with_reducible rfl) ?_;refine aK 4 hS ?_
    refine aF 5 hS rfl (fun w0 h0=>by have c0:=h0.1.cell cq HWd.out;go_simp;try with_reducible rfl) ?_;refine aO 6 ?_;intro K hK;go_simp;refine mr (HBh.out _) fun w7 hb7=>?_
    have hS7:=And.intro (hS.1.kept hb7) (And.intro (hS.2.1.kept hb7) (hS.2.2.kept hb7));replace B2:=B2.kept hb7;replace C3:=C3.kept hb7;replace hl:=hl.kept hb7;replace hb5:=bg hb5 hb7;clear hb7 hS
    refine hK.out _ _ (fun _=>hS7) ?_;clear hK K;try simp only[Act.put,ak,aj,ai,ae,ah,ag]
    refine aO 7 ?_;intro K hK;obtain⟨B1,B4,B5⟩:=hS7;have f0:=B4.frozen 0;have f1:=B4.frozen 1;have c0:=B4.cell 0 rfl;have c1:=B4.cell 1 rfl
    have HQ:Hid (Tb w7 0 (vI bj)/\aa w7 w.heap.size [.int .i64 0,.int .i64 0] 216/\aa w7 (w.heap.size+1) (cg G s p (q+1)) 216/\aa w7 g3 [.int .i64 sq,.int .i64 pq] 216/\aa w7 gl (br n c o n) 235/\Below w.heap.size w w7):=⟨B1,B2,C3,B4,hl,hb5⟩
    clear B1 B2 C3 B4 B5 hl hb5;go_simp;refine hK.out _ _ (fun h=>absurd (by decide) h) ?_;clear hK K;try simp only[Act.put,ak,aj,ai,ae,ah,ag]
    refine aq.done (by kernel_rfl) ?_ _;go_wp2;obtain⟨B1,B2,C3,B4,hl,hb5⟩:=HQ.out
    refine⟨⟨q+1,by omega,by go_num,(B1.other (by show(0:Nat)≠g3;omega) _).other (by show(0:Nat)≠g3;omega) _,(B2.other (by show w.heap.size≠g3;omega) _).other (by show w.heap.size≠g3;omega) _,(C3.other (by show w.heap.size+1≠g3;omega) _).other (by show w.heap.size+1≠g3;omega) _,?_,(hl.other (by show gl≠g3;omega) _).other (by show gl≠g3;omega) _,(hb5.setCell (by show w.heap.size<=g3;omega) _).setCell (by show w.heap.size<=g3;omega) _⟩,by simp only[intOf];omega⟩
    rw[hs1,hp1];exact(B4.set 0 _).set 1 _
   .have e82:((q:Int)%8==0)=false:=by simp;omega
    go_wp2;have C3:=B3;rw[SK e8]at C3;obtain⟨V0,hV0⟩:∃V0,V0=wr:=⟨_,rfl⟩;have hb5:=hb;have zO:V0.heap.size=wr.heap.size:=by rw[hV0]
    rw[<-hV0]at B1 B2 B4 hl C3 hb5;rw[show wr.alloc (.cells #[.int .i64 cq,.int .u64 oq] 235)=V0.alloc (.cells #[.int .i64 cq,.int .u64 oq] 235)by rw[hV0]];clear B3 hb hV0
    clear n0 n1 f0 f1 m0 m1 x0 x1 SK ST M1 M2;have hbA:=below_alloc V0 (.cells #[.int .i64 cq,.int .u64 oq] 235)
    have B5:aa (V0.alloc (.cells #[.int .i64 cq,.int .u64 oq] 235)) wr.heap.size [.int .i64 cq,.int .u64 oq] 235:=by rw[<-zO];exact aa.new V0 _ _
    replace B1:=B1.kept hbA;replace B2:=B2.kept hbA;replace B4:=B4.kept hbA;replace hl:=hl.kept hbA;replace C3:=C3.kept hbA;replace hb5:=bg hb5 hbA;have zA:=hbA.size;clear hbA
    generalize V0.alloc (.cells #[.int .i64 cq,.int .u64 oq] 235)=V at *
    refine aB [7] (fun w'=>Tb w' 0 (vI bj)/\aa w' g3 [.int .i64 sq,.int .i64 pq] 216/\aa w' wr.heap.size [.int .i64 cq,.int .u64 oq] 235) (by kernel_rfl) ?_
    have hS:Tb V.drew 0 (vI bj)/\aa V.drew g3 [.int .i64 sq,.int .i64 pq] 216/\aa V.drew wr.heap.size [.int .i64 cq,.int .u64 oq] 235:=⟨B1,B4,B5⟩
    replace B2:aa V.drew w.heap.size [.int .i64 0,.int .i64 0] 216:=B2;replace C3:aa V.drew (w.heap.size+1) (cg G s p (q+1)) 216:=C3;replace hl:aa V.drew gl (br n c o n) 235:=hl
    replace hb5:Below w.heap.size w V.drew:=hb5.drew;generalize V.drew=Y at *;clear B1 B4 B5
    refine aF 0 hS rfl (fun w0 h0=>by have c0:=h0.2.1.cell 0 rfl;have c1:=h0.2.1.cell 1 rfl;go_simp;try with_reducible rfl) ?_
    refine aF 1 hS rfl (fun w0 h0=>by have c0:=h0.2.2.cell 0 rfl;have c1:=h0.2.2.cell 1 rfl;go_simp;try with_reducible rfl) ?_;refine aK 2 hS ?_
    refine aF 3 hS rfl (fun w0 h0=>by have c0:=h0.2.2.cell 0 rfl;go_simp;try with_reducible rfl) ?_;refine aK 4 hS ?_
    refine aF 5 hS rfl (fun w0 h0=>by have c0:=h0.1.cell cq HWd.out;go_simp;try with_reducible rfl) ?_;refine aO 6 ?_;intro K hK;go_simp;refine mr (HBh.out _) fun w7 hb7=>?_
    have hS7:=And.intro (hS.1.kept hb7) (And.intro (hS.2.1.kept hb7) (hS.2.2.kept hb7));replace B2:=B2.kept hb7;replace C3:=C3.kept hb7;replace hl:=hl.kept hb7;replace hb5:=bg hb5 hb7;clear hb7 hS
    refine hK.out _ _ (fun _=>hS7) ?_;clear hK K;try simp only[Act.put,ak,aj,ai,ae,ah,ag]
    refine aO 7 ?_;intro K hK;obtain⟨B1,B4,B5⟩:=hS7;have f0:=B4.frozen 0;have f1:=B4.frozen 1;have c0:=B4.cell 0 rfl;have c1:=B4.cell 1 rfl
    have HQ:Hid (Tb w7 0 (vI bj)/\aa w7 w.heap.size [.int .i64 0,.int .i64 0] 216/\aa w7 (w.heap.size+1) (cg G s p (q+1)) 216/\aa w7 g3 [.int .i64 sq,.int .i64 pq] 216/\aa w7 gl (br n c o n) 235/\Below w.heap.size w w7):=⟨B1,B2,C3,B4,hl,hb5⟩
    clear B1 B2 C3 B4 B5 hl hb5;go_simp;refine hK.out _ _ (fun h=>absurd (by decide) h) ?_;clear hK K;try simp only[Act.put,ak,aj,ai,ae,ah,ag]
    refine aq.done (by kernel_rfl) ?_ _;go_wp2;obtain⟨B1,B2,C3,B4,hl,hb5⟩:=HQ.out
    refine⟨⟨q+1,by omega,by go_num,(B1.other (by show(0:Nat)≠g3;omega) _).other (by show(0:Nat)≠g3;omega) _,(B2.other (by show w.heap.size≠g3;omega) _).other (by show w.heap.size≠g3;omega) _,(C3.other (by show w.heap.size+1≠g3;omega) _).other (by show w.heap.size+1≠g3;omega) _,?_,(hl.other (by show gl≠g3;omega) _).other (by show gl≠g3;omega) _,(hb5.setCell (by show w.heap.size<=g3;omega) _).setCell (by show w.heap.size<=g3;omega) _⟩,by simp only[intOf];omega⟩
    rw[hs1,hp1];exact(B4.set 0 _).set 1 _
  .obtain rfl:q=n:=by omega
   go_wp2;refine aB [3] (fun w'=>aa w' g3 [.int .i64 (s q:Nat),.int .i64 (p q:Nat)] 216) (by kernel_rfl) ?_;have hS:aa wr.drew g3 [.int .i64 (s q:Nat),.int .i64 (p q:Nat)] 216:=B4
   replace B2:aa wr.drew w.heap.size [.int .i64 0,.int .i64 0] 216:=B2;replace B3:aa wr.drew (w.heap.size+1) (cg G s p q) 216:=B3;replace hb:Below w.heap.size w wr.drew:=hb.drew;generalize wr.drew=Z at *
   clear B1 B4 hl;refine aK 0 hS ?_;refine aF 1 hS rfl (fun w0 h0=>by have c0:=h0.cell 0 rfl;have c1:=h0.cell 1 rfl;go_simp;try with_reducible rfl) ?_;refine aK 2 hS ?_;refine aO 3 ?_;intro K hK
   have f0:=B2.frozen 0;have f1:=B2.frozen 1;have n0:=B2.cell 0 rfl;have n1:=B2.cell 1 rfl;go_simp;refine hK.out _ _ (fun h=>absurd (by decide) h) ?_;clear hK K;try simp only[Act.put,ak,aj,ai,ae,ah,ag]
   refine aq.done (by kernel_rfl) ?_ _;clear f0 f1 n0 n1;go_wp2
   refine bodyPost_ret (AO rfl w.heap.size [.int .i64 (s q:Nat),.int .i64 (p q:Nat)] rfl ((B2.set 0 _).set 1 _) underlying216 vM) rfl ⟨w.heap.size+1,rfl,(B3.other (by show w.heap.size+1≠w.heap.size;omega) _).other (by show w.heap.size+1≠w.heap.size;omega) _,by omega,(hb.setCell (by show w.heap.size<=w.heap.size;omega) _).setCell (by show w.heap.size<=w.heap.size;omega) _⟩
theorem FF(n:Nat)(c:Nat->Nat)(hn:n<=69906)(hc:∀i,i<n->c i<=15):iK ((4:Nat):Int) ((List.range n).map c)=0:=by
 unfold iK;rw[if_neg];simp only[List.length_map,List.length_range];intro h;rcases h with h | h | h | h
 .omega
 .omega
 .omega
 .refine h fun j hj=>?_;rw[gt_map n c j hj];have:=hc j hj;exact(qu (c j) 4).2 (by omega)
theorem Fw:(prog.info? 38).map (·.size)=some 4:=by kernel_rfl
theorem Bt(n gl k:Nat)(c o:Nat->Nat)(w:World)(hn:n<=69906)(hl:aa w gl (br n c o n) 235)(hc:∀i,i<n->c i<=15)(hk:k=(n*4+63)/64):
  Calls prog 154 #[.slice (some ⟨gl,0,none⟩) n n] w fun e w'=>∃g,e=.returned (.agg #[.int .i64 n,.int .i64 4,.int .i64 ((n:Int)*4),.slice (some ⟨g,0,none⟩) k k])/\w.heap.size<=g/\Own w' g (mkS ((List.range n).map c) 4 n)/\Below w.heap.size w w':=by
 obtain⟨i0,hi,hz0,hz1,hz2⟩:=info_parts Tryz.info81
 have HM:Hid (∀w0,Wd w0 (some ⟨w.heap.size+1,0,none⟩) ((List.range n).map c)->Calls prog 224 #[.int .i64 4,.slice (some ⟨w.heap.size+1,0,none⟩) n n] w0 fun e w'=>∃g,e=.returned (.tuple #[.agg #[.int .i64 n,.int .i64 4,.int .i64 ((n:Int)*4),.slice (some ⟨g,0,none⟩) k k],.int .i64 0])/\w0.heap.size<=g/\Own w' g (mkS ((List.range n).map c) 4 n)/\Below w0.heap.size w0 w'):=by
  intro w0 hx
  have hf:Fit ((List.range n).map c):=by
   intro i;by_cases d:i<n
   .rw[gt_map n c i d];have:=hc i d;omega
   .rw[jr _ _ (by simp;omega)];decide
  have:=qh 4 (some ⟨w.heap.size+1,0,none⟩) ((List.range n).map c) n k w0 hx hf (FF n c hn hc) (by simp only[List.length_map,List.length_range];exact hk);simp only[List.length_map,List.length_range]at this
  exact this
 have HC:=ac hc;have lgl:=hl.lt;clear hc hk;obtain⟨W,hW⟩:∃W,W=w.alloc (.cells #[.int .i64 0,.int .i64 0,.int .i64 0,.slice none 0 0] 38):=⟨_,rfl⟩;have bW:=aM hW
 have zW:W.heap.size=w.heap.size+1:=by rw[hW];simp
 have B1:=aU hW;replace hl:=hl.kept bW;go_enter func154,ntmps154
 go_wp2_with (at_make;refine wpList_make_full _ rfl _ _ 31 rfl (w.heap.size+1) 81 i0 (.int .u64 0) 1 underlying31 hi hz0 hz1 .i64 .i64 _ _ n rfl rfl rfl rfl ?b2 ?b3 ?b4 ?_)
 case b2=>rw[hz2];omega
 case b3=>unfold maxLen;omega
 case b4=>simp
 intro w2 hown hgr;rw[<-hW]at hgr;have B2:Own w2 (w.heap.size+1) (List.replicate n 0):=own_made (by simpa using hown);have hb2:Below W.heap.size W w2:=(Below.refl _ _).grown hgr (Nat.le_refl _) (fun k h=>by cases h)
 have bw2:=bg bW hb2;replace B1:=B1.kept hb2;replace hl:=hl.kept hb2;rw[DG n c]at B2;have l2:=B2.lt;clear hown hgr hb2 hi hz0 hz1 hz2 bW hW zW;go_wp2
 go_loopw [13] (fun t wr=>∃q:Nat,q<=n/\t=.int .i64 q/\aa wr w.heap.size [.int .i64 0,.int .i64 0,.int .i64 0,.slice none 0 0] 38/\Own wr (w.heap.size+1) (g_ n c q)/\aa wr gl (br n c o n) 235/\Below w.heap.size w wr) (fun t _=>n-(intOf t).toNat)
 case atStart=>exact⟨0,Nat.zero_le _,rfl,B1,B2,hl,bw2⟩
 case round=>
  obtain⟨q,hq,rfl,B1,B2,hl,hb⟩:=hrel;by_cases hqn:q<n
  .have hqn2:(q:Int)<(n:Int):=by omega
   have cq15:=HC.out q hqn;have x0:=hl.cell (q*2) (rI n c o q hqn);have x1:=hl.cell (q*2+1) (rH n c o q hqn);have n0:=B2.cell q (by rw[ky];exact hqn);have f0:=B2.frozen q;have l3:=B2.lt
   have ST:=ac (DH n c q hqn);generalize hc0:c q=cq at *;generalize ho0:o q=oq at *;have u1:IntKind.u64.wrap (cq:Int)=(cq:Int):=by rw[IntKind.wrap_u64];omega
   go_wp2;have C2:=B2.set q cq;rw[ST.out]at C2;have zr:=hb.size
   have hB3:Below w.heap.size w ((wr.setCell ⟨w.heap.size+1,q,none⟩ (.int .u64 cq)).alloc (.cells #[.int .i64 cq,.int .u64 oq] 235)):=(hb.setCell (by show w.heap.size<=w.heap.size+1;omega) _).alloc (by simp;omega) _
   have hA:=below_alloc (wr.setCell ⟨w.heap.size+1,q,none⟩ (.int .u64 cq)) (.cells #[.int .i64 cq,.int .u64 oq] 235)
   exact⟨⟨q+1,by omega,by go_num,(B1.other (by show w.heap.size≠w.heap.size+1;omega) _).kept hA,C2.keep hA,(hl.other (by show gl≠w.heap.size+1;omega) _).kept hA,hB3⟩,by simp only[intOf];omega⟩
  .obtain rfl:q=n:=by omega
   rw[uT]at B2;have HMw:=HM.out wr B2.wd;have HM2:=ac HMw;clear HM HMw;go_wp2_with fail;refine HM2.out.mono ?_;rintro e w5 ⟨g,rfl,hg,hO,hb5⟩;have lw:=B1.lt;replace B1:=B1.kept hb5
   have bw5:=bg hb hb5;have zr:=hb.size;have l5:=B1.lt;have f0:=B1.frozen 0;have f1:=B1.frozen 1;have f2:=B1.frozen 2;have f3:=B1.frozen 3;have n0:=B1.cell 0 rfl;have n1:=B1.cell 1 rfl
   have n2:=B1.cell 2 rfl;have n3:=B1.cell 3 rfl;have HO:=ac hO;have lO:=hO.lt;clear hO hb5 hl B2 HM2 hb;go_wp2
   refine bodyPost_ret (fM rfl w.heap.size [.int .i64 q,.int .i64 4,.int .i64 ((q:Int)*4),.slice (some ⟨g,0,none⟩) k k] rfl (((((B1.set 0 _).set 1 _).set 2 _).set 3 _).alloc _) underlying38 Fw) rfl ⟨g,rfl,by omega,?_,?_⟩
   .refine Own.keep ((((HO.out.set_other ?_ _).set_other ?_ _).set_other ?_ _).set_other ?_ _) (below_alloc _ _)
    .show g≠w.heap.size;omega
    .show g≠w.heap.size;omega
    .show g≠w.heap.size;omega
    .show g≠w.heap.size;omega
   .refine Below.alloc ((((bw5.setCell ?_ _).setCell ?_ _).setCell ?_ _).setCell ?_ _) ?_ _
    .exact Nat.le_refl _
    .exact Nat.le_refl _
    .exact Nat.le_refl _
    .exact Nat.le_refl _
    .simp;omega
theorem Bo(n gl L k:Nat)(c o p:Nat->Nat)(F:Nat->Bool)(w:World)(hn:n<=69906)(hl:aa w gl (br n c o n) 235)(hc:∀i,i<n->c i<=15)(p0:p 0=0)(hp:∀i,i<n->p (i+1)=p i+kwd (c i))(hpL:∀i,i<n->p (i+1)<=L)(hL:p n=L)(hLb:L<=1048576)(ho:∀i,i<n->o i<2^kwd (c i))(hF:∀i,i<n->∀t,t<kwd (c i)->(o i).testBit t=F (p i+t))(hk:k=(L+63)/64)(HG:GV w):
  Calls prog 155 #[.slice (some ⟨gl,0,none⟩) n n,.int .i64 L] w fun e w'=>∃g,e=.returned (.agg #[.int .i64 L,.slice (some ⟨g,0,none⟩) k k])/\w.heap.size<=g/\Own w' g (rowOf L F)/\Below w.heap.size w w':=by
 have HN:Hid (∀w0,Calls prog 198 #[.int .i64 L] w0 fun e w'=>∃g,e=.returned (.agg #[.int .i64 L,.slice (some ⟨g,0,none⟩) k k])/\w0.heap.size<=g/\Own w' g (rowP L F (p 0))/\Below w0.heap.size w0 w'):=by
  intro w0;rw[p0,tD];exact tN L k hLb hk w0
 have HLy:Hid (∀(g q:Nat) w0,q<n->Own w0 g (rowP L F (p q))->Calls prog 201 #[.slice (some ⟨g,0,none⟩) k k,.int .i64 (p q:Nat),.int .u64 (o q:Nat)] w0 fun e w'=>e=.returned (.tuple #[])/\Own w' g (rowP L F (p (q+1)))/\aL g w0 w'):=by
  intro g q w0 hq h0;have kb:=jQ (c q) (hc q hq);have h1:=hp q hq;have h2:=hpL q hq;have o2:=ho q hq
  have o64:o q<18446744073709551616:=Nat.lt_of_lt_of_le o2 (Nat.pow_le_pow_right (n:=2) (j:=64) (by decide) (by omega))
  have:=tP (rowP L F (p q)) k g k (p q) (o q) w0 (by rw[length_rowP,hk]) h0 (by omega) (q9 _ _ _) o64 (pJ L F (p q) (kwd (c q)) (o q) (by omega) (by omega) o2)
  rw[tE L F (p q) (kwd (c q)) (o q) (by omega) (by omega) o2 (hF q hq),<-h1]at this;exact this
 have HC:=ac hc;have HPs:=ac hp
 have HPL:Hid (∀i,i<=n->p i<=L):=fun i hi=>by
  by_cases z:i=0
  .rw[z,p0];omega
  .have:=hpL (i-1) (by omega);rw[show i-1+1=i by omega]at this;exact this
 have HLn:Hid (rowP L F (p n)=rowOf L F):=by
  show rowP L F (p n)=rowOf L F;rw[hL,AF]
 have HP0:=ac p0;have lgl:=hl.lt;clear hc hp hpL hL ho hF hk p0;obtain⟨W,hW⟩:∃W,W=w.alloc (.cells #[.int .i64 0,.slice none 0 0] 33):=⟨_,rfl⟩;have bW:=aM hW
 have zW:W.heap.size=w.heap.size+1:=by rw[hW];simp
 have B1:Tb W 0 (vI bj):=HG.wd.kept bW;have L0:=HG.two;have B2:=aU hW;replace hl:=hl.kept bW;go_enter func155,ntmps155;go_wp2_with fail;rw[<-hW];refine(HN.out _).mono ?_;rintro e w2 ⟨g,rfl,hg,hO,hb⟩
 have bw2:=bg bW hb;have z2:=hb.size;replace B1:=B1.kept hb;replace B2:=B2.kept hb;replace hl:=hl.kept hb;have lg:=hO.lt;have HO:=ac hO;clear hb hW bW HN hO;go_wp2
 go_loopw [6,13] (fun a t wr=>∃q:Nat,q<=n/\t=.int .i64 q/\a=.int .i64 (p q:Nat)/\Tb wr 0 (vI bj)/\aa wr w.heap.size [.int .i64 0,.slice none 0 0] 33/\aa wr w2.heap.size [.int .i64 L,.slice (some ⟨g,0,none⟩) k k] 33/\Own wr g (rowP L F (p q))/\aa wr gl (br n c o n) 235/\Below w.heap.size w wr) (fun _ t _=>n-(intOf t).toNat)
 case atStart=>
  have hA:=below_alloc w2 (.cells #[.int .i64 L,.slice (some ⟨g,0,none⟩) k k] 33)
  exact⟨0,Nat.zero_le _,rfl,by rw[HP0.out];rfl,B1.kept hA,B2.kept hA,aa.new w2 _ _,HO.out.keep hA,hl.kept hA,bg bw2 hA⟩
 case round=>
  obtain⟨q,hq,rfl,rfl,B1,B2,B3,hO,hl,hb⟩:=hrel;clear HO;by_cases hqn:q<n
  .have hqn2:(q:Int)<(n:Int):=by omega
   have cq15:=HC.out q hqn;have pq:=HPL.out q hq;have kb:=jQ (c q) cq15
   have HLq:Hid (∀w0,Own w0 g (rowP L F (p q))->Calls prog 201 #[.slice (some ⟨g,0,none⟩) k k,.int .i64 (p q:Nat),.int .u64 (o q:Nat)] w0 fun e w'=>e=.returned (.tuple #[])/\Own w' g (rowP L F (p (q+1)))/\aL g w0 w'):=fun w0 h0=>HLy.out g q w0 hqn h0
   have HWd:Hid ((vI bj)[c q]?=some (.int .i64 (kwd (c q):Nat))):=by
    show(vI bj)[c q]?=_;rw[pj bj (c q) (by rw[ql];omega),qE _ cq15]
   have x0:=hl.cell (q*2) (rI n c o q hqn);have x1:=hl.cell (q*2+1) (rH n c o q hqn);have hps:=ac (HPs.out q hqn);have cli:((c q:Nat):Int)<16:=by omega
   generalize hp1:p (q+1)=p1 at *;generalize hc0:c q=cq at *;generalize ho0:o q=oq at *;generalize hpq:p q=pq' at *;generalize kwd cq=kq at *;have r1:=B3.cell 1 rfl;have l3:=B3.lt;have lgr:=hO.lt
   have zr:=hb.size;obtain⟨U,hU⟩:∃U,U=wr.alloc (.cells #[.int .i64 cq,.int .u64 oq] 235):=⟨_,rfl⟩;have hbU:Below wr.heap.size wr U:=by rw[hU];exact below_alloc wr _
   have B5:aa U wr.heap.size [.int .i64 cq,.int .u64 oq] 235:=by rw[hU];exact aa.new wr _ _
   replace B1:=B1.kept hbU;replace B2:=B2.kept hbU;replace B3:=B3.kept hbU;replace hl:=hl.kept hbU;have hO2:=hO.keep hbU;have bU:=bg hb hbU;clear HLy hbU hO;go_wp2_with fail;rw[<-hU]
   refine(HLq.out _ hO2).mono ?_;rintro e w4 ⟨rfl,hO4,hT⟩;replace B1:=hT.tb B1 (by omega);replace B2:=hT.cel B2 (by omega);replace B3:=hT.cel B3 (by omega);replace B5:=hT.cel B5 (by omega)
   replace hl:=hT.cel hl (by omega);have b4:=bU.trans (hT.below (B:=w.heap.size) (by omega));have c0:=B5.cell 0 rfl;have wd:=B1.cell cq HWd.out;clear hT hU HLq x0 x1 r1 hO2 bU;go_wp2
   refine⟨⟨q+1,by omega,by go_num,?_,B1,B2,B3,by rw[hp1];exact hO4,hl,b4⟩,by simp only[intOf];omega⟩;rw[hp1,hps.out];exact congrArg (Value.int IntKind.i64) (by omega)
  .obtain rfl:q=n:=by omega
   have r0:=B3.cell 0 rfl;have r1:=B3.cell 1 rfl;have f0:=B2.frozen 0;have f1:=B2.frozen 1;have n0:=B2.cell 0 rfl;have n1:=B2.cell 1 rfl;rw[HLn.out]at hO;clear HLy HLn;go_wp2
   refine bodyPost_ret (fM rfl w.heap.size [.int .i64 L,.slice (some ⟨g,0,none⟩) k k] rfl ((B2.set 0 _).set 1 _) underlying33 nh) rfl ⟨g,rfl,by omega,(hO.set_other (by show g≠w.heap.size;omega) _).set_other (by show g≠w.heap.size;omega) _,(hb.setCell (by show w.heap.size<=w.heap.size;omega) _).setCell (by show w.heap.size<=w.heap.size;omega) _⟩
structure QB (V wr:World) (gx:Nat) (c0 c1 c2 c3 c4 c5 c6 sv tv:Value) (J T m:Nat) (f:Nat->Bool):Prop where
 bx:aa wr gx [c0,c1,c2,c3,c4,c5,c6,sv,tv] 40
 lt:gx<V.heap.size
 sz:V.heap.size<=wr.heap.size
 hb:Below gx V wr
 same:∀k,k<V.heap.size->k≠gx->wr.heap[k]?=V.heap[k]?
 o1:wr.ownsRow V.heap.size 3 1 sv J (cG (de m f J))
 o2:wr.ownsRow V.heap.size 3 1 tv T (cG (dd m f T))
 ap:Ap.Apart sv tv
theorem QB.keep{V wr w':World}{gx:Nat}{c0 c1 c2 c3 c4 c5 c6 sv tv:Value}{J T m:Nat}{f:Nat->Bool}(h:QB V wr gx c0 c1 c2 c3 c4 c5 c6 sv tv J T m f)(hb:Below wr.heap.size wr w'):QB V w' gx c0 c1 c2 c3 c4 c5 c6 sv tv J T m f:=
 ⟨h.bx.kept hb,h.lt,Nat.le_trans h.sz hb.size,h.hb.trans (hb.mono (Nat.le_of_lt h.bx.lt)),fun k h1 h2=>(hb.block k (Nat.lt_of_lt_of_le h1 h.sz)).trans (h.same k h1 h2),Ap.owns_below h.o1 hb,Ap.owns_below h.o2 hb,h.ap⟩
theorem QB.one{V wr w2:World}{gx:Nat}{c0 c1 c2 c3 c4 c5 c6 sv tv u:Value}{J T m:Nat}{f:Nat->Bool}(h:QB V wr gx c0 c1 c2 c3 c4 c5 c6 sv tv J T m f)(ho:w2.ownsRow V.heap.size 3 1 u (J+1) (cG (de m f (J+1))))(hB:Below V.heap.size wr w2)
  (hblk:∀k,u.ownBlock=some k->(sv.ownBlock=some k\/k=wr.heap.size)/\k<w2.heap.size) (hkeep:∀k,k<wr.heap.size->sv.ownBlock≠some k->w2.heap[k]?=wr.heap[k]?):
  QB V (w2.setCell ⟨gx,7,none⟩ u) gx c0 c1 c2 c3 c4 c5 c6 u tv (J+1) T m f:=by
 have hs:(w2.setCell ⟨gx,7,none⟩ u).heap.size=w2.heap.size:=by simp[World.setCell]
 exact⟨(h.bx.keep hB h.lt).set 7 u,h.lt,by rw[hs];exact Nat.le_trans h.sz hB.size,(h.hb.trans (hB.mono (Nat.le_of_lt h.lt))).setCell (Nat.le_refl _) _,fun k h1 h2=>(Below.heap_setCell w2 ⟨gx,7,none⟩ u k h2).trans ((hB.block k h1).trans (h.same k h1 h2)),nB ho h.lt,nB (Ap.owns_other h.o2 hkeep h.ap.symm) h.lt,(Ap.apart_new h.o2 hblk h.ap.symm).symm⟩
theorem QB.two{V wr w2:World}{gx:Nat}{c0 c1 c2 c3 c4 c5 c6 sv tv u:Value}{J T m:Nat}{f:Nat->Bool}(h:QB V wr gx c0 c1 c2 c3 c4 c5 c6 sv tv J T m f)(ho:w2.ownsRow V.heap.size 3 1 u (T+1) (cG (dd m f (T+1))))(hB:Below V.heap.size wr w2)
  (hblk:∀k,u.ownBlock=some k->(tv.ownBlock=some k\/k=wr.heap.size)/\k<w2.heap.size) (hkeep:∀k,k<wr.heap.size->tv.ownBlock≠some k->w2.heap[k]?=wr.heap[k]?):
  QB V (w2.setCell ⟨gx,8,none⟩ u) gx c0 c1 c2 c3 c4 c5 c6 sv u J (T+1) m f:=by
 have hs:(w2.setCell ⟨gx,8,none⟩ u).heap.size=w2.heap.size:=by simp[World.setCell]
 exact⟨(h.bx.keep hB h.lt).set 8 u,h.lt,by rw[hs];exact Nat.le_trans h.sz hB.size,(h.hb.trans (hB.mono (Nat.le_of_lt h.lt))).setCell (Nat.le_refl _) _,fun k h1 h2=>(Below.heap_setCell w2 ⟨gx,8,none⟩ u k h2).trans ((hB.block k h1).trans (h.same k h1 h2)),nB (Ap.owns_other h.o1 hkeep h.ap) h.lt,nB ho h.lt,Ap.apart_new h.o1 hblk h.ap⟩
theorem py{ops:Array Oper}{d:Option Tmp}{ty T:TypeId}{ps:String}{af:Array Edge}{a:Act}{w:World}{K:Act->World->Prop}{Q:Exit->Act->World->Prop}{E:Prop}{x y:Operand}
  (g:Nat) (old cs:List Value) (hx:a.eval x=.pointer (some ⟨g,0,none⟩)) (hy:a.eval y=.agg cs.toArray) (hc:aa w g old T) (lo:old.length=cs.length) (hi:(prog.info? T).map (·.size)=some cs.length) (h1:cs.toArray.all (·.oneCell')=true)
  (h:∀w1,aa w1 g cs T->aw g w w1->K (a.put d undef) w1):
  if Region.wanted (⟨d,.store T x y,ty,ps,af,none⟩:Oper) (yielded ops a.tmps)=true then Oper.wp prog (⟨d,.store T x y,ty,ps,af,none⟩:Oper) a w K Q else E:=by
 rw[if_pos (by simp[Region.wanted])];exact wp_store_row _ x y rfl g cs.toArray hx hy _ _ hc (by simpa using hi) (by simpa using lo) h1 (h _ (setRow_heap w g _ _ _ _ hc) (aw.row g w _))
structure QV (w V:World) (gx g1 g2 gm:Nat) (c0 c1 c2 c3 c4 c5 c6:Value) (C O:List Nat) (MK:List Value):Prop where
 bx:aa V gx [c0,c1,c2,c3,c4,c5,c6,.slice none 0 0,.slice none 0 0] 40
 o1:Own V g1 C
 o2:Own V g2 O
 mks:aa V gm MK 216
 z:aa V (w.heap.size+1) [.int .i64 0,.int .i64 0,.int .i64 0,.int .i64 0,.slice none 0 0,.int .i64 0,.slice none 0 0,.slice none 0 0,.slice none 0 0] 40
 hb:Below w.heap.size w V
 n1:g1≠gx
 n2:g2≠gx
 n3:gm≠gx
 n4:w.heap.size+1<gx
theorem Ds(m:Nat)(f:Nat->Bool):∀d j,bat m f j<=bat m f (j+d):=by
 intro d;induction d with
 | zero=>intro j;exact Nat.le_refl _
 | succ d ih=>intro j;have:=ih j;rw[show j+(d+1)=j+d+1 by omega,bat];omega
theorem eM:(prog.info? 40).map (·.size)=some 9:=by kernel_rfl
theorem Bv(m:Nat)(ao:Option Addr)(xs:List Nat)(cap:Nat)(w:World)(hx:Wd w ao xs)(hf:Fit xs)(hk:ar (m:Int) xs=true)(hm:m<=1048576)(G:GV w):
  Calls prog 92 #[.agg #[.int .i64 m,.slice ao xs.length cap]] w fun e w'=>∃g1 k1 g2 k2 so sc tO tc,e=.returned (.tuple #[.agg #[.int .i64 m,.int .i64 (nb m:Nat),.int .i64 4,.int .i64 ((nb m:Int)*4),.slice (some ⟨g1,0,none⟩) k1 k1,.int .i64 (bat m (bitAt xs) (nb m):Nat),.slice (some ⟨g2,0,none⟩) k2 k2,.slice so (gN m) sc,.slice tO (gN m) tc],.int .i64 0])/\
   k1=(nb m*4+63)/64/\k2=(bat m (bitAt xs) (nb m)+63)/64/\Wd w' (some ⟨g1,0,none⟩) (rC m (bitAt xs))/\Wd w' (some ⟨g2,0,none⟩) (rO m (bitAt xs))/\Nd w' so (rS m (bitAt xs))/\Nd w' tO (rT m (bitAt xs))/\gN m<=sc/\gN m<=tc/\Below w.heap.size w w'/\Fr w.heap.size so/\Fr w.heap.size tO:=by
 obtain⟨i0,hi,hz0,hz1,hz2⟩:=info_parts FE;have nbl:=gK m hm;have btl:=jA m (bitAt xs) (nb m)
 obtain⟨W,hW⟩:∃W,W=(w.alloc (.cells #[.int .i64 m,.slice ao xs.length cap] 33)).alloc (.cells #[.int .i64 0,.int .i64 0,.int .i64 0,.int .i64 0,.slice none 0 0,.int .i64 0,.slice none 0 0,.slice none 0 0,.slice none 0 0] 40):=⟨_,rfl⟩
 have bW:=cW hW;have zW:W.heap.size=w.heap.size+2:=by rw[hW];simp
 have B1:=eU hW;have B2:=dE hW
 have C1:Hid (Qz w 147 #[.agg #[.int .i64 m,.slice ao xs.length cap]] (.bool true)):=fun w0 h=>by
  have:=bi (m:Int) ao xs cap w0 (hx.keep h);rw[hk]at this;exact this
 have C2:Hid (∀w0,Below w.heap.size w w0->Calls prog 152 #[.agg #[.int .i64 m,.slice ao xs.length cap]] w0 fun e w'=>∃g,e=.returned (.slice (some ⟨g,0,none⟩) (nb m) (nb m))/\aa w' g (br (nb m) (bcl m (bitAt xs)) (bof m (bitAt xs)) (nb m)) 235/\w0.heap.size<=g/\Below w0.heap.size w0 w'):=fun w0 h=>Bm m ao xs cap w0 hm (hx.keep h) hf hk
 have C4:Hid (∀gl w0,aa w0 gl (br (nb m) (bcl m (bitAt xs)) (bof m (bitAt xs)) (nb m)) 235->GV w0->Calls prog 153 #[.slice (some ⟨gl,0,none⟩) (nb m) (nb m)] w0 fun e w'=>∃g,e=.returned (.tuple #[.slice (some ⟨g,0,none⟩) (gN m) (gN m),.agg #[.int .i64 (bon m (bitAt xs) (nb m):Nat),.int .i64 (bat m (bitAt xs) (nb m):Nat)]])/\aa w' g (cg (gN m) (bon m (bitAt xs)) (bat m (bitAt xs)) (nb m)) 216/\w0.heap.size<=g/\Below w0.heap.size w0 w'):=fun gl w0 h hG=>Bp (nb m) (gN m) gl _ _ (bon m (bitAt xs)) (bat m (bitAt xs)) w0 nbl rfl h (fun i _=>iU _ _ _) rfl rfl (fun i _=>rfl) (fun i _=>rfl) (fun i _=>xz _ _ _) (fun i _=>jA _ _ _) hG
 obtain⟨k1,hk1⟩:∃k1,k1=(nb m*4+63)/64:=⟨_,rfl⟩;obtain⟨k2,hk2⟩:∃k2,k2=(bat m (bitAt xs) (nb m)+63)/64:=⟨_,rfl⟩
 have C5:Hid (∀gl w0,aa w0 gl (br (nb m) (bcl m (bitAt xs)) (bof m (bitAt xs)) (nb m)) 235->Calls prog 154 #[.slice (some ⟨gl,0,none⟩) (nb m) (nb m)] w0 fun e w'=>∃g,e=.returned (.agg #[.int .i64 (nb m:Nat),.int .i64 4,.int .i64 ((nb m:Int)*4),.slice (some ⟨g,0,none⟩) k1 k1])/\w0.heap.size<=g/\Own w' g (rC m (bitAt xs))/\Below w0.heap.size w0 w'):=fun gl w0 h=>Bt (nb m) gl k1 _ _ w0 nbl h (fun i _=>iU _ _ _) hk1
 have C6:Hid (∀gl w0,aa w0 gl (br (nb m) (bcl m (bitAt xs)) (bof m (bitAt xs)) (nb m)) 235->GV w0->Calls prog 155 #[.slice (some ⟨gl,0,none⟩) (nb m) (nb m),.int .i64 (bat m (bitAt xs) (nb m):Nat)] w0 fun e w'=>∃g,e=.returned (.agg #[.int .i64 (bat m (bitAt xs) (nb m):Nat),.slice (some ⟨g,0,none⟩) k2 k2])/\w0.heap.size<=g/\Own w' g (rO m (bitAt xs))/\Below w0.heap.size w0 w'):=by
  intro gl w0 h hG
  have:=Bo (nb m) gl (bat m (bitAt xs) (nb m)) k2 _ _ (bat m (bitAt xs)) (fun j=>(eB m (bitAt xs) (nb m)).getD j false) w0 nbl h (fun i _=>iU _ _ _) rfl (fun i _=>rfl) (fun i hi=>by
   have:=Ds m (bitAt xs) (nb m-(i+1)) (i+1);rwa [show i+1+(nb m-(i+1))=nb m by omega]at this) rfl (by omega) (fun i _=>oP m (bitAt xs) i) (fun i hi t ht=>by
   have g:=rE m (bitAt xs) (nb m) i t hi ht;show _=(eB m (bitAt xs) (nb m)).getD (bat m (bitAt xs) i+t) false;rw[List.getD_eq_getElem?_getD,g]
   rfl) hk2 hG
  rw[<-kU m (bitAt xs)]at this;exact this
 have MG1:Hid (∀j,j<gN m->(cg (gN m) (bon m (bitAt xs)) (bat m (bitAt xs)) (nb m))[j*2]?=some (.int .i64 (bon m (bitAt xs) (8*j):Nat))):=by
  intro j hj;rw[uG _ _ _ _ _ hj];by_cases c:j=0
  .subst c;by_cases d:8*0<nb m<;>simp[d]<;>rfl
  .rw[if_pos (ju m j hj c)]
 have MG2:Hid (∀j,j<gN m->(cg (gN m) (bon m (bitAt xs)) (bat m (bitAt xs)) (nb m))[j*2+1]?=some (.int .i64 (bat m (bitAt xs) (8*j):Nat))):=by
  intro j hj;rw[uF _ _ _ _ _ hj];by_cases c:j=0
  .subst c;by_cases d:8*0<nb m<;>simp[d]<;>rfl
  .rw[if_pos (ju m j hj c)]
 have gl8:gN m<=8739:=by unfold gN;omega
 have HK1:=ac hk1;have HK2:=ac hk2;clear hx hf hk hk1 hk2;go_enter func92,ntmps92;go_wp2_with fail;rw[<-hW];refine mr (C1.out _ bW) fun w1 hb=>?_;have bw1:=bg bW hb
 have z1:=hb.size;replace B1:=B1.kept hb;replace B2:=B2.kept hb;have r0:=B1.cell 0 rfl;have r1:=B1.cell 1 rfl;clear hb C1 hW bW;go_wp2_with fail;refine(C2.out _ bw1).mono ?_;rintro e w2 ⟨gl,rfl,hl,hgl,hb⟩
 have bw2:=bg bw1 hb;have z2:=hb.size;replace B1:=B1.kept hb;replace B2:=B2.kept hb;have lgl:=hl.lt;clear hb C2 bw1 r0 r1;go_wp2_with fail;refine(C4.out gl _ hl (G.kept bw2)).mono ?_
 rintro e w6 ⟨gm,rfl,hmk,hgm,hb⟩;have bw6:=bg bw2 hb;have z6:=hb.size;replace B1:=B1.kept hb;replace B2:=B2.kept hb;have B4:GV w6:=G.kept bw6;replace hl:=hl.kept hb;have lgm:=hmk.lt
 clear hb C4 bw2 G;go_wp2;have hb7:=below_alloc w6 (.cells #[.int .i64 (bon m (bitAt xs) (nb m):Nat),.int .i64 (bat m (bitAt xs) (nb m):Nat)] 216)
 have B5:=aa.new w6 [.int .i64 (bon m (bitAt xs) (nb m):Nat),.int .i64 (bat m (bitAt xs) (nb m):Nat)] 216;replace B1:=B1.kept hb7;replace B2:=B2.kept hb7;replace B4:=B4.kept hb7;replace hl:=hl.kept hb7
 replace hmk:=hmk.kept hb7;have bw7:=bg bw6 hb7;have z7:=hb7.size;clear hb7 bw6
 generalize hV7:w6.alloc (.cells #[.int .i64 (bon m (bitAt xs) (nb m):Nat),.int .i64 (bat m (bitAt xs) (nb m):Nat)] 216)=V7 at *
 refine aB [10] (fun w'=>aa w' w.heap.size [.int .i64 m,.slice ao xs.length cap] 33/\GV w'/\aa w' w6.heap.size [.int .i64 (bon m (bitAt xs) (nb m):Nat),.int .i64 (bat m (bitAt xs) (nb m):Nat)] 216) (by kernel_rfl) ?_
 have hS:aa V7.drew w.heap.size [.int .i64 m,.slice ao xs.length cap] 33/\GV V7.drew/\aa V7.drew w6.heap.size [.int .i64 (bon m (bitAt xs) (nb m):Nat),.int .i64 (bat m (bitAt xs) (nb m):Nat)] 216:=⟨B1,B4.kept ((Below.refl _ _).drew),B5⟩
 replace B2:aa V7.drew (w.heap.size+1) [.int .i64 0,.int .i64 0,.int .i64 0,.int .i64 0,.slice none 0 0,.int .i64 0,.slice none 0 0,.slice none 0 0,.slice none 0 0] 40:=B2
 replace hl:aa V7.drew gl (br (nb m) (bcl m (bitAt xs)) (bof m (bitAt xs)) (nb m)) 235:=hl;replace hmk:aa V7.drew gm (cg (gN m) (bon m (bitAt xs)) (bat m (bitAt xs)) (nb m)) 216:=hmk
 replace bw7:Below w.heap.size w V7.drew:=bw7.drew;have z8:w6.heap.size<V7.drew.heap.size:=B5.lt;generalize V7.drew=Y at *;clear B1 B4 B5 hV7;refine aK 0 hS ?_
 refine aF 1 hS rfl (fun w0 h0=>by have c0:=h0.1.cell 0 rfl;go_simp;try with_reducible rfl) ?_;refine aK 2 hS ?_;refine aK 4 hS ?_;refine aK 5 hS ?_
 refine aF 6 hS rfl (fun w0 h0=>by have c0:=h0.2.2.cell 1 rfl;go_simp;try with_reducible rfl) ?_;refine aq.two 3 9 (by kernel_rfl) rfl rfl ?_ ?_
 .intro K hK;go_simp;refine(C5.out gl _ hl).mono ?_;rintro e wA ⟨g1,rfl,hg1,hO1,hb⟩;have zA:=hb.size;have lO1:=hO1.lt;replace hS:=And.intro (hS.1.kept hb) (And.intro (hS.2.1.kept hb) (hS.2.2.kept hb))
  replace B2:=B2.kept hb;replace hl:=hl.kept hb;replace hmk:=hmk.kept hb;replace bw7:=bg bw7 hb;clear hb;refine hK.out _ _ (fun _=>hS) ?_;clear hK K
  try simp only[Act.put,ak,aj,ai,ae,ah,ag]
  refine aq.two 7 9 (by kernel_rfl) rfl rfl ?_ ?_
  .intro K hK;go_simp;refine(C6.out gl _ hl hS.2.1).mono ?_;rintro e wB ⟨g2,rfl,hg2,hO2,hb⟩;have zB:=hb.size;have lO2:=hO2.lt;replace hS:=And.intro (hS.1.kept hb) (And.intro (hS.2.1.kept hb) (hS.2.2.kept hb))
   replace B2:=B2.kept hb;replace hl:=hl.kept hb;replace hmk:=hmk.kept hb;replace bw7:=bg bw7 hb;replace hO1:=hO1.keep hb;clear hb;refine hK.out _ _ (fun _=>hS) ?_;clear hK K
   try simp only[Act.put,ak,aj,ai,ae,ah,ag]
   refine aK 8 hS ?_;refine aO 9 ?_;intro K hK;go_simp
   have hb:=below_alloc wB (.cells #[.int .i64 0,.int .i64 0,.int .i64 0,.int .i64 0,.slice none 0 0,.int .i64 0,.slice none 0 0,.slice none 0 0,.slice none 0 0] 40)
   have B6:=aa.new wB [.int .i64 0,.int .i64 0,.int .i64 0,.int .i64 0,.slice none 0 0,.int .i64 0,.slice none 0 0,.slice none 0 0,.slice none 0 0] 40
   have zX:(wB.alloc (.cells #[.int .i64 0,.int .i64 0,.int .i64 0,.int .i64 0,.slice none 0 0,.int .i64 0,.slice none 0 0,.slice none 0 0,.slice none 0 0] 40)).heap.size=wB.heap.size+1:=by simp
   replace hS:=And.intro (hS.1.kept hb) (And.intro (hS.2.1.kept hb) (hS.2.2.kept hb));replace B2:=B2.kept hb;replace hl:=hl.kept hb;replace hmk:=hmk.kept hb;replace bw7:=bg bw7 hb
   replace hO1:=hO1.keep hb;replace hO2:=hO2.keep hb;obtain⟨gx,hgx⟩:∃gx,gx=wB.heap.size:=⟨_,rfl⟩;rw[<-hgx]at B6;rw[<-hgx]
   generalize wB.alloc (.cells #[.int .i64 0,.int .i64 0,.int .i64 0,.int .i64 0,.slice none 0 0,.int .i64 0,.slice none 0 0,.slice none 0 0,.slice none 0 0] 40)=wX at *;have hgx1:gx<=wB.heap.size:=by omega
   have hgx2:wB.heap.size<=gx:=by omega
   clear hb hgx;refine hK.out _ _ (fun _=>hS) ?_;clear hK K;try simp only[Act.put,ak,aj,ai,ae,ah,ag]
   refine aO 10 ?_;intro K hK
   refine py gx _ [.int .i64 m,.int .i64 (nb m:Nat),.int .i64 4,.int .i64 ((nb m:Int)*4),.slice (some ⟨g1,0,none⟩) k1 k1,.int .i64 (bat m (bitAt xs) (nb m):Nat),.slice (some ⟨g2,0,none⟩) k2 k2,.slice none 0 0,.slice none 0 0] rfl rfl B6 rfl eM (by simp[Value.oneCell']) ?_
   intro V B7 hO;refine hK.out _ _ (fun h=>absurd (by decide) h) ?_;clear hK K;try simp only[Act.put,ak,aj,ai,ae,ah,ag]
   refine aq.done (by kernel_rfl) ?_ _
   have QV0:Hid (QV w V gx g1 g2 gm (.int .i64 m) (.int .i64 (nb m:Nat)) (.int .i64 4) (.int .i64 ((nb m:Int)*4)) (.slice (some ⟨g1,0,none⟩) k1 k1) (.int .i64 (bat m (bitAt xs) (nb m):Nat)) (.slice (some ⟨g2,0,none⟩) k2 k2) (rC m (bitAt xs)) (rO m (bitAt xs)) (cg (gN m) (bon m (bitAt xs)) (bat m (bitAt xs)) (nb m))):=⟨B7,(hO.block g1 (by omega)).trans hO1,(hO.block g2 (by omega)).trans hO2,hO.cel hmk (by omega),hO.cel B2 (by omega),bw7.trans (hO.below (base:=w.heap.size) (by omega)),by omega,by omega,by omega,by omega⟩
   clear B7 hO hO1 hO2 hmk B2 bw7 hS hl B6 C5 C6;go_wp2
   go_loopw [32] (fun t wr=>∃(J:Nat) (so:Option Addr) (sc:Nat) (tO:Option Addr) (tc:Nat),J<=gN m/\t=.int .i64 J/\J<=sc/\J<=tc/\QB V wr gx (.int .i64 m) (.int .i64 (nb m:Nat)) (.int .i64 4) (.int .i64 ((nb m:Int)*4)) (.slice (some ⟨g1,0,none⟩) k1 k1) (.int .i64 (bat m (bitAt xs) (nb m):Nat)) (.slice (some ⟨g2,0,none⟩) k2 k2) (.slice so J sc) (.slice tO J tc) J J m (bitAt xs)) (fun t _=>gN m-(intOf t).toNat)
   case atStart=>exact⟨0,none,0,none,0,Nat.zero_le _,rfl,Nat.le_refl _,Nat.le_refl _,⟨QV0.out.bx,QV0.out.bx.lt,Nat.le_refl _,Below.refl _ _,fun _ _ _=>rfl,World.ownsRow_nil _ _ _ _,World.ownsRow_nil _ _ _ _,Ap.apart_nil _⟩⟩
   case round=>
    obtain⟨J,so,sc,tO,tc,hJ,rfl,hsc,htc,HQ⟩:=hrel;by_cases hlt:J<gN m
    .have hlt2:(J:Int)<(gN m:Int):=by omega
     have mkc:aa wr gm _ 216:=(HQ.same gm QV0.out.mks.lt QV0.out.n3).trans QV0.out.mks;have x0:=mkc.cell (J*2) (MG1.out J hlt);have x1:=mkc.cell (J*2+1) (MG2.out J hlt);have SU1:=ac (pY m (bitAt xs) J)
     have SU2:=ac (pQ m (bitAt xs) J);generalize bon m (bitAt xs) (8*J)=Zs at *;generalize bat m (bitAt xs) (8*J)=Zp at *;have lmk:=mkc.lt;have y7:=HQ.bx.cell 7 rfl;have lx:=HQ.bx.lt;have szr:=HQ.sz
     have hown1:∀k,(Value.slice so J sc).ownBlock=some k->k<wr.heap.size:=fun k hk=>(HQ.o1.lt k hk).2;clear mkc
     go_wp2_with (at_builtin;refine Ap.wpList_append_x (by rfl) _ _ _ (by rfl) V.heap.size 3 i0 (.int .i64 0) 8 underlying24 hi hz0 hz1 hz2 rfl (.slice so J sc) J (cG (de m (bitAt xs) J)) (by rfl) ((HQ.o1.alloc _).alloc _) (some ⟨wr.heap.size+1,0,none⟩) 1 1 [.int .i64 Zs] (by rfl) rfl ?c1_301 ?c2_301 ?c3_301 ?c4_301 ?c5_301 ?_)
     case c1_301=>exact fun _=>⟨_,rfl,fun j u hj=>by
      match j,hj with
      | 0,hj=>simp at hj;subst hj;simp[Addr.add]⟩
     case c2_301=>intro u hu;simp at hu;subst hu;rfl
     case c3_301=>unfold maxLen;omega
     case c4_301=>omega
     case c5_301=>simp;omega
     intro so2 sc2 w9 own9 hle9 hB9 hblk9 hkeep9 hsz9;rw[SU1.out]at own9
     have HPa:=(HQ.keep (below_alloc wr (.cells #[.int .i64 Zs,.int .i64 Zp] 216))).keep (below_alloc _ (.cells #[.int .i64 Zs] 3))
     have esz:((wr.alloc (.cells #[.int .i64 Zs,.int .i64 Zp] 216)).alloc (.cells #[.int .i64 Zs] 3)).heap.size=wr.heap.size+1+1:=by simp
     have mbA:aa ((wr.alloc (.cells #[.int .i64 Zs,.int .i64 Zp] 216)).alloc (.cells #[.int .i64 Zs] 3)) wr.heap.size [.int .i64 Zs,.int .i64 Zp] 216:=(aa.new wr _ _).alloc _
     rw[<-esz]at hblk9 hkeep9;have HP9:=HPa.one own9 hB9 hblk9 hkeep9
     have hC9:aa w9 wr.heap.size [.int .i64 Zs,.int .i64 Zp] 216:=(hkeep9 wr.heap.size (by omega) (fun e=>by have:=hown1 _ e;omega)).trans mbA;have x7:=(HPa.bx.keep hB9 HQ.lt).cell 7 rfl
     have f7:=(HPa.bx.keep hB9 HQ.lt).frozen 7;have x8:=(HPa.bx.keep hB9 HQ.lt).cell 8 rfl;have mb1:=hC9.cell 1 rfl;have lx9:=(HPa.bx.keep hB9 HQ.lt).lt;have lm9:=hC9.lt;have sz9:=HP9.sz;simp only[fJ]at sz9
     have ngx:gx≠wr.heap.size:=by omega
     clear own9 hB9 hblk9 hkeep9 HPa mbA hown1 x0 x1 y7 esz
     go_wp2_with (at_builtin;refine Ap.wpList_append_x (by rfl) _ _ _ (by rfl) V.heap.size 3 i0 (.int .i64 0) 8 underlying24 hi hz0 hz1 hz2 rfl (.slice tO J tc) J (cG (dd m (bitAt xs) J)) (by rfl) (HP9.o2.alloc _) (some ⟨w9.heap.size,0,none⟩) 1 1 [.int .i64 Zp] (by rfl) rfl ?d1_301 ?d2_301 ?d3_301 ?d4_301 ?d5_301 ?_)
     case d1_301=>
      have q:=(aa.new (w9.setCell ⟨gx,7,none⟩ (.slice so2 (J+1) sc2)) [.int .i64 Zp] 3).cell 0 rfl;rw[fJ]at q
      exact fun _=>⟨_,rfl,fun j u hj=>by
       match j,hj with
       | 0,hj=>simp at hj;subst hj;simp[Addr.add];exact q⟩
     case d2_301=>intro u hu;simp at hu;subst hu;rfl
     case d3_301=>unfold maxLen;omega
     case d4_301=>omega
     case d5_301=>simp;omega
     intro tO2 tc2 w10 own10 hle10 hB10 hblk10 hkeep10 hsz10;rw[SU2.out]at own10;have HPb:=HP9.keep (below_alloc _ (.cells #[.int .i64 Zp] 3))
     have esz2:((w9.setCell ⟨gx,7,none⟩ (.slice so2 (J+1) sc2)).alloc (.cells #[.int .i64 Zp] 3)).heap.size=w9.heap.size+1:=by simp[fJ]
     rw[<-esz2]at hblk10 hkeep10;have HP10:=HPb.two own10 hB10 hblk10 hkeep10;have x8b:=(HPb.bx.keep hB10 HQ.lt).cell 8 rfl;have f8b:=(HPb.bx.keep hB10 HQ.lt).frozen 8;have HPH:=ac HP10
     clear own10 hB10 hblk10 hkeep10 HPb esz2 HP9 HP10 x7 x8 f7 mb1 hC9 HQ;go_wp2;exact⟨⟨J+1,so2,sc2,tO2,tc2,by omega,by go_num,hle9,hle10,HPH.out⟩,by simp only[intOf];omega⟩
    .obtain hJe:J=gN m:=by omega
     have zc:aa wr (w.heap.size+1) [.int .i64 0,.int .i64 0,.int .i64 0,.int .i64 0,.slice none 0 0,.int .i64 0,.slice none 0 0,.slice none 0 0,.slice none 0 0] 40:=(HQ.same (w.heap.size+1) (by have:=QV0.out.z.lt;exact this) (by have:=QV0.out.n4;omega)).trans QV0.out.z
     have d1:Own wr g1 (rC m (bitAt xs)):=(HQ.same g1 QV0.out.o1.lt QV0.out.n1).trans QV0.out.o1;have d2:Own wr g2 (rO m (bitAt xs)):=(HQ.same g2 QV0.out.o2.lt QV0.out.n2).trans QV0.out.o2
     have bwr:Below w.heap.size w wr:=QV0.out.hb.trans (HQ.hb.mono (by have:=QV0.out.n4;omega));have hgV:w.heap.size+1<V.heap.size:=QV0.out.z.lt;have e1:g1≠w.heap.size+1:=by omega
     have e2:g2≠w.heap.size+1:=by omega
     have HH:=ac (And.intro HQ (And.intro d1 (And.intro d2 bwr)));clear d1 d2 bwr QV0
     go_wp2_with (first | refine iJ gx _ rfl HQ.bx underlying40 eM ?_ | refine aP (w.heap.size+1) _ _ rfl rfl zc rfl eM (by simp[Value.oneCell']) ?_);intro w20 C20 hO20
     obtain⟨HQ2,d1,d2,bwr⟩:=HH.out
     have HF:=ac (show Wd w20 (some ⟨g1,0,none⟩) (rC m (bitAt xs))/\Wd w20 (some ⟨g2,0,none⟩) (rO m (bitAt xs))/\Nd w20 so (de m (bitAt xs) J)/\Nd w20 tO (dd m (bitAt xs) J)/\Below w.heap.size w w20/\Fr w.heap.size so/\Fr w.heap.size tO from⟨Own.wd ((hO20.block g1 e1).trans d1),Own.wd ((hO20.block g2 e2).trans d2),kj (hO20.owns HQ2.o1 hgV),kj (hO20.owns HQ2.o2 hgV),bwr.trans (hO20.below (by omega)),jf HQ2.o1 (by omega),jf HQ2.o2 (by omega)⟩)
     have HC20:=ac C20;clear HQ HQ2 d1 d2 bwr hO20 HH zc C20;go_wp2
     (try simp only[Exit.inBlock,Exit.then]);obtain⟨p1,p2,p3,p4,p5⟩:=HF.out;rw[hJe]at p3 p4 hsc htc;have HC21:=HC20.out;rw[hJe]at HC21
     exact bodyPost_ret (bJ rfl (w.heap.size+1) _ rfl HC21 underlying40 eM) rfl ⟨g1,k1,g2,k2,so,sc,tO,tc,rfl,HK1.out,HK2.out,p1,p2,p3,p4,hsc,htc,p5⟩
  .intro K hK;go_simp;have hb:=below_alloc wA (.cells #[.int .i64 0,.int .i64 0,.int .i64 0,.int .i64 0,.slice none 0 0,.int .i64 0,.slice none 0 0,.slice none 0 0,.slice none 0 0] 40)
   have B6:=aa.new wA [.int .i64 0,.int .i64 0,.int .i64 0,.int .i64 0,.slice none 0 0,.int .i64 0,.slice none 0 0,.slice none 0 0,.slice none 0 0] 40
   have zX:(wA.alloc (.cells #[.int .i64 0,.int .i64 0,.int .i64 0,.int .i64 0,.slice none 0 0,.int .i64 0,.slice none 0 0,.slice none 0 0,.slice none 0 0] 40)).heap.size=wA.heap.size+1:=by simp
   replace hS:=And.intro (hS.1.kept hb) (And.intro (hS.2.1.kept hb) (hS.2.2.kept hb));replace B2:=B2.kept hb;replace hl:=hl.kept hb;replace hmk:=hmk.kept hb;replace bw7:=bg bw7 hb
   replace hO1:=hO1.keep hb;obtain⟨gx,hgx⟩:∃gx,gx=wA.heap.size:=⟨_,rfl⟩;rw[<-hgx]at B6;rw[<-hgx]
   generalize wA.alloc (.cells #[.int .i64 0,.int .i64 0,.int .i64 0,.int .i64 0,.slice none 0 0,.int .i64 0,.slice none 0 0,.slice none 0 0,.slice none 0 0] 40)=wX at *;have hgx1:gx<=wA.heap.size:=by omega
   have hgx2:wA.heap.size<=gx:=by omega
   clear hb hgx;refine hK.out _ _ (fun _=>hS) ?_;clear hK K;try simp only[Act.put,ak,aj,ai,ae,ah,ag]
   refine aO 7 ?_;intro K hK;go_simp;refine(C6.out gl _ hl hS.2.1).mono ?_;rintro e wB ⟨g2,rfl,hg2,hO2,hb⟩;have zB:=hb.size;have lO2:=hO2.lt
   replace hS:=And.intro (hS.1.kept hb) (And.intro (hS.2.1.kept hb) (hS.2.2.kept hb));replace B2:=B2.kept hb;replace hl:=hl.kept hb;replace hmk:=hmk.kept hb;replace bw7:=bg bw7 hb
   replace hO1:=hO1.keep hb;replace B6:=B6.kept hb;clear hb;refine hK.out _ _ (fun _=>hS) ?_;clear hK K;try simp only[Act.put,ak,aj,ai,ae,ah,ag]
   refine aK 8 hS ?_;refine aO 10 ?_;intro K hK
   refine py gx _ [.int .i64 m,.int .i64 (nb m:Nat),.int .i64 4,.int .i64 ((nb m:Int)*4),.slice (some ⟨g1,0,none⟩) k1 k1,.int .i64 (bat m (bitAt xs) (nb m):Nat),.slice (some ⟨g2,0,none⟩) k2 k2,.slice none 0 0,.slice none 0 0] rfl rfl B6 rfl eM (by simp[Value.oneCell']) ?_
   intro V B7 hO;refine hK.out _ _ (fun h=>absurd (by decide) h) ?_;clear hK K;try simp only[Act.put,ak,aj,ai,ae,ah,ag]
   refine aq.done (by kernel_rfl) ?_ _
   have QV0:Hid (QV w V gx g1 g2 gm (.int .i64 m) (.int .i64 (nb m:Nat)) (.int .i64 4) (.int .i64 ((nb m:Int)*4)) (.slice (some ⟨g1,0,none⟩) k1 k1) (.int .i64 (bat m (bitAt xs) (nb m):Nat)) (.slice (some ⟨g2,0,none⟩) k2 k2) (rC m (bitAt xs)) (rO m (bitAt xs)) (cg (gN m) (bon m (bitAt xs)) (bat m (bitAt xs)) (nb m))):=⟨B7,(hO.block g1 (by omega)).trans hO1,(hO.block g2 (by omega)).trans hO2,hO.cel hmk (by omega),hO.cel B2 (by omega),bw7.trans (hO.below (base:=w.heap.size) (by omega)),by omega,by omega,by omega,by omega⟩
   clear B7 hO hO1 hO2 hmk B2 bw7 hS hl B6 C5 C6;go_wp2
   go_loopw [32] (fun t wr=>∃(J:Nat) (so:Option Addr) (sc:Nat) (tO:Option Addr) (tc:Nat),J<=gN m/\t=.int .i64 J/\J<=sc/\J<=tc/\QB V wr gx (.int .i64 m) (.int .i64 (nb m:Nat)) (.int .i64 4) (.int .i64 ((nb m:Int)*4)) (.slice (some ⟨g1,0,none⟩) k1 k1) (.int .i64 (bat m (bitAt xs) (nb m):Nat)) (.slice (some ⟨g2,0,none⟩) k2 k2) (.slice so J sc) (.slice tO J tc) J J m (bitAt xs)) (fun t _=>gN m-(intOf t).toNat)
   case atStart=>exact⟨0,none,0,none,0,Nat.zero_le _,rfl,Nat.le_refl _,Nat.le_refl _,⟨QV0.out.bx,QV0.out.bx.lt,Nat.le_refl _,Below.refl _ _,fun _ _ _=>rfl,World.ownsRow_nil _ _ _ _,World.ownsRow_nil _ _ _ _,Ap.apart_nil _⟩⟩
   case round=>
    obtain⟨J,so,sc,tO,tc,hJ,rfl,hsc,htc,HQ⟩:=hrel;by_cases hlt:J<gN m
    .have hlt2:(J:Int)<(gN m:Int):=by omega
     have mkc:aa wr gm _ 216:=(HQ.same gm QV0.out.mks.lt QV0.out.n3).trans QV0.out.mks;have x0:=mkc.cell (J*2) (MG1.out J hlt);have x1:=mkc.cell (J*2+1) (MG2.out J hlt);have SU1:=ac (pY m (bitAt xs) J)
     have SU2:=ac (pQ m (bitAt xs) J);generalize bon m (bitAt xs) (8*J)=Zs at *;generalize bat m (bitAt xs) (8*J)=Zp at *;have lmk:=mkc.lt;have y7:=HQ.bx.cell 7 rfl;have lx:=HQ.bx.lt;have szr:=HQ.sz
     have hown1:∀k,(Value.slice so J sc).ownBlock=some k->k<wr.heap.size:=fun k hk=>(HQ.o1.lt k hk).2;clear mkc
     go_wp2_with (at_builtin;refine Ap.wpList_append_x (by rfl) _ _ _ (by rfl) V.heap.size 3 i0 (.int .i64 0) 8 underlying24 hi hz0 hz1 hz2 rfl (.slice so J sc) J (cG (de m (bitAt xs) J)) (by rfl) ((HQ.o1.alloc _).alloc _) (some ⟨wr.heap.size+1,0,none⟩) 1 1 [.int .i64 Zs] (by rfl) rfl ?c1_401 ?c2_401 ?c3_401 ?c4_401 ?c5_401 ?_)
     case c1_401=>exact fun _=>⟨_,rfl,fun j u hj=>by
      match j,hj with
      | 0,hj=>simp at hj;subst hj;simp[Addr.add]⟩
     case c2_401=>intro u hu;simp at hu;subst hu;rfl
     case c3_401=>unfold maxLen;omega
     case c4_401=>omega
     case c5_401=>simp;omega
     intro so2 sc2 w9 own9 hle9 hB9 hblk9 hkeep9 hsz9;rw[SU1.out]at own9
     have HPa:=(HQ.keep (below_alloc wr (.cells #[.int .i64 Zs,.int .i64 Zp] 216))).keep (below_alloc _ (.cells #[.int .i64 Zs] 3))
     have esz:((wr.alloc (.cells #[.int .i64 Zs,.int .i64 Zp] 216)).alloc (.cells #[.int .i64 Zs] 3)).heap.size=wr.heap.size+1+1:=by simp
     have mbA:aa ((wr.alloc (.cells #[.int .i64 Zs,.int .i64 Zp] 216)).alloc (.cells #[.int .i64 Zs] 3)) wr.heap.size [.int .i64 Zs,.int .i64 Zp] 216:=(aa.new wr _ _).alloc _
     rw[<-esz]at hblk9 hkeep9;have HP9:=HPa.one own9 hB9 hblk9 hkeep9
     have hC9:aa w9 wr.heap.size [.int .i64 Zs,.int .i64 Zp] 216:=(hkeep9 wr.heap.size (by omega) (fun e=>by have:=hown1 _ e;omega)).trans mbA;have x7:=(HPa.bx.keep hB9 HQ.lt).cell 7 rfl
     have f7:=(HPa.bx.keep hB9 HQ.lt).frozen 7;have x8:=(HPa.bx.keep hB9 HQ.lt).cell 8 rfl;have mb1:=hC9.cell 1 rfl;have lx9:=(HPa.bx.keep hB9 HQ.lt).lt;have lm9:=hC9.lt;have sz9:=HP9.sz;simp only[fJ]at sz9
     have ngx:gx≠wr.heap.size:=by omega
     clear own9 hB9 hblk9 hkeep9 HPa mbA hown1 x0 x1 y7 esz
     go_wp2_with (at_builtin;refine Ap.wpList_append_x (by rfl) _ _ _ (by rfl) V.heap.size 3 i0 (.int .i64 0) 8 underlying24 hi hz0 hz1 hz2 rfl (.slice tO J tc) J (cG (dd m (bitAt xs) J)) (by rfl) (HP9.o2.alloc _) (some ⟨w9.heap.size,0,none⟩) 1 1 [.int .i64 Zp] (by rfl) rfl ?d1_401 ?d2_401 ?d3_401 ?d4_401 ?d5_401 ?_)
     case d1_401=>
      have q:=(aa.new (w9.setCell ⟨gx,7,none⟩ (.slice so2 (J+1) sc2)) [.int .i64 Zp] 3).cell 0 rfl;rw[fJ]at q
      exact fun _=>⟨_,rfl,fun j u hj=>by
       match j,hj with
       | 0,hj=>simp at hj;subst hj;simp[Addr.add];exact q⟩
     case d2_401=>intro u hu;simp at hu;subst hu;rfl
     case d3_401=>unfold maxLen;omega
     case d4_401=>omega
     case d5_401=>simp;omega
     intro tO2 tc2 w10 own10 hle10 hB10 hblk10 hkeep10 hsz10;rw[SU2.out]at own10;have HPb:=HP9.keep (below_alloc _ (.cells #[.int .i64 Zp] 3))
     have esz2:((w9.setCell ⟨gx,7,none⟩ (.slice so2 (J+1) sc2)).alloc (.cells #[.int .i64 Zp] 3)).heap.size=w9.heap.size+1:=by simp[fJ]
     rw[<-esz2]at hblk10 hkeep10;have HP10:=HPb.two own10 hB10 hblk10 hkeep10;have x8b:=(HPb.bx.keep hB10 HQ.lt).cell 8 rfl;have f8b:=(HPb.bx.keep hB10 HQ.lt).frozen 8;have HPH:=ac HP10
     clear own10 hB10 hblk10 hkeep10 HPb esz2 HP9 HP10 x7 x8 f7 mb1 hC9 HQ;go_wp2;exact⟨⟨J+1,so2,sc2,tO2,tc2,by omega,by go_num,hle9,hle10,HPH.out⟩,by simp only[intOf];omega⟩
    .obtain hJe:J=gN m:=by omega
     have zc:aa wr (w.heap.size+1) [.int .i64 0,.int .i64 0,.int .i64 0,.int .i64 0,.slice none 0 0,.int .i64 0,.slice none 0 0,.slice none 0 0,.slice none 0 0] 40:=(HQ.same (w.heap.size+1) (by have:=QV0.out.z.lt;exact this) (by have:=QV0.out.n4;omega)).trans QV0.out.z
     have d1:Own wr g1 (rC m (bitAt xs)):=(HQ.same g1 QV0.out.o1.lt QV0.out.n1).trans QV0.out.o1;have d2:Own wr g2 (rO m (bitAt xs)):=(HQ.same g2 QV0.out.o2.lt QV0.out.n2).trans QV0.out.o2
     have bwr:Below w.heap.size w wr:=QV0.out.hb.trans (HQ.hb.mono (by have:=QV0.out.n4;omega));have hgV:w.heap.size+1<V.heap.size:=QV0.out.z.lt;have e1:g1≠w.heap.size+1:=by omega
     have e2:g2≠w.heap.size+1:=by omega
     have HH:=ac (And.intro HQ (And.intro d1 (And.intro d2 bwr)));clear d1 d2 bwr QV0
     go_wp2_with (first | refine iJ gx _ rfl HQ.bx underlying40 eM ?_ | refine aP (w.heap.size+1) _ _ rfl rfl zc rfl eM (by simp[Value.oneCell']) ?_);intro w20 C20 hO20
     obtain⟨HQ2,d1,d2,bwr⟩:=HH.out
     have HF:=ac (show Wd w20 (some ⟨g1,0,none⟩) (rC m (bitAt xs))/\Wd w20 (some ⟨g2,0,none⟩) (rO m (bitAt xs))/\Nd w20 so (de m (bitAt xs) J)/\Nd w20 tO (dd m (bitAt xs) J)/\Below w.heap.size w w20/\Fr w.heap.size so/\Fr w.heap.size tO from⟨Own.wd ((hO20.block g1 e1).trans d1),Own.wd ((hO20.block g2 e2).trans d2),kj (hO20.owns HQ2.o1 hgV),kj (hO20.owns HQ2.o2 hgV),bwr.trans (hO20.below (by omega)),jf HQ2.o1 (by omega),jf HQ2.o2 (by omega)⟩)
     have HC20:=ac C20;clear HQ HQ2 d1 d2 bwr hO20 HH zc C20;go_wp2
     (try simp only[Exit.inBlock,Exit.then]);obtain⟨p1,p2,p3,p4,p5⟩:=HF.out;rw[hJe]at p3 p4 hsc htc;have HC21:=HC20.out;rw[hJe]at HC21
     exact bodyPost_ret (bJ rfl (w.heap.size+1) _ rfl HC21 underlying40 eM) rfl ⟨g1,k1,g2,k2,so,sc,tO,tc,rfl,HK1.out,HK2.out,p1,p2,p3,p4,hsc,htc,p5⟩
 .intro K hK;go_simp;have hb:=below_alloc Y (.cells #[.int .i64 0,.int .i64 0,.int .i64 0,.int .i64 0,.slice none 0 0,.int .i64 0,.slice none 0 0,.slice none 0 0,.slice none 0 0] 40)
  have B6:=aa.new Y [.int .i64 0,.int .i64 0,.int .i64 0,.int .i64 0,.slice none 0 0,.int .i64 0,.slice none 0 0,.slice none 0 0,.slice none 0 0] 40
  have zX:(Y.alloc (.cells #[.int .i64 0,.int .i64 0,.int .i64 0,.int .i64 0,.slice none 0 0,.int .i64 0,.slice none 0 0,.slice none 0 0,.slice none 0 0] 40)).heap.size=Y.heap.size+1:=by simp
  replace hS:=And.intro (hS.1.kept hb) (And.intro (hS.2.1.kept hb) (hS.2.2.kept hb));replace B2:=B2.kept hb;replace hl:=hl.kept hb;replace hmk:=hmk.kept hb;replace bw7:=bg bw7 hb
  obtain⟨gx,hgx⟩:∃gx,gx=Y.heap.size:=⟨_,rfl⟩;rw[<-hgx]at B6;rw[<-hgx]
  generalize Y.alloc (.cells #[.int .i64 0,.int .i64 0,.int .i64 0,.int .i64 0,.slice none 0 0,.int .i64 0,.slice none 0 0,.slice none 0 0,.slice none 0 0] 40)=wX at *;have hgx1:gx<=Y.heap.size:=by omega
  have hgx2:Y.heap.size<=gx:=by omega
  clear hb hgx;refine hK.out _ _ (fun _=>hS) ?_;clear hK K;try simp only[Act.put,ak,aj,ai,ae,ah,ag]
  refine aO 3 ?_;intro K hK;go_simp;refine(C5.out gl _ hl).mono ?_;rintro e wA ⟨g1,rfl,hg1,hO1,hb⟩;have zA:=hb.size;have lO1:=hO1.lt
  replace hS:=And.intro (hS.1.kept hb) (And.intro (hS.2.1.kept hb) (hS.2.2.kept hb));replace B2:=B2.kept hb;replace hl:=hl.kept hb;replace hmk:=hmk.kept hb;replace bw7:=bg bw7 hb
  replace B6:=B6.kept hb;clear hb;refine hK.out _ _ (fun _=>hS) ?_;clear hK K;try simp only[Act.put,ak,aj,ai,ae,ah,ag]
  refine aO 7 ?_;intro K hK;go_simp;refine(C6.out gl _ hl hS.2.1).mono ?_;rintro e wB ⟨g2,rfl,hg2,hO2,hb⟩;have zB:=hb.size;have lO2:=hO2.lt
  replace hS:=And.intro (hS.1.kept hb) (And.intro (hS.2.1.kept hb) (hS.2.2.kept hb));replace B2:=B2.kept hb;replace hl:=hl.kept hb;replace hmk:=hmk.kept hb;replace bw7:=bg bw7 hb
  replace hO1:=hO1.keep hb;replace B6:=B6.kept hb;clear hb;refine hK.out _ _ (fun _=>hS) ?_;clear hK K;try simp only[Act.put,ak,aj,ai,ae,ah,ag]
  refine aK 8 hS ?_;refine aO 10 ?_;intro K hK
  refine py gx _ [.int .i64 m,.int .i64 (nb m:Nat),.int .i64 4,.int .i64 ((nb m:Int)*4),.slice (some ⟨g1,0,none⟩) k1 k1,.int .i64 (bat m (bitAt xs) (nb m):Nat),.slice (some ⟨g2,0,none⟩) k2 k2,.slice none 0 0,.slice none 0 0] rfl rfl B6 rfl eM (by simp[Value.oneCell']) ?_
  intro V B7 hO;refine hK.out _ _ (fun h=>absurd (by decide) h) ?_;clear hK K;try simp only[Act.put,ak,aj,ai,ae,ah,ag]
  refine aq.done (by kernel_rfl) ?_ _
  have QV0:Hid (QV w V gx g1 g2 gm (.int .i64 m) (.int .i64 (nb m:Nat)) (.int .i64 4) (.int .i64 ((nb m:Int)*4)) (.slice (some ⟨g1,0,none⟩) k1 k1) (.int .i64 (bat m (bitAt xs) (nb m):Nat)) (.slice (some ⟨g2,0,none⟩) k2 k2) (rC m (bitAt xs)) (rO m (bitAt xs)) (cg (gN m) (bon m (bitAt xs)) (bat m (bitAt xs)) (nb m))):=⟨B7,(hO.block g1 (by omega)).trans hO1,(hO.block g2 (by omega)).trans hO2,hO.cel hmk (by omega),hO.cel B2 (by omega),bw7.trans (hO.below (base:=w.heap.size) (by omega)),by omega,by omega,by omega,by omega⟩
  clear B7 hO hO1 hO2 hmk B2 bw7 hS hl B6 C5 C6;go_wp2
  go_loopw [32] (fun t wr=>∃(J:Nat) (so:Option Addr) (sc:Nat) (tO:Option Addr) (tc:Nat),J<=gN m/\t=.int .i64 J/\J<=sc/\J<=tc/\QB V wr gx (.int .i64 m) (.int .i64 (nb m:Nat)) (.int .i64 4) (.int .i64 ((nb m:Int)*4)) (.slice (some ⟨g1,0,none⟩) k1 k1) (.int .i64 (bat m (bitAt xs) (nb m):Nat)) (.slice (some ⟨g2,0,none⟩) k2 k2) (.slice so J sc) (.slice tO J tc) J J m (bitAt xs)) (fun t _=>gN m-(intOf t).toNat)
  case atStart=>exact⟨0,none,0,none,0,Nat.zero_le _,rfl,Nat.le_refl _,Nat.le_refl _,⟨QV0.out.bx,QV0.out.bx.lt,Nat.le_refl _,Below.refl _ _,fun _ _ _=>rfl,World.ownsRow_nil _ _ _ _,World.ownsRow_nil _ _ _ _,Ap.apart_nil _⟩⟩
  case round=>
   obtain⟨J,so,sc,tO,tc,hJ,rfl,hsc,htc,HQ⟩:=hrel;by_cases hlt:J<gN m
   .have hlt2:(J:Int)<(gN m:Int):=by omega
    have mkc:aa wr gm _ 216:=(HQ.same gm QV0.out.mks.lt QV0.out.n3).trans QV0.out.mks;have x0:=mkc.cell (J*2) (MG1.out J hlt);have x1:=mkc.cell (J*2+1) (MG2.out J hlt);have SU1:=ac (pY m (bitAt xs) J)
    have SU2:=ac (pQ m (bitAt xs) J);generalize bon m (bitAt xs) (8*J)=Zs at *;generalize bat m (bitAt xs) (8*J)=Zp at *;have lmk:=mkc.lt;have y7:=HQ.bx.cell 7 rfl;have lx:=HQ.bx.lt;have szr:=HQ.sz
    have hown1:∀k,(Value.slice so J sc).ownBlock=some k->k<wr.heap.size:=fun k hk=>(HQ.o1.lt k hk).2;clear mkc
    go_wp2_with (at_builtin;refine Ap.wpList_append_x (by rfl) _ _ _ (by rfl) V.heap.size 3 i0 (.int .i64 0) 8 underlying24 hi hz0 hz1 hz2 rfl (.slice so J sc) J (cG (de m (bitAt xs) J)) (by rfl) ((HQ.o1.alloc _).alloc _) (some ⟨wr.heap.size+1,0,none⟩) 1 1 [.int .i64 Zs] (by rfl) rfl ?c1_501 ?c2_501 ?c3_501 ?c4_501 ?c5_501 ?_)
    case c1_501=>exact fun _=>⟨_,rfl,fun j u hj=>by
     match j,hj with
     | 0,hj=>simp at hj;subst hj;simp[Addr.add]⟩
    case c2_501=>intro u hu;simp at hu;subst hu;rfl
    case c3_501=>unfold maxLen;omega
    case c4_501=>omega
    case c5_501=>simp;omega
    intro so2 sc2 w9 own9 hle9 hB9 hblk9 hkeep9 hsz9;rw[SU1.out]at own9;have HPa:=(HQ.keep (below_alloc wr (.cells #[.int .i64 Zs,.int .i64 Zp] 216))).keep (below_alloc _ (.cells #[.int .i64 Zs] 3))
    have esz:((wr.alloc (.cells #[.int .i64 Zs,.int .i64 Zp] 216)).alloc (.cells #[.int .i64 Zs] 3)).heap.size=wr.heap.size+1+1:=by simp
    have mbA:aa ((wr.alloc (.cells #[.int .i64 Zs,.int .i64 Zp] 216)).alloc (.cells #[.int .i64 Zs] 3)) wr.heap.size [.int .i64 Zs,.int .i64 Zp] 216:=(aa.new wr _ _).alloc _
    rw[<-esz]at hblk9 hkeep9;have HP9:=HPa.one own9 hB9 hblk9 hkeep9
    have hC9:aa w9 wr.heap.size [.int .i64 Zs,.int .i64 Zp] 216:=(hkeep9 wr.heap.size (by omega) (fun e=>by have:=hown1 _ e;omega)).trans mbA;have x7:=(HPa.bx.keep hB9 HQ.lt).cell 7 rfl
    have f7:=(HPa.bx.keep hB9 HQ.lt).frozen 7;have x8:=(HPa.bx.keep hB9 HQ.lt).cell 8 rfl;have mb1:=hC9.cell 1 rfl;have lx9:=(HPa.bx.keep hB9 HQ.lt).lt;have lm9:=hC9.lt;have sz9:=HP9.sz;simp only[fJ]at sz9
    have ngx:gx≠wr.heap.size:=by omega
    clear own9 hB9 hblk9 hkeep9 HPa mbA hown1 x0 x1 y7 esz
    go_wp2_with (at_builtin;refine Ap.wpList_append_x (by rfl) _ _ _ (by rfl) V.heap.size 3 i0 (.int .i64 0) 8 underlying24 hi hz0 hz1 hz2 rfl (.slice tO J tc) J (cG (dd m (bitAt xs) J)) (by rfl) (HP9.o2.alloc _) (some ⟨w9.heap.size,0,none⟩) 1 1 [.int .i64 Zp] (by rfl) rfl ?d1_501 ?d2_501 ?d3_501 ?d4_501 ?d5_501 ?_)
    case d1_501=>
     have q:=(aa.new (w9.setCell ⟨gx,7,none⟩ (.slice so2 (J+1) sc2)) [.int .i64 Zp] 3).cell 0 rfl;rw[fJ]at q
     exact fun _=>⟨_,rfl,fun j u hj=>by
      match j,hj with
      | 0,hj=>simp at hj;subst hj;simp[Addr.add];exact q⟩
    case d2_501=>intro u hu;simp at hu;subst hu;rfl
    case d3_501=>unfold maxLen;omega
    case d4_501=>omega
    case d5_501=>simp;omega
    intro tO2 tc2 w10 own10 hle10 hB10 hblk10 hkeep10 hsz10;rw[SU2.out]at own10;have HPb:=HP9.keep (below_alloc _ (.cells #[.int .i64 Zp] 3))
    have esz2:((w9.setCell ⟨gx,7,none⟩ (.slice so2 (J+1) sc2)).alloc (.cells #[.int .i64 Zp] 3)).heap.size=w9.heap.size+1:=by simp[fJ]
    rw[<-esz2]at hblk10 hkeep10;have HP10:=HPb.two own10 hB10 hblk10 hkeep10;have x8b:=(HPb.bx.keep hB10 HQ.lt).cell 8 rfl;have f8b:=(HPb.bx.keep hB10 HQ.lt).frozen 8;have HPH:=ac HP10
    clear own10 hB10 hblk10 hkeep10 HPb esz2 HP9 HP10 x7 x8 f7 mb1 hC9 HQ;go_wp2;exact⟨⟨J+1,so2,sc2,tO2,tc2,by omega,by go_num,hle9,hle10,HPH.out⟩,by simp only[intOf];omega⟩
   .obtain hJe:J=gN m:=by omega
    have zc:aa wr (w.heap.size+1) [.int .i64 0,.int .i64 0,.int .i64 0,.int .i64 0,.slice none 0 0,.int .i64 0,.slice none 0 0,.slice none 0 0,.slice none 0 0] 40:=(HQ.same (w.heap.size+1) (by have:=QV0.out.z.lt;exact this) (by have:=QV0.out.n4;omega)).trans QV0.out.z
    have d1:Own wr g1 (rC m (bitAt xs)):=(HQ.same g1 QV0.out.o1.lt QV0.out.n1).trans QV0.out.o1;have d2:Own wr g2 (rO m (bitAt xs)):=(HQ.same g2 QV0.out.o2.lt QV0.out.n2).trans QV0.out.o2
    have bwr:Below w.heap.size w wr:=QV0.out.hb.trans (HQ.hb.mono (by have:=QV0.out.n4;omega));have hgV:w.heap.size+1<V.heap.size:=QV0.out.z.lt;have e1:g1≠w.heap.size+1:=by omega
    have e2:g2≠w.heap.size+1:=by omega
    have HH:=ac (And.intro HQ (And.intro d1 (And.intro d2 bwr)));clear d1 d2 bwr QV0
    go_wp2_with (first | refine iJ gx _ rfl HQ.bx underlying40 eM ?_ | refine aP (w.heap.size+1) _ _ rfl rfl zc rfl eM (by simp[Value.oneCell']) ?_);intro w20 C20 hO20
    obtain⟨HQ2,d1,d2,bwr⟩:=HH.out
    have HF:=ac (show Wd w20 (some ⟨g1,0,none⟩) (rC m (bitAt xs))/\Wd w20 (some ⟨g2,0,none⟩) (rO m (bitAt xs))/\Nd w20 so (de m (bitAt xs) J)/\Nd w20 tO (dd m (bitAt xs) J)/\Below w.heap.size w w20/\Fr w.heap.size so/\Fr w.heap.size tO from⟨Own.wd ((hO20.block g1 e1).trans d1),Own.wd ((hO20.block g2 e2).trans d2),kj (hO20.owns HQ2.o1 hgV),kj (hO20.owns HQ2.o2 hgV),bwr.trans (hO20.below (by omega)),jf HQ2.o1 (by omega),jf HQ2.o2 (by omega)⟩)
    have HC20:=ac C20;clear HQ HQ2 d1 d2 bwr hO20 HH zc C20;go_wp2
    (try simp only[Exit.inBlock,Exit.then]);obtain⟨p1,p2,p3,p4,p5⟩:=HF.out;rw[hJe]at p3 p4 hsc htc;have HC21:=HC20.out;rw[hJe]at HC21
    exact bodyPost_ret (bJ rfl (w.heap.size+1) _ rfl HC21 underlying40 eM) rfl ⟨g1,k1,g2,k2,so,sc,tO,tc,rfl,HK1.out,HK2.out,p1,p2,p3,p4,hsc,htc,p5⟩
theorem Bz(N:Int)(ao:Option Addr)(xs:List Nat)(cap:Nat)(w:World)(hx:Wd w ao xs)(hk:ar N xs=false):
  Qq 92 #[.agg #[.int .i64 N,.slice ao xs.length cap]] w (.tuple #[.agg #[.int .i64 0,.int .i64 0,.int .i64 0,.int .i64 0,.slice none 0 0,.int .i64 0,.slice none 0 0,.slice none 0 0,.slice none 0 0],.int .i64 2]):=by
 obtain⟨W,hW⟩:∃W,W=(w.alloc (.cells #[.int .i64 N,.slice ao xs.length cap] 33)).alloc (.cells #[.int .i64 0,.int .i64 0,.int .i64 0,.int .i64 0,.slice none 0 0,.int .i64 0,.slice none 0 0,.slice none 0 0,.slice none 0 0] 40):=⟨_,rfl⟩
 have bW:=cW hW;have B2:=dE hW
 have C1:Hid (Qz w 147 #[.agg #[.int .i64 N,.slice ao xs.length cap]] (.bool false)):=fun w0 h=>by
  have:=bi N ao xs cap w0 (hx.keep h);rw[hk]at this;exact this
 clear hx hk;go_enter func92,ntmps92;go_wp2_with fail;rw[<-hW];refine mr (C1.out _ bW) fun w1 hb=>?_;have bw1:=bg bW hb;replace B2:=B2.kept hb;clear hb C1 hW bW
 go_wp2_with (refine aP (w.heap.size+1) _ [.int .i64 0,.int .i64 0,.int .i64 0,.int .i64 0,.slice none 0 0,.int .i64 0,.slice none 0 0,.slice none 0 0,.slice none 0 0] rfl rfl B2 rfl eM (by simp[Value.oneCell']) ?_)
 intro w2 C2 hO;have HC:=ac C2;have bw2:=bw1.trans (hO.below (base:=w.heap.size) (by omega));clear C2 hO B2 bw1;go_wp2
 exact bodyPost_ret (bJ rfl (w.heap.size+1) _ rfl HC.out underlying40 eM) rfl ⟨rfl,bw2⟩
theorem Jb(N:Int)(ao:Option Addr)(xs:List Nat)(cap:Nat)(w:World)(hN:ax N)(hx:Wd w ao xs)(hf:Fit xs)(hcap:xs.length<=cap)(hl:xs.length<=1048576)(G:GV w):
  Calls prog 92 #[.agg #[.int .i64 N,.slice ao xs.length cap]] w fun e w'=>∃cs:List Value,e=.returned (.tuple #[.agg cs.toArray,.int .i64 (kE8 N xs)])/\ba w' cs (kB8 N xs)/\NF w.heap.size 7 cs/\Below w.heap.size w w':=by
 cases hk:ar N xs with
 | false=>
  refine mr (Bz N ao xs cap w hx hk) fun w' hb=>?_;have e1:fP N xs=0:=by unfold fP;rw[hk];rfl
  have e2:fQ N xs=0:=by unfold fQ;rw[hk];rfl
  have e3:fN N xs=0:=by unfold fN;rw[hk];rfl
  have e4:eV N xs=0:=by unfold eV;rw[hk];rfl
  have e5:dZ N xs=[]:=by unfold dZ;rw[hk];rfl
  have e6:eW N xs=0:=by unfold eW;rw[hk];rfl
  have e7:dY N xs=[]:=by unfold dY;rw[hk];rfl
  have e8:dG N xs=[]:=by unfold dG;rw[hk];rfl
  have e9:dX N xs=[]:=by unfold dX;rw[hk];rfl
  have eE:kE8 N xs=2:=by unfold kE8 m_;rw[hk];rfl
  have R:RO w.heap.size w' (dZ N xs) (dY N xs) (dG N xs) (dX N xs) none 0 none 0 none 0 none 0:=by
   rw[e5,e7,e8,e9];exact⟨fun h=>absurd h (Nat.lt_irrefl _),Nat.le_refl _,fun h=>absurd h (Nat.lt_irrefl _),Nat.le_refl _,jk _ _,Nat.le_refl _,jk _ _,Nat.le_refl _,bE _,bE _⟩
  refine⟨_,?_,R.ki (G.kept hb),R.nf,hb⟩;rw[eE,e1,e2,e3,e4,e5,e6,e7,e8,e9];rfl
 | true=>
  obtain⟨h0,h1,_,_⟩:=bp N xs hk;obtain⟨m,rfl⟩:=Int.eq_ofNat_of_zero_le h0;refine(Bv m ao xs cap w hx hf hk (by omega) G).mono ?_
  rintro e w' ⟨g1,k1,g2,k2,so,sc,tO,tc,rfl,hk1,hk2,p1,p2,p3,p4,q1,q2,hb,f1,f2⟩;have e1:fP (m:Int) xs=(m:Int):=by unfold fP;rw[hk];rfl
  have e2:fQ (m:Int) xs=(nb m:Int):=by unfold fQ;rw[hk,Int.toNat_natCast];rfl
  have e3:fN (m:Int) xs=4:=by unfold fN;rw[hk];rfl
  have e4:eV (m:Int) xs=(nb m:Int)*4:=by unfold eV;rw[hk,Int.toNat_natCast];rfl
  have e5:dZ (m:Int) xs=rC m (bitAt xs):=by unfold dZ;rw[hk,Int.toNat_natCast];rfl
  have e6:eW (m:Int) xs=(bat m (bitAt xs) (nb m):Int):=by unfold eW;rw[hk,Int.toNat_natCast];rfl
  have e7:dY (m:Int) xs=rO m (bitAt xs):=by unfold dY;rw[hk,Int.toNat_natCast];rfl
  have e8:dG (m:Int) xs=rS m (bitAt xs):=by unfold dG;rw[hk,Int.toNat_natCast];rfl
  have e9:dX (m:Int) xs=rT m (bitAt xs):=by unfold dX;rw[hk,Int.toNat_natCast];rfl
  have lC:(rC m (bitAt xs)).length=k1:=by unfold rC mkS;rw[cU,gq,hk1]
  have lO:(rO m (bitAt xs)).length=k2:=by unfold rO frL;rw[cU,mo,hk2]
  have lS:(rS m (bitAt xs)).length=gN m:=by unfold rS;rw[kt]
  have lT:(rT m (bitAt xs)).length=gN m:=by unfold rT;rw[mi]
  have R:RO w.heap.size w' (dZ (m:Int) xs) (dY (m:Int) xs) (dG (m:Int) xs) (dX (m:Int) xs) (some ⟨g1,0,none⟩) k1 (some ⟨g2,0,none⟩) k2 so sc tO tc:=by
   rw[e5,e7,e8,e9];exact⟨p1,by omega,p2,by omega,p3,by omega,p4,by omega,f1,f2⟩
  refine⟨_,?_,R.ki (G.kept hb),R.nf,hb⟩;rw[qx _ _ hk,e1,e2,e3,e4,e5,e6,e7,e8,e9,lC,lO,lS,lT]
end Go.Proofs.YtleegaihbgbcjaaGreatDoor
namespace Go.Proofs.YtleegaihbgbcjaaGreatDoor
open Go.RowKit Go.Shelf Num Bit
attribute [local go_sem] Oper.semAt_some
theorem Fl(l:List Nat)(q:Nat)(h:q<l.length)(j:Nat):isIn (l.take (q+1)) j=(isIn (l.take q) j||gt l q==j):=by
 rw[sI l q h,vB]
theorem aL.kept{K:Nat->Prop}{g:Nat}{w w':World}(h:aL g w w')(hg:¬K g):az K w w':=⟨h.os,h.tape,h.output,Nat.le_of_eq h.size.symm,fun b hb _=>h.block b (fun e=>hg (e ▸ hb))⟩
theorem iN:(prog.info? 33).map (·.size)=some 2:=by kernel_rfl
theorem Gl(a0 a1 a2 a3 a4 a5 a6 a7:Value)(w:World)(CC:Hid (Qz w 176 #[.agg #[a0,a1,a2,a3,a4,a5,a6,a7]] (.bool false))):
  Qq 131 #[.agg #[a0,a1,a2,a3,a4,a5,a6,a7]] w (.agg #[.int .i64 0,.slice none 0 0]):=by
 .skip;refine(callsIn_wide (n:=0)).1 (callsIn_of_wp_marks func131 rfl trivial ?_)
  simp only[ntmps131,List.size_toArray,List.length_cons,List.length_nil,Nat.reduceAdd,Nat.reduceSub,Array.replicate_succ,Array.replicate_zero,List.push_toArray,List.append_toArray,List.nil_append,List.cons_append]
  refine wpIn_wide.2 ?_;obtain⟨W1,hW1⟩:∃W1,W1=(w.alloc (.cells #[a0,a1,a2,a3,a4,a5,a6,a7] 42)).alloc (.cells #[.int .i64 0,.slice none 0 0] 33):=⟨_,rfl⟩
  have b1:Below w.heap.size w W1:=by rw[hW1];exact((below_alloc w _).alloc (by simp only[World.size_alloc];omega) _)
  have z1:W1.heap.size=w.heap.size+2:=by rw[hW1];simp
  have c1:aa W1 (w.heap.size+1) [.int .i64 0,.slice none 0 0] 33:=by rw[hW1];exact aa.new2 w _ _ _
  go_wp2_with fail;rw[<-hW1];clear hW1;refine mr (CC.out _ b1) fun wf hb=>?_;replace b1:=bg b1 hb;replace c1:=c1.kept hb;clear hb CC z1
  go_wp2_with (refine aP (w.heap.size+1) [.int .i64 0,.slice none 0 0] [.int .i64 0,.slice none 0 0] rfl rfl c1 rfl iN (by simp[Value.oneCell']) ?_);intro w3 B3 O3
  have HZ:Hid (aa w3 (w.heap.size+1) [.int .i64 0,.slice none 0 0] 33/\Below w.heap.size w w3):=⟨B3,b1.trans (O3.below (Nat.le_succ _))⟩;clear B3 O3 b1 c1;go_wp2
  exact⟨_,fM rfl (w.heap.size+1) _ rfl HZ.out.1 underlying33 iN,rfl,HZ.out.2⟩
theorem Gk(n mm kn vn hh:Nat)(LM:Int)(ao:Option Addr)(xs:List Nat)(cap:Nat)(qo:Option Addr)(ys:List Nat)(dap:Nat)(l:List Nat)(w:World)(F:fD n mm kn vn LM xs hh ys)(hx:Wd w ao xs)(fx:Fit xs)(hy:Wd w qo ys)(fy:Fit ys)(hl:l.length=mm)(hg:∀q,q<mm->plq n mm xs hh ys q=gt l q)(hr:aR l n)(CC:Hid (Qz w 176 #[.agg #[.int .i64 n,.int .i64 mm,.int .i64 kn,.int .i64 vn,.int .i64 LM,.slice ao xs.length cap,.int .i64 hh,.slice qo ys.length dap]] (.bool true))):
  Calls prog 131 #[.agg #[.int .i64 n,.int .i64 mm,.int .i64 kn,.int .i64 vn,.int .i64 LM,.slice ao xs.length cap,.int .i64 hh,.slice qo ys.length dap]] w fun e w'=>∃bo bc,e=.returned (.agg #[.int .i64 n,.slice bo (rowOf n (isIn l)).length bc])/\Wd w' bo (rowOf n (isIn l))/\(rowOf n (isIn l)).length<=bc/\Below w.heap.size w w':=by
 have nl:=F.hn;obtain⟨k,hk0⟩:∃k,Hid (k=(n+63)/64):=⟨_,rfl⟩;have HL:Hid (∀f:Nat->Bool,(rowOf n f).length=k):=fun f=>by rw[cU,hk0.out]
 have NC:Hid (∀w0,Calls prog 90 #[.int .i64 n] w0 fun e w'=>∃g,e=.returned (.tuple #[.agg #[.int .i64 n,.slice (some ⟨g,0,none⟩) k k],.int .i64 0])/\w0.heap.size<=g/\g<w'.heap.size/\Own w' g (rowOf n (fun _=>false))/\Below w0.heap.size w0 w'):=fun w0=>by
  have:=lZ (n:Int) k w0 (by omega) (by omega) (by rw[hk0.out];omega);rw[lM n k hk0.out]at this;exact this
 have SC:Hid (∀w0 g f p,Own w0 g (rowOf n f)->p<n->Calls prog 203 #[.slice (some ⟨g,0,none⟩) k k,.int .i64 (p:Nat)] w0 fun e w'=>(∃v,e=.returned v)/\Own w' g (rowOf n (fun j=>f j||p==j))/\aL g w0 w'):=fun w0 g f p hO hp=>by
  have:=wh n f g k p w0 hO hp nl;rw[HL.out f]at this;exact this
 refine(callsIn_wide (n:=0)).1 (callsIn_of_wp_marks func131 rfl trivial ?_)
 simp only[ntmps131,List.size_toArray,List.length_cons,List.length_nil,Nat.reduceAdd,Nat.reduceSub,Array.replicate_succ,Array.replicate_zero,List.push_toArray,List.append_toArray,List.nil_append,List.cons_append]
 refine wpIn_wide.2 ?_
 have PC:Hid (∀w0,Calls prog 202 #[.agg #[.int .i64 n,.int .i64 mm,.int .i64 kn,.int .i64 vn,.int .i64 LM,.slice ao xs.length cap,.int .i64 hh,.slice qo ys.length dap]] w0 fun e w'=>e=.returned (.func (.func 257) #[] #[.pointer (some ⟨w0.heap.size,0,none⟩),.pointer (some ⟨w0.heap.size+1,0,none⟩)])/\aa w' w0.heap.size [.int .i64 n,.int .i64 mm,.int .i64 kn,.int .i64 vn,.int .i64 LM,.slice ao xs.length cap,.int .i64 hh,.slice qo ys.length dap] 42/\aa w' (w0.heap.size+1) [.int .i64 (wdF n mm:Nat)] 3/\w'.heap.size=w0.heap.size+2/\Below w0.heap.size w0 w'):=fun w0=>kP n mm kn vn hh LM ao xs cap qo ys dap F.hn F.hm w0
 obtain⟨W1,hW1⟩:∃W1,W1=(w.alloc (.cells #[.int .i64 n,.int .i64 mm,.int .i64 kn,.int .i64 vn,.int .i64 LM,.slice ao xs.length cap,.int .i64 hh,.slice qo ys.length dap] 42)).alloc (.cells #[.int .i64 0,.slice none 0 0] 33):=⟨_,rfl⟩
 have b1:Below w.heap.size w W1:=by rw[hW1];exact((below_alloc w _).alloc (by simp only[World.size_alloc];omega) _)
 have z1:W1.heap.size=w.heap.size+2:=by rw[hW1];simp
 have c0:aa W1 w.heap.size [.int .i64 n,.int .i64 mm,.int .i64 kn,.int .i64 vn,.int .i64 LM,.slice ao xs.length cap,.int .i64 hh,.slice qo ys.length dap] 42:=by rw[hW1];exact(aa.new w _ _).alloc _
 have c1:aa W1 (w.heap.size+1) [.int .i64 0,.slice none 0 0] 33:=by rw[hW1];exact aa.new2 w _ _ _
 go_wp2_with fail;rw[<-hW1];clear hW1;refine mr (CC.out _ b1) fun wf hb=>?_;replace b1:=bg b1 hb;replace c0:=c0.kept hb;replace c1:=c1.kept hb
 have zf:w.heap.size+2<=wf.heap.size:=by have:=hb.size;omega
 clear hb CC z1;have q0:=c0.cell 0 rfl;go_wp2_with fail;refine(NC.out _).mono ?_;rintro e w2 ⟨g,rfl,hg1,hg2,hO,hb⟩;replace b1:=bg b1 hb;replace c0:=c0.kept hb;replace c1:=c1.kept hb;clear hb q0 NC
 obtain⟨g2,hgg⟩:∃g,g=w2.heap.size:=⟨_,rfl⟩;obtain⟨W2,hW2⟩:∃W2,W2=w2.alloc (.cells #[.int .i64 n,.slice (some ⟨g,0,none⟩) k k] 33):=⟨_,rfl⟩
 have bA:Below w2.heap.size w2 W2:=by rw[hW2];exact below_alloc w2 _
 have z2:W2.heap.size=g2+1:=by rw[hW2,hgg];simp
 have c2:aa W2 g2 [.int .i64 n,.slice (some ⟨g,0,none⟩) k k] 33:=by rw[hW2,hgg];exact aa.new w2 _ _
 have d0:aa (w2.alloc (.cells #[.int .i64 n,.slice (some ⟨g,0,none⟩) k k] 33)) w.heap.size [.int .i64 n,.int .i64 mm,.int .i64 kn,.int .i64 vn,.int .i64 LM,.slice ao xs.length cap,.int .i64 hh,.slice qo ys.length dap] 42:=c0.alloc _
 have q0:=d0.cell 0 rfl;have q1:=d0.cell 1 rfl;have q2:=d0.cell 2 rfl;have q3:=d0.cell 3 rfl;have q4:=d0.cell 4 rfl;have q5:=d0.cell 5 rfl;have q6:=d0.cell 6 rfl;have q7:=d0.cell 7 rfl;have HG:=aG hgg
 rw[<-hgg]at hg2;clear hgg;have HW2:=aG hW2;clear hW2;have HZF:=aG zf;have HG1:=aG hg1;clear zf hg1;go_wp2_with fail;rw[<-HW2.out];refine(PC.out _).mono ?_;rintro e w' ⟨rfl,cx,cw,z3,b3⟩
 rw[z2]at cx cw z3 b3;rw[z2,<-HG.out];have zf:=HZF.out;have hg1:=HG1.out;have zg:wf.heap.size<=g2:=by omega
 have b4:Below w.heap.size w w':=(bg b1 bA).trans (b3.mono (by omega));have bC:Below w2.heap.size w2 w':=bA.trans (b3.mono (by rw[<-HG.out];omega));replace c0:=c0.kept bC;replace c1:=c1.kept bC
 replace c2:=c2.keep b3 (by omega);replace hO:=hO.keep bC;clear b1 bA b3 bC PC HW2 d0 HG HZF HG1 q0 q1 q2 q3 q4 q5 q6 q7;go_wp2
 have G:=(kg n mm kn vn hh LM ao xs cap qo ys dap (fun b=>b≠g/\b≠w'.heap.size+1) w' (g2+1) (g2+1+1) F (hx.keep b4) fx (hy.keep b4) fy cx cw (by omega) (by omega) (fun p hp h0=>by have:=hx.blk hp h0;omega) (fun p hp h0=>by have:=hy.blk hp h0;omega)).enc (enc':=fun q=>#[.int .i64 q,.int .i64 (gt l q:Nat)]) (fun q hq=>by rw[hg q hq])
 have I0:Own w' g (rowOf n (isIn (l.take 0))):=by
  rw[dc n (isIn (l.take 0)) (fun _=>false) fun i _=>by simp[isIn]];exact hO
 clear hO
 refine iE (gf:=257) (lb:=#[.pointer (some ⟨g2+1,0,none⟩),.pointer (some ⟨g2+2,0,none⟩)]) (K:=fun b=>b≠g) rfl (enters_of func257 (by kernel_rfl) rfl) (fun _=>rfl) G (fun b hb=>by omega)
  (fun q Wc=>az (fun b=>b≠g) w' Wc/\Own Wc g (rowOf n (isIn (l.take q)))) (fun q Wc=>False) (fun q A B h hb=>⟨h.1.more hb (Nat.le_refl _),(hb.block g (by omega)).trans h.2⟩) (fun q A B h hb=>h) ⟨az.refl _ _,I0⟩
  (fun q=>{ tmps:=#[.agg #[.int .i64 n,.int .i64 mm,.int .i64 kn,.int .i64 vn,.int .i64 LM,.slice ao xs.length cap,.int .i64 hh,.slice qo ys.length dap],.pointer (some ⟨w.heap.size,0,none⟩),.pointer (some ⟨w.heap.size+1,0,none⟩),.pointer (some ⟨g2,0,none⟩),.int .i64 0,undef,.int .i64 (gt l q:Nat),.agg #[.int .i64 n,.int .i64 mm,.int .i64 kn,.int .i64 vn,.int .i64 LM,.slice ao xs.length cap,.int .i64 hh,.slice qo ys.length dap],.bool true,.bool false,undef,.tuple #[.agg #[.int .i64 n,.slice (some ⟨g,0,none⟩) k k],.int .i64 0],.pointer (some ⟨w.heap.size,0,none⟩),.int .i64 n,.tuple #[.agg #[.int .i64 n,.slice (some ⟨g,0,none⟩) k k],.int .i64 0],.agg #[.int .i64 n,.slice (some ⟨g,0,none⟩) k k],.int .i64 0,.agg #[.int .i64 n,.int .i64 mm,.int .i64 kn,.int .i64 vn,.int .i64 LM,.slice ao xs.length cap,.int .i64 hh,.slice qo ys.length dap],.func (.func 257) #[] #[.pointer (some ⟨g2+1,0,none⟩),.pointer (some ⟨g2+2,0,none⟩)],.int .i64 (q:Nat),.int .i64 (gt l q:Nat),undef,undef,undef,undef,undef],defers:=[] }) ?assign ?body ?done ?stop
 case assign=>
  intro l1 q Wc K1 hK1;gi_wp2;exact hK1
 case body=>
  rintro l1 q Wc hq ⟨hk,hO⟩ hz;have m1:=(hk.cel c2 (by omega)).cell 1 rfl;have hlt:=hr.1 q (by omega);have S1:=aG (SC.out Wc g _ (gt l q) hO hlt)
  have RW:Hid (rowOf n (fun j=>isIn (l.take q) j||gt l q==j)=rowOf n (isIn (l.take (q+1)))):=dc _ _ _ fun j _=>(Fl l q (by omega) j).symm;clear G hO;gi_wp2_with fail;refine⟨trivial,rfl,?_⟩
  refine(CallsIn.inRound l1 (callsIn_wide.2 S1.out)).mono ?_;rintro e W3 ⟨⟨v,rfl⟩,hO3,hT⟩;rw[RW.out]at hO3;have kT:az (fun b=>b≠g) Wc W3:=hT.kept (fun h=>h rfl)
  have HE:=aG (And.intro kT (And.intro (hk.trans kT) hO3));clear kT hT hO3 m1;gi_wp2;exact HE.out
 case done=>
  rintro D Wc hD ⟨hk,hO⟩ hd;rw[<-hl,List.take_of_length_le (Nat.le_refl _)]at hO;have cR:=hk.cel c1 (by omega);have cB:=hk.cel c2 (by omega)
  have hb:=b4.trans (hk.below (B:=w.heap.size) (fun x h=>by omega) (by omega));have DN:D≠g/\D≠w.heap.size+1/\w.heap.size<=D:=⟨by omega,by omega,by omega⟩
  have gN:g≠w.heap.size+1/\w.heap.size<=g:=⟨by omega,by omega⟩;clear hk c0 c1 c2 cx cw
  go_wp2_with (first | refine iJ g2 _ rfl cB underlying33 iN ?_ | refine aP (w.heap.size+1) [.int .i64 0,.slice none 0 0] _ rfl rfl cR rfl iN (by simp[Value.oneCell']) ?_);intro w3 B3 O3
  have b5:=hb.trans (O3.below (Nat.le_succ _));have hO3:Own w3 g (rowOf n (isIn l)):=(O3.block g gN.1).trans hO;have hd3:w3.heap[D]?=some (.deferred (some [])):=(O3.block D DN.2.1).trans hd
  have HZ:=aG (And.intro B3 (And.intro hO3 (And.intro hd3 b5)));clear B3 O3 hO3 hd3 b5 hd hO cB cR;go_wp2;obtain⟨B3,hO3,hd3,b5⟩:=HZ.out
  have cR2:=B3.put (.deferred none) (show w.heap.size+1≠D from fun e=>DN.2.1 e.symm);have hO4:Own (w3.putObj D (.deferred none)) g (rowOf n (isIn l)):=(World.putObj_heap_other (fun e=>DN.1 e.symm)).trans hO3
  refine fb hd3 (fM rfl (w.heap.size+1) _ rfl cR2 underlying33 iN) ⟨some ⟨g,0,none⟩,k,?_,hO4.wd,?_,b5.trans (dt DN.2.2 _)⟩
  .rw[HL.out]
  .exact Nat.le_of_eq (HL.out _)
 case stop=>
  rintro D q Wc hD hq h hd;exact h.elim
end Go.Proofs.YtleegaihbgbcjaaGreatDoor
