import Derived.Test.YtleegaihbgbcjabGreatDoorT27
set_option linter.unusedVariables false
set_option linter.unusedSimpArgs false
set_option maxRecDepth 100000
set_option maxHeartbeats 16000000
open Go.Proofs.Tryz
namespace Go.Proofs.YtleegaihbgbcjabGreatDoor
open Go.RowKit Num Bit
theorem KI.fit{w:World}{cs:List Value}{a:RA}(h:KI w cs a):aA (aY a):=by
 by_cases h1:kOn a=1
 .rw[(ge h1).2.2.1];obtain⟨⟨cp,cr,cf,_,_,⟨ao,cap,so,sc,tO,tc,_,h⟩,_⟩,_⟩:=h;exact Cx a.p.N a.p.xs a.p.S a.p.T h.f
 by_cases h2:kOn a=2
 .rw[(gc h2).2.2.1];exact qZ _
 by_cases h3:kOn a=3
 .rw[(fV h3).2.2.1];exact vM _
 rw[(fU h1 h2 h3).2.2.1];exact jz
theorem yK(cs:List Value)(a:RA)(w:World)(h:KI w cs a):
  Qq 70 #[.agg cs.toArray] w (.bool (aX a)):=
 yL cs (Hid.mk8 h.arg.len) (aX a) (kBN a) (aY a) w h.fit (kH a) (fun w0 hb=>sT cs a w0 (h.keep hb))
theorem yM(cs:List Value)(a:RA)(w:World)(h:KI w cs a):
  Calls prog 121 #[.agg cs.toArray] w fun e w'=>∃bo bc,e=.returned (.agg #[.int .i64 (kBN a),.slice bo (aY a).length bc])/\Wd w' bo (aY a)/\(aY a).length<=bc/\Below w.heap.size w w':=
 yN cs (Hid.mk8 h.arg.len) (aX a) (kBN a) (aY a) w h.fit (kH a) (fun w0 hb=>sT cs a w0 (h.keep hb))
theorem FI(a:RA)(h:aX a=false):kZ a=0:=by
 by_cases h1:kOn a=1
 .obtain⟨e1,_,_,e4⟩:=ge h1;rw[e4];unfold kZ7 ln;rw[show pchk a.p.N a.p.xs a.p.S a.p.T=false from e1.symm.trans h];rfl
 by_cases h2:kOn a=2
 .obtain⟨e1,_,_,e4⟩:=gc h2;rw[e4];unfold kZ8 kY;rw[show cH a.r.N a.r.k a.r.V a.r.M a.r.xs a.r.L a.r.ys a.r.S a.r.T=false from e1.symm.trans h];rfl
 by_cases h3:kOn a=3
 .obtain⟨e1,_,_,e4⟩:=fV h3;rw[e4];unfold kZ9;rw[if_neg (by rw[<-e1,h];decide)]
 exact(fU h1 h2 h3).2.2.2
theorem yI(cs:List Value)(a:RA)(w:World)(h:KI w cs a):
  Qq 40 #[.agg cs.toArray] w (.int .i64 (kZ a)):=by
 have CH0:=fun(w0:World) (hb:Below w.heap.size w w0)=>yK cs a w0 (h.keep hb);have HL:=Hid.mk8 h.arg.len;have sm:=h.sm;have gv:=h.gv;replace h:=h.arg;obtain⟨cp,cr,cf,rfl,hK,h1,h2,h3⟩:=h
 have l4:=Hid.mk8 h1.four;have l9:=Hid.mk8 h2.nine;have LP:=Hid.mk8 h1.len;have LR:=Hid.mk8 h2.len;have LF:=Hid.mk8 h3.len;obtain⟨K,p,r,f⟩:=a;dsimp only at *;have k7:b_ w cp p:=⟨h1,sm.p1,sm.p2,sm.p3⟩
 have k8:bm w cr r:=⟨h2,sm.r1,sm.r2,sm.r3,sm.r4,gv⟩;have k9:bJ w cf f:=⟨h3,sm.f0,sm.f1,sm.f2⟩
 have CH:Hid (Qz w 70 #[.agg (Value.int .i64 K::(cp++(cr++cf))).toArray] (.bool (aX ⟨K,p,r,f⟩))):=CH0
 clear CH0 h1 h2 h3 sm gv;have bw:Below w.heap.size w (w.alloc (.cells (Value.int .i64 K::(cp++(cr++cf))).toArray 63)):=below_alloc w _
 have B0:aa (w.alloc (.cells (Value.int .i64 K::(cp++(cr++cf))).toArray 63)) w.heap.size (Value.int .i64 K::(cp++(cr++cf))) 63:=aa.new w _ _;cases hk:aX ⟨K,p,r,f⟩with
 | false=>
  rw[FI _ hk];rw[hk]at CH;clear hk k7 k8 k9;go_enter func40,ntmps40;go_wp2_with (refine bE w.heap.size _ (by rfl) rfl B0 underlying63 HL.out ?_);refine mr (CH.out _ bw) fun w1 hb=>?_
  replace B0:=B0.kept hb;replace bw:=bg bw hb;clear hb;obtain⟨c0,p1,p2,p3⟩:=parts l4.out l9.out B0;go_wp2;go_ret;exact⟨rfl,bw⟩
 | true=>
  have o:kOn ⟨K,p,r,f⟩=K/\(K=1\/K=2\/K=3):=by
   have e:kOn ⟨K,p,r,f⟩=K\/kOn ⟨K,p,r,f⟩=0:=by unfold kOn;split<;>simp
   by_cases o1:kOn ⟨K,p,r,f⟩=1
   .exact⟨by omega,by omega⟩
   by_cases o2:kOn ⟨K,p,r,f⟩=2
   .exact⟨by omega,by omega⟩
   by_cases o3:kOn ⟨K,p,r,f⟩=3
   .exact⟨by omega,by omega⟩
   rw[(fU o1 o2 o3).1]at hk;cases hk
  rw[hk]at CH;clear hk;obtain⟨o,q⟩:=o;rcases q with rfl | rfl | rfl
  .obtain⟨e1,e2,e3,e4⟩:=ge o;rw[e4]
   have C:Hid (Qz w 71 #[.agg cp.toArray] (.int .i64 (kZ7 p))):=fun w0 g=>Df cp p w0 (k7.keep g)
   clear e1 e2 e3 e4 k7 k8 k9 o;generalize kZ7 p=Z at *;go_enter func40,ntmps40;go_wp2_with (refine bE w.heap.size _ (by rfl) rfl B0 underlying63 HL.out ?_);refine mr (CH.out _ bw) fun w1 hb=>?_;replace B0:=B0.kept hb;replace bw:=bg bw hb;clear hb;obtain⟨c0,p1,p2,p3⟩:=parts l4.out l9.out B0
   go_wp2_with (refine aR w.heap.size 1 cp (by rfl) rfl p1 underlying55 LP.out ?_);refine mr (C.out _ bw) fun w2 hb=>?_;replace bw:=bg bw hb;go_wp2;go_ret;exact⟨rfl,bw⟩
  .obtain⟨e1,e2,e3,e4⟩:=gc o;rw[e4]
   have C:Hid (Qz w 72 #[.agg cr.toArray] (.int .i64 (kZ8 r))):=fun w0 g=>Bu cr r w0 (k8.keep g)
   clear e1 e2 e3 e4 k7 k8 k9 o;generalize kZ8 r=Z at *;go_enter func40,ntmps40;go_wp2_with (refine bE w.heap.size _ (by rfl) rfl B0 underlying63 HL.out ?_);refine mr (CH.out _ bw) fun w1 hb=>?_;replace B0:=B0.kept hb;replace bw:=bg bw hb;clear hb;obtain⟨c0,p1,p2,p3⟩:=parts l4.out l9.out B0
   go_wp2_with (refine aR w.heap.size 5 cr (by rfl) rfl p2 underlying59 LR.out ?_);refine mr (C.out _ bw) fun w2 hb=>?_;replace bw:=bg bw hb;go_wp2;go_ret;exact⟨rfl,bw⟩
  .obtain⟨e1,e2,e3,e4⟩:=fV o;rw[e4]
   have C:Hid (Qz w 73 #[.agg cf.toArray] (.int .i64 (kZ9 f))):=fun w0 g=>H_ cf f w0 (k9.keep g)
   clear e1 e2 e3 e4 k7 k8 k9 o;generalize kZ9 f=Z at *;go_enter func40,ntmps40;go_wp2_with (refine bE w.heap.size _ (by rfl) rfl B0 underlying63 HL.out ?_);refine mr (CH.out _ bw) fun w1 hb=>?_;replace B0:=B0.kept hb;replace bw:=bg bw hb;clear hb;obtain⟨c0,p1,p2,p3⟩:=parts l4.out l9.out B0
   go_wp2_with (refine aR w.heap.size 14 cf (by rfl) rfl p3 underlying61 LF.out ?_);refine mr (C.out _ bw) fun w2 hb=>?_;replace bw:=bg bw hb;go_wp2;go_ret;exact⟨rfl,bw⟩
end Go.Proofs.YtleegaihbgbcjabGreatDoor
namespace Go.Proofs.YtleegaihbgbcjabGreatDoor.Rz
open Go.RowKit Num Bit
def bv(l:List Bool):List Value:=l.map fun b=>Value.bool b
def bitsOf(xs:List Nat)(q:Nat):List Bool:=(List.range q).map (bitAt xs)
theorem JD(xs:List Nat)(q:Nat):bv (bitsOf xs q)++[.bool (bitAt xs q)]=bv (bitsOf xs (q+1)):=by
 unfold bv bitsOf;rw[List.range_succ,List.map_append,List.map_append];rfl
theorem owns_below{w w':World}{base e n:Nat}{v:Value}{vs:List Value}(h:w.ownsRow base e 1 v n vs)(hb:Below w.heap.size w w'):w'.ownsRow base e 1 v n vs:=by
 obtain⟨h1,h2 | ⟨g,cap,cur,e1,e2,hh,r⟩⟩:=h
 .exact⟨h1,.inl h2⟩
 .exact⟨h1,.inr ⟨g,cap,cur,e1,e2,(hb.block g ((Array.getElem?_eq_some_iff.1 hh).1)).trans hh,r⟩⟩
theorem bools_c(N:Int)(ao:Option Addr)(xs:List Nat)(cap:Nat)(w:World)(hx:Wd w ao xs)(hk:az N xs=true):
    Calls prog 122 #[.agg #[.int .i64 N,.slice ao xs.length cap]] w fun e w'=>∃v,e=.returned v/\w'.ownsRow w.heap.size 4 1 v N.toNat (bv (bitsOf xs N.toNat))/\Below w.heap.size w w':=by
  obtain⟨hc0,hc1,hc2,_⟩:=bp N xs hk;obtain⟨m,rfl⟩:=Int.eq_ofNat_of_zero_le hc0;obtain⟨i0,hi,hz0,hz1,hz2⟩:=info_parts Tryz.info4;have HL:Hid ((xs.length:Int)=((m:Int)+63)/64):=hc2;clear hc2
  go_enter func122,ntmps122;go_wp2
  go_loopw [3,4] (fun v i wr=>∃q:Nat,q<=m/\i=.int .i64 q/\wr.ownsRow (w.heap.size+1) 4 1 v q (bv (bitsOf xs q))/\(wr.cell? ⟨w.heap.size,0,none⟩=some (.int .i64 m)/\wr.cell? ⟨w.heap.size,1,none⟩=some (.slice ao xs.length cap))/\w.heap.size<wr.heap.size/\Below (w.heap.size+1) (w.alloc (.cells #[.int .i64 m,.slice ao xs.length cap] 53)) wr) (fun _ i _=>m-(intOf i).toNat)
  case atStart=>exact⟨0,Nat.zero_le _,rfl,World.ownsRow_nil _ _ _ _,⟨by simp,by simp⟩,by simp,Below.refl _ _⟩
  case round=>
    obtain⟨q,hq,rfl,hown,⟨r0,r1⟩,hz,hwr⟩:=hrel;have hw0:Below w.heap.size w wr:=(below_alloc w _).trans (hwr.mono (by omega));by_cases hlt:q<m
    . have hlt2:(q:Int)<(m:Int):=by omega
      go_wp2_with fail;refine mr (nC _ _ _ _ _ _ (hx.keep hw0) (by have:=HL.out;omega) (by omega)) fun w2 hb=>?_;have s0:=(hb.cell (p:=⟨w.heap.size,0,none⟩) hz).trans r0
      have s1:=(hb.cell (p:=⟨w.heap.size,1,none⟩) hz).trans r1;have hz2':w.heap.size<w2.heap.size:=Nat.lt_of_lt_of_le hz hb.size;have hw2:=hwr.trans (hb.mono (show w.heap.size+1<=wr.heap.size by omega))
      have hown2:=owns_below hown hb;clear hb r0 r1 hwr hz hown hw0
      go_wp2_with (at_builtin;refine wpList_append_own _ rfl _ _ 73 rfl (w.heap.size+1) 4 i0 (.bool false) 1 1 underlying73 hi hz0 hz1 hz2 rfl (by decide) _ _ _ rfl (hown2.alloc _) ⟨w2.heap.size,0,none⟩ 1 1 [.bool (bitAt xs q)] rfl rfl ?c1 ?c2 ?c3 ?c4 ?c5 ?_)
      case c1=>
        intro j u hj;match j,hj with
        | 0,hj=>simp at hj;subst hj;simp[Addr.add]
      case c2=>intro u hu;simp at hu;subst hu;rfl
      case c3=>unfold maxLen;omega
      case c4=>omega
      case c5=>simp;omega
      intro v' w3 hown3 hgrow _;have hrow:∀k,u3.ownBlock=some k->w.heap.size+1<=k:=fun k hk=>(hown2.lt k hk).1
      have hb3:Below (w.heap.size+1) (w2.alloc (.cells #[.bool (bitAt xs q)] 4)) w3:=(Below.refl _ _).grown hgrow (by simp;omega) hrow
      have hb4:Below (w.heap.size+1) w2 w3:=Below.trans ((Below.refl _ _).alloc (by omega) _) hb3;have p0:=(hb4.cell (p:=⟨w.heap.size,0,none⟩) (Nat.lt_succ_self _)).trans s0
      have p1:=(hb4.cell (p:=⟨w.heap.size,1,none⟩) (Nat.lt_succ_self _)).trans s1;have hz3:w.heap.size<w3.heap.size:=Nat.lt_of_lt_of_le hz2' hb4.size;have hw3:=hw2.trans hb4;rw[JD]at hown3
      have HO:Hid (w3.ownsRow (w.heap.size+1) 4 1 v' (q+1) (bv (bitsOf xs (q+1)))):=hown3;clear hgrow hown2 hb3 hb4 hown3 s0 s1 hrow hi hz0 hz1 hz2;go_wp2
      first
        | exact⟨⟨q+1,by omega,by go_num,HO.out,⟨p0,p1⟩,hz3,hw3⟩,by simp only[intOf];omega⟩
        | (go_roundw
           case rel=>exact⟨q+1,by omega,by go_num,HO.out,⟨p0,p1⟩,hz3,hw3⟩
           case measure=>simp only[intOf];omega)
    . have hqm:q=m:=by omega
      have HO:Hid (wr.ownsRow w.heap.size 4 1 u3 m (bv (bitsOf xs m))):=by
        rw[hqm]at hown;obtain⟨h1,h2 | ⟨g,c,cur,e1,e2,r⟩⟩:=hown
        . exact⟨h1,.inl h2⟩
        . exact⟨h1,.inr ⟨g,c,cur,e1,by omega,r⟩⟩
      clear hqm hown;go_wp2;go_ret;exact⟨u3,rfl,HO.out,hw0⟩
end Go.Proofs.YtleegaihbgbcjabGreatDoor.Rz
namespace Go.Proofs.YtleegaihbgbcjabGreatDoor
open Go.RowKit Num Bit
theorem Ew:(prog.info? 5).map (fun i=>(i.zero,i.size,i.bytes))=some (some (.int .u8 0),1,1):=by kernel_rfl
theorem Ed:∀q:Nat,q<8->(2:Int)^min (7-q) 8%256=((2^(7-q):Nat):Int):=by
 intro q hq;have:q=0\/q=1\/q=2\/q=3\/q=4\/q=5\/q=6\/q=7:=by omega
 rcases this with rfl | rfl | rfl | rfl | rfl | rfl | rfl | rfl<;>rfl
theorem Ck(q:Nat):2^(7-q)<256:=Nat.lt_of_le_of_lt (Nat.pow_le_pow_right (by decide) (Nat.sub_le _ _)) (by decide:2^7<256)
theorem FW(a:RA):az (kBN a) (aY a)=true:=by
 cases ok:aX a with
 | true=>exact kH a ok
 | false=>
  by_cases k1:kOn a=1
  .obtain⟨e1,e2,e3,_⟩:=ge k1;rw[e2,e3];unfold kBN7 kBX7 dz cU
   rw[if_neg (by rw[show pchk a.p.N a.p.xs a.p.S a.p.T=kOk7 a.p from rfl,<-e1,ok];decide),if_neg (by rw[show pchk a.p.N a.p.xs a.p.S a.p.T=kOk7 a.p from rfl,<-e1,ok];decide)];rfl
  by_cases k2:kOn a=2
  .obtain⟨e1,e2,e3,_⟩:=gc k2;rw[e2,e3];unfold kBN8 kBX8 fR dI
   rw[if_neg (by rw[show cH a.r.N a.r.k a.r.V a.r.M a.r.xs a.r.L a.r.ys a.r.S a.r.T=kOk8 a.r from rfl,<-e1,ok];decide),if_neg (by rw[show cH a.r.N a.r.k a.r.V a.r.M a.r.xs a.r.L a.r.ys a.r.S a.r.T=kOk8 a.r from rfl,<-e1,ok];decide)]
   rfl
  by_cases k3:kOn a=3
  .obtain⟨e1,e2,e3,_⟩:=fV k3;rw[e2,e3];unfold kBN9 kBX9;rw[if_neg (by rw[<-e1,ok];decide),if_neg (by rw[<-e1,ok];decide)];rfl
  obtain⟨_,e2,e3,_⟩:=fU k1 k2 k3;rw[e2,e3];rfl
theorem AH(i:Nat):vK .i64 (List.range i)++[.int .i64 (i:Nat)]=vK .i64 (List.range (i+1)):=by
 rw[List.range_succ,ia];rfl
def xS(w0:World)(L:List Nat)(e:Ending)(w':World):Prop:=∃bo bc,e=.returned (.slice bo L.length bc)/\Bd w' bo L/\Below w0.heap.size w0 w'
theorem nS{w0 w':World}(h:Below w0.heap.size w0 w'):xS w0 [] (.returned (.slice none 0 0)) w':=⟨none,0,rfl,sj _ _,h⟩
theorem AC(lo:Option Addr)(lc:Nat)(zo:Option Addr)(zc:Nat)(x:MR)(w:World)(h:MI w lo lc zo zc x):
  Calls prog 74 #[.agg #[.int .i64 x.K,.int .i64 x.N,.slice lo x.av.length lc,.slice zo x.zs.length zc]] w (xS w (mX x)):=by
 have bx:=aa.new w [.int .i64 x.K,.int .i64 x.N,.slice lo x.av.length lc,.slice zo x.zs.length zc] 27;have bw:=below_alloc w (.cells #[.int .i64 x.K,.int .i64 x.N,.slice lo x.av.length lc,.slice zo x.zs.length zc] 27)
 have hn64:=h.n;by_cases q1:x.av.length=8;rotate_left
 .have e:mX x=[]:=by unfold mX;rw[vw (.inl q1)];rfl
  rw[e];have q3:((x.av.length:Int) != 8)=true:=by simp;omega
  have lm:=h.lm;clear h e;generalize x.N=N at *;generalize x.K=K at *;generalize x.av.length=m at *;generalize x.zs.length=m2 at *;go_enter func74,ntmps74;go_wp2;go_ret;exact nS bw
 by_cases q2:x.N<0\/8192<x.N
 .have e:mX x=[]:=by unfold mX;rw[vw (.inr q2)];rfl
  rw[e,q1];rw[q1]at bw bx;clear h e q1;generalize x.N=N at *;generalize x.K=K at *;generalize x.zs.length=m2 at *;by_cases q3:N<0
  .clear q2;go_enter func74,ntmps74;go_wp2;go_ret;exact nS bw
  .have q4:(8192:Int)<N:=by omega
   clear q2;go_enter func74,ntmps74;go_wp2;go_ret;exact nS bw
 obtain⟨n,hn⟩:∃n:Nat,x.N=n:=⟨x.N.toNat,by omega⟩;have hn8:n<=8192:=by omega
 have hnt:x.N.toNat=n:=by omega
 obtain⟨b,off,rfl,hbl,_⟩:=h.l (by rw[q1];decide);have HTI:=ag h;obtain⟨Z,hZ⟩:∃Z,Hid (Z=mX x):=⟨_,rfl⟩;rw[<-hZ.out]
 have ZB:Hid ((∃l,l<8/\kBN (mrw x l)≠(n:Int))->Z=[]):=by
  rintro⟨l,h1,h2⟩;rw[hZ.out];unfold mX;rw[E6 l h1 (by rw[hn];exact h2)];rfl
 obtain⟨T,hT⟩:∃T,Hid (T=Mx.tx (ix x) n):=⟨_,rfl⟩
 have ZG:Hid ((∀l,l<8->kBN (mrw x l)=(n:Int))->Z=T):=fun hall=>by
  rw[hZ.out,hT.out];unfold mX;rw[vu q1 (by omega) (fun l hl=>by rw[hn];exact hall l hl),if_pos rfl,hnt]
 have TL:Hid (T.length=n):=by show _=_;rw[hT.out,Mx.length_tx]
 have TB:Hid (iR T):=by show iR T;rw[hT.out];exact Mx.byt_tx _ _
 have TR:Hid (∀q,q<8->Mx.rw_ T q=ix x q):=fun q hq=>by
  rw[hT.out];exact Mx.rw_tx (ix x) n (fun l _=>(qQ x l).trans hnt) q hq q (Nat.le_refl _)
 have CO:Hid (∀q,q<8->∃(cs:List Value) (X:List Nat) (M:Int),w.rangeAt b (off+q*22) cs/\(prog.info? 63).map (·.size)=some cs.length/\M=kBN (mrw x q)/\(∀w0,Below w.heap.size w w0->Calls prog 121 #[.agg cs.toArray] w0 fun e w'=>∃bo bc,e=.returned (.agg #[.int .i64 M,.slice bo X.length bc])/\Wd w' bo X/\Below w0.heap.size w0 w')/\(M=(n:Int)->∀w0 bo bc,Wd w0 bo X->Calls prog 122 #[.agg #[.int .i64 (n:Int),.slice bo X.length bc]] w0 fun e w'=>∃a8 c8,e=.returned (.slice a8 n c8)/\w'.ownsRow w0.heap.size 4 1 (.slice a8 n c8) n ((Mx.rw_ T q).map .bool)/\Below w0.heap.size w0 w')):=fun q hq=>by
  obtain⟨b',off',e,_,hrows⟩:=HTI.out.l (by rw[q1];decide);simp only[Option.some.injEq,Addr.mk.injEq,and_true]at e;obtain⟨rfl,rfl⟩:=e;obtain⟨cs,h1,h2⟩:=hrows q (by rw[q1];exact hq)
  refine⟨cs,aY (mrw x q),kBN (mrw x q),h1,h2.arg.len,rfl,fun w0 hb=>?_,fun hM w0 bo bc hd=>?_⟩
  .refine(yM cs (mrw x q) w0 (h2.keep hb)).mono ?_;rintro e w' ⟨bo,bc,rfl,g1,_,g2⟩;exact⟨bo,bc,rfl,g1,g2⟩
  .have hk:=FW (mrw x q);rw[hM]at hk;refine(Rz.bools_c (n:Int) bo (aY (mrw x q)) bc w0 hd hk).mono ?_;rintro e w' ⟨v,rfl,h3,h4⟩;rw[Int.toNat_natCast]at h3;obtain⟨a8,c8,rfl, -, -⟩:=Ap.owns_shape h3
   refine⟨a8,c8,rfl,?_,h4⟩
   have e1:(Mx.rw_ T q).map Value.bool=Rz.bv (Rz.bitsOf (aY (mrw x q)) n):=by
    rw[TR.out q hq];unfold ix Rz.bv Rz.bitsOf;rw[hnt]
   rw[e1];exact h3
 have PT:Hid (∀w0 q oo oc a9 c9,Nd w0 oo (mI (Mx.pl T q))->Bl w0 a9 (Mx.rw_ T q)->Calls prog 36 #[.slice oo n oc,.slice a9 n c9] w0 fun e w'=>∃o2 c2,e=.returned (.slice o2 n c2)/\w'.ownsRow w0.heap.size 3 1 (.slice o2 n c2) n (vK .i64 (Mx.pl T (q+1)))/\Below w0.heap.size w0 w'):=fun w0 q oo oc a9 c9 h1 h2=>by
  have:=tF oo (Mx.pl T q) oc a9 c9 (fun j=>Mx.tb q (gt T j)) w0 h1 h2 (by rw[Mx.length_pl,TL.out];omega);rw[Mx.length_pl,TL.out]at this;refine this.mono ?_;rintro e w' ⟨o2,n2,c2,rfl,rfl,h3,h4⟩
  have e3:(Mx.pt (fun j=>Mx.tb q (gt T j)) (Mx.pl T q)).length=n:=by
   have:=Mx.length_pl T (q+1);rw[TL.out]at this;exact this
  rw[e3]at h3⊢;exact⟨o2,c2,rfl,h3,h4⟩
 have PL:Hid (∀q,(Mx.pl T q).length=n):=fun q=>by rw[Mx.length_pl,TL.out]
 have LR:Hid (∀q,(Mx.rw_ T q).length=n):=fun q=>by rw[Mx.length_rw,TL.out]
 have P0:Hid (vK .i64 (List.range n)=vK .i64 (Mx.pl T 0)):=by show _=vK .i64 (List.range T.length);rw[TL.out]
 have T0:Hid (vK .u8 (List.replicate n 0)=vK .u8 (Mx.txL T 0 0)):=by show _=_;rw[Mx.txL_zero TB.out,TL.out]
 have TN:Hid (∀q,Mx.txL T q n=Mx.txL T (q+1) 0):=fun q=>by rw[<-Mx.txL_next,TL.out]
 have TX:Hid (∀q j y,q<8->(Mx.pl T q)[j]?=some y->y<n/\gt (Mx.txL T q j) y<256/\(Mx.rw_ T q)[j]?=some (Mx.tb q (gt T y))/\(Mx.tb q (gt T y)=true->(Mx.txL T q j).set y (gt (Mx.txL T q j) y|||2^(7-q))=Mx.txL T q (j+1))/\(Mx.tb q (gt T y)=false->Mx.txL T q j=Mx.txL T q (j+1))):=fun q j y hq hy=>by
  obtain⟨g1,g2,g3⟩:=Mx.txL_step hy;refine⟨by rw[<-TL.out];exact g1,by rw[g2];exact Mx.top_lt (TB.out y),?_,fun e=>?_,fun e=>Mx.txL_skip TB.out hq hy e⟩
  .unfold Mx.rw_;rw[List.getElem?_map,hy];rfl
  .rw[g2,Mx.top_on (TB.out y) hq e];exact g3
 have TLL:Hid (∀q j,(Mx.txL T q j).length=n):=fun q j=>by rw[Mx.length_txL,TL.out]
 have T8:Hid (Mx.txL T 8 0=T):=Mx.txL_all T;rw[q1,hn]at bx bw⊢;clear h hn64 hZ q2 hT TR TB HTI;generalize x.K=K at *;generalize x.zs.length=m2 at *;obtain⟨i5,hi5,za5,zb5,zc5⟩:=info_parts Ew
 obtain⟨i3,hi3,za3,zb3,zc3⟩:=info_parts jL;have nn0:¬(n:Int)<0:=by omega
 have nn1:¬(8192:Int)<(n:Int):=by omega
 have nn2:(0:Int)<=(n:Int):=by omega
 clear hn q1 hnt;go_enter func74,ntmps74;go_wp2_with (at_make;refine wpList_make_full _ rfl _ _ 22 rfl (w.heap.size+1) 5 i5 (.int .u8 0) 1 underlying22 hi5 za5 zb5 .i64 .i64 _ _ n rfl rfl rfl rfl ?b2 ?b3 ?b4 ?_)
 case b2=>first | (rw[zc5];omega) | omega
 case b3=>unfold maxLen;omega
 intro w2 hown hgr;have c3:=fi hown;have hz:(w.alloc (.cells [.int .i64 K,.int .i64 (n:Int),.slice (some ⟨b,off,none⟩) 8 lc,.slice zo m2 zc].toArray 27)).heap.size=w.heap.size+1:=by simp
 have b2:Below (w.heap.size+1) (w.alloc (.cells [.int .i64 K,.int .i64 (n:Int),.slice (some ⟨b,off,none⟩) 8 lc,.slice zo m2 zc].toArray 27)) w2:=(Below.refl _ _).grown hgr (by rw[hz];exact Nat.le_refl _) (fun k h=>by cases h)
 replace bx:=bx.keep b2 (by omega);replace bw:=bw.trans (b2.mono (by omega));rw[T0.out]at c3;obtain⟨g3,hg3⟩:∃g3,g3=w.heap.size+1:=⟨_,rfl⟩;rw[<-hg3]at c3⊢;have l3:w.heap.size<g3:=by omega
 clear hg3 hown hgr b2 hz T0;have H2:=ag (And.intro bx (And.intro c3 bw));have x1:=bx.cell 1 rfl;clear bx c3 bw;go_wp2
 go_loopw [5,4] (fun s v wr=>∃i:Nat,i<=n/\s=.int .i64 i/\wr.ownsRow w2.heap.size 3 1 v i (vK .i64 (List.range i))/\Below w2.heap.size w2 wr) (fun s _ _=>n-(intOf s).toNat)
 case atStart=>exact⟨0,Nat.zero_le _,rfl,World.ownsRow_nil _ _ _ _,Below.refl _ _⟩
 case round=>
  obtain⟨i,hin,rfl,own4,jb⟩:=hrel;obtain⟨a4,c4,rfl,hc4, -⟩:=Ap.owns_shape own4;have x1':=((H2.out.1.kept jb).cell 1 rfl);clear x1;by_cases hlt:i<n
  .have hlt2:(i:Int)<(n:Int):=by omega
   have bs:=ag (AH i);have bA:=below_alloc wr (.cells #[.int .i64 (i:Int)] 3);have own3:=Ap.owns_below own4 bA
   have src3:(wr.alloc (.cells #[.int .i64 (i:Int)] 3)).cell? ⟨wr.heap.size,0,none⟩=some (.int .i64 (i:Int)):=(aa.new wr [.int .i64 (i:Int)] 3).cell 0 rfl;have jb3:=bg jb bA
   have g3':w2.heap.size<=(wr.alloc (.cells #[.int .i64 (i:Int)] 3)).heap.size:=jb3.size;clear bA own4 jb;generalize vK .i64 (List.range i)=L4 at *
   go_wp2_with (at_builtin;refine Ap.wpList_append_u rfl _ _ 25 rfl w2.heap.size 3 i3 (.int .i64 0) 8 underlying25 hi3 za3 zb3 zc3 rfl (.slice a4 i c4) i L4 rfl own3 (some ⟨wr.heap.size,0,none⟩) 1 1 [.int .i64 (i:Int)] rfl rfl ?d1 ?d2 ?d3 ?d4 ?d5 ?_)
   case d1=>exact fun _=>⟨_,rfl,fun j u hj=>by
    match j,hj with
    | 0,hj=>simp at hj;subst hj;exact src3⟩
   case d2=>intro u hu;simp at hu;subst hu;rfl
   case d3=>unfold maxLen;omega
   case d4=>omega
   case d5=>exact g3'
   intro so sc w4 own4 hle4 hB4;have HO:=ag (And.intro own4 (jb3.trans hB4));clear own4 own3 hB4 jb3 src3 g3' x1';go_wp2;refine⟨⟨i+1,by omega,by go_num,?_,HO.out.2⟩,by simp only[intOf];omega⟩;rw[<-bs.out]
   exact HO.out.1
  .obtain rfl:i=n:=by omega
   rw[P0.out]at own4;have H3:=ag (And.intro own4 (And.intro (H2.out.1.kept jb) (And.intro (H2.out.2.1.kept jb) (H2.out.2.2.trans (jb.mono H2.out.2.2.size)))));clear own4 jb H2 P0;go_wp2;clear x1'
   go_loopw [6,4] (fun s v wr=>∃(q:Nat) (oo:Option Addr) (oc B:Nat),q<=8/\s=.int .i64 q/\v=.slice oo i oc/\Hid (∀l,l<q->kBN (mrw x l)=(i:Int))/\Hid (wr.ownsRow B 3 1 (.slice oo i oc) i (vK .i64 (Mx.pl T q)))/\Hid (aa wr w.heap.size [.int .i64 K,.int .i64 (i:Int),.slice (some ⟨b,off,none⟩) 8 lc,.slice zo m2 zc] 27)/\Hid (aa wr g3 (vK .u8 (Mx.txL T q 0)) 5)/\Hid (Below w.heap.size w wr)) (fun s _ _=>8-(intOf s).toNat)
   case atStart=>exact⟨0,_,_,_,Nat.zero_le _,rfl,rfl,ag (fun l hl=>absurd hl (by omega)),ag H3.out.1,ag H3.out.2.1,ag H3.out.2.2.1,ag H3.out.2.2.2⟩
   case round=>
    obtain⟨q,oo,oc,B,hq,rfl,rfl,HA,HO,HX,H3',HW⟩:=hrel;clear H3;by_cases hi:q<8
    .have hi2:(q:Int)<8:=by omega
     obtain⟨cs,X,M,rg,HL0,hM0,BI0,BO0⟩:=CO.out q hi;have HL:=ag HL0;have BI:=ag BI0;have BO:=ag BO0;have HM0:=ag hM0;have rg2:=jG rg HW.out hbl;have x2:=HX.out.cell 2 rfl
     have TXq:=ag (fun j y=>TX.out q j y hi);have TNq:=ag (TN.out q);have PTq:=ag (fun w0 oo oc a9 c9=>PT.out w0 q oo oc a9 c9);have PLq:=ag (PL.out q);have LRq:=ag (LR.out q)
     have TLq:=ag (TLL.out q);clear CO HL0 BI0 BO0 hM0 rg TX TN PT PL LR TLL T8;go_wp2_with (refine aR b (off+q*22) cs (by rfl) rfl rg2 underlying63 HL.out ?_);refine(BI.out _ HW.out).mono ?_
     rintro e w3 ⟨bo,bc,rfl,wd,hb3⟩;replace HX:=ag (HX.out.kept hb3);replace H3':=ag (H3'.out.kept hb3);replace HO:=ag (Ap.owns_below HO.out hb3);replace HW:=ag (bg HW.out hb3)
     clear hb3 rg2 x2 BI;have c7:=aa.new w3 [.int .i64 M,.slice bo X.length bc] 53;have b7:=below_alloc w3 (.cells [.int .i64 M,.slice bo X.length bc].toArray 53);replace HX:=ag (HX.out.kept b7)
     replace H3':=ag (H3'.out.kept b7);replace HO:=ag (Ap.owns_below HO.out b7);replace wd:=wd.keep b7;replace HW:=ag (bg HW.out b7);clear b7;have z0:=c7.cell 0 rfl
     have z1:=c7.cell 1 rfl;have x1:=HX.out.cell 1 rfl;by_cases dM:M=(i:Int);rotate_left
     .have dM2:(M != (i:Int))=true:=by simp[dM]
      have E:Hid (Z=[]):=ZB.out ⟨q,hi,by rw[<-HM0.out];exact dM⟩;clear wd c7;go_wp2;go_ret;rw[E.out];exact nS HW.out
     have HM:=ag (show ∀l,l<q+1->kBN (mrw x l)=(i:Int)from fun l hl=>by
      by_cases e:l=q
      .rw[e,<-HM0.out];exact dM
      .exact HA.out l (by omega))
     have BO1:=ag (BO.out dM);clear HM0 HA BO;subst dM;go_wp2_with fail;refine(BO1.out _ bo bc wd).mono ?_;rintro e w5 ⟨a8,c8,rfl,own8,hb5⟩;have H8:=ag own8;replace HX:=ag (HX.out.kept hb5)
     replace H3':=ag (H3'.out.kept hb5);replace HO:=ag (Ap.owns_below HO.out hb5);replace HW:=ag (bg HW.out hb5);clear hb5 own8 wd c7 z0 z1 x1 BO1;have WQ:=Ed q hi;have wl:=Ck q
     obtain⟨kk,hk⟩:∃kk,7-q=kk:=⟨_,rfl⟩;have mk:IntKind.i64.wrap (7-(q:Int))=(kk:Int):=by rw[IntKind.wrap_i64];omega
     have hk0:(0:Int)<=(kk:Int):=by omega
     have hk8:(kk:Int)<8:=by omega
     rw[hk]at WQ wl TXq;generalize (2:Nat)^kk=W at *;obtain⟨B8,hB8⟩:∃B8,B8=(w3.alloc (.cells [.int .i64 (i:Int),.slice bo X.length bc].toArray 53)).heap.size:=⟨_,rfl⟩;rw[<-hB8]at H8;clear hB8 hk
     have HI:=ag (And.intro HX.out (And.intro H3'.out (And.intro HO.out (And.intro H8.out HW.out))));clear HX H3' HO H8 HW;go_wp2
     go_loopw [9] (fun s ws=>∃j:Nat,j<=i/\s=.int .i64 j/\Hid (aa ws w.heap.size [.int .i64 K,.int .i64 (i:Int),.slice (some ⟨b,off,none⟩) 8 lc,.slice zo m2 zc] 27/\aa ws g3 (vK .u8 (Mx.txL T q j)) 5/\ws.ownsRow B 3 1 (.slice oo i oc) i (vK .i64 (Mx.pl T q))/\ws.ownsRow B8 4 1 (.slice a8 i c8) i ((Mx.rw_ T q).map .bool)/\Below w.heap.size w ws)) (fun s _=>i-(intOf s).toNat)
     case atStart=>exact⟨0,Nat.zero_le _,rfl,HI⟩
     case round=>
      obtain⟨j,hji,rfl,HJ⟩:=hrel;clear HI;by_cases hlt:j<i
      .have hlt2:(j:Int)<(i:Int):=by omega
       obtain⟨y,hy0⟩:∃y,(Mx.pl T q)[j]?=some y:=⟨_,List.getElem?_eq_getElem (by rw[PLq.out];exact hlt)⟩;obtain⟨hy,hc,hr,hOn,hOff⟩:=TXq.out j y hy0;have HOn:=ag hOn;have HOff:=ag hOff
       have hy2:(y:Int)<(i:Int):=by omega
       obtain⟨ob,of_,rfl,hob,hoc⟩:=(mM HJ.out.2.2.1 PLq.out.symm) (by rw[dt,PLq.out];omega);have a0:=hoc j (by rw[dt,PLq.out];exact hlt)
       have ey:gt (Mx.pl T q) j=y:=by unfold gt;rw[List.getD_eq_getElem?_getD,hy0];rfl
       rw[iN _ _ (by rw[PLq.out];exact hlt),ey]at a0;obtain⟨bb,bf,rfl,hbb,hbc⟩:=(py HJ.out.2.2.2.1 LRq.out.symm) (by rw[LRq.out];omega);have a2:=hbc j (by rw[LRq.out];exact hlt)
       have eb:bt (Mx.rw_ T q) j=Mx.tb q (gt T y):=by unfold bt;rw[List.getD_eq_getElem?_getD,hr];rfl
       rw[eb]at a2;have cy:(vK .u8 (Mx.txL T q j))[y]?=some (.int .u8 (gt (Mx.txL T q j) y:Nat)):=gE _ _ _ (by rw[TLq.out];exact hy);have HCY:=ag cy;have OR:=qq (gt (Mx.txL T q j) y) W hc wl
       clear hoc hbc eb ey hr hOn hOff cy hob hbb;have HY:=ag hy0;clear hy0;generalize gt (Mx.txL T q j) y=C at *;generalize Mx.tb q (gt T y)=R at *;cases R with
       | true=>
        have HS:=HOn.out rfl;obtain⟨jx,j3,jo,j8,jw⟩:=HJ.out
        have c3':aa (wr.drew.setCell ⟨g3,y,none⟩ (.int .u8 ((C|||W:Nat):Int))) g3 (vK .u8 (Mx.txL T q (j+1))) 5:=by
         have:=j3.drew.set y (.int .u8 ((C|||W:Nat):Int));rw[nI,HS]at this;exact this
        have o3:aB g3 wr.drew (wr.drew.setCell ⟨g3,y,none⟩ (.int .u8 ((C|||W:Nat):Int))):=(aB.refl _ _).set y _;have dr:Below wr.heap.size wr wr.drew:=(Below.refl _ _).drew
        have HF:Hid (aa (wr.drew.setCell ⟨g3,y,none⟩ (.int .u8 ((C|||W:Nat):Int))) w.heap.size [.int .i64 K,.int .i64 (i:Int),.slice (some ⟨b,off,none⟩) 8 lc,.slice zo m2 zc] 27/\aa (wr.drew.setCell ⟨g3,y,none⟩ (.int .u8 ((C|||W:Nat):Int))) g3 (vK .u8 (Mx.txL T q (j+1))) 5/\(wr.drew.setCell ⟨g3,y,none⟩ (.int .u8 ((C|||W:Nat):Int))).ownsRow B 3 1 (.slice (some ⟨ob,of_,none⟩) i oc) i (vK .i64 (Mx.pl T q))/\(wr.drew.setCell ⟨g3,y,none⟩ (.int .u8 ((C|||W:Nat):Int))).ownsRow B8 4 1 (.slice (some ⟨bb,bf,none⟩) i c8) i ((Mx.rw_ T q).map .bool)/\Below w.heap.size w (wr.drew.setCell ⟨g3,y,none⟩ (.int .u8 ((C|||W:Nat):Int)))):=⟨o3.cel (jx.kept dr) (by omega),c3',jJ (Ap.owns_below jo dr) (j3.kept dr) (by decide) o3,jJ (Ap.owns_below j8 dr) (j3.kept dr) (by decide) o3,jw.drew.trans (o3.below (by omega))⟩
        have hS:aa wr.drew g3 (vK .u8 (Mx.txL T q j)) 5/\wr.drew.cell? ⟨ob,of_+j,none⟩=some (.int .i64 (y:Nat)):=⟨j3.kept dr,a0⟩;clear c3' o3 HS HOn HOff jx j3 jo j8 jw HJ dr;go_wp2
        refine ba [18] (fun w'=>aa w' g3 (vK .u8 (Mx.txL T q j)) 5/\w'.cell? ⟨ob,of_+j,none⟩=some (.int .i64 (y:Nat))) (by kernel_rfl) ?_
        clear a0 a2;generalize wr.drew=V at *;refine aK 0 hS ?_;refine aK 1 hS ?_;refine aK 2 hS ?_;refine aK 3 hS ?_
        refine aF 4 hS rfl (fun w0 h0=>by obtain⟨h01,h02⟩:=h0;go_simp;try with_reducible rfl) ?_;refine aK 5 hS ?_;refine aK 6 hS ?_;refine aK 7 hS ?_;refine aK 8 hS ?_
        refine aF 9 hS rfl (fun w0 h0=>by obtain⟨h01,h02⟩:=h0;go_simp;try with_reducible rfl) ?_;refine aK 10 hS ?_
        refine aF 11 hS rfl (fun w0 h0=>by have c1:=h0.1.cell y HCY.out;go_simp;try with_reducible rfl) ?_;refine aK 12 hS ?_;refine aK 13 hS ?_;refine aK 14 hS ?_;refine aK 15 hS ?_
        refine aK 16 hS ?_;refine aK 17 hS ?_;refine aO 18 ?_;intro K hK;have c1:=hS.1.cell y HCY.out;have f1:=hS.1.frozen y;go_simp;refine hK.out _ _ (fun h=>absurd (by decide) h) ?_;clear hK K
        try simp only[Act.put,ar,an,am,ah,aj,ai]
        refine aw.done (by kernel_rfl) ?_ _;clear hS c1 f1;go_wp2;refine⟨⟨j+1,by omega,by go_num,?_⟩,by simp only[intOf];omega⟩;first | exact HF | (rw[WQ,OR];exact HF)
       | false=>
        have HK:=HOff.out rfl
        have HF:Hid (aa wr w.heap.size [.int .i64 K,.int .i64 (i:Int),.slice (some ⟨b,off,none⟩) 8 lc,.slice zo m2 zc] 27/\aa wr g3 (vK .u8 (Mx.txL T q (j+1))) 5/\wr.ownsRow B 3 1 (.slice (some ⟨ob,of_,none⟩) i oc) i (vK .i64 (Mx.pl T q))/\wr.ownsRow B8 4 1 (.slice (some ⟨bb,bf,none⟩) i c8) i ((Mx.rw_ T q).map .bool)/\Below w.heap.size w wr):=by
         have:=HJ.out;rw[HK]at this;exact this
        clear HK HOn HOff HJ OR;go_wp2;exact⟨⟨j+1,by omega,by go_num,HF⟩,by simp only[intOf];omega⟩
      .obtain rfl:j=i:=by omega
       obtain⟨jx,j3,jo,j8,jw⟩:=HJ.out;rw[TNq.out]at j3;have P1:=ag (PTq.out wr oo oc a8 c8 (mM jo PLq.out.symm) (py j8 LRq.out.symm));have J:=ag (And.intro jx (And.intro j3 jw))
       clear jx j3 jo j8 jw HJ PTq TXq;go_wp2_with fail;refine P1.out.mono ?_;rintro e w9 ⟨a9,c9,rfl,own9,hb9⟩;have N1:=ag own9;have N2:=ag (J.out.1.kept hb9);have N3:=ag (J.out.2.1.kept hb9)
       have N4:=ag (J.out.2.2.trans (hb9.mono J.out.2.2.size));clear own9 hb9 P1 J;go_wp2;exact⟨⟨q+1,a9,c9,_,by omega,by go_num,rfl,HM,N1,N2,N3,N4⟩,by simp only[intOf];omega⟩
    .obtain rfl:q=8:=by omega
     have E:Hid (Z=T):=ZG.out HA.out;have HF:=ag (And.intro (bd_vK H3'.out) HW.out);rw[T8.out]at HF;clear CO HO HX H3' HW TX TN PT PL LR TLL;go_wp2;go_ret;rw[E.out]
     exact⟨_,_,by rw[TL.out];rfl,HF.out.1,HF.out.2⟩
theorem Dg(cs ds:List Value)(a b:cD)(w:World)(h:b_ w cs a)(g:b_ w ds b)(B:Bool)(hB:B=true↔a=b):
  Qq 114 #[.agg cs.toArray,.agg ds.toArray] w (.bool B):=by
 obtain⟨⟨ao,cap,so,sc,tO,tc,rfl,h⟩,xl,sl,tl⟩:=h;obtain⟨⟨bo,dap,po,pc,qo,qc,rfl,g⟩,_⟩:=g
 refine mr (tE a.N ao a.xs cap so a.S sc tO a.T tc b.N bo b.xs dap po b.S pc qo b.T qc w h.x g.x xl h.s g.s sl h.t g.t tl) fun w' hb=>?_;refine⟨?_,hb⟩;congr 2;rw[Bool.eq_iff_iff,hB];cases a;cases b
 simp[and_assoc]
theorem Bv(cs ds:List Value)(a b:aP)(w:World)(h:bm w cs a)(g:bm w ds b)(B:Bool)(hB:B=true↔a=b):
  Qq 115 #[.agg cs.toArray,.agg ds.toArray] w (.bool B):=by
 obtain⟨⟨ao,cap,qo,dap,so,sc,tO,tc,rfl,_,a1,a2,a3,a4,a5,a6,a7,a8,a9,a10⟩,xl,yl,sl,tl⟩:=h;obtain⟨⟨bo,bap,ro,eap,uo,uc,vo,vc,rfl,_,b1,b2,b3,b4,b5,b6,b7,b8,b9,b10⟩,_⟩:=g
 refine mr (tX a.N a.k a.V a.M ao a.xs cap a.L qo a.ys dap so a.S sc tO a.T tc b.N b.k b.V b.M bo b.xs bap b.L ro b.ys eap uo b.S uc vo b.T vc w a1 b1 xl a4 b4 yl a7 b7 sl a9 b9 tl) fun w' hb=>?_;refine⟨?_,hb⟩
 congr 2;rw[Bool.eq_iff_iff,hB];cases a;cases b;simp[and_assoc]
theorem Ia(cs ds:List Value)(a b:bF)(w:World)(h:bJ w cs a)(g:bJ w ds b)(B:Bool)(hB:B=true↔a=b):
  Qq 116 #[.agg cs.toArray,.agg ds.toArray] w (.bool B):=by
 obtain⟨⟨ao,cap,qo,dap,rfl,_,a1,a2,a3,a4,a5,a6⟩,n3,xl,yl⟩:=h;obtain⟨⟨bo,bap,ro,eap,rfl,_,b1,b2,b3,b4,b5,b6⟩,_⟩:=g
 refine mr (xd a.N a.M a.k a.V a.LM ao a.xs cap a.H qo a.ys dap b.N b.M b.k b.V b.LM bo b.xs bap b.H ro b.ys eap w a1 b1 a4 b4 xl yl) fun w' hb=>?_;refine⟨?_,hb⟩;congr 2;rw[Bool.eq_iff_iff,hB];cases a
 cases b;simp[and_assoc]
theorem mx(p:Prop):∃B:Bool,B=true↔p:=by
 by_cases h:p
 .exact⟨true,by simp[h]⟩
 .exact⟨false,by simp[h]⟩
theorem yJ(cs ds:List Value)(a b:RA)(w:World)(h:KI w cs a)(g:KI w ds b)(B:Bool)(hB:B=true↔a=b):
  Qq 66 #[.agg cs.toArray,.agg ds.toArray] w (.bool B):=by
 have sm:=h.sm;have gvw:=h.gv;have tm:=g.sm;replace h:=h.arg;replace g:=g.arg;obtain⟨cp,cr,cf,rfl,hK,h1,h2,h3⟩:=h;have l4:=Hid.mk8 h1.four;have l9:=Hid.mk8 h2.nine;have LP:=Hid.mk8 h1.len
 have LR:=Hid.mk8 h2.len;have LF:=Hid.mk8 h3.len;obtain⟨K,p,r,f⟩:=a;obtain⟨M,p',r',f'⟩:=b;dsimp only at *;have k7:b_ w cp p:=⟨h1,sm.p1,sm.p2,sm.p3⟩
 have k8:bm w cr r:=⟨h2,sm.r1,sm.r2,sm.r3,sm.r4,gvw⟩;have k9:bJ w cf f:=⟨h3,sm.f0,sm.f1,sm.f2⟩;obtain⟨dp,dr,df,rfl,_,g1,g2,g3⟩:=g;have m4:=Hid.mk8 g1.four;have m9:=Hid.mk8 g2.nine
 have MP:=Hid.mk8 g1.len;have MR:=Hid.mk8 g2.len;have MF:=Hid.mk8 g3.len;have j7:b_ w dp p':=⟨g1,tm.p1,tm.p2,tm.p3⟩;have j8:bm w dr r':=⟨g2,tm.r1,tm.r2,tm.r3,tm.r4,gvw⟩
 have j9:bJ w df f':=⟨g3,tm.f0,tm.f1,tm.f2⟩;obtain⟨B7,e7⟩:=mx (p=p');obtain⟨B8,e8⟩:=mx (r=r');obtain⟨B9,e9⟩:=mx (f=f')
 have S7:Hid (Qz w 114 #[.agg cp.toArray,.agg dp.toArray] (.bool B7)):=fun w0 u=>Dg cp dp p p' w0 (k7.keep u) (j7.keep u) B7 e7
 have S8:Hid (Qz w 115 #[.agg cr.toArray,.agg dr.toArray] (.bool B8)):=fun w0 u=>Bv cr dr r r' w0 (k8.keep u) (j8.keep u) B8 e8
 have S9:Hid (Qz w 116 #[.agg cf.toArray,.agg df.toArray] (.bool B9)):=fun w0 u=>Ia cf df f f' w0 (k9.keep u) (j9.keep u) B9 e9
 have hE:Hid (B=true↔K=M/\B7=true/\B8=true/\B9=true):=by
  show B=true↔_;rw[hB,e7,e8,e9,RA.mk.injEq]
 clear h1 h2 h3 g1 g2 g3 sm tm k7 k8 k9 j7 j8 j9 hB e7 e8 e9
 have bw:Below w.heap.size w ((w.alloc (.cells (Value.int .i64 K::(cp++(cr++cf))).toArray 63)).alloc (.cells (Value.int .i64 M::(dp++(dr++df))).toArray 63)):=(below_alloc w _).alloc (by simp) _
 have B0:aa ((w.alloc (.cells (Value.int .i64 K::(cp++(cr++cf))).toArray 63)).alloc (.cells (Value.int .i64 M::(dp++(dr++df))).toArray 63)) w.heap.size (Value.int .i64 K::(cp++(cr++cf))) 63:=(aa.new w _ _).alloc _
 have B2:aa ((w.alloc (.cells (Value.int .i64 K::(cp++(cr++cf))).toArray 63)).alloc (.cells (Value.int .i64 M::(dp++(dr++df))).toArray 63)) (w.heap.size+1) (Value.int .i64 M::(dp++(dr++df))) 63:=aa.new2 w _ _ _
 by_cases hKM:K=M
 .subst hKM;go_enter func66,ntmps66;obtain⟨c0,p1,p2,p3⟩:=parts l4.out l9.out B0;obtain⟨d0,t1,t2,t3⟩:=parts m4.out m9.out B2
  go_wp2_with (first | refine aR w.heap.size 1 cp (by rfl) rfl p1 underlying55 LP.out ?_ | refine aR (w.heap.size+1) 1 dp (by rfl) rfl t1 underlying55 MP.out ?_);refine mr (S7.out _ bw) fun v7 hb=>?_;replace B0:=B0.kept hb;replace B2:=B2.kept hb;replace bw:=bg bw hb;clear hb c0 p1 p2 p3 d0 t1 t2 t3;cases B7 with
  | false=>
   obtain rfl:B=false:=Bool.eq_false_iff.2 fun e=>by have:=hE.out.1 e;simp at this
   go_wp2;go_ret;exact⟨rfl,bw⟩
  | true=>
   obtain⟨c0,p1,p2,p3⟩:=parts l4.out l9.out B0;obtain⟨d0,t1,t2,t3⟩:=parts m4.out m9.out B2
   go_wp2_with (first | refine aR w.heap.size 5 cr (by rfl) rfl p2 underlying59 LR.out ?_ | refine aR (w.heap.size+1) 5 dr (by rfl) rfl t2 underlying59 MR.out ?_);refine mr (S8.out _ bw) fun v8 hb=>?_;replace B0:=B0.kept hb;replace B2:=B2.kept hb;replace bw:=bg bw hb;clear hb c0 p1 p2 p3 d0 t1 t2 t3;cases B8 with
   | false=>
    obtain rfl:B=false:=Bool.eq_false_iff.2 fun e=>by have:=hE.out.1 e;simp at this
    go_wp2;go_ret;exact⟨rfl,bw⟩
   | true=>
    obtain⟨c0,p1,p2,p3⟩:=parts l4.out l9.out B0;obtain⟨d0,t1,t2,t3⟩:=parts m4.out m9.out B2
    go_wp2_with (first | refine aR w.heap.size 14 cf (by rfl) rfl p3 underlying61 LF.out ?_ | refine aR (w.heap.size+1) 14 df (by rfl) rfl t3 underlying61 MF.out ?_);refine mr (S9.out _ bw) fun v9 hb=>?_;replace B0:=B0.kept hb;replace B2:=B2.kept hb;replace bw:=bg bw hb;clear hb c0 p1 p2 p3 d0 t1 t2 t3;cases B9 with
    | false=>
     obtain rfl:B=false:=Bool.eq_false_iff.2 fun e=>by have:=hE.out.1 e;simp at this
     go_wp2;go_ret;exact⟨rfl,bw⟩
    | true=>
     obtain rfl:B=true:=hE.out.2 (by simp);go_wp2;go_ret;exact⟨rfl,bw⟩
 .obtain rfl:B=false:=Bool.eq_false_iff.2 fun e=>hKM (hE.out.1 e).1;go_enter func66,ntmps66;obtain⟨c0,p1,p2,p3⟩:=parts l4.out l9.out B0;obtain⟨d0,t1,t2,t3⟩:=parts m4.out m9.out B2;go_wp2;go_ret
  exact⟨rfl,bw⟩
theorem JR{av bv:List RA}(hl:av.length=bv.length)(h:∀j,j<av.length->av.getD j ra0=bv.getD j ra0):av=bv:=by
 refine List.ext_getElem hl fun j h1 h2=>?_;have:=h j h1;rw[List.getD_eq_getElem?_getD,List.getD_eq_getElem?_getD,List.getElem?_eq_getElem h1,List.getElem?_eq_getElem h2]at this;exact this
theorem Al(l1 l2:Option Addr)(c1 c2:Nat)(av bv:List RA)(w:World)(h1:Lv w l1 av)(h2:Lv w l2 bv)(hl:av.length<=20)(hl2:bv.length<=20)(B:Bool)(hB:B=true↔av=bv):
  Qq 37 #[.slice l1 av.length c1,.slice l2 bv.length c2] w (.bool B):=by
 by_cases hlen:av.length=bv.length
 .have HH:Hid (∀q,q<av.length->∃b1 o1 b2 o2 cs ds Bq,(Bq=true↔av.getD q ra0=bv.getD q ra0)/\l1=some ⟨b1,o1,none⟩/\l2=some ⟨b2,o2,none⟩/\b1<w.heap.size/\b2<w.heap.size/\w.rangeAt b1 (o1+q*22) cs/\w.rangeAt b2 (o2+q*22) ds/\(prog.info? 63).map (·.size)=some cs.length/\(prog.info? 63).map (·.size)=some ds.length/\Qz w 66 #[.agg cs.toArray,.agg ds.toArray] (.bool Bq)):=fun q hq=>by
   obtain⟨b1,o1,e1,g1,r1⟩:=h1 (by omega);obtain⟨b2,o2,e2,g2,r2⟩:=h2 (by omega);obtain⟨cs,k1,k2⟩:=r1 q hq;obtain⟨ds,m1,m2⟩:=r2 q (by omega);obtain⟨Bq,hq⟩:=mx (av.getD q ra0=bv.getD q ra0)
   exact⟨b1,o1,b2,o2,cs,ds,Bq,hq,e1,e2,g1,g2,k1,m1,k2.arg.len,m2.arg.len,fun w0 hb=>yJ cs ds _ _ w0 (k2.keep hb) (m2.keep hb) Bq hq⟩
  have YE:Hid ((∀j,j<av.length->av.getD j ra0=bv.getD j ra0)->B=true):=fun h=>hB.2 (JR hlen h)
  have NO:Hid (∀q,¬av.getD q ra0=bv.getD q ra0->B=false):=fun q h=>Bool.eq_false_iff.2 fun e=>h (by rw[hB.1 e]);rw[<-hlen];obtain⟨n,hn⟩:∃n,Hid (n=av.length):=⟨_,rfl⟩;rw[<-hn.out]at HH YE hl⊢
  clear h1 h2 hB hlen hl2;go_enter func37,ntmps37;go_wp2
  go_loopw [5] (fun s wr=>∃q:Nat,q<=n/\s=.int .i64 q/\Hid (∀j,j<q->av.getD j ra0=bv.getD j ra0)/\Below w.heap.size w wr) (fun s _=>n-(intOf s).toNat)
  case atStart=>exact⟨0,Nat.zero_le _,rfl,fun j hj=>absurd hj (by omega),Below.refl _ _⟩
  case round=>
   obtain⟨q,hq,rfl,HJ,hb⟩:=hrel;by_cases hi:q<n
   .have hi2:(q:Int)<(n:Int):=by omega
    obtain⟨b1,o1,b2,o2,cs,ds,Bq,HQ0,rfl,rfl,g1,g2,r1,r2,L1,L2,SM⟩:=HH.out q hi;have HQ:=ag HQ0;have R1:=ag r1;have R2:=ag r2;have H1:=ag L1;have H2:=ag L2;have S0:=ag SM
    clear r1 r2 L1 L2 SM HH HQ0;go_wp2;refine ba [] (fun w'=>Below w.heap.size w w') (by kernel_rfl) ?_;have hS:Below w.heap.size w wr.drew:=hb.drew;clear hb;generalize wr.drew=V at *;refine aK 0 hS ?_
    refine aK 1 hS ?_;refine aK 2 hS ?_
    refine aw.take 3 (v:=.agg (cs).toArray) rfl (by kernel_rfl) (by kernel_rfl) (by kernel_rfl) (by kernel_rfl) (fun _ _ _ h=>h) hS (fun w0 h0=>tD b1 (o1+q*22) _ rfl (jG R1.out h0 g1) underlying63 H1.out) (by rfl) ?rest4
    simp only[Act.put,ar,an,am,ah,aj,ai];refine aK 4 hS ?_;refine aK 5 hS ?_;refine aK 6 hS ?_
    refine aw.take 7 (v:=.agg (ds).toArray) rfl (by kernel_rfl) (by kernel_rfl) (by kernel_rfl) (by kernel_rfl) (fun _ _ _ h=>h) hS (fun w0 h0=>tD b2 (o2+q*22) _ rfl (jG R2.out h0 g2) underlying63 H2.out) (by rfl) ?rest8
    simp only[Act.put,ar,an,am,ah,aj,ai];refine aO 8 ?_;intro K hK;go_simp;refine mr (S0.out _ hS) fun w5 hb5=>?_;have hS2:=bg hS hb5;clear hb5
    refine hK.out _ _ (fun _=>hS2) ?_;clear hK K;try simp only[Act.put,ar,an,am,ah,aj,ai]
    refine aK 9 hS2 ?_;refine aw.done (by kernel_rfl) ?_ _;clear hS;cases Bq with
    | true=>
     go_wp2;refine⟨⟨q+1,by omega,by go_num,fun j hj=>?_,hS2⟩,by simp only[intOf];omega⟩;by_cases e:j=q
     .rw[e];exact HQ.out.1 rfl
     .exact HJ.out j (by omega)
    | false=>
     obtain rfl:=NO.out q fun e=>by have:=HQ.out.2 e;cases this
     go_wp2;go_ret;exact⟨rfl,hS2⟩
   .obtain rfl:q=n:=by omega
    obtain rfl:=YE.out HJ.out;clear HH;go_wp2;go_ret;exact⟨rfl,hb⟩
 .obtain rfl:B=false:=Bool.eq_false_iff.2 fun e=>hlen (by rw[hB.1 e]);have hne:((av.length:Int) != (bv.length:Int))=true:=by simp;omega
  clear hB h1 h2;generalize av.length=n at *;generalize bv.length=m at *;go_enter func37,ntmps37;go_wp2;go_ret;exact⟨rfl,Below.refl _ _⟩
theorem AB(l1 z1 l2 z2:Option Addr)(c1 d1 c2 d2:Nat)(x y:MR)(w:World)(h1:MI w l1 c1 z1 d1 x)(h2:MI w l2 c2 z2 d2 y)(hl:x.av.length<=20)(hl2:y.av.length<=20)(B:Bool)(hB:B=true↔x=y):
  Qq 12 #[.agg #[.int .i64 x.K,.int .i64 x.N,.slice l1 x.av.length c1,.slice z1 x.zs.length d1],.agg #[.int .i64 y.K,.int .i64 y.N,.slice l2 y.av.length c2,.slice z2 y.zs.length d2]] w (.bool B):=by
 obtain⟨A,hA⟩:=mx (x.av=y.av)
 have H:Hid (Qz w 37 #[.slice l1 x.av.length c1,.slice l2 y.av.length c2] (.bool A)):=fun w0 hb=>Al l1 l2 c1 c2 x.av y.av w0 (h1.keep hb).l (h2.keep hb).l hl hl2 A hA
 have H2:Hid (Qz w 38 #[.slice z1 x.zs.length d1,.slice z2 y.zs.length d2] (.bool (decide (x.zs=y.zs)))):=fun w0 hb=>mD z1 x.zs d1 z2 y.zs d2 w0 (h1.keep hb).z (h2.keep hb).z h1.zm
 have hE:Hid (B=true↔x.K=y.K/\x.N=y.N/\A=true/\decide (x.zs=y.zs)=true):=by
  show B=true↔_;rw[hB,hA,decide_eq_true_eq];cases x;cases y;simp
 have bx:=(aa.new w [.int .i64 x.K,.int .i64 x.N,.slice l1 x.av.length c1,.slice z1 x.zs.length d1] 27).alloc (.cells [.int .i64 y.K,.int .i64 y.N,.slice l2 y.av.length c2,.slice z2 y.zs.length d2].toArray 27)
 have by_:=aa.new2 w (.cells [.int .i64 x.K,.int .i64 x.N,.slice l1 x.av.length c1,.slice z1 x.zs.length d1].toArray 27) [.int .i64 y.K,.int .i64 y.N,.slice l2 y.av.length c2,.slice z2 y.zs.length d2] 27
 have bw:Below w.heap.size w ((w.alloc (.cells #[.int .i64 x.K,.int .i64 x.N,.slice l1 x.av.length c1,.slice z1 x.zs.length d1] 27)).alloc (.cells #[.int .i64 y.K,.int .i64 y.N,.slice l2 y.av.length c2,.slice z2 y.zs.length d2] 27)):=(below_alloc w _).alloc (by simp) _
 clear h1 h2 hl hl2 hA hB;generalize x.K=K at *;generalize x.N=N at *;generalize x.av.length=m at *;generalize y.K=K2 at *;generalize y.N=N2 at *;generalize y.av.length=m2 at *;generalize decide (x.zs=y.zs)=Dz at *
 generalize x.zs.length=n1 at *;generalize y.zs.length=n2 at *;by_cases e1:K=K2
 .by_cases e2:N=N2
  .subst e1 e2;go_enter func12,ntmps12;go_wp2_with fail;refine mr (H.out _ bw) fun w5 hb5=>?_;replace bx:=bx.kept hb5;replace by_:=by_.kept hb5;replace bw:=bg bw hb5;clear hb5 H
   cases A with
   | true=>
    have x3:=bx.cell 3 rfl;have y3:=by_.cell 3 rfl;go_wp2_with fail;refine mr (H2.out _ bw) fun w6 hb6=>?_;replace bw:=bg bw hb6
    obtain rfl:B=Dz:=Bool.eq_iff_iff.2 (by rw[hE.out];simp);go_wp2;go_ret;exact⟨rfl,bw⟩
   | false=>
    obtain rfl:B=false:=Bool.eq_false_iff.2 fun e=>by have:=(hE.out.1 e).2.2.1;cases this
    go_wp2;go_ret;exact⟨rfl,bw⟩
  .obtain rfl:B=false:=Bool.eq_false_iff.2 fun e=>e2 (hE.out.1 e).2.1;have e3:(N==N2)=false:=by simp[e2]
   subst e1;go_enter func12,ntmps12;go_wp2;go_ret;exact⟨rfl,bw⟩
 .obtain rfl:B=false:=Bool.eq_false_iff.2 fun e=>e1 (hE.out.1 e).1;have e3:(K==K2)=false:=by simp[e1]
  go_enter func12,ntmps12;go_wp2;go_ret;exact⟨rfl,bw⟩
theorem uS(lo:Option Addr)(lc:Nat)(zo:Option Addr)(zc:Nat)(x:MR)(c:Nat)(i:Int)(w:World)(h:MI w lo lc zo zc x)(hbad:mOk x=false):
  Qq 10 #[.agg #[.int .i64 x.K,.int .i64 x.N,.slice lo x.av.length lc,.slice zo x.zs.length zc],.int .u8 (c:Int),.int .i64 i] w (.tuple #[.int .i64 0,.int .i64 2]):=by
 have C0:=ag (fun w0 hb=>ks lo lc zo zc x w0 (h.keep hb));rw[hbad]at C0;obtain⟨K,hK⟩:∃K,Hid (K=x.K):=⟨_,rfl⟩;obtain⟨N,hN⟩:∃N,Hid (N=x.N):=⟨_,rfl⟩
 obtain⟨m,hm⟩:∃m,Hid (m=x.av.length):=⟨_,rfl⟩;obtain⟨z,hz⟩:∃z,Hid (z=x.zs.length):=⟨_,rfl⟩;rw[<-hK.out,<-hN.out,<-hm.out,<-hz.out]at C0;rw[<-hK.out,<-hN.out,<-hm.out,<-hz.out]
 obtain⟨W,hW⟩:∃W,W=w.alloc (.cells #[.int .i64 K,.int .i64 N,.slice lo m lc,.slice zo z zc] 27):=⟨_,rfl⟩;have bW:=aU hW;have HB:=ag bW;have C1:=ag (C0.out W bW);clear C0 h hbad bW
 go_enter func10,ntmps10;go_wp2_with fail;rw[<-hW];refine C1.out.mono ?_;rintro e w1 ⟨rfl,hb⟩;have HB1:=ag (bg HB.out hb);clear hb C1 HB hW;go_wp2;go_ret2;exact⟨rfl,HB1.out⟩
theorem Ef(lo:Option Addr)(lc:Nat)(zo:Option Addr)(zc:Nat)(x:MR)(c:Nat)(i:Int)(w:World)(h:MI w lo lc zo zc x)(hbad:mOk x=false):
  Qq 18 #[.agg #[.int .i64 x.K,.int .i64 x.N,.slice lo x.av.length lc,.slice zo x.zs.length zc],.int .u8 (c:Int),.int .i64 i] w (.tuple #[.int .i64 0,.int .i64 2]):=by
 have C0:=ag (fun w0 hb=>ks lo lc zo zc x w0 (h.keep hb));rw[hbad]at C0;obtain⟨K,hK⟩:∃K,Hid (K=x.K):=⟨_,rfl⟩;obtain⟨N,hN⟩:∃N,Hid (N=x.N):=⟨_,rfl⟩
 obtain⟨m,hm⟩:∃m,Hid (m=x.av.length):=⟨_,rfl⟩;obtain⟨z,hz⟩:∃z,Hid (z=x.zs.length):=⟨_,rfl⟩;rw[<-hK.out,<-hN.out,<-hm.out,<-hz.out]at C0;rw[<-hK.out,<-hN.out,<-hm.out,<-hz.out]
 obtain⟨W,hW⟩:∃W,W=w.alloc (.cells #[.int .i64 K,.int .i64 N,.slice lo m lc,.slice zo z zc] 27):=⟨_,rfl⟩;have bW:=aU hW;have HB:=ag bW;have C1:=ag (C0.out W bW);clear C0 h hbad bW
 go_enter func18,ntmps18;go_wp2_with fail;rw[<-hW];refine C1.out.mono ?_;rintro e w1 ⟨rfl,hb⟩;have HB1:=ag (bg HB.out hb);clear hb C1 HB hW;go_wp2;go_ret2;exact⟨rfl,HB1.out⟩
theorem EY(lo:Option Addr)(lc:Nat)(zo:Option Addr)(zc:Nat)(x:MR)(i:Int)(w:World)(h:MI w lo lc zo zc x)(hbad:mOk x=false):
  Qq 9 #[.agg #[.int .i64 x.K,.int .i64 x.N,.slice lo x.av.length lc,.slice zo x.zs.length zc],.int .i64 i] w (.tuple #[.int .u8 0,.int .i64 2]):=by
 have C0:=ag (fun w0 hb=>ks lo lc zo zc x w0 (h.keep hb));rw[hbad]at C0;obtain⟨K,hK⟩:∃K,Hid (K=x.K):=⟨_,rfl⟩;obtain⟨N,hN⟩:∃N,Hid (N=x.N):=⟨_,rfl⟩
 obtain⟨m,hm⟩:∃m,Hid (m=x.av.length):=⟨_,rfl⟩;obtain⟨z,hz⟩:∃z,Hid (z=x.zs.length):=⟨_,rfl⟩;rw[<-hK.out,<-hN.out,<-hm.out,<-hz.out]at C0;rw[<-hK.out,<-hN.out,<-hm.out,<-hz.out]
 obtain⟨W,hW⟩:∃W,W=w.alloc (.cells #[.int .i64 K,.int .i64 N,.slice lo m lc,.slice zo z zc] 27):=⟨_,rfl⟩;have bW:=aU hW;have HB:=ag bW;have C1:=ag (C0.out W bW);clear C0 h hbad bW
 go_enter func9,ntmps9;go_wp2_with fail;rw[<-hW];refine C1.out.mono ?_;rintro e w1 ⟨rfl,hb⟩;have HB1:=ag (bg HB.out hb);clear hb C1 HB hW;go_wp2;go_ret2;exact⟨rfl,HB1.out⟩
theorem Ec(lo:Option Addr)(lc:Nat)(zo:Option Addr)(zc:Nat)(x:MR)(w:World)(h:MI w lo lc zo zc x)(hbad:mOk x=false):
  Qq 22 #[.agg #[.int .i64 x.K,.int .i64 x.N,.slice lo x.av.length lc,.slice zo x.zs.length zc]] w (.slice none 0 0):=by
 have C0:=ag (fun w0 hb=>ks lo lc zo zc x w0 (h.keep hb));rw[hbad]at C0;obtain⟨K,hK⟩:∃K,Hid (K=x.K):=⟨_,rfl⟩;obtain⟨N,hN⟩:∃N,Hid (N=x.N):=⟨_,rfl⟩
 obtain⟨m,hm⟩:∃m,Hid (m=x.av.length):=⟨_,rfl⟩;obtain⟨z,hz⟩:∃z,Hid (z=x.zs.length):=⟨_,rfl⟩;rw[<-hK.out,<-hN.out,<-hm.out,<-hz.out]at C0;rw[<-hK.out,<-hN.out,<-hm.out,<-hz.out]
 obtain⟨W,hW⟩:∃W,W=w.alloc (.cells #[.int .i64 K,.int .i64 N,.slice lo m lc,.slice zo z zc] 27):=⟨_,rfl⟩;have bW:=aU hW;have HB:=ag bW;have C1:=ag (C0.out W bW);clear C0 h hbad bW
 go_enter func22,ntmps22;go_wp2_with fail;rw[<-hW];refine C1.out.mono ?_;rintro e w1 ⟨rfl,hb⟩;have HB1:=ag (bg HB.out hb);clear hb C1 HB hW;go_wp2;go_ret;exact⟨rfl,HB1.out⟩
def mzR(L:Nat)(av:List RA):Nat->Int
 | 0=>32*(L:Int)
 | q+1=>wrap64 (mzR L av q+kZ (av.getD q ra0))
def mZs(x:MR):Int:=if mOk x then mzR x.zs.length x.av x.av.length else 0
theorem uO(lo:Option Addr)(lc:Nat)(zo:Option Addr)(zc:Nat)(x:MR)(w:World)(h:MI w lo lc zo zc x):
  Qq 13 #[.agg #[.int .i64 x.K,.int .i64 x.N,.slice lo x.av.length lc,.slice zo x.zs.length zc]] w (.int .i64 (mZs x)):=by
 obtain⟨Z,hZ⟩:∃Z,Hid (Z=mZs x):=⟨_,rfl⟩;rw[<-hZ.out];have HV:=ag h.l;have hmm:=h.lm;have hzm:=h.zm;have C0:=ag (fun w0 hb=>ks lo lc zo zc x w0 (h.keep hb))
 obtain⟨K,hK⟩:∃K,Hid (K=x.K):=⟨_,rfl⟩;obtain⟨N,hN⟩:∃N,Hid (N=x.N):=⟨_,rfl⟩;obtain⟨m,hm⟩:∃m,Hid (m=x.av.length):=⟨_,rfl⟩;obtain⟨z,hz⟩:∃z,Hid (z=x.zs.length):=⟨_,rfl⟩
 rw[<-hK.out,<-hN.out,<-hm.out,<-hz.out]at C0;rw[<-hK.out,<-hN.out,<-hm.out,<-hz.out];obtain⟨W,hW⟩:∃W,W=w.alloc (.cells #[.int .i64 K,.int .i64 N,.slice lo m lc,.slice zo z zc] 27):=⟨_,rfl⟩;have bW:=aU hW
 have HB:=ag bW;have C1:=ag (C0.out W bW);have B1:=ag (show aa W w.heap.size [.int .i64 K,.int .i64 N,.slice lo m lc,.slice zo z zc] 27 by rw[hW];exact aa.new w _ _);rw[<-hm.out]at hmm;rw[<-hz.out]at hzm
 clear C0 h bW;go_enter func13,ntmps13;go_wp2_with fail;rw[<-hW];refine C1.out.mono ?_;rintro e w1 ⟨rfl,hb⟩;have HB1:=ag (bg HB.out hb);have B11:=ag (B1.out.kept hb);clear hb C1 HB B1 hW
 cases ok:mOk x with
 | false=>
  have HZ0:Hid (Z=0):=by show Z=0;rw[hZ.out];unfold mZs;rw[ok];rfl
  clear ok hZ;go_wp2;go_ret;exact⟨by rw[HZ0.out];rfl,HB1.out⟩
 | true=>
  have HZ1:Hid (Z=mzR z x.av m):=by show Z=_;rw[hZ.out,hm.out,hz.out];unfold mZs;rw[ok];rfl
  have x2:=B11.out.cell 2 rfl;have x3:=B11.out.cell 3 rfl;clear ok hZ;go_wp2
  go_loopw [3,16] (fun vs vi wr=>∃q:Nat,q<=m/\vi=.int .i64 q/\vs=.int .i64 (mzR z x.av q)/\Hid (Below w.heap.size w wr)) (fun _ vi _=>m-(intOf vi).toNat)
  case atStart=>exact⟨0,Nat.zero_le _,rfl,rfl,HB1⟩
  case round=>
   clear HB1 B11 x2 x3;obtain⟨q,hq,rfl,rfl,HB⟩:=hrel;by_cases hlt:q<m
   .have hltz:(q:Int)<(m:Int):=by omega
    obtain⟨b,off,rfl,hbl,hr⟩:=(HV.out.keep HB.out) (by rw[<-hm.out];omega);obtain⟨cs,rg,ki⟩:=hr q (by rw[<-hm.out];exact hlt);have HL:=ag ki.arg.len;have H1:=ag ki.arg.one;have HK:=ag ki
    have HR:=ag rg;have E:Hid (wrap64 (mzR z x.av q+kZ (x.av.getD q ra0))=mzR z x.av (q+1)):=rfl;obtain⟨A,hA⟩:∃A,Hid (A=x.av.getD q ra0):=⟨_,rfl⟩;rw[<-hA.out]at HK E;generalize mzR z x.av q=X at *
    clear hr rg ki hA;go_wp2_with (first | refine aR b (off+q*22) cs (by rfl) rfl HR.out underlying63 HL.out ?_ | refine pF mY ?_);intro w2 B2 hb2 hs2;try simp only[Act.put,ah,List.set]
    have HB2:=ag hb2;have zb:=HB.out.size;clear hb2 HR;go_wp2_with (refine aJ wr.heap.size zv cs rfl rfl B2 (lQ.trans HK.out.arg.nine) HL.out H1.out ?_);intro w3 B3 hO;try simp only[Act.put,ah,List.set]
    have hb3:=HB2.out.trans (hO.below (Nat.le_refl _));have HK3:=ag (HK.out.keep hb3);have HB3:=ag (bg HB.out hb3);clear hb3 HK HB HB2 hO B2
    go_wp2_with (refine fE wr.heap.size cs rfl B3 underlying63 HL.out ?_);refine mr (zL cs A w3 HK3.out) fun w4 hb4=>?_;have HB4:=ag (bg HB3.out hb4)
    generalize kZ A=Y at *;clear hb4 HB3 HK3 B3;go_wp2;refine⟨⟨q+1,by omega,by go_num,?_,HB4⟩,by simp only[intOf];omega⟩;rw[<-E.out]
   .obtain rfl:q=m:=by omega
    rw[<-HZ1.out];go_wp2;go_ret;exact⟨rfl,HB.out⟩
theorem MX.size{w:World}{cs:List Value}{k:Int}{t:List Nat}(h:MX w cs k t):Qq 13 #[.agg cs.toArray] w (.int .i64 (mzR 8 (mA k t) 8)):=by
 have h0:=h;obtain⟨⟨lo,lc,zo,zc,rfl,h1,h2⟩,hk,hn,hB,G⟩:=h;have:=uO lo lc zo zc (mRx k t) w h0.mi;have e1:(mRx k t).av.length=8:=iA k t
 have e2:(mRx k t).zs.length=8:=by show(mI (mZ t)).length=8;rw[dt,iz]
 unfold mZs at this;rw[qB hk hn,e1,e2]at this;exact this
structure xP (k:Int) (t:List Nat) (m:Nat) (SA:World->Option Addr->Nat->Option Addr->Nat->Prop):Prop where
 keep:∀w0 w1 lo lc no nc,SA w0 lo lc no nc->Below w0.heap.size w0 w1->SA w1 lo lc no nc
 build:∀w0 ao cap,Bd w0 ao t->GV w0->Calls prog 8 #[.int .i64 k,.slice ao t.length cap] w0 fun e w'=>∃lo lc no nc,e=.returned (.tuple #[.agg #[.int .i64 k,.int .i64 (t.length:Int),.slice lo 8 lc,.slice no 8 nc],.int .i64 0])/\SA w' lo lc no nc/\Below w0.heap.size w0 w'
 check:∀w0 lo lc no nc,SA w0 lo lc no nc->Qq 20 #[.agg #[.int .i64 k,.int .i64 (t.length:Int),.slice lo 8 lc,.slice no 8 nc]] w0 (.bool true)
 size:∃Z,Z=mzR 8 (mA k t) 8/\∀w0 lo lc no nc,SA w0 lo lc no nc->Qq 13 #[.agg #[.int .i64 k,.int .i64 (t.length:Int),.slice lo 8 lc,.slice no 8 nc]] w0 (.int .i64 Z)
 text:∀w0 lo lc no nc,SA w0 lo lc no nc->Calls prog 22 #[.agg #[.int .i64 k,.int .i64 (t.length:Int),.slice lo 8 lc,.slice no 8 nc]] w0 fun e w'=>∃bo bc,e=.returned (.slice bo t.length bc)/\(convert 22 9 (.slice bo t.length bc)).run prog w'=.ok (.string (strOfNums (nums t))) w'/\Below w0.heap.size w0 w'
 access:∀i:Int,aD i->∀w0 lo lc no nc,SA w0 lo lc no nc->Qq 9 #[.agg #[.int .i64 k,.int .i64 (t.length:Int),.slice lo 8 lc,.slice no 8 nc],.int .i64 i] w0 (.tuple #[.int .u8 (saC t i:Int),.int .i64 (dR t i)])
 rank:∀(c:Nat) (i:Int),c<256->aD i->∀w0 lo lc no nc,SA w0 lo lc no nc->Qq 10 #[.agg #[.int .i64 k,.int .i64 (t.length:Int),.slice lo 8 lc,.slice no 8 nc],.int .u8 (c:Int),.int .i64 i] w0 (.tuple #[.int .i64 (fw t c i),.int .i64 (ef t i)])
 select:∀(c:Nat) (i:Int),c<256->aD i->∀w0 lo lc no nc,SA w0 lo lc no nc->Qq 18 #[.agg #[.int .i64 k,.int .i64 (t.length:Int),.slice lo 8 lc,.slice no 8 nc],.int .u8 (c:Int),.int .i64 i] w0 (.tuple #[.int .i64 (ssN t c i),.int .i64 (ssE t c i)])
theorem xZ(k:Int)(t:List Nat)(hk:1<=k/\k<=3)(hn:t.length<=3000)(hB:iR t):∃m SA,xP k t m SA:=by
 refine⟨8,fun w lo lc no nc=>MX w [.int .i64 k,.int .i64 (t.length:Int),.slice lo 8 lc,.slice no 8 nc] k t,⟨fun w0 w1 lo lc no nc h hb=>h.keep hb,fun w0 ao cap hx G=>?_,fun w0 lo lc no nc h=>h.check,⟨_,rfl,fun w0 lo lc no nc h=>h.size⟩,fun w0 lo lc no nc h=>?_,fun i hi w0 lo lc no nc h=>vm _ k t i w0 h hi,fun c i hc hi w0 lo lc no nc h=>uR _ k t c i w0 h hc hi,fun c i hc hi w0 lo lc no nc h=>uP _ k t c i w0 h hc hi⟩⟩
 .refine(EF k ao t cap w0 hk hx hB hn G).mono ?_;rintro e w' ⟨cs,rfl,h1,h2⟩;obtain⟨lo,lc,no,nc,rfl,_,_⟩:=h1.ex;exact⟨lo,lc,no,nc,rfl,h1,h2⟩
 .refine(uN _ k t w0 h).mono ?_;rintro e w' ⟨bo,bc,rfl,g1,g2⟩;exact⟨bo,bc,rfl,conv bc g1,g2⟩
theorem x_:∃m SA,xP 3 ab m SA:=xZ 3 ab (by decide) (by decide) I3
theorem Eo(t:List Nat)(hn:t.length<=3000)(l:Nat):0<kZ (kB 3 (t.length:Int) (aC (Mx.rw_ t l)))/\kZ (kB 3 (t.length:Int) (aC (Mx.rw_ t l)))<=100000:=by
 have hk:=mj hn l;have hf:aA (aC (Mx.rw_ t l)):=cY _ _
 have e:kZ (kB 3 (t.length:Int) (aC (Mx.rw_ t l)))=kZ9 (kB9 (t.length:Int) (aC (Mx.rw_ t l))):=by
  rw[mV _ _ (FK _ _ hk),(fV (uz (kB9 (t.length:Int) (aC (Mx.rw_ t l))))).2.2.2]
 rw[e];have:=FH t.length (aC (Mx.rw_ t l)) hf hk hn;omega
theorem uM(t:List Nat)(hn:t.length<=3000):∀q,q<=8->0<mzR 8 (mA 3 t) q/\mzR 8 (mA 3 t) q<=256+100000*q
 | 0,_=>by unfold mzR;omega
 | q+1,hq=>by
  have ih:=uM t hn q (by omega);have hz:=Eo t hn q;rw[mzR,lI 3 t (show q<8 by omega)];generalize kZ (kB 3 (t.length:Int) (aC (Mx.rw_ t q)))=z at *;generalize mzR 8 (mA 3 t) q=y at *
  rw[show wrap64 (y+z)=y+z by unfold wrap64;omega];omega
theorem Kg(Z:Int)(h:Z=mzR 8 (mA 3 ab) 8):0<Z:=by
 rw[h];exact(uM ab (by decide) _ (Nat.le_refl _)).1
theorem Ey(w:World)(G:GV w):MI w none 0 none 0 ⟨0,0,[],[]⟩:=⟨⟨by decide,by decide⟩,⟨by decide,by decide⟩,fun h=>absurd h (by decide),fun h=>absurd h (by decide),by decide,by decide,G⟩
theorem pG:ssN ab 114 1=9/\ssE ab 114 1=0/\ssN ab 122 0=0/\ssE ab 122 0=3:=by decide +kernel
theorem Gr(w:World)(G:GV w):Qq 7 #[] w (.bool true):=by
 have kc:=fun(w:World) (C:Array Value) (n c:Nat)=>Lib.run_convert_bytes_const (P:=prog) w 22 5 C n c underlying22 underlying5;obtain⟨f1,f2,f3,f4,f5⟩:=Kh
 have bW:=below_alloc w (.cells #[.int .u8 97,.int .u8 98,.int .u8 114,.int .u8 97,.int .u8 99,.int .u8 97,.int .u8 100,.int .u8 97,.int .u8 98,.int .u8 114,.int .u8 97] 5 (11,12));obtain⟨m,SA,HXP⟩:=x_
 have HK:=ag HXP.keep
 have H1:Hid (∀w0,w0=w.alloc (.cells #[.int .u8 97,.int .u8 98,.int .u8 114,.int .u8 97,.int .u8 99,.int .u8 97,.int .u8 100,.int .u8 97,.int .u8 98,.int .u8 114,.int .u8 97] 5 (11,12))->Calls prog 8 #[.int .i64 3,.slice (some ⟨w.heap.size,0,none⟩) 11 11] w0 fun e w'=>∃lo lc no nc,e=.returned (.tuple #[.agg #[.int .i64 3,.int .i64 11,.slice lo 8 lc,.slice no 8 nc],.int .i64 0])/\SA w' lo lc no nc/\Below w0.heap.size w0 w'):=fun w0 h=>by
  subst h;exact HXP.build _ (some ⟨w.heap.size,0,none⟩) 11 (Ki w) (G.keep bW)
 have H2:Hid (∀w0 lo lc no nc,SA w0 lo lc no nc->Qq 9 #[.agg #[.int .i64 3,.int .i64 11,.slice lo 8 lc,.slice no 8 nc],.int .i64 4] w0 (.tuple #[.int .u8 99,.int .i64 0])):=fun w0 lo lc no nc h=>by
  have:=HXP.access 4 (by unfold aD;omega) w0 lo lc no nc h;rw[show saC ab 4=99 from f1,show dR ab 4=0 from rfl]at this;exact this
 have H3:Hid (∀w0 lo lc no nc,SA w0 lo lc no nc->Qq 10 #[.agg #[.int .i64 3,.int .i64 11,.slice lo 8 lc,.slice no 8 nc],.int .u8 97,.int .i64 8] w0 (.tuple #[.int .i64 4,.int .i64 0])):=fun w0 lo lc no nc h=>by
  have:=HXP.rank 97 8 (by decide) (by unfold aD;omega) w0 lo lc no nc h;rw[show fw ab 97 8=4 from congrArg (fun n:Nat=>(n:Int)) f2,show ef ab 8=0 from rfl]at this;exact this
 have H4:Hid (∀w0 lo lc no nc,SA w0 lo lc no nc->Qq 18 #[.agg #[.int .i64 3,.int .i64 11,.slice lo 8 lc,.slice no 8 nc],.int .u8 114,.int .i64 1] w0 (.tuple #[.int .i64 9,.int .i64 0])):=fun w0 lo lc no nc h=>by
  have:=HXP.select 114 1 (by decide) (by unfold aD;omega) w0 lo lc no nc h;rw[pG.1,pG.2.1]at this;exact this
 have H5:Hid (∀w0 lo lc no nc,SA w0 lo lc no nc->Qq 18 #[.agg #[.int .i64 3,.int .i64 11,.slice lo 8 lc,.slice no 8 nc],.int .u8 122,.int .i64 0] w0 (.tuple #[.int .i64 0,.int .i64 3])):=fun w0 lo lc no nc h=>by
  have:=HXP.select 122 0 (by decide) (by unfold aD;omega) w0 lo lc no nc h;rw[pG.2.2.1,pG.2.2.2]at this;exact this
 have H6:Hid (∀w0 lo lc no nc,SA w0 lo lc no nc->Qq 9 #[.agg #[.int .i64 3,.int .i64 11,.slice lo 8 lc,.slice no 8 nc],.int .i64 11] w0 (.tuple #[.int .u8 0,.int .i64 3])):=fun w0 lo lc no nc h=>by
  have:=HXP.access 11 (by unfold aD;omega) w0 lo lc no nc h;rw[show saC ab 11=0 from rfl,show dR ab 11=3 from rfl]at this;exact this
 have H7:Hid (∀w0:World,GV w0->Qq 10 #[.agg #[.int .i64 0,.int .i64 0,.slice none 0 0,.slice none 0 0],.int .u8 0,.int .i64 0] w0 (.tuple #[.int .i64 0,.int .i64 2])):=fun w0 G0=>uS none 0 none 0 ⟨0,0,[],[]⟩ 0 0 w0 (Ey w0 G0) (by decide)
 have H8:Hid (∀w0 lo lc no nc,SA w0 lo lc no nc->Qq 20 #[.agg #[.int .i64 3,.int .i64 11,.slice lo 8 lc,.slice no 8 nc]] w0 (.bool true)):=fun w0 lo lc no nc h=>by
  exact HXP.check w0 lo lc no nc h
 obtain⟨Z,hZ,HXZ⟩:=HXP.size;have zp:=Kg Z hZ
 have H9:Hid (∀w0 lo lc no nc,SA w0 lo lc no nc->Qq 13 #[.agg #[.int .i64 3,.int .i64 11,.slice lo 8 lc,.slice no 8 nc]] w0 (.int .i64 Z)):=fun w0 lo lc no nc h=>by
  exact HXZ w0 lo lc no nc h
 have HT:Hid (∀w0 lo lc no nc,SA w0 lo lc no nc->Calls prog 22 #[.agg #[.int .i64 3,.int .i64 11,.slice lo 8 lc,.slice no 8 nc]] w0 fun e w'=>∃bo bc,e=.returned (.slice bo 11 bc)/\(convert 22 9 (.slice bo 11 bc)).run prog w'=.ok (.string ⟨#[97,98,114,97,99,97,100,97,98,114,97]⟩) w'/\Below w0.heap.size w0 w'):=fun w0 lo lc no nc h=>by
  have:=HXP.text w0 lo lc no nc h;rw[Kf]at this;exact this
 have HG:=ag G;clear hZ f1 f2 f3 f4 f5 G HXP HXZ;go_enter func7,ntmps7;go_wp2_with fail;refine(H1.out _ rfl).mono ?_;rintro e w1 ⟨lo,lc,no,nc,rfl,hP0,hb⟩;have hw:=ag (bg bW hb)
 clear H1 bW hb;have b1:=below_alloc w1 (.cells [.int .i64 3,.int .i64 11,.slice lo 8 lc,.slice no 8 nc].toArray 27);have hB:=ag (aa.new w1 [.int .i64 3,.int .i64 11,.slice lo 8 lc,.slice no 8 nc] 27)
 have hP:=ag (HK.out _ _ _ _ _ _ hP0 b1);replace hw:=ag (bg hw.out b1);clear b1 hP0;go_wp2_with fail;refine mr (H2.out _ _ _ _ _ hP.out) fun w2 hb=>?_
 replace hP:=ag (HK.out _ _ _ _ _ _ hP.out hb);replace hB:=ag (hB.out.kept hb);replace hw:=ag (bg hw.out hb);clear hb H2;have y0:=hB.out.cell 0 rfl;have y1:=hB.out.cell 1 rfl
 have y2:=hB.out.cell 2 rfl;have y3:=hB.out.cell 3 rfl;go_wp2_with fail;refine mr (H3.out _ _ _ _ _ hP.out) fun w3 hb=>?_;replace hP:=ag (HK.out _ _ _ _ _ _ hP.out hb);replace hB:=ag (hB.out.kept hb)
 replace hw:=ag (bg hw.out hb);clear hb H3 y0 y1 y2 y3;have y0:=hB.out.cell 0 rfl;have y1:=hB.out.cell 1 rfl;have y2:=hB.out.cell 2 rfl;have y3:=hB.out.cell 3 rfl;go_wp2_with fail
 refine mr (H4.out _ _ _ _ _ hP.out) fun w4 hb=>?_;replace hP:=ag (HK.out _ _ _ _ _ _ hP.out hb);replace hB:=ag (hB.out.kept hb);replace hw:=ag (bg hw.out hb);clear hb H4 y0 y1 y2 y3
 have y0:=hB.out.cell 0 rfl;have y1:=hB.out.cell 1 rfl;have y2:=hB.out.cell 2 rfl;have y3:=hB.out.cell 3 rfl;go_wp2_with fail;refine mr (H5.out _ _ _ _ _ hP.out) fun w5 hb=>?_
 replace hP:=ag (HK.out _ _ _ _ _ _ hP.out hb);replace hB:=ag (hB.out.kept hb);replace hw:=ag (bg hw.out hb);clear hb H5 y0 y1 y2 y3;have y0:=hB.out.cell 0 rfl;have y1:=hB.out.cell 1 rfl
 have y2:=hB.out.cell 2 rfl;have y3:=hB.out.cell 3 rfl;go_wp2_with fail;refine mr (H6.out _ _ _ _ _ hP.out) fun w6 hb=>?_;replace hP:=ag (HK.out _ _ _ _ _ _ hP.out hb);replace hB:=ag (hB.out.kept hb)
 replace hw:=ag (bg hw.out hb);clear hb H6 y0 y1 y2 y3;go_wp2_with fail;refine mr (H7.out _ (HG.out.keep hw.out)) fun w7 hb=>?_;replace hP:=ag (HK.out _ _ _ _ _ _ hP.out hb)
 replace hB:=ag (hB.out.kept hb);replace hw:=ag (bg hw.out hb);clear hb H7;have y0:=hB.out.cell 0 rfl;have y1:=hB.out.cell 1 rfl;have y2:=hB.out.cell 2 rfl;have y3:=hB.out.cell 3 rfl
 go_wp2_with fail;refine mr (H8.out _ _ _ _ _ hP.out) fun w8 hb=>?_;replace hP:=ag (HK.out _ _ _ _ _ _ hP.out hb);replace hB:=ag (hB.out.kept hb);replace hw:=ag (bg hw.out hb)
 clear hb H8 y0 y1 y2 y3;have y0:=hB.out.cell 0 rfl;have y1:=hB.out.cell 1 rfl;have y2:=hB.out.cell 2 rfl;have y3:=hB.out.cell 3 rfl;go_wp2_with fail;refine mr (H9.out _ _ _ _ _ hP.out) fun w9 hb=>?_
 replace hP:=ag (HK.out _ _ _ _ _ _ hP.out hb);replace hB:=ag (hB.out.kept hb);replace hw:=ag (bg hw.out hb);clear hb H9 y0 y1 y2 y3;have y0:=hB.out.cell 0 rfl;have y1:=hB.out.cell 1 rfl
 have y2:=hB.out.cell 2 rfl;have y3:=hB.out.cell 3 rfl;go_wp2_with fail;refine(HT.out _ _ _ _ _ hP.out).mono ?_;rintro e wa ⟨bo,bc,rfl,hcv,hb⟩;replace hw:=ag (bg hw.out hb)
 clear hb y0 y1 y2 y3 hP hB HT;go_wp2;go_ret;exact⟨rfl,hw.out⟩
theorem zi{t:List Nat}{c i:Nat}(h:i<t.length)(hc:gt t i=c):ssE t c (Sh.cp (fun d=>decide (d=c)) t i:Nat)=0/\ssN t c (Sh.cp (fun d=>decide (d=c)) t i:Nat)=(i:Int):=by
 have e:=Sh.mem_at (fun d=>decide (d=c)) t i t.length h (decide_eq_true hc);have hlt:=(List.getElem?_eq_some_iff.1 e).1;rw[Sh.length_mem]at hlt
 have hk:mK t c ((Sh.cp (fun d=>decide (d=c)) t i:Nat):Int):=⟨by omega,by omega⟩;refine⟨by unfold ssE;rw[if_pos hk],?_⟩;unfold ssN;rw[if_pos hk,Int.toNat_natCast,List.getD_eq_getElem?_getD,e];rfl
end Go.Proofs.YtleegaihbgbcjabGreatDoor
