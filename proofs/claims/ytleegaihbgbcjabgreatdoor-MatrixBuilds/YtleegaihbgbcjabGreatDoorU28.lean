import Derived.Test.YtleegaihbgbcjabGreatDoorU24
set_option linter.unusedVariables false
set_option linter.unusedSimpArgs false
set_option maxRecDepth 100000
set_option maxHeartbeats 16000000
open Go.Proofs.Tryz
namespace Go.Proofs.YtleegaihbgbcjabGreatDoor
open Go.RowKit Num Bit
theorem KI.fit{w:World}{cs:List Value}{a:RA}(h:KI w cs a):aA (aR a):=by
 by_cases h1:kOn a=1
 .rw[(im h1).2.2.1];obtain⟨⟨cp,cr,cf,_,_,⟨ao,cap,so,sc,tO,tc,_,h⟩,_⟩,_⟩:=h;exact AH a.p.N a.p.xs a.p.S a.p.T h.f
 by_cases h2:kOn a=2
 .rw[(il h2).2.2.1];exact pX _
 by_cases h3:kOn a=3
 .rw[(fA h3).2.2.1];exact um _
 rw[(gc h1 h2 h3).2.2.1];exact jd
theorem xe(cs:List Value)(a:RA)(w:World)(h:KI w cs a):
  Qq 70 #[.agg cs.toArray] w (.bool (aQ a)):=
 xg cs (Hid.mk8 h.arg.len) (aQ a) (kBN a) (aR a) w h.fit (jY a) (fun w0 hb=>rB cs a w0 (h.keep hb))
theorem xh(cs:List Value)(a:RA)(w:World)(h:KI w cs a):
  Calls prog 121 #[.agg cs.toArray] w fun e w'=>∃bo bc,e=.returned (.agg #[.int .i64 (kBN a),.slice bo (aR a).length bc])/\Wd w' bo (aR a)/\(aR a).length<=bc/\Below w.heap.size w w':=
 xi cs (Hid.mk8 h.arg.len) (aQ a) (kBN a) (aR a) w h.fit (jY a) (fun w0 hb=>rB cs a w0 (h.keep hb))
theorem DX(a:RA)(h:aQ a=false):kZ a=0:=by
 by_cases h1:kOn a=1
 .obtain⟨e1,_,_,e4⟩:=im h1;rw[e4];unfold kZ7 kC;rw[show pchk a.p.N a.p.xs a.p.S a.p.T=false from e1.symm.trans h];rfl
 by_cases h2:kOn a=2
 .obtain⟨e1,_,_,e4⟩:=il h2;rw[e4];unfold kZ8 kj;rw[show cM a.r.N a.r.k a.r.V a.r.M a.r.xs a.r.L a.r.ys a.r.S a.r.T=false from e1.symm.trans h];rfl
 by_cases h3:kOn a=3
 .obtain⟨e1,_,_,e4⟩:=fA h3;rw[e4];unfold kZ9;rw[if_neg (by rw[<-e1,h];decide)]
 exact(gc h1 h2 h3).2.2.2
theorem w_(cs:List Value)(a:RA)(w:World)(h:KI w cs a):
  Qq 40 #[.agg cs.toArray] w (.int .i64 (kZ a)):=by
 have CH0:=fun(w0:World) (hb:Below w.heap.size w w0)=>xe cs a w0 (h.keep hb);have HL:=Hid.mk8 h.arg.len;have sm:=h.sm;have gv:=h.gv;replace h:=h.arg;obtain⟨cp,cr,cf,rfl,hK,h1,h2,h3⟩:=h
 have l4:=Hid.mk8 h1.four;have l9:=Hid.mk8 h2.nine;have LP:=Hid.mk8 h1.len;have LR:=Hid.mk8 h2.len;have LF:=Hid.mk8 h3.len;obtain⟨K,p,r,f⟩:=a;dsimp only at *;have k7:cH w cp p:=⟨h1,sm.p1,sm.p2,sm.p3⟩
 have k8:br w cr r:=⟨h2,sm.r1,sm.r2,sm.r3,sm.r4,gv⟩;have k9:bT w cf f:=⟨h3,sm.f0,sm.f1,sm.f2⟩
 have CH:Hid (Qz w 70 #[.agg (Value.int .i64 K::(cp++(cr++cf))).toArray] (.bool (aQ ⟨K,p,r,f⟩))):=CH0
 clear CH0 h1 h2 h3 sm gv;have bw:Below w.heap.size w (w.alloc (.cells (Value.int .i64 K::(cp++(cr++cf))).toArray 63)):=below_alloc w _
 have B0:aa (w.alloc (.cells (Value.int .i64 K::(cp++(cr++cf))).toArray 63)) w.heap.size (Value.int .i64 K::(cp++(cr++cf))) 63:=aa.new w _ _;cases hk:aQ ⟨K,p,r,f⟩with
 | false=>
  rw[DX _ hk];rw[hk]at CH;clear hk k7 k8 k9;go_enter func40,ntmps40;go_wp2_with (refine ca w.heap.size _ (by rfl) rfl B0 underlying63 HL.out ?_);refine mr (CH.out _ bw) fun w1 hb=>?_
  replace B0:=B0.kept hb;replace bw:=bg bw hb;clear hb;obtain⟨c0,p1,p2,p3⟩:=parts l4.out l9.out B0;go_wp2;go_ret;exact⟨rfl,bw⟩
 | true=>
  have o:kOn ⟨K,p,r,f⟩=K/\(K=1\/K=2\/K=3):=by
   have e:kOn ⟨K,p,r,f⟩=K\/kOn ⟨K,p,r,f⟩=0:=by unfold kOn;split<;>simp
   by_cases o1:kOn ⟨K,p,r,f⟩=1
   .exact⟨by omega,by omega⟩
   by_cases o2:kOn ⟨K,p,r,f⟩=2
   .exact⟨by omega,by omega⟩
   by_cases o3:kOn ⟨K,p,r,f⟩=3
   .exact⟨by omega,by omega⟩
   rw[(gc o1 o2 o3).1]at hk;cases hk
  rw[hk]at CH;clear hk;obtain⟨o,q⟩:=o;rcases q with rfl | rfl | rfl
  .obtain⟨e1,e2,e3,e4⟩:=im o;rw[e4]
   have C:Hid (Qz w 71 #[.agg cp.toArray] (.int .i64 (kZ7 p))):=fun w0 g=>A0 cp p w0 (k7.keep g)
   clear e1 e2 e3 e4 k7 k8 k9 o;generalize kZ7 p=Z at *;go_enter func40,ntmps40;go_wp2_with (refine ca w.heap.size _ (by rfl) rfl B0 underlying63 HL.out ?_);refine mr (CH.out _ bw) fun w1 hb=>?_;replace B0:=B0.kept hb;replace bw:=bg bw hb;clear hb;obtain⟨c0,p1,p2,p3⟩:=parts l4.out l9.out B0
   go_wp2_with (refine aY w.heap.size 1 cp (by rfl) rfl p1 underlying55 LP.out ?_);refine mr (C.out _ bw) fun w2 hb=>?_;replace bw:=bg bw hb;go_wp2;go_ret;exact⟨rfl,bw⟩
  .obtain⟨e1,e2,e3,e4⟩:=il o;rw[e4]
   have C:Hid (Qz w 72 #[.agg cr.toArray] (.int .i64 (kZ8 r))):=fun w0 g=>zK cr r w0 (k8.keep g)
   clear e1 e2 e3 e4 k7 k8 k9 o;generalize kZ8 r=Z at *;go_enter func40,ntmps40;go_wp2_with (refine ca w.heap.size _ (by rfl) rfl B0 underlying63 HL.out ?_);refine mr (CH.out _ bw) fun w1 hb=>?_;replace B0:=B0.kept hb;replace bw:=bg bw hb;clear hb;obtain⟨c0,p1,p2,p3⟩:=parts l4.out l9.out B0
   go_wp2_with (refine aY w.heap.size 5 cr (by rfl) rfl p2 underlying59 LR.out ?_);refine mr (C.out _ bw) fun w2 hb=>?_;replace bw:=bg bw hb;go_wp2;go_ret;exact⟨rfl,bw⟩
  .obtain⟨e1,e2,e3,e4⟩:=fA o;rw[e4]
   have C:Hid (Qz w 73 #[.agg cf.toArray] (.int .i64 (kZ9 f))):=fun w0 g=>FI cf f w0 (k9.keep g)
   clear e1 e2 e3 e4 k7 k8 k9 o;generalize kZ9 f=Z at *;go_enter func40,ntmps40;go_wp2_with (refine ca w.heap.size _ (by rfl) rfl B0 underlying63 HL.out ?_);refine mr (CH.out _ bw) fun w1 hb=>?_;replace B0:=B0.kept hb;replace bw:=bg bw hb;clear hb;obtain⟨c0,p1,p2,p3⟩:=parts l4.out l9.out B0
   go_wp2_with (refine aY w.heap.size 14 cf (by rfl) rfl p3 underlying61 LF.out ?_);refine mr (C.out _ bw) fun w2 hb=>?_;replace bw:=bg bw hb;go_wp2;go_ret;exact⟨rfl,bw⟩
end Go.Proofs.YtleegaihbgbcjabGreatDoor
namespace Go.Proofs.YtleegaihbgbcjabGreatDoor.Rz
open Go.RowKit Num Bit
def bv(l:List Bool):List Value:=l.map fun b=>Value.bool b
def bitsOf(xs:List Nat)(q:Nat):List Bool:=(List.range q).map (bitAt xs)
theorem Hh(xs:List Nat)(q:Nat):bv (bitsOf xs q)++[.bool (bitAt xs q)]=bv (bitsOf xs (q+1)):=by
 unfold bv bitsOf;rw[List.range_succ,List.map_append,List.map_append];rfl
theorem owns_below{w w':World}{base e n:Nat}{v:Value}{vs:List Value}(h:w.ownsRow base e 1 v n vs)(hb:Below w.heap.size w w'):w'.ownsRow base e 1 v n vs:=by
 obtain⟨h1,h2 | ⟨g,cap,cur,e1,e2,hh,r⟩⟩:=h
 .exact⟨h1,.inl h2⟩
 .exact⟨h1,.inr ⟨g,cap,cur,e1,e2,(hb.block g ((Array.getElem?_eq_some_iff.1 hh).1)).trans hh,r⟩⟩
theorem bools_c(N:Int)(ao:Option Addr)(xs:List Nat)(cap:Nat)(w:World)(hx:Wd w ao xs)(hk:am N xs=true):
    Calls prog 122 #[.agg #[.int .i64 N,.slice ao xs.length cap]] w fun e w'=>∃v,e=.returned v/\w'.ownsRow w.heap.size 4 1 v N.toNat (bv (bitsOf xs N.toNat))/\Below w.heap.size w w':=by
  obtain⟨hc0,hc1,hc2,_⟩:=bj N xs hk;obtain⟨m,rfl⟩:=Int.eq_ofNat_of_zero_le hc0;obtain⟨i0,hi,hz0,hz1,hz2⟩:=info_parts Tryz.info4;have HL:Hid ((xs.length:Int)=((m:Int)+63)/64):=hc2;clear hc2
  go_enter func122,ntmps122;go_wp2
  go_loopw [3,4] (fun v i wr=>∃q:Nat,q<=m/\i=.int .i64 q/\wr.ownsRow (w.heap.size+1) 4 1 v q (bv (bitsOf xs q))/\(wr.cell? ⟨w.heap.size,0,none⟩=some (.int .i64 m)/\wr.cell? ⟨w.heap.size,1,none⟩=some (.slice ao xs.length cap))/\w.heap.size<wr.heap.size/\Below (w.heap.size+1) (w.alloc (.cells #[.int .i64 m,.slice ao xs.length cap] 53)) wr) (fun _ i _=>m-(intOf i).toNat)
  case atStart=>exact⟨0,Nat.zero_le _,rfl,World.ownsRow_nil _ _ _ _,⟨by simp,by simp⟩,by simp,Below.refl _ _⟩
  case round=>
    obtain⟨q,hq,rfl,hown,⟨r0,r1⟩,hz,hwr⟩:=hrel;have hw0:Below w.heap.size w wr:=(below_alloc w _).trans (hwr.mono (by omega));by_cases hlt:q<m
    . have hlt2:(q:Int)<(m:Int):=by omega
      go_wp2_with fail;refine mr (mK _ _ _ _ _ _ (hx.keep hw0) (by have:=HL.out;omega) (by omega)) fun w2 hb=>?_;have s0:=(hb.cell (p:=⟨w.heap.size,0,none⟩) hz).trans r0
      have s1:=(hb.cell (p:=⟨w.heap.size,1,none⟩) hz).trans r1;have hz2':w.heap.size<w2.heap.size:=Nat.lt_of_lt_of_le hz hb.size;have hw2:=hwr.trans (hb.mono (show w.heap.size+1<=wr.heap.size by omega))
      have hown2:=owns_below hown hb;clear hb r0 r1 hwr hz hown hw0
      go_wp2_with (at_builtin;refine wpList_append_own _ rfl _ _ 73 rfl (w.heap.size+1) 4 i0 (.bool false) 1 1 underlying73 hi hz0 hz1 hz2 rfl (by decide) _ _ _ rfl (hown2.alloc _) ⟨w2.heap.size,0,none⟩ 1 1 [.bool (bitAt xs q)] rfl rfl ?c1 ?c2 ?c3 ?c4 ?c5 ?_)
      case c1=>
        intro j u hj;match j,hj with
        | 0,hj=>simp at hj;subst hj;simp[Addr.add]
      case c2=>intro u hu;simp at hu;subst hu;rfl
      case c3=>unfold maxLen;omega
      case c4=>omega
      case c5=>simp;omega
      intro v' w3 hown3 hgrow _;have hrow:∀k,u3.ownBlock=some k->w.heap.size+1<=k:=fun k hk=>(hown2.lt k hk).1
      have hb3:Below (w.heap.size+1) (w2.alloc (.cells #[.bool (bitAt xs q)] 4)) w3:=(Below.refl _ _).grown hgrow (by simp;omega) hrow
      have hb4:Below (w.heap.size+1) w2 w3:=Below.trans ((Below.refl _ _).alloc (by omega) _) hb3;have p0:=(hb4.cell (p:=⟨w.heap.size,0,none⟩) (Nat.lt_succ_self _)).trans s0
      have p1:=(hb4.cell (p:=⟨w.heap.size,1,none⟩) (Nat.lt_succ_self _)).trans s1;have hz3:w.heap.size<w3.heap.size:=Nat.lt_of_lt_of_le hz2' hb4.size;have hw3:=hw2.trans hb4;rw[Hh]at hown3
      have HO:Hid (w3.ownsRow (w.heap.size+1) 4 1 v' (q+1) (bv (bitsOf xs (q+1)))):=hown3;clear hgrow hown2 hb3 hb4 hown3 s0 s1 hrow hi hz0 hz1 hz2;go_wp2
      first
        | exact⟨⟨q+1,by omega,by go_num,HO.out,⟨p0,p1⟩,hz3,hw3⟩,by simp only[intOf];omega⟩
        | (go_roundw
           case rel=>exact⟨q+1,by omega,by go_num,HO.out,⟨p0,p1⟩,hz3,hw3⟩
           case measure=>simp only[intOf];omega)
    . have hqm:q=m:=by omega
      have HO:Hid (wr.ownsRow w.heap.size 4 1 u3 m (bv (bitsOf xs m))):=by
        rw[hqm]at hown;obtain⟨h1,h2 | ⟨g,c,cur,e1,e2,r⟩⟩:=hown
        . exact⟨h1,.inl h2⟩
        . exact⟨h1,.inr ⟨g,c,cur,e1,by omega,r⟩⟩
      clear hqm hown;go_wp2;go_ret;exact⟨u3,rfl,HO.out,hw0⟩
end Go.Proofs.YtleegaihbgbcjabGreatDoor.Rz
namespace Go.Proofs.YtleegaihbgbcjabGreatDoor
open Go.RowKit Num Bit
theorem Cx:(prog.info? 5).map (fun i=>(i.zero,i.size,i.bytes))=some (some (.int .u8 0),1,1):=by kernel_rfl
theorem Cf:∀q:Nat,q<8->(2:Int)^min (7-q) 8%256=((2^(7-q):Nat):Int):=by
 intro q hq;have:q=0\/q=1\/q=2\/q=3\/q=4\/q=5\/q=6\/q=7:=by omega
 rcases this with rfl | rfl | rfl | rfl | rfl | rfl | rfl | rfl<;>rfl
theorem Av(q:Nat):2^(7-q)<256:=Nat.lt_of_le_of_lt (Nat.pow_le_pow_right (by decide) (Nat.sub_le _ _)) (by decide:2^7<256)
theorem Eb(a:RA):am (kBN a) (aR a)=true:=by
 cases ok:aQ a with
 | true=>exact jY a ok
 | false=>
  by_cases k1:kOn a=1
  .obtain⟨e1,e2,e3,_⟩:=im k1;rw[e2,e3];unfold kBN7 kBX7 gJ fw
   rw[if_neg (by rw[show pchk a.p.N a.p.xs a.p.S a.p.T=kOk7 a.p from rfl,<-e1,ok];decide),if_neg (by rw[show pchk a.p.N a.p.xs a.p.S a.p.T=kOk7 a.p from rfl,<-e1,ok];decide)];rfl
  by_cases k2:kOn a=2
  .obtain⟨e1,e2,e3,_⟩:=il k2;rw[e2,e3];unfold kBN8 kBX8 fJ dO
   rw[if_neg (by rw[show cM a.r.N a.r.k a.r.V a.r.M a.r.xs a.r.L a.r.ys a.r.S a.r.T=kOk8 a.r from rfl,<-e1,ok];decide),if_neg (by rw[show cM a.r.N a.r.k a.r.V a.r.M a.r.xs a.r.L a.r.ys a.r.S a.r.T=kOk8 a.r from rfl,<-e1,ok];decide)]
   rfl
  by_cases k3:kOn a=3
  .obtain⟨e1,e2,e3,_⟩:=fA k3;rw[e2,e3];unfold kBN9 kBX9;rw[if_neg (by rw[<-e1,ok];decide),if_neg (by rw[<-e1,ok];decide)];rfl
  obtain⟨_,e2,e3,_⟩:=gc k1 k2 k3;rw[e2,e3];rfl
theorem yN(i:Nat):vK .i64 (List.range i)++[.int .i64 i]=vK .i64 (List.range (i+1)):=by
 rw[List.range_succ,gF];rfl
def wk(w0:World)(L:List Nat)(e:Ending)(w':World):Prop:=∃bo bc,e=.returned (.slice bo L.length bc)/\Bd w' bo L/\Below w0.heap.size w0 w'
theorem na{w0 w':World}(h:Below w0.heap.size w0 w'):wk w0 [] (.returned (.slice none 0 0)) w':=⟨none,0,rfl,vX _ _,h⟩
theorem yK(lo:Option Addr)(lc:Nat)(zo:Option Addr)(zc:Nat)(x:MR)(w:World)(h:MI w lo lc zo zc x):
  Calls prog 74 #[.agg #[.int .i64 x.K,.int .i64 x.N,.slice lo x.av.length lc,.slice zo x.zs.length zc]] w (wk w (mX x)):=by
 have bx:=aa.new w [.int .i64 x.K,.int .i64 x.N,.slice lo x.av.length lc,.slice zo x.zs.length zc] 27;have bw:=below_alloc w (.cells #[.int .i64 x.K,.int .i64 x.N,.slice lo x.av.length lc,.slice zo x.zs.length zc] 27)
 have hn64:=h.n;by_cases q1:x.av.length=8;rotate_left
 .have e:mX x=[]:=by unfold mX;rw[ua (.inl q1)];rfl
  rw[e];have q3:((x.av.length:Int) != 8)=true:=by simp;omega
  have lm:=h.lm;clear h e;generalize x.N=N at *;generalize x.K=K at *;generalize x.av.length=m at *;generalize x.zs.length=m2 at *;go_enter func74,ntmps74;go_wp2;go_ret;exact na bw
 by_cases q2:x.N<0\/8192<x.N
 .have e:mX x=[]:=by unfold mX;rw[ua (.inr q2)];rfl
  rw[e,q1];rw[q1]at bw bx;clear h e q1;generalize x.N=N at *;generalize x.K=K at *;generalize x.zs.length=m2 at *;by_cases q3:N<0
  .clear q2;go_enter func74,ntmps74;go_wp2;go_ret;exact na bw
  .have q4:(8192:Int)<N:=by omega
   clear q2;go_enter func74,ntmps74;go_wp2;go_ret;exact na bw
 obtain⟨n,hn⟩:∃n:Nat,x.N=n:=⟨x.N.toNat,by omega⟩;have hn8:n<=8192:=by omega
 have hnt:x.N.toNat=n:=by omega
 obtain⟨b,off,rfl,hbl,_⟩:=h.l (by rw[q1];decide);have HTI:=ag h;obtain⟨Z,hZ⟩:∃Z,Hid (Z=mX x):=⟨_,rfl⟩;rw[<-hZ.out]
 have ZB:Hid ((∃l,l<8/\kBN (bp x l)≠(n:Int))->Z=[]):=by
  rintro⟨l,h1,h2⟩;rw[hZ.out];unfold mX;rw[Dk l h1 (by rw[hn];exact h2)];rfl
 obtain⟨T,hT⟩:∃T,Hid (T=Mx.tx (gS x) n):=⟨_,rfl⟩
 have ZG:Hid ((∀l,l<8->kBN (bp x l)=(n:Int))->Z=T):=fun hall=>by
  rw[hZ.out,hT.out];unfold mX;rw[t_ q1 (by omega) (fun l hl=>by rw[hn];exact hall l hl),if_pos rfl,hnt]
 have TL:Hid (T.length=n):=by show _=_;rw[hT.out,Mx.length_tx]
 have TB:Hid (fV T):=by show fV T;rw[hT.out];exact Mx.byt_tx _ _
 have TR:Hid (∀q,q<8->Mx.rw_ T q=gS x q):=fun q hq=>by
  rw[hT.out];exact Mx.rw_tx (gS x) n (fun l _=>(pQ x l).trans hnt) q hq q (Nat.le_refl _)
 have CO:Hid (∀q,q<8->∃(cs:List Value) (X:List Nat) (M:Int),w.rangeAt b (off+q*22) cs/\(prog.info? 63).map (·.size)=some cs.length/\M=kBN (bp x q)/\(∀w0,Below w.heap.size w w0->Calls prog 121 #[.agg cs.toArray] w0 fun e w'=>∃bo bc,e=.returned (.agg #[.int .i64 M,.slice bo X.length bc])/\Wd w' bo X/\Below w0.heap.size w0 w')/\(M=(n:Int)->∀w0 bo bc,Wd w0 bo X->Calls prog 122 #[.agg #[.int .i64 n,.slice bo X.length bc]] w0 fun e w'=>∃a8 c8,e=.returned (.slice a8 n c8)/\w'.ownsRow w0.heap.size 4 1 (.slice a8 n c8) n ((Mx.rw_ T q).map .bool)/\Below w0.heap.size w0 w')):=fun q hq=>by
  obtain⟨b',off',e,_,hrows⟩:=HTI.out.l (by rw[q1];decide);simp only[Option.some.injEq,Addr.mk.injEq,and_true]at e;obtain⟨rfl,rfl⟩:=e;obtain⟨cs,h1,h2⟩:=hrows q (by rw[q1];exact hq)
  refine⟨cs,aR (bp x q),kBN (bp x q),h1,h2.arg.len,rfl,fun w0 hb=>?_,fun hM w0 bo bc hd=>?_⟩
  .refine(xh cs (bp x q) w0 (h2.keep hb)).mono ?_;rintro e w' ⟨bo,bc,rfl,g1,_,g2⟩;exact⟨bo,bc,rfl,g1,g2⟩
  .have hk:=Eb (bp x q);rw[hM]at hk;refine(Rz.bools_c (n:Int) bo (aR (bp x q)) bc w0 hd hk).mono ?_;rintro e w' ⟨v,rfl,h3,h4⟩;rw[Int.toNat_natCast]at h3;obtain⟨a8,c8,rfl, -, -⟩:=Ap.owns_shape h3
   refine⟨a8,c8,rfl,?_,h4⟩
   have e1:(Mx.rw_ T q).map Value.bool=Rz.bv (Rz.bitsOf (aR (bp x q)) n):=by
    rw[TR.out q hq];unfold gS Rz.bv Rz.bitsOf;rw[hnt]
   rw[e1];exact h3
 have PT:Hid (∀w0 q oo oc a9 c9,Nd w0 oo (mI (Mx.pl T q))->Bl w0 a9 (Mx.rw_ T q)->Calls prog 36 #[.slice oo n oc,.slice a9 n c9] w0 fun e w'=>∃o2 c2,e=.returned (.slice o2 n c2)/\w'.ownsRow w0.heap.size 3 1 (.slice o2 n c2) n (vK .i64 (Mx.pl T (q+1)))/\Below w0.heap.size w0 w'):=fun w0 q oo oc a9 c9 h1 h2=>by
  have:=rZ oo (Mx.pl T q) oc a9 c9 (fun j=>Mx.tb q (gt T j)) w0 h1 h2 (by rw[Mx.length_pl,TL.out];omega);rw[Mx.length_pl,TL.out]at this;refine this.mono ?_;rintro e w' ⟨o2,n2,c2,rfl,rfl,h3,h4⟩
  have e3:(Mx.pt (fun j=>Mx.tb q (gt T j)) (Mx.pl T q)).length=n:=by
   have:=Mx.length_pl T (q+1);rw[TL.out]at this;exact this
  rw[e3]at h3⊢;exact⟨o2,c2,rfl,h3,h4⟩
 have PL:Hid (∀q,(Mx.pl T q).length=n):=fun q=>by rw[Mx.length_pl,TL.out]
 have LR:Hid (∀q,(Mx.rw_ T q).length=n):=fun q=>by rw[Mx.length_rw,TL.out]
 have P0:Hid (vK .i64 (List.range n)=vK .i64 (Mx.pl T 0)):=by show _=vK .i64 (List.range T.length);rw[TL.out]
 have T0:Hid (vK .u8 (List.replicate n 0)=vK .u8 (Mx.txL T 0 0)):=by show _=_;rw[Mx.txL_zero TB.out,TL.out]
 have TN:Hid (∀q,Mx.txL T q n=Mx.txL T (q+1) 0):=fun q=>by rw[<-Mx.txL_next,TL.out]
 have TX:Hid (∀q j y,q<8->(Mx.pl T q)[j]?=some y->y<n/\gt (Mx.txL T q j) y<256/\(Mx.rw_ T q)[j]?=some (Mx.tb q (gt T y))/\(Mx.tb q (gt T y)=true->(Mx.txL T q j).set y (gt (Mx.txL T q j) y|||2^(7-q))=Mx.txL T q (j+1))/\(Mx.tb q (gt T y)=false->Mx.txL T q j=Mx.txL T q (j+1))):=fun q j y hq hy=>by
  obtain⟨g1,g2,g3⟩:=Mx.txL_step hy;refine⟨by rw[<-TL.out];exact g1,by rw[g2];exact Mx.top_lt (TB.out y),?_,fun e=>?_,fun e=>Mx.txL_skip TB.out hq hy e⟩
  .unfold Mx.rw_;rw[List.getElem?_map,hy];rfl
  .rw[g2,Mx.top_on (TB.out y) hq e];exact g3
 have TLL:Hid (∀q j,(Mx.txL T q j).length=n):=fun q j=>by rw[Mx.length_txL,TL.out]
 have T8:Hid (Mx.txL T 8 0=T):=Mx.txL_all T;rw[q1,hn]at bx bw⊢;clear h hn64 hZ q2 hT TR TB HTI;generalize x.K=K at *;generalize x.zs.length=m2 at *;obtain⟨i5,hi5,za5,zb5,zc5⟩:=info_parts Cx
 obtain⟨i3,hi3,za3,zb3,zc3⟩:=info_parts jp;have nn0:¬(n:Int)<0:=by omega
 have nn1:¬(8192:Int)<(n:Int):=by omega
 have nn2:(0:Int)<=(n:Int):=by omega
 clear hn q1 hnt;go_enter func74,ntmps74;go_wp2_with (at_make;refine wpList_make_full _ rfl _ _ 22 rfl (w.heap.size+1) 5 i5 (.int .u8 0) 1 underlying22 hi5 za5 zb5 .i64 .i64 _ _ n rfl rfl rfl rfl ?b2 ?b3 ?b4 ?_)
 case b2=>first | (rw[zc5];omega) | omega
 case b3=>unfold maxLen;omega
 intro w2 hown hgr;have c3:=eO hown;have hz:(w.alloc (.cells [.int .i64 K,.int .i64 n,.slice (some ⟨b,off,none⟩) 8 lc,.slice zo m2 zc].toArray 27)).heap.size=w.heap.size+1:=by simp
 have b2:Below (w.heap.size+1) (w.alloc (.cells [.int .i64 K,.int .i64 n,.slice (some ⟨b,off,none⟩) 8 lc,.slice zo m2 zc].toArray 27)) w2:=(Below.refl _ _).grown hgr (by rw[hz];exact Nat.le_refl _) (fun k h=>by cases h)
 replace bx:=bx.keep b2 (by omega);replace bw:=bw.trans (b2.mono (by omega));rw[T0.out]at c3;obtain⟨g3,hg3⟩:∃g3,g3=w.heap.size+1:=⟨_,rfl⟩;rw[<-hg3]at c3⊢;have l3:w.heap.size<g3:=by omega
 clear hg3 hown hgr b2 hz T0;have H2:=ag (And.intro bx (And.intro c3 bw));have x1:=bx.cell 1 rfl;clear bx c3 bw;go_wp2
 go_loopw [5,4] (fun s v wr=>∃i:Nat,i<=n/\s=.int .i64 i/\wr.ownsRow w2.heap.size 3 1 v i (vK .i64 (List.range i))/\Below w2.heap.size w2 wr) (fun s _ _=>n-(intOf s).toNat)
 case atStart=>exact⟨0,Nat.zero_le _,rfl,World.ownsRow_nil _ _ _ _,Below.refl _ _⟩
 case round=>
  obtain⟨i,hin,rfl,own4,jb⟩:=hrel;obtain⟨a4,c4,rfl,hc4, -⟩:=Ap.owns_shape own4;have x1':=((H2.out.1.kept jb).cell 1 rfl);clear x1;by_cases hlt:i<n
  .have hlt2:(i:Int)<(n:Int):=by omega
   have bs:=ag (yN i);have bA:=below_alloc wr (.cells #[.int .i64 i] 3);have own3:=Ap.owns_below own4 bA
   have src3:(wr.alloc (.cells #[.int .i64 i] 3)).cell? ⟨wr.heap.size,0,none⟩=some (.int .i64 i):=(aa.new wr [.int .i64 i] 3).cell 0 rfl;have jb3:=bg jb bA
   have g3':w2.heap.size<=(wr.alloc (.cells #[.int .i64 i] 3)).heap.size:=jb3.size;clear bA own4 jb;generalize vK .i64 (List.range i)=L4 at *
   go_wp2_with (at_builtin;refine Ap.wpList_append_u rfl _ _ 25 rfl w2.heap.size 3 i3 (.int .i64 0) 8 underlying25 hi3 za3 zb3 zc3 rfl (.slice a4 i c4) i L4 rfl own3 (some ⟨wr.heap.size,0,none⟩) 1 1 [.int .i64 i] rfl rfl ?d1 ?d2 ?d3 ?d4 ?d5 ?_)
   case d1=>exact fun _=>⟨_,rfl,fun j u hj=>by
    match j,hj with
    | 0,hj=>simp at hj;subst hj;exact src3⟩
   case d2=>intro u hu;simp at hu;subst hu;rfl
   case d3=>unfold maxLen;omega
   case d4=>omega
   case d5=>exact g3'
   intro so sc w4 own4 hle4 hB4;have HO:=ag (And.intro own4 (jb3.trans hB4));clear own4 own3 hB4 jb3 src3 g3' x1';go_wp2;refine⟨⟨i+1,by omega,by go_num,?_,HO.out.2⟩,by simp only[intOf];omega⟩;rw[<-bs.out]
   exact HO.out.1
  .obtain rfl:i=n:=by omega
   rw[P0.out]at own4;have H3:=ag (And.intro own4 (And.intro (H2.out.1.kept jb) (And.intro (H2.out.2.1.kept jb) (H2.out.2.2.trans (jb.mono H2.out.2.2.size)))));clear own4 jb H2 P0;go_wp2;clear x1'
   go_loopw [6,4] (fun s v wr=>∃(q:Nat) (oo:Option Addr) (oc B:Nat),q<=8/\s=.int .i64 q/\v=.slice oo i oc/\Hid (∀l,l<q->kBN (bp x l)=(i:Int))/\Hid (wr.ownsRow B 3 1 (.slice oo i oc) i (vK .i64 (Mx.pl T q)))/\Hid (aa wr w.heap.size [.int .i64 K,.int .i64 i,.slice (some ⟨b,off,none⟩) 8 lc,.slice zo m2 zc] 27)/\Hid (aa wr g3 (vK .u8 (Mx.txL T q 0)) 5)/\Hid (Below w.heap.size w wr)) (fun s _ _=>8-(intOf s).toNat)
   case atStart=>exact⟨0,_,_,_,Nat.zero_le _,rfl,rfl,ag (fun l hl=>absurd hl (by omega)),ag H3.out.1,ag H3.out.2.1,ag H3.out.2.2.1,ag H3.out.2.2.2⟩
   case round=>
    obtain⟨q,oo,oc,B,hq,rfl,rfl,HA,HO,HX,H3',HW⟩:=hrel;clear H3;by_cases hi:q<8
    .have hi2:(q:Int)<8:=by omega
     obtain⟨cs,X,M,rg,HL0,hM0,BI0,BO0⟩:=CO.out q hi;have HL:=ag HL0;have BI:=ag BI0;have BO:=ag BO0;have HM0:=ag hM0;have rg2:=ku rg HW.out hbl;have x2:=HX.out.cell 2 rfl
     have TXq:=ag (fun j y=>TX.out q j y hi);have TNq:=ag (TN.out q);have PTq:=ag (fun w0 oo oc a9 c9=>PT.out w0 q oo oc a9 c9);have PLq:=ag (PL.out q);have LRq:=ag (LR.out q)
     have TLq:=ag (TLL.out q);clear CO HL0 BI0 BO0 hM0 rg TX TN PT PL LR TLL T8;go_wp2_with (refine aY b (off+q*22) cs (by rfl) rfl rg2 underlying63 HL.out ?_);refine(BI.out _ HW.out).mono ?_
     rintro e w3 ⟨bo,bc,rfl,wd,hb3⟩;replace HX:=ag (HX.out.kept hb3);replace H3':=ag (H3'.out.kept hb3);replace HO:=ag (Ap.owns_below HO.out hb3);replace HW:=ag (bg HW.out hb3)
     clear hb3 rg2 x2 BI;have c7:=aa.new w3 [.int .i64 M,.slice bo X.length bc] 53;have b7:=below_alloc w3 (.cells [.int .i64 M,.slice bo X.length bc].toArray 53);replace HX:=ag (HX.out.kept b7)
     replace H3':=ag (H3'.out.kept b7);replace HO:=ag (Ap.owns_below HO.out b7);replace wd:=wd.keep b7;replace HW:=ag (bg HW.out b7);clear b7;have z0:=c7.cell 0 rfl
     have z1:=c7.cell 1 rfl;have x1:=HX.out.cell 1 rfl;by_cases dM:M=(i:Int);rotate_left
     .have dM2:(M != (i:Int))=true:=by simp[dM]
      have E:Hid (Z=[]):=ZB.out ⟨q,hi,by rw[<-HM0.out];exact dM⟩;clear wd c7;go_wp2;go_ret;rw[E.out];exact na HW.out
     have HM:=ag (show ∀l,l<q+1->kBN (bp x l)=(i:Int)from fun l hl=>by
      by_cases e:l=q
      .rw[e,<-HM0.out];exact dM
      .exact HA.out l (by omega))
     have BO1:=ag (BO.out dM);clear HM0 HA BO;subst dM;go_wp2_with fail;refine(BO1.out _ bo bc wd).mono ?_;rintro e w5 ⟨a8,c8,rfl,own8,hb5⟩;have H8:=ag own8;replace HX:=ag (HX.out.kept hb5)
     replace H3':=ag (H3'.out.kept hb5);replace HO:=ag (Ap.owns_below HO.out hb5);replace HW:=ag (bg HW.out hb5);clear hb5 own8 wd c7 z0 z1 x1 BO1;have WQ:=Cf q hi;have wl:=Av q
     obtain⟨kk,hk⟩:∃kk,7-q=kk:=⟨_,rfl⟩;have mk:IntKind.i64.wrap (7-(q:Int))=(kk:Int):=by rw[IntKind.wrap_i64];omega
     have hk0:(0:Int)<=(kk:Int):=by omega
     have hk8:(kk:Int)<8:=by omega
     rw[hk]at WQ wl TXq;generalize (2:Nat)^kk=W at *;obtain⟨B8,hB8⟩:∃B8,B8=(w3.alloc (.cells [.int .i64 i,.slice bo X.length bc].toArray 53)).heap.size:=⟨_,rfl⟩;rw[<-hB8]at H8;clear hB8 hk
     have HI:=ag (And.intro HX.out (And.intro H3'.out (And.intro HO.out (And.intro H8.out HW.out))));clear HX H3' HO H8 HW;go_wp2
     go_loopw [9] (fun s ws=>∃j:Nat,j<=i/\s=.int .i64 j/\Hid (aa ws w.heap.size [.int .i64 K,.int .i64 i,.slice (some ⟨b,off,none⟩) 8 lc,.slice zo m2 zc] 27/\aa ws g3 (vK .u8 (Mx.txL T q j)) 5/\ws.ownsRow B 3 1 (.slice oo i oc) i (vK .i64 (Mx.pl T q))/\ws.ownsRow B8 4 1 (.slice a8 i c8) i ((Mx.rw_ T q).map .bool)/\Below w.heap.size w ws)) (fun s _=>i-(intOf s).toNat)
     case atStart=>exact⟨0,Nat.zero_le _,rfl,HI⟩
     case round=>
      obtain⟨j,hji,rfl,HJ⟩:=hrel;clear HI;by_cases hlt:j<i
      .have hlt2:(j:Int)<(i:Int):=by omega
       obtain⟨y,hy0⟩:∃y,(Mx.pl T q)[j]?=some y:=⟨_,List.getElem?_eq_getElem (by rw[PLq.out];exact hlt)⟩;obtain⟨hy,hc,hr,hOn,hOff⟩:=TXq.out j y hy0;have HOn:=ag hOn;have HOff:=ag hOff
       have hy2:(y:Int)<(i:Int):=by omega
       obtain⟨ob,of_,rfl,hob,hoc⟩:=(lZ HJ.out.2.2.1 PLq.out.symm) (by rw[dh,PLq.out];omega);have a0:=hoc j (by rw[dh,PLq.out];exact hlt)
       have ey:gt (Mx.pl T q) j=y:=by unfold gt;rw[List.getD_eq_getElem?_getD,hy0];rfl
       rw[ip _ _ (by rw[PLq.out];exact hlt),ey]at a0;obtain⟨bb,bf,rfl,hbb,hbc⟩:=(ox HJ.out.2.2.2.1 LRq.out.symm) (by rw[LRq.out];omega);have a2:=hbc j (by rw[LRq.out];exact hlt)
       have eb:bt (Mx.rw_ T q) j=Mx.tb q (gt T y):=by unfold bt;rw[List.getD_eq_getElem?_getD,hr];rfl
       rw[eb]at a2;have cy:(vK .u8 (Mx.txL T q j))[y]?=some (.int .u8 (gt (Mx.txL T q j) y:Nat)):=fY _ _ _ (by rw[TLq.out];exact hy);have HCY:=ag cy;have OR:=pj (gt (Mx.txL T q j) y) W hc wl
       clear hoc hbc eb ey hr hOn hOff cy hob hbb;have HY:=ag hy0;clear hy0;generalize gt (Mx.txL T q j) y=C at *;generalize Mx.tb q (gt T y)=R at *;cases R with
       | true=>
        have HS:=HOn.out rfl;obtain⟨jx,j3,jo,j8,jw⟩:=HJ.out
        have c3':aa (wr.drew.setCell ⟨g3,y,none⟩ (.int .u8 ((C|||W:Nat):Int))) g3 (vK .u8 (Mx.txL T q (j+1))) 5:=by
         have:=j3.drew.set y (.int .u8 ((C|||W:Nat):Int));rw[mQ,HS]at this;exact this
        have o3:aC g3 wr.drew (wr.drew.setCell ⟨g3,y,none⟩ (.int .u8 ((C|||W:Nat):Int))):=(aC.refl _ _).set y _;have dr:Below wr.heap.size wr wr.drew:=(Below.refl _ _).drew
        have HF:Hid (aa (wr.drew.setCell ⟨g3,y,none⟩ (.int .u8 ((C|||W:Nat):Int))) w.heap.size [.int .i64 K,.int .i64 i,.slice (some ⟨b,off,none⟩) 8 lc,.slice zo m2 zc] 27/\aa (wr.drew.setCell ⟨g3,y,none⟩ (.int .u8 ((C|||W:Nat):Int))) g3 (vK .u8 (Mx.txL T q (j+1))) 5/\(wr.drew.setCell ⟨g3,y,none⟩ (.int .u8 ((C|||W:Nat):Int))).ownsRow B 3 1 (.slice (some ⟨ob,of_,none⟩) i oc) i (vK .i64 (Mx.pl T q))/\(wr.drew.setCell ⟨g3,y,none⟩ (.int .u8 ((C|||W:Nat):Int))).ownsRow B8 4 1 (.slice (some ⟨bb,bf,none⟩) i c8) i ((Mx.rw_ T q).map .bool)/\Below w.heap.size w (wr.drew.setCell ⟨g3,y,none⟩ (.int .u8 ((C|||W:Nat):Int)))):=⟨o3.cel (jx.kept dr) (by omega),c3',jl (Ap.owns_below jo dr) (j3.kept dr) (by decide) o3,jl (Ap.owns_below j8 dr) (j3.kept dr) (by decide) o3,jw.drew.trans (o3.below (by omega))⟩
        have hS:aa wr.drew g3 (vK .u8 (Mx.txL T q j)) 5/\wr.drew.cell? ⟨ob,of_+j,none⟩=some (.int .i64 (y:Nat)):=⟨j3.kept dr,a0⟩;clear c3' o3 HS HOn HOff jx j3 jo j8 jw HJ dr;go_wp2
        refine bn [18] (fun w'=>aa w' g3 (vK .u8 (Mx.txL T q j)) 5/\w'.cell? ⟨ob,of_+j,none⟩=some (.int .i64 (y:Nat))) (by kernel_rfl) ?_
        clear a0 a2;generalize wr.drew=V at *;refine aK 0 hS ?_;refine aK 1 hS ?_;refine aK 2 hS ?_;refine aK 3 hS ?_
        refine aF 4 hS rfl (fun w0 h0=>by obtain⟨h01,h02⟩:=h0;go_simp;try with_reducible rfl) ?_;refine aK 5 hS ?_;refine aK 6 hS ?_;refine aK 7 hS ?_;refine aK 8 hS ?_
        refine aF 9 hS rfl (fun w0 h0=>by obtain⟨h01,h02⟩:=h0;go_simp;try with_reducible rfl) ?_;refine aK 10 hS ?_
        refine aF 11 hS rfl (fun w0 h0=>by have c1:=h0.1.cell y HCY.out;go_simp;try with_reducible rfl) ?_;refine aK 12 hS ?_;refine aK 13 hS ?_;refine aK 14 hS ?_;refine aK 15 hS ?_
        refine aK 16 hS ?_;refine aK 17 hS ?_;refine aO 18 ?_;intro K hK;have c1:=hS.1.cell y HCY.out;have f1:=hS.1.frozen y;go_simp;refine hK.out _ _ (fun h=>absurd (by decide) h) ?_;clear hK K
        try simp only[Act.put,aw,ar,an,ah,aj,ai]
        refine az.done (by kernel_rfl) ?_ _;clear hS c1 f1;go_wp2;refine⟨⟨j+1,by omega,by go_num,?_⟩,by simp only[intOf];omega⟩;first | exact HF | (rw[WQ,OR];exact HF)
       | false=>
        have HK:=HOff.out rfl
        have HF:Hid (aa wr w.heap.size [.int .i64 K,.int .i64 i,.slice (some ⟨b,off,none⟩) 8 lc,.slice zo m2 zc] 27/\aa wr g3 (vK .u8 (Mx.txL T q (j+1))) 5/\wr.ownsRow B 3 1 (.slice (some ⟨ob,of_,none⟩) i oc) i (vK .i64 (Mx.pl T q))/\wr.ownsRow B8 4 1 (.slice (some ⟨bb,bf,none⟩) i c8) i ((Mx.rw_ T q).map .bool)/\Below w.heap.size w wr):=by
         have:=HJ.out;rw[HK]at this;exact this
        clear HK HOn HOff HJ OR;go_wp2;exact⟨⟨j+1,by omega,by go_num,HF⟩,by simp only[intOf];omega⟩
      .obtain rfl:j=i:=by omega
       obtain⟨jx,j3,jo,j8,jw⟩:=HJ.out;rw[TNq.out]at j3;have P1:=ag (PTq.out wr oo oc a8 c8 (lZ jo PLq.out.symm) (ox j8 LRq.out.symm));have J:=ag (And.intro jx (And.intro j3 jw))
       clear jx j3 jo j8 jw HJ PTq TXq;go_wp2_with fail;refine P1.out.mono ?_;rintro e w9 ⟨a9,c9,rfl,own9,hb9⟩;have N1:=ag own9;have N2:=ag (J.out.1.kept hb9);have N3:=ag (J.out.2.1.kept hb9)
       have N4:=ag (J.out.2.2.trans (hb9.mono J.out.2.2.size));clear own9 hb9 P1 J;go_wp2;exact⟨⟨q+1,a9,c9,_,by omega,by go_num,rfl,HM,N1,N2,N3,N4⟩,by simp only[intOf];omega⟩
    .obtain rfl:q=8:=by omega
     have E:Hid (Z=T):=ZG.out HA.out;have HF:=ag (And.intro (bd_vK H3'.out) HW.out);rw[T8.out]at HF;clear CO HO HX H3' HW TX TN PT PL LR TLL;go_wp2;go_ret;rw[E.out]
     exact⟨_,_,by rw[TL.out];rfl,HF.out.1,HF.out.2⟩
theorem A3(cs ds:List Value)(a b:cQ)(w:World)(h:cH w cs a)(g:cH w ds b)(B:Bool)(hB:B=true↔a=b):
  Qq 114 #[.agg cs.toArray,.agg ds.toArray] w (.bool B):=by
 obtain⟨⟨ao,cap,so,sc,tO,tc,rfl,h⟩,xl,sl,tl⟩:=h;obtain⟨⟨bo,dap,po,pc,qo,qc,rfl,g⟩,_⟩:=g
 refine mr (rY a.N ao a.xs cap so a.S sc tO a.T tc b.N bo b.xs dap po b.S pc qo b.T qc w h.x g.x xl h.s g.s sl h.t g.t tl) fun w' hb=>?_;refine⟨?_,hb⟩;congr 2;rw[Bool.eq_iff_iff,hB];cases a;cases b
 simp[and_assoc]
theorem zL(cs ds:List Value)(a b:aT)(w:World)(h:br w cs a)(g:br w ds b)(B:Bool)(hB:B=true↔a=b):
  Qq 115 #[.agg cs.toArray,.agg ds.toArray] w (.bool B):=by
 obtain⟨⟨ao,cap,qo,dap,so,sc,tO,tc,rfl,_,a1,a2,a3,a4,a5,a6,a7,a8,a9,a10⟩,xl,yl,sl,tl⟩:=h;obtain⟨⟨bo,bap,ro,eap,uo,uc,vo,vc,rfl,_,b1,b2,b3,b4,b5,b6,b7,b8,b9,b10⟩,_⟩:=g
 refine mr (sG a.N a.k a.V a.M ao a.xs cap a.L qo a.ys dap so a.S sc tO a.T tc b.N b.k b.V b.M bo b.xs bap b.L ro b.ys eap uo b.S uc vo b.T vc w a1 b1 xl a4 b4 yl a7 b7 sl a9 b9 tl) fun w' hb=>?_;refine⟨?_,hb⟩
 congr 2;rw[Bool.eq_iff_iff,hB];cases a;cases b;simp[and_assoc]
theorem FJ(cs ds:List Value)(a b:bF)(w:World)(h:bT w cs a)(g:bT w ds b)(B:Bool)(hB:B=true↔a=b):
  Qq 116 #[.agg cs.toArray,.agg ds.toArray] w (.bool B):=by
 obtain⟨⟨ao,cap,qo,dap,rfl,_,a1,a2,a3,a4,a5,a6⟩,n3,xl,yl⟩:=h;obtain⟨⟨bo,bap,ro,eap,rfl,_,b1,b2,b3,b4,b5,b6⟩,_⟩:=g
 refine mr (vb a.N a.M a.k a.V a.LM ao a.xs cap a.H qo a.ys dap b.N b.M b.k b.V b.LM bo b.xs bap b.H ro b.ys eap w a1 b1 a4 b4 xl yl) fun w' hb=>?_;refine⟨?_,hb⟩;congr 2;rw[Bool.eq_iff_iff,hB];cases a
 cases b;simp[and_assoc]
theorem lP(p:Prop):∃B:Bool,B=true↔p:=by
 by_cases h:p
 .exact⟨true,by simp[h]⟩
 .exact⟨false,by simp[h]⟩
theorem xd(cs ds:List Value)(a b:RA)(w:World)(h:KI w cs a)(g:KI w ds b)(B:Bool)(hB:B=true↔a=b):
  Qq 66 #[.agg cs.toArray,.agg ds.toArray] w (.bool B):=by
 have sm:=h.sm;have gvw:=h.gv;have tm:=g.sm;replace h:=h.arg;replace g:=g.arg;obtain⟨cp,cr,cf,rfl,hK,h1,h2,h3⟩:=h;have l4:=Hid.mk8 h1.four;have l9:=Hid.mk8 h2.nine;have LP:=Hid.mk8 h1.len
 have LR:=Hid.mk8 h2.len;have LF:=Hid.mk8 h3.len;obtain⟨K,p,r,f⟩:=a;obtain⟨M,p',r',f'⟩:=b;dsimp only at *;have k7:cH w cp p:=⟨h1,sm.p1,sm.p2,sm.p3⟩
 have k8:br w cr r:=⟨h2,sm.r1,sm.r2,sm.r3,sm.r4,gvw⟩;have k9:bT w cf f:=⟨h3,sm.f0,sm.f1,sm.f2⟩;obtain⟨dp,dr,df,rfl,_,g1,g2,g3⟩:=g;have m4:=Hid.mk8 g1.four;have m9:=Hid.mk8 g2.nine
 have MP:=Hid.mk8 g1.len;have MR:=Hid.mk8 g2.len;have MF:=Hid.mk8 g3.len;have j7:cH w dp p':=⟨g1,tm.p1,tm.p2,tm.p3⟩;have j8:br w dr r':=⟨g2,tm.r1,tm.r2,tm.r3,tm.r4,gvw⟩
 have j9:bT w df f':=⟨g3,tm.f0,tm.f1,tm.f2⟩;obtain⟨B7,e7⟩:=lP (p=p');obtain⟨B8,e8⟩:=lP (r=r');obtain⟨B9,e9⟩:=lP (f=f')
 have S7:Hid (Qz w 114 #[.agg cp.toArray,.agg dp.toArray] (.bool B7)):=fun w0 u=>A3 cp dp p p' w0 (k7.keep u) (j7.keep u) B7 e7
 have S8:Hid (Qz w 115 #[.agg cr.toArray,.agg dr.toArray] (.bool B8)):=fun w0 u=>zL cr dr r r' w0 (k8.keep u) (j8.keep u) B8 e8
 have S9:Hid (Qz w 116 #[.agg cf.toArray,.agg df.toArray] (.bool B9)):=fun w0 u=>FJ cf df f f' w0 (k9.keep u) (j9.keep u) B9 e9
 have hE:Hid (B=true↔K=M/\B7=true/\B8=true/\B9=true):=by
  show B=true↔_;rw[hB,e7,e8,e9,RA.mk.injEq]
 clear h1 h2 h3 g1 g2 g3 sm tm k7 k8 k9 j7 j8 j9 hB e7 e8 e9
 have bw:Below w.heap.size w ((w.alloc (.cells (Value.int .i64 K::(cp++(cr++cf))).toArray 63)).alloc (.cells (Value.int .i64 M::(dp++(dr++df))).toArray 63)):=(below_alloc w _).alloc (by simp) _
 have B0:aa ((w.alloc (.cells (Value.int .i64 K::(cp++(cr++cf))).toArray 63)).alloc (.cells (Value.int .i64 M::(dp++(dr++df))).toArray 63)) w.heap.size (Value.int .i64 K::(cp++(cr++cf))) 63:=(aa.new w _ _).alloc _
 have B2:aa ((w.alloc (.cells (Value.int .i64 K::(cp++(cr++cf))).toArray 63)).alloc (.cells (Value.int .i64 M::(dp++(dr++df))).toArray 63)) (w.heap.size+1) (Value.int .i64 M::(dp++(dr++df))) 63:=aa.new2 w _ _ _
 by_cases hKM:K=M
 .subst hKM;go_enter func66,ntmps66;obtain⟨c0,p1,p2,p3⟩:=parts l4.out l9.out B0;obtain⟨d0,t1,t2,t3⟩:=parts m4.out m9.out B2
  go_wp2_with (first | refine aY w.heap.size 1 cp (by rfl) rfl p1 underlying55 LP.out ?_ | refine aY (w.heap.size+1) 1 dp (by rfl) rfl t1 underlying55 MP.out ?_);refine mr (S7.out _ bw) fun v7 hb=>?_;replace B0:=B0.kept hb;replace B2:=B2.kept hb;replace bw:=bg bw hb;clear hb c0 p1 p2 p3 d0 t1 t2 t3;cases B7 with
  | false=>
   obtain rfl:B=false:=Bool.eq_false_iff.2 fun e=>by have:=hE.out.1 e;simp at this
   go_wp2;go_ret;exact⟨rfl,bw⟩
  | true=>
   obtain⟨c0,p1,p2,p3⟩:=parts l4.out l9.out B0;obtain⟨d0,t1,t2,t3⟩:=parts m4.out m9.out B2
   go_wp2_with (first | refine aY w.heap.size 5 cr (by rfl) rfl p2 underlying59 LR.out ?_ | refine aY (w.heap.size+1) 5 dr (by rfl) rfl t2 underlying59 MR.out ?_);refine mr (S8.out _ bw) fun v8 hb=>?_;replace B0:=B0.kept hb;replace B2:=B2.kept hb;replace bw:=bg bw hb;clear hb c0 p1 p2 p3 d0 t1 t2 t3;cases B8 with
   | false=>
    obtain rfl:B=false:=Bool.eq_false_iff.2 fun e=>by have:=hE.out.1 e;simp at this
    go_wp2;go_ret;exact⟨rfl,bw⟩
   | true=>
    obtain⟨c0,p1,p2,p3⟩:=parts l4.out l9.out B0;obtain⟨d0,t1,t2,t3⟩:=parts m4.out m9.out B2
    go_wp2_with (first | refine aY w.heap.size 14 cf (by rfl) rfl p3 underlying61 LF.out ?_ | refine aY (w.heap.size+1) 14 df (by rfl) rfl t3 underlying61 MF.out ?_);refine mr (S9.out _ bw) fun v9 hb=>?_;replace B0:=B0.kept hb;replace B2:=B2.kept hb;replace bw:=bg bw hb;clear hb c0 p1 p2 p3 d0 t1 t2 t3;cases B9 with
    | false=>
     obtain rfl:B=false:=Bool.eq_false_iff.2 fun e=>by have:=hE.out.1 e;simp at this
     go_wp2;go_ret;exact⟨rfl,bw⟩
    | true=>
     obtain rfl:B=true:=hE.out.2 (by simp);go_wp2;go_ret;exact⟨rfl,bw⟩
 .obtain rfl:B=false:=Bool.eq_false_iff.2 fun e=>hKM (hE.out.1 e).1;go_enter func66,ntmps66;obtain⟨c0,p1,p2,p3⟩:=parts l4.out l9.out B0;obtain⟨d0,t1,t2,t3⟩:=parts m4.out m9.out B2;go_wp2;go_ret
  exact⟨rfl,bw⟩
theorem Hw{av bv:List RA}(hl:av.length=bv.length)(h:∀j,j<av.length->av.getD j ra0=bv.getD j ra0):av=bv:=by
 refine List.ext_getElem hl fun j h1 h2=>?_;have:=h j h1;rw[List.getD_eq_getElem?_getD,List.getD_eq_getElem?_getD,List.getElem?_eq_getElem h1,List.getElem?_eq_getElem h2]at this;exact this
theorem yv(l1 l2:Option Addr)(c1 c2:Nat)(av bv:List RA)(w:World)(h1:Lv w l1 av)(h2:Lv w l2 bv)(hl:av.length<=20)(hl2:bv.length<=20)(B:Bool)(hB:B=true↔av=bv):
  Qq 37 #[.slice l1 av.length c1,.slice l2 bv.length c2] w (.bool B):=by
 by_cases hlen:av.length=bv.length
 .have HH:Hid (∀q,q<av.length->∃b1 o1 b2 o2 cs ds Bq,(Bq=true↔av.getD q ra0=bv.getD q ra0)/\l1=some ⟨b1,o1,none⟩/\l2=some ⟨b2,o2,none⟩/\b1<w.heap.size/\b2<w.heap.size/\w.rangeAt b1 (o1+q*22) cs/\w.rangeAt b2 (o2+q*22) ds/\(prog.info? 63).map (·.size)=some cs.length/\(prog.info? 63).map (·.size)=some ds.length/\Qz w 66 #[.agg cs.toArray,.agg ds.toArray] (.bool Bq)):=fun q hq=>by
   obtain⟨b1,o1,e1,g1,r1⟩:=h1 (by omega);obtain⟨b2,o2,e2,g2,r2⟩:=h2 (by omega);obtain⟨cs,k1,k2⟩:=r1 q hq;obtain⟨ds,m1,m2⟩:=r2 q (by omega);obtain⟨Bq,hq⟩:=lP (av.getD q ra0=bv.getD q ra0)
   exact⟨b1,o1,b2,o2,cs,ds,Bq,hq,e1,e2,g1,g2,k1,m1,k2.arg.len,m2.arg.len,fun w0 hb=>xd cs ds _ _ w0 (k2.keep hb) (m2.keep hb) Bq hq⟩
  have YE:Hid ((∀j,j<av.length->av.getD j ra0=bv.getD j ra0)->B=true):=fun h=>hB.2 (Hw hlen h)
  have NO:Hid (∀q,¬av.getD q ra0=bv.getD q ra0->B=false):=fun q h=>Bool.eq_false_iff.2 fun e=>h (by rw[hB.1 e]);rw[<-hlen];obtain⟨n,hn⟩:∃n,Hid (n=av.length):=⟨_,rfl⟩;rw[<-hn.out]at HH YE hl⊢
  clear h1 h2 hB hlen hl2;go_enter func37,ntmps37;go_wp2
  go_loopw [5] (fun s wr=>∃q:Nat,q<=n/\s=.int .i64 q/\Hid (∀j,j<q->av.getD j ra0=bv.getD j ra0)/\Below w.heap.size w wr) (fun s _=>n-(intOf s).toNat)
  case atStart=>exact⟨0,Nat.zero_le _,rfl,fun j hj=>absurd hj (by omega),Below.refl _ _⟩
  case round=>
   obtain⟨q,hq,rfl,HJ,hb⟩:=hrel;by_cases hi:q<n
   .have hi2:(q:Int)<(n:Int):=by omega
    obtain⟨b1,o1,b2,o2,cs,ds,Bq,HQ0,rfl,rfl,g1,g2,r1,r2,L1,L2,SM⟩:=HH.out q hi;have HQ:=ag HQ0;have R1:=ag r1;have R2:=ag r2;have H1:=ag L1;have H2:=ag L2;have S0:=ag SM
    clear r1 r2 L1 L2 SM HH HQ0;go_wp2;refine bn [] (fun w'=>Below w.heap.size w w') (by kernel_rfl) ?_;have hS:Below w.heap.size w wr.drew:=hb.drew;clear hb;generalize wr.drew=V at *;refine aK 0 hS ?_
    refine aK 1 hS ?_;refine aK 2 hS ?_
    refine az.take 3 (v:=.agg (cs).toArray) rfl (by kernel_rfl) (by kernel_rfl) (by kernel_rfl) (by kernel_rfl) (fun _ _ _ h=>h) hS (fun w0 h0=>rX b1 (o1+q*22) _ rfl (ku R1.out h0 g1) underlying63 H1.out) (by rfl) ?rest4
    simp only[Act.put,aw,ar,an,ah,aj,ai];refine aK 4 hS ?_;refine aK 5 hS ?_;refine aK 6 hS ?_
    refine az.take 7 (v:=.agg (ds).toArray) rfl (by kernel_rfl) (by kernel_rfl) (by kernel_rfl) (by kernel_rfl) (fun _ _ _ h=>h) hS (fun w0 h0=>rX b2 (o2+q*22) _ rfl (ku R2.out h0 g2) underlying63 H2.out) (by rfl) ?rest8
    simp only[Act.put,aw,ar,an,ah,aj,ai];refine aO 8 ?_;intro K hK;go_simp;refine mr (S0.out _ hS) fun w5 hb5=>?_;have hS2:=bg hS hb5;clear hb5
    refine hK.out _ _ (fun _=>hS2) ?_;clear hK K;try simp only[Act.put,aw,ar,an,ah,aj,ai]
    refine aK 9 hS2 ?_;refine az.done (by kernel_rfl) ?_ _;clear hS;cases Bq with
    | true=>
     go_wp2;refine⟨⟨q+1,by omega,by go_num,fun j hj=>?_,hS2⟩,by simp only[intOf];omega⟩;by_cases e:j=q
     .rw[e];exact HQ.out.1 rfl
     .exact HJ.out j (by omega)
    | false=>
     obtain rfl:=NO.out q fun e=>by have:=HQ.out.2 e;cases this
     go_wp2;go_ret;exact⟨rfl,hS2⟩
   .obtain rfl:q=n:=by omega
    obtain rfl:=YE.out HJ.out;clear HH;go_wp2;go_ret;exact⟨rfl,hb⟩
 .obtain rfl:B=false:=Bool.eq_false_iff.2 fun e=>hlen (by rw[hB.1 e]);have hne:((av.length:Int) != (bv.length:Int))=true:=by simp;omega
  clear hB h1 h2;generalize av.length=n at *;generalize bv.length=m at *;go_enter func37,ntmps37;go_wp2;go_ret;exact⟨rfl,Below.refl _ _⟩
theorem sa(l1 z1 l2 z2:Option Addr)(c1 d1 c2 d2:Nat)(x y:MR)(w:World)(h1:MI w l1 c1 z1 d1 x)(h2:MI w l2 c2 z2 d2 y)(hl:x.av.length<=20)(hl2:y.av.length<=20)(B:Bool)(hB:B=true↔x=y):
  Qq 12 #[.agg #[.int .i64 x.K,.int .i64 x.N,.slice l1 x.av.length c1,.slice z1 x.zs.length d1],.agg #[.int .i64 y.K,.int .i64 y.N,.slice l2 y.av.length c2,.slice z2 y.zs.length d2]] w (.bool B):=by
 obtain⟨A,hA⟩:=lP (x.av=y.av)
 have H:Hid (Qz w 37 #[.slice l1 x.av.length c1,.slice l2 y.av.length c2] (.bool A)):=fun w0 hb=>yv l1 l2 c1 c2 x.av y.av w0 (h1.keep hb).l (h2.keep hb).l hl hl2 A hA
 have H2:Hid (Qz w 38 #[.slice z1 x.zs.length d1,.slice z2 y.zs.length d2] (.bool (decide (x.zs=y.zs)))):=fun w0 hb=>lW z1 x.zs d1 z2 y.zs d2 w0 (h1.keep hb).z (h2.keep hb).z h1.zm
 have hE:Hid (B=true↔x.K=y.K/\x.N=y.N/\A=true/\decide (x.zs=y.zs)=true):=by
  show B=true↔_;rw[hB,hA,decide_eq_true_eq];cases x;cases y;simp
 have bx:=(aa.new w [.int .i64 x.K,.int .i64 x.N,.slice l1 x.av.length c1,.slice z1 x.zs.length d1] 27).alloc (.cells [.int .i64 y.K,.int .i64 y.N,.slice l2 y.av.length c2,.slice z2 y.zs.length d2].toArray 27)
 have by_:=aa.new2 w (.cells [.int .i64 x.K,.int .i64 x.N,.slice l1 x.av.length c1,.slice z1 x.zs.length d1].toArray 27) [.int .i64 y.K,.int .i64 y.N,.slice l2 y.av.length c2,.slice z2 y.zs.length d2] 27
 have bw:Below w.heap.size w ((w.alloc (.cells #[.int .i64 x.K,.int .i64 x.N,.slice l1 x.av.length c1,.slice z1 x.zs.length d1] 27)).alloc (.cells #[.int .i64 y.K,.int .i64 y.N,.slice l2 y.av.length c2,.slice z2 y.zs.length d2] 27)):=(below_alloc w _).alloc (by simp) _
 clear h1 h2 hl hl2 hA hB;generalize x.K=K at *;generalize x.N=N at *;generalize x.av.length=m at *;generalize y.K=K2 at *;generalize y.N=N2 at *;generalize y.av.length=m2 at *;generalize decide (x.zs=y.zs)=Dz at *
 generalize x.zs.length=n1 at *;generalize y.zs.length=n2 at *;by_cases e1:K=K2
 .by_cases e2:N=N2
  .subst e1 e2;go_enter func12,ntmps12;go_wp2_with fail;refine mr (H.out _ bw) fun w5 hb5=>?_;replace bx:=bx.kept hb5;replace by_:=by_.kept hb5;replace bw:=bg bw hb5;clear hb5 H
   cases A with
   | true=>
    have x3:=bx.cell 3 rfl;have y3:=by_.cell 3 rfl;go_wp2_with fail;refine mr (H2.out _ bw) fun w6 hb6=>?_;replace bw:=bg bw hb6
    obtain rfl:B=Dz:=Bool.eq_iff_iff.2 (by rw[hE.out];simp);go_wp2;go_ret;exact⟨rfl,bw⟩
   | false=>
    obtain rfl:B=false:=Bool.eq_false_iff.2 fun e=>by have:=(hE.out.1 e).2.2.1;cases this
    go_wp2;go_ret;exact⟨rfl,bw⟩
  .obtain rfl:B=false:=Bool.eq_false_iff.2 fun e=>e2 (hE.out.1 e).2.1;have e3:(N==N2)=false:=by simp[e2]
   subst e1;go_enter func12,ntmps12;go_wp2;go_ret;exact⟨rfl,bw⟩
 .obtain rfl:B=false:=Bool.eq_false_iff.2 fun e=>e1 (hE.out.1 e).1;have e3:(K==K2)=false:=by simp[e1]
  go_enter func12,ntmps12;go_wp2;go_ret;exact⟨rfl,bw⟩
theorem Ci(lo:Option Addr)(lc:Nat)(zo:Option Addr)(zc:Nat)(x:MR)(c:Nat)(i:Int)(w:World)(h:MI w lo lc zo zc x)(hbad:mOk x=false):
  Qq 10 #[.agg #[.int .i64 x.K,.int .i64 x.N,.slice lo x.av.length lc,.slice zo x.zs.length zc],.int .u8 c,.int .i64 i] w (.tuple #[.int .i64 0,.int .i64 2]):=by
 have C0:=ag (fun w0 hb=>pG lo lc zo zc x w0 (h.keep hb));rw[hbad]at C0;obtain⟨K,hK⟩:∃K,Hid (K=x.K):=⟨_,rfl⟩;obtain⟨N,hN⟩:∃N,Hid (N=x.N):=⟨_,rfl⟩
 obtain⟨m,hm⟩:∃m,Hid (m=x.av.length):=⟨_,rfl⟩;obtain⟨z,hz⟩:∃z,Hid (z=x.zs.length):=⟨_,rfl⟩;rw[<-hK.out,<-hN.out,<-hm.out,<-hz.out]at C0;rw[<-hK.out,<-hN.out,<-hm.out,<-hz.out]
 obtain⟨W,hW⟩:∃W,W=w.alloc (.cells #[.int .i64 K,.int .i64 N,.slice lo m lc,.slice zo z zc] 27):=⟨_,rfl⟩;have bW:=ba hW;have HB:=ag bW;have C1:=ag (C0.out W bW);clear C0 h hbad bW
 go_enter func10,ntmps10;go_wp2_with fail;rw[<-hW];refine C1.out.mono ?_;rintro e w1 ⟨rfl,hb⟩;have HB1:=ag (bg HB.out hb);clear hb C1 HB hW;go_wp2;go_ret2;exact⟨rfl,HB1.out⟩
def mzR(L:Nat)(av:List RA):Nat->Int
 | 0=>32*(L:Int)
 | q+1=>wrap64 (mzR L av q+kZ (av.getD q ra0))
def mZs(x:MR):Int:=if mOk x then mzR x.zs.length x.av x.av.length else 0
theorem tE(lo:Option Addr)(lc:Nat)(zo:Option Addr)(zc:Nat)(x:MR)(w:World)(h:MI w lo lc zo zc x):
  Qq 13 #[.agg #[.int .i64 x.K,.int .i64 x.N,.slice lo x.av.length lc,.slice zo x.zs.length zc]] w (.int .i64 (mZs x)):=by
 obtain⟨Z,hZ⟩:∃Z,Hid (Z=mZs x):=⟨_,rfl⟩;rw[<-hZ.out];have HV:=ag h.l;have hmm:=h.lm;have hzm:=h.zm;have C0:=ag (fun w0 hb=>pG lo lc zo zc x w0 (h.keep hb))
 obtain⟨K,hK⟩:∃K,Hid (K=x.K):=⟨_,rfl⟩;obtain⟨N,hN⟩:∃N,Hid (N=x.N):=⟨_,rfl⟩;obtain⟨m,hm⟩:∃m,Hid (m=x.av.length):=⟨_,rfl⟩;obtain⟨z,hz⟩:∃z,Hid (z=x.zs.length):=⟨_,rfl⟩
 rw[<-hK.out,<-hN.out,<-hm.out,<-hz.out]at C0;rw[<-hK.out,<-hN.out,<-hm.out,<-hz.out];obtain⟨W,hW⟩:∃W,W=w.alloc (.cells #[.int .i64 K,.int .i64 N,.slice lo m lc,.slice zo z zc] 27):=⟨_,rfl⟩;have bW:=ba hW
 have HB:=ag bW;have C1:=ag (C0.out W bW);have B1:=ag (show aa W w.heap.size [.int .i64 K,.int .i64 N,.slice lo m lc,.slice zo z zc] 27 by rw[hW];exact aa.new w _ _);rw[<-hm.out]at hmm;rw[<-hz.out]at hzm
 clear C0 h bW;go_enter func13,ntmps13;go_wp2_with fail;rw[<-hW];refine C1.out.mono ?_;rintro e w1 ⟨rfl,hb⟩;have HB1:=ag (bg HB.out hb);have B11:=ag (B1.out.kept hb);clear hb C1 HB B1 hW
 cases ok:mOk x with
 | false=>
  have HZ0:Hid (Z=0):=by show Z=0;rw[hZ.out];unfold mZs;rw[ok];rfl
  clear ok hZ;go_wp2;go_ret;exact⟨by rw[HZ0.out];rfl,HB1.out⟩
 | true=>
  have HZ1:Hid (Z=mzR z x.av m):=by show Z=_;rw[hZ.out,hm.out,hz.out];unfold mZs;rw[ok];rfl
  have x2:=B11.out.cell 2 rfl;have x3:=B11.out.cell 3 rfl;clear ok hZ;go_wp2
  go_loopw [3,16] (fun vs vi wr=>∃q:Nat,q<=m/\vi=.int .i64 q/\vs=.int .i64 (mzR z x.av q)/\Hid (Below w.heap.size w wr)) (fun _ vi _=>m-(intOf vi).toNat)
  case atStart=>exact⟨0,Nat.zero_le _,rfl,rfl,HB1⟩
  case round=>
   clear HB1 B11 x2 x3;obtain⟨q,hq,rfl,rfl,HB⟩:=hrel;by_cases hlt:q<m
   .have hltz:(q:Int)<(m:Int):=by omega
    obtain⟨b,off,rfl,hbl,hr⟩:=(HV.out.keep HB.out) (by rw[<-hm.out];omega);obtain⟨cs,rg,ki⟩:=hr q (by rw[<-hm.out];exact hlt);have HL:=ag ki.arg.len;have H1:=ag ki.arg.one;have HK:=ag ki
    have HR:=ag rg;have E:Hid (wrap64 (mzR z x.av q+kZ (x.av.getD q ra0))=mzR z x.av (q+1)):=rfl;obtain⟨A,hA⟩:∃A,Hid (A=x.av.getD q ra0):=⟨_,rfl⟩;rw[<-hA.out]at HK E;generalize mzR z x.av q=X at *
    clear hr rg ki hA;go_wp2_with (first | refine aY b (off+q*22) cs (by rfl) rfl HR.out underlying63 HL.out ?_ | refine oF mp ?_);intro w2 B2 hb2 hs2;try simp only[Act.put,ah,List.set]
    have HB2:=ag hb2;have zb:=HB.out.size;clear hb2 HR;go_wp2_with (refine aJ wr.heap.size zv cs rfl rfl B2 (kR.trans HK.out.arg.nine) HL.out H1.out ?_);intro w3 B3 hO;try simp only[Act.put,ah,List.set]
    have hb3:=HB2.out.trans (hO.below (Nat.le_refl _));have HK3:=ag (HK.out.keep hb3);have HB3:=ag (bg HB.out hb3);clear hb3 HK HB HB2 hO B2
    go_wp2_with (refine fe wr.heap.size cs rfl B3 underlying63 HL.out ?_);refine mr (xT cs A w3 HK3.out) fun w4 hb4=>?_;have HB4:=ag (bg HB3.out hb4)
    generalize kZ A=Y at *;clear hb4 HB3 HK3 B3;go_wp2;refine⟨⟨q+1,by omega,by go_num,?_,HB4⟩,by simp only[intOf];omega⟩;rw[<-E.out]
   .obtain rfl:q=m:=by omega
    rw[<-HZ1.out];go_wp2;go_ret;exact⟨rfl,HB.out⟩
theorem MX.size{w:World}{cs:List Value}{k:Int}{t:List Nat}(h:MX w cs k t):Qq 13 #[.agg cs.toArray] w (.int .i64 (mzR 8 (mA k t) 8)):=by
 have h0:=h;obtain⟨⟨lo,lc,zo,zc,rfl,h1,h2⟩,hk,hn,hB,G⟩:=h;have:=tE lo lc zo zc (mRx k t) w h0.mi;have e1:(mRx k t).av.length=8:=fK k t
 have e2:(mRx k t).zs.length=8:=by show(mI (mZ t)).length=8;rw[dh,gn]
 unfold mZs at this;rw[pD hk hn,e1,e2]at this;exact this
structure v_ (k:Int) (t:List Nat) (m:Nat) (SA:World->Option Addr->Nat->Option Addr->Nat->Prop):Prop where
 keep:∀w0 w1 lo lc no nc,SA w0 lo lc no nc->Below w0.heap.size w0 w1->SA w1 lo lc no nc
 build:∀w0 ao cap,Bd w0 ao t->GV w0->Calls prog 8 #[.int .i64 k,.slice ao t.length cap] w0 fun e w'=>∃lo lc no nc,e=.returned (.tuple #[.agg #[.int .i64 k,.int .i64 (t.length:Int),.slice lo 8 lc,.slice no 8 nc],.int .i64 0])/\SA w' lo lc no nc/\Below w0.heap.size w0 w'
 check:∀w0 lo lc no nc,SA w0 lo lc no nc->Qq 20 #[.agg #[.int .i64 k,.int .i64 (t.length:Int),.slice lo 8 lc,.slice no 8 nc]] w0 (.bool true)
 size:∃Z,Z=mzR 8 (mA k t) 8/\∀w0 lo lc no nc,SA w0 lo lc no nc->Qq 13 #[.agg #[.int .i64 k,.int .i64 (t.length:Int),.slice lo 8 lc,.slice no 8 nc]] w0 (.int .i64 Z)
 text:∀w0 lo lc no nc,SA w0 lo lc no nc->Calls prog 22 #[.agg #[.int .i64 k,.int .i64 (t.length:Int),.slice lo 8 lc,.slice no 8 nc]] w0 fun e w'=>∃bo bc,e=.returned (.slice bo t.length bc)/\(convert 22 9 (.slice bo t.length bc)).run prog w'=.ok (.string (strOfNums (jP t))) w'/\Below w0.heap.size w0 w'
 access:∀i:Int,aD i->∀w0 lo lc no nc,SA w0 lo lc no nc->Qq 9 #[.agg #[.int .i64 k,.int .i64 (t.length:Int),.slice lo 8 lc,.slice no 8 nc],.int .i64 i] w0 (.tuple #[.int .u8 (saC t i:Int),.int .i64 (iz t i)])
 rank:∀(c:Nat) (i:Int),c<256->aD i->∀w0 lo lc no nc,SA w0 lo lc no nc->Qq 10 #[.agg #[.int .i64 k,.int .i64 (t.length:Int),.slice lo 8 lc,.slice no 8 nc],.int .u8 c,.int .i64 i] w0 (.tuple #[.int .i64 (jI t c i),.int .i64 (iP t i)])
 select:∀(c:Nat) (i:Int),c<256->aD i->∀w0 lo lc no nc,SA w0 lo lc no nc->Qq 18 #[.agg #[.int .i64 k,.int .i64 (t.length:Int),.slice lo 8 lc,.slice no 8 nc],.int .u8 c,.int .i64 i] w0 (.tuple #[.int .i64 (iN t c i),.int .i64 (iO t c i)])
theorem wC(k:Int)(VV:VB k)(VW:VM k)(t:List Nat)(hk:1<=k/\k<=3)(hn:t.length<=3000)(hB:fV t):∃m SA,v_ k t m SA:=by
 refine⟨8,fun w lo lc no nc=>MX w [.int .i64 k,.int .i64 (t.length:Int),.slice lo 8 lc,.slice no 8 nc] k t,⟨fun w0 w1 lo lc no nc h hb=>h.keep hb,fun w0 ao cap hx G=>?_,fun w0 lo lc no nc h=>h.check,⟨_,rfl,fun w0 lo lc no nc h=>h.size⟩,fun w0 lo lc no nc h=>?_,fun i hi w0 lo lc no nc h=>Dg _ k VW t i w0 h hi,fun c i hc hi w0 lo lc no nc h=>Ch _ k t c i w0 h hc hi,fun c i hc hi w0 lo lc no nc h=>Cg _ k VW t c i w0 h hc hi⟩⟩
 .refine(tQ k VV ao t cap w0 hk hx hB hn G).mono ?_;rintro e w' ⟨cs,rfl,h1,h2⟩;obtain⟨lo,lc,no,nc,rfl,_,_⟩:=h1.ex;exact⟨lo,lc,no,nc,rfl,h1,h2⟩
 .refine(Ce _ k VW t w0 h).mono ?_;rintro e w' ⟨bo,bc,rfl,g1,g2⟩;exact⟨bo,bc,rfl,conv bc g1,g2⟩
theorem wD:∃m SA,v_ 3 ab m SA:=wC 3 wZ wV ab (by decide) (by decide) GC
theorem Cq(t:List Nat)(hn:t.length<=3000)(l:Nat):0<kZ (kB 3 (t.length:Int) (aB (Mx.rw_ t l)))/\kZ (kB 3 (t.length:Int) (aB (Mx.rw_ t l)))<=100000:=by
 have hk:=lB hn l;have hf:aA (aB (Mx.rw_ t l)):=cY _ _
 have e:kZ (kB 3 (t.length:Int) (aB (Mx.rw_ t l)))=kZ9 (kB9 (t.length:Int) (aB (Mx.rw_ t l))):=by
  rw[mj _ _ (DZ _ _ hk),(fA (tg (kB9 (t.length:Int) (aB (Mx.rw_ t l))))).2.2.2]
 rw[e];have:=DW t.length (aB (Mx.rw_ t l)) hf hk hn;omega
theorem tD(t:List Nat)(hn:t.length<=3000):∀q,q<=8->0<mzR 8 (mA 3 t) q/\mzR 8 (mA 3 t) q<=256+100000*q
 | 0,_=>by unfold mzR;omega
 | q+1,hq=>by
  have ih:=tD t hn q (by omega);have hz:=Cq t hn q;rw[mzR,kK 3 t (show q<8 by omega)];generalize kZ (kB 3 (t.length:Int) (aB (Mx.rw_ t q)))=z at *;generalize mzR 8 (mA 3 t) q=y at *
  rw[show wrap64 (y+z)=y+z by unfold wrap64;omega];omega
theorem Ir(Z:Int)(h:Z=mzR 8 (mA 3 ab) 8):0<Z:=by
 rw[h];exact(tD ab (by decide) _ (Nat.le_refl _)).1
theorem tM(w:World)(G:GV w):MI w none 0 none 0 ⟨0,0,[],[]⟩:=⟨⟨by decide,by decide⟩,⟨by decide,by decide⟩,fun h=>absurd h (by decide),fun h=>absurd h (by decide),by decide,by decide,G⟩
theorem oG:iN ab 114 1=9/\iO ab 114 1=0/\iN ab 122 0=0/\iO ab 122 0=3:=by decide +kernel
theorem Ey(w:World)(G:GV w):Qq 7 #[] w (.bool true):=by
 have kc:=fun(w:World) (C:Array Value) (n c:Nat)=>Lib.run_convert_bytes_const (P:=prog) w 22 5 C n c underlying22 underlying5;obtain⟨f1,f2,f3,f4,f5⟩:=Is
 have bW:=below_alloc w (.cells #[.int .u8 97,.int .u8 98,.int .u8 114,.int .u8 97,.int .u8 99,.int .u8 97,.int .u8 100,.int .u8 97,.int .u8 98,.int .u8 114,.int .u8 97] 5 (11,12));obtain⟨m,SA,HXP⟩:=wD
 have HK:=ag HXP.keep
 have H1:Hid (∀w0,w0=w.alloc (.cells #[.int .u8 97,.int .u8 98,.int .u8 114,.int .u8 97,.int .u8 99,.int .u8 97,.int .u8 100,.int .u8 97,.int .u8 98,.int .u8 114,.int .u8 97] 5 (11,12))->Calls prog 8 #[.int .i64 3,.slice (some ⟨w.heap.size,0,none⟩) 11 11] w0 fun e w'=>∃lo lc no nc,e=.returned (.tuple #[.agg #[.int .i64 3,.int .i64 11,.slice lo 8 lc,.slice no 8 nc],.int .i64 0])/\SA w' lo lc no nc/\Below w0.heap.size w0 w'):=fun w0 h=>by
  subst h;exact HXP.build _ (some ⟨w.heap.size,0,none⟩) 11 (It w) (G.keep bW)
 have H2:Hid (∀w0 lo lc no nc,SA w0 lo lc no nc->Qq 9 #[.agg #[.int .i64 3,.int .i64 11,.slice lo 8 lc,.slice no 8 nc],.int .i64 4] w0 (.tuple #[.int .u8 99,.int .i64 0])):=fun w0 lo lc no nc h=>by
  have:=HXP.access 4 (by unfold aD;omega) w0 lo lc no nc h;rw[show saC ab 4=99 from f1,show iz ab 4=0 from rfl]at this;exact this
 have H3:Hid (∀w0 lo lc no nc,SA w0 lo lc no nc->Qq 10 #[.agg #[.int .i64 3,.int .i64 11,.slice lo 8 lc,.slice no 8 nc],.int .u8 97,.int .i64 8] w0 (.tuple #[.int .i64 4,.int .i64 0])):=fun w0 lo lc no nc h=>by
  have:=HXP.rank 97 8 (by decide) (by unfold aD;omega) w0 lo lc no nc h;rw[show jI ab 97 8=4 from congrArg (fun n:Nat=>(n:Int)) f2,show iP ab 8=0 from rfl]at this;exact this
 have H4:Hid (∀w0 lo lc no nc,SA w0 lo lc no nc->Qq 18 #[.agg #[.int .i64 3,.int .i64 11,.slice lo 8 lc,.slice no 8 nc],.int .u8 114,.int .i64 1] w0 (.tuple #[.int .i64 9,.int .i64 0])):=fun w0 lo lc no nc h=>by
  have:=HXP.select 114 1 (by decide) (by unfold aD;omega) w0 lo lc no nc h;rw[oG.1,oG.2.1]at this;exact this
 have H5:Hid (∀w0 lo lc no nc,SA w0 lo lc no nc->Qq 18 #[.agg #[.int .i64 3,.int .i64 11,.slice lo 8 lc,.slice no 8 nc],.int .u8 122,.int .i64 0] w0 (.tuple #[.int .i64 0,.int .i64 3])):=fun w0 lo lc no nc h=>by
  have:=HXP.select 122 0 (by decide) (by unfold aD;omega) w0 lo lc no nc h;rw[oG.2.2.1,oG.2.2.2]at this;exact this
 have H6:Hid (∀w0 lo lc no nc,SA w0 lo lc no nc->Qq 9 #[.agg #[.int .i64 3,.int .i64 11,.slice lo 8 lc,.slice no 8 nc],.int .i64 11] w0 (.tuple #[.int .u8 0,.int .i64 3])):=fun w0 lo lc no nc h=>by
  have:=HXP.access 11 (by unfold aD;omega) w0 lo lc no nc h;rw[show saC ab 11=0 from rfl,show iz ab 11=3 from rfl]at this;exact this
 have H7:Hid (∀w0:World,GV w0->Qq 10 #[.agg #[.int .i64 0,.int .i64 0,.slice none 0 0,.slice none 0 0],.int .u8 0,.int .i64 0] w0 (.tuple #[.int .i64 0,.int .i64 2])):=fun w0 G0=>Ci none 0 none 0 ⟨0,0,[],[]⟩ 0 0 w0 (tM w0 G0) (by decide)
 have H8:Hid (∀w0 lo lc no nc,SA w0 lo lc no nc->Qq 20 #[.agg #[.int .i64 3,.int .i64 11,.slice lo 8 lc,.slice no 8 nc]] w0 (.bool true)):=fun w0 lo lc no nc h=>by
  exact HXP.check w0 lo lc no nc h
 obtain⟨Z,hZ,HXZ⟩:=HXP.size;have zp:=Ir Z hZ
 have H9:Hid (∀w0 lo lc no nc,SA w0 lo lc no nc->Qq 13 #[.agg #[.int .i64 3,.int .i64 11,.slice lo 8 lc,.slice no 8 nc]] w0 (.int .i64 Z)):=fun w0 lo lc no nc h=>by
  exact HXZ w0 lo lc no nc h
 have HT:Hid (∀w0 lo lc no nc,SA w0 lo lc no nc->Calls prog 22 #[.agg #[.int .i64 3,.int .i64 11,.slice lo 8 lc,.slice no 8 nc]] w0 fun e w'=>∃bo bc,e=.returned (.slice bo 11 bc)/\(convert 22 9 (.slice bo 11 bc)).run prog w'=.ok (.string ⟨#[97,98,114,97,99,97,100,97,98,114,97]⟩) w'/\Below w0.heap.size w0 w'):=fun w0 lo lc no nc h=>by
  have:=HXP.text w0 lo lc no nc h;rw[Iq]at this;exact this
 have HG:=ag G;clear hZ f1 f2 f3 f4 f5 G HXP HXZ;go_enter func7,ntmps7;go_wp2_with fail;refine(H1.out _ rfl).mono ?_;rintro e w1 ⟨lo,lc,no,nc,rfl,hP0,hb⟩;have hw:=ag (bg bW hb)
 clear H1 bW hb;have b1:=below_alloc w1 (.cells [.int .i64 3,.int .i64 11,.slice lo 8 lc,.slice no 8 nc].toArray 27);have hB:=ag (aa.new w1 [.int .i64 3,.int .i64 11,.slice lo 8 lc,.slice no 8 nc] 27)
 have hP:=ag (HK.out _ _ _ _ _ _ hP0 b1);replace hw:=ag (bg hw.out b1);clear b1 hP0;go_wp2_with fail;refine mr (H2.out _ _ _ _ _ hP.out) fun w2 hb=>?_
 replace hP:=ag (HK.out _ _ _ _ _ _ hP.out hb);replace hB:=ag (hB.out.kept hb);replace hw:=ag (bg hw.out hb);clear hb H2;have y0:=hB.out.cell 0 rfl;have y1:=hB.out.cell 1 rfl
 have y2:=hB.out.cell 2 rfl;have y3:=hB.out.cell 3 rfl;go_wp2_with fail;refine mr (H3.out _ _ _ _ _ hP.out) fun w3 hb=>?_;replace hP:=ag (HK.out _ _ _ _ _ _ hP.out hb);replace hB:=ag (hB.out.kept hb)
 replace hw:=ag (bg hw.out hb);clear hb H3 y0 y1 y2 y3;have y0:=hB.out.cell 0 rfl;have y1:=hB.out.cell 1 rfl;have y2:=hB.out.cell 2 rfl;have y3:=hB.out.cell 3 rfl;go_wp2_with fail
 refine mr (H4.out _ _ _ _ _ hP.out) fun w4 hb=>?_;replace hP:=ag (HK.out _ _ _ _ _ _ hP.out hb);replace hB:=ag (hB.out.kept hb);replace hw:=ag (bg hw.out hb);clear hb H4 y0 y1 y2 y3
 have y0:=hB.out.cell 0 rfl;have y1:=hB.out.cell 1 rfl;have y2:=hB.out.cell 2 rfl;have y3:=hB.out.cell 3 rfl;go_wp2_with fail;refine mr (H5.out _ _ _ _ _ hP.out) fun w5 hb=>?_
 replace hP:=ag (HK.out _ _ _ _ _ _ hP.out hb);replace hB:=ag (hB.out.kept hb);replace hw:=ag (bg hw.out hb);clear hb H5 y0 y1 y2 y3;have y0:=hB.out.cell 0 rfl;have y1:=hB.out.cell 1 rfl
 have y2:=hB.out.cell 2 rfl;have y3:=hB.out.cell 3 rfl;go_wp2_with fail;refine mr (H6.out _ _ _ _ _ hP.out) fun w6 hb=>?_;replace hP:=ag (HK.out _ _ _ _ _ _ hP.out hb);replace hB:=ag (hB.out.kept hb)
 replace hw:=ag (bg hw.out hb);clear hb H6 y0 y1 y2 y3;go_wp2_with fail;refine mr (H7.out _ (HG.out.keep hw.out)) fun w7 hb=>?_;replace hP:=ag (HK.out _ _ _ _ _ _ hP.out hb)
 replace hB:=ag (hB.out.kept hb);replace hw:=ag (bg hw.out hb);clear hb H7;have y0:=hB.out.cell 0 rfl;have y1:=hB.out.cell 1 rfl;have y2:=hB.out.cell 2 rfl;have y3:=hB.out.cell 3 rfl
 go_wp2_with fail;refine mr (H8.out _ _ _ _ _ hP.out) fun w8 hb=>?_;replace hP:=ag (HK.out _ _ _ _ _ _ hP.out hb);replace hB:=ag (hB.out.kept hb);replace hw:=ag (bg hw.out hb)
 clear hb H8 y0 y1 y2 y3;have y0:=hB.out.cell 0 rfl;have y1:=hB.out.cell 1 rfl;have y2:=hB.out.cell 2 rfl;have y3:=hB.out.cell 3 rfl;go_wp2_with fail;refine mr (H9.out _ _ _ _ _ hP.out) fun w9 hb=>?_
 replace hP:=ag (HK.out _ _ _ _ _ _ hP.out hb);replace hB:=ag (hB.out.kept hb);replace hw:=ag (bg hw.out hb);clear hb H9 y0 y1 y2 y3;have y0:=hB.out.cell 0 rfl;have y1:=hB.out.cell 1 rfl
 have y2:=hB.out.cell 2 rfl;have y3:=hB.out.cell 3 rfl;go_wp2_with fail;refine(HT.out _ _ _ _ _ hP.out).mono ?_;rintro e wa ⟨bo,bc,rfl,hcv,hb⟩;replace hw:=ag (bg hw.out hb)
 clear hb y0 y1 y2 y3 hP hB HT;go_wp2;go_ret;exact⟨rfl,hw.out⟩
def q_(w:World)(K N:Int)(lo:Option Addr)(la lc:Nat)(zo:Option Addr)(za zc:Nat)(T:List Nat)(ok:Bool):Prop:=∀w0,Below w.heap.size w w0->Calls prog 42 #[.agg #[.int .i64 K,.int .i64 N,.slice lo la lc,.slice zo za zc]] w0 fun e w'=>∃bo bc,e=.returned (.tuple #[.slice bo T.length bc,.bool ok])/\Bd w' bo T/\Below w0.heap.size w0 w'
theorem yL{K N:Int}{lo:Option Addr}{la lc:Nat}{zo:Option Addr}{za zc:Nat}{T:List Nat}{ok:Bool}{w:World}(h:q_ w K N lo la lc zo za zc T ok):
  Qq 21 #[.agg #[.int .i64 K,.int .i64 N,.slice lo la lc,.slice zo za zc]] w (.bool ok):=by
 have H:=ag h;have bw:=below_alloc w (.cells #[.int .i64 K,.int .i64 N,.slice lo la lc,.slice zo za zc] 27);unfold q_ at H;clear h;go_enter func21,ntmps21;go_wp2_with fail;refine(H.out _ bw).mono ?_
 rintro e w1 ⟨bo,bc,rfl,hd,hb⟩;replace bw:=bg bw hb;clear hb H;go_wp2;go_ret;exact⟨rfl,bw⟩
def mT(x:MR):List Nat:=if mOk x then mX x else []
theorem MI.fits{w:World}{lo:Option Addr}{lc:Nat}{zo:Option Addr}{zc:Nat}{x:MR}(h:MI w lo lc zo zc x)(l:Nat):aA (aR (bp x l)):=by
 by_cases hl:l<x.av.length
 .obtain⟨b,off,e,hb,hc⟩:=h.l (by omega);obtain⟨cs,_,k⟩:=hc l hl;exact k.fit
 .have:bp x l=ra0:=by unfold bp;rw[List.getD_eq_getElem?_getD,List.getElem?_eq_none (by omega)];rfl
  rw[this];exact jd
def mdR(av:List RA):Nat->Int
 | 0=>0
 | q+1=>wrap64 (wrap64 (mdR av q+32)+kZ (av.getD q ra0))
def jQ(x:MR):Int:=if mOk x then mdR x.av 8 else 0
theorem nG(k:Int):mbE k=0↔1<=k/\k<=3:=by
 unfold mbE;split
 .simp_all
 .simp_all
theorem yI(lo:Option Addr)(lc:Nat)(zo:Option Addr)(zc:Nat)(x:MR)(w:World)(h:MI w lo lc zo zc x)(hl:x.av.length<=20)(hN:x.N<=600):
  Calls prog 42 #[.agg #[.int .i64 x.K,.int .i64 x.N,.slice lo x.av.length lc,.slice zo x.zs.length zc]] w fun e w'=>∃bo bc,e=.returned (.tuple #[.slice bo (mT x).length bc,.bool (mOk x)])/\Bd w' bo (mT x)/\Below w.heap.size w w':=by
 have hS:=Dj x (fun l _=>h.fits l) hN;have hn:=tY x hN
 have RW:Hid (∀w0,Below w.heap.size w w0->Calls prog 74 #[.agg #[.int .i64 x.K,.int .i64 x.N,.slice lo x.av.length lc,.slice zo x.zs.length zc]] w0 fun e w'=>∃bo bc,e=.returned (.slice bo (mX x).length bc)/\Bd w' bo (mX x)/\Below w0.heap.size w0 w'):=fun w0 hb=>yK lo lc zo zc x w0 (h.keep hb)
 have BU:Hid (∀w0 bo bc,Below w.heap.size w w0->Bd w0 bo (mX x)->Calls prog 11 #[.int .i64 x.K,.slice bo (mX x).length bc] w0 fun e w'=>∃l2 c2 z2 d2,e=.returned (.tuple #[.agg #[.int .i64 (cO x.K (mX x)).K,.int .i64 (cO x.K (mX x)).N,.slice l2 (cO x.K (mX x)).av.length c2,.slice z2 (cO x.K (mX x)).zs.length d2],.int .i64 (mbE x.K)])/\MI w' l2 c2 z2 d2 (cO x.K (mX x))/\Below w0.heap.size w0 w'):=fun w0 bo bc hb hd=>sg x.K bo (mX x) bc w0 h.k hd (GB x) (by omega) (h.gv.keep hb)
 have hW:Hid (mOk x=true->mT x=mX x):=fun e=>by unfold mT;rw[if_pos e]
 have hZ:Hid (mOk x=false->mT x=[]):=fun e=>by unfold mT;rw[e];rfl
 have HI:=ag h;have bx:=aa.new w [.int .i64 x.K,.int .i64 x.N,.slice lo x.av.length lc,.slice zo x.zs.length zc] 27
 have bw:=below_alloc w (.cells #[.int .i64 x.K,.int .i64 x.N,.slice lo x.av.length lc,.slice zo x.zs.length zc] 27);by_cases hE:mbE x.K=0
 .have eY:cO x.K (mX x)=mRx x.K (mX x):=by unfold cO;rw[if_pos hE]
  rw[hE,eY]at BU
  have SA:Hid (∀w0 l2 c2 z2 d2,MI w0 lo lc zo zc x->MI w0 l2 c2 z2 d2 (mRx x.K (mX x))->Qq 12 #[.agg #[.int .i64 x.K,.int .i64 x.N,.slice lo x.av.length lc,.slice zo x.zs.length zc],.agg #[.int .i64 (mRx x.K (mX x)).K,.int .i64 (mRx x.K (mX x)).N,.slice l2 (mRx x.K (mX x)).av.length c2,.slice z2 (mRx x.K (mX x)).zs.length d2]] w0 (.bool (mOk x))):=fun w0 l2 c2 z2 d2 g1 g2=>sa lo zo l2 z2 lc zc c2 d2 x (mRx x.K (mX x)) w0 g1 g2 hl (by show(mA x.K (mX x)).length<=20;rw[fK];decide) (mOk x) (hS.trans ⟨fun z=>z.2,fun z=>⟨(nG _).1 hE,z⟩⟩)
  clear h hS hn hl hN;generalize mRx x.K (mX x)=A at *;generalize mX x=RT at *;generalize mT x=WT at *;generalize mOk x=ok at *;generalize A.K=K2 at *;generalize A.N=N2 at *;generalize A.av.length=a2 at *
  generalize A.zs.length=b2 at *;obtain⟨K,hK'⟩:∃K,Hid (K=x.K):=⟨_,rfl⟩;obtain⟨N,hN'⟩:∃N,Hid (N=x.N):=⟨_,rfl⟩;obtain⟨a,ha'⟩:∃a,Hid (a=x.av.length):=⟨_,rfl⟩
  obtain⟨b,hb'⟩:∃b,Hid (b=x.zs.length):=⟨_,rfl⟩;rw[<-hK'.out,<-hN'.out,<-ha'.out,<-hb'.out]at RW SA bx bw⊢;rw[<-hK'.out]at BU;clear hK' hN' ha' hb' eY hE;go_enter func42,ntmps42;go_wp2_with fail
  refine(RW.out _ bw).mono ?_;rintro e w1 ⟨bo,bc,rfl,hd,hb⟩;replace bx:=bx.kept hb;replace bw:=bg bw hb;clear hb RW;have x0:=bx.cell 0 rfl;go_wp2_with fail;refine(BU.out _ _ _ bw hd).mono ?_
  rintro e w2 ⟨l2,c2,z2,d2,rfl,hT,hb⟩;replace bx:=bx.kept hb;replace bw:=bg bw hb;replace hd:=hd.keep hb;clear hb BU x0
  have b3:=below_alloc w2 (.cells #[.int .i64 K2,.int .i64 N2,.slice l2 a2 c2,.slice z2 b2 d2] 27);have hT3:=hT.keep b3;replace bx:=bx.kept b3;replace bw:=bg bw b3;replace hd:=hd.keep b3
  have hI3:=HI.out.keep bw;clear hT b3;have x0:=bx.cell 0 rfl;have x1:=bx.cell 1 rfl;have x2:=bx.cell 2 rfl;have x3:=bx.cell 3 rfl;go_wp2_with fail;refine mr (SA.out _ _ _ _ _ hI3 hT3) fun w4 hb=>?_
  replace bw:=bg bw hb;replace hd:=hd.keep hb;clear hb SA x0 x1 x2 x3 bx hI3 hT3;cases ok with
  | true=>
   obtain rfl:=hW.out rfl;go_wp2;go_ret2;exact⟨_,_,rfl,hd,bw⟩
  | false=>
   obtain rfl:=hZ.out rfl;go_wp2;go_ret2;exact⟨none,0,rfl,fun h=>absurd h (by decide),bw⟩
 .have hf:mOk x=false:=Bool.eq_false_iff.2 fun e=>hE ((nG _).2 (hS.1 e).1);rw[hf,hZ.out hf];have e:cO x.K (mX x)=⟨0,0,[],[]⟩:=by unfold cO;rw[if_neg hE]
  rw[e]at BU;have hE2:(mbE x.K != 0)=true:=by simp[hE]
  clear h hE hn hS hW hZ hf HI hl hN e;generalize mX x=RT at *;generalize mbE x.K=E at *;generalize x.K=K at *;generalize x.N=N at *;generalize x.av.length=a at *;generalize x.zs.length=b at *
  go_enter func42,ntmps42;go_wp2_with fail;refine(RW.out _ bw).mono ?_;rintro e w1 ⟨bo,bc,rfl,hd,hb⟩;replace bx:=bx.kept hb;replace bw:=bg bw hb;clear hb RW;have x0:=bx.cell 0 rfl
  go_wp2_with fail;refine(BU.out _ _ _ bw hd).mono ?_;rintro e w2 ⟨l2,c2,z2,d2,rfl,_,hb⟩;replace bw:=bg bw hb
  have b3:=below_alloc w2 (.cells #[.int .i64 0,.int .i64 0,.slice l2 0 c2,.slice z2 0 d2] 27);replace bw:=bg bw b3;clear hb BU x0 hd bx b3;go_wp2;go_ret2
  exact⟨none,0,rfl,fun h=>absurd h (by decide),bw⟩
theorem MI.wh{w:World}{lo:Option Addr}{lc:Nat}{zo:Option Addr}{zc:Nat}{x:MR}(h:MI w lo lc zo zc x)(hl:x.av.length<=20)(hN:x.N<=600):q_ w x.K x.N lo x.av.length lc zo x.zs.length zc (mT x) (mOk x):=fun w0 hb=>yI lo lc zo zc x w0 (h.keep hb) hl hN
theorem yJ(lo:Option Addr)(lc:Nat)(zo:Option Addr)(zc:Nat)(x:MR)(w:World)(h:MI w lo lc zo zc x)(CK:Qz w 21 #[.agg #[.int .i64 x.K,.int .i64 x.N,.slice lo x.av.length lc,.slice zo x.zs.length zc]] (.bool (mOk x))):
  Qq 14 #[.agg #[.int .i64 x.K,.int .i64 x.N,.slice lo x.av.length lc,.slice zo x.zs.length zc]] w (.int .i64 (jQ x)):=by
 have CK:=ag CK;have bx:=aa.new w [.int .i64 x.K,.int .i64 x.N,.slice lo x.av.length lc,.slice zo x.zs.length zc] 27
 have bw:=below_alloc w (.cells #[.int .i64 x.K,.int .i64 x.N,.slice lo x.av.length lc,.slice zo x.zs.length zc] 27);cases ok:mOk x with
 | false=>
  rw[ok]at CK;have r1:jQ x=0:=by unfold jQ;rw[ok];rfl
  rw[r1];clear h ok r1;generalize x.N=N at *;generalize x.K=K at *;generalize x.av.length=m at *;generalize x.zs.length=m2 at *;go_enter func14,ntmps14;go_wp2_with fail;refine mr (CK.out _ bw) fun w1 hb=>?_;replace bw:=bg bw hb;clear hb bx;go_wp2;go_ret;exact⟨rfl,bw⟩
 | true=>
  have g2:=(pL ok).2.1;rw[ok]at CK;have r1:jQ x=mdR x.av 8:=by unfold jQ;rw[ok];rfl
  obtain⟨Z,hZ⟩:∃Z,Hid (Z=mdR x.av 8):=⟨_,rfl⟩;rw[r1,<-hZ.out];obtain⟨b,off,rfl,hbl,hrow⟩:=h.l (by rw[g2];decide)
  have CO:Hid (∀q,q<8->∃cs:List Value,w.rangeAt b (off+q*22) cs/\(prog.info? 63).map (·.size)=some cs.length/\Qz w 40 #[.agg cs.toArray] (.int .i64 (kZ (x.av.getD q ra0)))):=fun q hq=>by
   obtain⟨cs,h1,h2⟩:=hrow q (by rw[g2];exact hq);exact⟨cs,h1,h2.arg.len,fun w0 hb=>w_ cs _ w0 (h2.keep hb)⟩
  rw[g2]at bx bw CK⊢;clear h r1 ok hrow;generalize x.K=K at *;generalize x.N=N at *;generalize x.zs.length=m2 at *;go_enter func14,ntmps14;go_wp2_with fail;refine mr (CK.out _ bw) fun w1 hb=>?_
  replace bw:=bg bw hb;replace bx:=bx.kept hb;clear hb CK;go_wp2
  go_loopw [4,3] (fun s v wr=>∃q:Nat,q<=8/\s=.int .i64 q/\v=.int .i64 (mdR x.av q)/\aa wr w.heap.size [.int .i64 K,.int .i64 N,.slice (some ⟨b,off,none⟩) 8 lc,.slice zo m2 zc] 27/\Below w.heap.size w wr) (fun s _ _=>8-(intOf s).toNat)
  case atStart=>exact⟨0,Nat.zero_le _,rfl,rfl,bx,bw⟩
  case round=>
   obtain⟨q,hq,rfl,rfl,hx,hb⟩:=hrel;clear bx bw;have x2:=hx.cell 2 rfl;by_cases hi:q<8
   .have hi2:(q:Int)<8:=by omega
    obtain⟨cs,rg,HL,C⟩:=CO.out q hi;have HL:=ag HL;have C:=ag C;have rg2:=ku rg hb hbl;have E:Hid (wrap64 (wrap64 (mdR x.av q+32)+kZ (x.av.getD q ra0))=mdR x.av (q+1)):=rfl
    generalize kZ (x.av.getD q ra0)=Y at *;generalize mdR x.av q=X at *;go_wp2_with (refine aY b (off+q*22) cs (by rfl) rfl rg2 underlying63 HL.out ?_);refine mr (C.out _ hb) fun w2 hb2=>?_
    replace hx:=hx.kept hb2;replace hb:=bg hb hb2;have HF:=ag (And.intro hx hb);clear hx hb hb2 rg rg2 x2 CO;go_wp2;refine⟨⟨q+1,by omega,by go_num,?_,HF.out⟩,by simp only[intOf];omega⟩
    rw[<-E.out];try rfl
   .obtain rfl:q=8:=by omega
    clear CO;rw[<-hZ.out];go_wp2;go_ret;exact⟨rfl,hb⟩
def xH(a:RA):Bool:=(decide (a.p.N<=3000)&&(decide ((a.p.xs.length:Int)<=3000)&&(decide ((a.p.S.length:Int)<=3000)&&(decide ((a.p.T.length:Int)<=3000)&&(decide (a.r.N<=3000)&&(decide (a.r.k<=3000)&&(decide ((a.r.xs.length:Int)<=3000)&&(decide ((a.r.ys.length:Int)<=3000)&&(decide ((a.r.S.length:Int)<=3000)&&(decide ((a.r.T.length:Int)<=3000)&&(decide (a.f.N<=3000)&&(decide (a.f.M<=3000)&&(decide (a.f.k<=3000)&&(decide ((a.f.xs.length:Int)<=3000)&&decide ((a.f.ys.length:Int)<=3000)))))))))))))))
section
variable {P:Program} {ops:Array Oper} {Q:Exit->Act->World->Prop} {md:Region.Mode} {S:World->Prop} {ns:List Nat}
end
open Go.ChangeShapes Go.WideShapes Go.ChangeAt Go.RowKit Go.Joins Go.Deep Num Bit
def Iz(w:World)(lo:Option Addr)(av:List RA):Prop:=
 0<av.length->∃b off,lo=some ⟨b,off,none⟩/\b<w.heap.size/\∀l,l<av.length->∃cs,w.rangeAt b (off+l*22) cs/\fG w cs (av.getD l ra0)
def Iy(x:MR):Prop:=x.av.length<=20/\x.N<=600/\x.zs.length<=100/\∀l,l<x.av.length->xH (bp x l)=true
section
variable {P:Program} {ops:Array Oper} {Q:Exit->Act->World->Prop} {md:Region.Mode} {S E:World->Prop}
end
end Go.Proofs.YtleegaihbgbcjabGreatDoor
namespace Go.Proofs.YtleegaihbgbcjabGreatDoor
open Go.RowKit Num Bit
theorem rM(av:List RA):∀q,q<=8->(mdR av q+32*(8-q)-mzR 8 av q)%18446744073709551616=0
 | 0,_=>rfl
 | q+1,h=>by
  have ih:=rM av q (by omega);rw[mdR,mzR];generalize mdR av q=a at *;generalize mzR 8 av q=b at *;generalize kZ (av.getD q ra0)=c at *;unfold wrap64;omega
theorem xN(x:MR):mZs x=jQ x:=by
 unfold mZs jQ;cases ok:mOk x with
 | false=>rfl
 | true=>
  obtain⟨_,g2,g3,_⟩:=pL ok;rw[if_pos rfl,if_pos rfl,g2,g3];have h:=rM x.av 8 (Nat.le_refl _);have e1:∃a,mzR 8 x.av 8=wrap64 a:=⟨_,rfl⟩;have e2:∃a,mdR x.av 8=wrap64 a:=⟨_,rfl⟩
  obtain⟨a,e1⟩:=e1;obtain⟨b,e2⟩:=e2;rw[e1,e2]at h⊢;unfold wrap64 at *;omega
theorem CS(k:Int)(ao:Option Addr)(t:List Nat)(cap:Nat)(w:World)(hK:aD k)(hbad:¬(1<=k/\k<=3))(hx:Bd w ao t)(hB:fV t)(hn:t.length<=3000)(G:GV w):
  Qq 8 #[.int .i64 k,.slice ao t.length cap] w (.tuple #[.agg #[.int .i64 0,.int .i64 0,.slice none 0 0,.slice none 0 0],.int .i64 5]):=by
 obtain⟨i0,hi,hz0,hz1,hz2⟩:=info_parts jp;obtain⟨iv,hiv,hzv0,hzv1,hzv2⟩:=info_parts nX;have HG:=ag G;have HX:=ag hx;have g2:=G.two;obtain⟨n,hnn⟩:∃n,Hid (n=t.length):=⟨_,rfl⟩
 have hn2:n<=3000:=by rw[hnn.out];exact hn
 have CR:Hid (∀l so sc gl w0,l<8->Bd w0 so (Mx.sy t l)->aa w0 gl [.int .i64 (l:Int)] 3->Calls prog 27 #[.slice so n sc,.func (.func 24) #[] #[.pointer (some ⟨gl,0,none⟩)]] w0 fun e w'=>∃bo dap,e=.returned (.agg #[.int .i64 (n:Nat),.slice bo (aB (Mx.rw_ t l)).length dap])/\Wd w' bo (aB (Mx.rw_ t l))/\(aB (Mx.rw_ t l)).length<=dap/\Below w0.heap.size w0 w'):=fun l so sc gl w0 hl hb hc=>by
  have:=tF so (Mx.sy t l) sc l gl w0 hb (Mx.byt_sy hB l) (by rw[Mx.length_sy];omega) hl hc;rw[<-Mx.rw_sy,Mx.length_sy,<-hnn.out]at this;exact this
 have CV:Hid (∀l bo dap w0,Below w.heap.size w w0->Wd w0 bo (aB (Mx.rw_ t l))->(aB (Mx.rw_ t l)).length<=dap->Calls prog 26 #[.int .i64 k,.agg #[.int .i64 (n:Nat),.slice bo (aB (Mx.rw_ t l)).length dap]] w0 fun e w'=>∃cs:List Value,e=.returned (.tuple #[.agg cs.toArray,.int .i64 5])/\KI w' cs (kB k (t.length:Int) (aB (Mx.rw_ t l)))/\Below w0.heap.size w0 w'/\dU w0.heap.size cs):=fun l bo dap w0 hb h1 h2=>by
  have:=vE k (n:Int) bo (aB (Mx.rw_ t l)) dap w0 hK (by unfold aD;omega) h1 (cY _ _) h2 ⟨by omega,by unfold aB;rw[cP,Mx.length_rw];omega⟩ (G.keep hb)
  have e:kE k (n:Int) (aB (Mx.rw_ t l))=5:=by unfold kE;rw[if_neg (by omega),if_neg (by omega),if_neg (by omega)]
  rw[e]at this;rw[<-hnn.out];exact this
 rw[<-hnn.out];have n1:¬(n:Int)>8192:=by omega
 obtain⟨W,hW⟩:∃W,W=w.alloc (.cells #[.int .i64 0,.int .i64 0,.slice none 0 0,.slice none 0 0] 27):=⟨_,rfl⟩;have bW:=ag (show Below w.heap.size w W by rw[hW];exact below_alloc w _)
 have B4:=ag (show aa W w.heap.size [.int .i64 0,.int .i64 0,.slice none 0 0,.slice none 0 0] 27 by rw[hW];exact aa.new w _ _);clear hx G;go_enter func8,ntmps8;go_upto_region 3 with fail
 rw[<-hW];go_cut [6] (fun v6 wx=>QM w k n v6 wx)
 case first=>
  refine bn [7] (fun _=>True) (by kernel_rfl) ?_
  have C4:=ag (B4.out.drew);have HBc:=ag (bW.out.drew);have sY:=C4.out.lt;clear CR CV HG HX hW bW B4;generalize W.drew=Y at *;have hS:True:=trivial;refine aK 0 hS ?_;refine aK 1 hS ?_
  refine aK 2 hS ?_;refine az.threeM 3 4 6 (by kernel_rfl) rfl rfl rfl ?_ ?_ ?_
  .intro K hK;refine cZ Y.heap.size 63 iv (.agg zv.toArray) 22 underlying24 hiv hzv0 hzv1 8 rfl rfl (by rw[hzv2];omega) (by unfold maxLen;omega) (Nat.le_refl _) ?_;intro YL hown hgr
   have CL:=ag (iI hown);have bYL:Below Y.heap.size Y YL:=(Below.refl _ _).grown hgr (Nat.le_refl _) (fun k h=>by cases h);clear hown hgr;refine hK.out _ _ (fun _=>trivial) ?_;clear hK K
   try simp only[Act.put,aw,ar,an,ah,aj,ai]
   replace C4:=ag (C4.out.kept bYL);replace HBc:=ag (bg HBc.out bYL);have sYL:=CL.out.lt;clear bYL;obtain⟨gL,hgL⟩:∃g,Hid (g=Y.heap.size):=⟨_,rfl⟩;rw[<-hgL.out]at CL sYL⊢
   have loL:Y.heap.size<=gL:=by rw[hgL.out];exact Nat.le_refl _
   clear hgL;refine az.two 4 6 (by kernel_rfl) rfl rfl ?_ ?_
   .intro K hK;refine cZ YL.heap.size 3 i0 (.int .i64 0) 1 underlying25 hi hz0 hz1 8 rfl rfl (by rw[hz2];omega) (by unfold maxLen;omega) (Nat.le_refl _) ?_;intro YLZ hown hgr
    have CZ:=ag (eO (k:=.i64) (n:=8) hown);have bYLZ:Below YL.heap.size YL YLZ:=(Below.refl _ _).grown hgr (Nat.le_refl _) (fun k h=>by cases h);clear hown hgr;refine hK.out _ _ (fun _=>trivial) ?_
    clear hK K;try simp only[Act.put,aw,ar,an,ah,aj,ai]
    replace CL:=ag (CL.out.kept bYLZ);replace C4:=ag (C4.out.kept bYLZ);replace HBc:=ag (bg HBc.out bYLZ);have sYLZ:=CZ.out.lt;clear bYLZ
    obtain⟨gZ,hgZ⟩:∃g,Hid (g=YL.heap.size):=⟨_,rfl⟩;rw[<-hgZ.out]at CZ sYLZ⊢;have loZ:YL.heap.size<=gZ:=by rw[hgZ.out];exact Nat.le_refl _
    clear hgZ;have hS:True:=trivial;refine aK 5 hS ?_;refine aO 6 ?_;intro K hK;go_simp;refine hK.out _ _ (fun _=>trivial) ?_;clear hK K;try simp only[Act.put,aw,ar,an,ah,aj,ai]
    obtain⟨YLZX,hYLZX⟩:∃YLZX,YLZX=YLZ.alloc (.cells #[.int .i64 0,.int .i64 0,.slice none 0 0,.slice none 0 0] 27):=⟨_,rfl⟩;have bYLZX:Below YLZ.heap.size YLZ YLZX:=by rw[hYLZX];exact below_alloc _ _
    have CX:=ag (show aa YLZX YLZ.heap.size [.int .i64 0,.int .i64 0,.slice none 0 0,.slice none 0 0] 27 by rw[hYLZX];exact aa.new _ _ _);rw[<-hYLZX];clear hYLZX;replace CL:=ag (CL.out.kept bYLZX)
    replace CZ:=ag (CZ.out.kept bYLZX);replace C4:=ag (C4.out.kept bYLZX);replace HBc:=ag (bg HBc.out bYLZX);have sYLZX:=CX.out.lt;clear bYLZX
    obtain⟨gX,hgX⟩:∃g,Hid (g=YLZ.heap.size):=⟨_,rfl⟩;rw[<-hgX.out]at CX sYLZX⊢;have loX:YLZ.heap.size<=gX:=by rw[hgX.out];exact Nat.le_refl _
    clear hgX;have hS:True:=trivial;refine aO 7 ?_;intro K hK;have X4:=C4.out.lt
    refine gR gX [.int .i64 0,.int .i64 0,.slice none 0 0,.slice none 0 0] [.int .i64 k,.int .i64 (n:Int),.slice (some ⟨gL,0,none⟩) 8 8,.slice (some ⟨gZ,0,none⟩) 8 8] rfl rfl CX.out rfl fd (by simp[Value.oneCell']) ?_
    intro wE CE OE;refine hK.out _ _ (fun h=>absurd (by decide) h) ?_;clear hK K;try simp only[Act.put,aw,ar,an,ah,aj,ai]
    refine az.done (by kernel_rfl) ?_ _
    have hQ:Hid (QM w k n (.pointer (some ⟨gX,0,none⟩)) wE):=⟨gL,gZ,gX,rfl,⟨by omega,by omega,by omega,by omega,by omega,by omega⟩,CE,OE.cel CL.out (by omega),OE.cel CZ.out (by omega),OE.cel C4.out (by omega),HBc.out.trans (OE.below (by omega))⟩
    clear CE OE CL CZ CX C4 HBc;go_wp2_with fail;go_meet;exact hQ.out
   .intro K hK;go_simp;refine hK.out _ _ (fun _=>trivial) ?_;clear hK K;try simp only[Act.put,aw,ar,an,ah,aj,ai]
    obtain⟨YLX,hYLX⟩:∃YLX,YLX=YL.alloc (.cells #[.int .i64 0,.int .i64 0,.slice none 0 0,.slice none 0 0] 27):=⟨_,rfl⟩;have bYLX:Below YL.heap.size YL YLX:=by rw[hYLX];exact below_alloc _ _
    have CX:=ag (show aa YLX YL.heap.size [.int .i64 0,.int .i64 0,.slice none 0 0,.slice none 0 0] 27 by rw[hYLX];exact aa.new _ _ _);rw[<-hYLX];clear hYLX;replace CL:=ag (CL.out.kept bYLX)
    replace C4:=ag (C4.out.kept bYLX);replace HBc:=ag (bg HBc.out bYLX);have sYLX:=CX.out.lt;clear bYLX;obtain⟨gX,hgX⟩:∃g,Hid (g=YL.heap.size):=⟨_,rfl⟩;rw[<-hgX.out]at CX sYLX⊢
    have loX:YL.heap.size<=gX:=by rw[hgX.out];exact Nat.le_refl _
    clear hgX;refine aO 4 ?_;intro K hK;refine cZ YLX.heap.size 3 i0 (.int .i64 0) 1 underlying25 hi hz0 hz1 8 rfl rfl (by rw[hz2];omega) (by unfold maxLen;omega) (Nat.le_refl _) ?_;intro YLXZ hown hgr
    have CZ:=ag (eO (k:=.i64) (n:=8) hown);have bYLXZ:Below YLX.heap.size YLX YLXZ:=(Below.refl _ _).grown hgr (Nat.le_refl _) (fun k h=>by cases h);clear hown hgr;refine hK.out _ _ (fun _=>trivial) ?_
    clear hK K;try simp only[Act.put,aw,ar,an,ah,aj,ai]
    replace CL:=ag (CL.out.kept bYLXZ);replace CX:=ag (CX.out.kept bYLXZ);replace C4:=ag (C4.out.kept bYLXZ);replace HBc:=ag (bg HBc.out bYLXZ);have sYLXZ:=CZ.out.lt;clear bYLXZ
    obtain⟨gZ,hgZ⟩:∃g,Hid (g=YLX.heap.size):=⟨_,rfl⟩;rw[<-hgZ.out]at CZ sYLXZ⊢;have loZ:YLX.heap.size<=gZ:=by rw[hgZ.out];exact Nat.le_refl _
    clear hgZ;have hS:True:=trivial;refine aK 5 hS ?_;refine aO 7 ?_;intro K hK;have X4:=C4.out.lt
    refine gR gX [.int .i64 0,.int .i64 0,.slice none 0 0,.slice none 0 0] [.int .i64 k,.int .i64 (n:Int),.slice (some ⟨gL,0,none⟩) 8 8,.slice (some ⟨gZ,0,none⟩) 8 8] rfl rfl CX.out rfl fd (by simp[Value.oneCell']) ?_
    intro wE CE OE;refine hK.out _ _ (fun h=>absurd (by decide) h) ?_;clear hK K;try simp only[Act.put,aw,ar,an,ah,aj,ai]
    refine az.done (by kernel_rfl) ?_ _
    have hQ:Hid (QM w k n (.pointer (some ⟨gX,0,none⟩)) wE):=⟨gL,gZ,gX,rfl,⟨by omega,by omega,by omega,by omega,by omega,by omega⟩,CE,OE.cel CL.out (by omega),OE.cel CZ.out (by omega),OE.cel C4.out (by omega),HBc.out.trans (OE.below (by omega))⟩
    clear CE OE CL CZ CX C4 HBc;go_wp2_with fail;go_meet;exact hQ.out
  .intro K hK;refine cZ Y.heap.size 3 i0 (.int .i64 0) 1 underlying25 hi hz0 hz1 8 rfl rfl (by rw[hz2];omega) (by unfold maxLen;omega) (Nat.le_refl _) ?_;intro YZ hown hgr
   have CZ:=ag (eO (k:=.i64) (n:=8) hown);have bYZ:Below Y.heap.size Y YZ:=(Below.refl _ _).grown hgr (Nat.le_refl _) (fun k h=>by cases h);clear hown hgr;refine hK.out _ _ (fun _=>trivial) ?_;clear hK K
   try simp only[Act.put,aw,ar,an,ah,aj,ai]
   replace C4:=ag (C4.out.kept bYZ);replace HBc:=ag (bg HBc.out bYZ);have sYZ:=CZ.out.lt;clear bYZ;obtain⟨gZ,hgZ⟩:∃g,Hid (g=Y.heap.size):=⟨_,rfl⟩;rw[<-hgZ.out]at CZ sYZ⊢
   have loZ:Y.heap.size<=gZ:=by rw[hgZ.out];exact Nat.le_refl _
   clear hgZ;refine az.two 3 6 (by kernel_rfl) rfl rfl ?_ ?_
   .intro K hK;refine cZ YZ.heap.size 63 iv (.agg zv.toArray) 22 underlying24 hiv hzv0 hzv1 8 rfl rfl (by rw[hzv2];omega) (by unfold maxLen;omega) (Nat.le_refl _) ?_;intro YZL hown hgr
    have CL:=ag (iI hown);have bYZL:Below YZ.heap.size YZ YZL:=(Below.refl _ _).grown hgr (Nat.le_refl _) (fun k h=>by cases h);clear hown hgr;refine hK.out _ _ (fun _=>trivial) ?_;clear hK K
    try simp only[Act.put,aw,ar,an,ah,aj,ai]
    replace CZ:=ag (CZ.out.kept bYZL);replace C4:=ag (C4.out.kept bYZL);replace HBc:=ag (bg HBc.out bYZL);have sYZL:=CL.out.lt;clear bYZL
    obtain⟨gL,hgL⟩:∃g,Hid (g=YZ.heap.size):=⟨_,rfl⟩;rw[<-hgL.out]at CL sYZL⊢;have loL:YZ.heap.size<=gL:=by rw[hgL.out];exact Nat.le_refl _
    clear hgL;have hS:True:=trivial;refine aK 5 hS ?_;refine aO 6 ?_;intro K hK;go_simp;refine hK.out _ _ (fun _=>trivial) ?_;clear hK K;try simp only[Act.put,aw,ar,an,ah,aj,ai]
    obtain⟨YZLX,hYZLX⟩:∃YZLX,YZLX=YZL.alloc (.cells #[.int .i64 0,.int .i64 0,.slice none 0 0,.slice none 0 0] 27):=⟨_,rfl⟩;have bYZLX:Below YZL.heap.size YZL YZLX:=by rw[hYZLX];exact below_alloc _ _
    have CX:=ag (show aa YZLX YZL.heap.size [.int .i64 0,.int .i64 0,.slice none 0 0,.slice none 0 0] 27 by rw[hYZLX];exact aa.new _ _ _);rw[<-hYZLX];clear hYZLX;replace CZ:=ag (CZ.out.kept bYZLX)
    replace CL:=ag (CL.out.kept bYZLX);replace C4:=ag (C4.out.kept bYZLX);replace HBc:=ag (bg HBc.out bYZLX);have sYZLX:=CX.out.lt;clear bYZLX
    obtain⟨gX,hgX⟩:∃g,Hid (g=YZL.heap.size):=⟨_,rfl⟩;rw[<-hgX.out]at CX sYZLX⊢;have loX:YZL.heap.size<=gX:=by rw[hgX.out];exact Nat.le_refl _
    clear hgX;have hS:True:=trivial;refine aO 7 ?_;intro K hK;have X4:=C4.out.lt
    refine gR gX [.int .i64 0,.int .i64 0,.slice none 0 0,.slice none 0 0] [.int .i64 k,.int .i64 (n:Int),.slice (some ⟨gL,0,none⟩) 8 8,.slice (some ⟨gZ,0,none⟩) 8 8] rfl rfl CX.out rfl fd (by simp[Value.oneCell']) ?_
    intro wE CE OE;refine hK.out _ _ (fun h=>absurd (by decide) h) ?_;clear hK K;try simp only[Act.put,aw,ar,an,ah,aj,ai]
    refine az.done (by kernel_rfl) ?_ _
    have hQ:Hid (QM w k n (.pointer (some ⟨gX,0,none⟩)) wE):=⟨gL,gZ,gX,rfl,⟨by omega,by omega,by omega,by omega,by omega,by omega⟩,CE,OE.cel CL.out (by omega),OE.cel CZ.out (by omega),OE.cel C4.out (by omega),HBc.out.trans (OE.below (by omega))⟩
    clear CE OE CL CZ CX C4 HBc;go_wp2_with fail;go_meet;exact hQ.out
   .intro K hK;go_simp;refine hK.out _ _ (fun _=>trivial) ?_;clear hK K;try simp only[Act.put,aw,ar,an,ah,aj,ai]
    obtain⟨YZX,hYZX⟩:∃YZX,YZX=YZ.alloc (.cells #[.int .i64 0,.int .i64 0,.slice none 0 0,.slice none 0 0] 27):=⟨_,rfl⟩;have bYZX:Below YZ.heap.size YZ YZX:=by rw[hYZX];exact below_alloc _ _
    have CX:=ag (show aa YZX YZ.heap.size [.int .i64 0,.int .i64 0,.slice none 0 0,.slice none 0 0] 27 by rw[hYZX];exact aa.new _ _ _);rw[<-hYZX];clear hYZX;replace CZ:=ag (CZ.out.kept bYZX)
    replace C4:=ag (C4.out.kept bYZX);replace HBc:=ag (bg HBc.out bYZX);have sYZX:=CX.out.lt;clear bYZX;obtain⟨gX,hgX⟩:∃g,Hid (g=YZ.heap.size):=⟨_,rfl⟩;rw[<-hgX.out]at CX sYZX⊢
    have loX:YZ.heap.size<=gX:=by rw[hgX.out];exact Nat.le_refl _
    clear hgX;refine aO 3 ?_;intro K hK;refine cZ YZX.heap.size 63 iv (.agg zv.toArray) 22 underlying24 hiv hzv0 hzv1 8 rfl rfl (by rw[hzv2];omega) (by unfold maxLen;omega) (Nat.le_refl _) ?_
    intro YZXL hown hgr;have CL:=ag (iI hown);have bYZXL:Below YZX.heap.size YZX YZXL:=(Below.refl _ _).grown hgr (Nat.le_refl _) (fun k h=>by cases h);clear hown hgr;refine hK.out _ _ (fun _=>trivial) ?_
    clear hK K;try simp only[Act.put,aw,ar,an,ah,aj,ai]
    replace CZ:=ag (CZ.out.kept bYZXL);replace CX:=ag (CX.out.kept bYZXL);replace C4:=ag (C4.out.kept bYZXL);replace HBc:=ag (bg HBc.out bYZXL);have sYZXL:=CL.out.lt;clear bYZXL
    obtain⟨gL,hgL⟩:∃g,Hid (g=YZX.heap.size):=⟨_,rfl⟩;rw[<-hgL.out]at CL sYZXL⊢;have loL:YZX.heap.size<=gL:=by rw[hgL.out];exact Nat.le_refl _
    clear hgL;have hS:True:=trivial;refine aK 5 hS ?_;refine aO 7 ?_;intro K hK;have X4:=C4.out.lt
    refine gR gX [.int .i64 0,.int .i64 0,.slice none 0 0,.slice none 0 0] [.int .i64 k,.int .i64 (n:Int),.slice (some ⟨gL,0,none⟩) 8 8,.slice (some ⟨gZ,0,none⟩) 8 8] rfl rfl CX.out rfl fd (by simp[Value.oneCell']) ?_
    intro wE CE OE;refine hK.out _ _ (fun h=>absurd (by decide) h) ?_;clear hK K;try simp only[Act.put,aw,ar,an,ah,aj,ai]
    refine az.done (by kernel_rfl) ?_ _
    have hQ:Hid (QM w k n (.pointer (some ⟨gX,0,none⟩)) wE):=⟨gL,gZ,gX,rfl,⟨by omega,by omega,by omega,by omega,by omega,by omega⟩,CE,OE.cel CL.out (by omega),OE.cel CZ.out (by omega),OE.cel C4.out (by omega),HBc.out.trans (OE.below (by omega))⟩
    clear CE OE CL CZ CX C4 HBc;go_wp2_with fail;go_meet;exact hQ.out
  .intro K hK;go_simp;refine hK.out _ _ (fun _=>trivial) ?_;clear hK K;try simp only[Act.put,aw,ar,an,ah,aj,ai]
   obtain⟨YX,hYX⟩:∃YX,YX=Y.alloc (.cells #[.int .i64 0,.int .i64 0,.slice none 0 0,.slice none 0 0] 27):=⟨_,rfl⟩;have bYX:Below Y.heap.size Y YX:=by rw[hYX];exact below_alloc _ _
   have CX:=ag (show aa YX Y.heap.size [.int .i64 0,.int .i64 0,.slice none 0 0,.slice none 0 0] 27 by rw[hYX];exact aa.new _ _ _);rw[<-hYX];clear hYX;replace C4:=ag (C4.out.kept bYX)
   replace HBc:=ag (bg HBc.out bYX);have sYX:=CX.out.lt;clear bYX;obtain⟨gX,hgX⟩:∃g,Hid (g=Y.heap.size):=⟨_,rfl⟩;rw[<-hgX.out]at CX sYX⊢
   have loX:Y.heap.size<=gX:=by rw[hgX.out];exact Nat.le_refl _
   clear hgX;refine az.two 3 4 (by kernel_rfl) rfl rfl ?_ ?_
   .intro K hK;refine cZ YX.heap.size 63 iv (.agg zv.toArray) 22 underlying24 hiv hzv0 hzv1 8 rfl rfl (by rw[hzv2];omega) (by unfold maxLen;omega) (Nat.le_refl _) ?_;intro YXL hown hgr
    have CL:=ag (iI hown);have bYXL:Below YX.heap.size YX YXL:=(Below.refl _ _).grown hgr (Nat.le_refl _) (fun k h=>by cases h);clear hown hgr;refine hK.out _ _ (fun _=>trivial) ?_;clear hK K
    try simp only[Act.put,aw,ar,an,ah,aj,ai]
    replace CX:=ag (CX.out.kept bYXL);replace C4:=ag (C4.out.kept bYXL);replace HBc:=ag (bg HBc.out bYXL);have sYXL:=CL.out.lt;clear bYXL
    obtain⟨gL,hgL⟩:∃g,Hid (g=YX.heap.size):=⟨_,rfl⟩;rw[<-hgL.out]at CL sYXL⊢;have loL:YX.heap.size<=gL:=by rw[hgL.out];exact Nat.le_refl _
    clear hgL;refine aO 4 ?_;intro K hK;refine cZ YXL.heap.size 3 i0 (.int .i64 0) 1 underlying25 hi hz0 hz1 8 rfl rfl (by rw[hz2];omega) (by unfold maxLen;omega) (Nat.le_refl _) ?_;intro YXLZ hown hgr
    have CZ:=ag (eO (k:=.i64) (n:=8) hown);have bYXLZ:Below YXL.heap.size YXL YXLZ:=(Below.refl _ _).grown hgr (Nat.le_refl _) (fun k h=>by cases h);clear hown hgr;refine hK.out _ _ (fun _=>trivial) ?_
    clear hK K;try simp only[Act.put,aw,ar,an,ah,aj,ai]
    replace CX:=ag (CX.out.kept bYXLZ);replace CL:=ag (CL.out.kept bYXLZ);replace C4:=ag (C4.out.kept bYXLZ);replace HBc:=ag (bg HBc.out bYXLZ);have sYXLZ:=CZ.out.lt;clear bYXLZ
    obtain⟨gZ,hgZ⟩:∃g,Hid (g=YXL.heap.size):=⟨_,rfl⟩;rw[<-hgZ.out]at CZ sYXLZ⊢;have loZ:YXL.heap.size<=gZ:=by rw[hgZ.out];exact Nat.le_refl _
    clear hgZ;have hS:True:=trivial;refine aK 5 hS ?_;refine aO 7 ?_;intro K hK;have X4:=C4.out.lt
    refine gR gX [.int .i64 0,.int .i64 0,.slice none 0 0,.slice none 0 0] [.int .i64 k,.int .i64 (n:Int),.slice (some ⟨gL,0,none⟩) 8 8,.slice (some ⟨gZ,0,none⟩) 8 8] rfl rfl CX.out rfl fd (by simp[Value.oneCell']) ?_
    intro wE CE OE;refine hK.out _ _ (fun h=>absurd (by decide) h) ?_;clear hK K;try simp only[Act.put,aw,ar,an,ah,aj,ai]
    refine az.done (by kernel_rfl) ?_ _
    have hQ:Hid (QM w k n (.pointer (some ⟨gX,0,none⟩)) wE):=⟨gL,gZ,gX,rfl,⟨by omega,by omega,by omega,by omega,by omega,by omega⟩,CE,OE.cel CL.out (by omega),OE.cel CZ.out (by omega),OE.cel C4.out (by omega),HBc.out.trans (OE.below (by omega))⟩
    clear CE OE CL CZ CX C4 HBc;go_wp2_with fail;go_meet;exact hQ.out
   .intro K hK;refine cZ YX.heap.size 3 i0 (.int .i64 0) 1 underlying25 hi hz0 hz1 8 rfl rfl (by rw[hz2];omega) (by unfold maxLen;omega) (Nat.le_refl _) ?_;intro YXZ hown hgr
    have CZ:=ag (eO (k:=.i64) (n:=8) hown);have bYXZ:Below YX.heap.size YX YXZ:=(Below.refl _ _).grown hgr (Nat.le_refl _) (fun k h=>by cases h);clear hown hgr;refine hK.out _ _ (fun _=>trivial) ?_
    clear hK K;try simp only[Act.put,aw,ar,an,ah,aj,ai]
    replace CX:=ag (CX.out.kept bYXZ);replace C4:=ag (C4.out.kept bYXZ);replace HBc:=ag (bg HBc.out bYXZ);have sYXZ:=CZ.out.lt;clear bYXZ
    obtain⟨gZ,hgZ⟩:∃g,Hid (g=YX.heap.size):=⟨_,rfl⟩;rw[<-hgZ.out]at CZ sYXZ⊢;have loZ:YX.heap.size<=gZ:=by rw[hgZ.out];exact Nat.le_refl _
    clear hgZ;refine aO 3 ?_;intro K hK;refine cZ YXZ.heap.size 63 iv (.agg zv.toArray) 22 underlying24 hiv hzv0 hzv1 8 rfl rfl (by rw[hzv2];omega) (by unfold maxLen;omega) (Nat.le_refl _) ?_
    intro YXZL hown hgr;have CL:=ag (iI hown);have bYXZL:Below YXZ.heap.size YXZ YXZL:=(Below.refl _ _).grown hgr (Nat.le_refl _) (fun k h=>by cases h);clear hown hgr;refine hK.out _ _ (fun _=>trivial) ?_
    clear hK K;try simp only[Act.put,aw,ar,an,ah,aj,ai]
    replace CX:=ag (CX.out.kept bYXZL);replace CZ:=ag (CZ.out.kept bYXZL);replace C4:=ag (C4.out.kept bYXZL);replace HBc:=ag (bg HBc.out bYXZL);have sYXZL:=CL.out.lt;clear bYXZL
    obtain⟨gL,hgL⟩:∃g,Hid (g=YXZ.heap.size):=⟨_,rfl⟩;rw[<-hgL.out]at CL sYXZL⊢;have loL:YXZ.heap.size<=gL:=by rw[hgL.out];exact Nat.le_refl _
    clear hgL;have hS:True:=trivial;refine aK 5 hS ?_;refine aO 7 ?_;intro K hK;have X4:=C4.out.lt
    refine gR gX [.int .i64 0,.int .i64 0,.slice none 0 0,.slice none 0 0] [.int .i64 k,.int .i64 (n:Int),.slice (some ⟨gL,0,none⟩) 8 8,.slice (some ⟨gZ,0,none⟩) 8 8] rfl rfl CX.out rfl fd (by simp[Value.oneCell']) ?_
    intro wE CE OE;refine hK.out _ _ (fun h=>absurd (by decide) h) ?_;clear hK K;try simp only[Act.put,aw,ar,an,ah,aj,ai]
    refine az.done (by kernel_rfl) ?_ _
    have hQ:Hid (QM w k n (.pointer (some ⟨gX,0,none⟩)) wE):=⟨gL,gZ,gX,rfl,⟨by omega,by omega,by omega,by omega,by omega,by omega⟩,CE,OE.cel CL.out (by omega),OE.cel CZ.out (by omega),OE.cel C4.out (by omega),HBc.out.trans (OE.below (by omega))⟩
    clear CE OE CL CZ CX C4 HBc;go_wp2_with fail;go_meet;exact hQ.out
 case rest=>
  obtain⟨gL,gz,gx,rfl,⟨o1,o2,o3,o4,o5,o6⟩,cx,cl,cz,c4,hbx⟩:=hcut;have C4:=ag c4;have CX:=ag cx;have HBx:=ag hbx;have HZ:=ag (show aa wc gz (vK .i64 (zq t 0)) 3 by rw[re];exact cz)
  have HRw:=ag (show dG wc gL wc.heap.size (fun l=>kB k (t.length:Int) (aB (Mx.rw_ t l))) []from⟨Nat.zero_le _,by simpa using cl,fun l c e=>by simp at e⟩)
  have HS:=ag (show Bd wc ao (Mx.sy t 0)by rw[Mx.sy_zero];exact HX.out.keep hbx);have bz:=CX.out.lt;have bzL:=cl.lt;have bzZ:=cz.lt;obtain⟨B0,hB0⟩:∃B0,Hid (B0=wc.heap.size):=⟨_,rfl⟩
  have hLB:gL<B0:=by rw[hB0.out];exact bzL
  have hzB:gz<B0:=by rw[hB0.out];exact bzZ
  have hxB:gx<B0:=by rw[hB0.out];exact bz
  have h0B:Hid (B0<=wc.heap.size):=by rw[hB0.out];exact Nat.le_refl _
  rw[<-hB0.out]at HRw
  have HAp:Hid (∀a,ao=some a->0<t.length->a.block<w.heap.size\/B0<=a.block):=fun a ha h0=>by
   obtain⟨b,off,e,hb,_⟩:=HX.out h0;rw[e]at ha;cases ha;exact .inl hb
  clear cx cl cz c4 hbx bz bzL bzZ HX hW bW B4 hi hz0 hz1 hz2 hiv hzv0 hzv1 hzv2 hB0;go_wp2
  go_loopw [7,23] (fun vs vl wr=>vl=.int .i64 0/\vs=.slice ao n cap/\Hid (Bd wr ao (Mx.sy t 0))/\Hid (aa wr w.heap.size [.int .i64 0,.int .i64 0,.slice none 0 0,.slice none 0 0] 27)/\Hid (Below w.heap.size w wr)) (fun _ vl _=>8-(intOf vl).toNat)
  case atStart=>exact⟨rfl,rfl,HS,C4,HBx⟩
  case round=>
   clear HS HAp HRw HZ CX C4 h0B HBx;obtain⟨rfl,rfl,HS,C4,HB⟩:=hrel;obtain⟨W1,hW1⟩:∃W1,W1=wr.alloc (.cells #[.int .i64 0] 3):=⟨_,rfl⟩;have b1:Below wr.heap.size wr W1:=by rw[hW1];exact below_alloc wr _
   have CLb:=ag (show aa W1 wr.heap.size [.int .i64 ((0:Nat):Int)] 3 by rw[hW1];exact aa.new wr _ _);replace HS:=ag (HS.out.keep b1);replace C4:=ag (C4.out.kept b1)
   replace HB:=ag (bg HB.out b1);have CRq:=ag (CR.out 0 ao cap wr.heap.size W1 (by decide) HS.out CLb.out);go_wp2_with fail;rw[<-hW1];clear b1 hW1 CR;refine CRq.out.mono ?_
   rintro e w2 ⟨bo,dap,rfl,x1,x2,hb⟩;replace C4:=ag (C4.out.kept hb);replace HB:=ag (bg HB.out hb);have CVq:=ag (CV.out 0 bo dap w2 HB.out x1 x2);clear hb CRq CV x1 x2 HS CLb
   go_wp2_with fail;refine CVq.out.mono ?_;rintro e w3 ⟨cs,rfl,hki,hb,nf⟩;replace C4:=ag (C4.out.kept hb);replace HB:=ag (bg HB.out hb);have HL:=ag hki.arg.len;have H1:=ag hki.arg.one
   have H22:=ag (kR.trans hki.arg.nine);have l4:=C4.out.lt;clear hb CVq nf hki;go_wp2_with (refine oF mp ?_);intro w4 B5 hb4 hs4;try simp only[Act.put,ah,List.set]
   have HB4:=ag hb4;clear hb4;go_wp2_with (refine aJ w3.heap.size zv cs rfl rfl B5 H22.out HL.out H1.out ?_);intro w5 B6 hO5;try simp only[Act.put,ah,List.set]
   have b5:Below w3.heap.size w3 w5:=HB4.out.trans (hO5.below (Nat.le_refl _));replace C4:=ag (C4.out.kept b5);replace HB:=ag (bg HB.out b5);have c4:=C4.out;clear b5 HB4 hO5 B5 B6 hs4
   go_wp2_with (refine aJ w.heap.size [.int .i64 0,.int .i64 0,.slice none 0 0,.slice none 0 0] [.int .i64 0,.int .i64 0,.slice none 0 0,.slice none 0 0] rfl rfl c4 rfl fd (by simp[Value.oneCell']) ?_)
   intro w6 c6 o6;try simp only[Act.put,ah,List.set]
   have HC:=ag c6;have HB6:=ag (HB.out.trans (o6.below (Nat.le_refl _)));clear c6 o6 C4 HB c4;go_wp2
   (try simp only[Exit.inBlock,Exit.then]);exact bodyPost_ret (a_ rfl w.heap.size _ rfl HC.out underlying27 fd) rfl ⟨rfl,HB6.out⟩
open Go.ChangeShapes Go.WideShapes Go.ChangeAt Go.RowKit Num Bit
theorem Tryz.cells5:prog.cellsOf 5=1:=by kernel_rfl
theorem xj(x:Int)(h:(Lit.int .u8 x).wf=true):0<=x/\x<256:=by
 simp only[Lit.wf,IntKind.min,IntKind.max,IntKind.signed,IntKind.bits,Bool.and_eq_true,decide_eq_true_eq]at h;simp at h;omega
def lM(b:List Nat):Prop:=∀x∈b,x<256
theorem Gz{b:List Nat}(h:∀i,i<b.length->gt b i<256):lM b:=by
 intro x hx;obtain⟨i,hi,e⟩:=List.getElem_of_mem hx;have:=h i hi;unfold gt at this;rw[List.getD_eq_getElem?_getD,List.getElem?_eq_getElem hi,Option.getD_some]at this;omega
theorem lM.byt{b:List Nat}(h:lM b):fV b:=fun i=>by
 by_cases hi:i<b.length
 .have:=gt_get b i hi;exact h _ (List.mem_of_getElem? this)
 .rw[i7 _ _ (by omega)];decide
theorem Ht(w:World)(a:Addr)(len:Nat)(zs:List Int)(hl:len<=zs.length)(hc:∀i,i<zs.length->w.cell? (a.add i)=some (.int .u8 (zs.getD i 0)))(hw:∀n∈zs,(Lit.int .u8 n).wf=true):
  ∃xs:List Nat,xs.length=len/\Bd w (some a) xs/\lM xs:=by
 have hb:∀i,i<zs.length->0<=zs.getD i 0/\zs.getD i 0<256:=by
  intro i hi;have:zs.getD i 0=zs[i]:=by rw[List.getD_eq_getElem?_getD,List.getElem?_eq_getElem hi];rfl
  rw[this];exact xj _ (hw _ (List.getElem_mem hi))
 have hg:∀i,i<len->(gt ((zs.take len).map Int.toNat) i:Int)=zs.getD i 0:=by
  intro i hi;have h:=hb i (by omega);unfold gt;rw[List.getD_eq_getElem?_getD,List.getElem?_map,List.getElem?_take_of_lt hi,List.getElem?_eq_getElem (by omega:i<zs.length)]
  rw[List.getD_eq_getElem?_getD,List.getElem?_eq_getElem (by omega:i<zs.length)]at h⊢;simp only[Option.map_some,Option.getD_some]at h⊢;omega
 have hlen:((zs.take len).map Int.toNat).length=len:=by simp;omega
 refine⟨(zs.take len).map Int.toNat,hlen,?_,?_⟩
 .intro h0;obtain⟨b,off,s⟩:=a;have h00:0<zs.length:=by simp at h0;omega
  have c0:=hc 0 h00;have k:=Gs (show w.cell? ⟨b,off,s⟩=_ from c0);obtain⟨k1,rfl⟩:=k;refine⟨b,off,rfl,k1,fun i hi=>?_⟩;have hi2:i<len:=by simp at hi;omega
  have ci:=hc i (by omega);rw[hg i hi2,<-ci];unfold Addr.add;split
  .subst_vars;rfl
  .rfl
 .refine Gz fun i hi=>?_;rw[hlen]at hi;have:=hb i (by omega);have:=hg i hi;omega
theorem Bi{H:Type}{enc:TypeId×Value->H}{W:World}{base:Nat}{v:Value}{d:DataW H}{p:List MemPlace}(hv:Value.okWide prog W .any base 22 v)(h:DataW.Trod enc prog W 0 (fun _=>true) true 22 v d p):
  ∃ao xs cap,v=.slice ao xs.length cap/\Bd W ao xs/\lM xs/\xs.length<=cap:=by
 obtain⟨a0,len,cap,rfl⟩:=okWide_slice underlying22 hv;obtain⟨fuel,hf⟩:=h;have hf2:DataW.trod enc prog W 0 (fun _=>true) true fuel 22 [.slice a0 len cap]=some (d,p):=by simpa [Value.cells]using hf
 rcases open_ints underlying22 underlying5 Tryz.cells5 hf2 with⟨hcs,_⟩ | ⟨x,l,cp,zs,hcs,_,hl,hm,hz,_,hcell,hwz⟩
 .simp at hcs;obtain⟨rfl,rfl,rfl⟩:=hcs;exact⟨none,[],0,rfl,vX _ _,(by intro x hx;cases hx),by simp⟩
 .simp at hcs;obtain⟨rfl,rfl,rfl⟩:=hcs;have hz2:zs.length=cap:=by simpa using hz
  obtain⟨xs,hx1,hx2,hx3⟩:=Ht W x len zs (by omega) hcell hwz;subst hx1;exact⟨some x,xs,cap,rfl,hx2,hx3,hl⟩
end Go.Proofs.YtleegaihbgbcjabGreatDoor
namespace Go.Proofs.YtleegaihbgbcjabGreatDoor
open Go.RowKit Num Bit
theorem Ic{a b:Bool}(ha:a=true)(hb:b=true):(a&&b)=true:=by rw[ha,hb];rfl
theorem xk{W:World}{fuel:Nat}{t:TypeId}{k:IntKind}{cs:List Value}{y:DataW Unit×List MemPlace}(hu:prog.underlying t=some (.int k))(h:DataW.trod (fun _=>()) prog W 0 (fun _=>true) false fuel t cs=some y):∃n,cs=[.int k n]/\y.1=.lit (.int k n):=by
 cases fuel with
 | zero=>simp[DataW.trod]at h
 | succ fuel=>
  unfold DataW.trod at h;rw[hu]at h;match cs,h with
  | [.int k' n],h=>
   dsimp only at h;split at h
   .rename_i hk;obtain⟨rfl,_⟩:=hk;cases h;exact⟨n,rfl,rfl⟩
   .cases h
theorem tV{α β:Type}(f:α->Option β):∀(L:List α) (ys:List β),L.mapM f=some ys->ys.length=L.length/\∀(i:Nat) a y,L[i]?=some a->ys[i]?=some y->f a=some y
 | [],ys,h=>by
  rw[List.mapM_nil]at h;cases h;exact⟨rfl,fun i a y e=>by simp at e⟩
 | b::L,ys,h=>by
  rw[List.mapM_cons]at h;simp only[Option.bind_eq_bind,Option.bind_eq_some_iff,Option.pure_def,Option.some.injEq]at h;obtain⟨z,h1,zs,h2,rfl⟩:=h;obtain⟨e1,e2⟩:=tV f L zs h2
  refine⟨by simp[e1],fun i a y ha hy=>?_⟩;cases i with
  | zero=>simp at ha hy;subst ha;subst hy;exact h1
  | succ i=>exact e2 i a y (by simpa using ha) (by simpa using hy)
theorem rE{W:World}{fuel n:Nat}{t e:TypeId}{k:IntKind}{cs:List Value}{l:List Int}{p:List MemPlace}(hu:prog.underlying t=some (.array n e))(he:prog.underlying e=some (.int k))(ce:prog.cellsOf e=1)(ct:prog.cellsOf t=n)
  (h:DataW.trod (fun _=>()) prog W 0 (fun _=>true) false fuel t cs=some (.agg (l.map fun x=>.lit (.int k x)),p)):cs=l.map fun x=>.int k x:=by
 cases fuel with
 | zero=>simp[DataW.trod]at h
 | succ fuel=>
  unfold DataW.trod at h;rw[hu]at h;dsimp only at h;split at h
  .rename_i hl;rw[Option.map_eq_some_iff]at h;obtain⟨ys,h1,h2⟩:=h;obtain⟨g1,g2⟩:=tV _ _ _ h1;simp only[Prod.mk.injEq,DataW.agg.injEq]at h2;have hy:=h2.1
   have ll:l.length=n:=by
    have:=congrArg List.length hy;simp only[List.length_map]at this;rw[<-this,g1,List.length_range]
   rw[ct]at hl;refine List.ext_getElem? fun i=>?_;by_cases hi:i<n
   .obtain⟨y,ey⟩:∃y,ys[i]?=some y:=⟨_,List.getElem?_eq_getElem (by rw[g1,List.length_range];exact hi)⟩;have e3:=g2 i i y (List.getElem?_range hi) ey;obtain⟨m,e4,e5⟩:=xk he e3
    have e6:(ys.map (·.1))[i]?=some (.lit (.int k m)):=by rw[List.getElem?_map,ey];exact congrArg some e5
    rw[hy,List.getElem?_map]at e6;obtain⟨x,ex⟩:∃x,l[i]?=some x:=⟨_,List.getElem?_eq_getElem (by omega)⟩;rw[ex]at e6;simp only[Option.map_some,Option.some.injEq,DataW.lit.injEq,Lit.int.injEq,true_and]at e6
    rw[List.getElem?_map,ex,e6];rw[ce,Nat.mul_one]at e4;have e7:=congrArg (·[0]?) e4;simp only[List.getElem?_take_of_lt (Nat.one_pos),List.getElem?_drop,Nat.add_zero]at e7;exact e7
   .rw[List.getElem?_eq_none (by omega),List.getElem?_eq_none (by rw[List.length_map];omega)]
  .cases h
theorem vB{W:World}{g:Nat}{nm:String}{cs:Array Value}{vs:List Value}(hg:prog.globalNamed nm=some g)(hv:W.var? prog nm=some cs)(hc:cs.toList=vs)(hm:∃c t,W.heap[g]?=some (.cells c t (0,0))):Tb W g vs:=by
 obtain⟨c,t,e⟩:=hm;refine⟨t,?_⟩;unfold World.var? at hv;rw[hg]at hv;simp only[Option.bind_some,e,Option.some.injEq]at hv;subst hv;unfold aa;rw[e,<-hc]
def DT:List (String×DataW Unit):=[("errors.errorType",Rows.laid_errors_errorType),("haystack/rrr.ways",Rows.laid_haystack_rrr_ways),("haystack/rrr.widths",Rows.laid_haystack_rrr_widths)]
theorem Ez{W:World}(h:laidMetH prog DT W):GV W:=by
 have h0:laidMet prog [("haystack/rrr.ways",Rows.laid_haystack_rrr_ways),("haystack/rrr.widths",Rows.laid_haystack_rrr_widths)] W:=And.left (show _/\_ from h)
 obtain⟨ps,⟨g,t,cs,fuel,p,q,hg,ht,hv,hd,⟨g2,t2,cs2,fuel2,p2,q2,hg2,ht2,hv2,hd2,hr,hq⟩,hps⟩,_,hm⟩:=h0;obtain rfl:q2=[]:=hr
 obtain rfl:=Option.some.inj ((show prog.globalNamed "haystack/rrr.ways" =some 1 by kernel_rfl).symm.trans hg)
 obtain rfl:=Option.some.inj ((show prog.globalNamed "haystack/rrr.widths" =some 0 by kernel_rfl).symm.trans hg2)
 obtain rfl:=Option.some.inj ((show(prog.globals[1]?).map (·.type)=some 198 by kernel_rfl).symm.trans ht)
 obtain rfl:=Option.some.inj ((show(prog.globals[0]?).map (·.type)=some 191 by kernel_rfl).symm.trans ht2)
 have e1:cs.toList=wv iw:=(rE (l:=[1,15,105,455,1365,3003,5005,6435,6435,5005,3003,1365,455,105,15,1]) underlying198 underlying126 (by kernel_rfl) (by kernel_rfl) hd).trans rfl
 have e2:cs2.toList=vI cm:=(rE (l:=[0,4,7,9,11,12,13,13,13,13,12,11,9,7,4,0]) underlying191 underlying3 (by kernel_rfl) (by kernel_rfl) hd2).trans rfl
 have s1:cs.size=16:=by rw[<-Array.length_toList,e1];rfl
 have s2:cs2.size=16:=by rw[<-Array.length_toList,e2];rfl
 refine⟨vB hg2 hv2 e2 (hm _ 0 ?_).1,vB hg hv e1 (hm _ 0 ?_).1⟩
 .rw[hps,hq,s2];exact List.mem_append_right _ (List.mem_append_left _ (List.mem_append_left _ (List.mem_map.2 ⟨0,List.mem_range.2 (by decide),rfl⟩)))
 .rw[hps,s1];exact List.mem_append_left _ (List.mem_append_left _ (List.mem_map.2 ⟨0,List.mem_range.2 (by decide),rfl⟩))
end Go.Proofs.YtleegaihbgbcjabGreatDoor
