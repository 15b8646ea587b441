import Derived.Test.YtleegaihbgbcjabGreatDoorT12
set_option linter.unusedVariables false
set_option linter.unusedSimpArgs false
set_option maxRecDepth 100000
set_option maxHeartbeats 16000000
open Go.Proofs.Tryz
namespace Go.Proofs.YtleegaihbgbcjabGreatDoor
open Go.RowKit Num Bit Bn
theorem aB.fr{g lo hi:Nat}{w w':World}(h:aB g w w')(h1:lo<=g)(h2:g<hi):aT lo hi w w':=⟨h.below h1,fun b hb _=>h.block b (by omega)⟩
theorem Fg:(prog.info? 150).map (·.size)=some 2:=by kernel_rfl
theorem Ff:(prog.info? 137).map (·.size)=some 2:=by kernel_rfl
def wO(a:aP)(i:Nat):Prop:=cOff a.L a.ys a.xs i<ch 15 (cls a.xs i)/\(i%8=0->gi a.S (i/8)=cOn a.xs i/\gi a.T (i/8)=cAt a.xs i)
theorem AX(cs:List Value)(a:aP)(i gl gx lo hi:Nat)(old:List Value)(w0 w:World)(h:ba w0 cs a)(hb:Below w0.heap.size w0 w)(hlo:lo=w0.heap.size)(hil:i<=1048576)(h8s:i/8<a.S.length)(h8t:i/8<a.T.length)
  (hcl:aa w gl old 150) (ho:old.length=2) (hcx:aa w gx cs 59) (h2:gl≠gx) (h3:lo<=gl) (h4:gl<hi) (h5:hi<=w.heap.size):
  Calls prog 155 #[.int .i64 i,.agg #[.int .i64 (cls a.xs i:Nat),.int .u64 (cOff a.L a.ys a.xs i:Nat)],.agg #[.int .i64 (cOn a.xs i:Nat),.int .i64 (cAt a.xs i:Nat)],.pointer (some ⟨gl,0,none⟩),.pointer (some ⟨gx,0,none⟩)] w
   fun e w'=>e=.returned (.bool (decide (cOff a.L a.ys a.xs i<ch 15 (cls a.xs i)/\(i%8=0->gi a.S (i/8)=cOn a.xs i/\gi a.T (i/8)=cAt a.xs i))))/\aa w' gl [.int .i64 (cls a.xs i:Nat),.int .u64 (cOff a.L a.ys a.xs i:Nat)] 150/\Tb w' 1 (wv iD)/\aa w' gx cs 59/\aT lo hi w w':=by
 have HM:Hid (∀w1,Below w0.heap.size w0 w1->Qq 154 #[.agg cs.toArray,.int .i64 (i/8:Nat)] w1 (.agg #[.int .i64 (gi a.S (i/8)),.int .i64 (gi a.T (i/8))])):=fun w1 hb1=>pF cs a (i/8) w1 (h.keep hb1) h8s h8t
 have hcw:Tb w 1 (wv iD):=h.gv.wy.kept hb;have L0:=h.gv.two;have fS:=h.arg;obtain⟨⟨ao,cap,qo,dap,so,sc,tO,tc,rfl,⟨_,_,_,_,_,fs,ft⟩,_⟩,_⟩:=h;obtain⟨N,k,V,M,xs,L,ys,S,T⟩:=a;dsimp only at *
 have cl:=iK xs i;have cof:=H_ L ys xs i;have fs1:=fs (i/8);have ft1:=ft (i/8)
 have HWd:Hid ((wv iD)[cls xs i]?=some (.int .u64 (ch 15 (cls xs i):Nat))):=by
  show(wv iD)[cls xs i]?=_;rw[xg iD (cls xs i) (by rw[Ev];omega),Fw _ cl]
 obtain⟨D,HD⟩:∃D,Hid (D=decide (cOff L ys xs i<ch 15 (cls xs i)/\(i%8=0->gi S (i/8)=cOn xs i/\gi T (i/8)=cAt xs i))):=⟨_,rfl⟩;rw[<-HD.out];have cli:((cls xs i:Nat):Int)<16:=by omega
 have i8:(((i/8:Nat):Nat):Int)=IntKind.i64.wrap ((i:Int)/8):=by rw[IntKind.wrap_i64];omega
 have sub1:=gC 15 (cls xs i) (by decide);rw[i8]at HM;clear fS;generalize cls xs i=c at *;generalize cOff L ys xs i=o at *;generalize cOn xs i=s at *;generalize cAt xs i=p at *;generalize gi S (i/8)=s8 at *
 generalize gi T (i/8)=t8 at *;generalize ch 15 c=q at *
 obtain⟨v0,v1,rfl⟩:∃v0 v1,old=[v0,v1]:=by
  match old,ho with
  | [v0,v1],_=>exact⟨v0,v1,rfl⟩
 have f0:=hcl.frozen 0;have f1:=hcl.frozen 1;have n0:=hcl.cell 0 rfl;have n1:=hcl.cell 1 rfl;have ll:=hcl.lt
 obtain⟨U,hU⟩:∃U,U=(w.setCell ⟨gl,0,none⟩ (.int .i64 c)).setCell ⟨gl,1,none⟩ (.int .u64 o):=⟨_,rfl⟩;have hO:aB gl w U:=by rw[hU];exact((aB.refl gl w).set 0 _).set 1 _
 have hcl2:aa U gl [.int .i64 c,.int .u64 o] 150:=by rw[hU];exact(hcl.set 0 _).set 1 _
 have zU:U.heap.size=w.heap.size:=hO.size;obtain⟨W,hW⟩:∃W,W=(U.alloc (.cells #[.int .i64 c,.int .u64 o] 150)).alloc (.cells #[.int .i64 s,.int .i64 p] 137):=⟨_,rfl⟩
 have bW:Below U.heap.size U W:=by rw[hW];exact(below_alloc U _).alloc (by simp) _
 have B1:aa W w.heap.size [.int .i64 c,.int .u64 o] 150:=by rw[hW,<-zU];exact(aa.new U _ _).alloc _
 have B2:aa W (w.heap.size+1) [.int .i64 s,.int .i64 p] 137:=by rw[hW,<-zU];exact aa.new2 U _ _ _
 have F2:aT lo hi w W:=(hO.fr h3 h4).trans (aT.of bW (by omega));replace hcl2:=hcl2.kept bW;replace hcw:=(hO.tb hcw (by omega)).kept bW;replace hcx:=(hO.cel hcx (by omega)).kept bW
 have bw2:Below w0.heap.size w0 W:=hb.trans (by rw[<-hlo];exact F2.below);have z2:=F2.size;clear hO hcl bW hb;go_enter func155,ntmps155;go_wp2;rw[<-hU,<-hW];clear f0 f1 n0 n1 hU hW;generalize W=w2 at *
 refine bm [] (fun w'=>aa w' w.heap.size [.int .i64 c,.int .u64 o] 150/\aa w' (w.heap.size+1) [.int .i64 s,.int .i64 p] 137/\Tb w' 1 (wv iD)/\aa w' gx [.int .i64 N,.int .i64 k,.int .i64 V,.int .i64 M,.slice ao xs.length cap,.int .i64 L,.slice qo ys.length dap,.slice so S.length sc,.slice tO T.length tc] 59/\aa w' gl [.int .i64 c,.int .u64 o] 150) (by kernel_rfl) ?_
 have hS:aa w2.drew w.heap.size [.int .i64 c,.int .u64 o] 150/\aa w2.drew (w.heap.size+1) [.int .i64 s,.int .i64 p] 137/\Tb w2.drew 1 (wv iD)/\aa w2.drew gx [.int .i64 N,.int .i64 k,.int .i64 V,.int .i64 M,.slice ao xs.length cap,.int .i64 L,.slice qo ys.length dap,.slice so S.length sc,.slice tO T.length tc] 59/\aa w2.drew gl [.int .i64 c,.int .u64 o] 150:=⟨B1,B2,hcw,hcx,hcl2⟩
 have bV:Below w0.heap.size w0 w2.drew:=bw2.drew;have F3:aT lo hi w w2.drew:=F2.trans (aT.of ((Below.refl _ _).drew) (by omega));have z3:w2.heap.size<=w2.drew.heap.size:=Nat.le_refl _;generalize w2.drew=Y at *
 clear B1 B2 hcw hcx hcl2 bw2 F2;by_cases hq:o<q
 .have hq2:decide ((o:Int)<(q:Int))=true:=decide_eq_true (by omega);have hq3:decide (o<q)=true:=decide_eq_true hq;by_cases h8:i%8=0
  .have h82:decide ((0:Int)<(i:Int).tmod 8)=false:=decide_eq_false (by rw[Int.tmod_eq_emod_of_nonneg (by omega)];omega);by_cases e1:s8=(s:Int)
   .by_cases e2:t8=(p:Int)
    .obtain rfl:D=true:=by
      rw[HD.out];exact decide_eq_true (by omega)
     clear HD;refine aK 0 hS ?_;refine aF 1 hS rfl (fun w0 h0=>by have c0:=h0.1.cell 1 rfl;go_simp;try with_reducible rfl) ?_;refine aK 2 hS ?_
     refine aF 3 hS rfl (fun w0 h0=>by have c0:=h0.1.cell 0 rfl;go_simp;try with_reducible rfl) ?_;refine aK 4 hS ?_
     refine aF 5 hS rfl (fun w0 h0=>by have c0:=h0.2.2.1.cell c HWd.out;go_simp;try with_reducible rfl) ?_;refine aK 6 hS ?_;refine aK 7 hS ?_;refine aK 8 hS ?_;refine aK 9 hS ?_
     refine aK 10 hS ?_;refine aK 11 hS ?_
     refine aF 12 hS rfl (fun w0 h0=>by have c0:=h0.2.2.2.1.cell 0 rfl;have c1:=h0.2.2.2.1.cell 1 rfl;have c2:=h0.2.2.2.1.cell 2 rfl;have c3:=h0.2.2.2.1.cell 3 rfl;have c4:=h0.2.2.2.1.cell 4 rfl;have c5:=h0.2.2.2.1.cell 5 rfl;have c6:=h0.2.2.2.1.cell 6 rfl;have c7:=h0.2.2.2.1.cell 7 rfl;have c8:=h0.2.2.2.1.cell 8 rfl;go_simp;try with_reducible rfl) ?_
     refine aK 13 hS ?_;refine aK 14 hS ?_;refine aF 16 hS rfl (fun w0 h0=>by have c0:=h0.2.1.cell 0 rfl;have c1:=h0.2.1.cell 1 rfl;go_simp;try with_reducible rfl) ?_;refine aO 15 ?_;intro K hK
     go_simp;refine mr (HM.out _ bV) fun w5 hb=>?_;have hS5:=And.intro (hS.1.kept hb) (And.intro (hS.2.1.kept hb) (And.intro (hS.2.2.1.kept hb) (And.intro (hS.2.2.2.1.kept hb) (hS.2.2.2.2.kept hb))))
     have F5:=F3.trans (aT.of hb (by omega));clear hb HM bV F3 hS;refine hK.out _ _ (fun _=>hS5) ?_;clear hK K;try simp only[Act.put,ar,an,am,ah,aj,ai]
     refine aK 17 hS5 ?_;refine aK 18 hS5 ?_;refine aK 19 hS5 ?_;refine aK 20 hS5 ?_;refine aw.done (by kernel_rfl) ?_ _;go_wp2;go_ret;exact⟨rfl,hS5.2.2.2.2,hS5.2.2.1,hS5.2.2.2.1,F5⟩
    .obtain rfl:D=false:=by
      rw[HD.out];exact decide_eq_false (by omega)
     clear HD;refine aK 0 hS ?_;refine aF 1 hS rfl (fun w0 h0=>by have c0:=h0.1.cell 1 rfl;go_simp;try with_reducible rfl) ?_;refine aK 2 hS ?_
     refine aF 3 hS rfl (fun w0 h0=>by have c0:=h0.1.cell 0 rfl;go_simp;try with_reducible rfl) ?_;refine aK 4 hS ?_
     refine aF 5 hS rfl (fun w0 h0=>by have c0:=h0.2.2.1.cell c HWd.out;go_simp;try with_reducible rfl) ?_;refine aK 6 hS ?_;refine aK 7 hS ?_;refine aK 8 hS ?_;refine aK 9 hS ?_
     refine aK 10 hS ?_;refine aK 11 hS ?_
     refine aF 12 hS rfl (fun w0 h0=>by have c0:=h0.2.2.2.1.cell 0 rfl;have c1:=h0.2.2.2.1.cell 1 rfl;have c2:=h0.2.2.2.1.cell 2 rfl;have c3:=h0.2.2.2.1.cell 3 rfl;have c4:=h0.2.2.2.1.cell 4 rfl;have c5:=h0.2.2.2.1.cell 5 rfl;have c6:=h0.2.2.2.1.cell 6 rfl;have c7:=h0.2.2.2.1.cell 7 rfl;have c8:=h0.2.2.2.1.cell 8 rfl;go_simp;try with_reducible rfl) ?_
     refine aK 13 hS ?_;refine aK 14 hS ?_;refine aF 16 hS rfl (fun w0 h0=>by have c0:=h0.2.1.cell 0 rfl;have c1:=h0.2.1.cell 1 rfl;go_simp;try with_reducible rfl) ?_;refine aO 15 ?_;intro K hK
     go_simp;refine mr (HM.out _ bV) fun w5 hb=>?_;have hS5:=And.intro (hS.1.kept hb) (And.intro (hS.2.1.kept hb) (And.intro (hS.2.2.1.kept hb) (And.intro (hS.2.2.2.1.kept hb) (hS.2.2.2.2.kept hb))))
     have F5:=F3.trans (aT.of hb (by omega));clear hb HM bV F3 hS;refine hK.out _ _ (fun _=>hS5) ?_;clear hK K;try simp only[Act.put,ar,an,am,ah,aj,ai]
     refine aK 17 hS5 ?_;refine aK 18 hS5 ?_;refine aK 19 hS5 ?_;refine aK 20 hS5 ?_;refine aw.done (by kernel_rfl) ?_ _;go_wp2;go_ret;exact⟨rfl,hS5.2.2.2.2,hS5.2.2.1,hS5.2.2.2.1,F5⟩
   .obtain rfl:D=false:=by
     rw[HD.out];exact decide_eq_false (by omega)
    clear HD;refine aK 0 hS ?_;refine aF 1 hS rfl (fun w0 h0=>by have c0:=h0.1.cell 1 rfl;go_simp;try with_reducible rfl) ?_;refine aK 2 hS ?_
    refine aF 3 hS rfl (fun w0 h0=>by have c0:=h0.1.cell 0 rfl;go_simp;try with_reducible rfl) ?_;refine aK 4 hS ?_
    refine aF 5 hS rfl (fun w0 h0=>by have c0:=h0.2.2.1.cell c HWd.out;go_simp;try with_reducible rfl) ?_;refine aK 6 hS ?_;refine aK 7 hS ?_;refine aK 8 hS ?_;refine aK 9 hS ?_
    refine aK 10 hS ?_;refine aK 11 hS ?_
    refine aF 12 hS rfl (fun w0 h0=>by have c0:=h0.2.2.2.1.cell 0 rfl;have c1:=h0.2.2.2.1.cell 1 rfl;have c2:=h0.2.2.2.1.cell 2 rfl;have c3:=h0.2.2.2.1.cell 3 rfl;have c4:=h0.2.2.2.1.cell 4 rfl;have c5:=h0.2.2.2.1.cell 5 rfl;have c6:=h0.2.2.2.1.cell 6 rfl;have c7:=h0.2.2.2.1.cell 7 rfl;have c8:=h0.2.2.2.1.cell 8 rfl;go_simp;try with_reducible rfl) ?_
    refine aK 13 hS ?_;refine aK 14 hS ?_;refine aF 16 hS rfl (fun w0 h0=>by have c0:=h0.2.1.cell 0 rfl;have c1:=h0.2.1.cell 1 rfl;go_simp;try with_reducible rfl) ?_;refine aO 15 ?_;intro K hK
    go_simp;refine mr (HM.out _ bV) fun w5 hb=>?_;have hS5:=And.intro (hS.1.kept hb) (And.intro (hS.2.1.kept hb) (And.intro (hS.2.2.1.kept hb) (And.intro (hS.2.2.2.1.kept hb) (hS.2.2.2.2.kept hb))))
    have F5:=F3.trans (aT.of hb (by omega));clear hb HM bV F3 hS;refine hK.out _ _ (fun _=>hS5) ?_;clear hK K;try simp only[Act.put,ar,an,am,ah,aj,ai]
    refine aK 17 hS5 ?_;refine aK 18 hS5 ?_;refine aK 19 hS5 ?_;refine aK 20 hS5 ?_;refine aw.done (by kernel_rfl) ?_ _;go_wp2;go_ret;exact⟨rfl,hS5.2.2.2.2,hS5.2.2.1,hS5.2.2.2.1,F5⟩
  .have h82:decide ((0:Int)<(i:Int).tmod 8)=true:=decide_eq_true (by rw[Int.tmod_eq_emod_of_nonneg (by omega)];omega)
   obtain rfl:D=true:=by
    rw[HD.out];exact decide_eq_true (by omega)
   clear HD;refine aK 0 hS ?_;refine aF 1 hS rfl (fun w0 h0=>by have c0:=h0.1.cell 1 rfl;go_simp;try with_reducible rfl) ?_;refine aK 2 hS ?_
   refine aF 3 hS rfl (fun w0 h0=>by have c0:=h0.1.cell 0 rfl;go_simp;try with_reducible rfl) ?_;refine aK 4 hS ?_
   refine aF 5 hS rfl (fun w0 h0=>by have c0:=h0.2.2.1.cell c HWd.out;go_simp;try with_reducible rfl) ?_;refine aK 6 hS ?_;refine aK 7 hS ?_;refine aK 8 hS ?_;refine aK 9 hS ?_
   refine aK 10 hS ?_;refine aK 11 hS ?_;refine aS 12 hS ?_;refine aS 13 hS ?_;refine aS 14 hS ?_;refine aS 15 hS ?_;refine aS 16 hS ?_;refine aS 17 hS ?_;refine aK 18 hS ?_
   refine aK 19 hS ?_;refine aK 20 hS ?_;refine aw.done (by kernel_rfl) ?_ _;go_wp2;go_ret;exact⟨rfl,hS.2.2.2.2,hS.2.2.1,hS.2.2.2.1,F3⟩
 .have hq2:decide ((o:Int)<(q:Int))=false:=decide_eq_false (by omega);have hq3:decide (o<q)=false:=decide_eq_false hq
  obtain rfl:D=false:=by
   rw[HD.out];exact decide_eq_false (by omega)
  clear HD;refine aK 0 hS ?_;refine aF 1 hS rfl (fun w0 h0=>by have c0:=h0.1.cell 1 rfl;go_simp;try with_reducible rfl) ?_;refine aK 2 hS ?_
  refine aF 3 hS rfl (fun w0 h0=>by have c0:=h0.1.cell 0 rfl;go_simp;try with_reducible rfl) ?_;refine aK 4 hS ?_
  refine aF 5 hS rfl (fun w0 h0=>by have c0:=h0.2.2.1.cell c HWd.out;go_simp;try with_reducible rfl) ?_;refine aK 6 hS ?_;refine aK 7 hS ?_;refine aS 8 hS ?_;refine aS 9 hS ?_
  refine aS 10 hS ?_;refine aS 11 hS ?_;refine aS 12 hS ?_;refine aS 13 hS ?_;refine aS 14 hS ?_;refine aS 15 hS ?_;refine aS 16 hS ?_;refine aS 17 hS ?_;refine aS 18 hS ?_
  refine aK 19 hS ?_;refine aK 20 hS ?_;refine aw.done (by kernel_rfl) ?_ _;go_wp2;go_ret;exact⟨rfl,hS.2.2.2.2,hS.2.2.1,hS.2.2.2.1,F3⟩
theorem tF(a:aP)(h:kOk8 a=true):∃m,CK a m:=by
 obtain⟨m,h1,h2,h3,h4,e⟩:=tE a h;have:=uE m (kBX8 a) h2 h4;rw[<-e]at this;exact⟨m,this⟩
theorem mM{b:Bool}(h:b=true->False):b=false:=by
 cases b with
 | false=>rfl
 | true=>exact absurd rfl (fun e=>h e)
theorem Hl(a:aP)(m:Nat)(h:CK a m):gA a=true:=by
 unfold gA;refine decide_eq_true ?_;rw[h.nN,Int.toNat_natCast];exact⟨⟨by omega,by have:=h.le;omega⟩,h.ic,h.oc,h.nV,h.nk,h.sl,h.tl⟩
theorem Gn(a:aP)(h:gA a=false):kOk8 a=false:=mM fun hk=>by
 obtain⟨m,c⟩:=tF a hk;rw[Hl a m c]at h;cases h
theorem Gj(a:aP)(h:gA a=true):∃m:Nat,a.N=m/\m<=1048576/\aQ a.k a.V a.M a.xs=true/\az a.L a.ys=true/\a.V=4/\a.k=(nb m:Int)/\a.S.length=gN m/\a.T.length=gN m:=by
 obtain⟨h1,h2,h3,h4,h5,h6,h7⟩:=of_decide_eq_true h;obtain⟨m,e⟩:=Int.eq_ofNat_of_zero_le h1.1;rw[e,Int.toNat_natCast]at h5 h6 h7;exact⟨m,e,by omega,h2,h3,h4,h5,h6,h7⟩
theorem Hk(a:aP)(m:Nat)(hN:a.N=m)(h:kOk8 a=true):CK a m:=by
 obtain⟨m',c⟩:=tF a h;have:=c.nN;obtain rfl:m=m':=by omega
 exact c
theorem EI(c o r:Nat)(ho:o<ch 15 c):(cnt (blk 15 c o%2^r) 15=c/\off (blk 15 c o%2^r) 15=o)↔blk 15 c o<2^r:=by
 have hb:=jG 15 c o;have hm:=Nat.mod_le (blk 15 c o) (2^r);have P:=Nat.two_pow_pos r;constructor
 .rintro⟨h1,h2⟩;have:=rf (blk 15 c o%2^r) 15;rw[h1,h2,Nat.mod_eq_of_lt (show blk 15 c o%2^r<2^15 by omega)]at this;rw[this];exact Nat.mod_lt _ P
 .intro h;rw[Nat.mod_eq_of_lt h];exact wA 15 c o ho
def lstK(xs:List Nat):Nat->Nat
 | 0=>0
 | i+1=>cls xs i
def lstO(L:Int)(ys xs:List Nat):Nat->Nat
 | 0=>0
 | i+1=>cOff L ys xs i
structure jk (cs:List Value) (a:aP) (w0:World) (gx gl i:Nat) (w:World):Prop where
 below:Below w0.heap.size w0 w
 x:aa w gx cs 59
 last:aa w gl [.int .i64 (lstK a.xs i:Nat),.int .u64 (lstO a.L a.ys a.xs i:Nat)] 150
 right:∀j,j<i->iE a.L a.ys a.xs j=0/\wO a j
theorem jk.keep{cs:List Value}{a:aP}{w0:World}{gx gl i hi:Nat}{w w':World}(h:jk cs a w0 gx gl i w)(h0:w0.heap.size<=hi)(h1:gx<hi)(h3:gl<hi)(hb:Below hi w w'):jk cs a w0 gx gl i w':=
 ⟨h.below.trans (hb.mono h0),h.x.keep hb h1,h.last.keep hb h3,h.right⟩
theorem lW(cs:List Value)(a:aP)(w:World)(h:ba w cs a):
  Qq 100 #[.agg cs.toArray] w (.bool (kOk8 a)):=by
 obtain⟨B,hB⟩:∃B,Hid (B=kOk8 a):=⟨_,rfl⟩;rw[<-hB.out]
 have HF:Hid (Qz w 153 #[.agg cs.toArray] (.bool (gA a))):=fun w0 hb=>AW cs a w0 (h.keep hb)
 have hmf:∀(fn:Fn) (first cap:Array Value) (w:World),(Instr.makeFunc fn first cap).run prog w=.ok (.func fn first cap) w:=fun _ _ _ _=>rfl;cases hf:gA a with
 | false=>
  obtain rfl:B=false:=by rw[hB.out];exact Gn a hf
  rw[hf]at HF;obtain⟨⟨ao,cap,qo,dap,so,sc,tO,tc,rfl,_⟩,_⟩:=h;obtain⟨N,k,V,M,xs,L,ys,S,T⟩:=a;dsimp only at *
  obtain⟨W,hW⟩:∃W,W=w.alloc (.cells #[.int .i64 N,.int .i64 k,.int .i64 V,.int .i64 M,.slice ao xs.length cap,.int .i64 L,.slice qo ys.length dap,.slice so S.length sc,.slice tO T.length tc] 59):=⟨_,rfl⟩
  have bW:=aY hW;clear hf hB;go_enter func100,ntmps100;go_wp2_with fail;rw[<-hW];refine mr (HF.out _ bW) fun w1 hb=>?_;have bw1:=bg bW hb;clear hW hb;go_wp2;go_ret;exact⟨rfl,bw1⟩
 | true=>
 rw[hf]at HF;obtain⟨m,e1,hm,ic,oc,e2,e3,sl,tl⟩:=Gj a hf;have hCK:Hid (B=true->CK a m):=fun hk=>Hk a m e1 (by rw[<-hB.out];exact hk);have hg:0<gN m:=by unfold gN;omega
 have HM:Hid (Qz w 154 #[.agg cs.toArray,.int .i64 0] (.agg #[.int .i64 (gi a.S 0),.int .i64 (gi a.T 0)])):=fun w0 hb=>pF cs a 0 w0 (h.keep hb) (by omega) (by omega)
 have HB:Hid (∀m',CK a m'->B=true):=fun m' c=>by
  rw[hB.out];obtain⟨⟨ao,cap,qo,dap,so,sc,tO,tc,_,_,_,f1,_,_,f2,_⟩,_⟩:=h;exact Hi a m' f1 f2 c
 have nbl:=iA m hm
 have HA:Hid (∀(gx gl:Nat) w1,gi a.S 0=0->gi a.T 0=0->jk cs a w gx gl 0 w1->w.heap.size<=gl->gl≠gx->gx<w1.heap.size->gl<w1.heap.size->
   Calls prog 131 #[.agg cs.toArray,.int .i64 0,.func (.func 155) #[] #[.pointer (some ⟨gl,0,none⟩),.pointer (some ⟨gx,0,none⟩)]] w1 fun e w'=>∃(q:Nat) (b:Bool),e=.returned (.tuple #[.agg #[.int .i64 (cOn a.xs q:Nat),.int .i64 (cAt a.xs q:Nat)],.bool b])/\q<=nb m/\(b=true->q=nb m/\jk cs a w gx gl (nb m) w')/\(b=false->B=false)/\aT w.heap.size w1.heap.size w1 w'):=by
  intro gx gl w1 s0 t0 hI l1 l2 l4 l6
  refine(ny cs a 0 (nb m) w.heap.size w1.heap.size 155 #[.pointer (some ⟨gl,0,none⟩),.pointer (some ⟨gx,0,none⟩)] (fun i w2=>jk cs a w gx gl i w2) (fun i _=>¬wO a i) w1 e3 e2 ic (by omega) (by omega) (by omega) s0 t0 hI.below.size (Nat.le_refl _) hI (fun i w2 hi=>h.keep hi.below) (fun i w2 w3 hi hb=>hi.keep hI.below.size l4 l6 hb) (fun i _ _ hi _=>hi) ?cf ?st).mono ?_
  case cf=>
   intro args w2;kernel_rfl
  case st=>
   intro i w2 _ hin hse hi2 hw2;have i8:i/8<gN m:=by unfold gN;omega
   refine(AX cs a i gl gx w.heap.size w1.heap.size _ w w2 h hi2.below rfl (by omega) (by omega) (by omega) hi2.last rfl hi2.x l2 l1 l6 hw2).mono ?_;rintro e w3 ⟨rfl,c1,c2,c3,fr⟩
   refine⟨_,rfl,fun hr=>?_,fun hr=>by have h:=of_decide_eq_false hr;exact h,fr⟩;have hr:=of_decide_eq_true hr;refine⟨hi2.below.trans fr.below,c3,c1,fun j hj=>?_⟩;by_cases c:j=i
   .subst c;exact⟨hse,hr⟩
   .exact hi2.right j (by omega)
  .rintro e w2 ⟨q,b,rfl,_,hq,h1,h2,fr⟩;refine⟨q,b,rfl,hq,h1,fun hb=>?_,fr⟩;obtain⟨hlt,h3⟩:=h2 hb;refine mM fun hk=>?_;have ck:=hCK.out hk;have ea:=ck.each q hlt;rcases h3 with⟨h3,_⟩ | ⟨_,h3⟩
   .exact h3 ea.1
   .exact h3 ea.2
 have HLa:Hid (∀gx gl w',jk cs a w gx gl (nb m) w'->lstO a.L a.ys a.xs (nb m)<ch 15 (lstK a.xs (nb m))):=by
  intro gx gl w' hI;by_cases c:nb m=0
  .rw[c];show 0<ch 15 0;rw[jg];decide
  .obtain⟨j,hj⟩:∃j,nb m=j+1:=⟨nb m-1,by omega⟩;rw[hj];exact(hI.right j (by omega)).2.1
 have HK1:Hid (∀gx gl w',jk cs a w gx gl (nb m) w'->gi a.S 0=0->gi a.T 0=0->(cAt a.xs (nb m):Int)=a.L->(B=true↔blk 15 (lstK a.xs (nb m)) (lstO a.L a.ys a.xs (nb m))<2^(15+m-15*nb m))):=by
  intro gx gl w' hI s0 t0 he;by_cases c:nb m=0
  .rw[c];refine⟨fun _=>?_,fun _=>HB.out m ⟨e1,hm,e3,e2,ic,oc,sl,tl,s0,t0,fun i hi=>by omega,he,fun h0=>by omega⟩⟩;show blk 15 0 0<_;rw[kh];exact Nat.two_pow_pos _
  .obtain⟨j,hj⟩:∃j,nb m=j+1:=⟨nb m-1,by omega⟩;have ex:15+m-15*nb m=m-15*(nb m-1):=by omega
   have el:blk 15 (lstK a.xs (nb m)) (lstO a.L a.ys a.xs (nb m))=jD a.L a.ys a.xs (nb m-1):=by rw[hj];rfl
   rw[ex,el];refine⟨fun hk=>(hCK.out hk).last (by omega),fun hl=>HB.out m ⟨e1,hm,e3,e2,ic,oc,sl,tl,s0,t0,fun i hi=>?_,he,fun _=>hl⟩⟩;obtain⟨r1,r2,r3⟩:=hI.right i hi;exact⟨r1,r2,r3⟩
 have lkb:lstK a.xs (nb m)<=15:=by
  cases nb m with
  | zero=>exact Nat.zero_le _
  | succ j=>exact iK _ _
 have rb:15+m-15*nb m<=15:=by unfold nb;omega
 have rb2:((15+m-15*nb m:Nat):Int)=(m:Int)-15*((nb m:Int)-1):=by unfold nb;omega
 obtain⟨⟨ao,cap,qo,dap,so,sc,tO,tc,rfl,⟨_,_,_,_,hL64,_,_⟩,_⟩,_⟩:=h;obtain⟨N,k,V,M,xs,L,ys,S,T⟩:=a;dsimp only at *;subst e1 e2 e3
 obtain⟨W,hW⟩:∃W,W=w.alloc (.cells #[.int .i64 m,.int .i64 (nb m:Nat),.int .i64 4,.int .i64 M,.slice ao xs.length cap,.int .i64 L,.slice qo ys.length dap,.slice so S.length sc,.slice tO T.length tc] 59):=⟨_,rfl⟩
 have bW:=aY hW;have B1:=bj hW;clear hf hB HB sl tl
 have HC0:Hid (gi S 0≠0\/gi T 0≠0->B=false):=fun hn=>mM fun hk=>by
  have ck:=hCK.out hk;have:=ck.s0;have:=ck.t0;dsimp only at *;omega
 have HC1:Hid ((cAt xs (nb m):Int)≠L->B=false):=fun hn=>mM fun hk=>hn (hCK.out hk).done;clear hCK;generalize gi S 0=s0 at *;generalize gi T 0=t0 at *;go_enter func100,ntmps100;go_wp2_with fail
 rw[<-hW];refine mr (HF.out _ bW) fun w1 hb=>?_;have bw1:=bg bW hb;replace B1:=B1.kept hb;clear hW hb HF bW;have q0:=B1.cell 0 rfl;have q1:=B1.cell 1 rfl;have q2:=B1.cell 2 rfl
 have q3:=B1.cell 3 rfl;have q4:=B1.cell 4 rfl;have q5:=B1.cell 5 rfl;have q6:=B1.cell 6 rfl;have q7:=B1.cell 7 rfl;have q8:=B1.cell 8 rfl;go_wp2_with fail;refine mr (HM.out _ bw1) fun w2 hb=>?_
 have bw2:=bg bw1 hb;replace B1:=B1.kept hb;clear hb HM bw1 q0 q1 q2 q3 q4 q5 q6 q7 q8;by_cases z1:s0=0
 .by_cases z2:t0=0
  .subst z1 z2;have lt1:=B1.lt;have z3:=bw2.size;have q0:=B1.cell 0 rfl;have q1:=B1.cell 1 rfl;have q2:=B1.cell 2 rfl;have q3:=B1.cell 3 rfl;have q4:=B1.cell 4 rfl;have q5:=B1.cell 5 rfl;have q6:=B1.cell 6 rfl
   have q7:=B1.cell 7 rfl;have q8:=B1.cell 8 rfl;have l0:=B1.lt;obtain⟨W6,hW6⟩:∃W6,W6=w2.alloc (.cells #[.int .i64 0,.int .u64 0] 150):=⟨_,rfl⟩
   have hb6:Below w2.heap.size w2 W6:=by rw[hW6];exact below_alloc w2 _
   have bw6:=bg bw2 hb6;have z6:W6.heap.size=w2.heap.size+1:=by rw[hW6];simp
   have B5:aa W6 w2.heap.size [.int .i64 0,.int .u64 0] 150:=by rw[hW6];exact aa.new w2 _ _
   replace B1:=B1.kept hb6
   have CI:Hid (jk [.int .i64 m,.int .i64 (nb m:Nat),.int .i64 4,.int .i64 M,.slice ao xs.length cap,.int .i64 L,.slice qo ys.length dap,.slice so S.length sc,.slice tO T.length tc] ⟨m,nb m,4,M,xs,L,ys,S,T⟩ w w.heap.size w2.heap.size 0 W6):=⟨bw6,B1,B5,fun j hj=>absurd hj (Nat.not_lt_zero j)⟩
   have CIb:Hid (Below w.heap.size w W6):=bw6;clear hb6 bw6 B5 B1;go_wp2_with fail;rw[<-hW6];refine(HA.out w.heap.size w2.heap.size W6 (by simp) (by simp) CI.out (by omega) (by omega) (by omega) (by omega)).mono ?_
   clear q0 q1 q2 q3 q4 q5 q6 q7 q8 hW6 HA CI HC0 bw2;rintro e w7 ⟨q,b,rfl,hq,h1,h2,fr⟩;cases b with
   | false=>
    obtain rfl:B=false:=h2 rfl;have bw7:=fr.below;have HBW:Hid (Below w.heap.size w w7):=CIb.out.trans bw7;clear HC1 HK1 HLa h1 h2 fr bw7;go_wp2;refine bm [] (fun w'=>True) (by kernel_rfl) ?_
    have hS:True:=trivial;have bV:Below w.heap.size w (w7.alloc (.cells #[.int .i64 (cOn xs q:Nat),.int .i64 (cAt xs q:Nat)] 137)).drew:=(HBW.out.alloc HBW.out.size _).drew
    generalize (w7.alloc (.cells #[.int .i64 (cOn xs q:Nat),.int .i64 (cAt xs q:Nat)] 137)).drew=Y at *;refine aK 0 hS ?_;refine aK 1 hS ?_;refine aS 2 hS ?_;refine aS 3 hS ?_;refine aS 4 hS ?_
    refine aS 5 hS ?_;refine aS 6 hS ?_;refine aS 7 hS ?_;refine aK 8 hS ?_;refine aK 9 hS ?_;refine aS 10 hS ?_;refine aS 11 hS ?_;refine aS 12 hS ?_;refine aS 13 hS ?_
    refine aS 14 hS ?_;refine aS 15 hS ?_;refine aS 16 hS ?_;refine aS 17 hS ?_;refine aS 18 hS ?_;refine aS 19 hS ?_;refine aS 20 hS ?_;refine aS 21 hS ?_;refine aK 22 hS ?_
    refine aK 23 hS ?_;refine aw.done (by kernel_rfl) ?_ _;go_wp2;go_ret;exact⟨rfl,bV⟩
   | true=>
    obtain⟨rfl,ci⟩:=h1 rfl;have bw7:=fr.below;have HBW:Hid (Below w.heap.size w w7):=CIb.out.trans bw7;have HO:=HLa.out _ _ _ ci
    have HKK:Hid ((cAt xs (nb m):Int)=L->(B=true↔blk 15 (lstK xs (nb m)) (lstO L ys xs (nb m))<2^(15+m-15*nb m))):=fun e=>HK1.out _ _ _ ci (by simp) (by simp) e
    have u1:IntKind.i64.wrap ((nb m:Int)-1)=(nb m:Int)-1:=by rw[IntKind.wrap_i64];omega
    have u2:IntKind.i64.wrap (15*((nb m:Int)-1))=15*((nb m:Int)-1):=by rw[IntKind.wrap_i64];omega
    have u3:IntKind.i64.wrap ((m:Int)-15*((nb m:Int)-1))=((15+m-15*nb m:Nat):Int):=by rw[IntKind.wrap_i64,rb2];omega
    have HWn:Hid (∀w0,Qq 156 #[.agg #[.int .i64 (lstK xs (nb m):Nat),.int .u64 (lstO L ys xs (nb m):Nat)],.int .i64 ((15+m-15*nb m:Nat):Int)] w0 (.agg #[.int .i64 (cnt (blk 15 (lstK xs (nb m)) (lstO L ys xs (nb m))%2^(15+m-15*nb m)) 15:Nat),.int .u64 (off (blk 15 (lstK xs (nb m)) (lstO L ys xs (nb m))%2^(15+m-15*nb m)) 15:Nat)])):=fun w0=>AG _ _ _ lkb HO (by omega) w0
    have HLI:Hid ((cnt (blk 15 (lstK xs (nb m)) (lstO L ys xs (nb m))%2^(15+m-15*nb m)) 15=lstK xs (nb m)/\off (blk 15 (lstK xs (nb m)) (lstO L ys xs (nb m))%2^(15+m-15*nb m)) 15=lstO L ys xs (nb m))↔blk 15 (lstK xs (nb m)) (lstO L ys xs (nb m))<2^(15+m-15*nb m)):=EI _ _ _ HO
    have B1:=ci.x;have B5:=ci.last;dsimp only at B5;clear HLa HK1 h1 h2 fr bw7 ci HO rb rb2 ic;generalize cnt (blk 15 (lstK xs (nb m)) (lstO L ys xs (nb m))%2^(15+m-15*nb m)) 15=K at *
    generalize off (blk 15 (lstK xs (nb m)) (lstO L ys xs (nb m))%2^(15+m-15*nb m)) 15=O at *;generalize (blk 15 (lstK xs (nb m)) (lstO L ys xs (nb m))<2^(15+m-15*nb m))=Pr at *
    generalize 15+m-15*nb m=r at *;generalize lstK xs (nb m)=lk at *;generalize lstO L ys xs (nb m)=lo at *;generalize cAt xs (nb m)=pe at *;generalize cOn xs (nb m)=po at *;generalize nb m=n at *;go_wp2
    have hb8:=below_alloc w7 (.cells #[.int .i64 po,.int .i64 pe] 137);have B6:=aa.new w7 [.int .i64 po,.int .i64 pe] 137;replace B1:=B1.kept hb8;replace B5:=B5.kept hb8
    have bV:Below w.heap.size w (w7.alloc (.cells #[.int .i64 po,.int .i64 pe] 137)).drew:=(HBW.out.alloc HBW.out.size _).drew
    refine bm [] (fun w'=>aa w' w.heap.size [.int .i64 m,.int .i64 n,.int .i64 4,.int .i64 M,.slice ao xs.length cap,.int .i64 L,.slice qo ys.length dap,.slice so S.length sc,.slice tO T.length tc] 59/\aa w' w7.heap.size [.int .i64 po,.int .i64 pe] 137/\aa w' w2.heap.size [.int .i64 lk,.int .u64 lo] 150) (by kernel_rfl) ?_
    have hS:aa (w7.alloc (.cells #[.int .i64 po,.int .i64 pe] 137)).drew w.heap.size [.int .i64 m,.int .i64 n,.int .i64 4,.int .i64 M,.slice ao xs.length cap,.int .i64 L,.slice qo ys.length dap,.slice so S.length sc,.slice tO T.length tc] 59/\aa (w7.alloc (.cells #[.int .i64 po,.int .i64 pe] 137)).drew w7.heap.size [.int .i64 po,.int .i64 pe] 137/\aa (w7.alloc (.cells #[.int .i64 po,.int .i64 pe] 137)).drew w2.heap.size [.int .i64 lk,.int .u64 lo] 150:=⟨B1,B6,B5⟩
    clear B1 B5 B6 hb8;generalize (w7.alloc (.cells #[.int .i64 po,.int .i64 pe] 137)).drew=Y at *;by_cases pl:(pe:Int)=L
    .have pl2:((pe:Int)==L)=true:=by simpa using pl
     have HP:=HKK.out pl;by_cases pr:Pr
     .obtain rfl:B=true:=HP.2 pr;obtain⟨k1,k2⟩:=HLI.out.2 pr;have k3:(lk:Int)=(K:Int):=by omega
      have k4:(lo:Int)=(O:Int):=by omega
      subst k1 k2;clear k3 k4 HP HKK HLI;refine aK 0 hS ?_;refine aK 1 hS ?_;refine aK 2 hS ?_;refine aF 3 hS rfl (fun w0 h0=>by have c0:=h0.2.1.cell 1 rfl;go_simp;try with_reducible rfl) ?_
      refine aK 4 hS ?_;refine aK 5 hS ?_;refine aF 6 hS rfl (fun w0 h0=>by have c0:=h0.1.cell 5 rfl;go_simp;try with_reducible rfl) ?_;refine aK 7 hS ?_;refine aK 8 hS ?_;refine aK 9 hS ?_
      refine aF 10 hS rfl (fun w0 h0=>by have c0:=h0.2.2.cell 0 rfl;have c1:=h0.2.2.cell 1 rfl;go_simp;try with_reducible rfl) ?_
      refine aF 11 hS rfl (fun w0 h0=>by have c0:=h0.2.2.cell 0 rfl;have c1:=h0.2.2.cell 1 rfl;go_simp;try with_reducible rfl) ?_;refine aK 12 hS ?_
      refine aF 13 hS rfl (fun w0 h0=>by have c0:=h0.1.cell 0 rfl;go_simp;try with_reducible rfl) ?_;refine aK 14 hS ?_;refine aK 15 hS ?_
      refine aF 16 hS rfl (fun w0 h0=>by have c0:=h0.1.cell 1 rfl;go_simp;try with_reducible rfl) ?_;refine aK 17 hS ?_;refine aK 18 hS ?_;refine aK 19 hS ?_;refine aO 20 ?_;intro K hK;go_simp
      refine mr (HWn.out _) fun w9 hb=>?_;have hS9:=And.intro (hS.1.kept hb) (And.intro (hS.2.1.kept hb) (hS.2.2.kept hb));have bw9:=bg bV hb;clear hb hS bV HWn
      refine hK.out _ _ (fun _=>hS9) ?_;clear hK K;try simp only[Act.put,ar,an,am,ah,aj,ai]
      refine aK 21 hS9 ?_;refine aK 22 hS9 ?_;refine aK 23 hS9 ?_;refine aw.done (by kernel_rfl) ?_ _;go_wp2;go_ret;exact⟨rfl,bw9⟩
     .obtain rfl:B=false:=mM fun hk=>pr (HP.1 hk);have kn:¬(K=lk/\O=lo):=fun hk=>pr (HLI.out.1 hk);by_cases k1:lk=K
      .have k2:¬(lo:Int)=(O:Int):=by omega
       have k3:¬lo=O:=by omega
       subst k1;clear HP HKK HLI kn;refine aK 0 hS ?_;refine aK 1 hS ?_;refine aK 2 hS ?_;refine aF 3 hS rfl (fun w0 h0=>by have c0:=h0.2.1.cell 1 rfl;go_simp;try with_reducible rfl) ?_
       refine aK 4 hS ?_;refine aK 5 hS ?_;refine aF 6 hS rfl (fun w0 h0=>by have c0:=h0.1.cell 5 rfl;go_simp;try with_reducible rfl) ?_;refine aK 7 hS ?_;refine aK 8 hS ?_
       refine aK 9 hS ?_;refine aF 10 hS rfl (fun w0 h0=>by have c0:=h0.2.2.cell 0 rfl;have c1:=h0.2.2.cell 1 rfl;go_simp;try with_reducible rfl) ?_
       refine aF 11 hS rfl (fun w0 h0=>by have c0:=h0.2.2.cell 0 rfl;have c1:=h0.2.2.cell 1 rfl;go_simp;try with_reducible rfl) ?_;refine aK 12 hS ?_
       refine aF 13 hS rfl (fun w0 h0=>by have c0:=h0.1.cell 0 rfl;go_simp;try with_reducible rfl) ?_;refine aK 14 hS ?_;refine aK 15 hS ?_
       refine aF 16 hS rfl (fun w0 h0=>by have c0:=h0.1.cell 1 rfl;go_simp;try with_reducible rfl) ?_;refine aK 17 hS ?_;refine aK 18 hS ?_;refine aK 19 hS ?_;refine aO 20 ?_;intro K hK;go_simp
       refine mr (HWn.out _) fun w9 hb=>?_;have hS9:=And.intro (hS.1.kept hb) (And.intro (hS.2.1.kept hb) (hS.2.2.kept hb));have bw9:=bg bV hb;clear hb hS bV HWn
       refine hK.out _ _ (fun _=>hS9) ?_;clear hK K;try simp only[Act.put,ar,an,am,ah,aj,ai]
       refine aK 21 hS9 ?_;refine aK 22 hS9 ?_;refine aK 23 hS9 ?_;refine aw.done (by kernel_rfl) ?_ _;go_wp2;go_ret;exact⟨rfl,bw9⟩
      .have k2:¬(lk:Int)=(K:Int):=by omega
       clear HP HKK HLI kn;refine aK 0 hS ?_;refine aK 1 hS ?_;refine aK 2 hS ?_;refine aF 3 hS rfl (fun w0 h0=>by have c0:=h0.2.1.cell 1 rfl;go_simp;try with_reducible rfl) ?_
       refine aK 4 hS ?_;refine aK 5 hS ?_;refine aF 6 hS rfl (fun w0 h0=>by have c0:=h0.1.cell 5 rfl;go_simp;try with_reducible rfl) ?_;refine aK 7 hS ?_;refine aK 8 hS ?_
       refine aK 9 hS ?_;refine aF 10 hS rfl (fun w0 h0=>by have c0:=h0.2.2.cell 0 rfl;have c1:=h0.2.2.cell 1 rfl;go_simp;try with_reducible rfl) ?_
       refine aF 11 hS rfl (fun w0 h0=>by have c0:=h0.2.2.cell 0 rfl;have c1:=h0.2.2.cell 1 rfl;go_simp;try with_reducible rfl) ?_;refine aK 12 hS ?_
       refine aF 13 hS rfl (fun w0 h0=>by have c0:=h0.1.cell 0 rfl;go_simp;try with_reducible rfl) ?_;refine aK 14 hS ?_;refine aK 15 hS ?_
       refine aF 16 hS rfl (fun w0 h0=>by have c0:=h0.1.cell 1 rfl;go_simp;try with_reducible rfl) ?_;refine aK 17 hS ?_;refine aK 18 hS ?_;refine aK 19 hS ?_;refine aO 20 ?_;intro K hK;go_simp
       refine mr (HWn.out _) fun w9 hb=>?_;have hS9:=And.intro (hS.1.kept hb) (And.intro (hS.2.1.kept hb) (hS.2.2.kept hb));have bw9:=bg bV hb;clear hb hS bV HWn
       refine hK.out _ _ (fun _=>hS9) ?_;clear hK K;try simp only[Act.put,ar,an,am,ah,aj,ai]
       refine aK 21 hS9 ?_;refine aK 22 hS9 ?_;refine aK 23 hS9 ?_;refine aw.done (by kernel_rfl) ?_ _;go_wp2;go_ret;exact⟨rfl,bw9⟩
    .have pl2:((pe:Int)==L)=false:=by simpa using pl
     obtain rfl:B=false:=HC1.out pl;clear HKK HLI;refine aK 0 hS ?_;refine aK 1 hS ?_;refine aK 2 hS ?_
     refine aF 3 hS rfl (fun w0 h0=>by have c0:=h0.2.1.cell 1 rfl;go_simp;try with_reducible rfl) ?_;refine aK 4 hS ?_;refine aK 5 hS ?_
     refine aF 6 hS rfl (fun w0 h0=>by have c0:=h0.1.cell 5 rfl;go_simp;try with_reducible rfl) ?_;refine aK 7 hS ?_;refine aK 8 hS ?_;refine aK 9 hS ?_;refine aS 10 hS ?_;refine aS 11 hS ?_
     refine aS 12 hS ?_;refine aS 13 hS ?_;refine aS 14 hS ?_;refine aS 15 hS ?_;refine aS 16 hS ?_;refine aS 17 hS ?_;refine aS 18 hS ?_;refine aS 19 hS ?_;refine aS 20 hS ?_
     refine aS 21 hS ?_;refine aK 22 hS ?_;refine aK 23 hS ?_;refine aw.done (by kernel_rfl) ?_ _;go_wp2;go_ret;exact⟨rfl,bV⟩
  .obtain rfl:B=false:=HC0.out (.inr z2);clear HC0 HC1 HK1 HLa HA;go_wp2;go_ret;exact⟨rfl,bw2⟩
 .obtain rfl:B=false:=HC0.out (.inl z1);clear HC0 HC1 HK1 HLa HA;go_wp2;go_ret;exact⟨rfl,bw2⟩
structure KV (a:aP) (m:Nat) (X:List Nat):Prop where
 nN:a.N=m
 nk:a.k=nb m
 nV:a.V=4
 le:m<=1048576
 ic:aQ a.k a.V a.M a.xs=true
 sl:a.S.length=gN m
 tl:a.T.length=gN m
 fit:aA X
 ck:az (m:Int) X=true
 cl:∀i,i<nb m->cls a.xs i=bcl m (bitAt X) i
 on:∀i,i<=nb m->cOn a.xs i=bon m (bitAt X) i
 se:∀i,i<nb m->iE a.L a.ys a.xs i=0
 off:∀i,i<nb m->cOff a.L a.ys a.xs i<ch 15 (cls a.xs i)
 wd:∀i,i<nb m->blk 15 (cls a.xs i) (cOff a.L a.ys a.xs i)=blv m (bitAt X) i
 gs:∀g,g<gN m->gi a.S g=cOn a.xs (8*g)
 gt:∀g,g<gN m->gi a.T g=cAt a.xs (8*g)
theorem nJ(a:aP)(h:kOk8 a=true):∃m:Nat,kBN8 a=(m:Int)/\KV a m (kBX8 a):=by
 obtain⟨m,h1,h2,h3,h4,e⟩:=tE a h;have c:=uE m (kBX8 a) h2 h4;obtain⟨r1,r2,r3⟩:=uD m (kBX8 a) h2 h4;have k:=og m (kBX8 a) h4;rw[<-e]at c;rw[<-e]at k
 have exs:a.xs=rC m (bitAt (kBX8 a)):=congrArg aP.xs k;have eys:a.ys=rO m (bitAt (kBX8 a)):=congrArg aP.ys k;have eL:a.L=(bat m (bitAt (kBX8 a)) (nb m):Int):=congrArg aP.L k
 refine⟨m,h1,c.nN,c.nk,c.nV,h2,c.ic,c.sl,c.tl,h3,h4,?_,?_,?_,?_,?_,?_,?_⟩
 .intro i hi;rw[exs];exact r1 i hi
 .intro i hi;rw[exs];exact(r2 i hi).2
 .intro i hi;exact(c.each i hi).1
 .intro i hi;exact(c.each i hi).2.1
 .intro i hi;rw[exs,eys,eL];exact(r3 i hi).2.2
 .intro g hg;by_cases z:g=0
  .subst z;exact c.s0
  .have h8:=lj m g hg z;have:=((c.each (8*g) h8).2.2 (by omega)).1;rw[show 8*g/8=g by omega]at this;exact this
 .intro g hg;by_cases z:g=0
  .subst z;exact c.t0
  .have h8:=lj m g hg z;have:=((c.each (8*g) h8).2.2 (by omega)).2;rw[show 8*g/8=g by omega]at this;exact this
theorem zQ{fn:Func}{p u:Tmp}{T U:TypeId}{w:World}{tmps:Array Value}(h:fn.results=#[.cell p T,.cell u U])(g k:Nat)(cs ds:List Value){fs gs:Array Field}(hp:tmps.getD p undef=.pointer (some ⟨g,0,none⟩))(hu:tmps.getD u undef=.pointer (some ⟨k,0,none⟩))(hc:aa w g cs T)(hd:aa w k ds U)(h1:prog.underlying T=some (.struct fs))(h2:prog.underlying U=some (.struct gs))(i1:(prog.info? T).map (·.size)=some cs.length)(i2:(prog.info? U).map (·.size)=some ds.length):
  (results fn tmps).run prog w=.ok (.tuple #[.agg cs.toArray,.agg ds.toArray]) w:=by
 have hp':tmps[p]?.getD undef=.pointer (some ⟨g,0,none⟩):=by simpa using hp
 have hu':tmps[u]?.getD undef=.pointer (some ⟨k,0,none⟩):=by simpa using hu
 have hl:=run_loadVar_row (P:=prog) w g T T cs.toArray (0,0) _ hc h1 rfl (by simpa using i1);have hm:=run_loadVar_row (P:=prog) w k U U ds.toArray (0,0) _ hd h2 rfl (by simpa using i2)
 simp[results,h,hp',hu',asAddr,hl,hm]
theorem rQ{l:List Value}(h:l.length=2):∃v0 v1,l=[v0,v1]:=by
 match l,h with
 | [v0,v1],_=>exact⟨v0,v1,rfl⟩
theorem A0(j c o s p i gf gb gi lo hi:Nat)(of ob:List Value)(w:World)(hof:of.length=2)(hob:ob.length=2)
  (hcf:aa w gf of 150) (hcb:aa w gb ob 137) (hci:aa w gi [.int .i64 i] 3) (h1:gf≠gb) (h2:gf≠gi) (h3:gb≠gi) (l1:lo<=gf) (l2:lo<=gb) (l3:gf<hi) (l4:gb<hi) (l5:hi<=w.heap.size) (l6:lo<=w.heap.size):
  Calls prog 157 #[.int .i64 j,.agg #[.int .i64 c,.int .u64 o],.agg #[.int .i64 s,.int .i64 p],.pointer (some ⟨gf,0,none⟩),.pointer (some ⟨gb,0,none⟩),.pointer (some ⟨gi,0,none⟩)] w
   fun e w'=>e=.returned (.bool (decide (j<i)))/\aa w' gf [.int .i64 c,.int .u64 o] 150/\aa w' gb [.int .i64 s,.int .i64 p] 137/\aa w' gi [.int .i64 i] 3/\aT lo hi w w'/\(∀b,b≠gf->b≠gb->b<w.heap.size->w'.heap[b]?=w.heap[b]?):=by
 obtain⟨v0,v1,rfl⟩:=rQ hof;obtain⟨u0,u1,rfl⟩:=rQ hob
 obtain⟨W,hW⟩:∃W,W=(w.alloc (.cells #[.int .i64 c,.int .u64 o] 150)).alloc (.cells #[.int .i64 s,.int .i64 p] 137):=⟨_,rfl⟩;have bW:=db hW;have B1:=dh hW;have B2:=cQ hW
 have F1:aT lo hi w W:=aT.of bW l6;replace hcf:=hcf.kept bW;replace hcb:=hcb.kept bW;replace hci:=hci.kept bW;go_enter func157,ntmps157;go_wp2;rw[<-hW]
 refine bm [3] (fun w'=>aa w' w.heap.size [.int .i64 c,.int .u64 o] 150/\aa w' (w.heap.size+1) [.int .i64 s,.int .i64 p] 137) (by kernel_rfl) ?_
 have hS:aa W.drew w.heap.size [.int .i64 c,.int .u64 o] 150/\aa W.drew (w.heap.size+1) [.int .i64 s,.int .i64 p] 137:=⟨B1,B2⟩;replace hcf:aa W.drew gf [v0,v1] 150:=hcf
 replace hcb:aa W.drew gb [u0,u1] 137:=hcb;replace hci:aa W.drew gi [.int .i64 i] 3:=hci;replace F1:aT lo hi w W.drew:=F1.trans (aT.of (Below.refl _ _).drew (by have:=bW.size;omega))
 have G1:∀b,b<w.heap.size->W.drew.heap[b]?=w.heap[b]?:=fun b hb=>bW.block b hb;generalize W.drew=Y at *;clear B1 B2 hW bW
 refine aF 0 hS rfl (fun w0 h0=>by have c0:=h0.1.cell 0 rfl;have c1:=h0.1.cell 1 rfl;go_simp;try with_reducible rfl) ?_
 refine aF 1 hS rfl (fun w0 h0=>by have c0:=h0.2.cell 0 rfl;have c1:=h0.2.cell 1 rfl;go_simp;try with_reducible rfl) ?_;refine aO 2 ?_;intro K hK;have f0:=hcf.frozen 0;have f1:=hcf.frozen 1
 have n0:=hcf.cell 0 rfl;have n1:=hcf.cell 1 rfl;go_simp
 refine hK.out _ _ (fun _=>⟨(hS.1.other (by show w.heap.size≠gf;omega) _).other (by show w.heap.size≠gf;omega) _,(hS.2.other (by show w.heap.size+1≠gf;omega) _).other (by show w.heap.size+1≠gf;omega) _⟩) ?_
 clear hK K f0 f1 n0 n1;have F2:aT lo hi w ((Y.setCell ⟨gf,0,none⟩ (.int .i64 c)).setCell ⟨gf,1,none⟩ (.int .u64 o)):=F1.trans ((((aB.refl gf Y).set 0 _).set 1 _).fr l1 l3)
 replace hcf:aa ((Y.setCell ⟨gf,0,none⟩ (.int .i64 c)).setCell ⟨gf,1,none⟩ (.int .u64 o)) gf [.int .i64 c,.int .u64 o] 150:=(hcf.set 0 _).set 1 _
 replace hcb:=(hcb.other (a:=⟨gf,0,none⟩) (Ne.symm h1) (.int .i64 c)).other (a:=⟨gf,1,none⟩) (Ne.symm h1) (.int .u64 o)
 replace hci:=(hci.other (a:=⟨gf,0,none⟩) (Ne.symm h2) (.int .i64 c)).other (a:=⟨gf,1,none⟩) (Ne.symm h2) (.int .u64 o)
 replace G1:∀b,b≠gf->b<w.heap.size->((Y.setCell ⟨gf,0,none⟩ (.int .i64 c)).setCell ⟨gf,1,none⟩ (.int .u64 o)).heap[b]?=w.heap[b]?:=fun b hb hl=>((((aB.refl gf Y).set 0 _).set 1 _).block b hb).trans (G1 b hl)
 generalize (Y.setCell ⟨gf,0,none⟩ (.int .i64 c)).setCell ⟨gf,1,none⟩ (.int .u64 o)=Z at *;try simp only[Act.put,ar,an,am,ah,aj,ai]
 refine aO 3 ?_;intro K hK;have f0:=hcb.frozen 0;have f1:=hcb.frozen 1;have n0:=hcb.cell 0 rfl;have n1:=hcb.cell 1 rfl;go_simp;refine hK.out _ _ (fun h=>absurd (by decide) h) ?_;clear hK K
 try simp only[Act.put,ar,an,am,ah,aj,ai]
 refine aw.done (by kernel_rfl) ?_ _;clear f0 f1 n0 n1
 have F3:aT lo hi w ((Z.setCell ⟨gb,0,none⟩ (.int .i64 s)).setCell ⟨gb,1,none⟩ (.int .i64 p)):=F2.trans ((((aB.refl gb Z).set 0 _).set 1 _).fr l2 l4)
 replace hcb:aa ((Z.setCell ⟨gb,0,none⟩ (.int .i64 s)).setCell ⟨gb,1,none⟩ (.int .i64 p)) gb [.int .i64 s,.int .i64 p] 137:=(hcb.set 0 _).set 1 _
 replace hcf:=(hcf.other (a:=⟨gb,0,none⟩) h1 (.int .i64 s)).other (a:=⟨gb,1,none⟩) h1 (.int .i64 p)
 replace hci:=(hci.other (a:=⟨gb,0,none⟩) (Ne.symm h3) (.int .i64 s)).other (a:=⟨gb,1,none⟩) (Ne.symm h3) (.int .i64 p)
 replace G1:∀b,b≠gf->b≠gb->b<w.heap.size->((Z.setCell ⟨gb,0,none⟩ (.int .i64 s)).setCell ⟨gb,1,none⟩ (.int .i64 p)).heap[b]?=w.heap[b]?:=fun b hb hb2 hl=>((((aB.refl gb Z).set 0 _).set 1 _).block b hb2).trans (G1 b hb hl)
 generalize (Z.setCell ⟨gb,0,none⟩ (.int .i64 s)).setCell ⟨gb,1,none⟩ (.int .i64 p)=Z2 at *;have m0:=hci.cell 0 rfl
 have HH:Hid (aa Z2 gf [.int .i64 c,.int .u64 o] 150/\aa Z2 gb [.int .i64 s,.int .i64 p] 137/\aa Z2 gi [.int .i64 i] 3/\aT lo hi w Z2/\(∀b,b≠gf->b≠gb->b<w.heap.size->Z2.heap[b]?=w.heap[b]?)):=⟨hcf,hcb,hci,F3,G1⟩
 clear G1 hcf hcb hci F3 F2 F1 hS;go_wp2;go_ret;exact⟨cY (by simp),HH.out⟩
structure lK (w0:World) (i gf gb gi gr j:Nat) (w:World):Prop where
 below:Below w0.heap.size w0 w
 le:j<=i
 f:∃l,aa w gf l 150/\l.length=2
 b:∃l,aa w gb l 137/\l.length=2
 i:aa w gi [.int .i64 i] 3
 r1:aa w gr [.int .i64 0,.int .u64 0] 150
 r2:aa w (gr+1) [.int .i64 0,.int .i64 0] 137
theorem lK.keep{w0:World}{i gf gb gi gr j hi:Nat}{w w':World}(h:lK w0 i gf gb gi gr j w)(h0:w0.heap.size<=hi)(h1:gf<hi)(h2:gb<hi)(h3:gi<hi)(h4:gr+1<hi)(hb:Below hi w w'):lK w0 i gf gb gi gr j w':=by
 obtain⟨l,c,e⟩:=h.f;obtain⟨k,d,e2⟩:=h.b;exact⟨h.below.trans (hb.mono h0),h.le,⟨l,c.keep hb h1,e⟩,⟨k,d.keep hb h2,e2⟩,h.i.keep hb h3,h.r1.keep hb (by omega),h.r2.keep hb h4⟩
theorem ta(cs:List Value)(a:aP)(m i:Nat)(Y:List Nat)(w:World)(h:ba w cs a)(v:KV a m Y)(hi:i<nb m):
  Qq 101 #[.agg cs.toArray,.int .i64 i] w (.tuple #[.agg #[.int .i64 (cls a.xs i:Nat),.int .u64 (cOff a.L a.ys a.xs i:Nat)],.agg #[.int .i64 (cOn a.xs i:Nat),.int .i64 (cAt a.xs i:Nat)]]):=by
 have nbl:=iA m v.le;have ig:i/8<gN m:=by unfold gN;omega
 have HA:Hid (∀(gf gb gi gr:Nat) w1,lK w i gf gb gi gr (8*(i/8)) w1->gr≠gf->gr≠gb->gr+1≠gf->gr+1≠gb->gr+1<w1.heap.size->w.heap.size<=gf->w.heap.size<=gb->gf≠gb->gf≠gi->gb≠gi->gf<w1.heap.size->gb<w1.heap.size->gi<w1.heap.size->
   Calls prog 131 #[.agg cs.toArray,.int .i64 ((i:Int)/8),.func (.func 157) #[] #[.pointer (some ⟨gf,0,none⟩),.pointer (some ⟨gb,0,none⟩),.pointer (some ⟨gi,0,none⟩)]] w1 fun e w'=>∃r,e=.returned r/\aa w' gf [.int .i64 (cls a.xs i:Nat),.int .u64 (cOff a.L a.ys a.xs i:Nat)] 150/\aa w' gb [.int .i64 (cOn a.xs i:Nat),.int .i64 (cAt a.xs i:Nat)] 137/\aa w' gr [.int .i64 0,.int .u64 0] 150/\aa w' (gr+1) [.int .i64 0,.int .i64 0] 137/\aT w.heap.size w1.heap.size w1 w'):=by
  intro gf gb gi gr w1 hI n1 n2 n3 n4 n5 l1 l2 l3 l4 l5 l6 l7 l8;have e8:((i:Int)/8)=((i/8:Nat):Int):=by omega
  rw[e8]
  refine(ny cs a (i/8) (nb m) w.heap.size w1.heap.size 157 #[.pointer (some ⟨gf,0,none⟩),.pointer (some ⟨gb,0,none⟩),.pointer (some ⟨gi,0,none⟩)] (fun j w2=>lK w i gf gb gi gr j w2) (fun j w2=>j=i/\(aa w2 gr [.int .i64 0,.int .u64 0] 150/\aa w2 (gr+1) [.int .i64 0,.int .i64 0] 137)/\aa w2 gf [.int .i64 (cls a.xs j:Nat),.int .u64 (cOff a.L a.ys a.xs j:Nat)] 150/\aa w2 gb [.int .i64 (cOn a.xs j:Nat),.int .i64 (cAt a.xs j:Nat)] 137) w1 v.nk v.nV v.ic (by omega) (by rw[v.sl];exact ig) (by rw[v.tl];exact ig) (v.gs _ ig) (v.gt _ ig) hI.below.size (Nat.le_refl _) hI (fun j w2 hj=>h.keep hj.below) (fun j w2 w3 hj hb=>hj.keep hI.below.size l6 l7 l8 n5 hb) (fun j w2 w3 hj hb=>⟨hj.1,⟨hj.2.1.1.keep hb (by omega),hj.2.1.2.keep hb n5⟩,hj.2.2.1.keep hb l6,hj.2.2.2.keep hb l7⟩) ?cf ?st).mono ?_
  case cf=>
   intro args w2;kernel_rfl
  case st=>
   intro j w2 _ hjn hse hj hw2;obtain⟨lf,c1,e1⟩:=hj.f;obtain⟨lb,c2,e2⟩:=hj.b;refine(A0 j _ _ _ _ i gf gb gi w.heap.size w1.heap.size lf lb w2 e1 e2 c1 c2 hj.i l3 l4 l5 l1 l2 l6 l7 hw2 hj.below.size).mono ?_
   rintro e w3 ⟨rfl,d1,d2,d3,fr,gg⟩;have r1:aa w3 gr [.int .i64 0,.int .u64 0] 150:=(gg gr n1 n2 hj.r1.lt).trans hj.r1
   have r2:aa w3 (gr+1) [.int .i64 0,.int .i64 0] 137:=(gg (gr+1) n3 n4 hj.r2.lt).trans hj.r2;refine⟨_,rfl,fun hr=>?_,fun hr=>?_,fr⟩
   .have hr:=of_decide_eq_true hr;exact⟨hj.below.trans fr.below,by omega,⟨_,d1,rfl⟩,⟨_,d2,rfl⟩,d3,r1,r2⟩
   .have hr:=of_decide_eq_false hr;have:=hj.le;exact⟨by omega,⟨r1,r2⟩,d1,d2⟩
  .rintro e w2 ⟨q,b,rfl,_,hq,h1,h2,fr⟩;cases b with
   | true=>
    obtain⟨rfl,hI2⟩:=h1 rfl;have:=hI2.le;omega
   | false=>
    obtain⟨hlt,h3⟩:=h2 rfl;rcases h3 with⟨h3,_⟩ | ⟨_,rfl,⟨r1,r2⟩,h4,h5⟩
    .exact absurd (v.se q hlt) h3
    .exact⟨_,rfl,h4,h5,r1,r2,fr⟩
 have hmf:∀(fn:Fn) (first cap:Array Value) (w:World),(Instr.makeFunc fn first cap).run prog w=.ok (.func fn first cap) w:=fun _ _ _ _=>rfl;have hib:i<=69906:=by omega
 clear v;obtain⟨⟨ao,cap,qo,dap,so,sc,tO,tc,rfl,_⟩,_⟩:=h;obtain⟨N,k,V,M,xs,L,ys,S,T⟩:=a;dsimp only at *;generalize cls xs i=c at *;generalize cOff L ys xs i=o at *;generalize cOn xs i=s at *
 generalize cAt xs i=p at *
 obtain⟨W,hW⟩:∃W,W=(((((w.alloc (.cells #[.int .i64 N,.int .i64 k,.int .i64 V,.int .i64 M,.slice ao xs.length cap,.int .i64 L,.slice qo ys.length dap,.slice so S.length sc,.slice tO T.length tc] 59)).alloc (.cells #[.int .i64 i] 3)).alloc (.cells #[.int .i64 0,.int .u64 0] 150)).alloc (.cells #[.int .i64 0,.int .i64 0] 137)).alloc (.cells #[.int .i64 0,.int .u64 0] 150)).alloc (.cells #[.int .i64 0,.int .i64 0] 137):=⟨_,rfl⟩
 obtain⟨⟨bW,zW⟩,C1,C2,C3,C4,C5⟩:(Below w.heap.size w W/\W.heap.size=w.heap.size+6)/\aa W (w.heap.size+1) [.int .i64 i] 3/\aa W (w.heap.size+2) [.int .i64 0,.int .u64 0] 150/\aa W (w.heap.size+3) [.int .i64 0,.int .i64 0] 137/\aa W (w.heap.size+4) [.int .i64 0,.int .u64 0] 150/\aa W (w.heap.size+5) [.int .i64 0,.int .i64 0] 137:=by
  rw[hW]
  have e1:=aa.new (w.alloc (.cells #[.int .i64 N,.int .i64 k,.int .i64 V,.int .i64 M,.slice ao xs.length cap,.int .i64 L,.slice qo ys.length dap,.slice so S.length sc,.slice tO T.length tc] 59)) [.int .i64 i] 3
  have e2:=aa.new ((w.alloc (.cells #[.int .i64 N,.int .i64 k,.int .i64 V,.int .i64 M,.slice ao xs.length cap,.int .i64 L,.slice qo ys.length dap,.slice so S.length sc,.slice tO T.length tc] 59)).alloc (.cells #[.int .i64 i] 3)) [.int .i64 0,.int .u64 0] 150
  have e3:=aa.new (((w.alloc (.cells #[.int .i64 N,.int .i64 k,.int .i64 V,.int .i64 M,.slice ao xs.length cap,.int .i64 L,.slice qo ys.length dap,.slice so S.length sc,.slice tO T.length tc] 59)).alloc (.cells #[.int .i64 i] 3)).alloc (.cells #[.int .i64 0,.int .u64 0] 150)) [.int .i64 0,.int .i64 0] 137
  have e4:=aa.new ((((w.alloc (.cells #[.int .i64 N,.int .i64 k,.int .i64 V,.int .i64 M,.slice ao xs.length cap,.int .i64 L,.slice qo ys.length dap,.slice so S.length sc,.slice tO T.length tc] 59)).alloc (.cells #[.int .i64 i] 3)).alloc (.cells #[.int .i64 0,.int .u64 0] 150)).alloc (.cells #[.int .i64 0,.int .i64 0] 137)) [.int .i64 0,.int .u64 0] 150
  have e5:=aa.new (((((w.alloc (.cells #[.int .i64 N,.int .i64 k,.int .i64 V,.int .i64 M,.slice ao xs.length cap,.int .i64 L,.slice qo ys.length dap,.slice so S.length sc,.slice tO T.length tc] 59)).alloc (.cells #[.int .i64 i] 3)).alloc (.cells #[.int .i64 0,.int .u64 0] 150)).alloc (.cells #[.int .i64 0,.int .i64 0] 137)).alloc (.cells #[.int .i64 0,.int .u64 0] 150)) [.int .i64 0,.int .i64 0] 137
  simp only[World.size_alloc]at e1 e2 e3 e4 e5
  refine⟨⟨(((((below_alloc w _).alloc (by simp) _).alloc (by simp;omega) _).alloc (by simp;omega) _).alloc (by simp;omega) _).alloc (by simp;omega) _,by simp⟩,(((e1.alloc _).alloc _).alloc _).alloc _,((e2.alloc _).alloc _).alloc _,(e3.alloc _).alloc _,e4.alloc _,e5⟩
 have HI:Hid (lK w i (w.heap.size+4) (w.heap.size+5) (w.heap.size+1) (w.heap.size+2) (8*(i/8)) W):=⟨bW,by omega,⟨_,C4,rfl⟩,⟨_,C5,rfl⟩,C1,C2,C3⟩;go_enter func101,ntmps101;go_wp2_with fail
 rw[<-hW]
 refine(HA.out (w.heap.size+4) (w.heap.size+5) (w.heap.size+1) (w.heap.size+2) W HI.out (by omega) (by omega) (by omega) (by omega) (by omega) (by omega) (by omega) (by omega) (by omega) (by omega) (by omega) (by omega) (by omega)).mono ?_
 rintro e w2 ⟨r,rfl,d1,d2,r1,r2,fr⟩;have bw2:=bW.trans fr.below;clear HA HI fr hW bW C1 C2 C3 C4 C5;go_wp2
 refine bm [3] (fun w'=>aa w' (w.heap.size+4) [.int .i64 c,.int .u64 o] 150/\aa w' (w.heap.size+5) [.int .i64 s,.int .i64 p] 137) (by kernel_rfl) ?_
 have hS:aa w2.drew (w.heap.size+4) [.int .i64 c,.int .u64 o] 150/\aa w2.drew (w.heap.size+5) [.int .i64 s,.int .i64 p] 137:=⟨d1,d2⟩
 replace r1:aa w2.drew (w.heap.size+2) [.int .i64 0,.int .u64 0] 150:=r1;replace r2:aa w2.drew (w.heap.size+3) [.int .i64 0,.int .i64 0] 137:=r2;replace bw2:Below w.heap.size w w2.drew:=bw2.drew
 generalize w2.drew=U at *;clear d1 d2;refine aF 0 hS rfl (fun w0 h0=>by have c0:=h0.1.cell 0 rfl;have c1:=h0.1.cell 1 rfl;go_simp;try with_reducible rfl) ?_
 refine aF 1 hS rfl (fun w0 h0=>by have c0:=h0.2.cell 0 rfl;have c1:=h0.2.cell 1 rfl;go_simp;try with_reducible rfl) ?_;refine aO 2 ?_;intro K hK;have f0:=r1.frozen 0;have f1:=r1.frozen 1
 have n0:=r1.cell 0 rfl;have n1:=r1.cell 1 rfl;go_simp
 refine hK.out _ _ (fun _=>⟨(hS.1.other (by show w.heap.size+4≠w.heap.size+2;omega) _).other (by show w.heap.size+4≠w.heap.size+2;omega) _,(hS.2.other (by show w.heap.size+5≠w.heap.size+2;omega) _).other (by show w.heap.size+5≠w.heap.size+2;omega) _⟩) ?_
 clear hK K f0 f1 n0 n1
 replace r2:=(r2.other (a:=⟨w.heap.size+2,0,none⟩) (by show w.heap.size+3≠w.heap.size+2;omega) (.int .i64 c)).other (a:=⟨w.heap.size+2,1,none⟩) (by show w.heap.size+3≠w.heap.size+2;omega) (.int .u64 o)
 replace r1:=(r1.set 0 (.int .i64 c)).set 1 (.int .u64 o)
 replace bw2:Below w.heap.size w ((U.setCell ⟨w.heap.size+2,0,none⟩ (.int .i64 c)).setCell ⟨w.heap.size+2,1,none⟩ (.int .u64 o)):=(bw2.setCell (by show w.heap.size<=w.heap.size+2;omega) _).setCell (by show w.heap.size<=w.heap.size+2;omega) _
 generalize (U.setCell ⟨w.heap.size+2,0,none⟩ (.int .i64 c)).setCell ⟨w.heap.size+2,1,none⟩ (.int .u64 o)=Z at *;try simp only[Act.put,ar,an,am,ah,aj,ai]
 refine aO 3 ?_;intro K hK;have f0:=r2.frozen 0;have f1:=r2.frozen 1;have n0:=r2.cell 0 rfl;have n1:=r2.cell 1 rfl;go_simp;refine hK.out _ _ (fun h=>absurd (by decide) h) ?_;clear hK K
 try simp only[Act.put,ar,an,am,ah,aj,ai]
 refine aw.done (by kernel_rfl) ?_ _;clear f0 f1 n0 n1
 replace r1:=(r1.other (a:=⟨w.heap.size+3,0,none⟩) (by show w.heap.size+2≠w.heap.size+3;omega) (.int .i64 s)).other (a:=⟨w.heap.size+3,1,none⟩) (by show w.heap.size+2≠w.heap.size+3;omega) (.int .i64 p)
 replace r2:=(r2.set 0 (.int .i64 s)).set 1 (.int .i64 p)
 replace bw2:Below w.heap.size w ((Z.setCell ⟨w.heap.size+3,0,none⟩ (.int .i64 s)).setCell ⟨w.heap.size+3,1,none⟩ (.int .i64 p)):=(bw2.setCell (by show w.heap.size<=w.heap.size+3;omega) _).setCell (by show w.heap.size<=w.heap.size+3;omega) _
 generalize (Z.setCell ⟨w.heap.size+3,0,none⟩ (.int .i64 s)).setCell ⟨w.heap.size+3,1,none⟩ (.int .i64 p)=Z2 at *;go_wp2
 exact bodyPost_ret (zQ rfl (w.heap.size+2) (w.heap.size+3) _ _ rfl rfl r1 r2 underlying150 underlying137 Fg Ff) rfl ⟨rfl,bw2⟩
theorem oO(m:Nat)(f:Nat->Bool)(i:Nat):blv m f i<18446744073709551616:=by have:=jF m f i;omega
theorem GZ(m:Nat)(Y:List Nat)(bit:Bool)(i j:Nat)(h0:0<i)(hj:j=(i-1)/15)(hi:i<=m):bon m (bitAt Y) j+cnt (blv m (bitAt Y) j) (i-15*j)=cntB Y i:=by
 have a:=wu m Y j (by omega);have b:=rd m Y j (i-15*j) (by omega) (by omega);rw[show 15*j+(i-15*j)=i by omega]at b;omega
theorem s_(cs:List Value)(a:aP)(m i:Nat)(Y:List Nat)(bit:Bool)(w:World)(h:ba w cs a)(v:KV a m Y)(hi:i<=m):
  Qq 127 #[.agg cs.toArray,.bool bit,.int .i64 i] w (.int .i64 (cB Y bit i:Nat)):=by
 have hm:=v.le;obtain⟨j,hj⟩:∃j,j=(i-1)/15:=⟨_,rfl⟩
 have HB:Hid (0<i->Qz w 101 #[.agg cs.toArray,.int .i64 (j:Int)] (.tuple #[.agg #[.int .i64 (cls a.xs j:Nat),.int .u64 (cOff a.L a.ys a.xs j:Nat)],.agg #[.int .i64 (cOn a.xs j:Nat),.int .i64 (cAt a.xs j:Nat)]])):=by
  intro h0 w0 hb;exact ta cs a m j Y w0 (h.keep hb) v (by unfold nb;omega)
 have HW:Hid (0<i->∀w0,Qq 102 #[.agg #[.int .i64 (cls a.xs j:Nat),.int .u64 (cOff a.L a.ys a.xs j:Nat)]] w0 (.int .u64 (blv m (bitAt Y) j:Nat))):=by
  intro h0 w0;have hjn:j<nb m:=by unfold nb;omega
  have:=lV (cls a.xs j) (cOff a.L a.ys a.xs j) (iK _ _) (v.off j hjn) w0;rw[v.wd j hjn]at this;exact this
 have HR:Hid (0<i->∀w0,Qx 145 #[.int .u64 (blv m (bitAt Y) j:Nat),.int .i64 ((i:Int)-(j:Int)*15)] w0 (.int .i64 (cnt (blv m (bitAt Y) j) (i-15*j):Nat))):=by
  intro h0 w0;have:=nr (blv m (bitAt Y) j:Nat) ((i:Int)-(j:Int)*15) (by omega) (by have:=oO m (bitAt Y) j;omega) w0;unfold dt at this
  rw[Int.toNat_natCast,show min ((i:Int)-(j:Int)*15).toNat 64=i-15*j by omega]at this;exact this
 have HS:Hid (0<i->cOn a.xs j+cnt (blv m (bitAt Y) j) (i-15*j)=cntB Y i):=by
  intro h0;rw[v.on j (by unfold nb;omega)];exact GZ m Y bit i j h0 hj hi
 have cl:=gB Y i
 have HO:Hid (∀w0,Qx 174 #[.bool bit,.int .i64 i,.int .i64 (cntB Y i:Nat)] w0 (.int .i64 (cB Y bit i:Nat))):=fun w0=>nu bit i (cntB Y i) cl (by omega) w0;clear v
 obtain⟨⟨ao,cap,qo,dap,so,sc,tO,tc,rfl,_⟩,_⟩:=h;obtain⟨N,k,V,M,xs,L,ys,S,T⟩:=a;dsimp only at *
 obtain⟨W,hW⟩:∃W,W=w.alloc (.cells #[.int .i64 N,.int .i64 k,.int .i64 V,.int .i64 M,.slice ao xs.length cap,.int .i64 L,.slice qo ys.length dap,.slice so S.length sc,.slice tO T.length tc] 59):=⟨_,rfl⟩
 have bW:=aY hW;by_cases h0:i=0
 .subst h0;have z:cB Y bit 0=0:=by have:=ia Y bit 0;omega
  rw[z];clear HB HW HR HS HO;go_enter func127,ntmps127;go_wp2;go_ret;rw[<-hW];exact⟨rfl,bW⟩
 .have h1:0<i:=by omega
  have HS2:=HS.out h1;clear HS;have hji:j*15<=i:=by omega
  have i0:((i:Int)==0)=false:=by simp;omega
  have cv:=dy (blv m (bitAt Y) j) (i-15*j);have hjd:((i:Int)-1)/15=(j:Int):=by omega
  have hjb:j<=1048576:=by omega
  generalize cls xs j=c at *;generalize cOff L ys xs j=o at *;generalize cOn xs j=s at *;generalize cAt xs j=p at *;generalize cnt (blv m (bitAt Y) j) (i-15*j)=rk at *;generalize blv m (bitAt Y) j=bw at *
  generalize cB Y bit i=res at *;generalize cntB Y i=cn at *;have hj2:((i-1:Nat):Int)/15=(j:Int):=by omega
  have u2:Hid (IntKind.i64.wrap ((i:Int)-IntKind.i64.wrap (((i-1:Nat):Int)/15*15))=(i:Int)-(j:Int)*15):=by
   have w1:IntKind.i64.wrap ((j:Int)*15)=(j:Int)*15:=by rw[IntKind.wrap_i64];omega
   have w2:IntKind.i64.wrap ((i:Int)-(j:Int)*15)=(i:Int)-(j:Int)*15:=by rw[IntKind.wrap_i64];omega
   show IntKind.i64.wrap ((i:Int)-IntKind.i64.wrap (((i-1:Nat):Int)/15*15))=(i:Int)-(j:Int)*15;rw[hj2,w1,w2]
  clear hj2;have u3:IntKind.i64.wrap ((s:Int)+(rk:Int))=(cn:Int):=by rw[IntKind.wrap_i64];omega
  go_enter func127,ntmps127;go_wp2_with fail;rw[<-hW,show((i-1:Nat):Int)/15=(j:Int)by omega,hjd];refine mr (HB.out (by first | exact h1 | trivial) _ bW) fun w1 hb=>?_
  have bw1:=bg bW hb;clear hW hb HB bW;go_wp2;have hb8:=below_alloc w1 (.cells #[.int .i64 c,.int .u64 o] 150)
  have hb9:=below_alloc (w1.alloc (.cells #[.int .i64 c,.int .u64 o] 150)) (.cells #[.int .i64 s,.int .i64 p] 137)
  have B1:=(aa.new w1 [.int .i64 c,.int .u64 o] 150).kept hb9;have B2:=aa.new2 w1 (.cells #[.int .i64 c,.int .u64 o] 150) [.int .i64 s,.int .i64 p] 137
  have bV:=bw1.trans ((hb8.trans (hb9.mono (by simp))).mono bw1.size);clear hb8 hb9 bw1
  refine bm [] (fun w'=>aa w' w1.heap.size [.int .i64 c,.int .u64 o] 150/\aa w' (w1.heap.size+1) [.int .i64 s,.int .i64 p] 137) (by kernel_rfl) ?_
  generalize (w1.alloc (.cells #[.int .i64 c,.int .u64 o] 150)).alloc (.cells #[.int .i64 s,.int .i64 p] 137)=U at *
  have hS:aa U.drew w1.heap.size [.int .i64 c,.int .u64 o] 150/\aa U.drew (w1.heap.size+1) [.int .i64 s,.int .i64 p] 137:=⟨B1,B2⟩;replace bV:Below w.heap.size w U.drew:=bV.drew
  generalize U.drew=Z at *;clear B1 B2;refine aK 0 hS ?_;refine aK 1 hS ?_;refine aK 2 hS ?_;refine aF 3 hS rfl (fun w0 h0=>by have c0:=h0.2.cell 0 rfl;go_simp;try with_reducible rfl) ?_
  refine aF 4 hS rfl (fun w0 h0=>by have c0:=h0.1.cell 0 rfl;have c1:=h0.1.cell 1 rfl;go_simp;try with_reducible rfl) ?_;refine aK 6 hS ?_;refine aK 7 hS ?_;refine aK 8 hS ?_;refine aK 9 hS ?_
  refine aO 5 ?_;intro K hK;go_simp;refine mr (HW.out (by first | exact h1 | trivial) _) fun w3 hb=>?_;have hS3:=And.intro (hS.1.kept hb) (hS.2.kept hb);have bw3:=bg bV hb;clear hb hS bV HW
  refine hK.out _ _ (fun _=>hS3) ?_;clear hK K;try simp only[Act.put,ar,an,am,ah,aj,ai]
  refine aO 10 ?_;intro K hK;go_simp;rw[u2.out];refine(HR.out (by first | exact h1 | trivial) _).mono ?_;rintro e w4 ⟨rfl,rfl⟩;refine hK.out _ _ (fun _=>hS3) ?_;clear hK K
  try simp only[Act.put,ar,an,am,ah,aj,ai]
  refine aK 11 hS3 ?_;refine aO 12 ?_;intro K hK;go_simp
  (try rw[u3]);refine(HO.out _).mono ?_;rintro e w5 ⟨rfl,rfl⟩;refine hK.out _ _ (fun _=>hS3) ?_;clear hK K;try simp only[Act.put,ar,an,am,ah,aj,ai]
  refine aK 13 hS3 ?_;refine aw.done (by kernel_rfl) ?_ _;go_wp2;go_ret;exact⟨rfl,bw3⟩
theorem IM(x:Nat)(hx:x<18446744073709551616)(k:Nat):(bits BinOp.and IntKind.u64 ((x:Int)/2^k) 1==1)=x.testBit k:=by
 rw[km _ _ (by omega) (by omega),kj,Int.toNat_natCast,Bool.eq_iff_iff,beq_iff_eq,decide_eq_true_eq];omega
theorem Iu(m:Nat)(Y:List Nat)(n:Nat)(h:n<m):(blv m (bitAt Y) (n/15)).testBit (n%15)=bitAt Y n:=by
 unfold blv;rw[im,show 15*(n/15)+n%15=n by omega];simp[h,show n%15<15 by omega]
theorem zP{a b c d:Value}(h:a=b)(h2:c=d):Ending.returned (.tuple #[a,c])=.returned (.tuple #[b,d]):=by rw[h,h2]
theorem Jn(cs:List Value)(a:aP)(i:Int)(w:World)(h:ba w cs a)(hi:aD i):
  Qq 57 #[.agg cs.toArray,.int .i64 i] w (.tuple #[.bool (gaB (kOk8 a) (kBN8 a) (kBX8 a) i),.int .i64 (gaE (kOk8 a) (kBN8 a) (kBX8 a) i)]):=by
 have C:=fun(w0:World) (hb:Below w.heap.size w w0)=>lW cs a w0 (h.keep hb);cases hk:kOk8 a with
 | false=>
  rw[hk]at C;have CH:Hid (Qz w 100 #[.agg cs.toArray] (.bool false)):=C
  show Calls _ _ _ _ fun e w'=>e=.returned (.tuple #[.bool false,.int .i64 2])/\Below w.heap.size w w';clear C hk;obtain⟨⟨ao,cap,qo,dap,so,sc,tO,tc,rfl,_⟩,_⟩:=h;obtain⟨N,k,V,M,xs,L,ys,S,T⟩:=a
  dsimp only at *
  obtain⟨W,hW⟩:∃W,W=w.alloc (.cells #[.int .i64 N,.int .i64 k,.int .i64 V,.int .i64 M,.slice ao xs.length cap,.int .i64 L,.slice qo ys.length dap,.slice so S.length sc,.slice tO T.length tc] 59):=⟨_,rfl⟩
  have bW:=aY hW;go_enter func57,ntmps57;go_wp2_with fail;rw[<-hW];refine mr (CH.out _ bW) fun w1 hb=>?_;have bw1:=bg bW hb;clear hW hb;go_wp2;go_ret2;exact⟨rfl,bw1⟩
 | true=>
 rw[hk]at C;have CH:Hid (Qz w 100 #[.agg cs.toArray] (.bool true)):=C;obtain⟨m,eN,v⟩:=nJ a hk;have hm:=v.le
 have vN:=v.nN;have hck:=v.ck;clear C hk;rw[eN];generalize kBX8 a=Y at *;have ga:gaE true (m:Int) Y i=if i<0\/(m:Int)<=i then 3 else 0:=by unfold gaE c_;rw[hck];simp
 have gb:gaB true (m:Int) Y i=(decide (0<=i/\i<(m:Int))&&bitAt Y i.toNat):=by unfold gaB fJ;rw[hck];simp
 by_cases hr:i<0\/(m:Int)<=i
 .rw[ga,gb,if_pos hr,decide_eq_false (by omega),Bool.false_and];clear v ga gb;obtain⟨⟨ao,cap,qo,dap,so,sc,tO,tc,rfl,_⟩,_⟩:=h;obtain⟨N,k,V,M,xs,L,ys,S,T⟩:=a;dsimp only at *;subst vN
  obtain⟨W,hW⟩:∃W,W=w.alloc (.cells #[.int .i64 m,.int .i64 k,.int .i64 V,.int .i64 M,.slice ao xs.length cap,.int .i64 L,.slice qo ys.length dap,.slice so S.length sc,.slice tO T.length tc] 59):=⟨_,rfl⟩
  have bW:=aY hW;have B1:=bj hW;go_enter func57,ntmps57;go_wp2_with fail;rw[<-hW];refine mr (CH.out _ bW) fun w1 hb=>?_;have bw1:=bg bW hb;have q0:=(B1.kept hb).cell 0 rfl
  clear hW hb;by_cases h0:i<0
  .go_wp2;go_ret2;exact⟨rfl,bw1⟩
  .have h1:(m:Int)<=i:=by omega
   go_wp2;go_ret2;exact⟨rfl,bw1⟩
 .obtain⟨n,rfl⟩:=Int.eq_ofNat_of_zero_le (show 0<=i by omega);rw[ga,gb,if_neg hr,decide_eq_true (by omega),Bool.true_and,Int.toNat_natCast];have hn:n<m:=by omega
  have h0:¬(n:Int)<0:=by omega
  have h1:¬(m:Int)<=(n:Int):=by omega
  have hnb:n/15<nb m:=by unfold nb;omega
  have HB:Hid (Qz w 101 #[.agg cs.toArray,.int .i64 ((n:Int)/15)] (.tuple #[.agg #[.int .i64 (cls a.xs (n/15):Nat),.int .u64 (cOff a.L a.ys a.xs (n/15):Nat)],.agg #[.int .i64 (cOn a.xs (n/15):Nat),.int .i64 (cAt a.xs (n/15):Nat)]])):=by
   intro w0 hb;rw[show(n:Int)/15=((n/15:Nat):Int)by omega];exact ta cs a m (n/15) Y w0 (h.keep hb) v hnb
  have HW:Hid (∀w0,Qq 102 #[.agg #[.int .i64 (cls a.xs (n/15):Nat),.int .u64 (cOff a.L a.ys a.xs (n/15):Nat)]] w0 (.int .u64 (blv m (bitAt Y) (n/15):Nat))):=by
   intro w0;have:=lV (cls a.xs (n/15)) (cOff a.L a.ys a.xs (n/15)) (iK _ _) (v.off _ hnb) w0;rw[v.wd _ hnb]at this;exact this
  have HE:Hid ((bits BinOp.and IntKind.u64 ((blv m (bitAt Y) (n/15):Nat)/2^(n%15)) 1==1)=bitAt Y n):=by
   show(bits BinOp.and IntKind.u64 (((blv m (bitAt Y) (n/15):Nat):Int)/2^(n%15)) 1==1)=bitAt Y n;rw[IM _ (oO _ _ _),Iu m Y n hn]
  clear v ga gb hr hck;generalize bitAt Y n=R at *;generalize blv m (bitAt Y) (n/15)=bw at *;obtain⟨⟨ao,cap,qo,dap,so,sc,tO,tc,rfl,_⟩,_⟩:=h;obtain⟨N,k,V,M,xs,L,ys,S,T⟩:=a;dsimp only at *;subst vN
  generalize cls xs (n/15)=c at *;generalize cOff L ys xs (n/15)=o at *;generalize cOn xs (n/15)=s at *;generalize cAt xs (n/15)=p at *
  obtain⟨W,hW⟩:∃W,W=w.alloc (.cells #[.int .i64 m,.int .i64 k,.int .i64 V,.int .i64 M,.slice ao xs.length cap,.int .i64 L,.slice qo ys.length dap,.slice so S.length sc,.slice tO T.length tc] 59):=⟨_,rfl⟩
  have bW:=aY hW;have B1:=bj hW;go_enter func57,ntmps57;go_wp2_with fail;rw[<-hW];refine mr (CH.out _ bW) fun w1 hb=>?_;have bw1:=bg bW hb;replace B1:=B1.kept hb
  have q0:=B1.cell 0 rfl;have q1:=B1.cell 1 rfl;have q2:=B1.cell 2 rfl;have q3:=B1.cell 3 rfl;have q4:=B1.cell 4 rfl;have q5:=B1.cell 5 rfl;have q6:=B1.cell 6 rfl;have q7:=B1.cell 7 rfl;have q8:=B1.cell 8 rfl
  clear hW hb;go_wp2_with fail;refine mr (HB.out _ bw1) fun w2 hb=>?_;have bw2:=bg bw1 hb;clear hb bw1 q0 q1 q2 q3 q4 q5 q6 q7 q8 B1 HB;go_wp2_with fail
  have bw3:Below w.heap.size w ((w2.alloc (.cells #[.int .i64 c,.int .u64 o] 150)).alloc (.cells #[.int .i64 s,.int .i64 p] 137)):=(bw2.alloc bw2.size _).alloc (by have:=bw2.size;simp;omega) _
  generalize (w2.alloc (.cells #[.int .i64 c,.int .u64 o] 150)).alloc (.cells #[.int .i64 s,.int .i64 p] 137)=U at *;refine mr (HW.out _) fun w4 hb=>?_
  have bw4:=bg bw3 hb;clear hb bw3 HW;go_wp2;go_ret2;exact⟨zP (congrArg Value.bool HE.out) rfl,bw4⟩
theorem Aq(cs:List Value)(a:aP)(bit:Bool)(i:Int)(w:World)(h:ba w cs a)(hi:aD i):
  Qq 77 #[.agg cs.toArray,.bool bit,.int .i64 i] w (.tuple #[.int .i64 (grN (kOk8 a) (kBN8 a) (kBX8 a) bit i),.int .i64 (grE (kOk8 a) (kBN8 a) i)]):=by
 have C:=fun(w0:World) (hb:Below w.heap.size w w0)=>lW cs a w0 (h.keep hb);cases hk:kOk8 a with
 | false=>
  rw[hk]at C;have CH:Hid (Qz w 100 #[.agg cs.toArray] (.bool false)):=C
  show Calls _ _ _ _ fun e w'=>e=.returned (.tuple #[.int .i64 0,.int .i64 2])/\Below w.heap.size w w';clear C hk;obtain⟨⟨ao,cap,qo,dap,so,sc,tO,tc,rfl,_⟩,_⟩:=h;obtain⟨N,k,V,M,xs,L,ys,S,T⟩:=a
  dsimp only at *
  obtain⟨W,hW⟩:∃W,W=w.alloc (.cells #[.int .i64 N,.int .i64 k,.int .i64 V,.int .i64 M,.slice ao xs.length cap,.int .i64 L,.slice qo ys.length dap,.slice so S.length sc,.slice tO T.length tc] 59):=⟨_,rfl⟩
  have bW:=aY hW;go_enter func77,ntmps77;go_wp2_with fail;rw[<-hW];refine mr (CH.out _ bW) fun w1 hb=>?_;have bw1:=bg bW hb;clear hW hb;go_wp2;go_ret2;exact⟨rfl,bw1⟩
 | true=>
 rw[hk]at C;have CH:Hid (Qz w 100 #[.agg cs.toArray] (.bool true)):=C;obtain⟨m,eN,v⟩:=nJ a hk;have hm:=v.le
 have vN:=v.nN;clear C hk;rw[eN];generalize kBX8 a=Y at *;have ga:grE true (m:Int) i=if i<0\/(m:Int)<i then 3 else 0:=rfl
 by_cases hr:i<0\/(m:Int)<i
 .have gb:grN true (m:Int) Y bit i=0:=by unfold grN;rw[ga,if_pos hr];rfl
  rw[ga,gb,if_pos hr];clear v ga gb;obtain⟨⟨ao,cap,qo,dap,so,sc,tO,tc,rfl,_⟩,_⟩:=h;obtain⟨N,k,V,M,xs,L,ys,S,T⟩:=a;dsimp only at *;subst vN
  obtain⟨W,hW⟩:∃W,W=w.alloc (.cells #[.int .i64 m,.int .i64 k,.int .i64 V,.int .i64 M,.slice ao xs.length cap,.int .i64 L,.slice qo ys.length dap,.slice so S.length sc,.slice tO T.length tc] 59):=⟨_,rfl⟩
  have bW:=aY hW;have B1:=bj hW;go_enter func77,ntmps77;go_wp2_with fail;rw[<-hW];refine mr (CH.out _ bW) fun w1 hb=>?_;have bw1:=bg bW hb;have q0:=(B1.kept hb).cell 0 rfl
  clear hW hb;by_cases h0:i<0
  .go_wp2;go_ret2;exact⟨rfl,bw1⟩
  .have h1:(m:Int)<i:=by omega
   go_wp2;go_ret2;exact⟨rfl,bw1⟩
 .obtain⟨n,rfl⟩:=Int.eq_ofNat_of_zero_le (show 0<=i by omega);have hn:n<=m:=by omega
  have gb:grN true (m:Int) Y bit (n:Int)=(cB Y bit n:Nat):=by unfold grN;rw[ga,if_neg hr,if_pos rfl,Int.toNat_natCast]
  rw[ga,gb,if_neg hr];have h0:¬(n:Int)<0:=by omega
  have h1:¬(m:Int)<(n:Int):=by omega
  have HB:Hid (Qz w 127 #[.agg cs.toArray,.bool bit,.int .i64 n] (.int .i64 (cB Y bit n:Nat))):=fun w0 hb=>s_ cs a m n Y bit w0 (h.keep hb) v hn
  clear v ga gb hr;generalize cB Y bit n=R at *;obtain⟨⟨ao,cap,qo,dap,so,sc,tO,tc,rfl,_⟩,_⟩:=h;obtain⟨N,k,V,M,xs,L,ys,S,T⟩:=a;dsimp only at *;subst vN
  obtain⟨W,hW⟩:∃W,W=w.alloc (.cells #[.int .i64 m,.int .i64 k,.int .i64 V,.int .i64 M,.slice ao xs.length cap,.int .i64 L,.slice qo ys.length dap,.slice so S.length sc,.slice tO T.length tc] 59):=⟨_,rfl⟩
  have bW:=aY hW;have B1:=bj hW;go_enter func77,ntmps77;go_wp2_with fail;rw[<-hW];refine mr (CH.out _ bW) fun w1 hb=>?_;have bw1:=bg bW hb;replace B1:=B1.kept hb
  have q0:=B1.cell 0 rfl;have q1:=B1.cell 1 rfl;have q2:=B1.cell 2 rfl;have q3:=B1.cell 3 rfl;have q4:=B1.cell 4 rfl;have q5:=B1.cell 5 rfl;have q6:=B1.cell 6 rfl;have q7:=B1.cell 7 rfl;have q8:=B1.cell 8 rfl
  clear hW hb;go_wp2_with fail;refine mr (HB.out _ bw1) fun w2 hb=>?_;have bw2:=bg bw1 hb;clear hb bw1 q0 q1 q2 q3 q4 q5 q6 q7 q8 B1 HB;go_wp2;go_ret2;exact⟨rfl,bw2⟩
theorem yF(cs:List Value)(a:aP)(w:World)(h:ba w cs a):
  Qq 68 #[.agg cs.toArray] w (.int .i64 (kZ8 a)):=by
 have C:=fun(w0:World) (hb:Below w.heap.size w w0)=>lW cs a w0 (h.keep hb);obtain⟨⟨ao,cap,qo,dap,so,sc,tO,tc,rfl,_⟩,_,_,sl,tl⟩:=h;obtain⟨N,k,V,M,xs,L,ys,S,T⟩:=a;dsimp only at *
 obtain⟨Z,hZ⟩:∃Z,Hid (Z=kZ8 ⟨N,k,V,M,xs,L,ys,S,T⟩):=⟨_,rfl⟩;rw[<-hZ.out]
 obtain⟨W,hW⟩:∃W,W=w.alloc (.cells #[.int .i64 N,.int .i64 k,.int .i64 V,.int .i64 M,.slice ao xs.length cap,.int .i64 L,.slice qo ys.length dap,.slice so S.length sc,.slice tO T.length tc] 59):=⟨_,rfl⟩
 have bW:=aY hW;have B1:=bj hW
 have CH:Hid (Qz w 100 #[.agg #[.int .i64 N,.int .i64 k,.int .i64 V,.int .i64 M,.slice ao xs.length cap,.int .i64 L,.slice qo ys.length dap,.slice so S.length sc,.slice tO T.length tc]] (.bool (kOk8 ⟨N,k,V,M,xs,L,ys,S,T⟩))):=C
 clear C;cases hk:kOk8 ⟨N,k,V,M,xs,L,ys,S,T⟩with
 | false=>
  rw[hk]at CH
  have E:Hid (Z=0):=by
   show Z=0;rw[hZ.out];unfold kZ8 kA;rw[show cC N k V M xs L ys S T=false from hk];rfl
  clear hk hZ;go_enter func68,ntmps68;go_wp2_with fail;rw[<-hW];refine mr (CH.out _ bW) fun w1 hb=>?_;have bw1:=bg bW hb;clear hW;go_wp2;go_ret;rw[E.out];exact⟨rfl,bw1⟩
 | true=>
  rw[hk]at CH
  have E:Hid (Z=M+L+64*(S.length:Int)):=by
   show Z=_;rw[hZ.out];unfold kZ8 kA;rw[show cC N k V M xs L ys S T=true from hk];rfl
  obtain⟨_,i2,i3,_⟩:=kH N k V M xs L ys S T hk;obtain⟨_,_,_,_,_,m1,m2,_⟩:=dC k V M xs i2;obtain⟨l1,l2,_,_⟩:=bn L ys i3;clear hk hZ;go_enter func68,ntmps68;go_wp2_with fail
  rw[<-hW];refine mr (CH.out _ bW) fun w1 hb=>?_;have bw1:=bg bW hb;replace B1:=B1.kept hb;have r3:=B1.cell 3 rfl;have r5:=B1.cell 5 rfl;have r7:=B1.cell 7 rfl;clear hW hb;go_wp2;go_ret
  rw[E.out];exact⟨rfl,bw1⟩
theorem G_(x:Nat):∀d r,cnt x r<=cnt x (r+d):=by
 intro d;induction d with
 | zero=>intro r;exact Nat.le_refl _
 | succ d ih=>intro r;have:=ih r;rw[show r+(d+1)=r+d+1 by omega,cnt];omega
theorem xD(m:Nat)(X:List Nat)(bit:Bool)(i:Nat):cnt (wbk m X bit i) 15=obI bit 15 (bcl m (bitAt X) i):=by
 unfold wbk obI bcl;cases bit with
 | true=>rfl
 | false=>
  have hb:=jF m (bitAt X) i;have f:=oL (blv m (bitAt X) i) 15 64 (by omega) (by omega);rw[show(2^64-1-blv m (bitAt X) i)=18446744073709551615-blv m (bitAt X) i by omega]at f;exact f
theorem Dg(m:Nat)(X:List Nat)(bit:Bool)(k i:Nat)(hk:k<cB X bit m)(hi:i<nb m)(h:cB X bit (15*i)+obI bit 15 (bcl m (bitAt X) i)<=k):i+1<nb m/\cB X bit (15*(i+1))<=k:=by
 rw[<-xD m X bit i]at h;by_cases c:15*(i+1)<=m
 .have w:=kt m X bit i 15 (Nat.le_refl _) (by omega);rw[show 15*i+15=15*(i+1)by omega]at w;have h2:cB X bit (15*(i+1))<=k:=by omega
  refine⟨?_,h2⟩;have:15*(i+1)≠m:=by intro e;rw[e]at h2;omega
  unfold nb;omega
 .have hr:m-15*i<=15:=by omega
  have hm:15*i<=m:=by unfold nb at hi;omega
  have w:=kt m X bit i (m-15*i) hr (by omega);rw[show 15*i+(m-15*i)=m by omega]at w;have u:=G_ (wbk m X bit i) (15-(m-15*i)) (m-15*i)
  rw[show m-15*i+(15-(m-15*i))=15 by omega]at u;omega
theorem uC(a:aP)(m:Nat)(Y:List Nat)(v:KV a m Y)(i:Nat)(hi:15*i<=m):cOn a.xs i=cntB Y (15*i):=by
 rw[v.on i (by unfold nb;omega)];exact wu m Y i hi
theorem FQ(m g:Nat)(h:g<gN m):120*g<=m:=by
 by_cases c:g=0
 .omega
 .have:=lj m g h c;unfold nb at this;omega
theorem AP(n:Nat)(hn:n<=1048576)(c1 c2 c3:Addr)(p:Nat->Bool)(w:World)
  (hf:Hid (∀(i:Nat) w0,i<n->Below w.heap.size w w0->Qq 195 #[.int .i64 i,.pointer (some c1),.pointer (some c2),.pointer (some c3)] w0 (.bool (p i)))) (hp:Hid (∀i j,i<=j->p i=true->p j=true)):
  Calls prog 192 #[.int .i64 n,.func (.func 195) #[] #[.pointer (some c1),.pointer (some c2),.pointer (some c3)]] w fun e w'=>∃j:Nat,e=.returned (.int .i64 j)/\j<=n/\(∀i,i<j->p i=false)/\(∀i,j<=i->i<n->p i=true)/\Below w.heap.size w w':=by
 go_enter func192,ntmps192;go_wp2
 go_loopw [5,6] (fun s t wr=>∃i j:Nat,i<=j/\j<=n/\s=.int .i64 i/\t=.int .i64 j/\Hid (∀q,q<i->p q=false)/\Hid (∀q,j<=q->q<n->p q=true)/\Below w.heap.size w wr) (fun s t _=>(intOf t).toNat-(intOf s).toNat)
 case atStart=>exact⟨0,n,by omega,by omega,rfl,rfl,fun q hq=>absurd hq (by omega),fun q h1 h2=>absurd h1 (by omega),Below.refl _ _⟩
 case round=>
  obtain⟨i,j,hij,hj,rfl,rfl,H1,H2,hw⟩:=hrel;by_cases hlt:i<j
  .have hlt2:(i:Int)<(j:Int):=by omega
   have hm:(((i+j)/2:Nat):Int)=((i:Int)+(j:Int))/2:=by omega
   have C:Hid (Qq 195 #[.int .i64 (((i:Int)+(j:Int))/2),.pointer (some c1),.pointer (some c2),.pointer (some c3)] wr (.bool (p ((i+j)/2)))):=by
    have:=hf.out ((i+j)/2) wr (by omega) hw;rw[hm]at this;exact this
   have mu:IntKind.i64.wrap (((i:Int)+(j:Int))/2+1)=((i:Int)+(j:Int))/2+1:=by rw[IntKind.wrap_i64];omega
   clear hf;go_wp2_with fail;refine C.out.mono ?_;rintro e w1 ⟨rfl,hb⟩;have hw1:=bg hw hb;clear hb C;cases hq:p ((i+j)/2)with
   | true=>
    go_wp2;refine⟨⟨i,(i+j)/2,by omega,by omega,rfl,by rw[hm],H1,?_,hw1⟩,by simp only[intOf];omega⟩;intro q h1 h2;exact hp.out _ _ h1 hq
   | false=>
    go_wp2;refine⟨⟨(i+j)/2+1,j,by omega,by omega,by rw[<-hm];rfl,rfl,?_,H2,hw1⟩,by simp only[intOf];omega⟩;intro q h1;cases hq2:p q with
    | false=>rfl
    | true=>
     have:=hp.out q ((i+j)/2) (by omega) hq2;rw[hq]at this;exact this.symm
  .have hlt2:¬(i:Int)<(j:Int):=by omega
   go_wp2;go_ret;exact⟨i,rfl,by omega,H1.out,fun q h1 h2=>H2.out q (by omega) h2,hw⟩
theorem AO(cs:List Value)(a:aP)(m i k gb gx gk:Nat)(Y:List Nat)(bit:Bool)(w:World)(h:ba w cs a)(v:KV a m Y)(hi:i<gN m)(hk:k<=1048576)(c1:aa w gb [.bool bit] 4)(c2:aa w gx cs 59)(c3:aa w gk [.int .i64 k] 3):
  Qq 195 #[.int .i64 i,.pointer (some ⟨gb,0,none⟩),.pointer (some ⟨gx,0,none⟩),.pointer (some ⟨gk,0,none⟩)] w (.bool (decide (k<cB Y bit (120*i)))):=by
 have hm:=v.le;have him:=FQ m i hi;have es:=v.gs i hi;rw[uC a m Y v (8*i) (by omega),show 15*(8*i)=120*i by omega]at es
 have HO:Hid (∀w0,Qx 174 #[.bool bit,.int .i64 ((120*i:Nat):Int),.int .i64 (cntB Y (120*i):Nat)] w0 (.int .i64 (cB Y bit (120*i):Nat))):=fun w0=>nu bit (120*i) (cntB Y (120*i)) (gB _ _) (by omega) w0
 have sl:=v.sl;obtain⟨⟨ao,cap,qo,dap,so,sc,tO,tc,rfl,_,_,_,_,_,_,_,a7,_⟩,_⟩:=h;obtain⟨N,kk,V,M,xs,L,ys,S,T⟩:=a;dsimp only at *;clear v;obtain⟨b1,o1,rfl,hb1,hc1⟩:=a7 (by omega)
 have e1:=hc1 i (by omega);rw[es]at e1;have i1:(i:Int)<(S.length:Int):=by omega
 have il:i<=1048576:=by omega
 clear sl hc1 es;generalize cntB Y (120*i)=cn at *;generalize cB Y bit (120*i)=res at *
 have u1:Hid (IntKind.i64.wrap (IntKind.i64.wrap ((i:Int)*8)*15)=((120*i:Nat):Int)):=by
  have w1:IntKind.i64.wrap ((i:Int)*8)=(i:Int)*8:=by rw[IntKind.wrap_i64];omega
  have w2:IntKind.i64.wrap ((i:Int)*8*15)=((120*i:Nat):Int):=by rw[IntKind.wrap_i64];omega
  show IntKind.i64.wrap (IntKind.i64.wrap ((i:Int)*8)*15)=((120*i:Nat):Int);rw[w1,w2]
 go_enter func195,ntmps195;go_wp2
 refine bm [] (fun w'=>aa w' gb [.bool bit] 4/\aa w' gx [.int .i64 N,.int .i64 kk,.int .i64 V,.int .i64 M,.slice ao xs.length cap,.int .i64 L,.slice qo ys.length dap,.slice (some ⟨b1,o1,none⟩) S.length sc,.slice tO T.length tc] 59/\aa w' gk [.int .i64 k] 3/\w'.cell? ⟨b1,o1+i,none⟩=some (.int .i64 cn)) (by kernel_rfl) ?_
 have hS:aa w.drew gb [.bool bit] 4/\aa w.drew gx [.int .i64 N,.int .i64 kk,.int .i64 V,.int .i64 M,.slice ao xs.length cap,.int .i64 L,.slice qo ys.length dap,.slice (some ⟨b1,o1,none⟩) S.length sc,.slice tO T.length tc] 59/\aa w.drew gk [.int .i64 k] 3/\w.drew.cell? ⟨b1,o1+i,none⟩=some (.int .i64 cn):=⟨c1,c2,c3,e1⟩
 have bV:Below w.heap.size w w.drew:=(Below.refl _ _).drew;generalize w.drew=U at *;clear c1 c2 c3 e1;refine aF 0 hS rfl (fun w0 h0=>by have c0:=h0.1.cell 0 rfl;go_simp;try with_reducible rfl) ?_
 refine aK 1 hS ?_;refine aK 2 hS ?_;refine aK 3 hS ?_;refine aK 4 hS ?_;refine aF 5 hS rfl (fun w0 h0=>by have c0:=h0.2.1.cell 7 rfl;go_simp;try with_reducible rfl) ?_;refine aK 6 hS ?_
 refine aK 7 hS ?_;refine aF 8 hS rfl (fun w0 h0=>by have c0:=h0.2.2.2;go_simp;try with_reducible rfl) ?_
 refine aF 10 hS rfl (fun w0 h0=>by have c0:=h0.2.2.1.cell 0 rfl;go_simp;try with_reducible rfl) ?_;refine aO 9 ?_;intro K hK;go_simp;rw[u1.out];refine(HO.out _).mono ?_;rintro e w2 ⟨rfl,rfl⟩
 refine hK.out _ _ (fun _=>hS) ?_;clear hK K;try simp only[Act.put,ar,an,am,ah,aj,ai]
 refine aK 11 hS ?_;refine aK 12 hS ?_;refine aw.done (by kernel_rfl) ?_ _;go_wp2;go_ret;exact⟨cY (by simp),bV⟩
theorem xB(m:Nat)(X:List Nat)(bit:Bool)(i:Nat):wbk m X bit i<18446744073709551616:=by
 have:=jF m (bitAt X) i;unfold wbk;split<;>omega
theorem Ge(x:Nat)(h:x<18446744073709551616):Go.bits .xor .u64 18446744073709551615 (x:Int)=((18446744073709551615-x:Nat):Int):=by
 rw[vx _ (by omega) (by omega),Int.toNat_natCast]
theorem AN(a:aP)(m i k gb gk gp lo hi:Nat)(Y:List Nat)(bit:Bool)(w:World)(v:KV a m Y)(hi2:i<nb m)(hk:k<cB Y bit m)(hle:cB Y bit (15*i)<=k)(c1:aa w gb [.bool bit] 4)(c2:aa w gk [.int .i64 k] 3)(c3:aa w gp [.int .i64 0] 3)(n1:gp≠gb)(n2:gp≠gk)(l1:lo<=gp)(l2:gp<hi)(l3:hi<=w.heap.size):
  Calls prog 196 #[.int .i64 i,.agg #[.int .i64 (cls a.xs i:Nat),.int .u64 (cOff a.L a.ys a.xs i:Nat)],.agg #[.int .i64 (cOn a.xs i:Nat),.int .i64 (cAt a.xs i:Nat)],.pointer (some ⟨gb,0,none⟩),.pointer (some ⟨gk,0,none⟩),.pointer (some ⟨gp,0,none⟩)] w
   fun e w'=>∃b:Bool,e=.returned (.bool b)/\(b=true->(i+1<nb m/\cB Y bit (15*(i+1))<=k)/\aa w' gp [.int .i64 0] 3)/\(b=false->∃q,cP (m:Int) Y bit (k:Int)=some q/\aa w' gp [.int .i64 (q:Nat)] 3)/\aa w' gb [.bool bit] 4/\aa w' gk [.int .i64 k] 3/\aT lo hi w w':=by
 have hm:=v.le;have him:15*i<=m:=by unfold nb at hi2;omega
 have eo:=uC a m Y v i him;have cl:=iK a.xs i;have NX:=Dg m Y bit k i hk hi2;have SO:=yu m Y bit k i hk hi2 hle;have kb:=ia Y bit m;rw[<-v.cl i hi2]at NX SO
 have HO1:Hid (∀w0,Qx 174 #[.bool bit,.int .i64 (15*(i:Int)),.int .i64 (cOn a.xs i:Nat)] w0 (.int .i64 (cB Y bit (15*i):Nat))):=by
  intro w0;rw[eo];have:=nu bit (15*i) (cntB Y (15*i)) (gB _ _) (by omega) w0;rw[show((15*i:Nat):Int)=15*(i:Int)by omega]at this;exact this
 have HO2:Hid (∀w0,Qx 174 #[.bool bit,.int .i64 15,.int .i64 (cls a.xs i:Nat)] w0 (.int .i64 (obI bit 15 (cls a.xs i):Nat))):=fun w0=>nu bit 15 (cls a.xs i) cl (by omega) w0
 have HW:Hid (∀w0,Qq 102 #[.agg #[.int .i64 (cls a.xs i:Nat),.int .u64 (cOff a.L a.ys a.xs i:Nat)]] w0 (.int .u64 (blv m (bitAt Y) i:Nat))):=by
  intro w0;have:=lV (cls a.xs i) (cOff a.L a.ys a.xs i) cl (v.off i hi2) w0;rw[v.wd i hi2]at this;exact this
 have HSe:Hid (∀w0,Qx 194 #[.int .u64 (wbk m Y bit i:Nat),.int .i64 ((k:Int)-(cB Y bit (15*i):Nat))] w0 (.int .i64 (iS (wbk m Y bit i:Nat) ((k:Int)-(cB Y bit (15*i):Nat))))):=fun w0=>sp _ _ (by omega) (by have:=xB m Y bit i;omega) w0
 have HFl:Hid (bit=false->Go.bits .xor .u64 18446744073709551615 (blv m (bitAt Y) i:Nat)=((wbk m Y bit i:Nat):Int)):=by
  intro hb;rw[Ge _ (oO _ _ _),hb];rfl
 have HTr:Hid (bit=true->wbk m Y bit i=blv m (bitAt Y) i):=by
  intro hb;rw[hb];rfl
 have ob:obI bit 15 (cls a.xs i)<=15:=by unfold obI;split<;>omega
 have ib:i<=69906:=by have:=iA m hm;omega
 have blb:=ia Y bit (15*i);clear eo v hk;generalize cls a.xs i=c at *;generalize cOff a.L a.ys a.xs i=o at *;generalize cOn a.xs i=s at *;generalize cAt a.xs i=p at *;generalize obI bit 15 c=ob15 at *
 generalize wbk m Y bit i=wk at *;generalize blv m (bitAt Y) i=bw at *;obtain⟨bf,hbf⟩:∃bf,bf=cB Y bit (15*i):=⟨_,rfl⟩;rw[<-hbf]at NX SO HO1 HSe hle blb
 have HP:Hid (∃q:Nat,cP (m:Int) Y bit (k:Int)=some q\/True):=⟨0,.inr trivial⟩;clear hbf HP
 obtain⟨W,hW⟩:∃W,W=(w.alloc (.cells #[.int .i64 c,.int .u64 o] 150)).alloc (.cells #[.int .i64 s,.int .i64 p] 137):=⟨_,rfl⟩;have bW:=db hW;have B1:=dh hW;have B2:=cQ hW
 have F1:aT lo hi w W:=aT.of bW (by omega);have t1:=c1.cell 0 rfl;have lt1:=c1.lt;replace c1:=c1.kept bW;replace c2:=c2.kept bW;replace c3:=c3.kept bW
 have u1:IntKind.i64.wrap ((i:Int)*15)=((15*i:Nat):Int):=by rw[IntKind.wrap_i64];omega
 go_enter func196,ntmps196;go_wp2_with fail;rw[<-hW];refine(HO1.out _).mono ?_;rintro e w1 ⟨rfl,rfl⟩;clear HO1 u1 hW t1;go_wp2
 refine bm [] (fun w'=>aa w' w.heap.size [.int .i64 c,.int .u64 o] 150/\aa w' gb [.bool bit] 4/\aa w' gk [.int .i64 k] 3) (by kernel_rfl) ?_
 have hS:aa w1.drew w.heap.size [.int .i64 c,.int .u64 o] 150/\aa w1.drew gb [.bool bit] 4/\aa w1.drew gk [.int .i64 k] 3:=⟨B1,c1,c2⟩;replace c3:aa w1.drew gp [.int .i64 0] 3:=c3
 replace F1:aT lo hi w w1.drew:=F1.trans (aT.of (Below.refl _ _).drew (by have:=bW.size;omega));have z1:w.heap.size<=w1.drew.heap.size:=bW.size;generalize w1.drew=U at *;clear B1 B2 c1 c2 bW
 by_cases hq:bf+ob15<=k
 .have hd:decide ((bf:Int)+(ob15:Int)<=(k:Int))=true:=decide_eq_true (by omega);have hd2:IntKind.i64.wrap ((bf:Int)+(ob15:Int))=(bf:Int)+(ob15:Int):=by rw[IntKind.wrap_i64];omega
  refine aK 0 hS ?_;refine aF 1 hS rfl (fun w0 h0=>by have c0:=h0.2.1.cell 0 rfl;go_simp;try with_reducible rfl) ?_;refine aK 2 hS ?_
  refine aF 3 hS rfl (fun w0 h0=>by have c0:=h0.1.cell 0 rfl;go_simp;try with_reducible rfl) ?_;refine aF 6 hS rfl (fun w0 h0=>by have c0:=h0.2.2.cell 0 rfl;go_simp;try with_reducible rfl) ?_
  refine aO 4 ?_;intro K hK;go_simp;refine(HO2.out _).mono ?_;rintro e w2 ⟨rfl,rfl⟩;refine hK.out _ _ (fun _=>hS) ?_;clear hK K;try simp only[Act.put,ar,an,am,ah,aj,ai]
  refine aK 5 hS ?_;refine aK 7 hS ?_;refine aw.done (by kernel_rfl) ?_ _;have HN:=NX hq;clear HW HSe HFl HTr SO NX;go_wp2;go_ret;exact⟨true,rfl,fun _=>⟨HN,c3⟩,nofun,hS.2.1,hS.2.2,F1⟩
 .have hd:decide ((bf:Int)+(ob15:Int)<=(k:Int))=false:=decide_eq_false (by omega);have hd2:IntKind.i64.wrap ((bf:Int)+(ob15:Int))=(bf:Int)+(ob15:Int):=by rw[IntKind.wrap_i64];omega
  obtain⟨r,hr,hsel,hps⟩:=SO (by omega);rw[hsel]at HSe;refine aK 0 hS ?_;refine aF 1 hS rfl (fun w0 h0=>by have c0:=h0.2.1.cell 0 rfl;go_simp;try with_reducible rfl) ?_;refine aK 2 hS ?_
  refine aF 3 hS rfl (fun w0 h0=>by have c0:=h0.1.cell 0 rfl;go_simp;try with_reducible rfl) ?_;refine aF 6 hS rfl (fun w0 h0=>by have c0:=h0.2.2.cell 0 rfl;go_simp;try with_reducible rfl) ?_
  refine aO 4 ?_;intro K hK;go_simp;refine(HO2.out _).mono ?_;rintro e w2 ⟨rfl,rfl⟩;refine hK.out _ _ (fun _=>hS) ?_;clear hK K;try simp only[Act.put,ar,an,am,ah,aj,ai]
  refine aK 5 hS ?_;refine aK 7 hS ?_;refine aw.done (by kernel_rfl) ?_ _;clear NX hd hd2 SO hsel;have b0:=hS.1.cell 0 rfl;have b1:=hS.1.cell 1 rfl;go_wp2_with fail;refine mr (HW.out _) fun w3 hb=>?_
  have hS3:=And.intro (hS.2.1.kept hb) (hS.2.2.kept hb);have F3:=F1.trans (aT.of hb (by omega));replace c3:=c3.kept hb;clear hb hS F1 b0 b1;have t0:=hS3.1.cell 0 rfl;have t1:=hS3.2.cell 0 rfl;have g0:=c3.cell 0 rfl
  have g1:=c3.frozen 0;cases bit with
  | true=>
   have HT:=HTr.out rfl;subst HT;clear HFl HTr HW;go_wp2_with fail;refine(HSe.out _).mono ?_;rintro e w4 ⟨rfl,rfl⟩;clear HSe t0 t1;go_wp2;go_ret;have ev:(i:Int)*15+(r:Int)=((15*i+r:Nat):Int):=by omega
   rw[ev];exact⟨false,rfl,nofun,fun _=>⟨15*i+r,hps,c3.set 0 _⟩,hS3.1.other (by show gb≠gp;omega) _,hS3.2.other (by show gk≠gp;omega) _,F3.trans (((aB.refl gp w4).set 0 _).fr l1 l2)⟩
  | false=>
   have HF:bits BinOp.xor IntKind.u64 IntKind.u64.max (bw:Int)=(wk:Int):=HFl.out rfl;clear HFl HTr HW;go_wp2_with fail;refine(HSe.out _).mono ?_;rintro e w4 ⟨rfl,rfl⟩;clear HSe t0 t1;go_wp2;go_ret
   have ev:(i:Int)*15+(r:Int)=((15*i+r:Nat):Int):=by omega
   rw[ev];exact⟨false,rfl,nofun,fun _=>⟨15*i+r,hps,c3.set 0 _⟩,hS3.1.other (by show gb≠gp;omega) _,hS3.2.other (by show gk≠gp;omega) _,F3.trans (((aB.refl gp w4).set 0 _).fr l1 l2)⟩
structure oV (w0:World) (m k gb gk gp:Nat) (Y:List Nat) (bit:Bool) (i:Nat) (w:World):Prop where
 below:Below w0.heap.size w0 w
 lt:i<nb m
 le:cB Y bit (15*i)<=k
 c1:aa w gb [.bool bit] 4
 c2:aa w gk [.int .i64 k] 3
 c3:aa w gp [.int .i64 0] 3
theorem oV.keep{w0:World}{m k gb gk gp hi i:Nat}{Y:List Nat}{bit:Bool}{w w':World}(h:oV w0 m k gb gk gp Y bit i w)(h0:w0.heap.size<=hi)(h1:gb<hi)(h2:gk<hi)(h3:gp<hi)(hb:Below hi w w'):oV w0 m k gb gk gp Y bit i w':=
 ⟨h.below.trans (hb.mono h0),h.lt,h.le,h.c1.keep hb h1,h.c2.keep hb h2,h.c3.keep hb h3⟩
theorem AL(cs:List Value)(a:aP)(m k q:Nat)(Y:List Nat)(bit:Bool)(w:World)(h:ba w cs a)(v:KV a m Y)(hq:cP (m:Int) Y bit (k:Int)=some q):
  Qq 172 #[.agg cs.toArray,.bool bit,.int .i64 k] w (.int .i64 q):=by
 have hm:=v.le
 have hk:k<cB Y bit m:=by
  have:=(jS (m:Int) Y bit (k:Int)).1 (by rw[hq];rfl);rw[Int.toNat_natCast]at this;omega
 have hkm:=ia Y bit m;have hm0:0<nb m:=by unfold nb;omega
 have g8:gN m<=8739:=by have:=iA m hm;unfold gN;omega
 have g1:0<gN m:=by unfold gN;omega
 have HS:Hid (∀(gb gx gk:Nat) w1,Below w.heap.size w w1->aa w1 gb [.bool bit] 4->aa w1 gx cs 59->aa w1 gk [.int .i64 k] 3->Calls prog 192 #[.int .i64 (gN m:Nat),.func (.func 195) #[] #[.pointer (some ⟨gb,0,none⟩),.pointer (some ⟨gx,0,none⟩),.pointer (some ⟨gk,0,none⟩)]] w1 fun e w'=>∃g:Nat,e=.returned (.int .i64 ((g+1:Nat):Int))/\g<gN m/\cB Y bit (120*g)<=k/\Below w1.heap.size w1 w'):=by
  intro gb gx gk w1 hb c1 c2 c3;refine(AP (gN m) (by omega) ⟨gb,0,none⟩ ⟨gx,0,none⟩ ⟨gk,0,none⟩ (fun i=>decide (k<cB Y bit (120*i))) w1 ?_ ?_).mono ?_
  .intro i w2 hi hb2;exact AO cs a m i k gb gx gk Y bit w2 (h.keep (bg hb hb2)) v hi (by omega) (c1.kept hb2) (c2.kept hb2) (c3.kept hb2)
  .intro i j hij hi;simp only[decide_eq_true_eq]at hi⊢;have:=ji Y bit (120*i) (120*j-120*i);rw[show 120*i+(120*j-120*i)=120*j by omega]at this;omega
  .rintro e w2 ⟨j,rfl,hj,h1,h2,hb2⟩
   have j0:j≠0:=by
    intro e;have:=h2 0 (by omega) g1;simp only[decide_eq_true_eq]at this;have:=ia Y bit (120*0);omega
   obtain⟨g,rfl⟩:∃g,j=g+1:=⟨j-1,by omega⟩;have:=h1 g (by omega);simp only[decide_eq_false_iff_not]at this;exact⟨g,rfl,by omega,by omega,hb2⟩
 have HA:Hid (∀(g gb gk gp:Nat) w1,g<gN m->cB Y bit (120*g)<=k->Below w.heap.size w w1->aa w1 gb [.bool bit] 4->aa w1 gk [.int .i64 k] 3->aa w1 gp [.int .i64 0] 3->gp≠gb->gp≠gk->w.heap.size<=gp->Calls prog 131 #[.agg cs.toArray,.int .i64 g,.func (.func 196) #[] #[.pointer (some ⟨gb,0,none⟩),.pointer (some ⟨gk,0,none⟩),.pointer (some ⟨gp,0,none⟩)]] w1 fun e w'=>∃r,e=.returned r/\aa w' gp [.int .i64 q] 3/\aT w.heap.size w1.heap.size w1 w'):=by
  intro g gb gk gp w1 hg hle hb c1 c2 c3 n1 n2 n3
  have hg8:8*g<nb m:=by
   by_cases c:g=0
   .omega
   .exact lj m g hg c
  refine(ny cs a g (nb m) w.heap.size w1.heap.size 196 #[.pointer (some ⟨gb,0,none⟩),.pointer (some ⟨gk,0,none⟩),.pointer (some ⟨gp,0,none⟩)] (fun i w2=>oV w m k gb gk gp Y bit i w2) (fun _ w2=>aa w2 gp [.int .i64 q] 3) w1 v.nk v.nV v.ic (by omega) (by rw[v.sl];exact hg) (by rw[v.tl];exact hg) (v.gs _ hg) (v.gt _ hg) hb.size (Nat.le_refl _) ⟨hb,hg8,by rw[show 15*(8*g)=120*g by omega];exact hle,c1,c2,c3⟩ (fun i w2 hi=>h.keep hi.below) (fun i w2 w3 hi hb2=>hi.keep hb.size c1.lt c2.lt c3.lt hb2) (fun i w2 w3 hi hb2=>hi.keep hb2 c3.lt) ?cf ?st).mono ?_
  case cf=>
   intro args w2;kernel_rfl
  case st=>
   intro i w2 _ hin hse hi hw2;refine(AN a m i k gb gk gp w.heap.size w1.heap.size Y bit w2 v hin hk hi.le hi.c1 hi.c2 hi.c3 n1 n2 n3 c3.lt hw2).mono ?_;rintro e w3 ⟨b,rfl,h1,h2,d1,d2,fr⟩
   refine⟨b,rfl,fun hb=>?_,fun hb=>?_,fr⟩
   .obtain⟨⟨a1,a2⟩,a3⟩:=h1 hb;exact⟨hi.below.trans fr.below,a1,a2,d1,d2,a3⟩
   .obtain⟨q',e1,e2⟩:=h2 hb;rw[hq]at e1;obtain rfl:=Option.some.inj e1;exact e2
  .rintro e w2 ⟨i,b,rfl,_,hi,h1,h2,fr⟩;cases b with
   | true=>
    obtain⟨rfl,hI⟩:=h1 rfl;exact absurd hI.lt (Nat.lt_irrefl _)
   | false=>
    obtain⟨hlt,h3⟩:=h2 rfl;rcases h3 with⟨h3,_⟩ | ⟨_,h4⟩
    .exact absurd (v.se i hlt) h3
    .exact⟨_,rfl,h4,fr⟩
 have hmf:∀(fn:Fn) (first cap:Array Value) (w:World),(Instr.makeFunc fn first cap).run prog w=.ok (.func fn first cap) w:=fun _ _ _ _=>rfl;have sl:=v.sl;clear v
 obtain⟨⟨ao,cap,qo,dap,so,sc,tO,tc,rfl,_⟩,_⟩:=h;obtain⟨N,kk,V,M,xs,L,ys,S,T⟩:=a;dsimp only at *;rw[<-sl]at HS HA;have lb:S.length<=8739:=by omega
 clear sl hq
 obtain⟨W,hW⟩:∃W,W=((w.alloc (.cells #[.int .i64 N,.int .i64 kk,.int .i64 V,.int .i64 M,.slice ao xs.length cap,.int .i64 L,.slice qo ys.length dap,.slice so S.length sc,.slice tO T.length tc] 59)).alloc (.cells #[.bool bit] 4)).alloc (.cells #[.int .i64 k] 3):=⟨_,rfl⟩
 have bW:Below w.heap.size w W:=by rw[hW];exact((below_alloc w _).alloc (by simp) _).alloc (by simp;omega) _
 have zW:W.heap.size=w.heap.size+3:=by rw[hW];simp
 have B1:aa W w.heap.size [.int .i64 N,.int .i64 kk,.int .i64 V,.int .i64 M,.slice ao xs.length cap,.int .i64 L,.slice qo ys.length dap,.slice so S.length sc,.slice tO T.length tc] 59:=by rw[hW];exact((aa.new w _ _).alloc _).alloc _
 have B2:aa W (w.heap.size+1) [.bool bit] 4:=by rw[hW];exact(aa.new2 w _ _ _).alloc _
 have B3:aa W (w.heap.size+2) [.int .i64 k] 3:=by
  have:=aa.new2 (w.alloc (.cells #[.int .i64 N,.int .i64 kk,.int .i64 V,.int .i64 M,.slice ao xs.length cap,.int .i64 L,.slice qo ys.length dap,.slice so S.length sc,.slice tO T.length tc] 59)) (.cells #[.bool bit] 4) [.int .i64 k] 3
  rw[hW];simpa using this
 go_enter func172,ntmps172;go_wp2_with fail;rw[<-hW];refine(HS.out (w.heap.size+1) w.heap.size (w.heap.size+2) W bW B2 B1 B3).mono ?_;rintro e w1 ⟨g,rfl,hg,hle,hb⟩;have bw1:=bg bW hb
 have z1:=hb.size;replace B1:=B1.kept hb;replace B2:=B2.kept hb;replace B3:=B3.kept hb;clear hb hW HS bW;have q0:=B1.cell 0 rfl;have q1:=B1.cell 1 rfl;have q2:=B1.cell 2 rfl;have q3:=B1.cell 3 rfl
 have q4:=B1.cell 4 rfl;have q5:=B1.cell 5 rfl;have q6:=B1.cell 6 rfl;have q7:=B1.cell 7 rfl;have q8:=B1.cell 8 rfl;have l1:=B1.lt;obtain⟨W2,hW2⟩:∃W2,W2=w1.alloc (.cells #[.int .i64 0] 3):=⟨_,rfl⟩
 have hb2:Below w1.heap.size w1 W2:=by rw[hW2];exact below_alloc w1 _
 have B4:aa W2 w1.heap.size [.int .i64 0] 3:=by rw[hW2];exact aa.new w1 _ _
 have bw2:=bg bw1 hb2;replace B2:=B2.kept hb2;replace B3:=B3.kept hb2;go_wp2_with fail;rw[<-hW2]
 refine(HA.out g (w.heap.size+1) (w.heap.size+1+1) w1.heap.size W2 hg hle bw2 B2 B3 B4 (by omega) (by omega) (by omega)).mono ?_;rintro e w3 ⟨r,rfl,d,fr⟩;have bw3:=bw2.trans fr.below;have d0:=d.cell 0 rfl
 clear q0 q1 q2 q3 q4 q5 q6 q7 q8 hW2 hb2 B1 B2 B3 B4 HA fr bw2;go_wp2;go_ret;exact⟨rfl,bw3⟩
theorem yP(cs:List Value)(a:aP)(bit:Bool)(k:Int)(w:World)(h:ba w cs a)(hk2:aD k):
  Qq 124 #[.agg cs.toArray,.bool bit,.int .i64 k] w (.tuple #[.int .i64 (gsX (kOk8 a) (kBN8 a) (kBX8 a) bit k),.int .i64 (gsE (kOk8 a) (kBN8 a) (kBX8 a) bit k)]):=by
 have C:=fun(w0:World) (hb:Below w.heap.size w w0)=>lW cs a w0 (h.keep hb);cases hk:kOk8 a with
 | false=>
  rw[hk]at C;have CH:Hid (Qz w 100 #[.agg cs.toArray] (.bool false)):=C
  show Calls _ _ _ _ fun e w'=>e=.returned (.tuple #[.int .i64 0,.int .i64 2])/\Below w.heap.size w w';clear C hk;obtain⟨⟨ao,cap,qo,dap,so,sc,tO,tc,rfl,_⟩,_⟩:=h;obtain⟨N,kk,V,M,xs,L,ys,S,T⟩:=a
  dsimp only at *
  obtain⟨W,hW⟩:∃W,W=w.alloc (.cells #[.int .i64 N,.int .i64 kk,.int .i64 V,.int .i64 M,.slice ao xs.length cap,.int .i64 L,.slice qo ys.length dap,.slice so S.length sc,.slice tO T.length tc] 59):=⟨_,rfl⟩
  have bW:=aY hW;go_enter func124,ntmps124;go_wp2_with fail;rw[<-hW];refine mr (CH.out _ bW) fun w1 hb=>?_;have bw1:=bg bW hb;clear hW hb;go_wp2;go_ret2;exact⟨rfl,bw1⟩
 | true=>
 rw[hk]at C;have CH:Hid (Qz w 100 #[.agg cs.toArray] (.bool true)):=C;obtain⟨m,eN,v⟩:=nJ a hk;have hm:=v.le
 have vN:=v.nN;clear C hk;rw[eN];generalize kBX8 a=Y at *
 have HB:Hid (Qz w 127 #[.agg cs.toArray,.bool bit,.int .i64 m] (.int .i64 (cB Y bit m:Nat))):=fun w0 hb=>s_ cs a m m Y bit w0 (h.keep hb) v (Nat.le_refl _)
 have HQ:Hid (∀(n q:Nat) w0,cP (m:Int) Y bit (n:Int)=some q->Below w.heap.size w w0->Qq 172 #[.agg cs.toArray,.bool bit,.int .i64 (n:Int)] w0 (.int .i64 (q:Nat))):=fun n q w0 hq hb=>AL cs a m n q Y bit w0 (h.keep hb) v hq
 have PI:=jS (m:Int) Y bit k;rw[Int.toNat_natCast]at PI;have cb:=ia Y bit m;clear v;obtain⟨⟨ao,cap,qo,dap,so,sc,tO,tc,rfl,_⟩,_⟩:=h;obtain⟨N,kk,V,M,xs,L,ys,S,T⟩:=a;dsimp only at *;subst vN
 obtain⟨W,hW⟩:∃W,W=w.alloc (.cells #[.int .i64 m,.int .i64 kk,.int .i64 V,.int .i64 M,.slice ao xs.length cap,.int .i64 L,.slice qo ys.length dap,.slice so S.length sc,.slice tO T.length tc] 59):=⟨_,rfl⟩
 have bW:=aY hW;have B1:=bj hW;unfold gsX gsE;rw[if_pos rfl,if_pos rfl];cases hp:cP (m:Int) Y bit k with
 | none=>
  have hn:¬(0<=k/\k<(cB Y bit m:Int)):=fun c=>by
   have:=PI.2 c;rw[hp]at this;cases this
  show Calls _ _ _ _ fun e w'=>e=.returned (.tuple #[.int .i64 0,.int .i64 3])/\Below w.heap.size w w';clear HQ PI hp;generalize cB Y bit m=cn at *;go_enter func124,ntmps124;go_wp2_with fail;rw[<-hW]
  refine mr (CH.out _ bW) fun w1 hb=>?_;have bw1:=bg bW hb;replace B1:=B1.kept hb;have q0:=B1.cell 0 rfl;have q1:=B1.cell 1 rfl;have q2:=B1.cell 2 rfl;have q3:=B1.cell 3 rfl
  have q4:=B1.cell 4 rfl;have q5:=B1.cell 5 rfl;have q6:=B1.cell 6 rfl;have q7:=B1.cell 7 rfl;have q8:=B1.cell 8 rfl;clear hW hb;by_cases h0:k<0
  .go_wp2;go_ret2;exact⟨rfl,bw1⟩
  .have h1:(cn:Int)<=k:=by omega
   go_wp2_with fail;refine mr (HB.out _ bw1) fun w2 hb=>?_;have bw2:=bg bw1 hb;clear hb bw1 q0 q1 q2 q3 q4 q5 q6 q7 q8 B1 HB;go_wp2;go_ret2;exact⟨rfl,bw2⟩
 | some q=>
  have hn:=PI.1 (by rw[hp];rfl);obtain⟨n,rfl⟩:=Int.eq_ofNat_of_zero_le hn.1
  have HQ2:Hid (Qz w 172 #[.agg #[.int .i64 m,.int .i64 kk,.int .i64 V,.int .i64 M,.slice ao xs.length cap,.int .i64 L,.slice qo ys.length dap,.slice so S.length sc,.slice tO T.length tc],.bool bit,.int .i64 (n:Int)] (.int .i64 (q:Nat))):=fun w0 hb=>HQ.out n q w0 hp hb
  show Calls _ _ _ _ fun e w'=>e=.returned (.tuple #[.int .i64 (q:Nat),.int .i64 0])/\Below w.heap.size w w';clear HQ PI hp;generalize cB Y bit m=cn at *;have h0:¬(n:Int)<0:=by omega
  have h1:¬(cn:Int)<=(n:Int):=by omega
  go_enter func124,ntmps124;go_wp2_with fail;rw[<-hW];refine mr (CH.out _ bW) fun w1 hb=>?_;have bw1:=bg bW hb;replace B1:=B1.kept hb;have q0:=B1.cell 0 rfl
  have q1:=B1.cell 1 rfl;have q2:=B1.cell 2 rfl;have q3:=B1.cell 3 rfl;have q4:=B1.cell 4 rfl;have q5:=B1.cell 5 rfl;have q6:=B1.cell 6 rfl;have q7:=B1.cell 7 rfl;have q8:=B1.cell 8 rfl;clear hW hb
  go_wp2_with fail;refine mr (HB.out _ bw1) fun w2 hb=>?_;have bw2:=bg bw1 hb;replace B1:=B1.kept hb;clear hb bw1 q0 q1 q2 q3 q4 q5 q6 q7 q8 HB;have q0:=B1.cell 0 rfl;have q1:=B1.cell 1 rfl
  have q2:=B1.cell 2 rfl;have q3:=B1.cell 3 rfl;have q4:=B1.cell 4 rfl;have q5:=B1.cell 5 rfl;have q6:=B1.cell 6 rfl;have q7:=B1.cell 7 rfl;have q8:=B1.cell 8 rfl;go_wp2_with fail;refine mr (HQ2.out _ bw2) fun w3 hb=>?_;have bw3:=bg bw2 hb;clear hb bw2 q0 q1 q2 q3 q4 q5 q6 q7 q8 HQ2 B1;go_wp2;go_ret2;exact⟨rfl,bw3⟩
def rowP(n:Nat)(F:Nat->Bool)(p:Nat):List Nat:=rowOf n fun j=>decide (j<p)&&F j
theorem length_rowP(n:Nat)(F:Nat->Bool)(p:Nat):(rowP n F p).length=(n+63)/64:=cM _ _
theorem vC(n:Nat)(F:Nat->Bool)(p:Nat):aA (rowP n F p):=cO _ _
theorem zt(n:Nat)(F:Nat->Bool):rowP n F 0=rowOf n fun _=>false:=cU _ _ _ fun i _=>by simp
theorem sJ(n:Nat)(F:Nat->Bool)(p d x:Nat)(hd:d<=64)(hp:p+d<=n)(hx:x<2^d):jL (rowP n F p) p x:=
 zC _ _ _ d hx hd (by rw[length_rowP];omega)
theorem zu(n:Nat)(F:Nat->Bool)(p d x:Nat)(hd:d<=64)(hp:p+d<=n)(hx:x<2^d)(hb:∀t,t<d->x.testBit t=F (p+t)):dI (rowP n F p) p x=rowP n F (p+d):=by
 have hR:=sJ n F p d x hd hp hx;have h64:x<18446744073709551616:=Nat.lt_of_lt_of_le hx (Nat.pow_le_pow_right (n:=2) (j:=64) (by decide) hd)
 refine jC n _ _ (Gi _ (vC _ _ _) _ _ h64 hR) (by rw[En,length_rowP]) fun i _=>?_;rw[IP _ _ _ h64 hR];unfold rowP;rw[eM];by_cases c:i<p
 .simp[c,show i<p+d by omega,show ¬p<=i by omega]
 .by_cases e:i<p+d
  .have:=hb (i-p) (by omega);rw[show p+(i-p)=i by omega]at this;simp[c,e,show p<=i by omega,this,show i<n by omega]
  .have:x<2^(i-p):=Nat.lt_of_lt_of_le hx (Nat.pow_le_pow_right (by decide) (by omega));rw[Nat.testBit_lt_two_pow this];simp[c,e]
theorem It(m:Nat)(f:Nat->Bool)(i:Nat):blv m f i<2^(min 15 (m-15*i)):=by
 unfold blv
 have e:numOf 15 (fun k=>decide (15*i+k<m)&&f (15*i+k))=numOf (min 15 (m-15*i)) (fun k=>decide (15*i+k<m)&&f (15*i+k)):=by
  refine jf _ _ _ fun t=>?_;rw[im];by_cases c:t<min 15 (m-15*i)
  .simp[c,show t<15 by omega]
  .by_cases d:t<15
   .simp[c,show ¬15*i+t<m by omega]
   .simp[c,d]
 rw[e];exact eH _ _
theorem IB(m:Nat)(Y:List Nat)(i:Nat)(hi:i<nb m):jL (rowP m (bitAt Y) (15*i)) (15*i) (blv m (bitAt Y) i)/\dI (rowP m (bitAt Y) (15*i)) (15*i) (blv m (bitAt Y) i)=rowP m (bitAt Y) (15*(i+1)):=by
 have hm:15*i<m:=by unfold nb at hi;omega
 have hx:=It m (bitAt Y) i;refine⟨sJ m _ _ (min 15 (m-15*i)) _ (by omega) (by omega) hx,?_⟩;rw[zu m (bitAt Y) (15*i) (min 15 (m-15*i)) _ (by omega) (by omega) hx fun t ht=>?_]
 .refine cU _ _ _ fun j hj=>?_;by_cases c:j<15*(i+1)
  .simp[c,show j<15*i+min 15 (m-15*i)by omega]
  .simp[c,show ¬j<15*i+min 15 (m-15*i)by omega]
 .unfold blv;rw[im];simp[show t<15 by omega,show 15*i+t<m by omega]
theorem II(m:Nat)(Y:List Nat)(hf:aA Y)(hk:az (m:Int) Y=true):rowP m (bitAt Y) (15*nb m)=Y:=by
 rw[<-px m Y hf hk];refine cU _ _ _ fun j hj=>?_;rw[px m Y hf hk];simp[show j<15*nb m by unfold nb;omega]
theorem bh.fr{g lo hi:Nat}{w w':World}(h:bh g w w')(h1:lo<=g)(h2:g<hi):aT lo hi w w':=⟨h.below h1,fun b hb _=>h.block b (by omega)⟩
theorem bh.cel{g b:Nat}{w w':World}{cs:List Value}{T:TypeId}(h:bh g w w')(hc:aa w b cs T)(hb:b≠g):aa w' b cs T:=(h.block b hb).trans hc
theorem A3(a:aP)(m i n gr gw lo hi:Nat)(Y:List Nat)(w:World)(v:KV a m Y)(hi2:i<nb m)(hn:n=(m+63)/64)(c1:aa w gr [.int .i64 m,.slice (some ⟨gw,0,none⟩) n n] 53)(c2:Own w gw (rowP m (bitAt Y) (15*i)))(l1:lo<=gw)(l2:gw<hi)(l3:hi<=w.heap.size)(l4:gr≠gw):
  Calls prog 132 #[.int .i64 i,.agg #[.int .i64 (cls a.xs i:Nat),.int .u64 (cOff a.L a.ys a.xs i:Nat)],.agg #[.int .i64 (cOn a.xs i:Nat),.int .i64 (cAt a.xs i:Nat)],.pointer (some ⟨gr,0,none⟩)] w
   fun e w'=>e=.returned (.bool true)/\Own w' gw (rowP m (bitAt Y) (15*(i+1)))/\aT lo hi w w'/\(∀b,b≠gw->b<w.heap.size->w'.heap[b]?=w.heap[b]?):=by
 have hm:=v.le;have him:15*i<=m:=by unfold nb at hi2;omega
 have cl:=iK a.xs i
 have HW:Hid (∀w0,Qq 102 #[.agg #[.int .i64 (cls a.xs i:Nat),.int .u64 (cOff a.L a.ys a.xs i:Nat)]] w0 (.int .u64 (blv m (bitAt Y) i:Nat))):=by
  intro w0;have:=lV (cls a.xs i) (cOff a.L a.ys a.xs i) cl (v.off i hi2) w0;rw[v.wd i hi2]at this;exact this
 obtain⟨st1,st2⟩:=IB m Y i hi2
 have HL:Hid (∀w0,Own w0 gw (rowP m (bitAt Y) (15*i))->Calls prog 133 #[.slice (some ⟨gw,0,none⟩) n n,.int .i64 ((15*i:Nat):Int),.int .u64 (blv m (bitAt Y) i:Nat)] w0 fun e w'=>e=.returned (.tuple #[])/\Own w' gw (rowP m (bitAt Y) (15*(i+1)))/\bh gw w0 w'):=by
  intro w0 h0;have:=AR (rowP m (bitAt Y) (15*i)) n gw n (15*i) (blv m (bitAt Y) i) w0 (by rw[length_rowP,hn]) h0 (by omega) (vC _ _ _) (oO _ _ _) st1;rw[st2]at this;exact this
 have u1:Hid (IntKind.i64.wrap ((i:Int)*15)=((15*i:Nat):Int)):=by show _=_;rw[IntKind.wrap_i64];omega
 have ib:i<=69906:=by have:=iA m hm;omega
 clear v st1 st2 hn;generalize cls a.xs i=c at *;generalize cOff a.L a.ys a.xs i=o at *;generalize cOn a.xs i=s at *;generalize cAt a.xs i=p at *;generalize blv m (bitAt Y) i=bw at *
 generalize rowP m (bitAt Y) (15*(i+1))=R2 at *;generalize rowP m (bitAt Y) (15*i)=R1 at *
 obtain⟨W,hW⟩:∃W,W=(w.alloc (.cells #[.int .i64 c,.int .u64 o] 150)).alloc (.cells #[.int .i64 s,.int .i64 p] 137):=⟨_,rfl⟩;have bW:=db hW;have B1:=dh hW
 have F1:aT lo hi w W:=aT.of bW (by omega);have G1:∀b,b<w.heap.size->W.heap[b]?=w.heap[b]?:=fun b hb=>bW.block b hb;replace c1:=c1.kept bW;replace c2:=c2.keep bW;have z1:=bW.size;clear bW
 go_enter func132,ntmps132;go_wp2;rw[<-hW];clear hW
 refine bm [] (fun w'=>aa w' w.heap.size [.int .i64 c,.int .u64 o] 150/\aa w' gr [.int .i64 m,.slice (some ⟨gw,0,none⟩) n n] 53) (by kernel_rfl) ?_
 have hS:aa W.drew w.heap.size [.int .i64 c,.int .u64 o] 150/\aa W.drew gr [.int .i64 m,.slice (some ⟨gw,0,none⟩) n n] 53:=⟨B1,c1⟩;replace c2:Own W.drew gw R1:=c2
 replace F1:aT lo hi w W.drew:=F1.trans (aT.of (Below.refl _ _).drew (by omega));replace G1:∀b,b<w.heap.size->W.drew.heap[b]?=w.heap[b]?:=G1;have z2:w.heap.size<=W.drew.heap.size:=z1
 generalize W.drew=U at *;clear B1 c1;refine aK 0 hS ?_;refine aF 1 hS rfl (fun w0 h0=>by have c0:=h0.2.cell 1 rfl;go_simp;try with_reducible rfl) ?_;refine aK 2 hS ?_;refine aK 3 hS ?_
 refine aF 4 hS rfl (fun w0 h0=>by have c0:=h0.1.cell 0 rfl;have c1:=h0.1.cell 1 rfl;go_simp;try with_reducible rfl) ?_;refine aO 5 ?_;intro K hK;go_simp;refine mr (HW.out _) fun w3 hb=>?_
 have hS3:=And.intro (hS.1.kept hb) (hS.2.kept hb);have F3:=F1.trans (aT.of hb (by omega));have G3:∀b,b<w.heap.size->w3.heap[b]?=w.heap[b]?:=fun b h=>(hb.block b (by omega)).trans (G1 b h)
 replace c2:=c2.keep hb;clear hb hS F1 G1 HW;refine hK.out _ _ (fun _=>hS3) ?_;clear hK K;try simp only[Act.put,ar,an,am,ah,aj,ai]
 refine aO 6 ?_;intro K hK;go_simp;rw[u1.out];refine(HL.out _ c2).mono ?_;rintro e w4 ⟨rfl,hO,hT⟩;have hS4:=And.intro (hT.cel hS3.1 (by omega)) (hT.cel hS3.2 l4);have F4:=F3.trans (hT.fr l1 l2)
 have G4:∀b,b≠gw->b<w.heap.size->w4.heap[b]?=w.heap[b]?:=fun b h0 h=>(hT.block b h0).trans (G3 b h);clear c2 hT hS3 F3 G3 HL;refine hK.out _ _ (fun _=>hS4) ?_;clear hK K
 try simp only[Act.put,ar,an,am,ah,aj,ai]
 refine aw.done (by kernel_rfl) ?_ _;clear hS4;go_wp2;go_ret;exact⟨rfl,hO,F4,G4⟩
structure jK (w0:World) (m n gr gw gz:Nat) (Y:List Nat) (i:Nat) (w:World):Prop where
 below:Below w0.heap.size w0 w
 row:aa w gr [.int .i64 m,.slice (some ⟨gw,0,none⟩) n n] 53
 z:aa w gz [.int .i64 0,.slice none 0 0] 53
 own:Own w gw (rowP m (bitAt Y) (15*i))
theorem jK.keep{w0:World}{m n gr gw gz hi i:Nat}{Y:List Nat}{w w':World}(h:jK w0 m n gr gw gz Y i w)(h0:w0.heap.size<=hi)(h1:gr<hi)(h2:gw<hi)(h3:gz<hi)(hb:Below hi w w'):jK w0 m n gr gw gz Y i w':=
 ⟨h.below.trans (hb.mono h0),h.row.keep hb h1,h.z.keep hb h3,(hb.block gw h2).trans h.own⟩
theorem IF(cs:List Value)(a:aP)(w:World)(h:ba w cs a):
  Calls prog 80 #[.agg cs.toArray] w fun e w'=>∃bo bc,e=.returned (.agg #[.int .i64 (kBN8 a),.slice bo (kBX8 a).length bc])/\Wd w' bo (kBX8 a)/\(kBX8 a).length<=bc/\Below w.heap.size w w':=by
 have C:=fun(w0:World) (hb:Below w.heap.size w w0)=>lW cs a w0 (h.keep hb);cases hk:kOk8 a with
 | false=>
  rw[hk]at C;have CH:Hid (Qz w 100 #[.agg cs.toArray] (.bool false)):=C
  have hr:cC a.N a.k a.V a.M a.xs a.L a.ys a.S a.T=false:=hk;have e1:kBN8 a=0:=by unfold kBN8 fi;rw[hr];rfl
  have e2:kBX8 a=[]:=by unfold kBX8 du;rw[hr];rfl
  rw[e1,e2];clear C hk hr e1 e2;obtain⟨⟨ao,cap,qo,dap,so,sc,tO,tc,rfl,_⟩,_⟩:=h;obtain⟨N,k,V,M,xs,L,ys,S,T⟩:=a;dsimp only at *
  obtain⟨W,hW⟩:∃W,W=(w.alloc (.cells #[.int .i64 N,.int .i64 k,.int .i64 V,.int .i64 M,.slice ao xs.length cap,.int .i64 L,.slice qo ys.length dap,.slice so S.length sc,.slice tO T.length tc] 59)).alloc (.cells #[.int .i64 0,.slice none 0 0] 53):=⟨_,rfl⟩
  have bW:=db hW;have B2:=cQ hW;go_enter func80,ntmps80;go_wp2_with fail;rw[<-hW];refine mr (CH.out _ bW) fun w1 hb=>?_;have bw1:=bg bW hb;replace B2:=B2.kept hb
  have f0:=B2.frozen 0;have f1:=B2.frozen 1;have n0:=B2.cell 0 rfl;have n1:=B2.cell 1 rfl;clear hW hb;go_wp2
  refine bodyPost_ret (gJ rfl (w.heap.size+1) [.int .i64 0,.slice none 0 0] rfl ((B2.set 0 _).set 1 _) underlying53 ef) rfl ⟨none,0,rfl,fun h=>absurd h (Nat.lt_irrefl _),Nat.le_refl _,?_⟩
  exact(bw1.setCell (by show w.heap.size<=w.heap.size+1;omega) _).setCell (by show w.heap.size<=w.heap.size+1;omega) _
 | true=>
  rw[hk]at C;have CH:Hid (Qz w 100 #[.agg cs.toArray] (.bool true)):=C;obtain⟨m,eN,v⟩:=nJ a hk;have hm:=v.le
  have vN:=v.nN;clear C hk;rw[eN];generalize kBX8 a=Y at *;obtain⟨n,hn⟩:∃n,n=(m+63)/64:=⟨_,rfl⟩
  have hYl:Y.length=n:=by
   obtain⟨_,_,q,_⟩:=bn _ _ v.ck;omega
  have HN:Hid (∀w0,Calls prog 130 #[.int .i64 m] w0 fun e w'=>∃g,e=.returned (.agg #[.int .i64 m,.slice (some ⟨g,0,none⟩) n n])/\w0.heap.size<=g/\Own w' g (rowP m (bitAt Y) (15*0))/\Below w0.heap.size w0 w'):=by
   intro w0;have:=AQ m n hm hn w0;rw[<-zt m (bitAt Y)]at this;exact this
  have g1:0<gN m:=by unfold gN;omega
  have HA:Hid (∀(gr gw gz:Nat) w1,jK w m n gr gw gz Y 0 w1->w.heap.size<=gw->gr≠gw->gz≠gw->gr<w1.heap.size->gz<w1.heap.size->Calls prog 131 #[.agg cs.toArray,.int .i64 0,.func (.func 132) #[] #[.pointer (some ⟨gr,0,none⟩)]] w1 fun e w'=>∃r,e=.returned r/\jK w m n gr gw gz Y (nb m) w'):=by
   intro gr gw gz w1 hI l1 l2 l3 l4 l5;have l6:gw<w1.heap.size:=hI.own.lt
   refine(ny cs a 0 (nb m) w.heap.size w1.heap.size 132 #[.pointer (some ⟨gr,0,none⟩)] (fun i w2=>jK w m n gr gw gz Y i w2) (fun _ _=>False) w1 v.nk v.nV v.ic (by omega) (by rw[v.sl];exact g1) (by rw[v.tl];exact g1) (v.gs _ g1) (v.gt _ g1) hI.below.size (Nat.le_refl _) hI (fun i w2 hi=>h.keep hi.below) (fun i w2 w3 hi hb=>hi.keep hI.below.size l4 l6 l5 hb) (fun _ _ _ hf _=>hf) ?cf ?st).mono ?_
   case cf=>
    intro args w2;kernel_rfl
   case st=>
    intro i w2 _ hin hse hi hw2;refine(A3 a m i n gr gw w.heap.size w1.heap.size Y w2 v hin hn hi.row hi.own l1 l6 hw2 l2).mono ?_;rintro e w3 ⟨rfl,d1,fr,gg⟩
    refine⟨true,rfl,fun _=>⟨hi.below.trans fr.below,(gg gr l2 hi.row.lt).trans hi.row,(gg gz l3 hi.z.lt).trans hi.z,d1⟩,nofun,fr⟩
   .rintro e w2 ⟨q,b,rfl,_,hq,h1,h2,fr⟩;cases b with
    | true=>exact⟨_,rfl,(h1 rfl).2⟩
    | false=>
     obtain⟨hlt,h3⟩:=h2 rfl;rcases h3 with⟨h3,_⟩ | ⟨_,h4⟩
     .exact absurd (v.se q hlt) h3
     .exact absurd h4 id
  have hmf:∀(fn:Fn) (first cap:Array Value) (w:World),(Instr.makeFunc fn first cap).run prog w=.ok (.func fn first cap) w:=fun _ _ _ _=>rfl
  have HE:Hid (rowP m (bitAt Y) (15*nb m)=Y):=II m Y v.fit v.ck;clear v hn;obtain⟨⟨ao,cap,qo,dap,so,sc,tO,tc,rfl,_⟩,_⟩:=h;obtain⟨N,k,V,M,xs,L,ys,S,T⟩:=a;dsimp only at *;subst vN
  obtain⟨W,hW⟩:∃W,W=(w.alloc (.cells #[.int .i64 m,.int .i64 k,.int .i64 V,.int .i64 M,.slice ao xs.length cap,.int .i64 L,.slice qo ys.length dap,.slice so S.length sc,.slice tO T.length tc] 59)).alloc (.cells #[.int .i64 0,.slice none 0 0] 53):=⟨_,rfl⟩
  have bW:=db hW;have zW:W.heap.size=w.heap.size+2:=by rw[hW];simp
  have B1:=dh hW;have B2:=cQ hW;go_enter func80,ntmps80;go_wp2_with fail;rw[<-hW];refine mr (CH.out _ bW) fun w1 hb=>?_;have bw1:=bg bW hb;have z1:=hb.size
  replace B1:=B1.kept hb;replace B2:=B2.kept hb;have q0:=B1.cell 0 rfl;clear hW hb bW CH;go_wp2_with fail;refine(HN.out _).mono ?_;rintro e w2 ⟨g,rfl,hg,hO,hb⟩;have bw2:=bg bw1 hb
  have z2:=hb.size;replace B1:=B1.kept hb;replace B2:=B2.kept hb;have lg:=hO.lt;clear q0 hb bw1 HN;have q0:=B1.cell 0 rfl;have q1:=B1.cell 1 rfl;have q2:=B1.cell 2 rfl;have q3:=B1.cell 3 rfl
  have q4:=B1.cell 4 rfl;have q5:=B1.cell 5 rfl;have q6:=B1.cell 6 rfl;have q7:=B1.cell 7 rfl;have q8:=B1.cell 8 rfl;have l1:=B1.lt
  obtain⟨W3,hW3⟩:∃W3,W3=w2.alloc (.cells #[.int .i64 m,.slice (some ⟨g,0,none⟩) n n] 53):=⟨_,rfl⟩;have hb3:Below w2.heap.size w2 W3:=by rw[hW3];exact below_alloc w2 _
  have z3:W3.heap.size=w2.heap.size+1:=by rw[hW3];simp
  have B3:aa W3 w2.heap.size [.int .i64 m,.slice (some ⟨g,0,none⟩) n n] 53:=by rw[hW3];exact aa.new w2 _ _
  have HI:Hid (jK w m n w2.heap.size g (w.heap.size+1) Y 0 W3):=⟨bg bw2 hb3,B3,B2.kept hb3,hO.keep hb3⟩;clear hO B2 B3 bw2 hb3;go_wp2_with fail;rw[<-hW3]
  refine(HA.out w2.heap.size g (w.heap.size+1) W3 HI.out (by omega) (by omega) (by omega) (by omega) (by omega)).mono ?_;rintro e w4 ⟨r,rfl,hI⟩;have r0:=hI.row.cell 0 rfl;have r1:=hI.row.cell 1 rfl
  have f0:=hI.z.frozen 0;have f1:=hI.z.frozen 1;have n0:=hI.z.cell 0 rfl;have n1:=hI.z.cell 1 rfl;have HI4:Hid (jK w m n w2.heap.size g (w.heap.size+1) Y (nb m) w4):=hI
  clear hI HI HA q0 q1 q2 q3 q4 q5 q6 q7 q8 B1 hW3;go_wp2;obtain⟨i1,i2,i3,i4⟩:=HI4.out;rw[HE.out]at i4
  have i5:Own ((w4.setCell ⟨w.heap.size+1,0,none⟩ (.int .i64 m)).setCell ⟨w.heap.size+1,1,none⟩ (.slice (some ⟨g,0,none⟩) n n)) g Y:=(i4.set_other (by show g≠w.heap.size+1;omega) _).set_other (by show g≠w.heap.size+1;omega) _
  refine bodyPost_ret (gJ rfl (w.heap.size+1) [.int .i64 m,.slice (some ⟨g,0,none⟩) n n] rfl ((i3.set 0 _).set 1 _) underlying53 ef) rfl ⟨some ⟨g,0,none⟩,n,by rw[hYl],i5.wd,by omega,?_⟩
  exact(i1.setCell (by show w.heap.size<=w.heap.size+1;omega) _).setCell (by show w.heap.size<=w.heap.size+1;omega) _
end Go.Proofs.YtleegaihbgbcjabGreatDoor
namespace Go.Proofs.YtleegaihbgbcjabGreatDoor
open Go.RowKit Num Bit
open Go.RowKit Num Bit Bn
end Go.Proofs.YtleegaihbgbcjabGreatDoor
