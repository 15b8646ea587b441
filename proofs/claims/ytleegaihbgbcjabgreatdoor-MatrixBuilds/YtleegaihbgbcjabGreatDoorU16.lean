import Derived.Test.YtleegaihbgbcjabGreatDoorU12
set_option linter.unusedVariables false
set_option linter.unusedSimpArgs false
set_option maxRecDepth 100000
set_option maxHeartbeats 16000000
open Go.Proofs.Tryz
namespace Go.Proofs.YtleegaihbgbcjabGreatDoor
open Go.RowKit Num Bit Bn
theorem aC.fr{g lo hi:Nat}{w w':World}(h:aC g w w')(h1:lo<=g)(h2:g<hi):bm lo hi w w':=⟨h.below h1,fun b hb _=>h.block b (by omega)⟩
theorem Em:(prog.info? 150).map (·.size)=some 2:=by kernel_rfl
theorem ut:(prog.info? 137).map (·.size)=some 2:=by kernel_rfl
def wi(a:aT)(i:Nat):Prop:=cOff a.L a.ys a.xs i<ch 15 (cls a.xs i)/\(i%8=0->gi a.S (i/8)=cOn a.xs i/\gi a.T (i/8)=cAt a.xs i)
theorem Aj(cs:List Value)(a:aT)(i gl gx lo hi:Nat)(old:List Value)(w0 w:World)(h:br w0 cs a)(hb:Below w0.heap.size w0 w)(hlo:lo=w0.heap.size)(hil:i<=1048576)(h8s:i/8<a.S.length)(h8t:i/8<a.T.length)
  (hcl:aa w gl old 150) (ho:old.length=2) (hcx:aa w gx cs 59) (h2:gl≠gx) (h3:lo<=gl) (h4:gl<hi) (h5:hi<=w.heap.size):
  Calls prog 155 #[.int .i64 i,.agg #[.int .i64 (cls a.xs i:Nat),.int .u64 (cOff a.L a.ys a.xs i:Nat)],.agg #[.int .i64 (cOn a.xs i:Nat),.int .i64 (cAt a.xs i:Nat)],.pointer (some ⟨gl,0,none⟩),.pointer (some ⟨gx,0,none⟩)] w
   fun e w'=>e=.returned (.bool (decide (cOff a.L a.ys a.xs i<ch 15 (cls a.xs i)/\(i%8=0->gi a.S (i/8)=cOn a.xs i/\gi a.T (i/8)=cAt a.xs i))))/\aa w' gl [.int .i64 (cls a.xs i:Nat),.int .u64 (cOff a.L a.ys a.xs i:Nat)] 150/\Tb w' 1 (wv iw)/\aa w' gx cs 59/\bm lo hi w w':=by
 have HM:Hid (∀w1,Below w0.heap.size w0 w1->Qq 154 #[.agg cs.toArray,.int .i64 (i/8:Nat)] w1 (.agg #[.int .i64 (gi a.S (i/8)),.int .i64 (gi a.T (i/8))])):=fun w1 hb1=>o_ cs a (i/8) w1 (h.keep hb1) h8s h8t
 have hcw:Tb w 1 (wv iw):=h.gv.wy.kept hb;have L0:=h.gv.two;have fS:=h.arg;obtain⟨⟨ao,cap,qo,dap,so,sc,tO,tc,rfl,⟨_,_,_,_,_,fs,ft⟩,_⟩,_⟩:=h;obtain⟨N,k,V,M,xs,L,ys,S,T⟩:=a;dsimp only at *
 have cl:=j1 xs i;have cof:=Gw L ys xs i;have fs1:=fs (i/8);have ft1:=ft (i/8)
 have HWd:Hid ((wv iw)[cls xs i]?=some (.int .u64 (ch 15 (cls xs i):Nat))):=by
  show(wv iw)[cls xs i]?=_;rw[wH iw (cls xs i) (by rw[DH];omega),EG _ cl]
 obtain⟨D,HD⟩:∃D,Hid (D=decide (cOff L ys xs i<ch 15 (cls xs i)/\(i%8=0->gi S (i/8)=cOn xs i/\gi T (i/8)=cAt xs i))):=⟨_,rfl⟩;rw[<-HD.out];have cli:((cls xs i:Nat):Int)<16:=by omega
 have i8:(((i/8:Nat):Nat):Int)=IntKind.i64.wrap ((i:Int)/8):=by rw[IntKind.wrap_i64];omega
 have sub1:=gB 15 (cls xs i) (by decide);rw[i8]at HM;clear fS;generalize cls xs i=c at *;generalize cOff L ys xs i=o at *;generalize cOn xs i=s at *;generalize cAt xs i=p at *;generalize gi S (i/8)=s8 at *
 generalize gi T (i/8)=t8 at *;generalize ch 15 c=q at *
 obtain⟨v0,v1,rfl⟩:∃v0 v1,old=[v0,v1]:=by
  match old,ho with
  | [v0,v1],_=>exact⟨v0,v1,rfl⟩
 have f0:=hcl.frozen 0;have f1:=hcl.frozen 1;have n0:=hcl.cell 0 rfl;have n1:=hcl.cell 1 rfl;have ll:=hcl.lt
 obtain⟨U,hU⟩:∃U,U=(w.setCell ⟨gl,0,none⟩ (.int .i64 c)).setCell ⟨gl,1,none⟩ (.int .u64 o):=⟨_,rfl⟩;have hO:aC gl w U:=by rw[hU];exact((aC.refl gl w).set 0 _).set 1 _
 have hcl2:aa U gl [.int .i64 c,.int .u64 o] 150:=by rw[hU];exact(hcl.set 0 _).set 1 _
 have zU:U.heap.size=w.heap.size:=hO.size;obtain⟨W,hW⟩:∃W,W=(U.alloc (.cells #[.int .i64 c,.int .u64 o] 150)).alloc (.cells #[.int .i64 s,.int .i64 p] 137):=⟨_,rfl⟩
 have bW:Below U.heap.size U W:=by rw[hW];exact(below_alloc U _).alloc (by simp) _
 have B1:aa W w.heap.size [.int .i64 c,.int .u64 o] 150:=by rw[hW,<-zU];exact(aa.new U _ _).alloc _
 have B2:aa W (w.heap.size+1) [.int .i64 s,.int .i64 p] 137:=by rw[hW,<-zU];exact aa.new2 U _ _ _
 have F2:bm lo hi w W:=(hO.fr h3 h4).trans (bm.of bW (by omega));replace hcl2:=hcl2.kept bW;replace hcw:=(hO.tb hcw (by omega)).kept bW;replace hcx:=(hO.cel hcx (by omega)).kept bW
 have bw2:Below w0.heap.size w0 W:=hb.trans (by rw[<-hlo];exact F2.below);have z2:=F2.size;clear hO hcl bW hb;go_enter func155,ntmps155;go_wp2;rw[<-hU,<-hW];clear f0 f1 n0 n1 hU hW;generalize W=w2 at *
 refine bn [] (fun w'=>aa w' w.heap.size [.int .i64 c,.int .u64 o] 150/\aa w' (w.heap.size+1) [.int .i64 s,.int .i64 p] 137/\Tb w' 1 (wv iw)/\aa w' gx [.int .i64 N,.int .i64 k,.int .i64 V,.int .i64 M,.slice ao xs.length cap,.int .i64 L,.slice qo ys.length dap,.slice so S.length sc,.slice tO T.length tc] 59/\aa w' gl [.int .i64 c,.int .u64 o] 150) (by kernel_rfl) ?_
 have hS:aa w2.drew w.heap.size [.int .i64 c,.int .u64 o] 150/\aa w2.drew (w.heap.size+1) [.int .i64 s,.int .i64 p] 137/\Tb w2.drew 1 (wv iw)/\aa w2.drew gx [.int .i64 N,.int .i64 k,.int .i64 V,.int .i64 M,.slice ao xs.length cap,.int .i64 L,.slice qo ys.length dap,.slice so S.length sc,.slice tO T.length tc] 59/\aa w2.drew gl [.int .i64 c,.int .u64 o] 150:=⟨B1,B2,hcw,hcx,hcl2⟩
 have bV:Below w0.heap.size w0 w2.drew:=bw2.drew;have F3:bm lo hi w w2.drew:=F2.trans (bm.of ((Below.refl _ _).drew) (by omega));have z3:w2.heap.size<=w2.drew.heap.size:=Nat.le_refl _;generalize w2.drew=Y at *
 clear B1 B2 hcw hcx hcl2 bw2 F2;by_cases hq:o<q
 .have hq2:decide ((o:Int)<(q:Int))=true:=decide_eq_true (by omega);have hq3:decide (o<q)=true:=decide_eq_true hq;by_cases h8:i%8=0
  .have h82:decide ((0:Int)<(i:Int).tmod 8)=false:=decide_eq_false (by rw[Int.tmod_eq_emod_of_nonneg (by omega)];omega);by_cases e1:s8=(s:Int)
   .by_cases e2:t8=(p:Int)
    .obtain rfl:D=true:=by
      rw[HD.out];exact decide_eq_true (by omega)
     clear HD;refine aK 0 hS ?_;refine aF 1 hS rfl (fun w0 h0=>by have c0:=h0.1.cell 1 rfl;go_simp;try with_reducible rfl) ?_;refine aK 2 hS ?_
     refine aF 3 hS rfl (fun w0 h0=>by have c0:=h0.1.cell 0 rfl;go_simp;try with_reducible rfl) ?_;refine aK 4 hS ?_
     refine aF 5 hS rfl (fun w0 h0=>by have c0:=h0.2.2.1.cell c HWd.out;go_simp;try with_reducible rfl) ?_;refine aK 6 hS ?_;refine aK 7 hS ?_;refine aK 8 hS ?_;refine aK 9 hS ?_
     refine aK 10 hS ?_;refine aK 11 hS ?_
     refine aF 12 hS rfl (fun w0 h0=>by have c0:=h0.2.2.2.1.cell 0 rfl;have c1:=h0.2.2.2.1.cell 1 rfl;have c2:=h0.2.2.2.1.cell 2 rfl;have c3:=h0.2.2.2.1.cell 3 rfl;have c4:=h0.2.2.2.1.cell 4 rfl;have c5:=h0.2.2.2.1.cell 5 rfl;have c6:=h0.2.2.2.1.cell 6 rfl;have c7:=h0.2.2.2.1.cell 7 rfl;have c8:=h0.2.2.2.1.cell 8 rfl;go_simp;try with_reducible rfl) ?_
     refine aK 13 hS ?_;refine aK 14 hS ?_;refine aF 16 hS rfl (fun w0 h0=>by have c0:=h0.2.1.cell 0 rfl;have c1:=h0.2.1.cell 1 rfl;go_simp;try with_reducible rfl) ?_;refine aO 15 ?_;intro K hK
     go_simp;refine mr (HM.out _ bV) fun w5 hb=>?_;have hS5:=And.intro (hS.1.kept hb) (And.intro (hS.2.1.kept hb) (And.intro (hS.2.2.1.kept hb) (And.intro (hS.2.2.2.1.kept hb) (hS.2.2.2.2.kept hb))))
     have F5:=F3.trans (bm.of hb (by omega));clear hb HM bV F3 hS;refine hK.out _ _ (fun _=>hS5) ?_;clear hK K;try simp only[Act.put,aw,ar,an,ah,aj,ai]
     refine aK 17 hS5 ?_;refine aK 18 hS5 ?_;refine aK 19 hS5 ?_;refine aK 20 hS5 ?_;refine az.done (by kernel_rfl) ?_ _;go_wp2;go_ret;exact⟨rfl,hS5.2.2.2.2,hS5.2.2.1,hS5.2.2.2.1,F5⟩
    .obtain rfl:D=false:=by
      rw[HD.out];exact decide_eq_false (by omega)
     clear HD;refine aK 0 hS ?_;refine aF 1 hS rfl (fun w0 h0=>by have c0:=h0.1.cell 1 rfl;go_simp;try with_reducible rfl) ?_;refine aK 2 hS ?_
     refine aF 3 hS rfl (fun w0 h0=>by have c0:=h0.1.cell 0 rfl;go_simp;try with_reducible rfl) ?_;refine aK 4 hS ?_
     refine aF 5 hS rfl (fun w0 h0=>by have c0:=h0.2.2.1.cell c HWd.out;go_simp;try with_reducible rfl) ?_;refine aK 6 hS ?_;refine aK 7 hS ?_;refine aK 8 hS ?_;refine aK 9 hS ?_
     refine aK 10 hS ?_;refine aK 11 hS ?_
     refine aF 12 hS rfl (fun w0 h0=>by have c0:=h0.2.2.2.1.cell 0 rfl;have c1:=h0.2.2.2.1.cell 1 rfl;have c2:=h0.2.2.2.1.cell 2 rfl;have c3:=h0.2.2.2.1.cell 3 rfl;have c4:=h0.2.2.2.1.cell 4 rfl;have c5:=h0.2.2.2.1.cell 5 rfl;have c6:=h0.2.2.2.1.cell 6 rfl;have c7:=h0.2.2.2.1.cell 7 rfl;have c8:=h0.2.2.2.1.cell 8 rfl;go_simp;try with_reducible rfl) ?_
     refine aK 13 hS ?_;refine aK 14 hS ?_;refine aF 16 hS rfl (fun w0 h0=>by have c0:=h0.2.1.cell 0 rfl;have c1:=h0.2.1.cell 1 rfl;go_simp;try with_reducible rfl) ?_;refine aO 15 ?_;intro K hK
     go_simp;refine mr (HM.out _ bV) fun w5 hb=>?_;have hS5:=And.intro (hS.1.kept hb) (And.intro (hS.2.1.kept hb) (And.intro (hS.2.2.1.kept hb) (And.intro (hS.2.2.2.1.kept hb) (hS.2.2.2.2.kept hb))))
     have F5:=F3.trans (bm.of hb (by omega));clear hb HM bV F3 hS;refine hK.out _ _ (fun _=>hS5) ?_;clear hK K;try simp only[Act.put,aw,ar,an,ah,aj,ai]
     refine aK 17 hS5 ?_;refine aK 18 hS5 ?_;refine aK 19 hS5 ?_;refine aK 20 hS5 ?_;refine az.done (by kernel_rfl) ?_ _;go_wp2;go_ret;exact⟨rfl,hS5.2.2.2.2,hS5.2.2.1,hS5.2.2.2.1,F5⟩
   .obtain rfl:D=false:=by
     rw[HD.out];exact decide_eq_false (by omega)
    clear HD;refine aK 0 hS ?_;refine aF 1 hS rfl (fun w0 h0=>by have c0:=h0.1.cell 1 rfl;go_simp;try with_reducible rfl) ?_;refine aK 2 hS ?_
    refine aF 3 hS rfl (fun w0 h0=>by have c0:=h0.1.cell 0 rfl;go_simp;try with_reducible rfl) ?_;refine aK 4 hS ?_
    refine aF 5 hS rfl (fun w0 h0=>by have c0:=h0.2.2.1.cell c HWd.out;go_simp;try with_reducible rfl) ?_;refine aK 6 hS ?_;refine aK 7 hS ?_;refine aK 8 hS ?_;refine aK 9 hS ?_
    refine aK 10 hS ?_;refine aK 11 hS ?_
    refine aF 12 hS rfl (fun w0 h0=>by have c0:=h0.2.2.2.1.cell 0 rfl;have c1:=h0.2.2.2.1.cell 1 rfl;have c2:=h0.2.2.2.1.cell 2 rfl;have c3:=h0.2.2.2.1.cell 3 rfl;have c4:=h0.2.2.2.1.cell 4 rfl;have c5:=h0.2.2.2.1.cell 5 rfl;have c6:=h0.2.2.2.1.cell 6 rfl;have c7:=h0.2.2.2.1.cell 7 rfl;have c8:=h0.2.2.2.1.cell 8 rfl;go_simp;try with_reducible rfl) ?_
    refine aK 13 hS ?_;refine aK 14 hS ?_;refine aF 16 hS rfl (fun w0 h0=>by have c0:=h0.2.1.cell 0 rfl;have c1:=h0.2.1.cell 1 rfl;go_simp;try with_reducible rfl) ?_;refine aO 15 ?_;intro K hK
    go_simp;refine mr (HM.out _ bV) fun w5 hb=>?_;have hS5:=And.intro (hS.1.kept hb) (And.intro (hS.2.1.kept hb) (And.intro (hS.2.2.1.kept hb) (And.intro (hS.2.2.2.1.kept hb) (hS.2.2.2.2.kept hb))))
    have F5:=F3.trans (bm.of hb (by omega));clear hb HM bV F3 hS;refine hK.out _ _ (fun _=>hS5) ?_;clear hK K;try simp only[Act.put,aw,ar,an,ah,aj,ai]
    refine aK 17 hS5 ?_;refine aK 18 hS5 ?_;refine aK 19 hS5 ?_;refine aK 20 hS5 ?_;refine az.done (by kernel_rfl) ?_ _;go_wp2;go_ret;exact⟨rfl,hS5.2.2.2.2,hS5.2.2.1,hS5.2.2.2.1,F5⟩
  .have h82:decide ((0:Int)<(i:Int).tmod 8)=true:=decide_eq_true (by rw[Int.tmod_eq_emod_of_nonneg (by omega)];omega)
   obtain rfl:D=true:=by
    rw[HD.out];exact decide_eq_true (by omega)
   clear HD;refine aK 0 hS ?_;refine aF 1 hS rfl (fun w0 h0=>by have c0:=h0.1.cell 1 rfl;go_simp;try with_reducible rfl) ?_;refine aK 2 hS ?_
   refine aF 3 hS rfl (fun w0 h0=>by have c0:=h0.1.cell 0 rfl;go_simp;try with_reducible rfl) ?_;refine aK 4 hS ?_
   refine aF 5 hS rfl (fun w0 h0=>by have c0:=h0.2.2.1.cell c HWd.out;go_simp;try with_reducible rfl) ?_;refine aK 6 hS ?_;refine aK 7 hS ?_;refine aK 8 hS ?_;refine aK 9 hS ?_
   refine aK 10 hS ?_;refine aK 11 hS ?_;refine aS 12 hS ?_;refine aS 13 hS ?_;refine aS 14 hS ?_;refine aS 15 hS ?_;refine aS 16 hS ?_;refine aS 17 hS ?_;refine aK 18 hS ?_
   refine aK 19 hS ?_;refine aK 20 hS ?_;refine az.done (by kernel_rfl) ?_ _;go_wp2;go_ret;exact⟨rfl,hS.2.2.2.2,hS.2.2.1,hS.2.2.2.1,F3⟩
 .have hq2:decide ((o:Int)<(q:Int))=false:=decide_eq_false (by omega);have hq3:decide (o<q)=false:=decide_eq_false hq
  obtain rfl:D=false:=by
   rw[HD.out];exact decide_eq_false (by omega)
  clear HD;refine aK 0 hS ?_;refine aF 1 hS rfl (fun w0 h0=>by have c0:=h0.1.cell 1 rfl;go_simp;try with_reducible rfl) ?_;refine aK 2 hS ?_
  refine aF 3 hS rfl (fun w0 h0=>by have c0:=h0.1.cell 0 rfl;go_simp;try with_reducible rfl) ?_;refine aK 4 hS ?_
  refine aF 5 hS rfl (fun w0 h0=>by have c0:=h0.2.2.1.cell c HWd.out;go_simp;try with_reducible rfl) ?_;refine aK 6 hS ?_;refine aK 7 hS ?_;refine aS 8 hS ?_;refine aS 9 hS ?_
  refine aS 10 hS ?_;refine aS 11 hS ?_;refine aS 12 hS ?_;refine aS 13 hS ?_;refine aS 14 hS ?_;refine aS 15 hS ?_;refine aS 16 hS ?_;refine aS 17 hS ?_;refine aS 18 hS ?_
  refine aK 19 hS ?_;refine aK 20 hS ?_;refine az.done (by kernel_rfl) ?_ _;go_wp2;go_ret;exact⟨rfl,hS.2.2.2.2,hS.2.2.1,hS.2.2.2.1,F3⟩
theorem ti(a:aT)(h:kOk8 a=true):∃m,CK a m:=by
 obtain⟨m,h1,h2,h3,h4,e⟩:=th a h;have:=uh m (kBX8 a) h2 h4;rw[<-e]at this;exact⟨m,this⟩
theorem mF{b:Bool}(h:b=true->False):b=false:=by
 cases b with
 | false=>rfl
 | true=>exact absurd rfl (fun e=>h e)
theorem Gl(a:aT)(m:Nat)(h:CK a m):gA a=true:=by
 unfold gA;refine decide_eq_true ?_;rw[h.nN,Int.toNat_natCast];exact⟨⟨by omega,by have:=h.le;omega⟩,h.ic,h.oc,h.nV,h.nk,h.sl,h.tl⟩
theorem Fo(a:aT)(h:gA a=false):kOk8 a=false:=mF fun hk=>by
 obtain⟨m,c⟩:=ti a hk;rw[Gl a m c]at h;cases h
theorem Fk(a:aT)(h:gA a=true):∃m:Nat,a.N=m/\m<=1048576/\aP a.k a.V a.M a.xs=true/\am a.L a.ys=true/\a.V=4/\a.k=(nb m:Int)/\a.S.length=gN m/\a.T.length=gN m:=by
 obtain⟨h1,h2,h3,h4,h5,h6,h7⟩:=of_decide_eq_true h;obtain⟨m,e⟩:=Int.eq_ofNat_of_zero_le h1.1;rw[e,Int.toNat_natCast]at h5 h6 h7;exact⟨m,e,by omega,h2,h3,h4,h5,h6,h7⟩
theorem Gk(a:aT)(m:Nat)(hN:a.N=m)(h:kOk8 a=true):CK a m:=by
 obtain⟨m',c⟩:=ti a h;have:=c.nN;obtain rfl:m=m':=by omega
 exact c
theorem DR(c o r:Nat)(ho:o<ch 15 c):(cnt (blk 15 c o%2^r) 15=c/\off (blk 15 c o%2^r) 15=o)↔blk 15 c o<2^r:=by
 have hb:=jC 15 c o;have hm:=Nat.mod_le (blk 15 c o) (2^r);have P:=Nat.two_pow_pos r;constructor
 .rintro⟨h1,h2⟩;have:=qH (blk 15 c o%2^r) 15;rw[h1,h2,Nat.mod_eq_of_lt (show blk 15 c o%2^r<2^15 by omega)]at this;rw[this];exact Nat.mod_lt _ P
 .intro h;rw[Nat.mod_eq_of_lt h];exact vM 15 c o ho
def lstK(xs:List Nat):Nat->Nat
 | 0=>0
 | i+1=>cls xs i
def lstO(L:Int)(ys xs:List Nat):Nat->Nat
 | 0=>0
 | i+1=>cOff L ys xs i
structure ji (cs:List Value) (a:aT) (w0:World) (gx gl i:Nat) (w:World):Prop where
 below:Below w0.heap.size w0 w
 x:aa w gx cs 59
 last:aa w gl [.int .i64 (lstK a.xs i:Nat),.int .u64 (lstO a.L a.ys a.xs i:Nat)] 150
 right:∀j,j<i->ix a.L a.ys a.xs j=0/\wi a j
theorem ji.keep{cs:List Value}{a:aT}{w0:World}{gx gl i hi:Nat}{w w':World}(h:ji cs a w0 gx gl i w)(h0:w0.heap.size<=hi)(h1:gx<hi)(h3:gl<hi)(hb:Below hi w w'):ji cs a w0 gx gl i w':=
 ⟨h.below.trans (hb.mono h0),h.x.keep hb h1,h.last.keep hb h3,h.right⟩
theorem sK(cs:List Value)(a:aT)(w:World)(h:br w cs a):
  Qq 100 #[.agg cs.toArray] w (.bool (kOk8 a)):=by
 obtain⟨B,hB⟩:∃B,Hid (B=kOk8 a):=⟨_,rfl⟩;rw[<-hB.out]
 have HF:Hid (Qz w 153 #[.agg cs.toArray] (.bool (gA a))):=fun w0 hb=>Af cs a w0 (h.keep hb)
 have hmf:∀(fn:Fn) (first cap:Array Value) (w:World),(Instr.makeFunc fn first cap).run prog w=.ok (.func fn first cap) w:=fun _ _ _ _=>rfl;cases hf:gA a with
 | false=>
  obtain rfl:B=false:=by rw[hB.out];exact Fo a hf
  rw[hf]at HF;obtain⟨⟨ao,cap,qo,dap,so,sc,tO,tc,rfl,_⟩,_⟩:=h;obtain⟨N,k,V,M,xs,L,ys,S,T⟩:=a;dsimp only at *
  obtain⟨W,hW⟩:∃W,W=w.alloc (.cells #[.int .i64 N,.int .i64 k,.int .i64 V,.int .i64 M,.slice ao xs.length cap,.int .i64 L,.slice qo ys.length dap,.slice so S.length sc,.slice tO T.length tc] 59):=⟨_,rfl⟩
  have bW:=ba hW;clear hf hB;go_enter func100,ntmps100;go_wp2_with fail;rw[<-hW];refine mr (HF.out _ bW) fun w1 hb=>?_;have bw1:=bg bW hb;clear hW hb;go_wp2;go_ret;exact⟨rfl,bw1⟩
 | true=>
 rw[hf]at HF;obtain⟨m,e1,hm,ic,oc,e2,e3,sl,tl⟩:=Fk a hf;have hCK:Hid (B=true->CK a m):=fun hk=>Gk a m e1 (by rw[<-hB.out];exact hk);have hg:0<gN m:=by unfold gN;omega
 have HM:Hid (Qz w 154 #[.agg cs.toArray,.int .i64 0] (.agg #[.int .i64 (gi a.S 0),.int .i64 (gi a.T 0)])):=fun w0 hb=>o_ cs a 0 w0 (h.keep hb) (by omega) (by omega)
 have HB:Hid (∀m',CK a m'->B=true):=fun m' c=>by
  rw[hB.out];obtain⟨⟨ao,cap,qo,dap,so,sc,tO,tc,_,_,_,f1,_,_,f2,_⟩,_⟩:=h;exact Gi a m' f1 f2 c
 have nbl:=iD m hm
 have HA:Hid (∀(gx gl:Nat) w1,gi a.S 0=0->gi a.T 0=0->ji cs a w gx gl 0 w1->w.heap.size<=gl->gl≠gx->gx<w1.heap.size->gl<w1.heap.size->
   Calls prog 131 #[.agg cs.toArray,.int .i64 0,.func (.func 155) #[] #[.pointer (some ⟨gl,0,none⟩),.pointer (some ⟨gx,0,none⟩)]] w1 fun e w'=>∃(q:Nat) (b:Bool),e=.returned (.tuple #[.agg #[.int .i64 (cOn a.xs q:Nat),.int .i64 (cAt a.xs q:Nat)],.bool b])/\q<=nb m/\(b=true->q=nb m/\ji cs a w gx gl (nb m) w')/\(b=false->B=false)/\bm w.heap.size w1.heap.size w1 w'):=by
  intro gx gl w1 s0 t0 hI l1 l2 l4 l6
  refine(sO cs a 0 (nb m) w.heap.size w1.heap.size 155 #[.pointer (some ⟨gl,0,none⟩),.pointer (some ⟨gx,0,none⟩)] (fun i w2=>ji cs a w gx gl i w2) (fun i _=>¬wi a i) w1 e3 e2 ic (by omega) (by omega) (by omega) s0 t0 hI.below.size (Nat.le_refl _) hI (fun i w2 hi=>h.keep hi.below) (fun i w2 w3 hi hb=>hi.keep hI.below.size l4 l6 hb) (fun i _ _ hi _=>hi) ?cf ?st).mono ?_
  case cf=>
   intro args w2;kernel_rfl
  case st=>
   intro i w2 _ hin hse hi2 hw2;have i8:i/8<gN m:=by unfold gN;omega
   refine(Aj cs a i gl gx w.heap.size w1.heap.size _ w w2 h hi2.below rfl (by omega) (by omega) (by omega) hi2.last rfl hi2.x l2 l1 l6 hw2).mono ?_;rintro e w3 ⟨rfl,c1,c2,c3,fr⟩
   refine⟨_,rfl,fun hr=>?_,fun hr=>by have h:=of_decide_eq_false hr;exact h,fr⟩;have hr:=of_decide_eq_true hr;refine⟨hi2.below.trans fr.below,c3,c1,fun j hj=>?_⟩;by_cases c:j=i
   .subst c;exact⟨hse,hr⟩
   .exact hi2.right j (by omega)
  .rintro e w2 ⟨q,b,rfl,_,hq,h1,h2,fr⟩;refine⟨q,b,rfl,hq,h1,fun hb=>?_,fr⟩;obtain⟨hlt,h3⟩:=h2 hb;refine mF fun hk=>?_;have ck:=hCK.out hk;have ea:=ck.each q hlt;rcases h3 with⟨h3,_⟩ | ⟨_,h3⟩
   .exact h3 ea.1
   .exact h3 ea.2
 have HLa:Hid (∀gx gl w',ji cs a w gx gl (nb m) w'->lstO a.L a.ys a.xs (nb m)<ch 15 (lstK a.xs (nb m))):=by
  intro gx gl w' hI;by_cases c:nb m=0
  .rw[c];show 0<ch 15 0;rw[jf];decide
  .obtain⟨j,hj⟩:∃j,nb m=j+1:=⟨nb m-1,by omega⟩;rw[hj];exact(hI.right j (by omega)).2.1
 have HK1:Hid (∀gx gl w',ji cs a w gx gl (nb m) w'->gi a.S 0=0->gi a.T 0=0->(cAt a.xs (nb m):Int)=a.L->(B=true↔blk 15 (lstK a.xs (nb m)) (lstO a.L a.ys a.xs (nb m))<2^(15+m-15*nb m))):=by
  intro gx gl w' hI s0 t0 he;by_cases c:nb m=0
  .rw[c];refine⟨fun _=>?_,fun _=>HB.out m ⟨e1,hm,e3,e2,ic,oc,sl,tl,s0,t0,fun i hi=>by omega,he,fun h0=>by omega⟩⟩;show blk 15 0 0<_;rw[j6];exact Nat.two_pow_pos _
  .obtain⟨j,hj⟩:∃j,nb m=j+1:=⟨nb m-1,by omega⟩;have ex:15+m-15*nb m=m-15*(nb m-1):=by omega
   have el:blk 15 (lstK a.xs (nb m)) (lstO a.L a.ys a.xs (nb m))=jA a.L a.ys a.xs (nb m-1):=by rw[hj];rfl
   rw[ex,el];refine⟨fun hk=>(hCK.out hk).last (by omega),fun hl=>HB.out m ⟨e1,hm,e3,e2,ic,oc,sl,tl,s0,t0,fun i hi=>?_,he,fun _=>hl⟩⟩;obtain⟨r1,r2,r3⟩:=hI.right i hi;exact⟨r1,r2,r3⟩
 have lkb:lstK a.xs (nb m)<=15:=by
  cases nb m with
  | zero=>exact Nat.zero_le _
  | succ j=>exact j1 _ _
 have rb:15+m-15*nb m<=15:=by unfold nb;omega
 have rb2:((15+m-15*nb m:Nat):Int)=(m:Int)-15*((nb m:Int)-1):=by unfold nb;omega
 obtain⟨⟨ao,cap,qo,dap,so,sc,tO,tc,rfl,⟨_,_,_,_,hL64,_,_⟩,_⟩,_⟩:=h;obtain⟨N,k,V,M,xs,L,ys,S,T⟩:=a;dsimp only at *;subst e1 e2 e3
 obtain⟨W,hW⟩:∃W,W=w.alloc (.cells #[.int .i64 m,.int .i64 (nb m:Nat),.int .i64 4,.int .i64 M,.slice ao xs.length cap,.int .i64 L,.slice qo ys.length dap,.slice so S.length sc,.slice tO T.length tc] 59):=⟨_,rfl⟩
 have bW:=ba hW;have B1:=bE hW;clear hf hB HB sl tl
 have HC0:Hid (gi S 0≠0\/gi T 0≠0->B=false):=fun hn=>mF fun hk=>by
  have ck:=hCK.out hk;have:=ck.s0;have:=ck.t0;dsimp only at *;omega
 have HC1:Hid ((cAt xs (nb m):Int)≠L->B=false):=fun hn=>mF fun hk=>hn (hCK.out hk).done;clear hCK;generalize gi S 0=s0 at *;generalize gi T 0=t0 at *;go_enter func100,ntmps100;go_wp2_with fail
 rw[<-hW];refine mr (HF.out _ bW) fun w1 hb=>?_;have bw1:=bg bW hb;replace B1:=B1.kept hb;clear hW hb HF bW;have q0:=B1.cell 0 rfl;have q1:=B1.cell 1 rfl;have q2:=B1.cell 2 rfl
 have q3:=B1.cell 3 rfl;have q4:=B1.cell 4 rfl;have q5:=B1.cell 5 rfl;have q6:=B1.cell 6 rfl;have q7:=B1.cell 7 rfl;have q8:=B1.cell 8 rfl;go_wp2_with fail;refine mr (HM.out _ bw1) fun w2 hb=>?_
 have bw2:=bg bw1 hb;replace B1:=B1.kept hb;clear hb HM bw1 q0 q1 q2 q3 q4 q5 q6 q7 q8;by_cases z1:s0=0
 .by_cases z2:t0=0
  .subst z1 z2;have lt1:=B1.lt;have z3:=bw2.size;have q0:=B1.cell 0 rfl;have q1:=B1.cell 1 rfl;have q2:=B1.cell 2 rfl;have q3:=B1.cell 3 rfl;have q4:=B1.cell 4 rfl;have q5:=B1.cell 5 rfl;have q6:=B1.cell 6 rfl
   have q7:=B1.cell 7 rfl;have q8:=B1.cell 8 rfl;have l0:=B1.lt;obtain⟨W6,hW6⟩:∃W6,W6=w2.alloc (.cells #[.int .i64 0,.int .u64 0] 150):=⟨_,rfl⟩
   have hb6:Below w2.heap.size w2 W6:=by rw[hW6];exact below_alloc w2 _
   have bw6:=bg bw2 hb6;have z6:W6.heap.size=w2.heap.size+1:=by rw[hW6];simp
   have B5:aa W6 w2.heap.size [.int .i64 0,.int .u64 0] 150:=by rw[hW6];exact aa.new w2 _ _
   replace B1:=B1.kept hb6
   have CI:Hid (ji [.int .i64 m,.int .i64 (nb m:Nat),.int .i64 4,.int .i64 M,.slice ao xs.length cap,.int .i64 L,.slice qo ys.length dap,.slice so S.length sc,.slice tO T.length tc] ⟨m,nb m,4,M,xs,L,ys,S,T⟩ w w.heap.size w2.heap.size 0 W6):=⟨bw6,B1,B5,fun j hj=>absurd hj (Nat.not_lt_zero j)⟩
   have CIb:Hid (Below w.heap.size w W6):=bw6;clear hb6 bw6 B5 B1;go_wp2_with fail;rw[<-hW6];refine(HA.out w.heap.size w2.heap.size W6 (by simp) (by simp) CI.out (by omega) (by omega) (by omega) (by omega)).mono ?_
   clear q0 q1 q2 q3 q4 q5 q6 q7 q8 hW6 HA CI HC0 bw2;rintro e w7 ⟨q,b,rfl,hq,h1,h2,fr⟩;cases b with
   | false=>
    obtain rfl:B=false:=h2 rfl;have bw7:=fr.below;have HBW:Hid (Below w.heap.size w w7):=CIb.out.trans bw7;clear HC1 HK1 HLa h1 h2 fr bw7;go_wp2;refine bn [] (fun w'=>True) (by kernel_rfl) ?_
    have hS:True:=trivial;have bV:Below w.heap.size w (w7.alloc (.cells #[.int .i64 (cOn xs q:Nat),.int .i64 (cAt xs q:Nat)] 137)).drew:=(HBW.out.alloc HBW.out.size _).drew
    generalize (w7.alloc (.cells #[.int .i64 (cOn xs q:Nat),.int .i64 (cAt xs q:Nat)] 137)).drew=Y at *;refine aK 0 hS ?_;refine aK 1 hS ?_;refine aS 2 hS ?_;refine aS 3 hS ?_;refine aS 4 hS ?_
    refine aS 5 hS ?_;refine aS 6 hS ?_;refine aS 7 hS ?_;refine aK 8 hS ?_;refine aK 9 hS ?_;refine aS 10 hS ?_;refine aS 11 hS ?_;refine aS 12 hS ?_;refine aS 13 hS ?_
    refine aS 14 hS ?_;refine aS 15 hS ?_;refine aS 16 hS ?_;refine aS 17 hS ?_;refine aS 18 hS ?_;refine aS 19 hS ?_;refine aS 20 hS ?_;refine aS 21 hS ?_;refine aK 22 hS ?_
    refine aK 23 hS ?_;refine az.done (by kernel_rfl) ?_ _;go_wp2;go_ret;exact⟨rfl,bV⟩
   | true=>
    obtain⟨rfl,ci⟩:=h1 rfl;have bw7:=fr.below;have HBW:Hid (Below w.heap.size w w7):=CIb.out.trans bw7;have HO:=HLa.out _ _ _ ci
    have HKK:Hid ((cAt xs (nb m):Int)=L->(B=true↔blk 15 (lstK xs (nb m)) (lstO L ys xs (nb m))<2^(15+m-15*nb m))):=fun e=>HK1.out _ _ _ ci (by simp) (by simp) e
    have u1:IntKind.i64.wrap ((nb m:Int)-1)=(nb m:Int)-1:=by rw[IntKind.wrap_i64];omega
    have u2:IntKind.i64.wrap (15*((nb m:Int)-1))=15*((nb m:Int)-1):=by rw[IntKind.wrap_i64];omega
    have u3:IntKind.i64.wrap ((m:Int)-15*((nb m:Int)-1))=((15+m-15*nb m:Nat):Int):=by rw[IntKind.wrap_i64,rb2];omega
    have HWn:Hid (∀w0,Qq 156 #[.agg #[.int .i64 (lstK xs (nb m):Nat),.int .u64 (lstO L ys xs (nb m):Nat)],.int .i64 ((15+m-15*nb m:Nat):Int)] w0 (.agg #[.int .i64 (cnt (blk 15 (lstK xs (nb m)) (lstO L ys xs (nb m))%2^(15+m-15*nb m)) 15:Nat),.int .u64 (off (blk 15 (lstK xs (nb m)) (lstO L ys xs (nb m))%2^(15+m-15*nb m)) 15:Nat)])):=fun w0=>zT _ _ _ lkb HO (by omega) w0
    have HLI:Hid ((cnt (blk 15 (lstK xs (nb m)) (lstO L ys xs (nb m))%2^(15+m-15*nb m)) 15=lstK xs (nb m)/\off (blk 15 (lstK xs (nb m)) (lstO L ys xs (nb m))%2^(15+m-15*nb m)) 15=lstO L ys xs (nb m))↔blk 15 (lstK xs (nb m)) (lstO L ys xs (nb m))<2^(15+m-15*nb m)):=DR _ _ _ HO
    have B1:=ci.x;have B5:=ci.last;dsimp only at B5;clear HLa HK1 h1 h2 fr bw7 ci HO rb rb2 ic;generalize cnt (blk 15 (lstK xs (nb m)) (lstO L ys xs (nb m))%2^(15+m-15*nb m)) 15=K at *
    generalize off (blk 15 (lstK xs (nb m)) (lstO L ys xs (nb m))%2^(15+m-15*nb m)) 15=O at *;generalize (blk 15 (lstK xs (nb m)) (lstO L ys xs (nb m))<2^(15+m-15*nb m))=Pr at *
    generalize 15+m-15*nb m=r at *;generalize lstK xs (nb m)=lk at *;generalize lstO L ys xs (nb m)=lo at *;generalize cAt xs (nb m)=pe at *;generalize cOn xs (nb m)=po at *;generalize nb m=n at *;go_wp2
    have hb8:=below_alloc w7 (.cells #[.int .i64 po,.int .i64 pe] 137);have B6:=aa.new w7 [.int .i64 po,.int .i64 pe] 137;replace B1:=B1.kept hb8;replace B5:=B5.kept hb8
    have bV:Below w.heap.size w (w7.alloc (.cells #[.int .i64 po,.int .i64 pe] 137)).drew:=(HBW.out.alloc HBW.out.size _).drew
    refine bn [] (fun w'=>aa w' w.heap.size [.int .i64 m,.int .i64 n,.int .i64 4,.int .i64 M,.slice ao xs.length cap,.int .i64 L,.slice qo ys.length dap,.slice so S.length sc,.slice tO T.length tc] 59/\aa w' w7.heap.size [.int .i64 po,.int .i64 pe] 137/\aa w' w2.heap.size [.int .i64 lk,.int .u64 lo] 150) (by kernel_rfl) ?_
    have hS:aa (w7.alloc (.cells #[.int .i64 po,.int .i64 pe] 137)).drew w.heap.size [.int .i64 m,.int .i64 n,.int .i64 4,.int .i64 M,.slice ao xs.length cap,.int .i64 L,.slice qo ys.length dap,.slice so S.length sc,.slice tO T.length tc] 59/\aa (w7.alloc (.cells #[.int .i64 po,.int .i64 pe] 137)).drew w7.heap.size [.int .i64 po,.int .i64 pe] 137/\aa (w7.alloc (.cells #[.int .i64 po,.int .i64 pe] 137)).drew w2.heap.size [.int .i64 lk,.int .u64 lo] 150:=⟨B1,B6,B5⟩
    clear B1 B5 B6 hb8;generalize (w7.alloc (.cells #[.int .i64 po,.int .i64 pe] 137)).drew=Y at *;by_cases pl:(pe:Int)=L
    .have pl2:((pe:Int)==L)=true:=by simpa using pl
     have HP:=HKK.out pl;by_cases pr:Pr
     .obtain rfl:B=true:=HP.2 pr;obtain⟨k1,k2⟩:=HLI.out.2 pr;have k3:(lk:Int)=(K:Int):=by omega
      have k4:(lo:Int)=(O:Int):=by omega
      subst k1 k2;clear k3 k4 HP HKK HLI;refine aK 0 hS ?_;refine aK 1 hS ?_;refine aK 2 hS ?_;refine aF 3 hS rfl (fun w0 h0=>by have c0:=h0.2.1.cell 1 rfl;go_simp;try with_reducible rfl) ?_
      refine aK 4 hS ?_;refine aK 5 hS ?_;refine aF 6 hS rfl (fun w0 h0=>by have c0:=h0.1.cell 5 rfl;go_simp;try with_reducible rfl) ?_;refine aK 7 hS ?_;refine aK 8 hS ?_;refine aK 9 hS ?_
      refine aF 10 hS rfl (fun w0 h0=>by have c0:=h0.2.2.cell 0 rfl;have c1:=h0.2.2.cell 1 rfl;go_simp;try with_reducible rfl) ?_
      refine aF 11 hS rfl (fun w0 h0=>by have c0:=h0.2.2.cell 0 rfl;have c1:=h0.2.2.cell 1 rfl;go_simp;try with_reducible rfl) ?_;refine aK 12 hS ?_
      refine aF 13 hS rfl (fun w0 h0=>by have c0:=h0.1.cell 0 rfl;go_simp;try with_reducible rfl) ?_;refine aK 14 hS ?_;refine aK 15 hS ?_
      refine aF 16 hS rfl (fun w0 h0=>by have c0:=h0.1.cell 1 rfl;go_simp;try with_reducible rfl) ?_;refine aK 17 hS ?_;refine aK 18 hS ?_;refine aK 19 hS ?_;refine aO 20 ?_;intro K hK;go_simp
      refine mr (HWn.out _) fun w9 hb=>?_;have hS9:=And.intro (hS.1.kept hb) (And.intro (hS.2.1.kept hb) (hS.2.2.kept hb));have bw9:=bg bV hb;clear hb hS bV HWn
      refine hK.out _ _ (fun _=>hS9) ?_;clear hK K;try simp only[Act.put,aw,ar,an,ah,aj,ai]
      refine aK 21 hS9 ?_;refine aK 22 hS9 ?_;refine aK 23 hS9 ?_;refine az.done (by kernel_rfl) ?_ _;go_wp2;go_ret;exact⟨rfl,bw9⟩
     .obtain rfl:B=false:=mF fun hk=>pr (HP.1 hk);have kn:¬(K=lk/\O=lo):=fun hk=>pr (HLI.out.1 hk);by_cases k1:lk=K
      .have k2:¬(lo:Int)=(O:Int):=by omega
       have k3:¬lo=O:=by omega
       subst k1;clear HP HKK HLI kn;refine aK 0 hS ?_;refine aK 1 hS ?_;refine aK 2 hS ?_;refine aF 3 hS rfl (fun w0 h0=>by have c0:=h0.2.1.cell 1 rfl;go_simp;try with_reducible rfl) ?_
       refine aK 4 hS ?_;refine aK 5 hS ?_;refine aF 6 hS rfl (fun w0 h0=>by have c0:=h0.1.cell 5 rfl;go_simp;try with_reducible rfl) ?_;refine aK 7 hS ?_;refine aK 8 hS ?_
       refine aK 9 hS ?_;refine aF 10 hS rfl (fun w0 h0=>by have c0:=h0.2.2.cell 0 rfl;have c1:=h0.2.2.cell 1 rfl;go_simp;try with_reducible rfl) ?_
       refine aF 11 hS rfl (fun w0 h0=>by have c0:=h0.2.2.cell 0 rfl;have c1:=h0.2.2.cell 1 rfl;go_simp;try with_reducible rfl) ?_;refine aK 12 hS ?_
       refine aF 13 hS rfl (fun w0 h0=>by have c0:=h0.1.cell 0 rfl;go_simp;try with_reducible rfl) ?_;refine aK 14 hS ?_;refine aK 15 hS ?_
       refine aF 16 hS rfl (fun w0 h0=>by have c0:=h0.1.cell 1 rfl;go_simp;try with_reducible rfl) ?_;refine aK 17 hS ?_;refine aK 18 hS ?_;refine aK 19 hS ?_;refine aO 20 ?_;intro K hK;go_simp
       refine mr (HWn.out _) fun w9 hb=>?_;have hS9:=And.intro (hS.1.kept hb) (And.intro (hS.2.1.kept hb) (hS.2.2.kept hb));have bw9:=bg bV hb;clear hb hS bV HWn
       refine hK.out _ _ (fun _=>hS9) ?_;clear hK K;try simp only[Act.put,aw,ar,an,ah,aj,ai]
       refine aK 21 hS9 ?_;refine aK 22 hS9 ?_;refine aK 23 hS9 ?_;refine az.done (by kernel_rfl) ?_ _;go_wp2;go_ret;exact⟨rfl,bw9⟩
      .have k2:¬(lk:Int)=(K:Int):=by omega
       clear HP HKK HLI kn;refine aK 0 hS ?_;refine aK 1 hS ?_;refine aK 2 hS ?_;refine aF 3 hS rfl (fun w0 h0=>by have c0:=h0.2.1.cell 1 rfl;go_simp;try with_reducible rfl) ?_
       refine aK 4 hS ?_;refine aK 5 hS ?_;refine aF 6 hS rfl (fun w0 h0=>by have c0:=h0.1.cell 5 rfl;go_simp;try with_reducible rfl) ?_;refine aK 7 hS ?_;refine aK 8 hS ?_
       refine aK 9 hS ?_;refine aF 10 hS rfl (fun w0 h0=>by have c0:=h0.2.2.cell 0 rfl;have c1:=h0.2.2.cell 1 rfl;go_simp;try with_reducible rfl) ?_
       refine aF 11 hS rfl (fun w0 h0=>by have c0:=h0.2.2.cell 0 rfl;have c1:=h0.2.2.cell 1 rfl;go_simp;try with_reducible rfl) ?_;refine aK 12 hS ?_
       refine aF 13 hS rfl (fun w0 h0=>by have c0:=h0.1.cell 0 rfl;go_simp;try with_reducible rfl) ?_;refine aK 14 hS ?_;refine aK 15 hS ?_
       refine aF 16 hS rfl (fun w0 h0=>by have c0:=h0.1.cell 1 rfl;go_simp;try with_reducible rfl) ?_;refine aK 17 hS ?_;refine aK 18 hS ?_;refine aK 19 hS ?_;refine aO 20 ?_;intro K hK;go_simp
       refine mr (HWn.out _) fun w9 hb=>?_;have hS9:=And.intro (hS.1.kept hb) (And.intro (hS.2.1.kept hb) (hS.2.2.kept hb));have bw9:=bg bV hb;clear hb hS bV HWn
       refine hK.out _ _ (fun _=>hS9) ?_;clear hK K;try simp only[Act.put,aw,ar,an,ah,aj,ai]
       refine aK 21 hS9 ?_;refine aK 22 hS9 ?_;refine aK 23 hS9 ?_;refine az.done (by kernel_rfl) ?_ _;go_wp2;go_ret;exact⟨rfl,bw9⟩
    .have pl2:((pe:Int)==L)=false:=by simpa using pl
     obtain rfl:B=false:=HC1.out pl;clear HKK HLI;refine aK 0 hS ?_;refine aK 1 hS ?_;refine aK 2 hS ?_
     refine aF 3 hS rfl (fun w0 h0=>by have c0:=h0.2.1.cell 1 rfl;go_simp;try with_reducible rfl) ?_;refine aK 4 hS ?_;refine aK 5 hS ?_
     refine aF 6 hS rfl (fun w0 h0=>by have c0:=h0.1.cell 5 rfl;go_simp;try with_reducible rfl) ?_;refine aK 7 hS ?_;refine aK 8 hS ?_;refine aK 9 hS ?_;refine aS 10 hS ?_;refine aS 11 hS ?_
     refine aS 12 hS ?_;refine aS 13 hS ?_;refine aS 14 hS ?_;refine aS 15 hS ?_;refine aS 16 hS ?_;refine aS 17 hS ?_;refine aS 18 hS ?_;refine aS 19 hS ?_;refine aS 20 hS ?_
     refine aS 21 hS ?_;refine aK 22 hS ?_;refine aK 23 hS ?_;refine az.done (by kernel_rfl) ?_ _;go_wp2;go_ret;exact⟨rfl,bV⟩
  .obtain rfl:B=false:=HC0.out (.inr z2);clear HC0 HC1 HK1 HLa HA;go_wp2;go_ret;exact⟨rfl,bw2⟩
 .obtain rfl:B=false:=HC0.out (.inl z1);clear HC0 HC1 HK1 HLa HA;go_wp2;go_ret;exact⟨rfl,bw2⟩
structure KV (a:aT) (m:Nat) (X:List Nat):Prop where
 nN:a.N=m
 nk:a.k=nb m
 nV:a.V=4
 le:m<=1048576
 ic:aP a.k a.V a.M a.xs=true
 sl:a.S.length=gN m
 tl:a.T.length=gN m
 fit:aA X
 ck:am (m:Int) X=true
 cl:∀i,i<nb m->cls a.xs i=bcl m (bitAt X) i
 on:∀i,i<=nb m->cOn a.xs i=bon m (bitAt X) i
 se:∀i,i<nb m->ix a.L a.ys a.xs i=0
 off:∀i,i<nb m->cOff a.L a.ys a.xs i<ch 15 (cls a.xs i)
 wd:∀i,i<nb m->blk 15 (cls a.xs i) (cOff a.L a.ys a.xs i)=blv m (bitAt X) i
 gs:∀g,g<gN m->gi a.S g=cOn a.xs (8*g)
 gt:∀g,g<gN m->gi a.T g=cAt a.xs (8*g)
theorem Bt(a:aT)(h:kOk8 a=true):∃m:Nat,kBN8 a=(m:Int)/\KV a m (kBX8 a):=by
 obtain⟨m,h1,h2,h3,h4,e⟩:=th a h;have c:=uh m (kBX8 a) h2 h4;obtain⟨r1,r2,r3⟩:=ug m (kBX8 a) h2 h4;have k:=nQ m (kBX8 a) h4;rw[<-e]at c;rw[<-e]at k
 have exs:a.xs=rC m (bitAt (kBX8 a)):=congrArg aT.xs k;have eys:a.ys=rO m (bitAt (kBX8 a)):=congrArg aT.ys k;have eL:a.L=(bat m (bitAt (kBX8 a)) (nb m):Int):=congrArg aT.L k
 refine⟨m,h1,c.nN,c.nk,c.nV,h2,c.ic,c.sl,c.tl,h3,h4,?_,?_,?_,?_,?_,?_,?_⟩
 .intro i hi;rw[exs];exact r1 i hi
 .intro i hi;rw[exs];exact(r2 i hi).2
 .intro i hi;exact(c.each i hi).1
 .intro i hi;exact(c.each i hi).2.1
 .intro i hi;rw[exs,eys,eL];exact(r3 i hi).2.2
 .intro g hg;by_cases z:g=0
  .subst z;exact c.s0
  .have h8:=lh m g hg z;have:=((c.each (8*g) h8).2.2 (by omega)).1;rw[show 8*g/8=g by omega]at this;exact this
 .intro g hg;by_cases z:g=0
  .subst z;exact c.t0
  .have h8:=lh m g hg z;have:=((c.each (8*g) h8).2.2 (by omega)).2;rw[show 8*g/8=g by omega]at this;exact this
theorem yP{fn:Func}{p u:Tmp}{T U:TypeId}{w:World}{tmps:Array Value}(h:fn.results=#[.cell p T,.cell u U])(g k:Nat)(cs ds:List Value){fs gs:Array Field}(hp:tmps.getD p undef=.pointer (some ⟨g,0,none⟩))(hu:tmps.getD u undef=.pointer (some ⟨k,0,none⟩))(hc:aa w g cs T)(hd:aa w k ds U)(h1:prog.underlying T=some (.struct fs))(h2:prog.underlying U=some (.struct gs))(i1:(prog.info? T).map (·.size)=some cs.length)(i2:(prog.info? U).map (·.size)=some ds.length):
  (results fn tmps).run prog w=.ok (.tuple #[.agg cs.toArray,.agg ds.toArray]) w:=by
 have hp':tmps[p]?.getD undef=.pointer (some ⟨g,0,none⟩):=by simpa using hp
 have hu':tmps[u]?.getD undef=.pointer (some ⟨k,0,none⟩):=by simpa using hu
 have hl:=run_loadVar_row (P:=prog) w g T T cs.toArray (0,0) _ hc h1 rfl (by simpa using i1);have hm:=run_loadVar_row (P:=prog) w k U U ds.toArray (0,0) _ hd h2 rfl (by simpa using i2)
 simp[results,h,hp',hu',asAddr,hl,hm]
theorem rD{l:List Value}(h:l.length=2):∃v0 v1,l=[v0,v1]:=by
 match l,h with
 | [v0,v1],_=>exact⟨v0,v1,rfl⟩
theorem An(j c o s p i gf gb gi lo hi:Nat)(of ob:List Value)(w:World)(hof:of.length=2)(hob:ob.length=2)
  (hcf:aa w gf of 150) (hcb:aa w gb ob 137) (hci:aa w gi [.int .i64 i] 3) (h1:gf≠gb) (h2:gf≠gi) (h3:gb≠gi) (l1:lo<=gf) (l2:lo<=gb) (l3:gf<hi) (l4:gb<hi) (l5:hi<=w.heap.size) (l6:lo<=w.heap.size):
  Calls prog 157 #[.int .i64 j,.agg #[.int .i64 c,.int .u64 o],.agg #[.int .i64 s,.int .i64 p],.pointer (some ⟨gf,0,none⟩),.pointer (some ⟨gb,0,none⟩),.pointer (some ⟨gi,0,none⟩)] w
   fun e w'=>e=.returned (.bool (decide (j<i)))/\aa w' gf [.int .i64 c,.int .u64 o] 150/\aa w' gb [.int .i64 s,.int .i64 p] 137/\aa w' gi [.int .i64 i] 3/\bm lo hi w w'/\(∀b,b≠gf->b≠gb->b<w.heap.size->w'.heap[b]?=w.heap[b]?):=by
 obtain⟨v0,v1,rfl⟩:=rD hof;obtain⟨u0,u1,rfl⟩:=rD hob
 obtain⟨W,hW⟩:∃W,W=(w.alloc (.cells #[.int .i64 c,.int .u64 o] 150)).alloc (.cells #[.int .i64 s,.int .i64 p] 137):=⟨_,rfl⟩;have bW:=dt hW;have B1:=dH hW;have B2:=de hW
 have F1:bm lo hi w W:=bm.of bW l6;replace hcf:=hcf.kept bW;replace hcb:=hcb.kept bW;replace hci:=hci.kept bW;go_enter func157,ntmps157;go_wp2;rw[<-hW]
 refine bn [3] (fun w'=>aa w' w.heap.size [.int .i64 c,.int .u64 o] 150/\aa w' (w.heap.size+1) [.int .i64 s,.int .i64 p] 137) (by kernel_rfl) ?_
 have hS:aa W.drew w.heap.size [.int .i64 c,.int .u64 o] 150/\aa W.drew (w.heap.size+1) [.int .i64 s,.int .i64 p] 137:=⟨B1,B2⟩;replace hcf:aa W.drew gf [v0,v1] 150:=hcf
 replace hcb:aa W.drew gb [u0,u1] 137:=hcb;replace hci:aa W.drew gi [.int .i64 i] 3:=hci;replace F1:bm lo hi w W.drew:=F1.trans (bm.of (Below.refl _ _).drew (by have:=bW.size;omega))
 have G1:∀b,b<w.heap.size->W.drew.heap[b]?=w.heap[b]?:=fun b hb=>bW.block b hb;generalize W.drew=Y at *;clear B1 B2 hW bW
 refine aF 0 hS rfl (fun w0 h0=>by have c0:=h0.1.cell 0 rfl;have c1:=h0.1.cell 1 rfl;go_simp;try with_reducible rfl) ?_
 refine aF 1 hS rfl (fun w0 h0=>by have c0:=h0.2.cell 0 rfl;have c1:=h0.2.cell 1 rfl;go_simp;try with_reducible rfl) ?_;refine aO 2 ?_;intro K hK;have f0:=hcf.frozen 0;have f1:=hcf.frozen 1
 have n0:=hcf.cell 0 rfl;have n1:=hcf.cell 1 rfl;go_simp
 refine hK.out _ _ (fun _=>⟨(hS.1.other (by show w.heap.size≠gf;omega) _).other (by show w.heap.size≠gf;omega) _,(hS.2.other (by show w.heap.size+1≠gf;omega) _).other (by show w.heap.size+1≠gf;omega) _⟩) ?_
 clear hK K f0 f1 n0 n1;have F2:bm lo hi w ((Y.setCell ⟨gf,0,none⟩ (.int .i64 c)).setCell ⟨gf,1,none⟩ (.int .u64 o)):=F1.trans ((((aC.refl gf Y).set 0 _).set 1 _).fr l1 l3)
 replace hcf:aa ((Y.setCell ⟨gf,0,none⟩ (.int .i64 c)).setCell ⟨gf,1,none⟩ (.int .u64 o)) gf [.int .i64 c,.int .u64 o] 150:=(hcf.set 0 _).set 1 _
 replace hcb:=(hcb.other (a:=⟨gf,0,none⟩) (Ne.symm h1) (.int .i64 c)).other (a:=⟨gf,1,none⟩) (Ne.symm h1) (.int .u64 o)
 replace hci:=(hci.other (a:=⟨gf,0,none⟩) (Ne.symm h2) (.int .i64 c)).other (a:=⟨gf,1,none⟩) (Ne.symm h2) (.int .u64 o)
 replace G1:∀b,b≠gf->b<w.heap.size->((Y.setCell ⟨gf,0,none⟩ (.int .i64 c)).setCell ⟨gf,1,none⟩ (.int .u64 o)).heap[b]?=w.heap[b]?:=fun b hb hl=>((((aC.refl gf Y).set 0 _).set 1 _).block b hb).trans (G1 b hl)
 generalize (Y.setCell ⟨gf,0,none⟩ (.int .i64 c)).setCell ⟨gf,1,none⟩ (.int .u64 o)=Z at *;try simp only[Act.put,aw,ar,an,ah,aj,ai]
 refine aO 3 ?_;intro K hK;have f0:=hcb.frozen 0;have f1:=hcb.frozen 1;have n0:=hcb.cell 0 rfl;have n1:=hcb.cell 1 rfl;go_simp;refine hK.out _ _ (fun h=>absurd (by decide) h) ?_;clear hK K
 try simp only[Act.put,aw,ar,an,ah,aj,ai]
 refine az.done (by kernel_rfl) ?_ _;clear f0 f1 n0 n1
 have F3:bm lo hi w ((Z.setCell ⟨gb,0,none⟩ (.int .i64 s)).setCell ⟨gb,1,none⟩ (.int .i64 p)):=F2.trans ((((aC.refl gb Z).set 0 _).set 1 _).fr l2 l4)
 replace hcb:aa ((Z.setCell ⟨gb,0,none⟩ (.int .i64 s)).setCell ⟨gb,1,none⟩ (.int .i64 p)) gb [.int .i64 s,.int .i64 p] 137:=(hcb.set 0 _).set 1 _
 replace hcf:=(hcf.other (a:=⟨gb,0,none⟩) h1 (.int .i64 s)).other (a:=⟨gb,1,none⟩) h1 (.int .i64 p)
 replace hci:=(hci.other (a:=⟨gb,0,none⟩) (Ne.symm h3) (.int .i64 s)).other (a:=⟨gb,1,none⟩) (Ne.symm h3) (.int .i64 p)
 replace G1:∀b,b≠gf->b≠gb->b<w.heap.size->((Z.setCell ⟨gb,0,none⟩ (.int .i64 s)).setCell ⟨gb,1,none⟩ (.int .i64 p)).heap[b]?=w.heap[b]?:=fun b hb hb2 hl=>((((aC.refl gb Z).set 0 _).set 1 _).block b hb2).trans (G1 b hb hl)
 generalize (Z.setCell ⟨gb,0,none⟩ (.int .i64 s)).setCell ⟨gb,1,none⟩ (.int .i64 p)=Z2 at *;have m0:=hci.cell 0 rfl
 have HH:Hid (aa Z2 gf [.int .i64 c,.int .u64 o] 150/\aa Z2 gb [.int .i64 s,.int .i64 p] 137/\aa Z2 gi [.int .i64 i] 3/\bm lo hi w Z2/\(∀b,b≠gf->b≠gb->b<w.heap.size->Z2.heap[b]?=w.heap[b]?)):=⟨hcf,hcb,hci,F3,G1⟩
 clear G1 hcf hcb hci F3 F2 F1 hS;go_wp2;go_ret;exact⟨dq (by simp),HH.out⟩
structure lN (w0:World) (i gf gb gi gr j:Nat) (w:World):Prop where
 below:Below w0.heap.size w0 w
 le:j<=i
 f:∃l,aa w gf l 150/\l.length=2
 b:∃l,aa w gb l 137/\l.length=2
 i:aa w gi [.int .i64 i] 3
 r1:aa w gr [.int .i64 0,.int .u64 0] 150
 r2:aa w (gr+1) [.int .i64 0,.int .i64 0] 137
theorem lN.keep{w0:World}{i gf gb gi gr j hi:Nat}{w w':World}(h:lN w0 i gf gb gi gr j w)(h0:w0.heap.size<=hi)(h1:gf<hi)(h2:gb<hi)(h3:gi<hi)(h4:gr+1<hi)(hb:Below hi w w'):lN w0 i gf gb gi gr j w':=by
 obtain⟨l,c,e⟩:=h.f;obtain⟨k,d,e2⟩:=h.b;exact⟨h.below.trans (hb.mono h0),h.le,⟨l,c.keep hb h1,e⟩,⟨k,d.keep hb h2,e2⟩,h.i.keep hb h3,h.r1.keep hb (by omega),h.r2.keep hb h4⟩
theorem Am(cs:List Value)(a:aT)(m i:Nat)(Y:List Nat)(w:World)(h:br w cs a)(v:KV a m Y)(hi:i<nb m):
  Qq 101 #[.agg cs.toArray,.int .i64 i] w (.tuple #[.agg #[.int .i64 (cls a.xs i:Nat),.int .u64 (cOff a.L a.ys a.xs i:Nat)],.agg #[.int .i64 (cOn a.xs i:Nat),.int .i64 (cAt a.xs i:Nat)]]):=by
 have nbl:=iD m v.le;have ig:i/8<gN m:=by unfold gN;omega
 have HA:Hid (∀(gf gb gi gr:Nat) w1,lN w i gf gb gi gr (8*(i/8)) w1->gr≠gf->gr≠gb->gr+1≠gf->gr+1≠gb->gr+1<w1.heap.size->w.heap.size<=gf->w.heap.size<=gb->gf≠gb->gf≠gi->gb≠gi->gf<w1.heap.size->gb<w1.heap.size->gi<w1.heap.size->
   Calls prog 131 #[.agg cs.toArray,.int .i64 ((i:Int)/8),.func (.func 157) #[] #[.pointer (some ⟨gf,0,none⟩),.pointer (some ⟨gb,0,none⟩),.pointer (some ⟨gi,0,none⟩)]] w1 fun e w'=>∃r,e=.returned r/\aa w' gf [.int .i64 (cls a.xs i:Nat),.int .u64 (cOff a.L a.ys a.xs i:Nat)] 150/\aa w' gb [.int .i64 (cOn a.xs i:Nat),.int .i64 (cAt a.xs i:Nat)] 137/\aa w' gr [.int .i64 0,.int .u64 0] 150/\aa w' (gr+1) [.int .i64 0,.int .i64 0] 137/\bm w.heap.size w1.heap.size w1 w'):=by
  intro gf gb gi gr w1 hI n1 n2 n3 n4 n5 l1 l2 l3 l4 l5 l6 l7 l8;have e8:((i:Int)/8)=((i/8:Nat):Int):=by omega
  rw[e8]
  refine(sO cs a (i/8) (nb m) w.heap.size w1.heap.size 157 #[.pointer (some ⟨gf,0,none⟩),.pointer (some ⟨gb,0,none⟩),.pointer (some ⟨gi,0,none⟩)] (fun j w2=>lN w i gf gb gi gr j w2) (fun j w2=>j=i/\(aa w2 gr [.int .i64 0,.int .u64 0] 150/\aa w2 (gr+1) [.int .i64 0,.int .i64 0] 137)/\aa w2 gf [.int .i64 (cls a.xs j:Nat),.int .u64 (cOff a.L a.ys a.xs j:Nat)] 150/\aa w2 gb [.int .i64 (cOn a.xs j:Nat),.int .i64 (cAt a.xs j:Nat)] 137) w1 v.nk v.nV v.ic (by omega) (by rw[v.sl];exact ig) (by rw[v.tl];exact ig) (v.gs _ ig) (v.gt _ ig) hI.below.size (Nat.le_refl _) hI (fun j w2 hj=>h.keep hj.below) (fun j w2 w3 hj hb=>hj.keep hI.below.size l6 l7 l8 n5 hb) (fun j w2 w3 hj hb=>⟨hj.1,⟨hj.2.1.1.keep hb (by omega),hj.2.1.2.keep hb n5⟩,hj.2.2.1.keep hb l6,hj.2.2.2.keep hb l7⟩) ?cf ?st).mono ?_
  case cf=>
   intro args w2;kernel_rfl
  case st=>
   intro j w2 _ hjn hse hj hw2;obtain⟨lf,c1,e1⟩:=hj.f;obtain⟨lb,c2,e2⟩:=hj.b;refine(An j _ _ _ _ i gf gb gi w.heap.size w1.heap.size lf lb w2 e1 e2 c1 c2 hj.i l3 l4 l5 l1 l2 l6 l7 hw2 hj.below.size).mono ?_
   rintro e w3 ⟨rfl,d1,d2,d3,fr,gg⟩;have r1:aa w3 gr [.int .i64 0,.int .u64 0] 150:=(gg gr n1 n2 hj.r1.lt).trans hj.r1
   have r2:aa w3 (gr+1) [.int .i64 0,.int .i64 0] 137:=(gg (gr+1) n3 n4 hj.r2.lt).trans hj.r2;refine⟨_,rfl,fun hr=>?_,fun hr=>?_,fr⟩
   .have hr:=of_decide_eq_true hr;exact⟨hj.below.trans fr.below,by omega,⟨_,d1,rfl⟩,⟨_,d2,rfl⟩,d3,r1,r2⟩
   .have hr:=of_decide_eq_false hr;have:=hj.le;exact⟨by omega,⟨r1,r2⟩,d1,d2⟩
  .rintro e w2 ⟨q,b,rfl,_,hq,h1,h2,fr⟩;cases b with
   | true=>
    obtain⟨rfl,hI2⟩:=h1 rfl;have:=hI2.le;omega
   | false=>
    obtain⟨hlt,h3⟩:=h2 rfl;rcases h3 with⟨h3,_⟩ | ⟨_,rfl,⟨r1,r2⟩,h4,h5⟩
    .exact absurd (v.se q hlt) h3
    .exact⟨_,rfl,h4,h5,r1,r2,fr⟩
 have hmf:∀(fn:Fn) (first cap:Array Value) (w:World),(Instr.makeFunc fn first cap).run prog w=.ok (.func fn first cap) w:=fun _ _ _ _=>rfl;have hib:i<=69906:=by omega
 clear v;obtain⟨⟨ao,cap,qo,dap,so,sc,tO,tc,rfl,_⟩,_⟩:=h;obtain⟨N,k,V,M,xs,L,ys,S,T⟩:=a;dsimp only at *;generalize cls xs i=c at *;generalize cOff L ys xs i=o at *;generalize cOn xs i=s at *
 generalize cAt xs i=p at *
 obtain⟨W,hW⟩:∃W,W=(((((w.alloc (.cells #[.int .i64 N,.int .i64 k,.int .i64 V,.int .i64 M,.slice ao xs.length cap,.int .i64 L,.slice qo ys.length dap,.slice so S.length sc,.slice tO T.length tc] 59)).alloc (.cells #[.int .i64 i] 3)).alloc (.cells #[.int .i64 0,.int .u64 0] 150)).alloc (.cells #[.int .i64 0,.int .i64 0] 137)).alloc (.cells #[.int .i64 0,.int .u64 0] 150)).alloc (.cells #[.int .i64 0,.int .i64 0] 137):=⟨_,rfl⟩
 obtain⟨⟨bW,zW⟩,C1,C2,C3,C4,C5⟩:(Below w.heap.size w W/\W.heap.size=w.heap.size+6)/\aa W (w.heap.size+1) [.int .i64 i] 3/\aa W (w.heap.size+2) [.int .i64 0,.int .u64 0] 150/\aa W (w.heap.size+3) [.int .i64 0,.int .i64 0] 137/\aa W (w.heap.size+4) [.int .i64 0,.int .u64 0] 150/\aa W (w.heap.size+5) [.int .i64 0,.int .i64 0] 137:=by
  rw[hW]
  have e1:=aa.new (w.alloc (.cells #[.int .i64 N,.int .i64 k,.int .i64 V,.int .i64 M,.slice ao xs.length cap,.int .i64 L,.slice qo ys.length dap,.slice so S.length sc,.slice tO T.length tc] 59)) [.int .i64 i] 3
  have e2:=aa.new ((w.alloc (.cells #[.int .i64 N,.int .i64 k,.int .i64 V,.int .i64 M,.slice ao xs.length cap,.int .i64 L,.slice qo ys.length dap,.slice so S.length sc,.slice tO T.length tc] 59)).alloc (.cells #[.int .i64 i] 3)) [.int .i64 0,.int .u64 0] 150
  have e3:=aa.new (((w.alloc (.cells #[.int .i64 N,.int .i64 k,.int .i64 V,.int .i64 M,.slice ao xs.length cap,.int .i64 L,.slice qo ys.length dap,.slice so S.length sc,.slice tO T.length tc] 59)).alloc (.cells #[.int .i64 i] 3)).alloc (.cells #[.int .i64 0,.int .u64 0] 150)) [.int .i64 0,.int .i64 0] 137
  have e4:=aa.new ((((w.alloc (.cells #[.int .i64 N,.int .i64 k,.int .i64 V,.int .i64 M,.slice ao xs.length cap,.int .i64 L,.slice qo ys.length dap,.slice so S.length sc,.slice tO T.length tc] 59)).alloc (.cells #[.int .i64 i] 3)).alloc (.cells #[.int .i64 0,.int .u64 0] 150)).alloc (.cells #[.int .i64 0,.int .i64 0] 137)) [.int .i64 0,.int .u64 0] 150
  have e5:=aa.new (((((w.alloc (.cells #[.int .i64 N,.int .i64 k,.int .i64 V,.int .i64 M,.slice ao xs.length cap,.int .i64 L,.slice qo ys.length dap,.slice so S.length sc,.slice tO T.length tc] 59)).alloc (.cells #[.int .i64 i] 3)).alloc (.cells #[.int .i64 0,.int .u64 0] 150)).alloc (.cells #[.int .i64 0,.int .i64 0] 137)).alloc (.cells #[.int .i64 0,.int .u64 0] 150)) [.int .i64 0,.int .i64 0] 137
  simp only[World.size_alloc]at e1 e2 e3 e4 e5
  refine⟨⟨(((((below_alloc w _).alloc (by simp) _).alloc (by simp;omega) _).alloc (by simp;omega) _).alloc (by simp;omega) _).alloc (by simp;omega) _,by simp⟩,(((e1.alloc _).alloc _).alloc _).alloc _,((e2.alloc _).alloc _).alloc _,(e3.alloc _).alloc _,e4.alloc _,e5⟩
 have HI:Hid (lN w i (w.heap.size+4) (w.heap.size+5) (w.heap.size+1) (w.heap.size+2) (8*(i/8)) W):=⟨bW,by omega,⟨_,C4,rfl⟩,⟨_,C5,rfl⟩,C1,C2,C3⟩;go_enter func101,ntmps101;go_wp2_with fail
 rw[<-hW]
 refine(HA.out (w.heap.size+4) (w.heap.size+5) (w.heap.size+1) (w.heap.size+2) W HI.out (by omega) (by omega) (by omega) (by omega) (by omega) (by omega) (by omega) (by omega) (by omega) (by omega) (by omega) (by omega) (by omega)).mono ?_
 rintro e w2 ⟨r,rfl,d1,d2,r1,r2,fr⟩;have bw2:=bW.trans fr.below;clear HA HI fr hW bW C1 C2 C3 C4 C5;go_wp2
 refine bn [3] (fun w'=>aa w' (w.heap.size+4) [.int .i64 c,.int .u64 o] 150/\aa w' (w.heap.size+5) [.int .i64 s,.int .i64 p] 137) (by kernel_rfl) ?_
 have hS:aa w2.drew (w.heap.size+4) [.int .i64 c,.int .u64 o] 150/\aa w2.drew (w.heap.size+5) [.int .i64 s,.int .i64 p] 137:=⟨d1,d2⟩
 replace r1:aa w2.drew (w.heap.size+2) [.int .i64 0,.int .u64 0] 150:=r1;replace r2:aa w2.drew (w.heap.size+3) [.int .i64 0,.int .i64 0] 137:=r2;replace bw2:Below w.heap.size w w2.drew:=bw2.drew
 generalize w2.drew=U at *;clear d1 d2;refine aF 0 hS rfl (fun w0 h0=>by have c0:=h0.1.cell 0 rfl;have c1:=h0.1.cell 1 rfl;go_simp;try with_reducible rfl) ?_
 refine aF 1 hS rfl (fun w0 h0=>by have c0:=h0.2.cell 0 rfl;have c1:=h0.2.cell 1 rfl;go_simp;try with_reducible rfl) ?_;refine aO 2 ?_;intro K hK;have f0:=r1.frozen 0;have f1:=r1.frozen 1
 have n0:=r1.cell 0 rfl;have n1:=r1.cell 1 rfl;go_simp
 refine hK.out _ _ (fun _=>⟨(hS.1.other (by show w.heap.size+4≠w.heap.size+2;omega) _).other (by show w.heap.size+4≠w.heap.size+2;omega) _,(hS.2.other (by show w.heap.size+5≠w.heap.size+2;omega) _).other (by show w.heap.size+5≠w.heap.size+2;omega) _⟩) ?_
 clear hK K f0 f1 n0 n1
 replace r2:=(r2.other (a:=⟨w.heap.size+2,0,none⟩) (by show w.heap.size+3≠w.heap.size+2;omega) (.int .i64 c)).other (a:=⟨w.heap.size+2,1,none⟩) (by show w.heap.size+3≠w.heap.size+2;omega) (.int .u64 o)
 replace r1:=(r1.set 0 (.int .i64 c)).set 1 (.int .u64 o)
 replace bw2:Below w.heap.size w ((U.setCell ⟨w.heap.size+2,0,none⟩ (.int .i64 c)).setCell ⟨w.heap.size+2,1,none⟩ (.int .u64 o)):=(bw2.setCell (by show w.heap.size<=w.heap.size+2;omega) _).setCell (by show w.heap.size<=w.heap.size+2;omega) _
 generalize (U.setCell ⟨w.heap.size+2,0,none⟩ (.int .i64 c)).setCell ⟨w.heap.size+2,1,none⟩ (.int .u64 o)=Z at *;try simp only[Act.put,aw,ar,an,ah,aj,ai]
 refine aO 3 ?_;intro K hK;have f0:=r2.frozen 0;have f1:=r2.frozen 1;have n0:=r2.cell 0 rfl;have n1:=r2.cell 1 rfl;go_simp;refine hK.out _ _ (fun h=>absurd (by decide) h) ?_;clear hK K
 try simp only[Act.put,aw,ar,an,ah,aj,ai]
 refine az.done (by kernel_rfl) ?_ _;clear f0 f1 n0 n1
 replace r1:=(r1.other (a:=⟨w.heap.size+3,0,none⟩) (by show w.heap.size+2≠w.heap.size+3;omega) (.int .i64 s)).other (a:=⟨w.heap.size+3,1,none⟩) (by show w.heap.size+2≠w.heap.size+3;omega) (.int .i64 p)
 replace r2:=(r2.set 0 (.int .i64 s)).set 1 (.int .i64 p)
 replace bw2:Below w.heap.size w ((Z.setCell ⟨w.heap.size+3,0,none⟩ (.int .i64 s)).setCell ⟨w.heap.size+3,1,none⟩ (.int .i64 p)):=(bw2.setCell (by show w.heap.size<=w.heap.size+3;omega) _).setCell (by show w.heap.size<=w.heap.size+3;omega) _
 generalize (Z.setCell ⟨w.heap.size+3,0,none⟩ (.int .i64 s)).setCell ⟨w.heap.size+3,1,none⟩ (.int .i64 p)=Z2 at *;go_wp2
 exact bodyPost_ret (yP rfl (w.heap.size+2) (w.heap.size+3) _ _ rfl rfl r1 r2 underlying150 underlying137 Em ut) rfl ⟨rfl,bw2⟩
theorem vH(m:Nat)(f:Nat->Bool)(i:Nat):blv m f i<18446744073709551616:=by have:=ow m f i;omega
theorem Ga(m:Nat)(Y:List Nat)(bit:Bool)(i j:Nat)(h0:0<i)(hj:j=(i-1)/15)(hi:i<=m):bon m (bitAt Y) j+cnt (blv m (bitAt Y) j) (i-15*j)=cntB Y i:=by
 have a:=GU m Y j (by omega);have b:=vJ m Y j (i-15*j) (by omega) (by omega);rw[show 15*j+(i-15*j)=i by omega]at b;omega
theorem Ah(cs:List Value)(a:aT)(m i:Nat)(Y:List Nat)(bit:Bool)(w:World)(h:br w cs a)(v:KV a m Y)(hi:i<=m):
  Qq 127 #[.agg cs.toArray,.bool bit,.int .i64 i] w (.int .i64 (cB Y bit i:Nat)):=by
 have hm:=v.le;obtain⟨j,hj⟩:∃j,j=(i-1)/15:=⟨_,rfl⟩
 have HB:Hid (0<i->Qz w 101 #[.agg cs.toArray,.int .i64 (j:Int)] (.tuple #[.agg #[.int .i64 (cls a.xs j:Nat),.int .u64 (cOff a.L a.ys a.xs j:Nat)],.agg #[.int .i64 (cOn a.xs j:Nat),.int .i64 (cAt a.xs j:Nat)]])):=by
  intro h0 w0 hb;exact Am cs a m j Y w0 (h.keep hb) v (by unfold nb;omega)
 have HW:Hid (0<i->∀w0,Qq 102 #[.agg #[.int .i64 (cls a.xs j:Nat),.int .u64 (cOff a.L a.ys a.xs j:Nat)]] w0 (.int .u64 (blv m (bitAt Y) j:Nat))):=by
  intro h0 w0;have hjn:j<nb m:=by unfold nb;omega
  have:=sI (cls a.xs j) (cOff a.L a.ys a.xs j) (j1 _ _) (v.off j hjn) w0;rw[v.wd j hjn]at this;exact this
 have HR:Hid (0<i->∀w0,Qx 145 #[.int .u64 (blv m (bitAt Y) j:Nat),.int .i64 ((i:Int)-(j:Int)*15)] w0 (.int .i64 (cnt (blv m (bitAt Y) j) (i-15*j):Nat))):=by
  intro h0 w0;have:=nh (blv m (bitAt Y) j:Nat) ((i:Int)-(j:Int)*15) (by omega) (by have:=vH m (bitAt Y) j;omega) w0;unfold dy at this
  rw[Int.toNat_natCast,show min ((i:Int)-(j:Int)*15).toNat 64=i-15*j by omega]at this;exact this
 have HS:Hid (0<i->cOn a.xs j+cnt (blv m (bitAt Y) j) (i-15*j)=cntB Y i):=by
  intro h0;rw[v.on j (by unfold nb;omega)];exact Ga m Y bit i j h0 hj hi
 have cl:=iu Y i
 have HO:Hid (∀w0,Qx 174 #[.bool bit,.int .i64 i,.int .i64 (cntB Y i:Nat)] w0 (.int .i64 (cB Y bit i:Nat))):=fun w0=>Aa bit i (cntB Y i) cl (by omega) w0;clear v
 obtain⟨⟨ao,cap,qo,dap,so,sc,tO,tc,rfl,_⟩,_⟩:=h;obtain⟨N,k,V,M,xs,L,ys,S,T⟩:=a;dsimp only at *
 obtain⟨W,hW⟩:∃W,W=w.alloc (.cells #[.int .i64 N,.int .i64 k,.int .i64 V,.int .i64 M,.slice ao xs.length cap,.int .i64 L,.slice qo ys.length dap,.slice so S.length sc,.slice tO T.length tc] 59):=⟨_,rfl⟩
 have bW:=ba hW;by_cases h0:i=0
 .subst h0;have z:cB Y bit 0=0:=by have:=qz Y bit 0;omega
  rw[z];clear HB HW HR HS HO;go_enter func127,ntmps127;go_wp2;go_ret;rw[<-hW];exact⟨rfl,bW⟩
 .have h1:0<i:=by omega
  have HS2:=HS.out h1;clear HS;have hji:j*15<=i:=by omega
  have i0:((i:Int)==0)=false:=by simp;omega
  have cv:=eM (blv m (bitAt Y) j) (i-15*j);have hjd:((i:Int)-1)/15=(j:Int):=by omega
  have hjb:j<=1048576:=by omega
  generalize cls xs j=c at *;generalize cOff L ys xs j=o at *;generalize cOn xs j=s at *;generalize cAt xs j=p at *;generalize cnt (blv m (bitAt Y) j) (i-15*j)=rk at *;generalize blv m (bitAt Y) j=bw at *
  generalize cB Y bit i=res at *;generalize cntB Y i=cn at *;have hj2:((i-1:Nat):Int)/15=(j:Int):=by omega
  have u2:Hid (IntKind.i64.wrap ((i:Int)-IntKind.i64.wrap (((i-1:Nat):Int)/15*15))=(i:Int)-(j:Int)*15):=by
   have w1:IntKind.i64.wrap ((j:Int)*15)=(j:Int)*15:=by rw[IntKind.wrap_i64];omega
   have w2:IntKind.i64.wrap ((i:Int)-(j:Int)*15)=(i:Int)-(j:Int)*15:=by rw[IntKind.wrap_i64];omega
   show IntKind.i64.wrap ((i:Int)-IntKind.i64.wrap (((i-1:Nat):Int)/15*15))=(i:Int)-(j:Int)*15;rw[hj2,w1,w2]
  clear hj2;have u3:IntKind.i64.wrap ((s:Int)+(rk:Int))=(cn:Int):=by rw[IntKind.wrap_i64];omega
  go_enter func127,ntmps127;go_wp2_with fail;rw[<-hW,show((i-1:Nat):Int)/15=(j:Int)by omega,hjd];refine mr (HB.out (by first | exact h1 | trivial) _ bW) fun w1 hb=>?_
  have bw1:=bg bW hb;clear hW hb HB bW;go_wp2;have hb8:=below_alloc w1 (.cells #[.int .i64 c,.int .u64 o] 150)
  have hb9:=below_alloc (w1.alloc (.cells #[.int .i64 c,.int .u64 o] 150)) (.cells #[.int .i64 s,.int .i64 p] 137)
  have B1:=(aa.new w1 [.int .i64 c,.int .u64 o] 150).kept hb9;have B2:=aa.new2 w1 (.cells #[.int .i64 c,.int .u64 o] 150) [.int .i64 s,.int .i64 p] 137
  have bV:=bw1.trans ((hb8.trans (hb9.mono (by simp))).mono bw1.size);clear hb8 hb9 bw1
  refine bn [] (fun w'=>aa w' w1.heap.size [.int .i64 c,.int .u64 o] 150/\aa w' (w1.heap.size+1) [.int .i64 s,.int .i64 p] 137) (by kernel_rfl) ?_
  generalize (w1.alloc (.cells #[.int .i64 c,.int .u64 o] 150)).alloc (.cells #[.int .i64 s,.int .i64 p] 137)=U at *
  have hS:aa U.drew w1.heap.size [.int .i64 c,.int .u64 o] 150/\aa U.drew (w1.heap.size+1) [.int .i64 s,.int .i64 p] 137:=⟨B1,B2⟩;replace bV:Below w.heap.size w U.drew:=bV.drew
  generalize U.drew=Z at *;clear B1 B2;refine aK 0 hS ?_;refine aK 1 hS ?_;refine aK 2 hS ?_;refine aF 3 hS rfl (fun w0 h0=>by have c0:=h0.2.cell 0 rfl;go_simp;try with_reducible rfl) ?_
  refine aF 4 hS rfl (fun w0 h0=>by have c0:=h0.1.cell 0 rfl;have c1:=h0.1.cell 1 rfl;go_simp;try with_reducible rfl) ?_;refine aK 6 hS ?_;refine aK 7 hS ?_;refine aK 8 hS ?_;refine aK 9 hS ?_
  refine aO 5 ?_;intro K hK;go_simp;refine mr (HW.out (by first | exact h1 | trivial) _) fun w3 hb=>?_;have hS3:=And.intro (hS.1.kept hb) (hS.2.kept hb);have bw3:=bg bV hb;clear hb hS bV HW
  refine hK.out _ _ (fun _=>hS3) ?_;clear hK K;try simp only[Act.put,aw,ar,an,ah,aj,ai]
  refine aO 10 ?_;intro K hK;go_simp;rw[u2.out];refine(HR.out (by first | exact h1 | trivial) _).mono ?_;rintro e w4 ⟨rfl,rfl⟩;refine hK.out _ _ (fun _=>hS3) ?_;clear hK K
  try simp only[Act.put,aw,ar,an,ah,aj,ai]
  refine aK 11 hS3 ?_;refine aO 12 ?_;intro K hK;go_simp
  (try rw[u3]);refine(HO.out _).mono ?_;rintro e w5 ⟨rfl,rfl⟩;refine hK.out _ _ (fun _=>hS3) ?_;clear hK K;try simp only[Act.put,aw,ar,an,ah,aj,ai]
  refine aK 13 hS3 ?_;refine az.done (by kernel_rfl) ?_ _;go_wp2;go_ret;exact⟨rfl,bw3⟩
theorem zC(cs:List Value)(a:aT)(bit:Bool)(i:Int)(w:World)(h:br w cs a)(hi:aD i):
  Qq 77 #[.agg cs.toArray,.bool bit,.int .i64 i] w (.tuple #[.int .i64 (grN (kOk8 a) (kBN8 a) (kBX8 a) bit i),.int .i64 (grE (kOk8 a) (kBN8 a) i)]):=by
 have C:=fun(w0:World) (hb:Below w.heap.size w w0)=>sK cs a w0 (h.keep hb);cases hk:kOk8 a with
 | false=>
  rw[hk]at C;have CH:Hid (Qz w 100 #[.agg cs.toArray] (.bool false)):=C
  show Calls _ _ _ _ fun e w'=>e=.returned (.tuple #[.int .i64 0,.int .i64 2])/\Below w.heap.size w w';clear C hk;obtain⟨⟨ao,cap,qo,dap,so,sc,tO,tc,rfl,_⟩,_⟩:=h;obtain⟨N,k,V,M,xs,L,ys,S,T⟩:=a
  dsimp only at *
  obtain⟨W,hW⟩:∃W,W=w.alloc (.cells #[.int .i64 N,.int .i64 k,.int .i64 V,.int .i64 M,.slice ao xs.length cap,.int .i64 L,.slice qo ys.length dap,.slice so S.length sc,.slice tO T.length tc] 59):=⟨_,rfl⟩
  have bW:=ba hW;go_enter func77,ntmps77;go_wp2_with fail;rw[<-hW];refine mr (CH.out _ bW) fun w1 hb=>?_;have bw1:=bg bW hb;clear hW hb;go_wp2;go_ret2;exact⟨rfl,bw1⟩
 | true=>
 rw[hk]at C;have CH:Hid (Qz w 100 #[.agg cs.toArray] (.bool true)):=C;obtain⟨m,eN,v⟩:=Bt a hk;have hm:=v.le
 have vN:=v.nN;clear C hk;rw[eN];generalize kBX8 a=Y at *;have ga:grE true (m:Int) i=if i<0\/(m:Int)<i then 3 else 0:=rfl
 by_cases hr:i<0\/(m:Int)<i
 .have gb:grN true (m:Int) Y bit i=0:=by unfold grN;rw[ga,if_pos hr];rfl
  rw[ga,gb,if_pos hr];clear v ga gb;obtain⟨⟨ao,cap,qo,dap,so,sc,tO,tc,rfl,_⟩,_⟩:=h;obtain⟨N,k,V,M,xs,L,ys,S,T⟩:=a;dsimp only at *;subst vN
  obtain⟨W,hW⟩:∃W,W=w.alloc (.cells #[.int .i64 m,.int .i64 k,.int .i64 V,.int .i64 M,.slice ao xs.length cap,.int .i64 L,.slice qo ys.length dap,.slice so S.length sc,.slice tO T.length tc] 59):=⟨_,rfl⟩
  have bW:=ba hW;have B1:=bE hW;go_enter func77,ntmps77;go_wp2_with fail;rw[<-hW];refine mr (CH.out _ bW) fun w1 hb=>?_;have bw1:=bg bW hb;have q0:=(B1.kept hb).cell 0 rfl
  clear hW hb;by_cases h0:i<0
  .go_wp2;go_ret2;exact⟨rfl,bw1⟩
  .have h1:(m:Int)<i:=by omega
   go_wp2;go_ret2;exact⟨rfl,bw1⟩
 .obtain⟨n,rfl⟩:=Int.eq_ofNat_of_zero_le (show 0<=i by omega);have hn:n<=m:=by omega
  have gb:grN true (m:Int) Y bit (n:Int)=(cB Y bit n:Nat):=by unfold grN;rw[ga,if_neg hr,if_pos rfl,Int.toNat_natCast]
  rw[ga,gb,if_neg hr];have h0:¬(n:Int)<0:=by omega
  have h1:¬(m:Int)<(n:Int):=by omega
  have HB:Hid (Qz w 127 #[.agg cs.toArray,.bool bit,.int .i64 n] (.int .i64 (cB Y bit n:Nat))):=fun w0 hb=>Ah cs a m n Y bit w0 (h.keep hb) v hn
  clear v ga gb hr;generalize cB Y bit n=R at *;obtain⟨⟨ao,cap,qo,dap,so,sc,tO,tc,rfl,_⟩,_⟩:=h;obtain⟨N,k,V,M,xs,L,ys,S,T⟩:=a;dsimp only at *;subst vN
  obtain⟨W,hW⟩:∃W,W=w.alloc (.cells #[.int .i64 m,.int .i64 k,.int .i64 V,.int .i64 M,.slice ao xs.length cap,.int .i64 L,.slice qo ys.length dap,.slice so S.length sc,.slice tO T.length tc] 59):=⟨_,rfl⟩
  have bW:=ba hW;have B1:=bE hW;go_enter func77,ntmps77;go_wp2_with fail;rw[<-hW];refine mr (CH.out _ bW) fun w1 hb=>?_;have bw1:=bg bW hb;replace B1:=B1.kept hb
  have q0:=B1.cell 0 rfl;have q1:=B1.cell 1 rfl;have q2:=B1.cell 2 rfl;have q3:=B1.cell 3 rfl;have q4:=B1.cell 4 rfl;have q5:=B1.cell 5 rfl;have q6:=B1.cell 6 rfl;have q7:=B1.cell 7 rfl;have q8:=B1.cell 8 rfl
  clear hW hb;go_wp2_with fail;refine mr (HB.out _ bw1) fun w2 hb=>?_;have bw2:=bg bw1 hb;clear hb bw1 q0 q1 q2 q3 q4 q5 q6 q7 q8 B1 HB;go_wp2;go_ret2;exact⟨rfl,bw2⟩
theorem xR(cs:List Value)(a:aT)(w:World)(h:br w cs a):
  Qq 68 #[.agg cs.toArray] w (.int .i64 (kZ8 a)):=by
 have C:=fun(w0:World) (hb:Below w.heap.size w w0)=>sK cs a w0 (h.keep hb);obtain⟨⟨ao,cap,qo,dap,so,sc,tO,tc,rfl,_⟩,_,_,sl,tl⟩:=h;obtain⟨N,k,V,M,xs,L,ys,S,T⟩:=a;dsimp only at *
 obtain⟨Z,hZ⟩:∃Z,Hid (Z=kZ8 ⟨N,k,V,M,xs,L,ys,S,T⟩):=⟨_,rfl⟩;rw[<-hZ.out]
 obtain⟨W,hW⟩:∃W,W=w.alloc (.cells #[.int .i64 N,.int .i64 k,.int .i64 V,.int .i64 M,.slice ao xs.length cap,.int .i64 L,.slice qo ys.length dap,.slice so S.length sc,.slice tO T.length tc] 59):=⟨_,rfl⟩
 have bW:=ba hW;have B1:=bE hW
 have CH:Hid (Qz w 100 #[.agg #[.int .i64 N,.int .i64 k,.int .i64 V,.int .i64 M,.slice ao xs.length cap,.int .i64 L,.slice qo ys.length dap,.slice so S.length sc,.slice tO T.length tc]] (.bool (kOk8 ⟨N,k,V,M,xs,L,ys,S,T⟩))):=C
 clear C;cases hk:kOk8 ⟨N,k,V,M,xs,L,ys,S,T⟩with
 | false=>
  rw[hk]at CH
  have E:Hid (Z=0):=by
   show Z=0;rw[hZ.out];unfold kZ8 kj;rw[show cM N k V M xs L ys S T=false from hk];rfl
  clear hk hZ;go_enter func68,ntmps68;go_wp2_with fail;rw[<-hW];refine mr (CH.out _ bW) fun w1 hb=>?_;have bw1:=bg bW hb;clear hW;go_wp2;go_ret;rw[E.out];exact⟨rfl,bw1⟩
 | true=>
  rw[hk]at CH
  have E:Hid (Z=M+L+64*(S.length:Int)):=by
   show Z=_;rw[hZ.out];unfold kZ8 kj;rw[show cM N k V M xs L ys S T=true from hk];rfl
  obtain⟨_,i2,i3,_⟩:=kA N k V M xs L ys S T hk;obtain⟨_,_,_,_,_,m1,m2,_⟩:=dP k V M xs i2;obtain⟨l1,l2,_,_⟩:=bj L ys i3;clear hk hZ;go_enter func68,ntmps68;go_wp2_with fail
  rw[<-hW];refine mr (CH.out _ bW) fun w1 hb=>?_;have bw1:=bg bW hb;replace B1:=B1.kept hb;have r3:=B1.cell 3 rfl;have r5:=B1.cell 5 rfl;have r7:=B1.cell 7 rfl;clear hW hb;go_wp2;go_ret
  rw[E.out];exact⟨rfl,bw1⟩
def rowP(n:Nat)(F:Nat->Bool)(p:Nat):List Nat:=rowOf n fun j=>decide (j<p)&&F j
theorem length_rowP(n:Nat)(F:Nat->Bool)(p:Nat):(rowP n F p).length=(n+63)/64:=cP _ _
theorem uW(n:Nat)(F:Nat->Bool)(p:Nat):aA (rowP n F p):=cY _ _
theorem yA(n:Nat)(F:Nat->Bool):rowP n F 0=rowOf n fun _=>false:=di _ _ _ fun i _=>by simp
theorem yC(n:Nat)(F:Nat->Bool):rowP n F n=rowOf n F:=di _ _ _ fun i hi=>by simp[hi]
theorem r_(n:Nat)(F:Nat->Bool)(p d x:Nat)(hd:d<=64)(hp:p+d<=n)(hx:x<2^d):j_ (rowP n F p) p x:=
 yH _ _ _ d hx hd (by rw[length_rowP];omega)
theorem yB(n:Nat)(F:Nat->Bool)(p d x:Nat)(hd:d<=64)(hp:p+d<=n)(hx:x<2^d)(hb:∀t,t<d->x.testBit t=F (p+t)):eh (rowP n F p) p x=rowP n F (p+d):=by
 have hR:=r_ n F p d x hd hp hx;have h64:x<18446744073709551616:=Nat.lt_of_lt_of_le hx (Nat.pow_le_pow_right (n:=2) (j:=64) (by decide) hd)
 refine jz n _ _ (Fj _ (uW _ _ _) _ _ h64 hR) (by rw[DA,length_rowP]) fun i _=>?_;rw[Hj _ _ _ h64 hR];unfold rowP;rw[eQ];by_cases c:i<p
 .simp[c,show i<p+d by omega,show ¬p<=i by omega]
 .by_cases e:i<p+d
  .have:=hb (i-p) (by omega);rw[show p+(i-p)=i by omega]at this;simp[c,e,show p<=i by omega,this,show i<n by omega]
  .have:x<2^(i-p):=Nat.lt_of_lt_of_le hx (Nat.pow_le_pow_right (by decide) (by omega));rw[Nat.testBit_lt_two_pow this];simp[c,e]
theorem bh.tb{g b:Nat}{w w':World}{cs:List Value}(h:bh g w w')(hc:Tb w b cs)(hb:b≠g):Tb w' b cs:=by
 obtain⟨T,hc⟩:=hc;exact⟨T,(h.block b hb).trans hc⟩
theorem bh.cel{g b:Nat}{w w':World}{cs:List Value}{T:TypeId}(h:bh g w w')(hc:aa w b cs T)(hb:b≠g):aa w' b cs T:=(h.block b hb).trans hc
end Go.Proofs.YtleegaihbgbcjabGreatDoor
namespace Go.Proofs.YtleegaihbgbcjabGreatDoor
open Go.RowKit Num Bit
def dR(n:Nat)(a b:Nat->Value):List Value:=(List.range (n*2)).map fun j=>if j%2=0 then a (j/2)else b (j/2)
theorem nO(n:Nat)(a b:Nat->Value):(dR n a b).length=n*2:=by simp[dR]
theorem oy(n:Nat)(a b:Nat->Value)(j:Nat)(h:j<n*2):(dR n a b)[j]?=some (if j%2=0 then a (j/2)else b (j/2)):=by
 unfold dR;rw[List.getElem?_map,List.getElem?_range h];rfl
theorem qP(n:Nat)(a b:Nat->Value)(i:Nat)(h:i<n):(dR n a b)[i*2]?=some (a i):=by
 rw[oy n a b (i*2) (by omega),if_pos (by omega),show i*2/2=i by omega]
theorem qO(n:Nat)(a b:Nat->Value)(i:Nat)(h:i<n):(dR n a b)[i*2+1]?=some (b i):=by
 rw[oy n a b (i*2+1) (by omega),if_neg (by omega),show(i*2+1)/2=i by omega]
theorem vQ(n:Nat)(a b a' b':Nat->Value)(i:Nat)(h:i<n)(ha:∀j,j≠i->a' j=a j)(hb:∀j,j≠i->b' j=b j):((dR n a b).set (i*2) (a' i)).set (i*2+1) (b' i)=dR n a' b':=by
 refine List.ext_getElem? fun j=>?_;by_cases c:j<n*2
 .rw[oy n a' b' j c,List.getElem?_set,List.getElem?_set];by_cases c1:i*2+1=j
  .subst c1;rw[if_pos rfl,List.length_set,nO,if_pos c,if_neg (by omega),show(i*2+1)/2=i by omega]
  .rw[if_neg c1];by_cases c2:i*2=j
   .subst c2;rw[if_pos rfl,nO,if_pos c,if_pos (by omega),show i*2/2=i by omega]
   .rw[if_neg c2,oy n a b j c,ha (j/2) (by omega),hb (j/2) (by omega)]
 .rw[List.getElem?_eq_none (by rw[List.length_set,List.length_set,nO];omega),List.getElem?_eq_none (by rw[nO];omega)]
theorem Ha(n:Nat)(x y:Value):(madeCells #[x,y] (n*2)).toList=dR n (fun _=>x) (fun _=>y):=by
 unfold madeCells dR;rw[Array.toList_map,Array.toList_range];refine List.map_congr_left fun j _=>?_;show #[x,y][j%2]! =_;rcases Nat.mod_two_eq_zero_or_one j with e | e
 .rw[e];rfl
 .rw[e];rfl
theorem vA{w:World}{base g n:Nat}{E:TypeId}{x y:Value}(h:w.ownsRow base E 2 (.slice (some ⟨g,0,none⟩) n n) n (madeCells #[x,y] (n*2)).toList):aa w g (dR n (fun _=>x) (fun _=>y)) E:=by
 obtain⟨_,h | ⟨g',cap,cur,e,_,hh,_,_,hs,ht⟩⟩:=h
 .simp at h
 .simp only[Value.slice.injEq,Option.some.injEq,Addr.mk.injEq]at e;obtain⟨⟨rfl,_,_⟩,_,rfl⟩:=e;unfold aa;rw[hh,<-Ha n x y,<-ht]
  have e3:cur.toList.take (n*2)=cur.toList:=List.take_of_length_le (by simp;omega);rw[e3]
open Go.RowKit Num Bit Bn
def cD(n:Nat)(c o:Nat->Nat)(q:Nat):List Value:=dR n (fun i=>.int .i64 ((if i<q then c i else 0:Nat):Int)) (fun i=>.int .u64 ((if i<q then o i else 0:Nat):Int))
theorem GZ(n:Nat)(c o:Nat->Nat):cD n c o 0=dR n (fun _=>.int .i64 0) (fun _=>.int .u64 0):=by unfold cD;simp
theorem G_(n:Nat)(c o:Nat->Nat)(q:Nat)(h:q<n):((cD n c o q).set (q*2) (.int .i64 (c q:Nat))).set (q*2+1) (.int .u64 (o q:Nat))=cD n c o (q+1):=by
 have e:=vQ n (fun i=>.int .i64 ((if i<q then c i else 0:Nat):Int)) (fun i=>.int .u64 ((if i<q then o i else 0:Nat):Int)) (fun i=>.int .i64 ((if i<q+1 then c i else 0:Nat):Int)) (fun i=>.int .u64 ((if i<q+1 then o i else 0:Nat):Int)) q h
  (fun j hj=>by by_cases d:j<q<;>simp[d,show(j<q+1↔j<q)by omega]) (fun j hj=>by by_cases d:j<q<;>simp[d,show(j<q+1↔j<q)by omega])
 rw[if_pos (show q<q+1 by omega),if_pos (show q<q+1 by omega)]at e;exact e
theorem xL(m:Nat)(X:List Nat)(hk:am (m:Int) X=true)(i:Nat)(hi:i<nb m):slcE (m:Int) X ((15*i:Nat):Int) ((min 15 (m-15*i):Nat):Int)=0/\slcX (m:Int) X ((15*i:Nat):Int) ((min 15 (m-15*i):Nat):Int)=blv m (bitAt X) i:=by
 have e:slcE (m:Int) X ((15*i:Nat):Int) ((min 15 (m-15*i):Nat):Int)=0:=by
  unfold slcE;unfold nb at hi;rw[if_neg (by rw[hk];simp;omega),if_neg (by omega)]
 refine⟨e,?_⟩;unfold slcX;rw[if_pos e,Int.toNat_natCast,Int.toNat_natCast];unfold blv;refine(je _ _ _ fun t=>?_).symm;rw[iM];by_cases c:t<min 15 (m-15*i)
 .simp[c,show t<15 by omega,show 15*i+t<m by omega]
 .by_cases d:t<15
  .simp[c,show ¬15*i+t<m by omega]
  .simp[c,d]
theorem zZ(m:Nat)(ao:Option Addr)(X:List Nat)(cap:Nat)(w:World)(hm:m<=1048576)(hx:Wd w ao X)(hf:aA X)(hk:am (m:Int) X=true):
  Calls prog 88 #[.agg #[.int .i64 m,.slice ao X.length cap]] w fun e w'=>∃g,e=.returned (.slice (some ⟨g,0,none⟩) (nb m) (nb m))/\aa w' g (cD (nb m) (bcl m (bitAt X)) (bof m (bitAt X)) (nb m)) 150/\w.heap.size<=g/\Below w.heap.size w w':=by
 obtain⟨i0,hi,hz0,hz1,hz2⟩:=info_parts (show(prog.info? 150).map (fun i=>(i.zero,i.size,i.bytes))=some (some (.agg #[.int .i64 0,.int .u64 0]),2,16)by kernel_rfl);have nbl:=iD m hm
 have HN:Hid (∀w0,Qx 139 #[.int .i64 m] w0 (.int .i64 (nb m:Nat))):=fun w0=>sL m hm w0
 obtain⟨W,hW⟩:∃W,W=w.alloc (.cells #[.int .i64 m,.slice ao X.length cap] 53):=⟨_,rfl⟩;have bW:=ba hW;have zW:W.heap.size=w.heap.size+1:=by rw[hW];simp
 have B1:=bE hW
 have HSl:Hid (∀(i:Nat) w0,i<nb m->Below w.heap.size w w0->Qq 140 #[.agg #[.int .i64 m,.slice ao X.length cap],.int .i64 ((15*i:Nat):Int),.int .i64 ((min 15 (m-15*i):Nat):Int)] w0 (.tuple #[.int .u64 (blv m (bitAt X) i:Nat),.int .i64 0])):=by
  intro i w0 hi hb;have:=m6 (m:Int) ao X cap ((15*i:Nat):Int) ((min 15 (m-15*i):Nat):Int) w0 (hx.keep hb) hf (by omega) (by omega) (by omega) (by omega);obtain⟨e1,e2⟩:=xL m X hk i hi
  rw[e1,e2]at this;exact this
 have HBo:Hid (∀(i:Nat) w0,Qq 141 #[.int .u64 (blv m (bitAt X) i:Nat)] w0 (.agg #[.int .i64 (bcl m (bitAt X) i:Nat),.int .u64 (bof m (bitAt X) i:Nat)])):=fun i w0=>sM _ (vH _ _ _) w0
 have ST:Hid (∀q,q<nb m->((cD (nb m) (bcl m (bitAt X)) (bof m (bitAt X)) q).set (q*2) (.int .i64 (bcl m (bitAt X) q:Nat))).set (q*2+1) (.int .u64 (bof m (bitAt X) q:Nat))=cD (nb m) (bcl m (bitAt X)) (bof m (bitAt X)) (q+1)):=fun q hq=>G_ _ _ _ q hq
 have HNB:Hid (∀q,q<nb m->15*q<m):=fun q hq=>by unfold nb at hq;omega
 have HZ:Hid (∀c o,dR (nb m) (fun _=>.int .i64 0) (fun _=>.int .u64 0)=cD (nb m) c o 0):=fun c o=>(GZ _ c o).symm;clear hx hf hk;generalize nb m=n at *;go_enter func88,ntmps88;go_wp2_with fail
 rw[<-hW];refine(HN.out _).mono ?_;rintro e w1 ⟨rfl,rfl⟩;clear HN hW
 go_wp2_with (at_make;refine wpList_make_full _ rfl _ _ 133 rfl w1.heap.size 150 i0 (.agg #[.int .i64 0,.int .u64 0]) 2 underlying133 hi hz0 hz1 .i64 .i64 _ _ n rfl rfl rfl rfl ?b2 ?b3 ?b4 ?_)
 case b2=>rw[hz2];omega
 case b3=>unfold maxLen;omega
 case b4=>simp
 intro w2 hown hgr;have B2:=vA hown;have hb2:Below w1.heap.size w1 w2:=(Below.refl _ _).grown hgr (Nat.le_refl _) (fun k h=>by cases h);have bw2:=bg bW hb2;replace B1:=B1.kept hb2
 rw[HZ.out (bcl m (bitAt X)) (bof m (bitAt X))]at B2;clear hown hgr hb2 hi hz0 hz1 hz2 HZ;go_wp2
 go_loopw [13] (fun s wr=>∃q:Nat,q<=n/\s=.int .i64 q/\aa wr w.heap.size [.int .i64 m,.slice ao X.length cap] 53/\aa wr (w.heap.size+1) (cD n (bcl m (bitAt X)) (bof m (bitAt X)) q) 150/\Below w.heap.size w wr) (fun s _=>n-(intOf s).toNat)
 case atStart=>exact⟨0,Nat.zero_le _,rfl,B1,B2,bw2⟩
 case round=>
  obtain⟨q,hq,rfl,B1,B2,hb⟩:=hrel;by_cases hqn:q<n
  .have hqn2:(q:Int)<(n:Int):=by omega
   have hqm:=HNB.out q hqn;have hqm2:15*(q:Int)<=(m:Int):=by omega
   have q0:=B1.cell 0 rfl;have q1:=B1.cell 1 rfl
   have HSx:Hid (∀x y:Int,x=((15*q:Nat):Int)->y=((min 15 (m-15*q):Nat):Int)->Qq 140 #[.agg #[.int .i64 m,.slice ao X.length cap],.int .i64 x,.int .i64 y] wr (.tuple #[.int .u64 (blv m (bitAt X) q:Nat),.int .i64 0])):=by
    intro x y hx hy;rw[hx,hy];exact HSl.out q wr hqn hb
   have HBq:=HBo.out q
   have HB:Hid (∀w0,Qq 141 #[.int .u64 (blv m (bitAt X) q:Nat)] w0 (.agg #[.int .i64 (bcl m (bitAt X) q:Nat),.int .u64 (bof m (bitAt X) q:Nat)])):=HBq
   have ST2:=ag (ST.out q hqn)
   have e0:(cD n (bcl m (bitAt X)) (bof m (bitAt X)) q)[q*2]?=some (.int .i64 0):=by
    unfold cD;rw[qP _ _ _ _ hqn,if_neg (by omega)];rfl
   have e1:(cD n (bcl m (bitAt X)) (bof m (bitAt X)) q)[q*2+1]?=some (.int .u64 0):=by
    unfold cD;rw[qO _ _ _ _ hqn,if_neg (by omega)];rfl
   clear HBq HSl ST;generalize bcl m (bitAt X) q=cq at *;generalize bof m (bitAt X) q=oq at *;generalize blv m (bitAt X) q=bq at *;go_wp2_with fail
   all_goals
    refine mr (HSx.out _ _ (by omega) (by omega)) fun w3 hb3=>?_;have bw3:=bg hb hb3;replace B1:=B1.kept hb3;replace B2:=B2.kept hb3;clear hb3 hb q0 q1 HSx;go_wp2_with fail
    refine mr (HB.out _) fun w4 hb4=>?_;have bw4:=bg bw3 hb4;replace B1:=B1.kept hb4;replace B2:=B2.kept hb4;have n0:=B2.cell (q*2) e0;have n1:=B2.cell (q*2+1) e1
    have f0:=B2.frozen (q*2);have f1:=B2.frozen (q*2+1);clear hb4 bw3 HB;go_wp2;have C2:=(B2.set (q*2) (.int .i64 cq)).set (q*2+1) (.int .u64 oq);rw[ST2.out]at C2
    exact⟨⟨q+1,by omega,by go_num,(B1.other (by show w.heap.size≠w.heap.size+1;omega) _).other (by show w.heap.size≠w.heap.size+1;omega) _,C2,(bw4.setCell (by show w.heap.size<=w.heap.size+1;omega) _).setCell (by show w.heap.size<=w.heap.size+1;omega) _⟩,by simp only[intOf];omega⟩
  .obtain rfl:q=n:=by omega
   go_wp2;go_ret;exact⟨w.heap.size+1,rfl,B2,by omega,hb⟩
theorem qK(n:Nat)(c o:Nat->Nat)(i:Nat)(h:i<n):(cD n c o n)[i*2]?=some (.int .i64 (c i:Nat)):=by
 unfold cD;rw[qP _ _ _ _ h,if_pos h]
theorem qJ(n:Nat)(c o:Nat->Nat)(i:Nat)(h:i<n):(cD n c o n)[i*2+1]?=some (.int .u64 (o i:Nat)):=by
 unfold cD;rw[qO _ _ _ _ h,if_pos h]
def db(G:Nat)(s p:Nat->Nat)(q:Nat):List Value:=dR G (fun j=>.int .i64 ((if 8*j<q then s (8*j)else 0:Nat):Int)) (fun j=>.int .i64 ((if 8*j<q then p (8*j)else 0:Nat):Int))
theorem Cu(G:Nat)(s p:Nat->Nat):db G s p 0=dR G (fun _=>.int .i64 0) (fun _=>.int .i64 0):=by unfold db;simp
theorem Hb(n:Nat)(a b a' b':Nat->Value)(ha:∀j,j<n->a' j=a j)(hb:∀j,j<n->b' j=b j):dR n a b=dR n a' b':=by
 unfold dR;refine List.map_congr_left fun j hj=>?_;have:=List.mem_range.1 hj;rw[ha (j/2) (by omega),hb (j/2) (by omega)]
theorem Cw(G:Nat)(s p:Nat->Nat)(q:Nat)(h:q%8≠0):db G s p q=db G s p (q+1):=by
 unfold db;refine Hb _ _ _ _ _ (fun j _=>?_) (fun j _=>?_)
 .by_cases d:8*j<q<;>simp[d,show(8*j<q+1↔8*j<q)by omega]
 .by_cases d:8*j<q<;>simp[d,show(8*j<q+1↔8*j<q)by omega]
theorem Cv(G:Nat)(s p:Nat->Nat)(q:Nat)(h:q%8=0)(hG:q/8<G):((db G s p q).set (q/8*2) (.int .i64 (s q:Nat))).set (q/8*2+1) (.int .i64 (p q:Nat))=db G s p (q+1):=by
 have e:=vQ G (fun j=>.int .i64 ((if 8*j<q then s (8*j)else 0:Nat):Int)) (fun j=>.int .i64 ((if 8*j<q then p (8*j)else 0:Nat):Int)) (fun j=>.int .i64 ((if 8*j<q+1 then s (8*j)else 0:Nat):Int)) (fun j=>.int .i64 ((if 8*j<q+1 then p (8*j)else 0:Nat):Int)) (q/8) hG
  (fun j hj=>by by_cases d:8*j<q<;>simp[d,show(8*j<q+1↔8*j<q)by omega]) (fun j hj=>by by_cases d:8*j<q<;>simp[d,show(8*j<q+1↔8*j<q)by omega])
 rw[show 8*(q/8)=q by omega,if_pos (show q<q+1 by omega),if_pos (show q<q+1 by omega)]at e;exact e
theorem tK(G:Nat)(s p:Nat->Nat)(q i:Nat)(h:i<G):(db G s p q)[i*2]?=some (.int .i64 ((if 8*i<q then s (8*i)else 0:Nat):Int)):=by unfold db;rw[qP _ _ _ _ h]
theorem tJ(G:Nat)(s p:Nat->Nat)(q i:Nat)(h:i<G):(db G s p q)[i*2+1]?=some (.int .i64 ((if 8*i<q then p (8*i)else 0:Nat):Int)):=by unfold db;rw[qO _ _ _ _ h]
theorem yO{fn:Func}{p u:Tmp}{T:TypeId}{w:World}{tmps:Array Value}(h:fn.results=#[.tmp u,.cell p T])(g:Nat)(cs:List Value){fs:Array Field}(hp:tmps.getD p undef=.pointer (some ⟨g,0,none⟩))(hc:aa w g cs T)(hu:prog.underlying T=some (.struct fs))(hi:(prog.info? T).map (·.size)=some cs.length):
  (results fn tmps).run prog w=.ok (.tuple #[tmps.getD u undef,.agg cs.toArray]) w:=by
 have hp':tmps[p]?.getD undef=.pointer (some ⟨g,0,none⟩):=by simpa using hp
 have hl:=run_loadVar_row (P:=prog) w g T T cs.toArray (0,0) _ hc hu rfl (by simpa using hi);simp[results,h,hp',asAddr,hl]
theorem Ac(n G gl:Nat)(c o s p:Nat->Nat)(w:World)(hn:n<=69906)(hG:G=(max 1 n+7)/8)(hl:aa w gl (cD n c o n) 150)(hc:∀i,i<n->c i<=15)(s0:s 0=0)(p0:p 0=0)(hs:∀i,i<n->s (i+1)=s i+c i)(hp:∀i,i<n->p (i+1)=p i+kwd (c i))(hsb:∀i,i<=n->s i<=15*i)(hpb:∀i,i<=n->p i<=13*i)(HG:GV w):
  Calls prog 89 #[.slice (some ⟨gl,0,none⟩) n n] w fun e w'=>∃g,e=.returned (.tuple #[.slice (some ⟨g,0,none⟩) G G,.agg #[.int .i64 (s n:Nat),.int .i64 (p n:Nat)]])/\aa w' g (db G s p n) 137/\w.heap.size<=g/\Below w.heap.size w w':=by
 obtain⟨i0,hi,hz0,hz1,hz2⟩:=info_parts (show(prog.info? 137).map (fun i=>(i.zero,i.size,i.bytes))=some (some (.agg #[.int .i64 0,.int .i64 0]),2,16)by kernel_rfl)
 have HGr:Hid (∀w0,Qx 142 #[.int .i64 n] w0 (.int .i64 G)):=by
  intro w0;rw[hG];exact sJ n (by omega) w0
 have hGb:G<=8739:=by omega
 have HQ8:Hid (∀q,q<n->q/8<G):=fun q hq=>by omega
 have HC:=ag hc;have HSs:=ag hs;have HPs:=ag hp;have HSB:=ag hsb;have HPB:=ag hpb;have lgl:=hl.lt;have HS0:=ag s0;have HP0:=ag p0;clear hc hs hp hsb hpb hG s0 p0
 obtain⟨W,hW⟩:∃W,W=w.alloc (.cells #[.int .i64 0,.int .i64 0] 137):=⟨_,rfl⟩;have bW:=ba hW;have zW:W.heap.size=w.heap.size+1:=by rw[hW];simp
 have B1:Tb W 0 (vI cm):=HG.wd.kept bW;have L0:=HG.two;have B2:=bE hW;replace hl:=hl.kept bW;go_enter func89,ntmps89;go_wp2_with fail;rw[<-hW];refine(HGr.out _).mono ?_;rintro e w1 ⟨rfl,rfl⟩;clear HGr hW
 go_wp2_with (at_make;refine wpList_make_full _ rfl _ _ 135 rfl w1.heap.size 137 i0 (.agg #[.int .i64 0,.int .i64 0]) 2 underlying135 hi hz0 hz1 .i64 .i64 _ _ G rfl rfl rfl rfl ?b2 ?b3 ?b4 ?_)
 case b2=>rw[hz2];omega
 case b3=>unfold maxLen;omega
 case b4=>simp
 intro w2 hown hgr;have B3:=vA hown;have hb2:Below w1.heap.size w1 w2:=(Below.refl _ _).grown hgr (Nat.le_refl _) (fun k h=>by cases h);have bw2:=bg bW hb2;have z2:=hb2.size
 replace B1:=B1.kept hb2;replace B2:=B2.kept hb2;replace hl:=hl.kept hb2;rw[<-Cu G s p]at B3;have l3:=B3.lt;clear hown hgr hb2 hi hz0 hz1 hz2 bW;go_wp2;generalize hg3:w2.heap.size=g3 at *
 go_loopw [15] (fun t wr=>∃q:Nat,q<=n/\t=.int .i64 q/\Tb wr 0 (vI cm)/\aa wr w.heap.size [.int .i64 0,.int .i64 0] 137/\aa wr (w.heap.size+1) (db G s p q) 137/\aa wr g3 [.int .i64 (s q:Nat),.int .i64 (p q:Nat)] 137/\aa wr gl (cD n c o n) 150/\Below w.heap.size w wr) (fun t _=>n-(intOf t).toNat)
 case atStart=>
  have hb3:=below_alloc w2 (.cells #[.int .i64 0,.int .i64 0] 137);refine⟨0,Nat.zero_le _,rfl,B1.kept hb3,B2.kept hb3,B3.kept hb3,?_,hl.kept hb3,bw2.trans (hb3.mono (by omega))⟩;rw[HS0.out,HP0.out,<-hg3]
  exact aa.new w2 _ _
 case round=>
  obtain⟨q,hq,rfl,B1,B2,B3,B4,hl,hb⟩:=hrel;by_cases hqn:q<n
  .have hqn2:(q:Int)<(n:Int):=by omega
   have cq15:=HC.out q hqn;have sb:=HSB.out q hq;have pb:=HPB.out q hq;have kb:=jX (c q) cq15;have h8:=HQ8.out q hqn
   have HBh:Hid (∀w0,Qq 143 #[.agg #[.int .i64 (s q:Nat),.int .i64 (p q:Nat)],.agg #[.int .i64 (c q:Nat),.int .u64 (o q:Nat)],.int .i64 (kwd (c q):Nat)] w0 (.agg #[.int .i64 (s (q+1):Nat),.int .i64 (p (q+1):Nat)])):=by
    intro w0;rw[HSs.out q hqn,HPs.out q hqn];exact sN (s q) (p q) (c q) (kwd (c q)) (o q) (by omega) (by omega) cq15 (by omega) w0
   have HWd:Hid ((vI cm)[c q]?=some (.int .i64 (kwd (c q):Nat))):=by
    show(vI cm)[c q]?=_;rw[oK cm (c q) (by rw[pO];omega),qa _ cq15]
   have x0:=hl.cell (q*2) (qK n c o q hqn);have x1:=hl.cell (q*2+1) (qJ n c o q hqn);have SK:=Cw G s p q;have ST:=Cv G s p q;have M1:=tK G s p q (q/8) h8
   have M2:=tJ G s p q (q/8) h8;have cli:((c q:Nat):Int)<16:=by omega
   have i8G:(q:Int)/8<(G:Int):=by omega
   generalize hs1:s (q+1)=s1 at *;generalize hp1:p (q+1)=p1 at *;generalize hc0:c q=cq at *;generalize ho0:o q=oq at *;generalize hsq:s q=sq at *;generalize hpq:p q=pq at *;generalize kwd cq=kq at *
   have m0:=B4.cell 0 rfl;have m1:=B4.cell 1 rfl;have l4:=B4.lt;have n0:=B3.cell _ M1;have n1:=B3.cell _ M2;have f0:=B3.frozen (q/8*2);have f1:=B3.frozen (q/8*2+1);have l3:=B3.lt;have zr:=hb.size
   by_cases e8:q%8=0
   .have e82:((q:Int)%8==0)=true:=by simp;omega
    go_wp2;have C3:=(B3.set (q/8*2) (.int .i64 sq)).set (q/8*2+1) (.int .i64 pq);rw[ST e8 h8]at C3
    have hO:aC (w.heap.size+1) wr ((wr.setCell ⟨w.heap.size+1,q/8*2,none⟩ (.int .i64 sq)).setCell ⟨w.heap.size+1,q/8*2+1,none⟩ (.int .i64 pq)):=((aC.refl _ wr).set _ _).set _ _
    generalize (wr.setCell ⟨w.heap.size+1,q/8*2,none⟩ (.int .i64 sq)).setCell ⟨w.heap.size+1,q/8*2+1,none⟩ (.int .i64 pq)=V0 at *;replace B1:=hO.tb B1 (by omega)
    replace B2:=hO.cel B2 (by omega);replace B4:=hO.cel B4 (by omega);replace hl:=hO.cel hl (by omega);have hb5:=hb.trans (hO.below (base:=w.heap.size) (by omega));have zO:=hO.size;clear hO B3 hb
    clear n0 n1 f0 f1 m0 m1 x0 x1 SK ST M1 M2;have hbA:=below_alloc V0 (.cells #[.int .i64 cq,.int .u64 oq] 150)
    have B5:aa (V0.alloc (.cells #[.int .i64 cq,.int .u64 oq] 150)) wr.heap.size [.int .i64 cq,.int .u64 oq] 150:=by rw[<-zO];exact aa.new V0 _ _
    replace B1:=B1.kept hbA;replace B2:=B2.kept hbA;replace B4:=B4.kept hbA;replace hl:=hl.kept hbA;replace C3:=C3.kept hbA;replace hb5:=bg hb5 hbA;have zA:=hbA.size;clear hbA
    generalize V0.alloc (.cells #[.int .i64 cq,.int .u64 oq] 150)=V at *
    refine bn [7] (fun w'=>Tb w' 0 (vI cm)/\aa w' g3 [.int .i64 sq,.int .i64 pq] 137/\aa w' wr.heap.size [.int .i64 cq,.int .u64 oq] 150) (by kernel_rfl) ?_
    have hS:Tb V.drew 0 (vI cm)/\aa V.drew g3 [.int .i64 sq,.int .i64 pq] 137/\aa V.drew wr.heap.size [.int .i64 cq,.int .u64 oq] 150:=⟨B1,B4,B5⟩
    replace B2:aa V.drew w.heap.size [.int .i64 0,.int .i64 0] 137:=B2;replace C3:aa V.drew (w.heap.size+1) (db G s p (q+1)) 137:=C3;replace hl:aa V.drew gl (cD n c o n) 150:=hl
    replace hb5:Below w.heap.size w V.drew:=hb5.drew;generalize V.drew=Y at *;clear B1 B4 B5
    refine aF 0 hS rfl (fun w0 h0=>by have c0:=h0.2.1.cell 0 rfl;have c1:=h0.2.1.cell 1 rfl;go_simp;try with_reducible rfl) ?_
    refine aF 1 hS rfl (fun w0 h0=>by have c0:=h0.2.2.cell 0 rfl;have c1:=h0.2.2.cell 1 rfl;go_simp;try with_reducible rfl) ?_;refine aK 2 hS ?_
    refine aF 3 hS rfl (fun w0 h0=>by have c0:=h0.2.2.cell 0 rfl;go_simp;try with_reducible rfl) ?_;refine aK 4 hS ?_
    refine aF 5 hS rfl (fun w0 h0=>by have c0:=h0.1.cell cq HWd.out;go_simp;try with_reducible rfl) ?_;refine aO 6 ?_;intro K hK;go_simp;refine mr (HBh.out _) fun w7 hb7=>?_
    have hS7:=And.intro (hS.1.kept hb7) (And.intro (hS.2.1.kept hb7) (hS.2.2.kept hb7));replace B2:=B2.kept hb7;replace C3:=C3.kept hb7;replace hl:=hl.kept hb7;replace hb5:=bg hb5 hb7;clear hb7 hS
    refine hK.out _ _ (fun _=>hS7) ?_;clear hK K;try simp only[Act.put,aw,ar,an,ah,aj,ai]
    refine aO 7 ?_;intro K hK;obtain⟨B1,B4,B5⟩:=hS7;have f0:=B4.frozen 0;have f1:=B4.frozen 1;have c0:=B4.cell 0 rfl;have c1:=B4.cell 1 rfl
    have HQ:Hid (Tb w7 0 (vI cm)/\aa w7 w.heap.size [.int .i64 0,.int .i64 0] 137/\aa w7 (w.heap.size+1) (db G s p (q+1)) 137/\aa w7 g3 [.int .i64 sq,.int .i64 pq] 137/\aa w7 gl (cD n c o n) 150/\Below w.heap.size w w7):=⟨B1,B2,C3,B4,hl,hb5⟩
    clear B1 B2 C3 B4 B5 hl hb5;go_simp;refine hK.out _ _ (fun h=>absurd (by decide) h) ?_;clear hK K;try simp only[Act.put,aw,ar,an,ah,aj,ai]
    refine az.done (by kernel_rfl) ?_ _;go_wp2;obtain⟨B1,B2,C3,B4,hl,hb5⟩:=HQ.out
    refine⟨⟨q+1,by omega,by go_num,(B1.other (by show(0:Nat)≠g3;omega) _).other (by show(0:Nat)≠g3;omega) _,(B2.other (by show w.heap.size≠g3;omega) _).other (by show w.heap.size≠g3;omega) _,(C3.other (by show w.heap.size+1≠g3;omega) _).other (by show w.heap.size+1≠g3;omega) _,?_,(hl.other (by show gl≠g3;omega) _).other (by show gl≠g3;omega) _,(hb5.setCell (by show w.heap.size<=g3;omega) _).setCell (by show w.heap.size<=g3;omega) _⟩,by simp only[intOf];omega⟩
    rw[hs1,hp1];exact(B4.set 0 _).set 1 _
   .have e82:((q:Int)%8==0)=false:=by simp;omega
    go_wp2;have C3:=B3;rw[SK e8]at C3;obtain⟨V0,hV0⟩:∃V0,V0=wr:=⟨_,rfl⟩;have hb5:=hb;have zO:V0.heap.size=wr.heap.size:=by rw[hV0]
    rw[<-hV0]at B1 B2 B4 hl C3 hb5;rw[show wr.alloc (.cells #[.int .i64 cq,.int .u64 oq] 150)=V0.alloc (.cells #[.int .i64 cq,.int .u64 oq] 150)by rw[hV0]];clear B3 hb hV0
    clear n0 n1 f0 f1 m0 m1 x0 x1 SK ST M1 M2;have hbA:=below_alloc V0 (.cells #[.int .i64 cq,.int .u64 oq] 150)
    have B5:aa (V0.alloc (.cells #[.int .i64 cq,.int .u64 oq] 150)) wr.heap.size [.int .i64 cq,.int .u64 oq] 150:=by rw[<-zO];exact aa.new V0 _ _
    replace B1:=B1.kept hbA;replace B2:=B2.kept hbA;replace B4:=B4.kept hbA;replace hl:=hl.kept hbA;replace C3:=C3.kept hbA;replace hb5:=bg hb5 hbA;have zA:=hbA.size;clear hbA
    generalize V0.alloc (.cells #[.int .i64 cq,.int .u64 oq] 150)=V at *
    refine bn [7] (fun w'=>Tb w' 0 (vI cm)/\aa w' g3 [.int .i64 sq,.int .i64 pq] 137/\aa w' wr.heap.size [.int .i64 cq,.int .u64 oq] 150) (by kernel_rfl) ?_
    have hS:Tb V.drew 0 (vI cm)/\aa V.drew g3 [.int .i64 sq,.int .i64 pq] 137/\aa V.drew wr.heap.size [.int .i64 cq,.int .u64 oq] 150:=⟨B1,B4,B5⟩
    replace B2:aa V.drew w.heap.size [.int .i64 0,.int .i64 0] 137:=B2;replace C3:aa V.drew (w.heap.size+1) (db G s p (q+1)) 137:=C3;replace hl:aa V.drew gl (cD n c o n) 150:=hl
    replace hb5:Below w.heap.size w V.drew:=hb5.drew;generalize V.drew=Y at *;clear B1 B4 B5
    refine aF 0 hS rfl (fun w0 h0=>by have c0:=h0.2.1.cell 0 rfl;have c1:=h0.2.1.cell 1 rfl;go_simp;try with_reducible rfl) ?_
    refine aF 1 hS rfl (fun w0 h0=>by have c0:=h0.2.2.cell 0 rfl;have c1:=h0.2.2.cell 1 rfl;go_simp;try with_reducible rfl) ?_;refine aK 2 hS ?_
    refine aF 3 hS rfl (fun w0 h0=>by have c0:=h0.2.2.cell 0 rfl;go_simp;try with_reducible rfl) ?_;refine aK 4 hS ?_
    refine aF 5 hS rfl (fun w0 h0=>by have c0:=h0.1.cell cq HWd.out;go_simp;try with_reducible rfl) ?_;refine aO 6 ?_;intro K hK;go_simp;refine mr (HBh.out _) fun w7 hb7=>?_
    have hS7:=And.intro (hS.1.kept hb7) (And.intro (hS.2.1.kept hb7) (hS.2.2.kept hb7));replace B2:=B2.kept hb7;replace C3:=C3.kept hb7;replace hl:=hl.kept hb7;replace hb5:=bg hb5 hb7;clear hb7 hS
    refine hK.out _ _ (fun _=>hS7) ?_;clear hK K;try simp only[Act.put,aw,ar,an,ah,aj,ai]
    refine aO 7 ?_;intro K hK;obtain⟨B1,B4,B5⟩:=hS7;have f0:=B4.frozen 0;have f1:=B4.frozen 1;have c0:=B4.cell 0 rfl;have c1:=B4.cell 1 rfl
    have HQ:Hid (Tb w7 0 (vI cm)/\aa w7 w.heap.size [.int .i64 0,.int .i64 0] 137/\aa w7 (w.heap.size+1) (db G s p (q+1)) 137/\aa w7 g3 [.int .i64 sq,.int .i64 pq] 137/\aa w7 gl (cD n c o n) 150/\Below w.heap.size w w7):=⟨B1,B2,C3,B4,hl,hb5⟩
    clear B1 B2 C3 B4 B5 hl hb5;go_simp;refine hK.out _ _ (fun h=>absurd (by decide) h) ?_;clear hK K;try simp only[Act.put,aw,ar,an,ah,aj,ai]
    refine az.done (by kernel_rfl) ?_ _;go_wp2;obtain⟨B1,B2,C3,B4,hl,hb5⟩:=HQ.out
    refine⟨⟨q+1,by omega,by go_num,(B1.other (by show(0:Nat)≠g3;omega) _).other (by show(0:Nat)≠g3;omega) _,(B2.other (by show w.heap.size≠g3;omega) _).other (by show w.heap.size≠g3;omega) _,(C3.other (by show w.heap.size+1≠g3;omega) _).other (by show w.heap.size+1≠g3;omega) _,?_,(hl.other (by show gl≠g3;omega) _).other (by show gl≠g3;omega) _,(hb5.setCell (by show w.heap.size<=g3;omega) _).setCell (by show w.heap.size<=g3;omega) _⟩,by simp only[intOf];omega⟩
    rw[hs1,hp1];exact(B4.set 0 _).set 1 _
  .obtain rfl:q=n:=by omega
   go_wp2;refine bn [3] (fun w'=>aa w' g3 [.int .i64 (s q:Nat),.int .i64 (p q:Nat)] 137) (by kernel_rfl) ?_;have hS:aa wr.drew g3 [.int .i64 (s q:Nat),.int .i64 (p q:Nat)] 137:=B4
   replace B2:aa wr.drew w.heap.size [.int .i64 0,.int .i64 0] 137:=B2;replace B3:aa wr.drew (w.heap.size+1) (db G s p q) 137:=B3;replace hb:Below w.heap.size w wr.drew:=hb.drew;generalize wr.drew=Z at *
   clear B1 B4 hl;refine aK 0 hS ?_;refine aF 1 hS rfl (fun w0 h0=>by have c0:=h0.cell 0 rfl;have c1:=h0.cell 1 rfl;go_simp;try with_reducible rfl) ?_;refine aK 2 hS ?_;refine aO 3 ?_;intro K hK
   have f0:=B2.frozen 0;have f1:=B2.frozen 1;have n0:=B2.cell 0 rfl;have n1:=B2.cell 1 rfl;go_simp;refine hK.out _ _ (fun h=>absurd (by decide) h) ?_;clear hK K;try simp only[Act.put,aw,ar,an,ah,aj,ai]
   refine az.done (by kernel_rfl) ?_ _;clear f0 f1 n0 n1;go_wp2
   refine bodyPost_ret (yO rfl w.heap.size [.int .i64 (s q:Nat),.int .i64 (p q:Nat)] rfl ((B2.set 0 _).set 1 _) underlying137 ut) rfl ⟨w.heap.size+1,rfl,(B3.other (by show w.heap.size+1≠w.heap.size;omega) _).other (by show w.heap.size+1≠w.heap.size;omega) _,by omega,(hb.setCell (by show w.heap.size<=w.heap.size;omega) _).setCell (by show w.heap.size<=w.heap.size;omega) _⟩
theorem Es(n:Nat)(c:Nat->Nat)(hn:n<=69906)(hc:∀i,i<n->c i<=15):cd ((4:Nat):Int) ((List.range n).map c)=0:=by
 unfold cd;rw[if_neg];simp only[List.length_map,List.length_range];intro h;rcases h with h | h | h | h
 .omega
 .omega
 .omega
 .refine h fun j hj=>?_;rw[gt_map n c j hj];have:=hc j hj;exact(pV (c j) 4).2 (by omega)
theorem El:(prog.info? 57).map (·.size)=some 4:=by kernel_rfl
theorem Ai(n gl k:Nat)(c o:Nat->Nat)(w:World)(hn:n<=69906)(hl:aa w gl (cD n c o n) 150)(hc:∀i,i<n->c i<=15)(hk:k=(n*4+63)/64):
  Calls prog 90 #[.slice (some ⟨gl,0,none⟩) n n] w fun e w'=>∃g,e=.returned (.agg #[.int .i64 n,.int .i64 4,.int .i64 ((n:Int)*4),.slice (some ⟨g,0,none⟩) k k])/\w.heap.size<=g/\Own w' g (mkS ((List.range n).map c) 4 n)/\Below w.heap.size w w':=by
 obtain⟨i0,hi,hz0,hz1,hz2⟩:=info_parts Tryz.info126
 have HM:Hid (∀w0,Wd w0 (some ⟨w.heap.size+1,0,none⟩) ((List.range n).map c)->Calls prog 144 #[.int .i64 4,.slice (some ⟨w.heap.size+1,0,none⟩) n n] w0 fun e w'=>∃g,e=.returned (.tuple #[.agg #[.int .i64 n,.int .i64 4,.int .i64 ((n:Int)*4),.slice (some ⟨g,0,none⟩) k k],.int .i64 0])/\w0.heap.size<=g/\Own w' g (mkS ((List.range n).map c) 4 n)/\Below w0.heap.size w0 w'):=by
  intro w0 hx
  have hf:aA ((List.range n).map c):=by
   intro i;by_cases d:i<n
   .rw[gt_map n c i d];have:=hc i d;omega
   .rw[i7 _ _ (by simp;omega)];decide
  have:=pI 4 (some ⟨w.heap.size+1,0,none⟩) ((List.range n).map c) n k w0 hx hf (Es n c hn hc) (by simp only[List.length_map,List.length_range];exact hk);simp only[List.length_map,List.length_range]at this
  exact this
 have HC:=ag hc;have lgl:=hl.lt;clear hc hk;obtain⟨W,hW⟩:∃W,W=w.alloc (.cells #[.int .i64 0,.int .i64 0,.int .i64 0,.slice none 0 0] 57):=⟨_,rfl⟩;have bW:=ba hW
 have zW:W.heap.size=w.heap.size+1:=by rw[hW];simp
 have B1:=bE hW;replace hl:=hl.kept bW;go_enter func90,ntmps90
 go_wp2_with (at_make;refine wpList_make_full _ rfl _ _ 51 rfl (w.heap.size+1) 126 i0 (.int .u64 0) 1 underlying51 hi hz0 hz1 .i64 .i64 _ _ n rfl rfl rfl rfl ?b2 ?b3 ?b4 ?_)
 case b2=>rw[hz2];omega
 case b3=>unfold maxLen;omega
 case b4=>simp
 intro w2 hown hgr;rw[<-hW]at hgr;have B2:Own w2 (w.heap.size+1) (List.replicate n 0):=own_made (by simpa using hown);have hb2:Below W.heap.size W w2:=(Below.refl _ _).grown hgr (Nat.le_refl _) (fun k h=>by cases h)
 have bw2:=bg bW hb2;replace B1:=B1.kept hb2;replace hl:=hl.kept hb2;rw[Dm n c]at B2;have l2:=B2.lt;clear hown hgr hb2 hi hz0 hz1 hz2 bW hW zW;go_wp2
 go_loopw [13] (fun t wr=>∃q:Nat,q<=n/\t=.int .i64 q/\aa wr w.heap.size [.int .i64 0,.int .i64 0,.int .i64 0,.slice none 0 0] 57/\Own wr (w.heap.size+1) (iF n c q)/\aa wr gl (cD n c o n) 150/\Below w.heap.size w wr) (fun t _=>n-(intOf t).toNat)
 case atStart=>exact⟨0,Nat.zero_le _,rfl,B1,B2,hl,bw2⟩
 case round=>
  obtain⟨q,hq,rfl,B1,B2,hl,hb⟩:=hrel;by_cases hqn:q<n
  .have hqn2:(q:Int)<(n:Int):=by omega
   have cq15:=HC.out q hqn;have x0:=hl.cell (q*2) (qK n c o q hqn);have x1:=hl.cell (q*2+1) (qJ n c o q hqn);have n0:=B2.cell q (by rw[kM];exact hqn);have f0:=B2.frozen q;have l3:=B2.lt
   have ST:=ag (Dn n c q hqn);generalize hc0:c q=cq at *;generalize ho0:o q=oq at *;have u1:IntKind.u64.wrap (cq:Int)=(cq:Int):=by rw[IntKind.wrap_u64];omega
   go_wp2;have C2:=B2.set q cq;rw[ST.out]at C2;have zr:=hb.size
   have hB3:Below w.heap.size w ((wr.setCell ⟨w.heap.size+1,q,none⟩ (.int .u64 cq)).alloc (.cells #[.int .i64 cq,.int .u64 oq] 150)):=(hb.setCell (by show w.heap.size<=w.heap.size+1;omega) _).alloc (by simp;omega) _
   have hA:=below_alloc (wr.setCell ⟨w.heap.size+1,q,none⟩ (.int .u64 cq)) (.cells #[.int .i64 cq,.int .u64 oq] 150)
   exact⟨⟨q+1,by omega,by go_num,(B1.other (by show w.heap.size≠w.heap.size+1;omega) _).kept hA,C2.keep hA,(hl.other (by show gl≠w.heap.size+1;omega) _).kept hA,hB3⟩,by simp only[intOf];omega⟩
  .obtain rfl:q=n:=by omega
   rw[pM]at B2;have HMw:=HM.out wr B2.wd;have HM2:=ag HMw;clear HM HMw;go_wp2_with fail;refine HM2.out.mono ?_;rintro e w5 ⟨g,rfl,hg,hO,hb5⟩;have lw:=B1.lt;replace B1:=B1.kept hb5
   have bw5:=bg hb hb5;have zr:=hb.size;have l5:=B1.lt;have f0:=B1.frozen 0;have f1:=B1.frozen 1;have f2:=B1.frozen 2;have f3:=B1.frozen 3;have n0:=B1.cell 0 rfl;have n1:=B1.cell 1 rfl
   have n2:=B1.cell 2 rfl;have n3:=B1.cell 3 rfl;have HO:=ag hO;have lO:=hO.lt;clear hO hb5 hl B2 HM2 hb;go_wp2
   refine bodyPost_ret (iQ rfl w.heap.size [.int .i64 q,.int .i64 4,.int .i64 ((q:Int)*4),.slice (some ⟨g,0,none⟩) k k] rfl (((((B1.set 0 _).set 1 _).set 2 _).set 3 _).alloc _) underlying57 El) rfl ⟨g,rfl,by omega,?_,?_⟩
   .refine Own.keep ((((HO.out.set_other ?_ _).set_other ?_ _).set_other ?_ _).set_other ?_ _) (below_alloc _ _)
    .show g≠w.heap.size;omega
    .show g≠w.heap.size;omega
    .show g≠w.heap.size;omega
    .show g≠w.heap.size;omega
   .refine Below.alloc ((((bw5.setCell ?_ _).setCell ?_ _).setCell ?_ _).setCell ?_ _) ?_ _
    .exact Nat.le_refl _
    .exact Nat.le_refl _
    .exact Nat.le_refl _
    .exact Nat.le_refl _
    .simp;omega
theorem z_(n gl L k:Nat)(c o p:Nat->Nat)(F:Nat->Bool)(w:World)(hn:n<=69906)(hl:aa w gl (cD n c o n) 150)(hc:∀i,i<n->c i<=15)(p0:p 0=0)(hp:∀i,i<n->p (i+1)=p i+kwd (c i))(hpL:∀i,i<n->p (i+1)<=L)(hL:p n=L)(hLb:L<=1048576)(ho:∀i,i<n->o i<2^kwd (c i))(hF:∀i,i<n->∀t,t<kwd (c i)->(o i).testBit t=F (p i+t))(hk:k=(L+63)/64)(HG:GV w):
  Calls prog 91 #[.slice (some ⟨gl,0,none⟩) n n,.int .i64 L] w fun e w'=>∃g,e=.returned (.agg #[.int .i64 L,.slice (some ⟨g,0,none⟩) k k])/\w.heap.size<=g/\Own w' g (rowOf L F)/\Below w.heap.size w w':=by
 have HN:Hid (∀w0,Calls prog 130 #[.int .i64 L] w0 fun e w'=>∃g,e=.returned (.agg #[.int .i64 L,.slice (some ⟨g,0,none⟩) k k])/\w0.heap.size<=g/\Own w' g (rowP L F (p 0))/\Below w0.heap.size w0 w'):=by
  intro w0;rw[p0,yA];exact Ab L k hLb hk w0
 have HLy:Hid (∀(g q:Nat) w0,q<n->Own w0 g (rowP L F (p q))->Calls prog 133 #[.slice (some ⟨g,0,none⟩) k k,.int .i64 (p q:Nat),.int .u64 (o q:Nat)] w0 fun e w'=>e=.returned (.tuple #[])/\Own w' g (rowP L F (p (q+1)))/\bh g w0 w'):=by
  intro g q w0 hq h0;have kb:=jX (c q) (hc q hq);have h1:=hp q hq;have h2:=hpL q hq;have o2:=ho q hq
  have o64:o q<18446744073709551616:=Nat.lt_of_lt_of_le o2 (Nat.pow_le_pow_right (n:=2) (j:=64) (by decide) (by omega))
  have:=Ad (rowP L F (p q)) k g k (p q) (o q) w0 (by rw[length_rowP,hk]) h0 (by omega) (uW _ _ _) o64 (r_ L F (p q) (kwd (c q)) (o q) (by omega) (by omega) o2)
  rw[yB L F (p q) (kwd (c q)) (o q) (by omega) (by omega) o2 (hF q hq),<-h1]at this;exact this
 have HC:=ag hc;have HPs:=ag hp
 have HPL:Hid (∀i,i<=n->p i<=L):=fun i hi=>by
  by_cases z:i=0
  .rw[z,p0];omega
  .have:=hpL (i-1) (by omega);rw[show i-1+1=i by omega]at this;exact this
 have HLn:Hid (rowP L F (p n)=rowOf L F):=by
  show rowP L F (p n)=rowOf L F;rw[hL,yC]
 have HP0:=ag p0;have lgl:=hl.lt;clear hc hp hpL hL ho hF hk p0;obtain⟨W,hW⟩:∃W,W=w.alloc (.cells #[.int .i64 0,.slice none 0 0] 53):=⟨_,rfl⟩;have bW:=ba hW
 have zW:W.heap.size=w.heap.size+1:=by rw[hW];simp
 have B1:Tb W 0 (vI cm):=HG.wd.kept bW;have L0:=HG.two;have B2:=bE hW;replace hl:=hl.kept bW;go_enter func91,ntmps91;go_wp2_with fail;rw[<-hW];refine(HN.out _).mono ?_;rintro e w2 ⟨g,rfl,hg,hO,hb⟩
 have bw2:=bg bW hb;have z2:=hb.size;replace B1:=B1.kept hb;replace B2:=B2.kept hb;replace hl:=hl.kept hb;have lg:=hO.lt;have HO:=ag hO;clear hb hW bW HN hO;go_wp2
 go_loopw [6,13] (fun a t wr=>∃q:Nat,q<=n/\t=.int .i64 q/\a=.int .i64 (p q:Nat)/\Tb wr 0 (vI cm)/\aa wr w.heap.size [.int .i64 0,.slice none 0 0] 53/\aa wr w2.heap.size [.int .i64 L,.slice (some ⟨g,0,none⟩) k k] 53/\Own wr g (rowP L F (p q))/\aa wr gl (cD n c o n) 150/\Below w.heap.size w wr) (fun _ t _=>n-(intOf t).toNat)
 case atStart=>
  have hA:=below_alloc w2 (.cells #[.int .i64 L,.slice (some ⟨g,0,none⟩) k k] 53)
  exact⟨0,Nat.zero_le _,rfl,by rw[HP0.out];rfl,B1.kept hA,B2.kept hA,aa.new w2 _ _,HO.out.keep hA,hl.kept hA,bg bw2 hA⟩
 case round=>
  obtain⟨q,hq,rfl,rfl,B1,B2,B3,hO,hl,hb⟩:=hrel;clear HO;by_cases hqn:q<n
  .have hqn2:(q:Int)<(n:Int):=by omega
   have cq15:=HC.out q hqn;have pq:=HPL.out q hq;have kb:=jX (c q) cq15
   have HLq:Hid (∀w0,Own w0 g (rowP L F (p q))->Calls prog 133 #[.slice (some ⟨g,0,none⟩) k k,.int .i64 (p q:Nat),.int .u64 (o q:Nat)] w0 fun e w'=>e=.returned (.tuple #[])/\Own w' g (rowP L F (p (q+1)))/\bh g w0 w'):=fun w0 h0=>HLy.out g q w0 hqn h0
   have HWd:Hid ((vI cm)[c q]?=some (.int .i64 (kwd (c q):Nat))):=by
    show(vI cm)[c q]?=_;rw[oK cm (c q) (by rw[pO];omega),qa _ cq15]
   have x0:=hl.cell (q*2) (qK n c o q hqn);have x1:=hl.cell (q*2+1) (qJ n c o q hqn);have hps:=ag (HPs.out q hqn);have cli:((c q:Nat):Int)<16:=by omega
   generalize hp1:p (q+1)=p1 at *;generalize hc0:c q=cq at *;generalize ho0:o q=oq at *;generalize hpq:p q=pq' at *;generalize kwd cq=kq at *;have r1:=B3.cell 1 rfl;have l3:=B3.lt;have lgr:=hO.lt
   have zr:=hb.size;obtain⟨U,hU⟩:∃U,U=wr.alloc (.cells #[.int .i64 cq,.int .u64 oq] 150):=⟨_,rfl⟩;have hbU:Below wr.heap.size wr U:=by rw[hU];exact below_alloc wr _
   have B5:aa U wr.heap.size [.int .i64 cq,.int .u64 oq] 150:=by rw[hU];exact aa.new wr _ _
   replace B1:=B1.kept hbU;replace B2:=B2.kept hbU;replace B3:=B3.kept hbU;replace hl:=hl.kept hbU;have hO2:=hO.keep hbU;have bU:=bg hb hbU;clear HLy hbU hO;go_wp2_with fail;rw[<-hU]
   refine(HLq.out _ hO2).mono ?_;rintro e w4 ⟨rfl,hO4,hT⟩;replace B1:=hT.tb B1 (by omega);replace B2:=hT.cel B2 (by omega);replace B3:=hT.cel B3 (by omega);replace B5:=hT.cel B5 (by omega)
   replace hl:=hT.cel hl (by omega);have b4:=bU.trans (hT.below (B:=w.heap.size) (by omega));have c0:=B5.cell 0 rfl;have wd:=B1.cell cq HWd.out;clear hT hU HLq x0 x1 r1 hO2 bU;go_wp2
   refine⟨⟨q+1,by omega,by go_num,?_,B1,B2,B3,by rw[hp1];exact hO4,hl,b4⟩,by simp only[intOf];omega⟩;rw[hp1,hps.out];exact congrArg (Value.int IntKind.i64) (by omega)
  .obtain rfl:q=n:=by omega
   have r0:=B3.cell 0 rfl;have r1:=B3.cell 1 rfl;have f0:=B2.frozen 0;have f1:=B2.frozen 1;have n0:=B2.cell 0 rfl;have n1:=B2.cell 1 rfl;rw[HLn.out]at hO;clear HLy HLn;go_wp2
   refine bodyPost_ret (iQ rfl w.heap.size [.int .i64 L,.slice (some ⟨g,0,none⟩) k k] rfl ((B2.set 0 _).set 1 _) underlying53 e_) rfl ⟨g,rfl,by omega,(hO.set_other (by show g≠w.heap.size;omega) _).set_other (by show g≠w.heap.size;omega) _,(hb.setCell (by show w.heap.size<=w.heap.size;omega) _).setCell (by show w.heap.size<=w.heap.size;omega) _⟩
end Go.Proofs.YtleegaihbgbcjabGreatDoor
