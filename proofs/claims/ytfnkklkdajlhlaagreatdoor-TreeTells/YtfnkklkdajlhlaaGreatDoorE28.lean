import Derived.Test.YtfnkklkdajlhlaaGreatDoorE27
set_option linter.unusedVariables false
set_option linter.unusedSimpArgs false
set_option maxRecDepth 100000
set_option maxHeartbeats 16000000
namespace Go.Proofs.YtfnkklkdajlhlaaGreatDoor
open Go.RowKit Num Bit
def rAll(x:TR):Bool:=decide (x.av.length=8)&&(decide (0≤x.N∧x.N≤8192)&&(List.range 8).all fun l=>decide (kBN (lw x l)=x.N))
def rX(x:TR):List Nat:=if rAll x then txt x else []
theorem rAll_no1{x:TR}(h:x.av.length≠8∨x.N<0∨8192<x.N):rAll x=false:=by
 unfold rAll;rcases h with h | h
 ·rw[decide_eq_false h];rfl
 ·rw[decide_eq_false (show ¬(0≤x.N∧x.N≤8192)by omega)];simp
theorem rAll_no{x:TR}(l:Nat)(hl:l<8)(h:kBN (lw x l)≠x.N):rAll x=false:=by
 refine Bool.eq_false_iff.2 fun e=>?_;unfold rAll at e;simp only[Bool.and_eq_true,List.all_eq_true,decide_eq_true_eq]at e;exact h (e.2.2 l (List.mem_range.2 hl))
theorem rAll_yes{x:TR}(h1:x.av.length=8)(h2:0≤x.N∧x.N≤8192)(h:∀l,l<8→kBN (lw x l)=x.N):rAll x=true:=by
 unfold rAll;simp only[Bool.and_eq_true,List.all_eq_true,decide_eq_true_eq];exact⟨h1,h2,fun l hl=>h l (List.mem_range.1 hl)⟩
theorem own_int{w:World}{base n c:Nat}{ao:Option Addr}{L:List Value}(h:w.ownsRow base 3 1 (.slice ao n c) n L)(i:Nat)(hi:i<n):∃g,ao=some ⟨g,0,none⟩∧g<w.heap.size∧(∃cur,w.heap[g]?=some (.cells cur 3 (0,0)))∧∀u,L[i]?=some u→w.cell? ⟨g,i,none⟩=some u:=by
 obtain⟨_,⟨e,rfl⟩ | ⟨g,cap,cur,e,_,hh,_,_,hs,ht⟩⟩:=h
 ·omega
 ·injection e with e1 e2 e3
  subst e1;refine⟨g,rfl,(Array.getElem?_eq_some_iff.1 hh).1,⟨cur,hh⟩,fun u hu=>?_⟩;rw[←ht,List.getElem?_take_of_lt (by omega)]at hu;unfold World.cell?
  rw[show w.heap[({ block:=g,off:=i,spot:=none }:Addr).block]?=_ from hh];simpa using hu
def Oi(w:World)(ao:Option Addr)(n:Nat)(L:List Nat):Prop:=∀i y,i<n→L[i]?=some y→∃g,ao=some ⟨g,0,none⟩∧g<w.heap.size∧(∃cur,w.heap[g]?=some (.cells cur 3 (0,0)))∧w.cell? ⟨g,i,none⟩=some (.int .i64 (y:Nat))
theorem oi_own{w:World}{base n c:Nat}{ao:Option Addr}{L t:List Nat}(h:w.ownsRow base 3 1 (.slice ao n c) n (pli L t)):Oi w ao n L:=fun i y hi hy=>by
 obtain⟨g,e1,e2,e3,e4⟩:=own_int h i hi;exact⟨g,e1,e2,e3,e4 _ (by unfold pli;rw[List.getElem?_map,hy];rfl)⟩
theorem Oi.keep{w w':World}{ao:Option Addr}{n:Nat}{L:List Nat}(h:Oi w ao n L)(hb:Below w.heap.size w w'):Oi w' ao n L:=fun i y hi hy=>by
 obtain⟨g,e1,e2,⟨cur,e3⟩,e4⟩:=h i y hi hy;exact⟨g,e1,Nat.lt_of_lt_of_le e2 hb.size,⟨cur,(hb.block g e2).trans e3⟩,(hb.cell (p:=⟨g,i,none⟩) e2).trans e4⟩
theorem Oi.only{w w':World}{ao:Option Addr}{n g3:Nat}{L:List Nat}{gs:List Value}(h:Oi w ao n L)(hc:Cel w g3 gs 5)(hO:Only g3 w w'):Oi w' ao n L:=fun i y hi hy=>by
 obtain⟨g,e1,e2,⟨cur,e3⟩,e4⟩:=h i y hi hy
 have hne:g≠g3:=fun q=>by
  subst q;unfold Cel at hc;rw[hc]at e3;injection e3 with e3
  injection e3 with _ e3
  cases e3
 exact⟨g,e1,by rw[hO.size];exact e2,⟨cur,(hO.block g hne).trans e3⟩,(hO.cell (p:=⟨g,i,none⟩) hne).trans e4⟩
theorem kBN_bad(a:RA)(h:kOk a=false):kBN a=0:=by
 by_cases k1:kOn a=1
 ·obtain⟨e1,e2,_,_⟩:=on_p k1;rw[e2];unfold kBN7 piN;rw[if_neg (by rw[show pchk a.p.N a.p.xs a.p.S a.p.T=kOk7 a.p from rfl,←e1,h];decide)]
 by_cases k2:kOn a=2
 ·obtain⟨e1,e2,_,_⟩:=on_r k2;rw[e2];unfold kBN8 rBN;rw[if_neg (by rw[show rOk a.r.N a.r.k a.r.V a.r.M a.r.xs a.r.L a.r.ys a.r.S a.r.T=kOk8 a.r from rfl,←e1,h];decide)]
 by_cases k3:kOn a=3
 ·obtain⟨e1,e2,_,_⟩:=on_f k3;rw[e2];unfold kBN9;rw[if_neg (by rw[←e1,h];decide)]
 exact(on_n k1 k2 k3).2.1
theorem shl7:∀q:Nat,q<8→(2:Int)^min (7-q) 8%256=((2^(7-q):Nat):Int):=by
 intro q hq;have:q=0∨q=1∨q=2∨q=3∨q=4∨q=5∨q=6∨q=7:=by omega
 rcases this with rfl | rfl | rfl | rfl | rfl | rfl | rfl | rfl<;>rfl
theorem plc_root(r:Nat→Nat→Bool)(n:Nat):Tw.plc (Tw.tx r n 0) 0=List.range n:=by
 have e:∀i,Tw.hi 0 (gt (Tw.tx r n 0) i)=0:=fun i=>by rw[Tw.gt_tx0];rfl
 unfold Tw.plc Tw.seg Tw.sg;rw[Tw.length_tx];simp[e]
theorem pli_snoc'(i:Nat)(t:List Nat):pli (List.range i) t++[.int .i64 (i:Nat)]=pli (List.range (i+1)) t:=by
 rw[pli_snoc,List.range_succ]
def RBt(w0:World)(L:List Nat)(e:Ending)(w':World):Prop:=∃bo bc,e=.returned (.slice bo L.length bc)∧Bd w' bo L∧L.length≤bc∧Below w0.heap.size w0 w'
theorem rbt0{w0 w':World}(h:Below w0.heap.size w0 w'):RBt w0 [] (.returned (.slice none 0 0)) w':=⟨none,0,rfl,bd0 _ _,Nat.le_refl _,h⟩
theorem rrow_c(lo:Option Addr)(cap:Nat)(x:TR)(w:World)(h:TI w lo cap x):
  Calls Tryz.prog 80 #[.agg #[.int .i64 x.K,.int .i64 x.N,.slice lo x.av.length cap]] w (RBt w (rX x)):=by
 have bx:=Cel.new w [.int .i64 x.K,.int .i64 x.N,.slice lo x.av.length cap] 26;have bw:=below_alloc w (.cells #[.int .i64 x.K,.int .i64 x.N,.slice lo x.av.length cap] 26);have hn64:=h.n;by_cases q1:x.av.length=8
 rotate_left
 ·have e:rX x=[]:=by unfold rX;rw[rAll_no1 (.inl q1)];rfl
  rw[e];have q3:((x.av.length:Int) != 8)=true:=by simp;omega
  clear h e;generalize x.N=N at *;generalize x.K=K at *;generalize x.av.length=m at *;go_enter Tryz.func80,Tryz.ntmps80;go_wp2;go_ret;exact rbt0 bw
 by_cases q2:x.N<0∨8192<x.N
 ·have e:rX x=[]:=by unfold rX;rw[rAll_no1 (.inr q2)];rfl
  rw[e,q1];rw[q1]at bw bx;clear h e q1;generalize x.N=N at *;generalize x.K=K at *;by_cases q3:N<0
  ·clear q2;go_enter Tryz.func80,Tryz.ntmps80;go_wp2;go_ret;exact rbt0 bw
  ·have q4:(8192:Int)<N:=by omega
   clear q2;go_enter Tryz.func80,Tryz.ntmps80;go_wp2;go_ret;exact rbt0 bw
 obtain⟨n,hn⟩:∃n:Nat,x.N=n:=⟨x.N.toNat,by omega⟩;have hn8:n≤8192:=by omega
 obtain⟨b,off,rfl,hbl,_⟩:=h.l (by rw[q1];decide);have HTI:=Hid.mkt h;obtain⟨Z,hZ⟩:∃Z,Hid (Z=rX x):=⟨_,rfl⟩;rw[←hZ.out]
 have ZB:Hid ((∃l,l<8∧kBN (lw x l)≠(n:Int))→Z=[]):=by
  rintro⟨l,h1,h2⟩;rw[hZ.out];unfold rX;rw[rAll_no l h1 (by rw[hn];exact h2)];rfl
 obtain⟨r,hr⟩:∃r:Nat→Nat→Bool,r=fun l i=>bitAt (kBX (lw x l)) i:=⟨_,rfl⟩
 have ZG:Hid ((∀l,l<8→kBN (lw x l)=(n:Int))→Z=Tw.tx r n 8):=fun hall=>by
  rw[hZ.out];unfold rX;rw[rAll_yes q1 (by omega) (fun l hl=>by rw[hn];exact hall l hl),if_pos rfl];unfold txt;rw[hr,hn,Int.toNat_natCast]
 have CO:Hid (∀q,q<8→∃(cs:List Value) (X:List Nat) (M:Int),w.rangeAt b (off+q*22) cs∧(Tryz.prog.info? 45).map (·.size)=some cs.length∧(M=kBN (lw x q)∧(M=(n:Int)→∀i,i<n→(i/64<X.length∧bitAt X i=r q i)))∧∀w0,Below w.heap.size w w0→Calls Tryz.prog 10 #[.agg cs.toArray] w0 fun e w'=>∃bo bc,e=.returned (.agg #[.int .i64 M,.slice bo X.length bc])∧Wd w' bo X∧Below w0.heap.size w0 w'):=fun q hq=>by
  obtain⟨b',off',e,_,hrows⟩:=HTI.out.l (by rw[q1];decide);simp only[Option.some.injEq,Addr.mk.injEq,and_true]at e;obtain⟨rfl,rfl⟩:=e;obtain⟨cs,h1,h2⟩:=hrows q (by rw[q1];exact hq)
  refine⟨cs,kBX (lw x q),kBN (lw x q),h1,h2.arg.len,⟨rfl,fun hM i hi=>⟨?_,by rw[hr]⟩⟩,fun w0 hb=>?_⟩
  ·cases ok:kOk (lw x q)with
   | true=>
    obtain⟨g0,_,g2,_⟩:=chk_out _ _ (kB_chk _ ok);rw[hM]at g2;omega
   | false=>
    have:kBN (lw x q)=0:=kBN_bad _ ok;omega
  ·refine(v10bits_k cs (lw x q) w0 (h2.keep hb)).mono ?_;rintro e w' ⟨bo,bc,rfl,g1,_,g2⟩;exact⟨bo,bc,rfl,g1,g2⟩
 rw[q1,hn]at bx bw⊢;clear h hn64 hr hZ q2;generalize x.K=K at *;obtain⟨i5,hi5,za5,zb5,zc5⟩:=info_parts Tryz.info5;obtain⟨i3,hi3,za3,zb3,zc3⟩:=info_parts info3_9;have nn0:¬(n:Int)<0:=by omega
 have nn1:¬(8192:Int)<(n:Int):=by omega
 have nn2:(0:Int)≤(n:Int):=by omega
 clear hn q1;go_enter Tryz.func80,Tryz.ntmps80;go_wp2_with (at_make;refine wpList_make_full _ rfl _ _ 22 rfl (w.heap.size+1) 5 i5 (.int .u8 0) 1 Tryz.underlying22 hi5 za5 zb5 .i64 .i64 _ _ n rfl rfl rfl rfl ?b2 ?b3 ?b4 ?_)
 case b2=>first | (rw[zc5];omega) | omega
 case b3=>unfold maxLen;omega
 intro w2 hown hgr;have c3:=made_one hown;have hz:(w.alloc (.cells [.int .i64 K,.int .i64 (n:Int),.slice (some ⟨b,off,none⟩) 8 cap].toArray 26)).heap.size=w.heap.size+1:=by simp
 have b2:Below (w.heap.size+1) (w.alloc (.cells [.int .i64 K,.int .i64 (n:Int),.slice (some ⟨b,off,none⟩) 8 cap].toArray 26)) w2:=(Below.refl _ _).grown hgr (by rw[hz];exact Nat.le_refl _) (fun k h=>by cases h)
 replace bx:=bx.keep b2 (by omega);replace bw:=bw.trans (b2.mono (by omega))
 have e0:List.replicate n (Value.int .u8 0)=bv8 (Tw.tx r n 0):=by
  unfold bv8 Tw.tx;rw[List.map_replicate];rfl
 rw[e0]at c3;obtain⟨g3,hg3⟩:∃g3,g3=w.heap.size+1:=⟨_,rfl⟩;rw[←hg3]at c3⊢;have l3:w.heap.size<g3:=by omega
 clear hg3 hown hgr b2 hz e0;have H2:=Hid.mkt (And.intro bx (And.intro c3 bw));have x1:=bx.cell 1 rfl;clear bx c3 bw;go_wp2
 go_loopw [5,4] (fun s v wr=>∃i:Nat,i≤n∧s=.int .i64 i∧wr.ownsRow w2.heap.size 3 1 v i (pli (List.range i) [])∧Below w2.heap.size w2 wr) (fun s _ _=>n-(intOf s).toNat)
 case atStart=>exact⟨0,Nat.zero_le _,rfl,World.ownsRow_nil _ _ _ _,Below.refl _ _⟩
 case round=>
  obtain⟨i,hin,rfl,own4,jb⟩:=hrel;obtain⟨a4,c4,rfl,hc4, -⟩:=Ap.owns_shape own4;have x1':=((H2.out.1.kept jb).cell 1 rfl);clear x1;by_cases hlt:i<n
  ·have hlt2:(i:Int)<(n:Int):=by omega
   have bs:=Hid.mkt (pli_snoc' i []);have bA:=below_alloc wr (.cells #[.int .i64 (i:Int)] 3);have own3:=Ap.owns_below own4 bA
   have src3:(wr.alloc (.cells #[.int .i64 (i:Int)] 3)).cell? ⟨wr.heap.size,0,none⟩=some (.int .i64 (i:Int)):=(Cel.new wr [.int .i64 (i:Int)] 3).cell 0 rfl;have jb3:=bg jb bA
   have g3':w2.heap.size≤(wr.alloc (.cells #[.int .i64 (i:Int)] 3)).heap.size:=jb3.size;clear bA own4 jb;generalize pli (List.range i) []=L4 at *
   go_wp2_with (at_builtin;refine Ap.wpList_append_u rfl _ _ 35 rfl w2.heap.size 3 i3 (.int .i64 0) 8 Tryz.underlying35 hi3 za3 zb3 zc3 rfl (.slice a4 i c4) i L4 rfl own3 (some ⟨wr.heap.size,0,none⟩) 1 1 [.int .i64 (i:Int)] rfl rfl ?d1 ?d2 ?d3 ?d4 ?d5 ?_)
   case d1=>exact fun _=>⟨_,rfl,fun j u hj=>by
    match j,hj with
    | 0,hj=>simp at hj;subst hj;exact src3⟩
   case d2=>intro u hu;simp at hu;subst hu;rfl
   case d3=>unfold maxLen;omega
   case d4=>omega
   case d5=>exact g3'
   intro so sc w4 own4 hle4 hB4;have HO:=Hid.mkt (And.intro own4 (jb3.trans hB4));clear own4 own3 hB4 jb3 src3 g3' x1';go_wp2;refine⟨⟨i+1,by omega,by go_num,?_,HO.out.2⟩,by simp only[intOf];omega⟩;rw[←bs.out]
   exact HO.out.1
  ·obtain rfl:i=n:=by omega
   have hoi:=oi_own own4;rw[←plc_root r i]at hoi;obtain⟨bx,c3,bw⟩:=H2.out;replace bx:=bx.kept jb;replace c3:=c3.kept jb;replace bw:=bg bw jb
   have H3:=Hid.mkt (And.intro hoi (And.intro bx (And.intro c3 bw)));clear own4 jb hoi bx c3 bw H2;go_wp2;clear x1'
   go_loopw [6,4] (fun s v wr=>∃(q:Nat) (oo:Option Addr) (oc:Nat),q≤8∧s=.int .i64 q∧v=.slice oo i oc∧Hid (∀l,l<q→kBN (lw x l)=(i:Int))∧Oi wr oo i (Tw.plc (Tw.tx r i q) q)∧Cel wr w.heap.size [.int .i64 K,.int .i64 (i:Int),.slice (some ⟨b,off,none⟩) 8 cap] 26∧Cel wr g3 (bv8 (Tw.tx r i q)) 5∧Below w.heap.size w wr) (fun s _ _=>8-(intOf s).toNat)
   case atStart=>exact⟨0,_,_,Nat.zero_le _,rfl,rfl,fun l hl=>absurd hl (by omega),H3.out⟩
   case round=>
    obtain⟨q,oo,oc,hq,rfl,rfl,HA,ho,hx,h3,hw⟩:=hrel;clear H3;by_cases hi:q<8
    ·have hi2:(q:Int)<8:=by omega
     obtain⟨cs,X,M,rg,HL0,hX,BI0⟩:=CO.out q hi;have HL:=Hid.mkt HL0;have BI:=Hid.mkt BI0;have HX:=Hid.mkt hX;have rg2:=range_keep rg hw hbl;have x2:=hx.cell 2 rfl;clear CO HL0 BI0 hX rg
     go_wp2_with (refine load_part b (off+q*22) cs (by rfl) rfl rg2 Tryz.underlying45 HL.out ?_);refine(BI.out _ hw).mono ?_;rintro e w3 ⟨bo,bc,rfl,wd,hb3⟩;replace hx:=hx.kept hb3;replace h3:=h3.kept hb3
     replace ho:=ho.keep hb3;replace hw:=bg hw hb3;clear hb3 rg2 x2 BI;have c7:=Cel.new w3 [.int .i64 M,.slice bo X.length bc] 33
     have b7:=below_alloc w3 (.cells [.int .i64 M,.slice bo X.length bc].toArray 33);have l37:g3<w3.heap.size:=h3.lt;replace hx:=hx.kept b7;replace h3:=h3.kept b7;replace ho:=ho.keep b7;replace wd:=wd.keep b7
     replace hw:=bg hw b7;clear b7;have z0:=c7.cell 0 rfl;have z1:=c7.cell 1 rfl;have x1:=hx.cell 1 rfl;by_cases dM:M=(i:Int);rotate_left
     ·have dM2:(M != (i:Int))=true:=by simp[dM]
      have E:Hid (Z=[]):=ZB.out ⟨q,hi,by rw[←HX.out.1];exact dM⟩;clear hx h3 ho wd c7;go_wp2;go_ret;rw[E.out];exact rbt0 hw
     have HM:=Hid.mkt (show ∀l,l<q+1→kBN (lw x l)=(i:Int)from fun l hl=>by
      by_cases e:l=q
      ·rw[e,←HX.out.1];exact dM
      ·exact HA.out l (by omega))
     have HXX:=Hid.mkt (HX.out.2 dM);clear HX HA;subst dM;rw[←Tw.tm_zero]at h3;have WQ:=shl7 q hi;obtain⟨kk,hk⟩:∃kk,7-q=kk:=⟨_,rfl⟩
     have mk:IntKind.i64.wrap (7-(q:Int))=(kk:Int):=by rw[IntKind.wrap_i64];omega
     have hk0:(0:Int)≤(kk:Int):=by omega
     have hk8:(kk:Int)<8:=by omega
     have HI:=Hid.mkt (And.intro hx (And.intro h3 (And.intro c7 (And.intro ho (And.intro wd hw)))));clear hx h3 c7 ho wd hw;go_wp2;clear z0 z1 x1
     go_loopw [8] (fun s wr=>∃j:Nat,j≤i∧s=.int .i64 j∧Cel wr w.heap.size [.int .i64 K,.int .i64 (i:Int),.slice (some ⟨b,off,none⟩) 8 cap] 26∧Cel wr g3 (bv8 (Tw.tm r i q j)) 5∧Cel wr w3.heap.size [.int .i64 (i:Int),.slice bo X.length bc] 33∧Oi wr oo i (Tw.plc (Tw.tx r i q) q)∧Wd wr bo X∧Below w.heap.size w wr) (fun s _=>i-(intOf s).toNat)
     case atStart=>exact⟨0,Nat.zero_le _,rfl,HI.out⟩
     case round=>
      obtain⟨j,hji,rfl,jx,j3,j7,jo,jd,jw⟩:=hrel;clear HI;by_cases hlt:j<i
      ·have hlt2:(j:Int)<(i:Int):=by omega
       have hpl:=Tw.length_plc (Tw.tx r i q) q (by omega) (Tw.byt_tx r i q (by omega));rw[Tw.length_tx]at hpl;obtain⟨y,hy0⟩:∃y,(Tw.plc (Tw.tx r i q) q)[j]?=some y:=⟨_,List.getElem?_eq_getElem (by omega)⟩
       have HY:=Hid.mkt hy0;obtain⟨hy,ey⟩:=Tw.tm_gt r i q j y hi hy0;obtain⟨hxl,hxb⟩:=HXX.out j hlt
       have AT:Hid (∀w0,Wd w0 bo X→Qq 31 #[.agg #[.int .i64 (i:Int),.slice bo X.length bc],.int .i64 (j:Int)] w0 (.bool (r q j))):=fun w0 h=>by
        have:=at_c (i:Int) bo X bc j w0 h hxl (by omega);rw[hxb]at this;exact this
       have z0:=j7.cell 0 rfl;have z1:=j7.cell 1 rfl;have hyt:gt (Tw.tx r i q) y<256:=Tw.byt_tx r i q (by omega) y;have HS0:=Tw.tm_set r i q j y hi hy0;have HK0:=Tw.tm_skip r i q j hi
       have H8:=or8 ⟨gt (Tw.tx r i q) y,hyt⟩ ⟨q,hi⟩;dsimp only at H8;rw[ey]at HS0;obtain⟨gg,rfl, -, -, -⟩:=jo j y hlt hy0;clear hpl hy0 hxl hxb;generalize gt (Tw.tx r i q) y=C at *;rw[hk]at H8 HS0 WQ
       generalize (2:Nat)^kk=W at *;have hy2:(y:Int)<(i:Int):=by omega
       go_wp2_with fail;refine mr (AT.out _ jd) fun w6 hb6=>?_;replace jx:=jx.kept hb6;replace j3:=j3.kept hb6;replace j7:=j7.kept hb6;replace jo:=jo.keep hb6;replace jd:=jd.keep hb6
       replace jw:=bg jw hb6;clear hb6 z0 z1 AT;cases hri:r q j with
       | true=>
        have HS:=HS0 hri
        have c3':Cel (w6.drew.setCell ⟨g3,y,none⟩ (.int .u8 ((C|||W:Nat):Int))) g3 (bv8 (Tw.tm r i q (j+1))) 5:=by
         have:=j3.drew.set y (.int .u8 ((C|||W:Nat):Int));rw[bv8_set,HS]at this;exact this
        have o3:Only g3 w6.drew (w6.drew.setCell ⟨g3,y,none⟩ (.int .u8 ((C|||W:Nat):Int))):=(Only.refl _ _).set y _
        have jod:Oi w6.drew (some ⟨gg,0,none⟩) i (Tw.plc (Tw.tx r i q) q):=jo.keep (Below.refl _ _).drew;have l37':g3≠w3.heap.size:=by omega
        have HF:=Hid.mkt (And.intro (o3.cel jx.drew (by omega)) (And.intro c3' (And.intro (o3.cel j7.drew (by omega)) (And.intro (jod.only j3.drew o3) (And.intro (o3.wd (jd.keep (Below.refl _ _).drew) ((jd.keep (Below.refl _ _).drew).apart j3.drew (nou_bv8 _))) (jw.drew.trans (o3.below (by omega))))))))
        have hS:Cel w6.drew g3 (bv8 (Tw.tm r i q j)) 5∧Oi w6.drew (some ⟨gg,0,none⟩) i (Tw.plc (Tw.tx r i q) q):=⟨j3,jod⟩;clear c3' o3 HS HS0 HK0 jx j3 j7 jo jd jw hri jod l37';go_wp2
        refine region_g [18] (fun w'=>Cel w' g3 (bv8 (Tw.tm r i q j)) 5∧Oi w' (some ⟨gg,0,none⟩) i (Tw.plc (Tw.tx r i q) q)) (by kernel_rfl) ?_
        generalize w6.drew=V at *;refine aK 0 hS ?_;refine aK 1 hS ?_;refine aK 2 hS ?_;refine aK 3 hS ?_
        refine aF 4 hS rfl (fun w0 h0=>by obtain⟨g9,e1,_,_,e4⟩:=h0.2 j y hlt HY.out;cases e1;go_simp;try with_reducible rfl) ?_;refine aK 5 hS ?_;refine aK 6 hS ?_;refine aK 7 hS ?_
        refine aK 8 hS ?_;refine aF 9 hS rfl (fun w0 h0=>by obtain⟨g9,e1,_,_,e4⟩:=h0.2 j y hlt HY.out;cases e1;go_simp;try with_reducible rfl) ?_;refine aK 10 hS ?_
        refine aF 11 hS rfl (fun w0 h0=>by have c1:=h0.1.cell y (bv8_get _ y (by rw[Tw.length_tm];exact hy));rw[ey]at c1;go_simp;try with_reducible rfl) ?_;refine aK 12 hS ?_;refine aK 13 hS ?_
        refine aK 14 hS ?_;refine aK 15 hS ?_;refine aK 16 hS ?_;refine aK 17 hS ?_;refine aO 18 ?_;intro K hK;have c1:=hS.1.cell y (bv8_get _ y (by rw[Tw.length_tm];exact hy))
        have f1:=hS.1.frozen y;go_simp;refine hK.out _ _ (fun h=>absurd (by decide) h) ?_;clear hK K;try simp only[Act.put,yq0,yq1,yq2,yq3,yq4,yq5]
        refine AnyG.done (by kernel_rfl) ?_ _;clear hS c1 f1;go_wp2;refine⟨⟨j+1,by omega,by go_num,?_⟩,by simp only[intOf];omega⟩;first | exact HF.out | (rw[WQ,H8];exact HF.out)
       | false=>
        have HK:=HK0 hri;rw[HK]at j3;have HF:=Hid.mkt (And.intro jx (And.intro j3 (And.intro j7 (And.intro jo (And.intro jd jw)))));clear jx j3 j7 jo jd jw HS0 H8 HK HK0 hri ey;go_wp2
        exact⟨⟨j+1,by omega,by go_num,HF.out⟩,by simp only[intOf];omega⟩
      ·obtain rfl:j=i:=by omega
       rw[Tw.tm_all r _ q hi]at j3;have ql:IntKind.i64.wrap ((q:Int)+1)=((q+1:Nat):Int):=by rw[IntKind.wrap_i64];omega
       have SO:Hid (∀w0,Cel w0 g3 (bv8 (Tw.tx r j (q+1))) 5→Calls Tryz.prog 132 #[.slice (some ⟨g3,0,none⟩) j j,.int .i64 ((q+1:Nat):Int)] w0 fun e w'=>∃v,e=.returned v∧w'.ownsRow w0.heap.size 3 1 v j (pli (Tw.plc (Tw.tx r j (q+1)) (q+1)) (Tw.tx r j (q+1)))∧Below w0.heap.size w0 w'):=fun w0 hc=>by
        have:=rsorted_c (some ⟨g3,0,none⟩) (Tw.tx r j (q+1)) j (q+1) w0 (bd_cel hc) (Tw.byt_tx r j (q+1) (by omega)) (by omega) (by rw[Tw.length_tx];omega)
        rw[Tw.length_plc _ _ (by omega) (Tw.byt_tx r j (q+1) (by omega)),Tw.length_tx]at this;exact this
       clear j7 jo jd hk;go_wp2_with fail;refine(SO.out _ j3).mono ?_;rintro e w9 ⟨v9,rfl,own9,hb9⟩;obtain⟨a9,c9,rfl, -, -⟩:=Ap.owns_shape own9
       have HF:=Hid.mkt (And.intro (oi_own own9) (And.intro (jx.kept hb9) (And.intro (j3.kept hb9) (bg jw hb9))));clear own9 hb9 jx j3 jw SO;go_wp2
       exact⟨⟨q+1,a9,c9,by omega,by go_num,rfl,HM.out,HF.out⟩,by simp only[intOf];omega⟩
    ·obtain rfl:q=8:=by omega
     have E:Hid (Z=Tw.tx r i 8):=ZG.out HA.out;have HF:=Hid.mkt (And.intro (bd_cel h3) hw);have eL:Hid ((Tw.tx r i 8).length=i):=Tw.length_tx r i 8;clear CO ho hx h3 hw;go_wp2;go_ret;rw[E.out]
     exact⟨_,_,by rw[eL.out];rfl,HF.out.1,by rw[eL.out];exact Nat.le_refl _,HF.out.2⟩
end Go.Proofs.YtfnkklkdajlhlaaGreatDoor
namespace Go.Proofs.YtfnkklkdajlhlaaGreatDoor
open Num Bit Bn
theorem rX_tt{x:TR}(h:tOk x=true):rX x=txt x:=by
 have ht:=tt_of x h;unfold rX;rw[rAll_yes ht.e (by have:=ht.n;have:=ht.h;omega) (fun l hl=>by rw[(ht.r l hl).2.2.1,ht.n]),if_pos rfl]
theorem rX_len(x:TR)(h:x.N≤600):(rX x).length≤600:=by
 unfold rX;split
 ·unfold txt;rw[Tw.length_tx];omega
 ·exact Nat.zero_le _
theorem tOk_self(x:TR)(hf:∀l,l<8→Fit (kBX (lw x l)))(hN:x.N≤600):tOk x=true↔tbE x.K=0∧x=tB x.K (rX x):=by
 constructor
 ·intro h;have ht:=tt_of x h;rw[rX_tt h]
  have hk:1≤x.K∧x.K≤3:=by
   obtain⟨g1,g2,_⟩:=ht.r 0 (by decide);have:=kB_self _ g2;rw[g1]at this;exact⟨this.1,this.2.1⟩
  refine⟨by unfold tbE;rw[if_pos hk],?_⟩
  have e:x.av=(List.range 8).map fun l=>kB x.K ((txt x).length:Int) (rw_ (txt x) l):=by
   refine List.ext_getElem (by rw[ht.e];simp) fun l h1 h2=>?_;have hl:l<8:=by rw[←ht.e];exact h1
   obtain⟨g1,g2,g3,g4⟩:=ht.r l hl;have s:=(kB_self _ g2).2.2;have c:=kB_chk _ g2;rw[g3]at s c
   have e0:rw_ (txt x) l=kBX (lw x l):=by
    unfold rw_;rw[chk_row _ _ (hf l hl) c,Int.toNat_natCast];exact rowOf_congr _ _ _ fun i hi=>by rw[←g4 i hi]
   have e1:lw x l=x.av[l]:=by unfold lw;rw[List.getD_eq_getElem?_getD,List.getElem?_eq_getElem h1];rfl
   rw[←e1,List.getElem_map,List.getElem_range,e0,←g1];exact s.symm
  have n:=ht.n;generalize txt x=t at *;cases x;dsimp only at *;unfold tB;rw[e,n]
 ·rintro⟨h1,h2⟩
  have hk:1≤x.K∧x.K≤3:=by
   unfold tbE at h1;split at h1
   ·assumption
   ·cases h1
  have hB:Tw.Byt (rX x):=by
   unfold rX;split
   ·exact Tw.byt_tx _ _ _ (by omega)
   ·exact fun i=>by unfold gt;simp
  rw[h2];exact(tt_tB x.K (rX x) hk.1 hk.2 hB (by have:=rX_len x hN;omega)).ok
end Go.Proofs.YtfnkklkdajlhlaaGreatDoor
namespace Go.Proofs.YtfnkklkdajlhlaaGreatDoor
open Go.RowKit Num Bit
theorem p7same_g(cs ds:List Value)(a b:RA7)(w:World)(h:KI7 w cs a)(g:KI7 w ds b)(B:Bool)(hB:B=true↔a=b):
  Qq 129 #[.agg cs.toArray,.agg ds.toArray] w (.bool B):=by
 obtain⟨⟨ao,cap,so,sc,tO,tc,rfl,h⟩,xl,sl,tl⟩:=h;obtain⟨⟨bo,dap,po,pc,qo,qc,rfl,g⟩,_⟩:=g
 refine mr (rsame_c a.N ao a.xs cap so a.S sc tO a.T tc b.N bo b.xs dap po b.S pc qo b.T qc w h.x g.x xl h.s g.s sl h.t g.t tl) fun w' hb=>?_;refine⟨?_,hb⟩;congr 2;rw[Bool.eq_iff_iff,hB];cases a;cases b
 simp[and_assoc]
theorem r8same_g(cs ds:List Value)(a b:RA8)(w:World)(h:KI8 w cs a)(g:KI8 w ds b)(B:Bool)(hB:B=true↔a=b):
  Qq 110 #[.agg cs.toArray,.agg ds.toArray] w (.bool B):=by
 obtain⟨⟨ao,cap,qo,dap,so,sc,tO,tc,rfl,_,a1,a2,a3,a4,a5,a6,a7,a8,a9,a10⟩,xl,yl,sl,tl⟩:=h;obtain⟨⟨bo,bap,ro,eap,uo,uc,vo,vc,rfl,_,b1,b2,b3,b4,b5,b6,b7,b8,b9,b10⟩,_⟩:=g
 refine mr (r8same_c a.N a.k a.V a.M ao a.xs cap a.L qo a.ys dap so a.S sc tO a.T tc b.N b.k b.V b.M bo b.xs bap b.L ro b.ys eap uo b.S uc vo b.T vc w a1 b1 xl a4 b4 yl a7 b7 sl a9 b9 tl) fun w' hb=>?_;refine⟨?_,hb⟩
 congr 2;rw[Bool.eq_iff_iff,hB];cases a;cases b;simp[and_assoc]
theorem f9same_g(cs ds:List Value)(a b:RA9)(w:World)(h:KI9 w cs a)(g:KI9 w ds b)(B:Bool)(hB:B=true↔a=b):
  Qq 113 #[.agg cs.toArray,.agg ds.toArray] w (.bool B):=by
 obtain⟨⟨ao,cap,qo,dap,rfl,_,a1,a2,a3,a4,a5,a6⟩,n3,xl,yl⟩:=h;obtain⟨⟨bo,bap,ro,eap,rfl,_,b1,b2,b3,b4,b5,b6⟩,_⟩:=g
 refine mr (f9same_c a.N a.M a.k a.V a.LM ao a.xs cap a.H qo a.ys dap b.N b.M b.k b.V b.LM bo b.xs bap b.H ro b.ys eap w a1 b1 a4 b4 xl yl) fun w' hb=>?_;refine⟨?_,hb⟩;congr 2;rw[Bool.eq_iff_iff,hB];cases a
 cases b;simp[and_assoc]
theorem yes_no(p:Prop):∃B:Bool,B=true↔p:=by
 by_cases h:p
 ·exact⟨true,by simp[h]⟩
 ·exact⟨false,by simp[h]⟩
theorem v10same_g(cs ds:List Value)(a b:RA)(w:World)(h:KI w cs a)(g:KI w ds b)(B:Bool)(hB:B=true↔a=b):
  Qq 72 #[.agg cs.toArray,.agg ds.toArray] w (.bool B):=by
 have sm:=h.sm;have gvw:=h.gv;have tm:=g.sm;replace h:=h.arg;replace g:=g.arg;obtain⟨cp,cr,cf,rfl,hK,h1,h2,h3⟩:=h;have l4:=Hid.mk8 h1.four;have l9:=Hid.mk8 h2.nine;have LP:=Hid.mk8 h1.len
 have LR:=Hid.mk8 h2.len;have LF:=Hid.mk8 h3.len;obtain⟨K,p,r,f⟩:=a;obtain⟨M,p',r',f'⟩:=b;dsimp only at *;have k7:KI7 w cp p:=⟨h1,sm.p1,sm.p2,sm.p3⟩
 have k8:KI8 w cr r:=⟨h2,sm.r1,sm.r2,sm.r3,sm.r4,gvw⟩;have k9:KI9 w cf f:=⟨h3,sm.f0,sm.f1,sm.f2⟩;obtain⟨dp,dr,df,rfl,_,g1,g2,g3⟩:=g;have m4:=Hid.mk8 g1.four;have m9:=Hid.mk8 g2.nine
 have MP:=Hid.mk8 g1.len;have MR:=Hid.mk8 g2.len;have MF:=Hid.mk8 g3.len;have j7:KI7 w dp p':=⟨g1,tm.p1,tm.p2,tm.p3⟩;have j8:KI8 w dr r':=⟨g2,tm.r1,tm.r2,tm.r3,tm.r4,gvw⟩
 have j9:KI9 w df f':=⟨g3,tm.f0,tm.f1,tm.f2⟩;obtain⟨B7,e7⟩:=yes_no (p=p');obtain⟨B8,e8⟩:=yes_no (r=r');obtain⟨B9,e9⟩:=yes_no (f=f')
 have S7:Hid (Qz w 129 #[.agg cp.toArray,.agg dp.toArray] (.bool B7)):=fun w0 u=>p7same_g cp dp p p' w0 (k7.keep u) (j7.keep u) B7 e7
 have S8:Hid (Qz w 110 #[.agg cr.toArray,.agg dr.toArray] (.bool B8)):=fun w0 u=>r8same_g cr dr r r' w0 (k8.keep u) (j8.keep u) B8 e8
 have S9:Hid (Qz w 113 #[.agg cf.toArray,.agg df.toArray] (.bool B9)):=fun w0 u=>f9same_g cf df f f' w0 (k9.keep u) (j9.keep u) B9 e9
 have hE:Hid (B=true↔K=M∧B7=true∧B8=true∧B9=true):=by
  show B=true↔_;rw[hB,e7,e8,e9,RA.mk.injEq]
 clear h1 h2 h3 g1 g2 g3 sm tm k7 k8 k9 j7 j8 j9 hB e7 e8 e9
 have bw:Below w.heap.size w ((w.alloc (.cells (Value.int .i64 K::(cp++(cr++cf))).toArray 45)).alloc (.cells (Value.int .i64 M::(dp++(dr++df))).toArray 45)):=(below_alloc w _).alloc (by simp) _
 have B0:Cel ((w.alloc (.cells (Value.int .i64 K::(cp++(cr++cf))).toArray 45)).alloc (.cells (Value.int .i64 M::(dp++(dr++df))).toArray 45)) w.heap.size (Value.int .i64 K::(cp++(cr++cf))) 45:=(Cel.new w _ _).alloc _
 have B2:Cel ((w.alloc (.cells (Value.int .i64 K::(cp++(cr++cf))).toArray 45)).alloc (.cells (Value.int .i64 M::(dp++(dr++df))).toArray 45)) (w.heap.size+1) (Value.int .i64 M::(dp++(dr++df))) 45:=Cel.new2 w _ _ _
 by_cases hKM:K=M
 ·subst hKM;go_enter Tryz.func72,Tryz.ntmps72;obtain⟨c0,p1,p2,p3⟩:=parts l4.out l9.out B0;obtain⟨d0,t1,t2,t3⟩:=parts m4.out m9.out B2
  go_wp2_with (first | refine load_part w.heap.size 1 cp (by rfl) rfl p1 Tryz.underlying37 LP.out ?_ | refine load_part (w.heap.size+1) 1 dp (by rfl) rfl t1 Tryz.underlying37 MP.out ?_);refine mr (S7.out _ bw) fun v7 hb=>?_;replace B0:=B0.kept hb;replace B2:=B2.kept hb;replace bw:=bg bw hb;clear hb c0 p1 p2 p3 d0 t1 t2 t3;cases B7 with
  | false=>
   obtain rfl:B=false:=Bool.eq_false_iff.2 fun e=>by have:=hE.out.1 e;simp at this
   go_wp2;go_ret;exact⟨rfl,bw⟩
  | true=>
   obtain⟨c0,p1,p2,p3⟩:=parts l4.out l9.out B0;obtain⟨d0,t1,t2,t3⟩:=parts m4.out m9.out B2
   go_wp2_with (first | refine load_part w.heap.size 5 cr (by rfl) rfl p2 Tryz.underlying41 LR.out ?_ | refine load_part (w.heap.size+1) 5 dr (by rfl) rfl t2 Tryz.underlying41 MR.out ?_);refine mr (S8.out _ bw) fun v8 hb=>?_;replace B0:=B0.kept hb;replace B2:=B2.kept hb;replace bw:=bg bw hb;clear hb c0 p1 p2 p3 d0 t1 t2 t3;cases B8 with
   | false=>
    obtain rfl:B=false:=Bool.eq_false_iff.2 fun e=>by have:=hE.out.1 e;simp at this
    go_wp2;go_ret;exact⟨rfl,bw⟩
   | true=>
    obtain⟨c0,p1,p2,p3⟩:=parts l4.out l9.out B0;obtain⟨d0,t1,t2,t3⟩:=parts m4.out m9.out B2
    go_wp2_with (first | refine load_part w.heap.size 14 cf (by rfl) rfl p3 Tryz.underlying43 LF.out ?_ | refine load_part (w.heap.size+1) 14 df (by rfl) rfl t3 Tryz.underlying43 MF.out ?_);refine mr (S9.out _ bw) fun v9 hb=>?_;replace B0:=B0.kept hb;replace B2:=B2.kept hb;replace bw:=bg bw hb;clear hb c0 p1 p2 p3 d0 t1 t2 t3;cases B9 with
    | false=>
     obtain rfl:B=false:=Bool.eq_false_iff.2 fun e=>by have:=hE.out.1 e;simp at this
     go_wp2;go_ret;exact⟨rfl,bw⟩
    | true=>
     obtain rfl:B=true:=hE.out.2 (by simp);go_wp2;go_ret;exact⟨rfl,bw⟩
 ·obtain rfl:B=false:=Bool.eq_false_iff.2 fun e=>hKM (hE.out.1 e).1;go_enter Tryz.func72,Tryz.ntmps72;obtain⟨c0,p1,p2,p3⟩:=parts l4.out l9.out B0;obtain⟨d0,t1,t2,t3⟩:=parts m4.out m9.out B2;go_wp2;go_ret
  exact⟨rfl,bw⟩
theorem av_ext{av bv:List RA}(hl:av.length=bv.length)(h:∀j,j<av.length→av.getD j ra0=bv.getD j ra0):av=bv:=by
 refine List.ext_getElem hl fun j h1 h2=>?_;have:=h j h1;rw[List.getD_eq_getElem?_getD,List.getD_eq_getElem?_getD,List.getElem?_eq_getElem h1,List.getElem?_eq_getElem h2]at this;exact this
theorem rrows_g(l1 l2:Option Addr)(c1 c2:Nat)(av bv:List RA)(w:World)(h1:Lv w l1 av)(h2:Lv w l2 bv)(hl:av.length≤20)(hl2:bv.length≤20)(B:Bool)(hB:B=true↔av=bv):
  Qq 41 #[.slice l1 av.length c1,.slice l2 bv.length c2] w (.bool B):=by
 by_cases hlen:av.length=bv.length
 ·have HH:Hid (∀q,q<av.length→∃b1 o1 b2 o2 cs ds Bq,(Bq=true↔av.getD q ra0=bv.getD q ra0)∧l1=some ⟨b1,o1,none⟩∧l2=some ⟨b2,o2,none⟩∧b1<w.heap.size∧b2<w.heap.size∧w.rangeAt b1 (o1+q*22) cs∧w.rangeAt b2 (o2+q*22) ds∧(Tryz.prog.info? 45).map (·.size)=some cs.length∧(Tryz.prog.info? 45).map (·.size)=some ds.length∧Qz w 72 #[.agg cs.toArray,.agg ds.toArray] (.bool Bq)):=fun q hq=>by
   obtain⟨b1,o1,e1,g1,r1⟩:=h1 (by omega);obtain⟨b2,o2,e2,g2,r2⟩:=h2 (by omega);obtain⟨cs,k1,k2⟩:=r1 q hq;obtain⟨ds,m1,m2⟩:=r2 q (by omega);obtain⟨Bq,hq⟩:=yes_no (av.getD q ra0=bv.getD q ra0)
   exact⟨b1,o1,b2,o2,cs,ds,Bq,hq,e1,e2,g1,g2,k1,m1,k2.arg.len,m2.arg.len,fun w0 hb=>v10same_g cs ds _ _ w0 (k2.keep hb) (m2.keep hb) Bq hq⟩
  have YE:Hid ((∀j,j<av.length→av.getD j ra0=bv.getD j ra0)→B=true):=fun h=>hB.2 (av_ext hlen h)
  have NO:Hid (∀q,¬av.getD q ra0=bv.getD q ra0→B=false):=fun q h=>Bool.eq_false_iff.2 fun e=>h (by rw[hB.1 e]);rw[←hlen];obtain⟨n,hn⟩:∃n,Hid (n=av.length):=⟨_,rfl⟩;rw[←hn.out]at HH YE hl⊢
  clear h1 h2 hB hlen hl2;go_enter Tryz.func41,Tryz.ntmps41;go_wp2
  go_loopw [5] (fun s wr=>∃q:Nat,q≤n∧s=.int .i64 q∧Hid (∀j,j<q→av.getD j ra0=bv.getD j ra0)∧Below w.heap.size w wr) (fun s _=>n-(intOf s).toNat)
  case atStart=>exact⟨0,Nat.zero_le _,rfl,fun j hj=>absurd hj (by omega),Below.refl _ _⟩
  case round=>
   obtain⟨q,hq,rfl,HJ,hb⟩:=hrel;by_cases hi:q<n
   ·have hi2:(q:Int)<(n:Int):=by omega
    obtain⟨b1,o1,b2,o2,cs,ds,Bq,HQ0,rfl,rfl,g1,g2,r1,r2,L1,L2,SM⟩:=HH.out q hi;have HQ:=Hid.mkt HQ0;have R1:=Hid.mkt r1;have R2:=Hid.mkt r2;have H1:=Hid.mkt L1;have H2:=Hid.mkt L2
    have S0:=Hid.mkt SM;clear r1 r2 L1 L2 SM HH HQ0;go_wp2;refine region_g [] (fun w'=>Below w.heap.size w w') (by kernel_rfl) ?_;have hS:Below w.heap.size w wr.drew:=hb.drew;clear hb;generalize wr.drew=V at *
    refine aK 0 hS ?_;refine aK 1 hS ?_;refine aK 2 hS ?_
    refine AnyG.take 3 (v:=.agg (cs).toArray) rfl (by kernel_rfl) (by kernel_rfl) (by kernel_rfl) (by kernel_rfl) (fun _ _ _ h=>h) hS (fun w0 h0=>run_load_part b1 (o1+q*22) _ rfl (range_keep R1.out h0 g1) Tryz.underlying45 H1.out) (by rfl) ?rest4
    simp only[Act.put,yq0,yq1,yq2,yq3,yq4,yq5];refine aK 4 hS ?_;refine aK 5 hS ?_;refine aK 6 hS ?_
    refine AnyG.take 7 (v:=.agg (ds).toArray) rfl (by kernel_rfl) (by kernel_rfl) (by kernel_rfl) (by kernel_rfl) (fun _ _ _ h=>h) hS (fun w0 h0=>run_load_part b2 (o2+q*22) _ rfl (range_keep R2.out h0 g2) Tryz.underlying45 H2.out) (by rfl) ?rest8
    simp only[Act.put,yq0,yq1,yq2,yq3,yq4,yq5];refine aO 8 ?_;intro K hK;go_simp;refine mr (S0.out _ hS) fun w5 hb5=>?_;have hS2:=bg hS hb5;clear hb5
    refine hK.out _ _ (fun _=>hS2) ?_;clear hK K;try simp only[Act.put,yq0,yq1,yq2,yq3,yq4,yq5]
    refine aK 9 hS2 ?_;refine AnyG.done (by kernel_rfl) ?_ _;clear hS;cases Bq with
    | true=>
     go_wp2;refine⟨⟨q+1,by omega,by go_num,fun j hj=>?_,hS2⟩,by simp only[intOf];omega⟩;by_cases e:j=q
     ·rw[e];exact HQ.out.1 rfl
     ·exact HJ.out j (by omega)
    | false=>
     obtain rfl:=NO.out q fun e=>by have:=HQ.out.2 e;cases this
     go_wp2;go_ret;exact⟨rfl,hS2⟩
   ·obtain rfl:q=n:=by omega
    obtain rfl:=YE.out HJ.out;clear HH;go_wp2;go_ret;exact⟨rfl,hb⟩
 ·obtain rfl:B=false:=Bool.eq_false_iff.2 fun e=>hlen (by rw[hB.1 e]);have hne:((av.length:Int) != (bv.length:Int))=true:=by simp;omega
  clear hB h1 h2;generalize av.length=n at *;generalize bv.length=m at *;go_enter Tryz.func41,Tryz.ntmps41;go_wp2;go_ret;exact⟨rfl,Below.refl _ _⟩
theorem rsame_g(l1 l2:Option Addr)(c1 c2:Nat)(x y:TR)(w:World)(h1:TI w l1 c1 x)(h2:TI w l2 c2 y)(hl:x.av.length≤20)(hl2:y.av.length≤20)(B:Bool)(hB:B=true↔x=y):
  Qq 15 #[.agg #[.int .i64 x.K,.int .i64 x.N,.slice l1 x.av.length c1],.agg #[.int .i64 y.K,.int .i64 y.N,.slice l2 y.av.length c2]] w (.bool B):=by
 obtain⟨A,hA⟩:=yes_no (x.av=y.av)
 have H:Hid (Qz w 41 #[.slice l1 x.av.length c1,.slice l2 y.av.length c2] (.bool A)):=fun w0 hb=>rrows_g l1 l2 c1 c2 x.av y.av w0 (h1.keep hb).l (h2.keep hb).l hl hl2 A hA
 have hE:Hid (B=true↔x.K=y.K∧x.N=y.N∧A=true):=by
  show B=true↔_;rw[hB,hA];cases x;cases y;simp
 have bw:Below w.heap.size w ((w.alloc (.cells #[.int .i64 x.K,.int .i64 x.N,.slice l1 x.av.length c1] 26)).alloc (.cells #[.int .i64 y.K,.int .i64 y.N,.slice l2 y.av.length c2] 26)):=(below_alloc w _).alloc (by simp) _
 clear h1 h2 hl hl2 hA hB;generalize x.K=K at *;generalize x.N=N at *;generalize x.av.length=m at *;generalize y.K=K2 at *;generalize y.N=N2 at *;generalize y.av.length=m2 at *;by_cases e1:K=K2
 ·by_cases e2:N=N2
  ·subst e1 e2;go_enter Tryz.func15,Tryz.ntmps15;go_wp2_with fail;refine mr (H.out _ bw) fun w5 hb5=>?_;replace bw:=bg bw hb5;obtain rfl:B=A:=Bool.eq_iff_iff.2 (by rw[hE.out];simp)
   go_wp2;go_ret;exact⟨rfl,bw⟩
  ·obtain rfl:B=false:=Bool.eq_false_iff.2 fun e=>e2 (hE.out.1 e).2.1;have e3:(N==N2)=false:=by simp[e2]
   subst e1;go_enter Tryz.func15,Tryz.ntmps15;go_wp2;go_ret;exact⟨rfl,bw⟩
 ·obtain rfl:B=false:=Bool.eq_false_iff.2 fun e=>e1 (hE.out.1 e).1;have e3:(K==K2)=false:=by simp[e1]
  go_enter Tryz.func15,Tryz.ntmps15;go_wp2;go_ret;exact⟨rfl,bw⟩
theorem tTx_yes{x:TR}(h:tOk x=true):tTx x=txt x:=by unfold tTx;rw[if_pos h]
theorem tTx_no{x:TR}(h:tOk x=false):tTx x=[]:=by unfold tTx;rw[h];rfl
theorem TI.fits{w:World}{lo:Option Addr}{cap:Nat}{x:TR}(h:TI w lo cap x)(l:Nat):Fit (kBX (lw x l)):=by
 by_cases hl:l<x.av.length
 ·obtain⟨_,_,cs,_,_,_,k⟩:=h.row l hl;exact k.fit
 ·have:lw x l=ra0:=by unfold lw;rw[List.getD_eq_getElem?_getD,List.getElem?_eq_none (by omega)];rfl
  rw[this];exact fit_nil
theorem byt_rX(x:TR):Tw.Byt (rX x):=by
 unfold rX;split
 ·exact Tw.byt_tx _ _ _ (by omega)
 ·exact fun i=>by unfold gt;simp
theorem rwhole_t(lo:Option Addr)(cap:Nat)(x:TR)(w:World)(h:TI w lo cap x)(hl:x.av.length≤20)(hN:x.N≤600):
  Calls Tryz.prog 45 #[.agg #[.int .i64 x.K,.int .i64 x.N,.slice lo x.av.length cap]] w fun e w'=>∃bo bc,e=.returned (.tuple #[.slice bo (tTx x).length bc,.bool (tOk x)])∧Bd w' bo (tTx x)∧Below w.heap.size w w':=by
 have hS:=tOk_self x (fun l _=>h.fits l) hN;have hn:=rX_len x hN
 have RW:Hid (∀w0,Below w.heap.size w w0→Calls Tryz.prog 80 #[.agg #[.int .i64 x.K,.int .i64 x.N,.slice lo x.av.length cap]] w0 fun e w'=>∃bo bc,e=.returned (.slice bo (rX x).length bc)∧Bd w' bo (rX x)∧Below w0.heap.size w0 w'):=fun w0 hb=>by
  refine(rrow_c lo cap x w0 (h.keep hb)).mono ?_;rintro e w' ⟨bo,bc,rfl,g1,_,g2⟩;exact⟨bo,bc,rfl,g1,g2⟩
 have BU:Hid (∀w0 bo bc,Bd w0 bo (rX x)→GV w0→Calls Tryz.prog 14 #[.int .i64 x.K,.slice bo (rX x).length bc] w0 fun e w'=>∃l2 c2,e=.returned (.tuple #[.agg #[.int .i64 (tBx x.K (rX x)).K,.int .i64 (tBx x.K (rX x)).N,.slice l2 (tBx x.K (rX x)).av.length c2],.int .i64 (tbE x.K)])∧TI w' l2 c2 (tBx x.K (rX x))∧Below w0.heap.size w0 w'):=fun w0 bo bc hb g0=>rbuild_t x.K bo (rX x) bc w0 h.k hb (byt_rX x) (by omega) g0
 have hW:Hid (tOk x=true→tTx x=rX x):=fun e=>by rw[tTx_yes e,rX_tt e]
 have hZ:Hid (tOk x=false→tTx x=[]):=tTx_no;have HI:=Hid.mkt h;have HG:=Hid.mkt h.gv;have bx:=Cel.new w [.int .i64 x.K,.int .i64 x.N,.slice lo x.av.length cap] 26
 have bw:=below_alloc w (.cells #[.int .i64 x.K,.int .i64 x.N,.slice lo x.av.length cap] 26);by_cases hE:tbE x.K=0
 ·have eY:tBx x.K (rX x)=tB x.K (rX x):=by unfold tBx;rw[if_pos hE]
  rw[hE,eY]at BU
  have SA:Hid (∀w0 l2 c2,TI w0 lo cap x→TI w0 l2 c2 (tB x.K (rX x))→Qq 15 #[.agg #[.int .i64 x.K,.int .i64 x.N,.slice lo x.av.length cap],.agg #[.int .i64 (tB x.K (rX x)).K,.int .i64 (tB x.K (rX x)).N,.slice l2 (tB x.K (rX x)).av.length c2]] w0 (.bool (tOk x))):=fun w0 l2 c2 g1 g2=>rsame_g lo l2 cap c2 x (tB x.K (rX x)) w0 g1 g2 hl (by simp[tB]) (tOk x) (hS.trans ⟨fun z=>z.2,fun z=>⟨hE,z⟩⟩)
  clear h hS hn hl hN;generalize tB x.K (rX x)=A at *;generalize rX x=R at *;generalize tTx x=WT at *;generalize tOk x=ok at *;generalize A.K=K2 at *;generalize A.N=N2 at *;generalize A.av.length=a2 at *
  obtain⟨K,hK'⟩:∃K,Hid (K=x.K):=⟨_,rfl⟩;obtain⟨N,hN'⟩:∃N,Hid (N=x.N):=⟨_,rfl⟩;obtain⟨a,ha'⟩:∃a,Hid (a=x.av.length):=⟨_,rfl⟩;rw[←hK'.out,←hN'.out,←ha'.out]at RW SA bx bw⊢
  rw[←hK'.out]at BU;clear hK' hN' ha' eY hE;go_enter Tryz.func45,Tryz.ntmps45;go_wp2_with fail;refine(RW.out _ bw).mono ?_;rintro e w1 ⟨bo,bc,rfl,hd,hb⟩;replace bx:=bx.kept hb;replace bw:=bg bw hb
  clear hb RW;have x0:=bx.cell 0 rfl;go_wp2_with fail;refine(BU.out _ _ _ hd (HG.out.kept bw)).mono ?_;rintro e w2 ⟨l2,c2,rfl,hT,hb⟩;replace bx:=bx.kept hb;replace bw:=bg bw hb
  replace hd:=hd.keep hb;clear hb BU x0;have b3:=below_alloc w2 (.cells #[.int .i64 K2,.int .i64 N2,.slice l2 a2 c2] 26);have hT3:=hT.keep b3;replace bx:=bx.kept b3;replace bw:=bg bw b3
  replace hd:=hd.keep b3;have hI3:=HI.out.keep bw;clear hT b3;have x0:=bx.cell 0 rfl;have x1:=bx.cell 1 rfl;have x2:=bx.cell 2 rfl;go_wp2_with fail;refine mr (SA.out _ _ _ hI3 hT3) fun w4 hb=>?_
  replace bw:=bg bw hb;replace hd:=hd.keep hb;clear hb SA x0 x1 x2 bx hI3 hT3;cases ok with
  | true=>
   obtain rfl:=hW.out rfl;go_wp2;go_ret2;exact⟨_,_,rfl,hd,bw⟩
  | false=>
   obtain rfl:=hZ.out rfl;go_wp2;go_ret2;exact⟨none,0,rfl,fun h=>absurd h (by decide),bw⟩
 ·have hf:tOk x=false:=Bool.eq_false_iff.2 fun e=>hE (hS.1 e).1;rw[hf,hZ.out hf];have e:tBx x.K (rX x)=⟨0,0,[]⟩:=by unfold tBx;rw[if_neg hE]
  rw[e]at BU;have hE2:(tbE x.K != 0)=true:=by simp[hE]
  clear h hE hn hS hW hZ hf HI hl hN e;generalize rX x=R at *;generalize tbE x.K=E at *;generalize x.K=K at *;generalize x.N=N at *;generalize x.av.length=a at *;go_enter Tryz.func45,Tryz.ntmps45;go_wp2_with fail
  refine(RW.out _ bw).mono ?_;rintro e w1 ⟨bo,bc,rfl,hd,hb⟩;replace bx:=bx.kept hb;replace bw:=bg bw hb;clear hb RW;have x0:=bx.cell 0 rfl;go_wp2_with fail
  refine(BU.out _ _ _ hd (HG.out.kept bw)).mono ?_;rintro e w2 ⟨l2,c2,rfl,_,hb⟩;replace bw:=bg bw hb;have b3:=below_alloc w2 (.cells #[.int .i64 0,.int .i64 0,.slice l2 0 c2] 26)
  replace bw:=bg bw b3;clear hb BU x0 hd bx b3;go_wp2;go_ret2;exact⟨none,0,rfl,fun h=>absurd h (by decide),bw⟩
theorem rcheck_g(x:TR)(lo:Option Addr)(cap:Nat)(ok:Bool)(w:World)(H:∀w0,Below w.heap.size w w0→Calls Tryz.prog 45 #[.agg #[.int .i64 x.K,.int .i64 x.N,.slice lo x.av.length cap]] w0 fun e w'=>∃bo n bc,e=.returned (.tuple #[.slice bo n bc,.bool ok])∧Below w0.heap.size w0 w'):
  Qq 24 #[.agg #[.int .i64 x.K,.int .i64 x.N,.slice lo x.av.length cap]] w (.bool ok):=by
 have H:=Hid.mkt H;have bw:=below_alloc w (.cells #[.int .i64 x.K,.int .i64 x.N,.slice lo x.av.length cap] 26);generalize x.K=K at *;generalize x.N=N at *;generalize x.av.length=a at *
 go_enter Tryz.func24,Tryz.ntmps24;go_wp2_with fail;refine(H.out _ bw).mono ?_;rintro e w1 ⟨bo,n,bc,rfl,hb⟩;replace bw:=bg bw hb;go_wp2;go_ret;exact⟨rfl,bw⟩
theorem rsize_g(lo:Option Addr)(cap:Nat)(x:TR)(w:World)(h:TI w lo cap x)(CK:Qz w 24 #[.agg #[.int .i64 x.K,.int .i64 x.N,.slice lo x.av.length cap]] (.bool (tOk x))):
  Qq 17 #[.agg #[.int .i64 x.K,.int .i64 x.N,.slice lo x.av.length cap]] w (.int .i64 (tZ x)):=by
 have CK:=Hid.mkt CK;have bx:=Cel.new w [.int .i64 x.K,.int .i64 x.N,.slice lo x.av.length cap] 26;have bw:=below_alloc w (.cells #[.int .i64 x.K,.int .i64 x.N,.slice lo x.av.length cap] 26);cases ok:tOk x with
 | false=>
  rw[ok]at CK;have r1:tZ x=0:=by unfold tZ;rw[ok];rfl
  rw[r1];clear h ok r1;generalize x.N=N at *;generalize x.K=K at *;generalize x.av.length=m at *;go_enter Tryz.func17,Tryz.ntmps17;go_wp2_with fail;refine mr (CK.out _ bw) fun w1 hb=>?_
  replace bw:=bg bw hb;clear hb bx;go_wp2;go_ret;exact⟨rfl,bw⟩
 | true=>
  have ht:=tt_of x ok;rw[ok]at CK;have r1:tZ x=sz x 8:=by unfold tZ;rw[ok];rfl
  obtain⟨Z,hZ⟩:∃Z,Hid (Z=sz x 8):=⟨_,rfl⟩;rw[r1,←hZ.out];obtain⟨b,off,rfl,hbl,_⟩:=h.l (by rw[ht.e];decide);have HTI:=Hid.mkt h;have HT:=Hid.mkt ht
  have CO:Hid (∀q,q<8→∃cs:List Value,w.rangeAt b (off+q*22) cs∧(Tryz.prog.info? 45).map (·.size)=some cs.length∧Qz w 43 #[.agg cs.toArray] (.int .i64 (kZ (lw x q)))):=fun q hq=>by
   obtain⟨cs,h1,h2,h3⟩:=row_at HTI.out HT.out q hq;exact⟨cs,h1,h3,fun w0 hb=>v10size_k cs (lw x q) w0 (h2.keep hb)⟩
  rw[ht.e]at bx bw CK⊢;clear h ht r1 ok;generalize x.K=K at *;generalize x.N=N at *;go_enter Tryz.func17,Tryz.ntmps17;go_wp2_with fail;refine mr (CK.out _ bw) fun w1 hb=>?_
  replace bw:=bg bw hb;replace bx:=bx.kept hb;clear hb CK;go_wp2
  go_loopw [4,3] (fun s v wr=>∃q:Nat,q≤8∧s=.int .i64 q∧v=.int .i64 (sz x q)∧Cel wr w.heap.size [.int .i64 K,.int .i64 N,.slice (some ⟨b,off,none⟩) 8 cap] 26∧Below w.heap.size w wr) (fun s _ _=>8-(intOf s).toNat)
  case atStart=>exact⟨0,Nat.zero_le _,rfl,rfl,bx,bw⟩
  case round=>
   obtain⟨q,hq,rfl,rfl,hx,hb⟩:=hrel;clear bx bw;have x2:=hx.cell 2 rfl;by_cases hi:q<8
   ·have hi2:(q:Int)<8:=by omega
    obtain⟨cs,rg,HL,C⟩:=CO.out q hi;have HL:=Hid.mkt HL;have C:=Hid.mkt C;have rg2:=range_keep rg hb hbl;have E:Hid (wrap64 (sz x q+kZ (lw x q))=sz x (q+1)):=rfl;generalize kZ (lw x q)=Y at *
    generalize sz x q=X at *;go_wp2_with (refine load_part b (off+q*22) cs (by rfl) rfl rg2 Tryz.underlying45 HL.out ?_);refine mr (C.out _ hb) fun w2 hb2=>?_;replace hx:=hx.kept hb2
    replace hb:=bg hb hb2;have HF:=Hid.mkt (And.intro hx hb);clear hx hb hb2 rg rg2 x2 CO;go_wp2;refine⟨⟨q+1,by omega,by go_num,?_,HF.out⟩,by simp only[intOf];omega⟩;rw[←E.out]
   ·obtain rfl:q=8:=by omega
    clear CO;rw[←hZ.out];go_wp2;go_ret;exact⟨rfl,hb⟩
def WH(w:World)(lo:Option Addr)(cap:Nat)(x:TR):Prop:=∀w0,Below w.heap.size w w0→Calls Tryz.prog 45 #[.agg #[.int .i64 x.K,.int .i64 x.N,.slice lo x.av.length cap]] w0 fun e w'=>∃bo bc,e=.returned (.tuple #[.slice bo (tTx x).length bc,.bool (tOk x)])∧Bd w' bo (tTx x)∧Below w0.heap.size w0 w'
theorem TI.wh{w:World}{lo:Option Addr}{cap:Nat}{x:TR}(h:TI w lo cap x)(hl:x.av.length≤20)(hN:x.N≤600):WH w lo cap x:=fun w0 hb=>rwhole_t lo cap x w0 (h.keep hb) hl hN
theorem rcheck_x{lo:Option Addr}{cap:Nat}{x:TR}{w:World}(h:WH w lo cap x):
  Qq 24 #[.agg #[.int .i64 x.K,.int .i64 x.N,.slice lo x.av.length cap]] w (.bool (tOk x)):=by
 refine rcheck_g x lo cap (tOk x) w fun w0 hb=>(h w0 hb).mono ?_;rintro e w' ⟨bo,bc,rfl,_,g⟩;exact⟨_,_,_,rfl,g⟩
theorem rtext_x{lo:Option Addr}{cap:Nat}{x:TR}{w:World}(h:WH w lo cap x):
  Calls Tryz.prog 26 #[.agg #[.int .i64 x.K,.int .i64 x.N,.slice lo x.av.length cap]] w fun e w'=>∃bo bc,e=.returned (.slice bo (tTx x).length bc)∧Bd w' bo (tTx x)∧Below w.heap.size w w':=by
 have H:=Hid.mkt h;have bw:=below_alloc w (.cells #[.int .i64 x.K,.int .i64 x.N,.slice lo x.av.length cap] 26);unfold WH at H;clear h;generalize tTx x=t at *;generalize tOk x=ok at *;generalize x.K=K at *
 generalize x.N=N at *;generalize x.av.length=m at *;go_enter Tryz.func26,Tryz.ntmps26;go_wp2_with fail;refine(H.out _ bw).mono ?_;rintro e w1 ⟨bo,bc,rfl,hd,hb⟩;replace bw:=bg bw hb;clear hb H;go_wp2
 go_ret;exact⟨_,_,rfl,hd,bw⟩
theorem raccess_x{lo:Option Addr}{cap:Nat}{x:TR}{w:World}(i:Int)(h:WH w lo cap x)(hI:I64 i):
  Qq 19 #[.agg #[.int .i64 x.K,.int .i64 x.N,.slice lo x.av.length cap],.int .i64 i] w (.tuple #[.int .u8 (taC x i:Nat),.int .i64 (taE x i)]):=by
 have H:=Hid.mkt h;have bw:=below_alloc w (.cells #[.int .i64 x.K,.int .i64 x.N,.slice lo x.av.length cap] 26);unfold WH at H;clear h;cases ok:tOk x with
 | false=>
  rw[(ta_bad i ok).1,(ta_bad i ok).2];rw[ok]at H;generalize tTx x=t at *;clear ok;generalize x.K=K at *;generalize x.N=N at *;generalize x.av.length=m at *;go_enter Tryz.func19,Tryz.ntmps19;go_wp2_with fail
  refine(H.out _ bw).mono ?_;rintro e w1 ⟨bo,bc,rfl,hd,hb⟩;replace bw:=bg bw hb;clear hb H;go_wp2;go_ret2;exact⟨rfl,bw⟩
 | true=>
  have ht:=tt_of x ok;rw[tTx_yes ok,ok]at H;have hn:=ht.n;have hh:=ht.h;have hB:=ht.b;by_cases i0:i<0
  ·rw[(ta_out i ok (.inl i0)).1,(ta_out i ok (.inl i0)).2];clear ok ht hn;generalize txt x=t at *;generalize x.K=K at *;generalize x.N=N at *;generalize x.av.length=m at *;go_enter Tryz.func19,Tryz.ntmps19
   go_wp2_with fail;refine(H.out _ bw).mono ?_;rintro e w1 ⟨bo,bc,rfl,hd,hb⟩;replace bw:=bg bw hb;clear hb H;go_wp2;go_ret2;exact⟨rfl,bw⟩
  by_cases i1:x.N≤i
  ·rw[(ta_out i ok (.inr i1)).1,(ta_out i ok (.inr i1)).2];rw[hn]at i1;clear ok ht hn;generalize txt x=t at *;generalize x.K=K at *;generalize x.N=N at *;generalize x.av.length=m at *
   go_enter Tryz.func19,Tryz.ntmps19;go_wp2_with fail;refine(H.out _ bw).mono ?_;rintro e w1 ⟨bo,bc,rfl,hd,hb⟩;replace bw:=bg bw hb;clear hb H;go_wp2;go_ret2;exact⟨rfl,bw⟩
  obtain⟨i,rfl⟩:=Int.eq_ofNat_of_zero_le (show 0≤i by omega);rw[(ta_in i ok (by omega)).1,(ta_in i ok (by omega)).2];have hi:i<(txt x).length:=by omega
  clear ok ht;generalize txt x=t at *;have j1:¬(t.length:Int)≤(i:Int):=by omega
  have j2:(i:Int)<(t.length:Int):=by omega
  clear i0 i1 hn;generalize x.K=K at *;generalize x.N=N at *;generalize x.av.length=m at *;go_enter Tryz.func19,Tryz.ntmps19;go_wp2_with fail;refine(H.out _ bw).mono ?_;rintro e w1 ⟨bo,bc,rfl,hd,hb⟩
  replace bw:=bg bw hb;clear hb H;obtain⟨b,off,rfl,hbl,hcc⟩:=hd (by omega);have e2:=hcc i hi;clear hcc hd;go_wp2;go_ret2;exact⟨rfl,bw⟩
theorem rrank_x{lo:Option Addr}{cap:Nat}{x:TR}{w:World}(c:Nat)(i:Int)(h:WH w lo cap x)(hc:c<256)(hI:I64 i):
  Qq 20 #[.agg #[.int .i64 x.K,.int .i64 x.N,.slice lo x.av.length cap],.int .u8 c,.int .i64 i] w (.tuple #[.int .i64 (trN x c i),.int .i64 (trE x i)]):=by
 have H:=Hid.mkt h;have bw:=below_alloc w (.cells #[.int .i64 x.K,.int .i64 x.N,.slice lo x.av.length cap] 26);unfold WH at H;clear h;cases ok:tOk x with
 | false=>
  rw[(tr_bad c i ok).1,(tr_bad c i ok).2];rw[ok]at H;generalize tTx x=t at *;clear ok;generalize x.K=K at *;generalize x.N=N at *;generalize x.av.length=m at *;go_enter Tryz.func20,Tryz.ntmps20;go_wp2_with fail
  refine(H.out _ bw).mono ?_;rintro e w1 ⟨bo,bc,rfl,hd,hb⟩;replace bw:=bg bw hb;clear hb H;go_wp2;go_ret2;exact⟨rfl,bw⟩
 | true=>
  have ht:=tt_of x ok;rw[tTx_yes ok,ok]at H;have hn:=ht.n;have hh:=ht.h;have hB:=ht.b;by_cases i0:i<0
  ·rw[(tr_out c i ok (.inl i0)).1,(tr_out c i ok (.inl i0)).2];clear ok ht hn;generalize txt x=t at *;generalize x.K=K at *;generalize x.N=N at *;generalize x.av.length=m at *;go_enter Tryz.func20,Tryz.ntmps20
   go_wp2_with fail;refine(H.out _ bw).mono ?_;rintro e w1 ⟨bo,bc,rfl,hd,hb⟩;replace bw:=bg bw hb;clear hb H;go_wp2;go_ret2;exact⟨rfl,bw⟩
  by_cases i1:x.N<i
  ·rw[(tr_out c i ok (.inr i1)).1,(tr_out c i ok (.inr i1)).2];rw[hn]at i1;clear ok ht hn;generalize txt x=t at *;generalize x.K=K at *;generalize x.N=N at *;generalize x.av.length=m at *
   go_enter Tryz.func20,Tryz.ntmps20;go_wp2_with fail;refine(H.out _ bw).mono ?_;rintro e w1 ⟨bo,bc,rfl,hd,hb⟩;replace bw:=bg bw hb;clear hb H;go_wp2;go_ret2;exact⟨rfl,bw⟩
  obtain⟨i,rfl⟩:=Int.eq_ofNat_of_zero_le (show 0≤i by omega);rw[(tr_in c i ok (by omega)).1,(tr_in c i ok (by omega)).2];have hi:i≤(txt x).length:=by omega
  clear ok ht;generalize txt x=t at *;have j1:¬(t.length:Int)<(i:Int):=by omega
  clear i0 i1 hn;obtain⟨Z,hZ⟩:∃Z,Hid (Z=Tw.cn t c i):=⟨_,rfl⟩;rw[←hZ.out];generalize x.K=K at *;generalize x.N=N at *;generalize x.av.length=m at *;go_enter Tryz.func20,Tryz.ntmps20;go_wp2_with fail
  refine(H.out _ bw).mono ?_;rintro e w1 ⟨bo,bc,rfl,hd,hb⟩;replace bw:=bg bw hb;clear hb H;go_wp2
  go_loopw [11,10] (fun s v wr=>∃q:Nat,q≤i∧s=.int .i64 q∧v=.int .i64 (Tw.cn t c q:Nat)∧wr=w1) (fun s _ _=>i-(intOf s).toNat)
  case atStart=>exact⟨0,Nat.zero_le _,rfl,rfl,rfl⟩
  case round=>
   obtain⟨q,hq,rfl,rfl,rfl⟩:=hrel;by_cases hi2:q<i
   ·obtain⟨b,off,rfl,hbl,hcc⟩:=hd (by omega);have e2:=hcc q (by omega);have j2:(q:Int)<(i:Int):=by omega
    have j3:(q:Int)<(t.length:Int):=by omega
    have cs:=Tw.cn_succ t c q;have cl:=Tw.cn_le t c q;obtain⟨O,hO⟩:∃O,Hid (O=Tw.cn t c (q+1)):=⟨_,rfl⟩;rw[←hO.out]at cs;generalize Tw.cn t c q=X at *;have HW:=Hid.mkt bw;clear hcc hd bw
    by_cases e:gt t q=c
    ·have e3:((gt t q:Int)==(c:Int))=true:=by simp;omega
     rw[if_pos e]at cs;clear e;generalize gt t q=G at *;go_wp2;exact⟨⟨q+1,by omega,by go_num,by rw[←hO.out,cs,Int.natCast_add];go_num,trivial⟩,by simp only[intOf];omega⟩
    ·have e3:((gt t q:Int)==(c:Int))=false:=by simp;omega
     rw[if_neg e,Nat.add_zero]at cs;clear e;generalize gt t q=G at *;go_wp2;exact⟨⟨q+1,by omega,by go_num,by rw[←hO.out,cs],trivial⟩,by simp only[intOf];omega⟩
   ·obtain rfl:q=i:=by omega
    rw[←hZ.out];go_wp2;go_ret2;exact⟨rfl,bw⟩
theorem ts_no{x:TR}(c:Nat)(k:Int)(ok:tOk x=true)(h:∀i,i<(txt x).length→Tw.hr (txt x) c k i=false):tsE x c k=3∧tsX x c k=0:=by
 unfold tsE tsX;rw[ok,Tw.sel_none _ _ _ h];exact⟨rfl,rfl⟩
theorem rselect_x{lo:Option Addr}{cap:Nat}{x:TR}{w:World}(c:Nat)(k:Int)(h:WH w lo cap x)(hc:c<256)(hI:I64 k):
  Qq 22 #[.agg #[.int .i64 x.K,.int .i64 x.N,.slice lo x.av.length cap],.int .u8 c,.int .i64 k] w (.tuple #[.int .i64 (tsX x c k),.int .i64 (tsE x c k)]):=by
 have H:=Hid.mkt h;have bw:=below_alloc w (.cells #[.int .i64 x.K,.int .i64 x.N,.slice lo x.av.length cap] 26);unfold WH at H;clear h;cases ok:tOk x with
 | false=>
  rw[(ts_bad c k ok).1,(ts_bad c k ok).2];rw[ok]at H;generalize tTx x=t at *;clear ok;generalize x.K=K at *;generalize x.N=N at *;generalize x.av.length=m at *;go_enter Tryz.func22,Tryz.ntmps22;go_wp2_with fail
  refine(H.out _ bw).mono ?_;rintro e w1 ⟨bo,bc,rfl,hd,hb⟩;replace bw:=bg bw hb;clear hb H;go_wp2;go_ret2;exact⟨rfl,bw⟩
 | true=>
  have ht:=tt_of x ok;rw[tTx_yes ok,ok]at H;have hn:=ht.n;have hh:=ht.h;have hB:=ht.b;have NO:Hid ((∀i,i<(txt x).length→Tw.hr (txt x) c k i=false)→tsE x c k=3∧tsX x c k=0):=ts_no c k ok
  have YE:Hid (∀i,i<(txt x).length→gt (txt x) i=c→(Tw.cn (txt x) c i:Int)=k→tsE x c k=0∧tsX x c k=(i:Int)):=fun i h1 h2 h3=>by subst h3;exact ts_in c _ i ok h1 h2 rfl
  generalize tsE x c k=E at *;generalize tsX x c k=X at *;clear ok ht hn;generalize txt x=t at *;generalize x.K=K at *;generalize x.N=N at *;generalize x.av.length=m at *;go_enter Tryz.func22,Tryz.ntmps22
  go_wp2_with fail;refine(H.out _ bw).mono ?_;rintro e w1 ⟨bo,bc,rfl,hd,hb⟩;replace bw:=bg bw hb;clear hb H;go_wp2
  go_loopw [11,10] (fun s v wr=>∃q:Nat,q≤t.length∧s=.int .i64 q∧v=.int .i64 (Tw.cn t c q:Nat)∧Hid (∀j,j<q→Tw.hr t c k j=false)∧wr=w1) (fun s _ _=>t.length-(intOf s).toNat)
  case atStart=>exact⟨0,Nat.zero_le _,rfl,rfl,fun j hj=>absurd hj (by omega),rfl⟩
  case round=>
   obtain⟨q,hq,rfl,rfl,HJ,rfl⟩:=hrel;by_cases hi2:q<t.length
   ·obtain⟨b,off,rfl,hbl,hcc⟩:=hd (by omega);have e2:=hcc q hi2;have j2:(q:Int)<(t.length:Int):=by omega
    have cs:=Tw.cn_succ t c q;have cl:=Tw.cn_le t c q;have YQ:=Hid.mkt (YE.out q hi2)
    have NQ:Hid (¬(gt t q=c∧(Tw.cn t c q:Int)=k)→∀j,j<q+1→Tw.hr t c k j=false):=fun h j hj=>by
     by_cases e:j=q
     ·subst e;refine Bool.eq_false_iff.2 fun z=>h ?_;unfold Tw.hr at z;simpa using z
     ·exact HJ.out j (by omega)
    obtain⟨O,hO⟩:∃O,Hid (O=Tw.cn t c (q+1)):=⟨_,rfl⟩;rw[←hO.out]at cs;generalize Tw.cn t c q=Y at *;clear hcc hd HJ NO YE;by_cases e:gt t q=c
    ·have e3:((gt t q:Int) != (c:Int))=false:=by simp;omega
     rw[if_pos e]at cs;by_cases e4:(Y:Int)=k
     ·obtain⟨rfl,rfl⟩:=YQ.out e e4;have e5:((Y:Int)==k)=true:=by simp[e4]
      clear e NQ YQ;generalize gt t q=G at *;go_wp2;go_ret2;exact⟨rfl,bw⟩
     ·have e5:((Y:Int)==k)=false:=by simp[e4]
      have HW:=Hid.mkt bw;have NN:=Hid.mkt (NQ.out fun z=>e4 z.2);clear e NQ YQ e4 bw;generalize gt t q=G at *;go_wp2
      exact⟨⟨q+1,by omega,by go_num,by rw[←hO.out,cs,Int.natCast_add];go_num,NN,trivial⟩,by simp only[intOf];omega⟩
    ·have e3:((gt t q:Int) != (c:Int))=true:=by simp;omega
     rw[if_neg e,Nat.add_zero]at cs;have NN:=Hid.mkt (NQ.out fun z=>e z.1);have HW:=Hid.mkt bw;clear e NQ YQ bw;generalize gt t q=G at *;go_wp2
     exact⟨⟨q+1,by omega,by go_num,by rw[←hO.out,cs],NN,trivial⟩,by simp only[intOf];omega⟩
   ·obtain rfl:q=t.length:=by omega
    obtain⟨rfl,rfl⟩:=NO.out HJ.out;go_wp2;go_ret2;exact⟨rfl,bw⟩
end Go.Proofs.YtfnkklkdajlhlaaGreatDoor
