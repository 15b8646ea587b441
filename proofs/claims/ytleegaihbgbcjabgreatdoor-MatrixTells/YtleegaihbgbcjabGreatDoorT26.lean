import Derived.Test.YtleegaihbgbcjabGreatDoorT25
set_option linter.unusedVariables false
set_option linter.unusedSimpArgs false
set_option maxRecDepth 100000
set_option maxHeartbeats 16000000
open Go.Proofs.Tryz
namespace Go.Proofs.YtleegaihbgbcjabGreatDoor
open Go.RowKit Num Bit
theorem Ga(aN aW aM:Int)(ao:Option Addr)(ax:List Nat)(ac:Nat)(bN bW bM:Int)(bo:Option Addr)(bx:List Nat)(bc:Nat)(w:World)(hx:Wd w ao ax)(hy:Wd w bo bx)(hl:ax.length<=1048576):
  Qq 166 #[.agg #[.int .i64 aN,.int .i64 aW,.int .i64 aM,.slice ao ax.length ac],.agg #[.int .i64 bN,.int .i64 bW,.int .i64 bM,.slice bo bx.length bc]] w (.bool (decide (aN=bN)&&(decide (aW=bW)&&(decide (aM=bM)&&decide (ax=bx))))):=by
 obtain⟨W,hW⟩:∃W,W=(w.alloc (.cells #[.int .i64 aN,.int .i64 aW,.int .i64 aM,.slice ao ax.length ac] 57)).alloc (.cells #[.int .i64 bN,.int .i64 bW,.int .i64 bM,.slice bo bx.length bc] 57):=⟨_,rfl⟩
 have bZ:Below w.heap.size w W:=by rw[hW];exact(below_alloc w _).alloc (by simp) _
 have B1:=dj hW;have B2:=cQ hW
 have C1:Hid (∀w0,w0=W->Qq 165 #[.agg #[.int .i64 aM,.slice ao ax.length ac],.agg #[.int .i64 bM,.slice bo bx.length bc]] w0 (.bool (decide (aM=bM)&&decide (ax=bx)))):=fun w0 h=>by subst h;exact mC aM ao ax ac bM bo bx bc w0 (hx.keep bZ) (hy.keep bZ) hl
 generalize (decide (aM=bM)&&decide (ax=bx))=z at *;by_cases h1:aN=bN
 .by_cases h2:aW=bW
  .rw[decide_eq_true h1,decide_eq_true h2];subst h1 h2;go_enter func166,ntmps166;go_wp2_with fail;rw[<-hW];refine mr (C1.out _ rfl) fun w1 hb=>?_;have bw:=bg bZ hb;go_wp2;go_ret
   exact⟨by cases z<;>rfl,bw⟩
  .rw[decide_eq_true h1,decide_eq_false h2];have e2:(aW==bW)=false:=by simpa using h2
   subst h1
   have bw:Below w.heap.size w ((w.alloc (.cells #[.int .i64 aN,.int .i64 aW,.int .i64 aM,.slice ao ax.length ac] 57)).alloc (.cells #[.int .i64 aN,.int .i64 bW,.int .i64 bM,.slice bo bx.length bc] 57)):=(below_alloc w _).alloc (by simp) _
   clear C1 B1 B2 bZ hW W;go_enter func166,ntmps166;go_wp2;go_ret;exact⟨rfl,bw⟩
 .rw[decide_eq_false h1];have e1:(aN==bN)=false:=by simpa using h1
  have bw:Below w.heap.size w ((w.alloc (.cells #[.int .i64 aN,.int .i64 aW,.int .i64 aM,.slice ao ax.length ac] 57)).alloc (.cells #[.int .i64 bN,.int .i64 bW,.int .i64 bM,.slice bo bx.length bc] 57)):=(below_alloc w _).alloc (by simp) _
  clear C1 B1 B2 bZ hW W;go_enter func166,ntmps166;go_wp2;go_ret;exact⟨rfl,bw⟩
theorem xd(aN aM ak aV aL:Int)(ao:Option Addr)(ax:List Nat)(ac:Nat)(aH:Int)(aq:Option Addr)(ay:List Nat)(ad:Nat)(bN bM bk bV bL:Int)(bo:Option Addr)(bx:List Nat)(bc:Nat)(bH:Int)(bq:Option Addr)(by_:List Nat)(bd:Nat)(w:World)(hx:Wd w ao ax)(hbx:Wd w bo bx)(hy:Wd w aq ay)(hby:Wd w bq by_)(hl:ax.length<=1048576)(hly:ay.length<=1048576):
  Qq 116 #[.agg #[.int .i64 aN,.int .i64 aM,.int .i64 ak,.int .i64 aV,.int .i64 aL,.slice ao ax.length ac,.int .i64 aH,.slice aq ay.length ad],.agg #[.int .i64 bN,.int .i64 bM,.int .i64 bk,.int .i64 bV,.int .i64 bL,.slice bo bx.length bc,.int .i64 bH,.slice bq by_.length bd]] w (.bool (decide (aN=bN)&&(decide (aM=bM)&&((decide (ak=bk)&&(decide (aV=bV)&&(decide (aL=bL)&&decide (ax=bx))))&&(decide (aH=bH)&&decide (ay=by_)))))):=by
 obtain⟨W,hW⟩:∃W,W=(w.alloc (.cells #[.int .i64 aN,.int .i64 aM,.int .i64 ak,.int .i64 aV,.int .i64 aL,.slice ao ax.length ac,.int .i64 aH,.slice aq ay.length ad] 61)).alloc (.cells #[.int .i64 bN,.int .i64 bM,.int .i64 bk,.int .i64 bV,.int .i64 bL,.slice bo bx.length bc,.int .i64 bH,.slice bq by_.length bd] 61):=⟨_,rfl⟩
 have bZ:Below w.heap.size w W:=by rw[hW];exact(below_alloc w _).alloc (by simp) _
 have B1:=dj hW;have B2:=cQ hW
 have C1:Hid (∀w0,w0=W->Qq 166 #[.agg #[.int .i64 ak,.int .i64 aV,.int .i64 aL,.slice ao ax.length ac],.agg #[.int .i64 bk,.int .i64 bV,.int .i64 bL,.slice bo bx.length bc]] w0 (.bool (decide (ak=bk)&&(decide (aV=bV)&&(decide (aL=bL)&&decide (ax=bx)))))):=fun w0 h=>by subst h;exact Ga ak aV aL ao ax ac bk bV bL bo bx bc w0 (hx.keep bZ) (hbx.keep bZ) hl
 have C2:Hid (Qz w 165 #[.agg #[.int .i64 aH,.slice aq ay.length ad],.agg #[.int .i64 bH,.slice bq by_.length bd]] (.bool (decide (aH=bH)&&decide (ay=by_)))):=fun w0 h=>mC aH aq ay ad bH bq by_ bd w0 (hy.keep h) (hby.keep h) hly
 generalize (decide (ak=bk)&&(decide (aV=bV)&&(decide (aL=bL)&&decide (ax=bx))))=z1 at *;generalize (decide (aH=bH)&&decide (ay=by_))=z2 at *;clear hx hbx hy hby;by_cases h1:aN=bN
 .have e1:(aN==bN)=true:=by simpa using h1
  by_cases h2:aM=bM
  .have e2:(aM==bM)=true:=by simpa using h2
   rw[decide_eq_true h1,decide_eq_true h2];clear h1 h2;go_enter func116,ntmps116;go_wp2_with fail;rw[<-hW];refine mr (C1.out _ rfl) fun w1 hb=>?_;have bw:=bg bZ hb
   replace B1:=B1.kept hb;replace B2:=B2.kept hb;have p6:=B1.cell 6 rfl;have p7:=B1.cell 7 rfl;have q6:=B2.cell 6 rfl;have q7:=B2.cell 7 rfl;clear hb bZ hW C1;cases z1 with
   | false=>
    go_wp2;go_ret;exact⟨rfl,bw⟩
   | true=>
    go_wp2_with fail;refine mr (C2.out _ bw) fun w2 hb=>?_;have bw2:=bg bw hb;clear hb;go_wp2;go_ret;exact⟨by cases z2<;>rfl,bw2⟩
  .have e2:(aM==bM)=false:=by simpa using h2
   rw[decide_eq_false h2];clear C1 C2 B1 B2 h1 h2;go_enter func116,ntmps116;go_wp2;go_ret;rw[<-hW];exact⟨by simp,bZ⟩
 .have e1:(aN==bN)=false:=by simpa using h1
  rw[decide_eq_false h1];clear C1 C2 B1 B2 h1;go_enter func116,ntmps116;go_wp2;go_ret;rw[<-hW];exact⟨by simp,bZ⟩
theorem As(N M k V LM:Int)(ao:Option Addr)(xs:List Nat)(cap:Nat)(H:Int)(qo:Option Addr)(ys:List Nat)(dap:Nat)(w:World)(hx:Wd w ao xs)(fx:aA xs)(hy:Wd w qo ys)(fy:aA ys):
  Calls prog 191 #[.agg #[.int .i64 N,.int .i64 M,.int .i64 k,.int .i64 V,.int .i64 LM,.slice ao xs.length cap,.int .i64 H,.slice qo ys.length dap]] w (iI (dC ⟨N,M,k,V,LM,xs,H,ys⟩) w):=by
 by_cases P:(0<=N/\N<=1048576/\0<=M/\M<=N)/\aQ k V LM xs=true/\az H ys=true
 .obtain⟨⟨p1,p2,p3,p4⟩,p5,p6⟩:=P;obtain⟨v1,v2,v3,v4,v5,v6,v7,v8⟩:=dZ _ _ _ _ p5;obtain⟨u1,u2,u3,u4⟩:=bp _ _ p6;obtain⟨n,rfl⟩:=Int.eq_ofNat_of_zero_le p1
  obtain⟨mm,rfl⟩:=Int.eq_ofNat_of_zero_le p3;obtain⟨kn,rfl⟩:=Int.eq_ofNat_of_zero_le v3;obtain⟨vn,rfl⟩:=Int.eq_ofNat_of_zero_le (show 0<=V by omega);obtain⟨hh,rfl⟩:=Int.eq_ofNat_of_zero_le u1
  exact Ar n mm kn vn hh LM ao xs cap qo ys dap w hx fx hy fy (by omega) (by omega) p5 p6
 .rw[Hy ⟨N,M,k,V,LM,xs,H,ys⟩ (fun h=>P ⟨h.1,h.2.1,h.2.2.1⟩)];exact At N M k V LM H ao xs cap qo ys dap w hx fx hy fy P
def ss(N:Int)(X:List Nat)(S:Bool)(w:World)(e:Ending)(w':World):Prop:=∃bo bc,e=.returned (.tuple #[.agg #[.int .i64 N,.slice bo X.length bc],.bool S])/\Wd w' bo X/\X.length<=bc/\Below w.heap.size w w'
theorem Hx(a:FA)(l:List Nat)(h:dC a=some l):0<=a.N/\br l a.N.toNat:=by
 unfold dC at h;simp only at h;split at h
 .rename_i c;exact⟨c.1.1,(mg _ _ _ _ _ _ h).2⟩
 .cases h
theorem H0(N M k V LM:Int)(ao:Option Addr)(xs:List Nat)(cap:Nat)(H:Int)(qo:Option Addr)(ys:List Nat)(dap:Nat)(w:World)(RC:Hid (Qz w 191 #[.agg #[.int .i64 N,.int .i64 M,.int .i64 k,.int .i64 V,.int .i64 LM,.slice ao xs.length cap,.int .i64 H,.slice qo ys.length dap]] (.tuple #[.slice none 0 0,.bool false]))):
  Qq 170 #[.agg #[.int .i64 N,.int .i64 M,.int .i64 k,.int .i64 V,.int .i64 LM,.slice ao xs.length cap,.int .i64 H,.slice qo ys.length dap]] w (.tuple #[.agg #[.int .i64 0,.slice none 0 0],.bool false]):=by
 obtain⟨W,hW⟩:∃W,W=(w.alloc (.cells #[.int .i64 N,.int .i64 M,.int .i64 k,.int .i64 V,.int .i64 LM,.slice ao xs.length cap,.int .i64 H,.slice qo ys.length dap] 61)).alloc (.cells #[.int .i64 0,.slice none 0 0] 53):=⟨_,rfl⟩
 have bW:=cZ hW;have B1:=dj hW;have B2:=cQ hW;go_enter func170,ntmps170;go_wp2_with fail;rw[<-hW];refine mr (RC.out _ bW) fun w1 hb=>?_;have bw1:=bg bW hb
 replace B2:=B2.kept hb;clear hb bW hW RC B1;go_wp2_with (refine aJ (w.heap.size+1) [.int .i64 0,.slice none 0 0] [.int .i64 0,.slice none 0 0] rfl rfl B2 rfl jr (by simp[Value.oneCell']) ?_);intro w3 B3 O3
 have HZ:=gU (And.intro B3 (bw1.trans (O3.below (Nat.le_succ _))));clear B3 O3 B2;go_wp2
 (try simp only[Exit.inBlock,Exit.then]);exact bodyPost_ret (bj rfl (w.heap.size+1) _ rfl HZ.out.1 underlying53 jr) rfl ⟨rfl,HZ.out.2⟩
theorem Hz(n:Nat)(M k V LM:Int)(ao:Option Addr)(xs:List Nat)(cap:Nat)(H:Int)(qo:Option Addr)(ys:List Nat)(dap:Nat)(l:List Nat)(w:World)(hn:n<=3000)(hr:br l n)(y1 y2 y3 y4 y5 y7:Int)(y6 y8:Nat)(S:Bool)
  (RC:Hid (∀w0,Below w.heap.size w w0->Calls prog 191 #[.agg #[.int .i64 (n:Nat),.int .i64 M,.int .i64 k,.int .i64 V,.int .i64 LM,.slice ao xs.length cap,.int .i64 H,.slice qo ys.length dap]] w0 fun e w'=>∃so sc,e=.returned (.tuple #[.slice so l.length sc,.bool true])/\Nd w' so (lz l)/\l.length<=sc/\Below w0.heap.size w0 w'))
  (YP:World->Option Addr->Nat->Option Addr->Nat->Prop) (yk:∀w1 w2 yo yc zo zc,YP w1 yo yc zo zc->Below w1.heap.size w1 w2->YP w2 yo yc zo zc)
  (OC:Hid (∀w0 so sc,Nd w0 so (lz l)->Calls prog 111 #[.int .i64 (n:Nat),.slice so l.length sc] w0 fun e w'=>∃yo yc zo zc,e=.returned (.tuple #[.agg #[.int .i64 y1,.int .i64 y2,.int .i64 y3,.int .i64 y4,.int .i64 y5,.slice yo y6 yc,.int .i64 y7,.slice zo y8 zc],.int .i64 0])/\YP w' yo yc zo zc/\Below w0.heap.size w0 w'))
  (SC:Hid (∀w0 yo yc zo zc,Below w.heap.size w w0->YP w0 yo yc zo zc->Qq 116 #[.agg #[.int .i64 (n:Nat),.int .i64 M,.int .i64 k,.int .i64 V,.int .i64 LM,.slice ao xs.length cap,.int .i64 H,.slice qo ys.length dap],.agg #[.int .i64 y1,.int .i64 y2,.int .i64 y3,.int .i64 y4,.int .i64 y5,.slice yo y6 yc,.int .i64 y7,.slice zo y8 zc]] w0 (.bool S))):
  Calls prog 170 #[.agg #[.int .i64 (n:Nat),.int .i64 M,.int .i64 k,.int .i64 V,.int .i64 LM,.slice ao xs.length cap,.int .i64 H,.slice qo ys.length dap]] w (ss (if S=true then (n:Int)else 0) (if S=true then rowOf n (isIn l)else []) S w):=by
 obtain⟨i4,hi4,za4,zb4,zc4⟩:=info_parts vV
 obtain⟨W,hW⟩:∃W,W=(w.alloc (.cells #[.int .i64 (n:Nat),.int .i64 M,.int .i64 k,.int .i64 V,.int .i64 LM,.slice ao xs.length cap,.int .i64 H,.slice qo ys.length dap] 61)).alloc (.cells #[.int .i64 0,.slice none 0 0] 53):=⟨_,rfl⟩
 have bW:=cZ hW;have B1:=dj hW;have B2:=cQ hW;cases S with
 | false=>
  go_enter func170,ntmps170;go_wp2_with fail;rw[<-hW];refine(RC.out _ bW).mono ?_;rintro e w1 ⟨so,sc,rfl,hN,hsc,hb⟩;have bw1:=bg bW hb;replace B1:=B1.kept hb;replace B2:=B2.kept hb
  have q0:=B1.cell 0 rfl;clear hb bW hW RC;go_wp2_with fail;refine(OC.out _ _ _ hN).mono ?_;rintro e w2 ⟨yo,yc,zo,zc,rfl,hY,hb⟩;have bw2:=bg bw1 hb;replace B1:=B1.kept hb;replace B2:=B2.kept hb
  clear hb OC bw1 q0;have bA:=below_alloc w2 (.cells #[.int .i64 y1,.int .i64 y2,.int .i64 y3,.int .i64 y4,.int .i64 y5,.slice yo y6 yc,.int .i64 y7,.slice zo y8 zc] 61)
  have D6:=aa.new w2 [.int .i64 y1,.int .i64 y2,.int .i64 y3,.int .i64 y4,.int .i64 y5,.slice yo y6 yc,.int .i64 y7,.slice zo y8 zc] 61;have E1:=B1.kept bA;have E2:=B2.kept bA;have hY2:=yk _ _ _ _ _ _ hY bA
  have bw3:=bg bw2 bA;clear B1 B2 hY bA
  go_wp2_with (first | refine bE w.heap.size _ (by rfl) rfl E1 underlying61 gq ?_ | refine bE w2.heap.size _ (by rfl) rfl D6 underlying61 gq ?_);refine mr (SC.out _ _ _ _ _ bw3 hY2) fun w4 hb=>?_;have bw4:=bg bw3 hb;replace E2:=E2.kept hb;clear hb SC D6 E1 hY2 bw3
  go_wp2_with (refine aJ (w.heap.size+1) [.int .i64 0,.slice none 0 0] [.int .i64 0,.slice none 0 0] rfl rfl E2 rfl jr (by simp[Value.oneCell']) ?_);intro w5 B3 O3
  have HZ:=gU (And.intro B3 (bw4.trans (O3.below (Nat.le_succ _))));clear B3 O3 E2;go_wp2
  (try simp only[Exit.inBlock,Exit.then]);exact bodyPost_ret (bj rfl (w.heap.size+1) _ rfl HZ.out.1 underlying53 jr) rfl (show ss 0 [] false w _ _ from⟨none,0,rfl,cE _ _,Nat.zero_le _,HZ.out.2⟩)
 | true=>
  have FR:Hid (∀(w0:World) (g:Nat),aa w0 g (dO n (isIn l)) 4->Calls prog 33 #[.slice (some ⟨g,0,none⟩) n n] w0 fun e w'=>∃g',e=.returned (.tuple #[.agg #[.int .i64 (n:Nat),.slice (some ⟨g',0,none⟩) (rowOf n (isIn l)).length (rowOf n (isIn l)).length],.int .i64 0])/\w0.heap.size<=g'/\Own w' g' (rowOf n (isIn l))/\Below w0.heap.size w0 w'):=fun w0 g h=>by
   have hlen:(fY n (isIn l)).length=n:=by simp[fY]
   have h3:=lh (some ⟨g,0,none⟩) (fY n (isIn l)) n _ w0 (xG h) (by rw[hlen];omega) rfl;rw[mc]at h3
   have e6:aC (fY n (isIn l))=rowOf n (isIn l):=by
    unfold aC;rw[hlen];refine da n _ _ fun i hi=>?_;unfold bt fY;rw[List.getD_eq_getElem?_getD,List.getElem?_map,List.getElem?_range hi];rfl
   have e5:(rowOf n (isIn l)).length=(n+63)/64:=cM _ _;rw[hlen,e6]at h3;rw[e5];exact h3
  generalize hYY:rowOf n (isIn l)=YY at *;clear hYY;go_enter func170,ntmps170;go_wp2_with fail;rw[<-hW];refine(RC.out _ bW).mono ?_;rintro e w1 ⟨so,sc,rfl,hN,hsc,hb⟩;have bw1:=bg bW hb
  replace B1:=B1.kept hb;replace B2:=B2.kept hb;have q0:=B1.cell 0 rfl;clear hb bW hW RC;go_wp2_with fail;refine(OC.out _ _ _ hN).mono ?_;rintro e w2 ⟨yo,yc,zo,zc,rfl,hY,hb⟩;have bw2:=bg bw1 hb
  replace B1:=B1.kept hb;replace B2:=B2.kept hb;replace hN:=Nd.keep hN hb;clear hb OC bw1 q0
  have bA:=below_alloc w2 (.cells #[.int .i64 y1,.int .i64 y2,.int .i64 y3,.int .i64 y4,.int .i64 y5,.slice yo y6 yc,.int .i64 y7,.slice zo y8 zc] 61)
  have D6:=aa.new w2 [.int .i64 y1,.int .i64 y2,.int .i64 y3,.int .i64 y4,.int .i64 y5,.slice yo y6 yc,.int .i64 y7,.slice zo y8 zc] 61;have E1:=B1.kept bA;have E2:=B2.kept bA;have hY2:=yk _ _ _ _ _ _ hY bA
  have bw3:=bg bw2 bA;replace hN:=Nd.keep hN bA;clear B1 B2 hY bA
  go_wp2_with (first | refine bE w.heap.size _ (by rfl) rfl E1 underlying61 gq ?_ | refine bE w2.heap.size _ (by rfl) rfl D6 underlying61 gq ?_);refine mr (SC.out _ _ _ _ _ bw3 hY2) fun w4 hb=>?_;have bw4:=bg bw3 hb;replace E1:=E1.kept hb;replace E2:=E2.kept hb;replace hN:=Nd.keep hN hb;clear hb SC D6 hY2 bw3 bw2;have gl:=E2.lt;have q0:=E1.cell 0 rfl
  go_wp2_with (at_make;refine wpList_make_full _ rfl _ _ 73 rfl w4.heap.size 4 i4 (.bool false) 1 underlying73 hi4 za4 zb4 .i64 .i64 _ _ n rfl rfl rfl rfl ?b2 ?b3 ?b4 ?_)
  case b2=>rw[zc4];omega
  case b3=>unfold maxLen;omega
  case b4=>exact Nat.le_refl _
  intro w5 hown hgr;have hB:=xO hown;have bG:Below w4.heap.size w4 w5:=(Below.refl _ _).grown hgr (Nat.le_refl _) (fun k h=>by cases h);replace E2:=E2.kept bG;have bw5:=bg bw4 bG
  have bz:=bw4.size;clear hown hgr bw4 E1 q0
  have hN2:Hid (∀q,q<l.length->∃b off,so=some ⟨b,off,none⟩/\b<w4.heap.size/\w5.cell? ⟨b,off+q,none⟩=some (.int .i64 (gt l q:Nat))):=fun q hq=>by
   obtain⟨b,off,e,hbl,hcel⟩:=hN (by rw[gj];omega);have h1:=hcel q (by rw[gj];exact hq);rw[kI]at h1;exact⟨b,off,e,hbl,(bG.cell (p:=⟨b,off+q,none⟩) hbl).trans h1⟩
  clear hN bG;generalize w4.heap.size=g at *;go_wp2;go_loopw [9] (fun iv wr=>∃q:Nat,q<=l.length/\iv=.int .i64 q/\aa wr g (dO n (isIn (l.take q))) 4/\aB g w5 wr) (fun iv _=>l.length-(intOf iv).toNat)
  case atStart=>exact⟨0,Nat.zero_le _,rfl,by rw[rP n (isIn (l.take 0)) (fun _=>false) (fun i _=>by simp[isIn])];exact hB,aB.refl _ _⟩
  case round=>
   obtain⟨q,hq,rfl,hC,hOn⟩:=hrel;by_cases hlt:q<l.length
   .have hlt2:(q:Int)<(l.length:Int):=by omega
    obtain⟨b,off,rfl,hbl,hc5⟩:=hN2.out q hlt;have cq:wr.cell? ⟨b,off+q,none⟩=some (.int .i64 (gt l q:Nat)):=(World.cell?_of_block (w:=w5) (hOn.block b (by omega))).trans hc5;have xl:=hr.1 q hlt
    have lln:=hr.len;have ql3:q<3000:=by omega
    clear lln;have ST:=gU (oR (l.take q) (gt l q));have TK:=gU (nL l q hlt);have cj:=hC.cell (gt l q) (nq _ _ _ xl);have fj:=hC.frozen (gt l q);have st:=hC.set (gt l q) (.bool true)
    rw[xB]at st
    have HS:Hid (aa (wr.setCell ⟨g,gt l q,none⟩ (.bool true)) g (dO n (isIn (l.take (q+1)))) 4/\aB g w5 (wr.setCell ⟨g,gt l q,none⟩ (.bool true))):=by
     refine⟨?_,hOn.set _ _⟩;rw[TK.out,rP n _ _ (fun i _=>ST.out i)];exact st
    have xl2:(gt l q:Int)<(n:Int):=by omega
    clear st hc5 hC hOn;generalize gt l q=x at *;go_wp2;exact⟨⟨q+1,by omega,by go_num,HS.out.1,HS.out.2⟩,by simp only[intOf];omega⟩
   .obtain rfl:q=l.length:=by omega
    rw[List.take_of_length_le (Nat.le_refl _)]at hC;have F1:=gU (FR.out wr g hC);have E3:=hOn.cel E2 (by omega);have bw6:=bw5.trans (hOn.below (by omega));have e3l:=E3.lt;clear FR hC hOn hB E2 bw5;go_wp2_with fail
    refine F1.out.mono ?_;rintro e w6 ⟨g',rfl,hg',hO,hb⟩;replace E3:=E3.kept hb;have bw7:=bg bw6 hb;clear hb F1
    have bA:=below_alloc w6 (.cells #[.int .i64 (n:Nat),.slice (some ⟨g',0,none⟩) YY.length YY.length] 53);have D7:=aa.new w6 [.int .i64 (n:Nat),.slice (some ⟨g',0,none⟩) YY.length YY.length] 53
    have E4:=E3.kept bA;have hO2:=hO.keep bA;have bw8:=bg bw7 bA;have gx:g'≠w.heap.size+1:=by omega
    clear E3 hO bA bw6 bw7
    go_wp2_with (first | refine fE w6.heap.size _ rfl D7 underlying53 jr ?_ | refine aJ (w.heap.size+1) [.int .i64 0,.slice none 0 0] _ rfl rfl E4 rfl jr (by simp[Value.oneCell']) ?_)
    intro w9 B3 O3;have hO3:Own w9 g' YY:=(O3.block g' gx).trans hO2;have HZ:=gU (And.intro B3 (And.intro hO3 (bw8.trans (O3.below (Nat.le_succ _)))));clear B3 O3 hO2 hO3 D7 E4 bw8;go_wp2
    (try simp only[Exit.inBlock,Exit.then])
    exact bodyPost_ret (bj rfl (w.heap.size+1) _ rfl HZ.out.1 underlying53 jr) rfl (show ss (n:Int) YY true w _ _ from⟨some ⟨g',0,none⟩,YY.length,rfl,HZ.out.2.1.wd,Nat.le_refl _,HZ.out.2.2⟩)
theorem Ic(c0 c1 c2 c3 c4 c5 c6 c7:Value)(ok:Bool)(N:Int)(X:List Nat)(w:World)(hf:aA X)(hck:ok=true->az N X=true)(C1:Hid (∀w0,Below w.heap.size w w0->Calls prog 170 #[.agg #[c0,c1,c2,c3,c4,c5,c6,c7]] w0 fun e w'=>∃bo bc,e=.returned (.tuple #[.agg #[.int .i64 N,.slice bo X.length bc],.bool ok])/\Wd w' bo X/\X.length<=bc/\Below w0.heap.size w0 w')):
  Qq 120 #[.agg #[c0,c1,c2,c3,c4,c5,c6,c7]] w (.bool ok):=by
 obtain⟨W,hW⟩:∃W,W=w.alloc (.cells #[c0,c1,c2,c3,c4,c5,c6,c7] 61):=⟨_,rfl⟩;have bW:=aU hW;go_enter func120,ntmps120;go_wp2_with fail;rw[<-hW];refine(C1.out _ bW).mono ?_
 rintro e w1 ⟨bo,bc,rfl,hx,hbc,hb⟩;have bw1:=bg bW hb;clear hb C1;have bA:=below_alloc w1 (.cells #[.int .i64 N,.slice bo X.length bc] 53);have bw2:=bg bw1 bA;go_wp2;go_ret
 exact⟨rfl,bw2⟩
theorem FJ(a:bF)(h:kOk9 a=true):∃(n mm kn vn hh:Nat) (LM:Int) (xs ys:List Nat),a=⟨n,mm,kn,vn,LM,xs,hh,ys⟩:=by
 obtain⟨_,e⟩:=mU a h;rw[e];exact⟨_,_,_,_,_,_,_,_,rfl⟩
theorem Hv(a b:FA):(decide (a.N=b.N)&&(decide (a.M=b.M)&&((decide (a.k=b.k)&&(decide (a.V=b.V)&&(decide (a.LM=b.LM)&&decide (a.xs=b.xs))))&&(decide (a.H=b.H)&&decide (a.ys=b.ys)))))=mh a b:=by
 unfold mh;simp only[Bool.and_assoc]
theorem w_(cs:List Value)(a:bF)(w:World)(h:bJ w cs a):
  Calls prog 170 #[.agg cs.toArray] w fun e w'=>∃bo bc,e=.returned (.tuple #[.agg #[.int .i64 (kBN9 a),.slice bo (kBX9 a).length bc],.bool (kOk9 a)])/\Wd w' bo (kBX9 a)/\(kBX9 a).length<=bc/\Below w.heap.size w w':=by
 obtain⟨⟨ao,cap,qo,dap,rfl,_,a1,a2,a3,a4,a5,a6⟩,n3,xl,yl⟩:=h;obtain⟨N,M,k,V,LM,xs,H,ys⟩:=a;dsimp only at *
 have RC:=fun(w0:World) (hb:Below w.heap.size w w0)=>As N M k V LM ao xs cap H qo ys dap w0 (a1.keep hb) a2 (a4.keep hb) a5;cases hrow:dC ⟨N,M,k,V,LM,xs,H,ys⟩with
 | none=>
  rw[hrow]at RC;have ok:kOk9 ⟨N,M,k,V,LM,xs,H,ys⟩=false:=by unfold kOk9;rw[hrow]
  have e1:kBN9 ⟨N,M,k,V,LM,xs,H,ys⟩=0:=by unfold kBN9;rw[ok];rfl
  have e2:kBX9 ⟨N,M,k,V,LM,xs,H,ys⟩=[]:=by unfold kBX9;rw[ok];rfl
  rw[ok,e1,e2];refine mr (H0 N M k V LM ao xs cap H qo ys dap w RC) fun w' hb=>?_;exact⟨none,0,rfl,cE _ _,Nat.zero_le _,hb⟩
 | some l=>
  rw[hrow]at RC;obtain⟨n0,hr⟩:=Hx _ l hrow;dsimp only at n0 hr;obtain⟨n,rfl⟩:=Int.eq_ofNat_of_zero_le n0;rw[Int.toNat_natCast]at hr;have hn:n<=3000:=by omega
  have ok:kOk9 ⟨n,M,k,V,LM,xs,H,ys⟩=mh ⟨n,M,k,V,LM,xs,H,ys⟩ (aG n l):=by unfold kOk9;rw[hrow];rfl
  have e0:kRow ⟨n,M,k,V,LM,xs,H,ys⟩=l:=by unfold kRow;rw[hrow];rfl
  have e1:kBN9 ⟨n,M,k,V,LM,xs,H,ys⟩=if kOk9 ⟨n,M,k,V,LM,xs,H,ys⟩=true then (n:Int)else 0:=rfl
  have e2:kBX9 ⟨n,M,k,V,LM,xs,H,ys⟩=if kOk9 ⟨n,M,k,V,LM,xs,H,ys⟩=true then rowOf n (isIn l)else []:=by unfold kBX9;rw[e0];rfl
  rw[e1,e2]
  refine Hz n M k V LM ao xs cap H qo ys dap l w hn hr (aG n l).N (aG n l).M (aG n l).k (aG n l).V (aG n l).LM (aG n l).H (aG n l).xs.length (aG n l).ys.length _ RC (fun w0 yo yc zo zc=>Wd w0 yo (aG n l).xs/\Wd w0 zo (aG n l).ys) (fun w1 w2 yo yc zo zc h hb=>⟨h.1.keep hb,h.2.keep hb⟩) ?_ ?_
  .intro w0 so sc hN;refine(uC n so l sc w0 hN hr hn).mono ?_;rintro e w' ⟨bo,bc,qo',qc,rfl,⟨h1,_,h2,_⟩,hb⟩;exact⟨bo,bc,qo',qc,rfl,⟨h1,h2⟩,hb⟩
  .intro w0 yo yc zo zc hb hY
   have:=xd (n:Int) M k V LM ao xs cap H qo ys dap (aG n l).N (aG n l).M (aG n l).k (aG n l).V (aG n l).LM yo (aG n l).xs yc (aG n l).H zo (aG n l).ys zc w0 (a1.keep hb) hY.1 (a4.keep hb) hY.2 xl yl
   rw[Hv ⟨n,M,k,V,LM,xs,H,ys⟩ (aG n l),<-ok]at this;exact this
theorem Ib(cs:List Value)(a:bF)(w:World)(h:bJ w cs a):
  Qq 120 #[.agg cs.toArray] w (.bool (kOk9 a)):=by
 have W:=fun(w0:World) (hb:Below w.heap.size w w0)=>w_ cs a w0 (h.keep hb);obtain⟨⟨ao,cap,qo,dap,rfl,_⟩,_⟩:=h;exact Ic _ _ _ _ _ _ _ _ (kOk9 a) (kBN9 a) (kBX9 a) w (vM a) (lU a) W
theorem H_(cs:List Value)(a:bF)(w:World)(h:bJ w cs a):
  Qq 73 #[.agg cs.toArray] w (.int .i64 (kZ9 a)):=by
 have C:=fun(w0:World) (hb:Below w.heap.size w w0)=>Ib cs a w0 (h.keep hb);obtain⟨⟨ao,cap,qo,dap,rfl,_⟩,_,_,_⟩:=h;obtain⟨N,M,k,V,LM,xs,H,ys⟩:=a;dsimp only at *
 obtain⟨Z,hZ⟩:∃Z,Hid (Z=kZ9 ⟨N,M,k,V,LM,xs,H,ys⟩):=⟨_,rfl⟩;rw[<-hZ.out]
 obtain⟨W,hW⟩:∃W,W=w.alloc (.cells #[.int .i64 N,.int .i64 M,.int .i64 k,.int .i64 V,.int .i64 LM,.slice ao xs.length cap,.int .i64 H,.slice qo ys.length dap] 61):=⟨_,rfl⟩;have bW:=aU hW;have B1:=bn hW
 have CH:Hid (Qz w 120 #[.agg #[.int .i64 N,.int .i64 M,.int .i64 k,.int .i64 V,.int .i64 LM,.slice ao xs.length cap,.int .i64 H,.slice qo ys.length dap]] (.bool (kOk9 ⟨N,M,k,V,LM,xs,H,ys⟩))):=C
 clear C;cases hk:kOk9 ⟨N,M,k,V,LM,xs,H,ys⟩with
 | false=>
  rw[hk]at CH
  have E:Hid (Z=0):=by
   show Z=0;rw[hZ.out];unfold kZ9;rw[hk];rfl
  clear hk hZ;go_enter func73,ntmps73;go_wp2_with fail;rw[<-hW];refine mr (CH.out _ bW) fun w1 hb=>?_;have bw1:=bg bW hb;clear hW;go_wp2;go_ret;rw[E.out];exact⟨rfl,bw1⟩
 | true=>
  rw[hk]at CH
  have E:Hid (Z=LM+H+64):=by
   show Z=_;rw[hZ.out];unfold kZ9;rw[if_pos hk]
  obtain⟨n,mm,kn,vn,hh,LM',xs',ys',e⟩:=FJ _ hk;simp only[FA.mk.injEq]at e;obtain⟨rfl,rfl,rfl,rfl,rfl,rfl,rfl,rfl⟩:=e;obtain⟨F,_⟩:=ji n mm kn vn hh LM xs ys hk
  obtain⟨_,_,_,_,_,m1,m2,_⟩:=dZ _ _ _ _ F.ik;obtain⟨l1,l2,_,_⟩:=bp _ _ F.ck;clear hk hZ F;go_enter func73,ntmps73;go_wp2_with fail;rw[<-hW];refine mr (CH.out _ bW) fun w1 hb=>?_
  have bw1:=bg bW hb;replace B1:=B1.kept hb;have r4:=B1.cell 4 rfl;have r6:=B1.cell 6 rfl;clear hW hb;go_wp2;go_ret;rw[E.out];exact⟨rfl,bw1⟩
theorem dQ{ops:Array Oper}{d:Option Tmp}{ty T:TypeId}{ps:String}{af:Array Edge}{a:Act}{w:World}{K:Act->World->Prop}{Q:Exit->Act->World->Prop}{E:Prop}{x y:Operand}
  (g:Nat) (old cs:List Value) (hx:a.eval x=.pointer (some ⟨g,0,none⟩)) (hy:a.eval y=.agg cs.toArray) (hc:aa w g old T) (lo:old.length=cs.length) (hi:(prog.info? T).map (·.size)=some cs.length) (h1:cs.toArray.all (·.oneCell')=true)
  (h:∀w1,aa w1 g cs T->aB g w w1->K (a.put d undef) w1):
  if Region.wanted (⟨d,.store T x y,ty,ps,af,none⟩:Oper) (yielded ops a.tmps)=true then Oper.wp prog (⟨d,.store T x y,ty,ps,af,none⟩:Oper) a w K Q else E:=by
 rw[if_pos (by simp[Region.wanted])];exact wp_store_row _ x y rfl g cs.toArray hx hy _ _ hc (by simpa using hi) (by simpa using lo) h1 (h _ (setRow_heap w g _ _ _ _ hc) (aB.row g w _))
theorem Ih(N:Int)(ao:Option Addr)(xs:List Nat)(cap:Nat)(w:World)(hx:Wd w ao xs)(hf:aA xs)(hk:az N xs=false):
  Qq 63 #[.agg #[.int .i64 N,.slice ao xs.length cap]] w (.tuple #[.agg #[.int .i64 0,.int .i64 0,.int .i64 0,.int .i64 0,.int .i64 0,.slice none 0 0,.int .i64 0,.slice none 0 0],.int .i64 2]):=by
 have CC:Hid (Qz w 64 #[.agg #[.int .i64 N,.slice ao xs.length cap]] (.bool false)):=fun w0 hb=>by
  have:=dB N ao xs cap w0 (hx.keep hb) hf;rw[hk]at this;exact this
 obtain⟨W1,hW1⟩:∃W1,W1=(w.alloc (.cells #[.int .i64 N,.slice ao xs.length cap] 53)).alloc (.cells #[.int .i64 0,.int .i64 0,.int .i64 0,.int .i64 0,.int .i64 0,.slice none 0 0,.int .i64 0,.slice none 0 0] 61):=⟨_,rfl⟩
 have b1:Below w.heap.size w W1:=by rw[hW1];exact(below_alloc w _).alloc (by simp) _
 have c1:aa W1 (w.heap.size+1) [.int .i64 0,.int .i64 0,.int .i64 0,.int .i64 0,.int .i64 0,.slice none 0 0,.int .i64 0,.slice none 0 0] 61:=by rw[hW1];exact aa.new2 w _ _ _
 go_enter func63,ntmps63;go_wp2_with fail;rw[<-hW1];clear hW1 hx;refine mr (CC.out _ b1) fun wf hb=>?_;replace b1:=bg b1 hb;replace c1:=c1.kept hb;clear hb CC
 go_wp2_with (refine aJ (w.heap.size+1) [.int .i64 0,.int .i64 0,.int .i64 0,.int .i64 0,.int .i64 0,.slice none 0 0,.int .i64 0,.slice none 0 0] [.int .i64 0,.int .i64 0,.int .i64 0,.int .i64 0,.int .i64 0,.slice none 0 0,.int .i64 0,.slice none 0 0] rfl rfl c1 rfl gq (by simp[Value.oneCell']) ?_)
 intro w3 B3 O3;have HZ:=gU (And.intro B3 (b1.trans (O3.below (Nat.le_succ _))));clear B3 O3 b1 c1;go_wp2
 (try simp only[Exit.inBlock,Exit.then]);exact bodyPost_ret (bj rfl (w.heap.size+1) _ rfl HZ.out.1 underlying61 gq) rfl ⟨rfl,HZ.out.2⟩
theorem Ie(n:Nat)(ao:Option Addr)(xs:List Nat)(cap:Nat)(l:List Nat)(w:World)(y1 y2 y3 y4 y5 y7:Int)(y6 y8:Nat)
  (CC:Hid (Qz w 64 #[.agg #[.int .i64 (n:Nat),.slice ao xs.length cap]] (.bool true)))
  (PC:Hid (∀w0,Below w.heap.size w w0->Calls prog 112 #[.agg #[.int .i64 (n:Nat),.slice ao xs.length cap]] w0 fun e w'=>∃so sc,e=.returned (.slice so l.length sc)/\Nd w' so (lz l)/\Below w0.heap.size w0 w'))
  (YP:World->Option Addr->Nat->Option Addr->Nat->Prop) (yo9:∀w1 w2 yo yc zo zc,YP w1 yo yc zo zc->aB (w.heap.size+1) w1 w2->aa w1 (w.heap.size+1) [.int .i64 0,.int .i64 0,.int .i64 0,.int .i64 0,.int .i64 0,.slice none 0 0,.int .i64 0,.slice none 0 0] 61->YP w2 yo yc zo zc)
  (OC:Hid (∀w0 so sc,Nd w0 so (lz l)->Calls prog 111 #[.int .i64 (n:Nat),.slice so l.length sc] w0 fun e w'=>∃yo yc zo zc,e=.returned (.tuple #[.agg #[.int .i64 y1,.int .i64 y2,.int .i64 y3,.int .i64 y4,.int .i64 y5,.slice yo y6 yc,.int .i64 y7,.slice zo y8 zc],.int .i64 0])/\YP w' yo yc zo zc/\Below w0.heap.size w0 w')):
  Calls prog 63 #[.agg #[.int .i64 (n:Nat),.slice ao xs.length cap]] w fun e w'=>∃yo yc zo zc,e=.returned (.tuple #[.agg #[.int .i64 y1,.int .i64 y2,.int .i64 y3,.int .i64 y4,.int .i64 y5,.slice yo y6 yc,.int .i64 y7,.slice zo y8 zc],.int .i64 0])/\YP w' yo yc zo zc/\Below w.heap.size w w':=by
 obtain⟨W1,hW1⟩:∃W1,W1=(w.alloc (.cells #[.int .i64 (n:Nat),.slice ao xs.length cap] 53)).alloc (.cells #[.int .i64 0,.int .i64 0,.int .i64 0,.int .i64 0,.int .i64 0,.slice none 0 0,.int .i64 0,.slice none 0 0] 61):=⟨_,rfl⟩
 have b1:Below w.heap.size w W1:=by rw[hW1];exact(below_alloc w _).alloc (by simp) _
 have c0:aa W1 w.heap.size [.int .i64 (n:Nat),.slice ao xs.length cap] 53:=by rw[hW1];exact(aa.new w _ _).alloc _
 have c1:aa W1 (w.heap.size+1) [.int .i64 0,.int .i64 0,.int .i64 0,.int .i64 0,.int .i64 0,.slice none 0 0,.int .i64 0,.slice none 0 0] 61:=by rw[hW1];exact aa.new2 w _ _ _
 go_enter func63,ntmps63;go_wp2_with fail;rw[<-hW1];clear hW1;refine mr (CC.out _ b1) fun wf hb=>?_;replace b1:=bg b1 hb;replace c0:=c0.kept hb;replace c1:=c1.kept hb;clear hb CC
 go_wp2_with fail
 refine ba [7] (fun w0=>aa w0 w.heap.size [.int .i64 (n:Nat),.slice ao xs.length cap] 53/\aa w0 (w.heap.size+1) [.int .i64 0,.int .i64 0,.int .i64 0,.int .i64 0,.int .i64 0,.slice none 0 0,.int .i64 0,.slice none 0 0] 61/\Below w.heap.size w w0) (by kernel_rfl) ?_
 have hS:(fun w0:World=>aa w0 w.heap.size [.int .i64 (n:Nat),.slice ao xs.length cap] 53/\aa w0 (w.heap.size+1) [.int .i64 0,.int .i64 0,.int .i64 0,.int .i64 0,.int .i64 0,.slice none 0 0,.int .i64 0,.slice none 0 0] 61/\Below w.heap.size w w0) wf.drew:=⟨c0.drew,c1.drew,b1.drew⟩
 clear c0 c1 b1;refine aK 0 hS ?_;refine aF 1 hS rfl (fun w0 h0=>by have:=h0.1.cell 0 rfl;go_simp;try with_reducible rfl) ?_
 refine aF 2 hS rfl (fun w0 h0=>by have:=h0.1.cell 0 rfl;have:=h0.1.cell 1 rfl;go_simp;try with_reducible rfl) ?_;refine aO 3 ?_;intro K hK;go_simp;refine(PC.out _ hS.2.2).mono ?_
 rintro e w2 ⟨so,sc,rfl,hN,hb⟩;replace hS:=And.intro (hS.1.kept hb) (And.intro (hS.2.1.kept hb) (hS.2.2.trans (hb.mono hS.2.2.size)));clear hb;refine hK.out _ _ (fun _=>hS) ?_;clear hK K
 try simp only[Act.put,ar,an,am,ah,aj,ai]
 refine aO 4 ?_;intro K hK;go_simp;refine(OC.out _ _ _ hN).mono ?_;rintro e w3 ⟨yo,yc,zo,zc,rfl,hY,hb⟩;replace hS:=And.intro (hS.1.kept hb) (And.intro (hS.2.1.kept hb) (hS.2.2.trans (hb.mono hS.2.2.size)))
 clear hb hN;refine hK.out _ _ (fun _=>hS) ?_;clear hK K;try simp only[Act.put,ar,an,am,ah,aj,ai]
 refine aK 5 hS ?_;refine aK 6 hS ?_;refine aO 7 ?_;intro K hK
 refine dQ (w.heap.size+1) [.int .i64 0,.int .i64 0,.int .i64 0,.int .i64 0,.int .i64 0,.slice none 0 0,.int .i64 0,.slice none 0 0] _ rfl rfl hS.2.1 rfl gq (by simp[Value.oneCell']) ?_;intro w9 B9 O9
 have hY9:=yo9 _ _ _ _ _ _ hY O9 hS.2.1;have HZ:=gU (And.intro B9 (And.intro hY9 (hS.2.2.trans (O9.below (Nat.le_succ _)))));clear hY9 B9 O9 hS hY;refine hK.out _ _ (fun h=>absurd (by decide) h) ?_;clear hK K
 try simp only[Act.put,ar,an,am,ah,aj,ai]
 refine aW 8 ?_;refine aw.done (by kernel_rfl) ?_ _;go_wp2
 (try simp only[Exit.inBlock,Exit.then]);exact bodyPost_ret (bj rfl (w.heap.size+1) _ rfl HZ.out.1 underlying61 gq) rfl ⟨yo,yc,zo,zc,rfl,HZ.out.2.1,HZ.out.2.2⟩
theorem Ig(N:Int)(ao:Option Addr)(xs:List Nat)(cap:Nat)(w:World)(hx:Wd w ao xs)(hf:aA xs)(hN:N<=3000):
  Calls prog 63 #[.agg #[.int .i64 N,.slice ao xs.length cap]] w fun e w'=>∃cs:List Value,e=.returned (.tuple #[.agg cs.toArray,.int .i64 (kE9 N xs)])/\bJ w' cs (kB9 N xs)/\Below w.heap.size w w':=by
 have z:aD 0:=⟨by decide,by decide⟩;cases hk:az N xs with
 | false=>
  refine mr (Ih N ao xs cap w hx hf hk) fun w' hb=>?_;have e1:kE9 N xs=2:=by unfold kE9;rw[hk];rfl
  have e2:kB9 N xs=⟨0,0,0,0,0,[],0,[]⟩:=by unfold kB9;rw[hk];rfl
  rw[e1,e2];have f0:aA []:=fun i=>by unfold gt;simp
  exact⟨_,rfl,⟨⟨none,0,none,0,rfl,⟨z,z,z,z,z,z⟩,cE _ _,f0,Nat.le_refl _,cE _ _,f0,Nat.le_refl _⟩,by decide,by simp,by simp⟩,hb⟩
 | true=>
  obtain⟨u1,u2,u3,u4⟩:=bp _ _ hk;obtain⟨n,rfl⟩:=Int.eq_ofNat_of_zero_le u1;have hn:n<=3000:=by omega
  obtain⟨L,hL⟩:∃L,L=plc (bitAt xs) n:=⟨_,rfl⟩;have RS:br L n:=by rw[hL];exact iK _ _
  have mn:=RS.len;have e1:kE9 (n:Int) xs=0:=by unfold kE9;rw[hk];rfl
  have e2:kB9 (n:Int) xs=aG n L:=by
   unfold kB9;rw[if_pos hk,Int.toNat_natCast,<-hL]
  have CC:Hid (Qz w 64 #[.agg #[.int .i64 (n:Nat),.slice ao xs.length cap]] (.bool true)):=fun w0 hb=>by
   have:=dB n ao xs cap w0 (hx.keep hb) hf;rw[hk]at this;exact this
  have PC:Hid (∀w0,Below w.heap.size w w0->Calls prog 112 #[.agg #[.int .i64 (n:Nat),.slice ao xs.length cap]] w0 fun e w'=>∃so sc,e=.returned (.slice so L.length sc)/\Nd w' so (lz L)/\Below w0.heap.size w0 w'):=fun w0 hb=>by
   refine(ur n ao xs cap w0 (hx.keep hb) hk).mono ?_;rintro e w' ⟨v,rfl,ho,hb2⟩;rw[<-hL]at ho;obtain⟨so,sc,rfl,_,_⟩:=Ap.owns_shape ho;exact⟨so,sc,rfl,lB ho,hb2.mono (Nat.le_refl _)⟩
  have i_y:∀{w1:World} {yo:Option Addr} {X:List Nat},Wd w1 yo X->aa w1 (w.heap.size+1) [.int .i64 0,.int .i64 0,.int .i64 0,.int .i64 0,.int .i64 0,.slice none 0 0,.int .i64 0,.slice none 0 0] 61->∀a,0<X.length->yo=some a->a.block≠w.heap.size+1:=fun h hc=>h.apart hc (by intro v hv n;simp at hv;rcases hv with rfl | rfl | rfl | rfl<;>simp)
  refine(Ie n ao xs cap L w (aG n L).N (aG n L).M (aG n L).k (aG n L).V (aG n L).LM (aG n L).H (aG n L).xs.length (aG n L).ys.length CC PC (fun w0 yo yc zo zc=>Wd w0 yo (aG n L).xs/\(aG n L).xs.length<=yc/\Wd w0 zo (aG n L).ys/\(aG n L).ys.length<=zc) (fun w1 w2 yo yc zo zc h hO hc=>⟨hO.wd h.1 (i_y h.1 hc),h.2.1,hO.wd h.2.2.1 (i_y h.2.2.1 hc),h.2.2.2⟩) ?_).mono ?_
  .intro w0 so sc hNd;exact uC n so L sc w0 hNd RS hn
  .rintro e w' ⟨bo,bc,qo,qc,rfl,⟨p1,p2,p3,p4⟩,hb⟩;rw[e1,e2];obtain⟨v,hv⟩:∃v,v=wdF n L.length:=⟨_,rfl⟩;have v20:v<=20:=by rw[hv];exact gD n _ (by omega)
   have e3:aG n L=⟨n,L.length,(loP L v).length,(max v 1:Nat),((loP L v).length:Int)*(max v 1:Nat),mkS (loP L v) (max v 1) (loP L v).length,hiN L n v,rowOf (hiN L n v) (isIn (hiP L v))⟩:=by
    unfold aG;rw[<-hv]
   rw[e3]at p1 p2 p3 p4⊢;dsimp only at p1 p2 p3 p4⊢;have l1:=mR L v;have hE:n/2^v<=n:=Nat.div_le_self _ _;have l2:hiN L n v<=6001:=by unfold hiN;omega
   have l3:(loP L v).length*max v 1<=3000*20:=Nat.mul_le_mul (by omega) (by omega);have l4:(mkS (loP L v) (max v 1) (loP L v).length).length<=1048576:=by rw[jl];omega
   have l5:(rowOf (hiN L n v) (isIn (hiP L v))).length<=1048576:=by rw[cM];omega
   have i1:aD (n:Int):=⟨by omega,by omega⟩;have i2:aD (L.length:Int):=⟨by omega,by omega⟩;have i3:aD ((loP L v).length:Int):=⟨by omega,by omega⟩
   have i5:aD ((max v 1:Nat):Int):=⟨by omega,by omega⟩;have i6:aD (hiN L n v:Int):=⟨by omega,by omega⟩
   have i4:aD (((loP L v).length:Int)*(max v 1:Nat)):=by
    rw[<-Int.natCast_mul];exact⟨by omega,by omega⟩
   exact⟨_,rfl,⟨⟨bo,bc,qo,qc,rfl,⟨i1,i2,i3,i5,i4,i6⟩,p1,nh _ _ _,p2,p3,cY _ _,p4⟩,hN,l4,l5⟩,hb⟩
theorem yH(k N:Int)(ao:Option Addr)(xs:List Nat)(cap:Nat)(w:World)(hK:aD k)(hN:aD N)(hx:Wd w ao xs)(hf:aA xs)(hcap:xs.length<=cap)(hl:N<=3000/\xs.length<=1048576)(GG:GV w):
  Calls prog 34 #[.int .i64 k,.agg #[.int .i64 N,.slice ao xs.length cap]] w fun e w'=>∃cs:List Value,e=.returned (.tuple #[.agg cs.toArray,.int .i64 (kE k N xs)])/\KI w' cs (kB k N xs)/\Below w.heap.size w w'/\fm w.heap.size cs:=by
 obtain⟨W,hW⟩:∃W,W=((w.alloc (.cells #[.int .i64 N,.slice ao xs.length cap] 53)).alloc (.cells [Value.int .i64 0,.int .i64 0,.slice none 0 0,.slice none 0 0,.slice none 0 0,.int .i64 0,.int .i64 0,.int .i64 0,.int .i64 0,.slice none 0 0,.int .i64 0,.slice none 0 0,.slice none 0 0,.slice none 0 0,.int .i64 0,.int .i64 0,.int .i64 0,.int .i64 0,.int .i64 0,.slice none 0 0,.int .i64 0,.slice none 0 0].toArray 63)).alloc (.cells [Value.int .i64 0,.int .i64 0,.slice none 0 0,.slice none 0 0,.slice none 0 0,.int .i64 0,.int .i64 0,.int .i64 0,.int .i64 0,.slice none 0 0,.int .i64 0,.slice none 0 0,.slice none 0 0,.slice none 0 0,.int .i64 0,.int .i64 0,.int .i64 0,.int .i64 0,.int .i64 0,.slice none 0 0,.int .i64 0,.slice none 0 0].toArray 63):=⟨_,rfl⟩
 have bw:Below w.heap.size w W:=by rw[hW];exact((below_alloc w _).alloc (by simp) _).alloc (by simp;omega) _
 have B0:aa W w.heap.size [.int .i64 N,.slice ao xs.length cap] 53:=by rw[hW];exact((aa.new w _ _).alloc _).alloc _
 have B4:aa W (w.heap.size+1) [Value.int .i64 0,.int .i64 0,.slice none 0 0,.slice none 0 0,.slice none 0 0,.int .i64 0,.int .i64 0,.int .i64 0,.int .i64 0,.slice none 0 0,.int .i64 0,.slice none 0 0,.slice none 0 0,.slice none 0 0,.int .i64 0,.int .i64 0,.int .i64 0,.int .i64 0,.int .i64 0,.slice none 0 0,.int .i64 0,.slice none 0 0] 63:=by rw[hW];exact(aa.new2 w _ _ _).alloc _
 have B6:aa W (w.heap.size+2) [Value.int .i64 0,.int .i64 0,.slice none 0 0,.slice none 0 0,.slice none 0 0,.int .i64 0,.int .i64 0,.int .i64 0,.int .i64 0,.slice none 0 0,.int .i64 0,.slice none 0 0,.slice none 0 0,.slice none 0 0,.int .i64 0,.int .i64 0,.int .i64 0,.int .i64 0,.int .i64 0,.slice none 0 0,.int .i64 0,.slice none 0 0] 63:=by rw[hW];exact(aa.new2 (w.alloc _) _ _ _).at (by simp)
 have hIV:=Hid.mk8 oU
 have H7:Hid (∀w0,Below w.heap.size w w0->Calls prog 61 #[.agg #[.int .i64 N,.slice ao xs.length cap]] w0 fun e w'=>∃cs:List Value,e=.returned (.tuple #[.agg cs.toArray,.int .i64 (kE7 N xs)])/\b_ w' cs (kB7 N xs)/\NF w0.heap.size 2 cs/\Below w0.heap.size w0 w'):=fun w0 h=>Dh N ao xs cap w0 hN (hx.keep h) hf hcap hl.2
 have H8:Hid (∀w0,Below w.heap.size w w0->Calls prog 62 #[.agg #[.int .i64 N,.slice ao xs.length cap]] w0 fun e w'=>∃cs:List Value,e=.returned (.tuple #[.agg cs.toArray,.int .i64 (kE8 N xs)])/\bm w' cs (kB8 N xs)/\NF w0.heap.size 7 cs/\Below w0.heap.size w0 w'):=fun w0 h=>BC N ao xs cap w0 (hx.keep h) hf (GG.kept h)
 have H9:Hid (∀w0,Below w.heap.size w w0->Calls prog 63 #[.agg #[.int .i64 N,.slice ao xs.length cap]] w0 fun e w'=>∃cs:List Value,e=.returned (.tuple #[.agg cs.toArray,.int .i64 (kE9 N xs)])/\bJ w' cs (kB9 N xs)/\Below w0.heap.size w0 w'):=fun w0 h=>Ig N ao xs cap w0 (hx.keep h) hf hl.1
 subst hW;by_cases q1:k=1
 .subst q1;have eE:kE 1 N xs=kE7 N xs:=rfl;rw[eE];by_cases z:kE7 N xs=0
  .have ew:kB 1 N xs=⟨1,kB7 N xs,n8,n9⟩:=oP N xs z;rw[z]at H7⊢;clear eE z;go_enter func34,ntmps34;go_wp2_with (refine aJ (w.heap.size+2) _ _ rfl rfl B6 rfl hIV.out (by simp[Value.oneCell']) ?_)
   intro w1 B6 O1;replace B0:=O1.cel B0 (by omega);replace B4:=O1.cel B4 (by omega);replace bw:=bw.trans (O1.below (by omega));clear O1;have r0:=B0.cell 0 rfl;have r1:=B0.cell 1 rfl;go_wp2_with fail
   refine(H7.out _ bw).mono ?_;rintro e w2 ⟨cs,rfl,hP,hN2,hb⟩;have sz:=B6.lt;have sz2:=hb.size;replace B4:=B4.kept hb;replace B6:=B6.kept hb;replace bw:=bg bw hb;clear hb r0 r1 B0
   go_wp2_with (refine gF (w.heap.size+2) [Value.int .i64 1] [Value.int .i64 0,.slice none 0 0,.slice none 0 0,.slice none 0 0] ([Value.int .i64 0,.int .i64 0,.int .i64 0,.int .i64 0,.slice none 0 0,.int .i64 0,.slice none 0 0,.slice none 0 0,.slice none 0 0]++[Value.int .i64 0,.int .i64 0,.int .i64 0,.int .i64 0,.int .i64 0,.slice none 0 0,.int .i64 0,.slice none 0 0]) cs rfl rfl B6 hP.arg.four.symm hP.arg.len hP.arg.one ?_)
   intro w3 B7 O3;have hQ:=hP.only hN2 (by omega) B6 (nou_mk (z7arg w).arg.nou (z8a w).nou (z9arg w).arg.nou) O3;replace B4:=O3.cel B4 (by omega);replace bw:=bw.trans (O3.below (by omega))
   have B8:aa w3 (w.heap.size+2) (Value.int .i64 1::(cs++([Value.int .i64 0,.int .i64 0,.int .i64 0,.int .i64 0,.slice none 0 0,.int .i64 0,.slice none 0 0,.slice none 0 0,.slice none 0 0]++[Value.int .i64 0,.int .i64 0,.int .i64 0,.int .i64 0,.int .i64 0,.slice none 0 0,.int .i64 0,.slice none 0 0]))) 63:=B7
   have HL:=Hid.mk8 (iB hK hQ.arg (z8a w3) (z9arg w3).arg).len;have H1:=Hid.mk8 (iB hK hQ.arg (z8a w3) (z9arg w3).arg).one;have H9:=Hid.mk8 (iB hK hQ.arg (z8a w3) (z9arg w3).arg).nine
   have HNF:Hid (fm w.heap.size (Value.int .i64 1::(cs++([Value.int .i64 0,.int .i64 0,.int .i64 0,.int .i64 0,.slice none 0 0,.int .i64 0,.slice none 0 0,.slice none 0 0,.slice none 0 0]++[Value.int .i64 0,.int .i64 0,.int .i64 0,.int .i64 0,.int .i64 0,.slice none 0 0,.int .i64 0,.slice none 0 0])))):=⟨(hN2.mono (by omega)).mid (pre:=[Value.int .i64 1]) (by have:=hQ.arg.four;omega) rfl,(show NF w.heap.size 7 [Value.int .i64 0,.int .i64 0,.int .i64 0,.int .i64 0,.slice none 0 0,.int .i64 0,.slice none 0 0,.slice none 0 0,.slice none 0 0]from cW (a_ _) (a_ _)).mid (pre:=Value.int .i64 1::cs) (by decide) (by have:=hQ.arg.four;simp;omega)⟩
   have HQ:=Hid.mk8 (And.intro hQ hN2);clear B7 O3 B6 hP hN2 hQ
   go_wp2_with (first | refine bE (w.heap.size+2) _ (by rfl) rfl B8 underlying63 HL.out ?_ | refine aJ (w.heap.size+1) _ _ rfl rfl B4 H9.out HL.out H1.out ?_);intro w9 B9 O9
   have HZ:=Hid.mk8 (And.intro B9 (And.intro (ki_mk hK (HQ.out.1.only HQ.out.2 (by omega) B4 (nou_mk (z7arg w).arg.nou (z8a w).nou (z9arg w).arg.nou) O9) (z8arg w9 (GG.kept (bw.trans (O9.below (by omega))))) (z9arg w9)) (bw.trans (O9.below (by omega)))))
   clear B9 O9 B8 B4 HQ;go_wp2
   (try simp only[Exit.inBlock,Exit.then]);refine bodyPost_ret (bj rfl (w.heap.size+1) _ rfl HZ.out.1 underlying63 HL.out) rfl ⟨_,rfl,?_,HZ.out.2.2,HNF.out⟩;rw[ew];exact HZ.out.2.1
  .have ew:kB 1 N xs=⟨0,n7,n8,n9⟩:=jO 1 N xs (by rw[eE];exact z);have zz:(kE7 N xs != 0)=true:=by simp[z]
   clear eE z;generalize kE7 N xs=E1 at *;go_enter func34,ntmps34;go_wp2_with (refine aJ (w.heap.size+2) _ _ rfl rfl B6 rfl hIV.out (by simp[Value.oneCell']) ?_);intro w1 B6 O1
   replace B0:=O1.cel B0 (by omega);replace B4:=O1.cel B4 (by omega);replace bw:=bw.trans (O1.below (by omega));clear O1;have r0:=B0.cell 0 rfl;have r1:=B0.cell 1 rfl;go_wp2_with fail;refine(H7.out _ bw).mono ?_
   rintro e w2 ⟨cs,rfl,hP,hN2,hb⟩;have sz:=B6.lt;have sz2:=hb.size;replace B4:=B4.kept hb;replace B6:=B6.kept hb;replace bw:=bg bw hb;clear hb r0 r1 B0
   go_wp2_with (refine gF (w.heap.size+2) [Value.int .i64 1] [Value.int .i64 0,.slice none 0 0,.slice none 0 0,.slice none 0 0] ([Value.int .i64 0,.int .i64 0,.int .i64 0,.int .i64 0,.slice none 0 0,.int .i64 0,.slice none 0 0,.slice none 0 0,.slice none 0 0]++[Value.int .i64 0,.int .i64 0,.int .i64 0,.int .i64 0,.int .i64 0,.slice none 0 0,.int .i64 0,.slice none 0 0]) cs rfl rfl B6 hP.arg.four.symm hP.arg.len hP.arg.one ?_)
   intro w3 B7 O3;replace B4:=O3.cel B4 (by omega);replace bw:=bw.trans (O3.below (by omega));clear B7 O3 B6 hP hN2;go_wp2_with (refine aJ (w.heap.size+1) _ _ rfl rfl B4 rfl hIV.out (by simp[Value.oneCell']) ?_)
   intro w9 B9 O9;have HZ:=Hid.mk8 (And.intro B9 (bw.trans (O9.below (by omega))));clear B9 O9;go_wp2
   (try simp only[Exit.inBlock,Exit.then]);refine bodyPost_ret (bj rfl (w.heap.size+1) _ rfl HZ.out.1 underlying63 hIV.out) rfl ⟨_,rfl,?_,HZ.out.2,cW (a_ _) (a_ _),cW (a_ _) (a_ _)⟩;rw[ew]
   exact ki_mk dK (z7arg _) (z8arg _ (GG.kept HZ.out.2)) (z9arg _)
 by_cases q2:k=2
 .subst q2;have eE:kE 2 N xs=kE8 N xs:=rfl;rw[eE];by_cases z:kE8 N xs=0
  .have ew:kB 2 N xs=⟨2,n7,kB8 N xs,n9⟩:=oO N xs z;rw[z]at H8⊢;clear eE z;go_enter func34,ntmps34;go_wp2_with (refine aJ (w.heap.size+2) _ _ rfl rfl B6 rfl hIV.out (by simp[Value.oneCell']) ?_)
   intro w1 B6 O1;replace B0:=O1.cel B0 (by omega);replace B4:=O1.cel B4 (by omega);replace bw:=bw.trans (O1.below (by omega));clear O1;have r0:=B0.cell 0 rfl;have r1:=B0.cell 1 rfl;go_wp2_with fail
   refine(H8.out _ bw).mono ?_;rintro e w2 ⟨cs,rfl,hP,hN2,hb⟩;have sz:=B6.lt;have sz2:=hb.size;replace B4:=B4.kept hb;replace B6:=B6.kept hb;replace bw:=bg bw hb;clear hb r0 r1 B0
   go_wp2_with (refine gF (w.heap.size+2) (Value.int .i64 2::[Value.int .i64 0,.slice none 0 0,.slice none 0 0,.slice none 0 0]) [Value.int .i64 0,.int .i64 0,.int .i64 0,.int .i64 0,.slice none 0 0,.int .i64 0,.slice none 0 0,.slice none 0 0,.slice none 0 0] [Value.int .i64 0,.int .i64 0,.int .i64 0,.int .i64 0,.int .i64 0,.slice none 0 0,.int .i64 0,.slice none 0 0] cs rfl rfl B6 hP.arg.nine hP.arg.len hP.arg.one ?_)
   intro w3 B7 O3;have hQ:=hP.only hN2 (by omega) B6 (nou_mk (z7arg w).arg.nou (z8a w).nou (z9arg w).arg.nou) O3 (GG.kept (bw.trans (O3.below (by omega))));replace B4:=O3.cel B4 (by omega)
   replace bw:=bw.trans (O3.below (by omega))
   have B8:aa w3 (w.heap.size+2) (Value.int .i64 2::([Value.int .i64 0,.slice none 0 0,.slice none 0 0,.slice none 0 0]++(cs++[Value.int .i64 0,.int .i64 0,.int .i64 0,.int .i64 0,.int .i64 0,.slice none 0 0,.int .i64 0,.slice none 0 0]))) 63:=B7
   have HL:=Hid.mk8 (ki_mk hK (z7arg w3) hQ (z9arg w3)).arg.len;have H1:=Hid.mk8 (ki_mk hK (z7arg w3) hQ (z9arg w3)).arg.one;have H9:=Hid.mk8 (ki_mk hK (z7arg w3) hQ (z9arg w3)).arg.nine
   have HNF:Hid (fm w.heap.size (Value.int .i64 2::([Value.int .i64 0,.slice none 0 0,.slice none 0 0,.slice none 0 0]++(cs++[Value.int .i64 0,.int .i64 0,.int .i64 0,.int .i64 0,.int .i64 0,.slice none 0 0,.int .i64 0,.slice none 0 0])))):=⟨cW (a_ _) (a_ _),(hN2.mono (by omega)).mid (pre:=Value.int .i64 2::[Value.int .i64 0,.slice none 0 0,.slice none 0 0,.slice none 0 0]) (by have:=hQ.arg.nine;omega) rfl⟩
   have HQ:=Hid.mk8 (And.intro hQ hN2);clear B7 O3 B6 hP hN2 hQ
   go_wp2_with (first | refine bE (w.heap.size+2) _ (by rfl) rfl B8 underlying63 HL.out ?_ | refine aJ (w.heap.size+1) _ _ rfl rfl B4 H9.out HL.out H1.out ?_);intro w9 B9 O9
   have HZ:=Hid.mk8 (And.intro B9 (And.intro (ki_mk hK (z7arg w9) (HQ.out.1.only HQ.out.2 (by omega) B4 (nou_mk (z7arg w).arg.nou (z8a w).nou (z9arg w).arg.nou) O9 (GG.kept (bw.trans (O9.below (by omega))))) (z9arg w9)) (bw.trans (O9.below (by omega)))))
   clear B9 O9 B8 B4 HQ;go_wp2
   (try simp only[Exit.inBlock,Exit.then]);refine bodyPost_ret (bj rfl (w.heap.size+1) _ rfl HZ.out.1 underlying63 HL.out) rfl ⟨_,rfl,?_,HZ.out.2.2,HNF.out⟩;rw[ew];exact HZ.out.2.1
  .have ew:kB 2 N xs=⟨0,n7,n8,n9⟩:=jO 2 N xs (by rw[eE];exact z);have zz:(kE8 N xs != 0)=true:=by simp[z]
   clear eE z;generalize kE8 N xs=E1 at *;go_enter func34,ntmps34;go_wp2_with (refine aJ (w.heap.size+2) _ _ rfl rfl B6 rfl hIV.out (by simp[Value.oneCell']) ?_);intro w1 B6 O1
   replace B0:=O1.cel B0 (by omega);replace B4:=O1.cel B4 (by omega);replace bw:=bw.trans (O1.below (by omega));clear O1;have r0:=B0.cell 0 rfl;have r1:=B0.cell 1 rfl;go_wp2_with fail;refine(H8.out _ bw).mono ?_
   rintro e w2 ⟨cs,rfl,hP,hN2,hb⟩;have sz:=B6.lt;have sz2:=hb.size;replace B4:=B4.kept hb;replace B6:=B6.kept hb;replace bw:=bg bw hb;clear hb r0 r1 B0
   go_wp2_with (refine gF (w.heap.size+2) (Value.int .i64 2::[Value.int .i64 0,.slice none 0 0,.slice none 0 0,.slice none 0 0]) [Value.int .i64 0,.int .i64 0,.int .i64 0,.int .i64 0,.slice none 0 0,.int .i64 0,.slice none 0 0,.slice none 0 0,.slice none 0 0] [Value.int .i64 0,.int .i64 0,.int .i64 0,.int .i64 0,.int .i64 0,.slice none 0 0,.int .i64 0,.slice none 0 0] cs rfl rfl B6 hP.arg.nine hP.arg.len hP.arg.one ?_)
   intro w3 B7 O3;replace B4:=O3.cel B4 (by omega);replace bw:=bw.trans (O3.below (by omega));clear B7 O3 B6 hP hN2;go_wp2_with (refine aJ (w.heap.size+1) _ _ rfl rfl B4 rfl hIV.out (by simp[Value.oneCell']) ?_)
   intro w9 B9 O9;have HZ:=Hid.mk8 (And.intro B9 (bw.trans (O9.below (by omega))));clear B9 O9;go_wp2
   (try simp only[Exit.inBlock,Exit.then]);refine bodyPost_ret (bj rfl (w.heap.size+1) _ rfl HZ.out.1 underlying63 hIV.out) rfl ⟨_,rfl,?_,HZ.out.2,cW (a_ _) (a_ _),cW (a_ _) (a_ _)⟩;rw[ew]
   exact ki_mk dK (z7arg _) (z8arg _ (GG.kept HZ.out.2)) (z9arg _)
 by_cases q3:k=3
 .subst q3;have eE:kE 3 N xs=kE9 N xs:=rfl;rw[eE];by_cases z:kE9 N xs=0
  .have ew:kB 3 N xs=⟨3,n7,n8,kB9 N xs⟩:=mV N xs z;rw[z]at H9⊢;clear eE z;go_enter func34,ntmps34;go_wp2_with (refine aJ (w.heap.size+2) _ _ rfl rfl B6 rfl hIV.out (by simp[Value.oneCell']) ?_)
   intro w1 B6 O1;replace B0:=O1.cel B0 (by omega);replace B4:=O1.cel B4 (by omega);replace bw:=bw.trans (O1.below (by omega));clear O1;have r0:=B0.cell 0 rfl;have r1:=B0.cell 1 rfl;go_wp2_with fail
   refine(H9.out _ bw).mono ?_;rintro e w2 ⟨cs,rfl,hP,hb⟩;have sz:=B6.lt;have sz2:=hb.size;replace B4:=B4.kept hb;replace B6:=B6.kept hb;replace bw:=bg bw hb;clear hb r0 r1 B0
   go_wp2_with (refine gF (w.heap.size+2) (Value.int .i64 3::([Value.int .i64 0,.slice none 0 0,.slice none 0 0,.slice none 0 0]++[Value.int .i64 0,.int .i64 0,.int .i64 0,.int .i64 0,.slice none 0 0,.int .i64 0,.slice none 0 0,.slice none 0 0,.slice none 0 0])) [Value.int .i64 0,.int .i64 0,.int .i64 0,.int .i64 0,.int .i64 0,.slice none 0 0,.int .i64 0,.slice none 0 0] [] cs rfl rfl B6 hP.arg.nine hP.arg.len hP.arg.one ?_)
   intro w3 B7 O3;have hQ:=hP.only B6 (nou_mk (z7arg w).arg.nou (z8a w).nou (z9arg w).arg.nou) O3;replace B4:=O3.cel B4 (by omega);replace bw:=bw.trans (O3.below (by omega))
   have B8:aa w3 (w.heap.size+2) (Value.int .i64 3::([Value.int .i64 0,.slice none 0 0,.slice none 0 0,.slice none 0 0]++([Value.int .i64 0,.int .i64 0,.int .i64 0,.int .i64 0,.slice none 0 0,.int .i64 0,.slice none 0 0,.slice none 0 0,.slice none 0 0]++cs))) 63:=by simpa using B7
   have HL:=Hid.mk8 (iB hK (z7arg w3).arg (z8a w3) hQ.arg).len;have H1:=Hid.mk8 (iB hK (z7arg w3).arg (z8a w3) hQ.arg).one;have H9:=Hid.mk8 (iB hK (z7arg w3).arg (z8a w3) hQ.arg).nine
   have HNF:Hid (fm w.heap.size (Value.int .i64 3::([Value.int .i64 0,.slice none 0 0,.slice none 0 0,.slice none 0 0]++([Value.int .i64 0,.int .i64 0,.int .i64 0,.int .i64 0,.slice none 0 0,.int .i64 0,.slice none 0 0,.slice none 0 0,.slice none 0 0]++cs)))):=⟨cW (a_ _) (a_ _),cW (a_ _) (a_ _)⟩
   have HQ:=Hid.mk8 (And.intro hQ trivial);clear B7 O3 B6 hP hQ
   go_wp2_with (first | refine bE (w.heap.size+2) _ (by rfl) rfl B8 underlying63 HL.out ?_ | refine aJ (w.heap.size+1) _ _ rfl rfl B4 H9.out HL.out H1.out ?_);intro w9 B9 O9
   have HZ:=Hid.mk8 (And.intro B9 (And.intro (ki_mk hK (z7arg w9) (z8arg w9 (GG.kept (bw.trans (O9.below (by omega))))) (HQ.out.1.only B4 (nou_mk (z7arg w).arg.nou (z8a w).nou (z9arg w).arg.nou) O9)) (bw.trans (O9.below (by omega)))))
   clear B9 O9 B8 B4 HQ;go_wp2
   (try simp only[Exit.inBlock,Exit.then]);refine bodyPost_ret (bj rfl (w.heap.size+1) _ rfl HZ.out.1 underlying63 HL.out) rfl ⟨_,rfl,?_,HZ.out.2.2,HNF.out⟩;rw[ew];exact HZ.out.2.1
  .have ew:kB 3 N xs=⟨0,n7,n8,n9⟩:=jO 3 N xs (by rw[eE];exact z);have zz:(kE9 N xs != 0)=true:=by simp[z]
   clear eE z;generalize kE9 N xs=E1 at *;go_enter func34,ntmps34;go_wp2_with (refine aJ (w.heap.size+2) _ _ rfl rfl B6 rfl hIV.out (by simp[Value.oneCell']) ?_);intro w1 B6 O1
   replace B0:=O1.cel B0 (by omega);replace B4:=O1.cel B4 (by omega);replace bw:=bw.trans (O1.below (by omega));clear O1;have r0:=B0.cell 0 rfl;have r1:=B0.cell 1 rfl;go_wp2_with fail;refine(H9.out _ bw).mono ?_
   rintro e w2 ⟨cs,rfl,hP,hb⟩;have sz:=B6.lt;have sz2:=hb.size;replace B4:=B4.kept hb;replace B6:=B6.kept hb;replace bw:=bg bw hb;clear hb r0 r1 B0
   go_wp2_with (refine gF (w.heap.size+2) (Value.int .i64 3::([Value.int .i64 0,.slice none 0 0,.slice none 0 0,.slice none 0 0]++[Value.int .i64 0,.int .i64 0,.int .i64 0,.int .i64 0,.slice none 0 0,.int .i64 0,.slice none 0 0,.slice none 0 0,.slice none 0 0])) [Value.int .i64 0,.int .i64 0,.int .i64 0,.int .i64 0,.int .i64 0,.slice none 0 0,.int .i64 0,.slice none 0 0] [] cs rfl rfl B6 hP.arg.nine hP.arg.len hP.arg.one ?_)
   intro w3 B7 O3;replace B4:=O3.cel B4 (by omega);replace bw:=bw.trans (O3.below (by omega));clear B7 O3 B6 hP;go_wp2_with (refine aJ (w.heap.size+1) _ _ rfl rfl B4 rfl hIV.out (by simp[Value.oneCell']) ?_)
   intro w9 B9 O9;have HZ:=Hid.mk8 (And.intro B9 (bw.trans (O9.below (by omega))));clear B9 O9;go_wp2
   (try simp only[Exit.inBlock,Exit.then]);refine bodyPost_ret (bj rfl (w.heap.size+1) _ rfl HZ.out.1 underlying63 hIV.out) rfl ⟨_,rfl,?_,HZ.out.2,cW (a_ _) (a_ _),cW (a_ _) (a_ _)⟩;rw[ew]
   exact ki_mk dK (z7arg _) (z8arg _ (GG.kept HZ.out.2)) (z9arg _)
 have eE:kE k N xs=5:=by unfold kE;rw[if_neg q1,if_neg q2,if_neg q3]
 have ew:kB k N xs=⟨0,n7,n8,n9⟩:=jO k N xs (by rw[eE];decide);rw[eE];have d1:(k==1)=false:=by simp[q1]
 have d2:(k==2)=false:=by simp[q2]
 have d3:(k==3)=false:=by simp[q3]
 clear eE;go_enter func34,ntmps34;go_wp2_with (refine aJ (w.heap.size+2) _ _ rfl rfl B6 rfl hIV.out (by simp[Value.oneCell']) ?_);intro w1 B6 O1;replace B0:=O1.cel B0 (by omega)
 replace B4:=O1.cel B4 (by omega);replace bw:=bw.trans (O1.below (by omega));clear O1;have r0:=B0.cell 0 rfl;have r1:=B0.cell 1 rfl
 go_wp2_with (refine aJ (w.heap.size+1) _ _ rfl rfl B4 rfl hIV.out (by simp[Value.oneCell']) ?_);intro w9 B9 O9;have HZ:=Hid.mk8 (And.intro B9 (bw.trans (O9.below (by omega))));clear B9 O9;go_wp2
 (try simp only[Exit.inBlock,Exit.then]);refine bodyPost_ret (bj rfl (w.heap.size+1) _ rfl HZ.out.1 underlying63 hIV.out) rfl ⟨_,rfl,?_,HZ.out.2,cW (a_ _) (a_ _),cW (a_ _) (a_ _)⟩;rw[ew]
 exact ki_mk dK (z7arg _) (z8arg _ (GG.kept HZ.out.2)) (z9arg _)
end Go.Proofs.YtleegaihbgbcjabGreatDoor
