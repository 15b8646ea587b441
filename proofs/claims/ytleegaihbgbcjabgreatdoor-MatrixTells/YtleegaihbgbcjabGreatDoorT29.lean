import Derived.Test.YtleegaihbgbcjabGreatDoorT28
import Derived.Deep.Slices
set_option linter.unusedVariables false
set_option linter.unusedSimpArgs false
set_option maxRecDepth 100000
set_option maxHeartbeats 16000000
open Go.Proofs.Tryz
namespace Go.Proofs.YtleegaihbgbcjabGreatDoor
open Go.RowKit Num Bit
def iG(w:World)(K N:Int)(lo:Option Addr)(la lc:Nat)(zo:Option Addr)(za zc:Nat)(T:List Nat)(ok:Bool):Prop:=∀w0,Below w.heap.size w w0->Calls prog 42 #[.agg #[.int .i64 K,.int .i64 N,.slice lo la lc,.slice zo za zc]] w0 fun e w'=>∃bo bc,e=.returned (.tuple #[.slice bo T.length bc,.bool ok])/\Bd w' bo T/\Below w0.heap.size w0 w'
theorem u_(t:List Nat)(c q:Nat):Sh.cp (fun d=>decide (d=c)) t (q+1)=Sh.cp (fun d=>decide (d=c)) t q+if gt t q=c then 1 else 0:=by
 rw[Sh.cp];by_cases h:gt t q=c
 .simp[h]
 .simp[h]
theorem tJ{K N:Int}{lo:Option Addr}{la lc:Nat}{zo:Option Addr}{za zc:Nat}{T:List Nat}{ok:Bool}{w:World}(h:iG w K N lo la lc zo za zc T ok):
  Qq 21 #[.agg #[.int .i64 K,.int .i64 N,.slice lo la lc,.slice zo za zc]] w (.bool ok):=by
 have H:=ag h;have bw:=below_alloc w (.cells #[.int .i64 K,.int .i64 N,.slice lo la lc,.slice zo za zc] 27);unfold iG at H;clear h;go_enter func21,ntmps21;go_wp2_with fail;refine(H.out _ bw).mono ?_
 rintro e w1 ⟨bo,bc,rfl,hd,hb⟩;replace bw:=bg bw hb;clear hb H;go_wp2;go_ret;exact⟨rfl,bw⟩
theorem Ax{K N:Int}{lo:Option Addr}{la lc:Nat}{zo:Option Addr}{za zc:Nat}{T:List Nat}{ok:Bool}{w:World}(h:iG w K N lo la lc zo za zc T ok):
  Calls prog 23 #[.agg #[.int .i64 K,.int .i64 N,.slice lo la lc,.slice zo za zc]] w fun e w'=>∃bo bc,e=.returned (.slice bo T.length bc)/\Bd w' bo T/\Below w.heap.size w w':=by
 have H:=ag h;have bw:=below_alloc w (.cells #[.int .i64 K,.int .i64 N,.slice lo la lc,.slice zo za zc] 27);unfold iG at H;clear h;go_enter func23,ntmps23;go_wp2_with fail;refine(H.out _ bw).mono ?_
 rintro e w1 ⟨bo,bc,rfl,hd,hb⟩;replace bw:=bg bw hb;clear hb H;go_wp2;go_ret;exact⟨_,_,rfl,hd,bw⟩
theorem AF{K N:Int}{lo:Option Addr}{la lc:Nat}{zo:Option Addr}{za zc:Nat}{T:List Nat}{ok:Bool}{w:World}(i:Int)(h:iG w K N lo la lc zo za zc T ok)(hT:T.length<=600)(hI:aD i):
  Qq 16 #[.agg #[.int .i64 K,.int .i64 N,.slice lo la lc,.slice zo za zc],.int .i64 i] w (.tuple #[.int .u8 ((if ok then saC T i else 0:Nat):Int),.int .i64 (if ok then dR T i else 2)]):=by
 have H:=ag h;have bw:=below_alloc w (.cells #[.int .i64 K,.int .i64 N,.slice lo la lc,.slice zo za zc] 27);unfold iG at H;clear h;cases ok with
 | false=>
  rw[if_neg (by decide),if_neg (by decide)];go_enter func16,ntmps16;go_wp2_with fail;refine(H.out _ bw).mono ?_;rintro e w1 ⟨bo,bc,rfl,hd,hb⟩;replace bw:=bg bw hb;clear hb H;go_wp2;go_ret2
  exact⟨rfl,bw⟩
 | true=>
  rw[if_pos rfl,if_pos rfl];by_cases i0:i<0
  .have e1:dR T i=3:=by unfold dR;rw[if_pos (.inl i0)]
   have e2:saC T i=0:=by unfold saC;rw[e1];rfl
   rw[e1,e2];clear e1 e2;go_enter func16,ntmps16;go_wp2_with fail;refine(H.out _ bw).mono ?_;rintro e w1 ⟨bo,bc,rfl,hd,hb⟩;replace bw:=bg bw hb;clear hb H;go_wp2;go_ret2;exact⟨rfl,bw⟩
  by_cases i1:(T.length:Int)<=i
  .have e1:dR T i=3:=by unfold dR;rw[if_pos (.inr i1)]
   have e2:saC T i=0:=by unfold saC;rw[e1];rfl
   rw[e1,e2];clear e1 e2;go_enter func16,ntmps16;go_wp2_with fail;refine(H.out _ bw).mono ?_;rintro e w1 ⟨bo,bc,rfl,hd,hb⟩;replace bw:=bg bw hb;clear hb H;go_wp2;go_ret2;exact⟨rfl,bw⟩
  obtain⟨i,rfl⟩:=Int.eq_ofNat_of_zero_le (show 0<=i by omega);have hi:i<T.length:=by omega
  rw[(pV hi).1,(pV hi).2];have j2:(i:Int)<(T.length:Int):=by omega
  clear i0;go_enter func16,ntmps16;go_wp2_with fail;refine(H.out _ bw).mono ?_;rintro e w1 ⟨bo,bc,rfl,hd,hb⟩;replace bw:=bg bw hb;clear hb H;obtain⟨b,off,rfl,hbl,hcc⟩:=hd (by omega)
  have e2:=hcc i hi;clear hcc hd;go_wp2;go_ret2;exact⟨rfl,bw⟩
theorem AD{K N:Int}{lo:Option Addr}{la lc:Nat}{zo:Option Addr}{za zc:Nat}{T:List Nat}{ok:Bool}{w:World}(c:Nat)(i:Int)(h:iG w K N lo la lc zo za zc T ok)(hT:T.length<=600)(hc:c<256)(hI:aD i):
  Qq 17 #[.agg #[.int .i64 K,.int .i64 N,.slice lo la lc,.slice zo za zc],.int .u8 (c:Int),.int .i64 i] w (.tuple #[.int .i64 (if ok then fw T c i else 0),.int .i64 (if ok then ef T i else 2)]):=by
 have H:=ag h;have bw:=below_alloc w (.cells #[.int .i64 K,.int .i64 N,.slice lo la lc,.slice zo za zc] 27);unfold iG at H;clear h;cases ok with
 | false=>
  rw[if_neg (by decide),if_neg (by decide)];go_enter func17,ntmps17;go_wp2_with fail;refine(H.out _ bw).mono ?_;rintro e w1 ⟨bo,bc,rfl,hd,hb⟩;replace bw:=bg bw hb;clear hb H;go_wp2;go_ret2
  exact⟨rfl,bw⟩
 | true=>
  rw[if_pos rfl,if_pos rfl];by_cases i0:i<0
  .have e1:ef T i=3:=by unfold ef;rw[if_pos (.inl i0)]
   have e2:fw T c i=0:=by unfold fw;rw[e1];rfl
   rw[e1,e2];clear e1 e2;go_enter func17,ntmps17;go_wp2_with fail;refine(H.out _ bw).mono ?_;rintro e w1 ⟨bo,bc,rfl,hd,hb⟩;replace bw:=bg bw hb;clear hb H;go_wp2;go_ret2;exact⟨rfl,bw⟩
  by_cases i1:(T.length:Int)<i
  .have e1:ef T i=3:=by unfold ef;rw[if_pos (.inr i1)]
   have e2:fw T c i=0:=by unfold fw;rw[e1];rfl
   rw[e1,e2];clear e1 e2;go_enter func17,ntmps17;go_wp2_with fail;refine(H.out _ bw).mono ?_;rintro e w1 ⟨bo,bc,rfl,hd,hb⟩;replace bw:=bg bw hb;clear hb H;go_wp2;go_ret2;exact⟨rfl,bw⟩
  obtain⟨i,rfl⟩:=Int.eq_ofNat_of_zero_le (show 0<=i by omega);have hi:i<=T.length:=by omega
  rw[(pS c hi).1,(pS c hi).2];obtain⟨Z,hZ⟩:∃Z,Hid (Z=Sh.cp (fun d=>decide (d=c)) T i):=⟨_,rfl⟩;rw[<-hZ.out];clear i0;go_enter func17,ntmps17;go_wp2_with fail;refine(H.out _ bw).mono ?_
  rintro e w1 ⟨bo,bc,rfl,hd,hb⟩;replace bw:=bg bw hb;clear hb H;go_wp2
  go_loopw [11,10] (fun s v wr=>∃q:Nat,q<=i/\s=.int .i64 q/\v=.int .i64 (Sh.cp (fun d=>decide (d=c)) T q:Nat)/\wr=w1) (fun s _ _=>i-(intOf s).toNat)
  case atStart=>exact⟨0,Nat.zero_le _,rfl,rfl,rfl⟩
  case round=>
   obtain⟨q,hq,rfl,rfl,rfl⟩:=hrel;by_cases hi2:q<i
   .obtain⟨b,off,rfl,hbl,hcc⟩:=hd (by omega);have e2:=hcc q (by omega);have j2:(q:Int)<(i:Int):=by omega
    have j3:(q:Int)<(T.length:Int):=by omega
    have cs:=u_ T c q;have cl:=pi T c q;obtain⟨O,hO⟩:∃O,Hid (O=Sh.cp (fun d=>decide (d=c)) T (q+1)):=⟨_,rfl⟩;rw[<-hO.out]at cs;generalize Sh.cp (fun d=>decide (d=c)) T q=X at *
    have HW:=ag bw;clear hcc hd bw;by_cases e:gt T q=c
    .have e3:((gt T q:Int)==(c:Int))=true:=by simp;omega
     rw[if_pos e]at cs;clear e;generalize gt T q=G at *;go_wp2;exact⟨⟨q+1,by omega,by go_num,by rw[<-hO.out,cs,Int.natCast_add];go_num,trivial⟩,by simp only[intOf];omega⟩
    .have e3:((gt T q:Int)==(c:Int))=false:=by simp;omega
     rw[if_neg e,Nat.add_zero]at cs;clear e;generalize gt T q=G at *;go_wp2;exact⟨⟨q+1,by omega,by go_num,by rw[<-hO.out,cs],trivial⟩,by simp only[intOf];omega⟩
   .obtain rfl:q=i:=by omega
    rw[<-hZ.out];go_wp2;go_ret2;exact⟨rfl,bw⟩
theorem AA{K N:Int}{lo:Option Addr}{la lc:Nat}{zo:Option Addr}{za zc:Nat}{T:List Nat}{ok:Bool}{w:World}(c:Nat)(k:Int)(h:iG w K N lo la lc zo za zc T ok)(hT:T.length<=600)(hc:c<256)(hI:aD k):
  Qq 19 #[.agg #[.int .i64 K,.int .i64 N,.slice lo la lc,.slice zo za zc],.int .u8 (c:Int),.int .i64 k] w (.tuple #[.int .i64 (if ok then ssN T c k else 0),.int .i64 (if ok then ssE T c k else 2)]):=by
 have H:=ag h;have bw:=below_alloc w (.cells #[.int .i64 K,.int .i64 N,.slice lo la lc,.slice zo za zc] 27);unfold iG at H;clear h;cases ok with
 | false=>
  rw[if_neg (by decide),if_neg (by decide)];go_enter func19,ntmps19;go_wp2_with fail;refine(H.out _ bw).mono ?_;rintro e w1 ⟨bo,bc,rfl,hd,hb⟩;replace bw:=bg bw hb;clear hb H;go_wp2;go_ret2
  exact⟨rfl,bw⟩
 | true=>
  rw[if_pos rfl,if_pos rfl]
  have NO:Hid ((∀j,j<T.length->¬(gt T j=c/\(Sh.cp (fun d=>decide (d=c)) T j:Int)=k))->ssE T c k=3/\ssN T c k=0):=fun h=>th fun hk=>by
   obtain⟨kn,rfl⟩:=Int.eq_ofNat_of_zero_le hk.1;obtain⟨j,h1,h2,h3⟩:=rG (P:=fun d=>decide (d=c)) (t:=T) (n:=T.length) (K:=kn) (by omega);exact h j h1 ⟨of_decide_eq_true h2,by rw[h3]⟩
  have YE:Hid (∀i,i<T.length->gt T i=c->(Sh.cp (fun d=>decide (d=c)) T i:Int)=k->ssE T c k=0/\ssN T c k=(i:Int)):=fun i h1 h2 h3=>by subst h3;exact zi h1 h2
  generalize ssE T c k=E at *;generalize ssN T c k=X at *;go_enter func19,ntmps19;go_wp2_with fail;refine(H.out _ bw).mono ?_;rintro e w1 ⟨bo,bc,rfl,hd,hb⟩;replace bw:=bg bw hb;clear hb H
  go_wp2
  go_loopw [11,10] (fun s v wr=>∃q:Nat,q<=T.length/\s=.int .i64 q/\v=.int .i64 (Sh.cp (fun d=>decide (d=c)) T q:Nat)/\Hid (∀j,j<q->¬(gt T j=c/\(Sh.cp (fun d=>decide (d=c)) T j:Int)=k))/\wr=w1) (fun s _ _=>T.length-(intOf s).toNat)
  case atStart=>exact⟨0,Nat.zero_le _,rfl,rfl,fun j hj=>absurd hj (by omega),rfl⟩
  case round=>
   obtain⟨q,hq,rfl,rfl,HJ,rfl⟩:=hrel;by_cases hi2:q<T.length
   .obtain⟨b,off,rfl,hbl,hcc⟩:=hd (by omega);have e2:=hcc q hi2;have j2:(q:Int)<(T.length:Int):=by omega
    have cs:=u_ T c q;have cl:=pi T c q;have YQ:=ag (YE.out q hi2)
    have NQ:Hid (¬(gt T q=c/\(Sh.cp (fun d=>decide (d=c)) T q:Int)=k)->∀j,j<q+1->¬(gt T j=c/\(Sh.cp (fun d=>decide (d=c)) T j:Int)=k)):=fun h j hj=>by
     by_cases e:j=q
     .subst e;exact h
     .exact HJ.out j (by omega)
    obtain⟨O,hO⟩:∃O,Hid (O=Sh.cp (fun d=>decide (d=c)) T (q+1)):=⟨_,rfl⟩;rw[<-hO.out]at cs;generalize Sh.cp (fun d=>decide (d=c)) T q=Y at *;clear hcc hd HJ NO YE;by_cases e:gt T q=c
    .have e3:((gt T q:Int) != (c:Int))=false:=by simp;omega
     rw[if_pos e]at cs;by_cases e4:(Y:Int)=k
     .obtain⟨rfl,rfl⟩:=YQ.out e e4;have e5:((Y:Int)==k)=true:=by simp[e4]
      clear e NQ YQ;generalize gt T q=G at *;go_wp2;go_ret2;exact⟨rfl,bw⟩
     .have e5:((Y:Int)==k)=false:=by simp[e4]
      have HW:=ag bw;have NN:=ag (NQ.out fun z=>e4 z.2);clear e NQ YQ e4 bw;generalize gt T q=G at *;go_wp2
      exact⟨⟨q+1,by omega,by go_num,by rw[<-hO.out,cs,Int.natCast_add];go_num,NN,trivial⟩,by simp only[intOf];omega⟩
    .have e3:((gt T q:Int) != (c:Int))=true:=by simp;omega
     rw[if_neg e,Nat.add_zero]at cs;have NN:=ag (NQ.out fun z=>e z.1);have HW:=ag bw;clear e NQ YQ bw;generalize gt T q=G at *;go_wp2
     exact⟨⟨q+1,by omega,by go_num,by rw[<-hO.out,cs],NN,trivial⟩,by simp only[intOf];omega⟩
   .obtain rfl:q=T.length:=by omega
    obtain⟨rfl,rfl⟩:=NO.out HJ.out;go_wp2;go_ret2;exact⟨rfl,bw⟩
def mT(x:MR):List Nat:=if mOk x then mX x else []
theorem MI.fits{w:World}{lo:Option Addr}{lc:Nat}{zo:Option Addr}{zc:Nat}{x:MR}(h:MI w lo lc zo zc x)(l:Nat):aA (aY (mrw x l)):=by
 by_cases hl:l<x.av.length
 .obtain⟨b,off,e,hb,hc⟩:=h.l (by omega);obtain⟨cs,_,k⟩:=hc l hl;exact k.fit
 .have:mrw x l=ra0:=by unfold mrw;rw[List.getD_eq_getElem?_getD,List.getElem?_eq_none (by omega)];rfl
  rw[this];exact jz
theorem qI(x:MR)(h:x.N<=600):(mT x).length<=600:=by
 unfold mT;split
 .exact oB x h
 .exact Nat.zero_le _
def mdR(av:List RA):Nat->Int
 | 0=>0
 | q+1=>wrap64 (wrap64 (mdR av q+32)+kZ (av.getD q ra0))
def kt(x:MR):Int:=if mOk x then mdR x.av 8 else 0
theorem vb(k:Int):mbE k=0↔1<=k/\k<=3:=by
 unfold mbE;split
 .simp_all
 .simp_all
theorem Aw(lo:Option Addr)(lc:Nat)(zo:Option Addr)(zc:Nat)(x:MR)(w:World)(h:MI w lo lc zo zc x)(hl:x.av.length<=20)(hN:x.N<=600):
  Calls prog 42 #[.agg #[.int .i64 x.K,.int .i64 x.N,.slice lo x.av.length lc,.slice zo x.zs.length zc]] w fun e w'=>∃bo bc,e=.returned (.tuple #[.slice bo (mT x).length bc,.bool (mOk x)])/\Bd w' bo (mT x)/\Below w.heap.size w w':=by
 have hS:=vt x (fun l _=>h.fits l) hN;have hn:=oB x hN
 have RW:Hid (∀w0,Below w.heap.size w w0->Calls prog 74 #[.agg #[.int .i64 x.K,.int .i64 x.N,.slice lo x.av.length lc,.slice zo x.zs.length zc]] w0 fun e w'=>∃bo bc,e=.returned (.slice bo (mX x).length bc)/\Bd w' bo (mX x)/\Below w0.heap.size w0 w'):=fun w0 hb=>AC lo lc zo zc x w0 (h.keep hb)
 have BU:Hid (∀w0 bo bc,Below w.heap.size w w0->Bd w0 bo (mX x)->Calls prog 11 #[.int .i64 x.K,.slice bo (mX x).length bc] w0 fun e w'=>∃l2 c2 z2 d2,e=.returned (.tuple #[.agg #[.int .i64 (eI x.K (mX x)).K,.int .i64 (eI x.K (mX x)).N,.slice l2 (eI x.K (mX x)).av.length c2,.slice z2 (eI x.K (mX x)).zs.length d2],.int .i64 (mbE x.K)])/\MI w' l2 c2 z2 d2 (eI x.K (mX x))/\Below w0.heap.size w0 w'):=fun w0 bo bc hb hd=>AE x.K bo (mX x) bc w0 h.k hd (xA x) (by omega) (h.gv.keep hb)
 have hW:Hid (mOk x=true->mT x=mX x):=fun e=>by unfold mT;rw[if_pos e]
 have hZ:Hid (mOk x=false->mT x=[]):=fun e=>by unfold mT;rw[e];rfl
 have HI:=ag h;have bx:=aa.new w [.int .i64 x.K,.int .i64 x.N,.slice lo x.av.length lc,.slice zo x.zs.length zc] 27
 have bw:=below_alloc w (.cells #[.int .i64 x.K,.int .i64 x.N,.slice lo x.av.length lc,.slice zo x.zs.length zc] 27);by_cases hE:mbE x.K=0
 .have eY:eI x.K (mX x)=mRx x.K (mX x):=by unfold eI;rw[if_pos hE]
  rw[hE,eY]at BU
  have SA:Hid (∀w0 l2 c2 z2 d2,MI w0 lo lc zo zc x->MI w0 l2 c2 z2 d2 (mRx x.K (mX x))->Qq 12 #[.agg #[.int .i64 x.K,.int .i64 x.N,.slice lo x.av.length lc,.slice zo x.zs.length zc],.agg #[.int .i64 (mRx x.K (mX x)).K,.int .i64 (mRx x.K (mX x)).N,.slice l2 (mRx x.K (mX x)).av.length c2,.slice z2 (mRx x.K (mX x)).zs.length d2]] w0 (.bool (mOk x))):=fun w0 l2 c2 z2 d2 g1 g2=>AB lo zo l2 z2 lc zc c2 d2 x (mRx x.K (mX x)) w0 g1 g2 hl (by show(mA x.K (mX x)).length<=20;rw[iA];decide) (mOk x) (hS.trans ⟨fun z=>z.2,fun z=>⟨(vb _).1 hE,z⟩⟩)
  clear h hS hn hl hN;generalize mRx x.K (mX x)=A at *;generalize mX x=RT at *;generalize mT x=WT at *;generalize mOk x=ok at *;generalize A.K=K2 at *;generalize A.N=N2 at *;generalize A.av.length=a2 at *
  generalize A.zs.length=b2 at *;obtain⟨K,hK'⟩:∃K,Hid (K=x.K):=⟨_,rfl⟩;obtain⟨N,hN'⟩:∃N,Hid (N=x.N):=⟨_,rfl⟩;obtain⟨a,ha'⟩:∃a,Hid (a=x.av.length):=⟨_,rfl⟩
  obtain⟨b,hb'⟩:∃b,Hid (b=x.zs.length):=⟨_,rfl⟩;rw[<-hK'.out,<-hN'.out,<-ha'.out,<-hb'.out]at RW SA bx bw⊢;rw[<-hK'.out]at BU;clear hK' hN' ha' hb' eY hE;go_enter func42,ntmps42;go_wp2_with fail
  refine(RW.out _ bw).mono ?_;rintro e w1 ⟨bo,bc,rfl,hd,hb⟩;replace bx:=bx.kept hb;replace bw:=bg bw hb;clear hb RW;have x0:=bx.cell 0 rfl;go_wp2_with fail;refine(BU.out _ _ _ bw hd).mono ?_
  rintro e w2 ⟨l2,c2,z2,d2,rfl,hT,hb⟩;replace bx:=bx.kept hb;replace bw:=bg bw hb;replace hd:=hd.keep hb;clear hb BU x0
  have b3:=below_alloc w2 (.cells #[.int .i64 K2,.int .i64 N2,.slice l2 a2 c2,.slice z2 b2 d2] 27);have hT3:=hT.keep b3;replace bx:=bx.kept b3;replace bw:=bg bw b3;replace hd:=hd.keep b3
  have hI3:=HI.out.keep bw;clear hT b3;have x0:=bx.cell 0 rfl;have x1:=bx.cell 1 rfl;have x2:=bx.cell 2 rfl;have x3:=bx.cell 3 rfl;go_wp2_with fail;refine mr (SA.out _ _ _ _ _ hI3 hT3) fun w4 hb=>?_
  replace bw:=bg bw hb;replace hd:=hd.keep hb;clear hb SA x0 x1 x2 x3 bx hI3 hT3;cases ok with
  | true=>
   obtain rfl:=hW.out rfl;go_wp2;go_ret2;exact⟨_,_,rfl,hd,bw⟩
  | false=>
   obtain rfl:=hZ.out rfl;go_wp2;go_ret2;exact⟨none,0,rfl,fun h=>absurd h (by decide),bw⟩
 .have hf:mOk x=false:=Bool.eq_false_iff.2 fun e=>hE ((vb _).2 (hS.1 e).1);rw[hf,hZ.out hf];have e:eI x.K (mX x)=⟨0,0,[],[]⟩:=by unfold eI;rw[if_neg hE]
  rw[e]at BU;have hE2:(mbE x.K != 0)=true:=by simp[hE]
  clear h hE hn hS hW hZ hf HI hl hN e;generalize mX x=RT at *;generalize mbE x.K=E at *;generalize x.K=K at *;generalize x.N=N at *;generalize x.av.length=a at *;generalize x.zs.length=b at *
  go_enter func42,ntmps42;go_wp2_with fail;refine(RW.out _ bw).mono ?_;rintro e w1 ⟨bo,bc,rfl,hd,hb⟩;replace bx:=bx.kept hb;replace bw:=bg bw hb;clear hb RW;have x0:=bx.cell 0 rfl
  go_wp2_with fail;refine(BU.out _ _ _ bw hd).mono ?_;rintro e w2 ⟨l2,c2,z2,d2,rfl,_,hb⟩;replace bw:=bg bw hb
  have b3:=below_alloc w2 (.cells #[.int .i64 0,.int .i64 0,.slice l2 0 c2,.slice z2 0 d2] 27);replace bw:=bg bw b3;clear hb BU x0 hd bx b3;go_wp2;go_ret2
  exact⟨none,0,rfl,fun h=>absurd h (by decide),bw⟩
theorem MI.wh{w:World}{lo:Option Addr}{lc:Nat}{zo:Option Addr}{zc:Nat}{x:MR}(h:MI w lo lc zo zc x)(hl:x.av.length<=20)(hN:x.N<=600):iG w x.K x.N lo x.av.length lc zo x.zs.length zc (mT x) (mOk x):=fun w0 hb=>Aw lo lc zo zc x w0 (h.keep hb) hl hN
theorem Az(lo:Option Addr)(lc:Nat)(zo:Option Addr)(zc:Nat)(x:MR)(w:World)(h:MI w lo lc zo zc x)(CK:Qz w 21 #[.agg #[.int .i64 x.K,.int .i64 x.N,.slice lo x.av.length lc,.slice zo x.zs.length zc]] (.bool (mOk x))):
  Qq 14 #[.agg #[.int .i64 x.K,.int .i64 x.N,.slice lo x.av.length lc,.slice zo x.zs.length zc]] w (.int .i64 (kt x)):=by
 have CK:=ag CK;have bx:=aa.new w [.int .i64 x.K,.int .i64 x.N,.slice lo x.av.length lc,.slice zo x.zs.length zc] 27
 have bw:=below_alloc w (.cells #[.int .i64 x.K,.int .i64 x.N,.slice lo x.av.length lc,.slice zo x.zs.length zc] 27);cases ok:mOk x with
 | false=>
  rw[ok]at CK;have r1:kt x=0:=by unfold kt;rw[ok];rfl
  rw[r1];clear h ok r1;generalize x.N=N at *;generalize x.K=K at *;generalize x.av.length=m at *;generalize x.zs.length=m2 at *;go_enter func14,ntmps14;go_wp2_with fail;refine mr (CK.out _ bw) fun w1 hb=>?_;replace bw:=bg bw hb;clear hb bx;go_wp2;go_ret;exact⟨rfl,bw⟩
 | true=>
  have g2:=(oC ok).2.1;rw[ok]at CK;have r1:kt x=mdR x.av 8:=by unfold kt;rw[ok];rfl
  obtain⟨Z,hZ⟩:∃Z,Hid (Z=mdR x.av 8):=⟨_,rfl⟩;rw[r1,<-hZ.out];obtain⟨b,off,rfl,hbl,hrow⟩:=h.l (by rw[g2];decide)
  have CO:Hid (∀q,q<8->∃cs:List Value,w.rangeAt b (off+q*22) cs/\(prog.info? 63).map (·.size)=some cs.length/\Qz w 40 #[.agg cs.toArray] (.int .i64 (kZ (x.av.getD q ra0)))):=fun q hq=>by
   obtain⟨cs,h1,h2⟩:=hrow q (by rw[g2];exact hq);exact⟨cs,h1,h2.arg.len,fun w0 hb=>yI cs _ w0 (h2.keep hb)⟩
  rw[g2]at bx bw CK⊢;clear h r1 ok hrow;generalize x.K=K at *;generalize x.N=N at *;generalize x.zs.length=m2 at *;go_enter func14,ntmps14;go_wp2_with fail;refine mr (CK.out _ bw) fun w1 hb=>?_
  replace bw:=bg bw hb;replace bx:=bx.kept hb;clear hb CK;go_wp2
  go_loopw [4,3] (fun s v wr=>∃q:Nat,q<=8/\s=.int .i64 q/\v=.int .i64 (mdR x.av q)/\aa wr w.heap.size [.int .i64 K,.int .i64 N,.slice (some ⟨b,off,none⟩) 8 lc,.slice zo m2 zc] 27/\Below w.heap.size w wr) (fun s _ _=>8-(intOf s).toNat)
  case atStart=>exact⟨0,Nat.zero_le _,rfl,rfl,bx,bw⟩
  case round=>
   obtain⟨q,hq,rfl,rfl,hx,hb⟩:=hrel;clear bx bw;have x2:=hx.cell 2 rfl;by_cases hi:q<8
   .have hi2:(q:Int)<8:=by omega
    obtain⟨cs,rg,HL,C⟩:=CO.out q hi;have HL:=ag HL;have C:=ag C;have rg2:=jG rg hb hbl;have E:Hid (wrap64 (wrap64 (mdR x.av q+32)+kZ (x.av.getD q ra0))=mdR x.av (q+1)):=rfl
    generalize kZ (x.av.getD q ra0)=Y at *;generalize mdR x.av q=X at *;go_wp2_with (refine aR b (off+q*22) cs (by rfl) rfl rg2 underlying63 HL.out ?_);refine mr (C.out _ hb) fun w2 hb2=>?_
    replace hx:=hx.kept hb2;replace hb:=bg hb hb2;have HF:=ag (And.intro hx hb);clear hx hb hb2 rg rg2 x2 CO;go_wp2;refine⟨⟨q+1,by omega,by go_num,?_,HF.out⟩,by simp only[intOf];omega⟩
    rw[<-E.out];try rfl
   .obtain rfl:q=8:=by omega
    clear CO;rw[<-hZ.out];go_wp2;go_ret;exact⟨rfl,hb⟩
def smB(a:RA):Bool:=(decide (a.p.N<=3000)&&(decide ((a.p.xs.length:Int)<=3000)&&(decide ((a.p.S.length:Int)<=3000)&&(decide ((a.p.T.length:Int)<=3000)&&(decide (a.r.N<=3000)&&(decide (a.r.k<=3000)&&(decide ((a.r.xs.length:Int)<=3000)&&(decide ((a.r.ys.length:Int)<=3000)&&(decide ((a.r.S.length:Int)<=3000)&&(decide ((a.r.T.length:Int)<=3000)&&(decide (a.f.N<=3000)&&(decide (a.f.M<=3000)&&(decide (a.f.k<=3000)&&(decide ((a.f.xs.length:Int)<=3000)&&decide ((a.f.ys.length:Int)<=3000)))))))))))))))
theorem zu(a:RA)(h:smB a=true):a.p.N<=3000/\(a.p.xs.length:Int)<=3000/\(a.p.S.length:Int)<=3000/\(a.p.T.length:Int)<=3000/\a.r.N<=3000/\a.r.k<=3000/\(a.r.xs.length:Int)<=3000/\(a.r.ys.length:Int)<=3000/\(a.r.S.length:Int)<=3000/\(a.r.T.length:Int)<=3000/\a.f.N<=3000/\a.f.M<=3000/\a.f.k<=3000/\(a.f.xs.length:Int)<=3000/\(a.f.ys.length:Int)<=3000:=by
 unfold smB at h;simp only[Bool.and_eq_true,decide_eq_true_eq]at h;exact h
theorem dD.ki{w:World}{cs:List Value}{a:RA}(h:dD w cs a)(hs:smB a=true)(G:GV w):KI w cs a:=by
 have:=zu a hs;exact⟨h,⟨by omega,by omega,by omega,by omega,by omega,by omega,by omega,by omega,by omega,by omega⟩,G⟩
section
variable {P:Program} {ops:Array Oper} {Q:Exit->Act->World->Prop} {md:Region.Mode} {S:World->Prop} {ns:List Nat}
theorem aw.three(i j k:Nat){o p q:Oper}{f:Nat}{l:Array Bool}{a:Act}{w:World}(hr:Region.ready md ops l=[i,j,k])(ho:ops[i]?=some o)(hp:ops[j]?=some p)(hq:ops[k]?=some q)
  (h:∀K:Act->World->Prop,Shut (∀a' w',(i ∉ ns->S w')->aw P md ops Q S ns f (l.setIfInBounds i true) a' w'->K a' w')->if Region.wanted o (yielded ops a.tmps)=true then Oper.wp P o a w K Q else K (a.put o.dst undef) w)
  (h2:∀K:Act->World->Prop,Shut (∀a' w',(j ∉ ns->S w')->aw P md ops Q S ns f (l.setIfInBounds j true) a' w'->K a' w')->if Region.wanted p (yielded ops a.tmps)=true then Oper.wp P p a w K Q else K (a.put p.dst undef) w)
  (h3:∀K:Act->World->Prop,Shut (∀a' w',(k ∉ ns->S w')->aw P md ops Q S ns f (l.setIfInBounds k true) a' w'->K a' w')->if Region.wanted q (yielded ops a.tmps)=true then Oper.wp P q a w K Q else K (a.put q.dst undef) w):
  aw P md ops Q S ns (f+1) l a w:=by
 refine⟨fun h0=>absurd (hr.symm.trans h0) (by simp),fun x hx=>?_⟩;rw[hr]at hx;rcases List.mem_cons.1 hx with rfl | hx
 .exact wpOp_step ho (fun K hK=>h K (fun a' w' hS hW=>hK a' w' ⟨fun n _=>hS n,hW⟩))
 .rcases List.mem_cons.1 hx with rfl | hx
  .exact wpOp_step hp (fun K hK=>h2 K (fun a' w' hS hW=>hK a' w' ⟨fun n _=>hS n,hW⟩))
  .obtain rfl:=List.mem_singleton.1 hx;exact wpOp_step hq (fun K hK=>h3 K (fun a' w' hS hW=>hK a' w' ⟨fun n _=>hS n,hW⟩))
end
theorem pW{T:TypeId}{w:World}{x:Operand}{ρ:Operand->Value}{d:Option Tmp}{ty:TypeId}{ps:String}{af:Array Edge}{gd:Option (Nat×Bool)}
  (g o:Nat) (cs:List Value) {fs:Array Field} (hx:ρ x=.pointer (some ⟨g,o,none⟩)) (hc:w.rangeAt g o cs) (hu:prog.underlying T=some (.struct fs)) (hi:(prog.info? T).map (·.size)=some cs.length):
  (execOp ρ (⟨d,.load T x,ty,ps,af,gd⟩:Oper)).run prog w=.ok (.value (.agg cs.toArray)) w:=by
 have hl:=run_loadVar_mid (P:=prog) w g o T cs _ hc hu rfl hi;unfold execOp;simp only[hx,Instr.loadAt,Instr.sureAddr,Sem.run_bind,Sem.run_pure,Result.andThen_ok,hl]
theorem yG(cs:List Value)(a:RA)(w:World)(h:dD w cs a):
  Qq 41 #[.agg cs.toArray] w (.bool (smB a)):=by
 obtain⟨cp,cr,cf,rfl,hK,h1,h2,h3⟩:=h;have l4:=Hid.mk8 h1.four;have l9:=Hid.mk8 h2.nine;have LP:=Hid.mk8 h1.len;have LR:=Hid.mk8 h2.len;have LF:=Hid.mk8 h3.len;obtain⟨K,p,r,f⟩:=a;dsimp only at *
 have l8:=Hid.mk8 h3.nine;have o7:=Hid.mk8 h1.one;have o8:=Hid.mk8 h2.one;have o9:=Hid.mk8 h3.one;obtain⟨Z,hZ⟩:∃Z,Hid (Z=smB ⟨K,p,r,f⟩):=⟨_,rfl⟩;rw[<-hZ.out]
 have B0:aa (w.alloc (.cells (Value.int .i64 K::(cp++(cr++cf))).toArray 63)) w.heap.size (Value.int .i64 K::(cp++(cr++cf))) 63:=aa.new w _ _
 have bw:Below w.heap.size w (w.alloc (.cells (Value.int .i64 K::(cp++(cr++cf))).toArray 63)):=below_alloc w _;go_enter func41,ntmps41;go_upto_region 1 with fail
 go_cut [3,4,5] (fun s3 s4 s5 wx=>∃g3 g4 g5:Nat,s3=.pointer (some ⟨g3,0,none⟩)/\s4=.pointer (some ⟨g4,0,none⟩)/\s5=.pointer (some ⟨g5,0,none⟩)/\aa wx g3 cp 55/\aa wx g4 cr 59/\aa wx g5 cf 61/\Below w.heap.size w wx)
 case first=>
  refine ba [] (fun w'=>aa w' w.heap.size (Value.int .i64 K::(cp++(cr++cf))) 63/\Below w.heap.size w w') (by kernel_rfl) ?_
  have hS:=And.intro (B0.kept (Below.refl _ _).drew) bw.drew;clear B0 bw;generalize (w.alloc (.cells (Value.int .i64 K::(cp++(cr++cf))).toArray 63)).drew=wd at *;refine aK 0 hS ?_
  refine aF 1 (v:=.agg cp.toArray) hS rfl (fun w0 h0=>by obtain⟨c0,p1,p2,p3⟩:=parts l4.out l9.out h0.1;exact pW w.heap.size 1 cp rfl p1 underlying55 LP.out) ?_;refine aK 2 hS ?_
  refine aF 3 (v:=.agg cr.toArray) hS rfl (fun w0 h0=>by obtain⟨c0,p1,p2,p3⟩:=parts l4.out l9.out h0.1;exact pW w.heap.size 5 cr rfl p2 underlying59 LR.out) ?_;refine aK 4 hS ?_
  refine aF 5 (v:=.agg cf.toArray) hS rfl (fun w0 h0=>by obtain⟨c0,p1,p2,p3⟩:=parts l4.out l9.out h0.1;exact pW w.heap.size 14 cf rfl p3 underlying61 LF.out) ?_;have z0:=hS.1.lt
  refine aw.three 6 7 8 (by kernel_rfl) rfl rfl rfl ?_ ?_ ?_
  .intro K hK;go_simp;have hb:=below_alloc wd (.cells #[.int .i64 0,.slice none 0 0,.slice none 0 0,.slice none 0 0] 55);have Y6:=aa.new wd [Value.int .i64 0,.slice none 0 0,.slice none 0 0,.slice none 0 0] 55
   replace hS:=And.intro (hS.1.kept hb) (hS.2.trans (hb.mono hS.2.size));refine hK.out _ _ (fun _=>hS) ?_;clear hK K hb;try simp only[Act.put,ar,an,am,ah,aj,ai]
   have zz63:(wd.alloc (.cells #[.int .i64 0,.slice none 0 0,.slice none 0 0,.slice none 0 0] 55)).heap.size=wd.heap.size+1:=by simp
   generalize wd.alloc (.cells #[.int .i64 0,.slice none 0 0,.slice none 0 0,.slice none 0 0] 55)=wn63 at *;refine aw.two 7 8 (by kernel_rfl) rfl rfl ?_ ?_
   .intro K hK;go_simp;have hb:=below_alloc wn63 (.cells #[.int .i64 0,.int .i64 0,.int .i64 0,.int .i64 0,.slice none 0 0,.int .i64 0,.slice none 0 0,.slice none 0 0,.slice none 0 0] 59)
    have Y7:=aa.new wn63 [Value.int .i64 0,.int .i64 0,.int .i64 0,.int .i64 0,.slice none 0 0,.int .i64 0,.slice none 0 0,.slice none 0 0,.slice none 0 0] 59
    replace hS:=And.intro (hS.1.kept hb) (hS.2.trans (hb.mono hS.2.size));replace Y6:=Y6.kept hb;refine hK.out _ _ (fun _=>hS) ?_;clear hK K hb;try simp only[Act.put,ar,an,am,ah,aj,ai]
    have zz72:(wn63.alloc (.cells #[.int .i64 0,.int .i64 0,.int .i64 0,.int .i64 0,.slice none 0 0,.int .i64 0,.slice none 0 0,.slice none 0 0,.slice none 0 0] 59)).heap.size=wn63.heap.size+1:=by simp
    generalize wn63.alloc (.cells #[.int .i64 0,.int .i64 0,.int .i64 0,.int .i64 0,.slice none 0 0,.int .i64 0,.slice none 0 0,.slice none 0 0,.slice none 0 0] 59)=wn72 at *;refine aO 8 ?_;intro K hK;go_simp
    have hb:=below_alloc wn72 (.cells #[.int .i64 0,.int .i64 0,.int .i64 0,.int .i64 0,.int .i64 0,.slice none 0 0,.int .i64 0,.slice none 0 0] 61)
    have Y8:=aa.new wn72 [Value.int .i64 0,.int .i64 0,.int .i64 0,.int .i64 0,.int .i64 0,.slice none 0 0,.int .i64 0,.slice none 0 0] 61;replace hS:=And.intro (hS.1.kept hb) (hS.2.trans (hb.mono hS.2.size))
    replace Y6:=Y6.kept hb;replace Y7:=Y7.kept hb;refine hK.out _ _ (fun _=>hS) ?_;clear hK K hb;try simp only[Act.put,ar,an,am,ah,aj,ai]
    refine aO 9 ?_;intro K hK;refine dQ _ _ cp rfl rfl (Y6.at (by omega)) l4.out.symm LP.out o7.out ?_;intro v6 X6 O6;replace Y7:=O6.cel Y7 (by omega);replace Y8:=O6.cel Y8 (by omega)
    replace hS:=And.intro (O6.cel hS.1 (by omega)) (hS.2.trans (O6.below (by omega)));clear O6 Y6;refine hK.out _ _ (fun _=>hS) ?_;clear hK K;try simp only[Act.put,ar,an,am,ah,aj,ai]
    refine aO 10 ?_;intro K hK;refine dQ _ _ cr rfl rfl (Y7.at (by omega)) l9.out LR.out o8.out ?_;intro v7 X7 O7;replace Y8:=O7.cel Y8 (by omega);replace X6:=O7.cel X6 (by omega)
    replace hS:=And.intro (O7.cel hS.1 (by omega)) (hS.2.trans (O7.below (by omega)));clear O7 Y7;refine hK.out _ _ (fun _=>hS) ?_;clear hK K;try simp only[Act.put,ar,an,am,ah,aj,ai]
    refine aO 11 ?_;intro K hK;refine dQ _ _ cf rfl rfl (Y8.at (by omega)) l8.out LF.out o9.out ?_;intro v8 X8 O8;replace X6:=O8.cel X6 (by omega);replace X7:=O8.cel X7 (by omega)
    replace hS:=And.intro (O8.cel hS.1 (by omega)) (hS.2.trans (O8.below (by omega)));clear O8 Y8;refine hK.out _ _ (fun _=>hS) ?_;clear hK K;try simp only[Act.put,ar,an,am,ah,aj,ai]
    refine aw.done (by kernel_rfl) ?_ _;go_wp2_with fail;go_meet;exact⟨_,_,_,rfl,rfl,rfl,X6,X7,X8,hS.2⟩
   .intro K hK;go_simp;have hb:=below_alloc wn63 (.cells #[.int .i64 0,.int .i64 0,.int .i64 0,.int .i64 0,.int .i64 0,.slice none 0 0,.int .i64 0,.slice none 0 0] 61)
    have Y8:=aa.new wn63 [Value.int .i64 0,.int .i64 0,.int .i64 0,.int .i64 0,.int .i64 0,.slice none 0 0,.int .i64 0,.slice none 0 0] 61;replace hS:=And.intro (hS.1.kept hb) (hS.2.trans (hb.mono hS.2.size))
    replace Y6:=Y6.kept hb;refine hK.out _ _ (fun _=>hS) ?_;clear hK K hb;try simp only[Act.put,ar,an,am,ah,aj,ai]
    have zz82:(wn63.alloc (.cells #[.int .i64 0,.int .i64 0,.int .i64 0,.int .i64 0,.int .i64 0,.slice none 0 0,.int .i64 0,.slice none 0 0] 61)).heap.size=wn63.heap.size+1:=by simp
    generalize wn63.alloc (.cells #[.int .i64 0,.int .i64 0,.int .i64 0,.int .i64 0,.int .i64 0,.slice none 0 0,.int .i64 0,.slice none 0 0] 61)=wn82 at *;refine aO 7 ?_;intro K hK;go_simp
    have hb:=below_alloc wn82 (.cells #[.int .i64 0,.int .i64 0,.int .i64 0,.int .i64 0,.slice none 0 0,.int .i64 0,.slice none 0 0,.slice none 0 0,.slice none 0 0] 59)
    have Y7:=aa.new wn82 [Value.int .i64 0,.int .i64 0,.int .i64 0,.int .i64 0,.slice none 0 0,.int .i64 0,.slice none 0 0,.slice none 0 0,.slice none 0 0] 59
    replace hS:=And.intro (hS.1.kept hb) (hS.2.trans (hb.mono hS.2.size));replace Y6:=Y6.kept hb;replace Y8:=Y8.kept hb;refine hK.out _ _ (fun _=>hS) ?_;clear hK K hb
    try simp only[Act.put,ar,an,am,ah,aj,ai]
    refine aO 9 ?_;intro K hK;refine dQ _ _ cp rfl rfl (Y6.at (by omega)) l4.out.symm LP.out o7.out ?_;intro v6 X6 O6;replace Y7:=O6.cel Y7 (by omega);replace Y8:=O6.cel Y8 (by omega)
    replace hS:=And.intro (O6.cel hS.1 (by omega)) (hS.2.trans (O6.below (by omega)));clear O6 Y6;refine hK.out _ _ (fun _=>hS) ?_;clear hK K;try simp only[Act.put,ar,an,am,ah,aj,ai]
    refine aO 10 ?_;intro K hK;refine dQ _ _ cr rfl rfl (Y7.at (by omega)) l9.out LR.out o8.out ?_;intro v7 X7 O7;replace Y8:=O7.cel Y8 (by omega);replace X6:=O7.cel X6 (by omega)
    replace hS:=And.intro (O7.cel hS.1 (by omega)) (hS.2.trans (O7.below (by omega)));clear O7 Y7;refine hK.out _ _ (fun _=>hS) ?_;clear hK K;try simp only[Act.put,ar,an,am,ah,aj,ai]
    refine aO 11 ?_;intro K hK;refine dQ _ _ cf rfl rfl (Y8.at (by omega)) l8.out LF.out o9.out ?_;intro v8 X8 O8;replace X6:=O8.cel X6 (by omega);replace X7:=O8.cel X7 (by omega)
    replace hS:=And.intro (O8.cel hS.1 (by omega)) (hS.2.trans (O8.below (by omega)));clear O8 Y8;refine hK.out _ _ (fun _=>hS) ?_;clear hK K;try simp only[Act.put,ar,an,am,ah,aj,ai]
    refine aw.done (by kernel_rfl) ?_ _;go_wp2_with fail;go_meet;exact⟨_,_,_,rfl,rfl,rfl,X6,X7,X8,hS.2⟩
  .intro K hK;go_simp;have hb:=below_alloc wd (.cells #[.int .i64 0,.int .i64 0,.int .i64 0,.int .i64 0,.slice none 0 0,.int .i64 0,.slice none 0 0,.slice none 0 0,.slice none 0 0] 59)
   have Y7:=aa.new wd [Value.int .i64 0,.int .i64 0,.int .i64 0,.int .i64 0,.slice none 0 0,.int .i64 0,.slice none 0 0,.slice none 0 0,.slice none 0 0] 59
   replace hS:=And.intro (hS.1.kept hb) (hS.2.trans (hb.mono hS.2.size));refine hK.out _ _ (fun _=>hS) ?_;clear hK K hb;try simp only[Act.put,ar,an,am,ah,aj,ai]
   have zz73:(wd.alloc (.cells #[.int .i64 0,.int .i64 0,.int .i64 0,.int .i64 0,.slice none 0 0,.int .i64 0,.slice none 0 0,.slice none 0 0,.slice none 0 0] 59)).heap.size=wd.heap.size+1:=by simp
   generalize wd.alloc (.cells #[.int .i64 0,.int .i64 0,.int .i64 0,.int .i64 0,.slice none 0 0,.int .i64 0,.slice none 0 0,.slice none 0 0,.slice none 0 0] 59)=wn73 at *
   refine aw.two 6 8 (by kernel_rfl) rfl rfl ?_ ?_
   .intro K hK;go_simp;have hb:=below_alloc wn73 (.cells #[.int .i64 0,.slice none 0 0,.slice none 0 0,.slice none 0 0] 55);have Y6:=aa.new wn73 [Value.int .i64 0,.slice none 0 0,.slice none 0 0,.slice none 0 0] 55
    replace hS:=And.intro (hS.1.kept hb) (hS.2.trans (hb.mono hS.2.size));replace Y7:=Y7.kept hb;refine hK.out _ _ (fun _=>hS) ?_;clear hK K hb;try simp only[Act.put,ar,an,am,ah,aj,ai]
    have zz62:(wn73.alloc (.cells #[.int .i64 0,.slice none 0 0,.slice none 0 0,.slice none 0 0] 55)).heap.size=wn73.heap.size+1:=by simp
    generalize wn73.alloc (.cells #[.int .i64 0,.slice none 0 0,.slice none 0 0,.slice none 0 0] 55)=wn62 at *;refine aO 8 ?_;intro K hK;go_simp
    have hb:=below_alloc wn62 (.cells #[.int .i64 0,.int .i64 0,.int .i64 0,.int .i64 0,.int .i64 0,.slice none 0 0,.int .i64 0,.slice none 0 0] 61)
    have Y8:=aa.new wn62 [Value.int .i64 0,.int .i64 0,.int .i64 0,.int .i64 0,.int .i64 0,.slice none 0 0,.int .i64 0,.slice none 0 0] 61;replace hS:=And.intro (hS.1.kept hb) (hS.2.trans (hb.mono hS.2.size))
    replace Y7:=Y7.kept hb;replace Y6:=Y6.kept hb;refine hK.out _ _ (fun _=>hS) ?_;clear hK K hb;try simp only[Act.put,ar,an,am,ah,aj,ai]
    refine aO 9 ?_;intro K hK;refine dQ _ _ cp rfl rfl (Y6.at (by omega)) l4.out.symm LP.out o7.out ?_;intro v6 X6 O6;replace Y7:=O6.cel Y7 (by omega);replace Y8:=O6.cel Y8 (by omega)
    replace hS:=And.intro (O6.cel hS.1 (by omega)) (hS.2.trans (O6.below (by omega)));clear O6 Y6;refine hK.out _ _ (fun _=>hS) ?_;clear hK K;try simp only[Act.put,ar,an,am,ah,aj,ai]
    refine aO 10 ?_;intro K hK;refine dQ _ _ cr rfl rfl (Y7.at (by omega)) l9.out LR.out o8.out ?_;intro v7 X7 O7;replace Y8:=O7.cel Y8 (by omega);replace X6:=O7.cel X6 (by omega)
    replace hS:=And.intro (O7.cel hS.1 (by omega)) (hS.2.trans (O7.below (by omega)));clear O7 Y7;refine hK.out _ _ (fun _=>hS) ?_;clear hK K;try simp only[Act.put,ar,an,am,ah,aj,ai]
    refine aO 11 ?_;intro K hK;refine dQ _ _ cf rfl rfl (Y8.at (by omega)) l8.out LF.out o9.out ?_;intro v8 X8 O8;replace X6:=O8.cel X6 (by omega);replace X7:=O8.cel X7 (by omega)
    replace hS:=And.intro (O8.cel hS.1 (by omega)) (hS.2.trans (O8.below (by omega)));clear O8 Y8;refine hK.out _ _ (fun _=>hS) ?_;clear hK K;try simp only[Act.put,ar,an,am,ah,aj,ai]
    refine aw.done (by kernel_rfl) ?_ _;go_wp2_with fail;go_meet;exact⟨_,_,_,rfl,rfl,rfl,X6,X7,X8,hS.2⟩
   .intro K hK;go_simp;have hb:=below_alloc wn73 (.cells #[.int .i64 0,.int .i64 0,.int .i64 0,.int .i64 0,.int .i64 0,.slice none 0 0,.int .i64 0,.slice none 0 0] 61)
    have Y8:=aa.new wn73 [Value.int .i64 0,.int .i64 0,.int .i64 0,.int .i64 0,.int .i64 0,.slice none 0 0,.int .i64 0,.slice none 0 0] 61;replace hS:=And.intro (hS.1.kept hb) (hS.2.trans (hb.mono hS.2.size))
    replace Y7:=Y7.kept hb;refine hK.out _ _ (fun _=>hS) ?_;clear hK K hb;try simp only[Act.put,ar,an,am,ah,aj,ai]
    have zz82:(wn73.alloc (.cells #[.int .i64 0,.int .i64 0,.int .i64 0,.int .i64 0,.int .i64 0,.slice none 0 0,.int .i64 0,.slice none 0 0] 61)).heap.size=wn73.heap.size+1:=by simp
    generalize wn73.alloc (.cells #[.int .i64 0,.int .i64 0,.int .i64 0,.int .i64 0,.int .i64 0,.slice none 0 0,.int .i64 0,.slice none 0 0] 61)=wn82 at *;refine aO 6 ?_;intro K hK;go_simp
    have hb:=below_alloc wn82 (.cells #[.int .i64 0,.slice none 0 0,.slice none 0 0,.slice none 0 0] 55);have Y6:=aa.new wn82 [Value.int .i64 0,.slice none 0 0,.slice none 0 0,.slice none 0 0] 55
    replace hS:=And.intro (hS.1.kept hb) (hS.2.trans (hb.mono hS.2.size));replace Y7:=Y7.kept hb;replace Y8:=Y8.kept hb;refine hK.out _ _ (fun _=>hS) ?_;clear hK K hb
    try simp only[Act.put,ar,an,am,ah,aj,ai]
    refine aO 9 ?_;intro K hK;refine dQ _ _ cp rfl rfl (Y6.at (by omega)) l4.out.symm LP.out o7.out ?_;intro v6 X6 O6;replace Y7:=O6.cel Y7 (by omega);replace Y8:=O6.cel Y8 (by omega)
    replace hS:=And.intro (O6.cel hS.1 (by omega)) (hS.2.trans (O6.below (by omega)));clear O6 Y6;refine hK.out _ _ (fun _=>hS) ?_;clear hK K;try simp only[Act.put,ar,an,am,ah,aj,ai]
    refine aO 10 ?_;intro K hK;refine dQ _ _ cr rfl rfl (Y7.at (by omega)) l9.out LR.out o8.out ?_;intro v7 X7 O7;replace Y8:=O7.cel Y8 (by omega);replace X6:=O7.cel X6 (by omega)
    replace hS:=And.intro (O7.cel hS.1 (by omega)) (hS.2.trans (O7.below (by omega)));clear O7 Y7;refine hK.out _ _ (fun _=>hS) ?_;clear hK K;try simp only[Act.put,ar,an,am,ah,aj,ai]
    refine aO 11 ?_;intro K hK;refine dQ _ _ cf rfl rfl (Y8.at (by omega)) l8.out LF.out o9.out ?_;intro v8 X8 O8;replace X6:=O8.cel X6 (by omega);replace X7:=O8.cel X7 (by omega)
    replace hS:=And.intro (O8.cel hS.1 (by omega)) (hS.2.trans (O8.below (by omega)));clear O8 Y8;refine hK.out _ _ (fun _=>hS) ?_;clear hK K;try simp only[Act.put,ar,an,am,ah,aj,ai]
    refine aw.done (by kernel_rfl) ?_ _;go_wp2_with fail;go_meet;exact⟨_,_,_,rfl,rfl,rfl,X6,X7,X8,hS.2⟩
  .intro K hK;go_simp;have hb:=below_alloc wd (.cells #[.int .i64 0,.int .i64 0,.int .i64 0,.int .i64 0,.int .i64 0,.slice none 0 0,.int .i64 0,.slice none 0 0] 61)
   have Y8:=aa.new wd [Value.int .i64 0,.int .i64 0,.int .i64 0,.int .i64 0,.int .i64 0,.slice none 0 0,.int .i64 0,.slice none 0 0] 61;replace hS:=And.intro (hS.1.kept hb) (hS.2.trans (hb.mono hS.2.size))
   refine hK.out _ _ (fun _=>hS) ?_;clear hK K hb;try simp only[Act.put,ar,an,am,ah,aj,ai]
   have zz83:(wd.alloc (.cells #[.int .i64 0,.int .i64 0,.int .i64 0,.int .i64 0,.int .i64 0,.slice none 0 0,.int .i64 0,.slice none 0 0] 61)).heap.size=wd.heap.size+1:=by simp
   generalize wd.alloc (.cells #[.int .i64 0,.int .i64 0,.int .i64 0,.int .i64 0,.int .i64 0,.slice none 0 0,.int .i64 0,.slice none 0 0] 61)=wn83 at *;refine aw.two 6 7 (by kernel_rfl) rfl rfl ?_ ?_
   .intro K hK;go_simp;have hb:=below_alloc wn83 (.cells #[.int .i64 0,.slice none 0 0,.slice none 0 0,.slice none 0 0] 55);have Y6:=aa.new wn83 [Value.int .i64 0,.slice none 0 0,.slice none 0 0,.slice none 0 0] 55
    replace hS:=And.intro (hS.1.kept hb) (hS.2.trans (hb.mono hS.2.size));replace Y8:=Y8.kept hb;refine hK.out _ _ (fun _=>hS) ?_;clear hK K hb;try simp only[Act.put,ar,an,am,ah,aj,ai]
    have zz62:(wn83.alloc (.cells #[.int .i64 0,.slice none 0 0,.slice none 0 0,.slice none 0 0] 55)).heap.size=wn83.heap.size+1:=by simp
    generalize wn83.alloc (.cells #[.int .i64 0,.slice none 0 0,.slice none 0 0,.slice none 0 0] 55)=wn62 at *;refine aO 7 ?_;intro K hK;go_simp
    have hb:=below_alloc wn62 (.cells #[.int .i64 0,.int .i64 0,.int .i64 0,.int .i64 0,.slice none 0 0,.int .i64 0,.slice none 0 0,.slice none 0 0,.slice none 0 0] 59)
    have Y7:=aa.new wn62 [Value.int .i64 0,.int .i64 0,.int .i64 0,.int .i64 0,.slice none 0 0,.int .i64 0,.slice none 0 0,.slice none 0 0,.slice none 0 0] 59
    replace hS:=And.intro (hS.1.kept hb) (hS.2.trans (hb.mono hS.2.size));replace Y8:=Y8.kept hb;replace Y6:=Y6.kept hb;refine hK.out _ _ (fun _=>hS) ?_;clear hK K hb
    try simp only[Act.put,ar,an,am,ah,aj,ai]
    refine aO 9 ?_;intro K hK;refine dQ _ _ cp rfl rfl (Y6.at (by omega)) l4.out.symm LP.out o7.out ?_;intro v6 X6 O6;replace Y7:=O6.cel Y7 (by omega);replace Y8:=O6.cel Y8 (by omega)
    replace hS:=And.intro (O6.cel hS.1 (by omega)) (hS.2.trans (O6.below (by omega)));clear O6 Y6;refine hK.out _ _ (fun _=>hS) ?_;clear hK K;try simp only[Act.put,ar,an,am,ah,aj,ai]
    refine aO 10 ?_;intro K hK;refine dQ _ _ cr rfl rfl (Y7.at (by omega)) l9.out LR.out o8.out ?_;intro v7 X7 O7;replace Y8:=O7.cel Y8 (by omega);replace X6:=O7.cel X6 (by omega)
    replace hS:=And.intro (O7.cel hS.1 (by omega)) (hS.2.trans (O7.below (by omega)));clear O7 Y7;refine hK.out _ _ (fun _=>hS) ?_;clear hK K;try simp only[Act.put,ar,an,am,ah,aj,ai]
    refine aO 11 ?_;intro K hK;refine dQ _ _ cf rfl rfl (Y8.at (by omega)) l8.out LF.out o9.out ?_;intro v8 X8 O8;replace X6:=O8.cel X6 (by omega);replace X7:=O8.cel X7 (by omega)
    replace hS:=And.intro (O8.cel hS.1 (by omega)) (hS.2.trans (O8.below (by omega)));clear O8 Y8;refine hK.out _ _ (fun _=>hS) ?_;clear hK K;try simp only[Act.put,ar,an,am,ah,aj,ai]
    refine aw.done (by kernel_rfl) ?_ _;go_wp2_with fail;go_meet;exact⟨_,_,_,rfl,rfl,rfl,X6,X7,X8,hS.2⟩
   .intro K hK;go_simp;have hb:=below_alloc wn83 (.cells #[.int .i64 0,.int .i64 0,.int .i64 0,.int .i64 0,.slice none 0 0,.int .i64 0,.slice none 0 0,.slice none 0 0,.slice none 0 0] 59)
    have Y7:=aa.new wn83 [Value.int .i64 0,.int .i64 0,.int .i64 0,.int .i64 0,.slice none 0 0,.int .i64 0,.slice none 0 0,.slice none 0 0,.slice none 0 0] 59
    replace hS:=And.intro (hS.1.kept hb) (hS.2.trans (hb.mono hS.2.size));replace Y8:=Y8.kept hb;refine hK.out _ _ (fun _=>hS) ?_;clear hK K hb;try simp only[Act.put,ar,an,am,ah,aj,ai]
    have zz72:(wn83.alloc (.cells #[.int .i64 0,.int .i64 0,.int .i64 0,.int .i64 0,.slice none 0 0,.int .i64 0,.slice none 0 0,.slice none 0 0,.slice none 0 0] 59)).heap.size=wn83.heap.size+1:=by simp
    generalize wn83.alloc (.cells #[.int .i64 0,.int .i64 0,.int .i64 0,.int .i64 0,.slice none 0 0,.int .i64 0,.slice none 0 0,.slice none 0 0,.slice none 0 0] 59)=wn72 at *;refine aO 6 ?_;intro K hK;go_simp
    have hb:=below_alloc wn72 (.cells #[.int .i64 0,.slice none 0 0,.slice none 0 0,.slice none 0 0] 55);have Y6:=aa.new wn72 [Value.int .i64 0,.slice none 0 0,.slice none 0 0,.slice none 0 0] 55
    replace hS:=And.intro (hS.1.kept hb) (hS.2.trans (hb.mono hS.2.size));replace Y8:=Y8.kept hb;replace Y7:=Y7.kept hb;refine hK.out _ _ (fun _=>hS) ?_;clear hK K hb
    try simp only[Act.put,ar,an,am,ah,aj,ai]
    refine aO 9 ?_;intro K hK;refine dQ _ _ cp rfl rfl (Y6.at (by omega)) l4.out.symm LP.out o7.out ?_;intro v6 X6 O6;replace Y7:=O6.cel Y7 (by omega);replace Y8:=O6.cel Y8 (by omega)
    replace hS:=And.intro (O6.cel hS.1 (by omega)) (hS.2.trans (O6.below (by omega)));clear O6 Y6;refine hK.out _ _ (fun _=>hS) ?_;clear hK K;try simp only[Act.put,ar,an,am,ah,aj,ai]
    refine aO 10 ?_;intro K hK;refine dQ _ _ cr rfl rfl (Y7.at (by omega)) l9.out LR.out o8.out ?_;intro v7 X7 O7;replace Y8:=O7.cel Y8 (by omega);replace X6:=O7.cel X6 (by omega)
    replace hS:=And.intro (O7.cel hS.1 (by omega)) (hS.2.trans (O7.below (by omega)));clear O7 Y7;refine hK.out _ _ (fun _=>hS) ?_;clear hK K;try simp only[Act.put,ar,an,am,ah,aj,ai]
    refine aO 11 ?_;intro K hK;refine dQ _ _ cf rfl rfl (Y8.at (by omega)) l8.out LF.out o9.out ?_;intro v8 X8 O8;replace X6:=O8.cel X6 (by omega);replace X7:=O8.cel X7 (by omega)
    replace hS:=And.intro (O8.cel hS.1 (by omega)) (hS.2.trans (O8.below (by omega)));clear O8 Y8;refine hK.out _ _ (fun _=>hS) ?_;clear hK K;try simp only[Act.put,ar,an,am,ah,aj,ai]
    refine aw.done (by kernel_rfl) ?_ _;go_wp2_with fail;go_meet;exact⟨_,_,_,rfl,rfl,rfl,X6,X7,X8,hS.2⟩
 case rest=>
 obtain⟨g3,g4,g5,rfl,rfl,rfl,X6,X7,X8,bw1⟩:=hcut;clear B0 bw l4 l9 l8 o7 o8 o9 LP LR LF;obtain⟨ao,cap,so,sc,tO,tc,rfl, -⟩:=h1;obtain⟨b1,b2,b3,b4,b5,b6,b7,b8,rfl, -⟩:=h2
 obtain⟨d1,d2,d3,d4,rfl, -⟩:=h3;obtain⟨N7,x7,s7,u7⟩:=p;obtain⟨N8,k8,V8,M8,x8,L8,y8,s8,u8⟩:=r;obtain⟨N9,M9,k9,V9,L9,x9,H9,y9⟩:=f;dsimp only at *
 have E0:Hid (Z=((decide (N7<=3000)&&(decide ((x7.length:Int)<=3000)&&(decide ((s7.length:Int)<=3000)&&(decide ((u7.length:Int)<=3000)&&(decide (N8<=3000)&&(decide (k8<=3000)&&(decide ((x8.length:Int)<=3000)&&(decide ((y8.length:Int)<=3000)&&(decide ((s8.length:Int)<=3000)&&(decide ((u8.length:Int)<=3000)&&(decide (N9<=3000)&&(decide (M9<=3000)&&(decide (k9<=3000)&&(decide ((x9.length:Int)<=3000)&&decide ((y9.length:Int)<=3000))))))))))))))))):=hZ
 clear hZ;have a0:=X6.cell 0 rfl;have a1:=X6.cell 1 rfl;have a2:=X6.cell 2 rfl;have a3:=X6.cell 3 rfl;have e0:=X7.cell 0 rfl;have e1:=X7.cell 1 rfl;have e4:=X7.cell 4 rfl;have e6:=X7.cell 6 rfl
 have e7:=X7.cell 7 rfl;have e8:=X7.cell 8 rfl;have f0:=X8.cell 0 rfl;have f1:=X8.cell 1 rfl;have f2:=X8.cell 2 rfl;have f5:=X8.cell 5 rfl;have f7:=X8.cell 7 rfl;clear X6 X7 X8;by_cases q0:N7<=3000;rotate_left
 .have E:Hid (Z=false):=by
   show Z=false;rw[E0.out];simp only[decide_eq_false q0,Bool.true_and,Bool.false_and,Bool.and_false]
  clear E0;have g:3000<N7:=by omega
  go_wp2;go_ret;rw[E.out];exact⟨rfl,bw1⟩
 by_cases q1:(x7.length:Int)<=3000;rotate_left
 .have E:Hid (Z=false):=by
   show Z=false;rw[E0.out];simp only[decide_eq_true q0,decide_eq_false q1,Bool.true_and,Bool.false_and,Bool.and_false]
  clear E0;have g:3000<(x7.length:Int):=by omega
  go_wp2;go_ret;rw[E.out];exact⟨rfl,bw1⟩
 by_cases q2:(s7.length:Int)<=3000;rotate_left
 .have E:Hid (Z=false):=by
   show Z=false;rw[E0.out];simp only[decide_eq_true q0,decide_eq_true q1,decide_eq_false q2,Bool.true_and,Bool.false_and,Bool.and_false]
  clear E0;have g:3000<(s7.length:Int):=by omega
  go_wp2;go_ret;rw[E.out];exact⟨rfl,bw1⟩
 by_cases q3:(u7.length:Int)<=3000;rotate_left
 .have E:Hid (Z=false):=by
   show Z=false;rw[E0.out];simp only[decide_eq_true q0,decide_eq_true q1,decide_eq_true q2,decide_eq_false q3,Bool.true_and,Bool.false_and,Bool.and_false]
  clear E0;have g:3000<(u7.length:Int):=by omega
  go_wp2;go_ret;rw[E.out];exact⟨rfl,bw1⟩
 by_cases q4:N8<=3000;rotate_left
 .have E:Hid (Z=false):=by
   show Z=false;rw[E0.out];simp only[decide_eq_true q0,decide_eq_true q1,decide_eq_true q2,decide_eq_true q3,decide_eq_false q4,Bool.true_and,Bool.false_and,Bool.and_false]
  clear E0;have g:3000<N8:=by omega
  go_wp2;go_ret;rw[E.out];exact⟨rfl,bw1⟩
 by_cases q5:k8<=3000;rotate_left
 .have E:Hid (Z=false):=by
   show Z=false;rw[E0.out];simp only[decide_eq_true q0,decide_eq_true q1,decide_eq_true q2,decide_eq_true q3,decide_eq_true q4,decide_eq_false q5,Bool.true_and,Bool.false_and,Bool.and_false]
  clear E0;have g:3000<k8:=by omega
  go_wp2;go_ret;rw[E.out];exact⟨rfl,bw1⟩
 by_cases q6:(x8.length:Int)<=3000;rotate_left
 .have E:Hid (Z=false):=by
   show Z=false;rw[E0.out];simp only[decide_eq_true q0,decide_eq_true q1,decide_eq_true q2,decide_eq_true q3,decide_eq_true q4,decide_eq_true q5,decide_eq_false q6,Bool.true_and,Bool.false_and,Bool.and_false]
  clear E0;have g:3000<(x8.length:Int):=by omega
  go_wp2;go_ret;rw[E.out];exact⟨rfl,bw1⟩
 by_cases q7:(y8.length:Int)<=3000;rotate_left
 .have E:Hid (Z=false):=by
   show Z=false;rw[E0.out]
   simp only[decide_eq_true q0,decide_eq_true q1,decide_eq_true q2,decide_eq_true q3,decide_eq_true q4,decide_eq_true q5,decide_eq_true q6,decide_eq_false q7,Bool.true_and,Bool.false_and,Bool.and_false]
  clear E0;have g:3000<(y8.length:Int):=by omega
  go_wp2;go_ret;rw[E.out];exact⟨rfl,bw1⟩
 by_cases q8:(s8.length:Int)<=3000;rotate_left
 .have E:Hid (Z=false):=by
   show Z=false;rw[E0.out]
   simp only[decide_eq_true q0,decide_eq_true q1,decide_eq_true q2,decide_eq_true q3,decide_eq_true q4,decide_eq_true q5,decide_eq_true q6,decide_eq_true q7,decide_eq_false q8,Bool.true_and,Bool.false_and,Bool.and_false]
  clear E0;have g:3000<(s8.length:Int):=by omega
  go_wp2;go_ret;rw[E.out];exact⟨rfl,bw1⟩
 by_cases q9:(u8.length:Int)<=3000;rotate_left
 .have E:Hid (Z=false):=by
   show Z=false;rw[E0.out]
   simp only[decide_eq_true q0,decide_eq_true q1,decide_eq_true q2,decide_eq_true q3,decide_eq_true q4,decide_eq_true q5,decide_eq_true q6,decide_eq_true q7,decide_eq_true q8,decide_eq_false q9,Bool.true_and,Bool.false_and,Bool.and_false]
  clear E0;have g:3000<(u8.length:Int):=by omega
  go_wp2;go_ret;rw[E.out];exact⟨rfl,bw1⟩
 by_cases q10:N9<=3000;rotate_left
 .have E:Hid (Z=false):=by
   show Z=false;rw[E0.out]
   simp only[decide_eq_true q0,decide_eq_true q1,decide_eq_true q2,decide_eq_true q3,decide_eq_true q4,decide_eq_true q5,decide_eq_true q6,decide_eq_true q7,decide_eq_true q8,decide_eq_true q9,decide_eq_false q10,Bool.true_and,Bool.false_and,Bool.and_false]
  clear E0;have g:3000<N9:=by omega
  go_wp2;go_ret;rw[E.out];exact⟨rfl,bw1⟩
 by_cases q11:M9<=3000;rotate_left
 .have E:Hid (Z=false):=by
   show Z=false;rw[E0.out]
   simp only[decide_eq_true q0,decide_eq_true q1,decide_eq_true q2,decide_eq_true q3,decide_eq_true q4,decide_eq_true q5,decide_eq_true q6,decide_eq_true q7,decide_eq_true q8,decide_eq_true q9,decide_eq_true q10,decide_eq_false q11,Bool.true_and,Bool.false_and,Bool.and_false]
  clear E0;have g:3000<M9:=by omega
  go_wp2;go_ret;rw[E.out];exact⟨rfl,bw1⟩
 by_cases q12:k9<=3000;rotate_left
 .have E:Hid (Z=false):=by
   show Z=false;rw[E0.out]
   simp only[decide_eq_true q0,decide_eq_true q1,decide_eq_true q2,decide_eq_true q3,decide_eq_true q4,decide_eq_true q5,decide_eq_true q6,decide_eq_true q7,decide_eq_true q8,decide_eq_true q9,decide_eq_true q10,decide_eq_true q11,decide_eq_false q12,Bool.true_and,Bool.false_and,Bool.and_false]
  clear E0;have g:3000<k9:=by omega
  go_wp2;go_ret;rw[E.out];exact⟨rfl,bw1⟩
 by_cases q13:(x9.length:Int)<=3000;rotate_left
 .have E:Hid (Z=false):=by
   show Z=false;rw[E0.out]
   simp only[decide_eq_true q0,decide_eq_true q1,decide_eq_true q2,decide_eq_true q3,decide_eq_true q4,decide_eq_true q5,decide_eq_true q6,decide_eq_true q7,decide_eq_true q8,decide_eq_true q9,decide_eq_true q10,decide_eq_true q11,decide_eq_true q12,decide_eq_false q13,Bool.true_and,Bool.false_and,Bool.and_false]
  clear E0;have g:3000<(x9.length:Int):=by omega
  go_wp2;go_ret;rw[E.out];exact⟨rfl,bw1⟩
 by_cases q14:(y9.length:Int)<=3000;rotate_left
 .have E:Hid (Z=false):=by
   show Z=false;rw[E0.out]
   simp only[decide_eq_true q0,decide_eq_true q1,decide_eq_true q2,decide_eq_true q3,decide_eq_true q4,decide_eq_true q5,decide_eq_true q6,decide_eq_true q7,decide_eq_true q8,decide_eq_true q9,decide_eq_true q10,decide_eq_true q11,decide_eq_true q12,decide_eq_true q13,decide_eq_false q14,Bool.true_and,Bool.false_and,Bool.and_false]
  clear E0;have g:3000<(y9.length:Int):=by omega
  go_wp2;go_ret;rw[E.out];exact⟨rfl,bw1⟩
 have E:Hid (Z=true):=by
  show Z=true;rw[E0.out]
  simp only[decide_eq_true q0,decide_eq_true q1,decide_eq_true q2,decide_eq_true q3,decide_eq_true q4,decide_eq_true q5,decide_eq_true q6,decide_eq_true q7,decide_eq_true q8,decide_eq_true q9,decide_eq_true q10,decide_eq_true q11,decide_eq_true q12,decide_eq_true q13,decide_eq_true q14,Bool.and_self]
 clear E0;go_wp2;go_ret;rw[E.out];exact⟨rfl,bw1⟩
open Go.ChangeShapes Go.WideShapes Go.ChangeAt Go.RowKit Go.Joins Go.Deep Num Bit
def xU(w:World)(lo:Option Addr)(av:List RA):Prop:=
 0<av.length->∃b off,lo=some ⟨b,off,none⟩/\b<w.heap.size/\∀l,l<av.length->∃cs,w.rangeAt b (off+l*22) cs/\dD w cs (av.getD l ra0)
structure ke (w:World) (lo:Option Addr) (lc:Nat) (zo:Option Addr) (zc:Nat) (x:MR):Prop where
 k:aD x.K
 n:aD x.N
 l:xU w lo x.av
 z:Nd w zo x.zs
theorem Dr{H:Type}{enc:TypeId×Value->H}{W:World}{fuel:Nat}{cs:List Value}{y:DataW H×List MemPlace}(hl:cs.length=22)(hf:DataW.trod enc prog W 0 (fun _=>true) true fuel 63 cs=some y):∃a:RA,dD W cs a:=by
 obtain⟨c0,c1,c2,c3,c4,c5,c6,c7,c8,c9,c10,c11,c12,c13,c14,c15,c16,c17,c18,c19,c20,c21,e⟩:=JY (cs:=cs.toArray) (by simpa using hl)
 obtain rfl:cs=[c0,c1,c2,c3,c4,c5,c6,c7,c8,c9,c10,c11,c12,c13,c14,c15,c16,c17,c18,c19,c20,c21]:=by simpa using congrArg Array.toList e
 clear e;obtain⟨y0,y1,y2,y3,n,h0,h1,h2,h3⟩:=pN underlying63 hf;have g0:DataW.trod enc prog W 0 (fun _=>true) true n 3 [c0]=some y0:=by simpa [Tryz.cells3]using h0
 have g1:DataW.trod enc prog W 0 (fun _=>true) true n 55 [c1,c2,c3,c4]=some y1:=by simpa [Tryz.cells55]using h1
 have g2:DataW.trod enc prog W 0 (fun _=>true) true n 59 [c5,c6,c7,c8,c9,c10,c11,c12,c13]=some y2:=by simpa [IP]using h2
 have g3:DataW.trod enc prog W 0 (fun _=>true) true n 61 [c14,c15,c16,c17,c18,c19,c20,c21]=some y3:=by simpa [IU]using h3
 obtain⟨K,rfl,hK⟩:=jh g0;obtain⟨p,hp⟩:=Du g1;obtain⟨r,hr⟩:=Dt g2;obtain⟨f,hf⟩:=Dw g3;exact⟨⟨K,p,r,f⟩,_,_,_,rfl,hK,hp,hr,hf⟩
theorem IM:prog.cellsOf 63=22:=by kernel_rfl
theorem xr:prog.cellsOf 24=1:=by kernel_rfl
theorem EW(b o i:Nat):Addr.add ⟨b,o,none⟩ i=⟨b,o+i,none⟩:=by
 unfold Addr.add;split
 .subst_vars;rfl
 .rfl
theorem Dq{H:Type}{enc:TypeId×Value->H}{W:World}{n:Nat}{c:Value}{y:DataW H×List MemPlace}(hf:DataW.trod enc prog W 0 (fun _=>true) true n 24 [c]=some y):∃(lo:Option Addr) (av:List RA) (cap:Nat),c=.slice lo av.length cap/\av.length<=cap/\xU W lo av:=by
 rcases open_slice underlying24 hf with⟨e,_⟩ | ⟨a,len,cap,m,k,D,Pl,e,_,hl,_,hm,_,hx⟩
 .obtain rfl:c=.slice none 0 0:=by simpa using e
  exact⟨none,[],0,rfl,Nat.le_refl _,fun h=>absurd h (by decide)⟩
 .obtain rfl:c=.slice (some a) len cap:=by simpa using e
  rw[IM]at hx;obtain rfl:m=cap:=by simpa using hm
  have hy:∀i,i<m->∃r:RA,∃cs,W.cells? 0 (a.add (i*22)) 22=some cs/\dD W cs r:=fun i hi=>by
   obtain⟨cs,h1,h2⟩:=hx i hi;obtain⟨r,hr⟩:=Dr (World.cells?_some h1).2.1 h2;exact⟨r,cs,h1,hr⟩
  have hz:∀i:Nat,∃r:RA,i<m->∃cs,W.cells? 0 (a.add (i*22)) 22=some cs/\dD W cs r:=fun i=>by
   by_cases hi:i<m
   .obtain⟨r,hr⟩:=hy i hi;exact⟨r,fun _=>hr⟩
   .exact⟨ra0,fun h=>absurd h hi⟩
  obtain⟨f,hf⟩:=Classical.axiomOfChoice hz;refine⟨some a,(List.range len).map f,m,by simp,by simpa using hl,fun h0=>?_⟩;have hlen:((List.range len).map f).length=len:=by simp
  rw[hlen]at h0⊢;obtain⟨b,off,s⟩:=a;obtain⟨cs,h1,_⟩:=hf 0 (by omega);obtain⟨_,hl0,hc0⟩:=World.cells?_some h1;have c0:=hc0 0 (by decide);rw[List.getElem?_eq_getElem (by omega)]at c0
  have e0:(Addr.add ⟨b,off,s⟩ (0*22)).add 0=⟨b,off,s⟩:=by rw[add_add];unfold Addr.add;rfl
  rw[e0]at c0;obtain⟨k1,rfl⟩:=pp c0;refine⟨b,off,rfl,k1,fun l hl2=>?_⟩;obtain⟨cs,h1,h2⟩:=hf l (by omega);refine⟨cs,fun j v hv=>?_,?_⟩
  .obtain⟨_,hl3,hc3⟩:=World.cells?_some h1
   have hj:j<22:=by
    rw[<-hl3];exact(List.getElem?_eq_some_iff.1 hv).1
   have:=hc3 j hj;rw[add_add,EW,<-Nat.add_assoc]at this;rw[this,hv]
  .rw[List.getD_eq_getElem?_getD,List.getElem?_map,List.getElem?_range hl2];exact h2
theorem IQ:prog.cellsOf 27=4:=by kernel_rfl
theorem IR:prog.cellsOf 25=1:=by kernel_rfl
theorem Dv{H:Type}{enc:TypeId×Value->H}{W:World}{base:Nat}{v:Value}{d:DataW H}{p:List MemPlace}(hv:Value.okWide prog W .any base 27 v)(h:DataW.Trod enc prog W 0 (fun _=>true) true 27 v d p):
  ∃(lo:Option Addr) (lc:Nat) (zo:Option Addr) (zc:Nat) (x:MR),v=.agg #[.int .i64 x.K,.int .i64 x.N,.slice lo x.av.length lc,.slice zo x.zs.length zc]/\ke W lo lc zo zc x:=by
 obtain⟨cs,rfl,hsz⟩:=okWide_struct underlying27 hv;obtain⟨c0,c1,c2,c3,rfl⟩:=JX (hsz.trans IQ);obtain⟨fuel,hf⟩:=h;obtain⟨y0,y1,y2,y3,n,h0,h1,h2,h3⟩:=pN underlying27 hf
 have g0:DataW.trod enc prog W 0 (fun _=>true) true n 3 [c0]=some y0:=by simpa [Value.cells,Tryz.cells3]using h0
 have g1:DataW.trod enc prog W 0 (fun _=>true) true n 3 [c1]=some y1:=by simpa [Value.cells,Tryz.cells3]using h1
 have g2:DataW.trod enc prog W 0 (fun _=>true) true n 24 [c2]=some y2:=by simpa [Value.cells,Tryz.cells3,xr]using h2
 have g3:DataW.trod enc prog W 0 (fun _=>true) true n 25 [c3]=some y3:=by simpa [Value.cells,Tryz.cells3,xr,IR]using h3
 obtain⟨K,rfl,hK⟩:=jh g0;obtain⟨N,rfl,hN⟩:=jh g1;obtain⟨lo,av,cap,rfl,hc,hl⟩:=Dq g2;obtain⟨zo,zs,zc,rfl,u1,u2,u3⟩:=mJ g3
 exact⟨lo,cap,zo,zc,⟨K,N,av,zs⟩,rfl,⟨hK,hN,hl,u1⟩⟩
def mSm(x:MR):Prop:=x.av.length<=20/\x.N<=600/\x.zs.length<=100/\∀l,l<x.av.length->smB (mrw x l)=true
theorem ke.keep{w w':World}{lo:Option Addr}{lc:Nat}{zo:Option Addr}{zc:Nat}{x:MR}(h:ke w lo lc zo zc x)(hb:Below w.heap.size w w'):ke w' lo lc zo zc x:=by
 refine⟨h.k,h.n,fun h0=>?_,h.z.keep hb⟩;obtain⟨b,off,e,hbl,hc⟩:=h.l h0;refine⟨b,off,e,Nat.lt_of_lt_of_le hbl hb.size,fun l hl=>?_⟩;obtain⟨cs,h1,h2⟩:=hc l hl;exact⟨cs,jG h1 hb hbl,h2.keep hb⟩
theorem ke.mi{w:World}{lo:Option Addr}{lc:Nat}{zo:Option Addr}{zc:Nat}{x:MR}(h:ke w lo lc zo zc x)(hs:mSm x)(G:GV w):MI w lo lc zo zc x:=by
 refine⟨h.k,h.n,fun h0=>?_,h.z,by have:=hs.1;omega,by have:=hs.2.2.1;omega,G⟩;obtain⟨b,off,e,hb,hc⟩:=h.l h0;refine⟨b,off,e,hb,fun l hl=>?_⟩;obtain⟨cs,h1,h2⟩:=hc l hl
 exact⟨cs,h1,h2.ki (hs.2.2.2 l hl) G⟩
section
variable {P:Program} {ops:Array Oper} {Q:Exit->Act->World->Prop} {md:Region.Mode} {S E:World->Prop}
theorem aw.moreM:∀f l a w,S w->E w->aw P md ops Q (fun w=>S w/\E w) [] f l a w->aw P md ops Q S [] f l a w
 | 0,_,_,_,_,_,h=>h
 | f+1,_,_,_,hs,he,h=>⟨h.1,fun i hi=>wpOp_mono (fun a' w' h'=>⟨fun _ _=>(h'.1 (by simp) ⟨hs,he⟩).1,aw.moreM f _ a' w' (h'.1 (by simp) ⟨hs,he⟩).1 (h'.1 (by simp) ⟨hs,he⟩).2 h'.2⟩) (h.2 i hi)⟩
end
theorem Ay(lo:Option Addr)(cap:Nat)(zo:Option Addr)(zc:Nat)(x:MR)(w:World)(h:ke w lo cap zo zc x)(hN:aD x.N):
  Calls prog 15 #[.agg #[.int .i64 x.K,.int .i64 x.N,.slice lo x.av.length cap,.slice zo x.zs.length zc]] w fun e w'=>∃B,e=.returned (.bool B)/\(B=true->mSm x)/\Below w.heap.size w w':=by
 show Calls prog 15 #[.agg #[.int .i64 x.K,.int .i64 x.N,.slice lo x.av.length cap,.slice zo x.zs.length zc]] w fun e w'=>∃B,e=.returned (.bool B)/\(B=true->x.av.length<=20/\x.N<=600/\x.zs.length<=100/\∀l,l<x.av.length->smB (mrw x l)=true)/\Below w.heap.size w w'
 have CO:Hid (∀q,q<x.av.length->∃b off cs,lo=some ⟨b,off,none⟩/\b<w.heap.size/\w.rangeAt b (off+q*22) cs/\(prog.info? 63).map (·.size)=some cs.length/\Qz w 41 #[.agg cs.toArray] (.bool (smB (mrw x q)))):=fun q hq=>by
  obtain⟨b,off,e,hb,hc⟩:=h.l (by omega);obtain⟨cs,h1,h2⟩:=hc q hq;exact⟨b,off,cs,e,hb,h1,h2.len,fun w0 hb=>yG cs (mrw x q) w0 (h2.keep hb)⟩
 have bx:=aa.new w [.int .i64 x.K,.int .i64 x.N,.slice lo x.av.length cap,.slice zo x.zs.length zc] 27;have bw:=below_alloc w (.cells #[.int .i64 x.K,.int .i64 x.N,.slice lo x.av.length cap,.slice zo x.zs.length zc] 27)
 clear h;generalize x.K=K at *;generalize x.N=N at *;generalize x.av.length=n at *;generalize x.zs.length=nz at *;by_cases c20:n<=20
 .have d20:(n:Int)<=20:=by omega
  go_enter func15,ntmps15;go_wp2
  go_loopw [3] (fun s wr=>∃q:Nat,q<=n/\s=.int .i64 q/\Hid (∀j,j<q->smB (mrw x j)=true)/\aa wr w.heap.size [.int .i64 K,.int .i64 N,.slice lo n cap,.slice zo nz zc] 27/\Below w.heap.size w wr) (fun s _=>n-(intOf s).toNat)
  case atStart=>exact⟨0,Nat.zero_le _,rfl,fun j hj=>absurd hj (by omega),bx,bw⟩
  case round=>
   obtain⟨q,hq,rfl,HJ,hx,hb⟩:=hrel;clear bx bw;have x1:=hx.cell 1 rfl;have x2:=hx.cell 2 rfl;have x3:=hx.cell 3 rfl;by_cases hi:q<n
   .have hi2:(q:Int)<(n:Int):=by omega
    obtain⟨b,off,cs,rfl,hbl,rg,HL,C⟩:=CO.out q hi;have HL:=ag HL;have C:=ag C;have rg2:=jG rg hb hbl
    have HQ:Hid (smB (mrw x q)=true->∀j,j<q+1->smB (mrw x j)=true):=fun h j hj=>by
     by_cases e:j=q
     .rw[e];exact h
     .exact HJ.out j (by omega)
    generalize smB (mrw x q)=Bq at *;go_wp2_with (refine aR b (off+q*22) cs (by rfl) rfl rg2 underlying63 HL.out ?_);refine mr (C.out _ hb) fun w2 hb2=>?_;replace hx:=hx.kept hb2
    replace hb:=bg hb hb2;clear hb2 rg rg2 x1 x2 x3 CO HJ;cases Bq with
    | true=>
     have HF:=ag (And.intro hx hb);clear hx hb;go_wp2;exact⟨⟨q+1,by omega,by go_num,HQ.out trivial,HF.out⟩,by simp only[intOf];omega⟩
    | false=>
     go_wp2;go_ret;exact⟨false,rfl,(fun h=>by cases h),hb⟩
   .obtain rfl:q=n:=by omega
    clear CO;by_cases c6:N<=600
    .go_wp2;go_ret;refine⟨decide ((nz:Int)<=100),by simp,fun h=>⟨c20,c6,?_,HJ.out⟩,hb⟩;simp only[decide_eq_true_eq]at h;omega
    .go_wp2;go_ret;exact .inl ⟨rfl,hb⟩
 .have d20:¬(n:Int)<=20:=by omega
  go_enter func15,ntmps15;go_wp2;go_loopw [3] (fun s wr=>s=.int .i64 0/\aa wr w.heap.size [.int .i64 K,.int .i64 N,.slice lo n cap,.slice zo nz zc] 27/\Below w.heap.size w wr) (fun s _=>0)
  case atStart=>exact⟨rfl,bx,bw⟩
  case round=>
   obtain⟨rfl,hx,hb⟩:=hrel;clear bx bw CO;have x1:=hx.cell 1 rfl;have x2:=hx.cell 2 rfl;have x3:=hx.cell 3 rfl;have dn:decide ((0:Int)<(n:Int))=true:=decide_eq_true (by omega)
   have dn2:(0:Int)<(n:Int):=by omega
   go_wp2;go_ret;exact⟨rfl,hb⟩
end Go.Proofs.YtleegaihbgbcjabGreatDoor
namespace Go.Proofs.YtleegaihbgbcjabGreatDoor
open Go.RowKit Num Bit
theorem ti(av:List RA):∀q,q<=8->(mdR av q+32*(8-q)-mzR 8 av q)%18446744073709551616=0
 | 0,_=>rfl
 | q+1,h=>by
  have ih:=ti av q (by omega);rw[mdR,mzR];generalize mdR av q=a at *;generalize mzR 8 av q=b at *;generalize kZ (av.getD q ra0)=c at *;unfold wrap64;omega
theorem zF(x:MR):mZs x=kt x:=by
 unfold mZs kt;cases ok:mOk x with
 | false=>rfl
 | true=>
  obtain⟨_,g2,g3,_⟩:=oC ok;rw[if_pos rfl,if_pos rfl,g2,g3];have h:=ti x.av 8 (Nat.le_refl _);have e1:∃a,mzR 8 x.av 8=wrap64 a:=⟨_,rfl⟩;have e2:∃a,mdR x.av 8=wrap64 a:=⟨_,rfl⟩
  obtain⟨a,e1⟩:=e1;obtain⟨b,e2⟩:=e2;rw[e1,e2]at h⊢;unfold wrap64 at *;omega
theorem oz{w:World}{lo:Option Addr}{lc:Nat}{zo:Option Addr}{zc:Nat}{x:MR}(h:MI w lo lc zo zc x)(ok:mOk x=true)(hN:x.N<=600):(x.K=x.K/\x.N=((mX x).length:Int)/\x.av.length=8/\x.zs.length=8)/\MX w [.int .i64 x.K,.int .i64 ((mX x).length:Int),.slice lo 8 lc,.slice zo 8 zc] x.K (mX x):=by
 obtain⟨hk,hx⟩:=(vt x (fun l _=>h.fits l) hN).1 ok;obtain⟨_,g2,g3,_⟩:=oC ok;have hn:=oB x hN;have e1:x.N=((mX x).length:Int):=congrArg MR.N hx
 have e2:x.av=mA x.K (mX x):=congrArg MR.av hx;have e3:x.zs=mI (mZ (mX x)):=congrArg MR.zs hx;refine⟨⟨rfl,e1,g2,g3⟩,⟨lo,lc,zo,zc,rfl,?_,?_⟩,hk,by omega,xA x,h.gv⟩
 .rw[<-e2];exact h.l
 .rw[<-e3];exact h.z
theorem Eg(lo:Option Addr)(lc:Nat)(zo:Option Addr)(zc:Nat)(x:MR)(c:Nat)(i:Int)(w:World)(h:MI w lo lc zo zc x)(hN:x.N<=600)(hc:c<256)(hi:aD i):
  Qq 10 #[.agg #[.int .i64 x.K,.int .i64 x.N,.slice lo x.av.length lc,.slice zo x.zs.length zc],.int .u8 (c:Int),.int .i64 i] w (.tuple #[.int .i64 (if mOk x then fw (mT x) c i else 0),.int .i64 (if mOk x then ef (mT x) i else 2)]):=by
 cases ok:mOk x with
 | true=>
  obtain⟨⟨_,e1,e2,e3⟩,hm⟩:=oz h ok hN;have eT:mT x=mX x:=by unfold mT;rw[if_pos ok]
  rw[eT,e2,e3];have:=uR _ x.K (mX x) c i w hm hc hi;rw[<-e1]at this;exact this
 | false=>
  have:=uS lo lc zo zc x c i w h ok;exact this
theorem Ee(lo:Option Addr)(lc:Nat)(zo:Option Addr)(zc:Nat)(x:MR)(c:Nat)(i:Int)(w:World)(h:MI w lo lc zo zc x)(hN:x.N<=600)(hc:c<256)(hi:aD i):
  Qq 18 #[.agg #[.int .i64 x.K,.int .i64 x.N,.slice lo x.av.length lc,.slice zo x.zs.length zc],.int .u8 (c:Int),.int .i64 i] w (.tuple #[.int .i64 (if mOk x then ssN (mT x) c i else 0),.int .i64 (if mOk x then ssE (mT x) c i else 2)]):=by
 cases ok:mOk x with
 | true=>
  obtain⟨⟨_,e1,e2,e3⟩,hm⟩:=oz h ok hN;have eT:mT x=mX x:=by unfold mT;rw[if_pos ok]
  rw[eT,e2,e3];have:=uP _ x.K (mX x) c i w hm hc hi;rw[<-e1]at this;exact this
 | false=>
  have:=Ef lo lc zo zc x c i w h ok;exact this
theorem EX(lo:Option Addr)(lc:Nat)(zo:Option Addr)(zc:Nat)(x:MR)(i:Int)(w:World)(h:MI w lo lc zo zc x)(hN:x.N<=600)(hi:aD i):
  Qq 9 #[.agg #[.int .i64 x.K,.int .i64 x.N,.slice lo x.av.length lc,.slice zo x.zs.length zc],.int .i64 i] w (.tuple #[.int .u8 ((if mOk x then saC (mT x) i else 0:Nat):Int),.int .i64 (if mOk x then dR (mT x) i else 2)]):=by
 cases ok:mOk x with
 | true=>
  obtain⟨⟨_,e1,e2,e3⟩,hm⟩:=oz h ok hN;have eT:mT x=mX x:=by unfold mT;rw[if_pos ok]
  rw[eT,e2,e3];have:=vm _ x.K (mX x) i w hm hi;rw[<-e1]at this;exact this
 | false=>
  have:=EY lo lc zo zc x i w h ok;exact this
theorem Eb(lo:Option Addr)(lc:Nat)(zo:Option Addr)(zc:Nat)(x:MR)(w:World)(h:MI w lo lc zo zc x)(hN:x.N<=600):
  Calls prog 22 #[.agg #[.int .i64 x.K,.int .i64 x.N,.slice lo x.av.length lc,.slice zo x.zs.length zc]] w fun e w'=>∃bo bc,e=.returned (.slice bo (mT x).length bc)/\Bd w' bo (mT x)/\Below w.heap.size w w':=by
 cases ok:mOk x with
 | true=>
  obtain⟨⟨_,e1,e2,e3⟩,hm⟩:=oz h ok hN;have eT:mT x=mX x:=by unfold mT;rw[if_pos ok]
  rw[eT,e2,e3];have:=uN _ x.K (mX x) w hm;rw[<-e1]at this;exact this
 | false=>
  have eT:mT x=[]:=by unfold mT;rw[ok];rfl
  rw[eT];refine mr (Ec lo lc zo zc x w h ok) fun w' hb=>?_;exact⟨none,0,rfl,sj _ _,hb⟩
end Go.Proofs.YtleegaihbgbcjabGreatDoor
