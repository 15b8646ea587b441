import Derived.Test.YtleegaihbgbcjabGreatDoorT19
set_option linter.unusedVariables false
set_option linter.unusedSimpArgs false
set_option maxRecDepth 100000
set_option maxHeartbeats 16000000
open Go.Proofs.Tryz
namespace Go.Proofs.YtleegaihbgbcjabGreatDoor
open Go.RowKit Num Bit Bn
structure QB (V wr:World) (gx:Nat) (c0 c1 c2 c3 c4 c5 c6 sv tv:Value) (J T m:Nat) (f:Nat->Bool):Prop where
 bx:aa wr gx [c0,c1,c2,c3,c4,c5,c6,sv,tv] 59
 lt:gx<V.heap.size
 sz:V.heap.size<=wr.heap.size
 hb:Below gx V wr
 same:∀k,k<V.heap.size->k≠gx->wr.heap[k]?=V.heap[k]?
 o1:wr.ownsRow V.heap.size 3 1 sv J (ca (de m f J))
 o2:wr.ownsRow V.heap.size 3 1 tv T (ca (db m f T))
 ap:Ap.Apart sv tv
theorem QB.keep{V wr w':World}{gx:Nat}{c0 c1 c2 c3 c4 c5 c6 sv tv:Value}{J T m:Nat}{f:Nat->Bool}(h:QB V wr gx c0 c1 c2 c3 c4 c5 c6 sv tv J T m f)(hb:Below wr.heap.size wr w'):QB V w' gx c0 c1 c2 c3 c4 c5 c6 sv tv J T m f:=
 ⟨h.bx.kept hb,h.lt,Nat.le_trans h.sz hb.size,h.hb.trans (hb.mono (Nat.le_of_lt h.bx.lt)),fun k h1 h2=>(hb.block k (Nat.lt_of_lt_of_le h1 h.sz)).trans (h.same k h1 h2),Ap.owns_below h.o1 hb,Ap.owns_below h.o2 hb,h.ap⟩
theorem QB.one{V wr w2:World}{gx:Nat}{c0 c1 c2 c3 c4 c5 c6 sv tv u:Value}{J T m:Nat}{f:Nat->Bool}(h:QB V wr gx c0 c1 c2 c3 c4 c5 c6 sv tv J T m f)(ho:w2.ownsRow V.heap.size 3 1 u (J+1) (ca (de m f (J+1))))(hB:Below V.heap.size wr w2)
  (hblk:∀k,u.ownBlock=some k->(sv.ownBlock=some k\/k=wr.heap.size)/\k<w2.heap.size) (hkeep:∀k,k<wr.heap.size->sv.ownBlock≠some k->w2.heap[k]?=wr.heap[k]?):
  QB V (w2.setCell ⟨gx,7,none⟩ u) gx c0 c1 c2 c3 c4 c5 c6 u tv (J+1) T m f:=by
 have hs:(w2.setCell ⟨gx,7,none⟩ u).heap.size=w2.heap.size:=by simp[World.setCell]
 exact⟨(h.bx.keep hB h.lt).set 7 u,h.lt,by rw[hs];exact Nat.le_trans h.sz hB.size,(h.hb.trans (hB.mono (Nat.le_of_lt h.lt))).setCell (Nat.le_refl _) _,fun k h1 h2=>(Below.heap_setCell w2 ⟨gx,7,none⟩ u k h2).trans ((hB.block k h1).trans (h.same k h1 h2)),jI ho h.lt,jI (Ap.owns_other h.o2 hkeep h.ap.symm) h.lt,(Ap.apart_new h.o2 hblk h.ap.symm).symm⟩
theorem QB.two{V wr w2:World}{gx:Nat}{c0 c1 c2 c3 c4 c5 c6 sv tv u:Value}{J T m:Nat}{f:Nat->Bool}(h:QB V wr gx c0 c1 c2 c3 c4 c5 c6 sv tv J T m f)(ho:w2.ownsRow V.heap.size 3 1 u (T+1) (ca (db m f (T+1))))(hB:Below V.heap.size wr w2)
  (hblk:∀k,u.ownBlock=some k->(tv.ownBlock=some k\/k=wr.heap.size)/\k<w2.heap.size) (hkeep:∀k,k<wr.heap.size->tv.ownBlock≠some k->w2.heap[k]?=wr.heap[k]?):
  QB V (w2.setCell ⟨gx,8,none⟩ u) gx c0 c1 c2 c3 c4 c5 c6 sv u J (T+1) m f:=by
 have hs:(w2.setCell ⟨gx,8,none⟩ u).heap.size=w2.heap.size:=by simp[World.setCell]
 exact⟨(h.bx.keep hB h.lt).set 8 u,h.lt,by rw[hs];exact Nat.le_trans h.sz hB.size,(h.hb.trans (hB.mono (Nat.le_of_lt h.lt))).setCell (Nat.le_refl _) _,fun k h1 h2=>(Below.heap_setCell w2 ⟨gx,8,none⟩ u k h2).trans ((hB.block k h1).trans (h.same k h1 h2)),jI (Ap.owns_other h.o1 hkeep h.ap) h.lt,jI ho h.lt,Ap.apart_new h.o1 hblk h.ap⟩
theorem pR{ops:Array Oper}{d:Option Tmp}{ty T:TypeId}{ps:String}{af:Array Edge}{a:Act}{w:World}{K:Act->World->Prop}{Q:Exit->Act->World->Prop}{E:Prop}{x y:Operand}
  (g:Nat) (old cs:List Value) (hx:a.eval x=.pointer (some ⟨g,0,none⟩)) (hy:a.eval y=.agg cs.toArray) (hc:aa w g old T) (lo:old.length=cs.length) (hi:(prog.info? T).map (·.size)=some cs.length) (h1:cs.toArray.all (·.oneCell')=true)
  (h:∀w1,aa w1 g cs T->aB g w w1->K (a.put d undef) w1):
  if Region.wanted (⟨d,.store T x y,ty,ps,af,none⟩:Oper) (yielded ops a.tmps)=true then Oper.wp prog (⟨d,.store T x y,ty,ps,af,none⟩:Oper) a w K Q else E:=by
 rw[if_pos (by simp[Region.wanted])];exact wp_store_row _ x y rfl g cs.toArray hx hy _ _ hc (by simpa using hi) (by simpa using lo) h1 (h _ (setRow_heap w g _ _ _ _ hc) (aB.row g w _))
structure QV (w V:World) (gx g1 g2 gm:Nat) (c0 c1 c2 c3 c4 c5 c6:Value) (C O:List Nat) (MK:List Value):Prop where
 bx:aa V gx [c0,c1,c2,c3,c4,c5,c6,.slice none 0 0,.slice none 0 0] 59
 o1:Own V g1 C
 o2:Own V g2 O
 mks:aa V gm MK 137
 z:aa V (w.heap.size+1) [.int .i64 0,.int .i64 0,.int .i64 0,.int .i64 0,.slice none 0 0,.int .i64 0,.slice none 0 0,.slice none 0 0,.slice none 0 0] 59
 hb:Below w.heap.size w V
 n1:g1≠gx
 n2:g2≠gx
 n3:gm≠gx
 n4:w.heap.size+1<gx
theorem Em(m:Nat)(f:Nat->Bool):∀d j,bat m f j<=bat m f (j+d):=by
 intro d;induction d with
 | zero=>intro j;exact Nat.le_refl _
 | succ d ih=>intro j;have:=ih j;rw[show j+(d+1)=j+d+1 by omega,bat];omega
theorem gn:(prog.info? 59).map (·.size)=some 9:=by kernel_rfl
theorem Cb(m:Nat)(ao:Option Addr)(xs:List Nat)(cap:Nat)(w:World)(hx:Wd w ao xs)(hf:aA xs)(hk:az (m:Int) xs=true)(hm:m<=1048576)(G:GV w):
  Calls prog 52 #[.agg #[.int .i64 (m:Int),.slice ao xs.length cap]] w fun e w'=>∃g1 k1 g2 k2 so sc tO tc,e=.returned (.tuple #[.agg #[.int .i64 (m:Nat),.int .i64 (nb m:Nat),.int .i64 4,.int .i64 ((nb m:Int)*4),.slice (some ⟨g1,0,none⟩) k1 k1,.int .i64 (bat m (bitAt xs) (nb m):Nat),.slice (some ⟨g2,0,none⟩) k2 k2,.slice so (gN m) sc,.slice tO (gN m) tc],.int .i64 0])/\
   k1=(nb m*4+63)/64/\k2=(bat m (bitAt xs) (nb m)+63)/64/\Wd w' (some ⟨g1,0,none⟩) (rC m (bitAt xs))/\Wd w' (some ⟨g2,0,none⟩) (rO m (bitAt xs))/\Nd w' so (rS m (bitAt xs))/\Nd w' tO (rT m (bitAt xs))/\gN m<=sc/\gN m<=tc/\Below w.heap.size w w'/\Fr w.heap.size so/\Fr w.heap.size tO:=by
 obtain⟨i0,hi,hz0,hz1,hz2⟩:=info_parts vX;have nbl:=gK m hm;have btl:=j4 m (bitAt xs) (nb m)
 obtain⟨W,hW⟩:∃W,W=(w.alloc (.cells #[.int .i64 (m:Int),.slice ao xs.length cap] 53)).alloc (.cells #[.int .i64 0,.int .i64 0,.int .i64 0,.int .i64 0,.slice none 0 0,.int .i64 0,.slice none 0 0,.slice none 0 0,.slice none 0 0] 59):=⟨_,rfl⟩
 have bW:=cZ hW;have zW:W.heap.size=w.heap.size+2:=by rw[hW];simp
 have B1:=dj hW;have B2:=cQ hW
 have C1:Hid (Qz w 83 #[.agg #[.int .i64 (m:Int),.slice ao xs.length cap]] (.bool true)):=fun w0 h=>by
  have:=cg (m:Int) ao xs cap w0 (hx.keep h);rw[hk]at this;exact this
 have C2:Hid (∀w0,Below w.heap.size w w0->Calls prog 88 #[.agg #[.int .i64 (m:Int),.slice ao xs.length cap]] w0 fun e w'=>∃g,e=.returned (.slice (some ⟨g,0,none⟩) (nb m) (nb m))/\aa w' g (cF (nb m) (bcl m (bitAt xs)) (bof m (bitAt xs)) (nb m)) 150/\w0.heap.size<=g/\Below w0.heap.size w0 w'):=fun w0 h=>BR m ao xs cap w0 hm (hx.keep h) hf hk
 have C4:Hid (∀gl w0,aa w0 gl (cF (nb m) (bcl m (bitAt xs)) (bof m (bitAt xs)) (nb m)) 150->GV w0->Calls prog 89 #[.slice (some ⟨gl,0,none⟩) (nb m) (nb m)] w0 fun e w'=>∃g,e=.returned (.tuple #[.slice (some ⟨g,0,none⟩) (gN m) (gN m),.agg #[.int .i64 (bon m (bitAt xs) (nb m):Nat),.int .i64 (bat m (bitAt xs) (nb m):Nat)]])/\aa w' g (dh (gN m) (bon m (bitAt xs)) (bat m (bitAt xs)) (nb m)) 137/\w0.heap.size<=g/\Below w0.heap.size w0 w'):=fun gl w0 h hG=>BV (nb m) (gN m) gl _ _ (bon m (bitAt xs)) (bat m (bitAt xs)) w0 nbl rfl h (fun i _=>jd _ _ _) rfl rfl (fun i _=>rfl) (fun i _=>rfl) (fun i _=>rQ _ _ _) (fun i _=>j4 _ _ _) hG
 obtain⟨k1,hk1⟩:∃k1,k1=(nb m*4+63)/64:=⟨_,rfl⟩;obtain⟨k2,hk2⟩:∃k2,k2=(bat m (bitAt xs) (nb m)+63)/64:=⟨_,rfl⟩
 have C5:Hid (∀gl w0,aa w0 gl (cF (nb m) (bcl m (bitAt xs)) (bof m (bitAt xs)) (nb m)) 150->Calls prog 90 #[.slice (some ⟨gl,0,none⟩) (nb m) (nb m)] w0 fun e w'=>∃g,e=.returned (.agg #[.int .i64 (nb m:Nat),.int .i64 4,.int .i64 ((nb m:Int)*4),.slice (some ⟨g,0,none⟩) k1 k1])/\w0.heap.size<=g/\Own w' g (rC m (bitAt xs))/\Below w0.heap.size w0 w'):=fun gl w0 h=>B_ (nb m) gl k1 _ _ w0 nbl h (fun i _=>jd _ _ _) hk1
 have C6:Hid (∀gl w0,aa w0 gl (cF (nb m) (bcl m (bitAt xs)) (bof m (bitAt xs)) (nb m)) 150->GV w0->Calls prog 91 #[.slice (some ⟨gl,0,none⟩) (nb m) (nb m),.int .i64 (bat m (bitAt xs) (nb m):Nat)] w0 fun e w'=>∃g,e=.returned (.agg #[.int .i64 (bat m (bitAt xs) (nb m):Nat),.slice (some ⟨g,0,none⟩) k2 k2])/\w0.heap.size<=g/\Own w' g (rO m (bitAt xs))/\Below w0.heap.size w0 w'):=by
  intro gl w0 h hG
  have:=BS (nb m) gl (bat m (bitAt xs) (nb m)) k2 _ _ (bat m (bitAt xs)) (fun j=>(di m (bitAt xs) (nb m)).getD j false) w0 nbl h (fun i _=>jd _ _ _) rfl (fun i _=>rfl) (fun i hi=>by
   have:=Em m (bitAt xs) (nb m-(i+1)) (i+1);rwa [show i+1+(nb m-(i+1))=nb m by omega]at this) rfl (by omega) (fun i _=>nu m (bitAt xs) i) (fun i hi t ht=>by
   have g:=rU m (bitAt xs) (nb m) i t hi ht;show _=(di m (bitAt xs) (nb m)).getD (bat m (bitAt xs) i+t) false;rw[List.getD_eq_getElem?_getD,g]
   rfl) hk2 hG
  rw[<-me m (bitAt xs)]at this;exact this
 have MG1:Hid (∀j,j<gN m->(dh (gN m) (bon m (bitAt xs)) (bat m (bitAt xs)) (nb m))[j*2]?=some (.int .i64 (bon m (bitAt xs) (8*j):Nat))):=by
  intro j hj;rw[uX _ _ _ _ _ hj];by_cases c:j=0
  .subst c;by_cases d:8*0<nb m<;>simp[d]<;>rfl
  .rw[if_pos (jT m j hj c)]
 have MG2:Hid (∀j,j<gN m->(dh (gN m) (bon m (bitAt xs)) (bat m (bitAt xs)) (nb m))[j*2+1]?=some (.int .i64 (bat m (bitAt xs) (8*j):Nat))):=by
  intro j hj;rw[uW _ _ _ _ _ hj];by_cases c:j=0
  .subst c;by_cases d:8*0<nb m<;>simp[d]<;>rfl
  .rw[if_pos (jT m j hj c)]
 have gl8:gN m<=8739:=by unfold gN;omega
 have HK1:=ag hk1;have HK2:=ag hk2;clear hx hf hk hk1 hk2;go_enter func52,ntmps52;go_wp2_with fail;rw[<-hW];refine mr (C1.out _ bW) fun w1 hb=>?_;have bw1:=bg bW hb
 have z1:=hb.size;replace B1:=B1.kept hb;replace B2:=B2.kept hb;have r0:=B1.cell 0 rfl;have r1:=B1.cell 1 rfl;clear hb C1 hW bW;go_wp2_with fail;refine(C2.out _ bw1).mono ?_;rintro e w2 ⟨gl,rfl,hl,hgl,hb⟩
 have bw2:=bg bw1 hb;have z2:=hb.size;replace B1:=B1.kept hb;replace B2:=B2.kept hb;have lgl:=hl.lt;clear hb C2 bw1 r0 r1;go_wp2_with fail;refine(C4.out gl _ hl (G.kept bw2)).mono ?_
 rintro e w6 ⟨gm,rfl,hmk,hgm,hb⟩;have bw6:=bg bw2 hb;have z6:=hb.size;replace B1:=B1.kept hb;replace B2:=B2.kept hb;have B4:GV w6:=G.kept bw6;replace hl:=hl.kept hb;have lgm:=hmk.lt
 clear hb C4 bw2 G;go_wp2;have hb7:=below_alloc w6 (.cells #[.int .i64 (bon m (bitAt xs) (nb m):Nat),.int .i64 (bat m (bitAt xs) (nb m):Nat)] 137)
 have B5:=aa.new w6 [.int .i64 (bon m (bitAt xs) (nb m):Nat),.int .i64 (bat m (bitAt xs) (nb m):Nat)] 137;replace B1:=B1.kept hb7;replace B2:=B2.kept hb7;replace B4:=B4.kept hb7;replace hl:=hl.kept hb7
 replace hmk:=hmk.kept hb7;have bw7:=bg bw6 hb7;have z7:=hb7.size;clear hb7 bw6
 generalize hV7:w6.alloc (.cells #[.int .i64 (bon m (bitAt xs) (nb m):Nat),.int .i64 (bat m (bitAt xs) (nb m):Nat)] 137)=V7 at *
 refine ba [10] (fun w'=>aa w' w.heap.size [.int .i64 (m:Int),.slice ao xs.length cap] 53/\GV w'/\aa w' w6.heap.size [.int .i64 (bon m (bitAt xs) (nb m):Nat),.int .i64 (bat m (bitAt xs) (nb m):Nat)] 137) (by kernel_rfl) ?_
 have hS:aa V7.drew w.heap.size [.int .i64 (m:Int),.slice ao xs.length cap] 53/\GV V7.drew/\aa V7.drew w6.heap.size [.int .i64 (bon m (bitAt xs) (nb m):Nat),.int .i64 (bat m (bitAt xs) (nb m):Nat)] 137:=⟨B1,B4.kept ((Below.refl _ _).drew),B5⟩
 replace B2:aa V7.drew (w.heap.size+1) [.int .i64 0,.int .i64 0,.int .i64 0,.int .i64 0,.slice none 0 0,.int .i64 0,.slice none 0 0,.slice none 0 0,.slice none 0 0] 59:=B2
 replace hl:aa V7.drew gl (cF (nb m) (bcl m (bitAt xs)) (bof m (bitAt xs)) (nb m)) 150:=hl;replace hmk:aa V7.drew gm (dh (gN m) (bon m (bitAt xs)) (bat m (bitAt xs)) (nb m)) 137:=hmk
 replace bw7:Below w.heap.size w V7.drew:=bw7.drew;have z8:w6.heap.size<V7.drew.heap.size:=B5.lt;generalize V7.drew=Y at *;clear B1 B4 B5 hV7;refine aK 0 hS ?_
 refine aF 1 hS rfl (fun w0 h0=>by have c0:=h0.1.cell 0 rfl;go_simp;try with_reducible rfl) ?_;refine aK 2 hS ?_;refine aK 4 hS ?_;refine aK 5 hS ?_
 refine aF 6 hS rfl (fun w0 h0=>by have c0:=h0.2.2.cell 1 rfl;go_simp;try with_reducible rfl) ?_;refine aw.two 3 9 (by kernel_rfl) rfl rfl ?_ ?_
 .intro K hK;go_simp;refine(C5.out gl _ hl).mono ?_;rintro e wA ⟨g1,rfl,hg1,hO1,hb⟩;have zA:=hb.size;have lO1:=hO1.lt;replace hS:=And.intro (hS.1.kept hb) (And.intro (hS.2.1.kept hb) (hS.2.2.kept hb))
  replace B2:=B2.kept hb;replace hl:=hl.kept hb;replace hmk:=hmk.kept hb;replace bw7:=bg bw7 hb;clear hb;refine hK.out _ _ (fun _=>hS) ?_;clear hK K
  try simp only[Act.put,ar,an,am,ah,aj,ai]
  refine aw.two 7 9 (by kernel_rfl) rfl rfl ?_ ?_
  .intro K hK;go_simp;refine(C6.out gl _ hl hS.2.1).mono ?_;rintro e wB ⟨g2,rfl,hg2,hO2,hb⟩;have zB:=hb.size;have lO2:=hO2.lt;replace hS:=And.intro (hS.1.kept hb) (And.intro (hS.2.1.kept hb) (hS.2.2.kept hb))
   replace B2:=B2.kept hb;replace hl:=hl.kept hb;replace hmk:=hmk.kept hb;replace bw7:=bg bw7 hb;replace hO1:=hO1.keep hb;clear hb;refine hK.out _ _ (fun _=>hS) ?_;clear hK K
   try simp only[Act.put,ar,an,am,ah,aj,ai]
   refine aK 8 hS ?_;refine aO 9 ?_;intro K hK;go_simp
   have hb:=below_alloc wB (.cells #[.int .i64 0,.int .i64 0,.int .i64 0,.int .i64 0,.slice none 0 0,.int .i64 0,.slice none 0 0,.slice none 0 0,.slice none 0 0] 59)
   have B6:=aa.new wB [.int .i64 0,.int .i64 0,.int .i64 0,.int .i64 0,.slice none 0 0,.int .i64 0,.slice none 0 0,.slice none 0 0,.slice none 0 0] 59
   have zX:(wB.alloc (.cells #[.int .i64 0,.int .i64 0,.int .i64 0,.int .i64 0,.slice none 0 0,.int .i64 0,.slice none 0 0,.slice none 0 0,.slice none 0 0] 59)).heap.size=wB.heap.size+1:=by simp
   replace hS:=And.intro (hS.1.kept hb) (And.intro (hS.2.1.kept hb) (hS.2.2.kept hb));replace B2:=B2.kept hb;replace hl:=hl.kept hb;replace hmk:=hmk.kept hb;replace bw7:=bg bw7 hb
   replace hO1:=hO1.keep hb;replace hO2:=hO2.keep hb;obtain⟨gx,hgx⟩:∃gx,gx=wB.heap.size:=⟨_,rfl⟩;rw[<-hgx]at B6;rw[<-hgx]
   generalize wB.alloc (.cells #[.int .i64 0,.int .i64 0,.int .i64 0,.int .i64 0,.slice none 0 0,.int .i64 0,.slice none 0 0,.slice none 0 0,.slice none 0 0] 59)=wX at *;have hgx1:gx<=wB.heap.size:=by omega
   have hgx2:wB.heap.size<=gx:=by omega
   clear hb hgx;refine hK.out _ _ (fun _=>hS) ?_;clear hK K;try simp only[Act.put,ar,an,am,ah,aj,ai]
   refine aO 10 ?_;intro K hK
   refine pR gx _ [.int .i64 (m:Nat),.int .i64 (nb m:Nat),.int .i64 4,.int .i64 ((nb m:Int)*4),.slice (some ⟨g1,0,none⟩) k1 k1,.int .i64 (bat m (bitAt xs) (nb m):Nat),.slice (some ⟨g2,0,none⟩) k2 k2,.slice none 0 0,.slice none 0 0] rfl rfl B6 rfl gn (by simp[Value.oneCell']) ?_
   intro V B7 hO;refine hK.out _ _ (fun h=>absurd (by decide) h) ?_;clear hK K;try simp only[Act.put,ar,an,am,ah,aj,ai]
   refine aw.done (by kernel_rfl) ?_ _
   have QV0:Hid (QV w V gx g1 g2 gm (.int .i64 (m:Nat)) (.int .i64 (nb m:Nat)) (.int .i64 4) (.int .i64 ((nb m:Int)*4)) (.slice (some ⟨g1,0,none⟩) k1 k1) (.int .i64 (bat m (bitAt xs) (nb m):Nat)) (.slice (some ⟨g2,0,none⟩) k2 k2) (rC m (bitAt xs)) (rO m (bitAt xs)) (dh (gN m) (bon m (bitAt xs)) (bat m (bitAt xs)) (nb m))):=⟨B7,(hO.block g1 (by omega)).trans hO1,(hO.block g2 (by omega)).trans hO2,hO.cel hmk (by omega),hO.cel B2 (by omega),bw7.trans (hO.below (base:=w.heap.size) (by omega)),by omega,by omega,by omega,by omega⟩
   clear B7 hO hO1 hO2 hmk B2 bw7 hS hl B6 C5 C6;go_wp2
   go_loopw [32] (fun t wr=>∃(J:Nat) (so:Option Addr) (sc:Nat) (tO:Option Addr) (tc:Nat),J<=gN m/\t=.int .i64 J/\J<=sc/\J<=tc/\QB V wr gx (.int .i64 (m:Nat)) (.int .i64 (nb m:Nat)) (.int .i64 4) (.int .i64 ((nb m:Int)*4)) (.slice (some ⟨g1,0,none⟩) k1 k1) (.int .i64 (bat m (bitAt xs) (nb m):Nat)) (.slice (some ⟨g2,0,none⟩) k2 k2) (.slice so J sc) (.slice tO J tc) J J m (bitAt xs)) (fun t _=>gN m-(intOf t).toNat)
   case atStart=>exact⟨0,none,0,none,0,Nat.zero_le _,rfl,Nat.le_refl _,Nat.le_refl _,⟨QV0.out.bx,QV0.out.bx.lt,Nat.le_refl _,Below.refl _ _,fun _ _ _=>rfl,World.ownsRow_nil _ _ _ _,World.ownsRow_nil _ _ _ _,Ap.apart_nil _⟩⟩
   case round=>
    obtain⟨J,so,sc,tO,tc,hJ,rfl,hsc,htc,HQ⟩:=hrel;by_cases hlt:J<gN m
    .have hlt2:(J:Int)<(gN m:Int):=by omega
     have mkc:aa wr gm _ 137:=(HQ.same gm QV0.out.mks.lt QV0.out.n3).trans QV0.out.mks;have x0:=mkc.cell (J*2) (MG1.out J hlt);have x1:=mkc.cell (J*2+1) (MG2.out J hlt);have SU1:=ag (oh m (bitAt xs) J)
     have SU2:=ag (nX m (bitAt xs) J);generalize bon m (bitAt xs) (8*J)=Zs at *;generalize bat m (bitAt xs) (8*J)=Zp at *;have lmk:=mkc.lt;have y7:=HQ.bx.cell 7 rfl;have lx:=HQ.bx.lt;have szr:=HQ.sz
     have hown1:∀k,(Value.slice so J sc).ownBlock=some k->k<wr.heap.size:=fun k hk=>(HQ.o1.lt k hk).2;clear mkc
     go_wp2_with (at_builtin;refine Ap.wpList_append_x (by rfl) _ _ _ (by rfl) V.heap.size 3 i0 (.int .i64 0) 8 underlying25 hi hz0 hz1 hz2 rfl (.slice so J sc) J (ca (de m (bitAt xs) J)) (by rfl) ((HQ.o1.alloc _).alloc _) (some ⟨wr.heap.size+1,0,none⟩) 1 1 [.int .i64 (Zs:Nat)] (by rfl) rfl ?c1_301 ?c2_301 ?c3_301 ?c4_301 ?c5_301 ?_)
     case c1_301=>exact fun _=>⟨_,rfl,fun j u hj=>by
      match j,hj with
      | 0,hj=>simp at hj;subst hj;simp[Addr.add]⟩
     case c2_301=>intro u hu;simp at hu;subst hu;rfl
     case c3_301=>unfold maxLen;omega
     case c4_301=>omega
     case c5_301=>simp;omega
     intro so2 sc2 w9 own9 hle9 hB9 hblk9 hkeep9 hsz9;rw[SU1.out]at own9
     have HPa:=(HQ.keep (below_alloc wr (.cells #[.int .i64 (Zs:Nat),.int .i64 (Zp:Nat)] 137))).keep (below_alloc _ (.cells #[.int .i64 (Zs:Nat)] 3))
     have esz:((wr.alloc (.cells #[.int .i64 (Zs:Nat),.int .i64 (Zp:Nat)] 137)).alloc (.cells #[.int .i64 (Zs:Nat)] 3)).heap.size=wr.heap.size+1+1:=by simp
     have mbA:aa ((wr.alloc (.cells #[.int .i64 (Zs:Nat),.int .i64 (Zp:Nat)] 137)).alloc (.cells #[.int .i64 (Zs:Nat)] 3)) wr.heap.size [.int .i64 (Zs:Nat),.int .i64 (Zp:Nat)] 137:=(aa.new wr _ _).alloc _
     rw[<-esz]at hblk9 hkeep9;have HP9:=HPa.one own9 hB9 hblk9 hkeep9
     have hC9:aa w9 wr.heap.size [.int .i64 (Zs:Nat),.int .i64 (Zp:Nat)] 137:=(hkeep9 wr.heap.size (by omega) (fun e=>by have:=hown1 _ e;omega)).trans mbA;have x7:=(HPa.bx.keep hB9 HQ.lt).cell 7 rfl
     have f7:=(HPa.bx.keep hB9 HQ.lt).frozen 7;have x8:=(HPa.bx.keep hB9 HQ.lt).cell 8 rfl;have mb1:=hC9.cell 1 rfl;have lx9:=(HPa.bx.keep hB9 HQ.lt).lt;have lm9:=hC9.lt;have sz9:=HP9.sz;simp only[fA]at sz9
     have ngx:gx≠wr.heap.size:=by omega
     clear own9 hB9 hblk9 hkeep9 HPa mbA hown1 x0 x1 y7 esz
     go_wp2_with (at_builtin;refine Ap.wpList_append_x (by rfl) _ _ _ (by rfl) V.heap.size 3 i0 (.int .i64 0) 8 underlying25 hi hz0 hz1 hz2 rfl (.slice tO J tc) J (ca (db m (bitAt xs) J)) (by rfl) (HP9.o2.alloc _) (some ⟨w9.heap.size,0,none⟩) 1 1 [.int .i64 (Zp:Nat)] (by rfl) rfl ?d1_301 ?d2_301 ?d3_301 ?d4_301 ?d5_301 ?_)
     case d1_301=>
      have q:=(aa.new (w9.setCell ⟨gx,7,none⟩ (.slice so2 (J+1) sc2)) [.int .i64 (Zp:Nat)] 3).cell 0 rfl;rw[fA]at q
      exact fun _=>⟨_,rfl,fun j u hj=>by
       match j,hj with
       | 0,hj=>simp at hj;subst hj;simp[Addr.add];exact q⟩
     case d2_301=>intro u hu;simp at hu;subst hu;rfl
     case d3_301=>unfold maxLen;omega
     case d4_301=>omega
     case d5_301=>simp;omega
     intro tO2 tc2 w10 own10 hle10 hB10 hblk10 hkeep10 hsz10;rw[SU2.out]at own10;have HPb:=HP9.keep (below_alloc _ (.cells #[.int .i64 (Zp:Nat)] 3))
     have esz2:((w9.setCell ⟨gx,7,none⟩ (.slice so2 (J+1) sc2)).alloc (.cells #[.int .i64 (Zp:Nat)] 3)).heap.size=w9.heap.size+1:=by simp[fA]
     rw[<-esz2]at hblk10 hkeep10;have HP10:=HPb.two own10 hB10 hblk10 hkeep10;have x8b:=(HPb.bx.keep hB10 HQ.lt).cell 8 rfl;have f8b:=(HPb.bx.keep hB10 HQ.lt).frozen 8;have HPH:=ag HP10
     clear own10 hB10 hblk10 hkeep10 HPb esz2 HP9 HP10 x7 x8 f7 mb1 hC9 HQ;go_wp2;exact⟨⟨J+1,so2,sc2,tO2,tc2,by omega,by go_num,hle9,hle10,HPH.out⟩,by simp only[intOf];omega⟩
    .obtain hJe:J=gN m:=by omega
     have zc:aa wr (w.heap.size+1) [.int .i64 0,.int .i64 0,.int .i64 0,.int .i64 0,.slice none 0 0,.int .i64 0,.slice none 0 0,.slice none 0 0,.slice none 0 0] 59:=(HQ.same (w.heap.size+1) (by have:=QV0.out.z.lt;exact this) (by have:=QV0.out.n4;omega)).trans QV0.out.z
     have d1:Own wr g1 (rC m (bitAt xs)):=(HQ.same g1 QV0.out.o1.lt QV0.out.n1).trans QV0.out.o1;have d2:Own wr g2 (rO m (bitAt xs)):=(HQ.same g2 QV0.out.o2.lt QV0.out.n2).trans QV0.out.o2
     have bwr:Below w.heap.size w wr:=QV0.out.hb.trans (HQ.hb.mono (by have:=QV0.out.n4;omega));have hgV:w.heap.size+1<V.heap.size:=QV0.out.z.lt;have e1:g1≠w.heap.size+1:=by omega
     have e2:g2≠w.heap.size+1:=by omega
     have HH:=ag (And.intro HQ (And.intro d1 (And.intro d2 bwr)));clear d1 d2 bwr QV0
     go_wp2_with (first | refine fE gx _ rfl HQ.bx underlying59 gn ?_ | refine aJ (w.heap.size+1) _ _ rfl rfl zc rfl gn (by simp[Value.oneCell']) ?_);intro w20 C20 hO20
     obtain⟨HQ2,d1,d2,bwr⟩:=HH.out
     have HF:=ag (show Wd w20 (some ⟨g1,0,none⟩) (rC m (bitAt xs))/\Wd w20 (some ⟨g2,0,none⟩) (rO m (bitAt xs))/\Nd w20 so (de m (bitAt xs) J)/\Nd w20 tO (db m (bitAt xs) J)/\Below w.heap.size w w20/\Fr w.heap.size so/\Fr w.heap.size tO from⟨Own.wd ((hO20.block g1 e1).trans d1),Own.wd ((hO20.block g2 e2).trans d2),jK (hO20.owns HQ2.o1 hgV),jK (hO20.owns HQ2.o2 hgV),bwr.trans (hO20.below (by omega)),iL HQ2.o1 (by omega),iL HQ2.o2 (by omega)⟩)
     have HC20:=ag C20;clear HQ HQ2 d1 d2 bwr hO20 HH zc C20;go_wp2
     (try simp only[Exit.inBlock,Exit.then]);obtain⟨p1,p2,p3,p4,p5⟩:=HF.out;rw[hJe]at p3 p4 hsc htc;have HC21:=HC20.out;rw[hJe]at HC21
     exact bodyPost_ret (bj rfl (w.heap.size+1) _ rfl HC21 underlying59 gn) rfl ⟨g1,k1,g2,k2,so,sc,tO,tc,rfl,HK1.out,HK2.out,p1,p2,p3,p4,hsc,htc,p5⟩
  .intro K hK;go_simp;have hb:=below_alloc wA (.cells #[.int .i64 0,.int .i64 0,.int .i64 0,.int .i64 0,.slice none 0 0,.int .i64 0,.slice none 0 0,.slice none 0 0,.slice none 0 0] 59)
   have B6:=aa.new wA [.int .i64 0,.int .i64 0,.int .i64 0,.int .i64 0,.slice none 0 0,.int .i64 0,.slice none 0 0,.slice none 0 0,.slice none 0 0] 59
   have zX:(wA.alloc (.cells #[.int .i64 0,.int .i64 0,.int .i64 0,.int .i64 0,.slice none 0 0,.int .i64 0,.slice none 0 0,.slice none 0 0,.slice none 0 0] 59)).heap.size=wA.heap.size+1:=by simp
   replace hS:=And.intro (hS.1.kept hb) (And.intro (hS.2.1.kept hb) (hS.2.2.kept hb));replace B2:=B2.kept hb;replace hl:=hl.kept hb;replace hmk:=hmk.kept hb;replace bw7:=bg bw7 hb
   replace hO1:=hO1.keep hb;obtain⟨gx,hgx⟩:∃gx,gx=wA.heap.size:=⟨_,rfl⟩;rw[<-hgx]at B6;rw[<-hgx]
   generalize wA.alloc (.cells #[.int .i64 0,.int .i64 0,.int .i64 0,.int .i64 0,.slice none 0 0,.int .i64 0,.slice none 0 0,.slice none 0 0,.slice none 0 0] 59)=wX at *;have hgx1:gx<=wA.heap.size:=by omega
   have hgx2:wA.heap.size<=gx:=by omega
   clear hb hgx;refine hK.out _ _ (fun _=>hS) ?_;clear hK K;try simp only[Act.put,ar,an,am,ah,aj,ai]
   refine aO 7 ?_;intro K hK;go_simp;refine(C6.out gl _ hl hS.2.1).mono ?_;rintro e wB ⟨g2,rfl,hg2,hO2,hb⟩;have zB:=hb.size;have lO2:=hO2.lt
   replace hS:=And.intro (hS.1.kept hb) (And.intro (hS.2.1.kept hb) (hS.2.2.kept hb));replace B2:=B2.kept hb;replace hl:=hl.kept hb;replace hmk:=hmk.kept hb;replace bw7:=bg bw7 hb
   replace hO1:=hO1.keep hb;replace B6:=B6.kept hb;clear hb;refine hK.out _ _ (fun _=>hS) ?_;clear hK K;try simp only[Act.put,ar,an,am,ah,aj,ai]
   refine aK 8 hS ?_;refine aO 10 ?_;intro K hK
   refine pR gx _ [.int .i64 (m:Nat),.int .i64 (nb m:Nat),.int .i64 4,.int .i64 ((nb m:Int)*4),.slice (some ⟨g1,0,none⟩) k1 k1,.int .i64 (bat m (bitAt xs) (nb m):Nat),.slice (some ⟨g2,0,none⟩) k2 k2,.slice none 0 0,.slice none 0 0] rfl rfl B6 rfl gn (by simp[Value.oneCell']) ?_
   intro V B7 hO;refine hK.out _ _ (fun h=>absurd (by decide) h) ?_;clear hK K;try simp only[Act.put,ar,an,am,ah,aj,ai]
   refine aw.done (by kernel_rfl) ?_ _
   have QV0:Hid (QV w V gx g1 g2 gm (.int .i64 (m:Nat)) (.int .i64 (nb m:Nat)) (.int .i64 4) (.int .i64 ((nb m:Int)*4)) (.slice (some ⟨g1,0,none⟩) k1 k1) (.int .i64 (bat m (bitAt xs) (nb m):Nat)) (.slice (some ⟨g2,0,none⟩) k2 k2) (rC m (bitAt xs)) (rO m (bitAt xs)) (dh (gN m) (bon m (bitAt xs)) (bat m (bitAt xs)) (nb m))):=⟨B7,(hO.block g1 (by omega)).trans hO1,(hO.block g2 (by omega)).trans hO2,hO.cel hmk (by omega),hO.cel B2 (by omega),bw7.trans (hO.below (base:=w.heap.size) (by omega)),by omega,by omega,by omega,by omega⟩
   clear B7 hO hO1 hO2 hmk B2 bw7 hS hl B6 C5 C6;go_wp2
   go_loopw [32] (fun t wr=>∃(J:Nat) (so:Option Addr) (sc:Nat) (tO:Option Addr) (tc:Nat),J<=gN m/\t=.int .i64 J/\J<=sc/\J<=tc/\QB V wr gx (.int .i64 (m:Nat)) (.int .i64 (nb m:Nat)) (.int .i64 4) (.int .i64 ((nb m:Int)*4)) (.slice (some ⟨g1,0,none⟩) k1 k1) (.int .i64 (bat m (bitAt xs) (nb m):Nat)) (.slice (some ⟨g2,0,none⟩) k2 k2) (.slice so J sc) (.slice tO J tc) J J m (bitAt xs)) (fun t _=>gN m-(intOf t).toNat)
   case atStart=>exact⟨0,none,0,none,0,Nat.zero_le _,rfl,Nat.le_refl _,Nat.le_refl _,⟨QV0.out.bx,QV0.out.bx.lt,Nat.le_refl _,Below.refl _ _,fun _ _ _=>rfl,World.ownsRow_nil _ _ _ _,World.ownsRow_nil _ _ _ _,Ap.apart_nil _⟩⟩
   case round=>
    obtain⟨J,so,sc,tO,tc,hJ,rfl,hsc,htc,HQ⟩:=hrel;by_cases hlt:J<gN m
    .have hlt2:(J:Int)<(gN m:Int):=by omega
     have mkc:aa wr gm _ 137:=(HQ.same gm QV0.out.mks.lt QV0.out.n3).trans QV0.out.mks;have x0:=mkc.cell (J*2) (MG1.out J hlt);have x1:=mkc.cell (J*2+1) (MG2.out J hlt);have SU1:=ag (oh m (bitAt xs) J)
     have SU2:=ag (nX m (bitAt xs) J);generalize bon m (bitAt xs) (8*J)=Zs at *;generalize bat m (bitAt xs) (8*J)=Zp at *;have lmk:=mkc.lt;have y7:=HQ.bx.cell 7 rfl;have lx:=HQ.bx.lt;have szr:=HQ.sz
     have hown1:∀k,(Value.slice so J sc).ownBlock=some k->k<wr.heap.size:=fun k hk=>(HQ.o1.lt k hk).2;clear mkc
     go_wp2_with (at_builtin;refine Ap.wpList_append_x (by rfl) _ _ _ (by rfl) V.heap.size 3 i0 (.int .i64 0) 8 underlying25 hi hz0 hz1 hz2 rfl (.slice so J sc) J (ca (de m (bitAt xs) J)) (by rfl) ((HQ.o1.alloc _).alloc _) (some ⟨wr.heap.size+1,0,none⟩) 1 1 [.int .i64 (Zs:Nat)] (by rfl) rfl ?c1_401 ?c2_401 ?c3_401 ?c4_401 ?c5_401 ?_)
     case c1_401=>exact fun _=>⟨_,rfl,fun j u hj=>by
      match j,hj with
      | 0,hj=>simp at hj;subst hj;simp[Addr.add]⟩
     case c2_401=>intro u hu;simp at hu;subst hu;rfl
     case c3_401=>unfold maxLen;omega
     case c4_401=>omega
     case c5_401=>simp;omega
     intro so2 sc2 w9 own9 hle9 hB9 hblk9 hkeep9 hsz9;rw[SU1.out]at own9
     have HPa:=(HQ.keep (below_alloc wr (.cells #[.int .i64 (Zs:Nat),.int .i64 (Zp:Nat)] 137))).keep (below_alloc _ (.cells #[.int .i64 (Zs:Nat)] 3))
     have esz:((wr.alloc (.cells #[.int .i64 (Zs:Nat),.int .i64 (Zp:Nat)] 137)).alloc (.cells #[.int .i64 (Zs:Nat)] 3)).heap.size=wr.heap.size+1+1:=by simp
     have mbA:aa ((wr.alloc (.cells #[.int .i64 (Zs:Nat),.int .i64 (Zp:Nat)] 137)).alloc (.cells #[.int .i64 (Zs:Nat)] 3)) wr.heap.size [.int .i64 (Zs:Nat),.int .i64 (Zp:Nat)] 137:=(aa.new wr _ _).alloc _
     rw[<-esz]at hblk9 hkeep9;have HP9:=HPa.one own9 hB9 hblk9 hkeep9
     have hC9:aa w9 wr.heap.size [.int .i64 (Zs:Nat),.int .i64 (Zp:Nat)] 137:=(hkeep9 wr.heap.size (by omega) (fun e=>by have:=hown1 _ e;omega)).trans mbA;have x7:=(HPa.bx.keep hB9 HQ.lt).cell 7 rfl
     have f7:=(HPa.bx.keep hB9 HQ.lt).frozen 7;have x8:=(HPa.bx.keep hB9 HQ.lt).cell 8 rfl;have mb1:=hC9.cell 1 rfl;have lx9:=(HPa.bx.keep hB9 HQ.lt).lt;have lm9:=hC9.lt;have sz9:=HP9.sz;simp only[fA]at sz9
     have ngx:gx≠wr.heap.size:=by omega
     clear own9 hB9 hblk9 hkeep9 HPa mbA hown1 x0 x1 y7 esz
     go_wp2_with (at_builtin;refine Ap.wpList_append_x (by rfl) _ _ _ (by rfl) V.heap.size 3 i0 (.int .i64 0) 8 underlying25 hi hz0 hz1 hz2 rfl (.slice tO J tc) J (ca (db m (bitAt xs) J)) (by rfl) (HP9.o2.alloc _) (some ⟨w9.heap.size,0,none⟩) 1 1 [.int .i64 (Zp:Nat)] (by rfl) rfl ?d1_401 ?d2_401 ?d3_401 ?d4_401 ?d5_401 ?_)
     case d1_401=>
      have q:=(aa.new (w9.setCell ⟨gx,7,none⟩ (.slice so2 (J+1) sc2)) [.int .i64 (Zp:Nat)] 3).cell 0 rfl;rw[fA]at q
      exact fun _=>⟨_,rfl,fun j u hj=>by
       match j,hj with
       | 0,hj=>simp at hj;subst hj;simp[Addr.add];exact q⟩
     case d2_401=>intro u hu;simp at hu;subst hu;rfl
     case d3_401=>unfold maxLen;omega
     case d4_401=>omega
     case d5_401=>simp;omega
     intro tO2 tc2 w10 own10 hle10 hB10 hblk10 hkeep10 hsz10;rw[SU2.out]at own10;have HPb:=HP9.keep (below_alloc _ (.cells #[.int .i64 (Zp:Nat)] 3))
     have esz2:((w9.setCell ⟨gx,7,none⟩ (.slice so2 (J+1) sc2)).alloc (.cells #[.int .i64 (Zp:Nat)] 3)).heap.size=w9.heap.size+1:=by simp[fA]
     rw[<-esz2]at hblk10 hkeep10;have HP10:=HPb.two own10 hB10 hblk10 hkeep10;have x8b:=(HPb.bx.keep hB10 HQ.lt).cell 8 rfl;have f8b:=(HPb.bx.keep hB10 HQ.lt).frozen 8;have HPH:=ag HP10
     clear own10 hB10 hblk10 hkeep10 HPb esz2 HP9 HP10 x7 x8 f7 mb1 hC9 HQ;go_wp2;exact⟨⟨J+1,so2,sc2,tO2,tc2,by omega,by go_num,hle9,hle10,HPH.out⟩,by simp only[intOf];omega⟩
    .obtain hJe:J=gN m:=by omega
     have zc:aa wr (w.heap.size+1) [.int .i64 0,.int .i64 0,.int .i64 0,.int .i64 0,.slice none 0 0,.int .i64 0,.slice none 0 0,.slice none 0 0,.slice none 0 0] 59:=(HQ.same (w.heap.size+1) (by have:=QV0.out.z.lt;exact this) (by have:=QV0.out.n4;omega)).trans QV0.out.z
     have d1:Own wr g1 (rC m (bitAt xs)):=(HQ.same g1 QV0.out.o1.lt QV0.out.n1).trans QV0.out.o1;have d2:Own wr g2 (rO m (bitAt xs)):=(HQ.same g2 QV0.out.o2.lt QV0.out.n2).trans QV0.out.o2
     have bwr:Below w.heap.size w wr:=QV0.out.hb.trans (HQ.hb.mono (by have:=QV0.out.n4;omega));have hgV:w.heap.size+1<V.heap.size:=QV0.out.z.lt;have e1:g1≠w.heap.size+1:=by omega
     have e2:g2≠w.heap.size+1:=by omega
     have HH:=ag (And.intro HQ (And.intro d1 (And.intro d2 bwr)));clear d1 d2 bwr QV0
     go_wp2_with (first | refine fE gx _ rfl HQ.bx underlying59 gn ?_ | refine aJ (w.heap.size+1) _ _ rfl rfl zc rfl gn (by simp[Value.oneCell']) ?_);intro w20 C20 hO20
     obtain⟨HQ2,d1,d2,bwr⟩:=HH.out
     have HF:=ag (show Wd w20 (some ⟨g1,0,none⟩) (rC m (bitAt xs))/\Wd w20 (some ⟨g2,0,none⟩) (rO m (bitAt xs))/\Nd w20 so (de m (bitAt xs) J)/\Nd w20 tO (db m (bitAt xs) J)/\Below w.heap.size w w20/\Fr w.heap.size so/\Fr w.heap.size tO from⟨Own.wd ((hO20.block g1 e1).trans d1),Own.wd ((hO20.block g2 e2).trans d2),jK (hO20.owns HQ2.o1 hgV),jK (hO20.owns HQ2.o2 hgV),bwr.trans (hO20.below (by omega)),iL HQ2.o1 (by omega),iL HQ2.o2 (by omega)⟩)
     have HC20:=ag C20;clear HQ HQ2 d1 d2 bwr hO20 HH zc C20;go_wp2
     (try simp only[Exit.inBlock,Exit.then]);obtain⟨p1,p2,p3,p4,p5⟩:=HF.out;rw[hJe]at p3 p4 hsc htc;have HC21:=HC20.out;rw[hJe]at HC21
     exact bodyPost_ret (bj rfl (w.heap.size+1) _ rfl HC21 underlying59 gn) rfl ⟨g1,k1,g2,k2,so,sc,tO,tc,rfl,HK1.out,HK2.out,p1,p2,p3,p4,hsc,htc,p5⟩
 .intro K hK;go_simp;have hb:=below_alloc Y (.cells #[.int .i64 0,.int .i64 0,.int .i64 0,.int .i64 0,.slice none 0 0,.int .i64 0,.slice none 0 0,.slice none 0 0,.slice none 0 0] 59)
  have B6:=aa.new Y [.int .i64 0,.int .i64 0,.int .i64 0,.int .i64 0,.slice none 0 0,.int .i64 0,.slice none 0 0,.slice none 0 0,.slice none 0 0] 59
  have zX:(Y.alloc (.cells #[.int .i64 0,.int .i64 0,.int .i64 0,.int .i64 0,.slice none 0 0,.int .i64 0,.slice none 0 0,.slice none 0 0,.slice none 0 0] 59)).heap.size=Y.heap.size+1:=by simp
  replace hS:=And.intro (hS.1.kept hb) (And.intro (hS.2.1.kept hb) (hS.2.2.kept hb));replace B2:=B2.kept hb;replace hl:=hl.kept hb;replace hmk:=hmk.kept hb;replace bw7:=bg bw7 hb
  obtain⟨gx,hgx⟩:∃gx,gx=Y.heap.size:=⟨_,rfl⟩;rw[<-hgx]at B6;rw[<-hgx]
  generalize Y.alloc (.cells #[.int .i64 0,.int .i64 0,.int .i64 0,.int .i64 0,.slice none 0 0,.int .i64 0,.slice none 0 0,.slice none 0 0,.slice none 0 0] 59)=wX at *;have hgx1:gx<=Y.heap.size:=by omega
  have hgx2:Y.heap.size<=gx:=by omega
  clear hb hgx;refine hK.out _ _ (fun _=>hS) ?_;clear hK K;try simp only[Act.put,ar,an,am,ah,aj,ai]
  refine aO 3 ?_;intro K hK;go_simp;refine(C5.out gl _ hl).mono ?_;rintro e wA ⟨g1,rfl,hg1,hO1,hb⟩;have zA:=hb.size;have lO1:=hO1.lt
  replace hS:=And.intro (hS.1.kept hb) (And.intro (hS.2.1.kept hb) (hS.2.2.kept hb));replace B2:=B2.kept hb;replace hl:=hl.kept hb;replace hmk:=hmk.kept hb;replace bw7:=bg bw7 hb
  replace B6:=B6.kept hb;clear hb;refine hK.out _ _ (fun _=>hS) ?_;clear hK K;try simp only[Act.put,ar,an,am,ah,aj,ai]
  refine aO 7 ?_;intro K hK;go_simp;refine(C6.out gl _ hl hS.2.1).mono ?_;rintro e wB ⟨g2,rfl,hg2,hO2,hb⟩;have zB:=hb.size;have lO2:=hO2.lt
  replace hS:=And.intro (hS.1.kept hb) (And.intro (hS.2.1.kept hb) (hS.2.2.kept hb));replace B2:=B2.kept hb;replace hl:=hl.kept hb;replace hmk:=hmk.kept hb;replace bw7:=bg bw7 hb
  replace hO1:=hO1.keep hb;replace B6:=B6.kept hb;clear hb;refine hK.out _ _ (fun _=>hS) ?_;clear hK K;try simp only[Act.put,ar,an,am,ah,aj,ai]
  refine aK 8 hS ?_;refine aO 10 ?_;intro K hK
  refine pR gx _ [.int .i64 (m:Nat),.int .i64 (nb m:Nat),.int .i64 4,.int .i64 ((nb m:Int)*4),.slice (some ⟨g1,0,none⟩) k1 k1,.int .i64 (bat m (bitAt xs) (nb m):Nat),.slice (some ⟨g2,0,none⟩) k2 k2,.slice none 0 0,.slice none 0 0] rfl rfl B6 rfl gn (by simp[Value.oneCell']) ?_
  intro V B7 hO;refine hK.out _ _ (fun h=>absurd (by decide) h) ?_;clear hK K;try simp only[Act.put,ar,an,am,ah,aj,ai]
  refine aw.done (by kernel_rfl) ?_ _
  have QV0:Hid (QV w V gx g1 g2 gm (.int .i64 (m:Nat)) (.int .i64 (nb m:Nat)) (.int .i64 4) (.int .i64 ((nb m:Int)*4)) (.slice (some ⟨g1,0,none⟩) k1 k1) (.int .i64 (bat m (bitAt xs) (nb m):Nat)) (.slice (some ⟨g2,0,none⟩) k2 k2) (rC m (bitAt xs)) (rO m (bitAt xs)) (dh (gN m) (bon m (bitAt xs)) (bat m (bitAt xs)) (nb m))):=⟨B7,(hO.block g1 (by omega)).trans hO1,(hO.block g2 (by omega)).trans hO2,hO.cel hmk (by omega),hO.cel B2 (by omega),bw7.trans (hO.below (base:=w.heap.size) (by omega)),by omega,by omega,by omega,by omega⟩
  clear B7 hO hO1 hO2 hmk B2 bw7 hS hl B6 C5 C6;go_wp2
  go_loopw [32] (fun t wr=>∃(J:Nat) (so:Option Addr) (sc:Nat) (tO:Option Addr) (tc:Nat),J<=gN m/\t=.int .i64 J/\J<=sc/\J<=tc/\QB V wr gx (.int .i64 (m:Nat)) (.int .i64 (nb m:Nat)) (.int .i64 4) (.int .i64 ((nb m:Int)*4)) (.slice (some ⟨g1,0,none⟩) k1 k1) (.int .i64 (bat m (bitAt xs) (nb m):Nat)) (.slice (some ⟨g2,0,none⟩) k2 k2) (.slice so J sc) (.slice tO J tc) J J m (bitAt xs)) (fun t _=>gN m-(intOf t).toNat)
  case atStart=>exact⟨0,none,0,none,0,Nat.zero_le _,rfl,Nat.le_refl _,Nat.le_refl _,⟨QV0.out.bx,QV0.out.bx.lt,Nat.le_refl _,Below.refl _ _,fun _ _ _=>rfl,World.ownsRow_nil _ _ _ _,World.ownsRow_nil _ _ _ _,Ap.apart_nil _⟩⟩
  case round=>
   obtain⟨J,so,sc,tO,tc,hJ,rfl,hsc,htc,HQ⟩:=hrel;by_cases hlt:J<gN m
   .have hlt2:(J:Int)<(gN m:Int):=by omega
    have mkc:aa wr gm _ 137:=(HQ.same gm QV0.out.mks.lt QV0.out.n3).trans QV0.out.mks;have x0:=mkc.cell (J*2) (MG1.out J hlt);have x1:=mkc.cell (J*2+1) (MG2.out J hlt);have SU1:=ag (oh m (bitAt xs) J)
    have SU2:=ag (nX m (bitAt xs) J);generalize bon m (bitAt xs) (8*J)=Zs at *;generalize bat m (bitAt xs) (8*J)=Zp at *;have lmk:=mkc.lt;have y7:=HQ.bx.cell 7 rfl;have lx:=HQ.bx.lt;have szr:=HQ.sz
    have hown1:∀k,(Value.slice so J sc).ownBlock=some k->k<wr.heap.size:=fun k hk=>(HQ.o1.lt k hk).2;clear mkc
    go_wp2_with (at_builtin;refine Ap.wpList_append_x (by rfl) _ _ _ (by rfl) V.heap.size 3 i0 (.int .i64 0) 8 underlying25 hi hz0 hz1 hz2 rfl (.slice so J sc) J (ca (de m (bitAt xs) J)) (by rfl) ((HQ.o1.alloc _).alloc _) (some ⟨wr.heap.size+1,0,none⟩) 1 1 [.int .i64 (Zs:Nat)] (by rfl) rfl ?c1_501 ?c2_501 ?c3_501 ?c4_501 ?c5_501 ?_)
    case c1_501=>exact fun _=>⟨_,rfl,fun j u hj=>by
     match j,hj with
     | 0,hj=>simp at hj;subst hj;simp[Addr.add]⟩
    case c2_501=>intro u hu;simp at hu;subst hu;rfl
    case c3_501=>unfold maxLen;omega
    case c4_501=>omega
    case c5_501=>simp;omega
    intro so2 sc2 w9 own9 hle9 hB9 hblk9 hkeep9 hsz9;rw[SU1.out]at own9;have HPa:=(HQ.keep (below_alloc wr (.cells #[.int .i64 (Zs:Nat),.int .i64 (Zp:Nat)] 137))).keep (below_alloc _ (.cells #[.int .i64 (Zs:Nat)] 3))
    have esz:((wr.alloc (.cells #[.int .i64 (Zs:Nat),.int .i64 (Zp:Nat)] 137)).alloc (.cells #[.int .i64 (Zs:Nat)] 3)).heap.size=wr.heap.size+1+1:=by simp
    have mbA:aa ((wr.alloc (.cells #[.int .i64 (Zs:Nat),.int .i64 (Zp:Nat)] 137)).alloc (.cells #[.int .i64 (Zs:Nat)] 3)) wr.heap.size [.int .i64 (Zs:Nat),.int .i64 (Zp:Nat)] 137:=(aa.new wr _ _).alloc _
    rw[<-esz]at hblk9 hkeep9;have HP9:=HPa.one own9 hB9 hblk9 hkeep9
    have hC9:aa w9 wr.heap.size [.int .i64 (Zs:Nat),.int .i64 (Zp:Nat)] 137:=(hkeep9 wr.heap.size (by omega) (fun e=>by have:=hown1 _ e;omega)).trans mbA;have x7:=(HPa.bx.keep hB9 HQ.lt).cell 7 rfl
    have f7:=(HPa.bx.keep hB9 HQ.lt).frozen 7;have x8:=(HPa.bx.keep hB9 HQ.lt).cell 8 rfl;have mb1:=hC9.cell 1 rfl;have lx9:=(HPa.bx.keep hB9 HQ.lt).lt;have lm9:=hC9.lt;have sz9:=HP9.sz;simp only[fA]at sz9
    have ngx:gx≠wr.heap.size:=by omega
    clear own9 hB9 hblk9 hkeep9 HPa mbA hown1 x0 x1 y7 esz
    go_wp2_with (at_builtin;refine Ap.wpList_append_x (by rfl) _ _ _ (by rfl) V.heap.size 3 i0 (.int .i64 0) 8 underlying25 hi hz0 hz1 hz2 rfl (.slice tO J tc) J (ca (db m (bitAt xs) J)) (by rfl) (HP9.o2.alloc _) (some ⟨w9.heap.size,0,none⟩) 1 1 [.int .i64 (Zp:Nat)] (by rfl) rfl ?d1_501 ?d2_501 ?d3_501 ?d4_501 ?d5_501 ?_)
    case d1_501=>
     have q:=(aa.new (w9.setCell ⟨gx,7,none⟩ (.slice so2 (J+1) sc2)) [.int .i64 (Zp:Nat)] 3).cell 0 rfl;rw[fA]at q
     exact fun _=>⟨_,rfl,fun j u hj=>by
      match j,hj with
      | 0,hj=>simp at hj;subst hj;simp[Addr.add];exact q⟩
    case d2_501=>intro u hu;simp at hu;subst hu;rfl
    case d3_501=>unfold maxLen;omega
    case d4_501=>omega
    case d5_501=>simp;omega
    intro tO2 tc2 w10 own10 hle10 hB10 hblk10 hkeep10 hsz10;rw[SU2.out]at own10;have HPb:=HP9.keep (below_alloc _ (.cells #[.int .i64 (Zp:Nat)] 3))
    have esz2:((w9.setCell ⟨gx,7,none⟩ (.slice so2 (J+1) sc2)).alloc (.cells #[.int .i64 (Zp:Nat)] 3)).heap.size=w9.heap.size+1:=by simp[fA]
    rw[<-esz2]at hblk10 hkeep10;have HP10:=HPb.two own10 hB10 hblk10 hkeep10;have x8b:=(HPb.bx.keep hB10 HQ.lt).cell 8 rfl;have f8b:=(HPb.bx.keep hB10 HQ.lt).frozen 8;have HPH:=ag HP10
    clear own10 hB10 hblk10 hkeep10 HPb esz2 HP9 HP10 x7 x8 f7 mb1 hC9 HQ;go_wp2;exact⟨⟨J+1,so2,sc2,tO2,tc2,by omega,by go_num,hle9,hle10,HPH.out⟩,by simp only[intOf];omega⟩
   .obtain hJe:J=gN m:=by omega
    have zc:aa wr (w.heap.size+1) [.int .i64 0,.int .i64 0,.int .i64 0,.int .i64 0,.slice none 0 0,.int .i64 0,.slice none 0 0,.slice none 0 0,.slice none 0 0] 59:=(HQ.same (w.heap.size+1) (by have:=QV0.out.z.lt;exact this) (by have:=QV0.out.n4;omega)).trans QV0.out.z
    have d1:Own wr g1 (rC m (bitAt xs)):=(HQ.same g1 QV0.out.o1.lt QV0.out.n1).trans QV0.out.o1;have d2:Own wr g2 (rO m (bitAt xs)):=(HQ.same g2 QV0.out.o2.lt QV0.out.n2).trans QV0.out.o2
    have bwr:Below w.heap.size w wr:=QV0.out.hb.trans (HQ.hb.mono (by have:=QV0.out.n4;omega));have hgV:w.heap.size+1<V.heap.size:=QV0.out.z.lt;have e1:g1≠w.heap.size+1:=by omega
    have e2:g2≠w.heap.size+1:=by omega
    have HH:=ag (And.intro HQ (And.intro d1 (And.intro d2 bwr)));clear d1 d2 bwr QV0
    go_wp2_with (first | refine fE gx _ rfl HQ.bx underlying59 gn ?_ | refine aJ (w.heap.size+1) _ _ rfl rfl zc rfl gn (by simp[Value.oneCell']) ?_);intro w20 C20 hO20
    obtain⟨HQ2,d1,d2,bwr⟩:=HH.out
    have HF:=ag (show Wd w20 (some ⟨g1,0,none⟩) (rC m (bitAt xs))/\Wd w20 (some ⟨g2,0,none⟩) (rO m (bitAt xs))/\Nd w20 so (de m (bitAt xs) J)/\Nd w20 tO (db m (bitAt xs) J)/\Below w.heap.size w w20/\Fr w.heap.size so/\Fr w.heap.size tO from⟨Own.wd ((hO20.block g1 e1).trans d1),Own.wd ((hO20.block g2 e2).trans d2),jK (hO20.owns HQ2.o1 hgV),jK (hO20.owns HQ2.o2 hgV),bwr.trans (hO20.below (by omega)),iL HQ2.o1 (by omega),iL HQ2.o2 (by omega)⟩)
    have HC20:=ag C20;clear HQ HQ2 d1 d2 bwr hO20 HH zc C20;go_wp2
    (try simp only[Exit.inBlock,Exit.then]);obtain⟨p1,p2,p3,p4,p5⟩:=HF.out;rw[hJe]at p3 p4 hsc htc;have HC21:=HC20.out;rw[hJe]at HC21
    exact bodyPost_ret (bj rfl (w.heap.size+1) _ rfl HC21 underlying59 gn) rfl ⟨g1,k1,g2,k2,so,sc,tO,tc,rfl,HK1.out,HK2.out,p1,p2,p3,p4,hsc,htc,p5⟩
theorem Cc(N:Int)(ao:Option Addr)(xs:List Nat)(cap:Nat)(w:World)(hx:Wd w ao xs)(hk:az N xs=false):
  Qq 52 #[.agg #[.int .i64 N,.slice ao xs.length cap]] w (.tuple #[.agg #[.int .i64 0,.int .i64 0,.int .i64 0,.int .i64 0,.slice none 0 0,.int .i64 0,.slice none 0 0,.slice none 0 0,.slice none 0 0],.int .i64 2]):=by
 obtain⟨W,hW⟩:∃W,W=(w.alloc (.cells #[.int .i64 N,.slice ao xs.length cap] 53)).alloc (.cells #[.int .i64 0,.int .i64 0,.int .i64 0,.int .i64 0,.slice none 0 0,.int .i64 0,.slice none 0 0,.slice none 0 0,.slice none 0 0] 59):=⟨_,rfl⟩
 have bW:=cZ hW;have B2:=cQ hW
 have C1:Hid (Qz w 83 #[.agg #[.int .i64 N,.slice ao xs.length cap]] (.bool false)):=fun w0 h=>by
  have:=cg N ao xs cap w0 (hx.keep h);rw[hk]at this;exact this
 clear hx hk;go_enter func52,ntmps52;go_wp2_with fail;rw[<-hW];refine mr (C1.out _ bW) fun w1 hb=>?_;have bw1:=bg bW hb;replace B2:=B2.kept hb;clear hb C1 hW bW
 go_wp2_with (refine aJ (w.heap.size+1) _ [.int .i64 0,.int .i64 0,.int .i64 0,.int .i64 0,.slice none 0 0,.int .i64 0,.slice none 0 0,.slice none 0 0,.slice none 0 0] rfl rfl B2 rfl gn (by simp[Value.oneCell']) ?_)
 intro w2 C2 hO;have HC:=ag C2;have bw2:=bw1.trans (hO.below (base:=w.heap.size) (by omega));clear C2 hO B2 bw1;go_wp2
 exact bodyPost_ret (bj rfl (w.heap.size+1) _ rfl HC.out underlying59 gn) rfl ⟨rfl,bw2⟩
theorem Jc(N:Int)(ao:Option Addr)(xs:List Nat)(cap:Nat)(w:World)(hN:aD N)(hx:Wd w ao xs)(hf:aA xs)(hcap:xs.length<=cap)(hl:xs.length<=1048576)(G:GV w):
  Calls prog 52 #[.agg #[.int .i64 N,.slice ao xs.length cap]] w fun e w'=>∃cs:List Value,e=.returned (.tuple #[.agg cs.toArray,.int .i64 (kE8 N xs)])/\bm w' cs (kB8 N xs)/\NF w.heap.size 7 cs/\Below w.heap.size w w':=by
 cases hk:az N xs with
 | false=>
  refine mr (Cc N ao xs cap w hx hk) fun w' hb=>?_;have e1:fM N xs=0:=by unfold fM;rw[hk];rfl
  have e2:fQ N xs=0:=by unfold fQ;rw[hk];rfl
  have e3:fK N xs=0:=by unfold fK;rw[hk];rfl
  have e4:fN N xs=0:=by unfold fN;rw[hk];rfl
  have e5:dY N xs=[]:=by unfold dY;rw[hk];rfl
  have e6:fP N xs=0:=by unfold fP;rw[hk];rfl
  have e7:dX N xs=[]:=by unfold dX;rw[hk];rfl
  have e8:dW N xs=[]:=by unfold dW;rw[hk];rfl
  have e9:dU N xs=[]:=by unfold dU;rw[hk];rfl
  have eE:kE8 N xs=2:=by unfold kE8 li;rw[hk];rfl
  have R:RO w.heap.size w' (dY N xs) (dX N xs) (dW N xs) (dU N xs) none 0 none 0 none 0 none 0:=by
   rw[e5,e7,e8,e9];exact⟨fun h=>absurd h (Nat.lt_irrefl _),Nat.le_refl _,fun h=>absurd h (Nat.lt_irrefl _),Nat.le_refl _,gJ _ _,Nat.le_refl _,gJ _ _,Nat.le_refl _,a_ _,a_ _⟩
  refine⟨_,?_,R.ki (G.kept hb),R.nf,hb⟩;rw[eE,e1,e2,e3,e4,e5,e6,e7,e8,e9];rfl
 | true=>
  obtain⟨h0,h1,_,_⟩:=bp N xs hk;obtain⟨m,rfl⟩:=Int.eq_ofNat_of_zero_le h0;refine(Cb m ao xs cap w hx hf hk (by omega) G).mono ?_
  rintro e w' ⟨g1,k1,g2,k2,so,sc,tO,tc,rfl,hk1,hk2,p1,p2,p3,p4,q1,q2,hb,f1,f2⟩;have e1:fM (m:Int) xs=(m:Int):=by unfold fM;rw[hk];rfl
  have e2:fQ (m:Int) xs=(nb m:Int):=by unfold fQ;rw[hk,Int.toNat_natCast];rfl
  have e3:fK (m:Int) xs=4:=by unfold fK;rw[hk];rfl
  have e4:fN (m:Int) xs=(nb m:Int)*4:=by unfold fN;rw[hk,Int.toNat_natCast];rfl
  have e5:dY (m:Int) xs=rC m (bitAt xs):=by unfold dY;rw[hk,Int.toNat_natCast];rfl
  have e6:fP (m:Int) xs=(bat m (bitAt xs) (nb m):Int):=by unfold fP;rw[hk,Int.toNat_natCast];rfl
  have e7:dX (m:Int) xs=rO m (bitAt xs):=by unfold dX;rw[hk,Int.toNat_natCast];rfl
  have e8:dW (m:Int) xs=rS m (bitAt xs):=by unfold dW;rw[hk,Int.toNat_natCast];rfl
  have e9:dU (m:Int) xs=rT m (bitAt xs):=by unfold dU;rw[hk,Int.toNat_natCast];rfl
  have lC:(rC m (bitAt xs)).length=k1:=by unfold rC mkS;rw[cM,eJ,hk1]
  have lO:(rO m (bitAt xs)).length=k2:=by unfold rO aC;rw[cM,jp,hk2]
  have lS:(rS m (bitAt xs)).length=gN m:=by unfold rS;rw[kA]
  have lT:(rT m (bitAt xs)).length=gN m:=by unfold rT;rw[ku]
  have R:RO w.heap.size w' (dY (m:Int) xs) (dX (m:Int) xs) (dW (m:Int) xs) (dU (m:Int) xs) (some ⟨g1,0,none⟩) k1 (some ⟨g2,0,none⟩) k2 so sc tO tc:=by
   rw[e5,e7,e8,e9];exact⟨p1,by omega,p2,by omega,p3,by omega,p4,by omega,f1,f2⟩
  refine⟨_,?_,R.ki (G.kept hb),R.nf,hb⟩;rw[FL _ _ hk,e1,e2,e3,e4,e5,e6,e7,e8,e9,lC,lO,lS,lT]
end Go.Proofs.YtleegaihbgbcjabGreatDoor
namespace Go.Proofs.YtleegaihbgbcjabGreatDoor
open Go.RowKit Num Bit
theorem zG(cs:List Value)(a:RA)(w:World)(h:KI w cs a)(o8:kOn a=2):
  Qq 39 #[.agg cs.toArray] w (.int .i64 (kZ a)):=by
 have ON0:=fun(w0:World) (hb:Below w.heap.size w w0)=>iU cs a w0 (h.arg.keep hb);have HL:=Hid.mk8 h.arg.len;have sm:=h.sm;have gv:=h.gv;replace h:=h.arg;obtain⟨cp,cr,cf,rfl,hK,h1,h2,h3⟩:=h
 have l4:=Hid.mk8 h1.four;have l9:=Hid.mk8 h2.nine;have LP:=Hid.mk8 h1.len;have LR:=Hid.mk8 h2.len;have LF:=Hid.mk8 h3.len;obtain⟨K,p,r,f⟩:=a;dsimp only at *;have k7:b_ w cp p:=⟨h1,sm.p1,sm.p2,sm.p3⟩
 have k8:bm w cr r:=⟨h2,sm.r1,sm.r2,sm.r3,sm.r4,gv⟩;have k9:bJ w cf f:=⟨h3,sm.f0,sm.f1,sm.f2⟩
 have ON:Hid (Qz w 55 #[.agg (Value.int .i64 K::(cp++(cr++cf))).toArray] (.int .i64 (kOn ⟨K,p,r,f⟩))):=ON0
 clear ON0 h1 h2 h3 sm gv;obtain⟨W,hW⟩:∃W,W=w.alloc (.cells (Value.int .i64 K::(cp++(cr++cf))).toArray 63):=⟨_,rfl⟩;have bw:Below w.heap.size w W:=by rw[hW];exact below_alloc w _
 have B0:=bn hW;subst hW;obtain⟨e1,e2,e3,e4⟩:=gc o8;rw[e4];rw[o8]at ON
 have C:Hid (Qz w 68 #[.agg cr.toArray] (.int .i64 (kZ8 r))):=fun w0 g=>zJ cr r w0 (k8.keep g);clear e1 e2 e3 e4 k7 k8 k9
 generalize kZ8 r=P0 at *;go_enter func39,ntmps39;go_wp2_with (refine bE w.heap.size _ (by rfl) rfl B0 underlying63 HL.out ?_);refine mr (ON.out _ bw) fun w1 hb=>?_;replace B0:=B0.kept hb
 replace bw:=bg bw hb;clear hb;obtain⟨c0,p1,p2,p3⟩:=parts l4.out l9.out B0;go_wp2_with (refine aR w.heap.size 5 cr (by rfl) rfl p2 underlying59 LR.out ?_);refine mr (C.out _ bw) fun w2 hb=>?_;replace bw:=bg bw hb;go_wp2;go_ret;exact⟨rfl,bw⟩
theorem zL(cs:List Value)(a:RA)(w:World)(h:KI w cs a):
  Qq 39 #[.agg cs.toArray] w (.int .i64 (kZ a)):=by
 by_cases o8:kOn a=2
 .exact zG cs a w h o8
 have ON0:=fun(w0:World) (hb:Below w.heap.size w w0)=>iU cs a w0 (h.arg.keep hb);have HL:=Hid.mk8 h.arg.len;have sm:=h.sm;have gv:=h.gv;replace h:=h.arg;obtain⟨cp,cr,cf,rfl,hK,h1,h2,h3⟩:=h
 have l4:=Hid.mk8 h1.four;have l9:=Hid.mk8 h2.nine;have LP:=Hid.mk8 h1.len;have LR:=Hid.mk8 h2.len;have LF:=Hid.mk8 h3.len;obtain⟨K,p,r,f⟩:=a;dsimp only at *;have k7:b_ w cp p:=⟨h1,sm.p1,sm.p2,sm.p3⟩
 have k8:bm w cr r:=⟨h2,sm.r1,sm.r2,sm.r3,sm.r4,gv⟩;have k9:bJ w cf f:=⟨h3,sm.f0,sm.f1,sm.f2⟩
 have ON:Hid (Qz w 55 #[.agg (Value.int .i64 K::(cp++(cr++cf))).toArray] (.int .i64 (kOn ⟨K,p,r,f⟩))):=ON0
 clear ON0 h1 h2 h3 sm gv;obtain⟨W,hW⟩:∃W,W=w.alloc (.cells (Value.int .i64 K::(cp++(cr++cf))).toArray 63):=⟨_,rfl⟩;have bw:Below w.heap.size w W:=by rw[hW];exact below_alloc w _
 have B0:=bn hW;subst hW;by_cases o7:kOn ⟨K,p,r,f⟩=1
 .skip;obtain⟨e1,e2,e3,e4⟩:=ge o7;rw[e4];rw[o7]at ON
  have C:Hid (Qz w 67 #[.agg cp.toArray] (.int .i64 (kZ7 p))):=fun w0 g=>zK cp p w0 (k7.keep g)
  clear e1 e2 e3 e4 k7 k8 k9;generalize kZ7 p=P0 at *;go_enter func39,ntmps39;go_wp2_with (refine bE w.heap.size _ (by rfl) rfl B0 underlying63 HL.out ?_);refine mr (ON.out _ bw) fun w1 hb=>?_
  replace B0:=B0.kept hb;replace bw:=bg bw hb;clear hb;obtain⟨c0,p1,p2,p3⟩:=parts l4.out l9.out B0;go_wp2_with (refine aR w.heap.size 1 cp (by rfl) rfl p1 underlying55 LP.out ?_)
  refine mr (C.out _ bw) fun w2 hb=>?_;replace bw:=bg bw hb;go_wp2;go_ret;exact⟨rfl,bw⟩
 by_cases o9:kOn ⟨K,p,r,f⟩=3
 .skip;obtain⟨e1,e2,e3,e4⟩:=fV o9;rw[e4];rw[o9]at ON
  have C:Hid (Qz w 69 #[.agg cf.toArray] (.int .i64 (kZ9 f))):=fun w0 g=>zI cf f w0 (k9.keep g)
  clear e1 e2 e3 e4 k7 k8 k9;generalize kZ9 f=P0 at *;go_enter func39,ntmps39;go_wp2_with (refine bE w.heap.size _ (by rfl) rfl B0 underlying63 HL.out ?_);refine mr (ON.out _ bw) fun w1 hb=>?_
  replace B0:=B0.kept hb;replace bw:=bg bw hb;clear hb;obtain⟨c0,p1,p2,p3⟩:=parts l4.out l9.out B0;go_wp2_with (refine aR w.heap.size 14 cf (by rfl) rfl p3 underlying61 LF.out ?_)
  refine mr (C.out _ bw) fun w2 hb=>?_;replace bw:=bg bw hb;go_wp2;go_ret;exact⟨rfl,bw⟩
 obtain⟨e1,e2,e3,e4⟩:=fU o7 o8 o9;rw[e4];have d7:(kOn ⟨K,p,r,f⟩==1)=false:=by simp[o7]
 have d8:(kOn ⟨K,p,r,f⟩==2)=false:=by simp[o8]
 have d9:(kOn ⟨K,p,r,f⟩==3)=false:=by simp[o9]
 clear e1 e2 e3 e4 k7 k8 k9;generalize kOn ⟨K,p,r,f⟩=O at *;go_enter func39,ntmps39;go_wp2_with (refine bE w.heap.size _ (by rfl) rfl B0 underlying63 HL.out ?_);refine mr (ON.out _ bw) fun w1 hb=>?_;replace B0:=B0.kept hb;replace bw:=bg bw hb;go_wp2;go_ret;exact⟨rfl,bw⟩
theorem J_(cs:List Value)(a:RA)(i:Int)(w:World)(h:KI w cs a)(hi:aD i)(o8:kOn a=2):
  Qq 29 #[.agg cs.toArray,.int .i64 i] w (.tuple #[.bool (gaB (aX a) (kBN a) (aY a) i),.int .i64 (gaE (aX a) (kBN a) (aY a) i)]):=by
 have ON0:=fun(w0:World) (hb:Below w.heap.size w w0)=>iU cs a w0 (h.arg.keep hb);have HL:=Hid.mk8 h.arg.len;have sm:=h.sm;have gv:=h.gv;replace h:=h.arg;obtain⟨cp,cr,cf,rfl,hK,h1,h2,h3⟩:=h
 have l4:=Hid.mk8 h1.four;have l9:=Hid.mk8 h2.nine;have LP:=Hid.mk8 h1.len;have LR:=Hid.mk8 h2.len;have LF:=Hid.mk8 h3.len;obtain⟨K,p,r,f⟩:=a;dsimp only at *;have k7:b_ w cp p:=⟨h1,sm.p1,sm.p2,sm.p3⟩
 have k8:bm w cr r:=⟨h2,sm.r1,sm.r2,sm.r3,sm.r4,gv⟩;have k9:bJ w cf f:=⟨h3,sm.f0,sm.f1,sm.f2⟩
 have ON:Hid (Qz w 55 #[.agg (Value.int .i64 K::(cp++(cr++cf))).toArray] (.int .i64 (kOn ⟨K,p,r,f⟩))):=ON0
 clear ON0 h1 h2 h3 sm gv;obtain⟨W,hW⟩:∃W,W=w.alloc (.cells (Value.int .i64 K::(cp++(cr++cf))).toArray 63):=⟨_,rfl⟩;have bw:Below w.heap.size w W:=by rw[hW];exact below_alloc w _
 have B0:=bn hW;subst hW;obtain⟨e1,e2,e3,e4⟩:=gc o8;rw[e1,e2,e3];rw[o8]at ON
 have C:Hid (Qz w 57 #[.agg cr.toArray,.int .i64 i] (.tuple #[.bool (gaB (kOk8 r) (kBN8 r) (kBX8 r) i),.int .i64 (gaE (kOk8 r) (kBN8 r) (kBX8 r) i)])):=fun w0 g=>Kc cr r i w0 (k8.keep g) hi
 clear e1 e2 e3 e4 k7 k8 k9;generalize gaB (kOk8 r) (kBN8 r) (kBX8 r) i=P0 at *;generalize gaE (kOk8 r) (kBN8 r) (kBX8 r) i=P1 at *;go_enter func29,ntmps29
 go_wp2_with (refine bE w.heap.size _ (by rfl) rfl B0 underlying63 HL.out ?_);refine mr (ON.out _ bw) fun w1 hb=>?_;replace B0:=B0.kept hb;replace bw:=bg bw hb;clear hb
 obtain⟨c0,p1,p2,p3⟩:=parts l4.out l9.out B0;go_wp2_with (refine aR w.heap.size 5 cr (by rfl) rfl p2 underlying59 LR.out ?_);refine mr (C.out _ bw) fun w2 hb=>?_
 replace bw:=bg bw hb;go_wp2;go_ret2;exact⟨rfl,bw⟩
theorem Ke(cs:List Value)(a:RA)(i:Int)(w:World)(h:KI w cs a)(hi:aD i):
  Qq 29 #[.agg cs.toArray,.int .i64 i] w (.tuple #[.bool (gaB (aX a) (kBN a) (aY a) i),.int .i64 (gaE (aX a) (kBN a) (aY a) i)]):=by
 by_cases o8:kOn a=2
 .exact J_ cs a i w h hi o8
 have ON0:=fun(w0:World) (hb:Below w.heap.size w w0)=>iU cs a w0 (h.arg.keep hb);have HL:=Hid.mk8 h.arg.len;have sm:=h.sm;have gv:=h.gv;replace h:=h.arg;obtain⟨cp,cr,cf,rfl,hK,h1,h2,h3⟩:=h
 have l4:=Hid.mk8 h1.four;have l9:=Hid.mk8 h2.nine;have LP:=Hid.mk8 h1.len;have LR:=Hid.mk8 h2.len;have LF:=Hid.mk8 h3.len;obtain⟨K,p,r,f⟩:=a;dsimp only at *;have k7:b_ w cp p:=⟨h1,sm.p1,sm.p2,sm.p3⟩
 have k8:bm w cr r:=⟨h2,sm.r1,sm.r2,sm.r3,sm.r4,gv⟩;have k9:bJ w cf f:=⟨h3,sm.f0,sm.f1,sm.f2⟩
 have ON:Hid (Qz w 55 #[.agg (Value.int .i64 K::(cp++(cr++cf))).toArray] (.int .i64 (kOn ⟨K,p,r,f⟩))):=ON0
 clear ON0 h1 h2 h3 sm gv;obtain⟨W,hW⟩:∃W,W=w.alloc (.cells (Value.int .i64 K::(cp++(cr++cf))).toArray 63):=⟨_,rfl⟩;have bw:Below w.heap.size w W:=by rw[hW];exact below_alloc w _
 have B0:=bn hW;subst hW;by_cases o7:kOn ⟨K,p,r,f⟩=1
 .skip;obtain⟨e1,e2,e3,e4⟩:=ge o7;rw[e1,e2,e3];rw[o7]at ON
  have C:Hid (Qz w 56 #[.agg cp.toArray,.int .i64 i] (.tuple #[.bool (gaB (kOk7 p) (kBN7 p) (kBX7 p) i),.int .i64 (gaE (kOk7 p) (kBN7 p) (kBX7 p) i)])):=fun w0 g=>Kd cp p i w0 (k7.keep g) hi
  clear e1 e2 e3 e4 k7 k8 k9;generalize gaB (kOk7 p) (kBN7 p) (kBX7 p) i=P0 at *;generalize gaE (kOk7 p) (kBN7 p) (kBX7 p) i=P1 at *;go_enter func29,ntmps29
  go_wp2_with (refine bE w.heap.size _ (by rfl) rfl B0 underlying63 HL.out ?_);refine mr (ON.out _ bw) fun w1 hb=>?_;replace B0:=B0.kept hb;replace bw:=bg bw hb;clear hb
  obtain⟨c0,p1,p2,p3⟩:=parts l4.out l9.out B0;go_wp2_with (refine aR w.heap.size 1 cp (by rfl) rfl p1 underlying55 LP.out ?_);refine mr (C.out _ bw) fun w2 hb=>?_
  replace bw:=bg bw hb;go_wp2;go_ret2;exact⟨rfl,bw⟩
 by_cases o9:kOn ⟨K,p,r,f⟩=3
 .skip;obtain⟨e1,e2,e3,e4⟩:=fV o9;rw[e1,e2,e3];rw[o9]at ON
  have C:Hid (Qz w 58 #[.agg cf.toArray,.int .i64 i] (.tuple #[.bool (gaB (kOk9 f) (kBN9 f) (kBX9 f) i),.int .i64 (gaE (kOk9 f) (kBN9 f) (kBX9 f) i)])):=fun w0 g=>Kb cf f i w0 (k9.keep g) hi
  clear e1 e2 e3 e4 k7 k8 k9;generalize gaB (kOk9 f) (kBN9 f) (kBX9 f) i=P0 at *;generalize gaE (kOk9 f) (kBN9 f) (kBX9 f) i=P1 at *;go_enter func29,ntmps29
  go_wp2_with (refine bE w.heap.size _ (by rfl) rfl B0 underlying63 HL.out ?_);refine mr (ON.out _ bw) fun w1 hb=>?_;replace B0:=B0.kept hb;replace bw:=bg bw hb;clear hb
  obtain⟨c0,p1,p2,p3⟩:=parts l4.out l9.out B0;go_wp2_with (refine aR w.heap.size 14 cf (by rfl) rfl p3 underlying61 LF.out ?_);refine mr (C.out _ bw) fun w2 hb=>?_
  replace bw:=bg bw hb;go_wp2;go_ret2;exact⟨rfl,bw⟩
 obtain⟨e1,e2,e3,e4⟩:=fU o7 o8 o9;rw[e1,e2,e3];have d7:(kOn ⟨K,p,r,f⟩==1)=false:=by simp[o7]
 have d8:(kOn ⟨K,p,r,f⟩==2)=false:=by simp[o8]
 have d9:(kOn ⟨K,p,r,f⟩==3)=false:=by simp[o9]
 clear e1 e2 e3 e4 k7 k8 k9;generalize kOn ⟨K,p,r,f⟩=O at *;go_enter func29,ntmps29;go_wp2_with (refine bE w.heap.size _ (by rfl) rfl B0 underlying63 HL.out ?_);refine mr (ON.out _ bw) fun w1 hb=>?_;replace B0:=B0.kept hb;replace bw:=bg bw hb;go_wp2;go_ret2;exact⟨rfl,bw⟩
theorem Bg(cs:List Value)(a:RA)(bit:Bool)(i:Int)(w:World)(h:KI w cs a)(hi:aD i)(o8:kOn a=2):
  Qq 44 #[.agg cs.toArray,.bool bit,.int .i64 i] w (.tuple #[.int .i64 (grN (aX a) (kBN a) (aY a) bit i),.int .i64 (grE (aX a) (kBN a) i)]):=by
 have ON0:=fun(w0:World) (hb:Below w.heap.size w w0)=>iU cs a w0 (h.arg.keep hb);have HL:=Hid.mk8 h.arg.len;have sm:=h.sm;have gv:=h.gv;replace h:=h.arg;obtain⟨cp,cr,cf,rfl,hK,h1,h2,h3⟩:=h
 have l4:=Hid.mk8 h1.four;have l9:=Hid.mk8 h2.nine;have LP:=Hid.mk8 h1.len;have LR:=Hid.mk8 h2.len;have LF:=Hid.mk8 h3.len;obtain⟨K,p,r,f⟩:=a;dsimp only at *;have k7:b_ w cp p:=⟨h1,sm.p1,sm.p2,sm.p3⟩
 have k8:bm w cr r:=⟨h2,sm.r1,sm.r2,sm.r3,sm.r4,gv⟩;have k9:bJ w cf f:=⟨h3,sm.f0,sm.f1,sm.f2⟩
 have ON:Hid (Qz w 55 #[.agg (Value.int .i64 K::(cp++(cr++cf))).toArray] (.int .i64 (kOn ⟨K,p,r,f⟩))):=ON0
 clear ON0 h1 h2 h3 sm gv;obtain⟨W,hW⟩:∃W,W=w.alloc (.cells (Value.int .i64 K::(cp++(cr++cf))).toArray 63):=⟨_,rfl⟩;have bw:Below w.heap.size w W:=by rw[hW];exact below_alloc w _
 have B0:=bn hW;subst hW;obtain⟨e1,e2,e3,e4⟩:=gc o8;rw[e1,e2,e3];rw[o8]at ON
 have C:Hid (Qz w 77 #[.agg cr.toArray,.bool bit,.int .i64 i] (.tuple #[.int .i64 (grN (kOk8 r) (kBN8 r) (kBX8 r) bit i),.int .i64 (grE (kOk8 r) (kBN8 r) i)])):=fun w0 g=>Bj cr r bit i w0 (k8.keep g) hi
 clear e1 e2 e3 e4 k7 k8 k9;generalize grN (kOk8 r) (kBN8 r) (kBX8 r) bit i=P0 at *;generalize grE (kOk8 r) (kBN8 r) i=P1 at *;go_enter func44,ntmps44
 go_wp2_with (refine bE w.heap.size _ (by rfl) rfl B0 underlying63 HL.out ?_);refine mr (ON.out _ bw) fun w1 hb=>?_;replace B0:=B0.kept hb;replace bw:=bg bw hb;clear hb
 obtain⟨c0,p1,p2,p3⟩:=parts l4.out l9.out B0;go_wp2_with (refine aR w.heap.size 5 cr (by rfl) rfl p2 underlying59 LR.out ?_);refine mr (C.out _ bw) fun w2 hb=>?_
 replace bw:=bg bw hb;go_wp2;go_ret2;exact⟨rfl,bw⟩
theorem tT(cs:List Value)(a:RA)(bit:Bool)(i:Int)(w:World)(h:KI w cs a)(hi:aD i):
  Qq 44 #[.agg cs.toArray,.bool bit,.int .i64 i] w (.tuple #[.int .i64 (grN (aX a) (kBN a) (aY a) bit i),.int .i64 (grE (aX a) (kBN a) i)]):=by
 by_cases o8:kOn a=2
 .exact Bg cs a bit i w h hi o8
 have ON0:=fun(w0:World) (hb:Below w.heap.size w w0)=>iU cs a w0 (h.arg.keep hb);have HL:=Hid.mk8 h.arg.len;have sm:=h.sm;have gv:=h.gv;replace h:=h.arg;obtain⟨cp,cr,cf,rfl,hK,h1,h2,h3⟩:=h
 have l4:=Hid.mk8 h1.four;have l9:=Hid.mk8 h2.nine;have LP:=Hid.mk8 h1.len;have LR:=Hid.mk8 h2.len;have LF:=Hid.mk8 h3.len;obtain⟨K,p,r,f⟩:=a;dsimp only at *;have k7:b_ w cp p:=⟨h1,sm.p1,sm.p2,sm.p3⟩
 have k8:bm w cr r:=⟨h2,sm.r1,sm.r2,sm.r3,sm.r4,gv⟩;have k9:bJ w cf f:=⟨h3,sm.f0,sm.f1,sm.f2⟩
 have ON:Hid (Qz w 55 #[.agg (Value.int .i64 K::(cp++(cr++cf))).toArray] (.int .i64 (kOn ⟨K,p,r,f⟩))):=ON0
 clear ON0 h1 h2 h3 sm gv;obtain⟨W,hW⟩:∃W,W=w.alloc (.cells (Value.int .i64 K::(cp++(cr++cf))).toArray 63):=⟨_,rfl⟩;have bw:Below w.heap.size w W:=by rw[hW];exact below_alloc w _
 have B0:=bn hW;subst hW;by_cases o7:kOn ⟨K,p,r,f⟩=1
 .skip;obtain⟨e1,e2,e3,e4⟩:=ge o7;rw[e1,e2,e3];rw[o7]at ON
  have C:Hid (Qz w 76 #[.agg cp.toArray,.bool bit,.int .i64 i] (.tuple #[.int .i64 (grN (kOk7 p) (kBN7 p) (kBX7 p) bit i),.int .i64 (grE (kOk7 p) (kBN7 p) i)])):=fun w0 g=>Bk cp p bit i w0 (k7.keep g) hi
  clear e1 e2 e3 e4 k7 k8 k9;generalize grN (kOk7 p) (kBN7 p) (kBX7 p) bit i=P0 at *;generalize grE (kOk7 p) (kBN7 p) i=P1 at *;go_enter func44,ntmps44
  go_wp2_with (refine bE w.heap.size _ (by rfl) rfl B0 underlying63 HL.out ?_);refine mr (ON.out _ bw) fun w1 hb=>?_;replace B0:=B0.kept hb;replace bw:=bg bw hb;clear hb
  obtain⟨c0,p1,p2,p3⟩:=parts l4.out l9.out B0;go_wp2_with (refine aR w.heap.size 1 cp (by rfl) rfl p1 underlying55 LP.out ?_);refine mr (C.out _ bw) fun w2 hb=>?_
  replace bw:=bg bw hb;go_wp2;go_ret2;exact⟨rfl,bw⟩
 by_cases o9:kOn ⟨K,p,r,f⟩=3
 .skip;obtain⟨e1,e2,e3,e4⟩:=fV o9;rw[e1,e2,e3];rw[o9]at ON
  have C:Hid (Qz w 78 #[.agg cf.toArray,.bool bit,.int .i64 i] (.tuple #[.int .i64 (grN (kOk9 f) (kBN9 f) (kBX9 f) bit i),.int .i64 (grE (kOk9 f) (kBN9 f) i)])):=fun w0 g=>Bi cf f bit i w0 (k9.keep g) hi
  clear e1 e2 e3 e4 k7 k8 k9;generalize grN (kOk9 f) (kBN9 f) (kBX9 f) bit i=P0 at *;generalize grE (kOk9 f) (kBN9 f) i=P1 at *;go_enter func44,ntmps44
  go_wp2_with (refine bE w.heap.size _ (by rfl) rfl B0 underlying63 HL.out ?_);refine mr (ON.out _ bw) fun w1 hb=>?_;replace B0:=B0.kept hb;replace bw:=bg bw hb;clear hb
  obtain⟨c0,p1,p2,p3⟩:=parts l4.out l9.out B0;go_wp2_with (refine aR w.heap.size 14 cf (by rfl) rfl p3 underlying61 LF.out ?_);refine mr (C.out _ bw) fun w2 hb=>?_
  replace bw:=bg bw hb;go_wp2;go_ret2;exact⟨rfl,bw⟩
 obtain⟨e1,e2,e3,e4⟩:=fU o7 o8 o9;rw[e1,e2,e3];have d7:(kOn ⟨K,p,r,f⟩==1)=false:=by simp[o7]
 have d8:(kOn ⟨K,p,r,f⟩==2)=false:=by simp[o8]
 have d9:(kOn ⟨K,p,r,f⟩==3)=false:=by simp[o9]
 clear e1 e2 e3 e4 k7 k8 k9;generalize kOn ⟨K,p,r,f⟩=O at *;go_enter func44,ntmps44;go_wp2_with (refine bE w.heap.size _ (by rfl) rfl B0 underlying63 HL.out ?_);refine mr (ON.out _ bw) fun w1 hb=>?_;replace B0:=B0.kept hb;replace bw:=bg bw hb;go_wp2;go_ret2;exact⟨rfl,bw⟩
theorem zR(cs:List Value)(a:RA)(bit:Bool)(k:Int)(w:World)(h:KI w cs a)(hi:aD k)(o8:kOn a=2):
  Qq 75 #[.agg cs.toArray,.bool bit,.int .i64 k] w (.tuple #[.int .i64 (gsX (aX a) (kBN a) (aY a) bit k),.int .i64 (gsE (aX a) (kBN a) (aY a) bit k)]):=by
 have ON0:=fun(w0:World) (hb:Below w.heap.size w w0)=>iU cs a w0 (h.arg.keep hb);have HL:=Hid.mk8 h.arg.len;have sm:=h.sm;have gv:=h.gv;replace h:=h.arg;obtain⟨cp,cr,cf,rfl,hK,h1,h2,h3⟩:=h
 have l4:=Hid.mk8 h1.four;have l9:=Hid.mk8 h2.nine;have LP:=Hid.mk8 h1.len;have LR:=Hid.mk8 h2.len;have LF:=Hid.mk8 h3.len;obtain⟨K,p,r,f⟩:=a;dsimp only at *;have k7:b_ w cp p:=⟨h1,sm.p1,sm.p2,sm.p3⟩
 have k8:bm w cr r:=⟨h2,sm.r1,sm.r2,sm.r3,sm.r4,gv⟩;have k9:bJ w cf f:=⟨h3,sm.f0,sm.f1,sm.f2⟩
 have ON:Hid (Qz w 55 #[.agg (Value.int .i64 K::(cp++(cr++cf))).toArray] (.int .i64 (kOn ⟨K,p,r,f⟩))):=ON0
 clear ON0 h1 h2 h3 sm gv;obtain⟨W,hW⟩:∃W,W=w.alloc (.cells (Value.int .i64 K::(cp++(cr++cf))).toArray 63):=⟨_,rfl⟩;have bw:Below w.heap.size w W:=by rw[hW];exact below_alloc w _
 have B0:=bn hW;subst hW;obtain⟨e1,e2,e3,e4⟩:=gc o8;rw[e1,e2,e3];rw[o8]at ON
 have C:Hid (Qz w 124 #[.agg cr.toArray,.bool bit,.int .i64 k] (.tuple #[.int .i64 (gsX (kOk8 r) (kBN8 r) (kBX8 r) bit k),.int .i64 (gsE (kOk8 r) (kBN8 r) (kBX8 r) bit k)])):=fun w0 g=>zV cr r bit k w0 (k8.keep g) hi
 clear e1 e2 e3 e4 k7 k8 k9;generalize gsX (kOk8 r) (kBN8 r) (kBX8 r) bit k=P0 at *;generalize gsE (kOk8 r) (kBN8 r) (kBX8 r) bit k=P1 at *;go_enter func75,ntmps75
 go_wp2_with (refine bE w.heap.size _ (by rfl) rfl B0 underlying63 HL.out ?_);refine mr (ON.out _ bw) fun w1 hb=>?_;replace B0:=B0.kept hb;replace bw:=bg bw hb;clear hb
 obtain⟨c0,p1,p2,p3⟩:=parts l4.out l9.out B0;go_wp2_with (refine aR w.heap.size 5 cr (by rfl) rfl p2 underlying59 LR.out ?_);refine mr (C.out _ bw) fun w2 hb=>?_
 replace bw:=bg bw hb;go_wp2;go_ret2;exact⟨rfl,bw⟩
theorem zZ(cs:List Value)(a:RA)(bit:Bool)(k:Int)(w:World)(h:KI w cs a)(hi:aD k):
  Qq 75 #[.agg cs.toArray,.bool bit,.int .i64 k] w (.tuple #[.int .i64 (gsX (aX a) (kBN a) (aY a) bit k),.int .i64 (gsE (aX a) (kBN a) (aY a) bit k)]):=by
 by_cases o8:kOn a=2
 .exact zR cs a bit k w h hi o8
 have ON0:=fun(w0:World) (hb:Below w.heap.size w w0)=>iU cs a w0 (h.arg.keep hb);have HL:=Hid.mk8 h.arg.len;have sm:=h.sm;have gv:=h.gv;replace h:=h.arg;obtain⟨cp,cr,cf,rfl,hK,h1,h2,h3⟩:=h
 have l4:=Hid.mk8 h1.four;have l9:=Hid.mk8 h2.nine;have LP:=Hid.mk8 h1.len;have LR:=Hid.mk8 h2.len;have LF:=Hid.mk8 h3.len;obtain⟨K,p,r,f⟩:=a;dsimp only at *;have k7:b_ w cp p:=⟨h1,sm.p1,sm.p2,sm.p3⟩
 have k8:bm w cr r:=⟨h2,sm.r1,sm.r2,sm.r3,sm.r4,gv⟩;have k9:bJ w cf f:=⟨h3,sm.f0,sm.f1,sm.f2⟩
 have ON:Hid (Qz w 55 #[.agg (Value.int .i64 K::(cp++(cr++cf))).toArray] (.int .i64 (kOn ⟨K,p,r,f⟩))):=ON0
 clear ON0 h1 h2 h3 sm gv;obtain⟨W,hW⟩:∃W,W=w.alloc (.cells (Value.int .i64 K::(cp++(cr++cf))).toArray 63):=⟨_,rfl⟩;have bw:Below w.heap.size w W:=by rw[hW];exact below_alloc w _
 have B0:=bn hW;subst hW;by_cases o7:kOn ⟨K,p,r,f⟩=1
 .skip;obtain⟨e1,e2,e3,e4⟩:=ge o7;rw[e1,e2,e3];rw[o7]at ON
  have C:Hid (Qz w 123 #[.agg cp.toArray,.bool bit,.int .i64 k] (.tuple #[.int .i64 (gsX (kOk7 p) (kBN7 p) (kBX7 p) bit k),.int .i64 (gsE (kOk7 p) (kBN7 p) (kBX7 p) bit k)])):=fun w0 g=>zY cp p bit k w0 (k7.keep g) hi
  clear e1 e2 e3 e4 k7 k8 k9;generalize gsX (kOk7 p) (kBN7 p) (kBX7 p) bit k=P0 at *;generalize gsE (kOk7 p) (kBN7 p) (kBX7 p) bit k=P1 at *;go_enter func75,ntmps75
  go_wp2_with (refine bE w.heap.size _ (by rfl) rfl B0 underlying63 HL.out ?_);refine mr (ON.out _ bw) fun w1 hb=>?_;replace B0:=B0.kept hb;replace bw:=bg bw hb;clear hb
  obtain⟨c0,p1,p2,p3⟩:=parts l4.out l9.out B0;go_wp2_with (refine aR w.heap.size 1 cp (by rfl) rfl p1 underlying55 LP.out ?_);refine mr (C.out _ bw) fun w2 hb=>?_
  replace bw:=bg bw hb;go_wp2;go_ret2;exact⟨rfl,bw⟩
 by_cases o9:kOn ⟨K,p,r,f⟩=3
 .skip;obtain⟨e1,e2,e3,e4⟩:=fV o9;rw[e1,e2,e3];rw[o9]at ON
  have C:Hid (Qz w 125 #[.agg cf.toArray,.bool bit,.int .i64 k] (.tuple #[.int .i64 (gsX (kOk9 f) (kBN9 f) (kBX9 f) bit k),.int .i64 (gsE (kOk9 f) (kBN9 f) (kBX9 f) bit k)])):=fun w0 g=>zT cf f bit k w0 (k9.keep g) hi
  clear e1 e2 e3 e4 k7 k8 k9;generalize gsX (kOk9 f) (kBN9 f) (kBX9 f) bit k=P0 at *;generalize gsE (kOk9 f) (kBN9 f) (kBX9 f) bit k=P1 at *;go_enter func75,ntmps75
  go_wp2_with (refine bE w.heap.size _ (by rfl) rfl B0 underlying63 HL.out ?_);refine mr (ON.out _ bw) fun w1 hb=>?_;replace B0:=B0.kept hb;replace bw:=bg bw hb;clear hb
  obtain⟨c0,p1,p2,p3⟩:=parts l4.out l9.out B0;go_wp2_with (refine aR w.heap.size 14 cf (by rfl) rfl p3 underlying61 LF.out ?_);refine mr (C.out _ bw) fun w2 hb=>?_
  replace bw:=bg bw hb;go_wp2;go_ret2;exact⟨rfl,bw⟩
 obtain⟨e1,e2,e3,e4⟩:=fU o7 o8 o9;rw[e1,e2,e3];have d7:(kOn ⟨K,p,r,f⟩==1)=false:=by simp[o7]
 have d8:(kOn ⟨K,p,r,f⟩==2)=false:=by simp[o8]
 have d9:(kOn ⟨K,p,r,f⟩==3)=false:=by simp[o9]
 clear e1 e2 e3 e4 k7 k8 k9;generalize kOn ⟨K,p,r,f⟩=O at *;go_enter func75,ntmps75;go_wp2_with (refine bE w.heap.size _ (by rfl) rfl B0 underlying63 HL.out ?_);refine mr (ON.out _ bw) fun w1 hb=>?_;replace B0:=B0.kept hb;replace bw:=bg bw hb;go_wp2;go_ret2;exact⟨rfl,bw⟩
theorem eM:(prog.info? 53).map (·.size)=some 2:=by kernel_rfl
theorem Jv(cs:List Value)(a:RA)(w:World)(h:KI w cs a)(o8:kOn a=2):
  Calls prog 47 #[.agg cs.toArray] w fun e w'=>∃bo bc,e=.returned (.agg #[.int .i64 (kBN a),.slice bo (aY a).length bc])/\Wd w' bo (aY a)/\(aY a).length<=bc/\Below w.heap.size w w':=by
 have ON0:=fun(w0:World) (hb:Below w.heap.size w w0)=>iU cs a w0 (h.arg.keep hb);have HL:=Hid.mk8 h.arg.len;have sm:=h.sm;have gv:=h.gv;replace h:=h.arg;obtain⟨cp,cr,cf,rfl,hK,h1,h2,h3⟩:=h
 have l4:=Hid.mk8 h1.four;have l9:=Hid.mk8 h2.nine;have LP:=Hid.mk8 h1.len;have LR:=Hid.mk8 h2.len;have LF:=Hid.mk8 h3.len;obtain⟨K,p,r,f⟩:=a;dsimp only at *;have k7:b_ w cp p:=⟨h1,sm.p1,sm.p2,sm.p3⟩
 have k8:bm w cr r:=⟨h2,sm.r1,sm.r2,sm.r3,sm.r4,gv⟩;have k9:bJ w cf f:=⟨h3,sm.f0,sm.f1,sm.f2⟩
 have ON:Hid (Qz w 55 #[.agg (Value.int .i64 K::(cp++(cr++cf))).toArray] (.int .i64 (kOn ⟨K,p,r,f⟩))):=ON0
 clear ON0 h1 h2 h3 sm gv;have bw:Below w.heap.size w ((w.alloc (.cells (Value.int .i64 K::(cp++(cr++cf))).toArray 63)).alloc (.cells #[.int .i64 0,.slice none 0 0] 53)):=(below_alloc w _).alloc (by simp) _
 have B0:aa ((w.alloc (.cells (Value.int .i64 K::(cp++(cr++cf))).toArray 63)).alloc (.cells #[.int .i64 0,.slice none 0 0] 53)) w.heap.size (Value.int .i64 K::(cp++(cr++cf))) 63:=(aa.new w _ _).alloc _
 have B2:aa ((w.alloc (.cells (Value.int .i64 K::(cp++(cr++cf))).toArray 63)).alloc (.cells #[.int .i64 0,.slice none 0 0] 53)) (w.heap.size+1) [.int .i64 0,.slice none 0 0] 53:=aa.new2 w _ _ _
 obtain⟨e1,e2,e3,e4⟩:=gc o8;rw[e2,e3];rw[o8]at ON
 have C:Hid (∀w0,Below w.heap.size w w0->Calls prog 80 #[.agg cr.toArray] w0 fun e w'=>∃bo bc,e=.returned (.agg #[.int .i64 (kBN8 r),.slice bo (kBX8 r).length bc])/\Wd w' bo (kBX8 r)/\(kBX8 r).length<=bc/\Below w0.heap.size w0 w'):=fun w0 g=>Jz cr r w0 (k8.keep g)
 clear e1 e2 e3 e4 k7 k8 k9;generalize kBN8 r=N at *;generalize kBX8 r=X at *;go_enter func47,ntmps47;go_wp2_with (refine bE w.heap.size _ (by rfl) rfl B0 underlying63 HL.out ?_)
 refine mr (ON.out _ bw) fun w1 hb=>?_;replace B0:=B0.kept hb;replace bw:=bg bw hb;replace B2:=B2.kept hb;clear hb;obtain⟨c0,p1,p2,p3⟩:=parts l4.out l9.out B0
 go_wp2_with (refine aR w.heap.size 5 cr (by rfl) rfl p2 underlying59 LR.out ?_);refine(C.out _ bw).mono ?_;rintro e w2 ⟨bo,bc,rfl,hx,hbc,hb⟩;replace bw:=bg bw hb;replace B2:=B2.kept hb
 clear hb C ON B0 c0 p1 p2 p3;have hne:=hx.apart B2 (by intro v hv n;simp at hv;rcases hv with rfl | rfl<;>simp);go_wp2_with (refine aJ (w.heap.size+1) _ _ rfl rfl B2 rfl eM (by simp[Value.oneCell']) ?_)
 intro w3 B3 O3;have HZ:Hid (aa w3 (w.heap.size+1) [.int .i64 N,.slice bo (List.length X) bc] 53/\Wd w3 bo X/\Below w.heap.size w w3):=⟨B3,O3.wd hx hne,bw.trans (O3.below (Nat.le_succ _))⟩;clear B3 O3 hx;go_wp2
 (try simp only[Exit.inBlock,Exit.then]);exact bodyPost_ret (fZ rfl (w.heap.size+1) _ rfl HZ.out.1 underlying53 eM) rfl ⟨bo,bc,rfl,HZ.out.2.1,hbc,HZ.out.2.2⟩
theorem JB(cs:List Value)(a:RA)(w:World)(h:KI w cs a):
  Calls prog 47 #[.agg cs.toArray] w fun e w'=>∃bo bc,e=.returned (.agg #[.int .i64 (kBN a),.slice bo (aY a).length bc])/\Wd w' bo (aY a)/\(aY a).length<=bc/\Below w.heap.size w w':=by
 by_cases o8:kOn a=2
 .exact Jv cs a w h o8
 have ON0:=fun(w0:World) (hb:Below w.heap.size w w0)=>iU cs a w0 (h.arg.keep hb);have HL:=Hid.mk8 h.arg.len;have sm:=h.sm;have gv:=h.gv;replace h:=h.arg;obtain⟨cp,cr,cf,rfl,hK,h1,h2,h3⟩:=h
 have l4:=Hid.mk8 h1.four;have l9:=Hid.mk8 h2.nine;have LP:=Hid.mk8 h1.len;have LR:=Hid.mk8 h2.len;have LF:=Hid.mk8 h3.len;obtain⟨K,p,r,f⟩:=a;dsimp only at *;have k7:b_ w cp p:=⟨h1,sm.p1,sm.p2,sm.p3⟩
 have k8:bm w cr r:=⟨h2,sm.r1,sm.r2,sm.r3,sm.r4,gv⟩;have k9:bJ w cf f:=⟨h3,sm.f0,sm.f1,sm.f2⟩
 have ON:Hid (Qz w 55 #[.agg (Value.int .i64 K::(cp++(cr++cf))).toArray] (.int .i64 (kOn ⟨K,p,r,f⟩))):=ON0
 clear ON0 h1 h2 h3 sm gv;have bw:Below w.heap.size w ((w.alloc (.cells (Value.int .i64 K::(cp++(cr++cf))).toArray 63)).alloc (.cells #[.int .i64 0,.slice none 0 0] 53)):=(below_alloc w _).alloc (by simp) _
 have B0:aa ((w.alloc (.cells (Value.int .i64 K::(cp++(cr++cf))).toArray 63)).alloc (.cells #[.int .i64 0,.slice none 0 0] 53)) w.heap.size (Value.int .i64 K::(cp++(cr++cf))) 63:=(aa.new w _ _).alloc _
 have B2:aa ((w.alloc (.cells (Value.int .i64 K::(cp++(cr++cf))).toArray 63)).alloc (.cells #[.int .i64 0,.slice none 0 0] 53)) (w.heap.size+1) [.int .i64 0,.slice none 0 0] 53:=aa.new2 w _ _ _
 by_cases o7:kOn ⟨K,p,r,f⟩=1
 .skip;obtain⟨e1,e2,e3,e4⟩:=ge o7;rw[e2,e3];rw[o7]at ON
  have C:Hid (∀w0,Below w.heap.size w w0->Calls prog 79 #[.agg cp.toArray] w0 fun e w'=>∃bo bc,e=.returned (.agg #[.int .i64 (kBN7 p),.slice bo (kBX7 p).length bc])/\Wd w' bo (kBX7 p)/\(kBX7 p).length<=bc/\Below w0.heap.size w0 w'):=fun w0 g=>JA cp p w0 (k7.keep g)
  clear e1 e2 e3 e4 k7 k8 k9;generalize kBN7 p=N at *;generalize kBX7 p=X at *;go_enter func47,ntmps47;go_wp2_with (refine bE w.heap.size _ (by rfl) rfl B0 underlying63 HL.out ?_)
  refine mr (ON.out _ bw) fun w1 hb=>?_;replace B0:=B0.kept hb;replace bw:=bg bw hb;replace B2:=B2.kept hb;clear hb;obtain⟨c0,p1,p2,p3⟩:=parts l4.out l9.out B0
  go_wp2_with (refine aR w.heap.size 1 cp (by rfl) rfl p1 underlying55 LP.out ?_);refine(C.out _ bw).mono ?_;rintro e w2 ⟨bo,bc,rfl,hx,hbc,hb⟩;replace bw:=bg bw hb;replace B2:=B2.kept hb
  clear hb C ON B0 c0 p1 p2 p3;have hne:=hx.apart B2 (by intro v hv n;simp at hv;rcases hv with rfl | rfl<;>simp);go_wp2_with (refine aJ (w.heap.size+1) _ _ rfl rfl B2 rfl eM (by simp[Value.oneCell']) ?_)
  intro w3 B3 O3;have HZ:Hid (aa w3 (w.heap.size+1) [.int .i64 N,.slice bo (List.length X) bc] 53/\Wd w3 bo X/\Below w.heap.size w w3):=⟨B3,O3.wd hx hne,bw.trans (O3.below (Nat.le_succ _))⟩;clear B3 O3 hx;go_wp2
  (try simp only[Exit.inBlock,Exit.then]);exact bodyPost_ret (fZ rfl (w.heap.size+1) _ rfl HZ.out.1 underlying53 eM) rfl ⟨bo,bc,rfl,HZ.out.2.1,hbc,HZ.out.2.2⟩
 by_cases o9:kOn ⟨K,p,r,f⟩=3
 .skip;obtain⟨e1,e2,e3,e4⟩:=fV o9;rw[e2,e3];rw[o9]at ON
  have C:Hid (∀w0,Below w.heap.size w w0->Calls prog 81 #[.agg cf.toArray] w0 fun e w'=>∃bo bc,e=.returned (.agg #[.int .i64 (kBN9 f),.slice bo (kBX9 f).length bc])/\Wd w' bo (kBX9 f)/\(kBX9 f).length<=bc/\Below w0.heap.size w0 w'):=fun w0 g=>Jy cf f w0 (k9.keep g)
  clear e1 e2 e3 e4 k7 k8 k9;generalize kBN9 f=N at *;generalize kBX9 f=X at *;go_enter func47,ntmps47;go_wp2_with (refine bE w.heap.size _ (by rfl) rfl B0 underlying63 HL.out ?_)
  refine mr (ON.out _ bw) fun w1 hb=>?_;replace B0:=B0.kept hb;replace bw:=bg bw hb;replace B2:=B2.kept hb;clear hb;obtain⟨c0,p1,p2,p3⟩:=parts l4.out l9.out B0
  go_wp2_with (refine aR w.heap.size 14 cf (by rfl) rfl p3 underlying61 LF.out ?_);refine(C.out _ bw).mono ?_;rintro e w2 ⟨bo,bc,rfl,hx,hbc,hb⟩;replace bw:=bg bw hb;replace B2:=B2.kept hb
  clear hb C ON B0 c0 p1 p2 p3;have hne:=hx.apart B2 (by intro v hv n;simp at hv;rcases hv with rfl | rfl<;>simp);go_wp2_with (refine aJ (w.heap.size+1) _ _ rfl rfl B2 rfl eM (by simp[Value.oneCell']) ?_)
  intro w3 B3 O3;have HZ:Hid (aa w3 (w.heap.size+1) [.int .i64 N,.slice bo (List.length X) bc] 53/\Wd w3 bo X/\Below w.heap.size w w3):=⟨B3,O3.wd hx hne,bw.trans (O3.below (Nat.le_succ _))⟩;clear B3 O3 hx;go_wp2
  (try simp only[Exit.inBlock,Exit.then]);exact bodyPost_ret (fZ rfl (w.heap.size+1) _ rfl HZ.out.1 underlying53 eM) rfl ⟨bo,bc,rfl,HZ.out.2.1,hbc,HZ.out.2.2⟩
 obtain⟨e1,e2,e3,e4⟩:=fU o7 o8 o9;rw[e2,e3];have d7:(kOn ⟨K,p,r,f⟩==1)=false:=by simp[o7]
 have d8:(kOn ⟨K,p,r,f⟩==2)=false:=by simp[o8]
 have d9:(kOn ⟨K,p,r,f⟩==3)=false:=by simp[o9]
 clear e1 e2 e3 e4 k7 k8 k9;generalize kOn ⟨K,p,r,f⟩=O at *;go_enter func47,ntmps47;go_wp2_with (refine bE w.heap.size _ (by rfl) rfl B0 underlying63 HL.out ?_);refine mr (ON.out _ bw) fun w1 hb=>?_;replace B0:=B0.kept hb;replace bw:=bg bw hb;replace B2:=B2.kept hb;clear hb ON B0
 go_wp2_with (refine aJ (w.heap.size+1) _ _ rfl rfl B2 rfl eM (by simp[Value.oneCell']) ?_);intro w3 B3 O3
 have HZ:Hid (aa w3 (w.heap.size+1) [.int .i64 0,.slice none 0 0] 53/\Below w.heap.size w w3):=⟨B3,bw.trans (O3.below (Nat.le_succ _))⟩;clear B3 O3;go_wp2
 (try simp only[Exit.inBlock,Exit.then]);exact bodyPost_ret (fZ rfl (w.heap.size+1) _ rfl HZ.out.1 underlying53 eM) rfl ⟨none,0,rfl,cE _ _,Nat.le_refl _,HZ.out.2⟩
end Go.Proofs.YtleegaihbgbcjabGreatDoor
