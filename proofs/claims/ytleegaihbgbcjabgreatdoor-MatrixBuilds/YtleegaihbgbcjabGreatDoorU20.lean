import Derived.Test.YtleegaihbgbcjabGreatDoorU16
import Derived.Great.BuildSlice
set_option linter.unusedVariables false
set_option linter.unusedSimpArgs false
set_option maxRecDepth 100000
set_option maxHeartbeats 16000000
open Go.Proofs.Tryz
namespace Go.Proofs.YtleegaihbgbcjabGreatDoor
open Go.RowKit Num Bit Bn
structure QB (V wr:World) (gx:Nat) (c0 c1 c2 c3 c4 c5 c6 sv tv:Value) (J T m:Nat) (f:Nat->Bool):Prop where
 bx:aa wr gx [c0,c1,c2,c3,c4,c5,c6,sv,tv] 59
 lt:gx<V.heap.size
 sz:V.heap.size<=wr.heap.size
 hb:Below gx V wr
 same:∀k,k<V.heap.size->k≠gx->wr.heap[k]?=V.heap[k]?
 o1:wr.ownsRow V.heap.size 3 1 sv J (b_ (da m f J))
 o2:wr.ownsRow V.heap.size 3 1 tv T (b_ (c_ m f T))
 ap:Ap.Apart sv tv
theorem QB.keep{V wr w':World}{gx:Nat}{c0 c1 c2 c3 c4 c5 c6 sv tv:Value}{J T m:Nat}{f:Nat->Bool}(h:QB V wr gx c0 c1 c2 c3 c4 c5 c6 sv tv J T m f)(hb:Below wr.heap.size wr w'):QB V w' gx c0 c1 c2 c3 c4 c5 c6 sv tv J T m f:=
 ⟨h.bx.kept hb,h.lt,Nat.le_trans h.sz hb.size,h.hb.trans (hb.mono (Nat.le_of_lt h.bx.lt)),fun k h1 h2=>(hb.block k (Nat.lt_of_lt_of_le h1 h.sz)).trans (h.same k h1 h2),Ap.owns_below h.o1 hb,Ap.owns_below h.o2 hb,h.ap⟩
theorem QB.one{V wr w2:World}{gx:Nat}{c0 c1 c2 c3 c4 c5 c6 sv tv u:Value}{J T m:Nat}{f:Nat->Bool}(h:QB V wr gx c0 c1 c2 c3 c4 c5 c6 sv tv J T m f)(ho:w2.ownsRow V.heap.size 3 1 u (J+1) (b_ (da m f (J+1))))(hB:Below V.heap.size wr w2)
  (hblk:∀k,u.ownBlock=some k->(sv.ownBlock=some k\/k=wr.heap.size)/\k<w2.heap.size) (hkeep:∀k,k<wr.heap.size->sv.ownBlock≠some k->w2.heap[k]?=wr.heap[k]?):
  QB V (w2.setCell ⟨gx,7,none⟩ u) gx c0 c1 c2 c3 c4 c5 c6 u tv (J+1) T m f:=by
 have hs:(w2.setCell ⟨gx,7,none⟩ u).heap.size=w2.heap.size:=by simp[World.setCell]
 exact⟨(h.bx.keep hB h.lt).set 7 u,h.lt,by rw[hs];exact Nat.le_trans h.sz hB.size,(h.hb.trans (hB.mono (Nat.le_of_lt h.lt))).setCell (Nat.le_refl _) _,fun k h1 h2=>(Below.heap_setCell w2 ⟨gx,7,none⟩ u k h2).trans ((hB.block k h1).trans (h.same k h1 h2)),jk ho h.lt,jk (Ap.owns_other h.o2 hkeep h.ap.symm) h.lt,(Ap.apart_new h.o2 hblk h.ap.symm).symm⟩
theorem QB.two{V wr w2:World}{gx:Nat}{c0 c1 c2 c3 c4 c5 c6 sv tv u:Value}{J T m:Nat}{f:Nat->Bool}(h:QB V wr gx c0 c1 c2 c3 c4 c5 c6 sv tv J T m f)(ho:w2.ownsRow V.heap.size 3 1 u (T+1) (b_ (c_ m f (T+1))))(hB:Below V.heap.size wr w2)
  (hblk:∀k,u.ownBlock=some k->(tv.ownBlock=some k\/k=wr.heap.size)/\k<w2.heap.size) (hkeep:∀k,k<wr.heap.size->tv.ownBlock≠some k->w2.heap[k]?=wr.heap[k]?):
  QB V (w2.setCell ⟨gx,8,none⟩ u) gx c0 c1 c2 c3 c4 c5 c6 sv u J (T+1) m f:=by
 have hs:(w2.setCell ⟨gx,8,none⟩ u).heap.size=w2.heap.size:=by simp[World.setCell]
 exact⟨(h.bx.keep hB h.lt).set 8 u,h.lt,by rw[hs];exact Nat.le_trans h.sz hB.size,(h.hb.trans (hB.mono (Nat.le_of_lt h.lt))).setCell (Nat.le_refl _) _,fun k h1 h2=>(Below.heap_setCell w2 ⟨gx,8,none⟩ u k h2).trans ((hB.block k h1).trans (h.same k h1 h2)),jk (Ap.owns_other h.o1 hkeep h.ap) h.lt,jk ho h.lt,Ap.apart_new h.o1 hblk h.ap⟩
theorem oP{ops:Array Oper}{d:Option Tmp}{ty T:TypeId}{ps:String}{af:Array Edge}{a:Act}{w:World}{K:Act->World->Prop}{Q:Exit->Act->World->Prop}{E:Prop}{x y:Operand}
  (g:Nat) (old cs:List Value) (hx:a.eval x=.pointer (some ⟨g,0,none⟩)) (hy:a.eval y=.agg cs.toArray) (hc:aa w g old T) (lo:old.length=cs.length) (hi:(prog.info? T).map (·.size)=some cs.length) (h1:cs.toArray.all (·.oneCell')=true)
  (h:∀w1,aa w1 g cs T->aC g w w1->K (a.put d undef) w1):
  if Region.wanted (⟨d,.store T x y,ty,ps,af,none⟩:Oper) (yielded ops a.tmps)=true then Oper.wp prog (⟨d,.store T x y,ty,ps,af,none⟩:Oper) a w K Q else E:=by
 rw[if_pos (by simp[Region.wanted])];exact wp_store_row _ x y rfl g cs.toArray hx hy _ _ hc (by simpa using hi) (by simpa using lo) h1 (h _ (setRow_heap w g _ _ _ _ hc) (aC.row g w _))
structure QV (w V:World) (gx g1 g2 gm:Nat) (c0 c1 c2 c3 c4 c5 c6:Value) (C O:List Nat) (MK:List Value):Prop where
 bx:aa V gx [c0,c1,c2,c3,c4,c5,c6,.slice none 0 0,.slice none 0 0] 59
 o1:Own V g1 C
 o2:Own V g2 O
 mks:aa V gm MK 137
 z:aa V (w.heap.size+1) [.int .i64 0,.int .i64 0,.int .i64 0,.int .i64 0,.slice none 0 0,.int .i64 0,.slice none 0 0,.slice none 0 0,.slice none 0 0] 59
 hb:Below w.heap.size w V
 n1:g1≠gx
 n2:g2≠gx
 n3:gm≠gx
 n4:w.heap.size+1<gx
theorem Co(m:Nat)(f:Nat->Bool):∀d j,bat m f j<=bat m f (j+d):=by
 intro d;induction d with
 | zero=>intro j;exact Nat.le_refl _
 | succ d ih=>intro j;have:=ih j;rw[show j+(d+1)=j+d+1 by omega,bat];omega
theorem fP:(prog.info? 59).map (·.size)=some 9:=by kernel_rfl
theorem Ak(m:Nat)(ao:Option Addr)(xs:List Nat)(cap:Nat)(w:World)(hx:Wd w ao xs)(hf:aA xs)(hk:am (m:Int) xs=true)(hm:m<=1048576)(G:GV w):
  Calls prog 52 #[.agg #[.int .i64 m,.slice ao xs.length cap]] w fun e w'=>∃g1 k1 g2 k2 so sc tO tc,e=.returned (.tuple #[.agg #[.int .i64 m,.int .i64 (nb m:Nat),.int .i64 4,.int .i64 ((nb m:Int)*4),.slice (some ⟨g1,0,none⟩) k1 k1,.int .i64 (bat m (bitAt xs) (nb m):Nat),.slice (some ⟨g2,0,none⟩) k2 k2,.slice so (gN m) sc,.slice tO (gN m) tc],.int .i64 0])/\
   k1=(nb m*4+63)/64/\k2=(bat m (bitAt xs) (nb m)+63)/64/\Wd w' (some ⟨g1,0,none⟩) (rC m (bitAt xs))/\Wd w' (some ⟨g2,0,none⟩) (rO m (bitAt xs))/\Nd w' so (rS m (bitAt xs))/\Nd w' tO (rT m (bitAt xs))/\gN m<=sc/\gN m<=tc/\Below w.heap.size w w'/\Fr w.heap.size so/\Fr w.heap.size tO:=by
 obtain⟨i0,hi,hz0,hz1,hz2⟩:=info_parts uy;have nbl:=iD m hm;have btl:=jE m (bitAt xs) (nb m)
 obtain⟨W,hW⟩:∃W,W=(w.alloc (.cells #[.int .i64 m,.slice ao xs.length cap] 53)).alloc (.cells #[.int .i64 0,.int .i64 0,.int .i64 0,.int .i64 0,.slice none 0 0,.int .i64 0,.slice none 0 0,.slice none 0 0,.slice none 0 0] 59):=⟨_,rfl⟩
 have bW:=dt hW;have zW:W.heap.size=w.heap.size+2:=by rw[hW];simp
 have B1:=dH hW;have B2:=de hW
 have C1:Hid (Qz w 83 #[.agg #[.int .i64 m,.slice ao xs.length cap]] (.bool true)):=fun w0 h=>by
  have:=cg (m:Int) ao xs cap w0 (hx.keep h);rw[hk]at this;exact this
 have C2:Hid (∀w0,Below w.heap.size w w0->Calls prog 88 #[.agg #[.int .i64 m,.slice ao xs.length cap]] w0 fun e w'=>∃g,e=.returned (.slice (some ⟨g,0,none⟩) (nb m) (nb m))/\aa w' g (cD (nb m) (bcl m (bitAt xs)) (bof m (bitAt xs)) (nb m)) 150/\w0.heap.size<=g/\Below w0.heap.size w0 w'):=fun w0 h=>zZ m ao xs cap w0 hm (hx.keep h) hf hk
 have C4:Hid (∀gl w0,aa w0 gl (cD (nb m) (bcl m (bitAt xs)) (bof m (bitAt xs)) (nb m)) 150->GV w0->Calls prog 89 #[.slice (some ⟨gl,0,none⟩) (nb m) (nb m)] w0 fun e w'=>∃g,e=.returned (.tuple #[.slice (some ⟨g,0,none⟩) (gN m) (gN m),.agg #[.int .i64 (bon m (bitAt xs) (nb m):Nat),.int .i64 (bat m (bitAt xs) (nb m):Nat)]])/\aa w' g (db (gN m) (bon m (bitAt xs)) (bat m (bitAt xs)) (nb m)) 137/\w0.heap.size<=g/\Below w0.heap.size w0 w'):=fun gl w0 h hG=>Ac (nb m) (gN m) gl _ _ (bon m (bitAt xs)) (bat m (bitAt xs)) w0 nbl rfl h (fun i _=>iK _ _ _) rfl rfl (fun i _=>rfl) (fun i _=>rfl) (fun i _=>qE _ _ _) (fun i _=>jE _ _ _) hG
 obtain⟨k1,hk1⟩:∃k1,k1=(nb m*4+63)/64:=⟨_,rfl⟩;obtain⟨k2,hk2⟩:∃k2,k2=(bat m (bitAt xs) (nb m)+63)/64:=⟨_,rfl⟩
 have C5:Hid (∀gl w0,aa w0 gl (cD (nb m) (bcl m (bitAt xs)) (bof m (bitAt xs)) (nb m)) 150->Calls prog 90 #[.slice (some ⟨gl,0,none⟩) (nb m) (nb m)] w0 fun e w'=>∃g,e=.returned (.agg #[.int .i64 (nb m:Nat),.int .i64 4,.int .i64 ((nb m:Int)*4),.slice (some ⟨g,0,none⟩) k1 k1])/\w0.heap.size<=g/\Own w' g (rC m (bitAt xs))/\Below w0.heap.size w0 w'):=fun gl w0 h=>Ai (nb m) gl k1 _ _ w0 nbl h (fun i _=>iK _ _ _) hk1
 have C6:Hid (∀gl w0,aa w0 gl (cD (nb m) (bcl m (bitAt xs)) (bof m (bitAt xs)) (nb m)) 150->GV w0->Calls prog 91 #[.slice (some ⟨gl,0,none⟩) (nb m) (nb m),.int .i64 (bat m (bitAt xs) (nb m):Nat)] w0 fun e w'=>∃g,e=.returned (.agg #[.int .i64 (bat m (bitAt xs) (nb m):Nat),.slice (some ⟨g,0,none⟩) k2 k2])/\w0.heap.size<=g/\Own w' g (rO m (bitAt xs))/\Below w0.heap.size w0 w'):=by
  intro gl w0 h hG
  have:=z_ (nb m) gl (bat m (bitAt xs) (nb m)) k2 _ _ (bat m (bitAt xs)) (fun j=>(dc m (bitAt xs) (nb m)).getD j false) w0 nbl h (fun i _=>iK _ _ _) rfl (fun i _=>rfl) (fun i hi=>by
   have:=Co m (bitAt xs) (nb m-(i+1)) (i+1);rwa [show i+1+(nb m-(i+1))=nb m by omega]at this) rfl (by omega) (fun i _=>mG m (bitAt xs) i) (fun i hi t ht=>by
   have g:=qG m (bitAt xs) (nb m) i t hi ht;show _=(dc m (bitAt xs) (nb m)).getD (bat m (bitAt xs) i+t) false;rw[List.getD_eq_getElem?_getD,g]
   rfl) hk2 hG
  rw[<-lj m (bitAt xs)]at this;exact this
 have MG1:Hid (∀j,j<gN m->(db (gN m) (bon m (bitAt xs)) (bat m (bitAt xs)) (nb m))[j*2]?=some (.int .i64 (bon m (bitAt xs) (8*j):Nat))):=by
  intro j hj;rw[tK _ _ _ _ _ hj];by_cases c:j=0
  .subst c;by_cases d:8*0<nb m<;>simp[d]<;>rfl
  .rw[if_pos (lh m j hj c)]
 have MG2:Hid (∀j,j<gN m->(db (gN m) (bon m (bitAt xs)) (bat m (bitAt xs)) (nb m))[j*2+1]?=some (.int .i64 (bat m (bitAt xs) (8*j):Nat))):=by
  intro j hj;rw[tJ _ _ _ _ _ hj];by_cases c:j=0
  .subst c;by_cases d:8*0<nb m<;>simp[d]<;>rfl
  .rw[if_pos (lh m j hj c)]
 have gl8:gN m<=8739:=by unfold gN;omega
 have HK1:=ag hk1;have HK2:=ag hk2;clear hx hf hk hk1 hk2;go_enter func52,ntmps52;go_wp2_with fail;rw[<-hW];refine mr (C1.out _ bW) fun w1 hb=>?_;have bw1:=bg bW hb
 have z1:=hb.size;replace B1:=B1.kept hb;replace B2:=B2.kept hb;have r0:=B1.cell 0 rfl;have r1:=B1.cell 1 rfl;clear hb C1 hW bW;go_wp2_with fail;refine(C2.out _ bw1).mono ?_;rintro e w2 ⟨gl,rfl,hl,hgl,hb⟩
 have bw2:=bg bw1 hb;have z2:=hb.size;replace B1:=B1.kept hb;replace B2:=B2.kept hb;have lgl:=hl.lt;clear hb C2 bw1 r0 r1;go_wp2_with fail;refine(C4.out gl _ hl (G.kept bw2)).mono ?_
 rintro e w6 ⟨gm,rfl,hmk,hgm,hb⟩;have bw6:=bg bw2 hb;have z6:=hb.size;replace B1:=B1.kept hb;replace B2:=B2.kept hb;have B4:GV w6:=G.kept bw6;replace hl:=hl.kept hb;have lgm:=hmk.lt
 clear hb C4 bw2 G;go_wp2;have hb7:=below_alloc w6 (.cells #[.int .i64 (bon m (bitAt xs) (nb m):Nat),.int .i64 (bat m (bitAt xs) (nb m):Nat)] 137)
 have B5:=aa.new w6 [.int .i64 (bon m (bitAt xs) (nb m):Nat),.int .i64 (bat m (bitAt xs) (nb m):Nat)] 137;replace B1:=B1.kept hb7;replace B2:=B2.kept hb7;replace B4:=B4.kept hb7;replace hl:=hl.kept hb7
 replace hmk:=hmk.kept hb7;have bw7:=bg bw6 hb7;have z7:=hb7.size;clear hb7 bw6
 generalize hV7:w6.alloc (.cells #[.int .i64 (bon m (bitAt xs) (nb m):Nat),.int .i64 (bat m (bitAt xs) (nb m):Nat)] 137)=V7 at *
 refine bn [10] (fun w'=>aa w' w.heap.size [.int .i64 m,.slice ao xs.length cap] 53/\GV w'/\aa w' w6.heap.size [.int .i64 (bon m (bitAt xs) (nb m):Nat),.int .i64 (bat m (bitAt xs) (nb m):Nat)] 137) (by kernel_rfl) ?_
 have hS:aa V7.drew w.heap.size [.int .i64 m,.slice ao xs.length cap] 53/\GV V7.drew/\aa V7.drew w6.heap.size [.int .i64 (bon m (bitAt xs) (nb m):Nat),.int .i64 (bat m (bitAt xs) (nb m):Nat)] 137:=⟨B1,B4.kept ((Below.refl _ _).drew),B5⟩
 replace B2:aa V7.drew (w.heap.size+1) [.int .i64 0,.int .i64 0,.int .i64 0,.int .i64 0,.slice none 0 0,.int .i64 0,.slice none 0 0,.slice none 0 0,.slice none 0 0] 59:=B2
 replace hl:aa V7.drew gl (cD (nb m) (bcl m (bitAt xs)) (bof m (bitAt xs)) (nb m)) 150:=hl;replace hmk:aa V7.drew gm (db (gN m) (bon m (bitAt xs)) (bat m (bitAt xs)) (nb m)) 137:=hmk
 replace bw7:Below w.heap.size w V7.drew:=bw7.drew;have z8:w6.heap.size<V7.drew.heap.size:=B5.lt;generalize V7.drew=Y at *;clear B1 B4 B5 hV7;refine aK 0 hS ?_
 refine aF 1 hS rfl (fun w0 h0=>by have c0:=h0.1.cell 0 rfl;go_simp;try with_reducible rfl) ?_;refine aK 2 hS ?_;refine aK 4 hS ?_;refine aK 5 hS ?_
 refine aF 6 hS rfl (fun w0 h0=>by have c0:=h0.2.2.cell 1 rfl;go_simp;try with_reducible rfl) ?_;refine az.two 3 9 (by kernel_rfl) rfl rfl ?_ ?_
 .intro K hK;go_simp;refine(C5.out gl _ hl).mono ?_;rintro e wA ⟨g1,rfl,hg1,hO1,hb⟩;have zA:=hb.size;have lO1:=hO1.lt;replace hS:=And.intro (hS.1.kept hb) (And.intro (hS.2.1.kept hb) (hS.2.2.kept hb))
  replace B2:=B2.kept hb;replace hl:=hl.kept hb;replace hmk:=hmk.kept hb;replace bw7:=bg bw7 hb;clear hb;refine hK.out _ _ (fun _=>hS) ?_;clear hK K
  try simp only[Act.put,aw,ar,an,ah,aj,ai]
  refine az.two 7 9 (by kernel_rfl) rfl rfl ?_ ?_
  .intro K hK;go_simp;refine(C6.out gl _ hl hS.2.1).mono ?_;rintro e wB ⟨g2,rfl,hg2,hO2,hb⟩;have zB:=hb.size;have lO2:=hO2.lt;replace hS:=And.intro (hS.1.kept hb) (And.intro (hS.2.1.kept hb) (hS.2.2.kept hb))
   replace B2:=B2.kept hb;replace hl:=hl.kept hb;replace hmk:=hmk.kept hb;replace bw7:=bg bw7 hb;replace hO1:=hO1.keep hb;clear hb;refine hK.out _ _ (fun _=>hS) ?_;clear hK K
   try simp only[Act.put,aw,ar,an,ah,aj,ai]
   refine aK 8 hS ?_;refine aO 9 ?_;intro K hK;go_simp
   have hb:=below_alloc wB (.cells #[.int .i64 0,.int .i64 0,.int .i64 0,.int .i64 0,.slice none 0 0,.int .i64 0,.slice none 0 0,.slice none 0 0,.slice none 0 0] 59)
   have B6:=aa.new wB [.int .i64 0,.int .i64 0,.int .i64 0,.int .i64 0,.slice none 0 0,.int .i64 0,.slice none 0 0,.slice none 0 0,.slice none 0 0] 59
   have zX:(wB.alloc (.cells #[.int .i64 0,.int .i64 0,.int .i64 0,.int .i64 0,.slice none 0 0,.int .i64 0,.slice none 0 0,.slice none 0 0,.slice none 0 0] 59)).heap.size=wB.heap.size+1:=by simp
   replace hS:=And.intro (hS.1.kept hb) (And.intro (hS.2.1.kept hb) (hS.2.2.kept hb));replace B2:=B2.kept hb;replace hl:=hl.kept hb;replace hmk:=hmk.kept hb;replace bw7:=bg bw7 hb
   replace hO1:=hO1.keep hb;replace hO2:=hO2.keep hb;obtain⟨gx,hgx⟩:∃gx,gx=wB.heap.size:=⟨_,rfl⟩;rw[<-hgx]at B6;rw[<-hgx]
   generalize wB.alloc (.cells #[.int .i64 0,.int .i64 0,.int .i64 0,.int .i64 0,.slice none 0 0,.int .i64 0,.slice none 0 0,.slice none 0 0,.slice none 0 0] 59)=wX at *;have hgx1:gx<=wB.heap.size:=by omega
   have hgx2:wB.heap.size<=gx:=by omega
   clear hb hgx;refine hK.out _ _ (fun _=>hS) ?_;clear hK K;try simp only[Act.put,aw,ar,an,ah,aj,ai]
   refine aO 10 ?_;intro K hK
   refine oP gx _ [.int .i64 m,.int .i64 (nb m:Nat),.int .i64 4,.int .i64 ((nb m:Int)*4),.slice (some ⟨g1,0,none⟩) k1 k1,.int .i64 (bat m (bitAt xs) (nb m):Nat),.slice (some ⟨g2,0,none⟩) k2 k2,.slice none 0 0,.slice none 0 0] rfl rfl B6 rfl fP (by simp[Value.oneCell']) ?_
   intro V B7 hO;refine hK.out _ _ (fun h=>absurd (by decide) h) ?_;clear hK K;try simp only[Act.put,aw,ar,an,ah,aj,ai]
   refine az.done (by kernel_rfl) ?_ _
   have QV0:Hid (QV w V gx g1 g2 gm (.int .i64 m) (.int .i64 (nb m:Nat)) (.int .i64 4) (.int .i64 ((nb m:Int)*4)) (.slice (some ⟨g1,0,none⟩) k1 k1) (.int .i64 (bat m (bitAt xs) (nb m):Nat)) (.slice (some ⟨g2,0,none⟩) k2 k2) (rC m (bitAt xs)) (rO m (bitAt xs)) (db (gN m) (bon m (bitAt xs)) (bat m (bitAt xs)) (nb m))):=⟨B7,(hO.block g1 (by omega)).trans hO1,(hO.block g2 (by omega)).trans hO2,hO.cel hmk (by omega),hO.cel B2 (by omega),bw7.trans (hO.below (base:=w.heap.size) (by omega)),by omega,by omega,by omega,by omega⟩
   clear B7 hO hO1 hO2 hmk B2 bw7 hS hl B6 C5 C6;go_wp2
   go_loopw [32] (fun t wr=>∃(J:Nat) (so:Option Addr) (sc:Nat) (tO:Option Addr) (tc:Nat),J<=gN m/\t=.int .i64 J/\J<=sc/\J<=tc/\QB V wr gx (.int .i64 m) (.int .i64 (nb m:Nat)) (.int .i64 4) (.int .i64 ((nb m:Int)*4)) (.slice (some ⟨g1,0,none⟩) k1 k1) (.int .i64 (bat m (bitAt xs) (nb m):Nat)) (.slice (some ⟨g2,0,none⟩) k2 k2) (.slice so J sc) (.slice tO J tc) J J m (bitAt xs)) (fun t _=>gN m-(intOf t).toNat)
   case atStart=>exact⟨0,none,0,none,0,Nat.zero_le _,rfl,Nat.le_refl _,Nat.le_refl _,⟨QV0.out.bx,QV0.out.bx.lt,Nat.le_refl _,Below.refl _ _,fun _ _ _=>rfl,World.ownsRow_nil _ _ _ _,World.ownsRow_nil _ _ _ _,Ap.apart_nil _⟩⟩
   case round=>
    obtain⟨J,so,sc,tO,tc,hJ,rfl,hsc,htc,HQ⟩:=hrel;by_cases hlt:J<gN m
    .have hlt2:(J:Int)<(gN m:Int):=by omega
     have mkc:aa wr gm _ 137:=(HQ.same gm QV0.out.mks.lt QV0.out.n3).trans QV0.out.mks;have x0:=mkc.cell (J*2) (MG1.out J hlt);have x1:=mkc.cell (J*2+1) (MG2.out J hlt);have SU1:=ag (ny m (bitAt xs) J)
     have SU2:=ag (ni m (bitAt xs) J);generalize bon m (bitAt xs) (8*J)=Zs at *;generalize bat m (bitAt xs) (8*J)=Zp at *;have lmk:=mkc.lt;have y7:=HQ.bx.cell 7 rfl;have lx:=HQ.bx.lt;have szr:=HQ.sz
     have hown1:∀k,(Value.slice so J sc).ownBlock=some k->k<wr.heap.size:=fun k hk=>(HQ.o1.lt k hk).2;clear mkc
     go_wp2_with (at_builtin;refine Ap.wpList_append_x (by rfl) _ _ _ (by rfl) V.heap.size 3 i0 (.int .i64 0) 8 underlying25 hi hz0 hz1 hz2 rfl (.slice so J sc) J (b_ (da m (bitAt xs) J)) (by rfl) ((HQ.o1.alloc _).alloc _) (some ⟨wr.heap.size+1,0,none⟩) 1 1 [.int .i64 Zs] (by rfl) rfl ?c1_301 ?c2_301 ?c3_301 ?c4_301 ?c5_301 ?_)
     case c1_301=>exact fun _=>⟨_,rfl,fun j u hj=>by
      match j,hj with
      | 0,hj=>simp at hj;subst hj;simp[Addr.add]⟩
     case c2_301=>intro u hu;simp at hu;subst hu;rfl
     case c3_301=>unfold maxLen;omega
     case c4_301=>omega
     case c5_301=>simp;omega
     intro so2 sc2 w9 own9 hle9 hB9 hblk9 hkeep9 hsz9;rw[SU1.out]at own9
     have HPa:=(HQ.keep (below_alloc wr (.cells #[.int .i64 Zs,.int .i64 Zp] 137))).keep (below_alloc _ (.cells #[.int .i64 Zs] 3))
     have esz:((wr.alloc (.cells #[.int .i64 Zs,.int .i64 Zp] 137)).alloc (.cells #[.int .i64 Zs] 3)).heap.size=wr.heap.size+1+1:=by simp
     have mbA:aa ((wr.alloc (.cells #[.int .i64 Zs,.int .i64 Zp] 137)).alloc (.cells #[.int .i64 Zs] 3)) wr.heap.size [.int .i64 Zs,.int .i64 Zp] 137:=(aa.new wr _ _).alloc _
     rw[<-esz]at hblk9 hkeep9;have HP9:=HPa.one own9 hB9 hblk9 hkeep9
     have hC9:aa w9 wr.heap.size [.int .i64 Zs,.int .i64 Zp] 137:=(hkeep9 wr.heap.size (by omega) (fun e=>by have:=hown1 _ e;omega)).trans mbA;have x7:=(HPa.bx.keep hB9 HQ.lt).cell 7 rfl
     have f7:=(HPa.bx.keep hB9 HQ.lt).frozen 7;have x8:=(HPa.bx.keep hB9 HQ.lt).cell 8 rfl;have mb1:=hC9.cell 1 rfl;have lx9:=(HPa.bx.keep hB9 HQ.lt).lt;have lm9:=hC9.lt;have sz9:=HP9.sz;simp only[eW]at sz9
     have ngx:gx≠wr.heap.size:=by omega
     clear own9 hB9 hblk9 hkeep9 HPa mbA hown1 x0 x1 y7 esz
     go_wp2_with (at_builtin;refine Ap.wpList_append_x (by rfl) _ _ _ (by rfl) V.heap.size 3 i0 (.int .i64 0) 8 underlying25 hi hz0 hz1 hz2 rfl (.slice tO J tc) J (b_ (c_ m (bitAt xs) J)) (by rfl) (HP9.o2.alloc _) (some ⟨w9.heap.size,0,none⟩) 1 1 [.int .i64 Zp] (by rfl) rfl ?d1_301 ?d2_301 ?d3_301 ?d4_301 ?d5_301 ?_)
     case d1_301=>
      have q:=(aa.new (w9.setCell ⟨gx,7,none⟩ (.slice so2 (J+1) sc2)) [.int .i64 Zp] 3).cell 0 rfl;rw[eW]at q
      exact fun _=>⟨_,rfl,fun j u hj=>by
       match j,hj with
       | 0,hj=>simp at hj;subst hj;simp[Addr.add];exact q⟩
     case d2_301=>intro u hu;simp at hu;subst hu;rfl
     case d3_301=>unfold maxLen;omega
     case d4_301=>omega
     case d5_301=>simp;omega
     intro tO2 tc2 w10 own10 hle10 hB10 hblk10 hkeep10 hsz10;rw[SU2.out]at own10;have HPb:=HP9.keep (below_alloc _ (.cells #[.int .i64 Zp] 3))
     have esz2:((w9.setCell ⟨gx,7,none⟩ (.slice so2 (J+1) sc2)).alloc (.cells #[.int .i64 Zp] 3)).heap.size=w9.heap.size+1:=by simp[eW]
     rw[<-esz2]at hblk10 hkeep10;have HP10:=HPb.two own10 hB10 hblk10 hkeep10;have x8b:=(HPb.bx.keep hB10 HQ.lt).cell 8 rfl;have f8b:=(HPb.bx.keep hB10 HQ.lt).frozen 8;have HPH:=ag HP10
     clear own10 hB10 hblk10 hkeep10 HPb esz2 HP9 HP10 x7 x8 f7 mb1 hC9 HQ;go_wp2;exact⟨⟨J+1,so2,sc2,tO2,tc2,by omega,by go_num,hle9,hle10,HPH.out⟩,by simp only[intOf];omega⟩
    .obtain hJe:J=gN m:=by omega
     have zc:aa wr (w.heap.size+1) [.int .i64 0,.int .i64 0,.int .i64 0,.int .i64 0,.slice none 0 0,.int .i64 0,.slice none 0 0,.slice none 0 0,.slice none 0 0] 59:=(HQ.same (w.heap.size+1) (by have:=QV0.out.z.lt;exact this) (by have:=QV0.out.n4;omega)).trans QV0.out.z
     have d1:Own wr g1 (rC m (bitAt xs)):=(HQ.same g1 QV0.out.o1.lt QV0.out.n1).trans QV0.out.o1;have d2:Own wr g2 (rO m (bitAt xs)):=(HQ.same g2 QV0.out.o2.lt QV0.out.n2).trans QV0.out.o2
     have bwr:Below w.heap.size w wr:=QV0.out.hb.trans (HQ.hb.mono (by have:=QV0.out.n4;omega));have hgV:w.heap.size+1<V.heap.size:=QV0.out.z.lt;have e1:g1≠w.heap.size+1:=by omega
     have e2:g2≠w.heap.size+1:=by omega
     have HH:=ag (And.intro HQ (And.intro d1 (And.intro d2 bwr)));clear d1 d2 bwr QV0
     go_wp2_with (first | refine fe gx _ rfl HQ.bx underlying59 fP ?_ | refine aJ (w.heap.size+1) _ _ rfl rfl zc rfl fP (by simp[Value.oneCell']) ?_);intro w20 C20 hO20
     obtain⟨HQ2,d1,d2,bwr⟩:=HH.out
     have HF:=ag (show Wd w20 (some ⟨g1,0,none⟩) (rC m (bitAt xs))/\Wd w20 (some ⟨g2,0,none⟩) (rO m (bitAt xs))/\Nd w20 so (da m (bitAt xs) J)/\Nd w20 tO (c_ m (bitAt xs) J)/\Below w.heap.size w w20/\Fr w.heap.size so/\Fr w.heap.size tO from⟨Own.wd ((hO20.block g1 e1).trans d1),Own.wd ((hO20.block g2 e2).trans d2),jm (hO20.owns HQ2.o1 hgV),jm (hO20.owns HQ2.o2 hgV),bwr.trans (hO20.below (by omega)),ij HQ2.o1 (by omega),ij HQ2.o2 (by omega)⟩)
     have HC20:=ag C20;clear HQ HQ2 d1 d2 bwr hO20 HH zc C20;go_wp2
     (try simp only[Exit.inBlock,Exit.then]);obtain⟨p1,p2,p3,p4,p5⟩:=HF.out;rw[hJe]at p3 p4 hsc htc;have HC21:=HC20.out;rw[hJe]at HC21
     exact bodyPost_ret (a_ rfl (w.heap.size+1) _ rfl HC21 underlying59 fP) rfl ⟨g1,k1,g2,k2,so,sc,tO,tc,rfl,HK1.out,HK2.out,p1,p2,p3,p4,hsc,htc,p5⟩
  .intro K hK;go_simp;have hb:=below_alloc wA (.cells #[.int .i64 0,.int .i64 0,.int .i64 0,.int .i64 0,.slice none 0 0,.int .i64 0,.slice none 0 0,.slice none 0 0,.slice none 0 0] 59)
   have B6:=aa.new wA [.int .i64 0,.int .i64 0,.int .i64 0,.int .i64 0,.slice none 0 0,.int .i64 0,.slice none 0 0,.slice none 0 0,.slice none 0 0] 59
   have zX:(wA.alloc (.cells #[.int .i64 0,.int .i64 0,.int .i64 0,.int .i64 0,.slice none 0 0,.int .i64 0,.slice none 0 0,.slice none 0 0,.slice none 0 0] 59)).heap.size=wA.heap.size+1:=by simp
   replace hS:=And.intro (hS.1.kept hb) (And.intro (hS.2.1.kept hb) (hS.2.2.kept hb));replace B2:=B2.kept hb;replace hl:=hl.kept hb;replace hmk:=hmk.kept hb;replace bw7:=bg bw7 hb
   replace hO1:=hO1.keep hb;obtain⟨gx,hgx⟩:∃gx,gx=wA.heap.size:=⟨_,rfl⟩;rw[<-hgx]at B6;rw[<-hgx]
   generalize wA.alloc (.cells #[.int .i64 0,.int .i64 0,.int .i64 0,.int .i64 0,.slice none 0 0,.int .i64 0,.slice none 0 0,.slice none 0 0,.slice none 0 0] 59)=wX at *;have hgx1:gx<=wA.heap.size:=by omega
   have hgx2:wA.heap.size<=gx:=by omega
   clear hb hgx;refine hK.out _ _ (fun _=>hS) ?_;clear hK K;try simp only[Act.put,aw,ar,an,ah,aj,ai]
   refine aO 7 ?_;intro K hK;go_simp;refine(C6.out gl _ hl hS.2.1).mono ?_;rintro e wB ⟨g2,rfl,hg2,hO2,hb⟩;have zB:=hb.size;have lO2:=hO2.lt
   replace hS:=And.intro (hS.1.kept hb) (And.intro (hS.2.1.kept hb) (hS.2.2.kept hb));replace B2:=B2.kept hb;replace hl:=hl.kept hb;replace hmk:=hmk.kept hb;replace bw7:=bg bw7 hb
   replace hO1:=hO1.keep hb;replace B6:=B6.kept hb;clear hb;refine hK.out _ _ (fun _=>hS) ?_;clear hK K;try simp only[Act.put,aw,ar,an,ah,aj,ai]
   refine aK 8 hS ?_;refine aO 10 ?_;intro K hK
   refine oP gx _ [.int .i64 m,.int .i64 (nb m:Nat),.int .i64 4,.int .i64 ((nb m:Int)*4),.slice (some ⟨g1,0,none⟩) k1 k1,.int .i64 (bat m (bitAt xs) (nb m):Nat),.slice (some ⟨g2,0,none⟩) k2 k2,.slice none 0 0,.slice none 0 0] rfl rfl B6 rfl fP (by simp[Value.oneCell']) ?_
   intro V B7 hO;refine hK.out _ _ (fun h=>absurd (by decide) h) ?_;clear hK K;try simp only[Act.put,aw,ar,an,ah,aj,ai]
   refine az.done (by kernel_rfl) ?_ _
   have QV0:Hid (QV w V gx g1 g2 gm (.int .i64 m) (.int .i64 (nb m:Nat)) (.int .i64 4) (.int .i64 ((nb m:Int)*4)) (.slice (some ⟨g1,0,none⟩) k1 k1) (.int .i64 (bat m (bitAt xs) (nb m):Nat)) (.slice (some ⟨g2,0,none⟩) k2 k2) (rC m (bitAt xs)) (rO m (bitAt xs)) (db (gN m) (bon m (bitAt xs)) (bat m (bitAt xs)) (nb m))):=⟨B7,(hO.block g1 (by omega)).trans hO1,(hO.block g2 (by omega)).trans hO2,hO.cel hmk (by omega),hO.cel B2 (by omega),bw7.trans (hO.below (base:=w.heap.size) (by omega)),by omega,by omega,by omega,by omega⟩
   clear B7 hO hO1 hO2 hmk B2 bw7 hS hl B6 C5 C6;go_wp2
   go_loopw [32] (fun t wr=>∃(J:Nat) (so:Option Addr) (sc:Nat) (tO:Option Addr) (tc:Nat),J<=gN m/\t=.int .i64 J/\J<=sc/\J<=tc/\QB V wr gx (.int .i64 m) (.int .i64 (nb m:Nat)) (.int .i64 4) (.int .i64 ((nb m:Int)*4)) (.slice (some ⟨g1,0,none⟩) k1 k1) (.int .i64 (bat m (bitAt xs) (nb m):Nat)) (.slice (some ⟨g2,0,none⟩) k2 k2) (.slice so J sc) (.slice tO J tc) J J m (bitAt xs)) (fun t _=>gN m-(intOf t).toNat)
   case atStart=>exact⟨0,none,0,none,0,Nat.zero_le _,rfl,Nat.le_refl _,Nat.le_refl _,⟨QV0.out.bx,QV0.out.bx.lt,Nat.le_refl _,Below.refl _ _,fun _ _ _=>rfl,World.ownsRow_nil _ _ _ _,World.ownsRow_nil _ _ _ _,Ap.apart_nil _⟩⟩
   case round=>
    obtain⟨J,so,sc,tO,tc,hJ,rfl,hsc,htc,HQ⟩:=hrel;by_cases hlt:J<gN m
    .have hlt2:(J:Int)<(gN m:Int):=by omega
     have mkc:aa wr gm _ 137:=(HQ.same gm QV0.out.mks.lt QV0.out.n3).trans QV0.out.mks;have x0:=mkc.cell (J*2) (MG1.out J hlt);have x1:=mkc.cell (J*2+1) (MG2.out J hlt);have SU1:=ag (ny m (bitAt xs) J)
     have SU2:=ag (ni m (bitAt xs) J);generalize bon m (bitAt xs) (8*J)=Zs at *;generalize bat m (bitAt xs) (8*J)=Zp at *;have lmk:=mkc.lt;have y7:=HQ.bx.cell 7 rfl;have lx:=HQ.bx.lt;have szr:=HQ.sz
     have hown1:∀k,(Value.slice so J sc).ownBlock=some k->k<wr.heap.size:=fun k hk=>(HQ.o1.lt k hk).2;clear mkc
     go_wp2_with (at_builtin;refine Ap.wpList_append_x (by rfl) _ _ _ (by rfl) V.heap.size 3 i0 (.int .i64 0) 8 underlying25 hi hz0 hz1 hz2 rfl (.slice so J sc) J (b_ (da m (bitAt xs) J)) (by rfl) ((HQ.o1.alloc _).alloc _) (some ⟨wr.heap.size+1,0,none⟩) 1 1 [.int .i64 Zs] (by rfl) rfl ?c1_401 ?c2_401 ?c3_401 ?c4_401 ?c5_401 ?_)
     case c1_401=>exact fun _=>⟨_,rfl,fun j u hj=>by
      match j,hj with
      | 0,hj=>simp at hj;subst hj;simp[Addr.add]⟩
     case c2_401=>intro u hu;simp at hu;subst hu;rfl
     case c3_401=>unfold maxLen;omega
     case c4_401=>omega
     case c5_401=>simp;omega
     intro so2 sc2 w9 own9 hle9 hB9 hblk9 hkeep9 hsz9;rw[SU1.out]at own9
     have HPa:=(HQ.keep (below_alloc wr (.cells #[.int .i64 Zs,.int .i64 Zp] 137))).keep (below_alloc _ (.cells #[.int .i64 Zs] 3))
     have esz:((wr.alloc (.cells #[.int .i64 Zs,.int .i64 Zp] 137)).alloc (.cells #[.int .i64 Zs] 3)).heap.size=wr.heap.size+1+1:=by simp
     have mbA:aa ((wr.alloc (.cells #[.int .i64 Zs,.int .i64 Zp] 137)).alloc (.cells #[.int .i64 Zs] 3)) wr.heap.size [.int .i64 Zs,.int .i64 Zp] 137:=(aa.new wr _ _).alloc _
     rw[<-esz]at hblk9 hkeep9;have HP9:=HPa.one own9 hB9 hblk9 hkeep9
     have hC9:aa w9 wr.heap.size [.int .i64 Zs,.int .i64 Zp] 137:=(hkeep9 wr.heap.size (by omega) (fun e=>by have:=hown1 _ e;omega)).trans mbA;have x7:=(HPa.bx.keep hB9 HQ.lt).cell 7 rfl
     have f7:=(HPa.bx.keep hB9 HQ.lt).frozen 7;have x8:=(HPa.bx.keep hB9 HQ.lt).cell 8 rfl;have mb1:=hC9.cell 1 rfl;have lx9:=(HPa.bx.keep hB9 HQ.lt).lt;have lm9:=hC9.lt;have sz9:=HP9.sz;simp only[eW]at sz9
     have ngx:gx≠wr.heap.size:=by omega
     clear own9 hB9 hblk9 hkeep9 HPa mbA hown1 x0 x1 y7 esz
     go_wp2_with (at_builtin;refine Ap.wpList_append_x (by rfl) _ _ _ (by rfl) V.heap.size 3 i0 (.int .i64 0) 8 underlying25 hi hz0 hz1 hz2 rfl (.slice tO J tc) J (b_ (c_ m (bitAt xs) J)) (by rfl) (HP9.o2.alloc _) (some ⟨w9.heap.size,0,none⟩) 1 1 [.int .i64 Zp] (by rfl) rfl ?d1_401 ?d2_401 ?d3_401 ?d4_401 ?d5_401 ?_)
     case d1_401=>
      have q:=(aa.new (w9.setCell ⟨gx,7,none⟩ (.slice so2 (J+1) sc2)) [.int .i64 Zp] 3).cell 0 rfl;rw[eW]at q
      exact fun _=>⟨_,rfl,fun j u hj=>by
       match j,hj with
       | 0,hj=>simp at hj;subst hj;simp[Addr.add];exact q⟩
     case d2_401=>intro u hu;simp at hu;subst hu;rfl
     case d3_401=>unfold maxLen;omega
     case d4_401=>omega
     case d5_401=>simp;omega
     intro tO2 tc2 w10 own10 hle10 hB10 hblk10 hkeep10 hsz10;rw[SU2.out]at own10;have HPb:=HP9.keep (below_alloc _ (.cells #[.int .i64 Zp] 3))
     have esz2:((w9.setCell ⟨gx,7,none⟩ (.slice so2 (J+1) sc2)).alloc (.cells #[.int .i64 Zp] 3)).heap.size=w9.heap.size+1:=by simp[eW]
     rw[<-esz2]at hblk10 hkeep10;have HP10:=HPb.two own10 hB10 hblk10 hkeep10;have x8b:=(HPb.bx.keep hB10 HQ.lt).cell 8 rfl;have f8b:=(HPb.bx.keep hB10 HQ.lt).frozen 8;have HPH:=ag HP10
     clear own10 hB10 hblk10 hkeep10 HPb esz2 HP9 HP10 x7 x8 f7 mb1 hC9 HQ;go_wp2;exact⟨⟨J+1,so2,sc2,tO2,tc2,by omega,by go_num,hle9,hle10,HPH.out⟩,by simp only[intOf];omega⟩
    .obtain hJe:J=gN m:=by omega
     have zc:aa wr (w.heap.size+1) [.int .i64 0,.int .i64 0,.int .i64 0,.int .i64 0,.slice none 0 0,.int .i64 0,.slice none 0 0,.slice none 0 0,.slice none 0 0] 59:=(HQ.same (w.heap.size+1) (by have:=QV0.out.z.lt;exact this) (by have:=QV0.out.n4;omega)).trans QV0.out.z
     have d1:Own wr g1 (rC m (bitAt xs)):=(HQ.same g1 QV0.out.o1.lt QV0.out.n1).trans QV0.out.o1;have d2:Own wr g2 (rO m (bitAt xs)):=(HQ.same g2 QV0.out.o2.lt QV0.out.n2).trans QV0.out.o2
     have bwr:Below w.heap.size w wr:=QV0.out.hb.trans (HQ.hb.mono (by have:=QV0.out.n4;omega));have hgV:w.heap.size+1<V.heap.size:=QV0.out.z.lt;have e1:g1≠w.heap.size+1:=by omega
     have e2:g2≠w.heap.size+1:=by omega
     have HH:=ag (And.intro HQ (And.intro d1 (And.intro d2 bwr)));clear d1 d2 bwr QV0
     go_wp2_with (first | refine fe gx _ rfl HQ.bx underlying59 fP ?_ | refine aJ (w.heap.size+1) _ _ rfl rfl zc rfl fP (by simp[Value.oneCell']) ?_);intro w20 C20 hO20
     obtain⟨HQ2,d1,d2,bwr⟩:=HH.out
     have HF:=ag (show Wd w20 (some ⟨g1,0,none⟩) (rC m (bitAt xs))/\Wd w20 (some ⟨g2,0,none⟩) (rO m (bitAt xs))/\Nd w20 so (da m (bitAt xs) J)/\Nd w20 tO (c_ m (bitAt xs) J)/\Below w.heap.size w w20/\Fr w.heap.size so/\Fr w.heap.size tO from⟨Own.wd ((hO20.block g1 e1).trans d1),Own.wd ((hO20.block g2 e2).trans d2),jm (hO20.owns HQ2.o1 hgV),jm (hO20.owns HQ2.o2 hgV),bwr.trans (hO20.below (by omega)),ij HQ2.o1 (by omega),ij HQ2.o2 (by omega)⟩)
     have HC20:=ag C20;clear HQ HQ2 d1 d2 bwr hO20 HH zc C20;go_wp2
     (try simp only[Exit.inBlock,Exit.then]);obtain⟨p1,p2,p3,p4,p5⟩:=HF.out;rw[hJe]at p3 p4 hsc htc;have HC21:=HC20.out;rw[hJe]at HC21
     exact bodyPost_ret (a_ rfl (w.heap.size+1) _ rfl HC21 underlying59 fP) rfl ⟨g1,k1,g2,k2,so,sc,tO,tc,rfl,HK1.out,HK2.out,p1,p2,p3,p4,hsc,htc,p5⟩
 .intro K hK;go_simp;have hb:=below_alloc Y (.cells #[.int .i64 0,.int .i64 0,.int .i64 0,.int .i64 0,.slice none 0 0,.int .i64 0,.slice none 0 0,.slice none 0 0,.slice none 0 0] 59)
  have B6:=aa.new Y [.int .i64 0,.int .i64 0,.int .i64 0,.int .i64 0,.slice none 0 0,.int .i64 0,.slice none 0 0,.slice none 0 0,.slice none 0 0] 59
  have zX:(Y.alloc (.cells #[.int .i64 0,.int .i64 0,.int .i64 0,.int .i64 0,.slice none 0 0,.int .i64 0,.slice none 0 0,.slice none 0 0,.slice none 0 0] 59)).heap.size=Y.heap.size+1:=by simp
  replace hS:=And.intro (hS.1.kept hb) (And.intro (hS.2.1.kept hb) (hS.2.2.kept hb));replace B2:=B2.kept hb;replace hl:=hl.kept hb;replace hmk:=hmk.kept hb;replace bw7:=bg bw7 hb
  obtain⟨gx,hgx⟩:∃gx,gx=Y.heap.size:=⟨_,rfl⟩;rw[<-hgx]at B6;rw[<-hgx]
  generalize Y.alloc (.cells #[.int .i64 0,.int .i64 0,.int .i64 0,.int .i64 0,.slice none 0 0,.int .i64 0,.slice none 0 0,.slice none 0 0,.slice none 0 0] 59)=wX at *;have hgx1:gx<=Y.heap.size:=by omega
  have hgx2:Y.heap.size<=gx:=by omega
  clear hb hgx;refine hK.out _ _ (fun _=>hS) ?_;clear hK K;try simp only[Act.put,aw,ar,an,ah,aj,ai]
  refine aO 3 ?_;intro K hK;go_simp;refine(C5.out gl _ hl).mono ?_;rintro e wA ⟨g1,rfl,hg1,hO1,hb⟩;have zA:=hb.size;have lO1:=hO1.lt
  replace hS:=And.intro (hS.1.kept hb) (And.intro (hS.2.1.kept hb) (hS.2.2.kept hb));replace B2:=B2.kept hb;replace hl:=hl.kept hb;replace hmk:=hmk.kept hb;replace bw7:=bg bw7 hb
  replace B6:=B6.kept hb;clear hb;refine hK.out _ _ (fun _=>hS) ?_;clear hK K;try simp only[Act.put,aw,ar,an,ah,aj,ai]
  refine aO 7 ?_;intro K hK;go_simp;refine(C6.out gl _ hl hS.2.1).mono ?_;rintro e wB ⟨g2,rfl,hg2,hO2,hb⟩;have zB:=hb.size;have lO2:=hO2.lt
  replace hS:=And.intro (hS.1.kept hb) (And.intro (hS.2.1.kept hb) (hS.2.2.kept hb));replace B2:=B2.kept hb;replace hl:=hl.kept hb;replace hmk:=hmk.kept hb;replace bw7:=bg bw7 hb
  replace hO1:=hO1.keep hb;replace B6:=B6.kept hb;clear hb;refine hK.out _ _ (fun _=>hS) ?_;clear hK K;try simp only[Act.put,aw,ar,an,ah,aj,ai]
  refine aK 8 hS ?_;refine aO 10 ?_;intro K hK
  refine oP gx _ [.int .i64 m,.int .i64 (nb m:Nat),.int .i64 4,.int .i64 ((nb m:Int)*4),.slice (some ⟨g1,0,none⟩) k1 k1,.int .i64 (bat m (bitAt xs) (nb m):Nat),.slice (some ⟨g2,0,none⟩) k2 k2,.slice none 0 0,.slice none 0 0] rfl rfl B6 rfl fP (by simp[Value.oneCell']) ?_
  intro V B7 hO;refine hK.out _ _ (fun h=>absurd (by decide) h) ?_;clear hK K;try simp only[Act.put,aw,ar,an,ah,aj,ai]
  refine az.done (by kernel_rfl) ?_ _
  have QV0:Hid (QV w V gx g1 g2 gm (.int .i64 m) (.int .i64 (nb m:Nat)) (.int .i64 4) (.int .i64 ((nb m:Int)*4)) (.slice (some ⟨g1,0,none⟩) k1 k1) (.int .i64 (bat m (bitAt xs) (nb m):Nat)) (.slice (some ⟨g2,0,none⟩) k2 k2) (rC m (bitAt xs)) (rO m (bitAt xs)) (db (gN m) (bon m (bitAt xs)) (bat m (bitAt xs)) (nb m))):=⟨B7,(hO.block g1 (by omega)).trans hO1,(hO.block g2 (by omega)).trans hO2,hO.cel hmk (by omega),hO.cel B2 (by omega),bw7.trans (hO.below (base:=w.heap.size) (by omega)),by omega,by omega,by omega,by omega⟩
  clear B7 hO hO1 hO2 hmk B2 bw7 hS hl B6 C5 C6;go_wp2
  go_loopw [32] (fun t wr=>∃(J:Nat) (so:Option Addr) (sc:Nat) (tO:Option Addr) (tc:Nat),J<=gN m/\t=.int .i64 J/\J<=sc/\J<=tc/\QB V wr gx (.int .i64 m) (.int .i64 (nb m:Nat)) (.int .i64 4) (.int .i64 ((nb m:Int)*4)) (.slice (some ⟨g1,0,none⟩) k1 k1) (.int .i64 (bat m (bitAt xs) (nb m):Nat)) (.slice (some ⟨g2,0,none⟩) k2 k2) (.slice so J sc) (.slice tO J tc) J J m (bitAt xs)) (fun t _=>gN m-(intOf t).toNat)
  case atStart=>exact⟨0,none,0,none,0,Nat.zero_le _,rfl,Nat.le_refl _,Nat.le_refl _,⟨QV0.out.bx,QV0.out.bx.lt,Nat.le_refl _,Below.refl _ _,fun _ _ _=>rfl,World.ownsRow_nil _ _ _ _,World.ownsRow_nil _ _ _ _,Ap.apart_nil _⟩⟩
  case round=>
   obtain⟨J,so,sc,tO,tc,hJ,rfl,hsc,htc,HQ⟩:=hrel;by_cases hlt:J<gN m
   .have hlt2:(J:Int)<(gN m:Int):=by omega
    have mkc:aa wr gm _ 137:=(HQ.same gm QV0.out.mks.lt QV0.out.n3).trans QV0.out.mks;have x0:=mkc.cell (J*2) (MG1.out J hlt);have x1:=mkc.cell (J*2+1) (MG2.out J hlt);have SU1:=ag (ny m (bitAt xs) J)
    have SU2:=ag (ni m (bitAt xs) J);generalize bon m (bitAt xs) (8*J)=Zs at *;generalize bat m (bitAt xs) (8*J)=Zp at *;have lmk:=mkc.lt;have y7:=HQ.bx.cell 7 rfl;have lx:=HQ.bx.lt;have szr:=HQ.sz
    have hown1:∀k,(Value.slice so J sc).ownBlock=some k->k<wr.heap.size:=fun k hk=>(HQ.o1.lt k hk).2;clear mkc
    go_wp2_with (at_builtin;refine Ap.wpList_append_x (by rfl) _ _ _ (by rfl) V.heap.size 3 i0 (.int .i64 0) 8 underlying25 hi hz0 hz1 hz2 rfl (.slice so J sc) J (b_ (da m (bitAt xs) J)) (by rfl) ((HQ.o1.alloc _).alloc _) (some ⟨wr.heap.size+1,0,none⟩) 1 1 [.int .i64 Zs] (by rfl) rfl ?c1_501 ?c2_501 ?c3_501 ?c4_501 ?c5_501 ?_)
    case c1_501=>exact fun _=>⟨_,rfl,fun j u hj=>by
     match j,hj with
     | 0,hj=>simp at hj;subst hj;simp[Addr.add]⟩
    case c2_501=>intro u hu;simp at hu;subst hu;rfl
    case c3_501=>unfold maxLen;omega
    case c4_501=>omega
    case c5_501=>simp;omega
    intro so2 sc2 w9 own9 hle9 hB9 hblk9 hkeep9 hsz9;rw[SU1.out]at own9;have HPa:=(HQ.keep (below_alloc wr (.cells #[.int .i64 Zs,.int .i64 Zp] 137))).keep (below_alloc _ (.cells #[.int .i64 Zs] 3))
    have esz:((wr.alloc (.cells #[.int .i64 Zs,.int .i64 Zp] 137)).alloc (.cells #[.int .i64 Zs] 3)).heap.size=wr.heap.size+1+1:=by simp
    have mbA:aa ((wr.alloc (.cells #[.int .i64 Zs,.int .i64 Zp] 137)).alloc (.cells #[.int .i64 Zs] 3)) wr.heap.size [.int .i64 Zs,.int .i64 Zp] 137:=(aa.new wr _ _).alloc _
    rw[<-esz]at hblk9 hkeep9;have HP9:=HPa.one own9 hB9 hblk9 hkeep9
    have hC9:aa w9 wr.heap.size [.int .i64 Zs,.int .i64 Zp] 137:=(hkeep9 wr.heap.size (by omega) (fun e=>by have:=hown1 _ e;omega)).trans mbA;have x7:=(HPa.bx.keep hB9 HQ.lt).cell 7 rfl
    have f7:=(HPa.bx.keep hB9 HQ.lt).frozen 7;have x8:=(HPa.bx.keep hB9 HQ.lt).cell 8 rfl;have mb1:=hC9.cell 1 rfl;have lx9:=(HPa.bx.keep hB9 HQ.lt).lt;have lm9:=hC9.lt;have sz9:=HP9.sz;simp only[eW]at sz9
    have ngx:gx≠wr.heap.size:=by omega
    clear own9 hB9 hblk9 hkeep9 HPa mbA hown1 x0 x1 y7 esz
    go_wp2_with (at_builtin;refine Ap.wpList_append_x (by rfl) _ _ _ (by rfl) V.heap.size 3 i0 (.int .i64 0) 8 underlying25 hi hz0 hz1 hz2 rfl (.slice tO J tc) J (b_ (c_ m (bitAt xs) J)) (by rfl) (HP9.o2.alloc _) (some ⟨w9.heap.size,0,none⟩) 1 1 [.int .i64 Zp] (by rfl) rfl ?d1_501 ?d2_501 ?d3_501 ?d4_501 ?d5_501 ?_)
    case d1_501=>
     have q:=(aa.new (w9.setCell ⟨gx,7,none⟩ (.slice so2 (J+1) sc2)) [.int .i64 Zp] 3).cell 0 rfl;rw[eW]at q
     exact fun _=>⟨_,rfl,fun j u hj=>by
      match j,hj with
      | 0,hj=>simp at hj;subst hj;simp[Addr.add];exact q⟩
    case d2_501=>intro u hu;simp at hu;subst hu;rfl
    case d3_501=>unfold maxLen;omega
    case d4_501=>omega
    case d5_501=>simp;omega
    intro tO2 tc2 w10 own10 hle10 hB10 hblk10 hkeep10 hsz10;rw[SU2.out]at own10;have HPb:=HP9.keep (below_alloc _ (.cells #[.int .i64 Zp] 3))
    have esz2:((w9.setCell ⟨gx,7,none⟩ (.slice so2 (J+1) sc2)).alloc (.cells #[.int .i64 Zp] 3)).heap.size=w9.heap.size+1:=by simp[eW]
    rw[<-esz2]at hblk10 hkeep10;have HP10:=HPb.two own10 hB10 hblk10 hkeep10;have x8b:=(HPb.bx.keep hB10 HQ.lt).cell 8 rfl;have f8b:=(HPb.bx.keep hB10 HQ.lt).frozen 8;have HPH:=ag HP10
    clear own10 hB10 hblk10 hkeep10 HPb esz2 HP9 HP10 x7 x8 f7 mb1 hC9 HQ;go_wp2;exact⟨⟨J+1,so2,sc2,tO2,tc2,by omega,by go_num,hle9,hle10,HPH.out⟩,by simp only[intOf];omega⟩
   .obtain hJe:J=gN m:=by omega
    have zc:aa wr (w.heap.size+1) [.int .i64 0,.int .i64 0,.int .i64 0,.int .i64 0,.slice none 0 0,.int .i64 0,.slice none 0 0,.slice none 0 0,.slice none 0 0] 59:=(HQ.same (w.heap.size+1) (by have:=QV0.out.z.lt;exact this) (by have:=QV0.out.n4;omega)).trans QV0.out.z
    have d1:Own wr g1 (rC m (bitAt xs)):=(HQ.same g1 QV0.out.o1.lt QV0.out.n1).trans QV0.out.o1;have d2:Own wr g2 (rO m (bitAt xs)):=(HQ.same g2 QV0.out.o2.lt QV0.out.n2).trans QV0.out.o2
    have bwr:Below w.heap.size w wr:=QV0.out.hb.trans (HQ.hb.mono (by have:=QV0.out.n4;omega));have hgV:w.heap.size+1<V.heap.size:=QV0.out.z.lt;have e1:g1≠w.heap.size+1:=by omega
    have e2:g2≠w.heap.size+1:=by omega
    have HH:=ag (And.intro HQ (And.intro d1 (And.intro d2 bwr)));clear d1 d2 bwr QV0
    go_wp2_with (first | refine fe gx _ rfl HQ.bx underlying59 fP ?_ | refine aJ (w.heap.size+1) _ _ rfl rfl zc rfl fP (by simp[Value.oneCell']) ?_);intro w20 C20 hO20
    obtain⟨HQ2,d1,d2,bwr⟩:=HH.out
    have HF:=ag (show Wd w20 (some ⟨g1,0,none⟩) (rC m (bitAt xs))/\Wd w20 (some ⟨g2,0,none⟩) (rO m (bitAt xs))/\Nd w20 so (da m (bitAt xs) J)/\Nd w20 tO (c_ m (bitAt xs) J)/\Below w.heap.size w w20/\Fr w.heap.size so/\Fr w.heap.size tO from⟨Own.wd ((hO20.block g1 e1).trans d1),Own.wd ((hO20.block g2 e2).trans d2),jm (hO20.owns HQ2.o1 hgV),jm (hO20.owns HQ2.o2 hgV),bwr.trans (hO20.below (by omega)),ij HQ2.o1 (by omega),ij HQ2.o2 (by omega)⟩)
    have HC20:=ag C20;clear HQ HQ2 d1 d2 bwr hO20 HH zc C20;go_wp2
    (try simp only[Exit.inBlock,Exit.then]);obtain⟨p1,p2,p3,p4,p5⟩:=HF.out;rw[hJe]at p3 p4 hsc htc;have HC21:=HC20.out;rw[hJe]at HC21
    exact bodyPost_ret (a_ rfl (w.heap.size+1) _ rfl HC21 underlying59 fP) rfl ⟨g1,k1,g2,k2,so,sc,tO,tc,rfl,HK1.out,HK2.out,p1,p2,p3,p4,hsc,htc,p5⟩
theorem Al(N:Int)(ao:Option Addr)(xs:List Nat)(cap:Nat)(w:World)(hx:Wd w ao xs)(hk:am N xs=false):
  Qq 52 #[.agg #[.int .i64 N,.slice ao xs.length cap]] w (.tuple #[.agg #[.int .i64 0,.int .i64 0,.int .i64 0,.int .i64 0,.slice none 0 0,.int .i64 0,.slice none 0 0,.slice none 0 0,.slice none 0 0],.int .i64 2]):=by
 obtain⟨W,hW⟩:∃W,W=(w.alloc (.cells #[.int .i64 N,.slice ao xs.length cap] 53)).alloc (.cells #[.int .i64 0,.int .i64 0,.int .i64 0,.int .i64 0,.slice none 0 0,.int .i64 0,.slice none 0 0,.slice none 0 0,.slice none 0 0] 59):=⟨_,rfl⟩
 have bW:=dt hW;have B2:=de hW
 have C1:Hid (Qz w 83 #[.agg #[.int .i64 N,.slice ao xs.length cap]] (.bool false)):=fun w0 h=>by
  have:=cg N ao xs cap w0 (hx.keep h);rw[hk]at this;exact this
 clear hx hk;go_enter func52,ntmps52;go_wp2_with fail;rw[<-hW];refine mr (C1.out _ bW) fun w1 hb=>?_;have bw1:=bg bW hb;replace B2:=B2.kept hb;clear hb C1 hW bW
 go_wp2_with (refine aJ (w.heap.size+1) _ [.int .i64 0,.int .i64 0,.int .i64 0,.int .i64 0,.slice none 0 0,.int .i64 0,.slice none 0 0,.slice none 0 0,.slice none 0 0] rfl rfl B2 rfl fP (by simp[Value.oneCell']) ?_)
 intro w2 C2 hO;have HC:=ag C2;have bw2:=bw1.trans (hO.below (base:=w.heap.size) (by omega));clear C2 hO B2 bw1;go_wp2
 exact bodyPost_ret (a_ rfl (w.heap.size+1) _ rfl HC.out underlying59 fP) rfl ⟨rfl,bw2⟩
theorem GN(N:Int)(ao:Option Addr)(xs:List Nat)(cap:Nat)(w:World)(hN:aD N)(hx:Wd w ao xs)(hf:aA xs)(hcap:xs.length<=cap)(hl:xs.length<=1048576)(G:GV w):
  Calls prog 52 #[.agg #[.int .i64 N,.slice ao xs.length cap]] w fun e w'=>∃cs:List Value,e=.returned (.tuple #[.agg cs.toArray,.int .i64 (kE8 N xs)])/\br w' cs (kB8 N xs)/\NF w.heap.size 7 cs/\Below w.heap.size w w':=by
 cases hk:am N xs with
 | false=>
  refine mr (Al N ao xs cap w hx hk) fun w' hb=>?_;have e1:fm N xs=0:=by unfold fm;rw[hk];rfl
  have e2:fu N xs=0:=by unfold fu;rw[hk];rfl
  have e3:fk N xs=0:=by unfold fk;rw[hk];rfl
  have e4:fp N xs=0:=by unfold fp;rw[hk];rfl
  have e5:dL N xs=[]:=by unfold dL;rw[hk];rfl
  have e6:fq N xs=0:=by unfold fq;rw[hk];rfl
  have e7:dK N xs=[]:=by unfold dK;rw[hk];rfl
  have e8:dJ N xs=[]:=by unfold dJ;rw[hk];rfl
  have e9:dI N xs=[]:=by unfold dI;rw[hk];rfl
  have eE:kE8 N xs=2:=by unfold kE8 kt;rw[hk];rfl
  have R:RO w.heap.size w' (dL N xs) (dK N xs) (dJ N xs) (dI N xs) none 0 none 0 none 0 none 0:=by
   rw[e5,e7,e8,e9];exact⟨fun h=>absurd h (Nat.lt_irrefl _),Nat.le_refl _,fun h=>absurd h (Nat.lt_irrefl _),Nat.le_refl _,gQ _ _,Nat.le_refl _,gQ _ _,Nat.le_refl _,aX _,aX _⟩
  refine⟨_,?_,R.ki (G.kept hb),R.nf,hb⟩;rw[eE,e1,e2,e3,e4,e5,e6,e7,e8,e9];rfl
 | true=>
  obtain⟨h0,h1,_,_⟩:=bj N xs hk;obtain⟨m,rfl⟩:=Int.eq_ofNat_of_zero_le h0;refine(Ak m ao xs cap w hx hf hk (by omega) G).mono ?_
  rintro e w' ⟨g1,k1,g2,k2,so,sc,tO,tc,rfl,hk1,hk2,p1,p2,p3,p4,q1,q2,hb,f1,f2⟩;have e1:fm (m:Int) xs=(m:Int):=by unfold fm;rw[hk];rfl
  have e2:fu (m:Int) xs=(nb m:Int):=by unfold fu;rw[hk,Int.toNat_natCast];rfl
  have e3:fk (m:Int) xs=4:=by unfold fk;rw[hk];rfl
  have e4:fp (m:Int) xs=(nb m:Int)*4:=by unfold fp;rw[hk,Int.toNat_natCast];rfl
  have e5:dL (m:Int) xs=rC m (bitAt xs):=by unfold dL;rw[hk,Int.toNat_natCast];rfl
  have e6:fq (m:Int) xs=(bat m (bitAt xs) (nb m):Int):=by unfold fq;rw[hk,Int.toNat_natCast];rfl
  have e7:dK (m:Int) xs=rO m (bitAt xs):=by unfold dK;rw[hk,Int.toNat_natCast];rfl
  have e8:dJ (m:Int) xs=rS m (bitAt xs):=by unfold dJ;rw[hk,Int.toNat_natCast];rfl
  have e9:dI (m:Int) xs=rT m (bitAt xs):=by unfold dI;rw[hk,Int.toNat_natCast];rfl
  have lC:(rC m (bitAt xs)).length=k1:=by unfold rC mkS;rw[cP,dW,hk1]
  have lO:(rO m (bitAt xs)).length=k2:=by unfold rO aB;rw[cP,iX,hk2]
  have lS:(rS m (bitAt xs)).length=gN m:=by unfold rS;rw[jT]
  have lT:(rT m (bitAt xs)).length=gN m:=by unfold rT;rw[jS]
  have R:RO w.heap.size w' (dL (m:Int) xs) (dK (m:Int) xs) (dJ (m:Int) xs) (dI (m:Int) xs) (some ⟨g1,0,none⟩) k1 (some ⟨g2,0,none⟩) k2 so sc tO tc:=by
   rw[e5,e7,e8,e9];exact⟨p1,by omega,p2,by omega,p3,by omega,p4,by omega,f1,f2⟩
  refine⟨_,?_,R.ki (G.kept hb),R.nf,hb⟩;rw[D0 _ _ hk,e1,e2,e3,e4,e5,e6,e7,e8,e9,lC,lO,lS,lT]
end Go.Proofs.YtleegaihbgbcjabGreatDoor
namespace Go.Proofs.YtleegaihbgbcjabGreatDoor
open Go.RowKit Num Bit
theorem xO(cs:List Value)(a:RA)(w:World)(h:KI w cs a)(o8:kOn a=2):
  Qq 39 #[.agg cs.toArray] w (.int .i64 (kZ a)):=by
 have ON0:=fun(w0:World) (hb:Below w.heap.size w w0)=>jO cs a w0 (h.arg.keep hb);have HL:=Hid.mk8 h.arg.len;have sm:=h.sm;have gv:=h.gv;replace h:=h.arg;obtain⟨cp,cr,cf,rfl,hK,h1,h2,h3⟩:=h
 have l4:=Hid.mk8 h1.four;have l9:=Hid.mk8 h2.nine;have LP:=Hid.mk8 h1.len;have LR:=Hid.mk8 h2.len;have LF:=Hid.mk8 h3.len;obtain⟨K,p,r,f⟩:=a;dsimp only at *;have k7:cH w cp p:=⟨h1,sm.p1,sm.p2,sm.p3⟩
 have k8:br w cr r:=⟨h2,sm.r1,sm.r2,sm.r3,sm.r4,gv⟩;have k9:bT w cf f:=⟨h3,sm.f0,sm.f1,sm.f2⟩
 have ON:Hid (Qz w 55 #[.agg (Value.int .i64 K::(cp++(cr++cf))).toArray] (.int .i64 (kOn ⟨K,p,r,f⟩))):=ON0
 clear ON0 h1 h2 h3 sm gv;obtain⟨W,hW⟩:∃W,W=w.alloc (.cells (Value.int .i64 K::(cp++(cr++cf))).toArray 63):=⟨_,rfl⟩;have bw:Below w.heap.size w W:=by rw[hW];exact below_alloc w _
 have B0:=bE hW;subst hW;obtain⟨e1,e2,e3,e4⟩:=il o8;rw[e4];rw[o8]at ON
 have C:Hid (Qz w 68 #[.agg cr.toArray] (.int .i64 (kZ8 r))):=fun w0 g=>xR cr r w0 (k8.keep g);clear e1 e2 e3 e4 k7 k8 k9
 generalize kZ8 r=P0 at *;go_enter func39,ntmps39;go_wp2_with (refine ca w.heap.size _ (by rfl) rfl B0 underlying63 HL.out ?_);refine mr (ON.out _ bw) fun w1 hb=>?_;replace B0:=B0.kept hb
 replace bw:=bg bw hb;clear hb;obtain⟨c0,p1,p2,p3⟩:=parts l4.out l9.out B0;go_wp2_with (refine aY w.heap.size 5 cr (by rfl) rfl p2 underlying59 LR.out ?_);refine mr (C.out _ bw) fun w2 hb=>?_;replace bw:=bg bw hb;go_wp2;go_ret;exact⟨rfl,bw⟩
theorem xT(cs:List Value)(a:RA)(w:World)(h:KI w cs a):
  Qq 39 #[.agg cs.toArray] w (.int .i64 (kZ a)):=by
 by_cases o8:kOn a=2
 .exact xO cs a w h o8
 have ON0:=fun(w0:World) (hb:Below w.heap.size w w0)=>jO cs a w0 (h.arg.keep hb);have HL:=Hid.mk8 h.arg.len;have sm:=h.sm;have gv:=h.gv;replace h:=h.arg;obtain⟨cp,cr,cf,rfl,hK,h1,h2,h3⟩:=h
 have l4:=Hid.mk8 h1.four;have l9:=Hid.mk8 h2.nine;have LP:=Hid.mk8 h1.len;have LR:=Hid.mk8 h2.len;have LF:=Hid.mk8 h3.len;obtain⟨K,p,r,f⟩:=a;dsimp only at *;have k7:cH w cp p:=⟨h1,sm.p1,sm.p2,sm.p3⟩
 have k8:br w cr r:=⟨h2,sm.r1,sm.r2,sm.r3,sm.r4,gv⟩;have k9:bT w cf f:=⟨h3,sm.f0,sm.f1,sm.f2⟩
 have ON:Hid (Qz w 55 #[.agg (Value.int .i64 K::(cp++(cr++cf))).toArray] (.int .i64 (kOn ⟨K,p,r,f⟩))):=ON0
 clear ON0 h1 h2 h3 sm gv;obtain⟨W,hW⟩:∃W,W=w.alloc (.cells (Value.int .i64 K::(cp++(cr++cf))).toArray 63):=⟨_,rfl⟩;have bw:Below w.heap.size w W:=by rw[hW];exact below_alloc w _
 have B0:=bE hW;subst hW;by_cases o7:kOn ⟨K,p,r,f⟩=1
 .skip;obtain⟨e1,e2,e3,e4⟩:=im o7;rw[e4];rw[o7]at ON
  have C:Hid (Qz w 67 #[.agg cp.toArray] (.int .i64 (kZ7 p))):=fun w0 g=>xS cp p w0 (k7.keep g)
  clear e1 e2 e3 e4 k7 k8 k9;generalize kZ7 p=P0 at *;go_enter func39,ntmps39;go_wp2_with (refine ca w.heap.size _ (by rfl) rfl B0 underlying63 HL.out ?_);refine mr (ON.out _ bw) fun w1 hb=>?_
  replace B0:=B0.kept hb;replace bw:=bg bw hb;clear hb;obtain⟨c0,p1,p2,p3⟩:=parts l4.out l9.out B0;go_wp2_with (refine aY w.heap.size 1 cp (by rfl) rfl p1 underlying55 LP.out ?_)
  refine mr (C.out _ bw) fun w2 hb=>?_;replace bw:=bg bw hb;go_wp2;go_ret;exact⟨rfl,bw⟩
 by_cases o9:kOn ⟨K,p,r,f⟩=3
 .skip;obtain⟨e1,e2,e3,e4⟩:=fA o9;rw[e4];rw[o9]at ON
  have C:Hid (Qz w 69 #[.agg cf.toArray] (.int .i64 (kZ9 f))):=fun w0 g=>xQ cf f w0 (k9.keep g)
  clear e1 e2 e3 e4 k7 k8 k9;generalize kZ9 f=P0 at *;go_enter func39,ntmps39;go_wp2_with (refine ca w.heap.size _ (by rfl) rfl B0 underlying63 HL.out ?_);refine mr (ON.out _ bw) fun w1 hb=>?_
  replace B0:=B0.kept hb;replace bw:=bg bw hb;clear hb;obtain⟨c0,p1,p2,p3⟩:=parts l4.out l9.out B0;go_wp2_with (refine aY w.heap.size 14 cf (by rfl) rfl p3 underlying61 LF.out ?_)
  refine mr (C.out _ bw) fun w2 hb=>?_;replace bw:=bg bw hb;go_wp2;go_ret;exact⟨rfl,bw⟩
 obtain⟨e1,e2,e3,e4⟩:=gc o7 o8 o9;rw[e4];have d7:(kOn ⟨K,p,r,f⟩==1)=false:=by simp[o7]
 have d8:(kOn ⟨K,p,r,f⟩==2)=false:=by simp[o8]
 have d9:(kOn ⟨K,p,r,f⟩==3)=false:=by simp[o9]
 clear e1 e2 e3 e4 k7 k8 k9;generalize kOn ⟨K,p,r,f⟩=O at *;go_enter func39,ntmps39;go_wp2_with (refine ca w.heap.size _ (by rfl) rfl B0 underlying63 HL.out ?_);refine mr (ON.out _ bw) fun w1 hb=>?_;replace B0:=B0.kept hb;replace bw:=bg bw hb;go_wp2;go_ret;exact⟨rfl,bw⟩
theorem Ip(cs:List Value)(a:RA)(i:Int)(w:World)(h:KI w cs a)(hi:aD i)(o9:kOn a=3):
  Qq 29 #[.agg cs.toArray,.int .i64 i] w (.tuple #[.bool (gaB (aQ a) (kBN a) (aR a) i),.int .i64 (gaE (aQ a) (kBN a) (aR a) i)]):=by
 have ON0:=fun(w0:World) (hb:Below w.heap.size w w0)=>jO cs a w0 (h.arg.keep hb);have HL:=Hid.mk8 h.arg.len;have sm:=h.sm;have gv:=h.gv;replace h:=h.arg;obtain⟨cp,cr,cf,rfl,hK,h1,h2,h3⟩:=h
 have l4:=Hid.mk8 h1.four;have l9:=Hid.mk8 h2.nine;have LP:=Hid.mk8 h1.len;have LR:=Hid.mk8 h2.len;have LF:=Hid.mk8 h3.len;obtain⟨K,p,r,f⟩:=a;dsimp only at *;have k7:cH w cp p:=⟨h1,sm.p1,sm.p2,sm.p3⟩
 have k8:br w cr r:=⟨h2,sm.r1,sm.r2,sm.r3,sm.r4,gv⟩;have k9:bT w cf f:=⟨h3,sm.f0,sm.f1,sm.f2⟩
 have ON:Hid (Qz w 55 #[.agg (Value.int .i64 K::(cp++(cr++cf))).toArray] (.int .i64 (kOn ⟨K,p,r,f⟩))):=ON0
 clear ON0 h1 h2 h3 sm gv;obtain⟨W,hW⟩:∃W,W=w.alloc (.cells (Value.int .i64 K::(cp++(cr++cf))).toArray 63):=⟨_,rfl⟩;have bw:Below w.heap.size w W:=by rw[hW];exact below_alloc w _
 have B0:=bE hW;subst hW;skip;obtain⟨e1,e2,e3,e4⟩:=fA o9;rw[e1,e2,e3];rw[o9]at ON
 have C:Hid (Qz w 58 #[.agg cf.toArray,.int .i64 i] (.tuple #[.bool (gaB (kOk9 f) (kBN9 f) (kBX9 f) i),.int .i64 (gaE (kOk9 f) (kBN9 f) (kBX9 f) i)])):=fun w0 g=>Io cf f i w0 (k9.keep g) hi
 clear e1 e2 e3 e4 k7 k8 k9;generalize gaB (kOk9 f) (kBN9 f) (kBX9 f) i=P0 at *;generalize gaE (kOk9 f) (kBN9 f) (kBX9 f) i=P1 at *;go_enter func29,ntmps29
 go_wp2_with (refine ca w.heap.size _ (by rfl) rfl B0 underlying63 HL.out ?_);refine mr (ON.out _ bw) fun w1 hb=>?_;replace B0:=B0.kept hb;replace bw:=bg bw hb;clear hb
 obtain⟨c0,p1,p2,p3⟩:=parts l4.out l9.out B0;go_wp2_with (refine aY w.heap.size 14 cf (by rfl) rfl p3 underlying61 LF.out ?_);refine mr (C.out _ bw) fun w2 hb=>?_
 replace bw:=bg bw hb;go_wp2;go_ret2;exact⟨rfl,bw⟩
theorem zw(cs:List Value)(a:RA)(bit:Bool)(i:Int)(w:World)(h:KI w cs a)(hi:aD i)(o8:kOn a=2):
  Qq 44 #[.agg cs.toArray,.bool bit,.int .i64 i] w (.tuple #[.int .i64 (grN (aQ a) (kBN a) (aR a) bit i),.int .i64 (grE (aQ a) (kBN a) i)]):=by
 have ON0:=fun(w0:World) (hb:Below w.heap.size w w0)=>jO cs a w0 (h.arg.keep hb);have HL:=Hid.mk8 h.arg.len;have sm:=h.sm;have gv:=h.gv;replace h:=h.arg;obtain⟨cp,cr,cf,rfl,hK,h1,h2,h3⟩:=h
 have l4:=Hid.mk8 h1.four;have l9:=Hid.mk8 h2.nine;have LP:=Hid.mk8 h1.len;have LR:=Hid.mk8 h2.len;have LF:=Hid.mk8 h3.len;obtain⟨K,p,r,f⟩:=a;dsimp only at *;have k7:cH w cp p:=⟨h1,sm.p1,sm.p2,sm.p3⟩
 have k8:br w cr r:=⟨h2,sm.r1,sm.r2,sm.r3,sm.r4,gv⟩;have k9:bT w cf f:=⟨h3,sm.f0,sm.f1,sm.f2⟩
 have ON:Hid (Qz w 55 #[.agg (Value.int .i64 K::(cp++(cr++cf))).toArray] (.int .i64 (kOn ⟨K,p,r,f⟩))):=ON0
 clear ON0 h1 h2 h3 sm gv;obtain⟨W,hW⟩:∃W,W=w.alloc (.cells (Value.int .i64 K::(cp++(cr++cf))).toArray 63):=⟨_,rfl⟩;have bw:Below w.heap.size w W:=by rw[hW];exact below_alloc w _
 have B0:=bE hW;subst hW;obtain⟨e1,e2,e3,e4⟩:=il o8;rw[e1,e2,e3];rw[o8]at ON
 have C:Hid (Qz w 77 #[.agg cr.toArray,.bool bit,.int .i64 i] (.tuple #[.int .i64 (grN (kOk8 r) (kBN8 r) (kBX8 r) bit i),.int .i64 (grE (kOk8 r) (kBN8 r) i)])):=fun w0 g=>zC cr r bit i w0 (k8.keep g) hi
 clear e1 e2 e3 e4 k7 k8 k9;generalize grN (kOk8 r) (kBN8 r) (kBX8 r) bit i=P0 at *;generalize grE (kOk8 r) (kBN8 r) i=P1 at *;go_enter func44,ntmps44
 go_wp2_with (refine ca w.heap.size _ (by rfl) rfl B0 underlying63 HL.out ?_);refine mr (ON.out _ bw) fun w1 hb=>?_;replace B0:=B0.kept hb;replace bw:=bg bw hb;clear hb
 obtain⟨c0,p1,p2,p3⟩:=parts l4.out l9.out B0;go_wp2_with (refine aY w.heap.size 5 cr (by rfl) rfl p2 underlying59 LR.out ?_);refine mr (C.out _ bw) fun w2 hb=>?_
 replace bw:=bg bw hb;go_wp2;go_ret2;exact⟨rfl,bw⟩
theorem sB(cs:List Value)(a:RA)(bit:Bool)(i:Int)(w:World)(h:KI w cs a)(hi:aD i):
  Qq 44 #[.agg cs.toArray,.bool bit,.int .i64 i] w (.tuple #[.int .i64 (grN (aQ a) (kBN a) (aR a) bit i),.int .i64 (grE (aQ a) (kBN a) i)]):=by
 by_cases o8:kOn a=2
 .exact zw cs a bit i w h hi o8
 have ON0:=fun(w0:World) (hb:Below w.heap.size w w0)=>jO cs a w0 (h.arg.keep hb);have HL:=Hid.mk8 h.arg.len;have sm:=h.sm;have gv:=h.gv;replace h:=h.arg;obtain⟨cp,cr,cf,rfl,hK,h1,h2,h3⟩:=h
 have l4:=Hid.mk8 h1.four;have l9:=Hid.mk8 h2.nine;have LP:=Hid.mk8 h1.len;have LR:=Hid.mk8 h2.len;have LF:=Hid.mk8 h3.len;obtain⟨K,p,r,f⟩:=a;dsimp only at *;have k7:cH w cp p:=⟨h1,sm.p1,sm.p2,sm.p3⟩
 have k8:br w cr r:=⟨h2,sm.r1,sm.r2,sm.r3,sm.r4,gv⟩;have k9:bT w cf f:=⟨h3,sm.f0,sm.f1,sm.f2⟩
 have ON:Hid (Qz w 55 #[.agg (Value.int .i64 K::(cp++(cr++cf))).toArray] (.int .i64 (kOn ⟨K,p,r,f⟩))):=ON0
 clear ON0 h1 h2 h3 sm gv;obtain⟨W,hW⟩:∃W,W=w.alloc (.cells (Value.int .i64 K::(cp++(cr++cf))).toArray 63):=⟨_,rfl⟩;have bw:Below w.heap.size w W:=by rw[hW];exact below_alloc w _
 have B0:=bE hW;subst hW;by_cases o7:kOn ⟨K,p,r,f⟩=1
 .skip;obtain⟨e1,e2,e3,e4⟩:=im o7;rw[e1,e2,e3];rw[o7]at ON
  have C:Hid (Qz w 76 #[.agg cp.toArray,.bool bit,.int .i64 i] (.tuple #[.int .i64 (grN (kOk7 p) (kBN7 p) (kBX7 p) bit i),.int .i64 (grE (kOk7 p) (kBN7 p) i)])):=fun w0 g=>zD cp p bit i w0 (k7.keep g) hi
  clear e1 e2 e3 e4 k7 k8 k9;generalize grN (kOk7 p) (kBN7 p) (kBX7 p) bit i=P0 at *;generalize grE (kOk7 p) (kBN7 p) i=P1 at *;go_enter func44,ntmps44
  go_wp2_with (refine ca w.heap.size _ (by rfl) rfl B0 underlying63 HL.out ?_);refine mr (ON.out _ bw) fun w1 hb=>?_;replace B0:=B0.kept hb;replace bw:=bg bw hb;clear hb
  obtain⟨c0,p1,p2,p3⟩:=parts l4.out l9.out B0;go_wp2_with (refine aY w.heap.size 1 cp (by rfl) rfl p1 underlying55 LP.out ?_);refine mr (C.out _ bw) fun w2 hb=>?_
  replace bw:=bg bw hb;go_wp2;go_ret2;exact⟨rfl,bw⟩
 by_cases o9:kOn ⟨K,p,r,f⟩=3
 .skip;obtain⟨e1,e2,e3,e4⟩:=fA o9;rw[e1,e2,e3];rw[o9]at ON
  have C:Hid (Qz w 78 #[.agg cf.toArray,.bool bit,.int .i64 i] (.tuple #[.int .i64 (grN (kOk9 f) (kBN9 f) (kBX9 f) bit i),.int .i64 (grE (kOk9 f) (kBN9 f) i)])):=fun w0 g=>zy cf f bit i w0 (k9.keep g) hi
  clear e1 e2 e3 e4 k7 k8 k9;generalize grN (kOk9 f) (kBN9 f) (kBX9 f) bit i=P0 at *;generalize grE (kOk9 f) (kBN9 f) i=P1 at *;go_enter func44,ntmps44
  go_wp2_with (refine ca w.heap.size _ (by rfl) rfl B0 underlying63 HL.out ?_);refine mr (ON.out _ bw) fun w1 hb=>?_;replace B0:=B0.kept hb;replace bw:=bg bw hb;clear hb
  obtain⟨c0,p1,p2,p3⟩:=parts l4.out l9.out B0;go_wp2_with (refine aY w.heap.size 14 cf (by rfl) rfl p3 underlying61 LF.out ?_);refine mr (C.out _ bw) fun w2 hb=>?_
  replace bw:=bg bw hb;go_wp2;go_ret2;exact⟨rfl,bw⟩
 obtain⟨e1,e2,e3,e4⟩:=gc o7 o8 o9;rw[e1,e2,e3];have d7:(kOn ⟨K,p,r,f⟩==1)=false:=by simp[o7]
 have d8:(kOn ⟨K,p,r,f⟩==2)=false:=by simp[o8]
 have d9:(kOn ⟨K,p,r,f⟩==3)=false:=by simp[o9]
 clear e1 e2 e3 e4 k7 k8 k9;generalize kOn ⟨K,p,r,f⟩=O at *;go_enter func44,ntmps44;go_wp2_with (refine ca w.heap.size _ (by rfl) rfl B0 underlying63 HL.out ?_);refine mr (ON.out _ bw) fun w1 hb=>?_;replace B0:=B0.kept hb;replace bw:=bg bw hb;go_wp2;go_ret2;exact⟨rfl,bw⟩
theorem xZ(cs:List Value)(a:RA)(bit:Bool)(k:Int)(w:World)(h:KI w cs a)(hi:aD k)(o9:kOn a=3):
  Qq 75 #[.agg cs.toArray,.bool bit,.int .i64 k] w (.tuple #[.int .i64 (gsX (aQ a) (kBN a) (aR a) bit k),.int .i64 (gsE (aQ a) (kBN a) (aR a) bit k)]):=by
 have ON0:=fun(w0:World) (hb:Below w.heap.size w w0)=>jO cs a w0 (h.arg.keep hb);have HL:=Hid.mk8 h.arg.len;have sm:=h.sm;have gv:=h.gv;replace h:=h.arg;obtain⟨cp,cr,cf,rfl,hK,h1,h2,h3⟩:=h
 have l4:=Hid.mk8 h1.four;have l9:=Hid.mk8 h2.nine;have LP:=Hid.mk8 h1.len;have LR:=Hid.mk8 h2.len;have LF:=Hid.mk8 h3.len;obtain⟨K,p,r,f⟩:=a;dsimp only at *;have k7:cH w cp p:=⟨h1,sm.p1,sm.p2,sm.p3⟩
 have k8:br w cr r:=⟨h2,sm.r1,sm.r2,sm.r3,sm.r4,gv⟩;have k9:bT w cf f:=⟨h3,sm.f0,sm.f1,sm.f2⟩
 have ON:Hid (Qz w 55 #[.agg (Value.int .i64 K::(cp++(cr++cf))).toArray] (.int .i64 (kOn ⟨K,p,r,f⟩))):=ON0
 clear ON0 h1 h2 h3 sm gv;obtain⟨W,hW⟩:∃W,W=w.alloc (.cells (Value.int .i64 K::(cp++(cr++cf))).toArray 63):=⟨_,rfl⟩;have bw:Below w.heap.size w W:=by rw[hW];exact below_alloc w _
 have B0:=bE hW;subst hW;skip;obtain⟨e1,e2,e3,e4⟩:=fA o9;rw[e1,e2,e3];rw[o9]at ON
 have C:Hid (Qz w 125 #[.agg cf.toArray,.bool bit,.int .i64 k] (.tuple #[.int .i64 (gsX (kOk9 f) (kBN9 f) (kBX9 f) bit k),.int .i64 (gsE (kOk9 f) (kBN9 f) (kBX9 f) bit k)])):=fun w0 g=>xY cf f bit k w0 (k9.keep g) hi
 clear e1 e2 e3 e4 k7 k8 k9;generalize gsX (kOk9 f) (kBN9 f) (kBX9 f) bit k=P0 at *;generalize gsE (kOk9 f) (kBN9 f) (kBX9 f) bit k=P1 at *;go_enter func75,ntmps75
 go_wp2_with (refine ca w.heap.size _ (by rfl) rfl B0 underlying63 HL.out ?_);refine mr (ON.out _ bw) fun w1 hb=>?_;replace B0:=B0.kept hb;replace bw:=bg bw hb;clear hb
 obtain⟨c0,p1,p2,p3⟩:=parts l4.out l9.out B0;go_wp2_with (refine aY w.heap.size 14 cf (by rfl) rfl p3 underlying61 LF.out ?_);refine mr (C.out _ bw) fun w2 hb=>?_
 replace bw:=bg bw hb;go_wp2;go_ret2;exact⟨rfl,bw⟩
theorem gV:(prog.info? 53).map (·.size)=some 2:=by kernel_rfl
theorem Hg(cs:List Value)(a:RA)(w:World)(h:KI w cs a)(o9:kOn a=3):
  Calls prog 47 #[.agg cs.toArray] w fun e w'=>∃bo bc,e=.returned (.agg #[.int .i64 (kBN a),.slice bo (aR a).length bc])/\Wd w' bo (aR a)/\(aR a).length<=bc/\Below w.heap.size w w':=by
 have ON0:=fun(w0:World) (hb:Below w.heap.size w w0)=>jO cs a w0 (h.arg.keep hb);have HL:=Hid.mk8 h.arg.len;have sm:=h.sm;have gv:=h.gv;replace h:=h.arg;obtain⟨cp,cr,cf,rfl,hK,h1,h2,h3⟩:=h
 have l4:=Hid.mk8 h1.four;have l9:=Hid.mk8 h2.nine;have LP:=Hid.mk8 h1.len;have LR:=Hid.mk8 h2.len;have LF:=Hid.mk8 h3.len;obtain⟨K,p,r,f⟩:=a;dsimp only at *;have k7:cH w cp p:=⟨h1,sm.p1,sm.p2,sm.p3⟩
 have k8:br w cr r:=⟨h2,sm.r1,sm.r2,sm.r3,sm.r4,gv⟩;have k9:bT w cf f:=⟨h3,sm.f0,sm.f1,sm.f2⟩
 have ON:Hid (Qz w 55 #[.agg (Value.int .i64 K::(cp++(cr++cf))).toArray] (.int .i64 (kOn ⟨K,p,r,f⟩))):=ON0
 clear ON0 h1 h2 h3 sm gv;have bw:Below w.heap.size w ((w.alloc (.cells (Value.int .i64 K::(cp++(cr++cf))).toArray 63)).alloc (.cells #[.int .i64 0,.slice none 0 0] 53)):=(below_alloc w _).alloc (by simp) _
 have B0:aa ((w.alloc (.cells (Value.int .i64 K::(cp++(cr++cf))).toArray 63)).alloc (.cells #[.int .i64 0,.slice none 0 0] 53)) w.heap.size (Value.int .i64 K::(cp++(cr++cf))) 63:=(aa.new w _ _).alloc _
 have B2:aa ((w.alloc (.cells (Value.int .i64 K::(cp++(cr++cf))).toArray 63)).alloc (.cells #[.int .i64 0,.slice none 0 0] 53)) (w.heap.size+1) [.int .i64 0,.slice none 0 0] 53:=aa.new2 w _ _ _;skip
 obtain⟨e1,e2,e3,e4⟩:=fA o9;rw[e2,e3];rw[o9]at ON
 have C:Hid (∀w0,Below w.heap.size w w0->Calls prog 81 #[.agg cf.toArray] w0 fun e w'=>∃bo bc,e=.returned (.agg #[.int .i64 (kBN9 f),.slice bo (kBX9 f).length bc])/\Wd w' bo (kBX9 f)/\(kBX9 f).length<=bc/\Below w0.heap.size w0 w'):=fun w0 g=>Hf cf f w0 (k9.keep g)
 clear e1 e2 e3 e4 k7 k8 k9;generalize kBN9 f=N at *;generalize kBX9 f=X at *;go_enter func47,ntmps47;go_wp2_with (refine ca w.heap.size _ (by rfl) rfl B0 underlying63 HL.out ?_)
 refine mr (ON.out _ bw) fun w1 hb=>?_;replace B0:=B0.kept hb;replace bw:=bg bw hb;replace B2:=B2.kept hb;clear hb;obtain⟨c0,p1,p2,p3⟩:=parts l4.out l9.out B0
 go_wp2_with (refine aY w.heap.size 14 cf (by rfl) rfl p3 underlying61 LF.out ?_);refine(C.out _ bw).mono ?_;rintro e w2 ⟨bo,bc,rfl,hx,hbc,hb⟩;replace bw:=bg bw hb;replace B2:=B2.kept hb
 clear hb C ON B0 c0 p1 p2 p3;have hne:=hx.apart B2 (by intro v hv n;simp at hv;rcases hv with rfl | rfl<;>simp);go_wp2_with (refine aJ (w.heap.size+1) _ _ rfl rfl B2 rfl gV (by simp[Value.oneCell']) ?_)
 intro w3 B3 O3;have HZ:Hid (aa w3 (w.heap.size+1) [.int .i64 N,.slice bo (List.length X) bc] 53/\Wd w3 bo X/\Below w.heap.size w w3):=⟨B3,O3.wd hx hne,bw.trans (O3.below (Nat.le_succ _))⟩;clear B3 O3 hx;go_wp2
 (try simp only[Exit.inBlock,Exit.then]);exact bodyPost_ret (iQ rfl (w.heap.size+1) _ rfl HZ.out.1 underlying53 gV) rfl ⟨bo,bc,rfl,HZ.out.2.1,hbc,HZ.out.2.2⟩
structure VM (k:Int):Prop where
 acc:∀(cs:List Value) (a:RA) (i:Int) (w:World),KI w cs a->aD i->kOn a=k->Qq 29 #[.agg cs.toArray,.int .i64 i] w (.tuple #[.bool (gaB (aQ a) (kBN a) (aR a) i),.int .i64 (gaE (aQ a) (kBN a) (aR a) i)])
 sel:∀(cs:List Value) (a:RA) (bit:Bool) (i:Int) (w:World),KI w cs a->aD i->kOn a=k->Qq 75 #[.agg cs.toArray,.bool bit,.int .i64 i] w (.tuple #[.int .i64 (gsX (aQ a) (kBN a) (aR a) bit i),.int .i64 (gsE (aQ a) (kBN a) (aR a) bit i)])
 bit:∀(cs:List Value) (a:RA) (w:World),KI w cs a->kOn a=k->Calls prog 47 #[.agg cs.toArray] w fun e w'=>∃bo bc,e=.returned (.agg #[.int .i64 (kBN a),.slice bo (aR a).length bc])/\Wd w' bo (aR a)/\(aR a).length<=bc/\Below w.heap.size w w'
theorem wV:VM 3:=⟨fun cs a i w h hi o=>Ip cs a i w h hi o,fun cs a b i w h hi o=>xZ cs a b i w h hi o,fun cs a w h o=>Hg cs a w h o⟩
theorem aC.nd{g base:Nat}{w w':World}{ao:Option Addr}{l:List Int}(h:aC g w w')(hx:Nd w ao l)(hf:Fr base ao)(hg:g<base):Nd w' ao l:=by
 intro h0;obtain⟨b,off,rfl,hlt,hc⟩:=hx h0;have hne:base<=b:=hf _ rfl;exact⟨b,off,rfl,by rw[h.size];exact hlt,fun i hi=>(h.cell (p:=⟨b,off+i,none⟩) (show b≠g by omega)).trans (hc i hi)⟩
def bQ(cs:List Value):Prop:=∀v∈cs,∀n,v≠.int .u64 n
theorem bQ.app{a b:List Value}(h:bQ a)(g:bQ b):bQ (a++b):=fun v hv n=>by
 rcases List.mem_append.1 hv with e | e
 .exact h v e n
 .exact g v e n
theorem fF.nou{w:World}{cs:List Value}{a:cQ}(h:fF w cs a):bQ cs:=by
 obtain⟨ao,cap,so,sc,tO,tc,rfl,_⟩:=h;intro v hv n;simp at hv;rcases hv with rfl | rfl | rfl | rfl<;>simp
theorem fg.nou{w:World}{cs:List Value}{a:aT}(h:fg w cs a):bQ cs:=by
 obtain⟨ao,cap,qo,dap,so,sc,tO,tc,rfl,_⟩:=h;intro v hv n;simp at hv;rcases hv with rfl | rfl | rfl | rfl | rfl | rfl | rfl | rfl | rfl<;>simp
theorem fE.nou{w:World}{cs:List Value}{a:bF}(h:fE w cs a):bQ cs:=by
 obtain⟨ao,cap,qo,dap,rfl,_⟩:=h;intro v hv n;simp at hv;rcases hv with rfl | rfl | rfl | rfl | rfl | rfl | rfl | rfl<;>simp
theorem cH.only{w w2:World}{g base:Nat}{cs gs:List Value}{a:cQ}{T:TypeId}(h:cH w cs a)(nf:NF base 2 cs)(hg:g<base)(hc:aa w g gs T)(hn:bQ gs)(hO:aC g w w2):cH w2 cs a:=by
 obtain⟨⟨ao,cap,so,sc,tO,tc,rfl,h⟩,xl,sl,tl⟩:=h
 exact⟨⟨ao,cap,so,sc,tO,tc,rfl,⟨h.n,hO.wd h.x (h.x.apart hc hn),h.f,h.c,hO.nd h.s (nf _ _ _ (.inl rfl)) hg,h.sf,h.sc,hO.nd h.t (nf _ _ _ (.inr rfl)) hg,h.tf,h.tc⟩⟩,xl,sl,tl⟩
theorem br.only{w w2:World}{g base:Nat}{cs gs:List Value}{a:aT}{T:TypeId}(h:br w cs a)(nf:NF base 7 cs)(hg:g<base)(hc:aa w g gs T)(hn:bQ gs)(hO:aC g w w2)(G2:GV w2):br w2 cs a:=by
 obtain⟨⟨ao,cap,qo,dap,so,sc,tO,tc,rfl,r,a1,a2,a3,a4,a5,a6,a7,a8,a9,a10⟩,xl,yl,sl,tl,_⟩:=h
 exact⟨⟨ao,cap,qo,dap,so,sc,tO,tc,rfl,r,hO.wd a1 (a1.apart hc hn),a2,a3,hO.wd a4 (a4.apart hc hn),a5,a6,hO.nd a7 (nf _ _ _ (.inl rfl)) hg,a8,hO.nd a9 (nf _ _ _ (.inr rfl)) hg,a10⟩,xl,yl,sl,tl,G2⟩
theorem bT.only{w w2:World}{g:Nat}{cs gs:List Value}{a:bF}{T:TypeId}(h:bT w cs a)(hc:aa w g gs T)(hn:bQ gs)(hO:aC g w w2):bT w2 cs a:=by
 obtain⟨⟨ao,cap,qo,dap,rfl,r,a1,a2,a3,a4,a5,a6⟩,n3,xl,yl⟩:=h;exact⟨⟨ao,cap,qo,dap,rfl,r,hO.wd a1 (a1.apart hc hn),a2,a3,hO.wd a4 (a4.apart hc hn),a5,a6⟩,n3,xl,yl⟩
theorem dA:aD 0:=⟨by decide,by decide⟩
theorem z7arg(w:World):cH w [Value.int .i64 0,.slice none 0 0,.slice none 0 0,.slice none 0 0] n7:=⟨⟨none,0,none,0,none,0,rfl,⟨dA,cK _ _,jd,Nat.le_refl _,gQ _ _,ln,Nat.le_refl _,gQ _ _,ln,Nat.le_refl _⟩⟩,Nat.zero_le _,Nat.zero_le _,Nat.zero_le _⟩
theorem z8a(w:World):fg w [Value.int .i64 0,.int .i64 0,.int .i64 0,.int .i64 0,.slice none 0 0,.int .i64 0,.slice none 0 0,.slice none 0 0,.slice none 0 0] n8:=⟨none,0,none,0,none,0,none,0,rfl,⟨dA,dA,dA,dA,dA,ln,ln⟩,cK _ _,jd,Nat.le_refl _,cK _ _,jd,Nat.le_refl _,gQ _ _,Nat.le_refl _,gQ _ _,Nat.le_refl _⟩
theorem z8arg(w:World)(G:GV w):br w [Value.int .i64 0,.int .i64 0,.int .i64 0,.int .i64 0,.slice none 0 0,.int .i64 0,.slice none 0 0,.slice none 0 0,.slice none 0 0] n8:=⟨z8a w,Nat.zero_le _,Nat.zero_le _,Nat.zero_le _,Nat.zero_le _,G⟩
theorem z9arg(w:World):bT w [Value.int .i64 0,.int .i64 0,.int .i64 0,.int .i64 0,.int .i64 0,.slice none 0 0,.int .i64 0,.slice none 0 0] n9:=⟨⟨none,0,none,0,rfl,⟨dA,dA,dA,dA,dA,dA⟩,cK _ _,jd,Nat.le_refl _,cK _ _,jd,Nat.le_refl _⟩,by decide,Nat.zero_le _,Nat.zero_le _⟩
theorem ki_mk{w:World}{cp cr cf:List Value}{K:Int}{p:cQ}{r:aT}{f:bF}(hK:aD K)(h1:cH w cp p)(h2:br w cr r)(h3:bT w cf f):KI w (.int .i64 K::(cp++(cr++cf))) ⟨K,p,r,f⟩:=
 ⟨⟨cp,cr,cf,rfl,hK,h1.arg,h2.arg,h3.arg⟩,⟨h1.xl,h1.sl,h1.tl,h2.xl,h2.yl,h2.sl,h2.tl,h3.n3,h3.xl,h3.yl⟩,h2.gv⟩
theorem gU{w:World}{cp cr cf:List Value}{K:Int}{p:cQ}{r:aT}{f:bF}(hK:aD K)(h1:fF w cp p)(h2:fg w cr r)(h3:fE w cf f):fG w (.int .i64 K::(cp++(cr++cf))) ⟨K,p,r,f⟩:=⟨cp,cr,cf,rfl,hK,h1,h2,h3⟩
theorem nou_mk{cp cr cf:List Value}{K:Int}(h1:bQ cp)(h2:bQ cr)(h3:bQ cf):bQ (.int .i64 K::(cp++(cr++cf))):=fun v hv n=>by
 rcases List.mem_cons.1 hv with rfl | e
 .simp
 .exact(h1.app (h2.app h3)) v e n
theorem Gu{w:World}{g:Nat}{T:TypeId}:∀(cs pre old post:List Value),old.length=cs.length->aa w g (pre++(old++post)) T->aa (w.setCells g pre.length cs) g (pre++(cs++post)) T/\aC g w (w.setCells g pre.length cs):=by
 intro cs;induction cs generalizing w with
 | nil=>
  intro pre old post hl h;obtain rfl:=List.eq_nil_of_length_eq_zero hl;exact⟨h,aC.refl _ _⟩
 | cons v r ih=>
  intro pre old post hl h;match old,hl with
  | u::o,hl=>
   have h2:aa (w.setCell ⟨g,pre.length,none⟩ v) g ((pre++[v])++(o++post)) T:=by
    have:=h.set pre.length v
    have e:(pre++(u::o++post)).set pre.length v=(pre++[v])++(o++post):=by
     rw[List.set_append_right _ _ (Nat.le_refl _),Nat.sub_self];simp
    rw[e]at this;exact this
   have k:=ih (pre++[v]) o post (by simpa using hl) h2;rw[List.length_append,List.length_singleton]at k;refine⟨?_,((aC.refl g w).set pre.length v).trans k.2⟩;have k1:=k.1;rw[List.append_assoc]at k1;exact k1
theorem fZ{ops:Array Oper}{rest:List Oper}{d:Option Tmp}{ty T TT:TypeId}{ps:String}{af:Array Edge}{a:Act}{w:World}{Q:Exit->Act->World->Prop}{x y:Operand}
  (g:Nat) (pre old post cs:List Value) (hx:a.eval x=.pointer (some ⟨g,pre.length,none⟩)) (hy:a.eval y=.agg cs.toArray) (hc:aa w g (pre++(old++post)) TT) (lo:old.length=cs.length) (hi:(prog.info? T).map (·.size)=some cs.length) (h1:cs.toArray.all (·.oneCell')=true)
  (h:∀w1,aa w1 g (pre++(cs++post)) TT->aC g w w1->wpList prog ops Q rest (a.put d undef) w1):
  wpList prog ops Q (⟨d,.store T x y,ty,ps,af,none⟩::rest) a w:=by
 refine wpList_store_mid rfl T x y rfl g pre.length cs.toArray hx hy ?_ (by simpa using hi) h1 ?_
 .intro j hj;have hj:j<cs.length:=by simpa using hj
  have hl:pre.length+j<(pre++(old++post)).length:=by simp only[List.length_append];omega
  exact⟨by rw[hc.cell (pre.length+j) (List.getElem?_eq_getElem hl)];rfl,hc.frozen _⟩
 .have k:=Gu cs pre old post lo hc;exact h _ k.1 k.2
theorem NF.mono{base b0 i:Nat}{cs:List Value}(h:NF base i cs)(hl:b0<=base):NF b0 i cs:=fun ao n c e a ha=>Nat.le_trans hl (h ao n c e a ha)
theorem NF.mid{base i j:Nat}{pre cs post:List Value}(h:NF base i cs)(hl:i+2<=cs.length)(hj:j=pre.length+i):NF base j (pre++(cs++post)):=fun ao n c e=>by
 subst hj;refine h ao n c ?_
 have k:∀q,q<cs.length->(pre++(cs++post))[pre.length+q]?=cs[q]?:=fun q hq=>by
  rw[List.getElem?_append_right (by omega),List.getElem?_append_left (by omega),show pre.length+q-pre.length=q by omega]
 rw[k i (by omega),show pre.length+i+1=pre.length+(i+1)by omega,k (i+1) (by omega)]at e;exact e
def dU(base:Nat)(cs:List Value):Prop:=NF base 3 cs/\NF base 12 cs
theorem GJ(N:Int)(ao:Option Addr)(xs:List Nat)(cap:Nat)(w:World)(hN:aD N)(hx:Wd w ao xs)(hf:aA xs)(hcap:xs.length<=cap)(hl:N<=3000/\xs.length<=1048576)(GG:GV w):
  Calls prog 26 #[.int .i64 2,.agg #[.int .i64 N,.slice ao xs.length cap]] w fun e w'=>∃cs:List Value,e=.returned (.tuple #[.agg cs.toArray,.int .i64 (kE 2 N xs)])/\KI w' cs (kB 2 N xs)/\Below w.heap.size w w'/\dU w.heap.size cs:=by
 obtain⟨W,hW⟩:∃W,W=((w.alloc (.cells #[.int .i64 N,.slice ao xs.length cap] 53)).alloc (.cells [Value.int .i64 0,.int .i64 0,.slice none 0 0,.slice none 0 0,.slice none 0 0,.int .i64 0,.int .i64 0,.int .i64 0,.int .i64 0,.slice none 0 0,.int .i64 0,.slice none 0 0,.slice none 0 0,.slice none 0 0,.int .i64 0,.int .i64 0,.int .i64 0,.int .i64 0,.int .i64 0,.slice none 0 0,.int .i64 0,.slice none 0 0].toArray 63)).alloc (.cells [Value.int .i64 0,.int .i64 0,.slice none 0 0,.slice none 0 0,.slice none 0 0,.int .i64 0,.int .i64 0,.int .i64 0,.int .i64 0,.slice none 0 0,.int .i64 0,.slice none 0 0,.slice none 0 0,.slice none 0 0,.int .i64 0,.int .i64 0,.int .i64 0,.int .i64 0,.int .i64 0,.slice none 0 0,.int .i64 0,.slice none 0 0].toArray 63):=⟨_,rfl⟩
 have bw:Below w.heap.size w W:=by rw[hW];exact((below_alloc w _).alloc (by simp) _).alloc (by simp;omega) _
 have B0:aa W w.heap.size [.int .i64 N,.slice ao xs.length cap] 53:=by rw[hW];exact((aa.new w _ _).alloc _).alloc _
 have B4:aa W (w.heap.size+1) [Value.int .i64 0,.int .i64 0,.slice none 0 0,.slice none 0 0,.slice none 0 0,.int .i64 0,.int .i64 0,.int .i64 0,.int .i64 0,.slice none 0 0,.int .i64 0,.slice none 0 0,.slice none 0 0,.slice none 0 0,.int .i64 0,.int .i64 0,.int .i64 0,.int .i64 0,.int .i64 0,.slice none 0 0,.int .i64 0,.slice none 0 0] 63:=by rw[hW];exact(aa.new2 w _ _ _).alloc _
 have B6:aa W (w.heap.size+2) [Value.int .i64 0,.int .i64 0,.slice none 0 0,.slice none 0 0,.slice none 0 0,.int .i64 0,.int .i64 0,.int .i64 0,.int .i64 0,.slice none 0 0,.int .i64 0,.slice none 0 0,.slice none 0 0,.slice none 0 0,.int .i64 0,.int .i64 0,.int .i64 0,.int .i64 0,.int .i64 0,.slice none 0 0,.int .i64 0,.slice none 0 0] 63:=by rw[hW];exact(aa.new2 (w.alloc _) _ _ _).at (by simp)
 have hIV:=Hid.mk8 mq
 have H8:Hid (∀w0,Below w.heap.size w w0->Calls prog 52 #[.agg #[.int .i64 N,.slice ao xs.length cap]] w0 fun e w'=>∃cs:List Value,e=.returned (.tuple #[.agg cs.toArray,.int .i64 (kE8 N xs)])/\br w' cs (kB8 N xs)/\NF w0.heap.size 7 cs/\Below w0.heap.size w0 w'):=fun w0 h=>GN N ao xs cap w0 hN (hx.keep h) hf hcap hl.2 (GG.kept h)
 subst hW;have hK:aD 2:=by unfold aD;decide
 have eE:kE 2 N xs=kE8 N xs:=rfl;rw[eE];by_cases z:kE8 N xs=0
 .have ew:kB 2 N xs=⟨2,n7,kB8 N xs,n9⟩:=nR N xs z;rw[z]at H8⊢;clear eE z;go_enter func26,ntmps26;go_wp2_with (refine aJ (w.heap.size+2) _ _ rfl rfl B6 rfl hIV.out (by simp[Value.oneCell']) ?_)
  intro w1 B6 O1;replace B0:=O1.cel B0 (by omega);replace B4:=O1.cel B4 (by omega);replace bw:=bw.trans (O1.below (by omega));clear O1;have r0:=B0.cell 0 rfl;have r1:=B0.cell 1 rfl;go_wp2_with fail
  refine(H8.out _ bw).mono ?_;rintro e w2 ⟨cs,rfl,hP,hN2,hb⟩;have sz:=B6.lt;have sz2:=hb.size;replace B4:=B4.kept hb;replace B6:=B6.kept hb;replace bw:=bg bw hb;clear hb r0 r1 B0
  go_wp2_with (refine fZ (w.heap.size+2) (Value.int .i64 2::[Value.int .i64 0,.slice none 0 0,.slice none 0 0,.slice none 0 0]) [Value.int .i64 0,.int .i64 0,.int .i64 0,.int .i64 0,.slice none 0 0,.int .i64 0,.slice none 0 0,.slice none 0 0,.slice none 0 0] [Value.int .i64 0,.int .i64 0,.int .i64 0,.int .i64 0,.int .i64 0,.slice none 0 0,.int .i64 0,.slice none 0 0] cs rfl rfl B6 hP.arg.nine hP.arg.len hP.arg.one ?_)
  intro w3 B7 O3;have hQ:=hP.only hN2 (by omega) B6 (nou_mk (z7arg w).arg.nou (z8a w).nou (z9arg w).arg.nou) O3 (GG.kept (bw.trans (O3.below (by omega))));replace B4:=O3.cel B4 (by omega)
  replace bw:=bw.trans (O3.below (by omega))
  have B8:aa w3 (w.heap.size+2) (Value.int .i64 2::([Value.int .i64 0,.slice none 0 0,.slice none 0 0,.slice none 0 0]++(cs++[Value.int .i64 0,.int .i64 0,.int .i64 0,.int .i64 0,.int .i64 0,.slice none 0 0,.int .i64 0,.slice none 0 0]))) 63:=B7
  have HL:=Hid.mk8 (ki_mk hK (z7arg w3) hQ (z9arg w3)).arg.len;have H1:=Hid.mk8 (ki_mk hK (z7arg w3) hQ (z9arg w3)).arg.one;have H9:=Hid.mk8 (ki_mk hK (z7arg w3) hQ (z9arg w3)).arg.nine
  have HNF:Hid (dU w.heap.size (Value.int .i64 2::([Value.int .i64 0,.slice none 0 0,.slice none 0 0,.slice none 0 0]++(cs++[Value.int .i64 0,.int .i64 0,.int .i64 0,.int .i64 0,.int .i64 0,.slice none 0 0,.int .i64 0,.slice none 0 0])))):=⟨cW (aX _) (aX _),(hN2.mono (by omega)).mid (pre:=Value.int .i64 2::[Value.int .i64 0,.slice none 0 0,.slice none 0 0,.slice none 0 0]) (by have:=H9.out;have:=hQ.arg.nine;omega) rfl⟩
  have HQ:=Hid.mk8 (And.intro hQ hN2);clear B7 O3 B6 hP hN2 hQ
  go_wp2_with (first | refine ca (w.heap.size+2) _ (by rfl) rfl B8 underlying63 HL.out ?_ | refine aJ (w.heap.size+1) _ _ rfl rfl B4 H9.out HL.out H1.out ?_);intro w9 B9 O9
  have HZ:=Hid.mk8 (And.intro B9 (And.intro (ki_mk hK (z7arg w9) (HQ.out.1.only HQ.out.2 (by omega) B4 (nou_mk (z7arg w).arg.nou (z8a w).nou (z9arg w).arg.nou) O9 (GG.kept (bw.trans (O9.below (by omega))))) (z9arg w9)) (bw.trans (O9.below (by omega)))))
  clear B9 O9 B8 B4 HQ;go_wp2
  (try simp only[Exit.inBlock,Exit.then]);refine bodyPost_ret (a_ rfl (w.heap.size+1) _ rfl HZ.out.1 underlying63 HL.out) rfl ⟨_,rfl,?_,HZ.out.2.2,HNF.out⟩;rw[ew];exact HZ.out.2.1
 .have ew:kB 2 N xs=⟨0,n7,n8,n9⟩:=js 2 N xs (by rw[eE];exact z);have zz:(kE8 N xs != 0)=true:=by simp[z]
  clear eE z;generalize kE8 N xs=E1 at *;go_enter func26,ntmps26;go_wp2_with (refine aJ (w.heap.size+2) _ _ rfl rfl B6 rfl hIV.out (by simp[Value.oneCell']) ?_);intro w1 B6 O1
  replace B0:=O1.cel B0 (by omega);replace B4:=O1.cel B4 (by omega);replace bw:=bw.trans (O1.below (by omega));clear O1;have r0:=B0.cell 0 rfl;have r1:=B0.cell 1 rfl;go_wp2_with fail;refine(H8.out _ bw).mono ?_
  rintro e w2 ⟨cs,rfl,hP,hN2,hb⟩;have sz:=B6.lt;have sz2:=hb.size;replace B4:=B4.kept hb;replace B6:=B6.kept hb;replace bw:=bg bw hb;clear hb r0 r1 B0
  go_wp2_with (refine fZ (w.heap.size+2) (Value.int .i64 2::[Value.int .i64 0,.slice none 0 0,.slice none 0 0,.slice none 0 0]) [Value.int .i64 0,.int .i64 0,.int .i64 0,.int .i64 0,.slice none 0 0,.int .i64 0,.slice none 0 0,.slice none 0 0,.slice none 0 0] [Value.int .i64 0,.int .i64 0,.int .i64 0,.int .i64 0,.int .i64 0,.slice none 0 0,.int .i64 0,.slice none 0 0] cs rfl rfl B6 hP.arg.nine hP.arg.len hP.arg.one ?_)
  intro w3 B7 O3;replace B4:=O3.cel B4 (by omega);replace bw:=bw.trans (O3.below (by omega));clear B7 O3 B6 hP hN2;go_wp2_with (refine aJ (w.heap.size+1) _ _ rfl rfl B4 rfl hIV.out (by simp[Value.oneCell']) ?_)
  intro w9 B9 O9;have HZ:=Hid.mk8 (And.intro B9 (bw.trans (O9.below (by omega))));clear B9 O9;go_wp2
  (try simp only[Exit.inBlock,Exit.then]);refine bodyPost_ret (a_ rfl (w.heap.size+1) _ rfl HZ.out.1 underlying63 hIV.out) rfl ⟨_,rfl,?_,HZ.out.2,cW (aX _) (aX _),cW (aX _) (aX _)⟩;rw[ew]
  exact ki_mk dA (z7arg _) (z8arg _ (GG.kept HZ.out.2)) (z9arg _)
theorem vF(N:Int)(ao:Option Addr)(xs:List Nat)(cap:Nat)(w:World)(hN:aD N)(hx:Wd w ao xs)(hf:aA xs)(hcap:xs.length<=cap)(hl:N<=3000/\xs.length<=1048576)(GG:GV w):
  Calls prog 26 #[.int .i64 3,.agg #[.int .i64 N,.slice ao xs.length cap]] w fun e w'=>∃cs:List Value,e=.returned (.tuple #[.agg cs.toArray,.int .i64 (kE 3 N xs)])/\KI w' cs (kB 3 N xs)/\Below w.heap.size w w'/\dU w.heap.size cs:=by
 obtain⟨W,hW⟩:∃W,W=((w.alloc (.cells #[.int .i64 N,.slice ao xs.length cap] 53)).alloc (.cells [Value.int .i64 0,.int .i64 0,.slice none 0 0,.slice none 0 0,.slice none 0 0,.int .i64 0,.int .i64 0,.int .i64 0,.int .i64 0,.slice none 0 0,.int .i64 0,.slice none 0 0,.slice none 0 0,.slice none 0 0,.int .i64 0,.int .i64 0,.int .i64 0,.int .i64 0,.int .i64 0,.slice none 0 0,.int .i64 0,.slice none 0 0].toArray 63)).alloc (.cells [Value.int .i64 0,.int .i64 0,.slice none 0 0,.slice none 0 0,.slice none 0 0,.int .i64 0,.int .i64 0,.int .i64 0,.int .i64 0,.slice none 0 0,.int .i64 0,.slice none 0 0,.slice none 0 0,.slice none 0 0,.int .i64 0,.int .i64 0,.int .i64 0,.int .i64 0,.int .i64 0,.slice none 0 0,.int .i64 0,.slice none 0 0].toArray 63):=⟨_,rfl⟩
 have bw:Below w.heap.size w W:=by rw[hW];exact((below_alloc w _).alloc (by simp) _).alloc (by simp;omega) _
 have B0:aa W w.heap.size [.int .i64 N,.slice ao xs.length cap] 53:=by rw[hW];exact((aa.new w _ _).alloc _).alloc _
 have B4:aa W (w.heap.size+1) [Value.int .i64 0,.int .i64 0,.slice none 0 0,.slice none 0 0,.slice none 0 0,.int .i64 0,.int .i64 0,.int .i64 0,.int .i64 0,.slice none 0 0,.int .i64 0,.slice none 0 0,.slice none 0 0,.slice none 0 0,.int .i64 0,.int .i64 0,.int .i64 0,.int .i64 0,.int .i64 0,.slice none 0 0,.int .i64 0,.slice none 0 0] 63:=by rw[hW];exact(aa.new2 w _ _ _).alloc _
 have B6:aa W (w.heap.size+2) [Value.int .i64 0,.int .i64 0,.slice none 0 0,.slice none 0 0,.slice none 0 0,.int .i64 0,.int .i64 0,.int .i64 0,.int .i64 0,.slice none 0 0,.int .i64 0,.slice none 0 0,.slice none 0 0,.slice none 0 0,.int .i64 0,.int .i64 0,.int .i64 0,.int .i64 0,.int .i64 0,.slice none 0 0,.int .i64 0,.slice none 0 0] 63:=by rw[hW];exact(aa.new2 (w.alloc _) _ _ _).at (by simp)
 have hIV:=Hid.mk8 mq
 have H9:Hid (∀w0,Below w.heap.size w w0->Calls prog 53 #[.agg #[.int .i64 N,.slice ao xs.length cap]] w0 fun e w'=>∃cs:List Value,e=.returned (.tuple #[.agg cs.toArray,.int .i64 (kE9 N xs)])/\bT w' cs (kB9 N xs)/\Below w0.heap.size w0 w'):=fun w0 h=>GM N ao xs cap w0 hN (hx.keep h) hf hcap hl
 subst hW;have hK:aD 3:=by unfold aD;decide
 have eE:kE 3 N xs=kE9 N xs:=rfl;rw[eE];by_cases z:kE9 N xs=0
 .have ew:kB 3 N xs=⟨3,n7,n8,kB9 N xs⟩:=mj N xs z;rw[z]at H9⊢;clear eE z;go_enter func26,ntmps26;go_wp2_with (refine aJ (w.heap.size+2) _ _ rfl rfl B6 rfl hIV.out (by simp[Value.oneCell']) ?_)
  intro w1 B6 O1;replace B0:=O1.cel B0 (by omega);replace B4:=O1.cel B4 (by omega);replace bw:=bw.trans (O1.below (by omega));clear O1;have r0:=B0.cell 0 rfl;have r1:=B0.cell 1 rfl;go_wp2_with fail
  refine(H9.out _ bw).mono ?_;rintro e w2 ⟨cs,rfl,hP,hb⟩;have sz:=B6.lt;have sz2:=hb.size;replace B4:=B4.kept hb;replace B6:=B6.kept hb;replace bw:=bg bw hb;clear hb r0 r1 B0
  go_wp2_with (refine fZ (w.heap.size+2) (Value.int .i64 3::([Value.int .i64 0,.slice none 0 0,.slice none 0 0,.slice none 0 0]++[Value.int .i64 0,.int .i64 0,.int .i64 0,.int .i64 0,.slice none 0 0,.int .i64 0,.slice none 0 0,.slice none 0 0,.slice none 0 0])) [Value.int .i64 0,.int .i64 0,.int .i64 0,.int .i64 0,.int .i64 0,.slice none 0 0,.int .i64 0,.slice none 0 0] [] cs rfl rfl B6 hP.arg.nine hP.arg.len hP.arg.one ?_)
  intro w3 B7 O3;have hQ:=hP.only B6 (nou_mk (z7arg w).arg.nou (z8a w).nou (z9arg w).arg.nou) O3;replace B4:=O3.cel B4 (by omega);replace bw:=bw.trans (O3.below (by omega))
  have B8:aa w3 (w.heap.size+2) (Value.int .i64 3::([Value.int .i64 0,.slice none 0 0,.slice none 0 0,.slice none 0 0]++([Value.int .i64 0,.int .i64 0,.int .i64 0,.int .i64 0,.slice none 0 0,.int .i64 0,.slice none 0 0,.slice none 0 0,.slice none 0 0]++cs))) 63:=by simpa using B7
  have HL:=Hid.mk8 (gU hK (z7arg w3).arg (z8a w3) hQ.arg).len;have H1:=Hid.mk8 (gU hK (z7arg w3).arg (z8a w3) hQ.arg).one;have H9:=Hid.mk8 (gU hK (z7arg w3).arg (z8a w3) hQ.arg).nine
  have HNF:Hid (dU w.heap.size (Value.int .i64 3::([Value.int .i64 0,.slice none 0 0,.slice none 0 0,.slice none 0 0]++([Value.int .i64 0,.int .i64 0,.int .i64 0,.int .i64 0,.slice none 0 0,.int .i64 0,.slice none 0 0,.slice none 0 0,.slice none 0 0]++cs)))):=⟨cW (aX _) (aX _),cW (aX _) (aX _)⟩
  have HQ:=Hid.mk8 (And.intro hQ trivial);clear B7 O3 B6 hP hQ
  go_wp2_with (first | refine ca (w.heap.size+2) _ (by rfl) rfl B8 underlying63 HL.out ?_ | refine aJ (w.heap.size+1) _ _ rfl rfl B4 H9.out HL.out H1.out ?_);intro w9 B9 O9
  have HZ:=Hid.mk8 (And.intro B9 (And.intro (ki_mk hK (z7arg w9) (z8arg w9 (GG.kept (bw.trans (O9.below (by omega))))) (HQ.out.1.only B4 (nou_mk (z7arg w).arg.nou (z8a w).nou (z9arg w).arg.nou) O9)) (bw.trans (O9.below (by omega)))))
  clear B9 O9 B8 B4 HQ;go_wp2
  (try simp only[Exit.inBlock,Exit.then]);refine bodyPost_ret (a_ rfl (w.heap.size+1) _ rfl HZ.out.1 underlying63 HL.out) rfl ⟨_,rfl,?_,HZ.out.2.2,HNF.out⟩;rw[ew];exact HZ.out.2.1
 .have ew:kB 3 N xs=⟨0,n7,n8,n9⟩:=js 3 N xs (by rw[eE];exact z);have zz:(kE9 N xs != 0)=true:=by simp[z]
  clear eE z;generalize kE9 N xs=E1 at *;go_enter func26,ntmps26;go_wp2_with (refine aJ (w.heap.size+2) _ _ rfl rfl B6 rfl hIV.out (by simp[Value.oneCell']) ?_);intro w1 B6 O1
  replace B0:=O1.cel B0 (by omega);replace B4:=O1.cel B4 (by omega);replace bw:=bw.trans (O1.below (by omega));clear O1;have r0:=B0.cell 0 rfl;have r1:=B0.cell 1 rfl;go_wp2_with fail;refine(H9.out _ bw).mono ?_
  rintro e w2 ⟨cs,rfl,hP,hb⟩;have sz:=B6.lt;have sz2:=hb.size;replace B4:=B4.kept hb;replace B6:=B6.kept hb;replace bw:=bg bw hb;clear hb r0 r1 B0
  go_wp2_with (refine fZ (w.heap.size+2) (Value.int .i64 3::([Value.int .i64 0,.slice none 0 0,.slice none 0 0,.slice none 0 0]++[Value.int .i64 0,.int .i64 0,.int .i64 0,.int .i64 0,.slice none 0 0,.int .i64 0,.slice none 0 0,.slice none 0 0,.slice none 0 0])) [Value.int .i64 0,.int .i64 0,.int .i64 0,.int .i64 0,.int .i64 0,.slice none 0 0,.int .i64 0,.slice none 0 0] [] cs rfl rfl B6 hP.arg.nine hP.arg.len hP.arg.one ?_)
  intro w3 B7 O3;replace B4:=O3.cel B4 (by omega);replace bw:=bw.trans (O3.below (by omega));clear B7 O3 B6 hP;go_wp2_with (refine aJ (w.heap.size+1) _ _ rfl rfl B4 rfl hIV.out (by simp[Value.oneCell']) ?_)
  intro w9 B9 O9;have HZ:=Hid.mk8 (And.intro B9 (bw.trans (O9.below (by omega))));clear B9 O9;go_wp2
  (try simp only[Exit.inBlock,Exit.then]);refine bodyPost_ret (a_ rfl (w.heap.size+1) _ rfl HZ.out.1 underlying63 hIV.out) rfl ⟨_,rfl,?_,HZ.out.2,cW (aX _) (aX _),cW (aX _) (aX _)⟩;rw[ew]
  exact ki_mk dA (z7arg _) (z8arg _ (GG.kept HZ.out.2)) (z9arg _)
theorem vE(k N:Int)(ao:Option Addr)(xs:List Nat)(cap:Nat)(w:World)(hK:aD k)(hN:aD N)(hx:Wd w ao xs)(hf:aA xs)(hcap:xs.length<=cap)(hl:N<=3000/\xs.length<=1048576)(GG:GV w):
  Calls prog 26 #[.int .i64 k,.agg #[.int .i64 N,.slice ao xs.length cap]] w fun e w'=>∃cs:List Value,e=.returned (.tuple #[.agg cs.toArray,.int .i64 (kE k N xs)])/\KI w' cs (kB k N xs)/\Below w.heap.size w w'/\dU w.heap.size cs:=by
 by_cases q2:k=2
 .subst q2;exact GJ N ao xs cap w hN hx hf hcap hl GG
 by_cases q3:k=3
 .subst q3;exact vF N ao xs cap w hN hx hf hcap hl GG
 obtain⟨W,hW⟩:∃W,W=((w.alloc (.cells #[.int .i64 N,.slice ao xs.length cap] 53)).alloc (.cells [Value.int .i64 0,.int .i64 0,.slice none 0 0,.slice none 0 0,.slice none 0 0,.int .i64 0,.int .i64 0,.int .i64 0,.int .i64 0,.slice none 0 0,.int .i64 0,.slice none 0 0,.slice none 0 0,.slice none 0 0,.int .i64 0,.int .i64 0,.int .i64 0,.int .i64 0,.int .i64 0,.slice none 0 0,.int .i64 0,.slice none 0 0].toArray 63)).alloc (.cells [Value.int .i64 0,.int .i64 0,.slice none 0 0,.slice none 0 0,.slice none 0 0,.int .i64 0,.int .i64 0,.int .i64 0,.int .i64 0,.slice none 0 0,.int .i64 0,.slice none 0 0,.slice none 0 0,.slice none 0 0,.int .i64 0,.int .i64 0,.int .i64 0,.int .i64 0,.int .i64 0,.slice none 0 0,.int .i64 0,.slice none 0 0].toArray 63):=⟨_,rfl⟩
 have bw:Below w.heap.size w W:=by rw[hW];exact((below_alloc w _).alloc (by simp) _).alloc (by simp;omega) _
 have B0:aa W w.heap.size [.int .i64 N,.slice ao xs.length cap] 53:=by rw[hW];exact((aa.new w _ _).alloc _).alloc _
 have B4:aa W (w.heap.size+1) [Value.int .i64 0,.int .i64 0,.slice none 0 0,.slice none 0 0,.slice none 0 0,.int .i64 0,.int .i64 0,.int .i64 0,.int .i64 0,.slice none 0 0,.int .i64 0,.slice none 0 0,.slice none 0 0,.slice none 0 0,.int .i64 0,.int .i64 0,.int .i64 0,.int .i64 0,.int .i64 0,.slice none 0 0,.int .i64 0,.slice none 0 0] 63:=by rw[hW];exact(aa.new2 w _ _ _).alloc _
 have B6:aa W (w.heap.size+2) [Value.int .i64 0,.int .i64 0,.slice none 0 0,.slice none 0 0,.slice none 0 0,.int .i64 0,.int .i64 0,.int .i64 0,.int .i64 0,.slice none 0 0,.int .i64 0,.slice none 0 0,.slice none 0 0,.slice none 0 0,.int .i64 0,.int .i64 0,.int .i64 0,.int .i64 0,.int .i64 0,.slice none 0 0,.int .i64 0,.slice none 0 0] 63:=by rw[hW];exact(aa.new2 (w.alloc _) _ _ _).at (by simp)
 have hIV:=Hid.mk8 mq
 have H7:Hid (∀w0,Below w.heap.size w w0->Calls prog 51 #[.agg #[.int .i64 N,.slice ao xs.length cap]] w0 fun e w'=>∃cs:List Value,e=.returned (.tuple #[.agg cs.toArray,.int .i64 (kE7 N xs)])/\cH w' cs (kB7 N xs)/\NF w0.heap.size 2 cs/\Below w0.heap.size w0 w'):=fun w0 h=>GP N ao xs cap w0 hN (hx.keep h) hf hcap hl.2
 subst hW;by_cases q1:k=1
 .subst q1;have eE:kE 1 N xs=kE7 N xs:=rfl;rw[eE];by_cases z:kE7 N xs=0
  .have ew:kB 1 N xs=⟨1,kB7 N xs,n8,n9⟩:=nS N xs z;rw[z]at H7⊢;clear eE z;go_enter func26,ntmps26;go_wp2_with (refine aJ (w.heap.size+2) _ _ rfl rfl B6 rfl hIV.out (by simp[Value.oneCell']) ?_)
   intro w1 B6 O1;replace B0:=O1.cel B0 (by omega);replace B4:=O1.cel B4 (by omega);replace bw:=bw.trans (O1.below (by omega));clear O1;have r0:=B0.cell 0 rfl;have r1:=B0.cell 1 rfl;go_wp2_with fail
   refine(H7.out _ bw).mono ?_;rintro e w2 ⟨cs,rfl,hP,hN2,hb⟩;have sz:=B6.lt;have sz2:=hb.size;replace B4:=B4.kept hb;replace B6:=B6.kept hb;replace bw:=bg bw hb;clear hb r0 r1 B0
   go_wp2_with (refine fZ (w.heap.size+2) [Value.int .i64 1] [Value.int .i64 0,.slice none 0 0,.slice none 0 0,.slice none 0 0] ([Value.int .i64 0,.int .i64 0,.int .i64 0,.int .i64 0,.slice none 0 0,.int .i64 0,.slice none 0 0,.slice none 0 0,.slice none 0 0]++[Value.int .i64 0,.int .i64 0,.int .i64 0,.int .i64 0,.int .i64 0,.slice none 0 0,.int .i64 0,.slice none 0 0]) cs rfl rfl B6 hP.arg.four.symm hP.arg.len hP.arg.one ?_)
   intro w3 B7 O3;have hQ:=hP.only hN2 (by omega) B6 (nou_mk (z7arg w).arg.nou (z8a w).nou (z9arg w).arg.nou) O3;replace B4:=O3.cel B4 (by omega);replace bw:=bw.trans (O3.below (by omega))
   have B8:aa w3 (w.heap.size+2) (Value.int .i64 1::(cs++([Value.int .i64 0,.int .i64 0,.int .i64 0,.int .i64 0,.slice none 0 0,.int .i64 0,.slice none 0 0,.slice none 0 0,.slice none 0 0]++[Value.int .i64 0,.int .i64 0,.int .i64 0,.int .i64 0,.int .i64 0,.slice none 0 0,.int .i64 0,.slice none 0 0]))) 63:=B7
   have HL:=Hid.mk8 (gU hK hQ.arg (z8a w3) (z9arg w3).arg).len;have H1:=Hid.mk8 (gU hK hQ.arg (z8a w3) (z9arg w3).arg).one;have H9:=Hid.mk8 (gU hK hQ.arg (z8a w3) (z9arg w3).arg).nine
   have HNF:Hid (dU w.heap.size (Value.int .i64 1::(cs++([Value.int .i64 0,.int .i64 0,.int .i64 0,.int .i64 0,.slice none 0 0,.int .i64 0,.slice none 0 0,.slice none 0 0,.slice none 0 0]++[Value.int .i64 0,.int .i64 0,.int .i64 0,.int .i64 0,.int .i64 0,.slice none 0 0,.int .i64 0,.slice none 0 0])))):=⟨(hN2.mono (by omega)).mid (pre:=[Value.int .i64 1]) (by have:=hQ.arg.four;omega) rfl,(show NF w.heap.size 7 [Value.int .i64 0,.int .i64 0,.int .i64 0,.int .i64 0,.slice none 0 0,.int .i64 0,.slice none 0 0,.slice none 0 0,.slice none 0 0]from cW (aX _) (aX _)).mid (pre:=Value.int .i64 1::cs) (by decide) (by have:=hQ.arg.four;simp;omega)⟩
   have HQ:=Hid.mk8 (And.intro hQ hN2);clear B7 O3 B6 hP hN2 hQ
   go_wp2_with (first | refine ca (w.heap.size+2) _ (by rfl) rfl B8 underlying63 HL.out ?_ | refine aJ (w.heap.size+1) _ _ rfl rfl B4 H9.out HL.out H1.out ?_);intro w9 B9 O9
   have HZ:=Hid.mk8 (And.intro B9 (And.intro (ki_mk hK (HQ.out.1.only HQ.out.2 (by omega) B4 (nou_mk (z7arg w).arg.nou (z8a w).nou (z9arg w).arg.nou) O9) (z8arg w9 (GG.kept (bw.trans (O9.below (by omega))))) (z9arg w9)) (bw.trans (O9.below (by omega)))))
   clear B9 O9 B8 B4 HQ;go_wp2
   (try simp only[Exit.inBlock,Exit.then]);refine bodyPost_ret (a_ rfl (w.heap.size+1) _ rfl HZ.out.1 underlying63 HL.out) rfl ⟨_,rfl,?_,HZ.out.2.2,HNF.out⟩;rw[ew];exact HZ.out.2.1
  .have ew:kB 1 N xs=⟨0,n7,n8,n9⟩:=js 1 N xs (by rw[eE];exact z);have zz:(kE7 N xs != 0)=true:=by simp[z]
   clear eE z;generalize kE7 N xs=E1 at *;go_enter func26,ntmps26;go_wp2_with (refine aJ (w.heap.size+2) _ _ rfl rfl B6 rfl hIV.out (by simp[Value.oneCell']) ?_);intro w1 B6 O1
   replace B0:=O1.cel B0 (by omega);replace B4:=O1.cel B4 (by omega);replace bw:=bw.trans (O1.below (by omega));clear O1;have r0:=B0.cell 0 rfl;have r1:=B0.cell 1 rfl;go_wp2_with fail;refine(H7.out _ bw).mono ?_
   rintro e w2 ⟨cs,rfl,hP,hN2,hb⟩;have sz:=B6.lt;have sz2:=hb.size;replace B4:=B4.kept hb;replace B6:=B6.kept hb;replace bw:=bg bw hb;clear hb r0 r1 B0
   go_wp2_with (refine fZ (w.heap.size+2) [Value.int .i64 1] [Value.int .i64 0,.slice none 0 0,.slice none 0 0,.slice none 0 0] ([Value.int .i64 0,.int .i64 0,.int .i64 0,.int .i64 0,.slice none 0 0,.int .i64 0,.slice none 0 0,.slice none 0 0,.slice none 0 0]++[Value.int .i64 0,.int .i64 0,.int .i64 0,.int .i64 0,.int .i64 0,.slice none 0 0,.int .i64 0,.slice none 0 0]) cs rfl rfl B6 hP.arg.four.symm hP.arg.len hP.arg.one ?_)
   intro w3 B7 O3;replace B4:=O3.cel B4 (by omega);replace bw:=bw.trans (O3.below (by omega));clear B7 O3 B6 hP hN2;go_wp2_with (refine aJ (w.heap.size+1) _ _ rfl rfl B4 rfl hIV.out (by simp[Value.oneCell']) ?_)
   intro w9 B9 O9;have HZ:=Hid.mk8 (And.intro B9 (bw.trans (O9.below (by omega))));clear B9 O9;go_wp2
   (try simp only[Exit.inBlock,Exit.then]);refine bodyPost_ret (a_ rfl (w.heap.size+1) _ rfl HZ.out.1 underlying63 hIV.out) rfl ⟨_,rfl,?_,HZ.out.2,cW (aX _) (aX _),cW (aX _) (aX _)⟩;rw[ew]
   exact ki_mk dA (z7arg _) (z8arg _ (GG.kept HZ.out.2)) (z9arg _)
 have eE:kE k N xs=5:=by unfold kE;rw[if_neg q1,if_neg q2,if_neg q3]
 have ew:kB k N xs=⟨0,n7,n8,n9⟩:=js k N xs (by rw[eE];decide);rw[eE];have d1:(k==1)=false:=by simp[q1]
 have d2:(k==2)=false:=by simp[q2]
 have d3:(k==3)=false:=by simp[q3]
 clear eE;go_enter func26,ntmps26;go_wp2_with (refine aJ (w.heap.size+2) _ _ rfl rfl B6 rfl hIV.out (by simp[Value.oneCell']) ?_);intro w1 B6 O1;replace B0:=O1.cel B0 (by omega)
 replace B4:=O1.cel B4 (by omega);replace bw:=bw.trans (O1.below (by omega));clear O1;have r0:=B0.cell 0 rfl;have r1:=B0.cell 1 rfl
 go_wp2_with (refine aJ (w.heap.size+1) _ _ rfl rfl B4 rfl hIV.out (by simp[Value.oneCell']) ?_);intro w9 B9 O9;have HZ:=Hid.mk8 (And.intro B9 (bw.trans (O9.below (by omega))));clear B9 O9;go_wp2
 (try simp only[Exit.inBlock,Exit.then]);refine bodyPost_ret (a_ rfl (w.heap.size+1) _ rfl HZ.out.1 underlying63 hIV.out) rfl ⟨_,rfl,?_,HZ.out.2,cW (aX _) (aX _),cW (aX _) (aX _)⟩;rw[ew]
 exact ki_mk dA (z7arg _) (z8arg _ (GG.kept HZ.out.2)) (z9arg _)
def VB(k:Int):Prop:=∀(N:Int) (ao:Option Addr) (xs:List Nat) (cap:Nat) (w:World),aD N->Wd w ao xs->aA xs->xs.length<=cap->(N<=3000/\xs.length<=1048576)->GV w->Calls prog 26 #[.int .i64 k,.agg #[.int .i64 N,.slice ao xs.length cap]] w fun e w'=>∃cs:List Value,e=.returned (.tuple #[.agg cs.toArray,.int .i64 (kE k N xs)])/\KI w' cs (kB k N xs)/\Below w.heap.size w w'/\dU w.heap.size cs
theorem wZ:VB 3:=fun N ao xs cap w h1 h2 h3 h4 h5 h6=>vF N ao xs cap w h1 h2 h3 h4 h5 h6
theorem wY(k:Int)(hK:aD k):VB k:=fun N ao xs cap w h1 h2 h3 h4 h5 h6=>vE k N ao xs cap w hK h1 h2 h3 h4 h5 h6
def ra0:RA:=⟨0,n7,n8,n9⟩
def Lv(w:World)(lo:Option Addr)(av:List RA):Prop:=
 0<av.length->∃b off,lo=some ⟨b,off,none⟩/\b<w.heap.size/\∀l,l<av.length->∃cs,w.rangeAt b (off+l*22) cs/\KI w cs (av.getD l ra0)
theorem ku{w w':World}{b o base:Nat}{cs:List Value}(h:w.rangeAt b o cs)(hb:Below base w w')(hl:b<base):w'.rangeAt b o cs:=fun j v hv=>(hb.cell (p:=⟨b,o+j,none⟩) hl).trans (h j v hv)
theorem Lv.keep{w w':World}{lo:Option Addr}{av:List RA}(h:Lv w lo av)(hb:Below w.heap.size w w'):Lv w' lo av:=by
 intro h0;obtain⟨b,off,e,hlt,hc⟩:=h h0;refine⟨b,off,e,Nat.lt_of_lt_of_le hlt hb.size,fun l hl=>?_⟩;obtain⟨cs,h1,h2⟩:=hc l hl;exact⟨cs,ku h1 hb hlt,h2.keep hb⟩
theorem fG.head{w:World}{cs:List Value}{a:RA}(h:fG w cs a):cs[0]?=some (.int .i64 a.K):=by
 obtain⟨cp,cr,cf,rfl,_⟩:=h;rfl
def zv:List Value:=[.int .i64 0,.int .i64 0,.slice none 0 0,.slice none 0 0,.slice none 0 0,.int .i64 0,.int .i64 0,.int .i64 0,.int .i64 0,.slice none 0 0,.int .i64 0,.slice none 0 0,.slice none 0 0,.slice none 0 0,.int .i64 0,.int .i64 0,.int .i64 0,.int .i64 0,.int .i64 0,.slice none 0 0,.int .i64 0,.slice none 0 0]
theorem mp:(prog.info? 63).map (fun i=>(i.zero,i.size))=some (some (.agg zv.toArray),zv.length):=by kernel_rfl
theorem kR:zv.length=22:=rfl
theorem DI(a:RA)(ok:aQ a=true):a.p.N+a.r.N+a.f.N=kBN a/\0<=a.p.N/\0<=a.r.N/\0<=a.f.N:=by
 have nn:=(bj _ _ (jY a ok)).1
 have kz:cF a=true:=by
  cases h:cF a with
  | true=>rfl
  | false=>
   have e:kOn a=0:=by unfold kOn;rw[h];rfl
   rw[(gc (by omega) (by omega) (by omega)).1]at ok;cases ok
 have ek:kOn a=a.K:=by unfold kOn;rw[if_pos kz]
 have z7n:z7 a.p=true->a.p.N=0:=fun h=>by unfold z7 norw at h;simp at h;exact h.1.1
 have z8n:z8 a.r=true->a.r.N=0:=fun h=>by unfold z8 at h;simp at h;exact h.1
 have z9n:z9 a.f=true->a.f.N=0:=fun h=>by unfold z9 at h;simp at h;exact h.1
 unfold cF at kz;simp only[Bool.and_eq_true,Bool.or_eq_true,decide_eq_true_eq]at kz;obtain⟨k1,k2,k3⟩:=kz;by_cases h1:kOn a=1
 .obtain⟨e1,e2,_,_⟩:=im h1;have q2:=z8n (k2.resolve_left (by omega));have q3:=z9n (k3.resolve_left (by omega))
  have:kBN7 a.p=a.p.N:=by unfold kBN7 gJ;rw[if_pos (show pchk a.p.N a.p.xs a.p.S a.p.T=true from e1.symm.trans ok)]
  omega
 by_cases h2:kOn a=2
 .obtain⟨e1,e2,_,_⟩:=il h2;have q2:=z7n (k1.resolve_left (by omega));have q3:=z9n (k3.resolve_left (by omega))
  have:kBN8 a.r=a.r.N:=by
   have hr:cM a.r.N a.r.k a.r.V a.r.M a.r.xs a.r.L a.r.ys a.r.S a.r.T=true:=e1.symm.trans ok;obtain⟨_,_,_,g4⟩:=kA _ _ _ _ _ _ _ _ _ hr;obtain⟨g1,_⟩:=oZ _ _ _ _ _ _ _ _ _ _ _ g4;unfold kBN8 fJ
   rw[if_pos hr];exact g1.symm
  omega
 by_cases h3:kOn a=3
 .obtain⟨e1,e2,_,_⟩:=fA h3;have q2:=z7n (k1.resolve_left (by omega));have q3:=z8n (k2.resolve_left (by omega))
  have:kBN9 a.f=a.f.N:=by
   unfold kBN9;rw[if_pos (e1.symm.trans ok)]
  omega
 rw[(gc h1 h2 h3).1]at ok;cases ok
theorem Cp(cs:List Value)(a:RA)(w:World)(h:KI w cs a)(ok:aQ a=true):
  Qq 45 #[.agg cs.toArray] w (.int .i64 (kBN a)):=by
 obtain⟨e,p0,p1,p2⟩:=DI a ok;obtain⟨n0,n1,_⟩:=bj _ _ (jY a ok);obtain⟨cp,cr,cf,rfl,_,h1,h2,h3⟩:=h.arg;obtain⟨ao,cap,so,sc,tO,tc,rfl,g1⟩:=h1
 obtain⟨bo,dap,qo,eap,uo,uc,vO,vc,rfl,g2⟩:=h2;obtain⟨fo,fap,ho,hap,rfl,g3⟩:=h3
 have bw:=below_alloc w (.cells (Value.int .i64 a.K::([.int .i64 a.p.N,.slice ao a.p.xs.length cap,.slice so a.p.S.length sc,.slice tO a.p.T.length tc]++([.int .i64 a.r.N,.int .i64 a.r.k,.int .i64 a.r.V,.int .i64 a.r.M,.slice bo a.r.xs.length dap,.int .i64 a.r.L,.slice qo a.r.ys.length eap,.slice uo a.r.S.length uc,.slice vO a.r.T.length vc]++[.int .i64 a.f.N,.int .i64 a.f.M,.int .i64 a.f.k,.int .i64 a.f.V,.int .i64 a.f.LM,.slice fo a.f.xs.length fap,.int .i64 a.f.H,.slice ho a.f.ys.length hap]))).toArray 63)
 clear g1 g2 g3 h;generalize a.p.N=A at *;generalize a.r.N=B at *;generalize a.f.N=C at *;generalize kBN a=M at *;have hAB:IntKind.i64.wrap (A+B)=A+B:=by rw[IntKind.wrap_i64];omega
 have hABC:IntKind.i64.wrap (A+B+C)=M:=by rw[IntKind.wrap_i64];omega
 have HE:=ag e;clear e;go_enter func45,ntmps45;go_wp2;go_ret;exact⟨rfl,bw⟩
def mI(l:List Nat):List Int:=l.map fun n:Nat=>(n:Int)
theorem dh(l:List Nat):(mI l).length=l.length:=by simp[mI]
theorem ip(l:List Nat)(q:Nat)(h:q<l.length):gi (mI l) q=(gt l q:Int):=by
 unfold gi mI gt;rw[List.getD_eq_getElem?_getD,List.getD_eq_getElem?_getD,List.getElem?_map,List.getElem?_eq_getElem h];rfl
def mA(k:Int)(t:List Nat):List RA:=(List.range 8).map fun l=>kB k (t.length:Int) (aB (Mx.rw_ t l))
def mZ(t:List Nat):List Nat:=(List.range 8).map (Mx.zs t)
theorem fK(k:Int)(t:List Nat):(mA k t).length=8:=by simp[mA]
theorem gn(t:List Nat):(mZ t).length=8:=by simp[mZ]
theorem kK(k:Int)(t:List Nat){l:Nat}(h:l<8):(mA k t).getD l ra0=kB k (t.length:Int) (aB (Mx.rw_ t l)):=by
 unfold mA;rw[List.getD_eq_getElem?_getD,List.getElem?_map,List.getElem?_range h];rfl
theorem pK(t:List Nat){l:Nat}(h:l<8):gt (mZ t) l=Mx.zs t l:=by
 unfold gt mZ;rw[List.getD_eq_getElem?_getD,List.getElem?_map,List.getElem?_range h];rfl
structure MX (w:World) (cs:List Value) (k:Int) (t:List Nat):Prop where
 ex:∃lo lc zo zc,cs=[.int .i64 k,.int .i64 (t.length:Int),.slice lo 8 lc,.slice zo 8 zc]/\Lv w lo (mA k t)/\Nd w zo (mI (mZ t))
 kn:1<=k/\k<=3
 le:t.length<=3000
 by_:fV t
 gv:GV w
theorem MX.keep{w w':World}{cs:List Value}{k:Int}{t:List Nat}(h:MX w cs k t)(hb:Below w.heap.size w w'):MX w' cs k t:=by
 obtain⟨⟨lo,lc,zo,zc,e,h1,h2⟩,a,b,c,d⟩:=h;exact⟨⟨lo,lc,zo,zc,e,h1.keep hb,h2.keep hb⟩,a,b,c,d.keep hb⟩
theorem MX.row{w:World}{k:Int}{t:List Nat}{lo:Option Addr}{lc:Nat}{zo:Option Addr}{zc:Nat}(h:MX w [.int .i64 k,.int .i64 (t.length:Int),.slice lo 8 lc,.slice zo 8 zc] k t){l:Nat}(hl:l<8):∃b off rs,lo=some ⟨b,off,none⟩/\b<w.heap.size/\w.rangeAt b (off+l*22) rs/\KI w rs (kB k (t.length:Int) (aB (Mx.rw_ t l))):=by
 obtain⟨lo',lc',zo',zc',e,h1,h2⟩:=h.ex;simp only[List.cons.injEq,Value.slice.injEq,true_and,and_true]at e;obtain⟨⟨rfl,rfl⟩,rfl,rfl⟩:=e;obtain⟨b,off,e,hb,hr⟩:=h1 (by rw[fK];decide)
 obtain⟨rs,r1,r2⟩:=hr l (by rw[fK];exact hl);rw[kK k t hl]at r2;exact⟨b,off,rs,e,hb,r1,r2⟩
theorem MX.zero{w:World}{k:Int}{t:List Nat}{lo:Option Addr}{lc:Nat}{zo:Option Addr}{zc:Nat}(h:MX w [.int .i64 k,.int .i64 (t.length:Int),.slice lo 8 lc,.slice zo 8 zc] k t){l:Nat}(hl:l<8):∃b off,zo=some ⟨b,off,none⟩/\b<w.heap.size/\w.cell? ⟨b,off+l,none⟩=some (.int .i64 (Mx.zs t l:Nat)):=by
 obtain⟨lo',lc',zo',zc',e,h1,h2⟩:=h.ex;simp only[List.cons.injEq,Value.slice.injEq,true_and,and_true]at e;obtain⟨⟨rfl,rfl⟩,rfl,rfl⟩:=e;obtain⟨b,off,e,hb,hr⟩:=h2 (by rw[dh,gn];decide)
 have:=hr l (by rw[dh,gn];exact hl);rw[ip _ _ (by rw[gn];exact hl),pK t hl]at this;exact⟨b,off,e,hb,this⟩
theorem jZ{k:Int}(hk:1<=k/\k<=3){t:List Nat}(hn:t.length<=3000)(l:Nat):aQ (kB k (t.length:Int) (aB (Mx.rw_ t l)))=true/\kBN (kB k (t.length:Int) (aB (Mx.rw_ t l)))=(t.length:Int)/\aR (kB k (t.length:Int) (aB (Mx.rw_ t l)))=aB (Mx.rw_ t l):=by
 have:=Ec hk (Mx.rw_ t l) (by rw[Mx.length_rw];exact hn);rwa [Mx.length_rw]at this
theorem DV(a:RA)(h:aQ a=true):kOn a=a.K:=by
 by_cases z:cF a=true
 .unfold kOn;rw[if_pos z]
 .have h0:kOn a=0:=by unfold kOn;rw[if_neg z]
  have:=(gc (a:=a) (by omega) (by omega) (by omega)).1;rw[h]at this;cases this
theorem un(k N:Int)(xs:List Nat)(h:kE k N xs=0):(kB k N xs).K=k:=by
 unfold kB;rw[if_pos h]
theorem pW{k:Int}(hk:1<=k/\k<=3){t:List Nat}(hn:t.length<=3000)(l:Nat):kOn (kB k (t.length:Int) (aB (Mx.rw_ t l)))=k:=by
 have hc:am (t.length:Int) (aB (Mx.rw_ t l))=true:=by
  have:=fB (Mx.rw_ t l).length (bt (Mx.rw_ t l)) (by rw[Mx.length_rw];omega);rw[Mx.length_rw]at this;unfold aB;rw[Mx.length_rw];exact this
 rw[DV _ (jZ hk hn l).1];exact un k _ _ (mh k _ _ hk.1 hk.2 hc)
theorem pJ{k:Int}(hk:1<=k/\k<=3){t:List Nat}(hn:t.length<=3000)(l:Nat)(b:Bool){i:Nat}(hi:i<=t.length)(a:RA)(ha:a=kB k (t.length:Int) (aB (Mx.rw_ t l))):grN (aQ a) (kBN a) (aR a) b (i:Int)=(Sh.ct b (Mx.rw_ t l) i:Nat)/\grE (aQ a) (kBN a) (i:Int)=0:=by
 subst ha;obtain⟨e1,e2,e3⟩:=jZ hk hn l;have eE:grE true (t.length:Int) (i:Int)=0:=by unfold grE;rw[if_pos rfl,if_neg (by omega)]
 unfold grN;rw[e1,e2,e3,if_pos eE,Int.toNat_natCast,qA _ _ _ (by rw[Mx.length_rw];exact hi)];exact⟨rfl,eE⟩
theorem Di{k:Int}(hk:1<=k/\k<=3){t:List Nat}(hn:t.length<=3000)(l:Nat){j:Nat}(hj:j<t.length)(a:RA)(ha:a=kB k (t.length:Int) (aB (Mx.rw_ t l))):gaB (aQ a) (kBN a) (aR a) (Mx.pos t j l:Int)=Mx.tb l (gt t j):=by
 subst ha;obtain⟨e1,e2,e3⟩:=jZ hk hn l;have hp:=Mx.pos_lt hj l;unfold gaB iq;rw[e1,e2,e3,decide_eq_true (by omega),Int.toNat_natCast,qU _ _ _ (Mx.rw_pos hj l)]
 have hc:am (t.length:Int) (aB (Mx.rw_ t l))=true:=by
  have:=fB (Mx.rw_ t l).length (bt (Mx.rw_ t l)) (by rw[Mx.length_rw];omega);rw[Mx.length_rw]at this;unfold aB;rw[Mx.length_rw];exact this
 rw[hc];simp
theorem tX{k:Int}(hk:1<=k/\k<=3){t:List Nat}(hn:t.length<=3000)(l:Nat){j:Nat}(hj:j<t.length)(a:RA)(ha:a=kB k (t.length:Int) (aB (Mx.rw_ t l))):gsX (aQ a) (kBN a) (aR a) (Mx.tb l (gt t j)) (Sh.ct (Mx.tb l (gt t j)) (Mx.rw_ t l) (Mx.pos t j l):Nat)=(Mx.pos t j l:Nat)/\gsE (aQ a) (kBN a) (aR a) (Mx.tb l (gt t j)) (Sh.ct (Mx.tb l (gt t j)) (Mx.rw_ t l) (Mx.pos t j l):Nat)=0:=by
 subst ha;obtain⟨e1,e2,e3⟩:=jZ hk hn l;have hp:=Mx.pos_lt hj l
 have hs:=nj (t.length:Int) (aB (Mx.rw_ t l)) (Mx.tb l (gt t j)) (Sh.ct (Mx.tb l (gt t j)) (Mx.rw_ t l) (Mx.pos t j l):Nat) (Mx.pos t j l) (by rw[Int.toNat_natCast];exact hp) (by
  unfold h_;rw[qU _ _ _ (Mx.rw_pos hj l),qA _ _ _ (by rw[Mx.length_rw];exact Nat.le_of_lt hp)]
  simp)
 unfold gsE gsX;rw[e1,e2,e3,hs];exact⟨rfl,rfl⟩
theorem tR(cs:List Value)(k:Int)(t:List Nat)(l:Nat)(b:Bool)(i:Nat)(w:World)(h:MX w cs k t)(hl:l<8)(hi:i<=t.length):
  Qq 31 #[.agg cs.toArray,.int .i64 l,.bool b,.int .i64 i] w (.int .i64 (Mx.be t l b i:Nat)):=by
 have HMX:=ag h;have hkn:=h.kn;have hle:=h.le;obtain⟨⟨lo,lc,zo,zc,rfl,_,_⟩,_,_,_,_⟩:=h
 obtain⟨W,hW⟩:∃W,W=w.alloc (.cells #[.int .i64 k,.int .i64 (t.length:Int),.slice lo 8 lc,.slice zo 8 zc] 27):=⟨_,rfl⟩;have bW:=ba hW
 have B1:=ag (show aa W w.heap.size [.int .i64 k,.int .i64 (t.length:Int),.slice lo 8 lc,.slice zo 8 zc] 27 by rw[hW];exact aa.new w _ _);have HB:=ag bW;have HM1:=ag (HMX.out.keep bW);clear bW HMX
 obtain⟨rb,ro,rs,rfl,hrb,hrg,hki⟩:=HM1.out.row hl;obtain⟨zb,zf,rfl,hzb,hzc⟩:=HM1.out.zero hl;obtain⟨A,hA⟩:∃A,A=kB k (t.length:Int) (aB (Mx.rw_ t l)):=⟨_,rfl⟩;rw[<-hA]at hki
 have C:=ag (sB rs A b (i:Int) W hki (by unfold aD;omega));rw[(pJ hkn hle l b hi A hA).1,(pJ hkn hle l b hi A hA).2]at C;have HL:=ag hki.arg.len;have x2:=B1.out.cell 2 rfl
 have hlz:(l:Int)<8:=by omega
 have zl:=Mx.zs_le t l;have cl:=Mx.ct_le b (Mx.rw_ t l) i;have eBe:Mx.be t l b i=(if b=true then Mx.zs t l else 0)+Sh.ct b (Mx.rw_ t l) i:=rfl;rw[eBe];generalize Sh.ct b (Mx.rw_ t l) i=n at *;have HR:=ag hrg
 have HZ:=ag hzc;generalize Mx.zs t l=z at *;rw[hW]at x2 HR;clear hki hA eBe hrg hzc;go_enter func31,ntmps31;go_wp2_with (refine aY rb (ro+l*22) rs (by rfl) rfl HR.out underlying63 HL.out ?_)
 rw[<-hW];refine C.out.mono ?_;rintro e w1 ⟨rfl,hb⟩;have HB1:=ag (bg HB.out hb);have x3:=(B1.out.kept hb).cell 3 rfl
 have z1:w1.cell? ⟨zb,zf+l,none⟩=some (.int .i64 z):=(hb.cell (p:=⟨zb,zf+l,none⟩) hzb).trans HZ.out;clear hb C HB B1 HR HZ x2 hW;cases b with
 | true=>
  go_wp2;go_ret;exact⟨rfl,HB1.out⟩
 | false=>
  go_wp2;go_ret;exact⟨by simp,HB1.out⟩
theorem Dh(cs:List Value)(k:Int)(VV:VM k)(t:List Nat)(l j:Nat)(w:World)(h:MX w cs k t)(hl:l<8)(hj:j<t.length):
  Qq 43 #[.agg cs.toArray,.int .i64 l,.bool (Mx.tb l (gt t j)),.int .i64 (Mx.pos t j (l+1):Nat)] w (.int .i64 (Mx.pos t j l:Nat)):=by
 have HMX:=ag h;have hkn:=h.kn;have hle:=h.le;obtain⟨⟨lo,lc,zo,zc,rfl,_,_⟩,_,_,_,_⟩:=h
 obtain⟨W,hW⟩:∃W,W=w.alloc (.cells #[.int .i64 k,.int .i64 (t.length:Int),.slice lo 8 lc,.slice zo 8 zc] 27):=⟨_,rfl⟩;have bW:=ba hW
 have B1:=ag (show aa W w.heap.size [.int .i64 k,.int .i64 (t.length:Int),.slice lo 8 lc,.slice zo 8 zc] 27 by rw[hW];exact aa.new w _ _);have HB:=ag bW;have HM1:=ag (HMX.out.keep bW);clear bW HMX
 obtain⟨rb,ro,rs,rfl,hrb,hrg,hki⟩:=HM1.out.row hl;obtain⟨zb,zf,rfl,hzb,hzc⟩:=HM1.out.zero hl;obtain⟨A,hA⟩:∃A,A=kB k (t.length:Int) (aB (Mx.rw_ t l)):=⟨_,rfl⟩;rw[<-hA]at hki;have hp:=Mx.pos_lt hj l
 have cl:=Mx.ct_le (Mx.tb l (gt t j)) (Mx.rw_ t l) (Mx.pos t j l)
 have C:=ag (VV.sel rs A (Mx.tb l (gt t j)) (Sh.ct (Mx.tb l (gt t j)) (Mx.rw_ t l) (Mx.pos t j l):Nat) W hki (by unfold aD;omega) (by rw[hA];exact pW hkn hle l))
 rw[(tX hkn hle l hj A hA).1,(tX hkn hle l hj A hA).2]at C;have HL:=ag hki.arg.len;have x2:=B1.out.cell 2 rfl;have x3:=B1.out.cell 3 rfl;have hlz:(l:Int)<8:=by omega
 have zl:=Mx.zs_le t l;rw[show Mx.pos t j (l+1)=(if Mx.tb l (gt t j)=true then Mx.zs t l else 0)+Sh.ct (Mx.tb l (gt t j)) (Mx.rw_ t l) (Mx.pos t j l)from rfl];generalize Mx.tb l (gt t j)=b at *
 generalize Sh.ct b (Mx.rw_ t l) (Mx.pos t j l)=n at *;generalize Mx.pos t j l=P at *;have HR:=ag hrg;generalize Mx.zs t l=z at *;rw[hW]at x2 x3 HR hzc;clear hki hA hrg;cases b with
 | true=>
  rw[if_pos rfl];have e5:((z+n:Nat):Int)-(z:Int)=(n:Int):=by omega
  obtain⟨y,hy⟩:∃y,Hid (y=z+n):=⟨_,rfl⟩;have ey:IntKind.i64.wrap ((y:Int)-(z:Int))=(n:Int):=by rw[hy.out,e5,IntKind.wrap_i64];omega
  have ey2:wrap64 ((y:Int)-(z:Int))=(n:Int):=by rw[hy.out,e5];unfold wrap64;omega
  have hyl:y<=6000:=by rw[hy.out];omega
  rw[<-hy.out];clear e5;go_enter func43,ntmps43;go_wp2_with (refine aY rb (ro+l*22) rs (by rfl) rfl HR.out underlying63 HL.out ?_);rw[<-hW];refine C.out.mono ?_;rintro e w1 ⟨rfl,hb⟩
  have HB1:=ag (bg HB.out hb);clear hb C HB B1 HR x2 x3 hzc hW ey ey2 hy;go_wp2;go_ret;exact⟨rfl,HB1.out⟩
 | false=>
  rw[if_neg (by decide),Nat.zero_add];go_enter func43,ntmps43;go_wp2_with (refine aY rb (ro+l*22) rs (by rfl) rfl HR.out underlying63 HL.out ?_);rw[<-hW];refine C.out.mono ?_;rintro e w1 ⟨rfl,hb⟩
  have HB1:=ag (bg HB.out hb);clear hb C HB B1 HR x2 x3 hzc hW;go_wp2;go_ret;exact⟨rfl,HB1.out⟩
theorem tW(cs:List Value)(k:Int)(t:List Nat)(c i:Nat)(w:World)(h:MX w cs k t)(hc:c<256)(hi:i<=t.length):
  Qq 32 #[.agg cs.toArray,.int .u8 c,.int .i64 (i:Nat)] w (.tuple #[.int .i64 (Mx.lw_ t c 8:Nat),.int .i64 (Mx.up t c i 8:Nat)]):=by
 have HMX:=ag h;have hkn:=h.kn;have hle:=h.le;obtain⟨⟨lo,lc,zo,zc,rfl,_,_⟩,_,_,_,_⟩:=h
 obtain⟨W,hW⟩:∃W,W=w.alloc (.cells #[.int .i64 k,.int .i64 (t.length:Int),.slice lo 8 lc,.slice zo 8 zc] 27):=⟨_,rfl⟩;have bW:=ba hW
 have B1:=ag (show aa W w.heap.size [.int .i64 k,.int .i64 (t.length:Int),.slice lo 8 lc,.slice zo 8 zc] 27 by rw[hW];exact aa.new w _ _);have HB:=ag bW;have HM1:=ag (HMX.out.keep bW);clear bW HMX
 have CB:Hid (∀l w0,l<8->Qx 25 #[.int .u8 c,.int .i64 (l:Nat)] w0 (.bool (Mx.tb l c))):=fun l w0 hl=>nF c l hc hl w0
 have CD:Hid (∀l b i w0,l<8->i<=t.length->MX w0 [.int .i64 k,.int .i64 (t.length:Int),.slice lo 8 lc,.slice zo 8 zc] k t->Qq 31 #[.agg #[.int .i64 k,.int .i64 (t.length:Int),.slice lo 8 lc,.slice zo 8 zc],.int .i64 (l:Nat),.bool b,.int .i64 (i:Nat)] w0 (.int .i64 (Mx.be t l b i:Nat))):=fun l b i w0 hl hi h=>tR _ k t l b i w0 h hl hi
 go_enter func32,ntmps32;go_wp2;rw[<-hW];clear hW
 go_loopw [6,7,11] (fun vs ve vi wr=>∃l:Nat,l<=8/\vi=.int .i64 l/\vs=.int .i64 (Mx.lw_ t c l:Nat)/\ve=.int .i64 (Mx.up t c i l:Nat)/\Hid (aa wr w.heap.size [.int .i64 k,.int .i64 (t.length:Int),.slice lo 8 lc,.slice zo 8 zc] 27)/\Hid (MX wr [.int .i64 k,.int .i64 (t.length:Int),.slice lo 8 lc,.slice zo 8 zc] k t)/\Hid (Below w.heap.size w wr)) (fun _ _ vi _=>8-(intOf vi).toNat)
 case atStart=>exact⟨0,Nat.zero_le _,rfl,rfl,rfl,B1,HM1,HB⟩
 case round=>
  clear B1 HM1 HB;obtain⟨l,hl,rfl,rfl,rfl,K1,HM,HB⟩:=hrel;have l1:=Mx.lw_le t c l;have l2:=Mx.up_le t c i hi l;by_cases hlt:l<8
  .have hltz:(l:Int)<8:=by omega
   have E1:Hid (Mx.lw_ t c (l+1)=Mx.be t l (Mx.tb l c) (Mx.lw_ t c l)):=rfl;have E2:Hid (Mx.up t c i (l+1)=Mx.be t l (Mx.tb l c) (Mx.up t c i l)):=rfl;generalize Mx.lw_ t c l=s at *
   generalize Mx.up t c i l=u at *;have CBl:=ag (CB.out l wr hlt);obtain⟨bb,hbb⟩:∃bb,Hid (bb=Mx.tb l c):=⟨_,rfl⟩;rw[<-hbb.out]at CBl E1 E2;go_wp2_with fail;refine CBl.out.mono ?_;rintro e w2 ⟨rfl,h2⟩;rw[h2]
   clear h2 CBl hbb CB;have C1:=ag (fun w0 h=>CD.out l bb s w0 hlt l1 h);have C2:=ag (fun w0 h=>CD.out l bb u w0 hlt l2 h);rw[<-E1.out]at C1;rw[<-E2.out]at C2;clear CD E1 E2
   obtain⟨s',HS1⟩:∃s',Hid (s'=Mx.lw_ t c (l+1)):=⟨_,rfl⟩;obtain⟨u',HS2⟩:∃u',Hid (u'=Mx.up t c i (l+1)):=⟨_,rfl⟩;rw[<-HS1.out]at C1;rw[<-HS2.out]at C2;go_wp2
   refine bn [] (fun w'=>aa w' w.heap.size [.int .i64 k,.int .i64 (t.length:Int),.slice lo 8 lc,.slice zo 8 zc] 27/\MX w' [.int .i64 k,.int .i64 (t.length:Int),.slice lo 8 lc,.slice zo 8 zc] k t/\Below w.heap.size w w') (by kernel_rfl) ?_
   have hS:(fun w'=>aa w' w.heap.size [.int .i64 k,.int .i64 (t.length:Int),.slice lo 8 lc,.slice zo 8 zc] 27/\MX w' [.int .i64 k,.int .i64 (t.length:Int),.slice lo 8 lc,.slice zo 8 zc] k t/\Below w.heap.size w w') wr.drew:=⟨K1.out.drew,HM.out.keep ((Below.refl _ _).drew),HB.out.drew⟩
   clear K1 HM HB;generalize wr.drew=V at *
   refine aF 0 hS rfl (fun w0 h0=>by have y0:=h0.1.cell 0 rfl;have y1:=h0.1.cell 1 rfl;have y2:=h0.1.cell 2 rfl;have y3:=h0.1.cell 3 rfl;go_simp;try with_reducible rfl) ?_;refine aK 1 hS ?_
   refine aK 2 hS ?_;refine aK 3 hS ?_
   refine aF 5 hS rfl (fun w0 h0=>by have y0:=h0.1.cell 0 rfl;have y1:=h0.1.cell 1 rfl;have y2:=h0.1.cell 2 rfl;have y3:=h0.1.cell 3 rfl;go_simp;try with_reducible rfl) ?_;refine aK 6 hS ?_
   refine aK 7 hS ?_;refine aK 8 hS ?_;refine aO 4 ?_;intro K hK;go_simp;refine mr (C1.out _ hS.2.1) fun w3 hb=>?_
   replace hS:=And.intro (hS.1.kept hb) (And.intro (hS.2.1.keep hb) (hS.2.2.trans (hb.mono hS.2.2.size)));clear hb;refine hK.out _ _ (fun _=>hS) ?_;clear hK K;try simp only[Act.put,aw,ar,an,ah,aj,ai]
   refine aO 9 ?_;intro K hK;go_simp;refine mr (C2.out _ hS.2.1) fun w4 hb=>?_;replace hS:=And.intro (hS.1.kept hb) (And.intro (hS.2.1.keep hb) (hS.2.2.trans (hb.mono hS.2.2.size)));clear hb
   refine hK.out _ _ (fun _=>hS) ?_;clear hK K;try simp only[Act.put,aw,ar,an,ah,aj,ai]
   refine aK 10 hS ?_;refine aK 11 hS ?_;refine az.done (by kernel_rfl) ?_ _;have K1:=ag hS.1;have HM:=ag hS.2.1;have HB:=ag hS.2.2;clear hS C1 C2;go_wp2
   exact⟨⟨l+1,by omega,by go_num,by rw[HS1.out],by rw[HS2.out],K1,HM,HB⟩,by simp only[intOf];omega⟩
  .obtain rfl:l=8:=by omega
   go_wp2;go_ret2;exact⟨rfl,HB.out⟩
structure MR where
 K:Int
 N:Int
 av:List RA
 zs:List Int
def bp(x:MR)(l:Nat):RA:=x.av.getD l ra0
structure MI (w:World) (lo:Option Addr) (lc:Nat) (zo:Option Addr) (zc:Nat) (x:MR):Prop where
 k:aD x.K
 n:aD x.N
 l:Lv w lo x.av
 z:Nd w zo x.zs
 lm:x.av.length<=1048576
 zm:x.zs.length<=1048576
 gv:GV w
theorem MI.keep{w w':World}{lo:Option Addr}{lc:Nat}{zo:Option Addr}{zc:Nat}{x:MR}(h:MI w lo lc zo zc x)(hb:Below w.heap.size w w'):MI w' lo lc zo zc x:=⟨h.k,h.n,h.l.keep hb,h.z.keep hb,h.lm,h.zm,h.gv.keep hb⟩
def gj(x:MR)(l:Nat):Bool:=decide (grE (aQ (bp x l)) (kBN (bp x l)) x.N=0)&&(decide (grN (aQ (bp x l)) (kBN (bp x l)) (aR (bp x l)) false x.N=gi x.zs l)&&(decide ((bp x l).K=x.K)&&decide (kBN (bp x l)=x.N)))
def mOk(x:MR):Bool:=decide (x.N<=8192)&&(decide (x.av.length=8)&&(decide (x.zs.length=8)&&(List.range 8).all (gj x)))
theorem nH{x:MR}(l:Nat)(hl:l<8)(h:gj x l=false):mOk x=false:=by
 refine Bool.eq_false_iff.2 fun e=>?_;unfold mOk at e;simp only[Bool.and_eq_true,List.all_eq_true]at e;rw[e.2.2.2 l (List.mem_range.2 hl)]at h;cases h
theorem tZ{x:MR}(h1:x.N<=8192)(h2:x.av.length=8)(h3:x.zs.length=8)(h:∀l,l<8->gj x l=true):mOk x=true:=by
 unfold mOk;simp only[Bool.and_eq_true,decide_eq_true_eq,List.all_eq_true];exact⟨h1,h2,h3,fun l hl=>h l (List.mem_range.1 hl)⟩
theorem pL{x:MR}(h:mOk x=true):x.N<=8192/\x.av.length=8/\x.zs.length=8/\∀l,l<8->gj x l=true:=by
 unfold mOk at h;simp only[Bool.and_eq_true,decide_eq_true_eq,List.all_eq_true]at h;exact⟨h.1,h.2.1,h.2.2.1,fun l hl=>h.2.2.2 l (List.mem_range.2 hl)⟩
theorem rX{T:TypeId}{w:World}{x:Operand}{ρ:Operand->Value}{d:Option Tmp}{ty:TypeId}{ps:String}{af:Array Edge}{gd:Option (Nat×Bool)}
  (g o:Nat) (cs:List Value) {fs:Array Field} (hx:ρ x=.pointer (some ⟨g,o,none⟩)) (hc:w.rangeAt g o cs) (hu:prog.underlying T=some (.struct fs)) (hi:(prog.info? T).map (·.size)=some cs.length):
  (execOp ρ (⟨d,.load T x,ty,ps,af,gd⟩:Oper)).run prog w=.ok (.value (.agg cs.toArray)) w:=by
 have hl:=run_loadVar_mid (P:=prog) w g o T cs _ hc hu rfl hi;unfold execOp;simp only[hx,Instr.loadAt,Instr.sureAddr,Sem.run_bind,Sem.run_pure,Result.andThen_ok,hl]
theorem p_{w w0:World}{b off:Nat}{l:List Int}(h:∀i,i<l.length->w.cell? ⟨b,off+i,none⟩=some (.int .i64 (gi l i)))(hb:Below w.heap.size w w0)(hl:b<w.heap.size)(q:Nat)(hq:q<l.length):w0.cell? ⟨b,off+q,none⟩=some (.int .i64 (gi l q)):=(hb.cell (p:=⟨b,off+q,none⟩) hl).trans (h q hq)
theorem Ed(a:RA)(ok:aQ a=true):aD (kBN a):=by
 obtain⟨h0,h1⟩:=bj _ _ (jY a ok);unfold aD;omega
theorem pG(lo:Option Addr)(lc:Nat)(zo:Option Addr)(zc:Nat)(x:MR)(w:World)(h:MI w lo lc zo zc x):
  Qq 20 #[.agg #[.int .i64 x.K,.int .i64 x.N,.slice lo x.av.length lc,.slice zo x.zs.length zc]] w (.bool (mOk x)):=by
 obtain⟨Z,hZ⟩:∃Z,Hid (Z=mOk x):=⟨_,rfl⟩;rw[<-hZ.out];have HI:=ag h;obtain⟨K,hK⟩:∃K,Hid (K=x.K):=⟨_,rfl⟩;obtain⟨N,hN⟩:∃N,Hid (N=x.N):=⟨_,rfl⟩
 obtain⟨m,hm⟩:∃m,Hid (m=x.av.length):=⟨_,rfl⟩;obtain⟨z,hz⟩:∃z,Hid (z=x.zs.length):=⟨_,rfl⟩;rw[<-hK.out,<-hN.out,<-hm.out,<-hz.out]
 obtain⟨W,hW⟩:∃W,W=w.alloc (.cells #[.int .i64 K,.int .i64 N,.slice lo m lc,.slice zo z zc] 27):=⟨_,rfl⟩;have bW:=ba hW
 have B1:=ag (show aa W w.heap.size [.int .i64 K,.int .i64 N,.slice lo m lc,.slice zo z zc] 27 by rw[hW];exact aa.new w _ _);have HB:=ag bW;by_cases q1:N<=8192;rotate_left
 .have E:Hid (Z=false):=by
   show Z=_;rw[hZ.out];unfold mOk;rw[decide_eq_false (by rw[<-hN.out];exact q1)];rfl
  have q2:(8192:Int)<N:=by omega
  clear h bW;go_enter func20,ntmps20;go_wp2;go_ret;rw[E.out,<-hW];exact⟨rfl,HB.out⟩
 have q1':¬(8192:Int)<N:=by omega
 by_cases q2:m=8;rotate_left
 .have E:Hid (Z=false):=by
   show Z=_;rw[hZ.out];unfold mOk;rw[show decide (x.av.length=8)=false from decide_eq_false (by rw[<-hm.out];exact q2)];simp
  have q3:((m:Int) != 8)=true:=by simp;omega
  clear h bW;go_enter func20,ntmps20;go_wp2;go_ret;rw[E.out,<-hW];exact⟨rfl,HB.out⟩
 subst q2;by_cases q2:z=8;rotate_left
 .have E:Hid (Z=false):=by
   show Z=_;rw[hZ.out];unfold mOk;rw[show decide (x.zs.length=8)=false from decide_eq_false (by rw[<-hz.out];exact q2)];simp
  have q3:((z:Int) != 8)=true:=by simp;omega
  clear h bW;go_enter func20,ntmps20;go_wp2;go_ret;rw[E.out,<-hW];exact⟨rfl,HB.out⟩
 subst q2;have hk:=h.k;have hn:=h.n;rw[<-hK.out]at hk;rw[<-hN.out]at hn;obtain⟨b,off,rfl,hbl,hrows⟩:=h.l (by rw[<-hm.out];decide);obtain⟨b2,off2,rfl,hbl2,hzer⟩:=h.z (by rw[<-hz.out];decide)
 have HR:=ag hrows;have HZr:=ag hzer;clear hrows hzer h bW;go_enter func20,ntmps20;go_wp2;rw[<-hW];clear hW
 go_loopw [25] (fun s wr=>∃q:Nat,q<=8/\s=.int .i64 q/\Hid (∀l,l<q->gj x l=true)/\Hid (aa wr w.heap.size [.int .i64 K,.int .i64 N,.slice (some ⟨b,off,none⟩) 8 lc,.slice (some ⟨b2,off2,none⟩) 8 zc] 27)/\Hid (Below w.heap.size w wr)) (fun s _=>8-(intOf s).toNat)
 case atStart=>exact⟨0,Nat.zero_le _,rfl,fun l hl=>absurd hl (by omega),B1,HB⟩
 case round=>
  clear B1 HB;obtain⟨q,hq,rfl,HA,K1,HB⟩:=hrel;by_cases hi:q<8
  .have hi2:(q:Int)<8:=by omega
   obtain⟨cs,hr0,hk0⟩:=HR.out q (by rw[<-hm.out];exact hi);have HRg:=ag (ku hr0 HB.out hbl);have hh0:=hk0.arg.head;have HL:=ag hk0.arg.len;have H1:=ag hk0.arg.one
   have H22:=ag (kR.trans hk0.arg.nine);obtain⟨A,hA⟩:∃A,Hid (A=bp x q):=⟨_,rfl⟩;have hk0':KI w cs A:=by rw[hA.out];exact hk0
   have hhA:cs[0]?=some (.int .i64 A.K):=by rw[hA.out];exact hh0
   have HH:=ag hhA;have hAK:aD A.K:=by obtain⟨_,_,_,_,g,_⟩:=hk0'.arg;exact g
   have C:Hid (Qz w 44 #[.agg cs.toArray,.bool false,.int .i64 N] (.tuple #[.int .i64 (grN (aQ A) (kBN A) (aR A) false N),.int .i64 (grE (aQ A) (kBN A) N)])):=fun w0 h=>sB cs A false N w0 (hk0'.keep h) hn
   have L0:=ag (fun(ok:aQ A=true) (w0:World) (h:Below w.heap.size w w0)=>Cp cs A w0 (hk0'.keep h) ok);have zc1:=p_ HZr.out HB.out hbl2 q (by rw[<-hz.out];exact hi)
   have eL:Hid (gj x q=(decide (grE (aQ A) (kBN A) N=0)&&(decide (grN (aQ A) (kBN A) (aR A) false N=gi x.zs q)&&(decide (A.K=K)&&decide (kBN A=N))))):=by show gj x q=_;unfold gj;rw[<-hA.out,<-hK.out,<-hN.out]
   have kN:aQ A=true->aD (kBN A):=fun ok=>Ed A ok;clear hk0 hk0' hr0 hhA hA hh0;generalize A.K=AK at *;have zz:=HB.out.size;have lz:=K1.out.lt;have x2:=K1.out.cell 2 rfl
   go_wp2_with (first | refine aY b (off+q*22) cs (by rfl) rfl HRg.out underlying63 HL.out ?_ | refine oF mp ?_);intro w1 c1 b1 s1;try simp only[Act.put,ah,List.set]
   have HB1:=ag b1;clear b1;go_wp2_with (refine aJ wr.heap.size zv cs rfl rfl c1 H22.out HL.out H1.out ?_);intro w2 c2 o2;try simp only[Act.put,ah,List.set]
   have K2:=ag (o2.cel (K1.out.kept HB1.out) (by omega));have HB2:=ag ((HB.out.trans (HB1.out.mono zz)).trans (o2.below zz));have C2h:=ag c2;have Z2:=p_ HZr.out HB2.out hbl2 q (by rw[<-hz.out];exact hi)
   have x1:=K2.out.cell 1 rfl;have c20:=c2.cell 0 HH.out;clear HRg c1 HB1 s1 o2 HB K1 x2 zc1;go_wp2_with (refine fe wr.heap.size cs rfl c2 underlying63 HL.out ?_);refine mr (C.out _ HB2.out) fun w3 hb3=>?_;have K3:=ag (K2.out.kept hb3);have C3h:=ag (C2h.out.kept hb3);have HB3:=ag (bg HB2.out hb3);have g3:=hb3.size;clear hb3 K2 C2h HB2 c2 c20 x1 Z2 C
   obtain⟨EE,hEE⟩:∃EE,Hid (EE=grE (aQ A) (kBN A) N):=⟨_,rfl⟩;obtain⟨NN,hNN⟩:∃NN,Hid (NN=grN (aQ A) (kBN A) (aR A) false N):=⟨_,rfl⟩;rw[<-hEE.out,<-hNN.out]at eL⊢
   obtain⟨zq,hzq⟩:∃zq,Hid (zq=gi x.zs q):=⟨_,rfl⟩;rw[<-hzq.out]at eL
   have HZq:Hid (∀w0,Below w.heap.size w w0->w0.cell? ⟨b2,off2+q,none⟩=some (.int .i64 zq)):=fun w0 hb=>by rw[hzq.out];exact p_ HZr.out hb hbl2 q (by rw[<-hz.out];exact hi)
   by_cases d1:EE=0;rotate_left
   .have d12:(EE != 0)=true:=by simp[d1]
    have E:Hid (Z=false):=by
     show Z=_;rw[hZ.out];refine nH q hi ?_;rw[eL.out,decide_eq_false d1];simp
    clear eL L0;go_wp2
    refine bn [] (fun w'=>aa w' wr.heap.size cs 63/\aa w' w.heap.size [.int .i64 K,.int .i64 N,.slice (some ⟨b,off,none⟩) 8 lc,.slice (some ⟨b2,off2,none⟩) 8 zc] 27/\Below w.heap.size w w') (by kernel_rfl) ?_
    have hS:(fun w'=>aa w' wr.heap.size cs 63/\aa w' w.heap.size [.int .i64 K,.int .i64 N,.slice (some ⟨b,off,none⟩) 8 lc,.slice (some ⟨b2,off2,none⟩) 8 zc] 27/\Below w.heap.size w w') w3.drew:=⟨C3h.out.drew,K3.out.drew,HB3.out.drew⟩
    clear C3h K3 HB3;generalize w3.drew=V at *;refine aK 0 hS ?_;refine aK 1 hS ?_;refine aK 2 hS ?_;refine aS 3 hS ?_;refine aS 4 hS ?_;refine aS 5 hS ?_;refine aS 6 hS ?_
    refine aS 7 hS ?_;refine aS 8 hS ?_;refine aS 9 hS ?_;refine aK 10 hS ?_;refine aK 11 hS ?_;refine aS 12 hS ?_;refine aS 13 hS ?_;refine aS 14 hS ?_;refine aS 15 hS ?_
    refine aS 16 hS ?_;refine aK 17 hS ?_;refine aK 18 hS ?_;refine aS 19 hS ?_;refine aS 20 hS ?_;refine aS 21 hS ?_;refine aS 22 hS ?_;refine aS 23 hS ?_;refine aK 24 hS ?_
    refine az.done (by kernel_rfl) ?_ _;have HBz:=ag hS.2.2;clear hS;go_wp2;go_ret;rw[E.out];exact⟨rfl,HBz.out⟩
   subst d1
   have ok:aQ A=true:=by
    have:=hEE.out;cases o:aQ A with
    | true=>rfl
    | false=>unfold grE at this;rw[o]at this;simp at this
   have L:=ag (L0.out ok);have kN2:=kN ok;clear hEE kN;by_cases d2:NN=zq;rotate_left
   .have d22:(NN != zq)=true:=by simp[d2]
    have E:Hid (Z=false):=by
     show Z=_;rw[hZ.out];refine nH q hi ?_;rw[eL.out,decide_eq_false d2];simp
    clear eL L0;go_wp2
    refine bn [] (fun w'=>aa w' wr.heap.size cs 63/\aa w' w.heap.size [.int .i64 K,.int .i64 N,.slice (some ⟨b,off,none⟩) 8 lc,.slice (some ⟨b2,off2,none⟩) 8 zc] 27/\Below w.heap.size w w') (by kernel_rfl) ?_
    have hS:(fun w'=>aa w' wr.heap.size cs 63/\aa w' w.heap.size [.int .i64 K,.int .i64 N,.slice (some ⟨b,off,none⟩) 8 lc,.slice (some ⟨b2,off2,none⟩) 8 zc] 27/\Below w.heap.size w w') w3.drew:=⟨C3h.out.drew,K3.out.drew,HB3.out.drew⟩
    clear C3h K3 HB3;generalize w3.drew=V at *;refine aK 0 hS ?_;refine aK 1 hS ?_;refine aK 2 hS ?_;refine aK 3 hS ?_;refine aK 4 hS ?_
    refine aF 5 hS rfl (fun w0 h0=>by have y0:=h0.2.1.cell 0 rfl;have y1:=h0.2.1.cell 1 rfl;have y3:=h0.2.1.cell 3 rfl;have zq1:=HZq.out w0 h0.2.2;have c0:=h0.1.cell 0 HH.out;go_simp;try with_reducible rfl) ?_
    refine aK 6 hS ?_;refine aK 7 hS ?_
    refine aF 8 hS rfl (fun w0 h0=>by have y0:=h0.2.1.cell 0 rfl;have y1:=h0.2.1.cell 1 rfl;have y3:=h0.2.1.cell 3 rfl;have zq1:=HZq.out w0 h0.2.2;have c0:=h0.1.cell 0 HH.out;go_simp;try with_reducible rfl) ?_
    refine aK 9 hS ?_;refine aK 10 hS ?_;refine aK 11 hS ?_;refine aS 12 hS ?_;refine aS 13 hS ?_;refine aS 14 hS ?_;refine aS 15 hS ?_;refine aS 16 hS ?_;refine aK 17 hS ?_
    refine aK 18 hS ?_;refine aS 19 hS ?_;refine aS 20 hS ?_;refine aS 21 hS ?_;refine aS 22 hS ?_;refine aS 23 hS ?_;refine aK 24 hS ?_;refine az.done (by kernel_rfl) ?_ _
    have HBz:=ag hS.2.2;clear hS;go_wp2;go_ret;rw[E.out];exact⟨rfl,HBz.out⟩
   subst d2;by_cases d3:AK=K;rotate_left
   .have d32:(AK != K)=true:=by simp[d3]
    have E:Hid (Z=false):=by
     show Z=_;rw[hZ.out];refine nH q hi ?_;rw[eL.out,decide_eq_false d3];simp
    clear eL L0;go_wp2
    refine bn [] (fun w'=>aa w' wr.heap.size cs 63/\aa w' w.heap.size [.int .i64 K,.int .i64 N,.slice (some ⟨b,off,none⟩) 8 lc,.slice (some ⟨b2,off2,none⟩) 8 zc] 27/\Below w.heap.size w w') (by kernel_rfl) ?_
    have hS:(fun w'=>aa w' wr.heap.size cs 63/\aa w' w.heap.size [.int .i64 K,.int .i64 N,.slice (some ⟨b,off,none⟩) 8 lc,.slice (some ⟨b2,off2,none⟩) 8 zc] 27/\Below w.heap.size w w') w3.drew:=⟨C3h.out.drew,K3.out.drew,HB3.out.drew⟩
    clear C3h K3 HB3;generalize w3.drew=V at *;refine aK 0 hS ?_;refine aK 1 hS ?_;refine aK 2 hS ?_;refine aK 3 hS ?_;refine aK 4 hS ?_
    refine aF 5 hS rfl (fun w0 h0=>by have y0:=h0.2.1.cell 0 rfl;have y1:=h0.2.1.cell 1 rfl;have y3:=h0.2.1.cell 3 rfl;have zq1:=HZq.out w0 h0.2.2;have c0:=h0.1.cell 0 HH.out;go_simp;try with_reducible rfl) ?_
    refine aK 6 hS ?_;refine aK 7 hS ?_
    refine aF 8 hS rfl (fun w0 h0=>by have y0:=h0.2.1.cell 0 rfl;have y1:=h0.2.1.cell 1 rfl;have y3:=h0.2.1.cell 3 rfl;have zq1:=HZq.out w0 h0.2.2;have c0:=h0.1.cell 0 HH.out;go_simp;try with_reducible rfl) ?_
    refine aK 9 hS ?_;refine aK 10 hS ?_;refine aK 11 hS ?_;refine aK 12 hS ?_
    refine aF 13 hS rfl (fun w0 h0=>by have y0:=h0.2.1.cell 0 rfl;have y1:=h0.2.1.cell 1 rfl;have y3:=h0.2.1.cell 3 rfl;have zq1:=HZq.out w0 h0.2.2;have c0:=h0.1.cell 0 HH.out;go_simp;try with_reducible rfl) ?_
    refine aK 14 hS ?_
    refine aF 15 hS rfl (fun w0 h0=>by have y0:=h0.2.1.cell 0 rfl;have y1:=h0.2.1.cell 1 rfl;have y3:=h0.2.1.cell 3 rfl;have zq1:=HZq.out w0 h0.2.2;have c0:=h0.1.cell 0 HH.out;go_simp;try with_reducible rfl) ?_
    refine aK 16 hS ?_;refine aK 17 hS ?_;refine aK 18 hS ?_;refine aS 19 hS ?_;refine aS 20 hS ?_;refine aS 21 hS ?_;refine aS 22 hS ?_;refine aS 23 hS ?_;refine aK 24 hS ?_
    refine az.done (by kernel_rfl) ?_ _;have HBz:=ag hS.2.2;clear hS;go_wp2;go_ret;rw[E.out];exact⟨rfl,HBz.out⟩
   have d3':=d3.symm;subst d3';generalize kBN A=M at *;by_cases d4:M=N
   .have d4':=d4.symm;subst d4';have E:Hid (gj x q=true):=by show gj x q=true;rw[eL.out];simp
    clear eL L0;go_wp2
    refine bn [] (fun w'=>aa w' wr.heap.size cs 63/\aa w' w.heap.size [.int .i64 K,.int .i64 N,.slice (some ⟨b,off,none⟩) 8 lc,.slice (some ⟨b2,off2,none⟩) 8 zc] 27/\Below w.heap.size w w') (by kernel_rfl) ?_
    have hS:(fun w'=>aa w' wr.heap.size cs 63/\aa w' w.heap.size [.int .i64 K,.int .i64 N,.slice (some ⟨b,off,none⟩) 8 lc,.slice (some ⟨b2,off2,none⟩) 8 zc] 27/\Below w.heap.size w w') w3.drew:=⟨C3h.out.drew,K3.out.drew,HB3.out.drew⟩
    clear C3h K3 HB3;generalize w3.drew=V at *;refine aK 0 hS ?_;refine aK 1 hS ?_;refine aK 2 hS ?_;refine aK 3 hS ?_;refine aK 4 hS ?_
    refine aF 5 hS rfl (fun w0 h0=>by have y0:=h0.2.1.cell 0 rfl;have y1:=h0.2.1.cell 1 rfl;have y3:=h0.2.1.cell 3 rfl;have zq1:=HZq.out w0 h0.2.2;have c0:=h0.1.cell 0 HH.out;go_simp;try with_reducible rfl) ?_
    refine aK 6 hS ?_;refine aK 7 hS ?_
    refine aF 8 hS rfl (fun w0 h0=>by have y0:=h0.2.1.cell 0 rfl;have y1:=h0.2.1.cell 1 rfl;have y3:=h0.2.1.cell 3 rfl;have zq1:=HZq.out w0 h0.2.2;have c0:=h0.1.cell 0 HH.out;go_simp;try with_reducible rfl) ?_
    refine aK 9 hS ?_;refine aK 10 hS ?_;refine aK 11 hS ?_;refine aK 12 hS ?_
    refine aF 13 hS rfl (fun w0 h0=>by have y0:=h0.2.1.cell 0 rfl;have y1:=h0.2.1.cell 1 rfl;have y3:=h0.2.1.cell 3 rfl;have zq1:=HZq.out w0 h0.2.2;have c0:=h0.1.cell 0 HH.out;go_simp;try with_reducible rfl) ?_
    refine aK 14 hS ?_
    refine aF 15 hS rfl (fun w0 h0=>by have y0:=h0.2.1.cell 0 rfl;have y1:=h0.2.1.cell 1 rfl;have y3:=h0.2.1.cell 3 rfl;have zq1:=HZq.out w0 h0.2.2;have c0:=h0.1.cell 0 HH.out;go_simp;try with_reducible rfl) ?_
    refine aK 16 hS ?_;refine aK 17 hS ?_;refine aK 18 hS ?_
    refine az.take 19 (v:=.agg (cs).toArray) rfl (by kernel_rfl) (by kernel_rfl) (by kernel_rfl) (by kernel_rfl) (fun _ _ _ h=>h) hS (fun w0 h0=>km wr.heap.size _ rfl h0.1 underlying63 HL.out) (by rfl) ?rest63
    simp only[Act.put,aw,ar,an,ah,aj,ai];refine aK 21 hS ?_
    refine aF 22 hS rfl (fun w0 h0=>by have y0:=h0.2.1.cell 0 rfl;have y1:=h0.2.1.cell 1 rfl;have y3:=h0.2.1.cell 3 rfl;have zq1:=HZq.out w0 h0.2.2;have c0:=h0.1.cell 0 HH.out;go_simp;try with_reducible rfl) ?_
    refine aO 20 ?_;intro K hK;go_simp;refine mr (L.out _ hS.2.2) fun w4 hb=>?_;replace hS:=And.intro (hS.1.kept hb) (And.intro (hS.2.1.kept hb) (hS.2.2.trans (hb.mono hS.2.2.size)));clear hb
    refine hK.out _ _ (fun _=>hS) ?_;clear hK K;try simp only[Act.put,aw,ar,an,ah,aj,ai]
    refine aK 23 hS ?_;refine aK 24 hS ?_;refine az.done (by kernel_rfl) ?_ _;have K1:=ag hS.2.1;have HB:=ag hS.2.2;clear hS;go_wp2
    refine⟨⟨q+1,by omega,by go_num,?_,K1,HB⟩,by simp only[intOf];omega⟩;intro l hl;by_cases e:l=q
    .subst e;exact E.out
    .exact HA.out l (by omega)
   .have d42:(M != N)=true:=by simp[d4]
    have E:Hid (Z=false):=by
     show Z=_;rw[hZ.out];refine nH q hi ?_;rw[eL.out,decide_eq_false d4];simp
    clear eL L0;go_wp2
    refine bn [] (fun w'=>aa w' wr.heap.size cs 63/\aa w' w.heap.size [.int .i64 K,.int .i64 N,.slice (some ⟨b,off,none⟩) 8 lc,.slice (some ⟨b2,off2,none⟩) 8 zc] 27/\Below w.heap.size w w') (by kernel_rfl) ?_
    have hS:(fun w'=>aa w' wr.heap.size cs 63/\aa w' w.heap.size [.int .i64 K,.int .i64 N,.slice (some ⟨b,off,none⟩) 8 lc,.slice (some ⟨b2,off2,none⟩) 8 zc] 27/\Below w.heap.size w w') w3.drew:=⟨C3h.out.drew,K3.out.drew,HB3.out.drew⟩
    clear C3h K3 HB3;generalize w3.drew=V at *;refine aK 0 hS ?_;refine aK 1 hS ?_;refine aK 2 hS ?_;refine aK 3 hS ?_;refine aK 4 hS ?_
    refine aF 5 hS rfl (fun w0 h0=>by have y0:=h0.2.1.cell 0 rfl;have y1:=h0.2.1.cell 1 rfl;have y3:=h0.2.1.cell 3 rfl;have zq1:=HZq.out w0 h0.2.2;have c0:=h0.1.cell 0 HH.out;go_simp;try with_reducible rfl) ?_
    refine aK 6 hS ?_;refine aK 7 hS ?_
    refine aF 8 hS rfl (fun w0 h0=>by have y0:=h0.2.1.cell 0 rfl;have y1:=h0.2.1.cell 1 rfl;have y3:=h0.2.1.cell 3 rfl;have zq1:=HZq.out w0 h0.2.2;have c0:=h0.1.cell 0 HH.out;go_simp;try with_reducible rfl) ?_
    refine aK 9 hS ?_;refine aK 10 hS ?_;refine aK 11 hS ?_;refine aK 12 hS ?_
    refine aF 13 hS rfl (fun w0 h0=>by have y0:=h0.2.1.cell 0 rfl;have y1:=h0.2.1.cell 1 rfl;have y3:=h0.2.1.cell 3 rfl;have zq1:=HZq.out w0 h0.2.2;have c0:=h0.1.cell 0 HH.out;go_simp;try with_reducible rfl) ?_
    refine aK 14 hS ?_
    refine aF 15 hS rfl (fun w0 h0=>by have y0:=h0.2.1.cell 0 rfl;have y1:=h0.2.1.cell 1 rfl;have y3:=h0.2.1.cell 3 rfl;have zq1:=HZq.out w0 h0.2.2;have c0:=h0.1.cell 0 HH.out;go_simp;try with_reducible rfl) ?_
    refine aK 16 hS ?_;refine aK 17 hS ?_;refine aK 18 hS ?_
    refine az.take 19 (v:=.agg (cs).toArray) rfl (by kernel_rfl) (by kernel_rfl) (by kernel_rfl) (by kernel_rfl) (fun _ _ _ h=>h) hS (fun w0 h0=>km wr.heap.size _ rfl h0.1 underlying63 HL.out) (by rfl) ?rest87
    simp only[Act.put,aw,ar,an,ah,aj,ai];refine aK 21 hS ?_
    refine aF 22 hS rfl (fun w0 h0=>by have y0:=h0.2.1.cell 0 rfl;have y1:=h0.2.1.cell 1 rfl;have y3:=h0.2.1.cell 3 rfl;have zq1:=HZq.out w0 h0.2.2;have c0:=h0.1.cell 0 HH.out;go_simp;try with_reducible rfl) ?_
    refine aO 20 ?_;intro K hK;go_simp;refine mr (L.out _ hS.2.2) fun w4 hb=>?_;replace hS:=And.intro (hS.1.kept hb) (And.intro (hS.2.1.kept hb) (hS.2.2.trans (hb.mono hS.2.2.size)));clear hb
    refine hK.out _ _ (fun _=>hS) ?_;clear hK K;try simp only[Act.put,aw,ar,an,ah,aj,ai]
    refine aK 23 hS ?_;refine aK 24 hS ?_;refine az.done (by kernel_rfl) ?_ _;have HBz:=ag hS.2.2;clear hS;go_wp2;go_ret;rw[E.out];exact⟨rfl,HBz.out⟩
  .obtain rfl:q=8:=by omega
   have E:Hid (Z=true):=by
    show Z=_;rw[hZ.out];exact tZ (by rw[<-hN.out];exact q1) hm.out.symm hz.out.symm HA.out
   go_wp2;go_ret;rw[E.out];exact⟨rfl,HB.out⟩
def mRx(k:Int)(t:List Nat):MR:=⟨k,(t.length:Int),mA k t,mI (mZ t)⟩
theorem lB{t:List Nat}(hn:t.length<=3000)(l:Nat):am (t.length:Int) (aB (Mx.rw_ t l))=true:=by
 have:=fB (Mx.rw_ t l).length (bt (Mx.rw_ t l)) (by rw[Mx.length_rw];omega);rw[Mx.length_rw]at this;unfold aB;rw[Mx.length_rw];exact this
theorem pD{k:Int}(hk:1<=k/\k<=3){t:List Nat}(hn:t.length<=3000):mOk (mRx k t)=true:=by
 refine tZ (by show(t.length:Int)<=8192;omega) (fK k t) (by show(mI (mZ t)).length=8;rw[dh,gn]) fun l hl=>?_;have e:bp (mRx k t) l=kB k (t.length:Int) (aB (Mx.rw_ t l)):=kK k t hl
 have r:=pJ hk hn l false (Nat.le_refl _) (bp (mRx k t) l) e;have eK:(bp (mRx k t) l).K=k:=by rw[e];exact un k _ _ (mh k _ _ hk.1 hk.2 (lB hn l))
 have eN:kBN (bp (mRx k t) l)=(t.length:Int):=by rw[e];exact(jZ hk hn l).2.1
 have eZ:gi (mRx k t).zs l=(Mx.zs t l:Int):=by
  show gi (mI (mZ t)) l=_;rw[ip _ _ (by rw[gn];exact hl),pK t hl]
 unfold gj;rw[eZ,eK,eN]
 show(decide (grE (aQ (bp (mRx k t) l)) (t.length:Int) (t.length:Int)=0)&&(decide (grN (aQ (bp (mRx k t) l)) (t.length:Int) (aR (bp (mRx k t) l)) false (t.length:Int)=(Mx.zs t l:Int))&&(decide (k=k)&&decide ((t.length:Int)=(t.length:Int)))))=true
 rw[eN]at r;rw[r.1,r.2];unfold Mx.zs;rw[Mx.length_rw];simp
theorem MX.mi{w:World}{k:Int}{t:List Nat}{lo:Option Addr}{lc:Nat}{zo:Option Addr}{zc:Nat}(h:MX w [.int .i64 k,.int .i64 (t.length:Int),.slice lo 8 lc,.slice zo 8 zc] k t):MI w lo lc zo zc (mRx k t):=by
 have h0:=h;obtain⟨⟨lo',lc',zo',zc',e,h1,h2⟩,hk,hn,hB,G⟩:=h;simp only[List.cons.injEq,Value.slice.injEq,true_and,and_true]at e;obtain⟨⟨rfl,rfl⟩,rfl,rfl⟩:=e;refine⟨?_,?_,h1,h2,?_,?_,G⟩
 .show aD k;unfold aD;omega
 .show aD (t.length:Int);unfold aD;omega
 .show(mA k t).length<=_;rw[fK];omega
 .show(mI (mZ t)).length<=_;rw[dh,gn];omega
theorem MX.check{w:World}{cs:List Value}{k:Int}{t:List Nat}(h:MX w cs k t):Qq 20 #[.agg cs.toArray] w (.bool true):=by
 have h0:=h;obtain⟨⟨lo,lc,zo,zc,rfl,h1,h2⟩,hk,hn,hB,G⟩:=h;have:=pG lo lc zo zc (mRx k t) w h0.mi;rw[pD hk hn]at this;have e1:(mRx k t).av.length=8:=fK k t
 have e2:(mRx k t).zs.length=8:=by show(mI (mZ t)).length=8;rw[dh,gn]
 rw[e1,e2]at this;exact this
theorem Bh:∀a b:Fin 256,bits .or .u8 (a.val:Int) (b.val:Int)=((a.val|||b.val:Nat):Int):=by decide +kernel
theorem pj(a b:Nat)(ha:a<256)(hb:b<256):bits .or .u8 (a:Int) (b:Int)=((a|||b:Nat):Int):=Bh ⟨a,ha⟩ ⟨b,hb⟩
theorem Ch(cs:List Value)(k:Int)(t:List Nat)(c:Nat)(i:Int)(w:World)(h:MX w cs k t)(hc:c<256)(hi:aD i):
  Qq 10 #[.agg cs.toArray,.int .u8 c,.int .i64 i] w (.tuple #[.int .i64 (jI t c i),.int .i64 (iP t i)]):=by
 have hB:=h.by_;obtain⟨EE,hEE⟩:∃EE,Hid (EE=iP t i):=⟨_,rfl⟩;obtain⟨NN,hNN⟩:∃NN,Hid (NN=jI t c i):=⟨_,rfl⟩;rw[<-hEE.out,<-hNN.out];have HMX:=ag h;have hkn:=h.kn;have hle:=h.le
 obtain⟨⟨lo,lc,zo,zc,rfl,_,_⟩,_,_,_,_⟩:=h;obtain⟨W,hW⟩:∃W,W=w.alloc (.cells #[.int .i64 k,.int .i64 (t.length:Int),.slice lo 8 lc,.slice zo 8 zc] 27):=⟨_,rfl⟩;have bW:=ba hW
 have B1:=ag (show aa W w.heap.size [.int .i64 k,.int .i64 (t.length:Int),.slice lo 8 lc,.slice zo 8 zc] 27 by rw[hW];exact aa.new w _ _);have HB:=ag bW;have HM1:=ag (HMX.out.keep bW);clear bW HMX
 have C0:=ag (HM1.out.check);go_enter func10,ntmps10;go_wp2_with fail;rw[<-hW];refine C0.out.mono ?_;rintro e w1 ⟨rfl,hb⟩;have K1:=ag (B1.out.kept hb);have HM:=ag (HM1.out.keep hb)
 have HBa:=ag (bg HB.out hb);clear hb C0 B1 HM1 HB hW;have y1:=K1.out.cell 1 rfl;by_cases hbad:i<0\/(t.length:Int)<i
 .have e1:iP t i=3:=if_pos hbad;obtain rfl:EE=3:=hEE.out.trans e1;obtain rfl:NN=0:=by rw[hNN.out];unfold jI;rw[if_neg (by rw[e1];decide)]
  by_cases h0:i<0
  .clear hbad e1;go_wp2;go_ret2;exact⟨rfl,HBa.out⟩
  .have h1:(t.length:Int)<i:=by omega
   have h00:(0:Int)<=i:=by omega
   clear hbad e1;go_wp2;go_ret2;exact⟨rfl,HBa.out⟩
 .obtain⟨i,rfl⟩:=Int.eq_ofNat_of_zero_le (show 0<=i by omega);have hin:i<=t.length:=by omega
  obtain⟨e1,e2⟩:=xF (t:=t) c hin;obtain rfl:EE=0:=hEE.out.trans e1;obtain⟨n,hn⟩:∃n,Hid (n=Sh.cp (fun d=>decide (d=c)) t i):=⟨_,rfl⟩
  have eNN:Hid (NN=(n:Int)):=by show NN=_;rw[hNN.out,e2,hn.out]
  have hr:=Mx.rank8 hB hc hin;have C:=ag (tW _ k t c i w1 HM.out hc hin);have lu:=Mx.lw_le t c 8;have cl:=vk t c i;rw[hr,<-hn.out]at C;rw[<-hn.out]at cl;generalize Mx.lw_ t c 8=L at *
  have h0:¬(i:Int)<0:=by omega
  have h1:¬(t.length:Int)<(i:Int):=by omega
  obtain⟨U,hU⟩:∃U,Hid (U=L+n):=⟨_,rfl⟩;rw[<-hU.out]at C;have eU:IntKind.i64.wrap ((U:Int)-(L:Int))=(n:Int):=by rw[hU.out,IntKind.wrap_i64];omega
  have eU2:wrap64 ((U:Int)-(L:Int))=(n:Int):=by rw[hU.out];unfold wrap64;omega
  have hUl:U<=6000:=by rw[hU.out];omega
  have y0:=K1.out.cell 0 rfl;have y2:=K1.out.cell 2 rfl;have y3:=K1.out.cell 3 rfl;clear hbad e1 e2 hr hU;go_wp2_with fail;refine C.out.mono ?_;rintro e w2 ⟨rfl,hb⟩;have HBb:=ag (bg HBa.out hb)
  clear hb C HBa K1 HM y0 y1 y2 y3;go_wp2;go_ret2;exact⟨by rw[eNN.out];rfl,HBb.out⟩
theorem Dg(cs:List Value)(k:Int)(VV:VM k)(t:List Nat)(i:Int)(w:World)(h:MX w cs k t)(hi:aD i):
  Qq 9 #[.agg cs.toArray,.int .i64 i] w (.tuple #[.int .u8 (saC t i:Int),.int .i64 (iz t i)]):=by
 have hB:=h.by_;obtain⟨EE,hEE⟩:∃EE,Hid (EE=iz t i):=⟨_,rfl⟩;obtain⟨NN,hNN⟩:∃NN,Hid (NN=saC t i):=⟨_,rfl⟩;rw[<-hEE.out,<-hNN.out];have HMX:=ag h;have hkn:=h.kn;have hle:=h.le
 obtain⟨⟨lo,lc,zo,zc,rfl,_,_⟩,_,_,_,_⟩:=h;obtain⟨W,hW⟩:∃W,W=w.alloc (.cells #[.int .i64 k,.int .i64 (t.length:Int),.slice lo 8 lc,.slice zo 8 zc] 27):=⟨_,rfl⟩;have bW:=ba hW
 have B1:=ag (show aa W w.heap.size [.int .i64 k,.int .i64 (t.length:Int),.slice lo 8 lc,.slice zo 8 zc] 27 by rw[hW];exact aa.new w _ _);have HB:=ag bW;have HM1:=ag (HMX.out.keep bW);clear bW HMX
 have C0:=ag (HM1.out.check);go_enter func9,ntmps9;go_wp2_with fail;rw[<-hW];refine C0.out.mono ?_;rintro e w1 ⟨rfl,hb⟩;have K1:=ag (B1.out.kept hb);have HM:=ag (HM1.out.keep hb)
 have HBa:=ag (bg HB.out hb);clear hb C0 B1 HM1 HB hW;have y1:=K1.out.cell 1 rfl;by_cases hbad:i<0\/(t.length:Int)<=i
 .have e1:iz t i=3:=if_pos hbad;obtain rfl:EE=3:=hEE.out.trans e1;obtain rfl:NN=0:=by rw[hNN.out];unfold saC;rw[if_neg (by rw[e1];decide)]
  by_cases h0:i<0
  .clear hbad e1;go_wp2;go_ret2;exact⟨rfl,HBa.out⟩
  .have h1:(t.length:Int)<=i:=by omega
   have h2:¬i<(t.length:Int):=by omega
   have h00:(0:Int)<=i:=by omega
   clear hbad e1;go_wp2;go_ret2;exact⟨rfl,HBa.out⟩
 .obtain⟨j,rfl⟩:=Int.eq_ofNat_of_zero_le (show 0<=i by omega);have hin:j<t.length:=by omega
  obtain⟨e1,e2⟩:=yd (t:=t) hin;obtain rfl:EE=0:=hEE.out.trans e1;have e3:NN=gt t j:=hNN.out.trans e2;have h0:¬(j:Int)<0:=by omega
  have h1:¬(t.length:Int)<=(j:Int):=by omega
  have h2:(j:Int)<(t.length:Int):=by omega
  have dl:decide (t.length<=j)=false:=decide_eq_false (by omega);have hcj:=hB j;obtain⟨C,hC⟩:∃C,Hid (C=gt t j):=⟨_,rfl⟩;have hC8:C<256:=by rw[hC.out];exact hcj
  have e4:C=NN:=hC.out.trans e3.symm;subst e4;have HT0:Hid ((0:Nat)=Mx.top 0 C):=(Mx.top_zero hC8).symm
  have HCW:Hid (∀l w0,l<8->Qx 30 #[.int .i64 (l:Nat)] w0 (.int .u8 ((2^(7-l):Nat):Int))):=fun l w0 hl=>pC l hl w0
  have HCB:Hid (∀l b i w0,l<8->i<=t.length->MX w0 [.int .i64 k,.int .i64 (t.length:Int),.slice lo 8 lc,.slice zo 8 zc] k t->Qq 31 #[.agg #[.int .i64 k,.int .i64 (t.length:Int),.slice lo 8 lc,.slice zo 8 zc],.int .i64 (l:Nat),.bool b,.int .i64 (i:Nat)] w0 (.int .i64 (Mx.be t l b i:Nat))):=fun l b i w0 hl hi h=>tR _ k t l b i w0 h hl hi
  clear hbad e1 e2 hEE hNN e3;go_wp2
  go_loopw [1,6,21] (fun vj vc vl wr=>∃l:Nat,l<=8/\vl=.int .i64 l/\vj=.int .i64 (Mx.pos t j l:Nat)/\vc=.int .u8 (Mx.top l C:Nat)/\Hid (aa wr w.heap.size [.int .i64 k,.int .i64 (t.length:Int),.slice lo 8 lc,.slice zo 8 zc] 27)/\Hid (MX wr [.int .i64 k,.int .i64 (t.length:Int),.slice lo 8 lc,.slice zo 8 zc] k t)/\Hid (Below w.heap.size w wr)) (fun _ _ vl _=>8-(intOf vl).toNat)
  case atStart=>exact⟨0,Nat.zero_le _,rfl,rfl,by rw[<-HT0.out];rfl,K1,HM,HBa⟩
  case round=>
   clear K1 HM HBa y1;obtain⟨l,hl,rfl,rfl,rfl,K1,HM,HB⟩:=hrel;have hp:=Mx.pos_lt hin l;by_cases hlt:l<8
   .have hltz:(l:Int)<8:=by omega
    obtain⟨rb,ro,rs,erb,hrb,hrg,hki⟩:=HM.out.row hlt;obtain⟨A,hA⟩:∃A,A=kB k (t.length:Int) (aB (Mx.rw_ t l)):=⟨_,rfl⟩;rw[<-hA]at hki
    have CA:=ag (VV.acc rs A (Mx.pos t j l:Nat) wr hki (by unfold aD;omega) (by rw[hA];exact pW hkn hle l));rw[Di hkn hle l hin A hA,<-hC.out]at CA
    obtain⟨EE,hEE⟩:∃EE,Hid (EE=gaE (aQ A) (kBN A) (aR A) (Mx.pos t j l:Nat)):=⟨_,rfl⟩;rw[<-hEE.out]at CA;have HL:=ag hki.arg.len;have HR:=ag hrg
    have Ep:Hid (Mx.pos t j (l+1)=Mx.be t l (Mx.tb l C) (Mx.pos t j l)):=by rw[hC.out];exact rfl
    have CB:=ag (fun w0 h=>HCB.out l (Mx.tb l C) (Mx.pos t j l) w0 hlt (Nat.le_of_lt hp) h);rw[<-Ep.out]at CB;have CW:=ag (fun w0=>HCW.out l w0 hlt);have T1:=ag (fun h=>Mx.top_on hC8 hlt h)
    have T2:=ag (fun h=>Mx.top_off hC8 hlt h);have tl:=Mx.top_lt (l:=l) hC8;have hw2:(2:Nat)^(7-l)<=128:=Nat.le_trans (Nat.pow_le_pow_right (by decide) (show 7-l<=7 by omega)) (by decide)
    obtain⟨P1,hP1⟩:∃P1,Hid (P1=Mx.pos t j (l+1)):=⟨_,rfl⟩;rw[<-hP1.out]at CB;generalize Mx.pos t j l=P at *;obtain⟨T',hT'⟩:∃T',Hid (T'=Mx.top (l+1) C):=⟨_,rfl⟩;rw[<-hT'.out]at T1 T2
    generalize Mx.top l C=TT at *;generalize Mx.tb l C=bb at *;have H8:=ag (pj TT (2^(7-l)) tl (by omega));generalize (2:Nat)^(7-l)=WW at *;subst erb;have y2:=K1.out.cell 2 rfl
    clear hki hA hrg Ep hEE HCB HCW;go_wp2_with (refine aY rb (ro+l*22) rs (by rfl) rfl HR.out underlying63 HL.out ?_);refine CA.out.mono ?_;rintro e w2 ⟨rfl,hb⟩;have K2:=ag (K1.out.kept hb)
    have HM2:=ag (HM.out.keep hb);have HB2:=ag (bg HB.out hb);clear hb CA K1 HM HB HR y2;have z0:=K2.out.cell 0 rfl;have z1:=K2.out.cell 1 rfl;have z2:=K2.out.cell 2 rfl
    have z3:=K2.out.cell 3 rfl;cases bb with
    | true=>
     have e5:=T1.out rfl;go_wp2_with fail;refine mr (CW.out _) fun w3 h3=>?_;rw[h3];clear h3 CW T1 T2;have H8':=H8.out;rw[e5]at H8';clear H8 e5;go_wp2_with fail;refine mr (CB.out _ HM2.out) fun w4 hb=>?_;have K3:=ag (K2.out.kept hb);have HM3:=ag (HM2.out.keep hb);have HB3:=ag (bg HB2.out hb);clear hb CB K2 HM2 HB2 z0 z1 z2 z3;go_wp2
     exact⟨⟨l+1,by omega,by go_num,by rw[hP1.out],by rw[hT'.out],K3,HM3,HB3⟩,by simp only[intOf];omega⟩
    | false=>
     have e5:=T2.out rfl;subst e5;clear T1 T2 CW H8;go_wp2_with fail;refine mr (CB.out _ HM2.out) fun w4 hb=>?_;have K3:=ag (K2.out.kept hb);have HM3:=ag (HM2.out.keep hb)
     have HB3:=ag (bg HB2.out hb);clear hb CB K2 HM2 HB2 z0 z1 z2 z3;go_wp2;exact⟨⟨l+1,by omega,by go_num,by rw[hP1.out],by rw[hT'.out],K3,HM3,HB3⟩,by simp only[intOf];omega⟩
   .obtain rfl:l=8:=by omega
    rw[Mx.top_eight];clear HCB HCW;go_wp2;go_ret2;exact⟨rfl,HB.out⟩
theorem Cg(cs:List Value)(k:Int)(VV:VM k)(t:List Nat)(c:Nat)(K:Int)(w:World)(h:MX w cs k t)(hc:c<256)(hK:aD K):
  Qq 18 #[.agg cs.toArray,.int .u8 c,.int .i64 K] w (.tuple #[.int .i64 (iN t c K),.int .i64 (iO t c K)]):=by
 have hB:=h.by_;obtain⟨EE,hEE⟩:∃EE,Hid (EE=iO t c K):=⟨_,rfl⟩;obtain⟨NN,hNN⟩:∃NN,Hid (NN=iN t c K):=⟨_,rfl⟩;rw[<-hEE.out,<-hNN.out];have HMX:=ag h;have hkn:=h.kn;have hle:=h.le
 obtain⟨⟨lo,lc,zo,zc,rfl,_,_⟩,_,_,_,_⟩:=h;obtain⟨W,hW⟩:∃W,W=w.alloc (.cells #[.int .i64 k,.int .i64 (t.length:Int),.slice lo 8 lc,.slice zo 8 zc] 27):=⟨_,rfl⟩;have bW:=ba hW
 have B1:=ag (show aa W w.heap.size [.int .i64 k,.int .i64 (t.length:Int),.slice lo 8 lc,.slice zo 8 zc] 27 by rw[hW];exact aa.new w _ _);have HB:=ag bW;have HM1:=ag (HMX.out.keep bW);clear bW HMX
 have C0:=ag (HM1.out.check);go_enter func18,ntmps18;go_wp2_with fail;rw[<-hW];refine C0.out.mono ?_;rintro e w1 ⟨rfl,hb⟩;have K1:=ag (B1.out.kept hb);have HM:=ag (HM1.out.keep hb)
 have HBa:=ag (bg HB.out hb);clear hb C0 B1 HM1 HB hW;have y1:=K1.out.cell 1 rfl;have hr:=Mx.rank8 hB hc (Nat.le_refl t.length);have C:=ag (tW _ k t c t.length w1 HM.out hc (Nat.le_refl _))
 have lu:=Mx.lw_le t c 8;have cl:=vk t c t.length;rw[hr]at C;obtain⟨M,hM⟩:∃M,Hid (M=Sh.cp (fun d=>decide (d=c)) t t.length):=⟨_,rfl⟩;obtain⟨L,hLe⟩:∃L,Hid (L=Mx.lw_ t c 8):=⟨_,rfl⟩
 rw[<-hM.out,<-hLe.out]at C;rw[<-hM.out]at cl;rw[<-hLe.out]at lu;obtain⟨U,hU⟩:∃U,Hid (U=L+M):=⟨_,rfl⟩;rw[<-hU.out]at C
 have eU:IntKind.i64.wrap ((U:Int)-(L:Int))=(M:Int):=by rw[hU.out,IntKind.wrap_i64];omega
 have eU2:wrap64 ((U:Int)-(L:Int))=(M:Int):=by rw[hU.out];unfold wrap64;omega
 have hUl:U<=6000:=by rw[hU.out];omega
 have y0:=K1.out.cell 0 rfl;have y2:=K1.out.cell 2 rfl;have y3:=K1.out.cell 3 rfl;clear hr hU;go_wp2_with fail;refine C.out.mono ?_;rintro e w2 ⟨rfl,hb⟩;have K2:=ag (K1.out.kept hb);have HM2:=ag (HM.out.keep hb)
 have HBb:=ag (bg HBa.out hb);clear hb C HBa K1 HM y0 y1 y2 y3;by_cases hk:0<=K/\K<(M:Int);rotate_left
 .obtain⟨e1,e2⟩:=xD (t:=t) (c:=c) (K:=K) (by rw[<-hM.out];exact hk);obtain rfl:EE=3:=hEE.out.trans e1;obtain rfl:NN=0:=hNN.out.trans e2;by_cases h0:K<0
  .clear hk e1 e2;go_wp2;go_ret2;exact⟨rfl,HBb.out⟩
  .have h1:(M:Int)<=K:=by omega
   have h2:¬K<(M:Int):=by omega
   have h00:(0:Int)<=K:=by omega
   clear hk e1 e2;go_wp2;go_ret2;exact⟨rfl,HBb.out⟩
 .obtain⟨K,rfl⟩:=Int.eq_ofNat_of_zero_le hk.1;have hkM:K<M:=by omega
  obtain⟨p,hpl,hpc,hpk,e1,e2⟩:=xE (t:=t) (c:=c) (K:=K) (by rw[<-hM.out];exact hkM)
  have hs:=Mx.sel8 hB hc (k:=K) (p:=p) (by
   have:=Sh.mem_at (fun d=>decide (d=c)) t p t.length hpl (decide_eq_true hpc);rw[hpk]at this
   exact this)
  obtain rfl:EE=0:=hEE.out.trans e1;obtain rfl:NN=(p:Int):=hNN.out.trans e2;have hLK:Hid (L+K=Mx.pos t p 8):=by rw[hLe.out];exact hs.2.2
  have h0:¬(K:Int)<0:=by omega
  have h1:¬(M:Int)<=(K:Int):=by omega
  have h2:(K:Int)<(M:Int):=by omega
  have dl:decide (M<=K)=false:=decide_eq_false (by omega);have dl2:decide (K<M)=true:=decide_eq_true (by omega)
  have CB:Hid (∀l w0,l<8->Qx 25 #[.int .u8 c,.int .i64 (l:Nat)] w0 (.bool (Mx.tb l c))):=fun l w0 hl=>nF c l hc hl w0
  have CU:Hid (∀l w0,l<8->MX w0 [.int .i64 k,.int .i64 (t.length:Int),.slice lo 8 lc,.slice zo 8 zc] k t->Qq 43 #[.agg #[.int .i64 k,.int .i64 (t.length:Int),.slice lo 8 lc,.slice zo 8 zc],.int .i64 (l:Nat),.bool (Mx.tb l c),.int .i64 (Mx.pos t p (l+1):Nat)] w0 (.int .i64 (Mx.pos t p l:Nat))):=fun l w0 hl h=>by
   have:=Dh _ k VV t l p w0 h hl hpl;rw[hpc]at this;exact this
  have hp8:=Mx.pos_lt hpl 8;have m5:L+K<=3000:=by rw[hLK.out];omega
  clear hk e1 e2 hs hpk hpc;go_wp2
  go_loopw [10,11] (fun vp vl wr=>∃l:Nat,l<=8/\vl=.int .i64 ((l:Int)-1)/\vp=.int .i64 (Mx.pos t p l:Nat)/\Hid (aa wr w.heap.size [.int .i64 k,.int .i64 (t.length:Int),.slice lo 8 lc,.slice zo 8 zc] 27)/\Hid (MX wr [.int .i64 k,.int .i64 (t.length:Int),.slice lo 8 lc,.slice zo 8 zc] k t)/\Hid (Below w.heap.size w wr)) (fun _ vl _=>(intOf vl+1).toNat)
  case atStart=>exact⟨8,Nat.le_refl _,rfl,by rw[<-hLK.out];rfl,K2,HM2,HBb⟩
  case round=>
   clear K2 HM2 HBb;obtain⟨l,hl,rfl,rfl,K1,HM,HB⟩:=hrel;by_cases hlt:0<l
   .obtain⟨l,rfl⟩:∃l',l=l'+1:=⟨l-1,by omega⟩;have el:((l+1:Nat):Int)-1=(l:Int):=by omega
    rw[el];have hltz:(0:Int)<=(l:Int):=by omega
    have CBl:=ag (fun w0=>CB.out l w0 (by omega));have CUl:=ag (fun w0 h=>CU.out l w0 (by omega) h);obtain⟨P,hP⟩:∃P,Hid (P=Mx.pos t p l):=⟨_,rfl⟩
    obtain⟨P1,hP1⟩:∃P1,Hid (P1=Mx.pos t p (l+1)):=⟨_,rfl⟩;have hPl:P1<=3000:=by rw[hP1.out];have:=Mx.pos_lt hpl (l+1);omega
    rw[<-hP.out,<-hP1.out]at CUl;rw[<-hP1.out];generalize Mx.tb l c=bb at *;clear CB CU el;go_wp2
    refine bn [] (fun w'=>aa w' w.heap.size [.int .i64 k,.int .i64 (t.length:Int),.slice lo 8 lc,.slice zo 8 zc] 27/\MX w' [.int .i64 k,.int .i64 (t.length:Int),.slice lo 8 lc,.slice zo 8 zc] k t/\Below w.heap.size w w') (by kernel_rfl) ?_
    have hS:(fun w'=>aa w' w.heap.size [.int .i64 k,.int .i64 (t.length:Int),.slice lo 8 lc,.slice zo 8 zc] 27/\MX w' [.int .i64 k,.int .i64 (t.length:Int),.slice lo 8 lc,.slice zo 8 zc] k t/\Below w.heap.size w w') wr.drew:=⟨K1.out.drew,HM.out.keep ((Below.refl _ _).drew),HB.out.drew⟩
    clear K1 HM HB;generalize wr.drew=V at *
    refine aF 0 hS rfl (fun w0 h0=>by have y0:=h0.1.cell 0 rfl;have y1:=h0.1.cell 1 rfl;have y2:=h0.1.cell 2 rfl;have y3:=h0.1.cell 3 rfl;go_simp;try with_reducible rfl) ?_;refine aK 1 hS ?_
    refine aK 2 hS ?_;refine aK 3 hS ?_;refine aK 5 hS ?_;refine aO 4 ?_;intro K hK;go_simp;refine mr (CBl.out _) fun w3 h3=>?_;rw[h3];clear h3;refine hK.out _ _ (fun _=>hS) ?_;clear hK K
    try simp only[Act.put,aw,ar,an,ah,aj,ai]
    refine aO 6 ?_;intro K hK;go_simp;refine mr (CUl.out _ hS.2.1) fun w4 hb=>?_;replace hS:=And.intro (hS.1.kept hb) (And.intro (hS.2.1.keep hb) (hS.2.2.trans (hb.mono hS.2.2.size)));clear hb
    refine hK.out _ _ (fun _=>hS) ?_;clear hK K;try simp only[Act.put,aw,ar,an,ah,aj,ai]
    refine aK 7 hS ?_;refine az.done (by kernel_rfl) ?_ _;have K1:=ag hS.1;have HM:=ag hS.2.1;have HB:=ag hS.2.2;clear hS CBl CUl;go_wp2
    exact⟨⟨l,by omega,by go_num,by rw[hP.out],K1,HM,HB⟩,by simp only[intOf];omega⟩
   .obtain rfl:l=0:=by omega
    have e0:Mx.pos t p 0=p:=rfl;rw[e0];go_wp2;go_ret2;exact⟨rfl,HB.out⟩
end Go.Proofs.YtleegaihbgbcjabGreatDoor
namespace Go.Proofs.YtleegaihbgbcjabGreatDoor
open Go.RowKit
namespace Ag
theorem wK{o:Oper}{a:Act}{w:World}{K:Act->World->Prop}{Q:Exit->Act->World->Prop}(s x:Operand)(t:TypeId)
  (ho:o.op=.call { callee:=.builtin .append,args:=#[s,x],argTypes:=#[t,t] })
  (base:Nat) (e:TypeId) (i:TypeInfo) (z:Value) (size bytes:Nat) (ht:prog.underlying t=some (.slice e)) (hi:prog.info? e=some i) (hz:i.zero=some z)
  (hsize:i.size=size) (hby:i.bytes=bytes) (hzs:z.cells.size=size) (hsz:0<size)
  (v:Value) (n:Nat) (vs:List Value) (hs:a.eval s=v) (hown:w.ownsRow base e size v n vs)
  (ad:Addr) (m c:Nat) (news:List Value) (hx:a.eval x=.slice (some ad) m c) (hl:news.length=m*size) (hm:0<m) (hsrc:∀j u,news[j]?=some u->w.cell? (ad.add j)=some u) (h1:∀u∈news,u.oneCell'=true)
  (h63:n+m<=maxLen) (hbytes:(n+m)*bytes<=140737488355328) (hbase:base<=w.heap.size)
  (h:∀g cap w',w'.ownsRow base e size (.slice (some ⟨g,0,none⟩) (n+m) cap) (n+m) (vs++news)->Below base w w'->(v.ownBlock=some g\/g=w.heap.size)->g<w'.heap.size->(∀k,k<w.heap.size->v.ownBlock≠some k->w'.heap[k]?=w.heap[k]?)->w.heap.size<=w'.heap.size->K (a.put o.dst (.slice (some ⟨g,0,none⟩) (n+m) cap)) w'):
  Oper.wp prog o a w K Q:=by
 refine wp_append_lies w s x t ho base e i z size bytes ht hi hz hsize hby hzs hsz v n vs hs hown ad m c news hx hl hsrc h1 hm h63 hbytes hbase w.heap.size rfl ?_;intro g cap w' o1 o2 o3 o4;refine h g cap w' o1 ?_ o3 o4 ?_ o2.size
 .exact(Below.refl _ _).grown o2 hbase (fun k hk=>(hown.lt k hk).1)
 .intro k hk hne;exact o2.block k hk (fun q=>hne q.symm)
theorem wpList_append{ops:Array Oper}{rest:List Oper}{o:Oper}{a:Act}{w:World}{Q:Exit->Act->World->Prop}(hgd:o.guard=none)(s x:Operand)(t:TypeId)
  (ho:o.op=.call { callee:=.builtin .append,args:=#[s,x],argTypes:=#[t,t] })
  (base:Nat) (e:TypeId) (i:TypeInfo) (z:Value) (size bytes:Nat) (ht:prog.underlying t=some (.slice e)) (hi:prog.info? e=some i) (hz:i.zero=some z)
  (hsize:i.size=size) (hby:i.bytes=bytes) (hzs:z.cells.size=size) (hsz:0<size)
  (v:Value) (n:Nat) (vs:List Value) (hs:a.eval s=v) (hown:w.ownsRow base e size v n vs)
  (ad:Addr) (m c:Nat) (news:List Value) (hx:a.eval x=.slice (some ad) m c) (hl:news.length=m*size) (hm:0<m) (hsrc:∀j u,news[j]?=some u->w.cell? (ad.add j)=some u) (h1:∀u∈news,u.oneCell'=true)
  (h63:n+m<=maxLen) (hbytes:(n+m)*bytes<=140737488355328) (hbase:base<=w.heap.size)
  (h:∀g cap w',w'.ownsRow base e size (.slice (some ⟨g,0,none⟩) (n+m) cap) (n+m) (vs++news)->Below base w w'->(v.ownBlock=some g\/g=w.heap.size)->g<w'.heap.size->(∀k,k<w.heap.size->v.ownBlock≠some k->w'.heap[k]?=w.heap[k]?)->w.heap.size<=w'.heap.size->wpList prog ops Q rest (a.put o.dst (.slice (some ⟨g,0,none⟩) (n+m) cap)) w'):
  wpList prog ops Q (o::rest) a w:=
 wpList_plain hgd fun K hK=>wK s x t ho base e i z size bytes ht hi hz hsize hby hzs hsz v n vs hs hown ad m c news hx hl hm hsrc h1 h63 hbytes hbase fun g cap w' a1 a2 a3 a4 a5 a6=>hK _ _ (h g cap w' a1 a2 a3 a4 a5 a6)
theorem owns_of{w w':World}{base e size n:Nat}{v:Value}{vs:List Value}(h:w.ownsRow base e size v n vs)(hb:∀k,v.ownBlock=some k->w'.heap[k]?=w.heap[k]?):w'.ownsRow base e size v n vs:=by
 obtain⟨h1,h | ⟨g,cap,cur,rfl,a1,a2,a3⟩⟩:=h
 .exact⟨h1,.inl h⟩
 .exact⟨h1,.inr ⟨g,cap,cur,rfl,a1,(hb g rfl).trans a2,a3⟩⟩
theorem owns_keep{w w':World}{base e size n:Nat}{v:Value}{vs:List Value}(h:w.ownsRow base e size v n vs)(hb:Below w.heap.size w w'):w'.ownsRow base e size v n vs:=owns_of h fun k hk=>hb.block k (h.lt k hk).2
theorem owns_cells{w:World}{base e size n g cap:Nat}{vs:List Value}(h:w.ownsRow base e size (.slice (some ⟨g,0,none⟩) n cap) n vs):g<w.heap.size/\∀j u,vs[j]?=some u->w.cell? ⟨g,j,none⟩=some u:=by
 obtain⟨h1,⟨h,_⟩ | ⟨g',cap',cur,e1,e2,hh,r1,r2,r3,r4⟩⟩:=h
 .cases h
 .simp only[Value.slice.injEq,Option.some.injEq,Addr.mk.injEq]at e1;obtain⟨⟨rfl,_,_⟩,_,rfl⟩:=e1;refine⟨(Array.getElem?_eq_some_iff.1 hh).1,fun j u hu=>?_⟩;unfold World.cell?
  rw[show w.heap[({ block:=g,off:=j,spot:=none }:Addr).block]?=_ from hh];rw[<-r4]at hu
  have hj:j<n*size:=by
   have:=(List.getElem?_eq_some_iff.1 hu).1;rw[List.length_take]at this;omega
  rw[List.getElem?_take_of_lt hj]at hu;simpa using hu
end Ag
open Go.RowKit Num Bit
theorem A9{w:World}{base e size n:Nat}{v:Value}{vs:List Value}(h:w.ownsRow base e size v n vs):∃ao cap,v=.slice ao n cap:=by
 obtain⟨h1,⟨rfl,rfl⟩ | ⟨g,cap,cur,rfl,e2,hh,r,_⟩⟩:=h
 .exact⟨none,0,rfl⟩
 .exact⟨some ⟨g,0,none⟩,cap,rfl⟩
theorem Cc{o:Oper}{a:Act}{w:World}{K:Act->World->Prop}{Q:Exit->Act->World->Prop}(s x:Operand)(t:TypeId)
  (ho:o.op=.call { callee:=.builtin .append,args:=#[s,x],argTypes:=#[t,t] })
  (base:Nat) (e:TypeId) (i:TypeInfo) (z:Value) (size bytes:Nat) (ht:prog.underlying t=some (.slice e)) (hi:prog.info? e=some i) (hz:i.zero=some z)
  (hsize:i.size=size) (hby:i.bytes=bytes) (hzs:z.cells.size=size) (hsz:0<size)
  (v:Value) (n:Nat) (vs:List Value) (hs:a.eval s=v) (hown:w.ownsRow base e size v n vs)
  (xa:Option Addr) (m c:Nat) (news:List Value) (hx:a.eval x=.slice xa m c) (hl:news.length=m*size) (hsrc:0<m->∃ad,xa=some ad/\∀j u,news[j]?=some u->w.cell? (ad.add j)=some u) (h1:∀u∈news,u.oneCell'=true)
  (h63:n+m<=maxLen) (hbytes:(n+m)*bytes<=140737488355328) (hbase:base<=w.heap.size)
  (h:∀ao cap w',w'.ownsRow base e size (.slice ao (n+m) cap) (n+m) (vs++news)->Below base w w'->(∀k,k<w.heap.size->v.ownBlock≠some k->w'.heap[k]?=w.heap[k]?)->w.heap.size<=w'.heap.size->K (a.put o.dst (.slice ao (n+m) cap)) w'):
  Oper.wp prog o a w K Q:=by
 by_cases hm:m=0
 .subst hm;have hn:news=[]:=List.eq_nil_of_length_eq_zero (by omega);subst hn;have hr:=Ap.run_append_zero w base t o.type e i size ht hi v n vs hown xa c;obtain⟨ao,cap,rfl⟩:=A9 hown;unfold Oper.wp execOp
  simp only[ho,resolve,invoke,builtin,Sem.run_bind,Sem.run_pure,Result.andThen_ok,List.map_toArray,List.map_cons,List.map_nil,hs,hx,hr]
  refine h ao cap w (by simpa using hown) (Below.refl _ _) (fun _ _ _=>rfl) (Nat.le_refl _)
 .obtain⟨ad,rfl,hn⟩:=hsrc (by omega);refine wp_append_lies w s x t ho base e i z size bytes ht hi hz hsize hby hzs hsz v n vs hs hown ad m c news hx hl hn h1 (by omega) h63 hbytes hbase w.heap.size rfl ?_
  intro g cap w' o1 o2 o3 o4;refine h (some ⟨g,0,none⟩) cap w' o1 ?_ ?_ o2.size
  .exact(Below.refl _ _).grown o2 hbase (fun k hk=>(hown.lt k hk).1)
  .intro k hk hne;exact o2.block k hk (fun q=>hne q.symm)
theorem pB{ops:Array Oper}{rest:List Oper}{o:Oper}{a:Act}{w:World}{Q:Exit->Act->World->Prop}(hgd:o.guard=none)(s x:Operand)(t:TypeId)
  (ho:o.op=.call { callee:=.builtin .append,args:=#[s,x],argTypes:=#[t,t] })
  (base:Nat) (e:TypeId) (i:TypeInfo) (z:Value) (size bytes:Nat) (ht:prog.underlying t=some (.slice e)) (hi:prog.info? e=some i) (hz:i.zero=some z)
  (hsize:i.size=size) (hby:i.bytes=bytes) (hzs:z.cells.size=size) (hsz:0<size)
  (v:Value) (n:Nat) (vs:List Value) (hs:a.eval s=v) (hown:w.ownsRow base e size v n vs)
  (xa:Option Addr) (m c:Nat) (news:List Value) (hx:a.eval x=.slice xa m c) (hl:news.length=m*size) (hsrc:0<m->∃ad,xa=some ad/\∀j u,news[j]?=some u->w.cell? (ad.add j)=some u) (h1:∀u∈news,u.oneCell'=true)
  (h63:n+m<=maxLen) (hbytes:(n+m)*bytes<=140737488355328) (hbase:base<=w.heap.size)
  (h:∀ao cap w',w'.ownsRow base e size (.slice ao (n+m) cap) (n+m) (vs++news)->Below base w w'->(∀k,k<w.heap.size->v.ownBlock≠some k->w'.heap[k]?=w.heap[k]?)->w.heap.size<=w'.heap.size->wpList prog ops Q rest (a.put o.dst (.slice ao (n+m) cap)) w'):
  wpList prog ops Q (o::rest) a w:=
 wpList_plain hgd fun K hK=>Cc s x t ho base e i z size bytes ht hi hz hsize hby hzs hsz v n vs hs hown xa m c news hx hl hsrc h1 h63 hbytes hbase fun ao cap w' a1 a2 a3 a4=>hK _ _ (h ao cap w' a1 a2 a3 a4)
def vK(k:IntKind)(l:List Nat):List Value:=l.map fun n:Nat=>Value.int k (n:Int)
theorem rA(k:IntKind)(l:List Nat)(p:Nat):vK k (l++[p])=vK k l++[.int k (p:Int)]:=by simp[vK]
theorem gF(k:IntKind)(a b:List Nat):vK k (a++b)=vK k a++vK k b:=by simp[vK]
theorem iT(k:IntKind)(l:List Nat):(vK k l).length=l.length:=by simp[vK]
def fl(f:Nat->Bool)(b:Bool)(l:List Nat)(q:Nat):List Nat:=(l.take q).filter fun x=>f x==b
theorem dY(f:Nat->Bool)(b:Bool)(l:List Nat)(q:Nat):(fl f b l q).length<=q:=by
 unfold fl;exact Nat.le_trans (List.length_filter_le _ _) (by rw[List.length_take];omega)
theorem uV{f:Nat->Bool}{b:Bool}{l:List Nat}{q:Nat}(h:q<l.length)(hb:f (gt l q)=b):fl f b l (q+1)=fl f b l q++[gt l q]:=by
 have e:l[q]?=some (gt l q):=by unfold gt;rw[List.getD_eq_getElem?_getD,List.getElem?_eq_getElem h];rfl
 unfold fl;rw[List.take_add_one,e,List.filter_append];simp[hb]
theorem uU{f:Nat->Bool}{b:Bool}{l:List Nat}{q:Nat}(h:q<l.length)(hb:f (gt l q)≠b):fl f b l (q+1)=fl f b l q:=by
 have e:l[q]?=some (gt l q):=by unfold gt;rw[List.getD_eq_getElem?_getD,List.getElem?_eq_getElem h];rfl
 unfold fl;rw[List.take_add_one,e,List.filter_append];simp[hb]
structure PE (T:TypeId) (k:IntKind) (w:World) (base:Nat) (f:Nat->Bool) (l:List Nat) (q:Nat) (vo vn:Value):Prop where
 o1:w.ownsRow base T 1 vo (fl f false l q).length (vK k (fl f false l q))
 o2:w.ownsRow base T 1 vn (fl f true l q).length (vK k (fl f true l q))
 ne:∀j,vo.ownBlock=some j->vn.ownBlock≠some j
theorem PE.keep{T:TypeId}{k:IntKind}{w w':World}{base:Nat}{f:Nat->Bool}{l:List Nat}{q:Nat}{vo vn:Value}(h:PE T k w base f l q vo vn)(hb:Below w.heap.size w w'):PE T k w' base f l q vo vn:=⟨Ag.owns_keep h.o1 hb,Ag.owns_keep h.o2 hb,h.ne⟩
theorem PE.offf{T:TypeId}{kk:IntKind}{w w1 w':World}{base g cap p:Nat}{f:Nat->Bool}{l:List Nat}{q:Nat}{vo vn:Value}(h:PE T kk w base f l q vo vn)(hq:q<l.length)(hA:Below w.heap.size w w1)
  (own:w'.ownsRow base T 1 (.slice (some ⟨g,0,none⟩) ((fl f false l q).length+1) cap) ((fl f false l q).length+1) (vK kk (fl f false l q)++[.int kk (p:Int)]))
  (hblk:∀k,k<w1.heap.size->vo.ownBlock≠some k->w'.heap[k]?=w1.heap[k]?) (hloc:vo.ownBlock=some g\/g=w1.heap.size) (hp:p=gt l q) (hB:f p=false):PE T kk w' base f l (q+1) (.slice (some ⟨g,0,none⟩) ((fl f false l q).length+1) cap) vn:=by
 subst hp;have e1:=uV (b:=false) hq hB;have e2:=uU (f:=f) (b:=true) hq (by rw[hB];decide);refine⟨?_,?_,fun k hk hk2=>?_⟩
 .rw[e1,rA,List.length_append];exact own
 .rw[e2];refine Ag.owns_of h.o2 fun k hk=>?_;have lk:=(h.o2.lt k hk).2;exact(hblk k (Nat.lt_of_lt_of_le lk hA.size) (fun g'=>h.ne k g' hk)).trans (hA.block k lk)
 .simp only[Value.ownBlock,Option.some.injEq]at hk;subst hk;rcases hloc with e | e
  .exact h.ne _ e hk2
  .have:=(h.o2.lt _ hk2).2;have:=hA.size;omega
theorem PE.onn{T:TypeId}{kk:IntKind}{w w1 w':World}{base g cap p:Nat}{f:Nat->Bool}{l:List Nat}{q:Nat}{vo vn:Value}(h:PE T kk w base f l q vo vn)(hq:q<l.length)(hA:Below w.heap.size w w1)
  (own:w'.ownsRow base T 1 (.slice (some ⟨g,0,none⟩) ((fl f true l q).length+1) cap) ((fl f true l q).length+1) (vK kk (fl f true l q)++[.int kk (p:Int)]))
  (hblk:∀k,k<w1.heap.size->vn.ownBlock≠some k->w'.heap[k]?=w1.heap[k]?) (hloc:vn.ownBlock=some g\/g=w1.heap.size) (hp:p=gt l q) (hB:f p=true):PE T kk w' base f l (q+1) vo (.slice (some ⟨g,0,none⟩) ((fl f true l q).length+1) cap):=by
 subst hp;have e1:=uV (b:=true) hq hB;have e2:=uU (f:=f) (b:=false) hq (by rw[hB];decide);refine⟨?_,?_,fun k hk hk2=>?_⟩
 .rw[e2];refine Ag.owns_of h.o1 fun k hk=>?_;have lk:=(h.o1.lt k hk).2;exact(hblk k (Nat.lt_of_lt_of_le lk hA.size) (fun g'=>h.ne k hk g')).trans (hA.block k lk)
 .rw[e1,rA,List.length_append];exact own
 .simp only[Value.ownBlock,Option.some.injEq]at hk2;subst hk2;rcases hloc with e | e
  .exact h.ne _ hk e
  .have:=(h.o1.lt _ hk).2;have:=hA.size;omega
theorem kG{w:World}{base n:Nat}{T:TypeId}{v:Value}{vs:List Value}(h:w.ownsRow base T 1 v n vs)(hn:n=vs.length):∃xa c,v=.slice xa n c/\(0<n->∃ad,xa=some ad/\∀j u,vs[j]?=some u->w.cell? (ad.add j)=some u):=by
 have h':=h;obtain⟨_,⟨e,h0⟩ | ⟨g,cap,cur,e,_⟩⟩:=h
 .have e0:n=0:=h0;exact⟨none,0,by rw[e,e0],fun h=>absurd h (by omega)⟩
 .subst e;refine⟨_,cap,rfl,fun _=>⟨_,rfl,fun j u hu=>?_⟩⟩;have:=(Ag.owns_cells h').2 j u hu;rw[<-this];unfold Addr.add;split
  .subst_vars;rfl
  .simp
theorem Be{w:World}{base n c:Nat}{T:TypeId}{ao:Option Addr}{vs:List Value}(h:w.ownsRow base T 1 (.slice ao n c) n vs):∀a,ao=some a->base<=a.block:=fun a ha=>by
 subst ha;exact(h.lt a.block rfl).1
theorem ur:(prog.info? 5).map (fun i=>(i.zero,i.size,i.bytes))=some (some (.int .u8 0),1,1):=by kernel_rfl
theorem Cn(lo:Option Addr)(l:List Nat)(lc g0:Nat)(f:Nat->Bool)(w:World)(hl:Bd w lo l)(hn:l.length<=1048576)
  (HC:Hid (∀x w0,x∈l->Below w.heap.size w w0->Qq 24 #[.int .u8 (x:Nat),.pointer (some ⟨g0,0,none⟩)] w0 (.bool (f x)))):
  Calls prog 28 #[.slice lo l.length lc,.func (.func 24) #[] #[.pointer (some ⟨g0,0,none⟩)]] w fun e w'=>∃ao n cap,e=.returned (.tuple #[.slice ao n cap,.int .i64 ((fl f false l l.length).length:Nat)])/\n=(Mx.pt f l).length/\w'.ownsRow w.heap.size 5 1 (.slice ao n cap) n (vK .u8 (Mx.pt f l))/\Below w.heap.size w w':=by
 obtain⟨i0,hi,hz0,hz1,hz2⟩:=info_parts ur;have HN:=ag hl;clear hl;go_enter func28,ntmps28;go_wp2
 go_loopw [6,7,12] (fun vo vn vi wr=>∃q:Nat,q<=l.length/\vi=.int .i64 q/\Hid (PE 5 .u8 wr w.heap.size f l q vo vn)/\Hid (Below w.heap.size w wr)) (fun _ _ vi _=>l.length-(intOf vi).toNat)
 case atStart=>exact⟨0,Nat.zero_le _,rfl,ag ⟨World.ownsRow_nil _ _ _ _,World.ownsRow_nil _ _ _ _,fun k h=>by cases h⟩,ag (Below.refl _ _)⟩
 case round=>
  obtain⟨q,hq,rfl,HP,HB⟩:=hrel;by_cases hlt:q<l.length
  .have hltz:(q:Int)<(l.length:Int):=by omega
   obtain⟨b,off,rfl,hlb,hc⟩:=(HN.out.keep HB.out) (by omega);have a0:=hc q hlt;have hmem:gt l q∈l:=by unfold gt;rw[List.getD_eq_getElem?_getD,List.getElem?_eq_getElem hlt];exact List.getElem_mem hlt
   obtain⟨p,hp⟩:∃p,Hid (p=gt l q):=⟨_,rfl⟩;rw[<-hp.out]at a0 hmem;have H:=ag (HC.out p wr hmem HB.out);have zb:=HB.out.size;clear hc;go_wp2_with fail;refine H.out.mono ?_;rintro e w5 ⟨rfl,hb⟩
   have HP5:=ag (HP.out.keep hb);have HB5:=ag (bg HB.out hb);have z5:=hb.size;obtain⟨BB,hBB⟩:∃BB,Hid (f p=BB):=⟨_,rfl⟩;rw[hBB.out];clear hb HP HB H a0
   rcases(show BB=true\/BB=false by cases BB;exact .inr rfl;exact .inl rfl)with rfl | rfl
   .have HO:=ag HP5.out.o2
    go_wp2_with (at_builtin;refine Ag.wpList_append (by rfl) _ _ _ (by rfl) w.heap.size 5 i0 (.int .u8 0) 1 1 underlying22 hi hz0 hz1 hz2 rfl (by decide) u7 (fl f true l q).length (vK .u8 (fl f true l q)) (by rfl) (HO.out.alloc _) ⟨w5.heap.size,0,none⟩ 1 1 [.int .u8 (p:Nat)] (by rfl) rfl (by decide) ?c1 ?c2 ?c3 ?c4 ?c5 ?_)
    case c1=>
     intro j u hj;have:=(aa.new w5 [.int .u8 (p:Nat)] 5).cell j hj;match j,hj with
     | 0,_=>exact this
    case c2=>intro u hu;simp at hu;subst hu;rfl
    case c3=>have:=dY f true l q;unfold maxLen;omega
    case c4=>have:=dY f true l q;omega
    case c5=>simp;omega
    intro g8 cap8 w8 own8 hb8 hloc8 hlt8 hblk8 hs8;have hA:=below_alloc w5 (.cells #[.int .u8 (p:Nat)] 5);have HB8:Hid (Below w.heap.size w w8):=(bg HB5.out hA).trans (hb8.mono (by omega))
    have HP8:=ag (HP5.out.onn (g:=g8) (cap:=cap8) hlt hA own8 (fun k hk hn=>hblk8 k (by simpa using hk) hn) (by simpa using hloc8) hp.out hBB.out);clear own8 hb8 hloc8 hlt8 hblk8 hs8 hA HB5 HP5 HO hBB
    try simp only[Act.put,ah,List.set]
    go_wp2;exact⟨⟨q+1,by omega,by go_num,HP8,HB8⟩,by simp only[intOf];omega⟩
   .have HO:=ag HP5.out.o1
    go_wp2_with (at_builtin;refine Ag.wpList_append (by rfl) _ _ _ (by rfl) w.heap.size 5 i0 (.int .u8 0) 1 1 underlying22 hi hz0 hz1 hz2 rfl (by decide) u6 (fl f false l q).length (vK .u8 (fl f false l q)) (by rfl) (HO.out.alloc _) ⟨w5.heap.size,0,none⟩ 1 1 [.int .u8 (p:Nat)] (by rfl) rfl (by decide) ?c1 ?c2 ?c3 ?c4 ?c5 ?_)
    case c1=>
     intro j u hj;have:=(aa.new w5 [.int .u8 (p:Nat)] 5).cell j hj;match j,hj with
     | 0,_=>exact this
    case c2=>intro u hu;simp at hu;subst hu;rfl
    case c3=>have:=dY f false l q;unfold maxLen;omega
    case c4=>have:=dY f false l q;omega
    case c5=>simp;omega
    intro g8 cap8 w8 own8 hb8 hloc8 hlt8 hblk8 hs8;have hA:=below_alloc w5 (.cells #[.int .u8 (p:Nat)] 5);have HB8:Hid (Below w.heap.size w w8):=(bg HB5.out hA).trans (hb8.mono (by omega))
    have HP8:=ag (HP5.out.offf (g:=g8) (cap:=cap8) hlt hA own8 (fun k hk hn=>hblk8 k (by simpa using hk) hn) (by simpa using hloc8) hp.out hBB.out);clear own8 hb8 hloc8 hlt8 hblk8 hs8 hA HB5 HP5 HO hBB
    try simp only[Act.put,ah,List.set]
    go_wp2;exact⟨⟨q+1,by omega,by go_num,HP8,HB8⟩,by simp only[intOf];omega⟩
  .obtain rfl:q=l.length:=by omega
   have HO1:=ag HP.out.o1;have l1:=dY f false l l.length;have l2:=dY f true l l.length;obtain⟨xa,c,rfl,hsrc⟩:=kG HP.out.o2 (iT _ _).symm
   obtain⟨ya,yc,rfl,_⟩:=kG HP.out.o1 (iT _ _).symm;have HS:=ag hsrc;have zb:=HB.out.size;clear hsrc HP
   go_wp2_with (at_builtin;refine pB (by rfl) _ _ _ (by rfl) w.heap.size 5 i0 (.int .u8 0) 1 1 underlying22 hi hz0 hz1 hz2 rfl (by decide) _ (fl f false l l.length).length (vK .u8 (fl f false l l.length)) (by rfl) HO1.out xa (fl f true l l.length).length c (vK .u8 (fl f true l l.length)) (by rfl) (by rw[iT,Nat.mul_one]) HS.out ?c2 ?c3 ?c4 ?c5 ?_)
   case c2=>intro u hu;unfold vK at hu;obtain⟨_,_,rfl⟩:=List.mem_map.1 hu;rfl
   case c3=>unfold maxLen;omega
   case c4=>omega
   case c5=>omega
   intro ao cap w8 own8 hb8 _ _;try simp only[Act.put,ah,List.set]
   have eP:Mx.pt f l=fl f false l l.length++fl f true l l.length:=by unfold Mx.pt fl;rw[List.take_length]
   have HF:Hid ((fl f false l l.length).length+(fl f true l l.length).length=(Mx.pt f l).length/\w8.ownsRow w.heap.size 5 1 (.slice ao ((fl f false l l.length).length+(fl f true l l.length).length) cap) ((fl f false l l.length).length+(fl f true l l.length).length) (vK .u8 (Mx.pt f l))/\Below w.heap.size w w8):=by
    refine⟨by rw[eP,List.length_append],?_,HB.out.trans (hb8.mono (Nat.le_refl _))⟩;rw[eP,gF];exact own8
   clear own8 hb8 HO1 HS HB eP;go_wp2;go_ret2;exact⟨ao,_,cap,rfl,HF.out⟩
theorem KI.nou{w:World}{cs:List Value}{a:RA}(h:KI w cs a):bQ cs:=by
 obtain⟨cp,cr,cf,rfl,_,h1,h2,h3⟩:=h.arg;exact nou_mk h1.nou h2.nou h3.nou
def bP(n:Nat):List Value:=(List.replicate n zv).flatten
theorem tt:bQ zv:=by
 intro v hv n e;subst e;simp[zv]at hv
theorem bQ.flat{css:List (List Value)}(h:∀c∈css,bQ c):bQ css.flatten:=fun v hv n=>by
 obtain⟨c,hc,hv⟩:=List.mem_flatten.1 hv;exact h c hc v hv n
theorem pS(css:List (List Value))(h:∀c∈css,c.length=22):css.flatten.length=css.length*22:=by
 induction css with
 | nil=>rfl
 | cons a l ih=>
  rw[List.flatten_cons,List.length_append,ih (fun c hc=>h c (List.mem_cons_of_mem _ hc)),h a List.mem_cons_self,List.length_cons];omega
theorem uT(css:List (List Value))(h:∀c∈css,c.length=22)(l:Nat)(c:List Value)(hl:css[l]?=some c)(post:List Value):∃p q,css.flatten++post=p++(c++q)/\p.length=l*22:=by
 induction css generalizing l with
 | nil=>simp at hl
 | cons a L ih=>
  cases l with
  | zero=>
   simp at hl;subst hl;exact⟨[],L.flatten++post,by simp,rfl⟩
  | succ l=>
   obtain⟨p,q,e1,e2⟩:=ih (fun c hc=>h c (List.mem_cons_of_mem _ hc)) l (by simpa using hl);refine⟨a++p,q,?_,?_⟩
   .rw[List.flatten_cons,List.append_assoc,e1,List.append_assoc]
   .rw[List.length_append,h a List.mem_cons_self,e2];omega
theorem nX:(prog.info? 63).map (fun i=>(i.zero,i.size,i.bytes))=some (some (.agg zv.toArray),22,320):=by kernel_rfl
theorem rf(n:Nat):Builtin.zeroCells zv.toArray n=(bP n).toArray:=by
 have e:∀n,(List.range (n*22)).map (fun i=>zv.toArray[i%22]!)=bP n:=by
  intro n;induction n with
  | zero=>rfl
  | succ n ih=>
   have h:bP (n+1)=bP n++zv:=by
    unfold bP;rw[List.replicate_succ',List.flatten_append];simp
   rw[h,<-ih,Nat.succ_mul,List.range_add,List.map_append,List.map_map];congr 1;have g:(List.range 22).map (fun i=>zv.toArray[i]!)=zv:=by rfl
   refine Eq.trans (List.map_congr_left fun i hi=>?_) g;have hi:=List.mem_range.1 hi;simp only[Function.comp_def];rw[show(n*22+i)%22=i by omega]
 apply Array.ext';unfold Builtin.zeroCells;rw[Array.toList_map,Array.toList_range];exact e n
def kf(w:World)(v:Value)(css:List (List Value)):Prop:=
 (v=.slice none 0 0/\css=[])\/∃g cap,v=.slice (some ⟨g,0,none⟩) css.length cap/\css.length<=cap/\aa w g (css.flatten++bP (cap-css.length)) 63
def Tn(w w':World)(v:Value)(css:List (List Value)):Prop:=
 (∃g cap,v=.slice (some ⟨g,0,none⟩) css.length cap/\aa w g (css.flatten++bP (cap-css.length)) 63/\aC g w w')\/Below w.heap.size w w'
theorem wJ{o:Oper}{a:Act}{w:World}{K:Act->World->Prop}{Q:Exit->Act->World->Prop}(s x:Operand)
  (ho:o.op=.call { callee:=.builtin .append,args:=#[s,x],argTypes:=#[24,24] })
  (v:Value) (css:List (List Value)) (hs:a.eval s=v) (h:kf w v css) (hL:∀c∈css,c.length=22) (cs:List Value) (hc:cs.length=22) (ad:Addr) (c0:Nat) (hx:a.eval x=.slice (some ad) 1 c0) (hn:∀j u,cs[j]?=some u->w.cell? (ad.add j)=some u) (h1:∀u∈cs,u.oneCell'=true) (h8:css.length<1000000)
  (k:∀v' w',kf w' v' (css++[cs])->Tn w w' v css->(∀g,v'.ownBlock=some g->v.ownBlock=some g\/g=w.heap.size)->K (a.put o.dst v') w'):o.wp prog a w K Q:=by
 obtain⟨i0,hi,hz0,hz1,hz2⟩:=info_parts nX;have hfl:=pS css hL;rcases h with⟨rfl,rfl⟩ | ⟨g,cap,rfl,hcap,hcel⟩
 .have hr:=run_append_nil (P:=prog) w 24 o.type 63 i0 (.agg zv.toArray) underlying24 hi hz0 ad 1 c0 cs (by rw[hz1,hc]) hn (by decide) (by decide) (by rw[hz2];decide)
  have hge:1<=grownCap w 1 0 63:=grownCap_ge w 1 0 63;generalize grownCap w 1 0 63=cp at *;unfold Oper.wp execOp
  simp only[ho,resolve,invoke,builtin,Sem.run_bind,Sem.run_pure,Result.andThen_ok,List.map_toArray,List.map_cons,List.map_nil,hs,hx,hr]
  refine k _ _ (.inr ⟨w.heap.size,cp,rfl,hge,?_⟩) (.inr ?_) (fun g hg=>.inr (by injection hg with e;exact e.symm))
  .have:=aa.new w.drew (cs++bP (cp-1)) 63;simpa [Value.cells,rf]using this
  .exact(Below.refl w.heap.size w).drew.alloc (Nat.le_refl _) _
 .by_cases hroom:css.length+1<=cap
  .have hsz:(css.flatten++bP (cap-css.length)).length=cap*22:=by
    have:(bP (cap-css.length)).length=(cap-css.length)*22:=by
     unfold bP;rw[pS _ (fun c h=>by rw[(List.mem_replicate.1 h).2];rfl),List.length_replicate]
    rw[List.length_append,hfl,this,<-Nat.add_mul];congr 1;omega
   have hr:=run_append_room (P:=prog) w 24 o.type 63 i0 underlying24 hi g css.length cap _ hcel ad 1 c0 cs (by rw[hz1,hc]) hn h1 hroom (by rw[hz1,hc,List.size_toArray,hsz];omega)
   have ez:bP (cap-css.length)=zv++bP (cap-(css.length+1)):=by rw[show cap-css.length=cap-(css.length+1)+1 by omega];rfl
   have e2:(css.flatten++bP (cap-css.length)).take (css.length*i0.size)++cs++(css.flatten++bP (cap-css.length)).drop (css.length*i0.size+cs.length)=css.flatten++(cs++bP (cap-(css.length+1))):=by
    rw[hz1,hc,<-hfl,List.take_left',ez,List.append_assoc]
    .congr 2;rw[List.drop_append,List.drop_eq_nil_of_le (by omega),show css.flatten.length+22-css.flatten.length=zv.length by rw[kR];omega,List.drop_left,List.nil_append]
    .rfl
   unfold Oper.wp execOp;simp only[ho,resolve,invoke,builtin,Sem.run_bind,Sem.run_pure,Result.andThen_ok,List.map_toArray,List.map_cons,List.map_nil,hs,hx,hr];rw[e2]
   refine k _ _ (.inr ⟨g,cap,by simp,by simp;omega,?_⟩) (.inl ⟨g,cap,rfl,hcel,aC.row g w _⟩) (fun g hg=>.inl hg);have:=setRow_heap w g _ (css.flatten++(cs++bP (cap-(css.length+1)))).toArray _ _ hcel
   have e3:(css++[cs]).flatten++bP (cap-(css++[cs]).length)=css.flatten++(cs++bP (cap-(css.length+1))):=by simp
   rw[e3];exact this
  .have holds:∀j u,css.flatten[j]?=some u->w.cell? ((⟨g,0,none⟩:Addr).add j)=some u:=fun j u hj=>by
    have hlt:=(List.getElem?_eq_some_iff.1 hj).1;have:=hcel.cell j (v:=u) (by rw[List.getElem?_append_left hlt];exact hj);rw[<-this];unfold Addr.add;split
    .subst_vars;rfl
    .simp
   have hr:=run_append_grow (P:=prog) w 24 o.type 63 i0 (.agg zv.toArray) underlying24 hi hz0 ⟨g,0,none⟩ css.length cap css.flatten (by rw[hz1,hfl]) holds ad 1 c0 cs (by rw[hz1,hc]) hn (by omega) (by omega) (growslice_fits (by omega) (by rw[hz2];omega))
   have hge:css.length+1<=grownCap w (css.length+1) cap 63:=grownCap_ge w (css.length+1) cap 63;generalize grownCap w (css.length+1) cap 63=cp at *;unfold Oper.wp execOp
   simp only[ho,resolve,invoke,builtin,Sem.run_bind,Sem.run_pure,Result.andThen_ok,List.map_toArray,List.map_cons,List.map_nil,hs,hx,hr]
   refine k _ _ (.inr ⟨w.heap.size,cp,by simp,by simpa using hge,?_⟩) (.inr ((Below.refl w.heap.size w).drew.alloc (Nat.le_refl _) _)) (fun g hg=>.inr (by injection hg with e;exact e.symm))
   have:=aa.new w.drew (css.flatten++(cs++bP (cp-(css.length+1)))) 63;have e3:(css++[cs]).flatten++bP (cp-(css++[cs]).length)=css.flatten++(cs++bP (cp-(css.length+1))):=by simp
   rw[e3];simpa [Value.cells,rf,List.append_assoc]using this
theorem aC.nd2{g:Nat}{w w':World}{ao:Option Addr}{l:List Int}(h:aC g w w')(hx:Nd w ao l)(hf:0<l.length->∀a,ao=some a->a.block≠g):Nd w' ao l:=by
 intro h0;obtain⟨b,off,rfl,hlt,hc⟩:=hx h0;have hne:b≠g:=hf h0 _ rfl;exact⟨b,off,rfl,by rw[h.size];exact hlt,fun i hi=>(h.cell (p:=⟨b,off+i,none⟩) hne).trans (hc i hi)⟩
def NE(g:Nat)(cs:List Value):Prop:=∀i ao n c,(i=3\/i=4\/i=12\/i=13)->cs[i]?=some (.slice ao n c)->0<n->∀a,ao=some a->a.block≠g
theorem dU.ne{base g:Nat}{cs:List Value}(h:dU base cs)(hg:g<base):NE g cs:=fun i ao n c hi e _ a ha=>by
 have:Fr base ao:=by
  rcases hi with rfl | rfl | rfl | rfl
  .exact h.1 ao n c (.inl e)
  .exact h.1 ao n c (.inr e)
  .exact h.2 ao n c (.inl e)
  .exact h.2 ao n c (.inr e)
 have:=this a ha;omega
theorem KI.ne{w:World}{cs:List Value}{a:RA}(h:KI w cs a):NE w.heap.size cs:=by
 obtain⟨cp,cr,cf,rfl,_,h1,h2,h3⟩:=h.arg;obtain⟨ao,cap,so,sc,tO,tc,rfl,g1⟩:=h1;obtain⟨bo,dap,qo,eap,uo,uc,vO,vc,rfl,g2,a1,a2,a3,a4,a5,a6,a7,a8,a9,a10⟩:=h2
 have k:∀{o:Option Addr} {l:List Int},Nd w o l->0<l.length->∀a,o=some a->a.block≠w.heap.size:=fun hN h0 a ha=>by
  obtain⟨b,off,e,hlt,_⟩:=hN h0;rw[ha]at e;cases e;show b≠_;omega
 intro i o n c hi e hn;rcases hi with rfl | rfl | rfl | rfl
 .simp at e;obtain⟨rfl,rfl,rfl⟩:=e;exact k g1.s hn
 .simp at e;obtain⟨rfl,rfl,rfl⟩:=e;exact k g1.t hn
 .simp at e;obtain⟨rfl,rfl,rfl⟩:=e;exact k a7 hn
 .simp at e;obtain⟨rfl,rfl,rfl⟩:=e;exact k a9 hn
theorem KI.only2{w w2:World}{g:Nat}{cs gs:List Value}{a:RA}{T:TypeId}(h:KI w cs a)(nf:NE g cs)(hc:aa w g gs T)(hn:bQ gs)(hO:aC g w w2)(G2:GV w2):KI w2 cs a:=by
 obtain⟨⟨cp,cr,cf,rfl,k,h1,h2,h3⟩,sm,_⟩:=h;have k9:bT w cf a.f:=⟨h3,sm.f0,sm.f1,sm.f2⟩;obtain⟨ao,cap,so,sc,tO,tc,rfl,g1⟩:=h1
 obtain⟨bo,dap,qo,eap,uo,uc,vO,vc,rfl,g2,a1,a2,a3,a4,a5,a6,a7,a8,a9,a10⟩:=h2
 refine⟨⟨_,_,cf,rfl,k,⟨ao,cap,so,sc,tO,tc,rfl,⟨g1.n,hO.wd g1.x (g1.x.apart hc hn),g1.f,g1.c,hO.nd2 g1.s (nf 3 _ _ _ (.inl rfl) rfl),g1.sf,g1.sc,hO.nd2 g1.t (nf 4 _ _ _ (.inr (.inl rfl)) rfl),g1.tf,g1.tc⟩⟩,⟨bo,dap,qo,eap,uo,uc,vO,vc,rfl,g2,hO.wd a1 (a1.apart hc hn),a2,a3,hO.wd a4 (a4.apart hc hn),a5,a6,hO.nd2 a7 (nf 12 _ _ _ (.inr (.inr (.inl rfl))) rfl),a8,hO.nd2 a9 (nf 13 _ _ _ (.inr (.inr (.inr rfl))) rfl),a10⟩,(k9.only hc hn hO).arg⟩,sm,G2⟩
structure ed (gx:Nat) (w:World) (v:Value) (R:Nat->RA) (css:List (List Value)):Prop where
 lo:kf w v css
 row:∀l c,css[l]?=some c->KI w c (R l)/\(∀g,v.ownBlock=some g->NE g c)/\∀g0,g0<=gx->NE g0 c
theorem ed.l22{gx:Nat}{w:World}{v:Value}{R:Nat->RA}{css:List (List Value)}(h:ed gx w v R css):∀c∈css,c.length=22:=fun c hc=>by
 obtain⟨l,hl⟩:=List.getElem?_of_mem hc;exact(h.row l c hl).1.arg.nine.symm
theorem ed.nil(gx:Nat)(w:World)(R:Nat->RA):ed gx w (.slice none 0 0) R []:=⟨.inl ⟨rfl,rfl⟩,fun l c e=>by simp at e⟩
theorem ed.keep{gx:Nat}{w w':World}{v:Value}{R:Nat->RA}{css:List (List Value)}(h:ed gx w v R css)(hb:Below w.heap.size w w'):ed gx w' v R css:=by
 refine⟨?_,fun l c e=>⟨(h.row l c e).1.keep hb,(h.row l c e).2⟩⟩;rcases h.lo with e | ⟨g,cap,e1,e2,e3⟩
 .exact .inl e
 .exact .inr ⟨g,cap,e1,e2,e3.kept hb⟩
theorem tu{gx:Nat}{w:World}{v:Value}{R:Nat->RA}{css:List (List Value)}(h:ed gx w v R css)(n:Nat):bQ (css.flatten++bP n):=by
 refine bQ.app (bQ.flat fun c hc=>?_) (bQ.flat fun c hc=>?_)
 .obtain⟨l,hl⟩:=List.getElem?_of_mem hc;exact(h.row l c hl).1.nou
 .rw[(List.mem_replicate.1 hc).2];exact tt
theorem lF{w:World}{g:Nat}{xs bs:List Value}{T S:TypeId}(h1:aa w g xs T)(h2:aa w g bs S):T=S:=by
 unfold aa at h1 h2;rw[h1]at h2;injection h2 with e
 injection e
theorem ed.only{gx g0:Nat}{w w2:World}{v:Value}{R:Nat->RA}{css:List (List Value)}{gs:List Value}{T:TypeId}(h:ed gx w v R css)(hg:g0<=gx)(hc:aa w g0 gs T)(hT:T≠63)(hn:bQ gs)(hO:aC g0 w w2)(G2:GV w2):ed gx w2 v R css:=by
 refine⟨?_,fun l c e=>⟨(h.row l c e).1.only2 ((h.row l c e).2.2 g0 hg) hc hn hO G2,(h.row l c e).2⟩⟩;rcases h.lo with e | ⟨g,cap,e1,e2,e3⟩
 .exact .inl e
 .exact .inr ⟨g,cap,e1,e2,hO.cel e3 (fun q=>hT (by subst q;exact lF hc e3))⟩
theorem Tn.cel{w w2:World}{v:Value}{css:List (List Value)}(h:Tn w w2 v css){b:Nat}{bs:List Value}{T:TypeId}(hc:aa w b bs T)(hT:T≠63):aa w2 b bs T:=by
 rcases h with⟨g,cap,rfl,e1,e2⟩ | hb
 .exact e2.cel hc (fun q=>hT (by subst q;exact lF hc e1))
 .exact hc.kept hb
theorem Tn.below{w w2:World}{v:Value}{css:List (List Value)}{base:Nat}(h:Tn w w2 v css)(ho:∀g,v.ownBlock=some g->base<=g)(hb:base<=w.heap.size):Below base w w2:=by
 rcases h with⟨g,cap,rfl,e1,e2⟩ | h
 .exact e2.below (ho g rfl)
 .exact h.mono hb
theorem ed.push{gx:Nat}{w w2:World}{v v2:Value}{R:Nat->RA}{css:List (List Value)}{c:List Value}(h:ed gx w v R css)(hk:KI w c (R css.length))(hn:(∀g,v.ownBlock=some g->NE g c)/\∀g0,g0<=gx->NE g0 c)(h2:kf w2 v2 (css++[c]))(hT:Tn w w2 v css)(hv:∀g,v2.ownBlock=some g->v.ownBlock=some g\/g=w.heap.size)(G2:GV w2):ed gx w2 v2 R (css++[c]):=by
 have st:∀d a,KI w d a->((∀g,v.ownBlock=some g->NE g d)/\∀g0,g0<=gx->NE g0 d)->KI w2 d a/\(∀g,v2.ownBlock=some g->NE g d)/\∀g0,g0<=gx->NE g0 d:=fun d a hd hN=>by
  refine⟨?_,fun g hg=>?_,hN.2⟩
  .rcases hT with⟨g,cap,rfl,e1,e2⟩ | hb
   .exact hd.only2 (hN.1 g rfl) e1 (tu h _) e2 G2
   .exact hd.keep hb
  .rcases hv g hg with e | rfl
   .exact hN.1 g e
   .exact hd.ne
 refine⟨h2,fun l d e=>?_⟩;by_cases q:l<css.length
 .rw[List.getElem?_append_left q]at e;exact st d _ (h.row l d e).1 (h.row l d e).2
 .have q2:l=css.length:=by
   have:=(List.getElem?_eq_some_iff.1 e).1;simp at this;omega
  subst q2;rw[List.getElem?_append_right (Nat.le_refl _),Nat.sub_self]at e;simp at e;subst e;exact st c _ hk hn
theorem Fu(c0 c1 c2 c3 c4 c5 c6 c7 c8 c9 c10 c11 c12 c13 c14 c15 c16 c17 c18 c19 c20 c21:Value):Instr.fill (fun i=>some (i*22,22)) ((Array.range (1*22)).map ((Value.agg zv.toArray).cells[·%(Value.agg zv.toArray).cells.size]!)) [(0,Value.agg #[c0,c1,c2,c3,c4,c5,c6,c7,c8,c9,c10,c11,c12,c13,c14,c15,c16,c17,c18,c19,c20,c21])]=some #[c0,c1,c2,c3,c4,c5,c6,c7,c8,c9,c10,c11,c12,c13,c14,c15,c16,c17,c18,c19,c20,c21]:=by kernel_rfl
theorem Fv(cs:List Value)(h:cs.length=22):Instr.fill (fun i=>some (i*22,22)) ((Array.range (1*22)).map ((Value.agg zv.toArray).cells[·%(Value.agg zv.toArray).cells.size]!)) [(0,Value.agg cs.toArray)]=some cs.toArray:=by
 match cs,h with
 | [c0,c1,c2,c3,c4,c5,c6,c7,c8,c9,c10,c11,c12,c13,c14,c15,c16,c17,c18,c19,c20,c21],_=>exact Fu c0 c1 c2 c3 c4 c5 c6 c7 c8 c9 c10 c11 c12 c13 c14 c15 c16 c17 c18 c19 c20 c21
theorem GL{ops:Array Oper}{rest:List Oper}{d:Option Tmp}{ty:TypeId}{ps:String}{af:Array Edge}{a:Act}{w:World}{Q:Exit->Act->World->Prop}{x:Operand}(cs:List Value)(hc:cs.length=22)(hx:a.eval x=.agg cs.toArray)
  (h:wpList prog ops Q rest (a.put d (.slice (some ⟨w.heap.size,0,none⟩) 1 1)) (w.alloc (.cells cs.toArray 63))):
  wpList prog ops Q (⟨d,.buildSlice 24 1 #[(0,x)],ty,ps,af,none⟩::rest) a w:=by
 obtain⟨i0,hi,hz0,hz1,hz2⟩:=info_parts nX;refine wpList_buildSlice rfl 24 63 1 #[(0,x)] rfl cs.toArray i0 (.agg zv.toArray) underlying24 hi hz0 (by rw[hz1];decide) (by rw[hz1];decide) ?_ h;rw[hz1]
 simp only[List.map_toArray,List.map_cons,List.map_nil,hx];exact Fv cs hc
theorem wM{ops:Array Oper}{rest:List Oper}{o:Oper}{a:Act}{w:World}{Q:Exit->Act->World->Prop}(hgd:o.guard=none)(s x:Operand)
  (ho:o.op=.call { callee:=.builtin .append,args:=#[s,x],argTypes:=#[24,24] })
  (v:Value) (css:List (List Value)) (hs:a.eval s=v) (h:kf w v css) (hL:∀c∈css,c.length=22) (cs:List Value) (hc:cs.length=22) (ad:Addr) (c0:Nat) (hx:a.eval x=.slice (some ad) 1 c0) (hn:∀j u,cs[j]?=some u->w.cell? (ad.add j)=some u) (h1:∀u∈cs,u.oneCell'=true) (h8:css.length<1000000)
  (k:∀v' w',kf w' v' (css++[cs])->Tn w w' v css->(∀g,v'.ownBlock=some g->v.ownBlock=some g\/g=w.heap.size)->wpList prog ops Q rest (a.put o.dst v') w'):wpList prog ops Q (o::rest) a w:=
 wpList_plain hgd fun K hK=>wJ s x ho v css hs h hL cs hc ad c0 hx hn h1 h8 fun v' w' h1 h2 h3=>hK _ _ (k v' w' h1 h2 h3)
theorem ed.lv{gx:Nat}{w:World}{v:Value}{av:List RA}{css:List (List Value)}(h:ed gx w v (fun j=>av.getD j ra0) css)(h8:css.length=av.length):∃lo cap,v=.slice lo av.length cap/\Lv w lo av:=by
 rcases h.lo with⟨e,rfl⟩ | ⟨g,cap,e1,e2,e3⟩
 .have h0:av.length=0:=by simpa using h8.symm
  exact⟨none,0,by rw[h0];exact e,fun q=>absurd q (by omega)⟩
 .rw[h8]at e1 e2;refine⟨_,cap,e1,fun _=>⟨g,0,rfl,e3.lt,fun l hl=>?_⟩⟩;obtain⟨c,hc⟩:∃c,css[l]?=some c:=⟨_,List.getElem?_eq_getElem (by omega)⟩
  obtain⟨p,q,f1,f2⟩:=uT css h.l22 l c hc (bP (cap-css.length));refine⟨c,?_,(h.row l c hc).1⟩;rw[f1]at e3;have:=aa.part p c q e3;rwa [f2,<-Nat.zero_add (l*22)]at this
theorem ox{w:World}{base n c:Nat}{ao:Option Addr}{l:List Bool}(h:w.ownsRow base 4 1 (.slice ao n c) n (l.map .bool))(hn:n=l.length):Bl w ao l:=by
 intro h0;obtain⟨_,⟨e,_⟩ | ⟨g,cap,cur,e,_,hh,_,_,hs,ht⟩⟩:=h
 .injection e with e1 e2 e3
  omega
 .injection e with e1 e2 e3
  subst e1;refine⟨g,0,rfl,(Array.getElem?_eq_some_iff.1 hh).1,fun i hi=>?_⟩
  have e5:cur.toList[i]?=some (.bool (bt l i)):=by
   have:(l.map Value.bool)[i]?=some (.bool (bt l i)):=by
    unfold bt;rw[List.getElem?_map,List.getD_eq_getElem?_getD,List.getElem?_eq_getElem hi];rfl
   rw[<-ht,List.getElem?_take_of_lt (by omega)]at this;exact this
  rw[Nat.zero_add];unfold World.cell?;rw[show w.heap[({ block:=g,off:=i,spot:=none }:Addr).block]?=_ from hh];simpa using e5
section
variable {P:Program} {ops:Array Oper} {Q:Exit->Act->World->Prop} {md:Region.Mode} {S:World->Prop} {ns:List Nat}
theorem az.threeM(i j k:Nat){o p q:Oper}{f:Nat}{l:Array Bool}{a:Act}{w:World}(hr:Region.ready md ops l=[i,j,k])(ho:ops[i]?=some o)(hp:ops[j]?=some p)(hq:ops[k]?=some q)
  (h:∀K:Act->World->Prop,Shut (∀a' w',(i ∉ ns->S w')->az P md ops Q S ns f (l.setIfInBounds i true) a' w'->K a' w')->if Region.wanted o (yielded ops a.tmps)=true then Oper.wp P o a w K Q else K (a.put o.dst undef) w)
  (h2:∀K:Act->World->Prop,Shut (∀a' w',(j ∉ ns->S w')->az P md ops Q S ns f (l.setIfInBounds j true) a' w'->K a' w')->if Region.wanted p (yielded ops a.tmps)=true then Oper.wp P p a w K Q else K (a.put p.dst undef) w)
  (h3:∀K:Act->World->Prop,Shut (∀a' w',(k ∉ ns->S w')->az P md ops Q S ns f (l.setIfInBounds k true) a' w'->K a' w')->if Region.wanted q (yielded ops a.tmps)=true then Oper.wp P q a w K Q else K (a.put q.dst undef) w):
  az P md ops Q S ns (f+1) l a w:=by
 refine⟨fun h0=>absurd (hr.symm.trans h0) (by simp),fun x hx=>?_⟩;rw[hr]at hx;rcases List.mem_cons.1 hx with rfl | hx
 .exact wpOp_step ho (fun K hK=>h K (fun a' w' hS hW=>hK a' w' ⟨fun n _=>hS n,hW⟩))
 .rcases List.mem_cons.1 hx with rfl | hx
  .exact wpOp_step hp (fun K hK=>h2 K (fun a' w' hS hW=>hK a' w' ⟨fun n _=>hS n,hW⟩))
  .obtain rfl:=List.mem_singleton.1 hx;exact wpOp_step hq (fun K hK=>h3 K (fun a' w' hS hW=>hK a' w' ⟨fun n _=>hS n,hW⟩))
end
theorem gR{ops:Array Oper}{d:Option Tmp}{ty T:TypeId}{ps:String}{af:Array Edge}{a:Act}{w:World}{K:Act->World->Prop}{Q:Exit->Act->World->Prop}{E:Prop}{x y:Operand}
  (g:Nat) (old cs:List Value) (hx:a.eval x=.pointer (some ⟨g,0,none⟩)) (hy:a.eval y=.agg cs.toArray) (hc:aa w g old T) (lo:old.length=cs.length) (hi:(prog.info? T).map (·.size)=some cs.length) (h1:cs.toArray.all (·.oneCell')=true)
  (h:∀w1,aa w1 g cs T->aC g w w1->K (a.put d undef) w1):
  if Region.wanted (⟨d,.store T x y,ty,ps,af,none⟩:Oper) (yielded ops a.tmps)=true then Oper.wp prog (⟨d,.store T x y,ty,ps,af,none⟩:Oper) a w K Q else E:=by
 rw[if_pos (by simp[Region.wanted])];exact wp_store_row _ x y rfl g cs.toArray hx hy _ _ hc (by simpa using hi) (by simpa using lo) h1 (h _ (setRow_heap w g _ _ _ _ hc) (aC.row g w _))
end Go.Proofs.YtleegaihbgbcjabGreatDoor
