import Derived.Test.YtleegaihbgbcjaaGreatDoorK20
set_option linter.unusedVariables false
set_option linter.unusedSimpArgs false
set_option maxRecDepth 100000
set_option maxHeartbeats 16000000
open Go.Proofs.Tryz
namespace Go.Proofs.YtleegaihbgbcjaaGreatDoor
open Go.RowKit Num Bit
theorem FM(l:List Nat)(v q:Nat)(h:q<l.length):hiP (l.take (q+1)) v=hiP (l.take q) v++[gt l q/2^v+q]:=by
 have e1:(l.take (q+1)).length=q+1:=by rw[List.length_take];omega
 have e2:(l.take q).length=q:=by rw[List.length_take];omega
 unfold hiP;rw[e1,e2,List.range_succ,List.map_append];congr 1
 .refine List.map_congr_left fun i hi=>?_;have hi:=List.mem_range.1 hi;rw[om l (q+1) i (by omega),om l q i hi]
 .simp only[List.map_cons,List.map_nil];rw[om l (q+1) q (by omega)]
open Go.RowKit Go.Shelf Num Bit
attribute [local go_sem] Oper.semAt_some
theorem Gc(n:Nat)(ao:Option Addr)(xs:List Nat)(cap:Nat)(w:World)(hx:Wd w ao xs)(fx:Fit xs)(ck:ar (n:Int) xs=true)(hn:n<=3000)(L:List Nat)(hL:L=plc (bitAt xs) n)(m v HN k:Nat)(hm:m=L.length)(hv:v=wdF n m)(hH:HN=hiN L n v)(hk0:k=(HN+63)/64):
  Calls prog 158 #[.agg #[.int .i64 n,.slice ao xs.length cap],.int .i64 m] w fun e w'=>∃g,e=.returned (.tuple #[.agg #[.int .i64 HN,.slice (some ⟨g,0,none⟩) k k],.int .i64 0])/\Own w' g (rowOf HN (isIn (hiP L v)))/\w.heap.size<=g/\Below w.heap.size w w':=by
 have RS:aR L n:=by rw[hL];exact jd _ _
 have mn:m<=n:=by rw[hm];exact RS.len
 have v20:v<=20:=by rw[hv];exact gT n m (by omega)
 have hE:n/2^v<=n:=Nat.div_le_self _ _;have HN1:HN<=6001:=by rw[hH];unfold hiN;omega
 have HR:Hid (aR (hiP L v) HN):=by show aR _ _;rw[hH];exact vY v RS
 have OC:Hid (∀w0,Calls prog 227 #[.agg #[.int .i64 n,.slice ao xs.length cap]] w0 fun e w'=>e=.returned (.func (.func 270) #[] #[.pointer (some ⟨w0.heap.size,0,none⟩)])/\w'=w0.alloc (.cells #[.int .i64 n,.slice ao xs.length cap] 33)):=fun w0=>p9 n ao xs cap w0
 have WC:Hid (∀w0,Qx 230 #[.int .i64 n,.int .i64 m] w0 (.int .i64 (v:Nat))):=fun w0=>by rw[hv];exact oh n m (by omega) mn w0
 have SZ:Hid (∀w0,Qx 229 #[.int .i64 n,.int .i64 m] w0 (.int .i64 HN)):=fun w0=>by
  have:=wn n m (by omega) mn w0;rw[<-hv,show m+n/2^v+1=HN by rw[hH,hm];rfl]at this;exact this
 have NC:Hid (∀w0,Calls prog 90 #[.int .i64 HN] w0 fun e w'=>∃g,e=.returned (.tuple #[.agg #[.int .i64 HN,.slice (some ⟨g,0,none⟩) k k],.int .i64 0])/\w0.heap.size<=g/\g<w'.heap.size/\Own w' g (rowOf HN (fun _=>false))/\Below w0.heap.size w0 w'):=fun w0=>by
  have:=lZ (HN:Int) k w0 (by omega) (by omega) (by rw[hk0];omega);rw[lM HN k hk0]at this;exact this
 have SC:Hid (∀w0 g f p,Own w0 g (rowOf HN f)->p<HN->Calls prog 203 #[.slice (some ⟨g,0,none⟩) k k,.int .i64 (p:Nat)] w0 fun e w'=>(∃v,e=.returned v)/\Own w' g (rowOf HN (fun j=>f j||p==j))/\aL g w0 w'):=fun w0 g f p hO hp=>by
  have:=wh HN f g k p w0 hO hp (by omega);rw[cU,<-hk0]at this;exact this
 have GO:Hid (∀(w0:World) (B:Nat) (K:Nat->Prop),Wd w0 ao xs->aa w0 B [.int .i64 n,.slice ao xs.length cap] 33->K B->(∀p,ao=some p->0<xs.length->K p.block)->jE prog 270 #[.pointer (some ⟨B,0,none⟩)] m (fun q=>#[.int .i64 q,.int .i64 (gt L q:Nat)]) K w0):=fun w0 B K h1 h2 h3 h4=>by
  have:=p_ B n ao xs cap K w0 h1 fx h2 h3 h4 ck;rw[<-hL,<-hm]at this;exact this
 have HM:=aG hm;clear hL hm hv hH hk0 hE;refine(callsIn_wide (n:=0)).1 (callsIn_of_wp_marks func158 rfl trivial ?_)
 simp only[ntmps158,List.size_toArray,List.length_cons,List.length_nil,Nat.reduceAdd,Nat.reduceSub,Array.replicate_succ,Array.replicate_zero,List.push_toArray,List.append_toArray,List.nil_append,List.cons_append]
 refine wpIn_wide.2 ?_;obtain⟨W1,hW1⟩:∃W1,W1=(w.alloc (.cells #[.int .i64 n,.slice ao xs.length cap] 33)).alloc (.cells #[.int .i64 0,.slice none 0 0] 33):=⟨_,rfl⟩
 have b1:Below w.heap.size w W1:=by rw[hW1];exact((below_alloc w _).alloc (by simp only[World.size_alloc];omega) _)
 have z1:W1.heap.size=w.heap.size+2:=by rw[hW1];simp
 have c0:aa W1 w.heap.size [.int .i64 n,.slice ao xs.length cap] 33:=by rw[hW1];exact(aa.new w _ _).alloc _
 have c1:aa W1 (w.heap.size+1) [.int .i64 0,.slice none 0 0] 33:=by rw[hW1];exact aa.new2 w _ _ _
 go_wp2_with fail;rw[<-hW1];clear hW1;refine mr (SZ.out _) fun ws hs=>?_;rw[hs];clear hs ws SZ;go_wp2_with fail;refine(NC.out _).mono ?_;rintro e w2 ⟨g,rfl,hg1,hg2,hO,hb⟩
 have zf:w.heap.size+2<=g:=by omega
 replace b1:=bg b1 hb;replace c0:=c0.kept hb;replace c1:=c1.kept hb;clear hb NC z1 hg1;obtain⟨g2,hgg⟩:∃g,g=w2.heap.size:=⟨_,rfl⟩
 obtain⟨W2,hW2⟩:∃W2,W2=w2.alloc (.cells #[.int .i64 HN,.slice (some ⟨g,0,none⟩) k k] 33):=⟨_,rfl⟩;have bA:Below w2.heap.size w2 W2:=by rw[hW2];exact below_alloc w2 _
 have z2:W2.heap.size=g2+1:=by rw[hW2,hgg];simp
 have c2:aa W2 g2 [.int .i64 HN,.slice (some ⟨g,0,none⟩) k k] 33:=by rw[hW2,hgg];exact aa.new w2 _ _
 have d0:aa (w2.alloc (.cells #[.int .i64 HN,.slice (some ⟨g,0,none⟩) k k] 33)) w.heap.size [.int .i64 n,.slice ao xs.length cap] 33:=c0.alloc _;have q0:=d0.cell 0 rfl;have HG:=aG hgg
 rw[<-hgg]at hg2;clear hgg;have HW2:=aG hW2;clear hW2;have HZF:=aG zf;clear zf;go_wp2_with fail;rw[<-HW2.out,<-HG.out];refine mr (WC.out _) fun ws hs=>?_;rw[hs];clear hs ws WC q0 d0
 obtain⟨W3,hW3⟩:∃W3,W3=W2.alloc (.cells #[.int .i64 (v:Nat)] 3):=⟨_,rfl⟩;have bB:Below W2.heap.size W2 W3:=by rw[hW3];exact below_alloc W2 _
 have z3:W3.heap.size=g2+2:=by rw[hW3];simp[z2]
 have c3:aa W3 (g2+1) [.int .i64 (v:Nat)] 3:=by rw[hW3,<-z2];exact aa.new W2 _ _
 have d0:aa (W2.alloc (.cells #[.int .i64 (v:Nat)] 3)) w.heap.size [.int .i64 n,.slice ao xs.length cap] 33:=(c0.kept bA).alloc _;have q0:=d0.cell 0 rfl;have q1:=d0.cell 1 rfl;have HW3:=aG hW3;clear hW3
 go_wp2_with fail;rw[<-HW3.out];refine(OC.out _).mono ?_;rintro e w' ⟨rfl,hw'⟩;have bC:Below W3.heap.size W3 w':=by rw[hw'];exact below_alloc W3 _
 have z4:w'.heap.size=g2+3:=by rw[hw'];simp[z3]
 have c4:aa w' (g2+2) [.int .i64 n,.slice ao xs.length cap] 33:=by rw[hw',<-z3];exact aa.new W3 _ _
 rw[z3];have zf:=HZF.out;have zg:w.heap.size<=g2:=by omega
 have bD:Below w2.heap.size w2 w':=bA.trans ((bB.mono (by rw[<-HG.out];omega)).trans (bC.mono (by rw[<-HG.out];omega)));have b4:Below w.heap.size w w':=b1.trans (bD.mono (by rw[<-HG.out];omega))
 replace c0:=c0.kept bD;replace c1:=c1.kept bD;replace c2:=(c2.kept bB).kept bC;replace c3:=c3.kept bC;replace hO:=hO.keep bD;clear b1 bA bB bC bD OC HW2 HW3 HG hw' d0 q0 q1 HZF z2 z3 W1 W2 W3 w2;go_wp2
 have G:=GO.out w' (g2+2) (fun b=>b≠g/\b≠w'.heap.size+1) (hx.keep b4) c4 (by omega) (fun p hp h0=>by have:=hx.blk hp h0;omega)
 have I0:Own w' g (rowOf HN (isIn (hiP (L.take 0) v))):=by
  rw[dc HN (isIn (hiP (L.take 0) v)) (fun _=>false) fun i _=>by simp[isIn,hiP]];exact hO
 clear hO GO
 refine iE (gf:=270) (lb:=#[.pointer (some ⟨g2+2,0,none⟩)]) (K:=fun b=>b≠g) rfl (enters_of func270 (by kernel_rfl) rfl) (fun _=>rfl) G (fun b hb=>by omega)
  (fun q Wc=>az (fun b=>b≠g) w' Wc/\Own Wc g (rowOf HN (isIn (hiP (L.take q) v)))) (fun q Wc=>False) (fun q A B h hb=>⟨h.1.more hb (Nat.le_refl _),(hb.block g (by omega)).trans h.2⟩) (fun q A B h hb=>h) ⟨az.refl _ _,I0⟩
  (fun q=>{ tmps:=#[.agg #[.int .i64 n,.slice ao xs.length cap],.int .i64 m,.pointer (some ⟨w.heap.size,0,none⟩),undef,.pointer (some ⟨w.heap.size+1,0,none⟩),.int .i64 0,.pointer (some ⟨g2,0,none⟩),.int .i64 0,.pointer (some ⟨g2+1,0,none⟩),.int .i64 (q:Nat),.int .i64 (gt L q:Nat),.tuple #[.agg #[.int .i64 HN,.slice (some ⟨g,0,none⟩) k k],.int .i64 0],.pointer (some ⟨w.heap.size,0,none⟩),.int .i64 n,.int .i64 m,.int .i64 HN,.tuple #[.agg #[.int .i64 HN,.slice (some ⟨g,0,none⟩) k k],.int .i64 0],.agg #[.int .i64 HN,.slice (some ⟨g,0,none⟩) k k],.int .i64 0,.int .i64 0,.bool false,undef,undef,.pointer (some ⟨w.heap.size,0,none⟩),.int .i64 n,.int .i64 m,.int .i64 (v:Nat),.agg #[.int .i64 n,.slice ao xs.length cap],.func (.func 270) #[] #[.pointer (some ⟨g2+2,0,none⟩)],.int .i64 (q:Nat),.int .i64 (gt L q:Nat),undef,undef,undef,undef,undef,undef,undef,undef,undef],defers:=[] }) ?assign ?body ?done ?stop
 case assign=>
  intro l1 q Wc K1 hK1;gi_wp2;exact hK1
 case body=>
  rintro l1 q Wc hq ⟨hk,hO⟩ hz;have cB:=hk.cel c2 (by omega);have cV:=hk.cel c3 (by omega);have qL:q<L.length:=by rw[<-HM.out];exact hq
  have hlt:=RS.1 q qL
  have hpl:gt L q/2^v+q<HN:=by
   have:=HR.out.1 q (by rw[kA];exact qL);rw[kM L v q qL]at this;exact this
  have S1:=aG (fun w0 h=>SC.out w0 g (isIn (hiP (L.take q) v)) (gt L q/2^v+q) h hpl)
  have RW:Hid (rowOf HN (fun j=>isIn (hiP (L.take q) v) j||gt L q/2^v+q==j)=rowOf HN (isIn (hiP (L.take (q+1)) v))):=by
   show rowOf _ _=_;refine dc _ _ _ fun j _=>?_;rw[FM L v q qL,vB]
  generalize gt L q=x at *;obtain⟨d,hd⟩:∃d,Hid (d=x/2^v):=⟨_,rfl⟩;have sd:(x:Int)/2^v=(d:Int):=by rw[hd.out,Int.natCast_ediv,Int.natCast_pow];rfl
  have S2:Hid (∀w0,Own w0 g (rowOf HN (isIn (hiP (L.take q) v)))->Calls prog 203 #[.slice (some ⟨g,0,none⟩) k k,.int .i64 (IntKind.i64.wrap ((d:Int)+(q:Int)))] w0 fun e w'=>(∃v,e=.returned v)/\Own w' g (rowOf HN (isIn (hiP (L.take (q+1)) v)))/\aL g w0 w'):=fun w0 h=>by
   have:=S1.out w0 h;rw[RW.out,<-hd.out]at this;rw[<-hd.out]at hpl;rw[show IntKind.i64.wrap ((d:Int)+(q:Int))=((d+q:Nat):Int)by rw[IntKind.wrap_i64];omega];exact this
  have v64:(v:Int)<64:=by omega
  clear G S1 RW SC;gi_wp2_with fail;refine pL [] (fun w0=>aa w0 g2 [.int .i64 HN,.slice (some ⟨g,0,none⟩) k k] 33/\aa w0 (g2+1) [.int .i64 (v:Nat)] 3) (by kernel_rfl) ?_
  have hS:(fun w0:World=>aa w0 g2 [.int .i64 HN,.slice (some ⟨g,0,none⟩) k k] 33/\aa w0 (g2+1) [.int .i64 (v:Nat)] 3) Wc.drew:=⟨cB,cV⟩
  refine aI.take 0 (v:=?vv1) (bG _) rfl (by kernel_rfl) (by kernel_rfl) (by kernel_rfl) (by kernel_rfl) (by kernel_rfl) (fun _ _ _ h=>h) hS ?hy1 (by rfl) ?rest1
  case hy1=>
   intro w0 h0;go_simp;try with_reducible rfl
  simp only[Act.put,ak,aj,ai,ae,ah,ag];refine aI.take 1 (v:=?vv2) (bG _) rfl (by kernel_rfl) (by kernel_rfl) (by kernel_rfl) (by kernel_rfl) (by kernel_rfl) (fun _ _ _ h=>h) hS ?hy2 (by rfl) ?rest2
  case hy2=>
   intro w0 h0;have:=h0.1.cell 1 rfl;go_simp;try with_reducible rfl
  simp only[Act.put,ak,aj,ai,ae,ah,ag];refine aI.take 2 (v:=?vv3) (bG _) rfl (by kernel_rfl) (by kernel_rfl) (by kernel_rfl) (by kernel_rfl) (by kernel_rfl) (fun _ _ _ h=>h) hS ?hy3 (by rfl) ?rest3
  case hy3=>
   intro w0 h0;go_simp;try with_reducible rfl
  simp only[Act.put,ak,aj,ai,ae,ah,ag];refine aI.take 3 (v:=?vv4) (bG _) rfl (by kernel_rfl) (by kernel_rfl) (by kernel_rfl) (by kernel_rfl) (by kernel_rfl) (fun _ _ _ h=>h) hS ?hy4 (by rfl) ?rest4
  case hy4=>
   intro w0 h0;have:=h0.2.cell 0 rfl;go_simp;try with_reducible rfl
  simp only[Act.put,ak,aj,ai,ae,ah,ag];refine aI.take 4 (v:=?vv5) (bG _) rfl (by kernel_rfl) (by kernel_rfl) (by kernel_rfl) (by kernel_rfl) (by kernel_rfl) (fun _ _ _ h=>h) hS ?hy5 (by rfl) ?rest5
  case hy5=>
   intro w0 h0;go_simp;try with_reducible rfl
  simp only[Act.put,ak,aj,ai,ae,ah,ag];refine aI.take 5 (v:=?vv6) (bG _) rfl (by kernel_rfl) (by kernel_rfl) (by kernel_rfl) (by kernel_rfl) (by kernel_rfl) (fun _ _ _ h=>h) hS ?hy6 (by rfl) ?rest6
  case hy6=>
   intro w0 h0;go_simp;try with_reducible rfl
  simp only[Act.put,ak,aj,ai,ae,ah,ag];refine aI.take 6 (v:=?vv7) (bG _) rfl (by kernel_rfl) (by kernel_rfl) (by kernel_rfl) (by kernel_rfl) (by kernel_rfl) (fun _ _ _ h=>h) hS ?hy7 (by rfl) ?rest7
  case hy7=>
   intro w0 h0;go_simp;try with_reducible rfl
  simp only[Act.put,ak,aj,ai,ae,ah,ag];refine aI.one 7 (bG _) (by kernel_rfl) rfl (fun _ h=>by cases h) (by rfl) ?_;intro K2 hK2;go_simp;refine⟨rfl,?_⟩
  refine(CallsIn.inRound l1 (callsIn_wide.2 (S2.out Wc.drew hO.drew'))).mono ?_;rintro e W3 ⟨⟨u,rfl⟩,hO3,hT⟩
  have kT:az (fun b=>b≠g) Wc W3:=⟨hT.os,hT.tape,hT.output,Nat.le_of_eq hT.size.symm,fun b hb _=>hT.block b hb⟩;have HE:=aG (And.intro kT (And.intro (hk.trans kT) hO3))
  have hS3:aa W3 g2 [.int .i64 HN,.slice (some ⟨g,0,none⟩) k k] 33/\aa W3 (g2+1) [.int .i64 (v:Nat)] 3:=⟨kT.cel cB (by omega),kT.cel cV (by omega)⟩;clear kT hT hO3;refine hK2.out _ _ (fun _=>hS3) ?_
  clear hK2 K2;refine aI.done (by kernel_rfl) ?_ _;gi_wp2;exact HE.out
 case done=>
  rintro D Wc hD ⟨hk,hO⟩ hd;rw[HM.out,List.take_of_length_le (Nat.le_refl _)]at hO;have cR:=hk.cel c1 (by omega);have cB:=hk.cel c2 (by omega)
  have hb:=b4.trans (hk.below (B:=w.heap.size) (fun x h=>by omega) (by omega));have DN:D≠g/\D≠w.heap.size+1/\w.heap.size<=D:=⟨by omega,by omega,by omega⟩
  have gN:g≠w.heap.size+1/\w.heap.size<=g:=⟨by omega,by omega⟩;clear hk c0 c1 c2 c3 c4 G
  go_wp2_with (first | refine iJ g2 _ rfl cB underlying33 iN ?_ | refine aP (w.heap.size+1) [.int .i64 0,.slice none 0 0] _ rfl rfl cR rfl iN (by simp[Value.oneCell']) ?_);intro w3 B3 O3
  have b5:=hb.trans (O3.below (Nat.le_succ _));have hO3:Own w3 g (rowOf HN (isIn (hiP L v))):=(O3.block g gN.1).trans hO;have hd3:w3.heap[D]?=some (.deferred (some [])):=(O3.block D DN.2.1).trans hd
  have HZ:=aG (And.intro B3 (And.intro hO3 (And.intro hd3 b5)));clear B3 O3 hO3 hd3 b5 hd hO cB cR;go_wp2;obtain⟨B3,hO3,hd3,b5⟩:=HZ.out
  have cR2:=B3.put (.deferred none) (show w.heap.size+1≠D from fun e=>DN.2.1 e.symm)
  have hO4:Own (w3.putObj D (.deferred none)) g (rowOf HN (isIn (hiP L v))):=(World.putObj_heap_other (fun e=>DN.1 e.symm)).trans hO3
  exact fb hd3 (bJ rfl (w.heap.size+1) _ rfl cR2 underlying33 iN) ⟨g,rfl,hO4,gN.2,b5.trans (dt DN.2.2 _)⟩
 case stop=>
  rintro D q Wc hD hq h hd;exact h.elim
attribute [local go_sem] Oper.semAt_some
theorem FQ(m:Nat)(f:Nat->Nat)(i:Nat)(h:i<m):gt ((List.range m).map f) i=f i:=by
 unfold gt;rw[List.getD_eq_getElem?_getD,List.getElem?_map,List.getElem?_range h];rfl
def fZ(L:List Nat)(v q:Nat):List Nat:=(List.range L.length).map fun j=>if j<q then gt L j%2^v else 0
theorem nR(L:List Nat)(v q:Nat):(fZ L v q).length=L.length:=by simp[fZ]
theorem Dh(L:List Nat)(v:Nat):fZ L v 0=List.replicate L.length 0:=by
 unfold fZ;rw[List.eq_replicate_iff];refine⟨by simp,fun b hb=>?_⟩;rw[List.mem_map]at hb;obtain⟨j,_,rfl⟩:=hb;simp
theorem Dj(L:List Nat)(v:Nat)(hv:0<v):fZ L v L.length=loP L v:=by
 refine Bit.list_ext _ _ (by rw[nR,jM L v hv]) fun i hi=>?_;rw[nR]at hi;rw[ox L v i hv hi];unfold fZ;rw[FQ _ _ _ hi,if_pos hi]
theorem Di(L:List Nat)(v q:Nat)(h:q<L.length):(fZ L v q).set q (gt L q%2^v)=fZ L v (q+1):=by
 refine List.ext_getElem? fun i=>?_;rw[List.getElem?_set,nR];unfold fZ;by_cases c:i<L.length
 .rw[List.getElem?_map,List.getElem?_map,List.getElem?_range c];by_cases d:q=i
  .subst d;simp[c]
  .rw[if_neg d];simp only[Option.map_some];congr 1;by_cases e:i<q
   .rw[if_pos e,if_pos (by omega)]
   .rw[if_neg e,if_neg (by omega)]
 .rw[if_neg (by omega),List.getElem?_eq_none (by simp;omega),List.getElem?_eq_none (by simp;omega)]
theorem DS(n:Nat)(L:List Nat)(v:Nat)(hn:n<=3000)(hl:L.length<=n)(hv:v<=20):iK ((max v 1:Nat):Int) (loP L v)=0:=by
 unfold iK;rw[if_neg];have h1:=qr L v;have h2:(loP L v).length*max v 1<=3000*20:=Nat.mul_le_mul (by omega) (by omega);rintro(h | h | h | h)
 .omega
 .omega
 .rw[<-Int.natCast_mul]at h;omega
 .exact h fun j hj=>(qu _ _).2 (qj L v j)
theorem mD:(prog.info? 38).map (·.size)=some 4:=by kernel_rfl
theorem FZ(n:Nat)(ao:Option Addr)(xs:List Nat)(cap:Nat)(w:World)(m:Nat)(hn:n<=3000)(mn:m<=n)(h0:wdF n m=0):
  Calls prog 157 #[.agg #[.int .i64 n,.slice ao xs.length cap],.int .i64 m] w fun e w'=>∃bo bc,e=.returned (.tuple #[.agg #[.int .i64 0,.int .i64 1,.int .i64 0,.slice bo 0 bc],.int .i64 0])/\Below w.heap.size w w':=by
 obtain⟨i6,hi6,za6,zb6,zc6⟩:=info_parts Tryz.info81
 have SZ:Hid (∀w0,Qx 226 #[.int .i64 n,.int .i64 m] w0 (.tuple #[.int .i64 0,.int .i64 1])):=fun w0=>by
  have:=qI n m (by omega) mn w0;unfold loN at this;rw[h0,if_pos rfl]at this;exact this
 have MC:Hid (∀w0 g,Calls prog 224 #[.int .i64 1,.slice (some ⟨g,0,none⟩) 0 0] w0 fun e w'=>∃bo bc,e=.returned (.tuple #[.agg #[.int .i64 0,.int .i64 1,.int .i64 0,.slice bo 0 bc],.int .i64 0])/\Below w0.heap.size w0 w'):=fun w0 g=>by
  refine(qh 1 (some ⟨g,0,none⟩) [] 0 0 w0 (dU _ _) (fun i=>by unfold gt;simp) (by decide) (by decide)).mono ?_;rintro e w' ⟨g',rfl,_,_,hb⟩;exact⟨_,_,rfl,hb⟩
 clear h0;refine(callsIn_wide (n:=0)).1 (callsIn_of_wp_marks func157 rfl trivial ?_)
 simp only[ntmps157,List.size_toArray,List.length_cons,List.length_nil,Nat.reduceAdd,Nat.reduceSub,Array.replicate_succ,Array.replicate_zero,List.push_toArray,List.append_toArray,List.nil_append,List.cons_append]
 refine wpIn_wide.2 ?_;obtain⟨W1,hW1⟩:∃W1,W1=(w.alloc (.cells #[.int .i64 n,.slice ao xs.length cap] 33)).alloc (.cells #[.int .i64 0,.int .i64 0,.int .i64 0,.slice none 0 0] 38):=⟨_,rfl⟩
 have b1:Below w.heap.size w W1:=by rw[hW1];exact((below_alloc w _).alloc (by simp only[World.size_alloc];omega) _)
 have z1:W1.heap.size=w.heap.size+2:=by rw[hW1];simp
 have c1:aa W1 (w.heap.size+1) [.int .i64 0,.int .i64 0,.int .i64 0,.slice none 0 0] 38:=by rw[hW1];exact aa.new2 w _ _ _
 go_wp2_with fail;rw[<-hW1];clear hW1;refine mr (SZ.out _) fun ws hs=>?_;rw[hs];clear hs ws SZ;obtain⟨W2,hW2⟩:∃W2,W2=W1.alloc (.cells #[.int .i64 1] 3):=⟨_,rfl⟩
 have b2:Below W1.heap.size W1 W2:=by rw[hW2];exact below_alloc W1 _
 have z2:W2.heap.size=w.heap.size+3:=by rw[hW2];simp[z1]
 have c2:aa W2 (w.heap.size+2) [.int .i64 1] 3:=by rw[hW2,<-z1];exact aa.new W1 _ _
 go_wp2_with (at_make;rw[<-hW2];refine wpList_make_full _ rfl _ _ 31 rfl W2.heap.size 81 i6 (.int .u64 0) 1 underlying31 hi6 za6 zb6 .i64 .i64 _ _ 0 rfl rfl rfl rfl ?b2 ?b3 ?b4 ?_)
 case b2=>rw[zc6];omega
 case b3=>unfold maxLen;omega
 case b4=>exact Nat.le_refl _
 intro w3 hown hgr;have b3:Below W2.heap.size W2 w3:=by rw[hW2];exact(Below.refl _ _).grown hgr (Nat.le_refl _) (fun k h=>by cases h)
 have bb:Below w.heap.size w w3:=b1.trans ((b2.mono (by omega)).trans (b3.mono (by omega)));replace c1:=(c1.kept b2).kept b3;replace c2:=c2.kept b3;clear hown hgr b1 b2 b3 hW2
 have bA:=below_alloc w3 (.cells #[.slice (some ⟨w.heap.size+2+1,0,none⟩) 0 0] 31);have d2:=c2.kept bA;have d1:=c1.kept bA;have q0:=d2.cell 0 rfl;go_wp2_with fail;refine(MC.out _ _).mono ?_
 rintro e w4 ⟨bo,bc,rfl,hb⟩;have b5:=(bg bb bA).trans (hb.mono (Nat.le_trans bb.size bA.size));replace d1:=d1.kept hb;clear hb q0 d2 c1 c2 bA bb
 go_wp2_with (refine aP (w.heap.size+1) [.int .i64 0,.int .i64 0,.int .i64 0,.slice none 0 0] _ rfl rfl d1 rfl mD (by simp[Value.oneCell']) ?_);intro w5 B3 O3
 have HZ:=aG (And.intro B3 (b5.trans (O3.below (Nat.le_succ _))));clear B3 O3 b5 d1;go_wp2;exact⟨_,bJ rfl (w.heap.size+1) _ rfl HZ.out.1 underlying38 mD,bo,bc,rfl,HZ.out.2⟩
theorem FY(n:Nat)(ao:Option Addr)(xs:List Nat)(cap:Nat)(w:World)(hx:Wd w ao xs)(fx:Fit xs)(ck:ar (n:Int) xs=true)(hn:n<=3000)(L:List Nat)(hL:L=plc (bitAt xs) n)(m v:Nat)(hm:m=L.length)(hv:v=wdF n m)(hv0:0<v):
  Calls prog 157 #[.agg #[.int .i64 n,.slice ao xs.length cap],.int .i64 m] w fun e w'=>∃g k,e=.returned (.tuple #[.agg #[.int .i64 m,.int .i64 v,.int .i64 ((m:Int)*(v:Int)),.slice (some ⟨g,0,none⟩) k k],.int .i64 0])/\k=(mkS (loP L v) v m).length/\Own w' g (mkS (loP L v) v m)/\Below w.heap.size w w':=by
 have RS:aR L n:=by rw[hL];exact jd _ _
 have mn:m<=n:=by rw[hm];exact RS.len
 have v20:v<=20:=by rw[hv];exact gT n m (by omega)
 have m0:0<m:=by
  refine Nat.pos_of_ne_zero fun c=>?_;rw[c]at hv;unfold wdF at hv;rw[if_pos rfl]at hv;omega
 have m0i:(0:Int)<(m:Int):=by omega
 obtain⟨i6,hi6,za6,zb6,zc6⟩:=info_parts Tryz.info81
 have OC:Hid (∀w0,Calls prog 227 #[.agg #[.int .i64 n,.slice ao xs.length cap]] w0 fun e w'=>e=.returned (.func (.func 270) #[] #[.pointer (some ⟨w0.heap.size,0,none⟩)])/\w'=w0.alloc (.cells #[.int .i64 n,.slice ao xs.length cap] 33)):=fun w0=>p9 n ao xs cap w0
 have SZ:Hid (∀w0,Qx 226 #[.int .i64 n,.int .i64 m] w0 (.tuple #[.int .i64 m,.int .i64 v])):=fun w0=>by
  have:=qI n m (by omega) mn w0;unfold loN at this;rw[<-hv,if_neg (by omega),show max v 1=v by omega]at this;exact this
 have MK:Hid (∀w0,Qx 228 #[.int .i64 v] w0 (.int .u64 (maskI v))):=fun w0=>me v w0
 have MC:Hid (∀w0 g,Own w0 g (loP L v)->Calls prog 224 #[.int .i64 v,.slice (some ⟨g,0,none⟩) m m] w0 fun e w'=>∃g k,e=.returned (.tuple #[.agg #[.int .i64 m,.int .i64 v,.int .i64 ((m:Int)*(v:Int)),.slice (some ⟨g,0,none⟩) k k],.int .i64 0])/\k=(mkS (loP L v) v m).length/\Own w' g (mkS (loP L v) v m)/\Below w0.heap.size w0 w'):=fun w0 g hO=>by
  have e1:=DS n L v hn (by omega) v20;rw[show max v 1=v by omega]at e1;have e2:(loP L v).length=m:=by rw[jM L v hv0,hm]
  have:=qh v (some ⟨g,0,none⟩) (loP L v) m ((m*v+63)/64) w0 hO.wd (fun i=>Nat.lt_of_lt_of_le (qj L v i) (Nat.pow_le_pow_right (show 0<2 by decide) (show max v 1<=64 by omega))) e1 (by rw[e2])
  rw[e2]at this;refine this.mono ?_;rintro e w' ⟨g',rfl,_,h1,h2⟩;exact⟨g',_,rfl,by rw[ku,e2],h1,h2⟩
 have GO:Hid (∀(w0:World) (B:Nat) (K:Nat->Prop),Wd w0 ao xs->aa w0 B [.int .i64 n,.slice ao xs.length cap] 33->K B->(∀p,ao=some p->0<xs.length->K p.block)->jE prog 270 #[.pointer (some ⟨B,0,none⟩)] m (fun q=>#[.int .i64 q,.int .i64 (gt L q:Nat)]) K w0):=fun w0 B K h1 h2 h3 h4=>by
  have:=p_ B n ao xs cap K w0 h1 fx h2 h3 h4 ck;rw[<-hL,<-hm]at this;exact this
 have HM:=aG hm;clear hL hm hv;refine(callsIn_wide (n:=0)).1 (callsIn_of_wp_marks func157 rfl trivial ?_)
 simp only[ntmps157,List.size_toArray,List.length_cons,List.length_nil,Nat.reduceAdd,Nat.reduceSub,Array.replicate_succ,Array.replicate_zero,List.push_toArray,List.append_toArray,List.nil_append,List.cons_append]
 refine wpIn_wide.2 ?_;obtain⟨W1,hW1⟩:∃W1,W1=(w.alloc (.cells #[.int .i64 n,.slice ao xs.length cap] 33)).alloc (.cells #[.int .i64 0,.int .i64 0,.int .i64 0,.slice none 0 0] 38):=⟨_,rfl⟩
 have b1:Below w.heap.size w W1:=by rw[hW1];exact((below_alloc w _).alloc (by simp only[World.size_alloc];omega) _)
 have z1:W1.heap.size=w.heap.size+2:=by rw[hW1];simp
 have c0:aa W1 w.heap.size [.int .i64 n,.slice ao xs.length cap] 33:=by rw[hW1];exact(aa.new w _ _).alloc _
 have c1:aa W1 (w.heap.size+1) [.int .i64 0,.int .i64 0,.int .i64 0,.slice none 0 0] 38:=by rw[hW1];exact aa.new2 w _ _ _
 go_wp2_with fail;rw[<-hW1];clear hW1;refine mr (SZ.out _) fun ws hs=>?_;rw[hs];clear hs ws SZ;obtain⟨W2,hW2⟩:∃W2,W2=W1.alloc (.cells #[.int .i64 v] 3):=⟨_,rfl⟩
 have b2:Below W1.heap.size W1 W2:=by rw[hW2];exact below_alloc W1 _
 have z2:W2.heap.size=w.heap.size+3:=by rw[hW2];simp[z1]
 have c2:aa W2 (w.heap.size+2) [.int .i64 v] 3:=by rw[hW2,<-z1];exact aa.new W1 _ _
 go_wp2_with (at_make;rw[<-hW2];refine wpList_make_full _ rfl _ _ 31 rfl W2.heap.size 81 i6 (.int .u64 0) 1 underlying31 hi6 za6 zb6 .i64 .i64 _ _ m rfl rfl rfl rfl ?b2 ?b3 ?b4 ?_)
 case b2=>rw[zc6];omega
 case b3=>unfold maxLen;omega
 case b4=>exact Nat.le_refl _
 intro w3 hown hgr;have b3:Below W2.heap.size W2 w3:=by rw[hW2];exact(Below.refl _ _).grown hgr (Nat.le_refl _) (fun k h=>by cases h)
 have bb:Below w.heap.size w w3:=b1.trans ((b2.mono (by omega)).trans (b3.mono (by omega)));have hO:Own w3 (w.heap.size+3) (List.replicate m 0):=own_made hown;have z3:w.heap.size+4<=w3.heap.size:=hO.lt
 replace c0:=(c0.kept b2).kept b3;replace c1:=(c1.kept b2).kept b3;replace c2:=c2.kept b3;obtain⟨g4,zh⟩:∃g,w3.heap.size=g:=⟨_,rfl⟩;rw[zh]at z3;clear hown hgr b1 b2 b3 hW2
 obtain⟨W4,hW4⟩:∃W4,W4=w3.alloc (.cells #[.slice (some ⟨w.heap.size+2+1,0,none⟩) m m] 31):=⟨_,rfl⟩;have bA:Below w3.heap.size w3 W4:=by rw[hW4];exact below_alloc w3 _
 have z4:W4.heap.size=g4+1:=by rw[hW4];simp[zh]
 have c4:aa W4 g4 [.slice (some ⟨w.heap.size+3,0,none⟩) m m] 31:=by rw[hW4,<-zh];exact aa.new w3 _ _
 have d0:aa (w3.alloc (.cells #[.slice (some ⟨w.heap.size+2+1,0,none⟩) m m] 31)) w.heap.size [.int .i64 n,.slice ao xs.length cap] 33:=c0.alloc _;have q0:=d0.cell 0 rfl;have q1:=d0.cell 1 rfl
 have HW4:=aG hW4;have HZH:=aG zh;clear hW4 zh;go_wp2_with fail;rw[<-HW4.out,HZH.out];refine(OC.out _).mono ?_;rintro e w' ⟨rfl,hw'⟩;have zh:=HZH.out
 have bC:Below W4.heap.size W4 w':=by rw[hw'];exact below_alloc W4 _
 have z5:w'.heap.size=g4+2:=by rw[hw'];simp[z4]
 have c5:aa w' (g4+1) [.int .i64 n,.slice ao xs.length cap] 33:=by rw[hw',<-z4];exact aa.new W4 _ _
 rw[z4];have bD:Below w3.heap.size w3 w':=bA.trans (bC.mono (by omega));have b4:Below w.heap.size w w':=bb.trans (bD.mono (by omega));replace c0:=c0.kept bD;replace c1:=c1.kept bD;replace c2:=c2.kept bD
 replace c4:=c4.kept bC;replace hO:=hO.keep bD;clear bA bb bC bD OC HW4 HZH hw' d0 q0 q1 z1 z2 zh z4;go_wp2
 have G:=GO.out w' (g4+1) (fun b=>b≠w.heap.size+3/\b≠w'.heap.size+1) (hx.keep b4) c5 (by omega) (fun p hp h0=>by have:=hx.blk hp h0;omega)
 have I0:Own w' (w.heap.size+3) (fZ L v 0):=by
  rw[Dh,<-HM.out];exact hO
 clear hO GO
 refine iE (gf:=270) (lb:=#[.pointer (some ⟨g4+1,0,none⟩)]) (K:=fun b=>b≠w.heap.size+3) rfl (enters_of func270 (by kernel_rfl) rfl) (fun _=>rfl) G (fun b hb=>by omega)
  (fun q Wc=>az (fun b=>b≠w.heap.size+3) w' Wc/\Own Wc (w.heap.size+3) (fZ L v q)) (fun q Wc=>False) (fun q A B h hb=>⟨h.1.more hb (Nat.le_refl _),(hb.block (w.heap.size+3) (by omega)).trans h.2⟩) (fun q A B h hb=>h) ⟨az.refl _ _,I0⟩
  (fun q=>{ tmps:=#[.agg #[.int .i64 n,.slice ao xs.length cap],.int .i64 m,.pointer (some ⟨w.heap.size,0,none⟩),undef,.pointer (some ⟨w.heap.size+1,0,none⟩),.int .i64 0,.int .i64 m,.pointer (some ⟨w.heap.size+2,0,none⟩),.pointer (some ⟨g4,0,none⟩),.int .i64 (q:Nat),.int .i64 (gt L q:Nat),.tuple #[.int .i64 m,.int .i64 v],.pointer (some ⟨w.heap.size,0,none⟩),.int .i64 n,.int .i64 m,.tuple #[.int .i64 m,.int .i64 v],.int .i64 m,.int .i64 v,.int .i64 m,.slice (some ⟨w.heap.size+3,0,none⟩) m m,.int .i64 m,.bool true,.agg #[.int .i64 n,.slice ao xs.length cap],.func (.func 270) #[] #[.pointer (some ⟨g4+1,0,none⟩)],.int .i64 (q:Nat),.int .i64 (gt L q:Nat),undef,undef,undef,undef,undef,undef,undef,undef,undef,undef,undef,undef,undef],defers:=[] }) ?assign ?body ?done ?stop
 case assign=>
  intro l1 q Wc K1 hK1;gi_wp2;exact hK1
 case body=>
  rintro l1 q Wc hq ⟨hk,hO⟩ hz;have cS:=hk.cel c4 (by omega);have cV:=hk.cel c2 (by omega);have qL:q<L.length:=by rw[<-HM.out];exact hq
  have hlt:=RS.1 q qL;have NS:=aG (Di L v q qL);have r0:=hO.cell q (by rw[nR];exact qL);have r1:=hO.frozen q;have hO2:=aG hO;clear hO;generalize gt L q=x at *
  have hq2:(q:Int)<(m:Int):=by omega
  have xu:IntKind.u64.wrap (x:Int)=(x:Int):=by rw[IntKind.wrap_u64];omega
  have AM:bits BinOp.and IntKind.u64 (x:Int) (maskI (v:Int))=((x%2^v:Nat):Int):=by
   rw[mK _ _ (by omega) (by omega),Int.toNat_natCast,Int.toNat_natCast,show min v 64=v by omega]
  generalize x%2^v=y at *;generalize maskI (v:Int)=mk at *;clear G;gi_wp2_with fail
  refine pL [8] (fun w0=>aa w0 g4 [.slice (some ⟨w.heap.size+3,0,none⟩) m m] 31/\aa w0 (w.heap.size+2) [.int .i64 v] 3) (by kernel_rfl) ?_
  have hS:(fun w0:World=>aa w0 g4 [.slice (some ⟨w.heap.size+3,0,none⟩) m m] 31/\aa w0 (w.heap.size+2) [.int .i64 v] 3) Wc.drew:=⟨cS,cV⟩
  refine aI.take 0 (v:=?vv1) (bG _) rfl (by kernel_rfl) (by kernel_rfl) (by kernel_rfl) (by kernel_rfl) (by kernel_rfl) (fun _ _ _ h=>h) hS ?hy1 (by rfl) ?rest1
  case hy1=>
   intro w0 h0;have:=h0.1.cell 0 rfl;go_simp;try with_reducible rfl
  simp only[Act.put,ak,aj,ai,ae,ah,ag];refine aI.take 1 (v:=?vv2) (bG _) rfl (by kernel_rfl) (by kernel_rfl) (by kernel_rfl) (by kernel_rfl) (by kernel_rfl) (fun _ _ _ h=>h) hS ?hy2 (by rfl) ?rest2
  case hy2=>
   intro w0 h0;go_simp;try with_reducible rfl
  simp only[Act.put,ak,aj,ai,ae,ah,ag];refine aI.take 2 (v:=?vv3) (bG _) rfl (by kernel_rfl) (by kernel_rfl) (by kernel_rfl) (by kernel_rfl) (by kernel_rfl) (fun _ _ _ h=>h) hS ?hy3 (by rfl) ?rest3
  case hy3=>
   intro w0 h0;go_simp;try with_reducible rfl
  simp only[Act.put,ak,aj,ai,ae,ah,ag];refine aI.take 3 (v:=?vv4) (bG _) rfl (by kernel_rfl) (by kernel_rfl) (by kernel_rfl) (by kernel_rfl) (by kernel_rfl) (fun _ _ _ h=>h) hS ?hy4 (by rfl) ?rest4
  case hy4=>
   intro w0 h0;go_simp;try with_reducible rfl
  simp only[Act.put,ak,aj,ai,ae,ah,ag];refine aI.take 4 (v:=?vv5) (bG _) rfl (by kernel_rfl) (by kernel_rfl) (by kernel_rfl) (by kernel_rfl) (by kernel_rfl) (fun _ _ _ h=>h) hS ?hy5 (by rfl) ?rest5
  case hy5=>
   intro w0 h0;have:=h0.2.cell 0 rfl;go_simp;try with_reducible rfl
  simp only[Act.put,ak,aj,ai,ae,ah,ag];refine aI.one 5 (bG _) (by kernel_rfl) rfl (fun _ h=>by cases h) (by rfl) ?_;intro K2 hK2;go_simp;refine⟨rfl,?_⟩
  refine(CallsIn.inRound l1 (callsIn_wide.2 (MK.out _))).mono ?_;rintro e W3 ⟨rfl,h3⟩;rw[h3];clear h3 W3;refine hK2.out _ _ (fun _=>hS) ?_;clear hK2 K2;try simp only[Act.put,ak,aj,ai,ae,ah,ag]
  refine aI.take 6 (v:=?vv51) (bG _) rfl (by kernel_rfl) (by kernel_rfl) (by kernel_rfl) (by kernel_rfl) (by kernel_rfl) (fun _ _ _ h=>h) hS ?hy51 (by rfl) ?rest51
  case hy51=>
   intro w0 h0;go_simp;try with_reducible rfl
  simp only[Act.put,ak,aj,ai,ae,ah,ag];refine aI.take 7 (v:=?vv52) (bG _) rfl (by kernel_rfl) (by kernel_rfl) (by kernel_rfl) (by kernel_rfl) (by kernel_rfl) (fun _ _ _ h=>h) hS ?hy52 (by rfl) ?rest52
  case hy52=>
   intro w0 h0;go_simp;try with_reducible rfl
  simp only[Act.put,ak,aj,ai,ae,ah,ag];refine aI.one 8 (bG _) (by kernel_rfl) rfl (fun _ h=>by cases h) (by rfl) ?_;intro K2 hK2;go_simp
  have kT:az (fun b=>b≠w.heap.size+3) Wc (Wc.setCell ⟨w.heap.size+3,q,none⟩ (.int .u64 y)).drew:=by
   have h:=(az.refl (fun b=>b≠w.heap.size+3) Wc).setCell (p:=⟨w.heap.size+3,q,none⟩) (fun h=>h rfl) (.int .u64 y);exact⟨h.os,h.tape,h.output,h.size,h.same⟩
  have hO3:Own (Wc.setCell ⟨w.heap.size+3,q,none⟩ (.int .u64 y)).drew (w.heap.size+3) (fZ L v (q+1)):=by
   rw[<-NS.out];exact(hO2.out.set q y).drew'
  have HE:=aG (And.intro kT (And.intro (hk.trans kT) hO3));clear kT hO3;refine hK2.out _ _ (fun h=>absurd (by decide) h) ?_;clear hK2 K2;refine aI.done (by kernel_rfl) ?_ _;gi_wp2;exact HE.out
 case done=>
  rintro D Wc hD ⟨hk,hO⟩ hd;rw[HM.out,Dj L v hv0]at hO;have cR:=hk.cel c1 (by omega);have cS:=hk.cel c4 (by omega);have cV:=hk.cel c2 (by omega)
  have hb:=b4.trans (hk.below (B:=w.heap.size) (fun x h=>by omega) (by omega));have DN:D≠w.heap.size+1/\w.heap.size<=D:=⟨by omega,by omega⟩;have gN:w.heap.size+1<Wc.heap.size:=cR.lt
  have M1:=aG (MC.out Wc (w.heap.size+3) hO);have q0:=cV.cell 0 rfl;have q1:=cS.cell 0 rfl;clear hk c0 c1 c2 c4 c5 G hO MC;go_wp2_with fail;refine M1.out.mono ?_;rintro e w4 ⟨g,k,rfl,hk2,hO4,hb4⟩
  replace cR:=cR.kept hb4;have hd4:w4.heap[D]?=some (.deferred (some [])):=(hb4.block D (Array.getElem?_eq_some_iff.1 hd).1).trans hd
  have hgN:g≠w.heap.size+1:=fun e=>by
   rw[e]at hO4;have h1:w4.heap[w.heap.size+1]?=_:=hO4;rw[show w4.heap[w.heap.size+1]?=_ from cR]at h1;simp only[Option.some.injEq,Obj.cells.injEq]at h1;exact absurd h1.2.1 (by decide)
  have hgD:g≠D:=fun e=>by
   rw[e]at hO4;have h1:w4.heap[D]?=_:=hO4;rw[hd4]at h1;cases h1
  have b5:=bg hb hb4;clear hb4 q0 q1 cS cV hd;go_wp2_with (refine aP (w.heap.size+1) [.int .i64 0,.int .i64 0,.int .i64 0,.slice none 0 0] _ rfl rfl cR rfl mD (by simp[Value.oneCell']) ?_)
  intro w5 B3 O3;have b6:=b5.trans (O3.below (Nat.le_succ _));have hO5:Own w5 g (mkS (loP L v) v m):=(O3.block g hgN).trans hO4;have hd5:w5.heap[D]?=some (.deferred (some [])):=(O3.block D DN.1).trans hd4
  have HZ:=aG (And.intro B3 (And.intro hO5 (And.intro hd5 (And.intro b6 hk2))));clear B3 O3 hO5 hd5 b5 b6 hd4 hO4 cR hk2;go_wp2;obtain⟨B3,hO5,hd5,b6,hk2⟩:=HZ.out
  have cR2:=B3.put (.deferred none) (show w.heap.size+1≠D from fun e=>DN.1 e.symm);have hO6:Own (w5.putObj D (.deferred none)) g (mkS (loP L v) v m):=(World.putObj_heap_other hgD).trans hO5
  exact fb hd5 (bJ rfl (w.heap.size+1) _ rfl cR2 underlying38 mD) ⟨g,_,rfl,rfl,hO6,b6.trans (dt DN.2 _)⟩
 case stop=>
  rintro D q Wc hD hq h hd;exact h.elim
end Go.Proofs.YtleegaihbgbcjaaGreatDoor
namespace Go.Proofs.YtleegaihbgbcjaaGreatDoor
open Go.RowKit Num Bit
theorem Jd(N:Int)(ao:Option Addr)(xs:List Nat)(cap:Nat)(n:Int)(w:World)(hx:Wd w ao xs)(hg:Fit xs)(hcap:xs.length<=cap)(hnN:n<=N):
  Qq 156 #[.agg #[.int .i64 N,.slice ao xs.length cap],.int .i64 n] w (.int .i64 (onesI N xs n)):=by
 have K:∀o,Wd (w.alloc o) ao xs:=fun o=>hx.keep (below_alloc w o);have hM:min n N=n:=by omega
 cases hk:ar N xs with
 | false=>
  have R:Hid (0=onesI N xs n):=by unfold onesI Hid;rw[hk];rfl
  clear hM;go_enter func156,ntmps156;go_wp2_with (go_at_call 147;refine mr (bi _ _ _ _ _ (K _)) fun w' hb=>?_;obtain⟨c0,c1,hz,hw⟩:=cQ hb;clear hb);go_ret
  exact⟨cD R.out,by assumption⟩
 | true=>
  obtain⟨hc0,hc1,hc2,_⟩:=bp N xs hk;by_cases hm:n<=0
  .have R:Hid (0=onesI N xs n):=by unfold onesI Hid;rw[hk,hM,show(n).toNat=0 by omega];rfl
   clear hM;go_enter func156,ntmps156;go_wp2_with (go_at_call 147;refine mr (bi _ _ _ _ _ (K _)) fun w' hb=>?_;obtain⟨c0,c1,hz,hw⟩:=cQ hb;clear hb);go_ret
   exact⟨cD R.out,by assumption⟩
  .obtain⟨m,rfl⟩:=Int.eq_ofNat_of_zero_le (show 0<=n by omega);obtain⟨b,off,rfl,hb,hc⟩:=hx (by omega);have R:Hid (((cntB xs m:Nat):Int)=onesI N xs (m:Int)):=by unfold onesI Hid;rw[hk,hM];rfl
   have HC:Hid (∀i,i<xs.length->w.cell? ⟨b,off+i,none⟩=some (.int .u64 (gt xs i))):=hc;have hl1:m/64<=xs.length:=by omega
   have hm0:decide (m=0)=false:=by simp;omega
   have hm1:(m==0)=false:=by simp;omega
   have hl2:m/64<=cap:=by omega
   have hl3:m<=1048576:=by omega
   have HL:Hid (m%64=0\/m/64<xs.length):=by unfold Hid;omega
   have hl5:(m:Int)/64<=(cap:Int):=by omega
   clear hM hc hc2;go_enter func156,ntmps156;go_wp2_with (go_at_call 147;refine mr (bi _ _ _ _ _ (K _)) fun w' hb=>?_;obtain⟨c0,c1,hz,hw⟩:=cQ hb;clear hb)
   go_loop [5,26] (fun c i=>∃k t:Nat,k<=m/64/\t<=64*k/\i=.int .i64 k/\c=.int .i64 t/\Hid (t=cntB xs (64*k))) (fun _ i=>m/64-(intOf i).toNat)
   case atStart=>exact⟨0,0,by omega,by omega,rfl,rfl,rfl⟩
   case round=>
    obtain⟨k,t,hk1,ht,rfl,rfl,H⟩:=hrel;by_cases hlt:k<m/64
    .have hck:=(hw.cell (p:=⟨b,off+k,none⟩) (by assumption)).trans (HC.out k (by omega));have hf:=hg k;have hp:=t_ (gt xs k)
     go_wp2_with (go_at_call 218;refine(nr _ ?_ ?_ _).mono ?_;exact Int.natCast_nonneg _;exact Int.ofNat_lt.2 hf;rintro e w' ⟨rfl,rfl⟩);go_round
     case rel=>
      refine⟨k+1,t+cnt (gt xs k) 64,by omega,?_,by go_num,?_,?_⟩
      .have:=dh (gt xs k) 64;omega
      .unfold dI;rw[Int.toNat_natCast];go_num
      .have e:=jX xs k 64 (by omega);rw[show 64*(k+1)=64*k+64 by omega,e,<-H.out];rfl
     case measure=>simp only[intOf];omega
    .have hkm:k=m/64:=by omega
     have HT:Hid (t=cntB xs (64*(m/64))):=by rw[<-hkm];exact H.out
     clear H;by_cases hz0:m%64=0
     .have R2:Hid ((t:Int)=onesI N xs (m:Int)):=by
       unfold Hid;rw[<-R.out,HT.out,show 64*(m/64)=m by omega]
      have hz1:¬0<(m:Int)%64:=by omega
      clear hkm;go_wp2;go_ret;exact⟨cD R2.out,by assumption⟩
     .have hz1:0<(m:Int)%64:=by omega
      have hl6:m/64<xs.length:=by have:=HL.out;omega
      have hl7:(m:Int)/64<(xs.length:Int):=by omega
      have hck:=(hw.cell (p:=⟨b,off+m/64,none⟩) (by assumption)).trans (HC.out (m/64) hl6);have hf:=hg (m/64);have hp:=pN (gt xs (m/64)) ((m:Int)%64)
      have R2:Hid ((t:Int)+dH (gt xs (m/64)) ((m:Int)%64)=onesI N xs (m:Int)):=by
       unfold Hid;rw[<-R.out,HT.out];have e:=jX xs (m/64) (m%64) (by omega);rw[show 64*(m/64)+m%64=m by omega]at e;rw[e];unfold dH
       rw[Int.toNat_natCast,show min ((m:Int)%64).toNat 64=m%64 by omega];omega
      clear hkm;go_wp2_with (go_at_call 225;refine(na _ _ ?_ ?_ _).mono ?_;exact Int.natCast_nonneg _;exact Int.ofNat_lt.2 hf;rintro e w' ⟨rfl,rfl⟩);go_ret;exact⟨cD R2.out,by assumption⟩
theorem Je(N:Int)(ao:Option Addr)(xs:List Nat)(cap:Nat)(n:Int)(w:World)(hx:Wd w ao xs)(hg:Fit xs)(hcap:xs.length<=cap)(hnN:N<n):
  Qq 156 #[.agg #[.int .i64 N,.slice ao xs.length cap],.int .i64 n] w (.int .i64 (onesI N xs n)):=by
 have K:∀o,Wd (w.alloc o) ao xs:=fun o=>hx.keep (below_alloc w o);have hM:min n N=N:=by omega
 cases hk:ar N xs with
 | false=>
  have R:Hid (0=onesI N xs n):=by unfold onesI Hid;rw[hk];rfl
  clear hM;go_enter func156,ntmps156;go_wp2_with (go_at_call 147;refine mr (bi _ _ _ _ _ (K _)) fun w' hb=>?_;obtain⟨c0,c1,hz,hw⟩:=cQ hb;clear hb);go_ret
  exact⟨cD R.out,by assumption⟩
 | true=>
  obtain⟨hc0,hc1,hc2,_⟩:=bp N xs hk;by_cases hm:N<=0
  .have R:Hid (0=onesI N xs n):=by unfold onesI Hid;rw[hk,hM,show(N).toNat=0 by omega];rfl
   clear hM;go_enter func156,ntmps156;go_wp2_with (go_at_call 147;refine mr (bi _ _ _ _ _ (K _)) fun w' hb=>?_;obtain⟨c0,c1,hz,hw⟩:=cQ hb;clear hb);go_ret
   exact⟨cD R.out,by assumption⟩
  .obtain⟨m,rfl⟩:=Int.eq_ofNat_of_zero_le (show 0<=N by omega);obtain⟨b,off,rfl,hb,hc⟩:=hx (by omega);have R:Hid (((cntB xs m:Nat):Int)=onesI (m:Int) xs n):=by unfold onesI Hid;rw[hk,hM];rfl
   have HC:Hid (∀i,i<xs.length->w.cell? ⟨b,off+i,none⟩=some (.int .u64 (gt xs i))):=hc;have hl1:m/64<=xs.length:=by omega
   have hm0:decide (m=0)=false:=by simp;omega
   have hm1:(m==0)=false:=by simp;omega
   have hl2:m/64<=cap:=by omega
   have hl3:m<=1048576:=by omega
   have HL:Hid (m%64=0\/m/64<xs.length):=by unfold Hid;omega
   have hl5:(m:Int)/64<=(cap:Int):=by omega
   clear hM hc hc2;go_enter func156,ntmps156;go_wp2_with (go_at_call 147;refine mr (bi _ _ _ _ _ (K _)) fun w' hb=>?_;obtain⟨c0,c1,hz,hw⟩:=cQ hb;clear hb)
   go_loop [5,26] (fun c i=>∃k t:Nat,k<=m/64/\t<=64*k/\i=.int .i64 k/\c=.int .i64 t/\Hid (t=cntB xs (64*k))) (fun _ i=>m/64-(intOf i).toNat)
   case atStart=>exact⟨0,0,by omega,by omega,rfl,rfl,rfl⟩
   case round=>
    obtain⟨k,t,hk1,ht,rfl,rfl,H⟩:=hrel;by_cases hlt:k<m/64
    .have hck:=(hw.cell (p:=⟨b,off+k,none⟩) (by assumption)).trans (HC.out k (by omega));have hf:=hg k;have hp:=t_ (gt xs k)
     go_wp2_with (go_at_call 218;refine(nr _ ?_ ?_ _).mono ?_;exact Int.natCast_nonneg _;exact Int.ofNat_lt.2 hf;rintro e w' ⟨rfl,rfl⟩);go_round
     case rel=>
      refine⟨k+1,t+cnt (gt xs k) 64,by omega,?_,by go_num,?_,?_⟩
      .have:=dh (gt xs k) 64;omega
      .unfold dI;rw[Int.toNat_natCast];go_num
      .have e:=jX xs k 64 (by omega);rw[show 64*(k+1)=64*k+64 by omega,e,<-H.out];rfl
     case measure=>simp only[intOf];omega
    .have hkm:k=m/64:=by omega
     have HT:Hid (t=cntB xs (64*(m/64))):=by rw[<-hkm];exact H.out
     clear H;by_cases hz0:m%64=0
     .have R2:Hid ((t:Int)=onesI (m:Int) xs n):=by
       unfold Hid;rw[<-R.out,HT.out,show 64*(m/64)=m by omega]
      have hz1:¬0<(m:Int)%64:=by omega
      clear hkm;go_wp2;go_ret;exact⟨cD R2.out,by assumption⟩
     .have hz1:0<(m:Int)%64:=by omega
      have hl6:m/64<xs.length:=by have:=HL.out;omega
      have hl7:(m:Int)/64<(xs.length:Int):=by omega
      have hck:=(hw.cell (p:=⟨b,off+m/64,none⟩) (by assumption)).trans (HC.out (m/64) hl6);have hf:=hg (m/64);have hp:=pN (gt xs (m/64)) ((m:Int)%64)
      have R2:Hid ((t:Int)+dH (gt xs (m/64)) ((m:Int)%64)=onesI (m:Int) xs n):=by
       unfold Hid;rw[<-R.out,HT.out];have e:=jX xs (m/64) (m%64) (by omega);rw[show 64*(m/64)+m%64=m by omega]at e;rw[e];unfold dH
       rw[Int.toNat_natCast,show min ((m:Int)%64).toNat 64=m%64 by omega];omega
      clear hkm;go_wp2_with (go_at_call 225;refine(na _ _ ?_ ?_ _).mono ?_;exact Int.natCast_nonneg _;exact Int.ofNat_lt.2 hf;rintro e w' ⟨rfl,rfl⟩);go_ret;exact⟨cD R2.out,by assumption⟩
theorem xy(N:Int)(ao:Option Addr)(xs:List Nat)(cap:Nat)(n:Int)(w:World)(hx:Wd w ao xs)(hg:Fit xs)(hcap:xs.length<=cap):
  Qq 156 #[.agg #[.int .i64 N,.slice ao xs.length cap],.int .i64 n] w (.int .i64 (onesI N xs n)):=by
 by_cases h:n<=N
 .exact Jd N ao xs cap n w hx hg hcap h
 .exact Je N ao xs cap n w hx hg hcap (by omega)
theorem Gd(N M k V LM H:Int)(ao:Option Addr)(xs:List Nat)(cap:Nat)(qo:Option Addr)(ys:List Nat)(dap:Nat)(w:World)(hx:Wd w ao xs)(fx:Fit xs)(hy:Wd w qo ys)(fy:Fit ys)(xl:xs.length<=cap)(yl:ys.length<=dap)(h:¬((0<=M/\M<=N/\N<=1048576)/\aZ k V LM xs=true/\ar H ys=true)):
  Qq 245 #[.agg #[.int .i64 N,.int .i64 M,.int .i64 k,.int .i64 V,.int .i64 LM,.slice ao xs.length cap,.int .i64 H,.slice qo ys.length dap]] w (.bool false):=by
 have C1:Hid (Qz w 273 #[.agg #[.int .i64 k,.int .i64 V,.int .i64 LM,.slice ao xs.length cap]] (.bool (aZ k V LM xs))):=fun w0 hb=>qD k V LM ao xs cap w0 (hx.keep hb)
 have C2:Hid (Qz w 147 #[.agg #[.int .i64 H,.slice qo ys.length dap]] (.bool (ar H ys))):=fun w0 hb=>bi H qo ys dap w0 (hy.keep hb)
 obtain⟨W,hW⟩:∃W,W=w.alloc (.cells #[.int .i64 N,.int .i64 M,.int .i64 k,.int .i64 V,.int .i64 LM,.slice ao xs.length cap,.int .i64 H,.slice qo ys.length dap] 42):=⟨_,rfl⟩;have bW:=aM hW;have B1:=aU hW
 clear hx hy fx fy;by_cases m0:M<0
 .clear C1 C2 h;go_enter func245,ntmps245;go_wp2;go_ret;rw[<-hW];exact⟨rfl,bW⟩
 by_cases m1:N<M
 .clear C1 C2 h;go_enter func245,ntmps245;go_wp2;go_ret;rw[<-hW];exact⟨rfl,bW⟩
 by_cases n1:1048576<N
 .clear C1 C2 h;go_enter func245,ntmps245;go_wp2;go_ret;rw[<-hW];exact⟨rfl,bW⟩
 cases hk:aZ k V LM xs with
 | false=>
  rw[hk]at C1;clear C2 h hk;go_enter func245,ntmps245;go_wp2_with fail;rw[<-hW];refine mr (C1.out _ bW) fun w1 hb=>?_;have bw1:=bg bW hb;clear hW hb;go_wp2;go_ret;exact⟨rfl,bw1⟩
 | true=>
  have hc:ar H ys=false:=by
   cases hc:ar H ys with
   | false=>rfl
   | true=>exact absurd ⟨by omega,hk,hc⟩ h
  rw[hk]at C1;rw[hc]at C2;clear h hk hc;go_enter func245,ntmps245;go_wp2_with fail;rw[<-hW];refine mr (C1.out _ bW) fun w1 hb=>?_;have bw1:=bg bW hb;replace B1:=B1.kept hb
  have q6:=B1.cell 6 rfl;have q7:=B1.cell 7 rfl;clear hW hb;go_wp2_with fail;refine mr (C2.out _ bw1) fun w2 hb=>?_;have bw2:=bg bw1 hb;clear hb;go_wp2;go_ret;exact⟨rfl,bw2⟩
theorem wu(n mm:Nat)(k V LM H:Int)(ao:Option Addr)(xs:List Nat)(cap:Nat)(qo:Option Addr)(ys:List Nat)(dap:Nat)(w:World)(hx:Wd w ao xs)(fx:Fit xs)(hy:Wd w qo ys)(fy:Fit ys)(xl:xs.length<=cap)(yl:ys.length<=dap)(hn:n<=1048576)(hm:mm<=n)(ik:aZ k V LM xs=true)(ck:ar H ys=true)(B:Bool)(hB:B=true↔(k=(loN n mm:Int)/\V=(max (wdF n mm) 1:Nat)/\H=((mm+n/2^wdF n mm+1:Nat):Int)/\onesI H ys H=(mm:Int))):
  Qq 245 #[.agg #[.int .i64 n,.int .i64 mm,.int .i64 k,.int .i64 V,.int .i64 LM,.slice ao xs.length cap,.int .i64 H,.slice qo ys.length dap]] w (.bool B):=by
 have C1:Hid (Qz w 273 #[.agg #[.int .i64 k,.int .i64 V,.int .i64 LM,.slice ao xs.length cap]] (.bool true)):=fun w0 hb=>by
  have:=qD k V LM ao xs cap w0 (hx.keep hb);rw[ik]at this;exact this
 have C2:Hid (Qz w 147 #[.agg #[.int .i64 H,.slice qo ys.length dap]] (.bool true)):=fun w0 hb=>by
  have:=bi H qo ys dap w0 (hy.keep hb);rw[ck]at this;exact this
 have C3:Hid (∀w0,Qx 226 #[.int .i64 n,.int .i64 mm] w0 (.tuple #[.int .i64 (loN n mm),.int .i64 (max (wdF n mm) 1:Nat)])):=fun w0=>qI n mm hn hm w0
 have C4:Hid (∀w0,Qx 229 #[.int .i64 n,.int .i64 mm] w0 (.int .i64 ((mm+n/2^wdF n mm+1:Nat):Int))):=fun w0=>wn n mm hn hm w0
 have C5:Hid (Qz w 156 #[.agg #[.int .i64 H,.slice qo ys.length dap],.int .i64 H] (.int .i64 (onesI H ys H))):=fun w0 hb=>xy H qo ys dap H w0 (hy.keep hb) fy yl
 have HB:=aG hB;obtain⟨W,hW⟩:∃W,W=w.alloc (.cells #[.int .i64 n,.int .i64 mm,.int .i64 k,.int .i64 V,.int .i64 LM,.slice ao xs.length cap,.int .i64 H,.slice qo ys.length dap] 42):=⟨_,rfl⟩
 have bW:=aM hW;have B1:=aU hW;have i2:¬(1048576:Int)<(n:Int):=by omega
 have i4:¬(mm:Int)<0:=by omega
 have i5:¬(n:Int)<(mm:Int):=by omega
 clear hx hy fx fy ik ck hB;generalize loN n mm=a1 at *;generalize max (wdF n mm) 1=a2 at *;generalize mm+n/2^wdF n mm+1=a3 at *;generalize onesI H ys H=a4 at *;go_enter func245,ntmps245;go_wp2_with fail
 rw[<-hW];refine mr (C1.out _ bW) fun w1 hb=>?_;have bw1:=bg bW hb;replace B1:=B1.kept hb;have q6:=B1.cell 6 rfl;have q7:=B1.cell 7 rfl;clear hW hb bW C1;go_wp2_with fail
 refine mr (C2.out _ bw1) fun w2 hb=>?_;have bw2:=bg bw1 hb;replace B1:=B1.kept hb;clear hb bw1 C2 q6 q7;have q0:=B1.cell 0 rfl;have q1:=B1.cell 1 rfl;go_wp2_with fail
 refine mr (C3.out _) fun w3 h3=>?_;rw[h3];clear h3 C3 q0 q1;go_wp2_with fail
 refine aB [] (fun w0=>aa w0 w.heap.size [.int .i64 n,.int .i64 mm,.int .i64 k,.int .i64 V,.int .i64 LM,.slice ao xs.length cap,.int .i64 H,.slice qo ys.length dap] 42) (by kernel_rfl) ?_
 have hS:=B1.drew;by_cases e1:k=(a1:Int)
 .have e1b:(k==(a1:Int))=true:=by simp[e1]
  by_cases e2:V=(a2:Int)
  .have e2b:(V==(a2:Int))=true:=by simp[e2]
   by_cases e3:H=(a3:Int)
   .have e3b:(H==(a3:Int))=true:=by simp[e3]
    have HE:Hid (B=(a4==(mm:Int))):=by show B=_;rw[Bool.eq_iff_iff,HB.out];simp[e1,e2,e3]
    clear e1 e2 e3 HB;refine aK 0 hS ?_;refine aK 1 hS ?_;refine aF 2 hS rfl (fun w0 h0=>by have:=h0.cell 2 rfl;go_simp;try with_reducible rfl) ?_;refine aK 3 hS ?_;refine aK 4 hS ?_
    refine aK 5 hS ?_;refine aK 6 hS ?_;refine aK 7 hS ?_;refine aF 8 hS rfl (fun w0 h0=>by have:=h0.cell 3 rfl;go_simp;try with_reducible rfl) ?_;refine aK 9 hS ?_;refine aK 10 hS ?_
    refine aK 11 hS ?_;refine aK 12 hS ?_;refine aK 13 hS ?_;refine aK 14 hS ?_;refine aF 15 hS rfl (fun w0 h0=>by have:=h0.cell 6 rfl;go_simp;try with_reducible rfl) ?_;refine aK 16 hS ?_
    refine aF 17 hS rfl (fun w0 h0=>by have:=h0.cell 0 rfl;go_simp;try with_reducible rfl) ?_;refine aK 18 hS ?_
    refine aF 19 hS rfl (fun w0 h0=>by have:=h0.cell 1 rfl;go_simp;try with_reducible rfl) ?_;refine aO 20 ?_;intro K hK;go_simp;refine mr (C4.out _) fun w4 h4=>?_;rw[h4];clear h4
    refine hK.out _ _ (fun _=>hS) ?_;clear hK K;try simp only[Act.put,ak,aj,ai,ae,ah,ag]
    refine aK 21 hS ?_;refine aK 22 hS ?_;refine aK 23 hS ?_;refine aK 24 hS ?_;refine aF 25 hS rfl (fun w0 h0=>by have:=h0.cell 6 rfl;have:=h0.cell 7 rfl;go_simp;try with_reducible rfl) ?_
    refine aK 26 hS ?_;refine aK 27 hS ?_;refine aF 28 hS rfl (fun w0 h0=>by have:=h0.cell 6 rfl;go_simp;try with_reducible rfl) ?_;refine aK 30 hS ?_
    refine aF 31 hS rfl (fun w0 h0=>by have:=h0.cell 1 rfl;go_simp;try with_reducible rfl) ?_;refine aO 29 ?_;intro K hK;go_simp;refine mr (C5.out _ bw2.drew) fun w5 hb=>?_
    have bw5:=bw2.drew.trans (hb.mono bw2.drew.size);have hS5:=hS.kept hb;clear hb;refine hK.out _ _ (fun _=>hS5) ?_;clear hK K;try simp only[Act.put,ak,aj,ai,ae,ah,ag]
    refine aK 32 hS5 ?_;refine aK 33 hS5 ?_;refine aK 34 hS5 ?_;refine aq.done (by kernel_rfl) ?_ _;go_wp2;go_ret;rw[HE.out];exact⟨rfl,bw5⟩
   .have e3b:(H==(a3:Int))=false:=by simp[e3]
    obtain rfl:B=false:=Bool.eq_false_iff.2 fun h=>by have:=HB.out.1 h;omega
    clear e3 HB;refine aK 0 hS ?_;refine aK 1 hS ?_;refine aF 2 hS rfl (fun w0 h0=>by have:=h0.cell 2 rfl;go_simp;try with_reducible rfl) ?_;refine aK 3 hS ?_;refine aK 4 hS ?_
    refine aK 5 hS ?_;refine aK 6 hS ?_;refine aK 7 hS ?_;refine aF 8 hS rfl (fun w0 h0=>by have:=h0.cell 3 rfl;go_simp;try with_reducible rfl) ?_;refine aK 9 hS ?_;refine aK 10 hS ?_
    refine aK 11 hS ?_;refine aK 12 hS ?_;refine aK 13 hS ?_;refine aK 14 hS ?_;refine aF 15 hS rfl (fun w0 h0=>by have:=h0.cell 6 rfl;go_simp;try with_reducible rfl) ?_;refine aK 16 hS ?_
    refine aF 17 hS rfl (fun w0 h0=>by have:=h0.cell 0 rfl;go_simp;try with_reducible rfl) ?_;refine aK 18 hS ?_
    refine aF 19 hS rfl (fun w0 h0=>by have:=h0.cell 1 rfl;go_simp;try with_reducible rfl) ?_;refine aO 20 ?_;intro K hK;go_simp;refine mr (C4.out _) fun w4 h4=>?_;rw[h4];clear h4
    refine hK.out _ _ (fun _=>hS) ?_;clear hK K;try simp only[Act.put,ak,aj,ai,ae,ah,ag]
    refine aK 21 hS ?_;refine aK 22 hS ?_;refine aK 23 hS ?_;refine aS 24 hS ?_;refine aS 25 hS ?_;refine aS 26 hS ?_;refine aS 27 hS ?_;refine aS 28 hS ?_;refine aS 29 hS ?_
    refine aS 30 hS ?_;refine aS 31 hS ?_;refine aS 32 hS ?_;refine aK 33 hS ?_;refine aK 34 hS ?_;refine aq.done (by kernel_rfl) ?_ _;go_wp2;go_ret;exact⟨rfl,bw2.drew⟩
  .have e2b:(V==(a2:Int))=false:=by simp[e2]
   obtain rfl:B=false:=Bool.eq_false_iff.2 fun h=>by have:=HB.out.1 h;omega
   clear e2 HB;refine aK 0 hS ?_;refine aK 1 hS ?_;refine aF 2 hS rfl (fun w0 h0=>by have:=h0.cell 2 rfl;go_simp;try with_reducible rfl) ?_;refine aK 3 hS ?_;refine aK 4 hS ?_
   refine aK 5 hS ?_;refine aK 6 hS ?_;refine aK 7 hS ?_;refine aF 8 hS rfl (fun w0 h0=>by have:=h0.cell 3 rfl;go_simp;try with_reducible rfl) ?_;refine aK 9 hS ?_;refine aK 10 hS ?_
   refine aK 11 hS ?_;refine aK 12 hS ?_;refine aS 13 hS ?_;refine aS 14 hS ?_;refine aS 15 hS ?_;refine aS 16 hS ?_;refine aS 17 hS ?_;refine aS 18 hS ?_;refine aS 19 hS ?_
   refine aS 20 hS ?_;refine aS 21 hS ?_;refine aK 22 hS ?_;refine aK 23 hS ?_;refine aS 24 hS ?_;refine aS 25 hS ?_;refine aS 26 hS ?_;refine aS 27 hS ?_;refine aS 28 hS ?_
   refine aS 29 hS ?_;refine aS 30 hS ?_;refine aS 31 hS ?_;refine aS 32 hS ?_;refine aK 33 hS ?_;refine aK 34 hS ?_;refine aq.done (by kernel_rfl) ?_ _;go_wp2;go_ret;exact⟨rfl,bw2.drew⟩
 .have e1b:(k==(a1:Int))=false:=by simp[e1]
  obtain rfl:B=false:=Bool.eq_false_iff.2 fun h=>by have:=HB.out.1 h;omega
  clear e1 HB;refine aK 0 hS ?_;refine aK 1 hS ?_;refine aF 2 hS rfl (fun w0 h0=>by have:=h0.cell 2 rfl;go_simp;try with_reducible rfl) ?_;refine aK 3 hS ?_;refine aK 4 hS ?_;refine aK 5 hS ?_
  refine aS 6 hS ?_;refine aS 7 hS ?_;refine aS 8 hS ?_;refine aS 9 hS ?_;refine aS 10 hS ?_;refine aK 11 hS ?_;refine aK 12 hS ?_;refine aS 13 hS ?_;refine aS 14 hS ?_
  refine aS 15 hS ?_;refine aS 16 hS ?_;refine aS 17 hS ?_;refine aS 18 hS ?_;refine aS 19 hS ?_;refine aS 20 hS ?_;refine aS 21 hS ?_;refine aK 22 hS ?_;refine aK 23 hS ?_
  refine aS 24 hS ?_;refine aS 25 hS ?_;refine aS 26 hS ?_;refine aS 27 hS ?_;refine aS 28 hS ?_;refine aS 29 hS ?_;refine aS 30 hS ?_;refine aS 31 hS ?_;refine aS 32 hS ?_
  refine aK 33 hS ?_;refine aK 34 hS ?_;refine aq.done (by kernel_rfl) ?_ _;go_wp2;go_ret;exact⟨rfl,bw2.drew⟩
open Go.RowKit Go.Shelf Num Bit
attribute [local go_sem] Oper.semAt_some
def nx(p:Nat->Nat)(q:Nat):Nat:=if q=0 then 0 else p (q-1)+1
theorem CX(p:Nat->Nat)(q:Nat):nx p (q+1)=p q+1:=rfl
theorem BM(n mm:Nat)(xs:List Nat)(hh:Nat)(ys:List Nat)(q:Nat)(hn:n<=1048576)(hy:hh<=1048576)(hq:q<(plc (bitAt ys) hh).length):plq n mm xs hh ys q<=2199023255552:=by
 have h20:=gT n mm (by omega);have p20:2^wdF n mm<=1048576:=Nat.pow_le_pow_right (show 0<2 by decide) h20;have hl:numAt (wdF n mm) xs q<2^wdF n mm:=gJ _ _;have h1:=(jd (bitAt ys) hh).1 q hq
 have h2:(gt (plc (bitAt ys) hh) q-q)*2^wdF n mm<=1048576*1048576:=Nat.mul_le_mul (by omega) p20;have h3:1048576*1048576=1099511627776:=by decide
 unfold plq;omega
theorem Gh(n mm kn vn hh:Nat)(LM:Int)(ao:Option Addr)(xs:List Nat)(cap:Nat)(qo:Option Addr)(ys:List Nat)(dap:Nat)(w:World)(F:fD n mm kn vn LM xs hh ys)(hx:Wd w ao xs)(fx:Fit xs)(hy:Wd w qo ys)(fy:Fit ys)(FC:Hid (Qz w 245 #[.agg #[.int .i64 n,.int .i64 mm,.int .i64 kn,.int .i64 vn,.int .i64 LM,.slice ao xs.length cap,.int .i64 hh,.slice qo ys.length dap]] (.bool true)))(B:Bool)(hB:B=true↔o6 n mm (plq n mm xs hh ys)):
  Qq 176 #[.agg #[.int .i64 n,.int .i64 mm,.int .i64 kn,.int .i64 vn,.int .i64 LM,.slice ao xs.length cap,.int .i64 hh,.slice qo ys.length dap]] w (.bool B):=by
 have nl:=F.hn;have hb20:=(bp _ _ F.ck).2.1;have PL:Hid (∀q,q<mm->plq n mm xs hh ys q<=2199023255552):=fun q hq=>BM n mm xs hh ys q nl (by omega) (by rw[F.on];exact hq);have HB:=aG hB;clear hB
 refine(callsIn_wide (n:=0)).1 (callsIn_of_wp_marks func176 rfl trivial ?_)
 simp only[ntmps176,List.size_toArray,List.length_cons,List.length_nil,Nat.reduceAdd,Nat.reduceSub,Array.replicate_succ,Array.replicate_zero,List.push_toArray,List.append_toArray,List.nil_append,List.cons_append]
 refine wpIn_wide.2 ?_
 have PC:Hid (∀w0,Calls prog 202 #[.agg #[.int .i64 n,.int .i64 mm,.int .i64 kn,.int .i64 vn,.int .i64 LM,.slice ao xs.length cap,.int .i64 hh,.slice qo ys.length dap]] w0 fun e w'=>e=.returned (.func (.func 257) #[] #[.pointer (some ⟨w0.heap.size,0,none⟩),.pointer (some ⟨w0.heap.size+1,0,none⟩)])/\aa w' w0.heap.size [.int .i64 n,.int .i64 mm,.int .i64 kn,.int .i64 vn,.int .i64 LM,.slice ao xs.length cap,.int .i64 hh,.slice qo ys.length dap] 42/\aa w' (w0.heap.size+1) [.int .i64 (wdF n mm:Nat)] 3/\w'.heap.size=w0.heap.size+2/\Below w0.heap.size w0 w'):=fun w0=>kP n mm kn vn hh LM ao xs cap qo ys dap F.hn F.hm w0
 obtain⟨W1,hW1⟩:∃W1,W1=(w.alloc (.cells #[.int .i64 n,.int .i64 mm,.int .i64 kn,.int .i64 vn,.int .i64 LM,.slice ao xs.length cap,.int .i64 hh,.slice qo ys.length dap] 42)).alloc (.cells #[.bool false] 4):=⟨_,rfl⟩
 have b1:Below w.heap.size w W1:=by rw[hW1];exact((below_alloc w _).alloc (by simp only[World.size_alloc];omega) _)
 have z1:W1.heap.size=w.heap.size+2:=by rw[hW1];simp
 have c0:aa W1 w.heap.size [.int .i64 n,.int .i64 mm,.int .i64 kn,.int .i64 vn,.int .i64 LM,.slice ao xs.length cap,.int .i64 hh,.slice qo ys.length dap] 42:=by rw[hW1];exact(aa.new w _ _).alloc _
 have c1:aa W1 (w.heap.size+1) [.bool false] 4:=by rw[hW1];exact aa.new2 w _ _ _
 go_wp2_with fail;rw[<-hW1];clear hW1;refine mr (FC.out _ b1) fun wf hb=>?_;replace b1:=bg b1 hb;replace c0:=c0.kept hb;replace c1:=c1.kept hb
 have zf:w.heap.size+2<=wf.heap.size:=by have:=hb.size;omega
 clear hb FC z1;obtain⟨g1,hg1⟩:∃g,g=wf.heap.size:=⟨_,rfl⟩;obtain⟨W2,hW2⟩:∃W2,W2=wf.alloc (.cells #[.int .i64 0] 3):=⟨_,rfl⟩;have bA:Below wf.heap.size wf W2:=by rw[hW2];exact below_alloc wf _
 have z2:W2.heap.size=g1+1:=by rw[hW2,hg1];simp
 have c2:aa W2 g1 [.int .i64 0] 3:=by rw[hW2,hg1];exact aa.new wf _ _
 have d0:aa (wf.alloc (.cells #[.int .i64 0] 3)) w.heap.size [.int .i64 n,.int .i64 mm,.int .i64 kn,.int .i64 vn,.int .i64 LM,.slice ao xs.length cap,.int .i64 hh,.slice qo ys.length dap] 42:=c0.alloc _
 have q0:=d0.cell 0 rfl;have q1:=d0.cell 1 rfl;have q2:=d0.cell 2 rfl;have q3:=d0.cell 3 rfl;have q4:=d0.cell 4 rfl;have q5:=d0.cell 5 rfl;have q6:=d0.cell 6 rfl;have q7:=d0.cell 7 rfl;have HG:=aG hg1
 clear hg1;have HW2:=aG hW2;clear hW2;go_wp2_with fail;rw[<-HW2.out];refine(PC.out _).mono ?_;rintro e w' ⟨rfl,cx,cw,z3,b3⟩;rw[z2]at cx cw z3 b3;rw[z2,<-HG.out];rw[<-HG.out]at zf
 have b4:Below w.heap.size w w':=(bg b1 bA).trans (b3.mono (by omega));replace c0:=(c0.kept bA).keep b3 (by omega);replace c1:=(c1.kept bA).keep b3 (by omega);replace c2:=c2.keep b3 (by omega)
 clear b1 bA b3 PC HW2 d0 q0 q1 q2 q3 q4 q5 q6 q7;go_wp2
 have G:=(kg n mm kn vn hh LM ao xs cap qo ys dap (fun b=>(b≠w.heap.size+1/\b≠g1)/\b≠w'.heap.size+1) w' (g1+1) (g1+1+1) F (hx.keep b4) fx (hy.keep b4) fy cx cw (by omega) (by omega) (fun p hp h0=>by have:=hx.blk hp h0;omega) (fun p hp h0=>by have:=hy.blk hp h0;omega))
 generalize plq n mm xs hh ys=p at *
 refine iE (gf:=257) (lb:=#[.pointer (some ⟨g1+1,0,none⟩),.pointer (some ⟨g1+2,0,none⟩)]) (K:=fun b=>b≠w.heap.size+1/\b≠g1) rfl (enters_of func257 (by kernel_rfl) rfl) (fun _=>rfl) G (fun b hb=>by omega)
  (fun q Wc=>az (fun b=>b≠w.heap.size+1/\b≠g1) w' Wc/\aa Wc (w.heap.size+1) [.bool false] 4/\aa Wc g1 [.int .i64 (nx p q:Nat)] 3/\∀j,j<q->p j<n/\(0<j->p (j-1)<p j)) (fun q Wc=>az (fun b=>b≠w.heap.size+1/\b≠g1) w' Wc/\aa Wc (w.heap.size+1) [.bool false] 4/\¬o6 n mm p) (fun q A B h hb=>⟨h.1.more hb (Nat.le_refl _),h.2.1.keep hb (by omega),h.2.2.1.keep hb (by omega),h.2.2.2⟩) (fun q A B h hb=>⟨h.1.more hb (Nat.le_refl _),h.2.1.keep hb (by omega),h.2.2⟩) ⟨az.refl _ _,c1,c2,fun j hj=>absurd hj (by omega)⟩
  (fun q=>{ tmps:=#[.agg #[.int .i64 n,.int .i64 mm,.int .i64 kn,.int .i64 vn,.int .i64 LM,.slice ao xs.length cap,.int .i64 hh,.slice qo ys.length dap],.pointer (some ⟨w.heap.size,0,none⟩),.pointer (some ⟨w.heap.size+1,0,none⟩),.pointer (some ⟨g1,0,none⟩),undef,.int .i64 (p q:Nat),.agg #[.int .i64 n,.int .i64 mm,.int .i64 kn,.int .i64 vn,.int .i64 LM,.slice ao xs.length cap,.int .i64 hh,.slice qo ys.length dap],.bool true,.bool false,.agg #[.int .i64 n,.int .i64 mm,.int .i64 kn,.int .i64 vn,.int .i64 LM,.slice ao xs.length cap,.int .i64 hh,.slice qo ys.length dap],.func (.func 257) #[] #[.pointer (some ⟨g1+1,0,none⟩),.pointer (some ⟨g1+2,0,none⟩)],.int .i64 (q:Nat),.int .i64 (p q:Nat),undef,undef,undef,undef,undef,undef,undef,undef,undef,undef,undef],defers:=[] }) ?assign ?body ?done ?stop
 case assign=>
  intro l1 q Wc K1 hK1;gi_wp2;exact hK1
 case body=>
  rintro l1 q Wc hq ⟨hk,cR,cN,hlt⟩ hz;have m0:=(hk.cel c0 (by omega)).cell 0 rfl;have r0:=cR.cell 0 rfl;have r1:=cR.frozen 0;have s0:=cN.cell 0 rfl;have s1:=cN.frozen 0;have pq:=PL.out q hq
  have NS:=aG (CX p q)
  have NG:Hid (p q<nx p q\/n<=p q->¬o6 n mm p):=fun h hG=>by
   obtain⟨g1,g2⟩:=hG q hq;unfold nx at h;split at h
   .omega
   .have:=g2 (by omega);omega
  have NN:Hid (¬(p q<nx p q\/n<=p q)->∀j,j<q+1->p j<n/\(0<j->p (j-1)<p j)):=fun h j hj=>by
   by_cases e:j=q
   .subst e;unfold nx at h;split at h
    .exact⟨by omega,fun h0=>by omega⟩
    .exact⟨by omega,fun h0=>by omega⟩
   .exact hlt j (by omega)
  have HX:Hid (az (fun b=>b≠w.heap.size+1/\b≠g1) Wc (Wc.setCell ⟨w.heap.size+1,0,none⟩ (.bool false))/\az (fun b=>b≠w.heap.size+1/\b≠g1) w' (Wc.setCell ⟨w.heap.size+1,0,none⟩ (.bool false))/\aa (Wc.setCell ⟨w.heap.size+1,0,none⟩ (.bool false)) (w.heap.size+1) [.bool false] 4):=⟨(az.refl _ _).setCell (fun h=>h.1 rfl) _,hk.setCell (fun h=>h.1 rfl) _,cR.set 0 _⟩
  have HY:Hid (az (fun b=>b≠w.heap.size+1/\b≠g1) Wc (Wc.setCell ⟨g1,0,none⟩ (.int .i64 ((p q:Int)+1)))/\az (fun b=>b≠w.heap.size+1/\b≠g1) w' (Wc.setCell ⟨g1,0,none⟩ (.int .i64 ((p q:Int)+1)))/\aa (Wc.setCell ⟨g1,0,none⟩ (.int .i64 ((p q:Int)+1))) (w.heap.size+1) [.bool false] 4/\aa (Wc.setCell ⟨g1,0,none⟩ (.int .i64 ((p q:Int)+1))) g1 [.int .i64 (nx p (q+1):Nat)] 3):=⟨(az.refl _ _).setCell (fun h=>h.2 rfl) _,hk.setCell (fun h=>h.2 rfl) _,cR.other (show w.heap.size+1≠g1 by omega) _,by rw[NS.out,show((p q+1:Nat):Int)=(p q:Int)+1 by omega];exact cN.set 0 _⟩
  clear G hlt PL;generalize nx p q=a at *;by_cases h1:p q<a
  .have h12:(p q:Int)<(a:Int):=by omega
   gi_wp2;exact⟨HX.out.1,HX.out.2.1,HX.out.2.2,NG.out (.inl h1)⟩
  .have h12:¬(p q:Int)<(a:Int):=by omega
   by_cases h2:n<=p q
   .have h22:(n:Int)<=(p q:Int):=by omega
    gi_wp2;exact⟨HX.out.1,HX.out.2.1,HX.out.2.2,NG.out (.inr h2)⟩
   .have h22:¬(n:Int)<=(p q:Int):=by omega
    gi_wp2;exact⟨HY.out.1,HY.out.2.1,HY.out.2.2.1,HY.out.2.2.2,NN.out (by omega)⟩
 case done=>
  rintro D Wc hD ⟨hk,cR,cN,hlt⟩ hd;have r0:=cR.cell 0 rfl;have r1:=cR.frozen 0
  have hb:=aG (((hk.below (B:=w.heap.size) (fun x h=>by omega) (by omega))).setCell (p:=⟨w.heap.size+1,0,none⟩) (show w.heap.size<=w.heap.size+1 by omega) (.bool true));have cS:=aG (cR.set 0 (.bool true))
  have hd2:=aG ((Below.heap_setCell Wc ⟨w.heap.size+1,0,none⟩ (.bool true) D (show D≠w.heap.size+1 by omega)).trans hd);obtain rfl:B=true:=HB.out.2 hlt;clear hd hk hlt;go_wp2
  have cR2:=(cS.out.put (.deferred none) (show w.heap.size+1≠D by omega)).cell 0 rfl
  exact fb hd2.out (v:=.bool true) (by simp[results,Tryz.results176,go_sem,cR2]) ⟨rfl,b4.trans (hb.out.trans (dt (by omega) _))⟩
 case stop=>
  rintro D q Wc hD hq ⟨hk,cR,hn⟩ hd;obtain rfl:B=false:=Bool.eq_false_iff.2 fun h=>hn (HB.out.1 h);go_wp2;have cR2:=(cR.put (.deferred none) (show w.heap.size+1≠D by omega)).cell 0 rfl
  exact fb hd (v:=.bool false) (by simp[results,Tryz.results176,go_sem,cR2]) ⟨rfl,b4.trans ((hk.below (fun x h=>by omega) (by omega)).trans (dt (by omega) _))⟩
theorem wG(a0 a1 a2 a3 a4 a5 a6 a7:Value)(w:World)(FC:Hid (Qz w 245 #[.agg #[a0,a1,a2,a3,a4,a5,a6,a7]] (.bool false))):
  Qq 176 #[.agg #[a0,a1,a2,a3,a4,a5,a6,a7]] w (.bool false):=by
 refine(callsIn_wide (n:=0)).1 (callsIn_of_wp_marks func176 rfl trivial ?_)
 simp only[ntmps176,List.size_toArray,List.length_cons,List.length_nil,Nat.reduceAdd,Nat.reduceSub,Array.replicate_succ,Array.replicate_zero,List.push_toArray,List.append_toArray,List.nil_append,List.cons_append]
 refine wpIn_wide.2 ?_;obtain⟨W1,hW1⟩:∃W1,W1=(w.alloc (.cells #[a0,a1,a2,a3,a4,a5,a6,a7] 42)).alloc (.cells #[.bool false] 4):=⟨_,rfl⟩
 have b1:Below w.heap.size w W1:=by rw[hW1];exact((below_alloc w _).alloc (by simp only[World.size_alloc];omega) _)
 have c1:aa W1 (w.heap.size+1) [.bool false] 4:=by rw[hW1];exact aa.new2 w _ _ _
 go_wp2_with fail;rw[<-hW1];clear hW1;refine mr (FC.out _ b1) fun wf hb=>?_;replace b1:=bg b1 hb;replace c1:=c1.kept hb;have r0:=c1.cell 0 rfl;have r1:=c1.frozen 0
 have HZ:=aG (And.intro (c1.set 0 (.bool false)) (b1.setCell (p:=⟨w.heap.size+1,0,none⟩) (show w.heap.size<=w.heap.size+1 by omega) (.bool false)));clear hb FC b1;go_wp2;have r2:=HZ.out.1.cell 0 rfl
 exact⟨.bool false,by simp[results,Tryz.results176,go_sem,r2],rfl,HZ.out.2⟩
theorem kI(a:bm)(h:kOk9 a=true):∃(n mm kn vn hh:Nat) (LM:Int) (xs ys:List Nat),a=⟨n,mm,kn,vn,LM,xs,hh,ys⟩:=by
 obtain⟨_,e⟩:=qw a h;rw[e];exact⟨_,_,_,_,_,_,_,_,rfl⟩
theorem IE(cs:List Value)(a:bm)(w:World)(h:bK w cs a):
  Qq 176 #[.agg cs.toArray] w (.bool (kOk9 a)):=by
 obtain⟨⟨ao,cap,qo,dap,rfl,ir,a1,a2,a3,a4,a5,a6⟩,n3,xl,yl⟩:=h;obtain⟨N,M,k,V,LM,xs,H,ys⟩:=a;dsimp only at *;by_cases P1:(0<=M/\M<=N/\N<=1048576)/\aZ k V LM xs=true/\ar H ys=true
 .obtain⟨⟨p1,p2,p3⟩,p4,p5⟩:=P1;obtain⟨v1,v2,v3,v4,v5,v6,v7,v8⟩:=iL _ _ _ _ p4;obtain⟨u1,u2,u3,u4⟩:=bp _ _ p5;obtain⟨n,rfl⟩:=Int.eq_ofNat_of_zero_le (show 0<=N by omega)
  obtain⟨mm,rfl⟩:=Int.eq_ofNat_of_zero_le p1;obtain⟨kn,rfl⟩:=Int.eq_ofNat_of_zero_le v3;obtain⟨vn,rfl⟩:=Int.eq_ofNat_of_zero_le (show 0<=V by omega);obtain⟨hh,rfl⟩:=Int.eq_ofNat_of_zero_le u1
  have on:onesI (hh:Int) ys (hh:Int)=((plc (bitAt ys) hh).length:Int):=by
   rw[ub];unfold onesI;rw[p5,show min (hh:Int) (hh:Int)=(hh:Int)by omega,Int.toNat_natCast];rfl
  by_cases P2:(kn:Int)=(loN n mm:Int)/\(vn:Int)=(max (wdF n mm) 1:Nat)/\(hh:Int)=((mm+n/2^wdF n mm+1:Nat):Int)/\onesI (hh:Int) ys (hh:Int)=(mm:Int)
  .obtain⟨g1,g2,g3,g4⟩:=P2;rw[on]at g4;have F:fD n mm kn vn LM xs hh ys:=⟨by omega,by omega,p4,p5,by omega,by omega,by omega,by omega⟩
   have FC:Hid (Qz w 245 #[.agg #[.int .i64 n,.int .i64 mm,.int .i64 kn,.int .i64 vn,.int .i64 LM,.slice ao xs.length cap,.int .i64 hh,.slice qo ys.length dap]] (.bool true)):=fun w0 hb=>
    wu n mm kn vn LM hh ao xs cap qo ys dap w0 (a1.keep hb) a2 (a4.keep hb) a5 a3 a6 (by omega) (by omega) p4 p5 true ⟨fun _=>⟨g1,g2,g3,by rw[on];exact g4⟩,fun _=>rfl⟩
   refine Gh n mm kn vn hh LM ao xs cap qo ys dap w F a1 a2 a4 a5 FC _ ⟨fun hk=>?_,fun hG=>GC n mm kn vn hh LM xs ys a2 a5 F hG⟩;obtain⟨_,hl,hg,hr⟩:=jj n mm kn vn hh LM xs ys hk;intro q hq
   rw[hg q hq];refine⟨hr.1 q (by omega),fun h0=>?_⟩;rw[hg (q-1) (by omega)];exact hr.lt (by omega) (by omega)
  .have ko:kOk9 ⟨n,mm,kn,vn,LM,xs,hh,ys⟩=false:=Bool.eq_false_iff.2 fun hk=>by
    obtain⟨F,_⟩:=jj n mm kn vn hh LM xs ys hk;exact P2 ⟨by rw[F.hk],by rw[F.hv],by rw[F.hh],by rw[on,F.on]⟩
   rw[ko];refine wG _ _ _ _ _ _ _ _ w fun w0 hb=>?_
   exact wu n mm kn vn LM hh ao xs cap qo ys dap w0 (a1.keep hb) a2 (a4.keep hb) a5 a3 a6 (by omega) (by omega) p4 p5 false ⟨fun h=>absurd h (by simp),fun h=>absurd h P2⟩
 .have ko:kOk9 ⟨N,M,k,V,LM,xs,H,ys⟩=false:=Bool.eq_false_iff.2 fun hk=>by
   obtain⟨n,mm,kn,vn,hh,LM',xs',ys',e⟩:=kI _ hk;simp only[FA.mk.injEq]at e;obtain⟨rfl,rfl,rfl,rfl,rfl,rfl,rfl,rfl⟩:=e;obtain⟨F,_⟩:=jj n mm kn vn hh LM xs ys hk
   exact P1 ⟨⟨by omega,by have:=F.hm;omega,by have:=F.hn;omega⟩,F.ik,F.ck⟩
  rw[ko];refine wG _ _ _ _ _ _ _ _ w fun w0 hb=>?_;exact Gd N M k V LM H ao xs cap qo ys dap w0 (a1.keep hb) a2 (a4.keep hb) a5 a3 a6 P1
theorem iw{w:World}{cs:List Value}{a:bm}(h:bK w cs a)(b:Bool)(hb:kOk9 a=b):Hid (Qz w 176 #[.agg cs.toArray] (.bool b)):=fun w0 hw=>by
 have:=IE cs a w0 (h.keep hw);rw[hb]at this;exact this
theorem Js(cs:List Value)(a:bm)(w:World)(h:bK w cs a):
  Calls prog 131 #[.agg cs.toArray] w fun e w'=>∃bo bc,e=.returned (.agg #[.int .i64 (kBN9 a),.slice bo (kBX9 a).length bc])/\Wd w' bo (kBX9 a)/\(kBX9 a).length<=bc/\Below w.heap.size w w':=by
 cases hk:kOk9 a with
 | false=>
  have CC:=iw h false hk;have e1:kBN9 a=0:=by unfold kBN9;rw[hk];rfl
  have e2:kBX9 a=[]:=by unfold kBX9;rw[hk];rfl
  rw[e1,e2];obtain⟨⟨ao,cap,qo,dap,rfl,_⟩,_⟩:=h;refine mr (Gl _ _ _ _ _ _ _ _ w CC) fun w' hb=>?_;exact⟨none,0,rfl,dU _ _,Nat.zero_le _,hb⟩
 | true=>
  have CC:=iw h true hk;obtain⟨n,mm,kn,vn,hh,LM,xs,ys,rfl⟩:=kI a hk;obtain⟨F,hl,hg,hr⟩:=jj n mm kn vn hh LM xs ys hk
  have e1:kBN9 ⟨n,mm,kn,vn,LM,xs,hh,ys⟩=(n:Int):=by unfold kBN9;rw[if_pos hk]
  have e2:kBX9 ⟨n,mm,kn,vn,LM,xs,hh,ys⟩=rowOf n (isIn (kRow ⟨n,mm,kn,vn,LM,xs,hh,ys⟩)):=by unfold kBX9;rw[if_pos hk];rfl
  rw[e1,e2];obtain⟨⟨ao,cap,qo,dap,rfl,ir,a1,a2,a3,a4,a5,a6⟩,n3,xl,yl⟩:=h;exact Gk n mm kn vn hh LM ao xs cap qo ys dap _ w F a1 a2 a4 a5 hl hg hr CC
theorem zJ(cs:List Value)(a:bm)(w:World)(h:bK w cs a):
  Qq 120 #[.agg cs.toArray] w (.int .i64 (kZ9 a)):=by
 cases hk:kOk9 a with
 | false=>
  have CC:=iw h false hk;have e1:kZ9 a=0:=by unfold kZ9;rw[hk];rfl
  rw[e1];obtain⟨⟨ao,cap,qo,dap,rfl,_⟩,_⟩:=h;obtain⟨N,M,k,V,LM,xs,H,ys⟩:=a;dsimp only at *
  obtain⟨W,hW⟩:∃W,W=w.alloc (.cells #[.int .i64 N,.int .i64 M,.int .i64 k,.int .i64 V,.int .i64 LM,.slice ao xs.length cap,.int .i64 H,.slice qo ys.length dap] 42):=⟨_,rfl⟩;have bW:=aM hW;have B1:=aU hW
  go_enter func120,ntmps120;go_wp2_with fail;rw[<-hW];refine mr (CC.out _ bW) fun w1 hb=>?_;have bw1:=bg bW hb;replace B1:=B1.kept hb;clear hb CC hW bW;go_wp2;go_ret;exact⟨rfl,bw1⟩
 | true=>
  have CC:=iw h true hk;obtain⟨n,mm,kn,vn,hh,LM,xs,ys,rfl⟩:=kI a hk;obtain⟨F,hl,hg,hr⟩:=jj n mm kn vn hh LM xs ys hk
  have e1:kZ9 ⟨n,mm,kn,vn,LM,xs,hh,ys⟩=LM+(hh:Int)+64:=by unfold kZ9;rw[if_pos hk]
  rw[e1];obtain⟨_,_,_,_,_,l1,l2,_⟩:=iL _ _ _ _ F.ik;obtain⟨_,l3,_,_⟩:=bp _ _ F.ck;obtain⟨⟨ao,cap,qo,dap,rfl,ir,a1,a2,a3,a4,a5,a6⟩,n3,xl,yl⟩:=h;dsimp only at *
  clear ir a1 a2 a3 a4 a5 a6 F hl hg hr hk
  obtain⟨W,hW⟩:∃W,W=w.alloc (.cells #[.int .i64 n,.int .i64 mm,.int .i64 kn,.int .i64 vn,.int .i64 LM,.slice ao xs.length cap,.int .i64 hh,.slice qo ys.length dap] 42):=⟨_,rfl⟩
  have bW:=aM hW;have B1:=aU hW;go_enter func120,ntmps120;go_wp2_with fail;rw[<-hW];refine mr (CC.out _ bW) fun w1 hb=>?_;have bw1:=bg bW hb;replace B1:=B1.kept hb
  clear hb CC hW bW;have q4:=B1.cell 4 rfl;have q6:=B1.cell 6 rfl;go_wp2;go_ret;exact⟨rfl,bw1⟩
theorem J0(cs:List Value)(a:bm)(i:Int)(w:World)(h:bK w cs a)(hi:ax i):
  Qq 105 #[.agg cs.toArray,.int .i64 i] w (.tuple #[.bool (gaB (kOk9 a) (kBN9 a) (kBX9 a) i),.int .i64 (gaE (kOk9 a) (kBN9 a) (kBX9 a) i)]):=by
 obtain⟨P1,hP1⟩:∃P:Bool,Hid (P=gaB (kOk9 a) (kBN9 a) (kBX9 a) i):=⟨gaB (kOk9 a) (kBN9 a) (kBX9 a) i,(rfl:gaB (kOk9 a) (kBN9 a) (kBX9 a) i=gaB (kOk9 a) (kBN9 a) (kBX9 a) i)⟩
 obtain⟨P2,hP2⟩:∃P:Int,Hid (P=gaE (kOk9 a) (kBN9 a) (kBX9 a) i):=⟨gaE (kOk9 a) (kBN9 a) (kBX9 a) i,(rfl:gaE (kOk9 a) (kBN9 a) (kBX9 a) i=gaE (kOk9 a) (kBN9 a) (kBX9 a) i)⟩;rw[<-hP1.out,<-hP2.out]
 cases hk:kOk9 a with
 | false=>
  have CC:=iw h false hk
  have E:Hid (P1=false/\P2=2):=by
   show _/\_;rw[hP1.out,hP2.out];unfold gaB gaE;rw[hk];exact⟨rfl,rfl⟩
  obtain⟨⟨ao,cap,qo,dap,rfl,_⟩,_⟩:=h;obtain⟨N,M,k,V,LM,xs,H,ys⟩:=a;dsimp only at *;clear hP1 hP2
  obtain⟨W,hW⟩:∃W,W=w.alloc (.cells #[.int .i64 N,.int .i64 M,.int .i64 k,.int .i64 V,.int .i64 LM,.slice ao xs.length cap,.int .i64 H,.slice qo ys.length dap] 42):=⟨_,rfl⟩;have bW:=aM hW;have B1:=aU hW
  go_enter func105,ntmps105;go_wp2_with fail;rw[<-hW];refine mr (CC.out _ bW) fun w1 hb=>?_;have bw1:=bg bW hb;replace B1:=B1.kept hb;clear hb CC hW bW;go_wp2;go_ret2
  rw[E.out.1,E.out.2];exact⟨rfl,bw1⟩
 | true=>
  have CC:=iw h true hk;have hck:=n_ a hk;obtain⟨n,mm,kn,vn,hh,LM,xs,ys,rfl⟩:=kI a hk;obtain⟨F,hl,hg,hr⟩:=jj n mm kn vn hh LM xs ys hk
  have e1:kBN9 ⟨n,mm,kn,vn,LM,xs,hh,ys⟩=(n:Int):=by unfold kBN9;rw[if_pos hk]
  have e2:kBX9 ⟨n,mm,kn,vn,LM,xs,hh,ys⟩=rowOf n (isIn (kRow ⟨n,mm,kn,vn,LM,xs,hh,ys⟩)):=by unfold kBX9;rw[if_pos hk];rfl
  rw[e1,e2]at hck;rw[hk,e1,e2]at hP1;rw[hk,e1,e2]at hP2;generalize kRow ⟨n,mm,kn,vn,LM,xs,hh,ys⟩=l at *;obtain⟨⟨ao,cap,qo,dap,rfl,ir,a1,a2,a3,a4,a5,a6⟩,n3,xl,yl⟩:=h;dsimp only at *
  have nl:=F.hn;have ml:=F.hm;clear hk e1 e2 n3 xl yl ir
  obtain⟨W,hW⟩:∃W,W=w.alloc (.cells #[.int .i64 n,.int .i64 mm,.int .i64 kn,.int .i64 vn,.int .i64 LM,.slice ao xs.length cap,.int .i64 hh,.slice qo ys.length dap] 42):=⟨_,rfl⟩
  have bW:=aM hW;have B1:=aU hW;by_cases i0:i<0\/(n:Int)<=i
  .have E:Hid (P1=false/\P2=3):=by
    show _/\_;rw[hP1.out,hP2.out];unfold gaB gaE dg cH;rw[hck,if_pos rfl,if_neg (by simp),if_pos i0,decide_eq_false (by omega)];exact⟨rfl,rfl⟩
   clear hP1 hP2 hck hl hg hr F a1 a4 a2 a5;rcases i0 with i0 | i0
   .skip;go_enter func105,ntmps105;go_wp2_with fail;rw[<-hW];refine mr (CC.out _ bW) fun w1 hb=>?_;have bw1:=bg bW hb;replace B1:=B1.kept hb;clear hb CC hW bW
    have q0:=B1.cell 0 rfl;go_wp2;go_ret2;rw[E.out.1,E.out.2];exact⟨rfl,bw1⟩
   .skip;have i1:¬i<0:=by omega
    go_enter func105,ntmps105;go_wp2_with fail;rw[<-hW];refine mr (CC.out _ bW) fun w1 hb=>?_;have bw1:=bg bW hb;replace B1:=B1.kept hb;clear hb CC hW bW;have q0:=B1.cell 0 rfl
    go_wp2;go_ret2;rw[E.out.1,E.out.2];exact⟨rfl,bw1⟩
  .obtain⟨j,rfl⟩:=Int.eq_ofNat_of_zero_le (show 0<=i by omega)
   have E:Hid (P1=isIn l j/\P2=0):=by
    show _/\_;rw[hP1.out,hP2.out];unfold gaB gaE dg cH;rw[hck,if_pos rfl,if_neg (by simp),if_neg i0,decide_eq_true (by omega),Int.toNat_natCast,oU n l hr];exact⟨rfl,rfl⟩
   have C2:Hid (Qz w 177 #[.agg #[.int .i64 n,.int .i64 mm,.int .i64 kn,.int .i64 vn,.int .i64 LM,.slice ao xs.length cap,.int .i64 hh,.slice qo ys.length dap],.int .i64 j] (.bool (isIn l j))):=fun w0 hb=>F_ n mm kn vn hh LM ao xs cap qo ys dap l w0 F (a1.keep hb) a2 (a4.keep hb) a5 hl hg hr j (by omega)
   have i1:¬(j:Int)<0:=by omega
   have i2:¬(n:Int)<=(j:Int):=by omega
   clear hP1 hP2 hck hl hg hr F a1 a4 a2 a5 i0;go_enter func105,ntmps105;go_wp2_with fail;rw[<-hW];refine mr (CC.out _ bW) fun w1 hb=>?_;have bw1:=bg bW hb;replace B1:=B1.kept hb
   clear hb CC hW bW;have q0:=B1.cell 0 rfl;have q1:=B1.cell 1 rfl;have q2:=B1.cell 2 rfl;have q3:=B1.cell 3 rfl;have q4:=B1.cell 4 rfl;have q5:=B1.cell 5 rfl;have q6:=B1.cell 6 rfl;have q7:=B1.cell 7 rfl
   go_wp2_with fail;refine mr (C2.out _ bw1) fun w2 hb=>?_;have bw2:=bg bw1 hb;clear hb;go_wp2;go_ret2;rw[E.out.1,E.out.2];exact⟨rfl,bw2⟩
theorem A0(cs:List Value)(a:bm)(bit:Bool)(i:Int)(w:World)(h:bK w cs a)(hi:ax i):
  Qq 108 #[.agg cs.toArray,.bool bit,.int .i64 i] w (.tuple #[.int .i64 (grN (kOk9 a) (kBN9 a) (kBX9 a) bit i),.int .i64 (grE (kOk9 a) (kBN9 a) i)]):=by
 obtain⟨P1,hP1⟩:∃P:Int,Hid (P=grN (kOk9 a) (kBN9 a) (kBX9 a) bit i):=⟨grN (kOk9 a) (kBN9 a) (kBX9 a) bit i,(rfl:grN (kOk9 a) (kBN9 a) (kBX9 a) bit i=grN (kOk9 a) (kBN9 a) (kBX9 a) bit i)⟩
 obtain⟨P2,hP2⟩:∃P:Int,Hid (P=grE (kOk9 a) (kBN9 a) i):=⟨grE (kOk9 a) (kBN9 a) i,(rfl:grE (kOk9 a) (kBN9 a) i=grE (kOk9 a) (kBN9 a) i)⟩;rw[<-hP1.out,<-hP2.out];cases hk:kOk9 a with
 | false=>
  have CC:=iw h false hk
  have E:Hid (P1=0/\P2=2):=by
   show _/\_;rw[hP1.out,hP2.out];unfold grN grE;rw[hk];exact⟨rfl,rfl⟩
  obtain⟨⟨ao,cap,qo,dap,rfl,_⟩,_⟩:=h;obtain⟨N,M,k,V,LM,xs,H,ys⟩:=a;dsimp only at *;clear hP1 hP2
  obtain⟨W,hW⟩:∃W,W=w.alloc (.cells #[.int .i64 N,.int .i64 M,.int .i64 k,.int .i64 V,.int .i64 LM,.slice ao xs.length cap,.int .i64 H,.slice qo ys.length dap] 42):=⟨_,rfl⟩;have bW:=aM hW;have B1:=aU hW
  go_enter func108,ntmps108;go_wp2_with fail;rw[<-hW];refine mr (CC.out _ bW) fun w1 hb=>?_;have bw1:=bg bW hb;replace B1:=B1.kept hb;clear hb CC hW bW;go_wp2;go_ret2
  rw[E.out.1,E.out.2];exact⟨rfl,bw1⟩
 | true=>
  have CC:=iw h true hk;have hck:=n_ a hk;obtain⟨n,mm,kn,vn,hh,LM,xs,ys,rfl⟩:=kI a hk;obtain⟨F,hl,hg,hr⟩:=jj n mm kn vn hh LM xs ys hk
  have e1:kBN9 ⟨n,mm,kn,vn,LM,xs,hh,ys⟩=(n:Int):=by unfold kBN9;rw[if_pos hk]
  have e2:kBX9 ⟨n,mm,kn,vn,LM,xs,hh,ys⟩=rowOf n (isIn (kRow ⟨n,mm,kn,vn,LM,xs,hh,ys⟩)):=by unfold kBX9;rw[if_pos hk];rfl
  rw[e1,e2]at hck;rw[hk,e1,e2]at hP1;rw[hk,e1]at hP2;generalize kRow ⟨n,mm,kn,vn,LM,xs,hh,ys⟩=l at *;obtain⟨⟨ao,cap,qo,dap,rfl,ir,a1,a2,a3,a4,a5,a6⟩,n3,xl,yl⟩:=h;dsimp only at *;have nl:=F.hn
  have ml:=F.hm;clear hk e1 e2 n3 xl yl ir
  obtain⟨W,hW⟩:∃W,W=w.alloc (.cells #[.int .i64 n,.int .i64 mm,.int .i64 kn,.int .i64 vn,.int .i64 LM,.slice ao xs.length cap,.int .i64 hh,.slice qo ys.length dap] 42):=⟨_,rfl⟩
  have bW:=aM hW;have B1:=aU hW;by_cases i0:i<0\/(n:Int)<i
  .have E:Hid (P1=0/\P2=3):=by
    show _/\_;rw[hP1.out,hP2.out];unfold grN grE;rw[if_pos rfl,if_pos i0];exact⟨rfl,rfl⟩
   clear hP1 hP2 hck hl hg hr F a1 a4 a2 a5;rcases i0 with i0 | i0
   .skip;go_enter func108,ntmps108;go_wp2_with fail;rw[<-hW];refine mr (CC.out _ bW) fun w1 hb=>?_;have bw1:=bg bW hb;replace B1:=B1.kept hb;clear hb CC hW bW
    have q0:=B1.cell 0 rfl;go_wp2;go_ret2;rw[E.out.1,E.out.2];exact⟨rfl,bw1⟩
   .skip;have i1:¬i<0:=by omega
    go_enter func108,ntmps108;go_wp2_with fail;rw[<-hW];refine mr (CC.out _ bW) fun w1 hb=>?_;have bw1:=bg bW hb;replace B1:=B1.kept hb;clear hb CC hW bW;have q0:=B1.cell 0 rfl
    go_wp2;go_ret2;rw[E.out.1,E.out.2];exact⟨rfl,bw1⟩
  .obtain⟨j,rfl⟩:=Int.eq_ofNat_of_zero_le (show 0<=i by omega);obtain⟨c,hc⟩:∃c,c=cntB (rowOf n (isIn l)) j:=⟨_,rfl⟩;have cj:c<=j:=by rw[hc];exact et _ _
   have E:Hid (P1=((if bit then c else j-c:Nat):Int)/\P2=0):=by
    show _/\_;rw[hP1.out,hP2.out];unfold grN grE;rw[if_pos rfl,if_neg i0,if_pos rfl,Int.toNat_natCast];unfold cB;rw[<-hc];exact⟨rfl,rfl⟩
   have C2:Hid (Qz w 181 #[.agg #[.int .i64 n,.int .i64 mm,.int .i64 kn,.int .i64 vn,.int .i64 LM,.slice ao xs.length cap,.int .i64 hh,.slice qo ys.length dap],.int .i64 j] (.int .i64 (c:Nat))):=fun w0 hb=>FX n mm kn vn hh LM ao xs cap qo ys dap l w0 F (a1.keep hb) a2 (a4.keep hb) a5 hl hg hr j (by omega) c (by rw[hc];exact oF hr j)
   have C3:Hid (∀w0,Qx 180 #[.bool bit,.int .i64 j,.int .i64 (c:Nat)] w0 (.int .i64 ((if bit then c else j-c:Nat):Int))):=fun w0=>wl bit j c (by omega) cj w0
   have i1:¬(j:Int)<0:=by omega
   have i2:¬(n:Int)<(j:Int):=by omega
   clear hP1 hP2 hck hl hg hr F a1 a4 a2 a5 i0 hc;generalize (if bit then c else j-c:Nat)=R at *;go_enter func108,ntmps108;go_wp2_with fail;rw[<-hW];refine mr (CC.out _ bW) fun w1 hb=>?_
   have bw1:=bg bW hb;replace B1:=B1.kept hb;clear hb CC hW bW;have q0:=B1.cell 0 rfl;have q1:=B1.cell 1 rfl;have q2:=B1.cell 2 rfl;have q3:=B1.cell 3 rfl;have q4:=B1.cell 4 rfl
   have q5:=B1.cell 5 rfl;have q6:=B1.cell 6 rfl;have q7:=B1.cell 7 rfl;go_wp2_with fail;refine mr (C2.out _ bw1) fun w2 hb=>?_;have bw2:=bg bw1 hb;clear hb;go_wp2_with fail
   refine mr (C3.out _) fun w3 h3=>?_;rw[h3];clear h3 w3;go_wp2;go_ret2;rw[E.out.1,E.out.2];exact⟨rfl,bw2⟩
theorem zT(cs:List Value)(a:bm)(bit:Bool)(k:Int)(w:World)(h:bK w cs a)(hi:ax k):
  Qq 128 #[.agg cs.toArray,.bool bit,.int .i64 k] w (.tuple #[.int .i64 (gsX (kOk9 a) (kBN9 a) (kBX9 a) bit k),.int .i64 (gsE (kOk9 a) (kBN9 a) (kBX9 a) bit k)]):=by
 obtain⟨P1,hP1⟩:∃P:Int,Hid (P=gsX (kOk9 a) (kBN9 a) (kBX9 a) bit k):=⟨gsX (kOk9 a) (kBN9 a) (kBX9 a) bit k,(rfl:gsX (kOk9 a) (kBN9 a) (kBX9 a) bit k=gsX (kOk9 a) (kBN9 a) (kBX9 a) bit k)⟩
 obtain⟨P2,hP2⟩:∃P:Int,Hid (P=gsE (kOk9 a) (kBN9 a) (kBX9 a) bit k):=⟨gsE (kOk9 a) (kBN9 a) (kBX9 a) bit k,(rfl:gsE (kOk9 a) (kBN9 a) (kBX9 a) bit k=gsE (kOk9 a) (kBN9 a) (kBX9 a) bit k)⟩;rw[<-hP1.out,<-hP2.out]
 cases hk:kOk9 a with
 | false=>
  have CC:=iw h false hk
  have E:Hid (P1=0/\P2=2):=by
   show _/\_;rw[hP1.out,hP2.out];unfold gsX gsE;rw[hk];exact⟨rfl,rfl⟩
  obtain⟨⟨ao,cap,qo,dap,rfl,_⟩,_⟩:=h;obtain⟨N,M,k0,V,LM,xs,H,ys⟩:=a;dsimp only at *;clear hP1 hP2
  obtain⟨W,hW⟩:∃W,W=w.alloc (.cells #[.int .i64 N,.int .i64 M,.int .i64 k0,.int .i64 V,.int .i64 LM,.slice ao xs.length cap,.int .i64 H,.slice qo ys.length dap] 42):=⟨_,rfl⟩;have bW:=aM hW;have B1:=aU hW
  go_enter func128,ntmps128;go_wp2_with fail;rw[<-hW];refine mr (CC.out _ bW) fun w1 hb=>?_;have bw1:=bg bW hb;replace B1:=B1.kept hb;clear hb CC hW bW;go_wp2;go_ret2
  rw[E.out.1,E.out.2];exact⟨rfl,bw1⟩
 | true=>
  have CC:=iw h true hk;have hck:=n_ a hk;obtain⟨n,mm,kn,vn,hh,LM,xs,ys,rfl⟩:=kI a hk;obtain⟨F,hl,hg,hr⟩:=jj n mm kn vn hh LM xs ys hk
  have e1:kBN9 ⟨n,mm,kn,vn,LM,xs,hh,ys⟩=(n:Int):=by unfold kBN9;rw[if_pos hk]
  have e2:kBX9 ⟨n,mm,kn,vn,LM,xs,hh,ys⟩=rowOf n (isIn (kRow ⟨n,mm,kn,vn,LM,xs,hh,ys⟩)):=by unfold kBX9;rw[if_pos hk];rfl
  rw[e1,e2]at hck;rw[hk,e1,e2]at hP1;rw[hk,e1,e2]at hP2;generalize kRow ⟨n,mm,kn,vn,LM,xs,hh,ys⟩=l at *;obtain⟨⟨ao,cap,qo,dap,rfl,ir,a1,a2,a3,a4,a5,a6⟩,n3,xl,yl⟩:=h;dsimp only at *
  have nl:=F.hn;have ml:=F.hm;clear hk e1 e2 n3 xl yl ir
  obtain⟨W,hW⟩:∃W,W=w.alloc (.cells #[.int .i64 n,.int .i64 mm,.int .i64 kn,.int .i64 vn,.int .i64 LM,.slice ao xs.length cap,.int .i64 hh,.slice qo ys.length dap] 42):=⟨_,rfl⟩
  have bW:=aM hW;have B1:=aU hW
  have all:cB (rowOf n (isIn l)) bit n=if bit then mm else n-mm:=by
   unfold cB;rw[Ha hr,hl]
  have IFF:=jb (n:Int) (rowOf n (isIn l)) bit k;rw[Int.toNat_natCast,all]at IFF
  have C3:Hid (∀w0,Qx 180 #[.bool bit,.int .i64 n,.int .i64 mm] w0 (.int .i64 ((if bit then mm else n-mm:Nat):Int))):=fun w0=>wl bit n mm nl ml w0
  obtain⟨R,hR⟩:∃R,Hid (R=if bit then mm else n-mm):=⟨_,rfl⟩;rw[<-hR.out]at IFF C3;have RR:R<=1048576:=by rw[hR.out];split<;>omega
  by_cases i0:k<0\/(R:Int)<=k
  .have E:Hid (P1=0/\P2=3):=by
    show _/\_
    have hn:cd (n:Int) (rowOf n (isIn l)) bit k=none:=by
     cases e:cd (n:Int) (rowOf n (isIn l)) bit k with
     | none=>rfl
     | some x=>
      rw[e]at IFF;have:=IFF.1 rfl;omega
    rw[hP1.out,hP2.out];unfold gsX gsE;rw[hn];exact⟨rfl,rfl⟩
   clear hP1 hP2 hck hl hg hr F a1 a4 a2 a5 IFF all;rcases i0 with i0 | i0
   .skip;go_enter func128,ntmps128;go_wp2_with fail;rw[<-hW];refine mr (CC.out _ bW) fun w1 hb=>?_;have bw1:=bg bW hb;replace B1:=B1.kept hb;clear hb CC hW bW
    have q0:=B1.cell 0 rfl;have q1:=B1.cell 1 rfl;go_wp2;go_ret2;rw[E.out.1,E.out.2];exact⟨rfl,bw1⟩
   .by_cases i1:k<0
    .skip;go_enter func128,ntmps128;go_wp2_with fail;rw[<-hW];refine mr (CC.out _ bW) fun w1 hb=>?_;have bw1:=bg bW hb;replace B1:=B1.kept hb;clear hb CC hW bW
     have q0:=B1.cell 0 rfl;have q1:=B1.cell 1 rfl;go_wp2;go_ret2;rw[E.out.1,E.out.2];exact⟨rfl,bw1⟩
    .skip;go_enter func128,ntmps128;go_wp2_with fail;rw[<-hW];refine mr (CC.out _ bW) fun w1 hb=>?_;have bw1:=bg bW hb;replace B1:=B1.kept hb;clear hb CC hW bW
     have q0:=B1.cell 0 rfl;have q1:=B1.cell 1 rfl;go_wp2_with fail;refine mr (C3.out _) fun w3 h3=>?_;rw[h3];clear h3 w3;go_wp2;go_ret2;rw[E.out.1,E.out.2];exact⟨rfl,bw1⟩
  .obtain⟨j,rfl⟩:=Int.eq_ofNat_of_zero_le (show 0<=k by omega);have jR:j<R:=by omega
   have C2:∃p:Nat,Hid (P1=(p:Int)/\P2=0)/\Hid (Qz w 197 #[.agg #[.int .i64 n,.int .i64 mm,.int .i64 kn,.int .i64 vn,.int .i64 LM,.slice ao xs.length cap,.int .i64 hh,.slice qo ys.length dap],.bool bit,.int .i64 j] (.int .i64 (p:Nat))):=by
    have key:∀p,cd (n:Int) (rowOf n (isIn l)) bit (j:Int)=some p->P1=(p:Int)/\P2=0:=fun p hp=>by
     rw[hP1.out,hP2.out];unfold gsX gsE;rw[hp];exact⟨rfl,rfl⟩
    cases bit with
    | true=>
     have hR':R=mm:=hR.out;obtain⟨b1,b2⟩:=G_ hr j (by omega);have b3:=hr.1 j (by omega)
     refine⟨gt l j,key _ (np _ _ _ _ _ (by rw[Int.toNat_natCast];exact b3) ?_),fun w0 hb=>FU n mm kn vn hh LM ao xs cap qo ys dap l w0 F (a1.keep hb) a2 (a4.keep hb) a5 hl hg hr j (by omega)⟩
     unfold here cB;rw[b1,if_pos rfl,b2];simp
    | false=>
     have hR':R=n-mm:=hR.out;obtain⟨c,hc,b1,b2,b3⟩:=G9 hr j (by rw[hl];omega)
     refine⟨j+c,key _ (np _ _ _ _ _ (by rw[Int.toNat_natCast];exact b1) ?_),fun w0 hb=>FV n mm kn vn hh LM ao xs cap qo ys dap l w0 F (a1.keep hb) a2 (a4.keep hb) a5 hl hg hr j (by omega) c hc⟩
     unfold here cB;rw[b2,if_neg (by simp),b3];simp
   obtain⟨p,E,C2⟩:=C2;have i1:¬(j:Int)<0:=by omega
   have i2:¬(R:Int)<=(j:Int):=by omega
   clear hP1 hP2 hck hl hg hr F a1 a4 a2 a5 i0 IFF all hR jR;go_enter func128,ntmps128;go_wp2_with fail;rw[<-hW];refine mr (CC.out _ bW) fun w1 hb=>?_;have bw1:=bg bW hb
   replace B1:=B1.kept hb;clear hb CC hW bW;have q0:=B1.cell 0 rfl;have q1:=B1.cell 1 rfl;have q2:=B1.cell 2 rfl;have q3:=B1.cell 3 rfl;have q4:=B1.cell 4 rfl;have q5:=B1.cell 5 rfl;have q6:=B1.cell 6 rfl
   have q7:=B1.cell 7 rfl;go_wp2_with fail;refine mr (C3.out _) fun w3 h3=>?_;rw[h3];clear h3 w3;go_wp2_with fail;refine mr (C2.out _ bw1) fun w2 hb=>?_;have bw2:=bg bw1 hb
   clear hb;go_wp2;go_ret2;rw[E.out.1,E.out.2];exact⟨rfl,bw2⟩
theorem oz:(prog.info? 42).map (·.size)=some 8:=by kernel_rfl
theorem Gj(N:Int)(ao:Option Addr)(xs:List Nat)(cap:Nat)(w:World)(hx:Wd w ao xs)(hk:ar N xs=false):
  Qq 93 #[.agg #[.int .i64 N,.slice ao xs.length cap]] w (.tuple #[.agg #[.int .i64 0,.int .i64 0,.int .i64 0,.int .i64 0,.int .i64 0,.slice none 0 0,.int .i64 0,.slice none 0 0],.int .i64 2]):=by
 have CC:Hid (Qz w 147 #[.agg #[.int .i64 N,.slice ao xs.length cap]] (.bool false)):=fun w0 hb=>by
  have:=bi N ao xs cap w0 (hx.keep hb);rw[hk]at this;exact this
 obtain⟨W1,hW1⟩:∃W1,W1=(w.alloc (.cells #[.int .i64 N,.slice ao xs.length cap] 33)).alloc (.cells #[.int .i64 0,.int .i64 0,.int .i64 0,.int .i64 0,.int .i64 0,.slice none 0 0,.int .i64 0,.slice none 0 0] 42):=⟨_,rfl⟩
 have b1:Below w.heap.size w W1:=by rw[hW1];exact((below_alloc w _).alloc (by simp only[World.size_alloc];omega) _)
 have c1:aa W1 (w.heap.size+1) [.int .i64 0,.int .i64 0,.int .i64 0,.int .i64 0,.int .i64 0,.slice none 0 0,.int .i64 0,.slice none 0 0] 42:=by rw[hW1];exact aa.new2 w _ _ _
 go_enter func93,ntmps93;go_wp2_with fail;rw[<-hW1];clear hW1 hx;refine mr (CC.out _ b1) fun wf hb=>?_;replace b1:=bg b1 hb;replace c1:=c1.kept hb;clear hb CC
 go_wp2_with (refine aP (w.heap.size+1) [.int .i64 0,.int .i64 0,.int .i64 0,.int .i64 0,.int .i64 0,.slice none 0 0,.int .i64 0,.slice none 0 0] [.int .i64 0,.int .i64 0,.int .i64 0,.int .i64 0,.int .i64 0,.slice none 0 0,.int .i64 0,.slice none 0 0] rfl rfl c1 rfl oz (by simp[Value.oneCell']) ?_)
 intro w3 B3 O3;have HZ:=aG (And.intro B3 (b1.trans (O3.below (Nat.le_succ _))));clear B3 O3 b1 c1;go_wp2
 (try simp only[Exit.inBlock,Exit.then]);exact bodyPost_ret (bJ rfl (w.heap.size+1) _ rfl HZ.out.1 underlying42 oz) rfl ⟨rfl,HZ.out.2⟩
theorem Gi(n:Nat)(ao:Option Addr)(xs:List Nat)(cap:Nat)(w:World)(m:Nat)(k V LM H:Int)(LX LY:List Nat)(xn yn:Nat)(hxn:xn=LX.length)(hyn:yn=LY.length)
  (CC:Hid (Qz w 147 #[.agg #[.int .i64 n,.slice ao xs.length cap]] (.bool true)))
  (CO:Hid (Qz w 156 #[.agg #[.int .i64 n,.slice ao xs.length cap],.int .i64 n] (.int .i64 m)))
  (CL:Hid (∀w0,Below w.heap.size w w0->Calls prog 157 #[.agg #[.int .i64 n,.slice ao xs.length cap],.int .i64 m] w0 fun e w'=>∃bo bc,e=.returned (.tuple #[.agg #[.int .i64 k,.int .i64 V,.int .i64 LM,.slice bo xn bc],.int .i64 0])/\Wd w' bo LX/\xn<=bc/\Below w0.heap.size w0 w'))
  (CH:Hid (∀w0,Below w.heap.size w w0->Calls prog 158 #[.agg #[.int .i64 n,.slice ao xs.length cap],.int .i64 m] w0 fun e w'=>∃qo qc,e=.returned (.tuple #[.agg #[.int .i64 H,.slice qo yn qc],.int .i64 0])/\Wd w' qo LY/\yn<=qc/\Below w0.heap.size w0 w')):
  Calls prog 93 #[.agg #[.int .i64 n,.slice ao xs.length cap]] w fun e w'=>∃bo bc qo qc,e=.returned (.tuple #[.agg #[.int .i64 n,.int .i64 m,.int .i64 k,.int .i64 V,.int .i64 LM,.slice bo xn bc,.int .i64 H,.slice qo yn qc],.int .i64 0])/\Wd w' bo LX/\xn<=bc/\Wd w' qo LY/\yn<=qc/\Below w.heap.size w w':=by
 have HX:=aG hxn;have HY:=aG hyn;clear hxn hyn
 obtain⟨W1,hW1⟩:∃W1,W1=(w.alloc (.cells #[.int .i64 n,.slice ao xs.length cap] 33)).alloc (.cells #[.int .i64 0,.int .i64 0,.int .i64 0,.int .i64 0,.int .i64 0,.slice none 0 0,.int .i64 0,.slice none 0 0] 42):=⟨_,rfl⟩
 have b1:Below w.heap.size w W1:=by rw[hW1];exact((below_alloc w _).alloc (by simp only[World.size_alloc];omega) _)
 have c0:aa W1 w.heap.size [.int .i64 n,.slice ao xs.length cap] 33:=by rw[hW1];exact(aa.new w _ _).alloc _
 have c1:aa W1 (w.heap.size+1) [.int .i64 0,.int .i64 0,.int .i64 0,.int .i64 0,.int .i64 0,.slice none 0 0,.int .i64 0,.slice none 0 0] 42:=by rw[hW1];exact aa.new2 w _ _ _
 go_enter func93,ntmps93;go_wp2_with fail;rw[<-hW1];clear hW1;refine mr (CC.out _ b1) fun wf hb=>?_;replace b1:=bg b1 hb;replace c0:=c0.kept hb;replace c1:=c1.kept hb;clear hb CC
 have q0:=c0.cell 0 rfl;have q1:=c0.cell 1 rfl;go_wp2_with fail;refine mr (CO.out _ b1) fun w2 hb=>?_;replace b1:=bg b1 hb;replace c0:=c0.kept hb;replace c1:=c1.kept hb;clear hb CO q0 q1
 have q0:=c0.cell 0 rfl;have q1:=c0.cell 1 rfl;go_wp2_with fail;refine(CL.out _ b1).mono ?_;rintro e w3 ⟨bo,bc,rfl,hX,hxc,hb⟩;replace b1:=bg b1 hb;replace c0:=c0.kept hb;replace c1:=c1.kept hb
 clear hb CL q0 q1;have bA:=below_alloc w3 (.cells #[.int .i64 k,.int .i64 V,.int .i64 LM,.slice bo xn bc] 38);have d5:=aa.new w3 [.int .i64 k,.int .i64 V,.int .i64 LM,.slice bo xn bc] 38;have d0:=c0.kept bA
 have d1:=c1.kept bA;have hX2:=hX.keep bA;have b2:=bg b1 bA;have q0:=d0.cell 0 rfl;have q1:=d0.cell 1 rfl;go_wp2_with fail;refine(CH.out _ b2).mono ?_;rintro e w4 ⟨qo,qc,rfl,hY,hyc,hb⟩
 replace b2:=bg b2 hb;replace d0:=d0.kept hb;replace d1:=d1.kept hb;replace d5:=d5.kept hb;replace hX2:=hX2.keep hb;clear hb CH q0 q1 bA b1 c0 c1 hX
 have bA:=below_alloc w4 (.cells #[.int .i64 H,.slice qo yn qc] 33);have e7:=aa.new w4 [.int .i64 H,.slice qo yn qc] 33;have e0:=d0.kept bA;have e1:=d1.kept bA;have e5:=d5.kept bA;have hX3:=hX2.keep bA
 have hY3:=hY.keep bA;have b3:=bg b2 bA;have q0:=e0.cell 0 rfl;clear bA d0 d1 d5 hX2 hY b2;have ne1:=hX3.apart e1 (by intro v hv n;simp at hv;rcases hv with rfl | rfl | rfl | rfl<;>simp)
 have ne2:=hY3.apart e1 (by intro v hv n;simp at hv;rcases hv with rfl | rfl | rfl | rfl<;>simp);generalize w3.heap.size=g5 at *
 go_wp2_with (first | refine iJ g5 _ rfl e5 underlying38 mD ?_ | refine iJ w4.heap.size _ rfl e7 underlying33 iN ?_ | refine aP (w.heap.size+1) [.int .i64 0,.int .i64 0,.int .i64 0,.int .i64 0,.int .i64 0,.slice none 0 0,.int .i64 0,.slice none 0 0] [.int .i64 n,.int .i64 m,.int .i64 k,.int .i64 V,.int .i64 LM,.slice bo xn bc,.int .i64 H,.slice qo yn qc] rfl rfl e1 rfl oz (by simp[Value.oneCell']) ?_)
 intro w5 B3 O3;have HZ:=aG (And.intro B3 (And.intro (O3.wd hX3 ne1) (And.intro (O3.wd hY3 ne2) (b3.trans (O3.below (Nat.le_succ _))))));clear B3 O3 hX3 hY3 b3 e0 e1 e5 e7 ne1 ne2;go_wp2
 (try simp only[Exit.inBlock,Exit.then]);exact bodyPost_ret (bJ rfl (w.heap.size+1) _ rfl HZ.out.1 underlying42 oz) rfl ⟨bo,bc,qo,qc,rfl,HZ.out.2.1,hxc,HZ.out.2.2.1,hyc,HZ.out.2.2.2⟩
theorem Ja(N:Int)(ao:Option Addr)(xs:List Nat)(cap:Nat)(w:World)(hN:ax N)(hx:Wd w ao xs)(hf:Fit xs)(hcap:xs.length<=cap)(hl:N<=3000/\xs.length<=1048576):
  Calls prog 93 #[.agg #[.int .i64 N,.slice ao xs.length cap]] w fun e w'=>∃cs:List Value,e=.returned (.tuple #[.agg cs.toArray,.int .i64 (kE9 N xs)])/\bK w' cs (kB9 N xs)/\Below w.heap.size w w':=by
 have z:ax 0:=⟨by decide,by decide⟩;cases hk:ar N xs with
 | false=>
  refine mr (Gj N ao xs cap w hx hk) fun w' hb=>?_;have e1:kE9 N xs=2:=by unfold kE9;rw[hk];rfl
  have e2:kB9 N xs=⟨0,0,0,0,0,[],0,[]⟩:=by unfold kB9;rw[hk];rfl
  rw[e1,e2];have f0:Fit []:=fun i=>by unfold gt;simp
  exact⟨_,rfl,⟨⟨none,0,none,0,rfl,⟨z,z,z,z,z,z⟩,dU _ _,f0,Nat.le_refl _,dU _ _,f0,Nat.le_refl _⟩,by decide,by simp,by simp⟩,hb⟩
 | true=>
  obtain⟨u1,u2,u3,u4⟩:=bp _ _ hk;obtain⟨n,rfl⟩:=Int.eq_ofNat_of_zero_le u1;have hn:n<=3000:=by omega
  obtain⟨L,hL⟩:∃L,L=plc (bitAt xs) n:=⟨_,rfl⟩;obtain⟨v,hv⟩:∃v,v=wdF n L.length:=⟨_,rfl⟩;have RS:aR L n:=by rw[hL];exact jd _ _
  have mn:=RS.len;have v20:v<=20:=by rw[hv];exact gT n _ (by omega)
  have e1:kE9 (n:Int) xs=0:=by unfold kE9;rw[hk];rfl
  have e2:kB9 (n:Int) xs=⟨n,L.length,(loP L v).length,(max v 1:Nat),((loP L v).length:Int)*(max v 1:Nat),mkS (loP L v) (max v 1) (loP L v).length,hiN L n v,rowOf (hiN L n v) (isIn (hiP L v))⟩:=by
   unfold kB9;rw[if_pos hk,Int.toNat_natCast,<-hL];unfold cK;rw[<-hv]
  have CC:Hid (Qz w 147 #[.agg #[.int .i64 n,.slice ao xs.length cap]] (.bool true)):=fun w0 hb=>by
   have:=bi n ao xs cap w0 (hx.keep hb);rw[hk]at this;exact this
  have CO:Hid (Qz w 156 #[.agg #[.int .i64 n,.slice ao xs.length cap],.int .i64 n] (.int .i64 (L.length:Nat))):=fun w0 hb=>by
   have:=xy n ao xs cap n w0 (hx.keep hb) hf hcap
   have on:onesI (n:Int) xs (n:Int)=(L.length:Int):=by
    rw[hL,ub];unfold onesI;rw[hk,show min (n:Int) (n:Int)=(n:Int)by omega,Int.toNat_natCast];rfl
   rw[on]at this;exact this
  have CL:Hid (∀w0,Below w.heap.size w w0->Calls prog 157 #[.agg #[.int .i64 n,.slice ao xs.length cap],.int .i64 (L.length:Nat)] w0 fun e w'=>∃bo bc,e=.returned (.tuple #[.agg #[.int .i64 ((loP L v).length:Nat),.int .i64 (max v 1:Nat),.int .i64 (((loP L v).length:Int)*(max v 1:Nat)),.slice bo (mkS (loP L v) (max v 1) (loP L v).length).length bc],.int .i64 0])/\Wd w' bo (mkS (loP L v) (max v 1) (loP L v).length)/\(mkS (loP L v) (max v 1) (loP L v).length).length<=bc/\Below w0.heap.size w0 w'):=fun w0 hb=>by
   by_cases c:v=0
   .refine(FZ n ao xs cap w0 L.length hn mn (by rw[<-hv];exact c)).mono ?_;rintro e w' ⟨bo,bc,rfl,hb2⟩;subst c;have e3:loP L 0=[]:=rfl;have e4:mkS [] 1 0=[]:=by unfold mkS;rfl
    rw[e3];exact⟨bo,bc,rfl,dU _ _,Nat.zero_le _,hb2⟩
   .refine(FY n ao xs cap w0 (hx.keep hb) hf hk hn L hL L.length v rfl hv (by omega)).mono ?_;rintro e w' ⟨g,k,rfl,hk2,hO,hb2⟩;have e3:(loP L v).length=L.length:=jM L v (by omega)
    have e4:max v 1=v:=by omega
    rw[e3,e4];exact⟨some ⟨g,0,none⟩,k,by rw[hk2],hO.wd,by rw[hk2];exact Nat.le_refl _,hb2⟩
  have CH:Hid (∀w0,Below w.heap.size w w0->Calls prog 158 #[.agg #[.int .i64 n,.slice ao xs.length cap],.int .i64 (L.length:Nat)] w0 fun e w'=>∃qo qc,e=.returned (.tuple #[.agg #[.int .i64 (hiN L n v:Nat),.slice qo (rowOf (hiN L n v) (isIn (hiP L v))).length qc],.int .i64 0])/\Wd w' qo (rowOf (hiN L n v) (isIn (hiP L v)))/\(rowOf (hiN L n v) (isIn (hiP L v))).length<=qc/\Below w0.heap.size w0 w'):=fun w0 hb=>by
   refine(Gc n ao xs cap w0 (hx.keep hb) hf hk hn L hL L.length v (hiN L n v) ((hiN L n v+63)/64) rfl hv rfl rfl).mono ?_;rintro e w' ⟨g,rfl,hO,_,hb2⟩
   exact⟨some ⟨g,0,none⟩,_,by rw[cU],hO.wd,by rw[cU];exact Nat.le_refl _,hb2⟩
  refine(Gi n ao xs cap w L.length _ _ _ _ _ _ _ _ rfl rfl CC CO CL CH).mono ?_;rintro e w' ⟨bo,bc,qo,qc,rfl,p1,p2,p3,p4,hb⟩;rw[e1,e2];have l1:=qr L v;have hE:n/2^v<=n:=Nat.div_le_self _ _
  have l2:hiN L n v<=6001:=by unfold hiN;omega
  have l3:(loP L v).length*max v 1<=3000*20:=Nat.mul_le_mul (by omega) (by omega);have l4:(mkS (loP L v) (max v 1) (loP L v).length).length<=1048576:=by rw[ku];omega
  have l5:(rowOf (hiN L n v) (isIn (hiP L v))).length<=1048576:=by rw[cU];omega
  have i1:ax (n:Int):=⟨by omega,by omega⟩;have i2:ax (L.length:Int):=⟨by omega,by omega⟩;have i3:ax ((loP L v).length:Int):=⟨by omega,by omega⟩;have i5:ax ((max v 1:Nat):Int):=⟨by omega,by omega⟩
  have i6:ax (hiN L n v:Int):=⟨by omega,by omega⟩
  have i4:ax (((loP L v).length:Int)*(max v 1:Nat)):=by
   rw[<-Int.natCast_mul];exact⟨by omega,by omega⟩
  exact⟨_,rfl,⟨⟨bo,bc,qo,qc,rfl,⟨i1,i2,i3,i5,i4,i6⟩,p1,q_ _ _ _,p2,p3,db _ _,p4⟩,hl.1,l4,l5⟩,hb⟩
end Go.Proofs.YtleegaihbgbcjaaGreatDoor
namespace Go.Proofs.YtleegaihbgbcjaaGreatDoor
open Go.RowKit Num Bit
theorem zH(cs:List Value)(a:RA)(w:World)(h:KI w cs a)(o8:kOn a=2):
  Qq 59 #[.agg cs.toArray] w (.int .i64 (kZ a)):=by
 have ON0:=fun(w0:World) (hb:Below w.heap.size w w0)=>gX cs a w0 (h.arg.keep hb);have HL:=Hid.mk8 h.arg.len;have sm:=h.sm;have gv:=h.gv;replace h:=h.arg;obtain⟨cp,cr,cf,rfl,hK,h1,h2,h3⟩:=h
 have l4:=Hid.mk8 h1.four;have l9:=Hid.mk8 h2.nine;have LP:=Hid.mk8 h1.len;have LR:=Hid.mk8 h2.len;have LF:=Hid.mk8 h3.len;obtain⟨K,p,r,f⟩:=a;dsimp only at *;have k7:b9 w cp p:=⟨h1,sm.p1,sm.p2,sm.p3⟩
 have k8:ba w cr r:=⟨h2,sm.r1,sm.r2,sm.r3,sm.r4,gv⟩;have k9:bK w cf f:=⟨h3,sm.f0,sm.f1,sm.f2⟩
 have ON:Hid (Qz w 102 #[.agg (Value.int .i64 K::(cp++(cr++cf))).toArray] (.int .i64 (kOn ⟨K,p,r,f⟩))):=ON0
 clear ON0 h1 h2 h3 sm gv;obtain⟨W,hW⟩:∃W,W=w.alloc (.cells (Value.int .i64 K::(cp++(cr++cf))).toArray 44):=⟨_,rfl⟩;have bw:Below w.heap.size w W:=by rw[hW];exact below_alloc w _
 have B0:=aU hW;subst hW;obtain⟨e1,e2,e3,e4⟩:=gY o8;rw[e4];rw[o8]at ON
 have C:Hid (Qz w 119 #[.agg cr.toArray] (.int .i64 (kZ8 r))):=fun w0 g=>zK cr r w0 (k8.keep g)
 clear e1 e2 e3 e4 k7 k8 k9;generalize kZ8 r=P0 at *;go_enter func59,ntmps59;go_wp2_with (refine cF w.heap.size _ (by rfl) rfl B0 underlying44 HL.out ?_);refine mr (ON.out _ bw) fun w1 hb=>?_
 replace B0:=B0.kept hb;replace bw:=bg bw hb;clear hb;obtain⟨c0,p1,p2,p3⟩:=parts l4.out l9.out B0;go_wp2_with (refine aN w.heap.size 5 cr (by rfl) rfl p2 underlying40 LR.out ?_)
 refine mr (C.out _ bw) fun w2 hb=>?_;replace bw:=bg bw hb;go_wp2;go_ret;exact⟨rfl,bw⟩
theorem zM(cs:List Value)(a:RA)(w:World)(h:KI w cs a):
  Qq 59 #[.agg cs.toArray] w (.int .i64 (kZ a)):=by
 by_cases o8:kOn a=2
 .exact zH cs a w h o8
 have ON0:=fun(w0:World) (hb:Below w.heap.size w w0)=>gX cs a w0 (h.arg.keep hb);have HL:=Hid.mk8 h.arg.len;have sm:=h.sm;have gv:=h.gv;replace h:=h.arg;obtain⟨cp,cr,cf,rfl,hK,h1,h2,h3⟩:=h
 have l4:=Hid.mk8 h1.four;have l9:=Hid.mk8 h2.nine;have LP:=Hid.mk8 h1.len;have LR:=Hid.mk8 h2.len;have LF:=Hid.mk8 h3.len;obtain⟨K,p,r,f⟩:=a;dsimp only at *;have k7:b9 w cp p:=⟨h1,sm.p1,sm.p2,sm.p3⟩
 have k8:ba w cr r:=⟨h2,sm.r1,sm.r2,sm.r3,sm.r4,gv⟩;have k9:bK w cf f:=⟨h3,sm.f0,sm.f1,sm.f2⟩
 have ON:Hid (Qz w 102 #[.agg (Value.int .i64 K::(cp++(cr++cf))).toArray] (.int .i64 (kOn ⟨K,p,r,f⟩))):=ON0
 clear ON0 h1 h2 h3 sm gv;obtain⟨W,hW⟩:∃W,W=w.alloc (.cells (Value.int .i64 K::(cp++(cr++cf))).toArray 44):=⟨_,rfl⟩;have bw:Below w.heap.size w W:=by rw[hW];exact below_alloc w _
 have B0:=aU hW;subst hW;by_cases o7:kOn ⟨K,p,r,f⟩=1
 .skip;obtain⟨e1,e2,e3,e4⟩:=jg o7;rw[e4];rw[o7]at ON
  have C:Hid (Qz w 118 #[.agg cp.toArray] (.int .i64 (kZ7 p))):=fun w0 g=>zL cp p w0 (k7.keep g)
  clear e1 e2 e3 e4 k7 k8 k9;generalize kZ7 p=P0 at *;go_enter func59,ntmps59;go_wp2_with (refine cF w.heap.size _ (by rfl) rfl B0 underlying44 HL.out ?_);refine mr (ON.out _ bw) fun w1 hb=>?_
  replace B0:=B0.kept hb;replace bw:=bg bw hb;clear hb;obtain⟨c0,p1,p2,p3⟩:=parts l4.out l9.out B0;go_wp2_with (refine aN w.heap.size 1 cp (by rfl) rfl p1 underlying36 LP.out ?_)
  refine mr (C.out _ bw) fun w2 hb=>?_;replace bw:=bg bw hb;go_wp2;go_ret;exact⟨rfl,bw⟩
 by_cases o9:kOn ⟨K,p,r,f⟩=3
 .skip;obtain⟨e1,e2,e3,e4⟩:=ji o9;rw[e4];rw[o9]at ON
  have C:Hid (Qz w 120 #[.agg cf.toArray] (.int .i64 (kZ9 f))):=fun w0 g=>zJ cf f w0 (k9.keep g)
  clear e1 e2 e3 e4 k7 k8 k9;generalize kZ9 f=P0 at *;go_enter func59,ntmps59;go_wp2_with (refine cF w.heap.size _ (by rfl) rfl B0 underlying44 HL.out ?_);refine mr (ON.out _ bw) fun w1 hb=>?_
  replace B0:=B0.kept hb;replace bw:=bg bw hb;clear hb;obtain⟨c0,p1,p2,p3⟩:=parts l4.out l9.out B0;go_wp2_with (refine aN w.heap.size 14 cf (by rfl) rfl p3 underlying42 LF.out ?_)
  refine mr (C.out _ bw) fun w2 hb=>?_;replace bw:=bg bw hb;go_wp2;go_ret;exact⟨rfl,bw⟩
 obtain⟨e1,e2,e3,e4⟩:=jh o7 o8 o9;rw[e4];have d7:(kOn ⟨K,p,r,f⟩==1)=false:=by simp[o7]
 have d8:(kOn ⟨K,p,r,f⟩==2)=false:=by simp[o8]
 have d9:(kOn ⟨K,p,r,f⟩==3)=false:=by simp[o9]
 clear e1 e2 e3 e4 k7 k8 k9;generalize kOn ⟨K,p,r,f⟩=O at *;go_enter func59,ntmps59;go_wp2_with (refine cF w.heap.size _ (by rfl) rfl B0 underlying44 HL.out ?_);refine mr (ON.out _ bw) fun w1 hb=>?_;replace B0:=B0.kept hb;replace bw:=bg bw hb;go_wp2;go_ret;exact⟨rfl,bw⟩
theorem JY(cs:List Value)(a:RA)(i:Int)(w:World)(h:KI w cs a)(hi:ax i)(o8:kOn a=2):
  Qq 45 #[.agg cs.toArray,.int .i64 i] w (.tuple #[.bool (gaB (aJ a) (kBN a) (aQ a) i),.int .i64 (gaE (aJ a) (kBN a) (aQ a) i)]):=by
 have ON0:=fun(w0:World) (hb:Below w.heap.size w w0)=>gX cs a w0 (h.arg.keep hb);have HL:=Hid.mk8 h.arg.len;have sm:=h.sm;have gv:=h.gv;replace h:=h.arg;obtain⟨cp,cr,cf,rfl,hK,h1,h2,h3⟩:=h
 have l4:=Hid.mk8 h1.four;have l9:=Hid.mk8 h2.nine;have LP:=Hid.mk8 h1.len;have LR:=Hid.mk8 h2.len;have LF:=Hid.mk8 h3.len;obtain⟨K,p,r,f⟩:=a;dsimp only at *;have k7:b9 w cp p:=⟨h1,sm.p1,sm.p2,sm.p3⟩
 have k8:ba w cr r:=⟨h2,sm.r1,sm.r2,sm.r3,sm.r4,gv⟩;have k9:bK w cf f:=⟨h3,sm.f0,sm.f1,sm.f2⟩
 have ON:Hid (Qz w 102 #[.agg (Value.int .i64 K::(cp++(cr++cf))).toArray] (.int .i64 (kOn ⟨K,p,r,f⟩))):=ON0
 clear ON0 h1 h2 h3 sm gv;obtain⟨W,hW⟩:∃W,W=w.alloc (.cells (Value.int .i64 K::(cp++(cr++cf))).toArray 44):=⟨_,rfl⟩;have bw:Below w.heap.size w W:=by rw[hW];exact below_alloc w _
 have B0:=aU hW;subst hW;obtain⟨e1,e2,e3,e4⟩:=gY o8;rw[e1,e2,e3];rw[o8]at ON
 have C:Hid (Qz w 104 #[.agg cr.toArray,.int .i64 i] (.tuple #[.bool (gaB (kOk8 r) (kBN8 r) (kBX8 r) i),.int .i64 (gaE (kOk8 r) (kBN8 r) (kBX8 r) i)])):=fun w0 g=>J1 cr r i w0 (k8.keep g) hi
 clear e1 e2 e3 e4 k7 k8 k9;generalize gaB (kOk8 r) (kBN8 r) (kBX8 r) i=P0 at *;generalize gaE (kOk8 r) (kBN8 r) (kBX8 r) i=P1 at *;go_enter func45,ntmps45
 go_wp2_with (refine cF w.heap.size _ (by rfl) rfl B0 underlying44 HL.out ?_);refine mr (ON.out _ bw) fun w1 hb=>?_;replace B0:=B0.kept hb;replace bw:=bg bw hb;clear hb
 obtain⟨c0,p1,p2,p3⟩:=parts l4.out l9.out B0;go_wp2_with (refine aN w.heap.size 5 cr (by rfl) rfl p2 underlying40 LR.out ?_);refine mr (C.out _ bw) fun w2 hb=>?_
 replace bw:=bg bw hb;go_wp2;go_ret2;exact⟨rfl,bw⟩
theorem J3(cs:List Value)(a:RA)(i:Int)(w:World)(h:KI w cs a)(hi:ax i):
  Qq 45 #[.agg cs.toArray,.int .i64 i] w (.tuple #[.bool (gaB (aJ a) (kBN a) (aQ a) i),.int .i64 (gaE (aJ a) (kBN a) (aQ a) i)]):=by
 by_cases o8:kOn a=2
 .exact JY cs a i w h hi o8
 have ON0:=fun(w0:World) (hb:Below w.heap.size w w0)=>gX cs a w0 (h.arg.keep hb);have HL:=Hid.mk8 h.arg.len;have sm:=h.sm;have gv:=h.gv;replace h:=h.arg;obtain⟨cp,cr,cf,rfl,hK,h1,h2,h3⟩:=h
 have l4:=Hid.mk8 h1.four;have l9:=Hid.mk8 h2.nine;have LP:=Hid.mk8 h1.len;have LR:=Hid.mk8 h2.len;have LF:=Hid.mk8 h3.len;obtain⟨K,p,r,f⟩:=a;dsimp only at *;have k7:b9 w cp p:=⟨h1,sm.p1,sm.p2,sm.p3⟩
 have k8:ba w cr r:=⟨h2,sm.r1,sm.r2,sm.r3,sm.r4,gv⟩;have k9:bK w cf f:=⟨h3,sm.f0,sm.f1,sm.f2⟩
 have ON:Hid (Qz w 102 #[.agg (Value.int .i64 K::(cp++(cr++cf))).toArray] (.int .i64 (kOn ⟨K,p,r,f⟩))):=ON0
 clear ON0 h1 h2 h3 sm gv;obtain⟨W,hW⟩:∃W,W=w.alloc (.cells (Value.int .i64 K::(cp++(cr++cf))).toArray 44):=⟨_,rfl⟩;have bw:Below w.heap.size w W:=by rw[hW];exact below_alloc w _
 have B0:=aU hW;subst hW;by_cases o7:kOn ⟨K,p,r,f⟩=1
 .skip;obtain⟨e1,e2,e3,e4⟩:=jg o7;rw[e1,e2,e3];rw[o7]at ON
  have C:Hid (Qz w 103 #[.agg cp.toArray,.int .i64 i] (.tuple #[.bool (gaB (kOk7 p) (kBN7 p) (kBX7 p) i),.int .i64 (gaE (kOk7 p) (kBN7 p) (kBX7 p) i)])):=fun w0 g=>J2 cp p i w0 (k7.keep g) hi
  clear e1 e2 e3 e4 k7 k8 k9;generalize gaB (kOk7 p) (kBN7 p) (kBX7 p) i=P0 at *;generalize gaE (kOk7 p) (kBN7 p) (kBX7 p) i=P1 at *;go_enter func45,ntmps45
  go_wp2_with (refine cF w.heap.size _ (by rfl) rfl B0 underlying44 HL.out ?_);refine mr (ON.out _ bw) fun w1 hb=>?_;replace B0:=B0.kept hb;replace bw:=bg bw hb;clear hb
  obtain⟨c0,p1,p2,p3⟩:=parts l4.out l9.out B0;go_wp2_with (refine aN w.heap.size 1 cp (by rfl) rfl p1 underlying36 LP.out ?_);refine mr (C.out _ bw) fun w2 hb=>?_
  replace bw:=bg bw hb;go_wp2;go_ret2;exact⟨rfl,bw⟩
 by_cases o9:kOn ⟨K,p,r,f⟩=3
 .skip;obtain⟨e1,e2,e3,e4⟩:=ji o9;rw[e1,e2,e3];rw[o9]at ON
  have C:Hid (Qz w 105 #[.agg cf.toArray,.int .i64 i] (.tuple #[.bool (gaB (kOk9 f) (kBN9 f) (kBX9 f) i),.int .i64 (gaE (kOk9 f) (kBN9 f) (kBX9 f) i)])):=fun w0 g=>J0 cf f i w0 (k9.keep g) hi
  clear e1 e2 e3 e4 k7 k8 k9;generalize gaB (kOk9 f) (kBN9 f) (kBX9 f) i=P0 at *;generalize gaE (kOk9 f) (kBN9 f) (kBX9 f) i=P1 at *;go_enter func45,ntmps45
  go_wp2_with (refine cF w.heap.size _ (by rfl) rfl B0 underlying44 HL.out ?_);refine mr (ON.out _ bw) fun w1 hb=>?_;replace B0:=B0.kept hb;replace bw:=bg bw hb;clear hb
  obtain⟨c0,p1,p2,p3⟩:=parts l4.out l9.out B0;go_wp2_with (refine aN w.heap.size 14 cf (by rfl) rfl p3 underlying42 LF.out ?_);refine mr (C.out _ bw) fun w2 hb=>?_
  replace bw:=bg bw hb;go_wp2;go_ret2;exact⟨rfl,bw⟩
 obtain⟨e1,e2,e3,e4⟩:=jh o7 o8 o9;rw[e1,e2,e3];have d7:(kOn ⟨K,p,r,f⟩==1)=false:=by simp[o7]
 have d8:(kOn ⟨K,p,r,f⟩==2)=false:=by simp[o8]
 have d9:(kOn ⟨K,p,r,f⟩==3)=false:=by simp[o9]
 clear e1 e2 e3 e4 k7 k8 k9;generalize kOn ⟨K,p,r,f⟩=O at *;go_enter func45,ntmps45;go_wp2_with (refine cF w.heap.size _ (by rfl) rfl B0 underlying44 HL.out ?_);refine mr (ON.out _ bw) fun w1 hb=>?_;replace B0:=B0.kept hb;replace bw:=bg bw hb;go_wp2;go_ret2;exact⟨rfl,bw⟩
theorem AY(cs:List Value)(a:RA)(bit:Bool)(i:Int)(w:World)(h:KI w cs a)(hi:ax i)(o8:kOn a=2):
  Qq 46 #[.agg cs.toArray,.bool bit,.int .i64 i] w (.tuple #[.int .i64 (grN (aJ a) (kBN a) (aQ a) bit i),.int .i64 (grE (aJ a) (kBN a) i)]):=by
 have ON0:=fun(w0:World) (hb:Below w.heap.size w w0)=>gX cs a w0 (h.arg.keep hb);have HL:=Hid.mk8 h.arg.len;have sm:=h.sm;have gv:=h.gv;replace h:=h.arg;obtain⟨cp,cr,cf,rfl,hK,h1,h2,h3⟩:=h
 have l4:=Hid.mk8 h1.four;have l9:=Hid.mk8 h2.nine;have LP:=Hid.mk8 h1.len;have LR:=Hid.mk8 h2.len;have LF:=Hid.mk8 h3.len;obtain⟨K,p,r,f⟩:=a;dsimp only at *;have k7:b9 w cp p:=⟨h1,sm.p1,sm.p2,sm.p3⟩
 have k8:ba w cr r:=⟨h2,sm.r1,sm.r2,sm.r3,sm.r4,gv⟩;have k9:bK w cf f:=⟨h3,sm.f0,sm.f1,sm.f2⟩
 have ON:Hid (Qz w 102 #[.agg (Value.int .i64 K::(cp++(cr++cf))).toArray] (.int .i64 (kOn ⟨K,p,r,f⟩))):=ON0
 clear ON0 h1 h2 h3 sm gv;obtain⟨W,hW⟩:∃W,W=w.alloc (.cells (Value.int .i64 K::(cp++(cr++cf))).toArray 44):=⟨_,rfl⟩;have bw:Below w.heap.size w W:=by rw[hW];exact below_alloc w _
 have B0:=aU hW;subst hW;obtain⟨e1,e2,e3,e4⟩:=gY o8;rw[e1,e2,e3];rw[o8]at ON
 have C:Hid (Qz w 107 #[.agg cr.toArray,.bool bit,.int .i64 i] (.tuple #[.int .i64 (grN (kOk8 r) (kBN8 r) (kBX8 r) bit i),.int .i64 (grE (kOk8 r) (kBN8 r) i)])):=fun w0 g=>A3 cr r bit i w0 (k8.keep g) hi
 clear e1 e2 e3 e4 k7 k8 k9;generalize grN (kOk8 r) (kBN8 r) (kBX8 r) bit i=P0 at *;generalize grE (kOk8 r) (kBN8 r) i=P1 at *;go_enter func46,ntmps46
 go_wp2_with (refine cF w.heap.size _ (by rfl) rfl B0 underlying44 HL.out ?_);refine mr (ON.out _ bw) fun w1 hb=>?_;replace B0:=B0.kept hb;replace bw:=bg bw hb;clear hb
 obtain⟨c0,p1,p2,p3⟩:=parts l4.out l9.out B0;go_wp2_with (refine aN w.heap.size 5 cr (by rfl) rfl p2 underlying40 LR.out ?_);refine mr (C.out _ bw) fun w2 hb=>?_
 replace bw:=bg bw hb;go_wp2;go_ret2;exact⟨rfl,bw⟩
theorem pM(cs:List Value)(a:RA)(bit:Bool)(i:Int)(w:World)(h:KI w cs a)(hi:ax i):
  Qq 46 #[.agg cs.toArray,.bool bit,.int .i64 i] w (.tuple #[.int .i64 (grN (aJ a) (kBN a) (aQ a) bit i),.int .i64 (grE (aJ a) (kBN a) i)]):=by
 by_cases o8:kOn a=2
 .exact AY cs a bit i w h hi o8
 have ON0:=fun(w0:World) (hb:Below w.heap.size w w0)=>gX cs a w0 (h.arg.keep hb);have HL:=Hid.mk8 h.arg.len;have sm:=h.sm;have gv:=h.gv;replace h:=h.arg;obtain⟨cp,cr,cf,rfl,hK,h1,h2,h3⟩:=h
 have l4:=Hid.mk8 h1.four;have l9:=Hid.mk8 h2.nine;have LP:=Hid.mk8 h1.len;have LR:=Hid.mk8 h2.len;have LF:=Hid.mk8 h3.len;obtain⟨K,p,r,f⟩:=a;dsimp only at *;have k7:b9 w cp p:=⟨h1,sm.p1,sm.p2,sm.p3⟩
 have k8:ba w cr r:=⟨h2,sm.r1,sm.r2,sm.r3,sm.r4,gv⟩;have k9:bK w cf f:=⟨h3,sm.f0,sm.f1,sm.f2⟩
 have ON:Hid (Qz w 102 #[.agg (Value.int .i64 K::(cp++(cr++cf))).toArray] (.int .i64 (kOn ⟨K,p,r,f⟩))):=ON0
 clear ON0 h1 h2 h3 sm gv;obtain⟨W,hW⟩:∃W,W=w.alloc (.cells (Value.int .i64 K::(cp++(cr++cf))).toArray 44):=⟨_,rfl⟩;have bw:Below w.heap.size w W:=by rw[hW];exact below_alloc w _
 have B0:=aU hW;subst hW;by_cases o7:kOn ⟨K,p,r,f⟩=1
 .skip;obtain⟨e1,e2,e3,e4⟩:=jg o7;rw[e1,e2,e3];rw[o7]at ON
  have C:Hid (Qz w 106 #[.agg cp.toArray,.bool bit,.int .i64 i] (.tuple #[.int .i64 (grN (kOk7 p) (kBN7 p) (kBX7 p) bit i),.int .i64 (grE (kOk7 p) (kBN7 p) i)])):=fun w0 g=>A4 cp p bit i w0 (k7.keep g) hi
  clear e1 e2 e3 e4 k7 k8 k9;generalize grN (kOk7 p) (kBN7 p) (kBX7 p) bit i=P0 at *;generalize grE (kOk7 p) (kBN7 p) i=P1 at *;go_enter func46,ntmps46
  go_wp2_with (refine cF w.heap.size _ (by rfl) rfl B0 underlying44 HL.out ?_);refine mr (ON.out _ bw) fun w1 hb=>?_;replace B0:=B0.kept hb;replace bw:=bg bw hb;clear hb
  obtain⟨c0,p1,p2,p3⟩:=parts l4.out l9.out B0;go_wp2_with (refine aN w.heap.size 1 cp (by rfl) rfl p1 underlying36 LP.out ?_);refine mr (C.out _ bw) fun w2 hb=>?_
  replace bw:=bg bw hb;go_wp2;go_ret2;exact⟨rfl,bw⟩
 by_cases o9:kOn ⟨K,p,r,f⟩=3
 .skip;obtain⟨e1,e2,e3,e4⟩:=ji o9;rw[e1,e2,e3];rw[o9]at ON
  have C:Hid (Qz w 108 #[.agg cf.toArray,.bool bit,.int .i64 i] (.tuple #[.int .i64 (grN (kOk9 f) (kBN9 f) (kBX9 f) bit i),.int .i64 (grE (kOk9 f) (kBN9 f) i)])):=fun w0 g=>A0 cf f bit i w0 (k9.keep g) hi
  clear e1 e2 e3 e4 k7 k8 k9;generalize grN (kOk9 f) (kBN9 f) (kBX9 f) bit i=P0 at *;generalize grE (kOk9 f) (kBN9 f) i=P1 at *;go_enter func46,ntmps46
  go_wp2_with (refine cF w.heap.size _ (by rfl) rfl B0 underlying44 HL.out ?_);refine mr (ON.out _ bw) fun w1 hb=>?_;replace B0:=B0.kept hb;replace bw:=bg bw hb;clear hb
  obtain⟨c0,p1,p2,p3⟩:=parts l4.out l9.out B0;go_wp2_with (refine aN w.heap.size 14 cf (by rfl) rfl p3 underlying42 LF.out ?_);refine mr (C.out _ bw) fun w2 hb=>?_
  replace bw:=bg bw hb;go_wp2;go_ret2;exact⟨rfl,bw⟩
 obtain⟨e1,e2,e3,e4⟩:=jh o7 o8 o9;rw[e1,e2,e3];have d7:(kOn ⟨K,p,r,f⟩==1)=false:=by simp[o7]
 have d8:(kOn ⟨K,p,r,f⟩==2)=false:=by simp[o8]
 have d9:(kOn ⟨K,p,r,f⟩==3)=false:=by simp[o9]
 clear e1 e2 e3 e4 k7 k8 k9;generalize kOn ⟨K,p,r,f⟩=O at *;go_enter func46,ntmps46;go_wp2_with (refine cF w.heap.size _ (by rfl) rfl B0 underlying44 HL.out ?_);refine mr (ON.out _ bw) fun w1 hb=>?_;replace B0:=B0.kept hb;replace bw:=bg bw hb;go_wp2;go_ret2;exact⟨rfl,bw⟩
theorem zR(cs:List Value)(a:RA)(bit:Bool)(k:Int)(w:World)(h:KI w cs a)(hi:ax k)(o8:kOn a=2):
  Qq 63 #[.agg cs.toArray,.bool bit,.int .i64 k] w (.tuple #[.int .i64 (gsX (aJ a) (kBN a) (aQ a) bit k),.int .i64 (gsE (aJ a) (kBN a) (aQ a) bit k)]):=by
 have ON0:=fun(w0:World) (hb:Below w.heap.size w w0)=>gX cs a w0 (h.arg.keep hb);have HL:=Hid.mk8 h.arg.len;have sm:=h.sm;have gv:=h.gv;replace h:=h.arg;obtain⟨cp,cr,cf,rfl,hK,h1,h2,h3⟩:=h
 have l4:=Hid.mk8 h1.four;have l9:=Hid.mk8 h2.nine;have LP:=Hid.mk8 h1.len;have LR:=Hid.mk8 h2.len;have LF:=Hid.mk8 h3.len;obtain⟨K,p,r,f⟩:=a;dsimp only at *;have k7:b9 w cp p:=⟨h1,sm.p1,sm.p2,sm.p3⟩
 have k8:ba w cr r:=⟨h2,sm.r1,sm.r2,sm.r3,sm.r4,gv⟩;have k9:bK w cf f:=⟨h3,sm.f0,sm.f1,sm.f2⟩
 have ON:Hid (Qz w 102 #[.agg (Value.int .i64 K::(cp++(cr++cf))).toArray] (.int .i64 (kOn ⟨K,p,r,f⟩))):=ON0
 clear ON0 h1 h2 h3 sm gv;obtain⟨W,hW⟩:∃W,W=w.alloc (.cells (Value.int .i64 K::(cp++(cr++cf))).toArray 44):=⟨_,rfl⟩;have bw:Below w.heap.size w W:=by rw[hW];exact below_alloc w _
 have B0:=aU hW;subst hW;obtain⟨e1,e2,e3,e4⟩:=gY o8;rw[e1,e2,e3];rw[o8]at ON
 have C:Hid (Qz w 127 #[.agg cr.toArray,.bool bit,.int .i64 k] (.tuple #[.int .i64 (gsX (kOk8 r) (kBN8 r) (kBX8 r) bit k),.int .i64 (gsE (kOk8 r) (kBN8 r) (kBX8 r) bit k)])):=fun w0 g=>zZ cr r bit k w0 (k8.keep g) hi
 clear e1 e2 e3 e4 k7 k8 k9;generalize gsX (kOk8 r) (kBN8 r) (kBX8 r) bit k=P0 at *;generalize gsE (kOk8 r) (kBN8 r) (kBX8 r) bit k=P1 at *;go_enter func63,ntmps63
 go_wp2_with (refine cF w.heap.size _ (by rfl) rfl B0 underlying44 HL.out ?_);refine mr (ON.out _ bw) fun w1 hb=>?_;replace B0:=B0.kept hb;replace bw:=bg bw hb;clear hb
 obtain⟨c0,p1,p2,p3⟩:=parts l4.out l9.out B0;go_wp2_with (refine aN w.heap.size 5 cr (by rfl) rfl p2 underlying40 LR.out ?_);refine mr (C.out _ bw) fun w2 hb=>?_
 replace bw:=bg bw hb;go_wp2;go_ret2;exact⟨rfl,bw⟩
theorem Aa(cs:List Value)(a:RA)(bit:Bool)(k:Int)(w:World)(h:KI w cs a)(hi:ax k):
  Qq 63 #[.agg cs.toArray,.bool bit,.int .i64 k] w (.tuple #[.int .i64 (gsX (aJ a) (kBN a) (aQ a) bit k),.int .i64 (gsE (aJ a) (kBN a) (aQ a) bit k)]):=by
 by_cases o8:kOn a=2
 .exact zR cs a bit k w h hi o8
 have ON0:=fun(w0:World) (hb:Below w.heap.size w w0)=>gX cs a w0 (h.arg.keep hb);have HL:=Hid.mk8 h.arg.len;have sm:=h.sm;have gv:=h.gv;replace h:=h.arg;obtain⟨cp,cr,cf,rfl,hK,h1,h2,h3⟩:=h
 have l4:=Hid.mk8 h1.four;have l9:=Hid.mk8 h2.nine;have LP:=Hid.mk8 h1.len;have LR:=Hid.mk8 h2.len;have LF:=Hid.mk8 h3.len;obtain⟨K,p,r,f⟩:=a;dsimp only at *;have k7:b9 w cp p:=⟨h1,sm.p1,sm.p2,sm.p3⟩
 have k8:ba w cr r:=⟨h2,sm.r1,sm.r2,sm.r3,sm.r4,gv⟩;have k9:bK w cf f:=⟨h3,sm.f0,sm.f1,sm.f2⟩
 have ON:Hid (Qz w 102 #[.agg (Value.int .i64 K::(cp++(cr++cf))).toArray] (.int .i64 (kOn ⟨K,p,r,f⟩))):=ON0
 clear ON0 h1 h2 h3 sm gv;obtain⟨W,hW⟩:∃W,W=w.alloc (.cells (Value.int .i64 K::(cp++(cr++cf))).toArray 44):=⟨_,rfl⟩;have bw:Below w.heap.size w W:=by rw[hW];exact below_alloc w _
 have B0:=aU hW;subst hW;by_cases o7:kOn ⟨K,p,r,f⟩=1
 .skip;obtain⟨e1,e2,e3,e4⟩:=jg o7;rw[e1,e2,e3];rw[o7]at ON
  have C:Hid (Qz w 126 #[.agg cp.toArray,.bool bit,.int .i64 k] (.tuple #[.int .i64 (gsX (kOk7 p) (kBN7 p) (kBX7 p) bit k),.int .i64 (gsE (kOk7 p) (kBN7 p) (kBX7 p) bit k)])):=fun w0 g=>z_ cp p bit k w0 (k7.keep g) hi
  clear e1 e2 e3 e4 k7 k8 k9;generalize gsX (kOk7 p) (kBN7 p) (kBX7 p) bit k=P0 at *;generalize gsE (kOk7 p) (kBN7 p) (kBX7 p) bit k=P1 at *;go_enter func63,ntmps63
  go_wp2_with (refine cF w.heap.size _ (by rfl) rfl B0 underlying44 HL.out ?_);refine mr (ON.out _ bw) fun w1 hb=>?_;replace B0:=B0.kept hb;replace bw:=bg bw hb;clear hb
  obtain⟨c0,p1,p2,p3⟩:=parts l4.out l9.out B0;go_wp2_with (refine aN w.heap.size 1 cp (by rfl) rfl p1 underlying36 LP.out ?_);refine mr (C.out _ bw) fun w2 hb=>?_
  replace bw:=bg bw hb;go_wp2;go_ret2;exact⟨rfl,bw⟩
 by_cases o9:kOn ⟨K,p,r,f⟩=3
 .skip;obtain⟨e1,e2,e3,e4⟩:=ji o9;rw[e1,e2,e3];rw[o9]at ON
  have C:Hid (Qz w 128 #[.agg cf.toArray,.bool bit,.int .i64 k] (.tuple #[.int .i64 (gsX (kOk9 f) (kBN9 f) (kBX9 f) bit k),.int .i64 (gsE (kOk9 f) (kBN9 f) (kBX9 f) bit k)])):=fun w0 g=>zT cf f bit k w0 (k9.keep g) hi
  clear e1 e2 e3 e4 k7 k8 k9;generalize gsX (kOk9 f) (kBN9 f) (kBX9 f) bit k=P0 at *;generalize gsE (kOk9 f) (kBN9 f) (kBX9 f) bit k=P1 at *;go_enter func63,ntmps63
  go_wp2_with (refine cF w.heap.size _ (by rfl) rfl B0 underlying44 HL.out ?_);refine mr (ON.out _ bw) fun w1 hb=>?_;replace B0:=B0.kept hb;replace bw:=bg bw hb;clear hb
  obtain⟨c0,p1,p2,p3⟩:=parts l4.out l9.out B0;go_wp2_with (refine aN w.heap.size 14 cf (by rfl) rfl p3 underlying42 LF.out ?_);refine mr (C.out _ bw) fun w2 hb=>?_
  replace bw:=bg bw hb;go_wp2;go_ret2;exact⟨rfl,bw⟩
 obtain⟨e1,e2,e3,e4⟩:=jh o7 o8 o9;rw[e1,e2,e3];have d7:(kOn ⟨K,p,r,f⟩==1)=false:=by simp[o7]
 have d8:(kOn ⟨K,p,r,f⟩==2)=false:=by simp[o8]
 have d9:(kOn ⟨K,p,r,f⟩==3)=false:=by simp[o9]
 clear e1 e2 e3 e4 k7 k8 k9;generalize kOn ⟨K,p,r,f⟩=O at *;go_enter func63,ntmps63;go_wp2_with (refine cF w.heap.size _ (by rfl) rfl B0 underlying44 HL.out ?_);refine mr (ON.out _ bw) fun w1 hb=>?_;replace B0:=B0.kept hb;replace bw:=bg bw hb;go_wp2;go_ret2;exact⟨rfl,bw⟩
theorem jq:(prog.info? 33).map (·.size)=some 2:=by kernel_rfl
theorem Jq(cs:List Value)(a:RA)(w:World)(h:KI w cs a)(o8:kOn a=2):
  Calls prog 65 #[.agg cs.toArray] w fun e w'=>∃bo bc,e=.returned (.agg #[.int .i64 (kBN a),.slice bo (aQ a).length bc])/\Wd w' bo (aQ a)/\(aQ a).length<=bc/\Below w.heap.size w w':=by
 have ON0:=fun(w0:World) (hb:Below w.heap.size w w0)=>gX cs a w0 (h.arg.keep hb);have HL:=Hid.mk8 h.arg.len;have sm:=h.sm;have gv:=h.gv;replace h:=h.arg;obtain⟨cp,cr,cf,rfl,hK,h1,h2,h3⟩:=h
 have l4:=Hid.mk8 h1.four;have l9:=Hid.mk8 h2.nine;have LP:=Hid.mk8 h1.len;have LR:=Hid.mk8 h2.len;have LF:=Hid.mk8 h3.len;obtain⟨K,p,r,f⟩:=a;dsimp only at *;have k7:b9 w cp p:=⟨h1,sm.p1,sm.p2,sm.p3⟩
 have k8:ba w cr r:=⟨h2,sm.r1,sm.r2,sm.r3,sm.r4,gv⟩;have k9:bK w cf f:=⟨h3,sm.f0,sm.f1,sm.f2⟩
 have ON:Hid (Qz w 102 #[.agg (Value.int .i64 K::(cp++(cr++cf))).toArray] (.int .i64 (kOn ⟨K,p,r,f⟩))):=ON0
 clear ON0 h1 h2 h3 sm gv;have bw:Below w.heap.size w ((w.alloc (.cells (Value.int .i64 K::(cp++(cr++cf))).toArray 44)).alloc (.cells #[.int .i64 0,.slice none 0 0] 33)):=(below_alloc w _).alloc (by simp) _
 have B0:aa ((w.alloc (.cells (Value.int .i64 K::(cp++(cr++cf))).toArray 44)).alloc (.cells #[.int .i64 0,.slice none 0 0] 33)) w.heap.size (Value.int .i64 K::(cp++(cr++cf))) 44:=(aa.new w _ _).alloc _
 have B2:aa ((w.alloc (.cells (Value.int .i64 K::(cp++(cr++cf))).toArray 44)).alloc (.cells #[.int .i64 0,.slice none 0 0] 33)) (w.heap.size+1) [.int .i64 0,.slice none 0 0] 33:=aa.new2 w _ _ _
 obtain⟨e1,e2,e3,e4⟩:=gY o8;rw[e2,e3];rw[o8]at ON
 have C:Hid (∀w0,Below w.heap.size w w0->Calls prog 130 #[.agg cr.toArray] w0 fun e w'=>∃bo bc,e=.returned (.agg #[.int .i64 (kBN8 r),.slice bo (kBX8 r).length bc])/\Wd w' bo (kBX8 r)/\(kBX8 r).length<=bc/\Below w0.heap.size w0 w'):=fun w0 g=>Jt cr r w0 (k8.keep g)
 clear e1 e2 e3 e4 k7 k8 k9;generalize kBN8 r=N at *;generalize kBX8 r=X at *;go_enter func65,ntmps65;go_wp2_with (refine cF w.heap.size _ (by rfl) rfl B0 underlying44 HL.out ?_)
 refine mr (ON.out _ bw) fun w1 hb=>?_;replace B0:=B0.kept hb;replace bw:=bg bw hb;replace B2:=B2.kept hb;clear hb;obtain⟨c0,p1,p2,p3⟩:=parts l4.out l9.out B0
 go_wp2_with (refine aN w.heap.size 5 cr (by rfl) rfl p2 underlying40 LR.out ?_);refine(C.out _ bw).mono ?_;rintro e w2 ⟨bo,bc,rfl,hx,hbc,hb⟩;replace bw:=bg bw hb;replace B2:=B2.kept hb
 clear hb C ON B0 c0 p1 p2 p3;have hne:=hx.apart B2 (by intro v hv n;simp at hv;rcases hv with rfl | rfl<;>simp);go_wp2_with (refine aP (w.heap.size+1) _ _ rfl rfl B2 rfl jq (by simp[Value.oneCell']) ?_)
 intro w3 B3 O3;have HZ:Hid (aa w3 (w.heap.size+1) [.int .i64 N,.slice bo (List.length X) bc] 33/\Wd w3 bo X/\Below w.heap.size w w3):=⟨B3,O3.wd hx hne,bw.trans (O3.below (Nat.le_succ _))⟩;clear B3 O3 hx;go_wp2
 (try simp only[Exit.inBlock,Exit.then]);exact bodyPost_ret (fM rfl (w.heap.size+1) _ rfl HZ.out.1 underlying33 jq) rfl ⟨bo,bc,rfl,HZ.out.2.1,hbc,HZ.out.2.2⟩
theorem Jv(cs:List Value)(a:RA)(w:World)(h:KI w cs a):
  Calls prog 65 #[.agg cs.toArray] w fun e w'=>∃bo bc,e=.returned (.agg #[.int .i64 (kBN a),.slice bo (aQ a).length bc])/\Wd w' bo (aQ a)/\(aQ a).length<=bc/\Below w.heap.size w w':=by
 by_cases o8:kOn a=2
 .exact Jq cs a w h o8
 have ON0:=fun(w0:World) (hb:Below w.heap.size w w0)=>gX cs a w0 (h.arg.keep hb);have HL:=Hid.mk8 h.arg.len;have sm:=h.sm;have gv:=h.gv;replace h:=h.arg;obtain⟨cp,cr,cf,rfl,hK,h1,h2,h3⟩:=h
 have l4:=Hid.mk8 h1.four;have l9:=Hid.mk8 h2.nine;have LP:=Hid.mk8 h1.len;have LR:=Hid.mk8 h2.len;have LF:=Hid.mk8 h3.len;obtain⟨K,p,r,f⟩:=a;dsimp only at *;have k7:b9 w cp p:=⟨h1,sm.p1,sm.p2,sm.p3⟩
 have k8:ba w cr r:=⟨h2,sm.r1,sm.r2,sm.r3,sm.r4,gv⟩;have k9:bK w cf f:=⟨h3,sm.f0,sm.f1,sm.f2⟩
 have ON:Hid (Qz w 102 #[.agg (Value.int .i64 K::(cp++(cr++cf))).toArray] (.int .i64 (kOn ⟨K,p,r,f⟩))):=ON0
 clear ON0 h1 h2 h3 sm gv;have bw:Below w.heap.size w ((w.alloc (.cells (Value.int .i64 K::(cp++(cr++cf))).toArray 44)).alloc (.cells #[.int .i64 0,.slice none 0 0] 33)):=(below_alloc w _).alloc (by simp) _
 have B0:aa ((w.alloc (.cells (Value.int .i64 K::(cp++(cr++cf))).toArray 44)).alloc (.cells #[.int .i64 0,.slice none 0 0] 33)) w.heap.size (Value.int .i64 K::(cp++(cr++cf))) 44:=(aa.new w _ _).alloc _
 have B2:aa ((w.alloc (.cells (Value.int .i64 K::(cp++(cr++cf))).toArray 44)).alloc (.cells #[.int .i64 0,.slice none 0 0] 33)) (w.heap.size+1) [.int .i64 0,.slice none 0 0] 33:=aa.new2 w _ _ _
 by_cases o7:kOn ⟨K,p,r,f⟩=1
 .skip;obtain⟨e1,e2,e3,e4⟩:=jg o7;rw[e2,e3];rw[o7]at ON
  have C:Hid (∀w0,Below w.heap.size w w0->Calls prog 129 #[.agg cp.toArray] w0 fun e w'=>∃bo bc,e=.returned (.agg #[.int .i64 (kBN7 p),.slice bo (kBX7 p).length bc])/\Wd w' bo (kBX7 p)/\(kBX7 p).length<=bc/\Below w0.heap.size w0 w'):=fun w0 g=>Ju cp p w0 (k7.keep g)
  clear e1 e2 e3 e4 k7 k8 k9;generalize kBN7 p=N at *;generalize kBX7 p=X at *;go_enter func65,ntmps65;go_wp2_with (refine cF w.heap.size _ (by rfl) rfl B0 underlying44 HL.out ?_)
  refine mr (ON.out _ bw) fun w1 hb=>?_;replace B0:=B0.kept hb;replace bw:=bg bw hb;replace B2:=B2.kept hb;clear hb;obtain⟨c0,p1,p2,p3⟩:=parts l4.out l9.out B0
  go_wp2_with (refine aN w.heap.size 1 cp (by rfl) rfl p1 underlying36 LP.out ?_);refine(C.out _ bw).mono ?_;rintro e w2 ⟨bo,bc,rfl,hx,hbc,hb⟩;replace bw:=bg bw hb;replace B2:=B2.kept hb
  clear hb C ON B0 c0 p1 p2 p3;have hne:=hx.apart B2 (by intro v hv n;simp at hv;rcases hv with rfl | rfl<;>simp);go_wp2_with (refine aP (w.heap.size+1) _ _ rfl rfl B2 rfl jq (by simp[Value.oneCell']) ?_)
  intro w3 B3 O3;have HZ:Hid (aa w3 (w.heap.size+1) [.int .i64 N,.slice bo (List.length X) bc] 33/\Wd w3 bo X/\Below w.heap.size w w3):=⟨B3,O3.wd hx hne,bw.trans (O3.below (Nat.le_succ _))⟩;clear B3 O3 hx;go_wp2
  (try simp only[Exit.inBlock,Exit.then]);exact bodyPost_ret (fM rfl (w.heap.size+1) _ rfl HZ.out.1 underlying33 jq) rfl ⟨bo,bc,rfl,HZ.out.2.1,hbc,HZ.out.2.2⟩
 by_cases o9:kOn ⟨K,p,r,f⟩=3
 .skip;obtain⟨e1,e2,e3,e4⟩:=ji o9;rw[e2,e3];rw[o9]at ON
  have C:Hid (∀w0,Below w.heap.size w w0->Calls prog 131 #[.agg cf.toArray] w0 fun e w'=>∃bo bc,e=.returned (.agg #[.int .i64 (kBN9 f),.slice bo (kBX9 f).length bc])/\Wd w' bo (kBX9 f)/\(kBX9 f).length<=bc/\Below w0.heap.size w0 w'):=fun w0 g=>Js cf f w0 (k9.keep g)
  clear e1 e2 e3 e4 k7 k8 k9;generalize kBN9 f=N at *;generalize kBX9 f=X at *;go_enter func65,ntmps65;go_wp2_with (refine cF w.heap.size _ (by rfl) rfl B0 underlying44 HL.out ?_)
  refine mr (ON.out _ bw) fun w1 hb=>?_;replace B0:=B0.kept hb;replace bw:=bg bw hb;replace B2:=B2.kept hb;clear hb;obtain⟨c0,p1,p2,p3⟩:=parts l4.out l9.out B0
  go_wp2_with (refine aN w.heap.size 14 cf (by rfl) rfl p3 underlying42 LF.out ?_);refine(C.out _ bw).mono ?_;rintro e w2 ⟨bo,bc,rfl,hx,hbc,hb⟩;replace bw:=bg bw hb;replace B2:=B2.kept hb
  clear hb C ON B0 c0 p1 p2 p3;have hne:=hx.apart B2 (by intro v hv n;simp at hv;rcases hv with rfl | rfl<;>simp);go_wp2_with (refine aP (w.heap.size+1) _ _ rfl rfl B2 rfl jq (by simp[Value.oneCell']) ?_)
  intro w3 B3 O3;have HZ:Hid (aa w3 (w.heap.size+1) [.int .i64 N,.slice bo (List.length X) bc] 33/\Wd w3 bo X/\Below w.heap.size w w3):=⟨B3,O3.wd hx hne,bw.trans (O3.below (Nat.le_succ _))⟩;clear B3 O3 hx;go_wp2
  (try simp only[Exit.inBlock,Exit.then]);exact bodyPost_ret (fM rfl (w.heap.size+1) _ rfl HZ.out.1 underlying33 jq) rfl ⟨bo,bc,rfl,HZ.out.2.1,hbc,HZ.out.2.2⟩
 obtain⟨e1,e2,e3,e4⟩:=jh o7 o8 o9;rw[e2,e3];have d7:(kOn ⟨K,p,r,f⟩==1)=false:=by simp[o7]
 have d8:(kOn ⟨K,p,r,f⟩==2)=false:=by simp[o8]
 have d9:(kOn ⟨K,p,r,f⟩==3)=false:=by simp[o9]
 clear e1 e2 e3 e4 k7 k8 k9;generalize kOn ⟨K,p,r,f⟩=O at *;go_enter func65,ntmps65;go_wp2_with (refine cF w.heap.size _ (by rfl) rfl B0 underlying44 HL.out ?_);refine mr (ON.out _ bw) fun w1 hb=>?_;replace B0:=B0.kept hb;replace bw:=bg bw hb;replace B2:=B2.kept hb;clear hb ON B0
 go_wp2_with (refine aP (w.heap.size+1) _ _ rfl rfl B2 rfl jq (by simp[Value.oneCell']) ?_);intro w3 B3 O3
 have HZ:Hid (aa w3 (w.heap.size+1) [.int .i64 0,.slice none 0 0] 33/\Below w.heap.size w w3):=⟨B3,bw.trans (O3.below (Nat.le_succ _))⟩;clear B3 O3;go_wp2
 (try simp only[Exit.inBlock,Exit.then]);exact bodyPost_ret (fM rfl (w.heap.size+1) _ rfl HZ.out.1 underlying33 jq) rfl ⟨none,0,rfl,dU _ _,Nat.le_refl _,HZ.out.2⟩
open Go.ChangeShapes Go.WideShapes Go.ChangeAt Go.RowKit Go.Joins Go.Deep Num Bit
theorem EL(N:Int)(xs:List Nat)(hf:Fit xs)(hk:ar N xs=true)(hN:N<=3000):kOk9 (kB9 N xs)=true/\kBN9 (kB9 N xs)=N/\kBX9 (kB9 N xs)=xs:=by
 obtain⟨h0,h1,_,_⟩:=bp N xs hk;obtain⟨n,rfl⟩:=Int.eq_ofNat_of_zero_le h0;have hn:n<=3000:=by omega
 obtain⟨L,hL⟩:∃L,L=plc (bitAt xs) n:=⟨_,rfl⟩;have RS:aR L n:=by rw[hL];exact jd _ _
 have mn:=RS.len;have v20:=gT n L.length (by omega)
 have e:kB9 (n:Int) xs=cK n L:=by
  unfold kB9;rw[if_pos hk,Int.toNat_natCast,<-hL]
 have hE:n/2^wdF n L.length<=n:=Nat.div_le_self _ _
 have hrow:gM (cK n L)=some L:=by
  refine GX RS (by omega) (by unfold hiN;omega) ?_;have l1:=qr L (wdF n L.length);have l3:(loP L (wdF n L.length)).length*max (wdF n L.length) 1<=3000*20:=Nat.mul_le_mul (by omega) (by omega);omega
 have ok:kOk9 (cK n L)=true:=by
  unfold kOk9;rw[hrow];exact(re _ _).2 rfl
 rw[e];refine⟨ok,?_,?_⟩
 .unfold kBN9;rw[if_pos ok];rfl
 .unfold kBX9 kRow;rw[if_pos ok,hrow];show rowOf n (isIn L)=xs;have hy:=kX (n:Int) xs hf hk;rw[Int.toNat_natCast]at hy
  rw[dc n _ (bitAt xs) fun j hj=>by rw[hL,vC,decide_eq_true hj,Bool.true_and]];exact hy.symm
open Go.ChangeShapes Go.WideShapes Go.ChangeAt Go.RowKit Go.Joins Go.Deep Num Bit Bn
theorem vp(N:Int)(xs:List Nat)(h:kE7 N xs=0):kB 1 N xs=⟨1,kB7 N xs,n8,n9⟩:=by
 have e:kE 1 N xs=0:=h;unfold kB;rw[if_pos e];rfl
theorem nY(N:Int)(xs:List Nat)(h:kE8 N xs=0):kB 2 N xs=⟨2,n7,kB8 N xs,n9⟩:=by
 have e:kE 2 N xs=0:=h;unfold kB;rw[if_pos e];rfl
theorem vq(N:Int)(xs:List Nat)(h:kE9 N xs=0):kB 3 N xs=⟨3,n7,n8,kB9 N xs⟩:=by
 have e:kE 3 N xs=0:=h;unfold kB;rw[if_pos e];rfl
theorem nZ(k N:Int)(xs:List Nat)(h:kE k N xs≠0):kB k N xs=⟨0,n7,n8,n9⟩:=by
 unfold kB;rw[if_neg h]
theorem CD(p:bN):kOn ⟨1,p,n8,n9⟩=1:=by
 have:da ⟨1,p,n8,n9⟩=true:=rfl;unfold kOn;rw[if_pos this]
theorem pX(r:aE):kOn ⟨2,n7,r,n9⟩=2:=by
 have:da ⟨2,n7,r,n9⟩=true:=rfl;unfold kOn;rw[if_pos this]
theorem CE(f:bm):kOn ⟨3,n7,n8,f⟩=3:=by
 have:da ⟨3,n7,n8,f⟩=true:=rfl;unfold kOn;rw[if_pos this]
theorem EN(k N:Int)(xs:List Nat)(h1:1<=k)(h3:k<=3)(hf:Fit xs)(hk:ar N xs=true)(hN:N<=3000):aJ (kB k N xs)=true/\kBN (kB k N xs)=N/\aQ (kB k N xs)=xs:=by
 have e0:=nX k N xs h1 h3 hk;have h:k=1\/k=2\/k=3:=by omega
 rcases h with rfl | rfl | rfl
 .rw[vp N xs e0];obtain⟨e1,e2,e3,_⟩:=jg (CD (kB7 N xs));obtain⟨g1,g2,g3⟩:=EM N xs hk;exact⟨e1.trans g1,e2.trans g2,e3.trans g3⟩
 .rw[nY N xs e0];obtain⟨e1,e2,e3,_⟩:=gY (pX (kB8 N xs));obtain⟨g1,g2,g3⟩:=qy N xs hf hk;exact⟨e1.trans g1,e2.trans g2,e3.trans g3⟩
 .rw[vq N xs e0];obtain⟨e1,e2,e3,_⟩:=ji (CE (kB9 N xs));obtain⟨g1,g2,g3⟩:=EL N xs hf hk hN;exact⟨e1.trans g1,e2.trans g2,e3.trans g3⟩
theorem EI(N:Int)(xs:List Nat)(hf:Fit xs)(hk:ar N xs=true):0<kZ (kB 2 N xs):=by
 rw[nY N xs (qx N xs hk),(gY (pX (kB8 N xs))).2.2.2];exact EH N xs hf hk
end Go.Proofs.YtleegaihbgbcjaaGreatDoor
namespace Go.Proofs.YtleegaihbgbcjaaGreatDoor
open Go.RowKit Num Bit
theorem aw.nd{g base:Nat}{w w':World}{ao:Option Addr}{l:List Int}(h:aw g w w')(hx:Nd w ao l)(hf:Fr base ao)(hg:g<base):Nd w' ao l:=by
 intro h0;obtain⟨b,off,rfl,hlt,hc⟩:=hx h0;have hne:base<=b:=hf _ rfl;exact⟨b,off,rfl,by rw[h.size];exact hlt,fun i hi=>(h.cell (p:=⟨b,off+i,none⟩) (show b≠g by omega)).trans (hc i hi)⟩
def bT(cs:List Value):Prop:=∀v∈cs,∀n,v≠.int .u64 n
theorem bT.app{a b:List Value}(h:bT a)(g:bT b):bT (a++b):=fun v hv n=>by
 rcases List.mem_append.1 hv with e | e
 .exact h v e n
 .exact g v e n
theorem eG.nou{w:World}{cs:List Value}{a:bN}(h:eG w cs a):bT cs:=by
 obtain⟨ao,cap,so,sc,tO,tc,rfl,_⟩:=h;intro v hv n;simp at hv;rcases hv with rfl | rfl | rfl | rfl<;>simp
theorem dR.nou{w:World}{cs:List Value}{a:aE}(h:dR w cs a):bT cs:=by
 obtain⟨ao,cap,qo,dap,so,sc,tO,tc,rfl,_⟩:=h;intro v hv n;simp at hv;rcases hv with rfl | rfl | rfl | rfl | rfl | rfl | rfl | rfl | rfl<;>simp
theorem eF.nou{w:World}{cs:List Value}{a:bm}(h:eF w cs a):bT cs:=by
 obtain⟨ao,cap,qo,dap,rfl,_⟩:=h;intro v hv n;simp at hv;rcases hv with rfl | rfl | rfl | rfl | rfl | rfl | rfl | rfl<;>simp
theorem b9.only{w w2:World}{g base:Nat}{cs gs:List Value}{a:bN}{T:TypeId}(h:b9 w cs a)(nf:NF base 2 cs)(hg:g<base)(hc:aa w g gs T)(hn:bT gs)(hO:aw g w w2):b9 w2 cs a:=by
 obtain⟨⟨ao,cap,so,sc,tO,tc,rfl,h⟩,xl,sl,tl⟩:=h
 exact⟨⟨ao,cap,so,sc,tO,tc,rfl,⟨h.n,hO.wd h.x (h.x.apart hc hn),h.f,h.c,hO.nd h.s (nf _ _ _ (.inl rfl)) hg,h.sf,h.sc,hO.nd h.t (nf _ _ _ (.inr rfl)) hg,h.tf,h.tc⟩⟩,xl,sl,tl⟩
theorem ba.only{w w2:World}{g base:Nat}{cs gs:List Value}{a:aE}{T:TypeId}(h:ba w cs a)(nf:NF base 7 cs)(hg:g<base)(hc:aa w g gs T)(hn:bT gs)(hO:aw g w w2)(G2:GV w2):ba w2 cs a:=by
 obtain⟨⟨ao,cap,qo,dap,so,sc,tO,tc,rfl,r,a1,a2,a3,a4,a5,a6,a7,a8,a9,a10⟩,xl,yl,sl,tl,_⟩:=h
 exact⟨⟨ao,cap,qo,dap,so,sc,tO,tc,rfl,r,hO.wd a1 (a1.apart hc hn),a2,a3,hO.wd a4 (a4.apart hc hn),a5,a6,hO.nd a7 (nf _ _ _ (.inl rfl)) hg,a8,hO.nd a9 (nf _ _ _ (.inr rfl)) hg,a10⟩,xl,yl,sl,tl,G2⟩
theorem bK.only{w w2:World}{g:Nat}{cs gs:List Value}{a:bm}{T:TypeId}(h:bK w cs a)(hc:aa w g gs T)(hn:bT gs)(hO:aw g w w2):bK w2 cs a:=by
 obtain⟨⟨ao,cap,qo,dap,rfl,r,a1,a2,a3,a4,a5,a6⟩,n3,xl,yl⟩:=h;exact⟨⟨ao,cap,qo,dap,rfl,r,hO.wd a1 (a1.apart hc hn),a2,a3,hO.wd a4 (a4.apart hc hn),a5,a6⟩,n3,xl,yl⟩
theorem dK:ax 0:=⟨by decide,by decide⟩
theorem z7arg(w:World):b9 w [Value.int .i64 0,.slice none 0 0,.slice none 0 0,.slice none 0 0] n7:=⟨⟨none,0,none,0,none,0,rfl,⟨dK,dU _ _,jV,Nat.le_refl _,jk _ _,kV,Nat.le_refl _,jk _ _,kV,Nat.le_refl _⟩⟩,Nat.zero_le _,Nat.zero_le _,Nat.zero_le _⟩
theorem z8a(w:World):dR w [Value.int .i64 0,.int .i64 0,.int .i64 0,.int .i64 0,.slice none 0 0,.int .i64 0,.slice none 0 0,.slice none 0 0,.slice none 0 0] n8:=⟨none,0,none,0,none,0,none,0,rfl,⟨dK,dK,dK,dK,dK,kV,kV⟩,dU _ _,jV,Nat.le_refl _,dU _ _,jV,Nat.le_refl _,jk _ _,Nat.le_refl _,jk _ _,Nat.le_refl _⟩
theorem z8arg(w:World)(G:GV w):ba w [Value.int .i64 0,.int .i64 0,.int .i64 0,.int .i64 0,.slice none 0 0,.int .i64 0,.slice none 0 0,.slice none 0 0,.slice none 0 0] n8:=⟨z8a w,Nat.zero_le _,Nat.zero_le _,Nat.zero_le _,Nat.zero_le _,G⟩
theorem z9arg(w:World):bK w [Value.int .i64 0,.int .i64 0,.int .i64 0,.int .i64 0,.int .i64 0,.slice none 0 0,.int .i64 0,.slice none 0 0] n9:=⟨⟨none,0,none,0,rfl,⟨dK,dK,dK,dK,dK,dK⟩,dU _ _,jV,Nat.le_refl _,dU _ _,jV,Nat.le_refl _⟩,by decide,Nat.zero_le _,Nat.zero_le _⟩
theorem ki_mk{w:World}{cp cr cf:List Value}{K:Int}{p:bN}{r:aE}{f:bm}(hK:ax K)(h1:b9 w cp p)(h2:ba w cr r)(h3:bK w cf f):KI w (.int .i64 K::(cp++(cr++cf))) ⟨K,p,r,f⟩:=
 ⟨⟨cp,cr,cf,rfl,hK,h1.arg,h2.arg,h3.arg⟩,⟨h1.xl,h1.sl,h1.tl,h2.xl,h2.yl,h2.sl,h2.tl,h3.n3,h3.xl,h3.yl⟩,h2.gv⟩
theorem kH{w:World}{cp cr cf:List Value}{K:Int}{p:bN}{r:aE}{f:bm}(hK:ax K)(h1:eG w cp p)(h2:dR w cr r)(h3:eF w cf f):eR w (.int .i64 K::(cp++(cr++cf))) ⟨K,p,r,f⟩:=⟨cp,cr,cf,rfl,hK,h1,h2,h3⟩
theorem nou_mk{cp cr cf:List Value}{K:Int}(h1:bT cp)(h2:bT cr)(h3:bT cf):bT (.int .i64 K::(cp++(cr++cf))):=fun v hv n=>by
 rcases List.mem_cons.1 hv with rfl | e
 .simp
 .exact(h1.app (h2.app h3)) v e n
theorem IL{w:World}{g:Nat}{T:TypeId}:∀(cs pre old post:List Value),old.length=cs.length->aa w g (pre++(old++post)) T->aa (w.setCells g pre.length cs) g (pre++(cs++post)) T/\aw g w (w.setCells g pre.length cs):=by
 intro cs;induction cs generalizing w with
 | nil=>
  intro pre old post hl h;obtain rfl:=List.eq_nil_of_length_eq_zero hl;exact⟨h,aw.refl _ _⟩
 | cons v r ih=>
  intro pre old post hl h;match old,hl with
  | u::o,hl=>
   have h2:aa (w.setCell ⟨g,pre.length,none⟩ v) g ((pre++[v])++(o++post)) T:=by
    have:=h.set pre.length v
    have e:(pre++(u::o++post)).set pre.length v=(pre++[v])++(o++post):=by
     rw[List.set_append_right _ _ (Nat.le_refl _),Nat.sub_self];simp
    rw[e]at this;exact this
   have k:=ih (pre++[v]) o post (by simpa using hl) h2;rw[List.length_append,List.length_singleton]at k;refine⟨?_,((aw.refl g w).set pre.length v).trans k.2⟩;have k1:=k.1;rw[List.append_assoc]at k1;exact k1
theorem j9{ops:Array Oper}{rest:List Oper}{d:Option Tmp}{ty T TT:TypeId}{ps:String}{af:Array Edge}{a:Act}{w:World}{Q:Exit->Act->World->Prop}{x y:Operand}
  (g:Nat) (pre old post cs:List Value) (hx:a.eval x=.pointer (some ⟨g,pre.length,none⟩)) (hy:a.eval y=.agg cs.toArray) (hc:aa w g (pre++(old++post)) TT) (lo:old.length=cs.length) (hi:(prog.info? T).map (·.size)=some cs.length) (h1:cs.toArray.all (·.oneCell')=true)
  (h:∀w1,aa w1 g (pre++(cs++post)) TT->aw g w w1->wpList prog ops Q rest (a.put d undef) w1):
  wpList prog ops Q (⟨d,.store T x y,ty,ps,af,none⟩::rest) a w:=by
 refine wpList_store_mid rfl T x y rfl g pre.length cs.toArray hx hy ?_ (by simpa using hi) h1 ?_
 .intro j hj;have hj:j<cs.length:=by simpa using hj
  have hl:pre.length+j<(pre++(old++post)).length:=by simp only[List.length_append];omega
  exact⟨by rw[hc.cell (pre.length+j) (List.getElem?_eq_getElem hl)];rfl,hc.frozen _⟩
 .have k:=IL cs pre old post lo hc;exact h _ k.1 k.2
theorem NF.mono{base b0 i:Nat}{cs:List Value}(h:NF base i cs)(hl:b0<=base):NF b0 i cs:=fun ao n c e a ha=>Nat.le_trans hl (h ao n c e a ha)
theorem NF.mid{base i j:Nat}{pre cs post:List Value}(h:NF base i cs)(hl:i+2<=cs.length)(hj:j=pre.length+i):NF base j (pre++(cs++post)):=fun ao n c e=>by
 subst hj;refine h ao n c ?_
 have k:∀q,q<cs.length->(pre++(cs++post))[pre.length+q]?=cs[q]?:=fun q hq=>by
  rw[List.getElem?_append_right (by omega),List.getElem?_append_left (by omega),show pre.length+q-pre.length=q by omega]
 rw[k i (by omega),show pre.length+i+1=pre.length+(i+1)by omega,k (i+1) (by omega)]at e;exact e
def jD(base:Nat)(cs:List Value):Prop:=NF base 3 cs/\NF base 12 cs
theorem I8(N:Int)(ao:Option Addr)(xs:List Nat)(cap:Nat)(w:World)(hN:ax N)(hx:Wd w ao xs)(hf:Fit xs)(hcap:xs.length<=cap)(hl:N<=3000/\xs.length<=1048576)(GG:GV w):
  Calls prog 40 #[.int .i64 2,.agg #[.int .i64 N,.slice ao xs.length cap]] w fun e w'=>∃cs:List Value,e=.returned (.tuple #[.agg cs.toArray,.int .i64 (kE 2 N xs)])/\KI w' cs (kB 2 N xs)/\Below w.heap.size w w'/\jD w.heap.size cs:=by
 obtain⟨W,hW⟩:∃W,W=((w.alloc (.cells #[.int .i64 N,.slice ao xs.length cap] 33)).alloc (.cells [Value.int .i64 0,.int .i64 0,.slice none 0 0,.slice none 0 0,.slice none 0 0,.int .i64 0,.int .i64 0,.int .i64 0,.int .i64 0,.slice none 0 0,.int .i64 0,.slice none 0 0,.slice none 0 0,.slice none 0 0,.int .i64 0,.int .i64 0,.int .i64 0,.int .i64 0,.int .i64 0,.slice none 0 0,.int .i64 0,.slice none 0 0].toArray 44)).alloc (.cells [Value.int .i64 0,.int .i64 0,.slice none 0 0,.slice none 0 0,.slice none 0 0,.int .i64 0,.int .i64 0,.int .i64 0,.int .i64 0,.slice none 0 0,.int .i64 0,.slice none 0 0,.slice none 0 0,.slice none 0 0,.int .i64 0,.int .i64 0,.int .i64 0,.int .i64 0,.int .i64 0,.slice none 0 0,.int .i64 0,.slice none 0 0].toArray 44):=⟨_,rfl⟩
 have bw:Below w.heap.size w W:=by rw[hW];exact((below_alloc w _).alloc (by simp) _).alloc (by simp;omega) _
 have B0:aa W w.heap.size [.int .i64 N,.slice ao xs.length cap] 33:=by rw[hW];exact((aa.new w _ _).alloc _).alloc _
 have B4:aa W (w.heap.size+1) [Value.int .i64 0,.int .i64 0,.slice none 0 0,.slice none 0 0,.slice none 0 0,.int .i64 0,.int .i64 0,.int .i64 0,.int .i64 0,.slice none 0 0,.int .i64 0,.slice none 0 0,.slice none 0 0,.slice none 0 0,.int .i64 0,.int .i64 0,.int .i64 0,.int .i64 0,.int .i64 0,.slice none 0 0,.int .i64 0,.slice none 0 0] 44:=by rw[hW];exact(aa.new2 w _ _ _).alloc _
 have B6:aa W (w.heap.size+2) [Value.int .i64 0,.int .i64 0,.slice none 0 0,.slice none 0 0,.slice none 0 0,.int .i64 0,.int .i64 0,.int .i64 0,.int .i64 0,.slice none 0 0,.int .i64 0,.slice none 0 0,.slice none 0 0,.slice none 0 0,.int .i64 0,.int .i64 0,.int .i64 0,.int .i64 0,.int .i64 0,.slice none 0 0,.int .i64 0,.slice none 0 0] 44:=by rw[hW];exact(aa.new2 (w.alloc _) _ _ _).at (by simp)
 have hIV:=Hid.mk8 qC
 have H8:Hid (∀w0,Below w.heap.size w w0->Calls prog 92 #[.agg #[.int .i64 N,.slice ao xs.length cap]] w0 fun e w'=>∃cs:List Value,e=.returned (.tuple #[.agg cs.toArray,.int .i64 (kE8 N xs)])/\ba w' cs (kB8 N xs)/\NF w0.heap.size 7 cs/\Below w0.heap.size w0 w'):=fun w0 h=>Jb N ao xs cap w0 hN (hx.keep h) hf hcap hl.2 (GG.kept h)
 subst hW;have hK:ax 2:=by unfold ax;decide
 have eE:kE 2 N xs=kE8 N xs:=rfl;rw[eE];by_cases z:kE8 N xs=0
 .have ew:kB 2 N xs=⟨2,n7,kB8 N xs,n9⟩:=nY N xs z;rw[z]at H8⊢;clear eE z;go_enter func40,ntmps40;go_wp2_with (refine aP (w.heap.size+2) _ _ rfl rfl B6 rfl hIV.out (by simp[Value.oneCell']) ?_)
  intro w1 B6 O1;replace B0:=O1.cel B0 (by omega);replace B4:=O1.cel B4 (by omega);replace bw:=bw.trans (O1.below (by omega));clear O1;have r0:=B0.cell 0 rfl;have r1:=B0.cell 1 rfl;go_wp2_with fail
  refine(H8.out _ bw).mono ?_;rintro e w2 ⟨cs,rfl,hP,hN2,hb⟩;have sz:=B6.lt;have sz2:=hb.size;replace B4:=B4.kept hb;replace B6:=B6.kept hb;replace bw:=bg bw hb;clear hb r0 r1 B0
  go_wp2_with (refine j9 (w.heap.size+2) (Value.int .i64 2::[Value.int .i64 0,.slice none 0 0,.slice none 0 0,.slice none 0 0]) [Value.int .i64 0,.int .i64 0,.int .i64 0,.int .i64 0,.slice none 0 0,.int .i64 0,.slice none 0 0,.slice none 0 0,.slice none 0 0] [Value.int .i64 0,.int .i64 0,.int .i64 0,.int .i64 0,.int .i64 0,.slice none 0 0,.int .i64 0,.slice none 0 0] cs rfl rfl B6 hP.arg.nine hP.arg.len hP.arg.one ?_)
  intro w3 B7 O3;have hQ:=hP.only hN2 (by omega) B6 (nou_mk (z7arg w).arg.nou (z8a w).nou (z9arg w).arg.nou) O3 (GG.kept (bw.trans (O3.below (by omega))));replace B4:=O3.cel B4 (by omega)
  replace bw:=bw.trans (O3.below (by omega))
  have B8:aa w3 (w.heap.size+2) (Value.int .i64 2::([Value.int .i64 0,.slice none 0 0,.slice none 0 0,.slice none 0 0]++(cs++[Value.int .i64 0,.int .i64 0,.int .i64 0,.int .i64 0,.int .i64 0,.slice none 0 0,.int .i64 0,.slice none 0 0]))) 44:=B7
  have HL:=Hid.mk8 (ki_mk hK (z7arg w3) hQ (z9arg w3)).arg.len;have H1:=Hid.mk8 (ki_mk hK (z7arg w3) hQ (z9arg w3)).arg.one;have H9:=Hid.mk8 (ki_mk hK (z7arg w3) hQ (z9arg w3)).arg.nine
  have HNF:Hid (jD w.heap.size (Value.int .i64 2::([Value.int .i64 0,.slice none 0 0,.slice none 0 0,.slice none 0 0]++(cs++[Value.int .i64 0,.int .i64 0,.int .i64 0,.int .i64 0,.int .i64 0,.slice none 0 0,.int .i64 0,.slice none 0 0])))):=⟨eK (bE _) (bE _),(hN2.mono (by omega)).mid (pre:=Value.int .i64 2::[Value.int .i64 0,.slice none 0 0,.slice none 0 0,.slice none 0 0]) (by have:=H9.out;have:=hQ.arg.nine;omega) rfl⟩
  have HQ:=Hid.mk8 (And.intro hQ hN2);clear B7 O3 B6 hP hN2 hQ
  go_wp2_with (first | refine cF (w.heap.size+2) _ (by rfl) rfl B8 underlying44 HL.out ?_ | refine aP (w.heap.size+1) _ _ rfl rfl B4 H9.out HL.out H1.out ?_);intro w9 B9 O9
  have HZ:=Hid.mk8 (And.intro B9 (And.intro (ki_mk hK (z7arg w9) (HQ.out.1.only HQ.out.2 (by omega) B4 (nou_mk (z7arg w).arg.nou (z8a w).nou (z9arg w).arg.nou) O9 (GG.kept (bw.trans (O9.below (by omega))))) (z9arg w9)) (bw.trans (O9.below (by omega)))))
  clear B9 O9 B8 B4 HQ;go_wp2
  (try simp only[Exit.inBlock,Exit.then]);refine bodyPost_ret (bJ rfl (w.heap.size+1) _ rfl HZ.out.1 underlying44 HL.out) rfl ⟨_,rfl,?_,HZ.out.2.2,HNF.out⟩;rw[ew];exact HZ.out.2.1
 .have ew:kB 2 N xs=⟨0,n7,n8,n9⟩:=nZ 2 N xs (by rw[eE];exact z);have zz:(kE8 N xs != 0)=true:=by simp[z]
  clear eE z;generalize kE8 N xs=E1 at *;go_enter func40,ntmps40;go_wp2_with (refine aP (w.heap.size+2) _ _ rfl rfl B6 rfl hIV.out (by simp[Value.oneCell']) ?_);intro w1 B6 O1
  replace B0:=O1.cel B0 (by omega);replace B4:=O1.cel B4 (by omega);replace bw:=bw.trans (O1.below (by omega));clear O1;have r0:=B0.cell 0 rfl;have r1:=B0.cell 1 rfl;go_wp2_with fail;refine(H8.out _ bw).mono ?_
  rintro e w2 ⟨cs,rfl,hP,hN2,hb⟩;have sz:=B6.lt;have sz2:=hb.size;replace B4:=B4.kept hb;replace B6:=B6.kept hb;replace bw:=bg bw hb;clear hb r0 r1 B0
  go_wp2_with (refine j9 (w.heap.size+2) (Value.int .i64 2::[Value.int .i64 0,.slice none 0 0,.slice none 0 0,.slice none 0 0]) [Value.int .i64 0,.int .i64 0,.int .i64 0,.int .i64 0,.slice none 0 0,.int .i64 0,.slice none 0 0,.slice none 0 0,.slice none 0 0] [Value.int .i64 0,.int .i64 0,.int .i64 0,.int .i64 0,.int .i64 0,.slice none 0 0,.int .i64 0,.slice none 0 0] cs rfl rfl B6 hP.arg.nine hP.arg.len hP.arg.one ?_)
  intro w3 B7 O3;replace B4:=O3.cel B4 (by omega);replace bw:=bw.trans (O3.below (by omega));clear B7 O3 B6 hP hN2;go_wp2_with (refine aP (w.heap.size+1) _ _ rfl rfl B4 rfl hIV.out (by simp[Value.oneCell']) ?_)
  intro w9 B9 O9;have HZ:=Hid.mk8 (And.intro B9 (bw.trans (O9.below (by omega))));clear B9 O9;go_wp2
  (try simp only[Exit.inBlock,Exit.then]);refine bodyPost_ret (bJ rfl (w.heap.size+1) _ rfl HZ.out.1 underlying44 hIV.out) rfl ⟨_,rfl,?_,HZ.out.2,eK (bE _) (bE _),eK (bE _) (bE _)⟩;rw[ew]
  exact ki_mk dK (z7arg _) (z8arg _ (GG.kept HZ.out.2)) (z9arg _)
theorem xw(k N:Int)(ao:Option Addr)(xs:List Nat)(cap:Nat)(w:World)(hK:ax k)(hN:ax N)(hx:Wd w ao xs)(hf:Fit xs)(hcap:xs.length<=cap)(hl:N<=3000/\xs.length<=1048576)(GG:GV w):
  Calls prog 40 #[.int .i64 k,.agg #[.int .i64 N,.slice ao xs.length cap]] w fun e w'=>∃cs:List Value,e=.returned (.tuple #[.agg cs.toArray,.int .i64 (kE k N xs)])/\KI w' cs (kB k N xs)/\Below w.heap.size w w'/\jD w.heap.size cs:=by
 by_cases q2:k=2
 .subst q2;exact I8 N ao xs cap w hN hx hf hcap hl GG
 obtain⟨W,hW⟩:∃W,W=((w.alloc (.cells #[.int .i64 N,.slice ao xs.length cap] 33)).alloc (.cells [Value.int .i64 0,.int .i64 0,.slice none 0 0,.slice none 0 0,.slice none 0 0,.int .i64 0,.int .i64 0,.int .i64 0,.int .i64 0,.slice none 0 0,.int .i64 0,.slice none 0 0,.slice none 0 0,.slice none 0 0,.int .i64 0,.int .i64 0,.int .i64 0,.int .i64 0,.int .i64 0,.slice none 0 0,.int .i64 0,.slice none 0 0].toArray 44)).alloc (.cells [Value.int .i64 0,.int .i64 0,.slice none 0 0,.slice none 0 0,.slice none 0 0,.int .i64 0,.int .i64 0,.int .i64 0,.int .i64 0,.slice none 0 0,.int .i64 0,.slice none 0 0,.slice none 0 0,.slice none 0 0,.int .i64 0,.int .i64 0,.int .i64 0,.int .i64 0,.int .i64 0,.slice none 0 0,.int .i64 0,.slice none 0 0].toArray 44):=⟨_,rfl⟩
 have bw:Below w.heap.size w W:=by rw[hW];exact((below_alloc w _).alloc (by simp) _).alloc (by simp;omega) _
 have B0:aa W w.heap.size [.int .i64 N,.slice ao xs.length cap] 33:=by rw[hW];exact((aa.new w _ _).alloc _).alloc _
 have B4:aa W (w.heap.size+1) [Value.int .i64 0,.int .i64 0,.slice none 0 0,.slice none 0 0,.slice none 0 0,.int .i64 0,.int .i64 0,.int .i64 0,.int .i64 0,.slice none 0 0,.int .i64 0,.slice none 0 0,.slice none 0 0,.slice none 0 0,.int .i64 0,.int .i64 0,.int .i64 0,.int .i64 0,.int .i64 0,.slice none 0 0,.int .i64 0,.slice none 0 0] 44:=by rw[hW];exact(aa.new2 w _ _ _).alloc _
 have B6:aa W (w.heap.size+2) [Value.int .i64 0,.int .i64 0,.slice none 0 0,.slice none 0 0,.slice none 0 0,.int .i64 0,.int .i64 0,.int .i64 0,.int .i64 0,.slice none 0 0,.int .i64 0,.slice none 0 0,.slice none 0 0,.slice none 0 0,.int .i64 0,.int .i64 0,.int .i64 0,.int .i64 0,.int .i64 0,.slice none 0 0,.int .i64 0,.slice none 0 0] 44:=by rw[hW];exact(aa.new2 (w.alloc _) _ _ _).at (by simp)
 have hIV:=Hid.mk8 qC
 have H7:Hid (∀w0,Below w.heap.size w w0->Calls prog 91 #[.agg #[.int .i64 N,.slice ao xs.length cap]] w0 fun e w'=>∃cs:List Value,e=.returned (.tuple #[.agg cs.toArray,.int .i64 (kE7 N xs)])/\b9 w' cs (kB7 N xs)/\NF w0.heap.size 2 cs/\Below w0.heap.size w0 w'):=fun w0 h=>Jc N ao xs cap w0 hN (hx.keep h) hf hcap hl.2
 have H9:Hid (∀w0,Below w.heap.size w w0->Calls prog 93 #[.agg #[.int .i64 N,.slice ao xs.length cap]] w0 fun e w'=>∃cs:List Value,e=.returned (.tuple #[.agg cs.toArray,.int .i64 (kE9 N xs)])/\bK w' cs (kB9 N xs)/\Below w0.heap.size w0 w'):=fun w0 h=>Ja N ao xs cap w0 hN (hx.keep h) hf hcap hl
 subst hW;by_cases q1:k=1
 .subst q1;have eE:kE 1 N xs=kE7 N xs:=rfl;rw[eE];by_cases z:kE7 N xs=0
  .have ew:kB 1 N xs=⟨1,kB7 N xs,n8,n9⟩:=vp N xs z;rw[z]at H7⊢;clear eE z;go_enter func40,ntmps40;go_wp2_with (refine aP (w.heap.size+2) _ _ rfl rfl B6 rfl hIV.out (by simp[Value.oneCell']) ?_)
   intro w1 B6 O1;replace B0:=O1.cel B0 (by omega);replace B4:=O1.cel B4 (by omega);replace bw:=bw.trans (O1.below (by omega));clear O1;have r0:=B0.cell 0 rfl;have r1:=B0.cell 1 rfl;go_wp2_with fail
   refine(H7.out _ bw).mono ?_;rintro e w2 ⟨cs,rfl,hP,hN2,hb⟩;have sz:=B6.lt;have sz2:=hb.size;replace B4:=B4.kept hb;replace B6:=B6.kept hb;replace bw:=bg bw hb;clear hb r0 r1 B0
   go_wp2_with (refine j9 (w.heap.size+2) [Value.int .i64 1] [Value.int .i64 0,.slice none 0 0,.slice none 0 0,.slice none 0 0] ([Value.int .i64 0,.int .i64 0,.int .i64 0,.int .i64 0,.slice none 0 0,.int .i64 0,.slice none 0 0,.slice none 0 0,.slice none 0 0]++[Value.int .i64 0,.int .i64 0,.int .i64 0,.int .i64 0,.int .i64 0,.slice none 0 0,.int .i64 0,.slice none 0 0]) cs rfl rfl B6 hP.arg.four.symm hP.arg.len hP.arg.one ?_)
   intro w3 B7 O3;have hQ:=hP.only hN2 (by omega) B6 (nou_mk (z7arg w).arg.nou (z8a w).nou (z9arg w).arg.nou) O3;replace B4:=O3.cel B4 (by omega);replace bw:=bw.trans (O3.below (by omega))
   have B8:aa w3 (w.heap.size+2) (Value.int .i64 1::(cs++([Value.int .i64 0,.int .i64 0,.int .i64 0,.int .i64 0,.slice none 0 0,.int .i64 0,.slice none 0 0,.slice none 0 0,.slice none 0 0]++[Value.int .i64 0,.int .i64 0,.int .i64 0,.int .i64 0,.int .i64 0,.slice none 0 0,.int .i64 0,.slice none 0 0]))) 44:=B7
   have HL:=Hid.mk8 (kH hK hQ.arg (z8a w3) (z9arg w3).arg).len;have H1:=Hid.mk8 (kH hK hQ.arg (z8a w3) (z9arg w3).arg).one;have H9:=Hid.mk8 (kH hK hQ.arg (z8a w3) (z9arg w3).arg).nine
   have HNF:Hid (jD w.heap.size (Value.int .i64 1::(cs++([Value.int .i64 0,.int .i64 0,.int .i64 0,.int .i64 0,.slice none 0 0,.int .i64 0,.slice none 0 0,.slice none 0 0,.slice none 0 0]++[Value.int .i64 0,.int .i64 0,.int .i64 0,.int .i64 0,.int .i64 0,.slice none 0 0,.int .i64 0,.slice none 0 0])))):=⟨(hN2.mono (by omega)).mid (pre:=[Value.int .i64 1]) (by have:=hQ.arg.four;omega) rfl,(show NF w.heap.size 7 [Value.int .i64 0,.int .i64 0,.int .i64 0,.int .i64 0,.slice none 0 0,.int .i64 0,.slice none 0 0,.slice none 0 0,.slice none 0 0]from eK (bE _) (bE _)).mid (pre:=Value.int .i64 1::cs) (by decide) (by have:=hQ.arg.four;simp;omega)⟩
   have HQ:=Hid.mk8 (And.intro hQ hN2);clear B7 O3 B6 hP hN2 hQ
   go_wp2_with (first | refine cF (w.heap.size+2) _ (by rfl) rfl B8 underlying44 HL.out ?_ | refine aP (w.heap.size+1) _ _ rfl rfl B4 H9.out HL.out H1.out ?_);intro w9 B9 O9
   have HZ:=Hid.mk8 (And.intro B9 (And.intro (ki_mk hK (HQ.out.1.only HQ.out.2 (by omega) B4 (nou_mk (z7arg w).arg.nou (z8a w).nou (z9arg w).arg.nou) O9) (z8arg w9 (GG.kept (bw.trans (O9.below (by omega))))) (z9arg w9)) (bw.trans (O9.below (by omega)))))
   clear B9 O9 B8 B4 HQ;go_wp2
   (try simp only[Exit.inBlock,Exit.then]);refine bodyPost_ret (bJ rfl (w.heap.size+1) _ rfl HZ.out.1 underlying44 HL.out) rfl ⟨_,rfl,?_,HZ.out.2.2,HNF.out⟩;rw[ew];exact HZ.out.2.1
  .have ew:kB 1 N xs=⟨0,n7,n8,n9⟩:=nZ 1 N xs (by rw[eE];exact z);have zz:(kE7 N xs != 0)=true:=by simp[z]
   clear eE z;generalize kE7 N xs=E1 at *;go_enter func40,ntmps40;go_wp2_with (refine aP (w.heap.size+2) _ _ rfl rfl B6 rfl hIV.out (by simp[Value.oneCell']) ?_);intro w1 B6 O1
   replace B0:=O1.cel B0 (by omega);replace B4:=O1.cel B4 (by omega);replace bw:=bw.trans (O1.below (by omega));clear O1;have r0:=B0.cell 0 rfl;have r1:=B0.cell 1 rfl;go_wp2_with fail;refine(H7.out _ bw).mono ?_
   rintro e w2 ⟨cs,rfl,hP,hN2,hb⟩;have sz:=B6.lt;have sz2:=hb.size;replace B4:=B4.kept hb;replace B6:=B6.kept hb;replace bw:=bg bw hb;clear hb r0 r1 B0
   go_wp2_with (refine j9 (w.heap.size+2) [Value.int .i64 1] [Value.int .i64 0,.slice none 0 0,.slice none 0 0,.slice none 0 0] ([Value.int .i64 0,.int .i64 0,.int .i64 0,.int .i64 0,.slice none 0 0,.int .i64 0,.slice none 0 0,.slice none 0 0,.slice none 0 0]++[Value.int .i64 0,.int .i64 0,.int .i64 0,.int .i64 0,.int .i64 0,.slice none 0 0,.int .i64 0,.slice none 0 0]) cs rfl rfl B6 hP.arg.four.symm hP.arg.len hP.arg.one ?_)
   intro w3 B7 O3;replace B4:=O3.cel B4 (by omega);replace bw:=bw.trans (O3.below (by omega));clear B7 O3 B6 hP hN2;go_wp2_with (refine aP (w.heap.size+1) _ _ rfl rfl B4 rfl hIV.out (by simp[Value.oneCell']) ?_)
   intro w9 B9 O9;have HZ:=Hid.mk8 (And.intro B9 (bw.trans (O9.below (by omega))));clear B9 O9;go_wp2
   (try simp only[Exit.inBlock,Exit.then]);refine bodyPost_ret (bJ rfl (w.heap.size+1) _ rfl HZ.out.1 underlying44 hIV.out) rfl ⟨_,rfl,?_,HZ.out.2,eK (bE _) (bE _),eK (bE _) (bE _)⟩;rw[ew]
   exact ki_mk dK (z7arg _) (z8arg _ (GG.kept HZ.out.2)) (z9arg _)
 by_cases q3:k=3
 .subst q3;have eE:kE 3 N xs=kE9 N xs:=rfl;rw[eE];by_cases z:kE9 N xs=0
  .have ew:kB 3 N xs=⟨3,n7,n8,kB9 N xs⟩:=vq N xs z;rw[z]at H9⊢;clear eE z;go_enter func40,ntmps40;go_wp2_with (refine aP (w.heap.size+2) _ _ rfl rfl B6 rfl hIV.out (by simp[Value.oneCell']) ?_)
   intro w1 B6 O1;replace B0:=O1.cel B0 (by omega);replace B4:=O1.cel B4 (by omega);replace bw:=bw.trans (O1.below (by omega));clear O1;have r0:=B0.cell 0 rfl;have r1:=B0.cell 1 rfl;go_wp2_with fail
   refine(H9.out _ bw).mono ?_;rintro e w2 ⟨cs,rfl,hP,hb⟩;have sz:=B6.lt;have sz2:=hb.size;replace B4:=B4.kept hb;replace B6:=B6.kept hb;replace bw:=bg bw hb;clear hb r0 r1 B0
   go_wp2_with (refine j9 (w.heap.size+2) (Value.int .i64 3::([Value.int .i64 0,.slice none 0 0,.slice none 0 0,.slice none 0 0]++[Value.int .i64 0,.int .i64 0,.int .i64 0,.int .i64 0,.slice none 0 0,.int .i64 0,.slice none 0 0,.slice none 0 0,.slice none 0 0])) [Value.int .i64 0,.int .i64 0,.int .i64 0,.int .i64 0,.int .i64 0,.slice none 0 0,.int .i64 0,.slice none 0 0] [] cs rfl rfl B6 hP.arg.nine hP.arg.len hP.arg.one ?_)
   intro w3 B7 O3;have hQ:=hP.only B6 (nou_mk (z7arg w).arg.nou (z8a w).nou (z9arg w).arg.nou) O3;replace B4:=O3.cel B4 (by omega);replace bw:=bw.trans (O3.below (by omega))
   have B8:aa w3 (w.heap.size+2) (Value.int .i64 3::([Value.int .i64 0,.slice none 0 0,.slice none 0 0,.slice none 0 0]++([Value.int .i64 0,.int .i64 0,.int .i64 0,.int .i64 0,.slice none 0 0,.int .i64 0,.slice none 0 0,.slice none 0 0,.slice none 0 0]++cs))) 44:=by simpa using B7
   have HL:=Hid.mk8 (kH hK (z7arg w3).arg (z8a w3) hQ.arg).len;have H1:=Hid.mk8 (kH hK (z7arg w3).arg (z8a w3) hQ.arg).one;have H9:=Hid.mk8 (kH hK (z7arg w3).arg (z8a w3) hQ.arg).nine
   have HNF:Hid (jD w.heap.size (Value.int .i64 3::([Value.int .i64 0,.slice none 0 0,.slice none 0 0,.slice none 0 0]++([Value.int .i64 0,.int .i64 0,.int .i64 0,.int .i64 0,.slice none 0 0,.int .i64 0,.slice none 0 0,.slice none 0 0,.slice none 0 0]++cs)))):=⟨eK (bE _) (bE _),eK (bE _) (bE _)⟩
   have HQ:=Hid.mk8 (And.intro hQ trivial);clear B7 O3 B6 hP hQ
   go_wp2_with (first | refine cF (w.heap.size+2) _ (by rfl) rfl B8 underlying44 HL.out ?_ | refine aP (w.heap.size+1) _ _ rfl rfl B4 H9.out HL.out H1.out ?_);intro w9 B9 O9
   have HZ:=Hid.mk8 (And.intro B9 (And.intro (ki_mk hK (z7arg w9) (z8arg w9 (GG.kept (bw.trans (O9.below (by omega))))) (HQ.out.1.only B4 (nou_mk (z7arg w).arg.nou (z8a w).nou (z9arg w).arg.nou) O9)) (bw.trans (O9.below (by omega)))))
   clear B9 O9 B8 B4 HQ;go_wp2
   (try simp only[Exit.inBlock,Exit.then]);refine bodyPost_ret (bJ rfl (w.heap.size+1) _ rfl HZ.out.1 underlying44 HL.out) rfl ⟨_,rfl,?_,HZ.out.2.2,HNF.out⟩;rw[ew];exact HZ.out.2.1
  .have ew:kB 3 N xs=⟨0,n7,n8,n9⟩:=nZ 3 N xs (by rw[eE];exact z);have zz:(kE9 N xs != 0)=true:=by simp[z]
   clear eE z;generalize kE9 N xs=E1 at *;go_enter func40,ntmps40;go_wp2_with (refine aP (w.heap.size+2) _ _ rfl rfl B6 rfl hIV.out (by simp[Value.oneCell']) ?_);intro w1 B6 O1
   replace B0:=O1.cel B0 (by omega);replace B4:=O1.cel B4 (by omega);replace bw:=bw.trans (O1.below (by omega));clear O1;have r0:=B0.cell 0 rfl;have r1:=B0.cell 1 rfl;go_wp2_with fail;refine(H9.out _ bw).mono ?_
   rintro e w2 ⟨cs,rfl,hP,hb⟩;have sz:=B6.lt;have sz2:=hb.size;replace B4:=B4.kept hb;replace B6:=B6.kept hb;replace bw:=bg bw hb;clear hb r0 r1 B0
   go_wp2_with (refine j9 (w.heap.size+2) (Value.int .i64 3::([Value.int .i64 0,.slice none 0 0,.slice none 0 0,.slice none 0 0]++[Value.int .i64 0,.int .i64 0,.int .i64 0,.int .i64 0,.slice none 0 0,.int .i64 0,.slice none 0 0,.slice none 0 0,.slice none 0 0])) [Value.int .i64 0,.int .i64 0,.int .i64 0,.int .i64 0,.int .i64 0,.slice none 0 0,.int .i64 0,.slice none 0 0] [] cs rfl rfl B6 hP.arg.nine hP.arg.len hP.arg.one ?_)
   intro w3 B7 O3;replace B4:=O3.cel B4 (by omega);replace bw:=bw.trans (O3.below (by omega));clear B7 O3 B6 hP;go_wp2_with (refine aP (w.heap.size+1) _ _ rfl rfl B4 rfl hIV.out (by simp[Value.oneCell']) ?_)
   intro w9 B9 O9;have HZ:=Hid.mk8 (And.intro B9 (bw.trans (O9.below (by omega))));clear B9 O9;go_wp2
   (try simp only[Exit.inBlock,Exit.then]);refine bodyPost_ret (bJ rfl (w.heap.size+1) _ rfl HZ.out.1 underlying44 hIV.out) rfl ⟨_,rfl,?_,HZ.out.2,eK (bE _) (bE _),eK (bE _) (bE _)⟩;rw[ew]
   exact ki_mk dK (z7arg _) (z8arg _ (GG.kept HZ.out.2)) (z9arg _)
 have eE:kE k N xs=5:=by unfold kE;rw[if_neg q1,if_neg q2,if_neg q3]
 have ew:kB k N xs=⟨0,n7,n8,n9⟩:=nZ k N xs (by rw[eE];decide);rw[eE];have d1:(k==1)=false:=by simp[q1]
 have d2:(k==2)=false:=by simp[q2]
 have d3:(k==3)=false:=by simp[q3]
 clear eE;go_enter func40,ntmps40;go_wp2_with (refine aP (w.heap.size+2) _ _ rfl rfl B6 rfl hIV.out (by simp[Value.oneCell']) ?_);intro w1 B6 O1;replace B0:=O1.cel B0 (by omega)
 replace B4:=O1.cel B4 (by omega);replace bw:=bw.trans (O1.below (by omega));clear O1;have r0:=B0.cell 0 rfl;have r1:=B0.cell 1 rfl
 go_wp2_with (refine aP (w.heap.size+1) _ _ rfl rfl B4 rfl hIV.out (by simp[Value.oneCell']) ?_);intro w9 B9 O9;have HZ:=Hid.mk8 (And.intro B9 (bw.trans (O9.below (by omega))));clear B9 O9;go_wp2
 (try simp only[Exit.inBlock,Exit.then]);refine bodyPost_ret (bJ rfl (w.heap.size+1) _ rfl HZ.out.1 underlying44 hIV.out) rfl ⟨_,rfl,?_,HZ.out.2,eK (bE _) (bE _),eK (bE _) (bE _)⟩;rw[ew]
 exact ki_mk dK (z7arg _) (z8arg _ (GG.kept HZ.out.2)) (z9arg _)
def cy:RA:=⟨0,n7,n8,n9⟩
def Lv(w:World)(lo:Option Addr)(av:List RA):Prop:=
 0<av.length->∃b off,lo=some ⟨b,off,none⟩/\b<w.heap.size/\∀l,l<av.length->∃cs,w.rangeAt b (off+l*22) cs/\KI w cs (av.getD l cy)
theorem range_keep{w w':World}{b o base:Nat}{cs:List Value}(h:w.rangeAt b o cs)(hb:Below base w w')(hl:b<base):w'.rangeAt b o cs:=fun j v hv=>(hb.cell (p:=⟨b,o+j,none⟩) hl).trans (h j v hv)
theorem Lv.keep{w w':World}{lo:Option Addr}{av:List RA}(h:Lv w lo av)(hb:Below w.heap.size w w'):Lv w' lo av:=by
 intro h0;obtain⟨b,off,e,hlt,hc⟩:=h h0;refine⟨b,off,e,Nat.lt_of_lt_of_le hlt hb.size,fun l hl=>?_⟩;obtain⟨cs,h1,h2⟩:=hc l hl;exact⟨cs,range_keep h1 hb hlt,h2.keep hb⟩
theorem eR.head{w:World}{cs:List Value}{a:RA}(h:eR w cs a):cs[0]?=some (.int .i64 a.K):=by
 obtain⟨cp,cr,cf,rfl,_⟩:=h;rfl
def zv:List Value:=[.int .i64 0,.int .i64 0,.slice none 0 0,.slice none 0 0,.slice none 0 0,.int .i64 0,.int .i64 0,.int .i64 0,.int .i64 0,.slice none 0 0,.int .i64 0,.slice none 0 0,.slice none 0 0,.slice none 0 0,.int .i64 0,.int .i64 0,.int .i64 0,.int .i64 0,.int .i64 0,.slice none 0 0,.int .i64 0,.slice none 0 0]
theorem mA:(prog.info? 44).map (fun i=>(i.zero,i.size))=some (some (.agg zv.toArray),zv.length):=by kernel_rfl
theorem u6:zv.length=22:=rfl
theorem D5(a:RA)(ok:aJ a=true):a.p.N+a.r.N+a.f.N=kBN a/\0<=a.p.N/\0<=a.r.N/\0<=a.f.N:=by
 have nn:=(bp _ _ (kJ a ok)).1
 have kz:da a=true:=by
  cases h:da a with
  | true=>rfl
  | false=>
   have e:kOn a=0:=by unfold kOn;rw[h];rfl
   rw[(jh (by omega) (by omega) (by omega)).1]at ok;cases ok
 have ek:kOn a=a.K:=by unfold kOn;rw[if_pos kz]
 have z7n:z7 a.p=true->a.p.N=0:=fun h=>by unfold z7 dJ at h;simp at h;exact h.1.1
 have z8n:z8 a.r=true->a.r.N=0:=fun h=>by unfold z8 at h;simp at h;exact h.1
 have z9n:z9 a.f=true->a.f.N=0:=fun h=>by unfold z9 at h;simp at h;exact h.1
 unfold da at kz;simp only[Bool.and_eq_true,Bool.or_eq_true,decide_eq_true_eq]at kz;obtain⟨k1,k2,k3⟩:=kz;by_cases h1:kOn a=1
 .obtain⟨e1,e2,_,_⟩:=jg h1;have q2:=z8n (k2.resolve_left (by omega));have q3:=z9n (k3.resolve_left (by omega))
  have:kBN7 a.p=a.p.N:=by unfold kBN7 dm;rw[if_pos (show pchk a.p.N a.p.xs a.p.S a.p.T=true from e1.symm.trans ok)]
  omega
 by_cases h2:kOn a=2
 .obtain⟨e1,e2,_,_⟩:=gY h2;have q2:=z7n (k1.resolve_left (by omega));have q3:=z9n (k3.resolve_left (by omega))
  have:kBN8 a.r=a.r.N:=by
   have hr:d_ a.r.N a.r.k a.r.V a.r.M a.r.xs a.r.L a.r.ys a.r.S a.r.T=true:=e1.symm.trans ok;obtain⟨_,_,_,g4⟩:=ng _ _ _ _ _ _ _ _ _ hr;obtain⟨g1,_⟩:=tM _ _ _ _ _ _ _ _ _ _ _ g4;unfold kBN8 jJ
   rw[if_pos hr];exact g1.symm
  omega
 by_cases h3:kOn a=3
 .obtain⟨e1,e2,_,_⟩:=ji h3;have q2:=z7n (k1.resolve_left (by omega));have q3:=z8n (k2.resolve_left (by omega))
  have:kBN9 a.f=a.f.N:=by
   unfold kBN9;rw[if_pos (e1.symm.trans ok)]
  omega
 rw[(jh h1 h2 h3).1]at ok;cases ok
theorem zD(cs:List Value)(a:RA)(w:World)(h:KI w cs a)(ok:aJ a=true):
  Qq 99 #[.agg cs.toArray] w (.int .i64 (kBN a)):=by
 obtain⟨e,p0,p1,p2⟩:=D5 a ok;obtain⟨n0,n1,_⟩:=bp _ _ (kJ a ok);obtain⟨cp,cr,cf,rfl,_,h1,h2,h3⟩:=h.arg;obtain⟨ao,cap,so,sc,tO,tc,rfl,g1⟩:=h1
 obtain⟨bo,dap,qo,eap,uo,uc,vO,vc,rfl,g2⟩:=h2;obtain⟨fo,fap,ho,hap,rfl,g3⟩:=h3
 have bw:=below_alloc w (.cells (Value.int .i64 a.K::([.int .i64 a.p.N,.slice ao a.p.xs.length cap,.slice so a.p.S.length sc,.slice tO a.p.T.length tc]++([.int .i64 a.r.N,.int .i64 a.r.k,.int .i64 a.r.V,.int .i64 a.r.M,.slice bo a.r.xs.length dap,.int .i64 a.r.L,.slice qo a.r.ys.length eap,.slice uo a.r.S.length uc,.slice vO a.r.T.length vc]++[.int .i64 a.f.N,.int .i64 a.f.M,.int .i64 a.f.k,.int .i64 a.f.V,.int .i64 a.f.LM,.slice fo a.f.xs.length fap,.int .i64 a.f.H,.slice ho a.f.ys.length hap]))).toArray 44)
 clear g1 g2 g3 h;generalize a.p.N=A at *;generalize a.r.N=B at *;generalize a.f.N=C at *;generalize kBN a=M at *;have hAB:IntKind.i64.wrap (A+B)=A+B:=by rw[IntKind.wrap_i64];omega
 have hABC:IntKind.i64.wrap (A+B+C)=M:=by rw[IntKind.wrap_i64];omega
 have HE:=ac e;clear e;go_enter func99,ntmps99;go_wp2;go_ret;exact⟨rfl,bw⟩
theorem EK(k:Int):kE k 0 []=if 1<=k/\k<=3 then 0 else 5:=by
 by_cases h:1<=k/\k<=3
 .rw[if_pos h];exact nX k 0 [] h.1 h.2 (by decide)
 .rw[if_neg h];unfold kE;rw[if_neg (by omega),if_neg (by omega),if_neg (by omega)]
theorem td(k:Int)(hK:ax k)(w:World)(G:GV w):
  Qq 33 #[.int .i64 k] w (.bool (decide (1<=k/\k<=3))):=by
 have C:=ac (xw k 0 none [] 0 w hK (by unfold ax;decide) (dU _ _) (fun i=>by unfold gt;simp) (Nat.le_refl _) ⟨by decide,by decide⟩ G);rw[EK]at C
 obtain⟨r,hr⟩:∃r,Hid (r=decide (1<=k/\k<=3)):=⟨_,rfl⟩;rw[<-hr.out];obtain⟨e5,he5⟩:∃e5:Int,Hid (e5=if 1<=k/\k<=3 then 0 else 5):=⟨_,rfl⟩;rw[<-he5.out]at C
 have H5:Hid ((e5==0)=r):=by
  show(e5==0)=r;rw[hr.out,he5.out];by_cases h:1<=k/\k<=3
  .rw[if_pos h,decide_eq_true h];rfl
  .rw[if_neg h,decide_eq_false h];rfl
 go_enter func33,ntmps33;go_wp2_with fail;refine C.out.mono ?_;rintro e w1 ⟨cs,rfl,hki,hb,_⟩;have HB:=ac hb;have hl:=ac hki.arg.len;have h1:=ac hki.arg.one;have h9:=ac hki.arg.nine;clear hki hb C
 go_wp2_with (refine li mA ?_);intro w2 B2 hb2 hs2;simp only[Act.put,ae,List.set];go_wp2_with (refine aP w1.heap.size _ _ rfl rfl B2 (by rw[<-h9.out];rfl) hl.out h1.out ?_);intro w3 B3 hO
 have hHB:=ac ((bg HB.out hb2).trans (hO.below HB.out.size));have h5:=H5.out;clear B2 B3 hO hb2;go_wp2;go_ret;exact⟨rfl,hHB.out⟩
def mQ:Value:=.agg #[.pointer none,.int .i64 0,.int .i64 0]
theorem lF(w:World):(zeroValue 99).run prog w=.ok mQ w:=by kernel_rfl
theorem vL:(prog.info? 99).map (·.size)=some 3:=by kernel_rfl
theorem ke{ops:Array Oper}{d:Option Tmp}{ty T:TypeId}{ps:String}{af:Array Edge}{a:Act}{w:World}{K:Act->World->Prop}{Q:Exit->Act->World->Prop}{E:Prop}{x y:Operand}
  (g:Nat) (old cs:List Value) (hx:a.eval x=.pointer (some ⟨g,0,none⟩)) (hy:a.eval y=.agg cs.toArray) (hc:aa w g old T) (lo:old.length=cs.length) (hi:(prog.info? T).map (·.size)=some cs.length) (h1:cs.toArray.all (·.oneCell')=true)
  (h:∀w1,aa w1 g cs T->aw g w w1->K (a.put d undef) w1):
  if Region.wanted (⟨d,.store T x y,ty,ps,af,none⟩:Oper) (yielded ops a.tmps)=true then Oper.wp prog (⟨d,.store T x y,ty,ps,af,none⟩:Oper) a w K Q else E:=by
 rw[if_pos (by simp[Region.wanted])];exact wp_store_row _ x y rfl g cs.toArray hx hy _ _ hc (by simpa using hi) (by simpa using lo) h1 (h _ (setRow_heap w g _ _ _ _ hc) (aw.row g w _))
theorem yP(n:Int)(cs bs m:Value)(x:Nat)(hcs:cs.oneCell'=true)(hbs:bs.oneCell'=true)(hm:m.oneCell'=true)(w:World):
  Qq 98 #[.agg #[.int .i64 n,cs,bs,m],cv 0 x] w (.int .i64 n):=by
 unfold cv;go_enter func98,ntmps98;go_wp2;go_ret;exact⟨rfl,(below_alloc w _).alloc (by simp) _⟩
theorem sV(n:Int)(cs bs p:Value)(off on:Int)(gn c L x:Nat)(M:Nat->Nat->Option Value)(w:World)(hcs:cs.oneCell'=true)(hbs:bs.oneCell'=true)(h:CM w gn c M)(hL:0<L)(hL2:L<=64)(hx:x<18446744073709551616)(hM:(M (L-1) (x/2)).getD mQ=.agg #[p,.int .i64 off,.int .i64 on])(hp:p.oneCell'=true):
  Qq 98 #[.agg #[.int .i64 n,cs,bs,.map (some gn)],cv L x] w (.int .i64 (if x%2=1 then on else off)):=by
 obtain⟨V,hV⟩:∃V,V=(w.alloc (.cells #[.int .i64 n,cs,bs,.map (some gn)] 94)).alloc (.cells #[.int .i64 L,.int .u64 x] 83):=⟨_,rfl⟩
 have bV:Below w.heap.size w V:=by rw[hV];exact(below_alloc w _).alloc (by simp) _
 have B1:aa V w.heap.size [.int .i64 n,cs,bs,.map (some gn)] 94:=by rw[hV];exact(aa.new w _ _).alloc _
 have B2:aa V (w.heap.size+1) [.int .i64 L,.int .u64 x] 83:=by rw[hV];exact aa.new2 w _ _ _
 have zV:V.heap.size=w.heap.size+2:=by rw[hV];simp
 have HB:=ac bV;have HMv:=ac (h.kept bV);have x2:x/2<18446744073709551616:=by omega
 have eL:(L:Int)-1=((L-1:Nat):Int):=by omega
 have L0:((L:Int)==0)=false:=by simp;omega
 have EW:IntKind.i64.wrap ((L:Int)-1)=(L:Int)-1:=by rw[IntKind.wrap_i64];omega
 have CB:Hid (∀w0,Qq 84 #[.agg #[.int .i64 L,.int .u64 x],.int .i64 ((L:Int)-1)] w0 (.agg #[.int .i64 ((L-1:Nat):Int),.int .u64 ((x/2:Nat):Int)])):=fun w0=>by
  have:=m8 L x (L-1) hL2 (by omega) hx w0;rw[show L-(L-1)=1 by omega,Nat.pow_one,<-eL]at this;rw[<-eL];unfold cv at this;rw[<-eL]at this;exact this
 have CT:Hid (∀w0,Qq 49 #[.agg #[.int .i64 L,.int .u64 x],.int .i64 ((L:Int)-1)] w0 (.bool (decide (x%2=1)))):=fun w0=>by
  have:=m6 L x (L-1) hL2 (by omega) hx w0;rw[show L-(L-1+1)=0 by omega,Nat.pow_zero,Nat.div_one,<-eL]at this;exact this
 have HL:Hid (∀w0,CM w0 gn c M->(Instr.lookup 92 (.map (some gn)) (.agg #[.int .i64 ((L-1:Nat):Int),.int .u64 ((x/2:Nat):Int)]) false).run prog w0=.ok (.agg #[p,.int .i64 off,.int .i64 on]) w0):=fun w0 h0=>by
  have:=h0.look underlying92 (lF w0) (L:=L-1) (x:=x/2) (by omega) x2;rw[hM]at this;exact this
 obtain⟨bt,hbt⟩:∃bt,Hid (bt=decide (x%2=1)):=⟨_,rfl⟩;rw[<-hbt.out]at CT;obtain⟨res,hres⟩:∃res,Hid (res=if x%2=1 then on else off):=⟨_,rfl⟩;rw[<-hres.out]
 obtain⟨y,hy⟩:∃y,Hid (y=x/2):=⟨_,rfl⟩;obtain⟨l,hl⟩:∃l,Hid (l=L-1):=⟨_,rfl⟩;rw[<-hy.out,<-hl.out]at CB HL;clear hM h bV eL;unfold cv;go_enter func98,ntmps98;have q0:=B2.cell 0 rfl
 have q1:=B2.cell 1 rfl;go_wp2_with fail;rw[<-hV];clear hV q0 q1
 refine aB [7] (fun w'=>aa w' w.heap.size [.int .i64 n,cs,bs,.map (some gn)] 94/\aa w' (w.heap.size+1) [.int .i64 L,.int .u64 x] 83/\CM w' gn c M) (by kernel_rfl) ?_
 have hS:aa V.drew w.heap.size [.int .i64 n,cs,bs,.map (some gn)] 94/\aa V.drew (w.heap.size+1) [.int .i64 L,.int .u64 x] 83/\CM V.drew gn c M:=⟨B1,B2,HMv.out.kept ((Below.refl _ _).drew)⟩
 have HB0:Hid (Below w.heap.size w V.drew):=HB.out.drew;have zY:w.heap.size+2<=V.drew.heap.size:=by show w.heap.size+2<=V.heap.size;omega
 generalize V.drew=Y at *;clear B1 B2 HMv HB zV;refine aF 0 hS rfl (fun w0 h0=>by have c3:=h0.1.cell 3 rfl;have d0:=h0.2.1.cell 0 rfl;have d1:=h0.2.1.cell 1 rfl;go_simp;try with_reducible rfl) ?_
 refine aF 1 hS rfl (fun w0 h0=>by have c3:=h0.1.cell 3 rfl;have d0:=h0.2.1.cell 0 rfl;have d1:=h0.2.1.cell 1 rfl;go_simp;try with_reducible rfl) ?_
 refine aF 2 hS rfl (fun w0 h0=>by have c3:=h0.1.cell 3 rfl;have d0:=h0.2.1.cell 0 rfl;have d1:=h0.2.1.cell 1 rfl;go_simp;try with_reducible rfl) ?_
 refine aF 3 hS rfl (fun w0 h0=>by have c3:=h0.1.cell 3 rfl;have d0:=h0.2.1.cell 0 rfl;have d1:=h0.2.1.cell 1 rfl;go_simp;try with_reducible rfl) ?_;refine aq.two 4 6 (by kernel_rfl) rfl rfl ?_ ?_
 .intro K hK;have HBX:=HB0;go_simp;refine mr (CB.out _) fun w4 hb=>?_;replace hS:=And.intro (hS.1.kept hb) (And.intro (hS.2.1.kept hb) (hS.2.2.kept hb));have HB4:=ac (bg HBX.out hb)
  have z4:=hb.size;clear hb HB0 HBX;refine hK.out _ _ (fun _=>hS) ?_;clear hK K;try simp only[Act.put,ak,aj,ai,ae,ah,ag]
  refine aF 5 hS rfl (fun w0 h0=>by have c3:=h0.1.cell 3 rfl;have d0:=h0.2.1.cell 0 rfl;have d1:=h0.2.1.cell 1 rfl;have hlk:=HL.out w0 h0.2.2;go_simp;try with_reducible rfl) ?_;refine aO 6 ?_;intro K hK
  go_simp;have hA:=below_alloc w4 (.cells #[.pointer none,.int .i64 0,.int .i64 0] 99);have B6:=aa.new w4 [.pointer none,.int .i64 0,.int .i64 0] 99
  replace hS:=And.intro (hS.1.kept hA) (And.intro (hS.2.1.kept hA) (hS.2.2.kept hA));have HB6:=ac (bg HB4.out hA);obtain⟨gx,hgx⟩:∃gx,Hid (gx=w4.heap.size):=⟨_,rfl⟩;rw[<-hgx.out]at B6⊢
  have gxl:w.heap.size+2<=gx:=by have:=hgx.out;omega
  generalize w4.alloc (.cells #[.pointer none,.int .i64 0,.int .i64 0] 99)=w6 at *;clear hA HB4;refine hK.out _ _ (fun _=>hS) ?_;clear hK K;try simp only[Act.put,ak,aj,ai,ae,ah,ag]
  refine aO 7 ?_;intro K hK;refine ke gx _ [p,.int .i64 off,.int .i64 on] rfl rfl B6 rfl vL (by rw[List.all_toArray];simp only[List.all_cons,hp,Bool.true_and];rfl) ?_;intro w7 B7 hO7
  have HB7:=ac (HB6.out.trans (hO7.below (by omega)));have B27:=ac (hO7.cel hS.2.1 (by omega));refine hK.out _ _ (fun h=>absurd (by decide) h) ?_;clear hK K;try simp only[Act.put,ak,aj,ai,ae,ah,ag]
  refine aq.done (by kernel_rfl) ?_ _;clear hS B6 hO7;have q0:=B27.out.cell 0 rfl;have q1:=B27.out.cell 1 rfl;go_wp2_with fail;refine mr (CT.out _) fun w8 hb=>?_
  have HB8:=ac (bg HB7.out hb);have B78:=B7.kept hb;have n1:=B78.cell 1 rfl;have n2:=B78.cell 2 rfl;clear hb q0 q1 B7 B27 HB7;cases bt with
  | true=>
   obtain rfl:res=on:=by rw[hres.out,if_pos (of_decide_eq_true hbt.out.symm)]
   go_wp2;go_ret;exact⟨rfl,HB8.out⟩
  | false=>
   obtain rfl:res=off:=by rw[hres.out,if_neg (of_decide_eq_false hbt.out.symm)]
   go_wp2;go_ret;exact⟨rfl,HB8.out⟩
 .intro K hK;go_simp;have hA:=below_alloc Y (.cells #[.pointer none,.int .i64 0,.int .i64 0] 99);have B6:=aa.new Y [.pointer none,.int .i64 0,.int .i64 0] 99
  replace hS:=And.intro (hS.1.kept hA) (And.intro (hS.2.1.kept hA) (hS.2.2.kept hA));have HBX:=ac (bg HB0.out hA);obtain⟨gx,hgx⟩:∃gx,Hid (gx=Y.heap.size):=⟨_,rfl⟩;rw[<-hgx.out]at B6⊢
  have gxl:w.heap.size+2<=gx:=by have:=hgx.out;omega
  generalize Y.alloc (.cells #[.pointer none,.int .i64 0,.int .i64 0] 99)=w6 at *;clear hA HB0;refine hK.out _ _ (fun _=>hS) ?_;clear hK K;try simp only[Act.put,ak,aj,ai,ae,ah,ag]
  refine aO 4 ?_;intro K hK;go_simp;refine mr (CB.out _) fun w4 hb=>?_;replace hS:=And.intro (hS.1.kept hb) (And.intro (hS.2.1.kept hb) (hS.2.2.kept hb));have HB4:=ac (bg HBX.out hb)
  have z4:=hb.size;replace B6:=B6.kept hb;clear hb HBX;refine hK.out _ _ (fun _=>hS) ?_;clear hK K;try simp only[Act.put,ak,aj,ai,ae,ah,ag]
  refine aF 5 hS rfl (fun w0 h0=>by have c3:=h0.1.cell 3 rfl;have d0:=h0.2.1.cell 0 rfl;have d1:=h0.2.1.cell 1 rfl;have hlk:=HL.out w0 h0.2.2;go_simp;try with_reducible rfl) ?_;refine aO 7 ?_;intro K hK
  refine ke gx _ [p,.int .i64 off,.int .i64 on] rfl rfl B6 rfl vL (by rw[List.all_toArray];simp only[List.all_cons,hp,Bool.true_and];rfl) ?_;intro w7 B7 hO7
  have HB7:=ac (HB4.out.trans (hO7.below (by omega)));have B27:=ac (hO7.cel hS.2.1 (by omega));refine hK.out _ _ (fun h=>absurd (by decide) h) ?_;clear hK K;try simp only[Act.put,ak,aj,ai,ae,ah,ag]
  refine aq.done (by kernel_rfl) ?_ _;clear hS B6 hO7;have q0:=B27.out.cell 0 rfl;have q1:=B27.out.cell 1 rfl;go_wp2_with fail;refine mr (CT.out _) fun w8 hb=>?_
  have HB8:=ac (bg HB7.out hb);have B78:=B7.kept hb;have n1:=B78.cell 1 rfl;have n2:=B78.cell 2 rfl;clear hb q0 q1 B7 B27 HB7;cases bt with
  | true=>
   obtain rfl:res=on:=by rw[hres.out,if_pos (of_decide_eq_true hbt.out.symm)]
   go_wp2;go_ret;exact⟨rfl,HB8.out⟩
  | false=>
   obtain rfl:res=off:=by rw[hres.out,if_neg (of_decide_eq_false hbt.out.symm)]
   go_wp2;go_ret;exact⟨rfl,HB8.out⟩
def c_(v sz:Nat->Nat)(q:Nat):List Nat:=(List.range 256).map fun c=>if c<q/\0<v c then sz c else 0
def lsum(v sz:Nat->Nat):Nat->Nat
 | 0=>0
 | q+1=>lsum v sz q+(if 0<v q then sz q else 0)
theorem ie(v sz:Nat->Nat)(q:Nat):(c_ v sz q).length=256:=by simp[c_]
theorem qF(v sz:Nat->Nat)(q c:Nat)(h:c<256):gt (c_ v sz q) c=if c<q/\0<v c then sz c else 0:=by
 unfold c_ gt;rw[List.getD_eq_getElem?_getD,List.getElem?_map,List.getElem?_range h];rfl
theorem Em(v sz:Nat->Nat):c_ v sz 0=List.replicate 256 0:=by
 unfold c_;rw[show(fun c=>if c<0/\0<v c then sz c else 0)=fun _=>0 by funext c;rw[if_neg (by omega)],List.map_const'];simp
theorem En(v sz:Nat->Nat)(q:Nat)(h:q<256)(hv:0<v q):(c_ v sz q).set q (sz q)=c_ v sz (q+1):=by
 refine list_ext _ _ (by simp[ie]) fun c hc=>?_;rw[List.length_set,ie]at hc;rw[gt_set _ _ _ _ (by rw[ie];exact h),qF _ _ _ _ hc,qF _ _ _ _ hc];by_cases e:q=c
 .subst e;rw[if_pos rfl,if_pos ⟨by omega,hv⟩]
 .rw[if_neg e];by_cases d:c<q/\0<v c
  .rw[if_pos d,if_pos ⟨by omega,d.2⟩]
  .rw[if_neg d,if_neg (fun g=>d ⟨by omega,g.2⟩)]
theorem Eo(v sz:Nat->Nat)(q:Nat)(hv:v q=0):c_ v sz q=c_ v sz (q+1):=by
 unfold c_;refine List.map_congr_left fun c _=>?_;by_cases d:c<q/\0<v c
 .rw[if_pos d,if_pos ⟨by omega,d.2⟩]
 .rw[if_neg d,if_neg];rintro⟨g1,g2⟩;by_cases e:c=q
  .subst e;omega
  .exact d ⟨by omega,g2⟩
theorem uQ(v sz:Nat->Nat)(B:Nat)(h:∀c,sz c<=B):∀q,lsum v sz q<=q*B
 | 0=>by simp[lsum]
 | q+1=>by
  have:=uQ v sz B h q;have:=h q;rw[lsum,Nat.succ_mul];split<;>omega
def aV(l:List Nat):List Int:=l.map fun n:Nat=>(n:Int)
theorem l_{w:World}{g:Nat}{ys:List Nat}(h:aa w g (aX ys) 3):Nd w (some ⟨g,0,none⟩) (aV ys):=fun _=>by
 refine⟨g,0,rfl,h.lt,fun i hi=>?_⟩;unfold aV at hi⊢;rw[List.length_map]at hi;rw[Nat.zero_add,h.cell i (jT ys i hi)];unfold gi
 rw[List.getD_eq_getElem?_getD,List.getD_eq_getElem?_getD,List.getElem?_map,List.getElem?_eq_getElem hi];rfl
theorem sp(ys:List Nat)(hl:ys.length=256)(h:∀y,y∈ys->y<=1048576):cY (aV ys) 1048576=true:=by
 unfold cY aV;rw[List.length_map,decide_eq_true hl,Bool.true_and,Bool.not_eq_true',List.any_eq_false];intro z hz;obtain⟨y,hy,rfl⟩:=List.mem_map.1 hz;have:=h y hy;unfold bad;simp;omega
def h_(v sz:Nat->Nat)(n:Int):List Int:=if (lsum v sz 256:Int)=n then aV (fg (aV (c_ v sz 256)))else []
theorem zy(n:Int)(gc gn c:Nat)(bs:Value)(v sz:Nat->Nat)(M:Nat->Nat->Option Value)(w:World)(hbs:bs.oneCell'=true)(hC:aa w gc (cC v) 83)(hM:CM w gn c M)(hv:∀c,v c<=40)(hk:∀c,cod v c<2^v c)(hz:∀c,sz c<=1048576)
  (hS:∀q,q<256->0<v q->∃p off on,(M (v q-1) (cod v q/2)).getD mQ=.agg #[p,.int .i64 off,.int .i64 on]/\p.oneCell'=true/\(if cod v q%2=1 then on else off)=(sz q:Int)):
  Calls prog 101 #[.agg #[.int .i64 n,.slice (some ⟨gc,0,none⟩) 256 256,bs,.map (some gn)]] w fun e w'=>∃ao k cap,e=.returned (.slice ao k cap)/\k=(h_ v sz n).length/\Nd w' ao (h_ v sz n)/\Below w.heap.size w w'/\Fr w.heap.size ao:=by
 obtain⟨i0,hi,hz0,hz1,hz2⟩:=info_parts mB;have HC:=ac hC;have HM:=ac hM;have HZ:=ac hz
 have CZ:Hid (∀q w0,q<256->0<v q->CM w0 gn c M->Qq 98 #[.agg #[.int .i64 n,.slice (some ⟨gc,0,none⟩) 256 256,bs,.map (some gn)],.agg #[.int .i64 (v q:Nat),.int .u64 (cod v q:Nat)]] w0 (.int .i64 (sz q:Int))):=fun q w0 hq hq0 h0=>by
  obtain⟨p,off,on,e1,e2,e3⟩:=hS q hq hq0;have:=sV n (.slice (some ⟨gc,0,none⟩) 256 256) bs p off on gn c (v q) (cod v q) M w0 rfl hbs h0 hq0 (by have:=hv q;omega) (iF (hk q) (hv q)) e1 e2;rw[e3]at this
  exact this
 have HSum:=ac (uQ v sz 1048576 hz);have lgc:=hC.lt;clear hC hM hz hS;obtain⟨W,hW⟩:∃W,W=w.alloc (.cells #[.int .i64 n,.slice (some ⟨gc,0,none⟩) 256 256,bs,.map (some gn)] 94):=⟨_,rfl⟩;have bW:=aM hW
 have B1:=aU hW;have zW:W.heap.size=w.heap.size+1:=by rw[hW];simp
 go_enter func101,ntmps101;go_wp2_with (at_make;refine wpList_make_full _ rfl _ _ 24 rfl (w.heap.size+1) 3 i0 (.int .i64 0) 1 underlying24 hi hz0 hz1 .i64 .i64 _ _ 256 rfl rfl rfl rfl ?b2 ?b3 ?b4 ?_)
 case b2=>rw[hz2];omega
 case b3=>unfold maxLen;omega
 case b4=>simp
 rw[<-hW];intro w1 hown hgr;have B2:=oM hown;have hb1:Below W.heap.size W w1:=(Below.refl _ _).grown hgr (Nat.le_refl _) (fun k h=>by cases h);rw[<-Em v sz]at B2
 have HB1:=ac (bg bW hb1);have HL1:=ac B2;have B11:=ac (B1.kept hb1);have q1:=B11.out.cell 1 rfl;clear hown hgr hb1 hi hz0 hz1 hz2 B1 B2 hW bW;go_wp2
 go_loopw [4,13] (fun vs vi wr=>∃q:Nat,q<=256/\vi=.int .i64 q/\vs=.int .i64 (lsum v sz q:Nat)/\Hid (aa wr (w.heap.size+1) (aX (c_ v sz q)) 3)/\Hid (aa wr w.heap.size [.int .i64 n,.slice (some ⟨gc,0,none⟩) 256 256,bs,.map (some gn)] 94)/\Hid (Below w.heap.size w wr)) (fun _ vi _=>256-(intOf vi).toNat)
 case atStart=>exact⟨0,Nat.zero_le _,rfl,rfl,HL1,B11,HB1⟩
 case round=>
  clear HL1 B11 HB1 q1;obtain⟨q,hq,rfl,rfl,HL,B1,HB⟩:=hrel;by_cases hlt:q<256
  .have hltz:(q:Int)<256:=by omega
   have HCw:=HC.out.kept HB.out;have a1:=HCw.cell (q*2) (gF v _ hlt);have a2:=HCw.cell (q*2+1) (gE v _ hlt);have v40:=hv q;have z8:=HZ.out q;have sm:=HSum.out q;have lgw:=HB.out.size
   have ll:=HL.out.lt;have HM1:=ac (HM.out.kept HB.out)
   have CQ:Hid (∀w0,0<v q->CM w0 gn c M->Qq 98 #[.agg #[.int .i64 n,.slice (some ⟨gc,0,none⟩) 256 256,bs,.map (some gn)],.agg #[.int .i64 (v q:Nat),.int .u64 (cod v q:Nat)]] w0 (.int .i64 (sz q:Int))):=fun w0=>CZ.out q w0 hlt
   have LS:=ac (En v sz q hlt);have LK:=ac (Eo v sz q);have S1:lsum v sz (q+1)=lsum v sz q+(if 0<v q then sz q else 0):=rfl;have S1h:=ac S1;clear HCw CZ S1;generalize lsum v sz q=sq at *
   obtain⟨W2,hW2⟩:∃W2,W2=wr.alloc (.cells #[.int .i64 (v q:Nat),.int .u64 (cod v q:Nat)] 83):=⟨_,rfl⟩;have hA:Below wr.heap.size wr W2:=by rw[hW2];exact below_alloc wr _
   have B6:aa W2 wr.heap.size [.int .i64 (v q:Nat),.int .u64 (cod v q:Nat)] 83:=by rw[hW2];exact aa.new wr _ _
   have HL2:=ac (HL.out.kept hA);have B12:=ac (B1.out.kept hA);have HB2:=ac (HB.out.trans (hA.mono lgw));have HM2:=ac (HM1.out.kept hA);have z2:=hA.size;have B6h:=ac B6;by_cases hv0:0<v q
   .rw[if_pos hv0]at S1h;have hv0z:(v q:Int)>0:=by omega
    have r0:=B1.out.cell 0 rfl;have r1:=B1.out.cell 1 rfl;have r2:=B1.out.cell 2 rfl;have r3:=B1.out.cell 3 rfl;have lB:=B1.out.lt;have fL:=HL.out.frozen q
    have nL:=HL.out.cell q (jT _ q (by rw[ie];exact hlt));clear HL B1 HB HM1 hA B6;go_wp2_with fail;rw[<-hW2];refine mr (CQ.out _ hv0 HM2.out) fun w4 hb=>?_;have HL4:=ac (HL2.out.kept hb)
    have B14:=ac (B12.out.kept hb);have HB4:=ac (bg HB2.out hb);have z4:=hb.size;have fL4:=HL4.out.frozen q;have nL4:=HL4.out.cell q (jT _ q (by rw[ie];exact hlt))
    have HL5:Hid (aa (w4.setCell ⟨w.heap.size+1,q,none⟩ (.int .i64 (sz q:Nat))) (w.heap.size+1) (aX (c_ v sz (q+1))) 3):=by
     have:=HL4.out.set q (.int .i64 (sz q:Nat));rw[od,LS.out hv0]at this;exact this
    have B15:=ac (B14.out.other (a:=⟨w.heap.size+1,q,none⟩) (by show w.heap.size≠w.heap.size+1;omega) (.int .i64 (sz q:Nat)))
    have HB5:Hid (Below w.heap.size w (w4.setCell ⟨w.heap.size+1,q,none⟩ (.int .i64 (sz q:Nat)))):=HB4.out.setCell (by show w.heap.size<=w.heap.size+1;omega) _;have l4:=HL4.out.lt
    clear hb HL2 B12 HB2 HM2 r0 r1 r2 r3 fL nL hW2 B6h HL4 B14 HB4;go_wp2;refine⟨⟨q+1,by omega,rfl,?_,HL5,B15,HB5⟩,by simp only[intOf];omega⟩;rw[S1h.out];rfl
   .have hv0':v q=0:=by omega
    rw[if_neg hv0,Nat.add_zero]at S1h;have hv0z:¬((v q:Int)>0):=by omega
    rw[LK.out hv0']at HL2;have hW3:W2=wr.alloc (.cells #[.int .i64 0,.int .u64 (cod v q:Nat)] 83):=by rw[hW2,hv0'];rfl
    clear HL B1 HB HM1 hA B6 hW2;go_wp2;rw[<-hW3];refine⟨⟨q+1,by omega,rfl,?_,HL2,B12,HB2⟩,by simp only[intOf];omega⟩;rw[S1h.out];rfl
  .obtain rfl:q=256:=by omega
   have r0:=B1.out.cell 0 rfl;have lB:=B1.out.lt;have HN:=ac (l_ HL.out)
   have HW:Hid (cY (aV (c_ v sz 256)) 1048576=true):=sp _ (ie _ _ _) fun y hy=>by
    obtain⟨i,hi,rfl⟩:=List.mem_map.1 hy;have:=HZ.out i;split<;>omega
   have CL:Hid (∀w0,Below wr.heap.size wr w0->Calls prog 34 #[.slice (some ⟨w.heap.size+1,0,none⟩) 256 256] w0 fun e w'=>LO w0 (fg (aV (c_ v sz 256))) e w'):=fun w0 hb=>by
    have:=vw (some ⟨w.heap.size+1,0,none⟩) (aV (c_ v sz 256)) 256 w0 (HN.out.keep hb) (by simp[aV,ie]) HW.out;rw[show(aV (c_ v sz 256)).length=256 by simp[aV,ie]]at this;exact this
   by_cases hs:(lsum v sz 256:Int)=n
   .have hrs:Hid (h_ v sz n=aV (fg (aV (c_ v sz 256)))):=if_pos hs;generalize lsum v sz 256=sq at *;clear HL B1;go_wp2_with fail;refine(CL.out _ (Below.refl _ _)).mono ?_;rintro e w5 ⟨g5,rfl,hc5,hge5,hb5⟩
    have hg5:w.heap.size<=g5:=by omega
    clear hge5;have HB5:=ac (bg HB.out hb5);have HN5:=ac (l_ hc5);clear hb5 hc5 CL HN HB;go_wp2;go_ret
    refine⟨some ⟨g5,0,none⟩,256,256,rfl,?_,?_,HB5.out,fun a ha=>by cases ha;exact hg5⟩
    .rw[hrs.out];simp[aV,fg]
    .rw[hrs.out];exact HN5.out
   .have hrs:Hid (h_ v sz n=[]):=if_neg hs;generalize lsum v sz 256=sq at *;clear HL B1 CL HN;go_wp2;go_ret;refine⟨none,0,0,rfl,?_,?_,HB.out,bE _⟩
    .rw[hrs.out];rfl
    .rw[hrs.out];exact fun h=>absurd h (by simp)
namespace Sh
def ixo(p:Nat×Nat):List (Nat×Nat)->Nat
 | []=>0
 | q::l=>if q=p then 0 else ixo p l+1
theorem get_ixo{p:Nat×Nat}:∀{l:List (Nat×Nat)},p∈l->l[ixo p l]?=some p
 | q::l,h=>by
  unfold ixo;by_cases e:q=p
  .rw[if_pos e,e];rfl
  .rw[if_neg e];rcases List.mem_cons.1 h with g | g
   .exact absurd g.symm e
   .simpa using get_ixo g
theorem ixo_lt{p:Nat×Nat}{l:List (Nat×Nat)}(h:p∈l):ixo p l<l.length:=(List.getElem?_eq_some_iff.1 (get_ixo h)).1
theorem ixo_out{p:Nat×Nat}:∀{l:List (Nat×Nat)},p ∉ l->ixo p l=l.length
 | [],_=>rfl
 | q::l,h=>by
  unfold ixo;rw[List.mem_cons,not_or]at h;rw[if_neg (fun e=>h.1 e.symm),ixo_out h.2];rfl
theorem ixo_get:∀{l:List (Nat×Nat)} {i:Nat} {p:Nat×Nat},l.Nodup->l[i]?=some p->ixo p l=i
 | q::l,0,p,_,h=>by
  simp only[List.getElem?_cons_zero,Option.some.injEq]at h;subst h;unfold ixo;rw[if_pos rfl]
 | q::l,i+1,p,hn,h=>by
  rw[List.nodup_cons]at hn;have h':l[i]?=some p:=by simpa using h
  unfold ixo;rw[if_neg,ixo_get hn.2 h'];intro e;subst e;exact hn.1 (List.mem_of_getElem? h')
theorem ixo_before{l:List (Nat×Nat)}(hs:l.Pairwise ltc){i:Nat}{p q:Nat×Nat}(hp:l[i]?=some p)(hq:q∈l)(h:ltc q p):ixo q l<i:=by
 have g:=get_ixo hq;obtain⟨g1,g2⟩:=List.getElem?_eq_some_iff.1 g;obtain⟨p1,p2⟩:=List.getElem?_eq_some_iff.1 hp;rw[List.pairwise_iff_getElem]at hs;by_cases e:ixo q l<i
 .exact e
 .by_cases d:ixo q l=i
  .have:l[ixo q l]'g1=l[i]'p1:=by congr 1
   rw[g2,p2]at this;subst this;exact absurd h (ltc_irrefl _)
  .have:=hs i (ixo q l) p1 g1 (by omega);rw[g2,p2]at this;exact absurd h (uP this)
section
variable (v k:Nat->Nat)
theorem node_up{L x:Nat}(hk:∀c,k c<2^v c)(h:(L,x)∈nds v k)(hL:0<L):(L-1,x/2)∈nds v k:=by
 rw[mem_nds v k _ _ hk]at h⊢;obtain⟨h1,h2⟩:=h;refine⟨by omega,?_⟩;rw[isN_iff]at h2⊢;obtain⟨c,hc,hl,e⟩:=h2;refine⟨c,hc,by omega,?_⟩;have:=tY v k (L:=L-1) (c:=c) (by omega)
 rw[show L-1+1=L by omega,e]at this;exact this.symm
theorem leaf_up{c:Nat}(hk:∀c,k c<2^v c)(hv:∀c,v c<=40)(hc:c<256)(h:0<v c):(v c-1,k c/2)∈nds v k:=by
 rw[mem_nds v k _ _ hk];have:=hv c;refine⟨by omega,?_⟩;rw[isN_iff];refine⟨c,hc,by omega,?_⟩;unfold pre;rw[show v c-(v c-1)=1 by omega,Nat.pow_one]
theorem node_small{L x:Nat}(hk:∀c,k c<2^v c)(hv:∀c,v c<=40)(h:(L,x)∈nds v k):L<=39/\x<18446744073709551616:=by
 rw[mem_nds v k _ _ hk]at h;obtain⟨h1,h2⟩:=h;obtain⟨c,_,_,e⟩:=(isN_iff v k _ _).1 h2;refine⟨by omega,?_⟩;rw[<-e];exact ri (hk c) (hv c)
end
def szN(l:List (Nat×Nat))(a o:Nat->Int)(n:Int)(L x:Nat):Int:=
 if L=0 then n else if x%2=1 then o (ixo (L-1,x/2) l)else a (ixo (L-1,x/2) l)-o (ixo (L-1,x/2) l)
end Sh
def bF(av:List RA)(j:Nat):Int:=kBN (av.getD j cy)
def bM(av:List RA)(j:Nat):Int:=(cB (aQ (av.getD j cy)) true (kBN (av.getD j cy)).toNat:Int)
def fp(l:List (Nat×Nat))(k n:Int)(av:List RA)(i:Nat):Bool:=
 aJ (av.getD i cy)&&(decide ((av.getD i cy).K=k)&&decide (bF av i=Sh.szN l (bF av) (bM av) n (l.getD i (0,0)).1 (l.getD i (0,0)).2))
def szC(v:Nat->Nat)(n:Int)(av:List RA)(c:Nat):Nat:=(Sh.szN (Sh.nds v (cod v)) (bF av) (bM av) n (v c) (cod v c)).toNat
def bn(k n:Int)(l:List Int)(av:List RA):Bool:=
 fc l&&(decide ((Sh.nds (ay l) (cod (ay l))).length=av.length)&&(decide (n<=8192)&&(decide (1<=k/\k<=3)&&((List.range av.length).all (fp (Sh.nds (ay l) (cod (ay l))) k n av)&&decide (h_ (ay l) (szC (ay l) n av) n=l)))))
def nG(b off:Nat)(av:List RA)(j:Nat):Value:=.agg #[.pointer (some ⟨b,off+j*22,none⟩),.int .i64 (bF av j-bM av j),.int .i64 (bM av j)]
def bz(l:List (Nat×Nat))(b off:Nat)(av:List RA)(i:Nat):Nat->Nat->Option Value:=fun L x=>if Sh.ixo (L,x) l<i then some (nG b off av (Sh.ixo (L,x) l))else none
theorem Dc{l:List (Nat×Nat)}(hn:l.Nodup){b off:Nat}{av:List RA}{i L x:Nat}(h:l[i]?=some (L,x)):cup (bz l b off av i) L x (nG b off av i)=bz l b off av (i+1):=by
 funext L' x';unfold cup bz;by_cases e:L'=L/\x'=x
 .obtain⟨rfl,rfl⟩:=e;rw[if_pos ⟨rfl,rfl⟩,Sh.ixo_get hn h,if_pos (by omega)]
 .rw[if_neg e];by_cases d:Sh.ixo (L',x') l<i
  .rw[if_pos d,if_pos (by omega)]
  .rw[if_neg d,if_neg];intro g;have hi:Sh.ixo (L',x') l=i:=by omega
   have hil:=(List.getElem?_eq_some_iff.1 h).1
   have hm:(L',x')∈l:=by
    by_cases hm:(L',x')∈l
    .exact hm
    .have:=Sh.ixo_out hm;omega
   have:=Sh.get_ixo hm;rw[hi,h]at this;simp only[Option.some.injEq,Prod.mk.injEq]at this;exact e ⟨this.1.symm,this.2.symm⟩
theorem tL(av:List RA)(j:Nat)(h:aJ (av.getD j cy)=true):0<=bM av j/\bM av j<=bF av j/\bF av j<=1048576:=by
 have hc:=kJ _ h;obtain⟨h0,h1,_,_⟩:=bp _ _ hc;unfold bM bF;have:=fq (aQ (av.getD j cy)) true (kBN (av.getD j cy)).toNat;omega
end Go.Proofs.YtleegaihbgbcjaaGreatDoor
