import Derived.Test.YtleegaihbgbcjaaGreatDoorK28
set_option linter.unusedVariables false
set_option linter.unusedSimpArgs false
set_option maxRecDepth 100000
set_option maxHeartbeats 16000000
open Go.Proofs.Tryz
namespace Go.Proofs.YtleegaihbgbcjaaGreatDoor
open Go.RowKit Num Bit
structure Ex (g:Nat) (w w':World):Prop where
 size:w.heap.size<=w'.heap.size
 block:∀k,k<w.heap.size->k≠g->w'.heap[k]?=w.heap[k]?
theorem Ex.refl(g:Nat)(w:World):Ex g w w:=⟨Nat.le_refl _,fun _ _ _=>rfl⟩
theorem Ex.below{g:Nat}{w a b:World}(h:Ex g w a)(hb:Below a.heap.size a b):Ex g w b:=⟨Nat.le_trans h.size hb.size,fun k hk hg=>(hb.block k (Nat.lt_of_lt_of_le hk h.size)).trans (h.block k hk hg)⟩
theorem Ex.only{g:Nat}{w a b:World}(h:Ex g w a)(hb:aw g a b):Ex g w b:=⟨by rw[hb.size];exact h.size,fun k hk hg=>(hb.block k hg).trans (h.block k hk hg)⟩
theorem Ex.other{g r:Nat}{w a b:World}(h:Ex g w a)(hb:aw r a b)(hr:w.heap.size<=r):Ex g w b:=⟨by rw[hb.size];exact h.size,fun k hk hg=>(hb.block k (by omega)).trans (h.block k hk hg)⟩
theorem Ex.cell{g:Nat}{w w':World}(h:Ex g w w'){p:Addr}(hp:p.block<w.heap.size)(hg:p.block≠g):w'.cell? p=w.cell? p:=World.cell?_of_block (w:=w) (h.block p.block hp hg)
theorem Ex.nd{g:Nat}{w w':World}{b:Nat}{l:List Int}(h:Ex g w w')(hn:Nd w (some ⟨b,0,none⟩) l)(hg:b≠g):Nd w' (some ⟨b,0,none⟩) l:=fun h0=>by
 obtain⟨b',off,e,hl,hc⟩:=hn h0;simp only[Option.some.injEq,Addr.mk.injEq]at e;obtain⟨rfl,rfl,_⟩:=e;exact⟨_,_,rfl,Nat.lt_of_lt_of_le hl h.size,fun i hi=>(h.cell (p:=⟨b,0+i,none⟩) hl hg).trans (hc i hi)⟩
theorem Ex.tn{g:Nat}{w a b:World}{v:Value}{css:List (List Value)}(h:Ex g w a)(hT:Tn a b v css)(hv:∀gg,v.ownBlock=some gg->w.heap.size<=gg):Ex g w b:=by
 rcases hT with⟨g',cap,rfl,e1,e2⟩ | hb
 .exact h.other e2 (hv g' rfl)
 .exact h.below hb
theorem kD(l:List Nat):(aV l).length=l.length:=by unfold aV;simp
theorem tC{t:List Nat}(hn:t.length<=3000){k:Int}{q L x:Nat}(h:(nT t)[q]?=some (L,x)):L<=64/\x<18446744073709551616:=by
 have hL:=dn t (by omega);have:=Sh.node_small (vT t) (kT t) (bP t (by omega)) hL.le (List.mem_of_getElem? h);exact⟨by omega,this.2⟩
theorem Aj(k:Int)(ao:Option Addr)(t:List Nat)(cap:Nat)(w:World)(hk:1<=k/\k<=3)(hx:Bd w ao t)(hB:cM t)(hn:t.length<=3000)(G:GV w):
  Calls prog 10 #[.int .i64 k,.slice ao t.length cap] w fun e w'=>∃cs,e=.returned (.tuple #[.agg cs.toArray,.int .i64 0])/\SX w' cs k t/\Below w.heap.size w w':=by
 have hK:ax k:=by unfold ax;omega
 have hL:=ac (dn t (by omega));have HG:=ac G;have HX:=ac hx;have HBy:=ac hB;have HKL:=ac (bP t (by omega))
 have C1:Hid (Qz w 33 #[.int .i64 k] (.bool true)):=fun w0 hb=>by
  have:=td k hK w0 (G.keep hb);rw[decide_eq_true hk]at this;exact this
 have C2:Hid (∀w0,Below w.heap.size w w0->Calls prog 35 #[.slice ao t.length cap] w0 fun e w'=>∃g,e=.returned (.slice (some ⟨g,0,none⟩) 256 256)/\aa w' g (aX (ctl t t.length)) 3/\w0.heap.size<=g/\Below w0.heap.size w0 w'):=fun w0 hb=>Ae ao t cap w0 (hx.keep hb) hB (by omega)
 have C3:Hid (∀w0 g,aa w0 g (aX (ctl t t.length)) 3->Calls prog 34 #[.slice (some ⟨g,0,none⟩) 256 256] w0 fun e w'=>∃g,e=.returned (.tuple #[.slice (some ⟨g,0,none⟩) 256 256,.int .i64 0])/\Nd w' (some ⟨g,0,none⟩) (cZ (vT t))/\g<w'.heap.size/\w0.heap.size<=g/\Below w0.heap.size w0 w'):=fun w0 g hc=>by
  have:=vw (some ⟨g,0,none⟩) (aV (ctl t t.length)) 256 w0 (l_ hc) (by rw[kD,ii];omega) (ph t (by omega));rw[kD,ii]at this;refine this.mono ?_;rintro e w' ⟨g',rfl,h1,h2,h3⟩
  refine⟨g',rfl,?_,h1.lt,h2,h3⟩;rw[<-uS];exact l_ h1
 have C4:Hid (∀w0 g,Nd w0 (some ⟨g,0,none⟩) (cZ (vT t))->Calls prog 36 #[.slice (some ⟨g,0,none⟩) 256 256] w0 fun e w'=>∃g,e=.returned (.tuple #[.slice (some ⟨g,0,none⟩) 256 256,.int .i64 0])/\aa w' g (cC (vT t)) 83/\Below w0.heap.size w0 w'):=fun w0 g hc=>by
  have:=vz (some ⟨g,0,none⟩) (cZ (vT t)) 256 w0 hc (by rw[length_lst];omega) (uV hL.out);rw[length_lst,oK hL.out.out]at this;refine this.mono ?_;rintro e w' ⟨g',rfl,h1,h2,h3⟩;exact⟨g',rfl,h1,h3⟩
 have C5:Hid (∀w0 g,Below w.heap.size w w0->aa w0 g (cC (vT t)) 83->Calls prog 37 #[.slice ao t.length cap,.slice (some ⟨g,0,none⟩) 256 256] w0 fun e w'=>∃gm n M,e=.returned (.map (some gm))/\NX gm n M (fun L x=>rwT t (L,x)) w'/\Below w0.heap.size w0 w'):=fun w0 g hb hc=>by
  refine(zm ao t cap g (vT t) w0 (hx.keep hb) hB (by omega) hc hL.out.le (bP t (by omega))).mono ?_;rintro e w' ⟨gm,n,M,rfl,h1,h2,h3⟩;exact⟨gm,n,M,rfl,h1,h3⟩
 have C6:Hid (∀w0 g,aa w0 g (cC (vT t)) 83->Calls prog 38 #[.slice (some ⟨g,0,none⟩) 256 256] w0 fun e w'=>∃ao cap,e=.returned (.slice ao (nT t).length cap)/\Cs w' ao (nT t)/\Below w0.heap.size w0 w'/\Fr w0.heap.size ao):=fun w0 g hc=>ts g (vT t) w0 hc hL.out.le (bP t (by omega))
 have C7:Hid (∀w0 L x ra rc,Bl w0 ra (rwT t (L,x))->Calls prog 39 #[.slice ra (rwT t (L,x)).length rc] w0 fun e w'=>∃bo dap,e=.returned (.tuple #[.agg #[.int .i64 (rwT t (L,x)).length,.slice bo (frL (rwT t (L,x))).length dap],.int .i64 0])/\Wd w' bo (frL (rwT t (L,x)))/\(frL (rwT t (L,x))).length<=dap/\Below w0.heap.size w0 w'):=fun w0 L x ra rc h=>by
  have hr:=gH t (L,x);refine(Gr ra (rwT t (L,x)) rc w0 h (by omega)).mono ?_;rintro e w' ⟨bo,dap,rfl,h1,h2,h3,h4⟩;exact⟨bo,dap,rfl,h1,h3,h4⟩
 have C8:Hid (∀w0 L x bo dap,Below w.heap.size w w0->Wd w0 bo (frL (rwT t (L,x)))->(frL (rwT t (L,x))).length<=dap->Calls prog 40 #[.int .i64 k,.agg #[.int .i64 (rwT t (L,x)).length,.slice bo (frL (rwT t (L,x))).length dap]] w0 fun e w'=>∃cs:List Value,e=.returned (.tuple #[.agg cs.toArray,.int .i64 0])/\KI w' cs (kB k ((rwT t (L,x)).length:Int) (frL (rwT t (L,x))))/\Below w0.heap.size w0 w'/\jD w0.heap.size cs):=fun w0 L x bo dap hb h1 h2=>by
  have hr:=gH t (L,x);have:=xw k ((rwT t (L,x)).length:Int) bo (frL (rwT t (L,x))) dap w0 hK (by unfold ax;omega) h1 (db _ _) h2 ⟨by omega,by unfold frL;rw[cU];omega⟩ (G.keep hb)
  have e:kE k ((rwT t (L,x)).length:Int) (frL (rwT t (L,x)))=0:=nX k _ _ hk.1 hk.2 (dL _ _ (by omega));rw[e]at this;exact this
 obtain⟨n,hnn⟩:∃n,Hid (n=t.length):=⟨_,rfl⟩;have hn2:n<=3000:=by rw[hnn.out];exact hn
 rw[<-hnn.out]at C2 C3 C5⊢;have n1:¬(n:Int)>8192:=by omega
 have HN3:=ac hn;have HFew:=ac (ks hn);obtain⟨W,hW⟩:∃W,W=w.alloc (.cells #[.int .i64 0,.int .i64 0,.slice none 0 0,.slice none 0 0] 27):=⟨_,rfl⟩
 have bW:=ac (show Below w.heap.size w W by rw[hW];exact below_alloc w _);have B4:=ac (show aa W w.heap.size [.int .i64 0,.int .i64 0,.slice none 0 0,.slice none 0 0] 27 by rw[hW];exact aa.new w _ _)
 clear hx hB hn G;go_enter func10,ntmps10;go_wp2_with fail;rw[<-hW];refine mr (C1.out _ bW.out) fun w1 hb=>?_;have B41:=ac (B4.out.kept hb);have HB1:=ac (bg bW.out hb)
 clear hb hW bW B4 C1;go_wp2_with fail;refine(C2.out _ HB1.out).mono ?_;rintro e w2 ⟨g1,rfl,hc,_,hb⟩;have B42:=ac (B41.out.kept hb);have HB2:=ac (bg HB1.out hb);have HC1:=ac hc
 clear hb hc B41 HB1 C2;go_wp2_with fail;refine(C3.out _ _ HC1.out).mono ?_;rintro e w3 ⟨g2,rfl,hc,hg2,hgl,hb⟩;have hwg:w.heap.size<g2:=Nat.lt_of_lt_of_le B42.out.lt hgl;clear hgl;have B43:=ac (B42.out.kept hb)
 have HB3:=ac (bg HB2.out hb);have HL3:=ac hc;clear hb hc B42 HB2 HC1 C3;go_wp2_with fail;refine(C4.out _ _ HL3.out).mono ?_;rintro e w4 ⟨g3,rfl,hc,hb⟩;have B44:=ac (B43.out.kept hb)
 have HB4:=ac (bg HB3.out hb);have HL4:=ac (HL3.out.keep hb);have HC4:=ac hc;have hg24:g2<w4.heap.size:=Nat.lt_of_lt_of_le hg2 hb.size;clear hb hc B43 HB3 HL3 C4 hg2;go_wp2_with fail
 refine(C5.out _ _ HB4.out HC4.out).mono ?_;rintro e w5 ⟨gm,m,M,rfl,hc,hb⟩;have B45:=ac (B44.out.kept hb);have HB5:=ac (bg HB4.out hb);have HL5:=ac (HL4.out.keep hb)
 have HC5:=ac (HC4.out.kept hb);have HN5:=ac hc;have hg25:g2<w5.heap.size:=Nat.lt_of_lt_of_le hg24 hb.size;clear hb hc B44 HB4 HL4 HC4 C5 hg24
 obtain⟨W6,hW6⟩:∃W6,W6=w5.alloc (.cells #[.int .i64 k,.int .i64 (n:Int),.slice (some ⟨g2,0,none⟩) 256 256,.slice none 0 0] 27):=⟨_,rfl⟩;have b6:Below w5.heap.size w5 W6:=by rw[hW6];exact below_alloc w5 _
 have X6:=ac (show aa W6 w5.heap.size [.int .i64 k,.int .i64 (n:Int),.slice (some ⟨g2,0,none⟩) 256 256,.slice none 0 0] 27 by rw[hW6];exact aa.new w5 _ _)
 have z6:W6.heap.size=w5.heap.size+1:=by rw[hW6];simp
 have B46:=ac (B45.out.kept b6);have HB6:=ac (bg HB5.out b6);have HL6:=ac (HL5.out.keep b6);have HC6:=ac (HC5.out.kept b6);have HN6:=ac (HN5.out.keep b6);have z45:=B45.out.lt
 clear b6 B45 HB5 HL5 HC5;go_wp2_with fail;rw[<-hW6];refine(C6.out _ _ HC6.out).mono ?_;rintro e w7 ⟨bo,bc,rfl,hc,hb,hfr⟩;obtain⟨gx,hgx⟩:∃gx,Hid (gx=w5.heap.size):=⟨_,rfl⟩;rw[z6]at hfr
 rw[<-hgx.out]at X6 hfr hg25⊢;have B47:=ac (B46.out.kept hb);have X7:=ac (X6.out.kept hb);have HB7:=ac (bg HB6.out hb);have HL7:=ac (HL6.out.keep hb);have HN7:=ac (HN6.out.keep hb)
 have HS7:=ac hc;have HFR:=ac hfr
 have HMg:Hid (gm≠gx/\∀L x,L<=64->x<18446744073709551616->∀j,((M L x).getD f_).ownBlock=some j->j≠gx):=⟨by have:=HN5.out.map.lt;have:=hgx.out;omega,fun L x hL hx j hj=>by have:=((HN5.out.own L x hL hx).lt j hj).2;have:=hgx.out;omega⟩
 have hwx:Hid (w.heap.size<gx):=by show w.heap.size<gx;have:=hgx.out;omega
 have zw7:w.heap.size<=w7.heap.size:=HB7.out.size;have zx7:gx<w7.heap.size:=X7.out.lt;clear hc hb hfr B46 X6 HB6 HL6 HC6 HN6 HN5 hW6 z6 z45 hgx C6;obtain⟨A,hA⟩:∃A,Hid (A=aT k t):=⟨_,rfl⟩;go_wp2
 go_loopw [48] (fun s wr=>∃(q:Nat) (css:List (List Value)) (v:Value),q<=(nT t).length/\s=.int .i64 q/\Hid (css.length=q)/\Hid (∀gg,v.ownBlock=some gg->w7.heap.size<=gg)/\Hid (du gx wr v (fun j=>A.getD j cy) css)/\Hid (aa wr gx [.int .i64 k,.int .i64 (n:Int),.slice (some ⟨g2,0,none⟩) 256 256,v] 27)/\Hid (aa wr w.heap.size [.int .i64 0,.int .i64 0,.slice none 0 0,.slice none 0 0] 27)/\Hid (Ex gx w7 wr)/\Hid (Below w.heap.size w wr)) (fun s _=>(nT t).length-(intOf s).toNat)
 case atStart=>exact⟨0,[],.slice none 0 0,Nat.zero_le _,rfl,rfl,(fun gg h=>by cases h),du.nil _ _ _,X7,B47,Ex.refl _ _,HB7⟩
 case round=>
  obtain⟨q,css,v,hq,rfl,hl,hv0,hR,h6,h4,hEx,hb⟩:=hrel;clear X7 B47 HB7;by_cases hi:q<(nT t).length
  .have hi2:(q:Int)<((nT t).length:Int):=by omega
   have hq10:q<=10240:=by have:=HFew.out;omega
   have hqw:IntKind.i64.wrap ((q:Int)+1)=((q+1:Nat):Int):=by rw[IntKind.wrap_i64];omega
   obtain⟨⟨L,x⟩,hnode⟩:∃p,(nT t)[q]?=some p:=⟨_,List.getElem?_eq_getElem hi⟩;obtain⟨hL64,hx64⟩:=tC (k:=k) HN3.out hnode
   have HAq:Hid (A.getD q cy=kB k ((rwT t (L,x)).length:Int) (frL (rwT t (L,x)))):=by rw[hA.out];exact j4 hnode
   obtain⟨bb,rfl,hbl,hcc⟩:=HS7.out (by omega);obtain⟨e1,e2⟩:=hcc q _ hnode;dsimp only at e1 e2;have hbb:bb≠gx:=by have:=HFR.out _ rfl;simp at this;omega
   have c1:=(hEx.out.cell (p:=⟨bb,q*2,none⟩) hbl hbb).trans e1;have c2:=(hEx.out.cell (p:=⟨bb,q*2+1,none⟩) hbl hbb).trans e2;have hbr:bb<wr.heap.size:=Nat.lt_of_lt_of_le hbl hEx.out.size
   have HM:=ac (HN7.out.map.of (hEx.out.block gm HN7.out.map.lt HMg.out.1))
   have HO:=ac (Ag.owns_of (HN7.out.own L x hL64 hx64) fun j hj=>hEx.out.block j ((HN7.out.own L x hL64 hx64).lt j hj).2 (HMg.out.2 L x hL64 hx64 j hj));obtain⟨ra,rc,hsl,_,_⟩:=Ap.owns_shape HO.out
   have HLK:Hid (∀w0,CM w0 gm m M->(Instr.lookup 78 (.map (some gm)) (.agg #[.int .i64 (L:Nat),.int .u64 (x:Nat)]) false).run prog w0=.ok (.slice ra (rwT t (L,x)).length rc) w0):=fun w0 h0=>by
    have:=h0.look underlying78 (rX w0) (L:=L) (x:=x) hL64 hx64;rw[hsl]at this;exact this
   rw[hsl]at HO;have HBl:=ac (Jj HO.out rfl);have C7q:=ac (fun w0=>C7.out w0 L x ra rc);have C8q:=ac (fun w0=>C8.out w0 L x)
   obtain⟨W2,hW2⟩:∃W2,W2=wr.alloc (.cells #[.int .i64 (L:Nat),.int .u64 (x:Nat)] 83):=⟨_,rfl⟩;have b2:Below wr.heap.size wr W2:=by rw[hW2];exact below_alloc wr _
   have HM2:=ac (HM.out.kept b2);have HBl2:=ac (HBl.out.keep b2);have hR2:=ac (hR.out.keep b2);have h62:=ac (h6.out.kept b2);have h42:=ac (h4.out.kept b2);have hEx2:=ac (hEx.out.below b2)
   have hb2:=ac (bg hb.out b2)
   have HLK2:Hid ((Instr.lookup 78 (.map (some gm)) (.agg #[.int .i64 (L:Nat),.int .u64 (x:Nat)]) false).run prog (wr.alloc (.cells #[.int .i64 (L:Nat),.int .u64 (x:Nat)] 83))=.ok (.slice ra (rwT t (L,x)).length rc) (wr.alloc (.cells #[.int .i64 (L:Nat),.int .u64 (x:Nat)] 83))):=HLK.out _ (by rw[<-hW2];exact HM2.out)
   obtain⟨rl,hrl⟩:∃rl,Hid (rl=(rwT t (L,x)).length):=⟨_,rfl⟩;obtain⟨xs,hxs⟩:∃xs,Hid (xs=frL (rwT t (L,x))):=⟨_,rfl⟩;rw[<-hrl.out]at HLK2 C7q C8q HAq;rw[<-hxs.out]at C7q C8q HAq
   clear b2 HM HBl hR h6 h4 hEx hb HO HLK hsl e1 e2 hcc hi HM2;go_wp2_with (refine lG rfl _ _ rfl _ _ _ rfl rfl HLK2.out ?_);rw[<-hW2];refine(C7q.out _ HBl2.out).mono ?_;rintro e w3 ⟨so,dap,rfl,x1,x2,hb⟩
   have hR3:=ac (hR2.out.keep hb);have h63:=ac (h62.out.kept hb);have h43:=ac (h42.out.kept hb);have hEx3:=ac (hEx2.out.below hb);have hb3:=ac (bg hb2.out hb);have HX3:=ac x1
   clear hb x1 hR2 h62 h42 hEx2 hb2 HBl2 hW2 HLK2 C7q c1 c2;obtain⟨W4,hW4⟩:∃W4,W4=w3.alloc (.cells #[.int .i64 (rl:Nat),.slice so xs.length dap] 33):=⟨_,rfl⟩
   have hb:Below w3.heap.size w3 W4:=by rw[hW4];exact below_alloc w3 _
   have B4:=ac (show aa W4 w3.heap.size [.int .i64 (rl:Nat),.slice so xs.length dap] 33 by rw[hW4];exact aa.new w3 _ _);have hR4:=ac (hR3.out.keep hb);have h64:=ac (h63.out.kept hb)
   have h44:=ac (h43.out.kept hb);have hEx4:=ac (hEx3.out.below hb);have hb4:=ac (bg hb3.out hb);have HX4:=ac (HX3.out.keep hb);clear hb hR3 h63 h43 hEx3 hb3 HX3;go_wp2_with fail;rw[<-hW4]
   refine(C8q.out _ so dap hb4.out HX4.out x2).mono ?_;rintro e w5 ⟨cs,rfl,hki,hb,nf⟩
   have lL:Hid ((∀gg,v.ownBlock=some gg->NE gg cs)/\∀g0,g0<=gx->NE g0 cs):=by
    refine⟨fun gg hg=>?_,fun g0 hg0=>nf.ne (by have:=h64.out.lt;omega)⟩;refine nf.ne ?_;rcases hR4.out.lo with⟨rfl,_⟩ | ⟨g',cp,rfl,_,ce⟩
    .cases hg
    .injection hg with e
     have:=ce.lt;rw[<-e];exact this
   have hR5:=ac (hR4.out.keep hb);have h65:=ac (h64.out.kept hb);have h45:=ac (h44.out.kept hb);have hEx5:=ac (hEx4.out.below hb);have hb5:=ac (bg hb4.out hb)
   have HL:=ac hki.arg.len;have H1:=ac hki.arg.one;have H22:=ac (u6.trans hki.arg.nine);have l4:w.heap.size<w5.heap.size:=h45.out.lt;have l6:gx<w5.heap.size:=h65.out.lt;have HK5:=ac hki
   clear hb nf hki hR4 h64 h44 hEx4 hb4 HX4 C8q hW4 B4;go_wp2_with (refine li mA ?_);intro w6 c13 b6 s6;try simp only[Act.put,ae,List.set]
   have HB6:=ac b6;clear b6;go_wp2_with (refine aP w5.heap.size zv cs rfl rfl c13 H22.out HL.out H1.out ?_);intro w7' c13' o7;try simp only[Act.put,ae,List.set]
   have hb:Below w5.heap.size w5 w7':=HB6.out.trans (o7.below (Nat.le_refl _));have hR7:=ac (hR5.out.keep hb);have h67:=ac (h65.out.kept hb);have h47:=ac (h45.out.kept hb);have hEx7:=ac (hEx5.out.below hb)
   have hb7:=ac (bg hb5.out hb);have HK7:=ac (HK5.out.keep hb);have l7:w5.heap.size<=w7'.heap.size:=hb.size;clear hb o7 HB6 s6 c13 hR5 h65 h45 hEx5 hb5 HK5;generalize w5.heap.size=g13 at *
   have x2':=h67.out.cell 3 rfl;have fz:=h67.out.frozen 3;have ncs:cs.length=22:=HK7.out.arg.nine.symm
   have H11:Hid (∀u∈cs,u.oneCell'=true):=fun u hu=>by
    have:=H1.out;rw[List.all_toArray,List.all_eq_true]at this;exact this u hu
   have hb:=below_alloc w7' (.cells cs.toArray 44);have cA:=aa.new w7' cs 44;have hRA:=ac (hR7.out.keep hb);have h6A:=ac (h67.out.kept hb);have h4A:=ac (h47.out.kept hb);have hExA:=ac (hEx7.out.below hb)
   have hbA:=ac (bg hb7.out hb);have HKA:=ac (HK7.out.keep hb);have HNc:=ac ncs;have lA:gx<(w7'.alloc (.cells cs.toArray 44)).heap.size:=h6A.out.lt
   have l67:gx<w7'.heap.size:=h67.out.lt;clear hb ncs hR7 h67 h47 hEx7 hb7 HK7
   go_wp2_with (first | refine iJ g13 cs rfl c13' underlying44 HL.out ?_ | refine I_ cs HNc.out rfl ?_ | (at_builtin;refine xY rfl _ _ rfl v css rfl hRA.out.lo hRA.out.l22 cs HNc.out ⟨w7'.heap.size,0,none⟩ 1 rfl ?n1 H11.out (by have:=hl.out;have:=HFew.out;omega) ?_))
   case n1=>
    intro j u hj;have:=cA.cell j hj;rw[<-this];unfold Addr.add;split
    .subst_vars;rfl
    .simp
   intro v' w8 hLO hTn hv
   have hv2:∀gg,v'.ownBlock=some gg->v.ownBlock=some gg\/gg=(w7'.alloc (.cells cs.toArray 44)).heap.size:=fun gg hg=>by
    rw[show(w7'.alloc (.cells cs.toArray 44)).heap.size=w7'.heap.size+1 by simp];exact hv gg hg
   clear hv
   obtain⟨g',cp',ev⟩:∃g' cp',v'=.slice (some ⟨g',0,none⟩) (q+1) cp':=by
    rcases hLO with⟨_,e⟩ | ⟨g',cp',e1,_,_⟩
    .simp at e
    .refine⟨g',cp',?_⟩;rw[e1,List.length_append,hl.out];rfl
   subst ev;have hb8:Below w.heap.size w w8:=hbA.out.trans (hTn.below (fun gg hg=>by have:=hv0.out gg hg;omega) hbA.out.size)
   have hR8:=hRA.out.push (by show KI _ cs (A.getD css.length cy);rw[hl.out,HAq.out];exact HKA.out) lL.out hLO hTn hv2 (HG.out.keep hb8);have h68:=hTn.cel h6A.out (by decide);have h48:=hTn.cel h4A.out (by decide)
   have hEx8:=hExA.out.tn hTn hv0.out
   have HV8:Hid (∀gg,(Value.slice (some ⟨g',0,none⟩) (q+1) cp').ownBlock=some gg->w7.heap.size<=gg):=fun gg hg=>by
    rcases hv2 gg hg with e | rfl
    .exact hv0.out gg e
    .exact hExA.out.size
   have nv:bT [.int .i64 k,.int .i64 (n:Int),.slice (some ⟨g2,0,none⟩) 256 256,v]:=fun u hu nn ee=>by
    subst ee;rcases hRA.out.lo with⟨rfl,_⟩ | ⟨g',cp,rfl,_,_⟩<;>simp at hu
   have z3:=h68.cell 3 rfl;have fz3:=h68.frozen 3;have lx8:=h68.lt;have o9:aw gx w8 (w8.setCell ⟨gx,3,none⟩ (.slice (some ⟨g',0,none⟩) (q+1) cp')):=(aw.refl _ _).set 3 _
   have hb9:=hb8.trans (o9.below (base:=w.heap.size) (Nat.le_of_lt hwx.out));have F1:=ac (hR8.only (Nat.le_refl _) h68 (by decide) nv o9 (HG.out.keep hb9))
   have F2:=ac (h68.set 3 (.slice (some ⟨g',0,none⟩) (q+1) cp'));have F3:=ac (o9.cel h48 (by have:=hwx.out;omega));have F4:=ac (hEx8.only o9);have F5:=ac hb9
   have l8:Hid ((css++[cs]).length=q+1):=by show _=_;rw[List.length_append,hl.out];rfl
   clear hR8 h68 h48 hb8 nv o9 hLO hTn hv2 hRA h6A h4A hExA hbA HKA x2' fz hEx8 hb9 cA;go_wp2
   exact⟨⟨q+1,css++[cs],.slice (some ⟨g',0,none⟩) (q+1) cp',by omega,by first | rfl | go_num,l8,HV8,F1,F2,F3,F4,F5⟩,by simp only[intOf];omega⟩
  .obtain rfl:q=(nT t).length:=by omega
   have hlA:Hid (css.length=A.length):=by show _=_;rw[hl.out,hA.out,aT_len]
   obtain⟨lo,lc,rfl,hlv⟩:=hR.out.lv hlA.out;have x0:=h6.out.cell 0 rfl;have x1:=h6.out.cell 1 rfl;have x2:=h6.out.cell 2 rfl;have x3:=h6.out.cell 3 rfl;have l6:=h6.out.lt;have l4:=h4.out.lt
   obtain⟨al,hal⟩:∃al,Hid (al=A.length):=⟨_,rfl⟩;rw[<-hal.out]at h6 x3 hR;clear hlv
   go_wp2_with (refine aP w.heap.size [.int .i64 0,.int .i64 0,.slice none 0 0,.slice none 0 0] [.int .i64 k,.int .i64 (n:Int),.slice (some ⟨g2,0,none⟩) 256 256,.slice lo al lc] rfl rfl h4.out rfl vG (by simp[Value.oneCell']) ?_)
   intro w8 c8 o8;try simp only[Act.put,ae,List.set]
   have hb8:=hb.out.trans (o8.below (base:=w.heap.size) (Nat.le_refl _));have G8:=HG.out.keep hb8
   have HS:Hid (SX w8 [.int .i64 k,.int .i64 (n:Int),.slice (some ⟨g2,0,none⟩) 256 256,.slice lo al lc] k t):=by
    obtain⟨lo2,lc2,e2,hl2⟩:=(hR.out.only (Nat.le_of_lt hwx.out) h4.out (by decide) (fun u hu nn ee=>by subst ee;simp at hu) o8 G8).lv hlA.out;injection e2 with e2 e3 e4
    subst e2;refine⟨⟨_,_,lo,lc,by rw[hal.out,hA.out,<-hnn.out],?_,by rw[<-hA.out];exact hl2⟩,hk,HN3.out,HBy.out,G8⟩;refine o8.nd2 (hEx.out.nd HL7.out (by omega)) fun _ a ha=>?_;cases ha;show g2≠w.heap.size
    omega
   have HC:=ac c8;have HB8:=ac hb8;clear c8 o8 hb8 G8 x0 x1 x2 x3 hR h6 h4 hEx hb;go_wp2
   (try simp only[Exit.inBlock,Exit.then]);exact bodyPost_ret (bJ rfl w.heap.size _ rfl HC.out underlying27 vG) rfl ⟨_,rfl,HS.out,HB8.out⟩
theorem xX{ops:Array Oper}{rest:List Oper}{o:Oper}{a:Act}{w:World}{Q:Exit->Act->World->Prop}{t e:TypeId}(hg:o.guard=none)(m x u:Operand)(hop:o.op=Op.insert t m x u)
  (b n:Nat) (M:Nat->Nat->Option Value) (L X:Nat) (v:Value) (ht:prog.underlying t=some (.map 83 e)) (hm:a.eval m=.map (some b)) (hx:a.eval x=cv L X) (hu:a.eval u=v) (h:CM w b n M) (hn:n<maxLen) (hL:L<=64) (hX:X<18446744073709551616)
  (hK:∀w',CM w' b (n+1) (cup M L X v)->aw b w w'->wpList prog ops Q rest (a.put o.dst undef) w'):wpList prog ops Q (o::rest) a w:=by
 refine wpList_plain hg fun K' hK'=>?_;obtain⟨w',hrun,r1,r2⟩:=h.store ht hn hL hX v;unfold Oper.wp;simp[execOp,hop,hm,hx,hu,hrun,Result.andThen];exact hK' _ _ (hK w' r1 r2)
theorem sS{ops:Array Oper}{d:Option Tmp}{ty t e:TypeId}{ps:String}{af:Array Edge}{a:Act}{w:World}{K:Act->World->Prop}{Q:Exit->Act->World->Prop}{E:Prop}{m x u:Operand}
  (b n:Nat) (M:Nat->Nat->Option Value) (L X:Nat) (v:Value) (ht:prog.underlying t=some (.map 83 e)) (hm:a.eval m=.map (some b)) (hx:a.eval x=cv L X) (hu:a.eval u=v) (h:CM w b n M) (hn:n<maxLen) (hL:L<=64) (hX:X<18446744073709551616)
  (hK:∀w',CM w' b (n+1) (cup M L X v)->aw b w w'->K (a.put d undef) w'):
  if Region.wanted (⟨d,.mapUpdate t m x u,ty,ps,af,none⟩:Oper) (yielded ops a.tmps)=true then Oper.wp prog (⟨d,.mapUpdate t m x u,ty,ps,af,none⟩:Oper) a w K Q else E:=by
 rw[if_pos (by simp[Region.wanted])];obtain⟨w',hrun,r1,r2⟩:=h.store ht hn hL hX v;unfold Oper.wp;simp only[execOp,hm,hx,hu,hrun,Sem.run_bind,Result.andThen_ok,Sem.run_pure];exact hK w' r1 r2
theorem rW(w:World):(zeroValue 24).run prog w=.ok (.slice none 0 0) w:=by kernel_rfl
theorem uy{w:World}{base n:Nat}{v:Value}{l:List Nat}(h:w.ownsRow base 3 1 v n (aX l))(hn:n=l.length):∃ao cap,v=.slice ao l.length cap/\Nd w ao (aV l)/\Fr base ao:=by
 obtain⟨_,⟨e,h0⟩ | ⟨g,cap,cur,e,hg,hh,_,_,hs,ht⟩⟩:=h
 .subst hn
  have h0':l.length=0:=by
   cases l with
   | nil=>rfl
   | cons a b=>simp[aX]at h0
  exact⟨none,0,by rw[e,h0'],fun q=>absurd q (by rw[kD,h0'];decide),bE _⟩
 .subst hn;refine⟨_,cap,e,fun _=>⟨g,0,rfl,(Array.getElem?_eq_some_iff.1 hh).1,fun i hi=>?_⟩,fun a ha=>?_⟩
  .rw[kD]at hi
   have e5:cur.toList[i]?=some (.int .i64 (gi (aV l) i)):=by
    have:(aX l)[i]?=some (.int .i64 (gi (aV l) i)):=by
     rw[qJ l i hi];unfold aX gt;rw[List.getElem?_map,List.getD_eq_getElem?_getD,List.getElem?_eq_getElem hi];rfl
    rw[<-ht,List.getElem?_take_of_lt (by omega)]at this;exact this
   rw[Nat.zero_add];unfold World.cell?;rw[show w.heap[({ block:=g,off:=i,spot:=none }:Addr).block]?=_ from hh];simpa using e5
  .cases ha;exact hg
structure PL (t:List Nat) (q gp c:Nat) (M:Nat->Nat->Option Value) (w:World):Prop where
 map:CM w gp c M
 val:∀L x,L<=64->x<18446744073709551616->mq t q L x->∃ao cap,M L x=some (.slice ao (bH t L x).length cap)/\Nd w ao (aV (bH t L x))/\Fr (gp+1) ao
theorem PL.keep{t:List Nat}{q gp c:Nat}{M:Nat->Nat->Option Value}{w w':World}(h:PL t q gp c M w)(hb:Below w.heap.size w w'):PL t q gp c M w':=
 ⟨h.map.kept hb,fun L x hL hx hk=>by
  obtain⟨ao,cap,e,h1,h2⟩:=h.val L x hL hx hk
  exact⟨ao,cap,e,h1.keep hb,h2⟩⟩
theorem PL.step{t:List Nat}{q gp c c2:Nat}{M:Nat->Nat->Option Value}{w w2:World}(h:PL t q gp c M w)(hn:t.length<=3000){L x:Nat}(hnode:(nT t)[q]?=some (L,x)){oo on:Option Addr}{co cn:Nat}
  (h1:Nd w oo (aV (bH t (L+1) (2*x)))) (f1:Fr (gp+1) oo) (h2:Nd w on (aV (bH t (L+1) (2*x+1)))) (f2:Fr (gp+1) on) (hO:aw gp w w2)
  (hm:CM w2 gp c2 (cup (cup M (L+1) (2*x) (.slice oo (bH t (L+1) (2*x)).length co)) (L+1) (2*x+1) (.slice on (bH t (L+1) (2*x+1)).length cn))):
  PL t (q+1) gp c2 (cup (cup M (L+1) (2*x) (.slice oo (bH t (L+1) (2*x)).length co)) (L+1) (2*x+1) (.slice on (bH t (L+1) (2*x+1)).length cn)) w2:=by
 refine⟨hm,fun L' x' hL hx hk=>?_⟩;by_cases e1:L'=L+1/\x'=2*x+1
 .obtain⟨rfl,rfl⟩:=e1;exact⟨on,cn,fj _ _ _ _,hO.nd h2 f2 (Nat.lt_succ_self _),f2⟩
 .rw[cup_other _ _ e1];by_cases e2:L'=L+1/\x'=2*x
  .obtain⟨rfl,rfl⟩:=e2;exact⟨oo,co,fj _ _ _ _,hO.nd h1 f1 (Nat.lt_succ_self _),f1⟩
  .rw[cup_other _ _ e2];rcases knw_succ hn hnode hk with hk | ⟨a,b | b⟩
   .obtain⟨ao,cap,e,g1,g2⟩:=h.val L' x' hL hx hk;exact⟨ao,cap,e,hO.nd g1 g2 (Nat.lt_succ_self _),g2⟩
   .exact absurd ⟨a,b⟩ e2
   .exact absurd ⟨a,b⟩ e1
theorem OT.node{w:World}{k:Int}{t:List Nat}{n:Int}{cv bv:Value}{gn:Nat}(h:OT w k t n cv bv gn)(hn:t.length<=3000){q L x:Nat}(hq:(nT t)[q]?=some (L,x)):∃b o rs o1 o2,
  (Instr.lookup 92 (.map (some gn)) (.agg #[.int .i64 L,.int .u64 x]) false).run prog w=.ok (.agg #[.pointer (some ⟨b,o,none⟩),.int .i64 o1,.int .i64 o2]) w/\
  b<w.heap.size/\w.rangeAt b o rs/\KI w rs (kB k ((rwT t (L,x)).length:Int) (frL (rwT t (L,x)))):=by
 have hm:=List.mem_of_getElem? hq;have hj:=Sh.ixo_lt hm;obtain⟨s1,s2⟩:=tC (k:=k) hn hq;obtain⟨gc,bo,bc,c',b,off,e1,e2,a1,a2,a3,a4⟩:=h;obtain⟨hb,hr⟩:=a4 (by omega);obtain⟨rs,r1,r2⟩:=hr _ hj
 rw[j4 (Sh.get_ixo hm)]at r2;refine⟨b,_,rs,bF (aT k t) (Sh.ixo (L,x) (nT t))-bM (aT k t) (Sh.ixo (L,x) (nT t)),bM (aT k t) (Sh.ixo (L,x) (nT t)),?_,hb,r1,r2⟩
 have:=a3.look underlying92 (lF w) (L:=L) (x:=x) s1 s2;unfold bz at this;rw[if_pos hj]at this;exact this
theorem OT.cs{w:World}{k:Int}{t:List Nat}{n:Int}{cv:Value}{bo:Option Addr}{m bc gn:Nat}(h:OT w k t n cv (.slice bo m bc) gn):Cs w bo (nT t):=by
 obtain⟨gc,bo',bc',c',b,off,e1,e2,a1,a2,a3,a4⟩:=h;injection e2 with e2 e3 e4
 subst e2;exact a2
theorem PL.root{t:List Nat}(hn:t.length<=3000){gp ga c:Nat}{w:World}(hc:aa w ga (aX (List.range t.length)) 3)(hg:gp<ga){M:Nat->Nat->Option Value}(hm:CM w gp c M)(e:M 0 0=some (.slice (some ⟨ga,0,none⟩) t.length t.length)):PL t 0 gp c M w:=by
 refine⟨hm,fun L x _ _ hk=>?_⟩;rcases hk with⟨rfl,rfl⟩ | ⟨_,h⟩
 .rw[BX hn,List.length_range];exact⟨_,_,e,l_ hc,fun a ha=>by cases ha;exact hg⟩
 .omega
def dx(t:List Nat)(c q:Nat):List Nat:=(List.range t.length).map fun j=>if gt t j<c\/(gt t j=c/\Sh.cp (fun d=>decide (d=c)) t j<q)then gt t j else 0
def dC(l:List Nat):List Value:=l.map fun n:Nat=>Value.int .u8 (n:Int)
theorem jm(t:List Nat)(c q:Nat):(dx t c q).length=t.length:=by simp[dx]
theorem kS(t:List Nat)(c q j:Nat)(h:j<t.length):(dx t c q)[j]?=some (if gt t j<c\/(gt t j=c/\Sh.cp (fun d=>decide (d=c)) t j<q)then gt t j else 0):=by
 unfold dx;rw[List.getElem?_map,List.getElem?_range h];rfl
theorem mU{t a b:List Nat}(ha:a.length=t.length)(hb:b.length=t.length)(h:∀j,j<t.length->a[j]?=b[j]?):a=b:=by
 refine List.ext_getElem? fun j=>?_;by_cases hj:j<t.length
 .exact h j hj
 .rw[List.getElem?_eq_none (by omega),List.getElem?_eq_none (by omega)]
theorem ym(t:List Nat):dx t 0 0=List.replicate t.length 0:=mU (t:=t) (jm _ _ _) (by simp) fun j hj=>by
 rw[kS t 0 0 j hj,if_neg (by omega),List.getElem?_replicate,if_pos hj]
theorem sC(t:List Nat)(c:Nat):dx t c (Sh.mem (fun d=>decide (d=c)) t t.length).length=dx t (c+1) 0:=mU (jm _ _ _) (jm _ _ _) fun j hj=>by
 rw[kS _ _ _ j hj,kS _ _ _ j hj,Sh.length_mem];congr 1;by_cases h1:gt t j<c
 .rw[if_pos (.inl h1),if_pos (.inl (by omega))]
 .by_cases h2:gt t j=c
  .have h3:Sh.cp (fun d=>decide (d=c)) t j<Sh.cp (fun d=>decide (d=c)) t t.length:=by
    have:=Sh.cp_mono (fun d=>decide (d=c)) t (j+1) (t.length-(j+1));rw[show j+1+(t.length-(j+1))=t.length by omega,Sh.cp,decide_eq_true h2]at this;simp at this;omega
   rw[if_pos (.inr ⟨h2,h3⟩),if_pos (.inl (by omega))]
  .rw[if_neg (by omega),if_neg (by omega)]
theorem yo(t:List Nat)(c q p:Nat)(h:(Sh.mem (fun d=>decide (d=c)) t t.length)[q]?=some p):p<t.length/\(dx t c q).set p c=dx t c (q+1):=by
 have hm:p∈Sh.mem (fun d=>decide (d=c)) t t.length:=List.mem_of_getElem? h;unfold Sh.mem at hm;obtain⟨h1,h2⟩:=List.mem_filter.1 hm;have hp:p<t.length:=List.mem_range.1 h1
 have hc:gt t p=c:=of_decide_eq_true h2
 have hq:Sh.cp (fun d=>decide (d=c)) t p=q:=by
  have e:=Sh.mem_at (fun d=>decide (d=c)) t p t.length hp h2;have l1:=(List.getElem?_eq_some_iff.1 e).1;have l2:=(List.getElem?_eq_some_iff.1 h).1
  have nd:(Sh.mem (fun d=>decide (d=c)) t t.length).Nodup:=List.Pairwise.filter _ List.nodup_range;exact(List.getElem?_inj l1 nd).1 (e.trans h.symm)
 refine⟨hp,mU (by rw[List.length_set,jm]) (jm _ _ _) fun j hj=>?_⟩;rw[List.getElem?_set,jm,kS _ _ _ j hj,kS _ _ _ j hj];by_cases e:p=j
 .subst e;rw[if_pos rfl,if_pos hp,if_pos (.inr ⟨hc,by omega⟩),hc]
 .rw[if_neg e];congr 1;by_cases h3:gt t j<c
  .rw[if_pos (.inl h3),if_pos (.inl h3)]
  .by_cases h4:gt t j=c
   .by_cases h5:Sh.cp (fun d=>decide (d=c)) t j<q
    .rw[if_pos (.inr ⟨h4,h5⟩),if_pos (.inr ⟨h4,by omega⟩)]
    .have h6:Sh.cp (fun d=>decide (d=c)) t j≠q:=fun h6=>by
      have e2:=Sh.mem_at (fun d=>decide (d=c)) t j t.length hj (decide_eq_true h4);rw[h6,h]at e2;simp at e2;exact e e2
     rw[if_neg (by omega),if_neg (by omega)]
   .rw[if_neg (by omega),if_neg (by omega)]
theorem yp{t:List Nat}(hn:t.length<=3000){c:Nat}(hc:c<256)(h:vT t c=0):dx t c 0=dx t (c+1) 0:=by
 have h0:(Sh.mem (fun d=>decide (d=c)) t t.length).length=0:=by rw[Sh.length_mem];exact mF hn hc h
 have:=sC t c;rw[h0]at this;exact this
theorem yq{t:List Nat}(hB:cM t):dx t 256 0=t:=mU (jm _ _ _) rfl fun j hj=>by
 rw[kS _ _ _ j hj,if_pos (.inl (hB j))];unfold gt;rw[List.getD_eq_getElem?_getD,List.getElem?_eq_getElem hj];rfl
theorem I4(l:List Nat)(i v:Nat):(dC l).set i (.int .u8 v)=dC (l.set i v):=by simp[dC,List.map_set]
theorem JJ{w:World}{g:Nat}{t:List Nat}(h:aa w g (dC t) 5):Bd w (some ⟨g,0,none⟩) t:=fun _=>⟨g,0,rfl,h.lt,fun i hi=>by
 rw[Nat.zero_add];refine h.cell i ?_;unfold dC gt;rw[List.getElem?_map,List.getD_eq_getElem?_getD,List.getElem?_eq_getElem hi]
 rfl⟩
theorem I5(l:List Nat)(i:Nat)(h:i<l.length):(dC l)[i]?=some (.int .u8 (l.getD i 0:Nat)):=by
 unfold dC;rw[List.getElem?_map,List.getD_eq_getElem?_getD,List.getElem?_eq_getElem h];rfl
theorem IJ{w:World}{base g n:Nat}(h:w.ownsRow base 5 1 (.slice (some ⟨g,0,none⟩) n n) n (madeCells #[.int .u8 0] n).toList):aa w g (dC (List.replicate n 0)) 5:=by
 obtain⟨_,h | ⟨g',cap,cur,e,_,hh,_,_,hs,ht⟩⟩:=h
 .simp at h
 .simp only[Value.slice.injEq,Option.some.injEq,Addr.mk.injEq]at e;obtain⟨⟨rfl,_,_⟩,_,rfl⟩:=e;unfold aa;rw[hh]
  have e2:(madeCells #[.int .u8 0] n).toList=dC (List.replicate n 0):=by
   rw[toList_madeCells_one (.int .u8 0) n,dC,List.map_replicate];rfl
  rw[e2]at ht;have e3:cur.toList.take (n*1)=cur.toList:=List.take_of_length_le (by simp;omega);rw[e3]at ht;rw[<-ht]
theorem Fs:(prog.info? 5).map (fun i=>(i.zero,i.size,i.bytes))=some (some (.int .u8 0),1,1):=by kernel_rfl
theorem Dq{w:World}{ao:Option Addr}{l:List Int}{g:Nat}{b:List Nat}(h:Nd w ao l)(hc:aa w g (dC b) 5)(h0:0<l.length):∀a,ao=some a->a.block≠g:=fun a ha e=>by
 obtain⟨k,off,e1,_,hcc⟩:=h h0;rw[e1]at ha;cases ha;have h1:=hcc 0 h0;dsimp only at e;subst e;rw[Nat.add_zero]at h1;unfold World.cell? at h1
 rw[show w.heap[({ block:=k,off:=off,spot:=none }:Addr).block]?=_ from hc]at h1;simp only[List.getElem?_toArray]at h1;unfold dC at h1;rw[List.getElem?_map]at h1;cases h2:b[off]? with
 | none=>rw[h2]at h1;simp at h1
 | some y=>rw[h2]at h1;simp at h1
theorem uA{w w':World}{ao:Option Addr}{l:List Int}{g:Nat}{b:List Nat}(h:Nd w ao l)(hc:aa w g (dC b) 5)(hO:aw g w w'):Nd w' ao l:=hO.nd2 h fun h0=>Dq h hc h0
theorem PL.byt{t:List Nat}{q gp c g:Nat}{M:Nat->Nat->Option Value}{w w':World}{b:List Nat}(h:PL t q gp c M w)(hc:aa w g (dC b) 5)(hg:gp≠g)(hO:aw g w w'):PL t q gp c M w':=
 ⟨h.map.only hO hg,fun L x hL hx hk=>by
  obtain⟨ao,cap,e,h1,h2⟩:=h.val L x hL hx hk
  exact⟨ao,cap,e,uA h1 hc hO,h2⟩⟩
theorem yL(cs:List Value)(k:Int)(t:List Nat)(w:World)(h:SX w cs k t):
  Calls prog 26 #[.agg cs.toArray] w fun e w'=>∃ao cap,e=.returned (.slice ao t.length cap)/\Bd w' ao t/\Below w.heap.size w w':=by
 have hmm:=@run_makeMap prog;have HSX:=ac h;have hkn:=h.kn;have hle:=h.le;have HBy:=ac h.by_;obtain⟨⟨lo,lc,no,nc,rfl,_,_⟩,_,_,_,_⟩:=h;have hL:=ac (dn t (by omega))
 obtain⟨W,hW⟩:∃W,W=w.alloc (.cells #[.int .i64 k,.int .i64 (t.length:Int),.slice lo 256 lc,.slice no (aT k t).length nc] 27):=⟨_,rfl⟩;have bW:=aM hW
 have B1:=ac (show aa W w.heap.size [.int .i64 k,.int .i64 (t.length:Int),.slice lo 256 lc,.slice no (aT k t).length nc] 27 by rw[hW];exact aa.new w _ _);have HB:=ac bW
 have C0:=ac (mY _ k t W (HSX.out.keep bW));clear bW HSX;go_enter func26,ntmps26;go_wp2_with fail;rw[<-hW];refine C0.out.mono ?_;rintro e w1 ⟨cv,bv,gn,rfl,hot,hb⟩;have B11:=ac (B1.out.kept hb)
 have HB1:=ac (bg HB.out hb);have HO1:=ac hot;have hone:=hot.one;have z1:=B11.out.lt;clear hW hb C0 B1 HB hot;have c1:=B11.out.cell 1 rfl
 obtain⟨gc,bo,bc,c',b,off,rfl,rfl,a1,_⟩:=HO1.out.ex;clear hone;have HGc:=ac a1;have HCS:=ac HO1.out.cs
 obtain⟨W2,hW2⟩:∃W2,W2=(w1.alloc (.cells #[.int .i64 (t.length:Int),.slice (some ⟨gc,0,none⟩) 256 256,.slice bo (nT t).length bc,.map (some gn)] 94)).alloc (.map #[] 0):=⟨_,rfl⟩
 have b2:Below w1.heap.size w1 W2:=by rw[hW2];exact(below_alloc w1 _).alloc (by simp) _
 have K1:=ac (show aa W2 w1.heap.size [.int .i64 (t.length:Int),.slice (some ⟨gc,0,none⟩) 256 256,.slice bo (nT t).length bc,.map (some gn)] 94 by rw[hW2];exact(aa.new w1 _ _).alloc _)
 have HM2:Hid (CM W2 (w1.heap.size+1) 0 fun _ _=>none):=by
  rw[hW2];have:=CM.made (w1.alloc (.cells #[.int .i64 (t.length:Int),.slice (some ⟨gc,0,none⟩) 256 256,.slice bo (nT t).length bc,.map (some gn)] 94))
  rw[show(w1.alloc (.cells #[.int .i64 (t.length:Int),.slice (some ⟨gc,0,none⟩) 256 256,.slice bo (nT t).length bc,.map (some gn)] 94)).heap.size=w1.heap.size+1 by simp]at this;exact this
 have z2:W2.heap.size=w1.heap.size+2:=by rw[hW2];simp
 have x1:=(B11.out.kept b2).cell 1 rfl;rw[hW2]at x1;have HB2:=ac b2;have HFew:=ac (ks hle);clear b2 a1 c1;go_wp2_with fail;rw[<-hW2];refine(yY t.length W2 (by omega)).mono ?_
 rintro e w3 ⟨ga,rfl,hca,hga,hb⟩;obtain⟨gp,hgp⟩:∃gp,Hid (gp=w1.heap.size+1):=⟨_,rfl⟩;rw[<-hgp.out]at HM2;have HM3:=ac (HM2.out.kept hb);have K3:=ac (K1.out.kept hb)
 have HB3:=ac (bg HB2.out hb);have HA3:=ac hca;have hgag:gp<ga:=by have:=hgp.out;omega
 clear hb hca K1 HM2 HB2 x1 hW2 hga;rw[<-hgp.out]
 go_wp2_with (refine xX rfl _ _ _ rfl gp 0 (fun _ _=>none) 0 0 (.slice (some ⟨ga,0,none⟩) t.length t.length) underlying125 rfl rfl rfl HM3.out (by unfold maxLen;omega) (by omega) (by omega) ?_)
 intro w4 hm4 hO4;try simp only[Act.put,ae,List.set]
 have HP4:=ac (PL.root hle (hO4.cel HA3.out (by omega)) hgag hm4 (fj _ _ _ _));have K4:=ac (hO4.cel K3.out (by have:=hgp.out;omega))
 have HB4:=ac (HB3.out.trans (hO4.below (base:=w1.heap.size) (by have:=hgp.out;omega)));have k2:=K4.out.cell 2 rfl;clear hm4 hO4 HM3 K3 HB3 HA3 hgag
 generalize (cup (fun _ _=>none) 0 0 (.slice (some ⟨ga,0,none⟩) t.length t.length))=M0 at *;go_wp2
 go_loopw [30] (fun vi wr=>∃(q c:Nat) (M:Nat->Nat->Option Value),q<=(nT t).length/\vi=.int .i64 q/\c<=1+2*q/\Hid (PL t q gp c M wr)/\Hid (aa wr w1.heap.size [.int .i64 (t.length:Int),.slice (some ⟨gc,0,none⟩) 256 256,.slice bo (nT t).length bc,.map (some gn)] 94)/\Hid (Below w1.heap.size w1 wr)) (fun vi _=>(nT t).length-(intOf vi).toNat)
 case atStart=>exact⟨0,1,M0,Nat.zero_le _,rfl,by omega,HP4,K4,HB4⟩
 case round=>
  clear HP4 K4 HB4 k2;obtain⟨q,c,M,hq,rfl,hcq,HP,K1,HB⟩:=hrel;have k12:=K1.out.cell 2 rfl;have k13:=K1.out.cell 3 rfl;have zb:=HB.out.size;have zk:=K1.out.lt;by_cases hlt:q<(nT t).length
  .have hltz:(q:Int)<((nT t).length:Int):=by omega
   have hq10:q<=10240:=by have:=HFew.out;omega
   obtain⟨⟨L,x⟩,hnode⟩:∃p,(nT t)[q]?=some p:=⟨_,List.getElem?_eq_getElem hlt⟩;obtain⟨s1,s2⟩:=Sh.node_small (vT t) (kT t) (bP t (by omega)) hL.out.le (List.mem_of_getElem? hnode)
   have s3:x<9223372036854775808:=by
    obtain⟨d,d1,d2,d3⟩:=km hle (List.mem_of_getElem? hnode);rw[<-d3];exact nq hle d L
   obtain⟨bb,rfl,hbl,hcc⟩:=(HCS.out.keep HB.out) (by omega);obtain⟨e1,e2⟩:=hcc q _ hnode;dsimp only at e1 e2;have HN:=ac hnode;have hr:=gH t (L,x);have HT:=ac (jS hkn (rwT t (L,x)) (by omega))
   obtain⟨pa,pc,hMp,hPn,hPf⟩:=HP.out.val L x (by omega) s2 (EF hle hnode);obtain⟨W5,hW5⟩:∃W5,W5=wr.alloc (.cells #[.int .i64 (L:Nat),.int .u64 (x:Nat)] 83):=⟨_,rfl⟩
   have b5:Below wr.heap.size wr W5:=by rw[hW5];exact below_alloc wr _
   have HP5:=ac (HP.out.keep b5);have K15:=ac (K1.out.kept b5);have B75:=ac (show aa W5 wr.heap.size [.int .i64 (L:Nat),.int .u64 (x:Nat)] 83 by rw[hW5];exact aa.new wr _ _)
   have HB5:=ac (bg HB.out b5);have HOr:=ac ((HO1.out.keep HB.out).keep b5);obtain⟨rb,ro,rs,o1,o2,hlk,hrb,hrg,hki⟩:=HOr.out.node hle hnode;have hfd:=wK ⟨rb,ro,none⟩ o1 o2
   have HLen:=ac hki.arg.len;have HK5:=ac hki;have k13:=K15.out.cell 3 rfl;rw[hW5]at hlk hrg k13;have HLK:=ac hlk;have HRa:=ac hrg;have z5:=b5.size;have HMp:=ac hMp;have HPn5:=ac (hPn.keep b5)
   have hne7:Hid (wr.heap.size≠gp):=by show wr.heap.size≠gp;have:=HP.out.map.lt;omega
   clear hlk hrg hrb hki HOr b5 HP K1 HB hMp hPn hcc;go_wp2_with (first | refine lG rfl _ _ rfl _ _ _ rfl rfl HLK.out ?_ | refine aN rb ro rs (by rfl) rfl HRa.out underlying44 HLen.out ?_);rw[<-hW5]
   refine(Jv rs _ W5 HK5.out).mono ?_;rintro e w6 ⟨so,sc,rfl,hwd,hcap,hb⟩;rw[HT.out.2.1,HT.out.2.2];rw[HT.out.2.2]at hwd hcap;have HPa:=ac (fun b=>BZ hle HBy.out HN.out b)
   obtain⟨rl,hrl⟩:∃rl,Hid (rl=(rwT t (L,x)).length):=⟨_,rfl⟩;obtain⟨xs,hxs⟩:∃xs,Hid (xs=frL (rwT t (L,x))):=⟨_,rfl⟩;have HFit:Hid (Fit xs):=by rw[hxs.out];exact db _ _
   rw[<-hrl.out,<-hxs.out]at HPa⊢;rw[<-hxs.out]at hwd hcap;obtain⟨W7,hW7⟩:∃W7,W7=w6.alloc (.cells #[.int .i64 (rl:Nat),.slice so xs.length sc] 33):=⟨_,rfl⟩
   have b7:Below w6.heap.size w6 W7:=by rw[hW7];exact below_alloc w6 _
   have bb7:=bg hb b7;have HP7:=ac (HP5.out.keep bb7);have K17:=ac (K15.out.kept bb7);have B77:=ac (B75.out.kept bb7)
   have B87:=ac (show aa W7 w6.heap.size [.int .i64 (rl:Nat),.slice so xs.length sc] 33 by rw[hW7];exact aa.new w6 _ _);have HB7:=ac (bg HB5.out bb7);have HX7:=ac (hwd.keep b7)
   have HPn7:=ac (HPn5.out.keep bb7);have z7:=bb7.size;have hne8:Hid (w6.heap.size≠gp):=by show w6.heap.size≠gp;have:=(HP5.out.keep hb).map.lt;omega
   obtain⟨g7,hg7⟩:∃g7,Hid (g7=wr.heap.size):=⟨_,rfl⟩;obtain⟨g8,hg8⟩:∃g8,Hid (g8=w6.heap.size):=⟨_,rfl⟩;have m7:=B77.out.cell 0 rfl;clear hb b7 bb7 HP5 K15 B75 HB5 hwd HPn5 HK5 HRa HLK k13 hfd hW5 m7
   go_wp2;rw[<-hW7];rw[<-hg7.out]at B77 hne7⊢;rw[<-hg8.out]at B87 hne8⊢;clear hg7 hg8 hW7;obtain⟨L1,hL1⟩:∃L1,Hid (L1=L+1):=⟨_,rfl⟩;obtain⟨xa,hxa⟩:∃xa,Hid (xa=2*x):=⟨_,rfl⟩
   obtain⟨xb,hxb⟩:∃xb,Hid (xb=2*x+1):=⟨_,rfl⟩
   have CL0:Hid (∀w0,Qq 47 #[.agg #[.int .i64 (L:Nat),.int .u64 (x:Nat)],.bool false] w0 (.agg #[.int .i64 (L1:Nat),.int .u64 (xa:Nat)])):=fun w0=>by rw[hL1.out,hxa.out];exact pB L x false (by omega) s3 w0
   have CL1:Hid (∀w0,Qq 47 #[.agg #[.int .i64 (L:Nat),.int .u64 (x:Nat)],.bool true] w0 (.agg #[.int .i64 (L1:Nat),.int .u64 (xb:Nat)])):=fun w0=>by rw[hL1.out,hxb.out];exact pB L x true (by omega) s3 w0
   have HLk:Hid (∀w0 c' M',CM w0 gp c' M'->M' L x=M L x->(Instr.lookup 125 (.map (some gp)) (.agg #[.int .i64 (L:Nat),.int .u64 (x:Nat)]) false).run prog w0=.ok (.slice pa (bH t L x).length pc) w0):=fun w0 c' M' h0 h1=>by
    have:=h0.look underlying125 (rW w0) (L:=L) (x:=x) (by omega) s2;rw[h1,HMp.out]at this;exact this
   have hpl:=pU t L x;obtain⟨pl,hplh⟩:∃pl,Hid (pl=bH t L x):=⟨_,rfl⟩;rw[<-hplh.out]at HLk HPn7 HPa hpl
   have HPa0:Hid (a_ (fun i=>dg (rl:Int) xs (i:Int)) false pl pl.length=bH t L1 xa):=by rw[hL1.out,hxa.out];exact HPa.out false
   have HPa1:Hid (a_ (fun i=>dg (rl:Int) xs (i:Int)) true pl pl.length=bH t L1 xb):=by rw[hL1.out,hxb.out];exact HPa.out true
   obtain⟨la,hla⟩:∃la,Hid (la=(bH t L1 xa).length):=⟨_,rfl⟩;obtain⟨lb,hlb⟩:∃lb,Hid (lb=(bH t L1 xb).length):=⟨_,rfl⟩
   refine aB [] (fun w'=>aa w' g7 [.int .i64 (L:Nat),.int .u64 (x:Nat)] 83/\aa w' g8 [.int .i64 (rl:Nat),.slice so xs.length sc] 33/\(Instr.lookup 125 (.map (some gp)) (.agg #[.int .i64 (L:Nat),.int .u64 (x:Nat)]) false).run prog w'=.ok (.slice pa pl.length pc) w') (by kernel_rfl) ?_
   have hS:aa W7.drew g7 [.int .i64 (L:Nat),.int .u64 (x:Nat)] 83/\aa W7.drew g8 [.int .i64 (rl:Nat),.slice so xs.length sc] 33/\(Instr.lookup 125 (.map (some gp)) (.agg #[.int .i64 (L:Nat),.int .u64 (x:Nat)]) false).run prog W7.drew=.ok (.slice pa pl.length pc) W7.drew:=⟨B77.out,B87.out,HLk.out _ _ _ (HP7.out.keep (Below.refl _ _).drew).map rfl⟩
   have HP8:Hid (PL t q gp c M W7.drew):=HP7.out.keep (Below.refl _ _).drew
   have K18:Hid (aa W7.drew w1.heap.size [.int .i64 (t.length:Int),.slice (some ⟨gc,0,none⟩) 256 256,.slice (some ⟨bb,0,none⟩) (nT t).length bc,.map (some gn)] 94):=K17.out
   have HB8:Hid (Below w1.heap.size w1 W7.drew):=HB7.out.drew;have HX8:Hid (Wd W7.drew so xs):=HX7.out;have HPn8:Hid (Nd W7.drew pa (aV pl)):=HPn7.out;generalize W7.drew=Y at *;clear HP7 K17 B77 B87 HB7 HX7 HPn7
   refine aF 0 hS rfl (fun w0 h0=>by have d0:=h0.1.cell 0 rfl;have d1:=h0.1.cell 1 rfl;have f0:=h0.2.1.cell 0 rfl;have f1:=h0.2.1.cell 1 rfl;have hlk:=h0.2.2;go_simp;try with_reducible rfl) ?_
   refine aF 1 hS rfl (fun w0 h0=>by have d0:=h0.1.cell 0 rfl;have d1:=h0.1.cell 1 rfl;have f0:=h0.2.1.cell 0 rfl;have f1:=h0.2.1.cell 1 rfl;have hlk:=h0.2.2;go_simp;try with_reducible rfl) ?_
   refine aW 3 ?_
   refine aF 4 hS rfl (fun w0 h0=>by have d0:=h0.1.cell 0 rfl;have d1:=h0.1.cell 1 rfl;have f0:=h0.2.1.cell 0 rfl;have f1:=h0.2.1.cell 1 rfl;have hlk:=h0.2.2;go_simp;try with_reducible rfl) ?_
   refine aF 6 hS rfl (fun w0 h0=>by have d0:=h0.1.cell 0 rfl;have d1:=h0.1.cell 1 rfl;have f0:=h0.2.1.cell 0 rfl;have f1:=h0.2.1.cell 1 rfl;have hlk:=h0.2.2;go_simp;try with_reducible rfl) ?_
   refine aF 7 hS rfl (fun w0 h0=>by have d0:=h0.1.cell 0 rfl;have d1:=h0.1.cell 1 rfl;have f0:=h0.2.1.cell 0 rfl;have f1:=h0.2.1.cell 1 rfl;have hlk:=h0.2.2;go_simp;try with_reducible rfl) ?_
   refine aF 8 hS rfl (fun w0 h0=>by have d0:=h0.1.cell 0 rfl;have d1:=h0.1.cell 1 rfl;have f0:=h0.2.1.cell 0 rfl;have f1:=h0.2.1.cell 1 rfl;have hlk:=h0.2.2;go_simp;try with_reducible rfl) ?_
   refine aF 9 hS rfl (fun w0 h0=>by have d0:=h0.1.cell 0 rfl;have d1:=h0.1.cell 1 rfl;have f0:=h0.2.1.cell 0 rfl;have f1:=h0.2.1.cell 1 rfl;have hlk:=h0.2.2;go_simp;try with_reducible rfl) ?_
   refine aO 2 ?_;intro K hK;go_simp;refine mr (CL0.out _) fun wA hb=>?_;replace hS:=And.intro (hS.1.kept hb) (And.intro (hS.2.1.kept hb) (HLk.out _ _ _ (HP8.out.keep hb).map rfl))
   have HPA:=ac (HP8.out.keep hb);have K1A:=ac (K18.out.kept hb);have HBA:=ac (bg HB8.out hb);have HXA:=ac (HX8.out.keep hb);have HPnA:=ac (HPn8.out.keep hb)
   clear hb HP8 K18 HB8 HX8 HPn8;refine hK.out _ _ (fun _=>hS) ?_;clear hK K;try simp only[Act.put,ak,aj,ai,ae,ah,ag]
   refine aO 5 ?_;intro K hK;go_simp;refine mr (CL1.out _) fun wB hb=>?_;replace hS:=And.intro (hS.1.kept hb) (And.intro (hS.2.1.kept hb) (HLk.out _ _ _ (HPA.out.keep hb).map rfl))
   have HPB:=ac (HPA.out.keep hb);have K1B:=ac (K1A.out.kept hb);have HBB:=ac (bg HBA.out hb);have HXB:=ac (HXA.out.keep hb);have HPnB:=ac (HPnA.out.keep hb)
   clear hb HPA K1A HBA HXA HPnA;refine hK.out _ _ (fun _=>hS) ?_;clear hK K;try simp only[Act.put,ak,aj,ai,ae,ah,ag]
   refine aO 10 ?_;intro K hK;go_simp;refine(yZ pa pl pc (rl:Int) so xs sc wB HPnB.out (by omega) HXB.out HFit.out).mono ?_;rintro e wC ⟨vo,vn,rfl,hpd,hb⟩;obtain⟨oo,co,rfl,n1,r1⟩:=uy hpd.o1 rfl
   obtain⟨on,cn,rfl,n2,r2⟩:=uy hpd.o2 rfl;rw[HPa0.out]at n1⊢;rw[HPa1.out]at n2⊢;rw[<-hla.out,<-hlb.out];have HN1:=ac n1;have HN2:=ac n2
   have HF1:Hid (Fr (gp+1) oo):=fun a ha=>by have:=r1 a ha;have:=HPB.out.map.lt;omega
   have HF2:Hid (Fr (gp+1) on):=fun a ha=>by have:=r2 a ha;have:=HPB.out.map.lt;omega
   clear n1 n2 r1 r2;have zC:=HPB.out.map.lt;replace hS:=And.intro (hS.1.kept hb) (And.intro (hS.2.1.kept hb) (HLk.out _ _ _ (HPB.out.keep hb).map rfl));have HPC:=ac (HPB.out.keep hb);have K1C:=ac (K1B.out.kept hb)
   have HBC:=ac (bg HBB.out hb);have HXC:=ac (HXB.out.keep hb);have HPnC:=ac (HPnB.out.keep hb);clear hb HPB K1B HBB HXB HPnB;clear hpd;refine hK.out _ _ (fun _=>hS) ?_;clear hK K
   try simp only[Act.put,ak,aj,ai,ae,ah,ag]
   refine aF 11 hS rfl (fun w0 h0=>by have d0:=h0.1.cell 0 rfl;have d1:=h0.1.cell 1 rfl;have f0:=h0.2.1.cell 0 rfl;have f1:=h0.2.1.cell 1 rfl;have hlk:=h0.2.2;go_simp;try with_reducible rfl) ?_
   refine aF 12 hS rfl (fun w0 h0=>by have d0:=h0.1.cell 0 rfl;have d1:=h0.1.cell 1 rfl;have f0:=h0.2.1.cell 0 rfl;have f1:=h0.2.1.cell 1 rfl;have hlk:=h0.2.2;go_simp;try with_reducible rfl) ?_
   refine aW 13 ?_;refine aO 14 ?_;intro K hK
   refine sS gp c M L1 xa (.slice oo la co) underlying125 rfl rfl rfl HPC.out.map (by unfold maxLen;omega) (by have:=hL1.out;omega) (by have:=hxa.out;omega) ?_;intro wD hmD hOD
   replace hS:=And.intro (hOD.cel hS.1 hne7.out) (And.intro (hOD.cel hS.2.1 hne8.out) (HLk.out _ _ _ hmD (cup_other _ _ (by have:=hL1.out;omega))));refine hK.out _ _ (fun _=>hS) ?_;clear hK K
   try simp only[Act.put,ak,aj,ai,ae,ah,ag]
   refine aO 15 ?_;intro K hK;refine sS gp (c+1) _ L1 xb (.slice on lb cn) underlying125 rfl rfl rfl hmD (by unfold maxLen;omega) (by have:=hL1.out;omega) (by have:=hxb.out;omega) ?_;intro wE hmE hOE
   replace hS:=And.intro (hOE.cel hS.1 hne7.out) (And.intro (hOE.cel hS.2.1 hne8.out) (HLk.out _ _ _ hmE ((cup_other _ _ (by have:=hL1.out;omega)).trans (cup_other _ _ (by have:=hL1.out;omega)))))
   refine hK.out _ _ (fun _=>hS) ?_;clear hK K;try simp only[Act.put,ak,aj,ai,ae,ah,ag]
   refine aq.done (by kernel_rfl) ?_ _;have hOO:=hOD.trans hOE;have K1E:=ac (hOO.cel K1C.out (by have:=hgp.out;omega));have HBE:=ac (HBC.out.trans (hOO.below (base:=w1.heap.size) (by have:=hgp.out;omega)))
   rw[hla.out,hlb.out,hxa.out,hxb.out,hL1.out]at hmE;have HN1':=HN1.out;have HN2':=HN2.out;rw[hL1.out,hxa.out]at HN1';rw[hL1.out,hxb.out]at HN2'
   have HPE:=ac (HPC.out.step hle HN.out HN1' HF1.out HN2' HF2.out hOO hmE);clear hS hOO hmE hOD hOE hmD HPC K1C HBC HXC HPnC HN1' HN2';go_wp2
   exact⟨⟨q+1,c+1+1,_,by omega,rfl,by omega,HPE,K1E,HBE⟩,by simp only[intOf];omega⟩
  .obtain rfl:q=(nT t).length:=by omega
   have B1r:=ac (B11.out.kept HB.out);have HGr:=ac (HGc.out.kept HB.out);have x1:=B1r.out.cell 1 rfl;have k11:=K1.out.cell 1 rfl;have hgl:=HP.out.map.lt;have hgcl:=HGr.out.lt
   obtain⟨i0,hi,hz0,hz1,hz2⟩:=info_parts Fs;clear k12 k13 HFew
   go_wp2_with (at_make;refine wpList_make_full _ rfl _ _ 22 rfl wr.heap.size 5 i0 (.int .u8 0) 1 underlying22 hi hz0 hz1 .i64 .i64 _ _ t.length rfl rfl rfl rfl ?b2 ?b3 ?b4 ?_)
   case b2=>rw[hz2];omega
   case b3=>unfold maxLen;omega
   case b4=>omega
   intro w2 hown hgr;have c3:=IJ hown;have b2:Below wr.heap.size wr w2:=(Below.refl _ _).grown hgr (Nat.le_refl _) (fun k h=>by cases h);rw[<-ym t]at c3
   obtain⟨g9,hg9⟩:∃g9,Hid (g9=wr.heap.size):=⟨_,rfl⟩;have HP2:=ac (HP.out.keep b2);have K12:=ac (K1.out.kept b2);have HB2:=ac (bg HB.out b2);have HG2:=ac (HGr.out.kept b2)
   have HC2:=ac c3;rw[<-hg9.out]at HC2⊢;have hp9:gp<g9:=by rw[hg9.out];exact hgl
   have hgc9:gc<g9:=by rw[hg9.out];exact hgcl
   have hw9:w1.heap.size<=g9:=by rw[hg9.out];exact HB.out.size
   have k21:=K12.out.cell 1 rfl;clear c3 b2 hown hgr hi hz0 hz1 hz2 x1 k11 HP K1 HB HGr B1r zb zk hgl hgcl hg9 hlt hq;go_wp2
   go_loopw [63] (fun vi wq=>∃d:Nat,d<=256/\vi=.int .i64 d/\Hid (aa wq g9 (dC (dx t d 0)) 5)/\Hid (PL t (nT t).length gp c M wq)/\Hid (aa wq gc (cC (vT t)) 83)/\Hid (Below w1.heap.size w1 wq)) (fun vi _=>256-(intOf vi).toNat)
   case atStart=>exact⟨0,Nat.zero_le _,rfl,HC2,HP2,HG2,HB2⟩
   case round=>
    obtain⟨d,hd,rfl,HC,HPd,HGd,HBd⟩:=hrel;clear HC2 HP2 HG2 HB2 K12 k21;by_cases hld:d<256
    .have hldz:(d:Int)<256:=by omega
     have a1:=HGd.out.cell (d*2) (gF (vT t) _ hld);have a2:=HGd.out.cell (d*2+1) (gE (vT t) _ hld);have v40:=hL.out.le d
     have hk64:cod (vT t) d<18446744073709551616:=iF (bP t (by omega) d) v40;have HV:=ac (fun h0:0<vT t d=>HPd.out.val (vT t d) (cod (vT t) d) (by omega) hk64 (EG hle hld h0))
     have HQ:=ac (fun h0:0<vT t d=>B_ hle HBy.out (c:=d) h0);have HSk:=ac (fun h0:vT t d=0=>yp hle hld h0);obtain⟨L,hLL⟩:∃L,Hid (L=vT t d):=⟨_,rfl⟩
     obtain⟨x,hxx⟩:∃x,Hid (x=cod (vT t) d):=⟨_,rfl⟩;have HQ':Hid (0<L->bH t L x=Sh.mem (fun e=>decide (e=d)) t t.length):=by rw[hLL.out,hxx.out];exact HQ.out
     rw[<-hLL.out,<-hxx.out]at HV;rw[<-hxx.out]at a2;rw[<-hLL.out]at HSk a1 v40;rw[<-hxx.out]at hk64;obtain⟨W8,hW8⟩:∃W8,W8=wr.alloc (.cells #[.int .i64 (L:Nat),.int .u64 (x:Nat)] 83):=⟨_,rfl⟩
     have b8:Below wr.heap.size wr W8:=by rw[hW8];exact below_alloc wr _
     have HP8:=ac (HPd.out.keep b8);have HC8:=ac (HC.out.kept b8);have HG8:=ac (HGd.out.kept b8);have HB8:=ac (bg HBd.out b8);by_cases h0:L=0
     .have hF:=ac (HSk.out h0);clear HV HQ HQ' HSk hLL hxx b8 HPd HC HGd HBd v40 hk64;subst h0;have hW8':W8=wr.alloc (.cells #[.int .i64 0,.int .u64 (x:Nat)] 83):=hW8;clear hW8;go_wp2;rw[<-hW8']
      exact⟨⟨d+1,by omega,rfl,by rw[<-hF.out];exact HC8,HP8,HG8,HB8⟩,by simp only[intOf];omega⟩
     .have h0p:0<L:=by omega
      have h0z:¬((L:Nat):Int)=0:=by omega
      obtain⟨pa,pc,hMp,hPn,hPf⟩:=HV.out h0p;have HPn:=ac (hPn.keep b8);have ePl:=ac (HQ'.out h0p);have hlk:=HP8.out.map.look underlying125 (rW W8) (L:=L) (x:=x) (by omega) hk64;rw[hMp]at hlk
      have hpl:=pU t L x;obtain⟨pl,hplh⟩:∃pl,Hid (pl=bH t L x):=⟨_,rfl⟩;rw[<-hplh.out]at HPn hpl ePl hlk
      have hlk':(Instr.lookup 125 (.map (some gp)) (.agg #[.int .i64 (L:Nat),.int .u64 (x:Nat)]) false).run prog W8=.ok (.slice pa pl.length pc) W8:=hlk;rw[hW8]at hlk';have HLK:=ac hlk'
      clear hlk hlk' hMp hPn hPf HV HQ HQ' HSk hLL hxx b8 HPd HC HGd HBd v40 hk64 hplh;go_wp2_with (refine lG rfl _ _ rfl _ _ _ rfl rfl HLK.out ?_);rw[<-hW8];clear HLK hW8 a1 a2
      go_loopw [75] (fun vi wz=>∃q:Nat,q<=pl.length/\vi=.int .i64 q/\Hid (aa wz g9 (dC (dx t d q)) 5)/\Hid (PL t (nT t).length gp c M wz)/\Hid (aa wz gc (cC (vT t)) 83)/\Hid (Nd wz pa (aV pl))/\Hid (Below w1.heap.size w1 wz)) (fun vi _=>pl.length-(intOf vi).toNat)
      case atStart=>exact⟨0,Nat.zero_le _,rfl,HC8,HP8,HG8,HPn,HB8⟩
      case round=>
       obtain⟨q,hq,rfl,HC,HPd,HGd,HN,HBd⟩:=hrel;clear HC8 HP8 HG8 HPn HB8;by_cases hlq:q<pl.length
       .have hlqz:(q:Int)<(pl.length:Int):=by omega
        have hpe:pl[q]?=some (gt pl q):=by unfold gt;rw[List.getD_eq_getElem?_getD,List.getElem?_eq_getElem hlq];rfl
        obtain⟨p,hp⟩:∃p,Hid (p=gt pl q):=⟨_,rfl⟩;obtain⟨s1,s2⟩:=yo t d q p (by rw[hp.out,<-hpe,ePl.out]);obtain⟨nb,no,rfl,hnl,hnc⟩:=HN.out (by rw[kD];omega)
        have n1:=hnc q (by rw[kD];exact hlq);rw[qJ pl q hlq,<-hp.out]at n1;have c1:=HC.out.cell p (I5 _ p (by rw[jm];exact s1));have f1:=HC.out.frozen p
        have hpz:(p:Int)<(t.length:Int):=by omega
        have wd8:IntKind.u8.wrap (d:Int)=(d:Int):=by rw[IntKind.wrap_u8];omega
        have o3:aw g9 wr (wr.setCell ⟨g9,p,none⟩ (.int .u8 d)):=(aw.refl _ _).set p _
        have HC':Hid (aa (wr.setCell ⟨g9,p,none⟩ (.int .u8 d)) g9 (dC (dx t d (q+1))) 5):=by
         have:=HC.out.set p (.int .u8 d);rw[I4,s2]at this;exact this
        have HP':=ac (HPd.out.byt HC.out (by omega) o3);have HG':=ac (o3.cel HGd.out (by omega));have HN':=ac (uA HN.out HC.out o3);have HB':=ac (HBd.out.trans (o3.below (base:=w1.heap.size) hw9))
        clear HC HPd HGd HN HBd o3 hnc hpe s2 hp;go_wp2;exact⟨⟨q+1,by omega,by go_num,HC',HP',HG',HN',HB'⟩,by simp only[intOf];omega⟩
       .obtain rfl:q=pl.length:=by omega
        have hF:Hid (dx t d pl.length=dx t (d+1) 0):=by rw[ePl.out];exact sC t d
        go_wp2;exact⟨⟨d+1,by omega,by go_num,by rw[<-hF.out];exact HC,HPd,HGd,HBd⟩,by simp only[intOf];omega⟩
    .obtain rfl:d=256:=by omega
     have hF:=ac (JJ (t:=t) (by have:=HC.out;rw[yq HBy.out]at this;exact this));have HBE:=ac (bg HB1.out HBd.out);clear HC HPd HGd HBd;go_wp2;go_ret
     exact⟨_,_,rfl,hF.out,HBE.out⟩
def pf:List Value:=[.int .i64 0,.slice none 0 0,.slice none 0 0,.map none]
theorem vJ:(prog.info? 94).map (fun i=>(i.zero,i.size))=some (some (.agg pf.toArray),4):=by kernel_rfl
theorem vH:(prog.info? 94).map (·.size)=some 4:=by kernel_rfl
theorem tq(k n:Int)(lo:Option Addr)(l:List Int)(lc:Nat)(no:Option Addr)(av:List RA)(nc:Nat)(w:World)(hk:ax k)(hn:ax n)(hx:Nd w lo l)(hl:l.length<=1048576)(hv:Lv w no av)(ha:av.length<=1048576)(G:GV w):
  Qq 24 #[.agg #[.int .i64 k,.int .i64 n,.slice lo l.length lc,.slice no av.length nc]] w (.bool (bn k n l av)):=by
 obtain⟨W,hW⟩:∃W,W=w.alloc (.cells #[.int .i64 k,.int .i64 n,.slice lo l.length lc,.slice no av.length nc] 27):=⟨_,rfl⟩;have bW:=aM hW;have HB:=ac bW
 have C0:=ac (pA k n lo l lc no av nc W hk hn (hx.keep bW) hl (hv.keep bW) ha (G.keep bW));obtain⟨ok,hok⟩:∃ok,Hid (ok=bn k n l av):=⟨_,rfl⟩;rw[<-hok.out]at C0;rw[<-hok.out];clear bW hx hv G hk hn hl ha hok
 go_enter func24,ntmps24;go_wp2_with fail;rw[<-hW];refine C0.out.mono ?_;rintro e w1 ⟨sv,rfl,⟨s1,s2,s3,s4,rfl,o1,o2,o3,o4⟩,_,hb⟩;have HB1:=ac (bg HB.out hb);clear hb C0 HB hW
 go_wp2_with (refine li vJ ?_);intro w2 B2 hb2 hs2;try simp only[Act.put,ae,List.set]
 have HB2:=ac hb2;clear hb2;go_wp2_with (refine aP w1.heap.size pf [s1,s2,s3,s4] rfl rfl B2 rfl vH (by simp[o1,o2,o3,o4]) ?_);intro w3 B3 hO;try simp only[Act.put,ae,List.set]
 have HB3:=ac (HB1.out.trans ((HB2.out.trans (hO.below (Nat.le_refl _))).mono HB1.out.size));clear HB1 HB2 B2 B3 hO hs2;go_wp2;go_ret;exact⟨rfl,HB3.out⟩
theorem yX(k n:Int)(lo:Option Addr)(l:List Int)(lc:Nat)(no:Option Addr)(av:List RA)(nc:Nat)(w:World)(hk:ax k)(hn:ax n)(hx:Nd w lo l)(hl:l.length<=1048576)(hv:Lv w no av)(ha:av.length<=1048576)(G:GV w)(c:Nat)(i:Int)(hbad:bn k n l av=false):
  Qq 14 #[.agg #[.int .i64 k,.int .i64 n,.slice lo l.length lc,.slice no av.length nc],.int .u8 c,.int .i64 i] w (.tuple #[.int .i64 0,.int .i64 2]):=by
 obtain⟨W,hW⟩:∃W,W=w.alloc (.cells #[.int .i64 k,.int .i64 n,.slice lo l.length lc,.slice no av.length nc] 27):=⟨_,rfl⟩;have bW:=aM hW;have HB:=ac bW
 have C0:=ac (pA k n lo l lc no av nc W hk hn (hx.keep bW) hl (hv.keep bW) ha (G.keep bW));obtain⟨ok,hok⟩:∃ok,Hid (ok=bn k n l av):=⟨_,rfl⟩;rw[<-hok.out]at C0;rw[hok.out.trans hbad]at C0;clear hbad
 clear bW hx hv G hk hn hl ha hok;go_enter func14,ntmps14;go_wp2_with fail;rw[<-hW];refine C0.out.mono ?_;rintro e w1 ⟨sv,rfl,⟨s1,s2,s3,s4,rfl,o1,o2,o3,o4⟩,_,hb⟩
 have HB1:=ac (bg HB.out hb);clear hb C0 HB hW;go_wp2_with (refine li vJ ?_);intro w2 B2 hb2 hs2;try simp only[Act.put,ae,List.set]
 have HB2:=ac hb2;clear hb2;go_wp2_with (refine aP w1.heap.size pf [s1,s2,s3,s4] rfl rfl B2 rfl vH (by simp[o1,o2,o3,o4]) ?_);intro w3 B3 hO;try simp only[Act.put,ae,List.set]
 have HB3:=ac (HB1.out.trans ((HB2.out.trans (hO.below (Nat.le_refl _))).mono HB1.out.size));clear HB1 HB2 B2 B3 hO hs2;go_wp2;go_ret2;exact⟨rfl,HB3.out⟩
def zsR(L:Nat)(av:List RA):Nat->Int
 | 0=>6*(L:Int)
 | q+1=>wrap64 (zsR L av q+kZ (av.getD q cy))
def sZ(k n:Int)(l:List Int)(av:List RA):Int:=if bn k n l av then zsR l.length av av.length else 0
theorem Ao(k n:Int)(lo:Option Addr)(l:List Int)(lc:Nat)(no:Option Addr)(av:List RA)(nc:Nat)(w:World)(hk:ax k)(hn:ax n)(hx:Nd w lo l)(hl:l.length<=1048576)(hv:Lv w no av)(ha:av.length<=1048576)(G:GV w):
  Qq 17 #[.agg #[.int .i64 k,.int .i64 n,.slice lo l.length lc,.slice no av.length nc]] w (.int .i64 (sZ k n l av)):=by
 obtain⟨W,hW⟩:∃W,W=w.alloc (.cells #[.int .i64 k,.int .i64 n,.slice lo l.length lc,.slice no av.length nc] 27):=⟨_,rfl⟩;have bW:=aM hW;have HB:=ac bW
 have B1:=ac (show aa W w.heap.size [.int .i64 k,.int .i64 n,.slice lo l.length lc,.slice no av.length nc] 27 by rw[hW];exact aa.new w _ _)
 have C0:=ac (tq k n lo l lc no av nc W hk hn (hx.keep bW) hl (hv.keep bW) ha (G.keep bW));have HV:=ac hv;obtain⟨Z,hZ⟩:∃Z,Hid (Z=sZ k n l av):=⟨_,rfl⟩;rw[<-hZ.out];clear bW hx hv G hk hn
 go_enter func17,ntmps17;go_wp2_with fail;rw[<-hW];refine C0.out.mono ?_;rintro e w1 ⟨rfl,hb⟩;have HB1:=ac (bg HB.out hb);have B11:=ac (B1.out.kept hb);clear hb C0 HB B1 hW
 cases ok:bn k n l av with
 | false=>
  have HZ0:Hid (Z=0):=by rw[hZ.out];unfold sZ;rw[ok];rfl
  clear ok hZ;go_wp2;go_ret;exact⟨by rw[HZ0.out];rfl,HB1.out⟩
 | true=>
  have HZ1:Hid (Z=zsR l.length av av.length):=by rw[hZ.out];unfold sZ;rw[ok];rfl
  clear ok hZ;have x2:=B11.out.cell 2 rfl;have x3:=B11.out.cell 3 rfl;go_wp2
  go_loopw [3,16] (fun vs vi wr=>∃q:Nat,q<=av.length/\vi=.int .i64 q/\vs=.int .i64 (zsR l.length av q)/\Hid (Below w.heap.size w wr)) (fun _ vi _=>av.length-(intOf vi).toNat)
  case atStart=>exact⟨0,Nat.zero_le _,rfl,rfl,HB1⟩
  case round=>
   clear HB1 B11 x2 x3;obtain⟨q,hq,rfl,rfl,HB⟩:=hrel;by_cases hlt:q<av.length
   .have hltz:(q:Int)<(av.length:Int):=by omega
    obtain⟨b,off,rfl,hbl,hr⟩:=(HV.out.keep HB.out) (by omega);obtain⟨cs,rg,ki⟩:=hr q hlt;have HL:=ac ki.arg.len;have H1:=ac ki.arg.one;have HK:=ac ki;have HR:=ac rg
    have E:Hid (wrap64 (zsR l.length av q+kZ (av.getD q cy))=zsR l.length av (q+1)):=rfl;obtain⟨A,hA⟩:∃A,Hid (A=av.getD q cy):=⟨_,rfl⟩;rw[<-hA.out]at HK E;generalize zsR l.length av q=X at *
    clear hr rg ki hA;go_wp2_with (first | refine aN b (off+q*22) cs (by rfl) rfl HR.out underlying44 HL.out ?_ | refine li mA ?_);intro w2 B2 hb2 hs2;try simp only[Act.put,ae,List.set]
    have HB2:=ac hb2;have zb:=HB.out.size;clear hb2 HR
    go_wp2_with (refine aP wr.heap.size zv cs rfl rfl B2 (by have:=HL.out;have h2:=mA;rw[Option.map_eq_some_iff]at this h2;obtain⟨i1,e1,e2⟩:=this;obtain⟨i2,e3,e4⟩:=h2;rw[e1]at e3;cases e3;have:=congrArg Prod.snd e4;exact this.symm.trans e2) HL.out H1.out ?_)
    intro w3 B3 hO;try simp only[Act.put,ae,List.set]
    have hb3:=HB2.out.trans (hO.below (Nat.le_refl _));have HK3:=ac (HK.out.keep hb3);have HB3:=ac (bg HB.out hb3);clear hb3 HK HB HB2 hO B2
    go_wp2_with (refine iJ wr.heap.size cs rfl B3 underlying44 HL.out ?_);refine mr (zM cs A w3 HK3.out) fun w4 hb4=>?_;have HB4:=ac (bg HB3.out hb4)
    generalize kZ A=Y at *;clear hb4 HB3 HK3 B3;go_wp2;refine⟨⟨q+1,by omega,by go_num,?_,HB4⟩,by simp only[intOf];omega⟩;rw[<-E.out]
   .obtain rfl:q=av.length:=by omega
    rw[<-HZ1.out];go_wp2;go_ret;exact⟨rfl,HB.out⟩
theorem SX.check{w:World}{cs:List Value}{k:Int}{t:List Nat}(h:SX w cs k t):Qq 24 #[.agg cs.toArray] w (.bool true):=by
 obtain⟨⟨lo,lc,no,nc,rfl,h1,h2⟩,hk,hn,hB,G⟩:=h
 have:=tq k (t.length:Int) lo (cZ (vT t)) lc no (aT k t) nc w (by unfold ax;omega) (by unfold ax;omega) h1 (by rw[length_lst];omega) h2 (by rw[aT_len];have:=ks hn;omega) G
 rw[length_lst,pG hk hn hB]at this;exact this
theorem SX.size{w:World}{cs:List Value}{k:Int}{t:List Nat}(h:SX w cs k t):Qq 17 #[.agg cs.toArray] w (.int .i64 (zsR 256 (aT k t) (aT k t).length)):=by
 obtain⟨⟨lo,lc,no,nc,rfl,h1,h2⟩,hk,hn,hB,G⟩:=h
 have:=Ao k (t.length:Int) lo (cZ (vT t)) lc no (aT k t) nc w (by unfold ax;omega) (by unfold ax;omega) h1 (by rw[length_lst];omega) h2 (by rw[aT_len];have:=ks hn;omega) G;unfold sZ at this
 rw[length_lst,pG hk hn hB]at this;exact this
structure xI (k:Int) (t:List Nat) (m:Nat) (SA:World->Option Addr->Nat->Option Addr->Nat->Prop):Prop where
 keep:∀w0 w1 lo lc no nc,SA w0 lo lc no nc->Below w0.heap.size w0 w1->SA w1 lo lc no nc
 build:∀w0 ao cap,Bd w0 ao t->GV w0->Calls prog 10 #[.int .i64 k,.slice ao t.length cap] w0 fun e w'=>∃lo lc no nc,e=.returned (.tuple #[.agg #[.int .i64 k,.int .i64 (t.length:Int),.slice lo 256 lc,.slice no m nc],.int .i64 0])/\SA w' lo lc no nc/\Below w0.heap.size w0 w'
 check:∀w0 lo lc no nc,SA w0 lo lc no nc->Qq 24 #[.agg #[.int .i64 k,.int .i64 (t.length:Int),.slice lo 256 lc,.slice no m nc]] w0 (.bool true)
 size:∃Z,Z=zsR 256 (aT k t) (aT k t).length/\∀w0 lo lc no nc,SA w0 lo lc no nc->Qq 17 #[.agg #[.int .i64 k,.int .i64 (t.length:Int),.slice lo 256 lc,.slice no m nc]] w0 (.int .i64 Z)
 text:∀w0 lo lc no nc,SA w0 lo lc no nc->Calls prog 26 #[.agg #[.int .i64 k,.int .i64 (t.length:Int),.slice lo 256 lc,.slice no m nc]] w0 fun e w'=>∃bo bc,e=.returned (.slice bo t.length bc)/\(convert 22 9 (.slice bo t.length bc)).run prog w'=.ok (.string (strOfNums (gZ t))) w'/\Below w0.heap.size w0 w'
 access:∀i:Int,ax i->∀w0 lo lc no nc,SA w0 lo lc no nc->Qq 13 #[.agg #[.int .i64 k,.int .i64 (t.length:Int),.slice lo 256 lc,.slice no m nc],.int .i64 i] w0 (.tuple #[.int .u8 (saC t i:Int),.int .i64 (gG t i)])
 rank:∀(c:Nat) (i:Int),c<256->ax i->∀w0 lo lc no nc,SA w0 lo lc no nc->Qq 14 #[.agg #[.int .i64 k,.int .i64 (t.length:Int),.slice lo 256 lc,.slice no m nc],.int .u8 c,.int .i64 i] w0 (.tuple #[.int .i64 (iZ t c i),.int .i64 (gV t i)])
 select:∀(c:Nat) (i:Int),c<256->ax i->∀w0 lo lc no nc,SA w0 lo lc no nc->Qq 22 #[.agg #[.int .i64 k,.int .i64 (t.length:Int),.slice lo 256 lc,.slice no m nc],.int .u8 c,.int .i64 i] w0 (.tuple #[.int .i64 (fI t c i),.int .i64 (gD t c i)])
theorem rZ(k:Int)(t:List Nat)(hk:1<=k/\k<=3)(hn:t.length<=3000)(hB:cM t):∃m SA,xI k t m SA:=by
 refine⟨(aT k t).length,fun w lo lc no nc=>SX w [.int .i64 k,.int .i64 (t.length:Int),.slice lo 256 lc,.slice no (aT k t).length nc] k t,⟨fun w0 w1 lo lc no nc h hb=>h.keep hb,fun w0 ao cap hx G=>?_,fun w0 lo lc no nc h=>h.check,⟨_,rfl,fun w0 lo lc no nc h=>h.size⟩,fun w0 lo lc no nc h=>?_,fun i hi w0 lo lc no nc h=>An _ k t i w0 h hi,fun c i hc hi w0 lo lc no nc h=>yW _ k t c i w0 h hc hi,fun c i hc hi w0 lo lc no nc h=>yQ _ k t c i w0 h hc hi⟩⟩
 .refine(Aj k ao t cap w0 hk hx hB hn G).mono ?_;rintro e w' ⟨cs,rfl,h1,h2⟩;obtain⟨lo,lc,no,nc,rfl,_,_⟩:=h1.ex;exact⟨lo,lc,no,nc,rfl,h1,h2⟩
 .refine(yL _ k t w0 h).mono ?_;rintro e w' ⟨bo,bc,rfl,g1,g2⟩;exact⟨bo,bc,rfl,conv bc g1,g2⟩
theorem xN:∃m SA,xI 2 ab m SA:=rZ 2 ab (by decide) (by decide) IZ
theorem Ez(l:List Bool)(h:l.length<=3000):0<kZ (kB 2 (l.length:Int) (frL l))/\kZ (kB 2 (l.length:Int) (frL l))<=100000:=by
 have hk:ar (l.length:Int) (frL l)=true:=dL _ _ (by omega);refine⟨EI _ _ (db _ _) hk,?_⟩
 rw[nY _ _ (qx _ _ hk),(gY (pX (kB8 (l.length:Int) (frL l)))).2.2.2,show({ K:=2,p:=n7,r:=kB8 (l.length:Int) (frL l),f:=n9 }:RA).r=kB8 (l.length:Int) (frL l)from rfl,vm l.length (frL l) (db _ _) hk]
 have b:=jA l.length (bitAt (frL l)) (nb l.length);have e1:nb l.length<=201:=by unfold nb;omega
 have e2:gN l.length<=30:=by unfold gN;omega
 generalize bat l.length (bitAt (frL l)) (nb l.length)=x at *;generalize nb l.length=y at *;generalize gN l.length=z at *;omega
theorem rU(t:List Nat)(hn:t.length<=3000):∀q,q<=(aT 2 t).length->0<zsR 256 (aT 2 t) q/\zsR 256 (aT 2 t) q<=1536+100000*q
 | 0,_=>by unfold zsR;omega
 | q+1,hq=>by
  have ih:=rU t hn q (by omega);have h2:=ks hn;rw[aT_len]at hq;obtain⟨p,hp⟩:∃p,(nT t)[q]?=some p:=⟨_,List.getElem?_eq_getElem (by omega)⟩;have hr:=gH t p;have hz:=Ez (rwT t p) (by omega)
  rw[zsR,j4 hp];generalize kZ (kB 2 ((rwT t p).length:Int) (frL (rwT t p)))=z at *;generalize zsR 256 (aT 2 t) q=y at *;rw[show wrap64 (y+z)=y+z by unfold wrap64;omega];omega
theorem J6(Z:Int)(h:Z=zsR 256 (aT 2 ab) (aT 2 ab).length):0<Z:=by
 rw[h];exact(rU ab (by decide) _ (Nat.le_refl _)).1
theorem o0:fI ab 114 1=9/\gD ab 114 1=0/\fI ab 122 0=0/\gD ab 122 0=3:=by decide +kernel
theorem FO(w:World)(G:GV w):Qq 9 #[] w (.bool true):=by
 have kc:=fun(w:World) (C:Array Value) (n c:Nat)=>Lib.run_convert_bytes_const (P:=prog) w 22 5 C n c underlying22 underlying5;obtain⟨f1,f2,f3,f4,f5⟩:=J7
 have bW:=below_alloc w (.cells #[.int .u8 97,.int .u8 98,.int .u8 114,.int .u8 97,.int .u8 99,.int .u8 97,.int .u8 100,.int .u8 97,.int .u8 98,.int .u8 114,.int .u8 97] 5 (11,12));obtain⟨m,SA,HXP⟩:=xN
 have HK:=ac HXP.keep
 have H1:Hid (∀w0,w0=w.alloc (.cells #[.int .u8 97,.int .u8 98,.int .u8 114,.int .u8 97,.int .u8 99,.int .u8 97,.int .u8 100,.int .u8 97,.int .u8 98,.int .u8 114,.int .u8 97] 5 (11,12))->Calls prog 10 #[.int .i64 2,.slice (some ⟨w.heap.size,0,none⟩) 11 11] w0 fun e w'=>∃lo lc no nc,e=.returned (.tuple #[.agg #[.int .i64 2,.int .i64 11,.slice lo 256 lc,.slice no m nc],.int .i64 0])/\SA w' lo lc no nc/\Below w0.heap.size w0 w'):=fun w0 h=>by
  subst h;exact HXP.build _ (some ⟨w.heap.size,0,none⟩) 11 (J8 w) (G.keep bW)
 have H2:Hid (∀w0 lo lc no nc,SA w0 lo lc no nc->Qq 13 #[.agg #[.int .i64 2,.int .i64 11,.slice lo 256 lc,.slice no m nc],.int .i64 4] w0 (.tuple #[.int .u8 99,.int .i64 0])):=fun w0 lo lc no nc h=>by
  have:=HXP.access 4 (by unfold ax;omega) w0 lo lc no nc h;rw[show saC ab 4=99 from f1,show gG ab 4=0 from rfl]at this;exact this
 have H3:Hid (∀w0 lo lc no nc,SA w0 lo lc no nc->Qq 14 #[.agg #[.int .i64 2,.int .i64 11,.slice lo 256 lc,.slice no m nc],.int .u8 97,.int .i64 8] w0 (.tuple #[.int .i64 4,.int .i64 0])):=fun w0 lo lc no nc h=>by
  have:=HXP.rank 97 8 (by decide) (by unfold ax;omega) w0 lo lc no nc h;rw[show iZ ab 97 8=4 from congrArg (fun n:Nat=>(n:Int)) f2,show gV ab 8=0 from rfl]at this;exact this
 have H4:Hid (∀w0 lo lc no nc,SA w0 lo lc no nc->Qq 22 #[.agg #[.int .i64 2,.int .i64 11,.slice lo 256 lc,.slice no m nc],.int .u8 114,.int .i64 1] w0 (.tuple #[.int .i64 9,.int .i64 0])):=fun w0 lo lc no nc h=>by
  have:=HXP.select 114 1 (by decide) (by unfold ax;omega) w0 lo lc no nc h;rw[o0.1,o0.2.1]at this;exact this
 have H5:Hid (∀w0 lo lc no nc,SA w0 lo lc no nc->Qq 22 #[.agg #[.int .i64 2,.int .i64 11,.slice lo 256 lc,.slice no m nc],.int .u8 122,.int .i64 0] w0 (.tuple #[.int .i64 0,.int .i64 3])):=fun w0 lo lc no nc h=>by
  have:=HXP.select 122 0 (by decide) (by unfold ax;omega) w0 lo lc no nc h;rw[o0.2.2.1,o0.2.2.2]at this;exact this
 have H6:Hid (∀w0 lo lc no nc,SA w0 lo lc no nc->Qq 13 #[.agg #[.int .i64 2,.int .i64 11,.slice lo 256 lc,.slice no m nc],.int .i64 11] w0 (.tuple #[.int .u8 0,.int .i64 3])):=fun w0 lo lc no nc h=>by
  have:=HXP.access 11 (by unfold ax;omega) w0 lo lc no nc h;rw[show saC ab 11=0 from rfl,show gG ab 11=3 from rfl]at this;exact this
 have H7:Hid (∀w0:World,GV w0->Qq 14 #[.agg #[.int .i64 0,.int .i64 0,.slice none 0 0,.slice none 0 0],.int .u8 0,.int .i64 0] w0 (.tuple #[.int .i64 0,.int .i64 2])):=fun w0 G0=>yX 0 0 none [] 0 none [] 0 w0 (by unfold ax;omega) (by unfold ax;omega) (fun h=>absurd h (by decide)) (by decide) (fun h=>absurd h (by decide)) (by decide) G0 0 0 (by decide +kernel)
 have H8:Hid (∀w0 lo lc no nc,SA w0 lo lc no nc->Qq 24 #[.agg #[.int .i64 2,.int .i64 11,.slice lo 256 lc,.slice no m nc]] w0 (.bool true)):=fun w0 lo lc no nc h=>by
  exact HXP.check w0 lo lc no nc h
 obtain⟨Z,hZ,HXZ⟩:=HXP.size;have zp:=J6 Z hZ
 have H9:Hid (∀w0 lo lc no nc,SA w0 lo lc no nc->Qq 17 #[.agg #[.int .i64 2,.int .i64 11,.slice lo 256 lc,.slice no m nc]] w0 (.int .i64 Z)):=fun w0 lo lc no nc h=>by
  exact HXZ w0 lo lc no nc h
 have HT:Hid (∀w0 lo lc no nc,SA w0 lo lc no nc->Calls prog 26 #[.agg #[.int .i64 2,.int .i64 11,.slice lo 256 lc,.slice no m nc]] w0 fun e w'=>∃bo bc,e=.returned (.slice bo 11 bc)/\(convert 22 9 (.slice bo 11 bc)).run prog w'=.ok (.string ⟨#[97,98,114,97,99,97,100,97,98,114,97]⟩) w'/\Below w0.heap.size w0 w'):=fun w0 lo lc no nc h=>by
  have:=HXP.text w0 lo lc no nc h;rw[J5]at this;exact this
 have HG:=ac G;clear hZ f1 f2 f3 f4 f5 G HXP HXZ;go_enter func9,ntmps9;go_wp2_with fail;refine(H1.out _ rfl).mono ?_;rintro e w1 ⟨lo,lc,no,nc,rfl,hP0,hb⟩;have hw:=ac (bg bW hb)
 clear H1 bW hb;have b1:=below_alloc w1 (.cells [.int .i64 2,.int .i64 11,.slice lo 256 lc,.slice no m nc].toArray 27);have hB:=ac (aa.new w1 [.int .i64 2,.int .i64 11,.slice lo 256 lc,.slice no m nc] 27)
 have hP:=ac (HK.out _ _ _ _ _ _ hP0 b1);replace hw:=ac (bg hw.out b1);clear b1 hP0;go_wp2_with fail;refine mr (H2.out _ _ _ _ _ hP.out) fun w2 hb=>?_
 replace hP:=ac (HK.out _ _ _ _ _ _ hP.out hb);replace hB:=ac (hB.out.kept hb);replace hw:=ac (bg hw.out hb);clear hb H2;have y0:=hB.out.cell 0 rfl;have y1:=hB.out.cell 1 rfl
 have y2:=hB.out.cell 2 rfl;have y3:=hB.out.cell 3 rfl;go_wp2_with fail;refine mr (H3.out _ _ _ _ _ hP.out) fun w3 hb=>?_;replace hP:=ac (HK.out _ _ _ _ _ _ hP.out hb);replace hB:=ac (hB.out.kept hb)
 replace hw:=ac (bg hw.out hb);clear hb H3 y0 y1 y2 y3;have y0:=hB.out.cell 0 rfl;have y1:=hB.out.cell 1 rfl;have y2:=hB.out.cell 2 rfl;have y3:=hB.out.cell 3 rfl;go_wp2_with fail
 refine mr (H4.out _ _ _ _ _ hP.out) fun w4 hb=>?_;replace hP:=ac (HK.out _ _ _ _ _ _ hP.out hb);replace hB:=ac (hB.out.kept hb);replace hw:=ac (bg hw.out hb);clear hb H4 y0 y1 y2 y3
 have y0:=hB.out.cell 0 rfl;have y1:=hB.out.cell 1 rfl;have y2:=hB.out.cell 2 rfl;have y3:=hB.out.cell 3 rfl;go_wp2_with fail;refine mr (H5.out _ _ _ _ _ hP.out) fun w5 hb=>?_
 replace hP:=ac (HK.out _ _ _ _ _ _ hP.out hb);replace hB:=ac (hB.out.kept hb);replace hw:=ac (bg hw.out hb);clear hb H5 y0 y1 y2 y3;have y0:=hB.out.cell 0 rfl;have y1:=hB.out.cell 1 rfl
 have y2:=hB.out.cell 2 rfl;have y3:=hB.out.cell 3 rfl;go_wp2_with fail;refine mr (H6.out _ _ _ _ _ hP.out) fun w6 hb=>?_;replace hP:=ac (HK.out _ _ _ _ _ _ hP.out hb);replace hB:=ac (hB.out.kept hb)
 replace hw:=ac (bg hw.out hb);clear hb H6 y0 y1 y2 y3;go_wp2_with fail;refine mr (H7.out _ (HG.out.keep hw.out)) fun w7 hb=>?_;replace hP:=ac (HK.out _ _ _ _ _ _ hP.out hb)
 replace hB:=ac (hB.out.kept hb);replace hw:=ac (bg hw.out hb);clear hb H7;have y0:=hB.out.cell 0 rfl;have y1:=hB.out.cell 1 rfl;have y2:=hB.out.cell 2 rfl;have y3:=hB.out.cell 3 rfl
 go_wp2_with fail;refine mr (H8.out _ _ _ _ _ hP.out) fun w8 hb=>?_;replace hP:=ac (HK.out _ _ _ _ _ _ hP.out hb);replace hB:=ac (hB.out.kept hb);replace hw:=ac (bg hw.out hb)
 clear hb H8 y0 y1 y2 y3;have y0:=hB.out.cell 0 rfl;have y1:=hB.out.cell 1 rfl;have y2:=hB.out.cell 2 rfl;have y3:=hB.out.cell 3 rfl;go_wp2_with fail;refine mr (H9.out _ _ _ _ _ hP.out) fun w9 hb=>?_
 replace hP:=ac (HK.out _ _ _ _ _ _ hP.out hb);replace hB:=ac (hB.out.kept hb);replace hw:=ac (bg hw.out hb);clear hb H9 y0 y1 y2 y3;have y0:=hB.out.cell 0 rfl;have y1:=hB.out.cell 1 rfl
 have y2:=hB.out.cell 2 rfl;have y3:=hB.out.cell 3 rfl;go_wp2_with fail;refine(HT.out _ _ _ _ _ hP.out).mono ?_;rintro e wa ⟨bo,bc,rfl,hcv,hb⟩;replace hw:=ac (bg hw.out hb)
 clear hb y0 y1 y2 y3 hP hB HT;go_wp2;go_ret;exact⟨rfl,hw.out⟩
open Go.ChangeShapes Go.WideShapes Go.ChangeAt Go.RowKit Num Bit
theorem Tryz.cells5:prog.cellsOf 5=1:=by kernel_rfl
theorem sB(x:Int)(h:(Lit.int .u8 x).wf=true):0<=x/\x<256:=by
 simp only[Lit.wf,IntKind.min,IntKind.max,IntKind.signed,IntKind.bits,Bool.and_eq_true,decide_eq_true_eq]at h;simp at h;omega
def lu(b:List Nat):Prop:=∀x∈b,x<256
theorem IY{b:List Nat}(h:∀i,i<b.length->gt b i<256):lu b:=by
 intro x hx;obtain⟨i,hi,e⟩:=List.getElem_of_mem hx;have:=h i hi;unfold gt at this;rw[List.getD_eq_getElem?_getD,List.getElem?_eq_getElem hi,Option.getD_some]at this;omega
theorem lu.byt{b:List Nat}(h:lu b):cM b:=fun i=>by
 by_cases hi:i<b.length
 .have:=gt_get b i hi;exact h _ (List.mem_of_getElem? this)
 .rw[jr _ _ (by omega)];decide
theorem JH(w:World)(a:Addr)(len:Nat)(zs:List Int)(hl:len<=zs.length)(hc:∀i,i<zs.length->w.cell? (a.add i)=some (.int .u8 (zs.getD i 0)))(hw:∀n∈zs,(Lit.int .u8 n).wf=true):
  ∃xs:List Nat,xs.length=len/\Bd w (some a) xs/\lu xs:=by
 have hb:∀i,i<zs.length->0<=zs.getD i 0/\zs.getD i 0<256:=by
  intro i hi;have:zs.getD i 0=zs[i]:=by rw[List.getD_eq_getElem?_getD,List.getElem?_eq_getElem hi];rfl
  rw[this];exact sB _ (hw _ (List.getElem_mem hi))
 have hg:∀i,i<len->(gt ((zs.take len).map Int.toNat) i:Int)=zs.getD i 0:=by
  intro i hi;have h:=hb i (by omega);unfold gt;rw[List.getD_eq_getElem?_getD,List.getElem?_map,List.getElem?_take_of_lt hi,List.getElem?_eq_getElem (by omega:i<zs.length)]
  rw[List.getD_eq_getElem?_getD,List.getElem?_eq_getElem (by omega:i<zs.length)]at h⊢;simp only[Option.map_some,Option.getD_some]at h⊢;omega
 have hlen:((zs.take len).map Int.toNat).length=len:=by simp;omega
 refine⟨(zs.take len).map Int.toNat,hlen,?_,?_⟩
 .intro h0;obtain⟨b,off,s⟩:=a;have h00:0<zs.length:=by simp at h0;omega
  have c0:=hc 0 h00;have k:=II (show w.cell? ⟨b,off,s⟩=_ from c0);obtain⟨k1,rfl⟩:=k;refine⟨b,off,rfl,k1,fun i hi=>?_⟩;have hi2:i<len:=by simp at hi;omega
  have ci:=hc i (by omega);rw[hg i hi2,<-ci];unfold Addr.add;split
  .subst_vars;rfl
  .rfl
 .refine IY fun i hi=>?_;rw[hlen]at hi;have:=hb i (by omega);have:=hg i hi;omega
theorem Cv{H:Type}{enc:TypeId×Value->H}{W:World}{base:Nat}{v:Value}{d:DataW H}{p:List MemPlace}(hv:Value.okWide prog W .any base 22 v)(h:DataW.Trod enc prog W 0 (fun _=>true) true 22 v d p):
  ∃ao xs cap,v=.slice ao xs.length cap/\Bd W ao xs/\lu xs/\xs.length<=cap:=by
 obtain⟨a0,len,cap,rfl⟩:=okWide_slice underlying22 hv;obtain⟨fuel,hf⟩:=h;have hf2:DataW.trod enc prog W 0 (fun _=>true) true fuel 22 [.slice a0 len cap]=some (d,p):=by simpa [Value.cells]using hf
 rcases open_ints underlying22 underlying5 Tryz.cells5 hf2 with⟨hcs,_⟩ | ⟨x,l,cp,zs,hcs,_,hl,hm,hz,_,hcell,hwz⟩
 .simp at hcs;obtain⟨rfl,rfl,rfl⟩:=hcs;exact⟨none,[],0,rfl,JK _ _,(by intro x hx;cases hx),by simp⟩
 .simp at hcs;obtain⟨rfl,rfl,rfl⟩:=hcs;have hz2:zs.length=cap:=by simpa using hz
  obtain⟨xs,hx1,hx2,hx3⟩:=JH W x len zs (by omega) hcell hwz;subst hx1;exact⟨some x,xs,cap,rfl,hx2,hx3,hl⟩
end Go.Proofs.YtleegaihbgbcjaaGreatDoor
namespace Go.Proofs.YtleegaihbgbcjaaGreatDoor
open Go.RowKit Num Bit
theorem JL{a b:Bool}(ha:a=true)(hb:b=true):(a&&b)=true:=by rw[ha,hb];rfl
theorem yw{W:World}{fuel:Nat}{t:TypeId}{k:IntKind}{cs:List Value}{y:DataW Unit×List MemPlace}(hu:prog.underlying t=some (.int k))(h:DataW.trod (fun _=>()) prog W 0 (fun _=>true) false fuel t cs=some y):∃n,cs=[.int k n]/\y.1=.lit (.int k n):=by
 cases fuel with
 | zero=>simp[DataW.trod]at h
 | succ fuel=>
  unfold DataW.trod at h;rw[hu]at h;match cs,h with
  | [.int k' n],h=>
   dsimp only at h;split at h
   .rename_i hk;obtain⟨rfl,_⟩:=hk;cases h;exact⟨n,rfl,rfl⟩
   .cases h
theorem uO{α β:Type}(f:α->Option β):∀(L:List α) (ys:List β),L.mapM f=some ys->ys.length=L.length/\∀(i:Nat) a y,L[i]?=some a->ys[i]?=some y->f a=some y
 | [],ys,h=>by
  rw[List.mapM_nil]at h;cases h;exact⟨rfl,fun i a y e=>by simp at e⟩
 | b::L,ys,h=>by
  rw[List.mapM_cons]at h;simp only[Option.bind_eq_bind,Option.bind_eq_some_iff,Option.pure_def,Option.some.injEq]at h;obtain⟨z,h1,zs,h2,rfl⟩:=h;obtain⟨e1,e2⟩:=uO f L zs h2
  refine⟨by simp[e1],fun i a y ha hy=>?_⟩;cases i with
  | zero=>simp at ha hy;subst ha;subst hy;exact h1
  | succ i=>exact e2 i a y (by simpa using ha) (by simpa using hy)
theorem sF{W:World}{fuel n:Nat}{t e:TypeId}{k:IntKind}{cs:List Value}{l:List Int}{p:List MemPlace}(hu:prog.underlying t=some (.array n e))(he:prog.underlying e=some (.int k))(ce:prog.cellsOf e=1)(ct:prog.cellsOf t=n)
  (h:DataW.trod (fun _=>()) prog W 0 (fun _=>true) false fuel t cs=some (.agg (l.map fun x=>.lit (.int k x)),p)):cs=l.map fun x=>.int k x:=by
 cases fuel with
 | zero=>simp[DataW.trod]at h
 | succ fuel=>
  unfold DataW.trod at h;rw[hu]at h;dsimp only at h;split at h
  .rename_i hl;rw[Option.map_eq_some_iff]at h;obtain⟨ys,h1,h2⟩:=h;obtain⟨g1,g2⟩:=uO _ _ _ h1;simp only[Prod.mk.injEq,DataW.agg.injEq]at h2;have hy:=h2.1
   have ll:l.length=n:=by
    have:=congrArg List.length hy;simp only[List.length_map]at this;rw[<-this,g1,List.length_range]
   rw[ct]at hl;refine List.ext_getElem? fun i=>?_;by_cases hi:i<n
   .obtain⟨y,ey⟩:∃y,ys[i]?=some y:=⟨_,List.getElem?_eq_getElem (by rw[g1,List.length_range];exact hi)⟩;have e3:=g2 i i y (List.getElem?_range hi) ey;obtain⟨m,e4,e5⟩:=yw he e3
    have e6:(ys.map (·.1))[i]?=some (.lit (.int k m)):=by rw[List.getElem?_map,ey];exact congrArg some e5
    rw[hy,List.getElem?_map]at e6;obtain⟨x,ex⟩:∃x,l[i]?=some x:=⟨_,List.getElem?_eq_getElem (by omega)⟩;rw[ex]at e6;simp only[Option.map_some,Option.some.injEq,DataW.lit.injEq,Lit.int.injEq,true_and]at e6
    rw[List.getElem?_map,ex,e6];rw[ce,Nat.mul_one]at e4;have e7:=congrArg (·[0]?) e4;simp only[List.getElem?_take_of_lt (Nat.one_pos),List.getElem?_drop,Nat.add_zero]at e7;exact e7
   .rw[List.getElem?_eq_none (by omega),List.getElem?_eq_none (by rw[List.length_map];omega)]
  .cases h
theorem xp{W:World}{g:Nat}{nm:String}{cs:Array Value}{vs:List Value}(hg:prog.globalNamed nm=some g)(hv:W.var? prog nm=some cs)(hc:cs.toList=vs)(hm:∃c t,W.heap[g]?=some (.cells c t (0,0))):Tb W g vs:=by
 obtain⟨c,t,e⟩:=hm;refine⟨t,?_⟩;unfold World.var? at hv;rw[hg]at hv;simp only[Option.bind_some,e,Option.some.injEq]at hv;subst hv;unfold aa;rw[e,<-hc]
def laidL:List (String×DataW Unit):=[("errors.errorType",Rows.laid_errors_errorType),("haystack/rrr.ways",Rows.laid_haystack_rrr_ways),("haystack/rrr.widths",Rows.laid_haystack_rrr_widths)]
theorem FP{W:World}(h:laidMetH prog laidL W):GV W:=by
 have h0:laidMet prog [("haystack/rrr.ways",Rows.laid_haystack_rrr_ways),("haystack/rrr.widths",Rows.laid_haystack_rrr_widths)] W:=And.left (show _/\_ from h)
 obtain⟨ps,⟨g,t,cs,fuel,p,q,hg,ht,hv,hd,⟨g2,t2,cs2,fuel2,p2,q2,hg2,ht2,hv2,hd2,hr,hq⟩,hps⟩,_,hm⟩:=h0;obtain rfl:q2=[]:=hr
 obtain rfl:=Option.some.inj ((show prog.globalNamed "haystack/rrr.ways" =some 1 by kernel_rfl).symm.trans hg)
 obtain rfl:=Option.some.inj ((show prog.globalNamed "haystack/rrr.widths" =some 0 by kernel_rfl).symm.trans hg2)
 obtain rfl:=Option.some.inj ((show(prog.globals[1]?).map (·.type)=some 298 by kernel_rfl).symm.trans ht)
 obtain rfl:=Option.some.inj ((show(prog.globals[0]?).map (·.type)=some 283 by kernel_rfl).symm.trans ht2)
 have e1:cs.toList=wv gP:=(sF (l:=[1,15,105,455,1365,3003,5005,6435,6435,5005,3003,1365,455,105,15,1]) underlying298 underlying81 (by kernel_rfl) (by kernel_rfl) hd).trans rfl
 have e2:cs2.toList=vI bj:=(sF (l:=[0,4,7,9,11,12,13,13,13,13,12,11,9,7,4,0]) underlying283 underlying3 (by kernel_rfl) (by kernel_rfl) hd2).trans rfl
 have s1:cs.size=16:=by rw[<-Array.length_toList,e1];rfl
 have s2:cs2.size=16:=by rw[<-Array.length_toList,e2];rfl
 refine⟨xp hg2 hv2 e2 (hm _ 0 ?_).1,xp hg hv e1 (hm _ 0 ?_).1⟩
 .rw[hps,hq,s2];exact List.mem_append_right _ (List.mem_append_left _ (List.mem_append_left _ (List.mem_map.2 ⟨0,List.mem_range.2 (by decide),rfl⟩)))
 .rw[hps,s1];exact List.mem_append_left _ (List.mem_append_left _ (List.mem_map.2 ⟨0,List.mem_range.2 (by decide),rfl⟩))
end Go.Proofs.YtleegaihbgbcjaaGreatDoor
