import Derived.Test.YtleegaihbgbcjabGreatDoorT20
set_option linter.unusedVariables false
set_option linter.unusedSimpArgs false
set_option maxRecDepth 100000
set_option maxHeartbeats 16000000
open Go.Proofs.Tryz
namespace Go.Proofs.YtleegaihbgbcjabGreatDoor
open Go.RowKit Num Bit
theorem aB.nd{g base:Nat}{w w':World}{ao:Option Addr}{l:List Int}(h:aB g w w')(hx:Nd w ao l)(hf:Fr base ao)(hg:g<base):Nd w' ao l:=by
 intro h0;obtain⟨b,off,rfl,hlt,hc⟩:=hx h0;have hne:base<=b:=hf _ rfl;exact⟨b,off,rfl,by rw[h.size];exact hlt,fun i hi=>(h.cell (p:=⟨b,off+i,none⟩) (show b≠g by omega)).trans (hc i hi)⟩
def bT(cs:List Value):Prop:=∀v∈cs,∀n,v≠.int .u64 n
theorem bT.app{a b:List Value}(h:bT a)(g:bT b):bT (a++b):=fun v hv n=>by
 rcases List.mem_append.1 hv with e | e
 .exact h v e n
 .exact g v e n
theorem fH.nou{w:World}{cs:List Value}{a:cD}(h:fH w cs a):bT cs:=by
 obtain⟨ao,cap,so,sc,tO,tc,rfl,_⟩:=h;intro v hv n;simp at hv;rcases hv with rfl | rfl | rfl | rfl<;>simp
theorem fp.nou{w:World}{cs:List Value}{a:aP}(h:fp w cs a):bT cs:=by
 obtain⟨ao,cap,qo,dap,so,sc,tO,tc,rfl,_⟩:=h;intro v hv n;simp at hv;rcases hv with rfl | rfl | rfl | rfl | rfl | rfl | rfl | rfl | rfl<;>simp
theorem fG.nou{w:World}{cs:List Value}{a:bF}(h:fG w cs a):bT cs:=by
 obtain⟨ao,cap,qo,dap,rfl,_⟩:=h;intro v hv n;simp at hv;rcases hv with rfl | rfl | rfl | rfl | rfl | rfl | rfl | rfl<;>simp
theorem b_.only{w w2:World}{g base:Nat}{cs gs:List Value}{a:cD}{T:TypeId}(h:b_ w cs a)(nf:NF base 2 cs)(hg:g<base)(hc:aa w g gs T)(hn:bT gs)(hO:aB g w w2):b_ w2 cs a:=by
 obtain⟨⟨ao,cap,so,sc,tO,tc,rfl,h⟩,xl,sl,tl⟩:=h
 exact⟨⟨ao,cap,so,sc,tO,tc,rfl,⟨h.n,hO.wd h.x (h.x.apart hc hn),h.f,h.c,hO.nd h.s (nf _ _ _ (.inl rfl)) hg,h.sf,h.sc,hO.nd h.t (nf _ _ _ (.inr rfl)) hg,h.tf,h.tc⟩⟩,xl,sl,tl⟩
theorem bm.only{w w2:World}{g base:Nat}{cs gs:List Value}{a:aP}{T:TypeId}(h:bm w cs a)(nf:NF base 7 cs)(hg:g<base)(hc:aa w g gs T)(hn:bT gs)(hO:aB g w w2)(G2:GV w2):bm w2 cs a:=by
 obtain⟨⟨ao,cap,qo,dap,so,sc,tO,tc,rfl,r,a1,a2,a3,a4,a5,a6,a7,a8,a9,a10⟩,xl,yl,sl,tl,_⟩:=h
 exact⟨⟨ao,cap,qo,dap,so,sc,tO,tc,rfl,r,hO.wd a1 (a1.apart hc hn),a2,a3,hO.wd a4 (a4.apart hc hn),a5,a6,hO.nd a7 (nf _ _ _ (.inl rfl)) hg,a8,hO.nd a9 (nf _ _ _ (.inr rfl)) hg,a10⟩,xl,yl,sl,tl,G2⟩
theorem bJ.only{w w2:World}{g:Nat}{cs gs:List Value}{a:bF}{T:TypeId}(h:bJ w cs a)(hc:aa w g gs T)(hn:bT gs)(hO:aB g w w2):bJ w2 cs a:=by
 obtain⟨⟨ao,cap,qo,dap,rfl,r,a1,a2,a3,a4,a5,a6⟩,n3,xl,yl⟩:=h;exact⟨⟨ao,cap,qo,dap,rfl,r,hO.wd a1 (a1.apart hc hn),a2,a3,hO.wd a4 (a4.apart hc hn),a5,a6⟩,n3,xl,yl⟩
theorem dK:aD 0:=⟨by decide,by decide⟩
theorem z7arg(w:World):b_ w [Value.int .i64 0,.slice none 0 0,.slice none 0 0,.slice none 0 0] n7:=⟨⟨none,0,none,0,none,0,rfl,⟨dK,cE _ _,jz,Nat.le_refl _,gJ _ _,mf,Nat.le_refl _,gJ _ _,mf,Nat.le_refl _⟩⟩,Nat.zero_le _,Nat.zero_le _,Nat.zero_le _⟩
theorem z8a(w:World):fp w [Value.int .i64 0,.int .i64 0,.int .i64 0,.int .i64 0,.slice none 0 0,.int .i64 0,.slice none 0 0,.slice none 0 0,.slice none 0 0] n8:=⟨none,0,none,0,none,0,none,0,rfl,⟨dK,dK,dK,dK,dK,mf,mf⟩,cE _ _,jz,Nat.le_refl _,cE _ _,jz,Nat.le_refl _,gJ _ _,Nat.le_refl _,gJ _ _,Nat.le_refl _⟩
theorem z8arg(w:World)(G:GV w):bm w [Value.int .i64 0,.int .i64 0,.int .i64 0,.int .i64 0,.slice none 0 0,.int .i64 0,.slice none 0 0,.slice none 0 0,.slice none 0 0] n8:=⟨z8a w,Nat.zero_le _,Nat.zero_le _,Nat.zero_le _,Nat.zero_le _,G⟩
theorem z9arg(w:World):bJ w [Value.int .i64 0,.int .i64 0,.int .i64 0,.int .i64 0,.int .i64 0,.slice none 0 0,.int .i64 0,.slice none 0 0] n9:=⟨⟨none,0,none,0,rfl,⟨dK,dK,dK,dK,dK,dK⟩,cE _ _,jz,Nat.le_refl _,cE _ _,jz,Nat.le_refl _⟩,by decide,Nat.zero_le _,Nat.zero_le _⟩
theorem ki_mk{w:World}{cp cr cf:List Value}{K:Int}{p:cD}{r:aP}{f:bF}(hK:aD K)(h1:b_ w cp p)(h2:bm w cr r)(h3:bJ w cf f):KI w (.int .i64 K::(cp++(cr++cf))) ⟨K,p,r,f⟩:=
 ⟨⟨cp,cr,cf,rfl,hK,h1.arg,h2.arg,h3.arg⟩,⟨h1.xl,h1.sl,h1.tl,h2.xl,h2.yl,h2.sl,h2.tl,h3.n3,h3.xl,h3.yl⟩,h2.gv⟩
theorem iB{w:World}{cp cr cf:List Value}{K:Int}{p:cD}{r:aP}{f:bF}(hK:aD K)(h1:fH w cp p)(h2:fp w cr r)(h3:fG w cf f):dD w (.int .i64 K::(cp++(cr++cf))) ⟨K,p,r,f⟩:=⟨cp,cr,cf,rfl,hK,h1,h2,h3⟩
theorem nou_mk{cp cr cf:List Value}{K:Int}(h1:bT cp)(h2:bT cr)(h3:bT cf):bT (.int .i64 K::(cp++(cr++cf))):=fun v hv n=>by
 rcases List.mem_cons.1 hv with rfl | e
 .simp
 .exact(h1.app (h2.app h3)) v e n
theorem IW{w:World}{g:Nat}{T:TypeId}:∀(cs pre old post:List Value),old.length=cs.length->aa w g (pre++(old++post)) T->aa (w.setCells g pre.length cs) g (pre++(cs++post)) T/\aB g w (w.setCells g pre.length cs):=by
 intro cs;induction cs generalizing w with
 | nil=>
  intro pre old post hl h;obtain rfl:=List.eq_nil_of_length_eq_zero hl;exact⟨h,aB.refl _ _⟩
 | cons v r ih=>
  intro pre old post hl h;match old,hl with
  | u::o,hl=>
   have h2:aa (w.setCell ⟨g,pre.length,none⟩ v) g ((pre++[v])++(o++post)) T:=by
    have:=h.set pre.length v
    have e:(pre++(u::o++post)).set pre.length v=(pre++[v])++(o++post):=by
     rw[List.set_append_right _ _ (Nat.le_refl _),Nat.sub_self];simp
    rw[e]at this;exact this
   have k:=ih (pre++[v]) o post (by simpa using hl) h2;rw[List.length_append,List.length_singleton]at k;refine⟨?_,((aB.refl g w).set pre.length v).trans k.2⟩;have k1:=k.1;rw[List.append_assoc]at k1;exact k1
theorem gF{ops:Array Oper}{rest:List Oper}{d:Option Tmp}{ty T TT:TypeId}{ps:String}{af:Array Edge}{a:Act}{w:World}{Q:Exit->Act->World->Prop}{x y:Operand}
  (g:Nat) (pre old post cs:List Value) (hx:a.eval x=.pointer (some ⟨g,pre.length,none⟩)) (hy:a.eval y=.agg cs.toArray) (hc:aa w g (pre++(old++post)) TT) (lo:old.length=cs.length) (hi:(prog.info? T).map (·.size)=some cs.length) (h1:cs.toArray.all (·.oneCell')=true)
  (h:∀w1,aa w1 g (pre++(cs++post)) TT->aB g w w1->wpList prog ops Q rest (a.put d undef) w1):
  wpList prog ops Q (⟨d,.store T x y,ty,ps,af,none⟩::rest) a w:=by
 refine wpList_store_mid rfl T x y rfl g pre.length cs.toArray hx hy ?_ (by simpa using hi) h1 ?_
 .intro j hj;have hj:j<cs.length:=by simpa using hj
  have hl:pre.length+j<(pre++(old++post)).length:=by simp only[List.length_append];omega
  exact⟨by rw[hc.cell (pre.length+j) (List.getElem?_eq_getElem hl)];rfl,hc.frozen _⟩
 .have k:=IW cs pre old post lo hc;exact h _ k.1 k.2
theorem NF.mono{base b0 i:Nat}{cs:List Value}(h:NF base i cs)(hl:b0<=base):NF b0 i cs:=fun ao n c e a ha=>Nat.le_trans hl (h ao n c e a ha)
theorem NF.mid{base i j:Nat}{pre cs post:List Value}(h:NF base i cs)(hl:i+2<=cs.length)(hj:j=pre.length+i):NF base j (pre++(cs++post)):=fun ao n c e=>by
 subst hj;refine h ao n c ?_
 have k:∀q,q<cs.length->(pre++(cs++post))[pre.length+q]?=cs[q]?:=fun q hq=>by
  rw[List.getElem?_append_right (by omega),List.getElem?_append_left (by omega),show pre.length+q-pre.length=q by omega]
 rw[k i (by omega),show pre.length+i+1=pre.length+(i+1)by omega,k (i+1) (by omega)]at e;exact e
def fm(base:Nat)(cs:List Value):Prop:=NF base 3 cs/\NF base 12 cs
theorem I9(N:Int)(ao:Option Addr)(xs:List Nat)(cap:Nat)(w:World)(hN:aD N)(hx:Wd w ao xs)(hf:aA xs)(hcap:xs.length<=cap)(hl:N<=3000/\xs.length<=1048576)(GG:GV w):
  Calls prog 26 #[.int .i64 2,.agg #[.int .i64 N,.slice ao xs.length cap]] w fun e w'=>∃cs:List Value,e=.returned (.tuple #[.agg cs.toArray,.int .i64 (kE 2 N xs)])/\KI w' cs (kB 2 N xs)/\Below w.heap.size w w'/\fm w.heap.size cs:=by
 obtain⟨W,hW⟩:∃W,W=((w.alloc (.cells #[.int .i64 N,.slice ao xs.length cap] 53)).alloc (.cells [Value.int .i64 0,.int .i64 0,.slice none 0 0,.slice none 0 0,.slice none 0 0,.int .i64 0,.int .i64 0,.int .i64 0,.int .i64 0,.slice none 0 0,.int .i64 0,.slice none 0 0,.slice none 0 0,.slice none 0 0,.int .i64 0,.int .i64 0,.int .i64 0,.int .i64 0,.int .i64 0,.slice none 0 0,.int .i64 0,.slice none 0 0].toArray 63)).alloc (.cells [Value.int .i64 0,.int .i64 0,.slice none 0 0,.slice none 0 0,.slice none 0 0,.int .i64 0,.int .i64 0,.int .i64 0,.int .i64 0,.slice none 0 0,.int .i64 0,.slice none 0 0,.slice none 0 0,.slice none 0 0,.int .i64 0,.int .i64 0,.int .i64 0,.int .i64 0,.int .i64 0,.slice none 0 0,.int .i64 0,.slice none 0 0].toArray 63):=⟨_,rfl⟩
 have bw:Below w.heap.size w W:=by rw[hW];exact((below_alloc w _).alloc (by simp) _).alloc (by simp;omega) _
 have B0:aa W w.heap.size [.int .i64 N,.slice ao xs.length cap] 53:=by rw[hW];exact((aa.new w _ _).alloc _).alloc _
 have B4:aa W (w.heap.size+1) [Value.int .i64 0,.int .i64 0,.slice none 0 0,.slice none 0 0,.slice none 0 0,.int .i64 0,.int .i64 0,.int .i64 0,.int .i64 0,.slice none 0 0,.int .i64 0,.slice none 0 0,.slice none 0 0,.slice none 0 0,.int .i64 0,.int .i64 0,.int .i64 0,.int .i64 0,.int .i64 0,.slice none 0 0,.int .i64 0,.slice none 0 0] 63:=by rw[hW];exact(aa.new2 w _ _ _).alloc _
 have B6:aa W (w.heap.size+2) [Value.int .i64 0,.int .i64 0,.slice none 0 0,.slice none 0 0,.slice none 0 0,.int .i64 0,.int .i64 0,.int .i64 0,.int .i64 0,.slice none 0 0,.int .i64 0,.slice none 0 0,.slice none 0 0,.slice none 0 0,.int .i64 0,.int .i64 0,.int .i64 0,.int .i64 0,.int .i64 0,.slice none 0 0,.int .i64 0,.slice none 0 0] 63:=by rw[hW];exact(aa.new2 (w.alloc _) _ _ _).at (by simp)
 have hIV:=Hid.mk8 oU
 have H8:Hid (∀w0,Below w.heap.size w w0->Calls prog 52 #[.agg #[.int .i64 N,.slice ao xs.length cap]] w0 fun e w'=>∃cs:List Value,e=.returned (.tuple #[.agg cs.toArray,.int .i64 (kE8 N xs)])/\bm w' cs (kB8 N xs)/\NF w0.heap.size 7 cs/\Below w0.heap.size w0 w'):=fun w0 h=>Jc N ao xs cap w0 hN (hx.keep h) hf hcap hl.2 (GG.kept h)
 subst hW;have hK:aD 2:=by unfold aD;decide
 have eE:kE 2 N xs=kE8 N xs:=rfl;rw[eE];by_cases z:kE8 N xs=0
 .have ew:kB 2 N xs=⟨2,n7,kB8 N xs,n9⟩:=oO N xs z;rw[z]at H8⊢;clear eE z;go_enter func26,ntmps26;go_wp2_with (refine aJ (w.heap.size+2) _ _ rfl rfl B6 rfl hIV.out (by simp[Value.oneCell']) ?_)
  intro w1 B6 O1;replace B0:=O1.cel B0 (by omega);replace B4:=O1.cel B4 (by omega);replace bw:=bw.trans (O1.below (by omega));clear O1;have r0:=B0.cell 0 rfl;have r1:=B0.cell 1 rfl;go_wp2_with fail
  refine(H8.out _ bw).mono ?_;rintro e w2 ⟨cs,rfl,hP,hN2,hb⟩;have sz:=B6.lt;have sz2:=hb.size;replace B4:=B4.kept hb;replace B6:=B6.kept hb;replace bw:=bg bw hb;clear hb r0 r1 B0
  go_wp2_with (refine gF (w.heap.size+2) (Value.int .i64 2::[Value.int .i64 0,.slice none 0 0,.slice none 0 0,.slice none 0 0]) [Value.int .i64 0,.int .i64 0,.int .i64 0,.int .i64 0,.slice none 0 0,.int .i64 0,.slice none 0 0,.slice none 0 0,.slice none 0 0] [Value.int .i64 0,.int .i64 0,.int .i64 0,.int .i64 0,.int .i64 0,.slice none 0 0,.int .i64 0,.slice none 0 0] cs rfl rfl B6 hP.arg.nine hP.arg.len hP.arg.one ?_)
  intro w3 B7 O3;have hQ:=hP.only hN2 (by omega) B6 (nou_mk (z7arg w).arg.nou (z8a w).nou (z9arg w).arg.nou) O3 (GG.kept (bw.trans (O3.below (by omega))));replace B4:=O3.cel B4 (by omega)
  replace bw:=bw.trans (O3.below (by omega))
  have B8:aa w3 (w.heap.size+2) (Value.int .i64 2::([Value.int .i64 0,.slice none 0 0,.slice none 0 0,.slice none 0 0]++(cs++[Value.int .i64 0,.int .i64 0,.int .i64 0,.int .i64 0,.int .i64 0,.slice none 0 0,.int .i64 0,.slice none 0 0]))) 63:=B7
  have HL:=Hid.mk8 (ki_mk hK (z7arg w3) hQ (z9arg w3)).arg.len;have H1:=Hid.mk8 (ki_mk hK (z7arg w3) hQ (z9arg w3)).arg.one;have H9:=Hid.mk8 (ki_mk hK (z7arg w3) hQ (z9arg w3)).arg.nine
  have HNF:Hid (fm w.heap.size (Value.int .i64 2::([Value.int .i64 0,.slice none 0 0,.slice none 0 0,.slice none 0 0]++(cs++[Value.int .i64 0,.int .i64 0,.int .i64 0,.int .i64 0,.int .i64 0,.slice none 0 0,.int .i64 0,.slice none 0 0])))):=⟨cW (a_ _) (a_ _),(hN2.mono (by omega)).mid (pre:=Value.int .i64 2::[Value.int .i64 0,.slice none 0 0,.slice none 0 0,.slice none 0 0]) (by have:=H9.out;have:=hQ.arg.nine;omega) rfl⟩
  have HQ:=Hid.mk8 (And.intro hQ hN2);clear B7 O3 B6 hP hN2 hQ
  go_wp2_with (first | refine bE (w.heap.size+2) _ (by rfl) rfl B8 underlying63 HL.out ?_ | refine aJ (w.heap.size+1) _ _ rfl rfl B4 H9.out HL.out H1.out ?_);intro w9 B9 O9
  have HZ:=Hid.mk8 (And.intro B9 (And.intro (ki_mk hK (z7arg w9) (HQ.out.1.only HQ.out.2 (by omega) B4 (nou_mk (z7arg w).arg.nou (z8a w).nou (z9arg w).arg.nou) O9 (GG.kept (bw.trans (O9.below (by omega))))) (z9arg w9)) (bw.trans (O9.below (by omega)))))
  clear B9 O9 B8 B4 HQ;go_wp2
  (try simp only[Exit.inBlock,Exit.then]);refine bodyPost_ret (bj rfl (w.heap.size+1) _ rfl HZ.out.1 underlying63 HL.out) rfl ⟨_,rfl,?_,HZ.out.2.2,HNF.out⟩;rw[ew];exact HZ.out.2.1
 .have ew:kB 2 N xs=⟨0,n7,n8,n9⟩:=jO 2 N xs (by rw[eE];exact z);have zz:(kE8 N xs != 0)=true:=by simp[z]
  clear eE z;generalize kE8 N xs=E1 at *;go_enter func26,ntmps26;go_wp2_with (refine aJ (w.heap.size+2) _ _ rfl rfl B6 rfl hIV.out (by simp[Value.oneCell']) ?_);intro w1 B6 O1
  replace B0:=O1.cel B0 (by omega);replace B4:=O1.cel B4 (by omega);replace bw:=bw.trans (O1.below (by omega));clear O1;have r0:=B0.cell 0 rfl;have r1:=B0.cell 1 rfl;go_wp2_with fail;refine(H8.out _ bw).mono ?_
  rintro e w2 ⟨cs,rfl,hP,hN2,hb⟩;have sz:=B6.lt;have sz2:=hb.size;replace B4:=B4.kept hb;replace B6:=B6.kept hb;replace bw:=bg bw hb;clear hb r0 r1 B0
  go_wp2_with (refine gF (w.heap.size+2) (Value.int .i64 2::[Value.int .i64 0,.slice none 0 0,.slice none 0 0,.slice none 0 0]) [Value.int .i64 0,.int .i64 0,.int .i64 0,.int .i64 0,.slice none 0 0,.int .i64 0,.slice none 0 0,.slice none 0 0,.slice none 0 0] [Value.int .i64 0,.int .i64 0,.int .i64 0,.int .i64 0,.int .i64 0,.slice none 0 0,.int .i64 0,.slice none 0 0] cs rfl rfl B6 hP.arg.nine hP.arg.len hP.arg.one ?_)
  intro w3 B7 O3;replace B4:=O3.cel B4 (by omega);replace bw:=bw.trans (O3.below (by omega));clear B7 O3 B6 hP hN2;go_wp2_with (refine aJ (w.heap.size+1) _ _ rfl rfl B4 rfl hIV.out (by simp[Value.oneCell']) ?_)
  intro w9 B9 O9;have HZ:=Hid.mk8 (And.intro B9 (bw.trans (O9.below (by omega))));clear B9 O9;go_wp2
  (try simp only[Exit.inBlock,Exit.then]);refine bodyPost_ret (bj rfl (w.heap.size+1) _ rfl HZ.out.1 underlying63 hIV.out) rfl ⟨_,rfl,?_,HZ.out.2,cW (a_ _) (a_ _),cW (a_ _) (a_ _)⟩;rw[ew]
  exact ki_mk dK (z7arg _) (z8arg _ (GG.kept HZ.out.2)) (z9arg _)
theorem xC(k N:Int)(ao:Option Addr)(xs:List Nat)(cap:Nat)(w:World)(hK:aD k)(hN:aD N)(hx:Wd w ao xs)(hf:aA xs)(hcap:xs.length<=cap)(hl:N<=3000/\xs.length<=1048576)(GG:GV w):
  Calls prog 26 #[.int .i64 k,.agg #[.int .i64 N,.slice ao xs.length cap]] w fun e w'=>∃cs:List Value,e=.returned (.tuple #[.agg cs.toArray,.int .i64 (kE k N xs)])/\KI w' cs (kB k N xs)/\Below w.heap.size w w'/\fm w.heap.size cs:=by
 by_cases q2:k=2
 .subst q2;exact I9 N ao xs cap w hN hx hf hcap hl GG
 obtain⟨W,hW⟩:∃W,W=((w.alloc (.cells #[.int .i64 N,.slice ao xs.length cap] 53)).alloc (.cells [Value.int .i64 0,.int .i64 0,.slice none 0 0,.slice none 0 0,.slice none 0 0,.int .i64 0,.int .i64 0,.int .i64 0,.int .i64 0,.slice none 0 0,.int .i64 0,.slice none 0 0,.slice none 0 0,.slice none 0 0,.int .i64 0,.int .i64 0,.int .i64 0,.int .i64 0,.int .i64 0,.slice none 0 0,.int .i64 0,.slice none 0 0].toArray 63)).alloc (.cells [Value.int .i64 0,.int .i64 0,.slice none 0 0,.slice none 0 0,.slice none 0 0,.int .i64 0,.int .i64 0,.int .i64 0,.int .i64 0,.slice none 0 0,.int .i64 0,.slice none 0 0,.slice none 0 0,.slice none 0 0,.int .i64 0,.int .i64 0,.int .i64 0,.int .i64 0,.int .i64 0,.slice none 0 0,.int .i64 0,.slice none 0 0].toArray 63):=⟨_,rfl⟩
 have bw:Below w.heap.size w W:=by rw[hW];exact((below_alloc w _).alloc (by simp) _).alloc (by simp;omega) _
 have B0:aa W w.heap.size [.int .i64 N,.slice ao xs.length cap] 53:=by rw[hW];exact((aa.new w _ _).alloc _).alloc _
 have B4:aa W (w.heap.size+1) [Value.int .i64 0,.int .i64 0,.slice none 0 0,.slice none 0 0,.slice none 0 0,.int .i64 0,.int .i64 0,.int .i64 0,.int .i64 0,.slice none 0 0,.int .i64 0,.slice none 0 0,.slice none 0 0,.slice none 0 0,.int .i64 0,.int .i64 0,.int .i64 0,.int .i64 0,.int .i64 0,.slice none 0 0,.int .i64 0,.slice none 0 0] 63:=by rw[hW];exact(aa.new2 w _ _ _).alloc _
 have B6:aa W (w.heap.size+2) [Value.int .i64 0,.int .i64 0,.slice none 0 0,.slice none 0 0,.slice none 0 0,.int .i64 0,.int .i64 0,.int .i64 0,.int .i64 0,.slice none 0 0,.int .i64 0,.slice none 0 0,.slice none 0 0,.slice none 0 0,.int .i64 0,.int .i64 0,.int .i64 0,.int .i64 0,.int .i64 0,.slice none 0 0,.int .i64 0,.slice none 0 0] 63:=by rw[hW];exact(aa.new2 (w.alloc _) _ _ _).at (by simp)
 have hIV:=Hid.mk8 oU
 have H7:Hid (∀w0,Below w.heap.size w w0->Calls prog 51 #[.agg #[.int .i64 N,.slice ao xs.length cap]] w0 fun e w'=>∃cs:List Value,e=.returned (.tuple #[.agg cs.toArray,.int .i64 (kE7 N xs)])/\b_ w' cs (kB7 N xs)/\NF w0.heap.size 2 cs/\Below w0.heap.size w0 w'):=fun w0 h=>Jd N ao xs cap w0 hN (hx.keep h) hf hcap hl.2
 have H9:Hid (∀w0,Below w.heap.size w w0->Calls prog 53 #[.agg #[.int .i64 N,.slice ao xs.length cap]] w0 fun e w'=>∃cs:List Value,e=.returned (.tuple #[.agg cs.toArray,.int .i64 (kE9 N xs)])/\bJ w' cs (kB9 N xs)/\Below w0.heap.size w0 w'):=fun w0 h=>Jb N ao xs cap w0 hN (hx.keep h) hf hcap hl
 subst hW;by_cases q1:k=1
 .subst q1;have eE:kE 1 N xs=kE7 N xs:=rfl;rw[eE];by_cases z:kE7 N xs=0
  .have ew:kB 1 N xs=⟨1,kB7 N xs,n8,n9⟩:=oP N xs z;rw[z]at H7⊢;clear eE z;go_enter func26,ntmps26;go_wp2_with (refine aJ (w.heap.size+2) _ _ rfl rfl B6 rfl hIV.out (by simp[Value.oneCell']) ?_)
   intro w1 B6 O1;replace B0:=O1.cel B0 (by omega);replace B4:=O1.cel B4 (by omega);replace bw:=bw.trans (O1.below (by omega));clear O1;have r0:=B0.cell 0 rfl;have r1:=B0.cell 1 rfl;go_wp2_with fail
   refine(H7.out _ bw).mono ?_;rintro e w2 ⟨cs,rfl,hP,hN2,hb⟩;have sz:=B6.lt;have sz2:=hb.size;replace B4:=B4.kept hb;replace B6:=B6.kept hb;replace bw:=bg bw hb;clear hb r0 r1 B0
   go_wp2_with (refine gF (w.heap.size+2) [Value.int .i64 1] [Value.int .i64 0,.slice none 0 0,.slice none 0 0,.slice none 0 0] ([Value.int .i64 0,.int .i64 0,.int .i64 0,.int .i64 0,.slice none 0 0,.int .i64 0,.slice none 0 0,.slice none 0 0,.slice none 0 0]++[Value.int .i64 0,.int .i64 0,.int .i64 0,.int .i64 0,.int .i64 0,.slice none 0 0,.int .i64 0,.slice none 0 0]) cs rfl rfl B6 hP.arg.four.symm hP.arg.len hP.arg.one ?_)
   intro w3 B7 O3;have hQ:=hP.only hN2 (by omega) B6 (nou_mk (z7arg w).arg.nou (z8a w).nou (z9arg w).arg.nou) O3;replace B4:=O3.cel B4 (by omega);replace bw:=bw.trans (O3.below (by omega))
   have B8:aa w3 (w.heap.size+2) (Value.int .i64 1::(cs++([Value.int .i64 0,.int .i64 0,.int .i64 0,.int .i64 0,.slice none 0 0,.int .i64 0,.slice none 0 0,.slice none 0 0,.slice none 0 0]++[Value.int .i64 0,.int .i64 0,.int .i64 0,.int .i64 0,.int .i64 0,.slice none 0 0,.int .i64 0,.slice none 0 0]))) 63:=B7
   have HL:=Hid.mk8 (iB hK hQ.arg (z8a w3) (z9arg w3).arg).len;have H1:=Hid.mk8 (iB hK hQ.arg (z8a w3) (z9arg w3).arg).one;have H9:=Hid.mk8 (iB hK hQ.arg (z8a w3) (z9arg w3).arg).nine
   have HNF:Hid (fm w.heap.size (Value.int .i64 1::(cs++([Value.int .i64 0,.int .i64 0,.int .i64 0,.int .i64 0,.slice none 0 0,.int .i64 0,.slice none 0 0,.slice none 0 0,.slice none 0 0]++[Value.int .i64 0,.int .i64 0,.int .i64 0,.int .i64 0,.int .i64 0,.slice none 0 0,.int .i64 0,.slice none 0 0])))):=⟨(hN2.mono (by omega)).mid (pre:=[Value.int .i64 1]) (by have:=hQ.arg.four;omega) rfl,(show NF w.heap.size 7 [Value.int .i64 0,.int .i64 0,.int .i64 0,.int .i64 0,.slice none 0 0,.int .i64 0,.slice none 0 0,.slice none 0 0,.slice none 0 0]from cW (a_ _) (a_ _)).mid (pre:=Value.int .i64 1::cs) (by decide) (by have:=hQ.arg.four;simp;omega)⟩
   have HQ:=Hid.mk8 (And.intro hQ hN2);clear B7 O3 B6 hP hN2 hQ
   go_wp2_with (first | refine bE (w.heap.size+2) _ (by rfl) rfl B8 underlying63 HL.out ?_ | refine aJ (w.heap.size+1) _ _ rfl rfl B4 H9.out HL.out H1.out ?_);intro w9 B9 O9
   have HZ:=Hid.mk8 (And.intro B9 (And.intro (ki_mk hK (HQ.out.1.only HQ.out.2 (by omega) B4 (nou_mk (z7arg w).arg.nou (z8a w).nou (z9arg w).arg.nou) O9) (z8arg w9 (GG.kept (bw.trans (O9.below (by omega))))) (z9arg w9)) (bw.trans (O9.below (by omega)))))
   clear B9 O9 B8 B4 HQ;go_wp2
   (try simp only[Exit.inBlock,Exit.then]);refine bodyPost_ret (bj rfl (w.heap.size+1) _ rfl HZ.out.1 underlying63 HL.out) rfl ⟨_,rfl,?_,HZ.out.2.2,HNF.out⟩;rw[ew];exact HZ.out.2.1
  .have ew:kB 1 N xs=⟨0,n7,n8,n9⟩:=jO 1 N xs (by rw[eE];exact z);have zz:(kE7 N xs != 0)=true:=by simp[z]
   clear eE z;generalize kE7 N xs=E1 at *;go_enter func26,ntmps26;go_wp2_with (refine aJ (w.heap.size+2) _ _ rfl rfl B6 rfl hIV.out (by simp[Value.oneCell']) ?_);intro w1 B6 O1
   replace B0:=O1.cel B0 (by omega);replace B4:=O1.cel B4 (by omega);replace bw:=bw.trans (O1.below (by omega));clear O1;have r0:=B0.cell 0 rfl;have r1:=B0.cell 1 rfl;go_wp2_with fail;refine(H7.out _ bw).mono ?_
   rintro e w2 ⟨cs,rfl,hP,hN2,hb⟩;have sz:=B6.lt;have sz2:=hb.size;replace B4:=B4.kept hb;replace B6:=B6.kept hb;replace bw:=bg bw hb;clear hb r0 r1 B0
   go_wp2_with (refine gF (w.heap.size+2) [Value.int .i64 1] [Value.int .i64 0,.slice none 0 0,.slice none 0 0,.slice none 0 0] ([Value.int .i64 0,.int .i64 0,.int .i64 0,.int .i64 0,.slice none 0 0,.int .i64 0,.slice none 0 0,.slice none 0 0,.slice none 0 0]++[Value.int .i64 0,.int .i64 0,.int .i64 0,.int .i64 0,.int .i64 0,.slice none 0 0,.int .i64 0,.slice none 0 0]) cs rfl rfl B6 hP.arg.four.symm hP.arg.len hP.arg.one ?_)
   intro w3 B7 O3;replace B4:=O3.cel B4 (by omega);replace bw:=bw.trans (O3.below (by omega));clear B7 O3 B6 hP hN2;go_wp2_with (refine aJ (w.heap.size+1) _ _ rfl rfl B4 rfl hIV.out (by simp[Value.oneCell']) ?_)
   intro w9 B9 O9;have HZ:=Hid.mk8 (And.intro B9 (bw.trans (O9.below (by omega))));clear B9 O9;go_wp2
   (try simp only[Exit.inBlock,Exit.then]);refine bodyPost_ret (bj rfl (w.heap.size+1) _ rfl HZ.out.1 underlying63 hIV.out) rfl ⟨_,rfl,?_,HZ.out.2,cW (a_ _) (a_ _),cW (a_ _) (a_ _)⟩;rw[ew]
   exact ki_mk dK (z7arg _) (z8arg _ (GG.kept HZ.out.2)) (z9arg _)
 by_cases q3:k=3
 .subst q3;have eE:kE 3 N xs=kE9 N xs:=rfl;rw[eE];by_cases z:kE9 N xs=0
  .have ew:kB 3 N xs=⟨3,n7,n8,kB9 N xs⟩:=mV N xs z;rw[z]at H9⊢;clear eE z;go_enter func26,ntmps26;go_wp2_with (refine aJ (w.heap.size+2) _ _ rfl rfl B6 rfl hIV.out (by simp[Value.oneCell']) ?_)
   intro w1 B6 O1;replace B0:=O1.cel B0 (by omega);replace B4:=O1.cel B4 (by omega);replace bw:=bw.trans (O1.below (by omega));clear O1;have r0:=B0.cell 0 rfl;have r1:=B0.cell 1 rfl;go_wp2_with fail
   refine(H9.out _ bw).mono ?_;rintro e w2 ⟨cs,rfl,hP,hb⟩;have sz:=B6.lt;have sz2:=hb.size;replace B4:=B4.kept hb;replace B6:=B6.kept hb;replace bw:=bg bw hb;clear hb r0 r1 B0
   go_wp2_with (refine gF (w.heap.size+2) (Value.int .i64 3::([Value.int .i64 0,.slice none 0 0,.slice none 0 0,.slice none 0 0]++[Value.int .i64 0,.int .i64 0,.int .i64 0,.int .i64 0,.slice none 0 0,.int .i64 0,.slice none 0 0,.slice none 0 0,.slice none 0 0])) [Value.int .i64 0,.int .i64 0,.int .i64 0,.int .i64 0,.int .i64 0,.slice none 0 0,.int .i64 0,.slice none 0 0] [] cs rfl rfl B6 hP.arg.nine hP.arg.len hP.arg.one ?_)
   intro w3 B7 O3;have hQ:=hP.only B6 (nou_mk (z7arg w).arg.nou (z8a w).nou (z9arg w).arg.nou) O3;replace B4:=O3.cel B4 (by omega);replace bw:=bw.trans (O3.below (by omega))
   have B8:aa w3 (w.heap.size+2) (Value.int .i64 3::([Value.int .i64 0,.slice none 0 0,.slice none 0 0,.slice none 0 0]++([Value.int .i64 0,.int .i64 0,.int .i64 0,.int .i64 0,.slice none 0 0,.int .i64 0,.slice none 0 0,.slice none 0 0,.slice none 0 0]++cs))) 63:=by simpa using B7
   have HL:=Hid.mk8 (iB hK (z7arg w3).arg (z8a w3) hQ.arg).len;have H1:=Hid.mk8 (iB hK (z7arg w3).arg (z8a w3) hQ.arg).one;have H9:=Hid.mk8 (iB hK (z7arg w3).arg (z8a w3) hQ.arg).nine
   have HNF:Hid (fm w.heap.size (Value.int .i64 3::([Value.int .i64 0,.slice none 0 0,.slice none 0 0,.slice none 0 0]++([Value.int .i64 0,.int .i64 0,.int .i64 0,.int .i64 0,.slice none 0 0,.int .i64 0,.slice none 0 0,.slice none 0 0,.slice none 0 0]++cs)))):=⟨cW (a_ _) (a_ _),cW (a_ _) (a_ _)⟩
   have HQ:=Hid.mk8 (And.intro hQ trivial);clear B7 O3 B6 hP hQ
   go_wp2_with (first | refine bE (w.heap.size+2) _ (by rfl) rfl B8 underlying63 HL.out ?_ | refine aJ (w.heap.size+1) _ _ rfl rfl B4 H9.out HL.out H1.out ?_);intro w9 B9 O9
   have HZ:=Hid.mk8 (And.intro B9 (And.intro (ki_mk hK (z7arg w9) (z8arg w9 (GG.kept (bw.trans (O9.below (by omega))))) (HQ.out.1.only B4 (nou_mk (z7arg w).arg.nou (z8a w).nou (z9arg w).arg.nou) O9)) (bw.trans (O9.below (by omega)))))
   clear B9 O9 B8 B4 HQ;go_wp2
   (try simp only[Exit.inBlock,Exit.then]);refine bodyPost_ret (bj rfl (w.heap.size+1) _ rfl HZ.out.1 underlying63 HL.out) rfl ⟨_,rfl,?_,HZ.out.2.2,HNF.out⟩;rw[ew];exact HZ.out.2.1
  .have ew:kB 3 N xs=⟨0,n7,n8,n9⟩:=jO 3 N xs (by rw[eE];exact z);have zz:(kE9 N xs != 0)=true:=by simp[z]
   clear eE z;generalize kE9 N xs=E1 at *;go_enter func26,ntmps26;go_wp2_with (refine aJ (w.heap.size+2) _ _ rfl rfl B6 rfl hIV.out (by simp[Value.oneCell']) ?_);intro w1 B6 O1
   replace B0:=O1.cel B0 (by omega);replace B4:=O1.cel B4 (by omega);replace bw:=bw.trans (O1.below (by omega));clear O1;have r0:=B0.cell 0 rfl;have r1:=B0.cell 1 rfl;go_wp2_with fail;refine(H9.out _ bw).mono ?_
   rintro e w2 ⟨cs,rfl,hP,hb⟩;have sz:=B6.lt;have sz2:=hb.size;replace B4:=B4.kept hb;replace B6:=B6.kept hb;replace bw:=bg bw hb;clear hb r0 r1 B0
   go_wp2_with (refine gF (w.heap.size+2) (Value.int .i64 3::([Value.int .i64 0,.slice none 0 0,.slice none 0 0,.slice none 0 0]++[Value.int .i64 0,.int .i64 0,.int .i64 0,.int .i64 0,.slice none 0 0,.int .i64 0,.slice none 0 0,.slice none 0 0,.slice none 0 0])) [Value.int .i64 0,.int .i64 0,.int .i64 0,.int .i64 0,.int .i64 0,.slice none 0 0,.int .i64 0,.slice none 0 0] [] cs rfl rfl B6 hP.arg.nine hP.arg.len hP.arg.one ?_)
   intro w3 B7 O3;replace B4:=O3.cel B4 (by omega);replace bw:=bw.trans (O3.below (by omega));clear B7 O3 B6 hP;go_wp2_with (refine aJ (w.heap.size+1) _ _ rfl rfl B4 rfl hIV.out (by simp[Value.oneCell']) ?_)
   intro w9 B9 O9;have HZ:=Hid.mk8 (And.intro B9 (bw.trans (O9.below (by omega))));clear B9 O9;go_wp2
   (try simp only[Exit.inBlock,Exit.then]);refine bodyPost_ret (bj rfl (w.heap.size+1) _ rfl HZ.out.1 underlying63 hIV.out) rfl ⟨_,rfl,?_,HZ.out.2,cW (a_ _) (a_ _),cW (a_ _) (a_ _)⟩;rw[ew]
   exact ki_mk dK (z7arg _) (z8arg _ (GG.kept HZ.out.2)) (z9arg _)
 have eE:kE k N xs=5:=by unfold kE;rw[if_neg q1,if_neg q2,if_neg q3]
 have ew:kB k N xs=⟨0,n7,n8,n9⟩:=jO k N xs (by rw[eE];decide);rw[eE];have d1:(k==1)=false:=by simp[q1]
 have d2:(k==2)=false:=by simp[q2]
 have d3:(k==3)=false:=by simp[q3]
 clear eE;go_enter func26,ntmps26;go_wp2_with (refine aJ (w.heap.size+2) _ _ rfl rfl B6 rfl hIV.out (by simp[Value.oneCell']) ?_);intro w1 B6 O1;replace B0:=O1.cel B0 (by omega)
 replace B4:=O1.cel B4 (by omega);replace bw:=bw.trans (O1.below (by omega));clear O1;have r0:=B0.cell 0 rfl;have r1:=B0.cell 1 rfl
 go_wp2_with (refine aJ (w.heap.size+1) _ _ rfl rfl B4 rfl hIV.out (by simp[Value.oneCell']) ?_);intro w9 B9 O9;have HZ:=Hid.mk8 (And.intro B9 (bw.trans (O9.below (by omega))));clear B9 O9;go_wp2
 (try simp only[Exit.inBlock,Exit.then]);refine bodyPost_ret (bj rfl (w.heap.size+1) _ rfl HZ.out.1 underlying63 hIV.out) rfl ⟨_,rfl,?_,HZ.out.2,cW (a_ _) (a_ _),cW (a_ _) (a_ _)⟩;rw[ew]
 exact ki_mk dK (z7arg _) (z8arg _ (GG.kept HZ.out.2)) (z9arg _)
def ra0:RA:=⟨0,n7,n8,n9⟩
def Lv(w:World)(lo:Option Addr)(av:List RA):Prop:=
 0<av.length->∃b off,lo=some ⟨b,off,none⟩/\b<w.heap.size/\∀l,l<av.length->∃cs,w.rangeAt b (off+l*22) cs/\KI w cs (av.getD l ra0)
theorem jG{w w':World}{b o base:Nat}{cs:List Value}(h:w.rangeAt b o cs)(hb:Below base w w')(hl:b<base):w'.rangeAt b o cs:=fun j v hv=>(hb.cell (p:=⟨b,o+j,none⟩) hl).trans (h j v hv)
theorem Lv.keep{w w':World}{lo:Option Addr}{av:List RA}(h:Lv w lo av)(hb:Below w.heap.size w w'):Lv w' lo av:=by
 intro h0;obtain⟨b,off,e,hlt,hc⟩:=h h0;refine⟨b,off,e,Nat.lt_of_lt_of_le hlt hb.size,fun l hl=>?_⟩;obtain⟨cs,h1,h2⟩:=hc l hl;exact⟨cs,jG h1 hb hlt,h2.keep hb⟩
theorem dD.head{w:World}{cs:List Value}{a:RA}(h:dD w cs a):cs[0]?=some (.int .i64 a.K):=by
 obtain⟨cp,cr,cf,rfl,_⟩:=h;rfl
def zv:List Value:=[.int .i64 0,.int .i64 0,.slice none 0 0,.slice none 0 0,.slice none 0 0,.int .i64 0,.int .i64 0,.int .i64 0,.int .i64 0,.slice none 0 0,.int .i64 0,.slice none 0 0,.slice none 0 0,.slice none 0 0,.int .i64 0,.int .i64 0,.int .i64 0,.int .i64 0,.int .i64 0,.slice none 0 0,.int .i64 0,.slice none 0 0]
theorem mY:(prog.info? 63).map (fun i=>(i.zero,i.size))=some (some (.agg zv.toArray),zv.length):=by kernel_rfl
theorem lQ:zv.length=22:=rfl
theorem Ft(a:RA)(ok:aX a=true):a.p.N+a.r.N+a.f.N=kBN a/\0<=a.p.N/\0<=a.r.N/\0<=a.f.N:=by
 have nn:=(bp _ _ (kH a ok)).1
 have kz:cO a=true:=by
  cases h:cO a with
  | true=>rfl
  | false=>
   have e:kOn a=0:=by unfold kOn;rw[h];rfl
   rw[(fU (by omega) (by omega) (by omega)).1]at ok;cases ok
 have ek:kOn a=a.K:=by unfold kOn;rw[if_pos kz]
 have z7n:z7 a.p=true->a.p.N=0:=fun h=>by unfold z7 norw at h;simp at h;exact h.1.1
 have z8n:z8 a.r=true->a.r.N=0:=fun h=>by unfold z8 at h;simp at h;exact h.1
 have z9n:z9 a.f=true->a.f.N=0:=fun h=>by unfold z9 at h;simp at h;exact h.1
 unfold cO at kz;simp only[Bool.and_eq_true,Bool.or_eq_true,decide_eq_true_eq]at kz;obtain⟨k1,k2,k3⟩:=kz;by_cases h1:kOn a=1
 .obtain⟨e1,e2,_,_⟩:=ge h1;have q2:=z8n (k2.resolve_left (by omega));have q3:=z9n (k3.resolve_left (by omega))
  have:kBN7 a.p=a.p.N:=by unfold kBN7 dz;rw[if_pos (show pchk a.p.N a.p.xs a.p.S a.p.T=true from e1.symm.trans ok)]
  omega
 by_cases h2:kOn a=2
 .obtain⟨e1,e2,_,_⟩:=gc h2;have q2:=z7n (k1.resolve_left (by omega));have q3:=z9n (k3.resolve_left (by omega))
  have:kBN8 a.r=a.r.N:=by
   have hr:cH a.r.N a.r.k a.r.V a.r.M a.r.xs a.r.L a.r.ys a.r.S a.r.T=true:=e1.symm.trans ok;obtain⟨_,_,_,g4⟩:=lj _ _ _ _ _ _ _ _ _ hr;obtain⟨g1,_⟩:=qg _ _ _ _ _ _ _ _ _ _ _ g4;unfold kBN8 fR
   rw[if_pos hr];exact g1.symm
  omega
 by_cases h3:kOn a=3
 .obtain⟨e1,e2,_,_⟩:=fV h3;have q2:=z7n (k1.resolve_left (by omega));have q3:=z8n (k2.resolve_left (by omega))
  have:kBN9 a.f=a.f.N:=by
   unfold kBN9;rw[if_pos (e1.symm.trans ok)]
  omega
 rw[(fU h1 h2 h3).1]at ok;cases ok
theorem En(cs:List Value)(a:RA)(w:World)(h:KI w cs a)(ok:aX a=true):
  Qq 45 #[.agg cs.toArray] w (.int .i64 (kBN a)):=by
 obtain⟨e,p0,p1,p2⟩:=Ft a ok;obtain⟨n0,n1,_⟩:=bp _ _ (kH a ok);obtain⟨cp,cr,cf,rfl,_,h1,h2,h3⟩:=h.arg;obtain⟨ao,cap,so,sc,tO,tc,rfl,g1⟩:=h1
 obtain⟨bo,dap,qo,eap,uo,uc,vO,vc,rfl,g2⟩:=h2;obtain⟨fo,fap,ho,hap,rfl,g3⟩:=h3
 have bw:=below_alloc w (.cells (Value.int .i64 a.K::([.int .i64 a.p.N,.slice ao a.p.xs.length cap,.slice so a.p.S.length sc,.slice tO a.p.T.length tc]++([.int .i64 a.r.N,.int .i64 a.r.k,.int .i64 a.r.V,.int .i64 a.r.M,.slice bo a.r.xs.length dap,.int .i64 a.r.L,.slice qo a.r.ys.length eap,.slice uo a.r.S.length uc,.slice vO a.r.T.length vc]++[.int .i64 a.f.N,.int .i64 a.f.M,.int .i64 a.f.k,.int .i64 a.f.V,.int .i64 a.f.LM,.slice fo a.f.xs.length fap,.int .i64 a.f.H,.slice ho a.f.ys.length hap]))).toArray 63)
 clear g1 g2 g3 h;generalize a.p.N=A at *;generalize a.r.N=B at *;generalize a.f.N=C at *;generalize kBN a=M at *;have hAB:IntKind.i64.wrap (A+B)=A+B:=by rw[IntKind.wrap_i64];omega
 have hABC:IntKind.i64.wrap (A+B+C)=M:=by rw[IntKind.wrap_i64];omega
 have HE:=ag e;clear e;go_enter func45,ntmps45;go_wp2;go_ret;exact⟨rfl,bw⟩
def mI(l:List Nat):List Int:=l.map fun n:Nat=>(n:Int)
theorem dt(l:List Nat):(mI l).length=l.length:=by simp[mI]
theorem iN(l:List Nat)(q:Nat)(h:q<l.length):gi (mI l) q=(gt l q:Int):=by
 unfold gi mI gt;rw[List.getD_eq_getElem?_getD,List.getD_eq_getElem?_getD,List.getElem?_map,List.getElem?_eq_getElem h];rfl
def mA(k:Int)(t:List Nat):List RA:=(List.range 8).map fun l=>kB k (t.length:Int) (aC (Mx.rw_ t l))
def mZ(t:List Nat):List Nat:=(List.range 8).map (Mx.zs t)
theorem iA(k:Int)(t:List Nat):(mA k t).length=8:=by simp[mA]
theorem iz(t:List Nat):(mZ t).length=8:=by simp[mZ]
theorem lI(k:Int)(t:List Nat){l:Nat}(h:l<8):(mA k t).getD l ra0=kB k (t.length:Int) (aC (Mx.rw_ t l)):=by
 unfold mA;rw[List.getD_eq_getElem?_getD,List.getElem?_map,List.getElem?_range h];rfl
theorem qH(t:List Nat){l:Nat}(h:l<8):gt (mZ t) l=Mx.zs t l:=by
 unfold gt mZ;rw[List.getD_eq_getElem?_getD,List.getElem?_map,List.getElem?_range h];rfl
structure MX (w:World) (cs:List Value) (k:Int) (t:List Nat):Prop where
 ex:∃lo lc zo zc,cs=[.int .i64 k,.int .i64 (t.length:Int),.slice lo 8 lc,.slice zo 8 zc]/\Lv w lo (mA k t)/\Nd w zo (mI (mZ t))
 kn:1<=k/\k<=3
 le:t.length<=3000
 by_:iR t
 gv:GV w
theorem MX.keep{w w':World}{cs:List Value}{k:Int}{t:List Nat}(h:MX w cs k t)(hb:Below w.heap.size w w'):MX w' cs k t:=by
 obtain⟨⟨lo,lc,zo,zc,e,h1,h2⟩,a,b,c,d⟩:=h;exact⟨⟨lo,lc,zo,zc,e,h1.keep hb,h2.keep hb⟩,a,b,c,d.keep hb⟩
theorem MX.row{w:World}{k:Int}{t:List Nat}{lo:Option Addr}{lc:Nat}{zo:Option Addr}{zc:Nat}(h:MX w [.int .i64 k,.int .i64 (t.length:Int),.slice lo 8 lc,.slice zo 8 zc] k t){l:Nat}(hl:l<8):∃b off rs,lo=some ⟨b,off,none⟩/\b<w.heap.size/\w.rangeAt b (off+l*22) rs/\KI w rs (kB k (t.length:Int) (aC (Mx.rw_ t l))):=by
 obtain⟨lo',lc',zo',zc',e,h1,h2⟩:=h.ex;simp only[List.cons.injEq,Value.slice.injEq,true_and,and_true]at e;obtain⟨⟨rfl,rfl⟩,rfl,rfl⟩:=e;obtain⟨b,off,e,hb,hr⟩:=h1 (by rw[iA];decide)
 obtain⟨rs,r1,r2⟩:=hr l (by rw[iA];exact hl);rw[lI k t hl]at r2;exact⟨b,off,rs,e,hb,r1,r2⟩
theorem MX.zero{w:World}{k:Int}{t:List Nat}{lo:Option Addr}{lc:Nat}{zo:Option Addr}{zc:Nat}(h:MX w [.int .i64 k,.int .i64 (t.length:Int),.slice lo 8 lc,.slice zo 8 zc] k t){l:Nat}(hl:l<8):∃b off,zo=some ⟨b,off,none⟩/\b<w.heap.size/\w.cell? ⟨b,off+l,none⟩=some (.int .i64 (Mx.zs t l:Nat)):=by
 obtain⟨lo',lc',zo',zc',e,h1,h2⟩:=h.ex;simp only[List.cons.injEq,Value.slice.injEq,true_and,and_true]at e;obtain⟨⟨rfl,rfl⟩,rfl,rfl⟩:=e;obtain⟨b,off,e,hb,hr⟩:=h2 (by rw[dt,iz];decide)
 have:=hr l (by rw[dt,iz];exact hl);rw[iN _ _ (by rw[iz];exact hl),qH t hl]at this;exact⟨b,off,e,hb,this⟩
theorem lV{k:Int}(hk:1<=k/\k<=3){t:List Nat}(hn:t.length<=3000)(l:Nat):aX (kB k (t.length:Int) (aC (Mx.rw_ t l)))=true/\kBN (kB k (t.length:Int) (aC (Mx.rw_ t l)))=(t.length:Int)/\aY (kB k (t.length:Int) (aC (Mx.rw_ t l)))=aC (Mx.rw_ t l):=by
 have:=FX hk (Mx.rw_ t l) (by rw[Mx.length_rw];exact hn);rwa [Mx.length_rw]at this
theorem qG{k:Int}(hk:1<=k/\k<=3){t:List Nat}(hn:t.length<=3000)(l:Nat)(b:Bool){i:Nat}(hi:i<=t.length)(a:RA)(ha:a=kB k (t.length:Int) (aC (Mx.rw_ t l))):grN (aX a) (kBN a) (aY a) b (i:Int)=(Sh.ct b (Mx.rw_ t l) i:Nat)/\grE (aX a) (kBN a) (i:Int)=0:=by
 subst ha;obtain⟨e1,e2,e3⟩:=lV hk hn l;have eE:grE true (t.length:Int) (i:Int)=0:=by unfold grE;rw[if_pos rfl,if_neg (by omega)]
 unfold grN;rw[e1,e2,e3,if_pos eE,Int.toNat_natCast,rL _ _ _ (by rw[Mx.length_rw];exact hi)];exact⟨rfl,eE⟩
theorem E5{k:Int}(hk:1<=k/\k<=3){t:List Nat}(hn:t.length<=3000)(l:Nat){j:Nat}(hj:j<t.length)(a:RA)(ha:a=kB k (t.length:Int) (aC (Mx.rw_ t l))):gaB (aX a) (kBN a) (aY a) (Mx.pos t j l:Int)=Mx.tb l (gt t j):=by
 subst ha;obtain⟨e1,e2,e3⟩:=lV hk hn l;have hp:=Mx.pos_lt hj l;unfold gaB gy;rw[e1,e2,e3,decide_eq_true (by omega),Int.toNat_natCast,si _ _ _ (Mx.rw_pos hj l)]
 have hc:az (t.length:Int) (aC (Mx.rw_ t l))=true:=by
  have:=gB (Mx.rw_ t l).length (bt (Mx.rw_ t l)) (by rw[Mx.length_rw];omega);rw[Mx.length_rw]at this;unfold aC;rw[Mx.length_rw];exact this
 rw[hc];simp
theorem vq{k:Int}(hk:1<=k/\k<=3){t:List Nat}(hn:t.length<=3000)(l:Nat){j:Nat}(hj:j<t.length)(a:RA)(ha:a=kB k (t.length:Int) (aC (Mx.rw_ t l))):gsX (aX a) (kBN a) (aY a) (Mx.tb l (gt t j)) (Sh.ct (Mx.tb l (gt t j)) (Mx.rw_ t l) (Mx.pos t j l):Nat)=(Mx.pos t j l:Nat)/\gsE (aX a) (kBN a) (aY a) (Mx.tb l (gt t j)) (Sh.ct (Mx.tb l (gt t j)) (Mx.rw_ t l) (Mx.pos t j l):Nat)=0:=by
 subst ha;obtain⟨e1,e2,e3⟩:=lV hk hn l;have hp:=Mx.pos_lt hj l
 have hs:=nY (t.length:Int) (aC (Mx.rw_ t l)) (Mx.tb l (gt t j)) (Sh.ct (Mx.tb l (gt t j)) (Mx.rw_ t l) (Mx.pos t j l):Nat) (Mx.pos t j l) (by rw[Int.toNat_natCast];exact hp) (by
  unfold here;rw[si _ _ _ (Mx.rw_pos hj l),rL _ _ _ (by rw[Mx.length_rw];exact Nat.le_of_lt hp)]
  simp)
 unfold gsE gsX;rw[e1,e2,e3,hs];exact⟨rfl,rfl⟩
theorem va(cs:List Value)(k:Int)(t:List Nat)(l:Nat)(b:Bool)(i:Nat)(w:World)(h:MX w cs k t)(hl:l<8)(hi:i<=t.length):
  Qq 31 #[.agg cs.toArray,.int .i64 (l:Nat),.bool b,.int .i64 (i:Nat)] w (.int .i64 (Mx.be t l b i:Nat)):=by
 have HMX:=ag h;have hkn:=h.kn;have hle:=h.le;obtain⟨⟨lo,lc,zo,zc,rfl,_,_⟩,_,_,_,_⟩:=h
 obtain⟨W,hW⟩:∃W,W=w.alloc (.cells #[.int .i64 k,.int .i64 (t.length:Int),.slice lo 8 lc,.slice zo 8 zc] 27):=⟨_,rfl⟩;have bW:=aU hW
 have B1:=ag (show aa W w.heap.size [.int .i64 k,.int .i64 (t.length:Int),.slice lo 8 lc,.slice zo 8 zc] 27 by rw[hW];exact aa.new w _ _);have HB:=ag bW;have HM1:=ag (HMX.out.keep bW);clear bW HMX
 obtain⟨rb,ro,rs,rfl,hrb,hrg,hki⟩:=HM1.out.row hl;obtain⟨zb,zf,rfl,hzb,hzc⟩:=HM1.out.zero hl;obtain⟨A,hA⟩:∃A,A=kB k (t.length:Int) (aC (Mx.rw_ t l)):=⟨_,rfl⟩;rw[<-hA]at hki
 have C:=ag (tT rs A b (i:Int) W hki (by unfold aD;omega));rw[(qG hkn hle l b hi A hA).1,(qG hkn hle l b hi A hA).2]at C;have HL:=ag hki.arg.len;have x2:=B1.out.cell 2 rfl
 have hlz:(l:Int)<8:=by omega
 have zl:=Mx.zs_le t l;have cl:=Mx.ct_le b (Mx.rw_ t l) i;have eBe:Mx.be t l b i=(if b=true then Mx.zs t l else 0)+Sh.ct b (Mx.rw_ t l) i:=rfl;rw[eBe];generalize Sh.ct b (Mx.rw_ t l) i=n at *;have HR:=ag hrg
 have HZ:=ag hzc;generalize Mx.zs t l=z at *;rw[hW]at x2 HR;clear hki hA eBe hrg hzc;go_enter func31,ntmps31;go_wp2_with (refine aR rb (ro+l*22) rs (by rfl) rfl HR.out underlying63 HL.out ?_)
 rw[<-hW];refine C.out.mono ?_;rintro e w1 ⟨rfl,hb⟩;have HB1:=ag (bg HB.out hb);have x3:=(B1.out.kept hb).cell 3 rfl
 have z1:w1.cell? ⟨zb,zf+l,none⟩=some (.int .i64 (z:Nat)):=(hb.cell (p:=⟨zb,zf+l,none⟩) hzb).trans HZ.out;clear hb C HB B1 HR HZ x2 hW;cases b with
 | true=>
  go_wp2;go_ret;exact⟨rfl,HB1.out⟩
 | false=>
  go_wp2;go_ret;exact⟨by simp,HB1.out⟩
theorem EZ(cs:List Value)(k:Int)(t:List Nat)(l j:Nat)(w:World)(h:MX w cs k t)(hl:l<8)(hj:j<t.length):
  Qq 43 #[.agg cs.toArray,.int .i64 (l:Nat),.bool (Mx.tb l (gt t j)),.int .i64 (Mx.pos t j (l+1):Nat)] w (.int .i64 (Mx.pos t j l:Nat)):=by
 have HMX:=ag h;have hkn:=h.kn;have hle:=h.le;obtain⟨⟨lo,lc,zo,zc,rfl,_,_⟩,_,_,_,_⟩:=h
 obtain⟨W,hW⟩:∃W,W=w.alloc (.cells #[.int .i64 k,.int .i64 (t.length:Int),.slice lo 8 lc,.slice zo 8 zc] 27):=⟨_,rfl⟩;have bW:=aU hW
 have B1:=ag (show aa W w.heap.size [.int .i64 k,.int .i64 (t.length:Int),.slice lo 8 lc,.slice zo 8 zc] 27 by rw[hW];exact aa.new w _ _);have HB:=ag bW;have HM1:=ag (HMX.out.keep bW);clear bW HMX
 obtain⟨rb,ro,rs,rfl,hrb,hrg,hki⟩:=HM1.out.row hl;obtain⟨zb,zf,rfl,hzb,hzc⟩:=HM1.out.zero hl;obtain⟨A,hA⟩:∃A,A=kB k (t.length:Int) (aC (Mx.rw_ t l)):=⟨_,rfl⟩;rw[<-hA]at hki;have hp:=Mx.pos_lt hj l
 have cl:=Mx.ct_le (Mx.tb l (gt t j)) (Mx.rw_ t l) (Mx.pos t j l);have C:=ag (zZ rs A (Mx.tb l (gt t j)) (Sh.ct (Mx.tb l (gt t j)) (Mx.rw_ t l) (Mx.pos t j l):Nat) W hki (by unfold aD;omega))
 rw[(vq hkn hle l hj A hA).1,(vq hkn hle l hj A hA).2]at C;have HL:=ag hki.arg.len;have x2:=B1.out.cell 2 rfl;have x3:=B1.out.cell 3 rfl;have hlz:(l:Int)<8:=by omega
 have zl:=Mx.zs_le t l;rw[show Mx.pos t j (l+1)=(if Mx.tb l (gt t j)=true then Mx.zs t l else 0)+Sh.ct (Mx.tb l (gt t j)) (Mx.rw_ t l) (Mx.pos t j l)from rfl];generalize Mx.tb l (gt t j)=b at *
 generalize Sh.ct b (Mx.rw_ t l) (Mx.pos t j l)=n at *;generalize Mx.pos t j l=P at *;have HR:=ag hrg;generalize Mx.zs t l=z at *;rw[hW]at x2 x3 HR hzc;clear hki hA hrg;cases b with
 | true=>
  rw[if_pos rfl];have e5:((z+n:Nat):Int)-(z:Int)=(n:Int):=by omega
  obtain⟨y,hy⟩:∃y,Hid (y=z+n):=⟨_,rfl⟩;have ey:IntKind.i64.wrap ((y:Int)-(z:Int))=(n:Int):=by rw[hy.out,e5,IntKind.wrap_i64];omega
  have ey2:wrap64 ((y:Int)-(z:Int))=(n:Int):=by rw[hy.out,e5];unfold wrap64;omega
  have hyl:y<=6000:=by rw[hy.out];omega
  rw[<-hy.out];clear e5;go_enter func43,ntmps43;go_wp2_with (refine aR rb (ro+l*22) rs (by rfl) rfl HR.out underlying63 HL.out ?_);rw[<-hW];refine C.out.mono ?_;rintro e w1 ⟨rfl,hb⟩
  have HB1:=ag (bg HB.out hb);clear hb C HB B1 HR x2 x3 hzc hW ey ey2 hy;go_wp2;go_ret;exact⟨rfl,HB1.out⟩
 | false=>
  rw[if_neg (by decide),Nat.zero_add];go_enter func43,ntmps43;go_wp2_with (refine aR rb (ro+l*22) rs (by rfl) rfl HR.out underlying63 HL.out ?_);rw[<-hW];refine C.out.mono ?_;rintro e w1 ⟨rfl,hb⟩
  have HB1:=ag (bg HB.out hb);clear hb C HB B1 HR x2 x3 hzc hW;go_wp2;go_ret;exact⟨rfl,HB1.out⟩
theorem vk(cs:List Value)(k:Int)(t:List Nat)(c i:Nat)(w:World)(h:MX w cs k t)(hc:c<256)(hi:i<=t.length):
  Qq 32 #[.agg cs.toArray,.int .u8 (c:Nat),.int .i64 (i:Nat)] w (.tuple #[.int .i64 (Mx.lw_ t c 8:Nat),.int .i64 (Mx.up t c i 8:Nat)]):=by
 have HMX:=ag h;have hkn:=h.kn;have hle:=h.le;obtain⟨⟨lo,lc,zo,zc,rfl,_,_⟩,_,_,_,_⟩:=h
 obtain⟨W,hW⟩:∃W,W=w.alloc (.cells #[.int .i64 k,.int .i64 (t.length:Int),.slice lo 8 lc,.slice zo 8 zc] 27):=⟨_,rfl⟩;have bW:=aU hW
 have B1:=ag (show aa W w.heap.size [.int .i64 k,.int .i64 (t.length:Int),.slice lo 8 lc,.slice zo 8 zc] 27 by rw[hW];exact aa.new w _ _);have HB:=ag bW;have HM1:=ag (HMX.out.keep bW);clear bW HMX
 have CB:Hid (∀l w0,l<8->Qx 25 #[.int .u8 (c:Nat),.int .i64 (l:Nat)] w0 (.bool (Mx.tb l c))):=fun l w0 hl=>oA c l hc hl w0
 have CD:Hid (∀l b i w0,l<8->i<=t.length->MX w0 [.int .i64 k,.int .i64 (t.length:Int),.slice lo 8 lc,.slice zo 8 zc] k t->Qq 31 #[.agg #[.int .i64 k,.int .i64 (t.length:Int),.slice lo 8 lc,.slice zo 8 zc],.int .i64 (l:Nat),.bool b,.int .i64 (i:Nat)] w0 (.int .i64 (Mx.be t l b i:Nat))):=fun l b i w0 hl hi h=>va _ k t l b i w0 h hl hi
 go_enter func32,ntmps32;go_wp2;rw[<-hW];clear hW
 go_loopw [6,7,11] (fun vs ve vi wr=>∃l:Nat,l<=8/\vi=.int .i64 l/\vs=.int .i64 (Mx.lw_ t c l:Nat)/\ve=.int .i64 (Mx.up t c i l:Nat)/\Hid (aa wr w.heap.size [.int .i64 k,.int .i64 (t.length:Int),.slice lo 8 lc,.slice zo 8 zc] 27)/\Hid (MX wr [.int .i64 k,.int .i64 (t.length:Int),.slice lo 8 lc,.slice zo 8 zc] k t)/\Hid (Below w.heap.size w wr)) (fun _ _ vi _=>8-(intOf vi).toNat)
 case atStart=>exact⟨0,Nat.zero_le _,rfl,rfl,rfl,B1,HM1,HB⟩
 case round=>
  clear B1 HM1 HB;obtain⟨l,hl,rfl,rfl,rfl,K1,HM,HB⟩:=hrel;have l1:=Mx.lw_le t c l;have l2:=Mx.up_le t c i hi l;by_cases hlt:l<8
  .have hltz:(l:Int)<8:=by omega
   have E1:Hid (Mx.lw_ t c (l+1)=Mx.be t l (Mx.tb l c) (Mx.lw_ t c l)):=rfl;have E2:Hid (Mx.up t c i (l+1)=Mx.be t l (Mx.tb l c) (Mx.up t c i l)):=rfl;generalize Mx.lw_ t c l=s at *
   generalize Mx.up t c i l=u at *;have CBl:=ag (CB.out l wr hlt);obtain⟨bb,hbb⟩:∃bb,Hid (bb=Mx.tb l c):=⟨_,rfl⟩;rw[<-hbb.out]at CBl E1 E2;go_wp2_with fail;refine CBl.out.mono ?_;rintro e w2 ⟨rfl,h2⟩;rw[h2]
   clear h2 CBl hbb CB;have C1:=ag (fun w0 h=>CD.out l bb s w0 hlt l1 h);have C2:=ag (fun w0 h=>CD.out l bb u w0 hlt l2 h);rw[<-E1.out]at C1;rw[<-E2.out]at C2;clear CD E1 E2
   obtain⟨s',HS1⟩:∃s',Hid (s'=Mx.lw_ t c (l+1)):=⟨_,rfl⟩;obtain⟨u',HS2⟩:∃u',Hid (u'=Mx.up t c i (l+1)):=⟨_,rfl⟩;rw[<-HS1.out]at C1;rw[<-HS2.out]at C2;go_wp2
   refine ba [] (fun w'=>aa w' w.heap.size [.int .i64 k,.int .i64 (t.length:Int),.slice lo 8 lc,.slice zo 8 zc] 27/\MX w' [.int .i64 k,.int .i64 (t.length:Int),.slice lo 8 lc,.slice zo 8 zc] k t/\Below w.heap.size w w') (by kernel_rfl) ?_
   have hS:(fun w'=>aa w' w.heap.size [.int .i64 k,.int .i64 (t.length:Int),.slice lo 8 lc,.slice zo 8 zc] 27/\MX w' [.int .i64 k,.int .i64 (t.length:Int),.slice lo 8 lc,.slice zo 8 zc] k t/\Below w.heap.size w w') wr.drew:=⟨K1.out.drew,HM.out.keep ((Below.refl _ _).drew),HB.out.drew⟩
   clear K1 HM HB;generalize wr.drew=V at *
   refine aF 0 hS rfl (fun w0 h0=>by have y0:=h0.1.cell 0 rfl;have y1:=h0.1.cell 1 rfl;have y2:=h0.1.cell 2 rfl;have y3:=h0.1.cell 3 rfl;go_simp;try with_reducible rfl) ?_;refine aK 1 hS ?_
   refine aK 2 hS ?_;refine aK 3 hS ?_
   refine aF 5 hS rfl (fun w0 h0=>by have y0:=h0.1.cell 0 rfl;have y1:=h0.1.cell 1 rfl;have y2:=h0.1.cell 2 rfl;have y3:=h0.1.cell 3 rfl;go_simp;try with_reducible rfl) ?_;refine aK 6 hS ?_
   refine aK 7 hS ?_;refine aK 8 hS ?_;refine aO 4 ?_;intro K hK;go_simp;refine mr (C1.out _ hS.2.1) fun w3 hb=>?_
   replace hS:=And.intro (hS.1.kept hb) (And.intro (hS.2.1.keep hb) (hS.2.2.trans (hb.mono hS.2.2.size)));clear hb;refine hK.out _ _ (fun _=>hS) ?_;clear hK K;try simp only[Act.put,ar,an,am,ah,aj,ai]
   refine aO 9 ?_;intro K hK;go_simp;refine mr (C2.out _ hS.2.1) fun w4 hb=>?_;replace hS:=And.intro (hS.1.kept hb) (And.intro (hS.2.1.keep hb) (hS.2.2.trans (hb.mono hS.2.2.size)));clear hb
   refine hK.out _ _ (fun _=>hS) ?_;clear hK K;try simp only[Act.put,ar,an,am,ah,aj,ai]
   refine aK 10 hS ?_;refine aK 11 hS ?_;refine aw.done (by kernel_rfl) ?_ _;have K1:=ag hS.1;have HM:=ag hS.2.1;have HB:=ag hS.2.2;clear hS C1 C2;go_wp2
   exact⟨⟨l+1,by omega,by go_num,by rw[HS1.out],by rw[HS2.out],K1,HM,HB⟩,by simp only[intOf];omega⟩
  .obtain rfl:l=8:=by omega
   go_wp2;go_ret2;exact⟨rfl,HB.out⟩
end Go.Proofs.YtleegaihbgbcjabGreatDoor
