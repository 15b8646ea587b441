import Derived.Test.YtfnkklkdajlhlaaGreatDoorE13
set_option linter.unusedVariables false
set_option linter.unusedSimpArgs false
set_option maxRecDepth 100000
set_option maxHeartbeats 16000000
namespace Go.Proofs.YtfnkklkdajlhlaaGreatDoor
open Go.RowKit Num Bit
def BOut(m:Nat)(xs:List Nat)(w:World)(e:Ending)(w':World):Prop:=∃bo bc so sc tO tc,e=.returned (.tuple #[.agg #[.int .i64 (m:Int),.slice bo xs.length bc,.slice so (supL (m:Int) xs).length sc,.slice tO (subL (m:Int) xs).length tc],.int .i64 0])∧PlOut w.heap.size w' bo xs bc so (supL (m:Int) xs) sc tO (subL (m:Int) xs) tc∧Below w.heap.size w w'
structure PB (w3 wr:World) (m n:Nat) (bo:Option Addr) (bc:Nat) (sv tv:Value) (G T:Nat) (xs:List Nat):Prop where
 bx:Cel wr w3.heap.size [.int .i64 (m:Int),.slice bo n bc,sv,tv] 37
 hb:Below w3.heap.size w3 wr
 o1:wr.ownsRow (w3.heap.size+1) 3 1 sv G (iv (supP (m:Int) xs G))
 o2:wr.ownsRow (w3.heap.size+1) 3 1 tv T (iv (subP (m:Int) xs T))
 ap:Ap.Apart sv tv
theorem PB.keep{w3 wr w':World}{m n:Nat}{bo:Option Addr}{bc:Nat}{sv tv:Value}{G T:Nat}{xs:List Nat}(h:PB w3 wr m n bo bc sv tv G T xs)(hb:Below wr.heap.size wr w'):PB w3 w' m n bo bc sv tv G T xs:=
 ⟨h.bx.kept hb,h.hb.trans (hb.mono h.hb.size),Ap.owns_below h.o1 hb,Ap.owns_below h.o2 hb,h.ap⟩
theorem PB.sup{w3 wr w2:World}{m n:Nat}{bo:Option Addr}{bc:Nat}{sv tv u:Value}{G T:Nat}{xs:List Nat}(h:PB w3 wr m n bo bc sv tv G T xs)(ho:w2.ownsRow (w3.heap.size+1) 3 1 u (G+1) (iv (supP (m:Int) xs (G+1))))(hB:Below (w3.heap.size+1) wr w2)
  (hblk:∀k,u.ownBlock=some k→(sv.ownBlock=some k∨k=wr.heap.size)∧k<w2.heap.size) (hkeep:∀k,k<wr.heap.size→sv.ownBlock≠some k→w2.heap[k]?=wr.heap[k]?):
  PB w3 (w2.setCell ⟨w3.heap.size,2,none⟩ u) m n bo bc u tv (G+1) T xs:=
 ⟨(h.bx.keep hB (Nat.lt_succ_self _)).set 2 u,(h.hb.trans (hB.mono (Nat.le_succ _))).setCell (Nat.le_refl _) _,owns_set ho (Nat.lt_succ_self _),owns_set (Ap.owns_other h.o2 hkeep h.ap.symm) (Nat.lt_succ_self _),(Ap.apart_new h.o2 hblk h.ap.symm).symm⟩
theorem PB.sub{w3 wr w2:World}{m n:Nat}{bo:Option Addr}{bc:Nat}{sv tv u:Value}{G T T2:Nat}{xs:List Nat}(h:PB w3 wr m n bo bc sv tv G T xs)(ho:w2.ownsRow (w3.heap.size+1) 3 1 u T2 (iv (subP (m:Int) xs T2)))(hB:Below (w3.heap.size+1) wr w2)
  (hblk:∀k,u.ownBlock=some k→(tv.ownBlock=some k∨k=wr.heap.size)∧k<w2.heap.size) (hkeep:∀k,k<wr.heap.size→tv.ownBlock≠some k→w2.heap[k]?=wr.heap[k]?):
  PB w3 (w2.setCell ⟨w3.heap.size,3,none⟩ u) m n bo bc sv u G T2 xs:=
 ⟨(h.bx.keep hB (Nat.lt_succ_self _)).set 3 u,(h.hb.trans (hB.mono (Nat.le_succ _))).setCell (Nat.le_refl _) _,owns_set (Ap.owns_other h.o1 hkeep h.ap) (Nat.lt_succ_self _),owns_set ho (Nat.lt_succ_self _),Ap.apart_new h.o1 hblk h.ap⟩
theorem iv_app(l k:List Int):iv l++iv k=iv (l++k):=by simp[iv]
theorem pbuild_ok(m:Nat)(ao:Option Addr)(xs:List Nat)(cap:Nat)(w:World)(hx:Wd w ao xs)(hf:Fit xs)(hcap:xs.length≤cap)(hk:chk (m:Int) xs=true)(hm:m≤1048576)(hl:xs.length=(m+63)/64):
  Calls Tryz.prog 52 #[.agg #[.int .i64 (m:Int),.slice ao xs.length cap]] w (BOut m xs w):=by
 have hlx:xs.length≤16384:=by omega
 obtain⟨i0,hi,hz0,hz1,hz2⟩:=info_parts Tryz.info3
 obtain⟨W,hW⟩:∃W,W=(w.alloc (.cells #[.int .i64 (m:Int),.slice ao xs.length cap] 33)).alloc (.cells #[.int .i64 0,.slice none 0 0,.slice none 0 0,.slice none 0 0] 37):=⟨_,rfl⟩;have bW:=yb2 hW;have B1:=yc3 hW
 have B2:=yc2 hW
 have C1:Hid (∀w0,w0=W→Qq 92 #[.agg #[.int .i64 (m:Int),.slice ao xs.length cap]] w0 (.bool true)):=fun w0 h=>by
  subst h;have:=check_c (m:Int) ao xs cap w0 (hx.keep bW);rw[hk]at this;exact this
 have C2:Hid (∀w0,Below w.heap.size w w0→Calls Tryz.prog 93 #[.agg #[.int .i64 (m:Int),.slice ao xs.length cap]] w0 fun e w'=>∃bo bc,e=.returned (.agg #[.int .i64 (m:Int),.slice bo xs.length bc])∧Wd w' bo xs∧xs.length≤bc∧Below w0.heap.size w0 w'):=fun w0 h=>pcopied_c (m:Int) ao xs cap w0 (hx.keep h) (by omega)
 have C3:Hid (∀w0,Qq 94 #[.agg #[.int .i64 (m:Int),.slice ao xs.length cap]] w0 (.int .i64 ((m/512+1:Nat):Int))):=fun w0=>groups_c m hm ao xs.length cap w0
 have C4:Hid (∀(G:Nat) w0,G≤m/512→Below w.heap.size w w0→Calls Tryz.prog 95 #[.agg #[.int .i64 (m:Int),.slice ao xs.length cap],.int .i64 (G:Int)] w0 fun e w'=>∃bo bc,e=.returned (.slice bo (grp xs G).length bc)∧Wd w' bo (grp xs G)∧Below w0.heap.size w0 w'):=fun G w0 hG h=>wordsOf_c m hm ao xs cap hl hcap G hG w0 (hx.keep h)
 obtain⟨M,hM⟩:∃M,Hid (M=m/512+1):=⟨_,rfl⟩;rw[←hM.out]at C3;have hMb:M≤2049:=by have:=hM.out;omega
 have HL:Hid (xs.length=(m+63)/64):=hl;clear hl;go_enter Tryz.func52,Tryz.ntmps52;go_wp2_with fail;rw[←hW];refine mr (C1.out _ rfl) fun w1 hb=>?_;have bw1:=bg bW hb
 replace B1:=B1.kept hb;replace B2:=B2.kept hb;clear hb C1 hW bW W;have r0:=B1.cell 0 rfl;have r1:=B1.cell 1 rfl;go_wp2_with fail;refine(C2.out _ bw1).mono ?_;rintro e w3 ⟨bo,bc,rfl,hW3,hbc,hb⟩
 have bw3:=bg bw1 hb;replace B1:=B1.kept hb;replace B2:=B2.kept hb;clear hb bw1 r0 r1 C2;have r0:=B1.cell 0 rfl;have r1:=B1.cell 1 rfl;have hlt0:=B2.lt
 have s0:=(B1.alloc (.cells #[.int .i64 (m:Int),.slice bo xs.length bc,.slice none 0 0,.slice none 0 0] 37)).cell 0 rfl
 have s1:=(B1.alloc (.cells #[.int .i64 (m:Int),.slice bo xs.length bc,.slice none 0 0,.slice none 0 0] 37)).cell 1 rfl
 obtain⟨V,hV⟩:∃V,V=w3.alloc (.cells #[.int .i64 (m:Int),.slice bo xs.length bc,.slice none 0 0,.slice none 0 0] 37):=⟨_,rfl⟩
 have P0:PB w3 V m xs.length bo bc (.slice none 0 0) (.slice none 0 0) 0 0 xs:=by
  rw[hV];exact⟨Cel.new w3 _ _,below_alloc w3 _,World.ownsRow_nil _ _ _ _,World.ownsRow_nil _ _ _ _,Ap.apart_nil _⟩
 clear r0 r1;go_wp2_with fail;rw[←hV];refine mr (C3.out _) fun w4 hb=>?_;replace P0:=P0.keep hb;clear hb hV s0 s1 C3 V;go_wp2
 go_loopw [5,19] (fun t s wr=>∃(G T:Nat) (so:Option Addr) (sc:Nat) (tO:Option Addr) (tc:Nat),G≤M∧s=.int .i64 G∧t=.int .i64 (cntB xs (512*G):Nat)∧Hid (T=min (8*G) xs.length)∧G≤sc∧T≤tc∧PB w3 wr m xs.length bo bc (.slice so G sc) (.slice tO T tc) G T xs) (fun _ s _=>M-(intOf s).toNat)
 case atStart=>exact⟨0,0,none,0,none,0,Nat.zero_le _,rfl,rfl,(by show 0=min (8*0) xs.length;omega),Nat.le_refl _,Nat.le_refl _,P0⟩
 case round=>
  obtain⟨G,T,so,sc,tO,tc,hG,rfl,rfl,HT,hsc,htc,HP⟩:=hrel;clear P0;have B1r:=B1.kept HP.hb;have q0:=B1r.cell 0 rfl;have q1:=B1r.cell 1 rfl;have bwr:=bw3.trans (HP.hb.mono bw3.size);by_cases hlt:G<M
  ·have hlt2:(G:Int)<(M:Int):=by omega
   have hG2:G≤m/512:=by have:=hM.out;omega
   go_wp2_with fail;refine(C4.out G _ hG2 bwr).mono ?_;rintro e w5 ⟨wo,wc,rfl,hww,hb⟩;have HP5:=HP.keep hb;clear hb
   have C5:Hid (∀w0,w0=w5→Qq 96 #[.slice wo (grp xs G).length wc] w0 (.tuple #[.agg (iv (ahd (grp xs G))).toArray,.int .i64 (cntB (grp xs G) (64*(grp xs G).length):Nat)])):=fun w0 h=>by subst h;exact counted_c wo (grp xs G) wc w0 hww (fit_grp xs hf G) (by rw[length_grp];omega)
   have hall:=cntB_all xs G;have hc8:(grp xs G).length≤8:=by rw[length_grp];omega
   have hTT:T=8*G:=by have:=HT.out;have:=HL.out;omega
   have HT2:Hid (T+(grp xs G).length=min (8*(G+1)) xs.length):=by
    show T+(grp xs G).length=min (8*(G+1)) xs.length;rw[length_grp];have:=HT.out;omega
   have HSP:Hid (iv (subP (m:Int) xs T)++iv (ahT xs G)=iv (subP (m:Int) xs (T+(grp xs G).length))):=by
    show iv (subP (m:Int) xs T)++iv (ahT xs G)=iv (subP (m:Int) xs (T+(grp xs G).length));rw[iv_app,hTT,subP_grp m xs hk HL.out G (by have:=HL.out;omega)]
   have HSU:Hid (iv (supP (m:Int) xs G)++[.int .i64 (cntB xs (512*G):Nat)]=iv (supP (m:Int) xs (G+1))):=by
    show iv (supP (m:Int) xs G)++[.int .i64 (cntB xs (512*G):Nat)]=iv (supP (m:Int) xs (G+1));rw[iv_snoc,supP_succ,supI_ok m xs hk G hG2]
   have HA:Hid (∀(j:Nat) (u:Value),(iv (ahT xs G))[j]?=some u→(iv (ahd (grp xs G)))[j]?=some u):=by
    intro j u hj
    have hjl:j<(ahT xs G).length:=by
     have:=(List.getElem?_eq_some_iff.1 hj).1;rw[length_iv]at this;exact this
    rw[iv_get _ j hjl]at hj;rw[length_ahT]at hjl;rw[iv_get _ j (by rw[length_ahd];omega),←hj];unfold ahT;rw[gi_take _ _ _ hjl]
   have HlT:Hid ((iv (ahT xs G)).length=(grp xs G).length):=by show(iv (ahT xs G)).length=(grp xs G).length;rw[length_iv,length_ahT]
   have HO1:Hid (∀u∈iv (ahT xs G),u.oneCell'=true):=fun u hu=>by obtain⟨y,_,rfl⟩:=List.mem_map.1 hu;rfl
   have lD:=length_ahd (grp xs G);have bZ:=cntB_le xs (512*G);have bA:=cntB_le (grp xs G) (64*(grp xs G).length);have hTb:T≤16384:=by omega
   have hGb:G≤2048:=by omega
   clear hTT;go_wp2_with fail;refine mr (C5.out _ rfl) fun w6 hb=>?_;have HP6:=HP5.keep hb;clear hb C5;obtain⟨D,hD⟩:∃D,Hid (D=ahd (grp xs G)):=⟨_,rfl⟩;rw[←hD.out]at lD HA⊢
   obtain⟨A,hA⟩:∃A,A=cntB (grp xs G) (64*(grp xs G).length):=⟨_,rfl⟩;rw[←hA]at hall bA⊢;obtain⟨Z,hZ⟩:∃Z,Z=cntB xs (512*G):=⟨_,rfl⟩;rw[←hZ]at hall bZ HSU⊢
   obtain⟨c,hc⟩:∃c,c=(grp xs G).length:=⟨_,rfl⟩;rw[←hc]at hc8 bA HT2 HSP HlT⊢;have HALL:Hid (cntB xs (512*(G+1))=Z+A):=hall;clear hall hA hZ hc HT hww HP5;go_wp2_with (refine alloc_arr ?_)
   intro w7 hc7 hb7 hs7;go_wp2_with (refine store_arr w6.heap.size _ _ rfl rfl hc7 (by simp) lD ?_);intro w8 hC8 ho8;have HP8:=HP6.keep (hb7.trans (ho8.below (Nat.le_refl _)))
   have hga:w6.heap.size<w8.heap.size:=by rw[ho8.size];exact hs7
   have hown1:∀k,(Value.slice so G sc).ownBlock=some k→k<w6.heap.size:=fun k hk=>(HP6.o1.lt k hk).2;have hgg:w3.heap.size<w6.heap.size:=HP6.bx.lt;clear hb7 hs7 hc7 ho8 HP6 w7;generalize w6.heap.size=ga at *
   have x2:=(HP8.bx.alloc (.cells #[.int .i64 (Z:Int)] 3)).cell 2 rfl;have x2b:=HP8.bx.cell 2 rfl;simp only[Act.put,yq3,List.set]
   go_wp2_with (at_builtin;refine Ap.wpList_append_x (by rfl) _ _ _ (by rfl) (w3.heap.size+1) 3 i0 (.int .i64 0) 8 Tryz.underlying35 hi hz0 hz1 hz2 rfl (.slice so G sc) G (iv (supP (m:Int) xs G)) (by rfl) (HP8.o1.alloc _) (some ⟨w8.heap.size,0,none⟩) 1 1 [.int .i64 (Z:Int)] (by rfl) rfl ?c1 ?c2 ?c3 ?c4 ?c5 ?_)
   case c1=>exact fun _=>⟨_,rfl,fun j u hj=>by
    match j,hj with
    | 0,hj=>simp at hj;subst hj;simp[Addr.add]⟩
   case c2=>intro u hu;simp at hu;subst hu;rfl
   case c3=>unfold maxLen;omega
   case c4=>omega
   case c5=>have:=HP8.bx.lt;simp;omega
   intro so2 sc2 w9 own9 hle9 hB9 hblk9 hkeep9 hsz9;rw[HSU.out]at own9;have HPa:=HP8.keep (below_alloc w8 (.cells #[.int .i64 (Z:Int)] 3))
   have esz:(w8.alloc (.cells #[.int .i64 (Z:Int)] 3)).heap.size=w8.heap.size+1:=by simp
   rw[←esz]at hblk9 hkeep9;have HP9:=HPa.sup own9 hB9 hblk9 hkeep9;have hC9:Cel w9 ga (iv D) 142:=(hkeep9 ga (by omega) (fun e=>by have:=hown1 ga e;omega)).trans (hC8.alloc (.cells #[.int .i64 (Z:Int)] 3))
   have hCa:=hC9.other (a:=⟨w3.heap.size,2,none⟩) (by show ga≠w3.heap.size;omega) (.slice so2 (G+1) sc2);have hga2:ga<(w9.setCell ⟨w3.heap.size,2,none⟩ (.slice so2 (G+1) sc2)).heap.size:=hCa.lt
   have xx2:=(HPa.bx.keep hB9 (Nat.lt_succ_self _)).cell 2 rfl;have ff2:=(HPa.bx.keep hB9 (Nat.lt_succ_self _)).frozen 2;clear esz own9 hB9 hblk9 hkeep9 hsz9 HPa hC9 HP8 hC8 x2 x2b hown1;go_wp2
   generalize (w9.setCell ⟨w3.heap.size,2,none⟩ (.slice so2 (G+1) sc2))=X at *
   refine region_g [7] (fun w'=>Cel w' w3.heap.size [.int .i64 (m:Int),.slice bo xs.length bc,.slice so2 (G+1) sc2,.slice tO T tc] 37) (by kernel_rfl) ?_
   have hPd:PB w3 X.drew m xs.length bo bc (.slice so2 (G+1) sc2) (.slice tO T tc) (G+1) T xs:=⟨HP9.bx,HP9.hb.drew,HP9.o1,HP9.o2,HP9.ap⟩;have hCd:Cel X.drew ga (iv D) 142:=hCa;have hS:=hPd.bx
   have c1:(c:Int)≤8:=by omega
   clear HP9 hCa;generalize X.drew=Y at *;refine aK 0 hS ?_;refine aF 1 hS rfl (fun w0 h0=>by have c3:=h0.cell 3 rfl;go_simp;try with_reducible rfl) ?_;refine aK 2 hS ?_;refine aK 3 hS ?_
   refine aK 4 hS ?_;refine aO 5 ?_;intro K hK
   refine Ap.step_append_u (by rfl) _ _ _ (by rfl) (w3.heap.size+1) 3 i0 (.int .i64 0) 8 Tryz.underlying35 hi hz0 hz1 hz2 rfl (.slice tO T tc) T (iv (subP (m:Int) xs T)) (by rfl) hPd.o2 (some ⟨ga,0,none⟩) c 8 (iv (ahT xs G)) (by rfl) HlT.out ?d1 HO1.out ?d3 ?d4 ?d5 ?d6
   case d1=>exact fun _=>⟨_,rfl,fun j u hj=>by
     have:=hCd.cell j (HA.out j u hj);rw[←this];unfold Addr.add;split
     ·subst_vars;rfl
     ·simp⟩
   case d3=>unfold maxLen;omega
   case d4=>omega
   case d5=>have:=hPd.bx.lt;omega
   intro to2 tc2 wa own_a hle_a hB_a hblk_a hkeep_a hsz_a;rw[HSP.out]at own_a;have HPb:=hPd.sub own_a hB_a hblk_a hkeep_a;have hS2:=hPd.bx.keep hB_a (Nat.lt_succ_self _);refine hK.out _ _ (fun _=>hS2) ?_;clear hK K
   try simp only[Act.put,yq0,yq1,yq2,yq3,yq4,yq5]
   refine aK 6 hS2 ?_;refine aO 7 ?_;intro K hK;have z3:=hS2.cell 3 rfl;have fz3:=hS2.frozen 3;go_simp;refine hK.out _ _ (fun h=>absurd (by decide) h) ?_;clear hK K
   try simp only[Act.put,yq0,yq1,yq2,yq3,yq4,yq5]
   refine AnyG.done (by kernel_rfl) ?_ _;clear hS2 hPd hCd hS own_a hB_a hblk_a hkeep_a hsz_a z3 fz3;go_wp2
   refine⟨⟨G+1,T+c,so2,sc2,to2,tc2,by omega,by go_num,?_,HT2,by omega,by omega,HPb⟩,by simp only[intOf];omega⟩;rw[HALL.out];go_num
  ·obtain rfl:G=M:=by omega
   have hlt2:¬(G:Int)<(G:Int):=by omega
   have eS:supP (m:Int) xs G=supL (m:Int) xs:=by unfold supL;rw[Int.toNat_natCast,hM.out]
   have eT:T=xs.length:=by have:=HT.out;have:=HL.out;have:=hM.out;omega
   subst eT;have lS:(supL (m:Int) xs).length=G:=by rw[length_supL,Int.toNat_natCast];exact hM.out.symm
   have B2r:=B2.kept HP.hb;have x0:=HP.bx.cell 0 rfl;have x1:=HP.bx.cell 1 rfl;have x2:=HP.bx.cell 2 rfl;have x3:=HP.bx.cell 3 rfl;have y0:=B2r.cell 0 rfl;have y1:=B2r.cell 1 rfl;have y2:=B2r.cell 2 rfl
   have y3:=B2r.cell 3 rfl;have f0:=B2r.frozen 0;have f1:=B2r.frozen 1;have f2:=B2r.frozen 2;have f3:=B2r.frozen 3
   have hC:=(((B2r.set 0 (.int .i64 (m:Int))).set 1 (.slice bo xs.length bc)).set 2 (.slice so G sc)).set 3 (.slice tO xs.length tc)
   have oW:=((((Only.refl (w.heap.size+1) wr).set 0 (.int .i64 (m:Int))).set 1 (.slice bo xs.length bc)).set 2 (.slice so G sc)).set 3 (.slice tO xs.length tc);have hWr:=hW3.keep HP.hb
   have hWd:=oW.wd hWr (hWr.apart B2r (by intro v hv n;simp at hv;rcases hv with rfl | rfl<;>simp));have n1:=nd_own (oW.owns HP.o1 (by omega));have n2:=nd_own (oW.owns HP.o2 (by omega));rw[eS]at n1
   have HB:=bwr.trans (oW.below (Nat.le_succ _));have k0:=hC.cell 0 rfl;have k1:=hC.cell 1 rfl;have k2:=hC.cell 2 rfl;have k3:=hC.cell 3 rfl
   have F1:Fr w.heap.size so:=own_fr HP.o1 (by have:=bwr.size;have:=HP.bx.lt;omega);have F2:Fr w.heap.size tO:=own_fr HP.o2 (by have:=bwr.size;have:=HP.bx.lt;omega)
   have HF:=And.intro hWd (And.intro n1 (And.intro n2 (And.intro HB (And.intro F1 F2))));replace HF:=Hid.mk' HF;have lT:=length_subL (m:Int) xs;clear F1 F2 hWd n1 n2 HB oW hWr HP hC B2r B1r HT q0 q1;go_wp2
   refine bodyPost_ret (v:=.tuple #[.agg #[.int .i64 (m:Int),.slice bo xs.length bc,.slice so G sc,.slice tO xs.length tc],.int .i64 0]) (by simp[results,Tryz.results52,go_sem,k0,k1,k2,k3]) rfl ?_
   refine⟨bo,bc,so,sc,tO,tc,by rw[lS,lT],⟨HF.out.1,hbc,HF.out.2.1,by rw[lS];exact hsc,HF.out.2.2.1,by rw[lT];exact htc,HF.out.2.2.2.2.1,HF.out.2.2.2.2.2⟩,HF.out.2.2.2.1⟩
theorem equal_c(ao:Option Addr)(l:List Int)(n cap:Nat)(hn:n=l.length)(bo:Option Addr)(m:List Int)(k dap:Nat)(hk:k=m.length)(w:World)(hx:Nd w ao l)(hy:Nd w bo m)(hl:l.length≤1048576):
  Qq 139 #[.slice ao n cap,.slice bo k dap] w (.bool (decide (l=m))):=by
 subst hn hk;by_cases h2:l.length=m.length
 ·have h2':((l.length:Int) != (m.length:Int))=false:=by simp[h2]
  have H2:Hid (l.length=m.length):=h2;have h3:l.length≤m.length:=by omega
  clear h2;go_enter Tryz.func139,Tryz.ntmps139;go_wp2;go_loopw [13] (fun i wr=>∃k:Nat,k≤l.length∧i=.int .i64 k∧Hid (∀j,j<k→gi l j=gi m j)∧Below w.heap.size w wr) (fun i _=>l.length-(intOf i).toNat)
  case atStart=>exact⟨0,by omega,rfl,fun j hj=>absurd hj (by omega),Below.refl _ _⟩
  case round=>
   obtain⟨k,hk,rfl,H,hw⟩:=hrel;by_cases hlt:k<l.length
   ·obtain⟨b,off,rfl,hb,hc⟩:=hx (by omega);obtain⟨d,off2,rfl,hd,hc2⟩:=hy (by omega);have e1:=(hw.cell (p:=⟨b,off+k,none⟩) hb).trans (hc k hlt)
    have e2:=(hw.cell (p:=⟨d,off2+k,none⟩) hd).trans (hc2 k (by omega));have hlt2:k<m.length:=by omega
    have hlt3:(k:Int)<(l.length:Int):=by omega
    have hlt4:(k:Int)<(m.length:Int):=by omega
    clear hc hc2;by_cases hv:gi l k=gi m k
    ·have hne:(gi l k != gi m k)=false:=by simp[hv]
     go_wp2;go_quiet (fail);go_wp2;refine⟨⟨k+1,by omega,by go_num,?_,below_drewN hw _⟩,by simp only[intOf];omega⟩;intro j hj;by_cases e:j=k
     ·subst e;exact hv
     ·exact H.out j (by omega)
    ·have hne:(gi l k != gi m k)=true:=by simp[hv]
     have R:Hid (decide (l=m)=false):=by
      show decide (l=m)=false;simp only[decide_eq_false_iff_not];intro e;subst e;exact hv rfl
     go_wp2;go_quiet (fail);go_wp2;go_ret;rw[R.out];exact⟨rfl,below_drewN hw _⟩
   ·have R:Hid (decide (l=m)=true):=by
     show decide (l=m)=true;simp only[decide_eq_true_eq];exact gi_ext H2.out (fun i hi=>H.out i (by omega))
    go_wp2;go_ret;rw[R.out];exact⟨rfl,hw⟩
 ·have h2':((l.length:Int) != (m.length:Int))=true:=by simp;omega
  have R:Hid (decide (l=m)=false):=by
   show decide (l=m)=false;simp only[decide_eq_false_iff_not];intro e;subst e;exact h2 rfl
  go_enter Tryz.func139,Tryz.ntmps139;go_wp2;go_ret;rw[R.out];exact⟨rfl,Below.refl _ _⟩
end Go.Proofs.YtfnkklkdajlhlaaGreatDoor
