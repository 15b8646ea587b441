import Derived.Test.YtfnkklkdajlhlaaGreatDoorU14
set_option linter.unusedVariables false
set_option linter.unusedSimpArgs false
set_option maxRecDepth 100000
set_option maxHeartbeats 16000000
namespace Go.Proofs.YtfnkklkdajlhlaaGreatDoor
open Go.RowKit Num Bit
def subO(ao:Option Addr)(cap lo:Nat):Option Addr:=
 match ao with
 | none=>none
 | some a=>if cap=lo then some a else some (a.add lo)
theorem nd_sub{w:World}{ao:Option Addr}{l:List Int}{cap:Nat}(h:Nd w ao l)(lo c:Nat)(h1:lo+c≤l.length)(hc:l.length≤cap):Nd w (subO ao cap lo) ((l.drop lo).take c):=by
 intro h0;have hlen:((l.drop lo).take c).length=c:=by simp;omega
 rw[hlen]at h0;obtain⟨b,off,rfl,hb,hcc⟩:=h (by omega)
 have e:subO (some ⟨b,off,none⟩) cap lo=some ⟨b,off+lo,none⟩:=by
  unfold subO;simp only;rw[if_neg (by omega)];congr 1;unfold Addr.add;split
  ·subst_vars;rfl
  ·rfl
 refine⟨b,off+lo,e,hb,fun i hi=>?_⟩;rw[hlen]at hi;rw[gi_take _ _ _ hi,gi_drop,Nat.add_assoc];exact hcc _ (by omega)
theorem nd_arr{w:World}{g:Nat}{xs:List Nat}{G:Nat}(h:Cel w g (iv (ahd (grp xs G))) 142):Nd w (some ⟨g,0,none⟩) (ahT xs G):=by
 intro h0;refine⟨g,0,rfl,h.lt,fun i hi=>?_⟩;rw[length_ahT]at hi;have l8:(grp xs G).length≤8:=by rw[length_grp];omega
 rw[Nat.zero_add,cel_iv h i (by rw[length_ahd];omega)];unfold ahT;rw[gi_take _ _ _ hi]
theorem pchk_bad1(N:Int)(xs:List Nat)(su sb:List Int)(h:chk N xs=false):pchk N xs su sb=false:=by unfold pchk;rw[h];rfl
theorem pchk_bad2(m:Nat)(xs:List Nat)(su sb:List Int)(h:su.length≠m/512+1):pchk (m:Int) xs su sb=false:=by
 cases e:pchk (m:Int) xs su sb with
 | false=>rfl
 | true=>
  obtain⟨_,a,_⟩:=pchk_out _ _ _ _ e;rw[a,length_supL,Int.toNat_natCast]at h;exact absurd rfl h
theorem pchk_bad3(N:Int)(xs:List Nat)(su sb:List Int)(h:sb.length≠xs.length):pchk N xs su sb=false:=by
 cases e:pchk N xs su sb with
 | false=>rfl
 | true=>
  obtain⟨_,_,a⟩:=pchk_out _ _ _ _ e;rw[a,length_subL]at h;exact absurd rfl h
theorem pchk_bad4(m:Nat)(xs:List Nat)(su sb:List Int)(hk:chk (m:Int) xs=true)(G:Nat)(hG:G≤m/512)(h:gi su G≠(cntB xs (512*G):Int)):pchk (m:Int) xs su sb=false:=by
 cases e:pchk (m:Int) xs su sb with
 | false=>rfl
 | true=>
  obtain⟨_,a,_⟩:=pchk_out _ _ _ _ e;refine absurd ?_ h;rw[a];unfold supL;rw[gi_supP _ _ _ _ (by rw[Int.toNat_natCast];omega),supI_ok m xs hk G hG]
theorem sub_part(m:Nat)(xs:List Nat)(hk:chk (m:Int) xs=true)(hl:xs.length=(m+63)/64)(G:Nat):((subL (m:Int) xs).drop (8*G)).take (grp xs G).length=ahT xs G:=by
 have hg:=length_grp xs G;refine gi_ext (by rw[length_ahT,List.length_take,List.length_drop,length_subL];omega) fun i hi=>?_;rw[List.length_take,List.length_drop,length_subL]at hi
 rw[gi_take _ _ _ (by omega),gi_drop,gi_ahT xs G i (by omega),←subI_ok m xs hk hl G i (by omega)];unfold subL;rw[gi_subP _ _ _ _ (by omega)]
theorem pchk_bad5(m:Nat)(xs:List Nat)(su sb:List Int)(hk:chk (m:Int) xs=true)(hl:xs.length=(m+63)/64)(G:Nat)(h:(sb.drop (8*G)).take (grp xs G).length≠ahT xs G):pchk (m:Int) xs su sb=false:=by
 cases e:pchk (m:Int) xs su sb with
 | false=>rfl
 | true=>
  obtain⟨_,_,a⟩:=pchk_out _ _ _ _ e;refine absurd ?_ h;rw[a];exact sub_part m xs hk hl G
def Right(m:Nat)(xs:List Nat)(su sb:List Int)(G:Nat):Prop:=(∀j,j<G→gi su j=supI (m:Int) xs j)∧∀j,j<min (8*G) xs.length→gi sb j=subI (m:Int) xs j
theorem Right.zero(m:Nat)(xs:List Nat)(su sb:List Int):Right m xs su sb 0:=⟨fun j h=>absurd h (by omega),fun j h=>absurd h (by omega)⟩
theorem Right.step(m:Nat)(xs:List Nat)(su sb:List Int)(hk:chk (m:Int) xs=true)(hl:xs.length=(m+63)/64)(G:Nat)(hG:G≤m/512)(h:Right m xs su sb G)(h1:gi su G=(cntB xs (512*G):Int))(h2:(sb.drop (8*G)).take (grp xs G).length=ahT xs G):Right m xs su sb (G+1):=by
 refine⟨fun j hj=>?_,fun j hj=>?_⟩
 ·by_cases c:j=G
  ·subst c;rw[h1,supI_ok m xs hk j hG]
  ·exact h.1 j (by omega)
 ·by_cases c:j<8*G
  ·exact h.2 j (by omega)
  ·have hlg:=length_grp xs G;have a:=gi_ahT xs G (j-8*G) (by omega);rw[←h2,gi_take _ _ _ (by omega),gi_drop,←subI_ok m xs hk hl G (j-8*G) (by omega),show 8*G+(j-8*G)=j by omega]at a;exact a
theorem Right.last(m:Nat)(xs:List Nat)(su sb:List Int)(hk:chk (m:Int) xs=true)(hl:xs.length=(m+63)/64)(hs:su.length=m/512+1)(ht:sb.length=xs.length)(h:Right m xs su sb (m/512+1)):pchk (m:Int) xs su sb=true:=by
 unfold pchk;rw[hk,Bool.true_and,Bool.and_eq_true,decide_eq_true_eq,decide_eq_true_eq];refine⟨gi_ext (by rw[hs,length_supL,Int.toNat_natCast]) fun j hj=>?_,gi_ext (by rw[ht,length_subL]) fun j hj=>?_⟩
 ·unfold supL;rw[gi_supP _ _ _ _ (by rw[Int.toNat_natCast];omega)];exact h.1 j (by omega)
 ·unfold subL;rw[gi_subP _ _ _ _ (by omega)];exact h.2 j (by omega)
theorem check_p(N:Int)(ao:Option Addr)(xs:List Nat)(cap:Nat)(so:Option Addr)(su:List Int)(sc:Nat)(tO:Option Addr)(sb:List Int)(tc:Nat)(w:World)(h:PlIn w N ao xs cap so su sc tO sb tc):
  Calls Tryz.prog 84 #[.agg #[.int .i64 N,.slice ao xs.length cap,.slice so su.length sc,.slice tO sb.length tc]] w fun e w'=>e=.returned (.bool (pchk N xs su sb))∧Below w.heap.size w w':=by
 obtain⟨W,hW⟩:∃W,W=w.alloc (.cells #[.int .i64 N,.slice ao xs.length cap,.slice so su.length sc,.slice tO sb.length tc] 37):=⟨_,rfl⟩;have bW:=yb1 hW;have B1:=yc1 hW;cases hk:chk N xs with
 | false=>
  have R:Hid (pchk N xs su sb=false):=pchk_bad1 N xs su sb hk;rw[R.out]
  have C1:Hid (∀w0,Below w.heap.size w w0→Calls Tryz.prog 92 #[.agg #[.int .i64 N,.slice ao xs.length cap]] w0 fun e w'=>e=.returned (.bool false)∧Below w0.heap.size w0 w'):=fun w0 hb=>by
   have:=check_c N ao xs cap w0 (h.x.keep hb);rw[hk]at this;exact this
  clear h;go_enter Tryz.func84,Tryz.ntmps84;go_wp2;rw[←hW];clear hW;refine region_g [] (fun w'=>Cel w' w.heap.size [.int .i64 N,.slice ao xs.length cap,.slice so su.length sc,.slice tO sb.length tc] 37) (by kernel_rfl) ?_
  have hS:Cel W.drew w.heap.size [.int .i64 N,.slice ao xs.length cap,.slice so su.length sc,.slice tO sb.length tc] 37:=B1;have bV:Below w.heap.size w W.drew:=bW.drew;generalize W.drew=V at *;clear B1 bW
  refine AnyG.tk 0 hS ?_;refine AnyG.tf 1 hS rfl (fun w0 h0=>by have c0:=h0.cell 0 rfl;have c1:=h0.cell 1 rfl;go_simp;try with_reducible rfl) ?_;refine AnyG.o1 2 ?_;intro K hK;go_simp;refine(C1.out _ bV).mono ?_
  rintro e w2 ⟨rfl,hb⟩;have hS2:=hS.kept hb;have bw2:=bV.trans (hb.mono bV.size);refine hK.out _ _ (fun _=>hS2) ?_;clear hK K;try simp only[Act.put,yq0,yq1,yq2,yq3,yq4,yq5]
  refine AnyG.tk 3 hS2 ?_;refine AnyG.tk 4 hS2 ?_;refine AnyG.sk 5 hS2 ?_;refine AnyG.sk 6 hS2 ?_;refine AnyG.sk 7 hS2 ?_;refine AnyG.sk 8 hS2 ?_;refine AnyG.sk 9 hS2 ?_;refine AnyG.sk 10 hS2 ?_;refine AnyG.sk 11 hS2 ?_
  refine AnyG.tk 12 hS2 ?_;refine AnyG.tk 13 hS2 ?_;refine AnyG.sk 14 hS2 ?_;refine AnyG.sk 15 hS2 ?_;refine AnyG.sk 16 hS2 ?_;refine AnyG.sk 17 hS2 ?_;refine AnyG.sk 18 hS2 ?_;refine AnyG.sk 19 hS2 ?_;refine AnyG.sk 20 hS2 ?_
  refine AnyG.sk 21 hS2 ?_;refine AnyG.tk 22 hS2 ?_;refine AnyG.done (by kernel_rfl) ?_ _;clear hS2 hS hb bV C1 V;go_wp2;go_ret;exact⟨rfl,bw2⟩
 | true=>
  obtain⟨m,rfl,hm,hl⟩:=chk_len N xs hk
  have C1:Hid (∀w0,Below w.heap.size w w0→Calls Tryz.prog 92 #[.agg #[.int .i64 (m:Int),.slice ao xs.length cap]] w0 fun e w'=>e=.returned (.bool true)∧Below w0.heap.size w0 w'):=fun w0 hb=>by
   have:=check_c (m:Int) ao xs cap w0 (h.x.keep hb);rw[hk]at this;exact this
  have C3:Hid (∀w0,Calls Tryz.prog 94 #[.agg #[.int .i64 (m:Int),.slice ao xs.length cap]] w0 fun e w'=>e=.returned (.int .i64 ((m/512+1:Nat):Int))∧Below w0.heap.size w0 w'):=fun w0=>groups_c m hm ao xs.length cap w0
  obtain⟨M,hM⟩:∃M,Hid (M=m/512+1):=⟨_,rfl⟩;rw[←hM.out]at C3;have hMb:M≤2049:=by have:=hM.out;omega
  have HL:Hid (xs.length=(m+63)/64):=hl;have hlx:xs.length≤16384:=by omega
  clear hl;by_cases h1:su.length=M
  ·have h1':((su.length:Int) != (M:Int))=false:=by simp[h1]
   by_cases h2:sb.length=xs.length
   ·have h2':((sb.length:Int) != (xs.length:Int))=false:=by simp[h2]
    have H2:Hid (sb.length=xs.length):=h2;have H1:Hid (su.length=M):=h1
    have C4:Hid (∀(G:Nat) w0,G≤m/512→Below w.heap.size w w0→Calls Tryz.prog 95 #[.agg #[.int .i64 (m:Int),.slice ao xs.length cap],.int .i64 (G:Int)] w0 fun e w'=>∃bo bc,e=.returned (.slice bo (grp xs G).length bc)∧Wd w' bo (grp xs G)∧Below w0.heap.size w0 w'):=fun G w0 hG hb=>wordsOf_c m hm ao xs cap HL.out h.c G hG w0 (h.x.keep hb)
    clear h1 h2;go_enter Tryz.func84,Tryz.ntmps84;go_wp2;rw[←hW];clear hW
    refine region_g [] (fun w'=>Cel w' w.heap.size [.int .i64 (m:Int),.slice ao xs.length cap,.slice so su.length sc,.slice tO sb.length tc] 37) (by kernel_rfl) ?_
    have hS:Cel W.drew w.heap.size [.int .i64 (m:Int),.slice ao xs.length cap,.slice so su.length sc,.slice tO sb.length tc] 37:=B1;have bV:Below w.heap.size w W.drew:=bW.drew;generalize W.drew=V at *;clear B1 bW
    refine AnyG.tk 0 hS ?_;refine AnyG.tf 1 hS rfl (fun w0 h0=>by have c0:=h0.cell 0 rfl;have c1:=h0.cell 1 rfl;go_simp;try with_reducible rfl) ?_;refine AnyG.o1 2 ?_;intro K hK;go_simp;refine(C1.out _ bV).mono ?_
    rintro e w2 ⟨rfl,hb⟩;have hS2:=hS.kept hb;have bw2:=bV.trans (hb.mono bV.size);refine hK.out _ _ (fun _=>hS2) ?_;clear hK K;try simp only[Act.put,yq0,yq1,yq2,yq3,yq4,yq5]
    refine AnyG.tk 3 hS2 ?_;refine AnyG.tk 4 hS2 ?_;refine AnyG.tk 5 hS2 ?_;refine AnyG.tf 6 hS2 rfl (fun w0 h0=>by have c0:=h0.cell 2 rfl;go_simp;try with_reducible rfl) ?_;refine AnyG.tk 7 hS2 ?_;refine AnyG.tk 8 hS2 ?_
    refine AnyG.tf 9 hS2 rfl (fun w0 h0=>by have c0:=h0.cell 0 rfl;have c1:=h0.cell 1 rfl;go_simp;try with_reducible rfl) ?_;refine AnyG.o1 10 ?_;intro K hK;go_simp;refine(C3.out _).mono ?_;rintro e w3 ⟨rfl,hb3⟩
    have hS3:=hS2.kept hb3;have bw3:=bw2.trans (hb3.mono bw2.size);refine hK.out _ _ (fun _=>hS3) ?_;clear hK K;try simp only[Act.put,yq0,yq1,yq2,yq3,yq4,yq5]
    refine AnyG.tk 11 hS3 ?_;refine AnyG.tk 12 hS3 ?_;refine AnyG.tk 13 hS3 ?_;refine AnyG.tk 14 hS3 ?_;refine AnyG.tf 15 hS3 rfl (fun w0 h0=>by have c0:=h0.cell 3 rfl;go_simp;try with_reducible rfl) ?_
    refine AnyG.tk 16 hS3 ?_;refine AnyG.tk 17 hS3 ?_;refine AnyG.tk 18 hS3 ?_;refine AnyG.tf 19 hS3 rfl (fun w0 h0=>by have c0:=h0.cell 1 rfl;go_simp;try with_reducible rfl) ?_;refine AnyG.tk 20 hS3 ?_
    refine AnyG.tk 21 hS3 ?_;refine AnyG.tk 22 hS3 ?_;refine AnyG.done (by kernel_rfl) ?_ _;clear hS2 hS hb hb3 bV bw2 C1 w2 V;have q0:=hS3.cell 0 rfl;have q1:=hS3.cell 1 rfl;go_wp2_with fail;refine(C3.out _).mono ?_
    rintro e w4 ⟨rfl,hb⟩;have hS4:=hS3.kept hb;have bw4:=bw3.trans (hb.mono bw3.size);clear hb q0 q1 C3 hS3 bw3;go_wp2
    go_loopw [3,34] (fun t s wr=>∃G:Nat,G≤M∧s=.int .i64 G∧t=.int .i64 (cntB xs (512*G):Nat)∧Hid (Right m xs su sb G)∧Cel wr w.heap.size [.int .i64 (m:Int),.slice ao xs.length cap,.slice so su.length sc,.slice tO sb.length tc] 37∧Below w.heap.size w wr) (fun _ s _=>M-(intOf s).toNat)
    case atStart=>exact⟨0,Nat.zero_le _,rfl,rfl,Right.zero m xs su sb,hS4,bw4⟩
    case round=>
     obtain⟨G,hG,rfl,rfl,HR,hc,hbr⟩:=hrel;clear hS4 bw4;have q0:=hc.cell 0 rfl;have q1:=hc.cell 1 rfl;by_cases hlt:G<M
     ·have hlt2:(G:Int)<(M:Int):=by omega
      have hG2:G≤m/512:=by have:=hM.out;omega
      go_wp2_with fail;refine(C4.out G _ hG2 hbr).mono ?_;rintro e w5 ⟨wo,wc,rfl,hww,hb⟩;have hc5:=hc.kept hb;have bw5:=hbr.trans (hb.mono hbr.size);clear hb hc hbr q0 q1
      have C5:Hid (∀w0,w0=w5→Calls Tryz.prog 96 #[.slice wo (grp xs G).length wc] w0 fun e w'=>e=.returned (.tuple #[.agg (iv (ahd (grp xs G))).toArray,.int .i64 (cntB (grp xs G) (64*(grp xs G).length):Nat)])∧Below w0.heap.size w0 w'):=fun w0 h0=>by subst h0;exact counted_c wo (grp xs G) wc w0 hww (fit_grp xs h.f G) (by rw[length_grp];omega)
      have hall:=cntB_all xs G;have hc8:(grp xs G).length≤8:=by rw[length_grp];omega
      have hend:8*G+(grp xs G).length≤sb.length:=by rw[length_grp];have:=H2.out;have:=HL.out;omega
      have hlS:G<su.length:=by have:=H1.out;omega
      have lD:=length_ahd (grp xs G);have bZ:=cntB_le xs (512*G);have bA:=cntB_le (grp xs G) (64*(grp xs G).length);have hGb:G≤2048:=by omega
      have B5:=pchk_bad5 m xs su sb hk HL.out G;have B4:=pchk_bad4 m xs su sb hk G hG2
      have ST:Hid (gi su G=(cntB xs (512*G):Int)→(sb.drop (8*G)).take (grp xs G).length=ahT xs G→Right m xs su sb (G+1)):=fun a b=>Right.step m xs su sb hk HL.out G hG2 HR.out a b
      have EQ:Hid (∀w0 ga,Below w.heap.size w w0→Cel w0 ga (iv (ahd (grp xs G))) 142→Calls Tryz.prog 139 #[.slice (subO tO tc (8*G)) (grp xs G).length (tc-8*G),.slice (some ⟨ga,0,none⟩) (grp xs G).length 8] w0 fun e w'=>e=.returned (.bool (decide ((sb.drop (8*G)).take (grp xs G).length=ahT xs G)))∧Below w0.heap.size w0 w'):=by
       intro w0 ga hb hca;refine equal_c _ ((sb.drop (8*G)).take (grp xs G).length) _ _ (by simp;omega) _ (ahT xs G) _ _ (by rw[length_ahT]) w0 (nd_sub (h.t.keep hb) (8*G) _ hend h.tc) (nd_arr hca) (by simp;omega)
      obtain⟨b1,o1,rfl,hb1,hcc1⟩:=h.s (by omega);have hcG:=hcc1 G hlS;have l4:sb.length≤tc:=h.tc;clear hcc1 C4;go_wp2_with fail;refine(C5.out _ rfl).mono ?_;rintro e w6 ⟨rfl,hb⟩;have hc6:=hc5.kept hb
      have bw6:=bw5.trans (hb.mono bw5.size);clear hb C5 hc5 bw5 hww;obtain⟨D,hD⟩:∃D,Hid (D=ahd (grp xs G)):=⟨_,rfl⟩;rw[←hD.out]at lD EQ⊢
      obtain⟨A,hA⟩:∃A,A=cntB (grp xs G) (64*(grp xs G).length):=⟨_,rfl⟩;rw[←hA]at hall bA⊢;obtain⟨Z,hZ⟩:∃Z,Z=cntB xs (512*G):=⟨_,rfl⟩;rw[←hZ]at hall bZ B4 ST⊢
      obtain⟨c,hcl⟩:∃c,c=(grp xs G).length:=⟨_,rfl⟩;rw[←hcl]at hc8 bA hend B5 EQ ST⊢;have HALL:Hid (cntB xs (512*(G+1))=Z+A):=hall;clear hall hA hZ hcl HR;go_wp2_with (refine alloc_arr ?_)
      intro w7 hc7 hb7 hs7;go_wp2_with (refine store_arr w6.heap.size _ _ rfl rfl hc7 (by simp) lD ?_);intro w8 hC8 ho8;have bb8:=hb7.trans (ho8.below (Nat.le_refl _));have hc8b:=hc6.kept bb8
      have bw8:=bw6.trans (bb8.mono bw6.size);clear hb7 hs7 hc7 ho8 bb8 hc6 bw6 w7;generalize w6.heap.size=ga at *;simp only[Act.put,yq3,List.set];go_wp2
      refine region_g [] (fun w'=>Cel w' w.heap.size [.int .i64 (m:Int),.slice ao xs.length cap,.slice (some ⟨b1,o1,none⟩) su.length sc,.slice tO sb.length tc] 37∧w'.cell? ⟨b1,o1+G,none⟩=some (.int .i64 (gi su G))) (by kernel_rfl) ?_
      have hS:Cel w8.drew w.heap.size [.int .i64 (m:Int),.slice ao xs.length cap,.slice (some ⟨b1,o1,none⟩) su.length sc,.slice tO sb.length tc] 37∧w8.drew.cell? ⟨b1,o1+G,none⟩=some (.int .i64 (gi su G)):=⟨hc8b,(bw8.drew.cell (p:=⟨b1,o1+G,none⟩) hb1).trans hcG⟩
      have bV:Below w.heap.size w w8.drew:=bw8.drew;have hCd:Cel w8.drew ga (iv D) 142:=hC8;generalize w8.drew=V at *;have hlS2:(G:Int)<(su.length:Int):=by omega
      have m1:IntKind.i64.wrap ((G:Int)*8)=((8*G:Nat):Int):=by rw[IntKind.wrap_i64];omega
      have m2:IntKind.i64.wrap (((8*G:Nat):Int)+(c:Int))=((8*G+c:Nat):Int):=by rw[IntKind.wrap_i64];omega
      have m2b:IntKind.i64.wrap (8*(G:Int)+(c:Int))=((8*G+c:Nat):Int):=by rw[IntKind.wrap_i64];omega
      have l5:8*G+c≤tc:=by omega
      have l5b:((8*G+c:Nat):Int)≤(tc:Int):=by omega
      have c1:(c:Int)≤8:=by omega
      clear hC8 hc8b bw8 hcG;by_cases v1:gi su G=(Z:Int)
      ·have v1b:(gi su G != (Z:Int))=false:=by simp[v1]
       refine AnyG.tk 0 hS ?_;refine AnyG.tf 1 hS rfl (fun w0 h0=>by have c2:=h0.1.cell 2 rfl;go_simp;try with_reducible rfl) ?_;refine AnyG.tk 2 hS ?_;refine AnyG.tk 3 hS ?_
       refine AnyG.tf 4 hS rfl (fun w0 h0=>by have c2:=h0.2;go_simp;try with_reducible rfl) ?_;refine AnyG.tk 5 hS ?_;refine AnyG.tk 6 hS ?_;refine AnyG.tk 7 hS ?_;refine AnyG.tk 8 hS ?_
       refine AnyG.tf 9 hS rfl (fun w0 h0=>by have c2:=h0.1.cell 3 rfl;go_simp;try with_reducible rfl) ?_;refine AnyG.tk 10 hS ?_;refine AnyG.tk 11 hS ?_;refine AnyG.tk 12 hS ?_;refine AnyG.tk 13 hS ?_
       refine AnyG.tk 14 hS ?_;refine AnyG.tk 15 hS ?_;refine AnyG.tk 16 hS ?_
       refine AnyG.take 17 (v:=.slice (subO tO tc (8*G)) c (tc-8*G)) rfl (by kernel_rfl) (by kernel_rfl) (by kernel_rfl) (by kernel_rfl) (fun _ _ _ h=>h) hS ?hy170 (by rfl) ?rest170
       case hy170=>
        intro w0 h0;have z1:(8*(G:Int)).toNat=8*G:=by omega
        have z2:(8*(G:Int)+(c:Int)).toNat=8*G+c:=by omega
        cases tO with
        | none=>
         go_simp;rw[if_pos ⟨by omega,by omega⟩,if_pos ⟨by omega,by omega⟩];rfl
        | some a0=>
         go_simp;rw[if_pos ⟨by omega,by omega⟩,if_pos ⟨by omega,by omega⟩];rfl
       simp only[Act.put,yq0,yq1,yq2,yq3,yq4,yq5];refine AnyG.tk 18 hS ?_;refine AnyG.tk 19 hS ?_;refine AnyG.tk 20 hS ?_;refine AnyG.o1 21 ?_;intro K hK;go_simp;refine(EQ.out _ ga bV hCd).mono ?_
       rintro e w2 ⟨rfl,hb⟩;have hS2:=And.intro (hS.1.kept hb) ((hb.cell (p:=⟨b1,o1+G,none⟩) (Nat.lt_of_lt_of_le hb1 bV.size)).trans hS.2);have bw2:=bV.trans (hb.mono bV.size);refine hK.out _ _ (fun _=>hS2) ?_
       clear hK K;try simp only[Act.put,yq0,yq1,yq2,yq3,yq4,yq5]
       by_cases v2:(sb.drop (8*G)).take c=ahT xs G
       ·have RR:=ST.out v1 v2;rw[decide_eq_true v2];refine AnyG.tk 22 hS2 ?_;refine AnyG.tk 23 hS2 ?_;refine AnyG.done (by kernel_rfl) ?_ _;have HR2:Hid (Right m xs su sb (G+1)):=RR
        clear RR ST EQ B5 B4 hCd hS bV hb;go_wp2;refine⟨⟨G+1,by omega,by go_num,?_,HR2,hS2.1,bw2⟩,by simp only[intOf];omega⟩;rw[HALL.out];go_num
       ·have RF:Hid (pchk (m:Int) xs su sb=false):=B5 v2;rw[decide_eq_false v2];refine AnyG.tk 22 hS2 ?_;refine AnyG.tk 23 hS2 ?_;refine AnyG.done (by kernel_rfl) ?_ _;clear ST EQ B5 B4 hCd hS bV hb;go_wp2;go_ret
        rw[RF.out];exact⟨rfl,bw2⟩
      ·have v1b:(gi su G != (Z:Int))=true:=by simp[v1]
       have RF:Hid (pchk (m:Int) xs su sb=false):=B4 v1;refine AnyG.tk 0 hS ?_;refine AnyG.tf 1 hS rfl (fun w0 h0=>by have c2:=h0.1.cell 2 rfl;go_simp;try with_reducible rfl) ?_;refine AnyG.tk 2 hS ?_
       refine AnyG.tk 3 hS ?_;refine AnyG.tf 4 hS rfl (fun w0 h0=>by have c2:=h0.2;go_simp;try with_reducible rfl) ?_;refine AnyG.tk 5 hS ?_;refine AnyG.tk 6 hS ?_;refine AnyG.tk 7 hS ?_;refine AnyG.sk 8 hS ?_
       refine AnyG.sk 9 hS ?_;refine AnyG.sk 10 hS ?_;refine AnyG.sk 11 hS ?_;refine AnyG.sk 12 hS ?_;refine AnyG.sk 13 hS ?_;refine AnyG.sk 14 hS ?_;refine AnyG.sk 15 hS ?_;refine AnyG.sk 16 hS ?_;refine AnyG.sk 17 hS ?_
       refine AnyG.sk 18 hS ?_;refine AnyG.sk 19 hS ?_;refine AnyG.sk 20 hS ?_;refine AnyG.sk 21 hS ?_;refine AnyG.sk 22 hS ?_;refine AnyG.tk 23 hS ?_;refine AnyG.done (by kernel_rfl) ?_ _;clear ST EQ B5 B4 hCd hS;go_wp2
       go_ret;rw[RF.out];exact⟨rfl,bV⟩
     ·obtain rfl:G=M:=by omega
      have hlt2:¬(G:Int)<(G:Int):=by omega
      have RT:Hid (pchk (m:Int) xs su sb=true):=by
       have a:=HR.out;have b:=H1.out;rw[hM.out]at a b;exact Right.last m xs su sb hk HL.out b H2.out a
      clear q0 q1;go_wp2;go_ret;rw[RT.out];exact⟨rfl,hbr⟩
   ·have h2':((sb.length:Int) != (xs.length:Int))=true:=by simp;omega
    have R:Hid (pchk (m:Int) xs su sb=false):=pchk_bad3 _ xs su sb h2;rw[R.out];clear h1 h2 h;go_enter Tryz.func84,Tryz.ntmps84;go_wp2;rw[←hW];clear hW
    refine region_g [] (fun w'=>Cel w' w.heap.size [.int .i64 (m:Int),.slice ao xs.length cap,.slice so su.length sc,.slice tO sb.length tc] 37) (by kernel_rfl) ?_
    have hS:Cel W.drew w.heap.size [.int .i64 (m:Int),.slice ao xs.length cap,.slice so su.length sc,.slice tO sb.length tc] 37:=B1;have bV:Below w.heap.size w W.drew:=bW.drew;generalize W.drew=V at *;clear B1 bW
    refine AnyG.tk 0 hS ?_;refine AnyG.tf 1 hS rfl (fun w0 h0=>by have c0:=h0.cell 0 rfl;have c1:=h0.cell 1 rfl;go_simp;try with_reducible rfl) ?_;refine AnyG.o1 2 ?_;intro K hK;go_simp;refine(C1.out _ bV).mono ?_
    rintro e w2 ⟨rfl,hb⟩;have hS2:=hS.kept hb;have bw2:=bV.trans (hb.mono bV.size);refine hK.out _ _ (fun _=>hS2) ?_;clear hK K;try simp only[Act.put,yq0,yq1,yq2,yq3,yq4,yq5]
    refine AnyG.tk 3 hS2 ?_;refine AnyG.tk 4 hS2 ?_;refine AnyG.tk 5 hS2 ?_;refine AnyG.tf 6 hS2 rfl (fun w0 h0=>by have c0:=h0.cell 2 rfl;go_simp;try with_reducible rfl) ?_;refine AnyG.tk 7 hS2 ?_;refine AnyG.tk 8 hS2 ?_
    refine AnyG.tf 9 hS2 rfl (fun w0 h0=>by have c0:=h0.cell 0 rfl;have c1:=h0.cell 1 rfl;go_simp;try with_reducible rfl) ?_;refine AnyG.o1 10 ?_;intro K hK;go_simp;refine(C3.out _).mono ?_;rintro e w3 ⟨rfl,hb3⟩
    have hS3:=hS2.kept hb3;have bw3:=bw2.trans (hb3.mono bw2.size);refine hK.out _ _ (fun _=>hS3) ?_;clear hK K;try simp only[Act.put,yq0,yq1,yq2,yq3,yq4,yq5]
    refine AnyG.tk 11 hS3 ?_;refine AnyG.tk 12 hS3 ?_;refine AnyG.tk 13 hS3 ?_;refine AnyG.tk 14 hS3 ?_;refine AnyG.tf 15 hS3 rfl (fun w0 h0=>by have c0:=h0.cell 3 rfl;go_simp;try with_reducible rfl) ?_
    refine AnyG.tk 16 hS3 ?_;refine AnyG.tk 17 hS3 ?_;refine AnyG.tk 18 hS3 ?_;refine AnyG.tf 19 hS3 rfl (fun w0 h0=>by have c0:=h0.cell 1 rfl;go_simp;try with_reducible rfl) ?_;refine AnyG.tk 20 hS3 ?_
    refine AnyG.tk 21 hS3 ?_;refine AnyG.tk 22 hS3 ?_;refine AnyG.done (by kernel_rfl) ?_ _;clear hS2 hS hb hb3 bV bw2 C1 C3 hS3;go_wp2;go_ret;exact⟨rfl,bw3⟩
  ·have h1':((su.length:Int) != (M:Int))=true:=by simp;omega
   have R:Hid (pchk (m:Int) xs su sb=false):=pchk_bad2 m xs su sb (by rw[←hM.out];exact h1);rw[R.out];clear h1 h;go_enter Tryz.func84,Tryz.ntmps84;go_wp2;rw[←hW];clear hW
   refine region_g [] (fun w'=>Cel w' w.heap.size [.int .i64 (m:Int),.slice ao xs.length cap,.slice so su.length sc,.slice tO sb.length tc] 37) (by kernel_rfl) ?_
   have hS:Cel W.drew w.heap.size [.int .i64 (m:Int),.slice ao xs.length cap,.slice so su.length sc,.slice tO sb.length tc] 37:=B1;have bV:Below w.heap.size w W.drew:=bW.drew;generalize W.drew=V at *;clear B1 bW
   refine AnyG.tk 0 hS ?_;refine AnyG.tf 1 hS rfl (fun w0 h0=>by have c0:=h0.cell 0 rfl;have c1:=h0.cell 1 rfl;go_simp;try with_reducible rfl) ?_;refine AnyG.o1 2 ?_;intro K hK;go_simp;refine(C1.out _ bV).mono ?_
   rintro e w2 ⟨rfl,hb⟩;have hS2:=hS.kept hb;have bw2:=bV.trans (hb.mono bV.size);refine hK.out _ _ (fun _=>hS2) ?_;clear hK K;try simp only[Act.put,yq0,yq1,yq2,yq3,yq4,yq5]
   refine AnyG.tk 3 hS2 ?_;refine AnyG.tk 4 hS2 ?_;refine AnyG.tk 5 hS2 ?_;refine AnyG.tf 6 hS2 rfl (fun w0 h0=>by have c0:=h0.cell 2 rfl;go_simp;try with_reducible rfl) ?_;refine AnyG.tk 7 hS2 ?_;refine AnyG.tk 8 hS2 ?_
   refine AnyG.tf 9 hS2 rfl (fun w0 h0=>by have c0:=h0.cell 0 rfl;have c1:=h0.cell 1 rfl;go_simp;try with_reducible rfl) ?_;refine AnyG.o1 10 ?_;intro K hK;go_simp;refine(C3.out _).mono ?_;rintro e w3 ⟨rfl,hb3⟩
   have hS3:=hS2.kept hb3;have bw3:=bw2.trans (hb3.mono bw2.size);refine hK.out _ _ (fun _=>hS3) ?_;clear hK K;try simp only[Act.put,yq0,yq1,yq2,yq3,yq4,yq5]
   refine AnyG.tk 11 hS3 ?_;refine AnyG.tk 12 hS3 ?_;refine AnyG.tk 13 hS3 ?_;refine AnyG.sk 14 hS3 ?_;refine AnyG.sk 15 hS3 ?_;refine AnyG.sk 16 hS3 ?_;refine AnyG.sk 17 hS3 ?_;refine AnyG.sk 18 hS3 ?_;refine AnyG.sk 19 hS3 ?_
   refine AnyG.sk 20 hS3 ?_;refine AnyG.sk 21 hS3 ?_;refine AnyG.tk 22 hS3 ?_;refine AnyG.done (by kernel_rfl) ?_ _;clear hS2 hS hb hb3 bV bw2 C1 C3 hS3;go_wp2;go_ret;exact⟨rfl,bw3⟩
theorem count_c(m:Nat)(ao:Option Addr)(xs:List Nat)(cap:Nat)(so:Option Addr)(su:List Int)(sc:Nat)(tO:Option Addr)(sb:List Int)(tc:Nat)(bit:Bool)(i:Nat)(w:World)(h:PlIn w (m:Int) ao xs cap so su sc tO sb tc)(hp:pchk (m:Int) xs su sb=true)(hi:i≤m):
  Calls Tryz.prog 133 #[.agg #[.int .i64 (m:Int),.slice ao xs.length cap,.slice so su.length sc,.slice tO sb.length tc],.bool bit,.int .i64 i] w fun e w'=>e=.returned (.int .i64 ((cB xs bit i:Nat):Int))∧Below w.heap.size w w':=by
 obtain⟨m',e0,hm,hl,hk,hsu,hsb⟩:=pchk_nat _ _ _ _ hp;obtain rfl:m=m':=by omega
 clear e0;by_cases h0:i=0
 ·subst h0;have R:Hid (cB xs bit 0=0):=by show cB xs bit 0=0;have:=cB_le xs bit 0;omega
  rw[R.out];cases bit with
  | true=>
   go_enter Tryz.func133,Tryz.ntmps133;go_wp2;go_ret;exact⟨rfl,below_alloc w _⟩
  | false=>
   go_enter Tryz.func133,Tryz.ntmps133;go_wp2;go_ret;exact⟨rfl,below_alloc w _⟩
 ·obtain⟨j,hj⟩:∃j:Nat,j=(i-1)/64:=⟨_,rfl⟩;obtain⟨r,hr⟩:∃r:Nat,r=i-64*j:=⟨_,rfl⟩;have hij:i=64*j+r:=by omega
  have r0:0<r:=by omega
  have r1:r≤64:=by omega
  have lx:j<xs.length:=by omega
  have ls:j/8<su.length:=by rw[hsu,length_supL,Int.toNat_natCast];omega
  have lt:j<sb.length:=by rw[hsb,length_subL];exact lx
  have hcnt:=count_ok m xs h.f hk hl j r r0 r1 (by omega);have eY:gi su (j/8)=supI (m:Int) xs (j/8):=by rw[hsu];unfold supL;rw[gi_supP _ _ _ _ (by rw[Int.toNat_natCast];omega)]
  have eS:gi sb j=subI (m:Int) xs j:=by rw[hsb];unfold subL;rw[gi_subP _ _ _ _ lx]
  have bY:=supI_bound (m:Int) xs (j/8);have bS:=subI_bound (m:Int) xs j;have bR:=rank_bounds (gt xs j:Int) (r:Int);have bC:=cntB_le xs i;obtain⟨b1,o1,rfl,hb1,hc1⟩:=h.s (by omega)
  obtain⟨b2,o2,rfl,hb2,hc2⟩:=h.t (by omega);obtain⟨b3,o3,rfl,hb3,hc3⟩:=h.x (by omega)
  obtain⟨W,hW⟩:∃W,W=w.alloc (.cells #[.int .i64 (m:Int),.slice (some ⟨b3,o3,none⟩) xs.length cap,.slice (some ⟨b1,o1,none⟩) su.length sc,.slice (some ⟨b2,o2,none⟩) sb.length tc] 37):=⟨_,rfl⟩
  have bW:=yb1 hW;have B1:=yc1 hW;have x1:=B1.cell 1 rfl;have x2:=B1.cell 2 rfl;have x3:=B1.cell 3 rfl;have y1:=(bW.cell (p:=⟨b1,o1+j/8,none⟩) hb1).trans (hc1 _ ls)
  have y2:=(bW.cell (p:=⟨b2,o2+j,none⟩) hb2).trans (hc2 _ lt);have y3:=(bW.cell (p:=⟨b3,o3+j,none⟩) hb3).trans (hc3 _ lx);rw[eY]at y1;rw[eS]at y2;have hX:=h.f j
  obtain⟨Y,hY⟩:∃Y,Hid (Y=supI (m:Int) xs (j/8)):=⟨_,rfl⟩;obtain⟨S,hS⟩:∃S,Hid (S=subI (m:Int) xs j):=⟨_,rfl⟩;obtain⟨K,hK⟩:∃K,Hid (K=rankI (gt xs j:Int) (r:Int)):=⟨_,rfl⟩
  have C:Hid (∀w0,Calls Tryz.prog 160 #[.int .u64 (gt xs j:Int),.int .i64 (r:Int)] w0 fun e w'=>e=.returned (.int .i64 K)∧w'=w0):=by
   intro w0;have:=rank_c (gt xs j:Int) (r:Int) (Int.natCast_nonneg _) (Int.ofNat_lt.2 hX) w0;rw[hK.out];exact this
  rw[←hY.out]at y1 bY hcnt;rw[←hS.out]at y2 bS hcnt;rw[←hK.out]at bR hcnt;rw[←hij]at hcnt;obtain⟨c,hc⟩:∃c,c=cntB xs i:=⟨_,rfl⟩;rw[←hc]at hcnt bC
  have R:Hid (cB xs bit i=if bit then c else i-c):=by show cB xs bit i=_;unfold cB;rw[hc]
  have HB:Hid (Below w.heap.size w W):=bW;have q1:((i:Int)-1)/64=(j:Int):=by omega
  have q8:(j:Int)/8<(su.length:Int):=by omega
  have e8:((j:Int)/8).toNat=j/8:=by omega
  have w8:IntKind.i64.wrap ((j:Int)/8)=(j:Int)/8:=by rw[IntKind.wrap_i64];omega
  have p8:(0:Int)≤(j:Int)/8:=by omega
  have lt2:(j:Int)<(sb.length:Int):=by omega
  have lx2:(j:Int)<(xs.length:Int):=by omega
  have m1:IntKind.i64.wrap ((j:Int)*64)=(j:Int)*64:=by rw[IntKind.wrap_i64];omega
  have m2:IntKind.i64.wrap ((i:Int)-(j:Int)*64)=(r:Int):=by rw[IntKind.wrap_i64];omega
  have m3:IntKind.i64.wrap (Y+S)=Y+S:=by rw[IntKind.wrap_i64];omega
  have m4:IntKind.i64.wrap (Y+S+K)=(c:Int):=by rw[IntKind.wrap_i64];omega
  have i0:(0:Int)<(i:Int):=by omega
  have i1:i≤1048576:=by omega
  clear hc1 hc2 hc3 h hp hl hk hsu hsb hcnt bY bS bR eY eS hj hr hij B1 bW hc;rw[R.out];clear R hY hS hK;cases bit with
  | true=>
   go_enter Tryz.func133,Tryz.ntmps133;go_wp2;rw[←hW];clear hW;go_quiet ((go_at_call 160;exact Calls.quiet_of_same (C.out _)));go_wp2;go_ret;exact⟨rfl,below_drewN HB.out _⟩
  | false=>
   go_enter Tryz.func133,Tryz.ntmps133;go_wp2;rw[←hW];clear hW;go_quiet ((go_at_call 160;exact Calls.quiet_of_same (C.out _)));go_wp2;go_ret;refine⟨ret_int ?_,below_drewN HB.out _⟩
   try simp only[Bool.false_eq_true,if_false]
   omega
end Go.Proofs.YtfnkklkdajlhlaaGreatDoor
